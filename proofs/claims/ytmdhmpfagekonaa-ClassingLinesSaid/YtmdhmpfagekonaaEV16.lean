/- A run of closed code, cut in pieces: what a call was found to answer is looked up where it comes again. -/
import Derived.Test.YtmdhmpfagekonaaEV15
namespace Go.Proofs.Ytmdhmpfagekonaa.Ev
open Go.RowKit
set_option linter.unusedVariables false
set_option linter.unusedSimpArgs false

/-- A call that was gone through: the function, what it was given, the memory before it, the next name, and what came of it. -/
structure Entry where
  g : Nat
  args : List Value
  H : Tr Blk
  n : Nat
  outs : List Out

noncomputable def Entry.fits (e : Entry) (g : Nat) (args : List Value) (H : Tr Blk) (n : Nat) : Bool :=
  Nat.beq e.g g && (Nat.beq e.n n && (eqL eqV e.args args && eqT eqBlk e.H H))
theorem Entry.fits_ok {e : Entry} {g : Nat} {args : List Value} {H : Tr Blk} {n : Nat} (h : e.fits g args H n = true) : e.g = g ∧ e.n = n ∧ e.args = args ∧ e.H = H := by
  unfold Entry.fits at h
  simp only [Bool.and_eq_true] at h
  obtain ⟨h1, h2, h3, h4⟩ := h
  exact ⟨Nat.eq_of_beq_eq_true h1, Nat.eq_of_beq_eq_true h2, eqL_ok (fun h => eqV_ok h) h3, eqT_ok eqBlk_ok h4⟩

def EntryOk (P : Program) (q : Nat → Bool) (e : Entry) : Prop := Said P e.g e.args e.H e.outs ∧ (q e.g = true → ∀ x ∈ e.outs, x.2.1 = e.H)
def TabOk (P : Program) (q : Nat → Bool) (tab : List Entry) : Prop := ∀ e ∈ tab, EntryOk P q e
theorem TabOk.nil (P : Program) (q : Nat → Bool) : TabOk P q [] := by intro e h; cases h
theorem TabOk.cons {P : Program} {q : Nat → Bool} {e : Entry} {tab : List Entry} (h : EntryOk P q e) (t : TabOk P q tab) : TabOk P q (e :: tab) := by
  intro x hx
  rcases List.mem_cons.1 hx with rfl | hx
  · exact h
  · exact t x hx

/-- Calls without arguments that say true in any memory, and leave it. -/
def KnownOk (P : Program) (known : Nat → Bool) : Prop := ∀ g, known g = true → Enters P g ∧ ∀ w, Calls P g #[] w fun e w' => e = .returned (.bool true) ∧ Below w.heap.size w w'
theorem KnownOk.none (P : Program) : KnownOk P fun _ => false := by intro g h; cases h
theorem Rel.below {w0 : World} {m : Names} {H : Tr Blk} {w w' : World} (r : Rel w0 m H w) (b : Below w.heap.size w w') : Rel w0 m H w' := by
  refine ⟨r.bel.trans (b.mono r.bel.size), r.fine, r.dom, fun b' B hB hl => ?_, r.inj, r.oth.keep (.refl m) (fun _ _ h _ => h) (fun C x hx _ => by rw [b.block C (Array.getElem?_eq_some_iff.1 hx).1]; exact hx)⟩
  obtain ⟨C, k, R, c, a1, a2, a3, a4⟩ := r.blk b' B hB hl
  exact ⟨C, k, R, c, a1, a2, by rw [b.block C (r.old hB hl a1)]; exact a3, a4⟩
theorem known_said {P : Program} {known : Nat → Bool} (hk : KnownOk P known) {g : Nat} (h : known g = true) (hlt : g < yieldBase) (H : Tr Blk) (n : Nat) : Said P g [] H [(.bool true, H, n)] := by
  obtain ⟨h1, h2⟩ := hk g h
  refine .inl ⟨hlt, h1, fun w0 m w args' r hv => ?_⟩
  cases hv
  refine (h2 w).mono ?_
  rintro e w' ⟨rfl, hb⟩
  exact ⟨_, rfl, _, List.mem_singleton.2 rfl, m, .refl m, r.below hb, .bool true⟩

noncomputable def memo (known : Nat → Bool) (tab : List Entry) (call : CallT) : CallT := fun g args H n =>
  bif (match args with | [] => known g && Nat.blt g yieldBase | _ => false) then some [(.bool true, H, n)] else
  match tab.find? (fun e => e.fits g args H n) with
  | some e => some e.outs
  | none => call g args H n
theorem memo_inv {known : Nat → Bool} {tab : List Entry} {call : CallT} {g : Nat} {args : List Value} {H : Tr Blk} {n : Nat} {outs : List Out} (h : memo known tab call g args H n = some outs) :
    (args = [] ∧ (known g = true ∧ g < yieldBase) ∧ outs = [(.bool true, H, n)]) ∨ (∃ e ∈ tab, e.g = g ∧ e.args = args ∧ e.H = H ∧ e.outs = outs) ∨ call g args H n = some outs := by
  unfold memo at h
  cases hk : (match args with | [] => known g && Nat.blt g yieldBase | _ => false) with
  | true =>
    rw [hk] at h
    cases h
    cases args with
    | nil =>
      simp only [Bool.and_eq_true, Nat.blt_eq] at hk
      exact .inl ⟨rfl, hk, rfl⟩
    | cons x r => cases hk
  | false =>
    rw [hk] at h
    simp only [cond_false] at h
    split at h
    · rename_i e he
      cases h
      obtain ⟨a, b, c, d⟩ := Entry.fits_ok (List.find?_some (p := fun e => Entry.fits e g args H n) he)
      exact .inr (.inl ⟨e, List.mem_of_find?_eq_some he, a, c, d, rfl⟩)
    · exact .inr (.inr h)
theorem memo_ok {P : Program} {q known : Nat → Bool} (hk : KnownOk P known) {tab : List Entry} {call : CallT} (ht : TabOk P q tab) (hc : CallOk P call) : CallOk P (memo known tab call) := by
  intro g args H n outs h
  rcases memo_inv h with ⟨rfl, h1, rfl⟩ | ⟨e, he, rfl, rfl, rfl, rfl⟩ | h
  · exact known_said hk h1.1 h1.2 H n
  · exact (ht e he).1
  · exact hc g args H n outs h
theorem memo_H {P : Program} {q known : Nat → Bool} {tab : List Entry} {call : CallT} (ht : TabOk P q tab) (hc : QuietOk call q) : QuietOk (memo known tab call) q := by
  intro g hg args H n outs h
  rcases memo_inv h with ⟨rfl, h1, rfl⟩ | ⟨e, he, rfl, rfl, rfl, rfl⟩ | h
  · intro x hx; simp only [List.mem_singleton] at hx; subst hx; rfl
  · exact (ht e he).2 hg
  · exact hc g hg args H n outs h

noncomputable def evM (P : Program) (ext q known : Nat → Bool) (tab : List Entry) : Nat → CodeT
  | 0 => fun _ _ _ => none
  | n + 1 => evStep (memo known tab (callOf P ext (evM P ext q known tab n))) q (evM P ext q known tab n) P
theorem evM_H {P : Program} {ext q known : Nat → Bool} (hqf : ∀ g, q g = true → quietFn P q g = true) {tab : List Entry} (ht : TabOk P q tab) : ∀ n, QuietIh q (evM P ext q known tab n)
  | 0 => by intro N c st outs _ h; simp [evM] at h
  | n + 1 => evStep_H (memo_H ht (callOf_H hqf (evM_H hqf ht n))) (evM_H hqf ht n)
theorem evM_ok {P : Program} (hm : P.follows .mixedOrders = true) {ext q known : Nat → Bool} (hx : ExtOk P ext) (hqf : ∀ g, q g = true → quietFn P q g = true) (hk : KnownOk P known) {tab : List Entry} (ht : TabOk P q tab) : ∀ n, CodeOk P (evM P ext q known tab n)
  | 0 => by intro N c st outs h; simp [evM] at h
  | n + 1 => evStep_ok hm (memo_H ht (callOf_H hqf (evM_H hqf ht n))) (memo_ok hk ht (callOf_ok hx (evM_ok hm hx hqf hk ht n))) (evM_ok hm hx hqf hk ht n)

noncomputable def eqOut (a b : Out) : Bool := Nat.beq a.2.2 b.2.2 && (eqV a.1 b.1 && eqT eqBlk a.2.1 b.2.1)
theorem eqOut_ok {a b : Out} (h : eqOut a b = true) : a = b := by
  obtain ⟨v, H, n⟩ := a
  obtain ⟨v', H', n'⟩ := b
  unfold eqOut at h
  simp only [Bool.and_eq_true] at h
  obtain ⟨h1, h2, h3⟩ := h
  rw [Nat.eq_of_beq_eq_true h1, eqV_ok h2, eqT_ok eqBlk_ok h3]
/-- Each outcome is the one that is named. -/
noncomputable def allOne (b : Out) : List Out → Bool
  | [] => true
  | x :: r => eqOut x b && allOne b r
theorem allOne_ok {b : Out} : ∀ {l : List Out}, allOne b l = true → ∀ x ∈ l, x = b
  | [], _, x, hx => by cases hx
  | y :: r, h, x, hx => by
    simp only [allOne, Bool.and_eq_true] at h
    rcases List.mem_cons.1 hx with rfl | hx
    · exact eqOut_ok h.1
    · exact allOne_ok h.2 x hx
noncomputable def comesTo (o : Option (List Out)) (b : Out) : Bool := match o with
  | some (x :: l) => eqOut x b && allOne b l
  | _ => false
theorem Comes.mono {w0 : World} {m : Names} {l l' : List Out} {e : Ending} {w' : World} (hs : ∀ x ∈ l, x ∈ l') (h : Comes w0 m l e w') : Comes w0 m l' e w' := by
  obtain ⟨v', h1, out, h2, h3⟩ := h
  exact ⟨v', h1, out, hs _ h2, h3⟩
theorem Said.mono {P : Program} {g : Nat} {args : List Value} {H : Tr Blk} {l l' : List Out} (h : Said P g args H l) (hs : ∀ x ∈ l, x ∈ l') : Said P g args H l' := by
  rcases h with ⟨hlt, he, h⟩ | ⟨hlt, h⟩ | ⟨b, hb, h⟩
  · exact .inl ⟨hlt, he, fun w0 m w args' r hv => (h w0 m w args' r hv).mono fun _ _ k => k.mono hs⟩
  · refine .inr (.inl ⟨hlt, fun w0 m w args' r hv => ?_⟩)
    obtain ⟨v', h1, out, h2, h3⟩ := h w0 m w args' r hv
    exact ⟨v', h1, out, hs _ h2, h3⟩
  · refine .inr (.inr ⟨b, hb, fun w0 m w args' l R r hv hm => ?_⟩)
    obtain ⟨f, tmps, assign, body, h1, h2⟩ := h w0 m w args' l R r hv hm
    exact ⟨f, tmps, assign, body, h1, RoundIn.mono h2 fun _ _ k => k.mono hs⟩
/-- A piece of the run: one call that comes to one end in every order. -/
theorem entry_ok {P : Program} (hm : P.follows .mixedOrders = true) {ext q known : Nat → Bool} (hx : ExtOk P ext) (hqf : ∀ g, q g = true → quietFn P q g = true) (hk : KnownOk P known) {tab : List Entry} (ht : TabOk P q tab) {g : Nat} {args : List Value} {H : Tr Blk} {n k : Nat} {b : Out}
    (h : comesTo (callOf P ext (evM P ext q known tab k) g args H n) b = true) : EntryOk P q ⟨g, args, H, n, [b]⟩ := by
  cases hc : callOf P ext (evM P ext q known tab k) g args H n with
  | none => rw [hc] at h; cases h
  | some outs =>
    rw [hc] at h
    cases outs with
    | nil => cases h
    | cons y r =>
    have hb : ∀ x ∈ y :: r, x = b := allOne_ok (l := y :: r) h
    refine ⟨Said.mono (callOf_ok hx (evM_ok hm hx hqf hk ht k) _ _ _ _ _ hc) fun x hx => by rw [hb x hx]; simp, fun hg x hx => ?_⟩
    simp only [List.mem_singleton] at hx
    subst hx
    have := callOf_H hqf (evM_H hqf ht k) _ hg _ _ _ _ hc y (by simp)
    rw [hb y (by simp)] at this
    exact this

/-- A call at plain arguments that the run finds true. -/
theorem closedM_true {P : Program} (hm : P.follows .mixedOrders = true) {ext q known : Nat → Bool} (hx : ExtOk P ext) (hqf : ∀ g, q g = true → quietFn P q g = true) (hk : KnownOk P known) {tab : List Entry} (ht : TabOk P q tab) {f n : Nat} {args : List Value} (ha : args.all plain2 = true) (h : allTrue (callOf P ext (evM P ext q known tab n) f args .nil 0) = true) (hent : Enters P f) (w : World) (hlt : Nat.blt f yieldBase = true := by kernel_rfl) :
    Calls P f args.toArray w fun e w' => e = .returned (.bool true) ∧ Below w.heap.size w w' := by
  cases hc : callOf P ext (evM P ext q known tab n) f args .nil 0 with
  | none => rw [hc] at h; cases h
  | some outs =>
    rw [hc] at h
    have r : Rel w (fun _ => none) .nil w := by
      refine ⟨.refl _ _, Tr.fine_nil _, fun b x hx => (by cases hx), fun b B hB => ?_, fun b b' B B' C k R C' k' R' hB => ?_, ⟨fun b B hB => ?_, fun b b' B B' C k R C' k' R' hB => ?_⟩⟩
      all_goals (unfold Tr.at at hB; simp [Tr.get_nil] at hB)
    rcases callOf_ok hx (evM_ok hm hx hqf hk ht n) _ _ _ _ _ hc with ⟨_, _, hcall⟩ | ⟨_, hext⟩ | ⟨b, hb, _⟩
    · refine (hcall w (fun _ => none) w args r (VL.plain ha)).mono ?_
      rintro e w' ⟨v', rfl, out, hout, m', hs, r', hv⟩
      simp only [allTrue, List.all_eq_true] at h
      have := h out hout
      obtain ⟨v, H, k⟩ := out
      unfold isTrue at this
      split at this
      · rename_i H' k' e
        cases e
        cases hv
        exact ⟨rfl, r'.bel⟩
      · cases this
    · obtain ⟨v', hrun, _⟩ := hext w (fun _ => none) w args r (VL.plain ha)
      obtain ⟨fn, cc, e1, e2, e3⟩ := hent
      have e2' : fn.name ≠ "runtime.NumGoroutine" := by simpa using e2
      simp [callFunc, e1, e2', e3] at hrun
    · rw [Nat.blt_eq] at hlt; omega

/-- A call that the run finds true, at arguments some of which it does not know. -/
theorem closedH_true {P : Program} (hm : P.follows .mixedOrders = true) {ext q known : Nat → Bool} (hx : ExtOk P ext) (hqf : ∀ g, q g = true → quietFn P q g = true) (hk : KnownOk P known) {tab : List Entry} (ht : TabOk P q tab) {f n : Nat} {args args' : List Value} (ha : ∀ m : Names, VL m args args') (h : allTrue (callOf P ext (evM P ext q known tab n) f args .nil 0) = true) (hent : Enters P f) (w : World) (hlt : Nat.blt f yieldBase = true := by kernel_rfl) :
    Calls P f args'.toArray w fun e w' => e = .returned (.bool true) ∧ Below w.heap.size w w' := by
  cases hc : callOf P ext (evM P ext q known tab n) f args .nil 0 with
  | none => rw [hc] at h; cases h
  | some outs =>
    rw [hc] at h
    have r : Rel w (fun _ => none) .nil w := by
      refine ⟨.refl _ _, Tr.fine_nil _, fun b x hx => (by cases hx), fun b B hB => ?_, fun b b' B B' C k R C' k' R' hB => ?_, ⟨fun b B hB => ?_, fun b b' B B' C k R C' k' R' hB => ?_⟩⟩
      all_goals (unfold Tr.at at hB; simp [Tr.get_nil] at hB)
    rcases callOf_ok hx (evM_ok hm hx hqf hk ht n) _ _ _ _ _ hc with ⟨_, _, hcall⟩ | ⟨_, hext⟩ | ⟨b, hb, _⟩
    · refine (hcall w (fun _ => none) w args' r (ha _)).mono ?_
      rintro e w' ⟨v', rfl, out, hout, m', hs, r', hv⟩
      simp only [allTrue, List.all_eq_true] at h
      have := h out hout
      obtain ⟨v, H, k⟩ := out
      unfold isTrue at this
      split at this
      · rename_i H' k' e
        cases e
        cases hv
        exact ⟨rfl, r'.bel⟩
      · cases this
    · obtain ⟨v', hrun, _⟩ := hext w (fun _ => none) w args' r (ha _)
      obtain ⟨fn, cc, e1, e2, e3⟩ := hent
      have e2' : fn.name ≠ "runtime.NumGoroutine" := by simpa using e2
      simp [callFunc, e1, e2', e3] at hrun
    · rw [Nat.blt_eq] at hlt; omega

end Go.Proofs.Ytmdhmpfagekonaa.Ev
