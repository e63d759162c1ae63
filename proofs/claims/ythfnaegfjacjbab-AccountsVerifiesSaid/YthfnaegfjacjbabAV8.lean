/- An append to a row of one's own that tells which block it lies in; blocks but one kept. -/
import Derived.Test.YthfnaegfjacjbabR6
namespace Go.Proofs.Ythfnaegfjacjbab
open Go.RowKit
set_option linter.unusedVariables false
set_option linter.unusedSimpArgs false

theorem run_append_blk {P : Program} (w : World) (base : Nat) (t ty e : TypeId) (i : TypeInfo) (z : Value) (size bytes : Nat) (ht : P.underlying t = some (.slice e)) (hi : P.info? e = some i) (hz : i.zero = some z)
    (hsize : i.size = size) (hby : i.bytes = bytes) (hzs : z.cells.size = size) (hsz : 0 < size)
    (v : Value) (n : Nat) (xs : List Value) (hown : w.ownsRow base e size v n xs)
    (a : Addr) (m c : Nat) (news : List Value) (hl : news.length = m * size) (hnews : ∀ j u, news[j]? = some u → w.cell? (a.add j) = some u) (h1 : ∀ u ∈ news, u.oneCell' = true)
    (h63 : n + m ≤ maxLen) (hbytes : (n + m) * bytes ≤ 140737488355328) (hbase : base ≤ w.heap.size) (hm : 0 < m) :
    ∃ v' w', (Builtin.append_ #[t, t] ty #[v, .slice (some a) m c]).run P w = .ok v' w' ∧ w'.ownsRow base e size v' (n + m) (xs ++ news) ∧ w.grownBy w' v.ownBlock ∧
      (v'.ownBlock = v.ownBlock ∨ v'.ownBlock = some w.heap.size) := by
  obtain ⟨v', w', hr, h2, h3, -⟩ := run_append_own (P := P) w base t ty e i z size bytes ht hi hz hsize hby hzs hsz v n xs hown a m c news hl hnews h1 h63 hbytes hbase
  refine ⟨v', w', hr, h2, h3, ?_⟩
  subst hsize
  subst hby
  have h64 : n + m ≤ 9223372036854775807 := by simp only [maxLen] at h63; omega
  rcases hown.2 with ⟨rfl, rfl⟩ | ⟨g, cap, cur, rfl, hbg, hg, hnc, hcm, hcs, htake⟩
  · rw [Nat.zero_add] at hbytes h64
    have hr2 := run_append_nil (P := P) w t ty e i z ht hi hz a m c news hl hnews hm (by omega) (by omega)
    have e1 := hr.symm.trans hr2
    injection e1 with e2 _
    right
    rw [e2]; rfl
  · by_cases hroom : n + m ≤ cap
    · have hfit : n * i.size + news.length ≤ cur.size := by rw [hl, hcs, ← Nat.add_mul]; exact Nat.mul_le_mul_right _ hroom
      have hr2 := run_append_room (P := P) w t ty e i ht hi g n cap cur hg a m c news hl hnews h1 hroom hfit
      have e1 := hr.symm.trans hr2
      injection e1 with e2 _
      left
      rw [e2]; rfl
    · have hr2 := run_append_grow (P := P) w t ty e i z ht hi hz ⟨g, 0, none⟩ n cap xs hown.1 (hown.cells (g := g) rfl) a m c news hl hnews (by omega) (by omega) (growslice_fits (by omega) hbytes)
      have e1 := hr.symm.trans hr2
      injection e1 with e2 _
      right
      rw [e2]; rfl

theorem wpList_append_blk {P : Program} (w : World) {ops : Array Oper} {rest : List Oper} {o : Oper} {a : Act} {Q : Exit → Act → World → Prop} (hgd : o.guard = none) (s x : Operand) (t : TypeId)
    (ho : o.op = .call { callee := .builtin .append, args := #[s, x], argTypes := #[t, t] })
    (base : Nat) (e : TypeId) (i : TypeInfo) (z : Value) (size bytes : Nat) (ht : P.underlying t = some (.slice e)) (hi : P.info? e = some i) (hz : i.zero = some z)
    (hsize : i.size = size) (hby : i.bytes = bytes) (hzs : z.cells.size = size) (hsz : 0 < size)
    (v : Value) (n : Nat) (xs : List Value) (hs : a.eval s = v) (hown : w.ownsRow base e size v n xs)
    (ad : Addr) (m c : Nat) (news : List Value) (hx : a.eval x = .slice (some ad) m c) (hl : news.length = m * size) (hnews : ∀ j u, news[j]? = some u → w.cell? (ad.add j) = some u) (h1 : ∀ u ∈ news, u.oneCell' = true)
    (h63 : n + m ≤ maxLen) (hbytes : (n + m) * bytes ≤ 140737488355328) (hbase : base ≤ w.heap.size) (hm : 0 < m)
    (h : ∀ v' w', w'.ownsRow base e size v' (n + m) (xs ++ news) → w.grownBy w' v.ownBlock → (v'.ownBlock = v.ownBlock ∨ v'.ownBlock = some w.heap.size) → wpList P ops Q rest (a.put o.dst v') w') : wpList P ops Q (o :: rest) a w :=
  wpList_plain hgd fun K hK => by
    obtain ⟨v', w', hr, h2, h3, h4⟩ := run_append_blk (P := P) w base t o.type e i z size bytes ht hi hz hsize hby hzs hsz v n xs hown ad m c news hl hnews h1 h63 hbytes hbase hm
    unfold Oper.wp execOp
    simp only [ho, resolve, invoke, builtin, Sem.run_bind, Sem.run_pure, Result.andThen_ok, List.map_toArray, List.map_cons, List.map_nil, hs, hx, hr]
    exact hK _ _ (h v' w' h2 h3 h4)

/-- All blocks but one stay as they are. -/
def Frm (w w' : World) (o : Option Nat) : Prop := w.heap.size ≤ w'.heap.size ∧ ∀ k, k < w.heap.size → some k ≠ o → w'.heap[k]? = w.heap[k]?
theorem Frm.refl (w : World) (o : Option Nat) : Frm w w o := ⟨Nat.le_refl _, fun _ _ _ => rfl⟩
theorem Frm.drewN {w w' : World} {o : Option Nat} (h : Frm w w' o) (n : Nat) : Frm w (w'.drewN n) o := h
theorem Frm.set {w w' : World} {b : Nat} (h : Frm w w' (some b)) (k : Nat) (v : Value) : Frm w (w'.setCell ⟨b, k, none⟩ v) (some b) := by
  refine ⟨by simpa using h.1, fun j hj ne => ?_⟩
  rw [Below.heap_setCell _ _ _ _ (by intro e; exact ne (by first | rw [e] | rw [← e]))]
  exact h.2 j hj ne
theorem Frm.grown {w w1 w2 : World} {o r : Option Nat} {ob : Obj} (h : Frm w w1 o) (g : (w1.alloc ob).grownBy w2 r) (hr : ∀ k, r = some k → o = some k ∨ w.heap.size ≤ k) : Frm w w2 o := by
  have s := h.1
  have s2 := g.size
  have s1 : (w1.alloc ob).heap.size = w1.heap.size + 1 := by simp
  refine ⟨by omega, fun k hk ne => ?_⟩
  rw [g.block k (by omega) ?_]
  · rw [Below.heap_alloc _ _ _ (by omega)]
    exact h.2 k hk ne
  · intro e
    rcases hr k e.symm with h1 | h1
    · exact ne h1.symm
    · omega
/-- What a row in its own memory leaves as it was when it grows. -/
def Kp (w w' : World) (v v' : Value) : Prop := w.heap.size ≤ w'.heap.size ∧ ∀ q, q < w.heap.size → v.ownBlock ≠ some q → v'.ownBlock ≠ some q ∧ w'.heap[q]? = w.heap[q]?
theorem Kp.refl (w : World) (v : Value) : Kp w w v v := ⟨Nat.le_refl _, fun _ _ h => ⟨h, rfl⟩⟩
theorem Kp.trans {a b c : World} {u v x : Value} (h : Kp a b u v) (k : Kp b c v x) : Kp a c u x :=
  ⟨Nat.le_trans h.1 k.1, fun q hq hn => by
    obtain ⟨h1, h2⟩ := h.2 q hq hn
    obtain ⟨k1, k2⟩ := k.2 q (Nat.lt_of_lt_of_le hq h.1) h1
    exact ⟨k1, k2.trans h2⟩⟩
theorem Kp.grown {w w2 : World} {ob : Obj} {v v' : Value} (g : (w.alloc ob).grownBy w2 v.ownBlock) (hv : v'.ownBlock = v.ownBlock ∨ v'.ownBlock = some (w.heap.size + 1)) : Kp w w2 v v' := by
  have s2 := g.size
  have s1 : (w.alloc ob).heap.size = w.heap.size + 1 := by simp
  refine ⟨by omega, fun q hq hn => ⟨?_, ?_⟩⟩
  · rcases hv with h | h
    · rw [h]; exact hn
    · rw [h]; intro e; have := Option.some.inj e; omega
  · rw [g.block q (by omega) (fun e => hn e.symm), Below.heap_alloc _ _ _ (by omega)]
end Go.Proofs.Ythfnaegfjacjbab
