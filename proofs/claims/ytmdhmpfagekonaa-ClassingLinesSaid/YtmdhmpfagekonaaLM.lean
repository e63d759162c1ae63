/- Classing's lines: plan. -/
import Derived.Test.YtmdhmpfagekonaaLK
import Derived.Test.YtmdhmpfagekonaaLG
/- Classing's lines: a clip's line. -/
namespace Go.Proofs.Ytmdhmpfagekonaa
open Go.RowKit Go.Proofs.Ytmdhmpfagekonaa.Ct Go.Proofs.Ytmdhmpfagekonaa.Ce Go.Proofs.Ytmdhmpfagekonaa.Stb
set_option linter.unusedVariables false
set_option linter.unusedSimpArgs false

theorem ownBase' {W : World} {a b : Nat} {e : TypeId} {s : Nat} {v : Value} {n : Nat} {xs : List Value} (hab : a ≤ b) (h : W.ownsRow b e s v n xs) : W.ownsRow a e s v n xs := by
  refine ⟨h.1, ?_⟩
  rcases h.2 with h0 | ⟨g, cap, cur, e1, hb, r⟩
  · exact .inl h0
  · exact .inr ⟨g, cap, cur, e1, Nat.le_trans hab hb, r⟩
theorem fl_sh {w : World} {gf n i m : Nat} {A : Nat → Fl} (h : FlR w (some ⟨gf, 0, none⟩) n A) (hm : i + m ≤ n) : FlR w (some ⟨gf, i * 6, none⟩) m (fun k => A (i + k)) := fun k hk => by
  obtain ⟨x, e, f⟩ := h (i + k) (by omega)
  cases e
  refine ⟨⟨gf, i * 6, none⟩, rfl, ?_⟩
  rw [addK, show i * 6 + k * 6 = (i + k) * 6 by omega]
  rw [add0] at f
  exact f
theorem clone_any (g off m c : Nat) (o : Nat → Int) (w : World) (h0 : 0 < m) (h8 : m ≤ 1000) (r : ∀ k, k < m → w.cell? ⟨g, off + k, none⟩ = some (.int .i64 (o k))) :
    Calls Try.prog 61 #[.slice (some ⟨g, off, none⟩) m c] w fun e w' => ∃ a d, e = .returned (.slice (some ⟨a, 0, none⟩) m d) ∧ w'.ownsRow w.heap.size 3 1 (.slice (some ⟨a, 0, none⟩) m d) m ((List.range m).map fun k => Value.int .i64 (o k)) ∧ Below w.heap.size w w' := by
  refine (Try.slices_Clone_int g off m c ((List.range m).map o) w (by simp) (by omega) (fun j hj => ?_)).mono ?_
  · have hj' : j < m := by simpa using hj
    rw [r j hj']
    simp [List.getD_eq_getElem?_getD, hj']
  · rintro e w' ⟨v, rfl, own, _, st⟩
    rw [List.take_of_length_le (by simp), List.map_map] at own
    have o2 : w'.ownsRow w.heap.size 3 1 v m ((List.range m).map fun k => Value.int .i64 (o k)) := own
    rcases o2.2 with ⟨_, e⟩ | ⟨a, cap, cur, rfl, ha, hg, hn, _, hs, ht⟩
    · omega
    · exact ⟨a, cap, rfl, o2, st⟩

set_option maxRecDepth 100000 in
set_option maxHeartbeats 16000000 in
theorem cline_any (ls le sp : Int) (gp gf gc n i j : Nat) (A : Nat → Fl) (o : Nat → Int) (C : Nat → Nat → Int) (w : World) (hp : NmR w (some ⟨gp, 0, none⟩) n o) (hf : FlR w (some ⟨gf, 0, none⟩) n A) (hc : CoR w (some ⟨gc, 0, none⟩) n (n + 1) C) (ij : i < j) (jn : j ≤ n) (ln : n ≤ 140) (ok : ∀ k, k < n → (A k).ok) :
    Calls Try.prog 50 #[clV ls le sp (.slice (some ⟨gp, 0, none⟩) n n) (.slice (some ⟨gf, 0, none⟩) n n) (.slice (some ⟨gc, 0, none⟩) n n), .int .i64 i, .int .i64 j] w fun e w' => ∃ a d, e = .returned (lnV (A i) (.slice (some ⟨a, 0, none⟩) (j - i) d) (mas A i j) (cen A i j) (C i j)) ∧ w'.ownsRow w.heap.size 3 1 (.slice (some ⟨a, 0, none⟩) (j - i) d) (j - i) ((List.range (j - i)).map fun k => Value.int .i64 (o (i + k))) ∧ Below w.heap.size w w' := by
  have HPp := Lib.hid hp
  have HF := Lib.hid hf
  have HCc := Lib.hid hc
  have OKs := Lib.hid (show ∀ k, k < j - i → (A (i + k)).ok from fun k hk => ok (i + k) (by omega))
  have W0 := Lib.hid (show let wa := (w.alloc (Obj.cells #[.int .i64 ls, .int .i64 le, .int .i64 sp, .slice (some ⟨gp, 0, none⟩) n n, .slice (some ⟨gf, 0, none⟩) n n, .slice (some ⟨gc, 0, none⟩) n n] 67)).alloc (Obj.cells #[.int .u8 0, .int .u8 0, .int .u8 0, .int .u8 0, .slice none 0 0, .int .i64 0, .int .i64 0, .int .i64 0] 38)
      OB wa w.heap.size 67 6 (clC ls le sp (.slice (some ⟨gp, 0, none⟩) n n) (.slice (some ⟨gf, 0, none⟩) n n) (.slice (some ⟨gc, 0, none⟩) n n)) ∧ OB wa (w.heap.size + 1) 38 8 (lnC fl0 (.slice none 0 0) 0 0 0) ∧ Below w.heap.size w wa from by
    refine ⟨ob_old' (ob_cl w ls le sp _ _ _ _) _, ?_, ((Below.refl _ _).alloc (Nat.le_refl _) _).alloc (by simp) _⟩
    have := heap_alloc_new (w.alloc (Obj.cells #[.int .i64 ls, .int .i64 le, .int .i64 sp, .slice (some ⟨gp, 0, none⟩) n n, .slice (some ⟨gf, 0, none⟩) n n, .slice (some ⟨gc, 0, none⟩) n n] 67)) (Obj.cells #[.int .u8 0, .int .u8 0, .int .u8 0, .int .u8 0, .slice none 0 0, .int .i64 0, .int .i64 0, .int .i64 0] 38)
    unfold OB
    simp only [World.size_alloc] at this
    rw [this]; rfl)
  have i1 : (0 : Int) ≤ (i : Int) := by omega
  have i2 : (i : Int) ≤ (j : Int) := by omega
  have i3 : (j : Int) ≤ (n : Int) := by omega
  have i4 : (i : Int) < (n : Int) := by omega
  have i5 : (j : Int) < ((n + 1 : Nat) : Int) := by omega
  have i6 : (j : Int) < (n : Int) + 1 := by omega
  have i7 : (0 : Int) ≤ (j : Int) := by omega
  have i8 : 0 < j - i := by omega
  have i9 : (0 : Int) < ((j - i : Nat) : Int) := by omega
  clear hp hf hc ok
  unfold clV
  go_enter Try.func50, Try.ntmps50
  go_upto_region 1 with fail
  generalize (w.alloc (Obj.cells #[.int .i64 ls, .int .i64 le, .int .i64 sp, .slice (some ⟨gp, 0, none⟩) n n, .slice (some ⟨gf, 0, none⟩) n n, .slice (some ⟨gc, 0, none⟩) n n] 67)).alloc (Obj.cells #[.int .u8 0, .int .u8 0, .int .u8 0, .int .u8 0, .slice none 0 0, .int .i64 0, .int .i64 0, .int .i64 0] 38) = wb at *
  obtain ⟨ok1, ok2, bw⟩ := W0.out
  have OLN := Lib.hid ok2
  have BW := Lib.hid bw
  have c3 : wb.cell? ⟨w.heap.size, 3, none⟩ = some (.slice (some ⟨gp, 0, none⟩) n n) := ok1.cell (k := 3) (by decide)
  have c4 : wb.cell? ⟨w.heap.size, 4, none⟩ = some (.slice (some ⟨gf, 0, none⟩) n n) := ok1.cell (k := 4) (by decide)
  have c5 : wb.cell? ⟨w.heap.size, 5, none⟩ = some (.slice (some ⟨gc, 0, none⟩) n n) := ok1.cell (k := 5) (by decide)
  obtain ⟨x', ex, fa⟩ := (HF.out.below bw) i (by omega)
  cases ex
  rw [add0] at fa
  obtain ⟨-, a0, a1, a2, a3, -, -⟩ := fa
  obtain ⟨x', y, cd, ex, -, cr, hy⟩ := (HCc.out.below bw) i (by omega)
  cases ex
  rw [add0] at cr
  obtain ⟨y, rfl, -, cj⟩ := hy j (by omega)
  have CC := Lib.hid (fun W (b : Below wb.heap.size wb W) => clone_any gp i (j - i) (n - i) (fun k => o (i + k)) W i8 (by omega) (fun k hk => by
    obtain ⟨x', ex, -, c⟩ := ((HPp.out.below BW.out).below b) (i + k) (by omega)
    cases ex
    rw [add0] at c
    exact c))
  have C1 := Lib.hid (show ∀ W, Below wb.heap.size wb W → Calls Try.prog 58 #[.slice (some ⟨gf, i * 6, none⟩) (j - i) (n - i)] W fun e w' => e = .returned (.int .i64 (mas A i j)) ∧ Below W.heap.size W w' from fun W b => by
    have := mass_any (some ⟨gf, i * 6, none⟩) (n - i) (j - i) (fun k => A (i + k)) W (fl_sh ((HF.out.below BW.out).below b) (by omega)) (by omega) OKs.out
    rw [mas_sh, show i + (j - i) = j by omega] at this
    exact this)
  have C2 := Lib.hid (show ∀ W, Below wb.heap.size wb W → Calls Try.prog 59 #[.slice (some ⟨gf, i * 6, none⟩) (j - i) (n - i)] W fun e w' => e = .returned (.int .i64 (cen A i j)) ∧ Below W.heap.size W w' from fun W b => by
    have := centre_any (some ⟨gf, i * 6, none⟩) (n - i) (j - i) (fun k => A (i + k)) W (fl_sh ((HF.out.below BW.out).below b) (by omega)) i8 (by omega) OKs.out
    rw [cen_sh, show i + (j - i) = j by omega] at this
    exact this)
  have HL := Lib.hid (show w.heap.size + 1 < wb.heap.size from ok2.lt)
  clear ok1 ok2 bw W0 HPp HF HCc
  obtain ⟨s, hs⟩ : ∃ s, s = A i := ⟨_, rfl⟩
  rw [← hs] at a0 a1 a2 a3
  have HS := Lib.hid hs
  clear hs
  go_upto_region 2 with fail
  refine wp_region_G (fun w' => w'.cell? ⟨gf, i * 6, none⟩ = some (.int .u8 s.ka) ∧ w'.cell? ⟨gf, i * 6 + 1, none⟩ = some (.int .u8 s.kb) ∧ w'.cell? ⟨gf, i * 6 + 2, none⟩ = some (.int .u8 s.kc) ∧ w'.cell? ⟨gf, i * 6 + 3, none⟩ = some (.int .u8 s.kd) ∧ w'.cell? ⟨w.heap.size, 3, none⟩ = some (.slice (some ⟨gp, 0, none⟩) n n) ∧ w'.cell? ⟨w.heap.size, 5, none⟩ = some (.slice (some ⟨gc, 0, none⟩) n n) ∧ w'.cell? ⟨gc, i, none⟩ = some (.slice (some y) (n + 1) cd) ∧ w'.cell? (y.add j) = some (.int .i64 (C i j))) 23 (by kernel_rfl) ?_
  have hS : wb.drew.cell? ⟨gf, i * 6, none⟩ = some (.int .u8 s.ka) ∧ wb.drew.cell? ⟨gf, i * 6 + 1, none⟩ = some (.int .u8 s.kb) ∧ wb.drew.cell? ⟨gf, i * 6 + 2, none⟩ = some (.int .u8 s.kc) ∧ wb.drew.cell? ⟨gf, i * 6 + 3, none⟩ = some (.int .u8 s.kd) ∧ wb.drew.cell? ⟨w.heap.size, 3, none⟩ = some (.slice (some ⟨gp, 0, none⟩) n n) ∧ wb.drew.cell? ⟨w.heap.size, 5, none⟩ = some (.slice (some ⟨gc, 0, none⟩) n n) ∧ wb.drew.cell? ⟨gc, i, none⟩ = some (.slice (some y) (n + 1) cd) ∧ wb.drew.cell? (y.add j) = some (.int .i64 (C i j)) := ⟨cellDr a0, cellDr a1, cellDr a2, cellDr a3, cellDr c3, cellDr c5, cellDr cr, cellDr cj⟩
  refine wpAnyG_take (i := 0) (oi := _) (v := .slice (some ⟨gf, i * 6, none⟩) (j - i) (n - i)) rfl (by kernel_rfl) (by kernel_rfl) (by kernel_rfl) (by kernel_rfl) (by kernel_rfl) (by decide) (fun _ _ _ h => h) (by rfl) (fun w' hw' => ?_) hS ?_
  · obtain ⟨h1, h2, h3, h4, h5, h6, h7, h8⟩ := hw'
    go_simp
  try simp only [Act.put, List.getElem_toArray, List.getElem_cons_zero, List.getElem_cons_succ, List.setIfInBounds_toArray, List.set_cons_zero, List.set_cons_succ]
  refine wpAnyG_take (i := 1) (oi := _) (v := .pointer (some ⟨gf, i * 6, none⟩)) rfl (by kernel_rfl) (by kernel_rfl) (by kernel_rfl) (by kernel_rfl) (by kernel_rfl) (by decide) (fun _ _ _ h => h) (by rfl) (fun w' hw' => ?_) hS ?_
  · obtain ⟨h1, h2, h3, h4, h5, h6, h7, h8⟩ := hw'
    go_simp
  try simp only [Act.put, List.getElem_toArray, List.getElem_cons_zero, List.getElem_cons_succ, List.setIfInBounds_toArray, List.set_cons_zero, List.set_cons_succ]
  refine wpAnyG_take (i := 2) (oi := _) (v := .pointer (some ⟨gf, i * 6, none⟩)) rfl (by kernel_rfl) (by kernel_rfl) (by kernel_rfl) (by kernel_rfl) (by kernel_rfl) (by decide) (fun _ _ _ h => h) (by rfl) (fun w' hw' => ?_) hS ?_
  · obtain ⟨h1, h2, h3, h4, h5, h6, h7, h8⟩ := hw'
    go_simp
  try simp only [Act.put, List.getElem_toArray, List.getElem_cons_zero, List.getElem_cons_succ, List.setIfInBounds_toArray, List.set_cons_zero, List.set_cons_succ]
  refine wpAnyG_take (i := 3) (oi := _) (v := .agg #[.int .u8 s.ka, .int .u8 s.kb, .int .u8 s.kc, .int .u8 s.kd]) rfl (by kernel_rfl) (by kernel_rfl) (by kernel_rfl) (by kernel_rfl) (by kernel_rfl) (by decide) (fun _ _ _ h => h) (by rfl) (fun w' hw' => ?_) hS ?_
  · obtain ⟨h1, h2, h3, h4, h5, h6, h7, h8⟩ := hw'
    go_simp
  try simp only [Act.put, List.getElem_toArray, List.getElem_cons_zero, List.getElem_cons_succ, List.setIfInBounds_toArray, List.set_cons_zero, List.set_cons_succ]
  refine wpAnyG_take (i := 4) (oi := _) (v := .pointer (some ⟨w.heap.size, 3, none⟩)) rfl (by kernel_rfl) (by kernel_rfl) (by kernel_rfl) (by kernel_rfl) (by kernel_rfl) (by decide) (fun _ _ _ h => h) (by rfl) (fun w' hw' => ?_) hS ?_
  · obtain ⟨h1, h2, h3, h4, h5, h6, h7, h8⟩ := hw'
    go_simp
  try simp only [Act.put, List.getElem_toArray, List.getElem_cons_zero, List.getElem_cons_succ, List.setIfInBounds_toArray, List.set_cons_zero, List.set_cons_succ]
  refine wpAnyG_take (i := 5) (oi := _) (v := .slice (some ⟨gp, 0, none⟩) n n) rfl (by kernel_rfl) (by kernel_rfl) (by kernel_rfl) (by kernel_rfl) (by kernel_rfl) (by decide) (fun _ _ _ h => h) (by rfl) (fun w' hw' => ?_) hS ?_
  · obtain ⟨h1, h2, h3, h4, h5, h6, h7, h8⟩ := hw'
    go_simp
  try simp only [Act.put, List.getElem_toArray, List.getElem_cons_zero, List.getElem_cons_succ, List.setIfInBounds_toArray, List.set_cons_zero, List.set_cons_succ]
  refine wpAnyG_take (i := 6) (oi := _) (v := .int .i64 (i : Int)) rfl (by kernel_rfl) (by kernel_rfl) (by kernel_rfl) (by kernel_rfl) (by kernel_rfl) (by decide) (fun _ _ _ h => h) (by rfl) (fun w' hw' => ?_) hS ?_
  · obtain ⟨h1, h2, h3, h4, h5, h6, h7, h8⟩ := hw'
    go_simp
  try simp only [Act.put, List.getElem_toArray, List.getElem_cons_zero, List.getElem_cons_succ, List.setIfInBounds_toArray, List.set_cons_zero, List.set_cons_succ]
  refine wpAnyG_take (i := 7) (oi := _) (v := .int .i64 (j : Int)) rfl (by kernel_rfl) (by kernel_rfl) (by kernel_rfl) (by kernel_rfl) (by kernel_rfl) (by decide) (fun _ _ _ h => h) (by rfl) (fun w' hw' => ?_) hS ?_
  · obtain ⟨h1, h2, h3, h4, h5, h6, h7, h8⟩ := hw'
    go_simp
  try simp only [Act.put, List.getElem_toArray, List.getElem_cons_zero, List.getElem_cons_succ, List.setIfInBounds_toArray, List.set_cons_zero, List.set_cons_succ]
  refine wpAnyG_take (i := 8) (oi := _) (v := .slice (some ⟨gp, i, none⟩) (j - i) (n - i)) rfl (by kernel_rfl) (by kernel_rfl) (by kernel_rfl) (by kernel_rfl) (by kernel_rfl) (by decide) (fun _ _ _ h => h) (by rfl) (fun w' hw' => ?_) hS ?_
  · obtain ⟨h1, h2, h3, h4, h5, h6, h7, h8⟩ := hw'
    go_simp
    all_goals (intro h; exact absurd h (by omega))
  try simp only [Act.put, List.getElem_toArray, List.getElem_cons_zero, List.getElem_cons_succ, List.setIfInBounds_toArray, List.set_cons_zero, List.set_cons_succ]
  refine wpAnyG_take (i := 10) (oi := _) (v := .slice (some ⟨gf, i * 6, none⟩) (j - i) (n - i)) rfl (by kernel_rfl) (by kernel_rfl) (by kernel_rfl) (by kernel_rfl) (by kernel_rfl) (by decide) (fun _ _ _ h => h) (by rfl) (fun w' hw' => ?_) hS ?_
  · obtain ⟨h1, h2, h3, h4, h5, h6, h7, h8⟩ := hw'
    go_simp
  try simp only [Act.put, List.getElem_toArray, List.getElem_cons_zero, List.getElem_cons_succ, List.setIfInBounds_toArray, List.set_cons_zero, List.set_cons_succ]
  refine wpAnyG_take (i := 12) (oi := _) (v := .slice (some ⟨gf, i * 6, none⟩) (j - i) (n - i)) rfl (by kernel_rfl) (by kernel_rfl) (by kernel_rfl) (by kernel_rfl) (by kernel_rfl) (by decide) (fun _ _ _ h => h) (by rfl) (fun w' hw' => ?_) hS ?_
  · obtain ⟨h1, h2, h3, h4, h5, h6, h7, h8⟩ := hw'
    go_simp
  try simp only [Act.put, List.getElem_toArray, List.getElem_cons_zero, List.getElem_cons_succ, List.setIfInBounds_toArray, List.set_cons_zero, List.set_cons_succ]
  refine wpAnyG_take (i := 14) (oi := _) (v := .pointer (some ⟨w.heap.size, 5, none⟩)) rfl (by kernel_rfl) (by kernel_rfl) (by kernel_rfl) (by kernel_rfl) (by kernel_rfl) (by decide) (fun _ _ _ h => h) (by rfl) (fun w' hw' => ?_) hS ?_
  · obtain ⟨h1, h2, h3, h4, h5, h6, h7, h8⟩ := hw'
    go_simp
  try simp only [Act.put, List.getElem_toArray, List.getElem_cons_zero, List.getElem_cons_succ, List.setIfInBounds_toArray, List.set_cons_zero, List.set_cons_succ]
  refine wpAnyG_take (i := 15) (oi := _) (v := .slice (some ⟨gc, 0, none⟩) n n) rfl (by kernel_rfl) (by kernel_rfl) (by kernel_rfl) (by kernel_rfl) (by kernel_rfl) (by decide) (fun _ _ _ h => h) (by rfl) (fun w' hw' => ?_) hS ?_
  · obtain ⟨h1, h2, h3, h4, h5, h6, h7, h8⟩ := hw'
    go_simp
  try simp only [Act.put, List.getElem_toArray, List.getElem_cons_zero, List.getElem_cons_succ, List.setIfInBounds_toArray, List.set_cons_zero, List.set_cons_succ]
  refine wpAnyG_take (i := 16) (oi := _) (v := .int .i64 (i : Int)) rfl (by kernel_rfl) (by kernel_rfl) (by kernel_rfl) (by kernel_rfl) (by kernel_rfl) (by decide) (fun _ _ _ h => h) (by rfl) (fun w' hw' => ?_) hS ?_
  · obtain ⟨h1, h2, h3, h4, h5, h6, h7, h8⟩ := hw'
    go_simp
  try simp only [Act.put, List.getElem_toArray, List.getElem_cons_zero, List.getElem_cons_succ, List.setIfInBounds_toArray, List.set_cons_zero, List.set_cons_succ]
  refine wpAnyG_take (i := 17) (oi := _) (v := .pointer (some ⟨gc, i, none⟩)) rfl (by kernel_rfl) (by kernel_rfl) (by kernel_rfl) (by kernel_rfl) (by kernel_rfl) (by decide) (fun _ _ _ h => h) (by rfl) (fun w' hw' => ?_) hS ?_
  · obtain ⟨h1, h2, h3, h4, h5, h6, h7, h8⟩ := hw'
    go_simp
  try simp only [Act.put, List.getElem_toArray, List.getElem_cons_zero, List.getElem_cons_succ, List.setIfInBounds_toArray, List.set_cons_zero, List.set_cons_succ]
  refine wpAnyG_take (i := 18) (oi := _) (v := .slice (some y) (n + 1) cd) rfl (by kernel_rfl) (by kernel_rfl) (by kernel_rfl) (by kernel_rfl) (by kernel_rfl) (by decide) (fun _ _ _ h => h) (by rfl) (fun w' hw' => ?_) hS ?_
  · obtain ⟨h1, h2, h3, h4, h5, h6, h7, h8⟩ := hw'
    go_simp
  try simp only [Act.put, List.getElem_toArray, List.getElem_cons_zero, List.getElem_cons_succ, List.setIfInBounds_toArray, List.set_cons_zero, List.set_cons_succ]
  refine wpAnyG_take (i := 19) (oi := _) (v := .int .i64 (j : Int)) rfl (by kernel_rfl) (by kernel_rfl) (by kernel_rfl) (by kernel_rfl) (by kernel_rfl) (by decide) (fun _ _ _ h => h) (by rfl) (fun w' hw' => ?_) hS ?_
  · obtain ⟨h1, h2, h3, h4, h5, h6, h7, h8⟩ := hw'
    go_simp
  try simp only [Act.put, List.getElem_toArray, List.getElem_cons_zero, List.getElem_cons_succ, List.setIfInBounds_toArray, List.set_cons_zero, List.set_cons_succ]
  refine wpAnyG_take (i := 20) (oi := _) (v := .pointer (some (y.add j))) rfl (by kernel_rfl) (by kernel_rfl) (by kernel_rfl) (by kernel_rfl) (by kernel_rfl) (by decide) (fun _ _ _ h => h) (by rfl) (fun w' hw' => ?_) hS ?_
  · obtain ⟨h1, h2, h3, h4, h5, h6, h7, h8⟩ := hw'
    go_simp
  try simp only [Act.put, List.getElem_toArray, List.getElem_cons_zero, List.getElem_cons_succ, List.setIfInBounds_toArray, List.set_cons_zero, List.set_cons_succ]
  refine wpAnyG_take (i := 21) (oi := _) (v := .int .i64 (C i j)) rfl (by kernel_rfl) (by kernel_rfl) (by kernel_rfl) (by kernel_rfl) (by kernel_rfl) (by decide) (fun _ _ _ h => h) (by rfl) (fun w' hw' => ?_) hS ?_
  · obtain ⟨h1, h2, h3, h4, h5, h6, h7, h8⟩ := hw'
    go_simp
  try simp only [Act.put, List.getElem_toArray, List.getElem_cons_zero, List.getElem_cons_succ, List.setIfInBounds_toArray, List.set_cons_zero, List.set_cons_succ]
  refine wpAnyG_one (i := 9) (o := _) (by kernel_rfl) rfl (fun KK hK => ?_)
  go_simp
  refine (CC.out _ (Below.refl _ _).drew).mono ?_
  rintro e w5 ⟨a, d, rfl, own, q5⟩
  have Bw5 := Lib.hid (show Below wb.heap.size wb w5 from (Below.refl _ _).drew.trans q5)
  refine hK.out _ _ (fun _ => ⟨cellGr Bw5.out a0, cellGr Bw5.out a1, cellGr Bw5.out a2, cellGr Bw5.out a3, cellGr Bw5.out c3, cellGr Bw5.out c5, cellGr Bw5.out cr, cellGr Bw5.out cj⟩) ?_
  try simp only [Act.put, List.getElem_toArray, List.getElem_cons_zero, List.getElem_cons_succ, List.setIfInBounds_toArray, List.set_cons_zero, List.set_cons_succ]
  clear hK
  replace own := Lib.hid own
  clear q5
  refine wpAnyG_one (i := 11) (o := _) (by kernel_rfl) rfl (fun KK hK => ?_)
  go_simp
  refine (C1.out _ (Bw5.out)).mono ?_
  rintro e w6 ⟨rfl, q5⟩
  have Bw6 := Lib.hid (show Below wb.heap.size wb w6 from Bw5.out.trans (q5.mono Bw5.out.size))
  refine hK.out _ _ (fun _ => ⟨cellGr Bw6.out a0, cellGr Bw6.out a1, cellGr Bw6.out a2, cellGr Bw6.out a3, cellGr Bw6.out c3, cellGr Bw6.out c5, cellGr Bw6.out cr, cellGr Bw6.out cj⟩) ?_
  try simp only [Act.put, List.getElem_toArray, List.getElem_cons_zero, List.getElem_cons_succ, List.setIfInBounds_toArray, List.set_cons_zero, List.set_cons_succ]
  clear hK
  replace own := Lib.hid (own_belowD own.out q5)
  clear q5
  refine wpAnyG_one (i := 13) (o := _) (by kernel_rfl) rfl (fun KK hK => ?_)
  go_simp
  refine (C2.out _ (Bw6.out)).mono ?_
  rintro e w7 ⟨rfl, q5⟩
  have Bw7 := Lib.hid (show Below wb.heap.size wb w7 from Bw6.out.trans (q5.mono Bw6.out.size))
  refine hK.out _ _ (fun _ => ⟨cellGr Bw7.out a0, cellGr Bw7.out a1, cellGr Bw7.out a2, cellGr Bw7.out a3, cellGr Bw7.out c3, cellGr Bw7.out c5, cellGr Bw7.out cr, cellGr Bw7.out cj⟩) ?_
  try simp only [Act.put, List.getElem_toArray, List.getElem_cons_zero, List.getElem_cons_succ, List.setIfInBounds_toArray, List.set_cons_zero, List.set_cons_succ]
  clear hK
  replace own := Lib.hid (own_belowD own.out q5)
  clear q5
  have OL := Lib.hid (OLN.out.below Bw7.out)
  have v0 : w7.cell? ⟨w.heap.size + 1, 0, none⟩ = some (.int .u8 0) := OL.out.cell (k := 0) (by decide)
  have y0 := OL.out.frozen 0
  have v1 : w7.cell? ⟨w.heap.size + 1, 1, none⟩ = some (.int .u8 0) := OL.out.cell (k := 1) (by decide)
  have y1 := OL.out.frozen 1
  have v2 : w7.cell? ⟨w.heap.size + 1, 2, none⟩ = some (.int .u8 0) := OL.out.cell (k := 2) (by decide)
  have y2 := OL.out.frozen 2
  have v3 : w7.cell? ⟨w.heap.size + 1, 3, none⟩ = some (.int .u8 0) := OL.out.cell (k := 3) (by decide)
  have y3 := OL.out.frozen 3
  have v4 : w7.cell? ⟨w.heap.size + 1, 4, none⟩ = some (.slice none 0 0) := OL.out.cell (k := 4) (by decide)
  have y4 := OL.out.frozen 4
  have v5 : w7.cell? ⟨w.heap.size + 1, 5, none⟩ = some (.int .i64 0) := OL.out.cell (k := 5) (by decide)
  have y5 := OL.out.frozen 5
  have v6 : w7.cell? ⟨w.heap.size + 1, 6, none⟩ = some (.int .i64 0) := OL.out.cell (k := 6) (by decide)
  have y6 := OL.out.frozen 6
  have v7 : w7.cell? ⟨w.heap.size + 1, 7, none⟩ = some (.int .i64 0) := OL.out.cell (k := 7) (by decide)
  have y7 := OL.out.frozen 7
  refine wpAnyG_take (i := 22) (oi := _) (v := lnV s (.slice (some ⟨a, 0, none⟩) (j - i) d) (mas A i j) (cen A i j) (C i j)) rfl (by kernel_rfl) (by kernel_rfl) (by kernel_rfl) (by kernel_rfl) (by kernel_rfl) (by decide) (fun _ _ _ h => h) (by rfl) (fun w' hw' => ?_) ⟨cellGr Bw7.out a0, cellGr Bw7.out a1, cellGr Bw7.out a2, cellGr Bw7.out a3, cellGr Bw7.out c3, cellGr Bw7.out c5, cellGr Bw7.out cr, cellGr Bw7.out cj⟩ ?_
  · obtain ⟨h1, h2, h3, h4, h5, h6, h7, h8⟩ := hw'
    unfold lnV
    go_simp
  try simp only [Act.put, List.getElem_toArray, List.getElem_cons_zero, List.getElem_cons_succ, List.setIfInBounds_toArray, List.set_cons_zero, List.set_cons_succ]
  unfold lnV
  refine wpAnyG_one (i := 23) (o := _) (by kernel_rfl) rfl (fun KK hK => ?_)
  go_simp
  refine hK.out _ _ (fun h => absurd h (by decide)) ?_
  try simp only [Act.put, List.getElem_toArray, List.getElem_cons_zero, List.getElem_cons_succ, List.setIfInBounds_toArray, List.set_cons_zero, List.set_cons_succ]
  clear hK
  refine wpAnyG_done (by kernel_rfl) ?_ _
  have FZ := fm_setL w7 (w.heap.size + 1) s (.slice (some ⟨a, 0, none⟩) (j - i) d) (mas A i j) (cen A i j) (C i j)
  have RZ := Lib.hid (rl_all OL.out s (.slice (some ⟨a, 0, none⟩) (j - i) d) (mas A i j) (cen A i j) (C i j))
  have BZ := Lib.hid (fm_below (BW.out.trans (Bw7.out.mono BW.out.size)) FZ (by omega) OL.out.lt)
  have OZ := Lib.hid (ownBase' (show w.heap.size ≤ wb.heap.size from BW.out.size) (rowFm own.out FZ (show w.heap.size + 1 < wb.heap.size from HL.out)))
  clear hS a0 a1 a2 a3 c3 c4 c5 cr cj
  go_wp2_with fail
  (try simp only [Exit.inBlock, Exit.then])
  refine bodyPost_ret (results_cell_row rfl _ _ _ _ _ _ _ rfl RZ.out Try.underlying38 rfl lnSize) rfl ?_
  refine ⟨a, d, ?_, OZ.out, BZ.out⟩
  rw [← HS.out]
  rfl
end Go.Proofs.Ytmdhmpfagekonaa

/- Classing's lines: plan. -/
namespace Go.Proofs.Ytmdhmpfagekonaa
open Go.RowKit Go.Proofs.Ytmdhmpfagekonaa.Ct Go.Proofs.Ytmdhmpfagekonaa.Ce Go.Proofs.Ytmdhmpfagekonaa.Stb
set_option linter.unusedVariables false
set_option linter.unusedSimpArgs false

theorem lnInfo : (Try.prog.info? 38).map (fun i => (i.zero, i.size, i.bytes)) = some (some (.agg #[.int .u8 0, .int .u8 0, .int .u8 0, .int .u8 0, .slice none 0 0, .int .i64 0, .int .i64 0, .int .i64 0]), 8, 56) := by kernel_rfl
def lnL (s : Fl) (v : Value) (gr ce co : Int) : List Value := [.int .u8 s.ka, .int .u8 s.kb, .int .u8 s.kc, .int .u8 s.kd, v, .int .i64 gr, .int .i64 ce, .int .i64 co]
/-- The lines of a plan, cell by cell. -/
def plL (A : Nat → Fl) (C : Nat → Nat → Int) (ps : Nat → Nat) (q d : Nat → Nat) (t : Nat) : List Value := (List.range t).flatMap fun x => lnL (A (ps x)) (.slice (some ⟨q x, 0, none⟩) (ps (x + 1) - ps x) (d x)) (mas A (ps x) (ps (x + 1))) (cen A (ps x) (ps (x + 1))) (C (ps x) (ps (x + 1)))
/-- A plan in memory. -/
def PlR (base : Nat) (A : Nat → Fl) (o : Nat → Int) (C : Nat → Nat → Int) (ps : Nat → Nat) (t : Nat) (v : Value) (W : World) : Prop := ∃ q d : Nat → Nat, W.ownsRow base 38 8 v t (plL A C ps q d t) ∧ ∀ x, x < t → W.ownsRow base 3 1 (.slice (some ⟨q x, 0, none⟩) (ps (x + 1) - ps x) (d x)) (ps (x + 1) - ps x) ((List.range (ps (x + 1) - ps x)).map fun z => Value.int .i64 (o (ps x + z)))
theorem PlR.below {base : Nat} {A : Nat → Fl} {o : Nat → Int} {C : Nat → Nat → Int} {ps : Nat → Nat} {t : Nat} {v : Value} {W W' : World} (h : PlR base A o C ps t v W) (b : Below W.heap.size W W') : PlR base A o C ps t v W' := by
  obtain ⟨q, d, a, c⟩ := h
  exact ⟨q, d, own_belowD a b, fun x hx => own_belowD (c x hx) b⟩
theorem plL_snoc (A : Nat → Fl) (C : Nat → Nat → Int) (ps : Nat → Nat) (q d : Nat → Nat) (t a da : Nat) : plL A C ps q d t ++ lnL (A (ps t)) (.slice (some ⟨a, 0, none⟩) (ps (t + 1) - ps t) da) (mas A (ps t) (ps (t + 1))) (cen A (ps t) (ps (t + 1))) (C (ps t) (ps (t + 1))) = plL A C ps (upN q t a) (upN d t da) (t + 1) := by
  unfold plL
  rw [List.range_succ, List.flatMap_append]
  congr 1
  · have e : ∀ x ∈ List.range t, lnL (A (ps x)) (.slice (some ⟨q x, 0, none⟩) (ps (x + 1) - ps x) (d x)) (mas A (ps x) (ps (x + 1))) (cen A (ps x) (ps (x + 1))) (C (ps x) (ps (x + 1))) = lnL (A (ps x)) (.slice (some ⟨upN q t a x, 0, none⟩) (ps (x + 1) - ps x) (upN d t da x)) (mas A (ps x) (ps (x + 1))) (cen A (ps x) (ps (x + 1))) (C (ps x) (ps (x + 1))) := fun x hx => by
      have := List.mem_range.1 hx
      unfold upN
      rw [if_neg (by omega), if_neg (by omega)]
    rw [List.flatMap_def, List.flatMap_def, List.map_congr_left e]
  · simp [upN]
theorem own_grown {W w' : World} {ob : Obj} {b b' s s' k k' : Nat} {t e : TypeId} {v v' : Value} {xs ys : List Value} (h : W.ownsRow b t s v k xs) (row : W.ownsRow b' e s' v' k' ys) (ne : t ≠ e) (gr : (W.alloc ob).grownBy w' v'.ownBlock) : w'.ownsRow b t s v k xs := by
  refine ⟨h.1, ?_⟩
  rcases h.2 with h0 | ⟨q, cap, cur, rfl, hb, hq, r⟩
  · exact .inl h0
  · refine .inr ⟨q, cap, cur, rfl, hb, ?_, r⟩
    have ql : q < W.heap.size := (Array.getElem?_eq_some_iff.1 hq).1
    rw [gr.block q (by simp; omega) (fun e1 => ?_), ((Below.refl W.heap.size W).alloc (Nat.le_refl _) ob).block q ql]
    · exact hq
    · rcases row.2 with ⟨rfl, _⟩ | ⟨q', cap', cur', rfl, _, hq', _⟩
      · cases e1
      · have e2 : q = q' := Option.some.inj e1
        subst e2
        rw [hq] at hq'
        cases hq'
        exact ne rfl
theorem int_ne_line : (3 : TypeId) ≠ 38 := by decide
theorem ln_cells {w : World} (s : Fl) (v : Value) (gr ce co : Int) (hv : v.cells = #[v]) : ∀ j u, (lnL s v gr ce co)[j]? = some u → (w.alloc (Obj.cells #[.int .u8 s.ka, .int .u8 s.kb, .int .u8 s.kc, .int .u8 s.kd, v, .int .i64 gr, .int .i64 ce, .int .i64 co] 38)).cell? ((⟨w.heap.size, 0, none⟩ : Addr).add j) = some u :=
  World.news_of_block (cs := #[.int .u8 s.ka, .int .u8 s.kb, .int .u8 s.kc, .int .u8 s.kd, v, .int .i64 gr, .int .i64 ce, .int .i64 co]) (t := 38) (fr := (0, 0)) (heap_alloc_new _ _)
theorem ln_one (s : Fl) (q : Option Addr) (k c : Nat) (gr ce co : Int) : ∀ u ∈ lnL s (.slice q k c) gr ce co, u.oneCell' = true := by
  intro u hu
  simp [lnL] at hu
  rcases hu with rfl | rfl | rfl | rfl | rfl | rfl | rfl | rfl <;> rfl

set_option maxRecDepth 100000 in
set_option maxHeartbeats 16000000 in
theorem plan_any (ls le sp : Int) (gp gf gc gR cR n m : Nat) (A : Nat → Fl) (o : Nat → Int) (C : Nat → Nat → Int) (w : World) (hp : NmR w (some ⟨gp, 0, none⟩) n o) (hf : FlR w (some ⟨gf, 0, none⟩) n A) (hc : CoR w (some ⟨gc, 0, none⟩) n (n + 1) C) (hr : CoR w (some ⟨gR, 0, none⟩) (m + 1) (n + 1) (rowK C n)) (ln : n ≤ 140) (m16 : m ≤ 16) (ok : ∀ k, k < n → (A k).ok) (M : Int) (hM : 0 ≤ M ∧ M ≤ 1503238553600000)
    (b1 : ∀ a j, j ≤ n → -1 ≤ C a j ∧ C a j ≤ M) (h0 : rowK C n m 0 ≠ -1) :
    Calls Try.prog 36 #[clV ls le sp (.slice (some ⟨gp, 0, none⟩) n n) (.slice (some ⟨gf, 0, none⟩) n n) (.slice (some ⟨gc, 0, none⟩) n n), .slice (some ⟨gR, 0, none⟩) (m + 1) cR] w fun e w' => ∃ v, e = .returned v ∧ PlR w.heap.size A o C (pos C n m) m v w' ∧ Below w.heap.size w w' := by
  obtain ⟨i3, hi3, hw0, hw1, hw2⟩ := info_parts lnInfo
  have HPp := Lib.hid hp
  have HF := Lib.hid hf
  have HCc := Lib.hid hc
  have HRr := Lib.hid hr
  have OK := Lib.hid ok
  have BD := Lib.hid b1
  have RB := Lib.hid (rowK_bd (C := C) (n := n) (M := M) hM.1 (fun i j _ h => b1 i j h))
  have PO := Lib.hid (fun t (h : t ≤ m) => pos_ok (C := C) (n := n) (m := m) h0 h)
  have B1 := Lib.hid (show Below w.heap.size w (w.alloc (Obj.cells #[.int .i64 ls, .int .i64 le, .int .i64 sp, .slice (some ⟨gp, 0, none⟩) n n, .slice (some ⟨gf, 0, none⟩) n n, .slice (some ⟨gc, 0, none⟩) n n] 67)) from (Below.refl _ _).alloc (Nat.le_refl _) _)
  have OC := Lib.hid (ob_cl w ls le sp (.slice (some ⟨gp, 0, none⟩) n n) (.slice (some ⟨gf, 0, none⟩) n n) (.slice (some ⟨gc, 0, none⟩) n n) 67)
  have em : IntKind.i64.wrap ((m : Int) + 1 - 1) = (m : Int) := by rw [hwI (by omega) (by omega)]; omega
  have em2 : IntKind.i64.wrap ((((m + 1 : Nat)) : Int) - 1) = (m : Int) := by rw [hwI (by omega) (by omega)]; omega
  have em3 : IntKind.i64.wrap (m : Int) = (m : Int) := hwI (by omega) (by omega)
  clear hp hf hc hr ok b1
  unfold clV
  go_enter Try.func36, Try.ntmps36
  go_upto_region 1 with fail
  generalize (w.alloc (Obj.cells #[.int .i64 ls, .int .i64 le, .int .i64 sp, .slice (some ⟨gp, 0, none⟩) n n, .slice (some ⟨gf, 0, none⟩) n n, .slice (some ⟨gc, 0, none⟩) n n] 67)) = wa at *
  go_wp2_with fail
  go_loopw [5, 6, 7] (fun lv iv kv wr => ∃ (t : Nat), t ≤ m ∧ kv = .int .i64 ((m - t : Nat) : Int) ∧ iv = .int .i64 ((pos C n m t : Nat) : Int) ∧ Hid (PlR wa.heap.size A o C (pos C n m) t lv wr) ∧ Hid (Below wa.heap.size wa wr)) (fun _ _ kv _ => (intOf kv).toNat)
  case atStart => exact ⟨0, Nat.zero_le _, by simp, rfl, Lib.hid ⟨fun _ => 0, fun _ => 0, World.ownsRow_nil _ _ _ _, fun x hx => absurd hx (by omega)⟩, Lib.hid (Below.refl _ _)⟩
  case round =>
    obtain ⟨t, ht, ek, ei, HP, HW⟩ := hrel
    by_cases t1 : t < m
    case pos =>
      obtain ⟨kk, hkk⟩ : ∃ kk, m - t = kk + 1 := ⟨m - t - 1, by omega⟩
      have PT := Lib.hid (PO.out t ht)
      rw [hkk] at PT
      have NT := Lib.hid (nxt_ok PT.out.1)
      have PS := Lib.hid (show pos C n m (t + 1) = nxt C n kk (pos C n m t) from by
        show nxt C n (m - 1 - t) (pos C n m t) = _
        rw [show m - 1 - t = kk by omega])
      have KM := Lib.hid (show kk + 1 ≤ m ∧ m - (t + 1) = kk from by omega)
      rw [hkk] at ek
      obtain ⟨i, hi⟩ : ∃ i, i = pos C n m t := ⟨_, rfl⟩
      rw [← hi] at ei PT NT PS
      have HI := Lib.hid hi
      rw [show (((kk + 1 : Nat)) : Int) = (kk : Int) + 1 by omega] at ek
      subst ek
      subst ei
      clear hkk hi
      have ein := NT.out.1
      have inn := NT.out.2.1
      have kkm := KM.out.1
      have k1 : (0 : Int) < (kk : Int) + 1 := by omega
      have k2 : (0 : Int) ≤ (kk : Int) := by omega
      have k3 : (kk : Int) < (m : Int) + 1 := by omega
      have k4 : (kk : Int) < ((m + 1 : Nat) : Int) := by omega
      have k5 : (0 : Int) ≤ (kk : Int) + 1 := by omega
      have k6 : (kk : Int) + 1 < (m : Int) + 1 := by omega
      have k7 : (kk : Int) + 1 < ((m + 1 : Nat) : Int) := by omega
      have k8 : (kk : Int) < (m : Int) := by omega
      have i1 : (0 : Int) ≤ (i : Int) := by omega
      have i2 : (i : Int) < (n : Int) + 1 := by omega
      have i3' : (i : Int) < ((n + 1 : Nat) : Int) := by omega
      have ekk : IntKind.i64.wrap ((kk : Int) + 1 - 1) = (kk : Int) := by rw [hwI (by omega) (by omega)]; omega
      have ekk3 : IntKind.i64.wrap (kk : Int) = (kk : Int) := hwI (by omega) (by omega)
      have eii : IntKind.i64.wrap ((i : Int) + 1) = (i : Int) + 1 := hwI (by omega) (by omega)
      go_wp2_with fail
      go_loopw [8] (fun jv wq => ∃ (j : Nat), i + 1 ≤ j ∧ j ≤ nxt C n kk i ∧ jv = .int .i64 (j : Int) ∧ Hid (PlR wa.heap.size A o C (pos C n m) t u5 wq) ∧ Hid (Below wa.heap.size wa wq)) (fun jv _ => n + 1 - (intOf jv).toNat)
      case atStart => exact ⟨i + 1, Nat.le_refl _, ein, by simp, HP, HW⟩
      case round =>
        clear HP HW
        obtain ⟨j, hj1, hj2, rfl, HP, HW⟩ := hrel
        rename World => wq
        have j1 : (0 : Int) ≤ (j : Int) := by omega
        have ej : IntKind.i64.wrap ((j : Int) + 1) = (j : Int) + 1 := hwI (by omega) (by omega)
        have BWQ := Lib.hid (B1.out.trans (HW.out.mono B1.out.size))
        have OCq := OC.out.below HW.out
        have c0 : wq.cell? ⟨w.heap.size, 0, none⟩ = some (.int .i64 ls) := OCq.cell (k := 0) (by decide)
        have c1 : wq.cell? ⟨w.heap.size, 1, none⟩ = some (.int .i64 le) := OCq.cell (k := 1) (by decide)
        have c2 : wq.cell? ⟨w.heap.size, 2, none⟩ = some (.int .i64 sp) := OCq.cell (k := 2) (by decide)
        have c3 : wq.cell? ⟨w.heap.size, 3, none⟩ = some (.slice (some ⟨gp, 0, none⟩) n n) := OCq.cell (k := 3) (by decide)
        have c4 : wq.cell? ⟨w.heap.size, 4, none⟩ = some (.slice (some ⟨gf, 0, none⟩) n n) := OCq.cell (k := 4) (by decide)
        have c5 : wq.cell? ⟨w.heap.size, 5, none⟩ = some (.slice (some ⟨gc, 0, none⟩) n n) := OCq.cell (k := 5) (by decide)
        clear OCq
        obtain ⟨x', q0, d0, ex, -, r0, n0⟩ := (HRr.out.below BWQ.out) kk (by omega)
        cases ex
        rw [add0] at r0
        obtain ⟨x', q1, d1, ex, -, r1, n1⟩ := (HRr.out.below BWQ.out) (kk + 1) (by omega)
        cases ex
        rw [add0] at r1
        obtain ⟨y1, rfl, -, v1⟩ := n1 i (by omega)
        have N0 := Lib.hid n0
        have CW := Lib.hid (show ∀ W, Below wq.heap.size wq W → Calls Try.prog 49 #[.agg #[.int .i64 ls, .int .i64 le, .int .i64 sp, .slice (some ⟨gp, 0, none⟩) n n, .slice (some ⟨gf, 0, none⟩) n n, .slice (some ⟨gc, 0, none⟩) n n], .int .i64 i, .int .i64 j, .slice q0 (n + 1) d0] W fun e w' => e = .returned (.int .i64 (both (C i j) (rowK C n kk j))) ∧ Below W.heap.size W w' from fun W b => by
          have h := costWith_any ls le sp (some ⟨gp, 0, none⟩) (some ⟨gf, 0, none⟩) (some ⟨gc, 0, none⟩) q0 n n n n n (n + 1) n d0 i j C (rowK C n kk) W ((HCc.out.below BWQ.out).below b) (N0.out.below b) (by omega) (by omega) (by omega) (by omega) (by have := BD.out i j (by omega); omega) (by
            have := RB.out kk j
            have hm : M * (kk : Int) ≤ 1503238553600000 * 16 := Int.mul_le_mul hM.2 (by omega) (by omega) (by omega)
            omega)
          exact h)
        clear n0 n1
        by_cases hit : both (C i j) (rowK C n kk j) = rowK C n (kk + 1) i
        case neg =>
          have jn : j < nxt C n kk i := by
            rcases Nat.lt_or_ge j (nxt C n kk i) with h | h
            · exact h
            · exact absurd (by rw [show j = nxt C n kk i by omega]; exact NT.out.2.2) hit
          have dn : (both (C i j) (rowK C n kk j) != rowK C n (kk + 1) i) = true := by simpa using hit
          clear hit
          go_upto_region 7 with fail
          refine wp_region_G (fun w' => w'.cell? ⟨w.heap.size, 0, none⟩ = some (.int .i64 ls) ∧ w'.cell? ⟨w.heap.size, 1, none⟩ = some (.int .i64 le) ∧ w'.cell? ⟨w.heap.size, 2, none⟩ = some (.int .i64 sp) ∧ w'.cell? ⟨w.heap.size, 3, none⟩ = some (.slice (some ⟨gp, 0, none⟩) n n) ∧ w'.cell? ⟨w.heap.size, 4, none⟩ = some (.slice (some ⟨gf, 0, none⟩) n n) ∧ w'.cell? ⟨w.heap.size, 5, none⟩ = some (.slice (some ⟨gc, 0, none⟩) n n) ∧ w'.cell? ⟨gR, kk, none⟩ = some (.slice q0 (n + 1) d0) ∧ w'.cell? ⟨gR, kk + 1, none⟩ = some (.slice (some y1) (n + 1) d1) ∧ w'.cell? (y1.add i) = some (.int .i64 (rowK C n (kk + 1) i))) 17 (by kernel_rfl) ?_
          have hS : wq.drew.cell? ⟨w.heap.size, 0, none⟩ = some (.int .i64 ls) ∧ wq.drew.cell? ⟨w.heap.size, 1, none⟩ = some (.int .i64 le) ∧ wq.drew.cell? ⟨w.heap.size, 2, none⟩ = some (.int .i64 sp) ∧ wq.drew.cell? ⟨w.heap.size, 3, none⟩ = some (.slice (some ⟨gp, 0, none⟩) n n) ∧ wq.drew.cell? ⟨w.heap.size, 4, none⟩ = some (.slice (some ⟨gf, 0, none⟩) n n) ∧ wq.drew.cell? ⟨w.heap.size, 5, none⟩ = some (.slice (some ⟨gc, 0, none⟩) n n) ∧ wq.drew.cell? ⟨gR, kk, none⟩ = some (.slice q0 (n + 1) d0) ∧ wq.drew.cell? ⟨gR, kk + 1, none⟩ = some (.slice (some y1) (n + 1) d1) ∧ wq.drew.cell? (y1.add i) = some (.int .i64 (rowK C n (kk + 1) i)) := ⟨cellDr c0, cellDr c1, cellDr c2, cellDr c3, cellDr c4, cellDr c5, cellDr r0, cellDr r1, cellDr v1⟩
          refine wpAnyG_take (i := 0) (oi := _) (v := .agg #[.int .i64 ls, .int .i64 le, .int .i64 sp, .slice (some ⟨gp, 0, none⟩) n n, .slice (some ⟨gf, 0, none⟩) n n, .slice (some ⟨gc, 0, none⟩) n n]) rfl (by kernel_rfl) (by kernel_rfl) (by kernel_rfl) (by kernel_rfl) (by kernel_rfl) (by decide) (fun _ _ _ h => h) (by rfl) (fun w' hw' => ?_) hS ?_
          · obtain ⟨h1, h2, h3, h4, h5, h6, h7, h8, h9⟩ := hw'
            go_simp
          try simp only [Act.put, List.getElem_toArray, List.getElem_cons_zero, List.getElem_cons_succ, List.setIfInBounds_toArray, List.set_cons_zero, List.set_cons_succ]
          refine wpAnyG_take (i := 1) (oi := _) (v := .int .i64 (i : Int)) rfl (by kernel_rfl) (by kernel_rfl) (by kernel_rfl) (by kernel_rfl) (by kernel_rfl) (by decide) (fun _ _ _ h => h) (by rfl) (fun w' hw' => ?_) hS ?_
          · obtain ⟨h1, h2, h3, h4, h5, h6, h7, h8, h9⟩ := hw'
            go_simp
          try simp only [Act.put, List.getElem_toArray, List.getElem_cons_zero, List.getElem_cons_succ, List.setIfInBounds_toArray, List.set_cons_zero, List.set_cons_succ]
          refine wpAnyG_take (i := 2) (oi := _) (v := .int .i64 (j : Int)) rfl (by kernel_rfl) (by kernel_rfl) (by kernel_rfl) (by kernel_rfl) (by kernel_rfl) (by decide) (fun _ _ _ h => h) (by rfl) (fun w' hw' => ?_) hS ?_
          · obtain ⟨h1, h2, h3, h4, h5, h6, h7, h8, h9⟩ := hw'
            go_simp
          try simp only [Act.put, List.getElem_toArray, List.getElem_cons_zero, List.getElem_cons_succ, List.setIfInBounds_toArray, List.set_cons_zero, List.set_cons_succ]
          refine wpAnyG_take (i := 3) (oi := _) (v := .slice (some ⟨gR, 0, none⟩) (m + 1) cR) rfl (by kernel_rfl) (by kernel_rfl) (by kernel_rfl) (by kernel_rfl) (by kernel_rfl) (by decide) (fun _ _ _ h => h) (by rfl) (fun w' hw' => ?_) hS ?_
          · obtain ⟨h1, h2, h3, h4, h5, h6, h7, h8, h9⟩ := hw'
            go_simp
          try simp only [Act.put, List.getElem_toArray, List.getElem_cons_zero, List.getElem_cons_succ, List.setIfInBounds_toArray, List.set_cons_zero, List.set_cons_succ]
          refine wpAnyG_take (i := 4) (oi := _) (v := .int .i64 ((kk : Int) + 1)) rfl (by kernel_rfl) (by kernel_rfl) (by kernel_rfl) (by kernel_rfl) (by kernel_rfl) (by decide) (fun _ _ _ h => h) (by rfl) (fun w' hw' => ?_) hS ?_
          · obtain ⟨h1, h2, h3, h4, h5, h6, h7, h8, h9⟩ := hw'
            go_simp
          try simp only [Act.put, List.getElem_toArray, List.getElem_cons_zero, List.getElem_cons_succ, List.setIfInBounds_toArray, List.set_cons_zero, List.set_cons_succ]
          refine wpAnyG_take (i := 5) (oi := _) (v := .int .i64 (kk : Int)) rfl (by kernel_rfl) (by kernel_rfl) (by kernel_rfl) (by kernel_rfl) (by kernel_rfl) (by decide) (fun _ _ _ h => h) (by rfl) (fun w' hw' => ?_) hS ?_
          · obtain ⟨h1, h2, h3, h4, h5, h6, h7, h8, h9⟩ := hw'
            go_simp
          try simp only [Act.put, List.getElem_toArray, List.getElem_cons_zero, List.getElem_cons_succ, List.setIfInBounds_toArray, List.set_cons_zero, List.set_cons_succ]
          refine wpAnyG_take (i := 6) (oi := _) (v := .pointer (some ⟨gR, kk, none⟩)) rfl (by kernel_rfl) (by kernel_rfl) (by kernel_rfl) (by kernel_rfl) (by kernel_rfl) (by decide) (fun _ _ _ h => h) (by rfl) (fun w' hw' => ?_) hS ?_
          · obtain ⟨h1, h2, h3, h4, h5, h6, h7, h8, h9⟩ := hw'
            go_simp
          try simp only [Act.put, List.getElem_toArray, List.getElem_cons_zero, List.getElem_cons_succ, List.setIfInBounds_toArray, List.set_cons_zero, List.set_cons_succ]
          refine wpAnyG_take (i := 7) (oi := _) (v := .slice q0 (n + 1) d0) rfl (by kernel_rfl) (by kernel_rfl) (by kernel_rfl) (by kernel_rfl) (by kernel_rfl) (by decide) (fun _ _ _ h => h) (by rfl) (fun w' hw' => ?_) hS ?_
          · obtain ⟨h1, h2, h3, h4, h5, h6, h7, h8, h9⟩ := hw'
            go_simp
          try simp only [Act.put, List.getElem_toArray, List.getElem_cons_zero, List.getElem_cons_succ, List.setIfInBounds_toArray, List.set_cons_zero, List.set_cons_succ]
          refine wpAnyG_take (i := 9) (oi := _) (v := .slice (some ⟨gR, 0, none⟩) (m + 1) cR) rfl (by kernel_rfl) (by kernel_rfl) (by kernel_rfl) (by kernel_rfl) (by kernel_rfl) (by decide) (fun _ _ _ h => h) (by rfl) (fun w' hw' => ?_) hS ?_
          · obtain ⟨h1, h2, h3, h4, h5, h6, h7, h8, h9⟩ := hw'
            go_simp
          try simp only [Act.put, List.getElem_toArray, List.getElem_cons_zero, List.getElem_cons_succ, List.setIfInBounds_toArray, List.set_cons_zero, List.set_cons_succ]
          refine wpAnyG_take (i := 10) (oi := _) (v := .int .i64 ((kk : Int) + 1)) rfl (by kernel_rfl) (by kernel_rfl) (by kernel_rfl) (by kernel_rfl) (by kernel_rfl) (by decide) (fun _ _ _ h => h) (by rfl) (fun w' hw' => ?_) hS ?_
          · obtain ⟨h1, h2, h3, h4, h5, h6, h7, h8, h9⟩ := hw'
            go_simp
          try simp only [Act.put, List.getElem_toArray, List.getElem_cons_zero, List.getElem_cons_succ, List.setIfInBounds_toArray, List.set_cons_zero, List.set_cons_succ]
          refine wpAnyG_take (i := 11) (oi := _) (v := .pointer (some ⟨gR, kk + 1, none⟩)) rfl (by kernel_rfl) (by kernel_rfl) (by kernel_rfl) (by kernel_rfl) (by kernel_rfl) (by decide) (fun _ _ _ h => h) (by rfl) (fun w' hw' => ?_) hS ?_
          · obtain ⟨h1, h2, h3, h4, h5, h6, h7, h8, h9⟩ := hw'
            go_simp
          try simp only [Act.put, List.getElem_toArray, List.getElem_cons_zero, List.getElem_cons_succ, List.setIfInBounds_toArray, List.set_cons_zero, List.set_cons_succ]
          refine wpAnyG_take (i := 12) (oi := _) (v := .slice (some y1) (n + 1) d1) rfl (by kernel_rfl) (by kernel_rfl) (by kernel_rfl) (by kernel_rfl) (by kernel_rfl) (by decide) (fun _ _ _ h => h) (by rfl) (fun w' hw' => ?_) hS ?_
          · obtain ⟨h1, h2, h3, h4, h5, h6, h7, h8, h9⟩ := hw'
            go_simp
          try simp only [Act.put, List.getElem_toArray, List.getElem_cons_zero, List.getElem_cons_succ, List.setIfInBounds_toArray, List.set_cons_zero, List.set_cons_succ]
          refine wpAnyG_take (i := 13) (oi := _) (v := .int .i64 (i : Int)) rfl (by kernel_rfl) (by kernel_rfl) (by kernel_rfl) (by kernel_rfl) (by kernel_rfl) (by decide) (fun _ _ _ h => h) (by rfl) (fun w' hw' => ?_) hS ?_
          · obtain ⟨h1, h2, h3, h4, h5, h6, h7, h8, h9⟩ := hw'
            go_simp
          try simp only [Act.put, List.getElem_toArray, List.getElem_cons_zero, List.getElem_cons_succ, List.setIfInBounds_toArray, List.set_cons_zero, List.set_cons_succ]
          refine wpAnyG_take (i := 14) (oi := _) (v := .pointer (some (y1.add i))) rfl (by kernel_rfl) (by kernel_rfl) (by kernel_rfl) (by kernel_rfl) (by kernel_rfl) (by decide) (fun _ _ _ h => h) (by rfl) (fun w' hw' => ?_) hS ?_
          · obtain ⟨h1, h2, h3, h4, h5, h6, h7, h8, h9⟩ := hw'
            go_simp
          try simp only [Act.put, List.getElem_toArray, List.getElem_cons_zero, List.getElem_cons_succ, List.setIfInBounds_toArray, List.set_cons_zero, List.set_cons_succ]
          refine wpAnyG_take (i := 15) (oi := _) (v := .int .i64 (rowK C n (kk + 1) i)) rfl (by kernel_rfl) (by kernel_rfl) (by kernel_rfl) (by kernel_rfl) (by kernel_rfl) (by decide) (fun _ _ _ h => h) (by rfl) (fun w' hw' => ?_) hS ?_
          · obtain ⟨h1, h2, h3, h4, h5, h6, h7, h8, h9⟩ := hw'
            go_simp
          try simp only [Act.put, List.getElem_toArray, List.getElem_cons_zero, List.getElem_cons_succ, List.setIfInBounds_toArray, List.set_cons_zero, List.set_cons_succ]
          refine wpAnyG_one (i := 8) (o := _) (by kernel_rfl) rfl (fun KK hK => ?_)
          go_simp
          refine (CW.out _ (Below.refl _ _).drew).mono ?_
          rintro e w5 ⟨rfl, q5⟩
          have q6 := Lib.hid (show Below wq.heap.size wq w5 from (Below.refl _ _).drew.trans q5)
          refine hK.out _ _ (fun _ => ⟨cellGr q6.out c0, cellGr q6.out c1, cellGr q6.out c2, cellGr q6.out c3, cellGr q6.out c4, cellGr q6.out c5, cellGr q6.out r0, cellGr q6.out r1, cellGr q6.out v1⟩) ?_
          try simp only [Act.put, List.getElem_toArray, List.getElem_cons_zero, List.getElem_cons_succ, List.setIfInBounds_toArray, List.set_cons_zero, List.set_cons_succ]
          clear hK q5
          have hS5 : w5.cell? ⟨w.heap.size, 0, none⟩ = some (.int .i64 ls) ∧ w5.cell? ⟨w.heap.size, 1, none⟩ = some (.int .i64 le) ∧ w5.cell? ⟨w.heap.size, 2, none⟩ = some (.int .i64 sp) ∧ w5.cell? ⟨w.heap.size, 3, none⟩ = some (.slice (some ⟨gp, 0, none⟩) n n) ∧ w5.cell? ⟨w.heap.size, 4, none⟩ = some (.slice (some ⟨gf, 0, none⟩) n n) ∧ w5.cell? ⟨w.heap.size, 5, none⟩ = some (.slice (some ⟨gc, 0, none⟩) n n) ∧ w5.cell? ⟨gR, kk, none⟩ = some (.slice q0 (n + 1) d0) ∧ w5.cell? ⟨gR, kk + 1, none⟩ = some (.slice (some y1) (n + 1) d1) ∧ w5.cell? (y1.add i) = some (.int .i64 (rowK C n (kk + 1) i)) := ⟨cellGr q6.out c0, cellGr q6.out c1, cellGr q6.out c2, cellGr q6.out c3, cellGr q6.out c4, cellGr q6.out c5, cellGr q6.out r0, cellGr q6.out r1, cellGr q6.out v1⟩
          refine wpAnyG_take (i := 16) (oi := _) (v := .bool true) rfl (by kernel_rfl) (by kernel_rfl) (by kernel_rfl) (by kernel_rfl) (by kernel_rfl) (by decide) (fun _ _ _ h => h) (by rfl) (fun w' hw' => ?_) hS5 ?_
          · obtain ⟨h1, h2, h3, h4, h5, h6, h7, h8, h9⟩ := hw'
            go_simp
          try simp only [Act.put, List.getElem_toArray, List.getElem_cons_zero, List.getElem_cons_succ, List.setIfInBounds_toArray, List.set_cons_zero, List.set_cons_succ]
          refine wpAnyG_done (by kernel_rfl) ?_ _
          have HP5 := Lib.hid (HP.out.below q6.out)
          have HW5 := Lib.hid (HW.out.trans (q6.out.mono HW.out.size))
          clear HP HW c0 c1 c2 c3 c4 c5 r0 r1 v1 CW hS hS5 q6 BWQ N0 dn
          go_wp2_with fail
          go_roundw
          case rel => exact ⟨j + 1, by omega, by omega, by go_num, HP5, HW5⟩
          case measure => simp [intOf]; omega
        have jnx : j = nxt C n kk i := by
          rcases Nat.lt_or_ge j (nxt C n kk i) with h | h
          · exact absurd hit (nxt_min (by omega) h)
          · omega
        have PJ := Lib.hid (PS.out.trans jnx.symm)
        have jn : j ≤ n := by omega
        have dn : (both (C i j) (rowK C n kk j) != rowK C n (kk + 1) i) = false := by simpa using hit
        clear jnx hj2
        go_upto_region 7 with fail
        refine wp_region_G (fun w' => w'.cell? ⟨w.heap.size, 0, none⟩ = some (.int .i64 ls) ∧ w'.cell? ⟨w.heap.size, 1, none⟩ = some (.int .i64 le) ∧ w'.cell? ⟨w.heap.size, 2, none⟩ = some (.int .i64 sp) ∧ w'.cell? ⟨w.heap.size, 3, none⟩ = some (.slice (some ⟨gp, 0, none⟩) n n) ∧ w'.cell? ⟨w.heap.size, 4, none⟩ = some (.slice (some ⟨gf, 0, none⟩) n n) ∧ w'.cell? ⟨w.heap.size, 5, none⟩ = some (.slice (some ⟨gc, 0, none⟩) n n) ∧ w'.cell? ⟨gR, kk, none⟩ = some (.slice q0 (n + 1) d0) ∧ w'.cell? ⟨gR, kk + 1, none⟩ = some (.slice (some y1) (n + 1) d1) ∧ w'.cell? (y1.add i) = some (.int .i64 (rowK C n (kk + 1) i))) 17 (by kernel_rfl) ?_
        have hS : wq.drew.cell? ⟨w.heap.size, 0, none⟩ = some (.int .i64 ls) ∧ wq.drew.cell? ⟨w.heap.size, 1, none⟩ = some (.int .i64 le) ∧ wq.drew.cell? ⟨w.heap.size, 2, none⟩ = some (.int .i64 sp) ∧ wq.drew.cell? ⟨w.heap.size, 3, none⟩ = some (.slice (some ⟨gp, 0, none⟩) n n) ∧ wq.drew.cell? ⟨w.heap.size, 4, none⟩ = some (.slice (some ⟨gf, 0, none⟩) n n) ∧ wq.drew.cell? ⟨w.heap.size, 5, none⟩ = some (.slice (some ⟨gc, 0, none⟩) n n) ∧ wq.drew.cell? ⟨gR, kk, none⟩ = some (.slice q0 (n + 1) d0) ∧ wq.drew.cell? ⟨gR, kk + 1, none⟩ = some (.slice (some y1) (n + 1) d1) ∧ wq.drew.cell? (y1.add i) = some (.int .i64 (rowK C n (kk + 1) i)) := ⟨cellDr c0, cellDr c1, cellDr c2, cellDr c3, cellDr c4, cellDr c5, cellDr r0, cellDr r1, cellDr v1⟩
        refine wpAnyG_take (i := 0) (oi := _) (v := .agg #[.int .i64 ls, .int .i64 le, .int .i64 sp, .slice (some ⟨gp, 0, none⟩) n n, .slice (some ⟨gf, 0, none⟩) n n, .slice (some ⟨gc, 0, none⟩) n n]) rfl (by kernel_rfl) (by kernel_rfl) (by kernel_rfl) (by kernel_rfl) (by kernel_rfl) (by decide) (fun _ _ _ h => h) (by rfl) (fun w' hw' => ?_) hS ?_
        · obtain ⟨h1, h2, h3, h4, h5, h6, h7, h8, h9⟩ := hw'
          go_simp
        try simp only [Act.put, List.getElem_toArray, List.getElem_cons_zero, List.getElem_cons_succ, List.setIfInBounds_toArray, List.set_cons_zero, List.set_cons_succ]
        refine wpAnyG_take (i := 1) (oi := _) (v := .int .i64 (i : Int)) rfl (by kernel_rfl) (by kernel_rfl) (by kernel_rfl) (by kernel_rfl) (by kernel_rfl) (by decide) (fun _ _ _ h => h) (by rfl) (fun w' hw' => ?_) hS ?_
        · obtain ⟨h1, h2, h3, h4, h5, h6, h7, h8, h9⟩ := hw'
          go_simp
        try simp only [Act.put, List.getElem_toArray, List.getElem_cons_zero, List.getElem_cons_succ, List.setIfInBounds_toArray, List.set_cons_zero, List.set_cons_succ]
        refine wpAnyG_take (i := 2) (oi := _) (v := .int .i64 (j : Int)) rfl (by kernel_rfl) (by kernel_rfl) (by kernel_rfl) (by kernel_rfl) (by kernel_rfl) (by decide) (fun _ _ _ h => h) (by rfl) (fun w' hw' => ?_) hS ?_
        · obtain ⟨h1, h2, h3, h4, h5, h6, h7, h8, h9⟩ := hw'
          go_simp
        try simp only [Act.put, List.getElem_toArray, List.getElem_cons_zero, List.getElem_cons_succ, List.setIfInBounds_toArray, List.set_cons_zero, List.set_cons_succ]
        refine wpAnyG_take (i := 3) (oi := _) (v := .slice (some ⟨gR, 0, none⟩) (m + 1) cR) rfl (by kernel_rfl) (by kernel_rfl) (by kernel_rfl) (by kernel_rfl) (by kernel_rfl) (by decide) (fun _ _ _ h => h) (by rfl) (fun w' hw' => ?_) hS ?_
        · obtain ⟨h1, h2, h3, h4, h5, h6, h7, h8, h9⟩ := hw'
          go_simp
        try simp only [Act.put, List.getElem_toArray, List.getElem_cons_zero, List.getElem_cons_succ, List.setIfInBounds_toArray, List.set_cons_zero, List.set_cons_succ]
        refine wpAnyG_take (i := 4) (oi := _) (v := .int .i64 ((kk : Int) + 1)) rfl (by kernel_rfl) (by kernel_rfl) (by kernel_rfl) (by kernel_rfl) (by kernel_rfl) (by decide) (fun _ _ _ h => h) (by rfl) (fun w' hw' => ?_) hS ?_
        · obtain ⟨h1, h2, h3, h4, h5, h6, h7, h8, h9⟩ := hw'
          go_simp
        try simp only [Act.put, List.getElem_toArray, List.getElem_cons_zero, List.getElem_cons_succ, List.setIfInBounds_toArray, List.set_cons_zero, List.set_cons_succ]
        refine wpAnyG_take (i := 5) (oi := _) (v := .int .i64 (kk : Int)) rfl (by kernel_rfl) (by kernel_rfl) (by kernel_rfl) (by kernel_rfl) (by kernel_rfl) (by decide) (fun _ _ _ h => h) (by rfl) (fun w' hw' => ?_) hS ?_
        · obtain ⟨h1, h2, h3, h4, h5, h6, h7, h8, h9⟩ := hw'
          go_simp
        try simp only [Act.put, List.getElem_toArray, List.getElem_cons_zero, List.getElem_cons_succ, List.setIfInBounds_toArray, List.set_cons_zero, List.set_cons_succ]
        refine wpAnyG_take (i := 6) (oi := _) (v := .pointer (some ⟨gR, kk, none⟩)) rfl (by kernel_rfl) (by kernel_rfl) (by kernel_rfl) (by kernel_rfl) (by kernel_rfl) (by decide) (fun _ _ _ h => h) (by rfl) (fun w' hw' => ?_) hS ?_
        · obtain ⟨h1, h2, h3, h4, h5, h6, h7, h8, h9⟩ := hw'
          go_simp
        try simp only [Act.put, List.getElem_toArray, List.getElem_cons_zero, List.getElem_cons_succ, List.setIfInBounds_toArray, List.set_cons_zero, List.set_cons_succ]
        refine wpAnyG_take (i := 7) (oi := _) (v := .slice q0 (n + 1) d0) rfl (by kernel_rfl) (by kernel_rfl) (by kernel_rfl) (by kernel_rfl) (by kernel_rfl) (by decide) (fun _ _ _ h => h) (by rfl) (fun w' hw' => ?_) hS ?_
        · obtain ⟨h1, h2, h3, h4, h5, h6, h7, h8, h9⟩ := hw'
          go_simp
        try simp only [Act.put, List.getElem_toArray, List.getElem_cons_zero, List.getElem_cons_succ, List.setIfInBounds_toArray, List.set_cons_zero, List.set_cons_succ]
        refine wpAnyG_take (i := 9) (oi := _) (v := .slice (some ⟨gR, 0, none⟩) (m + 1) cR) rfl (by kernel_rfl) (by kernel_rfl) (by kernel_rfl) (by kernel_rfl) (by kernel_rfl) (by decide) (fun _ _ _ h => h) (by rfl) (fun w' hw' => ?_) hS ?_
        · obtain ⟨h1, h2, h3, h4, h5, h6, h7, h8, h9⟩ := hw'
          go_simp
        try simp only [Act.put, List.getElem_toArray, List.getElem_cons_zero, List.getElem_cons_succ, List.setIfInBounds_toArray, List.set_cons_zero, List.set_cons_succ]
        refine wpAnyG_take (i := 10) (oi := _) (v := .int .i64 ((kk : Int) + 1)) rfl (by kernel_rfl) (by kernel_rfl) (by kernel_rfl) (by kernel_rfl) (by kernel_rfl) (by decide) (fun _ _ _ h => h) (by rfl) (fun w' hw' => ?_) hS ?_
        · obtain ⟨h1, h2, h3, h4, h5, h6, h7, h8, h9⟩ := hw'
          go_simp
        try simp only [Act.put, List.getElem_toArray, List.getElem_cons_zero, List.getElem_cons_succ, List.setIfInBounds_toArray, List.set_cons_zero, List.set_cons_succ]
        refine wpAnyG_take (i := 11) (oi := _) (v := .pointer (some ⟨gR, kk + 1, none⟩)) rfl (by kernel_rfl) (by kernel_rfl) (by kernel_rfl) (by kernel_rfl) (by kernel_rfl) (by decide) (fun _ _ _ h => h) (by rfl) (fun w' hw' => ?_) hS ?_
        · obtain ⟨h1, h2, h3, h4, h5, h6, h7, h8, h9⟩ := hw'
          go_simp
        try simp only [Act.put, List.getElem_toArray, List.getElem_cons_zero, List.getElem_cons_succ, List.setIfInBounds_toArray, List.set_cons_zero, List.set_cons_succ]
        refine wpAnyG_take (i := 12) (oi := _) (v := .slice (some y1) (n + 1) d1) rfl (by kernel_rfl) (by kernel_rfl) (by kernel_rfl) (by kernel_rfl) (by kernel_rfl) (by decide) (fun _ _ _ h => h) (by rfl) (fun w' hw' => ?_) hS ?_
        · obtain ⟨h1, h2, h3, h4, h5, h6, h7, h8, h9⟩ := hw'
          go_simp
        try simp only [Act.put, List.getElem_toArray, List.getElem_cons_zero, List.getElem_cons_succ, List.setIfInBounds_toArray, List.set_cons_zero, List.set_cons_succ]
        refine wpAnyG_take (i := 13) (oi := _) (v := .int .i64 (i : Int)) rfl (by kernel_rfl) (by kernel_rfl) (by kernel_rfl) (by kernel_rfl) (by kernel_rfl) (by decide) (fun _ _ _ h => h) (by rfl) (fun w' hw' => ?_) hS ?_
        · obtain ⟨h1, h2, h3, h4, h5, h6, h7, h8, h9⟩ := hw'
          go_simp
        try simp only [Act.put, List.getElem_toArray, List.getElem_cons_zero, List.getElem_cons_succ, List.setIfInBounds_toArray, List.set_cons_zero, List.set_cons_succ]
        refine wpAnyG_take (i := 14) (oi := _) (v := .pointer (some (y1.add i))) rfl (by kernel_rfl) (by kernel_rfl) (by kernel_rfl) (by kernel_rfl) (by kernel_rfl) (by decide) (fun _ _ _ h => h) (by rfl) (fun w' hw' => ?_) hS ?_
        · obtain ⟨h1, h2, h3, h4, h5, h6, h7, h8, h9⟩ := hw'
          go_simp
        try simp only [Act.put, List.getElem_toArray, List.getElem_cons_zero, List.getElem_cons_succ, List.setIfInBounds_toArray, List.set_cons_zero, List.set_cons_succ]
        refine wpAnyG_take (i := 15) (oi := _) (v := .int .i64 (rowK C n (kk + 1) i)) rfl (by kernel_rfl) (by kernel_rfl) (by kernel_rfl) (by kernel_rfl) (by kernel_rfl) (by decide) (fun _ _ _ h => h) (by rfl) (fun w' hw' => ?_) hS ?_
        · obtain ⟨h1, h2, h3, h4, h5, h6, h7, h8, h9⟩ := hw'
          go_simp
        try simp only [Act.put, List.getElem_toArray, List.getElem_cons_zero, List.getElem_cons_succ, List.setIfInBounds_toArray, List.set_cons_zero, List.set_cons_succ]
        refine wpAnyG_one (i := 8) (o := _) (by kernel_rfl) rfl (fun KK hK => ?_)
        go_simp
        refine (CW.out _ (Below.refl _ _).drew).mono ?_
        rintro e w5 ⟨rfl, q5⟩
        have q6 := Lib.hid (show Below wq.heap.size wq w5 from (Below.refl _ _).drew.trans q5)
        refine hK.out _ _ (fun _ => ⟨cellGr q6.out c0, cellGr q6.out c1, cellGr q6.out c2, cellGr q6.out c3, cellGr q6.out c4, cellGr q6.out c5, cellGr q6.out r0, cellGr q6.out r1, cellGr q6.out v1⟩) ?_
        try simp only [Act.put, List.getElem_toArray, List.getElem_cons_zero, List.getElem_cons_succ, List.setIfInBounds_toArray, List.set_cons_zero, List.set_cons_succ]
        clear hK q5
        have hS5 : w5.cell? ⟨w.heap.size, 0, none⟩ = some (.int .i64 ls) ∧ w5.cell? ⟨w.heap.size, 1, none⟩ = some (.int .i64 le) ∧ w5.cell? ⟨w.heap.size, 2, none⟩ = some (.int .i64 sp) ∧ w5.cell? ⟨w.heap.size, 3, none⟩ = some (.slice (some ⟨gp, 0, none⟩) n n) ∧ w5.cell? ⟨w.heap.size, 4, none⟩ = some (.slice (some ⟨gf, 0, none⟩) n n) ∧ w5.cell? ⟨w.heap.size, 5, none⟩ = some (.slice (some ⟨gc, 0, none⟩) n n) ∧ w5.cell? ⟨gR, kk, none⟩ = some (.slice q0 (n + 1) d0) ∧ w5.cell? ⟨gR, kk + 1, none⟩ = some (.slice (some y1) (n + 1) d1) ∧ w5.cell? (y1.add i) = some (.int .i64 (rowK C n (kk + 1) i)) := ⟨cellGr q6.out c0, cellGr q6.out c1, cellGr q6.out c2, cellGr q6.out c3, cellGr q6.out c4, cellGr q6.out c5, cellGr q6.out r0, cellGr q6.out r1, cellGr q6.out v1⟩
        refine wpAnyG_take (i := 16) (oi := _) (v := .bool false) rfl (by kernel_rfl) (by kernel_rfl) (by kernel_rfl) (by kernel_rfl) (by kernel_rfl) (by decide) (fun _ _ _ h => h) (by rfl) (fun w' hw' => ?_) hS5 ?_
        · obtain ⟨h1, h2, h3, h4, h5, h6, h7, h8, h9⟩ := hw'
          go_simp
        try simp only [Act.put, List.getElem_toArray, List.getElem_cons_zero, List.getElem_cons_succ, List.setIfInBounds_toArray, List.set_cons_zero, List.set_cons_succ]
        refine wpAnyG_done (by kernel_rfl) ?_ _
        have HP5 := Lib.hid (HP.out.below q6.out)
        have HW5 := Lib.hid (HW.out.trans (q6.out.mono HW.out.size))
        have c0 := cellGr q6.out c0
        have c1 := cellGr q6.out c1
        have c2 := cellGr q6.out c2
        have c3 := cellGr q6.out c3
        have c4 := cellGr q6.out c4
        have c5 := cellGr q6.out c5
        have BW5 := Lib.hid (B1.out.trans (HW5.out.mono B1.out.size))
        have CLn := Lib.hid (cline_any ls le sp gp gf gc n i j A o C w5 (HPp.out.below BW5.out) (HF.out.below BW5.out) (HCc.out.below BW5.out) (by omega) jn ln OK.out)
        unfold clV at CLn
        clear HP HW r0 r1 v1 CW hS hS5 q6 BWQ N0 hit
        go_wp2_with fail
        refine CLn.out.mono ?_
        rintro e w6 ⟨a, d, rfl, own, b6⟩
        have HP6 := Lib.hid (HP5.out.below b6)
        have HW6 := Lib.hid (HW5.out.trans (b6.mono HW5.out.size))
        replace own := Lib.hid (ownBase' HW5.out.size own)
        clear HP5 HW5 c0 c1 c2 c3 c4 c5 CLn b6 BW5
        obtain ⟨q, dd, oL, oR⟩ := HP6.out
        replace oL := Lib.hid oL
        replace oR := Lib.hid oR
        clear HP6
        unfold lnV
        have t16 : t ≤ 16 := by omega
        go_wp2_with (first
          | (at_builtin; refine wpList_append_own _ rfl _ _ 28 rfl wa.heap.size 38 i3 (.agg #[.int .u8 0, .int .u8 0, .int .u8 0, .int .u8 0, .slice none 0 0, .int .i64 0, .int .i64 0, .int .i64 0]) 8 56 Try.underlying28 hi3 hw0 hw1 hw2 rfl (by decide) _ _ _ rfl (oL.out.alloc _) ⟨w6.heap.size, 0, none⟩ 1 1 (lnL (A i) (.slice (some ⟨a, 0, none⟩) (j - i) d) (mas A i j) (cen A i j) (C i j)) rfl rfl (ln_cells _ _ _ _ _ rfl) (ln_one _ _ _ _ _ _ _) (by unfold maxLen; omega) (by omega) (by have := HW6.out.size; simp; omega) ?_))
        intro v' w8 hown' hgrow _
        have PR := Lib.hid (show PlR wa.heap.size A o C (pos C n m) (t + 1) v' w8 from by
          refine ⟨upN q t a, upN dd t d, ?_, fun x hx => ?_⟩
          · rw [← plL_snoc, PJ.out, ← HI.out]
            exact hown'
          · unfold upN
            by_cases e : x = t
            · rw [if_pos e, if_pos e, e, PJ.out, ← HI.out]
              exact own_grown own.out oL.out int_ne_line hgrow
            · rw [if_neg e, if_neg e]
              exact own_grown (oR.out x (by omega)) oL.out int_ne_line hgrow)
        have HW8 := Lib.hid (show Below wa.heap.size wa w8 from (HW6.out.alloc HW6.out.size _).grown hgrow (by have := HW6.out.size; simp; omega) (own_ltD oL.out))
        clear hown' hgrow oL oR own HW6
        go_wp2_with fail
        go_roundw
        case rel => exact ⟨t + 1, by omega, by rw [KM.out.2], by rw [PJ.out], PR, HW8⟩
        case measure => simp [intOf] <;> omega
    obtain rfl : t = m := by omega
    rw [Nat.sub_self] at ek
    subst ek
    subst ei
    have HH := Lib.hid (B1.out.trans (HW.out.mono B1.out.size))
    have PF := Lib.hid (show PlR w.heap.size A o C (pos C n t) t u5 wr from by
      obtain ⟨q, d, x1, x2⟩ := HP.out
      exact ⟨q, d, ownBase' B1.out.size x1, fun x hx => ownBase' B1.out.size (x2 x hx)⟩)
    go_wp2_with fail
    go_ret
    exact ⟨_, rfl, PF.out, HH.out⟩
end Go.Proofs.Ytmdhmpfagekonaa
