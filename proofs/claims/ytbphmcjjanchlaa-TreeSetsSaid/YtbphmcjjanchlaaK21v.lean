/- The example: Of and Floor. -/
import Derived.Test.YtbphmcjjanchlaaK20v
import Derived.Test.YtbphmcjjanchlaaK10v
namespace Go.Proofs.Ytbphmcjjanchlaa.Mis
open Go.RowKit
set_option linter.unusedVariables false
set_option linter.unusedSimpArgs false

/-- The three pairs of the closed example. -/
def exL : List (Int × Value) := [(1, .string ⟨#[97]⟩), (3, .string ⟨#[99]⟩), (5, .string ⟨#[101]⟩)]
theorem ex_asc : Asc exL := by
  unfold exL Asc
  simp [KO.lt]
structure Ex3 (w : World) (g : Nat) : Prop where
  c0 : w.cell? ⟨g, 0, none⟩ = some (.int .i64 1)
  c1 : w.cell? ⟨g, 1, none⟩ = some (.string ⟨#[97]⟩)
  c2 : w.cell? ⟨g, 2, none⟩ = some (.int .i64 3)
  c3 : w.cell? ⟨g, 3, none⟩ = some (.string ⟨#[99]⟩)
  c4 : w.cell? ⟨g, 4, none⟩ = some (.int .i64 5)
  c5 : w.cell? ⟨g, 5, none⟩ = some (.string ⟨#[101]⟩)
theorem Ex3.pairs {w : World} {g : Nat} (h : Ex3 w g) : PairsAt w g exL := by
  intro i x hx
  unfold exL at hx
  match i, hx with
  | 0, hx => simp at hx; subst hx; exact ⟨h.c0, h.c1, rfl⟩
  | 1, hx => simp at hx; subst hx; exact ⟨h.c2, h.c3, rfl⟩
  | 2, hx => simp at hx; subst hx; exact ⟨h.c4, h.c5, rfl⟩
  | n + 3, hx => simp at hx
theorem Ex3.grow {A B : World} {g : Nat} (st : Below A.heap.size A B) (h : Ex3 A g) : Ex3 B g := ⟨cell_gr st h.c0, cell_gr st h.c1, cell_gr st h.c2, cell_gr st h.c3, cell_gr st h.c4, cell_gr st h.c5⟩
/-- What the example's Of answers. -/
def OfX (w : World) (e : Ending) (w' : World) : Prop := ∃ q t, e = .returned (.tuple #[.agg #[.pointer q], .int .i64 0]) ∧ At w' q t ∧ HalQ exL t ∧ Below w.heap.size w w'
set_option maxRecDepth 100000 in
set_option maxHeartbeats 1000000 in
theorem Of_ex (g : Nat) (w : World) (h : Ex3 w g) : Calls Try.prog 48 #[.slice (some ⟨g, 0, none⟩) 3 3] w (OfX w) := by
  have hb : g < w.heap.size := World.block_lt_of_cell? w _ h.c0
  have hH : Hid (∀ W, PairsAt W g exL → Calls Try.prog 77 #[.slice (some ⟨g, 0, none⟩) 3 3] W (MapR W (HalQ exL))) := Lib.hid (fun W hW => halve_all g exL (by decide) 3 3 0 3 _ W (Nat.le_refl _) (Nat.le_refl _) (by decide) (by decide) (fun _ => rfl) hW)
  have EX := Lib.hid h
  have HB : Hid (∀ w0, w.alloc (Obj.cells #[Value.pointer none] 97) = w0 → Below w.heap.size w w0 ∧ w0.cell? ⟨w.heap.size, 0, none⟩ = some (.pointer none) ∧ w0.frozen? ⟨w.heap.size, 0, none⟩ = false ∧ w.heap.size < w0.heap.size) := Lib.hid (fun w0 e => by
    subst e; exact ⟨(Below.refl _ _).alloc (Nat.le_refl _) _, by simp [go_sem], by simp [go_sem], by simp⟩)
  clear h
  go_enter Try.func48, Try.ntmps48
  go_wp2_with fail
  generalize e0 : w.alloc (Obj.cells #[Value.pointer none] 97) = w0
  obtain ⟨bel, k1, f1, sz⟩ := HB.out w0 e0
  have BL := Lib.hid bel
  replace EX := Lib.hid (EX.out.grow bel)
  clear HB e0 bel
  go_loopw [4] (fun iv wr => ∃ k : Nat, 1 ≤ k ∧ k ≤ 3 ∧ iv = .int .i64 (k : Int) ∧ ∃ n, wr = w0.drewN n) (fun iv _ => 3 - (intOf iv).toNat)
  case atStart => exact ⟨1, by omega, by omega, rfl, 0, rfl⟩
  case round =>
    obtain ⟨k, h1, h2, rfl, n, rfl⟩ := hrel
    obtain ⟨c0, -, c2, -, c4, -⟩ := EX.out
    rcases (by omega : k = 1 ∨ k = 2 ∨ k = 3) with rfl | rfl | rfl
    · clear c4
      go_wp2_with fail
      go_quiet (fail)
      go_wp2_with fail
      go_roundw
      case rel => exact ⟨2, by omega, by omega, rfl, _, rfl⟩
      case measure => simp [intOf]
    · clear c0
      go_wp2_with fail
      go_quiet (fail)
      go_wp2_with fail
      go_roundw
      case rel => exact ⟨3, by omega, by omega, rfl, _, rfl⟩
      case measure => simp [intOf]
    · clear c0 c2 c4
      have st0 := below_drewN (Below.refl w0.heap.size w0) n
      go_wp2_with fail
      refine (hH.out _ (EX.out.grow st0).pairs).mono ?_
      rintro e w2 ⟨x1, u1, rfl, a1, g1, st1⟩
      have st := st0.trans st1
      have k2 := cell_gr st k1
      have f2 := fro_gr st k1 f1
      have sz2 := Nat.lt_of_lt_of_le sz st.size
      have T1 := Lib.hid a1
      have FIN : Hid (OfX w (.returned (.tuple #[.agg #[.pointer x1], .int .i64 0])) (w2.setCell ⟨w.heap.size, 0, none⟩ (.pointer x1))) := Lib.hid ⟨x1, u1, rfl, a1.set _ k2, g1, (BL.out.trans (st.mono BL.out.size)).setCell (Nat.le_refl _) _⟩
      clear st st0 st1 a1 g1 T1 BL EX hH k1 f1
      go_wp2_with fail
      exact bodyPost_ret (v := .tuple #[.agg #[.pointer x1], .int .i64 0]) (by simp [results, Try.results48, go_sem, k2, sz2]) rfl FIN.out
/-- Floor, where the key is not there. -/
theorem Floor_ex (p : Option Addr) (t : Tr Int Value) (w : World) (h : At w p t) (hr : t.rows = exL) :
    Calls Try.prog 49 #[.agg #[.pointer p], .int .i64 4] w fun e w' => e = .returned (.tuple #[.int .i64 3, .string ⟨#[99]⟩, .bool true]) ∧ Below w.heap.size w w' := by
  have sa : Asc t.rows := by rw [hr]; exact ex_asc
  have sz : t.sz = 3 := by rw [← t.sz_eq, hr]; rfl
  have R := Lib.hid (fun W hW => Rank_any p t 4 W hW sa (by omega))
  have G := Lib.hid (fun W hW => Get_any p t 4 W hW sa)
  have A1 := Lib.hid (fun W hW => At_any p t 1 W hW (by decide) (by decide) (by omega))
  rw [hr, show rnk exL (4 : Int) = 2 from by decide] at R
  rw [hr, show val exL (4 : Int) = none from by rfl] at G
  rw [hr, show rowAt exL 1 = some (3, .string ⟨#[99]⟩) from by rfl] at A1
  unfold GetV at G
  unfold AtV at A1
  dsimp only at G A1
  have TT := Lib.hid (h.alloc (Obj.cells #[Value.pointer p] 97))
  have HB : Hid (∀ w0, w.alloc (Obj.cells #[Value.pointer p] 97) = w0 → Below w.heap.size w w0 ∧ w0.cell? ⟨w.heap.size, 0, none⟩ = some (.pointer p) ∧ w.heap.size < w0.heap.size ∧ At w0 p t) := Lib.hid (fun w0 e => by
    subst e; exact ⟨(Below.refl _ _).alloc (Nat.le_refl _) _, by simp [go_sem], by simp, h.alloc _⟩)
  clear h hr sa sz TT
  go_enter Try.func49, Try.ntmps49
  go_wp2_with fail
  generalize e0 : w.alloc (Obj.cells #[Value.pointer p] 97) = w0
  obtain ⟨bel, k1, sz, tt⟩ := HB.out w0 e0
  have BL := Lib.hid bel
  have TT := Lib.hid tt
  clear HB e0 bel tt
  refine (R.out _ TT.out).mono ?_
  rintro e w1 ⟨rfl, st0⟩
  have st : Below w0.heap.size w0 w1 := (by first | exact st0 | exact Below.of_dr st0)
  replace k1 := cell_gr st k1
  replace TT := Lib.hid (TT.out.grow st)
  replace BL := Lib.hid (BL.out.trans (st.mono BL.out.size))
  replace sz := Nat.lt_of_lt_of_le sz st.size
  clear st st0
  go_wp2_with fail
  refine (G.out _ TT.out).mono ?_
  rintro e w2 ⟨rfl, st0⟩
  have st : Below w1.heap.size w1 w2 := (by first | exact st0 | exact Below.of_dr st0)
  replace k1 := cell_gr st k1
  replace TT := Lib.hid (TT.out.grow st)
  replace BL := Lib.hid (BL.out.trans (st.mono BL.out.size))
  replace sz := Nat.lt_of_lt_of_le sz st.size
  clear st st0
  go_wp2_with fail
  refine (A1.out _ TT.out).mono ?_
  rintro e w3 ⟨rfl, st0⟩
  have st : Below w2.heap.size w2 w3 := (by first | exact st0 | exact Below.of_dr st0)
  replace k1 := cell_gr st k1
  replace TT := Lib.hid (TT.out.grow st)
  replace BL := Lib.hid (BL.out.trans (st.mono BL.out.size))
  replace sz := Nat.lt_of_lt_of_le sz st.size
  clear st st0
  clear TT A1 G R
  go_wp2_with fail
  refine bodyPost_ret (v := .tuple #[.int .i64 3, .string ⟨#[99]⟩, .bool true]) (by simp [results, Try.results49, go_sem, KV.kv]) rfl ⟨rfl, BL.out⟩
end Go.Proofs.Ytbphmcjjanchlaa.Mis
