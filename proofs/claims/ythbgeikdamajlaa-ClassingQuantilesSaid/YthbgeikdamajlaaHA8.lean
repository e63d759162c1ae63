/- Classing: a histogram that came in. -/
import Derived.Test.YthbgeikdamajlaaHA0
import Derived.OpenShut
import Derived.WideShapes
namespace Go.Proofs.Ythbgeikdamajlaa
open Go.RowKit

theorem okWide_arr {P : Program} {w : World} {r : Reach} {base : Nat} {t e : TypeId} {n : Nat} {v : Value} (ht : P.underlying t = some (.array n e)) (h : Value.okWide P w r base t v) : ∃ cs, v = .agg cs ∧ cs.size = P.cellsOf t := by
  simp only [Value.okWide, ht] at h
  obtain ⟨cs, h1, h2, _⟩ := h
  exact ⟨cs, h1, h2⟩
theorem cells_hist : Try.prog.cellsOf 23 = 64 := by unfold Program.cellsOf; rw [histSize]; rfl
theorem cells_int : Try.prog.cellsOf 3 = 1 := by unfold Program.cellsOf; rw [intSize]; rfl
set_option maxRecDepth 100000 in
theorem open_hist {H : Type} {enc : TypeId × Value → H} {w : World} {r : Reach} {b0 base : Nat} {spare : Nat → Bool} {held : Bool} {v : Value} {d : DataW H} {p : List MemPlace} (hv : Value.okWide Try.prog w r b0 23 v) (h : DataW.Trod enc Try.prog w base spare held 23 v d p) : ∃ G : Nat → Int, v = hV G := by
  obtain ⟨cs, rfl, hsz⟩ := okWide_arr Try.underlying23 hv
  rw [cells_hist] at hsz
  obtain ⟨fuel, hf⟩ := h
  obtain ⟨xs, m, rfl, -, hl, hx, ha⟩ := DataW.trod_array Try.underlying23 hf
  have each : ∀ i, i < 64 → ∃ x : Int, cs[i]? = some (.int .i64 x) := fun i hi => by
    have e := ha i hi
    rw [cells_int, Nat.mul_one] at e
    have hc : i < cs.size := by omega
    have e2 : (((Value.agg cs).cells.toList).drop i).take 1 = [cs[i]] := by
      show (cs.toList.drop i).take 1 = _
      rw [List.drop_eq_getElem_cons (by simpa using hc)]
      simp
    rw [e2] at e
    have : xs[i]? = some (xs[i]'(by omega)) := List.getElem?_eq_getElem (by omega)
    rw [this] at e
    obtain ⟨x, hx, _⟩ := DataW.trod_int Try.underlying3 e
    simp at hx
    exact ⟨x, by rw [Array.getElem?_eq_getElem hc, hx]⟩
  refine ⟨fun i => match cs[i]? with | some (.int _ x) => x | _ => 0, ?_⟩
  congr 1
  apply Array.ext
  · rw [hC_size, hsz]
  · intro i h1 h2
    obtain ⟨x, hx⟩ := each i (by omega)
    have e := hC_at (fun i => match cs[i]? with | some (.int _ x) => x | _ => 0) (k := i) (by omega)
    rw [hx] at e
    rw [Array.getElem?_eq_getElem h1] at hx
    rw [Array.getElem?_eq_getElem h2] at e
    rw [Option.some.inj hx, Option.some.inj e]
end Go.Proofs.Ythbgeikdamajlaa
