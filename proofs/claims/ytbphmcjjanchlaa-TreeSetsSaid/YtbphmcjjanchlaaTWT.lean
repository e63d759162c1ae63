/- Plain: the algebra of sets. -/
import Derived.Test.YtbphmcjjanchlaaTWK
namespace Go.Proofs.Ytbphmcjjanchlaa
open Go.RowKit Go.Proofs.Ytbphmcjjanchlaa.Mii
set_option linter.unusedVariables false
set_option linter.unusedSimpArgs false

theorem asc_len {X Y : List (Int × Int)} (hX : Asc X) (hY : Asc Y) (h : ∀ q, (val X q).isSome = (val Y q).isSome) : X.length = Y.length := by
  have e : mapV (fun _ : Int => ()) X = mapV (fun _ : Int => ()) Y := asc_ext (mapV_asc hX) (mapV_asc hY) fun q => by
    rw [mapV_val, mapV_val]
    have := h q
    cases hx : val X q <;> cases hy : val Y q <;> simp [hx, hy] at this ⊢
  have := congrArg List.length e
  simpa [mapV] using this
theorem fil_two (p p' : Int → Bool) (h : ∀ q, p' q = !p q) (X : List (Int × Int)) : (filL p X).length + (filL p' X).length = X.length := by
  induction X with
  | nil => rfl
  | cons x X ih =>
    unfold filL at *
    simp only [List.filter_cons, h]
    cases p x.1 <;> simp at ih ⊢ <;> (simp only [h] at ih; omega)
structure Alg (a b U I S : List (Int × Int)) : Prop where
  one : U.length + I.length = a.length + b.length
  two : (S.length : Int) = a.length - I.length
theorem algebra {a b : List (Int × Int)} (ha : Asc a) (hb : Asc b) : Alg a b (uniF a b) (filL (pIn a) b) (filL (pOut b) a) := by
  have U := uniF_T b a ha hb
  have c1 := fil_two (pOut b) (pIn b) (fun q => by unfold pOut pIn; cases val b q <;> rfl) (uniF a b)
  have c2 := fil_two (pOut b) (pIn b) (fun q => by unfold pOut pIn; cases val b q <;> rfl) a
  have l1 : (filL (pOut b) (uniF a b)).length = (filL (pOut b) a).length := asc_len (filL_asc U.asc) (filL_asc ha) fun q => by
    rw [filL_val, filL_val, U.v]; unfold pOut; cases val b q <;> simp
  have l2 : (filL (pIn b) (uniF a b)).length = b.length := asc_len (filL_asc U.asc) hb fun q => by
    rw [filL_val, U.v]; unfold pIn; cases val b q <;> simp
  have l3 : (filL (pIn b) a).length = (filL (pIn a) b).length := asc_len (filL_asc ha) (filL_asc hb) fun q => by
    rw [filL_val, filL_val]; unfold pIn; cases val b q <;> cases val a q <;> simp
  constructor <;> omega
theorem uni_enc {A B : List (Int × Int)} {r : List (Int × Value)} (hA : Asc A) (hB : Asc B) (h : UniT (encL A) (encL B) r) : r = encL (uniF A B) :=
  enc_eq h.asc (uniF_T B A hA hB).asc fun q => by rw [h.v, (uniF_T B A hA hB).v, enc_val, enc_val]; cases val B q <;> simp
theorem int_enc {A B : List (Int × Int)} {r : List (Int × Value)} (hB : Asc B) (h : IntT (encL A) (encL B) r) : r = encL (filL (pIn A) B) :=
  enc_eq h.asc (filL_asc hB) fun q => by rw [h.v, filL_val, enc_val, enc_val]; unfold pIn; cases val A q <;> simp
theorem sub_enc {A B : List (Int × Int)} {r : List (Int × Value)} (hA : Asc A) (h : SubT (encL A) (encL B) r) : r = encL (filL (pOut B) A) :=
  enc_eq h.asc (filL_asc hA) fun q => by rw [h.v, filL_val, enc_val, enc_val]; unfold pOut; cases val B q <;> simp
/-- The first without the second, with the second again: their union. -/
theorem uni_back {X Y U S T : List (Int × Value)} (h : UniT X Y U) (s : SubT X Y S) (g : UniT S Y T) : T = U :=
  asc_ext g.asc h.asc fun q => by rw [g.v, h.v, s.v]; cases val Y q <;> simp
theorem uni_self {X T : List (Int × Value)} (hX : Asc X) (h : UniT X X T) : T = X :=
  asc_ext h.asc hX fun q => by rw [h.v]; cases val X q <;> rfl
theorem sub_self {X T : List (Int × Value)} (h : SubT X X T) : T = [] :=
  asc_ext h.asc Asc.nil fun q => by rw [h.v, val_nil]; cases val X q <;> simp
/-- What lies below a key, and what lies above it, where it is not there. -/
theorem cut_join {X L H : List (Int × Value)} {k : Int} (hX : Asc X) (l : LoT X L k) (h : HiT X H k) (e : val X k = none) : L ++ H = X :=
  asc_ext (asc_append.2 ⟨l.asc, h.asc, fun a ha b hb => KO.tr (dn_iff.1 l.dn a ha) (up_iff.1 h.up b hb)⟩) hX fun q => by
    rw [val_append, l.v, h.v]
    simp only [KO.lt]
    by_cases c : q < k
    · have d : ¬ k < q := by omega
      simp [c, d]
    · by_cases d : k < q
      · simp [c, d]
      · have : q = k := by omega
        subst this
        simp [e]
theorem put_asc {X L M H : List (Int × Value)} {k : Int} {v : Value} (l : LoT X L k) (h : HiT X H k) (p : PutT L M k v) : Asc (M ++ H) :=
  asc_append.2 ⟨p.asc, h.asc, fun a ha b hb => by
    have g := up_iff.1 h.up b hb
    have e := val_some p.asc ha
    rw [p.v, l.v] at e
    by_cases c : a.1 = k
    · rw [c]; exact g
    · rw [if_neg c] at e
      by_cases d : KO.lt a.1 k
      · exact KO.tr d g
      · rw [if_neg d] at e; cases e⟩
/-- The same where it is there: put back below. -/
theorem put_join {X L M H : List (Int × Value)} {k : Int} {v : Value} (hX : Asc X) (l : LoT X L k) (h : HiT X H k) (e : val X k = some v) (p : PutT L M k v) : M ++ H = X :=
  asc_ext (put_asc l h p) hX fun q => by
    rw [val_append, p.v, l.v, h.v]
    simp only [KO.lt]
    by_cases c : q < k
    · have d : ¬ k < q := by omega
      have n : ¬ q = k := by omega
      simp [c, d, n]
    · by_cases d : k < q
      · have n : ¬ q = k := by omega
        simp [c, d, n]
      · have : q = k := by omega
        subst this
        simp [e]
end Go.Proofs.Ytbphmcjjanchlaa
