/- Classing's lines, plain. -/
import Derived.Test.YtmdhmpfagekonaaCT0
/- Classing's lines, plain: fleeces, their order, the cost of a line, the cheapest cut with a price. -/
namespace Go.Proofs.Ytmdhmpfagekonaa
open Go.RowKit Go.Proofs.Ytmdhmpfagekonaa.Ct
set_option linter.unusedVariables false
set_option linter.unusedSimpArgs false

namespace Ce
/-- A fleece: the four bytes of its kind, its diameter, its mass. -/
structure Fl where
  ka : Int
  kb : Int
  kc : Int
  kd : Int
  mic : Int
  gr : Int
instance : Inhabited Fl := ⟨⟨0, 0, 0, 0, 1, 1⟩⟩
def Fl.kk (f : Fl) : Int := f.ka * 16777216 + f.kb * 65536 + f.kc * 256 + f.kd
def Fl.kok (f : Fl) : Prop := (0 ≤ f.ka ∧ f.ka ≤ 255) ∧ (0 ≤ f.kb ∧ f.kb ≤ 255) ∧ (0 ≤ f.kc ∧ f.kc ≤ 255) ∧ 0 ≤ f.kd ∧ f.kd ≤ 255
def Fl.ok (f : Fl) : Prop := (1 ≤ f.mic ∧ f.mic ≤ 10000) ∧ 1 ≤ f.gr ∧ f.gr ≤ 1073741824
/-- Kinds are the same where their numbers are. -/
theorem kk_eq {a b : Fl} (ha : a.kok) (hb : b.kok) : a.kk = b.kk ↔ a.ka = b.ka ∧ a.kb = b.kb ∧ a.kc = b.kc ∧ a.kd = b.kd := by
  unfold Fl.kok Fl.kk at *
  omega
/-- The first byte that differs decides. -/
theorem kk_lt {a b : Fl} (ha : a.kok) (hb : b.kok) : a.kk < b.kk ↔ a.ka < b.ka ∨ (a.ka = b.ka ∧ (a.kb < b.kb ∨ (a.kb = b.kb ∧ (a.kc < b.kc ∨ (a.kc = b.kc ∧ a.kd < b.kd))))) := by
  unfold Fl.kok Fl.kk at *
  omega
/-- What the order goes by: the kind, then the diameter. -/
def Fl.key (f : Fl) : Int := f.kk * 20000 + f.mic
theorem key_lt {a b : Fl} (ha : a.ok) (hb : b.ok) : a.key < b.key ↔ a.kk < b.kk ∨ (a.kk = b.kk ∧ a.mic < b.mic) := by
  unfold Fl.ok Fl.key at *
  omega
theorem key_eq {a b : Fl} (ha : a.ok) (hb : b.ok) : a.key = b.key ↔ a.kk = b.kk ∧ a.mic = b.mic := by
  unfold Fl.ok Fl.key at *
  omega
def dk (q : Nat → Int) (x y : Int) : Int := q x.toNat - q y.toNat
def RK (q : Nat → Int) (x y : Int) : Prop := dk q x y < 0 ∨ (dk q x y = 0 ∧ x < y)
theorem rk_neg (q : Nat → Int) (x y : Int) (h : x < y) : dk q y x < 0 ↔ RK q y x := by unfold RK; omega
theorem rk_irr {q : Nat → Int} {x : Int} (h : RK q x x) : False := by unfold RK dk at h; omega
theorem rk_tr {q : Nat → Int} {x y z : Int} (h : RK q x y) (h' : RK q y z) : RK q x z := by unfold RK dk at *; omega
theorem rk_tot3 {q : Nat → Int} {x y : Int} (h : x ≠ y) : RK q x y ∨ RK q y x := by unfold RK dk; omega
/-- Two orders by the rule are one. -/
theorem key_uniq {q : Nat → Int} {n : Nat} {O U : List Int} (hO : IsO n O) (hU : IsO n U) (sO : ∀ i j, i < j → j < n → RK q (gi O i) (gi O j)) (sU : ∀ i j, i < j → j < n → RK q (gi U i) (gi U j)) : O = U := by
  have one : ∀ {O U : List Int}, IsO n O → IsO n U → (∀ i j, i < j → j < n → RK q (gi O i) (gi O j)) → (∀ i j, i < j → j < n → RK q (gi U i) (gi U j)) → ∀ k, k < n → (∀ j, j < k → gi O j = gi U j) → RK q (gi O k) (gi U k) → False := by
    intro O U hO hU sO sU k kn e r
    obtain ⟨j, j1, j2⟩ : ∃ j, j < n ∧ gi U j = gi O k := by
      have b := hO.2.1 k kn
      obtain ⟨j, j1, j2⟩ := hU.onto (gi O k).toNat (by omega)
      exact ⟨j, j1, by omega⟩
    rcases Nat.lt_trichotomy j k with l | rfl | l
    · exact hO.2.2 j k l kn (by rw [e j l, j2])
    · rw [j2] at r; exact rk_irr r
    · have a := sU k j l j1
      rw [j2] at a
      exact rk_irr (rk_tr r a)
  have all : ∀ k, k ≤ n → ∀ j, j < k → gi O j = gi U j := by
    intro k
    induction k with
    | zero => intro _ j h; omega
    | succ k ih =>
      intro hk j hj
      have e := ih (by omega)
      by_cases c : j = k
      · subst c
        apply Classical.byContradiction
        intro ne
        rcases rk_tot3 (q := q) ne with r | r
        · exact one hO hU sO sU j (by omega) e r
        · exact one hU hO sU sO j (by omega) (fun i hi => (e i hi).symm) r
      · exact e j (by omega)
  apply List.ext_getElem (by rw [hO.1, hU.1])
  intro k h1 h2
  have := all n (Nat.le_refl _) k (by rw [← hO.1]; exact h1)
  simpa [gi, h1, h2] using this
def insK (q : Nat → Int) (x : Int) : List Int → List Int
  | [] => [x]
  | y :: l => if dk q x y < 0 then x :: y :: l else y :: insK q x l
def ordK (q : Nat → Int) : Nat → List Int
  | 0 => []
  | k + 1 => insK q k (ordK q k)
theorem insK_mem {q : Nat → Int} {x z : Int} : ∀ {l : List Int}, z ∈ insK q x l ↔ z = x ∨ z ∈ l
  | [] => by simp [insK]
  | y :: l => by
    unfold insK
    split
    · simp
    · rw [List.mem_cons, insK_mem, List.mem_cons]
      constructor
      · rintro (h | h | h) <;> simp [h]
      · rintro (h | h | h) <;> simp [h]
theorem insK_len (q : Nat → Int) (x : Int) : ∀ l : List Int, (insK q x l).length = l.length + 1
  | [] => rfl
  | y :: l => by
    unfold insK
    split
    · rfl
    · simp [insK_len q x l]
theorem ordK_len (q : Nat → Int) : ∀ k, (ordK q k).length = k
  | 0 => rfl
  | k + 1 => by rw [ordK, insK_len, ordK_len q k]
theorem ordK_mem (q : Nat → Int) (z : Int) : ∀ k, z ∈ ordK q k ↔ 0 ≤ z ∧ z < k
  | 0 => by simp [ordK] <;> omega
  | k + 1 => by rw [ordK, insK_mem, ordK_mem q z k]; omega
theorem insK_srt {q : Nat → Int} {x : Int} : ∀ {l : List Int}, (∀ z ∈ l, z < x) → l.Pairwise (RK q) → (insK q x l).Pairwise (RK q)
  | [], _, _ => by simp [insK]
  | y :: l, hx, h => by
    have hy := hx y (by simp)
    rw [List.pairwise_cons] at h
    unfold insK
    split
    · next c =>
      have r : RK q x y := (rk_neg q y x hy).1 c
      rw [List.pairwise_cons]
      refine ⟨fun z hz => ?_, List.pairwise_cons.2 h⟩
      rcases List.mem_cons.1 hz with rfl | hz
      · exact r
      · exact rk_tr r (h.1 z hz)
    · next c =>
      have r : RK q y x := by
        rcases rk_tot3 (q := q) (show y ≠ x by omega) with r | r
        · exact r
        · exact absurd ((rk_neg q y x hy).2 r) c
      rw [List.pairwise_cons]
      refine ⟨fun z hz => ?_, insK_srt (fun z hz => hx z (List.mem_cons_of_mem _ hz)) h.2⟩
      rcases insK_mem.1 hz with rfl | hz
      · exact r
      · exact h.1 z hz
theorem ordK_srt {q : Nat → Int} : ∀ k, (ordK q k).Pairwise (RK q)
  | 0 => by simp [ordK]
  | k + 1 => insK_srt (fun z hz => by have := (ordK_mem q z k).1 hz; omega) (ordK_srt k)
theorem ordK_rd {q : Nat → Int} (k : Nat) : ∀ i j, i < j → j < k → RK q (gi (ordK q k) i) (gi (ordK q k) j) := fun i j ij jk => by
  have l := ordK_len q k
  rw [gi_lt (by omega), gi_lt (by omega)]
  exact (List.pairwise_iff_getElem.1 (ordK_srt k)) i j (by omega) (by omega) ij
theorem ordK_ord {q : Nat → Int} (k : Nat) : IsO k (ordK q k) := by
  have l := ordK_len q k
  refine ⟨l, fun i hi => ?_, fun i j ij jk e => ?_⟩
  · rw [gi_lt (by omega)]
    exact (ordK_mem q _ k).1 (List.getElem_mem (by omega))
  · have r := ordK_rd (q := q) k i j ij jk
    rw [e] at r
    exact rk_irr r
theorem insK_cons (q : Nat → Int) (x y : Int) (l : List Int) : insK q x (y :: l) = if dk q x y < 0 then x :: y :: l else y :: insK q x l := rfl


/-- The fleeces in their order. -/
def inO (F : Nat → Fl) (n i : Nat) : Fl := F (gi (ordK (fun k => (F k).key) n) i).toNat
/-- The keys do not fall. -/
theorem inO_le (F : Nat → Fl) (n : Nat) {i j : Nat} (ij : i ≤ j) (jn : j < n) : (inO F n i).key ≤ (inO F n j).key := by
  rcases Nat.lt_or_ge i j with h | h
  · have := ordK_rd (q := fun k => (F k).key) n i j h jn
    unfold RK dk at this
    unfold inO
    dsimp only at this
    omega
  · have : i = j := by omega
    subst this
    omega
section
variable (A : Nat → Fl)
/-- The mass of the fleeces from i to below j. -/
def mas (i : Nat) : Nat → Int
  | 0 => 0
  | j + 1 => mas i j + (if i ≤ j then (A j).gr else 0)
/-- Where half of the mass all is reached, from position i + k on, with so many left to look at. -/
def cenF (all : Int) (i : Nat) : Nat → Nat → Nat
  | 0, p => p
  | k + 1, p => if all ≤ 2 * mas A i (p + 1) then p else cenF all i k (p + 1)
def cenP (i j : Nat) : Nat := cenF A (mas A i j) i (j - i) i
def cen (i j : Nat) : Int := (A (cenP A i j)).mic
/-- How far the fleeces from i to below j lie from c, by mass. -/
def offs (c : Int) (i : Nat) : Nat → Int
  | 0 => 0
  | j + 1 => offs c i j + (if i ≤ j then (A j).gr * max ((A j).mic - c) (c - (A j).mic) else 0)
def isLine (least spread : Int) (i j : Nat) : Prop := i < j ∧ (A i).kk = (A (j - 1)).kk ∧ (A (j - 1)).mic - (A i).mic ≤ spread ∧ least ≤ mas A i j
instance (least spread : Int) (i j : Nat) : Decidable (isLine A least spread i j) := by unfold isLine; infer_instance
/-- The cost of the line from i to below j, or -1. -/
def lnc (least spread : Int) (i j : Nat) : Int := if isLine A least spread i j then offs A (cen A i j) i j else -1
end
theorem mas_eq (A : Nat → Fl) (i : Nat) : ∀ {j}, j ≤ i → mas A i j = 0
  | 0, _ => rfl
  | j + 1, h => by unfold mas; rw [if_neg (by omega), mas_eq A i (by omega)]; rfl
theorem mas_bd {A : Nat → Fl} {n i : Nat} (h : ∀ k, k < n → (A k).ok) : ∀ {j}, j ≤ n → 0 ≤ mas A i j ∧ mas A i j ≤ 1073741824 * j
  | 0, _ => by simp [mas]
  | j + 1, hj => by
    have := mas_bd (A := A) (i := i) h (j := j) (by omega)
    have o := h j (by omega)
    unfold Fl.ok at o
    unfold mas
    split <;> omega
theorem mas_up {A : Nat → Fl} {n i : Nat} (h : ∀ k, k < n → (A k).ok) {j : Nat} (ij : i ≤ j) (jn : j < n) : mas A i j < mas A i (j + 1) := by
  have o := h j jn
  unfold Fl.ok at o
  rw [show mas A i (j + 1) = mas A i j + (if i ≤ j then (A j).gr else 0) from rfl, if_pos ij]
  omega
/-- The search for the middle ends within the line. -/
theorem cenF_lt {A : Nat → Fl} {i : Nat} : ∀ {k p j}, p + k = j → 0 < k → 0 ≤ mas A i j → p ≤ cenF A (mas A i j) i k p ∧ cenF A (mas A i j) i k p < j
  | k + 1, p, j, e, _, m0 => by
    unfold cenF
    split
    · omega
    · next c =>
      by_cases k0 : k = 0
      · subst k0
        have : p + 1 = j := by omega
        subst this
        omega
      · have := cenF_lt (A := A) (i := i) (k := k) (p := p + 1) (j := j) (by omega) (by omega) m0
        omega
/-- A minimum that may be missing: -1. -/
def lss (a b : Int) : Prop := a ≠ -1 ∧ (b = -1 ∨ a < b)
instance (a b : Int) : Decidable (lss a b) := by unfold lss; infer_instance
def both (a b : Int) : Int := if a = -1 ∨ b = -1 then -1 else a + b
/-- The least of a line that begins at i, of the first m that can be, and of what comes behind it. -/
def lfm (c : Nat → Int) (rest : Nat → Int) (i : Nat) : Nat → Int
  | 0 => -1
  | m + 1 => if lss (both (c (i + m + 1)) (rest (i + m + 1))) (lfm c rest i m) then both (c (i + m + 1)) (rest (i + m + 1)) else lfm c rest i m
/-- A price on each line is a price on the least. -/
theorem lfm_price {c rest : Nat → Int} {p : Int} (i : Nat) (hp : 0 ≤ p) (hc : ∀ k, -1 ≤ c k) (hr : ∀ k, -1 ≤ rest k) : ∀ m, -1 ≤ lfm c rest i m ∧ both (lfm c rest i m) p = lfm (fun k => both (c k) p) rest i m
  | 0 => by simp [lfm, both]
  | m + 1 => by
    obtain ⟨a, b⟩ := lfm_price (c := c) (rest := rest) i hp hc hr m
    have h1 := hc (i + m + 1)
    have h2 := hr (i + m + 1)
    unfold lfm
    rw [← b]
    generalize lfm c rest i m = x at *
    generalize c (i + m + 1) = y at *
    generalize rest (i + m + 1) = z at *
    unfold both lss
    by_cases y1 : y = -1 <;> by_cases z1 : z = -1 <;> by_cases x1 : x = -1 <;> by_cases p1 : p = -1 <;> simp [y1, z1, x1, p1] <;> (try omega) <;> (repeat' split) <;> omega
end Ce
end Go.Proofs.Ytmdhmpfagekonaa

/- Classing's lines, plain: a run's cost wherever it begins; what checks answer; the cost of lengths; a price. -/
namespace Go.Proofs.Ytmdhmpfagekonaa
open Go.RowKit Go.Proofs.Ytmdhmpfagekonaa.Ct
set_option linter.unusedVariables false
set_option linter.unusedSimpArgs false

namespace Ce
theorem mas_sh (A : Nat → Fl) (i : Nat) : ∀ m, mas (fun k => A (i + k)) 0 m = mas A i (i + m)
  | 0 => by rw [Nat.add_zero, mas_eq A i (Nat.le_refl _)]; rfl
  | m + 1 => by
    show mas (fun k => A (i + k)) 0 m + (if 0 ≤ m then (A (i + m)).gr else 0) = mas A i (i + m) + (if i ≤ i + m then (A (i + m)).gr else 0)
    rw [mas_sh A i m, if_pos (Nat.zero_le _), if_pos (Nat.le_add_right _ _)]
theorem cenF_sh (A : Nat → Fl) (all : Int) (i : Nat) : ∀ k p, i + cenF (fun k => A (i + k)) all 0 k p = cenF A all i k (i + p)
  | 0, p => rfl
  | k + 1, p => by
    show i + (if all ≤ 2 * mas (fun k => A (i + k)) 0 (p + 1) then p else cenF (fun k => A (i + k)) all 0 k (p + 1)) = (if all ≤ 2 * mas A i (i + p + 1) then i + p else cenF A all i k (i + p + 1))
    rw [mas_sh, show i + (p + 1) = i + p + 1 from rfl]
    by_cases c : all ≤ 2 * mas A i (i + p + 1)
    · rw [if_pos c, if_pos c]
    · rw [if_neg c, if_neg c, cenF_sh A all i k (p + 1)]; rfl
theorem cen_sh (A : Nat → Fl) (i m : Nat) : cen (fun k => A (i + k)) 0 m = cen A i (i + m) := by
  have e : i + cenP (fun k => A (i + k)) 0 m = cenP A i (i + m) := by
    unfold cenP
    rw [mas_sh, cenF_sh, Nat.sub_zero, Nat.add_zero, show i + m - i = m from by omega]
  show (A (i + cenP (fun k => A (i + k)) 0 m)).mic = (A (cenP A i (i + m))).mic
  rw [e]
theorem offs_eq (A : Nat → Fl) (c : Int) (i : Nat) : ∀ {j}, j ≤ i → offs A c i j = 0
  | 0, _ => rfl
  | j + 1, h => by unfold offs; rw [if_neg (by omega), offs_eq A c i (by omega)]; rfl
theorem offs_sh (A : Nat → Fl) (c : Int) (i : Nat) : ∀ m, offs (fun k => A (i + k)) c 0 m = offs A c i (i + m)
  | 0 => by rw [Nat.add_zero, offs_eq A c i (Nat.le_refl _)]; rfl
  | m + 1 => by
    show offs (fun k => A (i + k)) c 0 m + (if 0 ≤ m then (A (i + m)).gr * max ((A (i + m)).mic - c) (c - (A (i + m)).mic) else 0) = offs A c i (i + m) + (if i ≤ i + m then (A (i + m)).gr * max ((A (i + m)).mic - c) (c - (A (i + m)).mic) else 0)
    rw [offs_sh A c i m, if_pos (Nat.zero_le _), if_pos (Nat.le_add_right _ _)]
theorem isLine_sh (A : Nat → Fl) (le sp : Int) (i m : Nat) : isLine (fun k => A (i + k)) le sp 0 m ↔ isLine A le sp i (i + m) := by
  by_cases h : 0 < m
  · show (0 < m ∧ (A (i + 0)).kk = (A (i + (m - 1))).kk ∧ (A (i + (m - 1))).mic - (A (i + 0)).mic ≤ sp ∧ le ≤ mas (fun k => A (i + k)) 0 m) ↔ (i < i + m ∧ (A i).kk = (A (i + m - 1)).kk ∧ (A (i + m - 1)).mic - (A i).mic ≤ sp ∧ le ≤ mas A i (i + m))
    rw [mas_sh, Nat.add_zero, show i + (m - 1) = i + m - 1 from by omega]
    exact ⟨fun h => ⟨by omega, h.2⟩, fun g => ⟨h, g.2⟩⟩
  · exact ⟨fun g => absurd g.1 h, fun g => by have := g.1; omega⟩
theorem lnc_sh (A : Nat → Fl) (le sp : Int) (i m : Nat) : lnc (fun k => A (i + k)) le sp 0 m = lnc A le sp i (i + m) := by
  unfold lnc
  rw [cen_sh, offs_sh]
  by_cases c : isLine A le sp i (i + m)
  · rw [if_pos c, if_pos ((isLine_sh A le sp i m).2 c)]
  · rw [if_neg c, if_neg fun h => c ((isLine_sh A le sp i m).1 h)]

/-- What the checks answer. -/
def spOk (ls le sp : Int) : Prop := (1 ≤ ls ∧ ls ≤ 16) ∧ (0 ≤ le ∧ le ≤ 1073741824) ∧ 0 ≤ sp ∧ sp ≤ 10000
open Classical in
noncomputable def flE (ls le sp : Int) (F : Nat → Fl) (n : Nat) : Int := if 128 < n then 3 else if spOk ls le sp ∧ ∀ k, k < n → (F k).ok then 0 else 2
theorem flE_3 {ls le sp : Int} {F : Nat → Fl} {n : Nat} (h : 128 < n) : flE ls le sp F n = 3 := if_pos h
theorem flE_0 {ls le sp : Int} {F : Nat → Fl} {n : Nat} (h : ¬ 128 < n) (s : spOk ls le sp) (a : ∀ k, k < n → (F k).ok) : flE ls le sp F n = 0 := by unfold flE; rw [if_neg h, if_pos ⟨s, a⟩]
theorem flE_s {ls le sp : Int} {F : Nat → Fl} {n : Nat} (h : ¬ 128 < n) (s : ¬ spOk ls le sp) : flE ls le sp F n = 2 := by unfold flE; rw [if_neg h, if_neg fun g => s g.1]
theorem flE_f {ls le sp : Int} {F : Nat → Fl} {n : Nat} (h : ¬ 128 < n) {k : Nat} (kn : k < n) (s : ¬ (F k).ok) : flE ls le sp F n = 2 := by unfold flE; rw [if_neg h, if_neg fun g => s (g.2 k kn)]
theorem flE_ok {ls le sp : Int} {F : Nat → Fl} {n : Nat} (h : flE ls le sp F n = 0) : n ≤ 128 ∧ spOk ls le sp ∧ ∀ k, k < n → (F k).ok := by
  unfold flE at h
  split at h
  · exact absurd h (by decide)
  · next c =>
    split at h
    · next d => exact ⟨by omega, d⟩
    · exact absurd h (by decide)
theorem flE_cases (ls le sp : Int) (F : Nat → Fl) (n : Nat) : flE ls le sp F n = 0 ∨ flE ls le sp F n = 2 ∨ flE ls le sp F n = 3 := by
  unfold flE
  split
  · simp
  · split <;> simp

/-- The sum of the first t numbers. -/
def sm (L : Nat → Int) : Nat → Int
  | 0 => 0
  | t + 1 => sm L t + L t
open Classical in
/-- What the check of lengths answers. -/
noncomputable def lnE (L : Nat → Int) (m n : Nat) : Int := if 128 < m then 3 else if (∀ t, t < m → 1 ≤ L t ∧ L t ≤ n - sm L t) ∧ sm L m = n then 0 else 2
theorem lnE_3 {L : Nat → Int} {m n : Nat} (h : 128 < m) : lnE L m n = 3 := if_pos h
theorem lnE_0 {L : Nat → Int} {m n : Nat} (h : ¬ 128 < m) (a : ∀ t, t < m → 1 ≤ L t ∧ L t ≤ n - sm L t) (b : sm L m = n) : lnE L m n = 0 := by unfold lnE; rw [if_neg h, if_pos ⟨a, b⟩]
theorem lnE_l {L : Nat → Int} {m n : Nat} (h : ¬ 128 < m) {t : Nat} (tm : t < m) (a : ¬ (1 ≤ L t ∧ L t ≤ n - sm L t)) : lnE L m n = 2 := by unfold lnE; rw [if_neg h, if_neg fun g => a (g.1 t tm)]
theorem lnE_n {L : Nat → Int} {m n : Nat} (h : ¬ 128 < m) (a : sm L m ≠ n) : lnE L m n = 2 := by unfold lnE; rw [if_neg h, if_neg fun g => a g.2]
theorem lnE_ok {L : Nat → Int} {m n : Nat} (h : lnE L m n = 0) : m ≤ 128 ∧ (∀ t, t < m → 1 ≤ L t ∧ L t ≤ n - sm L t) ∧ sm L m = n := by
  unfold lnE at h
  split at h
  · exact absurd h (by decide)
  · next c =>
    split at h
    · next d => exact ⟨by omega, d⟩
    · exact absurd h (by decide)
theorem lnE_cases (L : Nat → Int) (m n : Nat) : lnE L m n = 0 ∨ lnE L m n = 2 ∨ lnE L m n = 3 := by
  unfold lnE
  split
  · simp
  · split <;> simp
theorem sm_bd {L : Nat → Int} {m n : Nat} (a : ∀ t, t < m → 1 ≤ L t ∧ L t ≤ n - sm L t) : ∀ {t}, t ≤ m → 0 ≤ sm L t ∧ sm L t ≤ n
  | 0, _ => by simp [sm]
  | t + 1, h => by
    have := sm_bd a (t := t) (by omega)
    have := a t (by omega)
    show 0 ≤ sm L t + L t ∧ sm L t + L t ≤ n
    omega

/-- The cost of a line is a cost, or -1. -/
theorem lnc_bd {A : Nat → Fl} {n i j : Nat} {le sp : Int} (ok : ∀ k, k < n → (A k).ok) (jn : j ≤ n) : -1 ≤ lnc A le sp i j ∧ lnc A le sp i j ≤ 10737418240000 * n := by
  unfold lnc
  split
  · next c =>
    have b := mas_bd (A := A) (i := i) ok (j := j) jn
    have ij := c.1
    have := cenF_lt (A := A) (i := i) (k := j - i) (p := i) (j := j) (by omega) (by omega) b.1
    have o := (ok (cenP A i j) (Nat.lt_of_lt_of_le this.2 jn)).1
    have h : ∀ m, m ≤ n → 0 ≤ offs A (cen A i j) i m ∧ offs A (cen A i j) i m ≤ 10737418240000 * m := by
      intro m
      induction m with
      | zero => intro _; simp [offs]
      | succ m ih =>
        intro hm
        have ih := ih (by omega)
        have q := ok m (by omega)
        unfold Fl.ok at q
        have o1 : 1 ≤ cen A i j ∧ cen A i j ≤ 10000 := o
        generalize cen A i j = c at *
        have m0 : 0 ≤ max ((A m).mic - c) (c - (A m).mic) := by omega
        have m1 : max ((A m).mic - c) (c - (A m).mic) ≤ 10000 := by omega
        have p0 : 0 ≤ (A m).gr * max ((A m).mic - c) (c - (A m).mic) := Int.mul_nonneg (by omega) m0
        have p1 : (A m).gr * max ((A m).mic - c) (c - (A m).mic) ≤ 1073741824 * 10000 := Int.mul_le_mul q.2.2 m1 m0 (by omega)
        unfold offs
        split <;> omega
    have := h j jn
    omega
  · omega
/-- What the lengths cost so far, or -1. -/
def cst (C : Nat → Nat → Int) (L : Nat → Int) : Nat → Int
  | 0 => 0
  | t + 1 => both (cst C L t) (C (sm L t).toNat (sm L (t + 1)).toNat)
theorem cst_neg {C : Nat → Nat → Int} {L : Nat → Int} {t : Nat} (h : cst C L t = -1) : ∀ k, cst C L (t + k) = -1
  | 0 => h
  | k + 1 => by
    show both (cst C L (t + k)) _ = -1
    rw [cst_neg h k]
    exact if_pos (.inl rfl)
theorem cst_none {C : Nat → Nat → Int} {L : Nat → Int} {t m : Nat} (tm : t < m) (h : C (sm L t).toNat (sm L (t + 1)).toNat = -1) : cst C L m = -1 := by
  obtain ⟨k, rfl⟩ : ∃ k, m = (t + 1) + k := ⟨m - (t + 1), by omega⟩
  have h1 : cst C L (t + 1) = -1 := by
    show both (cst C L t) (C (sm L t).toNat (sm L (t + 1)).toNat) = -1
    rw [h]; exact if_pos (.inr rfl)
  exact cst_neg h1 k
theorem both_pos {a b : Int} (ha : a ≠ -1) (hb : b ≠ -1) : both a b = a + b := if_neg fun h => h.elim ha hb
theorem both_n {a b : Int} (h : a = -1 ∨ b = -1) : both a b = -1 := if_pos h
/-- The rests with a price on each line, filled from the end: after k steps. -/
def upF (f : Nat → Int) (k : Nat) (v : Int) : Nat → Int := fun j => if j = k then v else f j
def prc (C : Nat → Nat → Int) (p : Int) (n : Nat) : Nat → Nat → Int
  | 0 => fun _ => 0
  | k + 1 => upF (prc C p n k) (n - 1 - k) (both (lfm (C (n - 1 - k)) (prc C p n k) (n - 1 - k) (k + 1)) p)
theorem both_bd {a b x y : Int} (ha : -1 ≤ a) (hb : -1 ≤ b) (xa : a ≤ x) (yb : b ≤ y) (x0 : 0 ≤ x) (y0 : 0 ≤ y) : -1 ≤ both a b ∧ both a b ≤ x + y := by
  unfold both
  split <;> omega
theorem lfm_bd {c r : Nat → Int} {x y : Int} (i : Nat) (x0 : 0 ≤ x) (y0 : 0 ≤ y) : ∀ m, (∀ k, i < k → k ≤ i + m → -1 ≤ c k ∧ c k ≤ x) → (∀ k, i < k → k ≤ i + m → -1 ≤ r k ∧ r k ≤ y) → -1 ≤ lfm c r i m ∧ lfm c r i m ≤ x + y
  | 0, _, _ => by simp [lfm]; omega
  | m + 1, hc, hr => by
    have ih := lfm_bd (c := c) (r := r) i x0 y0 m (fun k a b => hc k a (by omega)) (fun k a b => hr k a (by omega))
    have a := hc (i + m + 1) (by omega) (by omega)
    have b := hr (i + m + 1) (by omega) (by omega)
    have d := both_bd a.1 b.1 a.2 b.2 x0 y0
    unfold lfm
    split <;> omega
theorem prc_bd {C : Nat → Nat → Int} {p : Int} {n : Nat} {M : Int} (m0 : 0 ≤ M) (p0 : 0 ≤ p) (hC : ∀ i j, i < j → j ≤ n → -1 ≤ C i j ∧ C i j ≤ M) : ∀ k, k ≤ n → ∀ j, -1 ≤ prc C p n k j ∧ prc C p n k j ≤ (M + p) * k
  | 0, _, j => by simp [prc]
  | k + 1, h, j => by
    have ih := prc_bd m0 p0 hC k (by omega)
    have e : (M + p) * ((k + 1 : Nat) : Int) = (M + p) * k + (M + p) := by rw [Int.natCast_add, Int.mul_add]; simp
    have z : 0 ≤ (M + p) * (k : Int) := Int.mul_nonneg (by omega) (by omega)
    show -1 ≤ upF (prc C p n k) (n - 1 - k) (both (lfm (C (n - 1 - k)) (prc C p n k) (n - 1 - k) (k + 1)) p) j ∧ upF (prc C p n k) (n - 1 - k) (both (lfm (C (n - 1 - k)) (prc C p n k) (n - 1 - k) (k + 1)) p) j ≤ (M + p) * ((k + 1 : Nat) : Int)
    unfold upF
    split
    · have q := lfm_bd (c := C (n - 1 - k)) (r := prc C p n k) (n - 1 - k) m0 z (k + 1) (fun a b c => hC _ a b (by omega)) (fun a _ _ => ih a)
      have := both_bd q.1 (show -1 ≤ p by omega) q.2 (Int.le_refl p) (by omega) p0
      omega
    · have := ih j
      omega
/-- A kind that differs, or too wide a spread, stays so. -/
theorem lnc_stop {A : Nat → Fl} {n i j : Nat} {le sp : Int} (ok : ∀ k, k < n → (A k).ok) (up : ∀ x y, x ≤ y → y < n → (A x).key ≤ (A y).key) (ij : i < j) (jn : j ≤ n) (h : (A (j - 1)).kk ≠ (A i).kk ∨ sp < (A (j - 1)).mic - (A i).mic) : ∀ t, j ≤ t → t ≤ n → lnc A le sp i t = -1 := by
  intro t jt tn
  refine if_neg fun g => ?_
  obtain ⟨-, g1, g2, -⟩ := g
  have oi := ok i (by omega)
  have oj := ok (j - 1) (by omega)
  have ot := ok (t - 1) (by omega)
  have k1 := up i (j - 1) (by omega) (by omega)
  have k2 := up (j - 1) (t - 1) (by omega) (by omega)
  unfold Fl.ok at oi oj ot
  unfold Fl.key at k1 k2
  rcases h with h | h
  · omega
  · by_cases e : (A (j - 1)).kk = (A i).kk
    · omega
    · omega
/-- In order, the kinds between two that are the same are the same. -/
theorem kk_btw {A : Nat → Fl} {n : Nat} (ok : ∀ k, k < n → (A k).ok) (up : ∀ x y, x ≤ y → y < n → (A x).key ≤ (A y).key) {i m j : Nat} (im : i ≤ m) (mj : m ≤ j) (jn : j < n) (e : (A i).kk = (A j).kk) : (A m).kk = (A i).kk := by
  have oi := ok i (by omega)
  have oj := ok j (by omega)
  have om := ok m (by omega)
  have k1 := up i m im (by omega)
  have k2 := up m j mj jn
  unfold Fl.ok at oi oj om
  unfold Fl.key at k1 k2
  omega
end Ce
end Go.Proofs.Ytmdhmpfagekonaa

/- Classing's lines, plain: what Cost and Price answer. -/
namespace Go.Proofs.Ytmdhmpfagekonaa
open Go.RowKit Go.Proofs.Ytmdhmpfagekonaa.Ct
set_option linter.unusedVariables false
set_option linter.unusedSimpArgs false

namespace Ce
/-- The costs of all lines, as the program keeps them. -/
def cMat (A : Nat → Fl) (le sp : Int) (i j : Nat) : Int := if i < j then lnc A le sp i j else 0
theorem cMat_bd {A : Nat → Fl} {n i j : Nat} {le sp : Int} (ok : ∀ k, k < n → (A k).ok) (ln : n ≤ 140) (jn : j ≤ n) : -1 ≤ cMat A le sp i j ∧ cMat A le sp i j ≤ 1503238553600000 := by
  have := lnc_bd (A := A) (n := n) (i := i) (j := j) (le := le) (sp := sp) ok jn
  unfold cMat
  split <;> omega
open Classical in
/-- What Cost answers: a value and an error. -/
noncomputable def coV (ls le sp : Int) (F : Nat → Fl) (n : Nat) (L : Nat → Int) (m : Nat) : Int × Int :=
  if flE ls le sp F n ≠ 0 then (0, flE ls le sp F n) else if lnE L m n ≠ 0 then (0, lnE L m n) else if ls < m then (0, 13) else if cst (cMat (inO F n) le sp) L m = -1 then (0, 13) else (cst (cMat (inO F n) le sp) L m, 0)
section
variable {ls le sp : Int} {F : Nat → Fl} {n : Nat} {L : Nat → Int} {m : Nat}
theorem coV_1 (h : flE ls le sp F n ≠ 0) : coV ls le sp F n L m = (0, flE ls le sp F n) := if_pos h
theorem coV_2 (h : flE ls le sp F n = 0) (h2 : lnE L m n ≠ 0) : coV ls le sp F n L m = (0, lnE L m n) := by unfold coV; rw [if_neg (fun g => g h), if_pos h2]
theorem coV_3 (h : flE ls le sp F n = 0) (h2 : lnE L m n = 0) (h3 : ls < m) : coV ls le sp F n L m = (0, 13) := by unfold coV; rw [if_neg (fun g => g h), if_neg (fun g => g h2), if_pos h3]
theorem coV_4 (h : flE ls le sp F n = 0) (h2 : lnE L m n = 0) (h3 : ¬ ls < m) (h4 : cst (cMat (inO F n) le sp) L m = -1) : coV ls le sp F n L m = (0, 13) := by unfold coV; rw [if_neg (fun g => g h), if_neg (fun g => g h2), if_neg h3, if_pos h4]
theorem coV_5 (h : flE ls le sp F n = 0) (h2 : lnE L m n = 0) (h3 : ¬ ls < m) (h4 : cst (cMat (inO F n) le sp) L m ≠ -1) : coV ls le sp F n L m = (cst (cMat (inO F n) le sp) L m, 0) := by unfold coV; rw [if_neg (fun g => g h), if_neg (fun g => g h2), if_neg h3, if_neg h4]
end
open Classical in
/-- What Price answers. -/
noncomputable def prV (ls le sp : Int) (F : Nat → Fl) (n : Nat) (p : Int) : Int × Int :=
  if flE ls le sp F n ≠ 0 then (0, flE ls le sp F n) else if ¬ (0 ≤ p ∧ p ≤ 1125899906842624) then (0, 2) else if prc (cMat (inO F n) le sp) p n n 0 = -1 then (0, 13) else (prc (cMat (inO F n) le sp) p n n 0, 0)
section
variable {ls le sp : Int} {F : Nat → Fl} {n : Nat} {p : Int}
theorem prV_1 (h : flE ls le sp F n ≠ 0) : prV ls le sp F n p = (0, flE ls le sp F n) := if_pos h
theorem prV_2 (h : flE ls le sp F n = 0) (h2 : ¬ (0 ≤ p ∧ p ≤ 1125899906842624)) : prV ls le sp F n p = (0, 2) := by unfold prV; rw [if_neg (fun g => g h), if_pos h2]
theorem prV_3 (h : flE ls le sp F n = 0) (h2 : 0 ≤ p ∧ p ≤ 1125899906842624) (h3 : prc (cMat (inO F n) le sp) p n n 0 = -1) : prV ls le sp F n p = (0, 13) := by unfold prV; rw [if_neg (fun g => g h), if_neg (fun g => g h2), if_pos h3]
theorem prV_4 (h : flE ls le sp F n = 0) (h2 : 0 ≤ p ∧ p ≤ 1125899906842624) (h3 : prc (cMat (inO F n) le sp) p n n 0 ≠ -1) : prV ls le sp F n p = (prc (cMat (inO F n) le sp) p n n 0, 0) := by unfold prV; rw [if_neg (fun g => g h), if_neg (fun g => g h2), if_neg h3]
end
theorem inO_ok {F : Nat → Fl} {n : Nat} (ok : ∀ k, k < n → (F k).ok) : ∀ k, k < n → (inO F n k).ok := fun k hk => by
  have := (ordK_ord (q := fun k => (F k).key) n).2.1 k hk
  exact ok _ (by omega)
theorem inO_kok {F : Nat → Fl} {n : Nat} (ok : ∀ k, k < n → (F k).kok) : ∀ k, k < n → (inO F n k).kok := fun k hk => by
  have := (ordK_ord (q := fun k => (F k).key) n).2.1 k hk
  exact ok _ (by omega)
theorem cst_bd {C : Nat → Nat → Int} {L : Nat → Int} {m n : Nat} {M : Int} (m0 : 0 ≤ M) (hL : ∀ t, t < m → 1 ≤ L t ∧ L t ≤ n - sm L t) (hC : ∀ i j, j ≤ n → -1 ≤ C i j ∧ C i j ≤ M) : ∀ {t}, t ≤ m → -1 ≤ cst C L t ∧ cst C L t ≤ M * t
  | 0, _ => by simp [cst]
  | t + 1, h => by
    have ih := cst_bd m0 hL hC (t := t) (by omega)
    have b := sm_bd hL (t := t + 1) h
    have c := hC (sm L t).toNat (sm L (t + 1)).toNat (by omega)
    have e : M * ((t + 1 : Nat) : Int) = M * t + M := by rw [Int.natCast_add, Int.mul_add]; simp
    have z : 0 ≤ M * (t : Int) := Int.mul_nonneg m0 (by omega)
    have d := both_bd ih.1 c.1 ih.2 c.2 z m0
    rw [e]
    exact d
end Ce
end Go.Proofs.Ytmdhmpfagekonaa
