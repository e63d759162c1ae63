/- The stable sort's symmetric merge. -/
import Derived.Test.YtmdhmpfagekonaaST3
namespace Go.Proofs.Ytmdhmpfagekonaa
open Go.RowKit Go.Proofs.Ytmdhmpfagekonaa.Stb
set_option linter.unusedVariables false
set_option linter.unusedSimpArgs false

namespace Stb
/-- A search by halves: before i it is not so, from j on it is so. -/
structure Hlf (p : Nat → Prop) (lo hi i j : Nat) : Prop where
  a : lo ≤ i
  b : i ≤ j
  c : j ≤ hi
  bef : ∀ k, lo ≤ k → k < i → ¬ p k
  beh : ∀ k, j ≤ k → k < hi → p k
theorem Hlf.begin {p : Nat → Prop} {lo hi : Nat} (h : lo ≤ hi) : Hlf p lo hi lo hi := ⟨Nat.le_refl _, h, Nat.le_refl _, fun k h1 h2 => by omega, fun k h1 h2 => by omega⟩
theorem Hlf.up {p : Nat → Prop} {lo hi i j h : Nat} (H : Hlf p lo hi i j) (mono : ∀ k l, lo ≤ k → k < l → l < hi → p k → p l) (h1 : i ≤ h) (h2 : h < j) (n : ¬ p h) : Hlf p lo hi (h + 1) j :=
  ⟨by have := H.a; omega, by omega, H.c, fun k k1 k2 => by
    by_cases e : k = h
    · rw [e]; exact n
    · exact fun pk => n (mono k h k1 (by omega) (by have := H.c; omega) pk), H.beh⟩
theorem Hlf.down {p : Nat → Prop} {lo hi i j h : Nat} (H : Hlf p lo hi i j) (mono : ∀ k l, lo ≤ k → k < l → l < hi → p k → p l) (h1 : i ≤ h) (h2 : h < j) (y : p h) : Hlf p lo hi i h :=
  ⟨H.a, h1, by have := H.c; omega, H.bef, fun k k1 k2 => by
    by_cases e : k = h
    · rw [e]; exact y
    · exact mono h k (by have := H.a; omega) (by omega) k2 y⟩
theorem half (i j : Nat) (hi : i < j) (hj : j ≤ 4611686018427387904) : i ≤ (i + j) / 2 ∧ (i + j) / 2 < j := by omega
section
variable {R : Int → Int → Prop} {V : Int → Prop} {a m b : Nat} {f : Nat → Int}
/-- In the second part it goes on as it has begun. -/
theorem Mrg.mono1 (T : Tot R V) (h : Mrg R V a (a + 1) b f) (hb : a + 1 < b) : ∀ k l, a + 1 ≤ k → k < l → l < b → ¬ R (f k) (f a) → ¬ R (f l) (f a) := fun k l k1 kl l1 n r =>
  n (T.tr _ _ _ (h.ok k (by omega) (by omega)) (h.ok l (by omega) l1) (h.ok a (by omega) (by omega)) (h.s2 k l k1 kl l1) r)
theorem Mrg.mono2 (T : Tot R V) (h : Mrg R V a m (m + 1) f) : ∀ k l, a ≤ k → k < l → l < m → R (f m) (f k) → R (f m) (f l) := fun k l k1 kl l1 r =>
  T.tr _ _ _ (h.ok m (by omega) (by omega)) (h.ok k k1 (by omega)) (h.ok l (by omega) (by omega)) r (h.s1 k l k1 kl l1)
/-- .. at once in both. -/
theorem Mrg.mono3 (T : Tot R V) (h : Mrg R V a m b f) {n lo hi : Nat} (l1 : a ≤ lo) (l2 : hi ≤ m) (l3 : n ≤ lo + b) (l4 : m + hi ≤ n) : ∀ k l, lo ≤ k → k < l → l < hi → R (f (n - 1 - k)) (f k) → R (f (n - 1 - l)) (f l) := fun k l k1 kl l2 r => by
  have e1 := h.s1 k l (by omega) kl (by omega)
  have e2 := h.s2 (n - 1 - l) (n - 1 - k) (by omega) (by omega) (by omega)
  have v1 := h.ok k (by omega) (by omega)
  have v2 := h.ok l (by omega) (by omega)
  have v3 := h.ok (n - 1 - k) (by omega) (by omega)
  have v4 := h.ok (n - 1 - l) (by omega) (by omega)
  exact T.tr _ _ _ v4 v1 v2 (T.tr _ _ _ v4 v3 v1 e2 r) e1
/-- What the search finds is the cut. -/
theorem Hlf.cut {mid s lo hi : Nat} (am : a < m) (mb : m < b) (hm : mid = (a + b) / 2) (H : Hlf (fun k => R (f (mid + m - 1 - k)) (f k)) lo hi s s) (hc : (mid < m ∧ lo = mid + m - b ∧ hi = mid) ∨ (m ≤ mid ∧ lo = a ∧ hi = m)) : Cut R a m b mid s f := by
  have h1 := H.a
  have h2 := H.c
  refine ⟨by omega, by omega, by omega, by omega, fun k k1 k2 k3 => ?_, fun k1 k2 => ?_⟩
  · have := H.bef k (by omega) (by omega)
    rw [show mid + m - 1 - k = mid + m - s by omega] at this
    exact this
  · have := H.beh s (Nat.le_refl _) (by omega)
    rw [show mid + m - 1 - s = mid + m - s - 1 by omega] at this
    exact this
/-- Both recursions' work. -/
theorem Cut.whole {V : Int → Prop} {mid s : Nat} {g1 g2 : Nat → Int} (T : Tot R V) (h : Mrg R V a m b f) (c : Cut R a m b mid s f) (am : a < mid) (mb : mid < b)
    (p1 : Pm a mid (rot s m (mid + m - s) f) g1) (s1 : Srt R a mid g1) (p2 : Pm mid b g1 g2) (s2 : Srt R mid b g2) : Pm a b f g2 ∧ Srt R a b g2 := by
  obtain ⟨-, -, x⟩ := c.parts T h am mb
  refine ⟨(((Pm.rot f c.sm (by have := c.smid; omega)).mono c.lo c.eb).trans (p1.mono (Nat.le_refl _) (by omega))).trans (p2.mono (by omega) (Nat.le_refl _)), ?_⟩
  refine srt_join (s1.congr fun k k1 k2 => p2.out (.inl k2)) s2 (cross_pm x p1 p2)
theorem Mrg.congr {g : Nat → Int} (h : Mrg R V a m b f) (am : a ≤ m) (mb : m ≤ b) (e : ∀ k, a ≤ k → k < b → g k = f k) : Mrg R V a m b g :=
  ⟨h.s1.congr fun k k1 k2 => e k k1 (by omega), h.s2.congr fun k k1 k2 => e k (by omega) k2, fun i j i1 i2 j1 j2 => by rw [e i i1 (by omega), e j (by omega) j2]; exact h.old i j i1 i2 j1 j2, fun k k1 k2 => by rw [e k k1 k2]; exact h.ok k k1 k2⟩
end
end Stb

set_option maxRecDepth 100000 in
set_option maxHeartbeats 4000000 in
theorem symMerge_one (B N C K : Nat) (e0 : Value) (V : Int → Prop) (R : Int → Int → Prop) (c : Int → Int → Int) (Kp : World → Prop) (H : Cmp K e0 B V R c Kp) (w0 : World) (h0 : Kp w0) (a b : Nat) (f : Nat → Int) (w : World)
    (s : SW B N C w0 w f) (hab : a + 1 < b) (hbn : b ≤ N) (hN : N ≤ 4611686018427387904) (M : Mrg R V a (a + 1) b f) :
    Calls Try.prog 67 #[.slice (some ⟨B, 0, none⟩) N C, .int .i64 a, .int .i64 ((a + 1 : Nat) : Int), .int .i64 b, .func (.func K) #[] #[e0]] w fun e w' => e = .returned (.tuple #[]) ∧ ∃ g, SW B N C w0 w' g ∧ Pm a b f g ∧ Srt R a b g := by
  have S := Lib.hid s
  have HM := Lib.hid M
  have HH := Lib.hid H
  have H0 := Lib.hid h0
  obtain ⟨m, hm⟩ : ∃ m, m = a + 1 := ⟨_, rfl⟩
  rw [← hm]
  have e1 : IntKind.i64.wrap ((m : Int) - (a : Int)) = 1 := by rw [show (m : Int) - (a : Int) = 1 by omega]; rfl
  have H1 := Lib.hid (show m = a + 1 ∧ m < b ∧ b ≤ N from ⟨hm, by omega, hbn⟩)
  have HB := Lib.hid (Hlf.begin (p := fun k => ¬ R (f k) (f a)) (lo := m) (hi := b) (by omega))
  have MO := Lib.hid (show ∀ k l, m ≤ k → k < l → l < b → ¬ R (f k) (f a) → ¬ R (f l) (f a) by rw [hm]; exact M.mono1 H.tot hab)
  clear s M H h0 hab hbn hm
  go_enter Try.func67, Try.ntmps67
  go_wp2_with fail
  go_loopw [10, 11] (fun iv jv wr => ∃ i j : Nat, iv = .int .i64 i ∧ jv = .int .i64 j ∧ Hid (Hlf (fun k => ¬ R (f k) (f a)) m b i j) ∧ Hid (SW B N C w0 wr f)) (fun iv jv _ => (intOf jv).toNat - (intOf iv).toNat)
  case atStart => exact ⟨m, b, rfl, rfl, HB, S⟩
  case round =>
    obtain ⟨i, j, rfl, rfl, HL, RS⟩ := hrel
    clear HB S
    by_cases t1 : i < j
    · obtain ⟨u, hu⟩ : ∃ u, u = i + j := ⟨_, rfl⟩
      obtain ⟨h, hh⟩ : ∃ h, h = u / 2 := ⟨_, rfl⟩
      have eu : IntKind.i64.wrap ((i : Int) + (j : Int)) = (u : Int) := w64 (by omega) (by have := HL.out.c; have := H1.out; omega)
      have ev : IntKind.u64.wrap (u : Int) = (u : Int) := IntWalk.u64_in _ (by have := HL.out.c; have := H1.out; omega)
      have eh : wrap64 ((u : Int) / 2) = (h : Int) := by
        have := HL.out.c; have := H1.out
        rw [show (u : Int) / 2 = (h : Int) by omega]
        exact IntWalk.wrap64_in _ (by omega)
      have hb : i ≤ h ∧ h < j := by omega
      have h0 : (0 : Int) ≤ (h : Int) := by omega
      have h1 : (h : Int) < (N : Int) := by have := HL.out.c; have := H1.out; omega
      have a0 : (0 : Int) ≤ (a : Int) := by omega
      have a1 : (a : Int) < (N : Int) := by have := H1.out; omega
      have ch := RS.out.cell (show h < N by omega)
      have ca := RS.out.cell (show a < N by omega)
      have vh := HM.out.ok h (by have := HL.out.a; have := H1.out; omega) (by have := HL.out.c; omega)
      have va := HM.out.ok a (Nat.le_refl _) (by have := H1.out; omega)
      have CN := Lib.hid (HH.out.neg (f a) (f h) va vh (HM.out.old a h (Nat.le_refl _) (by omega) (by have := HL.out.a; have := H1.out; omega) (by have := HL.out.c; omega)))
      have CL := Lib.hid (fun W (st : Below wr.heap.size wr W) => HH.out.call (f h) (f a) W ((RS.out.call st).kp HH.out H0.out) vh va)
      have UP := Lib.hid (fun nr => HL.out.up MO.out hb.1 hb.2 (fun e => e nr))
      have DN := Lib.hid (fun nr => HL.out.down MO.out hb.1 hb.2 nr)
      obtain ⟨h2, hh2⟩ : ∃ h2, h2 = h + 1 := ⟨_, rfl⟩
      have eh2 : IntKind.i64.wrap ((h : Int) + 1) = (h2 : Int) := w64 (by omega) (by omega)
      have HI := Lib.hid (show i ≤ h ∧ h < j ∧ h2 = h + 1 from ⟨hb.1, hb.2, hh2⟩)
      rw [← hh2] at UP
      have CE := HH.out.ent
      clear vh va hb hu hh hh2 HL
      by_cases cc : c (f h) (f a) < 0
      · have NX := Lib.hid (UP.out (CN.out.1 cc))
        clear CN UP DN
        generalize c (f h) (f a) = r at *
        generalize f h = p at *
        generalize f a = q at *
        go_wp2_with fail
        go_region_held3 (fun w' => w'.cell? ⟨B, h, none⟩ = some (.int .i64 p) ∧ w'.cell? ⟨B, a, none⟩ = some (.int .i64 q)) (first | exact ⟨ch, ca⟩ | exact ⟨cellDr ch, cellDr ca⟩) (first | ((with_reducible refine (CL.out _ (Below.refl _ _).drew).mono ?_); rintro e w1 ⟨rfl, st⟩; have ch := cellGr st (cellDr ch); have ca := cellGr st (cellDr ca)))
        have RS := Lib.hid (RS.out.drew.call st)
        clear CE CL ch ca st
        generalize w1 = v at RS ⊢
        go_wp2_with fail
        go_roundw
        case rel => exact ⟨h2, j, by first | rfl | go_num, rfl, NX, RS⟩
        case measure => have := HI.out; simp [intOf]; omega
      · have NX := Lib.hid (DN.out (fun e => cc (CN.out.2 e)))
        clear CN UP DN
        generalize c (f h) (f a) = r at *
        generalize f h = p at *
        generalize f a = q at *
        go_wp2_with fail
        go_region_held3 (fun w' => w'.cell? ⟨B, h, none⟩ = some (.int .i64 p) ∧ w'.cell? ⟨B, a, none⟩ = some (.int .i64 q)) (first | exact ⟨ch, ca⟩ | exact ⟨cellDr ch, cellDr ca⟩) (first | ((with_reducible refine (CL.out _ (Below.refl _ _).drew).mono ?_); rintro e w1 ⟨rfl, st⟩; have ch := cellGr st (cellDr ch); have ca := cellGr st (cellDr ca)))
        have RS := Lib.hid (RS.out.drew.call st)
        clear CE CL ch ca st
        generalize w1 = v at RS ⊢
        go_wp2_with fail
        go_roundw
        case rel => exact ⟨i, h, rfl, by first | rfl | go_num, NX, RS⟩
        case measure => have := HI.out; simp [intOf]; omega
    · obtain rfl : i = j := by have := HL.out.b; omega
      obtain ⟨x, hx⟩ : ∃ x, x = i - 1 := ⟨_, rfl⟩
      have ex : IntKind.i64.wrap ((i : Int) - 1) = (x : Int) := w64 (by have := HL.out.a; have := H1.out; omega) (by have := HL.out.c; have := H1.out; omega)
      have HX := Lib.hid (show x + 1 = i ∧ a ≤ x ∧ i ≤ b by have := HL.out.a; have := HL.out.c; have := H1.out; omega)
      have FIN := Lib.hid (show Srt R a b (rot a (a + 1) i f) by
        have := HL.out.a; have := HL.out.c; have := H1.out
        exact HM.out.up HH.out.tot (by omega) (by omega) (fun k k1 k2 => Classical.not_not.1 (HL.out.bef k (by omega) k2)) (fun k k1 k2 => HL.out.beh k k1 k2))
      have PIN := Lib.hid (show Pm a b f (rot a (a + 1) i f) by
        have := HL.out.a; have := HL.out.c; have := H1.out
        exact (Pm.rot f (by omega) (by omega)).mono (Nat.le_refl _) (by omega))
      clear hx HL MO HM
      go_wp2_with fail
      go_loopw [13] (fun kv wr => ∃ k : Nat, kv = .int .i64 k ∧ a ≤ k ∧ k ≤ x ∧ Hid (SW B N C w0 wr (rot a (a + 1) (k + 1) f))) (fun kv _ => x - (intOf kv).toNat)
      case atStart => exact ⟨a, rfl, Nat.le_refl _, HX.out.2.1, by rw [rot_right _ (by omega)]; exact RS⟩
      case round =>
        obtain ⟨k, rfl, k0, k1, RK⟩ := hrel
        clear RS
        by_cases t2 : k < x
        · obtain ⟨y, hy⟩ : ∃ y, y = k + 1 := ⟨_, rfl⟩
          have ey : IntKind.i64.wrap ((k : Int) + 1) = (y : Int) := w64 (by omega) (by have := HX.out; have := H1.out; omega)
          have lk : k < N := by have := HX.out; have := H1.out; omega
          have ly : y < N := by have := HX.out; have := H1.out; omega
          have x0 : (0 : Int) ≤ (k : Int) := by omega
          have x1 : (k : Int) < (N : Int) := by omega
          have y0 : (0 : Int) ≤ (y : Int) := by omega
          have y1 : (y : Int) < (N : Int) := by omega
          have ky : ¬ k = y := by omega
          have yk : ¬ y = k := by omega
          have NX := Lib.hid (RK.out.swap k y)
          have EQ := Lib.hid (show swp k y (rot a (a + 1) (k + 1) f) = rot a (a + 1) (y + 1) f by rw [hy]; exact rot_up f k0)
          have ck := RK.out.cell lk
          have cy := RK.out.cell ly
          have fk := RK.out.frozen k
          have fy := RK.out.frozen y
          have HY := Lib.hid (show y = k + 1 ∧ a ≤ k ∧ k < x from ⟨hy, k0, t2⟩)
          clear RK hy k0 k1 lk ly
          rw [EQ.out] at NX
          generalize rot a (a + 1) (k + 1) f k = p at *
          generalize rot a (a + 1) (k + 1) f y = q at *
          go_wp2_with fail
          go_region
          have RK := Lib.hid NX.out.drew
          clear NX ck cy fk fy EQ
          generalize ((wr.setCell ⟨B, k, none⟩ (.int .i64 q)).setCell ⟨B, y, none⟩ (.int .i64 p)).drew = v at RK ⊢
          go_wp2_with fail
          go_roundw
          case rel => exact ⟨y, by first | rfl | go_num, by have := HY.out; omega, by have := HY.out; omega, RK⟩
          case measure => have := HY.out; simp [intOf]; omega
        · obtain rfl : k = x := by omega
          go_wp2_with fail
          first | go_ret2 | go_ret | go_returns
          rw [HX.out.1] at RK
          exact ⟨rfl, _, RK.out, PIN.out, FIN.out⟩
end Go.Proofs.Ytmdhmpfagekonaa
