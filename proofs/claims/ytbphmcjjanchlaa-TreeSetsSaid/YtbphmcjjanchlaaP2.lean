/- A map's nodes in memory: where a tree lies, and what becomes of it. -/
import Derived.Test.YtbphmcjjanchlaaP1
import Derived.Test.YtbphmcjjanchlaaB0
import Derived.Deep.RegionHeld3
import Derived.IntWalk
import Derived.Laws.Tables
namespace Go.Proofs.Ytbphmcjjanchlaa
open Go.RowKit
set_option linter.unusedVariables false
set_option linter.unusedSimpArgs false

theorem cell_gr {A B : World} {a : Addr} {x : Value} (st : Below A.heap.size A B) (h : A.cell? a = some x) : B.cell? a = some x := (st.cell (World.block_lt_of_cell? A _ h)).trans h
theorem fro_gr {A B : World} {a : Addr} {x : Value} (st : Below A.heap.size A B) (h : A.cell? a = some x) (f : A.frozen? a = false) : B.frozen? a = false := (st.frozen (World.block_lt_of_cell? A _ h)).trans f
theorem cell_al {W : World} {a : Addr} {x : Value} (o : Obj) (h : W.cell? a = some x) : (W.alloc o).cell? a = some x := cell_gr ((Below.refl _ W).alloc (Nat.le_refl _) o) h
theorem cell_st {W : World} {a p : Addr} {x y : Value} (hn : ¬ a.block = p.block) (h : W.cell? a = some x) : (W.setCell p y).cell? a = some x :=
  (World.cell?_setCell_other _ _ _ _ (by intro e; have := congrArg Addr.block e; omega)).trans h
theorem cell_dr {W : World} {a : Addr} {x : Value} (h : W.cell? a = some x) : W.drew.cell? a = some x := h
theorem Below.dr {n : Nat} {A B : World} (h : Below n A B) : Below n A B.drew := h.trans ((Below.refl n B).drew)
theorem Below.of_dr {n : Nat} {A B : World} (h : Below n A.drew B) : Below n A B := ((Below.refl n A).drew).trans h

theorem cells_of_one {v : Value} (h : v.oneCell' = true) : v.cells = #[v] := by
  cases v <;> first | rfl | (simp [Value.oneCell'] at h)
/-- How a key lies in a cell. -/
class KV (κ : Type) extends KO κ where
  kv : κ → Value
  np : ∀ k x, kv k ≠ .pointer x
instance : KV Int := ⟨fun x => .int .i64 x, fun _ _ h => by cases h⟩
/-- The key's value, and a value of one cell. -/
def IsKV {κ : Type} [KV κ] (k : κ) (kx v : Value) : Prop := kx = KV.kv k ∧ v.oneCell' = true
/-- The tree lies at p, each node in a block: key, value, both sides, length, depth. -/
def At {κ : Type} [KV κ] (w : World) : Option Addr → Tr κ Value → Prop
  | p, .nil => p = none
  | p, .node k v l r => ∃ (b : Nat) (pl pr : Option Addr), p = some ⟨b, 0, none⟩ ∧ w.cell? ⟨b, 0, none⟩ = some (KV.kv k) ∧ w.cell? ⟨b, 1, none⟩ = some v ∧ w.cell? ⟨b, 2, none⟩ = some (.pointer pl) ∧ w.cell? ⟨b, 3, none⟩ = some (.pointer pr)
    ∧ w.cell? ⟨b, 4, none⟩ = some (.int .i64 ((l.sz + 1 + r.sz : Nat) : Int)) ∧ w.cell? ⟨b, 5, none⟩ = some (.int .i64 ((max l.dep r.dep + 1 : Nat) : Int)) ∧ v.oneCell' = true ∧ At w pl l ∧ At w pr r
theorem At.grow {κ : Type} [KV κ] {A B : World} (st : Below A.heap.size A B) : ∀ {p : Option Addr} {t : Tr κ Value}, At A p t → At B p t
  | _, .nil, h => h
  | _, .node k v l r, ⟨b, pl, pr, e, c0, c1, c2, c3, c4, c5, ov, hl, hr⟩ =>
    ⟨b, pl, pr, e, cell_gr st c0, cell_gr st c1, cell_gr st c2, cell_gr st c3, cell_gr st c4, cell_gr st c5, ov, At.grow st hl, At.grow st hr⟩
theorem At.below {κ : Type} [KV κ] {n : Nat} {A B : World} {p : Option Addr} {t : Tr κ Value} (h : At A p t) (st : Below n A B) (hn : A.heap.size ≤ n) : At B p t := h.grow (st.mono hn)
theorem At.alloc {κ : Type} [KV κ] {A : World} {p : Option Addr} {t : Tr κ Value} (o : Obj) (a : At A p t) : At (A.alloc o) p t := a.grow ((Below.refl _ A).alloc (Nat.le_refl _) o)
theorem At.drew {κ : Type} [KV κ] {A : World} {p : Option Addr} {t : Tr κ Value} (a : At A p t) : At A.drew p t := a.grow (Below.refl _ A).drew
theorem At.none {κ : Type} [KV κ] {w : World} {t : Tr κ Value} (h : At w none t) : t = .nil := by
  cases t with
  | nil => rfl
  | node k v l r => obtain ⟨b, pl, pr, e, _⟩ := h; cases e
theorem At.nonnil {κ : Type} [KV κ] {w : World} {p : Option Addr} {t : Tr κ Value} (h : At w p t) (hd : 0 < t.dep) :
    ∃ b k v pl pr l r, p = some ⟨b, 0, Option.none⟩ ∧ t = .node k v l r ∧ v.oneCell' = true ∧ w.cell? ⟨b, 0, Option.none⟩ = some (KV.kv k) ∧ w.cell? ⟨b, 1, Option.none⟩ = some v ∧ w.cell? ⟨b, 2, Option.none⟩ = some (.pointer pl) ∧ w.cell? ⟨b, 3, Option.none⟩ = some (.pointer pr) ∧ At w pl l ∧ At w pr r := by
  cases t with
  | nil => simp [Tr.dep] at hd
  | node k v l r =>
    obtain ⟨b, pl, pr, e, c0, c1, c2, c3, _, _, ov, hl, hr⟩ := h
    exact ⟨b, k, v, pl, pr, l, r, e, rfl, ov, c0, c1, c2, c3, hl, hr⟩
/-- A store into a cell that holds a pointer hits no node. -/
theorem At.set {κ : Type} [KV κ] {A : World} {c : Nat} {x : Option Addr} (y : Value) (hc : A.cell? ⟨c, 0, Option.none⟩ = some (.pointer x)) : ∀ {p : Option Addr} {t : Tr κ Value}, At A p t → At (A.setCell ⟨c, 0, Option.none⟩ y) p t
  | _, .nil, h => h
  | _, .node k v l r, ⟨b, pl, pr, e, c0, c1, c2, c3, c4, c5, ov, hl, hr⟩ => by
    have hne : ¬ b = c := fun e => by subst e; rw [c0] at hc; exact KV.np k x (Option.some.inj hc)
    exact ⟨b, pl, pr, e, cell_st hne c0, cell_st hne c1, cell_st hne c2, cell_st hne c3, cell_st hne c4, cell_st hne c5, ov, At.set y hc hl, At.set y hc hr⟩
/-- A call that gives back a map. -/
def MapR {κ : Type} [KV κ] (w : World) (Q : Tr κ Value → Prop) (e : Ending) (w' : World) : Prop := ∃ q t, e = .returned (.agg #[.pointer q]) ∧ At w' q t ∧ Q t ∧ Below w.heap.size w w'
theorem MapR.set {κ : Type} [KV κ] {w W : World} {Q : Tr κ Value → Prop} {c : Nat} {x q : Option Addr} {t : Tr κ Value} (y : Value) (hc : W.cell? ⟨c, 0, Option.none⟩ = some (.pointer x)) (h : At W q t) (hq : Q t) (hb : Below w.heap.size w W) (hn : w.heap.size ≤ c) :
    MapR w Q (.returned (.agg #[.pointer q])) (W.setCell ⟨c, 0, Option.none⟩ y) := ⟨q, t, rfl, h.set y hc, hq, hb.setCell hn y⟩
theorem MapR.here {κ : Type} [KV κ] {w W : World} {Q : Tr κ Value → Prop} {q : Option Addr} {t : Tr κ Value} (h : At W q t) (hq : Q t) (hb : Below w.heap.size w W) : MapR w Q (.returned (.agg #[.pointer q])) W := ⟨q, t, rfl, h, hq, hb⟩
/-- How many keys a pointer's tree has, read off its root: a loop's measure. -/
def szOf (w : World) (v : Value) : Nat := match v with
  | .pointer (some a) => (match w.cell? ⟨a.block, 4, none⟩ with
    | some (.int _ x) => x.toNat
    | _ => 0)
  | _ => 0
theorem szOf_at {κ : Type} [KV κ] {w : World} {p : Option Addr} {t : Tr κ Value} (h : At w p t) : szOf w (.pointer p) = t.sz := by
  cases t with
  | nil => obtain rfl : p = none := h; rfl
  | node k v l r =>
    obtain ⟨b, pl, pr, rfl, _, _, _, _, c4, _⟩ := h
    simp only [szOf, c4, Tr.sz]
    omega
end Go.Proofs.Ytbphmcjjanchlaa
