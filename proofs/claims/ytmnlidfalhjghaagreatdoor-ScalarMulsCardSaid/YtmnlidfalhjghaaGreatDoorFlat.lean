/- The kit's flatBytes: lists of bytes that lie apart stay what they are marked. -/
import Derived.Test.YtmnlidfalhjghaaGreatDoorLent
import Derived.Test.YtmnlidfalhjghaaGreatDoorFlowG
import Derived.Test.YtmnlidfalhjghaaGreatDoorOwnRows
import Derived.BigRegion
import Derived.RegionTactic
import Derived.Deep.RegionWith
import Derived.IntWalk
namespace Go.Proofs.YtmnlidfalhjghaaGreatDoor
open Go.RowKit Ow

theorem elt_u8 : Elt 5 22 1 (.int .u8 0) := ⟨Tryz.underlying22, by
  obtain ⟨i, hi, hz, hs, hb⟩ := info_u8z
  exact ⟨i, hi, hz, hs, hb, rfl⟩⟩
/-- lists: where they lie, how long, how much room -/
structure Lists where
  A : Nat → Option Addr
  n : Nat → Nat
  C : Nat → Nat
def Lists.v (V : Lists) (j : Nat) : Value := .slice (V.A j) (V.n j) (V.C j)
def Lists.g (V : Lists) (j : Nat) : Option Nat := (V.A j).map (·.block)
/-- the blocks of the first m -/
def Lists.S (V : Lists) (m : Nat) (i : Nat) : Prop := ∃ j, j < m ∧ V.g j = some i
structure Lists.Apart (V : Lists) (m : Nat) (LB top : Nat) : Prop where
  apart : ∀ j k, j < m → k < m → j ≠ k → V.g j = none ∨ V.g j ≠ V.g k
  ls : ∀ j, j < m → V.g j ≠ some LB
  old : ∀ j, j < m → ∀ i, V.g j = some i → i < top
  small : ∀ j, j < m → V.n j ≤ 100000
theorem Lists.own_block (V : Lists) (j : Nat) : (V.v j).ownBlock = V.g j := by
  unfold Lists.v Lists.g Value.ownBlock
  cases V.A j <;> rfl
def mkV (f : Nat → Nat → Nat) (k c : Nat) : List Value := (marksOf f k c).map u8N
theorem mkV_length (f : Nat → Nat → Nat) (k c : Nat) : (mkV f k c).length = c := by simp [mkV, marksOf_length]
theorem mkV_next (f : Nat → Nat → Nat) (k c : Nat) : mkV f k (c + 1) = mkV f k c ++ [u8N (f k c)] := marksOf_next f k c
theorem mkV_get (f : Nat → Nat → Nat) (k c i : Nat) (h : i < c) : (mkV f k c)[i]? = some (u8N (f k i)) := by
  unfold mkV
  rw [u8_getD (by rw [marksOf_length]; exact h), marksOf_get f k c i h]
theorem mkV_take (f : Nat → Nat → Nat) (k c d : Nat) (h : d ≤ c) : (mkV f k c).take d = mkV f k d := by
  apply List.ext_getElem?
  intro i
  rw [List.getElem?_take]
  by_cases hi : i < d
  · rw [if_pos hi, mkV_get f k c i (by omega), mkV_get f k d i hi]
  · rw [if_neg hi, List.getElem?_eq_none (by rw [mkV_length]; omega)]
theorem mkV_one (f : Nat → Nat → Nat) (k c : Nat) : ∀ u ∈ mkV f k c, u.oneCell' = true := by
  intro u hu
  obtain ⟨x, _, rfl⟩ := List.mem_map.1 hu
  rfl
/-- amid marking -/
def amid (f : Nat → Nat → Nat) (k i : Nat) (xs : List Value) : List Value := mkV f k i ++ xs.drop i
theorem amid_start (f : Nat → Nat → Nat) (k : Nat) (xs : List Value) : amid f k 0 xs = xs := by simp [amid, mkV, marksOf]
theorem amid_end (f : Nat → Nat → Nat) (k n : Nat) (xs : List Value) (h : xs.length = n) : amid f k n xs = mkV f k n := by
  unfold amid; rw [List.drop_eq_nil_of_le (by omega), List.append_nil]
theorem amid_set (f : Nat → Nat → Nat) (k i : Nat) (xs : List Value) (h : i < xs.length) : (amid f k i xs).set i (u8N (f k i)) = amid f k (i + 1) xs := by
  unfold amid
  rw [List.set_append_right _ _ (by rw [mkV_length]; omega), mkV_length, Nat.sub_self, mkV_next, List.append_assoc]
  congr 1
  rw [List.drop_eq_getElem_cons h]
  rfl
/-- each list, the first k marked, of the next one i -/
def rowAt (f : Nat → Nat → Nat) (V : Lists) (xs : Nat → List Value) (k i j : Nat) : List Value := if j < k then mkV f j (V.n j) else if j = k then amid f k i (xs j) else xs j
def Owns (w : World) (V : Lists) (m : Nat) (r : Nat → List Value) : Prop := ∀ j, j < m → w.ownsRow 0 5 1 (V.v j) (V.n j) (r j)
theorem Owns.kept {w w' : World} {V : Lists} {m : Nat} {r : Nat → List Value} (h : Owns w V m r) {row : Option Nat} (hg : w.grownBy w' row) (hr : ∀ j, j < m → V.g j = none ∨ V.g j ≠ row) : Owns w' V m r := fun j hj =>
  (h j hj).kept hg (by rw [V.own_block]; exact hr j hj)
theorem Owns.stay {w w' : World} {V : Lists} {m : Nat} {r : Nat → List Value} (h : Owns w V m r) (hg : w.grownBy w' none) : Owns w' V m r := h.kept hg (fun j _ => by cases V.g j <;> simp)
theorem Owns.congr {w : World} {V : Lists} {m : Nat} {r r' : Nat → List Value} (h : Owns w V m r) (hr : ∀ j, j < m → r j = r' j) : Owns w V m r' := fun j hj => hr j hj ▸ h j hj
/-- list k has a block, if it is not empty -/
theorem Owns.some {w : World} {V : Lists} {m : Nat} {r : Nat → List Value} (h : Owns w V m r) {k : Nat} (hk : k < m) (hn : 0 < V.n k) : ∃ g, V.A k = some ⟨g, 0, none⟩ ∧ V.g k = some g := by
  obtain ⟨g, c, e, _⟩ := own_some (h k hk) hn
  unfold Lists.v at e
  cases e' : V.A k with
  | none => rw [e'] at e; cases e
  | some a =>
    rw [e'] at e
    cases e
    exact ⟨g, rfl, by unfold Lists.g; rw [e']; rfl⟩
/-- one cell of list k set -/
theorem Owns.set {w : World} {V : Lists} {m LB top : Nat} {r r' : Nat → List Value} (h : Owns w V m r) (hV : V.Apart m LB top) {k i g : Nat} (hk : k < m) (hA : V.A k = Option.some ⟨g, 0, none⟩) (v : Value) (hr : ∀ j, j < m → r' j = if j = k then (r k).set i v else r j) : Owns (w.setCell ⟨g, i, none⟩ v) V m r' := by
  intro j hj
  rw [hr j hj]
  by_cases e : j = k
  · subst e
    rw [if_pos rfl]
    have := h j hj
    unfold Lists.v at this ⊢
    rw [hA] at this ⊢
    exact own_set this v
  · rw [if_neg e]
    refine (h j hj).kept (gb_set (gb_refl w (Option.some g)) i v) ?_
    rw [V.own_block]
    have hgk : V.g k = Option.some g := by unfold Lists.g; rw [hA]; rfl
    rw [← hgk]
    exact hV.apart j k hj hk e
/-- the list of the lists, in its block (with room behind it) -/
def ListAt (w : World) (LB : Nat) (V : Lists) (m : Nat) : Prop := ∃ tl, Blk w LB 22 ((List.range m).map V.v ++ tl)
theorem ListAt.lt {w : World} {LB : Nat} {V : Lists} {m : Nat} (h : ListAt w LB V m) : LB < w.heap.size := h.elim fun _ h => h.lt
theorem ListAt.grown {w w' : World} {LB : Nat} {V : Lists} {m : Nat} {row : Option Nat} (h : ListAt w LB V m) (hg : w.grownBy w' row) (hr : some LB ≠ row) : ListAt w' LB V m := h.elim fun tl h => ⟨tl, h.grown hg hr⟩
theorem ListAt.other {w : World} {LB : Nat} {V : Lists} {m : Nat} (h : ListAt w LB V m) {a : Addr} (ha : a.block ≠ LB) (v : Value) : ListAt (w.setCell a v) LB V m := h.elim fun tl h => ⟨tl, h.other ha v⟩
theorem ListAt.cell {w : World} {LB : Nat} {V : Lists} {m k : Nat} (h : ListAt w LB V m) (hk : k < m) : w.cell? ⟨LB, k, none⟩ = some (V.v k) := h.elim fun tl h => h.cell (by rw [List.getElem?_append_left (by simpa using hk)]; simp [hk])
/-- what the loops keep: the lists' own list, what the lists hold, and all else -/
structure FlatAt (V : Lists) (m LB : Nat) (w wr : World) (r : Nat → List Value) : Prop where
  own : Owns wr V m r
  list : ListAt wr LB V m
  kept : Kb (V.S m) w wr
theorem FlatAt.at {V : Lists} {m LB k : Nat} {w wr : World} {r : Nat → List Value} (h : FlatAt V m LB w wr r) (hk : k < m) : wr.cell? ⟨LB, k, none⟩ = some (.slice (V.A k) (V.n k) (V.C k)) :=
  h.list.cell hk
theorem FlatAt.congr {V : Lists} {m LB : Nat} {w wr : World} {r r' : Nat → List Value} (h : FlatAt V m LB w wr r) (e : ∀ j, j < m → r j = r' j) : FlatAt V m LB w wr r' := ⟨h.own.congr e, h.list, h.kept⟩
theorem FlatAt.drew {V : Lists} {m LB : Nat} {w wr : World} {r : Nat → List Value} (h : FlatAt V m LB w wr r) (n : Nat) : FlatAt V m LB w (wr.drewN n) r :=
  ⟨h.own.stay (gb_drewN (gb_refl _ _) n), h.list, kb_drewN h.kept n⟩
theorem FlatAt.stay {V : Lists} {m LB : Nat} {w wr w' : World} {r : Nat → List Value} (h : FlatAt V m LB w wr r) (hg : wr.grownBy w' none) : FlatAt V m LB w w' r :=
  ⟨h.own.stay hg, h.list.grown hg (by simp), kb_stay h.kept hg⟩
theorem rowAt_next (f : Nat → Nat → Nat) (V : Lists) (xs : Nat → List Value) (k j : Nat) (hl : (xs k).length = V.n k) : rowAt f V xs k (V.n k) j = rowAt f V xs (k + 1) 0 j := by
  unfold rowAt
  by_cases h1 : j < k
  · rw [if_pos h1, if_pos (by omega)]
  · rw [if_neg h1]
    by_cases h2 : j = k
    · subst h2; rw [if_pos rfl, if_pos (by omega), amid_end _ _ _ _ hl]
    · rw [if_neg h2, if_neg (by omega)]
      by_cases h3 : j = k + 1
      · rw [if_pos h3, h3, amid_start]
      · rw [if_neg h3]
theorem rowAt_set (f : Nat → Nat → Nat) (V : Lists) (xs : Nat → List Value) (k i j : Nat) (hi : i < (xs k).length) : rowAt f V xs k (i + 1) j = if j = k then (rowAt f V xs k i k).set i (u8N (f k i)) else rowAt f V xs k i j := by
  unfold rowAt
  by_cases h2 : j = k
  · subst h2; simp only [Nat.lt_irrefl, if_false, if_pos]; rw [amid_set _ _ _ _ hi]
  · simp only [if_neg h2]
theorem rowAt_end (f : Nat → Nat → Nat) (V : Lists) (xs : Nat → List Value) (m j : Nat) (h : j < m) : rowAt f V xs m 0 j = mkV f j (V.n j) := by unfold rowAt; rw [if_pos h]
theorem rowAt_start (f : Nat → Nat → Nat) (V : Lists) (xs : Nat → List Value) (j : Nat) : rowAt f V xs 0 0 j = xs j := by
  unfold rowAt
  rw [if_neg (by omega)]
  by_cases h : j = 0
  · rw [if_pos h, amid_start, h]
  · rw [if_neg h]
theorem FlatAt.set {f : Nat → Nat → Nat} {V : Lists} {m LB k i g : Nat} {w wr : World} {xs : Nat → List Value} (hV : V.Apart m LB w.heap.size) (h : FlatAt V m LB w wr (rowAt f V xs k i)) (hk : k < m) (hi : i < (xs k).length) (hA : V.A k = some ⟨g, 0, none⟩) : FlatAt V m LB w (wr.setCell ⟨g, i, none⟩ (u8N (f k i))) (rowAt f V xs k (i + 1)) := by
  have hg : V.g k = some g := by unfold Lists.g; rw [hA]; rfl
  refine ⟨h.own.set hV hk hA _ (fun j _ => rowAt_set f V xs k i j hi), h.list.other (fun e => hV.ls k hk (by rw [hg]; exact congrArg some e)) _, kb_then h.kept (gb_set (gb_refl _ (some g)) i _) (fun r e => Or.inl ?_)⟩
  cases e
  exact ⟨k, hk, hg⟩
theorem FlatAt.old {f : Nat → Nat → Nat} {V : Lists} {m LB k i g : Nat} {w wr : World} {xs : Nat → List Value} (h : FlatAt V m LB w wr (rowAt f V xs k i)) (hk : k < m) (hi : i < (xs k).length) (hA : V.A k = some ⟨g, 0, none⟩) : ∃ u, wr.cell? ⟨g, i, none⟩ = some u := by
  have := h.own k hk
  unfold Lists.v at this
  rw [hA] at this
  refine ⟨(xs k)[i], own_cell this ?_⟩
  unfold rowAt
  rw [if_neg (by omega), if_pos rfl]
  unfold amid
  rw [List.getElem?_append_right (by rw [mkV_length]; omega), mkV_length, Nat.sub_self, List.getElem?_drop, Nat.add_zero, List.getElem?_eq_getElem hi]
theorem FlatAt.free {V : Lists} {m LB k i g : Nat} {w wr : World} {r : Nat → List Value} (h : FlatAt V m LB w wr r) (hk : k < m) (hA : V.A k = some ⟨g, 0, none⟩) : wr.frozen? ⟨g, i, none⟩ = false := by
  have := h.own k hk
  unfold Lists.v at this
  rw [hA] at this
  exact own_free this i
end Go.Proofs.YtmnlidfalhjghaaGreatDoor
