/- The kit's flatDots: lists of dots that lie apart stay what they are marked. (By gen_fd.py out of XFlat.) -/
import Derived.Test.YtkffbaihknhefaaGreatFdOwn
import Derived.Test.YtkffbaihknhefaaGreatFlowG
import Derived.IntWalk
namespace Go.Proofs.YtkffbaihknhefaaGreat
open Go.RowKit Ve
namespace Fd
/-- lists: where they lie, how long, how much room -/
structure Lists where
  A : Nat → Option Addr
  n : Nat → Nat
  C : Nat → Nat
def Lists.v (V : Lists) (j : Nat) : Value := .slice (V.A j) (V.n j) (V.C j)
def Lists.g (V : Lists) (j : Nat) : Option Nat := (V.A j).map (·.block)
/-- the blocks of the first m -/
def Lists.S (V : Lists) (m : Nat) (i : Nat) : Prop := ∃ j, j < m ∧ V.g j = some i
structure Lists.Apart (V : Lists) (m : Nat) (LB top : Nat) : Prop where
  apart : ∀ j k, j < m → k < m → j ≠ k → V.g j = none ∨ V.g j ≠ V.g k
  ls : ∀ j, j < m → V.g j ≠ some LB
  old : ∀ j, j < m → ∀ i, V.g j = some i → i < top
  small : ∀ j, j < m → V.n j ≤ 100000
theorem Lists.own_block (V : Lists) (j : Nat) : (V.v j).ownBlock = V.g j := by
  unfold Lists.v Lists.g Value.ownBlock
  cases V.A j <;> rfl
def marksF (f : Nat → Nat → Nat) (k j : Nat) : List D := (List.range j).map fun i => (0, (f k i : Int))
theorem marksF_len (f : Nat → Nat → Nat) (k j : Nat) : (marksF f k j).length = j := by simp [marksF]
theorem marksF_next (f : Nat → Nat → Nat) (k j : Nat) : marksF f k (j + 1) = marksF f k j ++ [(0, (f k j : Int))] := by simp [marksF, List.range_succ]
theorem marksF_get (f : Nat → Nat → Nat) (k j i : Nat) (h : i < j) : (marksF f k j).getD i z0 = (0, (f k i : Int)) := by
  unfold marksF; rw [List.getD_eq_getElem?_getD, List.getElem?_map, List.getElem?_range h]; rfl
/-- marks, by whatever function -/
def MarksD (f : Nat → Nat → Nat) : Prop := ∀ (k i : Nat) (W : World), k ≤ 1000000 → i ≤ 1000000 → Calls Tryz.prog 23 #[.int .i64 k, .int .i64 i] W (MarkOut W (f k i))
theorem marksD_kit : MarksD mkN := fun k i W hk hi => markDot_any k i W hk hi
theorem marksD_are : ∃ f, MarksD f := ⟨mkN, marksD_kit⟩
def mkV (f : Nat → Nat → Nat) (k c : Nat) : List Value := dotsC (marksF f k c)
theorem mkV_length (f : Nat → Nat → Nat) (k c : Nat) : (mkV f k c).length = c * 2 := by rw [mkV, dotsC_len, marksF_len]
theorem mkV_next (f : Nat → Nat → Nat) (k c : Nat) : mkV f k (c + 1) = mkV f k c ++ [iV 0, iV (f k c)] := by rw [mkV, marksF_next, dotsC_app]; rfl
theorem mkV_get (f : Nat → Nat → Nat) (k c i : Nat) (h : i < c) : (mkV f k c)[i * 2]? = some (iV 0) ∧ (mkV f k c)[i * 2 + 1]? = some (iV (f k i)) := by
  have := dotsC_at (marksF f k c) i (by rw [marksF_len]; exact h)
  rw [marksF_get f k c i h] at this
  exact this
theorem marksF_take (f : Nat → Nat → Nat) (k c d : Nat) (h : d ≤ c) : (marksF f k c).take d = marksF f k d := by
  unfold marksF
  rw [← List.map_take, List.take_range, Nat.min_eq_left h]
theorem mkV_take (f : Nat → Nat → Nat) (k c d : Nat) (h : d ≤ c) : (mkV f k c).take (d * 2) = mkV f k d := by
  rw [mkV, dotsC_take, marksF_take f k c d h]; rfl
theorem mkV_one (f : Nat → Nat → Nat) (k c : Nat) : ∀ u ∈ mkV f k c, u.oneCell' = true := dotsC_cell _
/-- amid marking -/
def amid (f : Nat → Nat → Nat) (k i : Nat) (xs : List Value) : List Value := mkV f k i ++ xs.drop (i * 2)
theorem amid_start (f : Nat → Nat → Nat) (k : Nat) (xs : List Value) : amid f k 0 xs = xs := by simp [amid, mkV, marksF, dotsC]
theorem amid_end (f : Nat → Nat → Nat) (k n : Nat) (xs : List Value) (h : xs.length = n * 2) : amid f k n xs = mkV f k n := by
  unfold amid; rw [List.drop_eq_nil_of_le (by omega), List.append_nil]
theorem amid_set (f : Nat → Nat → Nat) (k i : Nat) (xs : List Value) (h : i * 2 + 1 < xs.length) : ((amid f k i xs).set (i * 2) (iV 0)).set (i * 2 + 1) (iV (f k i)) = amid f k (i + 1) xs := by
  unfold amid
  rw [List.set_append_right _ _ (by rw [mkV_length]; omega), mkV_length, Nat.sub_self, List.set_append_right _ _ (by rw [mkV_length]; omega), mkV_length, show i * 2 + 1 - i * 2 = 1 by omega, mkV_next, List.append_assoc]
  congr 1
  rw [List.drop_eq_getElem_cons (show i * 2 < xs.length by omega), List.drop_eq_getElem_cons h, show (i + 1) * 2 = i * 2 + 1 + 1 by omega]
  rfl
/-- each list, the first k marked, of the next one i -/
def rowAt (f : Nat → Nat → Nat) (V : Lists) (xs : Nat → List Value) (k i j : Nat) : List Value := if j < k then mkV f j (V.n j) else if j = k then amid f k i (xs j) else xs j
def Owns (w : World) (V : Lists) (m : Nat) (r : Nat → List Value) : Prop := ∀ j, j < m → w.ownsRow 0 25 2 (V.v j) (V.n j) (r j)
theorem Owns.kept {w w' : World} {V : Lists} {m : Nat} {r : Nat → List Value} (h : Owns w V m r) {row : Option Nat} (hg : w.grownBy w' row) (hr : ∀ j, j < m → V.g j = none ∨ V.g j ≠ row) : Owns w' V m r := fun j hj =>
  (h j hj).kept hg (by rw [V.own_block]; exact hr j hj)
theorem Owns.stay {w w' : World} {V : Lists} {m : Nat} {r : Nat → List Value} (h : Owns w V m r) (hg : w.grownBy w' none) : Owns w' V m r := h.kept hg (fun j _ => by cases V.g j <;> simp)
theorem Owns.congr {w : World} {V : Lists} {m : Nat} {r r' : Nat → List Value} (h : Owns w V m r) (hr : ∀ j, j < m → r j = r' j) : Owns w V m r' := fun j hj => hr j hj ▸ h j hj
/-- list k has a block, if it is not empty -/
theorem Owns.some {w : World} {V : Lists} {m : Nat} {r : Nat → List Value} (h : Owns w V m r) {k : Nat} (hk : k < m) (hn : 0 < V.n k) : ∃ g, V.A k = some ⟨g, 0, none⟩ ∧ V.g k = some g := by
  obtain ⟨g, c, e, _⟩ := own_some (h k hk) hn
  unfold Lists.v at e
  cases e' : V.A k with
  | none => rw [e'] at e; cases e
  | some a =>
    rw [e'] at e
    cases e
    exact ⟨g, rfl, by unfold Lists.g; rw [e']; rfl⟩
/-- two cells of list k set -/
theorem Owns.set {w : World} {V : Lists} {m LB top : Nat} {r r' : Nat → List Value} (h : Owns w V m r) (hV : V.Apart m LB top) {k i g : Nat} (hk : k < m) (hA : V.A k = Option.some ⟨g, 0, none⟩) (u v : Value) (hr : ∀ j, j < m → r' j = if j = k then ((r k).set (i * 2) u).set (i * 2 + 1) v else r j) : Owns ((w.setCell ⟨g, i * 2, none⟩ u).setCell ⟨g, i * 2 + 1, none⟩ v) V m r' := by
  intro j hj
  rw [hr j hj]
  by_cases e : j = k
  · subst e
    rw [if_pos rfl]
    have := h j hj
    unfold Lists.v at this ⊢
    rw [hA] at this ⊢
    exact own_set (own_set this u) v
  · rw [if_neg e]
    refine (h j hj).kept (gb_set (gb_set (gb_refl w (Option.some g)) _ u) _ v) ?_
    rw [V.own_block]
    have hgk : V.g k = Option.some g := by unfold Lists.g; rw [hA]; rfl
    rw [← hgk]
    exact hV.apart j k hj hk e
/-- the list of the lists, in its block (with room behind it) -/
def ListAt (w : World) (LB : Nat) (V : Lists) (m : Nat) : Prop := ∃ tl, Blk w LB 26 ((List.range m).map V.v ++ tl)
theorem ListAt.lt {w : World} {LB : Nat} {V : Lists} {m : Nat} (h : ListAt w LB V m) : LB < w.heap.size := h.elim fun _ h => h.lt
theorem ListAt.grown {w w' : World} {LB : Nat} {V : Lists} {m : Nat} {row : Option Nat} (h : ListAt w LB V m) (hg : w.grownBy w' row) (hr : some LB ≠ row) : ListAt w' LB V m := h.elim fun tl h => ⟨tl, h.grown hg hr⟩
theorem ListAt.other {w : World} {LB : Nat} {V : Lists} {m : Nat} (h : ListAt w LB V m) {a : Addr} (ha : a.block ≠ LB) (v : Value) : ListAt (w.setCell a v) LB V m := h.elim fun tl h => ⟨tl, h.other ha v⟩
theorem ListAt.cell {w : World} {LB : Nat} {V : Lists} {m k : Nat} (h : ListAt w LB V m) (hk : k < m) : w.cell? ⟨LB, k, none⟩ = some (V.v k) := h.elim fun tl h => h.cell (by rw [List.getElem?_append_left (by simpa using hk)]; simp [hk])
/-- what the loops keep: the lists' own list, what the lists hold, and all else -/
structure FlatAt (V : Lists) (m LB : Nat) (w wr : World) (r : Nat → List Value) : Prop where
  own : Owns wr V m r
  list : ListAt wr LB V m
  kept : Kb (V.S m) w wr
theorem FlatAt.at {V : Lists} {m LB k : Nat} {w wr : World} {r : Nat → List Value} (h : FlatAt V m LB w wr r) (hk : k < m) : wr.cell? ⟨LB, k, none⟩ = some (.slice (V.A k) (V.n k) (V.C k)) :=
  h.list.cell hk
theorem FlatAt.congr {V : Lists} {m LB : Nat} {w wr : World} {r r' : Nat → List Value} (h : FlatAt V m LB w wr r) (e : ∀ j, j < m → r j = r' j) : FlatAt V m LB w wr r' := ⟨h.own.congr e, h.list, h.kept⟩
theorem FlatAt.drew {V : Lists} {m LB : Nat} {w wr : World} {r : Nat → List Value} (h : FlatAt V m LB w wr r) (n : Nat) : FlatAt V m LB w (wr.drewN n) r :=
  ⟨h.own.stay (gb_drewN (gb_refl _ _) n), h.list, kb_drewN h.kept n⟩
theorem FlatAt.stay {V : Lists} {m LB : Nat} {w wr w' : World} {r : Nat → List Value} (h : FlatAt V m LB w wr r) (hg : wr.grownBy w' none) : FlatAt V m LB w w' r :=
  ⟨h.own.stay hg, h.list.grown hg (by simp), kb_stay h.kept hg⟩
theorem rowAt_next (f : Nat → Nat → Nat) (V : Lists) (xs : Nat → List Value) (k j : Nat) (hl : (xs k).length = V.n k * 2) : rowAt f V xs k (V.n k) j = rowAt f V xs (k + 1) 0 j := by
  unfold rowAt
  by_cases h1 : j < k
  · rw [if_pos h1, if_pos (by omega)]
  · rw [if_neg h1]
    by_cases h2 : j = k
    · subst h2; rw [if_pos rfl, if_pos (by omega), amid_end _ _ _ _ hl]
    · rw [if_neg h2, if_neg (by omega)]
      by_cases h3 : j = k + 1
      · rw [if_pos h3, h3, amid_start]
      · rw [if_neg h3]
theorem rowAt_set (f : Nat → Nat → Nat) (V : Lists) (xs : Nat → List Value) (k i j : Nat) (hi : i * 2 + 1 < (xs k).length) : rowAt f V xs k (i + 1) j = if j = k then ((rowAt f V xs k i k).set (i * 2) (iV 0)).set (i * 2 + 1) (iV (f k i)) else rowAt f V xs k i j := by
  unfold rowAt
  by_cases h2 : j = k
  · subst h2; simp only [Nat.lt_irrefl, if_false, if_pos]; rw [amid_set _ _ _ _ hi]
  · simp only [if_neg h2]
theorem rowAt_end (f : Nat → Nat → Nat) (V : Lists) (xs : Nat → List Value) (m j : Nat) (h : j < m) : rowAt f V xs m 0 j = mkV f j (V.n j) := by unfold rowAt; rw [if_pos h]
theorem rowAt_start (f : Nat → Nat → Nat) (V : Lists) (xs : Nat → List Value) (j : Nat) : rowAt f V xs 0 0 j = xs j := by
  unfold rowAt
  rw [if_neg (by omega)]
  by_cases h : j = 0
  · rw [if_pos h, amid_start, h]
  · rw [if_neg h]
theorem FlatAt.set {f : Nat → Nat → Nat} {V : Lists} {m LB k i g : Nat} {w wr : World} {xs : Nat → List Value} (hV : V.Apart m LB w.heap.size) (h : FlatAt V m LB w wr (rowAt f V xs k i)) (hk : k < m) (hi : i * 2 + 1 < (xs k).length) (hA : V.A k = some ⟨g, 0, none⟩) : FlatAt V m LB w ((wr.setCell ⟨g, i * 2, none⟩ (iV 0)).setCell ⟨g, i * 2 + 1, none⟩ (iV (f k i))) (rowAt f V xs k (i + 1)) := by
  have hg : V.g k = some g := by unfold Lists.g; rw [hA]; rfl
  have hne : g ≠ LB := fun e => hV.ls k hk (by rw [hg]; exact congrArg some e)
  refine ⟨h.own.set hV hk hA _ _ (fun j _ => rowAt_set f V xs k i j hi), (h.list.other hne _).other hne _, kb_then h.kept (gb_set (gb_set (gb_refl _ (some g)) _ _) _ _) (fun r e => Or.inl ?_)⟩
  cases e
  exact ⟨k, hk, hg⟩
theorem FlatAt.old {f : Nat → Nat → Nat} {V : Lists} {m LB k i g : Nat} {w wr : World} {xs : Nat → List Value} (h : FlatAt V m LB w wr (rowAt f V xs k i)) (hk : k < m) (hi : i * 2 + 1 < (xs k).length) (hA : V.A k = some ⟨g, 0, none⟩) : (∃ u, wr.cell? ⟨g, i * 2, none⟩ = some u) ∧ ∃ u, wr.cell? ⟨g, i * 2 + 1, none⟩ = some u := by
  have := h.own k hk
  unfold Lists.v at this
  rw [hA] at this
  have e : rowAt f V xs k i k = mkV f k i ++ (xs k).drop (i * 2) := by unfold rowAt; rw [if_neg (by omega), if_pos rfl]; rfl
  rw [e] at this
  refine ⟨⟨(xs k)[i * 2], own_cell this ?_⟩, ⟨(xs k)[i * 2 + 1], own_cell this ?_⟩⟩
  · rw [List.getElem?_append_right (by rw [mkV_length]; omega), mkV_length, Nat.sub_self, List.getElem?_drop, Nat.add_zero, List.getElem?_eq_getElem (by omega)]
  · rw [List.getElem?_append_right (by rw [mkV_length]; omega), mkV_length, show i * 2 + 1 - i * 2 = 1 by omega, List.getElem?_drop, List.getElem?_eq_getElem hi]
theorem FlatAt.free {V : Lists} {m LB k i g : Nat} {w wr : World} {r : Nat → List Value} (h : FlatAt V m LB w wr r) (hk : k < m) (hA : V.A k = some ⟨g, 0, none⟩) : wr.frozen? ⟨g, i, none⟩ = false := by
  have := h.own k hk
  unfold Lists.v at this
  rw [hA] at this
  exact own_free this i
end Fd
end Go.Proofs.YtkffbaihknhefaaGreat
