/- field: Add, Sub, Neg, One. -/
import Derived.Test.YtjgfhihngbhljaaDoorFeSq
import Derived.RegionTactic
import Derived.ChangeAlike
import Derived.BigRegion
namespace Go.Proofs.YtjgfhihngbhljaaDoor
open Go.RowKit

/-- limb number i -/
def Fe.at (a : Fe) : Nat → Int
  | 0 => a.x0
  | 1 => a.x1
  | 2 => a.x2
  | 3 => a.x3
  | _ => a.x4
theorem Fe.Ok.at {a : Fe} (h : a.Ok) (i : Nat) : 0 ≤ a.at i ∧ a.at i < 18446744073709551616 := by
  obtain ⟨n0, n1, n2, n3, n4, l0, l1, l2, l3, l4⟩ := h
  match i with
  | 0 => exact ⟨n0, l0⟩
  | 1 => exact ⟨n1, l1⟩
  | 2 => exact ⟨n2, l2⟩
  | 3 => exact ⟨n3, l3⟩
  | n + 4 => exact ⟨n4, l4⟩
/-- five cells: the first k are g's, the others f's -/
def mixV (f g : Nat → Int) (k : Nat) : List Value := (List.range 5).map fun i => .int .u64 (if i < k then g i else f i)
theorem mixV_length (f g : Nat → Int) (k : Nat) : (mixV f g k).length = 5 := by simp [mixV]
theorem mixV_get (f g : Nat → Int) (k i : Nat) (h : i < 5) : (mixV f g k)[i]? = some (.int .u64 (if i < k then g i else f i)) := by
  unfold mixV
  rw [List.getElem?_map, List.getElem?_range h]
  rfl
theorem mixV_set (f g : Nat → Int) (k : Nat) (h : k < 5) : (mixV f g k).set k (.int .u64 (g k)) = mixV f g (k + 1) := by
  apply List.ext_getElem?
  intro i
  rw [List.getElem?_set]
  by_cases hi : i < 5
  · rw [mixV_get f g (k + 1) i hi]
    by_cases e : k = i
    · subst e; simp [mixV_length, h]
    · rw [if_neg e, mixV_get f g k i hi]
      congr 2
      by_cases hk : i < k
      · rw [if_pos hk, if_pos (by omega)]
      · rw [if_neg hk, if_neg (by omega)]
  · rw [List.getElem?_eq_none (by rw [mixV_length]; omega), List.getElem?_eq_none (by rw [mixV_length]; omega)]
    split
    · rw [mixV_length]; simp; omega
    · rfl

theorem gb_set5 {w0 w : World} {B : Nat} (h : w0.grownBy w none) (hB : w0.heap.size ≤ B) (v0 v1 v2 v3 v4 : Value) :
    w0.grownBy (((((w.setCell ⟨B, 0, none⟩ v0).setCell ⟨B, 1, none⟩ v1).setCell ⟨B, 2, none⟩ v2).setCell ⟨B, 3, none⟩ v3).setCell ⟨B, 4, none⟩ v4) none :=
  gb_set_new (gb_set_new (gb_set_new (gb_set_new (gb_set_new h hB _) hB _) hB _) hB _) hB _
theorem room5_set {w : World} {B : Nat} {T : TypeId} (h : Room5 w B T) {p : Addr} (hp : p.block ≠ B) (v : Value) : Room5 (w.setCell p v) B T :=
  let ⟨_, _, _, _, _, hb⟩ := h; ⟨_, _, _, _, _, hb.other hp v⟩
set_option maxHeartbeats 800000 in
theorem add_any (a b : Fe) (w : World) (ha : a.Ok) (hb : b.Ok) :
    Calls Tryd.prog 8 #[.agg #[.int .u64 a.x0, .int .u64 a.x1, .int .u64 a.x2, .int .u64 a.x3, .int .u64 a.x4], .agg #[.int .u64 b.x0, .int .u64 b.x1, .int .u64 b.x2, .int .u64 b.x3, .int .u64 b.x4]] w (FeOut (Fe.addF a b) w) := by
  have hA := ha.at
  have hB := hb.at
  clear ha hb
  go_enter Tryd.func8, Tryd.ntmps8
  go_wp2
  go_loopw [6] (fun i wr => ∃ k : Nat, k ≤ 5 ∧ i = .int .i64 k ∧ w.grownBy wr none ∧ Blk wr w.heap.size 24 (mixV a.at (fun i => IntKind.u64.wrap (a.at i + b.at i)) k) ∧ Blk wr (w.heap.size + 1) 24 (mixV b.at b.at 0) ∧ Room5 wr (w.heap.size + 2) 24) (fun i _ => 5 - (intOf i).toNat)
  case atStart =>
    exact ⟨0, by omega, rfl, gb_alloc (gb_alloc (gb_alloc (gb_refl _ _) _) _) _, ((Blk.new w (mixV a.at (fun i => IntKind.u64.wrap (a.at i + b.at i)) 0) _).alloc _).alloc _, (Blk.newAt (w.alloc _) (mixV b.at b.at 0) _ (by simp)).alloc _, ⟨_, _, _, _, _, Blk.newAt _ [.int .u64 0, .int .u64 0, .int .u64 0, .int .u64 0, .int .u64 0] _ (by simp)⟩⟩
  case round =>
    obtain ⟨k, hk, rfl, hg, hBa, hBb, hR⟩ := hrel
    by_cases hlt : k < 5
    · have c0 := hBa.cell (mixV_get a.at (fun i => IntKind.u64.wrap (a.at i + b.at i)) k k hlt)
      have c1 := hBb.cell (mixV_get b.at b.at 0 k hlt)
      rw [if_neg (by omega)] at c0 c1
      have f0 := hBa.free k
      have hset := hBa.set k (.int .u64 (IntKind.u64.wrap (a.at k + b.at k)))
      have Hset := Lib.hid (mixV_set a.at (fun i => IntKind.u64.wrap (a.at i + b.at i)) k hlt)
      have i0 : (0 : Int) ≤ (k : Int) := by omega
      have i1 : (k : Int) < 5 := by omega
      go_wp2
      go_region
      go_wp2
      go_roundw
      case rel => exact ⟨k + 1, by omega, by go_num, gb_set_new (gb_drew hg) (Nat.le_refl _) _, Hset.out ▸ hset, (hBb.drew).other (by simp) _, room5_set (hR.grown (gb_drew (gb_refl _ none)) (by simp)) (by simp) _⟩
      case measure => simp [intOf]; omega
    · obtain rfl : k = 5 := by omega
      have c0 := hBa.cell (mixV_get a.at (fun i => IntKind.u64.wrap (a.at i + b.at i)) 5 0 (by decide))
      have c1 := hBa.cell (mixV_get a.at (fun i => IntKind.u64.wrap (a.at i + b.at i)) 5 1 (by decide))
      have c2 := hBa.cell (mixV_get a.at (fun i => IntKind.u64.wrap (a.at i + b.at i)) 5 2 (by decide))
      have c3 := hBa.cell (mixV_get a.at (fun i => IntKind.u64.wrap (a.at i + b.at i)) 5 3 (by decide))
      have c4 := hBa.cell (mixV_get a.at (fun i => IntKind.u64.wrap (a.at i + b.at i)) 5 4 (by decide))
      rw [if_pos (by decide)] at c0 c1 c2 c3 c4
      clear hBa hBb
      go_wp2_with (go_at_call 31; refine (carry_w _ _ _ _ _ _).mono ?_; rintro e w1 ⟨r, hr, rfl, hg1⟩; obtain ⟨u0, u1, u2, u3, u4, hR1⟩ := hR.grown hg1 (by simp); have z0 := hR1.cell (i := 0) rfl; have z1 := hR1.cell (i := 1) rfl; have z2 := hR1.cell (i := 2) rfl; have z3 := hR1.cell (i := 3) rfl; have z4 := hR1.cell (i := 4) rfl; have y0 := hR1.free 0; have y1 := hR1.free 1; have y2 := hR1.free 2; have y3 := hR1.free 3; have y4 := hR1.free 4)
      refine bodyPost_ret (v := .agg #[.int .u64 r.x0, .int .u64 r.x1, .int .u64 r.x2, .int .u64 r.x3, .int .u64 r.x4]) ?_ rfl ⟨r, ?_, rfl, ?_⟩
      · simp [results, Tryd.results8, go_sem, z0, z1, z2, z3, z4]
      · have e := hr.out
        rw [e]
        unfold Fe.addF
        exact Lib.hid rfl
      · exact gb_set5 (gb_trans hg hg1) (by omega) _ _ _ _ _
/-- 4 p, limb by limb -/
def fourP : Nat → Int
  | 0 => 9007199254740916
  | _ => 9007199254740988
def rootI : Fe := ⟨1718705420411056, 234908883556509, 2233514472574048, 2117202627021982, 765476049583133⟩
theorem fourP_bd (i : Nat) : 0 ≤ fourP i ∧ fourP i < 18446744073709551616 := by
  cases i <;> simp [fourP]
/-- the package's two variables -/
structure FTab (w : World) : Prop where
  lt : 0 < w.heap.size ∧ 1 < w.heap.size
  p : ∀ i, i < 5 → w.cell? ⟨0, i, none⟩ = some (.int .u64 (fourP i))
  q : ∀ i, i < 5 → w.cell? ⟨1, i, none⟩ = some (.int .u64 (rootI.at i))
theorem FTab.grown {w w' : World} (h : FTab w) (hg : w.grownBy w' none) : FTab w' :=
  ⟨⟨Nat.lt_of_lt_of_le h.lt.1 hg.size, Nat.lt_of_lt_of_le h.lt.2 hg.size⟩, fun i hi => by rw [gb_cell hg (p := ⟨0, i, none⟩) h.lt.1 (by simp)]; exact h.p i hi,
    fun i hi => by rw [gb_cell hg (p := ⟨1, i, none⟩) h.lt.2 (by simp)]; exact h.q i hi⟩

set_option maxHeartbeats 800000 in
theorem sub_any (a b : Fe) (w : World) (hT : FTab w) (ha : a.Ok) (hb : b.Ok) :
    Calls Tryd.prog 9 #[.agg #[.int .u64 a.x0, .int .u64 a.x1, .int .u64 a.x2, .int .u64 a.x3, .int .u64 a.x4], .agg #[.int .u64 b.x0, .int .u64 b.x1, .int .u64 b.x2, .int .u64 b.x3, .int .u64 b.x4]] w (FeOut (Fe.subF a b) w) := by
  have hA := ha.at
  have hB := hb.at
  clear ha hb
  go_enter Tryd.func9, Tryd.ntmps9
  go_wp2
  go_loopw [6] (fun i wr => ∃ k : Nat, k ≤ 5 ∧ i = .int .i64 k ∧ w.grownBy wr none ∧ Blk wr w.heap.size 24 (mixV a.at (fun i => IntKind.u64.wrap (a.at i + IntKind.u64.wrap (fourP i - b.at i))) k) ∧ Blk wr (w.heap.size + 1) 24 (mixV b.at b.at 0) ∧ Room5 wr (w.heap.size + 2) 24) (fun i _ => 5 - (intOf i).toNat)
  case atStart =>
    exact ⟨0, by omega, rfl, gb_alloc (gb_alloc (gb_alloc (gb_refl _ _) _) _) _, ((Blk.new w (mixV a.at (fun i => IntKind.u64.wrap (a.at i + IntKind.u64.wrap (fourP i - b.at i))) 0) _).alloc _).alloc _, (Blk.newAt (w.alloc _) (mixV b.at b.at 0) _ (by simp)).alloc _, ⟨_, _, _, _, _, Blk.newAt _ [.int .u64 0, .int .u64 0, .int .u64 0, .int .u64 0, .int .u64 0] _ (by simp)⟩⟩
  case round =>
    obtain ⟨k, hk, rfl, hg, hBa, hBb, hR⟩ := hrel
    by_cases hlt : k < 5
    · have c0 := hBa.cell (mixV_get a.at (fun i => IntKind.u64.wrap (a.at i + IntKind.u64.wrap (fourP i - b.at i))) k k hlt)
      have c1 := hBb.cell (mixV_get b.at b.at 0 k hlt)
      rw [if_neg (by omega)] at c0 c1
      have f0 := hBa.free k
      have ct := (hT.grown hg).p k hlt
      have hf := fourP_bd k
      have hset := hBa.set k (.int .u64 (IntKind.u64.wrap (a.at k + IntKind.u64.wrap (fourP k - b.at k))))
      have Hset := Lib.hid (mixV_set a.at (fun i => IntKind.u64.wrap (a.at i + IntKind.u64.wrap (fourP i - b.at i))) k hlt)
      have i0 : (0 : Int) ≤ (k : Int) := by omega
      have i1 : (k : Int) < 5 := by omega
      go_wp2
      go_region
      go_wp2
      go_roundw
      case rel => exact ⟨k + 1, by omega, by go_num, gb_set_new (gb_drew hg) (Nat.le_refl _) _, Hset.out ▸ hset, (hBb.drew).other (by simp) _, room5_set (hR.grown (gb_drew (gb_refl _ none)) (by simp)) (by simp) _⟩
      case measure => simp [intOf]; omega
    · obtain rfl : k = 5 := by omega
      have c0 := hBa.cell (mixV_get a.at (fun i => IntKind.u64.wrap (a.at i + IntKind.u64.wrap (fourP i - b.at i))) 5 0 (by decide))
      have c1 := hBa.cell (mixV_get a.at (fun i => IntKind.u64.wrap (a.at i + IntKind.u64.wrap (fourP i - b.at i))) 5 1 (by decide))
      have c2 := hBa.cell (mixV_get a.at (fun i => IntKind.u64.wrap (a.at i + IntKind.u64.wrap (fourP i - b.at i))) 5 2 (by decide))
      have c3 := hBa.cell (mixV_get a.at (fun i => IntKind.u64.wrap (a.at i + IntKind.u64.wrap (fourP i - b.at i))) 5 3 (by decide))
      have c4 := hBa.cell (mixV_get a.at (fun i => IntKind.u64.wrap (a.at i + IntKind.u64.wrap (fourP i - b.at i))) 5 4 (by decide))
      rw [if_pos (by decide)] at c0 c1 c2 c3 c4
      clear hBa hBb
      clear hT
      go_wp2_with (go_at_call 31; refine (carry_w _ _ _ _ _ _).mono ?_; rintro e w1 ⟨r, hr, rfl, hg1⟩; obtain ⟨u0, u1, u2, u3, u4, hR1⟩ := hR.grown hg1 (by simp); have z0 := hR1.cell (i := 0) rfl; have z1 := hR1.cell (i := 1) rfl; have z2 := hR1.cell (i := 2) rfl; have z3 := hR1.cell (i := 3) rfl; have z4 := hR1.cell (i := 4) rfl; have y0 := hR1.free 0; have y1 := hR1.free 1; have y2 := hR1.free 2; have y3 := hR1.free 3; have y4 := hR1.free 4)
      refine bodyPost_ret (v := .agg #[.int .u64 r.x0, .int .u64 r.x1, .int .u64 r.x2, .int .u64 r.x3, .int .u64 r.x4]) ?_ rfl ⟨r, ?_, rfl, ?_⟩
      · simp [results, Tryd.results9, go_sem, z0, z1, z2, z3, z4]
      · have e := hr.out
        rw [e]
        unfold Fe.subF
        exact Lib.hid rfl
      · exact gb_set5 (gb_trans hg hg1) (by omega) _ _ _ _ _

set_option maxHeartbeats 400000 in
theorem neg_any (a : Fe) (w : World) (hT : FTab w) (ha : a.Ok) :
    Calls Tryd.prog 11 #[.agg #[.int .u64 a.x0, .int .u64 a.x1, .int .u64 a.x2, .int .u64 a.x3, .int .u64 a.x4]] w (FeOut (Fe.negF a) w) := by
  have hg0 : ∀ c0 c1, w.grownBy ((w.alloc c0).alloc c1) none := fun c0 c1 => gb_alloc (gb_alloc (gb_refl _ _) _) _
  have hz : Fe.Ok ⟨0, 0, 0, 0, 0⟩ := by constructor <;> decide
  go_enter Tryd.func11, Tryd.ntmps11
  go_wp2_with (go_at_call 9; refine (sub_any ⟨0, 0, 0, 0, 0⟩ a _ (hT.grown (hg0 _ _)) hz ha).mono ?_; rintro e w1 ⟨r, hr, rfl, hg1⟩; have hg2 := gb_trans (hg0 _ _) hg1; obtain ⟨u0, u1, u2, u3, u4, hR1⟩ : Room5 w1 (w.heap.size + 1) 24 := Room5.grown ⟨_, _, _, _, _, Blk.newAt _ [.int .u64 0, .int .u64 0, .int .u64 0, .int .u64 0, .int .u64 0] _ (by simp)⟩ hg1 (by simp); have z0 := hR1.cell (i := 0) rfl; have z1 := hR1.cell (i := 1) rfl; have z2 := hR1.cell (i := 2) rfl; have z3 := hR1.cell (i := 3) rfl; have z4 := hR1.cell (i := 4) rfl; have y0 := hR1.free 0; have y1 := hR1.free 1; have y2 := hR1.free 2; have y3 := hR1.free 3; have y4 := hR1.free 4)
  refine bodyPost_ret (v := .agg #[.int .u64 r.x0, .int .u64 r.x1, .int .u64 r.x2, .int .u64 r.x3, .int .u64 r.x4]) ?_ rfl ⟨r, hr, rfl, gb_set5 hg2 (by omega) _ _ _ _ _⟩
  simp [results, Tryd.results11, go_sem, z0, z1, z2, z3, z4]
set_option maxHeartbeats 400000 in
theorem one_any (w : World) : Calls Tryd.prog 19 #[] w (FeOut Fe.oneF w) := by
  go_enter Tryd.func19, Tryd.ntmps19
  go_wp2
  refine bodyPost_ret (v := .agg #[.int .u64 1, .int .u64 0, .int .u64 0, .int .u64 0, .int .u64 0]) ?_ rfl ⟨Fe.oneF, Lib.hid rfl, rfl, gb_alloc (gb_refl _ _) _⟩
  simp [results, Tryd.results19, go_sem]
end Go.Proofs.YtjgfhihngbhljaaDoor
