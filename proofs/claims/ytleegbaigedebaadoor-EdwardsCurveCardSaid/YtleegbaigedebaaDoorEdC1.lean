/- texts merged, part 1: XEdCurveM XEdLawCurve -/
import Derived.Test.YtleegbaigedebaaDoorEdB4
import Derived.Test.YtleegbaigedebaaDoorEdB5
import Derived.Test.YtleegbaigedebaaDoorEdB6
/- edwards' law on the curve: mathematics. -/
namespace Go.Proofs.YtleegbaigedebaaDoor
open Go.RowKit Ow Ed
def fiveF : Fe := ⟨5, 0, 0, 0, 0⟩
def fourF : Fe := ⟨4, 0, 0, 0, 0⟩
def e66F : Fe := ⟨121666, 0, 0, 0, 0⟩
def e65F : Fe := ⟨121665, 0, 0, 0, 0⟩
theorem five_right : fiveF.Right := by constructor <;> decide
theorem four_right : fourF.Right := by constructor <;> decide
theorem e66_right : e66F.Right := by constructor <;> decide
theorem e65_right : e65F.Right := by constructor <;> decide
theorem phi_five : phi fiveF = 5 := by decide +kernel
theorem phi_four : phi fourF = 4 := by decide +kernel
theorem phi_e66 : phi e66F = 121666 := by decide +kernel
theorem phi_e65 : phi e65F = 121665 := by decide +kernel
theorem base_y5 : baseR.y * 5 = 4 := by decide +kernel
theorem base_even : baseR.x.val % 2 = 0 := by decide +kernel
theorem id_c1 {n : Nat} [NeZero n] {Z y Y : Fin n} (hY : Y = Z * y) (h : y * 5 = 4) : Y * 5 = Z * 4 := by grind
theorem id_c2 {n : Nat} [NeZero n] {d x y : Fin n} (h : y*y - x*x = 1 + d*(x*x*(y*y))) (hd : d * 121666 = -121665) : 121666 * ((y*y - x*x) - 1) = -(121665 * (x*x*(y*y))) := by grind
theorem base_45 {t : Pt} (h : PtIs t baseR) : decide (Fe.m (Fe.mulF t.Y fiveF) = Fe.m (Fe.mulF t.Z fourF)) = true := by
  rw [decide_eq_true_iff, phi_same, phi_mul h.rY five_right, phi_mul h.rZ four_right, phi_five, phi_four]
  exact id_c1 h.y base_y5
theorem over_z {a z : Fe} {v : F} (ha : a.Right) (hz : z.Right) (h : phi a = phi z * v) (h0 : phi z ≠ 0) : phi (Fe.mulF a (invF z)) = v := by
  rw [phi_mul ha (inv_right _), phi_inv hz, h]
  exact id_q (Ed.inv_mul h0)
theorem base_odd {t : Pt} (h : PtIs t baseR) : decide (Fe.m (Fe.mulF t.X (invF t.Z)) % 2 = 1) = false := by
  have e := over_z h.rX h.rZ h.x h.z
  have e2 : Fe.m (Fe.mulF t.X (invF t.Z)) = baseR.x.val := (phi_val _).symm.trans (congrArg Fin.val e)
  rw [e2, decide_eq_false_iff_not, base_even]
  decide
theorem curve_same {t : Pt} {r : Pr} (h : PtIs t r) {x y : Fe} (hx : x = Fe.mulF t.X (invF t.Z)) (hy : y = Fe.mulF t.Y (invF t.Z)) {xx yy : Fe} (hxx : xx = Fe.sqF x) (hyy : yy = Fe.sqF y) :
    decide (Fe.m (Fe.mulF e66F (Fe.subF (Fe.subF yy xx) Fe.oneF)) = Fe.m (Fe.negF (Fe.mulF e65F (Fe.mulF xx yy)))) = true := by
  subst hxx hyy
  have rx : x.Right := by rw [hx]; exact Fe.mul_right _ _
  have ry : y.Right := by rw [hy]; exact Fe.mul_right _ _
  have ex : phi x = r.x := by rw [hx]; exact over_z h.rX h.rZ h.x h.z
  have ey : phi y = r.y := by rw [hy]; exact over_z h.rY h.rZ h.y h.z
  rw [decide_eq_true_iff, phi_same, phi_mul e66_right (Fe.sub_right _ _), phi_sub (Fe.sub_right _ _) one_right', phi_sub (Fe.sq_right _) (Fe.sq_right _), phi_neg (Fe.mul_right _ _), phi_mul e65_right (Fe.mul_right _ _), phi_mul (Fe.sq_right _) (Fe.sq_right _), phi_sq rx, phi_sq ry, phi_one, phi_e66, phi_e65, ex, ey]
  exact id_c2 h.on d_is
theorem z_not {t : Pt} {r : Pr} (h : PtIs t r) : decide (Fe.m t.Z = 0) = false := by
  rw [decide_eq_false_iff_not]
  exact fun e => h.z (Fin.ext ((phi_val _).trans (e.trans Ed.zero_val.symm)))
end Go.Proofs.YtleegbaigedebaaDoor

/- edwards: EdwardsCurve. -/
namespace Go.Proofs.YtleegbaigedebaaDoor
open Go.RowKit Ow Go.Shelf Ed
set_option maxRecDepth 100000 in
set_option maxHeartbeats 12800000 in
theorem curve_any (B len cap : Nat) (a : Option Addr) (l : List Nat) (w0 : World) (HT0 : ETab w0) (hl : l.length = len) (HPB : Hid (BytesAt w0 B a cap l)) :
  Calls Tryd.prog 5 #[.slice a len cap] w0 fun e w' => e = .returned (.bool true) ∧ w0.grownBy w' none := by
 go_enter Tryd.func5, Tryd.ntmps5
 have G : w0.grownBy w0 none := gb_refl _ _
 have HT := HT0
 go_upto_region 1 with (fail)
 have Gs0 := G.size
 refine Fg.rP [] [.any, .any, .any, .any, .any, .any, .any, .any, .any, .any, .any, .any, .any, .any, .any, .val (Value.bool true), .val (Value.bool false)] 2 ?_ ?_
 ·refine Fg.cS rfl (by decide) (fun ac w h => ?_) ?_
  ·refine ⟨wants_none rfl, 6, #[], Fg.run_call rfl rfl (by simp) (Fg.run_enter Tryd.func6 (by kernel_rfl) (by kernel_rfl)), ?_⟩
   exact (awake4_any _ (HT.grown h.base)).mono fun _ _ ⟨he, hg⟩ => ⟨_, he, hg, rfl⟩
  refine Fg.vS rfl (by decide) (fun ac w h => ?_) ?_
  ·have e15 : _ = Value.bool true := h.d 15
   refine ⟨wants_none rfl, Value.bool false, w, ?_, gb_refl _ _, rfl⟩
   clear h
   simp only [execOp, Act.eval, e15]
   go_simp
  trivial
 ·intro qa V1 g1 hsz hdf hrest hslots hpt
  obtain ⟨u15, hs15⟩ := Fg.slotv qa 15
  obtain rfl := Fg.frame_by [15, 16] (vs := [Value.slice a len cap, undef, Value.bool false, undef, undef, undef, undef, undef, undef, undef, undef, undef, undef, undef, undef, u15, Value.bool false, undef, undef, undef, undef, undef, undef, undef, undef, undef, undef, undef, undef, undef, undef, undef, undef, undef, undef, undef, undef, undef, undef, undef, undef, undef, undef, undef, undef, undef, undef, undef, undef, undef, undef, undef, undef, undef, undef, undef, undef, undef, undef, undef, undef, undef, undef, undef, undef, undef, undef, undef, undef, undef, undef, undef, undef, undef, undef, undef, undef, undef, undef, undef, undef, undef, undef, undef, undef, undef, undef, undef, undef, undef]) hsz hrest (by kernel_rfl) rfl rfl ⟨hs15, (show qa.tmps.getD 16 undef = Value.bool false from hslots 16 (by kernel_rfl)), trivial⟩ hdf
  clear hsz hdf hrest hslots hpt hs15
  replace G := gb_trans G g1
  replace HT := HT.grown g1
  clear g1
  by_cases h100 : len ≤ 100
  case neg =>
   have i0 : (100 : Int) < len := by omega
   go_wp2
   go_ret
   exact ⟨rfl, G⟩
  have i0 : ¬ (100 : Int) < len := by omega
  go_upto_region 5 with (fail)
  refine wp_region_lit ?_
  refine Fg.wpl_call rfl (Fg.run_call (vs := #[]) rfl rfl (by simp) (Fg.run_enter Tryd.func19 (by kernel_rfl) (by kernel_rfl))) ?_
  refine (edBase V1 HT).mono ?_
  rintro e A1 ⟨rfl, ga⟩
  refine ⟨_, rfl, ?_⟩
  replace G := gb_trans G ga
  replace HT := HT.grown ga
  clear ga
  simp only [Act.put, List.setIfInBounds_toArray, List.set_cons_succ, List.set_cons_zero]
  refine Fg.wpl_call rfl (Fg.run_call (vs := #[baseT.v]) rfl rfl (by simp only [List.map_toArray, List.map_cons, List.map_nil, Act.eval]; rfl) (Fg.run_enter Tryd.func15 (by kernel_rfl) (by kernel_rfl))) ?_
  refine (edPutL A1 baseIs).mono ?_
  rintro e A2 ⟨NP, rfl, ga, hnp, hbp⟩
  refine ⟨_, rfl, ?_⟩
  have hBA : BytesAt A2 A2.heap.size (some ⟨NP, 0, none⟩) 32 (digL (enc baseR)) := blk_bytes (tl := []) (by rw [List.append_nil]; exact hbp) (digL_len _) (Nat.le_refl _) (by decide) (digL_lt _) hbp.lt (Nat.le_refl _)
  clear hbp hnp
  replace G := gb_trans G ga
  replace HT := HT.grown ga
  clear ga
  simp only [Act.put, List.setIfInBounds_toArray, List.set_cons_succ, List.set_cons_zero]
  refine Fg.wpl_call rfl (Fg.run_call (vs := #[.slice (some ⟨NP, 0, none⟩) 32 32]) rfl rfl (by simp only [List.map_toArray, List.map_cons, List.map_nil, Act.eval]; rfl) (Fg.run_enter Tryd.func16 (by kernel_rfl) (by kernel_rfl))) ?_
  refine (edGet _ 32 32 (some ⟨NP, 0, none⟩) (digL (enc baseR)) A2 HT (digL_len _) (by decide) hBA).mono ?_
  rintro e A3 hgo
  obtain ⟨t3, ht3, rfl, ga⟩ := get_enc base_on hgo
  refine ⟨_, rfl, ?_⟩
  clear hgo hBA
  replace G := gb_trans G ga
  replace HT := HT.grown ga
  clear ga
  simp only [Act.put, List.setIfInBounds_toArray, List.set_cons_succ, List.set_cons_zero]
  refine Fg.wpl_value (v := .tuple #[t3.v, .bool true]) (w' := A3) rfl (Fg.run_move rfl rfl) ?_
  simp only [Act.put, List.setIfInBounds_toArray, List.set_cons_succ, List.set_cons_zero]
  refine Fg.wpl_value (v := t3.v) (w' := A3) rfl (Fg.run_extract rfl rfl rfl) ?_
  simp only [Act.put, List.setIfInBounds_toArray, List.set_cons_succ, List.set_cons_zero]
  refine Fg.wpl_value (v := .bool true) (w' := A3) rfl (Fg.run_extract rfl rfl rfl) ?_
  simp only [Act.put, List.setIfInBounds_toArray, List.set_cons_succ, List.set_cons_zero]
  refine Fg.wpl_value (v := .pointer (some ⟨A3.heap.size, 0, none⟩)) (w' := A3.alloc (.cells zr20.toArray 28)) rfl (by go_simp) ?_
  simp only [Act.put, List.setIfInBounds_toArray, List.set_cons_succ, List.set_cons_zero]
  have hw3 : w0.heap.size ≤ A3.heap.size := G.size
  have hb3 := Blk.new A3 zr20 28
  have ga3 := gb_alloc (gb_refl A3 none) (.cells zr20.toArray 28)
  replace G := gb_trans G ga3
  replace HT := HT.grown ga3
  clear ga3
  obtain ⟨N3, hN3⟩ : ∃ x, x = A3.heap.size := ⟨_, rfl⟩
  rw [← hN3] at hb3 hw3 ⊢
  revert G HT hb3
  generalize (A3.alloc (.cells zr20.toArray 28)) = A4
  intro G HT hb3
  clear hN3
  refine Fg.wpl_skip rfl rfl (Fg.run_store (cs := ptL t3) rfl rfl rfl (hb3.there 0 20 (by show 0 + 20 ≤ 20; decide)) info_point (ptL_one _)) ?_
  replace hb3 : Blk (A4.setCells N3 0 (ptL t3)) N3 28 (ptL t3) := hb3.setAll rfl
  replace G := gb_setCells_new (cs := ptL t3) G (B := N3) (hw3) 0
  replace HT := HT.keep (gb_setCells (cs := ptL t3) (gb_refl _ (some N3)) 0) (HT0.noG (hw3))
  revert hb3 G HT
  generalize A4.setCells N3 0 (ptL t3) = W2
  intro hb3 G HT
  refine Fg.wpl_value (v := .bool true) (w' := W2) rfl (Fg.run_assign rfl rfl) ?_
  refine wpList_nil ?_
  simp only [Act.put, List.setIfInBounds_toArray, List.set_cons_succ, List.set_cons_zero]
  go_upto_region 6 with (fail)
  have Gs2 := G.size
  have l3hb3 := hb3.lt
  refine Fg.rP [5, 6] [.any, .any, .any, .any, .any, .fresh 26 zr5 W2.heap.size, .fresh 26 zr5 W2.heap.size, .any, .any, .any, .any, .any, .any, .any, .any, .any, .any, .any, .any, .any, .any, .any, .any, .any, .any, .any, .val (fourF.v), .val (fiveF.v)] 4 ?_ ?_
  ·refine Fg.vS rfl (by decide) (fun ac w h => ?_) ?_
   ·exact Fg.vn fourF.v (Fg.run_build (vs := #[(0, Value.int .u64 4)]) rfl (by simp [Act.eval]) (by kernel_rfl))
   refine Fg.vS rfl (by decide) (fun ac w h => ?_) ?_
   ·exact Fg.vn fiveF.v (Fg.run_build (vs := #[(0, Value.int .u64 5)]) rfl (by simp [Act.eval]) (by kernel_rfl))
   refine ⟨⟨⟨_, rfl⟩, Fg.allocP (fun _ _ h k => gb_trans h k) rfl (by show 5 < 90; decide) fun ac w h => ?_⟩, ?_⟩
   ·refine ⟨wants_none rfl, w.alloc (.cells zr5.toArray 26), ?_, World.grownBy_alloc _ _ _, by simp, ⟨w.heap.size, rfl, h.base.size, Blk.new w zr5 _⟩⟩
    clear h
    go_simp
   refine ⟨⟨⟨_, rfl⟩, Fg.allocP (fun _ _ h k => gb_trans h k) rfl (by show 6 < 90; decide) fun ac w h => ?_⟩, ?_⟩
   ·refine ⟨wants_none rfl, w.alloc (.cells zr5.toArray 26), ?_, World.grownBy_alloc _ _ _, by simp, ⟨w.heap.size, rfl, h.base.size, Blk.new w zr5 _⟩⟩
    clear h
    go_simp
   trivial
  ·intro qa V3 g3 hsz hdf hrest hslots hpt
   obtain ⟨N5, hs5, hn5, hb5⟩ : ∃ N, qa.tmps.getD 5 undef = .pointer (some ⟨N, 0, none⟩) ∧ W2.heap.size ≤ N ∧ Blk V3 N 26 zr5 := hslots 5 (by kernel_rfl)
   obtain ⟨N6, hs6, hn6, hb6⟩ : ∃ N, qa.tmps.getD 6 undef = .pointer (some ⟨N, 0, none⟩) ∧ W2.heap.size ≤ N ∧ Blk V3 N 26 zr5 := hslots 6 (by kernel_rfl)
   obtain ⟨u15, hs15⟩ := Fg.slotv qa 15
   obtain ⟨u16, hs16⟩ := Fg.slotv qa 16
   obtain ⟨u17, hs17⟩ := Fg.slotv qa 17
   obtain ⟨u18, hs18⟩ := Fg.slotv qa 18
   obtain ⟨u19, hs19⟩ := Fg.slotv qa 19
   obtain ⟨u20, hs20⟩ := Fg.slotv qa 20
   obtain ⟨u21, hs21⟩ := Fg.slotv qa 21
   obtain ⟨u22, hs22⟩ := Fg.slotv qa 22
   obtain ⟨u23, hs23⟩ := Fg.slotv qa 23
   obtain ⟨u24, hs24⟩ := Fg.slotv qa 24
   obtain ⟨u25, hs25⟩ := Fg.slotv qa 25
   have n5_6 : N5 ≠ N6 := fun e => (hpt 5 (by simp) N5 hs5).2 6 (by simp) (by decide) (by rw [hs6, e])
   obtain rfl := Fg.frame_by [5, 6, 15, 16, 17, 18, 19, 20, 21, 22, 23, 24, 25, 26, 27] (vs := [Value.slice a len cap, undef, Value.bool false, Value.pointer (some ⟨N3, 0, none⟩), Value.bool true, Value.pointer (some ⟨N5, 0, none⟩), Value.pointer (some ⟨N6, 0, none⟩), undef, undef, undef, undef, undef, undef, undef, undef, u15, u16, u17, u18, u19, u20, u21, u22, u23, u24, u25, fourF.v, fiveF.v, undef, undef, undef, undef, undef, undef, undef, undef, undef, undef, undef, undef, undef, undef, undef, undef, undef, undef, undef, undef, undef, undef, undef, undef, undef, undef, undef, undef, undef, undef, undef, undef, undef, undef, undef, undef, undef, undef, undef, undef, undef, undef, undef, undef, undef, undef, undef, undef, undef, undef, undef, undef, undef, undef, undef, undef, undef, undef, undef, undef, undef, undef]) hsz hrest (by kernel_rfl) rfl rfl ⟨hs5, hs6, hs15, hs16, hs17, hs18, hs19, hs20, hs21, hs22, hs23, hs24, hs25, (show qa.tmps.getD 26 undef = fourF.v from hslots 26 (by kernel_rfl)), (show qa.tmps.getD 27 undef = fiveF.v from hslots 27 (by kernel_rfl)), trivial⟩ hdf
   clear hsz hdf hrest hslots hpt hs5 hs6 hs15 hs16 hs17 hs18 hs19 hs20 hs21 hs22 hs23 hs24 hs25
   replace hb3 := hb3.gn g3
   replace G := gb_trans G g3
   replace HT := HT.grown g3
   have hw5 : w0.heap.size ≤ N5 := Nat.le_trans Gs2 hn5
   have hw6 : w0.heap.size ≤ N6 := Nat.le_trans Gs2 hn6
   clear g3
   refine Fg.wpl_skip rfl rfl (Fg.run_store (cs := feL fourF) rfl rfl rfl (hb5.there 0 5 (by show 0 + 5 ≤ 5; decide)) info_elem (feL_one _)) ?_
   replace hb3 := hb3.setCells_other (C := N5) (cs := feL fourF) 0 (by omega)
   replace hb5 : Blk (V3.setCells N5 0 (feL fourF)) N5 26 (feL fourF) := hb5.setAll rfl
   replace hb6 := hb6.setCells_other (C := N5) (cs := feL fourF) 0 (by omega)
   replace G := gb_setCells_new (cs := feL fourF) G (B := N5) (hw5) 0
   replace HT := HT.keep (gb_setCells (cs := feL fourF) (gb_refl _ (some N5)) 0) (HT0.noG (hw5))
   revert hb3 hb5 hb6 G HT
   generalize V3.setCells N5 0 (feL fourF) = W4
   intro hb3 hb5 hb6 G HT
   refine Fg.wpl_skip rfl rfl (Fg.run_store (cs := feL fiveF) rfl rfl rfl (hb6.there 0 5 (by show 0 + 5 ≤ 5; decide)) info_elem (feL_one _)) ?_
   replace hb3 := hb3.setCells_other (C := N6) (cs := feL fiveF) 0 (by omega)
   replace hb5 := hb5.setCells_other (C := N6) (cs := feL fiveF) 0 (by omega)
   replace hb6 : Blk (W4.setCells N6 0 (feL fiveF)) N6 26 (feL fiveF) := hb6.setAll rfl
   replace G := gb_setCells_new (cs := feL fiveF) G (B := N6) (hw6) 0
   replace HT := HT.keep (gb_setCells (cs := feL fiveF) (gb_refl _ (some N6)) 0) (HT0.noG (hw6))
   revert hb3 hb5 hb6 G HT
   generalize W4.setCells N6 0 (feL fiveF) = W5
   intro hb3 hb5 hb6 G HT
   go_upto_region 7 with (fail)
   have Gs5 := G.size
   have l4hb3 := hb3.lt
   have l4hb5 := hb5.lt
   have l4hb6 := hb6.lt
   refine Fg.rT [] [.any, .any, .any, .any, .any, .any, .any, .any, .any, .any, .any, .any, .any, .any, .any, .any, .any, .any, .any, .any, .any, .any, .any, .any, .any, .any, .any, .any, .val (Value.bool true), .val (Value.bool false), .val (Value.bool false), .val (Value.pointer (some ⟨N3, 5, none⟩)), .val (t3.Y.v), .val (fiveF.v), .val ((Fe.mulF t3.Y fiveF).v), .val (Value.pointer (some ⟨N3, 10, none⟩)), .val (t3.Z.v), .val (fourF.v), .val ((Fe.mulF t3.Z fourF).v), .val (Value.bool true), .val (Value.bool false), .val (Value.bool false), .val (Value.bool false), .val (Value.pointer (some ⟨N3, 0, none⟩)), .val (t3.X.v), .val (Value.pointer (some ⟨N3, 10, none⟩)), .val (t3.Z.v), .val ((invF t3.Z).v), .val ((Fe.mulF t3.X (invF t3.Z)).v), .val (Value.bool false), .val (Value.bool false)] 23 ?_ ?_
   ·refine Fg.vS rfl (by decide) (fun ac w h => ?_) ?_
    ·have e4 : _ = Value.bool true := h.r 4
     exact Fg.vn (Value.bool true) (Fg.run_move rfl e4)
    refine Fg.vS rfl (by decide) (fun ac w h => ?_) ?_
    ·have e28 : _ = Value.bool true := h.d 28
     refine ⟨wants_none rfl, Value.bool false, w, ?_, gb_refl _ _, rfl⟩
     clear h
     simp only [execOp, Act.eval, e28]
     go_simp
    refine Fg.vS rfl (by decide) (fun ac w h => ?_) ?_
    ·have e29 : _ = Value.bool false := h.d 29
     exact Fg.vn (Value.bool false) (Fg.run_move rfl e29)
    refine Fg.vS rfl (by decide) (fun ac w h => ?_) ?_
    ·have e30 : _ = Value.bool false := h.d 30
     have e3 : _ = Value.pointer (some ⟨N3, 0, none⟩) := h.r 3
     exact Fg.vx (Value.pointer (some ⟨N3, 5, none⟩)) (wants_some (d := 30) rfl rfl (by rw [h.size]; show 30 < 90; decide) e30) (Fg.run_fieldAddr rfl e3 (fa_point1 _ _ _))
    refine Fg.vS rfl (by decide) (fun ac w h => ?_) ?_
    ·have e30 : _ = Value.bool false := h.d 30
     have e31 : _ = Value.pointer (some ⟨N3, 5, none⟩) := h.d 31
     exact Fg.vx t3.Y.v (wants_some (d := 30) rfl rfl (by rw [h.size]; show 30 < 90; decide) e30) (Fg.run_load rfl e31 ((hb3.gn h.base).range 5 (feL t3.Y) rfl) Tryd.underlying26 rfl info_elem)
    refine Fg.vS rfl (by decide) (fun ac w h => ?_) ?_
    ·have e30 : _ = Value.bool false := h.d 30
     have e6 : _ = Value.pointer (some ⟨N6, 0, none⟩) := h.r 6
     exact Fg.vx fiveF.v (wants_some (d := 30) rfl rfl (by rw [h.size]; show 30 < 90; decide) e30) (Fg.run_load rfl e6 ((hb6.gn h.base).range 0 (feL fiveF) rfl) Tryd.underlying26 rfl info_elem)
    refine Fg.cS rfl (by decide) (fun ac w h => ?_) ?_
    ·have e30 : _ = Value.bool false := h.d 30
     have e32 : _ = t3.Y.v := h.d 32
     have e33 : _ = fiveF.v := h.d 33
     refine ⟨wants_some (d := 30) rfl rfl (by rw [h.size]; show 30 < 90; decide) e30, 25, #[t3.Y.v, fiveF.v], Fg.run_call rfl rfl (by simp only [List.map_toArray, List.map_cons, List.map_nil, Act.eval, e32, e33]) (Fg.run_enter Tryd.func25 (by kernel_rfl) (by kernel_rfl)), ?_⟩
     exact (t_mul ht3.ok.Y five_right.ok).mono fun _ _ ⟨he, hg⟩ => ⟨_, he, hg, rfl⟩
    refine Fg.vS rfl (by decide) (fun ac w h => ?_) ?_
    ·have e30 : _ = Value.bool false := h.d 30
     have e3 : _ = Value.pointer (some ⟨N3, 0, none⟩) := h.r 3
     exact Fg.vx (Value.pointer (some ⟨N3, 10, none⟩)) (wants_some (d := 30) rfl rfl (by rw [h.size]; show 30 < 90; decide) e30) (Fg.run_fieldAddr rfl e3 (fa_point2 _ _ _))
    refine Fg.vS rfl (by decide) (fun ac w h => ?_) ?_
    ·have e30 : _ = Value.bool false := h.d 30
     have e35 : _ = Value.pointer (some ⟨N3, 10, none⟩) := h.d 35
     exact Fg.vx t3.Z.v (wants_some (d := 30) rfl rfl (by rw [h.size]; show 30 < 90; decide) e30) (Fg.run_load rfl e35 ((hb3.gn h.base).range 10 (feL t3.Z) rfl) Tryd.underlying26 rfl info_elem)
    refine Fg.vS rfl (by decide) (fun ac w h => ?_) ?_
    ·have e30 : _ = Value.bool false := h.d 30
     have e5 : _ = Value.pointer (some ⟨N5, 0, none⟩) := h.r 5
     exact Fg.vx fourF.v (wants_some (d := 30) rfl rfl (by rw [h.size]; show 30 < 90; decide) e30) (Fg.run_load rfl e5 ((hb5.gn h.base).range 0 (feL fourF) rfl) Tryd.underlying26 rfl info_elem)
    refine Fg.cS rfl (by decide) (fun ac w h => ?_) ?_
    ·have e30 : _ = Value.bool false := h.d 30
     have e36 : _ = t3.Z.v := h.d 36
     have e37 : _ = fourF.v := h.d 37
     refine ⟨wants_some (d := 30) rfl rfl (by rw [h.size]; show 30 < 90; decide) e30, 25, #[t3.Z.v, fourF.v], Fg.run_call rfl rfl (by simp only [List.map_toArray, List.map_cons, List.map_nil, Act.eval, e36, e37]) (Fg.run_enter Tryd.func25 (by kernel_rfl) (by kernel_rfl)), ?_⟩
     exact (t_mul ht3.ok.Z four_right.ok).mono fun _ _ ⟨he, hg⟩ => ⟨_, he, hg, rfl⟩
    refine Fg.cS rfl (by decide) (fun ac w h => ?_) ?_
    ·have e30 : _ = Value.bool false := h.d 30
     have e34 : _ = (Fe.mulF t3.Y fiveF).v := h.d 34
     have e38 : _ = (Fe.mulF t3.Z fourF).v := h.d 38
     refine ⟨wants_some (d := 30) rfl rfl (by rw [h.size]; show 30 < 90; decide) e30, 24, #[(Fe.mulF t3.Y fiveF).v, (Fe.mulF t3.Z fourF).v], Fg.run_call rfl rfl (by simp only [List.map_toArray, List.map_cons, List.map_nil, Act.eval, e34, e38]) (Fg.run_enter Tryd.func24 (by kernel_rfl) (by kernel_rfl)), ?_⟩
     exact (t_same (Fe.mul_right _ _).ok (Fe.mul_right _ _).ok (base_45 ht3)).mono fun _ _ ⟨he, hg⟩ => ⟨_, he, hg, rfl⟩
    refine Fg.vS rfl (by decide) (fun ac w h => ?_) ?_
    ·have e30 : _ = Value.bool false := h.d 30
     have e39 : _ = Value.bool true := h.d 39
     refine ⟨wants_some (d := 30) rfl rfl (by rw [h.size]; show 30 < 90; decide) e30, Value.bool false, w, ?_, gb_refl _ _, rfl⟩
     clear h
     simp only [execOp, Act.eval, e39]
     go_simp
    refine Fg.vS rfl (by decide) (fun ac w h => ?_) ?_
    ·have e30 : _ = Value.bool false := h.d 30
     have e40 : _ = Value.bool false := h.d 40
     refine ⟨wants_none rfl, Value.bool false, w, ?_, gb_refl _ _, rfl⟩
     clear h
     simp only [execOp, Act.eval, e30, e40]
     go_simp
    refine Fg.vS rfl (by decide) (fun ac w h => ?_) ?_
    ·have e41 : _ = Value.bool false := h.d 41
     exact Fg.vn (Value.bool false) (Fg.run_move rfl e41)
    refine Fg.vS rfl (by decide) (fun ac w h => ?_) ?_
    ·have e42 : _ = Value.bool false := h.d 42
     have e3 : _ = Value.pointer (some ⟨N3, 0, none⟩) := h.r 3
     exact Fg.vx (Value.pointer (some ⟨N3, 0, none⟩)) (wants_some (d := 42) rfl rfl (by rw [h.size]; show 42 < 90; decide) e42) (Fg.run_fieldAddr rfl e3 (fa_point0 _ _ _))
    refine Fg.vS rfl (by decide) (fun ac w h => ?_) ?_
    ·have e42 : _ = Value.bool false := h.d 42
     have e43 : _ = Value.pointer (some ⟨N3, 0, none⟩) := h.d 43
     exact Fg.vx t3.X.v (wants_some (d := 42) rfl rfl (by rw [h.size]; show 42 < 90; decide) e42) (Fg.run_load rfl e43 ((hb3.gn h.base).range 0 (feL t3.X) rfl) Tryd.underlying26 rfl info_elem)
    refine Fg.vS rfl (by decide) (fun ac w h => ?_) ?_
    ·have e42 : _ = Value.bool false := h.d 42
     have e3 : _ = Value.pointer (some ⟨N3, 0, none⟩) := h.r 3
     exact Fg.vx (Value.pointer (some ⟨N3, 10, none⟩)) (wants_some (d := 42) rfl rfl (by rw [h.size]; show 42 < 90; decide) e42) (Fg.run_fieldAddr rfl e3 (fa_point2 _ _ _))
    refine Fg.vS rfl (by decide) (fun ac w h => ?_) ?_
    ·have e42 : _ = Value.bool false := h.d 42
     have e45 : _ = Value.pointer (some ⟨N3, 10, none⟩) := h.d 45
     exact Fg.vx t3.Z.v (wants_some (d := 42) rfl rfl (by rw [h.size]; show 42 < 90; decide) e42) (Fg.run_load rfl e45 ((hb3.gn h.base).range 10 (feL t3.Z) rfl) Tryd.underlying26 rfl info_elem)
    refine Fg.cS rfl (by decide) (fun ac w h => ?_) ?_
    ·have e42 : _ = Value.bool false := h.d 42
     have e46 : _ = t3.Z.v := h.d 46
     refine ⟨wants_some (d := 42) rfl rfl (by rw [h.size]; show 42 < 90; decide) e42, 27, #[t3.Z.v], Fg.run_call rfl rfl (by simp only [List.map_toArray, List.map_cons, List.map_nil, Act.eval, e46]) (Fg.run_enter Tryd.func27 (by kernel_rfl) (by kernel_rfl)), ?_⟩
     exact (t_inv ht3.ok.Z).mono fun _ _ ⟨he, hg⟩ => ⟨_, he, hg, rfl⟩
    refine Fg.cS rfl (by decide) (fun ac w h => ?_) ?_
    ·have e42 : _ = Value.bool false := h.d 42
     have e44 : _ = t3.X.v := h.d 44
     have e47 : _ = (invF t3.Z).v := h.d 47
     refine ⟨wants_some (d := 42) rfl rfl (by rw [h.size]; show 42 < 90; decide) e42, 25, #[t3.X.v, (invF t3.Z).v], Fg.run_call rfl rfl (by simp only [List.map_toArray, List.map_cons, List.map_nil, Act.eval, e44, e47]) (Fg.run_enter Tryd.func25 (by kernel_rfl) (by kernel_rfl)), ?_⟩
     exact (t_mul ht3.ok.X (inv_right _).ok).mono fun _ _ ⟨he, hg⟩ => ⟨_, he, hg, rfl⟩
    refine Fg.cS rfl (by decide) (fun ac w h => ?_) ?_
    ·have e42 : _ = Value.bool false := h.d 42
     have e48 : _ = (Fe.mulF t3.X (invF t3.Z)).v := h.d 48
     refine ⟨wants_some (d := 42) rfl rfl (by rw [h.size]; show 42 < 90; decide) e42, 26, #[(Fe.mulF t3.X (invF t3.Z)).v], Fg.run_call rfl rfl (by simp only [List.map_toArray, List.map_cons, List.map_nil, Act.eval, e48]) (Fg.run_enter Tryd.func26 (by kernel_rfl) (by kernel_rfl)), ?_⟩
     exact (t_odd (Fe.mul_right _ _).ok (base_odd ht3)).mono fun _ _ ⟨he, hg⟩ => ⟨_, he, hg, rfl⟩
    refine Fg.vS rfl (by decide) (fun ac w h => ?_) ?_
    ·have e42 : _ = Value.bool false := h.d 42
     have e49 : _ = Value.bool false := h.d 49
     refine ⟨wants_none rfl, Value.bool false, w, ?_, gb_refl _ _, rfl⟩
     clear h
     simp only [execOp, Act.eval, e42, e49]
     go_simp
    trivial
   ·intro qa V6 g6 hsz hdf hrest hslots hpt
    obtain ⟨u28, hs28⟩ := Fg.slotv qa 28
    obtain ⟨u29, hs29⟩ := Fg.slotv qa 29
    obtain ⟨u30, hs30⟩ := Fg.slotv qa 30
    obtain ⟨u31, hs31⟩ := Fg.slotv qa 31
    obtain ⟨u32, hs32⟩ := Fg.slotv qa 32
    obtain ⟨u33, hs33⟩ := Fg.slotv qa 33
    obtain ⟨u34, hs34⟩ := Fg.slotv qa 34
    obtain ⟨u35, hs35⟩ := Fg.slotv qa 35
    obtain ⟨u36, hs36⟩ := Fg.slotv qa 36
    obtain ⟨u37, hs37⟩ := Fg.slotv qa 37
    obtain ⟨u38, hs38⟩ := Fg.slotv qa 38
    obtain ⟨u39, hs39⟩ := Fg.slotv qa 39
    obtain ⟨u40, hs40⟩ := Fg.slotv qa 40
    obtain ⟨u41, hs41⟩ := Fg.slotv qa 41
    obtain ⟨u42, hs42⟩ := Fg.slotv qa 42
    obtain ⟨u43, hs43⟩ := Fg.slotv qa 43
    obtain ⟨u44, hs44⟩ := Fg.slotv qa 44
    obtain ⟨u45, hs45⟩ := Fg.slotv qa 45
    obtain ⟨u46, hs46⟩ := Fg.slotv qa 46
    obtain ⟨u47, hs47⟩ := Fg.slotv qa 47
    obtain ⟨u48, hs48⟩ := Fg.slotv qa 48
    obtain ⟨u49, hs49⟩ := Fg.slotv qa 49
    obtain rfl := Fg.frame_by [28, 29, 30, 31, 32, 33, 34, 35, 36, 37, 38, 39, 40, 41, 42, 43, 44, 45, 46, 47, 48, 49, 50] (vs := [Value.slice a len cap, undef, Value.bool false, Value.pointer (some ⟨N3, 0, none⟩), Value.bool true, Value.pointer (some ⟨N5, 0, none⟩), Value.pointer (some ⟨N6, 0, none⟩), undef, undef, undef, undef, undef, undef, undef, undef, u15, u16, u17, u18, u19, u20, u21, u22, u23, u24, u25, fourF.v, fiveF.v, u28, u29, u30, u31, u32, u33, u34, u35, u36, u37, u38, u39, u40, u41, u42, u43, u44, u45, u46, u47, u48, u49, Value.bool false, undef, undef, undef, undef, undef, undef, undef, undef, undef, undef, undef, undef, undef, undef, undef, undef, undef, undef, undef, undef, undef, undef, undef, undef, undef, undef, undef, undef, undef, undef, undef, undef, undef, undef, undef, undef, undef, undef, undef]) hsz hrest (by kernel_rfl) rfl rfl ⟨hs28, hs29, hs30, hs31, hs32, hs33, hs34, hs35, hs36, hs37, hs38, hs39, hs40, hs41, hs42, hs43, hs44, hs45, hs46, hs47, hs48, hs49, (show qa.tmps.getD 50 undef = Value.bool false from hslots 50 (by kernel_rfl)), trivial⟩ hdf
    clear hsz hdf hrest hslots hpt hs28 hs29 hs30 hs31 hs32 hs33 hs34 hs35 hs36 hs37 hs38 hs39 hs40 hs41 hs42 hs43 hs44 hs45 hs46 hs47 hs48 hs49
    replace hb3 := hb3.gn g6
    replace hb5 := hb5.gn g6
    replace hb6 := hb6.gn g6
    replace G := gb_trans G g6
    replace HT := HT.grown g6
    clear g6
    go_upto_region 9 with (fail)
    refine wp_region_lit ?_
    refine Fg.wpl_value (v := .slice a len cap) (w' := V6) rfl (Fg.run_move rfl rfl) ?_
    simp only [Act.put, List.setIfInBounds_toArray, List.set_cons_succ, List.set_cons_zero]
    refine Fg.wpl_call rfl (Fg.run_call (vs := #[.slice a len cap]) rfl rfl (by simp only [List.map_toArray, List.map_cons, List.map_nil, Act.eval]; rfl) (Fg.run_enter Tryd.func7 (by kernel_rfl) (by kernel_rfl))) ?_
    refine (point4_any B len cap a l V6 HT hl h100 (Lib.hid (HPB.out.stay G))).mono ?_
    rintro e A5 ⟨r, t7, ht7, rfl, ga⟩
    refine ⟨_, rfl, ?_⟩
    replace hb3 := hb3.gn ga
    replace hb5 := hb5.gn ga
    replace hb6 := hb6.gn ga
    replace G := gb_trans G ga
    replace HT := HT.grown ga
    clear ga
    simp only [Act.put, List.setIfInBounds_toArray, List.set_cons_succ, List.set_cons_zero]
    refine Fg.wpl_value (v := .pointer (some ⟨A5.heap.size, 0, none⟩)) (w' := A5.alloc (.cells zr20.toArray 28)) rfl (by go_simp) ?_
    simp only [Act.put, List.setIfInBounds_toArray, List.set_cons_succ, List.set_cons_zero]
    have hw7 : w0.heap.size ≤ A5.heap.size := G.size
    have hb7 := Blk.new A5 zr20 28
    have l5hb3 := hb3.lt
    have l5hb5 := hb5.lt
    have l5hb6 := hb6.lt
    have ga7 := gb_alloc (gb_refl A5 none) (.cells zr20.toArray 28)
    replace hb3 := hb3.gn ga7
    replace hb5 := hb5.gn ga7
    replace hb6 := hb6.gn ga7
    replace G := gb_trans G ga7
    replace HT := HT.grown ga7
    clear ga7
    obtain ⟨N7, hN7⟩ : ∃ x, x = A5.heap.size := ⟨_, rfl⟩
    rw [← hN7] at hb7 hw7 ⊢
    rw [← hN7] at l5hb3 l5hb5 l5hb6
    revert hb3 hb5 hb6 G HT hb7
    generalize (A5.alloc (.cells zr20.toArray 28)) = A6
    intro hb3 hb5 hb6 G HT hb7
    clear hN7
    refine Fg.wpl_skip rfl rfl (Fg.run_store (cs := ptL t7) rfl rfl rfl (hb7.there 0 20 (by show 0 + 20 ≤ 20; decide)) info_point (ptL_one _)) ?_
    replace hb3 := hb3.setCells_other (C := N7) (cs := ptL t7) 0 (by omega)
    replace hb5 := hb5.setCells_other (C := N7) (cs := ptL t7) 0 (by omega)
    replace hb6 := hb6.setCells_other (C := N7) (cs := ptL t7) 0 (by omega)
    replace hb7 : Blk (A6.setCells N7 0 (ptL t7)) N7 28 (ptL t7) := hb7.setAll rfl
    replace G := gb_setCells_new (cs := ptL t7) G (B := N7) (hw7) 0
    replace HT := HT.keep (gb_setCells (cs := ptL t7) (gb_refl _ (some N7)) 0) (HT0.noG (hw7))
    revert hb3 hb5 hb6 hb7 G HT
    generalize A6.setCells N7 0 (ptL t7) = W7
    intro hb3 hb5 hb6 hb7 G HT
    refine wpList_nil ?_
    go_upto_region 10 with (fail)
    have Gs7 := G.size
    have l6hb3 := hb3.lt
    have l6hb5 := hb5.lt
    have l6hb6 := hb6.lt
    have l6hb7 := hb7.lt
    refine Fg.rP [8] [.any, .any, .any, .any, .any, .any, .any, .any, .fresh 26 zr5 W7.heap.size, .any, .any, .any, .any, .any, .any, .any, .any, .any, .any, .any, .any, .any, .any, .any, .any, .any, .any, .any, .any, .any, .any, .any, .any, .any, .any, .any, .any, .any, .any, .any, .any, .any, .any, .any, .any, .any, .any, .any, .any, .any, .any, .any, .any, .val (Value.pointer (some ⟨N7, 10, none⟩)), .val (t7.Z.v), .val ((invF t7.Z).v)] 4 ?_ ?_
    ·refine Fg.vS rfl (by decide) (fun ac w h => ?_) ?_
     ·have e7 : _ = Value.pointer (some ⟨N7, 0, none⟩) := h.r 7
      exact Fg.vn (Value.pointer (some ⟨N7, 10, none⟩)) (Fg.run_fieldAddr rfl e7 (fa_point2 _ _ _))
     refine Fg.vS rfl (by decide) (fun ac w h => ?_) ?_
     ·have e53 : _ = Value.pointer (some ⟨N7, 10, none⟩) := h.d 53
      exact Fg.vn t7.Z.v (Fg.run_load rfl e53 ((hb7.gn h.base).range 10 (feL t7.Z) rfl) Tryd.underlying26 rfl info_elem)
     refine Fg.cS rfl (by decide) (fun ac w h => ?_) ?_
     ·have e54 : _ = t7.Z.v := h.d 54
      refine ⟨wants_none rfl, 27, #[t7.Z.v], Fg.run_call rfl rfl (by simp only [List.map_toArray, List.map_cons, List.map_nil, Act.eval, e54]) (Fg.run_enter Tryd.func27 (by kernel_rfl) (by kernel_rfl)), ?_⟩
      exact (t_inv ht7.ok.Z).mono fun _ _ ⟨he, hg⟩ => ⟨_, he, hg, rfl⟩
     refine ⟨⟨⟨_, rfl⟩, Fg.allocP (fun _ _ h k => gb_trans h k) rfl (by show 8 < 90; decide) fun ac w h => ?_⟩, ?_⟩
     ·refine ⟨wants_none rfl, w.alloc (.cells zr5.toArray 26), ?_, World.grownBy_alloc _ _ _, by simp, ⟨w.heap.size, rfl, h.base.size, Blk.new w zr5 _⟩⟩
      clear h
      go_simp
     trivial
    ·intro qa V8 g8 hsz hdf hrest hslots hpt
     obtain ⟨N8, hs8, hn8, hb8⟩ : ∃ N, qa.tmps.getD 8 undef = .pointer (some ⟨N, 0, none⟩) ∧ W7.heap.size ≤ N ∧ Blk V8 N 26 zr5 := hslots 8 (by kernel_rfl)
     obtain ⟨u51, hs51⟩ := Fg.slotv qa 51
     obtain ⟨u52, hs52⟩ := Fg.slotv qa 52
     obtain ⟨u53, hs53⟩ := Fg.slotv qa 53
     obtain ⟨u54, hs54⟩ := Fg.slotv qa 54
     obtain ⟨x1, hx1⟩ : ∃ x : Fe, x = invF t7.Z := ⟨_, rfl⟩
     obtain rfl := Fg.frame_by [8, 51, 52, 53, 54, 55] (vs := [Value.slice a len cap, undef, Value.bool false, Value.pointer (some ⟨N3, 0, none⟩), Value.bool true, Value.pointer (some ⟨N5, 0, none⟩), Value.pointer (some ⟨N6, 0, none⟩), Value.pointer (some ⟨N7, 0, none⟩), Value.pointer (some ⟨N8, 0, none⟩), undef, undef, undef, undef, undef, undef, u15, u16, u17, u18, u19, u20, u21, u22, u23, u24, u25, fourF.v, fiveF.v, u28, u29, u30, u31, u32, u33, u34, u35, u36, u37, u38, u39, u40, u41, u42, u43, u44, u45, u46, u47, u48, u49, Value.bool false, u51, u52, u53, u54, x1.v, undef, undef, undef, undef, undef, undef, undef, undef, undef, undef, undef, undef, undef, undef, undef, undef, undef, undef, undef, undef, undef, undef, undef, undef, undef, undef, undef, undef, undef, undef, undef, undef, undef, undef]) hsz hrest (by kernel_rfl) rfl rfl ⟨hs8, hs51, hs52, hs53, hs54, (show qa.tmps.getD 55 undef = x1.v by rw [hx1]; exact hslots 55 (by kernel_rfl)), trivial⟩ hdf
     clear hsz hdf hrest hslots hpt hs8 hs51 hs52 hs53 hs54
     have Hx1 := Lib.hid hx1; clear hx1
     replace hb3 := hb3.gn g8
     replace hb5 := hb5.gn g8
     replace hb6 := hb6.gn g8
     replace hb7 := hb7.gn g8
     replace G := gb_trans G g8
     replace HT := HT.grown g8
     have okx1 : x1.Ok := by rw [Hx1.out]; exact (inv_right _).ok
     have hw8 : w0.heap.size ≤ N8 := Nat.le_trans Gs7 hn8
     clear g8
     refine Fg.wpl_skip rfl rfl (Fg.run_store (cs := feL x1) rfl rfl rfl (hb8.there 0 5 (by show 0 + 5 ≤ 5; decide)) info_elem (feL_one _)) ?_
     replace hb3 := hb3.setCells_other (C := N8) (cs := feL x1) 0 (by omega)
     replace hb5 := hb5.setCells_other (C := N8) (cs := feL x1) 0 (by omega)
     replace hb6 := hb6.setCells_other (C := N8) (cs := feL x1) 0 (by omega)
     replace hb7 := hb7.setCells_other (C := N8) (cs := feL x1) 0 (by omega)
     replace hb8 : Blk (V8.setCells N8 0 (feL x1)) N8 26 (feL x1) := hb8.setAll rfl
     replace G := gb_setCells_new (cs := feL x1) G (B := N8) (hw8) 0
     replace HT := HT.keep (gb_setCells (cs := feL x1) (gb_refl _ (some N8)) 0) (HT0.noG (hw8))
     revert hb3 hb5 hb6 hb7 hb8 G HT
     generalize V8.setCells N8 0 (feL x1) = W9
     intro hb3 hb5 hb6 hb7 hb8 G HT
     go_upto_region 11 with (fail)
     have Gs9 := G.size
     have l7hb3 := hb3.lt
     have l7hb5 := hb5.lt
     have l7hb6 := hb6.lt
     have l7hb7 := hb7.lt
     have l7hb8 := hb8.lt
     refine Fg.rT [9, 10] [.any, .any, .any, .any, .any, .any, .any, .any, .any, .fresh 26 zr5 W9.heap.size, .fresh 26 zr5 W9.heap.size, .any, .any, .any, .any, .any, .any, .any, .any, .any, .any, .any, .any, .any, .any, .any, .any, .any, .any, .any, .any, .any, .any, .any, .any, .any, .any, .any, .any, .any, .any, .any, .any, .any, .any, .any, .any, .any, .any, .any, .any, .any, .any, .any, .any, .any, .val (Value.pointer (some ⟨N7, 0, none⟩)), .val (t7.X.v), .val (x1.v), .val ((Fe.mulF t7.X x1).v), .val (Value.pointer (some ⟨N7, 5, none⟩)), .val (t7.Y.v), .val (x1.v), .val ((Fe.mulF t7.Y x1).v)] 10 ?_ ?_
     ·refine Fg.vS rfl (by decide) (fun ac w h => ?_) ?_
      ·have e7 : _ = Value.pointer (some ⟨N7, 0, none⟩) := h.r 7
       exact Fg.vn (Value.pointer (some ⟨N7, 0, none⟩)) (Fg.run_fieldAddr rfl e7 (fa_point0 _ _ _))
      refine Fg.vS rfl (by decide) (fun ac w h => ?_) ?_
      ·have e56 : _ = Value.pointer (some ⟨N7, 0, none⟩) := h.d 56
       exact Fg.vn t7.X.v (Fg.run_load rfl e56 ((hb7.gn h.base).range 0 (feL t7.X) rfl) Tryd.underlying26 rfl info_elem)
      refine Fg.vS rfl (by decide) (fun ac w h => ?_) ?_
      ·have e8 : _ = Value.pointer (some ⟨N8, 0, none⟩) := h.r 8
       exact Fg.vn x1.v (Fg.run_load rfl e8 ((hb8.gn h.base).range 0 (feL x1) rfl) Tryd.underlying26 rfl info_elem)
      refine Fg.cS rfl (by decide) (fun ac w h => ?_) ?_
      ·have e57 : _ = t7.X.v := h.d 57
       have e58 : _ = x1.v := h.d 58
       refine ⟨wants_none rfl, 25, #[t7.X.v, x1.v], Fg.run_call rfl rfl (by simp only [List.map_toArray, List.map_cons, List.map_nil, Act.eval, e57, e58]) (Fg.run_enter Tryd.func25 (by kernel_rfl) (by kernel_rfl)), ?_⟩
       exact (t_mul ht7.ok.X okx1).mono fun _ _ ⟨he, hg⟩ => ⟨_, he, hg, rfl⟩
      refine Fg.vS rfl (by decide) (fun ac w h => ?_) ?_
      ·have e7 : _ = Value.pointer (some ⟨N7, 0, none⟩) := h.r 7
       exact Fg.vn (Value.pointer (some ⟨N7, 5, none⟩)) (Fg.run_fieldAddr rfl e7 (fa_point1 _ _ _))
      refine Fg.vS rfl (by decide) (fun ac w h => ?_) ?_
      ·have e60 : _ = Value.pointer (some ⟨N7, 5, none⟩) := h.d 60
       exact Fg.vn t7.Y.v (Fg.run_load rfl e60 ((hb7.gn h.base).range 5 (feL t7.Y) rfl) Tryd.underlying26 rfl info_elem)
      refine Fg.vS rfl (by decide) (fun ac w h => ?_) ?_
      ·have e8 : _ = Value.pointer (some ⟨N8, 0, none⟩) := h.r 8
       exact Fg.vn x1.v (Fg.run_load rfl e8 ((hb8.gn h.base).range 0 (feL x1) rfl) Tryd.underlying26 rfl info_elem)
      refine Fg.cS rfl (by decide) (fun ac w h => ?_) ?_
      ·have e61 : _ = t7.Y.v := h.d 61
       have e62 : _ = x1.v := h.d 62
       refine ⟨wants_none rfl, 25, #[t7.Y.v, x1.v], Fg.run_call rfl rfl (by simp only [List.map_toArray, List.map_cons, List.map_nil, Act.eval, e61, e62]) (Fg.run_enter Tryd.func25 (by kernel_rfl) (by kernel_rfl)), ?_⟩
       exact (t_mul ht7.ok.Y okx1).mono fun _ _ ⟨he, hg⟩ => ⟨_, he, hg, rfl⟩
      refine ⟨⟨⟨_, rfl⟩, Fg.allocP (fun _ _ h k => gb_trans h k) rfl (by show 9 < 90; decide) fun ac w h => ?_⟩, ?_⟩
      ·refine ⟨wants_none rfl, w.alloc (.cells zr5.toArray 26), ?_, World.grownBy_alloc _ _ _, by simp, ⟨w.heap.size, rfl, h.base.size, Blk.new w zr5 _⟩⟩
       clear h
       go_simp
      refine ⟨⟨⟨_, rfl⟩, Fg.allocP (fun _ _ h k => gb_trans h k) rfl (by show 10 < 90; decide) fun ac w h => ?_⟩, ?_⟩
      ·refine ⟨wants_none rfl, w.alloc (.cells zr5.toArray 26), ?_, World.grownBy_alloc _ _ _, by simp, ⟨w.heap.size, rfl, h.base.size, Blk.new w zr5 _⟩⟩
       clear h
       go_simp
      trivial
     ·intro qa V10 g10 hsz hdf hrest hslots hpt
      obtain ⟨N9, hs9, hn9, hb9⟩ : ∃ N, qa.tmps.getD 9 undef = .pointer (some ⟨N, 0, none⟩) ∧ W9.heap.size ≤ N ∧ Blk V10 N 26 zr5 := hslots 9 (by kernel_rfl)
      obtain ⟨N10, hs10, hn10, hb10⟩ : ∃ N, qa.tmps.getD 10 undef = .pointer (some ⟨N, 0, none⟩) ∧ W9.heap.size ≤ N ∧ Blk V10 N 26 zr5 := hslots 10 (by kernel_rfl)
      obtain ⟨u56, hs56⟩ := Fg.slotv qa 56
      obtain ⟨u57, hs57⟩ := Fg.slotv qa 57
      obtain ⟨u58, hs58⟩ := Fg.slotv qa 58
      obtain ⟨x2, hx2⟩ : ∃ x : Fe, x = Fe.mulF t7.X x1 := ⟨_, rfl⟩
      obtain ⟨u60, hs60⟩ := Fg.slotv qa 60
      obtain ⟨u61, hs61⟩ := Fg.slotv qa 61
      obtain ⟨u62, hs62⟩ := Fg.slotv qa 62
      obtain ⟨x3, hx3⟩ : ∃ x : Fe, x = Fe.mulF t7.Y x1 := ⟨_, rfl⟩
      have n9_10 : N9 ≠ N10 := fun e => (hpt 9 (by simp) N9 hs9).2 10 (by simp) (by decide) (by rw [hs10, e])
      obtain rfl := Fg.frame_by [9, 10, 56, 57, 58, 59, 60, 61, 62, 63] (vs := [Value.slice a len cap, undef, Value.bool false, Value.pointer (some ⟨N3, 0, none⟩), Value.bool true, Value.pointer (some ⟨N5, 0, none⟩), Value.pointer (some ⟨N6, 0, none⟩), Value.pointer (some ⟨N7, 0, none⟩), Value.pointer (some ⟨N8, 0, none⟩), Value.pointer (some ⟨N9, 0, none⟩), Value.pointer (some ⟨N10, 0, none⟩), undef, undef, undef, undef, u15, u16, u17, u18, u19, u20, u21, u22, u23, u24, u25, fourF.v, fiveF.v, u28, u29, u30, u31, u32, u33, u34, u35, u36, u37, u38, u39, u40, u41, u42, u43, u44, u45, u46, u47, u48, u49, Value.bool false, u51, u52, u53, u54, x1.v, u56, u57, u58, x2.v, u60, u61, u62, x3.v, undef, undef, undef, undef, undef, undef, undef, undef, undef, undef, undef, undef, undef, undef, undef, undef, undef, undef, undef, undef, undef, undef, undef, undef, undef, undef]) hsz hrest (by kernel_rfl) rfl rfl ⟨hs9, hs10, hs56, hs57, hs58, (show qa.tmps.getD 59 undef = x2.v by rw [hx2]; exact hslots 59 (by kernel_rfl)), hs60, hs61, hs62, (show qa.tmps.getD 63 undef = x3.v by rw [hx3]; exact hslots 63 (by kernel_rfl)), trivial⟩ hdf
      clear hsz hdf hrest hslots hpt hs9 hs10 hs56 hs57 hs58 hs60 hs61 hs62
      have Hx2 := Lib.hid hx2; clear hx2
      have Hx3 := Lib.hid hx3; clear hx3
      replace hb3 := hb3.gn g10
      replace hb5 := hb5.gn g10
      replace hb6 := hb6.gn g10
      replace hb7 := hb7.gn g10
      replace hb8 := hb8.gn g10
      replace G := gb_trans G g10
      replace HT := HT.grown g10
      have okx2 : x2.Ok := by rw [Hx2.out]; exact (Fe.mul_right _ _).ok
      have okx3 : x3.Ok := by rw [Hx3.out]; exact (Fe.mul_right _ _).ok
      have hw9 : w0.heap.size ≤ N9 := Nat.le_trans Gs9 hn9
      have hw10 : w0.heap.size ≤ N10 := Nat.le_trans Gs9 hn10
      clear g10
      refine Fg.wpl_skip rfl rfl (Fg.run_store (cs := feL x2) rfl rfl rfl (hb9.there 0 5 (by show 0 + 5 ≤ 5; decide)) info_elem (feL_one _)) ?_
      replace hb3 := hb3.setCells_other (C := N9) (cs := feL x2) 0 (by omega)
      replace hb5 := hb5.setCells_other (C := N9) (cs := feL x2) 0 (by omega)
      replace hb6 := hb6.setCells_other (C := N9) (cs := feL x2) 0 (by omega)
      replace hb7 := hb7.setCells_other (C := N9) (cs := feL x2) 0 (by omega)
      replace hb8 := hb8.setCells_other (C := N9) (cs := feL x2) 0 (by omega)
      replace hb9 : Blk (V10.setCells N9 0 (feL x2)) N9 26 (feL x2) := hb9.setAll rfl
      replace hb10 := hb10.setCells_other (C := N9) (cs := feL x2) 0 (by omega)
      replace G := gb_setCells_new (cs := feL x2) G (B := N9) (hw9) 0
      replace HT := HT.keep (gb_setCells (cs := feL x2) (gb_refl _ (some N9)) 0) (HT0.noG (hw9))
      revert hb3 hb5 hb6 hb7 hb8 hb9 hb10 G HT
      generalize V10.setCells N9 0 (feL x2) = W11
      intro hb3 hb5 hb6 hb7 hb8 hb9 hb10 G HT
      refine Fg.wpl_skip rfl rfl (Fg.run_store (cs := feL x3) rfl rfl rfl (hb10.there 0 5 (by show 0 + 5 ≤ 5; decide)) info_elem (feL_one _)) ?_
      replace hb3 := hb3.setCells_other (C := N10) (cs := feL x3) 0 (by omega)
      replace hb5 := hb5.setCells_other (C := N10) (cs := feL x3) 0 (by omega)
      replace hb6 := hb6.setCells_other (C := N10) (cs := feL x3) 0 (by omega)
      replace hb7 := hb7.setCells_other (C := N10) (cs := feL x3) 0 (by omega)
      replace hb8 := hb8.setCells_other (C := N10) (cs := feL x3) 0 (by omega)
      replace hb9 := hb9.setCells_other (C := N10) (cs := feL x3) 0 (by omega)
      replace hb10 : Blk (W11.setCells N10 0 (feL x3)) N10 26 (feL x3) := hb10.setAll rfl
      replace G := gb_setCells_new (cs := feL x3) G (B := N10) (hw10) 0
      replace HT := HT.keep (gb_setCells (cs := feL x3) (gb_refl _ (some N10)) 0) (HT0.noG (hw10))
      revert hb3 hb5 hb6 hb7 hb8 hb9 hb10 G HT
      generalize W11.setCells N10 0 (feL x3) = W12
      intro hb3 hb5 hb6 hb7 hb8 hb9 hb10 G HT
      go_upto_region 12 with (fail)
      have Gs12 := G.size
      have l8hb3 := hb3.lt
      have l8hb5 := hb5.lt
      have l8hb6 := hb6.lt
      have l8hb7 := hb7.lt
      have l8hb8 := hb8.lt
      have l8hb9 := hb9.lt
      have l8hb10 := hb10.lt
      refine Fg.rT [11, 12] [.any, .any, .any, .any, .any, .any, .any, .any, .any, .any, .any, .fresh 26 zr5 W12.heap.size, .fresh 26 zr5 W12.heap.size, .any, .any, .any, .any, .any, .any, .any, .any, .any, .any, .any, .any, .any, .any, .any, .any, .any, .any, .any, .any, .any, .any, .any, .any, .any, .any, .any, .any, .any, .any, .any, .any, .any, .any, .any, .any, .any, .any, .any, .any, .any, .any, .any, .any, .any, .any, .any, .any, .any, .any, .any, .val (x2.v), .val ((Fe.sqF x2).v), .val (x3.v), .val ((Fe.sqF x3).v)] 6 ?_ ?_
      ·refine Fg.vS rfl (by decide) (fun ac w h => ?_) ?_
       ·have e9 : _ = Value.pointer (some ⟨N9, 0, none⟩) := h.r 9
        exact Fg.vn x2.v (Fg.run_load rfl e9 ((hb9.gn h.base).range 0 (feL x2) rfl) Tryd.underlying26 rfl info_elem)
       refine Fg.cS rfl (by decide) (fun ac w h => ?_) ?_
       ·have e64 : _ = x2.v := h.d 64
        refine ⟨wants_none rfl, 28, #[x2.v], Fg.run_call rfl rfl (by simp only [List.map_toArray, List.map_cons, List.map_nil, Act.eval, e64]) (Fg.run_enter Tryd.func28 (by kernel_rfl) (by kernel_rfl)), ?_⟩
        exact (t_sq okx2).mono fun _ _ ⟨he, hg⟩ => ⟨_, he, hg, rfl⟩
       refine Fg.vS rfl (by decide) (fun ac w h => ?_) ?_
       ·have e10 : _ = Value.pointer (some ⟨N10, 0, none⟩) := h.r 10
        exact Fg.vn x3.v (Fg.run_load rfl e10 ((hb10.gn h.base).range 0 (feL x3) rfl) Tryd.underlying26 rfl info_elem)
       refine Fg.cS rfl (by decide) (fun ac w h => ?_) ?_
       ·have e66 : _ = x3.v := h.d 66
        refine ⟨wants_none rfl, 28, #[x3.v], Fg.run_call rfl rfl (by simp only [List.map_toArray, List.map_cons, List.map_nil, Act.eval, e66]) (Fg.run_enter Tryd.func28 (by kernel_rfl) (by kernel_rfl)), ?_⟩
        exact (t_sq okx3).mono fun _ _ ⟨he, hg⟩ => ⟨_, he, hg, rfl⟩
       refine ⟨⟨⟨_, rfl⟩, Fg.allocP (fun _ _ h k => gb_trans h k) rfl (by show 11 < 90; decide) fun ac w h => ?_⟩, ?_⟩
       ·refine ⟨wants_none rfl, w.alloc (.cells zr5.toArray 26), ?_, World.grownBy_alloc _ _ _, by simp, ⟨w.heap.size, rfl, h.base.size, Blk.new w zr5 _⟩⟩
        clear h
        go_simp
       refine ⟨⟨⟨_, rfl⟩, Fg.allocP (fun _ _ h k => gb_trans h k) rfl (by show 12 < 90; decide) fun ac w h => ?_⟩, ?_⟩
       ·refine ⟨wants_none rfl, w.alloc (.cells zr5.toArray 26), ?_, World.grownBy_alloc _ _ _, by simp, ⟨w.heap.size, rfl, h.base.size, Blk.new w zr5 _⟩⟩
        clear h
        go_simp
       trivial
      ·intro qa V13 g13 hsz hdf hrest hslots hpt
       obtain ⟨N11, hs11, hn11, hb11⟩ : ∃ N, qa.tmps.getD 11 undef = .pointer (some ⟨N, 0, none⟩) ∧ W12.heap.size ≤ N ∧ Blk V13 N 26 zr5 := hslots 11 (by kernel_rfl)
       obtain ⟨N12, hs12, hn12, hb12⟩ : ∃ N, qa.tmps.getD 12 undef = .pointer (some ⟨N, 0, none⟩) ∧ W12.heap.size ≤ N ∧ Blk V13 N 26 zr5 := hslots 12 (by kernel_rfl)
       obtain ⟨u64, hs64⟩ := Fg.slotv qa 64
       obtain ⟨x4, hx4⟩ : ∃ x : Fe, x = Fe.sqF x2 := ⟨_, rfl⟩
       obtain ⟨u66, hs66⟩ := Fg.slotv qa 66
       obtain ⟨x5, hx5⟩ : ∃ x : Fe, x = Fe.sqF x3 := ⟨_, rfl⟩
       have n11_12 : N11 ≠ N12 := fun e => (hpt 11 (by simp) N11 hs11).2 12 (by simp) (by decide) (by rw [hs12, e])
       obtain rfl := Fg.frame_by [11, 12, 64, 65, 66, 67] (vs := [Value.slice a len cap, undef, Value.bool false, Value.pointer (some ⟨N3, 0, none⟩), Value.bool true, Value.pointer (some ⟨N5, 0, none⟩), Value.pointer (some ⟨N6, 0, none⟩), Value.pointer (some ⟨N7, 0, none⟩), Value.pointer (some ⟨N8, 0, none⟩), Value.pointer (some ⟨N9, 0, none⟩), Value.pointer (some ⟨N10, 0, none⟩), Value.pointer (some ⟨N11, 0, none⟩), Value.pointer (some ⟨N12, 0, none⟩), undef, undef, u15, u16, u17, u18, u19, u20, u21, u22, u23, u24, u25, fourF.v, fiveF.v, u28, u29, u30, u31, u32, u33, u34, u35, u36, u37, u38, u39, u40, u41, u42, u43, u44, u45, u46, u47, u48, u49, Value.bool false, u51, u52, u53, u54, x1.v, u56, u57, u58, x2.v, u60, u61, u62, x3.v, u64, x4.v, u66, x5.v, undef, undef, undef, undef, undef, undef, undef, undef, undef, undef, undef, undef, undef, undef, undef, undef, undef, undef, undef, undef, undef, undef]) hsz hrest (by kernel_rfl) rfl rfl ⟨hs11, hs12, hs64, (show qa.tmps.getD 65 undef = x4.v by rw [hx4]; exact hslots 65 (by kernel_rfl)), hs66, (show qa.tmps.getD 67 undef = x5.v by rw [hx5]; exact hslots 67 (by kernel_rfl)), trivial⟩ hdf
       clear hsz hdf hrest hslots hpt hs11 hs12 hs64 hs66
       have Hx4 := Lib.hid hx4; clear hx4
       have Hx5 := Lib.hid hx5; clear hx5
       replace hb3 := hb3.gn g13
       replace hb5 := hb5.gn g13
       replace hb6 := hb6.gn g13
       replace hb7 := hb7.gn g13
       replace hb8 := hb8.gn g13
       replace hb9 := hb9.gn g13
       replace hb10 := hb10.gn g13
       replace G := gb_trans G g13
       replace HT := HT.grown g13
       have okx4 : x4.Ok := by rw [Hx4.out]; exact (Fe.sq_right _).ok
       have okx5 : x5.Ok := by rw [Hx5.out]; exact (Fe.sq_right _).ok
       have hw11 : w0.heap.size ≤ N11 := Nat.le_trans Gs12 hn11
       have hw12 : w0.heap.size ≤ N12 := Nat.le_trans Gs12 hn12
       clear g13
       refine Fg.wpl_skip rfl rfl (Fg.run_store (cs := feL x4) rfl rfl rfl (hb11.there 0 5 (by show 0 + 5 ≤ 5; decide)) info_elem (feL_one _)) ?_
       replace hb3 := hb3.setCells_other (C := N11) (cs := feL x4) 0 (by omega)
       replace hb5 := hb5.setCells_other (C := N11) (cs := feL x4) 0 (by omega)
       replace hb6 := hb6.setCells_other (C := N11) (cs := feL x4) 0 (by omega)
       replace hb7 := hb7.setCells_other (C := N11) (cs := feL x4) 0 (by omega)
       replace hb8 := hb8.setCells_other (C := N11) (cs := feL x4) 0 (by omega)
       replace hb9 := hb9.setCells_other (C := N11) (cs := feL x4) 0 (by omega)
       replace hb10 := hb10.setCells_other (C := N11) (cs := feL x4) 0 (by omega)
       replace hb11 : Blk (V13.setCells N11 0 (feL x4)) N11 26 (feL x4) := hb11.setAll rfl
       replace hb12 := hb12.setCells_other (C := N11) (cs := feL x4) 0 (by omega)
       replace G := gb_setCells_new (cs := feL x4) G (B := N11) (hw11) 0
       replace HT := HT.keep (gb_setCells (cs := feL x4) (gb_refl _ (some N11)) 0) (HT0.noG (hw11))
       revert hb3 hb5 hb6 hb7 hb8 hb9 hb10 hb11 hb12 G HT
       generalize V13.setCells N11 0 (feL x4) = W14
       intro hb3 hb5 hb6 hb7 hb8 hb9 hb10 hb11 hb12 G HT
       refine Fg.wpl_skip rfl rfl (Fg.run_store (cs := feL x5) rfl rfl rfl (hb12.there 0 5 (by show 0 + 5 ≤ 5; decide)) info_elem (feL_one _)) ?_
       replace hb3 := hb3.setCells_other (C := N12) (cs := feL x5) 0 (by omega)
       replace hb5 := hb5.setCells_other (C := N12) (cs := feL x5) 0 (by omega)
       replace hb6 := hb6.setCells_other (C := N12) (cs := feL x5) 0 (by omega)
       replace hb7 := hb7.setCells_other (C := N12) (cs := feL x5) 0 (by omega)
       replace hb8 := hb8.setCells_other (C := N12) (cs := feL x5) 0 (by omega)
       replace hb9 := hb9.setCells_other (C := N12) (cs := feL x5) 0 (by omega)
       replace hb10 := hb10.setCells_other (C := N12) (cs := feL x5) 0 (by omega)
       replace hb11 := hb11.setCells_other (C := N12) (cs := feL x5) 0 (by omega)
       replace hb12 : Blk (W14.setCells N12 0 (feL x5)) N12 26 (feL x5) := hb12.setAll rfl
       replace G := gb_setCells_new (cs := feL x5) G (B := N12) (hw12) 0
       replace HT := HT.keep (gb_setCells (cs := feL x5) (gb_refl _ (some N12)) 0) (HT0.noG (hw12))
       revert hb3 hb5 hb6 hb7 hb8 hb9 hb10 hb11 hb12 G HT
       generalize W14.setCells N12 0 (feL x5) = W15
       intro hb3 hb5 hb6 hb7 hb8 hb9 hb10 hb11 hb12 G HT
       go_upto_region 13 with (fail)
       have Gs15 := G.size
       have l9hb3 := hb3.lt
       have l9hb5 := hb5.lt
       have l9hb6 := hb6.lt
       have l9hb7 := hb7.lt
       have l9hb8 := hb8.lt
       have l9hb9 := hb9.lt
       have l9hb10 := hb10.lt
       have l9hb11 := hb11.lt
       have l9hb12 := hb12.lt
       refine Fg.rP [13] [.any, .any, .any, .any, .any, .any, .any, .any, .any, .any, .any, .any, .any, .fresh 26 zr5 W15.heap.size, .any, .any, .any, .any, .any, .any, .any, .any, .any, .any, .any, .any, .any, .any, .any, .any, .any, .any, .any, .any, .any, .any, .any, .any, .any, .any, .any, .any, .any, .any, .any, .any, .any, .any, .any, .any, .any, .any, .any, .any, .any, .any, .any, .any, .any, .any, .any, .any, .any, .any, .any, .any, .any, .any, .val (e66F.v), .val (x5.v), .val (x4.v), .val ((Fe.subF x5 x4).v), .val (Fe.oneF.v), .val ((Fe.subF (Fe.subF x5 x4) Fe.oneF).v), .val ((Fe.mulF e66F (Fe.subF (Fe.subF x5 x4) Fe.oneF)).v)] 8 ?_ ?_
       ·refine Fg.vS rfl (by decide) (fun ac w h => ?_) ?_
        ·exact Fg.vn e66F.v (Fg.run_build (vs := #[(0, Value.int .u64 121666)]) rfl (by simp [Act.eval]) (by kernel_rfl))
        refine Fg.vS rfl (by decide) (fun ac w h => ?_) ?_
        ·have e12 : _ = Value.pointer (some ⟨N12, 0, none⟩) := h.r 12
         exact Fg.vn x5.v (Fg.run_load rfl e12 ((hb12.gn h.base).range 0 (feL x5) rfl) Tryd.underlying26 rfl info_elem)
        refine Fg.vS rfl (by decide) (fun ac w h => ?_) ?_
        ·have e11 : _ = Value.pointer (some ⟨N11, 0, none⟩) := h.r 11
         exact Fg.vn x4.v (Fg.run_load rfl e11 ((hb11.gn h.base).range 0 (feL x4) rfl) Tryd.underlying26 rfl info_elem)
        refine Fg.cS rfl (by decide) (fun ac w h => ?_) ?_
        ·have e69 : _ = x5.v := h.d 69
         have e70 : _ = x4.v := h.d 70
         refine ⟨wants_none rfl, 29, #[x5.v, x4.v], Fg.run_call rfl rfl (by simp only [List.map_toArray, List.map_cons, List.map_nil, Act.eval, e69, e70]) (Fg.run_enter Tryd.func29 (by kernel_rfl) (by kernel_rfl)), ?_⟩
         exact (t_sub (HT.f.grown h.base) okx5 okx4).mono fun _ _ ⟨he, hg⟩ => ⟨_, he, hg, rfl⟩
        refine Fg.cS rfl (by decide) (fun ac w h => ?_) ?_
        ·refine ⟨wants_none rfl, 30, #[], Fg.run_call rfl rfl (by simp) (Fg.run_enter Tryd.func30 (by kernel_rfl) (by kernel_rfl)), ?_⟩
         exact (t_one).mono fun _ _ ⟨he, hg⟩ => ⟨_, he, hg, rfl⟩
        refine Fg.cS rfl (by decide) (fun ac w h => ?_) ?_
        ·have e71 : _ = (Fe.subF x5 x4).v := h.d 71
         have e72 : _ = Fe.oneF.v := h.d 72
         refine ⟨wants_none rfl, 29, #[(Fe.subF x5 x4).v, Fe.oneF.v], Fg.run_call rfl rfl (by simp only [List.map_toArray, List.map_cons, List.map_nil, Act.eval, e71, e72]) (Fg.run_enter Tryd.func29 (by kernel_rfl) (by kernel_rfl)), ?_⟩
         exact (t_sub (HT.f.grown h.base) (Fe.sub_right _ _).ok one_ok).mono fun _ _ ⟨he, hg⟩ => ⟨_, he, hg, rfl⟩
        refine Fg.cS rfl (by decide) (fun ac w h => ?_) ?_
        ·have e68 : _ = e66F.v := h.d 68
         have e73 : _ = (Fe.subF (Fe.subF x5 x4) Fe.oneF).v := h.d 73
         refine ⟨wants_none rfl, 25, #[e66F.v, (Fe.subF (Fe.subF x5 x4) Fe.oneF).v], Fg.run_call rfl rfl (by simp only [List.map_toArray, List.map_cons, List.map_nil, Act.eval, e68, e73]) (Fg.run_enter Tryd.func25 (by kernel_rfl) (by kernel_rfl)), ?_⟩
         exact (t_mul e66_right.ok (Fe.sub_right _ _).ok).mono fun _ _ ⟨he, hg⟩ => ⟨_, he, hg, rfl⟩
        refine ⟨⟨⟨_, rfl⟩, Fg.allocP (fun _ _ h k => gb_trans h k) rfl (by show 13 < 90; decide) fun ac w h => ?_⟩, ?_⟩
        ·refine ⟨wants_none rfl, w.alloc (.cells zr5.toArray 26), ?_, World.grownBy_alloc _ _ _, by simp, ⟨w.heap.size, rfl, h.base.size, Blk.new w zr5 _⟩⟩
         clear h
         go_simp
        trivial
       ·intro qa V16 g16 hsz hdf hrest hslots hpt
        obtain ⟨N13, hs13, hn13, hb13⟩ : ∃ N, qa.tmps.getD 13 undef = .pointer (some ⟨N, 0, none⟩) ∧ W15.heap.size ≤ N ∧ Blk V16 N 26 zr5 := hslots 13 (by kernel_rfl)
        obtain ⟨u68, hs68⟩ := Fg.slotv qa 68
        obtain ⟨u69, hs69⟩ := Fg.slotv qa 69
        obtain ⟨u70, hs70⟩ := Fg.slotv qa 70
        obtain ⟨u71, hs71⟩ := Fg.slotv qa 71
        obtain ⟨u72, hs72⟩ := Fg.slotv qa 72
        obtain ⟨u73, hs73⟩ := Fg.slotv qa 73
        obtain ⟨x6, hx6⟩ : ∃ x : Fe, x = Fe.mulF e66F (Fe.subF (Fe.subF x5 x4) Fe.oneF) := ⟨_, rfl⟩
        obtain rfl := Fg.frame_by [13, 68, 69, 70, 71, 72, 73, 74] (vs := [Value.slice a len cap, undef, Value.bool false, Value.pointer (some ⟨N3, 0, none⟩), Value.bool true, Value.pointer (some ⟨N5, 0, none⟩), Value.pointer (some ⟨N6, 0, none⟩), Value.pointer (some ⟨N7, 0, none⟩), Value.pointer (some ⟨N8, 0, none⟩), Value.pointer (some ⟨N9, 0, none⟩), Value.pointer (some ⟨N10, 0, none⟩), Value.pointer (some ⟨N11, 0, none⟩), Value.pointer (some ⟨N12, 0, none⟩), Value.pointer (some ⟨N13, 0, none⟩), undef, u15, u16, u17, u18, u19, u20, u21, u22, u23, u24, u25, fourF.v, fiveF.v, u28, u29, u30, u31, u32, u33, u34, u35, u36, u37, u38, u39, u40, u41, u42, u43, u44, u45, u46, u47, u48, u49, Value.bool false, u51, u52, u53, u54, x1.v, u56, u57, u58, x2.v, u60, u61, u62, x3.v, u64, x4.v, u66, x5.v, u68, u69, u70, u71, u72, u73, x6.v, undef, undef, undef, undef, undef, undef, undef, undef, undef, undef, undef, undef, undef, undef, undef]) hsz hrest (by kernel_rfl) rfl rfl ⟨hs13, hs68, hs69, hs70, hs71, hs72, hs73, (show qa.tmps.getD 74 undef = x6.v by rw [hx6]; exact hslots 74 (by kernel_rfl)), trivial⟩ hdf
        clear hsz hdf hrest hslots hpt hs13 hs68 hs69 hs70 hs71 hs72 hs73
        have Hx6 := Lib.hid hx6; clear hx6
        replace hb3 := hb3.gn g16
        replace hb5 := hb5.gn g16
        replace hb6 := hb6.gn g16
        replace hb7 := hb7.gn g16
        replace hb8 := hb8.gn g16
        replace hb9 := hb9.gn g16
        replace hb10 := hb10.gn g16
        replace hb11 := hb11.gn g16
        replace hb12 := hb12.gn g16
        replace G := gb_trans G g16
        replace HT := HT.grown g16
        have okx6 : x6.Ok := by rw [Hx6.out]; exact (Fe.mul_right _ _).ok
        have hw13 : w0.heap.size ≤ N13 := Nat.le_trans Gs15 hn13
        clear g16
        refine Fg.wpl_skip rfl rfl (Fg.run_store (cs := feL x6) rfl rfl rfl (hb13.there 0 5 (by show 0 + 5 ≤ 5; decide)) info_elem (feL_one _)) ?_
        replace hb3 := hb3.setCells_other (C := N13) (cs := feL x6) 0 (by omega)
        replace hb5 := hb5.setCells_other (C := N13) (cs := feL x6) 0 (by omega)
        replace hb6 := hb6.setCells_other (C := N13) (cs := feL x6) 0 (by omega)
        replace hb7 := hb7.setCells_other (C := N13) (cs := feL x6) 0 (by omega)
        replace hb8 := hb8.setCells_other (C := N13) (cs := feL x6) 0 (by omega)
        replace hb9 := hb9.setCells_other (C := N13) (cs := feL x6) 0 (by omega)
        replace hb10 := hb10.setCells_other (C := N13) (cs := feL x6) 0 (by omega)
        replace hb11 := hb11.setCells_other (C := N13) (cs := feL x6) 0 (by omega)
        replace hb12 := hb12.setCells_other (C := N13) (cs := feL x6) 0 (by omega)
        replace hb13 : Blk (V16.setCells N13 0 (feL x6)) N13 26 (feL x6) := hb13.setAll rfl
        replace G := gb_setCells_new (cs := feL x6) G (B := N13) (hw13) 0
        replace HT := HT.keep (gb_setCells (cs := feL x6) (gb_refl _ (some N13)) 0) (HT0.noG (hw13))
        revert hb3 hb5 hb6 hb7 hb8 hb9 hb10 hb11 hb12 hb13 G HT
        generalize V16.setCells N13 0 (feL x6) = W17
        intro hb3 hb5 hb6 hb7 hb8 hb9 hb10 hb11 hb12 hb13 G HT
        go_upto_region 14 with (fail)
        have Gs17 := G.size
        have l10hb3 := hb3.lt
        have l10hb5 := hb5.lt
        have l10hb6 := hb6.lt
        have l10hb7 := hb7.lt
        have l10hb8 := hb8.lt
        have l10hb9 := hb9.lt
        have l10hb10 := hb10.lt
        have l10hb11 := hb11.lt
        have l10hb12 := hb12.lt
        have l10hb13 := hb13.lt
        refine Fg.rP [14] [.any, .any, .any, .any, .any, .any, .any, .any, .any, .any, .any, .any, .any, .any, .fresh 26 zr5 W17.heap.size, .any, .any, .any, .any, .any, .any, .any, .any, .any, .any, .any, .any, .any, .any, .any, .any, .any, .any, .any, .any, .any, .any, .any, .any, .any, .any, .any, .any, .any, .any, .any, .any, .any, .any, .any, .any, .any, .any, .any, .any, .any, .any, .any, .any, .any, .any, .any, .any, .any, .any, .any, .any, .any, .any, .any, .any, .any, .any, .any, .any, .val (e65F.v), .val (x4.v), .val (x5.v), .val ((Fe.mulF x4 x5).v), .val ((Fe.mulF e65F (Fe.mulF x4 x5)).v), .val ((Fe.negF (Fe.mulF e65F (Fe.mulF x4 x5))).v)] 7 ?_ ?_
        ·refine Fg.vS rfl (by decide) (fun ac w h => ?_) ?_
         ·exact Fg.vn e65F.v (Fg.run_build (vs := #[(0, Value.int .u64 121665)]) rfl (by simp [Act.eval]) (by kernel_rfl))
         refine Fg.vS rfl (by decide) (fun ac w h => ?_) ?_
         ·have e11 : _ = Value.pointer (some ⟨N11, 0, none⟩) := h.r 11
          exact Fg.vn x4.v (Fg.run_load rfl e11 ((hb11.gn h.base).range 0 (feL x4) rfl) Tryd.underlying26 rfl info_elem)
         refine Fg.vS rfl (by decide) (fun ac w h => ?_) ?_
         ·have e12 : _ = Value.pointer (some ⟨N12, 0, none⟩) := h.r 12
          exact Fg.vn x5.v (Fg.run_load rfl e12 ((hb12.gn h.base).range 0 (feL x5) rfl) Tryd.underlying26 rfl info_elem)
         refine Fg.cS rfl (by decide) (fun ac w h => ?_) ?_
         ·have e76 : _ = x4.v := h.d 76
          have e77 : _ = x5.v := h.d 77
          refine ⟨wants_none rfl, 25, #[x4.v, x5.v], Fg.run_call rfl rfl (by simp only [List.map_toArray, List.map_cons, List.map_nil, Act.eval, e76, e77]) (Fg.run_enter Tryd.func25 (by kernel_rfl) (by kernel_rfl)), ?_⟩
          exact (t_mul okx4 okx5).mono fun _ _ ⟨he, hg⟩ => ⟨_, he, hg, rfl⟩
         refine Fg.cS rfl (by decide) (fun ac w h => ?_) ?_
         ·have e75 : _ = e65F.v := h.d 75
          have e78 : _ = (Fe.mulF x4 x5).v := h.d 78
          refine ⟨wants_none rfl, 25, #[e65F.v, (Fe.mulF x4 x5).v], Fg.run_call rfl rfl (by simp only [List.map_toArray, List.map_cons, List.map_nil, Act.eval, e75, e78]) (Fg.run_enter Tryd.func25 (by kernel_rfl) (by kernel_rfl)), ?_⟩
          exact (t_mul e65_right.ok (Fe.mul_right _ _).ok).mono fun _ _ ⟨he, hg⟩ => ⟨_, he, hg, rfl⟩
         refine Fg.cS rfl (by decide) (fun ac w h => ?_) ?_
         ·have e79 : _ = (Fe.mulF e65F (Fe.mulF x4 x5)).v := h.d 79
          refine ⟨wants_none rfl, 31, #[(Fe.mulF e65F (Fe.mulF x4 x5)).v], Fg.run_call rfl rfl (by simp only [List.map_toArray, List.map_cons, List.map_nil, Act.eval, e79]) (Fg.run_enter Tryd.func31 (by kernel_rfl) (by kernel_rfl)), ?_⟩
          exact (t_neg (HT.f.grown h.base) (Fe.mul_right _ _).ok).mono fun _ _ ⟨he, hg⟩ => ⟨_, he, hg, rfl⟩
         refine ⟨⟨⟨_, rfl⟩, Fg.allocP (fun _ _ h k => gb_trans h k) rfl (by show 14 < 90; decide) fun ac w h => ?_⟩, ?_⟩
         ·refine ⟨wants_none rfl, w.alloc (.cells zr5.toArray 26), ?_, World.grownBy_alloc _ _ _, by simp, ⟨w.heap.size, rfl, h.base.size, Blk.new w zr5 _⟩⟩
          clear h
          go_simp
         trivial
        ·intro qa V18 g18 hsz hdf hrest hslots hpt
         obtain ⟨N14, hs14, hn14, hb14⟩ : ∃ N, qa.tmps.getD 14 undef = .pointer (some ⟨N, 0, none⟩) ∧ W17.heap.size ≤ N ∧ Blk V18 N 26 zr5 := hslots 14 (by kernel_rfl)
         obtain ⟨u75, hs75⟩ := Fg.slotv qa 75
         obtain ⟨u76, hs76⟩ := Fg.slotv qa 76
         obtain ⟨u77, hs77⟩ := Fg.slotv qa 77
         obtain ⟨u78, hs78⟩ := Fg.slotv qa 78
         obtain ⟨u79, hs79⟩ := Fg.slotv qa 79
         obtain ⟨x7, hx7⟩ : ∃ x : Fe, x = Fe.negF (Fe.mulF e65F (Fe.mulF x4 x5)) := ⟨_, rfl⟩
         obtain rfl := Fg.frame_by [14, 75, 76, 77, 78, 79, 80] (vs := [Value.slice a len cap, undef, Value.bool false, Value.pointer (some ⟨N3, 0, none⟩), Value.bool true, Value.pointer (some ⟨N5, 0, none⟩), Value.pointer (some ⟨N6, 0, none⟩), Value.pointer (some ⟨N7, 0, none⟩), Value.pointer (some ⟨N8, 0, none⟩), Value.pointer (some ⟨N9, 0, none⟩), Value.pointer (some ⟨N10, 0, none⟩), Value.pointer (some ⟨N11, 0, none⟩), Value.pointer (some ⟨N12, 0, none⟩), Value.pointer (some ⟨N13, 0, none⟩), Value.pointer (some ⟨N14, 0, none⟩), u15, u16, u17, u18, u19, u20, u21, u22, u23, u24, u25, fourF.v, fiveF.v, u28, u29, u30, u31, u32, u33, u34, u35, u36, u37, u38, u39, u40, u41, u42, u43, u44, u45, u46, u47, u48, u49, Value.bool false, u51, u52, u53, u54, x1.v, u56, u57, u58, x2.v, u60, u61, u62, x3.v, u64, x4.v, u66, x5.v, u68, u69, u70, u71, u72, u73, x6.v, u75, u76, u77, u78, u79, x7.v, undef, undef, undef, undef, undef, undef, undef, undef, undef]) hsz hrest (by kernel_rfl) rfl rfl ⟨hs14, hs75, hs76, hs77, hs78, hs79, (show qa.tmps.getD 80 undef = x7.v by rw [hx7]; exact hslots 80 (by kernel_rfl)), trivial⟩ hdf
         clear hsz hdf hrest hslots hpt hs14 hs75 hs76 hs77 hs78 hs79
         have Hx7 := Lib.hid hx7; clear hx7
         replace hb3 := hb3.gn g18
         replace hb5 := hb5.gn g18
         replace hb6 := hb6.gn g18
         replace hb7 := hb7.gn g18
         replace hb8 := hb8.gn g18
         replace hb9 := hb9.gn g18
         replace hb10 := hb10.gn g18
         replace hb11 := hb11.gn g18
         replace hb12 := hb12.gn g18
         replace hb13 := hb13.gn g18
         replace G := gb_trans G g18
         replace HT := HT.grown g18
         have okx7 : x7.Ok := by rw [Hx7.out]; exact (Fe.neg_right _).ok
         have hw14 : w0.heap.size ≤ N14 := Nat.le_trans Gs17 hn14
         clear g18
         refine Fg.wpl_skip rfl rfl (Fg.run_store (cs := feL x7) rfl rfl rfl (hb14.there 0 5 (by show 0 + 5 ≤ 5; decide)) info_elem (feL_one _)) ?_
         replace hb3 := hb3.setCells_other (C := N14) (cs := feL x7) 0 (by omega)
         replace hb5 := hb5.setCells_other (C := N14) (cs := feL x7) 0 (by omega)
         replace hb6 := hb6.setCells_other (C := N14) (cs := feL x7) 0 (by omega)
         replace hb7 := hb7.setCells_other (C := N14) (cs := feL x7) 0 (by omega)
         replace hb8 := hb8.setCells_other (C := N14) (cs := feL x7) 0 (by omega)
         replace hb9 := hb9.setCells_other (C := N14) (cs := feL x7) 0 (by omega)
         replace hb10 := hb10.setCells_other (C := N14) (cs := feL x7) 0 (by omega)
         replace hb11 := hb11.setCells_other (C := N14) (cs := feL x7) 0 (by omega)
         replace hb12 := hb12.setCells_other (C := N14) (cs := feL x7) 0 (by omega)
         replace hb13 := hb13.setCells_other (C := N14) (cs := feL x7) 0 (by omega)
         replace hb14 : Blk (V18.setCells N14 0 (feL x7)) N14 26 (feL x7) := hb14.setAll rfl
         replace G := gb_setCells_new (cs := feL x7) G (B := N14) (hw14) 0
         replace HT := HT.keep (gb_setCells (cs := feL x7) (gb_refl _ (some N14)) 0) (HT0.noG (hw14))
         revert hb3 hb5 hb6 hb7 hb8 hb9 hb10 hb11 hb12 hb13 hb14 G HT
         generalize V18.setCells N14 0 (feL x7) = W19
         intro hb3 hb5 hb6 hb7 hb8 hb9 hb10 hb11 hb12 hb13 hb14 G HT
         go_upto_region 15 with (fail)
         have Gs19 := G.size
         have l11hb3 := hb3.lt
         have l11hb5 := hb5.lt
         have l11hb6 := hb6.lt
         have l11hb7 := hb7.lt
         have l11hb8 := hb8.lt
         have l11hb9 := hb9.lt
         have l11hb10 := hb10.lt
         have l11hb11 := hb11.lt
         have l11hb12 := hb12.lt
         have l11hb13 := hb13.lt
         have l11hb14 := hb14.lt
         refine Fg.rP [] [.any, .any, .val (Value.bool true), .any, .any, .any, .any, .any, .any, .any, .any, .any, .any, .any, .any, .any, .any, .any, .any, .any, .any, .any, .any, .any, .any, .any, .any, .any, .any, .any, .any, .any, .any, .any, .any, .any, .any, .any, .any, .any, .any, .any, .any, .any, .any, .any, .any, .any, .any, .any, .any, .any, .any, .any, .any, .any, .any, .any, .any, .any, .any, .any, .any, .any, .any, .any, .any, .any, .any, .any, .any, .any, .any, .any, .any, .any, .any, .any, .any, .any, .any, .val (x6.v), .val (x7.v), .val (Value.bool true), .val (Value.bool true), .val (Value.pointer (some ⟨N7, 10, none⟩)), .val (t7.Z.v), .val (Value.bool false), .val (Value.bool true), .val (Value.bool true)] 10 ?_ ?_
         ·refine Fg.vS rfl (by decide) (fun ac w h => ?_) ?_
          ·have e13 : _ = Value.pointer (some ⟨N13, 0, none⟩) := h.r 13
           exact Fg.vn x6.v (Fg.run_load rfl e13 ((hb13.gn h.base).range 0 (feL x6) rfl) Tryd.underlying26 rfl info_elem)
          refine Fg.vS rfl (by decide) (fun ac w h => ?_) ?_
          ·have e14 : _ = Value.pointer (some ⟨N14, 0, none⟩) := h.r 14
           exact Fg.vn x7.v (Fg.run_load rfl e14 ((hb14.gn h.base).range 0 (feL x7) rfl) Tryd.underlying26 rfl info_elem)
          refine Fg.cS rfl (by decide) (fun ac w h => ?_) ?_
          ·have e81 : _ = x6.v := h.d 81
           have e82 : _ = x7.v := h.d 82
           refine ⟨wants_none rfl, 24, #[x6.v, x7.v], Fg.run_call rfl rfl (by simp only [List.map_toArray, List.map_cons, List.map_nil, Act.eval, e81, e82]) (Fg.run_enter Tryd.func24 (by kernel_rfl) (by kernel_rfl)), ?_⟩
           exact (t_same okx6 okx7 (by rw [Hx6.out, Hx7.out]; exact curve_same ht7 (Hx2.out.trans (by rw [Hx1.out])) (Hx3.out.trans (by rw [Hx1.out])) Hx4.out Hx5.out)).mono fun _ _ ⟨he, hg⟩ => ⟨_, he, hg, rfl⟩
          refine Fg.vS rfl (by decide) (fun ac w h => ?_) ?_
          ·have e83 : _ = Value.bool true := h.d 83
           exact Fg.vn (Value.bool true) (Fg.run_move rfl e83)
          refine Fg.vS rfl (by decide) (fun ac w h => ?_) ?_
          ·have e84 : _ = Value.bool true := h.d 84
           have e7 : _ = Value.pointer (some ⟨N7, 0, none⟩) := h.r 7
           exact Fg.vx (Value.pointer (some ⟨N7, 10, none⟩)) (wants_some (d := 84) rfl rfl (by rw [h.size]; show 84 < 90; decide) e84) (Fg.run_fieldAddr rfl e7 (fa_point2 _ _ _))
          refine Fg.vS rfl (by decide) (fun ac w h => ?_) ?_
          ·have e84 : _ = Value.bool true := h.d 84
           have e85 : _ = Value.pointer (some ⟨N7, 10, none⟩) := h.d 85
           exact Fg.vx t7.Z.v (wants_some (d := 84) rfl rfl (by rw [h.size]; show 84 < 90; decide) e84) (Fg.run_load rfl e85 ((hb7.gn h.base).range 10 (feL t7.Z) rfl) Tryd.underlying26 rfl info_elem)
          refine Fg.cS rfl (by decide) (fun ac w h => ?_) ?_
          ·have e84 : _ = Value.bool true := h.d 84
           have e86 : _ = t7.Z.v := h.d 86
           refine ⟨wants_some (d := 84) rfl rfl (by rw [h.size]; show 84 < 90; decide) e84, 32, #[t7.Z.v], Fg.run_call rfl rfl (by simp only [List.map_toArray, List.map_cons, List.map_nil, Act.eval, e86]) (Fg.run_enter Tryd.func32 (by kernel_rfl) (by kernel_rfl)), ?_⟩
           exact (t_zero ht7.ok.Z (z_not ht7)).mono fun _ _ ⟨he, hg⟩ => ⟨_, he, hg, rfl⟩
          refine Fg.vS rfl (by decide) (fun ac w h => ?_) ?_
          ·have e84 : _ = Value.bool true := h.d 84
           have e87 : _ = Value.bool false := h.d 87
           refine ⟨wants_some (d := 84) rfl rfl (by rw [h.size]; show 84 < 90; decide) e84, Value.bool true, w, ?_, gb_refl _ _, rfl⟩
           clear h
           simp only [execOp, Act.eval, e87]
           go_simp
          refine Fg.vS rfl (by decide) (fun ac w h => ?_) ?_
          ·have e84 : _ = Value.bool true := h.d 84
           have e88 : _ = Value.bool true := h.d 88
           refine ⟨wants_none rfl, Value.bool true, w, ?_, gb_refl _ _, rfl⟩
           clear h
           simp only [execOp, Act.eval, e84, e88]
           go_simp
          refine Fg.vS rfl (by decide) (fun ac w h => ?_) ?_
          ·have e89 : _ = Value.bool true := h.d 89
           exact Fg.vn (Value.bool true) (Fg.run_assign rfl e89)
          trivial
         ·intro qa V20 g20 hsz hdf hrest hslots hpt
          obtain ⟨u81, hs81⟩ := Fg.slotv qa 81
          obtain ⟨u82, hs82⟩ := Fg.slotv qa 82
          obtain ⟨u83, hs83⟩ := Fg.slotv qa 83
          obtain ⟨u84, hs84⟩ := Fg.slotv qa 84
          obtain ⟨u85, hs85⟩ := Fg.slotv qa 85
          obtain ⟨u86, hs86⟩ := Fg.slotv qa 86
          obtain ⟨u87, hs87⟩ := Fg.slotv qa 87
          obtain ⟨u88, hs88⟩ := Fg.slotv qa 88
          obtain ⟨u89, hs89⟩ := Fg.slotv qa 89
          obtain rfl := Fg.frame_by [2, 81, 82, 83, 84, 85, 86, 87, 88, 89] (vs := [Value.slice a len cap, undef, Value.bool true, Value.pointer (some ⟨N3, 0, none⟩), Value.bool true, Value.pointer (some ⟨N5, 0, none⟩), Value.pointer (some ⟨N6, 0, none⟩), Value.pointer (some ⟨N7, 0, none⟩), Value.pointer (some ⟨N8, 0, none⟩), Value.pointer (some ⟨N9, 0, none⟩), Value.pointer (some ⟨N10, 0, none⟩), Value.pointer (some ⟨N11, 0, none⟩), Value.pointer (some ⟨N12, 0, none⟩), Value.pointer (some ⟨N13, 0, none⟩), Value.pointer (some ⟨N14, 0, none⟩), u15, u16, u17, u18, u19, u20, u21, u22, u23, u24, u25, fourF.v, fiveF.v, u28, u29, u30, u31, u32, u33, u34, u35, u36, u37, u38, u39, u40, u41, u42, u43, u44, u45, u46, u47, u48, u49, Value.bool false, u51, u52, u53, u54, x1.v, u56, u57, u58, x2.v, u60, u61, u62, x3.v, u64, x4.v, u66, x5.v, u68, u69, u70, u71, u72, u73, x6.v, u75, u76, u77, u78, u79, x7.v, u81, u82, u83, u84, u85, u86, u87, u88, u89]) hsz hrest (by kernel_rfl) rfl rfl ⟨(show qa.tmps.getD 2 undef = Value.bool true from hslots 2 (by kernel_rfl)), hs81, hs82, hs83, hs84, hs85, hs86, hs87, hs88, hs89, trivial⟩ hdf
          clear hsz hdf hrest hslots hpt hs81 hs82 hs83 hs84 hs85 hs86 hs87 hs88 hs89
          replace hb3 := hb3.gn g20
          replace hb5 := hb5.gn g20
          replace hb6 := hb6.gn g20
          replace hb7 := hb7.gn g20
          replace hb8 := hb8.gn g20
          replace hb9 := hb9.gn g20
          replace hb10 := hb10.gn g20
          replace hb11 := hb11.gn g20
          replace hb12 := hb12.gn g20
          replace hb13 := hb13.gn g20
          replace hb14 := hb14.gn g20
          replace G := gb_trans G g20
          replace HT := HT.grown g20
          clear g20
          go_wp2_with fail
          go_ret
          exact ⟨rfl, G⟩

end Go.Proofs.YtleegbaigedebaaDoor
