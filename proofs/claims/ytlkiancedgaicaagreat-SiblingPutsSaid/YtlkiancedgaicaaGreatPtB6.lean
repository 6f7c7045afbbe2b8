/- texts merged, part 6: XSbKept XFlat XFlatGrow XPut XFlatB XFlatNil XBag XApart XRcApart2 -/
import Derived.Test.YtlkiancedgaicaaGreatPtB5
import Derived.Test.YtlkiancedgaicaaGreatPtB1
import Derived.BigRegion
import Derived.RegionTactic
import Derived.Deep.RegionWith
import Derived.IntWalk
/- The kit's KeptRecords. -/
namespace Go.Proofs.YtlkiancedgaicaaGreat
open Go.RowKit Ow Wi Ve Rc
namespace Sb
set_option maxHeartbeats 4000000 in
set_option maxRecDepth 100000 in
theorem keptRs_any {f : Nat → Nat → Nat} (hf : Marks f) (n cap B G : Nat) (a : Option Addr) (A O : List E) (w : World) (hn : A.length = n) (h : RRow w B a A) (hs : ∀ x ∈ A, FewE x) (hl : LentRs f w G O A) (hn2 : n ≤ 30000) :
    Calls Tryz.prog 40 #[.slice (some ⟨G, 0, none⟩) n (n + 12), .slice a n cap] w fun e w' => e = .returned (.bool true) ∧ w.grownBy w' none := by
  have HKP : Hid (∀ k, k < n → ∀ w', w.grownBy w' none → Calls Tryz.prog 80 #[recV (O.getD k e0), recV (A.getD k e0)] w' fun e w'' => e = .returned (.bool true) ∧ w'.grownBy w'' none) := fun k hk w' hg => by
    obtain ⟨x1, d1, x2, x3, e, hl2⟩ := hl.at_.2 k (by rw [hn]; exact hk)
    rw [e]
    have hm := getD_mem (l := A) (i := k) (by rw [hn]; exact hk)
    exact keptRec_any hf _ B w' _ ((h.recs _ hm).stay hg) (hs _ hm) _ x1 d1 x2 x3 (hl2.stay hg)
  have hol : O.length = n := by rw [hl.at_.1, hn]
  have HCO : Hid (∀ k, k < n → Cells7 w G (k * 7) (O.getD k e0)) := fun k hk => by
    have h1 := blk_cells hl.blk (i := k) (by rw [List.length_append]; omega)
    rw [Nat.zero_add, List.getD_eq_getElem?_getD, List.getElem?_append_left (by omega), ← List.getD_eq_getElem?_getD] at h1
    exact h1
  have HCM : Hid (∀ j, j < 12 → Cells7 w G ((n + j) * 7) (mkE j)) := fun j hj => by
    have h1 := blk_cells hl.blk (i := n + j) (by rw [List.length_append, mksE_len]; omega)
    rw [Nat.zero_add, List.getD_eq_getElem?_getD, List.getElem?_append_right (by omega), hol, Nat.add_sub_cancel_left] at h1
    unfold mksE at h1
    rw [List.getElem?_map, List.getElem?_range hj] at h1
    exact h1
  have H := Lib.hid (And.intro h hn)
  obtain ⟨M, hM⟩ : ∃ M, M = n + 12 := ⟨_, rfl⟩
  obtain ⟨a', hsl, ha'⟩ := slice_toR (some ⟨G, 0, none⟩) n (n + 12) (n + 12) (Nat.le_refl _)
  rw [ha' G 0 rfl, show ((n + 12 : Nat) : Int) = (n : Int) + 12 from rfl] at hsl
  replace hsl : ∀ w, (Instr.slice 48 (.slice (some ⟨G, 0, none⟩) n (n + 12)) none (some (.int .i64 ((n : Int) + 12))) none).run Tryz.prog w = .ok (.slice (some ⟨G, 0, none⟩) M (n + 12)) w := by rw [hM]; exact hsl
  have HM := Lib.hid hM
  have hM3 : M ≤ 30012 := by omega
  clear ha' hM h hn hs hl hf hol
  obtain ⟨Q, hQ⟩ : ∃ Q : Ending → World → Prop, Q = fun e w' => e = .returned (.bool true) ∧ w.grownBy w' none := ⟨_, rfl⟩
  rw [← hQ]
  have HQ : Hid (∀ w', w.grownBy w' none → Q (.returned (.bool true)) w') := fun w' hg => by rw [hQ]; exact ⟨rfl, hg⟩
  clear hQ
  go_enter Tryz.func40, Tryz.ntmps40
  go_wp2_with fail
  clear hsl
  go_loopw [6] (fun v wr => ∃ (k : Nat), k ≤ M ∧ v = .int .i64 k ∧ Hid (w.grownBy wr none)) (fun v _ => M - (intOf v).toNat)
  case atStart => exact ⟨0, by omega, rfl, gb_refl _ _⟩
  case round =>
    obtain ⟨k, hk, rfl, HI⟩ := hrel
    by_cases hkM : k < M
    · have hki : (k : Int) < (M : Int) := by omega
      by_cases hlt : k < n
      · have HCL : Hid (decide ((k : Int) < (n : Int)) = true ∧ (k : Int) < (n : Int) ∧ decide ((n : Int) ≤ (k : Int)) = false ∧ ¬ (n : Int) ≤ (k : Int) ∧ (k : Int) < (M : Int)) := ⟨decide_eq_true (by omega), by omega, decide_eq_false (by omega), by omega, hki⟩
        have hl0 : 0 < A.length := by rw [H.out.2]; omega
        obtain ⟨pb, po, rfl, hpb, hcs⟩ := H.out.1.at hl0
        have hx := HCO.out k hlt
        have hy := hcs k (by rw [H.out.2]; exact hlt)
        have hkp := HKP.out k hlt
        obtain ⟨x, hxe⟩ : ∃ x, x = O.getD k e0 := ⟨_, rfl⟩
        obtain ⟨y, hye⟩ : ∃ y, y = A.getD k e0 := ⟨_, rfl⟩
        rw [← hxe] at hx
        rw [← hye] at hy
        rw [← hxe, ← hye] at hkp
        clear hxe hye hcs hl0
        obtain ⟨⟨rs, ra1, rn1, rd1, ra2, rn2, rd2, ra3, rn3, rd3⟩, ⟨rkey, rcl, rsq, rcx, rg, rval, rsig⟩⟩ := x
        obtain ⟨⟨rs', ra1', rn1', rd1', ra2', rn2', rd2', ra3', rn3', rd3'⟩, ⟨rkey', rcl', rsq', rcx', rg', rval', rsig'⟩⟩ := y
        obtain ⟨w2, hw2⟩ : ∃ w2, w2 = wr := ⟨_, rfl⟩
        have HG2 := Lib.hid HI.out
        have HXY := Lib.hid (And.intro (cells_of (hx.stay HI.out)) (cells_of (hy.stay HI.out)))
        rw [← hw2] at HG2 HXY
        have HK : Hid (∀ w', w.grownBy w' none → Calls Tryz.prog 80 #[vV rs rcl rsq ra1 rn1 rd1 rg ra2 rn2 rd2 ra3 rn3 rd3, vV rs' rcl' rsq' ra1' rn1' rd1' rg' ra2' rn2' rd2' ra3' rn3' rd3'] w' fun e w'' => e = .returned (.bool true) ∧ w'.grownBy w'' none) := hkp
        clear hx hy hkp HI
        go_wp2_with fail
        rw [← hw2]
        clear hw2 hki
        refine Fg.region_t [] [.any, .any, .any, .any, .any, .any, .any, .any, .any, .any, .any, .any, .any, .any, .any, .any, .any, .any, .any, .any, .any, .any, .any, .val (Value.int .i64 k), .val (Value.slice (some ⟨pb, po, none⟩) n cap), .val (Value.int .i64 n), .val (Value.bool true), .val (Value.bool true), .val (Value.slice (some ⟨G, 0, none⟩) M (n + 12)), .val (Value.int .i64 k), .val (Value.pointer (some ⟨G, k * 7, none⟩)), .val (vV rs rcl rsq ra1 rn1 rd1 rg ra2 rn2 rd2 ra3 rn3 rd3), .val (Value.slice (some ⟨pb, po, none⟩) n cap), .val (Value.int .i64 k), .val (Value.pointer (some ⟨pb, po + k * 7, none⟩)), .val (vV rs' rcl' rsq' ra1' rn1' rd1' rg' ra2' rn2' rd2' ra3' rn3' rd3'), .val (Value.bool true), .val (Value.bool false), .val (Value.bool false), .val (Value.bool false), .val (Value.int .i64 k), .val (Value.slice (some ⟨pb, po, none⟩) n cap), .val (Value.int .i64 n), .val (Value.bool false), .val (Value.bool false), .val undef, .val undef, .val undef, .val undef, .val undef, .val undef, .val undef, .val undef, .val undef, .val undef, .val undef, .val (Value.bool false), .val (Value.bool false)] w2 35 (gb_refl _ _) (by kernel_rfl) (by kernel_rfl) (by kernel_rfl) (by kernel_rfl) (by decide) (by kernel_rfl) ?_ ?_
        · refine ⟨Fg.vT rfl (by decide) fun ac w h => ?_, ?_⟩
          · have e6 : ac.tmps.getD 6 undef = Value.int .i64 k := h.rest 6 (by kernel_rfl)
            exact ⟨_, w, wants_none rfl, Fg.run_move rfl e6, gb_refl _ _, rfl⟩
          refine ⟨Fg.vT rfl (by decide) fun ac w h => ?_, ?_⟩
          · have e1 : ac.tmps.getD 1 undef = Value.slice (some ⟨pb, po, none⟩) n cap := h.rest 1 (by kernel_rfl)
            exact ⟨_, w, wants_none rfl, Fg.run_move rfl e1, gb_refl _ _, rfl⟩
          refine ⟨Fg.vT rfl (by decide) fun ac w h => ?_, ?_⟩
          · have e24 : ac.tmps.getD 24 undef = Value.slice (some ⟨pb, po, none⟩) n cap := h.dep 24 (by kernel_rfl)
            have x24 : ac.tmps[24]?.getD undef = Value.slice (some ⟨pb, po, none⟩) n cap := by simpa using e24
            refine ⟨.int .i64 n, w, wants_none rfl, ?_, gb_refl _ _, rfl⟩
            clear h e24
            go_simp
          refine ⟨Fg.vT rfl (by decide) fun ac w h => ?_, ?_⟩
          · have e23 : ac.tmps.getD 23 undef = Value.int .i64 k := h.dep 23 (by kernel_rfl)
            have e25 : ac.tmps.getD 25 undef = Value.int .i64 n := h.dep 25 (by kernel_rfl)
            have i1 := HCL.out.1
            have i2 := HCL.out.2.1
            refine ⟨.bool true, w, wants_none rfl, ?_, gb_refl _ _, rfl⟩
            clear h
            simp only [execOp, Act.eval, e23, e25]
            go_simp
          refine ⟨Fg.vT rfl (by decide) fun ac w h => ?_, ?_⟩
          · have e26 : ac.tmps.getD 26 undef = Value.bool true := h.dep 26 (by kernel_rfl)
            exact ⟨_, w, wants_none rfl, Fg.run_move rfl e26, gb_refl _ _, rfl⟩
          refine ⟨Fg.vT rfl (by decide) fun ac w h => ?_, ?_⟩
          · have e27 : ac.tmps.getD 27 undef = Value.bool true := h.dep 27 (by kernel_rfl)
            have e5 : ac.tmps.getD 5 undef = Value.slice (some ⟨G, 0, none⟩) M (n + 12) := h.rest 5 (by kernel_rfl)
            exact ⟨_, w, wants_some (d := 27) rfl rfl (by rw [h.size]; show 27 < 58; decide) e27, Fg.run_move rfl e5, gb_refl _ _, rfl⟩
          refine ⟨Fg.vT rfl (by decide) fun ac w h => ?_, ?_⟩
          · have e27 : ac.tmps.getD 27 undef = Value.bool true := h.dep 27 (by kernel_rfl)
            have e6 : ac.tmps.getD 6 undef = Value.int .i64 k := h.rest 6 (by kernel_rfl)
            exact ⟨_, w, wants_some (d := 27) rfl rfl (by rw [h.size]; show 27 < 58; decide) e27, Fg.run_move rfl e6, gb_refl _ _, rfl⟩
          refine ⟨Fg.vT rfl (by decide) fun ac w h => ?_, ?_⟩
          · have e27 : ac.tmps.getD 27 undef = Value.bool true := h.dep 27 (by kernel_rfl)
            have e28 : ac.tmps.getD 28 undef = Value.slice (some ⟨G, 0, none⟩) M (n + 12) := h.dep 28 (by kernel_rfl)
            have e29 : ac.tmps.getD 29 undef = Value.int .i64 k := h.dep 29 (by kernel_rfl)
            have i0 : (k : Int) < (M : Int) := HCL.out.2.2.2.2
            refine ⟨.pointer (some ⟨G, k * 7, none⟩), w, wants_some (d := 27) rfl rfl (by rw [h.size]; show 27 < 58; decide) e27, ?_, gb_refl _ _, rfl⟩
            clear h
            simp only [execOp, Act.eval, e28, e29]
            go_simp
          refine ⟨Fg.vT rfl (by decide) fun ac w h => ?_, ?_⟩
          · have e27 : ac.tmps.getD 27 undef = Value.bool true := h.dep 27 (by kernel_rfl)
            have e30 : ac.tmps.getD 30 undef = Value.pointer (some ⟨G, k * 7, none⟩) := h.dep 30 (by kernel_rfl)
            have m0 : w.cell? ⟨G, k * 7, none⟩ = some (.string rs) := by rw [gb_cell h.base (block_lt_of_cell (HXY.out.1.1)) (by simp)]; exact HXY.out.1.1
            have m1 : w.cell? ⟨G, k * 7 + 1, none⟩ = some (iV rcl) := by rw [gb_cell h.base (block_lt_of_cell (HXY.out.1.2.1)) (by simp)]; exact HXY.out.1.2.1
            have m2 : w.cell? ⟨G, k * 7 + 2, none⟩ = some (iV rsq) := by rw [gb_cell h.base (block_lt_of_cell (HXY.out.1.2.2.1)) (by simp)]; exact HXY.out.1.2.2.1
            have m3 : w.cell? ⟨G, k * 7 + 3, none⟩ = some (.slice ra1 rn1 rd1) := by rw [gb_cell h.base (block_lt_of_cell (HXY.out.1.2.2.2.1)) (by simp)]; exact HXY.out.1.2.2.2.1
            have m4 : w.cell? ⟨G, k * 7 + 4, none⟩ = some (.bool rg) := by rw [gb_cell h.base (block_lt_of_cell (HXY.out.1.2.2.2.2.1)) (by simp)]; exact HXY.out.1.2.2.2.2.1
            have m5 : w.cell? ⟨G, k * 7 + 5, none⟩ = some (.slice ra2 rn2 rd2) := by rw [gb_cell h.base (block_lt_of_cell (HXY.out.1.2.2.2.2.2.1)) (by simp)]; exact HXY.out.1.2.2.2.2.2.1
            have m6 : w.cell? ⟨G, k * 7 + 6, none⟩ = some (.slice ra3 rn3 rd3) := by rw [gb_cell h.base (block_lt_of_cell (HXY.out.1.2.2.2.2.2.2)) (by simp)]; exact HXY.out.1.2.2.2.2.2.2
            refine ⟨vV rs rcl rsq ra1 rn1 rd1 rg ra2 rn2 rd2 ra3 rn3 rd3, w, wants_some (d := 27) rfl rfl (by rw [h.size]; show 27 < 58; decide) e27, ?_, gb_refl _ _, rfl⟩
            clear h
            simp only [execOp, Act.eval, e30]
            go_simp
          refine ⟨Fg.vT rfl (by decide) fun ac w h => ?_, ?_⟩
          · have e27 : ac.tmps.getD 27 undef = Value.bool true := h.dep 27 (by kernel_rfl)
            have e1 : ac.tmps.getD 1 undef = Value.slice (some ⟨pb, po, none⟩) n cap := h.rest 1 (by kernel_rfl)
            exact ⟨_, w, wants_some (d := 27) rfl rfl (by rw [h.size]; show 27 < 58; decide) e27, Fg.run_move rfl e1, gb_refl _ _, rfl⟩
          refine ⟨Fg.vT rfl (by decide) fun ac w h => ?_, ?_⟩
          · have e27 : ac.tmps.getD 27 undef = Value.bool true := h.dep 27 (by kernel_rfl)
            have e6 : ac.tmps.getD 6 undef = Value.int .i64 k := h.rest 6 (by kernel_rfl)
            exact ⟨_, w, wants_some (d := 27) rfl rfl (by rw [h.size]; show 27 < 58; decide) e27, Fg.run_move rfl e6, gb_refl _ _, rfl⟩
          refine ⟨Fg.vT rfl (by decide) fun ac w h => ?_, ?_⟩
          · have e27 : ac.tmps.getD 27 undef = Value.bool true := h.dep 27 (by kernel_rfl)
            have e32 : ac.tmps.getD 32 undef = Value.slice (some ⟨pb, po, none⟩) n cap := h.dep 32 (by kernel_rfl)
            have e33 : ac.tmps.getD 33 undef = Value.int .i64 k := h.dep 33 (by kernel_rfl)
            have i0 : (k : Int) < (n : Int) := HCL.out.2.1
            refine ⟨.pointer (some ⟨pb, po + k * 7, none⟩), w, wants_some (d := 27) rfl rfl (by rw [h.size]; show 27 < 58; decide) e27, ?_, gb_refl _ _, rfl⟩
            clear h
            simp only [execOp, Act.eval, e32, e33]
            go_simp
          refine ⟨Fg.vT rfl (by decide) fun ac w h => ?_, ?_⟩
          · have e27 : ac.tmps.getD 27 undef = Value.bool true := h.dep 27 (by kernel_rfl)
            have e34 : ac.tmps.getD 34 undef = Value.pointer (some ⟨pb, po + k * 7, none⟩) := h.dep 34 (by kernel_rfl)
            have m0 : w.cell? ⟨pb, po + k * 7, none⟩ = some (.string rs') := by rw [gb_cell h.base (block_lt_of_cell (HXY.out.2.1)) (by simp)]; exact HXY.out.2.1
            have m1 : w.cell? ⟨pb, po + k * 7 + 1, none⟩ = some (iV rcl') := by rw [gb_cell h.base (block_lt_of_cell (HXY.out.2.2.1)) (by simp)]; exact HXY.out.2.2.1
            have m2 : w.cell? ⟨pb, po + k * 7 + 2, none⟩ = some (iV rsq') := by rw [gb_cell h.base (block_lt_of_cell (HXY.out.2.2.2.1)) (by simp)]; exact HXY.out.2.2.2.1
            have m3 : w.cell? ⟨pb, po + k * 7 + 3, none⟩ = some (.slice ra1' rn1' rd1') := by rw [gb_cell h.base (block_lt_of_cell (HXY.out.2.2.2.2.1)) (by simp)]; exact HXY.out.2.2.2.2.1
            have m4 : w.cell? ⟨pb, po + k * 7 + 4, none⟩ = some (.bool rg') := by rw [gb_cell h.base (block_lt_of_cell (HXY.out.2.2.2.2.2.1)) (by simp)]; exact HXY.out.2.2.2.2.2.1
            have m5 : w.cell? ⟨pb, po + k * 7 + 5, none⟩ = some (.slice ra2' rn2' rd2') := by rw [gb_cell h.base (block_lt_of_cell (HXY.out.2.2.2.2.2.2.1)) (by simp)]; exact HXY.out.2.2.2.2.2.2.1
            have m6 : w.cell? ⟨pb, po + k * 7 + 6, none⟩ = some (.slice ra3' rn3' rd3') := by rw [gb_cell h.base (block_lt_of_cell (HXY.out.2.2.2.2.2.2.2)) (by simp)]; exact HXY.out.2.2.2.2.2.2.2
            refine ⟨vV rs' rcl' rsq' ra1' rn1' rd1' rg' ra2' rn2' rd2' ra3' rn3' rd3', w, wants_some (d := 27) rfl rfl (by rw [h.size]; show 27 < 58; decide) e27, ?_, gb_refl _ _, rfl⟩
            clear h
            simp only [execOp, Act.eval, e34]
            go_simp
          refine ⟨Fg.cT rfl (by decide) fun ac w h => ?_, ?_⟩
          · have e27 : ac.tmps.getD 27 undef = Value.bool true := h.dep 27 (by kernel_rfl)
            have e31 : ac.tmps.getD 31 undef = vV rs rcl rsq ra1 rn1 rd1 rg ra2 rn2 rd2 ra3 rn3 rd3 := h.dep 31 (by kernel_rfl)
            have e35 : ac.tmps.getD 35 undef = vV rs' rcl' rsq' ra1' rn1' rd1' rg' ra2' rn2' rd2' ra3' rn3' rd3' := h.dep 35 (by kernel_rfl)
            refine ⟨80, #[vV rs rcl rsq ra1 rn1 rd1 rg ra2 rn2 rd2 ra3 rn3 rd3, vV rs' rcl' rsq' ra1' rn1' rd1' rg' ra2' rn2' rd2' ra3' rn3' rd3'], wants_some (d := 27) rfl rfl (by rw [h.size]; show 27 < 58; decide) e27, Fg.run_call rfl rfl (by simp only [List.map_toArray, List.map_cons, List.map_nil, Act.eval, e31, e35]) (Fg.run_enter Tryz.func80 (by kernel_rfl) (by kernel_rfl)), ?_⟩
            exact (HK.out w (gb_trans HG2.out h.base)).mono fun _ _ ⟨he, hg⟩ => ⟨_, he, hg, rfl⟩
          refine ⟨Fg.vT rfl (by decide) fun ac w h => ?_, ?_⟩
          · have e27 : ac.tmps.getD 27 undef = Value.bool true := h.dep 27 (by kernel_rfl)
            have e36 : ac.tmps.getD 36 undef = Value.bool true := h.dep 36 (by kernel_rfl)
            refine ⟨Value.bool false, w, wants_some (d := 27) rfl rfl (by rw [h.size]; show 27 < 58; decide) e27, ?_, gb_refl _ _, rfl⟩
            clear h
            simp only [execOp, Act.eval, e36]
            go_simp
          refine ⟨Fg.vT rfl (by decide) fun ac w h => ?_, ?_⟩
          · have e27 : ac.tmps.getD 27 undef = Value.bool true := h.dep 27 (by kernel_rfl)
            have e37 : ac.tmps.getD 37 undef = Value.bool false := h.dep 37 (by kernel_rfl)
            refine ⟨Value.bool false, w, wants_none rfl, ?_, gb_refl _ _, rfl⟩
            clear h
            simp only [execOp, Act.eval, e27, e37]
            go_simp
          refine ⟨Fg.vT rfl (by decide) fun ac w h => ?_, ?_⟩
          · have e38 : ac.tmps.getD 38 undef = Value.bool false := h.dep 38 (by kernel_rfl)
            exact ⟨_, w, wants_none rfl, Fg.run_move rfl e38, gb_refl _ _, rfl⟩
          refine ⟨Fg.vT rfl (by decide) fun ac w h => ?_, ?_⟩
          · have e39 : ac.tmps.getD 39 undef = Value.bool false := h.dep 39 (by kernel_rfl)
            have e6 : ac.tmps.getD 6 undef = Value.int .i64 k := h.rest 6 (by kernel_rfl)
            exact ⟨_, w, wants_some (d := 39) rfl rfl (by rw [h.size]; show 39 < 58; decide) e39, Fg.run_move rfl e6, gb_refl _ _, rfl⟩
          refine ⟨Fg.vT rfl (by decide) fun ac w h => ?_, ?_⟩
          · have e39 : ac.tmps.getD 39 undef = Value.bool false := h.dep 39 (by kernel_rfl)
            have e1 : ac.tmps.getD 1 undef = Value.slice (some ⟨pb, po, none⟩) n cap := h.rest 1 (by kernel_rfl)
            exact ⟨_, w, wants_some (d := 39) rfl rfl (by rw [h.size]; show 39 < 58; decide) e39, Fg.run_move rfl e1, gb_refl _ _, rfl⟩
          refine ⟨Fg.vT rfl (by decide) fun ac w h => ?_, ?_⟩
          · have e39 : ac.tmps.getD 39 undef = Value.bool false := h.dep 39 (by kernel_rfl)
            have e41 : ac.tmps.getD 41 undef = Value.slice (some ⟨pb, po, none⟩) n cap := h.dep 41 (by kernel_rfl)
            have x41 : ac.tmps[41]?.getD undef = Value.slice (some ⟨pb, po, none⟩) n cap := by simpa using e41
            refine ⟨.int .i64 n, w, wants_some (d := 39) rfl rfl (by rw [h.size]; show 39 < 58; decide) e39, ?_, gb_refl _ _, rfl⟩
            clear h e41
            go_simp
          refine ⟨Fg.vT rfl (by decide) fun ac w h => ?_, ?_⟩
          · have e39 : ac.tmps.getD 39 undef = Value.bool false := h.dep 39 (by kernel_rfl)
            have e40 : ac.tmps.getD 40 undef = Value.int .i64 k := h.dep 40 (by kernel_rfl)
            have e42 : ac.tmps.getD 42 undef = Value.int .i64 n := h.dep 42 (by kernel_rfl)
            have i1 := HCL.out.2.2.1
            have i2 := HCL.out.2.2.2.1
            refine ⟨.bool false, w, wants_some (d := 39) rfl rfl (by rw [h.size]; show 39 < 58; decide) e39, ?_, gb_refl _ _, rfl⟩
            clear h
            simp only [execOp, Act.eval, e40, e42]
            go_simp
          refine ⟨Fg.vT rfl (by decide) fun ac w h => ?_, ?_⟩
          · have e39 : ac.tmps.getD 39 undef = Value.bool false := h.dep 39 (by kernel_rfl)
            have e43 : ac.tmps.getD 43 undef = Value.bool false := h.dep 43 (by kernel_rfl)
            exact ⟨_, w, wants_some (d := 39) rfl rfl (by rw [h.size]; show 39 < 58; decide) e39, Fg.run_move rfl e43, gb_refl _ _, rfl⟩
          refine ⟨Fg.sT rfl (by decide) (fun _ => rfl) fun ac w h => ?_, ?_⟩
          · have e44 : ac.tmps.getD 44 undef = Value.bool false := h.dep 44 (by kernel_rfl)
            exact not_wants (d := 44) rfl rfl (by rw [h.size]; show 44 < 58; decide) e44 (by decide)
          refine ⟨Fg.sT rfl (by decide) (fun _ => rfl) fun ac w h => ?_, ?_⟩
          · have e44 : ac.tmps.getD 44 undef = Value.bool false := h.dep 44 (by kernel_rfl)
            exact not_wants (d := 44) rfl rfl (by rw [h.size]; show 44 < 58; decide) e44 (by decide)
          refine ⟨Fg.sT rfl (by decide) (fun _ => rfl) fun ac w h => ?_, ?_⟩
          · have e44 : ac.tmps.getD 44 undef = Value.bool false := h.dep 44 (by kernel_rfl)
            exact not_wants (d := 44) rfl rfl (by rw [h.size]; show 44 < 58; decide) e44 (by decide)
          refine ⟨Fg.sT rfl (by decide) (fun _ => rfl) fun ac w h => ?_, ?_⟩
          · have e44 : ac.tmps.getD 44 undef = Value.bool false := h.dep 44 (by kernel_rfl)
            exact not_wants (d := 44) rfl rfl (by rw [h.size]; show 44 < 58; decide) e44 (by decide)
          refine ⟨Fg.sT rfl (by decide) (fun _ => rfl) fun ac w h => ?_, ?_⟩
          · have e44 : ac.tmps.getD 44 undef = Value.bool false := h.dep 44 (by kernel_rfl)
            exact not_wants (d := 44) rfl rfl (by rw [h.size]; show 44 < 58; decide) e44 (by decide)
          refine ⟨Fg.sT rfl (by decide) (fun _ => rfl) fun ac w h => ?_, ?_⟩
          · have e44 : ac.tmps.getD 44 undef = Value.bool false := h.dep 44 (by kernel_rfl)
            exact not_wants (d := 44) rfl rfl (by rw [h.size]; show 44 < 58; decide) e44 (by decide)
          refine ⟨Fg.sT rfl (by decide) (fun _ => rfl) fun ac w h => ?_, ?_⟩
          · have e44 : ac.tmps.getD 44 undef = Value.bool false := h.dep 44 (by kernel_rfl)
            exact not_wants (d := 44) rfl rfl (by rw [h.size]; show 44 < 58; decide) e44 (by decide)
          refine ⟨Fg.sT rfl (by decide) (fun _ => rfl) fun ac w h => ?_, ?_⟩
          · have e44 : ac.tmps.getD 44 undef = Value.bool false := h.dep 44 (by kernel_rfl)
            exact not_wants (d := 44) rfl rfl (by rw [h.size]; show 44 < 58; decide) e44 (by decide)
          refine ⟨Fg.sT rfl (by decide) (fun _ => rfl) fun ac w h => ?_, ?_⟩
          · have e44 : ac.tmps.getD 44 undef = Value.bool false := h.dep 44 (by kernel_rfl)
            exact not_wants (d := 44) rfl rfl (by rw [h.size]; show 44 < 58; decide) e44 (by decide)
          refine ⟨Fg.sT rfl (by decide) (fun _ => rfl) fun ac w h => ?_, ?_⟩
          · have e44 : ac.tmps.getD 44 undef = Value.bool false := h.dep 44 (by kernel_rfl)
            exact not_wants (d := 44) rfl rfl (by rw [h.size]; show 44 < 58; decide) e44 (by decide)
          refine ⟨Fg.sT rfl (by decide) (fun _ => rfl) fun ac w h => ?_, ?_⟩
          · have e44 : ac.tmps.getD 44 undef = Value.bool false := h.dep 44 (by kernel_rfl)
            exact not_wants (d := 44) rfl rfl (by rw [h.size]; show 44 < 58; decide) e44 (by decide)
          refine ⟨Fg.vT rfl (by decide) fun ac w h => ?_, ?_⟩
          · have e39 : ac.tmps.getD 39 undef = Value.bool false := h.dep 39 (by kernel_rfl)
            have e44 : ac.tmps.getD 44 undef = Value.bool false := h.dep 44 (by kernel_rfl)
            refine ⟨Value.bool false, w, wants_some (d := 39) rfl rfl (by rw [h.size]; show 39 < 58; decide) e39, ?_, gb_refl _ _, rfl⟩
            clear h
            simp only [execOp, Act.eval, e44]
            go_simp
          refine ⟨Fg.vT rfl (by decide) fun ac w h => ?_, ?_⟩
          · have e39 : ac.tmps.getD 39 undef = Value.bool false := h.dep 39 (by kernel_rfl)
            have e56 : ac.tmps.getD 56 undef = Value.bool false := h.dep 56 (by kernel_rfl)
            refine ⟨Value.bool false, w, wants_none rfl, ?_, gb_refl _ _, rfl⟩
            clear h
            simp only [execOp, Act.eval, e39, e56]
            go_simp
          trivial
        · intro aq wq hB hsz hdf hrest hslots hpt
          obtain ⟨u23, e23⟩ : ∃ u, aq.tmps.getD 23 undef = u := ⟨_, rfl⟩
          obtain ⟨u24, e24⟩ : ∃ u, aq.tmps.getD 24 undef = u := ⟨_, rfl⟩
          obtain ⟨u25, e25⟩ : ∃ u, aq.tmps.getD 25 undef = u := ⟨_, rfl⟩
          obtain ⟨u26, e26⟩ : ∃ u, aq.tmps.getD 26 undef = u := ⟨_, rfl⟩
          obtain ⟨u27, e27⟩ : ∃ u, aq.tmps.getD 27 undef = u := ⟨_, rfl⟩
          obtain ⟨u28, e28⟩ : ∃ u, aq.tmps.getD 28 undef = u := ⟨_, rfl⟩
          obtain ⟨u29, e29⟩ : ∃ u, aq.tmps.getD 29 undef = u := ⟨_, rfl⟩
          obtain ⟨u30, e30⟩ : ∃ u, aq.tmps.getD 30 undef = u := ⟨_, rfl⟩
          obtain ⟨u31, e31⟩ : ∃ u, aq.tmps.getD 31 undef = u := ⟨_, rfl⟩
          obtain ⟨u32, e32⟩ : ∃ u, aq.tmps.getD 32 undef = u := ⟨_, rfl⟩
          obtain ⟨u33, e33⟩ : ∃ u, aq.tmps.getD 33 undef = u := ⟨_, rfl⟩
          obtain ⟨u34, e34⟩ : ∃ u, aq.tmps.getD 34 undef = u := ⟨_, rfl⟩
          obtain ⟨u35, e35⟩ : ∃ u, aq.tmps.getD 35 undef = u := ⟨_, rfl⟩
          obtain ⟨u36, e36⟩ : ∃ u, aq.tmps.getD 36 undef = u := ⟨_, rfl⟩
          obtain ⟨u37, e37⟩ : ∃ u, aq.tmps.getD 37 undef = u := ⟨_, rfl⟩
          obtain ⟨u38, e38⟩ : ∃ u, aq.tmps.getD 38 undef = u := ⟨_, rfl⟩
          obtain ⟨u39, e39⟩ : ∃ u, aq.tmps.getD 39 undef = u := ⟨_, rfl⟩
          obtain ⟨u40, e40⟩ : ∃ u, aq.tmps.getD 40 undef = u := ⟨_, rfl⟩
          obtain ⟨u41, e41⟩ : ∃ u, aq.tmps.getD 41 undef = u := ⟨_, rfl⟩
          obtain ⟨u42, e42⟩ : ∃ u, aq.tmps.getD 42 undef = u := ⟨_, rfl⟩
          obtain ⟨u43, e43⟩ : ∃ u, aq.tmps.getD 43 undef = u := ⟨_, rfl⟩
          obtain ⟨u44, e44⟩ : ∃ u, aq.tmps.getD 44 undef = u := ⟨_, rfl⟩
          obtain ⟨u45, e45⟩ : ∃ u, aq.tmps.getD 45 undef = u := ⟨_, rfl⟩
          obtain ⟨u46, e46⟩ : ∃ u, aq.tmps.getD 46 undef = u := ⟨_, rfl⟩
          obtain ⟨u47, e47⟩ : ∃ u, aq.tmps.getD 47 undef = u := ⟨_, rfl⟩
          obtain ⟨u48, e48⟩ : ∃ u, aq.tmps.getD 48 undef = u := ⟨_, rfl⟩
          obtain ⟨u49, e49⟩ : ∃ u, aq.tmps.getD 49 undef = u := ⟨_, rfl⟩
          obtain ⟨u50, e50⟩ : ∃ u, aq.tmps.getD 50 undef = u := ⟨_, rfl⟩
          obtain ⟨u51, e51⟩ : ∃ u, aq.tmps.getD 51 undef = u := ⟨_, rfl⟩
          obtain ⟨u52, e52⟩ : ∃ u, aq.tmps.getD 52 undef = u := ⟨_, rfl⟩
          obtain ⟨u53, e53⟩ : ∃ u, aq.tmps.getD 53 undef = u := ⟨_, rfl⟩
          obtain ⟨u54, e54⟩ : ∃ u, aq.tmps.getD 54 undef = u := ⟨_, rfl⟩
          obtain ⟨u55, e55⟩ : ∃ u, aq.tmps.getD 55 undef = u := ⟨_, rfl⟩
          obtain ⟨u56, e56⟩ : ∃ u, aq.tmps.getD 56 undef = u := ⟨_, rfl⟩
          have e57 : aq.tmps.getD 57 undef = Value.bool false := hslots 57 (by kernel_rfl)
          obtain rfl := Fg.frame_is (a := aq) (vs := [Value.slice (some ⟨G, 0, none⟩) n (n + 12), Value.slice (some ⟨pb, po, none⟩) n cap, undef, undef, u4, Value.slice (some ⟨G, 0, none⟩) M (n + 12), Value.int .i64 k, Value.slice (some ⟨G, 0, none⟩) n (n + 12), Value.int .i64 n, Value.slice (some ⟨pb, po, none⟩) n cap, Value.int .i64 n, Value.bool false, Value.slice (some ⟨G, 0, none⟩) n (n + 12), Value.slice (some ⟨pb, po, none⟩) n cap, Value.int .i64 n, Value.int .i64 ((n : Int) + 12), Value.slice (some ⟨G, 0, none⟩) M (n + 12), Value.int .i64 k, Value.slice (some ⟨G, 0, none⟩) M (n + 12), Value.int .i64 M, Value.bool true, u21, u22, u23, u24, u25, u26, u27, u28, u29, u30, u31, u32, u33, u34, u35, u36, u37, u38, u39, u40, u41, u42, u43, u44, u45, u46, u47, u48, u49, u50, u51, u52, u53, u54, u55, u56, Value.bool false]) hsz ⟨hrest 0 (by kernel_rfl), hrest 1 (by kernel_rfl), hrest 2 (by kernel_rfl), hrest 3 (by kernel_rfl), hrest 4 (by kernel_rfl), hrest 5 (by kernel_rfl), hrest 6 (by kernel_rfl), hrest 7 (by kernel_rfl), hrest 8 (by kernel_rfl), hrest 9 (by kernel_rfl), hrest 10 (by kernel_rfl), hrest 11 (by kernel_rfl), hrest 12 (by kernel_rfl), hrest 13 (by kernel_rfl), hrest 14 (by kernel_rfl), hrest 15 (by kernel_rfl), hrest 16 (by kernel_rfl), hrest 17 (by kernel_rfl), hrest 18 (by kernel_rfl), hrest 19 (by kernel_rfl), hrest 20 (by kernel_rfl), hrest 21 (by kernel_rfl), hrest 22 (by kernel_rfl), e23, e24, e25, e26, e27, e28, e29, e30, e31, e32, e33, e34, e35, e36, e37, e38, e39, e40, e41, e42, e43, e44, e45, e46, e47, e48, e49, e50, e51, e52, e53, e54, e55, e56, e57, trivial⟩ hdf
          clear hsz hdf hrest hslots hpt e23 e24 e25 e26 e27 e28 e29 e30 e31 e32 e33 e34 e35 e36 e37 e38 e39 e40 e41 e42 e43 e44 e45 e46 e47 e48 e49 e50 e51 e52 e53 e54 e55 e56 e57
          have HGq := Lib.hid (gb_trans HG2.out hB)
          clear hB HG2 HXY HK HCL
          refine wpList_nil ?_
          go_wp2
          exact ⟨⟨k + 1, by omega, rfl, HGq.out⟩, by show M - ((k : Int) + 1).toNat < M - (k : Int).toNat; omega⟩
      · obtain ⟨j, hj⟩ : ∃ j, k = n + j := ⟨k - n, by omega⟩
        have hM := HM.out
        have HCL : Hid (decide ((k : Int) < (n : Int)) = false ∧ ¬ (k : Int) < (n : Int) ∧ decide ((n : Int) ≤ (k : Int)) = true ∧ (n : Int) ≤ (k : Int) ∧ (k : Int) < (M : Int) ∧ IntKind.i64.wrap ((k : Int) - (n : Int)) = (j : Int)) := ⟨decide_eq_false (by omega), by omega, decide_eq_true (by omega), by omega, hki, by rw [IntKind.wrap_i64]; omega⟩
        have hj12 : j < 12 := by omega
        have hz := HCM.out j hj12
        rw [← hj] at hz
        have hmk := fun w' => markRec_any j w' (by omega)
        have hsm := fun w' (hg : w.grownBy w' none) => sameRec_any (mkE j).2 (mkE j).2 w'.heap.size w'.heap.size w' (mkE j).1 (mkE j).1 (mkE_at w' _ j (Nat.le_refl _)) (mkE_at w' _ j (Nat.le_refl _))
        rw [(sameB_iff _ _).2 rfl] at hsm
        obtain ⟨z, hze⟩ : ∃ z, z = mkE j := ⟨_, rfl⟩
        simp only [← hze] at hz hmk hsm
        clear hze hM hlt hj
        obtain ⟨⟨rs'', ra1'', rn1'', rd1'', ra2'', rn2'', rd2'', ra3'', rn3'', rd3''⟩, ⟨rkey'', rcl'', rsq'', rcx'', rg'', rval'', rsig''⟩⟩ := z
        obtain ⟨w2, hw2⟩ : ∃ w2, w2 = wr := ⟨_, rfl⟩
        have HG2 := Lib.hid HI.out
        have HXZ := Lib.hid (cells_of (hz.stay HI.out))
        rw [← hw2] at HG2 HXZ
        have HMK : Hid (∀ w', Calls Tryz.prog 69 #[.int .i64 1, .int .i64 j] w' fun e w'' => e = .returned (vV rs'' rcl'' rsq'' ra1'' rn1'' rd1'' rg'' ra2'' rn2'' rd2'' ra3'' rn3'' rd3'') ∧ w'.grownBy w'' none) := hmk
        have HSM : Hid (∀ w', w.grownBy w' none → Calls Tryz.prog 79 #[vV rs'' rcl'' rsq'' ra1'' rn1'' rd1'' rg'' ra2'' rn2'' rd2'' ra3'' rn3'' rd3'', vV rs'' rcl'' rsq'' ra1'' rn1'' rd1'' rg'' ra2'' rn2'' rd2'' ra3'' rn3'' rd3''] w' fun e w'' => e = .returned (.bool true) ∧ w'.grownBy w'' none) := hsm
        clear hz hmk hsm HI
        go_wp2_with fail
        rw [← hw2]
        clear hw2 hki
        refine Fg.region_t [] [.any, .any, .any, .any, .any, .any, .any, .any, .any, .any, .any, .any, .any, .any, .any, .any, .any, .any, .any, .any, .any, .any, .any, .val (Value.int .i64 k), .val (Value.slice a n cap), .val (Value.int .i64 n), .val (Value.bool false), .val (Value.bool false), .val undef, .val undef, .val undef, .val undef, .val undef, .val undef, .val undef, .val undef, .val undef, .val undef, .val (Value.bool false), .val (Value.bool false), .val (Value.int .i64 k), .val (Value.slice a n cap), .val (Value.int .i64 n), .val (Value.bool true), .val (Value.bool true), .val (Value.slice (some ⟨G, 0, none⟩) M (n + 12)), .val (Value.int .i64 k), .val (Value.pointer (some ⟨G, k * 7, none⟩)), .val (vV rs'' rcl'' rsq'' ra1'' rn1'' rd1'' rg'' ra2'' rn2'' rd2'' ra3'' rn3'' rd3''), .val (Value.int .i64 k), .val (Value.slice a n cap), .val (Value.int .i64 n), .val (Value.int .i64 j), .val (vV rs'' rcl'' rsq'' ra1'' rn1'' rd1'' rg'' ra2'' rn2'' rd2'' ra3'' rn3'' rd3''), .val (Value.bool true), .val (Value.bool false), .val (Value.bool false), .val (Value.bool false)] w2 35 (gb_refl _ _) (by kernel_rfl) (by kernel_rfl) (by kernel_rfl) (by kernel_rfl) (by decide) (by kernel_rfl) ?_ ?_
        · refine ⟨Fg.vT rfl (by decide) fun ac w h => ?_, ?_⟩
          · have e6 : ac.tmps.getD 6 undef = Value.int .i64 k := h.rest 6 (by kernel_rfl)
            exact ⟨_, w, wants_none rfl, Fg.run_move rfl e6, gb_refl _ _, rfl⟩
          refine ⟨Fg.vT rfl (by decide) fun ac w h => ?_, ?_⟩
          · have e1 : ac.tmps.getD 1 undef = Value.slice a n cap := h.rest 1 (by kernel_rfl)
            exact ⟨_, w, wants_none rfl, Fg.run_move rfl e1, gb_refl _ _, rfl⟩
          refine ⟨Fg.vT rfl (by decide) fun ac w h => ?_, ?_⟩
          · have e24 : ac.tmps.getD 24 undef = Value.slice a n cap := h.dep 24 (by kernel_rfl)
            have x24 : ac.tmps[24]?.getD undef = Value.slice a n cap := by simpa using e24
            refine ⟨.int .i64 n, w, wants_none rfl, ?_, gb_refl _ _, rfl⟩
            clear h e24
            go_simp
          refine ⟨Fg.vT rfl (by decide) fun ac w h => ?_, ?_⟩
          · have e23 : ac.tmps.getD 23 undef = Value.int .i64 k := h.dep 23 (by kernel_rfl)
            have e25 : ac.tmps.getD 25 undef = Value.int .i64 n := h.dep 25 (by kernel_rfl)
            have i1 := HCL.out.1
            have i2 := HCL.out.2.1
            have i3 : n ≤ k := by omega
            refine ⟨.bool false, w, wants_none rfl, ?_, gb_refl _ _, rfl⟩
            clear h
            simp only [execOp, Act.eval, e23, e25]
            go_simp
          refine ⟨Fg.vT rfl (by decide) fun ac w h => ?_, ?_⟩
          · have e26 : ac.tmps.getD 26 undef = Value.bool false := h.dep 26 (by kernel_rfl)
            exact ⟨_, w, wants_none rfl, Fg.run_move rfl e26, gb_refl _ _, rfl⟩
          refine ⟨Fg.sT rfl (by decide) (fun _ => rfl) fun ac w h => ?_, ?_⟩
          · have e27 : ac.tmps.getD 27 undef = Value.bool false := h.dep 27 (by kernel_rfl)
            exact not_wants (d := 27) rfl rfl (by rw [h.size]; show 27 < 58; decide) e27 (by decide)
          refine ⟨Fg.sT rfl (by decide) (fun _ => rfl) fun ac w h => ?_, ?_⟩
          · have e27 : ac.tmps.getD 27 undef = Value.bool false := h.dep 27 (by kernel_rfl)
            exact not_wants (d := 27) rfl rfl (by rw [h.size]; show 27 < 58; decide) e27 (by decide)
          refine ⟨Fg.sT rfl (by decide) (fun _ => rfl) fun ac w h => ?_, ?_⟩
          · have e27 : ac.tmps.getD 27 undef = Value.bool false := h.dep 27 (by kernel_rfl)
            exact not_wants (d := 27) rfl rfl (by rw [h.size]; show 27 < 58; decide) e27 (by decide)
          refine ⟨Fg.sT rfl (by decide) (fun _ => rfl) fun ac w h => ?_, ?_⟩
          · have e27 : ac.tmps.getD 27 undef = Value.bool false := h.dep 27 (by kernel_rfl)
            exact not_wants (d := 27) rfl rfl (by rw [h.size]; show 27 < 58; decide) e27 (by decide)
          refine ⟨Fg.sT rfl (by decide) (fun _ => rfl) fun ac w h => ?_, ?_⟩
          · have e27 : ac.tmps.getD 27 undef = Value.bool false := h.dep 27 (by kernel_rfl)
            exact not_wants (d := 27) rfl rfl (by rw [h.size]; show 27 < 58; decide) e27 (by decide)
          refine ⟨Fg.sT rfl (by decide) (fun _ => rfl) fun ac w h => ?_, ?_⟩
          · have e27 : ac.tmps.getD 27 undef = Value.bool false := h.dep 27 (by kernel_rfl)
            exact not_wants (d := 27) rfl rfl (by rw [h.size]; show 27 < 58; decide) e27 (by decide)
          refine ⟨Fg.sT rfl (by decide) (fun _ => rfl) fun ac w h => ?_, ?_⟩
          · have e27 : ac.tmps.getD 27 undef = Value.bool false := h.dep 27 (by kernel_rfl)
            exact not_wants (d := 27) rfl rfl (by rw [h.size]; show 27 < 58; decide) e27 (by decide)
          refine ⟨Fg.sT rfl (by decide) (fun _ => rfl) fun ac w h => ?_, ?_⟩
          · have e27 : ac.tmps.getD 27 undef = Value.bool false := h.dep 27 (by kernel_rfl)
            exact not_wants (d := 27) rfl rfl (by rw [h.size]; show 27 < 58; decide) e27 (by decide)
          refine ⟨Fg.sT rfl (by decide) (fun _ => rfl) fun ac w h => ?_, ?_⟩
          · have e27 : ac.tmps.getD 27 undef = Value.bool false := h.dep 27 (by kernel_rfl)
            exact not_wants (d := 27) rfl rfl (by rw [h.size]; show 27 < 58; decide) e27 (by decide)
          refine ⟨Fg.sT rfl (by decide) (fun _ => rfl) fun ac w h => ?_, ?_⟩
          · have e27 : ac.tmps.getD 27 undef = Value.bool false := h.dep 27 (by kernel_rfl)
            exact not_wants (d := 27) rfl rfl (by rw [h.size]; show 27 < 58; decide) e27 (by decide)
          refine ⟨Fg.vT rfl (by decide) fun ac w h => ?_, ?_⟩
          · have e27 : ac.tmps.getD 27 undef = Value.bool false := h.dep 27 (by kernel_rfl)
            refine ⟨Value.bool false, w, wants_none rfl, ?_, gb_refl _ _, rfl⟩
            clear h
            simp only [execOp, Act.eval, e27]
            go_simp
          refine ⟨Fg.vT rfl (by decide) fun ac w h => ?_, ?_⟩
          · have e38 : ac.tmps.getD 38 undef = Value.bool false := h.dep 38 (by kernel_rfl)
            exact ⟨_, w, wants_none rfl, Fg.run_move rfl e38, gb_refl _ _, rfl⟩
          refine ⟨Fg.vT rfl (by decide) fun ac w h => ?_, ?_⟩
          · have e39 : ac.tmps.getD 39 undef = Value.bool false := h.dep 39 (by kernel_rfl)
            have e6 : ac.tmps.getD 6 undef = Value.int .i64 k := h.rest 6 (by kernel_rfl)
            exact ⟨_, w, wants_some (d := 39) rfl rfl (by rw [h.size]; show 39 < 58; decide) e39, Fg.run_move rfl e6, gb_refl _ _, rfl⟩
          refine ⟨Fg.vT rfl (by decide) fun ac w h => ?_, ?_⟩
          · have e39 : ac.tmps.getD 39 undef = Value.bool false := h.dep 39 (by kernel_rfl)
            have e1 : ac.tmps.getD 1 undef = Value.slice a n cap := h.rest 1 (by kernel_rfl)
            exact ⟨_, w, wants_some (d := 39) rfl rfl (by rw [h.size]; show 39 < 58; decide) e39, Fg.run_move rfl e1, gb_refl _ _, rfl⟩
          refine ⟨Fg.vT rfl (by decide) fun ac w h => ?_, ?_⟩
          · have e39 : ac.tmps.getD 39 undef = Value.bool false := h.dep 39 (by kernel_rfl)
            have e41 : ac.tmps.getD 41 undef = Value.slice a n cap := h.dep 41 (by kernel_rfl)
            have x41 : ac.tmps[41]?.getD undef = Value.slice a n cap := by simpa using e41
            refine ⟨.int .i64 n, w, wants_some (d := 39) rfl rfl (by rw [h.size]; show 39 < 58; decide) e39, ?_, gb_refl _ _, rfl⟩
            clear h e41
            go_simp
          refine ⟨Fg.vT rfl (by decide) fun ac w h => ?_, ?_⟩
          · have e39 : ac.tmps.getD 39 undef = Value.bool false := h.dep 39 (by kernel_rfl)
            have e40 : ac.tmps.getD 40 undef = Value.int .i64 k := h.dep 40 (by kernel_rfl)
            have e42 : ac.tmps.getD 42 undef = Value.int .i64 n := h.dep 42 (by kernel_rfl)
            have i1 := HCL.out.2.2.1
            have i2 := HCL.out.2.2.2.1
            have i3 : n ≤ k := by omega
            refine ⟨.bool true, w, wants_some (d := 39) rfl rfl (by rw [h.size]; show 39 < 58; decide) e39, ?_, gb_refl _ _, rfl⟩
            clear h
            simp only [execOp, Act.eval, e40, e42]
            go_simp
          refine ⟨Fg.vT rfl (by decide) fun ac w h => ?_, ?_⟩
          · have e39 : ac.tmps.getD 39 undef = Value.bool false := h.dep 39 (by kernel_rfl)
            have e43 : ac.tmps.getD 43 undef = Value.bool true := h.dep 43 (by kernel_rfl)
            exact ⟨_, w, wants_some (d := 39) rfl rfl (by rw [h.size]; show 39 < 58; decide) e39, Fg.run_move rfl e43, gb_refl _ _, rfl⟩
          refine ⟨Fg.vT rfl (by decide) fun ac w h => ?_, ?_⟩
          · have e44 : ac.tmps.getD 44 undef = Value.bool true := h.dep 44 (by kernel_rfl)
            have e5 : ac.tmps.getD 5 undef = Value.slice (some ⟨G, 0, none⟩) M (n + 12) := h.rest 5 (by kernel_rfl)
            exact ⟨_, w, wants_some (d := 44) rfl rfl (by rw [h.size]; show 44 < 58; decide) e44, Fg.run_move rfl e5, gb_refl _ _, rfl⟩
          refine ⟨Fg.vT rfl (by decide) fun ac w h => ?_, ?_⟩
          · have e44 : ac.tmps.getD 44 undef = Value.bool true := h.dep 44 (by kernel_rfl)
            have e6 : ac.tmps.getD 6 undef = Value.int .i64 k := h.rest 6 (by kernel_rfl)
            exact ⟨_, w, wants_some (d := 44) rfl rfl (by rw [h.size]; show 44 < 58; decide) e44, Fg.run_move rfl e6, gb_refl _ _, rfl⟩
          refine ⟨Fg.vT rfl (by decide) fun ac w h => ?_, ?_⟩
          · have e44 : ac.tmps.getD 44 undef = Value.bool true := h.dep 44 (by kernel_rfl)
            have e45 : ac.tmps.getD 45 undef = Value.slice (some ⟨G, 0, none⟩) M (n + 12) := h.dep 45 (by kernel_rfl)
            have e46 : ac.tmps.getD 46 undef = Value.int .i64 k := h.dep 46 (by kernel_rfl)
            have i0 : (k : Int) < (M : Int) := HCL.out.2.2.2.2.1
            refine ⟨.pointer (some ⟨G, k * 7, none⟩), w, wants_some (d := 44) rfl rfl (by rw [h.size]; show 44 < 58; decide) e44, ?_, gb_refl _ _, rfl⟩
            clear h
            simp only [execOp, Act.eval, e45, e46]
            go_simp
          refine ⟨Fg.vT rfl (by decide) fun ac w h => ?_, ?_⟩
          · have e44 : ac.tmps.getD 44 undef = Value.bool true := h.dep 44 (by kernel_rfl)
            have e47 : ac.tmps.getD 47 undef = Value.pointer (some ⟨G, k * 7, none⟩) := h.dep 47 (by kernel_rfl)
            have m0 : w.cell? ⟨G, k * 7, none⟩ = some (.string rs'') := by rw [gb_cell h.base (block_lt_of_cell (HXZ.out.1)) (by simp)]; exact HXZ.out.1
            have m1 : w.cell? ⟨G, k * 7 + 1, none⟩ = some (iV rcl'') := by rw [gb_cell h.base (block_lt_of_cell (HXZ.out.2.1)) (by simp)]; exact HXZ.out.2.1
            have m2 : w.cell? ⟨G, k * 7 + 2, none⟩ = some (iV rsq'') := by rw [gb_cell h.base (block_lt_of_cell (HXZ.out.2.2.1)) (by simp)]; exact HXZ.out.2.2.1
            have m3 : w.cell? ⟨G, k * 7 + 3, none⟩ = some (.slice ra1'' rn1'' rd1'') := by rw [gb_cell h.base (block_lt_of_cell (HXZ.out.2.2.2.1)) (by simp)]; exact HXZ.out.2.2.2.1
            have m4 : w.cell? ⟨G, k * 7 + 4, none⟩ = some (.bool rg'') := by rw [gb_cell h.base (block_lt_of_cell (HXZ.out.2.2.2.2.1)) (by simp)]; exact HXZ.out.2.2.2.2.1
            have m5 : w.cell? ⟨G, k * 7 + 5, none⟩ = some (.slice ra2'' rn2'' rd2'') := by rw [gb_cell h.base (block_lt_of_cell (HXZ.out.2.2.2.2.2.1)) (by simp)]; exact HXZ.out.2.2.2.2.2.1
            have m6 : w.cell? ⟨G, k * 7 + 6, none⟩ = some (.slice ra3'' rn3'' rd3'') := by rw [gb_cell h.base (block_lt_of_cell (HXZ.out.2.2.2.2.2.2)) (by simp)]; exact HXZ.out.2.2.2.2.2.2
            refine ⟨vV rs'' rcl'' rsq'' ra1'' rn1'' rd1'' rg'' ra2'' rn2'' rd2'' ra3'' rn3'' rd3'', w, wants_some (d := 44) rfl rfl (by rw [h.size]; show 44 < 58; decide) e44, ?_, gb_refl _ _, rfl⟩
            clear h
            simp only [execOp, Act.eval, e47]
            go_simp
          refine ⟨Fg.vT rfl (by decide) fun ac w h => ?_, ?_⟩
          · have e44 : ac.tmps.getD 44 undef = Value.bool true := h.dep 44 (by kernel_rfl)
            have e6 : ac.tmps.getD 6 undef = Value.int .i64 k := h.rest 6 (by kernel_rfl)
            exact ⟨_, w, wants_some (d := 44) rfl rfl (by rw [h.size]; show 44 < 58; decide) e44, Fg.run_move rfl e6, gb_refl _ _, rfl⟩
          refine ⟨Fg.vT rfl (by decide) fun ac w h => ?_, ?_⟩
          · have e44 : ac.tmps.getD 44 undef = Value.bool true := h.dep 44 (by kernel_rfl)
            have e1 : ac.tmps.getD 1 undef = Value.slice a n cap := h.rest 1 (by kernel_rfl)
            exact ⟨_, w, wants_some (d := 44) rfl rfl (by rw [h.size]; show 44 < 58; decide) e44, Fg.run_move rfl e1, gb_refl _ _, rfl⟩
          refine ⟨Fg.vT rfl (by decide) fun ac w h => ?_, ?_⟩
          · have e44 : ac.tmps.getD 44 undef = Value.bool true := h.dep 44 (by kernel_rfl)
            have e50 : ac.tmps.getD 50 undef = Value.slice a n cap := h.dep 50 (by kernel_rfl)
            have x50 : ac.tmps[50]?.getD undef = Value.slice a n cap := by simpa using e50
            refine ⟨.int .i64 n, w, wants_some (d := 44) rfl rfl (by rw [h.size]; show 44 < 58; decide) e44, ?_, gb_refl _ _, rfl⟩
            clear h e50
            go_simp
          refine ⟨Fg.vT rfl (by decide) fun ac w h => ?_, ?_⟩
          · have e44 : ac.tmps.getD 44 undef = Value.bool true := h.dep 44 (by kernel_rfl)
            have e49 : ac.tmps.getD 49 undef = Value.int .i64 k := h.dep 49 (by kernel_rfl)
            have e51 : ac.tmps.getD 51 undef = Value.int .i64 n := h.dep 51 (by kernel_rfl)
            have i0 := HCL.out.2.2.2.2.2
            refine ⟨.int .i64 j, w, wants_some (d := 44) rfl rfl (by rw [h.size]; show 44 < 58; decide) e44, ?_, gb_refl _ _, rfl⟩
            clear h
            simp only [execOp, Act.eval, e49, e51]
            go_simp
          refine ⟨Fg.cT rfl (by decide) fun ac w h => ?_, ?_⟩
          · have e44 : ac.tmps.getD 44 undef = Value.bool true := h.dep 44 (by kernel_rfl)
            have e52 : ac.tmps.getD 52 undef = Value.int .i64 j := h.dep 52 (by kernel_rfl)
            refine ⟨69, #[Value.int .i64 1, Value.int .i64 j], wants_some (d := 44) rfl rfl (by rw [h.size]; show 44 < 58; decide) e44, Fg.run_call rfl rfl (by simp only [List.map_toArray, List.map_cons, List.map_nil, Act.eval, e52]) (Fg.run_enter Tryz.func69 (by kernel_rfl) (by kernel_rfl)), ?_⟩
            exact (HMK.out w).mono fun _ _ ⟨he, hg⟩ => ⟨_, he, hg, rfl⟩
          refine ⟨Fg.cT rfl (by decide) fun ac w h => ?_, ?_⟩
          · have e44 : ac.tmps.getD 44 undef = Value.bool true := h.dep 44 (by kernel_rfl)
            have e48 : ac.tmps.getD 48 undef = vV rs'' rcl'' rsq'' ra1'' rn1'' rd1'' rg'' ra2'' rn2'' rd2'' ra3'' rn3'' rd3'' := h.dep 48 (by kernel_rfl)
            have e53 : ac.tmps.getD 53 undef = vV rs'' rcl'' rsq'' ra1'' rn1'' rd1'' rg'' ra2'' rn2'' rd2'' ra3'' rn3'' rd3'' := h.dep 53 (by kernel_rfl)
            refine ⟨79, #[vV rs'' rcl'' rsq'' ra1'' rn1'' rd1'' rg'' ra2'' rn2'' rd2'' ra3'' rn3'' rd3'', vV rs'' rcl'' rsq'' ra1'' rn1'' rd1'' rg'' ra2'' rn2'' rd2'' ra3'' rn3'' rd3''], wants_some (d := 44) rfl rfl (by rw [h.size]; show 44 < 58; decide) e44, Fg.run_call rfl rfl (by simp only [List.map_toArray, List.map_cons, List.map_nil, Act.eval, e48, e53]) (Fg.run_enter Tryz.func79 (by kernel_rfl) (by kernel_rfl)), ?_⟩
            exact (HSM.out w (gb_trans HG2.out h.base)).mono fun _ _ ⟨he, hg⟩ => ⟨_, he, hg, rfl⟩
          refine ⟨Fg.vT rfl (by decide) fun ac w h => ?_, ?_⟩
          · have e44 : ac.tmps.getD 44 undef = Value.bool true := h.dep 44 (by kernel_rfl)
            have e54 : ac.tmps.getD 54 undef = Value.bool true := h.dep 54 (by kernel_rfl)
            refine ⟨Value.bool false, w, wants_some (d := 44) rfl rfl (by rw [h.size]; show 44 < 58; decide) e44, ?_, gb_refl _ _, rfl⟩
            clear h
            simp only [execOp, Act.eval, e54]
            go_simp
          refine ⟨Fg.vT rfl (by decide) fun ac w h => ?_, ?_⟩
          · have e39 : ac.tmps.getD 39 undef = Value.bool false := h.dep 39 (by kernel_rfl)
            have e44 : ac.tmps.getD 44 undef = Value.bool true := h.dep 44 (by kernel_rfl)
            have e55 : ac.tmps.getD 55 undef = Value.bool false := h.dep 55 (by kernel_rfl)
            refine ⟨Value.bool false, w, wants_some (d := 39) rfl rfl (by rw [h.size]; show 39 < 58; decide) e39, ?_, gb_refl _ _, rfl⟩
            clear h
            simp only [execOp, Act.eval, e44, e55]
            go_simp
          refine ⟨Fg.vT rfl (by decide) fun ac w h => ?_, ?_⟩
          · have e39 : ac.tmps.getD 39 undef = Value.bool false := h.dep 39 (by kernel_rfl)
            have e56 : ac.tmps.getD 56 undef = Value.bool false := h.dep 56 (by kernel_rfl)
            refine ⟨Value.bool false, w, wants_none rfl, ?_, gb_refl _ _, rfl⟩
            clear h
            simp only [execOp, Act.eval, e39, e56]
            go_simp
          trivial
        · intro aq wq hB hsz hdf hrest hslots hpt
          obtain ⟨u23, e23⟩ : ∃ u, aq.tmps.getD 23 undef = u := ⟨_, rfl⟩
          obtain ⟨u24, e24⟩ : ∃ u, aq.tmps.getD 24 undef = u := ⟨_, rfl⟩
          obtain ⟨u25, e25⟩ : ∃ u, aq.tmps.getD 25 undef = u := ⟨_, rfl⟩
          obtain ⟨u26, e26⟩ : ∃ u, aq.tmps.getD 26 undef = u := ⟨_, rfl⟩
          obtain ⟨u27, e27⟩ : ∃ u, aq.tmps.getD 27 undef = u := ⟨_, rfl⟩
          obtain ⟨u28, e28⟩ : ∃ u, aq.tmps.getD 28 undef = u := ⟨_, rfl⟩
          obtain ⟨u29, e29⟩ : ∃ u, aq.tmps.getD 29 undef = u := ⟨_, rfl⟩
          obtain ⟨u30, e30⟩ : ∃ u, aq.tmps.getD 30 undef = u := ⟨_, rfl⟩
          obtain ⟨u31, e31⟩ : ∃ u, aq.tmps.getD 31 undef = u := ⟨_, rfl⟩
          obtain ⟨u32, e32⟩ : ∃ u, aq.tmps.getD 32 undef = u := ⟨_, rfl⟩
          obtain ⟨u33, e33⟩ : ∃ u, aq.tmps.getD 33 undef = u := ⟨_, rfl⟩
          obtain ⟨u34, e34⟩ : ∃ u, aq.tmps.getD 34 undef = u := ⟨_, rfl⟩
          obtain ⟨u35, e35⟩ : ∃ u, aq.tmps.getD 35 undef = u := ⟨_, rfl⟩
          obtain ⟨u36, e36⟩ : ∃ u, aq.tmps.getD 36 undef = u := ⟨_, rfl⟩
          obtain ⟨u37, e37⟩ : ∃ u, aq.tmps.getD 37 undef = u := ⟨_, rfl⟩
          obtain ⟨u38, e38⟩ : ∃ u, aq.tmps.getD 38 undef = u := ⟨_, rfl⟩
          obtain ⟨u39, e39⟩ : ∃ u, aq.tmps.getD 39 undef = u := ⟨_, rfl⟩
          obtain ⟨u40, e40⟩ : ∃ u, aq.tmps.getD 40 undef = u := ⟨_, rfl⟩
          obtain ⟨u41, e41⟩ : ∃ u, aq.tmps.getD 41 undef = u := ⟨_, rfl⟩
          obtain ⟨u42, e42⟩ : ∃ u, aq.tmps.getD 42 undef = u := ⟨_, rfl⟩
          obtain ⟨u43, e43⟩ : ∃ u, aq.tmps.getD 43 undef = u := ⟨_, rfl⟩
          obtain ⟨u44, e44⟩ : ∃ u, aq.tmps.getD 44 undef = u := ⟨_, rfl⟩
          obtain ⟨u45, e45⟩ : ∃ u, aq.tmps.getD 45 undef = u := ⟨_, rfl⟩
          obtain ⟨u46, e46⟩ : ∃ u, aq.tmps.getD 46 undef = u := ⟨_, rfl⟩
          obtain ⟨u47, e47⟩ : ∃ u, aq.tmps.getD 47 undef = u := ⟨_, rfl⟩
          obtain ⟨u48, e48⟩ : ∃ u, aq.tmps.getD 48 undef = u := ⟨_, rfl⟩
          obtain ⟨u49, e49⟩ : ∃ u, aq.tmps.getD 49 undef = u := ⟨_, rfl⟩
          obtain ⟨u50, e50⟩ : ∃ u, aq.tmps.getD 50 undef = u := ⟨_, rfl⟩
          obtain ⟨u51, e51⟩ : ∃ u, aq.tmps.getD 51 undef = u := ⟨_, rfl⟩
          obtain ⟨u52, e52⟩ : ∃ u, aq.tmps.getD 52 undef = u := ⟨_, rfl⟩
          obtain ⟨u53, e53⟩ : ∃ u, aq.tmps.getD 53 undef = u := ⟨_, rfl⟩
          obtain ⟨u54, e54⟩ : ∃ u, aq.tmps.getD 54 undef = u := ⟨_, rfl⟩
          obtain ⟨u55, e55⟩ : ∃ u, aq.tmps.getD 55 undef = u := ⟨_, rfl⟩
          obtain ⟨u56, e56⟩ : ∃ u, aq.tmps.getD 56 undef = u := ⟨_, rfl⟩
          have e57 : aq.tmps.getD 57 undef = Value.bool false := hslots 57 (by kernel_rfl)
          obtain rfl := Fg.frame_is (a := aq) (vs := [Value.slice (some ⟨G, 0, none⟩) n (n + 12), Value.slice a n cap, undef, undef, u4, Value.slice (some ⟨G, 0, none⟩) M (n + 12), Value.int .i64 k, Value.slice (some ⟨G, 0, none⟩) n (n + 12), Value.int .i64 n, Value.slice a n cap, Value.int .i64 n, Value.bool false, Value.slice (some ⟨G, 0, none⟩) n (n + 12), Value.slice a n cap, Value.int .i64 n, Value.int .i64 ((n : Int) + 12), Value.slice (some ⟨G, 0, none⟩) M (n + 12), Value.int .i64 k, Value.slice (some ⟨G, 0, none⟩) M (n + 12), Value.int .i64 M, Value.bool true, u21, u22, u23, u24, u25, u26, u27, u28, u29, u30, u31, u32, u33, u34, u35, u36, u37, u38, u39, u40, u41, u42, u43, u44, u45, u46, u47, u48, u49, u50, u51, u52, u53, u54, u55, u56, Value.bool false]) hsz ⟨hrest 0 (by kernel_rfl), hrest 1 (by kernel_rfl), hrest 2 (by kernel_rfl), hrest 3 (by kernel_rfl), hrest 4 (by kernel_rfl), hrest 5 (by kernel_rfl), hrest 6 (by kernel_rfl), hrest 7 (by kernel_rfl), hrest 8 (by kernel_rfl), hrest 9 (by kernel_rfl), hrest 10 (by kernel_rfl), hrest 11 (by kernel_rfl), hrest 12 (by kernel_rfl), hrest 13 (by kernel_rfl), hrest 14 (by kernel_rfl), hrest 15 (by kernel_rfl), hrest 16 (by kernel_rfl), hrest 17 (by kernel_rfl), hrest 18 (by kernel_rfl), hrest 19 (by kernel_rfl), hrest 20 (by kernel_rfl), hrest 21 (by kernel_rfl), hrest 22 (by kernel_rfl), e23, e24, e25, e26, e27, e28, e29, e30, e31, e32, e33, e34, e35, e36, e37, e38, e39, e40, e41, e42, e43, e44, e45, e46, e47, e48, e49, e50, e51, e52, e53, e54, e55, e56, e57, trivial⟩ hdf
          clear hsz hdf hrest hslots hpt e23 e24 e25 e26 e27 e28 e29 e30 e31 e32 e33 e34 e35 e36 e37 e38 e39 e40 e41 e42 e43 e44 e45 e46 e47 e48 e49 e50 e51 e52 e53 e54 e55 e56 e57
          have HGq := Lib.hid (gb_trans HG2.out hB)
          clear hB HG2 HXZ HMK HSM HCL
          refine wpList_nil ?_
          go_wp2
          exact ⟨⟨k + 1, by omega, rfl, HGq.out⟩, by show M - ((k : Int) + 1).toNat < M - (k : Int).toNat; omega⟩
    · obtain rfl : k = M := by omega
      have HE := Lib.hid (HQ.out _ HI.out)
      clear hkM
      go_wp2
      exact HE.out
end Sb
end Go.Proofs.YtlkiancedgaicaaGreat

/- The kit's flatBytes: lists of bytes that lie apart stay what they are marked. -/
namespace Go.Proofs.YtlkiancedgaicaaGreat
open Go.RowKit Ow

theorem elt_u8 : Elt 5 23 1 (.int .u8 0) := ⟨Tryz.underlying23, by
  obtain ⟨i, hi, hz, hs, hb⟩ := info_u8z
  exact ⟨i, hi, hz, hs, hb, rfl⟩⟩
/-- lists: where they lie, how long, how much room -/
structure Lists where
  A : Nat → Option Addr
  n : Nat → Nat
  C : Nat → Nat
def Lists.v (V : Lists) (j : Nat) : Value := .slice (V.A j) (V.n j) (V.C j)
def Lists.g (V : Lists) (j : Nat) : Option Nat := (V.A j).map (·.block)
/-- the blocks of the first m -/
def Lists.S (V : Lists) (m : Nat) (i : Nat) : Prop := ∃ j, j < m ∧ V.g j = some i
structure Lists.Apart (V : Lists) (m : Nat) (LB top : Nat) : Prop where
  apart : ∀ j k, j < m → k < m → j ≠ k → V.g j = none ∨ V.g j ≠ V.g k
  ls : ∀ j, j < m → V.g j ≠ some LB
  old : ∀ j, j < m → ∀ i, V.g j = some i → i < top
  small : ∀ j, j < m → V.n j ≤ 100000
theorem Lists.own_block (V : Lists) (j : Nat) : (V.v j).ownBlock = V.g j := by
  unfold Lists.v Lists.g Value.ownBlock
  cases V.A j <;> rfl
def mkV (f : Nat → Nat → Nat) (k c : Nat) : List Value := (marksOf f k c).map u8N
theorem mkV_length (f : Nat → Nat → Nat) (k c : Nat) : (mkV f k c).length = c := by simp [mkV, marksOf_length]
theorem mkV_next (f : Nat → Nat → Nat) (k c : Nat) : mkV f k (c + 1) = mkV f k c ++ [u8N (f k c)] := marksOf_next f k c
theorem mkV_get (f : Nat → Nat → Nat) (k c i : Nat) (h : i < c) : (mkV f k c)[i]? = some (u8N (f k i)) := by
  unfold mkV
  rw [u8_getD (by rw [marksOf_length]; exact h), marksOf_get f k c i h]
theorem mkV_take (f : Nat → Nat → Nat) (k c d : Nat) (h : d ≤ c) : (mkV f k c).take d = mkV f k d := by
  apply List.ext_getElem?
  intro i
  rw [List.getElem?_take]
  by_cases hi : i < d
  · rw [if_pos hi, mkV_get f k c i (by omega), mkV_get f k d i hi]
  · rw [if_neg hi, List.getElem?_eq_none (by rw [mkV_length]; omega)]
theorem mkV_one (f : Nat → Nat → Nat) (k c : Nat) : ∀ u ∈ mkV f k c, u.oneCell' = true := by
  intro u hu
  obtain ⟨x, _, rfl⟩ := List.mem_map.1 hu
  rfl
/-- amid marking -/
def amid (f : Nat → Nat → Nat) (k i : Nat) (xs : List Value) : List Value := mkV f k i ++ xs.drop i
theorem amid_start (f : Nat → Nat → Nat) (k : Nat) (xs : List Value) : amid f k 0 xs = xs := by simp [amid, mkV, marksOf]
theorem amid_end (f : Nat → Nat → Nat) (k n : Nat) (xs : List Value) (h : xs.length = n) : amid f k n xs = mkV f k n := by
  unfold amid; rw [List.drop_eq_nil_of_le (by omega), List.append_nil]
theorem amid_set (f : Nat → Nat → Nat) (k i : Nat) (xs : List Value) (h : i < xs.length) : (amid f k i xs).set i (u8N (f k i)) = amid f k (i + 1) xs := by
  unfold amid
  rw [List.set_append_right _ _ (by rw [mkV_length]; omega), mkV_length, Nat.sub_self, mkV_next, List.append_assoc]
  congr 1
  rw [List.drop_eq_getElem_cons h]
  rfl
/-- each list, the first k marked, of the next one i -/
def rowAt (f : Nat → Nat → Nat) (V : Lists) (xs : Nat → List Value) (k i j : Nat) : List Value := if j < k then mkV f j (V.n j) else if j = k then amid f k i (xs j) else xs j
def Owns (w : World) (V : Lists) (m : Nat) (r : Nat → List Value) : Prop := ∀ j, j < m → w.ownsRow 0 5 1 (V.v j) (V.n j) (r j)
theorem Owns.kept {w w' : World} {V : Lists} {m : Nat} {r : Nat → List Value} (h : Owns w V m r) {row : Option Nat} (hg : w.grownBy w' row) (hr : ∀ j, j < m → V.g j = none ∨ V.g j ≠ row) : Owns w' V m r := fun j hj =>
  (h j hj).kept hg (by rw [V.own_block]; exact hr j hj)
theorem Owns.stay {w w' : World} {V : Lists} {m : Nat} {r : Nat → List Value} (h : Owns w V m r) (hg : w.grownBy w' none) : Owns w' V m r := h.kept hg (fun j _ => by cases V.g j <;> simp)
theorem Owns.congr {w : World} {V : Lists} {m : Nat} {r r' : Nat → List Value} (h : Owns w V m r) (hr : ∀ j, j < m → r j = r' j) : Owns w V m r' := fun j hj => hr j hj ▸ h j hj
/-- list k has a block, if it is not empty -/
theorem Owns.some {w : World} {V : Lists} {m : Nat} {r : Nat → List Value} (h : Owns w V m r) {k : Nat} (hk : k < m) (hn : 0 < V.n k) : ∃ g, V.A k = some ⟨g, 0, none⟩ ∧ V.g k = some g := by
  obtain ⟨g, c, e, _⟩ := own_some (h k hk) hn
  unfold Lists.v at e
  cases e' : V.A k with
  | none => rw [e'] at e; cases e
  | some a =>
    rw [e'] at e
    cases e
    exact ⟨g, rfl, by unfold Lists.g; rw [e']; rfl⟩
/-- one cell of list k set -/
theorem Owns.set {w : World} {V : Lists} {m LB top : Nat} {r r' : Nat → List Value} (h : Owns w V m r) (hV : V.Apart m LB top) {k i g : Nat} (hk : k < m) (hA : V.A k = Option.some ⟨g, 0, none⟩) (v : Value) (hr : ∀ j, j < m → r' j = if j = k then (r k).set i v else r j) : Owns (w.setCell ⟨g, i, none⟩ v) V m r' := by
  intro j hj
  rw [hr j hj]
  by_cases e : j = k
  · subst e
    rw [if_pos rfl]
    have := h j hj
    unfold Lists.v at this ⊢
    rw [hA] at this ⊢
    exact own_set this v
  · rw [if_neg e]
    refine (h j hj).kept (gb_set (gb_refl w (Option.some g)) i v) ?_
    rw [V.own_block]
    have hgk : V.g k = Option.some g := by unfold Lists.g; rw [hA]; rfl
    rw [← hgk]
    exact hV.apart j k hj hk e
/-- the list of the lists, in its block (with room behind it) -/
def ListAt (w : World) (LB : Nat) (V : Lists) (m : Nat) : Prop := ∃ tl, Blk w LB 23 ((List.range m).map V.v ++ tl)
theorem ListAt.lt {w : World} {LB : Nat} {V : Lists} {m : Nat} (h : ListAt w LB V m) : LB < w.heap.size := h.elim fun _ h => h.lt
theorem ListAt.grown {w w' : World} {LB : Nat} {V : Lists} {m : Nat} {row : Option Nat} (h : ListAt w LB V m) (hg : w.grownBy w' row) (hr : some LB ≠ row) : ListAt w' LB V m := h.elim fun tl h => ⟨tl, h.grown hg hr⟩
theorem ListAt.other {w : World} {LB : Nat} {V : Lists} {m : Nat} (h : ListAt w LB V m) {a : Addr} (ha : a.block ≠ LB) (v : Value) : ListAt (w.setCell a v) LB V m := h.elim fun tl h => ⟨tl, h.other ha v⟩
theorem ListAt.cell {w : World} {LB : Nat} {V : Lists} {m k : Nat} (h : ListAt w LB V m) (hk : k < m) : w.cell? ⟨LB, k, none⟩ = some (V.v k) := h.elim fun tl h => h.cell (by rw [List.getElem?_append_left (by simpa using hk)]; simp [hk])
/-- what the loops keep: the lists' own list, what the lists hold, and all else -/
structure FlatAt (V : Lists) (m LB : Nat) (w wr : World) (r : Nat → List Value) : Prop where
  own : Owns wr V m r
  list : ListAt wr LB V m
  kept : Kb (V.S m) w wr
theorem FlatAt.at {V : Lists} {m LB k : Nat} {w wr : World} {r : Nat → List Value} (h : FlatAt V m LB w wr r) (hk : k < m) : wr.cell? ⟨LB, k, none⟩ = some (.slice (V.A k) (V.n k) (V.C k)) :=
  h.list.cell hk
theorem FlatAt.congr {V : Lists} {m LB : Nat} {w wr : World} {r r' : Nat → List Value} (h : FlatAt V m LB w wr r) (e : ∀ j, j < m → r j = r' j) : FlatAt V m LB w wr r' := ⟨h.own.congr e, h.list, h.kept⟩
theorem FlatAt.drew {V : Lists} {m LB : Nat} {w wr : World} {r : Nat → List Value} (h : FlatAt V m LB w wr r) (n : Nat) : FlatAt V m LB w (wr.drewN n) r :=
  ⟨h.own.stay (gb_drewN (gb_refl _ _) n), h.list, kb_drewN h.kept n⟩
theorem FlatAt.stay {V : Lists} {m LB : Nat} {w wr w' : World} {r : Nat → List Value} (h : FlatAt V m LB w wr r) (hg : wr.grownBy w' none) : FlatAt V m LB w w' r :=
  ⟨h.own.stay hg, h.list.grown hg (by simp), kb_stay h.kept hg⟩
theorem rowAt_next (f : Nat → Nat → Nat) (V : Lists) (xs : Nat → List Value) (k j : Nat) (hl : (xs k).length = V.n k) : rowAt f V xs k (V.n k) j = rowAt f V xs (k + 1) 0 j := by
  unfold rowAt
  by_cases h1 : j < k
  · rw [if_pos h1, if_pos (by omega)]
  · rw [if_neg h1]
    by_cases h2 : j = k
    · subst h2; rw [if_pos rfl, if_pos (by omega), amid_end _ _ _ _ hl]
    · rw [if_neg h2, if_neg (by omega)]
      by_cases h3 : j = k + 1
      · rw [if_pos h3, h3, amid_start]
      · rw [if_neg h3]
theorem rowAt_set (f : Nat → Nat → Nat) (V : Lists) (xs : Nat → List Value) (k i j : Nat) (hi : i < (xs k).length) : rowAt f V xs k (i + 1) j = if j = k then (rowAt f V xs k i k).set i (u8N (f k i)) else rowAt f V xs k i j := by
  unfold rowAt
  by_cases h2 : j = k
  · subst h2; simp only [Nat.lt_irrefl, if_false, if_pos]; rw [amid_set _ _ _ _ hi]
  · simp only [if_neg h2]
theorem rowAt_end (f : Nat → Nat → Nat) (V : Lists) (xs : Nat → List Value) (m j : Nat) (h : j < m) : rowAt f V xs m 0 j = mkV f j (V.n j) := by unfold rowAt; rw [if_pos h]
theorem rowAt_start (f : Nat → Nat → Nat) (V : Lists) (xs : Nat → List Value) (j : Nat) : rowAt f V xs 0 0 j = xs j := by
  unfold rowAt
  rw [if_neg (by omega)]
  by_cases h : j = 0
  · rw [if_pos h, amid_start, h]
  · rw [if_neg h]
theorem FlatAt.set {f : Nat → Nat → Nat} {V : Lists} {m LB k i g : Nat} {w wr : World} {xs : Nat → List Value} (hV : V.Apart m LB w.heap.size) (h : FlatAt V m LB w wr (rowAt f V xs k i)) (hk : k < m) (hi : i < (xs k).length) (hA : V.A k = some ⟨g, 0, none⟩) : FlatAt V m LB w (wr.setCell ⟨g, i, none⟩ (u8N (f k i))) (rowAt f V xs k (i + 1)) := by
  have hg : V.g k = some g := by unfold Lists.g; rw [hA]; rfl
  refine ⟨h.own.set hV hk hA _ (fun j _ => rowAt_set f V xs k i j hi), h.list.other (fun e => hV.ls k hk (by rw [hg]; exact congrArg some e)) _, kb_then h.kept (gb_set (gb_refl _ (some g)) i _) (fun r e => Or.inl ?_)⟩
  cases e
  exact ⟨k, hk, hg⟩
theorem FlatAt.old {f : Nat → Nat → Nat} {V : Lists} {m LB k i g : Nat} {w wr : World} {xs : Nat → List Value} (h : FlatAt V m LB w wr (rowAt f V xs k i)) (hk : k < m) (hi : i < (xs k).length) (hA : V.A k = some ⟨g, 0, none⟩) : ∃ u, wr.cell? ⟨g, i, none⟩ = some u := by
  have := h.own k hk
  unfold Lists.v at this
  rw [hA] at this
  refine ⟨(xs k)[i], own_cell this ?_⟩
  unfold rowAt
  rw [if_neg (by omega), if_pos rfl]
  unfold amid
  rw [List.getElem?_append_right (by rw [mkV_length]; omega), mkV_length, Nat.sub_self, List.getElem?_drop, Nat.add_zero, List.getElem?_eq_getElem hi]
theorem FlatAt.free {V : Lists} {m LB k i g : Nat} {w wr : World} {r : Nat → List Value} (h : FlatAt V m LB w wr r) (hk : k < m) (hA : V.A k = some ⟨g, 0, none⟩) : wr.frozen? ⟨g, i, none⟩ = false := by
  have := h.own k hk
  unfold Lists.v at this
  rw [hA] at this
  exact own_free this i
end Go.Proofs.YtlkiancedgaicaaGreat

/- The kit's flatBytes: lists that are appended to. -/
namespace Go.Proofs.YtlkiancedgaicaaGreat
open Go.RowKit Ow

theorem info_slz : ∃ i, Tryz.prog.info? 23 = some i ∧ i.zero = some (.slice none 0 0) ∧ i.size = 1 ∧ i.bytes = 24 := by
  have h : (Tryz.prog.info? 23).map (fun i => (i.zero, i.size, i.bytes)) = some (some (.slice none 0 0), 1, 24) := by kernel_rfl
  cases hi : Tryz.prog.info? 23 with
  | none => rw [hi] at h; cases h
  | some i =>
    rw [hi] at h
    simp only [Option.map_some, Option.some.injEq, Prod.mk.injEq] at h
    exact ⟨i, rfl, h.1, h.2.1, h.2.2⟩
theorem made_nils (n : Nat) : madeCells (Value.slice none 0 0).cells n = (List.replicate n (Value.slice none 0 0)).toArray := by
  unfold madeCells
  apply Array.ext
  · simp
  · intro i h1 h2
    simp [Value.cells, Nat.mod_one]
/-- make([][]byte, n): a new block of nils -/
theorem make_nils (n : Nat) (w : World) (hn : n ≤ 100000) : ∃ w', (Instr.makeSlice 22 (.int .i64 n) (.int .i64 n)).run Tryz.prog w = .ok (.slice (some ⟨w.heap.size, 0, none⟩) n n) w' ∧
    w.grownBy w' none ∧ w'.heap.size = w.heap.size + 1 ∧ Blk w' w.heap.size 23 (List.replicate n (.slice none 0 0)) := by
  obtain ⟨i, hi, hz, hs, hb⟩ := info_slz
  have h2 := run_make (P := Tryz.prog) w 22 23 i (.slice none 0 0) Tryz.underlying22 hi hz .i64 .i64 n n (by omega) (by omega) (by rw [hb]; omega) (by omega)
  rw [hs, Nat.mul_one, Int.toNat_natCast, made_nils] at h2
  exact ⟨_, h2, gb_alloc (gb_refl _ _) _, by simp, Blk.new w _ _⟩
/-- a list that began as list k: in its place, or in a block made since -/
def Grew (V : Lists) (k sz n : Nat) (v : Value) : Prop := v = .slice (V.A k) n (V.C k) ∨ ∃ g c, v = .slice (some ⟨g, 0, none⟩) n c ∧ sz ≤ g
/-- an append to such a list: all lists stay -/
theorem flat_append {V : Lists} {m LB k : Nat} {w wk wr : World} {r : Nat → List Value} (hV : V.Apart m LB w.heap.size) (hLB : LB < w.heap.size) (hw : w.heap.size ≤ wk.heap.size) (hF : FlatAt V m LB w wr r) (hK : Kb (fun i => V.g k = some i) wk wr) (hk : k < m) (v : Value) (n : Nat) (xs : List Value) (hn : V.n k ≤ n)
    (hown : wr.ownsRow 0 5 1 v n xs) (hx : xs.take (V.n k) = r k) (hsh : Grew V k wk.heap.size n v) (ad : Addr) (q cc : Nat) (news : List Value) (hq : 0 < q) (hl : news.length = q) (hnews : ∀ j u, news[j]? = some u → wr.cell? (ad.add j) = some u) (h1 : ∀ u ∈ news, u.oneCell' = true) (hb : n + q ≤ 200000) :
    ∃ v' w', (Builtin.append_ #[23, 23] 23 #[v, .slice (some ad) q cc]).run Tryz.prog wr = .ok v' w' ∧ FlatAt V m LB w w' r ∧ Kb (fun i => V.g k = some i) wk w' ∧ w'.ownsRow 0 5 1 v' (n + q) (xs ++ news) ∧ Grew V k wk.heap.size (n + q) v' := by
  have hxl : xs.length = n := by have := hown.1; omega
  rcases own_shape hown with ⟨rfl, rfl⟩ | ⟨g, c, rfl⟩
  · obtain ⟨g, c', w', hr, ho, hg⟩ := append_to_none elt_u8 wr ad q cc news hq hl hnews h1 (by omega) (by omega)
    have := own_lt ho
    have hs := hK.size
    obtain rfl : xs = [] := List.eq_nil_of_length_eq_zero hxl
    rw [Nat.zero_add, List.nil_append]
    exact ⟨_, w', hr, hF.stay hg, kb_stay hK hg, own_rebase ho (by omega), Or.inr ⟨g, c', rfl, by omega⟩⟩
  · rcases append_cases elt_u8 wr 0 g n c xs hown ad q cc news hl hnews h1 (by omega) (by omega) with ⟨_, w', hr, ho, hg⟩ | ⟨_, c', w', hr, ho, hg⟩
    · rcases hsh with e | ⟨g', c', e, hgw⟩
      · obtain ⟨hA, hC⟩ : V.A k = some ⟨g, 0, none⟩ ∧ V.C k = c := ⟨(Value.slice.inj e).1.symm, (Value.slice.inj e).2.2.symm⟩
        have hgk : V.g k = some g := by unfold Lists.g; rw [hA]; rfl
        refine ⟨_, w', hr, ⟨fun j hj => ?_, hF.list.grown hg (fun e => hV.ls k hk (by rw [hgk, ← e])), kb_then hF.kept hg (fun r e => by cases e; exact Or.inl ⟨k, hk, hgk⟩)⟩, kb_then hK hg (fun r e => by cases e; exact Or.inl hgk), ho, Or.inl (by rw [hA, hC])⟩
        by_cases ej : j = k
        · subst ej
          have h := own_take ho (n := V.n j) (by omega)
          rw [List.take_append_of_le_length (by omega), hx] at h
          unfold Lists.v
          rw [hA, hC]
          exact h
        · exact (hF.own j hj).kept hg (by rw [V.own_block, ← hgk]; exact hV.apart j k hj hk ej)
      · cases e
        refine ⟨_, w', hr, ⟨fun j hj => (hF.own j hj).kept hg ?_, hF.list.grown hg (fun e => by cases e; omega), kb_then hF.kept hg (fun r e => by cases e; exact Or.inr (by omega))⟩, kb_then hK hg (fun r e => by cases e; exact Or.inr (by omega)), ho, Or.inr ⟨g, c, rfl, hgw⟩⟩
        rw [V.own_block]
        cases e : V.g j with
        | none => exact Or.inl rfl
        | some i => exact Or.inr (fun e' => by cases e'; have := hV.old j hj _ e; omega)
    · have := hK.size
      exact ⟨_, w', hr, hF.stay hg, kb_stay hK hg, own_rebase ho (by omega), Or.inr ⟨_, c', rfl, by omega⟩⟩
/-- a grown list, filed away: where it lies, what it holds -/
def GOne (f : Nat → Nat → Nat) (V : Lists) (GB : Nat) (wr : World) (j : Nat) (v : Value) : Prop :=
  ∃ g c, v = .slice (some ⟨g, 0, none⟩) (V.n j + 64) c ∧ (V.g j = some g ∨ GB < g) ∧ g < wr.heap.size ∧ V.n j + 64 ≤ c ∧ ∀ i, i < V.n j + 64 → wr.cell? ⟨g, i, none⟩ = some (u8N (f j i))
theorem GOne.kb {f : Nat → Nat → Nat} {V : Lists} {m LB GB top j : Nat} {wk wr : World} {v : Value} {S : Nat → Prop} (h : GOne f V GB wk j v) (hV : V.Apart m LB top) (hj : j < m) (ht : top ≤ GB) (hK : Kb S wk wr) (hS : ∀ i, S i → i = GB ∨ ∃ k, k < m ∧ k ≠ j ∧ V.g k = some i) : GOne f V GB wr j v := by
  obtain ⟨g, c, rfl, hg, hlt, hc, hcell⟩ := h
  refine ⟨g, c, rfl, hg, Nat.lt_of_lt_of_le hlt hK.size, hc, fun i hi => ?_⟩
  rw [hK.cell (p := ⟨g, i, none⟩) hlt (fun hs => ?_)]
  · exact hcell i hi
  · rcases hS g hs with e | ⟨k, hk, hkj, e⟩
    · rcases hg with h1 | h1
      · have := hV.old j hj g h1; omega
      · omega
    · rcases hg with h1 | h1
      · rcases hV.apart k j hk hj hkj with h2 | h2
        · rw [h2] at e; cases e
        · exact h2 (by rw [e, h1])
      · have := hV.old k hk g e; omega
/-- a list grown by 64 marks is such a one -/
theorem GOne.of {f : Nat → Nat → Nat} {V : Lists} {GB sz k : Nat} {wr : World} {v : Value} (ho : wr.ownsRow 0 5 1 v (V.n k + 64) (mkV f k (V.n k + 64))) (hg : Grew V k sz (V.n k + 64) v) (hs : GB < sz) : GOne f V GB wr k v := by
  obtain ⟨g, c, rfl, _, hnc, _, hlt⟩ := own_some ho (by omega)
  refine ⟨g, c, rfl, ?_, hlt, hnc, fun i hi => own_cell ho (mkV_get f k _ i hi)⟩
  rcases hg with e | ⟨g', c', e, h⟩
  · refine Or.inl ?_
    unfold Lists.g
    cases hA : V.A k with
    | none => rw [hA] at e; cases e
    | some a => rw [hA] at e; cases e; rfl
  · cases e
    exact Or.inr (by omega)
/-- the first k filed, of m -/
def filed (vs : Nat → Value) (k m : Nat) : List Value := (List.range k).map vs ++ List.replicate (m - k) (.slice none 0 0)
theorem filed_start (vs : Nat → Value) (m : Nat) : filed vs 0 m = List.replicate m (.slice none 0 0) := by simp [filed]
theorem filed_end (vs : Nat → Value) (m : Nat) : filed vs m m = (List.range m).map vs := by simp [filed]
theorem filed_nil (vs : Nat → Value) (k m : Nat) (h : k < m) : (filed vs k m)[k]? = some (.slice none 0 0) := by
  unfold filed
  rw [List.getElem?_append_right (by simp), List.length_map, List.length_range, Nat.sub_self, List.getElem?_replicate, if_pos (by omega)]
theorem filed_set (vs : Nat → Value) (k m : Nat) (v : Value) (h : k < m) : (filed vs k m).set k v = filed (fun j => if j = k then v else vs j) (k + 1) m := by
  unfold filed
  rw [List.set_append_right _ _ (by simp), List.length_map, List.length_range, Nat.sub_self, show m - k = (m - (k + 1)) + 1 by omega, List.replicate_succ, List.set_cons_zero, List.range_succ, List.map_append, List.append_assoc]
  congr 1
  · apply List.map_congr_left
    intro j hj
    have := List.mem_range.1 hj
    rw [if_neg (by omega)]
  · simp
/-- all lists as they were marked; the first k grown ones filed in block GB -/
structure Filed (f : Nat → Nat → Nat) (V : Lists) (m LB GB : Nat) (w wr : World) (r : Nat → List Value) (vs : Nat → Value) (k : Nat) : Prop where
  flat : FlatAt V m LB w wr r
  block : Blk wr GB 23 (filed vs k m)
  ones : ∀ j, j < k → GOne f V GB wr j (vs j)
theorem Filed.stay {f : Nat → Nat → Nat} {V : Lists} {m LB GB : Nat} {w wr w' : World} {r : Nat → List Value} {vs : Nat → Value} {k : Nat} (h : Filed f V m LB GB w wr r vs k) (hg : wr.grownBy w' none) : Filed f V m LB GB w w' r vs k := by
  refine ⟨h.flat.stay hg, h.block.grown hg (by simp), fun j hj => ?_⟩
  obtain ⟨g, c, e, h1, h2, h3, h4⟩ := h.ones j hj
  exact ⟨g, c, e, h1, Nat.lt_of_lt_of_le h2 hg.size, h3, fun i hi => by rw [gb_cell hg (p := ⟨g, i, none⟩) h2 (by simp)]; exact h4 i hi⟩
theorem Filed.drew {f : Nat → Nat → Nat} {V : Lists} {m LB GB : Nat} {w wr : World} {r : Nat → List Value} {vs : Nat → Value} {k : Nat} (h : Filed f V m LB GB w wr r vs k) (n : Nat) : Filed f V m LB GB w (wr.drewN n) r vs k := h.stay (gb_drewN (gb_refl _ _) n)
/-- list k grown, and filed -/
theorem Filed.next {f : Nat → Nat → Nat} {V : Lists} {m LB GB : Nat} {w wk wr : World} {r : Nat → List Value} {vs : Nat → Value} {k : Nat} {v : Value} (hV : V.Apart m LB w.heap.size) (hLB : LB < w.heap.size) (hk : k < m) (hGB : w.heap.size ≤ GB) (h : Filed f V m LB GB w wk r vs k) (hF : FlatAt V m LB w wr r) (hK : Kb (fun i => V.g k = some i) wk wr)
    (ho : wr.ownsRow 0 5 1 v (V.n k + 64) (mkV f k (V.n k + 64))) (hg : Grew V k wk.heap.size (V.n k + 64) v) :
    wr.cell? ⟨GB, k, none⟩ = some (.slice none 0 0) ∧ wr.frozen? ⟨GB, k, none⟩ = false ∧ Filed f V m LB GB w (wr.setCell ⟨GB, k, none⟩ v) r (fun j => if j = k then v else vs j) (k + 1) := by
  have hb : Blk wr GB 23 (filed vs k m) := hK.blk h.block (fun e => by have := hV.old k hk _ e; omega)
  have hlt := h.block.lt
  have hs : Kb (fun i => i = GB) wr (wr.setCell ⟨GB, k, none⟩ v) := kb_then (kb_refl _ _) (gb_set (gb_refl wr (some GB)) k v) (fun r e => by cases e; exact Or.inl rfl)
  have hgs : wr.grownBy (wr.setCell ⟨GB, k, none⟩ v) (some GB) := gb_set (gb_refl wr (some GB)) k v
  refine ⟨hb.cell (filed_nil vs k m hk), hb.free k, ⟨hF.own.kept hgs (fun j hj => ?_), hF.list.grown hgs (fun e => by cases e; omega), kb_then hF.kept hgs (fun r e => by cases e; exact Or.inr hGB)⟩, by rw [← filed_set vs k m v hk]; exact hb.set k v, fun j hj => ?_⟩
  · cases e : V.g j with
    | none => exact Or.inl rfl
    | some i => exact Or.inr (fun e' => by cases e'; have := hV.old j hj _ e; omega)
  · by_cases e : j = k
    · subst e
      simp only [if_true]
      exact (GOne.of ho hg hlt).kb hV hk hGB hs (fun i hi => Or.inl hi)
    · simp only [if_neg e]
      exact ((h.ones j (by omega)).kb hV (by omega) hGB hK (fun i hi => Or.inr ⟨k, hk, fun e' => e e'.symm, hi⟩)).kb hV (by omega) hGB hs (fun i hi => Or.inl hi)
/-- the filed list j, once all are -/
theorem Filed.at {f : Nat → Nat → Nat} {V : Lists} {m LB GB : Nat} {w wr : World} {r : Nat → List Value} {vs : Nat → Value} (h : Filed f V m LB GB w wr r vs m) {j : Nat} (hj : j < m) :
    ∃ g c, vs j = .slice (some ⟨g, 0, none⟩) (V.n j + 64) c ∧ wr.cell? ⟨GB, j, none⟩ = some (.slice (some ⟨g, 0, none⟩) (V.n j + 64) c) ∧ (∀ i, i < V.n j + 64 → wr.cell? ⟨g, i, none⟩ = some (u8N (f j i))) ∧ V.n j + 64 ≤ c := by
  obtain ⟨g, c, e, _, _, h3, h4⟩ := h.ones j hj
  refine ⟨g, c, e, h.block.cell ?_, h4, h3⟩
  rw [filed_end, ← e]
  simp [hj]
/-- a mark of a list -/
theorem FlatAt.mark {f : Nat → Nat → Nat} {V : Lists} {m LB k i : Nat} {w wr : World} (h : FlatAt V m LB w wr (fun j => mkV f j (V.n j))) (hk : k < m) (hi : i < V.n k) : ∃ g, V.A k = some ⟨g, 0, none⟩ ∧ wr.cell? ⟨g, i, none⟩ = some (u8N (f k i)) := by
  obtain ⟨g, hA, _⟩ := h.own.some hk (by omega)
  have := h.own k hk
  unfold Lists.v at this
  rw [hA] at this
  exact ⟨g, hA, own_cell this (mkV_get f k _ i hi)⟩
theorem Blk.get {w : World} {B : Nat} {T : TypeId} {L : List Value} (h : Blk w B T L) {i : Nat} (hi : i < L.length) : ∃ u, w.cell? ⟨B, i, none⟩ = some u := ⟨L[i], h.cell (List.getElem?_eq_getElem hi)⟩
theorem amid_get (f : Nat → Nat → Nat) (k i : Nat) (xs : List Value) (h : i < xs.length) : i < (amid f k i xs).length := by
  unfold amid; rw [List.length_append, mkV_length, List.length_drop]; omega
/-- a list whose marks are still there -/
def GTwo (f : Nat → Nat → Nat) (V : Lists) (GB : Nat) (wr : World) (j : Nat) (v : Value) : Prop :=
  ∃ g c, v = .slice (some ⟨g, 0, none⟩) (V.n j + 64) c ∧ (V.g j = some g ∨ GB < g) ∧ g < wr.heap.size ∧ V.n j + 64 ≤ c ∧ ∀ i, i < V.n j → wr.cell? ⟨g, i, none⟩ = some (u8N (f j i))
theorem GTwo.kb {f : Nat → Nat → Nat} {V : Lists} {m LB GB top j : Nat} {wk wr : World} {v : Value} {S : Nat → Prop} (h : GTwo f V GB wk j v) (hV : V.Apart m LB top) (hj : j < m) (ht : top ≤ GB) (hK : Kb S wk wr) (hS : ∀ i, S i → i = GB ∨ ∃ k, k < m ∧ k ≠ j ∧ V.g k = some i) : GTwo f V GB wr j v := by
  obtain ⟨g, c, rfl, hg, hlt, hc, hcell⟩ := h
  refine ⟨g, c, rfl, hg, Nat.lt_of_lt_of_le hlt hK.size, hc, fun i hi => ?_⟩
  rw [hK.cell (p := ⟨g, i, none⟩) hlt (fun hs => ?_)]
  · exact hcell i hi
  · rcases hS g hs with e | ⟨k, hk, hkj, e⟩
    · rcases hg with h1 | h1
      · have := hV.old j hj g h1; omega
      · omega
    · rcases hg with h1 | h1
      · rcases hV.apart k j hk hj hkj with h2 | h2
        · rw [h2] at e; cases e
        · exact h2 (by rw [e, h1])
      · have := hV.old k hk g e; omega
theorem GTwo.of {f : Nat → Nat → Nat} {V : Lists} {GB sz k : Nat} {wr : World} {v : Value} {ys : List Value} (ho : wr.ownsRow 0 5 1 v (V.n k + 64) (mkV f k (V.n k) ++ ys)) (hg : Grew V k sz (V.n k + 64) v) (hs : GB < sz) : GTwo f V GB wr k v := by
  obtain ⟨g, c, rfl, _, hnc, _, hlt⟩ := own_some ho (by omega)
  refine ⟨g, c, rfl, ?_, hlt, hnc, fun i hi => own_cell ho (by rw [List.getElem?_append_left (by rw [mkV_length]; exact hi)]; exact mkV_get f k _ i hi)⟩
  rcases hg with e | ⟨g', c', e, h⟩
  · refine Or.inl ?_
    unfold Lists.g
    cases hA : V.A k with
    | none => rw [hA] at e; cases e
    | some a => rw [hA] at e; cases e; rfl
  · cases e
    exact Or.inr (by omega)
/-- filed again, the first k -/
structure Again (f : Nat → Nat → Nat) (V : Lists) (m LB GB : Nat) (w wr : World) (r : Nat → List Value) (L : List Value) (k : Nat) : Prop where
  flat : FlatAt V m LB w wr r
  block : Blk wr GB 23 L
  len : L.length = m
  ones : ∀ j, j < k → ∃ v, L[j]? = some v ∧ GTwo f V GB wr j v
theorem Filed.again {f : Nat → Nat → Nat} {V : Lists} {m LB GB : Nat} {w wr : World} {r : Nat → List Value} {vs : Nat → Value} {k : Nat} (h : Filed f V m LB GB w wr r vs k) (hk : k ≤ m) : Again f V m LB GB w wr r (filed vs k m) 0 :=
  ⟨h.flat, h.block, by simp [filed]; omega, fun j hj => by omega⟩
theorem Again.stay {f : Nat → Nat → Nat} {V : Lists} {m LB GB : Nat} {w wr w' : World} {r : Nat → List Value} {L : List Value} {k : Nat} (h : Again f V m LB GB w wr r L k) (hg : wr.grownBy w' none) : Again f V m LB GB w w' r L k := by
  refine ⟨h.flat.stay hg, h.block.grown hg (by simp), h.len, fun j hj => ?_⟩
  obtain ⟨v, hv, g, c, e, h1, h2, h3, h4⟩ := h.ones j hj
  exact ⟨v, hv, g, c, e, h1, Nat.lt_of_lt_of_le h2 hg.size, h3, fun i hi => by rw [gb_cell hg (p := ⟨g, i, none⟩) h2 (by simp)]; exact h4 i hi⟩
theorem Again.drew {f : Nat → Nat → Nat} {V : Lists} {m LB GB : Nat} {w wr : World} {r : Nat → List Value} {L : List Value} {k : Nat} (h : Again f V m LB GB w wr r L k) (n : Nat) : Again f V m LB GB w (wr.drewN n) r L k := h.stay (gb_drewN (gb_refl _ _) n)
theorem Again.next {f : Nat → Nat → Nat} {V : Lists} {m LB GB : Nat} {w wk wr : World} {r : Nat → List Value} {L ys : List Value} {k : Nat} {v : Value} (hV : V.Apart m LB w.heap.size) (hLB : LB < w.heap.size) (hk : k < m) (hGB : w.heap.size ≤ GB) (h : Again f V m LB GB w wk r L k) (hF : FlatAt V m LB w wr r) (hK : Kb (fun i => V.g k = some i) wk wr)
    (ho : wr.ownsRow 0 5 1 v (V.n k + 64) (mkV f k (V.n k) ++ ys)) (hg : Grew V k wk.heap.size (V.n k + 64) v) :
    (∃ u, wr.cell? ⟨GB, k, none⟩ = some u) ∧ wr.frozen? ⟨GB, k, none⟩ = false ∧ Again f V m LB GB w (wr.setCell ⟨GB, k, none⟩ v) r (L.set k v) (k + 1) := by
  have hb : Blk wr GB 23 L := hK.blk h.block (fun e => by have := hV.old k hk _ e; omega)
  have hlt := h.block.lt
  have hll := h.len
  have hs : Kb (fun i => i = GB) wr (wr.setCell ⟨GB, k, none⟩ v) := kb_then (kb_refl _ _) (gb_set (gb_refl wr (some GB)) k v) (fun r e => by cases e; exact Or.inl rfl)
  have hgs : wr.grownBy (wr.setCell ⟨GB, k, none⟩ v) (some GB) := gb_set (gb_refl wr (some GB)) k v
  refine ⟨hb.get (by omega), hb.free k, ⟨hF.own.kept hgs (fun j hj => ?_), hF.list.grown hgs (fun e => by cases e; omega), kb_then hF.kept hgs (fun r e => by cases e; exact Or.inr hGB)⟩, hb.set k v, by rw [List.length_set]; exact hll, fun j hj => ?_⟩
  · cases e : V.g j with
    | none => exact Or.inl rfl
    | some i => exact Or.inr (fun e' => by cases e'; have := hV.old j hj _ e; omega)
  · by_cases e : j = k
    · subst e
      exact ⟨v, by rw [List.getElem?_set_self (by omega)], (GTwo.of ho hg hlt).kb hV hk hGB hs (fun i hi => Or.inl hi)⟩
    · obtain ⟨u, hu, h2⟩ := h.ones j (by omega)
      exact ⟨u, by rw [List.getElem?_set_ne (fun e' => e e'.symm)]; exact hu, (h2.kb hV (by omega) hGB hK (fun i hi => Or.inr ⟨k, hk, fun e' => e e'.symm, hi⟩)).kb hV (by omega) hGB hs (fun i hi => Or.inl hi)⟩
theorem Again.at {f : Nat → Nat → Nat} {V : Lists} {m LB GB : Nat} {w wr : World} {r : Nat → List Value} {L : List Value} (h : Again f V m LB GB w wr r L m) {j : Nat} (hj : j < m) :
    ∃ g c, wr.cell? ⟨GB, j, none⟩ = some (.slice (some ⟨g, 0, none⟩) (V.n j + 64) c) ∧ (∀ i, i < V.n j → wr.cell? ⟨g, i, none⟩ = some (u8N (f j i))) ∧ V.n j + 64 ≤ c := by
  obtain ⟨v, hv, g, c, rfl, _, _, h3, h4⟩ := h.ones j hj
  exact ⟨g, c, h.block.cell hv, h4, h3⟩
end Go.Proofs.YtlkiancedgaicaaGreat

/- The kit's bag: lists of bytes put into it. -/
namespace Go.Proofs.YtlkiancedgaicaaGreat
open Go.RowKit Ow

theorem elt_slz : Elt 23 22 24 (.slice none 0 0) := ⟨Tryz.underlying22, by
  obtain ⟨i, hi, hz, hs, hb⟩ := info_slz
  exact ⟨i, hi, hz, hs, hb, rfl⟩⟩
/-- a bag's cells, lists of bytes alone in it -/
def bagL (v : Value) : List Value := List.replicate 5 (.slice none 0 0) ++ v :: List.replicate 18 (.slice none 0 0)
theorem bagL_five (v : Value) : (bagL v)[5]? = some v := rfl
theorem bagL_set (u v : Value) : (bagL u).set 5 v = bagL v := rfl
theorem bagL_nil (v : Value) (i : Nat) (h : i < 24) (h5 : i ≠ 5) : (bagL v)[i]? = some (.slice none 0 0) := by
  unfold bagL
  rcases Nat.lt_or_ge i 5 with h' | h'
  · rw [List.getElem?_append_left (by simpa using h'), List.getElem?_replicate, if_pos h']
  · rw [List.getElem?_append_right (by simpa using h'), List.length_replicate, show i - 5 = (i - 6) + 1 by omega, List.getElem?_cons_succ, List.getElem?_replicate, if_pos (by omega)]
/-- an append to a list of lists of one's own -/
theorem append_list (w : World) (base k : Nat) (v0 l : Value) (rows : List Value) (b : Nat) (hown : w.ownsRow base 23 1 v0 k rows) (hl : w.cell? ⟨b, 0, none⟩ = some l) (h1 : l.oneCell' = true) (hk : k ≤ 100000) (hb : base ≤ w.heap.size) :
    ∃ v' w', (Builtin.append_ #[22, 22] 22 #[v0, .slice (some ⟨b, 0, none⟩) 1 1]).run Tryz.prog w = .ok v' w' ∧ w'.ownsRow base 23 1 v' (k + 1) (rows ++ [l]) ∧ w.grownBy w' v0.ownBlock := by
  obtain ⟨i, hi, hz, hs, hby, hzc⟩ := elt_slz.info
  obtain ⟨v', w', hr, ho, hg, _⟩ := run_append_own w base 22 22 23 i (.slice none 0 0) 1 24 (P := Tryz.prog) elt_slz.sl hi hz hs hby hzc (by decide) v0 k rows hown ⟨b, 0, none⟩ 1 1 [l] rfl (fun j u hu => by
    cases j with
    | zero =>
      have e : (⟨b, 0, none⟩ : Addr).add 0 = ⟨b, 0, none⟩ := by unfold Addr.add; split <;> simp_all
      rw [e, hl]; exact hu
    | succ j => simp at hu) (fun u hu => by simp at hu; subst hu; exact h1) (by unfold maxLen; omega) (by omega) hb
  exact ⟨v', w', hr, ho, hg⟩
set_option maxHeartbeats 1000000 in
theorem put_bytes (w : World) (base B k n c : Nat) (T : TypeId) (hT : T ≠ 23) (v0 : Value) (a : Option Addr) (rows : List Value) (hown : w.ownsRow base 23 1 v0 k rows) (hB : Blk w B T (bagL v0)) (hk : k ≤ 100000) (hb : base ≤ w.heap.size) :
    Calls Tryz.prog 56 #[.pointer (some ⟨B, 0, none⟩), .slice a n c] w fun e w' => (∃ r, e = .returned r) ∧ ∃ v', w'.ownsRow base 23 1 v' (k + 1) (rows ++ [.slice a n c]) ∧ Blk w' B T (bagL v') ∧ Kb (fun i => i = B ∨ v0.ownBlock = some i) w w' := by
  have apart : ∀ (W : World) (v : Value) (j : Nat) (rs : List Value) (u : Value), W.ownsRow base 23 1 v j rs → Blk W B T (bagL u) → some B ≠ v.ownBlock := by
    intro W v j rs u ho hb e
    rcases ho.2 with ⟨h0, _⟩ | ⟨g, c, cur, e1, _, hg, _⟩
    · rw [h0] at e; cases e
    · rw [e1] at e
      have e2 : B = g := by simpa [Value.ownBlock] using e
      subst e2
      unfold Blk at hb
      rw [hb] at hg
      cases hg
      exact hT rfl
  have hgb := World.grownBy_alloc w (.cells #[.slice a n c] 23) none
  obtain ⟨v', w4, hap, ho4, hg4⟩ := append_list (w.alloc (.cells #[.slice a n c] 23)) base k v0 (.slice a n c) rows w.heap.size (hown.alloc _) ((Blk.new w [.slice a n c] 23).cell rfl) rfl hk (Nat.le_trans hb hgb.size)
  have hbv := apart w v0 k rows v0 hown hB
  have hB4 : Blk w4 B T (bagL v0) := (hB.alloc _).grown hg4 hbv
  have hbv4 := apart w4 v' (k + 1) _ v0 ho4 hB4
  obtain ⟨g, c', rfl, _⟩ := own_some ho4 (by omega)
  have c5 := hB.cell (bagL_five v0)
  have c54 := hB4.cell (bagL_five v0)
  have f5 := hB4.free 5
  have hgs : w4.grownBy (w4.setCell ⟨B, 5, none⟩ (.slice (some ⟨g, 0, none⟩) (k + 1) c')) (some B) := gb_set (gb_refl _ (some B)) 5 _
  have hB5 := hB4.set 5 (.slice (some ⟨g, 0, none⟩) (k + 1) c')
  rw [bagL_set] at hB5
  have ho5 := ho4.kept hgs (Or.inr (fun e => hbv4 e.symm))
  have hK : Kb (fun i => i = B ∨ v0.ownBlock = some i) w (w4.setCell ⟨B, 5, none⟩ (.slice (some ⟨g, 0, none⟩) (k + 1) c')) :=
    kb_then (kb_then (kb_stay (kb_refl _ _) hgb) hg4 (fun r e => Or.inl (Or.inr e))) hgs (fun r e => Or.inl (Or.inl (by cases e; rfl)))
  have HI := Lib.hid (And.intro ho5 (And.intro hB5 hK)); clear ho5 hB5 hK hgs hbv4 hB4 hbv ho4 hg4 hgb hB apart
  obtain ⟨a0, c0, rfl⟩ : ∃ a0 c0, v0 = .slice a0 k c0 := by
    rcases own_shape hown with ⟨rfl, rfl⟩ | ⟨g, c, rfl⟩
    · exact ⟨_, _, rfl⟩
    · exact ⟨_, _, rfl⟩
  clear hown
  go_enter Tryz.func56, Tryz.ntmps56
  go_wp2_with (at_builtin; refine wpList_append_run rfl (.tmp 8) (.tmp 10) 22 rfl rfl _ _ rfl rfl _ _ hap ?_)
  go_end0
  exact ⟨⟨_, rfl⟩, _, HI.out⟩
end Go.Proofs.YtlkiancedgaicaaGreat

/- The kit's flatBytes, walked: marks laid. -/
namespace Go.Proofs.YtlkiancedgaicaaGreat
open Go.RowKit Ow

set_option maxRecDepth 100000 in
set_option maxHeartbeats 4000000 in
theorem flatB_any {f : Nat → Nat → Nat} (hf : Marks f) (V : Lists) (m LB C : Nat) (xs : Nat → List Value) (w : World) (hm : m ≤ 70000) (hC : m ≤ C) (hC2 : C < 9223372036854775808) (hV : V.Apart m LB w.heap.size) (hO : Owns w V m xs) (hL : ListAt w LB V m) :
    Calls Tryz.prog 98 #[.slice (some ⟨LB, 0, none⟩) m C] w fun e w' => e = .returned (.bool true) ∧ FlatAt V m LB w w' (fun j => mkV f j (V.n j)) := by
  have HL := Lib.hid (fun j hj => (by have := (hO j hj).1; omega) : ∀ j, j < m → (xs j).length = V.n j)
  have hF : FlatAt V m LB w w (rowAt f V xs 0 0) := ⟨hO.congr (fun j _ => (rowAt_start f V xs j).symm), hL, kb_refl _ _⟩
  have HF := Lib.hid hf; clear hf
  have HV := Lib.hid hV; clear hV
  have H0 := Lib.hid hF; clear hF hO hL
  go_enter Tryz.func98, Tryz.ntmps98
  go_wp2_with fail
  go_loopw [3] (fun i wr => ∃ k : Nat, k ≤ m ∧ i = .int .i64 k ∧ FlatAt V m LB w wr (rowAt f V xs k 0)) (fun i _ => m - (intOf i).toNat)
  case atStart => exact ⟨0, by omega, rfl, H0.out⟩
  case round =>
    obtain ⟨k, hk, rfl, hR⟩ := hrel
    by_cases hlt : k < m
    · have i1 : (k : Int) < (m : Int) := by omega
      have HR := Lib.hid hR; clear hR
      go_wp2_with fail
      go_loopw [4] (fun i wr => ∃ j : Nat, j ≤ V.n k ∧ i = .int .i64 j ∧ FlatAt V m LB w wr (rowAt f V xs k j)) (fun i _ => V.n k - (intOf i).toNat)
      case atStart => exact ⟨0, by omega, rfl, HR.out⟩
      case round =>
        obtain ⟨j, hj, rfl, hR2⟩ := hrel
        have kc := hR2.at hlt
        by_cases hjn : j < V.n k
        · obtain ⟨g, hA, hg⟩ := hR2.own.some hlt (by omega)
          have hset := hR2.set HV.out hlt (by rw [HL.out k hlt]; exact hjn) hA
          have hfr := hR2.free (i := j) hlt hA
          obtain ⟨u, hu⟩ := hR2.old hlt (by rw [HL.out k hlt]; exact hjn) hA
          have hsm := HV.out.small k hlt
          rw [hA] at kc
          have HI := Lib.hid (And.intro hset hg); clear hset hg hA hR2
          have hmb := fun W => HF.out.run k j k j W rfl rfl (by omega) (by omega)
          generalize hnk : V.n k = nk at *
          generalize V.C k = ck at *
          have HN := Lib.hid hnk; clear hnk
          generalize hy : f k j = y at *
          have HY := Lib.hid hy; clear hy
          have HMB := Lib.hid hmb; clear hmb
          have i2 : (j : Int) < (nk : Int) := by omega
          unfold u8N at HI
          go_wp2_with fail
          go_region_with (go_at_call 58; refine (HMB.out _).mono ?_; rintro e w' ⟨rfl, rfl⟩)
          all_goals go_wp2
          all_goals go_roundw
          case rel => exact ⟨j + 1, hjn, by go_num, HI.out.1.drew 1⟩
          case measure => simp [intOf]; omega
          case rel => exact ⟨j + 1, hjn, by go_num, HI.out.1.drew 1⟩
          case measure => simp [intOf]; omega
        · obtain rfl : j = V.n k := by omega
          have hR3 := hR2.congr (fun j _ => rowAt_next f V xs k j (HL.out k hlt))
          have HI := Lib.hid hR3; clear hR3 hR2
          generalize hnk : V.n k = nk at *
          generalize V.C k = ck at *
          have HN := Lib.hid hnk; clear hnk
          go_wp2_with fail
          go_roundw
          case rel => exact ⟨k + 1, hlt, by go_num, HI.out⟩
          case measure => simp [intOf]; omega
    · obtain rfl : k = m := by omega
      have hR1 := hR.congr (r' := fun j => mkV f j (V.n j)) (fun j hj => rowAt_end f V xs k j hj)
      have hLB := H0.out.list.lt
      obtain ⟨w3, hmk, hg3, hs3, hb3⟩ := make_nils k wr (by omega)
      have hF3 : Filed f V k LB wr.heap.size w w3 (fun j => mkV f j (V.n j)) (fun _ => .slice none 0 0) 0 := ⟨hR1.stay hg3, by rw [filed_start]; exact hb3, fun j hj => by omega⟩
      have hGB : w.heap.size ≤ wr.heap.size := hR1.kept.size
      generalize hB : wr.heap.size = GB at *
      have HG := Lib.hid (And.intro hGB hLB); clear hGB hLB hg3 hs3 hb3 hB hR hR1
      have H3 := Lib.hid hF3; clear hF3
      go_wp2_with fail
      clear hmk
      go_loopw [6] (fun i wr => ∃ (k' : Nat) (vs : Nat → Value), k' ≤ k ∧ i = .int .i64 k' ∧ Filed f V k LB GB w wr (fun j => mkV f j (V.n j)) vs k') (fun i _ => k - (intOf i).toNat)
      case atStart => exact ⟨0, _, by omega, rfl, H3.out⟩
      case round =>
        clear H3
        obtain ⟨q, vs, hq, rfl, hR⟩ := hrel
        by_cases hlt : q < k
        · have i1 : (q : Int) < (k : Int) := by omega
          have kc := hR.flat.at hlt
          have hsm := HV.out.small q hlt
          have HR := Lib.hid hR; clear hR
          go_wp2_with fail
          go_loopw [7, 8] (fun v i wr2 => ∃ t : Nat, t ≤ 64 ∧ i = .int .i64 t ∧ FlatAt V k LB w wr2 (fun j => mkV f j (V.n j)) ∧ Kb (fun i => V.g q = some i) wr wr2 ∧ wr2.ownsRow 0 5 1 v (V.n q + t) (mkV f q (V.n q + t)) ∧ Grew V q wr.heap.size (V.n q + t) v) (fun _ i _ => 64 - (intOf i).toNat)
          case atStart => exact ⟨0, by omega, rfl, HR.out.flat, kb_refl _ _, HR.out.flat.own q hlt, Or.inl rfl⟩
          case round =>
            obtain ⟨t, ht, rfl, hF2, hK2, ho2, hg2⟩ := hrel
            have kc := hF2.at hlt
            by_cases ht6 : t < 64
            · obtain ⟨y, hy⟩ : ∃ y, y = f q (V.n q + t) := ⟨_, rfl⟩
              have hgb := World.grownBy_alloc wr (.cells #[u8N y] 5) none
              obtain ⟨v', w4, hap, hF4, hK4, ho4, hg4⟩ := flat_append (r := fun j => mkV f j (V.n j)) HV.out HG.out.2 (HR.out.flat.kept.size) (hF2.stay hgb) (kb_stay hK2 hgb) hlt u7 (V.n q + t) _ (by omega) (ho2.alloc _) (mkV_take f q _ _ (by omega)) hg2 ⟨wr.heap.size, 0, none⟩ 1 1 [u8N y] (by omega) rfl (fun j u hu => by
                have hb := Blk.new wr [u8N y] 5
                have hadd : (⟨wr.heap.size, 0, none⟩ : Addr).add j = ⟨wr.heap.size, j, none⟩ := by unfold Addr.add; split <;> simp_all
                rw [hadd]; exact hb.cell hu) (by simp [u8N, Value.oneCell']) (by omega)
              rw [hy, ← mkV_next] at ho4
              have hmb := fun W => HF.out.run q (V.n q + t) q ((V.n q : Int) + (t : Int)) W rfl (by omega) (by omega) (by omega)
              rw [← hy] at hmb
              have HI := Lib.hid (And.intro hF4 (And.intro hK4 (And.intro ho4 (And.intro hg4 hmb)))); clear hF4 hK4 ho4 hg4 hmb hF2 hK2 ho2 hg2 hgb
              have HY := Lib.hid hy; clear hy
              generalize hnk : V.n q = nk at *
              have HN := Lib.hid hnk; clear hnk
              unfold u8N at hap
              have i2 : (t : Int) < 64 := by omega
              go_wp2_with fail
              refine (HI.out.2.2.2.2 wr).mono ?_
              rintro e w5 ⟨rfl, rfl⟩
              go_wp2_with (at_builtin; refine wpList_append_run rfl (.tmp 57) (.tmp 67) 23 rfl rfl _ _ rfl rfl _ _ hap ?_)
              go_roundw
              case rel => exact ⟨t + 1, ht6, by go_num, HI.out.1, HI.out.2.1, HI.out.2.2.1, HI.out.2.2.2.1⟩
              case measure => simp [intOf]; omega
            · obtain rfl : t = 64 := by omega
              obtain ⟨c0, f0, hF4⟩ := HR.out.next HV.out HG.out.2 hlt HG.out.1 hF2 hK2 ho2 hg2
              obtain ⟨g, c, rfl, _⟩ := own_some ho2 (by omega)
              have HI := Lib.hid hF4; clear hF4 hF2 hK2 ho2 hg2
              go_wp2_with fail
              go_roundw
              case rel => exact ⟨q + 1, _, hlt, by go_num, HI.out⟩
              case measure => simp [intOf]; omega
        · obtain rfl : q = k := by omega
          have HR := Lib.hid hR; clear hR
          go_wp2_with fail
          go_loopw [9] (fun i wr => ∃ p : Nat, p ≤ q ∧ i = .int .i64 p ∧ Filed f V q LB GB w wr (fun j => mkV f j (V.n j)) vs q) (fun i _ => q - (intOf i).toNat)
          case atStart => exact ⟨0, by omega, rfl, HR.out⟩
          case round =>
            clear HR
            obtain ⟨p, hp, rfl, hR⟩ := hrel
            by_cases hpq : p < q
            · have i1 : (p : Int) < (q : Int) := by omega
              have HR := Lib.hid hR; clear hR
              go_wp2_with fail
              go_loopw [10] (fun i wr => ∃ j : Nat, j ≤ V.n p + 64 ∧ i = .int .i64 j ∧ Filed f V q LB GB w wr (fun j => mkV f j (V.n j)) vs q) (fun i _ => V.n p + 64 - (intOf i).toNat)
              case atStart => exact ⟨0, by omega, rfl, HR.out⟩
              case round =>
                clear HR
                obtain ⟨j, hj, rfl, hR⟩ := hrel
                have kc := hR.flat.at hpq
                have hsm := HV.out.small p hpq
                have HR := Lib.hid hR; clear hR
                obtain ⟨g, c, hvs, kg, kj, hnc⟩ := HR.out.at hpq
                have kj1 := kj j
                clear kj
                by_cases hj1 : j < V.n p + 64
                · have kj2 := kj1 hj1
                  clear kj1
                  have hmb := fun W => HF.out.run p j p j W rfl rfl (by omega) (by omega)
                  by_cases hjn : j < V.n p
                  · obtain ⟨g2, hA, kk⟩ := HR.out.flat.mark hpq hjn
                    rw [hA] at kc
                    clear hA
                    generalize f p j = y at *
                    generalize V.n p = np at *
                    generalize V.C p = cp at *
                    have i2 : (j : Int) < (np : Int) := by omega
                    have i3 : (j : Int) < (np : Int) + 64 := by omega
                    unfold u8N at kk kj2
                    have HMB := Lib.hid hmb; clear hmb
                    go_wp2_with fail
                    go_quiet ((go_at_call 58; exact Calls.quiet_of_same (HMB.out _)))
                    go_wp2_with fail
                    go_roundw
                    case rel => exact ⟨j + 1, hj1, by go_num, HR.out.drew nq⟩
                    case measure => simp [intOf]; omega
                  · generalize f p j = y at *
                    generalize V.n p = np at *
                    generalize V.C p = cp at *
                    have i2 : ¬ (j : Int) < (np : Int) := by omega
                    have i3 : (j : Int) < (np : Int) + 64 := by omega
                    unfold u8N at kj2
                    have HMB := Lib.hid hmb; clear hmb
                    go_wp2_with fail
                    go_quiet ((go_at_call 58; exact Calls.quiet_of_same (HMB.out _)))
                    go_wp2_with fail
                    go_roundw
                    case rel => exact ⟨j + 1, hj1, by go_num, HR.out.drew nq⟩
                    case measure => simp [intOf]; omega
                · clear kj1
                  obtain rfl : j = V.n p + 64 := by omega
                  generalize V.n p = np at *
                  generalize V.C p = cp at *
                  go_wp2_with fail
                  go_roundw
                  case rel => exact ⟨p + 1, hpq, by go_num, HR.out⟩
                  case measure => simp [intOf]; omega
            · obtain rfl : p = q := by omega
              have HR := Lib.hid (hR.again (Nat.le_refl _)); clear hR
              go_wp2_with fail
              go_loopw [11] (fun i wr => ∃ (q : Nat) (L : List Value), q ≤ p ∧ i = .int .i64 q ∧ Again f V p LB GB w wr (fun j => mkV f j (V.n j)) L q) (fun i _ => p - (intOf i).toNat)
              case atStart => exact ⟨0, _, by omega, rfl, HR.out⟩
              case round =>
                clear HR
                obtain ⟨q, L, hq, rfl, hR⟩ := hrel
                by_cases hqp : q < p
                · have i1 : (q : Int) < (p : Int) := by omega
                  obtain ⟨w3, hmk0, hg3, hs3, hb3⟩ := make_bytes 64 64 wr (by omega) (by omega)
                  have hmk : (Instr.makeSlice 23 (.int .i64 64) (.int .i64 64)).run Tryz.prog wr = .ok (.slice (some ⟨wr.heap.size, 0, none⟩) 64 64) w3 := hmk0
                  clear hmk0
                  generalize hB : wr.heap.size = MB at *
                  have HR := Lib.hid (And.intro hR hB); clear hR hB
                  have H3 := Lib.hid (And.intro hg3 hb3); clear hg3 hb3 hs3
                  go_wp2_with fail
                  clear hmk
                  go_loopw [13] (fun i wr2 => ∃ j : Nat, j ≤ 64 ∧ i = .int .i64 j ∧ wr.grownBy wr2 none ∧ Blk wr2 MB 5 (amid f (q + p) j (List.replicate 64 (u8N 0)))) (fun i _ => 64 - (intOf i).toNat)
                  case atStart => exact ⟨0, by omega, rfl, H3.out.1, by rw [amid_start]; exact H3.out.2⟩
                  case round =>
                    clear H3
                    obtain ⟨j, hj, rfl, hg, hb⟩ := hrel
                    by_cases hj6 : j < 64
                    · have hmb := fun W => HF.out.run (q + p) j ((q : Int) + (p : Int)) j W (by omega) rfl (by omega) (by omega)
                      have hset := hb.set j (u8N (f (q + p) j))
                      rw [amid_set _ _ _ _ (by simpa using hj6)] at hset
                      obtain ⟨u, hu⟩ := hb.get (amid_get f (q + p) j (List.replicate 64 (u8N 0)) (by simpa using hj6))
                      have hfr := hb.free j
                      have hgs := gb_set_new hg (p := ⟨MB, j, none⟩) (by rw [HR.out.2]; exact Nat.le_refl _) (u8N (f (q + p) j))
                      generalize f (q + p) j = y at *
                      have HI := Lib.hid (And.intro hset (And.intro hgs hmb)); clear hset hgs hmb hg hb
                      unfold u8N at HI
                      have i2 : (j : Int) < 64 := by omega
                      go_wp2_with fail
                      refine (HI.out.2.2 wr).mono ?_
                      rintro e w5 ⟨rfl, rfl⟩
                      go_wp2_with fail
                      go_roundw
                      case rel => exact ⟨j + 1, hj6, by go_num, HI.out.2.1, HI.out.1⟩
                      case measure => simp [intOf]; omega
                    · obtain rfl : j = 64 := by omega
                      rw [amid_end _ _ _ _ (by simp)] at hb
                      have hA := HR.out.1.stay hg
                      have kc := hA.flat.at hqp
                      have hsm := HV.out.small q hqp
                      obtain ⟨v', w4, hap, hF4, hK4, ho4, hg4⟩ := flat_append (r := fun j => mkV f j (V.n j)) HV.out HG.out.2 (HR.out.1.flat.kept.size) hA.flat (kb_stay (kb_refl _ _) hg) hqp (V.v q) (V.n q) _ (Nat.le_refl _) (hA.flat.own q hqp) (by rw [List.take_of_length_le (by rw [mkV_length]; exact Nat.le_refl _)]) (Or.inl rfl) ⟨MB, 0, none⟩ 64 64 (mkV f (q + p) 64) (by omega) (mkV_length _ _ _) (fun j u hu => by
                        have hadd : (⟨MB, 0, none⟩ : Addr).add j = ⟨MB, j, none⟩ := by unfold Addr.add; split <;> simp_all
                        rw [hadd]; exact hb.cell hu) (mkV_one _ _ _) (by omega)
                      obtain ⟨c0, f0, hA4⟩ := HR.out.1.next HV.out HG.out.2 hqp HG.out.1 hF4 hK4 ho4 hg4
                      obtain ⟨u, hu⟩ := c0
                      obtain ⟨g, c, rfl, _⟩ := own_some ho4 (by omega)
                      have HI := Lib.hid hA4; clear hA4 hF4 hK4 ho4 hg4 hA hb hg
                      unfold Lists.v at hap
                      go_wp2_with (at_builtin; refine wpList_append_run rfl (.tmp 148) (.tmp 149) 23 rfl rfl _ _ rfl rfl _ _ hap ?_)
                      go_roundw
                      case rel => exact ⟨q + 1, _, hqp, by go_num, HI.out⟩
                      case measure => simp [intOf]; omega
                · obtain rfl : q = p := by omega
                  have HR := Lib.hid hR; clear hR
                  go_wp2_with fail
                  go_loopw [14] (fun i wr => ∃ p : Nat, p ≤ q ∧ i = .int .i64 p ∧ Again f V q LB GB w wr (fun j => mkV f j (V.n j)) L q) (fun i _ => q - (intOf i).toNat)
                  case atStart => exact ⟨0, by omega, rfl, HR.out⟩
                  case round =>
                    clear HR
                    obtain ⟨p, hp, rfl, hR⟩ := hrel
                    by_cases hpq : p < q
                    · have i1 : (p : Int) < (q : Int) := by omega
                      have HR := Lib.hid hR; clear hR
                      go_wp2_with fail
                      go_loopw [15] (fun i wr => ∃ j : Nat, j ≤ V.n p ∧ i = .int .i64 j ∧ Again f V q LB GB w wr (fun j => mkV f j (V.n j)) L q) (fun i _ => V.n p - (intOf i).toNat)
                      case atStart => exact ⟨0, by omega, rfl, HR.out⟩
                      case round =>
                        clear HR
                        obtain ⟨j, hj, rfl, hR⟩ := hrel
                        have kc := hR.flat.at hpq
                        have hsm := HV.out.small p hpq
                        have HR := Lib.hid hR; clear hR
                        obtain ⟨g, c, kg, kj, hnc⟩ := HR.out.at hpq
                        have kj1 := kj j
                        clear kj
                        by_cases hjn : j < V.n p
                        · have kj2 := kj1 hjn
                          clear kj1
                          have hmb := fun W => HF.out.run p j p j W rfl rfl (by omega) (by omega)
                          obtain ⟨g2, hA, kk⟩ := HR.out.flat.mark hpq hjn
                          rw [hA] at kc
                          clear hA
                          generalize f p j = y at *
                          generalize V.n p = np at *
                          generalize V.C p = cp at *
                          have i2 : (j : Int) < (np : Int) := by omega
                          have i3 : (j : Int) < (np : Int) + 64 := by omega
                          unfold u8N at kk kj2
                          have HMB := Lib.hid hmb; clear hmb
                          go_wp2_with fail
                          go_quiet ((go_at_call 58; exact Calls.quiet_of_same (HMB.out _)))
                          go_wp2_with fail
                          go_roundw
                          case rel => exact ⟨j + 1, hjn, by go_num, HR.out.drew nq⟩
                          case measure => simp [intOf]; omega
                        · clear kj1
                          obtain rfl : j = V.n p := by omega
                          generalize V.n p = np at *
                          generalize V.C p = cp at *
                          go_wp2_with fail
                          go_roundw
                          case rel => exact ⟨p + 1, hpq, by go_num, HR.out⟩
                          case measure => simp [intOf]; omega
                    · obtain rfl : p = q := by omega
                      have HR := Lib.hid hR.flat; clear hR
                      go_wp2
                      go_ret
                      exact ⟨rfl, HR.out⟩
end Go.Proofs.YtlkiancedgaicaaGreat

/- The kit's flat..: of no list, true. (gen_nils.py) -/
namespace Go.Proofs.YtlkiancedgaicaaGreat
open Go.RowKit Ow

theorem make_none (st e : TypeId) (hu : Tryz.prog.underlying st = some (.slice e)) (hi : (Tryz.prog.info? e).map (fun i => i.zero.isSome) = some true) (w : World) : ∃ w', (Instr.makeSlice st (.int .i64 0) (.int .i64 0)).run Tryz.prog w = .ok (.slice (some ⟨w.heap.size, 0, none⟩) 0 0) w' ∧ w.grownBy w' none := by
  obtain ⟨i, hi1, hi2⟩ : ∃ i, Tryz.prog.info? e = some i ∧ i.zero.isSome = true := by
    cases h : Tryz.prog.info? e with
    | none => rw [h] at hi; cases hi
    | some i => rw [h] at hi; exact ⟨i, rfl, by simpa using hi⟩
  obtain ⟨z, hz⟩ := Option.isSome_iff_exists.1 hi2
  have h2 := run_make (P := Tryz.prog) w st e i z hu hi1 hz .i64 .i64 0 0 (by omega) (by omega) (by omega) (by omega)
  exact ⟨_, h2, gb_alloc (gb_refl _ _) _⟩

set_option maxRecDepth 100000 in
set_option maxHeartbeats 4000000 in
theorem flatLimbs_nil (w : World) : Calls Tryz.prog 93 #[.slice none 0 0] w fun e w' => e = .returned (.bool true) ∧ w.grownBy w' none := by
  go_enter Tryz.func93, Tryz.ntmps93
  go_wp2
  go_loopw [3] (fun i wr => i = .int .i64 0 ∧ w.grownBy wr none) (fun _ _ => 0)
  case atStart => exact ⟨rfl, gb_refl _ _⟩
  obtain ⟨rfl, hg⟩ := hrel
  obtain ⟨w2, hmk, hg2⟩ := make_none 75 169 Tryz.underlying75 (by kernel_rfl) wr
  have hg3 := gb_trans hg hg2
  go_wp2
  go_loopw [6] (fun i wr => i = .int .i64 0 ∧ w.grownBy wr none) (fun _ _ => 0)
  case atStart => exact ⟨rfl, hg3⟩
  obtain ⟨rfl, hg⟩ := hrel
  go_wp2
  go_loopw [9] (fun i wr => i = .int .i64 0 ∧ w.grownBy wr none) (fun _ _ => 0)
  case atStart => exact ⟨rfl, hg⟩
  obtain ⟨rfl, hg⟩ := hrel
  go_wp2
  go_loopw [11] (fun i wr => i = .int .i64 0 ∧ w.grownBy wr none) (fun _ _ => 0)
  case atStart => exact ⟨rfl, hg⟩
  obtain ⟨rfl, hg⟩ := hrel
  go_wp2
  go_loopw [14] (fun i wr => i = .int .i64 0 ∧ w.grownBy wr none) (fun _ _ => 0)
  case atStart => exact ⟨rfl, hg⟩
  obtain ⟨rfl, hg⟩ := hrel
  go_wp2
  go_ret
  exact ⟨rfl, hg⟩
set_option maxRecDepth 100000 in
set_option maxHeartbeats 4000000 in
theorem flatWords_nil (w : World) : Calls Tryz.prog 94 #[.slice none 0 0] w fun e w' => e = .returned (.bool true) ∧ w.grownBy w' none := by
  go_enter Tryz.func94, Tryz.ntmps94
  go_wp2
  go_loopw [3] (fun i wr => i = .int .i64 0 ∧ w.grownBy wr none) (fun _ _ => 0)
  case atStart => exact ⟨rfl, gb_refl _ _⟩
  obtain ⟨rfl, hg⟩ := hrel
  obtain ⟨w2, hmk, hg2⟩ := make_none 76 171 Tryz.underlying76 (by kernel_rfl) wr
  have hg3 := gb_trans hg hg2
  go_wp2
  go_loopw [6] (fun i wr => i = .int .i64 0 ∧ w.grownBy wr none) (fun _ _ => 0)
  case atStart => exact ⟨rfl, hg3⟩
  obtain ⟨rfl, hg⟩ := hrel
  go_wp2
  go_loopw [9] (fun i wr => i = .int .i64 0 ∧ w.grownBy wr none) (fun _ _ => 0)
  case atStart => exact ⟨rfl, hg⟩
  obtain ⟨rfl, hg⟩ := hrel
  go_wp2
  go_loopw [11] (fun i wr => i = .int .i64 0 ∧ w.grownBy wr none) (fun _ _ => 0)
  case atStart => exact ⟨rfl, hg⟩
  obtain ⟨rfl, hg⟩ := hrel
  go_wp2
  go_loopw [14] (fun i wr => i = .int .i64 0 ∧ w.grownBy wr none) (fun _ _ => 0)
  case atStart => exact ⟨rfl, hg⟩
  obtain ⟨rfl, hg⟩ := hrel
  go_wp2
  go_ret
  exact ⟨rfl, hg⟩
set_option maxRecDepth 100000 in
set_option maxHeartbeats 4000000 in
theorem flatInts_nil (w : World) : Calls Tryz.prog 95 #[.slice none 0 0] w fun e w' => e = .returned (.bool true) ∧ w.grownBy w' none := by
  go_enter Tryz.func95, Tryz.ntmps95
  go_wp2
  go_loopw [3] (fun i wr => i = .int .i64 0 ∧ w.grownBy wr none) (fun _ _ => 0)
  case atStart => exact ⟨rfl, gb_refl _ _⟩
  obtain ⟨rfl, hg⟩ := hrel
  obtain ⟨w2, hmk, hg2⟩ := make_none 77 46 Tryz.underlying77 (by kernel_rfl) wr
  have hg3 := gb_trans hg hg2
  go_wp2
  go_loopw [6] (fun i wr => i = .int .i64 0 ∧ w.grownBy wr none) (fun _ _ => 0)
  case atStart => exact ⟨rfl, hg3⟩
  obtain ⟨rfl, hg⟩ := hrel
  go_wp2
  go_loopw [9] (fun i wr => i = .int .i64 0 ∧ w.grownBy wr none) (fun _ _ => 0)
  case atStart => exact ⟨rfl, hg⟩
  obtain ⟨rfl, hg⟩ := hrel
  go_wp2
  go_loopw [11] (fun i wr => i = .int .i64 0 ∧ w.grownBy wr none) (fun _ _ => 0)
  case atStart => exact ⟨rfl, hg⟩
  obtain ⟨rfl, hg⟩ := hrel
  go_wp2
  go_loopw [14] (fun i wr => i = .int .i64 0 ∧ w.grownBy wr none) (fun _ _ => 0)
  case atStart => exact ⟨rfl, hg⟩
  obtain ⟨rfl, hg⟩ := hrel
  go_wp2
  go_ret
  exact ⟨rfl, hg⟩
set_option maxRecDepth 100000 in
set_option maxHeartbeats 4000000 in
theorem flatLongs_nil (w : World) : Calls Tryz.prog 96 #[.slice none 0 0] w fun e w' => e = .returned (.bool true) ∧ w.grownBy w' none := by
  go_enter Tryz.func96, Tryz.ntmps96
  go_wp2
  go_loopw [3] (fun i wr => i = .int .i64 0 ∧ w.grownBy wr none) (fun _ _ => 0)
  case atStart => exact ⟨rfl, gb_refl _ _⟩
  obtain ⟨rfl, hg⟩ := hrel
  obtain ⟨w2, hmk, hg2⟩ := make_none 78 172 Tryz.underlying78 (by kernel_rfl) wr
  have hg3 := gb_trans hg hg2
  go_wp2
  go_loopw [6] (fun i wr => i = .int .i64 0 ∧ w.grownBy wr none) (fun _ _ => 0)
  case atStart => exact ⟨rfl, hg3⟩
  obtain ⟨rfl, hg⟩ := hrel
  go_wp2
  go_loopw [9] (fun i wr => i = .int .i64 0 ∧ w.grownBy wr none) (fun _ _ => 0)
  case atStart => exact ⟨rfl, hg⟩
  obtain ⟨rfl, hg⟩ := hrel
  go_wp2
  go_loopw [11] (fun i wr => i = .int .i64 0 ∧ w.grownBy wr none) (fun _ _ => 0)
  case atStart => exact ⟨rfl, hg⟩
  obtain ⟨rfl, hg⟩ := hrel
  go_wp2
  go_loopw [14] (fun i wr => i = .int .i64 0 ∧ w.grownBy wr none) (fun _ _ => 0)
  case atStart => exact ⟨rfl, hg⟩
  obtain ⟨rfl, hg⟩ := hrel
  go_wp2
  go_ret
  exact ⟨rfl, hg⟩
set_option maxRecDepth 100000 in
set_option maxHeartbeats 4000000 in
theorem flatTexts_nil (w : World) : Calls Tryz.prog 97 #[.slice none 0 0] w fun e w' => e = .returned (.bool true) ∧ w.grownBy w' none := by
  go_enter Tryz.func97, Tryz.ntmps97
  go_wp2
  go_loopw [3] (fun i wr => i = .int .i64 0 ∧ w.grownBy wr none) (fun _ _ => 0)
  case atStart => exact ⟨rfl, gb_refl _ _⟩
  obtain ⟨rfl, hg⟩ := hrel
  obtain ⟨w2, hmk, hg2⟩ := make_none 79 173 Tryz.underlying79 (by kernel_rfl) wr
  have hg3 := gb_trans hg hg2
  go_wp2
  go_loopw [6] (fun i wr => i = .int .i64 0 ∧ w.grownBy wr none) (fun _ _ => 0)
  case atStart => exact ⟨rfl, hg3⟩
  obtain ⟨rfl, hg⟩ := hrel
  go_wp2
  go_loopw [9] (fun i wr => i = .int .i64 0 ∧ w.grownBy wr none) (fun _ _ => 0)
  case atStart => exact ⟨rfl, hg⟩
  obtain ⟨rfl, hg⟩ := hrel
  go_wp2
  go_loopw [11] (fun i wr => i = .int .i64 0 ∧ w.grownBy wr none) (fun _ _ => 0)
  case atStart => exact ⟨rfl, hg⟩
  obtain ⟨rfl, hg⟩ := hrel
  go_wp2
  go_loopw [14] (fun i wr => i = .int .i64 0 ∧ w.grownBy wr none) (fun _ _ => 0)
  case atStart => exact ⟨rfl, hg⟩
  obtain ⟨rfl, hg⟩ := hrel
  go_wp2
  go_ret
  exact ⟨rfl, hg⟩
set_option maxRecDepth 100000 in
set_option maxHeartbeats 4000000 in
theorem flatBytes_nil (w : World) : Calls Tryz.prog 98 #[.slice none 0 0] w fun e w' => e = .returned (.bool true) ∧ w.grownBy w' none := by
  go_enter Tryz.func98, Tryz.ntmps98
  go_wp2
  go_loopw [3] (fun i wr => i = .int .i64 0 ∧ w.grownBy wr none) (fun _ _ => 0)
  case atStart => exact ⟨rfl, gb_refl _ _⟩
  obtain ⟨rfl, hg⟩ := hrel
  obtain ⟨w2, hmk, hg2⟩ := make_none 22 23 Tryz.underlying22 (by kernel_rfl) wr
  have hg3 := gb_trans hg hg2
  go_wp2
  go_loopw [6] (fun i wr => i = .int .i64 0 ∧ w.grownBy wr none) (fun _ _ => 0)
  case atStart => exact ⟨rfl, hg3⟩
  obtain ⟨rfl, hg⟩ := hrel
  go_wp2
  go_loopw [9] (fun i wr => i = .int .i64 0 ∧ w.grownBy wr none) (fun _ _ => 0)
  case atStart => exact ⟨rfl, hg⟩
  obtain ⟨rfl, hg⟩ := hrel
  go_wp2
  go_loopw [11] (fun i wr => i = .int .i64 0 ∧ w.grownBy wr none) (fun _ _ => 0)
  case atStart => exact ⟨rfl, hg⟩
  obtain ⟨rfl, hg⟩ := hrel
  go_wp2
  go_loopw [14] (fun i wr => i = .int .i64 0 ∧ w.grownBy wr none) (fun _ _ => 0)
  case atStart => exact ⟨rfl, hg⟩
  obtain ⟨rfl, hg⟩ := hrel
  go_wp2
  go_ret
  exact ⟨rfl, hg⟩
set_option maxRecDepth 100000 in
set_option maxHeartbeats 4000000 in
theorem flatTruths_nil (w : World) : Calls Tryz.prog 99 #[.slice none 0 0] w fun e w' => e = .returned (.bool true) ∧ w.grownBy w' none := by
  go_enter Tryz.func99, Tryz.ntmps99
  go_wp2
  go_loopw [3] (fun i wr => i = .int .i64 0 ∧ w.grownBy wr none) (fun _ _ => 0)
  case atStart => exact ⟨rfl, gb_refl _ _⟩
  obtain ⟨rfl, hg⟩ := hrel
  obtain ⟨w2, hmk, hg2⟩ := make_none 80 174 Tryz.underlying80 (by kernel_rfl) wr
  have hg3 := gb_trans hg hg2
  go_wp2
  go_loopw [6] (fun i wr => i = .int .i64 0 ∧ w.grownBy wr none) (fun _ _ => 0)
  case atStart => exact ⟨rfl, hg3⟩
  obtain ⟨rfl, hg⟩ := hrel
  go_wp2
  go_loopw [9] (fun i wr => i = .int .i64 0 ∧ w.grownBy wr none) (fun _ _ => 0)
  case atStart => exact ⟨rfl, hg⟩
  obtain ⟨rfl, hg⟩ := hrel
  go_wp2
  go_loopw [11] (fun i wr => i = .int .i64 0 ∧ w.grownBy wr none) (fun _ _ => 0)
  case atStart => exact ⟨rfl, hg⟩
  obtain ⟨rfl, hg⟩ := hrel
  go_wp2
  go_loopw [14] (fun i wr => i = .int .i64 0 ∧ w.grownBy wr none) (fun _ _ => 0)
  case atStart => exact ⟨rfl, hg⟩
  obtain ⟨rfl, hg⟩ := hrel
  go_wp2
  go_ret
  exact ⟨rfl, hg⟩
set_option maxRecDepth 100000 in
set_option maxHeartbeats 4000000 in
theorem flatRows_nil (w : World) : Calls Tryz.prog 100 #[.slice none 0 0] w fun e w' => e = .returned (.bool true) ∧ w.grownBy w' none := by
  go_enter Tryz.func100, Tryz.ntmps100
  go_wp2
  go_loopw [3] (fun i wr => i = .int .i64 0 ∧ w.grownBy wr none) (fun _ _ => 0)
  case atStart => exact ⟨rfl, gb_refl _ _⟩
  obtain ⟨rfl, hg⟩ := hrel
  obtain ⟨w2, hmk, hg2⟩ := make_none 81 22 Tryz.underlying81 (by kernel_rfl) wr
  have hg3 := gb_trans hg hg2
  go_wp2
  go_loopw [6] (fun i wr => i = .int .i64 0 ∧ w.grownBy wr none) (fun _ _ => 0)
  case atStart => exact ⟨rfl, hg3⟩
  obtain ⟨rfl, hg⟩ := hrel
  go_wp2
  go_loopw [9] (fun i wr => i = .int .i64 0 ∧ w.grownBy wr none) (fun _ _ => 0)
  case atStart => exact ⟨rfl, hg⟩
  obtain ⟨rfl, hg⟩ := hrel
  go_wp2
  go_loopw [11] (fun i wr => i = .int .i64 0 ∧ w.grownBy wr none) (fun _ _ => 0)
  case atStart => exact ⟨rfl, hg⟩
  obtain ⟨rfl, hg⟩ := hrel
  go_wp2
  go_loopw [14] (fun i wr => i = .int .i64 0 ∧ w.grownBy wr none) (fun _ _ => 0)
  case atStart => exact ⟨rfl, hg⟩
  obtain ⟨rfl, hg⟩ := hrel
  go_wp2
  go_ret
  exact ⟨rfl, hg⟩
set_option maxRecDepth 100000 in
set_option maxHeartbeats 4000000 in
theorem flatDots_nil (w : World) : Calls Tryz.prog 101 #[.slice none 0 0] w fun e w' => e = .returned (.bool true) ∧ w.grownBy w' none := by
  go_enter Tryz.func101, Tryz.ntmps101
  go_wp2
  go_loopw [3] (fun i wr => i = .int .i64 0 ∧ w.grownBy wr none) (fun _ _ => 0)
  case atStart => exact ⟨rfl, gb_refl _ _⟩
  obtain ⟨rfl, hg⟩ := hrel
  obtain ⟨w2, hmk, hg2⟩ := make_none 82 64 Tryz.underlying82 (by kernel_rfl) wr
  have hg3 := gb_trans hg hg2
  go_wp2
  go_loopw [6] (fun i wr => i = .int .i64 0 ∧ w.grownBy wr none) (fun _ _ => 0)
  case atStart => exact ⟨rfl, hg3⟩
  obtain ⟨rfl, hg⟩ := hrel
  go_wp2
  go_loopw [9] (fun i wr => i = .int .i64 0 ∧ w.grownBy wr none) (fun _ _ => 0)
  case atStart => exact ⟨rfl, hg⟩
  obtain ⟨rfl, hg⟩ := hrel
  go_wp2
  go_loopw [11] (fun i wr => i = .int .i64 0 ∧ w.grownBy wr none) (fun _ _ => 0)
  case atStart => exact ⟨rfl, hg⟩
  obtain ⟨rfl, hg⟩ := hrel
  go_wp2
  go_loopw [14] (fun i wr => i = .int .i64 0 ∧ w.grownBy wr none) (fun _ _ => 0)
  case atStart => exact ⟨rfl, hg⟩
  obtain ⟨rfl, hg⟩ := hrel
  go_wp2
  go_ret
  exact ⟨rfl, hg⟩
set_option maxRecDepth 100000 in
set_option maxHeartbeats 4000000 in
theorem flatRecords_nil (w : World) : Calls Tryz.prog 102 #[.slice none 0 0] w fun e w' => e = .returned (.bool true) ∧ w.grownBy w' none := by
  go_enter Tryz.func102, Tryz.ntmps102
  go_wp2
  go_loopw [3] (fun i wr => i = .int .i64 0 ∧ w.grownBy wr none) (fun _ _ => 0)
  case atStart => exact ⟨rfl, gb_refl _ _⟩
  obtain ⟨rfl, hg⟩ := hrel
  obtain ⟨w2, hmk, hg2⟩ := make_none 55 48 Tryz.underlying55 (by kernel_rfl) wr
  have hg3 := gb_trans hg hg2
  go_wp2
  go_loopw [6] (fun i wr => i = .int .i64 0 ∧ w.grownBy wr none) (fun _ _ => 0)
  case atStart => exact ⟨rfl, hg3⟩
  obtain ⟨rfl, hg⟩ := hrel
  go_wp2
  go_loopw [9] (fun i wr => i = .int .i64 0 ∧ w.grownBy wr none) (fun _ _ => 0)
  case atStart => exact ⟨rfl, hg⟩
  obtain ⟨rfl, hg⟩ := hrel
  go_wp2
  go_loopw [11] (fun i wr => i = .int .i64 0 ∧ w.grownBy wr none) (fun _ _ => 0)
  case atStart => exact ⟨rfl, hg⟩
  obtain ⟨rfl, hg⟩ := hrel
  go_wp2
  go_loopw [14] (fun i wr => i = .int .i64 0 ∧ w.grownBy wr none) (fun _ _ => 0)
  case atStart => exact ⟨rfl, hg⟩
  obtain ⟨rfl, hg⟩ := hrel
  go_wp2
  go_ret
  exact ⟨rfl, hg⟩
set_option maxRecDepth 100000 in
set_option maxHeartbeats 4000000 in
theorem flatLeaves_nil (w : World) : Calls Tryz.prog 103 #[.slice none 0 0] w fun e w' => e = .returned (.bool true) ∧ w.grownBy w' none := by
  go_enter Tryz.func103, Tryz.ntmps103
  go_wp2
  go_loopw [3] (fun i wr => i = .int .i64 0 ∧ w.grownBy wr none) (fun _ _ => 0)
  case atStart => exact ⟨rfl, gb_refl _ _⟩
  obtain ⟨rfl, hg⟩ := hrel
  obtain ⟨w2, hmk, hg2⟩ := make_none 83 176 Tryz.underlying83 (by kernel_rfl) wr
  have hg3 := gb_trans hg hg2
  go_wp2
  go_loopw [6] (fun i wr => i = .int .i64 0 ∧ w.grownBy wr none) (fun _ _ => 0)
  case atStart => exact ⟨rfl, hg3⟩
  obtain ⟨rfl, hg⟩ := hrel
  go_wp2
  go_loopw [9] (fun i wr => i = .int .i64 0 ∧ w.grownBy wr none) (fun _ _ => 0)
  case atStart => exact ⟨rfl, hg⟩
  obtain ⟨rfl, hg⟩ := hrel
  go_wp2
  go_loopw [11] (fun i wr => i = .int .i64 0 ∧ w.grownBy wr none) (fun _ _ => 0)
  case atStart => exact ⟨rfl, hg⟩
  obtain ⟨rfl, hg⟩ := hrel
  go_wp2
  go_loopw [14] (fun i wr => i = .int .i64 0 ∧ w.grownBy wr none) (fun _ _ => 0)
  case atStart => exact ⟨rfl, hg⟩
  obtain ⟨rfl, hg⟩ := hrel
  go_wp2
  go_ret
  exact ⟨rfl, hg⟩
set_option maxRecDepth 100000 in
set_option maxHeartbeats 4000000 in
theorem flatGrants_nil (w : World) : Calls Tryz.prog 104 #[.slice none 0 0] w fun e w' => e = .returned (.bool true) ∧ w.grownBy w' none := by
  go_enter Tryz.func104, Tryz.ntmps104
  go_wp2
  go_loopw [3] (fun i wr => i = .int .i64 0 ∧ w.grownBy wr none) (fun _ _ => 0)
  case atStart => exact ⟨rfl, gb_refl _ _⟩
  obtain ⟨rfl, hg⟩ := hrel
  obtain ⟨w2, hmk, hg2⟩ := make_none 84 181 Tryz.underlying84 (by kernel_rfl) wr
  have hg3 := gb_trans hg hg2
  go_wp2
  go_loopw [6] (fun i wr => i = .int .i64 0 ∧ w.grownBy wr none) (fun _ _ => 0)
  case atStart => exact ⟨rfl, hg3⟩
  obtain ⟨rfl, hg⟩ := hrel
  go_wp2
  go_loopw [9] (fun i wr => i = .int .i64 0 ∧ w.grownBy wr none) (fun _ _ => 0)
  case atStart => exact ⟨rfl, hg⟩
  obtain ⟨rfl, hg⟩ := hrel
  go_wp2
  go_loopw [11] (fun i wr => i = .int .i64 0 ∧ w.grownBy wr none) (fun _ _ => 0)
  case atStart => exact ⟨rfl, hg⟩
  obtain ⟨rfl, hg⟩ := hrel
  go_wp2
  go_loopw [14] (fun i wr => i = .int .i64 0 ∧ w.grownBy wr none) (fun _ _ => 0)
  case atStart => exact ⟨rfl, hg⟩
  obtain ⟨rfl, hg⟩ := hrel
  go_wp2
  go_ret
  exact ⟨rfl, hg⟩
set_option maxRecDepth 100000 in
set_option maxHeartbeats 4000000 in
theorem flatNodes_nil (w : World) : Calls Tryz.prog 105 #[.slice none 0 0] w fun e w' => e = .returned (.bool true) ∧ w.grownBy w' none := by
  go_enter Tryz.func105, Tryz.ntmps105
  go_wp2
  go_loopw [3] (fun i wr => i = .int .i64 0 ∧ w.grownBy wr none) (fun _ _ => 0)
  case atStart => exact ⟨rfl, gb_refl _ _⟩
  obtain ⟨rfl, hg⟩ := hrel
  obtain ⟨w2, hmk, hg2⟩ := make_none 85 186 Tryz.underlying85 (by kernel_rfl) wr
  have hg3 := gb_trans hg hg2
  go_wp2
  go_loopw [6] (fun i wr => i = .int .i64 0 ∧ w.grownBy wr none) (fun _ _ => 0)
  case atStart => exact ⟨rfl, hg3⟩
  obtain ⟨rfl, hg⟩ := hrel
  go_wp2
  go_loopw [9] (fun i wr => i = .int .i64 0 ∧ w.grownBy wr none) (fun _ _ => 0)
  case atStart => exact ⟨rfl, hg⟩
  obtain ⟨rfl, hg⟩ := hrel
  go_wp2
  go_loopw [11] (fun i wr => i = .int .i64 0 ∧ w.grownBy wr none) (fun _ _ => 0)
  case atStart => exact ⟨rfl, hg⟩
  obtain ⟨rfl, hg⟩ := hrel
  go_wp2
  go_loopw [14] (fun i wr => i = .int .i64 0 ∧ w.grownBy wr none) (fun _ _ => 0)
  case atStart => exact ⟨rfl, hg⟩
  obtain ⟨rfl, hg⟩ := hrel
  go_wp2
  go_ret
  exact ⟨rfl, hg⟩
set_option maxRecDepth 100000 in
set_option maxHeartbeats 4000000 in
theorem flatStubs_nil (w : World) : Calls Tryz.prog 106 #[.slice none 0 0] w fun e w' => e = .returned (.bool true) ∧ w.grownBy w' none := by
  go_enter Tryz.func106, Tryz.ntmps106
  go_wp2
  go_loopw [3] (fun i wr => i = .int .i64 0 ∧ w.grownBy wr none) (fun _ _ => 0)
  case atStart => exact ⟨rfl, gb_refl _ _⟩
  obtain ⟨rfl, hg⟩ := hrel
  obtain ⟨w2, hmk, hg2⟩ := make_none 86 192 Tryz.underlying86 (by kernel_rfl) wr
  have hg3 := gb_trans hg hg2
  go_wp2
  go_loopw [6] (fun i wr => i = .int .i64 0 ∧ w.grownBy wr none) (fun _ _ => 0)
  case atStart => exact ⟨rfl, hg3⟩
  obtain ⟨rfl, hg⟩ := hrel
  go_wp2
  go_loopw [9] (fun i wr => i = .int .i64 0 ∧ w.grownBy wr none) (fun _ _ => 0)
  case atStart => exact ⟨rfl, hg⟩
  obtain ⟨rfl, hg⟩ := hrel
  go_wp2
  go_loopw [11] (fun i wr => i = .int .i64 0 ∧ w.grownBy wr none) (fun _ _ => 0)
  case atStart => exact ⟨rfl, hg⟩
  obtain ⟨rfl, hg⟩ := hrel
  go_wp2
  go_loopw [14] (fun i wr => i = .int .i64 0 ∧ w.grownBy wr none) (fun _ _ => 0)
  case atStart => exact ⟨rfl, hg⟩
  obtain ⟨rfl, hg⟩ := hrel
  go_wp2
  go_ret
  exact ⟨rfl, hg⟩
set_option maxRecDepth 100000 in
set_option maxHeartbeats 4000000 in
theorem flatProofs_nil (w : World) : Calls Tryz.prog 107 #[.slice none 0 0] w fun e w' => e = .returned (.bool true) ∧ w.grownBy w' none := by
  go_enter Tryz.func107, Tryz.ntmps107
  go_wp2
  go_loopw [3] (fun i wr => i = .int .i64 0 ∧ w.grownBy wr none) (fun _ _ => 0)
  case atStart => exact ⟨rfl, gb_refl _ _⟩
  obtain ⟨rfl, hg⟩ := hrel
  obtain ⟨w2, hmk, hg2⟩ := make_none 87 197 Tryz.underlying87 (by kernel_rfl) wr
  have hg3 := gb_trans hg hg2
  go_wp2
  go_loopw [6] (fun i wr => i = .int .i64 0 ∧ w.grownBy wr none) (fun _ _ => 0)
  case atStart => exact ⟨rfl, hg3⟩
  obtain ⟨rfl, hg⟩ := hrel
  go_wp2
  go_loopw [9] (fun i wr => i = .int .i64 0 ∧ w.grownBy wr none) (fun _ _ => 0)
  case atStart => exact ⟨rfl, hg⟩
  obtain ⟨rfl, hg⟩ := hrel
  go_wp2
  go_loopw [11] (fun i wr => i = .int .i64 0 ∧ w.grownBy wr none) (fun _ _ => 0)
  case atStart => exact ⟨rfl, hg⟩
  obtain ⟨rfl, hg⟩ := hrel
  go_wp2
  go_loopw [14] (fun i wr => i = .int .i64 0 ∧ w.grownBy wr none) (fun _ _ => 0)
  case atStart => exact ⟨rfl, hg⟩
  obtain ⟨rfl, hg⟩ := hrel
  go_wp2
  go_ret
  exact ⟨rfl, hg⟩
set_option maxRecDepth 100000 in
set_option maxHeartbeats 4000000 in
theorem flatRoots_nil (w : World) : Calls Tryz.prog 108 #[.slice none 0 0] w fun e w' => e = .returned (.bool true) ∧ w.grownBy w' none := by
  go_enter Tryz.func108, Tryz.ntmps108
  go_wp2
  go_loopw [3] (fun i wr => i = .int .i64 0 ∧ w.grownBy wr none) (fun _ _ => 0)
  case atStart => exact ⟨rfl, gb_refl _ _⟩
  obtain ⟨rfl, hg⟩ := hrel
  obtain ⟨w2, hmk, hg2⟩ := make_none 88 202 Tryz.underlying88 (by kernel_rfl) wr
  have hg3 := gb_trans hg hg2
  go_wp2
  go_loopw [6] (fun i wr => i = .int .i64 0 ∧ w.grownBy wr none) (fun _ _ => 0)
  case atStart => exact ⟨rfl, hg3⟩
  obtain ⟨rfl, hg⟩ := hrel
  go_wp2
  go_loopw [9] (fun i wr => i = .int .i64 0 ∧ w.grownBy wr none) (fun _ _ => 0)
  case atStart => exact ⟨rfl, hg⟩
  obtain ⟨rfl, hg⟩ := hrel
  go_wp2
  go_loopw [11] (fun i wr => i = .int .i64 0 ∧ w.grownBy wr none) (fun _ _ => 0)
  case atStart => exact ⟨rfl, hg⟩
  obtain ⟨rfl, hg⟩ := hrel
  go_wp2
  go_loopw [14] (fun i wr => i = .int .i64 0 ∧ w.grownBy wr none) (fun _ _ => 0)
  case atStart => exact ⟨rfl, hg⟩
  obtain ⟨rfl, hg⟩ := hrel
  go_wp2
  go_ret
  exact ⟨rfl, hg⟩
set_option maxRecDepth 100000 in
set_option maxHeartbeats 4000000 in
theorem flatEvidenceRow_nil (w : World) : Calls Tryz.prog 109 #[.slice none 0 0] w fun e w' => e = .returned (.bool true) ∧ w.grownBy w' none := by
  go_enter Tryz.func109, Tryz.ntmps109
  go_wp2
  go_loopw [3] (fun i wr => i = .int .i64 0 ∧ w.grownBy wr none) (fun _ _ => 0)
  case atStart => exact ⟨rfl, gb_refl _ _⟩
  obtain ⟨rfl, hg⟩ := hrel
  obtain ⟨w2, hmk, hg2⟩ := make_none 89 207 Tryz.underlying89 (by kernel_rfl) wr
  have hg3 := gb_trans hg hg2
  go_wp2
  go_loopw [6] (fun i wr => i = .int .i64 0 ∧ w.grownBy wr none) (fun _ _ => 0)
  case atStart => exact ⟨rfl, hg3⟩
  obtain ⟨rfl, hg⟩ := hrel
  go_wp2
  go_loopw [9] (fun i wr => i = .int .i64 0 ∧ w.grownBy wr none) (fun _ _ => 0)
  case atStart => exact ⟨rfl, hg⟩
  obtain ⟨rfl, hg⟩ := hrel
  go_wp2
  go_loopw [11] (fun i wr => i = .int .i64 0 ∧ w.grownBy wr none) (fun _ _ => 0)
  case atStart => exact ⟨rfl, hg⟩
  obtain ⟨rfl, hg⟩ := hrel
  go_wp2
  go_loopw [14] (fun i wr => i = .int .i64 0 ∧ w.grownBy wr none) (fun _ _ => 0)
  case atStart => exact ⟨rfl, hg⟩
  obtain ⟨rfl, hg⟩ := hrel
  go_wp2
  go_ret
  exact ⟨rfl, hg⟩
set_option maxRecDepth 100000 in
set_option maxHeartbeats 4000000 in
theorem flatFrames_nil (w : World) : Calls Tryz.prog 110 #[.slice none 0 0] w fun e w' => e = .returned (.bool true) ∧ w.grownBy w' none := by
  go_enter Tryz.func110, Tryz.ntmps110
  go_wp2
  go_loopw [3] (fun i wr => i = .int .i64 0 ∧ w.grownBy wr none) (fun _ _ => 0)
  case atStart => exact ⟨rfl, gb_refl _ _⟩
  obtain ⟨rfl, hg⟩ := hrel
  obtain ⟨w2, hmk, hg2⟩ := make_none 90 212 Tryz.underlying90 (by kernel_rfl) wr
  have hg3 := gb_trans hg hg2
  go_wp2
  go_loopw [6] (fun i wr => i = .int .i64 0 ∧ w.grownBy wr none) (fun _ _ => 0)
  case atStart => exact ⟨rfl, hg3⟩
  obtain ⟨rfl, hg⟩ := hrel
  go_wp2
  go_loopw [9] (fun i wr => i = .int .i64 0 ∧ w.grownBy wr none) (fun _ _ => 0)
  case atStart => exact ⟨rfl, hg⟩
  obtain ⟨rfl, hg⟩ := hrel
  go_wp2
  go_loopw [11] (fun i wr => i = .int .i64 0 ∧ w.grownBy wr none) (fun _ _ => 0)
  case atStart => exact ⟨rfl, hg⟩
  obtain ⟨rfl, hg⟩ := hrel
  go_wp2
  go_loopw [14] (fun i wr => i = .int .i64 0 ∧ w.grownBy wr none) (fun _ _ => 0)
  case atStart => exact ⟨rfl, hg⟩
  obtain ⟨rfl, hg⟩ := hrel
  go_wp2
  go_ret
  exact ⟨rfl, hg⟩
set_option maxRecDepth 100000 in
set_option maxHeartbeats 4000000 in
theorem flatPackets_nil (w : World) : Calls Tryz.prog 111 #[.slice none 0 0] w fun e w' => e = .returned (.bool true) ∧ w.grownBy w' none := by
  go_enter Tryz.func111, Tryz.ntmps111
  go_wp2
  go_loopw [3] (fun i wr => i = .int .i64 0 ∧ w.grownBy wr none) (fun _ _ => 0)
  case atStart => exact ⟨rfl, gb_refl _ _⟩
  obtain ⟨rfl, hg⟩ := hrel
  obtain ⟨w2, hmk, hg2⟩ := make_none 91 218 Tryz.underlying91 (by kernel_rfl) wr
  have hg3 := gb_trans hg hg2
  go_wp2
  go_loopw [6] (fun i wr => i = .int .i64 0 ∧ w.grownBy wr none) (fun _ _ => 0)
  case atStart => exact ⟨rfl, hg3⟩
  obtain ⟨rfl, hg⟩ := hrel
  go_wp2
  go_loopw [9] (fun i wr => i = .int .i64 0 ∧ w.grownBy wr none) (fun _ _ => 0)
  case atStart => exact ⟨rfl, hg⟩
  obtain ⟨rfl, hg⟩ := hrel
  go_wp2
  go_loopw [11] (fun i wr => i = .int .i64 0 ∧ w.grownBy wr none) (fun _ _ => 0)
  case atStart => exact ⟨rfl, hg⟩
  obtain ⟨rfl, hg⟩ := hrel
  go_wp2
  go_loopw [14] (fun i wr => i = .int .i64 0 ∧ w.grownBy wr none) (fun _ _ => 0)
  case atStart => exact ⟨rfl, hg⟩
  obtain ⟨rfl, hg⟩ := hrel
  go_wp2
  go_ret
  exact ⟨rfl, hg⟩
set_option maxRecDepth 100000 in
set_option maxHeartbeats 4000000 in
theorem flatEntries_nil (w : World) : Calls Tryz.prog 112 #[.slice none 0 0] w fun e w' => e = .returned (.bool true) ∧ w.grownBy w' none := by
  go_enter Tryz.func112, Tryz.ntmps112
  go_wp2
  go_loopw [3] (fun i wr => i = .int .i64 0 ∧ w.grownBy wr none) (fun _ _ => 0)
  case atStart => exact ⟨rfl, gb_refl _ _⟩
  obtain ⟨rfl, hg⟩ := hrel
  obtain ⟨w2, hmk, hg2⟩ := make_none 92 223 Tryz.underlying92 (by kernel_rfl) wr
  have hg3 := gb_trans hg hg2
  go_wp2
  go_loopw [6] (fun i wr => i = .int .i64 0 ∧ w.grownBy wr none) (fun _ _ => 0)
  case atStart => exact ⟨rfl, hg3⟩
  obtain ⟨rfl, hg⟩ := hrel
  go_wp2
  go_loopw [9] (fun i wr => i = .int .i64 0 ∧ w.grownBy wr none) (fun _ _ => 0)
  case atStart => exact ⟨rfl, hg⟩
  obtain ⟨rfl, hg⟩ := hrel
  go_wp2
  go_loopw [11] (fun i wr => i = .int .i64 0 ∧ w.grownBy wr none) (fun _ _ => 0)
  case atStart => exact ⟨rfl, hg⟩
  obtain ⟨rfl, hg⟩ := hrel
  go_wp2
  go_loopw [14] (fun i wr => i = .int .i64 0 ∧ w.grownBy wr none) (fun _ _ => 0)
  case atStart => exact ⟨rfl, hg⟩
  obtain ⟨rfl, hg⟩ := hrel
  go_wp2
  go_ret
  exact ⟨rfl, hg⟩
set_option maxRecDepth 100000 in
set_option maxHeartbeats 4000000 in
theorem flatHeldRow_nil (w : World) : Calls Tryz.prog 113 #[.slice none 0 0] w fun e w' => e = .returned (.bool true) ∧ w.grownBy w' none := by
  go_enter Tryz.func113, Tryz.ntmps113
  go_wp2
  go_loopw [3] (fun i wr => i = .int .i64 0 ∧ w.grownBy wr none) (fun _ _ => 0)
  case atStart => exact ⟨rfl, gb_refl _ _⟩
  obtain ⟨rfl, hg⟩ := hrel
  obtain ⟨w2, hmk, hg2⟩ := make_none 93 229 Tryz.underlying93 (by kernel_rfl) wr
  have hg3 := gb_trans hg hg2
  go_wp2
  go_loopw [6] (fun i wr => i = .int .i64 0 ∧ w.grownBy wr none) (fun _ _ => 0)
  case atStart => exact ⟨rfl, hg3⟩
  obtain ⟨rfl, hg⟩ := hrel
  go_wp2
  go_loopw [9] (fun i wr => i = .int .i64 0 ∧ w.grownBy wr none) (fun _ _ => 0)
  case atStart => exact ⟨rfl, hg⟩
  obtain ⟨rfl, hg⟩ := hrel
  go_wp2
  go_loopw [11] (fun i wr => i = .int .i64 0 ∧ w.grownBy wr none) (fun _ _ => 0)
  case atStart => exact ⟨rfl, hg⟩
  obtain ⟨rfl, hg⟩ := hrel
  go_wp2
  go_loopw [14] (fun i wr => i = .int .i64 0 ∧ w.grownBy wr none) (fun _ _ => 0)
  case atStart => exact ⟨rfl, hg⟩
  obtain ⟨rfl, hg⟩ := hrel
  go_wp2
  go_ret
  exact ⟨rfl, hg⟩
set_option maxRecDepth 100000 in
set_option maxHeartbeats 4000000 in
theorem flatConfigs_nil (w : World) : Calls Tryz.prog 114 #[.slice none 0 0] w fun e w' => e = .returned (.bool true) ∧ w.grownBy w' none := by
  go_enter Tryz.func114, Tryz.ntmps114
  go_wp2
  go_loopw [3] (fun i wr => i = .int .i64 0 ∧ w.grownBy wr none) (fun _ _ => 0)
  case atStart => exact ⟨rfl, gb_refl _ _⟩
  obtain ⟨rfl, hg⟩ := hrel
  obtain ⟨w2, hmk, hg2⟩ := make_none 94 234 Tryz.underlying94 (by kernel_rfl) wr
  have hg3 := gb_trans hg hg2
  go_wp2
  go_loopw [6] (fun i wr => i = .int .i64 0 ∧ w.grownBy wr none) (fun _ _ => 0)
  case atStart => exact ⟨rfl, hg3⟩
  obtain ⟨rfl, hg⟩ := hrel
  go_wp2
  go_loopw [9] (fun i wr => i = .int .i64 0 ∧ w.grownBy wr none) (fun _ _ => 0)
  case atStart => exact ⟨rfl, hg⟩
  obtain ⟨rfl, hg⟩ := hrel
  go_wp2
  go_loopw [11] (fun i wr => i = .int .i64 0 ∧ w.grownBy wr none) (fun _ _ => 0)
  case atStart => exact ⟨rfl, hg⟩
  obtain ⟨rfl, hg⟩ := hrel
  go_wp2
  go_loopw [14] (fun i wr => i = .int .i64 0 ∧ w.grownBy wr none) (fun _ _ => 0)
  case atStart => exact ⟨rfl, hg⟩
  obtain ⟨rfl, hg⟩ := hrel
  go_wp2
  go_ret
  exact ⟨rfl, hg⟩
set_option maxRecDepth 100000 in
set_option maxHeartbeats 4000000 in
theorem flatSteps_nil (w : World) : Calls Tryz.prog 115 #[.slice none 0 0] w fun e w' => e = .returned (.bool true) ∧ w.grownBy w' none := by
  go_enter Tryz.func115, Tryz.ntmps115
  go_wp2
  go_loopw [3] (fun i wr => i = .int .i64 0 ∧ w.grownBy wr none) (fun _ _ => 0)
  case atStart => exact ⟨rfl, gb_refl _ _⟩
  obtain ⟨rfl, hg⟩ := hrel
  obtain ⟨w2, hmk, hg2⟩ := make_none 95 239 Tryz.underlying95 (by kernel_rfl) wr
  have hg3 := gb_trans hg hg2
  go_wp2
  go_loopw [6] (fun i wr => i = .int .i64 0 ∧ w.grownBy wr none) (fun _ _ => 0)
  case atStart => exact ⟨rfl, hg3⟩
  obtain ⟨rfl, hg⟩ := hrel
  go_wp2
  go_loopw [9] (fun i wr => i = .int .i64 0 ∧ w.grownBy wr none) (fun _ _ => 0)
  case atStart => exact ⟨rfl, hg⟩
  obtain ⟨rfl, hg⟩ := hrel
  go_wp2
  go_loopw [11] (fun i wr => i = .int .i64 0 ∧ w.grownBy wr none) (fun _ _ => 0)
  case atStart => exact ⟨rfl, hg⟩
  obtain ⟨rfl, hg⟩ := hrel
  go_wp2
  go_loopw [14] (fun i wr => i = .int .i64 0 ∧ w.grownBy wr none) (fun _ _ => 0)
  case atStart => exact ⟨rfl, hg⟩
  obtain ⟨rfl, hg⟩ := hrel
  go_wp2
  go_ret
  exact ⟨rfl, hg⟩
set_option maxRecDepth 100000 in
set_option maxHeartbeats 4000000 in
theorem flatTales_nil (w : World) : Calls Tryz.prog 116 #[.slice none 0 0] w fun e w' => e = .returned (.bool true) ∧ w.grownBy w' none := by
  go_enter Tryz.func116, Tryz.ntmps116
  go_wp2
  go_loopw [3] (fun i wr => i = .int .i64 0 ∧ w.grownBy wr none) (fun _ _ => 0)
  case atStart => exact ⟨rfl, gb_refl _ _⟩
  obtain ⟨rfl, hg⟩ := hrel
  obtain ⟨w2, hmk, hg2⟩ := make_none 96 245 Tryz.underlying96 (by kernel_rfl) wr
  have hg3 := gb_trans hg hg2
  go_wp2
  go_loopw [6] (fun i wr => i = .int .i64 0 ∧ w.grownBy wr none) (fun _ _ => 0)
  case atStart => exact ⟨rfl, hg3⟩
  obtain ⟨rfl, hg⟩ := hrel
  go_wp2
  go_loopw [9] (fun i wr => i = .int .i64 0 ∧ w.grownBy wr none) (fun _ _ => 0)
  case atStart => exact ⟨rfl, hg⟩
  obtain ⟨rfl, hg⟩ := hrel
  go_wp2
  go_loopw [11] (fun i wr => i = .int .i64 0 ∧ w.grownBy wr none) (fun _ _ => 0)
  case atStart => exact ⟨rfl, hg⟩
  obtain ⟨rfl, hg⟩ := hrel
  go_wp2
  go_loopw [14] (fun i wr => i = .int .i64 0 ∧ w.grownBy wr none) (fun _ _ => 0)
  case atStart => exact ⟨rfl, hg⟩
  obtain ⟨rfl, hg⟩ := hrel
  go_wp2
  go_ret
  exact ⟨rfl, hg⟩
end Go.Proofs.YtlkiancedgaicaaGreat

/- The kit's bag, lists of bytes in it alone: apart. (gen_bag.py) -/
namespace Go.Proofs.YtlkiancedgaicaaGreat
open Go.RowKit Ow

theorem Lists.Apart.mono {V : Lists} {m LB a b : Nat} (h : V.Apart m LB a) (hab : a ≤ b) : V.Apart m LB b := ⟨h.apart, h.ls, fun j hj i e => Nat.lt_of_lt_of_le (h.old j hj i e) hab, h.small⟩
/-- what lies in a bag -/
structure BagB (w : World) (B LB m C : Nat) : Prop where
  lt : B < w.heap.size
  nil : ∀ i, i < 24 → i ≠ 5 → w.cell? ⟨B, i, none⟩ = some (.slice none 0 0)
  five : w.cell? ⟨B, 5, none⟩ = some (.slice (some ⟨LB, 0, none⟩) m C)
theorem BagB.stay {w w' : World} {B LB m C : Nat} (h : BagB w B LB m C) (hg : w.grownBy w' none) : BagB w' B LB m C :=
  ⟨Nat.lt_of_lt_of_le h.lt hg.size, fun i hi h5 => by rw [gb_cell hg h.lt (by simp)]; exact h.nil i hi h5, by rw [gb_cell hg h.lt (by simp)]; exact h.five⟩
theorem BagB.kb {S : Nat → Prop} {w w' : World} {B LB m C : Nat} (h : BagB w B LB m C) (hk : Kb S w w') (hs : ¬ S B) : BagB w' B LB m C :=
  ⟨Nat.lt_of_lt_of_le h.lt hk.size, fun i hi h5 => by rw [hk.cell (p := ⟨B, i, none⟩) h.lt hs]; exact h.nil i hi h5, by rw [hk.cell (p := ⟨B, 5, none⟩) h.lt hs]; exact h.five⟩
theorem FlatAt.from {V : Lists} {m LB : Nat} {w w1 w2 : World} {r : Nat → List Value} (h : FlatAt V m LB w1 w2 r) (hg : w.grownBy w1 none) : FlatAt V m LB w w2 r :=
  ⟨h.own, h.list, kb_trans (kb_stay (kb_refl _ _) hg) h.kept⟩
set_option maxRecDepth 100000 in
set_option maxHeartbeats 4000000 in
theorem apart_bytes {f : Nat → Nat → Nat} (hf : Marks f) (V : Lists) (m LB C B : Nat) (xs : Nat → List Value) (w : World) (hm : m ≤ 70000) (hC : m ≤ C) (hC2 : C < 9223372036854775808) (hV : V.Apart m LB w.heap.size) (hO : Owns w V m xs) (hL : ListAt w LB V m) (hB : BagB w B LB m C) (hBV : ∀ j, j < m → V.g j ≠ some B) :
    Calls Tryz.prog 57 #[.pointer (some ⟨B, 0, none⟩)] w fun e w' => e = .returned (.bool true) ∧ FlatAt V m LB w w' (fun j => mkV f j (V.n j)) := by
  have H := Lib.hid (And.intro hV (And.intro hO (And.intro hL hBV))); clear hV hO hL hBV
  have HF := Lib.hid hf; clear hf
  have HB0 := Lib.hid (And.intro hB (gb_refl w none)); clear hB
  have HM := Lib.hid (And.intro hm (And.intro hC hC2))
  go_enter Tryz.func57, Tryz.ntmps57
  have c := HB0.out.1.nil 0 (by decide) (by decide)
  go_wp2_with fail
  clear c
  refine (flatLimbs_nil _).mono ?_
  rintro e w1 ⟨rfl, h⟩
  have HB1 := Lib.hid (And.intro (HB0.out.1.stay h) (gb_trans HB0.out.2 h)); clear h HB0
  have c := HB1.out.1.nil 1 (by decide) (by decide)
  go_wp2_with fail
  clear c
  refine (flatWords_nil _).mono ?_
  rintro e w2 ⟨rfl, h⟩
  have HB2 := Lib.hid (And.intro (HB1.out.1.stay h) (gb_trans HB1.out.2 h)); clear h HB1
  have c := HB2.out.1.nil 2 (by decide) (by decide)
  go_wp2_with fail
  clear c
  refine (flatInts_nil _).mono ?_
  rintro e w3 ⟨rfl, h⟩
  have HB3 := Lib.hid (And.intro (HB2.out.1.stay h) (gb_trans HB2.out.2 h)); clear h HB2
  have c := HB3.out.1.nil 3 (by decide) (by decide)
  go_wp2_with fail
  clear c
  refine (flatLongs_nil _).mono ?_
  rintro e w4 ⟨rfl, h⟩
  have HB4 := Lib.hid (And.intro (HB3.out.1.stay h) (gb_trans HB3.out.2 h)); clear h HB3
  have c := HB4.out.1.nil 4 (by decide) (by decide)
  go_wp2_with fail
  clear c
  refine (flatTexts_nil _).mono ?_
  rintro e w5 ⟨rfl, h⟩
  have HB5 := Lib.hid (And.intro (HB4.out.1.stay h) (gb_trans HB4.out.2 h)); clear h HB4
  have c := HB5.out.1.five
  go_wp2_with fail
  clear c
  refine (flatB_any HF.out V m LB C xs _ HM.out.1 HM.out.2.1 HM.out.2.2 (H.out.1.mono HB5.out.2.size) (H.out.2.1.stay HB5.out.2) (H.out.2.2.1.grown HB5.out.2 (by simp))).mono ?_
  rintro e w6 ⟨rfl, h⟩
  have HB6 := Lib.hid (And.intro (HB5.out.1.kb h.kept (fun ⟨j, hj, e⟩ => H.out.2.2.2 j hj e)) (h.from HB5.out.2)); clear h HB5
  have c := HB6.out.1.nil 6 (by decide) (by decide)
  go_wp2_with fail
  clear c
  refine (flatTruths_nil _).mono ?_
  rintro e w7 ⟨rfl, h⟩
  have HB7 := Lib.hid (And.intro (HB6.out.1.stay h) (HB6.out.2.stay h)); clear h HB6
  have c := HB7.out.1.nil 7 (by decide) (by decide)
  go_wp2_with fail
  clear c
  refine (flatRows_nil _).mono ?_
  rintro e w8 ⟨rfl, h⟩
  have HB8 := Lib.hid (And.intro (HB7.out.1.stay h) (HB7.out.2.stay h)); clear h HB7
  have c := HB8.out.1.nil 8 (by decide) (by decide)
  go_wp2_with fail
  clear c
  refine (flatDots_nil _).mono ?_
  rintro e w9 ⟨rfl, h⟩
  have HB9 := Lib.hid (And.intro (HB8.out.1.stay h) (HB8.out.2.stay h)); clear h HB8
  have c := HB9.out.1.nil 9 (by decide) (by decide)
  go_wp2_with fail
  clear c
  refine (flatRecords_nil _).mono ?_
  rintro e w10 ⟨rfl, h⟩
  have HB10 := Lib.hid (And.intro (HB9.out.1.stay h) (HB9.out.2.stay h)); clear h HB9
  have c := HB10.out.1.nil 10 (by decide) (by decide)
  go_wp2_with fail
  clear c
  refine (flatLeaves_nil _).mono ?_
  rintro e w11 ⟨rfl, h⟩
  have HB11 := Lib.hid (And.intro (HB10.out.1.stay h) (HB10.out.2.stay h)); clear h HB10
  have c := HB11.out.1.nil 11 (by decide) (by decide)
  go_wp2_with fail
  clear c
  refine (flatGrants_nil _).mono ?_
  rintro e w12 ⟨rfl, h⟩
  have HB12 := Lib.hid (And.intro (HB11.out.1.stay h) (HB11.out.2.stay h)); clear h HB11
  have c := HB12.out.1.nil 12 (by decide) (by decide)
  go_wp2_with fail
  clear c
  refine (flatNodes_nil _).mono ?_
  rintro e w13 ⟨rfl, h⟩
  have HB13 := Lib.hid (And.intro (HB12.out.1.stay h) (HB12.out.2.stay h)); clear h HB12
  have c := HB13.out.1.nil 13 (by decide) (by decide)
  go_wp2_with fail
  clear c
  refine (flatStubs_nil _).mono ?_
  rintro e w14 ⟨rfl, h⟩
  have HB14 := Lib.hid (And.intro (HB13.out.1.stay h) (HB13.out.2.stay h)); clear h HB13
  have c := HB14.out.1.nil 14 (by decide) (by decide)
  go_wp2_with fail
  clear c
  refine (flatProofs_nil _).mono ?_
  rintro e w15 ⟨rfl, h⟩
  have HB15 := Lib.hid (And.intro (HB14.out.1.stay h) (HB14.out.2.stay h)); clear h HB14
  have c := HB15.out.1.nil 15 (by decide) (by decide)
  go_wp2_with fail
  clear c
  refine (flatRoots_nil _).mono ?_
  rintro e w16 ⟨rfl, h⟩
  have HB16 := Lib.hid (And.intro (HB15.out.1.stay h) (HB15.out.2.stay h)); clear h HB15
  have c := HB16.out.1.nil 16 (by decide) (by decide)
  go_wp2_with fail
  clear c
  refine (flatEvidenceRow_nil _).mono ?_
  rintro e w17 ⟨rfl, h⟩
  have HB17 := Lib.hid (And.intro (HB16.out.1.stay h) (HB16.out.2.stay h)); clear h HB16
  have c := HB17.out.1.nil 17 (by decide) (by decide)
  go_wp2_with fail
  clear c
  refine (flatFrames_nil _).mono ?_
  rintro e w18 ⟨rfl, h⟩
  have HB18 := Lib.hid (And.intro (HB17.out.1.stay h) (HB17.out.2.stay h)); clear h HB17
  have c := HB18.out.1.nil 18 (by decide) (by decide)
  go_wp2_with fail
  clear c
  refine (flatPackets_nil _).mono ?_
  rintro e w19 ⟨rfl, h⟩
  have HB19 := Lib.hid (And.intro (HB18.out.1.stay h) (HB18.out.2.stay h)); clear h HB18
  have c := HB19.out.1.nil 19 (by decide) (by decide)
  go_wp2_with fail
  clear c
  refine (flatEntries_nil _).mono ?_
  rintro e w20 ⟨rfl, h⟩
  have HB20 := Lib.hid (And.intro (HB19.out.1.stay h) (HB19.out.2.stay h)); clear h HB19
  have c := HB20.out.1.nil 20 (by decide) (by decide)
  go_wp2_with fail
  clear c
  refine (flatHeldRow_nil _).mono ?_
  rintro e w21 ⟨rfl, h⟩
  have HB21 := Lib.hid (And.intro (HB20.out.1.stay h) (HB20.out.2.stay h)); clear h HB20
  have c := HB21.out.1.nil 21 (by decide) (by decide)
  go_wp2_with fail
  clear c
  refine (flatConfigs_nil _).mono ?_
  rintro e w22 ⟨rfl, h⟩
  have HB22 := Lib.hid (And.intro (HB21.out.1.stay h) (HB21.out.2.stay h)); clear h HB21
  have c := HB22.out.1.nil 22 (by decide) (by decide)
  go_wp2_with fail
  clear c
  refine (flatSteps_nil _).mono ?_
  rintro e w23 ⟨rfl, h⟩
  have HB23 := Lib.hid (And.intro (HB22.out.1.stay h) (HB22.out.2.stay h)); clear h HB22
  have c := HB23.out.1.nil 23 (by decide) (by decide)
  go_wp2_with fail
  clear c
  refine (flatTales_nil _).mono ?_
  rintro e w24 ⟨rfl, h⟩
  have HB24 := Lib.hid (And.intro (HB23.out.1.stay h) (HB23.out.2.stay h)); clear h HB23
  go_wp2
  go_ret
  exact ⟨rfl, HB24.out.2⟩
end Go.Proofs.YtlkiancedgaicaaGreat

/- The kit's ApartBytes: lists of bytes that lie apart. -/
namespace Go.Proofs.YtlkiancedgaicaaGreat
open Go.RowKit Ow

set_option maxRecDepth 100000 in
set_option maxHeartbeats 1000000 in
theorem apartB_any {f : Nat → Nat → Nat} (hf : Marks f) (V : Lists) (m L0 C : Nat) (xs : Nat → List Value) (w : World) (hm : m ≤ 70000) (hm0 : 0 < m) (hC : m ≤ C) (hC2 : C < 9223372036854775808) (hV : V.Apart m L0 w.heap.size) (hO : Owns w V m xs) (hL : ListAt w L0 V m) :
    Calls Tryz.prog 21 #[.slice (some ⟨L0, 0, none⟩) m C] w fun e w' => e = .returned (.bool true) ∧ Owns w' V m (fun j => mkV f j (V.n j)) ∧ Kb (V.S m) w w' := by
  have H := Lib.hid (And.intro hV (And.intro hO hL)); clear hV hO hL
  have HF := Lib.hid hf; clear hf
  go_enter Tryz.func21, Tryz.ntmps21
  have hb0 : Blk (w.alloc (.cells (bagL (.slice none 0 0)).toArray 98)) w.heap.size 98 (bagL (.slice none 0 0)) := Blk.new w _ _
  have hg0 := World.grownBy_alloc w (.cells (bagL (.slice none 0 0)).toArray 98) none
  have H1 := Lib.hid (And.intro hb0 hg0); clear hb0 hg0
  generalize hB : w.heap.size = B at H1
  have HB := Lib.hid hB
  go_wp2_with fail
  go_loopw [4] (fun i wr => ∃ (k : Nat) (v : Value), k ≤ m ∧ i = .int .i64 k ∧ wr.ownsRow B 23 1 v k ((List.range k).map V.v) ∧ Blk wr B 98 (bagL v) ∧ w.grownBy wr none) (fun i _ => m - (intOf i).toNat)
  case atStart => exact ⟨0, .slice none 0 0, by omega, rfl, World.ownsRow_nil _ _ _ 1, H1.out.1, H1.out.2⟩
  case round =>
    clear H1 hB
    obtain ⟨k, v, hk, rfl, ho, hb, hg⟩ := hrel
    by_cases hlt : k < m
    · have i1 : (k : Int) < (m : Int) := by omega
      have kc : wr.cell? ⟨L0, k, none⟩ = some (.slice (V.A k) (V.n k) (V.C k)) := (H.out.2.2.grown hg (by simp)).cell hlt
      have hput := put_bytes wr B B k (V.n k) (V.C k) 98 (by decide) v (V.A k) _ ho hb (by omega) (by have := hg.size; have := HB.out; omega)
      have HI := Lib.hid (And.intro hput (And.intro hg ho)); clear hput hg ho hb
      go_wp2_with fail
      refine HI.out.1.mono ?_
      rintro e w5 ⟨⟨r, rfl⟩, v', ho', hb', hK⟩
      have hg' : w.grownBy w5 none := gb_kb HI.out.2.1 hK (fun i hi => by
        have e0 := HB.out
        rcases hi with rfl | hi
        · omega
        · rcases HI.out.2.2.2 with ⟨h0, _⟩ | ⟨g, c, cur, e1, hbg, _⟩
          · rw [h0] at hi; cases hi
          · rw [e1] at hi; have e2 : g = i := by simpa [Value.ownBlock] using hi
            omega)
      rw [show (List.range k).map V.v ++ [Value.slice (V.A k) (V.n k) (V.C k)] = (List.range (k + 1)).map V.v by rw [List.range_succ, List.map_append]; rfl] at ho'
      have HJ := Lib.hid (And.intro ho' (And.intro hb' hg')); clear ho' hb' hg' hK HI
      go_wp2_with fail
      go_roundw
      case rel => exact ⟨k + 1, v', hlt, by go_num, HJ.out⟩
      case measure => simp [intOf]; omega
    · obtain rfl : k = m := by omega
      obtain ⟨g, c, rfl, hbg, hnc, hcm, hlt2⟩ := own_some ho hm0
      have hc63 : c < 9223372036854775808 := by unfold maxLen at hcm; omega
      have hL : ListAt wr g V k := by
        rcases ho.2 with ⟨h0, _⟩ | ⟨g', c', cur, e1, _, hgb, _, _, _, ht⟩
        · cases h0
        · cases e1
          refine ⟨cur.toList.drop (k * 1), ?_⟩
          unfold Blk
          rw [hgb, ← ht, List.take_append_drop, Array.toArray_toList]
      have hV := H.out.1
      have hVg : V.Apart k g wr.heap.size := ⟨hV.apart, fun j hj e => by have := hV.old j hj _ e; have := HB.out; omega, fun j hj i e => Nat.lt_of_lt_of_le (hV.old j hj i e) hg.size, hV.small⟩
      have hap := apart_bytes HF.out V k g c B xs wr hm hnc hc63 hVg (H.out.2.1.stay hg) hL ⟨hb.lt, fun i hi h5 => hb.cell (bagL_nil _ i hi h5), hb.cell (bagL_five _)⟩ (fun j hj e => by have := hV.old j hj _ e; have := HB.out; omega)
      have HI := Lib.hid (And.intro hap hg); clear hap hg hb ho hL hVg hV
      go_wp2_with fail
      refine HI.out.1.mono ?_
      rintro e w5 ⟨rfl, hF⟩
      have HJ := Lib.hid (hF.from HI.out.2); clear hF
      go_wp2
      go_ret
      exact ⟨rfl, HJ.out.own, HJ.out.kept⟩
end Go.Proofs.YtlkiancedgaicaaGreat

/- ApartBytes of two rows of one's own. -/
namespace Go.Proofs.YtlkiancedgaicaaGreat
open Go.RowKit Ow
namespace Rc
def V2 (a1 a2 : Option Addr) (n1 n2 c1 c2 : Nat) : Lists := ⟨fun j => if j = 0 then a1 else a2, fun j => if j = 0 then n1 else n2, fun j => if j = 0 then c1 else c2⟩
theorem row_shape2 {w : World} {base e n : Nat} {v : Value} {xs : List Value} (h : w.ownsRow base e 1 v n xs) : ∃ a c, v = .slice a n c := by
  rcases own_shape h with ⟨rfl, h0⟩ | ⟨g, c, rfl⟩
  · exact ⟨none, 0, by rw [h0]⟩
  · exact ⟨_, _, rfl⟩
theorem two {P : Nat → Prop} (h0 : P 0) (h1 : P 1) : ∀ j, j < 2 → P j := fun j hj => by
  rcases (by omega : j = 0 ∨ j = 1) with rfl | rfl <;> assumption
theorem apart2 {f : Nat → Nat → Nat} (hf : Marks f) (w0 w : World) (v1 v2 : Value) (b n1 n2 : Nat) (x1 x2 : List Value) (hb : w0.heap.size ≤ b) (hg : w0.grownBy w none)
    (h1 : w.ownsRow b 5 1 v1 n1 x1) (h2 : w.ownsRow b 5 1 v2 n2 x2) (d12 : v1.ownBlock = none ∨ v1.ownBlock ≠ v2.ownBlock) (hs : n1 ≤ 100000 ∧ n2 ≤ 100000) :
    Calls Tryz.prog 21 #[.slice (some ⟨w.heap.size, 0, none⟩) 2 2] (w.alloc (.cells #[v1, v2] 23)) fun e w' => e = .returned (.bool true) ∧ w0.grownBy w' none := by
  obtain ⟨a1, c1, rfl⟩ := row_shape2 h1
  obtain ⟨a2, c2, rfl⟩ := row_shape2 h2
  have l1 := h1.lt
  have l2 := h2.lt
  have hgA : w.grownBy (w.alloc (.cells #[.slice a1 n1 c1, .slice a2 n2 c2] 23)) none := gb_alloc (gb_refl _ _) _
  have hB : Blk (w.alloc (.cells #[.slice a1 n1 c1, .slice a2 n2 c2] 23)) w.heap.size 23 [.slice a1 n1 c1, .slice a2 n2 c2] := Blk.new _ _ _
  have k1 := own_kept h1 hgA
  have k2 := own_kept h2 hgA
  generalize w.alloc (.cells #[.slice a1 n1 c1, .slice a2 n2 c2] 23) = W at *
  have e1 : ∀ (a : Option Addr) (n c : Nat), (Value.slice a n c).ownBlock = a.map (·.block) := fun a n c => by unfold Value.ownBlock; cases a <;> rfl
  rw [e1] at l1 l2
  simp only [e1] at d12
  have hsz := hgA.size
  have hV : (V2 a1 a2 n1 n2 c1 c2).Apart 2 w.heap.size W.heap.size := by
    refine ⟨?_, two ?_ ?_, two ?_ ?_, two hs.1 hs.2⟩
    · intro j k hj hk hne
      rcases (by omega : j = 0 ∨ j = 1) with rfl | rfl
      all_goals rcases (by omega : k = 0 ∨ k = 1) with rfl | rfl
      · exact absurd rfl hne
      · exact d12
      · exact (Classical.em ((V2 a1 a2 n1 n2 c1 c2).g 1 = none)).elim Or.inl fun hn => Or.inr fun e => d12.elim (fun h => hn (e.trans h)) (fun h => h e.symm)
      · exact absurd rfl hne
    · exact fun e => by have := (l1 _ e).2; omega
    · exact fun e => by have := (l2 _ e).2; omega
    · exact fun i e => by have := (l1 _ e).2; omega
    · exact fun i e => by have := (l2 _ e).2; omega
  have hO : Owns W (V2 a1 a2 n1 n2 c1 c2) 2 (fun j => if j = 0 then x1 else x2) := two (own_down k1 (Nat.zero_le _)) (own_down k2 (Nat.zero_le _))
  have hL : ListAt W w.heap.size (V2 a1 a2 n1 n2 c1 c2) 2 := ⟨[], hB⟩
  refine (apartB_any hf _ 2 w.heap.size 2 _ W (by omega) (by omega) (by omega) (by omega) hV hO hL).mono ?_
  rintro e w' ⟨rfl, _, hk⟩
  have hgW := gb_trans hg hgA
  refine ⟨rfl, hk.os.trans hgW.os, hk.tape.trans hgW.tape, hk.output.trans hgW.output, Nat.le_trans hgW.size hk.size, fun i hi hr => (hk.block i (Nat.lt_of_lt_of_le hi hgW.size) ?_).trans (hgW.block i hi hr)⟩
  rintro ⟨j, hj, e⟩
  revert e
  exact two (P := fun j => (V2 a1 a2 n1 n2 c1 c2).g j = some i → False) (fun e => by have := (l1 _ e).1; omega) (fun e => by have := (l2 _ e).1; omega) j hj
end Rc
end Go.Proofs.YtlkiancedgaicaaGreat
