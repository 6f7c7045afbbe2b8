/- texts merged, part 5: XSbRefOne XRcRefOver XSbRefRight XRcRefText XRcRefPut XSbRefPut XLent XVeLent XRcLent XKept XVeKept XRcKept XSbLentM XSbLent -/
import Derived.Test.YtlkiancedgaicaaGreatPtB2
import Derived.Test.YtlkiancedgaicaaGreatPtB3
import Derived.Test.YtlkiancedgaicaaGreatPtB4
import Derived.Deep.Cut
import Derived.Deep.CutRange
import Derived.Test.YtlkiancedgaicaaGreatPtB1
import Derived.BigQuiet
import Derived.Deep.QuietTactic
import Derived.BigGuardPart
import Derived.Laws.MakeOwn
import Derived.Lib.AppendZeros
import Derived.WalkKit
import Derived.Lib.Hide
import Derived.WalkSpells
import Derived.WalkLawsBesides
import Derived.Outline
import Derived.Deep.RegionHeld3
/- The document's sets: one, ahead. -/
namespace Go.Proofs.YtlkiancedgaicaaGreat
open Go.RowKit Ow Wi Ve Rc
namespace Sb
set_option maxRecDepth 100000 in
set_option maxHeartbeats 4000000 in
theorem refOne_any (B n c : Nat) (a : Option Addr) (l : List E) (w : World) (hn : l.length = n) (h : RRow w B a l) (hc : n < 9223372036854775808) :
    Calls Tryz.prog 74 #[.slice a n c] w fun e w' => e = .returned (.bool (alikeB (recs l))) ∧ w.grownBy w' none := by
  have H := Lib.hid h; clear h
  have HN := Lib.hid hn; clear hn
  obtain ⟨Q, hQ⟩ : ∃ Q : Ending → World → Prop, Q = fun e w' => e = .returned (.bool (alikeB (recs l))) ∧ w.grownBy w' none := ⟨_, rfl⟩
  rw [← hQ]
  have HQ : Hid (∀ b w', alikeB (recs l) = b → w.grownBy w' none → Q (.returned (.bool b)) w') := fun b w' h1 h2 => by rw [hQ]; exact ⟨by rw [h1], h2⟩
  clear hQ
  go_enter Tryz.func74, Tryz.ntmps74
  go_wp2_with fail
  go_loopw [3] (fun i wr => ∃ (k : Nat), k ≤ n ∧ i = .int .i64 k ∧ Hid (w.grownBy wr none ∧ ∀ j, j < k → rightB (l.getD j e0).2 = true ∧ (l.getD j e0).2.key = (l.getD 0 e0).2.key)) (fun i _ => n - (intOf i).toNat)
  case atStart => exact ⟨0, by omega, rfl, gb_refl _ _, fun j hj => absurd hj (by omega)⟩
  case round =>
    obtain ⟨k, hk, rfl, HI⟩ := hrel
    by_cases hlt : k < n
    · have hl : 0 < l.length := by rw [HN.out]; omega
      have hi : (k : Int) < (n : Int) := by omega
      obtain ⟨pb, po, rfl, hpb, hcs⟩ := (H.out.stay HI.out.1).at hl
      have hx := hcs k (by rw [HN.out]; exact hlt)
      have hy := hcs 0 hl
      have hra := H.out.recs _ (getD_mem (l := l) (i := k) (by rw [HN.out]; exact hlt))
      have hra0 := H.out.recs _ (getD_mem (l := l) (i := 0) hl)
      have hz := str_eq (l.getD k e0).1.s (l.getD 0 e0).1.s
      rw [hra.str, hra0.str] at hz
      obtain ⟨zR, hR⟩ : ∃ z, rightB (l.getD k e0).2 = z := ⟨_, rfl⟩
      obtain ⟨zM, hM⟩ : ∃ z, (!decide ((l.getD k e0).2.key = (l.getD 0 e0).2.key)) = z := ⟨_, rfl⟩
      have HK : Hid ((((!zR) || zM) = false → ∀ j, j < k + 1 → rightB (l.getD j e0).2 = true ∧ (l.getD j e0).2.key = (l.getD 0 e0).2.key) ∧ (((!zR) || zM) = true → alikeB (recs l) = false)) := by
        refine ⟨fun h j hj => ?_, fun h => ?_⟩
        · rcases (by omega : j < k ∨ j = k) with hj | rfl
          · exact HI.out.2 j hj
          · rw [← hR, ← hM] at h; simpa using h
        · cases hal : alikeB (recs l) with
          | false => rfl
          | true =>
            have := (alike_get l).1 hal k (by rw [HN.out]; exact hlt)
            rw [← hR, ← hM, this.1, decide_eq_true this.2] at h
            exact absurd h (by decide)
      have hr := fun w' (hg : w.grownBy w' none) => refRightR_any (l.getD k e0).2 B w' (l.getD k e0).1 (hra.stay hg)
      rw [hR] at hr
      rw [show decide ((l.getD k e0).2.key = (l.getD 0 e0).2.key) = !zM by rw [← hM, Bool.not_not]] at hz
      clear hra hra0 hR hM hcs
      obtain ⟨x, hxe⟩ : ∃ x, x = l.getD k e0 := ⟨_, rfl⟩
      rw [← hxe] at hx hr hz
      have hy : Cells7 wr pb po (l.getD 0 e0) := by simpa using hy
      obtain ⟨y, hye⟩ : ∃ y, y = l.getD 0 e0 := ⟨_, rfl⟩
      rw [← hye] at hy hz
      clear hxe hye
      obtain ⟨⟨rs, ra1, rn1, rd1, ra2, rn2, rd2, ra3, rn3, rd3⟩, ⟨rkey, rcl, rsq, rcx, rg, rval, rsig⟩⟩ := x
      obtain ⟨⟨rs', ra1', rn1', rd1', ra2', rn2', rd2', ra3', rn3', rd3'⟩, ⟨rkey', rcl', rsq', rcx', rg', rval', rsig'⟩⟩ := y
      have HXY := Lib.hid (And.intro (cells_of hx) (cells_of hy)); clear hx hy
      have HR : Hid (∀ w', w.grownBy w' none → Calls Tryz.prog 133 #[vV rs rcl rsq ra1 rn1 rd1 rg ra2 rn2 rd2 ra3 rn3 rd3] w' fun e w'' => e = .returned (.bool zR) ∧ w'.grownBy w'' none) := hr
      have HZ : Hid ((rs.toList == rs'.toList) = !zM) := hz
      clear hr hz
      obtain ⟨zN, hzN⟩ : ∃ z, z = ((!zR) || zM) := ⟨_, rfl⟩
      rw [← hzN] at HK
      have HZN := Lib.hid hzN
      clear hzN
      obtain ⟨w2, hw2⟩ : ∃ w2, w2 = wr := ⟨_, rfl⟩
      have HG2 := Lib.hid HI.out.1
      rw [← hw2] at HXY HG2
      clear HI
      go_wp2_with fail
      rw [← hw2]
      clear hw2 hi
      refine Fg.region_t [] [.any, .any, .any, .any, .any, .any, .any, .any, .any, .any, .val (Value.slice (some ⟨pb, po, none⟩) n c), .val (Value.int .i64 k), .val (Value.pointer (some ⟨pb, po + k * 7, none⟩)), .val (vV rs rcl rsq ra1 rn1 rd1 rg ra2 rn2 rd2 ra3 rn3 rd3), .val (Value.bool zR), (cond zR (.val (Value.bool false)) (.val (Value.bool true))), (cond zR (.val (Value.bool false)) (.val (Value.bool true))), (cond zR (.val (Value.slice (some ⟨pb, po, none⟩) n c)) (.val undef)), (cond zR (.val (Value.int .i64 k)) (.val undef)), (cond zR (.val (Value.pointer (some ⟨pb, po + k * 7, none⟩))) (.val undef)), (cond zR (.val (Value.pointer (some ⟨pb, po + k * 7, none⟩))) (.val undef)), (cond zR (.val (Value.string rs)) (.val undef)), (cond zR (.val (Value.slice (some ⟨pb, po, none⟩) n c)) (.val undef)), (cond zR (.val (Value.pointer (some ⟨pb, po, none⟩))) (.val undef)), (cond zR (.val (Value.pointer (some ⟨pb, po, none⟩))) (.val undef)), (cond zR (.val (Value.string rs')) (.val undef)), (cond zR (.val (Value.bool zM)) (.val undef)), .val (Value.bool zN)] w2 18 (gb_refl _ _) (by kernel_rfl) (by kernel_rfl) (by kernel_rfl) (by kernel_rfl) (by decide) (by kernel_rfl) ?_ ?_
      · refine ⟨Fg.vT rfl (by decide) fun ac w h => ?_, ?_⟩
        · have e0 : ac.tmps.getD 0 undef = Value.slice (some ⟨pb, po, none⟩) n c := h.rest 0 (by kernel_rfl)
          exact ⟨_, w, wants_none rfl, Fg.run_move rfl e0, gb_refl _ _, rfl⟩
        refine ⟨Fg.vT rfl (by decide) fun ac w h => ?_, ?_⟩
        · have e3 : ac.tmps.getD 3 undef = Value.int .i64 k := h.rest 3 (by kernel_rfl)
          exact ⟨_, w, wants_none rfl, Fg.run_move rfl e3, gb_refl _ _, rfl⟩
        refine ⟨Fg.vT rfl (by decide) fun ac w h => ?_, ?_⟩
        · have e10 : ac.tmps.getD 10 undef = Value.slice (some ⟨pb, po, none⟩) n c := h.dep 10 (by kernel_rfl)
          have e11 : ac.tmps.getD 11 undef = Value.int .i64 k := h.dep 11 (by kernel_rfl)
          have i0 : (k : Int) < (n : Int) := by omega
          refine ⟨.pointer (some ⟨pb, po + k * 7, none⟩), w, wants_none rfl, ?_, gb_refl _ _, rfl⟩
          clear h
          simp only [execOp, Act.eval, e10, e11]
          go_simp
        refine ⟨Fg.vT rfl (by decide) fun ac w h => ?_, ?_⟩
        · have e12 : ac.tmps.getD 12 undef = Value.pointer (some ⟨pb, po + k * 7, none⟩) := h.dep 12 (by kernel_rfl)
          have m0 : w.cell? ⟨pb, po + k * 7, none⟩ = some (.string rs) := by rw [gb_cell h.base (block_lt_of_cell (HXY.out.1.1)) (by simp)]; exact HXY.out.1.1
          have m1 : w.cell? ⟨pb, po + k * 7 + 1, none⟩ = some (iV rcl) := by rw [gb_cell h.base (block_lt_of_cell (HXY.out.1.2.1)) (by simp)]; exact HXY.out.1.2.1
          have m2 : w.cell? ⟨pb, po + k * 7 + 2, none⟩ = some (iV rsq) := by rw [gb_cell h.base (block_lt_of_cell (HXY.out.1.2.2.1)) (by simp)]; exact HXY.out.1.2.2.1
          have m3 : w.cell? ⟨pb, po + k * 7 + 3, none⟩ = some (.slice ra1 rn1 rd1) := by rw [gb_cell h.base (block_lt_of_cell (HXY.out.1.2.2.2.1)) (by simp)]; exact HXY.out.1.2.2.2.1
          have m4 : w.cell? ⟨pb, po + k * 7 + 4, none⟩ = some (.bool rg) := by rw [gb_cell h.base (block_lt_of_cell (HXY.out.1.2.2.2.2.1)) (by simp)]; exact HXY.out.1.2.2.2.2.1
          have m5 : w.cell? ⟨pb, po + k * 7 + 5, none⟩ = some (.slice ra2 rn2 rd2) := by rw [gb_cell h.base (block_lt_of_cell (HXY.out.1.2.2.2.2.2.1)) (by simp)]; exact HXY.out.1.2.2.2.2.2.1
          have m6 : w.cell? ⟨pb, po + k * 7 + 6, none⟩ = some (.slice ra3 rn3 rd3) := by rw [gb_cell h.base (block_lt_of_cell (HXY.out.1.2.2.2.2.2.2)) (by simp)]; exact HXY.out.1.2.2.2.2.2.2
          refine ⟨vV rs rcl rsq ra1 rn1 rd1 rg ra2 rn2 rd2 ra3 rn3 rd3, w, wants_none rfl, ?_, gb_refl _ _, rfl⟩
          clear h
          simp only [execOp, Act.eval, e12]
          go_simp
        refine ⟨Fg.cT rfl (by decide) fun ac w h => ?_, ?_⟩
        · have e13 : ac.tmps.getD 13 undef = vV rs rcl rsq ra1 rn1 rd1 rg ra2 rn2 rd2 ra3 rn3 rd3 := h.dep 13 (by kernel_rfl)
          refine ⟨133, #[vV rs rcl rsq ra1 rn1 rd1 rg ra2 rn2 rd2 ra3 rn3 rd3], wants_none rfl, Fg.run_call rfl rfl (by simp only [List.map_toArray, List.map_cons, List.map_nil, Act.eval, e13]) (Fg.run_enter Tryz.func133 (by kernel_rfl) (by kernel_rfl)), ?_⟩
          exact (HR.out w (gb_trans HG2.out h.base)).mono fun _ _ ⟨he, hg⟩ => ⟨_, he, hg, rfl⟩
        refine ⟨?_, ?_⟩
        · cases zR with
          | false =>
            refine Fg.vT rfl (by decide) fun ac w h => ?_
            have e14 : ac.tmps.getD 14 undef = Value.bool false := h.dep 14 (by kernel_rfl)
            refine ⟨Value.bool true, w, wants_none rfl, ?_, gb_refl _ _, rfl⟩
            clear h
            simp only [execOp, Act.eval, e14]
            go_simp
          | true =>
            refine Fg.vT rfl (by decide) fun ac w h => ?_
            have e14 : ac.tmps.getD 14 undef = Value.bool true := h.dep 14 (by kernel_rfl)
            refine ⟨Value.bool false, w, wants_none rfl, ?_, gb_refl _ _, rfl⟩
            clear h
            simp only [execOp, Act.eval, e14]
            go_simp
        refine ⟨?_, ?_⟩
        · cases zR with
          | false =>
            refine Fg.vT rfl (by decide) fun ac w h => ?_
            have e15 : ac.tmps.getD 15 undef = Value.bool true := h.dep 15 (by kernel_rfl)
            exact ⟨_, w, wants_none rfl, Fg.run_move rfl e15, gb_refl _ _, rfl⟩
          | true =>
            refine Fg.vT rfl (by decide) fun ac w h => ?_
            have e15 : ac.tmps.getD 15 undef = Value.bool false := h.dep 15 (by kernel_rfl)
            exact ⟨_, w, wants_none rfl, Fg.run_move rfl e15, gb_refl _ _, rfl⟩
        refine ⟨?_, ?_⟩
        · cases zR with
          | false =>
            refine Fg.sT rfl (by decide) (fun _ => rfl) fun ac w h => ?_
            have e16 : ac.tmps.getD 16 undef = Value.bool true := h.dep 16 (by kernel_rfl)
            exact not_wants (d := 16) rfl rfl (by rw [h.size]; show 16 < 28; decide) e16 (by decide)
          | true =>
            refine Fg.vT rfl (by decide) fun ac w h => ?_
            have e16 : ac.tmps.getD 16 undef = Value.bool false := h.dep 16 (by kernel_rfl)
            have e0 : ac.tmps.getD 0 undef = Value.slice (some ⟨pb, po, none⟩) n c := h.rest 0 (by kernel_rfl)
            exact ⟨_, w, wants_some (d := 16) rfl rfl (by rw [h.size]; show 16 < 28; decide) e16, Fg.run_move rfl e0, gb_refl _ _, rfl⟩
        refine ⟨?_, ?_⟩
        · cases zR with
          | false =>
            refine Fg.sT rfl (by decide) (fun _ => rfl) fun ac w h => ?_
            have e16 : ac.tmps.getD 16 undef = Value.bool true := h.dep 16 (by kernel_rfl)
            exact not_wants (d := 16) rfl rfl (by rw [h.size]; show 16 < 28; decide) e16 (by decide)
          | true =>
            refine Fg.vT rfl (by decide) fun ac w h => ?_
            have e16 : ac.tmps.getD 16 undef = Value.bool false := h.dep 16 (by kernel_rfl)
            have e3 : ac.tmps.getD 3 undef = Value.int .i64 k := h.rest 3 (by kernel_rfl)
            exact ⟨_, w, wants_some (d := 16) rfl rfl (by rw [h.size]; show 16 < 28; decide) e16, Fg.run_move rfl e3, gb_refl _ _, rfl⟩
        refine ⟨?_, ?_⟩
        · cases zR with
          | false =>
            refine Fg.sT rfl (by decide) (fun _ => rfl) fun ac w h => ?_
            have e16 : ac.tmps.getD 16 undef = Value.bool true := h.dep 16 (by kernel_rfl)
            exact not_wants (d := 16) rfl rfl (by rw [h.size]; show 16 < 28; decide) e16 (by decide)
          | true =>
            refine Fg.vT rfl (by decide) fun ac w h => ?_
            have e16 : ac.tmps.getD 16 undef = Value.bool false := h.dep 16 (by kernel_rfl)
            have e17 : ac.tmps.getD 17 undef = Value.slice (some ⟨pb, po, none⟩) n c := h.dep 17 (by kernel_rfl)
            have e18 : ac.tmps.getD 18 undef = Value.int .i64 k := h.dep 18 (by kernel_rfl)
            have i0 : (k : Int) < (n : Int) := by omega
            refine ⟨.pointer (some ⟨pb, po + k * 7, none⟩), w, wants_some (d := 16) rfl rfl (by rw [h.size]; show 16 < 28; decide) e16, ?_, gb_refl _ _, rfl⟩
            clear h
            simp only [execOp, Act.eval, e17, e18]
            go_simp
        refine ⟨?_, ?_⟩
        · cases zR with
          | false =>
            refine Fg.sT rfl (by decide) (fun _ => rfl) fun ac w h => ?_
            have e16 : ac.tmps.getD 16 undef = Value.bool true := h.dep 16 (by kernel_rfl)
            exact not_wants (d := 16) rfl rfl (by rw [h.size]; show 16 < 28; decide) e16 (by decide)
          | true =>
            refine Fg.vT rfl (by decide) fun ac w h => ?_
            have e16 : ac.tmps.getD 16 undef = Value.bool false := h.dep 16 (by kernel_rfl)
            have e19 : ac.tmps.getD 19 undef = Value.pointer (some ⟨pb, po + k * 7, none⟩) := h.dep 19 (by kernel_rfl)
            refine ⟨Value.pointer (some ⟨pb, po + k * 7, none⟩), w, wants_some (d := 16) rfl rfl (by rw [h.size]; show 16 < 28; decide) e16, ?_, gb_refl _ _, rfl⟩
            clear h
            simp only [execOp, Act.eval, e19]
            go_simp
        refine ⟨?_, ?_⟩
        · cases zR with
          | false =>
            refine Fg.sT rfl (by decide) (fun _ => rfl) fun ac w h => ?_
            have e16 : ac.tmps.getD 16 undef = Value.bool true := h.dep 16 (by kernel_rfl)
            exact not_wants (d := 16) rfl rfl (by rw [h.size]; show 16 < 28; decide) e16 (by decide)
          | true =>
            refine Fg.vT rfl (by decide) fun ac w h => ?_
            have e16 : ac.tmps.getD 16 undef = Value.bool false := h.dep 16 (by kernel_rfl)
            have e20 : ac.tmps.getD 20 undef = Value.pointer (some ⟨pb, po + k * 7, none⟩) := h.dep 20 (by kernel_rfl)
            have y0 : w.cell? ⟨pb, po + k * 7, none⟩ = some (.string rs) := by rw [gb_cell h.base (block_lt_of_cell (HXY.out.1.1)) (by simp)]; exact HXY.out.1.1
            refine ⟨Value.string rs, w, wants_some (d := 16) rfl rfl (by rw [h.size]; show 16 < 28; decide) e16, ?_, gb_refl _ _, rfl⟩
            clear h
            simp only [execOp, Act.eval, e20]
            go_simp
        refine ⟨?_, ?_⟩
        · cases zR with
          | false =>
            refine Fg.sT rfl (by decide) (fun _ => rfl) fun ac w h => ?_
            have e16 : ac.tmps.getD 16 undef = Value.bool true := h.dep 16 (by kernel_rfl)
            exact not_wants (d := 16) rfl rfl (by rw [h.size]; show 16 < 28; decide) e16 (by decide)
          | true =>
            refine Fg.vT rfl (by decide) fun ac w h => ?_
            have e16 : ac.tmps.getD 16 undef = Value.bool false := h.dep 16 (by kernel_rfl)
            have e0 : ac.tmps.getD 0 undef = Value.slice (some ⟨pb, po, none⟩) n c := h.rest 0 (by kernel_rfl)
            exact ⟨_, w, wants_some (d := 16) rfl rfl (by rw [h.size]; show 16 < 28; decide) e16, Fg.run_move rfl e0, gb_refl _ _, rfl⟩
        refine ⟨?_, ?_⟩
        · cases zR with
          | false =>
            refine Fg.sT rfl (by decide) (fun _ => rfl) fun ac w h => ?_
            have e16 : ac.tmps.getD 16 undef = Value.bool true := h.dep 16 (by kernel_rfl)
            exact not_wants (d := 16) rfl rfl (by rw [h.size]; show 16 < 28; decide) e16 (by decide)
          | true =>
            refine Fg.vT rfl (by decide) fun ac w h => ?_
            have e16 : ac.tmps.getD 16 undef = Value.bool false := h.dep 16 (by kernel_rfl)
            have e22 : ac.tmps.getD 22 undef = Value.slice (some ⟨pb, po, none⟩) n c := h.dep 22 (by kernel_rfl)
            have i0 : (0 : Int) < (n : Int) := by omega
            have i1 : ¬ n = 0 := by omega
            refine ⟨.pointer (some ⟨pb, po, none⟩), w, wants_some (d := 16) rfl rfl (by rw [h.size]; show 16 < 28; decide) e16, ?_, gb_refl _ _, rfl⟩
            clear h
            simp only [execOp, Act.eval, e22]
            go_simp
        refine ⟨?_, ?_⟩
        · cases zR with
          | false =>
            refine Fg.sT rfl (by decide) (fun _ => rfl) fun ac w h => ?_
            have e16 : ac.tmps.getD 16 undef = Value.bool true := h.dep 16 (by kernel_rfl)
            exact not_wants (d := 16) rfl rfl (by rw [h.size]; show 16 < 28; decide) e16 (by decide)
          | true =>
            refine Fg.vT rfl (by decide) fun ac w h => ?_
            have e16 : ac.tmps.getD 16 undef = Value.bool false := h.dep 16 (by kernel_rfl)
            have e23 : ac.tmps.getD 23 undef = Value.pointer (some ⟨pb, po, none⟩) := h.dep 23 (by kernel_rfl)
            refine ⟨Value.pointer (some ⟨pb, po, none⟩), w, wants_some (d := 16) rfl rfl (by rw [h.size]; show 16 < 28; decide) e16, ?_, gb_refl _ _, rfl⟩
            clear h
            simp only [execOp, Act.eval, e23]
            go_simp
        refine ⟨?_, ?_⟩
        · cases zR with
          | false =>
            refine Fg.sT rfl (by decide) (fun _ => rfl) fun ac w h => ?_
            have e16 : ac.tmps.getD 16 undef = Value.bool true := h.dep 16 (by kernel_rfl)
            exact not_wants (d := 16) rfl rfl (by rw [h.size]; show 16 < 28; decide) e16 (by decide)
          | true =>
            refine Fg.vT rfl (by decide) fun ac w h => ?_
            have e16 : ac.tmps.getD 16 undef = Value.bool false := h.dep 16 (by kernel_rfl)
            have e24 : ac.tmps.getD 24 undef = Value.pointer (some ⟨pb, po, none⟩) := h.dep 24 (by kernel_rfl)
            have y0 : w.cell? ⟨pb, po, none⟩ = some (.string rs') := by rw [gb_cell h.base (block_lt_of_cell (HXY.out.2.1)) (by simp)]; exact HXY.out.2.1
            refine ⟨Value.string rs', w, wants_some (d := 16) rfl rfl (by rw [h.size]; show 16 < 28; decide) e16, ?_, gb_refl _ _, rfl⟩
            clear h
            simp only [execOp, Act.eval, e24]
            go_simp
        refine ⟨?_, ?_⟩
        · cases zR with
          | false =>
            refine Fg.sT rfl (by decide) (fun _ => rfl) fun ac w h => ?_
            have e16 : ac.tmps.getD 16 undef = Value.bool true := h.dep 16 (by kernel_rfl)
            exact not_wants (d := 16) rfl rfl (by rw [h.size]; show 16 < 28; decide) e16 (by decide)
          | true =>
            refine Fg.vT rfl (by decide) fun ac w h => ?_
            have e16 : ac.tmps.getD 16 undef = Value.bool false := h.dep 16 (by kernel_rfl)
            have e21 : ac.tmps.getD 21 undef = Value.string rs := h.dep 21 (by kernel_rfl)
            have e25 : ac.tmps.getD 25 undef = Value.string rs' := h.dep 25 (by kernel_rfl)
            have hz := HZ.out
            refine ⟨.bool zM, w, wants_some (d := 16) rfl rfl (by rw [h.size]; show 16 < 28; decide) e16, ?_, gb_refl _ _, rfl⟩
            clear h
            simp only [execOp, Act.eval, e21, e25]
            go_simp
        refine ⟨?_, ?_⟩
        · cases zR with
          | false =>
            refine Fg.vT rfl (by decide) fun ac w h => ?_
            obtain rfl : zN = true := HZN.out
            have e16 : ac.tmps.getD 16 undef = Value.bool true := h.dep 16 (by kernel_rfl)
            refine ⟨Value.bool true, w, wants_none rfl, ?_, gb_refl _ _, rfl⟩
            clear h
            simp only [execOp, Act.eval, e16]
            go_simp
          | true =>
            cases zM with
            | false =>
              refine Fg.vT rfl (by decide) fun ac w h => ?_
              obtain rfl : zN = false := HZN.out
              have e16 : ac.tmps.getD 16 undef = Value.bool false := h.dep 16 (by kernel_rfl)
              have e26 : ac.tmps.getD 26 undef = Value.bool false := h.dep 26 (by kernel_rfl)
              refine ⟨Value.bool false, w, wants_none rfl, ?_, gb_refl _ _, rfl⟩
              clear h
              simp only [execOp, Act.eval, e16, e26]
              go_simp
            | true =>
              refine Fg.vT rfl (by decide) fun ac w h => ?_
              obtain rfl : zN = true := HZN.out
              have e16 : ac.tmps.getD 16 undef = Value.bool false := h.dep 16 (by kernel_rfl)
              have e26 : ac.tmps.getD 26 undef = Value.bool true := h.dep 26 (by kernel_rfl)
              refine ⟨Value.bool true, w, wants_none rfl, ?_, gb_refl _ _, rfl⟩
              clear h
              simp only [execOp, Act.eval, e16, e26]
              go_simp
        trivial
      · intro aq wq hB hsz hdf hrest hslots hpt
        obtain ⟨u10, e10⟩ : ∃ u, aq.tmps.getD 10 undef = u := ⟨_, rfl⟩
        obtain ⟨u11, e11⟩ : ∃ u, aq.tmps.getD 11 undef = u := ⟨_, rfl⟩
        obtain ⟨u12, e12⟩ : ∃ u, aq.tmps.getD 12 undef = u := ⟨_, rfl⟩
        obtain ⟨u13, e13⟩ : ∃ u, aq.tmps.getD 13 undef = u := ⟨_, rfl⟩
        obtain ⟨u14, e14⟩ : ∃ u, aq.tmps.getD 14 undef = u := ⟨_, rfl⟩
        obtain ⟨u15, e15⟩ : ∃ u, aq.tmps.getD 15 undef = u := ⟨_, rfl⟩
        obtain ⟨u16, e16⟩ : ∃ u, aq.tmps.getD 16 undef = u := ⟨_, rfl⟩
        obtain ⟨u17, e17⟩ : ∃ u, aq.tmps.getD 17 undef = u := ⟨_, rfl⟩
        obtain ⟨u18, e18⟩ : ∃ u, aq.tmps.getD 18 undef = u := ⟨_, rfl⟩
        obtain ⟨u19, e19⟩ : ∃ u, aq.tmps.getD 19 undef = u := ⟨_, rfl⟩
        obtain ⟨u20, e20⟩ : ∃ u, aq.tmps.getD 20 undef = u := ⟨_, rfl⟩
        obtain ⟨u21, e21⟩ : ∃ u, aq.tmps.getD 21 undef = u := ⟨_, rfl⟩
        obtain ⟨u22, e22⟩ : ∃ u, aq.tmps.getD 22 undef = u := ⟨_, rfl⟩
        obtain ⟨u23, e23⟩ : ∃ u, aq.tmps.getD 23 undef = u := ⟨_, rfl⟩
        obtain ⟨u24, e24⟩ : ∃ u, aq.tmps.getD 24 undef = u := ⟨_, rfl⟩
        obtain ⟨u25, e25⟩ : ∃ u, aq.tmps.getD 25 undef = u := ⟨_, rfl⟩
        obtain ⟨u26, e26⟩ : ∃ u, aq.tmps.getD 26 undef = u := ⟨_, rfl⟩
        have e27 : aq.tmps.getD 27 undef = Value.bool zN := hslots 27 (by kernel_rfl)
        obtain rfl := Fg.frame_is (a := aq) (vs := [Value.slice (some ⟨pb, po, none⟩) n c, undef, u2, Value.int .i64 k, Value.int .i64 k, Value.slice (some ⟨pb, po, none⟩) n c, Value.int .i64 n, Value.bool true, u8, u9, u10, u11, u12, u13, u14, u15, u16, u17, u18, u19, u20, u21, u22, u23, u24, u25, u26, Value.bool zN]) hsz ⟨hrest 0 (by kernel_rfl), hrest 1 (by kernel_rfl), hrest 2 (by kernel_rfl), hrest 3 (by kernel_rfl), hrest 4 (by kernel_rfl), hrest 5 (by kernel_rfl), hrest 6 (by kernel_rfl), hrest 7 (by kernel_rfl), hrest 8 (by kernel_rfl), hrest 9 (by kernel_rfl), e10, e11, e12, e13, e14, e15, e16, e17, e18, e19, e20, e21, e22, e23, e24, e25, e26, e27, trivial⟩ hdf
        clear hsz hdf hrest hslots hpt e10 e11 e12 e13 e14 e15 e16 e17 e18 e19 e20 e21 e22 e23 e24 e25 e26 e27
        have HGq := Lib.hid (gb_trans HG2.out hB)
        clear hB HR HZ HZN HXY HG2
        refine wpList_nil ?_
        cases zN with
        | true =>
          have HE := Lib.hid (HQ.out false _ (HK.out.2 rfl) HGq.out)
          go_wp2
          exact HE.out
        | false =>
          have HT := Lib.hid (HK.out.1 rfl)
          go_wp2
          exact ⟨⟨k + 1, by omega, rfl, HGq.out, HT.out⟩, by show n - ((k : Int) + 1).toNat < n - (k : Int).toNat; omega⟩
    · obtain rfl : k = n := by omega
      have HE := Lib.hid (HQ.out true _ ((alike_get l).2 (by rw [HN.out]; exact HI.out.2)) HI.out.1)
      clear hlt
      go_wp2
      exact HE.out
set_option maxHeartbeats 1000000 in
theorem refAhead_any (x y : E) (w : World) : Calls Tryz.prog 77 #[recV x, recV y] w fun e w' => e = .returned (.bool (lessD x.2 y.2)) ∧ w.grownBy w' none := by
  obtain ⟨Q, hQ⟩ : ∃ Q : Ending → World → Prop, Q = fun e w' => e = .returned (.bool (lessD x.2 y.2)) ∧ w.grownBy w' none := ⟨_, rfl⟩
  rw [← hQ]
  have HQ : Hid (∀ b w', lessD x.2 y.2 = b → w.grownBy w' none → Q (.returned (.bool b)) w') := fun b w' h1 h2 => by rw [hQ]; exact ⟨by rw [h1], h2⟩
  clear hQ
  have hl : ∀ b, (b = true ↔ (x.2.cl < y.2.cl ∨ x.2.cl = y.2.cl ∧ x.2.sq < y.2.sq)) → lessD x.2 y.2 = b := fun b h => by
    rw [Bool.eq_iff_iff, h, lessD_iff]
  obtain ⟨⟨rs, ra1, rn1, rd1, ra2, rn2, rd2, ra3, rn3, rd3⟩, ⟨rkey, rcl, rsq, rcx, rg, rval, rsig⟩⟩ := x
  obtain ⟨⟨rs', ra1', rn1', rd1', ra2', rn2', rd2', ra3', rn3', rd3'⟩, ⟨rkey', rcl', rsq', rcx', rg', rval', rsig'⟩⟩ := y
  simp only at hl
  show Calls _ _ #[vV rs rcl rsq ra1 rn1 rd1 rg ra2 rn2 rd2 ra3 rn3 rd3, vV rs' rcl' rsq' ra1' rn1' rd1' rg' ra2' rn2' rd2' ra3' rn3' rd3'] w _
  have HG := Lib.hid (gb_alloc (gb_alloc (gb_refl w none) (.cells #[.string rs, iV rcl, iV rsq, .slice ra1 rn1 rd1, .bool rg, .slice ra2 rn2 rd2, .slice ra3 rn3 rd3] 66)) (.cells #[.string rs', iV rcl', iV rsq', .slice ra1' rn1' rd1', .bool rg', .slice ra2' rn2' rd2', .slice ra3' rn3' rd3'] 66))
  by_cases h1 : rcl < rcl'
  · have HE := Lib.hid (HQ.out true _ (hl true (by simp [h1])) HG.out)
    clear hl
    go_enter Tryz.func77, Tryz.ntmps77
    go_wp2
    exact HE.out
  · by_cases h2 : rcl = rcl'
    · subst h2
      by_cases h3 : rsq < rsq'
      · have HE := Lib.hid (HQ.out true _ (hl true (by simp [h3])) HG.out)
        clear hl
        go_enter Tryz.func77, Tryz.ntmps77
        go_wp2
        exact HE.out
      · have HE := Lib.hid (HQ.out false _ (hl false (by simp [h3])) HG.out)
        clear hl
        go_enter Tryz.func77, Tryz.ntmps77
        go_wp2
        exact HE.out
    · have HE := Lib.hid (HQ.out false _ (hl false (by simp [h1, h2])) HG.out)
      clear hl
      go_enter Tryz.func77, Tryz.ntmps77
      go_wp2
      exact HE.out
end Sb
end Go.Proofs.YtlkiancedgaicaaGreat

/- The document's Over (buttressref08). (Printed by gen_rcrefover.py.) -/
namespace Go.Proofs.YtlkiancedgaicaaGreat
open Go.RowKit Ow Wi Ve
namespace Rc
set_option maxHeartbeats 2000000 in
set_option maxRecDepth 100000 in
theorem refOver_any (ra rb : R) (B1 B2 : Nat) (w : World) (qa qb : L) (ha : RAt w B1 qa ra) (hb : RAt w B2 qb rb) : Calls Tryz.prog 76 #[qa.v ra, qb.v rb] w fun e w' => e = .returned (.bool (overB ra rb)) ∧ w.grownBy w' none := by
  have HX := Lib.hid (fun w' (hg : w.grownBy w' none) => refShape_any (shapeB ra) ra B1 w' qa (ha.stay hg) rfl)
  have HY := Lib.hid (fun w' (hg : w.grownBy w' none) => refShape_any (shapeB rb) rb B2 w' qb (hb.stay hg) rfl)
  have HH := Lib.hid (fun w' (hg : w.grownBy w' none) => refHas_any B1 qa.n1 qa.c1 qa.a1 ra.cx rb.cl rb.sq w' ha.l1 (ha.dots.stay hg) ha.top)
  have hz := str_eq qa.s qb.s
  rw [ha.str, hb.str] at hz
  obtain ⟨o, ho⟩ : ∃ o, o = overB ra rb := ⟨_, rfl⟩
  rw [← ho]
  have ho' : o = (shapeB ra && shapeB rb && decide (ra.key = rb.key) && hasB ra.cx (rb.cl, rb.sq)) := ho
  rw [← hz] at ho'
  clear ha hb hz ho
  generalize hasB ra.cx (rb.cl, rb.sq) = t at *
  generalize shapeB ra = x at *
  generalize shapeB rb = y at *
  obtain ⟨s, a1, n1, c1, a2, n2, c2, a3, n3, c3⟩ := qa
  obtain ⟨key, cl, sq, cx, g, val, sig⟩ := ra
  obtain ⟨s', a1', n1', c1', a2', n2', c2', a3', n3', c3'⟩ := qb
  obtain ⟨key', cl', sq', cx', g', val', sig'⟩ := rb
  replace HX : Hid (∀ w' (_ : w.grownBy w' none), Calls Tryz.prog 135 #[vV s cl sq a1 n1 c1 g a2 n2 c2 a3 n3 c3] w' fun e w'' => e = .returned (.bool x) ∧ w'.grownBy w'' none) := HX
  replace HY : Hid (∀ w' (_ : w.grownBy w' none), Calls Tryz.prog 135 #[vV s' cl' sq' a1' n1' c1' g' a2' n2' c2' a3' n3' c3'] w' fun e w'' => e = .returned (.bool y) ∧ w'.grownBy w'' none) := HY
  replace HH : Hid (∀ w' (_ : w.grownBy w' none), Calls Tryz.prog 136 #[.slice a1 n1 c1, .agg #[iV cl', iV sq']] w' fun e w'' => e = .returned (.bool t) ∧ w'.grownBy w'' none) := HH
  simp only at ho'
  obtain ⟨z, hz⟩ : ∃ z, (s.toList == s'.toList) = z := ⟨_, rfl⟩
  rw [hz] at ho'
  have HO := Lib.hid ho'; clear ho'
  show Calls _ _ #[vV s cl sq a1 n1 c1 g a2 n2 c2 a3 n3 c3, vV s' cl' sq' a1' n1' c1' g' a2' n2' c2' a3' n3' c3'] w _
  obtain ⟨W1, hW1⟩ : ∃ W1, W1 = w.alloc (.cells #[.string s, iV cl, iV sq, .slice a1 n1 c1, .bool g, .slice a2 n2 c2, .slice a3 n3 c3] 66) := ⟨_, rfl⟩
  obtain ⟨W2, hW2⟩ : ∃ W2, W2 = (w.alloc (.cells #[.string s, iV cl, iV sq, .slice a1 n1 c1, .bool g, .slice a2 n2 c2, .slice a3 n3 c3] 66)).alloc (.cells #[.string s', iV cl', iV sq', .slice a1' n1' c1', .bool g', .slice a2' n2' c2', .slice a3' n3' c3'] 66) := ⟨_, rfl⟩
  obtain ⟨M1, hM1⟩ : ∃ M, M = w.heap.size := ⟨_, rfl⟩
  obtain ⟨M2, hM2⟩ : ∃ M, M = w.heap.size + 1 := ⟨_, rfl⟩
  have hb1 : Blk W1 M1 66 [.string s, iV cl, iV sq, .slice a1 n1 c1, .bool g, .slice a2 n2 c2, .slice a3 n3 c3] := by rw [hW1, hM1]; exact Blk.new _ _ _
  have hg1 : w.grownBy W1 none := by rw [hW1]; exact gb_alloc (gb_refl _ _) _
  have hg2 : W1.grownBy W2 none := by rw [hW2, ← hW1]; exact gb_alloc (gb_refl _ _) _
  have hs1 : W1.heap.size = M2 := by rw [hW1, hM2]; exact World.size_alloc _ _
  have hb2 : Blk W2 M2 66 [.string s', iV cl', iV sq', .slice a1' n1' c1', .bool g', .slice a2' n2' c2', .slice a3' n3' c3'] := by rw [hW2, ← hW1, ← hs1]; exact Blk.new _ _ _
  have HG0 := Lib.hid (And.intro (gb_trans hg1 hg2) (And.intro (hb1.grown hg2 (by simp)) hb2)); clear hb1 hg1 hg2 hs1 hb2 hW1
  have m0 := HG0.out.2.1.cell (i := 0) rfl
  have m1 := HG0.out.2.1.cell (i := 1) rfl
  have m2 := HG0.out.2.1.cell (i := 2) rfl
  have m3 := HG0.out.2.1.cell (i := 3) rfl
  have m4 := HG0.out.2.1.cell (i := 4) rfl
  have m5 := HG0.out.2.1.cell (i := 5) rfl
  have m6 := HG0.out.2.1.cell (i := 6) rfl
  have p0 := HG0.out.2.2.cell (i := 0) rfl
  have p1 := HG0.out.2.2.cell (i := 1) rfl
  have p2 := HG0.out.2.2.cell (i := 2) rfl
  have p3 := HG0.out.2.2.cell (i := 3) rfl
  have p4 := HG0.out.2.2.cell (i := 4) rfl
  have p5 := HG0.out.2.2.cell (i := 5) rfl
  have p6 := HG0.out.2.2.cell (i := 6) rfl
  go_enter Tryz.func76, Tryz.ntmps76
  go_wp2_with fail
  rw [← hW2, ← hM2, ← hM1]
  clear hW2 hM1 hM2
  refine (HX.out W2 HG0.out.1).mono ?_
  rintro e w3 ⟨rfl, hg⟩
  have H3 := Lib.hid (And.intro (gb_trans HG0.out.1 hg) (And.intro (HG0.out.2.1.grown hg (by simp)) (HG0.out.2.2.grown hg (by simp))))
  clear hg HG0 m0 m1 m2 m3 m4 m5 m6 p0 p1 p2 p3 p4 p5 p6
  cases x with
  | false =>
    go_wp2
    go_ret
    exact ⟨by rw [HO.out]; simp, H3.out.1⟩
  | true =>
    have m0 := H3.out.2.1.cell (i := 0) rfl
    have m1 := H3.out.2.1.cell (i := 1) rfl
    have m2 := H3.out.2.1.cell (i := 2) rfl
    have m3 := H3.out.2.1.cell (i := 3) rfl
    have m4 := H3.out.2.1.cell (i := 4) rfl
    have m5 := H3.out.2.1.cell (i := 5) rfl
    have m6 := H3.out.2.1.cell (i := 6) rfl
    have p0 := H3.out.2.2.cell (i := 0) rfl
    have p1 := H3.out.2.2.cell (i := 1) rfl
    have p2 := H3.out.2.2.cell (i := 2) rfl
    have p3 := H3.out.2.2.cell (i := 3) rfl
    have p4 := H3.out.2.2.cell (i := 4) rfl
    have p5 := H3.out.2.2.cell (i := 5) rfl
    have p6 := H3.out.2.2.cell (i := 6) rfl
    go_wp2_with fail
    refine (HY.out w3 H3.out.1).mono ?_
    rintro e w4 ⟨rfl, hg⟩
    have H4 := Lib.hid (And.intro (gb_trans H3.out.1 hg) (And.intro (H3.out.2.1.grown hg (by simp)) (H3.out.2.2.grown hg (by simp))))
    clear hg H3 m0 m1 m2 m3 m4 m5 m6 p0 p1 p2 p3 p4 p5 p6
    cases y with
    | false =>
      go_wp2
      go_ret
      exact ⟨by rw [HO.out]; simp, H4.out.1⟩
    | true =>
      have m0 := H4.out.2.1.cell (i := 0) rfl
      have m1 := H4.out.2.1.cell (i := 1) rfl
      have m2 := H4.out.2.1.cell (i := 2) rfl
      have m3 := H4.out.2.1.cell (i := 3) rfl
      have m4 := H4.out.2.1.cell (i := 4) rfl
      have m5 := H4.out.2.1.cell (i := 5) rfl
      have m6 := H4.out.2.1.cell (i := 6) rfl
      have p0 := H4.out.2.2.cell (i := 0) rfl
      have p1 := H4.out.2.2.cell (i := 1) rfl
      have p2 := H4.out.2.2.cell (i := 2) rfl
      have p3 := H4.out.2.2.cell (i := 3) rfl
      have p4 := H4.out.2.2.cell (i := 4) rfl
      have p5 := H4.out.2.2.cell (i := 5) rfl
      have p6 := H4.out.2.2.cell (i := 6) rfl
      cases z with
      | false =>
        go_wp2
        go_ret
        exact ⟨by rw [HO.out]; simp, H4.out.1⟩
      | true =>
        go_wp2_with fail
        refine (HH.out w4 H4.out.1).mono ?_
        rintro e w5 ⟨rfl, hg⟩
        have H5 := Lib.hid (gb_trans H4.out.1 hg)
        clear hg m0 m1 m2 m3 m4 m5 m6 p0 p1 p2 p3 p4 p5 p6
        go_wp2
        go_ret
        exact ⟨by rw [HO.out]; simp, H5.out⟩
end Rc
end Go.Proofs.YtlkiancedgaicaaGreat

/- The document's sets: Right. -/
namespace Go.Proofs.YtlkiancedgaicaaGreat
open Go.RowKit Ow Wi Ve Rc
namespace Sb
theorem set_get (l : List E) (ha : alikeB (recs l) = true) (h1 : ∀ i, i + 1 < l.length → lessD (l.getD i e0).2 (l.getD (i + 1) e0).2 = true) (h2 : ∀ i, i < l.length → ∀ k, k < l.length → i ≠ k → overB (l.getD i e0).2 (l.getD k e0).2 = false) : setB (recs l) = true := by
  have hm : ∀ r ∈ recs l, ∃ i, i < l.length ∧ (l.getD i e0).2 = r := fun r hr => by
    obtain ⟨x, hx, rfl⟩ := List.mem_map.1 hr
    obtain ⟨i, hi, rfl⟩ := List.getElem_of_mem hx
    exact ⟨i, hi, by rw [List.getD_eq_getElem?_getD, List.getElem?_eq_getElem hi]; rfl⟩
  unfold setB
  simp only [Bool.and_eq_true, Bool.not_eq_true', List.any_eq_false]
  refine ⟨⟨ha, (rises_get l).2 h1⟩, fun r hr => ?_⟩
  cases hu : underB (recs l) r with
  | false => simp
  | true =>
    obtain ⟨a, ha', ho⟩ := (under_iff ha hr).1 hu
    obtain ⟨i, hi, rfl⟩ := hm a ha'
    obtain ⟨k, hk, rfl⟩ := hm r hr
    by_cases e : i = k
    · subst e; rw [over_self] at ho; cases ho
    · rw [h2 i hi k hk e] at ho; cases ho
theorem set_not (l : List E) (h : alikeB (recs l) = false ∨ (∃ i, i + 1 < l.length ∧ lessD (l.getD i e0).2 (l.getD (i + 1) e0).2 = false) ∨ ∃ i k, i < l.length ∧ k < l.length ∧ overB (l.getD i e0).2 (l.getD k e0).2 = true) : setB (recs l) = false := by
  cases hs : setB (recs l) with
  | false => rfl
  | true =>
    obtain ⟨g1, g2, g3⟩ := set_of hs
    have hat : ∀ i, i < l.length → (l.getD i e0).2 ∈ recs l := fun i hi => List.mem_map.2 ⟨_, getD_mem hi, rfl⟩
    rcases h with h | ⟨i, hi, h⟩ | ⟨i, k, hi, hk, h⟩
    · rw [g1] at h; cases h
    · rw [(rises_get l).1 ((rises_iff _).2 g2) i hi] at h; cases h
    · have h3 := (under_iff g1 (hat k hk)).2 ⟨_, hat i hi, h⟩
      rw [g3 _ (hat k hk)] at h3; cases h3
set_option maxRecDepth 100000 in
set_option maxHeartbeats 4000000 in
theorem refRight9_any (B n c : Nat) (a : Option Addr) (l : List E) (w : World) (hn : l.length = n) (h : RRow w B a l) (hc : n < 9223372036854775808) :
    Calls Tryz.prog 45 #[.slice a n c] w fun e w' => e = .returned (.bool (setB (recs l))) ∧ w.grownBy w' none := by
  have HON := Lib.hid (refOne_any B n c a l w hn h hc)
  have H := Lib.hid h; clear h
  have HN := Lib.hid hn; clear hn
  obtain ⟨Q, hQ⟩ : ∃ Q : Ending → World → Prop, Q = fun e w' => e = .returned (.bool (setB (recs l))) ∧ w.grownBy w' none := ⟨_, rfl⟩
  rw [← hQ]
  have HQ : Hid (∀ b w', setB (recs l) = b → w.grownBy w' none → Q (.returned (.bool b)) w') := fun b w' h1 h2 => by rw [hQ]; exact ⟨by rw [h1], h2⟩
  clear hQ
  go_enter Tryz.func45, Tryz.ntmps45
  go_wp2_with fail
  refine HON.out.mono ?_
  rintro e w1 ⟨rfl, hg1⟩
  have HG1 := Lib.hid hg1; clear hg1 HON
  cases hal : alikeB (recs l) with
  | false =>
    have HE := Lib.hid (HQ.out false _ (set_not l (Or.inl hal)) HG1.out)
    clear hal
    go_wp2
    exact HE.out
  | true =>
    have HAL := Lib.hid hal; clear hal
    go_wp2_with fail
    go_loopw [3] (fun v wr => ∃ (i : Nat), i ≤ n ∧ v = .int .i64 i ∧ Hid (w.grownBy wr none ∧ (∀ j, j + 1 < n → j < i - 1 → lessD (l.getD j e0).2 (l.getD (j + 1) e0).2 = true) ∧ ∀ j, j < i → ∀ k, k < n → j ≠ k → overB (l.getD j e0).2 (l.getD k e0).2 = false)) (fun v _ => n - (intOf v).toNat)
    case atStart => exact ⟨0, by omega, rfl, HG1.out, fun j _ hj => absurd hj (by omega), fun j hj => absurd hj (by omega)⟩
    case round =>
      obtain ⟨i, hi, rfl, HI⟩ := hrel
      by_cases hlt : i < n
      · have hii : (i : Int) < (n : Int) := by omega
        have hl : 0 < l.length := by rw [HN.out]; omega
        obtain ⟨pb, po, rfl, hpb, hcs⟩ := H.out.at hl
        have HCS := Lib.hid hcs; clear hcs
        have HOV : Hid (∀ p q, p < n → q < n → ∀ w', w.grownBy w' none → Calls Tryz.prog 76 #[recV (l.getD p e0), recV (l.getD q e0)] w' fun e w'' => e = .returned (.bool (overB (l.getD p e0).2 (l.getD q e0).2)) ∧ w'.grownBy w'' none) := fun p q hp hq w' hg => refOver_any _ _ B B w' _ _ ((H.out.recs _ (getD_mem (by rw [HN.out]; exact hp))).stay hg) ((H.out.recs _ (getD_mem (by rw [HN.out]; exact hq))).stay hg)
        go_upto_region 6 with fail
        go_cut [28] from 14 to 27 (fun v wx => ∃ zB : Bool, v = .bool zB ∧ w.grownBy wx none ∧ (zB = true → ∃ j, j + 1 < n ∧ lessD (l.getD j e0).2 (l.getD (j + 1) e0).2 = false) ∧ (zB = false → ∀ j, j + 1 < n → j < i → lessD (l.getD j e0).2 (l.getD (j + 1) e0).2 = true))
        case first =>
          by_cases hi0 : i = 0
          · have HI0 : Hid (decide ((0 : Int) < (i : Int)) = false ∧ decide (0 < i) = false) := ⟨decide_eq_false (by omega), decide_eq_false (by omega)⟩
            have HT : Hid (∀ j, j + 1 < n → j < i → lessD (l.getD j e0).2 (l.getD (j + 1) e0).2 = true) := fun j _ hj => absurd hj (by omega)
            clear hi0
            obtain ⟨w2, hw2⟩ : ∃ w2, w2 = wr := ⟨_, rfl⟩
            have HG2 := Lib.hid HI.out.1
            rw [← hw2] at HG2 ⊢
            clear hw2
            refine Fg.region_t [] [.any, .any, .any, .any, .any, .any, .any, .any, .any, .any, .any, .any, .any, .any, .val (Value.int .i64 i), .val (Value.bool false), .val (Value.bool false), .val undef, .val undef, .val undef, .val undef, .val undef, .val undef, .val undef, .val undef, .val undef, .val undef, .val undef, .val (Value.bool false)] w2 15 (gb_refl _ _) (by kernel_rfl) (by kernel_rfl) (by kernel_rfl) (by kernel_rfl) (by decide) (by kernel_rfl) ?_ ?_
            · refine ⟨Fg.vT rfl (by decide) fun ac w h => ?_, ?_⟩
              · have e3 : ac.tmps.getD 3 undef = Value.int .i64 i := h.rest 3 (by kernel_rfl)
                exact ⟨_, w, wants_none rfl, Fg.run_move rfl e3, gb_refl _ _, rfl⟩
              refine ⟨Fg.vT rfl (by decide) fun ac w h => ?_, ?_⟩
              · have e14 : ac.tmps.getD 14 undef = Value.int .i64 i := h.dep 14 (by kernel_rfl)
                have i0 := HI0.out.1
                have i1 := HI0.out.2
                refine ⟨.bool false, w, wants_none rfl, ?_, gb_refl _ _, rfl⟩
                clear h
                simp only [execOp, Act.eval, e14]
                go_simp
              refine ⟨Fg.vT rfl (by decide) fun ac w h => ?_, ?_⟩
              · have e15 : ac.tmps.getD 15 undef = Value.bool false := h.dep 15 (by kernel_rfl)
                exact ⟨_, w, wants_none rfl, Fg.run_move rfl e15, gb_refl _ _, rfl⟩
              refine ⟨Fg.sT rfl (by decide) (fun _ => rfl) fun ac w h => ?_, ?_⟩
              · have e16 : ac.tmps.getD 16 undef = Value.bool false := h.dep 16 (by kernel_rfl)
                exact not_wants (d := 16) rfl rfl (by rw [h.size]; show 16 < 49; decide) e16 (by decide)
              refine ⟨Fg.sT rfl (by decide) (fun _ => rfl) fun ac w h => ?_, ?_⟩
              · have e16 : ac.tmps.getD 16 undef = Value.bool false := h.dep 16 (by kernel_rfl)
                exact not_wants (d := 16) rfl rfl (by rw [h.size]; show 16 < 49; decide) e16 (by decide)
              refine ⟨Fg.sT rfl (by decide) (fun _ => rfl) fun ac w h => ?_, ?_⟩
              · have e16 : ac.tmps.getD 16 undef = Value.bool false := h.dep 16 (by kernel_rfl)
                exact not_wants (d := 16) rfl rfl (by rw [h.size]; show 16 < 49; decide) e16 (by decide)
              refine ⟨Fg.sT rfl (by decide) (fun _ => rfl) fun ac w h => ?_, ?_⟩
              · have e16 : ac.tmps.getD 16 undef = Value.bool false := h.dep 16 (by kernel_rfl)
                exact not_wants (d := 16) rfl rfl (by rw [h.size]; show 16 < 49; decide) e16 (by decide)
              refine ⟨Fg.sT rfl (by decide) (fun _ => rfl) fun ac w h => ?_, ?_⟩
              · have e16 : ac.tmps.getD 16 undef = Value.bool false := h.dep 16 (by kernel_rfl)
                exact not_wants (d := 16) rfl rfl (by rw [h.size]; show 16 < 49; decide) e16 (by decide)
              refine ⟨Fg.sT rfl (by decide) (fun _ => rfl) fun ac w h => ?_, ?_⟩
              · have e16 : ac.tmps.getD 16 undef = Value.bool false := h.dep 16 (by kernel_rfl)
                exact not_wants (d := 16) rfl rfl (by rw [h.size]; show 16 < 49; decide) e16 (by decide)
              refine ⟨Fg.sT rfl (by decide) (fun _ => rfl) fun ac w h => ?_, ?_⟩
              · have e16 : ac.tmps.getD 16 undef = Value.bool false := h.dep 16 (by kernel_rfl)
                exact not_wants (d := 16) rfl rfl (by rw [h.size]; show 16 < 49; decide) e16 (by decide)
              refine ⟨Fg.sT rfl (by decide) (fun _ => rfl) fun ac w h => ?_, ?_⟩
              · have e16 : ac.tmps.getD 16 undef = Value.bool false := h.dep 16 (by kernel_rfl)
                exact not_wants (d := 16) rfl rfl (by rw [h.size]; show 16 < 49; decide) e16 (by decide)
              refine ⟨Fg.sT rfl (by decide) (fun _ => rfl) fun ac w h => ?_, ?_⟩
              · have e16 : ac.tmps.getD 16 undef = Value.bool false := h.dep 16 (by kernel_rfl)
                exact not_wants (d := 16) rfl rfl (by rw [h.size]; show 16 < 49; decide) e16 (by decide)
              refine ⟨Fg.sT rfl (by decide) (fun _ => rfl) fun ac w h => ?_, ?_⟩
              · have e16 : ac.tmps.getD 16 undef = Value.bool false := h.dep 16 (by kernel_rfl)
                exact not_wants (d := 16) rfl rfl (by rw [h.size]; show 16 < 49; decide) e16 (by decide)
              refine ⟨Fg.sT rfl (by decide) (fun _ => rfl) fun ac w h => ?_, ?_⟩
              · have e16 : ac.tmps.getD 16 undef = Value.bool false := h.dep 16 (by kernel_rfl)
                exact not_wants (d := 16) rfl rfl (by rw [h.size]; show 16 < 49; decide) e16 (by decide)
              refine ⟨Fg.vT rfl (by decide) fun ac w h => ?_, ?_⟩
              · have e16 : ac.tmps.getD 16 undef = Value.bool false := h.dep 16 (by kernel_rfl)
                refine ⟨Value.bool false, w, wants_none rfl, ?_, gb_refl _ _, rfl⟩
                clear h
                simp only [execOp, Act.eval, e16]
                go_simp
              trivial
            · intro aq wq hB hsz hdf hrest hslots hpt
              obtain ⟨u14, e14⟩ : ∃ u, aq.tmps.getD 14 undef = u := ⟨_, rfl⟩
              obtain ⟨u15, e15⟩ : ∃ u, aq.tmps.getD 15 undef = u := ⟨_, rfl⟩
              obtain ⟨u16, e16⟩ : ∃ u, aq.tmps.getD 16 undef = u := ⟨_, rfl⟩
              obtain ⟨u17, e17⟩ : ∃ u, aq.tmps.getD 17 undef = u := ⟨_, rfl⟩
              obtain ⟨u18, e18⟩ : ∃ u, aq.tmps.getD 18 undef = u := ⟨_, rfl⟩
              obtain ⟨u19, e19⟩ : ∃ u, aq.tmps.getD 19 undef = u := ⟨_, rfl⟩
              obtain ⟨u20, e20⟩ : ∃ u, aq.tmps.getD 20 undef = u := ⟨_, rfl⟩
              obtain ⟨u21, e21⟩ : ∃ u, aq.tmps.getD 21 undef = u := ⟨_, rfl⟩
              obtain ⟨u22, e22⟩ : ∃ u, aq.tmps.getD 22 undef = u := ⟨_, rfl⟩
              obtain ⟨u23, e23⟩ : ∃ u, aq.tmps.getD 23 undef = u := ⟨_, rfl⟩
              obtain ⟨u24, e24⟩ : ∃ u, aq.tmps.getD 24 undef = u := ⟨_, rfl⟩
              obtain ⟨u25, e25⟩ : ∃ u, aq.tmps.getD 25 undef = u := ⟨_, rfl⟩
              obtain ⟨u26, e26⟩ : ∃ u, aq.tmps.getD 26 undef = u := ⟨_, rfl⟩
              obtain ⟨u27, e27⟩ : ∃ u, aq.tmps.getD 27 undef = u := ⟨_, rfl⟩
              have e28 : aq.tmps.getD 28 undef = Value.bool false := hslots 28 (by kernel_rfl)
              obtain rfl := Fg.frame_is (a := aq) (vs := [Value.slice (some ⟨pb, po, none⟩) n c, undef, u2, Value.int .i64 i, u4, Value.slice (some ⟨pb, po, none⟩) n c, Value.bool true, Value.bool false, Value.int .i64 i, Value.slice (some ⟨pb, po, none⟩) n c, Value.int .i64 n, Value.bool true, u12, u13, u14, u15, u16, u17, u18, u19, u20, u21, u22, u23, u24, u25, u26, u27, Value.bool false, u29, u30, u31, u32, u33, u34, u35, u36, u37, u38, u39, u40, u41, u42, u43, u44, u45, u46, u47, u48]) hsz ⟨hrest 0 (by kernel_rfl), hrest 1 (by kernel_rfl), hrest 2 (by kernel_rfl), hrest 3 (by kernel_rfl), hrest 4 (by kernel_rfl), hrest 5 (by kernel_rfl), hrest 6 (by kernel_rfl), hrest 7 (by kernel_rfl), hrest 8 (by kernel_rfl), hrest 9 (by kernel_rfl), hrest 10 (by kernel_rfl), hrest 11 (by kernel_rfl), hrest 12 (by kernel_rfl), hrest 13 (by kernel_rfl), e14, e15, e16, e17, e18, e19, e20, e21, e22, e23, e24, e25, e26, e27, e28, hrest 29 (by kernel_rfl), hrest 30 (by kernel_rfl), hrest 31 (by kernel_rfl), hrest 32 (by kernel_rfl), hrest 33 (by kernel_rfl), hrest 34 (by kernel_rfl), hrest 35 (by kernel_rfl), hrest 36 (by kernel_rfl), hrest 37 (by kernel_rfl), hrest 38 (by kernel_rfl), hrest 39 (by kernel_rfl), hrest 40 (by kernel_rfl), hrest 41 (by kernel_rfl), hrest 42 (by kernel_rfl), hrest 43 (by kernel_rfl), hrest 44 (by kernel_rfl), hrest 45 (by kernel_rfl), hrest 46 (by kernel_rfl), hrest 47 (by kernel_rfl), hrest 48 (by kernel_rfl), trivial⟩ hdf
              clear hsz hdf hrest hslots hpt e14 e15 e16 e17 e18 e19 e20 e21 e22 e23 e24 e25 e26 e27 e28
              have HGq := Lib.hid (gb_trans HG2.out hB)
              clear hB
              refine wpList_nil ?_
              (first | (refine Met.intro ?_; dsimp only; (repeat apply Exists.intro); refine ⟨?rel, rfl⟩) | (go_wp2; go_meet) | go_meet)
              exact ⟨false, rfl, HGq.out, fun h => (by cases h), fun _ => HT.out⟩
          · obtain ⟨i1, hi1⟩ : ∃ i1, i1 + 1 = i := ⟨i - 1, by omega⟩
            have HI0 : Hid (decide ((0 : Int) < (i : Int)) = true ∧ decide (0 < i) = true ∧ IntKind.i64.wrap ((i : Int) - 1) = (i1 : Int)) := ⟨decide_eq_true (by omega), decide_eq_true (by omega), by rw [IntKind.wrap_i64]; omega⟩
            obtain ⟨zA, hA⟩ : ∃ z, lessD (l.getD i1 e0).2 (l.getD i e0).2 = z := ⟨_, rfl⟩
            obtain ⟨zB, hzB⟩ : ∃ z, z = !zA := ⟨_, rfl⟩
            have HT : Hid ((zB = true → ∃ j, j + 1 < n ∧ lessD (l.getD j e0).2 (l.getD (j + 1) e0).2 = false) ∧ (zB = false → ∀ j, j + 1 < n → j < i → lessD (l.getD j e0).2 (l.getD (j + 1) e0).2 = true)) := by
              refine ⟨fun h => ⟨i1, by omega, by rw [hi1, hA]; rw [hzB] at h; simpa using h⟩, fun h j hj1 hj => ?_⟩
              rcases (by omega : j < i - 1 ∨ j = i1) with hj | rfl
              · exact HI.out.2.1 j hj1 hj
              · rw [hi1, hA]; rw [hzB] at h; simpa using h
            have ha := fun w' => refAhead_any (l.getD i1 e0) (l.getD i e0) w'
            rw [hA] at ha
            have hx := HCS.out i (by rw [HN.out]; exact hlt)
            have hy := HCS.out i1 (by rw [HN.out]; omega)
            obtain ⟨x, hxe⟩ : ∃ x, x = l.getD i e0 := ⟨_, rfl⟩
            obtain ⟨y, hye⟩ : ∃ y, y = l.getD i1 e0 := ⟨_, rfl⟩
            have hG := HI.out.1
            simp only [← hxe, ← hye] at hx hy ha
            clear hxe hye hA
            obtain ⟨⟨rs, ra1, rn1, rd1, ra2, rn2, rd2, ra3, rn3, rd3⟩, ⟨rkey, rcl, rsq, rcx, rg, rval, rsig⟩⟩ := x
            obtain ⟨⟨rs', ra1', rn1', rd1', ra2', rn2', rd2', ra3', rn3', rd3'⟩, ⟨rkey', rcl', rsq', rcx', rg', rval', rsig'⟩⟩ := y
            obtain ⟨w2, hw2⟩ : ∃ w2, w2 = wr := ⟨_, rfl⟩
            rw [← hw2] at hG ⊢
            have HG2 := Lib.hid hG
            have HXY := Lib.hid (And.intro (cells_of (hx.stay hG)) (cells_of (hy.stay hG)))
            have HA : Hid (∀ w', w.grownBy w' none → Calls Tryz.prog 77 #[vV rs' rcl' rsq' ra1' rn1' rd1' rg' ra2' rn2' rd2' ra3' rn3' rd3', vV rs rcl rsq ra1 rn1 rd1 rg ra2 rn2 rd2 ra3 rn3 rd3] w' fun e w'' => e = .returned (.bool zA) ∧ w'.grownBy w'' none) := fun w' _ => ha w'
            have HZB := Lib.hid hzB
            clear hw2 hx hy ha hzB hG hi0
            refine Fg.region_t [] [.any, .any, .any, .any, .any, .any, .any, .any, .any, .any, .any, .any, .any, .any, .val (Value.int .i64 i), .val (Value.bool true), .val (Value.bool true), .val (Value.slice (some ⟨pb, po, none⟩) n c), .val (Value.int .i64 i), .val (Value.int .i64 i1), .val (Value.pointer (some ⟨pb, po + i1 * 7, none⟩)), .val (vV rs' rcl' rsq' ra1' rn1' rd1' rg' ra2' rn2' rd2' ra3' rn3' rd3'), .val (Value.slice (some ⟨pb, po, none⟩) n c), .val (Value.int .i64 i), .val (Value.pointer (some ⟨pb, po + i * 7, none⟩)), .val (vV rs rcl rsq ra1 rn1 rd1 rg ra2 rn2 rd2 ra3 rn3 rd3), .val (Value.bool zA), (cond zA (.val (Value.bool false)) (.val (Value.bool true))), .val (Value.bool zB)] w2 15 (gb_refl _ _) (by kernel_rfl) (by kernel_rfl) (by kernel_rfl) (by kernel_rfl) (by decide) (by kernel_rfl) ?_ ?_
            · refine ⟨Fg.vT rfl (by decide) fun ac w h => ?_, ?_⟩
              · have e3 : ac.tmps.getD 3 undef = Value.int .i64 i := h.rest 3 (by kernel_rfl)
                exact ⟨_, w, wants_none rfl, Fg.run_move rfl e3, gb_refl _ _, rfl⟩
              refine ⟨Fg.vT rfl (by decide) fun ac w h => ?_, ?_⟩
              · have e14 : ac.tmps.getD 14 undef = Value.int .i64 i := h.dep 14 (by kernel_rfl)
                have i0 := HI0.out.1
                have i1 := HI0.out.2.1
                refine ⟨.bool true, w, wants_none rfl, ?_, gb_refl _ _, rfl⟩
                clear h
                simp only [execOp, Act.eval, e14]
                go_simp
              refine ⟨Fg.vT rfl (by decide) fun ac w h => ?_, ?_⟩
              · have e15 : ac.tmps.getD 15 undef = Value.bool true := h.dep 15 (by kernel_rfl)
                exact ⟨_, w, wants_none rfl, Fg.run_move rfl e15, gb_refl _ _, rfl⟩
              refine ⟨Fg.vT rfl (by decide) fun ac w h => ?_, ?_⟩
              · have e16 : ac.tmps.getD 16 undef = Value.bool true := h.dep 16 (by kernel_rfl)
                have e0 : ac.tmps.getD 0 undef = Value.slice (some ⟨pb, po, none⟩) n c := h.rest 0 (by kernel_rfl)
                exact ⟨_, w, wants_some (d := 16) rfl rfl (by rw [h.size]; show 16 < 49; decide) e16, Fg.run_move rfl e0, gb_refl _ _, rfl⟩
              refine ⟨Fg.vT rfl (by decide) fun ac w h => ?_, ?_⟩
              · have e16 : ac.tmps.getD 16 undef = Value.bool true := h.dep 16 (by kernel_rfl)
                have e3 : ac.tmps.getD 3 undef = Value.int .i64 i := h.rest 3 (by kernel_rfl)
                exact ⟨_, w, wants_some (d := 16) rfl rfl (by rw [h.size]; show 16 < 49; decide) e16, Fg.run_move rfl e3, gb_refl _ _, rfl⟩
              refine ⟨Fg.vT rfl (by decide) fun ac w h => ?_, ?_⟩
              · have e16 : ac.tmps.getD 16 undef = Value.bool true := h.dep 16 (by kernel_rfl)
                have e18 : ac.tmps.getD 18 undef = Value.int .i64 i := h.dep 18 (by kernel_rfl)
                have i0 := HI0.out.2.2
                refine ⟨.int .i64 i1, w, wants_some (d := 16) rfl rfl (by rw [h.size]; show 16 < 49; decide) e16, ?_, gb_refl _ _, rfl⟩
                clear h
                simp only [execOp, Act.eval, e18]
                go_simp
              refine ⟨Fg.vT rfl (by decide) fun ac w h => ?_, ?_⟩
              · have e16 : ac.tmps.getD 16 undef = Value.bool true := h.dep 16 (by kernel_rfl)
                have e17 : ac.tmps.getD 17 undef = Value.slice (some ⟨pb, po, none⟩) n c := h.dep 17 (by kernel_rfl)
                have e19 : ac.tmps.getD 19 undef = Value.int .i64 i1 := h.dep 19 (by kernel_rfl)
                have i0 : (i1 : Int) < (n : Int) := by omega
                refine ⟨.pointer (some ⟨pb, po + i1 * 7, none⟩), w, wants_some (d := 16) rfl rfl (by rw [h.size]; show 16 < 49; decide) e16, ?_, gb_refl _ _, rfl⟩
                clear h
                simp only [execOp, Act.eval, e17, e19]
                go_simp
              refine ⟨Fg.vT rfl (by decide) fun ac w h => ?_, ?_⟩
              · have e16 : ac.tmps.getD 16 undef = Value.bool true := h.dep 16 (by kernel_rfl)
                have e20 : ac.tmps.getD 20 undef = Value.pointer (some ⟨pb, po + i1 * 7, none⟩) := h.dep 20 (by kernel_rfl)
                have m0 : w.cell? ⟨pb, po + i1 * 7, none⟩ = some (.string rs') := by rw [gb_cell h.base (block_lt_of_cell (HXY.out.2.1)) (by simp)]; exact HXY.out.2.1
                have m1 : w.cell? ⟨pb, po + i1 * 7 + 1, none⟩ = some (iV rcl') := by rw [gb_cell h.base (block_lt_of_cell (HXY.out.2.2.1)) (by simp)]; exact HXY.out.2.2.1
                have m2 : w.cell? ⟨pb, po + i1 * 7 + 2, none⟩ = some (iV rsq') := by rw [gb_cell h.base (block_lt_of_cell (HXY.out.2.2.2.1)) (by simp)]; exact HXY.out.2.2.2.1
                have m3 : w.cell? ⟨pb, po + i1 * 7 + 3, none⟩ = some (.slice ra1' rn1' rd1') := by rw [gb_cell h.base (block_lt_of_cell (HXY.out.2.2.2.2.1)) (by simp)]; exact HXY.out.2.2.2.2.1
                have m4 : w.cell? ⟨pb, po + i1 * 7 + 4, none⟩ = some (.bool rg') := by rw [gb_cell h.base (block_lt_of_cell (HXY.out.2.2.2.2.2.1)) (by simp)]; exact HXY.out.2.2.2.2.2.1
                have m5 : w.cell? ⟨pb, po + i1 * 7 + 5, none⟩ = some (.slice ra2' rn2' rd2') := by rw [gb_cell h.base (block_lt_of_cell (HXY.out.2.2.2.2.2.2.1)) (by simp)]; exact HXY.out.2.2.2.2.2.2.1
                have m6 : w.cell? ⟨pb, po + i1 * 7 + 6, none⟩ = some (.slice ra3' rn3' rd3') := by rw [gb_cell h.base (block_lt_of_cell (HXY.out.2.2.2.2.2.2.2)) (by simp)]; exact HXY.out.2.2.2.2.2.2.2
                refine ⟨vV rs' rcl' rsq' ra1' rn1' rd1' rg' ra2' rn2' rd2' ra3' rn3' rd3', w, wants_some (d := 16) rfl rfl (by rw [h.size]; show 16 < 49; decide) e16, ?_, gb_refl _ _, rfl⟩
                clear h
                simp only [execOp, Act.eval, e20]
                go_simp
              refine ⟨Fg.vT rfl (by decide) fun ac w h => ?_, ?_⟩
              · have e16 : ac.tmps.getD 16 undef = Value.bool true := h.dep 16 (by kernel_rfl)
                have e0 : ac.tmps.getD 0 undef = Value.slice (some ⟨pb, po, none⟩) n c := h.rest 0 (by kernel_rfl)
                exact ⟨_, w, wants_some (d := 16) rfl rfl (by rw [h.size]; show 16 < 49; decide) e16, Fg.run_move rfl e0, gb_refl _ _, rfl⟩
              refine ⟨Fg.vT rfl (by decide) fun ac w h => ?_, ?_⟩
              · have e16 : ac.tmps.getD 16 undef = Value.bool true := h.dep 16 (by kernel_rfl)
                have e3 : ac.tmps.getD 3 undef = Value.int .i64 i := h.rest 3 (by kernel_rfl)
                exact ⟨_, w, wants_some (d := 16) rfl rfl (by rw [h.size]; show 16 < 49; decide) e16, Fg.run_move rfl e3, gb_refl _ _, rfl⟩
              refine ⟨Fg.vT rfl (by decide) fun ac w h => ?_, ?_⟩
              · have e16 : ac.tmps.getD 16 undef = Value.bool true := h.dep 16 (by kernel_rfl)
                have e22 : ac.tmps.getD 22 undef = Value.slice (some ⟨pb, po, none⟩) n c := h.dep 22 (by kernel_rfl)
                have e23 : ac.tmps.getD 23 undef = Value.int .i64 i := h.dep 23 (by kernel_rfl)
                have i0 : (i : Int) < (n : Int) := by omega
                refine ⟨.pointer (some ⟨pb, po + i * 7, none⟩), w, wants_some (d := 16) rfl rfl (by rw [h.size]; show 16 < 49; decide) e16, ?_, gb_refl _ _, rfl⟩
                clear h
                simp only [execOp, Act.eval, e22, e23]
                go_simp
              refine ⟨Fg.vT rfl (by decide) fun ac w h => ?_, ?_⟩
              · have e16 : ac.tmps.getD 16 undef = Value.bool true := h.dep 16 (by kernel_rfl)
                have e24 : ac.tmps.getD 24 undef = Value.pointer (some ⟨pb, po + i * 7, none⟩) := h.dep 24 (by kernel_rfl)
                have m0 : w.cell? ⟨pb, po + i * 7, none⟩ = some (.string rs) := by rw [gb_cell h.base (block_lt_of_cell (HXY.out.1.1)) (by simp)]; exact HXY.out.1.1
                have m1 : w.cell? ⟨pb, po + i * 7 + 1, none⟩ = some (iV rcl) := by rw [gb_cell h.base (block_lt_of_cell (HXY.out.1.2.1)) (by simp)]; exact HXY.out.1.2.1
                have m2 : w.cell? ⟨pb, po + i * 7 + 2, none⟩ = some (iV rsq) := by rw [gb_cell h.base (block_lt_of_cell (HXY.out.1.2.2.1)) (by simp)]; exact HXY.out.1.2.2.1
                have m3 : w.cell? ⟨pb, po + i * 7 + 3, none⟩ = some (.slice ra1 rn1 rd1) := by rw [gb_cell h.base (block_lt_of_cell (HXY.out.1.2.2.2.1)) (by simp)]; exact HXY.out.1.2.2.2.1
                have m4 : w.cell? ⟨pb, po + i * 7 + 4, none⟩ = some (.bool rg) := by rw [gb_cell h.base (block_lt_of_cell (HXY.out.1.2.2.2.2.1)) (by simp)]; exact HXY.out.1.2.2.2.2.1
                have m5 : w.cell? ⟨pb, po + i * 7 + 5, none⟩ = some (.slice ra2 rn2 rd2) := by rw [gb_cell h.base (block_lt_of_cell (HXY.out.1.2.2.2.2.2.1)) (by simp)]; exact HXY.out.1.2.2.2.2.2.1
                have m6 : w.cell? ⟨pb, po + i * 7 + 6, none⟩ = some (.slice ra3 rn3 rd3) := by rw [gb_cell h.base (block_lt_of_cell (HXY.out.1.2.2.2.2.2.2)) (by simp)]; exact HXY.out.1.2.2.2.2.2.2
                refine ⟨vV rs rcl rsq ra1 rn1 rd1 rg ra2 rn2 rd2 ra3 rn3 rd3, w, wants_some (d := 16) rfl rfl (by rw [h.size]; show 16 < 49; decide) e16, ?_, gb_refl _ _, rfl⟩
                clear h
                simp only [execOp, Act.eval, e24]
                go_simp
              refine ⟨Fg.cT rfl (by decide) fun ac w h => ?_, ?_⟩
              · have e16 : ac.tmps.getD 16 undef = Value.bool true := h.dep 16 (by kernel_rfl)
                have e21 : ac.tmps.getD 21 undef = vV rs' rcl' rsq' ra1' rn1' rd1' rg' ra2' rn2' rd2' ra3' rn3' rd3' := h.dep 21 (by kernel_rfl)
                have e25 : ac.tmps.getD 25 undef = vV rs rcl rsq ra1 rn1 rd1 rg ra2 rn2 rd2 ra3 rn3 rd3 := h.dep 25 (by kernel_rfl)
                refine ⟨77, #[vV rs' rcl' rsq' ra1' rn1' rd1' rg' ra2' rn2' rd2' ra3' rn3' rd3', vV rs rcl rsq ra1 rn1 rd1 rg ra2 rn2 rd2 ra3 rn3 rd3], wants_some (d := 16) rfl rfl (by rw [h.size]; show 16 < 49; decide) e16, Fg.run_call rfl rfl (by simp only [List.map_toArray, List.map_cons, List.map_nil, Act.eval, e21, e25]) (Fg.run_enter Tryz.func77 (by kernel_rfl) (by kernel_rfl)), ?_⟩
                exact (HA.out w (gb_trans HG2.out h.base)).mono fun _ _ ⟨he, hg⟩ => ⟨_, he, hg, rfl⟩
              refine ⟨?_, ?_⟩
              · cases zA with
                | false =>
                  refine Fg.vT rfl (by decide) fun ac w h => ?_
                  have e16 : ac.tmps.getD 16 undef = Value.bool true := h.dep 16 (by kernel_rfl)
                  have e26 : ac.tmps.getD 26 undef = Value.bool false := h.dep 26 (by kernel_rfl)
                  refine ⟨Value.bool true, w, wants_some (d := 16) rfl rfl (by rw [h.size]; show 16 < 49; decide) e16, ?_, gb_refl _ _, rfl⟩
                  clear h
                  simp only [execOp, Act.eval, e26]
                  go_simp
                | true =>
                  refine Fg.vT rfl (by decide) fun ac w h => ?_
                  have e16 : ac.tmps.getD 16 undef = Value.bool true := h.dep 16 (by kernel_rfl)
                  have e26 : ac.tmps.getD 26 undef = Value.bool true := h.dep 26 (by kernel_rfl)
                  refine ⟨Value.bool false, w, wants_some (d := 16) rfl rfl (by rw [h.size]; show 16 < 49; decide) e16, ?_, gb_refl _ _, rfl⟩
                  clear h
                  simp only [execOp, Act.eval, e26]
                  go_simp
              refine ⟨?_, ?_⟩
              · cases zA with
                | false =>
                  refine Fg.vT rfl (by decide) fun ac w h => ?_
                  obtain rfl : zB = true := HZB.out
                  have e16 : ac.tmps.getD 16 undef = Value.bool true := h.dep 16 (by kernel_rfl)
                  have e27 : ac.tmps.getD 27 undef = Value.bool true := h.dep 27 (by kernel_rfl)
                  refine ⟨Value.bool true, w, wants_none rfl, ?_, gb_refl _ _, rfl⟩
                  clear h
                  simp only [execOp, Act.eval, e16, e27]
                  go_simp
                | true =>
                  refine Fg.vT rfl (by decide) fun ac w h => ?_
                  obtain rfl : zB = false := HZB.out
                  have e16 : ac.tmps.getD 16 undef = Value.bool true := h.dep 16 (by kernel_rfl)
                  have e27 : ac.tmps.getD 27 undef = Value.bool false := h.dep 27 (by kernel_rfl)
                  refine ⟨Value.bool false, w, wants_none rfl, ?_, gb_refl _ _, rfl⟩
                  clear h
                  simp only [execOp, Act.eval, e16, e27]
                  go_simp
              trivial
            · intro aq wq hB hsz hdf hrest hslots hpt
              obtain ⟨u14, e14⟩ : ∃ u, aq.tmps.getD 14 undef = u := ⟨_, rfl⟩
              obtain ⟨u15, e15⟩ : ∃ u, aq.tmps.getD 15 undef = u := ⟨_, rfl⟩
              obtain ⟨u16, e16⟩ : ∃ u, aq.tmps.getD 16 undef = u := ⟨_, rfl⟩
              obtain ⟨u17, e17⟩ : ∃ u, aq.tmps.getD 17 undef = u := ⟨_, rfl⟩
              obtain ⟨u18, e18⟩ : ∃ u, aq.tmps.getD 18 undef = u := ⟨_, rfl⟩
              obtain ⟨u19, e19⟩ : ∃ u, aq.tmps.getD 19 undef = u := ⟨_, rfl⟩
              obtain ⟨u20, e20⟩ : ∃ u, aq.tmps.getD 20 undef = u := ⟨_, rfl⟩
              obtain ⟨u21, e21⟩ : ∃ u, aq.tmps.getD 21 undef = u := ⟨_, rfl⟩
              obtain ⟨u22, e22⟩ : ∃ u, aq.tmps.getD 22 undef = u := ⟨_, rfl⟩
              obtain ⟨u23, e23⟩ : ∃ u, aq.tmps.getD 23 undef = u := ⟨_, rfl⟩
              obtain ⟨u24, e24⟩ : ∃ u, aq.tmps.getD 24 undef = u := ⟨_, rfl⟩
              obtain ⟨u25, e25⟩ : ∃ u, aq.tmps.getD 25 undef = u := ⟨_, rfl⟩
              obtain ⟨u26, e26⟩ : ∃ u, aq.tmps.getD 26 undef = u := ⟨_, rfl⟩
              obtain ⟨u27, e27⟩ : ∃ u, aq.tmps.getD 27 undef = u := ⟨_, rfl⟩
              have e28 : aq.tmps.getD 28 undef = Value.bool zB := hslots 28 (by kernel_rfl)
              obtain rfl := Fg.frame_is (a := aq) (vs := [Value.slice (some ⟨pb, po, none⟩) n c, undef, u2, Value.int .i64 i, u4, Value.slice (some ⟨pb, po, none⟩) n c, Value.bool true, Value.bool false, Value.int .i64 i, Value.slice (some ⟨pb, po, none⟩) n c, Value.int .i64 n, Value.bool true, u12, u13, u14, u15, u16, u17, u18, u19, u20, u21, u22, u23, u24, u25, u26, u27, Value.bool zB, u29, u30, u31, u32, u33, u34, u35, u36, u37, u38, u39, u40, u41, u42, u43, u44, u45, u46, u47, u48]) hsz ⟨hrest 0 (by kernel_rfl), hrest 1 (by kernel_rfl), hrest 2 (by kernel_rfl), hrest 3 (by kernel_rfl), hrest 4 (by kernel_rfl), hrest 5 (by kernel_rfl), hrest 6 (by kernel_rfl), hrest 7 (by kernel_rfl), hrest 8 (by kernel_rfl), hrest 9 (by kernel_rfl), hrest 10 (by kernel_rfl), hrest 11 (by kernel_rfl), hrest 12 (by kernel_rfl), hrest 13 (by kernel_rfl), e14, e15, e16, e17, e18, e19, e20, e21, e22, e23, e24, e25, e26, e27, e28, hrest 29 (by kernel_rfl), hrest 30 (by kernel_rfl), hrest 31 (by kernel_rfl), hrest 32 (by kernel_rfl), hrest 33 (by kernel_rfl), hrest 34 (by kernel_rfl), hrest 35 (by kernel_rfl), hrest 36 (by kernel_rfl), hrest 37 (by kernel_rfl), hrest 38 (by kernel_rfl), hrest 39 (by kernel_rfl), hrest 40 (by kernel_rfl), hrest 41 (by kernel_rfl), hrest 42 (by kernel_rfl), hrest 43 (by kernel_rfl), hrest 44 (by kernel_rfl), hrest 45 (by kernel_rfl), hrest 46 (by kernel_rfl), hrest 47 (by kernel_rfl), hrest 48 (by kernel_rfl), trivial⟩ hdf
              clear hsz hdf hrest hslots hpt e14 e15 e16 e17 e18 e19 e20 e21 e22 e23 e24 e25 e26 e27 e28
              have HGq := Lib.hid (gb_trans HG2.out hB)
              clear hB
              refine wpList_nil ?_
              (first | (refine Met.intro ?_; dsimp only; (repeat apply Exists.intro); refine ⟨?rel, rfl⟩) | (go_wp2; go_meet) | go_meet)
              exact ⟨zB, rfl, HGq.out, HT.out⟩
        case rest =>
          rename World => wx
          obtain ⟨zB, rfl, hgx, hz1, hz2⟩ := hcut
          have HG3 := Lib.hid hgx
          have HZ := Lib.hid (And.intro hz1 hz2)
          clear hgx hz1 hz2
          cases zB with
          | true =>
            have HE := Lib.hid (HQ.out false _ (set_not l (Or.inr (Or.inl (by rw [HN.out]; exact HZ.out.1 rfl)))) HG3.out)
            go_wp2
            exact HE.out
          | false =>
            have HR1 := Lib.hid (HZ.out.2 rfl)
            clear HZ
            go_wp2_with fail
            go_loopw [4] (fun v w3 => ∃ (k : Nat), k ≤ n ∧ v = .int .i64 k ∧ Hid (w.grownBy w3 none ∧ ∀ q, q < k → i ≠ q → overB (l.getD i e0).2 (l.getD q e0).2 = false)) (fun v _ => n - (intOf v).toNat)
            case atStart => exact ⟨0, by omega, rfl, HG3.out, fun q hq => absurd hq (by omega)⟩
            case round =>
              obtain ⟨k, hk, rfl, HJ⟩ := hrel
              by_cases hkl : k < n
              · have hki : (k : Int) < (n : Int) := by omega
                obtain ⟨zN, hzN⟩ : ∃ z, z = decide (i ≠ k) := ⟨_, rfl⟩
                have HNE : Hid ((!decide ((i : Int) = (k : Int))) = zN ∧ ((i : Int) != (k : Int)) = zN) := by
                  rw [hzN]
                  refine ⟨?_, ?_⟩ <;> rw [Bool.eq_iff_iff] <;> simp <;> omega
                obtain ⟨zO, hO⟩ : ∃ z, overB (l.getD i e0).2 (l.getD k e0).2 = z := ⟨_, rfl⟩
                obtain ⟨zW, hzW⟩ : ∃ z, z = (zN && zO) := ⟨_, rfl⟩
                have HT : Hid ((zW = true → setB (recs l) = false) ∧ (zW = false → ∀ q, q < k + 1 → i ≠ q → overB (l.getD i e0).2 (l.getD q e0).2 = false)) := by
                  refine ⟨fun h => set_not l (Or.inr (Or.inr ⟨i, k, by rw [HN.out]; exact hlt, by rw [HN.out]; exact hkl, ?_⟩)), fun h q hq hne => ?_⟩
                  · rw [hzW] at h; simp only [Bool.and_eq_true] at h; rw [hO]; exact h.2
                  · rcases (by omega : q < k ∨ q = k) with hq | rfl
                    · exact HJ.out.2 q hq hne
                    · rw [hzW, hzN, decide_eq_true hne, Bool.true_and] at h; exact hO.trans h
                have ho := HOV.out i k hlt hkl
                rw [hO] at ho
                have hx := HCS.out i (by rw [HN.out]; exact hlt)
                have hy := HCS.out k (by rw [HN.out]; exact hkl)
                obtain ⟨x, hxe⟩ : ∃ x, x = l.getD i e0 := ⟨_, rfl⟩
                obtain ⟨y, hye⟩ : ∃ y, y = l.getD k e0 := ⟨_, rfl⟩
                have hG := HJ.out.1
                simp only [← hxe, ← hye] at hx hy ho
                clear hxe hye hO
                obtain ⟨⟨rs, ra1, rn1, rd1, ra2, rn2, rd2, ra3, rn3, rd3⟩, ⟨rkey, rcl, rsq, rcx, rg, rval, rsig⟩⟩ := x
                obtain ⟨⟨rs', ra1', rn1', rd1', ra2', rn2', rd2', ra3', rn3', rd3'⟩, ⟨rkey', rcl', rsq', rcx', rg', rval', rsig'⟩⟩ := y
                obtain ⟨w2, hw2⟩ : ∃ w2, w2 = wr := ⟨_, rfl⟩
                have HG2 := Lib.hid hG
                have HXY := Lib.hid (And.intro (cells_of (hx.stay hG)) (cells_of (hy.stay hG)))
                rw [← hw2] at HG2 HXY
                have HO : Hid (∀ w', w.grownBy w' none → Calls Tryz.prog 76 #[vV rs rcl rsq ra1 rn1 rd1 rg ra2 rn2 rd2 ra3 rn3 rd3, vV rs' rcl' rsq' ra1' rn1' rd1' rg' ra2' rn2' rd2' ra3' rn3' rd3'] w' fun e w'' => e = .returned (.bool zO) ∧ w'.grownBy w'' none) := ho
                have HZW := Lib.hid hzW
                clear hx hy ho hzW hG hzN HJ
                go_wp2_with fail
                rw [← hw2]
                clear hw2
                refine Fg.region_t [] [.any, .any, .any, .any, .any, .any, .any, .any, .any, .any, .any, .any, .any, .any, .any, .any, .any, .any, .any, .any, .any, .any, .any, .any, .any, .any, .any, .any, .any, .any, .any, .any, .any, .any, .any, .val (Value.int .i64 i), .val (Value.int .i64 k), .val (Value.bool zN), .val (Value.bool zN), (cond zN (.val (Value.slice (some ⟨pb, po, none⟩) n c)) (.val undef)), (cond zN (.val (Value.int .i64 i)) (.val undef)), (cond zN (.val (Value.pointer (some ⟨pb, po + i * 7, none⟩))) (.val undef)), (cond zN (.val (vV rs rcl rsq ra1 rn1 rd1 rg ra2 rn2 rd2 ra3 rn3 rd3)) (.val undef)), (cond zN (.val (Value.slice (some ⟨pb, po, none⟩) n c)) (.val undef)), (cond zN (.val (Value.int .i64 k)) (.val undef)), (cond zN (.val (Value.pointer (some ⟨pb, po + k * 7, none⟩))) (.val undef)), (cond zN (.val (vV rs' rcl' rsq' ra1' rn1' rd1' rg' ra2' rn2' rd2' ra3' rn3' rd3')) (.val undef)), (cond zN (.val (Value.bool zO)) (.val undef)), .val (Value.bool zW)] w2 14 (gb_refl _ _) (by kernel_rfl) (by kernel_rfl) (by kernel_rfl) (by kernel_rfl) (by decide) (by kernel_rfl) ?_ ?_
                · refine ⟨Fg.vT rfl (by decide) fun ac w h => ?_, ?_⟩
                  · have e3 : ac.tmps.getD 3 undef = Value.int .i64 i := h.rest 3 (by kernel_rfl)
                    exact ⟨_, w, wants_none rfl, Fg.run_move rfl e3, gb_refl _ _, rfl⟩
                  refine ⟨Fg.vT rfl (by decide) fun ac w h => ?_, ?_⟩
                  · have e4 : ac.tmps.getD 4 undef = Value.int .i64 k := h.rest 4 (by kernel_rfl)
                    exact ⟨_, w, wants_none rfl, Fg.run_move rfl e4, gb_refl _ _, rfl⟩
                  refine ⟨Fg.vT rfl (by decide) fun ac w h => ?_, ?_⟩
                  · have e35 : ac.tmps.getD 35 undef = Value.int .i64 i := h.dep 35 (by kernel_rfl)
                    have e36 : ac.tmps.getD 36 undef = Value.int .i64 k := h.dep 36 (by kernel_rfl)
                    have i0 := HNE.out.1
                    have i1 := HNE.out.2
                    refine ⟨.bool zN, w, wants_none rfl, ?_, gb_refl _ _, rfl⟩
                    clear h
                    simp only [execOp, Act.eval, e35, e36]
                    go_simp
                  refine ⟨Fg.vT rfl (by decide) fun ac w h => ?_, ?_⟩
                  · have e37 : ac.tmps.getD 37 undef = Value.bool zN := h.dep 37 (by kernel_rfl)
                    exact ⟨_, w, wants_none rfl, Fg.run_move rfl e37, gb_refl _ _, rfl⟩
                  refine ⟨?_, ?_⟩
                  · cases zN with
                    | false =>
                      refine Fg.sT rfl (by decide) (fun _ => rfl) fun ac w h => ?_
                      have e38 : ac.tmps.getD 38 undef = Value.bool false := h.dep 38 (by kernel_rfl)
                      exact not_wants (d := 38) rfl rfl (by rw [h.size]; show 38 < 49; decide) e38 (by decide)
                    | true =>
                      refine Fg.vT rfl (by decide) fun ac w h => ?_
                      have e38 : ac.tmps.getD 38 undef = Value.bool true := h.dep 38 (by kernel_rfl)
                      have e0 : ac.tmps.getD 0 undef = Value.slice (some ⟨pb, po, none⟩) n c := h.rest 0 (by kernel_rfl)
                      exact ⟨_, w, wants_some (d := 38) rfl rfl (by rw [h.size]; show 38 < 49; decide) e38, Fg.run_move rfl e0, gb_refl _ _, rfl⟩
                  refine ⟨?_, ?_⟩
                  · cases zN with
                    | false =>
                      refine Fg.sT rfl (by decide) (fun _ => rfl) fun ac w h => ?_
                      have e38 : ac.tmps.getD 38 undef = Value.bool false := h.dep 38 (by kernel_rfl)
                      exact not_wants (d := 38) rfl rfl (by rw [h.size]; show 38 < 49; decide) e38 (by decide)
                    | true =>
                      refine Fg.vT rfl (by decide) fun ac w h => ?_
                      have e38 : ac.tmps.getD 38 undef = Value.bool true := h.dep 38 (by kernel_rfl)
                      have e3 : ac.tmps.getD 3 undef = Value.int .i64 i := h.rest 3 (by kernel_rfl)
                      exact ⟨_, w, wants_some (d := 38) rfl rfl (by rw [h.size]; show 38 < 49; decide) e38, Fg.run_move rfl e3, gb_refl _ _, rfl⟩
                  refine ⟨?_, ?_⟩
                  · cases zN with
                    | false =>
                      refine Fg.sT rfl (by decide) (fun _ => rfl) fun ac w h => ?_
                      have e38 : ac.tmps.getD 38 undef = Value.bool false := h.dep 38 (by kernel_rfl)
                      exact not_wants (d := 38) rfl rfl (by rw [h.size]; show 38 < 49; decide) e38 (by decide)
                    | true =>
                      refine Fg.vT rfl (by decide) fun ac w h => ?_
                      have e38 : ac.tmps.getD 38 undef = Value.bool true := h.dep 38 (by kernel_rfl)
                      have e39 : ac.tmps.getD 39 undef = Value.slice (some ⟨pb, po, none⟩) n c := h.dep 39 (by kernel_rfl)
                      have e40 : ac.tmps.getD 40 undef = Value.int .i64 i := h.dep 40 (by kernel_rfl)
                      have i0 : (i : Int) < (n : Int) := by omega
                      refine ⟨.pointer (some ⟨pb, po + i * 7, none⟩), w, wants_some (d := 38) rfl rfl (by rw [h.size]; show 38 < 49; decide) e38, ?_, gb_refl _ _, rfl⟩
                      clear h
                      simp only [execOp, Act.eval, e39, e40]
                      go_simp
                  refine ⟨?_, ?_⟩
                  · cases zN with
                    | false =>
                      refine Fg.sT rfl (by decide) (fun _ => rfl) fun ac w h => ?_
                      have e38 : ac.tmps.getD 38 undef = Value.bool false := h.dep 38 (by kernel_rfl)
                      exact not_wants (d := 38) rfl rfl (by rw [h.size]; show 38 < 49; decide) e38 (by decide)
                    | true =>
                      refine Fg.vT rfl (by decide) fun ac w h => ?_
                      have e38 : ac.tmps.getD 38 undef = Value.bool true := h.dep 38 (by kernel_rfl)
                      have e41 : ac.tmps.getD 41 undef = Value.pointer (some ⟨pb, po + i * 7, none⟩) := h.dep 41 (by kernel_rfl)
                      have m0 : w.cell? ⟨pb, po + i * 7, none⟩ = some (.string rs) := by rw [gb_cell h.base (block_lt_of_cell (HXY.out.1.1)) (by simp)]; exact HXY.out.1.1
                      have m1 : w.cell? ⟨pb, po + i * 7 + 1, none⟩ = some (iV rcl) := by rw [gb_cell h.base (block_lt_of_cell (HXY.out.1.2.1)) (by simp)]; exact HXY.out.1.2.1
                      have m2 : w.cell? ⟨pb, po + i * 7 + 2, none⟩ = some (iV rsq) := by rw [gb_cell h.base (block_lt_of_cell (HXY.out.1.2.2.1)) (by simp)]; exact HXY.out.1.2.2.1
                      have m3 : w.cell? ⟨pb, po + i * 7 + 3, none⟩ = some (.slice ra1 rn1 rd1) := by rw [gb_cell h.base (block_lt_of_cell (HXY.out.1.2.2.2.1)) (by simp)]; exact HXY.out.1.2.2.2.1
                      have m4 : w.cell? ⟨pb, po + i * 7 + 4, none⟩ = some (.bool rg) := by rw [gb_cell h.base (block_lt_of_cell (HXY.out.1.2.2.2.2.1)) (by simp)]; exact HXY.out.1.2.2.2.2.1
                      have m5 : w.cell? ⟨pb, po + i * 7 + 5, none⟩ = some (.slice ra2 rn2 rd2) := by rw [gb_cell h.base (block_lt_of_cell (HXY.out.1.2.2.2.2.2.1)) (by simp)]; exact HXY.out.1.2.2.2.2.2.1
                      have m6 : w.cell? ⟨pb, po + i * 7 + 6, none⟩ = some (.slice ra3 rn3 rd3) := by rw [gb_cell h.base (block_lt_of_cell (HXY.out.1.2.2.2.2.2.2)) (by simp)]; exact HXY.out.1.2.2.2.2.2.2
                      refine ⟨vV rs rcl rsq ra1 rn1 rd1 rg ra2 rn2 rd2 ra3 rn3 rd3, w, wants_some (d := 38) rfl rfl (by rw [h.size]; show 38 < 49; decide) e38, ?_, gb_refl _ _, rfl⟩
                      clear h
                      simp only [execOp, Act.eval, e41]
                      go_simp
                  refine ⟨?_, ?_⟩
                  · cases zN with
                    | false =>
                      refine Fg.sT rfl (by decide) (fun _ => rfl) fun ac w h => ?_
                      have e38 : ac.tmps.getD 38 undef = Value.bool false := h.dep 38 (by kernel_rfl)
                      exact not_wants (d := 38) rfl rfl (by rw [h.size]; show 38 < 49; decide) e38 (by decide)
                    | true =>
                      refine Fg.vT rfl (by decide) fun ac w h => ?_
                      have e38 : ac.tmps.getD 38 undef = Value.bool true := h.dep 38 (by kernel_rfl)
                      have e0 : ac.tmps.getD 0 undef = Value.slice (some ⟨pb, po, none⟩) n c := h.rest 0 (by kernel_rfl)
                      exact ⟨_, w, wants_some (d := 38) rfl rfl (by rw [h.size]; show 38 < 49; decide) e38, Fg.run_move rfl e0, gb_refl _ _, rfl⟩
                  refine ⟨?_, ?_⟩
                  · cases zN with
                    | false =>
                      refine Fg.sT rfl (by decide) (fun _ => rfl) fun ac w h => ?_
                      have e38 : ac.tmps.getD 38 undef = Value.bool false := h.dep 38 (by kernel_rfl)
                      exact not_wants (d := 38) rfl rfl (by rw [h.size]; show 38 < 49; decide) e38 (by decide)
                    | true =>
                      refine Fg.vT rfl (by decide) fun ac w h => ?_
                      have e38 : ac.tmps.getD 38 undef = Value.bool true := h.dep 38 (by kernel_rfl)
                      have e4 : ac.tmps.getD 4 undef = Value.int .i64 k := h.rest 4 (by kernel_rfl)
                      exact ⟨_, w, wants_some (d := 38) rfl rfl (by rw [h.size]; show 38 < 49; decide) e38, Fg.run_move rfl e4, gb_refl _ _, rfl⟩
                  refine ⟨?_, ?_⟩
                  · cases zN with
                    | false =>
                      refine Fg.sT rfl (by decide) (fun _ => rfl) fun ac w h => ?_
                      have e38 : ac.tmps.getD 38 undef = Value.bool false := h.dep 38 (by kernel_rfl)
                      exact not_wants (d := 38) rfl rfl (by rw [h.size]; show 38 < 49; decide) e38 (by decide)
                    | true =>
                      refine Fg.vT rfl (by decide) fun ac w h => ?_
                      have e38 : ac.tmps.getD 38 undef = Value.bool true := h.dep 38 (by kernel_rfl)
                      have e43 : ac.tmps.getD 43 undef = Value.slice (some ⟨pb, po, none⟩) n c := h.dep 43 (by kernel_rfl)
                      have e44 : ac.tmps.getD 44 undef = Value.int .i64 k := h.dep 44 (by kernel_rfl)
                      have i0 : (k : Int) < (n : Int) := by omega
                      refine ⟨.pointer (some ⟨pb, po + k * 7, none⟩), w, wants_some (d := 38) rfl rfl (by rw [h.size]; show 38 < 49; decide) e38, ?_, gb_refl _ _, rfl⟩
                      clear h
                      simp only [execOp, Act.eval, e43, e44]
                      go_simp
                  refine ⟨?_, ?_⟩
                  · cases zN with
                    | false =>
                      refine Fg.sT rfl (by decide) (fun _ => rfl) fun ac w h => ?_
                      have e38 : ac.tmps.getD 38 undef = Value.bool false := h.dep 38 (by kernel_rfl)
                      exact not_wants (d := 38) rfl rfl (by rw [h.size]; show 38 < 49; decide) e38 (by decide)
                    | true =>
                      refine Fg.vT rfl (by decide) fun ac w h => ?_
                      have e38 : ac.tmps.getD 38 undef = Value.bool true := h.dep 38 (by kernel_rfl)
                      have e45 : ac.tmps.getD 45 undef = Value.pointer (some ⟨pb, po + k * 7, none⟩) := h.dep 45 (by kernel_rfl)
                      have m0 : w.cell? ⟨pb, po + k * 7, none⟩ = some (.string rs') := by rw [gb_cell h.base (block_lt_of_cell (HXY.out.2.1)) (by simp)]; exact HXY.out.2.1
                      have m1 : w.cell? ⟨pb, po + k * 7 + 1, none⟩ = some (iV rcl') := by rw [gb_cell h.base (block_lt_of_cell (HXY.out.2.2.1)) (by simp)]; exact HXY.out.2.2.1
                      have m2 : w.cell? ⟨pb, po + k * 7 + 2, none⟩ = some (iV rsq') := by rw [gb_cell h.base (block_lt_of_cell (HXY.out.2.2.2.1)) (by simp)]; exact HXY.out.2.2.2.1
                      have m3 : w.cell? ⟨pb, po + k * 7 + 3, none⟩ = some (.slice ra1' rn1' rd1') := by rw [gb_cell h.base (block_lt_of_cell (HXY.out.2.2.2.2.1)) (by simp)]; exact HXY.out.2.2.2.2.1
                      have m4 : w.cell? ⟨pb, po + k * 7 + 4, none⟩ = some (.bool rg') := by rw [gb_cell h.base (block_lt_of_cell (HXY.out.2.2.2.2.2.1)) (by simp)]; exact HXY.out.2.2.2.2.2.1
                      have m5 : w.cell? ⟨pb, po + k * 7 + 5, none⟩ = some (.slice ra2' rn2' rd2') := by rw [gb_cell h.base (block_lt_of_cell (HXY.out.2.2.2.2.2.2.1)) (by simp)]; exact HXY.out.2.2.2.2.2.2.1
                      have m6 : w.cell? ⟨pb, po + k * 7 + 6, none⟩ = some (.slice ra3' rn3' rd3') := by rw [gb_cell h.base (block_lt_of_cell (HXY.out.2.2.2.2.2.2.2)) (by simp)]; exact HXY.out.2.2.2.2.2.2.2
                      refine ⟨vV rs' rcl' rsq' ra1' rn1' rd1' rg' ra2' rn2' rd2' ra3' rn3' rd3', w, wants_some (d := 38) rfl rfl (by rw [h.size]; show 38 < 49; decide) e38, ?_, gb_refl _ _, rfl⟩
                      clear h
                      simp only [execOp, Act.eval, e45]
                      go_simp
                  refine ⟨?_, ?_⟩
                  · cases zN with
                    | false =>
                      refine Fg.sT rfl (by decide) (fun _ => rfl) fun ac w h => ?_
                      have e38 : ac.tmps.getD 38 undef = Value.bool false := h.dep 38 (by kernel_rfl)
                      exact not_wants (d := 38) rfl rfl (by rw [h.size]; show 38 < 49; decide) e38 (by decide)
                    | true =>
                      refine Fg.cT rfl (by decide) fun ac w h => ?_
                      have e38 : ac.tmps.getD 38 undef = Value.bool true := h.dep 38 (by kernel_rfl)
                      have e42 : ac.tmps.getD 42 undef = vV rs rcl rsq ra1 rn1 rd1 rg ra2 rn2 rd2 ra3 rn3 rd3 := h.dep 42 (by kernel_rfl)
                      have e46 : ac.tmps.getD 46 undef = vV rs' rcl' rsq' ra1' rn1' rd1' rg' ra2' rn2' rd2' ra3' rn3' rd3' := h.dep 46 (by kernel_rfl)
                      refine ⟨76, #[vV rs rcl rsq ra1 rn1 rd1 rg ra2 rn2 rd2 ra3 rn3 rd3, vV rs' rcl' rsq' ra1' rn1' rd1' rg' ra2' rn2' rd2' ra3' rn3' rd3'], wants_some (d := 38) rfl rfl (by rw [h.size]; show 38 < 49; decide) e38, Fg.run_call rfl rfl (by simp only [List.map_toArray, List.map_cons, List.map_nil, Act.eval, e42, e46]) (Fg.run_enter Tryz.func76 (by kernel_rfl) (by kernel_rfl)), ?_⟩
                      exact (HO.out w (gb_trans HG2.out h.base)).mono fun _ _ ⟨he, hg⟩ => ⟨_, he, hg, rfl⟩
                  refine ⟨?_, ?_⟩
                  · cases zN with
                    | false =>
                      refine Fg.vT rfl (by decide) fun ac w h => ?_
                      obtain rfl : zW = false := HZW.out
                      have e38 : ac.tmps.getD 38 undef = Value.bool false := h.dep 38 (by kernel_rfl)
                      refine ⟨Value.bool false, w, wants_none rfl, ?_, gb_refl _ _, rfl⟩
                      clear h
                      simp only [execOp, Act.eval, e38]
                      go_simp
                    | true =>
                      cases zO with
                      | false =>
                        refine Fg.vT rfl (by decide) fun ac w h => ?_
                        obtain rfl : zW = false := HZW.out
                        have e38 : ac.tmps.getD 38 undef = Value.bool true := h.dep 38 (by kernel_rfl)
                        have e47 : ac.tmps.getD 47 undef = Value.bool false := h.dep 47 (by kernel_rfl)
                        refine ⟨Value.bool false, w, wants_none rfl, ?_, gb_refl _ _, rfl⟩
                        clear h
                        simp only [execOp, Act.eval, e38, e47]
                        go_simp
                      | true =>
                        refine Fg.vT rfl (by decide) fun ac w h => ?_
                        obtain rfl : zW = true := HZW.out
                        have e38 : ac.tmps.getD 38 undef = Value.bool true := h.dep 38 (by kernel_rfl)
                        have e47 : ac.tmps.getD 47 undef = Value.bool true := h.dep 47 (by kernel_rfl)
                        refine ⟨Value.bool true, w, wants_none rfl, ?_, gb_refl _ _, rfl⟩
                        clear h
                        simp only [execOp, Act.eval, e38, e47]
                        go_simp
                  trivial
                · intro aq wq hB hsz hdf hrest hslots hpt
                  obtain ⟨u35, e35⟩ : ∃ u, aq.tmps.getD 35 undef = u := ⟨_, rfl⟩
                  obtain ⟨u36, e36⟩ : ∃ u, aq.tmps.getD 36 undef = u := ⟨_, rfl⟩
                  obtain ⟨u37, e37⟩ : ∃ u, aq.tmps.getD 37 undef = u := ⟨_, rfl⟩
                  obtain ⟨u38, e38⟩ : ∃ u, aq.tmps.getD 38 undef = u := ⟨_, rfl⟩
                  obtain ⟨u39, e39⟩ : ∃ u, aq.tmps.getD 39 undef = u := ⟨_, rfl⟩
                  obtain ⟨u40, e40⟩ : ∃ u, aq.tmps.getD 40 undef = u := ⟨_, rfl⟩
                  obtain ⟨u41, e41⟩ : ∃ u, aq.tmps.getD 41 undef = u := ⟨_, rfl⟩
                  obtain ⟨u42, e42⟩ : ∃ u, aq.tmps.getD 42 undef = u := ⟨_, rfl⟩
                  obtain ⟨u43, e43⟩ : ∃ u, aq.tmps.getD 43 undef = u := ⟨_, rfl⟩
                  obtain ⟨u44, e44⟩ : ∃ u, aq.tmps.getD 44 undef = u := ⟨_, rfl⟩
                  obtain ⟨u45, e45⟩ : ∃ u, aq.tmps.getD 45 undef = u := ⟨_, rfl⟩
                  obtain ⟨u46, e46⟩ : ∃ u, aq.tmps.getD 46 undef = u := ⟨_, rfl⟩
                  obtain ⟨u47, e47⟩ : ∃ u, aq.tmps.getD 47 undef = u := ⟨_, rfl⟩
                  have e48 : aq.tmps.getD 48 undef = Value.bool zW := hslots 48 (by kernel_rfl)
                  obtain rfl := Fg.frame_is (a := aq) (vs := [Value.slice (some ⟨pb, po, none⟩) n c, undef, u2, Value.int .i64 i, Value.int .i64 k, Value.slice (some ⟨pb, po, none⟩) n c, Value.bool true, Value.bool false, Value.int .i64 i, Value.slice (some ⟨pb, po, none⟩) n c, Value.int .i64 n, Value.bool true, u12, u13, u14, u15, u16, u17, u18, u19, u20, u21, u22, u23, u24, u25, u26, u27, Value.bool false, Value.int .i64 k, Value.slice (some ⟨pb, po, none⟩) n c, Value.int .i64 n, Value.bool true, u33, u34, u35, u36, u37, u38, u39, u40, u41, u42, u43, u44, u45, u46, u47, Value.bool zW]) hsz ⟨hrest 0 (by kernel_rfl), hrest 1 (by kernel_rfl), hrest 2 (by kernel_rfl), hrest 3 (by kernel_rfl), hrest 4 (by kernel_rfl), hrest 5 (by kernel_rfl), hrest 6 (by kernel_rfl), hrest 7 (by kernel_rfl), hrest 8 (by kernel_rfl), hrest 9 (by kernel_rfl), hrest 10 (by kernel_rfl), hrest 11 (by kernel_rfl), hrest 12 (by kernel_rfl), hrest 13 (by kernel_rfl), hrest 14 (by kernel_rfl), hrest 15 (by kernel_rfl), hrest 16 (by kernel_rfl), hrest 17 (by kernel_rfl), hrest 18 (by kernel_rfl), hrest 19 (by kernel_rfl), hrest 20 (by kernel_rfl), hrest 21 (by kernel_rfl), hrest 22 (by kernel_rfl), hrest 23 (by kernel_rfl), hrest 24 (by kernel_rfl), hrest 25 (by kernel_rfl), hrest 26 (by kernel_rfl), hrest 27 (by kernel_rfl), hrest 28 (by kernel_rfl), hrest 29 (by kernel_rfl), hrest 30 (by kernel_rfl), hrest 31 (by kernel_rfl), hrest 32 (by kernel_rfl), hrest 33 (by kernel_rfl), hrest 34 (by kernel_rfl), e35, e36, e37, e38, e39, e40, e41, e42, e43, e44, e45, e46, e47, e48, trivial⟩ hdf
                  clear hsz hdf hrest hslots hpt e35 e36 e37 e38 e39 e40 e41 e42 e43 e44 e45 e46 e47 e48
                  have HGq := Lib.hid (gb_trans HG2.out hB)
                  clear hB HG2 HXY HO HZW HNE
                  refine wpList_nil ?_
                  cases zW with
                  | true =>
                    have HE := Lib.hid (HQ.out false _ (HT.out.1 rfl) HGq.out)
                    go_wp2
                    exact HE.out
                  | false =>
                    have HT2 := Lib.hid (HT.out.2 rfl)
                    go_wp2
                    exact ⟨⟨k + 1, by omega, rfl, HGq.out, HT2.out⟩, by show n - ((k : Int) + 1).toNat < n - (k : Int).toNat; omega⟩
              · obtain rfl : k = n := by omega
                have HT : Hid ((∀ j, j + 1 < k → j < i + 1 - 1 → lessD (l.getD j e0).2 (l.getD (j + 1) e0).2 = true) ∧ ∀ j, j < i + 1 → ∀ q, q < k → j ≠ q → overB (l.getD j e0).2 (l.getD q e0).2 = false) := by
                  refine ⟨fun j h1 h2 => HR1.out j h1 (by omega), fun j hj q hq hne => ?_⟩
                  rcases (by omega : j < i ∨ j = i) with hj | rfl
                  · exact HI.out.2.2 j hj q hq hne
                  · exact HJ.out.2 q hq hne
                have HG4 := Lib.hid HJ.out.1
                clear hkl HI HJ
                go_wp2
                exact ⟨⟨i + 1, by omega, rfl, HG4.out, HT.out⟩, by show k - ((i : Int) + 1).toNat < k - (i : Int).toNat; omega⟩
      · obtain rfl : i = n := by omega
        have HE := Lib.hid (HQ.out true _ (set_get l HAL.out (by rw [HN.out]; exact fun j hj => HI.out.2.1 j hj (by omega)) (by rw [HN.out]; exact HI.out.2.2)) HI.out.1)
        clear hlt
        go_wp2
        exact HE.out
end Sb
end Go.Proofs.YtlkiancedgaicaaGreat

/- The document's Text (buttressref08). (Printed by gen_rcreftext.py.) -/
namespace Go.Proofs.YtlkiancedgaicaaGreat
open Go.RowKit Ow Wi Ve
namespace Rc
theorem dots_next (l : List D) (k : Nat) (h : k < l.length) {x y : Int} (e : l.getD k z0 = (x, y)) : dotsL (l.take (k + 1)) = dotsL (l.take k) ++ (encN x ++ encN y) := by
  rw [List.take_succ_eq_append_getElem h]
  have e2 : l[k] = (x, y) := by rw [← e, List.getD_eq_getElem?_getD, List.getElem?_eq_getElem h]; rfl
  rw [e2]
  simp [dotsL, dotL]
theorem nil_at {w : World} {B : Nat} (h : B ≤ w.heap.size) : BytesAt w B none 0 [] := ⟨h, Nat.le_refl _, by decide, fun i => by simp, Or.inl rfl⟩
set_option maxHeartbeats 8000000 in
set_option maxRecDepth 100000 in
theorem refText_any (r : R) (B : Nat) (w : World) (q : L) (h : RAt w B q r) : Calls Tryz.prog 191 #[q.v r] w (YOut w (textO r)) := by
  have HS := Lib.hid (fun w' (hg : w.grownBy w' none) => refShape_any (shapeB r) r B w' q (h.stay hg) rfl)
  obtain ⟨Q, hQ⟩ : ∃ Q, Q = YOut w (textO r) := ⟨_, rfl⟩
  rw [← hQ]
  unfold textO at hQ
  cases hb : shapeB r with
  | false =>
    rw [hb] at HS hQ
    have HQ : Hid (∀ w', w.grownBy w' none → Q (.returned (.slice none 0 0)) w') := fun w' hg => by rw [hQ]; exact bout_nil w w' hg
    clear hQ hb h
    obtain ⟨s, a1, n1, c1, a2, n2, c2, ay, ny, cy⟩ := q
    obtain ⟨key, cl, sq, cx, g, val, sig⟩ := r
    replace HS : Hid (∀ w' (_ : w.grownBy w' none), Calls Tryz.prog 135 #[vV s cl sq a1 n1 c1 g a2 n2 c2 ay ny cy] w' fun e w'' => e = .returned (.bool false) ∧ w'.grownBy w'' none) := HS
    show Calls _ _ #[vV s cl sq a1 n1 c1 g a2 n2 c2 ay ny cy] w _
    go_enter Tryz.func191, Tryz.ntmps191
    go_wp2_with fail
    refine (HS.out _ (gb_alloc (gb_refl _ _) _)).mono ?_
    rintro e w1 ⟨rfl, hg⟩
    have HG := Lib.hid (gb_trans (gb_alloc (gb_refl _ _) _) hg); clear hg
    go_wp2
    exact HQ.out _ HG.out
  | true =>
    rw [hb, if_pos rfl] at hQ
    rw [hb] at HS
    obtain ⟨_, h2, _, h4, h5, _⟩ := shape_of hb
    have hcx : (r.cx.length : Int) ≤ 8 := by have := h4.len (by decide); omega
    have hk := h.keyLen
    clear hb h4
    obtain ⟨s, a1, n1, c1, a2, n2, c2, ay, ny, cy⟩ := q
    obtain ⟨key, cl, sq, cx, g, val, sig⟩ := r
    have hs : strL s = key := h.str
    subst hs
    have l1 : cx.length = n1 := h.l1
    have l2 : val.length = n2 := h.l2
    simp only at h2 h5 hk hcx
    rw [hk] at h2
    have HK : Hid (s.size ≤ 64) := h2
    have HD : Hid (DotsAt w B a1 cx ∧ cx.length = n1 ∧ n1 ≤ 8) := ⟨h.dots, l1, by omega⟩
    have HV : Hid (BytesAt w B a2 c2 val ∧ val.length = n2 ∧ val.length ≤ 1024) := ⟨h.val, l2, h5⟩
    have HT : Hid (([[1], rowL (strL s), encN cl, encN sq, encN (n1 : Int)]).flatten.length ≤ 1000000 ∧ (∀ l ∈ [[1], rowL (strL s), encN cl, encN sq, encN (n1 : Int)], ∀ i, l.getD i 0 < 256) ∧ ([[1], rowL (strL s), encN cl, encN sq, encN (n1 : Int)]).flatten.length ≤ 200) := by
      have hle : ([[1], rowL (strL s), encN cl, encN sq, encN (n1 : Int)]).flatten.length ≤ 200 := by
        simp only [List.flatten_cons, List.flatten_nil, List.length_append, List.length_cons, List.length_nil, rowL_len, encN_length, strL_len]
        omega
      refine ⟨by omega, fun l hl => ?_, hle⟩
      simp only [List.mem_cons, List.not_mem_nil, or_false] at hl
      rcases hl with rfl | rfl | rfl | rfl | rfl
      · intro i; rcases i with _ | i <;> simp
      · exact rowL_byte (strL_byte s)
      · exact encN_byte _
      · exact encN_byte _
      · exact encN_byte _
    have HF : Hid (∀ gl, gl = g → [([[1], rowL (strL s), encN cl, encN sq, encN (n1 : Int)]).flatten ++ dotsL cx, [goneN gl], rowL val].flatten = textL ⟨strL s, cl, sq, cx, g, val, sig⟩) := fun gl e => by
      rw [e, ← l1]; simp [textL, dotL, R.dot]
    have HQ := Lib.hid hQ; clear hQ
    clear h l1 l2 h2 h5 hk hcx
    replace HS : Hid (∀ w' (_ : w.grownBy w' none), Calls Tryz.prog 135 #[vV s cl sq a1 n1 c1 g a2 n2 c2 ay ny cy] w' fun e w'' => e = .returned (.bool true) ∧ w'.grownBy w'' none) := HS
    show Calls _ _ #[vV s cl sq a1 n1 c1 g a2 n2 c2 ay ny cy] w _
    obtain ⟨N, hN⟩ : ∃ N, N = w.heap.size := ⟨_, rfl⟩
    obtain ⟨W0, hW0⟩ : ∃ W0, W0 = w.alloc (.cells #[.string s, iV cl, iV sq, .slice a1 n1 c1, .bool g, .slice a2 n2 c2, .slice ay ny cy] 66) := ⟨_, rfl⟩
    have hG0 : w.grownBy W0 none := by rw [hW0]; exact gb_alloc (gb_refl _ _) _
    have hB0 : Blk W0 N 66 [.string s, iV cl, iV sq, .slice a1 n1 c1, .bool g, .slice a2 n2 c2, .slice ay ny cy] := by rw [hW0, hN]; exact Blk.new _ _ _
    have HGa := Lib.hid (And.intro hG0 hB0); clear hG0 hB0
    go_enter Tryz.func191, Tryz.ntmps191
    go_wp2_with fail
    rw [← hW0, ← hN]
    clear hW0 hN
    refine (HS.out W0 HGa.out.1).mono ?_
    rintro e w1 ⟨rfl, hg⟩
    have HG0 := Lib.hid (And.intro (gb_trans HGa.out.1 hg) (HGa.out.2.grown hg (by simp))); clear hg HGa
    go_wp2_with fail
    refine Fg.region_t [] [.any, .any, .any, Fg.It.by [[1], rowL (strL s), encN cl, encN sq, encN (n1 : Int)].flatten, .any, .any, .any, .any, .any, Fg.It.by [1], .val (Value.pointer (some ⟨N, 0, none⟩)), .val (Value.string s), Fg.It.by (strL s), Fg.It.by (rowL (strL s)), .val (Value.pointer (some ⟨N, 1, none⟩)), .val (Value.int .i64 cl), Fg.It.by (encN cl), .val (Value.pointer (some ⟨N, 2, none⟩)), .val (Value.int .i64 sq), Fg.It.by (encN sq), .val (Value.pointer (some ⟨N, 3, none⟩)), .val (Value.slice a1 n1 c1), .val (Value.int .i64 n1), Fg.It.by (encN (n1 : Int)), Fg.It.rws [[1], rowL (strL s), encN cl, encN sq, encN (n1 : Int)], Fg.It.by [[1], rowL (strL s), encN cl, encN sq, encN (n1 : Int)].flatten] w1 18 (gb_refl _ _) (by kernel_rfl) (by kernel_rfl) (by kernel_rfl) (by kernel_rfl) (by decide) (by kernel_rfl) ?_ ?_
    · refine ⟨Fg.vT rfl (by decide) fun ac w h => ?_, ?_⟩
      · refine ⟨.slice (some ⟨w.heap.size, 0, none⟩) 1 1, w.alloc (.cells #[.int .u8 1] 5), wants_none rfl, ?_, gb_alloc (gb_refl _ _) _, ⟨_, 1, _, rfl, bytes_box [1] (fun i => by rcases i with _ | i <;> simp) (by decide)⟩⟩
        clear h
        simp only [execOp, Act.eval, List.map_toArray, List.map_cons, List.map_nil]
        go_simp
      refine ⟨Fg.vT rfl (by decide) fun ac w h => ?_, ?_⟩
      · have e1 : ac.tmps.getD 1 undef = Value.pointer (some ⟨N, 0, none⟩) := h.rest 1 (by kernel_rfl)
        refine ⟨Value.pointer (some ⟨N, 0, none⟩), w, wants_none rfl, ?_, gb_refl _ _, rfl⟩
        clear h
        simp only [execOp, Act.eval, e1]
        go_simp
      refine ⟨Fg.vT rfl (by decide) fun ac w h => ?_, ?_⟩
      · have e10 : ac.tmps.getD 10 undef = Value.pointer (some ⟨N, 0, none⟩) := h.dep 10 (by kernel_rfl)
        have c := (HG0.out.2.grown h.base (by simp)).cell (i := 0) rfl
        refine ⟨Value.string s, w, wants_none rfl, ?_, gb_refl _ _, rfl⟩
        clear h
        simp only [execOp, Act.eval, e10]
        go_simp
      refine ⟨Fg.vT rfl (by decide) fun ac w h => ?_, ?_⟩
      · have e11 : ac.tmps.getD 11 undef = Value.string s := h.dep 11 (by kernel_rfl)
        obtain ⟨c11, w11, hr11, hg11, hb11⟩ := str_bytes s w (by have := HK.out; omega)
        refine ⟨.slice (some ⟨w.heap.size, 0, none⟩) s.size c11, w11, wants_none rfl, ?_, hg11, ⟨_, _, _, by rw [strL_len], hb11⟩⟩
        clear h hb11 hg11
        simp only [execOp, Act.eval, e11]
        simp [hr11, Result.andThen]
      refine ⟨Fg.cT rfl (by decide) fun ac w h => ?_, ?_⟩
      · obtain ⟨a12, k12, B12, e12, b12⟩ : ∃ xa xc xB, ac.tmps.getD 12 undef = .slice xa (strL s).length xc ∧ BytesAt w xB xa xc (strL s) := h.dep 12 (by kernel_rfl)
        refine ⟨19, #[Value.slice a12 (strL s).length k12], wants_none rfl, Fg.run_call rfl rfl (by simp only [List.map_toArray, List.map_cons, List.map_nil, Act.eval, e12]) (Fg.run_enter Tryz.func19 (by kernel_rfl) (by kernel_rfl)), ?_⟩
        exact (refBytes_out _ (strL s) a12 k12 B12 w rfl b12 (by rw [strL_len]; have := HK.out; omega)).mono fun _ _ ⟨_, _, he, hg, hb⟩ => ⟨_, he, hg, _, _, _, rfl, hb⟩
      refine ⟨Fg.vT rfl (by decide) fun ac w h => ?_, ?_⟩
      · have e1 : ac.tmps.getD 1 undef = Value.pointer (some ⟨N, 0, none⟩) := h.rest 1 (by kernel_rfl)
        refine ⟨Value.pointer (some ⟨N, 1, none⟩), w, wants_none rfl, ?_, gb_refl _ _, rfl⟩
        clear h
        simp only [execOp, Act.eval, e1]
        go_simp
      refine ⟨Fg.vT rfl (by decide) fun ac w h => ?_, ?_⟩
      · have e14 : ac.tmps.getD 14 undef = Value.pointer (some ⟨N, 1, none⟩) := h.dep 14 (by kernel_rfl)
        have c := (HG0.out.2.grown h.base (by simp)).cell (i := 1) rfl
        refine ⟨Value.int .i64 cl, w, wants_none rfl, ?_, gb_refl _ _, rfl⟩
        clear h
        simp only [execOp, Act.eval, e14]
        go_simp
      refine ⟨Fg.cT rfl (by decide) fun ac w h => ?_, ?_⟩
      · have e15 : ac.tmps.getD 15 undef = Value.int .i64 cl := h.dep 15 (by kernel_rfl)
        refine ⟨16, #[Value.int .i64 cl], wants_none rfl, Fg.run_call rfl rfl (by simp only [List.map_toArray, List.map_cons, List.map_nil, Act.eval, e15]) (Fg.run_enter Tryz.func16 (by kernel_rfl) (by kernel_rfl)), ?_⟩
        exact (refNumber_out cl w).mono fun _ _ ⟨_, _, he, hg, hb⟩ => ⟨_, he, hg, _, _, _, rfl, hb⟩
      refine ⟨Fg.vT rfl (by decide) fun ac w h => ?_, ?_⟩
      · have e1 : ac.tmps.getD 1 undef = Value.pointer (some ⟨N, 0, none⟩) := h.rest 1 (by kernel_rfl)
        refine ⟨Value.pointer (some ⟨N, 2, none⟩), w, wants_none rfl, ?_, gb_refl _ _, rfl⟩
        clear h
        simp only [execOp, Act.eval, e1]
        go_simp
      refine ⟨Fg.vT rfl (by decide) fun ac w h => ?_, ?_⟩
      · have e17 : ac.tmps.getD 17 undef = Value.pointer (some ⟨N, 2, none⟩) := h.dep 17 (by kernel_rfl)
        have c := (HG0.out.2.grown h.base (by simp)).cell (i := 2) rfl
        refine ⟨Value.int .i64 sq, w, wants_none rfl, ?_, gb_refl _ _, rfl⟩
        clear h
        simp only [execOp, Act.eval, e17]
        go_simp
      refine ⟨Fg.cT rfl (by decide) fun ac w h => ?_, ?_⟩
      · have e18 : ac.tmps.getD 18 undef = Value.int .i64 sq := h.dep 18 (by kernel_rfl)
        refine ⟨16, #[Value.int .i64 sq], wants_none rfl, Fg.run_call rfl rfl (by simp only [List.map_toArray, List.map_cons, List.map_nil, Act.eval, e18]) (Fg.run_enter Tryz.func16 (by kernel_rfl) (by kernel_rfl)), ?_⟩
        exact (refNumber_out sq w).mono fun _ _ ⟨_, _, he, hg, hb⟩ => ⟨_, he, hg, _, _, _, rfl, hb⟩
      refine ⟨Fg.vT rfl (by decide) fun ac w h => ?_, ?_⟩
      · have e1 : ac.tmps.getD 1 undef = Value.pointer (some ⟨N, 0, none⟩) := h.rest 1 (by kernel_rfl)
        refine ⟨Value.pointer (some ⟨N, 3, none⟩), w, wants_none rfl, ?_, gb_refl _ _, rfl⟩
        clear h
        simp only [execOp, Act.eval, e1]
        go_simp
      refine ⟨Fg.vT rfl (by decide) fun ac w h => ?_, ?_⟩
      · have e20 : ac.tmps.getD 20 undef = Value.pointer (some ⟨N, 3, none⟩) := h.dep 20 (by kernel_rfl)
        have c := (HG0.out.2.grown h.base (by simp)).cell (i := 3) rfl
        refine ⟨Value.slice a1 n1 c1, w, wants_none rfl, ?_, gb_refl _ _, rfl⟩
        clear h
        simp only [execOp, Act.eval, e20]
        go_simp
      refine ⟨Fg.vT rfl (by decide) fun ac w h => ?_, ?_⟩
      · have e21 : ac.tmps.getD 21 undef = Value.slice a1 n1 c1 := h.dep 21 (by kernel_rfl)
        have x21 : ac.tmps[21]?.getD undef = Value.slice a1 n1 c1 := by simpa using e21
        refine ⟨.int .i64 n1, w, wants_none rfl, ?_, gb_refl _ _, rfl⟩
        clear h e21
        go_simp
      refine ⟨Fg.cT rfl (by decide) fun ac w h => ?_, ?_⟩
      · have e22 : ac.tmps.getD 22 undef = Value.int .i64 n1 := h.dep 22 (by kernel_rfl)
        refine ⟨16, #[Value.int .i64 n1], wants_none rfl, Fg.run_call rfl rfl (by simp only [List.map_toArray, List.map_cons, List.map_nil, Act.eval, e22]) (Fg.run_enter Tryz.func16 (by kernel_rfl) (by kernel_rfl)), ?_⟩
        exact (refNumber_out (n1 : Int) w).mono fun _ _ ⟨_, _, he, hg, hb⟩ => ⟨_, he, hg, _, _, _, rfl, hb⟩
      refine ⟨Fg.vT rfl (by decide) fun ac w h => ?_, ?_⟩
      · obtain ⟨a9, k9, B9, e9, b9⟩ : ∃ xa xc xB, ac.tmps.getD 9 undef = .slice xa [1].length xc ∧ BytesAt w xB xa xc [1] := h.dep 9 (by kernel_rfl)
        obtain ⟨a13, k13, B13, e13, b13⟩ : ∃ xa xc xB, ac.tmps.getD 13 undef = .slice xa (rowL (strL s)).length xc ∧ BytesAt w xB xa xc (rowL (strL s)) := h.dep 13 (by kernel_rfl)
        obtain ⟨a16, k16, B16, e16, b16⟩ : ∃ xa xc xB, ac.tmps.getD 16 undef = .slice xa (encN cl).length xc ∧ BytesAt w xB xa xc (encN cl) := h.dep 16 (by kernel_rfl)
        obtain ⟨a19, k19, B19, e19, b19⟩ : ∃ xa xc xB, ac.tmps.getD 19 undef = .slice xa (encN sq).length xc ∧ BytesAt w xB xa xc (encN sq) := h.dep 19 (by kernel_rfl)
        obtain ⟨a23, k23, B23, e23, b23⟩ : ∃ xa xc xB, ac.tmps.getD 23 undef = .slice xa (encN (n1 : Int)).length xc ∧ BytesAt w xB xa xc (encN (n1 : Int)) := h.dep 23 (by kernel_rfl)
        refine ⟨.slice (some ⟨w.heap.size, 0, none⟩) 5 5, w.alloc (.cells #[.slice a9 [1].length k9, .slice a13 (rowL (strL s)).length k13, .slice a16 (encN cl).length k16, .slice a19 (encN sq).length k19, .slice a23 (encN (n1 : Int)).length k23] 23), wants_none rfl, ?_, gb_alloc (gb_refl _ _) _, ⟨_, 5, _, rfl, rows_box _ [(a9, k9, [1]), (a13, k13, rowL (strL s)), (a16, k16, encN cl), (a19, k19, encN sq), (a23, k23, encN (n1 : Int))] (fun p hp => by
            simp only [List.mem_cons, List.not_mem_nil, or_false] at hp
            rcases hp with rfl | rfl | rfl | rfl | rfl
            · exact ⟨_, b9⟩
            · exact ⟨_, b13⟩
            · exact ⟨_, b16⟩
            · exact ⟨_, b19⟩
            · exact ⟨_, b23⟩)⟩⟩
        clear h
        simp only [execOp, Act.eval, e9, e13, e16, e19, e23, List.map_toArray, List.map_cons, List.map_nil]
        go_simp
      refine ⟨Fg.cT rfl (by decide) fun ac w h => ?_, ?_⟩
      · obtain ⟨a24, k24, B24, e24, b24⟩ : ∃ xa xc xB, ac.tmps.getD 24 undef = .slice xa [[1], rowL (strL s), encN cl, encN sq, encN (n1 : Int)].length xc ∧ RowsAt w xB xa [[1], rowL (strL s), encN cl, encN sq, encN (n1 : Int)] := h.dep 24 (by kernel_rfl)
        refine ⟨17, #[Value.slice a24 [[1], rowL (strL s), encN cl, encN sq, encN (n1 : Int)].length k24], wants_none rfl, Fg.run_call rfl rfl (by simp only [List.map_toArray, List.map_cons, List.map_nil, Act.eval, e24]) (Fg.run_enter Tryz.func17 (by kernel_rfl) (by kernel_rfl)), ?_⟩
        exact (refJoin_out 5 [[1], rowL (strL s), encN cl, encN sq, encN (n1 : Int)] a24 k24 B24 w rfl b24 (by simp) HT.out.1 HT.out.2.1).mono fun _ _ ⟨_, _, he, hg, hb⟩ => ⟨_, he, hg, _, _, _, rfl, hb⟩
      refine ⟨Fg.vT rfl (by decide) fun ac w h => ?_, ?_⟩
      · obtain ⟨a25, k25, B25, e25, b25⟩ : ∃ xa xc xB, ac.tmps.getD 25 undef = .slice xa [[1], rowL (strL s), encN cl, encN sq, encN (n1 : Int)].flatten.length xc ∧ BytesAt w xB xa xc [[1], rowL (strL s), encN cl, encN sq, encN (n1 : Int)].flatten := h.dep 25 (by kernel_rfl)
        exact ⟨_, w, wants_none rfl, Fg.run_assign rfl e25, gb_refl _ _, ⟨_, _, _, rfl, b25⟩⟩
      trivial
    · intro aq wq hB hsz hdf hrest hslots hpt
      obtain ⟨u0, e0⟩ : ∃ u, aq.tmps.getD 0 undef = u := ⟨_, rfl⟩
      obtain ⟨a3, k3, B3, e3, b3⟩ : ∃ xa xc xB, aq.tmps.getD 3 undef = .slice xa [[1], rowL (strL s), encN cl, encN sq, encN (n1 : Int)].flatten.length xc ∧ BytesAt wq xB xa xc [[1], rowL (strL s), encN cl, encN sq, encN (n1 : Int)].flatten := hslots 3 (by kernel_rfl)
      obtain ⟨u4, e4⟩ : ∃ u, aq.tmps.getD 4 undef = u := ⟨_, rfl⟩
      obtain ⟨u5, e5⟩ : ∃ u, aq.tmps.getD 5 undef = u := ⟨_, rfl⟩
      obtain ⟨u6, e6⟩ : ∃ u, aq.tmps.getD 6 undef = u := ⟨_, rfl⟩
      obtain ⟨u7, e7⟩ : ∃ u, aq.tmps.getD 7 undef = u := ⟨_, rfl⟩
      obtain ⟨u8, e8⟩ : ∃ u, aq.tmps.getD 8 undef = u := ⟨_, rfl⟩
      obtain ⟨u9, e9⟩ : ∃ u, aq.tmps.getD 9 undef = u := ⟨_, rfl⟩
      obtain ⟨u10, e10⟩ : ∃ u, aq.tmps.getD 10 undef = u := ⟨_, rfl⟩
      obtain ⟨u11, e11⟩ : ∃ u, aq.tmps.getD 11 undef = u := ⟨_, rfl⟩
      obtain ⟨u12, e12⟩ : ∃ u, aq.tmps.getD 12 undef = u := ⟨_, rfl⟩
      obtain ⟨u13, e13⟩ : ∃ u, aq.tmps.getD 13 undef = u := ⟨_, rfl⟩
      obtain ⟨u14, e14⟩ : ∃ u, aq.tmps.getD 14 undef = u := ⟨_, rfl⟩
      obtain ⟨u15, e15⟩ : ∃ u, aq.tmps.getD 15 undef = u := ⟨_, rfl⟩
      obtain ⟨u16, e16⟩ : ∃ u, aq.tmps.getD 16 undef = u := ⟨_, rfl⟩
      obtain ⟨u17, e17⟩ : ∃ u, aq.tmps.getD 17 undef = u := ⟨_, rfl⟩
      obtain ⟨u18, e18⟩ : ∃ u, aq.tmps.getD 18 undef = u := ⟨_, rfl⟩
      obtain ⟨u19, e19⟩ : ∃ u, aq.tmps.getD 19 undef = u := ⟨_, rfl⟩
      obtain ⟨u20, e20⟩ : ∃ u, aq.tmps.getD 20 undef = u := ⟨_, rfl⟩
      obtain ⟨u21, e21⟩ : ∃ u, aq.tmps.getD 21 undef = u := ⟨_, rfl⟩
      obtain ⟨u22, e22⟩ : ∃ u, aq.tmps.getD 22 undef = u := ⟨_, rfl⟩
      obtain ⟨u23, e23⟩ : ∃ u, aq.tmps.getD 23 undef = u := ⟨_, rfl⟩
      obtain ⟨u24, e24⟩ : ∃ u, aq.tmps.getD 24 undef = u := ⟨_, rfl⟩
      obtain ⟨u25, e25⟩ : ∃ u, aq.tmps.getD 25 undef = u := ⟨_, rfl⟩
      obtain ⟨u26, e26⟩ : ∃ u, aq.tmps.getD 26 undef = u := ⟨_, rfl⟩
      obtain ⟨u27, e27⟩ : ∃ u, aq.tmps.getD 27 undef = u := ⟨_, rfl⟩
      obtain ⟨u28, e28⟩ : ∃ u, aq.tmps.getD 28 undef = u := ⟨_, rfl⟩
      obtain ⟨u29, e29⟩ : ∃ u, aq.tmps.getD 29 undef = u := ⟨_, rfl⟩
      obtain ⟨u30, e30⟩ : ∃ u, aq.tmps.getD 30 undef = u := ⟨_, rfl⟩
      obtain ⟨u31, e31⟩ : ∃ u, aq.tmps.getD 31 undef = u := ⟨_, rfl⟩
      obtain ⟨u32, e32⟩ : ∃ u, aq.tmps.getD 32 undef = u := ⟨_, rfl⟩
      obtain ⟨u33, e33⟩ : ∃ u, aq.tmps.getD 33 undef = u := ⟨_, rfl⟩
      obtain ⟨u34, e34⟩ : ∃ u, aq.tmps.getD 34 undef = u := ⟨_, rfl⟩
      obtain ⟨u35, e35⟩ : ∃ u, aq.tmps.getD 35 undef = u := ⟨_, rfl⟩
      obtain ⟨u36, e36⟩ : ∃ u, aq.tmps.getD 36 undef = u := ⟨_, rfl⟩
      obtain ⟨u37, e37⟩ : ∃ u, aq.tmps.getD 37 undef = u := ⟨_, rfl⟩
      obtain ⟨u38, e38⟩ : ∃ u, aq.tmps.getD 38 undef = u := ⟨_, rfl⟩
      obtain ⟨u39, e39⟩ : ∃ u, aq.tmps.getD 39 undef = u := ⟨_, rfl⟩
      obtain ⟨u40, e40⟩ : ∃ u, aq.tmps.getD 40 undef = u := ⟨_, rfl⟩
      obtain ⟨u41, e41⟩ : ∃ u, aq.tmps.getD 41 undef = u := ⟨_, rfl⟩
      obtain ⟨u42, e42⟩ : ∃ u, aq.tmps.getD 42 undef = u := ⟨_, rfl⟩
      obtain ⟨u43, e43⟩ : ∃ u, aq.tmps.getD 43 undef = u := ⟨_, rfl⟩
      obtain ⟨u44, e44⟩ : ∃ u, aq.tmps.getD 44 undef = u := ⟨_, rfl⟩
      obtain ⟨u45, e45⟩ : ∃ u, aq.tmps.getD 45 undef = u := ⟨_, rfl⟩
      obtain ⟨u46, e46⟩ : ∃ u, aq.tmps.getD 46 undef = u := ⟨_, rfl⟩
      obtain ⟨u47, e47⟩ : ∃ u, aq.tmps.getD 47 undef = u := ⟨_, rfl⟩
      obtain ⟨u48, e48⟩ : ∃ u, aq.tmps.getD 48 undef = u := ⟨_, rfl⟩
      obtain ⟨u49, e49⟩ : ∃ u, aq.tmps.getD 49 undef = u := ⟨_, rfl⟩
      obtain ⟨u50, e50⟩ : ∃ u, aq.tmps.getD 50 undef = u := ⟨_, rfl⟩
      obtain ⟨u51, e51⟩ : ∃ u, aq.tmps.getD 51 undef = u := ⟨_, rfl⟩
      obtain ⟨u52, e52⟩ : ∃ u, aq.tmps.getD 52 undef = u := ⟨_, rfl⟩
      obtain ⟨u53, e53⟩ : ∃ u, aq.tmps.getD 53 undef = u := ⟨_, rfl⟩
      obtain ⟨u54, e54⟩ : ∃ u, aq.tmps.getD 54 undef = u := ⟨_, rfl⟩
      obtain ⟨u55, e55⟩ : ∃ u, aq.tmps.getD 55 undef = u := ⟨_, rfl⟩
      obtain ⟨u56, e56⟩ : ∃ u, aq.tmps.getD 56 undef = u := ⟨_, rfl⟩
      obtain ⟨u57, e57⟩ : ∃ u, aq.tmps.getD 57 undef = u := ⟨_, rfl⟩
      obtain ⟨u58, e58⟩ : ∃ u, aq.tmps.getD 58 undef = u := ⟨_, rfl⟩
      obtain ⟨u59, e59⟩ : ∃ u, aq.tmps.getD 59 undef = u := ⟨_, rfl⟩
      obtain rfl := Fg.frame_is (a := aq) (vs := [u0, Value.pointer (some ⟨N, 0, none⟩), Value.slice none 0 0, Value.slice a3 [[1], rowL (strL s), encN cl, encN sq, encN (n1 : Int)].flatten.length k3, u4, u5, u6, u7, u8, u9, u10, u11, u12, u13, u14, u15, u16, u17, u18, u19, u20, u21, u22, u23, u24, u25, u26, u27, u28, u29, u30, u31, u32, u33, u34, u35, u36, u37, u38, u39, u40, u41, u42, u43, u44, u45, u46, u47, u48, u49, u50, u51, u52, u53, u54, u55, u56, u57, u58, u59]) hsz ⟨e0, hrest 1 (by kernel_rfl), hrest 2 (by kernel_rfl), e3, e4, e5, e6, e7, e8, e9, e10, e11, e12, e13, e14, e15, e16, e17, e18, e19, e20, e21, e22, e23, e24, e25, e26, e27, e28, e29, e30, e31, e32, e33, e34, e35, e36, e37, e38, e39, e40, e41, e42, e43, e44, e45, e46, e47, e48, e49, e50, e51, e52, e53, e54, e55, e56, e57, e58, e59, trivial⟩ hdf
      clear hsz hdf hrest hslots hpt e0 e3 e4 e5 e6 e7 e8 e9 e10 e11 e12 e13 e14 e15 e16 e17 e18 e19 e20 e21 e22 e23 e24 e25 e26 e27 e28 e29 e30 e31 e32 e33 e34 e35 e36 e37 e38 e39 e40 e41 e42 e43 e44 e45 e46 e47 e48 e49 e50 e51 e52 e53 e54 e55 e56 e57 e58 e59
      obtain ⟨A0, hA0⟩ : ∃ A0, A0 = ([[1], rowL (strL s), encN cl, encN sq, encN (n1 : Int)]).flatten := ⟨_, rfl⟩
      rw [← hA0] at b3 HF ⊢
      have HA0 : Hid (A0.length ≤ 200 ∧ ∀ i, A0.getD i 0 < 256) := ⟨by rw [hA0]; exact HT.out.2.2, by rw [hA0]; exact flat_byte HT.out.2.1⟩
      have HG4 := Lib.hid (And.intro (gb_trans HG0.out.1 hB) (And.intro (HG0.out.2.grown hB (by simp)) (b3.up b3.lim (Nat.le_refl _))))
      clear b3 hB hA0 HT
      refine wpList_nil ?_
      go_wp2_with fail
      go_loopw [3, 4] (fun v i wr => ∃ (k : Nat) (aa : Option Addr) (ca m : Nat), k ≤ n1 ∧ i = .int .i64 k ∧ v = .slice aa m ca ∧ m = (A0 ++ dotsL (cx.take k)).length ∧ Hid (w.grownBy wr none ∧ Blk wr N 66 [.string s, iV cl, iV sq, .slice a1 n1 c1, .bool g, .slice a2 n2 c2, .slice ay ny cy] ∧ BytesAt wr wr.heap.size aa ca (A0 ++ dotsL (cx.take k)))) (fun _ i _ => n1 - (intOf i).toNat)
      case atStart => exact ⟨0, _, _, _, by omega, rfl, rfl, by simp [dotsL], HG4.out.1, HG4.out.2.1, by simpa [dotsL] using HG4.out.2.2⟩
      case round =>
        obtain ⟨k, aa, ca, m, hk, rfl, rfl, hm, HI⟩ := hrel
        by_cases hlt : k < n1
        · have i0 : (k : Int) < (n1 : Int) := by omega
          obtain ⟨pb, po, rfl, hpb, hcs⟩ := (HD.out.1.stay HI.out.1).cells.resolve_left (by rw [HD.out.2.1]; omega)
          obtain ⟨z1, z2⟩ := hcs k (by rw [HD.out.2.1]; exact hlt)
          obtain ⟨x, y, hxy⟩ : ∃ x y, cx.getD k z0 = (x, y) := ⟨_, _, rfl⟩
          have hnx := dots_next cx k (by rw [HD.out.2.1]; exact hlt) hxy
          rw [hxy] at z1 z2
          simp only at z1 z2
          have HXY := Lib.hid (And.intro z1 z2); clear z1 z2 hcs hxy
          have hac : (A0 ++ dotsL (cx.take k)).length ≤ 400 ∧ ∀ i, (A0 ++ dotsL (cx.take k)).getD i 0 < 256 := by
            refine ⟨?_, app_byte HA0.out.2 (dotsL_byte _)⟩
            rw [List.length_append, dotsL_len, List.length_take]; have := HA0.out.1; have := HD.out.2.2; omega
          obtain ⟨acc, hacc⟩ : ∃ acc, acc = A0 ++ dotsL (cx.take k) := ⟨_, rfl⟩
          have HNX : Hid ([acc, encN x, encN y].flatten = A0 ++ dotsL (cx.take (k + 1))) := by
            show _ = _
            rw [hnx, hacc]; simp
          rw [← hacc] at hm HI hac
          clear hacc hnx
          subst hm
          have HAC : Hid ([acc, encN x, encN y].flatten.length ≤ 1000000 ∧ ∀ l ∈ [acc, encN x, encN y], ∀ i, l.getD i 0 < 256) := by
            refine ⟨?_, fun l hl => ?_⟩
            · simp only [List.flatten_cons, List.flatten_nil, List.length_append, List.length_nil, encN_length]; omega
            · simp only [List.mem_cons, List.not_mem_nil, or_false] at hl
              rcases hl with rfl | rfl | rfl
              · exact hac.2
              · exact encN_byte _
              · exact encN_byte _
          clear hac
          have HK0 := Lib.hid i0
          have x3 := HI.out.2.1.cell (i := 3) rfl
          go_wp2_with fail
          clear x3
          refine Fg.region_t [] [.any, .any, .any, .any, .any, .any, .any, .any, .any, .any, .any, .any, .any, .any, .any, .any, .any, .any, .any, .any, .any, .any, .any, .any, .any, .any, .any, .any, .any, .any, .any, .any, .any, .val (Value.slice aa acc.length ca), .val (Value.pointer (some ⟨N, 3, none⟩)), .val (Value.slice (some ⟨pb, po, none⟩) n1 c1), .val (Value.int .i64 (k : Int)), .val (Value.pointer (some ⟨pb, po + k * 2, none⟩)), .val (Value.pointer (some ⟨pb, po + k * 2, none⟩)), .val (Value.int .i64 x), Fg.It.by (encN x), .val (Value.pointer (some ⟨N, 3, none⟩)), .val (Value.slice (some ⟨pb, po, none⟩) n1 c1), .val (Value.int .i64 (k : Int)), .val (Value.pointer (some ⟨pb, po + k * 2, none⟩)), .val (Value.pointer (some ⟨pb, po + k * 2 + 1, none⟩)), .val (Value.int .i64 y), Fg.It.by (encN y), Fg.It.rws [acc, encN x, encN y], Fg.It.by [acc, encN x, encN y].flatten] wr 17 (gb_refl _ _) (by kernel_rfl) (by kernel_rfl) (by kernel_rfl) (by kernel_rfl) (by decide) (by kernel_rfl) ?_ ?_
          · refine ⟨Fg.vT rfl (by decide) fun ac w h => ?_, ?_⟩
            · have e3 : ac.tmps.getD 3 undef = Value.slice aa acc.length ca := h.rest 3 (by kernel_rfl)
              exact ⟨_, w, wants_none rfl, Fg.run_move rfl e3, gb_refl _ _, rfl⟩
            refine ⟨Fg.vT rfl (by decide) fun ac w h => ?_, ?_⟩
            · have e1 : ac.tmps.getD 1 undef = Value.pointer (some ⟨N, 0, none⟩) := h.rest 1 (by kernel_rfl)
              refine ⟨Value.pointer (some ⟨N, 3, none⟩), w, wants_none rfl, ?_, gb_refl _ _, rfl⟩
              clear h
              simp only [execOp, Act.eval, e1]
              go_simp
            refine ⟨Fg.vT rfl (by decide) fun ac w h => ?_, ?_⟩
            · have e34 : ac.tmps.getD 34 undef = Value.pointer (some ⟨N, 3, none⟩) := h.dep 34 (by kernel_rfl)
              have c := (HI.out.2.1.grown h.base (by simp)).cell (i := 3) rfl
              refine ⟨Value.slice (some ⟨pb, po, none⟩) n1 c1, w, wants_none rfl, ?_, gb_refl _ _, rfl⟩
              clear h
              simp only [execOp, Act.eval, e34]
              go_simp
            refine ⟨Fg.vT rfl (by decide) fun ac w h => ?_, ?_⟩
            · have e4 : ac.tmps.getD 4 undef = Value.int .i64 (k : Int) := h.rest 4 (by kernel_rfl)
              exact ⟨_, w, wants_none rfl, Fg.run_move rfl e4, gb_refl _ _, rfl⟩
            refine ⟨Fg.vT rfl (by decide) fun ac w h => ?_, ?_⟩
            · have e35 : ac.tmps.getD 35 undef = Value.slice (some ⟨pb, po, none⟩) n1 c1 := h.dep 35 (by kernel_rfl)
              have e36 : ac.tmps.getD 36 undef = Value.int .i64 (k : Int) := h.dep 36 (by kernel_rfl)
              have i0 := HK0.out
              have i1 : (0 : Int) ≤ (k : Int) := by omega
              refine ⟨.pointer (some ⟨pb, po + k * 2, none⟩), w, wants_none rfl, ?_, gb_refl _ _, rfl⟩
              clear h
              simp only [execOp, Act.eval, e35, e36]
              go_simp
            refine ⟨Fg.vT rfl (by decide) fun ac w h => ?_, ?_⟩
            · have e37 : ac.tmps.getD 37 undef = Value.pointer (some ⟨pb, po + k * 2, none⟩) := h.dep 37 (by kernel_rfl)
              refine ⟨Value.pointer (some ⟨pb, po + k * 2, none⟩), w, wants_none rfl, ?_, gb_refl _ _, rfl⟩
              clear h
              simp only [execOp, Act.eval, e37]
              go_simp
            refine ⟨Fg.vT rfl (by decide) fun ac w h => ?_, ?_⟩
            · have e38 : ac.tmps.getD 38 undef = Value.pointer (some ⟨pb, po + k * 2, none⟩) := h.dep 38 (by kernel_rfl)
              have c : w.cell? ⟨pb, po + k * 2, none⟩ = some (iV x) := by rw [gb_cell h.base (block_lt_of_cell HXY.out.1) (by simp)]; exact HXY.out.1
              refine ⟨Value.int .i64 x, w, wants_none rfl, ?_, gb_refl _ _, rfl⟩
              clear h
              simp only [execOp, Act.eval, e38]
              go_simp
            refine ⟨Fg.cT rfl (by decide) fun ac w h => ?_, ?_⟩
            · have e39 : ac.tmps.getD 39 undef = Value.int .i64 x := h.dep 39 (by kernel_rfl)
              refine ⟨16, #[Value.int .i64 x], wants_none rfl, Fg.run_call rfl rfl (by simp only [List.map_toArray, List.map_cons, List.map_nil, Act.eval, e39]) (Fg.run_enter Tryz.func16 (by kernel_rfl) (by kernel_rfl)), ?_⟩
              exact (refNumber_out x w).mono fun _ _ ⟨_, _, he, hg, hb⟩ => ⟨_, he, hg, _, _, _, rfl, hb⟩
            refine ⟨Fg.vT rfl (by decide) fun ac w h => ?_, ?_⟩
            · have e1 : ac.tmps.getD 1 undef = Value.pointer (some ⟨N, 0, none⟩) := h.rest 1 (by kernel_rfl)
              refine ⟨Value.pointer (some ⟨N, 3, none⟩), w, wants_none rfl, ?_, gb_refl _ _, rfl⟩
              clear h
              simp only [execOp, Act.eval, e1]
              go_simp
            refine ⟨Fg.vT rfl (by decide) fun ac w h => ?_, ?_⟩
            · have e41 : ac.tmps.getD 41 undef = Value.pointer (some ⟨N, 3, none⟩) := h.dep 41 (by kernel_rfl)
              have c := (HI.out.2.1.grown h.base (by simp)).cell (i := 3) rfl
              refine ⟨Value.slice (some ⟨pb, po, none⟩) n1 c1, w, wants_none rfl, ?_, gb_refl _ _, rfl⟩
              clear h
              simp only [execOp, Act.eval, e41]
              go_simp
            refine ⟨Fg.vT rfl (by decide) fun ac w h => ?_, ?_⟩
            · have e4 : ac.tmps.getD 4 undef = Value.int .i64 (k : Int) := h.rest 4 (by kernel_rfl)
              exact ⟨_, w, wants_none rfl, Fg.run_move rfl e4, gb_refl _ _, rfl⟩
            refine ⟨Fg.vT rfl (by decide) fun ac w h => ?_, ?_⟩
            · have e42 : ac.tmps.getD 42 undef = Value.slice (some ⟨pb, po, none⟩) n1 c1 := h.dep 42 (by kernel_rfl)
              have e43 : ac.tmps.getD 43 undef = Value.int .i64 (k : Int) := h.dep 43 (by kernel_rfl)
              have i0 := HK0.out
              have i1 : (0 : Int) ≤ (k : Int) := by omega
              refine ⟨.pointer (some ⟨pb, po + k * 2, none⟩), w, wants_none rfl, ?_, gb_refl _ _, rfl⟩
              clear h
              simp only [execOp, Act.eval, e42, e43]
              go_simp
            refine ⟨Fg.vT rfl (by decide) fun ac w h => ?_, ?_⟩
            · have e44 : ac.tmps.getD 44 undef = Value.pointer (some ⟨pb, po + k * 2, none⟩) := h.dep 44 (by kernel_rfl)
              refine ⟨Value.pointer (some ⟨pb, po + k * 2 + 1, none⟩), w, wants_none rfl, ?_, gb_refl _ _, rfl⟩
              clear h
              simp only [execOp, Act.eval, e44]
              go_simp
            refine ⟨Fg.vT rfl (by decide) fun ac w h => ?_, ?_⟩
            · have e45 : ac.tmps.getD 45 undef = Value.pointer (some ⟨pb, po + k * 2 + 1, none⟩) := h.dep 45 (by kernel_rfl)
              have c : w.cell? ⟨pb, po + k * 2 + 1, none⟩ = some (iV y) := by rw [gb_cell h.base (block_lt_of_cell HXY.out.2) (by simp)]; exact HXY.out.2
              refine ⟨Value.int .i64 y, w, wants_none rfl, ?_, gb_refl _ _, rfl⟩
              clear h
              simp only [execOp, Act.eval, e45]
              go_simp
            refine ⟨Fg.cT rfl (by decide) fun ac w h => ?_, ?_⟩
            · have e46 : ac.tmps.getD 46 undef = Value.int .i64 y := h.dep 46 (by kernel_rfl)
              refine ⟨16, #[Value.int .i64 y], wants_none rfl, Fg.run_call rfl rfl (by simp only [List.map_toArray, List.map_cons, List.map_nil, Act.eval, e46]) (Fg.run_enter Tryz.func16 (by kernel_rfl) (by kernel_rfl)), ?_⟩
              exact (refNumber_out y w).mono fun _ _ ⟨_, _, he, hg, hb⟩ => ⟨_, he, hg, _, _, _, rfl, hb⟩
            refine ⟨Fg.vT rfl (by decide) fun ac w h => ?_, ?_⟩
            · have e33 : ac.tmps.getD 33 undef = Value.slice aa acc.length ca := h.dep 33 (by kernel_rfl)
              obtain ⟨a40, k40, B40, e40, b40⟩ : ∃ xa xc xB, ac.tmps.getD 40 undef = .slice xa (encN x).length xc ∧ BytesAt w xB xa xc (encN x) := h.dep 40 (by kernel_rfl)
              obtain ⟨a47, k47, B47, e47, b47⟩ : ∃ xa xc xB, ac.tmps.getD 47 undef = .slice xa (encN y).length xc ∧ BytesAt w xB xa xc (encN y) := h.dep 47 (by kernel_rfl)
              have b3 := HI.out.2.2.stay h.base
              refine ⟨.slice (some ⟨w.heap.size, 0, none⟩) 3 3, w.alloc (.cells #[.slice aa acc.length ca, .slice a40 (encN x).length k40, .slice a47 (encN y).length k47] 23), wants_none rfl, ?_, gb_alloc (gb_refl _ _) _, ⟨_, 3, _, rfl, rows_box _ [(aa, ca, acc), (a40, k40, encN x), (a47, k47, encN y)] (fun p hp => by
                  simp only [List.mem_cons, List.not_mem_nil, or_false] at hp
                  rcases hp with rfl | rfl | rfl
                  · exact ⟨_, b3⟩
                  · exact ⟨_, b40⟩
                  · exact ⟨_, b47⟩)⟩⟩
              clear h
              simp only [execOp, Act.eval, e33, e40, e47, List.map_toArray, List.map_cons, List.map_nil]
              go_simp
            refine ⟨Fg.cT rfl (by decide) fun ac w h => ?_, ?_⟩
            · obtain ⟨a48, k48, B48, e48, b48⟩ : ∃ xa xc xB, ac.tmps.getD 48 undef = .slice xa [acc, encN x, encN y].length xc ∧ RowsAt w xB xa [acc, encN x, encN y] := h.dep 48 (by kernel_rfl)
              refine ⟨17, #[Value.slice a48 [acc, encN x, encN y].length k48], wants_none rfl, Fg.run_call rfl rfl (by simp only [List.map_toArray, List.map_cons, List.map_nil, Act.eval, e48]) (Fg.run_enter Tryz.func17 (by kernel_rfl) (by kernel_rfl)), ?_⟩
              exact (refJoin_out 3 [acc, encN x, encN y] a48 k48 B48 w rfl b48 (by simp) HAC.out.1 HAC.out.2).mono fun _ _ ⟨_, _, he, hg, hb⟩ => ⟨_, he, hg, _, _, _, rfl, hb⟩
            trivial
          · intro aq wq hB hsz hdf hrest hslots hpt
            obtain ⟨u26, e26⟩ : ∃ u, aq.tmps.getD 26 undef = u := ⟨_, rfl⟩
            obtain ⟨u27, e27⟩ : ∃ u, aq.tmps.getD 27 undef = u := ⟨_, rfl⟩
            obtain ⟨u28, e28⟩ : ∃ u, aq.tmps.getD 28 undef = u := ⟨_, rfl⟩
            obtain ⟨u29, e29⟩ : ∃ u, aq.tmps.getD 29 undef = u := ⟨_, rfl⟩
            obtain ⟨u30, e30⟩ : ∃ u, aq.tmps.getD 30 undef = u := ⟨_, rfl⟩
            obtain ⟨u31, e31⟩ : ∃ u, aq.tmps.getD 31 undef = u := ⟨_, rfl⟩
            obtain ⟨u32, e32⟩ : ∃ u, aq.tmps.getD 32 undef = u := ⟨_, rfl⟩
            obtain ⟨u33, e33⟩ : ∃ u, aq.tmps.getD 33 undef = u := ⟨_, rfl⟩
            obtain ⟨u34, e34⟩ : ∃ u, aq.tmps.getD 34 undef = u := ⟨_, rfl⟩
            obtain ⟨u35, e35⟩ : ∃ u, aq.tmps.getD 35 undef = u := ⟨_, rfl⟩
            obtain ⟨u36, e36⟩ : ∃ u, aq.tmps.getD 36 undef = u := ⟨_, rfl⟩
            obtain ⟨u37, e37⟩ : ∃ u, aq.tmps.getD 37 undef = u := ⟨_, rfl⟩
            obtain ⟨u38, e38⟩ : ∃ u, aq.tmps.getD 38 undef = u := ⟨_, rfl⟩
            obtain ⟨u39, e39⟩ : ∃ u, aq.tmps.getD 39 undef = u := ⟨_, rfl⟩
            obtain ⟨u40, e40⟩ : ∃ u, aq.tmps.getD 40 undef = u := ⟨_, rfl⟩
            obtain ⟨u41, e41⟩ : ∃ u, aq.tmps.getD 41 undef = u := ⟨_, rfl⟩
            obtain ⟨u42, e42⟩ : ∃ u, aq.tmps.getD 42 undef = u := ⟨_, rfl⟩
            obtain ⟨u43, e43⟩ : ∃ u, aq.tmps.getD 43 undef = u := ⟨_, rfl⟩
            obtain ⟨u44, e44⟩ : ∃ u, aq.tmps.getD 44 undef = u := ⟨_, rfl⟩
            obtain ⟨u45, e45⟩ : ∃ u, aq.tmps.getD 45 undef = u := ⟨_, rfl⟩
            obtain ⟨u46, e46⟩ : ∃ u, aq.tmps.getD 46 undef = u := ⟨_, rfl⟩
            obtain ⟨u47, e47⟩ : ∃ u, aq.tmps.getD 47 undef = u := ⟨_, rfl⟩
            obtain ⟨u48, e48⟩ : ∃ u, aq.tmps.getD 48 undef = u := ⟨_, rfl⟩
            obtain ⟨a49, k49, B49, e49, b49⟩ : ∃ xa xc xB, aq.tmps.getD 49 undef = .slice xa [acc, encN x, encN y].flatten.length xc ∧ BytesAt wq xB xa xc [acc, encN x, encN y].flatten := hslots 49 (by kernel_rfl)
            obtain rfl := Fg.frame_is (a := aq) (vs := [u0, Value.pointer (some ⟨N, 0, none⟩), Value.slice none 0 0, Value.slice aa acc.length ca, Value.int .i64 (k : Int), u5, u6, u7, u8, u9, u10, u11, u12, u13, u14, u15, u16, u17, u18, u19, u20, u21, u22, u23, u24, u25, u26, u27, u28, u29, u30, u31, u32, u33, u34, u35, u36, u37, u38, u39, u40, u41, u42, u43, u44, u45, u46, u47, u48, Value.slice a49 [acc, encN x, encN y].flatten.length k49, u50, u51, u52, u53, u54, u55, u56, u57, u58, u59]) hsz ⟨hrest 0 (by kernel_rfl), hrest 1 (by kernel_rfl), hrest 2 (by kernel_rfl), hrest 3 (by kernel_rfl), hrest 4 (by kernel_rfl), hrest 5 (by kernel_rfl), hrest 6 (by kernel_rfl), hrest 7 (by kernel_rfl), hrest 8 (by kernel_rfl), hrest 9 (by kernel_rfl), hrest 10 (by kernel_rfl), hrest 11 (by kernel_rfl), hrest 12 (by kernel_rfl), hrest 13 (by kernel_rfl), hrest 14 (by kernel_rfl), hrest 15 (by kernel_rfl), hrest 16 (by kernel_rfl), hrest 17 (by kernel_rfl), hrest 18 (by kernel_rfl), hrest 19 (by kernel_rfl), hrest 20 (by kernel_rfl), hrest 21 (by kernel_rfl), hrest 22 (by kernel_rfl), hrest 23 (by kernel_rfl), hrest 24 (by kernel_rfl), hrest 25 (by kernel_rfl), e26, e27, e28, e29, e30, e31, e32, e33, e34, e35, e36, e37, e38, e39, e40, e41, e42, e43, e44, e45, e46, e47, e48, e49, hrest 50 (by kernel_rfl), hrest 51 (by kernel_rfl), hrest 52 (by kernel_rfl), hrest 53 (by kernel_rfl), hrest 54 (by kernel_rfl), hrest 55 (by kernel_rfl), hrest 56 (by kernel_rfl), hrest 57 (by kernel_rfl), hrest 58 (by kernel_rfl), hrest 59 (by kernel_rfl), trivial⟩ hdf
            clear hsz hdf hrest hslots hpt e26 e27 e28 e29 e30 e31 e32 e33 e34 e35 e36 e37 e38 e39 e40 e41 e42 e43 e44 e45 e46 e47 e48 e49
            have HN := Lib.hid (And.intro (gb_trans HI.out.1 hB) (And.intro (HI.out.2.1.grown hB (by simp)) (b49.up b49.lim (Nat.le_refl _))))
            have n8 := HD.out.2.2
            clear b49 hB HI
            refine Fg.wpl_value (v := Value.slice a49 [acc, encN x, encN y].flatten.length k49) (w' := wq) rfl (Fg.run_assign rfl rfl) ?_
            refine wpList_nil ?_
            simp only [Act.put, List.setIfInBounds_toArray, List.set_cons_succ, List.set_cons_zero]
            go_wp2
            go_roundw
            case rel => exact ⟨k + 1, _, _, _, by omega, by go_num, rfl, congrArg List.length HNX.out, by have h := HN.out; rw [HNX.out] at h; exact h⟩
            case measure => simp [intOf]; omega
        · obtain rfl : k = n1 := by omega
          have hall : cx.take k = cx := List.take_of_length_le (by rw [HD.out.2.1]; omega)
          rw [hall] at hm HI
          obtain ⟨acc, hacc⟩ : ∃ acc, acc = A0 ++ dotsL cx := ⟨_, rfl⟩
          have hac : acc.length ≤ 400 ∧ ∀ i, acc.getD i 0 < 256 := by
            rw [hacc]
            refine ⟨?_, app_byte HA0.out.2 (dotsL_byte _)⟩
            rw [List.length_append, dotsL_len]; have := HA0.out.1; have := HD.out.2; omega
          rw [← hacc] at hm HI HF
          subst hm
          have HAC := Lib.hid hac
          clear hac hacc hall
          have x3 := HI.out.2.1.cell (i := 3) rfl
          have x4 := HI.out.2.1.cell (i := 4) rfl
          cases hgl : g with
          | false =>
            rw [hgl] at x4
            have HA3 : Hid ([acc, [goneN false], rowL val].flatten.length ≤ 1000000 ∧ ∀ l ∈ [acc, [goneN false], rowL val], ∀ i, l.getD i 0 < 256) := by
              refine ⟨?_, fun l hl => ?_⟩
              · simp only [List.flatten_cons, List.flatten_nil, List.length_append, List.length_nil, List.length_cons, rowL_len]; have := HAC.out; have := HV.out; omega
              · simp only [List.mem_cons, List.not_mem_nil, or_false] at hl
                rcases hl with rfl | rfl | rfl
                · exact HAC.out.2
                · intro i; rcases i with _ | i <;> simp [goneN]
                · exact rowL_byte (HV.out.1.byte)
            obtain ⟨wl, hwl⟩ : ∃ wl, wl = (wr.alloc (.cells #[.int .u8 0] 5)) := ⟨_, rfl⟩
            have hgl2 : wr.grownBy wl none := by rw [hwl]; exact gb_alloc (gb_refl _ _) _
            have hbx : BytesAt wl (wr.heap.size + 1) (some ⟨wr.heap.size, 0, none⟩) 1 [goneN false] := by rw [hwl]; exact bytes_box [goneN false] (fun i => by rcases i with _ | i <;> simp [goneN]) (by decide)
            have x5 : wl.cell? ⟨N, 5, none⟩ = some (.slice a2 n2 c2) := (HI.out.2.1.grown hgl2 (by simp)).cell (i := 5) rfl
            have HL := Lib.hid (And.intro hgl2 hbx)
            have hsz : ∃ sz, sz = wr.heap.size := ⟨_, rfl⟩
            obtain ⟨sz, hsz⟩ := hsz
            clear hgl2 hbx
            have h1 : wr.alloc (.cells #[.int .u8 0] 5) = wl := hwl.symm
            have HWL := Lib.hid hwl; clear hwl
            go_wp2_with (first | rw [h1])
            have hRB : Calls Tryz.prog 19 #[.slice a2 n2 c2] wl (YOut wl (rowL val)) := refBytes_out n2 val a2 c2 B wl HV.out.2.1 ((HV.out.1.stay HI.out.1).stay HL.out.1) (by have := HV.out.2.2; omega)
            obtain ⟨rv, hrv⟩ : ∃ rv, rv = rowL val := ⟨_, rfl⟩
            rw [← hrv] at hRB HA3
            have HF5 := HF.out false hgl.symm
            rw [← hrv] at HF5
            have HF6 := Lib.hid HF5; clear HF5 HF
            refine hRB.mono ?_
            rintro e w3 ⟨ab, cb, rfl, hg3, hb3⟩
            have HL3 := Lib.hid (And.intro (gb_trans HL.out.1 hg3) (And.intro (HL.out.2.stay hg3) hb3))
            clear h1 x5 x3 x4 hg3 hb3 HL hRB hrv
            obtain ⟨w4, hw4⟩ : ∃ w4, w4 = w3.alloc (.cells #[.slice aa acc.length ca, .slice (some ⟨wr.heap.size, 0, none⟩) 1 1, .slice ab rv.length cb] 23) := ⟨_, rfl⟩
            have HL4 : Hid (wr.grownBy w4 none ∧ RowsAt w4 (w3.heap.size + 1) (some ⟨w3.heap.size, 0, none⟩) [acc, [goneN false], rv]) := by
              rw [hw4]
              refine ⟨gb_trans HL3.out.1 (gb_alloc (gb_refl _ _) _), rows_box _ [(aa, ca, acc), (some ⟨wr.heap.size, 0, none⟩, 1, [goneN false]), (ab, cb, rv)] (fun p hp => ?_)⟩
              simp only [List.mem_cons, List.not_mem_nil, or_false] at hp
              rcases hp with rfl | rfl | rfl
              · exact ⟨_, HI.out.2.2.stay HL3.out.1⟩
              · exact ⟨_, HL3.out.2.1⟩
              · exact ⟨_, HL3.out.2.2⟩
            have h4 := hw4.symm
            have HW4 := Lib.hid hw4; clear hw4
            go_wp2_with (first | rw [h4])
            refine (refJoin_out 3 [acc, [goneN false], rv] _ 3 (w3.heap.size + 1) w4 rfl HL4.out.2 (by simp) HA3.out.1 HA3.out.2).mono ?_
            rintro e w5 ⟨ad, cd, rfl, hg5, hb5⟩
            have HF5 := HF6.out
            rw [HF5] at hb5
            have HE := Lib.hid (And.intro (gb_trans (gb_trans HI.out.1 HL4.out.1) hg5) hb5)
            clear hg5 hb5 h4
            go_wp2
            have hq := HQ.out; rw [hgl] at hq
            rw [hq]
            rw [hgl] at HE; exact ⟨_, _, rfl, HE.out.1, HE.out.2⟩
            
          | true =>
            rw [hgl] at x4
            have HA3 : Hid ([acc, [goneN true], rowL val].flatten.length ≤ 1000000 ∧ ∀ l ∈ [acc, [goneN true], rowL val], ∀ i, l.getD i 0 < 256) := by
              refine ⟨?_, fun l hl => ?_⟩
              · simp only [List.flatten_cons, List.flatten_nil, List.length_append, List.length_nil, List.length_cons, rowL_len]; have := HAC.out; have := HV.out; omega
              · simp only [List.mem_cons, List.not_mem_nil, or_false] at hl
                rcases hl with rfl | rfl | rfl
                · exact HAC.out.2
                · intro i; rcases i with _ | i <;> simp [goneN]
                · exact rowL_byte (HV.out.1.byte)
            obtain ⟨wl, hwl⟩ : ∃ wl, wl = (wr.alloc (.cells #[.int .u8 1] 5)) := ⟨_, rfl⟩
            have hgl2 : wr.grownBy wl none := by rw [hwl]; exact gb_alloc (gb_refl _ _) _
            have hbx : BytesAt wl (wr.heap.size + 1) (some ⟨wr.heap.size, 0, none⟩) 1 [goneN true] := by rw [hwl]; exact bytes_box [goneN true] (fun i => by rcases i with _ | i <;> simp [goneN]) (by decide)
            have x5 : wl.cell? ⟨N, 5, none⟩ = some (.slice a2 n2 c2) := (HI.out.2.1.grown hgl2 (by simp)).cell (i := 5) rfl
            have HL := Lib.hid (And.intro hgl2 hbx)
            have hsz : ∃ sz, sz = wr.heap.size := ⟨_, rfl⟩
            obtain ⟨sz, hsz⟩ := hsz
            clear hgl2 hbx
            have h1 : wr.alloc (.cells #[.int .u8 1] 5) = wl := hwl.symm
            have HWL := Lib.hid hwl; clear hwl
            go_wp2_with (first | rw [h1])
            have hRB : Calls Tryz.prog 19 #[.slice a2 n2 c2] wl (YOut wl (rowL val)) := refBytes_out n2 val a2 c2 B wl HV.out.2.1 ((HV.out.1.stay HI.out.1).stay HL.out.1) (by have := HV.out.2.2; omega)
            obtain ⟨rv, hrv⟩ : ∃ rv, rv = rowL val := ⟨_, rfl⟩
            rw [← hrv] at hRB HA3
            have HF5 := HF.out true hgl.symm
            rw [← hrv] at HF5
            have HF6 := Lib.hid HF5; clear HF5 HF
            refine hRB.mono ?_
            rintro e w3 ⟨ab, cb, rfl, hg3, hb3⟩
            have HL3 := Lib.hid (And.intro (gb_trans HL.out.1 hg3) (And.intro (HL.out.2.stay hg3) hb3))
            clear h1 x5 x3 x4 hg3 hb3 HL hRB hrv
            obtain ⟨w4, hw4⟩ : ∃ w4, w4 = w3.alloc (.cells #[.slice aa acc.length ca, .slice (some ⟨wr.heap.size, 0, none⟩) 1 1, .slice ab rv.length cb] 23) := ⟨_, rfl⟩
            have HL4 : Hid (wr.grownBy w4 none ∧ RowsAt w4 (w3.heap.size + 1) (some ⟨w3.heap.size, 0, none⟩) [acc, [goneN true], rv]) := by
              rw [hw4]
              refine ⟨gb_trans HL3.out.1 (gb_alloc (gb_refl _ _) _), rows_box _ [(aa, ca, acc), (some ⟨wr.heap.size, 0, none⟩, 1, [goneN true]), (ab, cb, rv)] (fun p hp => ?_)⟩
              simp only [List.mem_cons, List.not_mem_nil, or_false] at hp
              rcases hp with rfl | rfl | rfl
              · exact ⟨_, HI.out.2.2.stay HL3.out.1⟩
              · exact ⟨_, HL3.out.2.1⟩
              · exact ⟨_, HL3.out.2.2⟩
            have h4 := hw4.symm
            have HW4 := Lib.hid hw4; clear hw4
            go_wp2_with (first | rw [h4])
            refine (refJoin_out 3 [acc, [goneN true], rv] _ 3 (w3.heap.size + 1) w4 rfl HL4.out.2 (by simp) HA3.out.1 HA3.out.2).mono ?_
            rintro e w5 ⟨ad, cd, rfl, hg5, hb5⟩
            have HF5 := HF6.out
            rw [HF5] at hb5
            have HE := Lib.hid (And.intro (gb_trans (gb_trans HI.out.1 HL4.out.1) hg5) hb5)
            clear hg5 hb5 h4
            go_wp2
            have hq := HQ.out; rw [hgl] at hq
            rw [hq]
            rw [hgl] at HE; exact ⟨_, _, rfl, HE.out.1, HE.out.2⟩
            
end Rc
end Go.Proofs.YtlkiancedgaicaaGreat

/- The document's Put (buttressref08). -/
namespace Go.Proofs.YtlkiancedgaicaaGreat
open Go.RowKit Ow Wi Ve
namespace Rc
set_option maxHeartbeats 1000000 in
theorem refPut_own (r : R) (B : Nat) (w : World) (q : L) (h : RAt w B q r) : Calls Tryz.prog 134 #[q.v r] w (POwn w (putO r) (errN (rightB r) 4)) := by
  have HS := Lib.hid (fun w' (hg : w.grownBy w' none) => refRightR_any r B w' q (h.stay hg))
  cases hb : rightB r with
  | false =>
    rw [hb] at HS
    have HQ : Hid (∀ w', w.grownBy w' none → POwn w (putO r) (errN false 4) (.returned (.tuple #[.slice none 0 0, .int .i64 4])) w') := fun w' hg => by
      unfold putO
      rw [hb]
      exact ⟨_, rfl, hg, World.ownsRow_nil _ _ _ _⟩
    clear h hb
    generalize POwn w (putO r) (errN false 4) = Q at *
    obtain ⟨s, a1, n1, c1, a2, n2, c2, a3, n3, c3⟩ := q
    obtain ⟨key, cl, sq, cx, g, val, sig⟩ := r
    replace HS : Hid (∀ w' (_ : w.grownBy w' none), Calls Tryz.prog 133 #[vV s cl sq a1 n1 c1 g a2 n2 c2 a3 n3 c3] w' fun e w'' => e = .returned (.bool false) ∧ w'.grownBy w'' none) := HS
    show Calls _ _ #[vV s cl sq a1 n1 c1 g a2 n2 c2 a3 n3 c3] w _
    go_enter Tryz.func134, Tryz.ntmps134
    go_wp2_with fail
    refine (HS.out _ (gb_alloc (gb_refl _ _) _)).mono ?_
    rintro e w1 ⟨rfl, hg⟩
    have HG := Lib.hid (gb_trans (gb_alloc (gb_refl _ _) _) hg); clear hg
    go_wp2
    exact HQ.out _ HG.out
  | true =>
    rw [hb] at HS
    have hs : shapeB r = true := by simp only [rightB, Bool.and_eq_true] at hb; exact hb.1
    have HT := Lib.hid (fun w' (hg : w.grownBy w' none) => refText_any r B w' q (h.stay hg))
    have HQ : Hid (∀ w' v, w.grownBy w' none → w'.ownsRow w.heap.size 5 1 v [textL r, r.sig].flatten.length ([textL r, r.sig].flatten.map u8N) → POwn w (putO r) (errN true 4) (.returned (.tuple #[v, .int .i64 0])) w') := fun w' v hg hB => by
      have e : [textL r, r.sig].flatten = putO r := by unfold putO; rw [hb]; simp [putL]
      rw [e] at hB
      exact ⟨v, rfl, hg, hB⟩
    have e : textO r = textL r := by unfold textO; rw [hs]; rfl
    rw [e] at HT
    have l3 := h.l3
    have hsh := shape_of hs
    have hT : (textL r).length ≤ 2000 ∧ ∀ i, (textL r).getD i 0 < 256 := text_small h hs
    have HL : Hid (([textL r, r.sig].flatten).length ≤ 1000000 ∧ ∀ l ∈ [textL r, r.sig], ∀ i, l.getD i 0 < 256) := by
      have h64 : r.sig.length = 64 := by simp only [rightB, Bool.and_eq_true, decide_eq_true_eq] at hb; exact hb.2
      refine ⟨by simp only [List.flatten_cons, List.flatten_nil, List.length_append, List.length_nil, h64]; omega, fun l hl => ?_⟩
      simp only [List.mem_cons, List.not_mem_nil, or_false] at hl
      rcases hl with rfl | rfl
      · exact hT.2
      · exact h.sig.byte
    have HSG := Lib.hid (And.intro h.sig l3)
    generalize textL r = T at *
    clear h hb hs e hsh hT l3
    generalize POwn w (putO r) (errN true 4) = Q at *
    obtain ⟨s, a1, n1, c1, a2, n2, c2, a3, n3, c3⟩ := q
    obtain ⟨key, cl, sq, cx, g, val, sig⟩ := r
    replace HS : Hid (∀ w' (_ : w.grownBy w' none), Calls Tryz.prog 133 #[vV s cl sq a1 n1 c1 g a2 n2 c2 a3 n3 c3] w' fun e w'' => e = .returned (.bool true) ∧ w'.grownBy w'' none) := HS
    replace HT : Hid (∀ w' (_ : w.grownBy w' none), Calls Tryz.prog 191 #[vV s cl sq a1 n1 c1 g a2 n2 c2 a3 n3 c3] w' (YOut w' T)) := HT
    replace HSG : Hid (BytesAt w B a3 c3 sig ∧ sig.length = n3) := HSG
    simp only at HL HQ
    show Calls _ _ #[vV s cl sq a1 n1 c1 g a2 n2 c2 a3 n3 c3] w _
    obtain ⟨N, hN⟩ : ∃ N, N = w.heap.size := ⟨_, rfl⟩
    obtain ⟨W0, hW0⟩ : ∃ W0, W0 = w.alloc (.cells #[.string s, iV cl, iV sq, .slice a1 n1 c1, .bool g, .slice a2 n2 c2, .slice a3 n3 c3] 66) := ⟨_, rfl⟩
    have hG0 : w.grownBy W0 none := by rw [hW0]; exact gb_alloc (gb_refl _ _) _
    have hB0 : Blk W0 N 66 [.string s, iV cl, iV sq, .slice a1 n1 c1, .bool g, .slice a2 n2 c2, .slice a3 n3 c3] := by rw [hW0, hN]; exact Blk.new _ _ _
    have HG0 := Lib.hid (And.intro hG0 hB0); clear hG0 hB0
    go_enter Tryz.func134, Tryz.ntmps134
    go_wp2_with fail
    rw [← hW0, ← hN]
    clear hW0 hN
    refine (HS.out _ HG0.out.1).mono ?_
    rintro e w1 ⟨rfl, hg⟩
    have HG := Lib.hid (And.intro (gb_trans HG0.out.1 hg) (HG0.out.2.grown hg (by simp))); clear hg HG0
    go_wp2_with fail
    refine Fg.region_t [] [.any, .any, Fg.It.ow w1.heap.size [T, sig].flatten, .val (Value.int .i64 0), .any, .any, .any, .val (vV s cl sq a1 n1 c1 g a2 n2 c2 a3 n3 c3), Fg.It.by T, .val (Value.pointer (some ⟨N, 6, none⟩)), .val (Value.slice a3 n3 c3), Fg.It.rws [T, sig], Fg.It.ow w1.heap.size [T, sig].flatten] w1 8 (gb_refl _ _) (by kernel_rfl) (by kernel_rfl) (by kernel_rfl) (by kernel_rfl) (by decide) (by kernel_rfl) ?_ ?_
    · refine ⟨Fg.vT rfl (by decide) fun ac w h => ?_, ?_⟩
      · have e1 : ac.tmps.getD 1 undef = Value.pointer (some ⟨N, 0, none⟩) := h.rest 1 (by kernel_rfl)
        have m0 := (HG.out.2.grown h.base (by simp)).cell (i := 0) rfl
        have m1 := (HG.out.2.grown h.base (by simp)).cell (i := 1) rfl
        have m2 := (HG.out.2.grown h.base (by simp)).cell (i := 2) rfl
        have m3 := (HG.out.2.grown h.base (by simp)).cell (i := 3) rfl
        have m4 := (HG.out.2.grown h.base (by simp)).cell (i := 4) rfl
        have m5 := (HG.out.2.grown h.base (by simp)).cell (i := 5) rfl
        have m6 := (HG.out.2.grown h.base (by simp)).cell (i := 6) rfl
        refine ⟨vV s cl sq a1 n1 c1 g a2 n2 c2 a3 n3 c3, w, wants_none rfl, ?_, gb_refl _ _, rfl⟩
        clear h
        simp only [execOp, Act.eval, e1]
        go_simp
      refine ⟨Fg.cT rfl (by decide) fun ac w h => ?_, ?_⟩
      · have e7 : ac.tmps.getD 7 undef = vV s cl sq a1 n1 c1 g a2 n2 c2 a3 n3 c3 := h.dep 7 (by kernel_rfl)
        refine ⟨191, #[vV s cl sq a1 n1 c1 g a2 n2 c2 a3 n3 c3], wants_none rfl, Fg.run_call rfl rfl (by simp only [List.map_toArray, List.map_cons, List.map_nil, Act.eval, e7]) (Fg.run_enter Tryz.func191 (by kernel_rfl) (by kernel_rfl)), ?_⟩
        exact (HT.out w (gb_trans HG.out.1 h.base)).mono fun _ _ ⟨_, _, he, hg, hb⟩ => ⟨_, he, hg, _, _, _, rfl, hb⟩
      refine ⟨Fg.vT rfl (by decide) fun ac w h => ?_, ?_⟩
      · have e1 : ac.tmps.getD 1 undef = Value.pointer (some ⟨N, 0, none⟩) := h.rest 1 (by kernel_rfl)
        refine ⟨Value.pointer (some ⟨N, 6, none⟩), w, wants_none rfl, ?_, gb_refl _ _, rfl⟩
        clear h
        simp only [execOp, Act.eval, e1]
        go_simp
      refine ⟨Fg.vT rfl (by decide) fun ac w h => ?_, ?_⟩
      · have e9 : ac.tmps.getD 9 undef = Value.pointer (some ⟨N, 6, none⟩) := h.dep 9 (by kernel_rfl)
        have c := (HG.out.2.grown h.base (by simp)).cell (i := 6) rfl
        refine ⟨Value.slice a3 n3 c3, w, wants_none rfl, ?_, gb_refl _ _, rfl⟩
        clear h
        simp only [execOp, Act.eval, e9]
        go_simp
      refine ⟨Fg.vT rfl (by decide) fun ac w h => ?_, ?_⟩
      · obtain ⟨a8, k8, B8, e8, b8⟩ : ∃ x c B, ac.tmps.getD 8 undef = .slice x T.length c ∧ BytesAt w B x c T := h.dep 8 (by kernel_rfl)
        have e10 : ac.tmps.getD 10 undef = Value.slice a3 n3 c3 := h.dep 10 (by kernel_rfl)
        have hbx : RowsAt (w.alloc (.cells #[.slice a8 T.length k8, .slice a3 n3 c3] 23)) (w.heap.size + 1) (some ⟨w.heap.size, 0, none⟩) [T, sig] := by
          rw [← HSG.out.2]
          exact rows_box _ [(a8, k8, T), (a3, c3, sig)] (fun p hp => by
            simp only [List.mem_cons, List.not_mem_nil, or_false] at hp
            rcases hp with rfl | rfl
            · exact ⟨_, b8⟩
            · exact ⟨_, HSG.out.1.stay (gb_trans HG.out.1 h.base)⟩)
        refine ⟨.slice (some ⟨w.heap.size, 0, none⟩) 2 2, w.alloc (.cells #[.slice a8 T.length k8, .slice a3 n3 c3] 23), wants_none rfl, ?_, gb_alloc (gb_refl _ _) _, ⟨_, 2, _, rfl, hbx⟩⟩
        clear h
        simp only [execOp, Act.eval, e8, e10, List.map_toArray, List.map_cons, List.map_nil]
        go_simp
      refine ⟨Fg.cT rfl (by decide) fun ac w h => ?_, ?_⟩
      · obtain ⟨a11, k11, B11, e11, b11⟩ : ∃ x c B, ac.tmps.getD 11 undef = .slice x [T, sig].length c ∧ RowsAt w B x [T, sig] := h.dep 11 (by kernel_rfl)
        refine ⟨17, #[Value.slice a11 [T, sig].length k11], wants_none rfl, Fg.run_call rfl rfl (by simp only [List.map_toArray, List.map_cons, List.map_nil, Act.eval, e11]) (Fg.run_enter Tryz.func17 (by kernel_rfl) (by kernel_rfl)), ?_⟩
        exact (refJoin_own 2 [T, sig] a11 k11 B11 w rfl b11 (by simp) HL.out.1 HL.out.2).mono fun _ _ ⟨_, he, hg, ho⟩ => ⟨_, he, hg, own_down ho h.base.size⟩
      refine ⟨Fg.vT rfl (by decide) fun ac w h => ?_, ?_⟩
      · obtain ⟨v12, e12, b12⟩ : ∃ v, ac.tmps.getD 12 undef = v ∧ w.ownsRow w1.heap.size 5 1 v [T, sig].flatten.length ([T, sig].flatten.map u8N) := ⟨_, rfl, h.dep 12 (by kernel_rfl)⟩
        exact ⟨_, w, wants_none rfl, Fg.run_assign rfl e12, gb_refl _ _, b12⟩
      refine ⟨Fg.vT rfl (by decide) fun ac w h => ?_, ?_⟩
      · refine ⟨Value.int .i64 0, w, wants_none rfl, ?_, gb_refl _ _, rfl⟩
        clear h
        simp only [execOp, Act.eval]
        go_simp
      trivial
    · intro aq wq hB hsz hdf hrest hslots hpt
      obtain ⟨u0, e0⟩ : ∃ u, aq.tmps.getD 0 undef = u := ⟨_, rfl⟩
      obtain ⟨v2, e2, b2⟩ : ∃ v, aq.tmps.getD 2 undef = v ∧ wq.ownsRow w1.heap.size 5 1 v [T, sig].flatten.length ([T, sig].flatten.map u8N) := ⟨_, rfl, hslots 2 (by kernel_rfl)⟩
      have e3 : aq.tmps.getD 3 undef = Value.int .i64 0 := hslots 3 (by kernel_rfl)
      obtain ⟨u4, e4⟩ : ∃ u, aq.tmps.getD 4 undef = u := ⟨_, rfl⟩
      obtain ⟨u5, e5⟩ : ∃ u, aq.tmps.getD 5 undef = u := ⟨_, rfl⟩
      obtain ⟨u6, e6⟩ : ∃ u, aq.tmps.getD 6 undef = u := ⟨_, rfl⟩
      obtain ⟨u7, e7⟩ : ∃ u, aq.tmps.getD 7 undef = u := ⟨_, rfl⟩
      obtain ⟨u8, e8⟩ : ∃ u, aq.tmps.getD 8 undef = u := ⟨_, rfl⟩
      obtain ⟨u9, e9⟩ : ∃ u, aq.tmps.getD 9 undef = u := ⟨_, rfl⟩
      obtain ⟨u10, e10⟩ : ∃ u, aq.tmps.getD 10 undef = u := ⟨_, rfl⟩
      obtain ⟨u11, e11⟩ : ∃ u, aq.tmps.getD 11 undef = u := ⟨_, rfl⟩
      obtain ⟨u12, e12⟩ : ∃ u, aq.tmps.getD 12 undef = u := ⟨_, rfl⟩
      obtain rfl := Fg.frame_is (a := aq) (vs := [u0, Value.pointer (some ⟨N, 0, none⟩), v2, Value.int .i64 0, u4, u5, u6, u7, u8, u9, u10, u11, u12]) hsz ⟨e0, hrest 1 (by kernel_rfl), e2, e3, e4, e5, e6, e7, e8, e9, e10, e11, e12, trivial⟩ hdf
      clear hsz hdf hrest hslots hpt e0 e2 e3 e4 e5 e6 e7 e8 e9 e10 e11 e12
      have HR := Lib.hid (HQ.out wq v2 (gb_trans HG.out.1 hB) (own_down b2 HG.out.1.size))
      clear b2 hB
      refine wpList_nil ?_
      go_wp2
      exact HR.out
theorem refPut_any (r : R) (B : Nat) (w : World) (q : L) (h : RAt w B q r) : Calls Tryz.prog 134 #[q.v r] w (POut w (putO r) (errN (rightB r) 4)) := by
  have hb : ∀ i, (putO r).getD i 0 < 256 := by
    unfold putO
    cases hr : rightB r with
    | false => simp
    | true =>
      simp only [rightB, Bool.and_eq_true] at hr
      exact app_byte (text_small h hr.1).2 h.sig.byte
  refine (refPut_own r B w q h).mono fun e w' ⟨v, he, hg, ho⟩ => ?_
  obtain ⟨a, c, rfl, _, hB, _⟩ := own_slice ho hb
  exact ⟨a, c, he, hg, hB⟩
end Rc
end Go.Proofs.YtlkiancedgaicaaGreat

/- The document's sets: text, Put. -/
namespace Go.Proofs.YtlkiancedgaicaaGreat
open Go.RowKit Ow Wi Ve Rc
namespace Sb
theorem row_shape' {w : World} {base e n : Nat} {v : Value} {xs : List Value} (h : w.ownsRow base e 1 v n xs) : ∃ a c, v = .slice a n c := by
  rcases own_shape h with ⟨rfl, h0⟩ | ⟨g, c, rfl⟩
  · exact ⟨none, 0, by rw [h0]⟩
  · exact ⟨_, _, rfl⟩
theorem putO_byte {w : World} {B : Nat} {q : L} {r : R} (h : RAt w B q r) : ∀ i, (putO r).getD i 0 < 256 := by
  unfold putO
  cases hr : rightB r with
  | false => simp
  | true =>
    show ∀ i, (textL r ++ r.sig).getD i 0 < 256
    exact app_byte (text_small h (right_shape hr)).2 h.sig.byte
set_option maxHeartbeats 1000000 in
theorem refText9_any (x : E) (B : Nat) (w : World) (h : RAt w B x.1 x.2) : Calls Tryz.prog 75 #[recV x] w fun e w' => ∃ s, e = .returned (.string s) ∧ w.grownBy w' none ∧ strL s = putO x.2 := by
  have HP := Lib.hid (fun w' (hg : w.grownBy w' none) => refPut_any x.2 B w' x.1 (h.stay hg))
  have HL := Lib.hid (putO_byte h)
  clear h
  obtain ⟨P, hP⟩ : ∃ P, P = putO x.2 := ⟨_, rfl⟩
  obtain ⟨n, hn⟩ : ∃ n, n = errN (rightB x.2) 4 := ⟨_, rfl⟩
  rw [← hP] at HP HL ⊢
  rw [← hn] at HP
  clear hP hn
  obtain ⟨⟨s, a1, n1, c1, a2, n2, c2, a3, n3, c3⟩, ⟨key, cl, sq, cx, g, val, sig⟩⟩ := x
  replace HP : Hid (∀ w' (_ : w.grownBy w' none), Calls Tryz.prog 134 #[vV s cl sq a1 n1 c1 g a2 n2 c2 a3 n3 c3] w' (POut w' P n)) := HP
  show Calls _ _ #[vV s cl sq a1 n1 c1 g a2 n2 c2 a3 n3 c3] w _
  have HG := Lib.hid (gb_alloc (gb_refl w none) (.cells #[.string s, iV cl, iV sq, .slice a1 n1 c1, .bool g, .slice a2 n2 c2, .slice a3 n3 c3] 66))
  go_enter Tryz.func75, Tryz.ntmps75
  go_wp2_with fail
  refine (HP.out _ HG.out).mono ?_
  rintro e w2 ⟨ap, cp, rfl, hg, hb⟩
  obtain ⟨m, hm⟩ : ∃ m, P.length = m := ⟨_, rfl⟩
  have hcv := bytes_str hm hb
  have HE := Lib.hid (And.intro (gb_trans HG.out hg) (strL_ofL HL.out))
  rw [hm]
  clear hg hb hm
  go_wp2
  go_ret
  exact ⟨_, rfl, HE.out⟩
def PutOut9 (w : World) (l : List R) (e : Ending) (w' : World) : Prop :=
  w.grownBy w' none ∧ if setB l then ∃ v, e = .returned (.tuple #[v, .int .i64 0]) ∧ w'.ownsRow w.heap.size 5 1 v (setL l).length ((setL l).map u8N) else e = .returned (.tuple #[.slice none 0 0, .int .i64 4])
set_option maxHeartbeats 4000000 in
set_option maxRecDepth 100000 in
theorem refPut9_any (B n c : Nat) (a : Option Addr) (l : List E) (w : World) (hn : l.length = n) (h : RRow w B a l) (hc : n ≤ 1000000) (hsz : setB (recs l) = true → (setL (recs l)).length ≤ 900000) :
    Calls Tryz.prog 43 #[.slice a n c] w (PutOut9 w (recs l)) := by
  have HR := Lib.hid (refRight9_any B n c a l w hn h (by omega))
  obtain ⟨Q, hQ⟩ : ∃ Q, Q = PutOut9 w (recs l) := ⟨_, rfl⟩
  rw [← hQ]
  cases hs : setB (recs l) with
  | false =>
    have HQ : Hid (∀ w', w.grownBy w' none → Q (.returned (.tuple #[.slice none 0 0, .int .i64 4])) w') := fun w' hg => by rw [hQ]; unfold PutOut9; rw [hs]; exact ⟨hg, rfl⟩
    rw [hs] at HR
    clear hQ hs h hn hsz
    go_enter Tryz.func43, Tryz.ntmps43
    go_wp2_with fail
    refine HR.out.mono ?_
    rintro e w1 ⟨rfl, hg1⟩
    have HE := Lib.hid (HQ.out _ hg1); clear hg1
    go_wp2
    exact HE.out
  | true =>
    have HQ : Hid (∀ v w', w.grownBy w' none → w'.ownsRow w.heap.size 5 1 v (setL (recs l)).length ((setL (recs l)).map u8N) → Q (.returned (.tuple #[v, .int .i64 0])) w') := fun v w' hg ho => by rw [hQ]; unfold PutOut9; rw [hs, if_pos rfl]; exact ⟨hg, v, rfl, ho⟩
    rw [hs] at HR
    have hr : ∀ x ∈ l, rightB x.2 = true := fun x hx => ((alike_iff (recs l)).1 (set_of hs).1 x.2 (List.mem_map.2 ⟨x, hx, rfl⟩)).1
    have hpl : ∀ x ∈ l, (putL x.2).length ≤ 900000 := fun x hx => by
      have h1 := rowsL_mem (l := recs l) (r := x.2) (List.mem_map.2 ⟨x, hx, rfl⟩)
      have h2 := setL_len (recs l)
      have h3 := hsz hs
      omega
    have hup : ∀ k, (encN (n : Int) ++ rowsL (recs (l.take k))).length ≤ 1000000 := fun k => by
      have h2 := setL_len (recs l)
      have h3 := hsz hs
      have h4 : (rowsL (recs (l.take k))).length ≤ (rowsL (recs l)).length := by
        have e : rowsL (recs l) = rowsL (recs (l.take k)) ++ rowsL (recs (l.drop k)) := by
          rw [← rowsL_app, ← List.map_append, List.take_append_drop]
        rw [e, List.length_append]; omega
      rw [List.length_append, encN_length]; omega
    have H := Lib.hid (And.intro h (And.intro hn (And.intro hr (And.intro hpl hup)))); clear hQ hs h hn hr hpl hup hsz
    go_enter Tryz.func43, Tryz.ntmps43
    go_wp2_with fail
    refine HR.out.mono ?_
    rintro e w1 ⟨rfl, hg1⟩
    have HG1 := Lib.hid hg1; clear hg1 HR
    go_wp2_with fail
    refine (refNumber_any (n : Int) w1).mono ?_
    rintro e w2 ⟨v0, rfl, hg2, ho2⟩
    have HP0 : Hid (w.grownBy w2 none ∧ w2.ownsRow w.heap.size 5 1 v0 8 ((encN (n : Int)).map u8N)) := ⟨gb_trans HG1.out hg2, own_down ho2 HG1.out.size⟩
    clear hg2 ho2 HG1
    go_wp2_with fail
    go_loopw [4, 5] (fun v i wr => ∃ (k m : Nat), k ≤ n ∧ i = .int .i64 k ∧ Hid ((encN (n : Int) ++ rowsL (recs (l.take k))).length = m ∧ w.grownBy wr none ∧ wr.ownsRow w.heap.size 5 1 v m ((encN (n : Int) ++ rowsL (recs (l.take k))).map u8N))) (fun _ i _ => n - (intOf i).toNat)
    case atStart => exact ⟨0, 8, by omega, rfl, by simp [rowsL, encN_length], HP0.out.1, by simpa [rowsL] using HP0.out.2⟩
    case round =>
      obtain ⟨k, m, hk, rfl, HI⟩ := hrel
      by_cases hlt : k < n
      · have hkl : k < l.length := by rw [H.out.2.1]; exact hlt
        obtain ⟨pb, po, rfl, hpb, hcs⟩ := (H.out.1.stay HI.out.2.1).at (by omega)
        have hx := hcs k hkl
        have hra := (H.out.1.stay HI.out.2.1).recs _ (getD_mem hkl)
        have hrx := H.out.2.2.1 _ (getD_mem hkl)
        have hpx := H.out.2.2.2.1 _ (getD_mem hkl)
        have hnx := recs_take l k hkl
        have hm1 := H.out.2.2.2.2 k
        rw [HI.out.1] at hm1
        generalize l.getD k e0 = x at *
        have HT := Lib.hid (refText9_any x B wr hra)
        rw [putO_right hrx] at HT
        have hmap : encN (n : Int) ++ rowsL (recs (l.take (k + 1))) = (encN (n : Int) ++ rowsL (recs (l.take k))) ++ rowL (putL x.2) := by
          rw [hnx, rowsL_app, rowsL_one, List.append_assoc]
        have HM := Lib.hid hmap
        obtain ⟨P, hP⟩ : ∃ P, P = putL x.2 := ⟨_, rfl⟩
        rw [← hP] at HT HM hpx
        generalize encN (n : Int) ++ rowsL (recs (l.take k)) = L0 at *
        clear hra hrx hnx hcs hP hmap
        obtain ⟨⟨s, a1, n1, c1, a2, n2, c2, a3, n3, c3⟩, ⟨key, cl, sq, cx, g0, val, sig⟩⟩ := x
        obtain ⟨c0', c1', c2', c3', c4', c5', c6'⟩ := cells_of hx
        replace HT : Hid (Calls Tryz.prog 75 #[vV s cl sq a1 n1 c1 g0 a2 n2 c2 a3 n3 c3] wr fun e w' => ∃ s, e = .returned (.string s) ∧ wr.grownBy w' none ∧ strL s = P) := HT
        have hi : (k : Int) < (n : Int) := by omega
        clear hx
        go_wp2_with fail
        clear c0' c1' c2' c3' c4' c5' c6'
        refine HT.out.mono ?_
        rintro e w3 ⟨st, rfl, hg3, hst⟩
        have hsl : st.size = P.length := by rw [← hst, strL_len]
        obtain ⟨cc, w4, hcv, hg4, hB4⟩ := str_bytes st w3 (by omega)
        rw [hst] at hB4
        obtain ⟨q, hq⟩ : ∃ q, q = P.length := ⟨_, rfl⟩
        rw [hsl, ← hq] at hcv
        rw [← hq] at hpx
        have HB := Lib.hid (refBytes_out q P _ cc _ w4 hq.symm hB4 (by omega))
        rw [← hq] at HB
        have HK := Lib.hid (And.intro HI.out.1 (And.intro (gb_trans HI.out.2.1 (gb_trans hg3 hg4)) (And.intro (World.ownsRow.stay HI.out.2.2 (gb_trans hg3 hg4)) hq)))
        clear hg3 hst hsl hg4 hB4 hq HI HT
        go_wp2_with fail
        refine HB.out.mono ?_
        rintro e w5 ⟨a5, c5, rfl, hg5, hB5⟩
        have hl5 : (encN (q : Int) ++ P).length = 8 + q := by rw [List.length_append, encN_length, ← HK.out.2.2.2]
        rw [hl5]
        obtain ⟨v6, w6, hap, ho6, hg6⟩ := append_bytes w5 w.heap.size m w5.heap.size c5 (8 + q) u4 (L0.map u8N) a5 (encN (q : Int) ++ P) (World.ownsRow.stay HK.out.2.2.1 hg5) hl5 hB5 (by omega) (gb_trans HK.out.2.1 hg5).size
        have hg56 := own_gb (gb_trans HK.out.2.1 hg5) (World.ownsRow.stay HK.out.2.2.1 hg5) hg6
        have HE : Hid ((L0 ++ rowL P).length = m + (8 + q) ∧ w.grownBy w6 none ∧ w6.ownsRow w.heap.size 5 1 v6 (m + (8 + q)) ((L0 ++ rowL P).map u8N)) := by
          unfold rowL
          rw [← HK.out.2.2.2]
          refine ⟨by rw [List.length_append, HK.out.1, hl5], hg56, ?_⟩
          rw [List.map_append]; exact ho6
        have HSH : Hid (∃ a c, u4 = .slice a m c) := row_shape' HK.out.2.2.1
        obtain ⟨ua, uc, rfl⟩ := HSH.out
        clear hg5 hB5 hl5 ho6 hg6 hg56 HB
        go_wp2_with (at_builtin; refine wpList_append_run rfl (.tmp 18) (.tmp 25) 23 rfl rfl _ _ rfl rfl _ _ hap ?_)
        exact ⟨⟨k + 1, m + (8 + q), by omega, rfl, by rw [HM.out]; exact HE.out⟩, by show n - ((k : Int) + 1).toNat < n - (k : Int).toNat; omega⟩
      · obtain rfl : k = n := by omega
        have HE : Hid (Q (.returned (.tuple #[u4, .int .i64 0])) wr) := by
          refine HQ.out _ _ HI.out.2.1 ?_
          have ho := HI.out.2.2
          rw [List.take_of_length_le (by rw [H.out.2.1]; exact Nat.le_refl _)] at ho
          have hm := HI.out.1
          rw [List.take_of_length_le (by rw [H.out.2.1]; exact Nat.le_refl _)] at hm
          unfold setL
          rw [recs_length, H.out.2.1, hm]
          exact ho
        clear hlt HI
        go_wp2
        exact HE.out
end Sb
end Go.Proofs.YtlkiancedgaicaaGreat

/- The kit's lent bytes: a copy with marks behind it; whether they were kept. -/
namespace Go.Proofs.YtlkiancedgaicaaGreat
open Go.RowKit Ow

/-- the mark of a place in a list of bytes -/
def mkB (k i : Nat) : Nat := (1000003 * (k + 7) + i) * 11400714819323198485 % 18446744073709551616 / 72057594037927936
theorem mkB_lt (k i : Nat) : mkB k i < 256 := by unfold mkB; omega
theorem mkB_is (k i : Nat) : IntKind.u64.wrap ((1000003 * ((k : Int) + 7) + (i : Int)) * 11400714819323198485) / 72057594037927936 % 256 = ((mkB k i : Nat) : Int) := by
  have e : (1000003 * ((k : Int) + 7) + (i : Int)) * 11400714819323198485 = (((1000003 * (k + 7) + i) * 11400714819323198485 : Nat) : Int) := by omega
  rw [e, IntKind.wrap_u64]
  unfold mkB
  generalize (1000003 * (k + 7) + i) * 11400714819323198485 = x
  omega
set_option maxHeartbeats 400000 in
theorem mkByte_any (k i : Nat) (w : World) (hk : k ≤ 1000000) (hi : i ≤ 1000000) :
    Calls Tryz.prog 58 #[.int .i64 k, .int .i64 i] w fun e w' => e = .returned (.int .u8 (mkB k i)) ∧ w' = w := by
  go_enter Tryz.func58, Tryz.ntmps58
  go_wp2
  go_ret
  refine ⟨?_, rfl⟩
  rw [← mkB_is]; rfl
/-- marks, by whatever function; Marks f: the kit's -/
structure Marks (f : Nat → Nat → Nat) : Prop where
  lt : ∀ k i, f k i < 256
  run : ∀ (k i : Nat) (x y : Int) (w : World), x = k → y = i → k ≤ 1000000 → i ≤ 1000000 → Calls Tryz.prog 58 #[.int .i64 x, .int .i64 y] w fun e w' => e = .returned (.int .u8 (f k i)) ∧ w' = w
theorem marks_kit : Marks mkB := ⟨mkB_lt, fun k i x y w hx hy hk hi => by subst hx; subst hy; exact mkByte_any k i w hk hi⟩
theorem marks_are : ∃ f, Marks f := ⟨mkB, marks_kit⟩
def marksOf (f : Nat → Nat → Nat) (k j : Nat) : List Nat := (List.range j).map (f k)
theorem marksOf_length (f : Nat → Nat → Nat) (k j : Nat) : (marksOf f k j).length = j := by simp [marksOf]
theorem marksOf_next (f : Nat → Nat → Nat) (k j : Nat) : (marksOf f k (j + 1)).map u8N = (marksOf f k j).map u8N ++ [u8N (f k j)] := by simp [marksOf, List.range_succ]
theorem marksOf_get (f : Nat → Nat → Nat) (k j i : Nat) (h : i < j) : (marksOf f k j).getD i 0 = f k i := by
  unfold marksOf; rw [List.getD_eq_getElem?_getD, List.getElem?_map, List.getElem?_range h]; rfl
theorem marksOf_lt {f : Nat → Nat → Nat} (hf : Marks f) (k j i : Nat) : (marksOf f k j).getD i 0 < 256 := by
  by_cases h : i < j
  · rw [marksOf_get f k j i h]; exact hf.lt _ _
  · rw [List.getD_eq_getElem?_getD, List.getElem?_eq_none (by rw [marksOf_length]; omega)]; decide
set_option maxHeartbeats 1000000 in
theorem lentB_any {f : Nat → Nat → Nat} (hf : Marks f) (n cap B : Nat) (p : List Nat) (a : Option Addr) (w : World) (hn : p.length = n) (hP : BytesAt w B a cap p) (hlen : n ≤ 30000) :
    Calls Tryz.prog 22 #[.slice a n cap] w fun e w' => ∃ g, e = .returned (.slice (some ⟨g, 0, none⟩) n (n + 12)) ∧ w.grownBy w' none ∧ w.heap.size ≤ g ∧ Blk w' g 5 ((p ++ marksOf f 1 12).map u8N) := by
  have HF := Lib.hid hf; clear hf
  obtain ⟨w1, hmk, hg1, hs1, hb1⟩ := make_bytes 0 (n + 12) w (by omega) (by omega)
  have ho1 : w1.ownsRow w.heap.size 5 1 (.slice (some ⟨w.heap.size, 0, none⟩) 0 (n + 12)) 0 [] :=
    ⟨rfl, Or.inr ⟨w.heap.size, n + 12, _, rfl, Nat.le_refl _, hb1, by omega, by unfold maxLen; omega, by simp, by simp⟩⟩
  obtain ⟨w2, hap, ho2, hg2⟩ := append_bytes_fits w1 w.heap.size w.heap.size 0 (n + 12) B cap n [] a p ho1 hn (hP.stay hg1) (by omega)
  have hg02 := gb_then hg1 hg2 (Nat.le_refl _)
  rw [Nat.zero_add, List.nil_append] at ho2
  have hmk' : (Instr.makeSlice 23 (.int .i64 0) (.int .i64 ((n : Int) + 12))).run Tryz.prog w = .ok (.slice (some ⟨w.heap.size, 0, none⟩) 0 (n + 12)) w1 := hmk
  rw [Nat.zero_add] at hap
  have H2 := Lib.hid (And.intro hap (And.intro ho2 hg02)); clear hap ho2 hg02 hg1 hg2 ho1 hmk hs1 hb1 hP
  go_enter Tryz.func22, Tryz.ntmps22
  go_wp2_with (at_builtin; refine wpList_append_run rfl (.tmp 9) (.tmp 10) 23 rfl rfl _ _ rfl rfl _ _ H2.out.1 ?_)
  go_loopw [3, 4] (fun v i wr => ∃ j m : Nat, j ≤ 12 ∧ m = n + j ∧ i = .int .i64 j ∧ v = .slice (some ⟨w.heap.size, 0, none⟩) m (n + 12) ∧ wr.ownsRow w.heap.size 5 1 (.slice (some ⟨w.heap.size, 0, none⟩) m (n + 12)) m (p.map u8N ++ (marksOf f 1 j).map u8N) ∧ w.grownBy wr none) (fun _ i _ => 12 - (intOf i).toNat)
  case atStart => exact ⟨0, n, by omega, rfl, rfl, rfl, by simpa [marksOf] using H2.out.2.1, H2.out.2.2⟩
  case round =>
    obtain ⟨j, m, hj, hm, rfl, rfl, hown, hg⟩ := hrel
    by_cases hlt : j < 12
    · obtain ⟨y, hy⟩ : ∃ y, y = f 1 j := ⟨_, rfl⟩
      obtain ⟨w3, hap, ho3, hg3⟩ := append_byte_fits wr w.heap.size w.heap.size m (n + 12) y _ (by rw [hy]; exact HF.out.lt _ _) hown (by omega)
      have hg4 := gb_then hg hg3 (Nat.le_refl _)
      rw [List.append_assoc, hy, ← marksOf_next] at ho3
      unfold u8N at hap
      have hmb := fun W => HF.out.run 1 j 1 j W rfl rfl (by decide) (by omega)
      rw [← hy] at hmb
      have HI := Lib.hid (And.intro hap (And.intro ho3 (And.intro hg4 (And.intro hm hmb)))); clear hap ho3 hg4 hg3 hm hown hg hy hmb
      have i0 : (j : Int) < 12 := by omega
      go_wp2_with fail
      refine (HI.out.2.2.2.2 wr).mono ?_
      rintro e w4 ⟨rfl, rfl⟩
      go_wp2_with (at_builtin; refine wpList_append_run rfl (.tmp 16) (.tmp 19) 23 rfl rfl _ _ rfl rfl _ _ HI.out.1 ?_)
      go_roundw
      case rel => exact ⟨j + 1, m + 1, by omega, by have := HI.out.2.2.2.1; omega, by go_num, rfl, HI.out.2.1, HI.out.2.2.1⟩
      case measure => simp [intOf]; omega
    · obtain rfl : j = 12 := by omega
      have e : m = n + 12 := hm
      subst e
      rw [← List.map_append] at hown
      rcases hown.2 with ⟨h0, _⟩ | ⟨g', c', cur, e1, hbg, hgh, _, _, hs, ht⟩
      · cases h0
      · cases e1
        have hcur : cur.toList = (p ++ marksOf f 1 12).map u8N := by rw [← ht, List.take_of_length_le]; rw [Array.length_toList]; omega
        have hblk : Blk wr w.heap.size 5 ((p ++ marksOf f 1 12).map u8N) := by unfold Blk; rw [hgh, ← hcur, Array.toArray_toList]
        have HI := Lib.hid (And.intro hblk hg); clear hown hg hm hgh hcur hblk ht hs
        go_wp2
        go_ret
        exact ⟨w.heap.size, rfl, HI.out.2, Nat.le_refl _, HI.out.1⟩
end Go.Proofs.YtlkiancedgaicaaGreat

/- The kit's marks of dots; its lent dots: a copy with marks behind it. -/
namespace Go.Proofs.YtlkiancedgaicaaGreat
open Go.RowKit Ve
namespace Ve
/-- the number in a mark -/
def mkN (k i : Nat) : Nat := 1000003 * (k + 7) + i
set_option maxHeartbeats 400000 in
theorem mark_any (k i : Nat) (w : World) (hk : k ≤ 1000000) (hi : i ≤ 1000000) :
    Calls Tryz.prog 117 #[.int .i64 k, .int .i64 i] w fun e w' => e = .returned (.int .i64 (mkN k i : Nat)) ∧ w = w' := by
  go_enter Tryz.func117, Tryz.ntmps117
  go_wp2
  go_ret
  refine ⟨?_, rfl⟩
  unfold mkN
  congr 2
def MarkOut (w : World) (m : Nat) (e : Ending) (w' : World) : Prop := e = .returned (.agg #[iV 0, iV m]) ∧ w.grownBy w' none
set_option maxHeartbeats 400000 in
theorem markDot_any (k i : Nat) (w : World) (hk : k ≤ 1000000) (hi : i ≤ 1000000) :
    Calls Tryz.prog 147 #[.int .i64 k, .int .i64 i] w (MarkOut w (mkN k i)) := by
  have hm := mark_any k i (w.alloc (.cells #[.int .i64 0, .int .i64 0] 127)) hk hi
  generalize mkN k i = m at hm ⊢
  go_enter Tryz.func147, Tryz.ntmps147
  go_wp2_with fail
  refine hm.mono ?_
  rintro e w' ⟨rfl, rfl⟩
  go_wp2
  exact bodyPost_ret (v := .agg #[iV 0, iV m]) (by simp [results, Tryz.results147, go_sem]) rfl ⟨rfl, gb_alloc (gb_refl _ _) _⟩
/-- marks, one behind the other -/
def marksD (k j : Nat) : List D := (List.range j).map fun i => (0, (mkN k i : Int))
theorem marksD_len (k j : Nat) : (marksD k j).length = j := by simp [marksD]
theorem marksD_next (k j : Nat) : marksD k (j + 1) = marksD k j ++ [(0, (mkN k j : Int))] := by simp [marksD, List.range_succ]
theorem marksD_get (k j i : Nat) (h : i < j) : (marksD k j).getD i z0 = (0, (mkN k i : Int)) := by
  unfold marksD; rw [List.getD_eq_getElem?_getD, List.getElem?_map, List.getElem?_range h]; rfl
/-- what is lent: a copy in a new block, marks behind it -/
def LentOut (w : World) (n : Nat) (p : List D) (e : Ending) (w' : World) : Prop :=
  ∃ g c, e = .returned (.slice (some ⟨g, 0, none⟩) n c) ∧ n + 12 ≤ c ∧ OwnD' w' w.heap.size (.slice (some ⟨g, 0, none⟩) (n + 12) c) (n + 12) (p ++ marksD 1 12) ∧ w.grownBy w' none
set_option maxHeartbeats 1000000 in
theorem lentD_any (n cap B : Nat) (p : List D) (a : Option Addr) (w : World) (hn : p.length = n) (hP : DotsAt w B a p) (ha : a = none → cap = 0) (hlen : n ≤ 30000) :
    Calls Tryz.prog 124 #[.slice a n cap] w (LentOut w n p) := by
  obtain ⟨i, hi, hz, hs, hb⟩ := info_dot
  obtain ⟨w1, hmk, ho1, hg1⟩ := run_make_own (P := Tryz.prog) w w.heap.size 64 127 i (.agg #[iV 0, iV 0]) 2 Tryz.underlying64 hi hz hs .i64 .i64 (n + 12) (by rw [hb]; omega) (by unfold maxLen; omega) (Nat.le_refl _)
  obtain ⟨v2, w2, hap, ho2, hg2⟩ := append_dots w1 w.heap.size B _ 0 [] a n cap p ho1 hn (hP.stay hg1) ha (by omega) hg1.size
  have hg02 := gb_ownD' hg1 (l := []) ho1 (Nat.le_refl _) hg2
  rw [Nat.zero_add, List.nil_append] at ho2
  have hmk' : (Instr.makeSlice 64 (.int .i64 0) (.int .i64 ((n : Int) + 12))).run Tryz.prog w = .ok (.slice (some ⟨w.heap.size, 0, none⟩) 0 (n + 12)) w1 := hmk
  obtain ⟨a2, c2, rfl⟩ := own_shapeD ho2
  have H2 := Lib.hid (And.intro hap (And.intro ho2 hg02)); clear hap ho2 hg02 hg1 hg2 ho1 hmk hP hi hz hs hb
  obtain ⟨Q, hQ⟩ : ∃ Q, Q = LentOut w n p := ⟨_, rfl⟩
  rw [← hQ]
  have HQ := Lib.hid hQ; clear hQ
  go_enter Tryz.func124, Tryz.ntmps124
  go_wp2_with (at_builtin; refine Lib.wpList_append_run _ rfl _ _ _ _ rfl _ _ rfl rfl _ _ H2.out.1 ?_)
  go_loopw [3, 4] (fun v i wr => ∃ (j m c : Nat) (a : Option Addr), j ≤ 12 ∧ Hid (m = n + j) ∧ i = .int .i64 j ∧ v = .slice a m c ∧ Hid (OwnD' wr w.heap.size (.slice a m c) m (p ++ marksD 1 j) ∧ w.grownBy wr none)) (fun _ i _ => 12 - (intOf i).toNat)
  case atStart => exact ⟨0, n, c2, a2, by omega, rfl, rfl, rfl, by rw [show marksD 1 0 = [] from rfl, List.append_nil]; exact H2.out.2⟩
  case round =>
    obtain ⟨j, m, c, a', hj, hm, rfl, rfl, HO⟩ := hrel
    by_cases hlt : j < 12
    · have i0 : (j : Int) < 12 := by omega
      have hmk := Lib.hid (markDot_any 1 j wr (by decide) (by omega))
      obtain ⟨y, hy⟩ : ∃ y, y = mkN 1 j := ⟨_, rfl⟩
      rw [← hy] at hmk
      go_wp2_with fail
      refine hmk.out.mono ?_
      rintro e w4 ⟨rfl, hg4⟩
      obtain ⟨v3, w3, hap, ho3, hg3⟩ := append_dots (w4.alloc (.cells #[iV 0, iV y] 127)) w.heap.size (w4.heap.size + 1) (.slice a' m c) m (p ++ marksD 1 j) (some ⟨w4.heap.size, 0, none⟩) 1 1 [(0, (y : Int))] ((HO.out.1.kept hg4 (by cases (Value.slice a' m c).ownBlock <;> simp)).alloc _) rfl (dots_one' w4 0 y _) (fun h => by cases h) (by have := hm.out; omega) (by have := HO.out.2.size; have := hg4.size; simp; omega)
      have hg5 := gb_ownD' (gb_trans HO.out.2 (gb_trans hg4 (gb_alloc (gb_refl _ none) (.cells #[iV 0, iV y] 127)))) (l := p ++ marksD 1 j) ((HO.out.1.kept hg4 (by cases (Value.slice a' m c).ownBlock <;> simp)).alloc _) (Nat.le_refl _) hg3
      obtain ⟨a5, c5, rfl⟩ := own_shapeD ho3
      rw [List.append_assoc, hy, ← marksD_next] at ho3
      have HN := Lib.hid (And.intro hap (And.intro ho3 hg5)); clear hap ho3 hg5 hg3 hg4 hy hmk
      go_wp2_with (at_builtin; refine Lib.wpList_append_run _ rfl _ _ _ _ rfl _ _ rfl rfl _ _ HN.out.1 ?_)
      go_roundw
      case rel => exact ⟨j + 1, m + 1, c5, a5, by omega, by have := hm.out; show m + 1 = n + (j + 1); omega, by go_num, rfl, HN.out.2⟩
      case measure => simp [intOf]; omega
    · obtain rfl : j = 12 := by omega
      have e : m = n + 12 := hm.out
      subst e
      obtain ⟨g, rfl, hc⟩ : ∃ g, a' = some ⟨g, 0, none⟩ ∧ n + 12 ≤ c := by
        rcases HO.out.1.2 with ⟨_, h⟩ | ⟨g, c', _, e, _, _, h, _⟩
        · omega
        · simp only [Value.slice.injEq, true_and] at e; exact ⟨g, e.1, by omega⟩
      have HF : Hid (Q (.returned (.slice (some ⟨g, 0, none⟩) n c)) wr) := by rw [HQ.out]; exact ⟨g, c, rfl, hc, HO.out.1, HO.out.2⟩
      have i1 : (n : Int) ≤ (c : Int) := by omega
      clear HO hm
      go_wp2
      exact HF.out
end Ve
end Go.Proofs.YtlkiancedgaicaaGreat

/- The kit's LentRecord: a record's parts copied, with marks behind them. (Printed by gen_rclent.py.) -/
namespace Go.Proofs.YtlkiancedgaicaaGreat
open Go.RowKit Ow Wi Ve
namespace Rc
/-- what LentRecord tells of a record that lies as q -/
def LpOut (f : Nat → Nat → Nat) (w : World) (q : L) (r : R) (e : Ending) (w' : World) : Prop :=
  ∃ (b1 : Option Addr) (d1 : Nat) (b2 b3 : Option Addr), e = .returned ((L.mk q.s b1 q.n1 d1 b2 q.n2 (q.n2 + 12) b3 q.n3 (q.n3 + 12)).v r) ∧ w.grownBy w' none ∧ q.n1 + 12 ≤ d1 ∧
    OwnD' w' w.heap.size (.slice b1 (q.n1 + 12) d1) (q.n1 + 12) (r.cx ++ marksD 1 12) ∧
    w'.ownsRow w.heap.size 5 1 (.slice b2 (q.n2 + 12) (q.n2 + 12)) (q.n2 + 12) ((r.val ++ marksOf f 1 12).map u8N) ∧
    w'.ownsRow w.heap.size 5 1 (.slice b3 (q.n3 + 12) (q.n3 + 12)) (q.n3 + 12) ((r.sig ++ marksOf f 1 12).map u8N)
theorem lentD_ex (n cap B : Nat) (p : List D) (a : Option Addr) (w : World) (hn : p.length = n) (hP : DotsAt w B a p) (ha : a = none → cap = 0) (hlen : n ≤ 30000) :
    Calls Tryz.prog 124 #[.slice a n cap] w fun e w' => ∃ b d, e = .returned (.slice b n d) ∧ w.grownBy w' none ∧ n + 12 ≤ d ∧ OwnD' w' w.heap.size (.slice b (n + 12) d) (n + 12) (p ++ marksD 1 12) :=
  (lentD_any n cap B p a w hn hP ha hlen).mono fun _ _ ⟨_, c, he, hc, ho, hg⟩ => ⟨_, c, he, hg, hc, ho⟩
theorem lentB_ex {f : Nat → Nat → Nat} (hf : Marks f) (n cap B : Nat) (p : List Nat) (a : Option Addr) (w : World) (hn : p.length = n) (hP : BytesAt w B a cap p) (hlen : n ≤ 30000) :
    Calls Tryz.prog 22 #[.slice a n cap] w fun e w' => ∃ b, e = .returned (.slice b n (n + 12)) ∧ w.grownBy w' none ∧ w'.ownsRow w.heap.size 5 1 (.slice b (n + 12) (n + 12)) (n + 12) ((p ++ marksOf f 1 12).map u8N) := by
  refine (lentB_any hf n cap B p a w hn hP hlen).mono fun _ _ ⟨g, he, hg, hw, hb⟩ => ⟨_, he, hg, ?_⟩
  have hl : ((p ++ marksOf f 1 12).map u8N).length = n + 12 := by rw [List.length_map, List.length_append, marksOf_length, hn]
  exact ⟨by omega, Or.inr ⟨g, n + 12, _, rfl, hw, hb, Nat.le_refl _, by unfold maxLen; omega, by simpa using hl, by simp only [Nat.mul_one]; rw [List.take_of_length_le (by omega)]⟩⟩
set_option maxHeartbeats 4000000 in
theorem lentRec_any {f : Nat → Nat → Nat} (hf : Marks f) (r : R) (B : Nat) (w : World) (q : L) (h : RAt w B q r) (hroom : q.a1 = none → q.c1 = 0) (hs : q.n1 ≤ 30000 ∧ q.n2 ≤ 30000 ∧ q.n3 ≤ 30000) : Calls Tryz.prog 68 #[q.v r] w (LpOut f w q r) := by
  have HD := Lib.hid (fun w' (hg : w.grownBy w' none) => lentD_ex q.n1 q.c1 B r.cx q.a1 w' h.l1 (h.dots.stay hg) hroom hs.1)
  have HV := Lib.hid (fun w' (hg : w.grownBy w' none) => lentB_ex hf q.n2 q.c2 B r.val q.a2 w' h.l2 (h.val.stay hg) hs.2.1)
  have HS := Lib.hid (fun w' (hg : w.grownBy w' none) => lentB_ex hf q.n3 q.c3 B r.sig q.a3 w' h.l3 (h.sig.stay hg) hs.2.2)
  have HK := Lib.hid (And.intro h.str (And.intro h.val.byte (And.intro h.sig.byte h.top)))
  obtain ⟨Q, hQ⟩ : ∃ Q, Q = LpOut f w q r := ⟨_, rfl⟩
  rw [← hQ]
  have HQ := Lib.hid hQ; clear hQ h hs hroom
  obtain ⟨s, a1, n1, c1, a2, n2, c2, a3, n3, c3⟩ := q
  obtain ⟨key, cl, sq, cx, g, val, sig⟩ := r
  show Calls _ _ #[.agg #[.string s, iV cl, iV sq, .slice a1 n1 c1, .bool g, .slice a2 n2 c2, .slice a3 n3 c3]] w _
  simp only at HD HV HS HK
  obtain ⟨N, hN⟩ : ∃ N, N = w.heap.size := ⟨_, rfl⟩
  obtain ⟨M, hM⟩ : ∃ M, M = w.heap.size + 1 := ⟨_, rfl⟩
  obtain ⟨W0, hW0⟩ : ∃ W0, W0 = (w.alloc (.cells #[.string s, iV cl, iV sq, .slice a1 n1 c1, .bool g, .slice a2 n2 c2, .slice a3 n3 c3] 66)).alloc (.cells z7.toArray 66) := ⟨_, rfl⟩
  have HG : Hid (Blk W0 N 66 [.string s, iV cl, iV sq, .slice a1 n1 c1, .bool g, .slice a2 n2 c2, .slice a3 n3 c3] ∧ Blk W0 M 66 z7 ∧ w.grownBy W0 none) := by
    refine ⟨?_, ?_, ?_⟩
    · rw [hW0, hN]; exact (Blk.new _ _ _).alloc _
    · rw [hW0, hM, ← World.size_alloc]; exact Blk.new _ _ _
    · rw [hW0]; exact gb_alloc (gb_alloc (gb_refl _ _) _) _
  have HNM : Hid (w.heap.size ≤ N ∧ w.heap.size ≤ M ∧ N ≠ M) := ⟨by omega, by omega, by omega⟩
  have x3 := HG.out.1.cell (i := 3) rfl
  have f3 := HG.out.1.free 3
  go_enter Tryz.func68, Tryz.ntmps68
  go_wp2_with fail
  rw [show (w.alloc (.cells #[.string s, iV cl, iV sq, .slice a1 n1 c1, .bool g, .slice a2 n2 c2, .slice a3 n3 c3] 66)).alloc (.cells #[.string ⟨#[]⟩, iV 0, iV 0, .slice none 0 0, .bool false, .slice none 0 0, .slice none 0 0] 66) = W0 from hW0.symm, ← hM, ← hN]
  clear hW0 hN hM
  refine (HD.out W0 HG.out.2.2).mono ?_
  rintro e w1 ⟨b1, d1, rfl, hg, hd1, ho⟩
  have HD1 := Lib.hid hd1; clear hd1
  have HG1 : Hid ((Blk w1 N 66 [.string s, iV cl, iV sq, .slice a1 n1 c1, .bool g, .slice a2 n2 c2, .slice a3 n3 c3] ∧ Blk w1 M 66 z7 ∧ w.grownBy w1 none) ∧ OwnD' w1 w.heap.size (.slice b1 (n1 + 12) d1) (n1 + 12) (cx ++ marksD 1 12)) := ⟨⟨HG.out.1.grown hg (by simp), HG.out.2.1.grown hg (by simp), gb_trans HG.out.2.2 hg⟩, own_mono ho HG.out.2.2.size⟩
  clear hg ho HG x3 f3
  have x3 := HG1.out.1.1.cell (i := 3) rfl
  have f3 := HG1.out.1.1.free 3
  have x5 := HG1.out.1.1.cell (i := 5) rfl
  go_wp2_with fail
  have HG2 : Hid ((Blk (w1.setCell ⟨N, 3, none⟩ (.slice b1 n1 d1)) N 66 [.string s, iV cl, iV sq, .slice b1 n1 d1, .bool g, .slice a2 n2 c2, .slice a3 n3 c3] ∧ Blk (w1.setCell ⟨N, 3, none⟩ (.slice b1 n1 d1)) M 66 z7 ∧ w.grownBy (w1.setCell ⟨N, 3, none⟩ (.slice b1 n1 d1)) none) ∧ OwnD' (w1.setCell ⟨N, 3, none⟩ (.slice b1 n1 d1)) w.heap.size (.slice b1 (n1 + 12) d1) (n1 + 12) (cx ++ marksD 1 12)) :=
    ⟨⟨HG1.out.1.1.set 3 _, HG1.out.1.2.1.other (a := ⟨N, 3, none⟩) HNM.out.2.2 _, gb_set_new HG1.out.1.2.2 (p := ⟨N, 3, none⟩) HNM.out.1 _⟩, own_other HG1.out.2 HG1.out.1.1 (by decide) (gb_set (gb_refl w1 (some N)) 3 _)⟩
  clear HG1 x3 f3 x5
  generalize w1.setCell ⟨N, 3, none⟩ (.slice b1 n1 d1) = w2 at *
  refine (HV.out w2 HG2.out.1.2.2).mono ?_
  rintro e w3 ⟨b2, rfl, hg, ho⟩
  have HG3 : Hid ((Blk w3 N 66 [.string s, iV cl, iV sq, .slice b1 n1 d1, .bool g, .slice a2 n2 c2, .slice a3 n3 c3] ∧ Blk w3 M 66 z7 ∧ w.grownBy w3 none) ∧ OwnD' w3 w.heap.size (.slice b1 (n1 + 12) d1) (n1 + 12) (cx ++ marksD 1 12) ∧ w3.ownsRow w.heap.size 5 1 (.slice b2 (n2 + 12) (n2 + 12)) (n2 + 12) ((val ++ marksOf f 1 12).map u8N)) :=
    ⟨⟨HG2.out.1.1.grown hg (by simp), HG2.out.1.2.1.grown hg (by simp), gb_trans HG2.out.1.2.2 hg⟩, HG2.out.2.kept hg (by cases (Value.slice b1 (n1 + 12) d1).ownBlock <;> simp), own_mono ho HG2.out.1.2.2.size⟩
  clear hg ho HG2
  have x5 := HG3.out.1.1.cell (i := 5) rfl
  have f5 := HG3.out.1.1.free 5
  have x6 := HG3.out.1.1.cell (i := 6) rfl
  go_wp2_with fail
  have hgs := gb_set (gb_refl w3 (some N)) 5 (.slice b2 n2 (n2 + 12))
  have HG4 : Hid ((Blk (w3.setCell ⟨N, 5, none⟩ (.slice b2 n2 (n2 + 12))) N 66 [.string s, iV cl, iV sq, .slice b1 n1 d1, .bool g, .slice b2 n2 (n2 + 12), .slice a3 n3 c3] ∧ Blk (w3.setCell ⟨N, 5, none⟩ (.slice b2 n2 (n2 + 12))) M 66 z7 ∧ w.grownBy (w3.setCell ⟨N, 5, none⟩ (.slice b2 n2 (n2 + 12))) none) ∧ OwnD' (w3.setCell ⟨N, 5, none⟩ (.slice b2 n2 (n2 + 12))) w.heap.size (.slice b1 (n1 + 12) d1) (n1 + 12) (cx ++ marksD 1 12) ∧ (w3.setCell ⟨N, 5, none⟩ (.slice b2 n2 (n2 + 12))).ownsRow w.heap.size 5 1 (.slice b2 (n2 + 12) (n2 + 12)) (n2 + 12) ((val ++ marksOf f 1 12).map u8N)) :=
    ⟨⟨HG3.out.1.1.set 5 _, HG3.out.1.2.1.other (a := ⟨N, 5, none⟩) HNM.out.2.2 _, gb_set_new HG3.out.1.2.2 (p := ⟨N, 5, none⟩) HNM.out.1 _⟩, own_other HG3.out.2.1 HG3.out.1.1 (by decide) hgs, own_other HG3.out.2.2 HG3.out.1.1 (by decide) hgs⟩
  clear HG3 x5 f5 x6 hgs
  generalize w3.setCell ⟨N, 5, none⟩ (.slice b2 n2 (n2 + 12)) = w4 at *
  refine (HS.out w4 HG4.out.1.2.2).mono ?_
  rintro e w5 ⟨b3, rfl, hg, ho⟩
  have HG5 : Hid ((Blk w5 N 66 [.string s, iV cl, iV sq, .slice b1 n1 d1, .bool g, .slice b2 n2 (n2 + 12), .slice a3 n3 c3] ∧ Blk w5 M 66 z7 ∧ w.grownBy w5 none) ∧ OwnD' w5 w.heap.size (.slice b1 (n1 + 12) d1) (n1 + 12) (cx ++ marksD 1 12) ∧ w5.ownsRow w.heap.size 5 1 (.slice b2 (n2 + 12) (n2 + 12)) (n2 + 12) ((val ++ marksOf f 1 12).map u8N) ∧ w5.ownsRow w.heap.size 5 1 (.slice b3 (n3 + 12) (n3 + 12)) (n3 + 12) ((sig ++ marksOf f 1 12).map u8N)) :=
    ⟨⟨HG4.out.1.1.grown hg (by simp), HG4.out.1.2.1.grown hg (by simp), gb_trans HG4.out.1.2.2 hg⟩, HG4.out.2.1.kept hg (by cases (Value.slice b1 (n1 + 12) d1).ownBlock <;> simp), own_kept HG4.out.2.2 hg, own_mono ho HG4.out.1.2.2.size⟩
  clear hg ho HG4
  have x0 := HG5.out.1.1.cell (i := 0) rfl
  have y0 := HG5.out.1.2.1.cell (i := 0) rfl
  have g0 := HG5.out.1.2.1.free 0
  have x1 := HG5.out.1.1.cell (i := 1) rfl
  have y1 := HG5.out.1.2.1.cell (i := 1) rfl
  have g1 := HG5.out.1.2.1.free 1
  have x2 := HG5.out.1.1.cell (i := 2) rfl
  have y2 := HG5.out.1.2.1.cell (i := 2) rfl
  have g2 := HG5.out.1.2.1.free 2
  have x3 := HG5.out.1.1.cell (i := 3) rfl
  have y3 := HG5.out.1.2.1.cell (i := 3) rfl
  have g3 := HG5.out.1.2.1.free 3
  have x4 := HG5.out.1.1.cell (i := 4) rfl
  have y4 := HG5.out.1.2.1.cell (i := 4) rfl
  have g4 := HG5.out.1.2.1.free 4
  have x5 := HG5.out.1.1.cell (i := 5) rfl
  have y5 := HG5.out.1.2.1.cell (i := 5) rfl
  have g5 := HG5.out.1.2.1.free 5
  have x6 := HG5.out.1.1.cell (i := 6) rfl
  have y6 := HG5.out.1.2.1.cell (i := 6) rfl
  have g6 := HG5.out.1.2.1.free 6
  have f6 := HG5.out.1.1.free 6
  have hNM := HNM.out.2.2
  have hMN : M ≠ N := fun e => hNM e.symm
  go_wp2_with fail
  obtain ⟨⟨hb, hm, hg⟩, h1, h2, h3⟩ := HG5.out
  have hgs := gb_set (gb_refl w5 (some N)) 6 (.slice b3 n3 (n3 + 12))
  have k1 := own_other h1 hb (by decide) hgs
  have k2 := own_other h2 hb (by decide) hgs
  have k3 := own_other h3 hb (by decide) hgs
  have km := hm.other (a := ⟨N, 6, none⟩) hNM (.slice b3 n3 (n3 + 12))
  have kg := gb_set_new hg (p := ⟨N, 6, none⟩) HNM.out.1 (.slice b3 n3 (n3 + 12))
  generalize w5.setCell ⟨N, 6, none⟩ (.slice b3 n3 (n3 + 12)) = w6 at *
  have hgM := gb_set (gb_set (gb_set (gb_set (gb_set (gb_set (gb_set (gb_refl w6 (some M)) 0 (.string s)) 1 (.int .i64 cl)) 2 (.int .i64 sq)) 3 (.slice b1 n1 d1)) 4 (.bool g)) 5 (.slice b2 n2 (n2 + 12))) 6 (.slice b3 n3 (n3 + 12))
  have hR7 := ((((((km.set 0 (.string s)).set 1 (.int .i64 cl)).set 2 (.int .i64 sq)).set 3 (.slice b1 n1 d1)).set 4 (.bool g)).set 5 (.slice b2 n2 (n2 + 12))).set 6 (.slice b3 n3 (n3 + 12))
  refine bodyPost_ret (v := .agg #[.string s, .int .i64 cl, .int .i64 sq, .slice b1 n1 d1, .bool g, .slice b2 n2 (n2 + 12), .slice b3 n3 (n3 + 12)]) (results_cell_row Tryz.results68 _ _ M 66 _ (0, 0) _ rfl hR7 Tryz.underlying66 rfl info_recS) rfl ?_
  rw [HQ.out]
  exact ⟨b1, d1, b2, b3, rfl, gb_then kg hgM HNM.out.2.1, HD1.out, own_other k1 km (by decide) hgM, own_other k2 km (by decide) hgM, own_other k3 km (by decide) hgM⟩
end Rc
end Go.Proofs.YtlkiancedgaicaaGreat

/- The kit's KeptBytes: lent bytes, and the marks behind them, are as they were. -/
namespace Go.Proofs.YtlkiancedgaicaaGreat
open Go.RowKit Ow

set_option maxRecDepth 100000 in
set_option maxHeartbeats 4000000 in
theorem keptB_any {f : Nat → Nat → Nat} (hf : Marks f) (n cap B g : Nat) (p : List Nat) (a : Option Addr) (w : World) (hn : p.length = n) (hP : BytesAt w B a cap p) (hlen : n ≤ 30000) (hG : Blk w g 5 ((p ++ marksOf f 1 12).map u8N)) :
    Calls Tryz.prog 25 #[.slice (some ⟨g, 0, none⟩) n (n + 12), .slice a n cap] w fun e w' => e = .returned (.bool true) ∧ w.grownBy w' none := by
  have hnc := hP.fits
  rw [hn] at hnc
  have hcap := hP.top
  have HF := Lib.hid hf; clear hf
  have hgb : BytesAt w w.heap.size (some ⟨g, 0, none⟩) (n + 12) (p ++ marksOf f 1 12) := by
    refine blk_bytes (n := n + 12) (tl := []) (by rw [List.append_nil]; exact hG) (by rw [List.length_append, marksOf_length, hn]) (Nat.le_refl _) (by omega) (fun i => ?_) hG.lt (Nat.le_refl _)
    rw [List.getD_eq_getElem?_getD]
    rcases Nat.lt_or_ge i p.length with h | h
    · rw [List.getElem?_append_left h, ← List.getD_eq_getElem?_getD]; exact hP.byte i
    · rw [List.getElem?_append_right h, ← List.getD_eq_getElem?_getD]; exact marksOf_lt HF.out _ _ _
  have HP := Lib.hid (And.intro hn (And.intro hP (And.intro hG hgb))); clear hn hP hG hgb
  go_enter Tryz.func25, Tryz.ntmps25
  go_wp2
  go_loopw [6] (fun i wr => ∃ k : Nat, k ≤ n + 12 ∧ i = .int .i64 k ∧ w.grownBy wr none) (fun i _ => n + 12 - (intOf i).toNat)
  case atStart => exact ⟨0, by omega, rfl, gb_refl _ _⟩
  case round =>
    obtain ⟨k, hk, rfl, hg⟩ := hrel
    by_cases hlt : k < n + 12
    · by_cases hkn : k < n
      · obtain ⟨pb, po, rfl, hpb, hc⟩ := HP.out.2.1.cells.resolve_left (by have := HP.out.1; omega)
        have kc : wr.cell? ⟨pb, po + k, none⟩ = some (u8N (p.getD k 0)) := by rw [gb_cell hg (p := ⟨pb, po + k, none⟩) (Nat.lt_of_lt_of_le hpb HP.out.2.1.lim) (by simp)]; exact hc k (by have := HP.out.1; omega)
        have kg : wr.cell? ⟨g, k, none⟩ = some (u8N (p.getD k 0)) := by
          apply (HP.out.2.2.1.grown hg (by simp)).cell
          rw [List.map_append, List.getElem?_append_left (by rw [List.length_map]; have := HP.out.1; omega)]
          exact u8_getD (by have := HP.out.1; omega)
        unfold u8N at kg kc
        clear hc
        generalize p.getD k 0 = x at *
        have HG := Lib.hid hg; clear hg
        have i0 : (k : Int) < (n : Int) := by omega
        have i1 : (k : Int) < (n : Int) + 12 := by omega
        have i2 : decide (n ≤ k) = false := by simp; omega
        go_wp2_with fail
        go_quiet (fail)
        go_wp2
        go_roundw
        case rel => exact ⟨k + 1, by omega, by go_num, gb_drewN HG.out _⟩
        case measure => simp [intOf]; omega
      · obtain ⟨t, ht⟩ : ∃ t, k = n + t := ⟨k - n, by omega⟩
        have t12 : t < 12 := by omega
        obtain ⟨y, hy⟩ : ∃ y, y = f 1 t := ⟨_, rfl⟩
        have hck : ((p ++ marksOf f 1 12).map u8N)[k]? = some (.int .u8 (y : Int)) := by
          rw [List.map_append, List.getElem?_append_right (by rw [List.length_map]; have := HP.out.1; omega), List.length_map, HP.out.1, show k - n = t by omega]
          have h := u8_getD (l := marksOf f 1 12) (i := t) (by rw [marksOf_length]; exact t12)
          rw [marksOf_get f 1 12 t t12, ← hy] at h
          exact h
        have hmb := fun W => (HF.out.run 1 t 1 t W rfl rfl (by decide) (by omega)).mono (fun e w' h => (And.intro h.1 (by rw [h.2]; exact gb_refl _ _) : _ ∧ W.grownBy w' none))
        rw [← hy] at hmb
        have HMB := Lib.hid hmb; clear hmb
        have HCK := Lib.hid hck; clear hck
        have HPB := Lib.hid (HP.out.2.1.stay hg)
        have HGB := Lib.hid (HP.out.2.2.2.stay hg)
        have HGW := Lib.hid (HP.out.2.2.1.grown hg (by simp))
        have HG := Lib.hid hg; clear hg
        have e1 : IntKind.i64.wrap ((k : Int) - (n : Int)) = (t : Int) := by rw [IntKind.wrap_i64]; omega
        have e2 : (k : Int) - (n : Int) = (t : Int) := by omega
        have e3 : IntKind.i64.wrap (t : Int) = (t : Int) := by rw [IntKind.wrap_i64]; omega
        have HTY := Lib.hid (And.intro ht hy); clear ht hy
        have i0 : ¬ (k : Int) < (n : Int) := by omega
        have i3 : (n : Int) ≤ (k : Int) := by omega
        have i1 : (k : Int) < (n : Int) + 12 := by omega
        go_wp2_with fail
        refine wp_region_flow3 (Fg.its [.any, .any, .any, .any, .any, .any, .any, .any, .any, .any, .any, .any, .any, .any, .any, .any, .any, .any, .any, .any, .any, .any, .any, .val (.int .i64 (k : Int)), .val (.slice a n cap), .val (.int .i64 n), .val (.bool false), .val (.bool false), .val undef, .val undef, .val undef, .val undef, .val undef, .val undef, .val undef, .val undef, .val undef, .val undef, .val (.bool false), .val (.bool false), .val (.int .i64 (k : Int)), .val (.slice a n cap), .val (.int .i64 n), .val (.bool true), .val (.bool true), .val (.slice (some ⟨g, 0, none⟩) (n + 12) (n + 12)), .val (.int .i64 (k : Int)), .val (.pointer (some ⟨g, k, none⟩)), .val (.int .u8 (y : Int)), .val (.int .i64 (k : Int)), .val (.slice a n cap), .val (.int .i64 n), .val (.int .i64 (t : Int)), .val (.int .u8 (y : Int)), .val (.bool true), .val (.bool false), .val (.bool false), .val (.bool false)]) (fun _ => 0) (fun _ _ _ => True) (fun w => World.grownBy wr w none) [] (by kernel_rfl) (by kernel_rfl) (by kernel_rfl) (gb_drew (gb_refl _ _)) (Fg.ptrs_nil _ _) (Fg.no_store (by kernel_rfl)) ?_ ?_
        · refine ⟨Fg.value rfl fun ac w h => ?_, ?_⟩
          · have e6 : ac.tmps.getD 6 undef = .int .i64 (k : Int) := h.rest 6 (by kernel_rfl)
            refine ⟨wants_none rfl, .int .i64 (k : Int), w, ?_, gb_refl _ _, rfl⟩
            clear h
            simp only [execOp, Act.eval, e6]
            go_simp
          refine ⟨Fg.value rfl fun ac w h => ?_, ?_⟩
          · have e1 : ac.tmps.getD 1 undef = .slice a n cap := h.rest 1 (by kernel_rfl)
            have b1 := (HPB.out).stay h.base
            exact ⟨wants_none rfl, _, w, by simp only [execOp, Act.eval, e1]; rfl, gb_refl _ _, rfl⟩
          refine ⟨Fg.value rfl fun ac w h => ?_, ?_⟩
          · have e24 : ac.tmps.getD 24 undef = .slice a n cap := h.dep 24 (by kernel_rfl)
            have b24 := (HPB.out).stay h.base
            have x24 : ac.tmps[24]?.getD undef = .slice a n cap := by simpa using e24
            refine ⟨wants_none rfl, .int .i64 n, w, ?_, gb_refl _ _, rfl⟩
            clear h e24
            go_simp
          refine ⟨Fg.value rfl fun ac w h => ?_, ?_⟩
          · have e23 : ac.tmps.getD 23 undef = .int .i64 (k : Int) := h.dep 23 (by kernel_rfl)
            have e25 : ac.tmps.getD 25 undef = .int .i64 n := h.dep 25 (by kernel_rfl)
            refine ⟨wants_none rfl, .bool false, w, ?_, gb_refl _ _, rfl⟩
            clear h
            simp only [execOp, Act.eval, e23, e25]
            go_simp
          refine ⟨Fg.value rfl fun ac w h => ?_, ?_⟩
          · have e26 : ac.tmps.getD 26 undef = .bool false := h.dep 26 (by kernel_rfl)
            refine ⟨wants_none rfl, .bool false, w, ?_, gb_refl _ _, rfl⟩
            clear h
            simp only [execOp, Act.eval, e26]
            go_simp
          refine ⟨Fg.skipped rfl (fun _ => rfl) fun ac w h => ?_, ?_⟩
          · have e27 : ac.tmps.getD 27 undef = .bool false := h.dep 27 (by kernel_rfl)
            exact not_wants (d := 27) rfl rfl (by rw [h.size]; show 27 < 58; decide) e27 (by decide)
          refine ⟨Fg.skipped rfl (fun _ => rfl) fun ac w h => ?_, ?_⟩
          · have e27 : ac.tmps.getD 27 undef = .bool false := h.dep 27 (by kernel_rfl)
            exact not_wants (d := 27) rfl rfl (by rw [h.size]; show 27 < 58; decide) e27 (by decide)
          refine ⟨Fg.skipped rfl (fun _ => rfl) fun ac w h => ?_, ?_⟩
          · have e27 : ac.tmps.getD 27 undef = .bool false := h.dep 27 (by kernel_rfl)
            exact not_wants (d := 27) rfl rfl (by rw [h.size]; show 27 < 58; decide) e27 (by decide)
          refine ⟨Fg.skipped rfl (fun _ => rfl) fun ac w h => ?_, ?_⟩
          · have e27 : ac.tmps.getD 27 undef = .bool false := h.dep 27 (by kernel_rfl)
            exact not_wants (d := 27) rfl rfl (by rw [h.size]; show 27 < 58; decide) e27 (by decide)
          refine ⟨Fg.skipped rfl (fun _ => rfl) fun ac w h => ?_, ?_⟩
          · have e27 : ac.tmps.getD 27 undef = .bool false := h.dep 27 (by kernel_rfl)
            exact not_wants (d := 27) rfl rfl (by rw [h.size]; show 27 < 58; decide) e27 (by decide)
          refine ⟨Fg.skipped rfl (fun _ => rfl) fun ac w h => ?_, ?_⟩
          · have e27 : ac.tmps.getD 27 undef = .bool false := h.dep 27 (by kernel_rfl)
            exact not_wants (d := 27) rfl rfl (by rw [h.size]; show 27 < 58; decide) e27 (by decide)
          refine ⟨Fg.skipped rfl (fun _ => rfl) fun ac w h => ?_, ?_⟩
          · have e27 : ac.tmps.getD 27 undef = .bool false := h.dep 27 (by kernel_rfl)
            exact not_wants (d := 27) rfl rfl (by rw [h.size]; show 27 < 58; decide) e27 (by decide)
          refine ⟨Fg.skipped rfl (fun _ => rfl) fun ac w h => ?_, ?_⟩
          · have e27 : ac.tmps.getD 27 undef = .bool false := h.dep 27 (by kernel_rfl)
            exact not_wants (d := 27) rfl rfl (by rw [h.size]; show 27 < 58; decide) e27 (by decide)
          refine ⟨Fg.skipped rfl (fun _ => rfl) fun ac w h => ?_, ?_⟩
          · have e27 : ac.tmps.getD 27 undef = .bool false := h.dep 27 (by kernel_rfl)
            exact not_wants (d := 27) rfl rfl (by rw [h.size]; show 27 < 58; decide) e27 (by decide)
          refine ⟨Fg.skipped rfl (fun _ => rfl) fun ac w h => ?_, ?_⟩
          · have e27 : ac.tmps.getD 27 undef = .bool false := h.dep 27 (by kernel_rfl)
            exact not_wants (d := 27) rfl rfl (by rw [h.size]; show 27 < 58; decide) e27 (by decide)
          refine ⟨Fg.value rfl fun ac w h => ?_, ?_⟩
          · have e27 : ac.tmps.getD 27 undef = .bool false := h.dep 27 (by kernel_rfl)
            refine ⟨wants_none rfl, .bool false, w, ?_, gb_refl _ _, rfl⟩
            clear h
            simp only [execOp, Act.eval, e27]
            go_simp
          refine ⟨Fg.value rfl fun ac w h => ?_, ?_⟩
          · have e38 : ac.tmps.getD 38 undef = .bool false := h.dep 38 (by kernel_rfl)
            refine ⟨wants_none rfl, .bool false, w, ?_, gb_refl _ _, rfl⟩
            clear h
            simp only [execOp, Act.eval, e38]
            go_simp
          refine ⟨Fg.value rfl fun ac w h => ?_, ?_⟩
          · have e39 : ac.tmps.getD 39 undef = .bool false := h.dep 39 (by kernel_rfl)
            have e6 : ac.tmps.getD 6 undef = .int .i64 (k : Int) := h.rest 6 (by kernel_rfl)
            refine ⟨wants_some (d := 39) rfl rfl (by rw [h.size]; show 39 < 58; decide) e39, .int .i64 (k : Int), w, ?_, gb_refl _ _, rfl⟩
            clear h
            simp only [execOp, Act.eval, e6]
            go_simp
          refine ⟨Fg.value rfl fun ac w h => ?_, ?_⟩
          · have e39 : ac.tmps.getD 39 undef = .bool false := h.dep 39 (by kernel_rfl)
            have e1 : ac.tmps.getD 1 undef = .slice a n cap := h.rest 1 (by kernel_rfl)
            have b1 := (HPB.out).stay h.base
            exact ⟨wants_some (d := 39) rfl rfl (by rw [h.size]; show 39 < 58; decide) e39, _, w, by simp only [execOp, Act.eval, e1]; rfl, gb_refl _ _, rfl⟩
          refine ⟨Fg.value rfl fun ac w h => ?_, ?_⟩
          · have e39 : ac.tmps.getD 39 undef = .bool false := h.dep 39 (by kernel_rfl)
            have e41 : ac.tmps.getD 41 undef = .slice a n cap := h.dep 41 (by kernel_rfl)
            have b41 := (HPB.out).stay h.base
            have x41 : ac.tmps[41]?.getD undef = .slice a n cap := by simpa using e41
            refine ⟨wants_some (d := 39) rfl rfl (by rw [h.size]; show 39 < 58; decide) e39, .int .i64 n, w, ?_, gb_refl _ _, rfl⟩
            clear h e41
            go_simp
          refine ⟨Fg.value rfl fun ac w h => ?_, ?_⟩
          · have e39 : ac.tmps.getD 39 undef = .bool false := h.dep 39 (by kernel_rfl)
            have e40 : ac.tmps.getD 40 undef = .int .i64 (k : Int) := h.dep 40 (by kernel_rfl)
            have e42 : ac.tmps.getD 42 undef = .int .i64 n := h.dep 42 (by kernel_rfl)
            refine ⟨wants_some (d := 39) rfl rfl (by rw [h.size]; show 39 < 58; decide) e39, .bool true, w, ?_, gb_refl _ _, rfl⟩
            clear h
            simp only [execOp, Act.eval, e40, e42]
            go_simp
          refine ⟨Fg.value rfl fun ac w h => ?_, ?_⟩
          · have e39 : ac.tmps.getD 39 undef = .bool false := h.dep 39 (by kernel_rfl)
            have e43 : ac.tmps.getD 43 undef = .bool true := h.dep 43 (by kernel_rfl)
            refine ⟨wants_some (d := 39) rfl rfl (by rw [h.size]; show 39 < 58; decide) e39, .bool true, w, ?_, gb_refl _ _, rfl⟩
            clear h
            simp only [execOp, Act.eval, e43]
            go_simp
          refine ⟨Fg.value rfl fun ac w h => ?_, ?_⟩
          · have e44 : ac.tmps.getD 44 undef = .bool true := h.dep 44 (by kernel_rfl)
            have e5 : ac.tmps.getD 5 undef = .slice (some ⟨g, 0, none⟩) (n + 12) (n + 12) := h.rest 5 (by kernel_rfl)
            have b5 := (HGB.out).stay h.base
            exact ⟨wants_some (d := 44) rfl rfl (by rw [h.size]; show 44 < 58; decide) e44, _, w, by simp only [execOp, Act.eval, e5]; rfl, gb_refl _ _, rfl⟩
          refine ⟨Fg.value rfl fun ac w h => ?_, ?_⟩
          · have e44 : ac.tmps.getD 44 undef = .bool true := h.dep 44 (by kernel_rfl)
            have e6 : ac.tmps.getD 6 undef = .int .i64 (k : Int) := h.rest 6 (by kernel_rfl)
            refine ⟨wants_some (d := 44) rfl rfl (by rw [h.size]; show 44 < 58; decide) e44, .int .i64 (k : Int), w, ?_, gb_refl _ _, rfl⟩
            clear h
            simp only [execOp, Act.eval, e6]
            go_simp
          refine ⟨Fg.value rfl fun ac w h => ?_, ?_⟩
          · have e44 : ac.tmps.getD 44 undef = .bool true := h.dep 44 (by kernel_rfl)
            have e45 : ac.tmps.getD 45 undef = .slice (some ⟨g, 0, none⟩) (n + 12) (n + 12) := h.dep 45 (by kernel_rfl)
            have b45 := (HGB.out).stay h.base
            have e46 : ac.tmps.getD 46 undef = .int .i64 (k : Int) := h.dep 46 (by kernel_rfl)
            refine ⟨wants_some (d := 44) rfl rfl (by rw [h.size]; show 44 < 58; decide) e44, .pointer (some ⟨g, k, none⟩), w, ?_, gb_refl _ _, rfl⟩
            clear h
            simp only [execOp, Act.eval, e45, e46]
            go_simp
          refine ⟨Fg.value rfl fun ac w h => ?_, ?_⟩
          · have e44 : ac.tmps.getD 44 undef = .bool true := h.dep 44 (by kernel_rfl)
            have e47 : ac.tmps.getD 47 undef = .pointer (some ⟨g, k, none⟩) := h.dep 47 (by kernel_rfl)
            have c := (HGW.out.grown h.base (by simp)).cell HCK.out
            refine ⟨wants_some (d := 44) rfl rfl (by rw [h.size]; show 44 < 58; decide) e44, .int .u8 (y : Int), w, ?_, gb_refl _ _, rfl⟩
            clear h
            simp only [execOp, Act.eval, e47]
            go_simp
          refine ⟨Fg.value rfl fun ac w h => ?_, ?_⟩
          · have e44 : ac.tmps.getD 44 undef = .bool true := h.dep 44 (by kernel_rfl)
            have e6 : ac.tmps.getD 6 undef = .int .i64 (k : Int) := h.rest 6 (by kernel_rfl)
            refine ⟨wants_some (d := 44) rfl rfl (by rw [h.size]; show 44 < 58; decide) e44, .int .i64 (k : Int), w, ?_, gb_refl _ _, rfl⟩
            clear h
            simp only [execOp, Act.eval, e6]
            go_simp
          refine ⟨Fg.value rfl fun ac w h => ?_, ?_⟩
          · have e44 : ac.tmps.getD 44 undef = .bool true := h.dep 44 (by kernel_rfl)
            have e1 : ac.tmps.getD 1 undef = .slice a n cap := h.rest 1 (by kernel_rfl)
            have b1 := (HPB.out).stay h.base
            exact ⟨wants_some (d := 44) rfl rfl (by rw [h.size]; show 44 < 58; decide) e44, _, w, by simp only [execOp, Act.eval, e1]; rfl, gb_refl _ _, rfl⟩
          refine ⟨Fg.value rfl fun ac w h => ?_, ?_⟩
          · have e44 : ac.tmps.getD 44 undef = .bool true := h.dep 44 (by kernel_rfl)
            have e50 : ac.tmps.getD 50 undef = .slice a n cap := h.dep 50 (by kernel_rfl)
            have b50 := (HPB.out).stay h.base
            have x50 : ac.tmps[50]?.getD undef = .slice a n cap := by simpa using e50
            refine ⟨wants_some (d := 44) rfl rfl (by rw [h.size]; show 44 < 58; decide) e44, .int .i64 n, w, ?_, gb_refl _ _, rfl⟩
            clear h e50
            go_simp
          refine ⟨Fg.value rfl fun ac w h => ?_, ?_⟩
          · have e44 : ac.tmps.getD 44 undef = .bool true := h.dep 44 (by kernel_rfl)
            have e49 : ac.tmps.getD 49 undef = .int .i64 (k : Int) := h.dep 49 (by kernel_rfl)
            have e51 : ac.tmps.getD 51 undef = .int .i64 n := h.dep 51 (by kernel_rfl)
            refine ⟨wants_some (d := 44) rfl rfl (by rw [h.size]; show 44 < 58; decide) e44, .int .i64 (t : Int), w, ?_, gb_refl _ _, rfl⟩
            clear h
            simp only [execOp, Act.eval, e49, e51]
            go_simp
          refine ⟨Fg.call rfl fun ac w h => ?_, ?_⟩
          · have e44 : ac.tmps.getD 44 undef = .bool true := h.dep 44 (by kernel_rfl)
            have e52 : ac.tmps.getD 52 undef = .int .i64 (t : Int) := h.dep 52 (by kernel_rfl)
            have x52 : ac.tmps[52]?.getD undef = .int .i64 (t : Int) := by simpa using e52
            have hb := h.base
            refine ⟨wants_some (d := 44) rfl rfl (by rw [h.size]; show 44 < 58; decide) e44, 58, #[.int .i64 1, .int .i64 (t : Int)], ?_, ?_⟩
            · clear h hb e52
              go_simp
            · refine (HMB.out w).mono ?_
              intro e w1 hp
              obtain ⟨rfl, hg⟩ := hp
              exact ⟨_, rfl, hg, rfl⟩
          refine ⟨Fg.value rfl fun ac w h => ?_, ?_⟩
          · have e44 : ac.tmps.getD 44 undef = .bool true := h.dep 44 (by kernel_rfl)
            have e48 : ac.tmps.getD 48 undef = .int .u8 (y : Int) := h.dep 48 (by kernel_rfl)
            have e53 : ac.tmps.getD 53 undef = .int .u8 (y : Int) := h.dep 53 (by kernel_rfl)
            refine ⟨wants_some (d := 44) rfl rfl (by rw [h.size]; show 44 < 58; decide) e44, .bool true, w, ?_, gb_refl _ _, rfl⟩
            clear h
            simp only [execOp, Act.eval, e48, e53]
            go_simp
          refine ⟨Fg.value rfl fun ac w h => ?_, ?_⟩
          · have e44 : ac.tmps.getD 44 undef = .bool true := h.dep 44 (by kernel_rfl)
            have e54 : ac.tmps.getD 54 undef = .bool true := h.dep 54 (by kernel_rfl)
            refine ⟨wants_some (d := 44) rfl rfl (by rw [h.size]; show 44 < 58; decide) e44, .bool false, w, ?_, gb_refl _ _, rfl⟩
            clear h
            simp only [execOp, Act.eval, e54]
            go_simp
          refine ⟨Fg.value rfl fun ac w h => ?_, ?_⟩
          · have e39 : ac.tmps.getD 39 undef = .bool false := h.dep 39 (by kernel_rfl)
            have e44 : ac.tmps.getD 44 undef = .bool true := h.dep 44 (by kernel_rfl)
            have e55 : ac.tmps.getD 55 undef = .bool false := h.dep 55 (by kernel_rfl)
            refine ⟨wants_some (d := 39) rfl rfl (by rw [h.size]; show 39 < 58; decide) e39, .bool false, w, ?_, gb_refl _ _, rfl⟩
            clear h
            simp only [execOp, Act.eval, e44, e55]
            go_simp
          refine ⟨Fg.value rfl fun ac w h => ?_, ?_⟩
          · have e39 : ac.tmps.getD 39 undef = .bool false := h.dep 39 (by kernel_rfl)
            have e56 : ac.tmps.getD 56 undef = .bool false := h.dep 56 (by kernel_rfl)
            refine ⟨wants_none rfl, .bool false, w, ?_, gb_refl _ _, rfl⟩
            clear h
            simp only [execOp, Act.eval, e39, e56]
            go_simp
          trivial
        · intro q wq hB hsz hdf hrest hslots _
          obtain ⟨u23, hs23⟩ : ∃ u, q.tmps.getD 23 undef = u := ⟨_, rfl⟩
          obtain ⟨u24, hs24⟩ : ∃ u, q.tmps.getD 24 undef = u := ⟨_, rfl⟩
          obtain ⟨u25, hs25⟩ : ∃ u, q.tmps.getD 25 undef = u := ⟨_, rfl⟩
          obtain ⟨u26, hs26⟩ : ∃ u, q.tmps.getD 26 undef = u := ⟨_, rfl⟩
          obtain ⟨u27, hs27⟩ : ∃ u, q.tmps.getD 27 undef = u := ⟨_, rfl⟩
          obtain ⟨u28, hs28⟩ : ∃ u, q.tmps.getD 28 undef = u := ⟨_, rfl⟩
          obtain ⟨u29, hs29⟩ : ∃ u, q.tmps.getD 29 undef = u := ⟨_, rfl⟩
          obtain ⟨u30, hs30⟩ : ∃ u, q.tmps.getD 30 undef = u := ⟨_, rfl⟩
          obtain ⟨u31, hs31⟩ : ∃ u, q.tmps.getD 31 undef = u := ⟨_, rfl⟩
          obtain ⟨u32, hs32⟩ : ∃ u, q.tmps.getD 32 undef = u := ⟨_, rfl⟩
          obtain ⟨u33, hs33⟩ : ∃ u, q.tmps.getD 33 undef = u := ⟨_, rfl⟩
          obtain ⟨u34, hs34⟩ : ∃ u, q.tmps.getD 34 undef = u := ⟨_, rfl⟩
          obtain ⟨u35, hs35⟩ : ∃ u, q.tmps.getD 35 undef = u := ⟨_, rfl⟩
          obtain ⟨u36, hs36⟩ : ∃ u, q.tmps.getD 36 undef = u := ⟨_, rfl⟩
          obtain ⟨u37, hs37⟩ : ∃ u, q.tmps.getD 37 undef = u := ⟨_, rfl⟩
          obtain ⟨u38, hs38⟩ : ∃ u, q.tmps.getD 38 undef = u := ⟨_, rfl⟩
          obtain ⟨u39, hs39⟩ : ∃ u, q.tmps.getD 39 undef = u := ⟨_, rfl⟩
          obtain ⟨u40, hs40⟩ : ∃ u, q.tmps.getD 40 undef = u := ⟨_, rfl⟩
          obtain ⟨u41, hs41⟩ : ∃ u, q.tmps.getD 41 undef = u := ⟨_, rfl⟩
          obtain ⟨u42, hs42⟩ : ∃ u, q.tmps.getD 42 undef = u := ⟨_, rfl⟩
          obtain ⟨u43, hs43⟩ : ∃ u, q.tmps.getD 43 undef = u := ⟨_, rfl⟩
          obtain ⟨u44, hs44⟩ : ∃ u, q.tmps.getD 44 undef = u := ⟨_, rfl⟩
          obtain ⟨u45, hs45⟩ : ∃ u, q.tmps.getD 45 undef = u := ⟨_, rfl⟩
          obtain ⟨u46, hs46⟩ : ∃ u, q.tmps.getD 46 undef = u := ⟨_, rfl⟩
          obtain ⟨u47, hs47⟩ : ∃ u, q.tmps.getD 47 undef = u := ⟨_, rfl⟩
          obtain ⟨u48, hs48⟩ : ∃ u, q.tmps.getD 48 undef = u := ⟨_, rfl⟩
          obtain ⟨u49, hs49⟩ : ∃ u, q.tmps.getD 49 undef = u := ⟨_, rfl⟩
          obtain ⟨u50, hs50⟩ : ∃ u, q.tmps.getD 50 undef = u := ⟨_, rfl⟩
          obtain ⟨u51, hs51⟩ : ∃ u, q.tmps.getD 51 undef = u := ⟨_, rfl⟩
          obtain ⟨u52, hs52⟩ : ∃ u, q.tmps.getD 52 undef = u := ⟨_, rfl⟩
          obtain ⟨u53, hs53⟩ : ∃ u, q.tmps.getD 53 undef = u := ⟨_, rfl⟩
          obtain ⟨u54, hs54⟩ : ∃ u, q.tmps.getD 54 undef = u := ⟨_, rfl⟩
          obtain ⟨u55, hs55⟩ : ∃ u, q.tmps.getD 55 undef = u := ⟨_, rfl⟩
          obtain ⟨u56, hs56⟩ : ∃ u, q.tmps.getD 56 undef = u := ⟨_, rfl⟩
          obtain rfl := Fg.frame_is (a := q) (vs := [Value.slice (some ⟨g, 0, none⟩) n (n + 12), Value.slice a n cap, undef, undef, u4, Value.slice (some ⟨g, 0, none⟩) (n + 12) (n + 12), Value.int .i64 (k : Int), Value.slice (some ⟨g, 0, none⟩) n (n + 12), Value.int .i64 (n : Int), Value.slice a n cap, Value.int .i64 (n : Int), Value.bool false, Value.slice (some ⟨g, 0, none⟩) n (n + 12), Value.slice a n cap, Value.int .i64 (n : Int), Value.int .i64 ((n : Int) + 12), Value.slice (some ⟨g, 0, none⟩) (n + 12) (n + 12), Value.int .i64 (k : Int), Value.slice (some ⟨g, 0, none⟩) (n + 12) (n + 12), Value.int .i64 ((n : Int) + 12), Value.bool true, u21, u22, u23, u24, u25, u26, u27, u28, u29, u30, u31, u32, u33, u34, u35, u36, u37, u38, u39, u40, u41, u42, u43, u44, u45, u46, u47, u48, u49, u50, u51, u52, u53, u54, u55, u56, Value.bool false]) hsz ⟨hrest 0 (by kernel_rfl), hrest 1 (by kernel_rfl), hrest 2 (by kernel_rfl), hrest 3 (by kernel_rfl), hrest 4 (by kernel_rfl), hrest 5 (by kernel_rfl), hrest 6 (by kernel_rfl), hrest 7 (by kernel_rfl), hrest 8 (by kernel_rfl), hrest 9 (by kernel_rfl), hrest 10 (by kernel_rfl), hrest 11 (by kernel_rfl), hrest 12 (by kernel_rfl), hrest 13 (by kernel_rfl), hrest 14 (by kernel_rfl), hrest 15 (by kernel_rfl), hrest 16 (by kernel_rfl), hrest 17 (by kernel_rfl), hrest 18 (by kernel_rfl), hrest 19 (by kernel_rfl), hrest 20 (by kernel_rfl), hrest 21 (by kernel_rfl), hrest 22 (by kernel_rfl), hs23, hs24, hs25, hs26, hs27, hs28, hs29, hs30, hs31, hs32, hs33, hs34, hs35, hs36, hs37, hs38, hs39, hs40, hs41, hs42, hs43, hs44, hs45, hs46, hs47, hs48, hs49, hs50, hs51, hs52, hs53, hs54, hs55, hs56, (show q.tmps.getD 57 undef = Value.bool false from hslots 57 (by kernel_rfl)), trivial⟩ hdf
          have HG2 := Lib.hid (gb_trans HG.out hB)
          clear hB hsz hdf hrest hslots hs23 hs24 hs25 hs26 hs27 hs28 hs29 hs30 hs31 hs32 hs33 hs34 hs35 hs36 hs37 hs38 hs39 hs40 hs41 hs42 hs43 hs44 hs45 hs46 hs47 hs48 hs49 hs50 hs51 hs52 hs53 hs54 hs55 hs56
          go_wp2
          go_roundw
          case rel => exact ⟨k + 1, by omega, by go_num, HG2.out⟩
          case measure => simp [intOf]; omega
    · obtain rfl : k = n + 12 := by omega
      have HG := Lib.hid hg; clear hg
      clear hlt
      go_wp2
      go_ret
      exact ⟨rfl, HG.out⟩
end Go.Proofs.YtlkiancedgaicaaGreat

/- The kit's KeptDots: lent dots, and the marks behind them, are as they were. -/
namespace Go.Proofs.YtlkiancedgaicaaGreat
open Go.RowKit Ve
namespace Ve
theorem kd_keep {w w1 w2 : World} {g k : Nat} {y z : Int} (hg : w1.grownBy w2 none) (h : w.grownBy w1 none ∧ w1.cell? ⟨g, k * 2, none⟩ = some (iV z) ∧ w1.cell? ⟨g, k * 2 + 1, none⟩ = some (iV y)) :
    w.grownBy w2 none ∧ w2.cell? ⟨g, k * 2, none⟩ = some (iV z) ∧ w2.cell? ⟨g, k * 2 + 1, none⟩ = some (iV y) :=
  ⟨gb_trans h.1 hg, by rw [gb_cell hg (block_lt_of_cell h.2.1) (by simp)]; exact h.2.1, by rw [gb_cell hg (block_lt_of_cell h.2.2) (by simp)]; exact h.2.2⟩
set_option maxHeartbeats 1000000 in
theorem keptD_any (n c cap B1 B2 g : Nat) (p : List D) (a : Option Addr) (w : World) (hn : p.length = n) (hP : DotsAt w B2 a p) (hlen : n ≤ 30000) (hc : n + 12 ≤ c) (hc63 : c < 9223372036854775808) (hG : DotsAt w B1 (some ⟨g, 0, none⟩) (p ++ marksD 1 12)) :
    Calls Tryz.prog 139 #[.slice (some ⟨g, 0, none⟩) n c, .slice a n cap] w fun e w' => e = .returned (.bool true) ∧ w.grownBy w' none := by
  have HP := Lib.hid hP; clear hP
  have HG := Lib.hid hG; clear hG
  have HN := Lib.hid hn; clear hn
  have i1 : (n : Int) + 12 ≤ (c : Int) := by omega
  have i2 : (0 : Int) ≤ (n : Int) + 12 := by omega
  go_enter Tryz.func139, Tryz.ntmps139
  go_wp2
  go_loopw [6] (fun i wr => ∃ k : Nat, k ≤ n + 12 ∧ i = .int .i64 k ∧ Hid (w.grownBy wr none)) (fun i _ => n + 12 - (intOf i).toNat)
  case atStart => exact ⟨0, by omega, rfl, gb_refl _ _⟩
  case round =>
    obtain ⟨k, hk, rfl, HW⟩ := hrel
    by_cases hlt : k < n + 12
    · have j1 : (k : Int) < (n : Int) + 12 := by omega
      obtain ⟨_, _, e, _, hcs⟩ := (HG.out.stay HW.out).cells.resolve_left (by rw [List.length_append, HN.out, marksD_len]; omega)
      cases e
      obtain ⟨k1, k2⟩ := hcs k (by rw [List.length_append, HN.out, marksD_len]; omega)
      rw [Nat.zero_add] at k1 k2
      clear hcs
      by_cases hkn : k < n
      · have j2 : (k : Int) < (n : Int) := by omega
        have j3 : decide ((k : Int) < (n : Int)) = true := decide_eq_true j2
        have j4 : decide ((n : Int) ≤ (k : Int)) = false := decide_eq_false (by omega)
        have j5 : decide (n ≤ k) = false := decide_eq_false (by omega)
        obtain ⟨pb, po, rfl, _, hds⟩ := (HP.out.stay HW.out).cells.resolve_left (by rw [HN.out]; omega)
        obtain ⟨k3, k4⟩ := hds k (by rw [HN.out]; exact hkn)
        clear hds
        have e1 : (p ++ marksD 1 12).getD k z0 = p.getD k z0 := by
          rw [List.getD_eq_getElem?_getD, List.getElem?_append_left (by rw [HN.out]; exact hkn), List.getD_eq_getElem?_getD]
        rw [e1] at k1 k2
        obtain ⟨x, y, hxy⟩ : ∃ x y, p.getD k z0 = (x, y) := ⟨_, _, rfl⟩
        rw [hxy] at k1 k2 k3 k4
        simp only at k1 k2 k3 k4
        clear e1 hxy
        have he : ∀ w, (Op.equalIn 10000 127 (.agg #[.int .i64 x, .int .i64 y]) (.agg #[.int .i64 x, .int .i64 y])).run Tryz.prog w = .ok true w := fun w => by rw [eq_dot]; simp
        go_wp2_with fail
        go_quiet (fail)
        clear he
        have HQ2 := Lib.hid (gb_drewN HW.out nq)
        go_wp2
        go_roundw
        case rel => exact ⟨k + 1, by omega, by go_num, HQ2.out⟩
        case measure => simp [intOf]; omega
      · have j2 : decide (k < n) = false := decide_eq_false hkn
        have j5 : decide (n ≤ k) = true := decide_eq_true (by omega)
        have j3 : decide ((k : Int) < (n : Int)) = false := decide_eq_false (by omega)
        have j4 : decide ((n : Int) ≤ (k : Int)) = true := decide_eq_true (by omega)
        have j6 : IntKind.i64.wrap ((k : Int) - (n : Int)) = ((k - n : Nat) : Int) := by rw [IntKind.wrap_i64]; omega
        have e1 : (p ++ marksD 1 12).getD k z0 = (0, (mkN 1 (k - n) : Int)) := by
          rw [List.getD_eq_getElem?_getD, List.getElem?_append_right (by rw [HN.out]; omega), ← List.getD_eq_getElem?_getD, HN.out, marksD_get _ _ _ (by omega)]
        rw [e1] at k1 k2
        simp only at k1 k2
        clear e1
        have HM := Lib.hid (fun W => markDot_any 1 (k - n) W (by decide) (by omega))
        generalize mkN 1 (k - n) = y at k2 HM
        generalize (k - n : Nat) = q at j6 HM
        have he : ∀ w, (Op.equalIn 10000 127 (.agg #[.int .i64 0, .int .i64 (y : Int)]) (.agg #[.int .i64 0, .int .i64 (y : Int)])).run Tryz.prog w = .ok true w := fun w => by rw [eq_dot]; simp
        have HK12 : Hid (∀ {w' : World}, wr.grownBy w' none → w'.cell? ⟨g, k * 2, none⟩ = some (iV 0) ∧ w'.cell? ⟨g, k * 2 + 1, none⟩ = some (iV y)) := fun {w'} hg => ⟨by rw [gb_cell hg (block_lt_of_cell k1) (by simp)]; exact k1, by rw [gb_cell hg (block_lt_of_cell k2) (by simp)]; exact k2⟩
        clear k1 k2
        have i0 : ¬ (k : Int) < (n : Int) := by omega
        have i3 : (n : Int) ≤ (k : Int) := by omega
        go_wp2_with fail
        refine wp_region_flow3 (Fg.its [.any, .any, .any, .any, .any, .any, .any, .any, .any, .any, .any, .any, .any, .any, .any, .any, .any, .any, .any, .any, .any, .any, .any, .val (.int .i64 (k : Int)), .val (.slice a n cap), .val (.int .i64 n), .val (.bool false), .val (.bool false), .val undef, .val undef, .val undef, .val undef, .val undef, .val undef, .val undef, .val undef, .val undef, .val undef, .val (.bool false), .val (.bool false), .val (.int .i64 (k : Int)), .val (.slice a n cap), .val (.int .i64 n), .val (.bool true), .val (.bool true), .val (.slice (some ⟨g, 0, none⟩) (n + 12) c), .val (.int .i64 (k : Int)), .val (.pointer (some ⟨g, k * 2, none⟩)), .val (.agg #[iV 0, iV (y : Int)]), .val (.int .i64 (k : Int)), .val (.slice a n cap), .val (.int .i64 n), .val (.int .i64 (q : Int)), .val (.agg #[iV 0, iV (y : Int)]), .val (.bool true), .val (.bool false), .val (.bool false), .val (.bool false)]) (fun _ => 0) (fun _ _ _ => True) (fun w => World.grownBy wr w none) [] (by kernel_rfl) (by kernel_rfl) (by kernel_rfl) (gb_drew (gb_refl _ _)) (Fg.ptrs_nil _ _) (Fg.no_store (by kernel_rfl)) ?_ ?_
        · refine ⟨Fg.value rfl fun ac w h => ?_, ?_⟩
          · have e6 : ac.tmps.getD 6 undef = .int .i64 (k : Int) := h.rest 6 (by kernel_rfl)
            refine ⟨wants_none rfl, .int .i64 (k : Int), w, ?_, gb_refl _ _, rfl⟩
            clear h
            simp only [execOp, Act.eval, e6]
            go_simp
          refine ⟨Fg.value rfl fun ac w h => ?_, ?_⟩
          · have e1 : ac.tmps.getD 1 undef = .slice a n cap := h.rest 1 (by kernel_rfl)
            refine ⟨wants_none rfl, .slice a n cap, w, ?_, gb_refl _ _, rfl⟩
            clear h
            simp only [execOp, Act.eval, e1]
            go_simp
          refine ⟨Fg.value rfl fun ac w h => ?_, ?_⟩
          · have e24 : ac.tmps.getD 24 undef = .slice a n cap := h.dep 24 (by kernel_rfl)
            have x24 : ac.tmps[24]?.getD undef = .slice a n cap := by simpa using e24
            refine ⟨wants_none rfl, .int .i64 n, w, ?_, gb_refl _ _, rfl⟩
            clear h e24
            go_simp
          refine ⟨Fg.value rfl fun ac w h => ?_, ?_⟩
          · have e23 : ac.tmps.getD 23 undef = .int .i64 (k : Int) := h.dep 23 (by kernel_rfl)
            have e25 : ac.tmps.getD 25 undef = .int .i64 n := h.dep 25 (by kernel_rfl)
            refine ⟨wants_none rfl, .bool false, w, ?_, gb_refl _ _, rfl⟩
            clear h
            simp only [execOp, Act.eval, e23, e25]
            go_simp
          refine ⟨Fg.value rfl fun ac w h => ?_, ?_⟩
          · have e26 : ac.tmps.getD 26 undef = .bool false := h.dep 26 (by kernel_rfl)
            refine ⟨wants_none rfl, .bool false, w, ?_, gb_refl _ _, rfl⟩
            clear h
            simp only [execOp, Act.eval, e26]
            go_simp
          refine ⟨Fg.skipped rfl (fun _ => rfl) fun ac w h => ?_, ?_⟩
          · have e27 : ac.tmps.getD 27 undef = .bool false := h.dep 27 (by kernel_rfl)
            exact not_wants (d := 27) rfl rfl (by rw [h.size]; show 27 < 58; decide) e27 (by decide)
          refine ⟨Fg.skipped rfl (fun _ => rfl) fun ac w h => ?_, ?_⟩
          · have e27 : ac.tmps.getD 27 undef = .bool false := h.dep 27 (by kernel_rfl)
            exact not_wants (d := 27) rfl rfl (by rw [h.size]; show 27 < 58; decide) e27 (by decide)
          refine ⟨Fg.skipped rfl (fun _ => rfl) fun ac w h => ?_, ?_⟩
          · have e27 : ac.tmps.getD 27 undef = .bool false := h.dep 27 (by kernel_rfl)
            exact not_wants (d := 27) rfl rfl (by rw [h.size]; show 27 < 58; decide) e27 (by decide)
          refine ⟨Fg.skipped rfl (fun _ => rfl) fun ac w h => ?_, ?_⟩
          · have e27 : ac.tmps.getD 27 undef = .bool false := h.dep 27 (by kernel_rfl)
            exact not_wants (d := 27) rfl rfl (by rw [h.size]; show 27 < 58; decide) e27 (by decide)
          refine ⟨Fg.skipped rfl (fun _ => rfl) fun ac w h => ?_, ?_⟩
          · have e27 : ac.tmps.getD 27 undef = .bool false := h.dep 27 (by kernel_rfl)
            exact not_wants (d := 27) rfl rfl (by rw [h.size]; show 27 < 58; decide) e27 (by decide)
          refine ⟨Fg.skipped rfl (fun _ => rfl) fun ac w h => ?_, ?_⟩
          · have e27 : ac.tmps.getD 27 undef = .bool false := h.dep 27 (by kernel_rfl)
            exact not_wants (d := 27) rfl rfl (by rw [h.size]; show 27 < 58; decide) e27 (by decide)
          refine ⟨Fg.skipped rfl (fun _ => rfl) fun ac w h => ?_, ?_⟩
          · have e27 : ac.tmps.getD 27 undef = .bool false := h.dep 27 (by kernel_rfl)
            exact not_wants (d := 27) rfl rfl (by rw [h.size]; show 27 < 58; decide) e27 (by decide)
          refine ⟨Fg.skipped rfl (fun _ => rfl) fun ac w h => ?_, ?_⟩
          · have e27 : ac.tmps.getD 27 undef = .bool false := h.dep 27 (by kernel_rfl)
            exact not_wants (d := 27) rfl rfl (by rw [h.size]; show 27 < 58; decide) e27 (by decide)
          refine ⟨Fg.skipped rfl (fun _ => rfl) fun ac w h => ?_, ?_⟩
          · have e27 : ac.tmps.getD 27 undef = .bool false := h.dep 27 (by kernel_rfl)
            exact not_wants (d := 27) rfl rfl (by rw [h.size]; show 27 < 58; decide) e27 (by decide)
          refine ⟨Fg.skipped rfl (fun _ => rfl) fun ac w h => ?_, ?_⟩
          · have e27 : ac.tmps.getD 27 undef = .bool false := h.dep 27 (by kernel_rfl)
            exact not_wants (d := 27) rfl rfl (by rw [h.size]; show 27 < 58; decide) e27 (by decide)
          refine ⟨Fg.value rfl fun ac w h => ?_, ?_⟩
          · have e27 : ac.tmps.getD 27 undef = .bool false := h.dep 27 (by kernel_rfl)
            refine ⟨wants_none rfl, .bool false, w, ?_, gb_refl _ _, rfl⟩
            clear h
            simp only [execOp, Act.eval, e27]
            go_simp
          refine ⟨Fg.value rfl fun ac w h => ?_, ?_⟩
          · have e38 : ac.tmps.getD 38 undef = .bool false := h.dep 38 (by kernel_rfl)
            refine ⟨wants_none rfl, .bool false, w, ?_, gb_refl _ _, rfl⟩
            clear h
            simp only [execOp, Act.eval, e38]
            go_simp
          refine ⟨Fg.value rfl fun ac w h => ?_, ?_⟩
          · have e39 : ac.tmps.getD 39 undef = .bool false := h.dep 39 (by kernel_rfl)
            have e6 : ac.tmps.getD 6 undef = .int .i64 (k : Int) := h.rest 6 (by kernel_rfl)
            refine ⟨wants_some (d := 39) rfl rfl (by rw [h.size]; show 39 < 58; decide) e39, .int .i64 (k : Int), w, ?_, gb_refl _ _, rfl⟩
            clear h
            simp only [execOp, Act.eval, e6]
            go_simp
          refine ⟨Fg.value rfl fun ac w h => ?_, ?_⟩
          · have e39 : ac.tmps.getD 39 undef = .bool false := h.dep 39 (by kernel_rfl)
            have e1 : ac.tmps.getD 1 undef = .slice a n cap := h.rest 1 (by kernel_rfl)
            refine ⟨wants_some (d := 39) rfl rfl (by rw [h.size]; show 39 < 58; decide) e39, .slice a n cap, w, ?_, gb_refl _ _, rfl⟩
            clear h
            simp only [execOp, Act.eval, e1]
            go_simp
          refine ⟨Fg.value rfl fun ac w h => ?_, ?_⟩
          · have e39 : ac.tmps.getD 39 undef = .bool false := h.dep 39 (by kernel_rfl)
            have e41 : ac.tmps.getD 41 undef = .slice a n cap := h.dep 41 (by kernel_rfl)
            have x41 : ac.tmps[41]?.getD undef = .slice a n cap := by simpa using e41
            refine ⟨wants_some (d := 39) rfl rfl (by rw [h.size]; show 39 < 58; decide) e39, .int .i64 n, w, ?_, gb_refl _ _, rfl⟩
            clear h e41
            go_simp
          refine ⟨Fg.value rfl fun ac w h => ?_, ?_⟩
          · have e39 : ac.tmps.getD 39 undef = .bool false := h.dep 39 (by kernel_rfl)
            have e40 : ac.tmps.getD 40 undef = .int .i64 (k : Int) := h.dep 40 (by kernel_rfl)
            have e42 : ac.tmps.getD 42 undef = .int .i64 n := h.dep 42 (by kernel_rfl)
            refine ⟨wants_some (d := 39) rfl rfl (by rw [h.size]; show 39 < 58; decide) e39, .bool true, w, ?_, gb_refl _ _, rfl⟩
            clear h
            simp only [execOp, Act.eval, e40, e42]
            go_simp
          refine ⟨Fg.value rfl fun ac w h => ?_, ?_⟩
          · have e39 : ac.tmps.getD 39 undef = .bool false := h.dep 39 (by kernel_rfl)
            have e43 : ac.tmps.getD 43 undef = .bool true := h.dep 43 (by kernel_rfl)
            refine ⟨wants_some (d := 39) rfl rfl (by rw [h.size]; show 39 < 58; decide) e39, .bool true, w, ?_, gb_refl _ _, rfl⟩
            clear h
            simp only [execOp, Act.eval, e43]
            go_simp
          refine ⟨Fg.value rfl fun ac w h => ?_, ?_⟩
          · have e44 : ac.tmps.getD 44 undef = .bool true := h.dep 44 (by kernel_rfl)
            have e5 : ac.tmps.getD 5 undef = .slice (some ⟨g, 0, none⟩) (n + 12) c := h.rest 5 (by kernel_rfl)
            refine ⟨wants_some (d := 44) rfl rfl (by rw [h.size]; show 44 < 58; decide) e44, .slice (some ⟨g, 0, none⟩) (n + 12) c, w, ?_, gb_refl _ _, rfl⟩
            clear h
            simp only [execOp, Act.eval, e5]
            go_simp
          refine ⟨Fg.value rfl fun ac w h => ?_, ?_⟩
          · have e44 : ac.tmps.getD 44 undef = .bool true := h.dep 44 (by kernel_rfl)
            have e6 : ac.tmps.getD 6 undef = .int .i64 (k : Int) := h.rest 6 (by kernel_rfl)
            refine ⟨wants_some (d := 44) rfl rfl (by rw [h.size]; show 44 < 58; decide) e44, .int .i64 (k : Int), w, ?_, gb_refl _ _, rfl⟩
            clear h
            simp only [execOp, Act.eval, e6]
            go_simp
          refine ⟨Fg.value rfl fun ac w h => ?_, ?_⟩
          · have e44 : ac.tmps.getD 44 undef = .bool true := h.dep 44 (by kernel_rfl)
            have e45 : ac.tmps.getD 45 undef = .slice (some ⟨g, 0, none⟩) (n + 12) c := h.dep 45 (by kernel_rfl)
            have e46 : ac.tmps.getD 46 undef = .int .i64 (k : Int) := h.dep 46 (by kernel_rfl)
            refine ⟨wants_some (d := 44) rfl rfl (by rw [h.size]; show 44 < 58; decide) e44, .pointer (some ⟨g, k * 2, none⟩), w, ?_, gb_refl _ _, rfl⟩
            clear h
            simp only [execOp, Act.eval, e45, e46]
            go_simp
          refine ⟨Fg.value rfl fun ac w h => ?_, ?_⟩
          · have e44 : ac.tmps.getD 44 undef = .bool true := h.dep 44 (by kernel_rfl)
            have e47 : ac.tmps.getD 47 undef = .pointer (some ⟨g, k * 2, none⟩) := h.dep 47 (by kernel_rfl)
            have c1 := (HK12.out h.base).1
            have c2 := (HK12.out h.base).2
            refine ⟨wants_some (d := 44) rfl rfl (by rw [h.size]; show 44 < 58; decide) e44, .agg #[iV 0, iV (y : Int)], w, ?_, gb_refl _ _, rfl⟩
            clear h
            simp only [execOp, Act.eval, e47]
            go_simp
          refine ⟨Fg.value rfl fun ac w h => ?_, ?_⟩
          · have e44 : ac.tmps.getD 44 undef = .bool true := h.dep 44 (by kernel_rfl)
            have e6 : ac.tmps.getD 6 undef = .int .i64 (k : Int) := h.rest 6 (by kernel_rfl)
            refine ⟨wants_some (d := 44) rfl rfl (by rw [h.size]; show 44 < 58; decide) e44, .int .i64 (k : Int), w, ?_, gb_refl _ _, rfl⟩
            clear h
            simp only [execOp, Act.eval, e6]
            go_simp
          refine ⟨Fg.value rfl fun ac w h => ?_, ?_⟩
          · have e44 : ac.tmps.getD 44 undef = .bool true := h.dep 44 (by kernel_rfl)
            have e1 : ac.tmps.getD 1 undef = .slice a n cap := h.rest 1 (by kernel_rfl)
            refine ⟨wants_some (d := 44) rfl rfl (by rw [h.size]; show 44 < 58; decide) e44, .slice a n cap, w, ?_, gb_refl _ _, rfl⟩
            clear h
            simp only [execOp, Act.eval, e1]
            go_simp
          refine ⟨Fg.value rfl fun ac w h => ?_, ?_⟩
          · have e44 : ac.tmps.getD 44 undef = .bool true := h.dep 44 (by kernel_rfl)
            have e50 : ac.tmps.getD 50 undef = .slice a n cap := h.dep 50 (by kernel_rfl)
            have x50 : ac.tmps[50]?.getD undef = .slice a n cap := by simpa using e50
            refine ⟨wants_some (d := 44) rfl rfl (by rw [h.size]; show 44 < 58; decide) e44, .int .i64 n, w, ?_, gb_refl _ _, rfl⟩
            clear h e50
            go_simp
          refine ⟨Fg.value rfl fun ac w h => ?_, ?_⟩
          · have e44 : ac.tmps.getD 44 undef = .bool true := h.dep 44 (by kernel_rfl)
            have e49 : ac.tmps.getD 49 undef = .int .i64 (k : Int) := h.dep 49 (by kernel_rfl)
            have e51 : ac.tmps.getD 51 undef = .int .i64 n := h.dep 51 (by kernel_rfl)
            refine ⟨wants_some (d := 44) rfl rfl (by rw [h.size]; show 44 < 58; decide) e44, .int .i64 (q : Int), w, ?_, gb_refl _ _, rfl⟩
            clear h
            simp only [execOp, Act.eval, e49, e51]
            go_simp
          refine ⟨Fg.call rfl fun ac w h => ?_, ?_⟩
          · have e44 : ac.tmps.getD 44 undef = .bool true := h.dep 44 (by kernel_rfl)
            have e52 : ac.tmps.getD 52 undef = .int .i64 (q : Int) := h.dep 52 (by kernel_rfl)
            have x52 : ac.tmps[52]?.getD undef = .int .i64 (q : Int) := by simpa using e52
            have hb := h.base
            refine ⟨wants_some (d := 44) rfl rfl (by rw [h.size]; show 44 < 58; decide) e44, 147, #[.int .i64 1, .int .i64 (q : Int)], ?_, ?_⟩
            · clear h hb e52
              go_simp
            · refine (HM.out w).mono ?_
              intro e w1 hp
              obtain ⟨rfl, hg⟩ := hp
              exact ⟨_, rfl, hg, rfl⟩
          refine ⟨Fg.value rfl fun ac w h => ?_, ?_⟩
          · have e44 : ac.tmps.getD 44 undef = .bool true := h.dep 44 (by kernel_rfl)
            have e48 : ac.tmps.getD 48 undef = .agg #[iV 0, iV (y : Int)] := h.dep 48 (by kernel_rfl)
            have e53 : ac.tmps.getD 53 undef = .agg #[iV 0, iV (y : Int)] := h.dep 53 (by kernel_rfl)
            refine ⟨wants_some (d := 44) rfl rfl (by rw [h.size]; show 44 < 58; decide) e44, .bool true, w, ?_, gb_refl _ _, rfl⟩
            clear h
            simp only [execOp, Act.eval, e48, e53]
            go_simp
          refine ⟨Fg.value rfl fun ac w h => ?_, ?_⟩
          · have e44 : ac.tmps.getD 44 undef = .bool true := h.dep 44 (by kernel_rfl)
            have e54 : ac.tmps.getD 54 undef = .bool true := h.dep 54 (by kernel_rfl)
            refine ⟨wants_some (d := 44) rfl rfl (by rw [h.size]; show 44 < 58; decide) e44, .bool false, w, ?_, gb_refl _ _, rfl⟩
            clear h
            simp only [execOp, Act.eval, e54]
            go_simp
          refine ⟨Fg.value rfl fun ac w h => ?_, ?_⟩
          · have e39 : ac.tmps.getD 39 undef = .bool false := h.dep 39 (by kernel_rfl)
            have e44 : ac.tmps.getD 44 undef = .bool true := h.dep 44 (by kernel_rfl)
            have e55 : ac.tmps.getD 55 undef = .bool false := h.dep 55 (by kernel_rfl)
            refine ⟨wants_some (d := 39) rfl rfl (by rw [h.size]; show 39 < 58; decide) e39, .bool false, w, ?_, gb_refl _ _, rfl⟩
            clear h
            simp only [execOp, Act.eval, e44, e55]
            go_simp
          refine ⟨Fg.value rfl fun ac w h => ?_, ?_⟩
          · have e39 : ac.tmps.getD 39 undef = .bool false := h.dep 39 (by kernel_rfl)
            have e56 : ac.tmps.getD 56 undef = .bool false := h.dep 56 (by kernel_rfl)
            refine ⟨wants_none rfl, .bool false, w, ?_, gb_refl _ _, rfl⟩
            clear h
            simp only [execOp, Act.eval, e39, e56]
            go_simp
          trivial
        · intro aq wq hB hsz hdf hrest hslots _
          obtain ⟨u23, hs23⟩ : ∃ u, aq.tmps.getD 23 undef = u := ⟨_, rfl⟩
          obtain ⟨u24, hs24⟩ : ∃ u, aq.tmps.getD 24 undef = u := ⟨_, rfl⟩
          obtain ⟨u25, hs25⟩ : ∃ u, aq.tmps.getD 25 undef = u := ⟨_, rfl⟩
          obtain ⟨u26, hs26⟩ : ∃ u, aq.tmps.getD 26 undef = u := ⟨_, rfl⟩
          obtain ⟨u27, hs27⟩ : ∃ u, aq.tmps.getD 27 undef = u := ⟨_, rfl⟩
          obtain ⟨u28, hs28⟩ : ∃ u, aq.tmps.getD 28 undef = u := ⟨_, rfl⟩
          obtain ⟨u29, hs29⟩ : ∃ u, aq.tmps.getD 29 undef = u := ⟨_, rfl⟩
          obtain ⟨u30, hs30⟩ : ∃ u, aq.tmps.getD 30 undef = u := ⟨_, rfl⟩
          obtain ⟨u31, hs31⟩ : ∃ u, aq.tmps.getD 31 undef = u := ⟨_, rfl⟩
          obtain ⟨u32, hs32⟩ : ∃ u, aq.tmps.getD 32 undef = u := ⟨_, rfl⟩
          obtain ⟨u33, hs33⟩ : ∃ u, aq.tmps.getD 33 undef = u := ⟨_, rfl⟩
          obtain ⟨u34, hs34⟩ : ∃ u, aq.tmps.getD 34 undef = u := ⟨_, rfl⟩
          obtain ⟨u35, hs35⟩ : ∃ u, aq.tmps.getD 35 undef = u := ⟨_, rfl⟩
          obtain ⟨u36, hs36⟩ : ∃ u, aq.tmps.getD 36 undef = u := ⟨_, rfl⟩
          obtain ⟨u37, hs37⟩ : ∃ u, aq.tmps.getD 37 undef = u := ⟨_, rfl⟩
          obtain ⟨u38, hs38⟩ : ∃ u, aq.tmps.getD 38 undef = u := ⟨_, rfl⟩
          obtain ⟨u39, hs39⟩ : ∃ u, aq.tmps.getD 39 undef = u := ⟨_, rfl⟩
          obtain ⟨u40, hs40⟩ : ∃ u, aq.tmps.getD 40 undef = u := ⟨_, rfl⟩
          obtain ⟨u41, hs41⟩ : ∃ u, aq.tmps.getD 41 undef = u := ⟨_, rfl⟩
          obtain ⟨u42, hs42⟩ : ∃ u, aq.tmps.getD 42 undef = u := ⟨_, rfl⟩
          obtain ⟨u43, hs43⟩ : ∃ u, aq.tmps.getD 43 undef = u := ⟨_, rfl⟩
          obtain ⟨u44, hs44⟩ : ∃ u, aq.tmps.getD 44 undef = u := ⟨_, rfl⟩
          obtain ⟨u45, hs45⟩ : ∃ u, aq.tmps.getD 45 undef = u := ⟨_, rfl⟩
          obtain ⟨u46, hs46⟩ : ∃ u, aq.tmps.getD 46 undef = u := ⟨_, rfl⟩
          obtain ⟨u47, hs47⟩ : ∃ u, aq.tmps.getD 47 undef = u := ⟨_, rfl⟩
          obtain ⟨u48, hs48⟩ : ∃ u, aq.tmps.getD 48 undef = u := ⟨_, rfl⟩
          obtain ⟨u49, hs49⟩ : ∃ u, aq.tmps.getD 49 undef = u := ⟨_, rfl⟩
          obtain ⟨u50, hs50⟩ : ∃ u, aq.tmps.getD 50 undef = u := ⟨_, rfl⟩
          obtain ⟨u51, hs51⟩ : ∃ u, aq.tmps.getD 51 undef = u := ⟨_, rfl⟩
          obtain ⟨u52, hs52⟩ : ∃ u, aq.tmps.getD 52 undef = u := ⟨_, rfl⟩
          obtain ⟨u53, hs53⟩ : ∃ u, aq.tmps.getD 53 undef = u := ⟨_, rfl⟩
          obtain ⟨u54, hs54⟩ : ∃ u, aq.tmps.getD 54 undef = u := ⟨_, rfl⟩
          obtain ⟨u55, hs55⟩ : ∃ u, aq.tmps.getD 55 undef = u := ⟨_, rfl⟩
          obtain ⟨u56, hs56⟩ : ∃ u, aq.tmps.getD 56 undef = u := ⟨_, rfl⟩
          obtain rfl := Fg.frame_is (a := aq) (vs := [Value.slice (some ⟨g, 0, none⟩) n c, Value.slice a n cap, undef, undef, u4, Value.slice (some ⟨g, 0, none⟩) (n + 12) c, Value.int .i64 (k : Int), Value.slice (some ⟨g, 0, none⟩) n c, Value.int .i64 (n : Int), Value.slice a n cap, Value.int .i64 (n : Int), Value.bool false, Value.slice (some ⟨g, 0, none⟩) n c, Value.slice a n cap, Value.int .i64 (n : Int), Value.int .i64 ((n : Int) + 12), Value.slice (some ⟨g, 0, none⟩) (n + 12) c, Value.int .i64 (k : Int), Value.slice (some ⟨g, 0, none⟩) (n + 12) c, Value.int .i64 ((n : Int) + 12), Value.bool true, u21, u22, u23, u24, u25, u26, u27, u28, u29, u30, u31, u32, u33, u34, u35, u36, u37, u38, u39, u40, u41, u42, u43, u44, u45, u46, u47, u48, u49, u50, u51, u52, u53, u54, u55, u56, Value.bool false]) hsz ⟨hrest 0 (by kernel_rfl), hrest 1 (by kernel_rfl), hrest 2 (by kernel_rfl), hrest 3 (by kernel_rfl), hrest 4 (by kernel_rfl), hrest 5 (by kernel_rfl), hrest 6 (by kernel_rfl), hrest 7 (by kernel_rfl), hrest 8 (by kernel_rfl), hrest 9 (by kernel_rfl), hrest 10 (by kernel_rfl), hrest 11 (by kernel_rfl), hrest 12 (by kernel_rfl), hrest 13 (by kernel_rfl), hrest 14 (by kernel_rfl), hrest 15 (by kernel_rfl), hrest 16 (by kernel_rfl), hrest 17 (by kernel_rfl), hrest 18 (by kernel_rfl), hrest 19 (by kernel_rfl), hrest 20 (by kernel_rfl), hrest 21 (by kernel_rfl), hrest 22 (by kernel_rfl), hs23, hs24, hs25, hs26, hs27, hs28, hs29, hs30, hs31, hs32, hs33, hs34, hs35, hs36, hs37, hs38, hs39, hs40, hs41, hs42, hs43, hs44, hs45, hs46, hs47, hs48, hs49, hs50, hs51, hs52, hs53, hs54, hs55, hs56, (show aq.tmps.getD 57 undef = Value.bool false from hslots 57 (by kernel_rfl)), trivial⟩ hdf
          have HG2 := Lib.hid (gb_trans HW.out hB)
          clear hB hsz hdf hrest hslots hs23 hs24 hs25 hs26 hs27 hs28 hs29 hs30 hs31 hs32 hs33 hs34 hs35 hs36 hs37 hs38 hs39 hs40 hs41 hs42 hs43 hs44 hs45 hs46 hs47 hs48 hs49 hs50 hs51 hs52 hs53 hs54 hs55 hs56
          go_wp2
          go_roundw
          case rel => exact ⟨k + 1, by omega, by go_num, HG2.out⟩
          case measure => simp [intOf]; omega
    · obtain rfl : k = n + 12 := by omega
      go_wp2
      go_ret
      exact ⟨rfl, HW.out⟩
end Ve
end Go.Proofs.YtlkiancedgaicaaGreat

/- The kit's KeptRecord: what was lent is as it was. (Printed by gen_rckept.py.) -/
namespace Go.Proofs.YtlkiancedgaicaaGreat
open Go.RowKit Ow Wi Ve
namespace Rc
/-- a record that was lent: as q, but in blocks of its own from b on, with marks behind -/
structure Lent (f : Nat → Nat → Nat) (w : World) (b : Nat) (q : L) (r : R) (x1 d1 x2 x3 : Nat) : Prop where
  d : q.n1 + 12 ≤ d1
  cx : OwnD' w b (.slice (some ⟨x1, 0, none⟩) (q.n1 + 12) d1) (q.n1 + 12) (r.cx ++ marksD 1 12)
  val : Blk w x2 5 ((r.val ++ marksOf f 1 12).map u8N)
  sig : Blk w x3 5 ((r.sig ++ marksOf f 1 12).map u8N)
  b2 : b ≤ x2
  b3 : b ≤ x3
def lq (q : L) (x1 d1 x2 x3 : Nat) : L := ⟨q.s, some ⟨x1, 0, none⟩, q.n1, d1, some ⟨x2, 0, none⟩, q.n2, q.n2 + 12, some ⟨x3, 0, none⟩, q.n3, q.n3 + 12⟩
theorem Lent.stay {f : Nat → Nat → Nat} {w w' : World} {b : Nat} {q : L} {r : R} {x1 d1 x2 x3 : Nat} (h : Lent f w b q r x1 d1 x2 x3) (hg : w.grownBy w' none) : Lent f w' b q r x1 d1 x2 x3 :=
  ⟨h.d, h.cx.kept hg (by cases (Value.slice (some ⟨x1, 0, none⟩) (q.n1 + 12) d1).ownBlock <;> simp), h.val.grown hg (by simp), h.sig.grown hg (by simp), h.b2, h.b3⟩
theorem own_whole {w : World} {b n : Nat} {v : Option Addr} {xs : List Value} {e : TypeId} (h : w.ownsRow b e 1 (.slice v n n) n xs) (hn : 0 < n) : ∃ g, v = some ⟨g, 0, none⟩ ∧ b ≤ g ∧ Blk w g e xs := by
  have hl := h.1
  rcases h.2 with ⟨_, h0⟩ | ⟨g, c, cur, e1, hb, hg, hnc, hcm, hs, ht⟩
  · omega
  · simp only [Value.slice.injEq, true_and] at e1
    obtain ⟨rfl, rfl⟩ := e1
    refine ⟨g, rfl, hb, ?_⟩
    have e : cur.toList = xs := by
      rw [← ht, List.take_of_length_le]
      simp only [Array.length_toList]; omega
    unfold Blk
    rw [← e, hg]
theorem lp_lent {f : Nat → Nat → Nat} {w w' : World} {q : L} {r : R} {e : Ending} (h : LpOut f w q r e w') : ∃ x1 d1 x2 x3, e = .returned ((lq q x1 d1 x2 x3).v r) ∧ w.grownBy w' none ∧ Lent f w' w.heap.size q r x1 d1 x2 x3 := by
  obtain ⟨b1, d1, b2, b3, he, hg, hd, h1, h2, h3⟩ := h
  obtain ⟨x2, rfl, k2, hB2⟩ := own_whole h2 (by omega)
  obtain ⟨x3, rfl, k3, hB3⟩ := own_whole h3 (by omega)
  obtain ⟨x1, rfl⟩ : ∃ x1, b1 = some ⟨x1, 0, none⟩ := by
    rcases h1.2 with ⟨_, h0⟩ | ⟨g, c, _, e1, _⟩
    · omega
    · simp only [Value.slice.injEq, true_and] at e1
      exact ⟨g, e1.1⟩
  exact ⟨x1, d1, x2, x3, he, hg, hd, h1, hB2, hB3, k2, k3⟩
theorem lent_rat {f : Nat → Nat → Nat} {w : World} {b B : Nat} {q : L} {r : R} {x1 d1 x2 x3 : Nat} (h : Lent f w b q r x1 d1 x2 x3) (hr : RAt w B q r) (hs : q.n1 ≤ 30000 ∧ q.n2 ≤ 30000 ∧ q.n3 ≤ 30000) : RAt w w.heap.size (lq q x1 d1 x2 x3) r := by
  obtain ⟨a', c', e1, hl, _, hd⟩ := own_dots h.cx
  simp only [Value.slice.injEq, true_and] at e1
  obtain ⟨rfl, rfl⟩ := e1
  have hv := h.val
  have hg := h.sig
  rw [List.map_append] at hv hg
  refine ⟨hr.str, hr.l1, hr.l2, hr.l3, ⟨Nat.le_refl _, ?_⟩, blk_bytes hv hr.l2 (by simp only [lq]; omega) (by simp only [lq]; omega) hr.val.byte h.val.lt (Nat.le_refl _), blk_bytes hg hr.l3 (by simp only [lq]; omega) (by simp only [lq]; omega) hr.sig.byte h.sig.lt (Nat.le_refl _), hr.top⟩
  have hc := hd.cells.resolve_left (by rw [hl]; omega)
  obtain ⟨pb, po, e, hlt, hk⟩ := hc
  refine Or.inr ⟨pb, po, e, hlt, fun i hi => ?_⟩
  have h2 := hk i (by rw [List.length_append]; omega)
  have e3 : (r.cx ++ marksD 1 12).getD i z0 = r.cx.getD i z0 := by rw [List.getD_eq_getElem?_getD, List.getElem?_append_left hi, ← List.getD_eq_getElem?_getD]
  rw [e3] at h2
  exact h2
theorem lent_dots {f : Nat → Nat → Nat} {w : World} {b : Nat} {q : L} {r : R} {x1 d1 x2 x3 : Nat} (h : Lent f w b q r x1 d1 x2 x3) : DotsAt w w.heap.size (some ⟨x1, 0, none⟩) (r.cx ++ marksD 1 12) ∧ d1 < 9223372036854775808 := by
  obtain ⟨a', c', e1, hl, _, hd⟩ := own_dots h.cx
  simp only [Value.slice.injEq, true_and] at e1
  obtain ⟨rfl, rfl⟩ := e1
  refine ⟨hd, ?_⟩
  rcases h.cx.2 with ⟨e, _⟩ | ⟨g, c, cur, e1, _, _, _, hcm, _⟩
  · cases e
  · simp only [Value.slice.injEq, true_and] at e1
    have := e1.2
    unfold maxLen at hcm
    omega
set_option maxHeartbeats 2000000 in
set_option maxRecDepth 100000 in
theorem keptRec_any {f : Nat → Nat → Nat} (hf : Marks f) (r : R) (B : Nat) (w : World) (q : L) (h : RAt w B q r) (hs : q.n1 ≤ 30000 ∧ q.n2 ≤ 30000 ∧ q.n3 ≤ 30000) (b x1 d1 x2 x3 : Nat) (hl : Lent f w b q r x1 d1 x2 x3) :
    Calls Tryz.prog 80 #[(lq q x1 d1 x2 x3).v r, q.v r] w fun e w' => e = .returned (.bool true) ∧ w.grownBy w' none := by
  have HS := Lib.hid (fun w' (hg : w.grownBy w' none) => sameRec_any r r _ _ w' (lq q x1 d1 x2 x3) q (lent_rat (hl.stay hg) (h.stay hg) hs) (h.stay hg))
  have HD := Lib.hid (fun w' (hg : w.grownBy w' none) => keptD_any q.n1 d1 q.c1 _ B x1 r.cx q.a1 w' h.l1 (h.dots.stay hg) hs.1 hl.d (lent_dots hl).2 (lent_dots (hl.stay hg)).1)
  have HV := Lib.hid (fun w' (hg : w.grownBy w' none) => keptB_any hf q.n2 q.c2 B x2 r.val q.a2 w' h.l2 (h.val.stay hg) hs.2.1 (hl.stay hg).val)
  have HG := Lib.hid (fun w' (hg : w.grownBy w' none) => keptB_any hf q.n3 q.c3 B x3 r.sig q.a3 w' h.l3 (h.sig.stay hg) hs.2.2 (hl.stay hg).sig)
  rw [(sameB_iff r r).2 rfl] at HS
  clear h hs hl hf
  obtain ⟨s, a1, n1, c1, a2, n2, c2, a3, n3, c3⟩ := q
  obtain ⟨key, cl, sq, cx, g, val, sig⟩ := r
  simp only at HD HV HG
  replace HS : Hid (∀ w' (_ : w.grownBy w' none), Calls Tryz.prog 79 #[.agg #[.string s, iV cl, iV sq, .slice (some ⟨x1, 0, none⟩) n1 d1, .bool g, .slice (some ⟨x2, 0, none⟩) n2 (n2 + 12), .slice (some ⟨x3, 0, none⟩) n3 (n3 + 12)], .agg #[.string s, iV cl, iV sq, .slice a1 n1 c1, .bool g, .slice a2 n2 c2, .slice a3 n3 c3]] w' fun e w'' => e = .returned (.bool true) ∧ w'.grownBy w'' none) := HS
  show Calls _ _ #[.agg #[.string s, iV cl, iV sq, .slice (some ⟨x1, 0, none⟩) n1 d1, .bool g, .slice (some ⟨x2, 0, none⟩) n2 (n2 + 12), .slice (some ⟨x3, 0, none⟩) n3 (n3 + 12)], .agg #[.string s, iV cl, iV sq, .slice a1 n1 c1, .bool g, .slice a2 n2 c2, .slice a3 n3 c3]] w _
  obtain ⟨W1, hW1⟩ : ∃ W1, W1 = w.alloc (.cells #[.string s, iV cl, iV sq, .slice (some ⟨x1, 0, none⟩) n1 d1, .bool g, .slice (some ⟨x2, 0, none⟩) n2 (n2 + 12), .slice (some ⟨x3, 0, none⟩) n3 (n3 + 12)] 66) := ⟨_, rfl⟩
  obtain ⟨W2, hW2⟩ : ∃ W2, W2 = (w.alloc (.cells #[.string s, iV cl, iV sq, .slice (some ⟨x1, 0, none⟩) n1 d1, .bool g, .slice (some ⟨x2, 0, none⟩) n2 (n2 + 12), .slice (some ⟨x3, 0, none⟩) n3 (n3 + 12)] 66)).alloc (.cells #[.string s, iV cl, iV sq, .slice a1 n1 c1, .bool g, .slice a2 n2 c2, .slice a3 n3 c3] 66) := ⟨_, rfl⟩
  obtain ⟨M1, hM1⟩ : ∃ M, M = w.heap.size := ⟨_, rfl⟩
  obtain ⟨M2, hM2⟩ : ∃ M, M = w.heap.size + 1 := ⟨_, rfl⟩
  have hb1 : Blk W1 M1 66 [.string s, iV cl, iV sq, .slice (some ⟨x1, 0, none⟩) n1 d1, .bool g, .slice (some ⟨x2, 0, none⟩) n2 (n2 + 12), .slice (some ⟨x3, 0, none⟩) n3 (n3 + 12)] := by rw [hW1, hM1]; exact Blk.new _ _ _
  have hg1 : w.grownBy W1 none := by rw [hW1]; exact gb_alloc (gb_refl _ _) _
  have hg2 : W1.grownBy W2 none := by rw [hW2, ← hW1]; exact gb_alloc (gb_refl _ _) _
  have hs1 : W1.heap.size = M2 := by rw [hW1, hM2]; exact World.size_alloc _ _
  have hb2 : Blk W2 M2 66 [.string s, iV cl, iV sq, .slice a1 n1 c1, .bool g, .slice a2 n2 c2, .slice a3 n3 c3] := by rw [hW2, ← hW1, ← hs1]; exact Blk.new _ _ _
  have HG0 := Lib.hid (And.intro (gb_trans hg1 hg2) (And.intro (hb1.grown hg2 (by simp)) hb2)); clear hb1 hg1 hg2 hs1 hb2 hW1
  have m0 := HG0.out.2.1.cell (i := 0) rfl
  have m1 := HG0.out.2.1.cell (i := 1) rfl
  have m2 := HG0.out.2.1.cell (i := 2) rfl
  have m3 := HG0.out.2.1.cell (i := 3) rfl
  have m4 := HG0.out.2.1.cell (i := 4) rfl
  have m5 := HG0.out.2.1.cell (i := 5) rfl
  have m6 := HG0.out.2.1.cell (i := 6) rfl
  have p0 := HG0.out.2.2.cell (i := 0) rfl
  have p1 := HG0.out.2.2.cell (i := 1) rfl
  have p2 := HG0.out.2.2.cell (i := 2) rfl
  have p3 := HG0.out.2.2.cell (i := 3) rfl
  have p4 := HG0.out.2.2.cell (i := 4) rfl
  have p5 := HG0.out.2.2.cell (i := 5) rfl
  have p6 := HG0.out.2.2.cell (i := 6) rfl
  go_enter Tryz.func80, Tryz.ntmps80
  go_wp2_with fail
  rw [← hW2, ← hM2, ← hM1]
  clear hW2 hM1 hM2
  refine (HS.out W2 HG0.out.1).mono ?_
  rintro e w3 ⟨rfl, hg⟩
  have H3 := Lib.hid (And.intro (gb_trans HG0.out.1 hg) (And.intro (HG0.out.2.1.grown hg (by simp)) (HG0.out.2.2.grown hg (by simp))))
  clear hg HG0 m0 p0 m1 p1 m2 p2 m3 p3 m4 p4 m5 p5 m6 p6
  have m0 := H3.out.2.1.cell (i := 0) rfl
  have p0 := H3.out.2.2.cell (i := 0) rfl
  have m1 := H3.out.2.1.cell (i := 1) rfl
  have p1 := H3.out.2.2.cell (i := 1) rfl
  have m2 := H3.out.2.1.cell (i := 2) rfl
  have p2 := H3.out.2.2.cell (i := 2) rfl
  have m3 := H3.out.2.1.cell (i := 3) rfl
  have p3 := H3.out.2.2.cell (i := 3) rfl
  have m4 := H3.out.2.1.cell (i := 4) rfl
  have p4 := H3.out.2.2.cell (i := 4) rfl
  have m5 := H3.out.2.1.cell (i := 5) rfl
  have p5 := H3.out.2.2.cell (i := 5) rfl
  have m6 := H3.out.2.1.cell (i := 6) rfl
  have p6 := H3.out.2.2.cell (i := 6) rfl
  go_wp2_with fail
  refine (HD.out w3 H3.out.1).mono ?_
  rintro e w4 ⟨rfl, hg⟩
  have H4 := Lib.hid (And.intro (gb_trans H3.out.1 hg) (And.intro (H3.out.2.1.grown hg (by simp)) (H3.out.2.2.grown hg (by simp))))
  clear hg H3 m0 p0 m1 p1 m2 p2 m3 p3 m4 p4 m5 p5 m6 p6
  have m0 := H4.out.2.1.cell (i := 0) rfl
  have p0 := H4.out.2.2.cell (i := 0) rfl
  have m1 := H4.out.2.1.cell (i := 1) rfl
  have p1 := H4.out.2.2.cell (i := 1) rfl
  have m2 := H4.out.2.1.cell (i := 2) rfl
  have p2 := H4.out.2.2.cell (i := 2) rfl
  have m3 := H4.out.2.1.cell (i := 3) rfl
  have p3 := H4.out.2.2.cell (i := 3) rfl
  have m4 := H4.out.2.1.cell (i := 4) rfl
  have p4 := H4.out.2.2.cell (i := 4) rfl
  have m5 := H4.out.2.1.cell (i := 5) rfl
  have p5 := H4.out.2.2.cell (i := 5) rfl
  have m6 := H4.out.2.1.cell (i := 6) rfl
  have p6 := H4.out.2.2.cell (i := 6) rfl
  go_wp2_with fail
  refine (HV.out w4 H4.out.1).mono ?_
  rintro e w5 ⟨rfl, hg⟩
  have H5 := Lib.hid (And.intro (gb_trans H4.out.1 hg) (And.intro (H4.out.2.1.grown hg (by simp)) (H4.out.2.2.grown hg (by simp))))
  clear hg H4 m0 p0 m1 p1 m2 p2 m3 p3 m4 p4 m5 p5 m6 p6
  have m0 := H5.out.2.1.cell (i := 0) rfl
  have p0 := H5.out.2.2.cell (i := 0) rfl
  have m1 := H5.out.2.1.cell (i := 1) rfl
  have p1 := H5.out.2.2.cell (i := 1) rfl
  have m2 := H5.out.2.1.cell (i := 2) rfl
  have p2 := H5.out.2.2.cell (i := 2) rfl
  have m3 := H5.out.2.1.cell (i := 3) rfl
  have p3 := H5.out.2.2.cell (i := 3) rfl
  have m4 := H5.out.2.1.cell (i := 4) rfl
  have p4 := H5.out.2.2.cell (i := 4) rfl
  have m5 := H5.out.2.1.cell (i := 5) rfl
  have p5 := H5.out.2.2.cell (i := 5) rfl
  have m6 := H5.out.2.1.cell (i := 6) rfl
  have p6 := H5.out.2.2.cell (i := 6) rfl
  go_wp2_with fail
  refine (HG.out w5 H5.out.1).mono ?_
  rintro e w6 ⟨rfl, hg⟩
  have H6 := Lib.hid (And.intro (gb_trans H5.out.1 hg) (And.intro (H5.out.2.1.grown hg (by simp)) (H5.out.2.2.grown hg (by simp))))
  clear hg H5 m0 p0 m1 p1 m2 p2 m3 p3 m4 p4 m5 p5 m6 p6
  go_wp2
  go_ret
  exact ⟨rfl, H6.out.1⟩
end Rc
end Go.Proofs.YtlkiancedgaicaaGreat

/- Rows of records that were lent: in memory. -/
namespace Go.Proofs.YtlkiancedgaicaaGreat
open Go.RowKit Ow Wi Ve Rc
namespace Sb
/-- a mark -/
def mkE (i : Nat) : E := (⟨⟨#[]⟩, none, 0, 0, none, 0, 0, none, 0, 0⟩, ⟨[], 0, (mkN 1 i : Int), [], false, [], []⟩)
def mksE (j : Nat) : List E := (List.range j).map mkE
theorem mksE_len (j : Nat) : (mksE j).length = j := by simp [mksE]
theorem mksE_next (j : Nat) : mksE (j + 1) = mksE j ++ [mkE j] := by simp [mksE, List.range_succ]
theorem mkE_at (w : World) (B i : Nat) (hB : B ≤ w.heap.size) : RAt w B (mkE i).1 (mkE i).2 :=
  ⟨rfl, rfl, rfl, rfl, ⟨hB, Or.inl rfl⟩, ⟨hB, Nat.le_refl _, (show 0 < 9223372036854775808 by decide), fun j => by simp [mkE], Or.inl rfl⟩, ⟨hB, Nat.le_refl _, (show 0 < 9223372036854775808 by decide), fun j => by simp [mkE], Or.inl rfl⟩, (show 0 < 9223372036854775808 by decide)⟩
set_option maxHeartbeats 400000 in
theorem markRec_any (i : Nat) (w : World) (hi : i ≤ 1000000) : Calls Tryz.prog 69 #[.int .i64 1, .int .i64 i] w fun e w' => e = .returned (recV (mkE i)) ∧ w.grownBy w' none := by
  have hm := mark_any 1 i (w.alloc (.cells #[.string ⟨#[]⟩, .int .i64 0, .int .i64 0, .slice none 0 0, .bool false, .slice none 0 0, .slice none 0 0] 66)) (by decide) hi
  have hv : recV (mkE i) = .agg #[.string ⟨#[]⟩, .int .i64 0, .int .i64 (mkN 1 i : Nat), .slice none 0 0, .bool false, .slice none 0 0, .slice none 0 0] := rfl
  rw [hv]
  clear hv
  generalize mkN 1 i = m at hm ⊢
  go_enter Tryz.func69, Tryz.ntmps69
  go_wp2_with fail
  refine hm.mono ?_
  rintro e w' ⟨rfl, rfl⟩
  go_wp2
  exact bodyPost_ret (v := .agg #[.string ⟨#[]⟩, .int .i64 0, .int .i64 m, .slice none 0 0, .bool false, .slice none 0 0, .slice none 0 0]) (by simp [results, Tryz.results69, go_sem]) rfl ⟨rfl, gb_alloc (gb_refl _ _) _⟩
theorem make_recs (n : Nat) (w : World) (hc : n ≤ 1000000) : ∃ w', (Instr.makeSlice 48 (.int .i64 0) (.int .i64 ((n : Int) + 12))).run Tryz.prog w = .ok (.slice (some ⟨w.heap.size, 0, none⟩) 0 (n + 12)) w' ∧
    w.grownBy w' none ∧ w'.heap.size = w.heap.size + 1 ∧ OwnR w' w.heap.size (.slice (some ⟨w.heap.size, 0, none⟩) 0 (n + 12)) [] := by
  obtain ⟨i, hi, hz, hs, hb⟩ := info_rec
  have h2 := run_make (P := Tryz.prog) w 48 66 i (.agg z7.toArray) Tryz.underlying48 hi hz .i64 .i64 0 ((n : Int) + 12) (by omega) (by omega) (by rw [hb]; omega) (by omega)
  rw [hs, show ((n : Int) + 12).toNat = n + 12 by omega] at h2
  exact ⟨_, h2, gb_alloc (gb_refl _ _) _, by simp, World.ownsRow_made w _ (n + 12) (Nat.le_refl _) (by unfold maxLen; omega) (by rw [size_madeCells])⟩
theorem append_rec_fits (w : World) (base G k c N : Nat) (x : E) (l : List E) (hown : OwnR w base (.slice (some ⟨G, 0, none⟩) k c) l) (hk : l.length = k) (hx : ∀ j u, (recC x)[j]? = some u → w.cell? ⟨N, 0 + j, none⟩ = some u) (hroom : k + 1 ≤ c) :
    ∃ w', (Builtin.append_ #[48, 48] 48 #[.slice (some ⟨G, 0, none⟩) k c, .slice (some ⟨N, 0, none⟩) 1 1]).run Tryz.prog w = .ok (.slice (some ⟨G, 0, none⟩) (k + 1) c) w' ∧ OwnR w' base (.slice (some ⟨G, 0, none⟩) (k + 1) c) (l ++ [x]) ∧ w.grownBy w' (some G) := by
  subst hk
  obtain ⟨i, hi, _, hs, _⟩ := info_rec
  obtain ⟨w', hr, ho, hg⟩ := run_append_fits w base 48 48 66 i 7 (P := Tryz.prog) Tryz.underlying48 hi hs G l.length c (recsC l) hown ⟨N, 0, none⟩ 1 1 (recC x) rfl (fun j u hu => by rw [Addr.add_lit]; exact hx j u hu) (recC_cell x) hroom
  exact ⟨w', hr, by unfold OwnR; rw [recsC_app, recsC_one, List.length_append]; exact ho, hg⟩
/-- the first k records, lent -/
def LentsAt (f : Nat → Nat → Nat) (w : World) (b k : Nat) (O A : List E) : Prop :=
  O.length = k ∧ ∀ i, i < k → ∃ x1 d1 x2 x3, O.getD i e0 = (lq (A.getD i e0).1 x1 d1 x2 x3, (A.getD i e0).2) ∧ Lent f w b (A.getD i e0).1 (A.getD i e0).2 x1 d1 x2 x3
theorem lent_lower {f : Nat → Nat → Nat} {w : World} {b b' : Nat} {q : L} {r : R} {x1 d1 x2 x3 : Nat} (h : Lent f w b q r x1 d1 x2 x3) (hb : b' ≤ b) : Lent f w b' q r x1 d1 x2 x3 :=
  ⟨h.d, own_mono h.cx hb, h.val, h.sig, Nat.le_trans hb h.b2, Nat.le_trans hb h.b3⟩
theorem lent_beside {f : Nat → Nat → Nat} {w w' : World} {b G : Nat} {q : L} {r : R} {x1 d1 x2 x3 : Nat} (h : Lent f w b q r x1 d1 x2 x3) (hg : w.grownBy w' (some G)) (hG : G < b) : Lent f w' b q r x1 d1 x2 x3 :=
  ⟨h.d, h.cx.kept hg (Or.inr fun e => by have := (h.cx.lt _ e).1; omega), h.val.grown hg (fun e => by have := h.b2; have := Option.some.inj e; omega), h.sig.grown hg (fun e => by have := h.b3; have := Option.some.inj e; omega), h.b2, h.b3⟩
theorem LentsAt.stay {f : Nat → Nat → Nat} {w w' : World} {b k : Nat} {O A : List E} (h : LentsAt f w b k O A) (hg : w.grownBy w' none) : LentsAt f w' b k O A :=
  ⟨h.1, fun i hi => by obtain ⟨x1, d1, x2, x3, e, hl⟩ := h.2 i hi; exact ⟨x1, d1, x2, x3, e, hl.stay hg⟩⟩
theorem LentsAt.beside {f : Nat → Nat → Nat} {w w' : World} {b k G : Nat} {O A : List E} (h : LentsAt f w b k O A) (hg : w.grownBy w' (some G)) (hG : G < b) : LentsAt f w' b k O A :=
  ⟨h.1, fun i hi => by obtain ⟨x1, d1, x2, x3, e, hl⟩ := h.2 i hi; exact ⟨x1, d1, x2, x3, e, lent_beside hl hg hG⟩⟩
theorem LentsAt.more {f : Nat → Nat → Nat} {w : World} {b k : Nat} {O A : List E} (h : LentsAt f w b k O A) {x1 d1 x2 x3 : Nat} (hl : Lent f w b (A.getD k e0).1 (A.getD k e0).2 x1 d1 x2 x3) : LentsAt f w b (k + 1) (O ++ [(lq (A.getD k e0).1 x1 d1 x2 x3, (A.getD k e0).2)]) A := by
  refine ⟨by rw [List.length_append, h.1]; rfl, fun i hi => ?_⟩
  rcases (by omega : i < k ∨ i = k) with hk | rfl
  · obtain ⟨y1, e1, y2, y3, e, hl2⟩ := h.2 i hk
    exact ⟨y1, e1, y2, y3, by rw [List.getD_eq_getElem?_getD, List.getElem?_append_left (by rw [h.1]; exact hk), ← List.getD_eq_getElem?_getD]; exact e, hl2⟩
  · exact ⟨x1, d1, x2, x3, by rw [List.getD_eq_getElem?_getD, List.getElem?_append_right (by rw [h.1]; exact Nat.le_refl _), h.1, Nat.sub_self]; rfl, hl⟩
def FewE (x : E) : Prop := x.1.n1 ≤ 30000 ∧ x.1.n2 ≤ 30000 ∧ x.1.n3 ≤ 30000
theorem lents_recs {f : Nat → Nat → Nat} {w : World} {b : Nat} {O A : List E} (h : LentsAt f w b A.length O A) : recs O = recs A := by
  apply List.ext_getElem?
  intro i
  by_cases hi : i < A.length
  · obtain ⟨x1, d1, x2, x3, e, _⟩ := h.2 i hi
    rw [recs_get O i (by rw [h.1]; exact hi), recs_get A i hi, e]
  · rw [List.getElem?_eq_none (by rw [List.length_map, h.1]; omega), List.getElem?_eq_none (by rw [List.length_map]; omega)]
theorem lents_at {f : Nat → Nat → Nat} {w : World} {b B : Nat} {O A : List E} (h : LentsAt f w b A.length O A) (hA : ∀ x ∈ A, RAt w B x.1 x.2) (hs : ∀ x ∈ A, FewE x) : ∀ x ∈ O, RAt w w.heap.size x.1 x.2 := by
  intro x hx
  obtain ⟨i, hi, rfl⟩ := List.getElem_of_mem hx
  obtain ⟨x1, d1, x2, x3, e, hl⟩ := h.2 i (by rw [← h.1]; exact hi)
  have hm := getD_mem (l := A) (i := i) (by rw [← h.1]; exact hi)
  rw [List.getD_eq_getElem?_getD, List.getElem?_eq_getElem hi, Option.getD_some] at e
  rw [e]
  exact lent_rat hl (hA _ hm) (hs _ hm)
/-- the cells of the i-th record of a block -/
theorem blk_cells {w : World} {G i : Nat} {T : TypeId} {l : List E} (h : Blk w G T (recsC l)) (hi : i < l.length) : Cells7 w G (0 + i * 7) (l.getD i e0) := cells7 fun j v hv => by
  have hj : j < 7 := by have := (List.getElem?_eq_some_iff.1 hv).1; rwa [recC_len] at this
  rw [Nat.zero_add]
  exact h.cell (by rw [recsC_at l i hi j hj]; exact hv)
/-- what was lent, in memory -/
structure LentRs (f : Nat → Nat → Nat) (w : World) (G : Nat) (O A : List E) : Prop where
  blk : Blk w G 66 (recsC (O ++ mksE 12))
  at_ : LentsAt f w (G + 1) A.length O A
theorem LentRs.stay {f : Nat → Nat → Nat} {w w' : World} {G : Nat} {O A : List E} (h : LentRs f w G O A) (hg : w.grownBy w' none) : LentRs f w' G O A := ⟨h.blk.grown hg (by simp), h.at_.stay hg⟩
theorem LentRs.row {f : Nat → Nat → Nat} {w : World} {G B : Nat} {O A : List E} (h : LentRs f w G O A) (hA : ∀ x ∈ A, RAt w B x.1 x.2) (hs : ∀ x ∈ A, FewE x) : RRow w w.heap.size (some ⟨G, 0, none⟩) O := by
  refine ⟨Nat.le_refl _, lents_at h.at_ hA hs, ?_⟩
  by_cases h0 : O.length = 0
  · exact Or.inl h0
  · refine Or.inr ⟨G, 0, rfl, h.blk.lt, fun i hi j v hv => ?_⟩
    have hj : j < 7 := by have := (List.getElem?_eq_some_iff.1 hv).1; rwa [recC_len] at this
    rw [Nat.zero_add]
    refine h.blk.cell ?_
    rw [recsC_at (O ++ mksE 12) i (by rw [List.length_append]; omega) j hj, List.getD_eq_getElem?_getD, List.getElem?_append_left hi, ← List.getD_eq_getElem?_getD]
    exact hv
end Sb
end Go.Proofs.YtlkiancedgaicaaGreat

/- The kit's LentRecords. -/
namespace Go.Proofs.YtlkiancedgaicaaGreat
open Go.RowKit Ow Wi Ve Rc
namespace Sb
set_option maxHeartbeats 1000000 in
set_option maxRecDepth 100000 in
theorem lentRs_any {f : Nat → Nat → Nat} (hf : Marks f) (n cap B : Nat) (a : Option Addr) (A : List E) (w : World) (hn : A.length = n) (h : RRow w B a A) (hroom : ∀ x ∈ A, x.1.a1 = none → x.1.c1 = 0) (hs : ∀ x ∈ A, FewE x) (hn2 : n ≤ 30000) :
    Calls Tryz.prog 36 #[.slice a n cap] w fun e w' => ∃ G O, e = .returned (.slice (some ⟨G, 0, none⟩) n (n + 12)) ∧ w.grownBy w' none ∧ w.heap.size ≤ G ∧ LentRs f w' G O A := by
  obtain ⟨w1, hmk, hg1, hs1, ho1⟩ := make_recs n w (by omega)
  have H1 := Lib.hid (And.intro ho1 (And.intro hg1 (show w.heap.size < w1.heap.size by omega)))
  have H := Lib.hid (And.intro h (And.intro hn (And.intro hroom hs)))
  have HF := Lib.hid hf
  clear ho1 hg1 hs1 h hn hroom hs hf
  obtain ⟨G, hG⟩ : ∃ G, G = w.heap.size := ⟨_, rfl⟩
  rw [← hG] at hmk H1
  have HGE := Lib.hid (Nat.le_of_eq hG.symm)
  clear hG
  obtain ⟨Q, hQ⟩ : ∃ Q : Ending → World → Prop, Q = fun e w' => ∃ G O, e = .returned (.slice (some ⟨G, 0, none⟩) n (n + 12)) ∧ w.grownBy w' none ∧ w.heap.size ≤ G ∧ LentRs f w' G O A := ⟨_, rfl⟩
  rw [← hQ]
  have HQ := Lib.hid hQ; clear hQ
  go_enter Tryz.func36, Tryz.ntmps36
  go_wp2_with fail
  go_loopw [3, 4] (fun v i wr => ∃ (k : Nat), k ≤ n ∧ i = .int .i64 k ∧ v = .slice (some ⟨G, 0, none⟩) k (n + 12) ∧ Hid (∃ O : List E, OwnR wr G (.slice (some ⟨G, 0, none⟩) k (n + 12)) O ∧ w.grownBy wr none ∧ G < wr.heap.size ∧ LentsAt f wr (G + 1) k O A)) (fun _ i _ => n - (intOf i).toNat)
  case atStart => exact ⟨0, by omega, rfl, rfl, [], H1.out.1, H1.out.2.1, H1.out.2.2, rfl, fun i hi => absurd hi (by omega)⟩
  case round =>
    obtain ⟨k, hk, rfl, rfl, HI⟩ := hrel
    obtain ⟨O, ho, hg, hlt0, hLA⟩ := HI.out
    by_cases hlt : k < n
    · have hkl : k < A.length := by rw [H.out.2.1]; exact hlt
      obtain ⟨pb, po, rfl, hpb, hcs⟩ := (H.out.1.stay hg).at (by omega)
      have hx := hcs k hkl
      have hm := getD_mem (l := A) (i := k) hkl
      have hra := (H.out.1.stay hg).recs _ hm
      have HL := Lib.hid (lentRec_any HF.out (A.getD k e0).2 B wr (A.getD k e0).1 hra (H.out.2.2.1 _ hm) (H.out.2.2.2 _ hm))
      have HK := Lib.hid (fun (x : E) (hxe : x = A.getD k e0) (w5 : World) (hl : LentsAt f w5 (G + 1) k O A) (x1 d1 x2 x3 : Nat) (hl2 : Lent f w5 (G + 1) x.1 x.2 x1 d1 x2 x3) => show LentsAt f w5 (G + 1) (k + 1) (O ++ [(lq x.1 x1 d1 x2 x3, x.2)]) A by subst hxe; exact hl.more hl2)
      obtain ⟨x, hxe⟩ : ∃ x, x = A.getD k e0 := ⟨_, rfl⟩
      rw [← hxe] at hx HL
      replace HK := Lib.hid (HK.out x hxe)
      have HS := Lib.hid (And.intro ho (And.intro hg (And.intro hlt0 hLA)))
      clear hra hm hxe hcs ho hg hlt0 hLA HI
      obtain ⟨⟨s, a1, n1, c1, a2, n2, c2, a3, n3, c3⟩, ⟨key, cl, sq, cx, g0, val, sig⟩⟩ := x
      obtain ⟨c0', c1', c2', c3', c4', c5', c6'⟩ := cells_of hx
      replace HL : Hid (Calls Tryz.prog 68 #[vV s cl sq a1 n1 c1 g0 a2 n2 c2 a3 n3 c3] wr (LpOut f wr ⟨s, a1, n1, c1, a2, n2, c2, a3, n3, c3⟩ ⟨key, cl, sq, cx, g0, val, sig⟩)) := HL
      have hi : (k : Int) < (n : Int) := by omega
      clear hx
      go_wp2_with fail
      clear c0' c1' c2' c3' c4' c5' c6'
      refine HL.out.mono ?_
      intro e w4 hlp
      obtain ⟨x1, d1, x2, x3, rfl, hg4, hl4⟩ := lp_lent hlp
      clear hlp
      have HV : (lq ⟨s, a1, n1, c1, a2, n2, c2, a3, n3, c3⟩ x1 d1 x2 x3).v ⟨key, cl, sq, cx, g0, val, sig⟩ = .agg #[.string s, iV cl, iV sq, .slice (some ⟨x1, 0, none⟩) n1 d1, .bool g0, .slice (some ⟨x2, 0, none⟩) n2 (n2 + 12), .slice (some ⟨x3, 0, none⟩) n3 (n3 + 12)] := rfl
      rw [HV]
      clear HV
      have H4 := Lib.hid (And.intro hg4 (lent_lower (b' := G + 1) hl4 (by have := HS.out.2.2.1; omega)))
      obtain ⟨dd2, hd2⟩ : ∃ d, d = n2 + 12 := ⟨_, rfl⟩
      obtain ⟨dd3, hd3⟩ : ∃ d, d = n3 + 12 := ⟨_, rfl⟩
      rw [← hd2, ← hd3]
      clear hg4 hl4
      have hga := gb_alloc (gb_alloc (gb_refl w4 none) (.cells #[.string s, iV cl, iV sq, .slice (some ⟨x1, 0, none⟩) n1 d1, .bool g0, .slice (some ⟨x2, 0, none⟩) n2 dd2, .slice (some ⟨x3, 0, none⟩) n3 dd3] 66)) (.cells #[.string s, iV cl, iV sq, .slice (some ⟨x1, 0, none⟩) n1 d1, .bool g0, .slice (some ⟨x2, 0, none⟩) n2 dd2, .slice (some ⟨x3, 0, none⟩) n3 dd3] 66)
      have hsz5 := (gb_alloc (gb_refl w4 none) (.cells #[.string s, iV cl, iV sq, .slice (some ⟨x1, 0, none⟩) n1 d1, .bool g0, .slice (some ⟨x2, 0, none⟩) n2 dd2, .slice (some ⟨x3, 0, none⟩) n3 dd3] 66)).size
      have hbx := blk_at (w4.alloc (.cells #[.string s, iV cl, iV sq, .slice (some ⟨x1, 0, none⟩) n1 d1, .bool g0, .slice (some ⟨x2, 0, none⟩) n2 dd2, .slice (some ⟨x3, 0, none⟩) n3 dd3] 66)) [.string s, iV cl, iV sq, .slice (some ⟨x1, 0, none⟩) n1 d1, .bool g0, .slice (some ⟨x2, 0, none⟩) n2 dd2, .slice (some ⟨x3, 0, none⟩) n3 dd3] 66 (B := w4.heap.size + 1) (by simp)
      obtain ⟨w6, hap, ho6, hg6⟩ := append_rec_fits ((w4.alloc (.cells #[.string s, iV cl, iV sq, .slice (some ⟨x1, 0, none⟩) n1 d1, .bool g0, .slice (some ⟨x2, 0, none⟩) n2 dd2, .slice (some ⟨x3, 0, none⟩) n3 dd3] 66)).alloc (.cells #[.string s, iV cl, iV sq, .slice (some ⟨x1, 0, none⟩) n1 d1, .bool g0, .slice (some ⟨x2, 0, none⟩) n2 dd2, .slice (some ⟨x3, 0, none⟩) n3 dd3] 66)) G G k (n + 12) (w4.heap.size + 1) ((lq ⟨s, a1, n1, c1, a2, n2, c2, a3, n3, c3⟩ x1 d1 x2 x3, ⟨key, cl, sq, cx, g0, val, sig⟩) : E) O
        ((HS.out.1.kept H4.out.1 (by simp [Value.ownBlock])).kept hga (by simp [Value.ownBlock])) HS.out.2.2.2.1 (fun j u hu => blk_rec (x := (lq ⟨s, a1, n1, c1, a2, n2, c2, a3, n3, c3⟩ x1 d1 x2 x3, ⟨key, cl, sq, cx, g0, val, sig⟩)) (by subst hd2 hd3; exact hbx) j u hu) (by omega)
      have hgw : w.grownBy w6 none := gb_then (gb_trans HS.out.2.1 (gb_trans H4.out.1 hga)) hg6 HGE.out
      have hLA := HK.out w6 (((HS.out.2.2.2.stay H4.out.1).stay hga).beside hg6 (by omega)) x1 d1 x2 x3 (lent_beside ((H4.out.2.stay hga)) hg6 (by omega))
      have HE : Hid (∃ O : List E, OwnR w6 G (.slice (some ⟨G, 0, none⟩) (k + 1) (n + 12)) O ∧ w.grownBy w6 none ∧ G < w6.heap.size ∧ LentsAt f w6 (G + 1) (k + 1) O A) :=
        ⟨_, ho6, hgw, by have h1 := HS.out.2.2.1; have h2 := H4.out.1.size; have h3 := hga.size; have h4 := hg6.size; omega, hLA⟩
      clear hga hsz5 hbx ho6 hg6 hgw hLA HS H4 HK HL hd2 hd3
      go_wp2_with (at_builtin; refine Lib.wpList_append_run _ rfl (.tmp 22) (.tmp 24) 48 48 rfl _ _ rfl rfl _ _ hap ?_)
      exact ⟨⟨k + 1, by omega, rfl, rfl, HE.out⟩, by show n - ((k : Int) + 1).toNat < n - (k : Int).toNat; omega⟩
    · obtain rfl : k = n := by omega
      have HS := Lib.hid (And.intro ho (And.intro hg (And.intro hlt0 hLA)))
      clear ho hg hlt0 hLA HI hlt
      go_wp2_with fail
      go_loopw [3, 6] (fun v i wr => ∃ (j m : Nat), j ≤ 12 ∧ m = k + j ∧ i = .int .i64 j ∧ v = .slice (some ⟨G, 0, none⟩) m (k + 12) ∧ Hid (OwnR wr G (.slice (some ⟨G, 0, none⟩) m (k + 12)) (O ++ mksE j) ∧ w.grownBy wr none ∧ G < wr.heap.size ∧ LentsAt f wr (G + 1) k O A)) (fun _ i _ => 12 - (intOf i).toNat)
      case atStart => exact ⟨0, k, by omega, rfl, rfl, rfl, by simpa [mksE] using HS.out.1, HS.out.2.1, HS.out.2.2.1, HS.out.2.2.2⟩
      case round =>
        obtain ⟨j, m, hj, hm, rfl, rfl, HI⟩ := hrel
        by_cases hlt : j < 12
        · have HM := Lib.hid hm
          have hi : (j : Int) < 12 := by omega
          have hnx := mksE_next j
          have HMK := Lib.hid (markRec_any j wr (by omega))
          have hv : recV (mkE j) = .agg #[.string ⟨#[]⟩, iV 0, iV (mkN 1 j : Nat), .slice none 0 0, .bool false, .slice none 0 0, .slice none 0 0] := rfl
          have hrc : recC (mkE j) = [.string ⟨#[]⟩, iV 0, iV (mkN 1 j : Nat), .slice none 0 0, .bool false, .slice none 0 0, .slice none 0 0] := rfl
          rw [hv] at HMK
          generalize mkE j = x at *
          generalize mkN 1 j = mk at *
          have HNX := Lib.hid (And.intro hnx hrc)
          clear hnx hrc hv hm
          go_wp2_with fail
          refine HMK.out.mono ?_
          rintro e w4 ⟨rfl, hg4⟩
          have hga := gb_alloc hg4 (.cells #[.string ⟨#[]⟩, iV 0, iV mk, .slice none 0 0, .bool false, .slice none 0 0, .slice none 0 0] 66)
          obtain ⟨w6, hap, ho6, hg6⟩ := append_rec_fits (w4.alloc (.cells #[.string ⟨#[]⟩, iV 0, iV mk, .slice none 0 0, .bool false, .slice none 0 0, .slice none 0 0] 66)) G G m (k + 12) w4.heap.size x (O ++ mksE j) (HI.out.1.kept hga (by simp [Value.ownBlock])) (by rw [List.length_append, mksE_len, HI.out.2.2.2.1, HM.out]) (fun j u hu => blk_rec (x := x) (by rw [HNX.out.2]; exact Blk.new w4 _ _) j u hu) (by have := HM.out; omega)
          have HE : Hid (OwnR w6 G (.slice (some ⟨G, 0, none⟩) (m + 1) (k + 12)) (O ++ mksE (j + 1)) ∧ w.grownBy w6 none ∧ G < w6.heap.size ∧ LentsAt f w6 (G + 1) k O A) := by
            refine ⟨by rw [HNX.out.1, ← List.append_assoc]; exact ho6, gb_then (gb_trans HI.out.2.1 hga) hg6 HGE.out, ?_, (HI.out.2.2.2.stay hga).beside hg6 (by omega)⟩
            have h1 := HI.out.2.2.1; have h3 := hga.size; have h4 := hg6.size; omega
          clear hga ho6 hg6 hg4 HMK HNX HI
          go_wp2_with (at_builtin; refine Lib.wpList_append_run _ rfl (.tmp 30) (.tmp 33) 48 48 rfl _ _ rfl rfl _ _ hap ?_)
          exact ⟨⟨j + 1, m + 1, by omega, by have := HM.out; omega, rfl, rfl, HE.out⟩, by show 12 - ((j : Int) + 1).toNat < 12 - (j : Int).toNat; omega⟩
        · obtain rfl : j = 12 := by omega
          obtain rfl : m = k + 12 := hm
          have hblk : Blk wr G 66 (recsC (O ++ mksE 12)) := by
            have hol : (O ++ mksE 12).length = k + 12 := by rw [List.length_append, mksE_len, HI.out.2.2.2.1]
            rcases HI.out.1.2 with ⟨h0, _⟩ | ⟨g', c', cur, e1, hbg, hgh, _, _, hcs, ht⟩
            · cases h0
            · simp only [Value.slice.injEq, Option.some.injEq, Addr.mk.injEq, and_true] at e1
              obtain ⟨rfl, h5, rfl⟩ := e1
              have hcur : cur.toList = recsC (O ++ mksE 12) := by
                rw [← ht, List.take_of_length_le]
                rw [Array.length_toList, hcs, hol]; exact Nat.le_refl _
              unfold Blk
              rw [hgh, ← hcur, Array.toArray_toList]
          have HE : Hid (Q (.returned (.slice (some ⟨G, 0, none⟩) k (k + 12))) wr) := by
            show Q _ _
            rw [HQ.out]
            exact ⟨G, O, rfl, HI.out.2.1, HGE.out, hblk, by rw [H.out.2.1]; exact HI.out.2.2.2⟩
          obtain ⟨a', hsl, ha'⟩ := slice_toR (some ⟨G, 0, none⟩) (k + 12) (k + 12) k (by omega)
          rw [ha' G 0 rfl] at hsl
          clear hblk HI hlt ha'
          go_wp2
          exact HE.out
end Sb
end Go.Proofs.YtlkiancedgaicaaGreat
