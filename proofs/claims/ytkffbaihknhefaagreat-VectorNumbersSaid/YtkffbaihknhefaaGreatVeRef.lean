/- The document's answers (buttressref07): Dot, Right, up, Has, Covers. -/
import Derived.Test.YtkffbaihknhefaaGreatVeMem
import Derived.WalkKit
import Derived.Lib.Hide
import Derived.WalkSpells
import Derived.WalkLawsBesides
import Derived.BigGuardPart
import Derived.Test.YtkffbaihknhefaaGreatFlowG
import Derived.Outline
namespace Go.Proofs.YtkffbaihknhefaaGreat
open Go.RowKit Ve
namespace Ve
def BOut (w : World) (b : Bool) (e : Ending) (w' : World) : Prop := e = .returned (.bool b) ∧ w.grownBy w' none
set_option maxHeartbeats 400000 in
theorem refDot_any (b : Bool) (x y : Int) (w : World) (hb : okD (x, y) = b) :
    Calls Tryz.prog 25 #[.agg #[iV x, iV y]] w (BOut w b) := by
  have hO : BOut w b (.returned (.bool b)) (w.alloc (.cells #[iV x, iV y] 25)) := ⟨rfl, gb_alloc (gb_refl _ _) _⟩
  generalize BOut w b = Q at hO ⊢
  have HO := Lib.hid hO; clear hO
  unfold okD at hb
  by_cases h1 : 1 ≤ x
  · by_cases h2 : x ≤ 8
    · by_cases h3 : 1 ≤ y
      · by_cases h4 : y ≤ 1073741824
        · obtain rfl : b = true := by rw [← hb]; simp; omega
          clear hb
          go_enter Tryz.func25, Tryz.ntmps25
          go_wp2
          exact HO.out
        · obtain rfl : b = false := by rw [← hb]; simp; omega
          clear hb
          go_enter Tryz.func25, Tryz.ntmps25
          go_wp2
          exact HO.out
      · obtain rfl : b = false := by rw [← hb]; simp; omega
        clear hb
        go_enter Tryz.func25, Tryz.ntmps25
        go_wp2
        exact HO.out
    · obtain rfl : b = false := by rw [← hb]; simp; omega
      clear hb
      go_enter Tryz.func25, Tryz.ntmps25
      go_wp2
      exact HO.out
  · obtain rfl : b = false := by rw [← hb]; simp; omega
    clear hb
    go_enter Tryz.func25, Tryz.ntmps25
    go_wp2
    exact HO.out
set_option maxHeartbeats 400000 in
theorem refUp_any (B n cap : Nat) (a : Option Addr) (l : List D) (c : Int) (w : World) (hn : l.length = n) (h : DotsAt w B a l) (hc : n < 9223372036854775808) :
    Calls Tryz.prog 26 #[.slice a n cap, .int .i64 c] w fun e w' => e = .returned (.int .i64 (up l c)) ∧ w = w' := by
  have H := Lib.hid h; clear h
  have HN := Lib.hid hn; clear hn
  obtain ⟨R, hR⟩ : ∃ R, R = up l c := ⟨_, rfl⟩
  rw [← hR]
  have HR : Hid (R = up (l.drop 0) c) := hR
  clear hR
  go_enter Tryz.func26, Tryz.ntmps26
  go_wp2
  go_loop [5] (fun i => ∃ k : Nat, k ≤ n ∧ i = .int .i64 k ∧ Hid (R = up (l.drop k) c)) (fun i => n - (intOf i).toNat)
  case atStart => exact ⟨0, by omega, rfl, HR.out⟩
  case round =>
    obtain ⟨k, hk, rfl, HI⟩ := hrel
    by_cases hlt : k < n
    · obtain ⟨pb, po, rfl, hpb, hcs⟩ := H.out.cells.resolve_left (by rw [HN.out]; omega)
      obtain ⟨k1, k2⟩ := hcs k (by rw [HN.out]; exact hlt)
      clear hcs
      have hd := drop_at l k (by rw [HN.out]; exact hlt)
      obtain ⟨x, y, hxy⟩ : ∃ x y, l.getD k z0 = (x, y) := ⟨_, _, rfl⟩
      rw [hxy] at k1 k2 hd
      simp only at k1 k2
      have hi : (k : Int) < (n : Int) := by omega
      have hr : R = if x = c then y else up (l.drop (k + 1)) c := by rw [HI.out, hd, up]
      clear hd hxy
      by_cases hx : x = c
      · rw [if_pos hx] at hr
        have hxb : (x == c) = true := by simpa using hx
        have HR2 := Lib.hid hr; clear hr hx
        go_wp2
        go_ret
        exact ⟨by rw [HR2.out]; rfl, rfl⟩
      · rw [if_neg hx] at hr
        have hxb : (x == c) = false := by simpa using hx
        have HR2 := Lib.hid hr; clear hr hx
        go_wp2
        go_round
        case rel => exact ⟨k + 1, by omega, by go_num, HR2.out⟩
        case measure => simp [intOf]; omega
    · obtain rfl : k = n := by omega
      have hr : R = 0 := by rw [HI.out, drop_end l k (by rw [HN.out]; omega)]; rfl
      have HR2 := Lib.hid hr; clear hr
      go_wp2
      go_ret
      exact ⟨by rw [HR2.out]; rfl, rfl⟩
/-- the client ahead of place k -/
def pv (l : List D) (k : Nat) : Int := if k = 0 then 0 else (l.getD (k - 1) z0).1
set_option maxHeartbeats 1000000 in
theorem refRight_any (B n cap : Nat) (a : Option Addr) (l : List D) (w : World) (hn : l.length = n) (h : DotsAt w B a l) (hc : n < 9223372036854775808) :
    Calls Tryz.prog 13 #[.slice a n cap] w fun e w' => e = .returned (.bool (rtB 0 l)) ∧ w.grownBy w' none := by
  have H := Lib.hid h; clear h
  have HN := Lib.hid hn; clear hn
  obtain ⟨R, hR⟩ : ∃ R, R = rtB 0 l := ⟨_, rfl⟩
  rw [← hR]
  have HR : Hid (0 ≤ pv l 0 ∧ R = rtB (pv l 0) (l.drop 0)) := ⟨Int.le_refl _, hR⟩
  clear hR
  go_enter Tryz.func13, Tryz.ntmps13
  go_wp2
  go_loopw [3] (fun i wr => ∃ k : Nat, k ≤ n ∧ i = .int .i64 k ∧ Hid (w.grownBy wr none ∧ 0 ≤ pv l k ∧ R = rtB (pv l k) (l.drop k))) (fun i _ => n - (intOf i).toNat)
  case atStart => exact ⟨0, by omega, rfl, gb_refl _ _, HR.out⟩
  case round =>
    obtain ⟨k, hk, rfl, HI⟩ := hrel
    by_cases hlt : k < n
    · obtain ⟨pb, po, rfl, hpb, hcs⟩ := (H.out.stay HI.out.1).cells.resolve_left (by rw [HN.out]; omega)
      obtain ⟨k1, k2⟩ := hcs k (by rw [HN.out]; exact hlt)
      have hd := drop_at l k (by rw [HN.out]; exact hlt)
      obtain ⟨x, y, hxy⟩ : ∃ x y, l.getD k z0 = (x, y) := ⟨_, _, rfl⟩
      rw [hxy] at k1 k2 hd
      simp only at k1 k2
      have hi : (k : Int) < (n : Int) := by omega
      have hpn : pv l (k + 1) = x := by unfold pv; rw [if_neg (by omega), Nat.add_sub_cancel, hxy]
      have hrn : R = ((decide (pv l k < x) && decide (x ≤ 8) && decide (1 ≤ y) && decide (y ≤ 1073741824)) && rtB (pv l (k + 1)) (l.drop (k + 1))) := by rw [HI.out.2.2, hd, rtB, hpn]
      have HX := Lib.hid (And.intro hrn hpn); clear hd hxy hrn hpn
      have HK1 : Hid (∀ {w' : World}, wr.grownBy w' none → w'.cell? ⟨pb, po + k * 2, none⟩ = some (iV x) ∧ w'.cell? ⟨pb, po + k * 2 + 1, none⟩ = some (iV y)) := fun {w'} hg => ⟨by rw [gb_cell hg (block_lt_of_cell k1) (by simp)]; exact k1, by rw [gb_cell hg (block_lt_of_cell k2) (by simp)]; exact k2⟩
      by_cases hok : okD (x, y) = true
      · have hD := Lib.hid (fun W => refDot_any true x y W hok)
        have hokk : 1 ≤ x ∧ x ≤ 8 ∧ 1 ≤ y ∧ y ≤ 1073741824 := by simpa [okD, and_assoc] using hok
        have HOK := Lib.hid hokk; clear hok hokk
        by_cases hk0 : k = 0
        · clear hcs
          have hr : R = rtB (pv l (k + 1)) (l.drop (k + 1)) ∧ 0 ≤ pv l (k + 1) := by
            have h0 : pv l k = 0 := by unfold pv; rw [if_pos hk0]
            obtain ⟨o1, o2, o3, o4⟩ := HOK.out
            have e := HX.out.1
            rw [h0, decide_eq_true (show (0 : Int) < x by omega), decide_eq_true o2, decide_eq_true o3, decide_eq_true o4] at e
            exact ⟨by simpa using e, by rw [HX.out.2]; omega⟩
          have HRR := Lib.hid hr; clear hr
          have b1 : decide (0 < k) = false := decide_eq_false (by omega)
          have b2 : decide ((0 : Int) < (k : Int)) = false := decide_eq_false (by omega)
          have HK0 := Lib.hid hk0; clear hk0
          go_wp2_with fail
          refine wp_region_flow3 (Fg.its [.any, .any, .any, .any, .any, .any, .any, .any, .any, .any, .val (.slice (some ⟨pb, po, none⟩) n cap), .val (.int .i64 (k : Int)), .val (.pointer (some ⟨pb, po + k * 2, none⟩)), .val (.agg #[iV x, iV y]), .val (.bool true), .val (.bool false), .val (.bool false), .val (.int .i64 (k : Int)), .val (.bool false), .val (.bool false), .val undef, .val undef, .val undef, .val undef, .val undef, .val undef, .val undef, .val undef, .val undef, .val undef, .val undef, .val undef, .val (.bool false), .val (.bool false)]) (fun _ => 0) (fun _ _ _ => True) (fun w => World.grownBy wr w none) [] (by kernel_rfl) (by kernel_rfl) (by kernel_rfl) (gb_drew (gb_refl _ _)) (Fg.ptrs_nil _ _) (Fg.no_store (by kernel_rfl)) ?_ ?_
          · refine ⟨Fg.value rfl fun ac w h => ?_, ?_⟩
            · have e0 : ac.tmps.getD 0 undef = .slice (some ⟨pb, po, none⟩) n cap := h.rest 0 (by kernel_rfl)
              refine ⟨wants_none rfl, .slice (some ⟨pb, po, none⟩) n cap, w, ?_, gb_refl _ _, rfl⟩
              clear h
              simp only [execOp, Act.eval, e0]
              go_simp
            refine ⟨Fg.value rfl fun ac w h => ?_, ?_⟩
            · have e3 : ac.tmps.getD 3 undef = .int .i64 (k : Int) := h.rest 3 (by kernel_rfl)
              refine ⟨wants_none rfl, .int .i64 (k : Int), w, ?_, gb_refl _ _, rfl⟩
              clear h
              simp only [execOp, Act.eval, e3]
              go_simp
            refine ⟨Fg.value rfl fun ac w h => ?_, ?_⟩
            · have e10 : ac.tmps.getD 10 undef = .slice (some ⟨pb, po, none⟩) n cap := h.dep 10 (by kernel_rfl)
              have e11 : ac.tmps.getD 11 undef = .int .i64 (k : Int) := h.dep 11 (by kernel_rfl)
              refine ⟨wants_none rfl, .pointer (some ⟨pb, po + k * 2, none⟩), w, ?_, gb_refl _ _, rfl⟩
              clear h
              simp only [execOp, Act.eval, e10, e11]
              go_simp
            refine ⟨Fg.value rfl fun ac w h => ?_, ?_⟩
            · have e12 : ac.tmps.getD 12 undef = .pointer (some ⟨pb, po + k * 2, none⟩) := h.dep 12 (by kernel_rfl)
              have c1 := (HK1.out h.base).1
              have c2 := (HK1.out h.base).2
              refine ⟨wants_none rfl, .agg #[iV x, iV y], w, ?_, gb_refl _ _, rfl⟩
              clear h
              simp only [execOp, Act.eval, e12]
              go_simp
            refine ⟨Fg.call rfl fun ac w h => ?_, ?_⟩
            · have e13 : ac.tmps.getD 13 undef = .agg #[iV x, iV y] := h.dep 13 (by kernel_rfl)
              have x13 : ac.tmps[13]?.getD undef = .agg #[iV x, iV y] := by simpa using e13
              have hb := h.base
              refine ⟨wants_none rfl, 25, #[.agg #[iV x, iV y]], ?_, ?_⟩
              · clear h hb e13
                go_simp
              · refine (hD.out w).mono ?_
                intro e w1 hp
                obtain ⟨rfl, hg⟩ := hp
                exact ⟨_, rfl, hg, rfl⟩
            refine ⟨Fg.value rfl fun ac w h => ?_, ?_⟩
            · have e14 : ac.tmps.getD 14 undef = .bool true := h.dep 14 (by kernel_rfl)
              refine ⟨wants_none rfl, .bool false, w, ?_, gb_refl _ _, rfl⟩
              clear h
              simp only [execOp, Act.eval, e14]
              go_simp
            refine ⟨Fg.value rfl fun ac w h => ?_, ?_⟩
            · have e15 : ac.tmps.getD 15 undef = .bool false := h.dep 15 (by kernel_rfl)
              refine ⟨wants_none rfl, .bool false, w, ?_, gb_refl _ _, rfl⟩
              clear h
              simp only [execOp, Act.eval, e15]
              go_simp
            refine ⟨Fg.value rfl fun ac w h => ?_, ?_⟩
            · have e16 : ac.tmps.getD 16 undef = .bool false := h.dep 16 (by kernel_rfl)
              have e3 : ac.tmps.getD 3 undef = .int .i64 (k : Int) := h.rest 3 (by kernel_rfl)
              refine ⟨wants_some (d := 16) rfl rfl (by rw [h.size]; show 16 < 34; decide) e16, .int .i64 (k : Int), w, ?_, gb_refl _ _, rfl⟩
              clear h
              simp only [execOp, Act.eval, e3]
              go_simp
            refine ⟨Fg.value rfl fun ac w h => ?_, ?_⟩
            · have e16 : ac.tmps.getD 16 undef = .bool false := h.dep 16 (by kernel_rfl)
              have e17 : ac.tmps.getD 17 undef = .int .i64 (k : Int) := h.dep 17 (by kernel_rfl)
              refine ⟨wants_some (d := 16) rfl rfl (by rw [h.size]; show 16 < 34; decide) e16, .bool false, w, ?_, gb_refl _ _, rfl⟩
              clear h
              simp only [execOp, Act.eval, e17]
              go_simp
            refine ⟨Fg.value rfl fun ac w h => ?_, ?_⟩
            · have e16 : ac.tmps.getD 16 undef = .bool false := h.dep 16 (by kernel_rfl)
              have e18 : ac.tmps.getD 18 undef = .bool false := h.dep 18 (by kernel_rfl)
              refine ⟨wants_some (d := 16) rfl rfl (by rw [h.size]; show 16 < 34; decide) e16, .bool false, w, ?_, gb_refl _ _, rfl⟩
              clear h
              simp only [execOp, Act.eval, e18]
              go_simp
            refine ⟨Fg.skipped rfl (fun _ => rfl) fun ac w h => ?_, ?_⟩
            · have e19 : ac.tmps.getD 19 undef = .bool false := h.dep 19 (by kernel_rfl)
              exact not_wants (d := 19) rfl rfl (by rw [h.size]; show 19 < 34; decide) e19 (by decide)
            refine ⟨Fg.skipped rfl (fun _ => rfl) fun ac w h => ?_, ?_⟩
            · have e19 : ac.tmps.getD 19 undef = .bool false := h.dep 19 (by kernel_rfl)
              exact not_wants (d := 19) rfl rfl (by rw [h.size]; show 19 < 34; decide) e19 (by decide)
            refine ⟨Fg.skipped rfl (fun _ => rfl) fun ac w h => ?_, ?_⟩
            · have e19 : ac.tmps.getD 19 undef = .bool false := h.dep 19 (by kernel_rfl)
              exact not_wants (d := 19) rfl rfl (by rw [h.size]; show 19 < 34; decide) e19 (by decide)
            refine ⟨Fg.skipped rfl (fun _ => rfl) fun ac w h => ?_, ?_⟩
            · have e19 : ac.tmps.getD 19 undef = .bool false := h.dep 19 (by kernel_rfl)
              exact not_wants (d := 19) rfl rfl (by rw [h.size]; show 19 < 34; decide) e19 (by decide)
            refine ⟨Fg.skipped rfl (fun _ => rfl) fun ac w h => ?_, ?_⟩
            · have e19 : ac.tmps.getD 19 undef = .bool false := h.dep 19 (by kernel_rfl)
              exact not_wants (d := 19) rfl rfl (by rw [h.size]; show 19 < 34; decide) e19 (by decide)
            refine ⟨Fg.skipped rfl (fun _ => rfl) fun ac w h => ?_, ?_⟩
            · have e19 : ac.tmps.getD 19 undef = .bool false := h.dep 19 (by kernel_rfl)
              exact not_wants (d := 19) rfl rfl (by rw [h.size]; show 19 < 34; decide) e19 (by decide)
            refine ⟨Fg.skipped rfl (fun _ => rfl) fun ac w h => ?_, ?_⟩
            · have e19 : ac.tmps.getD 19 undef = .bool false := h.dep 19 (by kernel_rfl)
              exact not_wants (d := 19) rfl rfl (by rw [h.size]; show 19 < 34; decide) e19 (by decide)
            refine ⟨Fg.skipped rfl (fun _ => rfl) fun ac w h => ?_, ?_⟩
            · have e19 : ac.tmps.getD 19 undef = .bool false := h.dep 19 (by kernel_rfl)
              exact not_wants (d := 19) rfl rfl (by rw [h.size]; show 19 < 34; decide) e19 (by decide)
            refine ⟨Fg.skipped rfl (fun _ => rfl) fun ac w h => ?_, ?_⟩
            · have e19 : ac.tmps.getD 19 undef = .bool false := h.dep 19 (by kernel_rfl)
              exact not_wants (d := 19) rfl rfl (by rw [h.size]; show 19 < 34; decide) e19 (by decide)
            refine ⟨Fg.skipped rfl (fun _ => rfl) fun ac w h => ?_, ?_⟩
            · have e19 : ac.tmps.getD 19 undef = .bool false := h.dep 19 (by kernel_rfl)
              exact not_wants (d := 19) rfl rfl (by rw [h.size]; show 19 < 34; decide) e19 (by decide)
            refine ⟨Fg.skipped rfl (fun _ => rfl) fun ac w h => ?_, ?_⟩
            · have e19 : ac.tmps.getD 19 undef = .bool false := h.dep 19 (by kernel_rfl)
              exact not_wants (d := 19) rfl rfl (by rw [h.size]; show 19 < 34; decide) e19 (by decide)
            refine ⟨Fg.skipped rfl (fun _ => rfl) fun ac w h => ?_, ?_⟩
            · have e19 : ac.tmps.getD 19 undef = .bool false := h.dep 19 (by kernel_rfl)
              exact not_wants (d := 19) rfl rfl (by rw [h.size]; show 19 < 34; decide) e19 (by decide)
            refine ⟨Fg.value rfl fun ac w h => ?_, ?_⟩
            · have e16 : ac.tmps.getD 16 undef = .bool false := h.dep 16 (by kernel_rfl)
              have e19 : ac.tmps.getD 19 undef = .bool false := h.dep 19 (by kernel_rfl)
              refine ⟨wants_some (d := 16) rfl rfl (by rw [h.size]; show 16 < 34; decide) e16, .bool false, w, ?_, gb_refl _ _, rfl⟩
              clear h
              simp only [execOp, Act.eval, e19]
              go_simp
            refine ⟨Fg.value rfl fun ac w h => ?_, ?_⟩
            · have e16 : ac.tmps.getD 16 undef = .bool false := h.dep 16 (by kernel_rfl)
              have e32 : ac.tmps.getD 32 undef = .bool false := h.dep 32 (by kernel_rfl)
              refine ⟨wants_none rfl, .bool false, w, ?_, gb_refl _ _, rfl⟩
              clear h
              simp only [execOp, Act.eval, e16, e32]
              go_simp
            trivial
          · intro aq wq hB hsz hdf hrest hslots _
            obtain ⟨u10, hs10⟩ : ∃ u, aq.tmps.getD 10 undef = u := ⟨_, rfl⟩
            obtain ⟨u11, hs11⟩ : ∃ u, aq.tmps.getD 11 undef = u := ⟨_, rfl⟩
            obtain ⟨u12, hs12⟩ : ∃ u, aq.tmps.getD 12 undef = u := ⟨_, rfl⟩
            obtain ⟨u13, hs13⟩ : ∃ u, aq.tmps.getD 13 undef = u := ⟨_, rfl⟩
            obtain ⟨u14, hs14⟩ : ∃ u, aq.tmps.getD 14 undef = u := ⟨_, rfl⟩
            obtain ⟨u15, hs15⟩ : ∃ u, aq.tmps.getD 15 undef = u := ⟨_, rfl⟩
            obtain ⟨u16, hs16⟩ : ∃ u, aq.tmps.getD 16 undef = u := ⟨_, rfl⟩
            obtain ⟨u17, hs17⟩ : ∃ u, aq.tmps.getD 17 undef = u := ⟨_, rfl⟩
            obtain ⟨u18, hs18⟩ : ∃ u, aq.tmps.getD 18 undef = u := ⟨_, rfl⟩
            obtain ⟨u19, hs19⟩ : ∃ u, aq.tmps.getD 19 undef = u := ⟨_, rfl⟩
            obtain ⟨u20, hs20⟩ : ∃ u, aq.tmps.getD 20 undef = u := ⟨_, rfl⟩
            obtain ⟨u21, hs21⟩ : ∃ u, aq.tmps.getD 21 undef = u := ⟨_, rfl⟩
            obtain ⟨u22, hs22⟩ : ∃ u, aq.tmps.getD 22 undef = u := ⟨_, rfl⟩
            obtain ⟨u23, hs23⟩ : ∃ u, aq.tmps.getD 23 undef = u := ⟨_, rfl⟩
            obtain ⟨u24, hs24⟩ : ∃ u, aq.tmps.getD 24 undef = u := ⟨_, rfl⟩
            obtain ⟨u25, hs25⟩ : ∃ u, aq.tmps.getD 25 undef = u := ⟨_, rfl⟩
            obtain ⟨u26, hs26⟩ : ∃ u, aq.tmps.getD 26 undef = u := ⟨_, rfl⟩
            obtain ⟨u27, hs27⟩ : ∃ u, aq.tmps.getD 27 undef = u := ⟨_, rfl⟩
            obtain ⟨u28, hs28⟩ : ∃ u, aq.tmps.getD 28 undef = u := ⟨_, rfl⟩
            obtain ⟨u29, hs29⟩ : ∃ u, aq.tmps.getD 29 undef = u := ⟨_, rfl⟩
            obtain ⟨u30, hs30⟩ : ∃ u, aq.tmps.getD 30 undef = u := ⟨_, rfl⟩
            obtain ⟨u31, hs31⟩ : ∃ u, aq.tmps.getD 31 undef = u := ⟨_, rfl⟩
            obtain ⟨u32, hs32⟩ : ∃ u, aq.tmps.getD 32 undef = u := ⟨_, rfl⟩
            obtain rfl := Fg.frame_is (a := aq) (vs := [Value.slice (some ⟨pb, po, none⟩) n cap, undef, u2, Value.int .i64 (k : Int), Value.int .i64 (k : Int), Value.slice (some ⟨pb, po, none⟩) n cap, Value.int .i64 (n : Int), Value.bool true, u8, u9, u10, u11, u12, u13, u14, u15, u16, u17, u18, u19, u20, u21, u22, u23, u24, u25, u26, u27, u28, u29, u30, u31, u32, Value.bool false]) hsz ⟨hrest 0 (by kernel_rfl), hrest 1 (by kernel_rfl), hrest 2 (by kernel_rfl), hrest 3 (by kernel_rfl), hrest 4 (by kernel_rfl), hrest 5 (by kernel_rfl), hrest 6 (by kernel_rfl), hrest 7 (by kernel_rfl), hrest 8 (by kernel_rfl), hrest 9 (by kernel_rfl), hs10, hs11, hs12, hs13, hs14, hs15, hs16, hs17, hs18, hs19, hs20, hs21, hs22, hs23, hs24, hs25, hs26, hs27, hs28, hs29, hs30, hs31, hs32, (show aq.tmps.getD 33 undef = Value.bool false from hslots 33 (by kernel_rfl)), trivial⟩ hdf
            have hB0 := Lib.hid hB
            clear hB hsz hdf hrest hslots hs10 hs11 hs12 hs13 hs14 hs15 hs16 hs17 hs18 hs19 hs20 hs21 hs22 hs23 hs24 hs25 hs26 hs27 hs28 hs29 hs30 hs31 hs32
            go_wp2
            go_roundw
            case rel => exact ⟨k + 1, by omega, by go_num, gb_trans HI.out.1 hB0.out, HRR.out.2, HRR.out.1⟩
            case measure => simp [intOf]; omega
        · obtain ⟨q, hq⟩ : ∃ q, k = q + 1 := ⟨k - 1, by omega⟩
          obtain ⟨k3, _⟩ := hcs q (by rw [HN.out]; omega)
          clear hcs
          obtain ⟨px, hpx⟩ : ∃ px, px = (l.getD q z0).1 := ⟨_, rfl⟩
          rw [← hpx] at k3
          have hpv : pv l k = px := by unfold pv; rw [if_neg hk0, hq, Nat.add_sub_cancel, hpx]
          have b1 : decide (0 < k) = true := decide_eq_true (by omega)
          have b2 : decide ((0 : Int) < (k : Int)) = true := decide_eq_true (by omega)
          have b3 : IntKind.i64.wrap ((k : Int) - 1) = (q : Int) := by rw [IntKind.wrap_i64]; omega
          have b4 : (q : Int) < (n : Int) := by omega
          have b5 : (k : Int) - 1 = (q : Int) := by omega
          have b7 : IntKind.i64.wrap (q : Int) = (q : Int) := by rw [IntKind.wrap_i64]; omega
          have HPV := Lib.hid (And.intro hpv (And.intro hq hpx)); clear hpv hq hpx hk0
          have HK2 : Hid (∀ {w' : World}, wr.grownBy w' none → w'.cell? ⟨pb, po + k * 2, none⟩ = some (iV x) ∧ w'.cell? ⟨pb, po + q * 2, none⟩ = some (iV px)) := fun {w'} hg => ⟨by rw [gb_cell hg (block_lt_of_cell k1) (by simp)]; exact k1, by rw [gb_cell hg (block_lt_of_cell k3) (by simp)]; exact k3⟩
          by_cases hlt2 : px < x
          · have hr : R = rtB (pv l (k + 1)) (l.drop (k + 1)) ∧ 0 ≤ pv l (k + 1) := by
              obtain ⟨o1, o2, o3, o4⟩ := HOK.out
              have e := HX.out.1
              rw [HPV.out.1, decide_eq_true hlt2, decide_eq_true o2, decide_eq_true o3, decide_eq_true o4] at e
              exact ⟨by simpa using e, by rw [HX.out.2]; omega⟩
            have HRR := Lib.hid hr; clear hr
            have b6 : decide (x ≤ px) = false := decide_eq_false (by omega)
            go_wp2_with fail
            refine wp_region_flow3 (Fg.its [.any, .any, .any, .any, .any, .any, .any, .any, .any, .any, .val (.slice (some ⟨pb, po, none⟩) n cap), .val (.int .i64 (k : Int)), .val (.pointer (some ⟨pb, po + k * 2, none⟩)), .val (.agg #[iV x, iV y]), .val (.bool true), .val (.bool false), .val (.bool false), .val (.int .i64 (k : Int)), .val (.bool true), .val (.bool true), .val (.slice (some ⟨pb, po, none⟩) n cap), .val (.int .i64 (k : Int)), .val (.int .i64 (q : Int)), .val (.pointer (some ⟨pb, po + q * 2, none⟩)), .val (.pointer (some ⟨pb, po + q * 2, none⟩)), .val (iV px), .val (.slice (some ⟨pb, po, none⟩) n cap), .val (.int .i64 (k : Int)), .val (.pointer (some ⟨pb, po + k * 2, none⟩)), .val (.pointer (some ⟨pb, po + k * 2, none⟩)), .val (iV x), .val (.bool false), .val (.bool false), .val (.bool false)]) (fun _ => 0) (fun _ _ _ => True) (fun w => World.grownBy wr w none) [] (by kernel_rfl) (by kernel_rfl) (by kernel_rfl) (gb_drew (gb_refl _ _)) (Fg.ptrs_nil _ _) (Fg.no_store (by kernel_rfl)) ?_ ?_
            · refine ⟨Fg.value rfl fun ac w h => ?_, ?_⟩
              · have e0 : ac.tmps.getD 0 undef = .slice (some ⟨pb, po, none⟩) n cap := h.rest 0 (by kernel_rfl)
                refine ⟨wants_none rfl, .slice (some ⟨pb, po, none⟩) n cap, w, ?_, gb_refl _ _, rfl⟩
                clear h
                simp only [execOp, Act.eval, e0]
                go_simp
              refine ⟨Fg.value rfl fun ac w h => ?_, ?_⟩
              · have e3 : ac.tmps.getD 3 undef = .int .i64 (k : Int) := h.rest 3 (by kernel_rfl)
                refine ⟨wants_none rfl, .int .i64 (k : Int), w, ?_, gb_refl _ _, rfl⟩
                clear h
                simp only [execOp, Act.eval, e3]
                go_simp
              refine ⟨Fg.value rfl fun ac w h => ?_, ?_⟩
              · have e10 : ac.tmps.getD 10 undef = .slice (some ⟨pb, po, none⟩) n cap := h.dep 10 (by kernel_rfl)
                have e11 : ac.tmps.getD 11 undef = .int .i64 (k : Int) := h.dep 11 (by kernel_rfl)
                refine ⟨wants_none rfl, .pointer (some ⟨pb, po + k * 2, none⟩), w, ?_, gb_refl _ _, rfl⟩
                clear h
                simp only [execOp, Act.eval, e10, e11]
                go_simp
              refine ⟨Fg.value rfl fun ac w h => ?_, ?_⟩
              · have e12 : ac.tmps.getD 12 undef = .pointer (some ⟨pb, po + k * 2, none⟩) := h.dep 12 (by kernel_rfl)
                have c1 := (HK1.out h.base).1
                have c2 := (HK1.out h.base).2
                refine ⟨wants_none rfl, .agg #[iV x, iV y], w, ?_, gb_refl _ _, rfl⟩
                clear h
                simp only [execOp, Act.eval, e12]
                go_simp
              refine ⟨Fg.call rfl fun ac w h => ?_, ?_⟩
              · have e13 : ac.tmps.getD 13 undef = .agg #[iV x, iV y] := h.dep 13 (by kernel_rfl)
                have x13 : ac.tmps[13]?.getD undef = .agg #[iV x, iV y] := by simpa using e13
                have hb := h.base
                refine ⟨wants_none rfl, 25, #[.agg #[iV x, iV y]], ?_, ?_⟩
                · clear h hb e13
                  go_simp
                · refine (hD.out w).mono ?_
                  intro e w1 hp
                  obtain ⟨rfl, hg⟩ := hp
                  exact ⟨_, rfl, hg, rfl⟩
              refine ⟨Fg.value rfl fun ac w h => ?_, ?_⟩
              · have e14 : ac.tmps.getD 14 undef = .bool true := h.dep 14 (by kernel_rfl)
                refine ⟨wants_none rfl, .bool false, w, ?_, gb_refl _ _, rfl⟩
                clear h
                simp only [execOp, Act.eval, e14]
                go_simp
              refine ⟨Fg.value rfl fun ac w h => ?_, ?_⟩
              · have e15 : ac.tmps.getD 15 undef = .bool false := h.dep 15 (by kernel_rfl)
                refine ⟨wants_none rfl, .bool false, w, ?_, gb_refl _ _, rfl⟩
                clear h
                simp only [execOp, Act.eval, e15]
                go_simp
              refine ⟨Fg.value rfl fun ac w h => ?_, ?_⟩
              · have e16 : ac.tmps.getD 16 undef = .bool false := h.dep 16 (by kernel_rfl)
                have e3 : ac.tmps.getD 3 undef = .int .i64 (k : Int) := h.rest 3 (by kernel_rfl)
                refine ⟨wants_some (d := 16) rfl rfl (by rw [h.size]; show 16 < 34; decide) e16, .int .i64 (k : Int), w, ?_, gb_refl _ _, rfl⟩
                clear h
                simp only [execOp, Act.eval, e3]
                go_simp
              refine ⟨Fg.value rfl fun ac w h => ?_, ?_⟩
              · have e16 : ac.tmps.getD 16 undef = .bool false := h.dep 16 (by kernel_rfl)
                have e17 : ac.tmps.getD 17 undef = .int .i64 (k : Int) := h.dep 17 (by kernel_rfl)
                refine ⟨wants_some (d := 16) rfl rfl (by rw [h.size]; show 16 < 34; decide) e16, .bool true, w, ?_, gb_refl _ _, rfl⟩
                clear h
                simp only [execOp, Act.eval, e17]
                go_simp
              refine ⟨Fg.value rfl fun ac w h => ?_, ?_⟩
              · have e16 : ac.tmps.getD 16 undef = .bool false := h.dep 16 (by kernel_rfl)
                have e18 : ac.tmps.getD 18 undef = .bool true := h.dep 18 (by kernel_rfl)
                refine ⟨wants_some (d := 16) rfl rfl (by rw [h.size]; show 16 < 34; decide) e16, .bool true, w, ?_, gb_refl _ _, rfl⟩
                clear h
                simp only [execOp, Act.eval, e18]
                go_simp
              refine ⟨Fg.value rfl fun ac w h => ?_, ?_⟩
              · have e19 : ac.tmps.getD 19 undef = .bool true := h.dep 19 (by kernel_rfl)
                have e0 : ac.tmps.getD 0 undef = .slice (some ⟨pb, po, none⟩) n cap := h.rest 0 (by kernel_rfl)
                refine ⟨wants_some (d := 19) rfl rfl (by rw [h.size]; show 19 < 34; decide) e19, .slice (some ⟨pb, po, none⟩) n cap, w, ?_, gb_refl _ _, rfl⟩
                clear h
                simp only [execOp, Act.eval, e0]
                go_simp
              refine ⟨Fg.value rfl fun ac w h => ?_, ?_⟩
              · have e19 : ac.tmps.getD 19 undef = .bool true := h.dep 19 (by kernel_rfl)
                have e3 : ac.tmps.getD 3 undef = .int .i64 (k : Int) := h.rest 3 (by kernel_rfl)
                refine ⟨wants_some (d := 19) rfl rfl (by rw [h.size]; show 19 < 34; decide) e19, .int .i64 (k : Int), w, ?_, gb_refl _ _, rfl⟩
                clear h
                simp only [execOp, Act.eval, e3]
                go_simp
              refine ⟨Fg.value rfl fun ac w h => ?_, ?_⟩
              · have e19 : ac.tmps.getD 19 undef = .bool true := h.dep 19 (by kernel_rfl)
                have e21 : ac.tmps.getD 21 undef = .int .i64 (k : Int) := h.dep 21 (by kernel_rfl)
                refine ⟨wants_some (d := 19) rfl rfl (by rw [h.size]; show 19 < 34; decide) e19, .int .i64 (q : Int), w, ?_, gb_refl _ _, rfl⟩
                clear h
                simp only [execOp, Act.eval, e21]
                go_simp
              refine ⟨Fg.value rfl fun ac w h => ?_, ?_⟩
              · have e19 : ac.tmps.getD 19 undef = .bool true := h.dep 19 (by kernel_rfl)
                have e20 : ac.tmps.getD 20 undef = .slice (some ⟨pb, po, none⟩) n cap := h.dep 20 (by kernel_rfl)
                have e22 : ac.tmps.getD 22 undef = .int .i64 (q : Int) := h.dep 22 (by kernel_rfl)
                refine ⟨wants_some (d := 19) rfl rfl (by rw [h.size]; show 19 < 34; decide) e19, .pointer (some ⟨pb, po + q * 2, none⟩), w, ?_, gb_refl _ _, rfl⟩
                clear h
                simp only [execOp, Act.eval, e20, e22]
                go_simp
              refine ⟨Fg.value rfl fun ac w h => ?_, ?_⟩
              · have e19 : ac.tmps.getD 19 undef = .bool true := h.dep 19 (by kernel_rfl)
                have e23 : ac.tmps.getD 23 undef = .pointer (some ⟨pb, po + q * 2, none⟩) := h.dep 23 (by kernel_rfl)
                refine ⟨wants_some (d := 19) rfl rfl (by rw [h.size]; show 19 < 34; decide) e19, .pointer (some ⟨pb, po + q * 2, none⟩), w, ?_, gb_refl _ _, rfl⟩
                clear h
                simp only [execOp, Act.eval, e23]
                go_simp
              refine ⟨Fg.value rfl fun ac w h => ?_, ?_⟩
              · have e19 : ac.tmps.getD 19 undef = .bool true := h.dep 19 (by kernel_rfl)
                have e24 : ac.tmps.getD 24 undef = .pointer (some ⟨pb, po + q * 2, none⟩) := h.dep 24 (by kernel_rfl)
                have c1 := (HK2.out h.base).2
                refine ⟨wants_some (d := 19) rfl rfl (by rw [h.size]; show 19 < 34; decide) e19, iV px, w, ?_, gb_refl _ _, rfl⟩
                clear h
                simp only [execOp, Act.eval, e24]
                go_simp
              refine ⟨Fg.value rfl fun ac w h => ?_, ?_⟩
              · have e19 : ac.tmps.getD 19 undef = .bool true := h.dep 19 (by kernel_rfl)
                have e0 : ac.tmps.getD 0 undef = .slice (some ⟨pb, po, none⟩) n cap := h.rest 0 (by kernel_rfl)
                refine ⟨wants_some (d := 19) rfl rfl (by rw [h.size]; show 19 < 34; decide) e19, .slice (some ⟨pb, po, none⟩) n cap, w, ?_, gb_refl _ _, rfl⟩
                clear h
                simp only [execOp, Act.eval, e0]
                go_simp
              refine ⟨Fg.value rfl fun ac w h => ?_, ?_⟩
              · have e19 : ac.tmps.getD 19 undef = .bool true := h.dep 19 (by kernel_rfl)
                have e3 : ac.tmps.getD 3 undef = .int .i64 (k : Int) := h.rest 3 (by kernel_rfl)
                refine ⟨wants_some (d := 19) rfl rfl (by rw [h.size]; show 19 < 34; decide) e19, .int .i64 (k : Int), w, ?_, gb_refl _ _, rfl⟩
                clear h
                simp only [execOp, Act.eval, e3]
                go_simp
              refine ⟨Fg.value rfl fun ac w h => ?_, ?_⟩
              · have e19 : ac.tmps.getD 19 undef = .bool true := h.dep 19 (by kernel_rfl)
                have e26 : ac.tmps.getD 26 undef = .slice (some ⟨pb, po, none⟩) n cap := h.dep 26 (by kernel_rfl)
                have e27 : ac.tmps.getD 27 undef = .int .i64 (k : Int) := h.dep 27 (by kernel_rfl)
                refine ⟨wants_some (d := 19) rfl rfl (by rw [h.size]; show 19 < 34; decide) e19, .pointer (some ⟨pb, po + k * 2, none⟩), w, ?_, gb_refl _ _, rfl⟩
                clear h
                simp only [execOp, Act.eval, e26, e27]
                go_simp
              refine ⟨Fg.value rfl fun ac w h => ?_, ?_⟩
              · have e19 : ac.tmps.getD 19 undef = .bool true := h.dep 19 (by kernel_rfl)
                have e28 : ac.tmps.getD 28 undef = .pointer (some ⟨pb, po + k * 2, none⟩) := h.dep 28 (by kernel_rfl)
                refine ⟨wants_some (d := 19) rfl rfl (by rw [h.size]; show 19 < 34; decide) e19, .pointer (some ⟨pb, po + k * 2, none⟩), w, ?_, gb_refl _ _, rfl⟩
                clear h
                simp only [execOp, Act.eval, e28]
                go_simp
              refine ⟨Fg.value rfl fun ac w h => ?_, ?_⟩
              · have e19 : ac.tmps.getD 19 undef = .bool true := h.dep 19 (by kernel_rfl)
                have e29 : ac.tmps.getD 29 undef = .pointer (some ⟨pb, po + k * 2, none⟩) := h.dep 29 (by kernel_rfl)
                have c1 := (HK2.out h.base).1
                refine ⟨wants_some (d := 19) rfl rfl (by rw [h.size]; show 19 < 34; decide) e19, iV x, w, ?_, gb_refl _ _, rfl⟩
                clear h
                simp only [execOp, Act.eval, e29]
                go_simp
              refine ⟨Fg.value rfl fun ac w h => ?_, ?_⟩
              · have e19 : ac.tmps.getD 19 undef = .bool true := h.dep 19 (by kernel_rfl)
                have e25 : ac.tmps.getD 25 undef = iV px := h.dep 25 (by kernel_rfl)
                have e30 : ac.tmps.getD 30 undef = iV x := h.dep 30 (by kernel_rfl)
                refine ⟨wants_some (d := 19) rfl rfl (by rw [h.size]; show 19 < 34; decide) e19, .bool false, w, ?_, gb_refl _ _, rfl⟩
                clear h
                simp only [execOp, Act.eval, e25, e30]
                go_simp
              refine ⟨Fg.value rfl fun ac w h => ?_, ?_⟩
              · have e16 : ac.tmps.getD 16 undef = .bool false := h.dep 16 (by kernel_rfl)
                have e19 : ac.tmps.getD 19 undef = .bool true := h.dep 19 (by kernel_rfl)
                have e31 : ac.tmps.getD 31 undef = .bool false := h.dep 31 (by kernel_rfl)
                refine ⟨wants_some (d := 16) rfl rfl (by rw [h.size]; show 16 < 34; decide) e16, .bool false, w, ?_, gb_refl _ _, rfl⟩
                clear h
                simp only [execOp, Act.eval, e19, e31]
                go_simp
              refine ⟨Fg.value rfl fun ac w h => ?_, ?_⟩
              · have e16 : ac.tmps.getD 16 undef = .bool false := h.dep 16 (by kernel_rfl)
                have e32 : ac.tmps.getD 32 undef = .bool false := h.dep 32 (by kernel_rfl)
                refine ⟨wants_none rfl, .bool false, w, ?_, gb_refl _ _, rfl⟩
                clear h
                simp only [execOp, Act.eval, e16, e32]
                go_simp
              trivial
            · intro aq wq hB hsz hdf hrest hslots _
              obtain ⟨u10, hs10⟩ : ∃ u, aq.tmps.getD 10 undef = u := ⟨_, rfl⟩
              obtain ⟨u11, hs11⟩ : ∃ u, aq.tmps.getD 11 undef = u := ⟨_, rfl⟩
              obtain ⟨u12, hs12⟩ : ∃ u, aq.tmps.getD 12 undef = u := ⟨_, rfl⟩
              obtain ⟨u13, hs13⟩ : ∃ u, aq.tmps.getD 13 undef = u := ⟨_, rfl⟩
              obtain ⟨u14, hs14⟩ : ∃ u, aq.tmps.getD 14 undef = u := ⟨_, rfl⟩
              obtain ⟨u15, hs15⟩ : ∃ u, aq.tmps.getD 15 undef = u := ⟨_, rfl⟩
              obtain ⟨u16, hs16⟩ : ∃ u, aq.tmps.getD 16 undef = u := ⟨_, rfl⟩
              obtain ⟨u17, hs17⟩ : ∃ u, aq.tmps.getD 17 undef = u := ⟨_, rfl⟩
              obtain ⟨u18, hs18⟩ : ∃ u, aq.tmps.getD 18 undef = u := ⟨_, rfl⟩
              obtain ⟨u19, hs19⟩ : ∃ u, aq.tmps.getD 19 undef = u := ⟨_, rfl⟩
              obtain ⟨u20, hs20⟩ : ∃ u, aq.tmps.getD 20 undef = u := ⟨_, rfl⟩
              obtain ⟨u21, hs21⟩ : ∃ u, aq.tmps.getD 21 undef = u := ⟨_, rfl⟩
              obtain ⟨u22, hs22⟩ : ∃ u, aq.tmps.getD 22 undef = u := ⟨_, rfl⟩
              obtain ⟨u23, hs23⟩ : ∃ u, aq.tmps.getD 23 undef = u := ⟨_, rfl⟩
              obtain ⟨u24, hs24⟩ : ∃ u, aq.tmps.getD 24 undef = u := ⟨_, rfl⟩
              obtain ⟨u25, hs25⟩ : ∃ u, aq.tmps.getD 25 undef = u := ⟨_, rfl⟩
              obtain ⟨u26, hs26⟩ : ∃ u, aq.tmps.getD 26 undef = u := ⟨_, rfl⟩
              obtain ⟨u27, hs27⟩ : ∃ u, aq.tmps.getD 27 undef = u := ⟨_, rfl⟩
              obtain ⟨u28, hs28⟩ : ∃ u, aq.tmps.getD 28 undef = u := ⟨_, rfl⟩
              obtain ⟨u29, hs29⟩ : ∃ u, aq.tmps.getD 29 undef = u := ⟨_, rfl⟩
              obtain ⟨u30, hs30⟩ : ∃ u, aq.tmps.getD 30 undef = u := ⟨_, rfl⟩
              obtain ⟨u31, hs31⟩ : ∃ u, aq.tmps.getD 31 undef = u := ⟨_, rfl⟩
              obtain ⟨u32, hs32⟩ : ∃ u, aq.tmps.getD 32 undef = u := ⟨_, rfl⟩
              obtain rfl := Fg.frame_is (a := aq) (vs := [Value.slice (some ⟨pb, po, none⟩) n cap, undef, u2, Value.int .i64 (k : Int), Value.int .i64 (k : Int), Value.slice (some ⟨pb, po, none⟩) n cap, Value.int .i64 (n : Int), Value.bool true, u8, u9, u10, u11, u12, u13, u14, u15, u16, u17, u18, u19, u20, u21, u22, u23, u24, u25, u26, u27, u28, u29, u30, u31, u32, Value.bool false]) hsz ⟨hrest 0 (by kernel_rfl), hrest 1 (by kernel_rfl), hrest 2 (by kernel_rfl), hrest 3 (by kernel_rfl), hrest 4 (by kernel_rfl), hrest 5 (by kernel_rfl), hrest 6 (by kernel_rfl), hrest 7 (by kernel_rfl), hrest 8 (by kernel_rfl), hrest 9 (by kernel_rfl), hs10, hs11, hs12, hs13, hs14, hs15, hs16, hs17, hs18, hs19, hs20, hs21, hs22, hs23, hs24, hs25, hs26, hs27, hs28, hs29, hs30, hs31, hs32, (show aq.tmps.getD 33 undef = Value.bool false from hslots 33 (by kernel_rfl)), trivial⟩ hdf
              have hB0 := Lib.hid hB
              clear hB hsz hdf hrest hslots hs10 hs11 hs12 hs13 hs14 hs15 hs16 hs17 hs18 hs19 hs20 hs21 hs22 hs23 hs24 hs25 hs26 hs27 hs28 hs29 hs30 hs31 hs32
              go_wp2
              go_roundw
              case rel => exact ⟨k + 1, by omega, by go_num, gb_trans HI.out.1 hB0.out, HRR.out.2, HRR.out.1⟩
              case measure => simp [intOf]; omega
          · have hr : R = false := by
              have e := HX.out.1
              rw [HPV.out.1, decide_eq_false hlt2] at e
              simpa using e
            have HRR := Lib.hid hr; clear hr
            have b6 : decide (x ≤ px) = true := decide_eq_true (by omega)
            go_wp2_with fail
            refine wp_region_flow3 (Fg.its [.any, .any, .any, .any, .any, .any, .any, .any, .any, .any, .val (.slice (some ⟨pb, po, none⟩) n cap), .val (.int .i64 (k : Int)), .val (.pointer (some ⟨pb, po + k * 2, none⟩)), .val (.agg #[iV x, iV y]), .val (.bool true), .val (.bool false), .val (.bool false), .val (.int .i64 (k : Int)), .val (.bool true), .val (.bool true), .val (.slice (some ⟨pb, po, none⟩) n cap), .val (.int .i64 (k : Int)), .val (.int .i64 (q : Int)), .val (.pointer (some ⟨pb, po + q * 2, none⟩)), .val (.pointer (some ⟨pb, po + q * 2, none⟩)), .val (iV px), .val (.slice (some ⟨pb, po, none⟩) n cap), .val (.int .i64 (k : Int)), .val (.pointer (some ⟨pb, po + k * 2, none⟩)), .val (.pointer (some ⟨pb, po + k * 2, none⟩)), .val (iV x), .val (.bool true), .val (.bool true), .val (.bool true)]) (fun _ => 0) (fun _ _ _ => True) (fun w => World.grownBy wr w none) [] (by kernel_rfl) (by kernel_rfl) (by kernel_rfl) (gb_drew (gb_refl _ _)) (Fg.ptrs_nil _ _) (Fg.no_store (by kernel_rfl)) ?_ ?_
            · refine ⟨Fg.value rfl fun ac w h => ?_, ?_⟩
              · have e0 : ac.tmps.getD 0 undef = .slice (some ⟨pb, po, none⟩) n cap := h.rest 0 (by kernel_rfl)
                refine ⟨wants_none rfl, .slice (some ⟨pb, po, none⟩) n cap, w, ?_, gb_refl _ _, rfl⟩
                clear h
                simp only [execOp, Act.eval, e0]
                go_simp
              refine ⟨Fg.value rfl fun ac w h => ?_, ?_⟩
              · have e3 : ac.tmps.getD 3 undef = .int .i64 (k : Int) := h.rest 3 (by kernel_rfl)
                refine ⟨wants_none rfl, .int .i64 (k : Int), w, ?_, gb_refl _ _, rfl⟩
                clear h
                simp only [execOp, Act.eval, e3]
                go_simp
              refine ⟨Fg.value rfl fun ac w h => ?_, ?_⟩
              · have e10 : ac.tmps.getD 10 undef = .slice (some ⟨pb, po, none⟩) n cap := h.dep 10 (by kernel_rfl)
                have e11 : ac.tmps.getD 11 undef = .int .i64 (k : Int) := h.dep 11 (by kernel_rfl)
                refine ⟨wants_none rfl, .pointer (some ⟨pb, po + k * 2, none⟩), w, ?_, gb_refl _ _, rfl⟩
                clear h
                simp only [execOp, Act.eval, e10, e11]
                go_simp
              refine ⟨Fg.value rfl fun ac w h => ?_, ?_⟩
              · have e12 : ac.tmps.getD 12 undef = .pointer (some ⟨pb, po + k * 2, none⟩) := h.dep 12 (by kernel_rfl)
                have c1 := (HK1.out h.base).1
                have c2 := (HK1.out h.base).2
                refine ⟨wants_none rfl, .agg #[iV x, iV y], w, ?_, gb_refl _ _, rfl⟩
                clear h
                simp only [execOp, Act.eval, e12]
                go_simp
              refine ⟨Fg.call rfl fun ac w h => ?_, ?_⟩
              · have e13 : ac.tmps.getD 13 undef = .agg #[iV x, iV y] := h.dep 13 (by kernel_rfl)
                have x13 : ac.tmps[13]?.getD undef = .agg #[iV x, iV y] := by simpa using e13
                have hb := h.base
                refine ⟨wants_none rfl, 25, #[.agg #[iV x, iV y]], ?_, ?_⟩
                · clear h hb e13
                  go_simp
                · refine (hD.out w).mono ?_
                  intro e w1 hp
                  obtain ⟨rfl, hg⟩ := hp
                  exact ⟨_, rfl, hg, rfl⟩
              refine ⟨Fg.value rfl fun ac w h => ?_, ?_⟩
              · have e14 : ac.tmps.getD 14 undef = .bool true := h.dep 14 (by kernel_rfl)
                refine ⟨wants_none rfl, .bool false, w, ?_, gb_refl _ _, rfl⟩
                clear h
                simp only [execOp, Act.eval, e14]
                go_simp
              refine ⟨Fg.value rfl fun ac w h => ?_, ?_⟩
              · have e15 : ac.tmps.getD 15 undef = .bool false := h.dep 15 (by kernel_rfl)
                refine ⟨wants_none rfl, .bool false, w, ?_, gb_refl _ _, rfl⟩
                clear h
                simp only [execOp, Act.eval, e15]
                go_simp
              refine ⟨Fg.value rfl fun ac w h => ?_, ?_⟩
              · have e16 : ac.tmps.getD 16 undef = .bool false := h.dep 16 (by kernel_rfl)
                have e3 : ac.tmps.getD 3 undef = .int .i64 (k : Int) := h.rest 3 (by kernel_rfl)
                refine ⟨wants_some (d := 16) rfl rfl (by rw [h.size]; show 16 < 34; decide) e16, .int .i64 (k : Int), w, ?_, gb_refl _ _, rfl⟩
                clear h
                simp only [execOp, Act.eval, e3]
                go_simp
              refine ⟨Fg.value rfl fun ac w h => ?_, ?_⟩
              · have e16 : ac.tmps.getD 16 undef = .bool false := h.dep 16 (by kernel_rfl)
                have e17 : ac.tmps.getD 17 undef = .int .i64 (k : Int) := h.dep 17 (by kernel_rfl)
                refine ⟨wants_some (d := 16) rfl rfl (by rw [h.size]; show 16 < 34; decide) e16, .bool true, w, ?_, gb_refl _ _, rfl⟩
                clear h
                simp only [execOp, Act.eval, e17]
                go_simp
              refine ⟨Fg.value rfl fun ac w h => ?_, ?_⟩
              · have e16 : ac.tmps.getD 16 undef = .bool false := h.dep 16 (by kernel_rfl)
                have e18 : ac.tmps.getD 18 undef = .bool true := h.dep 18 (by kernel_rfl)
                refine ⟨wants_some (d := 16) rfl rfl (by rw [h.size]; show 16 < 34; decide) e16, .bool true, w, ?_, gb_refl _ _, rfl⟩
                clear h
                simp only [execOp, Act.eval, e18]
                go_simp
              refine ⟨Fg.value rfl fun ac w h => ?_, ?_⟩
              · have e19 : ac.tmps.getD 19 undef = .bool true := h.dep 19 (by kernel_rfl)
                have e0 : ac.tmps.getD 0 undef = .slice (some ⟨pb, po, none⟩) n cap := h.rest 0 (by kernel_rfl)
                refine ⟨wants_some (d := 19) rfl rfl (by rw [h.size]; show 19 < 34; decide) e19, .slice (some ⟨pb, po, none⟩) n cap, w, ?_, gb_refl _ _, rfl⟩
                clear h
                simp only [execOp, Act.eval, e0]
                go_simp
              refine ⟨Fg.value rfl fun ac w h => ?_, ?_⟩
              · have e19 : ac.tmps.getD 19 undef = .bool true := h.dep 19 (by kernel_rfl)
                have e3 : ac.tmps.getD 3 undef = .int .i64 (k : Int) := h.rest 3 (by kernel_rfl)
                refine ⟨wants_some (d := 19) rfl rfl (by rw [h.size]; show 19 < 34; decide) e19, .int .i64 (k : Int), w, ?_, gb_refl _ _, rfl⟩
                clear h
                simp only [execOp, Act.eval, e3]
                go_simp
              refine ⟨Fg.value rfl fun ac w h => ?_, ?_⟩
              · have e19 : ac.tmps.getD 19 undef = .bool true := h.dep 19 (by kernel_rfl)
                have e21 : ac.tmps.getD 21 undef = .int .i64 (k : Int) := h.dep 21 (by kernel_rfl)
                refine ⟨wants_some (d := 19) rfl rfl (by rw [h.size]; show 19 < 34; decide) e19, .int .i64 (q : Int), w, ?_, gb_refl _ _, rfl⟩
                clear h
                simp only [execOp, Act.eval, e21]
                go_simp
              refine ⟨Fg.value rfl fun ac w h => ?_, ?_⟩
              · have e19 : ac.tmps.getD 19 undef = .bool true := h.dep 19 (by kernel_rfl)
                have e20 : ac.tmps.getD 20 undef = .slice (some ⟨pb, po, none⟩) n cap := h.dep 20 (by kernel_rfl)
                have e22 : ac.tmps.getD 22 undef = .int .i64 (q : Int) := h.dep 22 (by kernel_rfl)
                refine ⟨wants_some (d := 19) rfl rfl (by rw [h.size]; show 19 < 34; decide) e19, .pointer (some ⟨pb, po + q * 2, none⟩), w, ?_, gb_refl _ _, rfl⟩
                clear h
                simp only [execOp, Act.eval, e20, e22]
                go_simp
              refine ⟨Fg.value rfl fun ac w h => ?_, ?_⟩
              · have e19 : ac.tmps.getD 19 undef = .bool true := h.dep 19 (by kernel_rfl)
                have e23 : ac.tmps.getD 23 undef = .pointer (some ⟨pb, po + q * 2, none⟩) := h.dep 23 (by kernel_rfl)
                refine ⟨wants_some (d := 19) rfl rfl (by rw [h.size]; show 19 < 34; decide) e19, .pointer (some ⟨pb, po + q * 2, none⟩), w, ?_, gb_refl _ _, rfl⟩
                clear h
                simp only [execOp, Act.eval, e23]
                go_simp
              refine ⟨Fg.value rfl fun ac w h => ?_, ?_⟩
              · have e19 : ac.tmps.getD 19 undef = .bool true := h.dep 19 (by kernel_rfl)
                have e24 : ac.tmps.getD 24 undef = .pointer (some ⟨pb, po + q * 2, none⟩) := h.dep 24 (by kernel_rfl)
                have c1 := (HK2.out h.base).2
                refine ⟨wants_some (d := 19) rfl rfl (by rw [h.size]; show 19 < 34; decide) e19, iV px, w, ?_, gb_refl _ _, rfl⟩
                clear h
                simp only [execOp, Act.eval, e24]
                go_simp
              refine ⟨Fg.value rfl fun ac w h => ?_, ?_⟩
              · have e19 : ac.tmps.getD 19 undef = .bool true := h.dep 19 (by kernel_rfl)
                have e0 : ac.tmps.getD 0 undef = .slice (some ⟨pb, po, none⟩) n cap := h.rest 0 (by kernel_rfl)
                refine ⟨wants_some (d := 19) rfl rfl (by rw [h.size]; show 19 < 34; decide) e19, .slice (some ⟨pb, po, none⟩) n cap, w, ?_, gb_refl _ _, rfl⟩
                clear h
                simp only [execOp, Act.eval, e0]
                go_simp
              refine ⟨Fg.value rfl fun ac w h => ?_, ?_⟩
              · have e19 : ac.tmps.getD 19 undef = .bool true := h.dep 19 (by kernel_rfl)
                have e3 : ac.tmps.getD 3 undef = .int .i64 (k : Int) := h.rest 3 (by kernel_rfl)
                refine ⟨wants_some (d := 19) rfl rfl (by rw [h.size]; show 19 < 34; decide) e19, .int .i64 (k : Int), w, ?_, gb_refl _ _, rfl⟩
                clear h
                simp only [execOp, Act.eval, e3]
                go_simp
              refine ⟨Fg.value rfl fun ac w h => ?_, ?_⟩
              · have e19 : ac.tmps.getD 19 undef = .bool true := h.dep 19 (by kernel_rfl)
                have e26 : ac.tmps.getD 26 undef = .slice (some ⟨pb, po, none⟩) n cap := h.dep 26 (by kernel_rfl)
                have e27 : ac.tmps.getD 27 undef = .int .i64 (k : Int) := h.dep 27 (by kernel_rfl)
                refine ⟨wants_some (d := 19) rfl rfl (by rw [h.size]; show 19 < 34; decide) e19, .pointer (some ⟨pb, po + k * 2, none⟩), w, ?_, gb_refl _ _, rfl⟩
                clear h
                simp only [execOp, Act.eval, e26, e27]
                go_simp
              refine ⟨Fg.value rfl fun ac w h => ?_, ?_⟩
              · have e19 : ac.tmps.getD 19 undef = .bool true := h.dep 19 (by kernel_rfl)
                have e28 : ac.tmps.getD 28 undef = .pointer (some ⟨pb, po + k * 2, none⟩) := h.dep 28 (by kernel_rfl)
                refine ⟨wants_some (d := 19) rfl rfl (by rw [h.size]; show 19 < 34; decide) e19, .pointer (some ⟨pb, po + k * 2, none⟩), w, ?_, gb_refl _ _, rfl⟩
                clear h
                simp only [execOp, Act.eval, e28]
                go_simp
              refine ⟨Fg.value rfl fun ac w h => ?_, ?_⟩
              · have e19 : ac.tmps.getD 19 undef = .bool true := h.dep 19 (by kernel_rfl)
                have e29 : ac.tmps.getD 29 undef = .pointer (some ⟨pb, po + k * 2, none⟩) := h.dep 29 (by kernel_rfl)
                have c1 := (HK2.out h.base).1
                refine ⟨wants_some (d := 19) rfl rfl (by rw [h.size]; show 19 < 34; decide) e19, iV x, w, ?_, gb_refl _ _, rfl⟩
                clear h
                simp only [execOp, Act.eval, e29]
                go_simp
              refine ⟨Fg.value rfl fun ac w h => ?_, ?_⟩
              · have e19 : ac.tmps.getD 19 undef = .bool true := h.dep 19 (by kernel_rfl)
                have e25 : ac.tmps.getD 25 undef = iV px := h.dep 25 (by kernel_rfl)
                have e30 : ac.tmps.getD 30 undef = iV x := h.dep 30 (by kernel_rfl)
                refine ⟨wants_some (d := 19) rfl rfl (by rw [h.size]; show 19 < 34; decide) e19, .bool true, w, ?_, gb_refl _ _, rfl⟩
                clear h
                simp only [execOp, Act.eval, e25, e30]
                go_simp
              refine ⟨Fg.value rfl fun ac w h => ?_, ?_⟩
              · have e16 : ac.tmps.getD 16 undef = .bool false := h.dep 16 (by kernel_rfl)
                have e19 : ac.tmps.getD 19 undef = .bool true := h.dep 19 (by kernel_rfl)
                have e31 : ac.tmps.getD 31 undef = .bool true := h.dep 31 (by kernel_rfl)
                refine ⟨wants_some (d := 16) rfl rfl (by rw [h.size]; show 16 < 34; decide) e16, .bool true, w, ?_, gb_refl _ _, rfl⟩
                clear h
                simp only [execOp, Act.eval, e19, e31]
                go_simp
              refine ⟨Fg.value rfl fun ac w h => ?_, ?_⟩
              · have e16 : ac.tmps.getD 16 undef = .bool false := h.dep 16 (by kernel_rfl)
                have e32 : ac.tmps.getD 32 undef = .bool true := h.dep 32 (by kernel_rfl)
                refine ⟨wants_none rfl, .bool true, w, ?_, gb_refl _ _, rfl⟩
                clear h
                simp only [execOp, Act.eval, e16, e32]
                go_simp
              trivial
            · intro aq wq hB hsz hdf hrest hslots _
              obtain ⟨u10, hs10⟩ : ∃ u, aq.tmps.getD 10 undef = u := ⟨_, rfl⟩
              obtain ⟨u11, hs11⟩ : ∃ u, aq.tmps.getD 11 undef = u := ⟨_, rfl⟩
              obtain ⟨u12, hs12⟩ : ∃ u, aq.tmps.getD 12 undef = u := ⟨_, rfl⟩
              obtain ⟨u13, hs13⟩ : ∃ u, aq.tmps.getD 13 undef = u := ⟨_, rfl⟩
              obtain ⟨u14, hs14⟩ : ∃ u, aq.tmps.getD 14 undef = u := ⟨_, rfl⟩
              obtain ⟨u15, hs15⟩ : ∃ u, aq.tmps.getD 15 undef = u := ⟨_, rfl⟩
              obtain ⟨u16, hs16⟩ : ∃ u, aq.tmps.getD 16 undef = u := ⟨_, rfl⟩
              obtain ⟨u17, hs17⟩ : ∃ u, aq.tmps.getD 17 undef = u := ⟨_, rfl⟩
              obtain ⟨u18, hs18⟩ : ∃ u, aq.tmps.getD 18 undef = u := ⟨_, rfl⟩
              obtain ⟨u19, hs19⟩ : ∃ u, aq.tmps.getD 19 undef = u := ⟨_, rfl⟩
              obtain ⟨u20, hs20⟩ : ∃ u, aq.tmps.getD 20 undef = u := ⟨_, rfl⟩
              obtain ⟨u21, hs21⟩ : ∃ u, aq.tmps.getD 21 undef = u := ⟨_, rfl⟩
              obtain ⟨u22, hs22⟩ : ∃ u, aq.tmps.getD 22 undef = u := ⟨_, rfl⟩
              obtain ⟨u23, hs23⟩ : ∃ u, aq.tmps.getD 23 undef = u := ⟨_, rfl⟩
              obtain ⟨u24, hs24⟩ : ∃ u, aq.tmps.getD 24 undef = u := ⟨_, rfl⟩
              obtain ⟨u25, hs25⟩ : ∃ u, aq.tmps.getD 25 undef = u := ⟨_, rfl⟩
              obtain ⟨u26, hs26⟩ : ∃ u, aq.tmps.getD 26 undef = u := ⟨_, rfl⟩
              obtain ⟨u27, hs27⟩ : ∃ u, aq.tmps.getD 27 undef = u := ⟨_, rfl⟩
              obtain ⟨u28, hs28⟩ : ∃ u, aq.tmps.getD 28 undef = u := ⟨_, rfl⟩
              obtain ⟨u29, hs29⟩ : ∃ u, aq.tmps.getD 29 undef = u := ⟨_, rfl⟩
              obtain ⟨u30, hs30⟩ : ∃ u, aq.tmps.getD 30 undef = u := ⟨_, rfl⟩
              obtain ⟨u31, hs31⟩ : ∃ u, aq.tmps.getD 31 undef = u := ⟨_, rfl⟩
              obtain ⟨u32, hs32⟩ : ∃ u, aq.tmps.getD 32 undef = u := ⟨_, rfl⟩
              obtain rfl := Fg.frame_is (a := aq) (vs := [Value.slice (some ⟨pb, po, none⟩) n cap, undef, u2, Value.int .i64 (k : Int), Value.int .i64 (k : Int), Value.slice (some ⟨pb, po, none⟩) n cap, Value.int .i64 (n : Int), Value.bool true, u8, u9, u10, u11, u12, u13, u14, u15, u16, u17, u18, u19, u20, u21, u22, u23, u24, u25, u26, u27, u28, u29, u30, u31, u32, Value.bool true]) hsz ⟨hrest 0 (by kernel_rfl), hrest 1 (by kernel_rfl), hrest 2 (by kernel_rfl), hrest 3 (by kernel_rfl), hrest 4 (by kernel_rfl), hrest 5 (by kernel_rfl), hrest 6 (by kernel_rfl), hrest 7 (by kernel_rfl), hrest 8 (by kernel_rfl), hrest 9 (by kernel_rfl), hs10, hs11, hs12, hs13, hs14, hs15, hs16, hs17, hs18, hs19, hs20, hs21, hs22, hs23, hs24, hs25, hs26, hs27, hs28, hs29, hs30, hs31, hs32, (show aq.tmps.getD 33 undef = Value.bool true from hslots 33 (by kernel_rfl)), trivial⟩ hdf
              have hB0 := Lib.hid hB
              clear hB hsz hdf hrest hslots hs10 hs11 hs12 hs13 hs14 hs15 hs16 hs17 hs18 hs19 hs20 hs21 hs22 hs23 hs24 hs25 hs26 hs27 hs28 hs29 hs30 hs31 hs32
              go_wp2
              go_ret
              exact ⟨by rw [HRR.out]; rfl, gb_trans HI.out.1 hB0.out⟩
      · have hokf : okD (x, y) = false := by simpa using hok
        have hD := Lib.hid (fun W => refDot_any false x y W hokf)
        have hr : R = false := by
          have e := HX.out.1
          by_cases h0 : 1 ≤ x
          · have : (decide (x ≤ 8) && decide (1 ≤ y) && decide (y ≤ 1073741824)) = false := by
              rw [okD, decide_eq_true h0] at hokf; simpa using hokf
            rw [e]
            simp only [Bool.and_assoc] at this ⊢
            rw [show (decide (x ≤ 8) && (decide (1 ≤ y) && (decide (y ≤ 1073741824) && rtB (pv l (k + 1)) (l.drop (k + 1))))) = ((decide (x ≤ 8) && (decide (1 ≤ y) && decide (y ≤ 1073741824))) && rtB (pv l (k + 1)) (l.drop (k + 1))) by simp only [Bool.and_assoc], this]
            simp
          · have := HI.out.2.1
            rw [e, decide_eq_false (show ¬ pv l k < x by omega)]; rfl
        have HRR := Lib.hid hr; clear hr hok hokf hcs
        go_wp2_with fail
        refine wp_region_flow3 (Fg.its [.any, .any, .any, .any, .any, .any, .any, .any, .any, .any, .val (.slice (some ⟨pb, po, none⟩) n cap), .val (.int .i64 (k : Int)), .val (.pointer (some ⟨pb, po + k * 2, none⟩)), .val (.agg #[iV x, iV y]), .val (.bool false), .val (.bool true), .val (.bool true), .val undef, .val undef, .val undef, .val undef, .val undef, .val undef, .val undef, .val undef, .val undef, .val undef, .val undef, .val undef, .val undef, .val undef, .val undef, .val undef, .val (.bool true)]) (fun _ => 0) (fun _ _ _ => True) (fun w => World.grownBy wr w none) [] (by kernel_rfl) (by kernel_rfl) (by kernel_rfl) (gb_drew (gb_refl _ _)) (Fg.ptrs_nil _ _) (Fg.no_store (by kernel_rfl)) ?_ ?_
        · refine ⟨Fg.value rfl fun ac w h => ?_, ?_⟩
          · have e0 : ac.tmps.getD 0 undef = .slice (some ⟨pb, po, none⟩) n cap := h.rest 0 (by kernel_rfl)
            refine ⟨wants_none rfl, .slice (some ⟨pb, po, none⟩) n cap, w, ?_, gb_refl _ _, rfl⟩
            clear h
            simp only [execOp, Act.eval, e0]
            go_simp
          refine ⟨Fg.value rfl fun ac w h => ?_, ?_⟩
          · have e3 : ac.tmps.getD 3 undef = .int .i64 (k : Int) := h.rest 3 (by kernel_rfl)
            refine ⟨wants_none rfl, .int .i64 (k : Int), w, ?_, gb_refl _ _, rfl⟩
            clear h
            simp only [execOp, Act.eval, e3]
            go_simp
          refine ⟨Fg.value rfl fun ac w h => ?_, ?_⟩
          · have e10 : ac.tmps.getD 10 undef = .slice (some ⟨pb, po, none⟩) n cap := h.dep 10 (by kernel_rfl)
            have e11 : ac.tmps.getD 11 undef = .int .i64 (k : Int) := h.dep 11 (by kernel_rfl)
            refine ⟨wants_none rfl, .pointer (some ⟨pb, po + k * 2, none⟩), w, ?_, gb_refl _ _, rfl⟩
            clear h
            simp only [execOp, Act.eval, e10, e11]
            go_simp
          refine ⟨Fg.value rfl fun ac w h => ?_, ?_⟩
          · have e12 : ac.tmps.getD 12 undef = .pointer (some ⟨pb, po + k * 2, none⟩) := h.dep 12 (by kernel_rfl)
            have c1 := (HK1.out h.base).1
            have c2 := (HK1.out h.base).2
            refine ⟨wants_none rfl, .agg #[iV x, iV y], w, ?_, gb_refl _ _, rfl⟩
            clear h
            simp only [execOp, Act.eval, e12]
            go_simp
          refine ⟨Fg.call rfl fun ac w h => ?_, ?_⟩
          · have e13 : ac.tmps.getD 13 undef = .agg #[iV x, iV y] := h.dep 13 (by kernel_rfl)
            have x13 : ac.tmps[13]?.getD undef = .agg #[iV x, iV y] := by simpa using e13
            have hb := h.base
            refine ⟨wants_none rfl, 25, #[.agg #[iV x, iV y]], ?_, ?_⟩
            · clear h hb e13
              go_simp
            · refine (hD.out w).mono ?_
              intro e w1 hp
              obtain ⟨rfl, hg⟩ := hp
              exact ⟨_, rfl, hg, rfl⟩
          refine ⟨Fg.value rfl fun ac w h => ?_, ?_⟩
          · have e14 : ac.tmps.getD 14 undef = .bool false := h.dep 14 (by kernel_rfl)
            refine ⟨wants_none rfl, .bool true, w, ?_, gb_refl _ _, rfl⟩
            clear h
            simp only [execOp, Act.eval, e14]
            go_simp
          refine ⟨Fg.value rfl fun ac w h => ?_, ?_⟩
          · have e15 : ac.tmps.getD 15 undef = .bool true := h.dep 15 (by kernel_rfl)
            refine ⟨wants_none rfl, .bool true, w, ?_, gb_refl _ _, rfl⟩
            clear h
            simp only [execOp, Act.eval, e15]
            go_simp
          refine ⟨Fg.skipped rfl (fun _ => rfl) fun ac w h => ?_, ?_⟩
          · have e16 : ac.tmps.getD 16 undef = .bool true := h.dep 16 (by kernel_rfl)
            exact not_wants (d := 16) rfl rfl (by rw [h.size]; show 16 < 34; decide) e16 (by decide)
          refine ⟨Fg.skipped rfl (fun _ => rfl) fun ac w h => ?_, ?_⟩
          · have e16 : ac.tmps.getD 16 undef = .bool true := h.dep 16 (by kernel_rfl)
            exact not_wants (d := 16) rfl rfl (by rw [h.size]; show 16 < 34; decide) e16 (by decide)
          refine ⟨Fg.skipped rfl (fun _ => rfl) fun ac w h => ?_, ?_⟩
          · have e16 : ac.tmps.getD 16 undef = .bool true := h.dep 16 (by kernel_rfl)
            exact not_wants (d := 16) rfl rfl (by rw [h.size]; show 16 < 34; decide) e16 (by decide)
          refine ⟨Fg.skipped rfl (fun _ => rfl) fun ac w h => ?_, ?_⟩
          · have e19 : ac.tmps.getD 19 undef = undef := h.dep 19 (by kernel_rfl)
            exact Fg.not_wants_undef (d := 19) rfl rfl (by rw [h.size]; show 19 < 34; decide) e19
          refine ⟨Fg.skipped rfl (fun _ => rfl) fun ac w h => ?_, ?_⟩
          · have e19 : ac.tmps.getD 19 undef = undef := h.dep 19 (by kernel_rfl)
            exact Fg.not_wants_undef (d := 19) rfl rfl (by rw [h.size]; show 19 < 34; decide) e19
          refine ⟨Fg.skipped rfl (fun _ => rfl) fun ac w h => ?_, ?_⟩
          · have e19 : ac.tmps.getD 19 undef = undef := h.dep 19 (by kernel_rfl)
            exact Fg.not_wants_undef (d := 19) rfl rfl (by rw [h.size]; show 19 < 34; decide) e19
          refine ⟨Fg.skipped rfl (fun _ => rfl) fun ac w h => ?_, ?_⟩
          · have e19 : ac.tmps.getD 19 undef = undef := h.dep 19 (by kernel_rfl)
            exact Fg.not_wants_undef (d := 19) rfl rfl (by rw [h.size]; show 19 < 34; decide) e19
          refine ⟨Fg.skipped rfl (fun _ => rfl) fun ac w h => ?_, ?_⟩
          · have e19 : ac.tmps.getD 19 undef = undef := h.dep 19 (by kernel_rfl)
            exact Fg.not_wants_undef (d := 19) rfl rfl (by rw [h.size]; show 19 < 34; decide) e19
          refine ⟨Fg.skipped rfl (fun _ => rfl) fun ac w h => ?_, ?_⟩
          · have e19 : ac.tmps.getD 19 undef = undef := h.dep 19 (by kernel_rfl)
            exact Fg.not_wants_undef (d := 19) rfl rfl (by rw [h.size]; show 19 < 34; decide) e19
          refine ⟨Fg.skipped rfl (fun _ => rfl) fun ac w h => ?_, ?_⟩
          · have e19 : ac.tmps.getD 19 undef = undef := h.dep 19 (by kernel_rfl)
            exact Fg.not_wants_undef (d := 19) rfl rfl (by rw [h.size]; show 19 < 34; decide) e19
          refine ⟨Fg.skipped rfl (fun _ => rfl) fun ac w h => ?_, ?_⟩
          · have e19 : ac.tmps.getD 19 undef = undef := h.dep 19 (by kernel_rfl)
            exact Fg.not_wants_undef (d := 19) rfl rfl (by rw [h.size]; show 19 < 34; decide) e19
          refine ⟨Fg.skipped rfl (fun _ => rfl) fun ac w h => ?_, ?_⟩
          · have e19 : ac.tmps.getD 19 undef = undef := h.dep 19 (by kernel_rfl)
            exact Fg.not_wants_undef (d := 19) rfl rfl (by rw [h.size]; show 19 < 34; decide) e19
          refine ⟨Fg.skipped rfl (fun _ => rfl) fun ac w h => ?_, ?_⟩
          · have e19 : ac.tmps.getD 19 undef = undef := h.dep 19 (by kernel_rfl)
            exact Fg.not_wants_undef (d := 19) rfl rfl (by rw [h.size]; show 19 < 34; decide) e19
          refine ⟨Fg.skipped rfl (fun _ => rfl) fun ac w h => ?_, ?_⟩
          · have e19 : ac.tmps.getD 19 undef = undef := h.dep 19 (by kernel_rfl)
            exact Fg.not_wants_undef (d := 19) rfl rfl (by rw [h.size]; show 19 < 34; decide) e19
          refine ⟨Fg.skipped rfl (fun _ => rfl) fun ac w h => ?_, ?_⟩
          · have e19 : ac.tmps.getD 19 undef = undef := h.dep 19 (by kernel_rfl)
            exact Fg.not_wants_undef (d := 19) rfl rfl (by rw [h.size]; show 19 < 34; decide) e19
          refine ⟨Fg.skipped rfl (fun _ => rfl) fun ac w h => ?_, ?_⟩
          · have e16 : ac.tmps.getD 16 undef = .bool true := h.dep 16 (by kernel_rfl)
            exact not_wants (d := 16) rfl rfl (by rw [h.size]; show 16 < 34; decide) e16 (by decide)
          refine ⟨Fg.value rfl fun ac w h => ?_, ?_⟩
          · have e16 : ac.tmps.getD 16 undef = .bool true := h.dep 16 (by kernel_rfl)
            refine ⟨wants_none rfl, .bool true, w, ?_, gb_refl _ _, rfl⟩
            clear h
            simp only [execOp, Act.eval, e16]
            go_simp
          trivial
        · intro aq wq hB hsz hdf hrest hslots _
          obtain ⟨u10, hs10⟩ : ∃ u, aq.tmps.getD 10 undef = u := ⟨_, rfl⟩
          obtain ⟨u11, hs11⟩ : ∃ u, aq.tmps.getD 11 undef = u := ⟨_, rfl⟩
          obtain ⟨u12, hs12⟩ : ∃ u, aq.tmps.getD 12 undef = u := ⟨_, rfl⟩
          obtain ⟨u13, hs13⟩ : ∃ u, aq.tmps.getD 13 undef = u := ⟨_, rfl⟩
          obtain ⟨u14, hs14⟩ : ∃ u, aq.tmps.getD 14 undef = u := ⟨_, rfl⟩
          obtain ⟨u15, hs15⟩ : ∃ u, aq.tmps.getD 15 undef = u := ⟨_, rfl⟩
          obtain ⟨u16, hs16⟩ : ∃ u, aq.tmps.getD 16 undef = u := ⟨_, rfl⟩
          obtain ⟨u17, hs17⟩ : ∃ u, aq.tmps.getD 17 undef = u := ⟨_, rfl⟩
          obtain ⟨u18, hs18⟩ : ∃ u, aq.tmps.getD 18 undef = u := ⟨_, rfl⟩
          obtain ⟨u19, hs19⟩ : ∃ u, aq.tmps.getD 19 undef = u := ⟨_, rfl⟩
          obtain ⟨u20, hs20⟩ : ∃ u, aq.tmps.getD 20 undef = u := ⟨_, rfl⟩
          obtain ⟨u21, hs21⟩ : ∃ u, aq.tmps.getD 21 undef = u := ⟨_, rfl⟩
          obtain ⟨u22, hs22⟩ : ∃ u, aq.tmps.getD 22 undef = u := ⟨_, rfl⟩
          obtain ⟨u23, hs23⟩ : ∃ u, aq.tmps.getD 23 undef = u := ⟨_, rfl⟩
          obtain ⟨u24, hs24⟩ : ∃ u, aq.tmps.getD 24 undef = u := ⟨_, rfl⟩
          obtain ⟨u25, hs25⟩ : ∃ u, aq.tmps.getD 25 undef = u := ⟨_, rfl⟩
          obtain ⟨u26, hs26⟩ : ∃ u, aq.tmps.getD 26 undef = u := ⟨_, rfl⟩
          obtain ⟨u27, hs27⟩ : ∃ u, aq.tmps.getD 27 undef = u := ⟨_, rfl⟩
          obtain ⟨u28, hs28⟩ : ∃ u, aq.tmps.getD 28 undef = u := ⟨_, rfl⟩
          obtain ⟨u29, hs29⟩ : ∃ u, aq.tmps.getD 29 undef = u := ⟨_, rfl⟩
          obtain ⟨u30, hs30⟩ : ∃ u, aq.tmps.getD 30 undef = u := ⟨_, rfl⟩
          obtain ⟨u31, hs31⟩ : ∃ u, aq.tmps.getD 31 undef = u := ⟨_, rfl⟩
          obtain ⟨u32, hs32⟩ : ∃ u, aq.tmps.getD 32 undef = u := ⟨_, rfl⟩
          obtain rfl := Fg.frame_is (a := aq) (vs := [Value.slice (some ⟨pb, po, none⟩) n cap, undef, u2, Value.int .i64 (k : Int), Value.int .i64 (k : Int), Value.slice (some ⟨pb, po, none⟩) n cap, Value.int .i64 (n : Int), Value.bool true, u8, u9, u10, u11, u12, u13, u14, u15, u16, u17, u18, u19, u20, u21, u22, u23, u24, u25, u26, u27, u28, u29, u30, u31, u32, Value.bool true]) hsz ⟨hrest 0 (by kernel_rfl), hrest 1 (by kernel_rfl), hrest 2 (by kernel_rfl), hrest 3 (by kernel_rfl), hrest 4 (by kernel_rfl), hrest 5 (by kernel_rfl), hrest 6 (by kernel_rfl), hrest 7 (by kernel_rfl), hrest 8 (by kernel_rfl), hrest 9 (by kernel_rfl), hs10, hs11, hs12, hs13, hs14, hs15, hs16, hs17, hs18, hs19, hs20, hs21, hs22, hs23, hs24, hs25, hs26, hs27, hs28, hs29, hs30, hs31, hs32, (show aq.tmps.getD 33 undef = Value.bool true from hslots 33 (by kernel_rfl)), trivial⟩ hdf
          have hB0 := Lib.hid hB
          clear hB hsz hdf hrest hslots hs10 hs11 hs12 hs13 hs14 hs15 hs16 hs17 hs18 hs19 hs20 hs21 hs22 hs23 hs24 hs25 hs26 hs27 hs28 hs29 hs30 hs31 hs32
          go_wp2
          go_ret
          exact ⟨by rw [HRR.out]; rfl, gb_trans HI.out.1 hB0.out⟩
    · obtain rfl : k = n := by omega
      have hr : R = true := by rw [HI.out.2.2, drop_end l k (by rw [HN.out]; omega)]; rfl
      have HRT := Lib.hid hr; clear hr
      go_wp2
      go_ret
      exact ⟨by rw [HRT.out]; rfl, HI.out.1⟩
end Ve
end Go.Proofs.YtkffbaihknhefaaGreat
