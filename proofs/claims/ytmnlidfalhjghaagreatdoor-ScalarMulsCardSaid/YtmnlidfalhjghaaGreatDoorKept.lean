/- The kit's KeptBytes: lent bytes, and the marks behind them, are as they were. -/
import Derived.Test.YtmnlidfalhjghaaGreatDoorLent
import Derived.Test.YtmnlidfalhjghaaGreatDoorFlowG
namespace Go.Proofs.YtmnlidfalhjghaaGreatDoor
open Go.RowKit Ow

set_option maxRecDepth 100000 in
set_option maxHeartbeats 4000000 in
theorem keptB_any {f : Nat → Nat → Nat} (hf : Marks f) (n cap B g : Nat) (p : List Nat) (a : Option Addr) (w : World) (hn : p.length = n) (hP : BytesAt w B a cap p) (hlen : n ≤ 30000) (hG : Blk w g 5 ((p ++ marksOf f 1 12).map u8N)) :
    Calls Tryz.prog 16 #[.slice (some ⟨g, 0, none⟩) n (n + 12), .slice a n cap] w fun e w' => e = .returned (.bool true) ∧ w.grownBy w' none := by
  have hnc := hP.fits
  rw [hn] at hnc
  have hcap := hP.top
  have HF := Lib.hid hf; clear hf
  have hgb : BytesAt w w.heap.size (some ⟨g, 0, none⟩) (n + 12) (p ++ marksOf f 1 12) := by
    refine blk_bytes (n := n + 12) (tl := []) (by rw [List.append_nil]; exact hG) (by rw [List.length_append, marksOf_length, hn]) (Nat.le_refl _) (by omega) (fun i => ?_) hG.lt (Nat.le_refl _)
    rw [List.getD_eq_getElem?_getD]
    rcases Nat.lt_or_ge i p.length with h | h
    · rw [List.getElem?_append_left h, ← List.getD_eq_getElem?_getD]; exact hP.byte i
    · rw [List.getElem?_append_right h, ← List.getD_eq_getElem?_getD]; exact marksOf_lt HF.out _ _ _
  have HP := Lib.hid (And.intro hn (And.intro hP (And.intro hG hgb))); clear hn hP hG hgb
  go_enter Tryz.func16, Tryz.ntmps16
  go_wp2
  go_loopw [6] (fun i wr => ∃ k : Nat, k ≤ n + 12 ∧ i = .int .i64 k ∧ w.grownBy wr none) (fun i _ => n + 12 - (intOf i).toNat)
  case atStart => exact ⟨0, by omega, rfl, gb_refl _ _⟩
  case round =>
    obtain ⟨k, hk, rfl, hg⟩ := hrel
    by_cases hlt : k < n + 12
    · by_cases hkn : k < n
      · obtain ⟨pb, po, rfl, hpb, hc⟩ := HP.out.2.1.cells.resolve_left (by have := HP.out.1; omega)
        have kc : wr.cell? ⟨pb, po + k, none⟩ = some (u8N (p.getD k 0)) := by rw [gb_cell hg (p := ⟨pb, po + k, none⟩) (Nat.lt_of_lt_of_le hpb HP.out.2.1.lim) (by simp)]; exact hc k (by have := HP.out.1; omega)
        have kg : wr.cell? ⟨g, k, none⟩ = some (u8N (p.getD k 0)) := by
          apply (HP.out.2.2.1.grown hg (by simp)).cell
          rw [List.map_append, List.getElem?_append_left (by rw [List.length_map]; have := HP.out.1; omega)]
          exact u8_getD (by have := HP.out.1; omega)
        unfold u8N at kg kc
        clear hc
        generalize p.getD k 0 = x at *
        have HG := Lib.hid hg; clear hg
        have i0 : (k : Int) < (n : Int) := by omega
        have i1 : (k : Int) < (n : Int) + 12 := by omega
        have i2 : decide (n ≤ k) = false := by simp; omega
        go_wp2_with fail
        go_quiet (fail)
        go_wp2
        go_roundw
        case rel => exact ⟨k + 1, by omega, by go_num, gb_drewN HG.out _⟩
        case measure => simp [intOf]; omega
      · obtain ⟨t, ht⟩ : ∃ t, k = n + t := ⟨k - n, by omega⟩
        have t12 : t < 12 := by omega
        obtain ⟨y, hy⟩ : ∃ y, y = f 1 t := ⟨_, rfl⟩
        have hck : ((p ++ marksOf f 1 12).map u8N)[k]? = some (.int .u8 (y : Int)) := by
          rw [List.map_append, List.getElem?_append_right (by rw [List.length_map]; have := HP.out.1; omega), List.length_map, HP.out.1, show k - n = t by omega]
          have h := u8_getD (l := marksOf f 1 12) (i := t) (by rw [marksOf_length]; exact t12)
          rw [marksOf_get f 1 12 t t12, ← hy] at h
          exact h
        have hmb := fun W => (HF.out.run 1 t 1 t W rfl rfl (by decide) (by omega)).mono (fun e w' h => (And.intro h.1 (by rw [h.2]; exact gb_refl _ _) : _ ∧ W.grownBy w' none))
        rw [← hy] at hmb
        have HMB := Lib.hid hmb; clear hmb
        have HCK := Lib.hid hck; clear hck
        have HPB := Lib.hid (HP.out.2.1.stay hg)
        have HGB := Lib.hid (HP.out.2.2.2.stay hg)
        have HGW := Lib.hid (HP.out.2.2.1.grown hg (by simp))
        have HG := Lib.hid hg; clear hg
        have e1 : IntKind.i64.wrap ((k : Int) - (n : Int)) = (t : Int) := by rw [IntKind.wrap_i64]; omega
        have e2 : (k : Int) - (n : Int) = (t : Int) := by omega
        have e3 : IntKind.i64.wrap (t : Int) = (t : Int) := by rw [IntKind.wrap_i64]; omega
        have HTY := Lib.hid (And.intro ht hy); clear ht hy
        have i0 : ¬ (k : Int) < (n : Int) := by omega
        have i3 : (n : Int) ≤ (k : Int) := by omega
        have i1 : (k : Int) < (n : Int) + 12 := by omega
        go_wp2_with fail
        refine wp_region_flow3 (Fg.its [.any, .any, .any, .any, .any, .any, .any, .any, .any, .any, .any, .any, .any, .any, .any, .any, .any, .any, .any, .any, .any, .any, .any, .val (.int .i64 (k : Int)), .val (.slice a n cap), .val (.int .i64 n), .val (.bool false), .val (.bool false), .val undef, .val undef, .val undef, .val undef, .val undef, .val undef, .val undef, .val undef, .val undef, .val undef, .val (.bool false), .val (.bool false), .val (.int .i64 (k : Int)), .val (.slice a n cap), .val (.int .i64 n), .val (.bool true), .val (.bool true), .val (.slice (some ⟨g, 0, none⟩) (n + 12) (n + 12)), .val (.int .i64 (k : Int)), .val (.pointer (some ⟨g, k, none⟩)), .val (.int .u8 (y : Int)), .val (.int .i64 (k : Int)), .val (.slice a n cap), .val (.int .i64 n), .val (.int .i64 (t : Int)), .val (.int .u8 (y : Int)), .val (.bool true), .val (.bool false), .val (.bool false), .val (.bool false)]) (fun _ => 0) (fun _ _ _ => True) (fun w => World.grownBy wr w none) [] (by kernel_rfl) (by kernel_rfl) (by kernel_rfl) (gb_drew (gb_refl _ _)) (Fg.ptrs_nil _ _) (Fg.no_store (by kernel_rfl)) ?_ ?_
        · refine ⟨Fg.value rfl fun ac w h => ?_, ?_⟩
          · have e6 : ac.tmps.getD 6 undef = .int .i64 (k : Int) := h.rest 6 (by kernel_rfl)
            refine ⟨wants_none rfl, .int .i64 (k : Int), w, ?_, gb_refl _ _, rfl⟩
            clear h
            simp only [execOp, Act.eval, e6]
            go_simp
          refine ⟨Fg.value rfl fun ac w h => ?_, ?_⟩
          · have e1 : ac.tmps.getD 1 undef = .slice a n cap := h.rest 1 (by kernel_rfl)
            have b1 := (HPB.out).stay h.base
            exact ⟨wants_none rfl, _, w, by simp only [execOp, Act.eval, e1]; rfl, gb_refl _ _, rfl⟩
          refine ⟨Fg.value rfl fun ac w h => ?_, ?_⟩
          · have e24 : ac.tmps.getD 24 undef = .slice a n cap := h.dep 24 (by kernel_rfl)
            have b24 := (HPB.out).stay h.base
            have x24 : ac.tmps[24]?.getD undef = .slice a n cap := by simpa using e24
            refine ⟨wants_none rfl, .int .i64 n, w, ?_, gb_refl _ _, rfl⟩
            clear h e24
            go_simp
          refine ⟨Fg.value rfl fun ac w h => ?_, ?_⟩
          · have e23 : ac.tmps.getD 23 undef = .int .i64 (k : Int) := h.dep 23 (by kernel_rfl)
            have e25 : ac.tmps.getD 25 undef = .int .i64 n := h.dep 25 (by kernel_rfl)
            refine ⟨wants_none rfl, .bool false, w, ?_, gb_refl _ _, rfl⟩
            clear h
            simp only [execOp, Act.eval, e23, e25]
            go_simp
          refine ⟨Fg.value rfl fun ac w h => ?_, ?_⟩
          · have e26 : ac.tmps.getD 26 undef = .bool false := h.dep 26 (by kernel_rfl)
            refine ⟨wants_none rfl, .bool false, w, ?_, gb_refl _ _, rfl⟩
            clear h
            simp only [execOp, Act.eval, e26]
            go_simp
          refine ⟨Fg.skipped rfl (fun _ => rfl) fun ac w h => ?_, ?_⟩
          · have e27 : ac.tmps.getD 27 undef = .bool false := h.dep 27 (by kernel_rfl)
            exact not_wants (d := 27) rfl rfl (by rw [h.size]; show 27 < 58; decide) e27 (by decide)
          refine ⟨Fg.skipped rfl (fun _ => rfl) fun ac w h => ?_, ?_⟩
          · have e27 : ac.tmps.getD 27 undef = .bool false := h.dep 27 (by kernel_rfl)
            exact not_wants (d := 27) rfl rfl (by rw [h.size]; show 27 < 58; decide) e27 (by decide)
          refine ⟨Fg.skipped rfl (fun _ => rfl) fun ac w h => ?_, ?_⟩
          · have e27 : ac.tmps.getD 27 undef = .bool false := h.dep 27 (by kernel_rfl)
            exact not_wants (d := 27) rfl rfl (by rw [h.size]; show 27 < 58; decide) e27 (by decide)
          refine ⟨Fg.skipped rfl (fun _ => rfl) fun ac w h => ?_, ?_⟩
          · have e27 : ac.tmps.getD 27 undef = .bool false := h.dep 27 (by kernel_rfl)
            exact not_wants (d := 27) rfl rfl (by rw [h.size]; show 27 < 58; decide) e27 (by decide)
          refine ⟨Fg.skipped rfl (fun _ => rfl) fun ac w h => ?_, ?_⟩
          · have e27 : ac.tmps.getD 27 undef = .bool false := h.dep 27 (by kernel_rfl)
            exact not_wants (d := 27) rfl rfl (by rw [h.size]; show 27 < 58; decide) e27 (by decide)
          refine ⟨Fg.skipped rfl (fun _ => rfl) fun ac w h => ?_, ?_⟩
          · have e27 : ac.tmps.getD 27 undef = .bool false := h.dep 27 (by kernel_rfl)
            exact not_wants (d := 27) rfl rfl (by rw [h.size]; show 27 < 58; decide) e27 (by decide)
          refine ⟨Fg.skipped rfl (fun _ => rfl) fun ac w h => ?_, ?_⟩
          · have e27 : ac.tmps.getD 27 undef = .bool false := h.dep 27 (by kernel_rfl)
            exact not_wants (d := 27) rfl rfl (by rw [h.size]; show 27 < 58; decide) e27 (by decide)
          refine ⟨Fg.skipped rfl (fun _ => rfl) fun ac w h => ?_, ?_⟩
          · have e27 : ac.tmps.getD 27 undef = .bool false := h.dep 27 (by kernel_rfl)
            exact not_wants (d := 27) rfl rfl (by rw [h.size]; show 27 < 58; decide) e27 (by decide)
          refine ⟨Fg.skipped rfl (fun _ => rfl) fun ac w h => ?_, ?_⟩
          · have e27 : ac.tmps.getD 27 undef = .bool false := h.dep 27 (by kernel_rfl)
            exact not_wants (d := 27) rfl rfl (by rw [h.size]; show 27 < 58; decide) e27 (by decide)
          refine ⟨Fg.skipped rfl (fun _ => rfl) fun ac w h => ?_, ?_⟩
          · have e27 : ac.tmps.getD 27 undef = .bool false := h.dep 27 (by kernel_rfl)
            exact not_wants (d := 27) rfl rfl (by rw [h.size]; show 27 < 58; decide) e27 (by decide)
          refine ⟨Fg.value rfl fun ac w h => ?_, ?_⟩
          · have e27 : ac.tmps.getD 27 undef = .bool false := h.dep 27 (by kernel_rfl)
            refine ⟨wants_none rfl, .bool false, w, ?_, gb_refl _ _, rfl⟩
            clear h
            simp only [execOp, Act.eval, e27]
            go_simp
          refine ⟨Fg.value rfl fun ac w h => ?_, ?_⟩
          · have e38 : ac.tmps.getD 38 undef = .bool false := h.dep 38 (by kernel_rfl)
            refine ⟨wants_none rfl, .bool false, w, ?_, gb_refl _ _, rfl⟩
            clear h
            simp only [execOp, Act.eval, e38]
            go_simp
          refine ⟨Fg.value rfl fun ac w h => ?_, ?_⟩
          · have e39 : ac.tmps.getD 39 undef = .bool false := h.dep 39 (by kernel_rfl)
            have e6 : ac.tmps.getD 6 undef = .int .i64 (k : Int) := h.rest 6 (by kernel_rfl)
            refine ⟨wants_some (d := 39) rfl rfl (by rw [h.size]; show 39 < 58; decide) e39, .int .i64 (k : Int), w, ?_, gb_refl _ _, rfl⟩
            clear h
            simp only [execOp, Act.eval, e6]
            go_simp
          refine ⟨Fg.value rfl fun ac w h => ?_, ?_⟩
          · have e39 : ac.tmps.getD 39 undef = .bool false := h.dep 39 (by kernel_rfl)
            have e1 : ac.tmps.getD 1 undef = .slice a n cap := h.rest 1 (by kernel_rfl)
            have b1 := (HPB.out).stay h.base
            exact ⟨wants_some (d := 39) rfl rfl (by rw [h.size]; show 39 < 58; decide) e39, _, w, by simp only [execOp, Act.eval, e1]; rfl, gb_refl _ _, rfl⟩
          refine ⟨Fg.value rfl fun ac w h => ?_, ?_⟩
          · have e39 : ac.tmps.getD 39 undef = .bool false := h.dep 39 (by kernel_rfl)
            have e41 : ac.tmps.getD 41 undef = .slice a n cap := h.dep 41 (by kernel_rfl)
            have b41 := (HPB.out).stay h.base
            have x41 : ac.tmps[41]?.getD undef = .slice a n cap := by simpa using e41
            refine ⟨wants_some (d := 39) rfl rfl (by rw [h.size]; show 39 < 58; decide) e39, .int .i64 n, w, ?_, gb_refl _ _, rfl⟩
            clear h e41
            go_simp
          refine ⟨Fg.value rfl fun ac w h => ?_, ?_⟩
          · have e39 : ac.tmps.getD 39 undef = .bool false := h.dep 39 (by kernel_rfl)
            have e40 : ac.tmps.getD 40 undef = .int .i64 (k : Int) := h.dep 40 (by kernel_rfl)
            have e42 : ac.tmps.getD 42 undef = .int .i64 n := h.dep 42 (by kernel_rfl)
            refine ⟨wants_some (d := 39) rfl rfl (by rw [h.size]; show 39 < 58; decide) e39, .bool true, w, ?_, gb_refl _ _, rfl⟩
            clear h
            simp only [execOp, Act.eval, e40, e42]
            go_simp
          refine ⟨Fg.value rfl fun ac w h => ?_, ?_⟩
          · have e39 : ac.tmps.getD 39 undef = .bool false := h.dep 39 (by kernel_rfl)
            have e43 : ac.tmps.getD 43 undef = .bool true := h.dep 43 (by kernel_rfl)
            refine ⟨wants_some (d := 39) rfl rfl (by rw [h.size]; show 39 < 58; decide) e39, .bool true, w, ?_, gb_refl _ _, rfl⟩
            clear h
            simp only [execOp, Act.eval, e43]
            go_simp
          refine ⟨Fg.value rfl fun ac w h => ?_, ?_⟩
          · have e44 : ac.tmps.getD 44 undef = .bool true := h.dep 44 (by kernel_rfl)
            have e5 : ac.tmps.getD 5 undef = .slice (some ⟨g, 0, none⟩) (n + 12) (n + 12) := h.rest 5 (by kernel_rfl)
            have b5 := (HGB.out).stay h.base
            exact ⟨wants_some (d := 44) rfl rfl (by rw [h.size]; show 44 < 58; decide) e44, _, w, by simp only [execOp, Act.eval, e5]; rfl, gb_refl _ _, rfl⟩
          refine ⟨Fg.value rfl fun ac w h => ?_, ?_⟩
          · have e44 : ac.tmps.getD 44 undef = .bool true := h.dep 44 (by kernel_rfl)
            have e6 : ac.tmps.getD 6 undef = .int .i64 (k : Int) := h.rest 6 (by kernel_rfl)
            refine ⟨wants_some (d := 44) rfl rfl (by rw [h.size]; show 44 < 58; decide) e44, .int .i64 (k : Int), w, ?_, gb_refl _ _, rfl⟩
            clear h
            simp only [execOp, Act.eval, e6]
            go_simp
          refine ⟨Fg.value rfl fun ac w h => ?_, ?_⟩
          · have e44 : ac.tmps.getD 44 undef = .bool true := h.dep 44 (by kernel_rfl)
            have e45 : ac.tmps.getD 45 undef = .slice (some ⟨g, 0, none⟩) (n + 12) (n + 12) := h.dep 45 (by kernel_rfl)
            have b45 := (HGB.out).stay h.base
            have e46 : ac.tmps.getD 46 undef = .int .i64 (k : Int) := h.dep 46 (by kernel_rfl)
            refine ⟨wants_some (d := 44) rfl rfl (by rw [h.size]; show 44 < 58; decide) e44, .pointer (some ⟨g, k, none⟩), w, ?_, gb_refl _ _, rfl⟩
            clear h
            simp only [execOp, Act.eval, e45, e46]
            go_simp
          refine ⟨Fg.value rfl fun ac w h => ?_, ?_⟩
          · have e44 : ac.tmps.getD 44 undef = .bool true := h.dep 44 (by kernel_rfl)
            have e47 : ac.tmps.getD 47 undef = .pointer (some ⟨g, k, none⟩) := h.dep 47 (by kernel_rfl)
            have c := (HGW.out.grown h.base (by simp)).cell HCK.out
            refine ⟨wants_some (d := 44) rfl rfl (by rw [h.size]; show 44 < 58; decide) e44, .int .u8 (y : Int), w, ?_, gb_refl _ _, rfl⟩
            clear h
            simp only [execOp, Act.eval, e47]
            go_simp
          refine ⟨Fg.value rfl fun ac w h => ?_, ?_⟩
          · have e44 : ac.tmps.getD 44 undef = .bool true := h.dep 44 (by kernel_rfl)
            have e6 : ac.tmps.getD 6 undef = .int .i64 (k : Int) := h.rest 6 (by kernel_rfl)
            refine ⟨wants_some (d := 44) rfl rfl (by rw [h.size]; show 44 < 58; decide) e44, .int .i64 (k : Int), w, ?_, gb_refl _ _, rfl⟩
            clear h
            simp only [execOp, Act.eval, e6]
            go_simp
          refine ⟨Fg.value rfl fun ac w h => ?_, ?_⟩
          · have e44 : ac.tmps.getD 44 undef = .bool true := h.dep 44 (by kernel_rfl)
            have e1 : ac.tmps.getD 1 undef = .slice a n cap := h.rest 1 (by kernel_rfl)
            have b1 := (HPB.out).stay h.base
            exact ⟨wants_some (d := 44) rfl rfl (by rw [h.size]; show 44 < 58; decide) e44, _, w, by simp only [execOp, Act.eval, e1]; rfl, gb_refl _ _, rfl⟩
          refine ⟨Fg.value rfl fun ac w h => ?_, ?_⟩
          · have e44 : ac.tmps.getD 44 undef = .bool true := h.dep 44 (by kernel_rfl)
            have e50 : ac.tmps.getD 50 undef = .slice a n cap := h.dep 50 (by kernel_rfl)
            have b50 := (HPB.out).stay h.base
            have x50 : ac.tmps[50]?.getD undef = .slice a n cap := by simpa using e50
            refine ⟨wants_some (d := 44) rfl rfl (by rw [h.size]; show 44 < 58; decide) e44, .int .i64 n, w, ?_, gb_refl _ _, rfl⟩
            clear h e50
            go_simp
          refine ⟨Fg.value rfl fun ac w h => ?_, ?_⟩
          · have e44 : ac.tmps.getD 44 undef = .bool true := h.dep 44 (by kernel_rfl)
            have e49 : ac.tmps.getD 49 undef = .int .i64 (k : Int) := h.dep 49 (by kernel_rfl)
            have e51 : ac.tmps.getD 51 undef = .int .i64 n := h.dep 51 (by kernel_rfl)
            refine ⟨wants_some (d := 44) rfl rfl (by rw [h.size]; show 44 < 58; decide) e44, .int .i64 (t : Int), w, ?_, gb_refl _ _, rfl⟩
            clear h
            simp only [execOp, Act.eval, e49, e51]
            go_simp
          refine ⟨Fg.call rfl fun ac w h => ?_, ?_⟩
          · have e44 : ac.tmps.getD 44 undef = .bool true := h.dep 44 (by kernel_rfl)
            have e52 : ac.tmps.getD 52 undef = .int .i64 (t : Int) := h.dep 52 (by kernel_rfl)
            have x52 : ac.tmps[52]?.getD undef = .int .i64 (t : Int) := by simpa using e52
            have hb := h.base
            refine ⟨wants_some (d := 44) rfl rfl (by rw [h.size]; show 44 < 58; decide) e44, 23, #[.int .i64 1, .int .i64 (t : Int)], ?_, ?_⟩
            · clear h hb e52
              go_simp
            · refine (HMB.out w).mono ?_
              intro e w1 hp
              obtain ⟨rfl, hg⟩ := hp
              exact ⟨_, rfl, hg, rfl⟩
          refine ⟨Fg.value rfl fun ac w h => ?_, ?_⟩
          · have e44 : ac.tmps.getD 44 undef = .bool true := h.dep 44 (by kernel_rfl)
            have e48 : ac.tmps.getD 48 undef = .int .u8 (y : Int) := h.dep 48 (by kernel_rfl)
            have e53 : ac.tmps.getD 53 undef = .int .u8 (y : Int) := h.dep 53 (by kernel_rfl)
            refine ⟨wants_some (d := 44) rfl rfl (by rw [h.size]; show 44 < 58; decide) e44, .bool true, w, ?_, gb_refl _ _, rfl⟩
            clear h
            simp only [execOp, Act.eval, e48, e53]
            go_simp
          refine ⟨Fg.value rfl fun ac w h => ?_, ?_⟩
          · have e44 : ac.tmps.getD 44 undef = .bool true := h.dep 44 (by kernel_rfl)
            have e54 : ac.tmps.getD 54 undef = .bool true := h.dep 54 (by kernel_rfl)
            refine ⟨wants_some (d := 44) rfl rfl (by rw [h.size]; show 44 < 58; decide) e44, .bool false, w, ?_, gb_refl _ _, rfl⟩
            clear h
            simp only [execOp, Act.eval, e54]
            go_simp
          refine ⟨Fg.value rfl fun ac w h => ?_, ?_⟩
          · have e39 : ac.tmps.getD 39 undef = .bool false := h.dep 39 (by kernel_rfl)
            have e44 : ac.tmps.getD 44 undef = .bool true := h.dep 44 (by kernel_rfl)
            have e55 : ac.tmps.getD 55 undef = .bool false := h.dep 55 (by kernel_rfl)
            refine ⟨wants_some (d := 39) rfl rfl (by rw [h.size]; show 39 < 58; decide) e39, .bool false, w, ?_, gb_refl _ _, rfl⟩
            clear h
            simp only [execOp, Act.eval, e44, e55]
            go_simp
          refine ⟨Fg.value rfl fun ac w h => ?_, ?_⟩
          · have e39 : ac.tmps.getD 39 undef = .bool false := h.dep 39 (by kernel_rfl)
            have e56 : ac.tmps.getD 56 undef = .bool false := h.dep 56 (by kernel_rfl)
            refine ⟨wants_none rfl, .bool false, w, ?_, gb_refl _ _, rfl⟩
            clear h
            simp only [execOp, Act.eval, e39, e56]
            go_simp
          trivial
        · intro q wq hB hsz hdf hrest hslots _
          obtain ⟨u23, hs23⟩ : ∃ u, q.tmps.getD 23 undef = u := ⟨_, rfl⟩
          obtain ⟨u24, hs24⟩ : ∃ u, q.tmps.getD 24 undef = u := ⟨_, rfl⟩
          obtain ⟨u25, hs25⟩ : ∃ u, q.tmps.getD 25 undef = u := ⟨_, rfl⟩
          obtain ⟨u26, hs26⟩ : ∃ u, q.tmps.getD 26 undef = u := ⟨_, rfl⟩
          obtain ⟨u27, hs27⟩ : ∃ u, q.tmps.getD 27 undef = u := ⟨_, rfl⟩
          obtain ⟨u28, hs28⟩ : ∃ u, q.tmps.getD 28 undef = u := ⟨_, rfl⟩
          obtain ⟨u29, hs29⟩ : ∃ u, q.tmps.getD 29 undef = u := ⟨_, rfl⟩
          obtain ⟨u30, hs30⟩ : ∃ u, q.tmps.getD 30 undef = u := ⟨_, rfl⟩
          obtain ⟨u31, hs31⟩ : ∃ u, q.tmps.getD 31 undef = u := ⟨_, rfl⟩
          obtain ⟨u32, hs32⟩ : ∃ u, q.tmps.getD 32 undef = u := ⟨_, rfl⟩
          obtain ⟨u33, hs33⟩ : ∃ u, q.tmps.getD 33 undef = u := ⟨_, rfl⟩
          obtain ⟨u34, hs34⟩ : ∃ u, q.tmps.getD 34 undef = u := ⟨_, rfl⟩
          obtain ⟨u35, hs35⟩ : ∃ u, q.tmps.getD 35 undef = u := ⟨_, rfl⟩
          obtain ⟨u36, hs36⟩ : ∃ u, q.tmps.getD 36 undef = u := ⟨_, rfl⟩
          obtain ⟨u37, hs37⟩ : ∃ u, q.tmps.getD 37 undef = u := ⟨_, rfl⟩
          obtain ⟨u38, hs38⟩ : ∃ u, q.tmps.getD 38 undef = u := ⟨_, rfl⟩
          obtain ⟨u39, hs39⟩ : ∃ u, q.tmps.getD 39 undef = u := ⟨_, rfl⟩
          obtain ⟨u40, hs40⟩ : ∃ u, q.tmps.getD 40 undef = u := ⟨_, rfl⟩
          obtain ⟨u41, hs41⟩ : ∃ u, q.tmps.getD 41 undef = u := ⟨_, rfl⟩
          obtain ⟨u42, hs42⟩ : ∃ u, q.tmps.getD 42 undef = u := ⟨_, rfl⟩
          obtain ⟨u43, hs43⟩ : ∃ u, q.tmps.getD 43 undef = u := ⟨_, rfl⟩
          obtain ⟨u44, hs44⟩ : ∃ u, q.tmps.getD 44 undef = u := ⟨_, rfl⟩
          obtain ⟨u45, hs45⟩ : ∃ u, q.tmps.getD 45 undef = u := ⟨_, rfl⟩
          obtain ⟨u46, hs46⟩ : ∃ u, q.tmps.getD 46 undef = u := ⟨_, rfl⟩
          obtain ⟨u47, hs47⟩ : ∃ u, q.tmps.getD 47 undef = u := ⟨_, rfl⟩
          obtain ⟨u48, hs48⟩ : ∃ u, q.tmps.getD 48 undef = u := ⟨_, rfl⟩
          obtain ⟨u49, hs49⟩ : ∃ u, q.tmps.getD 49 undef = u := ⟨_, rfl⟩
          obtain ⟨u50, hs50⟩ : ∃ u, q.tmps.getD 50 undef = u := ⟨_, rfl⟩
          obtain ⟨u51, hs51⟩ : ∃ u, q.tmps.getD 51 undef = u := ⟨_, rfl⟩
          obtain ⟨u52, hs52⟩ : ∃ u, q.tmps.getD 52 undef = u := ⟨_, rfl⟩
          obtain ⟨u53, hs53⟩ : ∃ u, q.tmps.getD 53 undef = u := ⟨_, rfl⟩
          obtain ⟨u54, hs54⟩ : ∃ u, q.tmps.getD 54 undef = u := ⟨_, rfl⟩
          obtain ⟨u55, hs55⟩ : ∃ u, q.tmps.getD 55 undef = u := ⟨_, rfl⟩
          obtain ⟨u56, hs56⟩ : ∃ u, q.tmps.getD 56 undef = u := ⟨_, rfl⟩
          obtain rfl := Fg.frame_is (a := q) (vs := [Value.slice (some ⟨g, 0, none⟩) n (n + 12), Value.slice a n cap, undef, undef, u4, Value.slice (some ⟨g, 0, none⟩) (n + 12) (n + 12), Value.int .i64 (k : Int), Value.slice (some ⟨g, 0, none⟩) n (n + 12), Value.int .i64 (n : Int), Value.slice a n cap, Value.int .i64 (n : Int), Value.bool false, Value.slice (some ⟨g, 0, none⟩) n (n + 12), Value.slice a n cap, Value.int .i64 (n : Int), Value.int .i64 ((n : Int) + 12), Value.slice (some ⟨g, 0, none⟩) (n + 12) (n + 12), Value.int .i64 (k : Int), Value.slice (some ⟨g, 0, none⟩) (n + 12) (n + 12), Value.int .i64 ((n : Int) + 12), Value.bool true, u21, u22, u23, u24, u25, u26, u27, u28, u29, u30, u31, u32, u33, u34, u35, u36, u37, u38, u39, u40, u41, u42, u43, u44, u45, u46, u47, u48, u49, u50, u51, u52, u53, u54, u55, u56, Value.bool false]) hsz ⟨hrest 0 (by kernel_rfl), hrest 1 (by kernel_rfl), hrest 2 (by kernel_rfl), hrest 3 (by kernel_rfl), hrest 4 (by kernel_rfl), hrest 5 (by kernel_rfl), hrest 6 (by kernel_rfl), hrest 7 (by kernel_rfl), hrest 8 (by kernel_rfl), hrest 9 (by kernel_rfl), hrest 10 (by kernel_rfl), hrest 11 (by kernel_rfl), hrest 12 (by kernel_rfl), hrest 13 (by kernel_rfl), hrest 14 (by kernel_rfl), hrest 15 (by kernel_rfl), hrest 16 (by kernel_rfl), hrest 17 (by kernel_rfl), hrest 18 (by kernel_rfl), hrest 19 (by kernel_rfl), hrest 20 (by kernel_rfl), hrest 21 (by kernel_rfl), hrest 22 (by kernel_rfl), hs23, hs24, hs25, hs26, hs27, hs28, hs29, hs30, hs31, hs32, hs33, hs34, hs35, hs36, hs37, hs38, hs39, hs40, hs41, hs42, hs43, hs44, hs45, hs46, hs47, hs48, hs49, hs50, hs51, hs52, hs53, hs54, hs55, hs56, (show q.tmps.getD 57 undef = Value.bool false from hslots 57 (by kernel_rfl)), trivial⟩ hdf
          have HG2 := Lib.hid (gb_trans HG.out hB)
          clear hB hsz hdf hrest hslots hs23 hs24 hs25 hs26 hs27 hs28 hs29 hs30 hs31 hs32 hs33 hs34 hs35 hs36 hs37 hs38 hs39 hs40 hs41 hs42 hs43 hs44 hs45 hs46 hs47 hs48 hs49 hs50 hs51 hs52 hs53 hs54 hs55 hs56
          go_wp2
          go_roundw
          case rel => exact ⟨k + 1, by omega, by go_num, HG2.out⟩
          case measure => simp [intOf]; omega
    · obtain rfl : k = n + 12 := by omega
      have HG := Lib.hid hg; clear hg
      clear hlt
      go_wp2
      go_ret
      exact ⟨rfl, HG.out⟩
end Go.Proofs.YtmnlidfalhjghaaGreatDoor
