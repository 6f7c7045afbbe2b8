/- The law ShardTells' walk. -/
import Derived.Test.YtpihmhabcmheaaaDoorShdAwake
namespace Go.Proofs.YtpihmhabcmheaaaDoor
open Go.RowKit Ow
set_option maxRecDepth 100000 in
set_option maxHeartbeats 2000000 in
theorem shardTells_any (s : ByteArray) (w : World) (hT : Tables w) :
    Calls Tryd.prog 3 #[.string s] w fun e w' => e = .returned (.bool true) ∧ w.grownBy w' none := by
  have HT := Lib.hid hT; clear hT
  go_enter Tryd.func3, Tryd.ntmps3
  by_cases hlen : s.size ≤ 2000
  · have i0 : (s.size : Int) ≤ 2000 := by omega
    have i1 : ¬ (2000 : Int) < (s.size : Int) := by omega
    go_wp2_with fail
    refine (of_any s w HT.out (by omega)).mono ?_
    rintro e w1 ⟨rfl, hg1⟩
    have H1 := Lib.hid hg1; clear hg1
    go_wp2_with fail
    refine (refOf_any s w1 (by omega)).mono ?_
    rintro e w2 ⟨rfl, hg2⟩
    have H2 := Lib.hid (gb_trans H1.out hg2); clear hg2
    go_wp2_with fail
    refine (bits_any s w2 (HT.out.kept H2.out (by simp)) (by omega)).mono ?_
    rintro e w3 ⟨rfl, hg3⟩
    have H3 := Lib.hid (gb_trans H2.out hg3); clear hg3
    go_wp2_with fail
    refine (refWay_any s w3 (by omega)).mono ?_
    rintro e w4 ⟨rfl, hg4⟩
    have H4 := Lib.hid (gb_trans H3.out hg4); clear hg4
    have hss := str_same (ofL (wayL (keyD s)))
    go_wp2_with fail
    refine (awake11_any w4 (HT.out.kept H4.out (by simp))).mono ?_
    rintro e w5 ⟨rfl, hg5⟩
    have H5 := Lib.hid (gb_trans H4.out hg5); clear hg5
    go_wp2
    go_ret
    exact ⟨rfl, H5.out⟩
  · have i0 : (2000 : Int) < (s.size : Int) := by omega
    go_wp2
    go_ret
    exact ⟨rfl, gb_refl _ _⟩
end Go.Proofs.YtpihmhabcmheaaaDoor
