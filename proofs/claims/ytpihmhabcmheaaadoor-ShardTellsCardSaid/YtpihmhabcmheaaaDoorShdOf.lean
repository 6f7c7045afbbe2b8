/- shard: Of and Bits. -/
import Derived.Test.YtpihmhabcmheaaaDoorShdDigest
import Derived.Test.YtpihmhabcmheaaaDoorShdWay
namespace Go.Proofs.YtpihmhabcmheaaaDoor
open Go.RowKit Ow
set_option maxHeartbeats 400000 in
theorem of_any (s : ByteArray) (w0 : World) (hT : Tables w0) (hs : s.size < 2147480000) :
    Calls Tryd.prog 6 #[.string s] w0 fun e w' => e = .returned (.int .i64 (shardN (keyD s) : Int)) ∧ w0.grownBy w' none := by
  have HT := Lib.hid hT; clear hT
  go_enter Tryd.func6, Tryd.ntmps6
  go_wp2_with fail
  refine (digestOf_any s w0 HT.out hs).mono ?_
  rintro e w1 ⟨rfl, hg1⟩
  have H1 := Lib.hid hg1; clear hg1
  go_wp2_with fail
  refine (shard_any (keyD s) w1 (keyD_len s) (keyD_byte s)).mono ?_
  rintro e w2 ⟨rfl, hg2⟩
  have H2 := Lib.hid (gb_trans H1.out hg2); clear hg2
  go_wp2
  go_ret
  exact ⟨rfl, H2.out⟩
set_option maxHeartbeats 400000 in
theorem bits_any (s : ByteArray) (w0 : World) (hT : Tables w0) (hs : s.size < 2147480000) :
    Calls Tryd.prog 8 #[.string s] w0 fun e w' => e = .returned (.string (ofL (wayL (keyD s)))) ∧ w0.grownBy w' none := by
  have HT := Lib.hid hT; clear hT
  go_enter Tryd.func8, Tryd.ntmps8
  go_wp2_with fail
  refine (digestOf_any s w0 HT.out hs).mono ?_
  rintro e w1 ⟨rfl, hg1⟩
  have H1 := Lib.hid hg1; clear hg1
  go_wp2_with fail
  refine (way_any (keyD s) w1 (keyD_len s) (keyD_byte s)).mono ?_
  rintro e w2 ⟨rfl, hg2⟩
  have H2 := Lib.hid (gb_trans H1.out hg2); clear hg2
  go_wp2
  go_ret
  exact ⟨rfl, H2.out⟩
end Go.Proofs.YtpihmhabcmheaaaDoor
