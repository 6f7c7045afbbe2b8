/- shard's laws: awake. -/
import Derived.Test.YtpihmhabcmheaaaDoorShdOf
import Derived.Test.YtpihmhabcmheaaaDoorShdRefOf
namespace Go.Proofs.YtpihmhabcmheaaaDoor
open Go.RowKit Ow
theorem str_same (s : ByteArray) : (s.toList == s.toList) = true := by simp
set_option maxRecDepth 100000 in
set_option maxHeartbeats 1000000 in
theorem awake11_any (w : World) (hT : Tables w) :
    Calls Tryd.prog 10 #[] w fun e w' => e = .returned (.bool true) ∧ w.grownBy w' none := by
  have HT := Lib.hid hT; clear hT
  have hs : (⟨#[97]⟩ : ByteArray).size < 2147480000 := by decide
  obtain ⟨s, hse⟩ : ∃ s : ByteArray, s = ⟨#[97]⟩ := ⟨_, rfl⟩
  rw [← hse] at hs
  go_enter Tryd.func10, Tryd.ntmps10
  simp only [← hse]
  clear hse
  go_wp2_with fail
  refine (of_any s w HT.out hs).mono ?_
  rintro e w1 ⟨rfl, hg1⟩
  have H1 := Lib.hid hg1; clear hg1
  go_wp2_with fail
  refine (refOf_any s w1 hs).mono ?_
  rintro e w2 ⟨rfl, hg2⟩
  have H2 := Lib.hid (gb_trans H1.out hg2); clear hg2
  go_wp2_with fail
  refine (bits_any s w2 (HT.out.kept H2.out (by simp)) hs).mono ?_
  rintro e w3 ⟨rfl, hg3⟩
  have H3 := Lib.hid (gb_trans H2.out hg3); clear hg3
  go_wp2_with fail
  refine (refWay_any s w3 hs).mono ?_
  rintro e w4 ⟨rfl, hg4⟩
  have H4 := Lib.hid (gb_trans H3.out hg4); clear hg4
  have hss := str_same (ofL (wayL (keyD s)))
  go_wp2
  go_ret
  exact ⟨rfl, H4.out⟩
end Go.Proofs.YtpihmhabcmheaaaDoor
