/- The law ShaNone's walk. -/
import Derived.Test.YtgklkoglcajfpaaDoorShaAwake
namespace Go.Proofs.YtgklkoglcajfpaaDoor
open Go.RowKit

/-- no hash: nil, or a struct that nobody made -/
def NoHash (w : World) (v : Value) : Prop := v = .pointer none ∨ ∃ B, v = .pointer (some ⟨B, 0, none⟩) ∧ w.cell? ⟨B, 137, none⟩ = some (.pointer none)
theorem good_no (v : Value) (w : World) (h : NoHash w v) :
    Calls Tryd.prog 26 #[v] w fun e w' => e = .returned (.bool false) ∧ w = w' := by
  rcases h with rfl | ⟨B, rfl, hc⟩
  · exact good_nil w
  · exact good_zero B w hc
set_option maxHeartbeats 400000 in
theorem write_no (v : Value) (a : Option Addr) (n c : Nat) (w : World) (h : NoHash w v) :
    Calls Tryd.prog 13 #[v, .slice a n c] w fun e w' => e = .returned (.int .i64 1) ∧ w = w' := by
  have HN := Lib.hid h; clear h
  go_enter Tryd.func13, Tryd.ntmps13
  go_wp2_with fail
  refine (good_no v w HN.out).mono ?_
  rintro e w1 ⟨rfl, rfl⟩
  go_wp2
  go_ret
  exact ⟨rfl, rfl⟩
set_option maxHeartbeats 400000 in
theorem sum_no (v : Value) (w : World) (h : NoHash w v) :
    Calls Tryd.prog 18 #[v] w fun e w' => e = .returned (.slice none 0 0) ∧ w = w' := by
  have HN := Lib.hid h; clear h
  go_enter Tryd.func18, Tryd.ntmps18
  go_wp2_with fail
  refine (good_no v w HN.out).mono ?_
  rintro e w1 ⟨rfl, rfl⟩
  go_wp2
  go_ret
  exact ⟨rfl, rfl⟩
set_option maxHeartbeats 400000 in
theorem copy_no (v : Value) (w : World) (h : NoHash w v) :
    Calls Tryd.prog 12 #[v] w fun e w' => e = .returned (.pointer none) ∧ w = w' := by
  have HN := Lib.hid h; clear h
  go_enter Tryd.func12, Tryd.ntmps12
  go_wp2_with fail
  refine (good_no v w HN.out).mono ?_
  rintro e w1 ⟨rfl, rfl⟩
  go_wp2
  go_ret
  exact ⟨rfl, rfl⟩

set_option maxRecDepth 100000 in
set_option maxHeartbeats 1000000 in
theorem shaNone_any (a : Option Addr) (n c : Nat) (w : World) (hT : Tables w) :
    Calls Tryd.prog 6 #[.slice a n c] w fun e w' => e = .returned (.bool true) ∧ Below w.heap.size w w' := by
  go_enter Tryd.func6, Tryd.ntmps6
  go_wp2_with fail
  refine (awake_any w hT).mono ?_
  rintro e w1 ⟨rfl, hg1⟩
  have H1 := Lib.hid hg1; clear hg1 hT
  go_wp2_with (refine wpList_build_is rfl 47 _ rfl zeroHV.toArray (by kernel_rfl) ?_)
  have hS := H1.out.size
  have hg2 : w.grownBy ((w1.alloc (.cells zeroHV.toArray 47)).alloc (.cells #[.pointer none, .pointer (some ⟨w1.heap.size, 0, none⟩)] 26)) none := gb_alloc (gb_alloc H1.out _) _
  have hb2 : Blk ((w1.alloc (.cells zeroHV.toArray 47)).alloc (.cells #[.pointer none, .pointer (some ⟨w1.heap.size, 0, none⟩)] 26)) (w1.heap.size + 1) 26 [.pointer none, .pointer (some ⟨w1.heap.size, 0, none⟩)] := by
    have h := Blk.new (w1.alloc (.cells zeroHV.toArray 47)) [.pointer none, .pointer (some ⟨w1.heap.size, 0, none⟩)] 26
    rw [World.size_alloc] at h; exact h
  have hz2 : Blk ((w1.alloc (.cells zeroHV.toArray 47)).alloc (.cells #[.pointer none, .pointer (some ⟨w1.heap.size, 0, none⟩)] 26)) w1.heap.size 47 zeroHV := (Blk.new w1 zeroHV _).alloc _
  generalize (w1.alloc (.cells zeroHV.toArray 47)).alloc (.cells #[.pointer none, .pointer (some ⟨w1.heap.size, 0, none⟩)] 26) = w2 at *
  generalize w1.heap.size = S at *
  have H2 := Lib.hid (And.intro hg2 (And.intro hb2 hz2)); clear hg2 hb2 hz2 H1
  go_loopw [4] (fun i wr => ∃ k : Nat, k ≤ 2 ∧ i = .int .i64 k ∧ w.grownBy wr none ∧ Blk wr (S + 1) 26 [.pointer none, .pointer (some ⟨S, 0, none⟩)] ∧ Blk wr S 47 zeroHV) (fun i _ => 2 - (intOf i).toNat)
  case atStart => exact ⟨0, by omega, rfl, H2.out⟩
  case round =>
    obtain ⟨k, hk, rfl, hg, hb, hz⟩ := hrel
    by_cases hlt : k < 2
    · obtain ⟨v, hv, hN⟩ : ∃ v, wr.cell? ⟨S + 1, k, none⟩ = some v ∧ NoHash (wr.alloc (.cells #[.slice a n c] 30)) v := by
        have hc : wr.cell? ⟨S, 137, none⟩ = some (.pointer none) := hz.cell (by kernel_rfl)
        obtain rfl | rfl : k = 0 ∨ k = 1 := by omega
        · exact ⟨_, hb.cell (i := 0) rfl, Or.inl rfl⟩
        · exact ⟨_, hb.cell (i := 1) rfl, Or.inr ⟨S, rfl, by rw [gb_cell (gb_alloc (gb_refl wr none) _) hz.lt (by simp)]; exact hc⟩⟩
      have hv2 : (wr.alloc (.cells #[.slice a n c] 30)).cell? ⟨S + 1, k, none⟩ = some v := by rw [gb_cell (gb_alloc (gb_refl wr none) _) hb.lt (by simp)]; exact hv
      have hg3 := gb_alloc hg (.cells #[.slice a n c] 30)
      have hb3 := hb.alloc (.cells #[.slice a n c] 30)
      have hz3 := hz.alloc (.cells #[.slice a n c] 30)
      have HR := Lib.hid (And.intro hg3 (And.intro hb3 (And.intro hz3 hN))); clear hg hb hz hg3 hb3 hz3 hN
      have i0 : (k : Int) < 2 := by omega
      go_wp2_with fail
      refine (write_no v _ _ _ _ HR.out.2.2.2).mono ?_
      rintro e w3 ⟨rfl, rfl⟩
      go_wp2_with fail
      refine (sum_no v _ HR.out.2.2.2).mono ?_
      rintro e w3 ⟨rfl, rfl⟩
      go_wp2_with fail
      refine (copy_no v _ HR.out.2.2.2).mono ?_
      rintro e w3 ⟨rfl, rfl⟩
      go_wp2
      go_roundw
      case rel => exact ⟨k + 1, by omega, by go_num, HR.out.1, HR.out.2.1, HR.out.2.2.1⟩
      case measure => simp [intOf]; omega
    · obtain rfl : k = 2 := by omega
      clear hlt
      go_wp2
      go_ret
      exact ⟨rfl, gb_below hg⟩
end Go.Proofs.YtgklkoglcajfpaaDoor
