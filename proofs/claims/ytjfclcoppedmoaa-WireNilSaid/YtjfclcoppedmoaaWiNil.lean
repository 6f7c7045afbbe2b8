/- wire: WireNil: no reader, and one that nobody made. -/
import Derived.Test.YtjfclcoppedmoaaWiAwake
namespace Go.Proofs.Ytjfclcoppedmoaa
open Go.RowKit Ow Wi

/-- no reader: nil, or a struct that nobody made -/
def NoRd (w : World) (p : Option Addr) : Prop := p = none ∨ ∃ rb, p = some ⟨rb, 0, none⟩ ∧ RdN w rb
theorem NoRd.stay {w w' : World} {p : Option Addr} (h : NoRd w p) (hg : w.grownBy w' none) : NoRd w' p := by
  rcases h with rfl | ⟨rb, rfl, hr⟩
  · exact Or.inl rfl
  · exact Or.inr ⟨rb, rfl, hr.stay hg⟩
theorem wgood_nord (p : Option Addr) (w : World) (h : NoRd w p) :
    Calls Try.prog 10 #[.pointer p] w fun e w' => e = .returned (.bool false) ∧ w' = w := by
  rcases h with rfl | ⟨rb, rfl, hr⟩
  · exact wgood_nil w
  · exact wgood_no rb _ w hr
theorem done_nord (p : Option Addr) (w : World) (h : NoRd w p) :
    Calls Try.prog 11 #[.pointer p] w fun e w' => e = .returned (.bool false) ∧ w' = w := by
  have HG := Lib.hid (wgood_nord p w h); clear h
  go_enter Try.func11, Try.ntmps11
  go_wp2_with (fail)
  refine HG.out.mono ?_
  rintro e w' ⟨rfl, rfl⟩
  go_wp2
  go_ret
  exact ⟨rfl, rfl⟩
theorem byte_nord (p : Option Addr) (w : World) (h : NoRd w p) :
    Calls Try.prog 6 #[.pointer p] w fun e w' => e = .returned (.int .u8 0) ∧ w.grownBy w' none := by
  have HT := Lib.hid (fun (k : Int) (f : Value) => tryU_bad p k f w fun w1 hg => wgood_nord p w1 (h.stay hg))
  clear h
  have hmf := makeF
  go_enter Try.func6, Try.ntmps6
  go_wp2_with (fail)
  refine (HT.out _ _).mono ?_
  rintro e w' ⟨rfl, hg⟩
  have H := Lib.hid hg; clear hg
  go_wp2
  go_ret
  exact ⟨rfl, H.out⟩
theorem number_nord (p : Option Addr) (w : World) (h : NoRd w p) :
    Calls Try.prog 7 #[.pointer p] w fun e w' => e = .returned (.int .i64 0) ∧ w.grownBy w' none := by
  have HT := Lib.hid (fun (k : Int) (f : Value) => tryU_bad p k f w fun w1 hg => wgood_nord p w1 (h.stay hg))
  clear h
  have hmf := makeF
  go_enter Try.func7, Try.ntmps7
  go_wp2_with (fail)
  refine (HT.out _ _).mono ?_
  rintro e w' ⟨rfl, hg⟩
  have H := Lib.hid hg; clear hg
  go_wp2
  go_ret
  exact ⟨rfl, H.out⟩
theorem bytes_nord (p : Option Addr) (most : Int) (w : World) (h : NoRd w p) :
    Calls Try.prog 8 #[.pointer p, .int .i64 most] w fun e w' => e = .returned (.slice none 0 0) ∧ w.grownBy w' none := by
  have HT := Lib.hid (fun (k : Int) (f : Value) => tryB_bad p k f w fun w1 hg => wgood_nord p w1 (h.stay hg))
  clear h
  have hmf := makeF
  go_enter Try.func8, Try.ntmps8
  go_wp2_with (fail)
  refine (HT.out _ _).mono ?_
  rintro e w' ⟨rfl, hg⟩
  have H := Lib.hid hg; clear hg
  go_wp2
  go_ret
  exact ⟨rfl, H.out⟩
theorem count_nord (p : Option Addr) (most : Int) (w : World) (h : NoRd w p) :
    Calls Try.prog 9 #[.pointer p, .int .i64 most] w fun e w' => e = .returned (.int .i64 0) ∧ w.grownBy w' none := by
  have HT := Lib.hid (fun (k : Int) (f : Value) => tryI_bad p k f w fun w1 hg => wgood_nord p w1 (h.stay hg))
  clear h
  have hmf := makeF
  go_enter Try.func9, Try.ntmps9
  go_wp2_with (fail)
  refine (HT.out _ _).mono ?_
  rintro e w' ⟨rfl, hg⟩
  have H := Lib.hid hg; clear hg
  go_wp2
  go_ret
  exact ⟨rfl, H.out⟩
set_option maxRecDepth 100000 in
set_option maxHeartbeats 4000000 in
theorem wireNil_any (most : Int) (w : World) : Calls Try.prog 3 #[.int .i64 most] w fun e w' => e = .returned (.bool true) ∧ w.grownBy w' none := by
  go_enter Try.func3, Try.ntmps3
  go_wp2_with (fail)
  have hb : Blk ((w.alloc (.cells #[.slice none 0 0, .pointer none] 26)).alloc (.cells #[.pointer none, .pointer (some ⟨w.heap.size, 0, none⟩)] 22)) (w.heap.size + 1) 22 [.pointer none, .pointer (some ⟨w.heap.size, 0, none⟩)] := by
    have h := Blk.new (w.alloc (.cells #[.slice none 0 0, .pointer none] 26)) [.pointer none, .pointer (some ⟨w.heap.size, 0, none⟩)] 22
    rw [World.size_alloc] at h; exact h
  have hz : RdN ((w.alloc (.cells #[.slice none 0 0, .pointer none] 26)).alloc (.cells #[.pointer none, .pointer (some ⟨w.heap.size, 0, none⟩)] 22)) w.heap.size := (Blk.new w [.slice none 0 0, .pointer none] 26).alloc _
  have hg := gb_alloc (gb_alloc (gb_refl w none) (.cells #[.slice none 0 0, .pointer none] 26)) (.cells #[.pointer none, .pointer (some ⟨w.heap.size, 0, none⟩)] 22)
  generalize (w.alloc (.cells #[.slice none 0 0, .pointer none] 26)).alloc (.cells #[.pointer none, .pointer (some ⟨w.heap.size, 0, none⟩)] 22) = w2 at *
  obtain ⟨S, hS⟩ : ∃ S, S = w.heap.size := ⟨_, rfl⟩
  rw [← hS] at hb hz ⊢
  have H2 := Lib.hid (And.intro hg (And.intro hb hz)); clear hg hb hz hS
  go_loopw [4] (fun i wr => ∃ k : Nat, k ≤ 2 ∧ i = .int .i64 k ∧ w.grownBy wr none ∧ Blk wr (S + 1) 22 [.pointer none, .pointer (some ⟨S, 0, none⟩)] ∧ RdN wr S) (fun i _ => 2 - (intOf i).toNat)
  case atStart => exact ⟨0, by omega, rfl, H2.out⟩
  case round =>
    obtain ⟨k, hk, rfl, hg, hb, hz⟩ := hrel
    by_cases hlt : k < 2
    · obtain ⟨p, hv, hN⟩ : ∃ p, wr.cell? ⟨S + 1, k, none⟩ = some (.pointer p) ∧ NoRd wr p := by
        obtain rfl | rfl : k = 0 ∨ k = 1 := by omega
        · exact ⟨_, hb.cell (i := 0) rfl, Or.inl rfl⟩
        · exact ⟨_, hb.cell (i := 1) rfl, Or.inr ⟨S, rfl, hz⟩⟩
      have i0 : (k : Int) < 2 := by omega
      have H := Lib.hid (And.intro (gb_refl wr none) hN); clear hN
      have HR := Lib.hid (And.intro hg (And.intro hb hz)); clear hg hb hz H2
      go_wp2_with (fail)
      refine (byte_nord p _ H.out.2).mono ?_
      rintro e w3 ⟨rfl, hg⟩
      have H3 := Lib.hid (And.intro (gb_trans H.out.1 hg) (H.out.2.stay hg)); clear hg H
      go_wp2_with (fail)
      refine (number_nord p _ H3.out.2).mono ?_
      rintro e w4 ⟨rfl, hg⟩
      have H4 := Lib.hid (And.intro (gb_trans H3.out.1 hg) (H3.out.2.stay hg)); clear hg H3
      go_wp2_with (fail)
      refine (bytes_nord p most _ H4.out.2).mono ?_
      rintro e w5 ⟨rfl, hg⟩
      have H5 := Lib.hid (And.intro (gb_trans H4.out.1 hg) (H4.out.2.stay hg)); clear hg H4
      go_wp2_with (fail)
      refine (count_nord p most _ H5.out.2).mono ?_
      rintro e w6 ⟨rfl, hg⟩
      have H6 := Lib.hid (And.intro (gb_trans H5.out.1 hg) (H5.out.2.stay hg)); clear hg H5
      go_wp2_with (fail)
      refine (wgood_nord p _ H6.out.2).mono ?_
      rintro e w' ⟨rfl, rfl⟩
      go_wp2_with (fail)
      refine (done_nord p _ H6.out.2).mono ?_
      rintro e w' ⟨rfl, rfl⟩
      go_wp2_with (fail)
      obtain ⟨hg, hb, hz⟩ := HR.out
      have hg2 := H6.out.1
      exact ⟨⟨k + 1, by omega, rfl, gb_trans hg hg2, hb.grown hg2 (by simp), hz.stay hg2⟩, by show 2 - ((k : Int) + 1).toNat < 2 - (k : Int).toNat; omega⟩
    · obtain rfl : k = 2 := by omega
      have HR := Lib.hid hg; clear hg hb hz H2
      go_wp2_with (fail)
      refine (wawake_any wr).mono ?_
      rintro e w3 ⟨rfl, hg⟩
      have H3 := Lib.hid (gb_trans HR.out hg); clear hg
      go_wp2
      go_ret
      exact ⟨rfl, H3.out⟩
end Go.Proofs.Ytjfclcoppedmoaa
