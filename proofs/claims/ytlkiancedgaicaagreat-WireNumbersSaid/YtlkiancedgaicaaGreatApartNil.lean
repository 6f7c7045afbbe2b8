/- The kit's ApartBytes of none. (gen_apartnil.py) -/
import Derived.Test.YtlkiancedgaicaaGreatApart
namespace Go.Proofs.YtlkiancedgaicaaGreat
open Go.RowKit Ow
set_option maxRecDepth 100000 in
set_option maxHeartbeats 4000000 in
theorem apart_none (B : Nat) (w : World) (hb : Blk w B 98 (bagL (.slice none 0 0))) : Calls Tryz.prog 57 #[.pointer (some ⟨B, 0, none⟩)] w fun e w' => e = .returned (.bool true) ∧ w.grownBy w' none := by
  have HB0 := Lib.hid (And.intro hb (gb_refl w none)); clear hb
  go_enter Tryz.func57, Tryz.ntmps57
  have c := HB0.out.1.cell (i := 0) rfl
  go_wp2_with fail
  clear c
  refine (flatLimbs_nil _).mono ?_
  rintro e w1 ⟨rfl, h⟩
  have HB1 := Lib.hid (And.intro (HB0.out.1.grown h (by simp)) (gb_trans HB0.out.2 h)); clear h HB0
  have c := HB1.out.1.cell (i := 1) rfl
  go_wp2_with fail
  clear c
  refine (flatWords_nil _).mono ?_
  rintro e w2 ⟨rfl, h⟩
  have HB2 := Lib.hid (And.intro (HB1.out.1.grown h (by simp)) (gb_trans HB1.out.2 h)); clear h HB1
  have c := HB2.out.1.cell (i := 2) rfl
  go_wp2_with fail
  clear c
  refine (flatInts_nil _).mono ?_
  rintro e w3 ⟨rfl, h⟩
  have HB3 := Lib.hid (And.intro (HB2.out.1.grown h (by simp)) (gb_trans HB2.out.2 h)); clear h HB2
  have c := HB3.out.1.cell (i := 3) rfl
  go_wp2_with fail
  clear c
  refine (flatLongs_nil _).mono ?_
  rintro e w4 ⟨rfl, h⟩
  have HB4 := Lib.hid (And.intro (HB3.out.1.grown h (by simp)) (gb_trans HB3.out.2 h)); clear h HB3
  have c := HB4.out.1.cell (i := 4) rfl
  go_wp2_with fail
  clear c
  refine (flatTexts_nil _).mono ?_
  rintro e w5 ⟨rfl, h⟩
  have HB5 := Lib.hid (And.intro (HB4.out.1.grown h (by simp)) (gb_trans HB4.out.2 h)); clear h HB4
  have c := HB5.out.1.cell (i := 5) rfl
  go_wp2_with fail
  clear c
  refine (flatBytes_nil _).mono ?_
  rintro e w6 ⟨rfl, h⟩
  have HB6 := Lib.hid (And.intro (HB5.out.1.grown h (by simp)) (gb_trans HB5.out.2 h)); clear h HB5
  have c := HB6.out.1.cell (i := 6) rfl
  go_wp2_with fail
  clear c
  refine (flatTruths_nil _).mono ?_
  rintro e w7 ⟨rfl, h⟩
  have HB7 := Lib.hid (And.intro (HB6.out.1.grown h (by simp)) (gb_trans HB6.out.2 h)); clear h HB6
  have c := HB7.out.1.cell (i := 7) rfl
  go_wp2_with fail
  clear c
  refine (flatRows_nil _).mono ?_
  rintro e w8 ⟨rfl, h⟩
  have HB8 := Lib.hid (And.intro (HB7.out.1.grown h (by simp)) (gb_trans HB7.out.2 h)); clear h HB7
  have c := HB8.out.1.cell (i := 8) rfl
  go_wp2_with fail
  clear c
  refine (flatDots_nil _).mono ?_
  rintro e w9 ⟨rfl, h⟩
  have HB9 := Lib.hid (And.intro (HB8.out.1.grown h (by simp)) (gb_trans HB8.out.2 h)); clear h HB8
  have c := HB9.out.1.cell (i := 9) rfl
  go_wp2_with fail
  clear c
  refine (flatRecords_nil _).mono ?_
  rintro e w10 ⟨rfl, h⟩
  have HB10 := Lib.hid (And.intro (HB9.out.1.grown h (by simp)) (gb_trans HB9.out.2 h)); clear h HB9
  have c := HB10.out.1.cell (i := 10) rfl
  go_wp2_with fail
  clear c
  refine (flatLeaves_nil _).mono ?_
  rintro e w11 ⟨rfl, h⟩
  have HB11 := Lib.hid (And.intro (HB10.out.1.grown h (by simp)) (gb_trans HB10.out.2 h)); clear h HB10
  have c := HB11.out.1.cell (i := 11) rfl
  go_wp2_with fail
  clear c
  refine (flatGrants_nil _).mono ?_
  rintro e w12 ⟨rfl, h⟩
  have HB12 := Lib.hid (And.intro (HB11.out.1.grown h (by simp)) (gb_trans HB11.out.2 h)); clear h HB11
  have c := HB12.out.1.cell (i := 12) rfl
  go_wp2_with fail
  clear c
  refine (flatNodes_nil _).mono ?_
  rintro e w13 ⟨rfl, h⟩
  have HB13 := Lib.hid (And.intro (HB12.out.1.grown h (by simp)) (gb_trans HB12.out.2 h)); clear h HB12
  have c := HB13.out.1.cell (i := 13) rfl
  go_wp2_with fail
  clear c
  refine (flatStubs_nil _).mono ?_
  rintro e w14 ⟨rfl, h⟩
  have HB14 := Lib.hid (And.intro (HB13.out.1.grown h (by simp)) (gb_trans HB13.out.2 h)); clear h HB13
  have c := HB14.out.1.cell (i := 14) rfl
  go_wp2_with fail
  clear c
  refine (flatProofs_nil _).mono ?_
  rintro e w15 ⟨rfl, h⟩
  have HB15 := Lib.hid (And.intro (HB14.out.1.grown h (by simp)) (gb_trans HB14.out.2 h)); clear h HB14
  have c := HB15.out.1.cell (i := 15) rfl
  go_wp2_with fail
  clear c
  refine (flatRoots_nil _).mono ?_
  rintro e w16 ⟨rfl, h⟩
  have HB16 := Lib.hid (And.intro (HB15.out.1.grown h (by simp)) (gb_trans HB15.out.2 h)); clear h HB15
  have c := HB16.out.1.cell (i := 16) rfl
  go_wp2_with fail
  clear c
  refine (flatEvidenceRow_nil _).mono ?_
  rintro e w17 ⟨rfl, h⟩
  have HB17 := Lib.hid (And.intro (HB16.out.1.grown h (by simp)) (gb_trans HB16.out.2 h)); clear h HB16
  have c := HB17.out.1.cell (i := 17) rfl
  go_wp2_with fail
  clear c
  refine (flatFrames_nil _).mono ?_
  rintro e w18 ⟨rfl, h⟩
  have HB18 := Lib.hid (And.intro (HB17.out.1.grown h (by simp)) (gb_trans HB17.out.2 h)); clear h HB17
  have c := HB18.out.1.cell (i := 18) rfl
  go_wp2_with fail
  clear c
  refine (flatPackets_nil _).mono ?_
  rintro e w19 ⟨rfl, h⟩
  have HB19 := Lib.hid (And.intro (HB18.out.1.grown h (by simp)) (gb_trans HB18.out.2 h)); clear h HB18
  have c := HB19.out.1.cell (i := 19) rfl
  go_wp2_with fail
  clear c
  refine (flatEntries_nil _).mono ?_
  rintro e w20 ⟨rfl, h⟩
  have HB20 := Lib.hid (And.intro (HB19.out.1.grown h (by simp)) (gb_trans HB19.out.2 h)); clear h HB19
  have c := HB20.out.1.cell (i := 20) rfl
  go_wp2_with fail
  clear c
  refine (flatHeldRow_nil _).mono ?_
  rintro e w21 ⟨rfl, h⟩
  have HB21 := Lib.hid (And.intro (HB20.out.1.grown h (by simp)) (gb_trans HB20.out.2 h)); clear h HB20
  have c := HB21.out.1.cell (i := 21) rfl
  go_wp2_with fail
  clear c
  refine (flatConfigs_nil _).mono ?_
  rintro e w22 ⟨rfl, h⟩
  have HB22 := Lib.hid (And.intro (HB21.out.1.grown h (by simp)) (gb_trans HB21.out.2 h)); clear h HB21
  have c := HB22.out.1.cell (i := 22) rfl
  go_wp2_with fail
  clear c
  refine (flatSteps_nil _).mono ?_
  rintro e w23 ⟨rfl, h⟩
  have HB23 := Lib.hid (And.intro (HB22.out.1.grown h (by simp)) (gb_trans HB22.out.2 h)); clear h HB22
  have c := HB23.out.1.cell (i := 23) rfl
  go_wp2_with fail
  clear c
  refine (flatTales_nil _).mono ?_
  rintro e w24 ⟨rfl, h⟩
  have HB24 := Lib.hid (And.intro (HB23.out.1.grown h (by simp)) (gb_trans HB23.out.2 h)); clear h HB23
  go_wp2
  go_ret
  exact ⟨rfl, HB24.out.2⟩
set_option maxRecDepth 100000 in
set_option maxHeartbeats 4000000 in
theorem apartB_none (w : World) : Calls Tryz.prog 21 #[.slice none 0 0] w fun e w' => e = .returned (.bool true) ∧ w.grownBy w' none := by
  go_enter Tryz.func21, Tryz.ntmps21
  have hb0 : Blk (w.alloc (.cells (bagL (.slice none 0 0)).toArray 98)) w.heap.size 98 (bagL (.slice none 0 0)) := Blk.new w _ _
  have H1 := Lib.hid (And.intro hb0 (World.grownBy_alloc w (.cells (bagL (.slice none 0 0)).toArray 98) none)); clear hb0
  generalize hB : w.heap.size = B at H1
  go_wp2_with fail
  go_loopw [4] (fun i wr => i = .int .i64 0 ∧ Hid (Blk wr B 98 (bagL (.slice none 0 0)) ∧ w.grownBy wr none)) (fun i _ => 0)
  case atStart => exact ⟨rfl, H1.out⟩
  case round =>
    clear H1 hB
    obtain ⟨rfl, HI⟩ := hrel
    have HA := Lib.hid (apart_none B wr HI.out.1)
    go_wp2_with fail
    refine HA.out.mono ?_
    rintro e w5 ⟨rfl, hF⟩
    have HJ := Lib.hid (gb_trans HI.out.2 hF); clear hF
    go_wp2
    go_ret
    exact ⟨rfl, HJ.out⟩
end Go.Proofs.YtlkiancedgaicaaGreat
