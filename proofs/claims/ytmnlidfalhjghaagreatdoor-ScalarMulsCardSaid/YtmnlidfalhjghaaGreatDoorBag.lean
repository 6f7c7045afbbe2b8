/- The kit's bag, lists of bytes in it alone: apart. (gen_bag.py) -/
import Derived.Test.YtmnlidfalhjghaaGreatDoorFlatB
import Derived.Test.YtmnlidfalhjghaaGreatDoorFlatNil
namespace Go.Proofs.YtmnlidfalhjghaaGreatDoor
open Go.RowKit Ow

theorem Lists.Apart.mono {V : Lists} {m LB a b : Nat} (h : V.Apart m LB a) (hab : a ≤ b) : V.Apart m LB b := ⟨h.apart, h.ls, fun j hj i e => Nat.lt_of_lt_of_le (h.old j hj i e) hab, h.small⟩
/-- what lies in a bag -/
structure BagB (w : World) (B LB m C : Nat) : Prop where
  lt : B < w.heap.size
  nil : ∀ i, i < 24 → i ≠ 5 → w.cell? ⟨B, i, none⟩ = some (.slice none 0 0)
  five : w.cell? ⟨B, 5, none⟩ = some (.slice (some ⟨LB, 0, none⟩) m C)
theorem BagB.stay {w w' : World} {B LB m C : Nat} (h : BagB w B LB m C) (hg : w.grownBy w' none) : BagB w' B LB m C :=
  ⟨Nat.lt_of_lt_of_le h.lt hg.size, fun i hi h5 => by rw [gb_cell hg h.lt (by simp)]; exact h.nil i hi h5, by rw [gb_cell hg h.lt (by simp)]; exact h.five⟩
theorem BagB.kb {S : Nat → Prop} {w w' : World} {B LB m C : Nat} (h : BagB w B LB m C) (hk : Kb S w w') (hs : ¬ S B) : BagB w' B LB m C :=
  ⟨Nat.lt_of_lt_of_le h.lt hk.size, fun i hi h5 => by rw [hk.cell (p := ⟨B, i, none⟩) h.lt hs]; exact h.nil i hi h5, by rw [hk.cell (p := ⟨B, 5, none⟩) h.lt hs]; exact h.five⟩
theorem FlatAt.from {V : Lists} {m LB : Nat} {w w1 w2 : World} {r : Nat → List Value} (h : FlatAt V m LB w1 w2 r) (hg : w.grownBy w1 none) : FlatAt V m LB w w2 r :=
  ⟨h.own, h.list, kb_trans (kb_stay (kb_refl _ _) hg) h.kept⟩
set_option maxRecDepth 100000 in
set_option maxHeartbeats 4000000 in
theorem apart_bytes {f : Nat → Nat → Nat} (hf : Marks f) (V : Lists) (m LB C B : Nat) (xs : Nat → List Value) (w : World) (hm : m ≤ 70000) (hC : m ≤ C) (hC2 : C < 9223372036854775808) (hV : V.Apart m LB w.heap.size) (hO : Owns w V m xs) (hL : ListAt w LB V m) (hB : BagB w B LB m C) (hBV : ∀ j, j < m → V.g j ≠ some B) :
    Calls Tryz.prog 33 #[.pointer (some ⟨B, 0, none⟩)] w fun e w' => e = .returned (.bool true) ∧ FlatAt V m LB w w' (fun j => mkV f j (V.n j)) := by
  have H := Lib.hid (And.intro hV (And.intro hO (And.intro hL hBV))); clear hV hO hL hBV
  have HF := Lib.hid hf; clear hf
  have HB0 := Lib.hid (And.intro hB (gb_refl w none)); clear hB
  have HM := Lib.hid (And.intro hm (And.intro hC hC2))
  go_enter Tryz.func33, Tryz.ntmps33
  have c := HB0.out.1.nil 0 (by decide) (by decide)
  go_wp2_with fail
  clear c
  refine (flatLimbs_nil _).mono ?_
  rintro e w1 ⟨rfl, h⟩
  have HB1 := Lib.hid (And.intro (HB0.out.1.stay h) (gb_trans HB0.out.2 h)); clear h HB0
  have c := HB1.out.1.nil 1 (by decide) (by decide)
  go_wp2_with fail
  clear c
  refine (flatWords_nil _).mono ?_
  rintro e w2 ⟨rfl, h⟩
  have HB2 := Lib.hid (And.intro (HB1.out.1.stay h) (gb_trans HB1.out.2 h)); clear h HB1
  have c := HB2.out.1.nil 2 (by decide) (by decide)
  go_wp2_with fail
  clear c
  refine (flatInts_nil _).mono ?_
  rintro e w3 ⟨rfl, h⟩
  have HB3 := Lib.hid (And.intro (HB2.out.1.stay h) (gb_trans HB2.out.2 h)); clear h HB2
  have c := HB3.out.1.nil 3 (by decide) (by decide)
  go_wp2_with fail
  clear c
  refine (flatLongs_nil _).mono ?_
  rintro e w4 ⟨rfl, h⟩
  have HB4 := Lib.hid (And.intro (HB3.out.1.stay h) (gb_trans HB3.out.2 h)); clear h HB3
  have c := HB4.out.1.nil 4 (by decide) (by decide)
  go_wp2_with fail
  clear c
  refine (flatTexts_nil _).mono ?_
  rintro e w5 ⟨rfl, h⟩
  have HB5 := Lib.hid (And.intro (HB4.out.1.stay h) (gb_trans HB4.out.2 h)); clear h HB4
  have c := HB5.out.1.five
  go_wp2_with fail
  clear c
  refine (flatB_any HF.out V m LB C xs _ HM.out.1 HM.out.2.1 HM.out.2.2 (H.out.1.mono HB5.out.2.size) (H.out.2.1.stay HB5.out.2) (H.out.2.2.1.grown HB5.out.2 (by simp))).mono ?_
  rintro e w6 ⟨rfl, h⟩
  have HB6 := Lib.hid (And.intro (HB5.out.1.kb h.kept (fun ⟨j, hj, e⟩ => H.out.2.2.2 j hj e)) (h.from HB5.out.2)); clear h HB5
  have c := HB6.out.1.nil 6 (by decide) (by decide)
  go_wp2_with fail
  clear c
  refine (flatTruths_nil _).mono ?_
  rintro e w7 ⟨rfl, h⟩
  have HB7 := Lib.hid (And.intro (HB6.out.1.stay h) (HB6.out.2.stay h)); clear h HB6
  have c := HB7.out.1.nil 7 (by decide) (by decide)
  go_wp2_with fail
  clear c
  refine (flatRows_nil _).mono ?_
  rintro e w8 ⟨rfl, h⟩
  have HB8 := Lib.hid (And.intro (HB7.out.1.stay h) (HB7.out.2.stay h)); clear h HB7
  have c := HB8.out.1.nil 8 (by decide) (by decide)
  go_wp2_with fail
  clear c
  refine (flatDots_nil _).mono ?_
  rintro e w9 ⟨rfl, h⟩
  have HB9 := Lib.hid (And.intro (HB8.out.1.stay h) (HB8.out.2.stay h)); clear h HB8
  have c := HB9.out.1.nil 9 (by decide) (by decide)
  go_wp2_with fail
  clear c
  refine (flatRecords_nil _).mono ?_
  rintro e w10 ⟨rfl, h⟩
  have HB10 := Lib.hid (And.intro (HB9.out.1.stay h) (HB9.out.2.stay h)); clear h HB9
  have c := HB10.out.1.nil 10 (by decide) (by decide)
  go_wp2_with fail
  clear c
  refine (flatLeaves_nil _).mono ?_
  rintro e w11 ⟨rfl, h⟩
  have HB11 := Lib.hid (And.intro (HB10.out.1.stay h) (HB10.out.2.stay h)); clear h HB10
  have c := HB11.out.1.nil 11 (by decide) (by decide)
  go_wp2_with fail
  clear c
  refine (flatGrants_nil _).mono ?_
  rintro e w12 ⟨rfl, h⟩
  have HB12 := Lib.hid (And.intro (HB11.out.1.stay h) (HB11.out.2.stay h)); clear h HB11
  have c := HB12.out.1.nil 12 (by decide) (by decide)
  go_wp2_with fail
  clear c
  refine (flatNodes_nil _).mono ?_
  rintro e w13 ⟨rfl, h⟩
  have HB13 := Lib.hid (And.intro (HB12.out.1.stay h) (HB12.out.2.stay h)); clear h HB12
  have c := HB13.out.1.nil 13 (by decide) (by decide)
  go_wp2_with fail
  clear c
  refine (flatStubs_nil _).mono ?_
  rintro e w14 ⟨rfl, h⟩
  have HB14 := Lib.hid (And.intro (HB13.out.1.stay h) (HB13.out.2.stay h)); clear h HB13
  have c := HB14.out.1.nil 14 (by decide) (by decide)
  go_wp2_with fail
  clear c
  refine (flatProofs_nil _).mono ?_
  rintro e w15 ⟨rfl, h⟩
  have HB15 := Lib.hid (And.intro (HB14.out.1.stay h) (HB14.out.2.stay h)); clear h HB14
  have c := HB15.out.1.nil 15 (by decide) (by decide)
  go_wp2_with fail
  clear c
  refine (flatRoots_nil _).mono ?_
  rintro e w16 ⟨rfl, h⟩
  have HB16 := Lib.hid (And.intro (HB15.out.1.stay h) (HB15.out.2.stay h)); clear h HB15
  have c := HB16.out.1.nil 16 (by decide) (by decide)
  go_wp2_with fail
  clear c
  refine (flatEvidenceRow_nil _).mono ?_
  rintro e w17 ⟨rfl, h⟩
  have HB17 := Lib.hid (And.intro (HB16.out.1.stay h) (HB16.out.2.stay h)); clear h HB16
  have c := HB17.out.1.nil 17 (by decide) (by decide)
  go_wp2_with fail
  clear c
  refine (flatFrames_nil _).mono ?_
  rintro e w18 ⟨rfl, h⟩
  have HB18 := Lib.hid (And.intro (HB17.out.1.stay h) (HB17.out.2.stay h)); clear h HB17
  have c := HB18.out.1.nil 18 (by decide) (by decide)
  go_wp2_with fail
  clear c
  refine (flatPackets_nil _).mono ?_
  rintro e w19 ⟨rfl, h⟩
  have HB19 := Lib.hid (And.intro (HB18.out.1.stay h) (HB18.out.2.stay h)); clear h HB18
  have c := HB19.out.1.nil 19 (by decide) (by decide)
  go_wp2_with fail
  clear c
  refine (flatEntries_nil _).mono ?_
  rintro e w20 ⟨rfl, h⟩
  have HB20 := Lib.hid (And.intro (HB19.out.1.stay h) (HB19.out.2.stay h)); clear h HB19
  have c := HB20.out.1.nil 20 (by decide) (by decide)
  go_wp2_with fail
  clear c
  refine (flatHeldRow_nil _).mono ?_
  rintro e w21 ⟨rfl, h⟩
  have HB21 := Lib.hid (And.intro (HB20.out.1.stay h) (HB20.out.2.stay h)); clear h HB20
  have c := HB21.out.1.nil 21 (by decide) (by decide)
  go_wp2_with fail
  clear c
  refine (flatConfigs_nil _).mono ?_
  rintro e w22 ⟨rfl, h⟩
  have HB22 := Lib.hid (And.intro (HB21.out.1.stay h) (HB21.out.2.stay h)); clear h HB21
  have c := HB22.out.1.nil 22 (by decide) (by decide)
  go_wp2_with fail
  clear c
  refine (flatSteps_nil _).mono ?_
  rintro e w23 ⟨rfl, h⟩
  have HB23 := Lib.hid (And.intro (HB22.out.1.stay h) (HB22.out.2.stay h)); clear h HB22
  have c := HB23.out.1.nil 23 (by decide) (by decide)
  go_wp2_with fail
  clear c
  refine (flatTales_nil _).mono ?_
  rintro e w24 ⟨rfl, h⟩
  have HB24 := Lib.hid (And.intro (HB23.out.1.stay h) (HB23.out.2.stay h)); clear h HB23
  go_wp2
  go_ret
  exact ⟨rfl, HB24.out.2⟩
end Go.Proofs.YtmnlidfalhjghaaGreatDoor
