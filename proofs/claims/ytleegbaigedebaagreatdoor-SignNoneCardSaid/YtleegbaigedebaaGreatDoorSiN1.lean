/- texts merged, part 1: XSiNone -/
import Derived.Test.YtleegbaigedebaaGreatDoorSiB6
namespace Go.Proofs.YtleegbaigedebaaGreatDoor
/- sign: SignNone. -/
section
open Go.RowKit Ow Go.Shelf Ed
set_option maxRecDepth 100000 in
set_option maxHeartbeats 12800000 in
theorem signNone_any (n0 c0 n1 c1 n2 c2 n3 c3 B : Nat) (a0 a1 a2 a3 : Option Addr) (l1 l2 l3 : List Nat) (w0 : World) (HO : OTab w0) (HT : ETab w0) (HS : Tables w0) (hl1 : l1.length = n1) (hl2 : l2.length = n2) (hl3 : l3.length = n3)
  (hp1 : BytesAt w0 B a1 c1 l1) (hp2 : BytesAt w0 B a2 c2 l2) (hp3 : BytesAt w0 B a3 c3 l3) :
  Calls Tryz.prog 5 #[.slice a0 n0 c0, .slice a1 n1 c1, .slice a2 n2 c2, .slice a3 n3 c3] w0 fun e w' => e = .returned (.bool true) ∧ w0.grownBy w' none := by
 have HH := Lib.hid (And.intro HO (And.intro HT HS)); clear HO HT HS
 have HP1 := Lib.hid (And.intro hl1 hp1); clear hl1 hp1
 have HP2 := Lib.hid (And.intro hl2 hp2); clear hl2 hp2
 have HP3 := Lib.hid (And.intro hl3 hp3); clear hl3 hp3
 go_enter Tryz.func5, Tryz.ntmps5
 go_wp2_with fail
 refine (awake5_any w0 HH.out.1 HH.out.2.1 HH.out.2.2).mono ?_
 rintro e w1 ⟨rfl, ga⟩
 have HG := Lib.hid ga; clear ga
 by_cases h0 : 300 < n0
 case pos =>
  have i0 : (300 : Int) < n0 := by omega
  go_wp2
  go_ret
  exact ⟨rfl, HG.out⟩
 have i0 : ¬ (300 : Int) < n0 := by omega
 by_cases h1 : 300 < n1
 case pos =>
  have i1 : (300 : Int) < n1 := by omega
  go_wp2
  go_ret
  exact ⟨rfl, HG.out⟩
 have i1 : ¬ (300 : Int) < n1 := by omega
 by_cases h2 : 300 < n2
 case pos =>
  have i2 : (300 : Int) < n2 := by omega
  go_wp2
  go_ret
  exact ⟨rfl, HG.out⟩
 have i2 : ¬ (300 : Int) < n2 := by omega
 by_cases h3 : 1000 < n3
 case pos =>
  have i3 : (1000 : Int) < n3 := by omega
  go_wp2
  go_ret
  exact ⟨rfl, HG.out⟩
 have i3 : ¬ (1000 : Int) < n3 := by omega
 by_cases k : n0 = 32
 ·subst k
  by_cases k1 : n1 = 32 ∧ n2 = 64
  ·obtain ⟨rfl, rfl⟩ := k1
   go_wp2
   go_ret
   exact ⟨rfl, HG.out⟩
  ·by_cases k2 : n2 = 64
   ·have k3 : n1 ≠ 32 := fun e => k1 ⟨e, k2⟩
    subst k2
    have j1 : ¬ (n1 : Int) = 32 := by omega
    go_wp2_with fail
    have gz := gb_alloc HG.out (.cells #[.slice a3 n3 c3] 22)
    refine (verify_any l1 l2 n1 c1 _ c2 _ 1 1 _ a1 a2 _ [⟨a3, c3, l3⟩] _ (HH.out.1.kept gz (fun b e => by cases e)) (HH.out.2.1.grown gz) (HH.out.2.2.kept gz (fun b e => by cases e)) HP1.out.1 (by omega) (Lib.hid (HP1.out.2.stay gz)) HP2.out.1 (Lib.hid (HP2.out.2.stay gz)) rfl (Lib.hid (parts1 HP3.out.1 (Blk.new w1 [.slice a3 n3 c3] 22) (HP3.out.2.stay gz))) (by decide) (by rw [part_one, HP3.out.1]; omega)).mono ?_
    rintro e w9 ⟨b, rfl, ga, hv⟩
    have hb : b = false := by
     cases b with
     | false => rfl
     | true => exact absurd (HP1.out.1.symm.trans (hv.1 rfl).1) k3
    subst hb
    have HG2 := Lib.hid (gb_trans gz ga); clear gz ga hv
    go_wp2
    go_ret
    exact ⟨rfl, HG2.out⟩
   ·have j2 : ¬ (n2 : Int) = 64 := by omega
    by_cases k3 : n1 = 32
    ·subst k3
     go_wp2_with fail
     have gz := gb_alloc HG.out (.cells #[.slice a3 n3 c3] 22)
     refine (verify_no 32 c1 n2 c2 1 1 a1 a2 _ _ k2).mono ?_
     rintro e w9 ⟨rfl, ga⟩
     have HG2 := Lib.hid (gb_trans gz ga); clear gz ga
     go_wp2
     go_ret
     exact ⟨rfl, HG2.out⟩
    ·have j1 : ¬ (n1 : Int) = 32 := by omega
     go_wp2_with fail
     have gz := gb_alloc HG.out (.cells #[.slice a3 n3 c3] 22)
     refine (verify_no n1 c1 n2 c2 1 1 a1 a2 _ _ k2).mono ?_
     rintro e w9 ⟨rfl, ga⟩
     have HG2 := Lib.hid (gb_trans gz ga); clear gz ga
     go_wp2
     go_ret
     exact ⟨rfl, HG2.out⟩
 ·have i4 : ¬ (n0 : Int) = 32 := by omega
  go_wp2_with fail
  refine (pub_no n0 c0 a0 w1 k).mono ?_
  rintro e w2 ⟨rfl, ga⟩
  have HG2 := Lib.hid (gb_trans HG.out ga); clear ga HG
  go_wp2_with fail
  have gz := gb_alloc HG2.out (.cells #[.slice a3 n3 c3] 22)
  refine (sign_no n0 c0 1 1 a0 _ _ k).mono ?_
  rintro e w3 ⟨rfl, ga⟩
  have HG := Lib.hid (gb_trans gz ga); clear gz ga HG2
  by_cases k1 : n1 = 32 ∧ n2 = 64
  ·obtain ⟨rfl, rfl⟩ := k1
   go_wp2
   go_ret
   exact ⟨rfl, HG.out⟩
  ·by_cases k2 : n2 = 64
   ·have k3 : n1 ≠ 32 := fun e => k1 ⟨e, k2⟩
    subst k2
    have j1 : ¬ (n1 : Int) = 32 := by omega
    go_wp2_with fail
    have gz := gb_alloc HG.out (.cells #[.slice a3 n3 c3] 22)
    refine (verify_any l1 l2 n1 c1 _ c2 _ 1 1 _ a1 a2 _ [⟨a3, c3, l3⟩] _ (HH.out.1.kept gz (fun b e => by cases e)) (HH.out.2.1.grown gz) (HH.out.2.2.kept gz (fun b e => by cases e)) HP1.out.1 (by omega) (Lib.hid (HP1.out.2.stay gz)) HP2.out.1 (Lib.hid (HP2.out.2.stay gz)) rfl (Lib.hid (parts1 HP3.out.1 (Blk.new w3 [.slice a3 n3 c3] 22) (HP3.out.2.stay gz))) (by decide) (by rw [part_one, HP3.out.1]; omega)).mono ?_
    rintro e w9 ⟨b, rfl, ga, hv⟩
    have hb : b = false := by
     cases b with
     | false => rfl
     | true => exact absurd (HP1.out.1.symm.trans (hv.1 rfl).1) k3
    subst hb
    have HG2 := Lib.hid (gb_trans gz ga); clear gz ga hv
    go_wp2
    go_ret
    exact ⟨rfl, HG2.out⟩
   ·have j2 : ¬ (n2 : Int) = 64 := by omega
    by_cases k3 : n1 = 32
    ·subst k3
     go_wp2_with fail
     have gz := gb_alloc HG.out (.cells #[.slice a3 n3 c3] 22)
     refine (verify_no 32 c1 n2 c2 1 1 a1 a2 _ _ k2).mono ?_
     rintro e w9 ⟨rfl, ga⟩
     have HG2 := Lib.hid (gb_trans gz ga); clear gz ga
     go_wp2
     go_ret
     exact ⟨rfl, HG2.out⟩
    ·have j1 : ¬ (n1 : Int) = 32 := by omega
     go_wp2_with fail
     have gz := gb_alloc HG.out (.cells #[.slice a3 n3 c3] 22)
     refine (verify_no n1 c1 n2 c2 1 1 a1 a2 _ _ k2).mono ?_
     rintro e w9 ⟨rfl, ga⟩
     have HG2 := Lib.hid (gb_trans gz ga); clear gz ga
     go_wp2
     go_ret
     exact ⟨rfl, HG2.out⟩
end
end Go.Proofs.YtleegbaigedebaaGreatDoor
