/- The law ShaApart's walk. -/
import Derived.Test.YtgklkoglcajfpaaDoorShaLawKit
namespace Go.Proofs.YtgklkoglcajfpaaDoor
open Go.RowKit

/-- what stands amid the law: three hashes of these texts -/
structure Three (w wr : World) (X Y Z : Nat) (x y z : List Nat) : Prop where
  g : w.grownBy wr none
  x : IsHash wr X X x
  y : IsHash wr Y Y y
  z : IsHash wr Z Z z
theorem Three.kept {w wr w2 : World} {X Y Z : Nat} {x y z : List Nat} (h : Three w wr X Y Z x y z) (hg : wr.grownBy w2 none) : Three w w2 X Y Z x y z := ⟨gb_trans h.g hg, h.x.kept hg, h.y.kept hg, h.z.kept hg⟩
theorem Tables.drewN {w : World} (h : Tables w) (n : Nat) : Tables (w.drewN n) := ⟨h.k, h.h⟩

theorem two_parts {w : World} {B c0 c1 : Nat} {a0 a1 : Option Addr} {p q : List Nat} (h0 : PartAt w B a0 c0 p) (k0 : c0 < 9223372036854775808) (h1 : PartAt w B a1 c1 q) (k1 : c1 < 9223372036854775808) :
    ∀ x ∈ [Part.mk a0 c0 p, Part.mk a1 c1 q], PartAt w B x.a x.cap x.l ∧ x.cap < 9223372036854775808 := by
  intro x hx
  simp only [List.mem_cons, List.not_mem_nil, or_false] at hx
  rcases hx with rfl | rfl
  · exact ⟨h0, k0⟩
  · exact ⟨h1, k1⟩
theorem three_parts {w : World} {B c0 c1 c2 : Nat} {a0 a1 a2 : Option Addr} {p q r : List Nat} (h0 : PartAt w B a0 c0 p) (k0 : c0 < 9223372036854775808) (h1 : PartAt w B a1 c1 q) (k1 : c1 < 9223372036854775808) (h2 : PartAt w B a2 c2 r) (k2 : c2 < 9223372036854775808) :
    ∀ x ∈ [Part.mk a0 c0 p, Part.mk a1 c1 q, Part.mk a2 c2 r], PartAt w B x.a x.cap x.l ∧ x.cap < 9223372036854775808 := by
  intro x hx
  simp only [List.mem_cons, List.not_mem_nil, or_false] at hx
  rcases hx with rfl | rfl | rfl
  · exact ⟨h0, k0⟩
  · exact ⟨h1, k1⟩
  · exact ⟨h2, k2⟩
theorem joined_two (a0 a1 : Option Addr) (c0 c1 : Nat) (p q : List Nat) : joined [⟨a0, c0, p⟩, ⟨a1, c1, q⟩] = p ++ q := by simp [joined]
theorem joined_three (a0 a1 a2 : Option Addr) (c0 c1 c2 : Nat) (p q r : List Nat) : joined [⟨a0, c0, p⟩, ⟨a1, c1, q⟩, ⟨a2, c2, r⟩] = p ++ (q ++ r) := by simp [joined]

set_option maxRecDepth 100000 in
set_option maxHeartbeats 2000000 in
theorem shaApart_any (a0 a1 : Option Addr) (cap0 cap1 : Nat) (p q : List Nat) (w : World) (hT : Tables w) (hP : PartAt w w.heap.size a0 cap0 p) (hc0 : cap0 < 9223372036854775808)
    (hQ : PartAt w w.heap.size a1 cap1 q) (hc1 : cap1 < 9223372036854775808) (h3 : p.length + q.length ≤ 3000) :
    Calls Tryd.prog 8 #[.slice a0 p.length cap0, .slice a1 q.length cap1] w fun e w' => e = .returned (.bool true) ∧ Below w.heap.size w w' := by
  have HT := Lib.hid hT
  have hw2 := hT.lt
  have HP := Lib.hid (And.intro hP hQ); clear hP hQ hT
  have n3 : (p.length : Int) + (q.length : Int) ≤ 3000 := by omega
  go_enter Tryd.func8, Tryd.ntmps8
  go_wp2_with fail
  refine (awake_any w HT.out).mono ?_
  rintro e w1 ⟨rfl, hg1⟩
  have G1 := Lib.hid hg1; clear hg1
  go_wp2_with fail
  refine (new_any w1 (HT.out.kept G1.out (by simp))).mono ?_
  rintro e w2 ⟨rfl, hg2, hX2⟩
  have hX := G1.out.size
  have G2 := Lib.hid (And.intro (gb_trans G1.out hg2) hX2); clear hg2 hX2 G1
  generalize w1.heap.size = X at *
  go_wp2_with fail
  refine (new_any w2 (HT.out.kept G2.out.1 (by simp))).mono ?_
  rintro e w3 ⟨rfl, hg3, hY3⟩
  have hXY := G2.out.2.lt
  have G3 := Lib.hid (And.intro (gb_trans G2.out.1 hg3) (And.intro (G2.out.2.kept hg3) hY3)); clear hg3 hY3 G2
  generalize w2.heap.size = Y at *
  go_wp2_with fail
  refine (write_one X cap0 p.length [] p a0 w3 rfl (HT.out.kept G3.out.1 (by simp)) (by omega) G3.out.2.1 (HP.out.1.grown G3.out.1 (by omega)) hc0 (by simp only [List.length_nil]; omega)).mono ?_
  rintro e w4 ⟨rfl, hg4, hX4⟩
  have G4 := Lib.hid (And.intro (gb_then G3.out.1 hg4 (by omega)) (And.intro hX4 (G3.out.2.2.grown hg4 (by omega)))); clear hg4 hX4 G3
  go_wp2_with fail
  refine (write_one Y cap1 q.length [] q a1 w4 rfl (HT.out.kept G4.out.1 (by simp)) (by omega) G4.out.2.2 (HP.out.2.grown G4.out.1 (by omega)) hc1 (by simp only [List.length_nil]; omega)).mono ?_
  rintro e w5 ⟨rfl, hg5, hY5⟩
  have G5 := Lib.hid (And.intro (gb_then G4.out.1 hg5 (by omega)) (And.intro (G4.out.2.1.grown hg5 (by omega)) hY5)); clear hg5 hY5 G4
  rw [List.nil_append, List.nil_append] at G5
  go_wp2_with fail
  refine (copy_hash X p w5 G5.out.2.1).mono ?_
  rintro e w6 ⟨rfl, hg6, hZ6⟩
  have hYZ := G5.out.2.2.lt
  have G6 := Lib.hid (Three.mk (gb_trans G5.out.1 hg6) (G5.out.2.1.kept hg6) (G5.out.2.2.kept hg6) hZ6); clear hg6 hZ6 G5
  generalize w5.heap.size = Z at *
  go_wp2_with fail
  refine (write_one X cap1 q.length p q a1 w6 rfl (HT.out.kept G6.out.g (by simp)) (by omega) G6.out.x (HP.out.2.grown G6.out.g (by omega)) hc1 (by omega)).mono ?_
  rintro e w7 ⟨rfl, hg7, hX7⟩
  have G7 := Lib.hid (Three.mk (gb_then G6.out.g hg7 (by omega)) hX7 (G6.out.y.grown hg7 (by omega)) (G6.out.z.grown hg7 (by omega))); clear hg7 hX7 G6
  go_wp2_with fail
  refine (write_one Y cap0 p.length q p a0 w7 rfl (HT.out.kept G7.out.g (by simp)) (by omega) G7.out.y (HP.out.1.grown G7.out.g (by omega)) hc0 (by omega)).mono ?_
  rintro e w8 ⟨rfl, hg8, hY8⟩
  have G8 := Lib.hid (Three.mk (gb_then G7.out.g hg8 (by omega)) (G7.out.x.grown hg8 (by omega)) hY8 (G7.out.z.grown hg8 (by omega))); clear hg8 hY8 G7
  go_wp2_with fail
  refine (write_many Z 2 p [⟨a0, cap0, p⟩, ⟨a1, cap1, q⟩] _ w8 rfl rfl (HT.out.kept G8.out.g (by simp)) (by omega) G8.out.z (two_parts (HP.out.1.grown G8.out.g (by omega)) hc0 (HP.out.2.grown G8.out.g (by omega)) hc1) (by decide) (by rw [joined_two, List.length_append]; omega)).mono ?_
  rintro e w9 ⟨rfl, hg9, hZ9⟩
  rw [joined_two] at hZ9
  have G9 := Lib.hid (Three.mk (gb_then G8.out.g hg9 (by omega)) (G8.out.x.grown hg9 (by omega)) (G8.out.y.grown hg9 (by omega)) hZ9); clear hg9 hZ9 G8
  have G9' := Lib.hid (And.intro G9.out trivial)
  clear G9
  have G9 := G9'
  clear G9'
  have ht9 := G9.out.1.g.size
  go_wp2_with fail
  refine (sum_many (w9.heap.size + 1) 2 [⟨a0, cap0, p⟩, ⟨a1, cap1, q⟩] _ w9 rfl rfl (HT.out.kept G9.out.1.g (by simp)) (by omega) (two_parts (HP.out.1.grown G9.out.1.g (by omega)) hc0 (HP.out.2.grown G9.out.1.g (by omega)) hc1) (by decide) (by rw [joined_two]; simp only [List.length_append]; omega)).mono ?_
  rintro e w10 ⟨D1, rfl, hg10, hN10, hb10⟩
  rw [joined_two] at hb10
  have hN10 := Nat.le_trans G9.out.1.g.size hN10
  have hs10 := G9.out.1.g.size
  have G10 := Lib.hid (And.intro (G9.out.1.kept hg10) hb10); clear hg10 hb10 G9
  have ht10 := G10.out.1.g.size
  go_wp2_with fail
  refine (sum_many (w10.heap.size + 1) 2 [⟨a1, cap1, q⟩, ⟨a0, cap0, p⟩] _ w10 rfl rfl (HT.out.kept G10.out.1.g (by simp)) (by omega) (two_parts (HP.out.2.grown G10.out.1.g (by omega)) hc1 (HP.out.1.grown G10.out.1.g (by omega)) hc0) (by decide) (by rw [joined_two]; simp only [List.length_append]; omega)).mono ?_
  rintro e w11 ⟨D2, rfl, hg11, hN11, hb11⟩
  rw [joined_two] at hb11
  have hN11 := Nat.le_trans G10.out.1.g.size hN11
  have hs11 := G10.out.1.g.size
  have G11 := Lib.hid (And.intro (G10.out.1.kept hg11) (And.intro (G10.out.2.grown hg11 (by simp)) hb11)); clear hg11 hb11 G10
  have ht11 := G11.out.1.g.size
  go_wp2_with fail
  refine (sum_many (w11.heap.size + 1) 3 [⟨a0, cap0, p⟩, ⟨a0, cap0, p⟩, ⟨a1, cap1, q⟩] _ w11 rfl rfl (HT.out.kept G11.out.1.g (by simp)) (by omega) (three_parts (HP.out.1.grown G11.out.1.g (by omega)) hc0 (HP.out.1.grown G11.out.1.g (by omega)) hc0 (HP.out.2.grown G11.out.1.g (by omega)) hc1) (by decide) (by rw [joined_three]; simp only [List.length_append]; omega)).mono ?_
  rintro e w12 ⟨D3, rfl, hg12, hN12, hb12⟩
  rw [joined_three] at hb12
  have hN12 := Nat.le_trans G11.out.1.g.size hN12
  have hs12 := G11.out.1.g.size
  have G12 := Lib.hid (And.intro (G11.out.1.kept hg12) (And.intro (G11.out.2.1.grown hg12 (by simp)) (And.intro (G11.out.2.2.grown hg12 (by simp)) hb12))); clear hg12 hb12 G11
  go_wp2_with fail
  refine (sum_hash X _ w12 (HT.out.kept G12.out.1.g (by simp)) (by simp only [List.length_append]; omega) G12.out.1.x).mono ?_
  rintro e w13 ⟨N12, rfl, hg13, hN13, hb13⟩
  have hs13 := G12.out.1.g.size
  have G13 := Lib.hid (And.intro (G12.out.1.kept hg13) (And.intro (G12.out.2.1.grown hg13 (by simp)) (And.intro (G12.out.2.2.1.grown hg13 (by simp)) (And.intro (G12.out.2.2.2.grown hg13 (by simp)) hb13)))); clear hg13 hb13 G12
  go_wp2_with fail
  refine (same_yes 0 0 64 64 64 64 _ _ (Sha.sum (p ++ q)) w13 rfl rfl (G13.out.2.2.2.2.part (by omega) (sum_byte _)) (G13.out.2.1.part (by omega) (sum_byte _)) (by decide)).mono ?_
  rintro e w14 ⟨rfl, k14, rfl⟩
  have G14 := Lib.hid (And.intro (G13.out.1.kept (gb_drewN (gb_refl _ _) k14)) (And.intro (G13.out.2.1.drewN k14) (And.intro (G13.out.2.2.1.drewN k14) (G13.out.2.2.2.1.drewN k14)))); clear G13
  generalize w13.drewN k14 = w14 at *
  go_wp2_with fail
  refine (sum_hash Y _ w14 (HT.out.kept G14.out.1.g (by simp)) (by simp only [List.length_append]; omega) G14.out.1.y).mono ?_
  rintro e w15 ⟨N14, rfl, hg15, hN15, hb15⟩
  have hs15 := G14.out.1.g.size
  have G15 := Lib.hid (And.intro (G14.out.1.kept hg15) (And.intro (G14.out.2.1.grown hg15 (by simp)) (And.intro (G14.out.2.2.1.grown hg15 (by simp)) (And.intro (G14.out.2.2.2.grown hg15 (by simp)) hb15)))); clear hg15 hb15 G14
  go_wp2_with fail
  refine (same_yes 0 0 64 64 64 64 _ _ (Sha.sum (q ++ p)) w15 rfl rfl (G15.out.2.2.2.2.part (by omega) (sum_byte _)) (G15.out.2.2.1.part (by omega) (sum_byte _)) (by decide)).mono ?_
  rintro e w16 ⟨rfl, k16, rfl⟩
  have G16 := Lib.hid (And.intro (G15.out.1.kept (gb_drewN (gb_refl _ _) k16)) (And.intro (G15.out.2.1.drewN k16) (And.intro (G15.out.2.2.1.drewN k16) (G15.out.2.2.2.1.drewN k16)))); clear G15
  generalize w15.drewN k16 = w16 at *
  go_wp2_with fail
  refine (sum_hash Z _ w16 (HT.out.kept G16.out.1.g (by simp)) (by simp only [List.length_append]; omega) G16.out.1.z).mono ?_
  rintro e w17 ⟨N16, rfl, hg17, hN17, hb17⟩
  have hs17 := G16.out.1.g.size
  have G17 := Lib.hid (And.intro (G16.out.1.kept hg17) (And.intro (G16.out.2.1.grown hg17 (by simp)) (And.intro (G16.out.2.2.1.grown hg17 (by simp)) (And.intro (G16.out.2.2.2.grown hg17 (by simp)) hb17)))); clear hg17 hb17 G16
  go_wp2_with fail
  refine (same_yes 0 0 64 64 64 64 _ _ (Sha.sum (p ++ (p ++ q))) w17 rfl rfl (G17.out.2.2.2.2.part (by omega) (sum_byte _)) (G17.out.2.2.2.1.part (by omega) (sum_byte _)) (by decide)).mono ?_
  rintro e w18 ⟨rfl, k18, rfl⟩
  have hfin := gb_below (gb_drewN G17.out.1.g k18)
  clear G17
  go_wp2
  go_ret
  exact ⟨rfl, hfin⟩

set_option maxHeartbeats 400000 in
/-- too long: true at once -/
theorem shaApart_long (a0 a1 : Option Addr) (len0 cap0 len1 cap1 : Nat) (w : World) (hT : Tables w) (h : 3000 < len0 + len1) (h2 : len0 + len1 < 9223372036854775808) :
    Calls Tryd.prog 8 #[.slice a0 len0 cap0, .slice a1 len1 cap1] w fun e w' => e = .returned (.bool true) ∧ Below w.heap.size w w' := by
  have n3 : (3000 : Int) < (len0 : Int) + (len1 : Int) := by omega
  have n4 : (len0 : Int) + (len1 : Int) < 9223372036854775808 := by omega
  clear h h2
  go_enter Tryd.func8, Tryd.ntmps8
  go_wp2_with fail
  refine (awake_any w hT).mono ?_
  rintro e w1 ⟨rfl, hg1⟩
  have hfin := gb_below hg1
  clear hg1 hT
  go_wp2
  go_ret
  exact ⟨rfl, hfin⟩
end Go.Proofs.YtgklkoglcajfpaaDoor
