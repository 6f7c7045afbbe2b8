/- scalar: bringDown: a word is put below the rest, and orders are taken off. -/
import Derived.Test.YtmnlidfalhjghaaGreatDoorScOff
namespace Go.Proofs.YtmnlidfalhjghaaGreatDoor
open Go.RowKit

theorem recL_get (X : List Value) (hX : X.length = 8) (n : Nat) : (recL X n)[8]? = some (wV n 0) ∧ (recL X n)[9]? = some (wV n 1) ∧ (recL X n)[10]? = some (wV n 2) ∧ (recL X n)[11]? = some (wV n 3) := by
  unfold recL
  refine ⟨?_, ?_, ?_, ?_⟩ <;> (rw [List.getElem?_append_right (by omega), hX]; rfl)
theorem down_set (X : List Value) (hX : X.length = 8) (n x : Nat) (hx : x < 18446744073709551616) :
    ((((recL X n).set 8 (u64N x)).set 9 (wV n 0)).set 10 (wV n 1)).set 11 (wV n 2) = recL X (Sc.down n x) := by
  obtain ⟨h0, h1, h2, h3, _⟩ := Sc.down_words n x hx
  unfold recL wV
  rw [h0, h1, h2, h3]
  rw [List.set_append_right _ _ (by omega), List.set_append_right _ _ (by omega), List.set_append_right _ _ (by omega), List.set_append_right _ _ (by omega), hX]
  rfl
set_option maxHeartbeats 1600000 in
theorem bringDown_any (R n x : Nat) (T : TypeId) (X : List Value) (w : World) (hX : X.length = 8) (hx : x < 18446744073709551616) (hT : OTab w) (hR : 0 < R) (hb : Blk w R T (recL X n)) :
    Calls Tryz.prog 40 #[.pointer (some ⟨R, 0, none⟩), .int .u64 x] w fun e w' => e = .returned (.tuple #[]) ∧ w.grownBy w' (some R) ∧ Blk w' R T (recL X (Sc.restN n x)) := by
  obtain ⟨g0, g1, g2, g3⟩ := recL_get X hX n
  have c0 := hb.cell g0
  have c1 := hb.cell g1
  have c2 := hb.cell g2
  have c3 := hb.cell g3
  have f0 := hb.free 8
  have f1 := hb.free 9
  have f2 := hb.free 10
  have f3 := hb.free 11
  clear g0 g1 g2 g3
  have HS := Lib.hid (down_set X hX n x hx)
  have HX := Lib.hid hX; clear hX
  have HT := Lib.hid hT; clear hT
  have HB := Lib.hid hb; clear hb
  unfold wV u64N at c0 c1 c2 c3
  go_enter Tryz.func40, Tryz.ntmps40
  go_wp2
  go_region
  all_goals go_wp2_with fail
  have hb1 := (((((HB.out.set 8 (u64N x)).set 9 (wV n 0)).set 10 (wV n 1)).set 11 (wV n 2))).drew
  have hg1 := gb_drew (gb_set (gb_set (gb_set (gb_set (gb_refl w (some R)) 8 (u64N x)) 9 (wV n 0)) 10 (wV n 1)) 11 (wV n 2))
  rw [HS.out] at hb1
  unfold wV u64N at hb1 hg1
  revert hb1 hg1
  generalize ((((w.setCell ⟨R, 8, none⟩ (Value.int IntKind.u64 (x : Int))).setCell ⟨R, 9, none⟩ (Value.int IntKind.u64 (Sc.wrd n 0 : Int))).setCell ⟨R, 10, none⟩ (Value.int IntKind.u64 (Sc.wrd n 1 : Int))).setCell ⟨R, 11, none⟩ (Value.int IntKind.u64 (Sc.wrd n 2 : Int))).drew = w1
  intro hb1 hg1
  have HB1 := Lib.hid hb1; clear hb1 HB
  have HG1 := Lib.hid hg1; clear hg1
  clear c0 c1 c2 c3 f0 f1 f2 f3
  refine (sguess_any (Sc.wrd n 3) (Sc.wrd n 2) w1 (Sc.wrd_lt n 3) (Sc.wrd_lt n 2)).mono ?_
  rintro e w' ⟨rfl, rfl⟩
  have hgl := Sc.guess_lt (Sc.wrd n 3) (Sc.wrd n 2) (Sc.wrd_lt n 2)
  have hT1 := HT.out.kept HG1.out (fun r e => by cases e; exact hR)
  have ht := takeOff_any R (Sc.down n x) (Sc.guessN (Sc.wrd n 3) (Sc.wrd n 2)) T X w1 HX.out (Sc.down_words n x hx).2.2.2.2 hgl hT1 HB1.out
  have hr : Hid (Sc.restN n x = if Sc.wrd n 3 < Sc.offO (Sc.down n x) (Sc.guessN (Sc.wrd n 3) (Sc.wrd n 2)) then Sc.backN (Sc.offN (Sc.down n x) (Sc.guessN (Sc.wrd n 3) (Sc.wrd n 2))) else Sc.offN (Sc.down n x) (Sc.guessN (Sc.wrd n 3) (Sc.wrd n 2))) := rfl
  clear hgl hT1
  generalize Sc.guessN (Sc.wrd n 3) (Sc.wrd n 2) = q at *
  generalize Sc.offO (Sc.down n x) q = o at *
  generalize Sc.offN (Sc.down n x) q = m at *
  generalize Sc.wrd n 3 = top at *
  have HTO := Lib.hid ht; clear ht
  by_cases hlt : top < o
  · have hlt' : decide ((top : Int) < (o : Int)) = true := by simpa using hlt
    go_wp2_with fail
    refine HTO.out.mono ?_
    rintro e w2 ⟨rfl, hg2, hb2⟩
    have HG2 := Lib.hid (gb_trans HG1.out hg2); clear hg2
    have HB2 := Lib.hid hb2; clear hb2
    go_wp2_with fail
    refine (putBack_any R m T X w2 HX.out (HT.out.kept HG2.out (fun r e => by cases e; exact hR)) HB2.out).mono ?_
    rintro e w3 ⟨rfl, hg3, hb3⟩
    have HG3 := Lib.hid (gb_trans HG2.out hg3); clear hg3
    have HB3 := Lib.hid hb3; clear hb3
    go_wp2
    go_end0
    exact ⟨rfl, HG3.out, by rw [hr.out, if_pos hlt]; exact HB3.out⟩
  · have hlt' : decide ((top : Int) < (o : Int)) = false := by simpa using hlt
    go_wp2_with fail
    refine HTO.out.mono ?_
    rintro e w2 ⟨rfl, hg2, hb2⟩
    have HG2 := Lib.hid (gb_trans HG1.out hg2); clear hg2
    have HB2 := Lib.hid hb2; clear hb2
    go_wp2
    go_end0
    exact ⟨rfl, HG2.out, by rw [hr.out, if_neg hlt]; exact HB2.out⟩
end Go.Proofs.YtmnlidfalhjghaaGreatDoor
