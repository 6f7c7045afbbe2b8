/- scalar: MulAdd. -/
import Derived.Test.YtmnlidfalhjghaaGreatDoorScOut
namespace Go.Proofs.YtmnlidfalhjghaaGreatDoor
open Go.RowKit Ow
theorem mul_top (x y z : Nat) (hx : x < 2 ^ 256) (hy : y < 2 ^ 256) (hz : z < 2 ^ 256) : (x * y + z) / 2 ^ (64 * 8) = 0 := by
  have h := Sc.part_lt x y z 4 hy hz
  rw [Sc.part_end x y z hx] at h
  have h2 := div_top (x * y + z) (64 * (4 + 4)) (64 * 8) h (Nat.le_refl _)
  exact h2
set_option maxRecDepth 100000 in
set_option maxHeartbeats 1600000 in
theorem mulAddB_any (ca cb cc Ba Bb Bc : Nat) (a b c : Option Addr) (x y z : List Nat) (w : World) (hx : x.length = 32) (hy : y.length = 32) (hz : z.length = 32) (hA : BytesAt w Ba a ca x) (hB : BytesAt w Bb b cb y) (hC : BytesAt w Bc c cc z) (hT : OTab w) :
    Calls Tryz.prog 19 #[.slice a 32 ca, .slice b 32 cb, .slice c 32 cc] w (OutB (scB (num x * num y + num z)) w) := by
  have hx2 := num_256 x hA.byte (by omega)
  have hy2 := num_256 y hB.byte (by omega)
  have hz2 := num_256 z hC.byte (by omega)
  have hN := mul_top _ _ _ hx2 hy2 hz2
  have HP := Lib.hid (And.intro (And.intro hx hA) (And.intro (And.intro hy hB) (And.intro hz hC))); clear hA hB hC hx hy hz
  have HN := Lib.hid (And.intro hN (And.intro hx2 (And.intro hy2 hz2))); clear hN hx2 hy2 hz2
  have hO : 0 < w.heap.size := hT.lt
  have HT := Lib.hid hT; clear hT
  go_enter Tryz.func19, Tryz.ntmps19
  have hb := Blk.new w zeros12 46
  have hg := gb_alloc (gb_refl w none) (.cells zeros12.toArray 46)
  have hb0 : Blk (w.alloc (.cells zeros12.toArray 46)) w.heap.size 46 ([.int .u64 0, .int .u64 0, .int .u64 0, .int .u64 0, .int .u64 0, .int .u64 0, .int .u64 0, .int .u64 0] ++ [.int .u64 0, .int .u64 0, .int .u64 0, .int .u64 0]) := hb
  have HB := Lib.hid hb0; clear hb hb0
  have HG := Lib.hid hg; clear hg
  go_wp2_with fail
  refine (narrowOf_any 32 ca Ba a x _ HP.out.1.1 (by omega) (HP.out.1.2.stay HG.out)).mono ?_
  rintro e w1 ⟨rfl, hg1⟩
  have HG1 := Lib.hid (gb_trans HG.out hg1)
  have HB1 := Lib.hid (HB.out.grown hg1 (by simp)); clear hg1
  go_wp2_with fail
  refine (narrowOf_any 32 cb Bb b y w1 HP.out.2.1.1 (by omega) (HP.out.2.1.2.stay HG1.out)).mono ?_
  rintro e w2 ⟨rfl, hg2⟩
  have HG2 := Lib.hid (gb_trans HG1.out hg2)
  have HB2 := Lib.hid (HB1.out.grown hg2 (by simp)); clear hg2
  go_wp2_with fail
  refine (narrowOf_any 32 cc Bc c z w2 HP.out.2.2.1 (by omega) (HP.out.2.2.2.stay HG2.out)).mono ?_
  rintro e w3 ⟨rfl, hg3⟩
  have HG3 := Lib.hid (gb_trans HG2.out hg3)
  have HB3 := Lib.hid (HB2.out.grown hg3 (by simp)); clear hg3
  go_wp2_with fail
  refine (mulAdd_any w.heap.size (num x) (num y) (num z) _ _ _ w3 rfl HN.out.2.1 HN.out.2.2.1 HN.out.2.2.2 HB3.out).mono ?_
  rintro e w4 ⟨rfl, hg4, hb4⟩
  have HG4 := Lib.hid (gb_then HG3.out hg4 (Nat.le_refl _)); clear hg4
  have HB4 := Lib.hid hb4; clear hb4
  go_wp2_with fail
  refine (modulo_any w.heap.size (num x * num y + num z) _ _ _ _ _ w4 HN.out.1 (HT.out.kept HG4.out (fun r e => by cases e)) hO HB4.out).mono ?_
  rintro e w5 ⟨rfl, hg5, _⟩
  have HG5 := Lib.hid (gb_then HG4.out hg5 (Nat.le_refl _)); clear hg5
  go_wp2_with fail
  refine (nbytes_any ((num x * num y + num z) % Sc.L) w5).mono ?_
  rintro e w6 ⟨g, rfl, hg6, ho6⟩
  have HO := Lib.hid (And.intro hg6 ho6); clear hg6 ho6
  go_wp2
  go_ret
  exact out_of HG5.out HO.out.1 HO.out.2 _ rfl
end Go.Proofs.YtmnlidfalhjghaaGreatDoor
