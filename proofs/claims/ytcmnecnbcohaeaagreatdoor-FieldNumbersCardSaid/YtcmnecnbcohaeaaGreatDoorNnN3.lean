/- texts merged -/
import Derived.Test.YtcmnecnbcohaeaaGreatDoorNnN2
import Derived.Test.YtcmnecnbcohaeaaGreatDoorChecked
import Derived.Test.YtcmnecnbcohaeaaGreatDoorGtB1
import Derived.ProofKit
import Derived.OpenShut
import Derived.ShutString
import Derived.ChangeOld
import Derived.Deep.DeepHandedRow
import Derived.Lib.LaidTab
import Derived.SizedLaws
import Derived.Test.YtcmnecnbcohaeaaGreatDoorGtB2
import Derived.Test.YtcmnecnbcohaeaaGreatDoorCards
import Derived.Test.YtcmnecnbcohaeaaGreatDoorTie
namespace Go.Proofs.YtcmnecnbcohaeaaGreatDoor
section
open Go.RowKit Ns Ow
namespace Nn
def prt : List Nat := [0, 1, 18, 19, 2251799813685228, 2251799813685229, 2251799813685230, 2251799813685247, 2251799813685248, 4503599627370495]
def prtL : List Value := prt.map fun (n : Nat) => Value.int .u64 (n : Int)
theorem prt_lt (i : Nat) : prt.getD i 0 < 4503599627370496 := by
 rcases Nat.lt_or_ge i 10 with h | h
 ·have : ∀ j : Fin 10, prt.getD j.1 0 < 4503599627370496 := by decide
  exact this ⟨i, h⟩
 ·rw [List.getD_eq_getElem?_getD, List.getElem?_eq_none (by exact h)]; decide
theorem prt_at (i : Nat) (h : i < 10) : prtL[i]? = some (.int .u64 ((prt.getD i 0 : Nat) : Int)) := by
 unfold prtL
 rw [List.getElem?_map, List.getElem?_eq_getElem (show i < prt.length from h), List.getD_eq_getElem?_getD, List.getElem?_eq_getElem (show i < prt.length from h)]; rfl
theorem one_ok (x y : Nat) (hx : x < 4503599627370496) (hy : y < 4503599627370496) : Fe.Ok ⟨x, y, y, y, y⟩ := by constructor <;> simp <;> omega
theorem two_ok (x y : Nat) (hx : x < 4503599627370496) (hy : y < 4503599627370496) : Fe.Ok ⟨x, 0, 0, 0, y⟩ := by constructor <;> simp <;> omega
def itE (a b : Fe) : Fg.It := ⟨fun v w => ∃ N, v = .slice (some ⟨N, 0, none⟩) 2 2 ∧ Blk w N 27 (feL a ++ feL b), fun _ _ _ ⟨N, e, h⟩ hg => ⟨N, e, h.gn hg⟩⟩
structure All (w1 wr : World) (v : Value) (L : List Fe) : Prop where
 g : w1.grownBy wr none
 own : OwnE wr w1.heap.size v L
 ok : ∀ a ∈ L, a.Ok
theorem All.stay {w1 wr w' : World} {v : Value} {L : List Fe} (h : All w1 wr v L) (hg : wr.grownBy w' none) : All w1 w' v L := ⟨gb_trans h.g hg, h.own.kept hg (by cases v.ownBlock <;> simp), h.ok⟩
theorem All.at {w1 wr : World} {v : Value} {L : List Fe} (h : All w1 wr v L) (i : Nat) (hi : i < L.length) : (L.getD i Fe.zeroF).Ok := by
 rw [List.getD_eq_getElem?_getD, List.getElem?_eq_getElem hi]; exact h.ok _ (List.getElem_mem hi)
set_option maxRecDepth 100000 in
set_option maxHeartbeats 8000000 in
theorem nums_any {f : Nat → Nat → Nat} (hf : Marks f) (w0 : World) (hT : FTab w0) : Calls Tryz.prog 4 #[] w0 fun e w' => e = .returned (.bool true) ∧ w0.grownBy w' none := by
 have HT := Lib.hid hT; clear hT
 have HF := Lib.hid hf; clear hf
 have CR : Hid (∀ (a b : Fe) (w : World), w0.grownBy w none → a.Ok → b.Ok → Calls Tryz.prog 14 #[a.v, b.v] w fun e w' => e = .returned (.bool true) ∧ w.grownBy w' none) := Lib.hid fun a b w hg ha hb => reck_any a b w (HT.out.grown hg) ha hb
 have CP : Hid (∀ (a b : Fe) (w : World), w0.grownBy w none → a.Ok → b.Ok → Calls Tryz.prog 15 #[a.v, b.v] w fun e w' => e = .returned (.bool true) ∧ w.grownBy w' none) := Lib.hid fun a b w hg ha hb => Nr.powers_any a b w (HT.out.grown hg) ha hb
 have CG : Hid (∀ (n c B : Nat) (a : Option Addr) (p : List Nat) (w : World), w0.grownBy w none → p.length = n → BytesAt w B a c p → Calls Tryz.prog 3 #[.slice a n c] w fun e w' => e = .returned (.bool true) ∧ w.grownBy w' none) := Lib.hid fun n c B a p w hg hn hP => Nr.gets_any HF.out n c B a p w (HT.out.grown hg) hn hP
 go_enter Tryz.func4, Tryz.ntmps4
 go_upto_region 2 with (fail)
 show Code.wp _ _ _ _ (w0.alloc (.cells prtL.toArray 25))
 have b1 := Blk.new w0 prtL 25
 have g1 := gb_alloc (gb_refl w0 none) (.cells prtL.toArray 25)
 revert g1; revert b1
 generalize w0.alloc (.cells prtL.toArray 25) = w1
 intro b1 g1
 obtain ⟨P, hP⟩ : ∃ P, P = w0.heap.size := ⟨_, rfl⟩
 rw [← hP] at b1 ⊢
 clear hP
 have H1 := Lib.hid (And.intro g1 b1); clear g1 b1
 go_wp2
 go_loopw [2, 3, 4] (fun v i _k wr => ∃ (j : Nat) (L : List Fe), j ≤ 10 ∧ i = .int .i64 j ∧ L.length = 20 * j ∧ All w1 wr v L) (fun _ i _ _ => 10 - (intOf i).toNat)
 case atStart => exact ⟨0, [], by omega, rfl, rfl, gb_refl _ _, World.ownsRow_nil _ _ _ _, fun a h => by cases h⟩
 case round =>
  obtain ⟨j, L, hj, rfl, hL, hA⟩ := hrel
  have HA := Lib.hid hA; clear hA
  by_cases hlt : j < 10
  ·have i0 : (j : Int) < 10 := by omega
   go_wp2
   go_loopw [2, 4] (fun v k wr => ∃ (q : Nat) (L : List Fe), q ≤ 10 ∧ k = .int .i64 q ∧ L.length = 20 * j + 2 * q ∧ All w1 wr v L) (fun _ k _ => 10 - (intOf k).toNat)
   case atStart => exact ⟨0, L, by omega, rfl, by omega, HA.out⟩
   case round =>
    clear HA hL
    obtain ⟨q, L2, hq, rfl, hL2, hA2⟩ := hrel
    have HA := Lib.hid hA2; clear hA2
    by_cases hlt2 : q < 10
    ·have i1 : (q : Int) < 10 := by omega
     have cx := (H1.out.2.gn HA.out.g).cell (prt_at j hlt)
     have cy := (H1.out.2.gn HA.out.g).cell (prt_at q hlt2)
     have hx := prt_lt j
     have hy := prt_lt q
     generalize prt.getD j 0 = x at *
     generalize prt.getD q 0 = y at *
     have HC := Lib.hid (And.intro cx (And.intro cy (And.intro hx hy))); clear cx cy hx hy
     go_upto_region 9 with (fail)
     refine Fg.region_t [] [.any, .any, .any, .any, .any, .any, .any, .any, .any, .any, .any, .any, .any, .any, .any, .any, .any, .any, .any, .any, .any, .any, .any, .any, .any, .val (u2), .val (Value.slice (some ⟨P, 0, none⟩) 10 10), .val (Value.int .i64 (j : Int)), .val (Value.pointer (some ⟨P, j, none⟩)), .val (Value.int .u64 (x : Int)), .val (Value.slice (some ⟨P, 0, none⟩) 10 10), .val (Value.int .i64 (q : Int)), .val (Value.pointer (some ⟨P, q, none⟩)), .val (Value.int .u64 (y : Int)), .val (Value.slice (some ⟨P, 0, none⟩) 10 10), .val (Value.int .i64 (q : Int)), .val (Value.pointer (some ⟨P, q, none⟩)), .val (Value.int .u64 (y : Int)), .val (Value.slice (some ⟨P, 0, none⟩) 10 10), .val (Value.int .i64 (q : Int)), .val (Value.pointer (some ⟨P, q, none⟩)), .val (Value.int .u64 (y : Int)), .val (Value.slice (some ⟨P, 0, none⟩) 10 10), .val (Value.int .i64 (q : Int)), .val (Value.pointer (some ⟨P, q, none⟩)), .val (Value.int .u64 (y : Int)), .val (Value.agg #[.int .u64 (x : Int), .int .u64 (y : Int), .int .u64 (y : Int), .int .u64 (y : Int), .int .u64 (y : Int)]), .val (Value.slice (some ⟨P, 0, none⟩) 10 10), .val (Value.int .i64 (j : Int)), .val (Value.pointer (some ⟨P, j, none⟩)), .val (Value.int .u64 (x : Int)), .val (Value.slice (some ⟨P, 0, none⟩) 10 10), .val (Value.int .i64 (q : Int)), .val (Value.pointer (some ⟨P, q, none⟩)), .val (Value.int .u64 (y : Int)), .val (Value.agg #[.int .u64 (x : Int), .int .u64 0, .int .u64 0, .int .u64 0, .int .u64 (y : Int)]), itE ⟨x, y, y, y, y⟩ ⟨x, 0, 0, 0, y⟩] wr 32 (gb_refl _ _) (by kernel_rfl) (by kernel_rfl) (by kernel_rfl) (by kernel_rfl) (by decide) (by kernel_rfl) ?_ ?_
     ·refine ⟨Fg.vT rfl (by decide) fun ac w h => ?_, ?_⟩
      ·have e2 : _ = u2 := h.r 2
       exact ⟨_, w, wants_none rfl, Fg.run_move rfl e2, gb_refl _ _, rfl⟩
      refine ⟨Fg.vT rfl (by decide) fun ac w h => ?_, ?_⟩
      ·have e1 : _ = Value.slice (some ⟨P, 0, none⟩) 10 10 := h.r 1
       exact ⟨_, w, wants_none rfl, Fg.run_move rfl e1, gb_refl _ _, rfl⟩
      refine ⟨Fg.vT rfl (by decide) fun ac w h => ?_, ?_⟩
      ·have e3 : _ = Value.int .i64 (j : Int) := h.r 3
       exact ⟨_, w, wants_none rfl, Fg.run_move rfl e3, gb_refl _ _, rfl⟩
      refine ⟨Fg.vT rfl (by decide) fun ac w h => ?_, ?_⟩
      ·have e26 : _ = Value.slice (some ⟨P, 0, none⟩) 10 10 := h.d 26
       have e27 : _ = Value.int .i64 (j : Int) := h.d 27
       have i2 : (j : Int) < 10 := by omega
       refine ⟨.pointer (some ⟨P, j, none⟩), w, wants_none rfl, ?_, gb_refl _ _, rfl⟩
       clear h
       simp only [execOp, Act.eval, e26, e27]
       go_simp
      refine ⟨Fg.vT rfl (by decide) fun ac w h => ?_, ?_⟩
      ·have e28 : _ = Value.pointer (some ⟨P, j, none⟩) := h.d 28
       have y0 : w.cell? ⟨P, j, none⟩ = some (.int .u64 (x : Int)) := by rw [gb_cell h.base (block_lt_of_cell (HC.out.1)) (by simp)]; exact HC.out.1
       refine ⟨Value.int .u64 (x : Int), w, wants_none rfl, ?_, gb_refl _ _, rfl⟩
       clear h
       simp only [execOp, Act.eval, e28]
       go_simp
      refine ⟨Fg.vT rfl (by decide) fun ac w h => ?_, ?_⟩
      ·have e1 : _ = Value.slice (some ⟨P, 0, none⟩) 10 10 := h.r 1
       exact ⟨_, w, wants_none rfl, Fg.run_move rfl e1, gb_refl _ _, rfl⟩
      refine ⟨Fg.vT rfl (by decide) fun ac w h => ?_, ?_⟩
      ·have e4 : _ = Value.int .i64 (q : Int) := h.r 4
       exact ⟨_, w, wants_none rfl, Fg.run_move rfl e4, gb_refl _ _, rfl⟩
      refine ⟨Fg.vT rfl (by decide) fun ac w h => ?_, ?_⟩
      ·have e30 : _ = Value.slice (some ⟨P, 0, none⟩) 10 10 := h.d 30
       have e31 : _ = Value.int .i64 (q : Int) := h.d 31
       have i2 : (q : Int) < 10 := by omega
       refine ⟨.pointer (some ⟨P, q, none⟩), w, wants_none rfl, ?_, gb_refl _ _, rfl⟩
       clear h
       simp only [execOp, Act.eval, e30, e31]
       go_simp
      refine ⟨Fg.vT rfl (by decide) fun ac w h => ?_, ?_⟩
      ·have e32 : _ = Value.pointer (some ⟨P, q, none⟩) := h.d 32
       have y0 : w.cell? ⟨P, q, none⟩ = some (.int .u64 (y : Int)) := by rw [gb_cell h.base (block_lt_of_cell (HC.out.2.1)) (by simp)]; exact HC.out.2.1
       refine ⟨Value.int .u64 (y : Int), w, wants_none rfl, ?_, gb_refl _ _, rfl⟩
       clear h
       simp only [execOp, Act.eval, e32]
       go_simp
      refine ⟨Fg.vT rfl (by decide) fun ac w h => ?_, ?_⟩
      ·have e1 : _ = Value.slice (some ⟨P, 0, none⟩) 10 10 := h.r 1
       exact ⟨_, w, wants_none rfl, Fg.run_move rfl e1, gb_refl _ _, rfl⟩
      refine ⟨Fg.vT rfl (by decide) fun ac w h => ?_, ?_⟩
      ·have e4 : _ = Value.int .i64 (q : Int) := h.r 4
       exact ⟨_, w, wants_none rfl, Fg.run_move rfl e4, gb_refl _ _, rfl⟩
      refine ⟨Fg.vT rfl (by decide) fun ac w h => ?_, ?_⟩
      ·have e34 : _ = Value.slice (some ⟨P, 0, none⟩) 10 10 := h.d 34
       have e35 : _ = Value.int .i64 (q : Int) := h.d 35
       have i2 : (q : Int) < 10 := by omega
       refine ⟨.pointer (some ⟨P, q, none⟩), w, wants_none rfl, ?_, gb_refl _ _, rfl⟩
       clear h
       simp only [execOp, Act.eval, e34, e35]
       go_simp
      refine ⟨Fg.vT rfl (by decide) fun ac w h => ?_, ?_⟩
      ·have e36 : _ = Value.pointer (some ⟨P, q, none⟩) := h.d 36
       have y0 : w.cell? ⟨P, q, none⟩ = some (.int .u64 (y : Int)) := by rw [gb_cell h.base (block_lt_of_cell (HC.out.2.1)) (by simp)]; exact HC.out.2.1
       refine ⟨Value.int .u64 (y : Int), w, wants_none rfl, ?_, gb_refl _ _, rfl⟩
       clear h
       simp only [execOp, Act.eval, e36]
       go_simp
      refine ⟨Fg.vT rfl (by decide) fun ac w h => ?_, ?_⟩
      ·have e1 : _ = Value.slice (some ⟨P, 0, none⟩) 10 10 := h.r 1
       exact ⟨_, w, wants_none rfl, Fg.run_move rfl e1, gb_refl _ _, rfl⟩
      refine ⟨Fg.vT rfl (by decide) fun ac w h => ?_, ?_⟩
      ·have e4 : _ = Value.int .i64 (q : Int) := h.r 4
       exact ⟨_, w, wants_none rfl, Fg.run_move rfl e4, gb_refl _ _, rfl⟩
      refine ⟨Fg.vT rfl (by decide) fun ac w h => ?_, ?_⟩
      ·have e38 : _ = Value.slice (some ⟨P, 0, none⟩) 10 10 := h.d 38
       have e39 : _ = Value.int .i64 (q : Int) := h.d 39
       have i2 : (q : Int) < 10 := by omega
       refine ⟨.pointer (some ⟨P, q, none⟩), w, wants_none rfl, ?_, gb_refl _ _, rfl⟩
       clear h
       simp only [execOp, Act.eval, e38, e39]
       go_simp
      refine ⟨Fg.vT rfl (by decide) fun ac w h => ?_, ?_⟩
      ·have e40 : _ = Value.pointer (some ⟨P, q, none⟩) := h.d 40
       have y0 : w.cell? ⟨P, q, none⟩ = some (.int .u64 (y : Int)) := by rw [gb_cell h.base (block_lt_of_cell (HC.out.2.1)) (by simp)]; exact HC.out.2.1
       refine ⟨Value.int .u64 (y : Int), w, wants_none rfl, ?_, gb_refl _ _, rfl⟩
       clear h
       simp only [execOp, Act.eval, e40]
       go_simp
      refine ⟨Fg.vT rfl (by decide) fun ac w h => ?_, ?_⟩
      ·have e1 : _ = Value.slice (some ⟨P, 0, none⟩) 10 10 := h.r 1
       exact ⟨_, w, wants_none rfl, Fg.run_move rfl e1, gb_refl _ _, rfl⟩
      refine ⟨Fg.vT rfl (by decide) fun ac w h => ?_, ?_⟩
      ·have e4 : _ = Value.int .i64 (q : Int) := h.r 4
       exact ⟨_, w, wants_none rfl, Fg.run_move rfl e4, gb_refl _ _, rfl⟩
      refine ⟨Fg.vT rfl (by decide) fun ac w h => ?_, ?_⟩
      ·have e42 : _ = Value.slice (some ⟨P, 0, none⟩) 10 10 := h.d 42
       have e43 : _ = Value.int .i64 (q : Int) := h.d 43
       have i2 : (q : Int) < 10 := by omega
       refine ⟨.pointer (some ⟨P, q, none⟩), w, wants_none rfl, ?_, gb_refl _ _, rfl⟩
       clear h
       simp only [execOp, Act.eval, e42, e43]
       go_simp
      refine ⟨Fg.vT rfl (by decide) fun ac w h => ?_, ?_⟩
      ·have e44 : _ = Value.pointer (some ⟨P, q, none⟩) := h.d 44
       have y0 : w.cell? ⟨P, q, none⟩ = some (.int .u64 (y : Int)) := by rw [gb_cell h.base (block_lt_of_cell (HC.out.2.1)) (by simp)]; exact HC.out.2.1
       refine ⟨Value.int .u64 (y : Int), w, wants_none rfl, ?_, gb_refl _ _, rfl⟩
       clear h
       simp only [execOp, Act.eval, e44]
       go_simp
      refine ⟨Fg.vT rfl (by decide) fun ac w h => ?_, ?_⟩
      ·have e29 : _ = Value.int .u64 (x : Int) := h.d 29
       have e33 : _ = Value.int .u64 (y : Int) := h.d 33
       have e37 : _ = Value.int .u64 (y : Int) := h.d 37
       have e41 : _ = Value.int .u64 (y : Int) := h.d 41
       have e45 : _ = Value.int .u64 (y : Int) := h.d 45
       refine ⟨.agg #[.int .u64 (x : Int), .int .u64 (y : Int), .int .u64 (y : Int), .int .u64 (y : Int), .int .u64 (y : Int)], w, wants_none rfl, ?_, gb_refl _ _, rfl⟩
       clear h
       simp only [execOp, Act.eval, e29, e33, e37, e41, e45, List.map_toArray, List.map_cons, List.map_nil]
       go_simp
      refine ⟨Fg.vT rfl (by decide) fun ac w h => ?_, ?_⟩
      ·have e1 : _ = Value.slice (some ⟨P, 0, none⟩) 10 10 := h.r 1
       exact ⟨_, w, wants_none rfl, Fg.run_move rfl e1, gb_refl _ _, rfl⟩
      refine ⟨Fg.vT rfl (by decide) fun ac w h => ?_, ?_⟩
      ·have e3 : _ = Value.int .i64 (j : Int) := h.r 3
       exact ⟨_, w, wants_none rfl, Fg.run_move rfl e3, gb_refl _ _, rfl⟩
      refine ⟨Fg.vT rfl (by decide) fun ac w h => ?_, ?_⟩
      ·have e47 : _ = Value.slice (some ⟨P, 0, none⟩) 10 10 := h.d 47
       have e48 : _ = Value.int .i64 (j : Int) := h.d 48
       have i2 : (j : Int) < 10 := by omega
       refine ⟨.pointer (some ⟨P, j, none⟩), w, wants_none rfl, ?_, gb_refl _ _, rfl⟩
       clear h
       simp only [execOp, Act.eval, e47, e48]
       go_simp
      refine ⟨Fg.vT rfl (by decide) fun ac w h => ?_, ?_⟩
      ·have e49 : _ = Value.pointer (some ⟨P, j, none⟩) := h.d 49
       have y0 : w.cell? ⟨P, j, none⟩ = some (.int .u64 (x : Int)) := by rw [gb_cell h.base (block_lt_of_cell (HC.out.1)) (by simp)]; exact HC.out.1
       refine ⟨Value.int .u64 (x : Int), w, wants_none rfl, ?_, gb_refl _ _, rfl⟩
       clear h
       simp only [execOp, Act.eval, e49]
       go_simp
      refine ⟨Fg.vT rfl (by decide) fun ac w h => ?_, ?_⟩
      ·have e1 : _ = Value.slice (some ⟨P, 0, none⟩) 10 10 := h.r 1
       exact ⟨_, w, wants_none rfl, Fg.run_move rfl e1, gb_refl _ _, rfl⟩
      refine ⟨Fg.vT rfl (by decide) fun ac w h => ?_, ?_⟩
      ·have e4 : _ = Value.int .i64 (q : Int) := h.r 4
       exact ⟨_, w, wants_none rfl, Fg.run_move rfl e4, gb_refl _ _, rfl⟩
      refine ⟨Fg.vT rfl (by decide) fun ac w h => ?_, ?_⟩
      ·have e51 : _ = Value.slice (some ⟨P, 0, none⟩) 10 10 := h.d 51
       have e52 : _ = Value.int .i64 (q : Int) := h.d 52
       have i2 : (q : Int) < 10 := by omega
       refine ⟨.pointer (some ⟨P, q, none⟩), w, wants_none rfl, ?_, gb_refl _ _, rfl⟩
       clear h
       simp only [execOp, Act.eval, e51, e52]
       go_simp
      refine ⟨Fg.vT rfl (by decide) fun ac w h => ?_, ?_⟩
      ·have e53 : _ = Value.pointer (some ⟨P, q, none⟩) := h.d 53
       have y0 : w.cell? ⟨P, q, none⟩ = some (.int .u64 (y : Int)) := by rw [gb_cell h.base (block_lt_of_cell (HC.out.2.1)) (by simp)]; exact HC.out.2.1
       refine ⟨Value.int .u64 (y : Int), w, wants_none rfl, ?_, gb_refl _ _, rfl⟩
       clear h
       simp only [execOp, Act.eval, e53]
       go_simp
      refine ⟨Fg.vT rfl (by decide) fun ac w h => ?_, ?_⟩
      ·have e50 : _ = Value.int .u64 (x : Int) := h.d 50
       have e54 : _ = Value.int .u64 (y : Int) := h.d 54
       refine ⟨.agg #[.int .u64 (x : Int), .int .u64 0, .int .u64 0, .int .u64 0, .int .u64 (y : Int)], w, wants_none rfl, ?_, gb_refl _ _, rfl⟩
       clear h
       simp only [execOp, Act.eval, e50, e54, List.map_toArray, List.map_cons, List.map_nil]
       go_simp
      refine ⟨Fg.vT rfl (by decide) fun ac w h => ?_, ?_⟩
      ·have e46 : _ = Value.agg #[.int .u64 (x : Int), .int .u64 (y : Int), .int .u64 (y : Int), .int .u64 (y : Int), .int .u64 (y : Int)] := h.d 46
       have e55 : _ = Value.agg #[.int .u64 (x : Int), .int .u64 0, .int .u64 0, .int .u64 0, .int .u64 (y : Int)] := h.d 55
       refine ⟨.slice (some ⟨w.heap.size, 0, none⟩) 2 2, (w.alloc (.cells #[.int .u64 (x : Int), .int .u64 (y : Int), .int .u64 (y : Int), .int .u64 (y : Int), .int .u64 (y : Int), .int .u64 (x : Int), .int .u64 0, .int .u64 0, .int .u64 0, .int .u64 (y : Int)] 27)), wants_none rfl, ?_, gb_alloc (gb_refl _ _) _, ⟨w.heap.size, rfl, Blk.new w [.int .u64 (x : Int), .int .u64 (y : Int), .int .u64 (y : Int), .int .u64 (y : Int), .int .u64 (y : Int), .int .u64 (x : Int), .int .u64 0, .int .u64 0, .int .u64 0, .int .u64 (y : Int)] _⟩⟩
       clear h
       simp only [execOp, Act.eval, e46, e55, List.map_toArray, List.map_cons, List.map_nil]
       go_simp
      trivial
     ·intro aq wq hB hsz hdf hrest hslots hpt
      have e25 : aq.tmps.getD 25 undef = u2 := hslots 25 (by kernel_rfl)
      obtain ⟨⟨u26, e26⟩, ⟨u27, e27⟩, ⟨u28, e28⟩, ⟨u29, e29⟩, ⟨u30, e30⟩, ⟨u31, e31⟩, ⟨u32, e32⟩, ⟨u33, e33⟩, ⟨u34, e34⟩, ⟨u35, e35⟩, ⟨u36, e36⟩, ⟨u37, e37⟩, ⟨u38, e38⟩, ⟨u39, e39⟩, ⟨u40, e40⟩, ⟨u41, e41⟩, ⟨u42, e42⟩, ⟨u43, e43⟩, ⟨u44, e44⟩, ⟨u45, e45⟩, ⟨u46, e46⟩, ⟨u47, e47⟩, ⟨u48, e48⟩, ⟨u49, e49⟩, ⟨u50, e50⟩, ⟨u51, e51⟩, ⟨u52, e52⟩, ⟨u53, e53⟩, ⟨u54, e54⟩, ⟨u55, e55⟩, _⟩ := Fg.slotvs aq [26, 27, 28, 29, 30, 31, 32, 33, 34, 35, 36, 37, 38, 39, 40, 41, 42, 43, 44, 45, 46, 47, 48, 49, 50, 51, 52, 53, 54, 55]
      obtain ⟨N56, e56, b56⟩ : ∃ N, aq.tmps.getD 56 undef = .slice (some ⟨N, 0, none⟩) 2 2 ∧ Blk wq N 27 (feL ⟨x, y, y, y, y⟩ ++ feL ⟨x, 0, 0, 0, y⟩) := hslots 56 (by kernel_rfl)
      obtain rfl := Fg.frame_by [25, 26, 27, 28, 29, 30, 31, 32, 33, 34, 35, 36, 37, 38, 39, 40, 41, 42, 43, 44, 45, 46, 47, 48, 49, 50, 51, 52, 53, 54, 55, 56] (vs := [_, _, _, _, _, _, _, _, _, _, _, _, _, _, _, _, _, _, _, _, _, _, _, _, _, u2, u26, u27, u28, u29, u30, u31, u32, u33, u34, u35, u36, u37, u38, u39, u40, u41, u42, u43, u44, u45, u46, u47, u48, u49, u50, u51, u52, u53, u54, u55, Value.slice (some ⟨N56, 0, none⟩) 2 2, _, _, _, _, _, _, _, _, _, _, _, _, _, _, _, _, _, _, _, _, _, _, _, _, _, _, _, _, _, _, _, _, _, _, _, _, _, _, _, _, _, _, _, _, _, _, _, _, _, _, _, _, _, _, _, _, _, _, _, _, _, _, _, _, _, _, _, _, _, _, _, _, _, _, _, _, _, _, _, _, _, _, _, _, _, _, _, _, _, _, _, _, _, _, _, _, _, _, _, _, _, _, _, _, _, _, _, _, _, _, _, _, _, _, _, _, _, _, _, _, _, _, _, _, _, _, _, _, _, _, _, _, _, _, _, _, _, _, _, _, _, _, _, _, _, _, _, _, _, _]) hsz hrest (by kernel_rfl) rfl rfl ⟨e25, e26, e27, e28, e29, e30, e31, e32, e33, e34, e35, e36, e37, e38, e39, e40, e41, e42, e43, e44, e45, e46, e47, e48, e49, e50, e51, e52, e53, e54, e55, e56, trivial⟩ hdf
      clear hsz hdf hrest hslots hpt e25 e26 e27 e28 e29 e30 e31 e32 e33 e34 e35 e36 e37 e38 e39 e40 e41 e42 e43 e44 e45 e46 e47 e48 e49 e50 e51 e52 e53 e54 e55 e56
      obtain ⟨v', w5, hap, ho5, hg5⟩ := append_two wq w1.heap.size N56 u2 L2 ⟨x, y, y, y, y⟩ ⟨x, 0, 0, 0, y⟩ (HA.out.stay hB).own b56 (by omega) (gb_trans HA.out.g hB).size
      refine wpList_append_run rfl (.tmp 25) (.tmp 56) 41 rfl rfl _ _ rfl rfl _ _ hap ?_
      refine Fg.wpl_value (v := v') (w' := w5) rfl (Fg.run_assign rfl rfl) ?_
      refine wpList_nil ?_
      simp only [Act.put, List.setIfInBounds_toArray, List.set_cons_succ, List.set_cons_zero]
      have HN : Hid (All w1 w5 v' (L2 ++ [⟨x, y, y, y, y⟩, ⟨x, 0, 0, 0, y⟩])) := Lib.hid ⟨gb_ownE (gb_trans HA.out.g hB) (HA.out.stay hB).own (Nat.le_refl _) hg5, ho5, fun a ha => by
       rcases List.mem_append.1 ha with h | h
       ·exact HA.out.ok a h
       ·rcases List.mem_cons.1 h with rfl | h
        ·exact one_ok x y HC.out.2.2.1 HC.out.2.2.2
        ·rw [List.mem_singleton.1 h]; exact two_ok x y HC.out.2.2.1 HC.out.2.2.2⟩
      clear hap ho5 hg5 b56 hB
      go_wp2
      exact ⟨⟨q + 1, _, by omega, by congr 1, by simp [hL2]; omega, HN.out⟩, by simp [intOf]; omega⟩
    ·obtain rfl : q = 10 := by omega
     clear hlt2
     go_wp2
     exact ⟨⟨j + 1, L2, by omega, by congr 1, by omega, HA.out⟩, by simp [intOf]; omega⟩
  ·obtain rfl : j = 10 := by omega
   have hL200 : L.length = 200 := by omega
   obtain ⟨g, c, rfl⟩ := own_sliceE HA.out.own (by omega)
   rw [hL200] at HA ⊢
   clear hlt hL
   go_wp2
   go_loopw [5, 6] (fun i _k wr2 => ∃ j : Nat, j ≤ 200 ∧ i = .int .i64 j ∧ All w1 wr2 (.slice (some ⟨g, 0, none⟩) 200 c) L) (fun i _ _ => 200 - (intOf i).toNat)
   case atStart => exact ⟨0, by omega, rfl, HA.out⟩
   case round =>
    clear HA
    obtain ⟨j, hj, rfl, hA⟩ := hrel
    have HA := Lib.hid hA; clear hA
    by_cases hlt : j < 200
    ·have i0 : (j : Int) < 200 := by omega
     go_wp2
     go_loopw [6] (fun k wr2 => ∃ q : Nat, q ≤ 7 ∧ k = .int .i64 q ∧ All w1 wr2 (.slice (some ⟨g, 0, none⟩) 200 c) L) (fun k _ => 7 - (intOf k).toNat)
     case atStart => exact ⟨0, by omega, rfl, HA.out⟩
     case round =>
      clear HA
      obtain ⟨q, hq, rfl, hA⟩ := hrel
      have HA := Lib.hid hA; clear hA
      by_cases hlt2 : q < 7
      ·have i1 : (q : Int) < 7 := by omega
       obtain ⟨t, ht⟩ : ∃ t : Nat, t = (j * 13 + q * 31) % 200 := ⟨_, rfl⟩
       have ht2 : t < 200 := by omega
       have hrem : Int.tmod ((j : Int) * 13 + (q : Int) * 31) 200 = (t : Int) := by rw [Int.tmod_eq_emod_of_nonneg (by omega)]; omega
       have hrem2 : ((j : Int) * 13 + (q : Int) * 31) % 200 = (t : Int) := by omega
       clear ht
       go_upto_region 16 with (fail)
       refine Fg.region_t [] [.any, .any, .any, .any, .any, .any, .any, .any, .any, .any, .any, .any, .any, .any, .any, .any, .any, .any, .any, .any, .any, .any, .any, .any, .any, .any, .any, .any, .any, .any, .any, .any, .any, .any, .any, .any, .any, .any, .any, .any, .any, .any, .any, .any, .any, .any, .any, .any, .any, .any, .any, .any, .any, .any, .any, .any, .any, .any, .any, .any, .any, .any, .any, .any, .any, .any, .any, .any, .val (Value.slice (some ⟨g, 0, none⟩) 200 c), .val (Value.int .i64 (j : Int)), .val (Value.pointer (some ⟨g, j * 5, none⟩)), .val ((L.getD j Fe.zeroF).v), .val (Value.slice (some ⟨g, 0, none⟩) 200 c), .val (Value.int .i64 (j : Int)), .val (Value.int .i64 ((j : Int) * 13)), .val (Value.int .i64 (q : Int)), .val (Value.int .i64 ((q : Int) * 31)), .val (Value.int .i64 ((j : Int) * 13 + (q : Int) * 31)), .val (Value.slice (some ⟨g, 0, none⟩) 200 c), .val (Value.int .i64 200), .val (Value.int .i64 (t : Int)), .val (Value.pointer (some ⟨g, t * 5, none⟩)), .val ((L.getD t Fe.zeroF).v), .val (Value.bool true), .val (Value.bool false)] wr 17 (gb_refl _ _) (by kernel_rfl) (by kernel_rfl) (by kernel_rfl) (by kernel_rfl) (by decide) (by kernel_rfl) ?_ ?_
       ·refine ⟨Fg.vT rfl (by decide) fun ac w h => ?_, ?_⟩
        ·have e2 : _ = Value.slice (some ⟨g, 0, none⟩) 200 c := h.r 2
         exact ⟨_, w, wants_none rfl, Fg.run_move rfl e2, gb_refl _ _, rfl⟩
        refine ⟨Fg.vT rfl (by decide) fun ac w h => ?_, ?_⟩
        ·have e5 : _ = Value.int .i64 (j : Int) := h.r 5
         exact ⟨_, w, wants_none rfl, Fg.run_move rfl e5, gb_refl _ _, rfl⟩
        refine ⟨Fg.vT rfl (by decide) fun ac w h => ?_, ?_⟩
        ·have e68 : _ = Value.slice (some ⟨g, 0, none⟩) 200 c := h.d 68
         have e69 : _ = Value.int .i64 (j : Int) := h.d 69
         have i2 : (j : Int) < 200 := by omega
         refine ⟨.pointer (some ⟨g, j * 5, none⟩), w, wants_none rfl, ?_, gb_refl _ _, rfl⟩
         clear h
         simp only [execOp, Act.eval, e68, e69]
         go_simp
        refine ⟨Fg.vT rfl (by decide) fun ac w h => ?_, ?_⟩
        ·have e70 : _ = Value.pointer (some ⟨g, j * 5, none⟩) := h.d 70
         refine ⟨(L.getD j Fe.zeroF).v, w, wants_none rfl, ?_, gb_refl _ _, rfl⟩
         exact Fg.run_load rfl e70 (own_range hL200 (HA.out.stay h.base).own j (by omega)) Tryz.underlying27 rfl Nr.info_elem5
        refine ⟨Fg.vT rfl (by decide) fun ac w h => ?_, ?_⟩
        ·have e2 : _ = Value.slice (some ⟨g, 0, none⟩) 200 c := h.r 2
         exact ⟨_, w, wants_none rfl, Fg.run_move rfl e2, gb_refl _ _, rfl⟩
        refine ⟨Fg.vT rfl (by decide) fun ac w h => ?_, ?_⟩
        ·have e5 : _ = Value.int .i64 (j : Int) := h.r 5
         exact ⟨_, w, wants_none rfl, Fg.run_move rfl e5, gb_refl _ _, rfl⟩
        refine ⟨Fg.vT rfl (by decide) fun ac w h => ?_, ?_⟩
        ·have e73 : _ = Value.int .i64 (j : Int) := h.d 73
         have i2 : (j : Int) * 13 ≤ 3000 := by omega
         refine ⟨.int .i64 ((j : Int) * 13), w, wants_none rfl, ?_, gb_refl _ _, rfl⟩
         clear h
         simp only [execOp, Act.eval, e73]
         go_simp
         rw [IntKind.wrap_i64]; omega
        refine ⟨Fg.vT rfl (by decide) fun ac w h => ?_, ?_⟩
        ·have e6 : _ = Value.int .i64 (q : Int) := h.r 6
         exact ⟨_, w, wants_none rfl, Fg.run_move rfl e6, gb_refl _ _, rfl⟩
        refine ⟨Fg.vT rfl (by decide) fun ac w h => ?_, ?_⟩
        ·have e75 : _ = Value.int .i64 (q : Int) := h.d 75
         have i2 : (q : Int) * 31 ≤ 3000 := by omega
         refine ⟨.int .i64 ((q : Int) * 31), w, wants_none rfl, ?_, gb_refl _ _, rfl⟩
         clear h
         simp only [execOp, Act.eval, e75]
         go_simp
         rw [IntKind.wrap_i64]; omega
        refine ⟨Fg.vT rfl (by decide) fun ac w h => ?_, ?_⟩
        ·have e74 : _ = Value.int .i64 ((j : Int) * 13) := h.d 74
         have e76 : _ = Value.int .i64 ((q : Int) * 31) := h.d 76
         have i2 : (j : Int) * 13 + (q : Int) * 31 ≤ 6000 := by omega
         have i3 : 0 ≤ (j : Int) * 13 + (q : Int) * 31 := by omega
         refine ⟨.int .i64 ((j : Int) * 13 + (q : Int) * 31), w, wants_none rfl, ?_, gb_refl _ _, rfl⟩
         clear h
         simp only [execOp, Act.eval, e74, e76]
         go_simp
         rw [IntKind.wrap_i64]; omega
        refine ⟨Fg.vT rfl (by decide) fun ac w h => ?_, ?_⟩
        ·have e2 : _ = Value.slice (some ⟨g, 0, none⟩) 200 c := h.r 2
         exact ⟨_, w, wants_none rfl, Fg.run_move rfl e2, gb_refl _ _, rfl⟩
        refine ⟨Fg.vT rfl (by decide) fun ac w h => ?_, ?_⟩
        ·have e78 : _ = Value.slice (some ⟨g, 0, none⟩) 200 c := h.d 78
         have x78 : ac.tmps[78]?.getD undef = Value.slice (some ⟨g, 0, none⟩) 200 c := by simpa using e78
         refine ⟨.int .i64 200, w, wants_none rfl, ?_, gb_refl _ _, rfl⟩
         clear h e78
         go_simp
        refine ⟨Fg.vT rfl (by decide) fun ac w h => ?_, ?_⟩
        ·have e77 : _ = Value.int .i64 ((j : Int) * 13 + (q : Int) * 31) := h.d 77
         have e79 : _ = Value.int .i64 200 := h.d 79
         refine ⟨.int .i64 (t : Int), w, wants_none rfl, ?_, gb_refl _ _, rfl⟩
         clear h
         simp only [execOp, Act.eval, e77, e79]
         go_simp
        refine ⟨Fg.vT rfl (by decide) fun ac w h => ?_, ?_⟩
        ·have e72 : _ = Value.slice (some ⟨g, 0, none⟩) 200 c := h.d 72
         have e80 : _ = Value.int .i64 (t : Int) := h.d 80
         have i2 : (t : Int) < 200 := by omega
         refine ⟨.pointer (some ⟨g, t * 5, none⟩), w, wants_none rfl, ?_, gb_refl _ _, rfl⟩
         clear h
         simp only [execOp, Act.eval, e72, e80]
         go_simp
        refine ⟨Fg.vT rfl (by decide) fun ac w h => ?_, ?_⟩
        ·have e81 : _ = Value.pointer (some ⟨g, t * 5, none⟩) := h.d 81
         refine ⟨(L.getD t Fe.zeroF).v, w, wants_none rfl, ?_, gb_refl _ _, rfl⟩
         exact Fg.run_load rfl e81 (own_range hL200 (HA.out.stay h.base).own t (by omega)) Tryz.underlying27 rfl Nr.info_elem5
        refine ⟨Fg.cT rfl (by decide) fun ac w h => ?_, ?_⟩
        ·have e71 : _ = (L.getD j Fe.zeroF).v := h.d 71
         have e82 : _ = (L.getD t Fe.zeroF).v := h.d 82
         refine ⟨14, #[(L.getD j Fe.zeroF).v, (L.getD t Fe.zeroF).v], wants_none rfl, Fg.run_call rfl rfl (by simp only [List.map_toArray, List.map_cons, List.map_nil, Act.eval, e71, e82]) (Fg.run_enter Tryz.func14 (by kernel_rfl) (by kernel_rfl)), ?_⟩
         exact (CR.out _ _ w (gb_trans H1.out.1 (gb_trans HA.out.g h.base)) (HA.out.at j (by omega)) (HA.out.at t (by omega))).mono fun _ _ ⟨he, hg⟩ => ⟨_, he, hg, rfl⟩
        refine ⟨Fg.vT rfl (by decide) fun ac w h => ?_, ?_⟩
        ·have e83 : _ = Value.bool true := h.d 83
         refine ⟨Value.bool false, w, wants_none rfl, ?_, gb_refl _ _, rfl⟩
         clear h
         simp only [execOp, Act.eval, e83]
         go_simp
        trivial
       ·intro aq wq hB hsz hdf hrest hslots hpt
        obtain ⟨⟨u68, e68⟩, ⟨u69, e69⟩, ⟨u70, e70⟩, ⟨u71, e71⟩, ⟨u72, e72⟩, ⟨u73, e73⟩, ⟨u74, e74⟩, ⟨u75, e75⟩, ⟨u76, e76⟩, ⟨u77, e77⟩, ⟨u78, e78⟩, ⟨u79, e79⟩, ⟨u80, e80⟩, ⟨u81, e81⟩, ⟨u82, e82⟩, ⟨u83, e83⟩, _⟩ := Fg.slotvs aq [68, 69, 70, 71, 72, 73, 74, 75, 76, 77, 78, 79, 80, 81, 82, 83]
        have e84 : aq.tmps.getD 84 undef = Value.bool false := hslots 84 (by kernel_rfl)
        obtain rfl := Fg.frame_by [68, 69, 70, 71, 72, 73, 74, 75, 76, 77, 78, 79, 80, 81, 82, 83, 84] (vs := [_, _, _, _, _, _, _, _, _, _, _, _, _, _, _, _, _, _, _, _, _, _, _, _, _, _, _, _, _, _, _, _, _, _, _, _, _, _, _, _, _, _, _, _, _, _, _, _, _, _, _, _, _, _, _, _, _, _, _, _, _, _, _, _, _, _, _, _, u68, u69, u70, u71, u72, u73, u74, u75, u76, u77, u78, u79, u80, u81, u82, u83, Value.bool false, _, _, _, _, _, _, _, _, _, _, _, _, _, _, _, _, _, _, _, _, _, _, _, _, _, _, _, _, _, _, _, _, _, _, _, _, _, _, _, _, _, _, _, _, _, _, _, _, _, _, _, _, _, _, _, _, _, _, _, _, _, _, _, _, _, _, _, _, _, _, _, _, _, _, _, _, _, _, _, _, _, _, _, _, _, _, _, _, _, _, _, _, _, _, _, _, _, _, _, _, _, _, _, _, _, _, _, _, _, _, _, _, _, _, _, _, _, _, _, _, _, _]) hsz hrest (by kernel_rfl) rfl rfl ⟨e68, e69, e70, e71, e72, e73, e74, e75, e76, e77, e78, e79, e80, e81, e82, e83, e84, trivial⟩ hdf
        clear hsz hdf hrest hslots hpt e68 e69 e70 e71 e72 e73 e74 e75 e76 e77 e78 e79 e80 e81 e82 e83 e84
        refine wpList_nil ?_
        have HB := Lib.hid (HA.out.stay hB); clear hB
        go_wp2
        exact ⟨⟨q + 1, by omega, by congr 1, HB.out⟩, by simp [intOf]; omega⟩
      ·obtain rfl : q = 7 := by omega
       clear hlt2
       go_wp2
       exact ⟨⟨j + 1, by omega, by congr 1, HA.out⟩, by simp [intOf]; omega⟩
    ·obtain rfl : j = 200 := by omega
     clear hlt
     go_wp2
     go_loopw [7] (fun i wr2 => ∃ j : Nat, j ≤ 208 ∧ i = .int .i64 j ∧ All w1 wr2 (.slice (some ⟨g, 0, none⟩) 200 c) L) (fun i _ => 208 - (intOf i).toNat)
     case atStart => exact ⟨0, by omega, rfl, HA.out⟩
     case round =>
      clear HA
      obtain ⟨j, hj, rfl, hA⟩ := hrel
      have HA := Lib.hid hA; clear hA
      by_cases hlt : j < 200
      ·have i0 : (j : Int) < 200 := by omega
       obtain ⟨t, ht⟩ : ∃ t : Nat, t = (j + 40) % 200 := ⟨_, rfl⟩
       have ht2 : t < 200 := by omega
       have hrem : Int.tmod ((j : Int) + 40) 200 = (t : Int) := by rw [Int.tmod_eq_emod_of_nonneg (by omega)]; omega
       have hrem2 : ((j : Int) + 40) % 200 = (t : Int) := by omega
       clear ht
       go_upto_region 21 with (fail)
       refine Fg.region_t [] [.any, .any, .any, .any, .any, .any, .any, .any, .any, .any, .any, .any, .any, .any, .any, .any, .any, .any, .any, .any, .any, .any, .any, .any, .any, .any, .any, .any, .any, .any, .any, .any, .any, .any, .any, .any, .any, .any, .any, .any, .any, .any, .any, .any, .any, .any, .any, .any, .any, .any, .any, .any, .any, .any, .any, .any, .any, .any, .any, .any, .any, .any, .any, .any, .any, .any, .any, .any, .any, .any, .any, .any, .any, .any, .any, .any, .any, .any, .any, .any, .any, .any, .any, .any, .any, .any, .any, .any, .any, .any, .any, .val (Value.slice (some ⟨g, 0, none⟩) 200 c), .val (Value.int .i64 (j : Int)), .val (Value.pointer (some ⟨g, j * 5, none⟩)), .val ((L.getD j Fe.zeroF).v), .val (Value.slice (some ⟨g, 0, none⟩) 200 c), .val (Value.int .i64 (j : Int)), .val (Value.int .i64 ((j : Int) + 40)), .val (Value.slice (some ⟨g, 0, none⟩) 200 c), .val (Value.int .i64 200), .val (Value.int .i64 (t : Int)), .val (Value.pointer (some ⟨g, t * 5, none⟩)), .val ((L.getD t Fe.zeroF).v), .val (Value.bool true), .val (Value.bool false), .val (Value.bool false), .val (Value.slice (some ⟨g, 0, none⟩) 200 c), .val (Value.int .i64 (j : Int)), .val (Value.pointer (some ⟨g, j * 5, none⟩)), .val ((L.getD j Fe.zeroF).v), .val (Fe.oneF.v), .val (Value.bool true), .val (Value.bool false), .val (Value.bool false), .val (Value.bool false), .val (Fe.zeroF.v), .val (Value.slice (some ⟨g, 0, none⟩) 200 c), .val (Value.int .i64 (j : Int)), .val (Value.pointer (some ⟨g, j * 5, none⟩)), .val ((L.getD j Fe.zeroF).v), .val (Value.bool true), .val (Value.bool false), .val (Value.bool false), .val (Value.bool false), .val (Value.slice (some ⟨g, 0, none⟩) 200 c), .val (Value.int .i64 (j : Int)), .val (Value.pointer (some ⟨g, j * 5, none⟩)), .val ((L.getD j Fe.zeroF).v), .val (Fe.zeroF.v), .val (Value.bool true), .val (Value.bool false), .val (Value.bool false)] wr 41 (gb_refl _ _) (by kernel_rfl) (by kernel_rfl) (by kernel_rfl) (by kernel_rfl) (by decide) (by kernel_rfl) ?_ ?_
       ·refine ⟨Fg.vT rfl (by decide) fun ac w h => ?_, ?_⟩
        ·have e2 : _ = Value.slice (some ⟨g, 0, none⟩) 200 c := h.r 2
         exact ⟨_, w, wants_none rfl, Fg.run_move rfl e2, gb_refl _ _, rfl⟩
        refine ⟨Fg.vT rfl (by decide) fun ac w h => ?_, ?_⟩
        ·have e7 : _ = Value.int .i64 (j : Int) := h.r 7
         exact ⟨_, w, wants_none rfl, Fg.run_move rfl e7, gb_refl _ _, rfl⟩
        refine ⟨Fg.vT rfl (by decide) fun ac w h => ?_, ?_⟩
        ·have e91 : _ = Value.slice (some ⟨g, 0, none⟩) 200 c := h.d 91
         have e92 : _ = Value.int .i64 (j : Int) := h.d 92
         have i2 : (j : Int) < 200 := by omega
         refine ⟨.pointer (some ⟨g, j * 5, none⟩), w, wants_none rfl, ?_, gb_refl _ _, rfl⟩
         clear h
         simp only [execOp, Act.eval, e91, e92]
         go_simp
        refine ⟨Fg.vT rfl (by decide) fun ac w h => ?_, ?_⟩
        ·have e93 : _ = Value.pointer (some ⟨g, j * 5, none⟩) := h.d 93
         refine ⟨(L.getD j Fe.zeroF).v, w, wants_none rfl, ?_, gb_refl _ _, rfl⟩
         exact Fg.run_load rfl e93 (own_range hL200 (HA.out.stay h.base).own j (by omega)) Tryz.underlying27 rfl Nr.info_elem5
        refine ⟨Fg.vT rfl (by decide) fun ac w h => ?_, ?_⟩
        ·have e2 : _ = Value.slice (some ⟨g, 0, none⟩) 200 c := h.r 2
         exact ⟨_, w, wants_none rfl, Fg.run_move rfl e2, gb_refl _ _, rfl⟩
        refine ⟨Fg.vT rfl (by decide) fun ac w h => ?_, ?_⟩
        ·have e7 : _ = Value.int .i64 (j : Int) := h.r 7
         exact ⟨_, w, wants_none rfl, Fg.run_move rfl e7, gb_refl _ _, rfl⟩
        refine ⟨Fg.vT rfl (by decide) fun ac w h => ?_, ?_⟩
        ·have e96 : _ = Value.int .i64 (j : Int) := h.d 96
         have i2 : (j : Int) + 40 ≤ 3000 := by omega
         refine ⟨.int .i64 ((j : Int) + 40), w, wants_none rfl, ?_, gb_refl _ _, rfl⟩
         clear h
         simp only [execOp, Act.eval, e96]
         go_simp
         rw [IntKind.wrap_i64]; omega
        refine ⟨Fg.vT rfl (by decide) fun ac w h => ?_, ?_⟩
        ·have e2 : _ = Value.slice (some ⟨g, 0, none⟩) 200 c := h.r 2
         exact ⟨_, w, wants_none rfl, Fg.run_move rfl e2, gb_refl _ _, rfl⟩
        refine ⟨Fg.vT rfl (by decide) fun ac w h => ?_, ?_⟩
        ·have e98 : _ = Value.slice (some ⟨g, 0, none⟩) 200 c := h.d 98
         have x98 : ac.tmps[98]?.getD undef = Value.slice (some ⟨g, 0, none⟩) 200 c := by simpa using e98
         refine ⟨.int .i64 200, w, wants_none rfl, ?_, gb_refl _ _, rfl⟩
         clear h e98
         go_simp
        refine ⟨Fg.vT rfl (by decide) fun ac w h => ?_, ?_⟩
        ·have e97 : _ = Value.int .i64 ((j : Int) + 40) := h.d 97
         have e99 : _ = Value.int .i64 200 := h.d 99
         refine ⟨.int .i64 (t : Int), w, wants_none rfl, ?_, gb_refl _ _, rfl⟩
         clear h
         simp only [execOp, Act.eval, e97, e99]
         go_simp
        refine ⟨Fg.vT rfl (by decide) fun ac w h => ?_, ?_⟩
        ·have e95 : _ = Value.slice (some ⟨g, 0, none⟩) 200 c := h.d 95
         have e100 : _ = Value.int .i64 (t : Int) := h.d 100
         have i2 : (t : Int) < 200 := by omega
         refine ⟨.pointer (some ⟨g, t * 5, none⟩), w, wants_none rfl, ?_, gb_refl _ _, rfl⟩
         clear h
         simp only [execOp, Act.eval, e95, e100]
         go_simp
        refine ⟨Fg.vT rfl (by decide) fun ac w h => ?_, ?_⟩
        ·have e101 : _ = Value.pointer (some ⟨g, t * 5, none⟩) := h.d 101
         refine ⟨(L.getD t Fe.zeroF).v, w, wants_none rfl, ?_, gb_refl _ _, rfl⟩
         exact Fg.run_load rfl e101 (own_range hL200 (HA.out.stay h.base).own t (by omega)) Tryz.underlying27 rfl Nr.info_elem5
        refine ⟨Fg.cT rfl (by decide) fun ac w h => ?_, ?_⟩
        ·have e94 : _ = (L.getD j Fe.zeroF).v := h.d 94
         have e102 : _ = (L.getD t Fe.zeroF).v := h.d 102
         refine ⟨15, #[(L.getD j Fe.zeroF).v, (L.getD t Fe.zeroF).v], wants_none rfl, Fg.run_call rfl rfl (by simp only [List.map_toArray, List.map_cons, List.map_nil, Act.eval, e94, e102]) (Fg.run_enter Tryz.func15 (by kernel_rfl) (by kernel_rfl)), ?_⟩
         exact (CP.out _ _ w (gb_trans H1.out.1 (gb_trans HA.out.g h.base)) (HA.out.at j (by omega)) (HA.out.at t (by omega))).mono fun _ _ ⟨he, hg⟩ => ⟨_, he, hg, rfl⟩
        refine ⟨Fg.vT rfl (by decide) fun ac w h => ?_, ?_⟩
        ·have e103 : _ = Value.bool true := h.d 103
         refine ⟨Value.bool false, w, wants_none rfl, ?_, gb_refl _ _, rfl⟩
         clear h
         simp only [execOp, Act.eval, e103]
         go_simp
        refine ⟨Fg.vT rfl (by decide) fun ac w h => ?_, ?_⟩
        ·have e104 : _ = Value.bool false := h.d 104
         exact ⟨_, w, wants_none rfl, Fg.run_move rfl e104, gb_refl _ _, rfl⟩
        refine ⟨Fg.vT rfl (by decide) fun ac w h => ?_, ?_⟩
        ·have e105 : _ = Value.bool false := h.d 105
         have e2 : _ = Value.slice (some ⟨g, 0, none⟩) 200 c := h.r 2
         exact ⟨_, w, wants_some (d := 105) rfl rfl (by rw [h.size]; show 105 < 207; decide) e105, Fg.run_move rfl e2, gb_refl _ _, rfl⟩
        refine ⟨Fg.vT rfl (by decide) fun ac w h => ?_, ?_⟩
        ·have e105 : _ = Value.bool false := h.d 105
         have e7 : _ = Value.int .i64 (j : Int) := h.r 7
         exact ⟨_, w, wants_some (d := 105) rfl rfl (by rw [h.size]; show 105 < 207; decide) e105, Fg.run_move rfl e7, gb_refl _ _, rfl⟩
        refine ⟨Fg.vT rfl (by decide) fun ac w h => ?_, ?_⟩
        ·have e105 : _ = Value.bool false := h.d 105
         have e106 : _ = Value.slice (some ⟨g, 0, none⟩) 200 c := h.d 106
         have e107 : _ = Value.int .i64 (j : Int) := h.d 107
         have i2 : (j : Int) < 200 := by omega
         refine ⟨.pointer (some ⟨g, j * 5, none⟩), w, wants_some (d := 105) rfl rfl (by rw [h.size]; show 105 < 207; decide) e105, ?_, gb_refl _ _, rfl⟩
         clear h
         simp only [execOp, Act.eval, e106, e107]
         go_simp
        refine ⟨Fg.vT rfl (by decide) fun ac w h => ?_, ?_⟩
        ·have e105 : _ = Value.bool false := h.d 105
         have e108 : _ = Value.pointer (some ⟨g, j * 5, none⟩) := h.d 108
         refine ⟨(L.getD j Fe.zeroF).v, w, wants_some (d := 105) rfl rfl (by rw [h.size]; show 105 < 207; decide) e105, ?_, gb_refl _ _, rfl⟩
         exact Fg.run_load rfl e108 (own_range hL200 (HA.out.stay h.base).own j (by omega)) Tryz.underlying27 rfl Nr.info_elem5
        refine ⟨Fg.cT rfl (by decide) fun ac w h => ?_, ?_⟩
        ·have e105 : _ = Value.bool false := h.d 105
         refine ⟨16, #[], wants_some (d := 105) rfl rfl (by rw [h.size]; show 105 < 207; decide) e105, Fg.run_call rfl rfl (by simp only [List.map_toArray, List.map_nil]) (Fg.run_enter Tryz.func16 (by kernel_rfl) (by kernel_rfl)), ?_⟩
         exact (c_one w).mono fun _ _ ⟨he, hg⟩ => ⟨_, he, hg, rfl⟩
        refine ⟨Fg.cT rfl (by decide) fun ac w h => ?_, ?_⟩
        ·have e105 : _ = Value.bool false := h.d 105
         have e109 : _ = (L.getD j Fe.zeroF).v := h.d 109
         have e110 : _ = Fe.oneF.v := h.d 110
         refine ⟨15, #[(L.getD j Fe.zeroF).v, Fe.oneF.v], wants_some (d := 105) rfl rfl (by rw [h.size]; show 105 < 207; decide) e105, Fg.run_call rfl rfl (by simp only [List.map_toArray, List.map_cons, List.map_nil, Act.eval, e109, e110]) (Fg.run_enter Tryz.func15 (by kernel_rfl) (by kernel_rfl)), ?_⟩
         exact (CP.out _ _ w (gb_trans H1.out.1 (gb_trans HA.out.g h.base)) (HA.out.at j (by omega)) one_rt.ok).mono fun _ _ ⟨he, hg⟩ => ⟨_, he, hg, rfl⟩
        refine ⟨Fg.vT rfl (by decide) fun ac w h => ?_, ?_⟩
        ·have e105 : _ = Value.bool false := h.d 105
         have e111 : _ = Value.bool true := h.d 111
         refine ⟨Value.bool false, w, wants_some (d := 105) rfl rfl (by rw [h.size]; show 105 < 207; decide) e105, ?_, gb_refl _ _, rfl⟩
         clear h
         simp only [execOp, Act.eval, e111]
         go_simp
        refine ⟨Fg.vT rfl (by decide) fun ac w h => ?_, ?_⟩
        ·have e105 : _ = Value.bool false := h.d 105
         have e112 : _ = Value.bool false := h.d 112
         refine ⟨Value.bool false, w, wants_none rfl, ?_, gb_refl _ _, rfl⟩
         clear h
         simp only [execOp, Act.eval, e105, e112]
         go_simp
        refine ⟨Fg.vT rfl (by decide) fun ac w h => ?_, ?_⟩
        ·have e113 : _ = Value.bool false := h.d 113
         exact ⟨_, w, wants_none rfl, Fg.run_move rfl e113, gb_refl _ _, rfl⟩
        refine ⟨Fg.vT rfl (by decide) fun ac w h => ?_, ?_⟩
        ·have e114 : _ = Value.bool false := h.d 114
         refine ⟨Fe.zeroF.v, w, wants_some (d := 114) rfl rfl (by rw [h.size]; show 114 < 207; decide) e114, ?_, gb_refl _ _, rfl⟩
         clear h
         simp only [execOp, Act.eval, List.map_toArray, List.map_nil]
         go_simp
         rfl
        refine ⟨Fg.vT rfl (by decide) fun ac w h => ?_, ?_⟩
        ·have e114 : _ = Value.bool false := h.d 114
         have e2 : _ = Value.slice (some ⟨g, 0, none⟩) 200 c := h.r 2
         exact ⟨_, w, wants_some (d := 114) rfl rfl (by rw [h.size]; show 114 < 207; decide) e114, Fg.run_move rfl e2, gb_refl _ _, rfl⟩
        refine ⟨Fg.vT rfl (by decide) fun ac w h => ?_, ?_⟩
        ·have e114 : _ = Value.bool false := h.d 114
         have e7 : _ = Value.int .i64 (j : Int) := h.r 7
         exact ⟨_, w, wants_some (d := 114) rfl rfl (by rw [h.size]; show 114 < 207; decide) e114, Fg.run_move rfl e7, gb_refl _ _, rfl⟩
        refine ⟨Fg.vT rfl (by decide) fun ac w h => ?_, ?_⟩
        ·have e114 : _ = Value.bool false := h.d 114
         have e116 : _ = Value.slice (some ⟨g, 0, none⟩) 200 c := h.d 116
         have e117 : _ = Value.int .i64 (j : Int) := h.d 117
         have i2 : (j : Int) < 200 := by omega
         refine ⟨.pointer (some ⟨g, j * 5, none⟩), w, wants_some (d := 114) rfl rfl (by rw [h.size]; show 114 < 207; decide) e114, ?_, gb_refl _ _, rfl⟩
         clear h
         simp only [execOp, Act.eval, e116, e117]
         go_simp
        refine ⟨Fg.vT rfl (by decide) fun ac w h => ?_, ?_⟩
        ·have e114 : _ = Value.bool false := h.d 114
         have e118 : _ = Value.pointer (some ⟨g, j * 5, none⟩) := h.d 118
         refine ⟨(L.getD j Fe.zeroF).v, w, wants_some (d := 114) rfl rfl (by rw [h.size]; show 114 < 207; decide) e114, ?_, gb_refl _ _, rfl⟩
         exact Fg.run_load rfl e118 (own_range hL200 (HA.out.stay h.base).own j (by omega)) Tryz.underlying27 rfl Nr.info_elem5
        refine ⟨Fg.cT rfl (by decide) fun ac w h => ?_, ?_⟩
        ·have e114 : _ = Value.bool false := h.d 114
         have e115 : _ = Fe.zeroF.v := h.d 115
         have e119 : _ = (L.getD j Fe.zeroF).v := h.d 119
         refine ⟨15, #[Fe.zeroF.v, (L.getD j Fe.zeroF).v], wants_some (d := 114) rfl rfl (by rw [h.size]; show 114 < 207; decide) e114, Fg.run_call rfl rfl (by simp only [List.map_toArray, List.map_cons, List.map_nil, Act.eval, e115, e119]) (Fg.run_enter Tryz.func15 (by kernel_rfl) (by kernel_rfl)), ?_⟩
         exact (CP.out _ _ w (gb_trans H1.out.1 (gb_trans HA.out.g h.base)) zero_right.ok (HA.out.at j (by omega))).mono fun _ _ ⟨he, hg⟩ => ⟨_, he, hg, rfl⟩
        refine ⟨Fg.vT rfl (by decide) fun ac w h => ?_, ?_⟩
        ·have e114 : _ = Value.bool false := h.d 114
         have e120 : _ = Value.bool true := h.d 120
         refine ⟨Value.bool false, w, wants_some (d := 114) rfl rfl (by rw [h.size]; show 114 < 207; decide) e114, ?_, gb_refl _ _, rfl⟩
         clear h
         simp only [execOp, Act.eval, e120]
         go_simp
        refine ⟨Fg.vT rfl (by decide) fun ac w h => ?_, ?_⟩
        ·have e114 : _ = Value.bool false := h.d 114
         have e121 : _ = Value.bool false := h.d 121
         refine ⟨Value.bool false, w, wants_none rfl, ?_, gb_refl _ _, rfl⟩
         clear h
         simp only [execOp, Act.eval, e114, e121]
         go_simp
        refine ⟨Fg.vT rfl (by decide) fun ac w h => ?_, ?_⟩
        ·have e122 : _ = Value.bool false := h.d 122
         exact ⟨_, w, wants_none rfl, Fg.run_move rfl e122, gb_refl _ _, rfl⟩
        refine ⟨Fg.vT rfl (by decide) fun ac w h => ?_, ?_⟩
        ·have e123 : _ = Value.bool false := h.d 123
         have e2 : _ = Value.slice (some ⟨g, 0, none⟩) 200 c := h.r 2
         exact ⟨_, w, wants_some (d := 123) rfl rfl (by rw [h.size]; show 123 < 207; decide) e123, Fg.run_move rfl e2, gb_refl _ _, rfl⟩
        refine ⟨Fg.vT rfl (by decide) fun ac w h => ?_, ?_⟩
        ·have e123 : _ = Value.bool false := h.d 123
         have e7 : _ = Value.int .i64 (j : Int) := h.r 7
         exact ⟨_, w, wants_some (d := 123) rfl rfl (by rw [h.size]; show 123 < 207; decide) e123, Fg.run_move rfl e7, gb_refl _ _, rfl⟩
        refine ⟨Fg.vT rfl (by decide) fun ac w h => ?_, ?_⟩
        ·have e123 : _ = Value.bool false := h.d 123
         have e124 : _ = Value.slice (some ⟨g, 0, none⟩) 200 c := h.d 124
         have e125 : _ = Value.int .i64 (j : Int) := h.d 125
         have i2 : (j : Int) < 200 := by omega
         refine ⟨.pointer (some ⟨g, j * 5, none⟩), w, wants_some (d := 123) rfl rfl (by rw [h.size]; show 123 < 207; decide) e123, ?_, gb_refl _ _, rfl⟩
         clear h
         simp only [execOp, Act.eval, e124, e125]
         go_simp
        refine ⟨Fg.vT rfl (by decide) fun ac w h => ?_, ?_⟩
        ·have e123 : _ = Value.bool false := h.d 123
         have e126 : _ = Value.pointer (some ⟨g, j * 5, none⟩) := h.d 126
         refine ⟨(L.getD j Fe.zeroF).v, w, wants_some (d := 123) rfl rfl (by rw [h.size]; show 123 < 207; decide) e123, ?_, gb_refl _ _, rfl⟩
         exact Fg.run_load rfl e126 (own_range hL200 (HA.out.stay h.base).own j (by omega)) Tryz.underlying27 rfl Nr.info_elem5
        refine ⟨Fg.vT rfl (by decide) fun ac w h => ?_, ?_⟩
        ·have e123 : _ = Value.bool false := h.d 123
         refine ⟨Fe.zeroF.v, w, wants_some (d := 123) rfl rfl (by rw [h.size]; show 123 < 207; decide) e123, ?_, gb_refl _ _, rfl⟩
         clear h
         simp only [execOp, Act.eval, List.map_toArray, List.map_nil]
         go_simp
         rfl
        refine ⟨Fg.cT rfl (by decide) fun ac w h => ?_, ?_⟩
        ·have e123 : _ = Value.bool false := h.d 123
         have e127 : _ = (L.getD j Fe.zeroF).v := h.d 127
         have e128 : _ = Fe.zeroF.v := h.d 128
         refine ⟨15, #[(L.getD j Fe.zeroF).v, Fe.zeroF.v], wants_some (d := 123) rfl rfl (by rw [h.size]; show 123 < 207; decide) e123, Fg.run_call rfl rfl (by simp only [List.map_toArray, List.map_cons, List.map_nil, Act.eval, e127, e128]) (Fg.run_enter Tryz.func15 (by kernel_rfl) (by kernel_rfl)), ?_⟩
         exact (CP.out _ _ w (gb_trans H1.out.1 (gb_trans HA.out.g h.base)) (HA.out.at j (by omega)) zero_right.ok).mono fun _ _ ⟨he, hg⟩ => ⟨_, he, hg, rfl⟩
        refine ⟨Fg.vT rfl (by decide) fun ac w h => ?_, ?_⟩
        ·have e123 : _ = Value.bool false := h.d 123
         have e129 : _ = Value.bool true := h.d 129
         refine ⟨Value.bool false, w, wants_some (d := 123) rfl rfl (by rw [h.size]; show 123 < 207; decide) e123, ?_, gb_refl _ _, rfl⟩
         clear h
         simp only [execOp, Act.eval, e129]
         go_simp
        refine ⟨Fg.vT rfl (by decide) fun ac w h => ?_, ?_⟩
        ·have e123 : _ = Value.bool false := h.d 123
         have e130 : _ = Value.bool false := h.d 130
         refine ⟨Value.bool false, w, wants_none rfl, ?_, gb_refl _ _, rfl⟩
         clear h
         simp only [execOp, Act.eval, e123, e130]
         go_simp
        trivial
       ·intro aq wq hB hsz hdf hrest hslots hpt
        obtain ⟨⟨u91, e91⟩, ⟨u92, e92⟩, ⟨u93, e93⟩, ⟨u94, e94⟩, ⟨u95, e95⟩, ⟨u96, e96⟩, ⟨u97, e97⟩, ⟨u98, e98⟩, ⟨u99, e99⟩, ⟨u100, e100⟩, ⟨u101, e101⟩, ⟨u102, e102⟩, ⟨u103, e103⟩, ⟨u104, e104⟩, ⟨u105, e105⟩, ⟨u106, e106⟩, ⟨u107, e107⟩, ⟨u108, e108⟩, ⟨u109, e109⟩, ⟨u110, e110⟩, ⟨u111, e111⟩, ⟨u112, e112⟩, ⟨u113, e113⟩, ⟨u114, e114⟩, ⟨u115, e115⟩, ⟨u116, e116⟩, ⟨u117, e117⟩, ⟨u118, e118⟩, ⟨u119, e119⟩, ⟨u120, e120⟩, ⟨u121, e121⟩, ⟨u122, e122⟩, ⟨u123, e123⟩, ⟨u124, e124⟩, ⟨u125, e125⟩, ⟨u126, e126⟩, ⟨u127, e127⟩, ⟨u128, e128⟩, ⟨u129, e129⟩, ⟨u130, e130⟩, _⟩ := Fg.slotvs aq [91, 92, 93, 94, 95, 96, 97, 98, 99, 100, 101, 102, 103, 104, 105, 106, 107, 108, 109, 110, 111, 112, 113, 114, 115, 116, 117, 118, 119, 120, 121, 122, 123, 124, 125, 126, 127, 128, 129, 130]
        have e131 : aq.tmps.getD 131 undef = Value.bool false := hslots 131 (by kernel_rfl)
        obtain rfl := Fg.frame_by [91, 92, 93, 94, 95, 96, 97, 98, 99, 100, 101, 102, 103, 104, 105, 106, 107, 108, 109, 110, 111, 112, 113, 114, 115, 116, 117, 118, 119, 120, 121, 122, 123, 124, 125, 126, 127, 128, 129, 130, 131] (vs := [_, _, _, _, _, _, _, _, _, _, _, _, _, _, _, _, _, _, _, _, _, _, _, _, _, _, _, _, _, _, _, _, _, _, _, _, _, _, _, _, _, _, _, _, _, _, _, _, _, _, _, _, _, _, _, _, _, _, _, _, _, _, _, _, _, _, _, _, _, _, _, _, _, _, _, _, _, _, _, _, _, _, _, _, _, _, _, _, _, _, _, u91, u92, u93, u94, u95, u96, u97, u98, u99, u100, u101, u102, u103, u104, u105, u106, u107, u108, u109, u110, u111, u112, u113, u114, u115, u116, u117, u118, u119, u120, u121, u122, u123, u124, u125, u126, u127, u128, u129, u130, Value.bool false, _, _, _, _, _, _, _, _, _, _, _, _, _, _, _, _, _, _, _, _, _, _, _, _, _, _, _, _, _, _, _, _, _, _, _, _, _, _, _, _, _, _, _, _, _, _, _, _, _, _, _, _, _, _, _, _, _, _, _, _, _, _, _, _, _, _, _, _, _, _, _, _, _, _, _]) hsz hrest (by kernel_rfl) rfl rfl ⟨e91, e92, e93, e94, e95, e96, e97, e98, e99, e100, e101, e102, e103, e104, e105, e106, e107, e108, e109, e110, e111, e112, e113, e114, e115, e116, e117, e118, e119, e120, e121, e122, e123, e124, e125, e126, e127, e128, e129, e130, e131, trivial⟩ hdf
        clear hsz hdf hrest hslots hpt e91 e92 e93 e94 e95 e96 e97 e98 e99 e100 e101 e102 e103 e104 e105 e106 e107 e108 e109 e110 e111 e112 e113 e114 e115 e116 e117 e118 e119 e120 e121 e122 e123 e124 e125 e126 e127 e128 e129 e130 e131
        refine wpList_nil ?_
        have HB := Lib.hid (HA.out.stay hB); clear hB
        go_wp2
        exact ⟨⟨j + 9, by omega, by congr 1, HB.out⟩, by simp [intOf]; omega⟩
      ·have i0 : ¬ (j : Int) < 200 := by omega
       have HG := Lib.hid (gb_trans H1.out.1 HA.out.g)
       clear HA hlt H1 hL200 hj
       go_wp2
       go_loopw [8, 9, 10] (fun i _b _c wr2 => ∃ n : Int, -20 ≤ n ∧ n ≤ 19 ∧ i = .int .i64 n ∧ w0.grownBy wr2 none) (fun i _ _ _ => (19 - intOf i).toNat)
       case atStart => exact ⟨-20, by decide, by decide, rfl, HG.out⟩
       case round =>
        clear HG
        obtain ⟨n, hn0, hn1, rfl, hg⟩ := hrel
        have HG := Lib.hid hg; clear hg
        by_cases hlt : n < 19
        ·go_wp2_with fail
         refine (edge_any n wr hn0 hlt).mono ?_
         rintro e wa ⟨ga, rfl, qa, sa, ba⟩
         have HA := Lib.hid (And.intro (gb_trans HG.out qa) (And.intro ba sa)); clear qa ba sa
         go_wp2_with fail
         refine (edge_any n wa hn0 hlt).mono ?_
         rintro e wb ⟨gc, rfl, qb, sb, bb⟩
         obtain ⟨v31, c31⟩ := bb.cell 31 (by decide)
         have f31 := bb.free 31
         have s0 := HA.out.1.size
         have qs := gb_set_new (gb_trans HA.out.1 qb) (p := ⟨gc, 31, none⟩) (by show w0.heap.size ≤ gc; omega) (u8N 255)
         have bs : Bb (wb.setCell ⟨gc, 31, none⟩ (u8N 255)) ga := (HA.out.2.1.stay qb).other (a := ⟨gc, 31, none⟩) (by show gc ≠ ga; have := HA.out.2.1.lt; omega) _
         have HS := Lib.hid (And.intro qs (And.intro bs (And.intro (bb.set 31 255 (by decide)) (show w0.heap.size ≤ ga by have := HA.out.2.2; have := HG.out.size; omega)))); clear qs bs bb qb s0
         obtain ⟨pa, hpa, hPa⟩ := HS.out.2.1.at
         have HC1 := Lib.hid (CG.out 32 32 _ _ pa _ HS.out.1 hpa hPa); clear hpa hPa
         go_wp2_with fail
         refine HC1.out.mono ?_
         rintro e w2 ⟨rfl, g2⟩
         have H2 := Lib.hid (And.intro (gb_trans HS.out.1 g2) (And.intro (HS.out.2.1.stay g2) (HS.out.2.2.1.stay g2))); clear g2 c31 f31 HC1
         obtain ⟨pc, hpc, hPc⟩ := H2.out.2.2.at
         have HC2 := Lib.hid (CG.out 32 32 _ _ pc _ H2.out.1 hpc hPc); clear hpc hPc
         go_wp2_with fail
         refine HC2.out.mono ?_
         rintro e w3 ⟨rfl, g3⟩
         have H3 := Lib.hid (And.intro (gb_trans H2.out.1 g3) (H2.out.2.1.stay g3)); clear g3 HC2
         obtain ⟨pd, hpd, hPd⟩ := H3.out.2.at
         obtain ⟨a', hs1, ha1⟩ := slice_from (some ⟨ga, 0, none⟩) 32 32 1 (by decide)
         rw [ha1 (by decide) ga 0 rfl] at hs1
         have hs2 : ∀ w, (Instr.slice 22 (.slice (some ⟨ga, 0, none⟩) 32 32) (some (.int .i64 1)) none none).run Tryz.prog w = .ok (.slice (some ⟨ga, 1, none⟩) 31 31) w := hs1
         have hPd1 : BytesAt w3 w3.heap.size (some ⟨ga, 1, none⟩) 31 (pd.drop 1) := bytes_drop (k := 1) (a' := some ⟨ga, 1, none⟩) hPd (fun _ pb po e => by cases e; rfl)
         have HC3 := Lib.hid (CG.out 31 31 _ _ (pd.drop 1) _ H3.out.1 (by rw [List.length_drop, hpd]) hPd1); clear hs1 ha1 hPd1 hPd hpd
         go_wp2_with fail
         refine HC3.out.mono ?_
         rintro e w4 ⟨rfl, g4⟩
         have H4 := Lib.hid (And.intro (gb_trans H3.out.1 g4) (H3.out.2.stay g4)); clear g4 HC3 hs2
         obtain ⟨pe, hpe, hbe, hBe⟩ := H4.out.2
         have hgz := gb_alloc (gb_refl w4 none) (.cells #[.int .u8 0] 5)
         have hbz : BytesAt (w4.alloc (.cells #[.int .u8 0] 5)) (w4.heap.size + 1) (some ⟨w4.heap.size, 0, none⟩) 1 [0] :=
          blk_bytes (n := 1) (tl := []) (Blk.new w4 [u8N 0] 5) rfl (by decide) (by decide) (fun i => by rcases i with _ | i <;> simp) (by simp) (by simp)
         have hoz := own_of_blk (n := 32) (base := w0.heap.size) (hBe.gn hgz) (by rw [List.length_map]; exact hpe) HS.out.2.2.2 (by decide)
         obtain ⟨v', w5, hap, ho5, hg5⟩ := append_bytes _ w0.heap.size 32 _ 1 1 _ _ _ [0] hoz rfl hbz (by decide) (gb_trans H4.out.1 hgz).size
         have hg05 := gb_own (gb_trans H4.out.1 hgz) hoz (Nat.le_refl _) hg5
         rw [← List.map_append] at ho5
         obtain ⟨g', c', rfl, _, _, hP5⟩ := own_bytesAt ho5 (by rw [List.length_append, hpe]; rfl) (by decide) (fun i => by
          rw [List.getD_eq_getElem?_getD]
          rcases Nat.lt_or_ge i pe.length with h | h
          ·rw [List.getElem?_append_left h, ← List.getD_eq_getElem?_getD]; exact hbe i
          ·rw [List.getElem?_append_right h]
           rcases hq : i - pe.length with _ | m
           ·decide
           ·simp)
         have HC4 := Lib.hid (CG.out 33 c' _ _ (pe ++ [0]) w5 hg05 (by rw [List.length_append, hpe]; rfl) hP5)
         have H5 := Lib.hid hg05; clear hg05 hP5 ho5 hg5 hoz hbz hgz hBe hbe hpe
         go_wp2_with (at_builtin; refine wpList_append_runG rfl (.tmp 157) (.tmp 158) 22 rfl rfl _ _ rfl rfl _ _ hap ?_)
         refine HC4.out.mono ?_
         rintro e w6 ⟨rfl, g6⟩
         have H6 := Lib.hid (gb_trans H5.out g6); clear g6 HC4
         go_wp2
         exact ⟨⟨n + 1, by omega, by omega, rfl, H6.out⟩, by simp [intOf]; omega⟩
        ·clear hn0 hn1
         go_wp2
         go_loopw [11] (fun i wr2 => ∃ n : Nat, n ≤ 12 ∧ i = .int .u64 n ∧ w0.grownBy wr2 none) (fun i _ => 12 - (intOf i).toNat)
         case atStart => exact ⟨0, by omega, rfl, HG.out⟩
         case round =>
          clear HG
          obtain ⟨n, hn1, rfl, hg⟩ := hrel
          have HG := Lib.hid hg; clear hg
          by_cases hlt : n < 12
          ·have i0 : (n : Int) < 12 := by omega
           have okn : (Fe.mk (n : Int) 0 0 0 0).Ok := by constructor <;> simp <;> omega
           have okm : (Fe.mk ((n : Int) + 1) 0 0 0 0).Ok := by constructor <;> simp <;> omega
           have HO := Lib.hid (And.intro okn okm); clear okn okm
           go_wp2_with fail
           refine (small_any n wr).mono ?_
           rintro e x1 ⟨rfl, g1⟩
           have K1 := Lib.hid (gb_trans HG.out g1); clear g1
           go_wp2_with fail
           refine (c_one x1).mono ?_
           rintro e x2 ⟨rfl, g2⟩
           have K2 := Lib.hid (gb_trans K1.out g2); clear g2
           go_wp2_with fail
           refine (CP.out _ _ x2 K2.out HO.out.1 one_rt.ok).mono ?_
           rintro e x3 ⟨rfl, g3⟩
           have K3 := Lib.hid (gb_trans K2.out g3); clear g3
           go_wp2_with fail
           refine (c_one x3).mono ?_
           rintro e x4 ⟨rfl, g4⟩
           have K4 := Lib.hid (gb_trans K3.out g4); clear g4
           go_wp2_with fail
           refine (small_any n x4).mono ?_
           rintro e x5 ⟨rfl, g5⟩
           have K5 := Lib.hid (gb_trans K4.out g5); clear g5
           go_wp2_with fail
           refine (CP.out _ _ x5 K5.out one_rt.ok HO.out.1).mono ?_
           rintro e x6 ⟨rfl, g6⟩
           have K6 := Lib.hid (gb_trans K5.out g6); clear g6
           go_wp2_with fail
           refine (small_any n x6).mono ?_
           rintro e x7 ⟨rfl, g7⟩
           have K7 := Lib.hid (gb_trans K6.out g7); clear g7
           go_wp2_with fail
           refine (feOut_and (neg_any ⟨n, 0, 0, 0, 0⟩ x7 (HT.out.grown K7.out) HO.out.1)).mono ?_
           rintro e x8 ⟨rfl, g8⟩
           have K8 := Lib.hid (gb_trans K7.out g8); clear g8
           go_wp2_with fail
           refine (small_any _ x8).mono ?_
           rintro e x9 ⟨rfl, g9⟩
           have K9 := Lib.hid (gb_trans K8.out g9); clear g9
           go_wp2_with fail
           refine (CP.out _ _ x9 K9.out (Fe.sub_right _ _).ok HO.out.2).mono ?_
           rintro e x10 ⟨rfl, g10⟩
           have K10 := Lib.hid (gb_trans K9.out g10); clear g10
           go_wp2
           exact ⟨⟨n + 1, by omega, by congr 1, K10.out⟩, by simp [intOf]; omega⟩
          ·obtain rfl : n = 12 := by omega
           clear hlt
           have ok1 : (Fe.mk 9223372036854775808 18446744073709551615 4503599627370496 0 0).Ok := by constructor <;> decide
           have ok2 : (Fe.mk 18446744073709551615 0 0 0 0).Ok := by constructor <;> decide
           have ok3 : (Fe.mk 9223372036854775808 0 0 0 0).Ok := by constructor <;> decide
           have C1 := Lib.hid (fun w hg => CR.out _ _ w hg ok1 zero_right.ok)
           have C2 := Lib.hid (fun w hg => CP.out _ _ w hg ok2 ok3)
           clear ok1 ok2 ok3
           go_wp2_with fail
           refine (C1.out wr HG.out).mono ?_
           rintro e x1 ⟨rfl, g1⟩
           have K1 := Lib.hid (gb_trans HG.out g1); clear g1
           go_wp2_with fail
           refine (C2.out x1 K1.out).mono ?_
           rintro e x2 ⟨rfl, g2⟩
           have K2 := Lib.hid (gb_trans K1.out g2); clear g2
           have C3 := Lib.hid (CG.out 0 0 x2.heap.size none [] x2 K2.out rfl ⟨Nat.le_refl _, Nat.le_refl _, by decide, fun i => by show (0 : Nat) < 256; decide, Or.inl rfl⟩)
           go_wp2_with fail
           refine C3.out.mono ?_
           rintro e x3 ⟨rfl, g3⟩
           have K3 := Lib.hid (gb_trans K2.out g3); clear g3
           obtain ⟨x4, hmk, hg4, _, hb4⟩ := make_bytes 32 32 x3 (Nat.le_refl _) (by decide)
           have hmk : (Instr.makeSlice 22 (.int .i64 32) (.int .i64 32)).run Tryz.prog x3 = .ok (.slice (some ⟨x3.heap.size, 0, none⟩) 32 32) x4 := hmk
           have hB4 : Bb x4 x3.heap.size := ⟨List.replicate 32 0, by simp, fun i => by
            rw [List.getD_eq_getElem?_getD, List.getElem?_replicate]
            split <;> decide, by rw [List.map_replicate]; exact hb4⟩
           obtain ⟨pz, hpz, hPz⟩ := hB4.at
           have C4 := Lib.hid (CG.out 32 32 _ _ pz x4 (gb_trans K3.out hg4) hpz hPz)
           have K4 := Lib.hid (gb_trans K3.out hg4); clear hg4 hb4 hB4 hpz hPz
           go_wp2_with fail
           refine C4.out.mono ?_
           rintro e x5 ⟨rfl, g5⟩
           have K5 := Lib.hid (gb_trans K4.out g5); clear g5
           go_wp2_with fail
           refine (awake_any x5 (HT.out.grown K5.out)).mono ?_
           rintro e x6 ⟨rfl, g6⟩
           have K6 := Lib.hid (gb_trans K5.out g6); clear g6
           go_wp2
           go_ret
           exact ⟨rfl, K6.out⟩
end Nn
end
section
open Go.ChangeShapes Go.WideShapes Go.ChangeAt Go.RowKit Ow
theorem laidMet_tail {P : Program} {x : String × DataW Unit} {rest : List (String × DataW Unit)} {W : World} (h : laidMet P (x :: rest) W) : laidMet P rest W := by
 obtain ⟨ps, ⟨g, t, cs, fuel, p, q, _, _, _, _, hq, rfl⟩, hn, hc⟩ := h
 exact ⟨q, hq, (List.nodup_append.1 hn).2.1, fun b off hm => hc b off (List.mem_append_right _ hm)⟩
theorem own : ownKnob Tryz.prog.godebug = none := by kernel_rfl
end
section
open Go.ChangeShapes Go.WideShapes Go.ChangeAt Go.RowKit
def listF : List Int := [9007199254740916, 9007199254740988, 9007199254740988, 9007199254740988, 9007199254740988]
def listI : List Int := [1718705420411056, 234908883556509, 2233514472574048, 2117202627021982, 765476049583133]
theorem laid_is : [("buttress/field.fourTimesP", Rows.laid_buttress_field_fourTimesP), ("buttress/field.rootOfMinusOne", Rows.laid_buttress_field_rootOfMinusOne)] = [("buttress/field.fourTimesP", Lib.tabData (H := Unit) .u64 listF), ("buttress/field.rootOfMinusOne", Lib.tabData .u64 listI)] := by kernel_rfl
theorem tables {W : World} (h : laidMet Tryz.prog [("buttress/field.fourTimesP", Rows.laid_buttress_field_fourTimesP), ("buttress/field.rootOfMinusOne", Rows.laid_buttress_field_rootOfMinusOne)] W) : FTab W := by
 rw [laid_is] at h
 have g0 : Tryz.prog.globalNamed "buttress/field.fourTimesP" = some 1 := by kernel_rfl
 have g1 : Tryz.prog.globalNamed "buttress/field.rootOfMinusOne" = some 0 := by kernel_rfl
 have h0 := Lib.tabIs_of_head g0 (by kernel_rfl) Tryz.underlying27 Tryz.underlying25 (by kernel_rfl) (by kernel_rfl) h
 have h1 := Lib.tabIs_of_head g1 (by kernel_rfl) Tryz.underlying27 Tryz.underlying25 (by kernel_rfl) (by kernel_rfl) (laidMet_tail h)
 have hp : ∀ i, i < 5 → W.cell? ⟨1, i, none⟩ = some (.int .u64 (fourP i)) := fun i hi => by
  rw [h0.cell g0 i hi]
  obtain rfl | rfl | rfl | rfl | rfl : i = 0 ∨ i = 1 ∨ i = 2 ∨ i = 3 ∨ i = 4 := by omega
  all_goals rfl
 have hq : ∀ i, i < 5 → W.cell? ⟨0, i, none⟩ = some (.int .u64 (rootI.at i)) := fun i hi => by
  rw [h1.cell g1 i hi]
  obtain rfl | rfl | rfl | rfl | rfl : i = 0 ∨ i = 1 ∨ i = 2 ∨ i = 3 ∨ i = 4 := by omega
  all_goals rfl
 refine ⟨?_, hp, hq⟩
 have h2 := block_lt_of_cell (hp 0 (by decide))
 have h3 := block_lt_of_cell (hq 0 (by decide))
 simp only [] at h2 h3
 exact ⟨h2, h3⟩
def putObj (l : List Int) : Obj → Obj
 | .cells _ t frozen => .cells (l.map (Value.int .u64)).toArray t frozen
 | o => o
noncomputable def laidWorld (os : Os) : World :=
 { World.holding Tryz.prog os ⟨#[], #[], []⟩ with heap := ((World.holding Tryz.prog os ⟨#[], #[], []⟩).heap.modify 1 (putObj listF)).modify 0 (putObj listI) }
end
end Go.Proofs.YtcmnecnbcohaeaaGreatDoor
