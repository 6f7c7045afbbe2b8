/- A record at work: its dot, whether it is placed, whether its shape is right. -/
import Derived.Test.YtohcoihdijemfaaRcMem
import Derived.Outline
namespace Go.Proofs.Ytohcoihdijemfaa
open Go.RowKit Ow Wi Ve
namespace Rc
/-- a record's value, spelled out -/
abbrev vV (s : ByteArray) (cl sq : Int) (a1 : Option Addr) (n1 c1 : Nat) (g : Bool) (a2 : Option Addr) (n2 c2 : Nat) (a3 : Option Addr) (n3 c3 : Nat) : Value :=
  .agg #[.string s, iV cl, iV sq, .slice a1 n1 c1, .bool g, .slice a2 n2 c2, .slice a3 n3 c3]
section
set_option maxHeartbeats 400000 in
theorem dot_any (s : ByteArray) (cl sq : Int) (a1 : Option Addr) (n1 c1 : Nat) (g : Bool) (a2 : Option Addr) (n2 c2 : Nat) (a3 : Option Addr) (n3 c3 : Nat) (w : World) :
    Calls Try.prog 37 #[vV s cl sq a1 n1 c1 g a2 n2 c2 a3 n3 c3] w fun e w' => e = .returned (.agg #[iV cl, iV sq]) ∧ w.grownBy w' none := by
  go_enter Try.func37, Try.ntmps37
  go_wp2
  exact bodyPost_ret (v := .agg #[iV cl, iV sq]) (by simp [results, Try.results37, go_sem]) rfl ⟨rfl, gb_alloc (gb_alloc (gb_refl _ _) _) _⟩
set_option maxHeartbeats 400000 in
theorem placed_any (b : Bool) (r : R) (B : Nat) (w : World) (q : L) (h : RAt w B q r) (hb : placedB r = b) :
    Calls Try.prog 51 #[q.v r] w fun e w' => e = .returned (.bool b) ∧ w.grownBy w' none := by
  obtain ⟨s, a1, n1, c1, a2, n2, c2, a3, n3, c3⟩ := q
  obtain ⟨key, cl, sq, cx, g, val, sig⟩ := r
  have hl : cx.length = n1 := h.l1
  have HA := Lib.hid (fun w' (hg : w.grownBy w' none) => vright_any B n1 c1 a1 cx w' hl (h.dots.stay hg) h.top)
  have HO := Lib.hid (fun w' B2 a2 c2 (h2 : DotsAt w' B2 a2 [(cl, sq)]) => vright_any B2 1 c2 a2 [(cl, sq)] w' rfl h2 (by decide))
  have HC := Lib.hid (fun w' (hg : w.grownBy w' none) B2 a2 c2 (h2 : DotsAt w' B2 a2 [(cl, sq)]) => vcovers_any B B2 n1 1 c1 c2 a1 a2 cx [(cl, sq)] w' hl rfl (h.dots.stay hg) h2 h.top (by decide))
  clear h hl
  rw [rtB_one] at HO
  rw [← hasB_is] at HC
  have hb' : (okD (cl, sq) && rtB 0 cx && !hasB cx (cl, sq)) = b := hb
  clear hb
  generalize okD (cl, sq) = x at *
  generalize rtB 0 cx = y at *
  generalize hasB cx (cl, sq) = z at *
  show Calls _ _ #[vV s cl sq a1 n1 c1 g a2 n2 c2 a3 n3 c3] w _
  obtain ⟨N, hN⟩ : ∃ N, N = w.heap.size := ⟨_, rfl⟩
  obtain ⟨W0, hW0⟩ : ∃ W0, W0 = w.alloc (.cells #[.string s, iV cl, iV sq, .slice a1 n1 c1, .bool g, .slice a2 n2 c2, .slice a3 n3 c3] 55) := ⟨_, rfl⟩
  have hG0 : w.grownBy W0 none := by rw [hW0]; exact gb_alloc (gb_refl _ _) _
  have hB0 : Blk W0 N 55 [.string s, iV cl, iV sq, .slice a1 n1 c1, .bool g, .slice a2 n2 c2, .slice a3 n3 c3] := by rw [hW0, hN]; exact Blk.new w _ _
  have HG0 := Lib.hid (And.intro hG0 hB0); clear hG0 hB0
  go_enter Try.func51, Try.ntmps51
  go_wp2_with fail
  rw [← hW0, ← hN]
  clear hW0 hN
  refine (dot_any s cl sq a1 n1 c1 g a2 n2 c2 a3 n3 c3 W0).mono ?_
  rintro e w1 ⟨rfl, hg⟩
  have hD := dots_one w1 cl sq 43
  obtain ⟨W1, hW1⟩ : ∃ W1, W1 = w1.alloc (.cells #[iV cl, iV sq] 43) := ⟨_, rfl⟩
  rw [← hW1] at hD
  have hg1 : w.grownBy W1 none := by rw [hW1]; exact gb_alloc (gb_trans HG0.out.1 hg) _
  have hB1 : Blk W1 N 55 [.string s, iV cl, iV sq, .slice a1 n1 c1, .bool g, .slice a2 n2 c2, .slice a3 n3 c3] := by rw [hW1]; exact (HG0.out.2.grown hg (by simp)).alloc _
  have HG1 := Lib.hid (And.intro hg1 (And.intro hD hB1)); clear hg1 hD hg hB1
  obtain ⟨M, hM⟩ : ∃ M, M = w1.heap.size := ⟨_, rfl⟩
  rw [← hM] at HG1
  go_wp2_with fail
  rw [← hW1, ← hM]
  clear hW1 hM
  refine (HO.out _ _ _ 1 HG1.out.2.1).mono ?_
  rintro e w2 ⟨rfl, hg⟩
  have c3 := (HG1.out.2.2.grown hg (by simp)).cell (i := 3) rfl
  have HG2 := Lib.hid (And.intro (gb_trans HG1.out.1 hg) (HG1.out.2.1.stay hg)); clear hg
  cases x with
  | false =>
    go_wp2
    go_ret
    exact ⟨by rw [← hb']; rfl, HG2.out.1⟩
  | true =>
    go_wp2_with fail
    refine (HA.out _ HG2.out.1).mono ?_
    rintro e w3 ⟨rfl, hg⟩
    have c4 : w3.cell? ⟨N, 3, none⟩ = some (.slice a1 n1 c1) := by rw [gb_cell hg (block_lt_of_cell c3) (by simp)]; exact c3
    have HG3 := Lib.hid (And.intro (gb_trans HG2.out.1 hg) (HG2.out.2.stay hg)); clear hg c3
    cases y with
    | false =>
      go_wp2
      go_ret
      exact ⟨by rw [← hb']; rfl, HG3.out.1⟩
    | true =>
      go_wp2_with fail
      refine (HC.out _ HG3.out.1 _ _ _ HG3.out.2).mono ?_
      rintro e w4 ⟨rfl, hg⟩
      have HG4 := Lib.hid (gb_trans HG3.out.1 hg); clear hg c4
      go_wp2
      go_ret
      exact ⟨by rw [← hb']; simp, HG4.out⟩
set_option maxHeartbeats 400000 in
theorem shaped_any (b : Bool) (r : R) (B : Nat) (w : World) (q : L) (h : RAt w B q r) (hb : shapeB r = b) :
    Calls Try.prog 34 #[q.v r] w fun e w' => e = .returned (.bool b) ∧ w.grownBy w' none := by
  have HP := Lib.hid (fun w' (hg : w.grownBy w' none) => placed_any _ r B w' q (h.stay hg) rfl)
  have hk := h.keyLen
  have hv := h.l2
  clear h
  unfold shapeB keyB valB at hb
  generalize placedB r = z at HP hb
  obtain ⟨s, a1, n1, c1, a2, n2, c2, a3, n3, c3⟩ := q
  obtain ⟨key, cl, sq, cx, g, val, sig⟩ := r
  simp only at hk hv hb
  rw [hk, hv] at hb
  clear hk hv
  show Calls _ _ #[vV s cl sq a1 n1 c1 g a2 n2 c2 a3 n3 c3] w _
  replace HP : Hid (∀ w' (hg : w.grownBy w' none), Calls Try.prog 51 #[vV s cl sq a1 n1 c1 g a2 n2 c2 a3 n3 c3] w' fun e w'' => e = .returned (.bool z) ∧ w'.grownBy w'' none) := HP
  obtain ⟨N, hN⟩ : ∃ N, N = w.heap.size := ⟨_, rfl⟩
  obtain ⟨W0, hW0⟩ : ∃ W0, W0 = w.alloc (.cells #[.string s, iV cl, iV sq, .slice a1 n1 c1, .bool g, .slice a2 n2 c2, .slice a3 n3 c3] 55) := ⟨_, rfl⟩
  have hG0 : w.grownBy W0 none := by rw [hW0]; exact gb_alloc (gb_refl _ _) _
  have hB0 : Blk W0 N 55 [.string s, iV cl, iV sq, .slice a1 n1 c1, .bool g, .slice a2 n2 c2, .slice a3 n3 c3] := by rw [hW0, hN]; exact Blk.new w _ _
  have HG0 := Lib.hid (And.intro hG0 hB0); clear hG0 hB0
  cases g
  all_goals
    simp only [Bool.false_eq_true, if_true, if_false] at hb
    have HB := Lib.hid hb; clear hb
    go_enter Try.func34, Try.ntmps34
    by_cases h1 : 1 ≤ s.size
    · have i1 : (1 : Int) ≤ (s.size : Int) := by omega
      by_cases h2 : s.size ≤ 64
      · have i2 : (s.size : Int) ≤ 64 := by omega
        go_wp2_with fail
        rw [← hW0, ← hN]
        clear hW0 hN
        refine (HP.out W0 HG0.out.1).mono ?_
        rintro e w1 ⟨rfl, hg⟩
        have k5 := (HG0.out.2.grown hg (by simp)).cell (i := 5) rfl
        have HG1 := Lib.hid (gb_trans HG0.out.1 hg); clear hg
        cases z with
        | false =>
          have HF : Hid (b = false) := by show b = _; rw [← HB.out]; simp
          go_wp2
          go_ret
          exact ⟨by rw [HF.out]; rfl, HG1.out⟩
        | true =>
          have HE : Hid ((decide (n2 ≤ 1024) = decide ((n2 : Int) ≤ 1024)) ∧ decide (n2 ≤ 0) = decide (n2 = 0)) := ⟨by rw [Bool.eq_iff_iff]; simp; omega, by simp⟩
          go_wp2
          go_ret
          refine ⟨?_, HG1.out⟩
          first
          | exact congrArg (fun x => Ending.returned (Value.bool x)) (show decide ((n2 : Int) ≤ 1024) = b from by have h := HB.out; rw [HE.out.1] at h; rw [← h]; simp [h1, h2])
          | exact congrArg (fun x => Ending.returned (Value.bool x)) (show decide (n2 = 0) = b from by have h := HB.out; rw [HE.out.2] at h; rw [← h]; simp [h1, h2])
      · have i2 : ¬ (s.size : Int) ≤ 64 := by omega
        have HF : Hid (b = false) := by show b = _; rw [← HB.out]; simp [h2]
        go_wp2
        go_ret
        exact ⟨by rw [HF.out]; rfl, by rw [← hW0]; exact HG0.out.1⟩
    · have i1 : ¬ (1 : Int) ≤ (s.size : Int) := by omega
      have HF : Hid (b = false) := by show b = _; rw [← HB.out]; simp [h1]
      go_wp2
      go_ret
      exact ⟨by rw [HF.out]; rfl, by rw [← hW0]; exact HG0.out.1⟩
end
end Rc
end Go.Proofs.Ytohcoihdijemfaa
