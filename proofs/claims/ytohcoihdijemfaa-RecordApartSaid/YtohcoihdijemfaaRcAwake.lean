/- record's laws: the chapter's example; what is too great. -/
import Derived.Test.YtohcoihdijemfaaRcCalls
import Derived.Lib.SlBytesConst
import Derived.Laws.IdiomStrings
namespace Go.Proofs.Ytohcoihdijemfaa
open Go.RowKit Ow Wi Ve
namespace Rc
theorem mark_bytes (w : World) (l : List Nat) (f : Nat × Nat) (n : Nat) (hn : l.length = n) (hm : n < 9223372036854775808) (hb : ∀ i, l.getD i 0 < 256) :
    BytesAt (w.alloc (.cells (l.map u8N).toArray 5 f)) (w.heap.size + 1) (some ⟨w.heap.size, 0, none⟩) n l :=
  ⟨by simp, by omega, hm, hb, Or.inr ⟨w.heap.size, 0, rfl, by omega, fun i hi => by
    have h : (w.alloc (.cells (l.map u8N).toArray 5 f)).heap[w.heap.size]? = some (.cells (l.map u8N).toArray 5 f) := heap_alloc_new _ _
    rw [Nat.zero_add]
    unfold World.cell?
    rw [h]
    simp [List.getElem?_eq_getElem hi]⟩⟩
def exR : R := ⟨[97], 1, 1, [], false, [120], []⟩
def exO : R := ⟨[97], 1, 1, [(1, 1)], false, [120], []⟩
theorem ex_len : (textO exR).length = 44 := by decide +kernel
theorem ex_one : (textO exR).getD 0 0 = 1 := by decide +kernel
theorem ex_own : textO exO = [] := by decide +kernel
theorem ex_right : rightB exR = false := by decide +kernel
set_option maxRecDepth 100000 in
set_option maxHeartbeats 4000000 in
theorem awake8_any (w : World) : Calls Try.prog 5 #[] w fun e w' => e = .returned (.bool true) ∧ w.grownBy w' none := by
  have hcv := fun (w : World) (C : Array Value) (n c : Nat) => Lib.run_convert_bytes_const (P := Try.prog) w 22 5 C n c Try.underlying22 Try.underlying5
  obtain ⟨G, hG⟩ : ∃ G, G = w.heap.size := ⟨_, rfl⟩
  obtain ⟨N, hN⟩ : ∃ N, N = w.heap.size + 1 := ⟨_, rfl⟩
  obtain ⟨W0, hW0⟩ : ∃ W0, W0 = (w.alloc (.cells #[.int .u8 120] 5 (1, 2))).alloc (.cells #[.string ⟨#[97]⟩, iV 1, iV 1, .slice none 0 0, .bool false, .slice (some ⟨G, 0, none⟩) 1 1, .slice none 0 0] 25) := ⟨_, rfl⟩
  have HG : Hid (BytesAt W0 N (some ⟨G, 0, none⟩) 1 [120] ∧ Blk W0 N 25 [.string ⟨#[97]⟩, iV 1, iV 1, .slice none 0 0, .bool false, .slice (some ⟨G, 0, none⟩) 1 1, .slice none 0 0] ∧ w.grownBy W0 none) := by
    refine ⟨?_, ?_, ?_⟩
    · rw [hW0, hG, hN]; exact (mark_bytes w [120] (1, 2) 1 rfl (by decide) (fun i => by rcases i with _ | i <;> simp)).stay (gb_alloc (gb_refl _ _) _)
    · rw [hW0, hN]; exact blk_at _ _ _ (by simp)
    · rw [hW0]; exact gb_alloc (gb_alloc (gb_refl _ _) _) _
  have hR1 : ∀ w', W0.grownBy w' none → RAt w' N ⟨⟨#[97]⟩, none, 0, 0, some ⟨G, 0, none⟩, 1, 1, none, 0, 0⟩ exR := fun w' hg => by
    have hl : N ≤ w'.heap.size := Nat.le_trans (Nat.le_of_lt HG.out.2.1.lt) hg.size
    exact ⟨rfl, rfl, rfl, rfl, ⟨hl, Or.inl rfl⟩, HG.out.1.stay hg, ⟨hl, Nat.le_refl _, (by decide : (0 : Nat) < 9223372036854775808), fun i => by simp [exR], Or.inl rfl⟩, (by decide : (0 : Nat) < 9223372036854775808)⟩
  have HT := Lib.hid (rtext_any exR N W0 _ (hR1 W0 (gb_refl _ _)))
  have HRR := Lib.hid (fun w' hg => rright_any exR N w' _ (hR1 w' hg))
  rw [ex_right] at HRR
  clear hR1
  go_enter Try.func5, Try.ntmps5
  go_wp2_with fail
  rw [show (w.alloc (.cells #[.int .u8 120] 5 (1, 2))).alloc (.cells #[.string ⟨#[97]⟩, iV 1, iV 1, .slice none 0 0, .bool false, .slice (some ⟨w.heap.size, 0, none⟩) 1 1, .slice none 0 0] 25) = W0 from by rw [hW0, hG], ← hN, ← hG]
  clear hW0 hN hG
  refine HT.out.mono ?_
  rintro e w1 ⟨at1, ct, rfl, hg, hb⟩
  rw [ex_len]
  obtain ⟨pb, po, rfl, _, hc⟩ := hb.cells.resolve_left (by rw [ex_len]; decide)
  have t0 := hc 0 (by rw [ex_len]; decide)
  rw [ex_one] at t0
  have hct := hb.fits
  rw [ex_len] at hct
  have HG1 : Hid (BytesAt w1 N (some ⟨G, 0, none⟩) 1 [120] ∧ Blk w1 N 25 [.string ⟨#[97]⟩, iV 1, iV 1, .slice none 0 0, .bool false, .slice (some ⟨G, 0, none⟩) 1 1, .slice none 0 0] ∧ W0.grownBy w1 none ∧ w1.cell? ⟨pb, po, none⟩ = some (.int .u8 1)) := ⟨HG.out.1.stay hg, HG.out.2.1.grown hg (by simp), hg, t0⟩
  clear hg hb hc t0 HT
  have m0 := HG1.out.2.1.cell (i := 0) rfl
  have m1 := HG1.out.2.1.cell (i := 1) rfl
  have m2 := HG1.out.2.1.cell (i := 2) rfl
  have m3 := HG1.out.2.1.cell (i := 3) rfl
  have m4 := HG1.out.2.1.cell (i := 4) rfl
  have m5 := HG1.out.2.1.cell (i := 5) rfl
  have m6 := HG1.out.2.1.cell (i := 6) rfl
  obtain ⟨M, hM⟩ : ∃ M, M = w1.heap.size := ⟨_, rfl⟩
  obtain ⟨K, hK⟩ : ∃ K, K = w1.heap.size + 1 := ⟨_, rfl⟩
  obtain ⟨W2, hW2⟩ : ∃ W2, W2 = (w1.alloc (.cells #[.string ⟨#[97]⟩, iV 1, iV 1, .slice (some ⟨w1.heap.size + 1, 0, none⟩) 1 1, .bool false, .slice (some ⟨G, 0, none⟩) 1 1, .slice none 0 0] 25)).alloc (.cells #[iV 1, iV 1] 43) := ⟨_, rfl⟩
  have hgW : w1.grownBy W2 none := by rw [hW2]; exact gb_alloc (gb_alloc (gb_refl _ _) _) _
  have HG2 : Hid (BytesAt W2 N (some ⟨G, 0, none⟩) 1 [120] ∧ W0.grownBy W2 none ∧ Blk W2 N 25 [.string ⟨#[97]⟩, iV 1, iV 1, .slice none 0 0, .bool false, .slice (some ⟨G, 0, none⟩) 1 1, .slice none 0 0] ∧ DotsAt W2 (K + 1) (some ⟨K, 0, none⟩) [(1, 1)] ∧ N ≤ K) := by
    refine ⟨HG1.out.1.stay hgW, gb_trans HG1.out.2.2.1 hgW, HG1.out.2.1.grown hgW (by simp), ?_, by rw [hK]; have := HG1.out.2.1.lt; omega⟩
    have h := dots_one (w1.alloc (.cells #[.string ⟨#[97]⟩, iV 1, iV 1, .slice (some ⟨w1.heap.size + 1, 0, none⟩) 1 1, .bool false, .slice (some ⟨G, 0, none⟩) 1 1, .slice none 0 0] 25)) 1 1 43
    rw [World.size_alloc] at h
    rw [hW2, hK]; exact h
  have t2 : ((w1.alloc (.cells #[.string ⟨#[97]⟩, iV 1, iV 1, .slice (some ⟨w1.heap.size + 1, 0, none⟩) 1 1, .bool false, .slice (some ⟨G, 0, none⟩) 1 1, .slice none 0 0] 25)).alloc (.cells #[iV 1, iV 1] 43)).cell? ⟨pb, po, none⟩ = some (.int .u8 1) := by
    rw [← hW2, gb_cell hgW (block_lt_of_cell HG1.out.2.2.2) (by simp)]; exact HG1.out.2.2.2
  have HRO := Lib.hid (rtext_any exO (K + 1) W2 ⟨⟨#[97]⟩, some ⟨K, 0, none⟩, 1, 1, some ⟨G, 0, none⟩, 1, 1, none, 0, 0⟩ ⟨rfl, rfl, rfl, rfl, HG2.out.2.2.2.1, HG2.out.1.up (by have := HG2.out.2.2.2.2; omega) HG2.out.2.2.2.1.lim, ⟨HG2.out.2.2.2.1.lim, Nat.le_refl _, (by decide : (0 : Nat) < 9223372036854775808), fun i => by simp [exO], Or.inl rfl⟩, (by decide : (1 : Nat) < 9223372036854775808)⟩)
  rw [ex_own] at HRO
  clear hgW
  go_wp2_with fail
  rw [← hW2]
  rw [show (w1.heap.size + 1 : Nat) = K from hK.symm]
  clear t2 hW2 hK
  refine HRO.out.mono ?_
  rintro e w3 ⟨a3, c3, rfl, hg, _⟩
  have HG3 : Hid (W0.grownBy w3 none ∧ Blk w3 N 25 [.string ⟨#[97]⟩, iV 1, iV 1, .slice none 0 0, .bool false, .slice (some ⟨G, 0, none⟩) 1 1, .slice none 0 0]) := ⟨gb_trans HG2.out.2.1 hg, HG2.out.2.2.1.grown hg (by simp)⟩
  clear hg m0 m1 m2 m3 m4 m5 m6
  have m0 := HG3.out.2.cell (i := 0) rfl
  have m1 := HG3.out.2.cell (i := 1) rfl
  have m2 := HG3.out.2.cell (i := 2) rfl
  have m3 := HG3.out.2.cell (i := 3) rfl
  have m4 := HG3.out.2.cell (i := 4) rfl
  have m5 := HG3.out.2.cell (i := 5) rfl
  have m6 := HG3.out.2.cell (i := 6) rfl
  go_wp2_with fail
  refine (HRR.out _ HG3.out.1).mono ?_
  rintro e w4 ⟨rfl, hg⟩
  have HG4 := Lib.hid (gb_trans HG.out.2.2 (gb_trans HG3.out.1 hg))
  clear hg m0 m1 m2 m3 m4 m5 m6
  go_wp2
  go_ret
  exact ⟨rfl, HG4.out⟩
def greatB (r : R) : Bool := decide (300 < r.key.length) || decide (50 < r.cx.length) || decide (2000 < r.val.length) || decide (300 < r.sig.length)
set_option maxHeartbeats 2000000 in
theorem great_any (b : Bool) (r : R) (B : Nat) (w : World) (q : L) (h : RAt w B q r) (hb : greatB r = b) : Calls Try.prog 6 #[q.v r] w fun e w' => e = .returned (.bool b) ∧ w.grownBy w' none := by
  unfold greatB at hb
  rw [h.keyLen, h.l1, h.l2, h.l3] at hb
  clear h
  obtain ⟨s, a1, n1, c1, a2, n2, c2, a3, n3, c3⟩ := q
  obtain ⟨key, cl, sq, cx, g, val, sig⟩ := r
  simp only at hb
  show Calls _ _ #[vV s cl sq a1 n1 c1 g a2 n2 c2 a3 n3 c3] w _
  have e1 : decide (300 < s.size) = decide ((300 : Int) < (s.size : Int)) := by rw [Bool.eq_iff_iff]; simp; omega
  have e2 : decide (50 < n1) = decide ((50 : Int) < (n1 : Int)) := by rw [Bool.eq_iff_iff]; simp; omega
  have e3 : decide (2000 < n2) = decide ((2000 : Int) < (n2 : Int)) := by rw [Bool.eq_iff_iff]; simp; omega
  have e4 : decide (300 < n3) = decide ((300 : Int) < (n3 : Int)) := by rw [Bool.eq_iff_iff]; simp; omega
  rw [e1, e2, e3, e4] at hb
  clear e1 e2 e3 e4
  obtain ⟨y1, h1⟩ : ∃ y, decide ((300 : Int) < (s.size : Int)) = y := ⟨_, rfl⟩
  obtain ⟨y2, h2⟩ : ∃ y, decide ((50 : Int) < (n1 : Int)) = y := ⟨_, rfl⟩
  obtain ⟨y3, h3⟩ : ∃ y, decide ((2000 : Int) < (n2 : Int)) = y := ⟨_, rfl⟩
  obtain ⟨y4, h4⟩ : ∃ y, decide ((300 : Int) < (n3 : Int)) = y := ⟨_, rfl⟩
  rw [h1, h2, h3, h4] at hb
  have HB := Lib.hid hb; clear hb
  have HG : Hid (w.grownBy (w.alloc (.cells #[.string s, iV cl, iV sq, .slice a1 n1 c1, .bool g, .slice a2 n2 c2, .slice a3 n3 c3] 25)) none) := gb_alloc (gb_refl _ _) _
  go_enter Try.func6, Try.ntmps6
  cases y1 with
  | true => go_wp2; go_ret; exact ⟨by rw [← HB.out]; rfl, HG.out⟩
  | false =>
    cases y2 with
    | true => go_wp2; go_ret; exact ⟨by rw [← HB.out]; rfl, HG.out⟩
    | false =>
      cases y3 with
      | true => go_wp2; go_ret; exact ⟨by rw [← HB.out]; rfl, HG.out⟩
      | false =>
        cases y4 with
        | true => go_wp2; go_ret; exact ⟨by rw [← HB.out]; rfl, HG.out⟩
        | false => go_wp2; go_ret; exact ⟨by rw [← HB.out]; rfl, HG.out⟩
end Rc
end Go.Proofs.Ytohcoihdijemfaa
