/- texts merged, part 1: XRcGets -/
import Derived.Test.YtohcoihdijemfaaGtB3
import Derived.Laws.BitsAllLaws
/- The law RecordGets (P8.2): what any bytes say is the document's. (Printed by gen_rcgets.py.) -/
namespace Go.Proofs.Ytohcoihdijemfaa
open Go.RowKit Ow Wi Ve
namespace Rc
theorem u8_xor (a b : Nat) (ha : a < 256) (hb : b < 256) : ∃ c : Nat, c < 256 ∧ bits .xor .u8 (a : Int) (b : Int) = (c : Int) :=
  ⟨a ^^^ b, Nat.xor_lt_two_pow (n := 8) ha hb, u8_xor_nat a b ha hb⟩
def zR : R := ⟨[], 0, 0, [], false, [], []⟩
def getR (b : Bool) (r : R) : R := if b then r else zR
def zL : L := ⟨⟨#[]⟩, none, 0, 0, none, 0, 0, none, 0, 0⟩
theorem zero_at (w : World) : RAt w w.heap.size zL zR := ⟨rfl, rfl, rfl, rfl, ⟨Nat.le_refl _, Or.inl rfl⟩, nil_at (Nat.le_refl _), nil_at (Nat.le_refl _), by decide⟩
theorem gout_any {w w' : World} {b : Bool} {r : R} {e : Ending} (h : GOut w b r e w') : ∃ q : L, e = .returned (.tuple #[q.v (getR b r), .int .i64 (errN b 4)]) ∧ w.grownBy w' none ∧ RAt w' w'.heap.size q (getR b r) ∧ q.New w.heap.size := by
  obtain ⟨hg, h⟩ := h
  cases b with
  | true =>
    obtain ⟨q, he, hr, hn⟩ := h
    exact ⟨q, he, hg, hr, hn⟩
  | false =>
    have hz : zL.New w.heap.size := by refine ⟨?_, ?_, ?_⟩ <;> (intro g o e; exact absurd e (by simp [zL]))
    exact ⟨zL, h, hg, zero_at w', hz⟩
theorem put_small {w : World} {B : Nat} {q : L} {r : R} (h : RAt w B q r) : (putO r).length ≤ 3000 ∧ (rightB r = true → 0 < (putO r).length) ∧ ∀ i, (putO r).getD i 0 < 256 := by
  unfold putO
  cases hr : rightB r with
  | false => simp
  | true =>
    simp only [rightB, Bool.and_eq_true, decide_eq_true_eq] at hr
    have ht := text_small h hr.1
    have e : (putL r).length = (textL r).length + 64 := by unfold putL; rw [List.length_append, hr.2]
    refine ⟨by simp only [if_true]; omega, fun _ => by simp only [if_true]; omega, ?_⟩
    simp only [if_true]
    exact app_byte ht.2 h.sig.byte
theorem two_rows (w : World) (G B n0 c0 nC cC : Nat) (a0 aC : Option Addr) (l0 l1 : List Nat) (hG : Blk w G 22 [.slice a0 n0 c0]) (hl0 : l0.length = n0) (h0 : BytesAt w B a0 c0 l0) (hl1 : l1.length = nC) (h1 : BytesAt w w.heap.size aC cC l1) :
    ∃ ga ca w', (Builtin.append_ #[28, 28] 28 #[.slice (some ⟨G, 0, none⟩) 1 1, .slice (some ⟨w.heap.size, 0, none⟩) 1 1]).run Try.prog (w.alloc (.cells #[.slice aC nC cC] 22)) = .ok (.slice (some ⟨ga, 0, none⟩) 2 ca) w' ∧ w.grownBy w' none ∧ RowsAt w' w'.heap.size (some ⟨ga, 0, none⟩) [l0, l1] := by
  have hop : w.ownsRow G 22 1 (.slice (some ⟨G, 0, none⟩) 1 1) 1 [.slice a0 n0 c0] := ⟨rfl, Or.inr ⟨G, 1, _, rfl, Nat.le_refl _, hG, Nat.le_refl _, by unfold maxLen; omega, rfl, rfl⟩⟩
  have g0 := gb_alloc (gb_refl w none) (.cells #[.slice aC nC cC] 22)
  have hbx : Blk (w.alloc (.cells #[.slice aC nC cC] 22)) w.heap.size 22 [.slice aC nC cC] := Blk.new w [.slice aC nC cC] 22
  have hnews : ∀ j u, ([.slice aC nC cC] : List Value)[j]? = some u → (w.alloc (.cells #[.slice aC nC cC] 22)).cell? ((⟨w.heap.size, 0, none⟩ : Addr).add j) = some u := fun j u hu => by
    have hadd : (⟨w.heap.size, 0, none⟩ : Addr).add j = ⟨w.heap.size, j, none⟩ := by unfold Addr.add; split <;> simp_all
    rw [hadd]; exact hbx.cell hu
  have hone : ∀ u ∈ ([.slice aC nC cC] : List Value), u.oneCell' = true := fun u hu => by rw [List.mem_singleton.1 hu]; rfl
  generalize w.alloc (.cells #[.slice aC nC cC] 22) = wb at *
  rcases append_cases elt_bytes wb G G 1 1 _ (hop.stay g0) ⟨w.heap.size, 0, none⟩ 1 1 [.slice aC nC cC] rfl hnews hone (by omega) (by omega) with ⟨hle, _⟩ | ⟨_, c', w', hr, hno, hgr⟩
  · omega
  · refine ⟨_, _, w', hr, gb_trans g0 hgr, Nat.le_refl _, Or.inr ⟨_, 0, rfl, (own_lt hno).1, fun i hi => ?_⟩⟩
    rw [Nat.zero_add]
    rcases i with _ | i
    · exact ⟨a0, c0, by rw [show ([l0, l1].getD 0 []).length = n0 from hl0]; exact own_cell hno rfl, ((h0.stay g0).stay hgr).full⟩
    · rcases i with _ | i
      · exact ⟨aC, cC, by rw [show ([l0, l1].getD 1 []).length = nC from hl1]; exact own_cell hno rfl, ((h1.stay g0).stay hgr).full⟩
      · simp only [List.length_cons, List.length_nil] at hi; omega
set_option maxHeartbeats 8000000 in
set_option maxRecDepth 100000 in
theorem gets_any (l0 lm : List Nat) (n0 c0 nm cm B0 Br Bm : Nat) (a0 am : Option Addr) (r : R) (q : L) (t : Int) (y : Nat) (w : World) (hl0 : l0.length = n0) (h0 : BytesAt w B0 a0 c0 l0) (hr : RAt w Br q r) (hlm : lm.length = nm) (hm : BytesAt w Bm am cm lm) (ht : -9223372036854775808 ≤ t ∧ t ≤ 9223372036854775807) (hy : y < 256) :
    Calls Try.prog 3 #[.slice a0 n0 c0, q.v r, .int .i64 t, .int .u8 (y : Int), .slice am nm cm] w fun e w' => e = .returned (.bool true) ∧ w.grownBy w' none := by
  have HGR := Lib.hid (fun w' (hg : w.grownBy w' none) => great_any (greatB r) r Br w' q (hr.stay hg) rfl)
  have HPU := Lib.hid (fun w' (hg : w.grownBy w' none) => refPut_own r Br w' q (hr.stay hg))
  have HSM := Lib.hid (put_small hr)
  have HK0 := Lib.hid (And.intro hl0 h0)
  have HKM := Lib.hid (And.intro hlm hm)
  have HTY := Lib.hid (And.intro ht hy)
  obtain ⟨mk, hmk⟩ := marks_are
  have HMK := Lib.hid hmk
  clear hl0 h0 hr hlm hm ht hy hmk
  obtain ⟨s, a1, n1, c1, a2, n2, c2, a3, n3, c3⟩ := q
  have HV : Hid ((L.mk s a1 n1 c1 a2 n2 c2 a3 n3 c3).v r = .agg #[.string s, iV r.cl, iV r.sq, .slice a1 n1 c1, .bool r.gone, .slice a2 n2 c2, .slice a3 n3 c3]) := rfl
  rw [HV.out] at HGR HPU ⊢
  clear HV
  generalize r.cl = cl at *
  generalize r.sq = sq at *
  generalize r.gone = g at *
  generalize greatB r = gr at *
  obtain ⟨C, hC⟩ : ∃ C, C = putO r := ⟨_, rfl⟩
  rw [← hC] at HPU HSM
  clear hC
  obtain ⟨N, hN⟩ : ∃ N, N = w.heap.size := ⟨_, rfl⟩
  obtain ⟨W0, hW0⟩ : ∃ W0, W0 = w.alloc (.cells #[.string s, iV cl, iV sq, .slice a1 n1 c1, .bool g, .slice a2 n2 c2, .slice a3 n3 c3] 25) := ⟨_, rfl⟩
  have hg0 : w.grownBy W0 none := by rw [hW0]; exact gb_alloc (gb_refl _ _) _
  have hb0 : Blk W0 N 25 [.string s, iV cl, iV sq, .slice a1 n1 c1, .bool g, .slice a2 n2 c2, .slice a3 n3 c3] := by rw [hW0, hN]; exact Blk.new _ _ _
  have HG0 := Lib.hid (And.intro hg0 hb0); clear hg0 hb0
  go_enter Try.func3, Try.ntmps3
  go_wp2_with fail
  rw [← hW0, ← hN]
  clear hW0 hN
  refine (awake8_any W0).mono ?_
  rintro e w1 ⟨rfl, hg⟩
  have HG1 := Lib.hid (And.intro (gb_trans HG0.out.1 hg) (HG0.out.2.grown hg (by simp)))
  clear hg HG0
  have m0 := HG1.out.2.cell (i := 0) rfl
  have m1 := HG1.out.2.cell (i := 1) rfl
  have m2 := HG1.out.2.cell (i := 2) rfl
  have m3 := HG1.out.2.cell (i := 3) rfl
  have m4 := HG1.out.2.cell (i := 4) rfl
  have m5 := HG1.out.2.cell (i := 5) rfl
  have m6 := HG1.out.2.cell (i := 6) rfl
  go_wp2_with fail
  refine (HGR.out w1 HG1.out.1).mono ?_
  rintro e w2 ⟨rfl, hg⟩
  have HG2 := Lib.hid (And.intro (gb_trans HG1.out.1 hg) (HG1.out.2.grown hg (by simp)))
  clear hg HG1 HGR m0 m1 m2 m3 m4 m5 m6
  cases gr with
  | true =>
    go_wp2
    go_ret
    exact ⟨rfl, HG2.out.1⟩
  | false =>
    by_cases hn0 : 3000 < n0
    · have i0 : (3000 : Int) < (n0 : Int) := by omega
      go_wp2
      go_ret
      exact ⟨rfl, HG2.out.1⟩
    · have i0 : ¬ (3000 : Int) < (n0 : Int) := by omega
      by_cases hnm : 300 < nm
      · have i1 : (300 : Int) < (nm : Int) := by omega
        go_wp2
        go_ret
        exact ⟨rfl, HG2.out.1⟩
      · have i1 : ¬ (300 : Int) < (nm : Int) := by omega
        have HN := Lib.hid (And.intro hn0 hnm); clear hn0 hnm
        obtain ⟨W3, hW3⟩ : ∃ W3, W3 = w2.alloc (.cells #[.slice a0 n0 c0] 22) := ⟨_, rfl⟩
        obtain ⟨G, hG⟩ : ∃ G, G = w2.heap.size := ⟨_, rfl⟩
        have hg3 : w2.grownBy W3 none := by rw [hW3]; exact gb_alloc (gb_refl _ _) _
        have hb3 : Blk W3 G 22 [.slice a0 n0 c0] := by rw [hW3, hG]; exact Blk.new _ _ _
        have HG3 := Lib.hid (And.intro (gb_trans HG2.out.1 hg3) (And.intro hb3 (show w.heap.size ≤ G by rw [hG]; exact HG2.out.1.size)))
        have hb4 := HG2.out.2.grown hg3 (by simp)
        have m0 := hb4.cell (i := 0) rfl
        have m1 := hb4.cell (i := 1) rfl
        have m2 := hb4.cell (i := 2) rfl
        have m3 := hb4.cell (i := 3) rfl
        have m4 := hb4.cell (i := 4) rfl
        have m5 := hb4.cell (i := 5) rfl
        have m6 := hb4.cell (i := 6) rfl
        clear hg3 hb3 hb4 HG2
        have hW3' := hW3.symm
        have hG' := hG.symm
        clear hW3 hG
        go_wp2_with (first | rw [hW3', hG'])
        refine (HPU.out W3 HG3.out.1).mono ?_
        rintro e w4 ⟨vC, rfl, hg, hoC⟩
        have hG3 := HG3.out.2.1.lt
        have HR1 : Hid (RowsAt w4 w4.heap.size (some ⟨G, 0, none⟩) [l0]) := by
          refine ⟨Nat.le_refl _, Or.inr ⟨G, 0, rfl, Nat.lt_of_lt_of_le hG3 hg.size, fun i hi => ?_⟩⟩
          obtain rfl : i = 0 := by simp only [List.length_cons, List.length_nil] at hi; omega
          refine ⟨a0, c0, ?_, ?_⟩
          · have e := (HG3.out.2.1.grown hg (by simp)).cell (i := 0) rfl
            rw [show ([l0].getD 0 []).length = n0 from HK0.out.1]; exact e
          · exact ((HK0.out.2.stay HG3.out.1).stay hg).full
        have HG4 := Lib.hid (And.intro (gb_trans HG3.out.1 hg) (And.intro (HG3.out.2.1.grown hg (by simp)) (And.intro HG3.out.2.2 (And.intro hoC (show G < W3.heap.size from hG3)))))
        clear hg hG3 HG3 HPU m0 m1 m2 m3 m4 m5 m6 hW3' hG' hoC
        cases hrb : rightB r with
        | false =>
          rw [show errN false 4 = 4 from rfl]
          have HL1 : Hid (∀ k, k < [l0].length → ([l0].getD k []).length ≤ 6000) := fun k hk => by
            obtain rfl : k = 0 := by simp only [List.length_cons, List.length_nil] at hk; omega
            show l0.length ≤ 6000
            have := HK0.out.1; have := HN.out; omega
          have HGL := Lib.hid HG4.out.1
          clear hrb HG4 HKM HTY HSM
          go_wp2_with fail
          go_loopw [14] (fun i wr => ∃ (k : Nat), k ≤ 1 ∧ i = .int .i64 k ∧ Hid (w4.grownBy wr none)) (fun i _ => 1 - (intOf i).toNat)
          case atStart => exact ⟨0, by omega, rfl, gb_refl _ _⟩
          case round =>
            obtain ⟨k, hk, rfl, HI⟩ := hrel
            by_cases hlt : k < 1
            · have i0 : (k : Int) < 1 := by omega
              obtain ⟨pb, po, ai, ci, hra, hpb, k1, hB⟩ := HR1.out.at (i := k) (by simpa using hlt)
              simp only [Option.some.injEq, Addr.mk.injEq, and_true] at hra
              obtain ⟨rfl, rfl⟩ := hra
              have hpl := HL1.out k (by simpa using hlt)
              obtain ⟨p, hp⟩ : ∃ p, p = [l0].getD k [] := ⟨_, rfl⟩
              obtain ⟨n, hn⟩ : ∃ n, n = p.length := ⟨_, rfl⟩
              rw [← hp] at hB hpl
              rw [← hp, ← hn] at k1
              rw [← hn] at hpl
              clear hp
              have HP := Lib.hid (And.intro hn.symm (And.intro hB (And.intro hpl (And.intro k1 hpb))))
              have q1 : wr.cell? ⟨G, 0 + k, none⟩ = some (.slice ai n ci) := by rw [gb_cell HI.out (p := ⟨G, 0 + k, none⟩) hpb (by simp)]; exact k1
              rw [Nat.zero_add] at q1
              clear hn hB hpl k1 hpb hlt
              go_wp2_with fail
              refine (lentB_any HMK.out n ci _ p ai wr HP.out.1 (HP.out.2.1.stay HI.out) (by have := HP.out.2.2.1; omega)).mono ?_
              rintro e w1 ⟨gg, rfl, hg1, hgg, hbk⟩
              have hB1 : BytesAt w1 w1.heap.size (some ⟨gg, 0, none⟩) (n + 12) p := by
                have h := hbk
                rw [List.map_append] at h
                exact blk_bytes h HP.out.1 (by omega) (by have := HP.out.2.2.1; omega) HP.out.2.1.byte hbk.lt (Nat.le_refl _)
              have HLT := Lib.hid (And.intro (gb_trans HI.out hg1) (And.intro hbk (And.intro (Nat.le_trans HI.out.size hgg) (And.intro hB1 hbk.lt))))
              clear hg1 hgg hbk hB1 q1
              go_wp2_with fail
              refine (rget_any n (n + 12) _ _ p w1 HP.out.1 (by have := HP.out.2.2.1; omega) HLT.out.2.2.2.1).mono ?_
              intro e w2 hgo
              obtain ⟨qx, rfl, hg2, hrx, hnx⟩ := gout_any hgo
              clear hgo
              obtain ⟨rr, hrr⟩ : ∃ rr, rr = getR (getB p) (recR (some p)) := ⟨_, rfl⟩
              obtain ⟨ee, hee⟩ : ∃ ee, ee = errN (getB p) 4 := ⟨_, rfl⟩
              rw [← hrr] at hrx ⊢
              rw [← hee]
              have HRE := Lib.hid (And.intro hrr hee); clear hrr hee
              have HX2 := Lib.hid (And.intro (gb_trans HLT.out.1 hg2) (And.intro (HLT.out.2.1.grown hg2 (by simp)) (And.intro hrx hnx)))
              clear hg2 hrx hnx
              obtain ⟨xs, xa1, xn1, xc1, xa2, xn2, xc2, xa3, xn3, xc3⟩ := qx
              obtain ⟨kcl, hkcl⟩ : ∃ x, x = rr.cl := ⟨_, rfl⟩
              obtain ⟨ksq, hksq⟩ : ∃ x, x = rr.sq := ⟨_, rfl⟩
              obtain ⟨kg, hkg⟩ : ∃ x, x = rr.gone := ⟨_, rfl⟩
              have HQ : Hid (∀ q : L, q.v rr = .agg #[.string q.s, iV kcl, iV ksq, .slice q.a1 q.n1 q.c1, .bool kg, .slice q.a2 q.n2 q.c2, .slice q.a3 q.n3 q.c3]) := fun q => by rw [hkcl, hksq, hkg]; rfl
              rw [HQ.out]
              clear hkcl hksq hkg
              show _
              simp only
              have HBw3 : Hid (Blk (w2.alloc (.cells #[.string xs, iV kcl, iV ksq, .slice xa1 xn1 xc1, .bool kg, .slice xa2 xn2 xc2, .slice xa3 xn3 xc3] 25)) w2.heap.size 25 [.string xs, iV kcl, iV ksq, .slice xa1 xn1 xc1, .bool kg, .slice xa2 xn2 xc2, .slice xa3 xn3 xc3] ∧ w2.grownBy (w2.alloc (.cells #[.string xs, iV kcl, iV ksq, .slice xa1 xn1 xc1, .bool kg, .slice xa2 xn2 xc2, .slice xa3 xn3 xc3] 25)) none) := ⟨Blk.new _ _ _, gb_alloc (gb_refl _ _) _⟩

              have HQ0 : Hid (∀ w' : World, w4.grownBy w' none → w'.cell? ⟨G, k, none⟩ = some (.slice ai n ci)) := fun w' hg => by
                have h := gb_cell hg (p := ⟨G, 0 + k, none⟩) HP.out.2.2.2.2 (by simp)
                rw [HP.out.2.2.2.1, Nat.zero_add] at h; exact h
              have q2 := HQ0.out _ (gb_trans HX2.out.1 HBw3.out.2)
              go_wp2_with fail
              obtain ⟨M1, hM1⟩ : ∃ M, M = w2.heap.size := ⟨_, rfl⟩
              obtain ⟨w3, hw3⟩ : ∃ W, W = (w2.alloc (.cells #[.string xs, iV kcl, iV ksq, .slice xa1 xn1 xc1, .bool kg, .slice xa2 xn2 xc2, .slice xa3 xn3 xc3] 25)) := ⟨_, rfl⟩
              rw [← hw3, ← hM1] at HBw3
              rw [← hw3, ← hM1]
              have HMM1 := Lib.hid hM1
              clear hw3 hM1

              clear q2
              refine (refGet_any n ci _ ai p w3 HP.out.1 (by have := HP.out.2.2.1; omega) (HP.out.2.1.stay (gb_trans HX2.out.1 HBw3.out.2))).mono ?_
              intro e w4' hgo
              obtain ⟨qy, rfl, hg4, hry, hny⟩ := gout_any hgo
              clear hgo
              rw [← HRE.out.1] at hry ⊢
              rw [← HRE.out.2]
              rw [HQ.out]
              obtain ⟨ys, ya1, yn1, yc1, ya2, yn2, yc2, ya3, yn3, yc3⟩ := qy
              have HY4 := Lib.hid (And.intro (gb_trans HBw3.out.2 hg4) (And.intro (HBw3.out.1.grown hg4 (by simp)) (And.intro hry (And.intro hny hg4))))
              clear hg4 hry hny
              simp only
              have HBw5 : Hid (Blk (w4'.alloc (.cells #[.string ys, iV kcl, iV ksq, .slice ya1 yn1 yc1, .bool kg, .slice ya2 yn2 yc2, .slice ya3 yn3 yc3] 25)) w4'.heap.size 25 [.string ys, iV kcl, iV ksq, .slice ya1 yn1 yc1, .bool kg, .slice ya2 yn2 yc2, .slice ya3 yn3 yc3] ∧ w4'.grownBy (w4'.alloc (.cells #[.string ys, iV kcl, iV ksq, .slice ya1 yn1 yc1, .bool kg, .slice ya2 yn2 yc2, .slice ya3 yn3 yc3] 25)) none) := ⟨Blk.new _ _ _, gb_alloc (gb_refl _ _) _⟩

              have za0 := (HY4.out.2.1.grown HBw5.out.2 (by simp)).cell (i := 0) rfl
              have zb0 := HBw5.out.1.cell (i := 0) rfl
              have za1 := (HY4.out.2.1.grown HBw5.out.2 (by simp)).cell (i := 1) rfl
              have zb1 := HBw5.out.1.cell (i := 1) rfl
              have za2 := (HY4.out.2.1.grown HBw5.out.2 (by simp)).cell (i := 2) rfl
              have zb2 := HBw5.out.1.cell (i := 2) rfl
              have za3 := (HY4.out.2.1.grown HBw5.out.2 (by simp)).cell (i := 3) rfl
              have zb3 := HBw5.out.1.cell (i := 3) rfl
              have za4 := (HY4.out.2.1.grown HBw5.out.2 (by simp)).cell (i := 4) rfl
              have zb4 := HBw5.out.1.cell (i := 4) rfl
              have za5 := (HY4.out.2.1.grown HBw5.out.2 (by simp)).cell (i := 5) rfl
              have zb5 := HBw5.out.1.cell (i := 5) rfl
              have za6 := (HY4.out.2.1.grown HBw5.out.2 (by simp)).cell (i := 6) rfl
              have zb6 := HBw5.out.1.cell (i := 6) rfl
              have HS : Hid (∀ w', RAt w' w2.heap.size (L.mk xs xa1 xn1 xc1 xa2 xn2 xc2 xa3 xn3 xc3) rr → RAt w' w4'.heap.size (L.mk ys ya1 yn1 yc1 ya2 yn2 yc2 ya3 yn3 yc3) rr → Calls Try.prog 12 #[.agg #[.string xs, iV kcl, iV ksq, .slice xa1 xn1 xc1, .bool kg, .slice xa2 xn2 xc2, .slice xa3 xn3 xc3], .agg #[.string ys, iV kcl, iV ksq, .slice ya1 yn1 yc1, .bool kg, .slice ya2 yn2 yc2, .slice ya3 yn3 yc3]] w' fun e w'' => e = .returned (.bool true) ∧ w'.grownBy w'' none) := fun w' hx hy => by
                have h := sameRec_any rr rr _ _ w' _ _ hx hy
                rw [(sameB_iff rr rr).2 rfl, HQ.out, HQ.out] at h
                exact h
              go_wp2_with fail
              obtain ⟨M2, hM2⟩ : ∃ M, M = w4'.heap.size := ⟨_, rfl⟩
              obtain ⟨w5, hw5⟩ : ∃ W, W = (w4'.alloc (.cells #[.string ys, iV kcl, iV ksq, .slice ya1 yn1 yc1, .bool kg, .slice ya2 yn2 yc2, .slice ya3 yn3 yc3] 25)) := ⟨_, rfl⟩
              rw [← hw5, ← hM2] at HBw5
              rw [← hw5, ← hM2]
              have HMM2 := Lib.hid hM2
              clear hw5 hM2

              clear za0 zb0 za1 zb1 za2 zb2 za3 zb3 za4 zb4 za5 zb5 za6 zb6
              have hg25 := gb_trans HY4.out.1 HBw5.out.2
              refine (HS.out w5 (HX2.out.2.2.1.stay hg25) (HY4.out.2.2.1.stay HBw5.out.2)).mono ?_
              rintro e w6 ⟨rfl, hg6⟩
              have hg26 := gb_trans hg25 hg6
              have H6 := Lib.hid (And.intro (gb_trans HX2.out.1 hg26) (And.intro hg26 (And.intro ((HY4.out.2.1.grown HBw5.out.2 (by simp)).grown hg6 (by simp)) (And.intro (HBw5.out.1.grown hg6 (by simp)) (And.intro (HX2.out.2.1.grown hg26 (by simp)) (gb_trans HBw5.out.2 hg6))))))
              have q6 := HQ0.out _ H6.out.1
              clear hg25 hg6 hg26
              go_wp2_with fail
              refine (keptB_any HMK.out n ci _ gg p ai w6 HP.out.1 (HP.out.2.1.stay H6.out.1) (by have := HP.out.2.2.1; omega) H6.out.2.2.2.2.1).mono ?_
              rintro e w7 ⟨rfl, hg7⟩
              have H7 := Lib.hid (And.intro (gb_trans H6.out.1 hg7) (And.intro (gb_trans H6.out.2.1 hg7) (And.intro (H6.out.2.2.1.grown hg7 (by simp)) (And.intro (H6.out.2.2.2.1.grown hg7 (by simp)) (And.intro (H6.out.2.2.2.2.1.grown hg7 (by simp)) (gb_trans H6.out.2.2.2.2.2 hg7))))))
              clear hg7 q6 H6
              go_wp2_with fail
              refine (overB_any n gg _ w7 (by rw [List.length_map, List.length_append, marksOf_length, HP.out.1]) (by have := HP.out.2.2.1; omega) H7.out.2.2.2.2.1).mono ?_
              rintro e w8 ⟨rfl, hg8⟩
              have hgw2 : gg < w2.heap.size := HX2.out.2.1.lt
              have hg1 : gg < w1.heap.size := HLT.out.2.2.2.2
              have hgM1 : gg ≠ M1 := by have := HMM1.out; omega
              have hw3 : w2.heap.size ≤ w3.heap.size := HBw3.out.2.size
              have hw4 : w3.heap.size ≤ w4'.heap.size := HY4.out.2.2.2.2.size
              have hgM2 : gg ≠ M2 := by have := HMM2.out; omega
              have H8 := Lib.hid (And.intro (gb_then H7.out.1 hg8 HLT.out.2.2.1) (And.intro ((HX2.out.2.2.1.stay H7.out.2.1).apart hg8 HX2.out.2.2.2 hg1) ((HY4.out.2.2.1.stay H7.out.2.2.2.2.2).apart hg8 HY4.out.2.2.2.1 (by omega))))
              have hb1 := H7.out.2.2.1.grown hg8 (by simp; omega)
              have hb2 := H7.out.2.2.2.1.grown hg8 (by simp; omega)
              have za0 := hb1.cell (i := 0) rfl
              have zb0 := hb2.cell (i := 0) rfl
              have za1 := hb1.cell (i := 1) rfl
              have zb1 := hb2.cell (i := 1) rfl
              have za2 := hb1.cell (i := 2) rfl
              have zb2 := hb2.cell (i := 2) rfl
              have za3 := hb1.cell (i := 3) rfl
              have zb3 := hb2.cell (i := 3) rfl
              have za4 := hb1.cell (i := 4) rfl
              have zb4 := hb2.cell (i := 4) rfl
              have za5 := hb1.cell (i := 5) rfl
              have zb5 := hb2.cell (i := 5) rfl
              have za6 := hb1.cell (i := 6) rfl
              have zb6 := hb2.cell (i := 6) rfl
              clear hg8 hgw2 hg1 hgM1 hgM2 hw3 hw4 hb1 hb2 H7
              go_wp2_with fail
              refine (HS.out w8 H8.out.2.1 H8.out.2.2).mono ?_
              rintro e w9' ⟨rfl, hg9⟩
              have HZ := Lib.hid (gb_trans H8.out.1 hg9)
              clear za0 zb0 za1 zb1 za2 zb2 za3 zb3 za4 zb4 za5 zb5 za6 zb6 hg9 H8 HS
              go_wp2
              go_roundw
              case rel => exact ⟨k + 1, by omega, by go_num, HZ.out⟩
              case measure => simp [intOf]; omega
            · obtain rfl : k = 1 := by omega
              have HE := Lib.hid (gb_trans HGL.out HI.out)
              go_wp2
              go_ret
              exact ⟨rfl, HE.out⟩
        | true =>
          rw [show errN true 4 = 0 from rfl]
          have hC0 := HSM.out.2.1 hrb
          have hC1 := HSM.out.1
          have hC2 := HSM.out.2.2
          clear hrb
          obtain ⟨gc, cc, rfl, hbC, hcc, hcm, hltC⟩ := own_some HG4.out.2.2.2.1 hC0
          obtain ⟨cn, hcn⟩ : ∃ cn, cn = C.length := ⟨_, rfl⟩
          have HPK := Lib.hid (pick_is t (cn : Int) w4 (by omega) (by omega) HTY.out.1.1 HTY.out.1.2)
          obtain ⟨j, hj, hjc⟩ : ∃ j : Nat, t % (cn : Int) = (j : Int) ∧ j < cn := by
            have h1 := Int.emod_nonneg t (b := (cn : Int)) (by omega)
            have h2 := Int.emod_lt_of_pos t (b := (cn : Int)) (by omega)
            exact ⟨(t % (cn : Int)).toNat, by omega, by omega⟩
          rw [hj] at HPK
          obtain ⟨xv, hxv⟩ : ∃ xv, xv = C.getD j 0 := ⟨_, rfl⟩
          have hxl : xv < 256 := by rw [hxv]; exact hC2 j
          obtain ⟨z, hz, hzo⟩ := u8_xor xv y hxl HTY.out.2
          have hoC := HG4.out.2.2.2.1
          have k1 : w4.cell? ⟨gc, j, none⟩ = some (.int .u8 (xv : Int)) := by
            have h := own_cell hoC (j := j) (u := .int .u8 (xv : Int)) (by
              rw [List.getElem?_map, List.getElem?_eq_getElem (by omega), hxv, List.getD_eq_getElem?_getD, List.getElem?_eq_getElem (by omega)]; rfl)
            exact h
          have f1 := own_free hoC j
          rw [← hcn] at HG4 hoC ⊢
          have hj0 : (j : Int) < (cn : Int) := by omega
          have HC := Lib.hid (And.intro hoC (And.intro hcn (And.intro hC1 (And.intro hC2 (And.intro hz (And.intro hltC (And.intro hjc hbC)))))))
          clear hoC hcn hC0 hC1 hC2 hz hcc hcm hltC hbC hxv hxl hj HSM
          go_wp2_with fail
          refine HPK.out.mono ?_
          rintro e w5 ⟨rfl, rfl⟩
          clear HPK
          obtain ⟨W6, hW6⟩ : ∃ W6, W6 = w5.setCell ⟨gc, j, none⟩ (.int .u8 (z : Int)) := ⟨_, rfl⟩
          have hg6 : w5.grownBy W6 (some gc) := by rw [hW6]; exact gb_set (gb_refl w5 (some gc)) j _
          have hG3 := HG4.out.2.2.2.2
          have hwG := HG4.out.2.2.1
          have hgcG : G < gc := by have := HC.out.2.2.2.2.2.2.2; omega
          have hgw6 : w.grownBy W6 none := gb_then HG4.out.1 hg6 (by omega)
          have hbG := HG4.out.2.1.grown hg6 (by simp; omega)
          have hlen : (C.set j z).length = cn := by rw [List.length_set]; exact HC.out.2.1.symm
          have hoZ : W6.ownsRow W3.heap.size 5 1 (.slice (some ⟨gc, 0, none⟩) cn cc) cn ((C.set j z).map u8N) := by
            have h := own_set (i := j) HC.out.1 (.int .u8 (z : Int))
            rw [hW6, List.map_set]; exact h
          have hzb : ∀ i, (C.set j z).getD i 0 < 256 := fun i => by
            rw [List.getD_eq_getElem?_getD, List.getElem?_set]
            split
            · split
              · exact HC.out.2.2.2.2.1
              · simp
            · rw [← List.getD_eq_getElem?_getD]; exact HC.out.2.2.2.1 i
          have hB36 : W3.heap.size ≤ W6.heap.size := by
            have h1 := own_lt HC.out.1
            have h2 := hg6.size
            omega
          obtain ⟨v7, w7, hap7, ho7, hg7⟩ := append_bytes W6 W3.heap.size cn Bm cm nm _ _ am lm hoZ HKM.out.1 (HKM.out.2.stay hgw6) (by have := HC.out.2.2.1; have := HC.out.2.1; have := HN.out; omega) hB36
          rw [← List.map_append] at ho7
          have hpb : ∀ i, (C.set j z ++ lm).getD i 0 < 256 := app_byte hzb HKM.out.2.byte
          have hpl : (C.set j z ++ lm).length = cn + nm := by rw [List.length_append, hlen, HKM.out.1]
          have hpl2 : cn + nm ≤ 6000 := by have := HC.out.2.2.1; have := HC.out.2.1; have := HN.out; omega
          obtain ⟨aC, cC, rfl, _, hB7, _⟩ := own_slice ho7 hpb
          have hg7 : W6.grownBy w7 (some gc) := hg7
          have hgw7 : w.grownBy w7 none := gb_then hgw6 hg7 (by omega)
          have hbG7 := hbG.grown hg7 (by simp; omega)
          obtain ⟨ga, ca, w9, hap9, hg9, hR9⟩ := two_rows w7 G B0 n0 c0 (cn + nm) cC a0 aC l0 _ hbG7 HK0.out.1 (HK0.out.2.stay hgw7) hpl hB7
          obtain ⟨p2, hp2⟩ : ∃ p2, p2 = C.set j z ++ lm := ⟨_, rfl⟩
          rw [← hp2] at hR9 hpl
          have HR1 := Lib.hid hR9
          have HL1 : Hid (∀ k, k < [l0, p2].length → ([l0, p2].getD k []).length ≤ 6000) := fun k hk => by
            rcases k with _ | k
            · show l0.length ≤ 6000
              have := HK0.out.1; have := HN.out; omega
            · rcases k with _ | k
              · show p2.length ≤ 6000
                omega
              · simp only [List.length_cons, List.length_nil] at hk; omega
          have HGL := Lib.hid (gb_trans hgw7 hg9)
          have HA7 := Lib.hid hap7
          have HA9 := Lib.hid hap9
          obtain ⟨n7, hn7⟩ : ∃ n7, n7 = cn + nm := ⟨_, rfl⟩
          rw [← hn7] at HA7 HA9
          have hW6' := hW6.symm
          clear hp2 hpl hpl2 hR9 hap9 hap7 hg9 hbG7 hgw7 hB7 hpb ho7 hg7 hzb hoZ hlen hbG hgw6 hgcG hwG hG3 hg6 hB36 hn7 hW6 HC HG4 HKM HTY
          go_wp2_with (first | rw [hzo] | rw [hW6'] | (at_builtin; refine Lib.wpList_append_run _ rfl _ _ _ _ rfl _ _ rfl rfl _ _ HA7.out ?_) | (at_builtin; refine Lib.wpList_append_run _ rfl _ _ _ _ rfl _ _ rfl rfl _ _ HA9.out ?_))
          go_wp2_with fail
          go_loopw [14] (fun i wr => ∃ (k : Nat), k ≤ 2 ∧ i = .int .i64 k ∧ Hid (w9.grownBy wr none)) (fun i _ => 2 - (intOf i).toNat)
          case atStart => exact ⟨0, by omega, rfl, gb_refl _ _⟩
          case round =>
            obtain ⟨k, hk, rfl, HI⟩ := hrel
            by_cases hlt : k < 2
            · have i0 : (k : Int) < 2 := by omega
              obtain ⟨pb, po, ai, ci, hra, hpb, k1, hB⟩ := HR1.out.at (i := k) (by simpa using hlt)
              simp only [Option.some.injEq, Addr.mk.injEq, and_true] at hra
              obtain ⟨rfl, rfl⟩ := hra
              have hpl := HL1.out k (by simpa using hlt)
              obtain ⟨p, hp⟩ : ∃ p, p = [l0, p2].getD k [] := ⟨_, rfl⟩
              obtain ⟨n, hn⟩ : ∃ n, n = p.length := ⟨_, rfl⟩
              rw [← hp] at hB hpl
              rw [← hp, ← hn] at k1
              rw [← hn] at hpl
              clear hp
              have HP := Lib.hid (And.intro hn.symm (And.intro hB (And.intro hpl (And.intro k1 hpb))))
              have q1 : wr.cell? ⟨ga, 0 + k, none⟩ = some (.slice ai n ci) := by rw [gb_cell HI.out (p := ⟨ga, 0 + k, none⟩) hpb (by simp)]; exact k1
              rw [Nat.zero_add] at q1
              clear hn hB hpl k1 hpb hlt
              go_wp2_with fail
              refine (lentB_any HMK.out n ci _ p ai wr HP.out.1 (HP.out.2.1.stay HI.out) (by have := HP.out.2.2.1; omega)).mono ?_
              rintro e w1 ⟨gg, rfl, hg1, hgg, hbk⟩
              have hB1 : BytesAt w1 w1.heap.size (some ⟨gg, 0, none⟩) (n + 12) p := by
                have h := hbk
                rw [List.map_append] at h
                exact blk_bytes h HP.out.1 (by omega) (by have := HP.out.2.2.1; omega) HP.out.2.1.byte hbk.lt (Nat.le_refl _)
              have HLT := Lib.hid (And.intro (gb_trans HI.out hg1) (And.intro hbk (And.intro (Nat.le_trans HI.out.size hgg) (And.intro hB1 hbk.lt))))
              clear hg1 hgg hbk hB1 q1
              go_wp2_with fail
              refine (rget_any n (n + 12) _ _ p w1 HP.out.1 (by have := HP.out.2.2.1; omega) HLT.out.2.2.2.1).mono ?_
              intro e w2 hgo
              obtain ⟨qx, rfl, hg2, hrx, hnx⟩ := gout_any hgo
              clear hgo
              obtain ⟨rr, hrr⟩ : ∃ rr, rr = getR (getB p) (recR (some p)) := ⟨_, rfl⟩
              obtain ⟨ee, hee⟩ : ∃ ee, ee = errN (getB p) 4 := ⟨_, rfl⟩
              rw [← hrr] at hrx ⊢
              rw [← hee]
              have HRE := Lib.hid (And.intro hrr hee); clear hrr hee
              have HX2 := Lib.hid (And.intro (gb_trans HLT.out.1 hg2) (And.intro (HLT.out.2.1.grown hg2 (by simp)) (And.intro hrx hnx)))
              clear hg2 hrx hnx
              obtain ⟨xs, xa1, xn1, xc1, xa2, xn2, xc2, xa3, xn3, xc3⟩ := qx
              obtain ⟨kcl, hkcl⟩ : ∃ x, x = rr.cl := ⟨_, rfl⟩
              obtain ⟨ksq, hksq⟩ : ∃ x, x = rr.sq := ⟨_, rfl⟩
              obtain ⟨kg, hkg⟩ : ∃ x, x = rr.gone := ⟨_, rfl⟩
              have HQ : Hid (∀ q : L, q.v rr = .agg #[.string q.s, iV kcl, iV ksq, .slice q.a1 q.n1 q.c1, .bool kg, .slice q.a2 q.n2 q.c2, .slice q.a3 q.n3 q.c3]) := fun q => by rw [hkcl, hksq, hkg]; rfl
              rw [HQ.out]
              clear hkcl hksq hkg
              show _
              simp only
              have HBw3 : Hid (Blk (w2.alloc (.cells #[.string xs, iV kcl, iV ksq, .slice xa1 xn1 xc1, .bool kg, .slice xa2 xn2 xc2, .slice xa3 xn3 xc3] 25)) w2.heap.size 25 [.string xs, iV kcl, iV ksq, .slice xa1 xn1 xc1, .bool kg, .slice xa2 xn2 xc2, .slice xa3 xn3 xc3] ∧ w2.grownBy (w2.alloc (.cells #[.string xs, iV kcl, iV ksq, .slice xa1 xn1 xc1, .bool kg, .slice xa2 xn2 xc2, .slice xa3 xn3 xc3] 25)) none) := ⟨Blk.new _ _ _, gb_alloc (gb_refl _ _) _⟩

              have HQ0 : Hid (∀ w' : World, w9.grownBy w' none → w'.cell? ⟨ga, k, none⟩ = some (.slice ai n ci)) := fun w' hg => by
                have h := gb_cell hg (p := ⟨ga, 0 + k, none⟩) HP.out.2.2.2.2 (by simp)
                rw [HP.out.2.2.2.1, Nat.zero_add] at h; exact h
              have q2 := HQ0.out _ (gb_trans HX2.out.1 HBw3.out.2)
              go_wp2_with fail
              obtain ⟨M1, hM1⟩ : ∃ M, M = w2.heap.size := ⟨_, rfl⟩
              obtain ⟨w3, hw3⟩ : ∃ W, W = (w2.alloc (.cells #[.string xs, iV kcl, iV ksq, .slice xa1 xn1 xc1, .bool kg, .slice xa2 xn2 xc2, .slice xa3 xn3 xc3] 25)) := ⟨_, rfl⟩
              rw [← hw3, ← hM1] at HBw3
              rw [← hw3, ← hM1]
              have HMM1 := Lib.hid hM1
              clear hw3 hM1

              clear q2
              refine (refGet_any n ci _ ai p w3 HP.out.1 (by have := HP.out.2.2.1; omega) (HP.out.2.1.stay (gb_trans HX2.out.1 HBw3.out.2))).mono ?_
              intro e w4' hgo
              obtain ⟨qy, rfl, hg4, hry, hny⟩ := gout_any hgo
              clear hgo
              rw [← HRE.out.1] at hry ⊢
              rw [← HRE.out.2]
              rw [HQ.out]
              obtain ⟨ys, ya1, yn1, yc1, ya2, yn2, yc2, ya3, yn3, yc3⟩ := qy
              have HY4 := Lib.hid (And.intro (gb_trans HBw3.out.2 hg4) (And.intro (HBw3.out.1.grown hg4 (by simp)) (And.intro hry (And.intro hny hg4))))
              clear hg4 hry hny
              simp only
              have HBw5 : Hid (Blk (w4'.alloc (.cells #[.string ys, iV kcl, iV ksq, .slice ya1 yn1 yc1, .bool kg, .slice ya2 yn2 yc2, .slice ya3 yn3 yc3] 25)) w4'.heap.size 25 [.string ys, iV kcl, iV ksq, .slice ya1 yn1 yc1, .bool kg, .slice ya2 yn2 yc2, .slice ya3 yn3 yc3] ∧ w4'.grownBy (w4'.alloc (.cells #[.string ys, iV kcl, iV ksq, .slice ya1 yn1 yc1, .bool kg, .slice ya2 yn2 yc2, .slice ya3 yn3 yc3] 25)) none) := ⟨Blk.new _ _ _, gb_alloc (gb_refl _ _) _⟩

              have za0 := (HY4.out.2.1.grown HBw5.out.2 (by simp)).cell (i := 0) rfl
              have zb0 := HBw5.out.1.cell (i := 0) rfl
              have za1 := (HY4.out.2.1.grown HBw5.out.2 (by simp)).cell (i := 1) rfl
              have zb1 := HBw5.out.1.cell (i := 1) rfl
              have za2 := (HY4.out.2.1.grown HBw5.out.2 (by simp)).cell (i := 2) rfl
              have zb2 := HBw5.out.1.cell (i := 2) rfl
              have za3 := (HY4.out.2.1.grown HBw5.out.2 (by simp)).cell (i := 3) rfl
              have zb3 := HBw5.out.1.cell (i := 3) rfl
              have za4 := (HY4.out.2.1.grown HBw5.out.2 (by simp)).cell (i := 4) rfl
              have zb4 := HBw5.out.1.cell (i := 4) rfl
              have za5 := (HY4.out.2.1.grown HBw5.out.2 (by simp)).cell (i := 5) rfl
              have zb5 := HBw5.out.1.cell (i := 5) rfl
              have za6 := (HY4.out.2.1.grown HBw5.out.2 (by simp)).cell (i := 6) rfl
              have zb6 := HBw5.out.1.cell (i := 6) rfl
              have HS : Hid (∀ w', RAt w' w2.heap.size (L.mk xs xa1 xn1 xc1 xa2 xn2 xc2 xa3 xn3 xc3) rr → RAt w' w4'.heap.size (L.mk ys ya1 yn1 yc1 ya2 yn2 yc2 ya3 yn3 yc3) rr → Calls Try.prog 12 #[.agg #[.string xs, iV kcl, iV ksq, .slice xa1 xn1 xc1, .bool kg, .slice xa2 xn2 xc2, .slice xa3 xn3 xc3], .agg #[.string ys, iV kcl, iV ksq, .slice ya1 yn1 yc1, .bool kg, .slice ya2 yn2 yc2, .slice ya3 yn3 yc3]] w' fun e w'' => e = .returned (.bool true) ∧ w'.grownBy w'' none) := fun w' hx hy => by
                have h := sameRec_any rr rr _ _ w' _ _ hx hy
                rw [(sameB_iff rr rr).2 rfl, HQ.out, HQ.out] at h
                exact h
              go_wp2_with fail
              obtain ⟨M2, hM2⟩ : ∃ M, M = w4'.heap.size := ⟨_, rfl⟩
              obtain ⟨w5, hw5⟩ : ∃ W, W = (w4'.alloc (.cells #[.string ys, iV kcl, iV ksq, .slice ya1 yn1 yc1, .bool kg, .slice ya2 yn2 yc2, .slice ya3 yn3 yc3] 25)) := ⟨_, rfl⟩
              rw [← hw5, ← hM2] at HBw5
              rw [← hw5, ← hM2]
              have HMM2 := Lib.hid hM2
              clear hw5 hM2

              clear za0 zb0 za1 zb1 za2 zb2 za3 zb3 za4 zb4 za5 zb5 za6 zb6
              have hg25 := gb_trans HY4.out.1 HBw5.out.2
              refine (HS.out w5 (HX2.out.2.2.1.stay hg25) (HY4.out.2.2.1.stay HBw5.out.2)).mono ?_
              rintro e w6 ⟨rfl, hg6⟩
              have hg26 := gb_trans hg25 hg6
              have H6 := Lib.hid (And.intro (gb_trans HX2.out.1 hg26) (And.intro hg26 (And.intro ((HY4.out.2.1.grown HBw5.out.2 (by simp)).grown hg6 (by simp)) (And.intro (HBw5.out.1.grown hg6 (by simp)) (And.intro (HX2.out.2.1.grown hg26 (by simp)) (gb_trans HBw5.out.2 hg6))))))
              have q6 := HQ0.out _ H6.out.1
              clear hg25 hg6 hg26
              go_wp2_with fail
              refine (keptB_any HMK.out n ci _ gg p ai w6 HP.out.1 (HP.out.2.1.stay H6.out.1) (by have := HP.out.2.2.1; omega) H6.out.2.2.2.2.1).mono ?_
              rintro e w7 ⟨rfl, hg7⟩
              have H7 := Lib.hid (And.intro (gb_trans H6.out.1 hg7) (And.intro (gb_trans H6.out.2.1 hg7) (And.intro (H6.out.2.2.1.grown hg7 (by simp)) (And.intro (H6.out.2.2.2.1.grown hg7 (by simp)) (And.intro (H6.out.2.2.2.2.1.grown hg7 (by simp)) (gb_trans H6.out.2.2.2.2.2 hg7))))))
              clear hg7 q6 H6
              go_wp2_with fail
              refine (overB_any n gg _ w7 (by rw [List.length_map, List.length_append, marksOf_length, HP.out.1]) (by have := HP.out.2.2.1; omega) H7.out.2.2.2.2.1).mono ?_
              rintro e w8 ⟨rfl, hg8⟩
              have hgw2 : gg < w2.heap.size := HX2.out.2.1.lt
              have hg1 : gg < w1.heap.size := HLT.out.2.2.2.2
              have hgM1 : gg ≠ M1 := by have := HMM1.out; omega
              have hw3 : w2.heap.size ≤ w3.heap.size := HBw3.out.2.size
              have hw4 : w3.heap.size ≤ w4'.heap.size := HY4.out.2.2.2.2.size
              have hgM2 : gg ≠ M2 := by have := HMM2.out; omega
              have H8 := Lib.hid (And.intro (gb_then H7.out.1 hg8 HLT.out.2.2.1) (And.intro ((HX2.out.2.2.1.stay H7.out.2.1).apart hg8 HX2.out.2.2.2 hg1) ((HY4.out.2.2.1.stay H7.out.2.2.2.2.2).apart hg8 HY4.out.2.2.2.1 (by omega))))
              have hb1 := H7.out.2.2.1.grown hg8 (by simp; omega)
              have hb2 := H7.out.2.2.2.1.grown hg8 (by simp; omega)
              have za0 := hb1.cell (i := 0) rfl
              have zb0 := hb2.cell (i := 0) rfl
              have za1 := hb1.cell (i := 1) rfl
              have zb1 := hb2.cell (i := 1) rfl
              have za2 := hb1.cell (i := 2) rfl
              have zb2 := hb2.cell (i := 2) rfl
              have za3 := hb1.cell (i := 3) rfl
              have zb3 := hb2.cell (i := 3) rfl
              have za4 := hb1.cell (i := 4) rfl
              have zb4 := hb2.cell (i := 4) rfl
              have za5 := hb1.cell (i := 5) rfl
              have zb5 := hb2.cell (i := 5) rfl
              have za6 := hb1.cell (i := 6) rfl
              have zb6 := hb2.cell (i := 6) rfl
              clear hg8 hgw2 hg1 hgM1 hgM2 hw3 hw4 hb1 hb2 H7
              go_wp2_with fail
              refine (HS.out w8 H8.out.2.1 H8.out.2.2).mono ?_
              rintro e w9' ⟨rfl, hg9⟩
              have HZ := Lib.hid (gb_trans H8.out.1 hg9)
              clear za0 zb0 za1 zb1 za2 zb2 za3 zb3 za4 zb4 za5 zb5 za6 zb6 hg9 H8 HS
              go_wp2
              go_roundw
              case rel => exact ⟨k + 1, by omega, by go_num, HZ.out⟩
              case measure => simp [intOf]; omega
            · obtain rfl : k = 2 := by omega
              have HE := Lib.hid (gb_trans HGL.out HI.out)
              go_wp2
              go_ret
              exact ⟨rfl, HE.out⟩
end Rc
end Go.Proofs.Ytohcoihdijemfaa
