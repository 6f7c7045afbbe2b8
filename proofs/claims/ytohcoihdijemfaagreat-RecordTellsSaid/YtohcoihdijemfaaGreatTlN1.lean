/- texts merged, part 1: XRcPutM XRcTells XRcArgRoom -/
import Derived.Test.YtohcoihdijemfaaGreatTlB2
import Derived.Test.YtohcoihdijemfaaGreatTlB3
import Derived.Test.YtohcoihdijemfaaGreatTlB4
/- A record's bytes are few. -/
namespace Go.Proofs.YtohcoihdijemfaaGreat
open Go.RowKit Ow Wi Ve
namespace Rc
theorem put_small {w : World} {B : Nat} {q : L} {r : R} (h : RAt w B q r) : (putO r).length ≤ 3000 ∧ (rightB r = true → 0 < (putO r).length) ∧ ∀ i, (putO r).getD i 0 < 256 := by
  unfold putO
  cases hr : rightB r with
  | false => simp
  | true =>
    simp only [rightB, Bool.and_eq_true, decide_eq_true_eq] at hr
    have ht := text_small h hr.1
    have e : (putL r).length = (textL r).length + 64 := by unfold putL; rw [List.length_append, hr.2]
    refine ⟨by simp only [if_true]; omega, fun _ => by simp only [if_true]; omega, ?_⟩
    simp only [if_true]
    exact app_byte ht.2 h.sig.byte
end Rc
end Go.Proofs.YtohcoihdijemfaaGreat

/- The law RecordTells (P8.1, P8.2): what is told of any two records is the document's. (Printed by gen_rctells.py.) -/
namespace Go.Proofs.YtohcoihdijemfaaGreat
open Go.RowKit Ow Wi Ve
namespace Rc
theorem great_small {w : World} {B : Nat} {q : L} {r : R} (h : RAt w B q r) (hs : greatB r = false) : q.n1 ≤ 30000 ∧ q.n2 ≤ 30000 ∧ q.n3 ≤ 30000 := by
  simp only [greatB, Bool.or_eq_false_iff, decide_eq_false_iff_not] at hs
  rw [h.l1, h.l2, h.l3] at hs
  omega
theorem blk_ne {w : World} {N M : Nat} {T T' : TypeId} {L L' : List Value} (h : Blk w N T L) (k : Blk w M T' L') (hne : T ≠ T') : M ≠ N := fun e => by
  subst e
  unfold Blk at h k
  rw [h] at k
  simp only [Option.some.injEq, Obj.cells.injEq] at k
  exact hne k.2.1
theorem Lent.zero {f : Nat → Nat → Nat} {w : World} {b : Nat} {q : L} {r : R} {x1 d1 x2 x3 : Nat} (h : Lent f w b q r x1 d1 x2 x3) : Lent f w 0 q r x1 d1 x2 x3 :=
  ⟨h.d, own_mono h.cx (Nat.zero_le _), h.val, h.sig, Nat.zero_le _, Nat.zero_le _⟩
theorem Lent.other {f : Nat → Nat → Nat} {w w' : World} {b T : Nat} {Tt : TypeId} {cs : List Value} {q : L} {r : R} {x1 d1 x2 x3 : Nat} (h : Lent f w b q r x1 d1 x2 x3) (hb : Blk w T Tt cs) (h1 : Tt ≠ 99) (h2 : Tt ≠ 5) (hg : w.grownBy w' (some T)) : Lent f w' b q r x1 d1 x2 x3 :=
  ⟨h.d, own_other h.cx hb h1 hg, h.val.grown hg (fun e => blk_ne hb h.val h2 (Option.some.inj e)), h.sig.grown hg (fun e => blk_ne hb h.sig h2 (Option.some.inj e)), h.b2, h.b3⟩
def lpV (q : L) (cl sq : Int) (g : Bool) (v1 vd v2 v3 : Nat) : Value := .agg #[.string q.s, iV cl, iV sq, .slice (some ⟨v1, 0, none⟩) q.n1 vd, .bool g, .slice (some ⟨v2, 0, none⟩) q.n2 (q.n2 + 12), .slice (some ⟨v3, 0, none⟩) q.n3 (q.n3 + 12)]
def _root_.Go.Proofs.YtohcoihdijemfaaGreat.Fg.It.lp (f : Nat → Nat → Nat) (q : L) (r : R) (cl sq : Int) (g : Bool) : Fg.It := ⟨fun v w => ∃ v1 vd v2 v3, v = lpV q cl sq g v1 vd v2 v3 ∧ Lent f w 0 q r v1 vd v2 v3, fun _ _ _ ⟨v1, vd, v2, v3, e, h⟩ hg => ⟨v1, vd, v2, v3, e, h.stay hg⟩⟩
theorem lent_it {f : Nat → Nat → Nat} (hf : Marks f) (r : R) (B : Nat) (w : World) (q : L) (h : RAt w B q r) (hroom : q.a1 = none → q.c1 = 0) (hs : q.n1 ≤ 30000 ∧ q.n2 ≤ 30000 ∧ q.n3 ≤ 30000) : Calls Tryz.prog 32 #[q.v r] w fun e w' => ∃ v, e = .returned v ∧ w.grownBy w' none ∧ ∃ v1 vd v2 v3, v = lpV q r.cl r.sq r.gone v1 vd v2 v3 ∧ Lent f w' 0 q r v1 vd v2 v3 :=
  (lentRec_any hf r B w q h hroom hs).mono fun _ _ h => by
    obtain ⟨v1, vd, v2, v3, he, hg, hl⟩ := lp_lent h
    exact ⟨_, he, hg, v1, vd, v2, v3, rfl, hl.zero⟩
set_option maxHeartbeats 16000000 in
set_option maxRecDepth 100000 in
theorem tells_any (ra rb : R) (B1 B2 : Nat) (w : World) (qa qb : L) (ha : RAt w B1 qa ra) (hb : RAt w B2 qb rb) (hra : qa.a1 = none → qa.c1 = 0) (hrb : qb.a1 = none → qb.c1 = 0) :
    Calls Tryz.prog 6 #[qa.v ra, qb.v rb] w fun e w' => e = .returned (.bool true) ∧ w.grownBy w' none := by
  obtain ⟨mk, hmk⟩ := marks_are
  have HGA := Lib.hid (fun w' (hg : w.grownBy w' none) => great_any (greatB ra) ra B1 w' qa (ha.stay hg) rfl)
  have HGB := Lib.hid (fun w' (hg : w.grownBy w' none) => great_any (greatB rb) rb B2 w' qb (hb.stay hg) rfl)
  have HLA := Lib.hid (fun (hs : greatB ra = false) w' (hg : w.grownBy w' none) => lent_it hmk ra B1 w' qa (ha.stay hg) hra (great_small ha hs))
  have HLB := Lib.hid (fun (hs : greatB rb = false) w' (hg : w.grownBy w' none) => lent_it hmk rb B2 w' qb (hb.stay hg) hrb (great_small hb hs))
  have HAB := Lib.hid (And.intro hmk (And.intro ha hb))
  clear hmk ha hb hra hrb
  have HVA : Hid (∀ q : L, q.v ra = .agg #[.string q.s, iV ra.cl, iV ra.sq, .slice q.a1 q.n1 q.c1, .bool ra.gone, .slice q.a2 q.n2 q.c2, .slice q.a3 q.n3 q.c3]) := fun _ => rfl
  have HVB : Hid (∀ q : L, q.v rb = .agg #[.string q.s, iV rb.cl, iV rb.sq, .slice q.a1 q.n1 q.c1, .bool rb.gone, .slice q.a2 q.n2 q.c2, .slice q.a3 q.n3 q.c3]) := fun _ => rfl
  obtain ⟨s, a1, n1, c1, a2, n2, c2, a3, n3, c3⟩ := qa
  obtain ⟨s', a1', n1', c1', a2', n2', c2', a3', n3', c3'⟩ := qb
  rw [HVA.out] at HGA HLA ⊢
  rw [HVB.out] at HGB HLB ⊢
  simp only at HGA HLA HGB HLB
  generalize hgA : greatB ra = gA at *
  generalize hgB : greatB rb = gB at *
  have HGR := Lib.hid (And.intro hgA hgB); clear hgA hgB
  generalize ra.cl = cl at *
  generalize ra.sq = sq at *
  generalize ra.gone = g at *
  generalize rb.cl = cl' at *
  generalize rb.sq = sq' at *
  generalize rb.gone = g' at *
  obtain ⟨W1, hW1⟩ : ∃ W1, W1 = w.alloc (.cells #[.string s, iV cl, iV sq, .slice a1 n1 c1, .bool g, .slice a2 n2 c2, .slice a3 n3 c3] 50) := ⟨_, rfl⟩
  obtain ⟨W2, hW2⟩ : ∃ W2, W2 = (w.alloc (.cells #[.string s, iV cl, iV sq, .slice a1 n1 c1, .bool g, .slice a2 n2 c2, .slice a3 n3 c3] 50)).alloc (.cells #[.string s', iV cl', iV sq', .slice a1' n1' c1', .bool g', .slice a2' n2' c2', .slice a3' n3' c3'] 50) := ⟨_, rfl⟩
  obtain ⟨M1, hM1⟩ : ∃ M, M = w.heap.size := ⟨_, rfl⟩
  obtain ⟨M2, hM2⟩ : ∃ M, M = w.heap.size + 1 := ⟨_, rfl⟩
  have hb1 : Blk W1 M1 50 [.string s, iV cl, iV sq, .slice a1 n1 c1, .bool g, .slice a2 n2 c2, .slice a3 n3 c3] := by rw [hW1, hM1]; exact Blk.new _ _ _
  have hg1 : w.grownBy W1 none := by rw [hW1]; exact gb_alloc (gb_refl _ _) _
  have hg2 : W1.grownBy W2 none := by rw [hW2, ← hW1]; exact gb_alloc (gb_refl _ _) _
  have hs1 : W1.heap.size = M2 := by rw [hW1, hM2]; exact World.size_alloc _ _
  have hb2 : Blk W2 M2 50 [.string s', iV cl', iV sq', .slice a1' n1' c1', .bool g', .slice a2' n2' c2', .slice a3' n3' c3'] := by rw [hW2, ← hW1, ← hs1]; exact Blk.new _ _ _
  have HG0 := Lib.hid (And.intro (gb_trans hg1 hg2) (And.intro (hb1.grown hg2 (by simp)) hb2)); clear hb1 hg1 hg2 hs1 hb2 hW1
  go_enter Tryz.func6, Tryz.ntmps6
  go_wp2_with fail
  rw [← hW2, ← hM2, ← hM1]
  clear hW2 hM1 hM2
  refine (awake8_any W2).mono ?_
  rintro e w1 ⟨rfl, hg⟩
  have HG1 := Lib.hid (And.intro (gb_trans HG0.out.1 hg) (And.intro (HG0.out.2.1.grown hg (by simp)) (HG0.out.2.2.grown hg (by simp))))
  clear hg HG0
  have m0 := HG1.out.2.1.cell (i := 0) rfl
  have m1 := HG1.out.2.1.cell (i := 1) rfl
  have m2 := HG1.out.2.1.cell (i := 2) rfl
  have m3 := HG1.out.2.1.cell (i := 3) rfl
  have m4 := HG1.out.2.1.cell (i := 4) rfl
  have m5 := HG1.out.2.1.cell (i := 5) rfl
  have m6 := HG1.out.2.1.cell (i := 6) rfl
  have p0 := HG1.out.2.2.cell (i := 0) rfl
  have p1 := HG1.out.2.2.cell (i := 1) rfl
  have p2 := HG1.out.2.2.cell (i := 2) rfl
  have p3 := HG1.out.2.2.cell (i := 3) rfl
  have p4 := HG1.out.2.2.cell (i := 4) rfl
  have p5 := HG1.out.2.2.cell (i := 5) rfl
  have p6 := HG1.out.2.2.cell (i := 6) rfl
  go_wp2_with fail
  refine (HGA.out w1 HG1.out.1).mono ?_
  rintro e w2 ⟨rfl, hg⟩
  have HG2 := Lib.hid (And.intro (gb_trans HG1.out.1 hg) (And.intro (HG1.out.2.1.grown hg (by simp)) (HG1.out.2.2.grown hg (by simp))))
  clear hg HG1 HGA m0 m1 m2 m3 m4 m5 m6 p0 p1 p2 p3 p4 p5 p6
  cases gA with
  | true =>
    go_wp2
    go_ret
    exact ⟨rfl, HG2.out.1⟩
  | false =>
    have p0 := HG2.out.2.2.cell (i := 0) rfl
    have p1 := HG2.out.2.2.cell (i := 1) rfl
    have p2 := HG2.out.2.2.cell (i := 2) rfl
    have p3 := HG2.out.2.2.cell (i := 3) rfl
    have p4 := HG2.out.2.2.cell (i := 4) rfl
    have p5 := HG2.out.2.2.cell (i := 5) rfl
    have p6 := HG2.out.2.2.cell (i := 6) rfl
    go_wp2_with fail
    refine (HGB.out w2 HG2.out.1).mono ?_
    rintro e w3 ⟨rfl, hg⟩
    have HG3 := Lib.hid (And.intro (gb_trans HG2.out.1 hg) (And.intro (HG2.out.2.1.grown hg (by simp)) (HG2.out.2.2.grown hg (by simp))))
    clear hg HG2 HGB p0 p1 p2 p3 p4 p5 p6
    cases gB with
    | true =>
      go_wp2
      go_ret
      exact ⟨rfl, HG3.out.1⟩
    | false =>
      replace HLA := Lib.hid (HLA.out (by first | rfl | trivial))
      replace HLB := Lib.hid (HLB.out (by first | rfl | trivial))
      go_wp2_with fail
      refine Fg.region_t [5, 6] [.any, .any, .any, .any, .any, .fresh 50 z7 w3.heap.size, .fresh 50 z7 w3.heap.size, .any, .any, .any, .any, .any, .any, .any, .any, .any, .any, .any, .any, .any, .any, .val (Value.agg #[.string s, iV cl, iV sq, .slice a1 n1 c1, .bool g, .slice a2 n2 c2, .slice a3 n3 c3]), .lp mk (L.mk s a1 n1 c1 a2 n2 c2 a3 n3 c3) ra cl sq g, .val (Value.agg #[.string s', iV cl', iV sq', .slice a1' n1' c1', .bool g', .slice a2' n2' c2', .slice a3' n3' c3']), .lp mk (L.mk s' a1' n1' c1' a2' n2' c2' a3' n3' c3') rb cl' sq' g'] w3 6 (gb_refl _ _) (by kernel_rfl) (by kernel_rfl) (by kernel_rfl) (by kernel_rfl) (by decide) (by kernel_rfl) ?_ ?_
      · refine ⟨Fg.vT rfl (by decide) fun ac w h => ?_, ?_⟩
        · have e2 : ac.tmps.getD 2 undef = Value.pointer (some ⟨M1, 0, none⟩) := h.rest 2 (by kernel_rfl)
          have hbx := HG3.out.2.1.grown h.base (by simp)
          have m0 := hbx.cell (i := 0) rfl
          have m1 := hbx.cell (i := 1) rfl
          have m2 := hbx.cell (i := 2) rfl
          have m3 := hbx.cell (i := 3) rfl
          have m4 := hbx.cell (i := 4) rfl
          have m5 := hbx.cell (i := 5) rfl
          have m6 := hbx.cell (i := 6) rfl
          refine ⟨Value.agg #[.string s, iV cl, iV sq, .slice a1 n1 c1, .bool g, .slice a2 n2 c2, .slice a3 n3 c3], w, wants_none rfl, ?_, gb_refl _ _, rfl⟩
          clear h
          simp only [execOp, Act.eval, e2]
          go_simp
        refine ⟨Fg.cT rfl (by decide) fun ac w h => ?_, ?_⟩
        · have e21 : ac.tmps.getD 21 undef = Value.agg #[.string s, iV cl, iV sq, .slice a1 n1 c1, .bool g, .slice a2 n2 c2, .slice a3 n3 c3] := h.dep 21 (by kernel_rfl)
          refine ⟨32, #[Value.agg #[.string s, iV cl, iV sq, .slice a1 n1 c1, .bool g, .slice a2 n2 c2, .slice a3 n3 c3]], wants_none rfl, Fg.run_call rfl rfl (by simp only [List.map_toArray, List.map_cons, List.map_nil, Act.eval, e21]) (Fg.run_enter Tryz.func32 (by kernel_rfl) (by kernel_rfl)), ?_⟩
          exact (HLA.out w (gb_trans HG3.out.1 h.base)).mono fun _ _ ⟨v, he, hg, hb⟩ => ⟨v, he, hg, hb⟩
        refine ⟨Fg.vT rfl (by decide) fun ac w h => ?_, ?_⟩
        · have e3 : ac.tmps.getD 3 undef = Value.pointer (some ⟨M2, 0, none⟩) := h.rest 3 (by kernel_rfl)
          have hbx := HG3.out.2.2.grown h.base (by simp)
          have m0 := hbx.cell (i := 0) rfl
          have m1 := hbx.cell (i := 1) rfl
          have m2 := hbx.cell (i := 2) rfl
          have m3 := hbx.cell (i := 3) rfl
          have m4 := hbx.cell (i := 4) rfl
          have m5 := hbx.cell (i := 5) rfl
          have m6 := hbx.cell (i := 6) rfl
          refine ⟨Value.agg #[.string s', iV cl', iV sq', .slice a1' n1' c1', .bool g', .slice a2' n2' c2', .slice a3' n3' c3'], w, wants_none rfl, ?_, gb_refl _ _, rfl⟩
          clear h
          simp only [execOp, Act.eval, e3]
          go_simp
        refine ⟨Fg.cT rfl (by decide) fun ac w h => ?_, ?_⟩
        · have e23 : ac.tmps.getD 23 undef = Value.agg #[.string s', iV cl', iV sq', .slice a1' n1' c1', .bool g', .slice a2' n2' c2', .slice a3' n3' c3'] := h.dep 23 (by kernel_rfl)
          refine ⟨32, #[Value.agg #[.string s', iV cl', iV sq', .slice a1' n1' c1', .bool g', .slice a2' n2' c2', .slice a3' n3' c3']], wants_none rfl, Fg.run_call rfl rfl (by simp only [List.map_toArray, List.map_cons, List.map_nil, Act.eval, e23]) (Fg.run_enter Tryz.func32 (by kernel_rfl) (by kernel_rfl)), ?_⟩
          exact (HLB.out w (gb_trans HG3.out.1 h.base)).mono fun _ _ ⟨v, he, hg, hb⟩ => ⟨v, he, hg, hb⟩
        refine ⟨Fg.aT 50 z7 rfl (by show 5 < 95; decide) rfl fun ac w h => ?_, ?_⟩
        · refine ⟨wants_none rfl, ?_⟩
          clear h
          go_simp
          rfl
        refine ⟨Fg.aT 50 z7 rfl (by show 6 < 95; decide) rfl fun ac w h => ?_, ?_⟩
        · refine ⟨wants_none rfl, ?_⟩
          clear h
          go_simp
          rfl
        trivial
      · intro aq wq hB hsz hdf hrest hslots hpt
        obtain ⟨u0, e0⟩ : ∃ u, aq.tmps.getD 0 undef = u := ⟨_, rfl⟩
        obtain ⟨u1, e1⟩ : ∃ u, aq.tmps.getD 1 undef = u := ⟨_, rfl⟩
        obtain ⟨u4, e4⟩ : ∃ u, aq.tmps.getD 4 undef = u := ⟨_, rfl⟩
        obtain ⟨N5, e5, n5, b5⟩ : ∃ N, aq.tmps.getD 5 undef = .pointer (some ⟨N, 0, none⟩) ∧ w3.heap.size ≤ N ∧ Blk wq N 50 z7 := hslots 5 (by kernel_rfl)
        obtain ⟨N6, e6, n6, b6⟩ : ∃ N, aq.tmps.getD 6 undef = .pointer (some ⟨N, 0, none⟩) ∧ w3.heap.size ≤ N ∧ Blk wq N 50 z7 := hslots 6 (by kernel_rfl)
        obtain ⟨u7, e7⟩ : ∃ u, aq.tmps.getD 7 undef = u := ⟨_, rfl⟩
        obtain ⟨u8, e8⟩ : ∃ u, aq.tmps.getD 8 undef = u := ⟨_, rfl⟩
        obtain ⟨u9, e9⟩ : ∃ u, aq.tmps.getD 9 undef = u := ⟨_, rfl⟩
        obtain ⟨u10, e10⟩ : ∃ u, aq.tmps.getD 10 undef = u := ⟨_, rfl⟩
        obtain ⟨u11, e11⟩ : ∃ u, aq.tmps.getD 11 undef = u := ⟨_, rfl⟩
        obtain ⟨u12, e12⟩ : ∃ u, aq.tmps.getD 12 undef = u := ⟨_, rfl⟩
        obtain ⟨u13, e13⟩ : ∃ u, aq.tmps.getD 13 undef = u := ⟨_, rfl⟩
        obtain ⟨u14, e14⟩ : ∃ u, aq.tmps.getD 14 undef = u := ⟨_, rfl⟩
        obtain ⟨u15, e15⟩ : ∃ u, aq.tmps.getD 15 undef = u := ⟨_, rfl⟩
        obtain ⟨u16, e16⟩ : ∃ u, aq.tmps.getD 16 undef = u := ⟨_, rfl⟩
        obtain ⟨u17, e17⟩ : ∃ u, aq.tmps.getD 17 undef = u := ⟨_, rfl⟩
        obtain ⟨u18, e18⟩ : ∃ u, aq.tmps.getD 18 undef = u := ⟨_, rfl⟩
        obtain ⟨u19, e19⟩ : ∃ u, aq.tmps.getD 19 undef = u := ⟨_, rfl⟩
        obtain ⟨u20, e20⟩ : ∃ u, aq.tmps.getD 20 undef = u := ⟨_, rfl⟩
        obtain ⟨u21, e21⟩ : ∃ u, aq.tmps.getD 21 undef = u := ⟨_, rfl⟩
        obtain ⟨x22, d22, y22, z22, e22, b22⟩ : ∃ v1 vd v2 v3, aq.tmps.getD 22 undef = .agg #[.string s, iV cl, iV sq, .slice (some ⟨v1, 0, none⟩) n1 vd, .bool g, .slice (some ⟨v2, 0, none⟩) n2 (n2 + 12), .slice (some ⟨v3, 0, none⟩) n3 (n3 + 12)] ∧ Lent mk wq 0 (L.mk s a1 n1 c1 a2 n2 c2 a3 n3 c3) ra v1 vd v2 v3 := hslots 22 (by kernel_rfl)
        obtain ⟨u23, e23⟩ : ∃ u, aq.tmps.getD 23 undef = u := ⟨_, rfl⟩
        obtain ⟨x24, d24, y24, z24, e24, b24⟩ : ∃ v1 vd v2 v3, aq.tmps.getD 24 undef = .agg #[.string s', iV cl', iV sq', .slice (some ⟨v1, 0, none⟩) n1' vd, .bool g', .slice (some ⟨v2, 0, none⟩) n2' (n2' + 12), .slice (some ⟨v3, 0, none⟩) n3' (n3' + 12)] ∧ Lent mk wq 0 (L.mk s' a1' n1' c1' a2' n2' c2' a3' n3' c3') rb v1 vd v2 v3 := hslots 24 (by kernel_rfl)
        obtain ⟨u25, e25⟩ : ∃ u, aq.tmps.getD 25 undef = u := ⟨_, rfl⟩
        obtain ⟨u26, e26⟩ : ∃ u, aq.tmps.getD 26 undef = u := ⟨_, rfl⟩
        obtain ⟨u27, e27⟩ : ∃ u, aq.tmps.getD 27 undef = u := ⟨_, rfl⟩
        obtain ⟨u28, e28⟩ : ∃ u, aq.tmps.getD 28 undef = u := ⟨_, rfl⟩
        obtain ⟨u29, e29⟩ : ∃ u, aq.tmps.getD 29 undef = u := ⟨_, rfl⟩
        obtain ⟨u30, e30⟩ : ∃ u, aq.tmps.getD 30 undef = u := ⟨_, rfl⟩
        obtain ⟨u31, e31⟩ : ∃ u, aq.tmps.getD 31 undef = u := ⟨_, rfl⟩
        obtain ⟨u32, e32⟩ : ∃ u, aq.tmps.getD 32 undef = u := ⟨_, rfl⟩
        obtain ⟨u33, e33⟩ : ∃ u, aq.tmps.getD 33 undef = u := ⟨_, rfl⟩
        obtain ⟨u34, e34⟩ : ∃ u, aq.tmps.getD 34 undef = u := ⟨_, rfl⟩
        obtain ⟨u35, e35⟩ : ∃ u, aq.tmps.getD 35 undef = u := ⟨_, rfl⟩
        obtain ⟨u36, e36⟩ : ∃ u, aq.tmps.getD 36 undef = u := ⟨_, rfl⟩
        obtain ⟨u37, e37⟩ : ∃ u, aq.tmps.getD 37 undef = u := ⟨_, rfl⟩
        obtain ⟨u38, e38⟩ : ∃ u, aq.tmps.getD 38 undef = u := ⟨_, rfl⟩
        obtain ⟨u39, e39⟩ : ∃ u, aq.tmps.getD 39 undef = u := ⟨_, rfl⟩
        obtain ⟨u40, e40⟩ : ∃ u, aq.tmps.getD 40 undef = u := ⟨_, rfl⟩
        obtain ⟨u41, e41⟩ : ∃ u, aq.tmps.getD 41 undef = u := ⟨_, rfl⟩
        obtain ⟨u42, e42⟩ : ∃ u, aq.tmps.getD 42 undef = u := ⟨_, rfl⟩
        obtain ⟨u43, e43⟩ : ∃ u, aq.tmps.getD 43 undef = u := ⟨_, rfl⟩
        obtain ⟨u44, e44⟩ : ∃ u, aq.tmps.getD 44 undef = u := ⟨_, rfl⟩
        obtain ⟨u45, e45⟩ : ∃ u, aq.tmps.getD 45 undef = u := ⟨_, rfl⟩
        obtain ⟨u46, e46⟩ : ∃ u, aq.tmps.getD 46 undef = u := ⟨_, rfl⟩
        obtain ⟨u47, e47⟩ : ∃ u, aq.tmps.getD 47 undef = u := ⟨_, rfl⟩
        obtain ⟨u48, e48⟩ : ∃ u, aq.tmps.getD 48 undef = u := ⟨_, rfl⟩
        obtain ⟨u49, e49⟩ : ∃ u, aq.tmps.getD 49 undef = u := ⟨_, rfl⟩
        obtain ⟨u50, e50⟩ : ∃ u, aq.tmps.getD 50 undef = u := ⟨_, rfl⟩
        obtain ⟨u51, e51⟩ : ∃ u, aq.tmps.getD 51 undef = u := ⟨_, rfl⟩
        obtain ⟨u52, e52⟩ : ∃ u, aq.tmps.getD 52 undef = u := ⟨_, rfl⟩
        obtain ⟨u53, e53⟩ : ∃ u, aq.tmps.getD 53 undef = u := ⟨_, rfl⟩
        obtain ⟨u54, e54⟩ : ∃ u, aq.tmps.getD 54 undef = u := ⟨_, rfl⟩
        obtain ⟨u55, e55⟩ : ∃ u, aq.tmps.getD 55 undef = u := ⟨_, rfl⟩
        obtain ⟨u56, e56⟩ : ∃ u, aq.tmps.getD 56 undef = u := ⟨_, rfl⟩
        obtain ⟨u57, e57⟩ : ∃ u, aq.tmps.getD 57 undef = u := ⟨_, rfl⟩
        obtain ⟨u58, e58⟩ : ∃ u, aq.tmps.getD 58 undef = u := ⟨_, rfl⟩
        obtain ⟨u59, e59⟩ : ∃ u, aq.tmps.getD 59 undef = u := ⟨_, rfl⟩
        obtain ⟨u60, e60⟩ : ∃ u, aq.tmps.getD 60 undef = u := ⟨_, rfl⟩
        obtain ⟨u61, e61⟩ : ∃ u, aq.tmps.getD 61 undef = u := ⟨_, rfl⟩
        obtain ⟨u62, e62⟩ : ∃ u, aq.tmps.getD 62 undef = u := ⟨_, rfl⟩
        obtain ⟨u63, e63⟩ : ∃ u, aq.tmps.getD 63 undef = u := ⟨_, rfl⟩
        obtain ⟨u64, e64⟩ : ∃ u, aq.tmps.getD 64 undef = u := ⟨_, rfl⟩
        obtain ⟨u65, e65⟩ : ∃ u, aq.tmps.getD 65 undef = u := ⟨_, rfl⟩
        obtain ⟨u66, e66⟩ : ∃ u, aq.tmps.getD 66 undef = u := ⟨_, rfl⟩
        obtain ⟨u67, e67⟩ : ∃ u, aq.tmps.getD 67 undef = u := ⟨_, rfl⟩
        obtain ⟨u68, e68⟩ : ∃ u, aq.tmps.getD 68 undef = u := ⟨_, rfl⟩
        obtain ⟨u69, e69⟩ : ∃ u, aq.tmps.getD 69 undef = u := ⟨_, rfl⟩
        obtain ⟨u70, e70⟩ : ∃ u, aq.tmps.getD 70 undef = u := ⟨_, rfl⟩
        obtain ⟨u71, e71⟩ : ∃ u, aq.tmps.getD 71 undef = u := ⟨_, rfl⟩
        obtain ⟨u72, e72⟩ : ∃ u, aq.tmps.getD 72 undef = u := ⟨_, rfl⟩
        obtain ⟨u73, e73⟩ : ∃ u, aq.tmps.getD 73 undef = u := ⟨_, rfl⟩
        obtain ⟨u74, e74⟩ : ∃ u, aq.tmps.getD 74 undef = u := ⟨_, rfl⟩
        obtain ⟨u75, e75⟩ : ∃ u, aq.tmps.getD 75 undef = u := ⟨_, rfl⟩
        obtain ⟨u76, e76⟩ : ∃ u, aq.tmps.getD 76 undef = u := ⟨_, rfl⟩
        obtain ⟨u77, e77⟩ : ∃ u, aq.tmps.getD 77 undef = u := ⟨_, rfl⟩
        obtain ⟨u78, e78⟩ : ∃ u, aq.tmps.getD 78 undef = u := ⟨_, rfl⟩
        obtain ⟨u79, e79⟩ : ∃ u, aq.tmps.getD 79 undef = u := ⟨_, rfl⟩
        obtain ⟨u80, e80⟩ : ∃ u, aq.tmps.getD 80 undef = u := ⟨_, rfl⟩
        obtain ⟨u81, e81⟩ : ∃ u, aq.tmps.getD 81 undef = u := ⟨_, rfl⟩
        obtain ⟨u82, e82⟩ : ∃ u, aq.tmps.getD 82 undef = u := ⟨_, rfl⟩
        obtain ⟨u83, e83⟩ : ∃ u, aq.tmps.getD 83 undef = u := ⟨_, rfl⟩
        obtain ⟨u84, e84⟩ : ∃ u, aq.tmps.getD 84 undef = u := ⟨_, rfl⟩
        obtain ⟨u85, e85⟩ : ∃ u, aq.tmps.getD 85 undef = u := ⟨_, rfl⟩
        obtain ⟨u86, e86⟩ : ∃ u, aq.tmps.getD 86 undef = u := ⟨_, rfl⟩
        obtain ⟨u87, e87⟩ : ∃ u, aq.tmps.getD 87 undef = u := ⟨_, rfl⟩
        obtain ⟨u88, e88⟩ : ∃ u, aq.tmps.getD 88 undef = u := ⟨_, rfl⟩
        obtain ⟨u89, e89⟩ : ∃ u, aq.tmps.getD 89 undef = u := ⟨_, rfl⟩
        obtain ⟨u90, e90⟩ : ∃ u, aq.tmps.getD 90 undef = u := ⟨_, rfl⟩
        obtain ⟨u91, e91⟩ : ∃ u, aq.tmps.getD 91 undef = u := ⟨_, rfl⟩
        obtain ⟨u92, e92⟩ : ∃ u, aq.tmps.getD 92 undef = u := ⟨_, rfl⟩
        obtain ⟨u93, e93⟩ : ∃ u, aq.tmps.getD 93 undef = u := ⟨_, rfl⟩
        obtain ⟨u94, e94⟩ : ∃ u, aq.tmps.getD 94 undef = u := ⟨_, rfl⟩
        have n56 : N5 ≠ N6 := fun e => (hpt 5 (by simp) N5 e5).2 6 (by simp) (by decide) (by rw [e6, e])
        obtain rfl := Fg.frame_is (a := aq) (vs := [u0, u1, Value.pointer (some ⟨M1, 0, none⟩), Value.pointer (some ⟨M2, 0, none⟩), u4, Value.pointer (some ⟨N5, 0, none⟩), Value.pointer (some ⟨N6, 0, none⟩), u7, u8, u9, u10, u11, u12, u13, u14, u15, u16, u17, u18, u19, u20, u21, Value.agg #[.string s, iV cl, iV sq, .slice (some ⟨x22, 0, none⟩) n1 d22, .bool g, .slice (some ⟨y22, 0, none⟩) n2 (n2 + 12), .slice (some ⟨z22, 0, none⟩) n3 (n3 + 12)], u23, Value.agg #[.string s', iV cl', iV sq', .slice (some ⟨x24, 0, none⟩) n1' d24, .bool g', .slice (some ⟨y24, 0, none⟩) n2' (n2' + 12), .slice (some ⟨z24, 0, none⟩) n3' (n3' + 12)], u25, u26, u27, u28, u29, u30, u31, u32, u33, u34, u35, u36, u37, u38, u39, u40, u41, u42, u43, u44, u45, u46, u47, u48, u49, u50, u51, u52, u53, u54, u55, u56, u57, u58, u59, u60, u61, u62, u63, u64, u65, u66, u67, u68, u69, u70, u71, u72, u73, u74, u75, u76, u77, u78, u79, u80, u81, u82, u83, u84, u85, u86, u87, u88, u89, u90, u91, u92, u93, u94]) hsz ⟨e0, e1, hrest 2 (by kernel_rfl), hrest 3 (by kernel_rfl), e4, e5, e6, e7, e8, e9, e10, e11, e12, e13, e14, e15, e16, e17, e18, e19, e20, e21, e22, e23, e24, e25, e26, e27, e28, e29, e30, e31, e32, e33, e34, e35, e36, e37, e38, e39, e40, e41, e42, e43, e44, e45, e46, e47, e48, e49, e50, e51, e52, e53, e54, e55, e56, e57, e58, e59, e60, e61, e62, e63, e64, e65, e66, e67, e68, e69, e70, e71, e72, e73, e74, e75, e76, e77, e78, e79, e80, e81, e82, e83, e84, e85, e86, e87, e88, e89, e90, e91, e92, e93, e94, trivial⟩ hdf
        clear hsz hdf hrest hslots hpt e0 e1 e4 e5 e6 e7 e8 e9 e10 e11 e12 e13 e14 e15 e16 e17 e18 e19 e20 e21 e22 e23 e24 e25 e26 e27 e28 e29 e30 e31 e32 e33 e34 e35 e36 e37 e38 e39 e40 e41 e42 e43 e44 e45 e46 e47 e48 e49 e50 e51 e52 e53 e54 e55 e56 e57 e58 e59 e60 e61 e62 e63 e64 e65 e66 e67 e68 e69 e70 e71 e72 e73 e74 e75 e76 e77 e78 e79 e80 e81 e82 e83 e84 e85 e86 e87 e88 e89 e90 e91 e92 e93 e94
        have HN5 := Lib.hid (And.intro (show w.heap.size ≤ N5 from Nat.le_trans HG3.out.1.size n5) (And.intro (show w.heap.size ≤ N6 from Nat.le_trans HG3.out.1.size n6) n56))
        have HW := Lib.hid (And.intro (gb_trans HG3.out.1 hB) (And.intro (HG3.out.2.1.grown hB (by simp)) (HG3.out.2.2.grown hB (by simp))))
        have hM1 : M1 < w3.heap.size := HG3.out.2.1.lt
        have hM2 : M2 < w3.heap.size := HG3.out.2.2.lt
        have HMN := Lib.hid (And.intro (show M1 ≠ N5 by omega) (And.intro (show M1 ≠ N6 by omega) (And.intro (show M2 ≠ N5 by omega) (show M2 ≠ N6 by omega))))
        clear hB n5 n6 hM1 hM2
        refine Fg.wpl_skip rfl rfl (Fg.run_store (cs := [.string s, iV cl, iV sq, .slice (some ⟨x22, 0, none⟩) n1 d22, .bool g, .slice (some ⟨y22, 0, none⟩) n2 (n2 + 12), .slice (some ⟨z22, 0, none⟩) n3 (n3 + 12)]) rfl rfl rfl (b5.there 0 7 (by decide)) info_recS rfl) ?_
        have hgs := gb_setCells (cs := [.string s, iV cl, iV sq, .slice (some ⟨x22, 0, none⟩) n1 d22, .bool g, .slice (some ⟨y22, 0, none⟩) n2 (n2 + 12), .slice (some ⟨z22, 0, none⟩) n3 (n3 + 12)]) (gb_refl wq (some N5)) 0
        have r22 := b22.other b5 (by decide) (by decide) hgs
        have r24 := b24.other b5 (by decide) (by decide) hgs
        have c6 := b6.setCells_other (C := N5) (cs := [.string s, iV cl, iV sq, .slice (some ⟨x22, 0, none⟩) n1 d22, .bool g, .slice (some ⟨y22, 0, none⟩) n2 (n2 + 12), .slice (some ⟨z22, 0, none⟩) n3 (n3 + 12)]) 0 n56
        have hgx := gb_setCells_new (cs := [.string s, iV cl, iV sq, .slice (some ⟨x22, 0, none⟩) n1 d22, .bool g, .slice (some ⟨y22, 0, none⟩) n2 (n2 + 12), .slice (some ⟨z22, 0, none⟩) n3 (n3 + 12)]) HW.out.1 HN5.out.1 0
        have c5 := b5.setAll (cs := [.string s, iV cl, iV sq, .slice (some ⟨x22, 0, none⟩) n1 d22, .bool g, .slice (some ⟨y22, 0, none⟩) n2 (n2 + 12), .slice (some ⟨z22, 0, none⟩) n3 (n3 + 12)]) rfl
        have o1 := HW.out.2.1.grown hgs (fun e => HMN.out.1 (Option.some.inj e))
        have o2 := HW.out.2.2.grown hgs (fun e => HMN.out.2.2.1 (Option.some.inj e))
        generalize wq.setCells N5 0 [.string s, iV cl, iV sq, .slice (some ⟨x22, 0, none⟩) n1 d22, .bool g, .slice (some ⟨y22, 0, none⟩) n2 (n2 + 12), .slice (some ⟨z22, 0, none⟩) n3 (n3 + 12)] = wx at *
        refine Fg.wpl_skip rfl rfl (Fg.run_store (cs := [.string s', iV cl', iV sq', .slice (some ⟨x24, 0, none⟩) n1' d24, .bool g', .slice (some ⟨y24, 0, none⟩) n2' (n2' + 12), .slice (some ⟨z24, 0, none⟩) n3' (n3' + 12)]) rfl rfl rfl (c6.there 0 7 (by decide)) info_recS rfl) ?_
        have hgs2 := gb_setCells (cs := [.string s', iV cl', iV sq', .slice (some ⟨x24, 0, none⟩) n1' d24, .bool g', .slice (some ⟨y24, 0, none⟩) n2' (n2' + 12), .slice (some ⟨z24, 0, none⟩) n3' (n3' + 12)]) (gb_refl wx (some N6)) 0
        have r22' := r22.other c6 (by decide) (by decide) hgs2
        have r24' := r24.other c6 (by decide) (by decide) hgs2
        have c5' := c5.setCells_other (C := N6) (cs := [.string s', iV cl', iV sq', .slice (some ⟨x24, 0, none⟩) n1' d24, .bool g', .slice (some ⟨y24, 0, none⟩) n2' (n2' + 12), .slice (some ⟨z24, 0, none⟩) n3' (n3' + 12)]) 0 (fun e => n56 e.symm)
        have c6' := c6.setAll (cs := [.string s', iV cl', iV sq', .slice (some ⟨x24, 0, none⟩) n1' d24, .bool g', .slice (some ⟨y24, 0, none⟩) n2' (n2' + 12), .slice (some ⟨z24, 0, none⟩) n3' (n3' + 12)]) rfl
        have hgy := gb_setCells_new (cs := [.string s', iV cl', iV sq', .slice (some ⟨x24, 0, none⟩) n1' d24, .bool g', .slice (some ⟨y24, 0, none⟩) n2' (n2' + 12), .slice (some ⟨z24, 0, none⟩) n3' (n3' + 12)]) hgx HN5.out.2.1 0
        have o1' := o1.grown hgs2 (fun e => HMN.out.2.1 (Option.some.inj e))
        have o2' := o2.grown hgs2 (fun e => HMN.out.2.2.2 (Option.some.inj e))
        generalize wx.setCells N6 0 [.string s', iV cl', iV sq', .slice (some ⟨x24, 0, none⟩) n1' d24, .bool g', .slice (some ⟨y24, 0, none⟩) n2' (n2' + 12), .slice (some ⟨z24, 0, none⟩) n3' (n3' + 12)] = w5 at *
        have HC := Lib.hid (And.intro hgy (And.intro c5' (And.intro c6' (And.intro o1' (And.intro o2' (And.intro r22' r24'))))))
        clear hgs hgs2 r22 r24 c6 c5 hgx b5 b6 b22 b24 o1 o2 o1' o2' c5' c6' r22' r24' hgy HW n56
        refine wpList_nil ?_
        have hsA := great_small HAB.out.2.1 HGR.out.1
        have hsB := great_small HAB.out.2.2 HGR.out.2
        have hRX := lent_rat HC.out.2.2.2.2.2.1 (HAB.out.2.1.stay HC.out.1) hsA
        have hRY := lent_rat HC.out.2.2.2.2.2.2 (HAB.out.2.2.stay HC.out.1) hsB
        have HR := Lib.hid (And.intro (HAB.out.2.1.stay HC.out.1) (And.intro (HAB.out.2.2.stay HC.out.1) (And.intro hRX hRY)))
        have HSZ := Lib.hid (And.intro hsA hsB)
        clear hRX hRY hsA hsB
        have HTS : Hid ((textO ra).length ≤ 100000 ∧ (∀ i, (textO ra).getD i 0 < 256) ∧ (putO ra).length ≤ 100000 ∧ ∀ i, (putO ra).getD i 0 < 256) := by
          have h1 := put_small HAB.out.2.1
          refine ⟨?_, textO_lt HAB.out.2.1, by have := h1.1; omega, h1.2.2⟩
          unfold textO
          split
          · rename_i hs
            have := (text_small HAB.out.2.1 hs).1
            omega
          · simp
        obtain ⟨T, hT⟩ : ∃ T, T = textO ra := ⟨_, rfl⟩
        obtain ⟨P, hP⟩ : ∃ P, P = putO ra := ⟨_, rfl⟩
        obtain ⟨ee, hee⟩ : ∃ ee, ee = errN (rightB ra) 4 := ⟨_, rfl⟩
        have HT1 : Hid (∀ w', w5.grownBy w' none → Calls Tryz.prog 33 #[.agg #[.string s, iV cl, iV sq, .slice (some ⟨x22, 0, none⟩) n1 d22, .bool g, .slice (some ⟨y22, 0, none⟩) n2 (n2 + 12), .slice (some ⟨z22, 0, none⟩) n3 (n3 + 12)]] w' (TOwn w' T)) := fun w' hg => by
          have h := rtext_own ra _ w' _ (HR.out.2.2.1.stay hg)
          rw [HVA.out, ← hT] at h
          exact h
        have HPX : Hid (∀ w', w5.grownBy w' none → Calls Tryz.prog 34 #[.agg #[.string s, iV cl, iV sq, .slice (some ⟨x22, 0, none⟩) n1 d22, .bool g, .slice (some ⟨y22, 0, none⟩) n2 (n2 + 12), .slice (some ⟨z22, 0, none⟩) n3 (n3 + 12)]] w' (POwn w' P ee)) := fun w' hg => by
          have h := rput_own ra _ w' _ (HR.out.2.2.1.stay hg)
          rw [HVA.out, ← hP, ← hee] at h
          exact h
        have HPA : Hid (∀ w', w5.grownBy w' none → Calls Tryz.prog 35 #[.agg #[.string s, iV cl, iV sq, .slice a1 n1 c1, .bool g, .slice a2 n2 c2, .slice a3 n3 c3]] w' (POut w' P ee)) := fun w' hg => by
          have h := refPut_any ra _ w' _ (HR.out.1.stay hg)
          rw [HVA.out, ← hP, ← hee] at h
          exact h
        rw [← hT, ← hP] at HTS
        have HTP := Lib.hid (And.intro hT hP); clear hT hP hee
        have HT0 := HT1
        have m0 := HC.out.2.1.cell (i := 0) rfl
        have m1 := HC.out.2.1.cell (i := 1) rfl
        have m2 := HC.out.2.1.cell (i := 2) rfl
        have m3 := HC.out.2.1.cell (i := 3) rfl
        have m4 := HC.out.2.1.cell (i := 4) rfl
        have m5 := HC.out.2.1.cell (i := 5) rfl
        have m6 := HC.out.2.1.cell (i := 6) rfl
        go_wp2_with fail
        go_region_law (first
          | (refine Fg.step_call rfl (f := 33) (args := #[.agg #[.string s, iV cl, iV sq, .slice (some ⟨x22, 0, none⟩) n1 d22, .bool g, .slice (some ⟨y22, 0, none⟩) n2 (n2 + 12), .slice (some ⟨z22, 0, none⟩) n3 (n3 + 12)]]) (Fg.run_call rfl rfl (by simp only [List.map_toArray, List.map_cons, List.map_nil, Act.eval]; rfl) (Fg.run_enter Tryz.func33 (by kernel_rfl) (by kernel_rfl))) ?_
             refine (HT1.out _ (by first | exact gb_drew (gb_refl _ _) | exact gb_refl _ _)).mono ?_
             rintro e w6 ⟨vt, rfl, hg6, ho6⟩
             have H6 : Hid (w5.grownBy w6 none ∧ w6.ownsRow w5.heap.size 5 1 vt T.length (T.map u8N)) := ⟨gb_trans (by first | exact gb_drew (gb_refl _ _) | exact gb_refl _ _) hg6, ho6⟩
             have hbk := HC.out.2.1.grown H6.out.1 (by simp)
             have k0 := hbk.cell (i := 0) rfl
             have k1 := hbk.cell (i := 1) rfl
             have k2 := hbk.cell (i := 2) rfl
             have k3 := hbk.cell (i := 3) rfl
             have k4 := hbk.cell (i := 4) rfl
             have k5 := hbk.cell (i := 5) rfl
             have k6 := hbk.cell (i := 6) rfl
             clear hg6 ho6 HT1 hbk
             refine ⟨_, rfl, ?_⟩)
          | (refine Fg.step_call rfl (f := 33) (args := #[.agg #[.string s, iV cl, iV sq, .slice (some ⟨x22, 0, none⟩) n1 d22, .bool g, .slice (some ⟨y22, 0, none⟩) n2 (n2 + 12), .slice (some ⟨z22, 0, none⟩) n3 (n3 + 12)]]) (Fg.run_call rfl rfl (by simp only [List.map_toArray, List.map_cons, List.map_nil, Act.eval]; rfl) (Fg.run_enter Tryz.func33 (by kernel_rfl) (by kernel_rfl))) ?_
             refine (HT0.out w6 H6.out.1).mono ?_
             rintro e w7 ⟨vu, rfl, hg7, ho7⟩
             have H7 := Lib.hid (And.intro hg7 ho7)
             clear hg7 ho7 HT0
             refine ⟨_, rfl, ?_⟩))
        all_goals
          have hg57 := gb_trans H6.out.1 H7.out.1
          have hb7 := HC.out.2.1.grown hg57 (by simp)
          clear k0 k1 k2 k3 k4 k5 k6 m0 m1 m2 m3 m4 m5 m6
          have m0 := hb7.cell (i := 0) rfl
          have m1 := hb7.cell (i := 1) rfl
          have m2 := hb7.cell (i := 2) rfl
          have m3 := hb7.cell (i := 3) rfl
          have m4 := hb7.cell (i := 4) rfl
          have m5 := hb7.cell (i := 5) rfl
          have m6 := hb7.cell (i := 6) rfl
          clear hb7
          have HG7 := Lib.hid hg57; clear hg57
          go_wp2_with fail
          refine (HPX.out w7 HG7.out).mono ?_
          rintro e w8 ⟨vc, rfl, hg8, ho8⟩
          have H8 := Lib.hid (And.intro (gb_trans HG7.out hg8) (And.intro hg8 ho8))
          clear hg8 ho8 m0 m1 m2 m3 m4 m5 m6
          have hb8 := HC.out.2.2.2.1.grown H8.out.1 (by simp)
          have m0 := hb8.cell (i := 0) rfl
          have m1 := hb8.cell (i := 1) rfl
          have m2 := hb8.cell (i := 2) rfl
          have m3 := hb8.cell (i := 3) rfl
          have m4 := hb8.cell (i := 4) rfl
          have m5 := hb8.cell (i := 5) rfl
          have m6 := hb8.cell (i := 6) rfl
          clear hb8
          go_wp2_with fail
          refine (HPA.out w8 H8.out.1).mono ?_
          rintro e w9 ⟨ad, cd, rfl, hg9, hB9⟩
          clear m0 m1 m2 m3 m4 m5 m6
          have hg59 := gb_trans H8.out.1 hg9
          obtain ⟨ta, tc, rfl, _, hBt, hnt⟩ := own_slice H6.out.2 HTS.out.2.1
          obtain ⟨ua, uc, rfl, _, hBu, hnu⟩ := own_slice H7.out.2 HTS.out.2.1
          obtain ⟨pa, pc, rfl, _, hBp, hnp⟩ := own_slice H8.out.2.2 HTS.out.2.2.2
          have H9 := Lib.hid (And.intro (gb_trans HC.out.1 hg59) (And.intro (HC.out.2.1.grown hg59 (by simp)) (And.intro (HC.out.2.2.1.grown hg59 (by simp)) (And.intro (HC.out.2.2.2.1.grown hg59 (by simp)) (HC.out.2.2.2.2.1.grown hg59 (by simp))))))
          have HBS := Lib.hid (And.intro (((hBt.stay H7.out.1).stay H8.out.2.1).stay hg9) (And.intro (hBp.stay hg9) (And.intro hB9 hg59)))
          have HOW := Lib.hid (And.intro (own_kept (own_kept (own_kept H6.out.2 H7.out.1) H8.out.2.1) hg9) (And.intro (own_kept (own_kept H7.out.2 H8.out.2.1) hg9) (own_kept H8.out.2.2 hg9)))
          have HAP : Hid ((∀ x o, ta = some ⟨x, o, none⟩ → x < w6.heap.size) ∧ (∀ x o, ua = some ⟨x, o, none⟩ → w6.heap.size ≤ x ∧ x < w7.heap.size) ∧ (∀ x o, pa = some ⟨x, o, none⟩ → w7.heap.size ≤ x) ∧ w5.heap.size ≤ w6.heap.size ∧ w6.heap.size ≤ w7.heap.size) :=
            ⟨fun x o e => (hnt x o e).2, fun x o e => hnu x o e, fun x o e => (hnp x o e).1, H6.out.1.size, H7.out.1.size⟩
          clear hBt hBu hBp hnt hnu hnp hB9 hg9 HPX HPA
          obtain ⟨bb, hbb⟩ : ∃ b, b = rightB ra := ⟨_, rfl⟩
          obtain ⟨oo, hoo⟩ : ∃ b, b = overB ra rb := ⟨_, rfl⟩
          obtain ⟨pp, hpp⟩ : ∃ b, b = overB rb ra := ⟨_, rfl⟩
          have HQ1 : Hid (∀ w', w9.grownBy w' none → Calls Tryz.prog 36 #[.agg #[.string s, iV cl, iV sq, .slice (some ⟨x22, 0, none⟩) n1 d22, .bool g, .slice (some ⟨y22, 0, none⟩) n2 (n2 + 12), .slice (some ⟨z22, 0, none⟩) n3 (n3 + 12)]] w' fun e w'' => e = .returned (.bool bb) ∧ w'.grownBy w'' none) := fun w' hg => by
            have h := rright_any ra _ w' _ (HR.out.2.2.1.stay (gb_trans hg59 hg))
            rw [HVA.out, ← hbb] at h; exact h
          have HQ2 : Hid (∀ w', w9.grownBy w' none → Calls Tryz.prog 37 #[.agg #[.string s, iV cl, iV sq, .slice a1 n1 c1, .bool g, .slice a2 n2 c2, .slice a3 n3 c3]] w' fun e w'' => e = .returned (.bool bb) ∧ w'.grownBy w'' none) := fun w' hg => by
            have h := refRightR_any ra _ w' _ (HR.out.1.stay (gb_trans hg59 hg))
            rw [HVA.out, ← hbb] at h; exact h
          have HQ3 : Hid (∀ w', w9.grownBy w' none → Calls Tryz.prog 38 #[.agg #[.string s, iV cl, iV sq, .slice a1 n1 c1, .bool g, .slice a2 n2 c2, .slice a3 n3 c3]] w' (YOut w' T)) := fun w' hg => by
            have h := refText_any ra _ w' _ (HR.out.1.stay (gb_trans hg59 hg))
            rw [HVA.out, ← HTP.out.1] at h; exact h
          have HQ4 : Hid (∀ w' a k B, w9.grownBy w' none → BytesAt w' B a k T → Calls Tryz.prog 11 #[.slice ta T.length tc, .slice a T.length k] w' fun e w'' => e = .returned (.bool true) ∧ w'.grownBy w'' none) := fun w' a k B hg hb => by
            have h := sameBytes_any _ B T.length T.length tc k ta a T T w' rfl rfl (HBS.out.1.stay hg) hb
            rw [decide_eq_true rfl] at h; exact h
          have HQ5 : Hid (∀ w', w9.grownBy w' none → Calls Tryz.prog 11 #[.slice pa P.length pc, .slice ad P.length cd] w' fun e w'' => e = .returned (.bool true) ∧ w'.grownBy w'' none) := fun w' hg => by
            have h := sameBytes_any _ _ P.length P.length pc cd pa ad P P w' rfl rfl (HBS.out.2.1.stay hg) (HBS.out.2.2.1.stay hg)
            rw [decide_eq_true rfl] at h; exact h
          have HO1 : Hid (∀ w', w9.grownBy w' none → Calls Tryz.prog 39 #[.agg #[.string s, iV cl, iV sq, .slice (some ⟨x22, 0, none⟩) n1 d22, .bool g, .slice (some ⟨y22, 0, none⟩) n2 (n2 + 12), .slice (some ⟨z22, 0, none⟩) n3 (n3 + 12)], .agg #[.string s', iV cl', iV sq', .slice (some ⟨x24, 0, none⟩) n1' d24, .bool g', .slice (some ⟨y24, 0, none⟩) n2' (n2' + 12), .slice (some ⟨z24, 0, none⟩) n3' (n3' + 12)]] w' fun e w'' => e = .returned (.bool oo) ∧ w'.grownBy w'' none) := fun w' hg => by
            have h := rover_any ra rb _ _ w' _ _ (HR.out.2.2.1.stay (gb_trans hg59 hg)) (HR.out.2.2.2.stay (gb_trans hg59 hg))
            rw [HVA.out, HVB.out, ← hoo] at h; exact h
          have HO2 : Hid (∀ w', w9.grownBy w' none → Calls Tryz.prog 40 #[.agg #[.string s, iV cl, iV sq, .slice a1 n1 c1, .bool g, .slice a2 n2 c2, .slice a3 n3 c3], .agg #[.string s', iV cl', iV sq', .slice a1' n1' c1', .bool g', .slice a2' n2' c2', .slice a3' n3' c3']] w' fun e w'' => e = .returned (.bool oo) ∧ w'.grownBy w'' none) := fun w' hg => by
            have h := refOver_any ra rb _ _ w' _ _ (HR.out.1.stay (gb_trans hg59 hg)) (HR.out.2.1.stay (gb_trans hg59 hg))
            rw [HVA.out, HVB.out, ← hoo] at h; exact h
          have HO3 : Hid (∀ w', w9.grownBy w' none → Calls Tryz.prog 39 #[.agg #[.string s', iV cl', iV sq', .slice (some ⟨x24, 0, none⟩) n1' d24, .bool g', .slice (some ⟨y24, 0, none⟩) n2' (n2' + 12), .slice (some ⟨z24, 0, none⟩) n3' (n3' + 12)], .agg #[.string s, iV cl, iV sq, .slice (some ⟨x22, 0, none⟩) n1 d22, .bool g, .slice (some ⟨y22, 0, none⟩) n2 (n2 + 12), .slice (some ⟨z22, 0, none⟩) n3 (n3 + 12)]] w' fun e w'' => e = .returned (.bool pp) ∧ w'.grownBy w'' none) := fun w' hg => by
            have h := rover_any rb ra _ _ w' _ _ (HR.out.2.2.2.stay (gb_trans hg59 hg)) (HR.out.2.2.1.stay (gb_trans hg59 hg))
            rw [HVA.out, HVB.out, ← hpp] at h; exact h
          have HO4 : Hid (∀ w', w9.grownBy w' none → Calls Tryz.prog 40 #[.agg #[.string s', iV cl', iV sq', .slice a1' n1' c1', .bool g', .slice a2' n2' c2', .slice a3' n3' c3'], .agg #[.string s, iV cl, iV sq, .slice a1 n1 c1, .bool g, .slice a2 n2 c2, .slice a3 n3 c3]] w' fun e w'' => e = .returned (.bool pp) ∧ w'.grownBy w'' none) := fun w' hg => by
            have h := refOver_any rb ra _ _ w' _ _ (HR.out.2.1.stay (gb_trans hg59 hg)) (HR.out.1.stay (gb_trans hg59 hg))
            rw [HVA.out, HVB.out, ← hpp] at h; exact h
          clear hbb hoo hpp hg59
          go_wp2_with fail
          refine Fg.region_t [] [.any, .any, .any, .any, .any, .any, .any, .any, .any, .any, .any, .any, .any, .any, .any, .any, .any, .any, .any, .any, .any, .any, .any, .any, .any, .any, .any, .any, .any, .any, .any, .any, .any, .any, .any, .any, .any, .any, .any, .val (Value.agg #[.string s, iV cl, iV sq, .slice (some ⟨x22, 0, none⟩) n1 d22, .bool g, .slice (some ⟨y22, 0, none⟩) n2 (n2 + 12), .slice (some ⟨z22, 0, none⟩) n3 (n3 + 12)]), .val (Value.bool bb), .val (Value.agg #[.string s, iV cl, iV sq, .slice a1 n1 c1, .bool g, .slice a2 n2 c2, .slice a3 n3 c3]), .val (Value.bool bb), .val (Value.bool false), .val (Value.bool false), .val (Value.slice ta T.length tc), .val (Value.agg #[.string s, iV cl, iV sq, .slice a1 n1 c1, .bool g, .slice a2 n2 c2, .slice a3 n3 c3]), Fg.It.by T, .val (Value.bool true), .val (Value.bool false), .val (Value.bool false), .val (Value.bool false), .val (Value.int .i64 ee), .val (Value.int .i64 ee), .val (Value.bool false), .val (Value.bool false), .val (Value.bool false), .val (Value.slice pa P.length pc), .val (Value.slice ad P.length cd), .val (Value.bool true), .val (Value.bool false), .val (Value.bool false), .val (Value.bool false), .val (Value.agg #[.string s, iV cl, iV sq, .slice (some ⟨x22, 0, none⟩) n1 d22, .bool g, .slice (some ⟨y22, 0, none⟩) n2 (n2 + 12), .slice (some ⟨z22, 0, none⟩) n3 (n3 + 12)]), .val (Value.agg #[.string s', iV cl', iV sq', .slice (some ⟨x24, 0, none⟩) n1' d24, .bool g', .slice (some ⟨y24, 0, none⟩) n2' (n2' + 12), .slice (some ⟨z24, 0, none⟩) n3' (n3' + 12)]), .val (Value.bool oo), .val (Value.agg #[.string s, iV cl, iV sq, .slice a1 n1 c1, .bool g, .slice a2 n2 c2, .slice a3 n3 c3]), .val (Value.agg #[.string s', iV cl', iV sq', .slice a1' n1' c1', .bool g', .slice a2' n2' c2', .slice a3' n3' c3']), .val (Value.bool oo), .val (Value.bool false), .val (Value.bool false), .val (Value.bool false), .val (Value.agg #[.string s', iV cl', iV sq', .slice (some ⟨x24, 0, none⟩) n1' d24, .bool g', .slice (some ⟨y24, 0, none⟩) n2' (n2' + 12), .slice (some ⟨z24, 0, none⟩) n3' (n3' + 12)]), .val (Value.agg #[.string s, iV cl, iV sq, .slice (some ⟨x22, 0, none⟩) n1 d22, .bool g, .slice (some ⟨y22, 0, none⟩) n2 (n2 + 12), .slice (some ⟨z22, 0, none⟩) n3 (n3 + 12)]), .val (Value.bool pp), .val (Value.agg #[.string s', iV cl', iV sq', .slice a1' n1' c1', .bool g', .slice a2' n2' c2', .slice a3' n3' c3']), .val (Value.agg #[.string s, iV cl, iV sq, .slice a1 n1 c1, .bool g, .slice a2 n2 c2, .slice a3 n3 c3]), .val (Value.bool pp), .val (Value.bool false), .val (Value.bool false)] w9 41 (gb_refl _ _) (by kernel_rfl) (by kernel_rfl) (by kernel_rfl) (by kernel_rfl) (by decide) (by kernel_rfl) ?_ ?_
          · refine ⟨Fg.vT rfl (by decide) fun ac w h => ?_, ?_⟩
            · have e5 : ac.tmps.getD 5 undef = Value.pointer (some ⟨N5, 0, none⟩) := h.rest 5 (by kernel_rfl)
              have hbx := H9.out.2.1.grown h.base (by simp)
              have m0 := hbx.cell (i := 0) rfl
              have m1 := hbx.cell (i := 1) rfl
              have m2 := hbx.cell (i := 2) rfl
              have m3 := hbx.cell (i := 3) rfl
              have m4 := hbx.cell (i := 4) rfl
              have m5 := hbx.cell (i := 5) rfl
              have m6 := hbx.cell (i := 6) rfl
              refine ⟨Value.agg #[.string s, iV cl, iV sq, .slice (some ⟨x22, 0, none⟩) n1 d22, .bool g, .slice (some ⟨y22, 0, none⟩) n2 (n2 + 12), .slice (some ⟨z22, 0, none⟩) n3 (n3 + 12)], w, wants_none rfl, ?_, gb_refl _ _, rfl⟩
              clear h
              simp only [execOp, Act.eval, e5]
              go_simp
            refine ⟨Fg.cT rfl (by decide) fun ac w h => ?_, ?_⟩
            · have e39 : ac.tmps.getD 39 undef = Value.agg #[.string s, iV cl, iV sq, .slice (some ⟨x22, 0, none⟩) n1 d22, .bool g, .slice (some ⟨y22, 0, none⟩) n2 (n2 + 12), .slice (some ⟨z22, 0, none⟩) n3 (n3 + 12)] := h.dep 39 (by kernel_rfl)
              refine ⟨36, #[Value.agg #[.string s, iV cl, iV sq, .slice (some ⟨x22, 0, none⟩) n1 d22, .bool g, .slice (some ⟨y22, 0, none⟩) n2 (n2 + 12), .slice (some ⟨z22, 0, none⟩) n3 (n3 + 12)]], wants_none rfl, Fg.run_call rfl rfl (by simp only [List.map_toArray, List.map_cons, List.map_nil, Act.eval, e39]) (Fg.run_enter Tryz.func36 (by kernel_rfl) (by kernel_rfl)), ?_⟩
              exact (HQ1.out w h.base).mono fun _ _ ⟨he, hg⟩ => ⟨_, he, hg, rfl⟩
            refine ⟨Fg.vT rfl (by decide) fun ac w h => ?_, ?_⟩
            · have e2 : ac.tmps.getD 2 undef = Value.pointer (some ⟨M1, 0, none⟩) := h.rest 2 (by kernel_rfl)
              have hbx := H9.out.2.2.2.1.grown h.base (by simp)
              have m0 := hbx.cell (i := 0) rfl
              have m1 := hbx.cell (i := 1) rfl
              have m2 := hbx.cell (i := 2) rfl
              have m3 := hbx.cell (i := 3) rfl
              have m4 := hbx.cell (i := 4) rfl
              have m5 := hbx.cell (i := 5) rfl
              have m6 := hbx.cell (i := 6) rfl
              refine ⟨Value.agg #[.string s, iV cl, iV sq, .slice a1 n1 c1, .bool g, .slice a2 n2 c2, .slice a3 n3 c3], w, wants_none rfl, ?_, gb_refl _ _, rfl⟩
              clear h
              simp only [execOp, Act.eval, e2]
              go_simp
            refine ⟨Fg.cT rfl (by decide) fun ac w h => ?_, ?_⟩
            · have e41 : ac.tmps.getD 41 undef = Value.agg #[.string s, iV cl, iV sq, .slice a1 n1 c1, .bool g, .slice a2 n2 c2, .slice a3 n3 c3] := h.dep 41 (by kernel_rfl)
              refine ⟨37, #[Value.agg #[.string s, iV cl, iV sq, .slice a1 n1 c1, .bool g, .slice a2 n2 c2, .slice a3 n3 c3]], wants_none rfl, Fg.run_call rfl rfl (by simp only [List.map_toArray, List.map_cons, List.map_nil, Act.eval, e41]) (Fg.run_enter Tryz.func37 (by kernel_rfl) (by kernel_rfl)), ?_⟩
              exact (HQ2.out w h.base).mono fun _ _ ⟨he, hg⟩ => ⟨_, he, hg, rfl⟩
            refine ⟨Fg.vT rfl (by decide) fun ac w h => ?_, ?_⟩
            · have e40 : ac.tmps.getD 40 undef = Value.bool bb := h.dep 40 (by kernel_rfl)
              have e42 : ac.tmps.getD 42 undef = Value.bool bb := h.dep 42 (by kernel_rfl)
              have hz : (bb == bb) = true := by simp
              refine ⟨.bool false, w, wants_none rfl, ?_, gb_refl _ _, rfl⟩
              clear h
              simp only [execOp, Act.eval, e40, e42]
              go_simp
            refine ⟨Fg.vT rfl (by decide) fun ac w h => ?_, ?_⟩
            · have e43 : ac.tmps.getD 43 undef = Value.bool false := h.dep 43 (by kernel_rfl)
              exact ⟨_, w, wants_none rfl, Fg.run_move rfl e43, gb_refl _ _, rfl⟩
            refine ⟨Fg.vT rfl (by decide) fun ac w h => ?_, ?_⟩
            · have e44 : ac.tmps.getD 44 undef = Value.bool false := h.dep 44 (by kernel_rfl)
              have e7 : ac.tmps.getD 7 undef = Value.slice ta T.length tc := h.rest 7 (by kernel_rfl)
              exact ⟨_, w, wants_some (d := 44) rfl rfl (by rw [h.size]; show 44 < 95; decide) e44, Fg.run_move rfl e7, gb_refl _ _, rfl⟩
            refine ⟨Fg.vT rfl (by decide) fun ac w h => ?_, ?_⟩
            · have e44 : ac.tmps.getD 44 undef = Value.bool false := h.dep 44 (by kernel_rfl)
              have e2 : ac.tmps.getD 2 undef = Value.pointer (some ⟨M1, 0, none⟩) := h.rest 2 (by kernel_rfl)
              have hbx := H9.out.2.2.2.1.grown h.base (by simp)
              have m0 := hbx.cell (i := 0) rfl
              have m1 := hbx.cell (i := 1) rfl
              have m2 := hbx.cell (i := 2) rfl
              have m3 := hbx.cell (i := 3) rfl
              have m4 := hbx.cell (i := 4) rfl
              have m5 := hbx.cell (i := 5) rfl
              have m6 := hbx.cell (i := 6) rfl
              refine ⟨Value.agg #[.string s, iV cl, iV sq, .slice a1 n1 c1, .bool g, .slice a2 n2 c2, .slice a3 n3 c3], w, wants_some (d := 44) rfl rfl (by rw [h.size]; show 44 < 95; decide) e44, ?_, gb_refl _ _, rfl⟩
              clear h
              simp only [execOp, Act.eval, e2]
              go_simp
            refine ⟨Fg.cT rfl (by decide) fun ac w h => ?_, ?_⟩
            · have e44 : ac.tmps.getD 44 undef = Value.bool false := h.dep 44 (by kernel_rfl)
              have e46 : ac.tmps.getD 46 undef = Value.agg #[.string s, iV cl, iV sq, .slice a1 n1 c1, .bool g, .slice a2 n2 c2, .slice a3 n3 c3] := h.dep 46 (by kernel_rfl)
              refine ⟨38, #[Value.agg #[.string s, iV cl, iV sq, .slice a1 n1 c1, .bool g, .slice a2 n2 c2, .slice a3 n3 c3]], wants_some (d := 44) rfl rfl (by rw [h.size]; show 44 < 95; decide) e44, Fg.run_call rfl rfl (by simp only [List.map_toArray, List.map_cons, List.map_nil, Act.eval, e46]) (Fg.run_enter Tryz.func38 (by kernel_rfl) (by kernel_rfl)), ?_⟩
              exact (HQ3.out w h.base).mono fun _ _ ⟨_, _, he, hg, hb⟩ => ⟨_, he, hg, _, _, _, rfl, hb⟩
            refine ⟨Fg.cT rfl (by decide) fun ac w h => ?_, ?_⟩
            · have e44 : ac.tmps.getD 44 undef = Value.bool false := h.dep 44 (by kernel_rfl)
              have e45 : ac.tmps.getD 45 undef = Value.slice ta T.length tc := h.dep 45 (by kernel_rfl)
              obtain ⟨a47, k47, B47, e47, b47⟩ : ∃ xa xc xB, ac.tmps.getD 47 undef = .slice xa T.length xc ∧ BytesAt w xB xa xc T := h.dep 47 (by kernel_rfl)
              refine ⟨11, #[Value.slice ta T.length tc, Value.slice a47 T.length k47], wants_some (d := 44) rfl rfl (by rw [h.size]; show 44 < 95; decide) e44, Fg.run_call rfl rfl (by simp only [List.map_toArray, List.map_cons, List.map_nil, Act.eval, e45, e47]) (Fg.run_enter Tryz.func11 (by kernel_rfl) (by kernel_rfl)), ?_⟩
              exact (HQ4.out w a47 k47 B47 h.base b47).mono fun _ _ ⟨he, hg⟩ => ⟨_, he, hg, rfl⟩
            refine ⟨Fg.vT rfl (by decide) fun ac w h => ?_, ?_⟩
            · have e44 : ac.tmps.getD 44 undef = Value.bool false := h.dep 44 (by kernel_rfl)
              have e48 : ac.tmps.getD 48 undef = Value.bool true := h.dep 48 (by kernel_rfl)
              refine ⟨Value.bool false, w, wants_some (d := 44) rfl rfl (by rw [h.size]; show 44 < 95; decide) e44, ?_, gb_refl _ _, rfl⟩
              clear h
              simp only [execOp, Act.eval, e48]
              go_simp
            refine ⟨Fg.vT rfl (by decide) fun ac w h => ?_, ?_⟩
            · have e44 : ac.tmps.getD 44 undef = Value.bool false := h.dep 44 (by kernel_rfl)
              have e49 : ac.tmps.getD 49 undef = Value.bool false := h.dep 49 (by kernel_rfl)
              refine ⟨Value.bool false, w, wants_none rfl, ?_, gb_refl _ _, rfl⟩
              clear h
              simp only [execOp, Act.eval, e44, e49]
              go_simp
            refine ⟨Fg.vT rfl (by decide) fun ac w h => ?_, ?_⟩
            · have e50 : ac.tmps.getD 50 undef = Value.bool false := h.dep 50 (by kernel_rfl)
              exact ⟨_, w, wants_none rfl, Fg.run_move rfl e50, gb_refl _ _, rfl⟩
            refine ⟨Fg.vT rfl (by decide) fun ac w h => ?_, ?_⟩
            · have e51 : ac.tmps.getD 51 undef = Value.bool false := h.dep 51 (by kernel_rfl)
              have e10 : ac.tmps.getD 10 undef = Value.int .i64 ee := h.rest 10 (by kernel_rfl)
              exact ⟨_, w, wants_some (d := 51) rfl rfl (by rw [h.size]; show 51 < 95; decide) e51, Fg.run_move rfl e10, gb_refl _ _, rfl⟩
            refine ⟨Fg.vT rfl (by decide) fun ac w h => ?_, ?_⟩
            · have e51 : ac.tmps.getD 51 undef = Value.bool false := h.dep 51 (by kernel_rfl)
              have e12 : ac.tmps.getD 12 undef = Value.int .i64 ee := h.rest 12 (by kernel_rfl)
              exact ⟨_, w, wants_some (d := 51) rfl rfl (by rw [h.size]; show 51 < 95; decide) e51, Fg.run_move rfl e12, gb_refl _ _, rfl⟩
            refine ⟨Fg.vT rfl (by decide) fun ac w h => ?_, ?_⟩
            · have e51 : ac.tmps.getD 51 undef = Value.bool false := h.dep 51 (by kernel_rfl)
              have e52 : ac.tmps.getD 52 undef = Value.int .i64 ee := h.dep 52 (by kernel_rfl)
              have e53 : ac.tmps.getD 53 undef = Value.int .i64 ee := h.dep 53 (by kernel_rfl)
              have hz : (ee == ee) = true := by simp
              refine ⟨.bool false, w, wants_some (d := 51) rfl rfl (by rw [h.size]; show 51 < 95; decide) e51, ?_, gb_refl _ _, rfl⟩
              clear h
              simp only [execOp, Act.eval, e52, e53]
              go_simp
            refine ⟨Fg.vT rfl (by decide) fun ac w h => ?_, ?_⟩
            · have e51 : ac.tmps.getD 51 undef = Value.bool false := h.dep 51 (by kernel_rfl)
              have e54 : ac.tmps.getD 54 undef = Value.bool false := h.dep 54 (by kernel_rfl)
              refine ⟨Value.bool false, w, wants_none rfl, ?_, gb_refl _ _, rfl⟩
              clear h
              simp only [execOp, Act.eval, e51, e54]
              go_simp
            refine ⟨Fg.vT rfl (by decide) fun ac w h => ?_, ?_⟩
            · have e55 : ac.tmps.getD 55 undef = Value.bool false := h.dep 55 (by kernel_rfl)
              exact ⟨_, w, wants_none rfl, Fg.run_move rfl e55, gb_refl _ _, rfl⟩
            refine ⟨Fg.vT rfl (by decide) fun ac w h => ?_, ?_⟩
            · have e56 : ac.tmps.getD 56 undef = Value.bool false := h.dep 56 (by kernel_rfl)
              have e9 : ac.tmps.getD 9 undef = Value.slice pa P.length pc := h.rest 9 (by kernel_rfl)
              exact ⟨_, w, wants_some (d := 56) rfl rfl (by rw [h.size]; show 56 < 95; decide) e56, Fg.run_move rfl e9, gb_refl _ _, rfl⟩
            refine ⟨Fg.vT rfl (by decide) fun ac w h => ?_, ?_⟩
            · have e56 : ac.tmps.getD 56 undef = Value.bool false := h.dep 56 (by kernel_rfl)
              have e11 : ac.tmps.getD 11 undef = Value.slice ad P.length cd := h.rest 11 (by kernel_rfl)
              exact ⟨_, w, wants_some (d := 56) rfl rfl (by rw [h.size]; show 56 < 95; decide) e56, Fg.run_move rfl e11, gb_refl _ _, rfl⟩
            refine ⟨Fg.cT rfl (by decide) fun ac w h => ?_, ?_⟩
            · have e56 : ac.tmps.getD 56 undef = Value.bool false := h.dep 56 (by kernel_rfl)
              have e57 : ac.tmps.getD 57 undef = Value.slice pa P.length pc := h.dep 57 (by kernel_rfl)
              have e58 : ac.tmps.getD 58 undef = Value.slice ad P.length cd := h.dep 58 (by kernel_rfl)
              refine ⟨11, #[Value.slice pa P.length pc, Value.slice ad P.length cd], wants_some (d := 56) rfl rfl (by rw [h.size]; show 56 < 95; decide) e56, Fg.run_call rfl rfl (by simp only [List.map_toArray, List.map_cons, List.map_nil, Act.eval, e57, e58]) (Fg.run_enter Tryz.func11 (by kernel_rfl) (by kernel_rfl)), ?_⟩
              exact (HQ5.out w h.base).mono fun _ _ ⟨he, hg⟩ => ⟨_, he, hg, rfl⟩
            refine ⟨Fg.vT rfl (by decide) fun ac w h => ?_, ?_⟩
            · have e56 : ac.tmps.getD 56 undef = Value.bool false := h.dep 56 (by kernel_rfl)
              have e59 : ac.tmps.getD 59 undef = Value.bool true := h.dep 59 (by kernel_rfl)
              refine ⟨Value.bool false, w, wants_some (d := 56) rfl rfl (by rw [h.size]; show 56 < 95; decide) e56, ?_, gb_refl _ _, rfl⟩
              clear h
              simp only [execOp, Act.eval, e59]
              go_simp
            refine ⟨Fg.vT rfl (by decide) fun ac w h => ?_, ?_⟩
            · have e56 : ac.tmps.getD 56 undef = Value.bool false := h.dep 56 (by kernel_rfl)
              have e60 : ac.tmps.getD 60 undef = Value.bool false := h.dep 60 (by kernel_rfl)
              refine ⟨Value.bool false, w, wants_none rfl, ?_, gb_refl _ _, rfl⟩
              clear h
              simp only [execOp, Act.eval, e56, e60]
              go_simp
            refine ⟨Fg.vT rfl (by decide) fun ac w h => ?_, ?_⟩
            · have e61 : ac.tmps.getD 61 undef = Value.bool false := h.dep 61 (by kernel_rfl)
              exact ⟨_, w, wants_none rfl, Fg.run_move rfl e61, gb_refl _ _, rfl⟩
            refine ⟨Fg.vT rfl (by decide) fun ac w h => ?_, ?_⟩
            · have e62 : ac.tmps.getD 62 undef = Value.bool false := h.dep 62 (by kernel_rfl)
              have e5 : ac.tmps.getD 5 undef = Value.pointer (some ⟨N5, 0, none⟩) := h.rest 5 (by kernel_rfl)
              have hbx := H9.out.2.1.grown h.base (by simp)
              have m0 := hbx.cell (i := 0) rfl
              have m1 := hbx.cell (i := 1) rfl
              have m2 := hbx.cell (i := 2) rfl
              have m3 := hbx.cell (i := 3) rfl
              have m4 := hbx.cell (i := 4) rfl
              have m5 := hbx.cell (i := 5) rfl
              have m6 := hbx.cell (i := 6) rfl
              refine ⟨Value.agg #[.string s, iV cl, iV sq, .slice (some ⟨x22, 0, none⟩) n1 d22, .bool g, .slice (some ⟨y22, 0, none⟩) n2 (n2 + 12), .slice (some ⟨z22, 0, none⟩) n3 (n3 + 12)], w, wants_some (d := 62) rfl rfl (by rw [h.size]; show 62 < 95; decide) e62, ?_, gb_refl _ _, rfl⟩
              clear h
              simp only [execOp, Act.eval, e5]
              go_simp
            refine ⟨Fg.vT rfl (by decide) fun ac w h => ?_, ?_⟩
            · have e62 : ac.tmps.getD 62 undef = Value.bool false := h.dep 62 (by kernel_rfl)
              have e6 : ac.tmps.getD 6 undef = Value.pointer (some ⟨N6, 0, none⟩) := h.rest 6 (by kernel_rfl)
              have hbx := H9.out.2.2.1.grown h.base (by simp)
              have m0 := hbx.cell (i := 0) rfl
              have m1 := hbx.cell (i := 1) rfl
              have m2 := hbx.cell (i := 2) rfl
              have m3 := hbx.cell (i := 3) rfl
              have m4 := hbx.cell (i := 4) rfl
              have m5 := hbx.cell (i := 5) rfl
              have m6 := hbx.cell (i := 6) rfl
              refine ⟨Value.agg #[.string s', iV cl', iV sq', .slice (some ⟨x24, 0, none⟩) n1' d24, .bool g', .slice (some ⟨y24, 0, none⟩) n2' (n2' + 12), .slice (some ⟨z24, 0, none⟩) n3' (n3' + 12)], w, wants_some (d := 62) rfl rfl (by rw [h.size]; show 62 < 95; decide) e62, ?_, gb_refl _ _, rfl⟩
              clear h
              simp only [execOp, Act.eval, e6]
              go_simp
            refine ⟨Fg.cT rfl (by decide) fun ac w h => ?_, ?_⟩
            · have e62 : ac.tmps.getD 62 undef = Value.bool false := h.dep 62 (by kernel_rfl)
              have e63 : ac.tmps.getD 63 undef = Value.agg #[.string s, iV cl, iV sq, .slice (some ⟨x22, 0, none⟩) n1 d22, .bool g, .slice (some ⟨y22, 0, none⟩) n2 (n2 + 12), .slice (some ⟨z22, 0, none⟩) n3 (n3 + 12)] := h.dep 63 (by kernel_rfl)
              have e64 : ac.tmps.getD 64 undef = Value.agg #[.string s', iV cl', iV sq', .slice (some ⟨x24, 0, none⟩) n1' d24, .bool g', .slice (some ⟨y24, 0, none⟩) n2' (n2' + 12), .slice (some ⟨z24, 0, none⟩) n3' (n3' + 12)] := h.dep 64 (by kernel_rfl)
              refine ⟨39, #[Value.agg #[.string s, iV cl, iV sq, .slice (some ⟨x22, 0, none⟩) n1 d22, .bool g, .slice (some ⟨y22, 0, none⟩) n2 (n2 + 12), .slice (some ⟨z22, 0, none⟩) n3 (n3 + 12)], Value.agg #[.string s', iV cl', iV sq', .slice (some ⟨x24, 0, none⟩) n1' d24, .bool g', .slice (some ⟨y24, 0, none⟩) n2' (n2' + 12), .slice (some ⟨z24, 0, none⟩) n3' (n3' + 12)]], wants_some (d := 62) rfl rfl (by rw [h.size]; show 62 < 95; decide) e62, Fg.run_call rfl rfl (by simp only [List.map_toArray, List.map_cons, List.map_nil, Act.eval, e63, e64]) (Fg.run_enter Tryz.func39 (by kernel_rfl) (by kernel_rfl)), ?_⟩
              exact (HO1.out w h.base).mono fun _ _ ⟨he, hg⟩ => ⟨_, he, hg, rfl⟩
            refine ⟨Fg.vT rfl (by decide) fun ac w h => ?_, ?_⟩
            · have e62 : ac.tmps.getD 62 undef = Value.bool false := h.dep 62 (by kernel_rfl)
              have e2 : ac.tmps.getD 2 undef = Value.pointer (some ⟨M1, 0, none⟩) := h.rest 2 (by kernel_rfl)
              have hbx := H9.out.2.2.2.1.grown h.base (by simp)
              have m0 := hbx.cell (i := 0) rfl
              have m1 := hbx.cell (i := 1) rfl
              have m2 := hbx.cell (i := 2) rfl
              have m3 := hbx.cell (i := 3) rfl
              have m4 := hbx.cell (i := 4) rfl
              have m5 := hbx.cell (i := 5) rfl
              have m6 := hbx.cell (i := 6) rfl
              refine ⟨Value.agg #[.string s, iV cl, iV sq, .slice a1 n1 c1, .bool g, .slice a2 n2 c2, .slice a3 n3 c3], w, wants_some (d := 62) rfl rfl (by rw [h.size]; show 62 < 95; decide) e62, ?_, gb_refl _ _, rfl⟩
              clear h
              simp only [execOp, Act.eval, e2]
              go_simp
            refine ⟨Fg.vT rfl (by decide) fun ac w h => ?_, ?_⟩
            · have e62 : ac.tmps.getD 62 undef = Value.bool false := h.dep 62 (by kernel_rfl)
              have e3 : ac.tmps.getD 3 undef = Value.pointer (some ⟨M2, 0, none⟩) := h.rest 3 (by kernel_rfl)
              have hbx := H9.out.2.2.2.2.grown h.base (by simp)
              have m0 := hbx.cell (i := 0) rfl
              have m1 := hbx.cell (i := 1) rfl
              have m2 := hbx.cell (i := 2) rfl
              have m3 := hbx.cell (i := 3) rfl
              have m4 := hbx.cell (i := 4) rfl
              have m5 := hbx.cell (i := 5) rfl
              have m6 := hbx.cell (i := 6) rfl
              refine ⟨Value.agg #[.string s', iV cl', iV sq', .slice a1' n1' c1', .bool g', .slice a2' n2' c2', .slice a3' n3' c3'], w, wants_some (d := 62) rfl rfl (by rw [h.size]; show 62 < 95; decide) e62, ?_, gb_refl _ _, rfl⟩
              clear h
              simp only [execOp, Act.eval, e3]
              go_simp
            refine ⟨Fg.cT rfl (by decide) fun ac w h => ?_, ?_⟩
            · have e62 : ac.tmps.getD 62 undef = Value.bool false := h.dep 62 (by kernel_rfl)
              have e66 : ac.tmps.getD 66 undef = Value.agg #[.string s, iV cl, iV sq, .slice a1 n1 c1, .bool g, .slice a2 n2 c2, .slice a3 n3 c3] := h.dep 66 (by kernel_rfl)
              have e67 : ac.tmps.getD 67 undef = Value.agg #[.string s', iV cl', iV sq', .slice a1' n1' c1', .bool g', .slice a2' n2' c2', .slice a3' n3' c3'] := h.dep 67 (by kernel_rfl)
              refine ⟨40, #[Value.agg #[.string s, iV cl, iV sq, .slice a1 n1 c1, .bool g, .slice a2 n2 c2, .slice a3 n3 c3], Value.agg #[.string s', iV cl', iV sq', .slice a1' n1' c1', .bool g', .slice a2' n2' c2', .slice a3' n3' c3']], wants_some (d := 62) rfl rfl (by rw [h.size]; show 62 < 95; decide) e62, Fg.run_call rfl rfl (by simp only [List.map_toArray, List.map_cons, List.map_nil, Act.eval, e66, e67]) (Fg.run_enter Tryz.func40 (by kernel_rfl) (by kernel_rfl)), ?_⟩
              exact (HO2.out w h.base).mono fun _ _ ⟨he, hg⟩ => ⟨_, he, hg, rfl⟩
            refine ⟨Fg.vT rfl (by decide) fun ac w h => ?_, ?_⟩
            · have e62 : ac.tmps.getD 62 undef = Value.bool false := h.dep 62 (by kernel_rfl)
              have e65 : ac.tmps.getD 65 undef = Value.bool oo := h.dep 65 (by kernel_rfl)
              have e68 : ac.tmps.getD 68 undef = Value.bool oo := h.dep 68 (by kernel_rfl)
              have hz : (oo == oo) = true := by simp
              refine ⟨.bool false, w, wants_some (d := 62) rfl rfl (by rw [h.size]; show 62 < 95; decide) e62, ?_, gb_refl _ _, rfl⟩
              clear h
              simp only [execOp, Act.eval, e65, e68]
              go_simp
            refine ⟨Fg.vT rfl (by decide) fun ac w h => ?_, ?_⟩
            · have e62 : ac.tmps.getD 62 undef = Value.bool false := h.dep 62 (by kernel_rfl)
              have e69 : ac.tmps.getD 69 undef = Value.bool false := h.dep 69 (by kernel_rfl)
              refine ⟨Value.bool false, w, wants_none rfl, ?_, gb_refl _ _, rfl⟩
              clear h
              simp only [execOp, Act.eval, e62, e69]
              go_simp
            refine ⟨Fg.vT rfl (by decide) fun ac w h => ?_, ?_⟩
            · have e70 : ac.tmps.getD 70 undef = Value.bool false := h.dep 70 (by kernel_rfl)
              exact ⟨_, w, wants_none rfl, Fg.run_move rfl e70, gb_refl _ _, rfl⟩
            refine ⟨Fg.vT rfl (by decide) fun ac w h => ?_, ?_⟩
            · have e71 : ac.tmps.getD 71 undef = Value.bool false := h.dep 71 (by kernel_rfl)
              have e6 : ac.tmps.getD 6 undef = Value.pointer (some ⟨N6, 0, none⟩) := h.rest 6 (by kernel_rfl)
              have hbx := H9.out.2.2.1.grown h.base (by simp)
              have m0 := hbx.cell (i := 0) rfl
              have m1 := hbx.cell (i := 1) rfl
              have m2 := hbx.cell (i := 2) rfl
              have m3 := hbx.cell (i := 3) rfl
              have m4 := hbx.cell (i := 4) rfl
              have m5 := hbx.cell (i := 5) rfl
              have m6 := hbx.cell (i := 6) rfl
              refine ⟨Value.agg #[.string s', iV cl', iV sq', .slice (some ⟨x24, 0, none⟩) n1' d24, .bool g', .slice (some ⟨y24, 0, none⟩) n2' (n2' + 12), .slice (some ⟨z24, 0, none⟩) n3' (n3' + 12)], w, wants_some (d := 71) rfl rfl (by rw [h.size]; show 71 < 95; decide) e71, ?_, gb_refl _ _, rfl⟩
              clear h
              simp only [execOp, Act.eval, e6]
              go_simp
            refine ⟨Fg.vT rfl (by decide) fun ac w h => ?_, ?_⟩
            · have e71 : ac.tmps.getD 71 undef = Value.bool false := h.dep 71 (by kernel_rfl)
              have e5 : ac.tmps.getD 5 undef = Value.pointer (some ⟨N5, 0, none⟩) := h.rest 5 (by kernel_rfl)
              have hbx := H9.out.2.1.grown h.base (by simp)
              have m0 := hbx.cell (i := 0) rfl
              have m1 := hbx.cell (i := 1) rfl
              have m2 := hbx.cell (i := 2) rfl
              have m3 := hbx.cell (i := 3) rfl
              have m4 := hbx.cell (i := 4) rfl
              have m5 := hbx.cell (i := 5) rfl
              have m6 := hbx.cell (i := 6) rfl
              refine ⟨Value.agg #[.string s, iV cl, iV sq, .slice (some ⟨x22, 0, none⟩) n1 d22, .bool g, .slice (some ⟨y22, 0, none⟩) n2 (n2 + 12), .slice (some ⟨z22, 0, none⟩) n3 (n3 + 12)], w, wants_some (d := 71) rfl rfl (by rw [h.size]; show 71 < 95; decide) e71, ?_, gb_refl _ _, rfl⟩
              clear h
              simp only [execOp, Act.eval, e5]
              go_simp
            refine ⟨Fg.cT rfl (by decide) fun ac w h => ?_, ?_⟩
            · have e71 : ac.tmps.getD 71 undef = Value.bool false := h.dep 71 (by kernel_rfl)
              have e72 : ac.tmps.getD 72 undef = Value.agg #[.string s', iV cl', iV sq', .slice (some ⟨x24, 0, none⟩) n1' d24, .bool g', .slice (some ⟨y24, 0, none⟩) n2' (n2' + 12), .slice (some ⟨z24, 0, none⟩) n3' (n3' + 12)] := h.dep 72 (by kernel_rfl)
              have e73 : ac.tmps.getD 73 undef = Value.agg #[.string s, iV cl, iV sq, .slice (some ⟨x22, 0, none⟩) n1 d22, .bool g, .slice (some ⟨y22, 0, none⟩) n2 (n2 + 12), .slice (some ⟨z22, 0, none⟩) n3 (n3 + 12)] := h.dep 73 (by kernel_rfl)
              refine ⟨39, #[Value.agg #[.string s', iV cl', iV sq', .slice (some ⟨x24, 0, none⟩) n1' d24, .bool g', .slice (some ⟨y24, 0, none⟩) n2' (n2' + 12), .slice (some ⟨z24, 0, none⟩) n3' (n3' + 12)], Value.agg #[.string s, iV cl, iV sq, .slice (some ⟨x22, 0, none⟩) n1 d22, .bool g, .slice (some ⟨y22, 0, none⟩) n2 (n2 + 12), .slice (some ⟨z22, 0, none⟩) n3 (n3 + 12)]], wants_some (d := 71) rfl rfl (by rw [h.size]; show 71 < 95; decide) e71, Fg.run_call rfl rfl (by simp only [List.map_toArray, List.map_cons, List.map_nil, Act.eval, e72, e73]) (Fg.run_enter Tryz.func39 (by kernel_rfl) (by kernel_rfl)), ?_⟩
              exact (HO3.out w h.base).mono fun _ _ ⟨he, hg⟩ => ⟨_, he, hg, rfl⟩
            refine ⟨Fg.vT rfl (by decide) fun ac w h => ?_, ?_⟩
            · have e71 : ac.tmps.getD 71 undef = Value.bool false := h.dep 71 (by kernel_rfl)
              have e3 : ac.tmps.getD 3 undef = Value.pointer (some ⟨M2, 0, none⟩) := h.rest 3 (by kernel_rfl)
              have hbx := H9.out.2.2.2.2.grown h.base (by simp)
              have m0 := hbx.cell (i := 0) rfl
              have m1 := hbx.cell (i := 1) rfl
              have m2 := hbx.cell (i := 2) rfl
              have m3 := hbx.cell (i := 3) rfl
              have m4 := hbx.cell (i := 4) rfl
              have m5 := hbx.cell (i := 5) rfl
              have m6 := hbx.cell (i := 6) rfl
              refine ⟨Value.agg #[.string s', iV cl', iV sq', .slice a1' n1' c1', .bool g', .slice a2' n2' c2', .slice a3' n3' c3'], w, wants_some (d := 71) rfl rfl (by rw [h.size]; show 71 < 95; decide) e71, ?_, gb_refl _ _, rfl⟩
              clear h
              simp only [execOp, Act.eval, e3]
              go_simp
            refine ⟨Fg.vT rfl (by decide) fun ac w h => ?_, ?_⟩
            · have e71 : ac.tmps.getD 71 undef = Value.bool false := h.dep 71 (by kernel_rfl)
              have e2 : ac.tmps.getD 2 undef = Value.pointer (some ⟨M1, 0, none⟩) := h.rest 2 (by kernel_rfl)
              have hbx := H9.out.2.2.2.1.grown h.base (by simp)
              have m0 := hbx.cell (i := 0) rfl
              have m1 := hbx.cell (i := 1) rfl
              have m2 := hbx.cell (i := 2) rfl
              have m3 := hbx.cell (i := 3) rfl
              have m4 := hbx.cell (i := 4) rfl
              have m5 := hbx.cell (i := 5) rfl
              have m6 := hbx.cell (i := 6) rfl
              refine ⟨Value.agg #[.string s, iV cl, iV sq, .slice a1 n1 c1, .bool g, .slice a2 n2 c2, .slice a3 n3 c3], w, wants_some (d := 71) rfl rfl (by rw [h.size]; show 71 < 95; decide) e71, ?_, gb_refl _ _, rfl⟩
              clear h
              simp only [execOp, Act.eval, e2]
              go_simp
            refine ⟨Fg.cT rfl (by decide) fun ac w h => ?_, ?_⟩
            · have e71 : ac.tmps.getD 71 undef = Value.bool false := h.dep 71 (by kernel_rfl)
              have e75 : ac.tmps.getD 75 undef = Value.agg #[.string s', iV cl', iV sq', .slice a1' n1' c1', .bool g', .slice a2' n2' c2', .slice a3' n3' c3'] := h.dep 75 (by kernel_rfl)
              have e76 : ac.tmps.getD 76 undef = Value.agg #[.string s, iV cl, iV sq, .slice a1 n1 c1, .bool g, .slice a2 n2 c2, .slice a3 n3 c3] := h.dep 76 (by kernel_rfl)
              refine ⟨40, #[Value.agg #[.string s', iV cl', iV sq', .slice a1' n1' c1', .bool g', .slice a2' n2' c2', .slice a3' n3' c3'], Value.agg #[.string s, iV cl, iV sq, .slice a1 n1 c1, .bool g, .slice a2 n2 c2, .slice a3 n3 c3]], wants_some (d := 71) rfl rfl (by rw [h.size]; show 71 < 95; decide) e71, Fg.run_call rfl rfl (by simp only [List.map_toArray, List.map_cons, List.map_nil, Act.eval, e75, e76]) (Fg.run_enter Tryz.func40 (by kernel_rfl) (by kernel_rfl)), ?_⟩
              exact (HO4.out w h.base).mono fun _ _ ⟨he, hg⟩ => ⟨_, he, hg, rfl⟩
            refine ⟨Fg.vT rfl (by decide) fun ac w h => ?_, ?_⟩
            · have e71 : ac.tmps.getD 71 undef = Value.bool false := h.dep 71 (by kernel_rfl)
              have e74 : ac.tmps.getD 74 undef = Value.bool pp := h.dep 74 (by kernel_rfl)
              have e77 : ac.tmps.getD 77 undef = Value.bool pp := h.dep 77 (by kernel_rfl)
              have hz : (pp == pp) = true := by simp
              refine ⟨.bool false, w, wants_some (d := 71) rfl rfl (by rw [h.size]; show 71 < 95; decide) e71, ?_, gb_refl _ _, rfl⟩
              clear h
              simp only [execOp, Act.eval, e74, e77]
              go_simp
            refine ⟨Fg.vT rfl (by decide) fun ac w h => ?_, ?_⟩
            · have e71 : ac.tmps.getD 71 undef = Value.bool false := h.dep 71 (by kernel_rfl)
              have e78 : ac.tmps.getD 78 undef = Value.bool false := h.dep 78 (by kernel_rfl)
              refine ⟨Value.bool false, w, wants_none rfl, ?_, gb_refl _ _, rfl⟩
              clear h
              simp only [execOp, Act.eval, e71, e78]
              go_simp
            trivial
          · intro ar wr hB hsz hdf hrest hslots hpt
            obtain ⟨u0, e0⟩ : ∃ u, ar.tmps.getD 0 undef = u := ⟨_, rfl⟩
            obtain ⟨u1, e1⟩ : ∃ u, ar.tmps.getD 1 undef = u := ⟨_, rfl⟩
            obtain ⟨u4, e4⟩ : ∃ u, ar.tmps.getD 4 undef = u := ⟨_, rfl⟩
            obtain ⟨u10, e10⟩ : ∃ u, ar.tmps.getD 10 undef = u := ⟨_, rfl⟩
            obtain ⟨u11, e11⟩ : ∃ u, ar.tmps.getD 11 undef = u := ⟨_, rfl⟩
            obtain ⟨u12, e12⟩ : ∃ u, ar.tmps.getD 12 undef = u := ⟨_, rfl⟩
            obtain ⟨u13, e13⟩ : ∃ u, ar.tmps.getD 13 undef = u := ⟨_, rfl⟩
            obtain ⟨u14, e14⟩ : ∃ u, ar.tmps.getD 14 undef = u := ⟨_, rfl⟩
            obtain ⟨u15, e15⟩ : ∃ u, ar.tmps.getD 15 undef = u := ⟨_, rfl⟩
            obtain ⟨u16, e16⟩ : ∃ u, ar.tmps.getD 16 undef = u := ⟨_, rfl⟩
            obtain ⟨u17, e17⟩ : ∃ u, ar.tmps.getD 17 undef = u := ⟨_, rfl⟩
            obtain ⟨u18, e18⟩ : ∃ u, ar.tmps.getD 18 undef = u := ⟨_, rfl⟩
            obtain ⟨u19, e19⟩ : ∃ u, ar.tmps.getD 19 undef = u := ⟨_, rfl⟩
            obtain ⟨u20, e20⟩ : ∃ u, ar.tmps.getD 20 undef = u := ⟨_, rfl⟩
            obtain ⟨u21, e21⟩ : ∃ u, ar.tmps.getD 21 undef = u := ⟨_, rfl⟩
            obtain ⟨u22, e22⟩ : ∃ u, ar.tmps.getD 22 undef = u := ⟨_, rfl⟩
            obtain ⟨u23, e23⟩ : ∃ u, ar.tmps.getD 23 undef = u := ⟨_, rfl⟩
            obtain ⟨u24, e24⟩ : ∃ u, ar.tmps.getD 24 undef = u := ⟨_, rfl⟩
            obtain ⟨u25, e25⟩ : ∃ u, ar.tmps.getD 25 undef = u := ⟨_, rfl⟩
            obtain ⟨u26, e26⟩ : ∃ u, ar.tmps.getD 26 undef = u := ⟨_, rfl⟩
            obtain ⟨u27, e27⟩ : ∃ u, ar.tmps.getD 27 undef = u := ⟨_, rfl⟩
            obtain ⟨u28, e28⟩ : ∃ u, ar.tmps.getD 28 undef = u := ⟨_, rfl⟩
            obtain ⟨u29, e29⟩ : ∃ u, ar.tmps.getD 29 undef = u := ⟨_, rfl⟩
            obtain ⟨u30, e30⟩ : ∃ u, ar.tmps.getD 30 undef = u := ⟨_, rfl⟩
            obtain ⟨u31, e31⟩ : ∃ u, ar.tmps.getD 31 undef = u := ⟨_, rfl⟩
            obtain ⟨u32, e32⟩ : ∃ u, ar.tmps.getD 32 undef = u := ⟨_, rfl⟩
            obtain ⟨u33, e33⟩ : ∃ u, ar.tmps.getD 33 undef = u := ⟨_, rfl⟩
            obtain ⟨u34, e34⟩ : ∃ u, ar.tmps.getD 34 undef = u := ⟨_, rfl⟩
            obtain ⟨u35, e35⟩ : ∃ u, ar.tmps.getD 35 undef = u := ⟨_, rfl⟩
            obtain ⟨u36, e36⟩ : ∃ u, ar.tmps.getD 36 undef = u := ⟨_, rfl⟩
            obtain ⟨u37, e37⟩ : ∃ u, ar.tmps.getD 37 undef = u := ⟨_, rfl⟩
            obtain ⟨u38, e38⟩ : ∃ u, ar.tmps.getD 38 undef = u := ⟨_, rfl⟩
            obtain ⟨u39, e39⟩ : ∃ u, ar.tmps.getD 39 undef = u := ⟨_, rfl⟩
            obtain ⟨u40, e40⟩ : ∃ u, ar.tmps.getD 40 undef = u := ⟨_, rfl⟩
            obtain ⟨u41, e41⟩ : ∃ u, ar.tmps.getD 41 undef = u := ⟨_, rfl⟩
            obtain ⟨u42, e42⟩ : ∃ u, ar.tmps.getD 42 undef = u := ⟨_, rfl⟩
            obtain ⟨u43, e43⟩ : ∃ u, ar.tmps.getD 43 undef = u := ⟨_, rfl⟩
            obtain ⟨u44, e44⟩ : ∃ u, ar.tmps.getD 44 undef = u := ⟨_, rfl⟩
            obtain ⟨u45, e45⟩ : ∃ u, ar.tmps.getD 45 undef = u := ⟨_, rfl⟩
            obtain ⟨u46, e46⟩ : ∃ u, ar.tmps.getD 46 undef = u := ⟨_, rfl⟩
            obtain ⟨u47, e47⟩ : ∃ u, ar.tmps.getD 47 undef = u := ⟨_, rfl⟩
            obtain ⟨u48, e48⟩ : ∃ u, ar.tmps.getD 48 undef = u := ⟨_, rfl⟩
            obtain ⟨u49, e49⟩ : ∃ u, ar.tmps.getD 49 undef = u := ⟨_, rfl⟩
            obtain ⟨u50, e50⟩ : ∃ u, ar.tmps.getD 50 undef = u := ⟨_, rfl⟩
            obtain ⟨u51, e51⟩ : ∃ u, ar.tmps.getD 51 undef = u := ⟨_, rfl⟩
            obtain ⟨u52, e52⟩ : ∃ u, ar.tmps.getD 52 undef = u := ⟨_, rfl⟩
            obtain ⟨u53, e53⟩ : ∃ u, ar.tmps.getD 53 undef = u := ⟨_, rfl⟩
            obtain ⟨u54, e54⟩ : ∃ u, ar.tmps.getD 54 undef = u := ⟨_, rfl⟩
            obtain ⟨u55, e55⟩ : ∃ u, ar.tmps.getD 55 undef = u := ⟨_, rfl⟩
            obtain ⟨u56, e56⟩ : ∃ u, ar.tmps.getD 56 undef = u := ⟨_, rfl⟩
            obtain ⟨u57, e57⟩ : ∃ u, ar.tmps.getD 57 undef = u := ⟨_, rfl⟩
            obtain ⟨u58, e58⟩ : ∃ u, ar.tmps.getD 58 undef = u := ⟨_, rfl⟩
            obtain ⟨u59, e59⟩ : ∃ u, ar.tmps.getD 59 undef = u := ⟨_, rfl⟩
            obtain ⟨u60, e60⟩ : ∃ u, ar.tmps.getD 60 undef = u := ⟨_, rfl⟩
            obtain ⟨u61, e61⟩ : ∃ u, ar.tmps.getD 61 undef = u := ⟨_, rfl⟩
            obtain ⟨u62, e62⟩ : ∃ u, ar.tmps.getD 62 undef = u := ⟨_, rfl⟩
            obtain ⟨u63, e63⟩ : ∃ u, ar.tmps.getD 63 undef = u := ⟨_, rfl⟩
            obtain ⟨u64, e64⟩ : ∃ u, ar.tmps.getD 64 undef = u := ⟨_, rfl⟩
            obtain ⟨u65, e65⟩ : ∃ u, ar.tmps.getD 65 undef = u := ⟨_, rfl⟩
            obtain ⟨u66, e66⟩ : ∃ u, ar.tmps.getD 66 undef = u := ⟨_, rfl⟩
            obtain ⟨u67, e67⟩ : ∃ u, ar.tmps.getD 67 undef = u := ⟨_, rfl⟩
            obtain ⟨u68, e68⟩ : ∃ u, ar.tmps.getD 68 undef = u := ⟨_, rfl⟩
            obtain ⟨u69, e69⟩ : ∃ u, ar.tmps.getD 69 undef = u := ⟨_, rfl⟩
            obtain ⟨u70, e70⟩ : ∃ u, ar.tmps.getD 70 undef = u := ⟨_, rfl⟩
            obtain ⟨u71, e71⟩ : ∃ u, ar.tmps.getD 71 undef = u := ⟨_, rfl⟩
            obtain ⟨u72, e72⟩ : ∃ u, ar.tmps.getD 72 undef = u := ⟨_, rfl⟩
            obtain ⟨u73, e73⟩ : ∃ u, ar.tmps.getD 73 undef = u := ⟨_, rfl⟩
            obtain ⟨u74, e74⟩ : ∃ u, ar.tmps.getD 74 undef = u := ⟨_, rfl⟩
            obtain ⟨u75, e75⟩ : ∃ u, ar.tmps.getD 75 undef = u := ⟨_, rfl⟩
            obtain ⟨u76, e76⟩ : ∃ u, ar.tmps.getD 76 undef = u := ⟨_, rfl⟩
            obtain ⟨u77, e77⟩ : ∃ u, ar.tmps.getD 77 undef = u := ⟨_, rfl⟩
            obtain ⟨u78, e78⟩ : ∃ u, ar.tmps.getD 78 undef = u := ⟨_, rfl⟩
            have e79 : ar.tmps.getD 79 undef = Value.bool false := hslots 79 (by kernel_rfl)
            obtain ⟨u80, e80⟩ : ∃ u, ar.tmps.getD 80 undef = u := ⟨_, rfl⟩
            obtain ⟨u81, e81⟩ : ∃ u, ar.tmps.getD 81 undef = u := ⟨_, rfl⟩
            obtain ⟨u82, e82⟩ : ∃ u, ar.tmps.getD 82 undef = u := ⟨_, rfl⟩
            obtain ⟨u83, e83⟩ : ∃ u, ar.tmps.getD 83 undef = u := ⟨_, rfl⟩
            obtain ⟨u84, e84⟩ : ∃ u, ar.tmps.getD 84 undef = u := ⟨_, rfl⟩
            obtain ⟨u85, e85⟩ : ∃ u, ar.tmps.getD 85 undef = u := ⟨_, rfl⟩
            obtain ⟨u86, e86⟩ : ∃ u, ar.tmps.getD 86 undef = u := ⟨_, rfl⟩
            obtain ⟨u87, e87⟩ : ∃ u, ar.tmps.getD 87 undef = u := ⟨_, rfl⟩
            obtain ⟨u88, e88⟩ : ∃ u, ar.tmps.getD 88 undef = u := ⟨_, rfl⟩
            obtain ⟨u89, e89⟩ : ∃ u, ar.tmps.getD 89 undef = u := ⟨_, rfl⟩
            obtain ⟨u90, e90⟩ : ∃ u, ar.tmps.getD 90 undef = u := ⟨_, rfl⟩
            obtain ⟨u91, e91⟩ : ∃ u, ar.tmps.getD 91 undef = u := ⟨_, rfl⟩
            obtain ⟨u92, e92⟩ : ∃ u, ar.tmps.getD 92 undef = u := ⟨_, rfl⟩
            obtain ⟨u93, e93⟩ : ∃ u, ar.tmps.getD 93 undef = u := ⟨_, rfl⟩
            obtain ⟨u94, e94⟩ : ∃ u, ar.tmps.getD 94 undef = u := ⟨_, rfl⟩
            obtain rfl := Fg.frame_is (a := ar) (vs := [u0, u1, Value.pointer (some ⟨M1, 0, none⟩), Value.pointer (some ⟨M2, 0, none⟩), u4, Value.pointer (some ⟨N5, 0, none⟩), Value.pointer (some ⟨N6, 0, none⟩), Value.slice ta T.length tc, Value.slice ua T.length uc, Value.slice pa P.length pc, u10, u11, u12, u13, u14, u15, u16, u17, u18, u19, u20, u21, u22, u23, u24, u25, u26, u27, u28, u29, u30, u31, u32, u33, u34, u35, u36, u37, u38, u39, u40, u41, u42, u43, u44, u45, u46, u47, u48, u49, u50, u51, u52, u53, u54, u55, u56, u57, u58, u59, u60, u61, u62, u63, u64, u65, u66, u67, u68, u69, u70, u71, u72, u73, u74, u75, u76, u77, u78, Value.bool false, u80, u81, u82, u83, u84, u85, u86, u87, u88, u89, u90, u91, u92, u93, u94]) hsz ⟨e0, e1, hrest 2 (by kernel_rfl), hrest 3 (by kernel_rfl), e4, hrest 5 (by kernel_rfl), hrest 6 (by kernel_rfl), hrest 7 (by kernel_rfl), hrest 8 (by kernel_rfl), hrest 9 (by kernel_rfl), e10, e11, e12, e13, e14, e15, e16, e17, e18, e19, e20, e21, e22, e23, e24, e25, e26, e27, e28, e29, e30, e31, e32, e33, e34, e35, e36, e37, e38, e39, e40, e41, e42, e43, e44, e45, e46, e47, e48, e49, e50, e51, e52, e53, e54, e55, e56, e57, e58, e59, e60, e61, e62, e63, e64, e65, e66, e67, e68, e69, e70, e71, e72, e73, e74, e75, e76, e77, e78, e79, e80, e81, e82, e83, e84, e85, e86, e87, e88, e89, e90, e91, e92, e93, e94, trivial⟩ hdf
            clear hsz hdf hrest hslots hpt e0 e1 e4 e10 e11 e12 e13 e14 e15 e16 e17 e18 e19 e20 e21 e22 e23 e24 e25 e26 e27 e28 e29 e30 e31 e32 e33 e34 e35 e36 e37 e38 e39 e40 e41 e42 e43 e44 e45 e46 e47 e48 e49 e50 e51 e52 e53 e54 e55 e56 e57 e58 e59 e60 e61 e62 e63 e64 e65 e66 e67 e68 e69 e70 e71 e72 e73 e74 e75 e76 e77 e78 e79 e80 e81 e82 e83 e84 e85 e86 e87 e88 e89 e90 e91 e92 e93 e94
            have HK1 : Hid (∀ w', w9.grownBy w' none → Calls Tryz.prog 41 #[.agg #[.string s, iV cl, iV sq, .slice (some ⟨x22, 0, none⟩) n1 d22, .bool g, .slice (some ⟨y22, 0, none⟩) n2 (n2 + 12), .slice (some ⟨z22, 0, none⟩) n3 (n3 + 12)], .agg #[.string s, iV cl, iV sq, .slice a1 n1 c1, .bool g, .slice a2 n2 c2, .slice a3 n3 c3]] w' fun e w'' => e = .returned (.bool true) ∧ w'.grownBy w'' none) := fun w' hg => by
              have hg5 := gb_trans HBS.out.2.2.2 hg
              have h := keptRec_any HAB.out.1 ra _ w' _ (HR.out.1.stay hg5) HSZ.out.1 0 x22 d22 y22 z22 (HC.out.2.2.2.2.2.1.stay hg5)
              rw [HVA.out, HVA.out] at h; exact h
            have HK2 : Hid (∀ w', w9.grownBy w' none → Calls Tryz.prog 41 #[.agg #[.string s', iV cl', iV sq', .slice (some ⟨x24, 0, none⟩) n1' d24, .bool g', .slice (some ⟨y24, 0, none⟩) n2' (n2' + 12), .slice (some ⟨z24, 0, none⟩) n3' (n3' + 12)], .agg #[.string s', iV cl', iV sq', .slice a1' n1' c1', .bool g', .slice a2' n2' c2', .slice a3' n3' c3']] w' fun e w'' => e = .returned (.bool true) ∧ w'.grownBy w'' none) := fun w' hg => by
              have hg5 := gb_trans HBS.out.2.2.2 hg
              have h := keptRec_any HAB.out.1 rb _ w' _ (HR.out.2.1.stay hg5) HSZ.out.2 0 x24 d24 y24 z24 (HC.out.2.2.2.2.2.2.stay hg5)
              rw [HVB.out, HVB.out] at h; exact h
            have HGr := Lib.hid hB
            have c5 := H9.out.2.1.grown hB (by simp)
            have c1 := H9.out.2.2.2.1.grown hB (by simp)
            have m0 := c5.cell (i := 0) rfl
            have m1 := c5.cell (i := 1) rfl
            have m2 := c5.cell (i := 2) rfl
            have m3 := c5.cell (i := 3) rfl
            have m4 := c5.cell (i := 4) rfl
            have m5 := c5.cell (i := 5) rfl
            have m6 := c5.cell (i := 6) rfl
            have p0 := c1.cell (i := 0) rfl
            have p1 := c1.cell (i := 1) rfl
            have p2 := c1.cell (i := 2) rfl
            have p3 := c1.cell (i := 3) rfl
            have p4 := c1.cell (i := 4) rfl
            have p5 := c1.cell (i := 5) rfl
            have p6 := c1.cell (i := 6) rfl
            clear hB c5 c1
            refine wpList_nil ?_
            go_wp2_with fail
            refine (HK1.out wr HGr.out).mono ?_
            rintro e ws ⟨rfl, hg⟩
            have HGs := Lib.hid (gb_trans HGr.out hg)
            clear hg m0 m1 m2 m3 m4 m5 m6 p0 p1 p2 p3 p4 p5 p6
            have c6 := H9.out.2.2.1.grown HGs.out (by simp)
            have c2 := H9.out.2.2.2.2.grown HGs.out (by simp)
            have m0 := c6.cell (i := 0) rfl
            have m1 := c6.cell (i := 1) rfl
            have m2 := c6.cell (i := 2) rfl
            have m3 := c6.cell (i := 3) rfl
            have m4 := c6.cell (i := 4) rfl
            have m5 := c6.cell (i := 5) rfl
            have m6 := c6.cell (i := 6) rfl
            have p0 := c2.cell (i := 0) rfl
            have p1 := c2.cell (i := 1) rfl
            have p2 := c2.cell (i := 2) rfl
            have p3 := c2.cell (i := 3) rfl
            have p4 := c2.cell (i := 4) rfl
            have p5 := c2.cell (i := 5) rfl
            have p6 := c2.cell (i := 6) rfl
            clear c6 c2
            go_wp2_with fail
            refine (HK2.out ws HGs.out).mono ?_
            rintro e wt ⟨rfl, hg⟩
            have HGt := Lib.hid (gb_trans HGs.out hg)
            clear hg m0 m1 m2 m3 m4 m5 m6 p0 p1 p2 p3 p4 p5 p6
            have h59 := gb_trans HC.out.1 (gb_trans HBS.out.2.2.2 HGt.out)
            have HF : Hid (Calls Tryz.prog 17 #[.slice (some ⟨wt.heap.size, 0, none⟩) 3 3] (wt.alloc (.cells #[.slice ta T.length tc, .slice ua T.length uc, .slice pa P.length pc] 23)) fun e w' => e = .returned (.bool true) ∧ w.grownBy w' none) := by
              have hb : w.heap.size ≤ w5.heap.size := HC.out.1.size
              have e1 : ∀ (a : Option Addr) (n c : Nat), (Value.slice a n c).ownBlock = a.map (·.block) := fun a n c => by unfold Value.ownBlock; cases a <;> rfl
              have sh : ∀ {b n c : Nat} {a : Option Addr} {xs : List Value} {w' : World}, w'.ownsRow b 5 1 (.slice a n c) n xs → a = none ∨ ∃ x, a = some ⟨x, 0, none⟩ := fun h => by
                rcases own_shape h with ⟨e, _⟩ | ⟨g, c, e⟩
                · simp only [Value.slice.injEq] at e; exact Or.inl e.1
                · simp only [Value.slice.injEq] at e; exact Or.inr ⟨g, e.1⟩
              have k1 := own_kept HOW.out.1 HGt.out
              have k2 := own_kept HOW.out.2.1 HGt.out
              have k3 := own_kept HOW.out.2.2 HGt.out
              have hap := HAP.out
              refine apart3 HAB.out.1 w wt _ _ _ w5.heap.size _ _ _ _ _ _ hb h59 (own_down k1 (Nat.le_refl _)) (own_down k2 hap.2.2.2.1) (own_down k3 (Nat.le_trans hap.2.2.2.1 hap.2.2.2.2)) ?_ ?_ ?_ ⟨HTS.out.1, HTS.out.1, HTS.out.2.2.1⟩
              · rw [e1, e1]
                rcases sh k1 with rfl | ⟨x, rfl⟩
                · exact Or.inl rfl
                · rcases sh k2 with rfl | ⟨y, rfl⟩
                  · exact Or.inr (by simp)
                  · refine Or.inr fun e => ?_
                    simp only [Option.map_some, Option.some.injEq] at e
                    have h1 := hap.1 x 0 rfl
                    have h2 := (hap.2.1 y 0 rfl).1
                    omega
              · rw [e1, e1]
                rcases sh k1 with rfl | ⟨x, rfl⟩
                · exact Or.inl rfl
                · rcases sh k3 with rfl | ⟨y, rfl⟩
                  · exact Or.inr (by simp)
                  · refine Or.inr fun e => ?_
                    simp only [Option.map_some, Option.some.injEq] at e
                    have h1 := hap.1 x 0 rfl
                    have h2 := hap.2.2.1 y 0 rfl
                    have h3 := hap.2.2.2.2
                    omega
              · rw [e1, e1]
                rcases sh k2 with rfl | ⟨x, rfl⟩
                · exact Or.inl rfl
                · rcases sh k3 with rfl | ⟨y, rfl⟩
                  · exact Or.inr (by simp)
                  · refine Or.inr fun e => ?_
                    simp only [Option.map_some, Option.some.injEq] at e
                    have h1 := (hap.2.1 x 0 rfl).2
                    have h2 := hap.2.2.1 y 0 rfl
                    omega
            clear h59
            go_wp2_with fail
            refine HF.out.mono ?_
            rintro e wu ⟨rfl, hg⟩
            have HE := Lib.hid hg
            clear hg
            go_wp2
            go_ret
            exact ⟨rfl, HE.out⟩
end Rc
end Go.Proofs.YtohcoihdijemfaaGreat

/- A law's arguments: records, and their contexts' room. -/
namespace Go.Proofs.YtohcoihdijemfaaGreat
open Go.ChangeShapes Go.WideShapes Go.ChangeAt Go.RowKit Go.Deep Go.Joins Ow Ve
namespace Rc
set_option maxRecDepth 100000 in
theorem rec_open_room {H : Type} {enc : TypeId × Value → H} {W : World} {rr : Reach} {b0 : Nat} {v : Value} {d : DataW H} {ps : List MemPlace} (hv : Value.okWide Tryz.prog W rr b0 50 v) (h : DataW.Trod enc Tryz.prog W 0 (fun _ => true) true 50 v d ps) :
    ∃ (q : L) (r : R), v = q.v r ∧ RAt W W.heap.size q r ∧ (q.a1 = none → q.c1 = 0) := by
  obtain ⟨cs, n, rfl, hsz, hall⟩ := open_agg7 Tryz.underlying50 (by kernel_rfl) (by kernel_rfl) hv h
  obtain ⟨c0, c1, c2, c3, c4, c5, c6, rfl⟩ := array7 hsz
  obtain ⟨y0, t0⟩ := hall 0 _ rfl c0 rfl
  obtain ⟨y1, t1⟩ := hall 1 _ rfl c1 rfl
  obtain ⟨y2, t2⟩ := hall 2 _ rfl c2 rfl
  obtain ⟨y3, t3⟩ := hall 3 _ rfl c3 rfl
  obtain ⟨y4, t4⟩ := hall 4 _ rfl c4 rfl
  obtain ⟨y5, t5⟩ := hall 5 _ rfl c5 rfl
  obtain ⟨y6, t6⟩ := hall 6 _ rfl c6 rfl
  obtain ⟨s, e0, _, _⟩ := DataW.trod_string Tryz.underlying9 t0
  obtain ⟨cl, rfl⟩ := int_of t1
  obtain ⟨sq, rfl⟩ := int_of t2
  obtain ⟨g, e4, _⟩ := DataW.trod_bool Tryz.underlying4 t4
  obtain rfl : c0 = .string s := by simpa using e0
  obtain rfl : c4 = .bool g := by simpa using e4
  obtain ⟨a1, n1, k1, rfl⟩ := slice_of Tryz.underlying48 t3
  obtain ⟨a2, n2, k2, rfl⟩ := slice_of Tryz.underlying23 t5
  obtain ⟨a3, n3, k3, rfl⟩ := slice_of Tryz.underlying23 t6
  obtain ⟨cx, hl1, hm, hd⟩ := dots_trod t3
  obtain ⟨val, hl2, hvb⟩ := bytes_trod t5
  obtain ⟨sig, hl3, hsb⟩ := bytes_trod t6
  have hroom := (dots_room (d := y3.1) (ps := y3.2) ⟨n, t3⟩).1
  exact ⟨⟨s, a1, n1, k1, a2, n2, k2, a3, n3, k3⟩, ⟨strL s, cl, sq, cx, g, val, sig⟩, rfl, ⟨rfl, hl1, hl2, hl3, hd, hvb, hsb, hm⟩, hroom⟩
end Rc
end Go.Proofs.YtohcoihdijemfaaGreat
