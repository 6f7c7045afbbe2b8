/- The kit's CopyDots, CopyRecord. -/
import Derived.Test.YtohcoihdijemfaaRcReadDot
import Derived.Test.YtohcoihdijemfaaWiCopy
import Derived.Test.YtohcoihdijemfaaVeApp
import Derived.Test.YtohcoihdijemfaaStep
namespace Go.Proofs.Ytohcoihdijemfaa
open Go.RowKit Ow Wi Ve
namespace Rc
theorem append_noneD (w : World) (base n c : Nat) (v : Value) (xs : List Value) (hown : w.ownsRow base 43 2 v n xs) :
    (Builtin.append_ #[23, 23] 23 #[v, .slice none 0 c]).run Try.prog w = .ok v w := by
  obtain ⟨i, hi, hz, hs, hb⟩ := info_dot
  rcases hown.2 with ⟨rfl, rfl⟩ | ⟨g, cap, cur, rfl, _, _, hnc, _⟩
  · simp [Builtin.append_, run_underlying Try.underlying23, sizeOf, typeInfo, hi, Builtin.lenOf, Builtin.firstCells]
  · simp [Builtin.append_, run_underlying Try.underlying23, sizeOf, typeInfo, hi, Builtin.lenOf, Builtin.firstCells, hnc, storeCells]
set_option maxHeartbeats 2000000 in
theorem copyD_own (B n cap : Nat) (a : Option Addr) (l : List D) (w : World) (hl : l.length = n) (hn : n ≤ 1000000) (hP : DotsAt w B a l) :
    Calls Try.prog 38 #[.slice a n cap] w fun e w' => ∃ v, e = .returned v ∧ w.grownBy w' none ∧ OwnD' w' w.heap.size v n l := by
  obtain ⟨v2, w2, hr2, ho2, hg2⟩ : ∃ v' w', (Builtin.append_ #[23, 23] 23 #[.slice none 0 0, .slice a n cap]).run Try.prog w = .ok v' w' ∧ OwnD' w' w.heap.size v' n l ∧ w.grownBy w' none := by
    have hown : OwnD' w w.heap.size (.slice none 0 0) 0 [] := World.ownsRow_nil w _ 43 2
    cases a with
    | none =>
      obtain rfl : l = [] := by
        rcases hP.cells with h | ⟨_, _, h, _⟩
        · exact List.eq_nil_of_length_eq_zero h
        · cases h
      obtain rfl : n = 0 := hl.symm
      exact ⟨_, w, append_noneD w w.heap.size 0 cap _ _ hown, hown, gb_refl _ _⟩
    | some ad =>
      obtain ⟨v', w', h1, h2, h3⟩ := append_dots w w.heap.size B (.slice none 0 0) 0 [] (some ad) n cap l hown hl hP (fun e => by cases e) (by omega) (Nat.le_refl _)
      rw [Nat.zero_add, List.nil_append] at h2
      exact ⟨v', w', h1, h2, h3⟩
  have HS := Lib.hid (And.intro ho2 hg2); clear ho2 hg2
  have HR := Lib.hid hr2; clear hr2
  go_enter Try.func38, Try.ntmps38
  go_upto_region 2 with (fail)
  refine wp_region_lit ?_
  refine Fg.wpl_value (v := .slice none 0 0) (w' := w) rfl (Fg.run_move rfl rfl) ?_
  refine Fg.wpl_value (v := .slice a n cap) (w' := w) rfl (Fg.run_move rfl rfl) ?_
  refine Lib.wpList_append_run _ rfl _ _ _ _ rfl _ _ rfl rfl _ _ HR.out ?_
  refine Fg.wpl_value (v := v2) (w' := w2) rfl (Fg.run_assign rfl rfl) ?_
  refine wpList_nil ?_
  simp only [Act.put, List.setIfInBounds_toArray, List.set_cons_succ, List.set_cons_zero]
  go_wp2
  go_ret
  exact ⟨v2, rfl, HS.out.2, HS.out.1⟩
/-- a record whose rows are its own -/
structure ROwn (w : World) (base : Nat) (q : L) (r : R) : Prop where
  str : strL q.s = r.key
  dots : OwnD' w base (.slice q.a1 q.n1 q.c1) q.n1 r.cx
  val : w.ownsRow base 5 1 (.slice q.a2 q.n2 q.c2) q.n2 (r.val.map u8N)
  sig : w.ownsRow base 5 1 (.slice q.a3 q.n3 q.c3) q.n3 (r.sig.map u8N)
  vb : ∀ i, r.val.getD i 0 < 256
  sb : ∀ i, r.sig.getD i 0 < 256
  top : q.n1 < 9223372036854775808
theorem ROwn.stay {w w' : World} {base : Nat} {q : L} {r : R} (h : ROwn w base q r) (hg : w.grownBy w' none) : ROwn w' base q r :=
  ⟨h.str, h.dots.kept hg (by cases (Value.slice q.a1 q.n1 q.c1).ownBlock <;> simp), own_kept h.val hg, own_kept h.sig hg, h.vb, h.sb, h.top⟩
theorem ROwn.at {w : World} {base : Nat} {q : L} {r : R} (h : ROwn w base q r) : RAt w w.heap.size q r := by
  obtain ⟨a', c', e3, hl1, _, hd⟩ := own_dots h.dots
  simp only [Value.slice.injEq, true_and] at e3
  obtain ⟨a5, c5, e5, _, hv, _⟩ := own_slice h.val h.vb
  simp only [Value.slice.injEq, true_and] at e5
  obtain ⟨a6, c6, e6, _, hs, _⟩ := own_slice h.sig h.sb
  simp only [Value.slice.injEq, true_and] at e6
  have l2 : r.val.length = q.n2 := by have := h.val.1; simpa using this
  have l3 : r.sig.length = q.n3 := by have := h.sig.1; simpa using this
  rw [← e3.1] at hd
  rw [← e5.1, ← e5.2] at hv
  rw [← e6.1, ← e6.2] at hs
  exact ⟨h.str, hl1, l2, l3, hd, hv, hs, h.top⟩
theorem own_mono {w : World} {base b' e sz n : Nat} {v : Value} {xs : List Value} (h : w.ownsRow base e sz v n xs) (hb : b' ≤ base) : w.ownsRow b' e sz v n xs := by
  refine ⟨h.1, ?_⟩
  rcases h.2 with h0 | ⟨g, c, cur, e1, hg, rest⟩
  · exact Or.inl h0
  · exact Or.inr ⟨g, c, cur, e1, Nat.le_trans hb hg, rest⟩
/-- a block of another type is written -/
theorem own_other {w w' : World} {base e sz n T Tt : Nat} {v : Value} {xs : List Value} {L : List Value} (h : w.ownsRow base e sz v n xs) (hb : Blk w T Tt L) (hne : Tt ≠ e) (hg : w.grownBy w' (some T)) : w'.ownsRow base e sz v n xs := by
  refine h.kept hg ?_
  rcases h.2 with ⟨rfl, _⟩ | ⟨g, c, cur, rfl, _, hh, _⟩
  · exact Or.inl rfl
  · refine Or.inr fun e2 => ?_
    simp only [Value.ownBlock, Option.some.injEq] at e2
    subst e2
    unfold Blk at hb
    rw [hb] at hh
    simp only [Option.some.injEq, Obj.cells.injEq] at hh
    exact hne hh.2.1
theorem ROwn.other {w w' : World} {base T Tt : Nat} {q : L} {r : R} {cs : List Value} (h : ROwn w base q r) (hb : Blk w T Tt cs) (h1 : Tt ≠ 43) (h2 : Tt ≠ 5) (hg : w.grownBy w' (some T)) : ROwn w' base q r :=
  ⟨h.str, own_other h.dots hb h1 hg, own_other h.val hb h2 hg, own_other h.sig hb h2 hg, h.vb, h.sb, h.top⟩
theorem dots_shape {w : World} {base n : Nat} {v : Value} {l : List D} (h : OwnD' w base v n l) : ∃ a c, v = .slice a n c := own_shapeD h
theorem bytes_shape {w : World} {base n : Nat} {v : Value} {xs : List Value} (h : w.ownsRow base 5 1 v n xs) : ∃ a c, v = .slice a n c := by
  rcases h.2 with ⟨rfl, h0⟩ | ⟨g, c, _, rfl, _⟩
  · exact ⟨none, 0, by rw [h0]⟩
  · exact ⟨_, _, rfl⟩
def CpOut (w : World) (r : R) (e : Ending) (w' : World) : Prop := ∃ q : L, e = .returned (q.v r) ∧ w.grownBy w' none ∧ ROwn w' w.heap.size q r
set_option maxHeartbeats 4000000 in
theorem copyRec_any (r : R) (B : Nat) (w : World) (q : L) (h : RAt w B q r) (hs : q.n1 ≤ 1000000 ∧ q.n2 ≤ 1000000 ∧ q.n3 ≤ 1000000) : Calls Try.prog 17 #[q.v r] w (CpOut w r) := by
  have HD := Lib.hid (fun w' (hg : w.grownBy w' none) => copyD_own B q.n1 q.c1 q.a1 r.cx w' h.l1 hs.1 (h.dots.stay hg))
  have HV := Lib.hid (fun w' (hg : w.grownBy w' none) => copyB_own B q.n2 q.c2 q.a2 r.val w' h.l2 hs.2.1 (h.val.stay hg))
  have HS := Lib.hid (fun w' (hg : w.grownBy w' none) => copyB_own B q.n3 q.c3 q.a3 r.sig w' h.l3 hs.2.2 (h.sig.stay hg))
  have HK := Lib.hid (And.intro h.str (And.intro h.val.byte (And.intro h.sig.byte h.top)))
  obtain ⟨Q, hQ⟩ : ∃ Q, Q = CpOut w r := ⟨_, rfl⟩
  rw [← hQ]
  have HQ := Lib.hid hQ; clear hQ h hs
  obtain ⟨s, a1, n1, c1, a2, n2, c2, a3, n3, c3⟩ := q
  obtain ⟨key, cl, sq, cx, g, val, sig⟩ := r
  show Calls _ _ #[.agg #[.string s, iV cl, iV sq, .slice a1 n1 c1, .bool g, .slice a2 n2 c2, .slice a3 n3 c3]] w _
  simp only at HD HV HS HK
  obtain ⟨N, hN⟩ : ∃ N, N = w.heap.size := ⟨_, rfl⟩
  obtain ⟨M, hM⟩ : ∃ M, M = w.heap.size + 1 := ⟨_, rfl⟩
  obtain ⟨W0, hW0⟩ : ∃ W0, W0 = (w.alloc (.cells #[.string s, iV cl, iV sq, .slice a1 n1 c1, .bool g, .slice a2 n2 c2, .slice a3 n3 c3] 25)).alloc (.cells z7.toArray 25) := ⟨_, rfl⟩
  have HG : Hid (Blk W0 N 25 [.string s, iV cl, iV sq, .slice a1 n1 c1, .bool g, .slice a2 n2 c2, .slice a3 n3 c3] ∧ Blk W0 M 25 z7 ∧ w.grownBy W0 none) := by
    refine ⟨?_, ?_, ?_⟩
    · rw [hW0, hN]; exact (Blk.new _ _ _).alloc _
    · rw [hW0, hM, ← World.size_alloc]; exact Blk.new _ _ _
    · rw [hW0]; exact gb_alloc (gb_alloc (gb_refl _ _) _) _
  have HNM : Hid (w.heap.size ≤ N ∧ w.heap.size ≤ M ∧ N ≠ M) := ⟨by omega, by omega, by omega⟩
  have x3 := HG.out.1.cell (i := 3) rfl
  have f3 := HG.out.1.free 3
  go_enter Try.func17, Try.ntmps17
  go_wp2_with fail
  rw [show (w.alloc (.cells #[.string s, iV cl, iV sq, .slice a1 n1 c1, .bool g, .slice a2 n2 c2, .slice a3 n3 c3] 25)).alloc (.cells #[.string ⟨#[]⟩, iV 0, iV 0, .slice none 0 0, .bool false, .slice none 0 0, .slice none 0 0] 25) = W0 from hW0.symm, ← hM, ← hN]
  clear hW0 hN hM
  refine (HD.out W0 HG.out.2.2).mono ?_
  rintro e w1 ⟨v1, rfl, hg, ho⟩
  obtain ⟨b1, d1, rfl⟩ := own_shapeD ho
  have HG1 : Hid ((Blk w1 N 25 [.string s, iV cl, iV sq, .slice a1 n1 c1, .bool g, .slice a2 n2 c2, .slice a3 n3 c3] ∧ Blk w1 M 25 z7 ∧ w.grownBy w1 none) ∧ OwnD' w1 w.heap.size (.slice b1 n1 d1) n1 cx) := ⟨⟨HG.out.1.grown hg (by simp), HG.out.2.1.grown hg (by simp), gb_trans HG.out.2.2 hg⟩, own_mono ho HG.out.2.2.size⟩
  clear hg ho HG x3 f3
  have x3 := HG1.out.1.1.cell (i := 3) rfl
  have f3 := HG1.out.1.1.free 3
  have x5 := HG1.out.1.1.cell (i := 5) rfl
  go_wp2_with fail
  have HG2 : Hid ((Blk (w1.setCell ⟨N, 3, none⟩ (.slice b1 n1 d1)) N 25 [.string s, iV cl, iV sq, .slice b1 n1 d1, .bool g, .slice a2 n2 c2, .slice a3 n3 c3] ∧ Blk (w1.setCell ⟨N, 3, none⟩ (.slice b1 n1 d1)) M 25 z7 ∧ w.grownBy (w1.setCell ⟨N, 3, none⟩ (.slice b1 n1 d1)) none) ∧ OwnD' (w1.setCell ⟨N, 3, none⟩ (.slice b1 n1 d1)) w.heap.size (.slice b1 n1 d1) n1 cx) :=
    ⟨⟨HG1.out.1.1.set 3 _, HG1.out.1.2.1.other (a := ⟨N, 3, none⟩) HNM.out.2.2 _, gb_set_new HG1.out.1.2.2 (p := ⟨N, 3, none⟩) HNM.out.1 _⟩, own_other HG1.out.2 HG1.out.1.1 (by decide) (gb_set (gb_refl w1 (some N)) 3 _)⟩
  clear HG1 x3 f3 x5
  generalize w1.setCell ⟨N, 3, none⟩ (.slice b1 n1 d1) = w2 at *
  refine (HV.out w2 HG2.out.1.2.2).mono ?_
  rintro e w3 ⟨v3, rfl, hg, ho⟩
  obtain ⟨b2, d2, rfl⟩ := bytes_shape ho
  have HG3 : Hid ((Blk w3 N 25 [.string s, iV cl, iV sq, .slice b1 n1 d1, .bool g, .slice a2 n2 c2, .slice a3 n3 c3] ∧ Blk w3 M 25 z7 ∧ w.grownBy w3 none) ∧ OwnD' w3 w.heap.size (.slice b1 n1 d1) n1 cx ∧ w3.ownsRow w.heap.size 5 1 (.slice b2 n2 d2) n2 (val.map u8N)) :=
    ⟨⟨HG2.out.1.1.grown hg (by simp), HG2.out.1.2.1.grown hg (by simp), gb_trans HG2.out.1.2.2 hg⟩, HG2.out.2.kept hg (by cases (Value.slice b1 n1 d1).ownBlock <;> simp), own_mono ho HG2.out.1.2.2.size⟩
  clear hg ho HG2
  have x5 := HG3.out.1.1.cell (i := 5) rfl
  have f5 := HG3.out.1.1.free 5
  have x6 := HG3.out.1.1.cell (i := 6) rfl
  go_wp2_with fail
  have hgs := gb_set (gb_refl w3 (some N)) 5 (.slice b2 n2 d2)
  have HG4 : Hid ((Blk (w3.setCell ⟨N, 5, none⟩ (.slice b2 n2 d2)) N 25 [.string s, iV cl, iV sq, .slice b1 n1 d1, .bool g, .slice b2 n2 d2, .slice a3 n3 c3] ∧ Blk (w3.setCell ⟨N, 5, none⟩ (.slice b2 n2 d2)) M 25 z7 ∧ w.grownBy (w3.setCell ⟨N, 5, none⟩ (.slice b2 n2 d2)) none) ∧ OwnD' (w3.setCell ⟨N, 5, none⟩ (.slice b2 n2 d2)) w.heap.size (.slice b1 n1 d1) n1 cx ∧ (w3.setCell ⟨N, 5, none⟩ (.slice b2 n2 d2)).ownsRow w.heap.size 5 1 (.slice b2 n2 d2) n2 (val.map u8N)) :=
    ⟨⟨HG3.out.1.1.set 5 _, HG3.out.1.2.1.other (a := ⟨N, 5, none⟩) HNM.out.2.2 _, gb_set_new HG3.out.1.2.2 (p := ⟨N, 5, none⟩) HNM.out.1 _⟩, own_other HG3.out.2.1 HG3.out.1.1 (by decide) hgs, own_other HG3.out.2.2 HG3.out.1.1 (by decide) hgs⟩
  clear HG3 x5 f5 x6 hgs
  generalize w3.setCell ⟨N, 5, none⟩ (.slice b2 n2 d2) = w4 at *
  refine (HS.out w4 HG4.out.1.2.2).mono ?_
  rintro e w5 ⟨v5, rfl, hg, ho⟩
  obtain ⟨b3, d3, rfl⟩ := bytes_shape ho
  have HG5 : Hid ((Blk w5 N 25 [.string s, iV cl, iV sq, .slice b1 n1 d1, .bool g, .slice b2 n2 d2, .slice a3 n3 c3] ∧ Blk w5 M 25 z7 ∧ w.grownBy w5 none) ∧ OwnD' w5 w.heap.size (.slice b1 n1 d1) n1 cx ∧ w5.ownsRow w.heap.size 5 1 (.slice b2 n2 d2) n2 (val.map u8N) ∧ w5.ownsRow w.heap.size 5 1 (.slice b3 n3 d3) n3 (sig.map u8N)) :=
    ⟨⟨HG4.out.1.1.grown hg (by simp), HG4.out.1.2.1.grown hg (by simp), gb_trans HG4.out.1.2.2 hg⟩, HG4.out.2.1.kept hg (by cases (Value.slice b1 n1 d1).ownBlock <;> simp), own_kept HG4.out.2.2 hg, own_mono ho HG4.out.1.2.2.size⟩
  clear hg ho HG4
  have x0 := HG5.out.1.1.cell (i := 0) rfl
  have y0 := HG5.out.1.2.1.cell (i := 0) rfl
  have g0 := HG5.out.1.2.1.free 0
  have x1 := HG5.out.1.1.cell (i := 1) rfl
  have y1 := HG5.out.1.2.1.cell (i := 1) rfl
  have g1 := HG5.out.1.2.1.free 1
  have x2 := HG5.out.1.1.cell (i := 2) rfl
  have y2 := HG5.out.1.2.1.cell (i := 2) rfl
  have g2 := HG5.out.1.2.1.free 2
  have x3 := HG5.out.1.1.cell (i := 3) rfl
  have y3 := HG5.out.1.2.1.cell (i := 3) rfl
  have g3 := HG5.out.1.2.1.free 3
  have x4 := HG5.out.1.1.cell (i := 4) rfl
  have y4 := HG5.out.1.2.1.cell (i := 4) rfl
  have g4 := HG5.out.1.2.1.free 4
  have x5 := HG5.out.1.1.cell (i := 5) rfl
  have y5 := HG5.out.1.2.1.cell (i := 5) rfl
  have g5 := HG5.out.1.2.1.free 5
  have x6 := HG5.out.1.1.cell (i := 6) rfl
  have y6 := HG5.out.1.2.1.cell (i := 6) rfl
  have g6 := HG5.out.1.2.1.free 6
  have f6 := HG5.out.1.1.free 6
  have hNM := HNM.out.2.2
  have hMN : M ≠ N := fun e => hNM e.symm
  go_wp2_with fail
  obtain ⟨⟨hb, hm, hg⟩, h1, h2, h3⟩ := HG5.out
  have hgs := gb_set (gb_refl w5 (some N)) 6 (.slice b3 n3 d3)
  have k1 := own_other h1 hb (by decide) hgs
  have k2 := own_other h2 hb (by decide) hgs
  have k3 := own_other h3 hb (by decide) hgs
  have km := hm.other (a := ⟨N, 6, none⟩) hNM (.slice b3 n3 d3)
  have kg := gb_set_new hg (p := ⟨N, 6, none⟩) HNM.out.1 (.slice b3 n3 d3)
  generalize w5.setCell ⟨N, 6, none⟩ (.slice b3 n3 d3) = w6 at *
  have hgM := gb_set (gb_set (gb_set (gb_set (gb_set (gb_set (gb_set (gb_refl w6 (some M)) 0 (.string s)) 1 (.int .i64 cl)) 2 (.int .i64 sq)) 3 (.slice b1 n1 d1)) 4 (.bool g)) 5 (.slice b2 n2 d2)) 6 (.slice b3 n3 d3)
  have hR7 := ((((((km.set 0 (.string s)).set 1 (.int .i64 cl)).set 2 (.int .i64 sq)).set 3 (.slice b1 n1 d1)).set 4 (.bool g)).set 5 (.slice b2 n2 d2)).set 6 (.slice b3 n3 d3)
  refine bodyPost_ret (v := .agg #[.string s, .int .i64 cl, .int .i64 sq, .slice b1 n1 d1, .bool g, .slice b2 n2 d2, .slice b3 n3 d3]) (results_cell_row Try.results17 _ _ M 25 _ (0, 0) _ rfl hR7 Try.underlying25 rfl info_recS) rfl ?_
  rw [HQ.out]
  exact ⟨⟨s, b1, n1, d1, b2, n2, d2, b3, n3, d3⟩, rfl, gb_then kg hgM HNM.out.2.1, HK.out.1, own_other k1 km (by decide) hgM, own_other k2 km (by decide) hgM, own_other k3 km (by decide) hgM, HK.out.2.1, HK.out.2.2.1, HK.out.2.2.2⟩
end Rc
end Go.Proofs.Ytohcoihdijemfaa
