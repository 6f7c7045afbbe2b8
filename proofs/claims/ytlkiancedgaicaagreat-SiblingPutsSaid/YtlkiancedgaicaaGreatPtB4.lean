/- texts merged, part 4: XSbApart XSbUpper XSbTry XSbJoin XSbRight XSbPutNil XSbAwake XSbGetM XSbBytes XSbPut XSbFromM XSbBackM XWiRefPut XVeRef XVeRefHas XRcRef -/
import Derived.Test.YtlkiancedgaicaaGreatPtB3
import Derived.Test.YtlkiancedgaicaaGreatPtB2
import Derived.Deep.RegionWith
import Derived.Lib.SliceRun
import Derived.Defers
import Derived.Recover
import Derived.Test.YtlkiancedgaicaaGreatPtB1
import Derived.WalkKit
import Derived.Lib.Hide
import Derived.WalkSpells
import Derived.WalkLawsBesides
import Derived.BigGuardPart
import Derived.Outline
/- slices.Clone of dots and of bytes; a record in memory of its own. -/
namespace Go.Proofs.YtlkiancedgaicaaGreat
open Go.RowKit Ow Wi Ve Rc
namespace Sb
set_option maxHeartbeats 1000000 in
set_option maxRecDepth 100000 in
theorem cloneD_any (B n cap : Nat) (a : Option Addr) (l : List D) (w : World) (hl : l.length = n) (hn : n ≤ 1000000) (hP : DotsAt w B a l) :
    Calls Tryz.prog 189 #[.slice a n cap] w fun e w' => ∃ v, e = .returned v ∧ w.grownBy w' none ∧ OwnD' w' w.heap.size v n l := by
  cases a with
  | none =>
    obtain rfl : l = [] := by
      rcases hP.cells with h | ⟨_, _, h, _⟩
      · exact List.eq_nil_of_length_eq_zero h
      · cases h
    obtain rfl : n = 0 := hl.symm
    have heq := fun w : World => Lib.run_eql_slice_nil (P := Tryz.prog) w 64 127 none 0 cap 0 0 Tryz.underlying64
    go_enter Tryz.func189, Tryz.ntmps189
    go_wp2
    go_ret
    exact ⟨_, rfl, gb_refl _ _, World.ownsRow_nil w _ 127 2⟩
  | some ad =>
    have g0 := gb_alloc (gb_refl w none) (.cells #[] 127)
    have hown : OwnD' (w.alloc (.cells #[] 127)) w.heap.size (.slice (some ⟨w.heap.size, 0, none⟩) 0 0) 0 [] := World.ownsRow_made w #[] 0 (Nat.le_refl _) (by decide) rfl
    obtain ⟨v', w', hap, h2, h3⟩ := append_dots (w.alloc (.cells #[] 127)) w.heap.size B _ 0 [] (some ad) n cap l hown hl (hP.stay g0) (fun e => by cases e) (by omega) (by simp)
    rw [Nat.zero_add, List.nil_append] at h2
    have HX := Lib.hid (And.intro h2 (gb_then (gb_trans g0 (gb_refl _ none)) h3 (Nat.le_refl _) (row := none)))
    clear h2 h3 hown g0 hP
    have heq := fun w : World => Lib.run_eql_slice_nil (P := Tryz.prog) w 64 127 (some ad) n cap 0 0 Tryz.underlying64
    go_enter Tryz.func189, Tryz.ntmps189
    go_wp2_with (at_builtin; refine Lib.wpList_append_run _ rfl _ _ _ _ rfl _ _ rfl rfl _ _ hap ?_)
    go_ret
    exact ⟨_, rfl, HX.out.2, HX.out.1⟩
set_option maxHeartbeats 1000000 in
set_option maxRecDepth 100000 in
theorem cloneB_any (B n cap : Nat) (a : Option Addr) (l : List Nat) (w : World) (hl : l.length = n) (hn : n ≤ 1000000) (hP : BytesAt w B a cap l) :
    Calls Tryz.prog 190 #[.slice a n cap] w fun e w' => ∃ v, e = .returned v ∧ w.grownBy w' none ∧ w'.ownsRow w.heap.size 5 1 v n (l.map u8N) := by
  cases a with
  | none =>
    obtain rfl : l = [] := by
      rcases hP.cells with h | ⟨_, _, h, _⟩
      · exact List.eq_nil_of_length_eq_zero h
      · cases h
    obtain rfl : n = 0 := hl.symm
    have heq := fun w : World => Lib.run_eql_slice_nil (P := Tryz.prog) w 23 5 none 0 cap 0 0 Tryz.underlying23
    go_enter Tryz.func190, Tryz.ntmps190
    go_wp2
    go_ret
    exact ⟨_, rfl, gb_refl _ _, World.ownsRow_nil w _ 5 1⟩
  | some ad =>
    have g0 := gb_alloc (gb_refl w none) (.cells #[] 5)
    have hown : (w.alloc (.cells #[] 5)).ownsRow w.heap.size 5 1 (.slice (some ⟨w.heap.size, 0, none⟩) 0 0) 0 [] := World.ownsRow_made w #[] 0 (Nat.le_refl _) (by decide) rfl
    obtain ⟨v', w', hap, h2, h3⟩ := append_bytes (w.alloc (.cells #[] 5)) w.heap.size 0 B cap n _ [] (some ad) l hown hl (hP.stay g0) (by omega) (by simp)
    rw [Nat.zero_add, List.nil_append] at h2
    have HX := Lib.hid (And.intro h2 (gb_then (gb_trans g0 (gb_refl _ none)) h3 (Nat.le_refl _) (row := none)))
    clear h2 h3 hown g0 hP
    have heq := fun w : World => Lib.run_eql_slice_nil (P := Tryz.prog) w 23 5 (some ad) n cap 0 0 Tryz.underlying23
    go_enter Tryz.func190, Tryz.ntmps190
    go_wp2_with (at_builtin; refine Lib.wpList_append_run _ rfl _ _ _ _ rfl _ _ rfl rfl _ _ hap ?_)
    go_ret
    exact ⟨_, rfl, HX.out.2, HX.out.1⟩
theorem own_from {f : Nat} {args : Array Value} {w : World} {b e sz n : Nat} {xs : List Value} (h : Calls Tryz.prog f args w fun e' w' => ∃ v, e' = .returned v ∧ w.grownBy w' none ∧ w'.ownsRow w.heap.size e sz v n xs) (hb : b ≤ w.heap.size) :
    Calls Tryz.prog f args w fun e' w' => ∃ v, e' = .returned v ∧ w.grownBy w' none ∧ ∃ u, v = u ∧ w'.ownsRow b e sz u n xs :=
  h.mono fun _ _ ⟨v, he, hg, ho⟩ => ⟨v, he, hg, v, rfl, own_mono ho hb⟩
/-- a row of one's own -/
def _root_.Go.Proofs.YtlkiancedgaicaaGreat.Fg.It.own (b e sz n : Nat) (xs : List Value) : Fg.It := ⟨fun v w => ∃ u, v = u ∧ w.ownsRow b e sz u n xs, fun _ _ _ ⟨u, e1, h⟩ hg => ⟨u, e1, h.kept hg (by cases u.ownBlock <;> simp)⟩⟩
set_option maxHeartbeats 1000000 in
set_option maxRecDepth 100000 in
theorem apart_any (x : E) (B : Nat) (w : World) (h : RAt w B x.1 x.2) (hs : x.1.n1 ≤ 1000000 ∧ x.1.n2 ≤ 1000000 ∧ x.1.n3 ≤ 1000000) : Calls Tryz.prog 132 #[recV x] w (CpOut w x.2) := by
  have HD := Lib.hid (fun w' (hg : w.grownBy w' none) => cloneD_any B x.1.n1 x.1.c1 x.1.a1 x.2.cx w' h.l1 hs.1 (h.dots.stay hg))
  have HV := Lib.hid (fun w' (hg : w.grownBy w' none) => cloneB_any B x.1.n2 x.1.c2 x.1.a2 x.2.val w' h.l2 hs.2.1 (h.val.stay hg))
  have HS := Lib.hid (fun w' (hg : w.grownBy w' none) => cloneB_any B x.1.n3 x.1.c3 x.1.a3 x.2.sig w' h.l3 hs.2.2 (h.sig.stay hg))
  have HK := Lib.hid (And.intro h.str (And.intro h.val.byte (And.intro h.sig.byte h.top)))
  obtain ⟨Q, hQ⟩ : ∃ Q, Q = CpOut w x.2 := ⟨_, rfl⟩
  rw [← hQ]
  have HQ := Lib.hid hQ; clear hQ h hs
  obtain ⟨⟨s, a1, n1, c1, a2, n2, c2, a3, n3, c3⟩, ⟨key, cl, sq, cx, g, val, sig⟩⟩ := x
  simp only at HD HV HS HK HQ
  obtain ⟨W0, hW0⟩ : ∃ W0, W0 = (w.alloc (.cells #[.string s, iV cl, iV sq, .slice a1 n1 c1, .bool g, .slice a2 n2 c2, .slice a3 n3 c3] 66)).alloc (.cells z7.toArray 66) := ⟨_, rfl⟩
  obtain ⟨N, hN⟩ : ∃ N, N = w.heap.size := ⟨_, rfl⟩
  obtain ⟨M, hM⟩ : ∃ M, M = w.heap.size + 1 := ⟨_, rfl⟩
  have HG1 : Hid (w.grownBy W0 none ∧ Blk W0 N 66 [.string s, iV cl, iV sq, .slice a1 n1 c1, .bool g, .slice a2 n2 c2, .slice a3 n3 c3] ∧ Blk W0 M 66 z7 ∧ N = w.heap.size ∧ M = w.heap.size + 1 ∧ W0.heap.size = w.heap.size + 2) := by
    refine ⟨?_, ?_, ?_, hN, hM, by rw [hW0]; simp⟩
    · rw [hW0]; exact gb_alloc (gb_alloc (gb_refl _ _) _) _
    · rw [hW0, hN]; exact (Blk.new _ _ _).alloc _
    · rw [hW0, hM, ← World.size_alloc]; exact Blk.new _ _ _
  unfold z7 cellsV at hW0
  show Calls _ _ #[.agg #[.string s, iV cl, iV sq, .slice a1 n1 c1, .bool g, .slice a2 n2 c2, .slice a3 n3 c3]] w Q
  go_enter Tryz.func132, Tryz.ntmps132
  go_wp2_with fail
  rw [← hW0, ← hM, ← hN]
  clear hW0 hN hM
  refine Fg.region_t [] [.any, .any, .any, .val (Value.pointer (some ⟨N, 3, none⟩)), .val (Value.slice a1 n1 c1), .own (W0.heap.size) 127 2 n1 (dotsC cx), .val (Value.pointer (some ⟨N, 5, none⟩)), .val (Value.slice a2 n2 c2), .own (W0.heap.size) 5 1 n2 (val.map u8N), .val (Value.pointer (some ⟨N, 6, none⟩)), .val (Value.slice a3 n3 c3), .own (W0.heap.size) 5 1 n3 (sig.map u8N), .val (Value.pointer (some ⟨N, 3, none⟩))] W0 10 (gb_refl _ _) (by kernel_rfl) (by kernel_rfl) (by kernel_rfl) (by kernel_rfl) (by decide) (by kernel_rfl) ?_ ?_
  · refine ⟨Fg.vT rfl (by decide) fun ac w h => ?_, ?_⟩
    · have e1 : ac.tmps.getD 1 undef = Value.pointer (some ⟨N, 0, none⟩) := h.rest 1 (by kernel_rfl)
      refine ⟨Value.pointer (some ⟨N, 3, none⟩), w, wants_none rfl, ?_, gb_refl _ _, rfl⟩
      clear h
      simp only [execOp, Act.eval, e1]
      go_simp
    refine ⟨Fg.vT rfl (by decide) fun ac w h => ?_, ?_⟩
    · have e3 : ac.tmps.getD 3 undef = Value.pointer (some ⟨N, 3, none⟩) := h.dep 3 (by kernel_rfl)
      have m3 := ((HG1.out.2.1).grown h.base (by simp)).cell (i := 3) rfl
      refine ⟨Value.slice a1 n1 c1, w, wants_none rfl, ?_, gb_refl _ _, rfl⟩
      clear h
      simp only [execOp, Act.eval, e3]
      go_simp
    refine ⟨Fg.cT rfl (by decide) fun ac w h => ?_, ?_⟩
    · have e4 : ac.tmps.getD 4 undef = Value.slice a1 n1 c1 := h.dep 4 (by kernel_rfl)
      refine ⟨189, #[Value.slice a1 n1 c1], wants_none rfl, Fg.run_call rfl rfl (by simp only [List.map_toArray, List.map_cons, List.map_nil, Act.eval, e4]) (Fg.run_enter Tryz.func189 (by kernel_rfl) (by kernel_rfl)), ?_⟩
      exact (own_from (HD.out w (gb_trans HG1.out.1 h.base)) h.base.size).mono fun _ _ ⟨v, he, hg, hb⟩ => ⟨v, he, hg, hb⟩
    refine ⟨Fg.vT rfl (by decide) fun ac w h => ?_, ?_⟩
    · have e1 : ac.tmps.getD 1 undef = Value.pointer (some ⟨N, 0, none⟩) := h.rest 1 (by kernel_rfl)
      refine ⟨Value.pointer (some ⟨N, 5, none⟩), w, wants_none rfl, ?_, gb_refl _ _, rfl⟩
      clear h
      simp only [execOp, Act.eval, e1]
      go_simp
    refine ⟨Fg.vT rfl (by decide) fun ac w h => ?_, ?_⟩
    · have e6 : ac.tmps.getD 6 undef = Value.pointer (some ⟨N, 5, none⟩) := h.dep 6 (by kernel_rfl)
      have m5 := ((HG1.out.2.1).grown h.base (by simp)).cell (i := 5) rfl
      refine ⟨Value.slice a2 n2 c2, w, wants_none rfl, ?_, gb_refl _ _, rfl⟩
      clear h
      simp only [execOp, Act.eval, e6]
      go_simp
    refine ⟨Fg.cT rfl (by decide) fun ac w h => ?_, ?_⟩
    · have e7 : ac.tmps.getD 7 undef = Value.slice a2 n2 c2 := h.dep 7 (by kernel_rfl)
      refine ⟨190, #[Value.slice a2 n2 c2], wants_none rfl, Fg.run_call rfl rfl (by simp only [List.map_toArray, List.map_cons, List.map_nil, Act.eval, e7]) (Fg.run_enter Tryz.func190 (by kernel_rfl) (by kernel_rfl)), ?_⟩
      exact (own_from (HV.out w (gb_trans HG1.out.1 h.base)) h.base.size).mono fun _ _ ⟨v, he, hg, hb⟩ => ⟨v, he, hg, hb⟩
    refine ⟨Fg.vT rfl (by decide) fun ac w h => ?_, ?_⟩
    · have e1 : ac.tmps.getD 1 undef = Value.pointer (some ⟨N, 0, none⟩) := h.rest 1 (by kernel_rfl)
      refine ⟨Value.pointer (some ⟨N, 6, none⟩), w, wants_none rfl, ?_, gb_refl _ _, rfl⟩
      clear h
      simp only [execOp, Act.eval, e1]
      go_simp
    refine ⟨Fg.vT rfl (by decide) fun ac w h => ?_, ?_⟩
    · have e9 : ac.tmps.getD 9 undef = Value.pointer (some ⟨N, 6, none⟩) := h.dep 9 (by kernel_rfl)
      have m6 := ((HG1.out.2.1).grown h.base (by simp)).cell (i := 6) rfl
      refine ⟨Value.slice a3 n3 c3, w, wants_none rfl, ?_, gb_refl _ _, rfl⟩
      clear h
      simp only [execOp, Act.eval, e9]
      go_simp
    refine ⟨Fg.cT rfl (by decide) fun ac w h => ?_, ?_⟩
    · have e10 : ac.tmps.getD 10 undef = Value.slice a3 n3 c3 := h.dep 10 (by kernel_rfl)
      refine ⟨190, #[Value.slice a3 n3 c3], wants_none rfl, Fg.run_call rfl rfl (by simp only [List.map_toArray, List.map_cons, List.map_nil, Act.eval, e10]) (Fg.run_enter Tryz.func190 (by kernel_rfl) (by kernel_rfl)), ?_⟩
      exact (own_from (HS.out w (gb_trans HG1.out.1 h.base)) h.base.size).mono fun _ _ ⟨v, he, hg, hb⟩ => ⟨v, he, hg, hb⟩
    refine ⟨Fg.vT rfl (by decide) fun ac w h => ?_, ?_⟩
    · have e1 : ac.tmps.getD 1 undef = Value.pointer (some ⟨N, 0, none⟩) := h.rest 1 (by kernel_rfl)
      refine ⟨Value.pointer (some ⟨N, 3, none⟩), w, wants_none rfl, ?_, gb_refl _ _, rfl⟩
      clear h
      simp only [execOp, Act.eval, e1]
      go_simp
    trivial
  · intro aq wq hB hsz hdf hrest hslots hpt
    obtain ⟨u0, e0⟩ : ∃ u, aq.tmps.getD 0 undef = u := ⟨_, rfl⟩
    obtain ⟨u3, e3⟩ : ∃ u, aq.tmps.getD 3 undef = u := ⟨_, rfl⟩
    obtain ⟨u4, e4⟩ : ∃ u, aq.tmps.getD 4 undef = u := ⟨_, rfl⟩
    obtain ⟨v5, e5, b5⟩ : ∃ v, aq.tmps.getD 5 undef = v ∧ wq.ownsRow (W0.heap.size) 127 2 v n1 (dotsC cx) := hslots 5 (by kernel_rfl)
    obtain ⟨u6, e6⟩ : ∃ u, aq.tmps.getD 6 undef = u := ⟨_, rfl⟩
    obtain ⟨u7, e7⟩ : ∃ u, aq.tmps.getD 7 undef = u := ⟨_, rfl⟩
    obtain ⟨v8, e8, b8⟩ : ∃ v, aq.tmps.getD 8 undef = v ∧ wq.ownsRow (W0.heap.size) 5 1 v n2 (val.map u8N) := hslots 8 (by kernel_rfl)
    obtain ⟨u9, e9⟩ : ∃ u, aq.tmps.getD 9 undef = u := ⟨_, rfl⟩
    obtain ⟨u10, e10⟩ : ∃ u, aq.tmps.getD 10 undef = u := ⟨_, rfl⟩
    obtain ⟨v11, e11, b11⟩ : ∃ v, aq.tmps.getD 11 undef = v ∧ wq.ownsRow (W0.heap.size) 5 1 v n3 (sig.map u8N) := hslots 11 (by kernel_rfl)
    have e12 : aq.tmps.getD 12 undef = Value.pointer (some ⟨N, 3, none⟩) := hslots 12 (by kernel_rfl)
    obtain rfl := Fg.frame_is (a := aq) (vs := [u0, Value.pointer (some ⟨N, 0, none⟩), Value.pointer (some ⟨M, 0, none⟩), u3, u4, v5, u6, u7, v8, u9, u10, v11, Value.pointer (some ⟨N, 3, none⟩), undef, undef, undef]) hsz ⟨e0, hrest 1 (by kernel_rfl), hrest 2 (by kernel_rfl), e3, e4, e5, e6, e7, e8, e9, e10, e11, e12, hrest 13 (by kernel_rfl), hrest 14 (by kernel_rfl), hrest 15 (by kernel_rfl), trivial⟩ hdf
    clear hsz hdf hrest hslots hpt e0 e3 e4 e5 e6 e7 e8 e9 e10 e11 e12
    obtain ⟨x1, y1, rfl⟩ := own_shapeD b5
    obtain ⟨x2, y2, rfl⟩ := bytes_shape b8
    obtain ⟨x3, y3, rfl⟩ := bytes_shape b11
    have bN := HG1.out.2.1.grown hB (by simp)
    have bM := HG1.out.2.2.1.grown hB (by simp)
    have HX := Lib.hid (And.intro hB (And.intro bN (And.intro bM (And.intro b5 (And.intro b8 b11)))))
    clear hB b5 b8 b11
    have c3' := bN.cell (i := 3) rfl
    have f3 := bN.free 3
    have c5' := bN.cell (i := 5) rfl
    have f5 := bN.free 5
    have c6' := bN.cell (i := 6) rfl
    have f6 := bN.free 6
    clear bN bM
    go_upto_region 2 with fail
    clear c3' f3 c5' f5 c6' f6
    have hNM : N ≠ M := by have := HG1.out.2.2.2; omega
    have hMN : M ≠ N := fun e => hNM e.symm
    have hNw : w.heap.size ≤ N := by have := HG1.out.2.2.2; omega
    have hMw : w.heap.size ≤ M := by have := HG1.out.2.2.2; omega
    have hlN : N < W0.heap.size := HG1.out.2.1.lt
    have hlM : M < W0.heap.size := HG1.out.2.2.1.lt
    obtain ⟨hB, bN, bM, b5, b8, b11⟩ := HX.out
    have kg := gb_trans HG1.out.1 hB
    have q1 := gb_set (gb_refl wq (some N)) 3 (.slice x1 n1 y1)
    have b5 := own_other b5 bN (by decide) q1
    have b8 := own_other b8 bN (by decide) q1
    have b11 := own_other b11 bN (by decide) q1
    have bM := bM.other (a := ⟨N, 3, none⟩) hNM (.slice x1 n1 y1)
    have kg := gb_set_new kg (p := ⟨N, 3, none⟩) hNw (.slice x1 n1 y1)
    have bN := bN.set 3 (.slice x1 n1 y1)
    generalize wq.setCell ⟨N, 3, none⟩ (.slice x1 n1 y1) = wa at *
    have q2 := gb_set (gb_refl wa (some N)) 5 (.slice x2 n2 y2)
    have b5 := own_other b5 bN (by decide) q2
    have b8 := own_other b8 bN (by decide) q2
    have b11 := own_other b11 bN (by decide) q2
    have bM := bM.other (a := ⟨N, 5, none⟩) hNM (.slice x2 n2 y2)
    have kg := gb_set_new kg (p := ⟨N, 5, none⟩) hNw (.slice x2 n2 y2)
    have bN := bN.set 5 (.slice x2 n2 y2)
    generalize wa.setCell ⟨N, 5, none⟩ (.slice x2 n2 y2) = wb at *
    have q3 := gb_set (gb_refl wb (some N)) 6 (.slice x3 n3 y3)
    have b5 := own_other b5 bN (by decide) q3
    have b8 := own_other b8 bN (by decide) q3
    have b11 := own_other b11 bN (by decide) q3
    have hm := bM.other (a := ⟨N, 6, none⟩) hNM (.slice x3 n3 y3)
    have kg := gb_set_new kg (p := ⟨N, 6, none⟩) hNw (.slice x3 n3 y3)
    have h0 : Blk (wb.setCell ⟨N, 6, none⟩ (.slice x3 n3 y3)) N 66 [.string s, iV cl, iV sq, .slice x1 n1 y1, .bool g, .slice x2 n2 y2, .slice x3 n3 y3] := bN.set 6 (.slice x3 n3 y3)
    generalize wb.setCell ⟨N, 6, none⟩ (.slice x3 n3 y3) = w6 at *
    have HY := Lib.hid (And.intro kg (And.intro hm (And.intro b5 (And.intro b8 (And.intro b11 (Nat.le_trans HG1.out.1.size (Nat.le_refl _)))))))
    have x00 := h0.cell (i := 0) rfl
    have y00 := hm.cell (i := 0) rfl
    have g00 := hm.free 0
    have x10 := h0.cell (i := 1) rfl
    have y10 := hm.cell (i := 1) rfl
    have g10 := hm.free 1
    have x20 := h0.cell (i := 2) rfl
    have y20 := hm.cell (i := 2) rfl
    have g20 := hm.free 2
    have x30 := h0.cell (i := 3) rfl
    have y30 := hm.cell (i := 3) rfl
    have g30 := hm.free 3
    have x40 := h0.cell (i := 4) rfl
    have y40 := hm.cell (i := 4) rfl
    have g40 := hm.free 4
    have x50 := h0.cell (i := 5) rfl
    have y50 := hm.cell (i := 5) rfl
    have g50 := hm.free 5
    have x60 := h0.cell (i := 6) rfl
    have y60 := hm.cell (i := 6) rfl
    have g60 := hm.free 6
    clear h0 hm kg b5 b8 b11 q1 q2 q3 bN bM hB
    go_wp2_with fail
    obtain ⟨kg, hm, b5, b8, b11, hsz⟩ := HY.out
    have hgM := gb_set (gb_set (gb_set (gb_set (gb_set (gb_set (gb_set (gb_refl w6 (some M)) 0 (.string s)) 1 (.int .i64 cl)) 2 (.int .i64 sq)) 3 (.slice x1 n1 y1)) 4 (.bool g)) 5 (.slice x2 n2 y2)) 6 (.slice x3 n3 y3)
    have hR7 := ((((((hm.set 0 (.string s)).set 1 (.int .i64 cl)).set 2 (.int .i64 sq)).set 3 (.slice x1 n1 y1)).set 4 (.bool g)).set 5 (.slice x2 n2 y2)).set 6 (.slice x3 n3 y3)
    refine bodyPost_ret (v := .agg #[.string s, .int .i64 cl, .int .i64 sq, .slice x1 n1 y1, .bool g, .slice x2 n2 y2, .slice x3 n3 y3]) (results_cell_row Tryz.results132 _ _ M 66 _ (0, 0) _ rfl hR7 Tryz.underlying66 rfl info_recS) rfl ?_
    rw [HQ.out]
    exact ⟨⟨s, x1, n1, y1, x2, n2, y2, x3, n3, y3⟩, rfl, gb_then kg hgM hMw, HK.out.1, own_mono (own_other b5 hm (by decide) hgM) hsz, own_mono (own_other b8 hm (by decide) hgM) hsz, own_mono (own_other b11 hm (by decide) hgM) hsz, HK.out.2.1, HK.out.2.2.1, HK.out.2.2.2⟩
end Sb
end Go.Proofs.YtlkiancedgaicaaGreat

/- uppermost: the records that none other one is over, in memory of their own. -/
namespace Go.Proofs.YtlkiancedgaicaaGreat
open Go.RowKit Ow Wi Ve Rc
namespace Sb
theorem ROwn.beside {w w' : World} {base T : Nat} {q : L} {r : R} (h : ROwn w base q r) (hg : w.grownBy w' (some T)) (hT : T < base) : ROwn w' base q r :=
  ⟨h.str, h.dots.kept hg (Or.inr fun e => by have := (h.dots.lt _ e).1; omega), h.val.kept hg (Or.inr fun e => by have := (h.val.lt _ e).1; omega), h.sig.kept hg (Or.inr fun e => by have := (h.sig.lt _ e).1; omega), h.vb, h.sb, h.top⟩
theorem rown_app {w w' : World} {base b : Nat} {v : Value} {l : List E} {q : L} {r : R} (ho : OwnR w base v l) (h : ROwn w b q r) (hg : w.grownBy w' v.ownBlock) : ROwn w' b q r := by
  rcases ho.2 with ⟨rfl, _⟩ | ⟨g, c, cur, rfl, _, hh, _⟩
  · exact h.stay hg
  · have hb : Blk w g 66 cur.toList := by unfold Blk; rw [hh]
    exact h.other hb (by decide) (by decide) hg
theorem ROwn.mono {w : World} {b b' : Nat} {q : L} {r : R} (h : ROwn w b q r) (hb : b' ≤ b) : ROwn w b' q r :=
  ⟨h.str, own_mono h.dots hb, own_mono h.val hb, own_mono h.sig hb, h.vb, h.sb, h.top⟩
/-- a row of one's own of records whose parts are one's own -/
def OwnAll (w : World) (base : Nat) (v : Value) (l : List E) : Prop := OwnR w base v l ∧ ∀ x ∈ l, ROwn w base x.1 x.2
theorem OwnAll.stay {w w' : World} {base : Nat} {v : Value} {l : List E} (h : OwnAll w base v l) (hg : w.grownBy w' none) : OwnAll w' base v l :=
  ⟨h.1.kept hg (by cases v.ownBlock <;> simp), fun x hx => (h.2 x hx).stay hg⟩
theorem OwnAll.beside {w w' : World} {base T : Nat} {v : Value} {l : List E} (h : OwnAll w base v l) (hg : w.grownBy w' (some T)) (hT : T < base) : OwnAll w' base v l :=
  ⟨h.1.kept hg (Or.inr fun e => by have := (h.1.lt _ e).1; omega), fun x hx => ROwn.beside (h.2 x hx) hg hT⟩
theorem OwnAll.mono {w : World} {b b' : Nat} {v : Value} {l : List E} (h : OwnAll w b v l) (hb : b' ≤ b) : OwnAll w b' v l :=
  ⟨own_mono h.1 hb, fun x hx => ROwn.mono (h.2 x hx) hb⟩
theorem OwnAll.row {w : World} {base : Nat} {v : Value} {l : List E} (h : OwnAll w base v l) : ∃ a c, v = .slice a l.length c ∧ l.length ≤ c ∧ c ≤ maxLen ∧ RRow w w.heap.size a l := own_recs h.1 fun x hx => (h.2 x hx).at
def UpOut (w : World) (u : List E) (e : Ending) (w' : World) : Prop := ∃ v out, e = .returned v ∧ recs out = topF (recs u) ∧ OwnAll w' w.heap.size v out ∧ w.grownBy w' none
theorem recs_take (l : List E) (k : Nat) (h : k < l.length) : recs (l.take (k + 1)) = recs (l.take k) ++ [(l.getD k e0).2] := take_next (fun x : E => x.2) l k e0 h
set_option maxHeartbeats 2000000 in
set_option maxRecDepth 100000 in
theorem upper_any (B n c : Nat) (a : Option Addr) (u : List E) (w : World) (hn : u.length = n) (h : RRow w B a u) (hc : n ≤ 1000000) (hcx : ∀ r ∈ recs u, Rt 0 r.cx) (hsz : ∀ x ∈ u, x.1.n1 ≤ 1000000 ∧ x.1.n2 ≤ 1000000 ∧ x.1.n3 ≤ 1000000) :
    Calls Tryz.prog 73 #[.agg #[.slice a n c]] w (UpOut w u) := by
  have H := Lib.hid (And.intro h (And.intro hn (And.intro hcx hsz))); clear h hn hcx hsz
  obtain ⟨Q, hQ⟩ : ∃ Q, Q = UpOut w u := ⟨_, rfl⟩
  rw [← hQ]
  have HQ := Lib.hid hQ; clear hQ
  obtain ⟨w1, hw1⟩ : ∃ w1, w1 = w.alloc (.cells #[.slice a n c] 115) := ⟨_, rfl⟩
  obtain ⟨ub, hub⟩ : ∃ ub, ub = w.heap.size := ⟨_, rfl⟩
  have hg1 : w.grownBy w1 none := by rw [hw1]; exact gb_alloc (gb_refl _ _) _
  have hb1 : Blk w1 ub 115 [.slice a n c] := by rw [hw1]; exact blk_at _ _ _ hub.symm
  have HU := Lib.hid (under_any B n c a u w1 H.out.2.1 (H.out.1.stay hg1) hc)
  have x0 := hb1.cell (i := 0) rfl
  have HG1 := Lib.hid (And.intro hg1 hb1); clear hg1 hb1
  go_enter Tryz.func73, Tryz.ntmps73
  go_wp2_with fail
  rw [← hw1, ← hub]
  clear hw1 hub
  refine HU.out.mono ?_
  rintro e w2 ⟨N, rfl, hg, hU⟩
  have hg2 := gb_trans HG1.out.1 hg
  have hb2 := HG1.out.2.grown hg (by simp)
  have y0 := hb2.cell (i := 0) rfl
  have HG2 := Lib.hid (And.intro hg2 (And.intro hb2 hU)); clear hg hU hg2 hb2 x0
  have HSY := Lib.hid (fun w' (hg : w2.grownBy w' none) x => says_any N u x w' (HG2.out.2.2.stay hg) H.out.2.2.1)
  go_wp2_with fail
  go_loopw [2, 12] (fun v i wr => ∃ (k : Nat), k ≤ n ∧ i = .int .i64 k ∧ Hid (w2.grownBy wr none ∧ ∃ out : List E, out.length ≤ k ∧ recs out = (recs (u.take k)).filter (fun r => !underB (recs u) r) ∧ OwnAll wr w2.heap.size v out)) (fun _ i _ => n - (intOf i).toNat)
  case atStart => exact ⟨0, by omega, rfl, gb_refl _ _, [], by simp, by simp [recs], World.ownsRow_nil _ _ _ _, fun x hx => by cases hx⟩
  case round =>
    obtain ⟨k, hk, rfl, HI⟩ := hrel
    by_cases hlt : k < n
    · have hkl : k < u.length := by rw [H.out.2.1]; exact hlt
      obtain ⟨pb, po, rfl, hpb, hcs⟩ := (H.out.1.stay (gb_trans HG2.out.1 HI.out.1)).at (by omega)
      have hx := hcs k hkl
      have hra := (H.out.1.stay (gb_trans HG2.out.1 HI.out.1)).recs _ (getD_mem hkl)
      have hxs := H.out.2.2.2 _ (getD_mem hkl)
      have hrt := recs_take u k hkl
      have HS1 := Lib.hid (fun w' (hg : w2.grownBy w' none) => HSY.out w' hg (u.getD k e0))
      generalize u.getD k e0 = x at *
      have HAP := Lib.hid (fun w' (hg : wr.grownBy w' none) => apart_any x B w' (hra.stay hg) hxs)
      obtain ⟨b, hb⟩ : ∃ b, underB (recs u) x.2 = b := ⟨_, rfl⟩
      rw [hb] at HS1
      have HF : Hid ((recs (u.take (k + 1))).filter (fun r => !underB (recs u) r) = (recs (u.take k)).filter (fun r => !underB (recs u) r) ++ if b then [] else [x.2]) := by
        show _ = _
        rw [hrt, List.filter_append]
        congr 1
        rw [List.filter_cons, hb]
        cases b <;> rfl
      clear hra hxs hrt hb hcs
      have HXV : Hid (recV x = recV x) := rfl
      obtain ⟨⟨s, a1, n1, c1, a2, n2, c2, a3, n3, c3⟩, ⟨key, cl, sq, cx, g, val, sig⟩⟩ := x
      obtain ⟨c0', c1', c2', c3', c4', c5', c6'⟩ := cells_of hx
      have hgA := gb_alloc (gb_refl wr none) (.cells #[.string s, iV cl, iV sq, .slice a1 n1 c1, .bool g, .slice a2 n2 c2, .slice a3 n3 c3] 66)
      obtain ⟨w3, hw3⟩ : ∃ w3, w3 = wr.alloc (.cells #[.string s, iV cl, iV sq, .slice a1 n1 c1, .bool g, .slice a2 n2 c2, .slice a3 n3 c3] 66) := ⟨_, rfl⟩
      obtain ⟨M, hM⟩ : ∃ M, M = wr.heap.size := ⟨_, rfl⟩
      have hbM : Blk w3 M 66 [.string s, iV cl, iV sq, .slice a1 n1 c1, .bool g, .slice a2 n2 c2, .slice a3 n3 c3] := by rw [hw3]; exact blk_at _ _ _ hM.symm
      rw [← hw3] at hgA
      have HG3 := Lib.hid (And.intro hgA hbM); clear hgA hbM hx HXV
      replace HS1 : Hid (∀ w', w2.grownBy w' none → Calls Tryz.prog 186 #[vV s cl sq a1 n1 c1 g a2 n2 c2 a3 n3 c3, .pointer (some ⟨N, 0, none⟩)] w' fun e w'' => e = .returned (.bool b) ∧ w'.grownBy w'' none) := HS1
      replace HAP : Hid (∀ w', wr.grownBy w' none → Calls Tryz.prog 132 #[vV s cl sq a1 n1 c1 g a2 n2 c2 a3 n3 c3] w' (CpOut w' ⟨key, cl, sq, cx, g, val, sig⟩)) := HAP
      have hi : (k : Int) < (n : Int) := by omega
      go_wp2_with fail
      rw [← hw3, ← hM]
      clear hw3 hM c0' c1' c2' c3' c4' c5' c6'
      refine (HS1.out w3 (gb_trans HI.out.1 HG3.out.1)).mono ?_
      rintro e w4 ⟨rfl, hg4⟩
      have hbM := HG3.out.2.grown hg4 (by simp)
      have m0 := hbM.cell (i := 0) rfl
      have m1 := hbM.cell (i := 1) rfl
      have m2 := hbM.cell (i := 2) rfl
      have m3 := hbM.cell (i := 3) rfl
      have m4 := hbM.cell (i := 4) rfl
      have m5 := hbM.cell (i := 5) rfl
      have m6 := hbM.cell (i := 6) rfl
      have HG4 := Lib.hid (gb_trans HG3.out.1 hg4); clear hg4 hbM
      cases b with
      | true =>
        obtain ⟨out, hol, hoe, hoo⟩ := HI.out.2
        have HE := Lib.hid (And.intro (gb_trans HI.out.1 HG4.out) (show ∃ out : List E, out.length ≤ k + 1 ∧ recs out = (recs (u.take (k + 1))).filter (fun r => !underB (recs u) r) ∧ OwnAll w4 w2.heap.size u2 out from ⟨out, by omega, by rw [HF.out, hoe]; simp, hoo.stay HG4.out⟩))
        clear hol hoe hoo
        go_wp2
        exact ⟨⟨k + 1, by omega, rfl, HE.out⟩, by show n - ((k : Int) + 1).toNat < n - (k : Int).toNat; omega⟩
      | false =>
        go_wp2_with fail
        refine (HAP.out w4 HG4.out).mono ?_
        rintro e w5 ⟨q, rfl, hg5, hro⟩
        obtain ⟨t, b1, e1, d1, b2, e2, d2, b3, e3, d3⟩ := q
        have HV : (L.mk t b1 e1 d1 b2 e2 d2 b3 e3 d3).v ⟨key, cl, sq, cx, g, val, sig⟩ = .agg #[.string t, iV cl, iV sq, .slice b1 e1 d1, .bool g, .slice b2 e2 d2, .slice b3 e3 d3] := rfl
        rw [HV]
        obtain ⟨out, hol, hoe, hoo⟩ := HI.out.2
        have hgw := gb_trans HG4.out hg5
        have hgx := gb_alloc hgw (.cells #[.string t, iV cl, iV sq, .slice b1 e1 d1, .bool g, .slice b2 e2 d2, .slice b3 e3 d3] 66)
        have hoo5 := hoo.stay hgx
        obtain ⟨v', w', hap, ho', hg'⟩ := append_recT 111 Tryz.underlying111 (w5.alloc (.cells #[.string t, iV cl, iV sq, .slice b1 e1 d1, .bool g, .slice b2 e2 d2, .slice b3 e3 d3] 66)) w2.heap.size u2 out w5.heap.size 0 1 ((⟨t, b1, e1, d1, b2, e2, d2, b3, e3, d3⟩, ⟨key, cl, sq, cx, g, val, sig⟩) : E) hoo5.1 (fun j z hz => by rw [Nat.zero_add]; exact (Blk.new w5 [.string t, iV cl, iV sq, .slice b1 e1 d1, .bool g, .slice b2 e2 d2, .slice b3 e3 d3] 66).cell hz) (by omega) (Nat.le_trans HI.out.1.size hgx.size)
        have hro' : ROwn w' w2.heap.size (L.mk t b1 e1 d1 b2 e2 d2 b3 e3 d3) ⟨key, cl, sq, cx, g, val, sig⟩ := rown_app hoo5.1 ((ROwn.mono hro (Nat.le_trans HI.out.1.size HG4.out.size)).stay (gb_alloc (gb_refl _ _) _)) hg'
        have hgo : w2.grownBy w' none := gb_ownR (gb_trans HI.out.1 hgx) hoo5.1 (Nat.le_refl _) hg'
        have HE : Hid (w2.grownBy w' none ∧ ∃ out : List E, out.length ≤ k + 1 ∧ recs out = (recs (u.take (k + 1))).filter (fun r => !underB (recs u) r) ∧ OwnAll w' w2.heap.size v' out) := by
          refine ⟨hgo, out ++ [((⟨t, b1, e1, d1, b2, e2, d2, b3, e3, d3⟩, ⟨key, cl, sq, cx, g, val, sig⟩) : E)], by simp; omega, ?_, ho', fun y hy => ?_⟩
          · rw [HF.out, ← hoe]; simp [recs]
          · rcases List.mem_append.1 hy with hy | hy
            · exact rown_app hoo5.1 (hoo5.2 y hy) hg'
            · rw [List.mem_singleton.1 hy]; exact hro'
        have HS : Hid (∃ a c, u2 = .slice a out.length c) := by
          obtain ⟨a, c, e⟩ := own_shapeR hoo.1
          exact ⟨a, c, e⟩
        clear hol hoe hoo hgw hgx hoo5 ho' hg' hro' hgo hro hg5 HV
        go_wp2_with (at_builtin; refine Lib.wpList_append_run _ rfl _ _ _ _ rfl _ _ rfl rfl _ _ hap ?_)
        exact ⟨⟨k + 1, by omega, rfl, HE.out⟩, by show n - ((k : Int) + 1).toNat < n - (k : Int).toNat; omega⟩
    · obtain rfl : k = n := by omega
      obtain ⟨out, hol, hoe, hoo⟩ := HI.out.2
      have HE : Hid (Q (.returned u2) wr) := by
        show Q _ _
        rw [HQ.out]
        refine ⟨u2, out, rfl, ?_, OwnAll.mono hoo HG2.out.1.size, gb_trans HG2.out.1 HI.out.1⟩
        rw [hoe, List.take_of_length_le (by rw [H.out.2.1]; exact Nat.le_refl _)]; rfl
      clear hlt hol hoe hoo
      go_wp2
      exact HE.out
end Sb
end Go.Proofs.YtlkiancedgaicaaGreat

/- try: what the call tells; where it panics, nothing, and the error. -/
namespace Go.Proofs.YtlkiancedgaicaaGreat
open Go.RowKit Ow Wi Ve Rc
namespace Sb
theorem smakeF : ∀ (fn : Fn) (first cap : Array Value) (w : World), (Instr.makeFunc fn first cap).run Tryz.prog w = .ok (.func fn first cap) w := fun _ _ _ _ => rfl
/-- the world with the error's box -/
abbrev ebox (w : World) : World := w.alloc (.cells #[.int .i64 0] 51)
theorem ebox_gb (w : World) : w.grownBy (ebox w) none := gb_alloc (gb_refl _ _) _
theorem ebox_size (w : World) : (ebox w).heap.size = w.heap.size + 1 := by simp
theorem ebox_blk (w : World) : Blk (ebox w) w.heap.size 51 [.int .i64 0] := Blk.new w _ _
theorem scaughtR (N : Nat) (x : Value) (u : TypeId) (pv : Value) (older : List PanicEntry) (w : World) (hb : Blk w N 51 [x]) :
    CallsD Tryz.prog 125 #[.pointer (some ⟨N, 0, none⟩)] (.panicking ({ v := .iface u pv, recovered := false } :: older)) w fun e u' w' =>
      e = .returned (.tuple #[]) ∧ u' = .panicking ({ v := .iface u pv, recovered := true } :: older) ∧ w.grownBy w' (some N) ∧ Blk w' N 51 [.int .i64 4] := by
  have c0 := hb.cell (i := 0) rfl
  have f0 := hb.free 0
  refine callsD_of_wpS Tryz.func125 rfl fun c₀ cs hu => ?_
  apply wpS_seq
  apply wpS_region
  simp [wpOpsS, go_sem, recoverD, hu, Tryz.ntmps125, Exit.thenS]
  refine wpS_cond (t := true) (by simp [Act.eval, Array.replicate]) ?_
  simp only [if_true]
  refine wpS_of_wp ?_
  go_wp2
  exact ⟨rfl, _, rfl, .tuple #[], results_none rfl _ _ _, rfl, rfl, gb_set (gb_refl _ _) 0 _, hb.set 0 _⟩
theorem sidleR (p : Addr) (w : World) :
    CallsD Tryz.prog 125 #[.pointer (some p)] .returning w fun e u' w' => e = .returned (.tuple #[]) ∧ u' = .returning ∧ w' = w := by
  refine callsD_of_wpS Tryz.func125 rfl fun c₀ cs hu => ?_
  apply wpS_seq
  apply wpS_region
  simp [wpOpsS, go_sem, recoverD, hu, Tryz.ntmps125, Exit.thenS]
  refine wpS_cond (t := false) (by simp [Act.eval, Array.replicate]) ?_
  simp only [Bool.false_eq_true, if_false]
  refine wpS_of_wp (wp_skip ?_)
  cases c₀
  simp_all [bodyPostS, results, Tryz.results125]
theorem stryR_yes (g : Nat) (first cap : Array Value) (w : World) (Q : Value → World → Prop)
    (eg : ∀ args w, (callFunc g args).run Tryz.prog w = .ok (.enter g args) w)
    (hin : Calls Tryz.prog g (first ++ #[] ++ cap) (ebox w) fun e w' => ∃ x, e = .returned x ∧ (ebox w).grownBy w' none ∧ Q x w') :
    Calls Tryz.prog 70 #[.func (.func g) first cap] w fun e w' => ∃ x w2, e = .returned (.tuple #[x, .int .i64 0]) ∧ (ebox w).grownBy w2 none ∧ Q x w2 ∧ w' = w2.setCell ⟨w.heap.size, 0, none⟩ (.int .i64 0) := by
  have HI := Lib.hid hin; clear hin
  have hmf := smakeF
  go_enter_defers Tryz.func70, Tryz.ntmps70
  go_wp2_with (fail)
  refine HI.out.mono ?_
  rintro e w2 ⟨x, rfl, hg, hq⟩
  have HQ := Lib.hid (And.intro hg hq)
  have hb := (ebox_blk w).grown hg (by simp)
  have c0 := hb.cell (i := 0) rfl
  have f0 := hb.free 0
  have HB := Lib.hid (hb.set 0 (.int .i64 0))
  clear hg hq hb
  go_wp2_with (fail)
  refine leaves_cons (f := 125) (args := #[.pointer (some ⟨w.heap.size, 0, none⟩)]) (by simp) (by simp [go_sem]) ?_
  refine (sidleR _ _).mono ?_
  rintro e u' w'' ⟨rfl, rfl, rfl⟩
  have c1 := HB.out.cell (i := 0) rfl
  simp [Leaves, settle, results, Tryz.results70, go_sem, loadVar, c1]
  exact ⟨w2, HQ.out.1, HQ.out.2, rfl⟩
theorem stryR_no (g : Nat) (first cap : Array Value) (w : World)
    (eg : ∀ args w, (callFunc g args).run Tryz.prog w = .ok (.enter g args) w)
    (hin : Calls Tryz.prog g (first ++ #[] ++ cap) (ebox w) fun e w' => Dies e ∧ (ebox w).grownBy w' none) :
    Calls Tryz.prog 70 #[.func (.func g) first cap] w fun e w' => e = .returned (.tuple #[.slice none 0 0, .int .i64 4]) ∧ w.grownBy w' none := by
  have HI := Lib.hid hin; clear hin
  have hmf := smakeF
  go_enter_defers Tryz.func70, Tryz.ntmps70
  go_wp2_with (fail)
  refine HI.out.mono ?_
  rintro e w2 ⟨⟨u, pv, rfl⟩, hg⟩
  have hb := (ebox_blk w).grown hg (by simp)
  have HQ := Lib.hid hg; clear hg
  refine leaves_cons (f := 125) (args := #[.pointer (some ⟨w.heap.size, 0, none⟩)]) (by simp) (by simp [go_sem]) ?_
  refine (scaughtR w.heap.size _ u pv [] w2 hb).mono ?_
  rintro e u' w'' ⟨rfl, rfl, hg3, hb3⟩
  have c1 := hb3.cell (i := 0) rfl
  simp [Leaves, settle, results, Tryz.results70, go_sem, loadVar, c1]
  exact gb_then (gb_trans (ebox_gb w) HQ.out) hg3 (Nat.le_refl _)
theorem scaughtB (N : Nat) (x : Value) (u : TypeId) (pv : Value) (older : List PanicEntry) (w : World) (hb : Blk w N 51 [x]) :
    CallsD Tryz.prog 141 #[.pointer (some ⟨N, 0, none⟩)] (.panicking ({ v := .iface u pv, recovered := false } :: older)) w fun e u' w' =>
      e = .returned (.tuple #[]) ∧ u' = .panicking ({ v := .iface u pv, recovered := true } :: older) ∧ w.grownBy w' (some N) ∧ Blk w' N 51 [.int .i64 4] := by
  have c0 := hb.cell (i := 0) rfl
  have f0 := hb.free 0
  refine callsD_of_wpS Tryz.func141 rfl fun c₀ cs hu => ?_
  apply wpS_seq
  apply wpS_region
  simp [wpOpsS, go_sem, recoverD, hu, Tryz.ntmps141, Exit.thenS]
  refine wpS_cond (t := true) (by simp [Act.eval, Array.replicate]) ?_
  simp only [if_true]
  refine wpS_of_wp ?_
  go_wp2
  exact ⟨rfl, _, rfl, .tuple #[], results_none rfl _ _ _, rfl, rfl, gb_set (gb_refl _ _) 0 _, hb.set 0 _⟩
theorem sidleB (p : Addr) (w : World) :
    CallsD Tryz.prog 141 #[.pointer (some p)] .returning w fun e u' w' => e = .returned (.tuple #[]) ∧ u' = .returning ∧ w' = w := by
  refine callsD_of_wpS Tryz.func141 rfl fun c₀ cs hu => ?_
  apply wpS_seq
  apply wpS_region
  simp [wpOpsS, go_sem, recoverD, hu, Tryz.ntmps141, Exit.thenS]
  refine wpS_cond (t := false) (by simp [Act.eval, Array.replicate]) ?_
  simp only [Bool.false_eq_true, if_false]
  refine wpS_of_wp (wp_skip ?_)
  cases c₀
  simp_all [bodyPostS, results, Tryz.results141]
theorem stryB_yes (g : Nat) (first cap : Array Value) (w : World) (Q : Value → World → Prop)
    (eg : ∀ args w, (callFunc g args).run Tryz.prog w = .ok (.enter g args) w)
    (hin : Calls Tryz.prog g (first ++ #[] ++ cap) (ebox w) fun e w' => ∃ x, e = .returned x ∧ (ebox w).grownBy w' none ∧ Q x w') :
    Calls Tryz.prog 82 #[.func (.func g) first cap] w fun e w' => ∃ x w2, e = .returned (.tuple #[x, .int .i64 0]) ∧ (ebox w).grownBy w2 none ∧ Q x w2 ∧ w' = w2.setCell ⟨w.heap.size, 0, none⟩ (.int .i64 0) := by
  have HI := Lib.hid hin; clear hin
  have hmf := smakeF
  go_enter_defers Tryz.func82, Tryz.ntmps82
  go_wp2_with (fail)
  refine HI.out.mono ?_
  rintro e w2 ⟨x, rfl, hg, hq⟩
  have HQ := Lib.hid (And.intro hg hq)
  have hb := (ebox_blk w).grown hg (by simp)
  have c0 := hb.cell (i := 0) rfl
  have f0 := hb.free 0
  have HB := Lib.hid (hb.set 0 (.int .i64 0))
  clear hg hq hb
  go_wp2_with (fail)
  refine leaves_cons (f := 141) (args := #[.pointer (some ⟨w.heap.size, 0, none⟩)]) (by simp) (by simp [go_sem]) ?_
  refine (sidleB _ _).mono ?_
  rintro e u' w'' ⟨rfl, rfl, rfl⟩
  have c1 := HB.out.cell (i := 0) rfl
  simp [Leaves, settle, results, Tryz.results82, go_sem, loadVar, c1]
  exact ⟨w2, HQ.out.1, HQ.out.2, rfl⟩
theorem stryB_no (g : Nat) (first cap : Array Value) (w : World)
    (eg : ∀ args w, (callFunc g args).run Tryz.prog w = .ok (.enter g args) w)
    (hin : Calls Tryz.prog g (first ++ #[] ++ cap) (ebox w) fun e w' => Dies e ∧ (ebox w).grownBy w' none) :
    Calls Tryz.prog 82 #[.func (.func g) first cap] w fun e w' => e = .returned (.tuple #[.slice none 0 0, .int .i64 4]) ∧ w.grownBy w' none := by
  have HI := Lib.hid hin; clear hin
  have hmf := smakeF
  go_enter_defers Tryz.func82, Tryz.ntmps82
  go_wp2_with (fail)
  refine HI.out.mono ?_
  rintro e w2 ⟨⟨u, pv, rfl⟩, hg⟩
  have hb := (ebox_blk w).grown hg (by simp)
  have HQ := Lib.hid hg; clear hg
  refine leaves_cons (f := 141) (args := #[.pointer (some ⟨w.heap.size, 0, none⟩)]) (by simp) (by simp [go_sem]) ?_
  refine (scaughtB w.heap.size _ u pv [] w2 hb).mono ?_
  rintro e u' w'' ⟨rfl, rfl, hg3, hb3⟩
  have c1 := hb3.cell (i := 0) rfl
  simp [Leaves, settle, results, Tryz.results82, go_sem, loadVar, c1]
  exact gb_then (gb_trans (ebox_gb w) HQ.out) hg3 (Nat.le_refl _)
end Sb
end Go.Proofs.YtlkiancedgaicaaGreat

/- Join: what sets are, joined. -/
namespace Go.Proofs.YtlkiancedgaicaaGreat
open Go.RowKit Ow Wi Ve Rc
namespace Sb
theorem join_eq {F l' : List E} (h : alikeB (recs F) = true) (hp : l'.Perm F) (hs : l'.Pairwise (fun a b => lessD b.2 a.2 = false)) : topF (recs (uniG dotR l')) = joinL (recs F) := by
  have e : recs (uniG dotR l') = uniG id (recs l') := uniG_map dotR l'
  rw [e]
  symm
  refine join_is (fun x hx => ((alike_iff _).1 h x hx).1) (fun x => ?_) ?_
  · constructor
    · intro hx; obtain ⟨y, hy, rfl⟩ := List.mem_map.1 hx; exact List.mem_map.2 ⟨y, hp.mem_iff.1 hy, rfl⟩
    · intro hx; obtain ⟨y, hy, rfl⟩ := List.mem_map.1 hx; exact List.mem_map.2 ⟨y, hp.mem_iff.2 hy, rfl⟩
  · exact List.pairwise_map.2 hs
def JoinIn (w : World) (F : List E) (e : Ending) (w' : World) : Prop :=
  (alikeB (recs F) = true ∧ (∃ (v : Value) (out : List E), e = .returned v ∧ recs out = joinL (recs F) ∧ OwnAll w' w.heap.size v out) ∨ alikeB (recs F) = false ∧ Dies e) ∧ w.grownBy w' none
set_option maxHeartbeats 1000000 in
theorem join1_any (m cap B N : Nat) (S : List (List E)) (a : Option Addr) (w : World) (hm : S.length = m) (hS : SRow w B a S) (hm2 : m < 9223372036854775808) (hlen : S.flatten.length ≤ 1000000) (hsz : ∀ x ∈ S.flatten, x.1.n1 ≤ 1000000 ∧ x.1.n2 ≤ 1000000 ∧ x.1.n3 ≤ 1000000) (hN : w.cell? ⟨N, 0, none⟩ = some (.slice a m cap)) :
    Calls Tryz.prog 71 #[.pointer (some ⟨N, 0, none⟩)] w (JoinIn w S.flatten) := by
  obtain ⟨Q, hQ⟩ : ∃ Q, Q = JoinIn w S.flatten := ⟨_, rfl⟩
  rw [← hQ]
  have HQ := Lib.hid hQ; clear hQ
  have hrec := hS.recs
  have HU := Lib.hid (unite_any m cap B S a w hm hS hm2 hlen)
  have HR := Lib.hid (And.intro hrec (And.intro hsz hlen)); clear hrec hsz hS hm hlen
  generalize S.flatten = F at *
  go_enter Tryz.func71, Tryz.ntmps71
  go_wp2_with fail
  refine HU.out.mono ?_
  rintro e w2 ⟨⟨hal, v, l', rfl, hp, hs, ho⟩ | ⟨hal, ⟨u, pv, rfl⟩⟩, hg⟩
  · obtain ⟨hsub, hul⟩ := uniG_sub l' l'.length (Nat.le_refl _)
    rw [List.take_length] at hsub hul
    have hmem : ∀ x ∈ uniG dotR l', x ∈ F := fun x hx => hp.mem_iff.1 (hsub x hx)
    have hll := hp.length_eq
    obtain ⟨au, cu, rfl, _, _, hR2⟩ := own_recs ho (fun x hx => ((HR.out.1 x (hmem x hx)).stay hg).full)
    have hcx : ∀ r ∈ recs (uniG dotR l'), Rt 0 r.cx := fun r hr => by
      obtain ⟨x, hx, rfl⟩ := List.mem_map.1 hr
      exact alike_cx hal x.2 (List.mem_map.2 ⟨x, hmem x hx, rfl⟩)
    have HP := Lib.hid (upper_any w2.heap.size (uniG dotR l').length cu au (uniG dotR l') w2 rfl hR2 (by have := HR.out.2.2; omega) hcx (fun x hx => HR.out.2.1 x (hmem x hx)))
    have HJ := Lib.hid (And.intro hal (And.intro hg (join_eq hal hp hs)))
    clear hsub hul hmem hcx hR2 hal hg hp hs ho hll
    go_wp2_with fail
    refine HP.out.mono ?_
    rintro e w3 ⟨v, out, rfl, hout, hoo, hg3⟩
    have HE : Hid (Q (.returned v) w3) := by
      show Q _ _
      rw [HQ.out]
      exact ⟨Or.inl ⟨HJ.out.1, v, out, rfl, hout.trans HJ.out.2.2, OwnAll.mono hoo HJ.out.2.1.size⟩, gb_trans HJ.out.2.1 hg3⟩
    clear hout hoo hg3
    go_wp2
    exact HE.out
  · exact ⟨rfl, by rw [HQ.out]; exact ⟨Or.inr ⟨hal, ⟨u, pv, rfl⟩⟩, hg⟩⟩
theorem enter_join1 : ∀ args w, (callFunc 71 args).run Tryz.prog w = .ok (.enter 71 args) w := enters_of Tryz.func71 (by kernel_rfl) rfl
/-- what Join tells -/
def joinO (l : List R) : List R := if alikeB l then joinL l else []
def JoinedAt (w : World) (F : List E) (e : Ending) (w' : World) : Prop :=
  ∃ (v : Value) (out : List E), e = .returned (.tuple #[v, .int .i64 (errN (alikeB (recs F)) 4)]) ∧ recs out = joinO (recs F) ∧ OwnAll w' w.heap.size v out ∧ w.grownBy w' none
set_option maxHeartbeats 1000000 in
theorem sjoin_any (m cap B : Nat) (S : List (List E)) (a : Option Addr) (w : World) (hm : S.length = m) (hS : SRow w B a S) (hm2 : m < 9223372036854775808) (hlen : S.flatten.length ≤ 1000000) (hsz : ∀ x ∈ S.flatten, x.1.n1 ≤ 1000000 ∧ x.1.n2 ≤ 1000000 ∧ x.1.n3 ≤ 1000000) :
    Calls Tryz.prog 37 #[.slice a m cap] w (JoinedAt w S.flatten) := by
  obtain ⟨w1, hw1⟩ : ∃ w1, w1 = w.alloc (.cells #[.slice a m cap] 55) := ⟨_, rfl⟩
  obtain ⟨N, hN⟩ : ∃ N, N = w.heap.size := ⟨_, rfl⟩
  have hg1 : w.grownBy w1 none := by rw [hw1]; exact gb_alloc (gb_refl _ _) _
  have hb1 : Blk w1 N 55 [.slice a m cap] := by rw [hw1]; exact blk_at _ _ _ hN.symm
  have hj := join1_any m cap B N S a (ebox w1) hm (hS.stay (gb_trans hg1 (ebox_gb w1))) hm2 hlen hsz ((hb1.grown (ebox_gb w1) (by simp)).cell (i := 0) rfl)
  have hmf := smakeF
  cases hal : alikeB (recs S.flatten) with
  | true =>
    have HT := Lib.hid (stryR_yes 71 #[] #[.pointer (some ⟨N, 0, none⟩)] w1 (fun v w' => ∃ out, recs out = joinL (recs S.flatten) ∧ OwnAll w' (ebox w1).heap.size v out) enter_join1 (hj.mono fun e w' ⟨ho, hg⟩ => by
      rcases ho with ⟨_, v, out, rfl, h1, h2⟩ | ⟨h1, _⟩
      · exact ⟨v, rfl, hg, out, h1, h2⟩
      · rw [hal] at h1; cases h1))
    have HG := Lib.hid hg1; clear hj hg1 hb1 hS hm hlen hsz
    have HE : Hid (∀ (v : Value) (out : List E) (w' : World), recs out = joinL (recs S.flatten) → OwnAll w' w.heap.size v out → w.grownBy w' none → JoinedAt w S.flatten (.returned (.tuple #[v, .int .i64 0])) w') := fun v out w' h1 h2 h3 => ⟨v, out, by rw [hal]; rfl, by unfold joinO; rw [hal]; exact h1, h2, h3⟩
    generalize JoinedAt w S.flatten = Q at *
    clear hal
    go_enter Tryz.func37, Tryz.ntmps37
    go_wp2_with fail
    rw [← hw1, ← hN]
    clear hw1 hN
    refine HT.out.mono ?_
    rintro e w' ⟨v, w2, rfl, hg, ⟨out, h1, h2⟩, rfl⟩
    have hes := ebox_size w1
    have hs := gb_set (gb_refl w2 (some w1.heap.size)) 0 (.int .i64 0)
    have HF := Lib.hid (HE.out v out _ h1 (OwnAll.mono (OwnAll.beside h2 hs (by omega)) (by have := HG.out.size; omega)) (gb_then (gb_trans (gb_trans HG.out (ebox_gb w1)) hg) hs HG.out.size))
    clear h1 h2 hg hs hes
    generalize w2.setCell ⟨w1.heap.size, 0, none⟩ (.int .i64 0) = w3 at *
    go_wp2
    exact HF.out
  | false =>
    have HT := Lib.hid (stryR_no 71 #[] #[.pointer (some ⟨N, 0, none⟩)] w1 enter_join1 (hj.mono fun e w' ⟨ho, hg⟩ => by
      rcases ho with ⟨h1, _⟩ | ⟨_, h1⟩
      · rw [hal] at h1; cases h1
      · exact ⟨h1, hg⟩))
    have HG := Lib.hid hg1; clear hj hg1 hb1 hS hm hlen hsz
    have HE : Hid (∀ (w' : World), w.grownBy w' none → JoinedAt w S.flatten (.returned (.tuple #[.slice none 0 0, .int .i64 4])) w') := fun w' h3 => ⟨_, [], by rw [hal]; rfl, by unfold joinO; rw [hal]; rfl, ⟨World.ownsRow_nil _ _ _ _, fun x hx => by cases hx⟩, h3⟩
    generalize JoinedAt w S.flatten = Q at *
    clear hal
    go_enter Tryz.func37, Tryz.ntmps37
    go_wp2_with fail
    rw [← hw1, ← hN]
    clear hw1 hN
    refine HT.out.mono ?_
    rintro e w' ⟨rfl, hg⟩
    have HF := Lib.hid (HE.out w' (gb_trans HG.out hg)); clear hg
    go_wp2
    exact HF.out
end Sb
end Go.Proofs.YtlkiancedgaicaaGreat

/- Right: whether a row is a right set. -/
namespace Go.Proofs.YtlkiancedgaicaaGreat
open Go.RowKit Ow Wi Ve Rc
namespace Sb
theorem enter_checked : ∀ args w, (callFunc 84 args).run Tryz.prog w = .ok (.enter 84 args) w := enters_of Tryz.func84 (by kernel_rfl) rfl
set_option maxHeartbeats 1000000 in
theorem sright_any (B n c : Nat) (a : Option Addr) (l : List E) (w : World) (hn : l.length = n) (h : RRow w B a l) (hc : n ≤ 1000000) :
    Calls Tryz.prog 44 #[.slice a n c] w fun e w' => e = .returned (.bool (setB (recs l))) ∧ w.grownBy w' none := by
  have hmf := smakeF
  cases hs : setB (recs l) with
  | true =>
    have HT := Lib.hid (stryR_yes 84 #[.slice a n c] #[] w (fun _ _ => True) enter_checked ((checked_any B n c a l (ebox w) hn (h.stay (ebox_gb w)) hc).mono fun e w' ⟨ho, hg⟩ => by
      rcases ho with ⟨_, rfl⟩ | ⟨h1, _⟩
      · exact ⟨_, rfl, hg, trivial⟩
      · rw [hs] at h1; cases h1))
    clear h hs
    go_enter Tryz.func44, Tryz.ntmps44
    go_wp2_with fail
    refine HT.out.mono ?_
    rintro e w' ⟨x, w2, rfl, hg, _, rfl⟩
    have HG := Lib.hid (gb_then (gb_trans (ebox_gb w) hg) (gb_set (gb_refl w2 (some w.heap.size)) 0 (.int .i64 0)) (Nat.le_refl _) (row := none)); clear hg
    generalize w2.setCell ⟨w.heap.size, 0, none⟩ (.int .i64 0) = w3 at *
    go_wp2
    go_ret
    exact ⟨rfl, HG.out⟩
  | false =>
    have HT := Lib.hid (stryR_no 84 #[.slice a n c] #[] w enter_checked ((checked_any B n c a l (ebox w) hn (h.stay (ebox_gb w)) hc).mono fun e w' ⟨ho, hg⟩ => by
      rcases ho with ⟨h1, _⟩ | ⟨_, hd⟩
      · rw [hs] at h1; cases h1
      · exact ⟨hd, hg⟩))
    clear h hs
    go_enter Tryz.func44, Tryz.ntmps44
    go_wp2_with fail
    refine HT.out.mono ?_
    rintro e w' ⟨rfl, hg⟩
    have HG := Lib.hid hg; clear hg
    go_wp2
    go_ret
    exact ⟨rfl, HG.out⟩
end Sb
end Go.Proofs.YtlkiancedgaicaaGreat

/- Put of no record: eight noughts. -/
namespace Go.Proofs.YtlkiancedgaicaaGreat
open Go.RowKit Ow Wi Ve Rc
namespace Sb
set_option maxHeartbeats 1000000 in
theorem bytes_nil (w : World) : Calls Tryz.prog 85 #[.slice none 0 0] w fun e w' => ∃ v, e = .returned v ∧ w.grownBy w' none ∧ w'.ownsRow w.heap.size 5 1 v 8 ((encN 0).map u8N) := by
  have HN := Lib.hid (number_out 0 w)
  have he : (encN 0).length = 8 := encN_length 0
  have hfl : [encN 0].flatten = encN 0 := by simp
  obtain ⟨Q, hQ⟩ : ∃ Q : Ending → World → Prop, Q = fun e w' => ∃ v, e = .returned v ∧ w.grownBy w' none ∧ w'.ownsRow w.heap.size 5 1 v 8 ((encN 0).map u8N) := ⟨_, rfl⟩
  rw [← hQ]
  have HQ := Lib.hid hQ; clear hQ
  go_enter Tryz.func85, Tryz.ntmps85
  go_wp2_with fail
  refine HN.out.mono ?_
  rintro e w1 ⟨a, c, rfl, hg, hb⟩
  rw [he]
  have hr := rows1 he hb
  have hg1 := gb_alloc hg (.cells #[.slice a 8 c] 23)
  have HJ := Lib.hid (join_any 1 1 (w1.heap.size + 1) [encN 0] (some ⟨w1.heap.size, 0, none⟩) (w1.alloc (.cells #[.slice a 8 c] 23)) rfl hr (by decide) (by rw [hfl, he]; omega))
  rw [hfl, he] at HJ
  have HG := Lib.hid hg1; clear hg1 hr hb hg
  go_wp2
  refine wp_loop_rounds 1 ?_
  rw [rounds_succ]
  go_wp2_with fail
  refine HJ.out.mono ?_
  rintro e w2 ⟨v, rfl, hg2, ho⟩
  have HE : Hid (Q (.returned v) w2) := by
    show Q _ _
    rw [HQ.out]
    exact ⟨v, rfl, gb_trans HG.out hg2, own_down ho HG.out.size⟩
  clear hg2 ho
  go_wp2
  exact HE.out
theorem enter_put1 : ∀ args w, (callFunc 83 args).run Tryz.prog w = .ok (.enter 83 args) w := enters_of Tryz.func83 (by kernel_rfl) rfl
set_option maxHeartbeats 1000000 in
theorem put1_nil (N : Nat) (w : World) (hN : w.cell? ⟨N, 0, none⟩ = some (.slice none 0 0)) : Calls Tryz.prog 83 #[.pointer (some ⟨N, 0, none⟩)] w fun e w' => ∃ v, e = .returned v ∧ w.grownBy w' none ∧ w'.ownsRow w.heap.size 5 1 v 8 ((encN 0).map u8N) := by
  have HC := Lib.hid (checked_any w.heap.size 0 0 none [] w rfl (rrow_nil w _ none (Nat.le_refl _)) (by decide))
  have hs : setB (recs []) = true := rfl
  go_enter Tryz.func83, Tryz.ntmps83
  go_wp2_with fail
  refine HC.out.mono ?_
  rintro e w1 ⟨⟨_, rfl⟩ | ⟨h1, _⟩, hg⟩
  · have HG := Lib.hid hg; clear hg
    have HB := Lib.hid (bytes_nil w1)
    go_wp2_with fail
    refine HB.out.mono ?_
    rintro e w2 ⟨v, rfl, hg2, ho⟩
    have HE := Lib.hid (And.intro (gb_trans HG.out hg2) (own_down ho HG.out.size)); clear hg2 ho
    go_wp2
    go_ret
    exact ⟨v, rfl, HE.out⟩
  · rw [hs] at h1; cases h1
set_option maxHeartbeats 1000000 in
theorem put_nil (w : World) : Calls Tryz.prog 42 #[.slice none 0 0] w fun e w' => ∃ v, e = .returned (.tuple #[v, .int .i64 0]) ∧ w.grownBy w' none ∧ w'.ownsRow w.heap.size 5 1 v 8 ((encN 0).map u8N) := by
  have hmf := smakeF
  obtain ⟨w1, hw1⟩ : ∃ w1, w1 = w.alloc (.cells #[.slice none 0 0] 48) := ⟨_, rfl⟩
  obtain ⟨N, hN⟩ : ∃ N, N = w.heap.size := ⟨_, rfl⟩
  have hg1 : w.grownBy w1 none := by rw [hw1]; exact gb_alloc (gb_refl _ _) _
  have hb1 : Blk w1 N 48 [.slice none 0 0] := by rw [hw1]; exact blk_at _ _ _ hN.symm
  have HT := Lib.hid (stryB_yes 83 #[] #[.pointer (some ⟨N, 0, none⟩)] w1 (fun v w' => w'.ownsRow (ebox w1).heap.size 5 1 v 8 ((encN 0).map u8N)) enter_put1 (put1_nil N (ebox w1) ((hb1.grown (ebox_gb w1) (by simp)).cell (i := 0) rfl)))
  have HG := Lib.hid hg1; clear hg1 hb1
  obtain ⟨Q, hQ⟩ : ∃ Q : Ending → World → Prop, Q = fun e w' => ∃ v, e = .returned (.tuple #[v, .int .i64 0]) ∧ w.grownBy w' none ∧ w'.ownsRow w.heap.size 5 1 v 8 ((encN 0).map u8N) := ⟨_, rfl⟩
  rw [← hQ]
  have HQ := Lib.hid hQ; clear hQ
  go_enter Tryz.func42, Tryz.ntmps42
  go_wp2_with fail
  rw [← hw1, ← hN]
  clear hw1 hN
  refine HT.out.mono ?_
  rintro e w' ⟨v, w2, rfl, hg, ho, rfl⟩
  have hes := ebox_size w1
  have hs := gb_set (gb_refl w2 (some w1.heap.size)) 0 (.int .i64 0)
  have HF : Hid (Q (.returned (.tuple #[v, .int .i64 0])) (w2.setCell ⟨w1.heap.size, 0, none⟩ (.int .i64 0))) := by
    show Q _ _
    rw [HQ.out]
    exact ⟨v, rfl, gb_then (gb_trans (gb_trans HG.out (ebox_gb w1)) hg) hs HG.out.size, own_down (ho.kept hs (Or.inr fun e => by have := (ho.lt _ e).1; omega)) (by have := HG.out.size; omega)⟩
  clear ho hg hs hes
  generalize w2.setCell ⟨w1.heap.size, 0, none⟩ (.int .i64 0) = w3 at *
  go_wp2
  exact HF.out
end Sb
end Go.Proofs.YtlkiancedgaicaaGreat

/- The law's own examples. -/
namespace Go.Proofs.YtlkiancedgaicaaGreat
open Go.RowKit Ow Wi Ve Rc
namespace Sb
abbrev exA : R := ofR 1 1 []
abbrev exB : R := ofR 2 1 []
abbrev exC : R := ofR 2 2 [1, 1, 2, 1]
abbrev exD : R := ofR 1 5 [2, 6]
abbrev exE : R := ofR 2 6 [1, 5]
theorem joinO_is {l p out : List R} (ha : alikeB l = true) (hp : ∀ x, x ∈ p ↔ x ∈ l) (hs : p.Pairwise (fun a b => lessD b a = false)) (ho : topF (uniG id p) = out) : joinO l = out := by
  unfold joinO
  rw [if_pos ha, join_is (fun x hx => ((alike_iff l).1 ha x hx).1) hp hs, ho]
theorem ex_al1 : alikeB [exB, exA, exA] = true := by decide +kernel
theorem ex_al2 : alikeB [exA, exC, exB] = true := by decide +kernel
theorem ex_al3 : alikeB [exD, exE] = true := by decide +kernel
theorem ex_j1 : joinO [exB, exA, exA] = [exA, exB] := joinO_is (p := [exA, exA, exB]) ex_al1 (by intro x; simp only [List.mem_cons, List.not_mem_nil, or_false]; constructor <;> (intro h; rcases h with h | h | h <;> simp [h])) (by decide +kernel) (by decide +kernel)
theorem ex_j2 : joinO [exA, exC, exB] = [exC] := joinO_is (p := [exA, exB, exC]) ex_al2 (by intro x; simp only [List.mem_cons, List.not_mem_nil, or_false]; constructor <;> (intro h; rcases h with h | h | h <;> simp [h])) (by decide +kernel) (by decide +kernel)
theorem ex_j3 : joinO [exD, exE] = [] := joinO_is (p := [exD, exE]) ex_al3 (fun _ => Iff.rfl) (by decide +kernel) (by decide +kernel)
theorem rrow_new (w : World) (T : TypeId) (l : List E) (h : ∀ x ∈ l, RAt w w.heap.size x.1 x.2) : RRow (w.alloc (.cells (recsC l).toArray T)) (w.heap.size + 1) (some ⟨w.heap.size, 0, none⟩) l := by
  refine ⟨by simp, fun x hx => RAt.up (RAt.kept (h x hx) (gb_alloc (gb_refl w none) _) (fun _ e => by cases e)) (by omega) (by simp), ?_⟩
  by_cases h0 : l.length = 0
  · exact Or.inl h0
  · refine Or.inr ⟨w.heap.size, 0, rfl, by omega, fun i hi j v hv => ?_⟩
    have hj : j < 7 := by have := (List.getElem?_eq_some_iff.1 hv).1; rwa [recC_len] at this
    have hB : Blk (w.alloc (.cells (recsC l).toArray T)) w.heap.size T (recsC l) := Blk.new w _ _
    rw [Nat.zero_add]
    exact hB.cell (by rw [recsC_at l i hi j hj]; exact hv)
theorem srow_new (w : World) (B : Nat) (T : TypeId) (L : List (Option Addr × Nat × List E)) (hB : B ≤ w.heap.size) (h : ∀ q ∈ L, RRow w B q.1 q.2.2 ∧ (q.1 = none → q.2.1 = 0)) :
    SRow (w.alloc (.cells (L.map fun q => Value.slice q.1 q.2.2.length q.2.1).toArray T)) (w.heap.size + 1) (some ⟨w.heap.size, 0, none⟩) (L.map (·.2.2)) := by
  refine ⟨by simp, ?_⟩
  by_cases h0 : L.length = 0
  · exact Or.inl (by simpa using h0)
  · refine Or.inr ⟨w.heap.size, 0, rfl, by omega, fun i hi => ?_⟩
    have hi : i < L.length := by simpa using hi
    have hq := h L[i] (List.getElem_mem hi)
    have hB' : Blk (w.alloc (.cells (L.map fun q => Value.slice q.1 q.2.2.length q.2.1).toArray T)) w.heap.size T (L.map fun q => Value.slice q.1 q.2.2.length q.2.1) := Blk.new w _ _
    have e : (L.map (·.2.2)).getD i [] = L[i].2.2 := by rw [List.getD_eq_getElem?_getD, List.getElem?_map, List.getElem?_eq_getElem hi]; rfl
    rw [e]
    refine ⟨L[i].1, L[i].2.1, ?_, (hq.1.stay (gb_alloc (gb_refl w none) _)).up (by omega) (by simp), hq.2⟩
    rw [Nat.zero_add]
    exact hB'.cell (by rw [List.getElem?_map, List.getElem?_eq_getElem hi]; rfl)
/-- Join of rows whose slices have just been laid -/
def JoinRow (w : World) (F : List R) (e : Ending) (w' : World) : Prop :=
  ∃ a c out, e = .returned (.tuple #[.slice a (recs out).length c, .int .i64 (errN (alikeB F) 4)]) ∧ recs out = joinO F ∧ RRow w' w'.heap.size a out ∧ (a = none → c = 0) ∧ out.length < 9223372036854775808 ∧ w.grownBy w' none
theorem join_lits (w : World) (T : TypeId) (q : List (Option Addr × Nat × List E)) (m : Nat) (hm : q.length = m) (hm2 : m ≤ 1000000) (hq : ∀ x ∈ q, RRow w w.heap.size x.1 x.2.2 ∧ (x.1 = none → x.2.1 = 0)) (hlen : (q.map (·.2.2)).flatten.length ≤ 1000000) (hsz : ∀ x ∈ (q.map (·.2.2)).flatten, x.1.n1 ≤ 1000000 ∧ x.1.n2 ≤ 1000000 ∧ x.1.n3 ≤ 1000000) :
    Calls Tryz.prog 37 #[.slice (some ⟨w.heap.size, 0, none⟩) m m] (w.alloc (.cells (q.map fun q => Value.slice q.1 q.2.2.length q.2.1).toArray T)) (JoinRow w (recs (q.map (·.2.2)).flatten)) :=
  (sjoin_any m m (w.heap.size + 1) (q.map (·.2.2)) (some ⟨w.heap.size, 0, none⟩) _ (by simpa using hm) (srow_new w w.heap.size T q (Nat.le_refl _) hq) (by omega) hlen hsz).mono fun e w' ⟨v, out, he, hr, ho, hg⟩ => by
    obtain ⟨a, c, rfl, hl1, hl2, hrow⟩ := ho.row
    refine ⟨a, c, out, by rw [he, recs_len], hr, hrow, ?_, by unfold maxLen at hl2; omega, gb_trans (gb_alloc (gb_refl _ _) _) hg⟩
    rcases ho.1.2 with ⟨e, _⟩ | ⟨g, c', cur, e, _⟩
    · simp only [Value.slice.injEq] at e
      exact fun _ => e.2.2
    · simp only [Value.slice.injEq] at e
      intro h0; rw [h0] at e; cases e.1
theorem of_a (w : World) : Calls Tryz.prog 48 #[.int .i64 1, .int .i64 1, .slice none 0 0] w fun e w' => ∃ a1 c1 p, e = .returned (.agg #[.string ⟨#[107]⟩, iV 1, iV 1, .slice a1 0 c1, .bool false, .slice none 0 0, .slice (some ⟨p, 0, none⟩) 64 64]) ∧ RAt w' w'.heap.size (ofE 1 1 [] a1 c1 p).1 (ofR 1 1 []) ∧ w.grownBy w' none :=
  (of_any 1 1 [] 0 0 none w rfl (Or.inl rfl) (by decide)).mono fun _ _ ⟨a, c, p, he, h, hg⟩ => ⟨a, c, p, he, h, hg⟩
theorem of_b (w : World) : Calls Tryz.prog 48 #[.int .i64 2, .int .i64 1, .slice none 0 0] w fun e w' => ∃ a1 c1 p, e = .returned (.agg #[.string ⟨#[107]⟩, iV 2, iV 1, .slice a1 0 c1, .bool false, .slice none 0 0, .slice (some ⟨p, 0, none⟩) 64 64]) ∧ RAt w' w'.heap.size (ofE 2 1 [] a1 c1 p).1 (ofR 2 1 []) ∧ w.grownBy w' none :=
  (of_any 2 1 [] 0 0 none w rfl (Or.inl rfl) (by decide)).mono fun _ _ ⟨a, c, p, he, h, hg⟩ => ⟨a, c, p, he, h, hg⟩
theorem of_c (w : World) : Calls Tryz.prog 48 #[.int .i64 2, .int .i64 2, .slice (some ⟨w.heap.size, 0, none⟩) 4 4] (w.alloc (.cells #[iV 1, iV 1, iV 2, iV 1] 3)) fun e w' => ∃ a1 c1 p, e = .returned (.agg #[.string ⟨#[107]⟩, iV 2, iV 2, .slice a1 2 c1, .bool false, .slice none 0 0, .slice (some ⟨p, 0, none⟩) 64 64]) ∧ RAt w' w'.heap.size (ofE 2 2 [1, 1, 2, 1] a1 c1 p).1 (ofR 2 2 [1, 1, 2, 1]) ∧ w.grownBy w' none :=
  (of_any 2 2 [1, 1, 2, 1] 4 4 (some ⟨w.heap.size, 0, none⟩) (w.alloc (.cells #[iV 1, iV 1, iV 2, iV 1] 3)) rfl (Or.inr ⟨w.heap.size, 0, rfl, fun i hi => by
    have hb : Blk (w.alloc (.cells #[iV 1, iV 1, iV 2, iV 1] 3)) w.heap.size 3 [iV 1, iV 1, iV 2, iV 1] := Blk.new w _ _
    rw [Nat.zero_add]
    refine hb.cell ?_
    match i, hi with
    | 0, _ => rfl
    | 1, _ => rfl
    | 2, _ => rfl
    | 3, _ => rfl⟩) (by decide)).mono fun _ _ ⟨a, c, p, he, h, hg⟩ => ⟨a, c, p, he, h, gb_trans (gb_alloc (gb_refl _ _) _) hg⟩
theorem of_d (w : World) : Calls Tryz.prog 48 #[.int .i64 1, .int .i64 5, .slice (some ⟨w.heap.size, 0, none⟩) 2 2] (w.alloc (.cells #[iV 2, iV 6] 3)) fun e w' => ∃ a1 c1 p, e = .returned (.agg #[.string ⟨#[107]⟩, iV 1, iV 5, .slice a1 1 c1, .bool false, .slice none 0 0, .slice (some ⟨p, 0, none⟩) 64 64]) ∧ RAt w' w'.heap.size (ofE 1 5 [2, 6] a1 c1 p).1 (ofR 1 5 [2, 6]) ∧ w.grownBy w' none :=
  (of_any 1 5 [2, 6] 2 2 (some ⟨w.heap.size, 0, none⟩) (w.alloc (.cells #[iV 2, iV 6] 3)) rfl (Or.inr ⟨w.heap.size, 0, rfl, fun i hi => by
    have hb : Blk (w.alloc (.cells #[iV 2, iV 6] 3)) w.heap.size 3 [iV 2, iV 6] := Blk.new w _ _
    rw [Nat.zero_add]
    refine hb.cell ?_
    match i, hi with
    | 0, _ => rfl
    | 1, _ => rfl⟩) (by decide)).mono fun _ _ ⟨a, c, p, he, h, hg⟩ => ⟨a, c, p, he, h, gb_trans (gb_alloc (gb_refl _ _) _) hg⟩
theorem of_e (w : World) : Calls Tryz.prog 48 #[.int .i64 2, .int .i64 6, .slice (some ⟨w.heap.size, 0, none⟩) 2 2] (w.alloc (.cells #[iV 1, iV 5] 3)) fun e w' => ∃ a1 c1 p, e = .returned (.agg #[.string ⟨#[107]⟩, iV 2, iV 6, .slice a1 1 c1, .bool false, .slice none 0 0, .slice (some ⟨p, 0, none⟩) 64 64]) ∧ RAt w' w'.heap.size (ofE 2 6 [1, 5] a1 c1 p).1 (ofR 2 6 [1, 5]) ∧ w.grownBy w' none :=
  (of_any 2 6 [1, 5] 2 2 (some ⟨w.heap.size, 0, none⟩) (w.alloc (.cells #[iV 1, iV 5] 3)) rfl (Or.inr ⟨w.heap.size, 0, rfl, fun i hi => by
    have hb : Blk (w.alloc (.cells #[iV 1, iV 5] 3)) w.heap.size 3 [iV 1, iV 5] := Blk.new w _ _
    rw [Nat.zero_add]
    refine hb.cell ?_
    match i, hi with
    | 0, _ => rfl
    | 1, _ => rfl⟩) (by decide)).mono fun _ _ ⟨a, c, p, he, h, hg⟩ => ⟨a, c, p, he, h, gb_trans (gb_alloc (gb_refl _ _) _) hg⟩
set_option linter.unusedSimpArgs false in
set_option maxRecDepth 100000 in
set_option maxHeartbeats 4000000 in
theorem awake9_any (w : World) : Calls Tryz.prog 35 #[] w fun e w' => e = .returned (.bool true) ∧ w.grownBy w' none := by
  have HA := Lib.hid (of_a w)
  go_enter Tryz.func35, Tryz.ntmps35
  go_wp2_with fail
  refine HA.out.mono ?_
  rintro e w1 ⟨a1, c1, p1, rfl, hR1, hg1⟩
  clear HA
  have HB := Lib.hid (of_b w1)
  go_wp2_with fail
  refine HB.out.mono ?_
  rintro e w2 ⟨a2, c2, p2, rfl, hR2, hg2⟩
  clear HB
  have HC := Lib.hid (of_c w2)
  go_wp2_with fail
  refine HC.out.mono ?_
  rintro e w3 ⟨a3, c3, p3, rfl, hR3, hg3⟩
  clear HC
  obtain ⟨W4, hW4⟩ : ∃ W4, W4 = ((w3.alloc (.cells #[.string ⟨#[107]⟩, iV 1, iV 1, .slice a1 0 c1, .bool false, .slice none 0 0, .slice (some ⟨p1, 0, none⟩) 64 64] 66)).alloc (.cells #[.string ⟨#[107]⟩, iV 2, iV 1, .slice a2 0 c2, .bool false, .slice none 0 0, .slice (some ⟨p2, 0, none⟩) 64 64] 66)).alloc (.cells #[.string ⟨#[107]⟩, iV 2, iV 2, .slice a3 2 c3, .bool false, .slice none 0 0, .slice (some ⟨p3, 0, none⟩) 64 64] 66) := ⟨_, rfl⟩
  obtain ⟨N, hN⟩ : ∃ N, N = w3.heap.size := ⟨_, rfl⟩
  have hg4 : w3.grownBy W4 none := by rw [hW4]; exact gb_alloc (gb_alloc (gb_alloc (gb_refl _ _) _) _) _
  have hb1 : Blk W4 N 66 [.string ⟨#[107]⟩, iV 1, iV 1, .slice a1 0 c1, .bool false, .slice none 0 0, .slice (some ⟨p1, 0, none⟩) 64 64] := by rw [hW4, hN]; exact ((Blk.new w3 _ _).alloc _).alloc _
  have hb2 : Blk W4 (N + 1) 66 [.string ⟨#[107]⟩, iV 2, iV 1, .slice a2 0 c2, .bool false, .slice none 0 0, .slice (some ⟨p2, 0, none⟩) 64 64] := by rw [hW4]; refine Blk.alloc (blk_at _ _ _ ?_) _; simp [hN]
  have hb3 : Blk W4 (N + 1 + 1) 66 [.string ⟨#[107]⟩, iV 2, iV 2, .slice a3 2 c3, .bool false, .slice none 0 0, .slice (some ⟨p3, 0, none⟩) 64 64] := by rw [hW4]; refine blk_at _ _ _ ?_; simp [hN]
  have HG4 : Hid (w.grownBy W4 none ∧ (RAt W4 W4.heap.size (ofE 1 1 [] a1 c1 p1).1 exA ∧ RAt W4 W4.heap.size (ofE 2 1 [] a2 c2 p2).1 exB ∧ RAt W4 W4.heap.size (ofE 2 2 [1, 1, 2, 1] a3 c3 p3).1 exC) ∧ Blk W4 N 66 [.string ⟨#[107]⟩, iV 1, iV 1, .slice a1 0 c1, .bool false, .slice none 0 0, .slice (some ⟨p1, 0, none⟩) 64 64] ∧ Blk W4 (N + 1) 66 [.string ⟨#[107]⟩, iV 2, iV 1, .slice a2 0 c2, .bool false, .slice none 0 0, .slice (some ⟨p2, 0, none⟩) 64 64] ∧ Blk W4 (N + 1 + 1) 66 [.string ⟨#[107]⟩, iV 2, iV 2, .slice a3 2 c3, .bool false, .slice none 0 0, .slice (some ⟨p3, 0, none⟩) 64 64]) :=
    ⟨gb_trans hg1 (gb_trans hg2 (gb_trans hg3 hg4)), ⟨(RAt.stay hR1 (gb_trans hg2 (gb_trans hg3 hg4))).full, (RAt.stay hR2 (gb_trans hg3 hg4)).full, (RAt.stay hR3 hg4).full⟩, hb1, hb2, hb3⟩
  clear hR1 hR2 hR3 hg1 hg2 hg3 hg4 hb1 hb2 hb3
  go_upto_region 2 with fail

  rw [← hW4, ← hN]
  clear hW4 hN
  have z0 := ((HG4.out.2.2.2.1).grown (show W4.grownBy W4 none from (gb_refl _ _)) (by simp))
  have z0_0 := z0.cell (i := 0) rfl
  have z0_1 := z0.cell (i := 1) rfl
  have z0_2 := z0.cell (i := 2) rfl
  have z0_3 := z0.cell (i := 3) rfl
  have z0_4 := z0.cell (i := 4) rfl
  have z0_5 := z0.cell (i := 5) rfl
  have z0_6 := z0.cell (i := 6) rfl
  have z1 := ((HG4.out.2.2.1).grown (show W4.grownBy (W4.alloc (.cells #[.string ⟨#[107]⟩, iV 2, iV 1, .slice a2 0 c2, .bool false, .slice none 0 0, .slice (some ⟨p2, 0, none⟩) 64 64] 66)) none from (gb_alloc (gb_refl _ _) _)) (by simp))
  have z1_0 := z1.cell (i := 0) rfl
  have z1_1 := z1.cell (i := 1) rfl
  have z1_2 := z1.cell (i := 2) rfl
  have z1_3 := z1.cell (i := 3) rfl
  have z1_4 := z1.cell (i := 4) rfl
  have z1_5 := z1.cell (i := 5) rfl
  have z1_6 := z1.cell (i := 6) rfl
  obtain ⟨W5, hW5⟩ : ∃ W5, W5 = ((W4.alloc (.cells #[.string ⟨#[107]⟩, iV 2, iV 1, .slice a2 0 c2, .bool false, .slice none 0 0, .slice (some ⟨p2, 0, none⟩) 64 64] 66)).alloc (.cells #[.string ⟨#[107]⟩, iV 1, iV 1, .slice a1 0 c1, .bool false, .slice none 0 0, .slice (some ⟨p1, 0, none⟩) 64 64, .string ⟨#[107]⟩, iV 1, iV 1, .slice a1 0 c1, .bool false, .slice none 0 0, .slice (some ⟨p1, 0, none⟩) 64 64] 66)) := ⟨_, rfl⟩
  have hm0 : ∀ z ∈ ([ofE 2 1 [] a2 c2 p2] : List E), RAt W4 W4.heap.size z.1 z.2 := by
    intro z hz
    simp only [List.mem_cons, List.not_mem_nil, or_false] at hz
    rcases hz with rfl
    · exact (RAt.stay (HG4.out.2.1.2.1) (show W4.grownBy W4 none from (gb_refl _ _))).full
  have hr0 : RRow W5 W5.heap.size (some ⟨W4.heap.size, 0, none⟩) [ofE 2 1 [] a2 c2 p2] := by
    have h0 := rrow_new W4 66 [ofE 2 1 [] a2 c2 p2] hm0
    have h1 := h0.stay (show (W4.alloc (.cells (recsC [ofE 2 1 [] a2 c2 p2]).toArray 66)).grownBy W5 none from by rw [hW5]; exact (gb_alloc (gb_refl _ _) _))
    exact h1.full
  have hm1 : ∀ z ∈ ([ofE 1 1 [] a1 c1 p1, ofE 1 1 [] a1 c1 p1] : List E), RAt (W4.alloc (.cells #[.string ⟨#[107]⟩, iV 2, iV 1, .slice a2 0 c2, .bool false, .slice none 0 0, .slice (some ⟨p2, 0, none⟩) 64 64] 66)) (W4.alloc (.cells #[.string ⟨#[107]⟩, iV 2, iV 1, .slice a2 0 c2, .bool false, .slice none 0 0, .slice (some ⟨p2, 0, none⟩) 64 64] 66)).heap.size z.1 z.2 := by
    intro z hz
    simp only [List.mem_cons, List.not_mem_nil, or_false] at hz
    rcases hz with rfl | rfl
    · exact (RAt.stay (HG4.out.2.1.1) (show W4.grownBy (W4.alloc (.cells #[.string ⟨#[107]⟩, iV 2, iV 1, .slice a2 0 c2, .bool false, .slice none 0 0, .slice (some ⟨p2, 0, none⟩) 64 64] 66)) none from (gb_alloc (gb_refl _ _) _))).full
    · exact (RAt.stay (HG4.out.2.1.1) (show W4.grownBy (W4.alloc (.cells #[.string ⟨#[107]⟩, iV 2, iV 1, .slice a2 0 c2, .bool false, .slice none 0 0, .slice (some ⟨p2, 0, none⟩) 64 64] 66)) none from (gb_alloc (gb_refl _ _) _))).full
  have hr1 : RRow W5 W5.heap.size (some ⟨W4.heap.size + 1, 0, none⟩) [ofE 1 1 [] a1 c1 p1, ofE 1 1 [] a1 c1 p1] := by
    have h0 := rrow_new (W4.alloc (.cells #[.string ⟨#[107]⟩, iV 2, iV 1, .slice a2 0 c2, .bool false, .slice none 0 0, .slice (some ⟨p2, 0, none⟩) 64 64] 66)) 66 [ofE 1 1 [] a1 c1 p1, ofE 1 1 [] a1 c1 p1] hm1
    simp only [World.size_alloc] at h0
    have h1 := h0.stay (show ((W4.alloc (.cells #[.string ⟨#[107]⟩, iV 2, iV 1, .slice a2 0 c2, .bool false, .slice none 0 0, .slice (some ⟨p2, 0, none⟩) 64 64] 66)).alloc (.cells (recsC [ofE 1 1 [] a1 c1 p1, ofE 1 1 [] a1 c1 p1]).toArray 66)).grownBy W5 none from by rw [hW5]; exact (gb_refl _ _))
    exact h1.full
  have hgW5 : W4.grownBy W5 none := by rw [hW5]; exact (gb_alloc (gb_alloc (gb_refl _ _) _) _)
  have hsW5 : W5.heap.size = W4.heap.size + 1 + 1 := by rw [hW5]; simp
  have HJ : Hid (Calls Tryz.prog 37 #[.slice (some ⟨W4.heap.size + 1 + 1, 0, none⟩) 2 2] (W5.alloc (.cells #[.slice (some ⟨W4.heap.size, 0, none⟩) 1 1, .slice (some ⟨W4.heap.size + 1, 0, none⟩) 2 2] 48)) fun e w' => ∃ a c out, e = .returned (.tuple #[.slice a 2 c, .int .i64 0]) ∧ recs out = [exA, exB] ∧ RRow w' w'.heap.size a out ∧ W5.grownBy w' none) := by
    have h := join_lits W5 48 [(some ⟨W4.heap.size, 0, none⟩, 1, [ofE 2 1 [] a2 c2 p2]), (some ⟨W4.heap.size + 1, 0, none⟩, 2, [ofE 1 1 [] a1 c1 p1, ofE 1 1 [] a1 c1 p1])] 2 rfl (by decide) (by
      intro x hx; simp only [List.mem_cons, List.not_mem_nil, or_false] at hx
      rcases hx with rfl | rfl
      · exact ⟨hr0, fun e => by cases e⟩
      · exact ⟨hr1, fun e => by cases e⟩) (by show 3 ≤ 1000000; decide) (by
      intro x hx; simp only [List.map_cons, List.map_nil, List.flatten_cons, List.flatten_nil, List.append_nil, List.cons_append, List.nil_append, List.mem_cons, List.not_mem_nil, or_false] at hx
      rcases hx with rfl | rfl | rfl <;> (refine ⟨?_, ?_, ?_⟩ <;> simp [ofE]))
    rw [hsW5] at h
    exact h.mono fun e w' ⟨a, c, out, he, hr, hrow, hz, hs, hg⟩ => ⟨a, c, out, by have e1 : recs out = [exA, exB] := hr.trans ex_j1; rw [he, e1]; show Ending.returned (.tuple #[.slice a [exA, exB].length c, .int .i64 (errN (alikeB [exB, exA, exA]) 4)]) = _; rw [ex_al1]; rfl, hr.trans ex_j1, hrow, hg⟩
  have HGW5 := Lib.hid hgW5
  clear hgW5 hsW5 hr0 hm0 hr1 hm1
  go_wp2_with fail
  rw [← hW5]
  clear hW5
  refine HJ.out.mono ?_
  rintro e w6 ⟨aj, cj, out1, rfl, hro1, hrow1, hg6⟩
  clear HJ z0_0 z0_1 z0_2 z0_3 z0_4 z0_5 z0_6 z0 z1_0 z1_1 z1_2 z1_3 z1_4 z1_5 z1_6 z1
  have HG6 : Hid (w.grownBy w6 none ∧ (RAt w6 w6.heap.size (ofE 1 1 [] a1 c1 p1).1 exA ∧ RAt w6 w6.heap.size (ofE 2 1 [] a2 c2 p2).1 exB ∧ RAt w6 w6.heap.size (ofE 2 2 [1, 1, 2, 1] a3 c3 p3).1 exC) ∧ Blk w6 N 66 [.string ⟨#[107]⟩, iV 1, iV 1, .slice a1 0 c1, .bool false, .slice none 0 0, .slice (some ⟨p1, 0, none⟩) 64 64] ∧ Blk w6 (N + 1) 66 [.string ⟨#[107]⟩, iV 2, iV 1, .slice a2 0 c2, .bool false, .slice none 0 0, .slice (some ⟨p2, 0, none⟩) 64 64] ∧ Blk w6 (N + 1 + 1) 66 [.string ⟨#[107]⟩, iV 2, iV 2, .slice a3 2 c3, .bool false, .slice none 0 0, .slice (some ⟨p3, 0, none⟩) 64 64] ∧ RRow w6 w6.heap.size aj out1 ∧ recs out1 = [exA, exB]) :=
    ⟨gb_trans HG4.out.1 (gb_trans HGW5.out hg6), ⟨(RAt.stay HG4.out.2.1.1 (gb_trans HGW5.out hg6)).full, (RAt.stay HG4.out.2.1.2.1 (gb_trans HGW5.out hg6)).full, (RAt.stay HG4.out.2.1.2.2 (gb_trans HGW5.out hg6)).full⟩, HG4.out.2.2.1.grown (gb_trans HGW5.out hg6) (by simp), HG4.out.2.2.2.1.grown (gb_trans HGW5.out hg6) (by simp), HG4.out.2.2.2.2.grown (gb_trans HGW5.out hg6) (by simp), hrow1, hro1⟩
  clear HG4 HGW5 hg6 hrow1 hro1
  go_upto_region 3 with fail
  have z0 := ((HG6.out.2.2.1).grown (show w6.grownBy w6 none from (gb_refl _ _)) (by simp))
  have z0_0 := z0.cell (i := 0) rfl
  have z0_1 := z0.cell (i := 1) rfl
  have z0_2 := z0.cell (i := 2) rfl
  have z0_3 := z0.cell (i := 3) rfl
  have z0_4 := z0.cell (i := 4) rfl
  have z0_5 := z0.cell (i := 5) rfl
  have z0_6 := z0.cell (i := 6) rfl
  have z1 := ((HG6.out.2.2.2.2.1).grown (show w6.grownBy w6 none from (gb_refl _ _)) (by simp))
  have z1_0 := z1.cell (i := 0) rfl
  have z1_1 := z1.cell (i := 1) rfl
  have z1_2 := z1.cell (i := 2) rfl
  have z1_3 := z1.cell (i := 3) rfl
  have z1_4 := z1.cell (i := 4) rfl
  have z1_5 := z1.cell (i := 5) rfl
  have z1_6 := z1.cell (i := 6) rfl
  have z2 := ((HG6.out.2.2.2.1).grown (show w6.grownBy (w6.alloc (.cells #[.string ⟨#[107]⟩, iV 1, iV 1, .slice a1 0 c1, .bool false, .slice none 0 0, .slice (some ⟨p1, 0, none⟩) 64 64, .string ⟨#[107]⟩, iV 2, iV 2, .slice a3 2 c3, .bool false, .slice none 0 0, .slice (some ⟨p3, 0, none⟩) 64 64] 66)) none from (gb_alloc (gb_refl _ _) _)) (by simp))
  have z2_0 := z2.cell (i := 0) rfl
  have z2_1 := z2.cell (i := 1) rfl
  have z2_2 := z2.cell (i := 2) rfl
  have z2_3 := z2.cell (i := 3) rfl
  have z2_4 := z2.cell (i := 4) rfl
  have z2_5 := z2.cell (i := 5) rfl
  have z2_6 := z2.cell (i := 6) rfl
  obtain ⟨W7, hW7⟩ : ∃ W7, W7 = ((w6.alloc (.cells #[.string ⟨#[107]⟩, iV 1, iV 1, .slice a1 0 c1, .bool false, .slice none 0 0, .slice (some ⟨p1, 0, none⟩) 64 64, .string ⟨#[107]⟩, iV 2, iV 2, .slice a3 2 c3, .bool false, .slice none 0 0, .slice (some ⟨p3, 0, none⟩) 64 64] 66)).alloc (.cells #[.string ⟨#[107]⟩, iV 2, iV 1, .slice a2 0 c2, .bool false, .slice none 0 0, .slice (some ⟨p2, 0, none⟩) 64 64] 66)) := ⟨_, rfl⟩
  have hm0 : ∀ z ∈ ([ofE 1 1 [] a1 c1 p1, ofE 2 2 [1, 1, 2, 1] a3 c3 p3] : List E), RAt w6 w6.heap.size z.1 z.2 := by
    intro z hz
    simp only [List.mem_cons, List.not_mem_nil, or_false] at hz
    rcases hz with rfl | rfl
    · exact (RAt.stay (HG6.out.2.1.1) (show w6.grownBy w6 none from (gb_refl _ _))).full
    · exact (RAt.stay (HG6.out.2.1.2.2) (show w6.grownBy w6 none from (gb_refl _ _))).full
  have hr0 : RRow W7 W7.heap.size (some ⟨w6.heap.size, 0, none⟩) [ofE 1 1 [] a1 c1 p1, ofE 2 2 [1, 1, 2, 1] a3 c3 p3] := by
    have h0 := rrow_new w6 66 [ofE 1 1 [] a1 c1 p1, ofE 2 2 [1, 1, 2, 1] a3 c3 p3] hm0
    have h1 := h0.stay (show (w6.alloc (.cells (recsC [ofE 1 1 [] a1 c1 p1, ofE 2 2 [1, 1, 2, 1] a3 c3 p3]).toArray 66)).grownBy W7 none from by rw [hW7]; exact (gb_alloc (gb_refl _ _) _))
    exact h1.full
  have hm1 : ∀ z ∈ ([ofE 2 1 [] a2 c2 p2] : List E), RAt (w6.alloc (.cells #[.string ⟨#[107]⟩, iV 1, iV 1, .slice a1 0 c1, .bool false, .slice none 0 0, .slice (some ⟨p1, 0, none⟩) 64 64, .string ⟨#[107]⟩, iV 2, iV 2, .slice a3 2 c3, .bool false, .slice none 0 0, .slice (some ⟨p3, 0, none⟩) 64 64] 66)) (w6.alloc (.cells #[.string ⟨#[107]⟩, iV 1, iV 1, .slice a1 0 c1, .bool false, .slice none 0 0, .slice (some ⟨p1, 0, none⟩) 64 64, .string ⟨#[107]⟩, iV 2, iV 2, .slice a3 2 c3, .bool false, .slice none 0 0, .slice (some ⟨p3, 0, none⟩) 64 64] 66)).heap.size z.1 z.2 := by
    intro z hz
    simp only [List.mem_cons, List.not_mem_nil, or_false] at hz
    rcases hz with rfl
    · exact (RAt.stay (HG6.out.2.1.2.1) (show w6.grownBy (w6.alloc (.cells #[.string ⟨#[107]⟩, iV 1, iV 1, .slice a1 0 c1, .bool false, .slice none 0 0, .slice (some ⟨p1, 0, none⟩) 64 64, .string ⟨#[107]⟩, iV 2, iV 2, .slice a3 2 c3, .bool false, .slice none 0 0, .slice (some ⟨p3, 0, none⟩) 64 64] 66)) none from (gb_alloc (gb_refl _ _) _))).full
  have hr1 : RRow W7 W7.heap.size (some ⟨w6.heap.size + 1, 0, none⟩) [ofE 2 1 [] a2 c2 p2] := by
    have h0 := rrow_new (w6.alloc (.cells #[.string ⟨#[107]⟩, iV 1, iV 1, .slice a1 0 c1, .bool false, .slice none 0 0, .slice (some ⟨p1, 0, none⟩) 64 64, .string ⟨#[107]⟩, iV 2, iV 2, .slice a3 2 c3, .bool false, .slice none 0 0, .slice (some ⟨p3, 0, none⟩) 64 64] 66)) 66 [ofE 2 1 [] a2 c2 p2] hm1
    simp only [World.size_alloc] at h0
    have h1 := h0.stay (show ((w6.alloc (.cells #[.string ⟨#[107]⟩, iV 1, iV 1, .slice a1 0 c1, .bool false, .slice none 0 0, .slice (some ⟨p1, 0, none⟩) 64 64, .string ⟨#[107]⟩, iV 2, iV 2, .slice a3 2 c3, .bool false, .slice none 0 0, .slice (some ⟨p3, 0, none⟩) 64 64] 66)).alloc (.cells (recsC [ofE 2 1 [] a2 c2 p2]).toArray 66)).grownBy W7 none from by rw [hW7]; exact (gb_refl _ _))
    exact h1.full
  have hgW7 : w6.grownBy W7 none := by rw [hW7]; exact (gb_alloc (gb_alloc (gb_refl _ _) _) _)
  have hsW7 : W7.heap.size = w6.heap.size + 1 + 1 := by rw [hW7]; simp
  have HJ : Hid (Calls Tryz.prog 37 #[.slice (some ⟨w6.heap.size + 1 + 1, 0, none⟩) 2 2] (W7.alloc (.cells #[.slice (some ⟨w6.heap.size, 0, none⟩) 2 2, .slice (some ⟨w6.heap.size + 1, 0, none⟩) 1 1] 48)) fun e w' => ∃ a c out, e = .returned (.tuple #[.slice a 1 c, .int .i64 0]) ∧ recs out = [exC] ∧ RRow w' w'.heap.size a out ∧ W7.grownBy w' none) := by
    have h := join_lits W7 48 [(some ⟨w6.heap.size, 0, none⟩, 2, [ofE 1 1 [] a1 c1 p1, ofE 2 2 [1, 1, 2, 1] a3 c3 p3]), (some ⟨w6.heap.size + 1, 0, none⟩, 1, [ofE 2 1 [] a2 c2 p2])] 2 rfl (by decide) (by
      intro x hx; simp only [List.mem_cons, List.not_mem_nil, or_false] at hx
      rcases hx with rfl | rfl
      · exact ⟨hr0, fun e => by cases e⟩
      · exact ⟨hr1, fun e => by cases e⟩) (by show 3 ≤ 1000000; decide) (by
      intro x hx; simp only [List.map_cons, List.map_nil, List.flatten_cons, List.flatten_nil, List.append_nil, List.cons_append, List.nil_append, List.mem_cons, List.not_mem_nil, or_false] at hx
      rcases hx with rfl | rfl | rfl <;> (refine ⟨?_, ?_, ?_⟩ <;> simp [ofE]))
    rw [hsW7] at h
    exact h.mono fun e w' ⟨a, c, out, he, hr, hrow, hz, hs, hg⟩ => ⟨a, c, out, by have e1 : recs out = [exC] := hr.trans ex_j2; rw [he, e1]; show Ending.returned (.tuple #[.slice a [exC].length c, .int .i64 (errN (alikeB [exA, exC, exB]) 4)]) = _; rw [ex_al2]; rfl, hr.trans ex_j2, hrow, hg⟩
  have HGW7 := Lib.hid hgW7
  clear hgW7 hsW7 hr0 hm0 hr1 hm1
  go_wp2_with fail
  rw [← hW7]
  clear hW7
  refine HJ.out.mono ?_
  rintro e w8 ⟨ak, ck, out2, rfl, hro2, hrow2, hg8⟩
  clear HJ z0_0 z0_1 z0_2 z0_3 z0_4 z0_5 z0_6 z0 z1_0 z1_1 z1_2 z1_3 z1_4 z1_5 z1_6 z1 z2_0 z2_1 z2_2 z2_3 z2_4 z2_5 z2_6 z2
  have HG8 : Hid (w.grownBy w8 none ∧ (RAt w8 w8.heap.size (ofE 1 1 [] a1 c1 p1).1 exA ∧ RAt w8 w8.heap.size (ofE 2 1 [] a2 c2 p2).1 exB ∧ RAt w8 w8.heap.size (ofE 2 2 [1, 1, 2, 1] a3 c3 p3).1 exC) ∧ Blk w8 N 66 [.string ⟨#[107]⟩, iV 1, iV 1, .slice a1 0 c1, .bool false, .slice none 0 0, .slice (some ⟨p1, 0, none⟩) 64 64] ∧ Blk w8 (N + 1) 66 [.string ⟨#[107]⟩, iV 2, iV 1, .slice a2 0 c2, .bool false, .slice none 0 0, .slice (some ⟨p2, 0, none⟩) 64 64] ∧ Blk w8 (N + 1 + 1) 66 [.string ⟨#[107]⟩, iV 2, iV 2, .slice a3 2 c3, .bool false, .slice none 0 0, .slice (some ⟨p3, 0, none⟩) 64 64] ∧ RRow w8 w8.heap.size aj out1 ∧ recs out1 = [exA, exB] ∧ RRow w8 w8.heap.size ak out2 ∧ recs out2 = [exC]) :=
    ⟨gb_trans HG6.out.1 (gb_trans HGW7.out hg8), ⟨(RAt.stay HG6.out.2.1.1 (gb_trans HGW7.out hg8)).full, (RAt.stay HG6.out.2.1.2.1 (gb_trans HGW7.out hg8)).full, (RAt.stay HG6.out.2.1.2.2 (gb_trans HGW7.out hg8)).full⟩, HG6.out.2.2.1.grown (gb_trans HGW7.out hg8) (by simp), HG6.out.2.2.2.1.grown (gb_trans HGW7.out hg8) (by simp), HG6.out.2.2.2.2.1.grown (gb_trans HGW7.out hg8) (by simp), (HG6.out.2.2.2.2.2.1.stay (gb_trans HGW7.out hg8)).full, HG6.out.2.2.2.2.2.2, hrow2, hro2⟩
  clear HG6 HGW7 hg8 hrow2 hro2
  have HD := Lib.hid (of_d w8)
  go_wp2_with fail
  refine HD.out.mono ?_
  rintro e w9 ⟨a4, c4, p4, rfl, hR4, hg9⟩
  clear HD
  have HE := Lib.hid (of_e w9)
  go_wp2_with fail
  refine HE.out.mono ?_
  rintro e w10 ⟨a5, c5, p5, rfl, hR5, hg10⟩
  clear HE
  have HR5 := Lib.hid (And.intro (RAt.stay hR4 hg10).full hR5)
  have HGT := Lib.hid (gb_trans hg9 hg10)
  clear hR4 hR5 hg9 hg10
  obtain ⟨W11, hW11⟩ : ∃ W11, W11 = (w10.alloc (.cells #[.string ⟨#[107]⟩, iV 1, iV 5, .slice a4 1 c4, .bool false, .slice none 0 0, .slice (some ⟨p4, 0, none⟩) 64 64, .string ⟨#[107]⟩, iV 2, iV 6, .slice a5 1 c5, .bool false, .slice none 0 0, .slice (some ⟨p5, 0, none⟩) 64 64] 66)) := ⟨_, rfl⟩
  have hm0 : ∀ z ∈ ([ofE 1 5 [2, 6] a4 c4 p4, ofE 2 6 [1, 5] a5 c5 p5] : List E), RAt w10 w10.heap.size z.1 z.2 := by
    intro z hz
    simp only [List.mem_cons, List.not_mem_nil, or_false] at hz
    rcases hz with rfl | rfl
    · exact (RAt.stay (HR5.out.1) (show w10.grownBy w10 none from (gb_refl _ _))).full
    · exact (RAt.stay (HR5.out.2) (show w10.grownBy w10 none from (gb_refl _ _))).full
  have hr0 : RRow W11 W11.heap.size (some ⟨w10.heap.size, 0, none⟩) [ofE 1 5 [2, 6] a4 c4 p4, ofE 2 6 [1, 5] a5 c5 p5] := by
    have h0 := rrow_new w10 66 [ofE 1 5 [2, 6] a4 c4 p4, ofE 2 6 [1, 5] a5 c5 p5] hm0
    have h1 := h0.stay (show (w10.alloc (.cells (recsC [ofE 1 5 [2, 6] a4 c4 p4, ofE 2 6 [1, 5] a5 c5 p5]).toArray 66)).grownBy W11 none from by rw [hW11]; exact (gb_refl _ _))
    exact h1.full
  have hgW11 : w10.grownBy W11 none := by rw [hW11]; exact (gb_alloc (gb_refl _ _) _)
  have hsW11 : W11.heap.size = w10.heap.size + 1 := by rw [hW11]; simp
  have HJ : Hid (Calls Tryz.prog 37 #[.slice (some ⟨w10.heap.size + 1, 0, none⟩) 1 1] (W11.alloc (.cells #[.slice (some ⟨w10.heap.size, 0, none⟩) 2 2] 48)) fun e w' => ∃ a c out, e = .returned (.tuple #[.slice a 0 c, .int .i64 0]) ∧ recs out = [] ∧ RRow w' w'.heap.size a out ∧ W11.grownBy w' none) := by
    have h := join_lits W11 48 [(some ⟨w10.heap.size, 0, none⟩, 2, [ofE 1 5 [2, 6] a4 c4 p4, ofE 2 6 [1, 5] a5 c5 p5])] 1 rfl (by decide) (by
      intro x hx; simp only [List.mem_cons, List.not_mem_nil, or_false] at hx
      rcases hx with rfl
      · exact ⟨hr0, fun e => by cases e⟩) (by show 2 ≤ 1000000; decide) (by
      intro x hx; simp only [List.map_cons, List.map_nil, List.flatten_cons, List.flatten_nil, List.append_nil, List.cons_append, List.nil_append, List.mem_cons, List.not_mem_nil, or_false] at hx
      rcases hx with rfl | rfl <;> (refine ⟨?_, ?_, ?_⟩ <;> simp [ofE]))
    rw [hsW11] at h
    exact h.mono fun e w' ⟨a, c, out, he, hr, hrow, hz, hs, hg⟩ => ⟨a, c, out, by have e1 : recs out = [] := hr.trans ex_j3; rw [he, e1]; show Ending.returned (.tuple #[.slice a [].length c, .int .i64 (errN (alikeB [exD, exE]) 4)]) = _; rw [ex_al3]; rfl, hr.trans ex_j3, hrow, hg⟩
  have HGW11 := Lib.hid hgW11
  clear hgW11 hsW11 hr0 hm0
  go_wp2_with fail
  rw [← hW11]
  clear hW11
  refine HJ.out.mono ?_
  rintro e w12 ⟨al, cl, out3, rfl, hro3, hrow3, hg12⟩
  have HG12 := Lib.hid (gb_trans HGT.out (gb_trans HGW11.out hg12))
  clear HJ hrow3 hg12 HGT HGW11 HR5
  have HP := Lib.hid (put_nil w12)
  go_wp2_with fail
  refine HP.out.mono ?_
  rintro e w13 ⟨vp, rfl, hg13, ho13⟩
  obtain ⟨ap, cp, rfl, hbp⟩ : ∃ ap cp, vp = .slice ap 8 cp ∧ BytesAt w13 w13.heap.size ap cp (encN 0) := by
    obtain ⟨a, c, e, _, hb, _⟩ := own_slice ho13 (encN_byte 0)
    exact ⟨a, c, e, hb⟩
  have hg := gb_trans HG12.out hg13
  have HG13 : Hid (w.grownBy w13 none ∧ (RAt w13 w13.heap.size (ofE 1 1 [] a1 c1 p1).1 exA ∧ RAt w13 w13.heap.size (ofE 2 1 [] a2 c2 p2).1 exB ∧ RAt w13 w13.heap.size (ofE 2 2 [1, 1, 2, 1] a3 c3 p3).1 exC) ∧ Blk w13 N 66 [.string ⟨#[107]⟩, iV 1, iV 1, .slice a1 0 c1, .bool false, .slice none 0 0, .slice (some ⟨p1, 0, none⟩) 64 64] ∧ Blk w13 (N + 1) 66 [.string ⟨#[107]⟩, iV 2, iV 1, .slice a2 0 c2, .bool false, .slice none 0 0, .slice (some ⟨p2, 0, none⟩) 64 64] ∧ Blk w13 (N + 1 + 1) 66 [.string ⟨#[107]⟩, iV 2, iV 2, .slice a3 2 c3, .bool false, .slice none 0 0, .slice (some ⟨p3, 0, none⟩) 64 64] ∧ RRow w13 w13.heap.size aj out1 ∧ recs out1 = [exA, exB] ∧ RRow w13 w13.heap.size ak out2 ∧ recs out2 = [exC] ∧ BytesAt w13 w13.heap.size ap cp (encN 0)) :=
    ⟨gb_trans HG8.out.1 (hg), ⟨(RAt.stay HG8.out.2.1.1 (hg)).full, (RAt.stay HG8.out.2.1.2.1 (hg)).full, (RAt.stay HG8.out.2.1.2.2 (hg)).full⟩, HG8.out.2.2.1.grown (hg) (by simp), HG8.out.2.2.2.1.grown (hg) (by simp), HG8.out.2.2.2.2.1.grown (hg) (by simp), (HG8.out.2.2.2.2.2.1.stay hg).full, HG8.out.2.2.2.2.2.2.1, (HG8.out.2.2.2.2.2.2.2.1.stay hg).full, HG8.out.2.2.2.2.2.2.2.2, hbp⟩
  clear hg hg13 ho13 hbp HG8 HG12 HP
  obtain ⟨W14, hW14⟩ : ∃ W14, W14 = w13.alloc (.cells #[.string ⟨#[107]⟩, iV 1, iV 1, .slice a1 0 c1, .bool false, .slice none 0 0, .slice (some ⟨p1, 0, none⟩) 64 64, .string ⟨#[107]⟩, iV 2, iV 1, .slice a2 0 c2, .bool false, .slice none 0 0, .slice (some ⟨p2, 0, none⟩) 64 64] 66) := ⟨_, rfl⟩
  have hgW14 : w13.grownBy W14 none := by rw [hW14]; exact gb_alloc (gb_refl _ _) _
  have hm : ∀ z ∈ ([ofE 1 1 [] a1 c1 p1, ofE 2 1 [] a2 c2 p2] : List E), RAt w13 w13.heap.size z.1 z.2 := by
    intro z hz
    simp only [List.mem_cons, List.not_mem_nil, or_false] at hz
    rcases hz with rfl | rfl
    · exact HG13.out.2.1.1
    · exact HG13.out.2.1.2.1
  have hr : RRow W14 (w13.heap.size + 1) (some ⟨w13.heap.size, 0, none⟩) [ofE 1 1 [] a1 c1 p1, ofE 2 1 [] a2 c2 p2] := by
    rw [hW14]
    exact rrow_new w13 66 [ofE 1 1 [] a1 c1 p1, ofE 2 1 [] a2 c2 p2] hm
  have HS := Lib.hid (sameRecs_any w13.heap.size (w13.heap.size + 1) 2 2 cj 2 aj (some ⟨w13.heap.size, 0, none⟩) out1 [ofE 1 1 [] a1 c1 p1, ofE 2 1 [] a2 c2 p2] W14 (by have h := congrArg List.length (HG13.out.2.2.2.2.2.2.1); rw [recs_len] at h; exact h) rfl ((HG13.out.2.2.2.2.2.1).stay hgW14) hr (by decide))
  have HT : Hid (sameL (recs out1) (recs [ofE 1 1 [] a1 c1 p1, ofE 2 1 [] a2 c2 p2]) = true) := by
    show sameL _ _ = true
    rw [HG13.out.2.2.2.2.2.2.1]
    exact decide_eq_true rfl
  have HGW14 := Lib.hid hgW14
  have z0_0 := (HG13.out.2.2.1).cell (i := 0) rfl
  have z0_1 := (HG13.out.2.2.1).cell (i := 1) rfl
  have z0_2 := (HG13.out.2.2.1).cell (i := 2) rfl
  have z0_3 := (HG13.out.2.2.1).cell (i := 3) rfl
  have z0_4 := (HG13.out.2.2.1).cell (i := 4) rfl
  have z0_5 := (HG13.out.2.2.1).cell (i := 5) rfl
  have z0_6 := (HG13.out.2.2.1).cell (i := 6) rfl
  have z1_0 := (HG13.out.2.2.2.1).cell (i := 0) rfl
  have z1_1 := (HG13.out.2.2.2.1).cell (i := 1) rfl
  have z1_2 := (HG13.out.2.2.2.1).cell (i := 2) rfl
  have z1_3 := (HG13.out.2.2.2.1).cell (i := 3) rfl
  have z1_4 := (HG13.out.2.2.2.1).cell (i := 4) rfl
  have z1_5 := (HG13.out.2.2.2.1).cell (i := 5) rfl
  have z1_6 := (HG13.out.2.2.2.1).cell (i := 6) rfl
  clear hgW14 hm hr
  have h8 : encN 0 = List.replicate 8 0 := by decide +kernel
  go_wp2_with fail
  rw [← hW14]
  clear hW14
  refine HS.out.mono ?_
  rintro e w15 ⟨rfl, hg15⟩
  rw [HT.out]
  have hg := gb_trans HGW14.out hg15
  clear HS HT z0_0 z0_1 z0_2 z0_3 z0_4 z0_5 z0_6 z1_0 z1_1 z1_2 z1_3 z1_4 z1_5 z1_6
  have HG15 : Hid (w.grownBy w15 none ∧ (RAt w15 w15.heap.size (ofE 1 1 [] a1 c1 p1).1 exA ∧ RAt w15 w15.heap.size (ofE 2 1 [] a2 c2 p2).1 exB ∧ RAt w15 w15.heap.size (ofE 2 2 [1, 1, 2, 1] a3 c3 p3).1 exC) ∧ Blk w15 N 66 [.string ⟨#[107]⟩, iV 1, iV 1, .slice a1 0 c1, .bool false, .slice none 0 0, .slice (some ⟨p1, 0, none⟩) 64 64] ∧ Blk w15 (N + 1) 66 [.string ⟨#[107]⟩, iV 2, iV 1, .slice a2 0 c2, .bool false, .slice none 0 0, .slice (some ⟨p2, 0, none⟩) 64 64] ∧ Blk w15 (N + 1 + 1) 66 [.string ⟨#[107]⟩, iV 2, iV 2, .slice a3 2 c3, .bool false, .slice none 0 0, .slice (some ⟨p3, 0, none⟩) 64 64] ∧ RRow w15 w15.heap.size ak out2 ∧ recs out2 = [exC] ∧ BytesAt w15 w15.heap.size ap cp (encN 0)) :=
    ⟨gb_trans HG13.out.1 (hg), ⟨(RAt.stay HG13.out.2.1.1 (hg)).full, (RAt.stay HG13.out.2.1.2.1 (hg)).full, (RAt.stay HG13.out.2.1.2.2 (hg)).full⟩, HG13.out.2.2.1.grown (hg) (by simp), HG13.out.2.2.2.1.grown (hg) (by simp), HG13.out.2.2.2.2.1.grown (hg) (by simp), (HG13.out.2.2.2.2.2.2.2.1.stay hg).full, HG13.out.2.2.2.2.2.2.2.2.1, (HG13.out.2.2.2.2.2.2.2.2.2.stay hg).full⟩
  clear hg hg15 HGW14 HG13
  obtain ⟨W16, hW16⟩ : ∃ W16, W16 = w15.alloc (.cells #[.string ⟨#[107]⟩, iV 2, iV 2, .slice a3 2 c3, .bool false, .slice none 0 0, .slice (some ⟨p3, 0, none⟩) 64 64] 66) := ⟨_, rfl⟩
  have hgW16 : w15.grownBy W16 none := by rw [hW16]; exact gb_alloc (gb_refl _ _) _
  have hm : ∀ z ∈ ([ofE 2 2 [1, 1, 2, 1] a3 c3 p3] : List E), RAt w15 w15.heap.size z.1 z.2 := by
    intro z hz
    simp only [List.mem_cons, List.not_mem_nil, or_false] at hz
    rcases hz with rfl
    · exact HG15.out.2.1.2.2
  have hr : RRow W16 (w15.heap.size + 1) (some ⟨w15.heap.size, 0, none⟩) [ofE 2 2 [1, 1, 2, 1] a3 c3 p3] := by
    rw [hW16]
    exact rrow_new w15 66 [ofE 2 2 [1, 1, 2, 1] a3 c3 p3] hm
  have HS := Lib.hid (sameRecs_any w15.heap.size (w15.heap.size + 1) 1 1 ck 1 ak (some ⟨w15.heap.size, 0, none⟩) out2 [ofE 2 2 [1, 1, 2, 1] a3 c3 p3] W16 (by have h := congrArg List.length (HG15.out.2.2.2.2.2.2.1); rw [recs_len] at h; exact h) rfl ((HG15.out.2.2.2.2.2.1).stay hgW16) hr (by decide))
  have HT : Hid (sameL (recs out2) (recs [ofE 2 2 [1, 1, 2, 1] a3 c3 p3]) = true) := by
    show sameL _ _ = true
    rw [HG15.out.2.2.2.2.2.2.1]
    exact decide_eq_true rfl
  have HGW16 := Lib.hid hgW16
  have z0_0 := (HG15.out.2.2.2.2.1).cell (i := 0) rfl
  have z0_1 := (HG15.out.2.2.2.2.1).cell (i := 1) rfl
  have z0_2 := (HG15.out.2.2.2.2.1).cell (i := 2) rfl
  have z0_3 := (HG15.out.2.2.2.2.1).cell (i := 3) rfl
  have z0_4 := (HG15.out.2.2.2.2.1).cell (i := 4) rfl
  have z0_5 := (HG15.out.2.2.2.2.1).cell (i := 5) rfl
  have z0_6 := (HG15.out.2.2.2.2.1).cell (i := 6) rfl
  clear hgW16 hm hr
  go_wp2_with fail
  rw [← hW16]
  clear hW16
  refine HS.out.mono ?_
  rintro e w17 ⟨rfl, hg17⟩
  rw [HT.out]
  have hg := gb_trans HGW16.out hg17
  have hgw := gb_trans HG15.out.1 hg
  have hbp := (HG15.out.2.2.2.2.2.2.2.stay hg).full
  clear HS HT HGW16 HG15 hg hg17 z0_0 z0_1 z0_2 z0_3 z0_4 z0_5 z0_6
  obtain ⟨w18, hmk, hg18, hs18, hb18⟩ := make_bytes 8 8 w17 (Nat.le_refl _) (by omega)
  have hmk' : (Instr.makeSlice 23 (.int .i64 8) (.int .i64 8)).run Tryz.prog w17 = .ok (.slice (some ⟨w17.heap.size, 0, none⟩) 8 8) w18 := hmk
  have hz8 : BytesAt w18 w18.heap.size (some ⟨w17.heap.size, 0, none⟩) 8 (List.replicate 8 0) := by
    refine ⟨Nat.le_refl _, by simp, (by decide : (8 : Nat) < 9223372036854775808), fun i => ?_, Or.inr ⟨w17.heap.size, 0, rfl, by omega, fun i hi => ?_⟩⟩
    · rw [List.getD_eq_getElem?_getD, List.getElem?_replicate]; split <;> simp
    · have hi2 : i < 8 := by simpa using hi
      rw [Nat.zero_add]
      refine hb18.cell ?_
      rw [List.getElem?_replicate, if_pos hi2, List.getD_eq_getElem?_getD, List.getElem?_replicate, if_pos hi2]; rfl
  have HB := Lib.hid (sameBytes_any w18.heap.size w18.heap.size 8 8 cp 8 ap (some ⟨w17.heap.size, 0, none⟩) (encN 0) (List.replicate 8 0) w18 (encN_length 0) rfl (hbp.stay hg18).full hz8)
  rw [h8, decide_eq_true rfl] at HB
  have HW := Lib.hid (gb_trans hgw hg18)
  clear hbp hz8 hg18 hs18 hb18 hmk hgw h8
  go_wp2_with fail
  refine HB.out.mono ?_
  rintro e w19 ⟨rfl, hg19⟩
  have HW2 := Lib.hid (gb_trans HW.out hg19)
  clear hg19
  go_wp2
  go_ret
  exact ⟨rfl, HW2.out⟩
end Sb
end Go.Proofs.YtlkiancedgaicaaGreat

/- Sets' bytes, and the set that any bytes are: mathematics. -/
namespace Go.Proofs.YtlkiancedgaicaaGreat
open Wi Ve Rc
namespace Sb
/-- records' bytes, each with their number ahead -/
def rowsL (l : List R) : List Nat := l.flatMap fun r => rowL (putL r)
def setL (l : List R) : List Nat := encN (l.length : Int) ++ rowsL l
/-- so many records, read one behind the other -/
def rS (m : Int) (st : St) : Nat → Option (List R × St)
  | 0 => some ([], st)
  | k + 1 => match rS m st k with
    | none => none
    | some p => if getB (bytesS m p.2).1 then some (p.1 ++ [recR (some (bytesS m p.2).1)], (bytesS m p.2).2) else none
theorem rS_succ (m : Int) (st : St) (k : Nat) : rS m st (k + 1) = match rS m st k with
    | none => none
    | some p => if getB (bytesS m p.2).1 then some (p.1 ++ [recR (some (bytesS m p.2).1)], (bytesS m p.2).2) else none := rfl
def cS (b : List Nat) : Int × St := countS (b.length : Int) (some b)
def doneS : Option (List R × St) → Option (List R)
  | some (l, some []) => some l
  | _ => none
def readL (b : List Nat) : Option (List R) := doneS (rS (b.length : Int) (cS b).2 (cS b).1.toNat)
def getL (b : List Nat) : Option (List R) := match readL b with
  | some l => if setB l then some l else none
  | none => none
theorem getB_inv {x : List Nat} (h : getB x = true) : putL (recR (some x)) = x ∧ rightB (recR (some x)) = true := by
  simp only [getB, Bool.and_eq_true, decide_eq_true_eq] at h; exact ⟨h.2, h.1⟩
theorem rowsL_app (l m : List R) : rowsL (l ++ m) = rowsL l ++ rowsL m := by simp [rowsL]
theorem rowsL_one (r : R) : rowsL [r] = rowL (putL r) := by simp [rowsL]
theorem rS_inv {m : Int} {st : St} (ho : OkS st) : ∀ {k : Nat} {l : List R} {r : List Nat}, rS m st k = some (l, some r) → st = some (rowsL l ++ r) ∧ l.length = k := by
  intro k
  induction k with
  | zero => intro l r h; simp only [rS, Option.some.injEq, Prod.mk.injEq] at h; obtain ⟨rfl, rfl⟩ := h; exact ⟨by simp [rowsL], rfl⟩
  | succ k ih =>
    intro l r h
    rw [rS_succ] at h
    cases hk : rS m st k with
    | none => rw [hk] at h; cases h
    | some p =>
      obtain ⟨l0, s⟩ := p
      rw [hk] at h
      simp only at h
      split at h
      · rename_i hg
        simp only [Option.some.injEq, Prod.mk.injEq] at h
        obtain ⟨rfl, h2⟩ := h
        have hs : ∃ r0, s = some r0 := by
          cases s with
          | none => cases h2
          | some r0 => exact ⟨r0, rfl⟩
        obtain ⟨r0, rfl⟩ := hs
        obtain ⟨e1, e2⟩ := ih hk
        have ho2 : OkS (some r0) := fun x hx b hb => by
          cases hx
          exact ho _ e1 b (List.mem_append_right _ hb)
        obtain ⟨e3, _⟩ := bytes_inv h2 ho2
        refine ⟨?_, by simp [e2]⟩
        have e4 := Option.some.inj e3
        generalize hx : (bytesS m (some r0)).1 = x at *
        rw [e1, rowsL_app, rowsL_one, (getB_inv hg).1, e4, List.append_assoc]
      · cases h
theorem doneS_inv {x : Option (List R × St)} {l : List R} (h : doneS x = some l) : x = some (l, some []) := by
  unfold doneS at h
  split at h
  · cases h; rfl
  · cases h
theorem readL_inv {b : List Nat} (ho : ∀ x ∈ b, x < 256) {l : List R} (h : readL b = some l) : setL l = b := by
  have h1 := doneS_inv h
  have o0 : OkS (some b) := fun l hl => by cases hl; exact ho
  have o1 : OkS (cS b).2 := okS_count o0
  obtain ⟨e1, e2⟩ := rS_inv o1 h1
  rw [List.append_nil] at e1
  obtain ⟨e3, h0, _⟩ := count_inv (most := (b.length : Int)) (st := some b) e1 o0
  have e4 : ((l.length : Nat) : Int) = (cS b).1 := by rw [e2]; exact Int.toNat_of_nonneg h0
  unfold setL
  rw [e4]
  exact (Option.some.inj e3).symm
theorem getL_inv {b : List Nat} (ho : ∀ x ∈ b, x < 256) {l : List R} (h : getL b = some l) : setL l = b ∧ setB l = true := by
  unfold getL at h
  cases hr : readL b with
  | none => rw [hr] at h; cases h
  | some m =>
    rw [hr] at h
    simp only at h
    split at h
    · rename_i hs
      cases h
      exact ⟨readL_inv ho hr, hs⟩
    · cases h
theorem rS_put (m : Int) (tl : List Nat) (l : List R) (hr : ∀ r ∈ l, rightB r = true) (hm : ∀ r ∈ l, ((putL r).length : Int) ≤ m) (hm2 : m < 9223372036854775808) : ∀ k, k ≤ l.length → rS m (some (rowsL l ++ tl)) k = some (l.take k, some (rowsL (l.drop k) ++ tl)) := by
  intro k
  induction k with
  | zero => intro _; simp [rS]
  | succ k ih =>
    intro hk
    have hd : l.drop k = l[k] :: l.drop (k + 1) := List.drop_eq_getElem_cons (by omega)
    have hmem : l[k] ∈ l := List.getElem_mem _
    have hl := hm _ hmem
    have e : rowsL (l.drop k) ++ tl = rowL (putL l[k]) ++ (rowsL (l.drop (k + 1)) ++ tl) := by
      rw [hd, show l[k] :: l.drop (k + 1) = [l[k]] ++ l.drop (k + 1) from rfl, rowsL_app, rowsL_one, List.append_assoc]
    rw [rS_succ, ih (by omega), e]
    simp only []
    rw [row_put m _ _ hl (by omega)]
    obtain ⟨g1, g2⟩ := get_put (hr _ hmem)
    simp only [g1, if_true, g2]
    rw [List.take_add_one, List.getElem?_eq_getElem (by omega)]
    rfl
theorem rowL_length (x : List Nat) : (rowL x).length = 8 + x.length := by simp [rowL, encN_length]
theorem rowsL_mem {l : List R} {r : R} (h : r ∈ l) : (putL r).length ≤ (rowsL l).length := by
  induction l with
  | nil => cases h
  | cons a l ih =>
    rw [show a :: l = [a] ++ l from rfl, rowsL_app, rowsL_one, List.length_append, rowL_length]
    rcases List.mem_cons.1 h with rfl | h
    · omega
    · have := ih h; omega
theorem rowsL_le (l : List R) : l.length * 8 ≤ (rowsL l).length := by
  induction l with
  | nil => simp
  | cons a l ih =>
    have e : rowsL (a :: l) = rowL (putL a) ++ rowsL l := by rw [show a :: l = [a] ++ l from rfl, rowsL_app, rowsL_one]
    rw [e, List.length_append, rowL_length, List.length_cons]; omega
theorem setL_len (l : List R) : (setL l).length = 8 + (rowsL l).length := by simp [setL, encN_length]
theorem readL_put {l : List R} (tl : List Nat) (hr : ∀ r ∈ l, rightB r = true) (hb : (setL l ++ tl).length < 9223372036854775808) : readL (setL l ++ tl) = if tl = [] then some l else none := by
  have h8 := rowsL_le l
  have hl := setL_len l
  have e : cS (setL l ++ tl) = ((l.length : Int), some (rowsL l ++ tl)) := by
    unfold cS
    rw [show setL l ++ tl = encN (l.length : Int) ++ (rowsL l ++ tl) from by simp [setL]]
    rw [List.length_append] at hb
    exact count_put _ _ _ (by omega) (by rw [List.length_append, List.length_append, encN_length]; omega) (by omega)
  unfold readL
  rw [e]
  simp only [Int.toNat_natCast]
  rw [rS_put _ tl l hr (fun r h => by have := rowsL_mem h; rw [List.length_append]; omega) (by omega) _ (Nat.le_refl _)]
  rw [List.take_length, List.drop_length]
  simp only [rowsL, List.flatMap_nil, List.nil_append]
  cases tl with
  | nil => rfl
  | cons x tl => rfl
theorem getL_put {l : List R} (h : setB l = true) (hb : (setL l).length < 9223372036854775808) : getL (setL l) = some l := by
  have := readL_put (l := l) [] (fun x hx => ((alike_iff l).1 (set_of h).1 x hx).1) (by simpa using hb)
  rw [List.append_nil, if_pos rfl] at this
  unfold getL
  rw [this]
  simp only [h, if_true]
theorem getL_more {l : List R} (h : setB l = true) {tl : List Nat} (ht : tl ≠ []) (hb : (setL l ++ tl).length < 9223372036854775808) : getL (setL l ++ tl) = none := by
  have := readL_put (l := l) tl (fun x hx => ((alike_iff l).1 (set_of h).1 x hx).1) hb
  rw [if_neg ht] at this
  unfold getL
  rw [this]
theorem getL_less {l : List R} (h : setB l = true) {k : Nat} (hk : k < (setL l).length) (ho : ∀ x ∈ setL l, x < 256) (hb : (setL l).length < 9223372036854775808) : getL ((setL l).take k) = none := by
  cases hg : getL ((setL l).take k) with
  | none => rfl
  | some m =>
    obtain ⟨e, hm⟩ := getL_inv (fun x hx => ho x (List.mem_of_mem_take hx)) hg
    have e2 : setL l = setL m ++ (setL l).drop k := by rw [e, List.take_append_drop]
    have h3 := getL_more hm (tl := (setL l).drop k) (fun he => by have := List.drop_eq_nil_iff.1 he; omega) (by rw [← e2]; exact hb)
    rw [← e2, getL_put h hb] at h3
    cases h3
end Sb
end Go.Proofs.YtlkiancedgaicaaGreat

/- A set's bytes: bytes, Put. -/
namespace Go.Proofs.YtlkiancedgaicaaGreat
open Go.RowKit Ow Wi Ve Rc
namespace Sb
theorem recs_length (l : List E) : (recs l).length = l.length := List.length_map _
theorem parts_block {w : World} {base : Nat} {v : Value} {L : List (List Nat)} (h : Parts w base v L) : ∀ g, v.ownBlock = some g → base ≤ g ∧ g < w.heap.size := by
  obtain ⟨xs, ho, _⟩ := h
  exact ho.lt
theorem parts_gb {w a b : World} {v : Value} {L : List (List Nat)} (hg : w.grownBy a none) (h : Parts a w.heap.size v L) (k : a.grownBy b v.ownBlock) : w.grownBy b none := by
  obtain ⟨xs, ho, _⟩ := h
  exact own_gb hg ho k
/-- a row of one row of bytes, just laid -/
theorem parts_one (w : World) (a : Option Addr) (n c : Nat) (l : List Nat) (hl : l.length = n) (h : BytesAt w w.heap.size a c l) (hlt : ∀ pb po, a = some ⟨pb, po, none⟩ → pb < w.heap.size) :
    Parts (w.alloc (.cells #[.slice a n c] 23)) w.heap.size (.slice (some ⟨w.heap.size, 0, none⟩) 1 1) [l] := by
  subst hl
  have hg := gb_alloc (gb_refl w none) (.cells #[.slice a l.length c] 23)
  refine ⟨[.slice a l.length c], ⟨rfl, Or.inr ⟨w.heap.size, 1, #[.slice a l.length c], rfl, Nat.le_refl _, Blk.new w [.slice a l.length c] 23, Nat.le_refl _, by decide, rfl, rfl⟩⟩, fun i hi => ?_⟩
  obtain rfl : i = 0 := by simp at hi; omega
  refine ⟨a, c, rfl, (h.stay hg).full, fun pb po e => ⟨fun e2 => ?_, Nat.lt_of_lt_of_le (hlt pb po e) hg.size⟩⟩
  simp only [Value.ownBlock, Option.some.injEq] at e2
  have := hlt pb po e; omega
theorem rowsL_flat (n : Nat) (l : List R) (hn : l.length = n) : (encN (n : Int) :: l.map fun r => rowL (putL r)).flatten = setL l := by
  subst hn
  rw [List.flatten_cons]; unfold setL rowsL; rw [List.flatMap_def]
theorem putO_right {r : R} (h : rightB r = true) : putO r = putL r := by unfold putO; rw [if_pos h]
set_option maxHeartbeats 2000000 in
set_option maxRecDepth 100000 in
theorem sbytes_any (B n c : Nat) (a : Option Addr) (l : List E) (w : World) (hn : l.length = n) (h : RRow w B a l) (hr : ∀ x ∈ l, rightB x.2 = true) (hs : (setL (recs l)).length ≤ 900000) :
    Calls Tryz.prog 85 #[.slice a n c] w fun e w' => ∃ v, e = .returned v ∧ w.grownBy w' none ∧ w'.ownsRow w.heap.size 5 1 v (setL (recs l)).length ((setL (recs l)).map u8N) := by
  have hn9 : n ≤ 900000 := by have h1 := rowsL_le (recs l); have h2 := setL_len (recs l); rw [recs_length, hn] at h1; omega
  have hpl : ∀ x ∈ l, (putL x.2).length ≤ 900000 := fun x hx => by
    have h1 := rowsL_mem (l := recs l) (r := x.2) (List.mem_map.2 ⟨x, hx, rfl⟩)
    have h2 := setL_len (recs l)
    omega
  obtain ⟨Q, hQ⟩ : ∃ Q : Ending → World → Prop, Q = fun e w' => ∃ v, e = .returned v ∧ w.grownBy w' none ∧ w'.ownsRow w.heap.size 5 1 v (setL (recs l)).length ((setL (recs l)).map u8N) := ⟨_, rfl⟩
  rw [← hQ]
  have HQ := Lib.hid hQ
  have H := Lib.hid (And.intro h (And.intro hn (And.intro hr (And.intro hs hpl)))); clear hQ h hn hr hs hpl
  have HN := Lib.hid (numF_any (n : Int) w)
  go_enter Tryz.func85, Tryz.ntmps85
  go_wp2_with fail
  refine HN.out.mono ?_
  rintro e w1 ⟨g, rfl, hg, hge, hb⟩
  have HP0 : Hid (w.grownBy (w1.alloc (.cells #[.slice (some ⟨g, 0, none⟩) 8 8] 23)) none ∧ Parts (w1.alloc (.cells #[.slice (some ⟨g, 0, none⟩) 8 8] 23)) w.heap.size (.slice (some ⟨w1.heap.size, 0, none⟩) 1 1) [encN (n : Int)]) := by
    obtain ⟨xs, h1, h2⟩ := parts_one w1 (some ⟨g, 0, none⟩) 8 8 (encN (n : Int)) (encN_length _) (numF_bytes hb) (fun pb po e => by cases e; exact hb.lt)
    exact ⟨gb_alloc hg _, xs, own_down h1 hg.size, h2⟩
  clear hg hge hb HN
  go_wp2_with fail
  go_loopw [3, 12] (fun v i wr => ∃ (k : Nat), k ≤ n ∧ i = .int .i64 k ∧ Hid (w.grownBy wr none ∧ Parts wr w.heap.size v (encN (n : Int) :: (recs (l.take k)).map fun r => rowL (putL r)))) (fun _ i _ => n - (intOf i).toNat)
  case atStart => exact ⟨0, by omega, rfl, HP0.out⟩
  case round =>
    obtain ⟨k, hk, rfl, HI⟩ := hrel
    by_cases hlt : k < n
    · have hkl : k < l.length := by rw [H.out.2.1]; exact hlt
      obtain ⟨pb, po, rfl, hpb, hcs⟩ := (H.out.1.stay HI.out.1).at (by omega)
      have hx := hcs k hkl
      have hra := (H.out.1.stay HI.out.1).recs _ (getD_mem hkl)
      have hrx := H.out.2.2.1 _ (getD_mem hkl)
      have hpx := H.out.2.2.2.2 _ (getD_mem hkl)
      have hnx := recs_take l k hkl
      generalize l.getD k e0 = x at *
      have hmap : (encN (n : Int) :: (recs (l.take (k + 1))).map fun r => rowL (putL r)) = (encN (n : Int) :: (recs (l.take k)).map fun r => rowL (putL r)) ++ [rowL (putL x.2)] := by
        rw [hnx, List.map_append]; rfl
      have hlen : (encN (n : Int) :: (recs (l.take k)).map fun r => rowL (putL r)).length ≤ 1000000 := by
        rw [List.length_cons, List.length_map, recs_length, List.length_take]; omega
      have HOWN := Lib.hid (fun w' (hg : wr.grownBy w' none) => sown_any x B w' (hra.stay hg))
      rw [putO_right hrx] at HOWN
      obtain ⟨P, hP⟩ : ∃ P, P = putL x.2 := ⟨_, rfl⟩
      rw [← hP] at HOWN hmap hpx
      generalize (encN (n : Int) :: (recs (l.take k)).map fun r => rowL (putL r)) = L at *
      obtain ⟨q, hq⟩ : ∃ q, P.length = q := ⟨_, rfl⟩
      rw [hq] at hpx
      have HI2 := Lib.hid (And.intro HI.out.1 (And.intro HI.out.2 (And.intro hmap (And.intro hlen hq))))
      clear hP hra hrx hnx hcs hmap hlen hq HI
      obtain ⟨⟨s, a1, n1, c1, a2, n2, c2, a3, n3, c3⟩, ⟨key, cl, sq, cx, g0, val, sig⟩⟩ := x
      obtain ⟨c0', c1', c2', c3', c4', c5', c6'⟩ := cells_of hx
      have hgA := gb_alloc (gb_refl wr none) (.cells #[.string s, iV cl, iV sq, .slice a1 n1 c1, .bool g0, .slice a2 n2 c2, .slice a3 n3 c3] 66)
      obtain ⟨w3, hw3⟩ : ∃ w3, w3 = wr.alloc (.cells #[.string s, iV cl, iV sq, .slice a1 n1 c1, .bool g0, .slice a2 n2 c2, .slice a3 n3 c3] 66) := ⟨_, rfl⟩
      obtain ⟨M, hM⟩ : ∃ M, M = wr.heap.size := ⟨_, rfl⟩
      rw [← hw3] at hgA
      have HG3 := Lib.hid hgA; clear hgA hx
      replace HOWN : Hid (∀ w', wr.grownBy w' none → Calls Tryz.prog 144 #[vV s cl sq a1 n1 c1 g0 a2 n2 c2 a3 n3 c3] w' (YOut w' P)) := HOWN
      have hi : (k : Int) < (n : Int) := by omega
      go_wp2_with fail
      rw [← hw3, ← hM]
      clear hw3 hM c0' c1' c2' c3' c4' c5' c6'
      refine (HOWN.out w3 HG3.out).mono ?_
      rintro e w4 ⟨a4, c4, rfl, hg4, hB4⟩
      rw [HI2.out.2.2.2.2]
      have HBF := Lib.hid (bytesF_any q c4 w4.heap.size a4 P w4 HI2.out.2.2.2.2 hpx hB4)
      have HG4 := Lib.hid (gb_trans HG3.out hg4)
      have HB4 := Lib.hid hB4.byte
      clear hg4 hB4 HOWN
      go_wp2_with fail
      refine HBF.out.mono ?_
      rintro e w5 ⟨v5, rfl, hg5, ho5⟩
      obtain ⟨a5, c5, rfl, hl5, hB5, hbs⟩ := own_slice (l := rowL P) (by unfold rowL; rw [HI2.out.2.2.2.2]; exact ho5) (by unfold rowL; exact app_byte (encN_byte _) HB4.out)
      have hgw := gb_trans HG4.out hg5
      have hp5 := HI2.out.2.1.stay hgw
      have hpb2 := parts_block HI2.out.2.1
      obtain ⟨v6, w6, hap, hp6, hg6, _⟩ := parts_push w5 w.heap.size u3 L a5 (8 + q) c5 (rowL P) hp5 hl5 hB5 (fun pb po e => ⟨fun e2 => by have h1 := (hbs pb po e).1; have h2 := (hpb2 pb e2).2; have h3 := HG4.out.size; omega, (hbs pb po e).2⟩) (gb_trans HI2.out.1 hgw).size HI2.out.2.2.2.1
      have H6 := Lib.hid (And.intro (parts_gb (gb_trans HI2.out.1 hgw) hp5 hg6) hp6)
      have hb5 := (hbs)
      clear hg5 ho5 hB5 hbs hp5 hpb2 hp6 hg6 HBF hl5 hgw hb5
      go_wp2_with (at_builtin; refine wpList_append_run rfl (.tmp 16) (.tmp 20) 22 rfl rfl _ _ rfl rfl _ _ hap ?_)
      exact ⟨⟨k + 1, by omega, rfl, H6.out.1, by rw [HI2.out.2.2.1]; exact H6.out.2⟩, by show n - ((k : Int) + 1).toNat < n - (k : Int).toNat; omega⟩
    · obtain rfl : k = n := by omega
      have hp := HI.out.2
      rw [List.take_of_length_le (by rw [H.out.2.1]; exact Nat.le_refl _)] at hp
      have hfl := rowsL_flat k (recs l) (by rw [recs_length]; exact H.out.2.1)
      have hll : (encN (k : Int) :: (recs l).map fun r => rowL (putL r)).length = k + 1 := by rw [List.length_cons, List.length_map, recs_length, H.out.2.1]
      generalize (encN (k : Int) :: (recs l).map fun r => rowL (putL r)) = L at *
      obtain ⟨aP, cP, rfl, hRP⟩ := hp.rows
      have HJ := Lib.hid (join_any L.length cP wr.heap.size L aP wr rfl hRP (by omega) (by rw [hfl]; have := H.out.2.2.2.1; omega))
      rw [hfl, hll] at HJ
      rw [hll]
      have HG := Lib.hid HI.out.1
      clear hp hRP hfl hll hlt HI
      go_wp2_with fail
      refine HJ.out.mono ?_
      rintro e w2 ⟨v, rfl, hg2, ho⟩
      have HE : Hid (Q (.returned v) w2) := by
        show Q _ _
        rw [HQ.out]
        exact ⟨v, rfl, gb_trans HG.out hg2, own_down ho HG.out.size⟩
      clear hg2 ho
      go_wp2
      exact HE.out
end Sb
end Go.Proofs.YtlkiancedgaicaaGreat

/- Put: a right set's bytes, or the error. -/
namespace Go.Proofs.YtlkiancedgaicaaGreat
open Go.RowKit Ow Wi Ve Rc
namespace Sb
theorem enter_putS : ∀ args w, (callFunc 83 args).run Tryz.prog w = .ok (.enter 83 args) w := enters_of Tryz.func83 (by kernel_rfl) rfl
/-- what a right set's bytes come to -/
def BOwn (w : World) (base : Nat) (l : List Nat) (v : Value) : Prop := w.ownsRow base 5 1 v l.length (l.map u8N)
theorem right_of {l : List E} (h : setB (recs l) = true) : ∀ x ∈ l, rightB x.2 = true := fun x hx => ((alike_iff (recs l)).1 (set_of h).1 x.2 (List.mem_map.2 ⟨x, hx, rfl⟩)).1
set_option maxHeartbeats 1000000 in
theorem put1_yes (N B n c : Nat) (a : Option Addr) (l : List E) (w : World) (hN : w.cell? ⟨N, 0, none⟩ = some (.slice a n c)) (hn : l.length = n) (h : RRow w B a l) (hc : n ≤ 1000000) (hs : setB (recs l) = true) (hb : (setL (recs l)).length ≤ 900000) :
    Calls Tryz.prog 83 #[.pointer (some ⟨N, 0, none⟩)] w fun e w' => ∃ v, e = .returned v ∧ w.grownBy w' none ∧ BOwn w' w.heap.size (setL (recs l)) v := by
  have HC := Lib.hid (checked_any B n c a l w hn h hc)
  have H := Lib.hid (And.intro h (And.intro hn hb))
  clear h hn hb
  go_enter Tryz.func83, Tryz.ntmps83
  go_wp2_with fail
  refine HC.out.mono ?_
  rintro e w1 ⟨⟨_, rfl⟩ | ⟨h1, _⟩, hg⟩
  · have HB := Lib.hid (sbytes_any B n c a l w1 H.out.2.1 (H.out.1.stay hg) (right_of hs) H.out.2.2)
    have HG := Lib.hid hg; clear hg
    go_wp2_with fail
    refine HB.out.mono ?_
    rintro e w2 ⟨v, rfl, hg2, ho⟩
    have HE := Lib.hid (And.intro (gb_trans HG.out hg2) (own_down ho HG.out.size)); clear hg2 ho
    go_wp2
    go_ret
    exact ⟨v, rfl, HE.out⟩
  · rw [hs] at h1; cases h1
set_option maxHeartbeats 1000000 in
theorem put1_no (N B n c : Nat) (a : Option Addr) (l : List E) (w : World) (hN : w.cell? ⟨N, 0, none⟩ = some (.slice a n c)) (hn : l.length = n) (h : RRow w B a l) (hc : n ≤ 1000000) (hs : setB (recs l) = false) :
    Calls Tryz.prog 83 #[.pointer (some ⟨N, 0, none⟩)] w fun e w' => Dies e ∧ w.grownBy w' none := by
  have HC := Lib.hid (checked_any B n c a l w hn h hc)
  clear h hn
  obtain ⟨Q, hQ⟩ : ∃ Q : Ending → World → Prop, Q = fun e w' => Dies e ∧ w.grownBy w' none := ⟨_, rfl⟩
  rw [← hQ]
  have HQ := Lib.hid hQ; clear hQ
  go_enter Tryz.func83, Tryz.ntmps83
  go_wp2_with fail
  refine HC.out.mono ?_
  rintro e w1 ⟨⟨h1, _⟩ | ⟨_, ⟨u, pv, rfl⟩⟩, hg⟩
  · rw [hs] at h1; cases h1
  · exact ⟨rfl, by rw [HQ.out]; exact ⟨⟨u, pv, rfl⟩, hg⟩⟩
def PutOut (w : World) (l : List R) (e : Ending) (w' : World) : Prop :=
  w.grownBy w' none ∧ if setB l then ∃ v, e = .returned (.tuple #[v, .int .i64 0]) ∧ BOwn w' w.heap.size (setL l) v else e = .returned (.tuple #[.slice none 0 0, .int .i64 4])
set_option maxHeartbeats 1000000 in
theorem sput_any (B n c : Nat) (a : Option Addr) (l : List E) (w : World) (hn : l.length = n) (h : RRow w B a l) (hc : n ≤ 1000000) (hb : setB (recs l) = true → (setL (recs l)).length ≤ 900000) :
    Calls Tryz.prog 42 #[.slice a n c] w (PutOut w (recs l)) := by
  have hmf := smakeF
  obtain ⟨w1, hw1⟩ : ∃ w1, w1 = w.alloc (.cells #[.slice a n c] 48) := ⟨_, rfl⟩
  obtain ⟨N, hN⟩ : ∃ N, N = w.heap.size := ⟨_, rfl⟩
  have hg1 : w.grownBy w1 none := by rw [hw1]; exact gb_alloc (gb_refl _ _) _
  have hb1 : Blk w1 N 48 [.slice a n c] := by rw [hw1]; exact blk_at _ _ _ hN.symm
  obtain ⟨Q, hQ⟩ : ∃ Q, Q = PutOut w (recs l) := ⟨_, rfl⟩
  rw [← hQ]
  have HQ := Lib.hid hQ; clear hQ
  have hcell := (hb1.grown (ebox_gb w1) (by simp)).cell (i := 0) rfl
  have hrow := (h.stay hg1).stay (ebox_gb w1)
  cases hs : setB (recs l) with
  | true =>
    have HT := Lib.hid (stryB_yes 83 #[] #[.pointer (some ⟨N, 0, none⟩)] w1 (fun v w' => BOwn w' (ebox w1).heap.size (setL (recs l)) v) enter_putS (put1_yes N B n c a l (ebox w1) hcell hn hrow hc hs (hb hs)))
    have HG := Lib.hid hg1; clear hg1 hb1 hcell hrow h hn hb
    go_enter Tryz.func42, Tryz.ntmps42
    go_wp2_with fail
    rw [← hw1, ← hN]
    clear hw1 hN
    refine HT.out.mono ?_
    rintro e w' ⟨v, w2, rfl, hg, ho, rfl⟩
    have hes := ebox_size w1
    have hst := gb_set (gb_refl w2 (some w1.heap.size)) 0 (.int .i64 0)
    have HF : Hid (Q (.returned (.tuple #[v, .int .i64 0])) (w2.setCell ⟨w1.heap.size, 0, none⟩ (.int .i64 0))) := by
      show Q _ _
      rw [HQ.out]
      unfold PutOut
      rw [hs, if_pos rfl]
      exact ⟨gb_then (gb_trans (gb_trans HG.out (ebox_gb w1)) hg) hst HG.out.size, v, rfl, own_down (World.ownsRow.kept ho hst (Or.inr fun e => by have := (World.ownsRow.lt ho _ e).1; omega)) (by have := HG.out.size; omega)⟩
    clear ho hg hst hes
    generalize w2.setCell ⟨w1.heap.size, 0, none⟩ (.int .i64 0) = w3 at *
    go_wp2
    exact HF.out
  | false =>
    have HT := Lib.hid (stryB_no 83 #[] #[.pointer (some ⟨N, 0, none⟩)] w1 enter_putS (put1_no N B n c a l (ebox w1) hcell hn hrow hc hs))
    have HG := Lib.hid hg1; clear hg1 hb1 hcell hrow h hn hb
    go_enter Tryz.func42, Tryz.ntmps42
    go_wp2_with fail
    rw [← hw1, ← hN]
    clear hw1 hN
    refine HT.out.mono ?_
    rintro e w' ⟨rfl, hg⟩
    have HF : Hid (Q (.returned (.tuple #[.slice none 0 0, .int .i64 4])) w') := by
      show Q _ _
      rw [HQ.out]
      unfold PutOut
      rw [hs]
      exact ⟨gb_trans HG.out hg, rfl⟩
    clear hg
    go_wp2
    exact HF.out
end Sb
end Go.Proofs.YtlkiancedgaicaaGreat

/- What is few enough; what is joined: the mathematics of the law on Join. -/
namespace Go.Proofs.YtlkiancedgaicaaGreat
open Go.RowKit Ow Wi Ve Rc
namespace Sb
/-- a record that is small enough -/
def Small (x : E) : Prop := x.1.n1 ≤ 1000000 ∧ x.1.n2 ≤ 1000000 ∧ x.1.n3 ≤ 1000000
theorem cnt_small {x : E} (h : cntE x ≤ 2500) : Small x := by unfold cntE at h; unfold Small; omega
theorem le_sum_mem : ∀ {l : List Nat} {a : Nat}, a ∈ l → a ≤ l.sum
  | b :: l, a, h => by
    rw [List.sum_cons]
    rcases List.mem_cons.1 h with rfl | h
    · omega
    · have := le_sum_mem h; omega
  | [], _, h => by cases h
theorem sum_mem {l : List E} {x : E} (h : x ∈ l) : cntE x ≤ sumC l := by
  unfold sumC
  exact le_sum_mem (List.mem_map.2 ⟨x, h, rfl⟩)
theorem sum_len (l : List E) : l.length ≤ sumC l := by
  induction l with
  | nil => exact Nat.le_refl _
  | cons x l ih =>
    have : sumC (x :: l) = cntE x + sumC l := by simp [sumC]
    rw [this, List.length_cons]
    have : 1 ≤ cntE x := by unfold cntE; omega
    omega
theorem sumS_mem {S : List (List E)} {l : List E} (h : l ∈ S) : sumC l ≤ (S.map sumC).sum := le_sum_mem (List.mem_map.2 ⟨l, h, rfl⟩)
/-- few: no set is great -/
def Few (S : List (List E)) : Prop := ∀ l ∈ S, l.length ≤ 2500 ∧ ∀ x ∈ l, Small x
theorem few_of {S : List (List E)} {m : Nat} (h : m + (S.map sumC).sum ≤ 2500) : Few S := fun l hl => by
  have h1 := sumS_mem hl
  exact ⟨by have := sum_len l; omega, fun x hx => cnt_small (by have := sum_mem hx; omega)⟩
/-- what lies in a row has the length that its parts have -/
theorem small_at {w : World} {B : Nat} {x : E} (h : RAt w B x.1 x.2) (hs : x.2.cx.length ≤ 1000000 ∧ x.2.val.length ≤ 1000000 ∧ x.2.sig.length ≤ 1000000) : Small x := by
  unfold Small
  rw [← h.l1, ← h.l2, ← h.l3]; exact hs
theorem at_small {w : World} {B : Nat} {x : E} (h : RAt w B x.1 x.2) (hs : Small x) : x.2.cx.length ≤ 1000000 ∧ x.2.val.length ≤ 1000000 ∧ x.2.sig.length ≤ 1000000 := by
  rw [h.l1, h.l2, h.l3]; exact hs
theorem joinO_sub {F : List R} {x : R} (h : x ∈ joinO F) : x ∈ F := by
  unfold joinO at h
  split at h
  · exact join_sub h
  · cases h
theorem joinO_rise (F : List R) : (joinO F).Pairwise (fun a b => lessD a b = true) := by
  unfold joinO
  split
  · exact join_rise F
  · exact List.Pairwise.nil
theorem joinO_over {F : List R} {x a : R} (hx : x ∈ joinO F) (ha : a ∈ joinO F) : overB a x = false := by
  unfold joinO at hx ha
  split at hx
  · rename_i h
    rw [if_pos h] at ha
    unfold overB
    rw [join_free hx ha]; simp
  · cases hx
theorem joinO_self {l m : List R} (h : setB l = true) (hm : ∀ x, x ∈ m ↔ x ∈ l) : alikeB m = true ∧ joinO m = l := by
  have ha := (set_of h).1
  have hm2 : alikeB m = true := by
    rw [alike_iff]
    intro r hr
    have hk : keyL m = keyL l := by
      cases m with
      | nil => cases hr
      | cons y m =>
        show y.key = _
        exact ((alike_iff l).1 ha y ((hm y).1 (by simp))).2
    rw [hk]
    exact (alike_iff l).1 ha r ((hm r).1 hr)
  exact ⟨hm2, by unfold joinO; rw [if_pos hm2]; exact join_self h hm⟩
/-- great of sets that have just been laid -/
theorem great_lits (w : World) (T : TypeId) (q : List (Option Addr × Nat × List E)) (m : Nat) (hm : q.length = m) (hm2 : m ≤ 1000000) (hq : ∀ x ∈ q, RRow w w.heap.size x.1 x.2.2 ∧ (x.1 = none → x.2.1 = 0)) (hl : ∀ x ∈ q, x.2.2.length < 9223372036854775808 ∧ ∀ y ∈ x.2.2, Fits y) :
    Calls Tryz.prog 34 #[.slice (some ⟨w.heap.size, 0, none⟩) m m] (w.alloc (.cells (q.map fun q => Value.slice q.1 q.2.2.length q.2.1).toArray T)) (fun e w' => ∃ b : Bool, e = .returned (.bool b) ∧ (b = false → Few (q.map (·.2.2))) ∧ w.grownBy w' none) :=
  (great_any m m (w.heap.size + 1) (q.map (·.2.2)) (some ⟨w.heap.size, 0, none⟩) _ (by simpa using hm) (srow_new w w.heap.size T q (Nat.le_refl _) hq) (by omega) (fun p hp => by
      obtain ⟨x, hx, rfl⟩ := List.mem_map.1 hp
      exact (hl x hx).1) (fun x hx => by
      obtain ⟨p, hp, hxp⟩ := List.mem_flatten.1 hx
      obtain ⟨y, hy, rfl⟩ := List.mem_map.1 hp
      exact (hl y hy).2 x hxp)).mono fun e w' ⟨b, he, hb, hg⟩ => ⟨b, he, fun h => few_of (hb h), gb_trans (gb_alloc (gb_refl _ _) _) hg⟩
theorem join2 (w : World) (a0 : Option Addr) (n0 c0 : Nat) (l0 : List E) (a1 : Option Addr) (n1 c1 : Nat) (l1 : List E) (h0 : l0.length = n0 ∧ n0 ≤ 100000 ∧ RRow w w.heap.size a0 l0 ∧ (a0 = none → c0 = 0) ∧ ∀ x ∈ l0, Small x) (h1 : l1.length = n1 ∧ n1 ≤ 100000 ∧ RRow w w.heap.size a1 l1 ∧ (a1 = none → c1 = 0) ∧ ∀ x ∈ l1, Small x) :
    Calls Tryz.prog 37 #[.slice (some ⟨w.heap.size, 0, none⟩) 2 2] (w.alloc (.cells #[.slice a0 n0 c0, .slice a1 n1 c1] 48)) (JoinRow w (recs (l0 ++ l1))) := by
  have hF : (([(a0, c0, l0), (a1, c1, l1)] : List (Option Addr × Nat × List E)).map (·.2.2)).flatten = (l0 ++ l1) := by simp
  have h := join_lits w 48 [(a0, c0, l0), (a1, c1, l1)] 2 rfl (by decide) (by
    intro x hx; simp only [List.mem_cons, List.not_mem_nil, or_false] at hx
    rcases hx with rfl | rfl
    · exact ⟨h0.2.2.1, h0.2.2.2.1⟩
    · exact ⟨h1.2.2.1, h1.2.2.2.1⟩) (by
    rw [hF]; simp only [List.length_append]; rw [h0.1, h1.1]
    have q0 := h0.2.1; have q1 := h1.2.1; omega) (by
    rw [hF]; intro x hx; simp only [List.mem_append] at hx
    rcases hx with hx | hx
    · exact h0.2.2.2.2 x hx
    · exact h1.2.2.2.2 x hx)
  rw [hF, show ([(a0, c0, l0), (a1, c1, l1)] : List (Option Addr × Nat × List E)).map (fun q => Value.slice q.1 q.2.2.length q.2.1) = [.slice a0 n0 c0, .slice a1 n1 c1] from by simp only [List.map_cons, List.map_nil]; rw [h0.1, h1.1]] at h
  exact h
theorem join3 (w : World) (a0 : Option Addr) (n0 c0 : Nat) (l0 : List E) (a1 : Option Addr) (n1 c1 : Nat) (l1 : List E) (a2 : Option Addr) (n2 c2 : Nat) (l2 : List E) (h0 : l0.length = n0 ∧ n0 ≤ 100000 ∧ RRow w w.heap.size a0 l0 ∧ (a0 = none → c0 = 0) ∧ ∀ x ∈ l0, Small x) (h1 : l1.length = n1 ∧ n1 ≤ 100000 ∧ RRow w w.heap.size a1 l1 ∧ (a1 = none → c1 = 0) ∧ ∀ x ∈ l1, Small x) (h2 : l2.length = n2 ∧ n2 ≤ 100000 ∧ RRow w w.heap.size a2 l2 ∧ (a2 = none → c2 = 0) ∧ ∀ x ∈ l2, Small x) :
    Calls Tryz.prog 37 #[.slice (some ⟨w.heap.size, 0, none⟩) 3 3] (w.alloc (.cells #[.slice a0 n0 c0, .slice a1 n1 c1, .slice a2 n2 c2] 48)) (JoinRow w (recs (l0 ++ l1 ++ l2))) := by
  have hF : (([(a0, c0, l0), (a1, c1, l1), (a2, c2, l2)] : List (Option Addr × Nat × List E)).map (·.2.2)).flatten = (l0 ++ l1 ++ l2) := by simp
  have h := join_lits w 48 [(a0, c0, l0), (a1, c1, l1), (a2, c2, l2)] 3 rfl (by decide) (by
    intro x hx; simp only [List.mem_cons, List.not_mem_nil, or_false] at hx
    rcases hx with rfl | rfl | rfl
    · exact ⟨h0.2.2.1, h0.2.2.2.1⟩
    · exact ⟨h1.2.2.1, h1.2.2.2.1⟩
    · exact ⟨h2.2.2.1, h2.2.2.2.1⟩) (by
    rw [hF]; simp only [List.length_append]; rw [h0.1, h1.1, h2.1]
    have q0 := h0.2.1; have q1 := h1.2.1; have q2 := h2.2.1; omega) (by
    rw [hF]; intro x hx; simp only [List.mem_append] at hx
    rcases hx with (hx | hx) | hx
    · exact h0.2.2.2.2 x hx
    · exact h1.2.2.2.2 x hx
    · exact h2.2.2.2.2 x hx)
  rw [hF, show ([(a0, c0, l0), (a1, c1, l1), (a2, c2, l2)] : List (Option Addr × Nat × List E)).map (fun q => Value.slice q.1 q.2.2.length q.2.1) = [.slice a0 n0 c0, .slice a1 n1 c1, .slice a2 n2 c2] from by simp only [List.map_cons, List.map_nil]; rw [h0.1, h1.1, h2.1]] at h
  exact h
/-- the records laid one row behind the other, as 'append(append([]api.Record{}, a...), b...)' lays them -/
theorem own_none (w : World) : ∀ c : Nat, c = 0 → OwnR (w.alloc (.cells #[] 66)) w.heap.size (.slice (some ⟨w.heap.size, 0, none⟩) 0 c) [] := fun c hc => by
  subst hc
  exact World.ownsRow_made w #[] _ (Nat.le_refl _) (by decide) rfl
end Sb
end Go.Proofs.YtlkiancedgaicaaGreat

/- How many bytes a set has; great of one set. -/
namespace Go.Proofs.YtlkiancedgaicaaGreat
open Go.RowKit Ow Wi Ve Rc
namespace Sb
theorem dotsL_len (l : List D) : (dotsL l).length = 16 * l.length := by
  induction l with
  | nil => rfl
  | cons d l ih =>
    have e : dotsL (d :: l) = dotL d ++ dotsL l := by simp [dotsL]
    rw [e, List.length_append, ih, List.length_cons]
    have : (dotL d).length = 16 := by unfold dotL; rw [List.length_append, encN_length, encN_length]
    omega
theorem putL_len (r : R) : (putL r).length = 42 + r.key.length + 16 * r.cx.length + r.val.length + r.sig.length := by
  unfold putL textL
  have h1 : (dotL r.dot).length = 16 := by unfold dotL; rw [List.length_append, encN_length, encN_length]
  simp only [List.length_append, List.length_cons, rowL_length, encN_length, dotsL_len, h1]
  omega
theorem set_few {w : World} {B : Nat} {l : List E} (h : ∀ x ∈ l, RAt w B x.1 x.2) : (rowsL (recs l)).length ≤ 57 * sumC l := by
  induction l with
  | nil => simp [rowsL, sumC]
  | cons x l ih =>
    have hx := h x (by simp)
    have h1 := ih fun y hy => h y (List.mem_cons_of_mem _ hy)
    have e : rowsL (recs (x :: l)) = rowL (putL x.2) ++ rowsL (recs l) := by
      rw [show recs (x :: l) = [x.2] ++ recs l from rfl, rowsL_app, rowsL_one]
    have e2 : sumC (x :: l) = cntE x + sumC l := by simp [sumC]
    rw [e, e2, List.length_append, rowL_length, putL_len, hx.keyLen, hx.l1, hx.l2, hx.l3]
    unfold cntE
    omega
theorem rowsL_byte {w : World} {B : Nat} {l : List E} (h : ∀ x ∈ l, RAt w B x.1 x.2) (hr : ∀ x ∈ l, rightB x.2 = true) : ∀ i, (rowsL (recs l)).getD i 0 < 256 := by
  induction l with
  | nil => intro i; simp [rowsL]
  | cons x l ih =>
    have hx := h x (by simp)
    rw [show recs (x :: l) = [x.2] ++ recs l from rfl, rowsL_app, rowsL_one]
    refine app_byte ?_ (ih (fun y hy => h y (List.mem_cons_of_mem _ hy)) (fun y hy => hr y (List.mem_cons_of_mem _ hy)))
    unfold rowL putL
    exact app_byte (encN_byte _) (app_byte (text_small hx (right_shape (hr x (by simp)))).2 hx.sig.byte)
/-- great of one set that has just been laid -/
theorem great_one (w : World) (T : TypeId) (a : Option Addr) (n c : Nat) (l : List E) (hn : l.length = n) (h : RRow w w.heap.size a l) (ha : a = none → c = 0) (hl : n < 9223372036854775808) (hf : ∀ x ∈ l, Fits x) :
    Calls Tryz.prog 34 #[.slice (some ⟨w.heap.size, 0, none⟩) 1 1] (w.alloc (.cells #[.slice a n c] T)) (fun e w' => ∃ b : Bool, e = .returned (.bool b) ∧ (b = false → 1 + sumC l ≤ 2500) ∧ w.grownBy w' none) := by
  have hr := srow_new w w.heap.size T [(a, c, l)] (Nat.le_refl _) (fun x hx => by
    rw [List.mem_singleton] at hx; subst hx; exact ⟨h, ha⟩)
  rw [show ([(a, c, l)] : List (Option Addr × Nat × List E)).map (fun q => Value.slice q.1 q.2.2.length q.2.1) = [.slice a n c] from by simp only [List.map_cons, List.map_nil]; rw [hn]] at hr
  refine (great_any 1 1 (w.heap.size + 1) [l] (some ⟨w.heap.size, 0, none⟩) _ rfl hr (by decide) (fun p hp => by rw [List.mem_singleton] at hp; subst hp; rw [hn]; exact hl) (fun x hx => by simp only [List.flatten_cons, List.flatten_nil, List.append_nil] at hx; exact hf x hx)).mono fun e w' ⟨b, he, hb, hg⟩ => ⟨b, he, fun h => ?_, gb_trans (gb_alloc (gb_refl _ _) _) hg⟩
  have := hb h
  simp only [List.map_cons, List.map_nil, List.sum_cons, List.sum_nil] at this
  omega
end Sb
end Go.Proofs.YtlkiancedgaicaaGreat

/- The document's Number, Bytes, Join (buttressref06). -/
namespace Go.Proofs.YtlkiancedgaicaaGreat
open Go.RowKit Ow Wi
theorem encN_take (n : Int) (k : Nat) (h : k < 8) : (encN n).take (k + 1) = (encN n).take k ++ [ofI n / 2 ^ (8 * (7 - k)) % 256] := by
  have hl : k < (encN n).length := by rw [encN_length]; exact h
  rw [List.take_succ_eq_append_getElem hl]
  congr 2
  simp [encN, encW]
set_option maxRecDepth 100000 in
set_option maxHeartbeats 2000000 in
theorem refNumber_any (n : Int) (w : World) : Calls Tryz.prog 16 #[.int .i64 n] w fun e w' => ∃ v, e = .returned v ∧ w.grownBy w' none ∧ w'.ownsRow w.heap.size 5 1 v 8 ((encN n).map u8N) := by
  have hw : IntKind.u64.wrap n = (ofI n : Nat) := by
    rw [show IntKind.u64.wrap n = n % 18446744073709551616 by simp [IntKind.wrap, IntKind.signed, IntKind.bits]]
    unfold ofI
    omega
  obtain ⟨m, hm⟩ : ∃ m, m = ofI n := ⟨_, rfl⟩
  rw [← hm] at hw
  have HM := Lib.hid hm; clear hm
  go_enter Tryz.func16, Tryz.ntmps16
  go_wp2_with fail
  go_loopw [3, 4] (fun v i wr => ∃ (k : Nat) (vr : Value), k ≤ 8 ∧ i = .int .i64 (7 - (k : Int)) ∧ vr = v ∧ Hid (w.grownBy wr none ∧ wr.ownsRow w.heap.size 5 1 vr k (((encN n).take k).map u8N))) (fun _ i _ => (intOf i + 1).toNat)
  case atStart => exact ⟨0, _, by decide, rfl, rfl, gb_refl _ _, World.ownsRow_nil w _ _ 1⟩
  case round =>
    obtain ⟨k, vr, hk, rfl, rfl, HI⟩ := hrel
    by_cases hlt : k < 8
    · obtain ⟨j, hj⟩ : ∃ j : Nat, j = 7 - k := ⟨_, rfl⟩
      have e7 : (7 : Int) - (k : Int) = (j : Int) := by omega
      rw [e7]
      have i0 : (0 : Int) ≤ (j : Int) := by omega
      have i1 : (j : Int) ≤ 7 := by omega
      obtain ⟨v2, w2, hap, ho2, hg2⟩ := append1_u8 wr w.heap.size k vr (.int .u8 ((m : Int) / 2 ^ (8 * (7 - k)) % 256)) _ HI.out.2 rfl (by omega) HI.out.1.size
      have hg3 := own_gb HI.out.1 HI.out.2 hg2
      have hv : [Value.int .u8 ((m : Int) / 2 ^ (8 * (7 - k)) % 256)] = [u8N (ofI n / 2 ^ (8 * (7 - k)) % 256)] := by
        rw [HM.out]; unfold u8N; simp
      rw [hv, ← List.map_singleton, ← List.map_append, ← encN_take n k hlt] at ho2
      have HN := Lib.hid (And.intro hg3 ho2)
      have HA := Lib.hid hap
      clear hg2 hg3 hv ho2 hap HI
      go_wp2_with (at_builtin; refine wpList_append_run rfl (.tmp 9) (.tmp 17) 23 rfl rfl _ _ rfl rfl _ _ HA.out ?_)
      go_roundw
      case rel => exact ⟨k + 1, v2, by omega, by congr 1; omega, rfl, HN.out⟩
      case measure => simp [intOf]; omega
    · obtain rfl : k = 8 := by omega
      have HI2 := HI.out.2
      rw [show (encN n).take 8 = encN n from by rw [← encN_length n]; exact List.take_length] at HI2
      have HN := Lib.hid (And.intro HI.out.1 HI2)
      clear HI HI2
      go_wp2
      go_ret
      exact ⟨vr, rfl, HN.out⟩
theorem refNumber_out (n : Int) (w : World) : Calls Tryz.prog 16 #[.int .i64 n] w (YOut w (encN n)) :=
  (refNumber_any n w).mono fun _ _ ⟨_, he, hg, ho⟩ => he ▸ bout_own hg ho (encN_length n) (encN_byte n)
set_option maxHeartbeats 2000000 in
theorem refBytes_out (n : Nat) (l : List Nat) (a : Option Addr) (cap B : Nat) (w : World) (hn : l.length = n) (h : BytesAt w B a cap l) (hl : l.length ≤ 900000) : Calls Tryz.prog 19 #[.slice a n cap] w (YOut w (encN (l.length : Int) ++ l)) := by
  subst hn
  have HN := Lib.hid (refNumber_any (l.length : Int) w)
  have HH := Lib.hid (And.intro h hl)
  obtain ⟨Q, hQ⟩ : ∃ Q, Q = YOut w (encN (l.length : Int) ++ l) := ⟨_, rfl⟩
  rw [← hQ]
  have HQ := Lib.hid hQ; clear hQ h hl
  go_enter Tryz.func19, Tryz.ntmps19
  go_wp2_with fail
  refine HN.out.mono ?_
  rintro e w1 ⟨v1, rfl, hg, ho⟩
  obtain ⟨v2, w2, hap, ho2, hg2⟩ := append_bytes w1 w.heap.size 8 B cap l.length v1 _ a l ho rfl (HH.out.1.stay hg) (by have := HH.out.2; omega) hg.size
  have hg3 := own_gb hg ho hg2
  rw [← List.map_append] at ho2
  have HR := Lib.hid (bout_own hg3 ho2 (by rw [List.length_append, encN_length]) (app_byte (encN_byte _) HH.out.1.byte))
  have HA := Lib.hid hap
  clear hg ho hap ho2 hg2 hg3 HN
  generalize l.length = m at *
  go_wp2_with (at_builtin; refine wpList_append_run rfl (.tmp 5) (.tmp 6) 23 rfl rfl _ _ rfl rfl _ _ HA.out ?_)
  rw [HQ.out]
  exact HR.out
set_option maxRecDepth 100000 in
set_option maxHeartbeats 2000000 in
theorem refJoin_own (n : Nat) (L : List (List Nat)) (a : Option Addr) (cap B : Nat) (w : World) (hn : L.length = n) (h : RowsAt w B a L) (hm : L.length < 9223372036854775808) (hl : L.flatten.length ≤ 1000000) (hb : ∀ l ∈ L, ∀ i, l.getD i 0 < 256) : Calls Tryz.prog 17 #[.slice a n cap] w (fun e w' => ∃ v, e = .returned v ∧ w.grownBy w' none ∧ w'.ownsRow w.heap.size 5 1 v L.flatten.length (L.flatten.map u8N)) := by
  have hn63 : n < 9223372036854775808 := by omega
  clear hm
  have HR := Lib.hid h; clear h
  have HL := Lib.hid (And.intro hl hb); clear hl hb
  have HM := Lib.hid hn; clear hn
  obtain ⟨Q, hQ⟩ : ∃ Q : Ending → World → Prop, Q = (fun e w' => ∃ v, e = .returned v ∧ w.grownBy w' none ∧ w'.ownsRow w.heap.size 5 1 v L.flatten.length (L.flatten.map u8N)) := ⟨_, rfl⟩
  rw [← hQ]
  have HQ := Lib.hid hQ; clear hQ
  go_enter Tryz.func17, Tryz.ntmps17
  go_wp2_with fail
  go_loopw [3, 4] (fun v i wr => ∃ (q : Nat) (u : Value), q ≤ n ∧ i = .int .i64 q ∧ u = v ∧ Hid (w.grownBy wr none ∧ wr.ownsRow w.heap.size 5 1 u (L.take q).flatten.length ((L.take q).flatten.map u8N))) (fun _ i _ => n - (intOf i).toNat)
  case atStart => exact ⟨0, _, by omega, rfl, rfl, gb_refl _ _, World.ownsRow_nil w _ _ 1⟩
  case round =>
    obtain ⟨q, vr, hq, rfl, rfl, HI⟩ := hrel
    by_cases hlt : q < n
    · obtain ⟨pb, po, ai, ci, rfl, hpb, k1, hB⟩ := HR.out.at (i := q) (by rw [HM.out]; exact hlt)
      have i0 : (q : Int) < (n : Int) := by omega
      have hN := flat_take L q (by rw [HM.out]; exact hlt)
      have hle := flat_le L (q + 1)
      have h6 := HL.out.1
      have hB2 := hB.stay HI.out.1
      have k2 : wr.cell? ⟨pb, po + q, none⟩ = some (.slice ai (L.getD q []).length ci) := by
        rw [gb_cell HI.out.1 (p := ⟨pb, po + q, none⟩) (Nat.lt_of_lt_of_le hpb HR.out.lim) (by simp)]; exact k1
      obtain ⟨v2, w2, hap, ho2, hg2⟩ := append_bytes wr w.heap.size _ B ci _ vr _ ai (L.getD q []) HI.out.2 rfl hB2 (by rw [hN, List.length_append] at hle; omega) HI.out.1.size
      have HN := Lib.hid (And.intro hN (And.intro ho2 (own_gb HI.out.1 HI.out.2 hg2)))
      have HA := Lib.hid hap
      clear hN hle h6 hB hB2 k1 ho2 hg2 hap HI
      obtain ⟨t, ht⟩ : ∃ t, t = (L.getD q []).length := ⟨_, rfl⟩
      rw [← ht] at HA k2
      have HT := Lib.hid ht; clear ht
      go_wp2_with (at_builtin; refine wpList_append_run rfl (.tmp 11) (.tmp 15) 23 rfl rfl _ _ rfl rfl _ _ HA.out ?_)
      go_roundw
      case rel => exact ⟨q + 1, v2, by omega, by go_num, rfl, HN.out.2.2, by rw [HN.out.1, List.length_append, List.map_append]; exact HN.out.2.1⟩
      case measure => simp [intOf]; omega
    · obtain rfl : q = n := by omega
      have e0 : L.take q = L := by rw [← HM.out]; exact List.take_length
      have hI := HI.out
      rw [e0] at hI
      have HF := Lib.hid hI
      clear hI HI e0
      go_wp2
      rw [HQ.out]
      exact ⟨_, rfl, HF.out.1, HF.out.2⟩
theorem refJoin_out (n : Nat) (L : List (List Nat)) (a : Option Addr) (cap B : Nat) (w : World) (hn : L.length = n) (h : RowsAt w B a L) (hm : L.length < 9223372036854775808) (hl : L.flatten.length ≤ 1000000) (hb : ∀ l ∈ L, ∀ i, l.getD i 0 < 256) : Calls Tryz.prog 17 #[.slice a n cap] w (YOut w L.flatten) :=
  (refJoin_own n L a cap B w hn h hm hl hb).mono fun _ _ ⟨_, he, hg, ho⟩ => he ▸ bout_own hg ho rfl (flat_byte hb)
end Go.Proofs.YtlkiancedgaicaaGreat

/- The document's answers (buttressref07): Dot, Right, up, Has, Covers. -/
namespace Go.Proofs.YtlkiancedgaicaaGreat
open Go.RowKit Ve
namespace Ve
def BOut (w : World) (b : Bool) (e : Ending) (w' : World) : Prop := e = .returned (.bool b) ∧ w.grownBy w' none
set_option maxHeartbeats 400000 in
theorem refDot_any (b : Bool) (x y : Int) (w : World) (hb : okD (x, y) = b) :
    Calls Tryz.prog 192 #[.agg #[iV x, iV y]] w (BOut w b) := by
  have hO : BOut w b (.returned (.bool b)) (w.alloc (.cells #[iV x, iV y] 127)) := ⟨rfl, gb_alloc (gb_refl _ _) _⟩
  generalize BOut w b = Q at hO ⊢
  have HO := Lib.hid hO; clear hO
  unfold okD at hb
  by_cases h1 : 1 ≤ x
  · by_cases h2 : x ≤ 8
    · by_cases h3 : 1 ≤ y
      · by_cases h4 : y ≤ 1073741824
        · obtain rfl : b = true := by rw [← hb]; simp; omega
          clear hb
          go_enter Tryz.func192, Tryz.ntmps192
          go_wp2
          exact HO.out
        · obtain rfl : b = false := by rw [← hb]; simp; omega
          clear hb
          go_enter Tryz.func192, Tryz.ntmps192
          go_wp2
          exact HO.out
      · obtain rfl : b = false := by rw [← hb]; simp; omega
        clear hb
        go_enter Tryz.func192, Tryz.ntmps192
        go_wp2
        exact HO.out
    · obtain rfl : b = false := by rw [← hb]; simp; omega
      clear hb
      go_enter Tryz.func192, Tryz.ntmps192
      go_wp2
      exact HO.out
  · obtain rfl : b = false := by rw [← hb]; simp; omega
    clear hb
    go_enter Tryz.func192, Tryz.ntmps192
    go_wp2
    exact HO.out
set_option maxHeartbeats 400000 in
theorem refUp_any (B n cap : Nat) (a : Option Addr) (l : List D) (c : Int) (w : World) (hn : l.length = n) (h : DotsAt w B a l) (hc : n < 9223372036854775808) :
    Calls Tryz.prog 194 #[.slice a n cap, .int .i64 c] w fun e w' => e = .returned (.int .i64 (up l c)) ∧ w = w' := by
  have H := Lib.hid h; clear h
  have HN := Lib.hid hn; clear hn
  obtain ⟨R, hR⟩ : ∃ R, R = up l c := ⟨_, rfl⟩
  rw [← hR]
  have HR : Hid (R = up (l.drop 0) c) := hR
  clear hR
  go_enter Tryz.func194, Tryz.ntmps194
  go_wp2
  go_loop [5] (fun i => ∃ k : Nat, k ≤ n ∧ i = .int .i64 k ∧ Hid (R = up (l.drop k) c)) (fun i => n - (intOf i).toNat)
  case atStart => exact ⟨0, by omega, rfl, HR.out⟩
  case round =>
    obtain ⟨k, hk, rfl, HI⟩ := hrel
    by_cases hlt : k < n
    · obtain ⟨pb, po, rfl, hpb, hcs⟩ := H.out.cells.resolve_left (by rw [HN.out]; omega)
      obtain ⟨k1, k2⟩ := hcs k (by rw [HN.out]; exact hlt)
      clear hcs
      have hd := drop_at l k (by rw [HN.out]; exact hlt)
      obtain ⟨x, y, hxy⟩ : ∃ x y, l.getD k z0 = (x, y) := ⟨_, _, rfl⟩
      rw [hxy] at k1 k2 hd
      simp only at k1 k2
      have hi : (k : Int) < (n : Int) := by omega
      have hr : R = if x = c then y else up (l.drop (k + 1)) c := by rw [HI.out, hd, up]
      clear hd hxy
      by_cases hx : x = c
      · rw [if_pos hx] at hr
        have hxb : (x == c) = true := by simpa using hx
        have HR2 := Lib.hid hr; clear hr hx
        go_wp2
        go_ret
        exact ⟨by rw [HR2.out]; rfl, rfl⟩
      · rw [if_neg hx] at hr
        have hxb : (x == c) = false := by simpa using hx
        have HR2 := Lib.hid hr; clear hr hx
        go_wp2
        go_round
        case rel => exact ⟨k + 1, by omega, by go_num, HR2.out⟩
        case measure => simp [intOf]; omega
    · obtain rfl : k = n := by omega
      have hr : R = 0 := by rw [HI.out, drop_end l k (by rw [HN.out]; omega)]; rfl
      have HR2 := Lib.hid hr; clear hr
      go_wp2
      go_ret
      exact ⟨by rw [HR2.out]; rfl, rfl⟩
/-- the client ahead of place k -/
def pv (l : List D) (k : Nat) : Int := if k = 0 then 0 else (l.getD (k - 1) z0).1
set_option maxHeartbeats 1000000 in
theorem refRight_any (B n cap : Nat) (a : Option Addr) (l : List D) (w : World) (hn : l.length = n) (h : DotsAt w B a l) (hc : n < 9223372036854775808) :
    Calls Tryz.prog 193 #[.slice a n cap] w fun e w' => e = .returned (.bool (rtB 0 l)) ∧ w.grownBy w' none := by
  have H := Lib.hid h; clear h
  have HN := Lib.hid hn; clear hn
  obtain ⟨R, hR⟩ : ∃ R, R = rtB 0 l := ⟨_, rfl⟩
  rw [← hR]
  have HR : Hid (0 ≤ pv l 0 ∧ R = rtB (pv l 0) (l.drop 0)) := ⟨Int.le_refl _, hR⟩
  clear hR
  go_enter Tryz.func193, Tryz.ntmps193
  go_wp2
  go_loopw [3] (fun i wr => ∃ k : Nat, k ≤ n ∧ i = .int .i64 k ∧ Hid (w.grownBy wr none ∧ 0 ≤ pv l k ∧ R = rtB (pv l k) (l.drop k))) (fun i _ => n - (intOf i).toNat)
  case atStart => exact ⟨0, by omega, rfl, gb_refl _ _, HR.out⟩
  case round =>
    obtain ⟨k, hk, rfl, HI⟩ := hrel
    by_cases hlt : k < n
    · obtain ⟨pb, po, rfl, hpb, hcs⟩ := (H.out.stay HI.out.1).cells.resolve_left (by rw [HN.out]; omega)
      obtain ⟨k1, k2⟩ := hcs k (by rw [HN.out]; exact hlt)
      have hd := drop_at l k (by rw [HN.out]; exact hlt)
      obtain ⟨x, y, hxy⟩ : ∃ x y, l.getD k z0 = (x, y) := ⟨_, _, rfl⟩
      rw [hxy] at k1 k2 hd
      simp only at k1 k2
      have hi : (k : Int) < (n : Int) := by omega
      have hpn : pv l (k + 1) = x := by unfold pv; rw [if_neg (by omega), Nat.add_sub_cancel, hxy]
      have hrn : R = ((decide (pv l k < x) && decide (x ≤ 8) && decide (1 ≤ y) && decide (y ≤ 1073741824)) && rtB (pv l (k + 1)) (l.drop (k + 1))) := by rw [HI.out.2.2, hd, rtB, hpn]
      have HX := Lib.hid (And.intro hrn hpn); clear hd hxy hrn hpn
      have HK1 : Hid (∀ {w' : World}, wr.grownBy w' none → w'.cell? ⟨pb, po + k * 2, none⟩ = some (iV x) ∧ w'.cell? ⟨pb, po + k * 2 + 1, none⟩ = some (iV y)) := fun {w'} hg => ⟨by rw [gb_cell hg (block_lt_of_cell k1) (by simp)]; exact k1, by rw [gb_cell hg (block_lt_of_cell k2) (by simp)]; exact k2⟩
      by_cases hok : okD (x, y) = true
      · have hD := Lib.hid (fun W => refDot_any true x y W hok)
        have hokk : 1 ≤ x ∧ x ≤ 8 ∧ 1 ≤ y ∧ y ≤ 1073741824 := by simpa [okD, and_assoc] using hok
        have HOK := Lib.hid hokk; clear hok hokk
        by_cases hk0 : k = 0
        · clear hcs
          have hr : R = rtB (pv l (k + 1)) (l.drop (k + 1)) ∧ 0 ≤ pv l (k + 1) := by
            have h0 : pv l k = 0 := by unfold pv; rw [if_pos hk0]
            obtain ⟨o1, o2, o3, o4⟩ := HOK.out
            have e := HX.out.1
            rw [h0, decide_eq_true (show (0 : Int) < x by omega), decide_eq_true o2, decide_eq_true o3, decide_eq_true o4] at e
            exact ⟨by simpa using e, by rw [HX.out.2]; omega⟩
          have HRR := Lib.hid hr; clear hr
          have b1 : decide (0 < k) = false := decide_eq_false (by omega)
          have b2 : decide ((0 : Int) < (k : Int)) = false := decide_eq_false (by omega)
          have HK0 := Lib.hid hk0; clear hk0
          go_wp2_with fail
          refine wp_region_flow3 (Fg.its [.any, .any, .any, .any, .any, .any, .any, .any, .any, .any, .val (.slice (some ⟨pb, po, none⟩) n cap), .val (.int .i64 (k : Int)), .val (.pointer (some ⟨pb, po + k * 2, none⟩)), .val (.agg #[iV x, iV y]), .val (.bool true), .val (.bool false), .val (.bool false), .val (.int .i64 (k : Int)), .val (.bool false), .val (.bool false), .val undef, .val undef, .val undef, .val undef, .val undef, .val undef, .val undef, .val undef, .val undef, .val undef, .val undef, .val undef, .val (.bool false), .val (.bool false)]) (fun _ => 0) (fun _ _ _ => True) (fun w => World.grownBy wr w none) [] (by kernel_rfl) (by kernel_rfl) (by kernel_rfl) (gb_drew (gb_refl _ _)) (Fg.ptrs_nil _ _) (Fg.no_store (by kernel_rfl)) ?_ ?_
          · refine ⟨Fg.value rfl fun ac w h => ?_, ?_⟩
            · have e0 : ac.tmps.getD 0 undef = .slice (some ⟨pb, po, none⟩) n cap := h.rest 0 (by kernel_rfl)
              refine ⟨wants_none rfl, .slice (some ⟨pb, po, none⟩) n cap, w, ?_, gb_refl _ _, rfl⟩
              clear h
              simp only [execOp, Act.eval, e0]
              go_simp
            refine ⟨Fg.value rfl fun ac w h => ?_, ?_⟩
            · have e3 : ac.tmps.getD 3 undef = .int .i64 (k : Int) := h.rest 3 (by kernel_rfl)
              refine ⟨wants_none rfl, .int .i64 (k : Int), w, ?_, gb_refl _ _, rfl⟩
              clear h
              simp only [execOp, Act.eval, e3]
              go_simp
            refine ⟨Fg.value rfl fun ac w h => ?_, ?_⟩
            · have e10 : ac.tmps.getD 10 undef = .slice (some ⟨pb, po, none⟩) n cap := h.dep 10 (by kernel_rfl)
              have e11 : ac.tmps.getD 11 undef = .int .i64 (k : Int) := h.dep 11 (by kernel_rfl)
              refine ⟨wants_none rfl, .pointer (some ⟨pb, po + k * 2, none⟩), w, ?_, gb_refl _ _, rfl⟩
              clear h
              simp only [execOp, Act.eval, e10, e11]
              go_simp
            refine ⟨Fg.value rfl fun ac w h => ?_, ?_⟩
            · have e12 : ac.tmps.getD 12 undef = .pointer (some ⟨pb, po + k * 2, none⟩) := h.dep 12 (by kernel_rfl)
              have c1 := (HK1.out h.base).1
              have c2 := (HK1.out h.base).2
              refine ⟨wants_none rfl, .agg #[iV x, iV y], w, ?_, gb_refl _ _, rfl⟩
              clear h
              simp only [execOp, Act.eval, e12]
              go_simp
            refine ⟨Fg.call rfl fun ac w h => ?_, ?_⟩
            · have e13 : ac.tmps.getD 13 undef = .agg #[iV x, iV y] := h.dep 13 (by kernel_rfl)
              have x13 : ac.tmps[13]?.getD undef = .agg #[iV x, iV y] := by simpa using e13
              have hb := h.base
              refine ⟨wants_none rfl, 192, #[.agg #[iV x, iV y]], ?_, ?_⟩
              · clear h hb e13
                go_simp
              · refine (hD.out w).mono ?_
                intro e w1 hp
                obtain ⟨rfl, hg⟩ := hp
                exact ⟨_, rfl, hg, rfl⟩
            refine ⟨Fg.value rfl fun ac w h => ?_, ?_⟩
            · have e14 : ac.tmps.getD 14 undef = .bool true := h.dep 14 (by kernel_rfl)
              refine ⟨wants_none rfl, .bool false, w, ?_, gb_refl _ _, rfl⟩
              clear h
              simp only [execOp, Act.eval, e14]
              go_simp
            refine ⟨Fg.value rfl fun ac w h => ?_, ?_⟩
            · have e15 : ac.tmps.getD 15 undef = .bool false := h.dep 15 (by kernel_rfl)
              refine ⟨wants_none rfl, .bool false, w, ?_, gb_refl _ _, rfl⟩
              clear h
              simp only [execOp, Act.eval, e15]
              go_simp
            refine ⟨Fg.value rfl fun ac w h => ?_, ?_⟩
            · have e16 : ac.tmps.getD 16 undef = .bool false := h.dep 16 (by kernel_rfl)
              have e3 : ac.tmps.getD 3 undef = .int .i64 (k : Int) := h.rest 3 (by kernel_rfl)
              refine ⟨wants_some (d := 16) rfl rfl (by rw [h.size]; show 16 < 34; decide) e16, .int .i64 (k : Int), w, ?_, gb_refl _ _, rfl⟩
              clear h
              simp only [execOp, Act.eval, e3]
              go_simp
            refine ⟨Fg.value rfl fun ac w h => ?_, ?_⟩
            · have e16 : ac.tmps.getD 16 undef = .bool false := h.dep 16 (by kernel_rfl)
              have e17 : ac.tmps.getD 17 undef = .int .i64 (k : Int) := h.dep 17 (by kernel_rfl)
              refine ⟨wants_some (d := 16) rfl rfl (by rw [h.size]; show 16 < 34; decide) e16, .bool false, w, ?_, gb_refl _ _, rfl⟩
              clear h
              simp only [execOp, Act.eval, e17]
              go_simp
            refine ⟨Fg.value rfl fun ac w h => ?_, ?_⟩
            · have e16 : ac.tmps.getD 16 undef = .bool false := h.dep 16 (by kernel_rfl)
              have e18 : ac.tmps.getD 18 undef = .bool false := h.dep 18 (by kernel_rfl)
              refine ⟨wants_some (d := 16) rfl rfl (by rw [h.size]; show 16 < 34; decide) e16, .bool false, w, ?_, gb_refl _ _, rfl⟩
              clear h
              simp only [execOp, Act.eval, e18]
              go_simp
            refine ⟨Fg.skipped rfl (fun _ => rfl) fun ac w h => ?_, ?_⟩
            · have e19 : ac.tmps.getD 19 undef = .bool false := h.dep 19 (by kernel_rfl)
              exact not_wants (d := 19) rfl rfl (by rw [h.size]; show 19 < 34; decide) e19 (by decide)
            refine ⟨Fg.skipped rfl (fun _ => rfl) fun ac w h => ?_, ?_⟩
            · have e19 : ac.tmps.getD 19 undef = .bool false := h.dep 19 (by kernel_rfl)
              exact not_wants (d := 19) rfl rfl (by rw [h.size]; show 19 < 34; decide) e19 (by decide)
            refine ⟨Fg.skipped rfl (fun _ => rfl) fun ac w h => ?_, ?_⟩
            · have e19 : ac.tmps.getD 19 undef = .bool false := h.dep 19 (by kernel_rfl)
              exact not_wants (d := 19) rfl rfl (by rw [h.size]; show 19 < 34; decide) e19 (by decide)
            refine ⟨Fg.skipped rfl (fun _ => rfl) fun ac w h => ?_, ?_⟩
            · have e19 : ac.tmps.getD 19 undef = .bool false := h.dep 19 (by kernel_rfl)
              exact not_wants (d := 19) rfl rfl (by rw [h.size]; show 19 < 34; decide) e19 (by decide)
            refine ⟨Fg.skipped rfl (fun _ => rfl) fun ac w h => ?_, ?_⟩
            · have e19 : ac.tmps.getD 19 undef = .bool false := h.dep 19 (by kernel_rfl)
              exact not_wants (d := 19) rfl rfl (by rw [h.size]; show 19 < 34; decide) e19 (by decide)
            refine ⟨Fg.skipped rfl (fun _ => rfl) fun ac w h => ?_, ?_⟩
            · have e19 : ac.tmps.getD 19 undef = .bool false := h.dep 19 (by kernel_rfl)
              exact not_wants (d := 19) rfl rfl (by rw [h.size]; show 19 < 34; decide) e19 (by decide)
            refine ⟨Fg.skipped rfl (fun _ => rfl) fun ac w h => ?_, ?_⟩
            · have e19 : ac.tmps.getD 19 undef = .bool false := h.dep 19 (by kernel_rfl)
              exact not_wants (d := 19) rfl rfl (by rw [h.size]; show 19 < 34; decide) e19 (by decide)
            refine ⟨Fg.skipped rfl (fun _ => rfl) fun ac w h => ?_, ?_⟩
            · have e19 : ac.tmps.getD 19 undef = .bool false := h.dep 19 (by kernel_rfl)
              exact not_wants (d := 19) rfl rfl (by rw [h.size]; show 19 < 34; decide) e19 (by decide)
            refine ⟨Fg.skipped rfl (fun _ => rfl) fun ac w h => ?_, ?_⟩
            · have e19 : ac.tmps.getD 19 undef = .bool false := h.dep 19 (by kernel_rfl)
              exact not_wants (d := 19) rfl rfl (by rw [h.size]; show 19 < 34; decide) e19 (by decide)
            refine ⟨Fg.skipped rfl (fun _ => rfl) fun ac w h => ?_, ?_⟩
            · have e19 : ac.tmps.getD 19 undef = .bool false := h.dep 19 (by kernel_rfl)
              exact not_wants (d := 19) rfl rfl (by rw [h.size]; show 19 < 34; decide) e19 (by decide)
            refine ⟨Fg.skipped rfl (fun _ => rfl) fun ac w h => ?_, ?_⟩
            · have e19 : ac.tmps.getD 19 undef = .bool false := h.dep 19 (by kernel_rfl)
              exact not_wants (d := 19) rfl rfl (by rw [h.size]; show 19 < 34; decide) e19 (by decide)
            refine ⟨Fg.skipped rfl (fun _ => rfl) fun ac w h => ?_, ?_⟩
            · have e19 : ac.tmps.getD 19 undef = .bool false := h.dep 19 (by kernel_rfl)
              exact not_wants (d := 19) rfl rfl (by rw [h.size]; show 19 < 34; decide) e19 (by decide)
            refine ⟨Fg.value rfl fun ac w h => ?_, ?_⟩
            · have e16 : ac.tmps.getD 16 undef = .bool false := h.dep 16 (by kernel_rfl)
              have e19 : ac.tmps.getD 19 undef = .bool false := h.dep 19 (by kernel_rfl)
              refine ⟨wants_some (d := 16) rfl rfl (by rw [h.size]; show 16 < 34; decide) e16, .bool false, w, ?_, gb_refl _ _, rfl⟩
              clear h
              simp only [execOp, Act.eval, e19]
              go_simp
            refine ⟨Fg.value rfl fun ac w h => ?_, ?_⟩
            · have e16 : ac.tmps.getD 16 undef = .bool false := h.dep 16 (by kernel_rfl)
              have e32 : ac.tmps.getD 32 undef = .bool false := h.dep 32 (by kernel_rfl)
              refine ⟨wants_none rfl, .bool false, w, ?_, gb_refl _ _, rfl⟩
              clear h
              simp only [execOp, Act.eval, e16, e32]
              go_simp
            trivial
          · intro aq wq hB hsz hdf hrest hslots _
            obtain ⟨u10, hs10⟩ : ∃ u, aq.tmps.getD 10 undef = u := ⟨_, rfl⟩
            obtain ⟨u11, hs11⟩ : ∃ u, aq.tmps.getD 11 undef = u := ⟨_, rfl⟩
            obtain ⟨u12, hs12⟩ : ∃ u, aq.tmps.getD 12 undef = u := ⟨_, rfl⟩
            obtain ⟨u13, hs13⟩ : ∃ u, aq.tmps.getD 13 undef = u := ⟨_, rfl⟩
            obtain ⟨u14, hs14⟩ : ∃ u, aq.tmps.getD 14 undef = u := ⟨_, rfl⟩
            obtain ⟨u15, hs15⟩ : ∃ u, aq.tmps.getD 15 undef = u := ⟨_, rfl⟩
            obtain ⟨u16, hs16⟩ : ∃ u, aq.tmps.getD 16 undef = u := ⟨_, rfl⟩
            obtain ⟨u17, hs17⟩ : ∃ u, aq.tmps.getD 17 undef = u := ⟨_, rfl⟩
            obtain ⟨u18, hs18⟩ : ∃ u, aq.tmps.getD 18 undef = u := ⟨_, rfl⟩
            obtain ⟨u19, hs19⟩ : ∃ u, aq.tmps.getD 19 undef = u := ⟨_, rfl⟩
            obtain ⟨u20, hs20⟩ : ∃ u, aq.tmps.getD 20 undef = u := ⟨_, rfl⟩
            obtain ⟨u21, hs21⟩ : ∃ u, aq.tmps.getD 21 undef = u := ⟨_, rfl⟩
            obtain ⟨u22, hs22⟩ : ∃ u, aq.tmps.getD 22 undef = u := ⟨_, rfl⟩
            obtain ⟨u23, hs23⟩ : ∃ u, aq.tmps.getD 23 undef = u := ⟨_, rfl⟩
            obtain ⟨u24, hs24⟩ : ∃ u, aq.tmps.getD 24 undef = u := ⟨_, rfl⟩
            obtain ⟨u25, hs25⟩ : ∃ u, aq.tmps.getD 25 undef = u := ⟨_, rfl⟩
            obtain ⟨u26, hs26⟩ : ∃ u, aq.tmps.getD 26 undef = u := ⟨_, rfl⟩
            obtain ⟨u27, hs27⟩ : ∃ u, aq.tmps.getD 27 undef = u := ⟨_, rfl⟩
            obtain ⟨u28, hs28⟩ : ∃ u, aq.tmps.getD 28 undef = u := ⟨_, rfl⟩
            obtain ⟨u29, hs29⟩ : ∃ u, aq.tmps.getD 29 undef = u := ⟨_, rfl⟩
            obtain ⟨u30, hs30⟩ : ∃ u, aq.tmps.getD 30 undef = u := ⟨_, rfl⟩
            obtain ⟨u31, hs31⟩ : ∃ u, aq.tmps.getD 31 undef = u := ⟨_, rfl⟩
            obtain ⟨u32, hs32⟩ : ∃ u, aq.tmps.getD 32 undef = u := ⟨_, rfl⟩
            obtain rfl := Fg.frame_is (a := aq) (vs := [Value.slice (some ⟨pb, po, none⟩) n cap, undef, u2, Value.int .i64 (k : Int), Value.int .i64 (k : Int), Value.slice (some ⟨pb, po, none⟩) n cap, Value.int .i64 (n : Int), Value.bool true, u8, u9, u10, u11, u12, u13, u14, u15, u16, u17, u18, u19, u20, u21, u22, u23, u24, u25, u26, u27, u28, u29, u30, u31, u32, Value.bool false]) hsz ⟨hrest 0 (by kernel_rfl), hrest 1 (by kernel_rfl), hrest 2 (by kernel_rfl), hrest 3 (by kernel_rfl), hrest 4 (by kernel_rfl), hrest 5 (by kernel_rfl), hrest 6 (by kernel_rfl), hrest 7 (by kernel_rfl), hrest 8 (by kernel_rfl), hrest 9 (by kernel_rfl), hs10, hs11, hs12, hs13, hs14, hs15, hs16, hs17, hs18, hs19, hs20, hs21, hs22, hs23, hs24, hs25, hs26, hs27, hs28, hs29, hs30, hs31, hs32, (show aq.tmps.getD 33 undef = Value.bool false from hslots 33 (by kernel_rfl)), trivial⟩ hdf
            have hB0 := Lib.hid hB
            clear hB hsz hdf hrest hslots hs10 hs11 hs12 hs13 hs14 hs15 hs16 hs17 hs18 hs19 hs20 hs21 hs22 hs23 hs24 hs25 hs26 hs27 hs28 hs29 hs30 hs31 hs32
            go_wp2
            go_roundw
            case rel => exact ⟨k + 1, by omega, by go_num, gb_trans HI.out.1 hB0.out, HRR.out.2, HRR.out.1⟩
            case measure => simp [intOf]; omega
        · obtain ⟨q, hq⟩ : ∃ q, k = q + 1 := ⟨k - 1, by omega⟩
          obtain ⟨k3, _⟩ := hcs q (by rw [HN.out]; omega)
          clear hcs
          obtain ⟨px, hpx⟩ : ∃ px, px = (l.getD q z0).1 := ⟨_, rfl⟩
          rw [← hpx] at k3
          have hpv : pv l k = px := by unfold pv; rw [if_neg hk0, hq, Nat.add_sub_cancel, hpx]
          have b1 : decide (0 < k) = true := decide_eq_true (by omega)
          have b2 : decide ((0 : Int) < (k : Int)) = true := decide_eq_true (by omega)
          have b3 : IntKind.i64.wrap ((k : Int) - 1) = (q : Int) := by rw [IntKind.wrap_i64]; omega
          have b4 : (q : Int) < (n : Int) := by omega
          have b5 : (k : Int) - 1 = (q : Int) := by omega
          have b7 : IntKind.i64.wrap (q : Int) = (q : Int) := by rw [IntKind.wrap_i64]; omega
          have HPV := Lib.hid (And.intro hpv (And.intro hq hpx)); clear hpv hq hpx hk0
          have HK2 : Hid (∀ {w' : World}, wr.grownBy w' none → w'.cell? ⟨pb, po + k * 2, none⟩ = some (iV x) ∧ w'.cell? ⟨pb, po + q * 2, none⟩ = some (iV px)) := fun {w'} hg => ⟨by rw [gb_cell hg (block_lt_of_cell k1) (by simp)]; exact k1, by rw [gb_cell hg (block_lt_of_cell k3) (by simp)]; exact k3⟩
          by_cases hlt2 : px < x
          · have hr : R = rtB (pv l (k + 1)) (l.drop (k + 1)) ∧ 0 ≤ pv l (k + 1) := by
              obtain ⟨o1, o2, o3, o4⟩ := HOK.out
              have e := HX.out.1
              rw [HPV.out.1, decide_eq_true hlt2, decide_eq_true o2, decide_eq_true o3, decide_eq_true o4] at e
              exact ⟨by simpa using e, by rw [HX.out.2]; omega⟩
            have HRR := Lib.hid hr; clear hr
            have b6 : decide (x ≤ px) = false := decide_eq_false (by omega)
            go_wp2_with fail
            refine wp_region_flow3 (Fg.its [.any, .any, .any, .any, .any, .any, .any, .any, .any, .any, .val (.slice (some ⟨pb, po, none⟩) n cap), .val (.int .i64 (k : Int)), .val (.pointer (some ⟨pb, po + k * 2, none⟩)), .val (.agg #[iV x, iV y]), .val (.bool true), .val (.bool false), .val (.bool false), .val (.int .i64 (k : Int)), .val (.bool true), .val (.bool true), .val (.slice (some ⟨pb, po, none⟩) n cap), .val (.int .i64 (k : Int)), .val (.int .i64 (q : Int)), .val (.pointer (some ⟨pb, po + q * 2, none⟩)), .val (.pointer (some ⟨pb, po + q * 2, none⟩)), .val (iV px), .val (.slice (some ⟨pb, po, none⟩) n cap), .val (.int .i64 (k : Int)), .val (.pointer (some ⟨pb, po + k * 2, none⟩)), .val (.pointer (some ⟨pb, po + k * 2, none⟩)), .val (iV x), .val (.bool false), .val (.bool false), .val (.bool false)]) (fun _ => 0) (fun _ _ _ => True) (fun w => World.grownBy wr w none) [] (by kernel_rfl) (by kernel_rfl) (by kernel_rfl) (gb_drew (gb_refl _ _)) (Fg.ptrs_nil _ _) (Fg.no_store (by kernel_rfl)) ?_ ?_
            · refine ⟨Fg.value rfl fun ac w h => ?_, ?_⟩
              · have e0 : ac.tmps.getD 0 undef = .slice (some ⟨pb, po, none⟩) n cap := h.rest 0 (by kernel_rfl)
                refine ⟨wants_none rfl, .slice (some ⟨pb, po, none⟩) n cap, w, ?_, gb_refl _ _, rfl⟩
                clear h
                simp only [execOp, Act.eval, e0]
                go_simp
              refine ⟨Fg.value rfl fun ac w h => ?_, ?_⟩
              · have e3 : ac.tmps.getD 3 undef = .int .i64 (k : Int) := h.rest 3 (by kernel_rfl)
                refine ⟨wants_none rfl, .int .i64 (k : Int), w, ?_, gb_refl _ _, rfl⟩
                clear h
                simp only [execOp, Act.eval, e3]
                go_simp
              refine ⟨Fg.value rfl fun ac w h => ?_, ?_⟩
              · have e10 : ac.tmps.getD 10 undef = .slice (some ⟨pb, po, none⟩) n cap := h.dep 10 (by kernel_rfl)
                have e11 : ac.tmps.getD 11 undef = .int .i64 (k : Int) := h.dep 11 (by kernel_rfl)
                refine ⟨wants_none rfl, .pointer (some ⟨pb, po + k * 2, none⟩), w, ?_, gb_refl _ _, rfl⟩
                clear h
                simp only [execOp, Act.eval, e10, e11]
                go_simp
              refine ⟨Fg.value rfl fun ac w h => ?_, ?_⟩
              · have e12 : ac.tmps.getD 12 undef = .pointer (some ⟨pb, po + k * 2, none⟩) := h.dep 12 (by kernel_rfl)
                have c1 := (HK1.out h.base).1
                have c2 := (HK1.out h.base).2
                refine ⟨wants_none rfl, .agg #[iV x, iV y], w, ?_, gb_refl _ _, rfl⟩
                clear h
                simp only [execOp, Act.eval, e12]
                go_simp
              refine ⟨Fg.call rfl fun ac w h => ?_, ?_⟩
              · have e13 : ac.tmps.getD 13 undef = .agg #[iV x, iV y] := h.dep 13 (by kernel_rfl)
                have x13 : ac.tmps[13]?.getD undef = .agg #[iV x, iV y] := by simpa using e13
                have hb := h.base
                refine ⟨wants_none rfl, 192, #[.agg #[iV x, iV y]], ?_, ?_⟩
                · clear h hb e13
                  go_simp
                · refine (hD.out w).mono ?_
                  intro e w1 hp
                  obtain ⟨rfl, hg⟩ := hp
                  exact ⟨_, rfl, hg, rfl⟩
              refine ⟨Fg.value rfl fun ac w h => ?_, ?_⟩
              · have e14 : ac.tmps.getD 14 undef = .bool true := h.dep 14 (by kernel_rfl)
                refine ⟨wants_none rfl, .bool false, w, ?_, gb_refl _ _, rfl⟩
                clear h
                simp only [execOp, Act.eval, e14]
                go_simp
              refine ⟨Fg.value rfl fun ac w h => ?_, ?_⟩
              · have e15 : ac.tmps.getD 15 undef = .bool false := h.dep 15 (by kernel_rfl)
                refine ⟨wants_none rfl, .bool false, w, ?_, gb_refl _ _, rfl⟩
                clear h
                simp only [execOp, Act.eval, e15]
                go_simp
              refine ⟨Fg.value rfl fun ac w h => ?_, ?_⟩
              · have e16 : ac.tmps.getD 16 undef = .bool false := h.dep 16 (by kernel_rfl)
                have e3 : ac.tmps.getD 3 undef = .int .i64 (k : Int) := h.rest 3 (by kernel_rfl)
                refine ⟨wants_some (d := 16) rfl rfl (by rw [h.size]; show 16 < 34; decide) e16, .int .i64 (k : Int), w, ?_, gb_refl _ _, rfl⟩
                clear h
                simp only [execOp, Act.eval, e3]
                go_simp
              refine ⟨Fg.value rfl fun ac w h => ?_, ?_⟩
              · have e16 : ac.tmps.getD 16 undef = .bool false := h.dep 16 (by kernel_rfl)
                have e17 : ac.tmps.getD 17 undef = .int .i64 (k : Int) := h.dep 17 (by kernel_rfl)
                refine ⟨wants_some (d := 16) rfl rfl (by rw [h.size]; show 16 < 34; decide) e16, .bool true, w, ?_, gb_refl _ _, rfl⟩
                clear h
                simp only [execOp, Act.eval, e17]
                go_simp
              refine ⟨Fg.value rfl fun ac w h => ?_, ?_⟩
              · have e16 : ac.tmps.getD 16 undef = .bool false := h.dep 16 (by kernel_rfl)
                have e18 : ac.tmps.getD 18 undef = .bool true := h.dep 18 (by kernel_rfl)
                refine ⟨wants_some (d := 16) rfl rfl (by rw [h.size]; show 16 < 34; decide) e16, .bool true, w, ?_, gb_refl _ _, rfl⟩
                clear h
                simp only [execOp, Act.eval, e18]
                go_simp
              refine ⟨Fg.value rfl fun ac w h => ?_, ?_⟩
              · have e19 : ac.tmps.getD 19 undef = .bool true := h.dep 19 (by kernel_rfl)
                have e0 : ac.tmps.getD 0 undef = .slice (some ⟨pb, po, none⟩) n cap := h.rest 0 (by kernel_rfl)
                refine ⟨wants_some (d := 19) rfl rfl (by rw [h.size]; show 19 < 34; decide) e19, .slice (some ⟨pb, po, none⟩) n cap, w, ?_, gb_refl _ _, rfl⟩
                clear h
                simp only [execOp, Act.eval, e0]
                go_simp
              refine ⟨Fg.value rfl fun ac w h => ?_, ?_⟩
              · have e19 : ac.tmps.getD 19 undef = .bool true := h.dep 19 (by kernel_rfl)
                have e3 : ac.tmps.getD 3 undef = .int .i64 (k : Int) := h.rest 3 (by kernel_rfl)
                refine ⟨wants_some (d := 19) rfl rfl (by rw [h.size]; show 19 < 34; decide) e19, .int .i64 (k : Int), w, ?_, gb_refl _ _, rfl⟩
                clear h
                simp only [execOp, Act.eval, e3]
                go_simp
              refine ⟨Fg.value rfl fun ac w h => ?_, ?_⟩
              · have e19 : ac.tmps.getD 19 undef = .bool true := h.dep 19 (by kernel_rfl)
                have e21 : ac.tmps.getD 21 undef = .int .i64 (k : Int) := h.dep 21 (by kernel_rfl)
                refine ⟨wants_some (d := 19) rfl rfl (by rw [h.size]; show 19 < 34; decide) e19, .int .i64 (q : Int), w, ?_, gb_refl _ _, rfl⟩
                clear h
                simp only [execOp, Act.eval, e21]
                go_simp
              refine ⟨Fg.value rfl fun ac w h => ?_, ?_⟩
              · have e19 : ac.tmps.getD 19 undef = .bool true := h.dep 19 (by kernel_rfl)
                have e20 : ac.tmps.getD 20 undef = .slice (some ⟨pb, po, none⟩) n cap := h.dep 20 (by kernel_rfl)
                have e22 : ac.tmps.getD 22 undef = .int .i64 (q : Int) := h.dep 22 (by kernel_rfl)
                refine ⟨wants_some (d := 19) rfl rfl (by rw [h.size]; show 19 < 34; decide) e19, .pointer (some ⟨pb, po + q * 2, none⟩), w, ?_, gb_refl _ _, rfl⟩
                clear h
                simp only [execOp, Act.eval, e20, e22]
                go_simp
              refine ⟨Fg.value rfl fun ac w h => ?_, ?_⟩
              · have e19 : ac.tmps.getD 19 undef = .bool true := h.dep 19 (by kernel_rfl)
                have e23 : ac.tmps.getD 23 undef = .pointer (some ⟨pb, po + q * 2, none⟩) := h.dep 23 (by kernel_rfl)
                refine ⟨wants_some (d := 19) rfl rfl (by rw [h.size]; show 19 < 34; decide) e19, .pointer (some ⟨pb, po + q * 2, none⟩), w, ?_, gb_refl _ _, rfl⟩
                clear h
                simp only [execOp, Act.eval, e23]
                go_simp
              refine ⟨Fg.value rfl fun ac w h => ?_, ?_⟩
              · have e19 : ac.tmps.getD 19 undef = .bool true := h.dep 19 (by kernel_rfl)
                have e24 : ac.tmps.getD 24 undef = .pointer (some ⟨pb, po + q * 2, none⟩) := h.dep 24 (by kernel_rfl)
                have c1 := (HK2.out h.base).2
                refine ⟨wants_some (d := 19) rfl rfl (by rw [h.size]; show 19 < 34; decide) e19, iV px, w, ?_, gb_refl _ _, rfl⟩
                clear h
                simp only [execOp, Act.eval, e24]
                go_simp
              refine ⟨Fg.value rfl fun ac w h => ?_, ?_⟩
              · have e19 : ac.tmps.getD 19 undef = .bool true := h.dep 19 (by kernel_rfl)
                have e0 : ac.tmps.getD 0 undef = .slice (some ⟨pb, po, none⟩) n cap := h.rest 0 (by kernel_rfl)
                refine ⟨wants_some (d := 19) rfl rfl (by rw [h.size]; show 19 < 34; decide) e19, .slice (some ⟨pb, po, none⟩) n cap, w, ?_, gb_refl _ _, rfl⟩
                clear h
                simp only [execOp, Act.eval, e0]
                go_simp
              refine ⟨Fg.value rfl fun ac w h => ?_, ?_⟩
              · have e19 : ac.tmps.getD 19 undef = .bool true := h.dep 19 (by kernel_rfl)
                have e3 : ac.tmps.getD 3 undef = .int .i64 (k : Int) := h.rest 3 (by kernel_rfl)
                refine ⟨wants_some (d := 19) rfl rfl (by rw [h.size]; show 19 < 34; decide) e19, .int .i64 (k : Int), w, ?_, gb_refl _ _, rfl⟩
                clear h
                simp only [execOp, Act.eval, e3]
                go_simp
              refine ⟨Fg.value rfl fun ac w h => ?_, ?_⟩
              · have e19 : ac.tmps.getD 19 undef = .bool true := h.dep 19 (by kernel_rfl)
                have e26 : ac.tmps.getD 26 undef = .slice (some ⟨pb, po, none⟩) n cap := h.dep 26 (by kernel_rfl)
                have e27 : ac.tmps.getD 27 undef = .int .i64 (k : Int) := h.dep 27 (by kernel_rfl)
                refine ⟨wants_some (d := 19) rfl rfl (by rw [h.size]; show 19 < 34; decide) e19, .pointer (some ⟨pb, po + k * 2, none⟩), w, ?_, gb_refl _ _, rfl⟩
                clear h
                simp only [execOp, Act.eval, e26, e27]
                go_simp
              refine ⟨Fg.value rfl fun ac w h => ?_, ?_⟩
              · have e19 : ac.tmps.getD 19 undef = .bool true := h.dep 19 (by kernel_rfl)
                have e28 : ac.tmps.getD 28 undef = .pointer (some ⟨pb, po + k * 2, none⟩) := h.dep 28 (by kernel_rfl)
                refine ⟨wants_some (d := 19) rfl rfl (by rw [h.size]; show 19 < 34; decide) e19, .pointer (some ⟨pb, po + k * 2, none⟩), w, ?_, gb_refl _ _, rfl⟩
                clear h
                simp only [execOp, Act.eval, e28]
                go_simp
              refine ⟨Fg.value rfl fun ac w h => ?_, ?_⟩
              · have e19 : ac.tmps.getD 19 undef = .bool true := h.dep 19 (by kernel_rfl)
                have e29 : ac.tmps.getD 29 undef = .pointer (some ⟨pb, po + k * 2, none⟩) := h.dep 29 (by kernel_rfl)
                have c1 := (HK2.out h.base).1
                refine ⟨wants_some (d := 19) rfl rfl (by rw [h.size]; show 19 < 34; decide) e19, iV x, w, ?_, gb_refl _ _, rfl⟩
                clear h
                simp only [execOp, Act.eval, e29]
                go_simp
              refine ⟨Fg.value rfl fun ac w h => ?_, ?_⟩
              · have e19 : ac.tmps.getD 19 undef = .bool true := h.dep 19 (by kernel_rfl)
                have e25 : ac.tmps.getD 25 undef = iV px := h.dep 25 (by kernel_rfl)
                have e30 : ac.tmps.getD 30 undef = iV x := h.dep 30 (by kernel_rfl)
                refine ⟨wants_some (d := 19) rfl rfl (by rw [h.size]; show 19 < 34; decide) e19, .bool false, w, ?_, gb_refl _ _, rfl⟩
                clear h
                simp only [execOp, Act.eval, e25, e30]
                go_simp
              refine ⟨Fg.value rfl fun ac w h => ?_, ?_⟩
              · have e16 : ac.tmps.getD 16 undef = .bool false := h.dep 16 (by kernel_rfl)
                have e19 : ac.tmps.getD 19 undef = .bool true := h.dep 19 (by kernel_rfl)
                have e31 : ac.tmps.getD 31 undef = .bool false := h.dep 31 (by kernel_rfl)
                refine ⟨wants_some (d := 16) rfl rfl (by rw [h.size]; show 16 < 34; decide) e16, .bool false, w, ?_, gb_refl _ _, rfl⟩
                clear h
                simp only [execOp, Act.eval, e19, e31]
                go_simp
              refine ⟨Fg.value rfl fun ac w h => ?_, ?_⟩
              · have e16 : ac.tmps.getD 16 undef = .bool false := h.dep 16 (by kernel_rfl)
                have e32 : ac.tmps.getD 32 undef = .bool false := h.dep 32 (by kernel_rfl)
                refine ⟨wants_none rfl, .bool false, w, ?_, gb_refl _ _, rfl⟩
                clear h
                simp only [execOp, Act.eval, e16, e32]
                go_simp
              trivial
            · intro aq wq hB hsz hdf hrest hslots _
              obtain ⟨u10, hs10⟩ : ∃ u, aq.tmps.getD 10 undef = u := ⟨_, rfl⟩
              obtain ⟨u11, hs11⟩ : ∃ u, aq.tmps.getD 11 undef = u := ⟨_, rfl⟩
              obtain ⟨u12, hs12⟩ : ∃ u, aq.tmps.getD 12 undef = u := ⟨_, rfl⟩
              obtain ⟨u13, hs13⟩ : ∃ u, aq.tmps.getD 13 undef = u := ⟨_, rfl⟩
              obtain ⟨u14, hs14⟩ : ∃ u, aq.tmps.getD 14 undef = u := ⟨_, rfl⟩
              obtain ⟨u15, hs15⟩ : ∃ u, aq.tmps.getD 15 undef = u := ⟨_, rfl⟩
              obtain ⟨u16, hs16⟩ : ∃ u, aq.tmps.getD 16 undef = u := ⟨_, rfl⟩
              obtain ⟨u17, hs17⟩ : ∃ u, aq.tmps.getD 17 undef = u := ⟨_, rfl⟩
              obtain ⟨u18, hs18⟩ : ∃ u, aq.tmps.getD 18 undef = u := ⟨_, rfl⟩
              obtain ⟨u19, hs19⟩ : ∃ u, aq.tmps.getD 19 undef = u := ⟨_, rfl⟩
              obtain ⟨u20, hs20⟩ : ∃ u, aq.tmps.getD 20 undef = u := ⟨_, rfl⟩
              obtain ⟨u21, hs21⟩ : ∃ u, aq.tmps.getD 21 undef = u := ⟨_, rfl⟩
              obtain ⟨u22, hs22⟩ : ∃ u, aq.tmps.getD 22 undef = u := ⟨_, rfl⟩
              obtain ⟨u23, hs23⟩ : ∃ u, aq.tmps.getD 23 undef = u := ⟨_, rfl⟩
              obtain ⟨u24, hs24⟩ : ∃ u, aq.tmps.getD 24 undef = u := ⟨_, rfl⟩
              obtain ⟨u25, hs25⟩ : ∃ u, aq.tmps.getD 25 undef = u := ⟨_, rfl⟩
              obtain ⟨u26, hs26⟩ : ∃ u, aq.tmps.getD 26 undef = u := ⟨_, rfl⟩
              obtain ⟨u27, hs27⟩ : ∃ u, aq.tmps.getD 27 undef = u := ⟨_, rfl⟩
              obtain ⟨u28, hs28⟩ : ∃ u, aq.tmps.getD 28 undef = u := ⟨_, rfl⟩
              obtain ⟨u29, hs29⟩ : ∃ u, aq.tmps.getD 29 undef = u := ⟨_, rfl⟩
              obtain ⟨u30, hs30⟩ : ∃ u, aq.tmps.getD 30 undef = u := ⟨_, rfl⟩
              obtain ⟨u31, hs31⟩ : ∃ u, aq.tmps.getD 31 undef = u := ⟨_, rfl⟩
              obtain ⟨u32, hs32⟩ : ∃ u, aq.tmps.getD 32 undef = u := ⟨_, rfl⟩
              obtain rfl := Fg.frame_is (a := aq) (vs := [Value.slice (some ⟨pb, po, none⟩) n cap, undef, u2, Value.int .i64 (k : Int), Value.int .i64 (k : Int), Value.slice (some ⟨pb, po, none⟩) n cap, Value.int .i64 (n : Int), Value.bool true, u8, u9, u10, u11, u12, u13, u14, u15, u16, u17, u18, u19, u20, u21, u22, u23, u24, u25, u26, u27, u28, u29, u30, u31, u32, Value.bool false]) hsz ⟨hrest 0 (by kernel_rfl), hrest 1 (by kernel_rfl), hrest 2 (by kernel_rfl), hrest 3 (by kernel_rfl), hrest 4 (by kernel_rfl), hrest 5 (by kernel_rfl), hrest 6 (by kernel_rfl), hrest 7 (by kernel_rfl), hrest 8 (by kernel_rfl), hrest 9 (by kernel_rfl), hs10, hs11, hs12, hs13, hs14, hs15, hs16, hs17, hs18, hs19, hs20, hs21, hs22, hs23, hs24, hs25, hs26, hs27, hs28, hs29, hs30, hs31, hs32, (show aq.tmps.getD 33 undef = Value.bool false from hslots 33 (by kernel_rfl)), trivial⟩ hdf
              have hB0 := Lib.hid hB
              clear hB hsz hdf hrest hslots hs10 hs11 hs12 hs13 hs14 hs15 hs16 hs17 hs18 hs19 hs20 hs21 hs22 hs23 hs24 hs25 hs26 hs27 hs28 hs29 hs30 hs31 hs32
              go_wp2
              go_roundw
              case rel => exact ⟨k + 1, by omega, by go_num, gb_trans HI.out.1 hB0.out, HRR.out.2, HRR.out.1⟩
              case measure => simp [intOf]; omega
          · have hr : R = false := by
              have e := HX.out.1
              rw [HPV.out.1, decide_eq_false hlt2] at e
              simpa using e
            have HRR := Lib.hid hr; clear hr
            have b6 : decide (x ≤ px) = true := decide_eq_true (by omega)
            go_wp2_with fail
            refine wp_region_flow3 (Fg.its [.any, .any, .any, .any, .any, .any, .any, .any, .any, .any, .val (.slice (some ⟨pb, po, none⟩) n cap), .val (.int .i64 (k : Int)), .val (.pointer (some ⟨pb, po + k * 2, none⟩)), .val (.agg #[iV x, iV y]), .val (.bool true), .val (.bool false), .val (.bool false), .val (.int .i64 (k : Int)), .val (.bool true), .val (.bool true), .val (.slice (some ⟨pb, po, none⟩) n cap), .val (.int .i64 (k : Int)), .val (.int .i64 (q : Int)), .val (.pointer (some ⟨pb, po + q * 2, none⟩)), .val (.pointer (some ⟨pb, po + q * 2, none⟩)), .val (iV px), .val (.slice (some ⟨pb, po, none⟩) n cap), .val (.int .i64 (k : Int)), .val (.pointer (some ⟨pb, po + k * 2, none⟩)), .val (.pointer (some ⟨pb, po + k * 2, none⟩)), .val (iV x), .val (.bool true), .val (.bool true), .val (.bool true)]) (fun _ => 0) (fun _ _ _ => True) (fun w => World.grownBy wr w none) [] (by kernel_rfl) (by kernel_rfl) (by kernel_rfl) (gb_drew (gb_refl _ _)) (Fg.ptrs_nil _ _) (Fg.no_store (by kernel_rfl)) ?_ ?_
            · refine ⟨Fg.value rfl fun ac w h => ?_, ?_⟩
              · have e0 : ac.tmps.getD 0 undef = .slice (some ⟨pb, po, none⟩) n cap := h.rest 0 (by kernel_rfl)
                refine ⟨wants_none rfl, .slice (some ⟨pb, po, none⟩) n cap, w, ?_, gb_refl _ _, rfl⟩
                clear h
                simp only [execOp, Act.eval, e0]
                go_simp
              refine ⟨Fg.value rfl fun ac w h => ?_, ?_⟩
              · have e3 : ac.tmps.getD 3 undef = .int .i64 (k : Int) := h.rest 3 (by kernel_rfl)
                refine ⟨wants_none rfl, .int .i64 (k : Int), w, ?_, gb_refl _ _, rfl⟩
                clear h
                simp only [execOp, Act.eval, e3]
                go_simp
              refine ⟨Fg.value rfl fun ac w h => ?_, ?_⟩
              · have e10 : ac.tmps.getD 10 undef = .slice (some ⟨pb, po, none⟩) n cap := h.dep 10 (by kernel_rfl)
                have e11 : ac.tmps.getD 11 undef = .int .i64 (k : Int) := h.dep 11 (by kernel_rfl)
                refine ⟨wants_none rfl, .pointer (some ⟨pb, po + k * 2, none⟩), w, ?_, gb_refl _ _, rfl⟩
                clear h
                simp only [execOp, Act.eval, e10, e11]
                go_simp
              refine ⟨Fg.value rfl fun ac w h => ?_, ?_⟩
              · have e12 : ac.tmps.getD 12 undef = .pointer (some ⟨pb, po + k * 2, none⟩) := h.dep 12 (by kernel_rfl)
                have c1 := (HK1.out h.base).1
                have c2 := (HK1.out h.base).2
                refine ⟨wants_none rfl, .agg #[iV x, iV y], w, ?_, gb_refl _ _, rfl⟩
                clear h
                simp only [execOp, Act.eval, e12]
                go_simp
              refine ⟨Fg.call rfl fun ac w h => ?_, ?_⟩
              · have e13 : ac.tmps.getD 13 undef = .agg #[iV x, iV y] := h.dep 13 (by kernel_rfl)
                have x13 : ac.tmps[13]?.getD undef = .agg #[iV x, iV y] := by simpa using e13
                have hb := h.base
                refine ⟨wants_none rfl, 192, #[.agg #[iV x, iV y]], ?_, ?_⟩
                · clear h hb e13
                  go_simp
                · refine (hD.out w).mono ?_
                  intro e w1 hp
                  obtain ⟨rfl, hg⟩ := hp
                  exact ⟨_, rfl, hg, rfl⟩
              refine ⟨Fg.value rfl fun ac w h => ?_, ?_⟩
              · have e14 : ac.tmps.getD 14 undef = .bool true := h.dep 14 (by kernel_rfl)
                refine ⟨wants_none rfl, .bool false, w, ?_, gb_refl _ _, rfl⟩
                clear h
                simp only [execOp, Act.eval, e14]
                go_simp
              refine ⟨Fg.value rfl fun ac w h => ?_, ?_⟩
              · have e15 : ac.tmps.getD 15 undef = .bool false := h.dep 15 (by kernel_rfl)
                refine ⟨wants_none rfl, .bool false, w, ?_, gb_refl _ _, rfl⟩
                clear h
                simp only [execOp, Act.eval, e15]
                go_simp
              refine ⟨Fg.value rfl fun ac w h => ?_, ?_⟩
              · have e16 : ac.tmps.getD 16 undef = .bool false := h.dep 16 (by kernel_rfl)
                have e3 : ac.tmps.getD 3 undef = .int .i64 (k : Int) := h.rest 3 (by kernel_rfl)
                refine ⟨wants_some (d := 16) rfl rfl (by rw [h.size]; show 16 < 34; decide) e16, .int .i64 (k : Int), w, ?_, gb_refl _ _, rfl⟩
                clear h
                simp only [execOp, Act.eval, e3]
                go_simp
              refine ⟨Fg.value rfl fun ac w h => ?_, ?_⟩
              · have e16 : ac.tmps.getD 16 undef = .bool false := h.dep 16 (by kernel_rfl)
                have e17 : ac.tmps.getD 17 undef = .int .i64 (k : Int) := h.dep 17 (by kernel_rfl)
                refine ⟨wants_some (d := 16) rfl rfl (by rw [h.size]; show 16 < 34; decide) e16, .bool true, w, ?_, gb_refl _ _, rfl⟩
                clear h
                simp only [execOp, Act.eval, e17]
                go_simp
              refine ⟨Fg.value rfl fun ac w h => ?_, ?_⟩
              · have e16 : ac.tmps.getD 16 undef = .bool false := h.dep 16 (by kernel_rfl)
                have e18 : ac.tmps.getD 18 undef = .bool true := h.dep 18 (by kernel_rfl)
                refine ⟨wants_some (d := 16) rfl rfl (by rw [h.size]; show 16 < 34; decide) e16, .bool true, w, ?_, gb_refl _ _, rfl⟩
                clear h
                simp only [execOp, Act.eval, e18]
                go_simp
              refine ⟨Fg.value rfl fun ac w h => ?_, ?_⟩
              · have e19 : ac.tmps.getD 19 undef = .bool true := h.dep 19 (by kernel_rfl)
                have e0 : ac.tmps.getD 0 undef = .slice (some ⟨pb, po, none⟩) n cap := h.rest 0 (by kernel_rfl)
                refine ⟨wants_some (d := 19) rfl rfl (by rw [h.size]; show 19 < 34; decide) e19, .slice (some ⟨pb, po, none⟩) n cap, w, ?_, gb_refl _ _, rfl⟩
                clear h
                simp only [execOp, Act.eval, e0]
                go_simp
              refine ⟨Fg.value rfl fun ac w h => ?_, ?_⟩
              · have e19 : ac.tmps.getD 19 undef = .bool true := h.dep 19 (by kernel_rfl)
                have e3 : ac.tmps.getD 3 undef = .int .i64 (k : Int) := h.rest 3 (by kernel_rfl)
                refine ⟨wants_some (d := 19) rfl rfl (by rw [h.size]; show 19 < 34; decide) e19, .int .i64 (k : Int), w, ?_, gb_refl _ _, rfl⟩
                clear h
                simp only [execOp, Act.eval, e3]
                go_simp
              refine ⟨Fg.value rfl fun ac w h => ?_, ?_⟩
              · have e19 : ac.tmps.getD 19 undef = .bool true := h.dep 19 (by kernel_rfl)
                have e21 : ac.tmps.getD 21 undef = .int .i64 (k : Int) := h.dep 21 (by kernel_rfl)
                refine ⟨wants_some (d := 19) rfl rfl (by rw [h.size]; show 19 < 34; decide) e19, .int .i64 (q : Int), w, ?_, gb_refl _ _, rfl⟩
                clear h
                simp only [execOp, Act.eval, e21]
                go_simp
              refine ⟨Fg.value rfl fun ac w h => ?_, ?_⟩
              · have e19 : ac.tmps.getD 19 undef = .bool true := h.dep 19 (by kernel_rfl)
                have e20 : ac.tmps.getD 20 undef = .slice (some ⟨pb, po, none⟩) n cap := h.dep 20 (by kernel_rfl)
                have e22 : ac.tmps.getD 22 undef = .int .i64 (q : Int) := h.dep 22 (by kernel_rfl)
                refine ⟨wants_some (d := 19) rfl rfl (by rw [h.size]; show 19 < 34; decide) e19, .pointer (some ⟨pb, po + q * 2, none⟩), w, ?_, gb_refl _ _, rfl⟩
                clear h
                simp only [execOp, Act.eval, e20, e22]
                go_simp
              refine ⟨Fg.value rfl fun ac w h => ?_, ?_⟩
              · have e19 : ac.tmps.getD 19 undef = .bool true := h.dep 19 (by kernel_rfl)
                have e23 : ac.tmps.getD 23 undef = .pointer (some ⟨pb, po + q * 2, none⟩) := h.dep 23 (by kernel_rfl)
                refine ⟨wants_some (d := 19) rfl rfl (by rw [h.size]; show 19 < 34; decide) e19, .pointer (some ⟨pb, po + q * 2, none⟩), w, ?_, gb_refl _ _, rfl⟩
                clear h
                simp only [execOp, Act.eval, e23]
                go_simp
              refine ⟨Fg.value rfl fun ac w h => ?_, ?_⟩
              · have e19 : ac.tmps.getD 19 undef = .bool true := h.dep 19 (by kernel_rfl)
                have e24 : ac.tmps.getD 24 undef = .pointer (some ⟨pb, po + q * 2, none⟩) := h.dep 24 (by kernel_rfl)
                have c1 := (HK2.out h.base).2
                refine ⟨wants_some (d := 19) rfl rfl (by rw [h.size]; show 19 < 34; decide) e19, iV px, w, ?_, gb_refl _ _, rfl⟩
                clear h
                simp only [execOp, Act.eval, e24]
                go_simp
              refine ⟨Fg.value rfl fun ac w h => ?_, ?_⟩
              · have e19 : ac.tmps.getD 19 undef = .bool true := h.dep 19 (by kernel_rfl)
                have e0 : ac.tmps.getD 0 undef = .slice (some ⟨pb, po, none⟩) n cap := h.rest 0 (by kernel_rfl)
                refine ⟨wants_some (d := 19) rfl rfl (by rw [h.size]; show 19 < 34; decide) e19, .slice (some ⟨pb, po, none⟩) n cap, w, ?_, gb_refl _ _, rfl⟩
                clear h
                simp only [execOp, Act.eval, e0]
                go_simp
              refine ⟨Fg.value rfl fun ac w h => ?_, ?_⟩
              · have e19 : ac.tmps.getD 19 undef = .bool true := h.dep 19 (by kernel_rfl)
                have e3 : ac.tmps.getD 3 undef = .int .i64 (k : Int) := h.rest 3 (by kernel_rfl)
                refine ⟨wants_some (d := 19) rfl rfl (by rw [h.size]; show 19 < 34; decide) e19, .int .i64 (k : Int), w, ?_, gb_refl _ _, rfl⟩
                clear h
                simp only [execOp, Act.eval, e3]
                go_simp
              refine ⟨Fg.value rfl fun ac w h => ?_, ?_⟩
              · have e19 : ac.tmps.getD 19 undef = .bool true := h.dep 19 (by kernel_rfl)
                have e26 : ac.tmps.getD 26 undef = .slice (some ⟨pb, po, none⟩) n cap := h.dep 26 (by kernel_rfl)
                have e27 : ac.tmps.getD 27 undef = .int .i64 (k : Int) := h.dep 27 (by kernel_rfl)
                refine ⟨wants_some (d := 19) rfl rfl (by rw [h.size]; show 19 < 34; decide) e19, .pointer (some ⟨pb, po + k * 2, none⟩), w, ?_, gb_refl _ _, rfl⟩
                clear h
                simp only [execOp, Act.eval, e26, e27]
                go_simp
              refine ⟨Fg.value rfl fun ac w h => ?_, ?_⟩
              · have e19 : ac.tmps.getD 19 undef = .bool true := h.dep 19 (by kernel_rfl)
                have e28 : ac.tmps.getD 28 undef = .pointer (some ⟨pb, po + k * 2, none⟩) := h.dep 28 (by kernel_rfl)
                refine ⟨wants_some (d := 19) rfl rfl (by rw [h.size]; show 19 < 34; decide) e19, .pointer (some ⟨pb, po + k * 2, none⟩), w, ?_, gb_refl _ _, rfl⟩
                clear h
                simp only [execOp, Act.eval, e28]
                go_simp
              refine ⟨Fg.value rfl fun ac w h => ?_, ?_⟩
              · have e19 : ac.tmps.getD 19 undef = .bool true := h.dep 19 (by kernel_rfl)
                have e29 : ac.tmps.getD 29 undef = .pointer (some ⟨pb, po + k * 2, none⟩) := h.dep 29 (by kernel_rfl)
                have c1 := (HK2.out h.base).1
                refine ⟨wants_some (d := 19) rfl rfl (by rw [h.size]; show 19 < 34; decide) e19, iV x, w, ?_, gb_refl _ _, rfl⟩
                clear h
                simp only [execOp, Act.eval, e29]
                go_simp
              refine ⟨Fg.value rfl fun ac w h => ?_, ?_⟩
              · have e19 : ac.tmps.getD 19 undef = .bool true := h.dep 19 (by kernel_rfl)
                have e25 : ac.tmps.getD 25 undef = iV px := h.dep 25 (by kernel_rfl)
                have e30 : ac.tmps.getD 30 undef = iV x := h.dep 30 (by kernel_rfl)
                refine ⟨wants_some (d := 19) rfl rfl (by rw [h.size]; show 19 < 34; decide) e19, .bool true, w, ?_, gb_refl _ _, rfl⟩
                clear h
                simp only [execOp, Act.eval, e25, e30]
                go_simp
              refine ⟨Fg.value rfl fun ac w h => ?_, ?_⟩
              · have e16 : ac.tmps.getD 16 undef = .bool false := h.dep 16 (by kernel_rfl)
                have e19 : ac.tmps.getD 19 undef = .bool true := h.dep 19 (by kernel_rfl)
                have e31 : ac.tmps.getD 31 undef = .bool true := h.dep 31 (by kernel_rfl)
                refine ⟨wants_some (d := 16) rfl rfl (by rw [h.size]; show 16 < 34; decide) e16, .bool true, w, ?_, gb_refl _ _, rfl⟩
                clear h
                simp only [execOp, Act.eval, e19, e31]
                go_simp
              refine ⟨Fg.value rfl fun ac w h => ?_, ?_⟩
              · have e16 : ac.tmps.getD 16 undef = .bool false := h.dep 16 (by kernel_rfl)
                have e32 : ac.tmps.getD 32 undef = .bool true := h.dep 32 (by kernel_rfl)
                refine ⟨wants_none rfl, .bool true, w, ?_, gb_refl _ _, rfl⟩
                clear h
                simp only [execOp, Act.eval, e16, e32]
                go_simp
              trivial
            · intro aq wq hB hsz hdf hrest hslots _
              obtain ⟨u10, hs10⟩ : ∃ u, aq.tmps.getD 10 undef = u := ⟨_, rfl⟩
              obtain ⟨u11, hs11⟩ : ∃ u, aq.tmps.getD 11 undef = u := ⟨_, rfl⟩
              obtain ⟨u12, hs12⟩ : ∃ u, aq.tmps.getD 12 undef = u := ⟨_, rfl⟩
              obtain ⟨u13, hs13⟩ : ∃ u, aq.tmps.getD 13 undef = u := ⟨_, rfl⟩
              obtain ⟨u14, hs14⟩ : ∃ u, aq.tmps.getD 14 undef = u := ⟨_, rfl⟩
              obtain ⟨u15, hs15⟩ : ∃ u, aq.tmps.getD 15 undef = u := ⟨_, rfl⟩
              obtain ⟨u16, hs16⟩ : ∃ u, aq.tmps.getD 16 undef = u := ⟨_, rfl⟩
              obtain ⟨u17, hs17⟩ : ∃ u, aq.tmps.getD 17 undef = u := ⟨_, rfl⟩
              obtain ⟨u18, hs18⟩ : ∃ u, aq.tmps.getD 18 undef = u := ⟨_, rfl⟩
              obtain ⟨u19, hs19⟩ : ∃ u, aq.tmps.getD 19 undef = u := ⟨_, rfl⟩
              obtain ⟨u20, hs20⟩ : ∃ u, aq.tmps.getD 20 undef = u := ⟨_, rfl⟩
              obtain ⟨u21, hs21⟩ : ∃ u, aq.tmps.getD 21 undef = u := ⟨_, rfl⟩
              obtain ⟨u22, hs22⟩ : ∃ u, aq.tmps.getD 22 undef = u := ⟨_, rfl⟩
              obtain ⟨u23, hs23⟩ : ∃ u, aq.tmps.getD 23 undef = u := ⟨_, rfl⟩
              obtain ⟨u24, hs24⟩ : ∃ u, aq.tmps.getD 24 undef = u := ⟨_, rfl⟩
              obtain ⟨u25, hs25⟩ : ∃ u, aq.tmps.getD 25 undef = u := ⟨_, rfl⟩
              obtain ⟨u26, hs26⟩ : ∃ u, aq.tmps.getD 26 undef = u := ⟨_, rfl⟩
              obtain ⟨u27, hs27⟩ : ∃ u, aq.tmps.getD 27 undef = u := ⟨_, rfl⟩
              obtain ⟨u28, hs28⟩ : ∃ u, aq.tmps.getD 28 undef = u := ⟨_, rfl⟩
              obtain ⟨u29, hs29⟩ : ∃ u, aq.tmps.getD 29 undef = u := ⟨_, rfl⟩
              obtain ⟨u30, hs30⟩ : ∃ u, aq.tmps.getD 30 undef = u := ⟨_, rfl⟩
              obtain ⟨u31, hs31⟩ : ∃ u, aq.tmps.getD 31 undef = u := ⟨_, rfl⟩
              obtain ⟨u32, hs32⟩ : ∃ u, aq.tmps.getD 32 undef = u := ⟨_, rfl⟩
              obtain rfl := Fg.frame_is (a := aq) (vs := [Value.slice (some ⟨pb, po, none⟩) n cap, undef, u2, Value.int .i64 (k : Int), Value.int .i64 (k : Int), Value.slice (some ⟨pb, po, none⟩) n cap, Value.int .i64 (n : Int), Value.bool true, u8, u9, u10, u11, u12, u13, u14, u15, u16, u17, u18, u19, u20, u21, u22, u23, u24, u25, u26, u27, u28, u29, u30, u31, u32, Value.bool true]) hsz ⟨hrest 0 (by kernel_rfl), hrest 1 (by kernel_rfl), hrest 2 (by kernel_rfl), hrest 3 (by kernel_rfl), hrest 4 (by kernel_rfl), hrest 5 (by kernel_rfl), hrest 6 (by kernel_rfl), hrest 7 (by kernel_rfl), hrest 8 (by kernel_rfl), hrest 9 (by kernel_rfl), hs10, hs11, hs12, hs13, hs14, hs15, hs16, hs17, hs18, hs19, hs20, hs21, hs22, hs23, hs24, hs25, hs26, hs27, hs28, hs29, hs30, hs31, hs32, (show aq.tmps.getD 33 undef = Value.bool true from hslots 33 (by kernel_rfl)), trivial⟩ hdf
              have hB0 := Lib.hid hB
              clear hB hsz hdf hrest hslots hs10 hs11 hs12 hs13 hs14 hs15 hs16 hs17 hs18 hs19 hs20 hs21 hs22 hs23 hs24 hs25 hs26 hs27 hs28 hs29 hs30 hs31 hs32
              go_wp2
              go_ret
              exact ⟨by rw [HRR.out]; rfl, gb_trans HI.out.1 hB0.out⟩
      · have hokf : okD (x, y) = false := by simpa using hok
        have hD := Lib.hid (fun W => refDot_any false x y W hokf)
        have hr : R = false := by
          have e := HX.out.1
          by_cases h0 : 1 ≤ x
          · have : (decide (x ≤ 8) && decide (1 ≤ y) && decide (y ≤ 1073741824)) = false := by
              rw [okD, decide_eq_true h0] at hokf; simpa using hokf
            rw [e]
            simp only [Bool.and_assoc] at this ⊢
            rw [show (decide (x ≤ 8) && (decide (1 ≤ y) && (decide (y ≤ 1073741824) && rtB (pv l (k + 1)) (l.drop (k + 1))))) = ((decide (x ≤ 8) && (decide (1 ≤ y) && decide (y ≤ 1073741824))) && rtB (pv l (k + 1)) (l.drop (k + 1))) by simp only [Bool.and_assoc], this]
            simp
          · have := HI.out.2.1
            rw [e, decide_eq_false (show ¬ pv l k < x by omega)]; rfl
        have HRR := Lib.hid hr; clear hr hok hokf hcs
        go_wp2_with fail
        refine wp_region_flow3 (Fg.its [.any, .any, .any, .any, .any, .any, .any, .any, .any, .any, .val (.slice (some ⟨pb, po, none⟩) n cap), .val (.int .i64 (k : Int)), .val (.pointer (some ⟨pb, po + k * 2, none⟩)), .val (.agg #[iV x, iV y]), .val (.bool false), .val (.bool true), .val (.bool true), .val undef, .val undef, .val undef, .val undef, .val undef, .val undef, .val undef, .val undef, .val undef, .val undef, .val undef, .val undef, .val undef, .val undef, .val undef, .val undef, .val (.bool true)]) (fun _ => 0) (fun _ _ _ => True) (fun w => World.grownBy wr w none) [] (by kernel_rfl) (by kernel_rfl) (by kernel_rfl) (gb_drew (gb_refl _ _)) (Fg.ptrs_nil _ _) (Fg.no_store (by kernel_rfl)) ?_ ?_
        · refine ⟨Fg.value rfl fun ac w h => ?_, ?_⟩
          · have e0 : ac.tmps.getD 0 undef = .slice (some ⟨pb, po, none⟩) n cap := h.rest 0 (by kernel_rfl)
            refine ⟨wants_none rfl, .slice (some ⟨pb, po, none⟩) n cap, w, ?_, gb_refl _ _, rfl⟩
            clear h
            simp only [execOp, Act.eval, e0]
            go_simp
          refine ⟨Fg.value rfl fun ac w h => ?_, ?_⟩
          · have e3 : ac.tmps.getD 3 undef = .int .i64 (k : Int) := h.rest 3 (by kernel_rfl)
            refine ⟨wants_none rfl, .int .i64 (k : Int), w, ?_, gb_refl _ _, rfl⟩
            clear h
            simp only [execOp, Act.eval, e3]
            go_simp
          refine ⟨Fg.value rfl fun ac w h => ?_, ?_⟩
          · have e10 : ac.tmps.getD 10 undef = .slice (some ⟨pb, po, none⟩) n cap := h.dep 10 (by kernel_rfl)
            have e11 : ac.tmps.getD 11 undef = .int .i64 (k : Int) := h.dep 11 (by kernel_rfl)
            refine ⟨wants_none rfl, .pointer (some ⟨pb, po + k * 2, none⟩), w, ?_, gb_refl _ _, rfl⟩
            clear h
            simp only [execOp, Act.eval, e10, e11]
            go_simp
          refine ⟨Fg.value rfl fun ac w h => ?_, ?_⟩
          · have e12 : ac.tmps.getD 12 undef = .pointer (some ⟨pb, po + k * 2, none⟩) := h.dep 12 (by kernel_rfl)
            have c1 := (HK1.out h.base).1
            have c2 := (HK1.out h.base).2
            refine ⟨wants_none rfl, .agg #[iV x, iV y], w, ?_, gb_refl _ _, rfl⟩
            clear h
            simp only [execOp, Act.eval, e12]
            go_simp
          refine ⟨Fg.call rfl fun ac w h => ?_, ?_⟩
          · have e13 : ac.tmps.getD 13 undef = .agg #[iV x, iV y] := h.dep 13 (by kernel_rfl)
            have x13 : ac.tmps[13]?.getD undef = .agg #[iV x, iV y] := by simpa using e13
            have hb := h.base
            refine ⟨wants_none rfl, 192, #[.agg #[iV x, iV y]], ?_, ?_⟩
            · clear h hb e13
              go_simp
            · refine (hD.out w).mono ?_
              intro e w1 hp
              obtain ⟨rfl, hg⟩ := hp
              exact ⟨_, rfl, hg, rfl⟩
          refine ⟨Fg.value rfl fun ac w h => ?_, ?_⟩
          · have e14 : ac.tmps.getD 14 undef = .bool false := h.dep 14 (by kernel_rfl)
            refine ⟨wants_none rfl, .bool true, w, ?_, gb_refl _ _, rfl⟩
            clear h
            simp only [execOp, Act.eval, e14]
            go_simp
          refine ⟨Fg.value rfl fun ac w h => ?_, ?_⟩
          · have e15 : ac.tmps.getD 15 undef = .bool true := h.dep 15 (by kernel_rfl)
            refine ⟨wants_none rfl, .bool true, w, ?_, gb_refl _ _, rfl⟩
            clear h
            simp only [execOp, Act.eval, e15]
            go_simp
          refine ⟨Fg.skipped rfl (fun _ => rfl) fun ac w h => ?_, ?_⟩
          · have e16 : ac.tmps.getD 16 undef = .bool true := h.dep 16 (by kernel_rfl)
            exact not_wants (d := 16) rfl rfl (by rw [h.size]; show 16 < 34; decide) e16 (by decide)
          refine ⟨Fg.skipped rfl (fun _ => rfl) fun ac w h => ?_, ?_⟩
          · have e16 : ac.tmps.getD 16 undef = .bool true := h.dep 16 (by kernel_rfl)
            exact not_wants (d := 16) rfl rfl (by rw [h.size]; show 16 < 34; decide) e16 (by decide)
          refine ⟨Fg.skipped rfl (fun _ => rfl) fun ac w h => ?_, ?_⟩
          · have e16 : ac.tmps.getD 16 undef = .bool true := h.dep 16 (by kernel_rfl)
            exact not_wants (d := 16) rfl rfl (by rw [h.size]; show 16 < 34; decide) e16 (by decide)
          refine ⟨Fg.skipped rfl (fun _ => rfl) fun ac w h => ?_, ?_⟩
          · have e19 : ac.tmps.getD 19 undef = undef := h.dep 19 (by kernel_rfl)
            exact Fg.not_wants_undef (d := 19) rfl rfl (by rw [h.size]; show 19 < 34; decide) e19
          refine ⟨Fg.skipped rfl (fun _ => rfl) fun ac w h => ?_, ?_⟩
          · have e19 : ac.tmps.getD 19 undef = undef := h.dep 19 (by kernel_rfl)
            exact Fg.not_wants_undef (d := 19) rfl rfl (by rw [h.size]; show 19 < 34; decide) e19
          refine ⟨Fg.skipped rfl (fun _ => rfl) fun ac w h => ?_, ?_⟩
          · have e19 : ac.tmps.getD 19 undef = undef := h.dep 19 (by kernel_rfl)
            exact Fg.not_wants_undef (d := 19) rfl rfl (by rw [h.size]; show 19 < 34; decide) e19
          refine ⟨Fg.skipped rfl (fun _ => rfl) fun ac w h => ?_, ?_⟩
          · have e19 : ac.tmps.getD 19 undef = undef := h.dep 19 (by kernel_rfl)
            exact Fg.not_wants_undef (d := 19) rfl rfl (by rw [h.size]; show 19 < 34; decide) e19
          refine ⟨Fg.skipped rfl (fun _ => rfl) fun ac w h => ?_, ?_⟩
          · have e19 : ac.tmps.getD 19 undef = undef := h.dep 19 (by kernel_rfl)
            exact Fg.not_wants_undef (d := 19) rfl rfl (by rw [h.size]; show 19 < 34; decide) e19
          refine ⟨Fg.skipped rfl (fun _ => rfl) fun ac w h => ?_, ?_⟩
          · have e19 : ac.tmps.getD 19 undef = undef := h.dep 19 (by kernel_rfl)
            exact Fg.not_wants_undef (d := 19) rfl rfl (by rw [h.size]; show 19 < 34; decide) e19
          refine ⟨Fg.skipped rfl (fun _ => rfl) fun ac w h => ?_, ?_⟩
          · have e19 : ac.tmps.getD 19 undef = undef := h.dep 19 (by kernel_rfl)
            exact Fg.not_wants_undef (d := 19) rfl rfl (by rw [h.size]; show 19 < 34; decide) e19
          refine ⟨Fg.skipped rfl (fun _ => rfl) fun ac w h => ?_, ?_⟩
          · have e19 : ac.tmps.getD 19 undef = undef := h.dep 19 (by kernel_rfl)
            exact Fg.not_wants_undef (d := 19) rfl rfl (by rw [h.size]; show 19 < 34; decide) e19
          refine ⟨Fg.skipped rfl (fun _ => rfl) fun ac w h => ?_, ?_⟩
          · have e19 : ac.tmps.getD 19 undef = undef := h.dep 19 (by kernel_rfl)
            exact Fg.not_wants_undef (d := 19) rfl rfl (by rw [h.size]; show 19 < 34; decide) e19
          refine ⟨Fg.skipped rfl (fun _ => rfl) fun ac w h => ?_, ?_⟩
          · have e19 : ac.tmps.getD 19 undef = undef := h.dep 19 (by kernel_rfl)
            exact Fg.not_wants_undef (d := 19) rfl rfl (by rw [h.size]; show 19 < 34; decide) e19
          refine ⟨Fg.skipped rfl (fun _ => rfl) fun ac w h => ?_, ?_⟩
          · have e19 : ac.tmps.getD 19 undef = undef := h.dep 19 (by kernel_rfl)
            exact Fg.not_wants_undef (d := 19) rfl rfl (by rw [h.size]; show 19 < 34; decide) e19
          refine ⟨Fg.skipped rfl (fun _ => rfl) fun ac w h => ?_, ?_⟩
          · have e19 : ac.tmps.getD 19 undef = undef := h.dep 19 (by kernel_rfl)
            exact Fg.not_wants_undef (d := 19) rfl rfl (by rw [h.size]; show 19 < 34; decide) e19
          refine ⟨Fg.skipped rfl (fun _ => rfl) fun ac w h => ?_, ?_⟩
          · have e16 : ac.tmps.getD 16 undef = .bool true := h.dep 16 (by kernel_rfl)
            exact not_wants (d := 16) rfl rfl (by rw [h.size]; show 16 < 34; decide) e16 (by decide)
          refine ⟨Fg.value rfl fun ac w h => ?_, ?_⟩
          · have e16 : ac.tmps.getD 16 undef = .bool true := h.dep 16 (by kernel_rfl)
            refine ⟨wants_none rfl, .bool true, w, ?_, gb_refl _ _, rfl⟩
            clear h
            simp only [execOp, Act.eval, e16]
            go_simp
          trivial
        · intro aq wq hB hsz hdf hrest hslots _
          obtain ⟨u10, hs10⟩ : ∃ u, aq.tmps.getD 10 undef = u := ⟨_, rfl⟩
          obtain ⟨u11, hs11⟩ : ∃ u, aq.tmps.getD 11 undef = u := ⟨_, rfl⟩
          obtain ⟨u12, hs12⟩ : ∃ u, aq.tmps.getD 12 undef = u := ⟨_, rfl⟩
          obtain ⟨u13, hs13⟩ : ∃ u, aq.tmps.getD 13 undef = u := ⟨_, rfl⟩
          obtain ⟨u14, hs14⟩ : ∃ u, aq.tmps.getD 14 undef = u := ⟨_, rfl⟩
          obtain ⟨u15, hs15⟩ : ∃ u, aq.tmps.getD 15 undef = u := ⟨_, rfl⟩
          obtain ⟨u16, hs16⟩ : ∃ u, aq.tmps.getD 16 undef = u := ⟨_, rfl⟩
          obtain ⟨u17, hs17⟩ : ∃ u, aq.tmps.getD 17 undef = u := ⟨_, rfl⟩
          obtain ⟨u18, hs18⟩ : ∃ u, aq.tmps.getD 18 undef = u := ⟨_, rfl⟩
          obtain ⟨u19, hs19⟩ : ∃ u, aq.tmps.getD 19 undef = u := ⟨_, rfl⟩
          obtain ⟨u20, hs20⟩ : ∃ u, aq.tmps.getD 20 undef = u := ⟨_, rfl⟩
          obtain ⟨u21, hs21⟩ : ∃ u, aq.tmps.getD 21 undef = u := ⟨_, rfl⟩
          obtain ⟨u22, hs22⟩ : ∃ u, aq.tmps.getD 22 undef = u := ⟨_, rfl⟩
          obtain ⟨u23, hs23⟩ : ∃ u, aq.tmps.getD 23 undef = u := ⟨_, rfl⟩
          obtain ⟨u24, hs24⟩ : ∃ u, aq.tmps.getD 24 undef = u := ⟨_, rfl⟩
          obtain ⟨u25, hs25⟩ : ∃ u, aq.tmps.getD 25 undef = u := ⟨_, rfl⟩
          obtain ⟨u26, hs26⟩ : ∃ u, aq.tmps.getD 26 undef = u := ⟨_, rfl⟩
          obtain ⟨u27, hs27⟩ : ∃ u, aq.tmps.getD 27 undef = u := ⟨_, rfl⟩
          obtain ⟨u28, hs28⟩ : ∃ u, aq.tmps.getD 28 undef = u := ⟨_, rfl⟩
          obtain ⟨u29, hs29⟩ : ∃ u, aq.tmps.getD 29 undef = u := ⟨_, rfl⟩
          obtain ⟨u30, hs30⟩ : ∃ u, aq.tmps.getD 30 undef = u := ⟨_, rfl⟩
          obtain ⟨u31, hs31⟩ : ∃ u, aq.tmps.getD 31 undef = u := ⟨_, rfl⟩
          obtain ⟨u32, hs32⟩ : ∃ u, aq.tmps.getD 32 undef = u := ⟨_, rfl⟩
          obtain rfl := Fg.frame_is (a := aq) (vs := [Value.slice (some ⟨pb, po, none⟩) n cap, undef, u2, Value.int .i64 (k : Int), Value.int .i64 (k : Int), Value.slice (some ⟨pb, po, none⟩) n cap, Value.int .i64 (n : Int), Value.bool true, u8, u9, u10, u11, u12, u13, u14, u15, u16, u17, u18, u19, u20, u21, u22, u23, u24, u25, u26, u27, u28, u29, u30, u31, u32, Value.bool true]) hsz ⟨hrest 0 (by kernel_rfl), hrest 1 (by kernel_rfl), hrest 2 (by kernel_rfl), hrest 3 (by kernel_rfl), hrest 4 (by kernel_rfl), hrest 5 (by kernel_rfl), hrest 6 (by kernel_rfl), hrest 7 (by kernel_rfl), hrest 8 (by kernel_rfl), hrest 9 (by kernel_rfl), hs10, hs11, hs12, hs13, hs14, hs15, hs16, hs17, hs18, hs19, hs20, hs21, hs22, hs23, hs24, hs25, hs26, hs27, hs28, hs29, hs30, hs31, hs32, (show aq.tmps.getD 33 undef = Value.bool true from hslots 33 (by kernel_rfl)), trivial⟩ hdf
          have hB0 := Lib.hid hB
          clear hB hsz hdf hrest hslots hs10 hs11 hs12 hs13 hs14 hs15 hs16 hs17 hs18 hs19 hs20 hs21 hs22 hs23 hs24 hs25 hs26 hs27 hs28 hs29 hs30 hs31 hs32
          go_wp2
          go_ret
          exact ⟨by rw [HRR.out]; rfl, gb_trans HI.out.1 hB0.out⟩
    · obtain rfl : k = n := by omega
      have hr : R = true := by rw [HI.out.2.2, drop_end l k (by rw [HN.out]; omega)]; rfl
      have HRT := Lib.hid hr; clear hr
      go_wp2
      go_ret
      exact ⟨by rw [HRT.out]; rfl, HI.out.1⟩
end Ve
end Go.Proofs.YtlkiancedgaicaaGreat

/- The document's Has, Covers (buttressref07). (Has' regions printed by gen_refhas.py.) -/
namespace Go.Proofs.YtlkiancedgaicaaGreat
open Go.RowKit Ve
namespace Ve
set_option maxHeartbeats 1000000 in
theorem refHas_A (n cap : Nat) (a : Option Addr) (x y : Int) (w W1 : World) (N : Nat) (Q : Ending → World → Prop) (hN : N = w.heap.size) (hW1 : W1 = w.alloc (.cells #[iV x, iV y] 127))
    (hR : ∀ W, W1.grownBy W none → Calls Tryz.prog 193 #[.slice a n cap] W fun e w' => e = .returned (.bool false) ∧ W.grownBy w' none)
    (hQ : ∀ w', W1.grownBy w' none → Q (.returned (.bool false)) w') : Calls Tryz.prog 136 #[.slice a n cap, .agg #[iV x, iV y]] w Q := by
  have HR := Lib.hid hR; clear hR
  have HQ := Lib.hid hQ; clear hQ
  have HK : Hid (∀ {w' : World}, W1.grownBy w' none → w'.cell? ⟨N, 0, none⟩ = some (iV x) ∧ w'.cell? ⟨N, 1, none⟩ = some (iV y)) := fun {w'} hg => by
    have hB : Blk W1 N 127 [iV x, iV y] := by rw [hW1, hN]; exact Blk.new w _ _
    have hB2 := hB.grown hg (by simp)
    exact ⟨hB2.cell (i := 0) rfl, hB2.cell (i := 1) rfl⟩
  go_enter Tryz.func136, Tryz.ntmps136
  go_wp2_with fail
  rw [← hW1, ← hN]
  clear hW1 hN
  refine wp_region_flow3 (Fg.its [.any, .any, .any, .any, .val (.bool false), .val (.slice a n cap), .val (.bool false), .val (.bool false), .val undef, .val undef, .val (.bool false), .val (.bool false), .val undef, .val undef, .val undef, .val undef, .val undef, .val undef, .val undef, .val (.bool false)]) (fun _ => 0) (fun _ _ _ => True) (fun w => World.grownBy W1 w none) [] (by kernel_rfl) (by kernel_rfl) (by kernel_rfl) (gb_drew (gb_refl _ _)) (Fg.ptrs_nil _ _) (Fg.no_store (by kernel_rfl)) ?_ ?_
  · refine ⟨Fg.value rfl fun ac w h => ?_, ?_⟩
    · have e0 : ac.tmps.getD 0 undef = .slice a n cap := h.rest 0 (by kernel_rfl)
      refine ⟨wants_none rfl, .slice a n cap, w, ?_, gb_refl _ _, rfl⟩
      clear h
      simp only [execOp, Act.eval, e0]
      go_simp
    refine ⟨Fg.call rfl fun ac w h => ?_, ?_⟩
    · have e5 : ac.tmps.getD 5 undef = .slice a n cap := h.dep 5 (by kernel_rfl)
      have x5 : ac.tmps[5]?.getD undef = .slice a n cap := by simpa using e5
      have hb := h.base
      refine ⟨wants_none rfl, 193, #[.slice a n cap], ?_, ?_⟩
      · clear h hb e5
        go_simp
      · refine (HR.out w h.base).mono ?_
        intro e w1 hp
        obtain ⟨rfl, hg⟩ := hp
        exact ⟨_, rfl, hg, rfl⟩
    refine ⟨Fg.value rfl fun ac w h => ?_, ?_⟩
    · have e6 : ac.tmps.getD 6 undef = .bool false := h.dep 6 (by kernel_rfl)
      refine ⟨wants_none rfl, .bool false, w, ?_, gb_refl _ _, rfl⟩
      clear h
      simp only [execOp, Act.eval, e6]
      go_simp
    refine ⟨Fg.skipped rfl (fun _ => rfl) fun ac w h => ?_, ?_⟩
    · have e7 : ac.tmps.getD 7 undef = .bool false := h.dep 7 (by kernel_rfl)
      exact not_wants (d := 7) rfl rfl (by rw [h.size]; show 7 < 20; decide) e7 (by decide)
    refine ⟨Fg.skipped rfl (fun _ => rfl) fun ac w h => ?_, ?_⟩
    · have e7 : ac.tmps.getD 7 undef = .bool false := h.dep 7 (by kernel_rfl)
      exact not_wants (d := 7) rfl rfl (by rw [h.size]; show 7 < 20; decide) e7 (by decide)
    refine ⟨Fg.value rfl fun ac w h => ?_, ?_⟩
    · have e7 : ac.tmps.getD 7 undef = .bool false := h.dep 7 (by kernel_rfl)
      refine ⟨wants_none rfl, .bool false, w, ?_, gb_refl _ _, rfl⟩
      clear h
      simp only [execOp, Act.eval, e7]
      go_simp
    refine ⟨Fg.value rfl fun ac w h => ?_, ?_⟩
    · have e10 : ac.tmps.getD 10 undef = .bool false := h.dep 10 (by kernel_rfl)
      refine ⟨wants_none rfl, .bool false, w, ?_, gb_refl _ _, rfl⟩
      clear h
      simp only [execOp, Act.eval, e10]
      go_simp
    refine ⟨Fg.skipped rfl (fun _ => rfl) fun ac w h => ?_, ?_⟩
    · have e11 : ac.tmps.getD 11 undef = .bool false := h.dep 11 (by kernel_rfl)
      exact not_wants (d := 11) rfl rfl (by rw [h.size]; show 11 < 20; decide) e11 (by decide)
    refine ⟨Fg.skipped rfl (fun _ => rfl) fun ac w h => ?_, ?_⟩
    · have e11 : ac.tmps.getD 11 undef = .bool false := h.dep 11 (by kernel_rfl)
      exact not_wants (d := 11) rfl rfl (by rw [h.size]; show 11 < 20; decide) e11 (by decide)
    refine ⟨Fg.skipped rfl (fun _ => rfl) fun ac w h => ?_, ?_⟩
    · have e11 : ac.tmps.getD 11 undef = .bool false := h.dep 11 (by kernel_rfl)
      exact not_wants (d := 11) rfl rfl (by rw [h.size]; show 11 < 20; decide) e11 (by decide)
    refine ⟨Fg.skipped rfl (fun _ => rfl) fun ac w h => ?_, ?_⟩
    · have e11 : ac.tmps.getD 11 undef = .bool false := h.dep 11 (by kernel_rfl)
      exact not_wants (d := 11) rfl rfl (by rw [h.size]; show 11 < 20; decide) e11 (by decide)
    refine ⟨Fg.skipped rfl (fun _ => rfl) fun ac w h => ?_, ?_⟩
    · have e11 : ac.tmps.getD 11 undef = .bool false := h.dep 11 (by kernel_rfl)
      exact not_wants (d := 11) rfl rfl (by rw [h.size]; show 11 < 20; decide) e11 (by decide)
    refine ⟨Fg.skipped rfl (fun _ => rfl) fun ac w h => ?_, ?_⟩
    · have e11 : ac.tmps.getD 11 undef = .bool false := h.dep 11 (by kernel_rfl)
      exact not_wants (d := 11) rfl rfl (by rw [h.size]; show 11 < 20; decide) e11 (by decide)
    refine ⟨Fg.skipped rfl (fun _ => rfl) fun ac w h => ?_, ?_⟩
    · have e11 : ac.tmps.getD 11 undef = .bool false := h.dep 11 (by kernel_rfl)
      exact not_wants (d := 11) rfl rfl (by rw [h.size]; show 11 < 20; decide) e11 (by decide)
    refine ⟨Fg.value rfl fun ac w h => ?_, ?_⟩
    · have e11 : ac.tmps.getD 11 undef = .bool false := h.dep 11 (by kernel_rfl)
      refine ⟨wants_none rfl, .bool false, w, ?_, gb_refl _ _, rfl⟩
      clear h
      simp only [execOp, Act.eval, e11]
      go_simp
    refine ⟨Fg.value rfl fun ac w h => ?_, ?_⟩
    · have e19 : ac.tmps.getD 19 undef = .bool false := h.dep 19 (by kernel_rfl)
      refine ⟨wants_none rfl, .bool false, w, ?_, gb_refl _ _, rfl⟩
      clear h
      simp only [execOp, Act.eval, e19]
      go_simp
    trivial
  · intro aq wq hB hsz hdf hrest hslots _
    obtain ⟨u5, hs5⟩ : ∃ u, aq.tmps.getD 5 undef = u := ⟨_, rfl⟩
    obtain ⟨u6, hs6⟩ : ∃ u, aq.tmps.getD 6 undef = u := ⟨_, rfl⟩
    obtain ⟨u7, hs7⟩ : ∃ u, aq.tmps.getD 7 undef = u := ⟨_, rfl⟩
    obtain ⟨u8, hs8⟩ : ∃ u, aq.tmps.getD 8 undef = u := ⟨_, rfl⟩
    obtain ⟨u9, hs9⟩ : ∃ u, aq.tmps.getD 9 undef = u := ⟨_, rfl⟩
    obtain ⟨u10, hs10⟩ : ∃ u, aq.tmps.getD 10 undef = u := ⟨_, rfl⟩
    obtain ⟨u11, hs11⟩ : ∃ u, aq.tmps.getD 11 undef = u := ⟨_, rfl⟩
    obtain ⟨u12, hs12⟩ : ∃ u, aq.tmps.getD 12 undef = u := ⟨_, rfl⟩
    obtain ⟨u13, hs13⟩ : ∃ u, aq.tmps.getD 13 undef = u := ⟨_, rfl⟩
    obtain ⟨u14, hs14⟩ : ∃ u, aq.tmps.getD 14 undef = u := ⟨_, rfl⟩
    obtain ⟨u15, hs15⟩ : ∃ u, aq.tmps.getD 15 undef = u := ⟨_, rfl⟩
    obtain ⟨u16, hs16⟩ : ∃ u, aq.tmps.getD 16 undef = u := ⟨_, rfl⟩
    obtain ⟨u17, hs17⟩ : ∃ u, aq.tmps.getD 17 undef = u := ⟨_, rfl⟩
    obtain ⟨u18, hs18⟩ : ∃ u, aq.tmps.getD 18 undef = u := ⟨_, rfl⟩
    obtain ⟨u19, hs19⟩ : ∃ u, aq.tmps.getD 19 undef = u := ⟨_, rfl⟩
    obtain rfl := Fg.frame_is (a := aq) (vs := [Value.slice a n cap, Value.agg #[iV x, iV y], undef, Value.pointer (some ⟨N, 0, none⟩), Value.bool false, u5, u6, u7, u8, u9, u10, u11, u12, u13, u14, u15, u16, u17, u18, u19]) hsz ⟨hrest 0 (by kernel_rfl), hrest 1 (by kernel_rfl), hrest 2 (by kernel_rfl), hrest 3 (by kernel_rfl), (show aq.tmps.getD 4 undef = Value.bool false from hslots 4 (by kernel_rfl)), hs5, hs6, hs7, hs8, hs9, hs10, hs11, hs12, hs13, hs14, hs15, hs16, hs17, hs18, hs19, trivial⟩ hdf
    have HB0 := Lib.hid hB
    clear hB hsz hdf hrest hslots hs5 hs6 hs7 hs8 hs9 hs10 hs11 hs12 hs13 hs14 hs15 hs16 hs17 hs18 hs19
    go_wp2
    exact HQ.out _ HB0.out
set_option maxHeartbeats 1000000 in
theorem refHas_B (n cap : Nat) (a : Option Addr) (x y : Int) (w W1 : World) (N : Nat) (Q : Ending → World → Prop) (hN : N = w.heap.size) (hW1 : W1 = w.alloc (.cells #[iV x, iV y] 127))
    (hR : ∀ W, W1.grownBy W none → Calls Tryz.prog 193 #[.slice a n cap] W fun e w' => e = .returned (.bool true) ∧ W.grownBy w' none)
    (hD : ∀ W, Calls Tryz.prog 192 #[.agg #[iV x, iV y]] W (BOut W false))
    (hQ : ∀ w', W1.grownBy w' none → Q (.returned (.bool false)) w') : Calls Tryz.prog 136 #[.slice a n cap, .agg #[iV x, iV y]] w Q := by
  have HR := Lib.hid hR; clear hR
  have HD := Lib.hid hD; clear hD
  have HQ := Lib.hid hQ; clear hQ
  have HK : Hid (∀ {w' : World}, W1.grownBy w' none → w'.cell? ⟨N, 0, none⟩ = some (iV x) ∧ w'.cell? ⟨N, 1, none⟩ = some (iV y)) := fun {w'} hg => by
    have hB : Blk W1 N 127 [iV x, iV y] := by rw [hW1, hN]; exact Blk.new w _ _
    have hB2 := hB.grown hg (by simp)
    exact ⟨hB2.cell (i := 0) rfl, hB2.cell (i := 1) rfl⟩
  go_enter Tryz.func136, Tryz.ntmps136
  go_wp2_with fail
  rw [← hW1, ← hN]
  clear hW1 hN
  refine wp_region_flow3 (Fg.its [.any, .any, .any, .any, .val (.bool false), .val (.slice a n cap), .val (.bool true), .val (.bool true), .val (.agg #[iV x, iV y]), .val (.bool false), .val (.bool false), .val (.bool false), .val undef, .val undef, .val undef, .val undef, .val undef, .val undef, .val undef, .val (.bool false)]) (fun _ => 0) (fun _ _ _ => True) (fun w => World.grownBy W1 w none) [] (by kernel_rfl) (by kernel_rfl) (by kernel_rfl) (gb_drew (gb_refl _ _)) (Fg.ptrs_nil _ _) (Fg.no_store (by kernel_rfl)) ?_ ?_
  · refine ⟨Fg.value rfl fun ac w h => ?_, ?_⟩
    · have e0 : ac.tmps.getD 0 undef = .slice a n cap := h.rest 0 (by kernel_rfl)
      refine ⟨wants_none rfl, .slice a n cap, w, ?_, gb_refl _ _, rfl⟩
      clear h
      simp only [execOp, Act.eval, e0]
      go_simp
    refine ⟨Fg.call rfl fun ac w h => ?_, ?_⟩
    · have e5 : ac.tmps.getD 5 undef = .slice a n cap := h.dep 5 (by kernel_rfl)
      have x5 : ac.tmps[5]?.getD undef = .slice a n cap := by simpa using e5
      have hb := h.base
      refine ⟨wants_none rfl, 193, #[.slice a n cap], ?_, ?_⟩
      · clear h hb e5
        go_simp
      · refine (HR.out w h.base).mono ?_
        intro e w1 hp
        obtain ⟨rfl, hg⟩ := hp
        exact ⟨_, rfl, hg, rfl⟩
    refine ⟨Fg.value rfl fun ac w h => ?_, ?_⟩
    · have e6 : ac.tmps.getD 6 undef = .bool true := h.dep 6 (by kernel_rfl)
      refine ⟨wants_none rfl, .bool true, w, ?_, gb_refl _ _, rfl⟩
      clear h
      simp only [execOp, Act.eval, e6]
      go_simp
    refine ⟨Fg.value rfl fun ac w h => ?_, ?_⟩
    · have e7 : ac.tmps.getD 7 undef = .bool true := h.dep 7 (by kernel_rfl)
      have e3 : ac.tmps.getD 3 undef = .pointer (some ⟨N, 0, none⟩) := h.rest 3 (by kernel_rfl)
      have c1 := (HK.out h.base).1
      have c2 := (HK.out h.base).2
      refine ⟨wants_some (d := 7) rfl rfl (by rw [h.size]; show 7 < 20; decide) e7, .agg #[iV x, iV y], w, ?_, gb_refl _ _, rfl⟩
      clear h
      simp only [execOp, Act.eval, e3]
      go_simp
    refine ⟨Fg.call rfl fun ac w h => ?_, ?_⟩
    · have e7 : ac.tmps.getD 7 undef = .bool true := h.dep 7 (by kernel_rfl)
      have e8 : ac.tmps.getD 8 undef = .agg #[iV x, iV y] := h.dep 8 (by kernel_rfl)
      have x8 : ac.tmps[8]?.getD undef = .agg #[iV x, iV y] := by simpa using e8
      have hb := h.base
      refine ⟨wants_some (d := 7) rfl rfl (by rw [h.size]; show 7 < 20; decide) e7, 192, #[.agg #[iV x, iV y]], ?_, ?_⟩
      · clear h hb e8
        go_simp
      · refine (HD.out w).mono ?_
        intro e w1 hp
        obtain ⟨rfl, hg⟩ := hp
        exact ⟨_, rfl, hg, rfl⟩
    refine ⟨Fg.value rfl fun ac w h => ?_, ?_⟩
    · have e7 : ac.tmps.getD 7 undef = .bool true := h.dep 7 (by kernel_rfl)
      have e9 : ac.tmps.getD 9 undef = .bool false := h.dep 9 (by kernel_rfl)
      refine ⟨wants_none rfl, .bool false, w, ?_, gb_refl _ _, rfl⟩
      clear h
      simp only [execOp, Act.eval, e7, e9]
      go_simp
    refine ⟨Fg.value rfl fun ac w h => ?_, ?_⟩
    · have e10 : ac.tmps.getD 10 undef = .bool false := h.dep 10 (by kernel_rfl)
      refine ⟨wants_none rfl, .bool false, w, ?_, gb_refl _ _, rfl⟩
      clear h
      simp only [execOp, Act.eval, e10]
      go_simp
    refine ⟨Fg.skipped rfl (fun _ => rfl) fun ac w h => ?_, ?_⟩
    · have e11 : ac.tmps.getD 11 undef = .bool false := h.dep 11 (by kernel_rfl)
      exact not_wants (d := 11) rfl rfl (by rw [h.size]; show 11 < 20; decide) e11 (by decide)
    refine ⟨Fg.skipped rfl (fun _ => rfl) fun ac w h => ?_, ?_⟩
    · have e11 : ac.tmps.getD 11 undef = .bool false := h.dep 11 (by kernel_rfl)
      exact not_wants (d := 11) rfl rfl (by rw [h.size]; show 11 < 20; decide) e11 (by decide)
    refine ⟨Fg.skipped rfl (fun _ => rfl) fun ac w h => ?_, ?_⟩
    · have e11 : ac.tmps.getD 11 undef = .bool false := h.dep 11 (by kernel_rfl)
      exact not_wants (d := 11) rfl rfl (by rw [h.size]; show 11 < 20; decide) e11 (by decide)
    refine ⟨Fg.skipped rfl (fun _ => rfl) fun ac w h => ?_, ?_⟩
    · have e11 : ac.tmps.getD 11 undef = .bool false := h.dep 11 (by kernel_rfl)
      exact not_wants (d := 11) rfl rfl (by rw [h.size]; show 11 < 20; decide) e11 (by decide)
    refine ⟨Fg.skipped rfl (fun _ => rfl) fun ac w h => ?_, ?_⟩
    · have e11 : ac.tmps.getD 11 undef = .bool false := h.dep 11 (by kernel_rfl)
      exact not_wants (d := 11) rfl rfl (by rw [h.size]; show 11 < 20; decide) e11 (by decide)
    refine ⟨Fg.skipped rfl (fun _ => rfl) fun ac w h => ?_, ?_⟩
    · have e11 : ac.tmps.getD 11 undef = .bool false := h.dep 11 (by kernel_rfl)
      exact not_wants (d := 11) rfl rfl (by rw [h.size]; show 11 < 20; decide) e11 (by decide)
    refine ⟨Fg.skipped rfl (fun _ => rfl) fun ac w h => ?_, ?_⟩
    · have e11 : ac.tmps.getD 11 undef = .bool false := h.dep 11 (by kernel_rfl)
      exact not_wants (d := 11) rfl rfl (by rw [h.size]; show 11 < 20; decide) e11 (by decide)
    refine ⟨Fg.value rfl fun ac w h => ?_, ?_⟩
    · have e11 : ac.tmps.getD 11 undef = .bool false := h.dep 11 (by kernel_rfl)
      refine ⟨wants_none rfl, .bool false, w, ?_, gb_refl _ _, rfl⟩
      clear h
      simp only [execOp, Act.eval, e11]
      go_simp
    refine ⟨Fg.value rfl fun ac w h => ?_, ?_⟩
    · have e19 : ac.tmps.getD 19 undef = .bool false := h.dep 19 (by kernel_rfl)
      refine ⟨wants_none rfl, .bool false, w, ?_, gb_refl _ _, rfl⟩
      clear h
      simp only [execOp, Act.eval, e19]
      go_simp
    trivial
  · intro aq wq hB hsz hdf hrest hslots _
    obtain ⟨u5, hs5⟩ : ∃ u, aq.tmps.getD 5 undef = u := ⟨_, rfl⟩
    obtain ⟨u6, hs6⟩ : ∃ u, aq.tmps.getD 6 undef = u := ⟨_, rfl⟩
    obtain ⟨u7, hs7⟩ : ∃ u, aq.tmps.getD 7 undef = u := ⟨_, rfl⟩
    obtain ⟨u8, hs8⟩ : ∃ u, aq.tmps.getD 8 undef = u := ⟨_, rfl⟩
    obtain ⟨u9, hs9⟩ : ∃ u, aq.tmps.getD 9 undef = u := ⟨_, rfl⟩
    obtain ⟨u10, hs10⟩ : ∃ u, aq.tmps.getD 10 undef = u := ⟨_, rfl⟩
    obtain ⟨u11, hs11⟩ : ∃ u, aq.tmps.getD 11 undef = u := ⟨_, rfl⟩
    obtain ⟨u12, hs12⟩ : ∃ u, aq.tmps.getD 12 undef = u := ⟨_, rfl⟩
    obtain ⟨u13, hs13⟩ : ∃ u, aq.tmps.getD 13 undef = u := ⟨_, rfl⟩
    obtain ⟨u14, hs14⟩ : ∃ u, aq.tmps.getD 14 undef = u := ⟨_, rfl⟩
    obtain ⟨u15, hs15⟩ : ∃ u, aq.tmps.getD 15 undef = u := ⟨_, rfl⟩
    obtain ⟨u16, hs16⟩ : ∃ u, aq.tmps.getD 16 undef = u := ⟨_, rfl⟩
    obtain ⟨u17, hs17⟩ : ∃ u, aq.tmps.getD 17 undef = u := ⟨_, rfl⟩
    obtain ⟨u18, hs18⟩ : ∃ u, aq.tmps.getD 18 undef = u := ⟨_, rfl⟩
    obtain ⟨u19, hs19⟩ : ∃ u, aq.tmps.getD 19 undef = u := ⟨_, rfl⟩
    obtain rfl := Fg.frame_is (a := aq) (vs := [Value.slice a n cap, Value.agg #[iV x, iV y], undef, Value.pointer (some ⟨N, 0, none⟩), Value.bool false, u5, u6, u7, u8, u9, u10, u11, u12, u13, u14, u15, u16, u17, u18, u19]) hsz ⟨hrest 0 (by kernel_rfl), hrest 1 (by kernel_rfl), hrest 2 (by kernel_rfl), hrest 3 (by kernel_rfl), (show aq.tmps.getD 4 undef = Value.bool false from hslots 4 (by kernel_rfl)), hs5, hs6, hs7, hs8, hs9, hs10, hs11, hs12, hs13, hs14, hs15, hs16, hs17, hs18, hs19, trivial⟩ hdf
    have HB0 := Lib.hid hB
    clear hB hsz hdf hrest hslots hs5 hs6 hs7 hs8 hs9 hs10 hs11 hs12 hs13 hs14 hs15 hs16 hs17 hs18 hs19
    go_wp2
    exact HQ.out _ HB0.out
set_option maxHeartbeats 1000000 in
theorem refHas_C (n cap : Nat) (a : Option Addr) (x y u : Int) (w W1 : World) (N : Nat) (Q : Ending → World → Prop) (hN : N = w.heap.size) (hW1 : W1 = w.alloc (.cells #[iV x, iV y] 127))
    (hR : ∀ W, W1.grownBy W none → Calls Tryz.prog 193 #[.slice a n cap] W fun e w' => e = .returned (.bool true) ∧ W.grownBy w' none)
    (hD : ∀ W, Calls Tryz.prog 192 #[.agg #[iV x, iV y]] W (BOut W true))
    (hU : ∀ W, W1.grownBy W none → Calls Tryz.prog 194 #[.slice a n cap, iV x] W fun e w' => e = .returned (iV u) ∧ W.grownBy w' none)
    (hy : decide (y ≤ u) = true)
    (hQ : ∀ w', W1.grownBy w' none → Q (.returned (.bool true)) w') : Calls Tryz.prog 136 #[.slice a n cap, .agg #[iV x, iV y]] w Q := by
  have HR := Lib.hid hR; clear hR
  have HD := Lib.hid hD; clear hD
  have HU := Lib.hid hU; clear hU
  have HQ := Lib.hid hQ; clear hQ
  have HK : Hid (∀ {w' : World}, W1.grownBy w' none → w'.cell? ⟨N, 0, none⟩ = some (iV x) ∧ w'.cell? ⟨N, 1, none⟩ = some (iV y)) := fun {w'} hg => by
    have hB : Blk W1 N 127 [iV x, iV y] := by rw [hW1, hN]; exact Blk.new w _ _
    have hB2 := hB.grown hg (by simp)
    exact ⟨hB2.cell (i := 0) rfl, hB2.cell (i := 1) rfl⟩
  go_enter Tryz.func136, Tryz.ntmps136
  go_wp2_with fail
  rw [← hW1, ← hN]
  clear hW1 hN
  refine wp_region_flow3 (Fg.its [.any, .any, .any, .any, .val (.bool true), .val (.slice a n cap), .val (.bool true), .val (.bool true), .val (.agg #[iV x, iV y]), .val (.bool true), .val (.bool true), .val (.bool true), .val (.slice a n cap), .val (.pointer (some ⟨N, 0, none⟩)), .val (iV x), .val (iV u), .val (.pointer (some ⟨N, 1, none⟩)), .val (iV y), .val (.bool true), .val (.bool true)]) (fun _ => 0) (fun _ _ _ => True) (fun w => World.grownBy W1 w none) [] (by kernel_rfl) (by kernel_rfl) (by kernel_rfl) (gb_drew (gb_refl _ _)) (Fg.ptrs_nil _ _) (Fg.no_store (by kernel_rfl)) ?_ ?_
  · refine ⟨Fg.value rfl fun ac w h => ?_, ?_⟩
    · have e0 : ac.tmps.getD 0 undef = .slice a n cap := h.rest 0 (by kernel_rfl)
      refine ⟨wants_none rfl, .slice a n cap, w, ?_, gb_refl _ _, rfl⟩
      clear h
      simp only [execOp, Act.eval, e0]
      go_simp
    refine ⟨Fg.call rfl fun ac w h => ?_, ?_⟩
    · have e5 : ac.tmps.getD 5 undef = .slice a n cap := h.dep 5 (by kernel_rfl)
      have x5 : ac.tmps[5]?.getD undef = .slice a n cap := by simpa using e5
      have hb := h.base
      refine ⟨wants_none rfl, 193, #[.slice a n cap], ?_, ?_⟩
      · clear h hb e5
        go_simp
      · refine (HR.out w h.base).mono ?_
        intro e w1 hp
        obtain ⟨rfl, hg⟩ := hp
        exact ⟨_, rfl, hg, rfl⟩
    refine ⟨Fg.value rfl fun ac w h => ?_, ?_⟩
    · have e6 : ac.tmps.getD 6 undef = .bool true := h.dep 6 (by kernel_rfl)
      refine ⟨wants_none rfl, .bool true, w, ?_, gb_refl _ _, rfl⟩
      clear h
      simp only [execOp, Act.eval, e6]
      go_simp
    refine ⟨Fg.value rfl fun ac w h => ?_, ?_⟩
    · have e7 : ac.tmps.getD 7 undef = .bool true := h.dep 7 (by kernel_rfl)
      have e3 : ac.tmps.getD 3 undef = .pointer (some ⟨N, 0, none⟩) := h.rest 3 (by kernel_rfl)
      have c1 := (HK.out h.base).1
      have c2 := (HK.out h.base).2
      refine ⟨wants_some (d := 7) rfl rfl (by rw [h.size]; show 7 < 20; decide) e7, .agg #[iV x, iV y], w, ?_, gb_refl _ _, rfl⟩
      clear h
      simp only [execOp, Act.eval, e3]
      go_simp
    refine ⟨Fg.call rfl fun ac w h => ?_, ?_⟩
    · have e7 : ac.tmps.getD 7 undef = .bool true := h.dep 7 (by kernel_rfl)
      have e8 : ac.tmps.getD 8 undef = .agg #[iV x, iV y] := h.dep 8 (by kernel_rfl)
      have x8 : ac.tmps[8]?.getD undef = .agg #[iV x, iV y] := by simpa using e8
      have hb := h.base
      refine ⟨wants_some (d := 7) rfl rfl (by rw [h.size]; show 7 < 20; decide) e7, 192, #[.agg #[iV x, iV y]], ?_, ?_⟩
      · clear h hb e8
        go_simp
      · refine (HD.out w).mono ?_
        intro e w1 hp
        obtain ⟨rfl, hg⟩ := hp
        exact ⟨_, rfl, hg, rfl⟩
    refine ⟨Fg.value rfl fun ac w h => ?_, ?_⟩
    · have e7 : ac.tmps.getD 7 undef = .bool true := h.dep 7 (by kernel_rfl)
      have e9 : ac.tmps.getD 9 undef = .bool true := h.dep 9 (by kernel_rfl)
      refine ⟨wants_none rfl, .bool true, w, ?_, gb_refl _ _, rfl⟩
      clear h
      simp only [execOp, Act.eval, e7, e9]
      go_simp
    refine ⟨Fg.value rfl fun ac w h => ?_, ?_⟩
    · have e10 : ac.tmps.getD 10 undef = .bool true := h.dep 10 (by kernel_rfl)
      refine ⟨wants_none rfl, .bool true, w, ?_, gb_refl _ _, rfl⟩
      clear h
      simp only [execOp, Act.eval, e10]
      go_simp
    refine ⟨Fg.value rfl fun ac w h => ?_, ?_⟩
    · have e11 : ac.tmps.getD 11 undef = .bool true := h.dep 11 (by kernel_rfl)
      have e0 : ac.tmps.getD 0 undef = .slice a n cap := h.rest 0 (by kernel_rfl)
      refine ⟨wants_some (d := 11) rfl rfl (by rw [h.size]; show 11 < 20; decide) e11, .slice a n cap, w, ?_, gb_refl _ _, rfl⟩
      clear h
      simp only [execOp, Act.eval, e0]
      go_simp
    refine ⟨Fg.value rfl fun ac w h => ?_, ?_⟩
    · have e11 : ac.tmps.getD 11 undef = .bool true := h.dep 11 (by kernel_rfl)
      have e3 : ac.tmps.getD 3 undef = .pointer (some ⟨N, 0, none⟩) := h.rest 3 (by kernel_rfl)
      refine ⟨wants_some (d := 11) rfl rfl (by rw [h.size]; show 11 < 20; decide) e11, .pointer (some ⟨N, 0, none⟩), w, ?_, gb_refl _ _, rfl⟩
      clear h
      simp only [execOp, Act.eval, e3]
      go_simp
    refine ⟨Fg.value rfl fun ac w h => ?_, ?_⟩
    · have e11 : ac.tmps.getD 11 undef = .bool true := h.dep 11 (by kernel_rfl)
      have e13 : ac.tmps.getD 13 undef = .pointer (some ⟨N, 0, none⟩) := h.dep 13 (by kernel_rfl)
      have c1 := (HK.out h.base).1
      have c2 := (HK.out h.base).2
      refine ⟨wants_some (d := 11) rfl rfl (by rw [h.size]; show 11 < 20; decide) e11, iV x, w, ?_, gb_refl _ _, rfl⟩
      clear h
      simp only [execOp, Act.eval, e13]
      go_simp
    refine ⟨Fg.call rfl fun ac w h => ?_, ?_⟩
    · have e11 : ac.tmps.getD 11 undef = .bool true := h.dep 11 (by kernel_rfl)
      have e12 : ac.tmps.getD 12 undef = .slice a n cap := h.dep 12 (by kernel_rfl)
      have x12 : ac.tmps[12]?.getD undef = .slice a n cap := by simpa using e12
      have e14 : ac.tmps.getD 14 undef = iV x := h.dep 14 (by kernel_rfl)
      have x14 : ac.tmps[14]?.getD undef = iV x := by simpa using e14
      have hb := h.base
      refine ⟨wants_some (d := 11) rfl rfl (by rw [h.size]; show 11 < 20; decide) e11, 194, #[.slice a n cap, iV x], ?_, ?_⟩
      · clear h hb e12 e14
        go_simp
      · refine (HU.out w h.base).mono ?_
        intro e w1 hp
        obtain ⟨rfl, hg⟩ := hp
        exact ⟨_, rfl, hg, rfl⟩
    refine ⟨Fg.value rfl fun ac w h => ?_, ?_⟩
    · have e11 : ac.tmps.getD 11 undef = .bool true := h.dep 11 (by kernel_rfl)
      have e3 : ac.tmps.getD 3 undef = .pointer (some ⟨N, 0, none⟩) := h.rest 3 (by kernel_rfl)
      refine ⟨wants_some (d := 11) rfl rfl (by rw [h.size]; show 11 < 20; decide) e11, .pointer (some ⟨N, 1, none⟩), w, ?_, gb_refl _ _, rfl⟩
      clear h
      simp only [execOp, Act.eval, e3]
      go_simp
    refine ⟨Fg.value rfl fun ac w h => ?_, ?_⟩
    · have e11 : ac.tmps.getD 11 undef = .bool true := h.dep 11 (by kernel_rfl)
      have e16 : ac.tmps.getD 16 undef = .pointer (some ⟨N, 1, none⟩) := h.dep 16 (by kernel_rfl)
      have c1 := (HK.out h.base).1
      have c2 := (HK.out h.base).2
      refine ⟨wants_some (d := 11) rfl rfl (by rw [h.size]; show 11 < 20; decide) e11, iV y, w, ?_, gb_refl _ _, rfl⟩
      clear h
      simp only [execOp, Act.eval, e16]
      go_simp
    refine ⟨Fg.value rfl fun ac w h => ?_, ?_⟩
    · have e11 : ac.tmps.getD 11 undef = .bool true := h.dep 11 (by kernel_rfl)
      have e15 : ac.tmps.getD 15 undef = iV u := h.dep 15 (by kernel_rfl)
      have e17 : ac.tmps.getD 17 undef = iV y := h.dep 17 (by kernel_rfl)
      refine ⟨wants_some (d := 11) rfl rfl (by rw [h.size]; show 11 < 20; decide) e11, .bool true, w, ?_, gb_refl _ _, rfl⟩
      clear h
      simp only [execOp, Act.eval, e15, e17]
      go_simp
    refine ⟨Fg.value rfl fun ac w h => ?_, ?_⟩
    · have e11 : ac.tmps.getD 11 undef = .bool true := h.dep 11 (by kernel_rfl)
      have e18 : ac.tmps.getD 18 undef = .bool true := h.dep 18 (by kernel_rfl)
      refine ⟨wants_none rfl, .bool true, w, ?_, gb_refl _ _, rfl⟩
      clear h
      simp only [execOp, Act.eval, e11, e18]
      go_simp
    refine ⟨Fg.value rfl fun ac w h => ?_, ?_⟩
    · have e19 : ac.tmps.getD 19 undef = .bool true := h.dep 19 (by kernel_rfl)
      refine ⟨wants_none rfl, .bool true, w, ?_, gb_refl _ _, rfl⟩
      clear h
      simp only [execOp, Act.eval, e19]
      go_simp
    trivial
  · intro aq wq hB hsz hdf hrest hslots _
    obtain ⟨u5, hs5⟩ : ∃ u, aq.tmps.getD 5 undef = u := ⟨_, rfl⟩
    obtain ⟨u6, hs6⟩ : ∃ u, aq.tmps.getD 6 undef = u := ⟨_, rfl⟩
    obtain ⟨u7, hs7⟩ : ∃ u, aq.tmps.getD 7 undef = u := ⟨_, rfl⟩
    obtain ⟨u8, hs8⟩ : ∃ u, aq.tmps.getD 8 undef = u := ⟨_, rfl⟩
    obtain ⟨u9, hs9⟩ : ∃ u, aq.tmps.getD 9 undef = u := ⟨_, rfl⟩
    obtain ⟨u10, hs10⟩ : ∃ u, aq.tmps.getD 10 undef = u := ⟨_, rfl⟩
    obtain ⟨u11, hs11⟩ : ∃ u, aq.tmps.getD 11 undef = u := ⟨_, rfl⟩
    obtain ⟨u12, hs12⟩ : ∃ u, aq.tmps.getD 12 undef = u := ⟨_, rfl⟩
    obtain ⟨u13, hs13⟩ : ∃ u, aq.tmps.getD 13 undef = u := ⟨_, rfl⟩
    obtain ⟨u14, hs14⟩ : ∃ u, aq.tmps.getD 14 undef = u := ⟨_, rfl⟩
    obtain ⟨u15, hs15⟩ : ∃ u, aq.tmps.getD 15 undef = u := ⟨_, rfl⟩
    obtain ⟨u16, hs16⟩ : ∃ u, aq.tmps.getD 16 undef = u := ⟨_, rfl⟩
    obtain ⟨u17, hs17⟩ : ∃ u, aq.tmps.getD 17 undef = u := ⟨_, rfl⟩
    obtain ⟨u18, hs18⟩ : ∃ u, aq.tmps.getD 18 undef = u := ⟨_, rfl⟩
    obtain ⟨u19, hs19⟩ : ∃ u, aq.tmps.getD 19 undef = u := ⟨_, rfl⟩
    obtain rfl := Fg.frame_is (a := aq) (vs := [Value.slice a n cap, Value.agg #[iV x, iV y], undef, Value.pointer (some ⟨N, 0, none⟩), Value.bool true, u5, u6, u7, u8, u9, u10, u11, u12, u13, u14, u15, u16, u17, u18, u19]) hsz ⟨hrest 0 (by kernel_rfl), hrest 1 (by kernel_rfl), hrest 2 (by kernel_rfl), hrest 3 (by kernel_rfl), (show aq.tmps.getD 4 undef = Value.bool true from hslots 4 (by kernel_rfl)), hs5, hs6, hs7, hs8, hs9, hs10, hs11, hs12, hs13, hs14, hs15, hs16, hs17, hs18, hs19, trivial⟩ hdf
    have HB0 := Lib.hid hB
    clear hB hsz hdf hrest hslots hs5 hs6 hs7 hs8 hs9 hs10 hs11 hs12 hs13 hs14 hs15 hs16 hs17 hs18 hs19
    go_wp2
    exact HQ.out _ HB0.out
set_option maxHeartbeats 1000000 in
theorem refHas_E (n cap : Nat) (a : Option Addr) (x y u : Int) (w W1 : World) (N : Nat) (Q : Ending → World → Prop) (hN : N = w.heap.size) (hW1 : W1 = w.alloc (.cells #[iV x, iV y] 127))
    (hR : ∀ W, W1.grownBy W none → Calls Tryz.prog 193 #[.slice a n cap] W fun e w' => e = .returned (.bool true) ∧ W.grownBy w' none)
    (hD : ∀ W, Calls Tryz.prog 192 #[.agg #[iV x, iV y]] W (BOut W true))
    (hU : ∀ W, W1.grownBy W none → Calls Tryz.prog 194 #[.slice a n cap, iV x] W fun e w' => e = .returned (iV u) ∧ W.grownBy w' none)
    (hy : decide (y ≤ u) = false)
    (hQ : ∀ w', W1.grownBy w' none → Q (.returned (.bool false)) w') : Calls Tryz.prog 136 #[.slice a n cap, .agg #[iV x, iV y]] w Q := by
  have HR := Lib.hid hR; clear hR
  have HD := Lib.hid hD; clear hD
  have HU := Lib.hid hU; clear hU
  have HQ := Lib.hid hQ; clear hQ
  have HK : Hid (∀ {w' : World}, W1.grownBy w' none → w'.cell? ⟨N, 0, none⟩ = some (iV x) ∧ w'.cell? ⟨N, 1, none⟩ = some (iV y)) := fun {w'} hg => by
    have hB : Blk W1 N 127 [iV x, iV y] := by rw [hW1, hN]; exact Blk.new w _ _
    have hB2 := hB.grown hg (by simp)
    exact ⟨hB2.cell (i := 0) rfl, hB2.cell (i := 1) rfl⟩
  go_enter Tryz.func136, Tryz.ntmps136
  go_wp2_with fail
  rw [← hW1, ← hN]
  clear hW1 hN
  refine wp_region_flow3 (Fg.its [.any, .any, .any, .any, .val (.bool false), .val (.slice a n cap), .val (.bool true), .val (.bool true), .val (.agg #[iV x, iV y]), .val (.bool true), .val (.bool true), .val (.bool true), .val (.slice a n cap), .val (.pointer (some ⟨N, 0, none⟩)), .val (iV x), .val (iV u), .val (.pointer (some ⟨N, 1, none⟩)), .val (iV y), .val (.bool false), .val (.bool false)]) (fun _ => 0) (fun _ _ _ => True) (fun w => World.grownBy W1 w none) [] (by kernel_rfl) (by kernel_rfl) (by kernel_rfl) (gb_drew (gb_refl _ _)) (Fg.ptrs_nil _ _) (Fg.no_store (by kernel_rfl)) ?_ ?_
  · refine ⟨Fg.value rfl fun ac w h => ?_, ?_⟩
    · have e0 : ac.tmps.getD 0 undef = .slice a n cap := h.rest 0 (by kernel_rfl)
      refine ⟨wants_none rfl, .slice a n cap, w, ?_, gb_refl _ _, rfl⟩
      clear h
      simp only [execOp, Act.eval, e0]
      go_simp
    refine ⟨Fg.call rfl fun ac w h => ?_, ?_⟩
    · have e5 : ac.tmps.getD 5 undef = .slice a n cap := h.dep 5 (by kernel_rfl)
      have x5 : ac.tmps[5]?.getD undef = .slice a n cap := by simpa using e5
      have hb := h.base
      refine ⟨wants_none rfl, 193, #[.slice a n cap], ?_, ?_⟩
      · clear h hb e5
        go_simp
      · refine (HR.out w h.base).mono ?_
        intro e w1 hp
        obtain ⟨rfl, hg⟩ := hp
        exact ⟨_, rfl, hg, rfl⟩
    refine ⟨Fg.value rfl fun ac w h => ?_, ?_⟩
    · have e6 : ac.tmps.getD 6 undef = .bool true := h.dep 6 (by kernel_rfl)
      refine ⟨wants_none rfl, .bool true, w, ?_, gb_refl _ _, rfl⟩
      clear h
      simp only [execOp, Act.eval, e6]
      go_simp
    refine ⟨Fg.value rfl fun ac w h => ?_, ?_⟩
    · have e7 : ac.tmps.getD 7 undef = .bool true := h.dep 7 (by kernel_rfl)
      have e3 : ac.tmps.getD 3 undef = .pointer (some ⟨N, 0, none⟩) := h.rest 3 (by kernel_rfl)
      have c1 := (HK.out h.base).1
      have c2 := (HK.out h.base).2
      refine ⟨wants_some (d := 7) rfl rfl (by rw [h.size]; show 7 < 20; decide) e7, .agg #[iV x, iV y], w, ?_, gb_refl _ _, rfl⟩
      clear h
      simp only [execOp, Act.eval, e3]
      go_simp
    refine ⟨Fg.call rfl fun ac w h => ?_, ?_⟩
    · have e7 : ac.tmps.getD 7 undef = .bool true := h.dep 7 (by kernel_rfl)
      have e8 : ac.tmps.getD 8 undef = .agg #[iV x, iV y] := h.dep 8 (by kernel_rfl)
      have x8 : ac.tmps[8]?.getD undef = .agg #[iV x, iV y] := by simpa using e8
      have hb := h.base
      refine ⟨wants_some (d := 7) rfl rfl (by rw [h.size]; show 7 < 20; decide) e7, 192, #[.agg #[iV x, iV y]], ?_, ?_⟩
      · clear h hb e8
        go_simp
      · refine (HD.out w).mono ?_
        intro e w1 hp
        obtain ⟨rfl, hg⟩ := hp
        exact ⟨_, rfl, hg, rfl⟩
    refine ⟨Fg.value rfl fun ac w h => ?_, ?_⟩
    · have e7 : ac.tmps.getD 7 undef = .bool true := h.dep 7 (by kernel_rfl)
      have e9 : ac.tmps.getD 9 undef = .bool true := h.dep 9 (by kernel_rfl)
      refine ⟨wants_none rfl, .bool true, w, ?_, gb_refl _ _, rfl⟩
      clear h
      simp only [execOp, Act.eval, e7, e9]
      go_simp
    refine ⟨Fg.value rfl fun ac w h => ?_, ?_⟩
    · have e10 : ac.tmps.getD 10 undef = .bool true := h.dep 10 (by kernel_rfl)
      refine ⟨wants_none rfl, .bool true, w, ?_, gb_refl _ _, rfl⟩
      clear h
      simp only [execOp, Act.eval, e10]
      go_simp
    refine ⟨Fg.value rfl fun ac w h => ?_, ?_⟩
    · have e11 : ac.tmps.getD 11 undef = .bool true := h.dep 11 (by kernel_rfl)
      have e0 : ac.tmps.getD 0 undef = .slice a n cap := h.rest 0 (by kernel_rfl)
      refine ⟨wants_some (d := 11) rfl rfl (by rw [h.size]; show 11 < 20; decide) e11, .slice a n cap, w, ?_, gb_refl _ _, rfl⟩
      clear h
      simp only [execOp, Act.eval, e0]
      go_simp
    refine ⟨Fg.value rfl fun ac w h => ?_, ?_⟩
    · have e11 : ac.tmps.getD 11 undef = .bool true := h.dep 11 (by kernel_rfl)
      have e3 : ac.tmps.getD 3 undef = .pointer (some ⟨N, 0, none⟩) := h.rest 3 (by kernel_rfl)
      refine ⟨wants_some (d := 11) rfl rfl (by rw [h.size]; show 11 < 20; decide) e11, .pointer (some ⟨N, 0, none⟩), w, ?_, gb_refl _ _, rfl⟩
      clear h
      simp only [execOp, Act.eval, e3]
      go_simp
    refine ⟨Fg.value rfl fun ac w h => ?_, ?_⟩
    · have e11 : ac.tmps.getD 11 undef = .bool true := h.dep 11 (by kernel_rfl)
      have e13 : ac.tmps.getD 13 undef = .pointer (some ⟨N, 0, none⟩) := h.dep 13 (by kernel_rfl)
      have c1 := (HK.out h.base).1
      have c2 := (HK.out h.base).2
      refine ⟨wants_some (d := 11) rfl rfl (by rw [h.size]; show 11 < 20; decide) e11, iV x, w, ?_, gb_refl _ _, rfl⟩
      clear h
      simp only [execOp, Act.eval, e13]
      go_simp
    refine ⟨Fg.call rfl fun ac w h => ?_, ?_⟩
    · have e11 : ac.tmps.getD 11 undef = .bool true := h.dep 11 (by kernel_rfl)
      have e12 : ac.tmps.getD 12 undef = .slice a n cap := h.dep 12 (by kernel_rfl)
      have x12 : ac.tmps[12]?.getD undef = .slice a n cap := by simpa using e12
      have e14 : ac.tmps.getD 14 undef = iV x := h.dep 14 (by kernel_rfl)
      have x14 : ac.tmps[14]?.getD undef = iV x := by simpa using e14
      have hb := h.base
      refine ⟨wants_some (d := 11) rfl rfl (by rw [h.size]; show 11 < 20; decide) e11, 194, #[.slice a n cap, iV x], ?_, ?_⟩
      · clear h hb e12 e14
        go_simp
      · refine (HU.out w h.base).mono ?_
        intro e w1 hp
        obtain ⟨rfl, hg⟩ := hp
        exact ⟨_, rfl, hg, rfl⟩
    refine ⟨Fg.value rfl fun ac w h => ?_, ?_⟩
    · have e11 : ac.tmps.getD 11 undef = .bool true := h.dep 11 (by kernel_rfl)
      have e3 : ac.tmps.getD 3 undef = .pointer (some ⟨N, 0, none⟩) := h.rest 3 (by kernel_rfl)
      refine ⟨wants_some (d := 11) rfl rfl (by rw [h.size]; show 11 < 20; decide) e11, .pointer (some ⟨N, 1, none⟩), w, ?_, gb_refl _ _, rfl⟩
      clear h
      simp only [execOp, Act.eval, e3]
      go_simp
    refine ⟨Fg.value rfl fun ac w h => ?_, ?_⟩
    · have e11 : ac.tmps.getD 11 undef = .bool true := h.dep 11 (by kernel_rfl)
      have e16 : ac.tmps.getD 16 undef = .pointer (some ⟨N, 1, none⟩) := h.dep 16 (by kernel_rfl)
      have c1 := (HK.out h.base).1
      have c2 := (HK.out h.base).2
      refine ⟨wants_some (d := 11) rfl rfl (by rw [h.size]; show 11 < 20; decide) e11, iV y, w, ?_, gb_refl _ _, rfl⟩
      clear h
      simp only [execOp, Act.eval, e16]
      go_simp
    refine ⟨Fg.value rfl fun ac w h => ?_, ?_⟩
    · have e11 : ac.tmps.getD 11 undef = .bool true := h.dep 11 (by kernel_rfl)
      have e15 : ac.tmps.getD 15 undef = iV u := h.dep 15 (by kernel_rfl)
      have e17 : ac.tmps.getD 17 undef = iV y := h.dep 17 (by kernel_rfl)
      refine ⟨wants_some (d := 11) rfl rfl (by rw [h.size]; show 11 < 20; decide) e11, .bool false, w, ?_, gb_refl _ _, rfl⟩
      clear h
      simp only [execOp, Act.eval, e15, e17]
      go_simp
    refine ⟨Fg.value rfl fun ac w h => ?_, ?_⟩
    · have e11 : ac.tmps.getD 11 undef = .bool true := h.dep 11 (by kernel_rfl)
      have e18 : ac.tmps.getD 18 undef = .bool false := h.dep 18 (by kernel_rfl)
      refine ⟨wants_none rfl, .bool false, w, ?_, gb_refl _ _, rfl⟩
      clear h
      simp only [execOp, Act.eval, e11, e18]
      go_simp
    refine ⟨Fg.value rfl fun ac w h => ?_, ?_⟩
    · have e19 : ac.tmps.getD 19 undef = .bool false := h.dep 19 (by kernel_rfl)
      refine ⟨wants_none rfl, .bool false, w, ?_, gb_refl _ _, rfl⟩
      clear h
      simp only [execOp, Act.eval, e19]
      go_simp
    trivial
  · intro aq wq hB hsz hdf hrest hslots _
    obtain ⟨u5, hs5⟩ : ∃ u, aq.tmps.getD 5 undef = u := ⟨_, rfl⟩
    obtain ⟨u6, hs6⟩ : ∃ u, aq.tmps.getD 6 undef = u := ⟨_, rfl⟩
    obtain ⟨u7, hs7⟩ : ∃ u, aq.tmps.getD 7 undef = u := ⟨_, rfl⟩
    obtain ⟨u8, hs8⟩ : ∃ u, aq.tmps.getD 8 undef = u := ⟨_, rfl⟩
    obtain ⟨u9, hs9⟩ : ∃ u, aq.tmps.getD 9 undef = u := ⟨_, rfl⟩
    obtain ⟨u10, hs10⟩ : ∃ u, aq.tmps.getD 10 undef = u := ⟨_, rfl⟩
    obtain ⟨u11, hs11⟩ : ∃ u, aq.tmps.getD 11 undef = u := ⟨_, rfl⟩
    obtain ⟨u12, hs12⟩ : ∃ u, aq.tmps.getD 12 undef = u := ⟨_, rfl⟩
    obtain ⟨u13, hs13⟩ : ∃ u, aq.tmps.getD 13 undef = u := ⟨_, rfl⟩
    obtain ⟨u14, hs14⟩ : ∃ u, aq.tmps.getD 14 undef = u := ⟨_, rfl⟩
    obtain ⟨u15, hs15⟩ : ∃ u, aq.tmps.getD 15 undef = u := ⟨_, rfl⟩
    obtain ⟨u16, hs16⟩ : ∃ u, aq.tmps.getD 16 undef = u := ⟨_, rfl⟩
    obtain ⟨u17, hs17⟩ : ∃ u, aq.tmps.getD 17 undef = u := ⟨_, rfl⟩
    obtain ⟨u18, hs18⟩ : ∃ u, aq.tmps.getD 18 undef = u := ⟨_, rfl⟩
    obtain ⟨u19, hs19⟩ : ∃ u, aq.tmps.getD 19 undef = u := ⟨_, rfl⟩
    obtain rfl := Fg.frame_is (a := aq) (vs := [Value.slice a n cap, Value.agg #[iV x, iV y], undef, Value.pointer (some ⟨N, 0, none⟩), Value.bool false, u5, u6, u7, u8, u9, u10, u11, u12, u13, u14, u15, u16, u17, u18, u19]) hsz ⟨hrest 0 (by kernel_rfl), hrest 1 (by kernel_rfl), hrest 2 (by kernel_rfl), hrest 3 (by kernel_rfl), (show aq.tmps.getD 4 undef = Value.bool false from hslots 4 (by kernel_rfl)), hs5, hs6, hs7, hs8, hs9, hs10, hs11, hs12, hs13, hs14, hs15, hs16, hs17, hs18, hs19, trivial⟩ hdf
    have HB0 := Lib.hid hB
    clear hB hsz hdf hrest hslots hs5 hs6 hs7 hs8 hs9 hs10 hs11 hs12 hs13 hs14 hs15 hs16 hs17 hs18 hs19
    go_wp2
    exact HQ.out _ HB0.out
theorem refHas_any (B n cap : Nat) (a : Option Addr) (l : List D) (x y : Int) (w : World) (hn : l.length = n) (h : DotsAt w B a l) (hc : n < 9223372036854775808) :
    Calls Tryz.prog 136 #[.slice a n cap, .agg #[iV x, iV y]] w (BOut w (hasB l (x, y))) := by
  have hg0 : w.grownBy (w.alloc (.cells #[iV x, iV y] 127)) none := gb_alloc (gb_refl _ _) _
  have hR := fun W (hg : (w.alloc (.cells #[iV x, iV y] 127)).grownBy W none) => refRight_any B n cap a l W hn (h.stay (gb_trans hg0 hg)) hc
  have hU := fun W (hg : (w.alloc (.cells #[iV x, iV y] 127)).grownBy W none) => (refUp_any B n cap a l x W hn (h.stay (gb_trans hg0 hg)) hc).mono (R' := fun e w' => e = .returned (iV (up l x)) ∧ W.grownBy w' none) (fun e w' hh => ⟨hh.1, by rw [← hh.2]; exact gb_refl _ _⟩)
  unfold hasB
  cases hr : rtB 0 l with
  | false =>
    rw [hr] at hR
    exact refHas_A n cap a x y w _ _ _ rfl rfl hR (fun w' hg => ⟨rfl, gb_trans hg0 hg⟩)
  | true =>
    rw [hr] at hR
    cases hd : okD (x, y) with
    | false => exact refHas_B n cap a x y w _ _ _ rfl rfl hR (fun W => refDot_any false x y W hd) (fun w' hg => ⟨rfl, gb_trans hg0 hg⟩)
    | true =>
      cases hy : decide (y ≤ up l x) with
      | true => exact refHas_C n cap a x y (up l x) w _ _ _ rfl rfl hR (fun W => refDot_any true x y W hd) hU hy (fun w' hg => ⟨rfl, gb_trans hg0 hg⟩)
      | false => exact refHas_E n cap a x y (up l x) w _ _ _ rfl rfl hR (fun W => refDot_any true x y W hd) hU hy (fun w' hg => ⟨rfl, gb_trans hg0 hg⟩)
end Ve
end Go.Proofs.YtlkiancedgaicaaGreat

/- The document's record (buttressref08): Shape, Right, Text, Put. (Printed by gen_rcref.py.) -/
namespace Go.Proofs.YtlkiancedgaicaaGreat
open Go.RowKit Ow Wi Ve
namespace Rc
theorem box1 (w : World) (T : TypeId) (L : List Value) : Blk (w.alloc (.cells L.toArray T)) w.heap.size T L ∧ w.grownBy (w.alloc (.cells L.toArray T)) none := ⟨Blk.new w L T, gb_alloc (gb_refl _ _) _⟩
set_option maxHeartbeats 4000000 in
theorem refShape_any (b : Bool) (r : R) (B : Nat) (w : World) (q : L) (h : RAt w B q r) (hb : shapeB r = b) :
    Calls Tryz.prog 135 #[q.v r] w fun e w' => e = .returned (.bool b) ∧ w.grownBy w' none := by
  have HO := Lib.hid (fun w' => refDot_any (okD r.dot) r.cl r.sq w' rfl)
  have HR := Lib.hid (fun w' (hg : w.grownBy w' none) => refRight_any B q.n1 q.c1 q.a1 r.cx w' h.l1 (h.dots.stay hg) h.top)
  have HH := Lib.hid (fun w' (hg : w.grownBy w' none) => refHas_any B q.n1 q.c1 q.a1 r.cx r.cl r.sq w' h.l1 (h.dots.stay hg) h.top)
  have hk := h.keyLen
  have hv := h.l2
  clear h
  have hb' : (keyB r && (okD r.dot && rtB 0 r.cx && !hasB r.cx (r.cl, r.sq)) && valB r) = b := hb
  clear hb
  unfold keyB valB at hb'
  rw [hk, hv] at hb'
  clear hk hv
  generalize okD r.dot = x at *
  generalize rtB 0 r.cx = y at *
  generalize hasB r.cx (r.cl, r.sq) = z at *
  obtain ⟨s, a1, n1, c1, a2, n2, c2, a3, n3, c3⟩ := q
  obtain ⟨key, cl, sq, cx, g, val, sig⟩ := r
  simp only at hb' HO HR HH
  show Calls _ _ #[vV s cl sq a1 n1 c1 g a2 n2 c2 a3 n3 c3] w _
  obtain ⟨k1, h1⟩ : ∃ k, decide ((s.size : Int) < 1) = k := ⟨_, rfl⟩
  obtain ⟨k2, h2⟩ : ∃ k, decide ((64 : Int) < (s.size : Int)) = k := ⟨_, rfl⟩
  obtain ⟨k3, h3⟩ : ∃ k, decide ((n2 : Int) ≤ 1024) = k := ⟨_, rfl⟩
  obtain ⟨k4, h4⟩ : ∃ k, ((n2 : Int) == 0) = k := ⟨_, rfl⟩
  have HB : Hid (((!k1 && !k2) && (x && y && !z) && (k3 && (!g || k4))) = b) := by
    show _ = _
    rw [← hb']
    have e1 : decide (1 ≤ s.size) = !k1 := by rw [← h1, Bool.eq_iff_iff]; simp; omega
    have e2 : decide (s.size ≤ 64) = !k2 := by rw [← h2, Bool.eq_iff_iff]; simp; omega
    have e3 : decide (n2 ≤ if g then 0 else 1024) = (k3 && (!g || k4)) := by
      rw [← h3, ← h4, Bool.eq_iff_iff]
      cases g <;> simp <;> omega
    rw [e1, e2, e3]
  clear hb'
  obtain ⟨N, hN⟩ : ∃ N, N = w.heap.size := ⟨_, rfl⟩
  obtain ⟨M, hM⟩ : ∃ M, M = w.heap.size + 1 := ⟨_, rfl⟩
  obtain ⟨W0, hW0⟩ : ∃ W0, W0 = (w.alloc (.cells #[.string s, iV cl, iV sq, .slice a1 n1 c1, .bool g, .slice a2 n2 c2, .slice a3 n3 c3] 66)).alloc (.cells #[iV cl, iV sq] 127) := ⟨_, rfl⟩
  have HG0 : Hid (w.grownBy W0 none ∧ Blk W0 N 66 [.string s, iV cl, iV sq, .slice a1 n1 c1, .bool g, .slice a2 n2 c2, .slice a3 n3 c3] ∧ Blk W0 M 127 [iV cl, iV sq]) := by
    refine ⟨?_, ?_, ?_⟩
    · rw [hW0]; exact gb_alloc (gb_alloc (gb_refl _ _) _) _
    · rw [hW0, hN]; exact (Blk.new _ _ _).alloc _
    · rw [hW0, hM, ← World.size_alloc]; exact Blk.new _ _ _
  go_enter Tryz.func135, Tryz.ntmps135
  cases k1 with
  | true => go_wp2; go_ret; exact ⟨by rw [← HB.out]; simp, by rw [← hW0]; exact HG0.out.1⟩
  | false =>
    cases k2 with
    | true => go_wp2; go_ret; exact ⟨by rw [← HB.out]; simp, by rw [← hW0]; exact HG0.out.1⟩
    | false =>
      go_wp2_with fail
      rw [← hW0, ← hM, ← hN]
      clear hW0 hM hN
      refine (HO.out W0).mono ?_
      rintro e w1 ⟨rfl, hg⟩
      have HG1 : Hid (w.grownBy w1 none ∧ Blk w1 N 66 [.string s, iV cl, iV sq, .slice a1 n1 c1, .bool g, .slice a2 n2 c2, .slice a3 n3 c3] ∧ Blk w1 M 127 [iV cl, iV sq]) := ⟨gb_trans HG0.out.1 hg, HG0.out.2.1.grown hg (by simp), HG0.out.2.2.grown hg (by simp)⟩
      clear hg HG0
      have x3 := HG1.out.2.1.cell (i := 3) rfl
      cases x with
      | false => go_wp2; go_ret; exact ⟨by rw [← HB.out]; simp, HG1.out.1⟩
      | true =>
        go_wp2_with fail
        refine (HR.out w1 HG1.out.1).mono ?_
        rintro e w2 ⟨rfl, hg⟩
        have HG2 : Hid (w.grownBy w2 none ∧ Blk w2 N 66 [.string s, iV cl, iV sq, .slice a1 n1 c1, .bool g, .slice a2 n2 c2, .slice a3 n3 c3] ∧ Blk w2 M 127 [iV cl, iV sq]) := ⟨gb_trans HG1.out.1 hg, HG1.out.2.1.grown hg (by simp), HG1.out.2.2.grown hg (by simp)⟩
        clear hg HG1 x3
        have x3 := HG2.out.2.1.cell (i := 3) rfl
        have d0 := HG2.out.2.2.cell (i := 0) rfl
        have d1 := HG2.out.2.2.cell (i := 1) rfl
        cases y with
        | false => go_wp2; go_ret; exact ⟨by rw [← HB.out]; simp, HG2.out.1⟩
        | true =>
          go_wp2_with fail
          refine (HH.out w2 HG2.out.1).mono ?_
          rintro e w3 ⟨rfl, hg⟩
          have HG3 : Hid (w.grownBy w3 none ∧ Blk w3 N 66 [.string s, iV cl, iV sq, .slice a1 n1 c1, .bool g, .slice a2 n2 c2, .slice a3 n3 c3]) := ⟨gb_trans HG2.out.1 hg, HG2.out.2.1.grown hg (by simp)⟩
          clear hg HG2 x3 d0 d1
          have x4 := HG3.out.2.cell (i := 4) rfl
          have x5 := HG3.out.2.cell (i := 5) rfl
          cases z with
          | true => go_wp2; go_ret; exact ⟨by rw [← HB.out]; simp, HG3.out.1⟩
          | false =>
            cases k3 with
            | false => go_wp2; go_ret; exact ⟨by rw [← HB.out]; simp, HG3.out.1⟩
            | true =>
              cases g with
              | false => go_wp2; go_ret; exact ⟨by rw [← HB.out]; simp, HG3.out.1⟩
              | true => go_wp2; go_ret; exact ⟨by rw [← HB.out]; simp, HG3.out.1⟩
set_option maxHeartbeats 1000000 in
theorem refRightR_any (r : R) (B : Nat) (w : World) (q : L) (h : RAt w B q r) : Calls Tryz.prog 133 #[q.v r] w fun e w' => e = .returned (.bool (rightB r)) ∧ w.grownBy w' none := by
  have HS := Lib.hid (fun w' (hg : w.grownBy w' none) => refShape_any (shapeB r) r B w' q (h.stay hg) rfl)
  have hl := h.l3
  clear h
  obtain ⟨b, hb⟩ : ∃ b, b = rightB r := ⟨_, rfl⟩
  rw [← hb]
  unfold rightB at hb
  rw [hl] at hb
  clear hl
  generalize shapeB r = x at HS hb
  obtain ⟨s, a1, n1, c1, a2, n2, c2, a3, n3, c3⟩ := q
  obtain ⟨key, cl, sq, cx, g, val, sig⟩ := r
  replace HS : Hid (∀ w' (_ : w.grownBy w' none), Calls Tryz.prog 135 #[vV s cl sq a1 n1 c1 g a2 n2 c2 a3 n3 c3] w' fun e w'' => e = .returned (.bool x) ∧ w'.grownBy w'' none) := HS
  show Calls _ _ #[vV s cl sq a1 n1 c1 g a2 n2 c2 a3 n3 c3] w _
  obtain ⟨N, hN⟩ : ∃ N, N = w.heap.size := ⟨_, rfl⟩
  obtain ⟨W0, hW0⟩ : ∃ W0, W0 = w.alloc (.cells #[.string s, iV cl, iV sq, .slice a1 n1 c1, .bool g, .slice a2 n2 c2, .slice a3 n3 c3] 66) := ⟨_, rfl⟩
  have hG0 : w.grownBy W0 none := by rw [hW0]; exact gb_alloc (gb_refl _ _) _
  have hB0 : Blk W0 N 66 [.string s, iV cl, iV sq, .slice a1 n1 c1, .bool g, .slice a2 n2 c2, .slice a3 n3 c3] := by rw [hW0, hN]; exact Blk.new _ _ _
  have HG0 := Lib.hid (And.intro hG0 hB0); clear hG0 hB0
  have HB := Lib.hid hb; clear hb
  go_enter Tryz.func133, Tryz.ntmps133
  go_wp2_with fail
  rw [← hW0, ← hN]
  clear hW0 hN
  refine (HS.out _ HG0.out.1).mono ?_
  rintro e w1 ⟨rfl, hg⟩
  have m6 := (HG0.out.2.grown hg (by simp)).cell (i := 6) rfl
  have HG := Lib.hid (gb_trans HG0.out.1 hg); clear hg
  cases x with
  | false =>
    go_wp2
    go_ret
    exact ⟨by rw [HB.out]; rfl, HG.out⟩
  | true =>
    by_cases h3 : n3 = 64
    · subst h3
      go_wp2
      go_ret
      exact ⟨by rw [HB.out]; rfl, HG.out⟩
    · have i3 : ((n3 : Int) == 64) = false := by rw [beq_eq_false_iff_ne]; omega
      have HF : Hid (b = false) := by show _ = _; rw [HB.out]; simp [h3]
      clear h3
      go_wp2
      go_ret
      exact ⟨by rw [HF.out]; rfl, HG.out⟩
end Rc
end Go.Proofs.YtlkiancedgaicaaGreat
