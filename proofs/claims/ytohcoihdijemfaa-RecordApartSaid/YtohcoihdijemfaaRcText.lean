/- (record.work).text: a record's text. (The region printed by gen_rctext.py.) -/
import Derived.Test.YtohcoihdijemfaaRcDots
import Derived.Test.YtohcoihdijemfaaRcWork
namespace Go.Proofs.Ytohcoihdijemfaa
open Go.RowKit Ow Wi Ve
namespace Rc
theorem goneN_byte (g : Bool) (i : Nat) : ([goneN g] : List Nat).getD i 0 < 256 := by
  rcases i with _ | i
  · cases g <;> decide
  · simp
theorem rowL_byte {l : List Nat} (h : ∀ i, l.getD i 0 < 256) : ∀ i, (rowL l).getD i 0 < 256 := app_byte (encN_byte _) h
theorem rowL_len (l : List Nat) : (rowL l).length = 8 + l.length := by unfold rowL; rw [List.length_append, encN_length]
theorem dotsL_byte (l : List D) : ∀ i, (dotsL l).getD i 0 < 256 := by rw [← dotR_flat]; exact flat_byte (dotR_byte l)
set_option maxHeartbeats 4000000 in
set_option maxRecDepth 100000 in
theorem text_out (r : R) (B : Nat) (w : World) (q : L) (h : RAt w B q r) (hb : shapeB r = true) :
    Calls Try.prog 35 #[q.v r] w (BOut w (textL r)) := by
  obtain ⟨_, h2, _, h4, h5, _⟩ := shape_of hb
  have hcx : (r.cx.length : Int) ≤ 8 := by have := h4.len (by decide); omega
  have hk := h.keyLen
  clear hb h4
  obtain ⟨s, a1, n1, c1, a2, n2, c2, a3, n3, c3⟩ := q
  obtain ⟨key, cl, sq, cx, g, val, sig⟩ := r
  have hs : strL s = key := h.str
  subst hs
  have l1 : cx.length = n1 := h.l1
  have l2 : val.length = n2 := h.l2
  simp only at h2 h5 hk hcx
  rw [hk] at h2
  have HK : Hid (s.size ≤ 64) := h2
  have HD : Hid (DotsAt w B a1 cx ∧ cx.length = n1 ∧ n1 ≤ 8) := ⟨h.dots, l1, by omega⟩
  have HV : Hid (BytesAt w B a2 c2 val ∧ val.length = n2 ∧ val.length ≤ 1024) := ⟨h.val, l2, h5⟩
  obtain ⟨gl, hgl⟩ : ∃ gl, gl = g := ⟨_, rfl⟩
  have HT : Hid ([[1], rowL (strL s), dotsL [(cl, sq)], encN (n1 : Int), dotsL cx, [goneN gl], rowL val].flatten = textL ⟨strL s, cl, sq, cx, g, val, sig⟩ ∧ [[1], rowL (strL s), dotsL [(cl, sq)], encN (n1 : Int), dotsL cx, [goneN gl], rowL val].flatten.length ≤ 1000000 ∧ ∀ l ∈ [[1], rowL (strL s), dotsL [(cl, sq)], encN (n1 : Int), dotsL cx, [goneN gl], rowL val], ∀ i, l.getD i 0 < 256) := by
    refine ⟨?_, ?_, fun l hl => ?_⟩
    · rw [hgl, ← l1]
      simp [textL, dotsL, R.dot]
    · simp only [List.flatten_cons, List.flatten_nil, List.length_append, List.length_cons, List.length_nil, rowL_len, dotsL_len, encN_length, strL_len]
      omega
    · simp only [List.mem_cons, List.not_mem_nil, or_false] at hl
      rcases hl with rfl | rfl | rfl | rfl | rfl | rfl | rfl
      · intro i; rcases i with _ | i <;> simp
      · exact rowL_byte (strL_byte s)
      · exact dotsL_byte _
      · exact encN_byte _
      · exact dotsL_byte _
      · exact goneN_byte _
      · exact rowL_byte h.val.byte
  clear h l1 l2 h2 h5 hk hcx
  show Calls _ _ #[vV s cl sq a1 n1 c1 g a2 n2 c2 a3 n3 c3] w _
  rw [← HT.out.1]
  obtain ⟨Q, hQ⟩ : ∃ Q, Q = BOut w [[1], rowL (strL s), dotsL [(cl, sq)], encN (n1 : Int), dotsL cx, [goneN gl], rowL val].flatten := ⟨_, rfl⟩
  rw [← hQ]
  have HQ := Lib.hid hQ; clear hQ
  obtain ⟨N, hN⟩ : ∃ N, N = w.heap.size := ⟨_, rfl⟩
  obtain ⟨W0, hW0⟩ : ∃ W0, W0 = w.alloc (.cells #[.string s, iV cl, iV sq, .slice a1 n1 c1, .bool g, .slice a2 n2 c2, .slice a3 n3 c3] 55) := ⟨_, rfl⟩
  have hG0 : w.grownBy W0 none := by rw [hW0]; exact gb_alloc (gb_refl _ _) _
  have hB0 : Blk W0 N 55 [.string s, iV cl, iV sq, .slice a1 n1 c1, .bool gl, .slice a2 n2 c2, .slice a3 n3 c3] := by rw [hW0, hN, hgl]; exact Blk.new w _ _
  have HG0 := Lib.hid (And.intro hG0 hB0); clear hG0 hB0
  go_enter Try.func35, Try.ntmps35
  cases g
  all_goals
    have HGL := Lib.hid hgl; clear hgl
    go_wp2_with fail
    rw [← hW0, ← hN]
    clear hW0 hN
    have hgl := HGL.out
    refine Fg.region_t [] [.any, .any, Fg.It.by [[1], rowL (strL s), dotsL [(cl, sq)], encN (n1 : Int), dotsL cx, [goneN gl], rowL val].flatten, .any, .any, .any, .any, Fg.It.by [1], .val (Value.pointer (some ⟨N, 0, none⟩)), .val (Value.pointer (some ⟨N, 0, none⟩)), .val (Value.string s), Fg.It.by (strL s), Fg.It.by (rowL (strL s)), .val (vV s cl sq a1 n1 c1 gl a2 n2 c2 a3 n3 c3), .val (Value.agg #[iV cl, iV sq]), .dts [(cl, sq)], Fg.It.by (dotsL [(cl, sq)]), .val (Value.pointer (some ⟨N, 0, none⟩)), .val (Value.pointer (some ⟨N, 3, none⟩)), .val (Value.slice a1 n1 c1), .val (Value.int .i64 n1), Fg.It.by (encN (n1 : Int)), .val (Value.pointer (some ⟨N, 0, none⟩)), .val (Value.pointer (some ⟨N, 3, none⟩)), .val (Value.slice a1 n1 c1), Fg.It.by (dotsL cx), .val (Value.int .u8 (goneN gl : Nat)), Fg.It.by [goneN gl], .val (Value.pointer (some ⟨N, 0, none⟩)), .val (Value.pointer (some ⟨N, 5, none⟩)), .val (Value.slice a2 n2 c2), Fg.It.by (rowL val), Fg.It.rws [[1], rowL (strL s), dotsL [(cl, sq)], encN (n1 : Int), dotsL cx, [goneN gl], rowL val], Fg.It.by [[1], rowL (strL s), dotsL [(cl, sq)], encN (n1 : Int), dotsL cx, [goneN gl], rowL val].flatten] W0 28 (gb_refl _ _) (by kernel_rfl) (by kernel_rfl) (by kernel_rfl) (by kernel_rfl) (by decide) (by kernel_rfl) ?_ ?_
    · refine ⟨Fg.vT rfl (by decide) fun ac w h => ?_, ?_⟩
      · refine ⟨.slice (some ⟨w.heap.size, 0, none⟩) 1 1, w.alloc (.cells #[.int .u8 1] 5), wants_none rfl, ?_, gb_alloc (gb_refl _ _) _, ⟨_, 1, _, rfl, bytes_box [1] (fun i => by rcases i with _ | i <;> simp) (by decide)⟩⟩
        clear h
        simp only [execOp, Act.eval, List.map_toArray, List.map_cons, List.map_nil]
        go_simp
      refine ⟨Fg.vT rfl (by decide) fun ac w h => ?_, ?_⟩
      · have e1 : ac.tmps.getD 1 undef = Value.pointer (some ⟨N, 0, none⟩) := h.rest 1 (by kernel_rfl)
        refine ⟨Value.pointer (some ⟨N, 0, none⟩), w, wants_none rfl, ?_, gb_refl _ _, rfl⟩
        clear h
        simp only [execOp, Act.eval, e1]
        go_simp
      refine ⟨Fg.vT rfl (by decide) fun ac w h => ?_, ?_⟩
      · have e8 : ac.tmps.getD 8 undef = Value.pointer (some ⟨N, 0, none⟩) := h.dep 8 (by kernel_rfl)
        refine ⟨Value.pointer (some ⟨N, 0, none⟩), w, wants_none rfl, ?_, gb_refl _ _, rfl⟩
        clear h
        simp only [execOp, Act.eval, e8]
        go_simp
      refine ⟨Fg.vT rfl (by decide) fun ac w h => ?_, ?_⟩
      · have e9 : ac.tmps.getD 9 undef = Value.pointer (some ⟨N, 0, none⟩) := h.dep 9 (by kernel_rfl)
        have c := (HG0.out.2.grown h.base (by simp)).cell (i := 0) rfl
        refine ⟨Value.string s, w, wants_none rfl, ?_, gb_refl _ _, rfl⟩
        clear h
        simp only [execOp, Act.eval, e9]
        go_simp
      refine ⟨Fg.vT rfl (by decide) fun ac w h => ?_, ?_⟩
      · have e10 : ac.tmps.getD 10 undef = Value.string s := h.dep 10 (by kernel_rfl)
        obtain ⟨c11, w11, hr11, hg11, hb11⟩ := str_bytes s w (by have := HK.out; omega)
        refine ⟨.slice (some ⟨w.heap.size, 0, none⟩) s.size c11, w11, wants_none rfl, ?_, hg11, ⟨_, _, _, by rw [strL_len], hb11⟩⟩
        clear h hb11 hg11
        simp only [execOp, Act.eval, e10]
        simp [hr11, Result.andThen]
      refine ⟨Fg.cT rfl (by decide) fun ac w h => ?_, ?_⟩
      · obtain ⟨a11, k11, B11, e11, b11⟩ : ∃ x c B, ac.tmps.getD 11 undef = .slice x (strL s).length c ∧ BytesAt w B x c (strL s) := h.dep 11 (by kernel_rfl)
        refine ⟨52, #[Value.slice a11 (strL s).length k11], wants_none rfl, Fg.run_call rfl rfl (by simp only [List.map_toArray, List.map_cons, List.map_nil, Act.eval, e11]) (Fg.run_enter Try.func52 (by kernel_rfl) (by kernel_rfl)), ?_⟩
        exact (bytes_out _ (strL s) a11 k11 B11 w rfl b11 (by rw [strL_len]; have := HK.out; omega)).mono fun _ _ ⟨_, _, he, hg, hb⟩ => ⟨_, he, hg, _, _, _, rfl, hb⟩
      refine ⟨Fg.vT rfl (by decide) fun ac w h => ?_, ?_⟩
      · have e1 : ac.tmps.getD 1 undef = Value.pointer (some ⟨N, 0, none⟩) := h.rest 1 (by kernel_rfl)
        have m0 := (HG0.out.2.grown h.base (by simp)).cell (i := 0) rfl
        have m1 := (HG0.out.2.grown h.base (by simp)).cell (i := 1) rfl
        have m2 := (HG0.out.2.grown h.base (by simp)).cell (i := 2) rfl
        have m3 := (HG0.out.2.grown h.base (by simp)).cell (i := 3) rfl
        have m4 := (HG0.out.2.grown h.base (by simp)).cell (i := 4) rfl
        have m5 := (HG0.out.2.grown h.base (by simp)).cell (i := 5) rfl
        have m6 := (HG0.out.2.grown h.base (by simp)).cell (i := 6) rfl
        refine ⟨vV s cl sq a1 n1 c1 gl a2 n2 c2 a3 n3 c3, w, wants_none rfl, ?_, gb_refl _ _, rfl⟩
        clear h
        simp only [execOp, Act.eval, e1]
        go_simp
      refine ⟨Fg.cT rfl (by decide) fun ac w h => ?_, ?_⟩
      · have e13 : ac.tmps.getD 13 undef = vV s cl sq a1 n1 c1 gl a2 n2 c2 a3 n3 c3 := h.dep 13 (by kernel_rfl)
        refine ⟨37, #[vV s cl sq a1 n1 c1 gl a2 n2 c2 a3 n3 c3], wants_none rfl, Fg.run_call rfl rfl (by simp only [List.map_toArray, List.map_cons, List.map_nil, Act.eval, e13]) (Fg.run_enter Try.func37 (by kernel_rfl) (by kernel_rfl)), ?_⟩
        exact (dot_any s cl sq a1 n1 c1 gl a2 n2 c2 a3 n3 c3 w).mono fun _ _ ⟨he, hg⟩ => ⟨_, he, hg, rfl⟩
      refine ⟨Fg.vT rfl (by decide) fun ac w h => ?_, ?_⟩
      · have e14 : ac.tmps.getD 14 undef = Value.agg #[iV cl, iV sq] := h.dep 14 (by kernel_rfl)
        refine ⟨.slice (some ⟨w.heap.size, 0, none⟩) 1 1, w.alloc (.cells #[iV cl, iV sq] 43), wants_none rfl, ?_, gb_alloc (gb_refl _ _) _, ⟨_, 1, _, rfl, dots_one w cl sq _⟩⟩
        clear h
        simp only [execOp, Act.eval, e14, List.map_toArray, List.map_cons, List.map_nil]
        go_simp
      refine ⟨Fg.cT rfl (by decide) fun ac w h => ?_, ?_⟩
      · obtain ⟨a15, k15, B15, e15, b15⟩ : ∃ x c B, ac.tmps.getD 15 undef = .slice x [(cl, sq)].length c ∧ DotsAt w B x [(cl, sq)] := h.dep 15 (by kernel_rfl)
        refine ⟨53, #[Value.slice a15 [(cl, sq)].length k15], wants_none rfl, Fg.run_call rfl rfl (by simp only [List.map_toArray, List.map_cons, List.map_nil, Act.eval, e15]) (Fg.run_enter Try.func53 (by kernel_rfl) (by kernel_rfl)), ?_⟩
        exact (dots_out 1 k15 B15 [(cl, sq)] a15 w rfl b15 (by decide)).mono fun _ _ ⟨_, _, he, hg, hb⟩ => ⟨_, he, hg, _, _, _, rfl, hb⟩
      refine ⟨Fg.vT rfl (by decide) fun ac w h => ?_, ?_⟩
      · have e1 : ac.tmps.getD 1 undef = Value.pointer (some ⟨N, 0, none⟩) := h.rest 1 (by kernel_rfl)
        refine ⟨Value.pointer (some ⟨N, 0, none⟩), w, wants_none rfl, ?_, gb_refl _ _, rfl⟩
        clear h
        simp only [execOp, Act.eval, e1]
        go_simp
      refine ⟨Fg.vT rfl (by decide) fun ac w h => ?_, ?_⟩
      · have e17 : ac.tmps.getD 17 undef = Value.pointer (some ⟨N, 0, none⟩) := h.dep 17 (by kernel_rfl)
        refine ⟨Value.pointer (some ⟨N, 3, none⟩), w, wants_none rfl, ?_, gb_refl _ _, rfl⟩
        clear h
        simp only [execOp, Act.eval, e17]
        go_simp
      refine ⟨Fg.vT rfl (by decide) fun ac w h => ?_, ?_⟩
      · have e18 : ac.tmps.getD 18 undef = Value.pointer (some ⟨N, 3, none⟩) := h.dep 18 (by kernel_rfl)
        have c := (HG0.out.2.grown h.base (by simp)).cell (i := 3) rfl
        refine ⟨Value.slice a1 n1 c1, w, wants_none rfl, ?_, gb_refl _ _, rfl⟩
        clear h
        simp only [execOp, Act.eval, e18]
        go_simp
      refine ⟨Fg.vT rfl (by decide) fun ac w h => ?_, ?_⟩
      · have e19 : ac.tmps.getD 19 undef = Value.slice a1 n1 c1 := h.dep 19 (by kernel_rfl)
        have x19 : ac.tmps[19]?.getD undef = Value.slice a1 n1 c1 := by simpa using e19
        refine ⟨.int .i64 n1, w, wants_none rfl, ?_, gb_refl _ _, rfl⟩
        clear h e19
        go_simp
      refine ⟨Fg.cT rfl (by decide) fun ac w h => ?_, ?_⟩
      · have e20 : ac.tmps.getD 20 undef = Value.int .i64 n1 := h.dep 20 (by kernel_rfl)
        refine ⟨54, #[Value.int .i64 n1], wants_none rfl, Fg.run_call rfl rfl (by simp only [List.map_toArray, List.map_cons, List.map_nil, Act.eval, e20]) (Fg.run_enter Try.func54 (by kernel_rfl) (by kernel_rfl)), ?_⟩
        exact (number_out (n1 : Int) w).mono fun _ _ ⟨_, _, he, hg, hb⟩ => ⟨_, he, hg, _, _, _, rfl, hb⟩
      refine ⟨Fg.vT rfl (by decide) fun ac w h => ?_, ?_⟩
      · have e1 : ac.tmps.getD 1 undef = Value.pointer (some ⟨N, 0, none⟩) := h.rest 1 (by kernel_rfl)
        refine ⟨Value.pointer (some ⟨N, 0, none⟩), w, wants_none rfl, ?_, gb_refl _ _, rfl⟩
        clear h
        simp only [execOp, Act.eval, e1]
        go_simp
      refine ⟨Fg.vT rfl (by decide) fun ac w h => ?_, ?_⟩
      · have e22 : ac.tmps.getD 22 undef = Value.pointer (some ⟨N, 0, none⟩) := h.dep 22 (by kernel_rfl)
        refine ⟨Value.pointer (some ⟨N, 3, none⟩), w, wants_none rfl, ?_, gb_refl _ _, rfl⟩
        clear h
        simp only [execOp, Act.eval, e22]
        go_simp
      refine ⟨Fg.vT rfl (by decide) fun ac w h => ?_, ?_⟩
      · have e23 : ac.tmps.getD 23 undef = Value.pointer (some ⟨N, 3, none⟩) := h.dep 23 (by kernel_rfl)
        have c := (HG0.out.2.grown h.base (by simp)).cell (i := 3) rfl
        refine ⟨Value.slice a1 n1 c1, w, wants_none rfl, ?_, gb_refl _ _, rfl⟩
        clear h
        simp only [execOp, Act.eval, e23]
        go_simp
      refine ⟨Fg.cT rfl (by decide) fun ac w h => ?_, ?_⟩
      · have e24 : ac.tmps.getD 24 undef = Value.slice a1 n1 c1 := h.dep 24 (by kernel_rfl)
        refine ⟨53, #[Value.slice a1 n1 c1], wants_none rfl, Fg.run_call rfl rfl (by simp only [List.map_toArray, List.map_cons, List.map_nil, Act.eval, e24]) (Fg.run_enter Try.func53 (by kernel_rfl) (by kernel_rfl)), ?_⟩
        exact (dots_out n1 c1 B cx a1 w HD.out.2.1 (HD.out.1.stay (gb_trans HG0.out.1 h.base)) HD.out.2.2).mono fun _ _ ⟨_, _, he, hg, hb⟩ => ⟨_, he, hg, _, _, _, rfl, hb⟩
      refine ⟨Fg.vT rfl (by decide) fun ac w h => ?_, ?_⟩
      · have e3 : ac.tmps.getD 3 undef = Value.int .u8 (goneN gl : Nat) := (h.rest 3 (by kernel_rfl)).trans (by rw [hgl]; rfl)
        exact ⟨_, w, wants_none rfl, Fg.run_move rfl e3, gb_refl _ _, rfl⟩
      refine ⟨Fg.vT rfl (by decide) fun ac w h => ?_, ?_⟩
      · have e26 : ac.tmps.getD 26 undef = Value.int .u8 (goneN gl : Nat) := h.dep 26 (by kernel_rfl)
        refine ⟨.slice (some ⟨w.heap.size, 0, none⟩) 1 1, w.alloc (.cells #[.int .u8 (goneN gl : Nat)] 5), wants_none rfl, ?_, gb_alloc (gb_refl _ _) _, ⟨_, 1, _, rfl, bytes_box [goneN gl] (goneN_byte gl) (by simp)⟩⟩
        clear h
        simp only [execOp, Act.eval, e26, List.map_toArray, List.map_cons, List.map_nil]
        go_simp
      refine ⟨Fg.vT rfl (by decide) fun ac w h => ?_, ?_⟩
      · have e1 : ac.tmps.getD 1 undef = Value.pointer (some ⟨N, 0, none⟩) := h.rest 1 (by kernel_rfl)
        refine ⟨Value.pointer (some ⟨N, 0, none⟩), w, wants_none rfl, ?_, gb_refl _ _, rfl⟩
        clear h
        simp only [execOp, Act.eval, e1]
        go_simp
      refine ⟨Fg.vT rfl (by decide) fun ac w h => ?_, ?_⟩
      · have e28 : ac.tmps.getD 28 undef = Value.pointer (some ⟨N, 0, none⟩) := h.dep 28 (by kernel_rfl)
        refine ⟨Value.pointer (some ⟨N, 5, none⟩), w, wants_none rfl, ?_, gb_refl _ _, rfl⟩
        clear h
        simp only [execOp, Act.eval, e28]
        go_simp
      refine ⟨Fg.vT rfl (by decide) fun ac w h => ?_, ?_⟩
      · have e29 : ac.tmps.getD 29 undef = Value.pointer (some ⟨N, 5, none⟩) := h.dep 29 (by kernel_rfl)
        have c := (HG0.out.2.grown h.base (by simp)).cell (i := 5) rfl
        refine ⟨Value.slice a2 n2 c2, w, wants_none rfl, ?_, gb_refl _ _, rfl⟩
        clear h
        simp only [execOp, Act.eval, e29]
        go_simp
      refine ⟨Fg.cT rfl (by decide) fun ac w h => ?_, ?_⟩
      · have e30 : ac.tmps.getD 30 undef = Value.slice a2 n2 c2 := h.dep 30 (by kernel_rfl)
        refine ⟨52, #[Value.slice a2 n2 c2], wants_none rfl, Fg.run_call rfl rfl (by simp only [List.map_toArray, List.map_cons, List.map_nil, Act.eval, e30]) (Fg.run_enter Try.func52 (by kernel_rfl) (by kernel_rfl)), ?_⟩
        exact (bytes_out n2 val a2 c2 B w HV.out.2.1 (HV.out.1.stay (gb_trans HG0.out.1 h.base)) (by have := HV.out.2.2; omega)).mono fun _ _ ⟨_, _, he, hg, hb⟩ => ⟨_, he, hg, _, _, _, rfl, hb⟩
      refine ⟨Fg.vT rfl (by decide) fun ac w h => ?_, ?_⟩
      · obtain ⟨a7, k7, B7, e7, b7⟩ : ∃ x c B, ac.tmps.getD 7 undef = .slice x [1].length c ∧ BytesAt w B x c [1] := h.dep 7 (by kernel_rfl)
        obtain ⟨a12, k12, B12, e12, b12⟩ : ∃ x c B, ac.tmps.getD 12 undef = .slice x (rowL (strL s)).length c ∧ BytesAt w B x c (rowL (strL s)) := h.dep 12 (by kernel_rfl)
        obtain ⟨a16, k16, B16, e16, b16⟩ : ∃ x c B, ac.tmps.getD 16 undef = .slice x (dotsL [(cl, sq)]).length c ∧ BytesAt w B x c (dotsL [(cl, sq)]) := h.dep 16 (by kernel_rfl)
        obtain ⟨a21, k21, B21, e21, b21⟩ : ∃ x c B, ac.tmps.getD 21 undef = .slice x (encN (n1 : Int)).length c ∧ BytesAt w B x c (encN (n1 : Int)) := h.dep 21 (by kernel_rfl)
        obtain ⟨a25, k25, B25, e25, b25⟩ : ∃ x c B, ac.tmps.getD 25 undef = .slice x (dotsL cx).length c ∧ BytesAt w B x c (dotsL cx) := h.dep 25 (by kernel_rfl)
        obtain ⟨a27, k27, B27, e27, b27⟩ : ∃ x c B, ac.tmps.getD 27 undef = .slice x [goneN gl].length c ∧ BytesAt w B x c [goneN gl] := h.dep 27 (by kernel_rfl)
        obtain ⟨a31, k31, B31, e31, b31⟩ : ∃ x c B, ac.tmps.getD 31 undef = .slice x (rowL val).length c ∧ BytesAt w B x c (rowL val) := h.dep 31 (by kernel_rfl)
        refine ⟨.slice (some ⟨w.heap.size, 0, none⟩) 7 7, w.alloc (.cells #[.slice a7 [1].length k7, .slice a12 (rowL (strL s)).length k12, .slice a16 (dotsL [(cl, sq)]).length k16, .slice a21 (encN (n1 : Int)).length k21, .slice a25 (dotsL cx).length k25, .slice a27 [goneN gl].length k27, .slice a31 (rowL val).length k31] 22), wants_none rfl, ?_, gb_alloc (gb_refl _ _) _, ⟨_, 7, _, rfl, rows_box _ [(a7, k7, [1]), (a12, k12, rowL (strL s)), (a16, k16, dotsL [(cl, sq)]), (a21, k21, encN (n1 : Int)), (a25, k25, dotsL cx), (a27, k27, [goneN gl]), (a31, k31, rowL val)] (fun p hp => by
            simp only [List.mem_cons, List.not_mem_nil, or_false] at hp
            rcases hp with rfl | rfl | rfl | rfl | rfl | rfl | rfl
            · exact ⟨_, b7⟩
            · exact ⟨_, b12⟩
            · exact ⟨_, b16⟩
            · exact ⟨_, b21⟩
            · exact ⟨_, b25⟩
            · exact ⟨_, b27⟩
            · exact ⟨_, b31⟩)⟩⟩
        clear h
        simp only [execOp, Act.eval, e7, e12, e16, e21, e25, e27, e31, List.map_toArray, List.map_cons, List.map_nil]
        go_simp
      refine ⟨Fg.cT rfl (by decide) fun ac w h => ?_, ?_⟩
      · obtain ⟨a32, k32, B32, e32, b32⟩ : ∃ x c B, ac.tmps.getD 32 undef = .slice x [[1], rowL (strL s), dotsL [(cl, sq)], encN (n1 : Int), dotsL cx, [goneN gl], rowL val].length c ∧ RowsAt w B x [[1], rowL (strL s), dotsL [(cl, sq)], encN (n1 : Int), dotsL cx, [goneN gl], rowL val] := h.dep 32 (by kernel_rfl)
        refine ⟨49, #[Value.slice a32 [[1], rowL (strL s), dotsL [(cl, sq)], encN (n1 : Int), dotsL cx, [goneN gl], rowL val].length k32], wants_none rfl, Fg.run_call rfl rfl (by simp only [List.map_toArray, List.map_cons, List.map_nil, Act.eval, e32]) (Fg.run_enter Try.func49 (by kernel_rfl) (by kernel_rfl)), ?_⟩
        exact (join_out 7 [[1], rowL (strL s), dotsL [(cl, sq)], encN (n1 : Int), dotsL cx, [goneN gl], rowL val] a32 k32 B32 w rfl b32 (by simp) HT.out.2.1 HT.out.2.2).mono fun _ _ ⟨_, _, he, hg, hb⟩ => ⟨_, he, hg, _, _, _, rfl, hb⟩
      refine ⟨Fg.vT rfl (by decide) fun ac w h => ?_, ?_⟩
      · obtain ⟨a33, k33, B33, e33, b33⟩ : ∃ x c B, ac.tmps.getD 33 undef = .slice x [[1], rowL (strL s), dotsL [(cl, sq)], encN (n1 : Int), dotsL cx, [goneN gl], rowL val].flatten.length c ∧ BytesAt w B x c [[1], rowL (strL s), dotsL [(cl, sq)], encN (n1 : Int), dotsL cx, [goneN gl], rowL val].flatten := h.dep 33 (by kernel_rfl)
        exact ⟨_, w, wants_none rfl, Fg.run_assign rfl e33, gb_refl _ _, ⟨_, _, _, rfl, b33⟩⟩
      trivial
    · intro aq wq hB hsz hdf hrest hslots hpt
      obtain ⟨u0, e0⟩ : ∃ u, aq.tmps.getD 0 undef = u := ⟨_, rfl⟩
      obtain ⟨a2, k2, B2, e2, b2⟩ : ∃ x c B, aq.tmps.getD 2 undef = .slice x [[1], rowL (strL s), dotsL [(cl, sq)], encN (n1 : Int), dotsL cx, [goneN gl], rowL val].flatten.length c ∧ BytesAt wq B x c [[1], rowL (strL s), dotsL [(cl, sq)], encN (n1 : Int), dotsL cx, [goneN gl], rowL val].flatten := hslots 2 (by kernel_rfl)
      obtain ⟨u3, e3⟩ : ∃ u, aq.tmps.getD 3 undef = u := ⟨_, rfl⟩
      obtain ⟨u6, e6⟩ : ∃ u, aq.tmps.getD 6 undef = u := ⟨_, rfl⟩
      obtain ⟨u7, e7⟩ : ∃ u, aq.tmps.getD 7 undef = u := ⟨_, rfl⟩
      obtain ⟨u8, e8⟩ : ∃ u, aq.tmps.getD 8 undef = u := ⟨_, rfl⟩
      obtain ⟨u9, e9⟩ : ∃ u, aq.tmps.getD 9 undef = u := ⟨_, rfl⟩
      obtain ⟨u10, e10⟩ : ∃ u, aq.tmps.getD 10 undef = u := ⟨_, rfl⟩
      obtain ⟨u11, e11⟩ : ∃ u, aq.tmps.getD 11 undef = u := ⟨_, rfl⟩
      obtain ⟨u12, e12⟩ : ∃ u, aq.tmps.getD 12 undef = u := ⟨_, rfl⟩
      obtain ⟨u13, e13⟩ : ∃ u, aq.tmps.getD 13 undef = u := ⟨_, rfl⟩
      obtain ⟨u14, e14⟩ : ∃ u, aq.tmps.getD 14 undef = u := ⟨_, rfl⟩
      obtain ⟨u15, e15⟩ : ∃ u, aq.tmps.getD 15 undef = u := ⟨_, rfl⟩
      obtain ⟨u16, e16⟩ : ∃ u, aq.tmps.getD 16 undef = u := ⟨_, rfl⟩
      obtain ⟨u17, e17⟩ : ∃ u, aq.tmps.getD 17 undef = u := ⟨_, rfl⟩
      obtain ⟨u18, e18⟩ : ∃ u, aq.tmps.getD 18 undef = u := ⟨_, rfl⟩
      obtain ⟨u19, e19⟩ : ∃ u, aq.tmps.getD 19 undef = u := ⟨_, rfl⟩
      obtain ⟨u20, e20⟩ : ∃ u, aq.tmps.getD 20 undef = u := ⟨_, rfl⟩
      obtain ⟨u21, e21⟩ : ∃ u, aq.tmps.getD 21 undef = u := ⟨_, rfl⟩
      obtain ⟨u22, e22⟩ : ∃ u, aq.tmps.getD 22 undef = u := ⟨_, rfl⟩
      obtain ⟨u23, e23⟩ : ∃ u, aq.tmps.getD 23 undef = u := ⟨_, rfl⟩
      obtain ⟨u24, e24⟩ : ∃ u, aq.tmps.getD 24 undef = u := ⟨_, rfl⟩
      obtain ⟨u25, e25⟩ : ∃ u, aq.tmps.getD 25 undef = u := ⟨_, rfl⟩
      obtain ⟨u26, e26⟩ : ∃ u, aq.tmps.getD 26 undef = u := ⟨_, rfl⟩
      obtain ⟨u27, e27⟩ : ∃ u, aq.tmps.getD 27 undef = u := ⟨_, rfl⟩
      obtain ⟨u28, e28⟩ : ∃ u, aq.tmps.getD 28 undef = u := ⟨_, rfl⟩
      obtain ⟨u29, e29⟩ : ∃ u, aq.tmps.getD 29 undef = u := ⟨_, rfl⟩
      obtain ⟨u30, e30⟩ : ∃ u, aq.tmps.getD 30 undef = u := ⟨_, rfl⟩
      obtain ⟨u31, e31⟩ : ∃ u, aq.tmps.getD 31 undef = u := ⟨_, rfl⟩
      obtain ⟨u32, e32⟩ : ∃ u, aq.tmps.getD 32 undef = u := ⟨_, rfl⟩
      obtain ⟨u33, e33⟩ : ∃ u, aq.tmps.getD 33 undef = u := ⟨_, rfl⟩
      obtain rfl := Fg.frame_is (a := aq) (vs := [u0, Value.pointer (some ⟨N, 0, none⟩), Value.slice a2 [[1], rowL (strL s), dotsL [(cl, sq)], encN (n1 : Int), dotsL cx, [goneN gl], rowL val].flatten.length k2, u3, Value.pointer (some ⟨N, 0, none⟩), Value.pointer (some ⟨N, 4, none⟩), u6, u7, u8, u9, u10, u11, u12, u13, u14, u15, u16, u17, u18, u19, u20, u21, u22, u23, u24, u25, u26, u27, u28, u29, u30, u31, u32, u33]) hsz ⟨e0, hrest 1 (by kernel_rfl), e2, e3, hrest 4 (by kernel_rfl), hrest 5 (by kernel_rfl), e6, e7, e8, e9, e10, e11, e12, e13, e14, e15, e16, e17, e18, e19, e20, e21, e22, e23, e24, e25, e26, e27, e28, e29, e30, e31, e32, e33, trivial⟩ hdf
      clear hsz hdf hrest hslots hpt e0 e2 e3 e6 e7 e8 e9 e10 e11 e12 e13 e14 e15 e16 e17 e18 e19 e20 e21 e22 e23 e24 e25 e26 e27 e28 e29 e30 e31 e32 e33
      have HR : Hid (Q (.returned (.slice a2 [[1], rowL (strL s), dotsL [(cl, sq)], encN (n1 : Int), dotsL cx, [goneN gl], rowL val].flatten.length k2)) wq) := by rw [HQ.out]; exact ⟨_, _, rfl, gb_trans HG0.out.1 hB, b2.up b2.lim (Nat.le_refl _)⟩
      clear b2 hB
      refine wpList_nil ?_
      go_wp2
      exact HR.out
end Rc
end Go.Proofs.Ytohcoihdijemfaa
