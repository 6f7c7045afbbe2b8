/- texts merged, part 3: XRcRefText XRcRefPut XRcRefOver XRcOver XRcAwake XRcInfo XVeRow XVeApp XStep XRcOwnM XLent XVeLent XRcLent XSame XVeSame XRcSame XKept XVeKept XRcKept XVeArg0 XRcArg -/
import Derived.Test.YtohcoihdijemfaaGreatTlB2
import Derived.Lib.SlBytesConst
import Derived.Laws.IdiomStrings
import Derived.Test.YtohcoihdijemfaaGreatTlB1
import Derived.Laws.IdiomCopy
import Derived.Lib.AppendZerosOnto
import Derived.Lib.AppendZeros
import Derived.Deep.RegionLaw
import Derived.Laws.ResultCell
import Derived.BigQuiet
import Derived.Deep.QuietTactic
import Derived.BigGuardPart
import Derived.Laws.MakeOwn
import Derived.WalkKit
import Derived.Lib.Hide
import Derived.WalkSpells
import Derived.WalkLawsBesides
import Derived.Outline
import Derived.Deep.RegionHeld3
import Derived.Test.YtohcoihdijemfaaGreatChecked
import Derived.ProofKit
import Derived.OpenShut
import Derived.Deep.SlicePairs
import Derived.Deep.Slices
import Derived.Lib.SmallJoins
import Derived.SizedLaws
import Derived.ChangeArms
/- The document's Text (buttressref08). (Printed by gen_rcreftext.py.) -/
namespace Go.Proofs.YtohcoihdijemfaaGreat
open Go.RowKit Ow Wi Ve
namespace Rc
theorem dots_next (l : List D) (k : Nat) (h : k < l.length) {x y : Int} (e : l.getD k z0 = (x, y)) : dotsL (l.take (k + 1)) = dotsL (l.take k) ++ (encN x ++ encN y) := by
  rw [List.take_succ_eq_append_getElem h]
  have e2 : l[k] = (x, y) := by rw [← e, List.getD_eq_getElem?_getD, List.getElem?_eq_getElem h]; rfl
  rw [e2]
  simp [dotsL, dotL]
theorem nil_at {w : World} {B : Nat} (h : B ≤ w.heap.size) : BytesAt w B none 0 [] := ⟨h, Nat.le_refl _, by decide, fun i => by simp, Or.inl rfl⟩
set_option maxHeartbeats 8000000 in
set_option maxRecDepth 100000 in
theorem refText_any (r : R) (B : Nat) (w : World) (q : L) (h : RAt w B q r) : Calls Tryz.prog 38 #[q.v r] w (YOut w (textO r)) := by
  have HS := Lib.hid (fun w' (hg : w.grownBy w' none) => refShape_any (shapeB r) r B w' q (h.stay hg) rfl)
  obtain ⟨Q, hQ⟩ : ∃ Q, Q = YOut w (textO r) := ⟨_, rfl⟩
  rw [← hQ]
  unfold textO at hQ
  cases hb : shapeB r with
  | false =>
    rw [hb] at HS hQ
    have HQ : Hid (∀ w', w.grownBy w' none → Q (.returned (.slice none 0 0)) w') := fun w' hg => by rw [hQ]; exact bout_nil w w' hg
    clear hQ hb h
    obtain ⟨s, a1, n1, c1, a2, n2, c2, ay, ny, cy⟩ := q
    obtain ⟨key, cl, sq, cx, g, val, sig⟩ := r
    replace HS : Hid (∀ w' (_ : w.grownBy w' none), Calls Tryz.prog 61 #[vV s cl sq a1 n1 c1 g a2 n2 c2 ay ny cy] w' fun e w'' => e = .returned (.bool false) ∧ w'.grownBy w'' none) := HS
    show Calls _ _ #[vV s cl sq a1 n1 c1 g a2 n2 c2 ay ny cy] w _
    go_enter Tryz.func38, Tryz.ntmps38
    go_wp2_with fail
    refine (HS.out _ (gb_alloc (gb_refl _ _) _)).mono ?_
    rintro e w1 ⟨rfl, hg⟩
    have HG := Lib.hid (gb_trans (gb_alloc (gb_refl _ _) _) hg); clear hg
    go_wp2
    exact HQ.out _ HG.out
  | true =>
    rw [hb, if_pos rfl] at hQ
    rw [hb] at HS
    obtain ⟨_, h2, _, h4, h5, _⟩ := shape_of hb
    have hcx : (r.cx.length : Int) ≤ 8 := by have := h4.len (by decide); omega
    have hk := h.keyLen
    clear hb h4
    obtain ⟨s, a1, n1, c1, a2, n2, c2, ay, ny, cy⟩ := q
    obtain ⟨key, cl, sq, cx, g, val, sig⟩ := r
    have hs : strL s = key := h.str
    subst hs
    have l1 : cx.length = n1 := h.l1
    have l2 : val.length = n2 := h.l2
    simp only at h2 h5 hk hcx
    rw [hk] at h2
    have HK : Hid (s.size ≤ 64) := h2
    have HD : Hid (DotsAt w B a1 cx ∧ cx.length = n1 ∧ n1 ≤ 8) := ⟨h.dots, l1, by omega⟩
    have HV : Hid (BytesAt w B a2 c2 val ∧ val.length = n2 ∧ val.length ≤ 1024) := ⟨h.val, l2, h5⟩
    have HT : Hid (([[1], rowL (strL s), encN cl, encN sq, encN (n1 : Int)]).flatten.length ≤ 1000000 ∧ (∀ l ∈ [[1], rowL (strL s), encN cl, encN sq, encN (n1 : Int)], ∀ i, l.getD i 0 < 256) ∧ ([[1], rowL (strL s), encN cl, encN sq, encN (n1 : Int)]).flatten.length ≤ 200) := by
      have hle : ([[1], rowL (strL s), encN cl, encN sq, encN (n1 : Int)]).flatten.length ≤ 200 := by
        simp only [List.flatten_cons, List.flatten_nil, List.length_append, List.length_cons, List.length_nil, rowL_len, encN_length, strL_len]
        omega
      refine ⟨by omega, fun l hl => ?_, hle⟩
      simp only [List.mem_cons, List.not_mem_nil, or_false] at hl
      rcases hl with rfl | rfl | rfl | rfl | rfl
      · intro i; rcases i with _ | i <;> simp
      · exact rowL_byte (strL_byte s)
      · exact encN_byte _
      · exact encN_byte _
      · exact encN_byte _
    have HF : Hid (∀ gl, gl = g → [([[1], rowL (strL s), encN cl, encN sq, encN (n1 : Int)]).flatten ++ dotsL cx, [goneN gl], rowL val].flatten = textL ⟨strL s, cl, sq, cx, g, val, sig⟩) := fun gl e => by
      rw [e, ← l1]; simp [textL, dotL, R.dot]
    have HQ := Lib.hid hQ; clear hQ
    clear h l1 l2 h2 h5 hk hcx
    replace HS : Hid (∀ w' (_ : w.grownBy w' none), Calls Tryz.prog 61 #[vV s cl sq a1 n1 c1 g a2 n2 c2 ay ny cy] w' fun e w'' => e = .returned (.bool true) ∧ w'.grownBy w'' none) := HS
    show Calls _ _ #[vV s cl sq a1 n1 c1 g a2 n2 c2 ay ny cy] w _
    obtain ⟨N, hN⟩ : ∃ N, N = w.heap.size := ⟨_, rfl⟩
    obtain ⟨W0, hW0⟩ : ∃ W0, W0 = w.alloc (.cells #[.string s, iV cl, iV sq, .slice a1 n1 c1, .bool g, .slice a2 n2 c2, .slice ay ny cy] 50) := ⟨_, rfl⟩
    have hG0 : w.grownBy W0 none := by rw [hW0]; exact gb_alloc (gb_refl _ _) _
    have hB0 : Blk W0 N 50 [.string s, iV cl, iV sq, .slice a1 n1 c1, .bool g, .slice a2 n2 c2, .slice ay ny cy] := by rw [hW0, hN]; exact Blk.new _ _ _
    have HGa := Lib.hid (And.intro hG0 hB0); clear hG0 hB0
    go_enter Tryz.func38, Tryz.ntmps38
    go_wp2_with fail
    rw [← hW0, ← hN]
    clear hW0 hN
    refine (HS.out W0 HGa.out.1).mono ?_
    rintro e w1 ⟨rfl, hg⟩
    have HG0 := Lib.hid (And.intro (gb_trans HGa.out.1 hg) (HGa.out.2.grown hg (by simp))); clear hg HGa
    go_wp2_with fail
    refine Fg.region_t [] [.any, .any, .any, Fg.It.by [[1], rowL (strL s), encN cl, encN sq, encN (n1 : Int)].flatten, .any, .any, .any, .any, .any, Fg.It.by [1], .val (Value.pointer (some ⟨N, 0, none⟩)), .val (Value.string s), Fg.It.by (strL s), Fg.It.by (rowL (strL s)), .val (Value.pointer (some ⟨N, 1, none⟩)), .val (Value.int .i64 cl), Fg.It.by (encN cl), .val (Value.pointer (some ⟨N, 2, none⟩)), .val (Value.int .i64 sq), Fg.It.by (encN sq), .val (Value.pointer (some ⟨N, 3, none⟩)), .val (Value.slice a1 n1 c1), .val (Value.int .i64 n1), Fg.It.by (encN (n1 : Int)), Fg.It.rws [[1], rowL (strL s), encN cl, encN sq, encN (n1 : Int)], Fg.It.by [[1], rowL (strL s), encN cl, encN sq, encN (n1 : Int)].flatten] w1 18 (gb_refl _ _) (by kernel_rfl) (by kernel_rfl) (by kernel_rfl) (by kernel_rfl) (by decide) (by kernel_rfl) ?_ ?_
    · refine ⟨Fg.vT rfl (by decide) fun ac w h => ?_, ?_⟩
      · refine ⟨.slice (some ⟨w.heap.size, 0, none⟩) 1 1, w.alloc (.cells #[.int .u8 1] 5), wants_none rfl, ?_, gb_alloc (gb_refl _ _) _, ⟨_, 1, _, rfl, bytes_box [1] (fun i => by rcases i with _ | i <;> simp) (by decide)⟩⟩
        clear h
        simp only [execOp, Act.eval, List.map_toArray, List.map_cons, List.map_nil]
        go_simp
      refine ⟨Fg.vT rfl (by decide) fun ac w h => ?_, ?_⟩
      · have e1 : ac.tmps.getD 1 undef = Value.pointer (some ⟨N, 0, none⟩) := h.rest 1 (by kernel_rfl)
        refine ⟨Value.pointer (some ⟨N, 0, none⟩), w, wants_none rfl, ?_, gb_refl _ _, rfl⟩
        clear h
        simp only [execOp, Act.eval, e1]
        go_simp
      refine ⟨Fg.vT rfl (by decide) fun ac w h => ?_, ?_⟩
      · have e10 : ac.tmps.getD 10 undef = Value.pointer (some ⟨N, 0, none⟩) := h.dep 10 (by kernel_rfl)
        have c := (HG0.out.2.grown h.base (by simp)).cell (i := 0) rfl
        refine ⟨Value.string s, w, wants_none rfl, ?_, gb_refl _ _, rfl⟩
        clear h
        simp only [execOp, Act.eval, e10]
        go_simp
      refine ⟨Fg.vT rfl (by decide) fun ac w h => ?_, ?_⟩
      · have e11 : ac.tmps.getD 11 undef = Value.string s := h.dep 11 (by kernel_rfl)
        obtain ⟨c11, w11, hr11, hg11, hb11⟩ := str_bytes s w (by have := HK.out; omega)
        refine ⟨.slice (some ⟨w.heap.size, 0, none⟩) s.size c11, w11, wants_none rfl, ?_, hg11, ⟨_, _, _, by rw [strL_len], hb11⟩⟩
        clear h hb11 hg11
        simp only [execOp, Act.eval, e11]
        simp [hr11, Result.andThen]
      refine ⟨Fg.cT rfl (by decide) fun ac w h => ?_, ?_⟩
      · obtain ⟨a12, k12, B12, e12, b12⟩ : ∃ xa xc xB, ac.tmps.getD 12 undef = .slice xa (strL s).length xc ∧ BytesAt w xB xa xc (strL s) := h.dep 12 (by kernel_rfl)
        refine ⟨15, #[Value.slice a12 (strL s).length k12], wants_none rfl, Fg.run_call rfl rfl (by simp only [List.map_toArray, List.map_cons, List.map_nil, Act.eval, e12]) (Fg.run_enter Tryz.func15 (by kernel_rfl) (by kernel_rfl)), ?_⟩
        exact (refBytes_out _ (strL s) a12 k12 B12 w rfl b12 (by rw [strL_len]; have := HK.out; omega)).mono fun _ _ ⟨_, _, he, hg, hb⟩ => ⟨_, he, hg, _, _, _, rfl, hb⟩
      refine ⟨Fg.vT rfl (by decide) fun ac w h => ?_, ?_⟩
      · have e1 : ac.tmps.getD 1 undef = Value.pointer (some ⟨N, 0, none⟩) := h.rest 1 (by kernel_rfl)
        refine ⟨Value.pointer (some ⟨N, 1, none⟩), w, wants_none rfl, ?_, gb_refl _ _, rfl⟩
        clear h
        simp only [execOp, Act.eval, e1]
        go_simp
      refine ⟨Fg.vT rfl (by decide) fun ac w h => ?_, ?_⟩
      · have e14 : ac.tmps.getD 14 undef = Value.pointer (some ⟨N, 1, none⟩) := h.dep 14 (by kernel_rfl)
        have c := (HG0.out.2.grown h.base (by simp)).cell (i := 1) rfl
        refine ⟨Value.int .i64 cl, w, wants_none rfl, ?_, gb_refl _ _, rfl⟩
        clear h
        simp only [execOp, Act.eval, e14]
        go_simp
      refine ⟨Fg.cT rfl (by decide) fun ac w h => ?_, ?_⟩
      · have e15 : ac.tmps.getD 15 undef = Value.int .i64 cl := h.dep 15 (by kernel_rfl)
        refine ⟨12, #[Value.int .i64 cl], wants_none rfl, Fg.run_call rfl rfl (by simp only [List.map_toArray, List.map_cons, List.map_nil, Act.eval, e15]) (Fg.run_enter Tryz.func12 (by kernel_rfl) (by kernel_rfl)), ?_⟩
        exact (refNumber_out cl w).mono fun _ _ ⟨_, _, he, hg, hb⟩ => ⟨_, he, hg, _, _, _, rfl, hb⟩
      refine ⟨Fg.vT rfl (by decide) fun ac w h => ?_, ?_⟩
      · have e1 : ac.tmps.getD 1 undef = Value.pointer (some ⟨N, 0, none⟩) := h.rest 1 (by kernel_rfl)
        refine ⟨Value.pointer (some ⟨N, 2, none⟩), w, wants_none rfl, ?_, gb_refl _ _, rfl⟩
        clear h
        simp only [execOp, Act.eval, e1]
        go_simp
      refine ⟨Fg.vT rfl (by decide) fun ac w h => ?_, ?_⟩
      · have e17 : ac.tmps.getD 17 undef = Value.pointer (some ⟨N, 2, none⟩) := h.dep 17 (by kernel_rfl)
        have c := (HG0.out.2.grown h.base (by simp)).cell (i := 2) rfl
        refine ⟨Value.int .i64 sq, w, wants_none rfl, ?_, gb_refl _ _, rfl⟩
        clear h
        simp only [execOp, Act.eval, e17]
        go_simp
      refine ⟨Fg.cT rfl (by decide) fun ac w h => ?_, ?_⟩
      · have e18 : ac.tmps.getD 18 undef = Value.int .i64 sq := h.dep 18 (by kernel_rfl)
        refine ⟨12, #[Value.int .i64 sq], wants_none rfl, Fg.run_call rfl rfl (by simp only [List.map_toArray, List.map_cons, List.map_nil, Act.eval, e18]) (Fg.run_enter Tryz.func12 (by kernel_rfl) (by kernel_rfl)), ?_⟩
        exact (refNumber_out sq w).mono fun _ _ ⟨_, _, he, hg, hb⟩ => ⟨_, he, hg, _, _, _, rfl, hb⟩
      refine ⟨Fg.vT rfl (by decide) fun ac w h => ?_, ?_⟩
      · have e1 : ac.tmps.getD 1 undef = Value.pointer (some ⟨N, 0, none⟩) := h.rest 1 (by kernel_rfl)
        refine ⟨Value.pointer (some ⟨N, 3, none⟩), w, wants_none rfl, ?_, gb_refl _ _, rfl⟩
        clear h
        simp only [execOp, Act.eval, e1]
        go_simp
      refine ⟨Fg.vT rfl (by decide) fun ac w h => ?_, ?_⟩
      · have e20 : ac.tmps.getD 20 undef = Value.pointer (some ⟨N, 3, none⟩) := h.dep 20 (by kernel_rfl)
        have c := (HG0.out.2.grown h.base (by simp)).cell (i := 3) rfl
        refine ⟨Value.slice a1 n1 c1, w, wants_none rfl, ?_, gb_refl _ _, rfl⟩
        clear h
        simp only [execOp, Act.eval, e20]
        go_simp
      refine ⟨Fg.vT rfl (by decide) fun ac w h => ?_, ?_⟩
      · have e21 : ac.tmps.getD 21 undef = Value.slice a1 n1 c1 := h.dep 21 (by kernel_rfl)
        have x21 : ac.tmps[21]?.getD undef = Value.slice a1 n1 c1 := by simpa using e21
        refine ⟨.int .i64 n1, w, wants_none rfl, ?_, gb_refl _ _, rfl⟩
        clear h e21
        go_simp
      refine ⟨Fg.cT rfl (by decide) fun ac w h => ?_, ?_⟩
      · have e22 : ac.tmps.getD 22 undef = Value.int .i64 n1 := h.dep 22 (by kernel_rfl)
        refine ⟨12, #[Value.int .i64 n1], wants_none rfl, Fg.run_call rfl rfl (by simp only [List.map_toArray, List.map_cons, List.map_nil, Act.eval, e22]) (Fg.run_enter Tryz.func12 (by kernel_rfl) (by kernel_rfl)), ?_⟩
        exact (refNumber_out (n1 : Int) w).mono fun _ _ ⟨_, _, he, hg, hb⟩ => ⟨_, he, hg, _, _, _, rfl, hb⟩
      refine ⟨Fg.vT rfl (by decide) fun ac w h => ?_, ?_⟩
      · obtain ⟨a9, k9, B9, e9, b9⟩ : ∃ xa xc xB, ac.tmps.getD 9 undef = .slice xa [1].length xc ∧ BytesAt w xB xa xc [1] := h.dep 9 (by kernel_rfl)
        obtain ⟨a13, k13, B13, e13, b13⟩ : ∃ xa xc xB, ac.tmps.getD 13 undef = .slice xa (rowL (strL s)).length xc ∧ BytesAt w xB xa xc (rowL (strL s)) := h.dep 13 (by kernel_rfl)
        obtain ⟨a16, k16, B16, e16, b16⟩ : ∃ xa xc xB, ac.tmps.getD 16 undef = .slice xa (encN cl).length xc ∧ BytesAt w xB xa xc (encN cl) := h.dep 16 (by kernel_rfl)
        obtain ⟨a19, k19, B19, e19, b19⟩ : ∃ xa xc xB, ac.tmps.getD 19 undef = .slice xa (encN sq).length xc ∧ BytesAt w xB xa xc (encN sq) := h.dep 19 (by kernel_rfl)
        obtain ⟨a23, k23, B23, e23, b23⟩ : ∃ xa xc xB, ac.tmps.getD 23 undef = .slice xa (encN (n1 : Int)).length xc ∧ BytesAt w xB xa xc (encN (n1 : Int)) := h.dep 23 (by kernel_rfl)
        refine ⟨.slice (some ⟨w.heap.size, 0, none⟩) 5 5, w.alloc (.cells #[.slice a9 [1].length k9, .slice a13 (rowL (strL s)).length k13, .slice a16 (encN cl).length k16, .slice a19 (encN sq).length k19, .slice a23 (encN (n1 : Int)).length k23] 23), wants_none rfl, ?_, gb_alloc (gb_refl _ _) _, ⟨_, 5, _, rfl, rows_box _ [(a9, k9, [1]), (a13, k13, rowL (strL s)), (a16, k16, encN cl), (a19, k19, encN sq), (a23, k23, encN (n1 : Int))] (fun p hp => by
            simp only [List.mem_cons, List.not_mem_nil, or_false] at hp
            rcases hp with rfl | rfl | rfl | rfl | rfl
            · exact ⟨_, b9⟩
            · exact ⟨_, b13⟩
            · exact ⟨_, b16⟩
            · exact ⟨_, b19⟩
            · exact ⟨_, b23⟩)⟩⟩
        clear h
        simp only [execOp, Act.eval, e9, e13, e16, e19, e23, List.map_toArray, List.map_cons, List.map_nil]
        go_simp
      refine ⟨Fg.cT rfl (by decide) fun ac w h => ?_, ?_⟩
      · obtain ⟨a24, k24, B24, e24, b24⟩ : ∃ xa xc xB, ac.tmps.getD 24 undef = .slice xa [[1], rowL (strL s), encN cl, encN sq, encN (n1 : Int)].length xc ∧ RowsAt w xB xa [[1], rowL (strL s), encN cl, encN sq, encN (n1 : Int)] := h.dep 24 (by kernel_rfl)
        refine ⟨13, #[Value.slice a24 [[1], rowL (strL s), encN cl, encN sq, encN (n1 : Int)].length k24], wants_none rfl, Fg.run_call rfl rfl (by simp only [List.map_toArray, List.map_cons, List.map_nil, Act.eval, e24]) (Fg.run_enter Tryz.func13 (by kernel_rfl) (by kernel_rfl)), ?_⟩
        exact (refJoin_out 5 [[1], rowL (strL s), encN cl, encN sq, encN (n1 : Int)] a24 k24 B24 w rfl b24 (by simp) HT.out.1 HT.out.2.1).mono fun _ _ ⟨_, _, he, hg, hb⟩ => ⟨_, he, hg, _, _, _, rfl, hb⟩
      refine ⟨Fg.vT rfl (by decide) fun ac w h => ?_, ?_⟩
      · obtain ⟨a25, k25, B25, e25, b25⟩ : ∃ xa xc xB, ac.tmps.getD 25 undef = .slice xa [[1], rowL (strL s), encN cl, encN sq, encN (n1 : Int)].flatten.length xc ∧ BytesAt w xB xa xc [[1], rowL (strL s), encN cl, encN sq, encN (n1 : Int)].flatten := h.dep 25 (by kernel_rfl)
        exact ⟨_, w, wants_none rfl, Fg.run_assign rfl e25, gb_refl _ _, ⟨_, _, _, rfl, b25⟩⟩
      trivial
    · intro aq wq hB hsz hdf hrest hslots hpt
      obtain ⟨u0, e0⟩ : ∃ u, aq.tmps.getD 0 undef = u := ⟨_, rfl⟩
      obtain ⟨a3, k3, B3, e3, b3⟩ : ∃ xa xc xB, aq.tmps.getD 3 undef = .slice xa [[1], rowL (strL s), encN cl, encN sq, encN (n1 : Int)].flatten.length xc ∧ BytesAt wq xB xa xc [[1], rowL (strL s), encN cl, encN sq, encN (n1 : Int)].flatten := hslots 3 (by kernel_rfl)
      obtain ⟨u4, e4⟩ : ∃ u, aq.tmps.getD 4 undef = u := ⟨_, rfl⟩
      obtain ⟨u5, e5⟩ : ∃ u, aq.tmps.getD 5 undef = u := ⟨_, rfl⟩
      obtain ⟨u6, e6⟩ : ∃ u, aq.tmps.getD 6 undef = u := ⟨_, rfl⟩
      obtain ⟨u7, e7⟩ : ∃ u, aq.tmps.getD 7 undef = u := ⟨_, rfl⟩
      obtain ⟨u8, e8⟩ : ∃ u, aq.tmps.getD 8 undef = u := ⟨_, rfl⟩
      obtain ⟨u9, e9⟩ : ∃ u, aq.tmps.getD 9 undef = u := ⟨_, rfl⟩
      obtain ⟨u10, e10⟩ : ∃ u, aq.tmps.getD 10 undef = u := ⟨_, rfl⟩
      obtain ⟨u11, e11⟩ : ∃ u, aq.tmps.getD 11 undef = u := ⟨_, rfl⟩
      obtain ⟨u12, e12⟩ : ∃ u, aq.tmps.getD 12 undef = u := ⟨_, rfl⟩
      obtain ⟨u13, e13⟩ : ∃ u, aq.tmps.getD 13 undef = u := ⟨_, rfl⟩
      obtain ⟨u14, e14⟩ : ∃ u, aq.tmps.getD 14 undef = u := ⟨_, rfl⟩
      obtain ⟨u15, e15⟩ : ∃ u, aq.tmps.getD 15 undef = u := ⟨_, rfl⟩
      obtain ⟨u16, e16⟩ : ∃ u, aq.tmps.getD 16 undef = u := ⟨_, rfl⟩
      obtain ⟨u17, e17⟩ : ∃ u, aq.tmps.getD 17 undef = u := ⟨_, rfl⟩
      obtain ⟨u18, e18⟩ : ∃ u, aq.tmps.getD 18 undef = u := ⟨_, rfl⟩
      obtain ⟨u19, e19⟩ : ∃ u, aq.tmps.getD 19 undef = u := ⟨_, rfl⟩
      obtain ⟨u20, e20⟩ : ∃ u, aq.tmps.getD 20 undef = u := ⟨_, rfl⟩
      obtain ⟨u21, e21⟩ : ∃ u, aq.tmps.getD 21 undef = u := ⟨_, rfl⟩
      obtain ⟨u22, e22⟩ : ∃ u, aq.tmps.getD 22 undef = u := ⟨_, rfl⟩
      obtain ⟨u23, e23⟩ : ∃ u, aq.tmps.getD 23 undef = u := ⟨_, rfl⟩
      obtain ⟨u24, e24⟩ : ∃ u, aq.tmps.getD 24 undef = u := ⟨_, rfl⟩
      obtain ⟨u25, e25⟩ : ∃ u, aq.tmps.getD 25 undef = u := ⟨_, rfl⟩
      obtain ⟨u26, e26⟩ : ∃ u, aq.tmps.getD 26 undef = u := ⟨_, rfl⟩
      obtain ⟨u27, e27⟩ : ∃ u, aq.tmps.getD 27 undef = u := ⟨_, rfl⟩
      obtain ⟨u28, e28⟩ : ∃ u, aq.tmps.getD 28 undef = u := ⟨_, rfl⟩
      obtain ⟨u29, e29⟩ : ∃ u, aq.tmps.getD 29 undef = u := ⟨_, rfl⟩
      obtain ⟨u30, e30⟩ : ∃ u, aq.tmps.getD 30 undef = u := ⟨_, rfl⟩
      obtain ⟨u31, e31⟩ : ∃ u, aq.tmps.getD 31 undef = u := ⟨_, rfl⟩
      obtain ⟨u32, e32⟩ : ∃ u, aq.tmps.getD 32 undef = u := ⟨_, rfl⟩
      obtain ⟨u33, e33⟩ : ∃ u, aq.tmps.getD 33 undef = u := ⟨_, rfl⟩
      obtain ⟨u34, e34⟩ : ∃ u, aq.tmps.getD 34 undef = u := ⟨_, rfl⟩
      obtain ⟨u35, e35⟩ : ∃ u, aq.tmps.getD 35 undef = u := ⟨_, rfl⟩
      obtain ⟨u36, e36⟩ : ∃ u, aq.tmps.getD 36 undef = u := ⟨_, rfl⟩
      obtain ⟨u37, e37⟩ : ∃ u, aq.tmps.getD 37 undef = u := ⟨_, rfl⟩
      obtain ⟨u38, e38⟩ : ∃ u, aq.tmps.getD 38 undef = u := ⟨_, rfl⟩
      obtain ⟨u39, e39⟩ : ∃ u, aq.tmps.getD 39 undef = u := ⟨_, rfl⟩
      obtain ⟨u40, e40⟩ : ∃ u, aq.tmps.getD 40 undef = u := ⟨_, rfl⟩
      obtain ⟨u41, e41⟩ : ∃ u, aq.tmps.getD 41 undef = u := ⟨_, rfl⟩
      obtain ⟨u42, e42⟩ : ∃ u, aq.tmps.getD 42 undef = u := ⟨_, rfl⟩
      obtain ⟨u43, e43⟩ : ∃ u, aq.tmps.getD 43 undef = u := ⟨_, rfl⟩
      obtain ⟨u44, e44⟩ : ∃ u, aq.tmps.getD 44 undef = u := ⟨_, rfl⟩
      obtain ⟨u45, e45⟩ : ∃ u, aq.tmps.getD 45 undef = u := ⟨_, rfl⟩
      obtain ⟨u46, e46⟩ : ∃ u, aq.tmps.getD 46 undef = u := ⟨_, rfl⟩
      obtain ⟨u47, e47⟩ : ∃ u, aq.tmps.getD 47 undef = u := ⟨_, rfl⟩
      obtain ⟨u48, e48⟩ : ∃ u, aq.tmps.getD 48 undef = u := ⟨_, rfl⟩
      obtain ⟨u49, e49⟩ : ∃ u, aq.tmps.getD 49 undef = u := ⟨_, rfl⟩
      obtain ⟨u50, e50⟩ : ∃ u, aq.tmps.getD 50 undef = u := ⟨_, rfl⟩
      obtain ⟨u51, e51⟩ : ∃ u, aq.tmps.getD 51 undef = u := ⟨_, rfl⟩
      obtain ⟨u52, e52⟩ : ∃ u, aq.tmps.getD 52 undef = u := ⟨_, rfl⟩
      obtain ⟨u53, e53⟩ : ∃ u, aq.tmps.getD 53 undef = u := ⟨_, rfl⟩
      obtain ⟨u54, e54⟩ : ∃ u, aq.tmps.getD 54 undef = u := ⟨_, rfl⟩
      obtain ⟨u55, e55⟩ : ∃ u, aq.tmps.getD 55 undef = u := ⟨_, rfl⟩
      obtain ⟨u56, e56⟩ : ∃ u, aq.tmps.getD 56 undef = u := ⟨_, rfl⟩
      obtain ⟨u57, e57⟩ : ∃ u, aq.tmps.getD 57 undef = u := ⟨_, rfl⟩
      obtain ⟨u58, e58⟩ : ∃ u, aq.tmps.getD 58 undef = u := ⟨_, rfl⟩
      obtain ⟨u59, e59⟩ : ∃ u, aq.tmps.getD 59 undef = u := ⟨_, rfl⟩
      obtain rfl := Fg.frame_is (a := aq) (vs := [u0, Value.pointer (some ⟨N, 0, none⟩), Value.slice none 0 0, Value.slice a3 [[1], rowL (strL s), encN cl, encN sq, encN (n1 : Int)].flatten.length k3, u4, u5, u6, u7, u8, u9, u10, u11, u12, u13, u14, u15, u16, u17, u18, u19, u20, u21, u22, u23, u24, u25, u26, u27, u28, u29, u30, u31, u32, u33, u34, u35, u36, u37, u38, u39, u40, u41, u42, u43, u44, u45, u46, u47, u48, u49, u50, u51, u52, u53, u54, u55, u56, u57, u58, u59]) hsz ⟨e0, hrest 1 (by kernel_rfl), hrest 2 (by kernel_rfl), e3, e4, e5, e6, e7, e8, e9, e10, e11, e12, e13, e14, e15, e16, e17, e18, e19, e20, e21, e22, e23, e24, e25, e26, e27, e28, e29, e30, e31, e32, e33, e34, e35, e36, e37, e38, e39, e40, e41, e42, e43, e44, e45, e46, e47, e48, e49, e50, e51, e52, e53, e54, e55, e56, e57, e58, e59, trivial⟩ hdf
      clear hsz hdf hrest hslots hpt e0 e3 e4 e5 e6 e7 e8 e9 e10 e11 e12 e13 e14 e15 e16 e17 e18 e19 e20 e21 e22 e23 e24 e25 e26 e27 e28 e29 e30 e31 e32 e33 e34 e35 e36 e37 e38 e39 e40 e41 e42 e43 e44 e45 e46 e47 e48 e49 e50 e51 e52 e53 e54 e55 e56 e57 e58 e59
      obtain ⟨A0, hA0⟩ : ∃ A0, A0 = ([[1], rowL (strL s), encN cl, encN sq, encN (n1 : Int)]).flatten := ⟨_, rfl⟩
      rw [← hA0] at b3 HF ⊢
      have HA0 : Hid (A0.length ≤ 200 ∧ ∀ i, A0.getD i 0 < 256) := ⟨by rw [hA0]; exact HT.out.2.2, by rw [hA0]; exact flat_byte HT.out.2.1⟩
      have HG4 := Lib.hid (And.intro (gb_trans HG0.out.1 hB) (And.intro (HG0.out.2.grown hB (by simp)) (b3.up b3.lim (Nat.le_refl _))))
      clear b3 hB hA0 HT
      refine wpList_nil ?_
      go_wp2_with fail
      go_loopw [3, 4] (fun v i wr => ∃ (k : Nat) (aa : Option Addr) (ca m : Nat), k ≤ n1 ∧ i = .int .i64 k ∧ v = .slice aa m ca ∧ m = (A0 ++ dotsL (cx.take k)).length ∧ Hid (w.grownBy wr none ∧ Blk wr N 50 [.string s, iV cl, iV sq, .slice a1 n1 c1, .bool g, .slice a2 n2 c2, .slice ay ny cy] ∧ BytesAt wr wr.heap.size aa ca (A0 ++ dotsL (cx.take k)))) (fun _ i _ => n1 - (intOf i).toNat)
      case atStart => exact ⟨0, _, _, _, by omega, rfl, rfl, by simp [dotsL], HG4.out.1, HG4.out.2.1, by simpa [dotsL] using HG4.out.2.2⟩
      case round =>
        obtain ⟨k, aa, ca, m, hk, rfl, rfl, hm, HI⟩ := hrel
        by_cases hlt : k < n1
        · have i0 : (k : Int) < (n1 : Int) := by omega
          obtain ⟨pb, po, rfl, hpb, hcs⟩ := (HD.out.1.stay HI.out.1).cells.resolve_left (by rw [HD.out.2.1]; omega)
          obtain ⟨z1, z2⟩ := hcs k (by rw [HD.out.2.1]; exact hlt)
          obtain ⟨x, y, hxy⟩ : ∃ x y, cx.getD k z0 = (x, y) := ⟨_, _, rfl⟩
          have hnx := dots_next cx k (by rw [HD.out.2.1]; exact hlt) hxy
          rw [hxy] at z1 z2
          simp only at z1 z2
          have HXY := Lib.hid (And.intro z1 z2); clear z1 z2 hcs hxy
          have hac : (A0 ++ dotsL (cx.take k)).length ≤ 400 ∧ ∀ i, (A0 ++ dotsL (cx.take k)).getD i 0 < 256 := by
            refine ⟨?_, app_byte HA0.out.2 (dotsL_byte _)⟩
            rw [List.length_append, dotsL_len, List.length_take]; have := HA0.out.1; have := HD.out.2.2; omega
          obtain ⟨acc, hacc⟩ : ∃ acc, acc = A0 ++ dotsL (cx.take k) := ⟨_, rfl⟩
          have HNX : Hid ([acc, encN x, encN y].flatten = A0 ++ dotsL (cx.take (k + 1))) := by
            show _ = _
            rw [hnx, hacc]; simp
          rw [← hacc] at hm HI hac
          clear hacc hnx
          subst hm
          have HAC : Hid ([acc, encN x, encN y].flatten.length ≤ 1000000 ∧ ∀ l ∈ [acc, encN x, encN y], ∀ i, l.getD i 0 < 256) := by
            refine ⟨?_, fun l hl => ?_⟩
            · simp only [List.flatten_cons, List.flatten_nil, List.length_append, List.length_nil, encN_length]; omega
            · simp only [List.mem_cons, List.not_mem_nil, or_false] at hl
              rcases hl with rfl | rfl | rfl
              · exact hac.2
              · exact encN_byte _
              · exact encN_byte _
          clear hac
          have HK0 := Lib.hid i0
          have x3 := HI.out.2.1.cell (i := 3) rfl
          go_wp2_with fail
          clear x3
          refine Fg.region_t [] [.any, .any, .any, .any, .any, .any, .any, .any, .any, .any, .any, .any, .any, .any, .any, .any, .any, .any, .any, .any, .any, .any, .any, .any, .any, .any, .any, .any, .any, .any, .any, .any, .any, .val (Value.slice aa acc.length ca), .val (Value.pointer (some ⟨N, 3, none⟩)), .val (Value.slice (some ⟨pb, po, none⟩) n1 c1), .val (Value.int .i64 (k : Int)), .val (Value.pointer (some ⟨pb, po + k * 2, none⟩)), .val (Value.pointer (some ⟨pb, po + k * 2, none⟩)), .val (Value.int .i64 x), Fg.It.by (encN x), .val (Value.pointer (some ⟨N, 3, none⟩)), .val (Value.slice (some ⟨pb, po, none⟩) n1 c1), .val (Value.int .i64 (k : Int)), .val (Value.pointer (some ⟨pb, po + k * 2, none⟩)), .val (Value.pointer (some ⟨pb, po + k * 2 + 1, none⟩)), .val (Value.int .i64 y), Fg.It.by (encN y), Fg.It.rws [acc, encN x, encN y], Fg.It.by [acc, encN x, encN y].flatten] wr 17 (gb_refl _ _) (by kernel_rfl) (by kernel_rfl) (by kernel_rfl) (by kernel_rfl) (by decide) (by kernel_rfl) ?_ ?_
          · refine ⟨Fg.vT rfl (by decide) fun ac w h => ?_, ?_⟩
            · have e3 : ac.tmps.getD 3 undef = Value.slice aa acc.length ca := h.rest 3 (by kernel_rfl)
              exact ⟨_, w, wants_none rfl, Fg.run_move rfl e3, gb_refl _ _, rfl⟩
            refine ⟨Fg.vT rfl (by decide) fun ac w h => ?_, ?_⟩
            · have e1 : ac.tmps.getD 1 undef = Value.pointer (some ⟨N, 0, none⟩) := h.rest 1 (by kernel_rfl)
              refine ⟨Value.pointer (some ⟨N, 3, none⟩), w, wants_none rfl, ?_, gb_refl _ _, rfl⟩
              clear h
              simp only [execOp, Act.eval, e1]
              go_simp
            refine ⟨Fg.vT rfl (by decide) fun ac w h => ?_, ?_⟩
            · have e34 : ac.tmps.getD 34 undef = Value.pointer (some ⟨N, 3, none⟩) := h.dep 34 (by kernel_rfl)
              have c := (HI.out.2.1.grown h.base (by simp)).cell (i := 3) rfl
              refine ⟨Value.slice (some ⟨pb, po, none⟩) n1 c1, w, wants_none rfl, ?_, gb_refl _ _, rfl⟩
              clear h
              simp only [execOp, Act.eval, e34]
              go_simp
            refine ⟨Fg.vT rfl (by decide) fun ac w h => ?_, ?_⟩
            · have e4 : ac.tmps.getD 4 undef = Value.int .i64 (k : Int) := h.rest 4 (by kernel_rfl)
              exact ⟨_, w, wants_none rfl, Fg.run_move rfl e4, gb_refl _ _, rfl⟩
            refine ⟨Fg.vT rfl (by decide) fun ac w h => ?_, ?_⟩
            · have e35 : ac.tmps.getD 35 undef = Value.slice (some ⟨pb, po, none⟩) n1 c1 := h.dep 35 (by kernel_rfl)
              have e36 : ac.tmps.getD 36 undef = Value.int .i64 (k : Int) := h.dep 36 (by kernel_rfl)
              have i0 := HK0.out
              have i1 : (0 : Int) ≤ (k : Int) := by omega
              refine ⟨.pointer (some ⟨pb, po + k * 2, none⟩), w, wants_none rfl, ?_, gb_refl _ _, rfl⟩
              clear h
              simp only [execOp, Act.eval, e35, e36]
              go_simp
            refine ⟨Fg.vT rfl (by decide) fun ac w h => ?_, ?_⟩
            · have e37 : ac.tmps.getD 37 undef = Value.pointer (some ⟨pb, po + k * 2, none⟩) := h.dep 37 (by kernel_rfl)
              refine ⟨Value.pointer (some ⟨pb, po + k * 2, none⟩), w, wants_none rfl, ?_, gb_refl _ _, rfl⟩
              clear h
              simp only [execOp, Act.eval, e37]
              go_simp
            refine ⟨Fg.vT rfl (by decide) fun ac w h => ?_, ?_⟩
            · have e38 : ac.tmps.getD 38 undef = Value.pointer (some ⟨pb, po + k * 2, none⟩) := h.dep 38 (by kernel_rfl)
              have c : w.cell? ⟨pb, po + k * 2, none⟩ = some (iV x) := by rw [gb_cell h.base (block_lt_of_cell HXY.out.1) (by simp)]; exact HXY.out.1
              refine ⟨Value.int .i64 x, w, wants_none rfl, ?_, gb_refl _ _, rfl⟩
              clear h
              simp only [execOp, Act.eval, e38]
              go_simp
            refine ⟨Fg.cT rfl (by decide) fun ac w h => ?_, ?_⟩
            · have e39 : ac.tmps.getD 39 undef = Value.int .i64 x := h.dep 39 (by kernel_rfl)
              refine ⟨12, #[Value.int .i64 x], wants_none rfl, Fg.run_call rfl rfl (by simp only [List.map_toArray, List.map_cons, List.map_nil, Act.eval, e39]) (Fg.run_enter Tryz.func12 (by kernel_rfl) (by kernel_rfl)), ?_⟩
              exact (refNumber_out x w).mono fun _ _ ⟨_, _, he, hg, hb⟩ => ⟨_, he, hg, _, _, _, rfl, hb⟩
            refine ⟨Fg.vT rfl (by decide) fun ac w h => ?_, ?_⟩
            · have e1 : ac.tmps.getD 1 undef = Value.pointer (some ⟨N, 0, none⟩) := h.rest 1 (by kernel_rfl)
              refine ⟨Value.pointer (some ⟨N, 3, none⟩), w, wants_none rfl, ?_, gb_refl _ _, rfl⟩
              clear h
              simp only [execOp, Act.eval, e1]
              go_simp
            refine ⟨Fg.vT rfl (by decide) fun ac w h => ?_, ?_⟩
            · have e41 : ac.tmps.getD 41 undef = Value.pointer (some ⟨N, 3, none⟩) := h.dep 41 (by kernel_rfl)
              have c := (HI.out.2.1.grown h.base (by simp)).cell (i := 3) rfl
              refine ⟨Value.slice (some ⟨pb, po, none⟩) n1 c1, w, wants_none rfl, ?_, gb_refl _ _, rfl⟩
              clear h
              simp only [execOp, Act.eval, e41]
              go_simp
            refine ⟨Fg.vT rfl (by decide) fun ac w h => ?_, ?_⟩
            · have e4 : ac.tmps.getD 4 undef = Value.int .i64 (k : Int) := h.rest 4 (by kernel_rfl)
              exact ⟨_, w, wants_none rfl, Fg.run_move rfl e4, gb_refl _ _, rfl⟩
            refine ⟨Fg.vT rfl (by decide) fun ac w h => ?_, ?_⟩
            · have e42 : ac.tmps.getD 42 undef = Value.slice (some ⟨pb, po, none⟩) n1 c1 := h.dep 42 (by kernel_rfl)
              have e43 : ac.tmps.getD 43 undef = Value.int .i64 (k : Int) := h.dep 43 (by kernel_rfl)
              have i0 := HK0.out
              have i1 : (0 : Int) ≤ (k : Int) := by omega
              refine ⟨.pointer (some ⟨pb, po + k * 2, none⟩), w, wants_none rfl, ?_, gb_refl _ _, rfl⟩
              clear h
              simp only [execOp, Act.eval, e42, e43]
              go_simp
            refine ⟨Fg.vT rfl (by decide) fun ac w h => ?_, ?_⟩
            · have e44 : ac.tmps.getD 44 undef = Value.pointer (some ⟨pb, po + k * 2, none⟩) := h.dep 44 (by kernel_rfl)
              refine ⟨Value.pointer (some ⟨pb, po + k * 2 + 1, none⟩), w, wants_none rfl, ?_, gb_refl _ _, rfl⟩
              clear h
              simp only [execOp, Act.eval, e44]
              go_simp
            refine ⟨Fg.vT rfl (by decide) fun ac w h => ?_, ?_⟩
            · have e45 : ac.tmps.getD 45 undef = Value.pointer (some ⟨pb, po + k * 2 + 1, none⟩) := h.dep 45 (by kernel_rfl)
              have c : w.cell? ⟨pb, po + k * 2 + 1, none⟩ = some (iV y) := by rw [gb_cell h.base (block_lt_of_cell HXY.out.2) (by simp)]; exact HXY.out.2
              refine ⟨Value.int .i64 y, w, wants_none rfl, ?_, gb_refl _ _, rfl⟩
              clear h
              simp only [execOp, Act.eval, e45]
              go_simp
            refine ⟨Fg.cT rfl (by decide) fun ac w h => ?_, ?_⟩
            · have e46 : ac.tmps.getD 46 undef = Value.int .i64 y := h.dep 46 (by kernel_rfl)
              refine ⟨12, #[Value.int .i64 y], wants_none rfl, Fg.run_call rfl rfl (by simp only [List.map_toArray, List.map_cons, List.map_nil, Act.eval, e46]) (Fg.run_enter Tryz.func12 (by kernel_rfl) (by kernel_rfl)), ?_⟩
              exact (refNumber_out y w).mono fun _ _ ⟨_, _, he, hg, hb⟩ => ⟨_, he, hg, _, _, _, rfl, hb⟩
            refine ⟨Fg.vT rfl (by decide) fun ac w h => ?_, ?_⟩
            · have e33 : ac.tmps.getD 33 undef = Value.slice aa acc.length ca := h.dep 33 (by kernel_rfl)
              obtain ⟨a40, k40, B40, e40, b40⟩ : ∃ xa xc xB, ac.tmps.getD 40 undef = .slice xa (encN x).length xc ∧ BytesAt w xB xa xc (encN x) := h.dep 40 (by kernel_rfl)
              obtain ⟨a47, k47, B47, e47, b47⟩ : ∃ xa xc xB, ac.tmps.getD 47 undef = .slice xa (encN y).length xc ∧ BytesAt w xB xa xc (encN y) := h.dep 47 (by kernel_rfl)
              have b3 := HI.out.2.2.stay h.base
              refine ⟨.slice (some ⟨w.heap.size, 0, none⟩) 3 3, w.alloc (.cells #[.slice aa acc.length ca, .slice a40 (encN x).length k40, .slice a47 (encN y).length k47] 23), wants_none rfl, ?_, gb_alloc (gb_refl _ _) _, ⟨_, 3, _, rfl, rows_box _ [(aa, ca, acc), (a40, k40, encN x), (a47, k47, encN y)] (fun p hp => by
                  simp only [List.mem_cons, List.not_mem_nil, or_false] at hp
                  rcases hp with rfl | rfl | rfl
                  · exact ⟨_, b3⟩
                  · exact ⟨_, b40⟩
                  · exact ⟨_, b47⟩)⟩⟩
              clear h
              simp only [execOp, Act.eval, e33, e40, e47, List.map_toArray, List.map_cons, List.map_nil]
              go_simp
            refine ⟨Fg.cT rfl (by decide) fun ac w h => ?_, ?_⟩
            · obtain ⟨a48, k48, B48, e48, b48⟩ : ∃ xa xc xB, ac.tmps.getD 48 undef = .slice xa [acc, encN x, encN y].length xc ∧ RowsAt w xB xa [acc, encN x, encN y] := h.dep 48 (by kernel_rfl)
              refine ⟨13, #[Value.slice a48 [acc, encN x, encN y].length k48], wants_none rfl, Fg.run_call rfl rfl (by simp only [List.map_toArray, List.map_cons, List.map_nil, Act.eval, e48]) (Fg.run_enter Tryz.func13 (by kernel_rfl) (by kernel_rfl)), ?_⟩
              exact (refJoin_out 3 [acc, encN x, encN y] a48 k48 B48 w rfl b48 (by simp) HAC.out.1 HAC.out.2).mono fun _ _ ⟨_, _, he, hg, hb⟩ => ⟨_, he, hg, _, _, _, rfl, hb⟩
            trivial
          · intro aq wq hB hsz hdf hrest hslots hpt
            obtain ⟨u26, e26⟩ : ∃ u, aq.tmps.getD 26 undef = u := ⟨_, rfl⟩
            obtain ⟨u27, e27⟩ : ∃ u, aq.tmps.getD 27 undef = u := ⟨_, rfl⟩
            obtain ⟨u28, e28⟩ : ∃ u, aq.tmps.getD 28 undef = u := ⟨_, rfl⟩
            obtain ⟨u29, e29⟩ : ∃ u, aq.tmps.getD 29 undef = u := ⟨_, rfl⟩
            obtain ⟨u30, e30⟩ : ∃ u, aq.tmps.getD 30 undef = u := ⟨_, rfl⟩
            obtain ⟨u31, e31⟩ : ∃ u, aq.tmps.getD 31 undef = u := ⟨_, rfl⟩
            obtain ⟨u32, e32⟩ : ∃ u, aq.tmps.getD 32 undef = u := ⟨_, rfl⟩
            obtain ⟨u33, e33⟩ : ∃ u, aq.tmps.getD 33 undef = u := ⟨_, rfl⟩
            obtain ⟨u34, e34⟩ : ∃ u, aq.tmps.getD 34 undef = u := ⟨_, rfl⟩
            obtain ⟨u35, e35⟩ : ∃ u, aq.tmps.getD 35 undef = u := ⟨_, rfl⟩
            obtain ⟨u36, e36⟩ : ∃ u, aq.tmps.getD 36 undef = u := ⟨_, rfl⟩
            obtain ⟨u37, e37⟩ : ∃ u, aq.tmps.getD 37 undef = u := ⟨_, rfl⟩
            obtain ⟨u38, e38⟩ : ∃ u, aq.tmps.getD 38 undef = u := ⟨_, rfl⟩
            obtain ⟨u39, e39⟩ : ∃ u, aq.tmps.getD 39 undef = u := ⟨_, rfl⟩
            obtain ⟨u40, e40⟩ : ∃ u, aq.tmps.getD 40 undef = u := ⟨_, rfl⟩
            obtain ⟨u41, e41⟩ : ∃ u, aq.tmps.getD 41 undef = u := ⟨_, rfl⟩
            obtain ⟨u42, e42⟩ : ∃ u, aq.tmps.getD 42 undef = u := ⟨_, rfl⟩
            obtain ⟨u43, e43⟩ : ∃ u, aq.tmps.getD 43 undef = u := ⟨_, rfl⟩
            obtain ⟨u44, e44⟩ : ∃ u, aq.tmps.getD 44 undef = u := ⟨_, rfl⟩
            obtain ⟨u45, e45⟩ : ∃ u, aq.tmps.getD 45 undef = u := ⟨_, rfl⟩
            obtain ⟨u46, e46⟩ : ∃ u, aq.tmps.getD 46 undef = u := ⟨_, rfl⟩
            obtain ⟨u47, e47⟩ : ∃ u, aq.tmps.getD 47 undef = u := ⟨_, rfl⟩
            obtain ⟨u48, e48⟩ : ∃ u, aq.tmps.getD 48 undef = u := ⟨_, rfl⟩
            obtain ⟨a49, k49, B49, e49, b49⟩ : ∃ xa xc xB, aq.tmps.getD 49 undef = .slice xa [acc, encN x, encN y].flatten.length xc ∧ BytesAt wq xB xa xc [acc, encN x, encN y].flatten := hslots 49 (by kernel_rfl)
            obtain rfl := Fg.frame_is (a := aq) (vs := [u0, Value.pointer (some ⟨N, 0, none⟩), Value.slice none 0 0, Value.slice aa acc.length ca, Value.int .i64 (k : Int), u5, u6, u7, u8, u9, u10, u11, u12, u13, u14, u15, u16, u17, u18, u19, u20, u21, u22, u23, u24, u25, u26, u27, u28, u29, u30, u31, u32, u33, u34, u35, u36, u37, u38, u39, u40, u41, u42, u43, u44, u45, u46, u47, u48, Value.slice a49 [acc, encN x, encN y].flatten.length k49, u50, u51, u52, u53, u54, u55, u56, u57, u58, u59]) hsz ⟨hrest 0 (by kernel_rfl), hrest 1 (by kernel_rfl), hrest 2 (by kernel_rfl), hrest 3 (by kernel_rfl), hrest 4 (by kernel_rfl), hrest 5 (by kernel_rfl), hrest 6 (by kernel_rfl), hrest 7 (by kernel_rfl), hrest 8 (by kernel_rfl), hrest 9 (by kernel_rfl), hrest 10 (by kernel_rfl), hrest 11 (by kernel_rfl), hrest 12 (by kernel_rfl), hrest 13 (by kernel_rfl), hrest 14 (by kernel_rfl), hrest 15 (by kernel_rfl), hrest 16 (by kernel_rfl), hrest 17 (by kernel_rfl), hrest 18 (by kernel_rfl), hrest 19 (by kernel_rfl), hrest 20 (by kernel_rfl), hrest 21 (by kernel_rfl), hrest 22 (by kernel_rfl), hrest 23 (by kernel_rfl), hrest 24 (by kernel_rfl), hrest 25 (by kernel_rfl), e26, e27, e28, e29, e30, e31, e32, e33, e34, e35, e36, e37, e38, e39, e40, e41, e42, e43, e44, e45, e46, e47, e48, e49, hrest 50 (by kernel_rfl), hrest 51 (by kernel_rfl), hrest 52 (by kernel_rfl), hrest 53 (by kernel_rfl), hrest 54 (by kernel_rfl), hrest 55 (by kernel_rfl), hrest 56 (by kernel_rfl), hrest 57 (by kernel_rfl), hrest 58 (by kernel_rfl), hrest 59 (by kernel_rfl), trivial⟩ hdf
            clear hsz hdf hrest hslots hpt e26 e27 e28 e29 e30 e31 e32 e33 e34 e35 e36 e37 e38 e39 e40 e41 e42 e43 e44 e45 e46 e47 e48 e49
            have HN := Lib.hid (And.intro (gb_trans HI.out.1 hB) (And.intro (HI.out.2.1.grown hB (by simp)) (b49.up b49.lim (Nat.le_refl _))))
            have n8 := HD.out.2.2
            clear b49 hB HI
            refine Fg.wpl_value (v := Value.slice a49 [acc, encN x, encN y].flatten.length k49) (w' := wq) rfl (Fg.run_assign rfl rfl) ?_
            refine wpList_nil ?_
            simp only [Act.put, List.setIfInBounds_toArray, List.set_cons_succ, List.set_cons_zero]
            go_wp2
            go_roundw
            case rel => exact ⟨k + 1, _, _, _, by omega, by go_num, rfl, congrArg List.length HNX.out, by have h := HN.out; rw [HNX.out] at h; exact h⟩
            case measure => simp [intOf]; omega
        · obtain rfl : k = n1 := by omega
          have hall : cx.take k = cx := List.take_of_length_le (by rw [HD.out.2.1]; omega)
          rw [hall] at hm HI
          obtain ⟨acc, hacc⟩ : ∃ acc, acc = A0 ++ dotsL cx := ⟨_, rfl⟩
          have hac : acc.length ≤ 400 ∧ ∀ i, acc.getD i 0 < 256 := by
            rw [hacc]
            refine ⟨?_, app_byte HA0.out.2 (dotsL_byte _)⟩
            rw [List.length_append, dotsL_len]; have := HA0.out.1; have := HD.out.2; omega
          rw [← hacc] at hm HI HF
          subst hm
          have HAC := Lib.hid hac
          clear hac hacc hall
          have x3 := HI.out.2.1.cell (i := 3) rfl
          have x4 := HI.out.2.1.cell (i := 4) rfl
          cases hgl : g with
          | false =>
            rw [hgl] at x4
            have HA3 : Hid ([acc, [goneN false], rowL val].flatten.length ≤ 1000000 ∧ ∀ l ∈ [acc, [goneN false], rowL val], ∀ i, l.getD i 0 < 256) := by
              refine ⟨?_, fun l hl => ?_⟩
              · simp only [List.flatten_cons, List.flatten_nil, List.length_append, List.length_nil, List.length_cons, rowL_len]; have := HAC.out; have := HV.out; omega
              · simp only [List.mem_cons, List.not_mem_nil, or_false] at hl
                rcases hl with rfl | rfl | rfl
                · exact HAC.out.2
                · intro i; rcases i with _ | i <;> simp [goneN]
                · exact rowL_byte (HV.out.1.byte)
            obtain ⟨wl, hwl⟩ : ∃ wl, wl = (wr.alloc (.cells #[.int .u8 0] 5)) := ⟨_, rfl⟩
            have hgl2 : wr.grownBy wl none := by rw [hwl]; exact gb_alloc (gb_refl _ _) _
            have hbx : BytesAt wl (wr.heap.size + 1) (some ⟨wr.heap.size, 0, none⟩) 1 [goneN false] := by rw [hwl]; exact bytes_box [goneN false] (fun i => by rcases i with _ | i <;> simp [goneN]) (by decide)
            have x5 : wl.cell? ⟨N, 5, none⟩ = some (.slice a2 n2 c2) := (HI.out.2.1.grown hgl2 (by simp)).cell (i := 5) rfl
            have HL := Lib.hid (And.intro hgl2 hbx)
            have hsz : ∃ sz, sz = wr.heap.size := ⟨_, rfl⟩
            obtain ⟨sz, hsz⟩ := hsz
            clear hgl2 hbx
            have h1 : wr.alloc (.cells #[.int .u8 0] 5) = wl := hwl.symm
            have HWL := Lib.hid hwl; clear hwl
            go_wp2_with (first | rw [h1])
            have hRB : Calls Tryz.prog 15 #[.slice a2 n2 c2] wl (YOut wl (rowL val)) := refBytes_out n2 val a2 c2 B wl HV.out.2.1 ((HV.out.1.stay HI.out.1).stay HL.out.1) (by have := HV.out.2.2; omega)
            obtain ⟨rv, hrv⟩ : ∃ rv, rv = rowL val := ⟨_, rfl⟩
            rw [← hrv] at hRB HA3
            have HF5 := HF.out false hgl.symm
            rw [← hrv] at HF5
            have HF6 := Lib.hid HF5; clear HF5 HF
            refine hRB.mono ?_
            rintro e w3 ⟨ab, cb, rfl, hg3, hb3⟩
            have HL3 := Lib.hid (And.intro (gb_trans HL.out.1 hg3) (And.intro (HL.out.2.stay hg3) hb3))
            clear h1 x5 x3 x4 hg3 hb3 HL hRB hrv
            obtain ⟨w4, hw4⟩ : ∃ w4, w4 = w3.alloc (.cells #[.slice aa acc.length ca, .slice (some ⟨wr.heap.size, 0, none⟩) 1 1, .slice ab rv.length cb] 23) := ⟨_, rfl⟩
            have HL4 : Hid (wr.grownBy w4 none ∧ RowsAt w4 (w3.heap.size + 1) (some ⟨w3.heap.size, 0, none⟩) [acc, [goneN false], rv]) := by
              rw [hw4]
              refine ⟨gb_trans HL3.out.1 (gb_alloc (gb_refl _ _) _), rows_box _ [(aa, ca, acc), (some ⟨wr.heap.size, 0, none⟩, 1, [goneN false]), (ab, cb, rv)] (fun p hp => ?_)⟩
              simp only [List.mem_cons, List.not_mem_nil, or_false] at hp
              rcases hp with rfl | rfl | rfl
              · exact ⟨_, HI.out.2.2.stay HL3.out.1⟩
              · exact ⟨_, HL3.out.2.1⟩
              · exact ⟨_, HL3.out.2.2⟩
            have h4 := hw4.symm
            have HW4 := Lib.hid hw4; clear hw4
            go_wp2_with (first | rw [h4])
            refine (refJoin_out 3 [acc, [goneN false], rv] _ 3 (w3.heap.size + 1) w4 rfl HL4.out.2 (by simp) HA3.out.1 HA3.out.2).mono ?_
            rintro e w5 ⟨ad, cd, rfl, hg5, hb5⟩
            have HF5 := HF6.out
            rw [HF5] at hb5
            have HE := Lib.hid (And.intro (gb_trans (gb_trans HI.out.1 HL4.out.1) hg5) hb5)
            clear hg5 hb5 h4
            go_wp2
            have hq := HQ.out; rw [hgl] at hq
            rw [hq]
            rw [hgl] at HE; exact ⟨_, _, rfl, HE.out.1, HE.out.2⟩
            
          | true =>
            rw [hgl] at x4
            have HA3 : Hid ([acc, [goneN true], rowL val].flatten.length ≤ 1000000 ∧ ∀ l ∈ [acc, [goneN true], rowL val], ∀ i, l.getD i 0 < 256) := by
              refine ⟨?_, fun l hl => ?_⟩
              · simp only [List.flatten_cons, List.flatten_nil, List.length_append, List.length_nil, List.length_cons, rowL_len]; have := HAC.out; have := HV.out; omega
              · simp only [List.mem_cons, List.not_mem_nil, or_false] at hl
                rcases hl with rfl | rfl | rfl
                · exact HAC.out.2
                · intro i; rcases i with _ | i <;> simp [goneN]
                · exact rowL_byte (HV.out.1.byte)
            obtain ⟨wl, hwl⟩ : ∃ wl, wl = (wr.alloc (.cells #[.int .u8 1] 5)) := ⟨_, rfl⟩
            have hgl2 : wr.grownBy wl none := by rw [hwl]; exact gb_alloc (gb_refl _ _) _
            have hbx : BytesAt wl (wr.heap.size + 1) (some ⟨wr.heap.size, 0, none⟩) 1 [goneN true] := by rw [hwl]; exact bytes_box [goneN true] (fun i => by rcases i with _ | i <;> simp [goneN]) (by decide)
            have x5 : wl.cell? ⟨N, 5, none⟩ = some (.slice a2 n2 c2) := (HI.out.2.1.grown hgl2 (by simp)).cell (i := 5) rfl
            have HL := Lib.hid (And.intro hgl2 hbx)
            have hsz : ∃ sz, sz = wr.heap.size := ⟨_, rfl⟩
            obtain ⟨sz, hsz⟩ := hsz
            clear hgl2 hbx
            have h1 : wr.alloc (.cells #[.int .u8 1] 5) = wl := hwl.symm
            have HWL := Lib.hid hwl; clear hwl
            go_wp2_with (first | rw [h1])
            have hRB : Calls Tryz.prog 15 #[.slice a2 n2 c2] wl (YOut wl (rowL val)) := refBytes_out n2 val a2 c2 B wl HV.out.2.1 ((HV.out.1.stay HI.out.1).stay HL.out.1) (by have := HV.out.2.2; omega)
            obtain ⟨rv, hrv⟩ : ∃ rv, rv = rowL val := ⟨_, rfl⟩
            rw [← hrv] at hRB HA3
            have HF5 := HF.out true hgl.symm
            rw [← hrv] at HF5
            have HF6 := Lib.hid HF5; clear HF5 HF
            refine hRB.mono ?_
            rintro e w3 ⟨ab, cb, rfl, hg3, hb3⟩
            have HL3 := Lib.hid (And.intro (gb_trans HL.out.1 hg3) (And.intro (HL.out.2.stay hg3) hb3))
            clear h1 x5 x3 x4 hg3 hb3 HL hRB hrv
            obtain ⟨w4, hw4⟩ : ∃ w4, w4 = w3.alloc (.cells #[.slice aa acc.length ca, .slice (some ⟨wr.heap.size, 0, none⟩) 1 1, .slice ab rv.length cb] 23) := ⟨_, rfl⟩
            have HL4 : Hid (wr.grownBy w4 none ∧ RowsAt w4 (w3.heap.size + 1) (some ⟨w3.heap.size, 0, none⟩) [acc, [goneN true], rv]) := by
              rw [hw4]
              refine ⟨gb_trans HL3.out.1 (gb_alloc (gb_refl _ _) _), rows_box _ [(aa, ca, acc), (some ⟨wr.heap.size, 0, none⟩, 1, [goneN true]), (ab, cb, rv)] (fun p hp => ?_)⟩
              simp only [List.mem_cons, List.not_mem_nil, or_false] at hp
              rcases hp with rfl | rfl | rfl
              · exact ⟨_, HI.out.2.2.stay HL3.out.1⟩
              · exact ⟨_, HL3.out.2.1⟩
              · exact ⟨_, HL3.out.2.2⟩
            have h4 := hw4.symm
            have HW4 := Lib.hid hw4; clear hw4
            go_wp2_with (first | rw [h4])
            refine (refJoin_out 3 [acc, [goneN true], rv] _ 3 (w3.heap.size + 1) w4 rfl HL4.out.2 (by simp) HA3.out.1 HA3.out.2).mono ?_
            rintro e w5 ⟨ad, cd, rfl, hg5, hb5⟩
            have HF5 := HF6.out
            rw [HF5] at hb5
            have HE := Lib.hid (And.intro (gb_trans (gb_trans HI.out.1 HL4.out.1) hg5) hb5)
            clear hg5 hb5 h4
            go_wp2
            have hq := HQ.out; rw [hgl] at hq
            rw [hq]
            rw [hgl] at HE; exact ⟨_, _, rfl, HE.out.1, HE.out.2⟩
            
end Rc
end Go.Proofs.YtohcoihdijemfaaGreat

/- The document's Put (buttressref08). -/
namespace Go.Proofs.YtohcoihdijemfaaGreat
open Go.RowKit Ow Wi Ve
namespace Rc
set_option maxHeartbeats 1000000 in
theorem refPut_own (r : R) (B : Nat) (w : World) (q : L) (h : RAt w B q r) : Calls Tryz.prog 35 #[q.v r] w (POwn w (putO r) (errN (rightB r) 4)) := by
  have HS := Lib.hid (fun w' (hg : w.grownBy w' none) => refRightR_any r B w' q (h.stay hg))
  cases hb : rightB r with
  | false =>
    rw [hb] at HS
    have HQ : Hid (∀ w', w.grownBy w' none → POwn w (putO r) (errN false 4) (.returned (.tuple #[.slice none 0 0, .int .i64 4])) w') := fun w' hg => by
      unfold putO
      rw [hb]
      exact ⟨_, rfl, hg, World.ownsRow_nil _ _ _ _⟩
    clear h hb
    generalize POwn w (putO r) (errN false 4) = Q at *
    obtain ⟨s, a1, n1, c1, a2, n2, c2, a3, n3, c3⟩ := q
    obtain ⟨key, cl, sq, cx, g, val, sig⟩ := r
    replace HS : Hid (∀ w' (_ : w.grownBy w' none), Calls Tryz.prog 37 #[vV s cl sq a1 n1 c1 g a2 n2 c2 a3 n3 c3] w' fun e w'' => e = .returned (.bool false) ∧ w'.grownBy w'' none) := HS
    show Calls _ _ #[vV s cl sq a1 n1 c1 g a2 n2 c2 a3 n3 c3] w _
    go_enter Tryz.func35, Tryz.ntmps35
    go_wp2_with fail
    refine (HS.out _ (gb_alloc (gb_refl _ _) _)).mono ?_
    rintro e w1 ⟨rfl, hg⟩
    have HG := Lib.hid (gb_trans (gb_alloc (gb_refl _ _) _) hg); clear hg
    go_wp2
    exact HQ.out _ HG.out
  | true =>
    rw [hb] at HS
    have hs : shapeB r = true := by simp only [rightB, Bool.and_eq_true] at hb; exact hb.1
    have HT := Lib.hid (fun w' (hg : w.grownBy w' none) => refText_any r B w' q (h.stay hg))
    have HQ : Hid (∀ w' v, w.grownBy w' none → w'.ownsRow w.heap.size 5 1 v [textL r, r.sig].flatten.length ([textL r, r.sig].flatten.map u8N) → POwn w (putO r) (errN true 4) (.returned (.tuple #[v, .int .i64 0])) w') := fun w' v hg hB => by
      have e : [textL r, r.sig].flatten = putO r := by unfold putO; rw [hb]; simp [putL]
      rw [e] at hB
      exact ⟨v, rfl, hg, hB⟩
    have e : textO r = textL r := by unfold textO; rw [hs]; rfl
    rw [e] at HT
    have l3 := h.l3
    have hsh := shape_of hs
    have hT : (textL r).length ≤ 2000 ∧ ∀ i, (textL r).getD i 0 < 256 := text_small h hs
    have HL : Hid (([textL r, r.sig].flatten).length ≤ 1000000 ∧ ∀ l ∈ [textL r, r.sig], ∀ i, l.getD i 0 < 256) := by
      have h64 : r.sig.length = 64 := by simp only [rightB, Bool.and_eq_true, decide_eq_true_eq] at hb; exact hb.2
      refine ⟨by simp only [List.flatten_cons, List.flatten_nil, List.length_append, List.length_nil, h64]; omega, fun l hl => ?_⟩
      simp only [List.mem_cons, List.not_mem_nil, or_false] at hl
      rcases hl with rfl | rfl
      · exact hT.2
      · exact h.sig.byte
    have HSG := Lib.hid (And.intro h.sig l3)
    generalize textL r = T at *
    clear h hb hs e hsh hT l3
    generalize POwn w (putO r) (errN true 4) = Q at *
    obtain ⟨s, a1, n1, c1, a2, n2, c2, a3, n3, c3⟩ := q
    obtain ⟨key, cl, sq, cx, g, val, sig⟩ := r
    replace HS : Hid (∀ w' (_ : w.grownBy w' none), Calls Tryz.prog 37 #[vV s cl sq a1 n1 c1 g a2 n2 c2 a3 n3 c3] w' fun e w'' => e = .returned (.bool true) ∧ w'.grownBy w'' none) := HS
    replace HT : Hid (∀ w' (_ : w.grownBy w' none), Calls Tryz.prog 38 #[vV s cl sq a1 n1 c1 g a2 n2 c2 a3 n3 c3] w' (YOut w' T)) := HT
    replace HSG : Hid (BytesAt w B a3 c3 sig ∧ sig.length = n3) := HSG
    simp only at HL HQ
    show Calls _ _ #[vV s cl sq a1 n1 c1 g a2 n2 c2 a3 n3 c3] w _
    obtain ⟨N, hN⟩ : ∃ N, N = w.heap.size := ⟨_, rfl⟩
    obtain ⟨W0, hW0⟩ : ∃ W0, W0 = w.alloc (.cells #[.string s, iV cl, iV sq, .slice a1 n1 c1, .bool g, .slice a2 n2 c2, .slice a3 n3 c3] 50) := ⟨_, rfl⟩
    have hG0 : w.grownBy W0 none := by rw [hW0]; exact gb_alloc (gb_refl _ _) _
    have hB0 : Blk W0 N 50 [.string s, iV cl, iV sq, .slice a1 n1 c1, .bool g, .slice a2 n2 c2, .slice a3 n3 c3] := by rw [hW0, hN]; exact Blk.new _ _ _
    have HG0 := Lib.hid (And.intro hG0 hB0); clear hG0 hB0
    go_enter Tryz.func35, Tryz.ntmps35
    go_wp2_with fail
    rw [← hW0, ← hN]
    clear hW0 hN
    refine (HS.out _ HG0.out.1).mono ?_
    rintro e w1 ⟨rfl, hg⟩
    have HG := Lib.hid (And.intro (gb_trans HG0.out.1 hg) (HG0.out.2.grown hg (by simp))); clear hg HG0
    go_wp2_with fail
    refine Fg.region_t [] [.any, .any, Fg.It.ow w1.heap.size [T, sig].flatten, .val (Value.int .i64 0), .any, .any, .any, .val (vV s cl sq a1 n1 c1 g a2 n2 c2 a3 n3 c3), Fg.It.by T, .val (Value.pointer (some ⟨N, 6, none⟩)), .val (Value.slice a3 n3 c3), Fg.It.rws [T, sig], Fg.It.ow w1.heap.size [T, sig].flatten] w1 8 (gb_refl _ _) (by kernel_rfl) (by kernel_rfl) (by kernel_rfl) (by kernel_rfl) (by decide) (by kernel_rfl) ?_ ?_
    · refine ⟨Fg.vT rfl (by decide) fun ac w h => ?_, ?_⟩
      · have e1 : ac.tmps.getD 1 undef = Value.pointer (some ⟨N, 0, none⟩) := h.rest 1 (by kernel_rfl)
        have m0 := (HG.out.2.grown h.base (by simp)).cell (i := 0) rfl
        have m1 := (HG.out.2.grown h.base (by simp)).cell (i := 1) rfl
        have m2 := (HG.out.2.grown h.base (by simp)).cell (i := 2) rfl
        have m3 := (HG.out.2.grown h.base (by simp)).cell (i := 3) rfl
        have m4 := (HG.out.2.grown h.base (by simp)).cell (i := 4) rfl
        have m5 := (HG.out.2.grown h.base (by simp)).cell (i := 5) rfl
        have m6 := (HG.out.2.grown h.base (by simp)).cell (i := 6) rfl
        refine ⟨vV s cl sq a1 n1 c1 g a2 n2 c2 a3 n3 c3, w, wants_none rfl, ?_, gb_refl _ _, rfl⟩
        clear h
        simp only [execOp, Act.eval, e1]
        go_simp
      refine ⟨Fg.cT rfl (by decide) fun ac w h => ?_, ?_⟩
      · have e7 : ac.tmps.getD 7 undef = vV s cl sq a1 n1 c1 g a2 n2 c2 a3 n3 c3 := h.dep 7 (by kernel_rfl)
        refine ⟨38, #[vV s cl sq a1 n1 c1 g a2 n2 c2 a3 n3 c3], wants_none rfl, Fg.run_call rfl rfl (by simp only [List.map_toArray, List.map_cons, List.map_nil, Act.eval, e7]) (Fg.run_enter Tryz.func38 (by kernel_rfl) (by kernel_rfl)), ?_⟩
        exact (HT.out w (gb_trans HG.out.1 h.base)).mono fun _ _ ⟨_, _, he, hg, hb⟩ => ⟨_, he, hg, _, _, _, rfl, hb⟩
      refine ⟨Fg.vT rfl (by decide) fun ac w h => ?_, ?_⟩
      · have e1 : ac.tmps.getD 1 undef = Value.pointer (some ⟨N, 0, none⟩) := h.rest 1 (by kernel_rfl)
        refine ⟨Value.pointer (some ⟨N, 6, none⟩), w, wants_none rfl, ?_, gb_refl _ _, rfl⟩
        clear h
        simp only [execOp, Act.eval, e1]
        go_simp
      refine ⟨Fg.vT rfl (by decide) fun ac w h => ?_, ?_⟩
      · have e9 : ac.tmps.getD 9 undef = Value.pointer (some ⟨N, 6, none⟩) := h.dep 9 (by kernel_rfl)
        have c := (HG.out.2.grown h.base (by simp)).cell (i := 6) rfl
        refine ⟨Value.slice a3 n3 c3, w, wants_none rfl, ?_, gb_refl _ _, rfl⟩
        clear h
        simp only [execOp, Act.eval, e9]
        go_simp
      refine ⟨Fg.vT rfl (by decide) fun ac w h => ?_, ?_⟩
      · obtain ⟨a8, k8, B8, e8, b8⟩ : ∃ x c B, ac.tmps.getD 8 undef = .slice x T.length c ∧ BytesAt w B x c T := h.dep 8 (by kernel_rfl)
        have e10 : ac.tmps.getD 10 undef = Value.slice a3 n3 c3 := h.dep 10 (by kernel_rfl)
        have hbx : RowsAt (w.alloc (.cells #[.slice a8 T.length k8, .slice a3 n3 c3] 23)) (w.heap.size + 1) (some ⟨w.heap.size, 0, none⟩) [T, sig] := by
          rw [← HSG.out.2]
          exact rows_box _ [(a8, k8, T), (a3, c3, sig)] (fun p hp => by
            simp only [List.mem_cons, List.not_mem_nil, or_false] at hp
            rcases hp with rfl | rfl
            · exact ⟨_, b8⟩
            · exact ⟨_, HSG.out.1.stay (gb_trans HG.out.1 h.base)⟩)
        refine ⟨.slice (some ⟨w.heap.size, 0, none⟩) 2 2, w.alloc (.cells #[.slice a8 T.length k8, .slice a3 n3 c3] 23), wants_none rfl, ?_, gb_alloc (gb_refl _ _) _, ⟨_, 2, _, rfl, hbx⟩⟩
        clear h
        simp only [execOp, Act.eval, e8, e10, List.map_toArray, List.map_cons, List.map_nil]
        go_simp
      refine ⟨Fg.cT rfl (by decide) fun ac w h => ?_, ?_⟩
      · obtain ⟨a11, k11, B11, e11, b11⟩ : ∃ x c B, ac.tmps.getD 11 undef = .slice x [T, sig].length c ∧ RowsAt w B x [T, sig] := h.dep 11 (by kernel_rfl)
        refine ⟨13, #[Value.slice a11 [T, sig].length k11], wants_none rfl, Fg.run_call rfl rfl (by simp only [List.map_toArray, List.map_cons, List.map_nil, Act.eval, e11]) (Fg.run_enter Tryz.func13 (by kernel_rfl) (by kernel_rfl)), ?_⟩
        exact (refJoin_own 2 [T, sig] a11 k11 B11 w rfl b11 (by simp) HL.out.1 HL.out.2).mono fun _ _ ⟨_, he, hg, ho⟩ => ⟨_, he, hg, own_down ho h.base.size⟩
      refine ⟨Fg.vT rfl (by decide) fun ac w h => ?_, ?_⟩
      · obtain ⟨v12, e12, b12⟩ : ∃ v, ac.tmps.getD 12 undef = v ∧ w.ownsRow w1.heap.size 5 1 v [T, sig].flatten.length ([T, sig].flatten.map u8N) := ⟨_, rfl, h.dep 12 (by kernel_rfl)⟩
        exact ⟨_, w, wants_none rfl, Fg.run_assign rfl e12, gb_refl _ _, b12⟩
      refine ⟨Fg.vT rfl (by decide) fun ac w h => ?_, ?_⟩
      · refine ⟨Value.int .i64 0, w, wants_none rfl, ?_, gb_refl _ _, rfl⟩
        clear h
        simp only [execOp, Act.eval]
        go_simp
      trivial
    · intro aq wq hB hsz hdf hrest hslots hpt
      obtain ⟨u0, e0⟩ : ∃ u, aq.tmps.getD 0 undef = u := ⟨_, rfl⟩
      obtain ⟨v2, e2, b2⟩ : ∃ v, aq.tmps.getD 2 undef = v ∧ wq.ownsRow w1.heap.size 5 1 v [T, sig].flatten.length ([T, sig].flatten.map u8N) := ⟨_, rfl, hslots 2 (by kernel_rfl)⟩
      have e3 : aq.tmps.getD 3 undef = Value.int .i64 0 := hslots 3 (by kernel_rfl)
      obtain ⟨u4, e4⟩ : ∃ u, aq.tmps.getD 4 undef = u := ⟨_, rfl⟩
      obtain ⟨u5, e5⟩ : ∃ u, aq.tmps.getD 5 undef = u := ⟨_, rfl⟩
      obtain ⟨u6, e6⟩ : ∃ u, aq.tmps.getD 6 undef = u := ⟨_, rfl⟩
      obtain ⟨u7, e7⟩ : ∃ u, aq.tmps.getD 7 undef = u := ⟨_, rfl⟩
      obtain ⟨u8, e8⟩ : ∃ u, aq.tmps.getD 8 undef = u := ⟨_, rfl⟩
      obtain ⟨u9, e9⟩ : ∃ u, aq.tmps.getD 9 undef = u := ⟨_, rfl⟩
      obtain ⟨u10, e10⟩ : ∃ u, aq.tmps.getD 10 undef = u := ⟨_, rfl⟩
      obtain ⟨u11, e11⟩ : ∃ u, aq.tmps.getD 11 undef = u := ⟨_, rfl⟩
      obtain ⟨u12, e12⟩ : ∃ u, aq.tmps.getD 12 undef = u := ⟨_, rfl⟩
      obtain rfl := Fg.frame_is (a := aq) (vs := [u0, Value.pointer (some ⟨N, 0, none⟩), v2, Value.int .i64 0, u4, u5, u6, u7, u8, u9, u10, u11, u12]) hsz ⟨e0, hrest 1 (by kernel_rfl), e2, e3, e4, e5, e6, e7, e8, e9, e10, e11, e12, trivial⟩ hdf
      clear hsz hdf hrest hslots hpt e0 e2 e3 e4 e5 e6 e7 e8 e9 e10 e11 e12
      have HR := Lib.hid (HQ.out wq v2 (gb_trans HG.out.1 hB) (own_down b2 HG.out.1.size))
      clear b2 hB
      refine wpList_nil ?_
      go_wp2
      exact HR.out
theorem refPut_any (r : R) (B : Nat) (w : World) (q : L) (h : RAt w B q r) : Calls Tryz.prog 35 #[q.v r] w (POut w (putO r) (errN (rightB r) 4)) := by
  have hb : ∀ i, (putO r).getD i 0 < 256 := by
    unfold putO
    cases hr : rightB r with
    | false => simp
    | true =>
      simp only [rightB, Bool.and_eq_true] at hr
      exact app_byte (text_small h hr.1).2 h.sig.byte
  refine (refPut_own r B w q h).mono fun e w' ⟨v, he, hg, ho⟩ => ?_
  obtain ⟨a, c, rfl, _, hB, _⟩ := own_slice ho hb
  exact ⟨a, c, he, hg, hB⟩
end Rc
end Go.Proofs.YtohcoihdijemfaaGreat

/- The document's Over (buttressref08). (Printed by gen_rcrefover.py.) -/
namespace Go.Proofs.YtohcoihdijemfaaGreat
open Go.RowKit Ow Wi Ve
namespace Rc
set_option maxHeartbeats 2000000 in
set_option maxRecDepth 100000 in
theorem refOver_any (ra rb : R) (B1 B2 : Nat) (w : World) (qa qb : L) (ha : RAt w B1 qa ra) (hb : RAt w B2 qb rb) : Calls Tryz.prog 40 #[qa.v ra, qb.v rb] w fun e w' => e = .returned (.bool (overB ra rb)) ∧ w.grownBy w' none := by
  have HX := Lib.hid (fun w' (hg : w.grownBy w' none) => refShape_any (shapeB ra) ra B1 w' qa (ha.stay hg) rfl)
  have HY := Lib.hid (fun w' (hg : w.grownBy w' none) => refShape_any (shapeB rb) rb B2 w' qb (hb.stay hg) rfl)
  have HH := Lib.hid (fun w' (hg : w.grownBy w' none) => refHas_any B1 qa.n1 qa.c1 qa.a1 ra.cx rb.cl rb.sq w' ha.l1 (ha.dots.stay hg) ha.top)
  have hz := str_eq qa.s qb.s
  rw [ha.str, hb.str] at hz
  obtain ⟨o, ho⟩ : ∃ o, o = overB ra rb := ⟨_, rfl⟩
  rw [← ho]
  have ho' : o = (shapeB ra && shapeB rb && decide (ra.key = rb.key) && hasB ra.cx (rb.cl, rb.sq)) := ho
  rw [← hz] at ho'
  clear ha hb hz ho
  generalize hasB ra.cx (rb.cl, rb.sq) = t at *
  generalize shapeB ra = x at *
  generalize shapeB rb = y at *
  obtain ⟨s, a1, n1, c1, a2, n2, c2, a3, n3, c3⟩ := qa
  obtain ⟨key, cl, sq, cx, g, val, sig⟩ := ra
  obtain ⟨s', a1', n1', c1', a2', n2', c2', a3', n3', c3'⟩ := qb
  obtain ⟨key', cl', sq', cx', g', val', sig'⟩ := rb
  replace HX : Hid (∀ w' (_ : w.grownBy w' none), Calls Tryz.prog 61 #[vV s cl sq a1 n1 c1 g a2 n2 c2 a3 n3 c3] w' fun e w'' => e = .returned (.bool x) ∧ w'.grownBy w'' none) := HX
  replace HY : Hid (∀ w' (_ : w.grownBy w' none), Calls Tryz.prog 61 #[vV s' cl' sq' a1' n1' c1' g' a2' n2' c2' a3' n3' c3'] w' fun e w'' => e = .returned (.bool y) ∧ w'.grownBy w'' none) := HY
  replace HH : Hid (∀ w' (_ : w.grownBy w' none), Calls Tryz.prog 64 #[.slice a1 n1 c1, .agg #[iV cl', iV sq']] w' fun e w'' => e = .returned (.bool t) ∧ w'.grownBy w'' none) := HH
  simp only at ho'
  obtain ⟨z, hz⟩ : ∃ z, (s.toList == s'.toList) = z := ⟨_, rfl⟩
  rw [hz] at ho'
  have HO := Lib.hid ho'; clear ho'
  show Calls _ _ #[vV s cl sq a1 n1 c1 g a2 n2 c2 a3 n3 c3, vV s' cl' sq' a1' n1' c1' g' a2' n2' c2' a3' n3' c3'] w _
  obtain ⟨W1, hW1⟩ : ∃ W1, W1 = w.alloc (.cells #[.string s, iV cl, iV sq, .slice a1 n1 c1, .bool g, .slice a2 n2 c2, .slice a3 n3 c3] 50) := ⟨_, rfl⟩
  obtain ⟨W2, hW2⟩ : ∃ W2, W2 = (w.alloc (.cells #[.string s, iV cl, iV sq, .slice a1 n1 c1, .bool g, .slice a2 n2 c2, .slice a3 n3 c3] 50)).alloc (.cells #[.string s', iV cl', iV sq', .slice a1' n1' c1', .bool g', .slice a2' n2' c2', .slice a3' n3' c3'] 50) := ⟨_, rfl⟩
  obtain ⟨M1, hM1⟩ : ∃ M, M = w.heap.size := ⟨_, rfl⟩
  obtain ⟨M2, hM2⟩ : ∃ M, M = w.heap.size + 1 := ⟨_, rfl⟩
  have hb1 : Blk W1 M1 50 [.string s, iV cl, iV sq, .slice a1 n1 c1, .bool g, .slice a2 n2 c2, .slice a3 n3 c3] := by rw [hW1, hM1]; exact Blk.new _ _ _
  have hg1 : w.grownBy W1 none := by rw [hW1]; exact gb_alloc (gb_refl _ _) _
  have hg2 : W1.grownBy W2 none := by rw [hW2, ← hW1]; exact gb_alloc (gb_refl _ _) _
  have hs1 : W1.heap.size = M2 := by rw [hW1, hM2]; exact World.size_alloc _ _
  have hb2 : Blk W2 M2 50 [.string s', iV cl', iV sq', .slice a1' n1' c1', .bool g', .slice a2' n2' c2', .slice a3' n3' c3'] := by rw [hW2, ← hW1, ← hs1]; exact Blk.new _ _ _
  have HG0 := Lib.hid (And.intro (gb_trans hg1 hg2) (And.intro (hb1.grown hg2 (by simp)) hb2)); clear hb1 hg1 hg2 hs1 hb2 hW1
  have m0 := HG0.out.2.1.cell (i := 0) rfl
  have m1 := HG0.out.2.1.cell (i := 1) rfl
  have m2 := HG0.out.2.1.cell (i := 2) rfl
  have m3 := HG0.out.2.1.cell (i := 3) rfl
  have m4 := HG0.out.2.1.cell (i := 4) rfl
  have m5 := HG0.out.2.1.cell (i := 5) rfl
  have m6 := HG0.out.2.1.cell (i := 6) rfl
  have p0 := HG0.out.2.2.cell (i := 0) rfl
  have p1 := HG0.out.2.2.cell (i := 1) rfl
  have p2 := HG0.out.2.2.cell (i := 2) rfl
  have p3 := HG0.out.2.2.cell (i := 3) rfl
  have p4 := HG0.out.2.2.cell (i := 4) rfl
  have p5 := HG0.out.2.2.cell (i := 5) rfl
  have p6 := HG0.out.2.2.cell (i := 6) rfl
  go_enter Tryz.func40, Tryz.ntmps40
  go_wp2_with fail
  rw [← hW2, ← hM2, ← hM1]
  clear hW2 hM1 hM2
  refine (HX.out W2 HG0.out.1).mono ?_
  rintro e w3 ⟨rfl, hg⟩
  have H3 := Lib.hid (And.intro (gb_trans HG0.out.1 hg) (And.intro (HG0.out.2.1.grown hg (by simp)) (HG0.out.2.2.grown hg (by simp))))
  clear hg HG0 m0 m1 m2 m3 m4 m5 m6 p0 p1 p2 p3 p4 p5 p6
  cases x with
  | false =>
    go_wp2
    go_ret
    exact ⟨by rw [HO.out]; simp, H3.out.1⟩
  | true =>
    have m0 := H3.out.2.1.cell (i := 0) rfl
    have m1 := H3.out.2.1.cell (i := 1) rfl
    have m2 := H3.out.2.1.cell (i := 2) rfl
    have m3 := H3.out.2.1.cell (i := 3) rfl
    have m4 := H3.out.2.1.cell (i := 4) rfl
    have m5 := H3.out.2.1.cell (i := 5) rfl
    have m6 := H3.out.2.1.cell (i := 6) rfl
    have p0 := H3.out.2.2.cell (i := 0) rfl
    have p1 := H3.out.2.2.cell (i := 1) rfl
    have p2 := H3.out.2.2.cell (i := 2) rfl
    have p3 := H3.out.2.2.cell (i := 3) rfl
    have p4 := H3.out.2.2.cell (i := 4) rfl
    have p5 := H3.out.2.2.cell (i := 5) rfl
    have p6 := H3.out.2.2.cell (i := 6) rfl
    go_wp2_with fail
    refine (HY.out w3 H3.out.1).mono ?_
    rintro e w4 ⟨rfl, hg⟩
    have H4 := Lib.hid (And.intro (gb_trans H3.out.1 hg) (And.intro (H3.out.2.1.grown hg (by simp)) (H3.out.2.2.grown hg (by simp))))
    clear hg H3 m0 m1 m2 m3 m4 m5 m6 p0 p1 p2 p3 p4 p5 p6
    cases y with
    | false =>
      go_wp2
      go_ret
      exact ⟨by rw [HO.out]; simp, H4.out.1⟩
    | true =>
      have m0 := H4.out.2.1.cell (i := 0) rfl
      have m1 := H4.out.2.1.cell (i := 1) rfl
      have m2 := H4.out.2.1.cell (i := 2) rfl
      have m3 := H4.out.2.1.cell (i := 3) rfl
      have m4 := H4.out.2.1.cell (i := 4) rfl
      have m5 := H4.out.2.1.cell (i := 5) rfl
      have m6 := H4.out.2.1.cell (i := 6) rfl
      have p0 := H4.out.2.2.cell (i := 0) rfl
      have p1 := H4.out.2.2.cell (i := 1) rfl
      have p2 := H4.out.2.2.cell (i := 2) rfl
      have p3 := H4.out.2.2.cell (i := 3) rfl
      have p4 := H4.out.2.2.cell (i := 4) rfl
      have p5 := H4.out.2.2.cell (i := 5) rfl
      have p6 := H4.out.2.2.cell (i := 6) rfl
      cases z with
      | false =>
        go_wp2
        go_ret
        exact ⟨by rw [HO.out]; simp, H4.out.1⟩
      | true =>
        go_wp2_with fail
        refine (HH.out w4 H4.out.1).mono ?_
        rintro e w5 ⟨rfl, hg⟩
        have H5 := Lib.hid (gb_trans H4.out.1 hg)
        clear hg m0 m1 m2 m3 m4 m5 m6 p0 p1 p2 p3 p4 p5 p6
        go_wp2
        go_ret
        exact ⟨by rw [HO.out]; simp, H5.out⟩
end Rc
end Go.Proofs.YtohcoihdijemfaaGreat

/- record.Over: who is over whom. (Printed by gen_rcover.py.) -/
namespace Go.Proofs.YtohcoihdijemfaaGreat
open Go.RowKit Ow Wi Ve
namespace Rc
set_option maxHeartbeats 4000000 in
set_option maxRecDepth 100000 in
theorem rover_any (ra rb : R) (B1 B2 : Nat) (w : World) (qa qb : L) (ha : RAt w B1 qa ra) (hb : RAt w B2 qb rb) : Calls Tryz.prog 39 #[qa.v ra, qb.v rb] w fun e w' => e = .returned (.bool (overB ra rb)) ∧ w.grownBy w' none := by
  have HX := Lib.hid (fun w' (hg : w.grownBy w' none) => shaped_any (shapeB ra) ra B1 w' qa (ha.stay hg) rfl)
  have HY := Lib.hid (fun w' (hg : w.grownBy w' none) => shaped_any (shapeB rb) rb B2 w' qb (hb.stay hg) rfl)
  have HH := Lib.hid (fun w' (hg : w.grownBy w' none) => has_any B1 qa.n1 qa.c1 qa.a1 ra.cx rb.cl rb.sq w' ha.l1 (ha.dots.stay hg) ha.top)
  have hz := str_eq qa.s qb.s
  rw [ha.str, hb.str] at hz
  obtain ⟨o, ho⟩ : ∃ o, o = overB ra rb := ⟨_, rfl⟩
  rw [← ho]
  have ho' : o = (shapeB ra && shapeB rb && decide (ra.key = rb.key) && hasB ra.cx (rb.cl, rb.sq)) := ho
  rw [← hz] at ho'
  clear ha hb hz ho
  generalize hasB ra.cx (rb.cl, rb.sq) = t at *
  generalize shapeB ra = x at *
  generalize shapeB rb = y at *
  obtain ⟨s, a1, n1, c1, a2, n2, c2, a3, n3, c3⟩ := qa
  obtain ⟨key, cl, sq, cx, g, val, sig⟩ := ra
  obtain ⟨s', a1', n1', c1', a2', n2', c2', a3', n3', c3'⟩ := qb
  obtain ⟨key', cl', sq', cx', g', val', sig'⟩ := rb
  replace HX : Hid (∀ w' (_ : w.grownBy w' none), Calls Tryz.prog 59 #[vV s cl sq a1 n1 c1 g a2 n2 c2 a3 n3 c3] w' fun e w'' => e = .returned (.bool x) ∧ w'.grownBy w'' none) := HX
  replace HY : Hid (∀ w' (_ : w.grownBy w' none), Calls Tryz.prog 59 #[vV s' cl' sq' a1' n1' c1' g' a2' n2' c2' a3' n3' c3'] w' fun e w'' => e = .returned (.bool y) ∧ w'.grownBy w'' none) := HY
  replace HH : Hid (∀ w' (_ : w.grownBy w' none), Calls Tryz.prog 62 #[.slice a1 n1 c1, .agg #[iV cl', iV sq']] w' fun e w'' => e = .returned (.bool t) ∧ w'.grownBy w'' none) := HH
  simp only at ho'
  obtain ⟨z, hz⟩ : ∃ z, (s.toList == s'.toList) = z := ⟨_, rfl⟩
  rw [hz] at ho'
  have HZ := Lib.hid hz; clear hz
  have HO := Lib.hid ho'; clear ho'
  show Calls _ _ #[vV s cl sq a1 n1 c1 g a2 n2 c2 a3 n3 c3, vV s' cl' sq' a1' n1' c1' g' a2' n2' c2' a3' n3' c3'] w _
  go_enter Tryz.func39, Tryz.ntmps39
  go_upto_region 1 with fail
  go_region
  focus
    obtain ⟨M1, hM1⟩ : ∃ M, M = w.heap.size + 1 + 1 := ⟨_, rfl⟩
    obtain ⟨M2, hM2⟩ : ∃ M, M = w.heap.size + 1 + 1 + 1 := ⟨_, rfl⟩
    obtain ⟨W0, hW0⟩ : ∃ W0, W0 = ((((w.alloc (.cells #[.string s, iV cl, iV sq, .slice a1 n1 c1, .bool g, .slice a2 n2 c2, .slice a3 n3 c3] 50)).alloc (.cells #[.string s', iV cl', iV sq', .slice a1' n1' c1', .bool g', .slice a2' n2' c2', .slice a3' n3' c3'] 50)).alloc (.cells #[.string s, iV cl, iV sq, .slice a1 n1 c1, .bool g, .slice a2 n2 c2, .slice a3 n3 c3] 102)).alloc (.cells #[.string s', iV cl', iV sq', .slice a1' n1' c1', .bool g', .slice a2' n2' c2', .slice a3' n3' c3'] 102)).drew := ⟨_, rfl⟩
    have hG0 : w.grownBy W0 none := by rw [hW0]; exact gb_drew (gb_alloc (gb_alloc (gb_alloc (gb_alloc (gb_refl _ _) _) _) _) _)
    have hP0 : Blk W0 M1 102 [.string s, iV cl, iV sq, .slice a1 n1 c1, .bool g, .slice a2 n2 c2, .slice a3 n3 c3] := by rw [hW0, hM1]; exact ((blk_at _ [.string s, iV cl, iV sq, .slice a1 n1 c1, .bool g, .slice a2 n2 c2, .slice a3 n3 c3] 102 (by simp)).alloc _).drew
    have hP1 : Blk W0 M2 102 [.string s', iV cl', iV sq', .slice a1' n1' c1', .bool g', .slice a2' n2' c2', .slice a3' n3' c3'] := by rw [hW0, hM2]; exact (blk_at _ [.string s', iV cl', iV sq', .slice a1' n1' c1', .bool g', .slice a2' n2' c2', .slice a3' n3' c3'] 102 (by simp)).drew
    rw [← hW0, ← hM2, ← hM1]
  rotate_left
  focus
    obtain ⟨M2, hM2⟩ : ∃ M, M = w.heap.size + 1 + 1 := ⟨_, rfl⟩
    obtain ⟨M1, hM1⟩ : ∃ M, M = w.heap.size + 1 + 1 + 1 := ⟨_, rfl⟩
    obtain ⟨W0, hW0⟩ : ∃ W0, W0 = ((((w.alloc (.cells #[.string s, iV cl, iV sq, .slice a1 n1 c1, .bool g, .slice a2 n2 c2, .slice a3 n3 c3] 50)).alloc (.cells #[.string s', iV cl', iV sq', .slice a1' n1' c1', .bool g', .slice a2' n2' c2', .slice a3' n3' c3'] 50)).alloc (.cells #[.string s', iV cl', iV sq', .slice a1' n1' c1', .bool g', .slice a2' n2' c2', .slice a3' n3' c3'] 102)).alloc (.cells #[.string s, iV cl, iV sq, .slice a1 n1 c1, .bool g, .slice a2 n2 c2, .slice a3 n3 c3] 102)).drew := ⟨_, rfl⟩
    have hG0 : w.grownBy W0 none := by rw [hW0]; exact gb_drew (gb_alloc (gb_alloc (gb_alloc (gb_alloc (gb_refl _ _) _) _) _) _)
    have hP1 : Blk W0 M2 102 [.string s', iV cl', iV sq', .slice a1' n1' c1', .bool g', .slice a2' n2' c2', .slice a3' n3' c3'] := by rw [hW0, hM2]; exact ((blk_at _ [.string s', iV cl', iV sq', .slice a1' n1' c1', .bool g', .slice a2' n2' c2', .slice a3' n3' c3'] 102 (by simp)).alloc _).drew
    have hP0 : Blk W0 M1 102 [.string s, iV cl, iV sq, .slice a1 n1 c1, .bool g, .slice a2 n2 c2, .slice a3 n3 c3] := by rw [hW0, hM1]; exact (blk_at _ [.string s, iV cl, iV sq, .slice a1 n1 c1, .bool g, .slice a2 n2 c2, .slice a3 n3 c3] 102 (by simp)).drew
    rw [← hW0, ← hM1, ← hM2]
  all_goals
    have HG0 := Lib.hid (And.intro hG0 (And.intro hP0 hP1)); clear hG0 hP0 hP1 hW0 hM1 hM2
    go_upto_region 2 with fail
    cases x with
    | false =>
      refine Fg.region_t [] [.any, .any, .any, .any, .val (Value.bool false), .any, .any, .any, .any, .any, .any, .val (vV s cl sq a1 n1 c1 g a2 n2 c2 a3 n3 c3), .val (Value.bool false), .val (Value.bool false), .val undef, .val undef, .val (Value.bool false), .val (Value.bool false), .val undef, .val undef, .val undef, .val undef, .val undef, .val undef, .val undef, .val (Value.bool false), .val (Value.bool false), .val undef, .val undef, .val undef, .val undef, .val undef, .val undef, .val (Value.bool false)] W0 24 (gb_refl _ _) (by kernel_rfl) (by kernel_rfl) (by kernel_rfl) (by kernel_rfl) (by decide) (by kernel_rfl) ?_ ?_
      · refine ⟨Fg.vT rfl (by decide) fun ac w h => ?_, ?_⟩
        · have e5 : ac.tmps.getD 5 undef = Value.pointer (some ⟨M1, 0, none⟩) := h.rest 5 (by kernel_rfl)
          have hb1 := HG0.out.2.1.grown h.base (by simp)
          have m0 := hb1.cell (i := 0) rfl
          have m1 := hb1.cell (i := 1) rfl
          have m2 := hb1.cell (i := 2) rfl
          have m3 := hb1.cell (i := 3) rfl
          have m4 := hb1.cell (i := 4) rfl
          have m5 := hb1.cell (i := 5) rfl
          have m6 := hb1.cell (i := 6) rfl
          refine ⟨vV s cl sq a1 n1 c1 g a2 n2 c2 a3 n3 c3, w, wants_none rfl, ?_, gb_refl _ _, rfl⟩
          clear h
          simp only [execOp, Act.eval, e5]
          go_simp
        refine ⟨Fg.cT rfl (by decide) fun ac w h => ?_, ?_⟩
        · have e11 : ac.tmps.getD 11 undef = vV s cl sq a1 n1 c1 g a2 n2 c2 a3 n3 c3 := h.dep 11 (by kernel_rfl)
          refine ⟨59, #[vV s cl sq a1 n1 c1 g a2 n2 c2 a3 n3 c3], wants_none rfl, Fg.run_call rfl rfl (by simp only [List.map_toArray, List.map_cons, List.map_nil, Act.eval, e11]) (Fg.run_enter Tryz.func59 (by kernel_rfl) (by kernel_rfl)), ?_⟩
          exact (HX.out w (gb_trans HG0.out.1 h.base)).mono fun _ _ ⟨he, hg⟩ => ⟨_, he, hg, rfl⟩
        refine ⟨Fg.vT rfl (by decide) fun ac w h => ?_, ?_⟩
        · have e12 : ac.tmps.getD 12 undef = Value.bool false := h.dep 12 (by kernel_rfl)
          exact ⟨_, w, wants_none rfl, Fg.run_move rfl e12, gb_refl _ _, rfl⟩
        refine ⟨Fg.sT rfl (by decide) (fun _ => rfl) fun ac w h => ?_, ?_⟩
        · have e13 : ac.tmps.getD 13 undef = Value.bool false := h.dep 13 (by kernel_rfl)
          exact not_wants (d := 13) rfl rfl (by rw [h.size]; show 13 < 34; decide) e13 (by decide)
        refine ⟨Fg.sT rfl (by decide) (fun _ => rfl) fun ac w h => ?_, ?_⟩
        · have e13 : ac.tmps.getD 13 undef = Value.bool false := h.dep 13 (by kernel_rfl)
          exact not_wants (d := 13) rfl rfl (by rw [h.size]; show 13 < 34; decide) e13 (by decide)
        refine ⟨Fg.vT rfl (by decide) fun ac w h => ?_, ?_⟩
        · have e13 : ac.tmps.getD 13 undef = Value.bool false := h.dep 13 (by kernel_rfl)
          refine ⟨Value.bool false, w, wants_none rfl, ?_, gb_refl _ _, rfl⟩
          clear h
          simp only [execOp, Act.eval, e13]
          go_simp
        refine ⟨Fg.vT rfl (by decide) fun ac w h => ?_, ?_⟩
        · have e16 : ac.tmps.getD 16 undef = Value.bool false := h.dep 16 (by kernel_rfl)
          exact ⟨_, w, wants_none rfl, Fg.run_move rfl e16, gb_refl _ _, rfl⟩
        refine ⟨Fg.sT rfl (by decide) (fun _ => rfl) fun ac w h => ?_, ?_⟩
        · have e17 : ac.tmps.getD 17 undef = Value.bool false := h.dep 17 (by kernel_rfl)
          exact not_wants (d := 17) rfl rfl (by rw [h.size]; show 17 < 34; decide) e17 (by decide)
        refine ⟨Fg.sT rfl (by decide) (fun _ => rfl) fun ac w h => ?_, ?_⟩
        · have e17 : ac.tmps.getD 17 undef = Value.bool false := h.dep 17 (by kernel_rfl)
          exact not_wants (d := 17) rfl rfl (by rw [h.size]; show 17 < 34; decide) e17 (by decide)
        refine ⟨Fg.sT rfl (by decide) (fun _ => rfl) fun ac w h => ?_, ?_⟩
        · have e17 : ac.tmps.getD 17 undef = Value.bool false := h.dep 17 (by kernel_rfl)
          exact not_wants (d := 17) rfl rfl (by rw [h.size]; show 17 < 34; decide) e17 (by decide)
        refine ⟨Fg.sT rfl (by decide) (fun _ => rfl) fun ac w h => ?_, ?_⟩
        · have e17 : ac.tmps.getD 17 undef = Value.bool false := h.dep 17 (by kernel_rfl)
          exact not_wants (d := 17) rfl rfl (by rw [h.size]; show 17 < 34; decide) e17 (by decide)
        refine ⟨Fg.sT rfl (by decide) (fun _ => rfl) fun ac w h => ?_, ?_⟩
        · have e17 : ac.tmps.getD 17 undef = Value.bool false := h.dep 17 (by kernel_rfl)
          exact not_wants (d := 17) rfl rfl (by rw [h.size]; show 17 < 34; decide) e17 (by decide)
        refine ⟨Fg.sT rfl (by decide) (fun _ => rfl) fun ac w h => ?_, ?_⟩
        · have e17 : ac.tmps.getD 17 undef = Value.bool false := h.dep 17 (by kernel_rfl)
          exact not_wants (d := 17) rfl rfl (by rw [h.size]; show 17 < 34; decide) e17 (by decide)
        refine ⟨Fg.sT rfl (by decide) (fun _ => rfl) fun ac w h => ?_, ?_⟩
        · have e17 : ac.tmps.getD 17 undef = Value.bool false := h.dep 17 (by kernel_rfl)
          exact not_wants (d := 17) rfl rfl (by rw [h.size]; show 17 < 34; decide) e17 (by decide)
        refine ⟨Fg.vT rfl (by decide) fun ac w h => ?_, ?_⟩
        · have e17 : ac.tmps.getD 17 undef = Value.bool false := h.dep 17 (by kernel_rfl)
          refine ⟨Value.bool false, w, wants_none rfl, ?_, gb_refl _ _, rfl⟩
          clear h
          simp only [execOp, Act.eval, e17]
          go_simp
        refine ⟨Fg.vT rfl (by decide) fun ac w h => ?_, ?_⟩
        · have e25 : ac.tmps.getD 25 undef = Value.bool false := h.dep 25 (by kernel_rfl)
          exact ⟨_, w, wants_none rfl, Fg.run_move rfl e25, gb_refl _ _, rfl⟩
        refine ⟨Fg.sT rfl (by decide) (fun _ => rfl) fun ac w h => ?_, ?_⟩
        · have e26 : ac.tmps.getD 26 undef = Value.bool false := h.dep 26 (by kernel_rfl)
          exact not_wants (d := 26) rfl rfl (by rw [h.size]; show 26 < 34; decide) e26 (by decide)
        refine ⟨Fg.sT rfl (by decide) (fun _ => rfl) fun ac w h => ?_, ?_⟩
        · have e26 : ac.tmps.getD 26 undef = Value.bool false := h.dep 26 (by kernel_rfl)
          exact not_wants (d := 26) rfl rfl (by rw [h.size]; show 26 < 34; decide) e26 (by decide)
        refine ⟨Fg.sT rfl (by decide) (fun _ => rfl) fun ac w h => ?_, ?_⟩
        · have e26 : ac.tmps.getD 26 undef = Value.bool false := h.dep 26 (by kernel_rfl)
          exact not_wants (d := 26) rfl rfl (by rw [h.size]; show 26 < 34; decide) e26 (by decide)
        refine ⟨Fg.sT rfl (by decide) (fun _ => rfl) fun ac w h => ?_, ?_⟩
        · have e26 : ac.tmps.getD 26 undef = Value.bool false := h.dep 26 (by kernel_rfl)
          exact not_wants (d := 26) rfl rfl (by rw [h.size]; show 26 < 34; decide) e26 (by decide)
        refine ⟨Fg.sT rfl (by decide) (fun _ => rfl) fun ac w h => ?_, ?_⟩
        · have e26 : ac.tmps.getD 26 undef = Value.bool false := h.dep 26 (by kernel_rfl)
          exact not_wants (d := 26) rfl rfl (by rw [h.size]; show 26 < 34; decide) e26 (by decide)
        refine ⟨Fg.sT rfl (by decide) (fun _ => rfl) fun ac w h => ?_, ?_⟩
        · have e26 : ac.tmps.getD 26 undef = Value.bool false := h.dep 26 (by kernel_rfl)
          exact not_wants (d := 26) rfl rfl (by rw [h.size]; show 26 < 34; decide) e26 (by decide)
        refine ⟨Fg.vT rfl (by decide) fun ac w h => ?_, ?_⟩
        · have e26 : ac.tmps.getD 26 undef = Value.bool false := h.dep 26 (by kernel_rfl)
          refine ⟨Value.bool false, w, wants_none rfl, ?_, gb_refl _ _, rfl⟩
          clear h
          simp only [execOp, Act.eval, e26]
          go_simp
        refine ⟨Fg.vT rfl (by decide) fun ac w h => ?_, ?_⟩
        · have e33 : ac.tmps.getD 33 undef = Value.bool false := h.dep 33 (by kernel_rfl)
          exact ⟨_, w, wants_none rfl, Fg.run_assign rfl e33, gb_refl _ _, rfl⟩
        trivial
      · intro aq wq hB hsz hdf hrest hslots hpt
        obtain ⟨u0, e0⟩ : ∃ u, aq.tmps.getD 0 undef = u := ⟨_, rfl⟩
        obtain ⟨u1, e1⟩ : ∃ u, aq.tmps.getD 1 undef = u := ⟨_, rfl⟩
        obtain ⟨u2, e2⟩ : ∃ u, aq.tmps.getD 2 undef = u := ⟨_, rfl⟩
        obtain ⟨u3, e3⟩ : ∃ u, aq.tmps.getD 3 undef = u := ⟨_, rfl⟩
        have e4 : aq.tmps.getD 4 undef = Value.bool false := hslots 4 (by kernel_rfl)
        obtain ⟨u5, e5⟩ : ∃ u, aq.tmps.getD 5 undef = u := ⟨_, rfl⟩
        obtain ⟨u6, e6⟩ : ∃ u, aq.tmps.getD 6 undef = u := ⟨_, rfl⟩
        obtain ⟨u7, e7⟩ : ∃ u, aq.tmps.getD 7 undef = u := ⟨_, rfl⟩
        obtain ⟨u8, e8⟩ : ∃ u, aq.tmps.getD 8 undef = u := ⟨_, rfl⟩
        obtain ⟨u9, e9⟩ : ∃ u, aq.tmps.getD 9 undef = u := ⟨_, rfl⟩
        obtain ⟨u10, e10⟩ : ∃ u, aq.tmps.getD 10 undef = u := ⟨_, rfl⟩
        obtain ⟨u11, e11⟩ : ∃ u, aq.tmps.getD 11 undef = u := ⟨_, rfl⟩
        obtain ⟨u12, e12⟩ : ∃ u, aq.tmps.getD 12 undef = u := ⟨_, rfl⟩
        obtain ⟨u13, e13⟩ : ∃ u, aq.tmps.getD 13 undef = u := ⟨_, rfl⟩
        obtain ⟨u14, e14⟩ : ∃ u, aq.tmps.getD 14 undef = u := ⟨_, rfl⟩
        obtain ⟨u15, e15⟩ : ∃ u, aq.tmps.getD 15 undef = u := ⟨_, rfl⟩
        obtain ⟨u16, e16⟩ : ∃ u, aq.tmps.getD 16 undef = u := ⟨_, rfl⟩
        obtain ⟨u17, e17⟩ : ∃ u, aq.tmps.getD 17 undef = u := ⟨_, rfl⟩
        obtain ⟨u18, e18⟩ : ∃ u, aq.tmps.getD 18 undef = u := ⟨_, rfl⟩
        obtain ⟨u19, e19⟩ : ∃ u, aq.tmps.getD 19 undef = u := ⟨_, rfl⟩
        obtain ⟨u20, e20⟩ : ∃ u, aq.tmps.getD 20 undef = u := ⟨_, rfl⟩
        obtain ⟨u21, e21⟩ : ∃ u, aq.tmps.getD 21 undef = u := ⟨_, rfl⟩
        obtain ⟨u22, e22⟩ : ∃ u, aq.tmps.getD 22 undef = u := ⟨_, rfl⟩
        obtain ⟨u23, e23⟩ : ∃ u, aq.tmps.getD 23 undef = u := ⟨_, rfl⟩
        obtain ⟨u24, e24⟩ : ∃ u, aq.tmps.getD 24 undef = u := ⟨_, rfl⟩
        obtain ⟨u25, e25⟩ : ∃ u, aq.tmps.getD 25 undef = u := ⟨_, rfl⟩
        obtain ⟨u26, e26⟩ : ∃ u, aq.tmps.getD 26 undef = u := ⟨_, rfl⟩
        obtain ⟨u27, e27⟩ : ∃ u, aq.tmps.getD 27 undef = u := ⟨_, rfl⟩
        obtain ⟨u28, e28⟩ : ∃ u, aq.tmps.getD 28 undef = u := ⟨_, rfl⟩
        obtain ⟨u29, e29⟩ : ∃ u, aq.tmps.getD 29 undef = u := ⟨_, rfl⟩
        obtain ⟨u30, e30⟩ : ∃ u, aq.tmps.getD 30 undef = u := ⟨_, rfl⟩
        obtain ⟨u31, e31⟩ : ∃ u, aq.tmps.getD 31 undef = u := ⟨_, rfl⟩
        obtain ⟨u32, e32⟩ : ∃ u, aq.tmps.getD 32 undef = u := ⟨_, rfl⟩
        obtain ⟨u33, e33⟩ : ∃ u, aq.tmps.getD 33 undef = u := ⟨_, rfl⟩
        obtain rfl := Fg.frame_is (a := aq) (vs := [u0, u1, u2, u3, Value.bool false, u5, u6, u7, u8, u9, u10, u11, u12, u13, u14, u15, u16, u17, u18, u19, u20, u21, u22, u23, u24, u25, u26, u27, u28, u29, u30, u31, u32, u33]) hsz ⟨e0, e1, e2, e3, e4, e5, e6, e7, e8, e9, e10, e11, e12, e13, e14, e15, e16, e17, e18, e19, e20, e21, e22, e23, e24, e25, e26, e27, e28, e29, e30, e31, e32, e33, trivial⟩ hdf
        clear hsz hdf hrest hslots hpt e0 e1 e2 e3 e4 e5 e6 e7 e8 e9 e10 e11 e12 e13 e14 e15 e16 e17 e18 e19 e20 e21 e22 e23 e24 e25 e26 e27 e28 e29 e30 e31 e32 e33
        have HR := Lib.hid (gb_trans HG0.out.1 hB)
        clear hB
        refine wpList_nil ?_
        go_wp2
        go_ret
        exact ⟨by rw [HO.out]; rfl, HR.out⟩
    | true =>
      cases y with
      | false =>
        refine Fg.region_t [] [.any, .any, .any, .any, .val (Value.bool false), .any, .any, .any, .any, .any, .any, .val (vV s cl sq a1 n1 c1 g a2 n2 c2 a3 n3 c3), .val (Value.bool true), .val (Value.bool true), .val (vV s' cl' sq' a1' n1' c1' g' a2' n2' c2' a3' n3' c3'), .val (Value.bool false), .val (Value.bool false), .val (Value.bool false), .val undef, .val undef, .val undef, .val undef, .val undef, .val undef, .val undef, .val (Value.bool false), .val (Value.bool false), .val undef, .val undef, .val undef, .val undef, .val undef, .val undef, .val (Value.bool false)] W0 24 (gb_refl _ _) (by kernel_rfl) (by kernel_rfl) (by kernel_rfl) (by kernel_rfl) (by decide) (by kernel_rfl) ?_ ?_
        · refine ⟨Fg.vT rfl (by decide) fun ac w h => ?_, ?_⟩
          · have e5 : ac.tmps.getD 5 undef = Value.pointer (some ⟨M1, 0, none⟩) := h.rest 5 (by kernel_rfl)
            have hb1 := HG0.out.2.1.grown h.base (by simp)
            have m0 := hb1.cell (i := 0) rfl
            have m1 := hb1.cell (i := 1) rfl
            have m2 := hb1.cell (i := 2) rfl
            have m3 := hb1.cell (i := 3) rfl
            have m4 := hb1.cell (i := 4) rfl
            have m5 := hb1.cell (i := 5) rfl
            have m6 := hb1.cell (i := 6) rfl
            refine ⟨vV s cl sq a1 n1 c1 g a2 n2 c2 a3 n3 c3, w, wants_none rfl, ?_, gb_refl _ _, rfl⟩
            clear h
            simp only [execOp, Act.eval, e5]
            go_simp
          refine ⟨Fg.cT rfl (by decide) fun ac w h => ?_, ?_⟩
          · have e11 : ac.tmps.getD 11 undef = vV s cl sq a1 n1 c1 g a2 n2 c2 a3 n3 c3 := h.dep 11 (by kernel_rfl)
            refine ⟨59, #[vV s cl sq a1 n1 c1 g a2 n2 c2 a3 n3 c3], wants_none rfl, Fg.run_call rfl rfl (by simp only [List.map_toArray, List.map_cons, List.map_nil, Act.eval, e11]) (Fg.run_enter Tryz.func59 (by kernel_rfl) (by kernel_rfl)), ?_⟩
            exact (HX.out w (gb_trans HG0.out.1 h.base)).mono fun _ _ ⟨he, hg⟩ => ⟨_, he, hg, rfl⟩
          refine ⟨Fg.vT rfl (by decide) fun ac w h => ?_, ?_⟩
          · have e12 : ac.tmps.getD 12 undef = Value.bool true := h.dep 12 (by kernel_rfl)
            exact ⟨_, w, wants_none rfl, Fg.run_move rfl e12, gb_refl _ _, rfl⟩
          refine ⟨Fg.vT rfl (by decide) fun ac w h => ?_, ?_⟩
          · have e13 : ac.tmps.getD 13 undef = Value.bool true := h.dep 13 (by kernel_rfl)
            have e6 : ac.tmps.getD 6 undef = Value.pointer (some ⟨M2, 0, none⟩) := h.rest 6 (by kernel_rfl)
            have hb2 := HG0.out.2.2.grown h.base (by simp)
            have m0 := hb2.cell (i := 0) rfl
            have m1 := hb2.cell (i := 1) rfl
            have m2 := hb2.cell (i := 2) rfl
            have m3 := hb2.cell (i := 3) rfl
            have m4 := hb2.cell (i := 4) rfl
            have m5 := hb2.cell (i := 5) rfl
            have m6 := hb2.cell (i := 6) rfl
            refine ⟨vV s' cl' sq' a1' n1' c1' g' a2' n2' c2' a3' n3' c3', w, wants_some (d := 13) rfl rfl (by rw [h.size]; show 13 < 34; decide) e13, ?_, gb_refl _ _, rfl⟩
            clear h
            simp only [execOp, Act.eval, e6]
            go_simp
          refine ⟨Fg.cT rfl (by decide) fun ac w h => ?_, ?_⟩
          · have e13 : ac.tmps.getD 13 undef = Value.bool true := h.dep 13 (by kernel_rfl)
            have e14 : ac.tmps.getD 14 undef = vV s' cl' sq' a1' n1' c1' g' a2' n2' c2' a3' n3' c3' := h.dep 14 (by kernel_rfl)
            refine ⟨59, #[vV s' cl' sq' a1' n1' c1' g' a2' n2' c2' a3' n3' c3'], wants_some (d := 13) rfl rfl (by rw [h.size]; show 13 < 34; decide) e13, Fg.run_call rfl rfl (by simp only [List.map_toArray, List.map_cons, List.map_nil, Act.eval, e14]) (Fg.run_enter Tryz.func59 (by kernel_rfl) (by kernel_rfl)), ?_⟩
            exact (HY.out w (gb_trans HG0.out.1 h.base)).mono fun _ _ ⟨he, hg⟩ => ⟨_, he, hg, rfl⟩
          refine ⟨Fg.vT rfl (by decide) fun ac w h => ?_, ?_⟩
          · have e13 : ac.tmps.getD 13 undef = Value.bool true := h.dep 13 (by kernel_rfl)
            have e15 : ac.tmps.getD 15 undef = Value.bool false := h.dep 15 (by kernel_rfl)
            refine ⟨Value.bool false, w, wants_none rfl, ?_, gb_refl _ _, rfl⟩
            clear h
            simp only [execOp, Act.eval, e13, e15]
            go_simp
          refine ⟨Fg.vT rfl (by decide) fun ac w h => ?_, ?_⟩
          · have e16 : ac.tmps.getD 16 undef = Value.bool false := h.dep 16 (by kernel_rfl)
            exact ⟨_, w, wants_none rfl, Fg.run_move rfl e16, gb_refl _ _, rfl⟩
          refine ⟨Fg.sT rfl (by decide) (fun _ => rfl) fun ac w h => ?_, ?_⟩
          · have e17 : ac.tmps.getD 17 undef = Value.bool false := h.dep 17 (by kernel_rfl)
            exact not_wants (d := 17) rfl rfl (by rw [h.size]; show 17 < 34; decide) e17 (by decide)
          refine ⟨Fg.sT rfl (by decide) (fun _ => rfl) fun ac w h => ?_, ?_⟩
          · have e17 : ac.tmps.getD 17 undef = Value.bool false := h.dep 17 (by kernel_rfl)
            exact not_wants (d := 17) rfl rfl (by rw [h.size]; show 17 < 34; decide) e17 (by decide)
          refine ⟨Fg.sT rfl (by decide) (fun _ => rfl) fun ac w h => ?_, ?_⟩
          · have e17 : ac.tmps.getD 17 undef = Value.bool false := h.dep 17 (by kernel_rfl)
            exact not_wants (d := 17) rfl rfl (by rw [h.size]; show 17 < 34; decide) e17 (by decide)
          refine ⟨Fg.sT rfl (by decide) (fun _ => rfl) fun ac w h => ?_, ?_⟩
          · have e17 : ac.tmps.getD 17 undef = Value.bool false := h.dep 17 (by kernel_rfl)
            exact not_wants (d := 17) rfl rfl (by rw [h.size]; show 17 < 34; decide) e17 (by decide)
          refine ⟨Fg.sT rfl (by decide) (fun _ => rfl) fun ac w h => ?_, ?_⟩
          · have e17 : ac.tmps.getD 17 undef = Value.bool false := h.dep 17 (by kernel_rfl)
            exact not_wants (d := 17) rfl rfl (by rw [h.size]; show 17 < 34; decide) e17 (by decide)
          refine ⟨Fg.sT rfl (by decide) (fun _ => rfl) fun ac w h => ?_, ?_⟩
          · have e17 : ac.tmps.getD 17 undef = Value.bool false := h.dep 17 (by kernel_rfl)
            exact not_wants (d := 17) rfl rfl (by rw [h.size]; show 17 < 34; decide) e17 (by decide)
          refine ⟨Fg.sT rfl (by decide) (fun _ => rfl) fun ac w h => ?_, ?_⟩
          · have e17 : ac.tmps.getD 17 undef = Value.bool false := h.dep 17 (by kernel_rfl)
            exact not_wants (d := 17) rfl rfl (by rw [h.size]; show 17 < 34; decide) e17 (by decide)
          refine ⟨Fg.vT rfl (by decide) fun ac w h => ?_, ?_⟩
          · have e17 : ac.tmps.getD 17 undef = Value.bool false := h.dep 17 (by kernel_rfl)
            refine ⟨Value.bool false, w, wants_none rfl, ?_, gb_refl _ _, rfl⟩
            clear h
            simp only [execOp, Act.eval, e17]
            go_simp
          refine ⟨Fg.vT rfl (by decide) fun ac w h => ?_, ?_⟩
          · have e25 : ac.tmps.getD 25 undef = Value.bool false := h.dep 25 (by kernel_rfl)
            exact ⟨_, w, wants_none rfl, Fg.run_move rfl e25, gb_refl _ _, rfl⟩
          refine ⟨Fg.sT rfl (by decide) (fun _ => rfl) fun ac w h => ?_, ?_⟩
          · have e26 : ac.tmps.getD 26 undef = Value.bool false := h.dep 26 (by kernel_rfl)
            exact not_wants (d := 26) rfl rfl (by rw [h.size]; show 26 < 34; decide) e26 (by decide)
          refine ⟨Fg.sT rfl (by decide) (fun _ => rfl) fun ac w h => ?_, ?_⟩
          · have e26 : ac.tmps.getD 26 undef = Value.bool false := h.dep 26 (by kernel_rfl)
            exact not_wants (d := 26) rfl rfl (by rw [h.size]; show 26 < 34; decide) e26 (by decide)
          refine ⟨Fg.sT rfl (by decide) (fun _ => rfl) fun ac w h => ?_, ?_⟩
          · have e26 : ac.tmps.getD 26 undef = Value.bool false := h.dep 26 (by kernel_rfl)
            exact not_wants (d := 26) rfl rfl (by rw [h.size]; show 26 < 34; decide) e26 (by decide)
          refine ⟨Fg.sT rfl (by decide) (fun _ => rfl) fun ac w h => ?_, ?_⟩
          · have e26 : ac.tmps.getD 26 undef = Value.bool false := h.dep 26 (by kernel_rfl)
            exact not_wants (d := 26) rfl rfl (by rw [h.size]; show 26 < 34; decide) e26 (by decide)
          refine ⟨Fg.sT rfl (by decide) (fun _ => rfl) fun ac w h => ?_, ?_⟩
          · have e26 : ac.tmps.getD 26 undef = Value.bool false := h.dep 26 (by kernel_rfl)
            exact not_wants (d := 26) rfl rfl (by rw [h.size]; show 26 < 34; decide) e26 (by decide)
          refine ⟨Fg.sT rfl (by decide) (fun _ => rfl) fun ac w h => ?_, ?_⟩
          · have e26 : ac.tmps.getD 26 undef = Value.bool false := h.dep 26 (by kernel_rfl)
            exact not_wants (d := 26) rfl rfl (by rw [h.size]; show 26 < 34; decide) e26 (by decide)
          refine ⟨Fg.vT rfl (by decide) fun ac w h => ?_, ?_⟩
          · have e26 : ac.tmps.getD 26 undef = Value.bool false := h.dep 26 (by kernel_rfl)
            refine ⟨Value.bool false, w, wants_none rfl, ?_, gb_refl _ _, rfl⟩
            clear h
            simp only [execOp, Act.eval, e26]
            go_simp
          refine ⟨Fg.vT rfl (by decide) fun ac w h => ?_, ?_⟩
          · have e33 : ac.tmps.getD 33 undef = Value.bool false := h.dep 33 (by kernel_rfl)
            exact ⟨_, w, wants_none rfl, Fg.run_assign rfl e33, gb_refl _ _, rfl⟩
          trivial
        · intro aq wq hB hsz hdf hrest hslots hpt
          obtain ⟨u0, e0⟩ : ∃ u, aq.tmps.getD 0 undef = u := ⟨_, rfl⟩
          obtain ⟨u1, e1⟩ : ∃ u, aq.tmps.getD 1 undef = u := ⟨_, rfl⟩
          obtain ⟨u2, e2⟩ : ∃ u, aq.tmps.getD 2 undef = u := ⟨_, rfl⟩
          obtain ⟨u3, e3⟩ : ∃ u, aq.tmps.getD 3 undef = u := ⟨_, rfl⟩
          have e4 : aq.tmps.getD 4 undef = Value.bool false := hslots 4 (by kernel_rfl)
          obtain ⟨u5, e5⟩ : ∃ u, aq.tmps.getD 5 undef = u := ⟨_, rfl⟩
          obtain ⟨u6, e6⟩ : ∃ u, aq.tmps.getD 6 undef = u := ⟨_, rfl⟩
          obtain ⟨u7, e7⟩ : ∃ u, aq.tmps.getD 7 undef = u := ⟨_, rfl⟩
          obtain ⟨u8, e8⟩ : ∃ u, aq.tmps.getD 8 undef = u := ⟨_, rfl⟩
          obtain ⟨u9, e9⟩ : ∃ u, aq.tmps.getD 9 undef = u := ⟨_, rfl⟩
          obtain ⟨u10, e10⟩ : ∃ u, aq.tmps.getD 10 undef = u := ⟨_, rfl⟩
          obtain ⟨u11, e11⟩ : ∃ u, aq.tmps.getD 11 undef = u := ⟨_, rfl⟩
          obtain ⟨u12, e12⟩ : ∃ u, aq.tmps.getD 12 undef = u := ⟨_, rfl⟩
          obtain ⟨u13, e13⟩ : ∃ u, aq.tmps.getD 13 undef = u := ⟨_, rfl⟩
          obtain ⟨u14, e14⟩ : ∃ u, aq.tmps.getD 14 undef = u := ⟨_, rfl⟩
          obtain ⟨u15, e15⟩ : ∃ u, aq.tmps.getD 15 undef = u := ⟨_, rfl⟩
          obtain ⟨u16, e16⟩ : ∃ u, aq.tmps.getD 16 undef = u := ⟨_, rfl⟩
          obtain ⟨u17, e17⟩ : ∃ u, aq.tmps.getD 17 undef = u := ⟨_, rfl⟩
          obtain ⟨u18, e18⟩ : ∃ u, aq.tmps.getD 18 undef = u := ⟨_, rfl⟩
          obtain ⟨u19, e19⟩ : ∃ u, aq.tmps.getD 19 undef = u := ⟨_, rfl⟩
          obtain ⟨u20, e20⟩ : ∃ u, aq.tmps.getD 20 undef = u := ⟨_, rfl⟩
          obtain ⟨u21, e21⟩ : ∃ u, aq.tmps.getD 21 undef = u := ⟨_, rfl⟩
          obtain ⟨u22, e22⟩ : ∃ u, aq.tmps.getD 22 undef = u := ⟨_, rfl⟩
          obtain ⟨u23, e23⟩ : ∃ u, aq.tmps.getD 23 undef = u := ⟨_, rfl⟩
          obtain ⟨u24, e24⟩ : ∃ u, aq.tmps.getD 24 undef = u := ⟨_, rfl⟩
          obtain ⟨u25, e25⟩ : ∃ u, aq.tmps.getD 25 undef = u := ⟨_, rfl⟩
          obtain ⟨u26, e26⟩ : ∃ u, aq.tmps.getD 26 undef = u := ⟨_, rfl⟩
          obtain ⟨u27, e27⟩ : ∃ u, aq.tmps.getD 27 undef = u := ⟨_, rfl⟩
          obtain ⟨u28, e28⟩ : ∃ u, aq.tmps.getD 28 undef = u := ⟨_, rfl⟩
          obtain ⟨u29, e29⟩ : ∃ u, aq.tmps.getD 29 undef = u := ⟨_, rfl⟩
          obtain ⟨u30, e30⟩ : ∃ u, aq.tmps.getD 30 undef = u := ⟨_, rfl⟩
          obtain ⟨u31, e31⟩ : ∃ u, aq.tmps.getD 31 undef = u := ⟨_, rfl⟩
          obtain ⟨u32, e32⟩ : ∃ u, aq.tmps.getD 32 undef = u := ⟨_, rfl⟩
          obtain ⟨u33, e33⟩ : ∃ u, aq.tmps.getD 33 undef = u := ⟨_, rfl⟩
          obtain rfl := Fg.frame_is (a := aq) (vs := [u0, u1, u2, u3, Value.bool false, u5, u6, u7, u8, u9, u10, u11, u12, u13, u14, u15, u16, u17, u18, u19, u20, u21, u22, u23, u24, u25, u26, u27, u28, u29, u30, u31, u32, u33]) hsz ⟨e0, e1, e2, e3, e4, e5, e6, e7, e8, e9, e10, e11, e12, e13, e14, e15, e16, e17, e18, e19, e20, e21, e22, e23, e24, e25, e26, e27, e28, e29, e30, e31, e32, e33, trivial⟩ hdf
          clear hsz hdf hrest hslots hpt e0 e1 e2 e3 e4 e5 e6 e7 e8 e9 e10 e11 e12 e13 e14 e15 e16 e17 e18 e19 e20 e21 e22 e23 e24 e25 e26 e27 e28 e29 e30 e31 e32 e33
          have HR := Lib.hid (gb_trans HG0.out.1 hB)
          clear hB
          refine wpList_nil ?_
          go_wp2
          go_ret
          exact ⟨by rw [HO.out]; rfl, HR.out⟩
      | true =>
        cases z with
        | false =>
          refine Fg.region_t [] [.any, .any, .any, .any, .val (Value.bool false), .any, .any, .any, .any, .any, .any, .val (vV s cl sq a1 n1 c1 g a2 n2 c2 a3 n3 c3), .val (Value.bool true), .val (Value.bool true), .val (vV s' cl' sq' a1' n1' c1' g' a2' n2' c2' a3' n3' c3'), .val (Value.bool true), .val (Value.bool true), .val (Value.bool true), .val (Value.pointer (some ⟨M1, 0, none⟩)), .val (Value.pointer (some ⟨M1, 0, none⟩)), .val (Value.string s), .val (Value.pointer (some ⟨M2, 0, none⟩)), .val (Value.pointer (some ⟨M2, 0, none⟩)), .val (Value.string s'), .val (Value.bool false), .val (Value.bool false), .val (Value.bool false), .val undef, .val undef, .val undef, .val undef, .val undef, .val undef, .val (Value.bool false)] W0 24 (gb_refl _ _) (by kernel_rfl) (by kernel_rfl) (by kernel_rfl) (by kernel_rfl) (by decide) (by kernel_rfl) ?_ ?_
          · refine ⟨Fg.vT rfl (by decide) fun ac w h => ?_, ?_⟩
            · have e5 : ac.tmps.getD 5 undef = Value.pointer (some ⟨M1, 0, none⟩) := h.rest 5 (by kernel_rfl)
              have hb1 := HG0.out.2.1.grown h.base (by simp)
              have m0 := hb1.cell (i := 0) rfl
              have m1 := hb1.cell (i := 1) rfl
              have m2 := hb1.cell (i := 2) rfl
              have m3 := hb1.cell (i := 3) rfl
              have m4 := hb1.cell (i := 4) rfl
              have m5 := hb1.cell (i := 5) rfl
              have m6 := hb1.cell (i := 6) rfl
              refine ⟨vV s cl sq a1 n1 c1 g a2 n2 c2 a3 n3 c3, w, wants_none rfl, ?_, gb_refl _ _, rfl⟩
              clear h
              simp only [execOp, Act.eval, e5]
              go_simp
            refine ⟨Fg.cT rfl (by decide) fun ac w h => ?_, ?_⟩
            · have e11 : ac.tmps.getD 11 undef = vV s cl sq a1 n1 c1 g a2 n2 c2 a3 n3 c3 := h.dep 11 (by kernel_rfl)
              refine ⟨59, #[vV s cl sq a1 n1 c1 g a2 n2 c2 a3 n3 c3], wants_none rfl, Fg.run_call rfl rfl (by simp only [List.map_toArray, List.map_cons, List.map_nil, Act.eval, e11]) (Fg.run_enter Tryz.func59 (by kernel_rfl) (by kernel_rfl)), ?_⟩
              exact (HX.out w (gb_trans HG0.out.1 h.base)).mono fun _ _ ⟨he, hg⟩ => ⟨_, he, hg, rfl⟩
            refine ⟨Fg.vT rfl (by decide) fun ac w h => ?_, ?_⟩
            · have e12 : ac.tmps.getD 12 undef = Value.bool true := h.dep 12 (by kernel_rfl)
              exact ⟨_, w, wants_none rfl, Fg.run_move rfl e12, gb_refl _ _, rfl⟩
            refine ⟨Fg.vT rfl (by decide) fun ac w h => ?_, ?_⟩
            · have e13 : ac.tmps.getD 13 undef = Value.bool true := h.dep 13 (by kernel_rfl)
              have e6 : ac.tmps.getD 6 undef = Value.pointer (some ⟨M2, 0, none⟩) := h.rest 6 (by kernel_rfl)
              have hb2 := HG0.out.2.2.grown h.base (by simp)
              have m0 := hb2.cell (i := 0) rfl
              have m1 := hb2.cell (i := 1) rfl
              have m2 := hb2.cell (i := 2) rfl
              have m3 := hb2.cell (i := 3) rfl
              have m4 := hb2.cell (i := 4) rfl
              have m5 := hb2.cell (i := 5) rfl
              have m6 := hb2.cell (i := 6) rfl
              refine ⟨vV s' cl' sq' a1' n1' c1' g' a2' n2' c2' a3' n3' c3', w, wants_some (d := 13) rfl rfl (by rw [h.size]; show 13 < 34; decide) e13, ?_, gb_refl _ _, rfl⟩
              clear h
              simp only [execOp, Act.eval, e6]
              go_simp
            refine ⟨Fg.cT rfl (by decide) fun ac w h => ?_, ?_⟩
            · have e13 : ac.tmps.getD 13 undef = Value.bool true := h.dep 13 (by kernel_rfl)
              have e14 : ac.tmps.getD 14 undef = vV s' cl' sq' a1' n1' c1' g' a2' n2' c2' a3' n3' c3' := h.dep 14 (by kernel_rfl)
              refine ⟨59, #[vV s' cl' sq' a1' n1' c1' g' a2' n2' c2' a3' n3' c3'], wants_some (d := 13) rfl rfl (by rw [h.size]; show 13 < 34; decide) e13, Fg.run_call rfl rfl (by simp only [List.map_toArray, List.map_cons, List.map_nil, Act.eval, e14]) (Fg.run_enter Tryz.func59 (by kernel_rfl) (by kernel_rfl)), ?_⟩
              exact (HY.out w (gb_trans HG0.out.1 h.base)).mono fun _ _ ⟨he, hg⟩ => ⟨_, he, hg, rfl⟩
            refine ⟨Fg.vT rfl (by decide) fun ac w h => ?_, ?_⟩
            · have e13 : ac.tmps.getD 13 undef = Value.bool true := h.dep 13 (by kernel_rfl)
              have e15 : ac.tmps.getD 15 undef = Value.bool true := h.dep 15 (by kernel_rfl)
              refine ⟨Value.bool true, w, wants_none rfl, ?_, gb_refl _ _, rfl⟩
              clear h
              simp only [execOp, Act.eval, e13, e15]
              go_simp
            refine ⟨Fg.vT rfl (by decide) fun ac w h => ?_, ?_⟩
            · have e16 : ac.tmps.getD 16 undef = Value.bool true := h.dep 16 (by kernel_rfl)
              exact ⟨_, w, wants_none rfl, Fg.run_move rfl e16, gb_refl _ _, rfl⟩
            refine ⟨Fg.vT rfl (by decide) fun ac w h => ?_, ?_⟩
            · have e17 : ac.tmps.getD 17 undef = Value.bool true := h.dep 17 (by kernel_rfl)
              have e5 : ac.tmps.getD 5 undef = Value.pointer (some ⟨M1, 0, none⟩) := h.rest 5 (by kernel_rfl)
              refine ⟨Value.pointer (some ⟨M1, 0, none⟩), w, wants_some (d := 17) rfl rfl (by rw [h.size]; show 17 < 34; decide) e17, ?_, gb_refl _ _, rfl⟩
              clear h
              simp only [execOp, Act.eval, e5]
              go_simp
            refine ⟨Fg.vT rfl (by decide) fun ac w h => ?_, ?_⟩
            · have e17 : ac.tmps.getD 17 undef = Value.bool true := h.dep 17 (by kernel_rfl)
              have e18 : ac.tmps.getD 18 undef = Value.pointer (some ⟨M1, 0, none⟩) := h.dep 18 (by kernel_rfl)
              refine ⟨Value.pointer (some ⟨M1, 0, none⟩), w, wants_some (d := 17) rfl rfl (by rw [h.size]; show 17 < 34; decide) e17, ?_, gb_refl _ _, rfl⟩
              clear h
              simp only [execOp, Act.eval, e18]
              go_simp
            refine ⟨Fg.vT rfl (by decide) fun ac w h => ?_, ?_⟩
            · have e17 : ac.tmps.getD 17 undef = Value.bool true := h.dep 17 (by kernel_rfl)
              have e19 : ac.tmps.getD 19 undef = Value.pointer (some ⟨M1, 0, none⟩) := h.dep 19 (by kernel_rfl)
              have hb1 := HG0.out.2.1.grown h.base (by simp)
              have m0 := hb1.cell (i := 0) rfl
              refine ⟨Value.string s, w, wants_some (d := 17) rfl rfl (by rw [h.size]; show 17 < 34; decide) e17, ?_, gb_refl _ _, rfl⟩
              clear h
              simp only [execOp, Act.eval, e19]
              go_simp
            refine ⟨Fg.vT rfl (by decide) fun ac w h => ?_, ?_⟩
            · have e17 : ac.tmps.getD 17 undef = Value.bool true := h.dep 17 (by kernel_rfl)
              have e6 : ac.tmps.getD 6 undef = Value.pointer (some ⟨M2, 0, none⟩) := h.rest 6 (by kernel_rfl)
              refine ⟨Value.pointer (some ⟨M2, 0, none⟩), w, wants_some (d := 17) rfl rfl (by rw [h.size]; show 17 < 34; decide) e17, ?_, gb_refl _ _, rfl⟩
              clear h
              simp only [execOp, Act.eval, e6]
              go_simp
            refine ⟨Fg.vT rfl (by decide) fun ac w h => ?_, ?_⟩
            · have e17 : ac.tmps.getD 17 undef = Value.bool true := h.dep 17 (by kernel_rfl)
              have e21 : ac.tmps.getD 21 undef = Value.pointer (some ⟨M2, 0, none⟩) := h.dep 21 (by kernel_rfl)
              refine ⟨Value.pointer (some ⟨M2, 0, none⟩), w, wants_some (d := 17) rfl rfl (by rw [h.size]; show 17 < 34; decide) e17, ?_, gb_refl _ _, rfl⟩
              clear h
              simp only [execOp, Act.eval, e21]
              go_simp
            refine ⟨Fg.vT rfl (by decide) fun ac w h => ?_, ?_⟩
            · have e17 : ac.tmps.getD 17 undef = Value.bool true := h.dep 17 (by kernel_rfl)
              have e22 : ac.tmps.getD 22 undef = Value.pointer (some ⟨M2, 0, none⟩) := h.dep 22 (by kernel_rfl)
              have hb2 := HG0.out.2.2.grown h.base (by simp)
              have m0 := hb2.cell (i := 0) rfl
              refine ⟨Value.string s', w, wants_some (d := 17) rfl rfl (by rw [h.size]; show 17 < 34; decide) e17, ?_, gb_refl _ _, rfl⟩
              clear h
              simp only [execOp, Act.eval, e22]
              go_simp
            refine ⟨Fg.vT rfl (by decide) fun ac w h => ?_, ?_⟩
            · have e17 : ac.tmps.getD 17 undef = Value.bool true := h.dep 17 (by kernel_rfl)
              have e20 : ac.tmps.getD 20 undef = Value.string s := h.dep 20 (by kernel_rfl)
              have e23 : ac.tmps.getD 23 undef = Value.string s' := h.dep 23 (by kernel_rfl)
              have hz := HZ.out
              refine ⟨.bool false, w, wants_some (d := 17) rfl rfl (by rw [h.size]; show 17 < 34; decide) e17, ?_, gb_refl _ _, rfl⟩
              clear h
              simp only [execOp, Act.eval, e20, e23]
              go_simp
            refine ⟨Fg.vT rfl (by decide) fun ac w h => ?_, ?_⟩
            · have e17 : ac.tmps.getD 17 undef = Value.bool true := h.dep 17 (by kernel_rfl)
              have e24 : ac.tmps.getD 24 undef = Value.bool false := h.dep 24 (by kernel_rfl)
              refine ⟨Value.bool false, w, wants_none rfl, ?_, gb_refl _ _, rfl⟩
              clear h
              simp only [execOp, Act.eval, e17, e24]
              go_simp
            refine ⟨Fg.vT rfl (by decide) fun ac w h => ?_, ?_⟩
            · have e25 : ac.tmps.getD 25 undef = Value.bool false := h.dep 25 (by kernel_rfl)
              exact ⟨_, w, wants_none rfl, Fg.run_move rfl e25, gb_refl _ _, rfl⟩
            refine ⟨Fg.sT rfl (by decide) (fun _ => rfl) fun ac w h => ?_, ?_⟩
            · have e26 : ac.tmps.getD 26 undef = Value.bool false := h.dep 26 (by kernel_rfl)
              exact not_wants (d := 26) rfl rfl (by rw [h.size]; show 26 < 34; decide) e26 (by decide)
            refine ⟨Fg.sT rfl (by decide) (fun _ => rfl) fun ac w h => ?_, ?_⟩
            · have e26 : ac.tmps.getD 26 undef = Value.bool false := h.dep 26 (by kernel_rfl)
              exact not_wants (d := 26) rfl rfl (by rw [h.size]; show 26 < 34; decide) e26 (by decide)
            refine ⟨Fg.sT rfl (by decide) (fun _ => rfl) fun ac w h => ?_, ?_⟩
            · have e26 : ac.tmps.getD 26 undef = Value.bool false := h.dep 26 (by kernel_rfl)
              exact not_wants (d := 26) rfl rfl (by rw [h.size]; show 26 < 34; decide) e26 (by decide)
            refine ⟨Fg.sT rfl (by decide) (fun _ => rfl) fun ac w h => ?_, ?_⟩
            · have e26 : ac.tmps.getD 26 undef = Value.bool false := h.dep 26 (by kernel_rfl)
              exact not_wants (d := 26) rfl rfl (by rw [h.size]; show 26 < 34; decide) e26 (by decide)
            refine ⟨Fg.sT rfl (by decide) (fun _ => rfl) fun ac w h => ?_, ?_⟩
            · have e26 : ac.tmps.getD 26 undef = Value.bool false := h.dep 26 (by kernel_rfl)
              exact not_wants (d := 26) rfl rfl (by rw [h.size]; show 26 < 34; decide) e26 (by decide)
            refine ⟨Fg.sT rfl (by decide) (fun _ => rfl) fun ac w h => ?_, ?_⟩
            · have e26 : ac.tmps.getD 26 undef = Value.bool false := h.dep 26 (by kernel_rfl)
              exact not_wants (d := 26) rfl rfl (by rw [h.size]; show 26 < 34; decide) e26 (by decide)
            refine ⟨Fg.vT rfl (by decide) fun ac w h => ?_, ?_⟩
            · have e26 : ac.tmps.getD 26 undef = Value.bool false := h.dep 26 (by kernel_rfl)
              refine ⟨Value.bool false, w, wants_none rfl, ?_, gb_refl _ _, rfl⟩
              clear h
              simp only [execOp, Act.eval, e26]
              go_simp
            refine ⟨Fg.vT rfl (by decide) fun ac w h => ?_, ?_⟩
            · have e33 : ac.tmps.getD 33 undef = Value.bool false := h.dep 33 (by kernel_rfl)
              exact ⟨_, w, wants_none rfl, Fg.run_assign rfl e33, gb_refl _ _, rfl⟩
            trivial
          · intro aq wq hB hsz hdf hrest hslots hpt
            obtain ⟨u0, e0⟩ : ∃ u, aq.tmps.getD 0 undef = u := ⟨_, rfl⟩
            obtain ⟨u1, e1⟩ : ∃ u, aq.tmps.getD 1 undef = u := ⟨_, rfl⟩
            obtain ⟨u2, e2⟩ : ∃ u, aq.tmps.getD 2 undef = u := ⟨_, rfl⟩
            obtain ⟨u3, e3⟩ : ∃ u, aq.tmps.getD 3 undef = u := ⟨_, rfl⟩
            have e4 : aq.tmps.getD 4 undef = Value.bool false := hslots 4 (by kernel_rfl)
            obtain ⟨u5, e5⟩ : ∃ u, aq.tmps.getD 5 undef = u := ⟨_, rfl⟩
            obtain ⟨u6, e6⟩ : ∃ u, aq.tmps.getD 6 undef = u := ⟨_, rfl⟩
            obtain ⟨u7, e7⟩ : ∃ u, aq.tmps.getD 7 undef = u := ⟨_, rfl⟩
            obtain ⟨u8, e8⟩ : ∃ u, aq.tmps.getD 8 undef = u := ⟨_, rfl⟩
            obtain ⟨u9, e9⟩ : ∃ u, aq.tmps.getD 9 undef = u := ⟨_, rfl⟩
            obtain ⟨u10, e10⟩ : ∃ u, aq.tmps.getD 10 undef = u := ⟨_, rfl⟩
            obtain ⟨u11, e11⟩ : ∃ u, aq.tmps.getD 11 undef = u := ⟨_, rfl⟩
            obtain ⟨u12, e12⟩ : ∃ u, aq.tmps.getD 12 undef = u := ⟨_, rfl⟩
            obtain ⟨u13, e13⟩ : ∃ u, aq.tmps.getD 13 undef = u := ⟨_, rfl⟩
            obtain ⟨u14, e14⟩ : ∃ u, aq.tmps.getD 14 undef = u := ⟨_, rfl⟩
            obtain ⟨u15, e15⟩ : ∃ u, aq.tmps.getD 15 undef = u := ⟨_, rfl⟩
            obtain ⟨u16, e16⟩ : ∃ u, aq.tmps.getD 16 undef = u := ⟨_, rfl⟩
            obtain ⟨u17, e17⟩ : ∃ u, aq.tmps.getD 17 undef = u := ⟨_, rfl⟩
            obtain ⟨u18, e18⟩ : ∃ u, aq.tmps.getD 18 undef = u := ⟨_, rfl⟩
            obtain ⟨u19, e19⟩ : ∃ u, aq.tmps.getD 19 undef = u := ⟨_, rfl⟩
            obtain ⟨u20, e20⟩ : ∃ u, aq.tmps.getD 20 undef = u := ⟨_, rfl⟩
            obtain ⟨u21, e21⟩ : ∃ u, aq.tmps.getD 21 undef = u := ⟨_, rfl⟩
            obtain ⟨u22, e22⟩ : ∃ u, aq.tmps.getD 22 undef = u := ⟨_, rfl⟩
            obtain ⟨u23, e23⟩ : ∃ u, aq.tmps.getD 23 undef = u := ⟨_, rfl⟩
            obtain ⟨u24, e24⟩ : ∃ u, aq.tmps.getD 24 undef = u := ⟨_, rfl⟩
            obtain ⟨u25, e25⟩ : ∃ u, aq.tmps.getD 25 undef = u := ⟨_, rfl⟩
            obtain ⟨u26, e26⟩ : ∃ u, aq.tmps.getD 26 undef = u := ⟨_, rfl⟩
            obtain ⟨u27, e27⟩ : ∃ u, aq.tmps.getD 27 undef = u := ⟨_, rfl⟩
            obtain ⟨u28, e28⟩ : ∃ u, aq.tmps.getD 28 undef = u := ⟨_, rfl⟩
            obtain ⟨u29, e29⟩ : ∃ u, aq.tmps.getD 29 undef = u := ⟨_, rfl⟩
            obtain ⟨u30, e30⟩ : ∃ u, aq.tmps.getD 30 undef = u := ⟨_, rfl⟩
            obtain ⟨u31, e31⟩ : ∃ u, aq.tmps.getD 31 undef = u := ⟨_, rfl⟩
            obtain ⟨u32, e32⟩ : ∃ u, aq.tmps.getD 32 undef = u := ⟨_, rfl⟩
            obtain ⟨u33, e33⟩ : ∃ u, aq.tmps.getD 33 undef = u := ⟨_, rfl⟩
            obtain rfl := Fg.frame_is (a := aq) (vs := [u0, u1, u2, u3, Value.bool false, u5, u6, u7, u8, u9, u10, u11, u12, u13, u14, u15, u16, u17, u18, u19, u20, u21, u22, u23, u24, u25, u26, u27, u28, u29, u30, u31, u32, u33]) hsz ⟨e0, e1, e2, e3, e4, e5, e6, e7, e8, e9, e10, e11, e12, e13, e14, e15, e16, e17, e18, e19, e20, e21, e22, e23, e24, e25, e26, e27, e28, e29, e30, e31, e32, e33, trivial⟩ hdf
            clear hsz hdf hrest hslots hpt e0 e1 e2 e3 e4 e5 e6 e7 e8 e9 e10 e11 e12 e13 e14 e15 e16 e17 e18 e19 e20 e21 e22 e23 e24 e25 e26 e27 e28 e29 e30 e31 e32 e33
            have HR := Lib.hid (gb_trans HG0.out.1 hB)
            clear hB
            refine wpList_nil ?_
            go_wp2
            go_ret
            exact ⟨by rw [HO.out]; rfl, HR.out⟩
        | true =>
          refine Fg.region_t [] [.any, .any, .any, .any, .val (Value.bool t), .any, .any, .any, .any, .any, .any, .val (vV s cl sq a1 n1 c1 g a2 n2 c2 a3 n3 c3), .val (Value.bool true), .val (Value.bool true), .val (vV s' cl' sq' a1' n1' c1' g' a2' n2' c2' a3' n3' c3'), .val (Value.bool true), .val (Value.bool true), .val (Value.bool true), .val (Value.pointer (some ⟨M1, 0, none⟩)), .val (Value.pointer (some ⟨M1, 0, none⟩)), .val (Value.string s), .val (Value.pointer (some ⟨M2, 0, none⟩)), .val (Value.pointer (some ⟨M2, 0, none⟩)), .val (Value.string s'), .val (Value.bool true), .val (Value.bool true), .val (Value.bool true), .val (Value.pointer (some ⟨M1, 0, none⟩)), .val (Value.pointer (some ⟨M1, 3, none⟩)), .val (Value.slice a1 n1 c1), .val (vV s' cl' sq' a1' n1' c1' g' a2' n2' c2' a3' n3' c3'), .val (Value.agg #[iV cl', iV sq']), .val (Value.bool t), .val (Value.bool t)] W0 24 (gb_refl _ _) (by kernel_rfl) (by kernel_rfl) (by kernel_rfl) (by kernel_rfl) (by decide) (by kernel_rfl) ?_ ?_
          · refine ⟨Fg.vT rfl (by decide) fun ac w h => ?_, ?_⟩
            · have e5 : ac.tmps.getD 5 undef = Value.pointer (some ⟨M1, 0, none⟩) := h.rest 5 (by kernel_rfl)
              have hb1 := HG0.out.2.1.grown h.base (by simp)
              have m0 := hb1.cell (i := 0) rfl
              have m1 := hb1.cell (i := 1) rfl
              have m2 := hb1.cell (i := 2) rfl
              have m3 := hb1.cell (i := 3) rfl
              have m4 := hb1.cell (i := 4) rfl
              have m5 := hb1.cell (i := 5) rfl
              have m6 := hb1.cell (i := 6) rfl
              refine ⟨vV s cl sq a1 n1 c1 g a2 n2 c2 a3 n3 c3, w, wants_none rfl, ?_, gb_refl _ _, rfl⟩
              clear h
              simp only [execOp, Act.eval, e5]
              go_simp
            refine ⟨Fg.cT rfl (by decide) fun ac w h => ?_, ?_⟩
            · have e11 : ac.tmps.getD 11 undef = vV s cl sq a1 n1 c1 g a2 n2 c2 a3 n3 c3 := h.dep 11 (by kernel_rfl)
              refine ⟨59, #[vV s cl sq a1 n1 c1 g a2 n2 c2 a3 n3 c3], wants_none rfl, Fg.run_call rfl rfl (by simp only [List.map_toArray, List.map_cons, List.map_nil, Act.eval, e11]) (Fg.run_enter Tryz.func59 (by kernel_rfl) (by kernel_rfl)), ?_⟩
              exact (HX.out w (gb_trans HG0.out.1 h.base)).mono fun _ _ ⟨he, hg⟩ => ⟨_, he, hg, rfl⟩
            refine ⟨Fg.vT rfl (by decide) fun ac w h => ?_, ?_⟩
            · have e12 : ac.tmps.getD 12 undef = Value.bool true := h.dep 12 (by kernel_rfl)
              exact ⟨_, w, wants_none rfl, Fg.run_move rfl e12, gb_refl _ _, rfl⟩
            refine ⟨Fg.vT rfl (by decide) fun ac w h => ?_, ?_⟩
            · have e13 : ac.tmps.getD 13 undef = Value.bool true := h.dep 13 (by kernel_rfl)
              have e6 : ac.tmps.getD 6 undef = Value.pointer (some ⟨M2, 0, none⟩) := h.rest 6 (by kernel_rfl)
              have hb2 := HG0.out.2.2.grown h.base (by simp)
              have m0 := hb2.cell (i := 0) rfl
              have m1 := hb2.cell (i := 1) rfl
              have m2 := hb2.cell (i := 2) rfl
              have m3 := hb2.cell (i := 3) rfl
              have m4 := hb2.cell (i := 4) rfl
              have m5 := hb2.cell (i := 5) rfl
              have m6 := hb2.cell (i := 6) rfl
              refine ⟨vV s' cl' sq' a1' n1' c1' g' a2' n2' c2' a3' n3' c3', w, wants_some (d := 13) rfl rfl (by rw [h.size]; show 13 < 34; decide) e13, ?_, gb_refl _ _, rfl⟩
              clear h
              simp only [execOp, Act.eval, e6]
              go_simp
            refine ⟨Fg.cT rfl (by decide) fun ac w h => ?_, ?_⟩
            · have e13 : ac.tmps.getD 13 undef = Value.bool true := h.dep 13 (by kernel_rfl)
              have e14 : ac.tmps.getD 14 undef = vV s' cl' sq' a1' n1' c1' g' a2' n2' c2' a3' n3' c3' := h.dep 14 (by kernel_rfl)
              refine ⟨59, #[vV s' cl' sq' a1' n1' c1' g' a2' n2' c2' a3' n3' c3'], wants_some (d := 13) rfl rfl (by rw [h.size]; show 13 < 34; decide) e13, Fg.run_call rfl rfl (by simp only [List.map_toArray, List.map_cons, List.map_nil, Act.eval, e14]) (Fg.run_enter Tryz.func59 (by kernel_rfl) (by kernel_rfl)), ?_⟩
              exact (HY.out w (gb_trans HG0.out.1 h.base)).mono fun _ _ ⟨he, hg⟩ => ⟨_, he, hg, rfl⟩
            refine ⟨Fg.vT rfl (by decide) fun ac w h => ?_, ?_⟩
            · have e13 : ac.tmps.getD 13 undef = Value.bool true := h.dep 13 (by kernel_rfl)
              have e15 : ac.tmps.getD 15 undef = Value.bool true := h.dep 15 (by kernel_rfl)
              refine ⟨Value.bool true, w, wants_none rfl, ?_, gb_refl _ _, rfl⟩
              clear h
              simp only [execOp, Act.eval, e13, e15]
              go_simp
            refine ⟨Fg.vT rfl (by decide) fun ac w h => ?_, ?_⟩
            · have e16 : ac.tmps.getD 16 undef = Value.bool true := h.dep 16 (by kernel_rfl)
              exact ⟨_, w, wants_none rfl, Fg.run_move rfl e16, gb_refl _ _, rfl⟩
            refine ⟨Fg.vT rfl (by decide) fun ac w h => ?_, ?_⟩
            · have e17 : ac.tmps.getD 17 undef = Value.bool true := h.dep 17 (by kernel_rfl)
              have e5 : ac.tmps.getD 5 undef = Value.pointer (some ⟨M1, 0, none⟩) := h.rest 5 (by kernel_rfl)
              refine ⟨Value.pointer (some ⟨M1, 0, none⟩), w, wants_some (d := 17) rfl rfl (by rw [h.size]; show 17 < 34; decide) e17, ?_, gb_refl _ _, rfl⟩
              clear h
              simp only [execOp, Act.eval, e5]
              go_simp
            refine ⟨Fg.vT rfl (by decide) fun ac w h => ?_, ?_⟩
            · have e17 : ac.tmps.getD 17 undef = Value.bool true := h.dep 17 (by kernel_rfl)
              have e18 : ac.tmps.getD 18 undef = Value.pointer (some ⟨M1, 0, none⟩) := h.dep 18 (by kernel_rfl)
              refine ⟨Value.pointer (some ⟨M1, 0, none⟩), w, wants_some (d := 17) rfl rfl (by rw [h.size]; show 17 < 34; decide) e17, ?_, gb_refl _ _, rfl⟩
              clear h
              simp only [execOp, Act.eval, e18]
              go_simp
            refine ⟨Fg.vT rfl (by decide) fun ac w h => ?_, ?_⟩
            · have e17 : ac.tmps.getD 17 undef = Value.bool true := h.dep 17 (by kernel_rfl)
              have e19 : ac.tmps.getD 19 undef = Value.pointer (some ⟨M1, 0, none⟩) := h.dep 19 (by kernel_rfl)
              have hb1 := HG0.out.2.1.grown h.base (by simp)
              have m0 := hb1.cell (i := 0) rfl
              refine ⟨Value.string s, w, wants_some (d := 17) rfl rfl (by rw [h.size]; show 17 < 34; decide) e17, ?_, gb_refl _ _, rfl⟩
              clear h
              simp only [execOp, Act.eval, e19]
              go_simp
            refine ⟨Fg.vT rfl (by decide) fun ac w h => ?_, ?_⟩
            · have e17 : ac.tmps.getD 17 undef = Value.bool true := h.dep 17 (by kernel_rfl)
              have e6 : ac.tmps.getD 6 undef = Value.pointer (some ⟨M2, 0, none⟩) := h.rest 6 (by kernel_rfl)
              refine ⟨Value.pointer (some ⟨M2, 0, none⟩), w, wants_some (d := 17) rfl rfl (by rw [h.size]; show 17 < 34; decide) e17, ?_, gb_refl _ _, rfl⟩
              clear h
              simp only [execOp, Act.eval, e6]
              go_simp
            refine ⟨Fg.vT rfl (by decide) fun ac w h => ?_, ?_⟩
            · have e17 : ac.tmps.getD 17 undef = Value.bool true := h.dep 17 (by kernel_rfl)
              have e21 : ac.tmps.getD 21 undef = Value.pointer (some ⟨M2, 0, none⟩) := h.dep 21 (by kernel_rfl)
              refine ⟨Value.pointer (some ⟨M2, 0, none⟩), w, wants_some (d := 17) rfl rfl (by rw [h.size]; show 17 < 34; decide) e17, ?_, gb_refl _ _, rfl⟩
              clear h
              simp only [execOp, Act.eval, e21]
              go_simp
            refine ⟨Fg.vT rfl (by decide) fun ac w h => ?_, ?_⟩
            · have e17 : ac.tmps.getD 17 undef = Value.bool true := h.dep 17 (by kernel_rfl)
              have e22 : ac.tmps.getD 22 undef = Value.pointer (some ⟨M2, 0, none⟩) := h.dep 22 (by kernel_rfl)
              have hb2 := HG0.out.2.2.grown h.base (by simp)
              have m0 := hb2.cell (i := 0) rfl
              refine ⟨Value.string s', w, wants_some (d := 17) rfl rfl (by rw [h.size]; show 17 < 34; decide) e17, ?_, gb_refl _ _, rfl⟩
              clear h
              simp only [execOp, Act.eval, e22]
              go_simp
            refine ⟨Fg.vT rfl (by decide) fun ac w h => ?_, ?_⟩
            · have e17 : ac.tmps.getD 17 undef = Value.bool true := h.dep 17 (by kernel_rfl)
              have e20 : ac.tmps.getD 20 undef = Value.string s := h.dep 20 (by kernel_rfl)
              have e23 : ac.tmps.getD 23 undef = Value.string s' := h.dep 23 (by kernel_rfl)
              have hz := HZ.out
              refine ⟨.bool true, w, wants_some (d := 17) rfl rfl (by rw [h.size]; show 17 < 34; decide) e17, ?_, gb_refl _ _, rfl⟩
              clear h
              simp only [execOp, Act.eval, e20, e23]
              go_simp
            refine ⟨Fg.vT rfl (by decide) fun ac w h => ?_, ?_⟩
            · have e17 : ac.tmps.getD 17 undef = Value.bool true := h.dep 17 (by kernel_rfl)
              have e24 : ac.tmps.getD 24 undef = Value.bool true := h.dep 24 (by kernel_rfl)
              refine ⟨Value.bool true, w, wants_none rfl, ?_, gb_refl _ _, rfl⟩
              clear h
              simp only [execOp, Act.eval, e17, e24]
              go_simp
            refine ⟨Fg.vT rfl (by decide) fun ac w h => ?_, ?_⟩
            · have e25 : ac.tmps.getD 25 undef = Value.bool true := h.dep 25 (by kernel_rfl)
              exact ⟨_, w, wants_none rfl, Fg.run_move rfl e25, gb_refl _ _, rfl⟩
            refine ⟨Fg.vT rfl (by decide) fun ac w h => ?_, ?_⟩
            · have e26 : ac.tmps.getD 26 undef = Value.bool true := h.dep 26 (by kernel_rfl)
              have e5 : ac.tmps.getD 5 undef = Value.pointer (some ⟨M1, 0, none⟩) := h.rest 5 (by kernel_rfl)
              refine ⟨Value.pointer (some ⟨M1, 0, none⟩), w, wants_some (d := 26) rfl rfl (by rw [h.size]; show 26 < 34; decide) e26, ?_, gb_refl _ _, rfl⟩
              clear h
              simp only [execOp, Act.eval, e5]
              go_simp
            refine ⟨Fg.vT rfl (by decide) fun ac w h => ?_, ?_⟩
            · have e26 : ac.tmps.getD 26 undef = Value.bool true := h.dep 26 (by kernel_rfl)
              have e27 : ac.tmps.getD 27 undef = Value.pointer (some ⟨M1, 0, none⟩) := h.dep 27 (by kernel_rfl)
              refine ⟨Value.pointer (some ⟨M1, 3, none⟩), w, wants_some (d := 26) rfl rfl (by rw [h.size]; show 26 < 34; decide) e26, ?_, gb_refl _ _, rfl⟩
              clear h
              simp only [execOp, Act.eval, e27]
              go_simp
            refine ⟨Fg.vT rfl (by decide) fun ac w h => ?_, ?_⟩
            · have e26 : ac.tmps.getD 26 undef = Value.bool true := h.dep 26 (by kernel_rfl)
              have e28 : ac.tmps.getD 28 undef = Value.pointer (some ⟨M1, 3, none⟩) := h.dep 28 (by kernel_rfl)
              have hb1 := HG0.out.2.1.grown h.base (by simp)
              have m3 := hb1.cell (i := 3) rfl
              refine ⟨Value.slice a1 n1 c1, w, wants_some (d := 26) rfl rfl (by rw [h.size]; show 26 < 34; decide) e26, ?_, gb_refl _ _, rfl⟩
              clear h
              simp only [execOp, Act.eval, e28]
              go_simp
            refine ⟨Fg.vT rfl (by decide) fun ac w h => ?_, ?_⟩
            · have e26 : ac.tmps.getD 26 undef = Value.bool true := h.dep 26 (by kernel_rfl)
              have e6 : ac.tmps.getD 6 undef = Value.pointer (some ⟨M2, 0, none⟩) := h.rest 6 (by kernel_rfl)
              have hb2 := HG0.out.2.2.grown h.base (by simp)
              have m0 := hb2.cell (i := 0) rfl
              have m1 := hb2.cell (i := 1) rfl
              have m2 := hb2.cell (i := 2) rfl
              have m3 := hb2.cell (i := 3) rfl
              have m4 := hb2.cell (i := 4) rfl
              have m5 := hb2.cell (i := 5) rfl
              have m6 := hb2.cell (i := 6) rfl
              refine ⟨vV s' cl' sq' a1' n1' c1' g' a2' n2' c2' a3' n3' c3', w, wants_some (d := 26) rfl rfl (by rw [h.size]; show 26 < 34; decide) e26, ?_, gb_refl _ _, rfl⟩
              clear h
              simp only [execOp, Act.eval, e6]
              go_simp
            refine ⟨Fg.cT rfl (by decide) fun ac w h => ?_, ?_⟩
            · have e26 : ac.tmps.getD 26 undef = Value.bool true := h.dep 26 (by kernel_rfl)
              have e30 : ac.tmps.getD 30 undef = vV s' cl' sq' a1' n1' c1' g' a2' n2' c2' a3' n3' c3' := h.dep 30 (by kernel_rfl)
              refine ⟨63, #[vV s' cl' sq' a1' n1' c1' g' a2' n2' c2' a3' n3' c3'], wants_some (d := 26) rfl rfl (by rw [h.size]; show 26 < 34; decide) e26, Fg.run_call rfl rfl (by simp only [List.map_toArray, List.map_cons, List.map_nil, Act.eval, e30]) (Fg.run_enter Tryz.func63 (by kernel_rfl) (by kernel_rfl)), ?_⟩
              exact (dot_any s' cl' sq' a1' n1' c1' g' a2' n2' c2' a3' n3' c3' w).mono fun _ _ ⟨he, hg⟩ => ⟨_, he, hg, rfl⟩
            refine ⟨Fg.cT rfl (by decide) fun ac w h => ?_, ?_⟩
            · have e26 : ac.tmps.getD 26 undef = Value.bool true := h.dep 26 (by kernel_rfl)
              have e29 : ac.tmps.getD 29 undef = Value.slice a1 n1 c1 := h.dep 29 (by kernel_rfl)
              have e31 : ac.tmps.getD 31 undef = Value.agg #[iV cl', iV sq'] := h.dep 31 (by kernel_rfl)
              refine ⟨62, #[Value.slice a1 n1 c1, Value.agg #[iV cl', iV sq']], wants_some (d := 26) rfl rfl (by rw [h.size]; show 26 < 34; decide) e26, Fg.run_call rfl rfl (by simp only [List.map_toArray, List.map_cons, List.map_nil, Act.eval, e29, e31]) (Fg.run_enter Tryz.func62 (by kernel_rfl) (by kernel_rfl)), ?_⟩
              exact (HH.out w (gb_trans HG0.out.1 h.base)).mono fun _ _ ⟨he, hg⟩ => ⟨_, he, hg, rfl⟩
            refine ⟨Fg.vT rfl (by decide) fun ac w h => ?_, ?_⟩
            · have e26 : ac.tmps.getD 26 undef = Value.bool true := h.dep 26 (by kernel_rfl)
              have e32 : ac.tmps.getD 32 undef = Value.bool t := h.dep 32 (by kernel_rfl)
              refine ⟨Value.bool t, w, wants_none rfl, ?_, gb_refl _ _, rfl⟩
              clear h
              simp only [execOp, Act.eval, e26, e32]
              go_simp
            refine ⟨Fg.vT rfl (by decide) fun ac w h => ?_, ?_⟩
            · have e33 : ac.tmps.getD 33 undef = Value.bool t := h.dep 33 (by kernel_rfl)
              exact ⟨_, w, wants_none rfl, Fg.run_assign rfl e33, gb_refl _ _, rfl⟩
            trivial
          · intro aq wq hB hsz hdf hrest hslots hpt
            obtain ⟨u0, e0⟩ : ∃ u, aq.tmps.getD 0 undef = u := ⟨_, rfl⟩
            obtain ⟨u1, e1⟩ : ∃ u, aq.tmps.getD 1 undef = u := ⟨_, rfl⟩
            obtain ⟨u2, e2⟩ : ∃ u, aq.tmps.getD 2 undef = u := ⟨_, rfl⟩
            obtain ⟨u3, e3⟩ : ∃ u, aq.tmps.getD 3 undef = u := ⟨_, rfl⟩
            have e4 : aq.tmps.getD 4 undef = Value.bool t := hslots 4 (by kernel_rfl)
            obtain ⟨u5, e5⟩ : ∃ u, aq.tmps.getD 5 undef = u := ⟨_, rfl⟩
            obtain ⟨u6, e6⟩ : ∃ u, aq.tmps.getD 6 undef = u := ⟨_, rfl⟩
            obtain ⟨u7, e7⟩ : ∃ u, aq.tmps.getD 7 undef = u := ⟨_, rfl⟩
            obtain ⟨u8, e8⟩ : ∃ u, aq.tmps.getD 8 undef = u := ⟨_, rfl⟩
            obtain ⟨u9, e9⟩ : ∃ u, aq.tmps.getD 9 undef = u := ⟨_, rfl⟩
            obtain ⟨u10, e10⟩ : ∃ u, aq.tmps.getD 10 undef = u := ⟨_, rfl⟩
            obtain ⟨u11, e11⟩ : ∃ u, aq.tmps.getD 11 undef = u := ⟨_, rfl⟩
            obtain ⟨u12, e12⟩ : ∃ u, aq.tmps.getD 12 undef = u := ⟨_, rfl⟩
            obtain ⟨u13, e13⟩ : ∃ u, aq.tmps.getD 13 undef = u := ⟨_, rfl⟩
            obtain ⟨u14, e14⟩ : ∃ u, aq.tmps.getD 14 undef = u := ⟨_, rfl⟩
            obtain ⟨u15, e15⟩ : ∃ u, aq.tmps.getD 15 undef = u := ⟨_, rfl⟩
            obtain ⟨u16, e16⟩ : ∃ u, aq.tmps.getD 16 undef = u := ⟨_, rfl⟩
            obtain ⟨u17, e17⟩ : ∃ u, aq.tmps.getD 17 undef = u := ⟨_, rfl⟩
            obtain ⟨u18, e18⟩ : ∃ u, aq.tmps.getD 18 undef = u := ⟨_, rfl⟩
            obtain ⟨u19, e19⟩ : ∃ u, aq.tmps.getD 19 undef = u := ⟨_, rfl⟩
            obtain ⟨u20, e20⟩ : ∃ u, aq.tmps.getD 20 undef = u := ⟨_, rfl⟩
            obtain ⟨u21, e21⟩ : ∃ u, aq.tmps.getD 21 undef = u := ⟨_, rfl⟩
            obtain ⟨u22, e22⟩ : ∃ u, aq.tmps.getD 22 undef = u := ⟨_, rfl⟩
            obtain ⟨u23, e23⟩ : ∃ u, aq.tmps.getD 23 undef = u := ⟨_, rfl⟩
            obtain ⟨u24, e24⟩ : ∃ u, aq.tmps.getD 24 undef = u := ⟨_, rfl⟩
            obtain ⟨u25, e25⟩ : ∃ u, aq.tmps.getD 25 undef = u := ⟨_, rfl⟩
            obtain ⟨u26, e26⟩ : ∃ u, aq.tmps.getD 26 undef = u := ⟨_, rfl⟩
            obtain ⟨u27, e27⟩ : ∃ u, aq.tmps.getD 27 undef = u := ⟨_, rfl⟩
            obtain ⟨u28, e28⟩ : ∃ u, aq.tmps.getD 28 undef = u := ⟨_, rfl⟩
            obtain ⟨u29, e29⟩ : ∃ u, aq.tmps.getD 29 undef = u := ⟨_, rfl⟩
            obtain ⟨u30, e30⟩ : ∃ u, aq.tmps.getD 30 undef = u := ⟨_, rfl⟩
            obtain ⟨u31, e31⟩ : ∃ u, aq.tmps.getD 31 undef = u := ⟨_, rfl⟩
            obtain ⟨u32, e32⟩ : ∃ u, aq.tmps.getD 32 undef = u := ⟨_, rfl⟩
            obtain ⟨u33, e33⟩ : ∃ u, aq.tmps.getD 33 undef = u := ⟨_, rfl⟩
            obtain rfl := Fg.frame_is (a := aq) (vs := [u0, u1, u2, u3, Value.bool t, u5, u6, u7, u8, u9, u10, u11, u12, u13, u14, u15, u16, u17, u18, u19, u20, u21, u22, u23, u24, u25, u26, u27, u28, u29, u30, u31, u32, u33]) hsz ⟨e0, e1, e2, e3, e4, e5, e6, e7, e8, e9, e10, e11, e12, e13, e14, e15, e16, e17, e18, e19, e20, e21, e22, e23, e24, e25, e26, e27, e28, e29, e30, e31, e32, e33, trivial⟩ hdf
            clear hsz hdf hrest hslots hpt e0 e1 e2 e3 e4 e5 e6 e7 e8 e9 e10 e11 e12 e13 e14 e15 e16 e17 e18 e19 e20 e21 e22 e23 e24 e25 e26 e27 e28 e29 e30 e31 e32 e33
            have HR := Lib.hid (gb_trans HG0.out.1 hB)
            clear hB
            refine wpList_nil ?_
            go_wp2
            go_ret
            exact ⟨by rw [HO.out]; rfl, HR.out⟩
end Rc
end Go.Proofs.YtohcoihdijemfaaGreat

/- record's laws: the chapter's example; what is too great. -/
namespace Go.Proofs.YtohcoihdijemfaaGreat
open Go.RowKit Ow Wi Ve
namespace Rc
theorem mark_bytes (w : World) (l : List Nat) (f : Nat × Nat) (n : Nat) (hn : l.length = n) (hm : n < 9223372036854775808) (hb : ∀ i, l.getD i 0 < 256) :
    BytesAt (w.alloc (.cells (l.map u8N).toArray 5 f)) (w.heap.size + 1) (some ⟨w.heap.size, 0, none⟩) n l :=
  ⟨by simp, by omega, hm, hb, Or.inr ⟨w.heap.size, 0, rfl, by omega, fun i hi => by
    have h : (w.alloc (.cells (l.map u8N).toArray 5 f)).heap[w.heap.size]? = some (.cells (l.map u8N).toArray 5 f) := heap_alloc_new _ _
    rw [Nat.zero_add]
    unfold World.cell?
    rw [h]
    simp [List.getElem?_eq_getElem hi]⟩⟩
def exR : R := ⟨[97], 1, 1, [], false, [120], []⟩
def exO : R := ⟨[97], 1, 1, [(1, 1)], false, [120], []⟩
theorem ex_len : (textO exR).length = 44 := by decide +kernel
theorem ex_one : (textO exR).getD 0 0 = 1 := by decide +kernel
theorem ex_own : textO exO = [] := by decide +kernel
theorem ex_right : rightB exR = false := by decide +kernel
set_option maxRecDepth 100000 in
set_option maxHeartbeats 4000000 in
theorem awake8_any (w : World) : Calls Tryz.prog 30 #[] w fun e w' => e = .returned (.bool true) ∧ w.grownBy w' none := by
  have hcv := fun (w : World) (C : Array Value) (n c : Nat) => Lib.run_convert_bytes_const (P := Tryz.prog) w 23 5 C n c Tryz.underlying23 Tryz.underlying5
  obtain ⟨G, hG⟩ : ∃ G, G = w.heap.size := ⟨_, rfl⟩
  obtain ⟨N, hN⟩ : ∃ N, N = w.heap.size + 1 := ⟨_, rfl⟩
  obtain ⟨W0, hW0⟩ : ∃ W0, W0 = (w.alloc (.cells #[.int .u8 120] 5 (1, 2))).alloc (.cells #[.string ⟨#[97]⟩, iV 1, iV 1, .slice none 0 0, .bool false, .slice (some ⟨G, 0, none⟩) 1 1, .slice none 0 0] 50) := ⟨_, rfl⟩
  have HG : Hid (BytesAt W0 N (some ⟨G, 0, none⟩) 1 [120] ∧ Blk W0 N 50 [.string ⟨#[97]⟩, iV 1, iV 1, .slice none 0 0, .bool false, .slice (some ⟨G, 0, none⟩) 1 1, .slice none 0 0] ∧ w.grownBy W0 none) := by
    refine ⟨?_, ?_, ?_⟩
    · rw [hW0, hG, hN]; exact (mark_bytes w [120] (1, 2) 1 rfl (by decide) (fun i => by rcases i with _ | i <;> simp)).stay (gb_alloc (gb_refl _ _) _)
    · rw [hW0, hN]; exact blk_at _ _ _ (by simp)
    · rw [hW0]; exact gb_alloc (gb_alloc (gb_refl _ _) _) _
  have hR1 : ∀ w', W0.grownBy w' none → RAt w' N ⟨⟨#[97]⟩, none, 0, 0, some ⟨G, 0, none⟩, 1, 1, none, 0, 0⟩ exR := fun w' hg => by
    have hl : N ≤ w'.heap.size := Nat.le_trans (Nat.le_of_lt HG.out.2.1.lt) hg.size
    exact ⟨rfl, rfl, rfl, rfl, ⟨hl, Or.inl rfl⟩, HG.out.1.stay hg, ⟨hl, Nat.le_refl _, (by decide : (0 : Nat) < 9223372036854775808), fun i => by simp [exR], Or.inl rfl⟩, (by decide : (0 : Nat) < 9223372036854775808)⟩
  have HT := Lib.hid (rtext_any exR N W0 _ (hR1 W0 (gb_refl _ _)))
  have HRR := Lib.hid (fun w' hg => rright_any exR N w' _ (hR1 w' hg))
  rw [ex_right] at HRR
  clear hR1
  go_enter Tryz.func30, Tryz.ntmps30
  go_wp2_with fail
  rw [show (w.alloc (.cells #[.int .u8 120] 5 (1, 2))).alloc (.cells #[.string ⟨#[97]⟩, iV 1, iV 1, .slice none 0 0, .bool false, .slice (some ⟨w.heap.size, 0, none⟩) 1 1, .slice none 0 0] 50) = W0 from by rw [hW0, hG], ← hN, ← hG]
  clear hW0 hN hG
  refine HT.out.mono ?_
  rintro e w1 ⟨at1, ct, rfl, hg, hb⟩
  rw [ex_len]
  obtain ⟨pb, po, rfl, _, hc⟩ := hb.cells.resolve_left (by rw [ex_len]; decide)
  have t0 := hc 0 (by rw [ex_len]; decide)
  rw [ex_one] at t0
  have hct := hb.fits
  rw [ex_len] at hct
  have HG1 : Hid (BytesAt w1 N (some ⟨G, 0, none⟩) 1 [120] ∧ Blk w1 N 50 [.string ⟨#[97]⟩, iV 1, iV 1, .slice none 0 0, .bool false, .slice (some ⟨G, 0, none⟩) 1 1, .slice none 0 0] ∧ W0.grownBy w1 none ∧ w1.cell? ⟨pb, po, none⟩ = some (.int .u8 1)) := ⟨HG.out.1.stay hg, HG.out.2.1.grown hg (by simp), hg, t0⟩
  clear hg hb hc t0 HT
  have m0 := HG1.out.2.1.cell (i := 0) rfl
  have m1 := HG1.out.2.1.cell (i := 1) rfl
  have m2 := HG1.out.2.1.cell (i := 2) rfl
  have m3 := HG1.out.2.1.cell (i := 3) rfl
  have m4 := HG1.out.2.1.cell (i := 4) rfl
  have m5 := HG1.out.2.1.cell (i := 5) rfl
  have m6 := HG1.out.2.1.cell (i := 6) rfl
  obtain ⟨M, hM⟩ : ∃ M, M = w1.heap.size := ⟨_, rfl⟩
  obtain ⟨K, hK⟩ : ∃ K, K = w1.heap.size + 1 := ⟨_, rfl⟩
  obtain ⟨W2, hW2⟩ : ∃ W2, W2 = (w1.alloc (.cells #[.string ⟨#[97]⟩, iV 1, iV 1, .slice (some ⟨w1.heap.size + 1, 0, none⟩) 1 1, .bool false, .slice (some ⟨G, 0, none⟩) 1 1, .slice none 0 0] 50)).alloc (.cells #[iV 1, iV 1] 99) := ⟨_, rfl⟩
  have hgW : w1.grownBy W2 none := by rw [hW2]; exact gb_alloc (gb_alloc (gb_refl _ _) _) _
  have HG2 : Hid (BytesAt W2 N (some ⟨G, 0, none⟩) 1 [120] ∧ W0.grownBy W2 none ∧ Blk W2 N 50 [.string ⟨#[97]⟩, iV 1, iV 1, .slice none 0 0, .bool false, .slice (some ⟨G, 0, none⟩) 1 1, .slice none 0 0] ∧ DotsAt W2 (K + 1) (some ⟨K, 0, none⟩) [(1, 1)] ∧ N ≤ K) := by
    refine ⟨HG1.out.1.stay hgW, gb_trans HG1.out.2.2.1 hgW, HG1.out.2.1.grown hgW (by simp), ?_, by rw [hK]; have := HG1.out.2.1.lt; omega⟩
    have h := dots_one (w1.alloc (.cells #[.string ⟨#[97]⟩, iV 1, iV 1, .slice (some ⟨w1.heap.size + 1, 0, none⟩) 1 1, .bool false, .slice (some ⟨G, 0, none⟩) 1 1, .slice none 0 0] 50)) 1 1 99
    rw [World.size_alloc] at h
    rw [hW2, hK]; exact h
  have t2 : ((w1.alloc (.cells #[.string ⟨#[97]⟩, iV 1, iV 1, .slice (some ⟨w1.heap.size + 1, 0, none⟩) 1 1, .bool false, .slice (some ⟨G, 0, none⟩) 1 1, .slice none 0 0] 50)).alloc (.cells #[iV 1, iV 1] 99)).cell? ⟨pb, po, none⟩ = some (.int .u8 1) := by
    rw [← hW2, gb_cell hgW (block_lt_of_cell HG1.out.2.2.2) (by simp)]; exact HG1.out.2.2.2
  have HRO := Lib.hid (rtext_any exO (K + 1) W2 ⟨⟨#[97]⟩, some ⟨K, 0, none⟩, 1, 1, some ⟨G, 0, none⟩, 1, 1, none, 0, 0⟩ ⟨rfl, rfl, rfl, rfl, HG2.out.2.2.2.1, HG2.out.1.up (by have := HG2.out.2.2.2.2; omega) HG2.out.2.2.2.1.lim, ⟨HG2.out.2.2.2.1.lim, Nat.le_refl _, (by decide : (0 : Nat) < 9223372036854775808), fun i => by simp [exO], Or.inl rfl⟩, (by decide : (1 : Nat) < 9223372036854775808)⟩)
  rw [ex_own] at HRO
  clear hgW
  go_wp2_with fail
  rw [← hW2]
  rw [show (w1.heap.size + 1 : Nat) = K from hK.symm]
  clear t2 hW2 hK
  refine HRO.out.mono ?_
  rintro e w3 ⟨a3, c3, rfl, hg, _⟩
  have HG3 : Hid (W0.grownBy w3 none ∧ Blk w3 N 50 [.string ⟨#[97]⟩, iV 1, iV 1, .slice none 0 0, .bool false, .slice (some ⟨G, 0, none⟩) 1 1, .slice none 0 0]) := ⟨gb_trans HG2.out.2.1 hg, HG2.out.2.2.1.grown hg (by simp)⟩
  clear hg m0 m1 m2 m3 m4 m5 m6
  have m0 := HG3.out.2.cell (i := 0) rfl
  have m1 := HG3.out.2.cell (i := 1) rfl
  have m2 := HG3.out.2.cell (i := 2) rfl
  have m3 := HG3.out.2.cell (i := 3) rfl
  have m4 := HG3.out.2.cell (i := 4) rfl
  have m5 := HG3.out.2.cell (i := 5) rfl
  have m6 := HG3.out.2.cell (i := 6) rfl
  go_wp2_with fail
  refine (HRR.out _ HG3.out.1).mono ?_
  rintro e w4 ⟨rfl, hg⟩
  have HG4 := Lib.hid (gb_trans HG.out.2.2 (gb_trans HG3.out.1 hg))
  clear hg m0 m1 m2 m3 m4 m5 m6
  go_wp2
  go_ret
  exact ⟨rfl, HG4.out⟩
def greatB (r : R) : Bool := decide (300 < r.key.length) || decide (50 < r.cx.length) || decide (2000 < r.val.length) || decide (300 < r.sig.length)
set_option maxHeartbeats 2000000 in
theorem great_any (b : Bool) (r : R) (B : Nat) (w : World) (q : L) (h : RAt w B q r) (hb : greatB r = b) : Calls Tryz.prog 31 #[q.v r] w fun e w' => e = .returned (.bool b) ∧ w.grownBy w' none := by
  unfold greatB at hb
  rw [h.keyLen, h.l1, h.l2, h.l3] at hb
  clear h
  obtain ⟨s, a1, n1, c1, a2, n2, c2, a3, n3, c3⟩ := q
  obtain ⟨key, cl, sq, cx, g, val, sig⟩ := r
  simp only at hb
  show Calls _ _ #[vV s cl sq a1 n1 c1 g a2 n2 c2 a3 n3 c3] w _
  have e1 : decide (300 < s.size) = decide ((300 : Int) < (s.size : Int)) := by rw [Bool.eq_iff_iff]; simp; omega
  have e2 : decide (50 < n1) = decide ((50 : Int) < (n1 : Int)) := by rw [Bool.eq_iff_iff]; simp; omega
  have e3 : decide (2000 < n2) = decide ((2000 : Int) < (n2 : Int)) := by rw [Bool.eq_iff_iff]; simp; omega
  have e4 : decide (300 < n3) = decide ((300 : Int) < (n3 : Int)) := by rw [Bool.eq_iff_iff]; simp; omega
  rw [e1, e2, e3, e4] at hb
  clear e1 e2 e3 e4
  obtain ⟨y1, h1⟩ : ∃ y, decide ((300 : Int) < (s.size : Int)) = y := ⟨_, rfl⟩
  obtain ⟨y2, h2⟩ : ∃ y, decide ((50 : Int) < (n1 : Int)) = y := ⟨_, rfl⟩
  obtain ⟨y3, h3⟩ : ∃ y, decide ((2000 : Int) < (n2 : Int)) = y := ⟨_, rfl⟩
  obtain ⟨y4, h4⟩ : ∃ y, decide ((300 : Int) < (n3 : Int)) = y := ⟨_, rfl⟩
  rw [h1, h2, h3, h4] at hb
  have HB := Lib.hid hb; clear hb
  have HG : Hid (w.grownBy (w.alloc (.cells #[.string s, iV cl, iV sq, .slice a1 n1 c1, .bool g, .slice a2 n2 c2, .slice a3 n3 c3] 50)) none) := gb_alloc (gb_refl _ _) _
  go_enter Tryz.func31, Tryz.ntmps31
  cases y1 with
  | true => go_wp2; go_ret; exact ⟨by rw [← HB.out]; rfl, HG.out⟩
  | false =>
    cases y2 with
    | true => go_wp2; go_ret; exact ⟨by rw [← HB.out]; rfl, HG.out⟩
    | false =>
      cases y3 with
      | true => go_wp2; go_ret; exact ⟨by rw [← HB.out]; rfl, HG.out⟩
      | false =>
        cases y4 with
        | true => go_wp2; go_ret; exact ⟨by rw [← HB.out]; rfl, HG.out⟩
        | false => go_wp2; go_ret; exact ⟨by rw [← HB.out]; rfl, HG.out⟩
end Rc
end Go.Proofs.YtohcoihdijemfaaGreat

/- Sizes of a dot, of a record. -/
namespace Go.Proofs.YtohcoihdijemfaaGreat
open Go.RowKit Ow Wi Ve
namespace Rc
theorem info_dotS : (Tryz.prog.info? 99).map (·.size) = some 2 := by kernel_rfl
theorem info_recS : (Tryz.prog.info? 50).map (·.size) = some 7 := by kernel_rfl
end Rc
end Go.Proofs.YtohcoihdijemfaaGreat

/- Rows of dots that are one's own: their cells, appends, copies. -/
namespace Go.Proofs.YtohcoihdijemfaaGreat
open Go.RowKit Ve
namespace Ve
def dC (d : D) : List Value := [iV d.1, iV d.2]
def dotsC (l : List D) : List Value := l.flatMap dC
theorem dotsC_len (l : List D) : (dotsC l).length = l.length * 2 := by
  induction l with
  | nil => rfl
  | cons d r ih => rw [dotsC, List.flatMap_cons, List.length_append, ← dotsC, ih]; simp [dC]; omega
theorem dotsC_app (l m : List D) : dotsC (l ++ m) = dotsC l ++ dotsC m := by simp [dotsC]
theorem dotsC_one (d : D) : dotsC [d] = [iV d.1, iV d.2] := rfl
theorem dotsC_take (l : List D) (k : Nat) : (dotsC l).take (k * 2) = dotsC (l.take k) := by
  induction l generalizing k with
  | nil => simp [dotsC]
  | cons d r ih =>
    cases k with
    | zero => simp [dotsC]
    | succ k =>
      show ([iV d.1, iV d.2] ++ dotsC r).take ((k + 1) * 2) = [iV d.1, iV d.2] ++ dotsC (r.take k)
      rw [← ih, show (k + 1) * 2 = k * 2 + 2 by omega]
      rfl
theorem dotsC_drop (l : List D) (k : Nat) : (dotsC l).drop (k * 2) = dotsC (l.drop k) := by
  induction l generalizing k with
  | nil => simp [dotsC]
  | cons d r ih =>
    cases k with
    | zero => simp [dotsC]
    | succ k =>
      show ([iV d.1, iV d.2] ++ dotsC r).drop ((k + 1) * 2) = dotsC (r.drop k)
      rw [← ih, show (k + 1) * 2 = k * 2 + 2 by omega]
      rfl
theorem dotsC_at (l : List D) (i : Nat) (h : i < l.length) : (dotsC l)[i * 2]? = some (iV (l.getD i z0).1) ∧ (dotsC l)[i * 2 + 1]? = some (iV (l.getD i z0).2) := by
  have hd : (dotsC l).drop (i * 2) = iV (l.getD i z0).1 :: iV (l.getD i z0).2 :: dotsC (l.drop (i + 1)) := by
    rw [dotsC_drop, drop_at l i h]; rfl
  constructor
  · have := congrArg (fun q => q[0]?) hd
    simpa [List.getElem?_drop] using this
  · have := congrArg (fun q => q[1]?) hd
    simpa [List.getElem?_drop] using this
theorem dotsC_cell (l : List D) : ∀ v ∈ dotsC l, v.oneCell' = true := by
  intro v hv
  obtain ⟨d, _, h⟩ := List.mem_flatMap.1 hv
  simp only [dC, List.mem_cons, List.not_mem_nil, or_false] at h
  rcases h with rfl | rfl <;> rfl
theorem info_dot : ∃ i, Tryz.prog.info? 99 = some i ∧ i.zero = some (.agg #[iV 0, iV 0]) ∧ i.size = 2 ∧ i.bytes = 16 := by
  have h : (Tryz.prog.info? 99).map (fun i => (i.zero, i.size, i.bytes)) = some (some (.agg #[iV 0, iV 0]), 2, 16) := by kernel_rfl
  cases hi : Tryz.prog.info? 99 with
  | none => rw [hi] at h; cases h
  | some i =>
    rw [hi] at h
    simp only [Option.map_some, Option.some.injEq, Prod.mk.injEq] at h
    exact ⟨i, rfl, h.1, h.2.1, h.2.2⟩
/-- a row of one's own, as dots -/
theorem own_dots {w : World} {base n : Nat} {v : Value} {l : List D} (h : w.ownsRow base 99 2 v n (dotsC l)) : ∃ a c, v = .slice a n c ∧ l.length = n ∧ n ≤ c ∧ DotsAt w w.heap.size a l := by
  have hl : l.length = n := by have := h.1; rw [dotsC_len] at this; omega
  rcases h.2 with ⟨rfl, rfl⟩ | ⟨g, c, cur, rfl, hb, hg, hnc, hcm, hcs, ht⟩
  · exact ⟨none, 0, rfl, hl, Nat.le_refl _, Nat.le_refl _, Or.inl hl⟩
  · refine ⟨_, c, rfl, hl, hnc, Nat.le_refl _, Or.inr ⟨g, 0, rfl, lt_of_block hg, fun i hi => ?_⟩⟩
    obtain ⟨e1, e2⟩ := dotsC_at l i hi
    rw [Nat.zero_add]
    have key : ∀ j u, (dotsC l)[j]? = some u → w.cell? ⟨g, j, none⟩ = some u := fun j u hu => by
      have := h.cells (g := g) rfl j u hu
      rwa [Addr.add_lit, Nat.zero_add] at this
    exact ⟨key _ _ e1, key _ _ e2⟩
theorem run_copy2 (w : World) (dT sT ty : TypeId) (hu : Tryz.prog.underlying dT = some (.slice 99)) (b o dLen dCap : Nat) (a : Addr) (sLen sCap m : Nat) (cs : List Value) (hm : Nat.min sLen dLen = m) (hn : cs.length = m * 2)
    (hsrc : ∀ j v, cs[j]? = some v → w.cell? (a.add j) = some v) (hc : ∀ j, j < cs.length → (w.cell? ⟨b, o + j, none⟩).isSome = true) (hf : ∀ j, j < cs.length → w.frozen? ⟨b, o + j, none⟩ = false) (h1 : ∀ v ∈ cs, v.oneCell' = true) :
    (Builtin.copy_ #[dT, sT] ty #[.slice (some ⟨b, o, none⟩) dLen dCap, .slice (some a) sLen sCap]).run Tryz.prog w = .ok (goInt m) (w.setCells b o cs) := by
  have hl := run_loadCells_list (P := Tryz.prog) w a cs hsrc
  have hst := run_storeCells_cells (P := Tryz.prog) b o cs 0 w (by simpa using hc) (by simpa using hf) h1
  obtain ⟨i, hi, _, hs, _⟩ := info_dot
  rw [hn] at hl
  simp [Builtin.copy_, run_underlying hu, Builtin.lenOf, Builtin.firstCells, sizeOf, typeInfo, hi, hs, hm, hl, hst]
theorem append_args (w : World) (t tx ty e' : TypeId) (ht : Tryz.prog.underlying t = some (.slice 99)) (htx : Tryz.prog.underlying tx = some (.slice e')) (a : Option Addr) (n c : Nat) (x : Value) :
    (Builtin.append_ #[t, tx] ty #[.slice a n c, x]).run Tryz.prog w = (Builtin.append_ #[t, t] ty #[.slice a n c, x]).run Tryz.prog w := by
  obtain ⟨i, hi, _, hs, _⟩ := info_dot
  simp [Builtin.append_, run_underlying ht, run_underlying htx, sizeOf, typeInfo, hi, hs]
end Ve
end Go.Proofs.YtohcoihdijemfaaGreat

/- Dots appended to a row of one's own. -/
namespace Go.Proofs.YtohcoihdijemfaaGreat
open Go.RowKit Ve
namespace Ve
abbrev OwnD' (w : World) (base : Nat) (v : Value) (n : Nat) (l : List D) : Prop := w.ownsRow base 99 2 v n (dotsC l)
/-- dots that lie somewhere, appended to a row of one's own -/
theorem append_dots (w : World) (base B : Nat) (v : Value) (n0 : Nat) (l0 : List D) (a : Option Addr) (m c : Nat) (p : List D) (hown : OwnD' w base v n0 l0) (hm : p.length = m) (hp : DotsAt w B a p) (ha : a = none → c = 0) (hn : n0 + m ≤ 1000000000) (hbase : base ≤ w.heap.size) :
    ∃ v' w', (Builtin.append_ #[48, 48] 48 #[v, .slice a m c]).run Tryz.prog w = .ok v' w' ∧ OwnD' w' base v' (n0 + m) (l0 ++ p) ∧ w.grownBy w' v.ownBlock := by
  obtain ⟨i, hi, hz, hs, hb⟩ := info_dot
  rcases a with _ | ad
  · have h0 : p.length = 0 := by
      rcases hp.cells with h | ⟨_, _, h, _⟩
      · exact h
      · cases h
    obtain rfl : p = [] := List.eq_nil_of_length_eq_zero h0
    obtain rfl : m = 0 := by rw [← hm]; rfl
    obtain rfl := ha rfl
    exact ⟨v, w, run_append_owned_none (P := Tryz.prog) w base 48 48 99 i 2 Tryz.underlying48 hi v n0 _ hown, by simpa using hown, gb_refl _ _⟩
  · obtain ⟨v', w', hr, ho, hg, _⟩ := run_append_own (P := Tryz.prog) w base 48 48 99 i (.agg #[iV 0, iV 0]) 2 16 Tryz.underlying48 hi hz hs hb rfl (by decide) v n0 (dotsC l0) hown ad m c (dotsC p) (by rw [dotsC_len, hm])
      (fun j u hu => by
        have hj : j < p.length * 2 := by have := (List.getElem?_eq_some_iff.1 hu).1; rwa [dotsC_len] at this
        obtain ⟨pb, po, e, _, hc⟩ := hp.cells.resolve_left (by omega)
        cases e
        obtain ⟨q, hq⟩ : ∃ q, j = q * 2 ∨ j = q * 2 + 1 := ⟨j / 2, by omega⟩
        have hql : q < p.length := by omega
        obtain ⟨e1, e2⟩ := dotsC_at p q hql
        obtain ⟨f1, f2⟩ := hc q hql
        rw [Addr.add_lit]
        rcases hq with rfl | rfl
        · rw [e1] at hu; rw [f1]; exact hu
        · rw [e2] at hu; rw [← Nat.add_assoc, f2]; exact hu) (dotsC_cell p) (by unfold maxLen; omega) (by omega) hbase
    exact ⟨v', w', hr, by unfold OwnD'; rw [dotsC_app]; exact ho, hg⟩
theorem own_shapeD {w : World} {base n : Nat} {v : Value} {l : List D} (h : OwnD' w base v n l) : ∃ a c, v = .slice a n c := by
  rcases h.2 with ⟨rfl, h0⟩ | ⟨g, c, _, rfl, _⟩
  · exact ⟨none, 0, by rw [h0]⟩
  · exact ⟨_, _, rfl⟩
theorem gb_ownD' {w0 w w' : World} {base n : Nat} {v : Value} {l : List D} (h : w0.grownBy w none) (ho : OwnD' w base v n l) (hb : w0.heap.size ≤ base) (hg : w.grownBy w' v.ownBlock) : w0.grownBy w' none :=
  ⟨hg.os.trans h.os, hg.tape.trans h.tape, hg.output.trans h.output, Nat.le_trans h.size hg.size, fun k hk _ => (hg.block k (Nat.lt_of_lt_of_le hk h.size) (fun e => by have := (ho.lt k e.symm).1; omega)).trans (h.block k hk (by simp))⟩
theorem dots_one' (w : World) (x y : Int) (T : TypeId) : DotsAt (w.alloc (.cells #[iV x, iV y] T)) (w.heap.size + 1) (some ⟨w.heap.size, 0, none⟩) [(x, y)] := by
  have hB : Blk (w.alloc (.cells #[iV x, iV y] T)) w.heap.size T [iV x, iV y] := Blk.new w _ _
  refine ⟨by simp, Or.inr ⟨w.heap.size, 0, rfl, by omega, fun i hi => ?_⟩⟩
  obtain rfl : i = 0 := by simp at hi; omega
  exact ⟨hB.cell (i := 0) rfl, hB.cell (i := 1) rfl⟩
end Ve
end Go.Proofs.YtohcoihdijemfaaGreat

/- One step of a region that draws its order, for go_region_law: an append whose run is known; a call by its contract. -/
namespace Go.Proofs.YtohcoihdijemfaaGreat
open Go
namespace Fg
theorem step_append {P : Program} {ops : Array Oper} {o : Oper} {a : Act} {w : World} {K : Act → World → Prop} {Q : Exit → Act → World → Prop} {E : Prop} (hg : o.guard = none) (s x : Operand) (t : TypeId)
    (ho : o.op = .call { callee := .builtin .append, args := #[s, x], argTypes := #[t, t] }) (ht : o.type = t) (v y : Value) (hs : a.eval s = v) (hx : a.eval x = y) (v' : Value) (w' : World)
    (hr : (Builtin.append_ #[t, t] t #[v, y]).run P w = .ok v' w') (hK : K (a.put o.dst v') w') : if Region.wanted o (yielded ops a.tmps) = true then Oper.wp P o a w K Q else E := by
  have hw : Region.wanted o (yielded ops a.tmps) = true := by simp [Region.wanted, hg]
  rw [if_pos hw]
  rw [← ht] at hr
  unfold Oper.wp
  simp [execOp, ho, resolve, invoke, builtin, hs, hx, ← ht, hr, Result.andThen]
  exact hK
theorem step_call {P : Program} {ops : Array Oper} {o : Oper} {a : Act} {w : World} {K : Act → World → Prop} {Q : Exit → Act → World → Prop} {E : Prop} (hg : o.guard = none) {f : FuncId} {args : Array Value}
    (hr : (execOp a.eval o).run P w = .ok (.enter f args) w) (hc : Calls P f args w fun e w' => ∃ v, e = .returned v ∧ K (a.put o.dst v) w') : if Region.wanted o (yielded ops a.tmps) = true then Oper.wp P o a w K Q else E := by
  have hw : Region.wanted o (yielded ops a.tmps) = true := by simp [Region.wanted, hg]
  rw [if_pos hw]
  unfold Oper.wp
  rw [hr]
  exact Calls.mono hc fun e w' ⟨v, he, hK⟩ => by subst he; exact hK
/-- a result that is a row, and one beside it -/
theorem res_row_tmp {P : Program} {fn : Func} {p u : Tmp} {ty : TypeId} (h : fn.results = #[.cell p ty, .tmp u]) (tmps : Array Value) (w : World) (g : Nat) (t : TypeId) (cs : Array Value) (fr : Nat × Nat) (d : TypeDesc)
    (hp : tmps.getD p undef = .pointer (some ⟨g, 0, none⟩)) (hg : w.heap[g]? = some (.cells cs t fr))
    (hu : P.underlying ty = some d) (hd : (match d with | .struct _ | .array _ _ => true | _ => false) = true) (hi : (P.info? ty).map (·.size) = some cs.size) {v : Value} (hv : tmps.getD u undef = v) :
    (results fn tmps).run P w = .ok (.tuple #[.agg cs, v]) w := by
  rw [results_cell_tmp h, hp, hv]
  simp [asAddr, run_loadVar_row w g t ty cs fr d hg hu hd hi, Result.andThen]
end Fg
end Go.Proofs.YtohcoihdijemfaaGreat

/- Rows of one's own: beside a block of another type. -/
namespace Go.Proofs.YtohcoihdijemfaaGreat
open Go.RowKit Ow Wi Ve
namespace Rc
theorem own_mono {w : World} {base b' e sz n : Nat} {v : Value} {xs : List Value} (h : w.ownsRow base e sz v n xs) (hb : b' ≤ base) : w.ownsRow b' e sz v n xs := by
  refine ⟨h.1, ?_⟩
  rcases h.2 with h0 | ⟨g, c, cur, e1, hg, rest⟩
  · exact Or.inl h0
  · exact Or.inr ⟨g, c, cur, e1, Nat.le_trans hb hg, rest⟩
/-- a block of another type is written -/
theorem own_other {w w' : World} {base e sz n T Tt : Nat} {v : Value} {xs : List Value} {L : List Value} (h : w.ownsRow base e sz v n xs) (hb : Blk w T Tt L) (hne : Tt ≠ e) (hg : w.grownBy w' (some T)) : w'.ownsRow base e sz v n xs := by
  refine h.kept hg ?_
  rcases h.2 with ⟨rfl, _⟩ | ⟨g, c, cur, rfl, _, hh, _⟩
  · exact Or.inl rfl
  · refine Or.inr fun e2 => ?_
    simp only [Value.ownBlock, Option.some.injEq] at e2
    subst e2
    unfold Blk at hb
    rw [hb] at hh
    simp only [Option.some.injEq, Obj.cells.injEq] at hh
    exact hne hh.2.1
end Rc
end Go.Proofs.YtohcoihdijemfaaGreat

/- The kit's lent bytes: a copy with marks behind it; whether they were kept. -/
namespace Go.Proofs.YtohcoihdijemfaaGreat
open Go.RowKit Ow

/-- the mark of a place in a list of bytes -/
def mkB (k i : Nat) : Nat := (1000003 * (k + 7) + i) * 11400714819323198485 % 18446744073709551616 / 72057594037927936
theorem mkB_lt (k i : Nat) : mkB k i < 256 := by unfold mkB; omega
theorem mkB_is (k i : Nat) : IntKind.u64.wrap ((1000003 * ((k : Int) + 7) + (i : Int)) * 11400714819323198485) / 72057594037927936 % 256 = ((mkB k i : Nat) : Int) := by
  have e : (1000003 * ((k : Int) + 7) + (i : Int)) * 11400714819323198485 = (((1000003 * (k + 7) + i) * 11400714819323198485 : Nat) : Int) := by omega
  rw [e, IntKind.wrap_u64]
  unfold mkB
  generalize (1000003 * (k + 7) + i) * 11400714819323198485 = x
  omega
set_option maxHeartbeats 400000 in
theorem mkByte_any (k i : Nat) (w : World) (hk : k ≤ 1000000) (hi : i ≤ 1000000) :
    Calls Tryz.prog 48 #[.int .i64 k, .int .i64 i] w fun e w' => e = .returned (.int .u8 (mkB k i)) ∧ w' = w := by
  go_enter Tryz.func48, Tryz.ntmps48
  go_wp2
  go_ret
  refine ⟨?_, rfl⟩
  rw [← mkB_is]; rfl
/-- marks, by whatever function; Marks f: the kit's -/
structure Marks (f : Nat → Nat → Nat) : Prop where
  lt : ∀ k i, f k i < 256
  run : ∀ (k i : Nat) (x y : Int) (w : World), x = k → y = i → k ≤ 1000000 → i ≤ 1000000 → Calls Tryz.prog 48 #[.int .i64 x, .int .i64 y] w fun e w' => e = .returned (.int .u8 (f k i)) ∧ w' = w
theorem marks_kit : Marks mkB := ⟨mkB_lt, fun k i x y w hx hy hk hi => by subst hx; subst hy; exact mkByte_any k i w hk hi⟩
theorem marks_are : ∃ f, Marks f := ⟨mkB, marks_kit⟩
def marksOf (f : Nat → Nat → Nat) (k j : Nat) : List Nat := (List.range j).map (f k)
theorem marksOf_length (f : Nat → Nat → Nat) (k j : Nat) : (marksOf f k j).length = j := by simp [marksOf]
theorem marksOf_next (f : Nat → Nat → Nat) (k j : Nat) : (marksOf f k (j + 1)).map u8N = (marksOf f k j).map u8N ++ [u8N (f k j)] := by simp [marksOf, List.range_succ]
theorem marksOf_get (f : Nat → Nat → Nat) (k j i : Nat) (h : i < j) : (marksOf f k j).getD i 0 = f k i := by
  unfold marksOf; rw [List.getD_eq_getElem?_getD, List.getElem?_map, List.getElem?_range h]; rfl
theorem marksOf_lt {f : Nat → Nat → Nat} (hf : Marks f) (k j i : Nat) : (marksOf f k j).getD i 0 < 256 := by
  by_cases h : i < j
  · rw [marksOf_get f k j i h]; exact hf.lt _ _
  · rw [List.getD_eq_getElem?_getD, List.getElem?_eq_none (by rw [marksOf_length]; omega)]; decide
set_option maxHeartbeats 1000000 in
theorem lentB_any {f : Nat → Nat → Nat} (hf : Marks f) (n cap B : Nat) (p : List Nat) (a : Option Addr) (w : World) (hn : p.length = n) (hP : BytesAt w B a cap p) (hlen : n ≤ 30000) :
    Calls Tryz.prog 18 #[.slice a n cap] w fun e w' => ∃ g, e = .returned (.slice (some ⟨g, 0, none⟩) n (n + 12)) ∧ w.grownBy w' none ∧ w.heap.size ≤ g ∧ Blk w' g 5 ((p ++ marksOf f 1 12).map u8N) := by
  have HF := Lib.hid hf; clear hf
  obtain ⟨w1, hmk, hg1, hs1, hb1⟩ := make_bytes 0 (n + 12) w (by omega) (by omega)
  have ho1 : w1.ownsRow w.heap.size 5 1 (.slice (some ⟨w.heap.size, 0, none⟩) 0 (n + 12)) 0 [] :=
    ⟨rfl, Or.inr ⟨w.heap.size, n + 12, _, rfl, Nat.le_refl _, hb1, by omega, by unfold maxLen; omega, by simp, by simp⟩⟩
  obtain ⟨w2, hap, ho2, hg2⟩ := append_bytes_fits w1 w.heap.size w.heap.size 0 (n + 12) B cap n [] a p ho1 hn (hP.stay hg1) (by omega)
  have hg02 := gb_then hg1 hg2 (Nat.le_refl _)
  rw [Nat.zero_add, List.nil_append] at ho2
  have hmk' : (Instr.makeSlice 23 (.int .i64 0) (.int .i64 ((n : Int) + 12))).run Tryz.prog w = .ok (.slice (some ⟨w.heap.size, 0, none⟩) 0 (n + 12)) w1 := hmk
  rw [Nat.zero_add] at hap
  have H2 := Lib.hid (And.intro hap (And.intro ho2 hg02)); clear hap ho2 hg02 hg1 hg2 ho1 hmk hs1 hb1 hP
  go_enter Tryz.func18, Tryz.ntmps18
  go_wp2_with (at_builtin; refine wpList_append_run rfl (.tmp 9) (.tmp 10) 23 rfl rfl _ _ rfl rfl _ _ H2.out.1 ?_)
  go_loopw [3, 4] (fun v i wr => ∃ j m : Nat, j ≤ 12 ∧ m = n + j ∧ i = .int .i64 j ∧ v = .slice (some ⟨w.heap.size, 0, none⟩) m (n + 12) ∧ wr.ownsRow w.heap.size 5 1 (.slice (some ⟨w.heap.size, 0, none⟩) m (n + 12)) m (p.map u8N ++ (marksOf f 1 j).map u8N) ∧ w.grownBy wr none) (fun _ i _ => 12 - (intOf i).toNat)
  case atStart => exact ⟨0, n, by omega, rfl, rfl, rfl, by simpa [marksOf] using H2.out.2.1, H2.out.2.2⟩
  case round =>
    obtain ⟨j, m, hj, hm, rfl, rfl, hown, hg⟩ := hrel
    by_cases hlt : j < 12
    · obtain ⟨y, hy⟩ : ∃ y, y = f 1 j := ⟨_, rfl⟩
      obtain ⟨w3, hap, ho3, hg3⟩ := append_byte_fits wr w.heap.size w.heap.size m (n + 12) y _ (by rw [hy]; exact HF.out.lt _ _) hown (by omega)
      have hg4 := gb_then hg hg3 (Nat.le_refl _)
      rw [List.append_assoc, hy, ← marksOf_next] at ho3
      unfold u8N at hap
      have hmb := fun W => HF.out.run 1 j 1 j W rfl rfl (by decide) (by omega)
      rw [← hy] at hmb
      have HI := Lib.hid (And.intro hap (And.intro ho3 (And.intro hg4 (And.intro hm hmb)))); clear hap ho3 hg4 hg3 hm hown hg hy hmb
      have i0 : (j : Int) < 12 := by omega
      go_wp2_with fail
      refine (HI.out.2.2.2.2 wr).mono ?_
      rintro e w4 ⟨rfl, rfl⟩
      go_wp2_with (at_builtin; refine wpList_append_run rfl (.tmp 16) (.tmp 19) 23 rfl rfl _ _ rfl rfl _ _ HI.out.1 ?_)
      go_roundw
      case rel => exact ⟨j + 1, m + 1, by omega, by have := HI.out.2.2.2.1; omega, by go_num, rfl, HI.out.2.1, HI.out.2.2.1⟩
      case measure => simp [intOf]; omega
    · obtain rfl : j = 12 := by omega
      have e : m = n + 12 := hm
      subst e
      rw [← List.map_append] at hown
      rcases hown.2 with ⟨h0, _⟩ | ⟨g', c', cur, e1, hbg, hgh, _, _, hs, ht⟩
      · cases h0
      · cases e1
        have hcur : cur.toList = (p ++ marksOf f 1 12).map u8N := by rw [← ht, List.take_of_length_le]; rw [Array.length_toList]; omega
        have hblk : Blk wr w.heap.size 5 ((p ++ marksOf f 1 12).map u8N) := by unfold Blk; rw [hgh, ← hcur, Array.toArray_toList]
        have HI := Lib.hid (And.intro hblk hg); clear hown hg hm hgh hcur hblk ht hs
        go_wp2
        go_ret
        exact ⟨w.heap.size, rfl, HI.out.2, Nat.le_refl _, HI.out.1⟩
end Go.Proofs.YtohcoihdijemfaaGreat

/- The kit's marks of dots; its lent dots: a copy with marks behind it. -/
namespace Go.Proofs.YtohcoihdijemfaaGreat
open Go.RowKit Ve
namespace Ve
/-- the number in a mark -/
def mkN (k i : Nat) : Nat := 1000003 * (k + 7) + i
set_option maxHeartbeats 400000 in
theorem mark_any (k i : Nat) (w : World) (hk : k ≤ 1000000) (hi : i ≤ 1000000) :
    Calls Tryz.prog 95 #[.int .i64 k, .int .i64 i] w fun e w' => e = .returned (.int .i64 (mkN k i : Nat)) ∧ w = w' := by
  go_enter Tryz.func95, Tryz.ntmps95
  go_wp2
  go_ret
  refine ⟨?_, rfl⟩
  unfold mkN
  congr 2
def MarkOut (w : World) (m : Nat) (e : Ending) (w' : World) : Prop := e = .returned (.agg #[iV 0, iV m]) ∧ w.grownBy w' none
set_option maxHeartbeats 400000 in
theorem markDot_any (k i : Nat) (w : World) (hk : k ≤ 1000000) (hi : i ≤ 1000000) :
    Calls Tryz.prog 101 #[.int .i64 k, .int .i64 i] w (MarkOut w (mkN k i)) := by
  have hm := mark_any k i (w.alloc (.cells #[.int .i64 0, .int .i64 0] 99)) hk hi
  generalize mkN k i = m at hm ⊢
  go_enter Tryz.func101, Tryz.ntmps101
  go_wp2_with fail
  refine hm.mono ?_
  rintro e w' ⟨rfl, rfl⟩
  go_wp2
  exact bodyPost_ret (v := .agg #[iV 0, iV m]) (by simp [results, Tryz.results101, go_sem]) rfl ⟨rfl, gb_alloc (gb_refl _ _) _⟩
/-- marks, one behind the other -/
def marksD (k j : Nat) : List D := (List.range j).map fun i => (0, (mkN k i : Int))
theorem marksD_len (k j : Nat) : (marksD k j).length = j := by simp [marksD]
theorem marksD_next (k j : Nat) : marksD k (j + 1) = marksD k j ++ [(0, (mkN k j : Int))] := by simp [marksD, List.range_succ]
theorem marksD_get (k j i : Nat) (h : i < j) : (marksD k j).getD i z0 = (0, (mkN k i : Int)) := by
  unfold marksD; rw [List.getD_eq_getElem?_getD, List.getElem?_map, List.getElem?_range h]; rfl
/-- what is lent: a copy in a new block, marks behind it -/
def LentOut (w : World) (n : Nat) (p : List D) (e : Ending) (w' : World) : Prop :=
  ∃ g c, e = .returned (.slice (some ⟨g, 0, none⟩) n c) ∧ n + 12 ≤ c ∧ OwnD' w' w.heap.size (.slice (some ⟨g, 0, none⟩) (n + 12) c) (n + 12) (p ++ marksD 1 12) ∧ w.grownBy w' none
set_option maxHeartbeats 1000000 in
theorem lentD_any (n cap B : Nat) (p : List D) (a : Option Addr) (w : World) (hn : p.length = n) (hP : DotsAt w B a p) (ha : a = none → cap = 0) (hlen : n ≤ 30000) :
    Calls Tryz.prog 58 #[.slice a n cap] w (LentOut w n p) := by
  obtain ⟨i, hi, hz, hs, hb⟩ := info_dot
  obtain ⟨w1, hmk, ho1, hg1⟩ := run_make_own (P := Tryz.prog) w w.heap.size 48 99 i (.agg #[iV 0, iV 0]) 2 Tryz.underlying48 hi hz hs .i64 .i64 (n + 12) (by rw [hb]; omega) (by unfold maxLen; omega) (Nat.le_refl _)
  obtain ⟨v2, w2, hap, ho2, hg2⟩ := append_dots w1 w.heap.size B _ 0 [] a n cap p ho1 hn (hP.stay hg1) ha (by omega) hg1.size
  have hg02 := gb_ownD' hg1 (l := []) ho1 (Nat.le_refl _) hg2
  rw [Nat.zero_add, List.nil_append] at ho2
  have hmk' : (Instr.makeSlice 48 (.int .i64 0) (.int .i64 ((n : Int) + 12))).run Tryz.prog w = .ok (.slice (some ⟨w.heap.size, 0, none⟩) 0 (n + 12)) w1 := hmk
  obtain ⟨a2, c2, rfl⟩ := own_shapeD ho2
  have H2 := Lib.hid (And.intro hap (And.intro ho2 hg02)); clear hap ho2 hg02 hg1 hg2 ho1 hmk hP hi hz hs hb
  obtain ⟨Q, hQ⟩ : ∃ Q, Q = LentOut w n p := ⟨_, rfl⟩
  rw [← hQ]
  have HQ := Lib.hid hQ; clear hQ
  go_enter Tryz.func58, Tryz.ntmps58
  go_wp2_with (at_builtin; refine Lib.wpList_append_run _ rfl _ _ _ _ rfl _ _ rfl rfl _ _ H2.out.1 ?_)
  go_loopw [3, 4] (fun v i wr => ∃ (j m c : Nat) (a : Option Addr), j ≤ 12 ∧ Hid (m = n + j) ∧ i = .int .i64 j ∧ v = .slice a m c ∧ Hid (OwnD' wr w.heap.size (.slice a m c) m (p ++ marksD 1 j) ∧ w.grownBy wr none)) (fun _ i _ => 12 - (intOf i).toNat)
  case atStart => exact ⟨0, n, c2, a2, by omega, rfl, rfl, rfl, by rw [show marksD 1 0 = [] from rfl, List.append_nil]; exact H2.out.2⟩
  case round =>
    obtain ⟨j, m, c, a', hj, hm, rfl, rfl, HO⟩ := hrel
    by_cases hlt : j < 12
    · have i0 : (j : Int) < 12 := by omega
      have hmk := Lib.hid (markDot_any 1 j wr (by decide) (by omega))
      obtain ⟨y, hy⟩ : ∃ y, y = mkN 1 j := ⟨_, rfl⟩
      rw [← hy] at hmk
      go_wp2_with fail
      refine hmk.out.mono ?_
      rintro e w4 ⟨rfl, hg4⟩
      obtain ⟨v3, w3, hap, ho3, hg3⟩ := append_dots (w4.alloc (.cells #[iV 0, iV y] 99)) w.heap.size (w4.heap.size + 1) (.slice a' m c) m (p ++ marksD 1 j) (some ⟨w4.heap.size, 0, none⟩) 1 1 [(0, (y : Int))] ((HO.out.1.kept hg4 (by cases (Value.slice a' m c).ownBlock <;> simp)).alloc _) rfl (dots_one' w4 0 y _) (fun h => by cases h) (by have := hm.out; omega) (by have := HO.out.2.size; have := hg4.size; simp; omega)
      have hg5 := gb_ownD' (gb_trans HO.out.2 (gb_trans hg4 (gb_alloc (gb_refl _ none) (.cells #[iV 0, iV y] 99)))) (l := p ++ marksD 1 j) ((HO.out.1.kept hg4 (by cases (Value.slice a' m c).ownBlock <;> simp)).alloc _) (Nat.le_refl _) hg3
      obtain ⟨a5, c5, rfl⟩ := own_shapeD ho3
      rw [List.append_assoc, hy, ← marksD_next] at ho3
      have HN := Lib.hid (And.intro hap (And.intro ho3 hg5)); clear hap ho3 hg5 hg3 hg4 hy hmk
      go_wp2_with (at_builtin; refine Lib.wpList_append_run _ rfl _ _ _ _ rfl _ _ rfl rfl _ _ HN.out.1 ?_)
      go_roundw
      case rel => exact ⟨j + 1, m + 1, c5, a5, by omega, by have := hm.out; show m + 1 = n + (j + 1); omega, by go_num, rfl, HN.out.2⟩
      case measure => simp [intOf]; omega
    · obtain rfl : j = 12 := by omega
      have e : m = n + 12 := hm.out
      subst e
      obtain ⟨g, rfl, hc⟩ : ∃ g, a' = some ⟨g, 0, none⟩ ∧ n + 12 ≤ c := by
        rcases HO.out.1.2 with ⟨_, h⟩ | ⟨g, c', _, e, _, _, h, _⟩
        · omega
        · simp only [Value.slice.injEq, true_and] at e; exact ⟨g, e.1, by omega⟩
      have HF : Hid (Q (.returned (.slice (some ⟨g, 0, none⟩) n c)) wr) := by rw [HQ.out]; exact ⟨g, c, rfl, hc, HO.out.1, HO.out.2⟩
      have i1 : (n : Int) ≤ (c : Int) := by omega
      clear HO hm
      go_wp2
      exact HF.out
end Ve
end Go.Proofs.YtohcoihdijemfaaGreat

/- The kit's LentRecord: a record's parts copied, with marks behind them. (Printed by gen_rclent.py.) -/
namespace Go.Proofs.YtohcoihdijemfaaGreat
open Go.RowKit Ow Wi Ve
namespace Rc
/-- what LentRecord tells of a record that lies as q -/
def LpOut (f : Nat → Nat → Nat) (w : World) (q : L) (r : R) (e : Ending) (w' : World) : Prop :=
  ∃ (b1 : Option Addr) (d1 : Nat) (b2 b3 : Option Addr), e = .returned ((L.mk q.s b1 q.n1 d1 b2 q.n2 (q.n2 + 12) b3 q.n3 (q.n3 + 12)).v r) ∧ w.grownBy w' none ∧ q.n1 + 12 ≤ d1 ∧
    OwnD' w' w.heap.size (.slice b1 (q.n1 + 12) d1) (q.n1 + 12) (r.cx ++ marksD 1 12) ∧
    w'.ownsRow w.heap.size 5 1 (.slice b2 (q.n2 + 12) (q.n2 + 12)) (q.n2 + 12) ((r.val ++ marksOf f 1 12).map u8N) ∧
    w'.ownsRow w.heap.size 5 1 (.slice b3 (q.n3 + 12) (q.n3 + 12)) (q.n3 + 12) ((r.sig ++ marksOf f 1 12).map u8N)
theorem lentD_ex (n cap B : Nat) (p : List D) (a : Option Addr) (w : World) (hn : p.length = n) (hP : DotsAt w B a p) (ha : a = none → cap = 0) (hlen : n ≤ 30000) :
    Calls Tryz.prog 58 #[.slice a n cap] w fun e w' => ∃ b d, e = .returned (.slice b n d) ∧ w.grownBy w' none ∧ n + 12 ≤ d ∧ OwnD' w' w.heap.size (.slice b (n + 12) d) (n + 12) (p ++ marksD 1 12) :=
  (lentD_any n cap B p a w hn hP ha hlen).mono fun _ _ ⟨_, c, he, hc, ho, hg⟩ => ⟨_, c, he, hg, hc, ho⟩
theorem lentB_ex {f : Nat → Nat → Nat} (hf : Marks f) (n cap B : Nat) (p : List Nat) (a : Option Addr) (w : World) (hn : p.length = n) (hP : BytesAt w B a cap p) (hlen : n ≤ 30000) :
    Calls Tryz.prog 18 #[.slice a n cap] w fun e w' => ∃ b, e = .returned (.slice b n (n + 12)) ∧ w.grownBy w' none ∧ w'.ownsRow w.heap.size 5 1 (.slice b (n + 12) (n + 12)) (n + 12) ((p ++ marksOf f 1 12).map u8N) := by
  refine (lentB_any hf n cap B p a w hn hP hlen).mono fun _ _ ⟨g, he, hg, hw, hb⟩ => ⟨_, he, hg, ?_⟩
  have hl : ((p ++ marksOf f 1 12).map u8N).length = n + 12 := by rw [List.length_map, List.length_append, marksOf_length, hn]
  exact ⟨by omega, Or.inr ⟨g, n + 12, _, rfl, hw, hb, Nat.le_refl _, by unfold maxLen; omega, by simpa using hl, by simp only [Nat.mul_one]; rw [List.take_of_length_le (by omega)]⟩⟩
set_option maxHeartbeats 4000000 in
theorem lentRec_any {f : Nat → Nat → Nat} (hf : Marks f) (r : R) (B : Nat) (w : World) (q : L) (h : RAt w B q r) (hroom : q.a1 = none → q.c1 = 0) (hs : q.n1 ≤ 30000 ∧ q.n2 ≤ 30000 ∧ q.n3 ≤ 30000) : Calls Tryz.prog 32 #[q.v r] w (LpOut f w q r) := by
  have HD := Lib.hid (fun w' (hg : w.grownBy w' none) => lentD_ex q.n1 q.c1 B r.cx q.a1 w' h.l1 (h.dots.stay hg) hroom hs.1)
  have HV := Lib.hid (fun w' (hg : w.grownBy w' none) => lentB_ex hf q.n2 q.c2 B r.val q.a2 w' h.l2 (h.val.stay hg) hs.2.1)
  have HS := Lib.hid (fun w' (hg : w.grownBy w' none) => lentB_ex hf q.n3 q.c3 B r.sig q.a3 w' h.l3 (h.sig.stay hg) hs.2.2)
  have HK := Lib.hid (And.intro h.str (And.intro h.val.byte (And.intro h.sig.byte h.top)))
  obtain ⟨Q, hQ⟩ : ∃ Q, Q = LpOut f w q r := ⟨_, rfl⟩
  rw [← hQ]
  have HQ := Lib.hid hQ; clear hQ h hs hroom
  obtain ⟨s, a1, n1, c1, a2, n2, c2, a3, n3, c3⟩ := q
  obtain ⟨key, cl, sq, cx, g, val, sig⟩ := r
  show Calls _ _ #[.agg #[.string s, iV cl, iV sq, .slice a1 n1 c1, .bool g, .slice a2 n2 c2, .slice a3 n3 c3]] w _
  simp only at HD HV HS HK
  obtain ⟨N, hN⟩ : ∃ N, N = w.heap.size := ⟨_, rfl⟩
  obtain ⟨M, hM⟩ : ∃ M, M = w.heap.size + 1 := ⟨_, rfl⟩
  obtain ⟨W0, hW0⟩ : ∃ W0, W0 = (w.alloc (.cells #[.string s, iV cl, iV sq, .slice a1 n1 c1, .bool g, .slice a2 n2 c2, .slice a3 n3 c3] 50)).alloc (.cells z7.toArray 50) := ⟨_, rfl⟩
  have HG : Hid (Blk W0 N 50 [.string s, iV cl, iV sq, .slice a1 n1 c1, .bool g, .slice a2 n2 c2, .slice a3 n3 c3] ∧ Blk W0 M 50 z7 ∧ w.grownBy W0 none) := by
    refine ⟨?_, ?_, ?_⟩
    · rw [hW0, hN]; exact (Blk.new _ _ _).alloc _
    · rw [hW0, hM, ← World.size_alloc]; exact Blk.new _ _ _
    · rw [hW0]; exact gb_alloc (gb_alloc (gb_refl _ _) _) _
  have HNM : Hid (w.heap.size ≤ N ∧ w.heap.size ≤ M ∧ N ≠ M) := ⟨by omega, by omega, by omega⟩
  have x3 := HG.out.1.cell (i := 3) rfl
  have f3 := HG.out.1.free 3
  go_enter Tryz.func32, Tryz.ntmps32
  go_wp2_with fail
  rw [show (w.alloc (.cells #[.string s, iV cl, iV sq, .slice a1 n1 c1, .bool g, .slice a2 n2 c2, .slice a3 n3 c3] 50)).alloc (.cells #[.string ⟨#[]⟩, iV 0, iV 0, .slice none 0 0, .bool false, .slice none 0 0, .slice none 0 0] 50) = W0 from hW0.symm, ← hM, ← hN]
  clear hW0 hN hM
  refine (HD.out W0 HG.out.2.2).mono ?_
  rintro e w1 ⟨b1, d1, rfl, hg, hd1, ho⟩
  have HD1 := Lib.hid hd1; clear hd1
  have HG1 : Hid ((Blk w1 N 50 [.string s, iV cl, iV sq, .slice a1 n1 c1, .bool g, .slice a2 n2 c2, .slice a3 n3 c3] ∧ Blk w1 M 50 z7 ∧ w.grownBy w1 none) ∧ OwnD' w1 w.heap.size (.slice b1 (n1 + 12) d1) (n1 + 12) (cx ++ marksD 1 12)) := ⟨⟨HG.out.1.grown hg (by simp), HG.out.2.1.grown hg (by simp), gb_trans HG.out.2.2 hg⟩, own_mono ho HG.out.2.2.size⟩
  clear hg ho HG x3 f3
  have x3 := HG1.out.1.1.cell (i := 3) rfl
  have f3 := HG1.out.1.1.free 3
  have x5 := HG1.out.1.1.cell (i := 5) rfl
  go_wp2_with fail
  have HG2 : Hid ((Blk (w1.setCell ⟨N, 3, none⟩ (.slice b1 n1 d1)) N 50 [.string s, iV cl, iV sq, .slice b1 n1 d1, .bool g, .slice a2 n2 c2, .slice a3 n3 c3] ∧ Blk (w1.setCell ⟨N, 3, none⟩ (.slice b1 n1 d1)) M 50 z7 ∧ w.grownBy (w1.setCell ⟨N, 3, none⟩ (.slice b1 n1 d1)) none) ∧ OwnD' (w1.setCell ⟨N, 3, none⟩ (.slice b1 n1 d1)) w.heap.size (.slice b1 (n1 + 12) d1) (n1 + 12) (cx ++ marksD 1 12)) :=
    ⟨⟨HG1.out.1.1.set 3 _, HG1.out.1.2.1.other (a := ⟨N, 3, none⟩) HNM.out.2.2 _, gb_set_new HG1.out.1.2.2 (p := ⟨N, 3, none⟩) HNM.out.1 _⟩, own_other HG1.out.2 HG1.out.1.1 (by decide) (gb_set (gb_refl w1 (some N)) 3 _)⟩
  clear HG1 x3 f3 x5
  generalize w1.setCell ⟨N, 3, none⟩ (.slice b1 n1 d1) = w2 at *
  refine (HV.out w2 HG2.out.1.2.2).mono ?_
  rintro e w3 ⟨b2, rfl, hg, ho⟩
  have HG3 : Hid ((Blk w3 N 50 [.string s, iV cl, iV sq, .slice b1 n1 d1, .bool g, .slice a2 n2 c2, .slice a3 n3 c3] ∧ Blk w3 M 50 z7 ∧ w.grownBy w3 none) ∧ OwnD' w3 w.heap.size (.slice b1 (n1 + 12) d1) (n1 + 12) (cx ++ marksD 1 12) ∧ w3.ownsRow w.heap.size 5 1 (.slice b2 (n2 + 12) (n2 + 12)) (n2 + 12) ((val ++ marksOf f 1 12).map u8N)) :=
    ⟨⟨HG2.out.1.1.grown hg (by simp), HG2.out.1.2.1.grown hg (by simp), gb_trans HG2.out.1.2.2 hg⟩, HG2.out.2.kept hg (by cases (Value.slice b1 (n1 + 12) d1).ownBlock <;> simp), own_mono ho HG2.out.1.2.2.size⟩
  clear hg ho HG2
  have x5 := HG3.out.1.1.cell (i := 5) rfl
  have f5 := HG3.out.1.1.free 5
  have x6 := HG3.out.1.1.cell (i := 6) rfl
  go_wp2_with fail
  have hgs := gb_set (gb_refl w3 (some N)) 5 (.slice b2 n2 (n2 + 12))
  have HG4 : Hid ((Blk (w3.setCell ⟨N, 5, none⟩ (.slice b2 n2 (n2 + 12))) N 50 [.string s, iV cl, iV sq, .slice b1 n1 d1, .bool g, .slice b2 n2 (n2 + 12), .slice a3 n3 c3] ∧ Blk (w3.setCell ⟨N, 5, none⟩ (.slice b2 n2 (n2 + 12))) M 50 z7 ∧ w.grownBy (w3.setCell ⟨N, 5, none⟩ (.slice b2 n2 (n2 + 12))) none) ∧ OwnD' (w3.setCell ⟨N, 5, none⟩ (.slice b2 n2 (n2 + 12))) w.heap.size (.slice b1 (n1 + 12) d1) (n1 + 12) (cx ++ marksD 1 12) ∧ (w3.setCell ⟨N, 5, none⟩ (.slice b2 n2 (n2 + 12))).ownsRow w.heap.size 5 1 (.slice b2 (n2 + 12) (n2 + 12)) (n2 + 12) ((val ++ marksOf f 1 12).map u8N)) :=
    ⟨⟨HG3.out.1.1.set 5 _, HG3.out.1.2.1.other (a := ⟨N, 5, none⟩) HNM.out.2.2 _, gb_set_new HG3.out.1.2.2 (p := ⟨N, 5, none⟩) HNM.out.1 _⟩, own_other HG3.out.2.1 HG3.out.1.1 (by decide) hgs, own_other HG3.out.2.2 HG3.out.1.1 (by decide) hgs⟩
  clear HG3 x5 f5 x6 hgs
  generalize w3.setCell ⟨N, 5, none⟩ (.slice b2 n2 (n2 + 12)) = w4 at *
  refine (HS.out w4 HG4.out.1.2.2).mono ?_
  rintro e w5 ⟨b3, rfl, hg, ho⟩
  have HG5 : Hid ((Blk w5 N 50 [.string s, iV cl, iV sq, .slice b1 n1 d1, .bool g, .slice b2 n2 (n2 + 12), .slice a3 n3 c3] ∧ Blk w5 M 50 z7 ∧ w.grownBy w5 none) ∧ OwnD' w5 w.heap.size (.slice b1 (n1 + 12) d1) (n1 + 12) (cx ++ marksD 1 12) ∧ w5.ownsRow w.heap.size 5 1 (.slice b2 (n2 + 12) (n2 + 12)) (n2 + 12) ((val ++ marksOf f 1 12).map u8N) ∧ w5.ownsRow w.heap.size 5 1 (.slice b3 (n3 + 12) (n3 + 12)) (n3 + 12) ((sig ++ marksOf f 1 12).map u8N)) :=
    ⟨⟨HG4.out.1.1.grown hg (by simp), HG4.out.1.2.1.grown hg (by simp), gb_trans HG4.out.1.2.2 hg⟩, HG4.out.2.1.kept hg (by cases (Value.slice b1 (n1 + 12) d1).ownBlock <;> simp), own_kept HG4.out.2.2 hg, own_mono ho HG4.out.1.2.2.size⟩
  clear hg ho HG4
  have x0 := HG5.out.1.1.cell (i := 0) rfl
  have y0 := HG5.out.1.2.1.cell (i := 0) rfl
  have g0 := HG5.out.1.2.1.free 0
  have x1 := HG5.out.1.1.cell (i := 1) rfl
  have y1 := HG5.out.1.2.1.cell (i := 1) rfl
  have g1 := HG5.out.1.2.1.free 1
  have x2 := HG5.out.1.1.cell (i := 2) rfl
  have y2 := HG5.out.1.2.1.cell (i := 2) rfl
  have g2 := HG5.out.1.2.1.free 2
  have x3 := HG5.out.1.1.cell (i := 3) rfl
  have y3 := HG5.out.1.2.1.cell (i := 3) rfl
  have g3 := HG5.out.1.2.1.free 3
  have x4 := HG5.out.1.1.cell (i := 4) rfl
  have y4 := HG5.out.1.2.1.cell (i := 4) rfl
  have g4 := HG5.out.1.2.1.free 4
  have x5 := HG5.out.1.1.cell (i := 5) rfl
  have y5 := HG5.out.1.2.1.cell (i := 5) rfl
  have g5 := HG5.out.1.2.1.free 5
  have x6 := HG5.out.1.1.cell (i := 6) rfl
  have y6 := HG5.out.1.2.1.cell (i := 6) rfl
  have g6 := HG5.out.1.2.1.free 6
  have f6 := HG5.out.1.1.free 6
  have hNM := HNM.out.2.2
  have hMN : M ≠ N := fun e => hNM e.symm
  go_wp2_with fail
  obtain ⟨⟨hb, hm, hg⟩, h1, h2, h3⟩ := HG5.out
  have hgs := gb_set (gb_refl w5 (some N)) 6 (.slice b3 n3 (n3 + 12))
  have k1 := own_other h1 hb (by decide) hgs
  have k2 := own_other h2 hb (by decide) hgs
  have k3 := own_other h3 hb (by decide) hgs
  have km := hm.other (a := ⟨N, 6, none⟩) hNM (.slice b3 n3 (n3 + 12))
  have kg := gb_set_new hg (p := ⟨N, 6, none⟩) HNM.out.1 (.slice b3 n3 (n3 + 12))
  generalize w5.setCell ⟨N, 6, none⟩ (.slice b3 n3 (n3 + 12)) = w6 at *
  have hgM := gb_set (gb_set (gb_set (gb_set (gb_set (gb_set (gb_set (gb_refl w6 (some M)) 0 (.string s)) 1 (.int .i64 cl)) 2 (.int .i64 sq)) 3 (.slice b1 n1 d1)) 4 (.bool g)) 5 (.slice b2 n2 (n2 + 12))) 6 (.slice b3 n3 (n3 + 12))
  have hR7 := ((((((km.set 0 (.string s)).set 1 (.int .i64 cl)).set 2 (.int .i64 sq)).set 3 (.slice b1 n1 d1)).set 4 (.bool g)).set 5 (.slice b2 n2 (n2 + 12))).set 6 (.slice b3 n3 (n3 + 12))
  refine bodyPost_ret (v := .agg #[.string s, .int .i64 cl, .int .i64 sq, .slice b1 n1 d1, .bool g, .slice b2 n2 (n2 + 12), .slice b3 n3 (n3 + 12)]) (results_cell_row Tryz.results32 _ _ M 50 _ (0, 0) _ rfl hR7 Tryz.underlying50 rfl info_recS) rfl ?_
  rw [HQ.out]
  exact ⟨b1, d1, b2, b3, rfl, gb_then kg hgM HNM.out.2.1, HD1.out, own_other k1 km (by decide) hgM, own_other k2 km (by decide) hgM, own_other k3 km (by decide) hgM⟩
end Rc
end Go.Proofs.YtohcoihdijemfaaGreat

/- The kit's SameBytes: whether two slices hold the same bytes. -/
namespace Go.Proofs.YtohcoihdijemfaaGreat
open Go.RowKit Ow

theorem getD_at (l : List Nat) (i : Nat) (h : i < l.length) : l.getD i 0 = l[i] := by rw [List.getD_eq_getElem?_getD, List.getElem?_eq_getElem h]; rfl
theorem list_same {p q : List Nat} (h : p.length = q.length) (hi : ∀ i, i < p.length → p.getD i 0 = q.getD i 0) : p = q := by
  apply List.ext_getElem h
  intro i h1 h2
  rw [← getD_at p i h1, ← getD_at q i h2]
  exact hi i h1
set_option maxHeartbeats 400000 in
theorem sameBytes_any (B1 B2 n m c1 c2 : Nat) (a1 a2 : Option Addr) (p q : List Nat) (w : World) (hn : p.length = n) (hm : q.length = m) (h1 : BytesAt w B1 a1 c1 p) (h2 : BytesAt w B2 a2 c2 q) :
    Calls Tryz.prog 11 #[.slice a1 n c1, .slice a2 m c2] w fun e w' => e = .returned (.bool (decide (p = q))) ∧ w.grownBy w' none := by
  have hn1 := h1.fits
  have hn2 := h2.fits
  have ht1 := h1.top
  have ht2 := h2.top
  rw [hn] at hn1
  rw [hm] at hn2
  have H1 := Lib.hid h1; clear h1
  have H2 := Lib.hid h2; clear h2
  have HN := Lib.hid hn; clear hn
  have HM := Lib.hid hm; clear hm
  by_cases hnm : n = m
  · subst hnm
    go_enter Tryz.func11, Tryz.ntmps11
    go_wp2
    go_loopw [5] (fun i wr => ∃ k j : Nat, k ≤ n ∧ i = .int .i64 k ∧ wr = w.drewN j ∧ ∀ i, i < k → p.getD i 0 = q.getD i 0) (fun i _ => n - (intOf i).toNat)
    case atStart => exact ⟨0, 0, by omega, rfl, rfl, fun i hi => absurd hi (by omega)⟩
    case round =>
      obtain ⟨k, j, hk, rfl, rfl, heq⟩ := hrel
      have HE := Lib.hid heq; clear heq
      by_cases hlt : k < n
      · obtain ⟨pb, po, rfl, _, hc⟩ := H1.out.cells.resolve_left (by rw [HN.out]; omega)
        obtain ⟨qb, qo, rfl, _, hd⟩ := H2.out.cells.resolve_left (by rw [HM.out]; omega)
        have k1 := hc k (by rw [HN.out]; exact hlt)
        have k2 := hd k (by rw [HM.out]; exact hlt)
        unfold u8N at k1 k2
        clear hc hd
        have i0 : (k : Int) < (n : Int) := by omega
        obtain ⟨x, hx⟩ : ∃ x, x = p.getD k 0 := ⟨_, rfl⟩
        obtain ⟨y, hy⟩ : ∃ y, y = q.getD k 0 := ⟨_, rfl⟩
        rw [← hx] at k1
        rw [← hy] at k2
        have HXY := Lib.hid (And.intro hx hy); clear hx hy
        by_cases hxy : x = y
        · subst hxy
          go_wp2_with fail
          go_quiet (fail)
          go_wp2
          go_roundw
          case rel => exact ⟨k + 1, _, by omega, by go_num, rfl, fun i hi => by
            rcases Nat.lt_or_ge i k with h | h
            · exact HE.out i h
            · obtain rfl : i = k := by omega
              rw [← HXY.out.1, ← HXY.out.2]⟩
          case measure => simp [intOf]; omega
        · have hne : ¬ (x : Int) = (y : Int) := by omega
          have hpq : p ≠ q := fun e => hxy (by rw [HXY.out.1, HXY.out.2, e])
          have HPQ : Hid (decide (p = q) = false) := decide_eq_false hpq
          clear hpq hxy
          go_wp2_with fail
          go_quiet (fail)
          go_wp2
          go_ret
          exact ⟨by rw [HPQ.out]; rfl, ⟨rfl, rfl, rfl, Nat.le_refl _, fun _ _ _ => rfl⟩⟩
      · obtain rfl : k = n := by omega
        have hpq : p = q := list_same (by rw [HN.out, HM.out]) (fun i hi => HE.out i (by rw [HN.out] at hi; exact hi))
        have HPQ : Hid (decide (p = q) = true) := decide_eq_true hpq
        clear hlt hpq
        go_wp2
        go_ret
        exact ⟨by rw [HPQ.out]; rfl, ⟨rfl, rfl, rfl, Nat.le_refl _, fun _ _ _ => rfl⟩⟩
  · have hne : ¬ (n : Int) = (m : Int) := by omega
    have hpq : p ≠ q := fun e => hnm (by rw [← HN.out, ← HM.out, e])
    have HPQ : Hid (decide (p = q) = false) := decide_eq_false hpq
    clear hpq hnm
    go_enter Tryz.func11, Tryz.ntmps11
    go_wp2
    go_ret
    exact ⟨by rw [HPQ.out]; rfl, gb_refl _ _⟩
end Go.Proofs.YtohcoihdijemfaaGreat

/- The kit's SameDots: whether two slices hold the same dots. -/
namespace Go.Proofs.YtohcoihdijemfaaGreat
open Go.RowKit Ve
namespace Ve
theorem dots_same {p q : List D} (h : p.length = q.length) (hi : ∀ i, i < p.length → p.getD i z0 = q.getD i z0) : p = q := by
  apply List.ext_getElem h
  intro i h1 h2
  have := hi i h1
  rwa [List.getD_eq_getElem?_getD, List.getD_eq_getElem?_getD, List.getElem?_eq_getElem h1, List.getElem?_eq_getElem h2] at this
theorem eq_dot (a b c d : Int) (w : World) : (Op.equalIn 10000 99 (.agg #[.int .i64 a, .int .i64 b]) (.agg #[.int .i64 c, .int .i64 d])).run Tryz.prog w = .ok (a == c && b == d) w := by
  have u3 := Tryz.underlying3
  have a3 := Tryz.isAgg3
  have z3 := Tryz.sizeOf3
  have hS : Tryz.prog.underlying 99 = some (.struct (Tryz.prog.fieldsOf 99)) := by kernel_rfl
  have hp : Tryz.prog.stoodInHeld 99 = false := by kernel_rfl
  rw [show (10000 : Nat) = 9999 + 1 from rfl, run_equalIn_agg w 9999 99 _ _ hS hp]
  simp only [Program.fieldsOf, Tryz.underlying99]
  go_simp
  by_cases h1 : a = c <;> by_cases h2 : b = d <;> simp [h1, h2]
set_option maxHeartbeats 400000 in
theorem sameDots_any (B1 B2 n m c1 c2 : Nat) (a1 a2 : Option Addr) (p q : List D) (w : World) (hn : p.length = n) (hm : q.length = m) (h1 : DotsAt w B1 a1 p) (h2 : DotsAt w B2 a2 q) (hc : n < 9223372036854775808) :
    Calls Tryz.prog 108 #[.slice a1 n c1, .slice a2 m c2] w fun e w' => e = .returned (.bool (decide (p = q))) ∧ w.grownBy w' none := by
  have H1 := Lib.hid h1; clear h1
  have H2 := Lib.hid h2; clear h2
  have HN := Lib.hid hn; clear hn
  have HM := Lib.hid hm; clear hm
  by_cases hnm : n = m
  · subst hnm
    go_enter Tryz.func108, Tryz.ntmps108
    go_wp2
    go_loopw [5] (fun i wr => ∃ k j : Nat, k ≤ n ∧ i = .int .i64 k ∧ wr = w.drewN j ∧ ∀ i, i < k → p.getD i z0 = q.getD i z0) (fun i _ => n - (intOf i).toNat)
    case atStart => exact ⟨0, 0, by omega, rfl, rfl, fun i hi => absurd hi (by omega)⟩
    case round =>
      obtain ⟨k, j, hk, rfl, rfl, heq⟩ := hrel
      have HE := Lib.hid heq; clear heq
      by_cases hlt : k < n
      · obtain ⟨pb, po, rfl, _, hcs⟩ := H1.out.cells.resolve_left (by rw [HN.out]; omega)
        obtain ⟨qb, qo, rfl, _, hds⟩ := H2.out.cells.resolve_left (by rw [HM.out]; omega)
        obtain ⟨k1, k2⟩ := hcs k (by rw [HN.out]; exact hlt)
        obtain ⟨k3, k4⟩ := hds k (by rw [HM.out]; exact hlt)
        clear hcs hds
        have i0 : (k : Int) < (n : Int) := by omega
        obtain ⟨x, y, hx⟩ : ∃ x y, p.getD k z0 = (x, y) := ⟨_, _, rfl⟩
        obtain ⟨x2, y2, hy⟩ : ∃ x y, q.getD k z0 = (x, y) := ⟨_, _, rfl⟩
        rw [hx] at k1 k2
        rw [hy] at k3 k4
        simp only at k1 k2 k3 k4
        have HXY := Lib.hid (And.intro hx hy); clear hx hy
        by_cases hxy : x = x2 ∧ y = y2
        · obtain ⟨rfl, rfl⟩ := hxy
          go_wp2_with fail
          go_region
          go_wp2
          go_roundw
          case rel => exact ⟨k + 1, j + 1, by omega, by go_num, rfl, fun i hi => by
            rcases Nat.lt_or_ge i k with h | h
            · exact HE.out i h
            · obtain rfl : i = k := by omega
              rw [HXY.out.1, HXY.out.2]⟩
          case measure => simp [intOf]; omega
        · have hpq : p ≠ q := fun e => hxy (by have h1 := HXY.out.1; rw [e, HXY.out.2] at h1; simpa using h1.symm)
          have HPQ : Hid (decide (p = q) = false) := decide_eq_false hpq
          clear hpq
          by_cases hx : x = x2
          · subst hx
            have hy : ¬ y = y2 := fun e => hxy ⟨rfl, e⟩
            clear hxy
            go_wp2_with fail
            have he : ∀ w, (Op.equalIn 10000 99 (.agg #[.int .i64 x, .int .i64 y]) (.agg #[.int .i64 x, .int .i64 y2])).run Tryz.prog w = .ok false w := fun w => by rw [eq_dot]; simp [hy]
            go_region
            clear he
            go_wp2
            go_ret
            exact ⟨by rw [HPQ.out]; rfl, ⟨rfl, rfl, rfl, Nat.le_refl _, fun _ _ _ => rfl⟩⟩
          · clear hxy
            go_wp2_with fail
            have he : ∀ w, (Op.equalIn 10000 99 (.agg #[.int .i64 x, .int .i64 y]) (.agg #[.int .i64 x2, .int .i64 y2])).run Tryz.prog w = .ok false w := fun w => by rw [eq_dot]; simp [hx]
            go_region
            clear he
            go_wp2
            go_ret
            exact ⟨by rw [HPQ.out]; rfl, ⟨rfl, rfl, rfl, Nat.le_refl _, fun _ _ _ => rfl⟩⟩
      · obtain rfl : k = n := by omega
        have hpq : p = q := dots_same (by rw [HN.out, HM.out]) (fun i hi => HE.out i (by rw [HN.out] at hi; exact hi))
        have HPQ : Hid (decide (p = q) = true) := decide_eq_true hpq
        clear hlt hpq
        go_wp2
        go_ret
        exact ⟨by rw [HPQ.out]; rfl, ⟨rfl, rfl, rfl, Nat.le_refl _, fun _ _ _ => rfl⟩⟩
  · have hne : ¬ (n : Int) = (m : Int) := by omega
    have hpq : p ≠ q := fun e => hnm (by rw [← HN.out, ← HM.out, e])
    have HPQ : Hid (decide (p = q) = false) := decide_eq_false hpq
    clear hpq hnm
    go_enter Tryz.func108, Tryz.ntmps108
    go_wp2
    go_ret
    exact ⟨by rw [HPQ.out]; rfl, gb_refl _ _⟩
end Ve
end Go.Proofs.YtohcoihdijemfaaGreat

/- The kit's SameRecord. (Printed by gen_rcsame.py.) -/
namespace Go.Proofs.YtohcoihdijemfaaGreat
open Go.RowKit Ow Wi Ve
namespace Rc
def sameB (a b : R) : Bool := decide (a.key = b.key) && decide (a.cl = b.cl) && decide (a.sq = b.sq) && decide (a.cx = b.cx) && decide (a.gone = b.gone) && decide (a.val = b.val) && decide (a.sig = b.sig)
theorem sameB_iff (a b : R) : sameB a b = true ↔ a = b := by
  cases a; cases b
  simp only [sameB, Bool.and_eq_true, decide_eq_true_eq, R.mk.injEq]
  constructor
  · rintro ⟨⟨⟨⟨⟨⟨h1, h2⟩, h3⟩, h4⟩, h5⟩, h6⟩, h7⟩; exact ⟨h1, h2, h3, h4, h5, h6, h7⟩
  · rintro ⟨h1, h2, h3, h4, h5, h6, h7⟩; exact ⟨⟨⟨⟨⟨⟨h1, h2⟩, h3⟩, h4⟩, h5⟩, h6⟩, h7⟩
set_option maxHeartbeats 2000000 in
theorem sameRec_any (ra rb : R) (B1 B2 : Nat) (w : World) (qa qb : L) (ha : RAt w B1 qa ra) (hb : RAt w B2 qb rb) : Calls Tryz.prog 65 #[qa.v ra, qb.v rb] w fun e w' => e = .returned (.bool (sameB ra rb)) ∧ w.grownBy w' none := by
  have HD := Lib.hid (fun w' (hg : w.grownBy w' none) => sameDots_any B1 B2 qa.n1 qb.n1 qa.c1 qb.c1 qa.a1 qb.a1 ra.cx rb.cx w' ha.l1 hb.l1 (ha.dots.stay hg) (hb.dots.stay hg) ha.top)
  have HV := Lib.hid (fun w' (hg : w.grownBy w' none) => sameBytes_any B1 B2 qa.n2 qb.n2 qa.c2 qb.c2 qa.a2 qb.a2 ra.val rb.val w' ha.l2 hb.l2 (ha.val.stay hg) (hb.val.stay hg))
  have HS := Lib.hid (fun w' (hg : w.grownBy w' none) => sameBytes_any B1 B2 qa.n3 qb.n3 qa.c3 qb.c3 qa.a3 qb.a3 ra.sig rb.sig w' ha.l3 hb.l3 (ha.sig.stay hg) (hb.sig.stay hg))
  have hz := str_eq qa.s qb.s
  rw [ha.str, hb.str] at hz
  obtain ⟨o, ho⟩ : ∃ o, o = sameB ra rb := ⟨_, rfl⟩
  rw [← ho]
  unfold sameB at ho
  rw [← hz] at ho
  clear ha hb hz
  generalize decide (ra.cx = rb.cx) = z4 at *
  generalize decide (ra.val = rb.val) = z6 at *
  generalize decide (ra.sig = rb.sig) = z7 at *
  obtain ⟨s, a1, n1, c1, a2, n2, c2, a3, n3, c3⟩ := qa
  obtain ⟨key, cl, sq, cx, g, val, sig⟩ := ra
  obtain ⟨s', a1', n1', c1', a2', n2', c2', a3', n3', c3'⟩ := qb
  obtain ⟨key', cl', sq', cx', g', val', sig'⟩ := rb
  simp only at ho HD HV HS
  obtain ⟨z1, h1⟩ : ∃ z, (s.toList == s'.toList) = z := ⟨_, rfl⟩
  obtain ⟨z2, h2⟩ : ∃ z, (cl == cl') = z := ⟨_, rfl⟩
  obtain ⟨z3, h3⟩ : ∃ z, (sq == sq') = z := ⟨_, rfl⟩
  obtain ⟨z5, h5⟩ : ∃ z, (g == g') = z := ⟨_, rfl⟩
  rw [h1, show decide (cl = cl') = (cl == cl') from by rw [Bool.eq_iff_iff]; simp, show decide (sq = sq') = (sq == sq') from by rw [Bool.eq_iff_iff]; simp, show decide (g = g') = (g == g') from by rw [Bool.eq_iff_iff]; simp, h2, h3, h5] at ho
  have HO := Lib.hid ho; clear ho
  replace h1 := Lib.hid h1
  replace h2 := Lib.hid h2
  replace h3 := Lib.hid h3
  replace h5 := Lib.hid h5
  show Calls _ _ #[vV s cl sq a1 n1 c1 g a2 n2 c2 a3 n3 c3, vV s' cl' sq' a1' n1' c1' g' a2' n2' c2' a3' n3' c3'] w _
  obtain ⟨N, hN⟩ : ∃ N, N = w.heap.size := ⟨_, rfl⟩
  obtain ⟨M, hM⟩ : ∃ M, M = w.heap.size + 1 := ⟨_, rfl⟩
  obtain ⟨W0, hW0⟩ : ∃ W0, W0 = (w.alloc (.cells #[.string s, iV cl, iV sq, .slice a1 n1 c1, .bool g, .slice a2 n2 c2, .slice a3 n3 c3] 50)).alloc (.cells #[.string s', iV cl', iV sq', .slice a1' n1' c1', .bool g', .slice a2' n2' c2', .slice a3' n3' c3'] 50) := ⟨_, rfl⟩
  have HG : Hid (w.grownBy W0 none ∧ Blk W0 N 50 [.string s, iV cl, iV sq, .slice a1 n1 c1, .bool g, .slice a2 n2 c2, .slice a3 n3 c3] ∧ Blk W0 M 50 [.string s', iV cl', iV sq', .slice a1' n1' c1', .bool g', .slice a2' n2' c2', .slice a3' n3' c3']) := by
    refine ⟨?_, ?_, ?_⟩
    · rw [hW0]; exact gb_alloc (gb_alloc (gb_refl _ _) _) _
    · rw [hW0, hN]; exact (Blk.new _ _ _).alloc _
    · rw [hW0, hM, ← World.size_alloc]; exact Blk.new _ _ _
  have x0 := HG.out.2.1.cell (i := 0) rfl
  have y0 := HG.out.2.2.cell (i := 0) rfl
  have x1 := HG.out.2.1.cell (i := 1) rfl
  have y1 := HG.out.2.2.cell (i := 1) rfl
  have x2 := HG.out.2.1.cell (i := 2) rfl
  have y2 := HG.out.2.2.cell (i := 2) rfl
  have x3 := HG.out.2.1.cell (i := 3) rfl
  have y3 := HG.out.2.2.cell (i := 3) rfl
  have x4 := HG.out.2.1.cell (i := 4) rfl
  have y4 := HG.out.2.2.cell (i := 4) rfl
  have x5 := HG.out.2.1.cell (i := 5) rfl
  have y5 := HG.out.2.2.cell (i := 5) rfl
  have x6 := HG.out.2.1.cell (i := 6) rfl
  have y6 := HG.out.2.2.cell (i := 6) rfl
  go_enter Tryz.func65, Tryz.ntmps65
  go_upto_region 1 with fail
  rw [← hW0, ← hM, ← hN]
  clear hW0 hN hM
  cases z1 with
  | false =>
    have q := h1.out
    go_wp2
    go_ret
    exact ⟨by rw [HO.out]; simp, HG.out.1⟩
  | true =>
    have q1 := h1.out
    cases z2 with
    | false =>
      have q := h2.out
      go_wp2
      go_ret
      exact ⟨by rw [HO.out]; simp, HG.out.1⟩
    | true =>
      have q2 := h2.out
      cases z3 with
      | false =>
        have q := h3.out
        go_wp2
        go_ret
        exact ⟨by rw [HO.out]; simp, HG.out.1⟩
      | true =>
        have q3 := h3.out
        go_wp2_with fail
        refine (HD.out _ HG.out.1).mono ?_
        rintro e w4 ⟨rfl, hg⟩
        have HG4 : Hid (w.grownBy w4 none ∧ Blk w4 N 50 [.string s, iV cl, iV sq, .slice a1 n1 c1, .bool g, .slice a2 n2 c2, .slice a3 n3 c3] ∧ Blk w4 M 50 [.string s', iV cl', iV sq', .slice a1' n1' c1', .bool g', .slice a2' n2' c2', .slice a3' n3' c3']) := ⟨gb_trans HG.out.1 hg, HG.out.2.1.grown hg (by simp), HG.out.2.2.grown hg (by simp)⟩
        clear hg HG
        have HG := HG4; clear HG4
        replace x4 := HG.out.2.1.cell (i := 4) rfl
        replace y4 := HG.out.2.2.cell (i := 4) rfl
        replace x5 := HG.out.2.1.cell (i := 5) rfl
        replace y5 := HG.out.2.2.cell (i := 5) rfl
        replace x6 := HG.out.2.1.cell (i := 6) rfl
        replace y6 := HG.out.2.2.cell (i := 6) rfl
        cases z4 with
        | false =>
          go_wp2
          go_ret
          exact ⟨by rw [HO.out]; simp, HG.out.1⟩
        | true =>
          cases z5 with
          | false =>
            have q := h5.out
            go_wp2
            go_ret
            exact ⟨by rw [HO.out]; simp, HG.out.1⟩
          | true =>
            have q5 := h5.out
            go_wp2_with fail
            refine (HV.out _ HG.out.1).mono ?_
            rintro e w6 ⟨rfl, hg⟩
            have HG6 : Hid (w.grownBy w6 none ∧ Blk w6 N 50 [.string s, iV cl, iV sq, .slice a1 n1 c1, .bool g, .slice a2 n2 c2, .slice a3 n3 c3] ∧ Blk w6 M 50 [.string s', iV cl', iV sq', .slice a1' n1' c1', .bool g', .slice a2' n2' c2', .slice a3' n3' c3']) := ⟨gb_trans HG.out.1 hg, HG.out.2.1.grown hg (by simp), HG.out.2.2.grown hg (by simp)⟩
            clear hg HG
            have HG := HG6; clear HG6
            replace x6 := HG.out.2.1.cell (i := 6) rfl
            replace y6 := HG.out.2.2.cell (i := 6) rfl
            cases z6 with
            | false =>
              go_wp2
              go_ret
              exact ⟨by rw [HO.out]; simp, HG.out.1⟩
            | true =>
              go_wp2_with fail
              refine (HS.out _ HG.out.1).mono ?_
              rintro e w7 ⟨rfl, hg⟩
              have HG7 : Hid (w.grownBy w7 none ∧ Blk w7 N 50 [.string s, iV cl, iV sq, .slice a1 n1 c1, .bool g, .slice a2 n2 c2, .slice a3 n3 c3] ∧ Blk w7 M 50 [.string s', iV cl', iV sq', .slice a1' n1' c1', .bool g', .slice a2' n2' c2', .slice a3' n3' c3']) := ⟨gb_trans HG.out.1 hg, HG.out.2.1.grown hg (by simp), HG.out.2.2.grown hg (by simp)⟩
              clear hg HG
              have HG := HG7; clear HG7
              go_wp2
              go_ret
              exact ⟨by rw [HO.out]; simp, HG.out.1⟩
end Rc
end Go.Proofs.YtohcoihdijemfaaGreat

/- The kit's KeptBytes: lent bytes, and the marks behind them, are as they were. -/
namespace Go.Proofs.YtohcoihdijemfaaGreat
open Go.RowKit Ow

set_option maxRecDepth 100000 in
set_option maxHeartbeats 4000000 in
theorem keptB_any {f : Nat → Nat → Nat} (hf : Marks f) (n cap B g : Nat) (p : List Nat) (a : Option Addr) (w : World) (hn : p.length = n) (hP : BytesAt w B a cap p) (hlen : n ≤ 30000) (hG : Blk w g 5 ((p ++ marksOf f 1 12).map u8N)) :
    Calls Tryz.prog 21 #[.slice (some ⟨g, 0, none⟩) n (n + 12), .slice a n cap] w fun e w' => e = .returned (.bool true) ∧ w.grownBy w' none := by
  have hnc := hP.fits
  rw [hn] at hnc
  have hcap := hP.top
  have HF := Lib.hid hf; clear hf
  have hgb : BytesAt w w.heap.size (some ⟨g, 0, none⟩) (n + 12) (p ++ marksOf f 1 12) := by
    refine blk_bytes (n := n + 12) (tl := []) (by rw [List.append_nil]; exact hG) (by rw [List.length_append, marksOf_length, hn]) (Nat.le_refl _) (by omega) (fun i => ?_) hG.lt (Nat.le_refl _)
    rw [List.getD_eq_getElem?_getD]
    rcases Nat.lt_or_ge i p.length with h | h
    · rw [List.getElem?_append_left h, ← List.getD_eq_getElem?_getD]; exact hP.byte i
    · rw [List.getElem?_append_right h, ← List.getD_eq_getElem?_getD]; exact marksOf_lt HF.out _ _ _
  have HP := Lib.hid (And.intro hn (And.intro hP (And.intro hG hgb))); clear hn hP hG hgb
  go_enter Tryz.func21, Tryz.ntmps21
  go_wp2
  go_loopw [6] (fun i wr => ∃ k : Nat, k ≤ n + 12 ∧ i = .int .i64 k ∧ w.grownBy wr none) (fun i _ => n + 12 - (intOf i).toNat)
  case atStart => exact ⟨0, by omega, rfl, gb_refl _ _⟩
  case round =>
    obtain ⟨k, hk, rfl, hg⟩ := hrel
    by_cases hlt : k < n + 12
    · by_cases hkn : k < n
      · obtain ⟨pb, po, rfl, hpb, hc⟩ := HP.out.2.1.cells.resolve_left (by have := HP.out.1; omega)
        have kc : wr.cell? ⟨pb, po + k, none⟩ = some (u8N (p.getD k 0)) := by rw [gb_cell hg (p := ⟨pb, po + k, none⟩) (Nat.lt_of_lt_of_le hpb HP.out.2.1.lim) (by simp)]; exact hc k (by have := HP.out.1; omega)
        have kg : wr.cell? ⟨g, k, none⟩ = some (u8N (p.getD k 0)) := by
          apply (HP.out.2.2.1.grown hg (by simp)).cell
          rw [List.map_append, List.getElem?_append_left (by rw [List.length_map]; have := HP.out.1; omega)]
          exact u8_getD (by have := HP.out.1; omega)
        unfold u8N at kg kc
        clear hc
        generalize p.getD k 0 = x at *
        have HG := Lib.hid hg; clear hg
        have i0 : (k : Int) < (n : Int) := by omega
        have i1 : (k : Int) < (n : Int) + 12 := by omega
        have i2 : decide (n ≤ k) = false := by simp; omega
        go_wp2_with fail
        go_quiet (fail)
        go_wp2
        go_roundw
        case rel => exact ⟨k + 1, by omega, by go_num, gb_drewN HG.out _⟩
        case measure => simp [intOf]; omega
      · obtain ⟨t, ht⟩ : ∃ t, k = n + t := ⟨k - n, by omega⟩
        have t12 : t < 12 := by omega
        obtain ⟨y, hy⟩ : ∃ y, y = f 1 t := ⟨_, rfl⟩
        have hck : ((p ++ marksOf f 1 12).map u8N)[k]? = some (.int .u8 (y : Int)) := by
          rw [List.map_append, List.getElem?_append_right (by rw [List.length_map]; have := HP.out.1; omega), List.length_map, HP.out.1, show k - n = t by omega]
          have h := u8_getD (l := marksOf f 1 12) (i := t) (by rw [marksOf_length]; exact t12)
          rw [marksOf_get f 1 12 t t12, ← hy] at h
          exact h
        have hmb := fun W => (HF.out.run 1 t 1 t W rfl rfl (by decide) (by omega)).mono (fun e w' h => (And.intro h.1 (by rw [h.2]; exact gb_refl _ _) : _ ∧ W.grownBy w' none))
        rw [← hy] at hmb
        have HMB := Lib.hid hmb; clear hmb
        have HCK := Lib.hid hck; clear hck
        have HPB := Lib.hid (HP.out.2.1.stay hg)
        have HGB := Lib.hid (HP.out.2.2.2.stay hg)
        have HGW := Lib.hid (HP.out.2.2.1.grown hg (by simp))
        have HG := Lib.hid hg; clear hg
        have e1 : IntKind.i64.wrap ((k : Int) - (n : Int)) = (t : Int) := by rw [IntKind.wrap_i64]; omega
        have e2 : (k : Int) - (n : Int) = (t : Int) := by omega
        have e3 : IntKind.i64.wrap (t : Int) = (t : Int) := by rw [IntKind.wrap_i64]; omega
        have HTY := Lib.hid (And.intro ht hy); clear ht hy
        have i0 : ¬ (k : Int) < (n : Int) := by omega
        have i3 : (n : Int) ≤ (k : Int) := by omega
        have i1 : (k : Int) < (n : Int) + 12 := by omega
        go_wp2_with fail
        refine wp_region_flow3 (Fg.its [.any, .any, .any, .any, .any, .any, .any, .any, .any, .any, .any, .any, .any, .any, .any, .any, .any, .any, .any, .any, .any, .any, .any, .val (.int .i64 (k : Int)), .val (.slice a n cap), .val (.int .i64 n), .val (.bool false), .val (.bool false), .val undef, .val undef, .val undef, .val undef, .val undef, .val undef, .val undef, .val undef, .val undef, .val undef, .val (.bool false), .val (.bool false), .val (.int .i64 (k : Int)), .val (.slice a n cap), .val (.int .i64 n), .val (.bool true), .val (.bool true), .val (.slice (some ⟨g, 0, none⟩) (n + 12) (n + 12)), .val (.int .i64 (k : Int)), .val (.pointer (some ⟨g, k, none⟩)), .val (.int .u8 (y : Int)), .val (.int .i64 (k : Int)), .val (.slice a n cap), .val (.int .i64 n), .val (.int .i64 (t : Int)), .val (.int .u8 (y : Int)), .val (.bool true), .val (.bool false), .val (.bool false), .val (.bool false)]) (fun _ => 0) (fun _ _ _ => True) (fun w => World.grownBy wr w none) [] (by kernel_rfl) (by kernel_rfl) (by kernel_rfl) (gb_drew (gb_refl _ _)) (Fg.ptrs_nil _ _) (Fg.no_store (by kernel_rfl)) ?_ ?_
        · refine ⟨Fg.value rfl fun ac w h => ?_, ?_⟩
          · have e6 : ac.tmps.getD 6 undef = .int .i64 (k : Int) := h.rest 6 (by kernel_rfl)
            refine ⟨wants_none rfl, .int .i64 (k : Int), w, ?_, gb_refl _ _, rfl⟩
            clear h
            simp only [execOp, Act.eval, e6]
            go_simp
          refine ⟨Fg.value rfl fun ac w h => ?_, ?_⟩
          · have e1 : ac.tmps.getD 1 undef = .slice a n cap := h.rest 1 (by kernel_rfl)
            have b1 := (HPB.out).stay h.base
            exact ⟨wants_none rfl, _, w, by simp only [execOp, Act.eval, e1]; rfl, gb_refl _ _, rfl⟩
          refine ⟨Fg.value rfl fun ac w h => ?_, ?_⟩
          · have e24 : ac.tmps.getD 24 undef = .slice a n cap := h.dep 24 (by kernel_rfl)
            have b24 := (HPB.out).stay h.base
            have x24 : ac.tmps[24]?.getD undef = .slice a n cap := by simpa using e24
            refine ⟨wants_none rfl, .int .i64 n, w, ?_, gb_refl _ _, rfl⟩
            clear h e24
            go_simp
          refine ⟨Fg.value rfl fun ac w h => ?_, ?_⟩
          · have e23 : ac.tmps.getD 23 undef = .int .i64 (k : Int) := h.dep 23 (by kernel_rfl)
            have e25 : ac.tmps.getD 25 undef = .int .i64 n := h.dep 25 (by kernel_rfl)
            refine ⟨wants_none rfl, .bool false, w, ?_, gb_refl _ _, rfl⟩
            clear h
            simp only [execOp, Act.eval, e23, e25]
            go_simp
          refine ⟨Fg.value rfl fun ac w h => ?_, ?_⟩
          · have e26 : ac.tmps.getD 26 undef = .bool false := h.dep 26 (by kernel_rfl)
            refine ⟨wants_none rfl, .bool false, w, ?_, gb_refl _ _, rfl⟩
            clear h
            simp only [execOp, Act.eval, e26]
            go_simp
          refine ⟨Fg.skipped rfl (fun _ => rfl) fun ac w h => ?_, ?_⟩
          · have e27 : ac.tmps.getD 27 undef = .bool false := h.dep 27 (by kernel_rfl)
            exact not_wants (d := 27) rfl rfl (by rw [h.size]; show 27 < 58; decide) e27 (by decide)
          refine ⟨Fg.skipped rfl (fun _ => rfl) fun ac w h => ?_, ?_⟩
          · have e27 : ac.tmps.getD 27 undef = .bool false := h.dep 27 (by kernel_rfl)
            exact not_wants (d := 27) rfl rfl (by rw [h.size]; show 27 < 58; decide) e27 (by decide)
          refine ⟨Fg.skipped rfl (fun _ => rfl) fun ac w h => ?_, ?_⟩
          · have e27 : ac.tmps.getD 27 undef = .bool false := h.dep 27 (by kernel_rfl)
            exact not_wants (d := 27) rfl rfl (by rw [h.size]; show 27 < 58; decide) e27 (by decide)
          refine ⟨Fg.skipped rfl (fun _ => rfl) fun ac w h => ?_, ?_⟩
          · have e27 : ac.tmps.getD 27 undef = .bool false := h.dep 27 (by kernel_rfl)
            exact not_wants (d := 27) rfl rfl (by rw [h.size]; show 27 < 58; decide) e27 (by decide)
          refine ⟨Fg.skipped rfl (fun _ => rfl) fun ac w h => ?_, ?_⟩
          · have e27 : ac.tmps.getD 27 undef = .bool false := h.dep 27 (by kernel_rfl)
            exact not_wants (d := 27) rfl rfl (by rw [h.size]; show 27 < 58; decide) e27 (by decide)
          refine ⟨Fg.skipped rfl (fun _ => rfl) fun ac w h => ?_, ?_⟩
          · have e27 : ac.tmps.getD 27 undef = .bool false := h.dep 27 (by kernel_rfl)
            exact not_wants (d := 27) rfl rfl (by rw [h.size]; show 27 < 58; decide) e27 (by decide)
          refine ⟨Fg.skipped rfl (fun _ => rfl) fun ac w h => ?_, ?_⟩
          · have e27 : ac.tmps.getD 27 undef = .bool false := h.dep 27 (by kernel_rfl)
            exact not_wants (d := 27) rfl rfl (by rw [h.size]; show 27 < 58; decide) e27 (by decide)
          refine ⟨Fg.skipped rfl (fun _ => rfl) fun ac w h => ?_, ?_⟩
          · have e27 : ac.tmps.getD 27 undef = .bool false := h.dep 27 (by kernel_rfl)
            exact not_wants (d := 27) rfl rfl (by rw [h.size]; show 27 < 58; decide) e27 (by decide)
          refine ⟨Fg.skipped rfl (fun _ => rfl) fun ac w h => ?_, ?_⟩
          · have e27 : ac.tmps.getD 27 undef = .bool false := h.dep 27 (by kernel_rfl)
            exact not_wants (d := 27) rfl rfl (by rw [h.size]; show 27 < 58; decide) e27 (by decide)
          refine ⟨Fg.skipped rfl (fun _ => rfl) fun ac w h => ?_, ?_⟩
          · have e27 : ac.tmps.getD 27 undef = .bool false := h.dep 27 (by kernel_rfl)
            exact not_wants (d := 27) rfl rfl (by rw [h.size]; show 27 < 58; decide) e27 (by decide)
          refine ⟨Fg.value rfl fun ac w h => ?_, ?_⟩
          · have e27 : ac.tmps.getD 27 undef = .bool false := h.dep 27 (by kernel_rfl)
            refine ⟨wants_none rfl, .bool false, w, ?_, gb_refl _ _, rfl⟩
            clear h
            simp only [execOp, Act.eval, e27]
            go_simp
          refine ⟨Fg.value rfl fun ac w h => ?_, ?_⟩
          · have e38 : ac.tmps.getD 38 undef = .bool false := h.dep 38 (by kernel_rfl)
            refine ⟨wants_none rfl, .bool false, w, ?_, gb_refl _ _, rfl⟩
            clear h
            simp only [execOp, Act.eval, e38]
            go_simp
          refine ⟨Fg.value rfl fun ac w h => ?_, ?_⟩
          · have e39 : ac.tmps.getD 39 undef = .bool false := h.dep 39 (by kernel_rfl)
            have e6 : ac.tmps.getD 6 undef = .int .i64 (k : Int) := h.rest 6 (by kernel_rfl)
            refine ⟨wants_some (d := 39) rfl rfl (by rw [h.size]; show 39 < 58; decide) e39, .int .i64 (k : Int), w, ?_, gb_refl _ _, rfl⟩
            clear h
            simp only [execOp, Act.eval, e6]
            go_simp
          refine ⟨Fg.value rfl fun ac w h => ?_, ?_⟩
          · have e39 : ac.tmps.getD 39 undef = .bool false := h.dep 39 (by kernel_rfl)
            have e1 : ac.tmps.getD 1 undef = .slice a n cap := h.rest 1 (by kernel_rfl)
            have b1 := (HPB.out).stay h.base
            exact ⟨wants_some (d := 39) rfl rfl (by rw [h.size]; show 39 < 58; decide) e39, _, w, by simp only [execOp, Act.eval, e1]; rfl, gb_refl _ _, rfl⟩
          refine ⟨Fg.value rfl fun ac w h => ?_, ?_⟩
          · have e39 : ac.tmps.getD 39 undef = .bool false := h.dep 39 (by kernel_rfl)
            have e41 : ac.tmps.getD 41 undef = .slice a n cap := h.dep 41 (by kernel_rfl)
            have b41 := (HPB.out).stay h.base
            have x41 : ac.tmps[41]?.getD undef = .slice a n cap := by simpa using e41
            refine ⟨wants_some (d := 39) rfl rfl (by rw [h.size]; show 39 < 58; decide) e39, .int .i64 n, w, ?_, gb_refl _ _, rfl⟩
            clear h e41
            go_simp
          refine ⟨Fg.value rfl fun ac w h => ?_, ?_⟩
          · have e39 : ac.tmps.getD 39 undef = .bool false := h.dep 39 (by kernel_rfl)
            have e40 : ac.tmps.getD 40 undef = .int .i64 (k : Int) := h.dep 40 (by kernel_rfl)
            have e42 : ac.tmps.getD 42 undef = .int .i64 n := h.dep 42 (by kernel_rfl)
            refine ⟨wants_some (d := 39) rfl rfl (by rw [h.size]; show 39 < 58; decide) e39, .bool true, w, ?_, gb_refl _ _, rfl⟩
            clear h
            simp only [execOp, Act.eval, e40, e42]
            go_simp
          refine ⟨Fg.value rfl fun ac w h => ?_, ?_⟩
          · have e39 : ac.tmps.getD 39 undef = .bool false := h.dep 39 (by kernel_rfl)
            have e43 : ac.tmps.getD 43 undef = .bool true := h.dep 43 (by kernel_rfl)
            refine ⟨wants_some (d := 39) rfl rfl (by rw [h.size]; show 39 < 58; decide) e39, .bool true, w, ?_, gb_refl _ _, rfl⟩
            clear h
            simp only [execOp, Act.eval, e43]
            go_simp
          refine ⟨Fg.value rfl fun ac w h => ?_, ?_⟩
          · have e44 : ac.tmps.getD 44 undef = .bool true := h.dep 44 (by kernel_rfl)
            have e5 : ac.tmps.getD 5 undef = .slice (some ⟨g, 0, none⟩) (n + 12) (n + 12) := h.rest 5 (by kernel_rfl)
            have b5 := (HGB.out).stay h.base
            exact ⟨wants_some (d := 44) rfl rfl (by rw [h.size]; show 44 < 58; decide) e44, _, w, by simp only [execOp, Act.eval, e5]; rfl, gb_refl _ _, rfl⟩
          refine ⟨Fg.value rfl fun ac w h => ?_, ?_⟩
          · have e44 : ac.tmps.getD 44 undef = .bool true := h.dep 44 (by kernel_rfl)
            have e6 : ac.tmps.getD 6 undef = .int .i64 (k : Int) := h.rest 6 (by kernel_rfl)
            refine ⟨wants_some (d := 44) rfl rfl (by rw [h.size]; show 44 < 58; decide) e44, .int .i64 (k : Int), w, ?_, gb_refl _ _, rfl⟩
            clear h
            simp only [execOp, Act.eval, e6]
            go_simp
          refine ⟨Fg.value rfl fun ac w h => ?_, ?_⟩
          · have e44 : ac.tmps.getD 44 undef = .bool true := h.dep 44 (by kernel_rfl)
            have e45 : ac.tmps.getD 45 undef = .slice (some ⟨g, 0, none⟩) (n + 12) (n + 12) := h.dep 45 (by kernel_rfl)
            have b45 := (HGB.out).stay h.base
            have e46 : ac.tmps.getD 46 undef = .int .i64 (k : Int) := h.dep 46 (by kernel_rfl)
            refine ⟨wants_some (d := 44) rfl rfl (by rw [h.size]; show 44 < 58; decide) e44, .pointer (some ⟨g, k, none⟩), w, ?_, gb_refl _ _, rfl⟩
            clear h
            simp only [execOp, Act.eval, e45, e46]
            go_simp
          refine ⟨Fg.value rfl fun ac w h => ?_, ?_⟩
          · have e44 : ac.tmps.getD 44 undef = .bool true := h.dep 44 (by kernel_rfl)
            have e47 : ac.tmps.getD 47 undef = .pointer (some ⟨g, k, none⟩) := h.dep 47 (by kernel_rfl)
            have c := (HGW.out.grown h.base (by simp)).cell HCK.out
            refine ⟨wants_some (d := 44) rfl rfl (by rw [h.size]; show 44 < 58; decide) e44, .int .u8 (y : Int), w, ?_, gb_refl _ _, rfl⟩
            clear h
            simp only [execOp, Act.eval, e47]
            go_simp
          refine ⟨Fg.value rfl fun ac w h => ?_, ?_⟩
          · have e44 : ac.tmps.getD 44 undef = .bool true := h.dep 44 (by kernel_rfl)
            have e6 : ac.tmps.getD 6 undef = .int .i64 (k : Int) := h.rest 6 (by kernel_rfl)
            refine ⟨wants_some (d := 44) rfl rfl (by rw [h.size]; show 44 < 58; decide) e44, .int .i64 (k : Int), w, ?_, gb_refl _ _, rfl⟩
            clear h
            simp only [execOp, Act.eval, e6]
            go_simp
          refine ⟨Fg.value rfl fun ac w h => ?_, ?_⟩
          · have e44 : ac.tmps.getD 44 undef = .bool true := h.dep 44 (by kernel_rfl)
            have e1 : ac.tmps.getD 1 undef = .slice a n cap := h.rest 1 (by kernel_rfl)
            have b1 := (HPB.out).stay h.base
            exact ⟨wants_some (d := 44) rfl rfl (by rw [h.size]; show 44 < 58; decide) e44, _, w, by simp only [execOp, Act.eval, e1]; rfl, gb_refl _ _, rfl⟩
          refine ⟨Fg.value rfl fun ac w h => ?_, ?_⟩
          · have e44 : ac.tmps.getD 44 undef = .bool true := h.dep 44 (by kernel_rfl)
            have e50 : ac.tmps.getD 50 undef = .slice a n cap := h.dep 50 (by kernel_rfl)
            have b50 := (HPB.out).stay h.base
            have x50 : ac.tmps[50]?.getD undef = .slice a n cap := by simpa using e50
            refine ⟨wants_some (d := 44) rfl rfl (by rw [h.size]; show 44 < 58; decide) e44, .int .i64 n, w, ?_, gb_refl _ _, rfl⟩
            clear h e50
            go_simp
          refine ⟨Fg.value rfl fun ac w h => ?_, ?_⟩
          · have e44 : ac.tmps.getD 44 undef = .bool true := h.dep 44 (by kernel_rfl)
            have e49 : ac.tmps.getD 49 undef = .int .i64 (k : Int) := h.dep 49 (by kernel_rfl)
            have e51 : ac.tmps.getD 51 undef = .int .i64 n := h.dep 51 (by kernel_rfl)
            refine ⟨wants_some (d := 44) rfl rfl (by rw [h.size]; show 44 < 58; decide) e44, .int .i64 (t : Int), w, ?_, gb_refl _ _, rfl⟩
            clear h
            simp only [execOp, Act.eval, e49, e51]
            go_simp
          refine ⟨Fg.call rfl fun ac w h => ?_, ?_⟩
          · have e44 : ac.tmps.getD 44 undef = .bool true := h.dep 44 (by kernel_rfl)
            have e52 : ac.tmps.getD 52 undef = .int .i64 (t : Int) := h.dep 52 (by kernel_rfl)
            have x52 : ac.tmps[52]?.getD undef = .int .i64 (t : Int) := by simpa using e52
            have hb := h.base
            refine ⟨wants_some (d := 44) rfl rfl (by rw [h.size]; show 44 < 58; decide) e44, 48, #[.int .i64 1, .int .i64 (t : Int)], ?_, ?_⟩
            · clear h hb e52
              go_simp
            · refine (HMB.out w).mono ?_
              intro e w1 hp
              obtain ⟨rfl, hg⟩ := hp
              exact ⟨_, rfl, hg, rfl⟩
          refine ⟨Fg.value rfl fun ac w h => ?_, ?_⟩
          · have e44 : ac.tmps.getD 44 undef = .bool true := h.dep 44 (by kernel_rfl)
            have e48 : ac.tmps.getD 48 undef = .int .u8 (y : Int) := h.dep 48 (by kernel_rfl)
            have e53 : ac.tmps.getD 53 undef = .int .u8 (y : Int) := h.dep 53 (by kernel_rfl)
            refine ⟨wants_some (d := 44) rfl rfl (by rw [h.size]; show 44 < 58; decide) e44, .bool true, w, ?_, gb_refl _ _, rfl⟩
            clear h
            simp only [execOp, Act.eval, e48, e53]
            go_simp
          refine ⟨Fg.value rfl fun ac w h => ?_, ?_⟩
          · have e44 : ac.tmps.getD 44 undef = .bool true := h.dep 44 (by kernel_rfl)
            have e54 : ac.tmps.getD 54 undef = .bool true := h.dep 54 (by kernel_rfl)
            refine ⟨wants_some (d := 44) rfl rfl (by rw [h.size]; show 44 < 58; decide) e44, .bool false, w, ?_, gb_refl _ _, rfl⟩
            clear h
            simp only [execOp, Act.eval, e54]
            go_simp
          refine ⟨Fg.value rfl fun ac w h => ?_, ?_⟩
          · have e39 : ac.tmps.getD 39 undef = .bool false := h.dep 39 (by kernel_rfl)
            have e44 : ac.tmps.getD 44 undef = .bool true := h.dep 44 (by kernel_rfl)
            have e55 : ac.tmps.getD 55 undef = .bool false := h.dep 55 (by kernel_rfl)
            refine ⟨wants_some (d := 39) rfl rfl (by rw [h.size]; show 39 < 58; decide) e39, .bool false, w, ?_, gb_refl _ _, rfl⟩
            clear h
            simp only [execOp, Act.eval, e44, e55]
            go_simp
          refine ⟨Fg.value rfl fun ac w h => ?_, ?_⟩
          · have e39 : ac.tmps.getD 39 undef = .bool false := h.dep 39 (by kernel_rfl)
            have e56 : ac.tmps.getD 56 undef = .bool false := h.dep 56 (by kernel_rfl)
            refine ⟨wants_none rfl, .bool false, w, ?_, gb_refl _ _, rfl⟩
            clear h
            simp only [execOp, Act.eval, e39, e56]
            go_simp
          trivial
        · intro q wq hB hsz hdf hrest hslots _
          obtain ⟨u23, hs23⟩ : ∃ u, q.tmps.getD 23 undef = u := ⟨_, rfl⟩
          obtain ⟨u24, hs24⟩ : ∃ u, q.tmps.getD 24 undef = u := ⟨_, rfl⟩
          obtain ⟨u25, hs25⟩ : ∃ u, q.tmps.getD 25 undef = u := ⟨_, rfl⟩
          obtain ⟨u26, hs26⟩ : ∃ u, q.tmps.getD 26 undef = u := ⟨_, rfl⟩
          obtain ⟨u27, hs27⟩ : ∃ u, q.tmps.getD 27 undef = u := ⟨_, rfl⟩
          obtain ⟨u28, hs28⟩ : ∃ u, q.tmps.getD 28 undef = u := ⟨_, rfl⟩
          obtain ⟨u29, hs29⟩ : ∃ u, q.tmps.getD 29 undef = u := ⟨_, rfl⟩
          obtain ⟨u30, hs30⟩ : ∃ u, q.tmps.getD 30 undef = u := ⟨_, rfl⟩
          obtain ⟨u31, hs31⟩ : ∃ u, q.tmps.getD 31 undef = u := ⟨_, rfl⟩
          obtain ⟨u32, hs32⟩ : ∃ u, q.tmps.getD 32 undef = u := ⟨_, rfl⟩
          obtain ⟨u33, hs33⟩ : ∃ u, q.tmps.getD 33 undef = u := ⟨_, rfl⟩
          obtain ⟨u34, hs34⟩ : ∃ u, q.tmps.getD 34 undef = u := ⟨_, rfl⟩
          obtain ⟨u35, hs35⟩ : ∃ u, q.tmps.getD 35 undef = u := ⟨_, rfl⟩
          obtain ⟨u36, hs36⟩ : ∃ u, q.tmps.getD 36 undef = u := ⟨_, rfl⟩
          obtain ⟨u37, hs37⟩ : ∃ u, q.tmps.getD 37 undef = u := ⟨_, rfl⟩
          obtain ⟨u38, hs38⟩ : ∃ u, q.tmps.getD 38 undef = u := ⟨_, rfl⟩
          obtain ⟨u39, hs39⟩ : ∃ u, q.tmps.getD 39 undef = u := ⟨_, rfl⟩
          obtain ⟨u40, hs40⟩ : ∃ u, q.tmps.getD 40 undef = u := ⟨_, rfl⟩
          obtain ⟨u41, hs41⟩ : ∃ u, q.tmps.getD 41 undef = u := ⟨_, rfl⟩
          obtain ⟨u42, hs42⟩ : ∃ u, q.tmps.getD 42 undef = u := ⟨_, rfl⟩
          obtain ⟨u43, hs43⟩ : ∃ u, q.tmps.getD 43 undef = u := ⟨_, rfl⟩
          obtain ⟨u44, hs44⟩ : ∃ u, q.tmps.getD 44 undef = u := ⟨_, rfl⟩
          obtain ⟨u45, hs45⟩ : ∃ u, q.tmps.getD 45 undef = u := ⟨_, rfl⟩
          obtain ⟨u46, hs46⟩ : ∃ u, q.tmps.getD 46 undef = u := ⟨_, rfl⟩
          obtain ⟨u47, hs47⟩ : ∃ u, q.tmps.getD 47 undef = u := ⟨_, rfl⟩
          obtain ⟨u48, hs48⟩ : ∃ u, q.tmps.getD 48 undef = u := ⟨_, rfl⟩
          obtain ⟨u49, hs49⟩ : ∃ u, q.tmps.getD 49 undef = u := ⟨_, rfl⟩
          obtain ⟨u50, hs50⟩ : ∃ u, q.tmps.getD 50 undef = u := ⟨_, rfl⟩
          obtain ⟨u51, hs51⟩ : ∃ u, q.tmps.getD 51 undef = u := ⟨_, rfl⟩
          obtain ⟨u52, hs52⟩ : ∃ u, q.tmps.getD 52 undef = u := ⟨_, rfl⟩
          obtain ⟨u53, hs53⟩ : ∃ u, q.tmps.getD 53 undef = u := ⟨_, rfl⟩
          obtain ⟨u54, hs54⟩ : ∃ u, q.tmps.getD 54 undef = u := ⟨_, rfl⟩
          obtain ⟨u55, hs55⟩ : ∃ u, q.tmps.getD 55 undef = u := ⟨_, rfl⟩
          obtain ⟨u56, hs56⟩ : ∃ u, q.tmps.getD 56 undef = u := ⟨_, rfl⟩
          obtain rfl := Fg.frame_is (a := q) (vs := [Value.slice (some ⟨g, 0, none⟩) n (n + 12), Value.slice a n cap, undef, undef, u4, Value.slice (some ⟨g, 0, none⟩) (n + 12) (n + 12), Value.int .i64 (k : Int), Value.slice (some ⟨g, 0, none⟩) n (n + 12), Value.int .i64 (n : Int), Value.slice a n cap, Value.int .i64 (n : Int), Value.bool false, Value.slice (some ⟨g, 0, none⟩) n (n + 12), Value.slice a n cap, Value.int .i64 (n : Int), Value.int .i64 ((n : Int) + 12), Value.slice (some ⟨g, 0, none⟩) (n + 12) (n + 12), Value.int .i64 (k : Int), Value.slice (some ⟨g, 0, none⟩) (n + 12) (n + 12), Value.int .i64 ((n : Int) + 12), Value.bool true, u21, u22, u23, u24, u25, u26, u27, u28, u29, u30, u31, u32, u33, u34, u35, u36, u37, u38, u39, u40, u41, u42, u43, u44, u45, u46, u47, u48, u49, u50, u51, u52, u53, u54, u55, u56, Value.bool false]) hsz ⟨hrest 0 (by kernel_rfl), hrest 1 (by kernel_rfl), hrest 2 (by kernel_rfl), hrest 3 (by kernel_rfl), hrest 4 (by kernel_rfl), hrest 5 (by kernel_rfl), hrest 6 (by kernel_rfl), hrest 7 (by kernel_rfl), hrest 8 (by kernel_rfl), hrest 9 (by kernel_rfl), hrest 10 (by kernel_rfl), hrest 11 (by kernel_rfl), hrest 12 (by kernel_rfl), hrest 13 (by kernel_rfl), hrest 14 (by kernel_rfl), hrest 15 (by kernel_rfl), hrest 16 (by kernel_rfl), hrest 17 (by kernel_rfl), hrest 18 (by kernel_rfl), hrest 19 (by kernel_rfl), hrest 20 (by kernel_rfl), hrest 21 (by kernel_rfl), hrest 22 (by kernel_rfl), hs23, hs24, hs25, hs26, hs27, hs28, hs29, hs30, hs31, hs32, hs33, hs34, hs35, hs36, hs37, hs38, hs39, hs40, hs41, hs42, hs43, hs44, hs45, hs46, hs47, hs48, hs49, hs50, hs51, hs52, hs53, hs54, hs55, hs56, (show q.tmps.getD 57 undef = Value.bool false from hslots 57 (by kernel_rfl)), trivial⟩ hdf
          have HG2 := Lib.hid (gb_trans HG.out hB)
          clear hB hsz hdf hrest hslots hs23 hs24 hs25 hs26 hs27 hs28 hs29 hs30 hs31 hs32 hs33 hs34 hs35 hs36 hs37 hs38 hs39 hs40 hs41 hs42 hs43 hs44 hs45 hs46 hs47 hs48 hs49 hs50 hs51 hs52 hs53 hs54 hs55 hs56
          go_wp2
          go_roundw
          case rel => exact ⟨k + 1, by omega, by go_num, HG2.out⟩
          case measure => simp [intOf]; omega
    · obtain rfl : k = n + 12 := by omega
      have HG := Lib.hid hg; clear hg
      clear hlt
      go_wp2
      go_ret
      exact ⟨rfl, HG.out⟩
end Go.Proofs.YtohcoihdijemfaaGreat

/- The kit's KeptDots: lent dots, and the marks behind them, are as they were. -/
namespace Go.Proofs.YtohcoihdijemfaaGreat
open Go.RowKit Ve
namespace Ve
theorem kd_keep {w w1 w2 : World} {g k : Nat} {y z : Int} (hg : w1.grownBy w2 none) (h : w.grownBy w1 none ∧ w1.cell? ⟨g, k * 2, none⟩ = some (iV z) ∧ w1.cell? ⟨g, k * 2 + 1, none⟩ = some (iV y)) :
    w.grownBy w2 none ∧ w2.cell? ⟨g, k * 2, none⟩ = some (iV z) ∧ w2.cell? ⟨g, k * 2 + 1, none⟩ = some (iV y) :=
  ⟨gb_trans h.1 hg, by rw [gb_cell hg (block_lt_of_cell h.2.1) (by simp)]; exact h.2.1, by rw [gb_cell hg (block_lt_of_cell h.2.2) (by simp)]; exact h.2.2⟩
set_option maxHeartbeats 1000000 in
theorem keptD_any (n c cap B1 B2 g : Nat) (p : List D) (a : Option Addr) (w : World) (hn : p.length = n) (hP : DotsAt w B2 a p) (hlen : n ≤ 30000) (hc : n + 12 ≤ c) (hc63 : c < 9223372036854775808) (hG : DotsAt w B1 (some ⟨g, 0, none⟩) (p ++ marksD 1 12)) :
    Calls Tryz.prog 66 #[.slice (some ⟨g, 0, none⟩) n c, .slice a n cap] w fun e w' => e = .returned (.bool true) ∧ w.grownBy w' none := by
  have HP := Lib.hid hP; clear hP
  have HG := Lib.hid hG; clear hG
  have HN := Lib.hid hn; clear hn
  have i1 : (n : Int) + 12 ≤ (c : Int) := by omega
  have i2 : (0 : Int) ≤ (n : Int) + 12 := by omega
  go_enter Tryz.func66, Tryz.ntmps66
  go_wp2
  go_loopw [6] (fun i wr => ∃ k : Nat, k ≤ n + 12 ∧ i = .int .i64 k ∧ Hid (w.grownBy wr none)) (fun i _ => n + 12 - (intOf i).toNat)
  case atStart => exact ⟨0, by omega, rfl, gb_refl _ _⟩
  case round =>
    obtain ⟨k, hk, rfl, HW⟩ := hrel
    by_cases hlt : k < n + 12
    · have j1 : (k : Int) < (n : Int) + 12 := by omega
      obtain ⟨_, _, e, _, hcs⟩ := (HG.out.stay HW.out).cells.resolve_left (by rw [List.length_append, HN.out, marksD_len]; omega)
      cases e
      obtain ⟨k1, k2⟩ := hcs k (by rw [List.length_append, HN.out, marksD_len]; omega)
      rw [Nat.zero_add] at k1 k2
      clear hcs
      by_cases hkn : k < n
      · have j2 : (k : Int) < (n : Int) := by omega
        have j3 : decide ((k : Int) < (n : Int)) = true := decide_eq_true j2
        have j4 : decide ((n : Int) ≤ (k : Int)) = false := decide_eq_false (by omega)
        have j5 : decide (n ≤ k) = false := decide_eq_false (by omega)
        obtain ⟨pb, po, rfl, _, hds⟩ := (HP.out.stay HW.out).cells.resolve_left (by rw [HN.out]; omega)
        obtain ⟨k3, k4⟩ := hds k (by rw [HN.out]; exact hkn)
        clear hds
        have e1 : (p ++ marksD 1 12).getD k z0 = p.getD k z0 := by
          rw [List.getD_eq_getElem?_getD, List.getElem?_append_left (by rw [HN.out]; exact hkn), List.getD_eq_getElem?_getD]
        rw [e1] at k1 k2
        obtain ⟨x, y, hxy⟩ : ∃ x y, p.getD k z0 = (x, y) := ⟨_, _, rfl⟩
        rw [hxy] at k1 k2 k3 k4
        simp only at k1 k2 k3 k4
        clear e1 hxy
        have he : ∀ w, (Op.equalIn 10000 99 (.agg #[.int .i64 x, .int .i64 y]) (.agg #[.int .i64 x, .int .i64 y])).run Tryz.prog w = .ok true w := fun w => by rw [eq_dot]; simp
        go_wp2_with fail
        go_quiet (fail)
        clear he
        have HQ2 := Lib.hid (gb_drewN HW.out nq)
        go_wp2
        go_roundw
        case rel => exact ⟨k + 1, by omega, by go_num, HQ2.out⟩
        case measure => simp [intOf]; omega
      · have j2 : decide (k < n) = false := decide_eq_false hkn
        have j5 : decide (n ≤ k) = true := decide_eq_true (by omega)
        have j3 : decide ((k : Int) < (n : Int)) = false := decide_eq_false (by omega)
        have j4 : decide ((n : Int) ≤ (k : Int)) = true := decide_eq_true (by omega)
        have j6 : IntKind.i64.wrap ((k : Int) - (n : Int)) = ((k - n : Nat) : Int) := by rw [IntKind.wrap_i64]; omega
        have e1 : (p ++ marksD 1 12).getD k z0 = (0, (mkN 1 (k - n) : Int)) := by
          rw [List.getD_eq_getElem?_getD, List.getElem?_append_right (by rw [HN.out]; omega), ← List.getD_eq_getElem?_getD, HN.out, marksD_get _ _ _ (by omega)]
        rw [e1] at k1 k2
        simp only at k1 k2
        clear e1
        have HM := Lib.hid (fun W => markDot_any 1 (k - n) W (by decide) (by omega))
        generalize mkN 1 (k - n) = y at k2 HM
        generalize (k - n : Nat) = q at j6 HM
        have he : ∀ w, (Op.equalIn 10000 99 (.agg #[.int .i64 0, .int .i64 (y : Int)]) (.agg #[.int .i64 0, .int .i64 (y : Int)])).run Tryz.prog w = .ok true w := fun w => by rw [eq_dot]; simp
        have HK12 : Hid (∀ {w' : World}, wr.grownBy w' none → w'.cell? ⟨g, k * 2, none⟩ = some (iV 0) ∧ w'.cell? ⟨g, k * 2 + 1, none⟩ = some (iV y)) := fun {w'} hg => ⟨by rw [gb_cell hg (block_lt_of_cell k1) (by simp)]; exact k1, by rw [gb_cell hg (block_lt_of_cell k2) (by simp)]; exact k2⟩
        clear k1 k2
        have i0 : ¬ (k : Int) < (n : Int) := by omega
        have i3 : (n : Int) ≤ (k : Int) := by omega
        go_wp2_with fail
        refine wp_region_flow3 (Fg.its [.any, .any, .any, .any, .any, .any, .any, .any, .any, .any, .any, .any, .any, .any, .any, .any, .any, .any, .any, .any, .any, .any, .any, .val (.int .i64 (k : Int)), .val (.slice a n cap), .val (.int .i64 n), .val (.bool false), .val (.bool false), .val undef, .val undef, .val undef, .val undef, .val undef, .val undef, .val undef, .val undef, .val undef, .val undef, .val (.bool false), .val (.bool false), .val (.int .i64 (k : Int)), .val (.slice a n cap), .val (.int .i64 n), .val (.bool true), .val (.bool true), .val (.slice (some ⟨g, 0, none⟩) (n + 12) c), .val (.int .i64 (k : Int)), .val (.pointer (some ⟨g, k * 2, none⟩)), .val (.agg #[iV 0, iV (y : Int)]), .val (.int .i64 (k : Int)), .val (.slice a n cap), .val (.int .i64 n), .val (.int .i64 (q : Int)), .val (.agg #[iV 0, iV (y : Int)]), .val (.bool true), .val (.bool false), .val (.bool false), .val (.bool false)]) (fun _ => 0) (fun _ _ _ => True) (fun w => World.grownBy wr w none) [] (by kernel_rfl) (by kernel_rfl) (by kernel_rfl) (gb_drew (gb_refl _ _)) (Fg.ptrs_nil _ _) (Fg.no_store (by kernel_rfl)) ?_ ?_
        · refine ⟨Fg.value rfl fun ac w h => ?_, ?_⟩
          · have e6 : ac.tmps.getD 6 undef = .int .i64 (k : Int) := h.rest 6 (by kernel_rfl)
            refine ⟨wants_none rfl, .int .i64 (k : Int), w, ?_, gb_refl _ _, rfl⟩
            clear h
            simp only [execOp, Act.eval, e6]
            go_simp
          refine ⟨Fg.value rfl fun ac w h => ?_, ?_⟩
          · have e1 : ac.tmps.getD 1 undef = .slice a n cap := h.rest 1 (by kernel_rfl)
            refine ⟨wants_none rfl, .slice a n cap, w, ?_, gb_refl _ _, rfl⟩
            clear h
            simp only [execOp, Act.eval, e1]
            go_simp
          refine ⟨Fg.value rfl fun ac w h => ?_, ?_⟩
          · have e24 : ac.tmps.getD 24 undef = .slice a n cap := h.dep 24 (by kernel_rfl)
            have x24 : ac.tmps[24]?.getD undef = .slice a n cap := by simpa using e24
            refine ⟨wants_none rfl, .int .i64 n, w, ?_, gb_refl _ _, rfl⟩
            clear h e24
            go_simp
          refine ⟨Fg.value rfl fun ac w h => ?_, ?_⟩
          · have e23 : ac.tmps.getD 23 undef = .int .i64 (k : Int) := h.dep 23 (by kernel_rfl)
            have e25 : ac.tmps.getD 25 undef = .int .i64 n := h.dep 25 (by kernel_rfl)
            refine ⟨wants_none rfl, .bool false, w, ?_, gb_refl _ _, rfl⟩
            clear h
            simp only [execOp, Act.eval, e23, e25]
            go_simp
          refine ⟨Fg.value rfl fun ac w h => ?_, ?_⟩
          · have e26 : ac.tmps.getD 26 undef = .bool false := h.dep 26 (by kernel_rfl)
            refine ⟨wants_none rfl, .bool false, w, ?_, gb_refl _ _, rfl⟩
            clear h
            simp only [execOp, Act.eval, e26]
            go_simp
          refine ⟨Fg.skipped rfl (fun _ => rfl) fun ac w h => ?_, ?_⟩
          · have e27 : ac.tmps.getD 27 undef = .bool false := h.dep 27 (by kernel_rfl)
            exact not_wants (d := 27) rfl rfl (by rw [h.size]; show 27 < 58; decide) e27 (by decide)
          refine ⟨Fg.skipped rfl (fun _ => rfl) fun ac w h => ?_, ?_⟩
          · have e27 : ac.tmps.getD 27 undef = .bool false := h.dep 27 (by kernel_rfl)
            exact not_wants (d := 27) rfl rfl (by rw [h.size]; show 27 < 58; decide) e27 (by decide)
          refine ⟨Fg.skipped rfl (fun _ => rfl) fun ac w h => ?_, ?_⟩
          · have e27 : ac.tmps.getD 27 undef = .bool false := h.dep 27 (by kernel_rfl)
            exact not_wants (d := 27) rfl rfl (by rw [h.size]; show 27 < 58; decide) e27 (by decide)
          refine ⟨Fg.skipped rfl (fun _ => rfl) fun ac w h => ?_, ?_⟩
          · have e27 : ac.tmps.getD 27 undef = .bool false := h.dep 27 (by kernel_rfl)
            exact not_wants (d := 27) rfl rfl (by rw [h.size]; show 27 < 58; decide) e27 (by decide)
          refine ⟨Fg.skipped rfl (fun _ => rfl) fun ac w h => ?_, ?_⟩
          · have e27 : ac.tmps.getD 27 undef = .bool false := h.dep 27 (by kernel_rfl)
            exact not_wants (d := 27) rfl rfl (by rw [h.size]; show 27 < 58; decide) e27 (by decide)
          refine ⟨Fg.skipped rfl (fun _ => rfl) fun ac w h => ?_, ?_⟩
          · have e27 : ac.tmps.getD 27 undef = .bool false := h.dep 27 (by kernel_rfl)
            exact not_wants (d := 27) rfl rfl (by rw [h.size]; show 27 < 58; decide) e27 (by decide)
          refine ⟨Fg.skipped rfl (fun _ => rfl) fun ac w h => ?_, ?_⟩
          · have e27 : ac.tmps.getD 27 undef = .bool false := h.dep 27 (by kernel_rfl)
            exact not_wants (d := 27) rfl rfl (by rw [h.size]; show 27 < 58; decide) e27 (by decide)
          refine ⟨Fg.skipped rfl (fun _ => rfl) fun ac w h => ?_, ?_⟩
          · have e27 : ac.tmps.getD 27 undef = .bool false := h.dep 27 (by kernel_rfl)
            exact not_wants (d := 27) rfl rfl (by rw [h.size]; show 27 < 58; decide) e27 (by decide)
          refine ⟨Fg.skipped rfl (fun _ => rfl) fun ac w h => ?_, ?_⟩
          · have e27 : ac.tmps.getD 27 undef = .bool false := h.dep 27 (by kernel_rfl)
            exact not_wants (d := 27) rfl rfl (by rw [h.size]; show 27 < 58; decide) e27 (by decide)
          refine ⟨Fg.skipped rfl (fun _ => rfl) fun ac w h => ?_, ?_⟩
          · have e27 : ac.tmps.getD 27 undef = .bool false := h.dep 27 (by kernel_rfl)
            exact not_wants (d := 27) rfl rfl (by rw [h.size]; show 27 < 58; decide) e27 (by decide)
          refine ⟨Fg.value rfl fun ac w h => ?_, ?_⟩
          · have e27 : ac.tmps.getD 27 undef = .bool false := h.dep 27 (by kernel_rfl)
            refine ⟨wants_none rfl, .bool false, w, ?_, gb_refl _ _, rfl⟩
            clear h
            simp only [execOp, Act.eval, e27]
            go_simp
          refine ⟨Fg.value rfl fun ac w h => ?_, ?_⟩
          · have e38 : ac.tmps.getD 38 undef = .bool false := h.dep 38 (by kernel_rfl)
            refine ⟨wants_none rfl, .bool false, w, ?_, gb_refl _ _, rfl⟩
            clear h
            simp only [execOp, Act.eval, e38]
            go_simp
          refine ⟨Fg.value rfl fun ac w h => ?_, ?_⟩
          · have e39 : ac.tmps.getD 39 undef = .bool false := h.dep 39 (by kernel_rfl)
            have e6 : ac.tmps.getD 6 undef = .int .i64 (k : Int) := h.rest 6 (by kernel_rfl)
            refine ⟨wants_some (d := 39) rfl rfl (by rw [h.size]; show 39 < 58; decide) e39, .int .i64 (k : Int), w, ?_, gb_refl _ _, rfl⟩
            clear h
            simp only [execOp, Act.eval, e6]
            go_simp
          refine ⟨Fg.value rfl fun ac w h => ?_, ?_⟩
          · have e39 : ac.tmps.getD 39 undef = .bool false := h.dep 39 (by kernel_rfl)
            have e1 : ac.tmps.getD 1 undef = .slice a n cap := h.rest 1 (by kernel_rfl)
            refine ⟨wants_some (d := 39) rfl rfl (by rw [h.size]; show 39 < 58; decide) e39, .slice a n cap, w, ?_, gb_refl _ _, rfl⟩
            clear h
            simp only [execOp, Act.eval, e1]
            go_simp
          refine ⟨Fg.value rfl fun ac w h => ?_, ?_⟩
          · have e39 : ac.tmps.getD 39 undef = .bool false := h.dep 39 (by kernel_rfl)
            have e41 : ac.tmps.getD 41 undef = .slice a n cap := h.dep 41 (by kernel_rfl)
            have x41 : ac.tmps[41]?.getD undef = .slice a n cap := by simpa using e41
            refine ⟨wants_some (d := 39) rfl rfl (by rw [h.size]; show 39 < 58; decide) e39, .int .i64 n, w, ?_, gb_refl _ _, rfl⟩
            clear h e41
            go_simp
          refine ⟨Fg.value rfl fun ac w h => ?_, ?_⟩
          · have e39 : ac.tmps.getD 39 undef = .bool false := h.dep 39 (by kernel_rfl)
            have e40 : ac.tmps.getD 40 undef = .int .i64 (k : Int) := h.dep 40 (by kernel_rfl)
            have e42 : ac.tmps.getD 42 undef = .int .i64 n := h.dep 42 (by kernel_rfl)
            refine ⟨wants_some (d := 39) rfl rfl (by rw [h.size]; show 39 < 58; decide) e39, .bool true, w, ?_, gb_refl _ _, rfl⟩
            clear h
            simp only [execOp, Act.eval, e40, e42]
            go_simp
          refine ⟨Fg.value rfl fun ac w h => ?_, ?_⟩
          · have e39 : ac.tmps.getD 39 undef = .bool false := h.dep 39 (by kernel_rfl)
            have e43 : ac.tmps.getD 43 undef = .bool true := h.dep 43 (by kernel_rfl)
            refine ⟨wants_some (d := 39) rfl rfl (by rw [h.size]; show 39 < 58; decide) e39, .bool true, w, ?_, gb_refl _ _, rfl⟩
            clear h
            simp only [execOp, Act.eval, e43]
            go_simp
          refine ⟨Fg.value rfl fun ac w h => ?_, ?_⟩
          · have e44 : ac.tmps.getD 44 undef = .bool true := h.dep 44 (by kernel_rfl)
            have e5 : ac.tmps.getD 5 undef = .slice (some ⟨g, 0, none⟩) (n + 12) c := h.rest 5 (by kernel_rfl)
            refine ⟨wants_some (d := 44) rfl rfl (by rw [h.size]; show 44 < 58; decide) e44, .slice (some ⟨g, 0, none⟩) (n + 12) c, w, ?_, gb_refl _ _, rfl⟩
            clear h
            simp only [execOp, Act.eval, e5]
            go_simp
          refine ⟨Fg.value rfl fun ac w h => ?_, ?_⟩
          · have e44 : ac.tmps.getD 44 undef = .bool true := h.dep 44 (by kernel_rfl)
            have e6 : ac.tmps.getD 6 undef = .int .i64 (k : Int) := h.rest 6 (by kernel_rfl)
            refine ⟨wants_some (d := 44) rfl rfl (by rw [h.size]; show 44 < 58; decide) e44, .int .i64 (k : Int), w, ?_, gb_refl _ _, rfl⟩
            clear h
            simp only [execOp, Act.eval, e6]
            go_simp
          refine ⟨Fg.value rfl fun ac w h => ?_, ?_⟩
          · have e44 : ac.tmps.getD 44 undef = .bool true := h.dep 44 (by kernel_rfl)
            have e45 : ac.tmps.getD 45 undef = .slice (some ⟨g, 0, none⟩) (n + 12) c := h.dep 45 (by kernel_rfl)
            have e46 : ac.tmps.getD 46 undef = .int .i64 (k : Int) := h.dep 46 (by kernel_rfl)
            refine ⟨wants_some (d := 44) rfl rfl (by rw [h.size]; show 44 < 58; decide) e44, .pointer (some ⟨g, k * 2, none⟩), w, ?_, gb_refl _ _, rfl⟩
            clear h
            simp only [execOp, Act.eval, e45, e46]
            go_simp
          refine ⟨Fg.value rfl fun ac w h => ?_, ?_⟩
          · have e44 : ac.tmps.getD 44 undef = .bool true := h.dep 44 (by kernel_rfl)
            have e47 : ac.tmps.getD 47 undef = .pointer (some ⟨g, k * 2, none⟩) := h.dep 47 (by kernel_rfl)
            have c1 := (HK12.out h.base).1
            have c2 := (HK12.out h.base).2
            refine ⟨wants_some (d := 44) rfl rfl (by rw [h.size]; show 44 < 58; decide) e44, .agg #[iV 0, iV (y : Int)], w, ?_, gb_refl _ _, rfl⟩
            clear h
            simp only [execOp, Act.eval, e47]
            go_simp
          refine ⟨Fg.value rfl fun ac w h => ?_, ?_⟩
          · have e44 : ac.tmps.getD 44 undef = .bool true := h.dep 44 (by kernel_rfl)
            have e6 : ac.tmps.getD 6 undef = .int .i64 (k : Int) := h.rest 6 (by kernel_rfl)
            refine ⟨wants_some (d := 44) rfl rfl (by rw [h.size]; show 44 < 58; decide) e44, .int .i64 (k : Int), w, ?_, gb_refl _ _, rfl⟩
            clear h
            simp only [execOp, Act.eval, e6]
            go_simp
          refine ⟨Fg.value rfl fun ac w h => ?_, ?_⟩
          · have e44 : ac.tmps.getD 44 undef = .bool true := h.dep 44 (by kernel_rfl)
            have e1 : ac.tmps.getD 1 undef = .slice a n cap := h.rest 1 (by kernel_rfl)
            refine ⟨wants_some (d := 44) rfl rfl (by rw [h.size]; show 44 < 58; decide) e44, .slice a n cap, w, ?_, gb_refl _ _, rfl⟩
            clear h
            simp only [execOp, Act.eval, e1]
            go_simp
          refine ⟨Fg.value rfl fun ac w h => ?_, ?_⟩
          · have e44 : ac.tmps.getD 44 undef = .bool true := h.dep 44 (by kernel_rfl)
            have e50 : ac.tmps.getD 50 undef = .slice a n cap := h.dep 50 (by kernel_rfl)
            have x50 : ac.tmps[50]?.getD undef = .slice a n cap := by simpa using e50
            refine ⟨wants_some (d := 44) rfl rfl (by rw [h.size]; show 44 < 58; decide) e44, .int .i64 n, w, ?_, gb_refl _ _, rfl⟩
            clear h e50
            go_simp
          refine ⟨Fg.value rfl fun ac w h => ?_, ?_⟩
          · have e44 : ac.tmps.getD 44 undef = .bool true := h.dep 44 (by kernel_rfl)
            have e49 : ac.tmps.getD 49 undef = .int .i64 (k : Int) := h.dep 49 (by kernel_rfl)
            have e51 : ac.tmps.getD 51 undef = .int .i64 n := h.dep 51 (by kernel_rfl)
            refine ⟨wants_some (d := 44) rfl rfl (by rw [h.size]; show 44 < 58; decide) e44, .int .i64 (q : Int), w, ?_, gb_refl _ _, rfl⟩
            clear h
            simp only [execOp, Act.eval, e49, e51]
            go_simp
          refine ⟨Fg.call rfl fun ac w h => ?_, ?_⟩
          · have e44 : ac.tmps.getD 44 undef = .bool true := h.dep 44 (by kernel_rfl)
            have e52 : ac.tmps.getD 52 undef = .int .i64 (q : Int) := h.dep 52 (by kernel_rfl)
            have x52 : ac.tmps[52]?.getD undef = .int .i64 (q : Int) := by simpa using e52
            have hb := h.base
            refine ⟨wants_some (d := 44) rfl rfl (by rw [h.size]; show 44 < 58; decide) e44, 101, #[.int .i64 1, .int .i64 (q : Int)], ?_, ?_⟩
            · clear h hb e52
              go_simp
            · refine (HM.out w).mono ?_
              intro e w1 hp
              obtain ⟨rfl, hg⟩ := hp
              exact ⟨_, rfl, hg, rfl⟩
          refine ⟨Fg.value rfl fun ac w h => ?_, ?_⟩
          · have e44 : ac.tmps.getD 44 undef = .bool true := h.dep 44 (by kernel_rfl)
            have e48 : ac.tmps.getD 48 undef = .agg #[iV 0, iV (y : Int)] := h.dep 48 (by kernel_rfl)
            have e53 : ac.tmps.getD 53 undef = .agg #[iV 0, iV (y : Int)] := h.dep 53 (by kernel_rfl)
            refine ⟨wants_some (d := 44) rfl rfl (by rw [h.size]; show 44 < 58; decide) e44, .bool true, w, ?_, gb_refl _ _, rfl⟩
            clear h
            simp only [execOp, Act.eval, e48, e53]
            go_simp
          refine ⟨Fg.value rfl fun ac w h => ?_, ?_⟩
          · have e44 : ac.tmps.getD 44 undef = .bool true := h.dep 44 (by kernel_rfl)
            have e54 : ac.tmps.getD 54 undef = .bool true := h.dep 54 (by kernel_rfl)
            refine ⟨wants_some (d := 44) rfl rfl (by rw [h.size]; show 44 < 58; decide) e44, .bool false, w, ?_, gb_refl _ _, rfl⟩
            clear h
            simp only [execOp, Act.eval, e54]
            go_simp
          refine ⟨Fg.value rfl fun ac w h => ?_, ?_⟩
          · have e39 : ac.tmps.getD 39 undef = .bool false := h.dep 39 (by kernel_rfl)
            have e44 : ac.tmps.getD 44 undef = .bool true := h.dep 44 (by kernel_rfl)
            have e55 : ac.tmps.getD 55 undef = .bool false := h.dep 55 (by kernel_rfl)
            refine ⟨wants_some (d := 39) rfl rfl (by rw [h.size]; show 39 < 58; decide) e39, .bool false, w, ?_, gb_refl _ _, rfl⟩
            clear h
            simp only [execOp, Act.eval, e44, e55]
            go_simp
          refine ⟨Fg.value rfl fun ac w h => ?_, ?_⟩
          · have e39 : ac.tmps.getD 39 undef = .bool false := h.dep 39 (by kernel_rfl)
            have e56 : ac.tmps.getD 56 undef = .bool false := h.dep 56 (by kernel_rfl)
            refine ⟨wants_none rfl, .bool false, w, ?_, gb_refl _ _, rfl⟩
            clear h
            simp only [execOp, Act.eval, e39, e56]
            go_simp
          trivial
        · intro aq wq hB hsz hdf hrest hslots _
          obtain ⟨u23, hs23⟩ : ∃ u, aq.tmps.getD 23 undef = u := ⟨_, rfl⟩
          obtain ⟨u24, hs24⟩ : ∃ u, aq.tmps.getD 24 undef = u := ⟨_, rfl⟩
          obtain ⟨u25, hs25⟩ : ∃ u, aq.tmps.getD 25 undef = u := ⟨_, rfl⟩
          obtain ⟨u26, hs26⟩ : ∃ u, aq.tmps.getD 26 undef = u := ⟨_, rfl⟩
          obtain ⟨u27, hs27⟩ : ∃ u, aq.tmps.getD 27 undef = u := ⟨_, rfl⟩
          obtain ⟨u28, hs28⟩ : ∃ u, aq.tmps.getD 28 undef = u := ⟨_, rfl⟩
          obtain ⟨u29, hs29⟩ : ∃ u, aq.tmps.getD 29 undef = u := ⟨_, rfl⟩
          obtain ⟨u30, hs30⟩ : ∃ u, aq.tmps.getD 30 undef = u := ⟨_, rfl⟩
          obtain ⟨u31, hs31⟩ : ∃ u, aq.tmps.getD 31 undef = u := ⟨_, rfl⟩
          obtain ⟨u32, hs32⟩ : ∃ u, aq.tmps.getD 32 undef = u := ⟨_, rfl⟩
          obtain ⟨u33, hs33⟩ : ∃ u, aq.tmps.getD 33 undef = u := ⟨_, rfl⟩
          obtain ⟨u34, hs34⟩ : ∃ u, aq.tmps.getD 34 undef = u := ⟨_, rfl⟩
          obtain ⟨u35, hs35⟩ : ∃ u, aq.tmps.getD 35 undef = u := ⟨_, rfl⟩
          obtain ⟨u36, hs36⟩ : ∃ u, aq.tmps.getD 36 undef = u := ⟨_, rfl⟩
          obtain ⟨u37, hs37⟩ : ∃ u, aq.tmps.getD 37 undef = u := ⟨_, rfl⟩
          obtain ⟨u38, hs38⟩ : ∃ u, aq.tmps.getD 38 undef = u := ⟨_, rfl⟩
          obtain ⟨u39, hs39⟩ : ∃ u, aq.tmps.getD 39 undef = u := ⟨_, rfl⟩
          obtain ⟨u40, hs40⟩ : ∃ u, aq.tmps.getD 40 undef = u := ⟨_, rfl⟩
          obtain ⟨u41, hs41⟩ : ∃ u, aq.tmps.getD 41 undef = u := ⟨_, rfl⟩
          obtain ⟨u42, hs42⟩ : ∃ u, aq.tmps.getD 42 undef = u := ⟨_, rfl⟩
          obtain ⟨u43, hs43⟩ : ∃ u, aq.tmps.getD 43 undef = u := ⟨_, rfl⟩
          obtain ⟨u44, hs44⟩ : ∃ u, aq.tmps.getD 44 undef = u := ⟨_, rfl⟩
          obtain ⟨u45, hs45⟩ : ∃ u, aq.tmps.getD 45 undef = u := ⟨_, rfl⟩
          obtain ⟨u46, hs46⟩ : ∃ u, aq.tmps.getD 46 undef = u := ⟨_, rfl⟩
          obtain ⟨u47, hs47⟩ : ∃ u, aq.tmps.getD 47 undef = u := ⟨_, rfl⟩
          obtain ⟨u48, hs48⟩ : ∃ u, aq.tmps.getD 48 undef = u := ⟨_, rfl⟩
          obtain ⟨u49, hs49⟩ : ∃ u, aq.tmps.getD 49 undef = u := ⟨_, rfl⟩
          obtain ⟨u50, hs50⟩ : ∃ u, aq.tmps.getD 50 undef = u := ⟨_, rfl⟩
          obtain ⟨u51, hs51⟩ : ∃ u, aq.tmps.getD 51 undef = u := ⟨_, rfl⟩
          obtain ⟨u52, hs52⟩ : ∃ u, aq.tmps.getD 52 undef = u := ⟨_, rfl⟩
          obtain ⟨u53, hs53⟩ : ∃ u, aq.tmps.getD 53 undef = u := ⟨_, rfl⟩
          obtain ⟨u54, hs54⟩ : ∃ u, aq.tmps.getD 54 undef = u := ⟨_, rfl⟩
          obtain ⟨u55, hs55⟩ : ∃ u, aq.tmps.getD 55 undef = u := ⟨_, rfl⟩
          obtain ⟨u56, hs56⟩ : ∃ u, aq.tmps.getD 56 undef = u := ⟨_, rfl⟩
          obtain rfl := Fg.frame_is (a := aq) (vs := [Value.slice (some ⟨g, 0, none⟩) n c, Value.slice a n cap, undef, undef, u4, Value.slice (some ⟨g, 0, none⟩) (n + 12) c, Value.int .i64 (k : Int), Value.slice (some ⟨g, 0, none⟩) n c, Value.int .i64 (n : Int), Value.slice a n cap, Value.int .i64 (n : Int), Value.bool false, Value.slice (some ⟨g, 0, none⟩) n c, Value.slice a n cap, Value.int .i64 (n : Int), Value.int .i64 ((n : Int) + 12), Value.slice (some ⟨g, 0, none⟩) (n + 12) c, Value.int .i64 (k : Int), Value.slice (some ⟨g, 0, none⟩) (n + 12) c, Value.int .i64 ((n : Int) + 12), Value.bool true, u21, u22, u23, u24, u25, u26, u27, u28, u29, u30, u31, u32, u33, u34, u35, u36, u37, u38, u39, u40, u41, u42, u43, u44, u45, u46, u47, u48, u49, u50, u51, u52, u53, u54, u55, u56, Value.bool false]) hsz ⟨hrest 0 (by kernel_rfl), hrest 1 (by kernel_rfl), hrest 2 (by kernel_rfl), hrest 3 (by kernel_rfl), hrest 4 (by kernel_rfl), hrest 5 (by kernel_rfl), hrest 6 (by kernel_rfl), hrest 7 (by kernel_rfl), hrest 8 (by kernel_rfl), hrest 9 (by kernel_rfl), hrest 10 (by kernel_rfl), hrest 11 (by kernel_rfl), hrest 12 (by kernel_rfl), hrest 13 (by kernel_rfl), hrest 14 (by kernel_rfl), hrest 15 (by kernel_rfl), hrest 16 (by kernel_rfl), hrest 17 (by kernel_rfl), hrest 18 (by kernel_rfl), hrest 19 (by kernel_rfl), hrest 20 (by kernel_rfl), hrest 21 (by kernel_rfl), hrest 22 (by kernel_rfl), hs23, hs24, hs25, hs26, hs27, hs28, hs29, hs30, hs31, hs32, hs33, hs34, hs35, hs36, hs37, hs38, hs39, hs40, hs41, hs42, hs43, hs44, hs45, hs46, hs47, hs48, hs49, hs50, hs51, hs52, hs53, hs54, hs55, hs56, (show aq.tmps.getD 57 undef = Value.bool false from hslots 57 (by kernel_rfl)), trivial⟩ hdf
          have HG2 := Lib.hid (gb_trans HW.out hB)
          clear hB hsz hdf hrest hslots hs23 hs24 hs25 hs26 hs27 hs28 hs29 hs30 hs31 hs32 hs33 hs34 hs35 hs36 hs37 hs38 hs39 hs40 hs41 hs42 hs43 hs44 hs45 hs46 hs47 hs48 hs49 hs50 hs51 hs52 hs53 hs54 hs55 hs56
          go_wp2
          go_roundw
          case rel => exact ⟨k + 1, by omega, by go_num, HG2.out⟩
          case measure => simp [intOf]; omega
    · obtain rfl : k = n + 12 := by omega
      go_wp2
      go_ret
      exact ⟨rfl, HW.out⟩
end Ve
end Go.Proofs.YtohcoihdijemfaaGreat

/- The kit's KeptRecord: what was lent is as it was. (Printed by gen_rckept.py.) -/
namespace Go.Proofs.YtohcoihdijemfaaGreat
open Go.RowKit Ow Wi Ve
namespace Rc
/-- a record that was lent: as q, but in blocks of its own from b on, with marks behind -/
structure Lent (f : Nat → Nat → Nat) (w : World) (b : Nat) (q : L) (r : R) (x1 d1 x2 x3 : Nat) : Prop where
  d : q.n1 + 12 ≤ d1
  cx : OwnD' w b (.slice (some ⟨x1, 0, none⟩) (q.n1 + 12) d1) (q.n1 + 12) (r.cx ++ marksD 1 12)
  val : Blk w x2 5 ((r.val ++ marksOf f 1 12).map u8N)
  sig : Blk w x3 5 ((r.sig ++ marksOf f 1 12).map u8N)
  b2 : b ≤ x2
  b3 : b ≤ x3
def lq (q : L) (x1 d1 x2 x3 : Nat) : L := ⟨q.s, some ⟨x1, 0, none⟩, q.n1, d1, some ⟨x2, 0, none⟩, q.n2, q.n2 + 12, some ⟨x3, 0, none⟩, q.n3, q.n3 + 12⟩
theorem Lent.stay {f : Nat → Nat → Nat} {w w' : World} {b : Nat} {q : L} {r : R} {x1 d1 x2 x3 : Nat} (h : Lent f w b q r x1 d1 x2 x3) (hg : w.grownBy w' none) : Lent f w' b q r x1 d1 x2 x3 :=
  ⟨h.d, h.cx.kept hg (by cases (Value.slice (some ⟨x1, 0, none⟩) (q.n1 + 12) d1).ownBlock <;> simp), h.val.grown hg (by simp), h.sig.grown hg (by simp), h.b2, h.b3⟩
theorem own_whole {w : World} {b n : Nat} {v : Option Addr} {xs : List Value} {e : TypeId} (h : w.ownsRow b e 1 (.slice v n n) n xs) (hn : 0 < n) : ∃ g, v = some ⟨g, 0, none⟩ ∧ b ≤ g ∧ Blk w g e xs := by
  have hl := h.1
  rcases h.2 with ⟨_, h0⟩ | ⟨g, c, cur, e1, hb, hg, hnc, hcm, hs, ht⟩
  · omega
  · simp only [Value.slice.injEq, true_and] at e1
    obtain ⟨rfl, rfl⟩ := e1
    refine ⟨g, rfl, hb, ?_⟩
    have e : cur.toList = xs := by
      rw [← ht, List.take_of_length_le]
      simp only [Array.length_toList]; omega
    unfold Blk
    rw [← e, hg]
theorem lp_lent {f : Nat → Nat → Nat} {w w' : World} {q : L} {r : R} {e : Ending} (h : LpOut f w q r e w') : ∃ x1 d1 x2 x3, e = .returned ((lq q x1 d1 x2 x3).v r) ∧ w.grownBy w' none ∧ Lent f w' w.heap.size q r x1 d1 x2 x3 := by
  obtain ⟨b1, d1, b2, b3, he, hg, hd, h1, h2, h3⟩ := h
  obtain ⟨x2, rfl, k2, hB2⟩ := own_whole h2 (by omega)
  obtain ⟨x3, rfl, k3, hB3⟩ := own_whole h3 (by omega)
  obtain ⟨x1, rfl⟩ : ∃ x1, b1 = some ⟨x1, 0, none⟩ := by
    rcases h1.2 with ⟨_, h0⟩ | ⟨g, c, _, e1, _⟩
    · omega
    · simp only [Value.slice.injEq, true_and] at e1
      exact ⟨g, e1.1⟩
  exact ⟨x1, d1, x2, x3, he, hg, hd, h1, hB2, hB3, k2, k3⟩
theorem lent_rat {f : Nat → Nat → Nat} {w : World} {b B : Nat} {q : L} {r : R} {x1 d1 x2 x3 : Nat} (h : Lent f w b q r x1 d1 x2 x3) (hr : RAt w B q r) (hs : q.n1 ≤ 30000 ∧ q.n2 ≤ 30000 ∧ q.n3 ≤ 30000) : RAt w w.heap.size (lq q x1 d1 x2 x3) r := by
  obtain ⟨a', c', e1, hl, _, hd⟩ := own_dots h.cx
  simp only [Value.slice.injEq, true_and] at e1
  obtain ⟨rfl, rfl⟩ := e1
  have hv := h.val
  have hg := h.sig
  rw [List.map_append] at hv hg
  refine ⟨hr.str, hr.l1, hr.l2, hr.l3, ⟨Nat.le_refl _, ?_⟩, blk_bytes hv hr.l2 (by simp only [lq]; omega) (by simp only [lq]; omega) hr.val.byte h.val.lt (Nat.le_refl _), blk_bytes hg hr.l3 (by simp only [lq]; omega) (by simp only [lq]; omega) hr.sig.byte h.sig.lt (Nat.le_refl _), hr.top⟩
  have hc := hd.cells.resolve_left (by rw [hl]; omega)
  obtain ⟨pb, po, e, hlt, hk⟩ := hc
  refine Or.inr ⟨pb, po, e, hlt, fun i hi => ?_⟩
  have h2 := hk i (by rw [List.length_append]; omega)
  have e3 : (r.cx ++ marksD 1 12).getD i z0 = r.cx.getD i z0 := by rw [List.getD_eq_getElem?_getD, List.getElem?_append_left hi, ← List.getD_eq_getElem?_getD]
  rw [e3] at h2
  exact h2
theorem lent_dots {f : Nat → Nat → Nat} {w : World} {b : Nat} {q : L} {r : R} {x1 d1 x2 x3 : Nat} (h : Lent f w b q r x1 d1 x2 x3) : DotsAt w w.heap.size (some ⟨x1, 0, none⟩) (r.cx ++ marksD 1 12) ∧ d1 < 9223372036854775808 := by
  obtain ⟨a', c', e1, hl, _, hd⟩ := own_dots h.cx
  simp only [Value.slice.injEq, true_and] at e1
  obtain ⟨rfl, rfl⟩ := e1
  refine ⟨hd, ?_⟩
  rcases h.cx.2 with ⟨e, _⟩ | ⟨g, c, cur, e1, _, _, _, hcm, _⟩
  · cases e
  · simp only [Value.slice.injEq, true_and] at e1
    have := e1.2
    unfold maxLen at hcm
    omega
set_option maxHeartbeats 2000000 in
set_option maxRecDepth 100000 in
theorem keptRec_any {f : Nat → Nat → Nat} (hf : Marks f) (r : R) (B : Nat) (w : World) (q : L) (h : RAt w B q r) (hs : q.n1 ≤ 30000 ∧ q.n2 ≤ 30000 ∧ q.n3 ≤ 30000) (b x1 d1 x2 x3 : Nat) (hl : Lent f w b q r x1 d1 x2 x3) :
    Calls Tryz.prog 41 #[(lq q x1 d1 x2 x3).v r, q.v r] w fun e w' => e = .returned (.bool true) ∧ w.grownBy w' none := by
  have HS := Lib.hid (fun w' (hg : w.grownBy w' none) => sameRec_any r r _ _ w' (lq q x1 d1 x2 x3) q (lent_rat (hl.stay hg) (h.stay hg) hs) (h.stay hg))
  have HD := Lib.hid (fun w' (hg : w.grownBy w' none) => keptD_any q.n1 d1 q.c1 _ B x1 r.cx q.a1 w' h.l1 (h.dots.stay hg) hs.1 hl.d (lent_dots hl).2 (lent_dots (hl.stay hg)).1)
  have HV := Lib.hid (fun w' (hg : w.grownBy w' none) => keptB_any hf q.n2 q.c2 B x2 r.val q.a2 w' h.l2 (h.val.stay hg) hs.2.1 (hl.stay hg).val)
  have HG := Lib.hid (fun w' (hg : w.grownBy w' none) => keptB_any hf q.n3 q.c3 B x3 r.sig q.a3 w' h.l3 (h.sig.stay hg) hs.2.2 (hl.stay hg).sig)
  rw [(sameB_iff r r).2 rfl] at HS
  clear h hs hl hf
  obtain ⟨s, a1, n1, c1, a2, n2, c2, a3, n3, c3⟩ := q
  obtain ⟨key, cl, sq, cx, g, val, sig⟩ := r
  simp only at HD HV HG
  replace HS : Hid (∀ w' (_ : w.grownBy w' none), Calls Tryz.prog 65 #[.agg #[.string s, iV cl, iV sq, .slice (some ⟨x1, 0, none⟩) n1 d1, .bool g, .slice (some ⟨x2, 0, none⟩) n2 (n2 + 12), .slice (some ⟨x3, 0, none⟩) n3 (n3 + 12)], .agg #[.string s, iV cl, iV sq, .slice a1 n1 c1, .bool g, .slice a2 n2 c2, .slice a3 n3 c3]] w' fun e w'' => e = .returned (.bool true) ∧ w'.grownBy w'' none) := HS
  show Calls _ _ #[.agg #[.string s, iV cl, iV sq, .slice (some ⟨x1, 0, none⟩) n1 d1, .bool g, .slice (some ⟨x2, 0, none⟩) n2 (n2 + 12), .slice (some ⟨x3, 0, none⟩) n3 (n3 + 12)], .agg #[.string s, iV cl, iV sq, .slice a1 n1 c1, .bool g, .slice a2 n2 c2, .slice a3 n3 c3]] w _
  obtain ⟨W1, hW1⟩ : ∃ W1, W1 = w.alloc (.cells #[.string s, iV cl, iV sq, .slice (some ⟨x1, 0, none⟩) n1 d1, .bool g, .slice (some ⟨x2, 0, none⟩) n2 (n2 + 12), .slice (some ⟨x3, 0, none⟩) n3 (n3 + 12)] 50) := ⟨_, rfl⟩
  obtain ⟨W2, hW2⟩ : ∃ W2, W2 = (w.alloc (.cells #[.string s, iV cl, iV sq, .slice (some ⟨x1, 0, none⟩) n1 d1, .bool g, .slice (some ⟨x2, 0, none⟩) n2 (n2 + 12), .slice (some ⟨x3, 0, none⟩) n3 (n3 + 12)] 50)).alloc (.cells #[.string s, iV cl, iV sq, .slice a1 n1 c1, .bool g, .slice a2 n2 c2, .slice a3 n3 c3] 50) := ⟨_, rfl⟩
  obtain ⟨M1, hM1⟩ : ∃ M, M = w.heap.size := ⟨_, rfl⟩
  obtain ⟨M2, hM2⟩ : ∃ M, M = w.heap.size + 1 := ⟨_, rfl⟩
  have hb1 : Blk W1 M1 50 [.string s, iV cl, iV sq, .slice (some ⟨x1, 0, none⟩) n1 d1, .bool g, .slice (some ⟨x2, 0, none⟩) n2 (n2 + 12), .slice (some ⟨x3, 0, none⟩) n3 (n3 + 12)] := by rw [hW1, hM1]; exact Blk.new _ _ _
  have hg1 : w.grownBy W1 none := by rw [hW1]; exact gb_alloc (gb_refl _ _) _
  have hg2 : W1.grownBy W2 none := by rw [hW2, ← hW1]; exact gb_alloc (gb_refl _ _) _
  have hs1 : W1.heap.size = M2 := by rw [hW1, hM2]; exact World.size_alloc _ _
  have hb2 : Blk W2 M2 50 [.string s, iV cl, iV sq, .slice a1 n1 c1, .bool g, .slice a2 n2 c2, .slice a3 n3 c3] := by rw [hW2, ← hW1, ← hs1]; exact Blk.new _ _ _
  have HG0 := Lib.hid (And.intro (gb_trans hg1 hg2) (And.intro (hb1.grown hg2 (by simp)) hb2)); clear hb1 hg1 hg2 hs1 hb2 hW1
  have m0 := HG0.out.2.1.cell (i := 0) rfl
  have m1 := HG0.out.2.1.cell (i := 1) rfl
  have m2 := HG0.out.2.1.cell (i := 2) rfl
  have m3 := HG0.out.2.1.cell (i := 3) rfl
  have m4 := HG0.out.2.1.cell (i := 4) rfl
  have m5 := HG0.out.2.1.cell (i := 5) rfl
  have m6 := HG0.out.2.1.cell (i := 6) rfl
  have p0 := HG0.out.2.2.cell (i := 0) rfl
  have p1 := HG0.out.2.2.cell (i := 1) rfl
  have p2 := HG0.out.2.2.cell (i := 2) rfl
  have p3 := HG0.out.2.2.cell (i := 3) rfl
  have p4 := HG0.out.2.2.cell (i := 4) rfl
  have p5 := HG0.out.2.2.cell (i := 5) rfl
  have p6 := HG0.out.2.2.cell (i := 6) rfl
  go_enter Tryz.func41, Tryz.ntmps41
  go_wp2_with fail
  rw [← hW2, ← hM2, ← hM1]
  clear hW2 hM1 hM2
  refine (HS.out W2 HG0.out.1).mono ?_
  rintro e w3 ⟨rfl, hg⟩
  have H3 := Lib.hid (And.intro (gb_trans HG0.out.1 hg) (And.intro (HG0.out.2.1.grown hg (by simp)) (HG0.out.2.2.grown hg (by simp))))
  clear hg HG0 m0 p0 m1 p1 m2 p2 m3 p3 m4 p4 m5 p5 m6 p6
  have m0 := H3.out.2.1.cell (i := 0) rfl
  have p0 := H3.out.2.2.cell (i := 0) rfl
  have m1 := H3.out.2.1.cell (i := 1) rfl
  have p1 := H3.out.2.2.cell (i := 1) rfl
  have m2 := H3.out.2.1.cell (i := 2) rfl
  have p2 := H3.out.2.2.cell (i := 2) rfl
  have m3 := H3.out.2.1.cell (i := 3) rfl
  have p3 := H3.out.2.2.cell (i := 3) rfl
  have m4 := H3.out.2.1.cell (i := 4) rfl
  have p4 := H3.out.2.2.cell (i := 4) rfl
  have m5 := H3.out.2.1.cell (i := 5) rfl
  have p5 := H3.out.2.2.cell (i := 5) rfl
  have m6 := H3.out.2.1.cell (i := 6) rfl
  have p6 := H3.out.2.2.cell (i := 6) rfl
  go_wp2_with fail
  refine (HD.out w3 H3.out.1).mono ?_
  rintro e w4 ⟨rfl, hg⟩
  have H4 := Lib.hid (And.intro (gb_trans H3.out.1 hg) (And.intro (H3.out.2.1.grown hg (by simp)) (H3.out.2.2.grown hg (by simp))))
  clear hg H3 m0 p0 m1 p1 m2 p2 m3 p3 m4 p4 m5 p5 m6 p6
  have m0 := H4.out.2.1.cell (i := 0) rfl
  have p0 := H4.out.2.2.cell (i := 0) rfl
  have m1 := H4.out.2.1.cell (i := 1) rfl
  have p1 := H4.out.2.2.cell (i := 1) rfl
  have m2 := H4.out.2.1.cell (i := 2) rfl
  have p2 := H4.out.2.2.cell (i := 2) rfl
  have m3 := H4.out.2.1.cell (i := 3) rfl
  have p3 := H4.out.2.2.cell (i := 3) rfl
  have m4 := H4.out.2.1.cell (i := 4) rfl
  have p4 := H4.out.2.2.cell (i := 4) rfl
  have m5 := H4.out.2.1.cell (i := 5) rfl
  have p5 := H4.out.2.2.cell (i := 5) rfl
  have m6 := H4.out.2.1.cell (i := 6) rfl
  have p6 := H4.out.2.2.cell (i := 6) rfl
  go_wp2_with fail
  refine (HV.out w4 H4.out.1).mono ?_
  rintro e w5 ⟨rfl, hg⟩
  have H5 := Lib.hid (And.intro (gb_trans H4.out.1 hg) (And.intro (H4.out.2.1.grown hg (by simp)) (H4.out.2.2.grown hg (by simp))))
  clear hg H4 m0 p0 m1 p1 m2 p2 m3 p3 m4 p4 m5 p5 m6 p6
  have m0 := H5.out.2.1.cell (i := 0) rfl
  have p0 := H5.out.2.2.cell (i := 0) rfl
  have m1 := H5.out.2.1.cell (i := 1) rfl
  have p1 := H5.out.2.2.cell (i := 1) rfl
  have m2 := H5.out.2.1.cell (i := 2) rfl
  have p2 := H5.out.2.2.cell (i := 2) rfl
  have m3 := H5.out.2.1.cell (i := 3) rfl
  have p3 := H5.out.2.2.cell (i := 3) rfl
  have m4 := H5.out.2.1.cell (i := 4) rfl
  have p4 := H5.out.2.2.cell (i := 4) rfl
  have m5 := H5.out.2.1.cell (i := 5) rfl
  have p5 := H5.out.2.2.cell (i := 5) rfl
  have m6 := H5.out.2.1.cell (i := 6) rfl
  have p6 := H5.out.2.2.cell (i := 6) rfl
  go_wp2_with fail
  refine (HG.out w5 H5.out.1).mono ?_
  rintro e w6 ⟨rfl, hg⟩
  have H6 := Lib.hid (And.intro (gb_trans H5.out.1 hg) (And.intro (H5.out.2.1.grown hg (by simp)) (H5.out.2.2.grown hg (by simp))))
  clear hg H5 m0 p0 m1 p1 m2 p2 m3 p3 m4 p4 m5 p5 m6 p6
  go_wp2
  go_ret
  exact ⟨rfl, H6.out.1⟩
end Rc
end Go.Proofs.YtohcoihdijemfaaGreat

/- A law's arguments: rows of dots, dots. -/
namespace Go.Proofs.YtohcoihdijemfaaGreat
open Go.ChangeShapes Go.WideShapes Go.ChangeAt Go.RowKit Go.Deep Go.Joins Ve
namespace Ve
theorem int_of {H : Type} {enc : TypeId × Value → H} {W : World} {base n : Nat} {sp : Nat → Bool} {hd : Bool} {v : Value} {x : DataW H × List MemPlace} (h : DataW.trod enc Tryz.prog W base sp hd n 3 [v] = some x) : ∃ k, v = iV k := by
  obtain ⟨k, hk, _⟩ := DataW.trod_int Tryz.underlying3 h
  exact ⟨k, by simpa using hk⟩
theorem spot0 {W : World} {x : Addr} {v : Value} (h : W.cell? (x.add 0) = some v) : ∃ b off, x = ⟨b, off, none⟩ ∧ b < W.heap.size := by
  obtain ⟨b, off, spot⟩ := x
  have hspot : spot = none := by simpa [Addr.add] using World.cell?_spot h
  subst hspot
  exact ⟨b, off, rfl, by simpa [Addr.add] using block_lt_of_cell h⟩
theorem range_getD' {α : Type} (f : Nat → α) (n i : Nat) (z : α) (h : i < n) : ((List.range n).map f).getD i z = f i := by
  rw [List.getD_eq_getElem?_getD, List.getElem?_map, List.getElem?_range h]; rfl
theorem dots_trod {H : Type} {enc : TypeId × Value → H} {W : World} {a : Option Addr} {len cap : Nat} {x : DataW H × List MemPlace} {fuel : Nat} (hf : DataW.trod enc Tryz.prog W 0 (fun _ => true) true fuel 48 [.slice a len cap] = some x) :
    ∃ l : List D, l.length = len ∧ len < 9223372036854775808 ∧ DotsAt W W.heap.size a l := by
  rcases open_slice_pairs Tryz.underlying48 Tryz.underlying99 (by kernel_rfl) rfl rfl (by kernel_rfl) (by kernel_rfl) hf with ⟨hcs, _⟩ | ⟨b, l, c, m, k, V0, V1, D0, D1, P0, P1, hcs, _, hl, hm, hmm, _, hall⟩
  · simp only [List.cons.injEq, Value.slice.injEq, and_true] at hcs
    obtain ⟨rfl, rfl, rfl⟩ := hcs
    exact ⟨[], rfl, by decide, Nat.le_refl _, Or.inl rfl⟩
  · simp only [List.cons.injEq, Value.slice.injEq, and_true] at hcs
    obtain ⟨rfl, rfl, rfl⟩ := hcs
    simp only [if_true] at hmm
    subst hmm
    have each : ∀ i, i < len → ∃ q : D, V0 i = iV q.1 ∧ V1 i = iV q.2 := fun i hi => by
      obtain ⟨_, _, t0, t1⟩ := hall i (by omega)
      obtain ⟨x0, e0⟩ := int_of t0
      obtain ⟨x1, e1⟩ := int_of t1
      exact ⟨(x0, x1), e0, e1⟩
    obtain ⟨q, hq⟩ := choose_lt each
    refine ⟨(List.range len).map q, by simp, by unfold maxLen at hm; omega, Nat.le_refl _, ?_⟩
    by_cases h0 : len = 0
    · left; simp [h0]
    · have c0 := (hall 0 (by omega)).1
      rw [Nat.zero_mul] at c0
      obtain ⟨pb, po, rfl, hlt⟩ := spot0 c0
      refine Or.inr ⟨pb, po, rfl, hlt, fun i hi => ?_⟩
      simp only [List.length_map, List.length_range] at hi
      obtain ⟨e0, e1, _⟩ := hall i (by omega)
      rw [Addr.add_lit] at e0 e1
      rw [range_getD' _ _ _ _ hi, ← (hq i hi).1, ← (hq i hi).2]
      exact ⟨e0, by rw [Nat.add_assoc]; exact e1⟩
/-- an argument that is a row of dots -/
theorem dots_open {H : Type} {enc : TypeId × Value → H} {W : World} {a : Option Addr} {len cap : Nat} {d : DataW H} {ps : List MemPlace} (h : DataW.Trod enc Tryz.prog W 0 (fun _ => true) true 48 (.slice a len cap) d ps) :
    ∃ l : List D, l.length = len ∧ len < 9223372036854775808 ∧ DotsAt W W.heap.size a l := by
  obtain ⟨fuel, hf⟩ := h
  exact dots_trod (by simpa [Value.cells] using hf)
/-- .. and what room it has -/
theorem dots_room {H : Type} {enc : TypeId × Value → H} {W : World} {a : Option Addr} {len cap : Nat} {d : DataW H} {ps : List MemPlace} (h : DataW.Trod enc Tryz.prog W 0 (fun _ => true) true 48 (.slice a len cap) d ps) :
    (a = none → cap = 0) ∧ len ≤ cap ∧ cap < 9223372036854775808 := by
  obtain ⟨fuel, hf⟩ := h
  have hf : DataW.trod enc Tryz.prog W 0 (fun _ => true) true fuel 48 [.slice a len cap] = some (d, ps) := by simpa [Value.cells] using hf
  rcases open_slice Tryz.underlying48 hf with ⟨hcs, _⟩ | ⟨b, l, c, _, _, _, _, hcs, _, hl, hm, _⟩
  · simp only [List.cons.injEq, Value.slice.injEq, and_true] at hcs
    exact ⟨fun _ => hcs.2.2, by omega, by omega⟩
  · simp only [List.cons.injEq, Value.slice.injEq, and_true] at hcs
    unfold maxLen at hm
    exact ⟨(fun e => by rw [hcs.1] at e; cases e), by omega, by omega⟩
set_option maxRecDepth 100000 in
/-- an argument that is a dot -/
theorem dot_open {H : Type} {enc : TypeId × Value → H} {W : World} {r : Reach} {b0 : Nat} {v : Value} {d : DataW H} {ps : List MemPlace} (hv : Value.okWide Tryz.prog W r b0 99 v) (h : DataW.Trod enc Tryz.prog W 0 (fun _ => true) true 99 v d ps) :
    ∃ x y : Int, v = .agg #[iV x, iV y] := by
  obtain ⟨v0, v1, y0, y1, n, rfl, _, _, t0, t1⟩ := open_agg2 Tryz.underlying99 (by kernel_rfl) (by kernel_rfl) hv h
  obtain ⟨x, rfl⟩ := int_of t0
  obtain ⟨y, rfl⟩ := int_of t1
  exact ⟨x, y, rfl⟩
end Ve
end Go.Proofs.YtohcoihdijemfaaGreat

/- A law's arguments: records. -/
namespace Go.Proofs.YtohcoihdijemfaaGreat
open Go.ChangeShapes Go.WideShapes Go.ChangeAt Go.RowKit Go.Deep Go.Joins Ow Ve
namespace Rc
theorem array7 {α : Type} {cs : Array α} (h : cs.size = 7) : ∃ c0 c1 c2 c3 c4 c5 c6, cs = #[c0, c1, c2, c3, c4, c5, c6] := by
  obtain ⟨l⟩ := cs
  match l, h with
  | [c0, c1, c2, c3, c4, c5, c6], _ => exact ⟨c0, c1, c2, c3, c4, c5, c6, rfl⟩
/-- each field of a struct of seven cells -/
theorem open_agg7 {H : Type} {enc : TypeId × Value → H} {P : Program} {w : World} {base : Nat} {spare : Nat → Bool} {held : Bool} {r : Reach} {b0 : Nat} {t : TypeId} {fs : Array Field} {v : Value} {d : DataW H} {p : List MemPlace} (hs : P.underlying t = some (.struct fs)) (hone : oneCellFields P fs = true) (hC : P.cellsOf t = 7)
    (hv : Value.okWide P w r b0 t v) (h : DataW.Trod enc P w base spare held t v d p) :
    ∃ (cs : Array Value) (n : Nat), v = .agg cs ∧ cs.size = 7 ∧ ∀ (i : Nat) (f : Field), fs[i]? = some f → ∀ u, cs.toList[i]? = some u → ∃ y, DataW.trod enc P w base spare held n f.type [u] = some y := by
  obtain ⟨cs, rfl, hsz⟩ := okWide_struct hs hv
  obtain ⟨fuel, hf⟩ := h
  obtain ⟨xs, n, _, _, _, hlen, hx⟩ := DataW.trod_struct hs hf
  refine ⟨cs, n, rfl, hsz.trans hC, fun i f hi u hu => ?_⟩
  have h1 := hx i f hi
  obtain ⟨o, k⟩ := hone_of hone i f hi
  have hi2 : i < xs.length := by rw [hlen]; exact (Array.getElem?_eq_some_iff.1 hi).1
  rw [List.getElem?_eq_getElem hi2] at h1
  refine ⟨xs[i], ?_⟩
  rw [← h1, o, k]
  congr 1
  have hi3 : i < cs.toList.length := (List.getElem?_eq_some_iff.1 hu).1
  rw [show (Value.agg cs).cells.toList = cs.toList from rfl, List.drop_eq_getElem_cons hi3]
  rw [List.getElem?_eq_getElem hi3] at hu
  simp only [Option.some.injEq] at hu
  rw [hu]; rfl
theorem slice_of {H : Type} {enc : TypeId × Value → H} {W : World} {n : Nat} {t e : TypeId} {v : Value} {y : DataW H × List MemPlace} (ht : Tryz.prog.underlying t = some (.slice e)) (h : DataW.trod enc Tryz.prog W 0 (fun _ => true) true n t [v] = some y) : ∃ a l c, v = .slice a l c := by
  rcases open_slice ht h with ⟨hcs, _⟩ | ⟨a, l, c, _, _, _, _, hcs, _⟩
  · exact ⟨none, 0, 0, by simpa using hcs⟩
  · exact ⟨some a, l, c, by simpa using hcs⟩
theorem bytes_trod {H : Type} {enc : TypeId × Value → H} {W : World} {n len cap : Nat} {a : Option Addr} {y : DataW H × List MemPlace} (h : DataW.trod enc Tryz.prog W 0 (fun _ => true) true n 23 [.slice a len cap] = some y) : ∃ p, p.length = len ∧ BytesAt W W.heap.size a cap p :=
  bytes_open (d := y.1) (ps := y.2) ⟨n, h⟩
set_option maxRecDepth 100000 in
/-- an argument that is a record -/
theorem rec_open {H : Type} {enc : TypeId × Value → H} {W : World} {rr : Reach} {b0 : Nat} {v : Value} {d : DataW H} {ps : List MemPlace} (hv : Value.okWide Tryz.prog W rr b0 50 v) (h : DataW.Trod enc Tryz.prog W 0 (fun _ => true) true 50 v d ps) :
    ∃ (q : L) (r : R), v = q.v r ∧ RAt W W.heap.size q r := by
  obtain ⟨cs, n, rfl, hsz, hall⟩ := open_agg7 Tryz.underlying50 (by kernel_rfl) (by kernel_rfl) hv h
  obtain ⟨c0, c1, c2, c3, c4, c5, c6, rfl⟩ := array7 hsz
  obtain ⟨y0, t0⟩ := hall 0 _ rfl c0 rfl
  obtain ⟨y1, t1⟩ := hall 1 _ rfl c1 rfl
  obtain ⟨y2, t2⟩ := hall 2 _ rfl c2 rfl
  obtain ⟨y3, t3⟩ := hall 3 _ rfl c3 rfl
  obtain ⟨y4, t4⟩ := hall 4 _ rfl c4 rfl
  obtain ⟨y5, t5⟩ := hall 5 _ rfl c5 rfl
  obtain ⟨y6, t6⟩ := hall 6 _ rfl c6 rfl
  obtain ⟨s, e0, _, _⟩ := DataW.trod_string Tryz.underlying9 t0
  obtain ⟨cl, rfl⟩ := int_of t1
  obtain ⟨sq, rfl⟩ := int_of t2
  obtain ⟨g, e4, _⟩ := DataW.trod_bool Tryz.underlying4 t4
  obtain rfl : c0 = .string s := by simpa using e0
  obtain rfl : c4 = .bool g := by simpa using e4
  obtain ⟨a1, n1, k1, rfl⟩ := slice_of Tryz.underlying48 t3
  obtain ⟨a2, n2, k2, rfl⟩ := slice_of Tryz.underlying23 t5
  obtain ⟨a3, n3, k3, rfl⟩ := slice_of Tryz.underlying23 t6
  obtain ⟨cx, hl1, hm, hd⟩ := dots_trod t3
  obtain ⟨val, hl2, hvb⟩ := bytes_trod t5
  obtain ⟨sig, hl3, hsb⟩ := bytes_trod t6
  exact ⟨⟨s, a1, n1, k1, a2, n2, k2, a3, n3, k3⟩, ⟨strL s, cl, sq, cx, g, val, sig⟩, rfl, rfl, hl1, hl2, hl3, hd, hvb, hsb, hm⟩
end Rc
end Go.Proofs.YtohcoihdijemfaaGreat
