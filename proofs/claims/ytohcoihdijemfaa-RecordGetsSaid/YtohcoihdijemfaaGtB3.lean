/- texts merged, part 3: XRcRefText XRcReadDot XVeRow XVeApp XStep XRcRead XBytesEq XRcGet XWiRef XRcRefRead XRcRefPut XSame XVeSame XRcSame XRcAwake XLent XKept XOver XPick XWiPick XVeArg0 XRcArg -/
import Derived.Test.YtohcoihdijemfaaGtB2
import Derived.Outline
import Derived.Test.YtohcoihdijemfaaGtB1
import Derived.Laws.IdiomCopy
import Derived.Lib.AppendZerosOnto
import Derived.Lib.AppendZeros
import Derived.Deep.RegionLaw
import Derived.Laws.ResultCell
import Derived.Shelf.Bytes.SlEqualAll
import Derived.BigQuiet
import Derived.Deep.QuietTactic
import Derived.IntWalk
import Derived.Deep.Cut
import Derived.WalkKit
import Derived.Lib.Hide
import Derived.WalkSpells
import Derived.WalkLawsBesides
import Derived.Lib.SlBytesConst
import Derived.Laws.IdiomStrings
import Derived.BigGuardPart
import Derived.Test.YtohcoihdijemfaaChecked
import Derived.ProofKit
import Derived.OpenShut
import Derived.Deep.SlicePairs
import Derived.Deep.Slices
import Derived.Lib.SmallJoins
import Derived.SizedLaws
import Derived.ChangeArms
/- The document's Text (buttressref08). (Printed by gen_rcreftext.py.) -/
namespace Go.Proofs.Ytohcoihdijemfaa
open Go.RowKit Ow Wi Ve
namespace Rc
theorem dots_next (l : List D) (k : Nat) (h : k < l.length) {x y : Int} (e : l.getD k z0 = (x, y)) : dotsL (l.take (k + 1)) = dotsL (l.take k) ++ (encN x ++ encN y) := by
  rw [List.take_succ_eq_append_getElem h]
  have e2 : l[k] = (x, y) := by rw [← e, List.getD_eq_getElem?_getD, List.getElem?_eq_getElem h]; rfl
  rw [e2]
  simp [dotsL, dotL]
theorem nil_at {w : World} {B : Nat} (h : B ≤ w.heap.size) : BytesAt w B none 0 [] := ⟨h, Nat.le_refl _, by decide, fun i => by simp, Or.inl rfl⟩
set_option maxHeartbeats 8000000 in
set_option maxRecDepth 100000 in
theorem refText_any (r : R) (B : Nat) (w : World) (q : L) (h : RAt w B q r) : Calls Try.prog 22 #[q.v r] w (YOut w (textO r)) := by
  have HS := Lib.hid (fun w' (hg : w.grownBy w' none) => refShape_any (shapeB r) r B w' q (h.stay hg) rfl)
  obtain ⟨Q, hQ⟩ : ∃ Q, Q = YOut w (textO r) := ⟨_, rfl⟩
  rw [← hQ]
  unfold textO at hQ
  cases hb : shapeB r with
  | false =>
    rw [hb] at HS hQ
    have HQ : Hid (∀ w', w.grownBy w' none → Q (.returned (.slice none 0 0)) w') := fun w' hg => by rw [hQ]; exact bout_nil w w' hg
    clear hQ hb h
    obtain ⟨s, a1, n1, c1, a2, n2, c2, ay, ny, cy⟩ := q
    obtain ⟨key, cl, sq, cx, g, val, sig⟩ := r
    replace HS : Hid (∀ w' (_ : w.grownBy w' none), Calls Try.prog 40 #[vV s cl sq a1 n1 c1 g a2 n2 c2 ay ny cy] w' fun e w'' => e = .returned (.bool false) ∧ w'.grownBy w'' none) := HS
    show Calls _ _ #[vV s cl sq a1 n1 c1 g a2 n2 c2 ay ny cy] w _
    go_enter Try.func22, Try.ntmps22
    go_wp2_with fail
    refine (HS.out _ (gb_alloc (gb_refl _ _) _)).mono ?_
    rintro e w1 ⟨rfl, hg⟩
    have HG := Lib.hid (gb_trans (gb_alloc (gb_refl _ _) _) hg); clear hg
    go_wp2
    exact HQ.out _ HG.out
  | true =>
    rw [hb, if_pos rfl] at hQ
    rw [hb] at HS
    obtain ⟨_, h2, _, h4, h5, _⟩ := shape_of hb
    have hcx : (r.cx.length : Int) ≤ 8 := by have := h4.len (by decide); omega
    have hk := h.keyLen
    clear hb h4
    obtain ⟨s, a1, n1, c1, a2, n2, c2, ay, ny, cy⟩ := q
    obtain ⟨key, cl, sq, cx, g, val, sig⟩ := r
    have hs : strL s = key := h.str
    subst hs
    have l1 : cx.length = n1 := h.l1
    have l2 : val.length = n2 := h.l2
    simp only at h2 h5 hk hcx
    rw [hk] at h2
    have HK : Hid (s.size ≤ 64) := h2
    have HD : Hid (DotsAt w B a1 cx ∧ cx.length = n1 ∧ n1 ≤ 8) := ⟨h.dots, l1, by omega⟩
    have HV : Hid (BytesAt w B a2 c2 val ∧ val.length = n2 ∧ val.length ≤ 1024) := ⟨h.val, l2, h5⟩
    have HT : Hid (([[1], rowL (strL s), encN cl, encN sq, encN (n1 : Int)]).flatten.length ≤ 1000000 ∧ (∀ l ∈ [[1], rowL (strL s), encN cl, encN sq, encN (n1 : Int)], ∀ i, l.getD i 0 < 256) ∧ ([[1], rowL (strL s), encN cl, encN sq, encN (n1 : Int)]).flatten.length ≤ 200) := by
      have hle : ([[1], rowL (strL s), encN cl, encN sq, encN (n1 : Int)]).flatten.length ≤ 200 := by
        simp only [List.flatten_cons, List.flatten_nil, List.length_append, List.length_cons, List.length_nil, rowL_len, encN_length, strL_len]
        omega
      refine ⟨by omega, fun l hl => ?_, hle⟩
      simp only [List.mem_cons, List.not_mem_nil, or_false] at hl
      rcases hl with rfl | rfl | rfl | rfl | rfl
      · intro i; rcases i with _ | i <;> simp
      · exact rowL_byte (strL_byte s)
      · exact encN_byte _
      · exact encN_byte _
      · exact encN_byte _
    have HF : Hid (∀ gl, gl = g → [([[1], rowL (strL s), encN cl, encN sq, encN (n1 : Int)]).flatten ++ dotsL cx, [goneN gl], rowL val].flatten = textL ⟨strL s, cl, sq, cx, g, val, sig⟩) := fun gl e => by
      rw [e, ← l1]; simp [textL, dotL, R.dot]
    have HQ := Lib.hid hQ; clear hQ
    clear h l1 l2 h2 h5 hk hcx
    replace HS : Hid (∀ w' (_ : w.grownBy w' none), Calls Try.prog 40 #[vV s cl sq a1 n1 c1 g a2 n2 c2 ay ny cy] w' fun e w'' => e = .returned (.bool true) ∧ w'.grownBy w'' none) := HS
    show Calls _ _ #[vV s cl sq a1 n1 c1 g a2 n2 c2 ay ny cy] w _
    obtain ⟨N, hN⟩ : ∃ N, N = w.heap.size := ⟨_, rfl⟩
    obtain ⟨W0, hW0⟩ : ∃ W0, W0 = w.alloc (.cells #[.string s, iV cl, iV sq, .slice a1 n1 c1, .bool g, .slice a2 n2 c2, .slice ay ny cy] 25) := ⟨_, rfl⟩
    have hG0 : w.grownBy W0 none := by rw [hW0]; exact gb_alloc (gb_refl _ _) _
    have hB0 : Blk W0 N 25 [.string s, iV cl, iV sq, .slice a1 n1 c1, .bool g, .slice a2 n2 c2, .slice ay ny cy] := by rw [hW0, hN]; exact Blk.new _ _ _
    have HGa := Lib.hid (And.intro hG0 hB0); clear hG0 hB0
    go_enter Try.func22, Try.ntmps22
    go_wp2_with fail
    rw [← hW0, ← hN]
    clear hW0 hN
    refine (HS.out W0 HGa.out.1).mono ?_
    rintro e w1 ⟨rfl, hg⟩
    have HG0 := Lib.hid (And.intro (gb_trans HGa.out.1 hg) (HGa.out.2.grown hg (by simp))); clear hg HGa
    go_wp2_with fail
    refine Fg.region_t [] [.any, .any, .any, Fg.It.by [[1], rowL (strL s), encN cl, encN sq, encN (n1 : Int)].flatten, .any, .any, .any, .any, .any, Fg.It.by [1], .val (Value.pointer (some ⟨N, 0, none⟩)), .val (Value.string s), Fg.It.by (strL s), Fg.It.by (rowL (strL s)), .val (Value.pointer (some ⟨N, 1, none⟩)), .val (Value.int .i64 cl), Fg.It.by (encN cl), .val (Value.pointer (some ⟨N, 2, none⟩)), .val (Value.int .i64 sq), Fg.It.by (encN sq), .val (Value.pointer (some ⟨N, 3, none⟩)), .val (Value.slice a1 n1 c1), .val (Value.int .i64 n1), Fg.It.by (encN (n1 : Int)), Fg.It.rws [[1], rowL (strL s), encN cl, encN sq, encN (n1 : Int)], Fg.It.by [[1], rowL (strL s), encN cl, encN sq, encN (n1 : Int)].flatten] w1 18 (gb_refl _ _) (by kernel_rfl) (by kernel_rfl) (by kernel_rfl) (by kernel_rfl) (by decide) (by kernel_rfl) ?_ ?_
    · refine ⟨Fg.vT rfl (by decide) fun ac w h => ?_, ?_⟩
      · refine ⟨.slice (some ⟨w.heap.size, 0, none⟩) 1 1, w.alloc (.cells #[.int .u8 1] 5), wants_none rfl, ?_, gb_alloc (gb_refl _ _) _, ⟨_, 1, _, rfl, bytes_box [1] (fun i => by rcases i with _ | i <;> simp) (by decide)⟩⟩
        clear h
        simp only [execOp, Act.eval, List.map_toArray, List.map_cons, List.map_nil]
        go_simp
      refine ⟨Fg.vT rfl (by decide) fun ac w h => ?_, ?_⟩
      · have e1 : ac.tmps.getD 1 undef = Value.pointer (some ⟨N, 0, none⟩) := h.rest 1 (by kernel_rfl)
        refine ⟨Value.pointer (some ⟨N, 0, none⟩), w, wants_none rfl, ?_, gb_refl _ _, rfl⟩
        clear h
        simp only [execOp, Act.eval, e1]
        go_simp
      refine ⟨Fg.vT rfl (by decide) fun ac w h => ?_, ?_⟩
      · have e10 : ac.tmps.getD 10 undef = Value.pointer (some ⟨N, 0, none⟩) := h.dep 10 (by kernel_rfl)
        have c := (HG0.out.2.grown h.base (by simp)).cell (i := 0) rfl
        refine ⟨Value.string s, w, wants_none rfl, ?_, gb_refl _ _, rfl⟩
        clear h
        simp only [execOp, Act.eval, e10]
        go_simp
      refine ⟨Fg.vT rfl (by decide) fun ac w h => ?_, ?_⟩
      · have e11 : ac.tmps.getD 11 undef = Value.string s := h.dep 11 (by kernel_rfl)
        obtain ⟨c11, w11, hr11, hg11, hb11⟩ := str_bytes s w (by have := HK.out; omega)
        refine ⟨.slice (some ⟨w.heap.size, 0, none⟩) s.size c11, w11, wants_none rfl, ?_, hg11, ⟨_, _, _, by rw [strL_len], hb11⟩⟩
        clear h hb11 hg11
        simp only [execOp, Act.eval, e11]
        simp [hr11, Result.andThen]
      refine ⟨Fg.cT rfl (by decide) fun ac w h => ?_, ?_⟩
      · obtain ⟨a12, k12, B12, e12, b12⟩ : ∃ xa xc xB, ac.tmps.getD 12 undef = .slice xa (strL s).length xc ∧ BytesAt w xB xa xc (strL s) := h.dep 12 (by kernel_rfl)
        refine ⟨41, #[Value.slice a12 (strL s).length k12], wants_none rfl, Fg.run_call rfl rfl (by simp only [List.map_toArray, List.map_cons, List.map_nil, Act.eval, e12]) (Fg.run_enter Try.func41 (by kernel_rfl) (by kernel_rfl)), ?_⟩
        exact (refBytes_out _ (strL s) a12 k12 B12 w rfl b12 (by rw [strL_len]; have := HK.out; omega)).mono fun _ _ ⟨_, _, he, hg, hb⟩ => ⟨_, he, hg, _, _, _, rfl, hb⟩
      refine ⟨Fg.vT rfl (by decide) fun ac w h => ?_, ?_⟩
      · have e1 : ac.tmps.getD 1 undef = Value.pointer (some ⟨N, 0, none⟩) := h.rest 1 (by kernel_rfl)
        refine ⟨Value.pointer (some ⟨N, 1, none⟩), w, wants_none rfl, ?_, gb_refl _ _, rfl⟩
        clear h
        simp only [execOp, Act.eval, e1]
        go_simp
      refine ⟨Fg.vT rfl (by decide) fun ac w h => ?_, ?_⟩
      · have e14 : ac.tmps.getD 14 undef = Value.pointer (some ⟨N, 1, none⟩) := h.dep 14 (by kernel_rfl)
        have c := (HG0.out.2.grown h.base (by simp)).cell (i := 1) rfl
        refine ⟨Value.int .i64 cl, w, wants_none rfl, ?_, gb_refl _ _, rfl⟩
        clear h
        simp only [execOp, Act.eval, e14]
        go_simp
      refine ⟨Fg.cT rfl (by decide) fun ac w h => ?_, ?_⟩
      · have e15 : ac.tmps.getD 15 undef = Value.int .i64 cl := h.dep 15 (by kernel_rfl)
        refine ⟨42, #[Value.int .i64 cl], wants_none rfl, Fg.run_call rfl rfl (by simp only [List.map_toArray, List.map_cons, List.map_nil, Act.eval, e15]) (Fg.run_enter Try.func42 (by kernel_rfl) (by kernel_rfl)), ?_⟩
        exact (refNumber_out cl w).mono fun _ _ ⟨_, _, he, hg, hb⟩ => ⟨_, he, hg, _, _, _, rfl, hb⟩
      refine ⟨Fg.vT rfl (by decide) fun ac w h => ?_, ?_⟩
      · have e1 : ac.tmps.getD 1 undef = Value.pointer (some ⟨N, 0, none⟩) := h.rest 1 (by kernel_rfl)
        refine ⟨Value.pointer (some ⟨N, 2, none⟩), w, wants_none rfl, ?_, gb_refl _ _, rfl⟩
        clear h
        simp only [execOp, Act.eval, e1]
        go_simp
      refine ⟨Fg.vT rfl (by decide) fun ac w h => ?_, ?_⟩
      · have e17 : ac.tmps.getD 17 undef = Value.pointer (some ⟨N, 2, none⟩) := h.dep 17 (by kernel_rfl)
        have c := (HG0.out.2.grown h.base (by simp)).cell (i := 2) rfl
        refine ⟨Value.int .i64 sq, w, wants_none rfl, ?_, gb_refl _ _, rfl⟩
        clear h
        simp only [execOp, Act.eval, e17]
        go_simp
      refine ⟨Fg.cT rfl (by decide) fun ac w h => ?_, ?_⟩
      · have e18 : ac.tmps.getD 18 undef = Value.int .i64 sq := h.dep 18 (by kernel_rfl)
        refine ⟨42, #[Value.int .i64 sq], wants_none rfl, Fg.run_call rfl rfl (by simp only [List.map_toArray, List.map_cons, List.map_nil, Act.eval, e18]) (Fg.run_enter Try.func42 (by kernel_rfl) (by kernel_rfl)), ?_⟩
        exact (refNumber_out sq w).mono fun _ _ ⟨_, _, he, hg, hb⟩ => ⟨_, he, hg, _, _, _, rfl, hb⟩
      refine ⟨Fg.vT rfl (by decide) fun ac w h => ?_, ?_⟩
      · have e1 : ac.tmps.getD 1 undef = Value.pointer (some ⟨N, 0, none⟩) := h.rest 1 (by kernel_rfl)
        refine ⟨Value.pointer (some ⟨N, 3, none⟩), w, wants_none rfl, ?_, gb_refl _ _, rfl⟩
        clear h
        simp only [execOp, Act.eval, e1]
        go_simp
      refine ⟨Fg.vT rfl (by decide) fun ac w h => ?_, ?_⟩
      · have e20 : ac.tmps.getD 20 undef = Value.pointer (some ⟨N, 3, none⟩) := h.dep 20 (by kernel_rfl)
        have c := (HG0.out.2.grown h.base (by simp)).cell (i := 3) rfl
        refine ⟨Value.slice a1 n1 c1, w, wants_none rfl, ?_, gb_refl _ _, rfl⟩
        clear h
        simp only [execOp, Act.eval, e20]
        go_simp
      refine ⟨Fg.vT rfl (by decide) fun ac w h => ?_, ?_⟩
      · have e21 : ac.tmps.getD 21 undef = Value.slice a1 n1 c1 := h.dep 21 (by kernel_rfl)
        have x21 : ac.tmps[21]?.getD undef = Value.slice a1 n1 c1 := by simpa using e21
        refine ⟨.int .i64 n1, w, wants_none rfl, ?_, gb_refl _ _, rfl⟩
        clear h e21
        go_simp
      refine ⟨Fg.cT rfl (by decide) fun ac w h => ?_, ?_⟩
      · have e22 : ac.tmps.getD 22 undef = Value.int .i64 n1 := h.dep 22 (by kernel_rfl)
        refine ⟨42, #[Value.int .i64 n1], wants_none rfl, Fg.run_call rfl rfl (by simp only [List.map_toArray, List.map_cons, List.map_nil, Act.eval, e22]) (Fg.run_enter Try.func42 (by kernel_rfl) (by kernel_rfl)), ?_⟩
        exact (refNumber_out (n1 : Int) w).mono fun _ _ ⟨_, _, he, hg, hb⟩ => ⟨_, he, hg, _, _, _, rfl, hb⟩
      refine ⟨Fg.vT rfl (by decide) fun ac w h => ?_, ?_⟩
      · obtain ⟨a9, k9, B9, e9, b9⟩ : ∃ xa xc xB, ac.tmps.getD 9 undef = .slice xa [1].length xc ∧ BytesAt w xB xa xc [1] := h.dep 9 (by kernel_rfl)
        obtain ⟨a13, k13, B13, e13, b13⟩ : ∃ xa xc xB, ac.tmps.getD 13 undef = .slice xa (rowL (strL s)).length xc ∧ BytesAt w xB xa xc (rowL (strL s)) := h.dep 13 (by kernel_rfl)
        obtain ⟨a16, k16, B16, e16, b16⟩ : ∃ xa xc xB, ac.tmps.getD 16 undef = .slice xa (encN cl).length xc ∧ BytesAt w xB xa xc (encN cl) := h.dep 16 (by kernel_rfl)
        obtain ⟨a19, k19, B19, e19, b19⟩ : ∃ xa xc xB, ac.tmps.getD 19 undef = .slice xa (encN sq).length xc ∧ BytesAt w xB xa xc (encN sq) := h.dep 19 (by kernel_rfl)
        obtain ⟨a23, k23, B23, e23, b23⟩ : ∃ xa xc xB, ac.tmps.getD 23 undef = .slice xa (encN (n1 : Int)).length xc ∧ BytesAt w xB xa xc (encN (n1 : Int)) := h.dep 23 (by kernel_rfl)
        refine ⟨.slice (some ⟨w.heap.size, 0, none⟩) 5 5, w.alloc (.cells #[.slice a9 [1].length k9, .slice a13 (rowL (strL s)).length k13, .slice a16 (encN cl).length k16, .slice a19 (encN sq).length k19, .slice a23 (encN (n1 : Int)).length k23] 22), wants_none rfl, ?_, gb_alloc (gb_refl _ _) _, ⟨_, 5, _, rfl, rows_box _ [(a9, k9, [1]), (a13, k13, rowL (strL s)), (a16, k16, encN cl), (a19, k19, encN sq), (a23, k23, encN (n1 : Int))] (fun p hp => by
            simp only [List.mem_cons, List.not_mem_nil, or_false] at hp
            rcases hp with rfl | rfl | rfl | rfl | rfl
            · exact ⟨_, b9⟩
            · exact ⟨_, b13⟩
            · exact ⟨_, b16⟩
            · exact ⟨_, b19⟩
            · exact ⟨_, b23⟩)⟩⟩
        clear h
        simp only [execOp, Act.eval, e9, e13, e16, e19, e23, List.map_toArray, List.map_cons, List.map_nil]
        go_simp
      refine ⟨Fg.cT rfl (by decide) fun ac w h => ?_, ?_⟩
      · obtain ⟨a24, k24, B24, e24, b24⟩ : ∃ xa xc xB, ac.tmps.getD 24 undef = .slice xa [[1], rowL (strL s), encN cl, encN sq, encN (n1 : Int)].length xc ∧ RowsAt w xB xa [[1], rowL (strL s), encN cl, encN sq, encN (n1 : Int)] := h.dep 24 (by kernel_rfl)
        refine ⟨21, #[Value.slice a24 [[1], rowL (strL s), encN cl, encN sq, encN (n1 : Int)].length k24], wants_none rfl, Fg.run_call rfl rfl (by simp only [List.map_toArray, List.map_cons, List.map_nil, Act.eval, e24]) (Fg.run_enter Try.func21 (by kernel_rfl) (by kernel_rfl)), ?_⟩
        exact (refJoin_out 5 [[1], rowL (strL s), encN cl, encN sq, encN (n1 : Int)] a24 k24 B24 w rfl b24 (by simp) HT.out.1 HT.out.2.1).mono fun _ _ ⟨_, _, he, hg, hb⟩ => ⟨_, he, hg, _, _, _, rfl, hb⟩
      refine ⟨Fg.vT rfl (by decide) fun ac w h => ?_, ?_⟩
      · obtain ⟨a25, k25, B25, e25, b25⟩ : ∃ xa xc xB, ac.tmps.getD 25 undef = .slice xa [[1], rowL (strL s), encN cl, encN sq, encN (n1 : Int)].flatten.length xc ∧ BytesAt w xB xa xc [[1], rowL (strL s), encN cl, encN sq, encN (n1 : Int)].flatten := h.dep 25 (by kernel_rfl)
        exact ⟨_, w, wants_none rfl, Fg.run_assign rfl e25, gb_refl _ _, ⟨_, _, _, rfl, b25⟩⟩
      trivial
    · intro aq wq hB hsz hdf hrest hslots hpt
      obtain ⟨u0, e0⟩ : ∃ u, aq.tmps.getD 0 undef = u := ⟨_, rfl⟩
      obtain ⟨a3, k3, B3, e3, b3⟩ : ∃ xa xc xB, aq.tmps.getD 3 undef = .slice xa [[1], rowL (strL s), encN cl, encN sq, encN (n1 : Int)].flatten.length xc ∧ BytesAt wq xB xa xc [[1], rowL (strL s), encN cl, encN sq, encN (n1 : Int)].flatten := hslots 3 (by kernel_rfl)
      obtain ⟨u4, e4⟩ : ∃ u, aq.tmps.getD 4 undef = u := ⟨_, rfl⟩
      obtain ⟨u5, e5⟩ : ∃ u, aq.tmps.getD 5 undef = u := ⟨_, rfl⟩
      obtain ⟨u6, e6⟩ : ∃ u, aq.tmps.getD 6 undef = u := ⟨_, rfl⟩
      obtain ⟨u7, e7⟩ : ∃ u, aq.tmps.getD 7 undef = u := ⟨_, rfl⟩
      obtain ⟨u8, e8⟩ : ∃ u, aq.tmps.getD 8 undef = u := ⟨_, rfl⟩
      obtain ⟨u9, e9⟩ : ∃ u, aq.tmps.getD 9 undef = u := ⟨_, rfl⟩
      obtain ⟨u10, e10⟩ : ∃ u, aq.tmps.getD 10 undef = u := ⟨_, rfl⟩
      obtain ⟨u11, e11⟩ : ∃ u, aq.tmps.getD 11 undef = u := ⟨_, rfl⟩
      obtain ⟨u12, e12⟩ : ∃ u, aq.tmps.getD 12 undef = u := ⟨_, rfl⟩
      obtain ⟨u13, e13⟩ : ∃ u, aq.tmps.getD 13 undef = u := ⟨_, rfl⟩
      obtain ⟨u14, e14⟩ : ∃ u, aq.tmps.getD 14 undef = u := ⟨_, rfl⟩
      obtain ⟨u15, e15⟩ : ∃ u, aq.tmps.getD 15 undef = u := ⟨_, rfl⟩
      obtain ⟨u16, e16⟩ : ∃ u, aq.tmps.getD 16 undef = u := ⟨_, rfl⟩
      obtain ⟨u17, e17⟩ : ∃ u, aq.tmps.getD 17 undef = u := ⟨_, rfl⟩
      obtain ⟨u18, e18⟩ : ∃ u, aq.tmps.getD 18 undef = u := ⟨_, rfl⟩
      obtain ⟨u19, e19⟩ : ∃ u, aq.tmps.getD 19 undef = u := ⟨_, rfl⟩
      obtain ⟨u20, e20⟩ : ∃ u, aq.tmps.getD 20 undef = u := ⟨_, rfl⟩
      obtain ⟨u21, e21⟩ : ∃ u, aq.tmps.getD 21 undef = u := ⟨_, rfl⟩
      obtain ⟨u22, e22⟩ : ∃ u, aq.tmps.getD 22 undef = u := ⟨_, rfl⟩
      obtain ⟨u23, e23⟩ : ∃ u, aq.tmps.getD 23 undef = u := ⟨_, rfl⟩
      obtain ⟨u24, e24⟩ : ∃ u, aq.tmps.getD 24 undef = u := ⟨_, rfl⟩
      obtain ⟨u25, e25⟩ : ∃ u, aq.tmps.getD 25 undef = u := ⟨_, rfl⟩
      obtain ⟨u26, e26⟩ : ∃ u, aq.tmps.getD 26 undef = u := ⟨_, rfl⟩
      obtain ⟨u27, e27⟩ : ∃ u, aq.tmps.getD 27 undef = u := ⟨_, rfl⟩
      obtain ⟨u28, e28⟩ : ∃ u, aq.tmps.getD 28 undef = u := ⟨_, rfl⟩
      obtain ⟨u29, e29⟩ : ∃ u, aq.tmps.getD 29 undef = u := ⟨_, rfl⟩
      obtain ⟨u30, e30⟩ : ∃ u, aq.tmps.getD 30 undef = u := ⟨_, rfl⟩
      obtain ⟨u31, e31⟩ : ∃ u, aq.tmps.getD 31 undef = u := ⟨_, rfl⟩
      obtain ⟨u32, e32⟩ : ∃ u, aq.tmps.getD 32 undef = u := ⟨_, rfl⟩
      obtain ⟨u33, e33⟩ : ∃ u, aq.tmps.getD 33 undef = u := ⟨_, rfl⟩
      obtain ⟨u34, e34⟩ : ∃ u, aq.tmps.getD 34 undef = u := ⟨_, rfl⟩
      obtain ⟨u35, e35⟩ : ∃ u, aq.tmps.getD 35 undef = u := ⟨_, rfl⟩
      obtain ⟨u36, e36⟩ : ∃ u, aq.tmps.getD 36 undef = u := ⟨_, rfl⟩
      obtain ⟨u37, e37⟩ : ∃ u, aq.tmps.getD 37 undef = u := ⟨_, rfl⟩
      obtain ⟨u38, e38⟩ : ∃ u, aq.tmps.getD 38 undef = u := ⟨_, rfl⟩
      obtain ⟨u39, e39⟩ : ∃ u, aq.tmps.getD 39 undef = u := ⟨_, rfl⟩
      obtain ⟨u40, e40⟩ : ∃ u, aq.tmps.getD 40 undef = u := ⟨_, rfl⟩
      obtain ⟨u41, e41⟩ : ∃ u, aq.tmps.getD 41 undef = u := ⟨_, rfl⟩
      obtain ⟨u42, e42⟩ : ∃ u, aq.tmps.getD 42 undef = u := ⟨_, rfl⟩
      obtain ⟨u43, e43⟩ : ∃ u, aq.tmps.getD 43 undef = u := ⟨_, rfl⟩
      obtain ⟨u44, e44⟩ : ∃ u, aq.tmps.getD 44 undef = u := ⟨_, rfl⟩
      obtain ⟨u45, e45⟩ : ∃ u, aq.tmps.getD 45 undef = u := ⟨_, rfl⟩
      obtain ⟨u46, e46⟩ : ∃ u, aq.tmps.getD 46 undef = u := ⟨_, rfl⟩
      obtain ⟨u47, e47⟩ : ∃ u, aq.tmps.getD 47 undef = u := ⟨_, rfl⟩
      obtain ⟨u48, e48⟩ : ∃ u, aq.tmps.getD 48 undef = u := ⟨_, rfl⟩
      obtain ⟨u49, e49⟩ : ∃ u, aq.tmps.getD 49 undef = u := ⟨_, rfl⟩
      obtain ⟨u50, e50⟩ : ∃ u, aq.tmps.getD 50 undef = u := ⟨_, rfl⟩
      obtain ⟨u51, e51⟩ : ∃ u, aq.tmps.getD 51 undef = u := ⟨_, rfl⟩
      obtain ⟨u52, e52⟩ : ∃ u, aq.tmps.getD 52 undef = u := ⟨_, rfl⟩
      obtain ⟨u53, e53⟩ : ∃ u, aq.tmps.getD 53 undef = u := ⟨_, rfl⟩
      obtain ⟨u54, e54⟩ : ∃ u, aq.tmps.getD 54 undef = u := ⟨_, rfl⟩
      obtain ⟨u55, e55⟩ : ∃ u, aq.tmps.getD 55 undef = u := ⟨_, rfl⟩
      obtain ⟨u56, e56⟩ : ∃ u, aq.tmps.getD 56 undef = u := ⟨_, rfl⟩
      obtain ⟨u57, e57⟩ : ∃ u, aq.tmps.getD 57 undef = u := ⟨_, rfl⟩
      obtain ⟨u58, e58⟩ : ∃ u, aq.tmps.getD 58 undef = u := ⟨_, rfl⟩
      obtain ⟨u59, e59⟩ : ∃ u, aq.tmps.getD 59 undef = u := ⟨_, rfl⟩
      obtain rfl := Fg.frame_is (a := aq) (vs := [u0, Value.pointer (some ⟨N, 0, none⟩), Value.slice none 0 0, Value.slice a3 [[1], rowL (strL s), encN cl, encN sq, encN (n1 : Int)].flatten.length k3, u4, u5, u6, u7, u8, u9, u10, u11, u12, u13, u14, u15, u16, u17, u18, u19, u20, u21, u22, u23, u24, u25, u26, u27, u28, u29, u30, u31, u32, u33, u34, u35, u36, u37, u38, u39, u40, u41, u42, u43, u44, u45, u46, u47, u48, u49, u50, u51, u52, u53, u54, u55, u56, u57, u58, u59]) hsz ⟨e0, hrest 1 (by kernel_rfl), hrest 2 (by kernel_rfl), e3, e4, e5, e6, e7, e8, e9, e10, e11, e12, e13, e14, e15, e16, e17, e18, e19, e20, e21, e22, e23, e24, e25, e26, e27, e28, e29, e30, e31, e32, e33, e34, e35, e36, e37, e38, e39, e40, e41, e42, e43, e44, e45, e46, e47, e48, e49, e50, e51, e52, e53, e54, e55, e56, e57, e58, e59, trivial⟩ hdf
      clear hsz hdf hrest hslots hpt e0 e3 e4 e5 e6 e7 e8 e9 e10 e11 e12 e13 e14 e15 e16 e17 e18 e19 e20 e21 e22 e23 e24 e25 e26 e27 e28 e29 e30 e31 e32 e33 e34 e35 e36 e37 e38 e39 e40 e41 e42 e43 e44 e45 e46 e47 e48 e49 e50 e51 e52 e53 e54 e55 e56 e57 e58 e59
      obtain ⟨A0, hA0⟩ : ∃ A0, A0 = ([[1], rowL (strL s), encN cl, encN sq, encN (n1 : Int)]).flatten := ⟨_, rfl⟩
      rw [← hA0] at b3 HF ⊢
      have HA0 : Hid (A0.length ≤ 200 ∧ ∀ i, A0.getD i 0 < 256) := ⟨by rw [hA0]; exact HT.out.2.2, by rw [hA0]; exact flat_byte HT.out.2.1⟩
      have HG4 := Lib.hid (And.intro (gb_trans HG0.out.1 hB) (And.intro (HG0.out.2.grown hB (by simp)) (b3.up b3.lim (Nat.le_refl _))))
      clear b3 hB hA0 HT
      refine wpList_nil ?_
      go_wp2_with fail
      go_loopw [3, 4] (fun v i wr => ∃ (k : Nat) (aa : Option Addr) (ca m : Nat), k ≤ n1 ∧ i = .int .i64 k ∧ v = .slice aa m ca ∧ m = (A0 ++ dotsL (cx.take k)).length ∧ Hid (w.grownBy wr none ∧ Blk wr N 25 [.string s, iV cl, iV sq, .slice a1 n1 c1, .bool g, .slice a2 n2 c2, .slice ay ny cy] ∧ BytesAt wr wr.heap.size aa ca (A0 ++ dotsL (cx.take k)))) (fun _ i _ => n1 - (intOf i).toNat)
      case atStart => exact ⟨0, _, _, _, by omega, rfl, rfl, by simp [dotsL], HG4.out.1, HG4.out.2.1, by simpa [dotsL] using HG4.out.2.2⟩
      case round =>
        obtain ⟨k, aa, ca, m, hk, rfl, rfl, hm, HI⟩ := hrel
        by_cases hlt : k < n1
        · have i0 : (k : Int) < (n1 : Int) := by omega
          obtain ⟨pb, po, rfl, hpb, hcs⟩ := (HD.out.1.stay HI.out.1).cells.resolve_left (by rw [HD.out.2.1]; omega)
          obtain ⟨z1, z2⟩ := hcs k (by rw [HD.out.2.1]; exact hlt)
          obtain ⟨x, y, hxy⟩ : ∃ x y, cx.getD k z0 = (x, y) := ⟨_, _, rfl⟩
          have hnx := dots_next cx k (by rw [HD.out.2.1]; exact hlt) hxy
          rw [hxy] at z1 z2
          simp only at z1 z2
          have HXY := Lib.hid (And.intro z1 z2); clear z1 z2 hcs hxy
          have hac : (A0 ++ dotsL (cx.take k)).length ≤ 400 ∧ ∀ i, (A0 ++ dotsL (cx.take k)).getD i 0 < 256 := by
            refine ⟨?_, app_byte HA0.out.2 (dotsL_byte _)⟩
            rw [List.length_append, dotsL_len, List.length_take]; have := HA0.out.1; have := HD.out.2.2; omega
          obtain ⟨acc, hacc⟩ : ∃ acc, acc = A0 ++ dotsL (cx.take k) := ⟨_, rfl⟩
          have HNX : Hid ([acc, encN x, encN y].flatten = A0 ++ dotsL (cx.take (k + 1))) := by
            show _ = _
            rw [hnx, hacc]; simp
          rw [← hacc] at hm HI hac
          clear hacc hnx
          subst hm
          have HAC : Hid ([acc, encN x, encN y].flatten.length ≤ 1000000 ∧ ∀ l ∈ [acc, encN x, encN y], ∀ i, l.getD i 0 < 256) := by
            refine ⟨?_, fun l hl => ?_⟩
            · simp only [List.flatten_cons, List.flatten_nil, List.length_append, List.length_nil, encN_length]; omega
            · simp only [List.mem_cons, List.not_mem_nil, or_false] at hl
              rcases hl with rfl | rfl | rfl
              · exact hac.2
              · exact encN_byte _
              · exact encN_byte _
          clear hac
          have HK0 := Lib.hid i0
          have x3 := HI.out.2.1.cell (i := 3) rfl
          go_wp2_with fail
          clear x3
          refine Fg.region_t [] [.any, .any, .any, .any, .any, .any, .any, .any, .any, .any, .any, .any, .any, .any, .any, .any, .any, .any, .any, .any, .any, .any, .any, .any, .any, .any, .any, .any, .any, .any, .any, .any, .any, .val (Value.slice aa acc.length ca), .val (Value.pointer (some ⟨N, 3, none⟩)), .val (Value.slice (some ⟨pb, po, none⟩) n1 c1), .val (Value.int .i64 (k : Int)), .val (Value.pointer (some ⟨pb, po + k * 2, none⟩)), .val (Value.pointer (some ⟨pb, po + k * 2, none⟩)), .val (Value.int .i64 x), Fg.It.by (encN x), .val (Value.pointer (some ⟨N, 3, none⟩)), .val (Value.slice (some ⟨pb, po, none⟩) n1 c1), .val (Value.int .i64 (k : Int)), .val (Value.pointer (some ⟨pb, po + k * 2, none⟩)), .val (Value.pointer (some ⟨pb, po + k * 2 + 1, none⟩)), .val (Value.int .i64 y), Fg.It.by (encN y), Fg.It.rws [acc, encN x, encN y], Fg.It.by [acc, encN x, encN y].flatten] wr 17 (gb_refl _ _) (by kernel_rfl) (by kernel_rfl) (by kernel_rfl) (by kernel_rfl) (by decide) (by kernel_rfl) ?_ ?_
          · refine ⟨Fg.vT rfl (by decide) fun ac w h => ?_, ?_⟩
            · have e3 : ac.tmps.getD 3 undef = Value.slice aa acc.length ca := h.rest 3 (by kernel_rfl)
              exact ⟨_, w, wants_none rfl, Fg.run_move rfl e3, gb_refl _ _, rfl⟩
            refine ⟨Fg.vT rfl (by decide) fun ac w h => ?_, ?_⟩
            · have e1 : ac.tmps.getD 1 undef = Value.pointer (some ⟨N, 0, none⟩) := h.rest 1 (by kernel_rfl)
              refine ⟨Value.pointer (some ⟨N, 3, none⟩), w, wants_none rfl, ?_, gb_refl _ _, rfl⟩
              clear h
              simp only [execOp, Act.eval, e1]
              go_simp
            refine ⟨Fg.vT rfl (by decide) fun ac w h => ?_, ?_⟩
            · have e34 : ac.tmps.getD 34 undef = Value.pointer (some ⟨N, 3, none⟩) := h.dep 34 (by kernel_rfl)
              have c := (HI.out.2.1.grown h.base (by simp)).cell (i := 3) rfl
              refine ⟨Value.slice (some ⟨pb, po, none⟩) n1 c1, w, wants_none rfl, ?_, gb_refl _ _, rfl⟩
              clear h
              simp only [execOp, Act.eval, e34]
              go_simp
            refine ⟨Fg.vT rfl (by decide) fun ac w h => ?_, ?_⟩
            · have e4 : ac.tmps.getD 4 undef = Value.int .i64 (k : Int) := h.rest 4 (by kernel_rfl)
              exact ⟨_, w, wants_none rfl, Fg.run_move rfl e4, gb_refl _ _, rfl⟩
            refine ⟨Fg.vT rfl (by decide) fun ac w h => ?_, ?_⟩
            · have e35 : ac.tmps.getD 35 undef = Value.slice (some ⟨pb, po, none⟩) n1 c1 := h.dep 35 (by kernel_rfl)
              have e36 : ac.tmps.getD 36 undef = Value.int .i64 (k : Int) := h.dep 36 (by kernel_rfl)
              have i0 := HK0.out
              have i1 : (0 : Int) ≤ (k : Int) := by omega
              refine ⟨.pointer (some ⟨pb, po + k * 2, none⟩), w, wants_none rfl, ?_, gb_refl _ _, rfl⟩
              clear h
              simp only [execOp, Act.eval, e35, e36]
              go_simp
            refine ⟨Fg.vT rfl (by decide) fun ac w h => ?_, ?_⟩
            · have e37 : ac.tmps.getD 37 undef = Value.pointer (some ⟨pb, po + k * 2, none⟩) := h.dep 37 (by kernel_rfl)
              refine ⟨Value.pointer (some ⟨pb, po + k * 2, none⟩), w, wants_none rfl, ?_, gb_refl _ _, rfl⟩
              clear h
              simp only [execOp, Act.eval, e37]
              go_simp
            refine ⟨Fg.vT rfl (by decide) fun ac w h => ?_, ?_⟩
            · have e38 : ac.tmps.getD 38 undef = Value.pointer (some ⟨pb, po + k * 2, none⟩) := h.dep 38 (by kernel_rfl)
              have c : w.cell? ⟨pb, po + k * 2, none⟩ = some (iV x) := by rw [gb_cell h.base (block_lt_of_cell HXY.out.1) (by simp)]; exact HXY.out.1
              refine ⟨Value.int .i64 x, w, wants_none rfl, ?_, gb_refl _ _, rfl⟩
              clear h
              simp only [execOp, Act.eval, e38]
              go_simp
            refine ⟨Fg.cT rfl (by decide) fun ac w h => ?_, ?_⟩
            · have e39 : ac.tmps.getD 39 undef = Value.int .i64 x := h.dep 39 (by kernel_rfl)
              refine ⟨42, #[Value.int .i64 x], wants_none rfl, Fg.run_call rfl rfl (by simp only [List.map_toArray, List.map_cons, List.map_nil, Act.eval, e39]) (Fg.run_enter Try.func42 (by kernel_rfl) (by kernel_rfl)), ?_⟩
              exact (refNumber_out x w).mono fun _ _ ⟨_, _, he, hg, hb⟩ => ⟨_, he, hg, _, _, _, rfl, hb⟩
            refine ⟨Fg.vT rfl (by decide) fun ac w h => ?_, ?_⟩
            · have e1 : ac.tmps.getD 1 undef = Value.pointer (some ⟨N, 0, none⟩) := h.rest 1 (by kernel_rfl)
              refine ⟨Value.pointer (some ⟨N, 3, none⟩), w, wants_none rfl, ?_, gb_refl _ _, rfl⟩
              clear h
              simp only [execOp, Act.eval, e1]
              go_simp
            refine ⟨Fg.vT rfl (by decide) fun ac w h => ?_, ?_⟩
            · have e41 : ac.tmps.getD 41 undef = Value.pointer (some ⟨N, 3, none⟩) := h.dep 41 (by kernel_rfl)
              have c := (HI.out.2.1.grown h.base (by simp)).cell (i := 3) rfl
              refine ⟨Value.slice (some ⟨pb, po, none⟩) n1 c1, w, wants_none rfl, ?_, gb_refl _ _, rfl⟩
              clear h
              simp only [execOp, Act.eval, e41]
              go_simp
            refine ⟨Fg.vT rfl (by decide) fun ac w h => ?_, ?_⟩
            · have e4 : ac.tmps.getD 4 undef = Value.int .i64 (k : Int) := h.rest 4 (by kernel_rfl)
              exact ⟨_, w, wants_none rfl, Fg.run_move rfl e4, gb_refl _ _, rfl⟩
            refine ⟨Fg.vT rfl (by decide) fun ac w h => ?_, ?_⟩
            · have e42 : ac.tmps.getD 42 undef = Value.slice (some ⟨pb, po, none⟩) n1 c1 := h.dep 42 (by kernel_rfl)
              have e43 : ac.tmps.getD 43 undef = Value.int .i64 (k : Int) := h.dep 43 (by kernel_rfl)
              have i0 := HK0.out
              have i1 : (0 : Int) ≤ (k : Int) := by omega
              refine ⟨.pointer (some ⟨pb, po + k * 2, none⟩), w, wants_none rfl, ?_, gb_refl _ _, rfl⟩
              clear h
              simp only [execOp, Act.eval, e42, e43]
              go_simp
            refine ⟨Fg.vT rfl (by decide) fun ac w h => ?_, ?_⟩
            · have e44 : ac.tmps.getD 44 undef = Value.pointer (some ⟨pb, po + k * 2, none⟩) := h.dep 44 (by kernel_rfl)
              refine ⟨Value.pointer (some ⟨pb, po + k * 2 + 1, none⟩), w, wants_none rfl, ?_, gb_refl _ _, rfl⟩
              clear h
              simp only [execOp, Act.eval, e44]
              go_simp
            refine ⟨Fg.vT rfl (by decide) fun ac w h => ?_, ?_⟩
            · have e45 : ac.tmps.getD 45 undef = Value.pointer (some ⟨pb, po + k * 2 + 1, none⟩) := h.dep 45 (by kernel_rfl)
              have c : w.cell? ⟨pb, po + k * 2 + 1, none⟩ = some (iV y) := by rw [gb_cell h.base (block_lt_of_cell HXY.out.2) (by simp)]; exact HXY.out.2
              refine ⟨Value.int .i64 y, w, wants_none rfl, ?_, gb_refl _ _, rfl⟩
              clear h
              simp only [execOp, Act.eval, e45]
              go_simp
            refine ⟨Fg.cT rfl (by decide) fun ac w h => ?_, ?_⟩
            · have e46 : ac.tmps.getD 46 undef = Value.int .i64 y := h.dep 46 (by kernel_rfl)
              refine ⟨42, #[Value.int .i64 y], wants_none rfl, Fg.run_call rfl rfl (by simp only [List.map_toArray, List.map_cons, List.map_nil, Act.eval, e46]) (Fg.run_enter Try.func42 (by kernel_rfl) (by kernel_rfl)), ?_⟩
              exact (refNumber_out y w).mono fun _ _ ⟨_, _, he, hg, hb⟩ => ⟨_, he, hg, _, _, _, rfl, hb⟩
            refine ⟨Fg.vT rfl (by decide) fun ac w h => ?_, ?_⟩
            · have e33 : ac.tmps.getD 33 undef = Value.slice aa acc.length ca := h.dep 33 (by kernel_rfl)
              obtain ⟨a40, k40, B40, e40, b40⟩ : ∃ xa xc xB, ac.tmps.getD 40 undef = .slice xa (encN x).length xc ∧ BytesAt w xB xa xc (encN x) := h.dep 40 (by kernel_rfl)
              obtain ⟨a47, k47, B47, e47, b47⟩ : ∃ xa xc xB, ac.tmps.getD 47 undef = .slice xa (encN y).length xc ∧ BytesAt w xB xa xc (encN y) := h.dep 47 (by kernel_rfl)
              have b3 := HI.out.2.2.stay h.base
              refine ⟨.slice (some ⟨w.heap.size, 0, none⟩) 3 3, w.alloc (.cells #[.slice aa acc.length ca, .slice a40 (encN x).length k40, .slice a47 (encN y).length k47] 22), wants_none rfl, ?_, gb_alloc (gb_refl _ _) _, ⟨_, 3, _, rfl, rows_box _ [(aa, ca, acc), (a40, k40, encN x), (a47, k47, encN y)] (fun p hp => by
                  simp only [List.mem_cons, List.not_mem_nil, or_false] at hp
                  rcases hp with rfl | rfl | rfl
                  · exact ⟨_, b3⟩
                  · exact ⟨_, b40⟩
                  · exact ⟨_, b47⟩)⟩⟩
              clear h
              simp only [execOp, Act.eval, e33, e40, e47, List.map_toArray, List.map_cons, List.map_nil]
              go_simp
            refine ⟨Fg.cT rfl (by decide) fun ac w h => ?_, ?_⟩
            · obtain ⟨a48, k48, B48, e48, b48⟩ : ∃ xa xc xB, ac.tmps.getD 48 undef = .slice xa [acc, encN x, encN y].length xc ∧ RowsAt w xB xa [acc, encN x, encN y] := h.dep 48 (by kernel_rfl)
              refine ⟨21, #[Value.slice a48 [acc, encN x, encN y].length k48], wants_none rfl, Fg.run_call rfl rfl (by simp only [List.map_toArray, List.map_cons, List.map_nil, Act.eval, e48]) (Fg.run_enter Try.func21 (by kernel_rfl) (by kernel_rfl)), ?_⟩
              exact (refJoin_out 3 [acc, encN x, encN y] a48 k48 B48 w rfl b48 (by simp) HAC.out.1 HAC.out.2).mono fun _ _ ⟨_, _, he, hg, hb⟩ => ⟨_, he, hg, _, _, _, rfl, hb⟩
            trivial
          · intro aq wq hB hsz hdf hrest hslots hpt
            obtain ⟨u26, e26⟩ : ∃ u, aq.tmps.getD 26 undef = u := ⟨_, rfl⟩
            obtain ⟨u27, e27⟩ : ∃ u, aq.tmps.getD 27 undef = u := ⟨_, rfl⟩
            obtain ⟨u28, e28⟩ : ∃ u, aq.tmps.getD 28 undef = u := ⟨_, rfl⟩
            obtain ⟨u29, e29⟩ : ∃ u, aq.tmps.getD 29 undef = u := ⟨_, rfl⟩
            obtain ⟨u30, e30⟩ : ∃ u, aq.tmps.getD 30 undef = u := ⟨_, rfl⟩
            obtain ⟨u31, e31⟩ : ∃ u, aq.tmps.getD 31 undef = u := ⟨_, rfl⟩
            obtain ⟨u32, e32⟩ : ∃ u, aq.tmps.getD 32 undef = u := ⟨_, rfl⟩
            obtain ⟨u33, e33⟩ : ∃ u, aq.tmps.getD 33 undef = u := ⟨_, rfl⟩
            obtain ⟨u34, e34⟩ : ∃ u, aq.tmps.getD 34 undef = u := ⟨_, rfl⟩
            obtain ⟨u35, e35⟩ : ∃ u, aq.tmps.getD 35 undef = u := ⟨_, rfl⟩
            obtain ⟨u36, e36⟩ : ∃ u, aq.tmps.getD 36 undef = u := ⟨_, rfl⟩
            obtain ⟨u37, e37⟩ : ∃ u, aq.tmps.getD 37 undef = u := ⟨_, rfl⟩
            obtain ⟨u38, e38⟩ : ∃ u, aq.tmps.getD 38 undef = u := ⟨_, rfl⟩
            obtain ⟨u39, e39⟩ : ∃ u, aq.tmps.getD 39 undef = u := ⟨_, rfl⟩
            obtain ⟨u40, e40⟩ : ∃ u, aq.tmps.getD 40 undef = u := ⟨_, rfl⟩
            obtain ⟨u41, e41⟩ : ∃ u, aq.tmps.getD 41 undef = u := ⟨_, rfl⟩
            obtain ⟨u42, e42⟩ : ∃ u, aq.tmps.getD 42 undef = u := ⟨_, rfl⟩
            obtain ⟨u43, e43⟩ : ∃ u, aq.tmps.getD 43 undef = u := ⟨_, rfl⟩
            obtain ⟨u44, e44⟩ : ∃ u, aq.tmps.getD 44 undef = u := ⟨_, rfl⟩
            obtain ⟨u45, e45⟩ : ∃ u, aq.tmps.getD 45 undef = u := ⟨_, rfl⟩
            obtain ⟨u46, e46⟩ : ∃ u, aq.tmps.getD 46 undef = u := ⟨_, rfl⟩
            obtain ⟨u47, e47⟩ : ∃ u, aq.tmps.getD 47 undef = u := ⟨_, rfl⟩
            obtain ⟨u48, e48⟩ : ∃ u, aq.tmps.getD 48 undef = u := ⟨_, rfl⟩
            obtain ⟨a49, k49, B49, e49, b49⟩ : ∃ xa xc xB, aq.tmps.getD 49 undef = .slice xa [acc, encN x, encN y].flatten.length xc ∧ BytesAt wq xB xa xc [acc, encN x, encN y].flatten := hslots 49 (by kernel_rfl)
            obtain rfl := Fg.frame_is (a := aq) (vs := [u0, Value.pointer (some ⟨N, 0, none⟩), Value.slice none 0 0, Value.slice aa acc.length ca, Value.int .i64 (k : Int), u5, u6, u7, u8, u9, u10, u11, u12, u13, u14, u15, u16, u17, u18, u19, u20, u21, u22, u23, u24, u25, u26, u27, u28, u29, u30, u31, u32, u33, u34, u35, u36, u37, u38, u39, u40, u41, u42, u43, u44, u45, u46, u47, u48, Value.slice a49 [acc, encN x, encN y].flatten.length k49, u50, u51, u52, u53, u54, u55, u56, u57, u58, u59]) hsz ⟨hrest 0 (by kernel_rfl), hrest 1 (by kernel_rfl), hrest 2 (by kernel_rfl), hrest 3 (by kernel_rfl), hrest 4 (by kernel_rfl), hrest 5 (by kernel_rfl), hrest 6 (by kernel_rfl), hrest 7 (by kernel_rfl), hrest 8 (by kernel_rfl), hrest 9 (by kernel_rfl), hrest 10 (by kernel_rfl), hrest 11 (by kernel_rfl), hrest 12 (by kernel_rfl), hrest 13 (by kernel_rfl), hrest 14 (by kernel_rfl), hrest 15 (by kernel_rfl), hrest 16 (by kernel_rfl), hrest 17 (by kernel_rfl), hrest 18 (by kernel_rfl), hrest 19 (by kernel_rfl), hrest 20 (by kernel_rfl), hrest 21 (by kernel_rfl), hrest 22 (by kernel_rfl), hrest 23 (by kernel_rfl), hrest 24 (by kernel_rfl), hrest 25 (by kernel_rfl), e26, e27, e28, e29, e30, e31, e32, e33, e34, e35, e36, e37, e38, e39, e40, e41, e42, e43, e44, e45, e46, e47, e48, e49, hrest 50 (by kernel_rfl), hrest 51 (by kernel_rfl), hrest 52 (by kernel_rfl), hrest 53 (by kernel_rfl), hrest 54 (by kernel_rfl), hrest 55 (by kernel_rfl), hrest 56 (by kernel_rfl), hrest 57 (by kernel_rfl), hrest 58 (by kernel_rfl), hrest 59 (by kernel_rfl), trivial⟩ hdf
            clear hsz hdf hrest hslots hpt e26 e27 e28 e29 e30 e31 e32 e33 e34 e35 e36 e37 e38 e39 e40 e41 e42 e43 e44 e45 e46 e47 e48 e49
            have HN := Lib.hid (And.intro (gb_trans HI.out.1 hB) (And.intro (HI.out.2.1.grown hB (by simp)) (b49.up b49.lim (Nat.le_refl _))))
            have n8 := HD.out.2.2
            clear b49 hB HI
            refine Fg.wpl_value (v := Value.slice a49 [acc, encN x, encN y].flatten.length k49) (w' := wq) rfl (Fg.run_assign rfl rfl) ?_
            refine wpList_nil ?_
            simp only [Act.put, List.setIfInBounds_toArray, List.set_cons_succ, List.set_cons_zero]
            go_wp2
            go_roundw
            case rel => exact ⟨k + 1, _, _, _, by omega, by go_num, rfl, congrArg List.length HNX.out, by have h := HN.out; rw [HNX.out] at h; exact h⟩
            case measure => simp [intOf]; omega
        · obtain rfl : k = n1 := by omega
          have hall : cx.take k = cx := List.take_of_length_le (by rw [HD.out.2.1]; omega)
          rw [hall] at hm HI
          obtain ⟨acc, hacc⟩ : ∃ acc, acc = A0 ++ dotsL cx := ⟨_, rfl⟩
          have hac : acc.length ≤ 400 ∧ ∀ i, acc.getD i 0 < 256 := by
            rw [hacc]
            refine ⟨?_, app_byte HA0.out.2 (dotsL_byte _)⟩
            rw [List.length_append, dotsL_len]; have := HA0.out.1; have := HD.out.2; omega
          rw [← hacc] at hm HI HF
          subst hm
          have HAC := Lib.hid hac
          clear hac hacc hall
          have x3 := HI.out.2.1.cell (i := 3) rfl
          have x4 := HI.out.2.1.cell (i := 4) rfl
          cases hgl : g with
          | false =>
            rw [hgl] at x4
            have HA3 : Hid ([acc, [goneN false], rowL val].flatten.length ≤ 1000000 ∧ ∀ l ∈ [acc, [goneN false], rowL val], ∀ i, l.getD i 0 < 256) := by
              refine ⟨?_, fun l hl => ?_⟩
              · simp only [List.flatten_cons, List.flatten_nil, List.length_append, List.length_nil, List.length_cons, rowL_len]; have := HAC.out; have := HV.out; omega
              · simp only [List.mem_cons, List.not_mem_nil, or_false] at hl
                rcases hl with rfl | rfl | rfl
                · exact HAC.out.2
                · intro i; rcases i with _ | i <;> simp [goneN]
                · exact rowL_byte (HV.out.1.byte)
            obtain ⟨wl, hwl⟩ : ∃ wl, wl = (wr.alloc (.cells #[.int .u8 0] 5)) := ⟨_, rfl⟩
            have hgl2 : wr.grownBy wl none := by rw [hwl]; exact gb_alloc (gb_refl _ _) _
            have hbx : BytesAt wl (wr.heap.size + 1) (some ⟨wr.heap.size, 0, none⟩) 1 [goneN false] := by rw [hwl]; exact bytes_box [goneN false] (fun i => by rcases i with _ | i <;> simp [goneN]) (by decide)
            have x5 : wl.cell? ⟨N, 5, none⟩ = some (.slice a2 n2 c2) := (HI.out.2.1.grown hgl2 (by simp)).cell (i := 5) rfl
            have HL := Lib.hid (And.intro hgl2 hbx)
            have hsz : ∃ sz, sz = wr.heap.size := ⟨_, rfl⟩
            obtain ⟨sz, hsz⟩ := hsz
            clear hgl2 hbx
            have h1 : wr.alloc (.cells #[.int .u8 0] 5) = wl := hwl.symm
            have HWL := Lib.hid hwl; clear hwl
            go_wp2_with (first | rw [h1])
            have hRB : Calls Try.prog 41 #[.slice a2 n2 c2] wl (YOut wl (rowL val)) := refBytes_out n2 val a2 c2 B wl HV.out.2.1 ((HV.out.1.stay HI.out.1).stay HL.out.1) (by have := HV.out.2.2; omega)
            obtain ⟨rv, hrv⟩ : ∃ rv, rv = rowL val := ⟨_, rfl⟩
            rw [← hrv] at hRB HA3
            have HF5 := HF.out false hgl.symm
            rw [← hrv] at HF5
            have HF6 := Lib.hid HF5; clear HF5 HF
            refine hRB.mono ?_
            rintro e w3 ⟨ab, cb, rfl, hg3, hb3⟩
            have HL3 := Lib.hid (And.intro (gb_trans HL.out.1 hg3) (And.intro (HL.out.2.stay hg3) hb3))
            clear h1 x5 x3 x4 hg3 hb3 HL hRB hrv
            obtain ⟨w4, hw4⟩ : ∃ w4, w4 = w3.alloc (.cells #[.slice aa acc.length ca, .slice (some ⟨wr.heap.size, 0, none⟩) 1 1, .slice ab rv.length cb] 22) := ⟨_, rfl⟩
            have HL4 : Hid (wr.grownBy w4 none ∧ RowsAt w4 (w3.heap.size + 1) (some ⟨w3.heap.size, 0, none⟩) [acc, [goneN false], rv]) := by
              rw [hw4]
              refine ⟨gb_trans HL3.out.1 (gb_alloc (gb_refl _ _) _), rows_box _ [(aa, ca, acc), (some ⟨wr.heap.size, 0, none⟩, 1, [goneN false]), (ab, cb, rv)] (fun p hp => ?_)⟩
              simp only [List.mem_cons, List.not_mem_nil, or_false] at hp
              rcases hp with rfl | rfl | rfl
              · exact ⟨_, HI.out.2.2.stay HL3.out.1⟩
              · exact ⟨_, HL3.out.2.1⟩
              · exact ⟨_, HL3.out.2.2⟩
            have h4 := hw4.symm
            have HW4 := Lib.hid hw4; clear hw4
            go_wp2_with (first | rw [h4])
            refine (refJoin_out 3 [acc, [goneN false], rv] _ 3 (w3.heap.size + 1) w4 rfl HL4.out.2 (by simp) HA3.out.1 HA3.out.2).mono ?_
            rintro e w5 ⟨ad, cd, rfl, hg5, hb5⟩
            have HF5 := HF6.out
            rw [HF5] at hb5
            have HE := Lib.hid (And.intro (gb_trans (gb_trans HI.out.1 HL4.out.1) hg5) hb5)
            clear hg5 hb5 h4
            go_wp2
            have hq := HQ.out; rw [hgl] at hq
            rw [hq]
            rw [hgl] at HE; exact ⟨_, _, rfl, HE.out.1, HE.out.2⟩
            
          | true =>
            rw [hgl] at x4
            have HA3 : Hid ([acc, [goneN true], rowL val].flatten.length ≤ 1000000 ∧ ∀ l ∈ [acc, [goneN true], rowL val], ∀ i, l.getD i 0 < 256) := by
              refine ⟨?_, fun l hl => ?_⟩
              · simp only [List.flatten_cons, List.flatten_nil, List.length_append, List.length_nil, List.length_cons, rowL_len]; have := HAC.out; have := HV.out; omega
              · simp only [List.mem_cons, List.not_mem_nil, or_false] at hl
                rcases hl with rfl | rfl | rfl
                · exact HAC.out.2
                · intro i; rcases i with _ | i <;> simp [goneN]
                · exact rowL_byte (HV.out.1.byte)
            obtain ⟨wl, hwl⟩ : ∃ wl, wl = (wr.alloc (.cells #[.int .u8 1] 5)) := ⟨_, rfl⟩
            have hgl2 : wr.grownBy wl none := by rw [hwl]; exact gb_alloc (gb_refl _ _) _
            have hbx : BytesAt wl (wr.heap.size + 1) (some ⟨wr.heap.size, 0, none⟩) 1 [goneN true] := by rw [hwl]; exact bytes_box [goneN true] (fun i => by rcases i with _ | i <;> simp [goneN]) (by decide)
            have x5 : wl.cell? ⟨N, 5, none⟩ = some (.slice a2 n2 c2) := (HI.out.2.1.grown hgl2 (by simp)).cell (i := 5) rfl
            have HL := Lib.hid (And.intro hgl2 hbx)
            have hsz : ∃ sz, sz = wr.heap.size := ⟨_, rfl⟩
            obtain ⟨sz, hsz⟩ := hsz
            clear hgl2 hbx
            have h1 : wr.alloc (.cells #[.int .u8 1] 5) = wl := hwl.symm
            have HWL := Lib.hid hwl; clear hwl
            go_wp2_with (first | rw [h1])
            have hRB : Calls Try.prog 41 #[.slice a2 n2 c2] wl (YOut wl (rowL val)) := refBytes_out n2 val a2 c2 B wl HV.out.2.1 ((HV.out.1.stay HI.out.1).stay HL.out.1) (by have := HV.out.2.2; omega)
            obtain ⟨rv, hrv⟩ : ∃ rv, rv = rowL val := ⟨_, rfl⟩
            rw [← hrv] at hRB HA3
            have HF5 := HF.out true hgl.symm
            rw [← hrv] at HF5
            have HF6 := Lib.hid HF5; clear HF5 HF
            refine hRB.mono ?_
            rintro e w3 ⟨ab, cb, rfl, hg3, hb3⟩
            have HL3 := Lib.hid (And.intro (gb_trans HL.out.1 hg3) (And.intro (HL.out.2.stay hg3) hb3))
            clear h1 x5 x3 x4 hg3 hb3 HL hRB hrv
            obtain ⟨w4, hw4⟩ : ∃ w4, w4 = w3.alloc (.cells #[.slice aa acc.length ca, .slice (some ⟨wr.heap.size, 0, none⟩) 1 1, .slice ab rv.length cb] 22) := ⟨_, rfl⟩
            have HL4 : Hid (wr.grownBy w4 none ∧ RowsAt w4 (w3.heap.size + 1) (some ⟨w3.heap.size, 0, none⟩) [acc, [goneN true], rv]) := by
              rw [hw4]
              refine ⟨gb_trans HL3.out.1 (gb_alloc (gb_refl _ _) _), rows_box _ [(aa, ca, acc), (some ⟨wr.heap.size, 0, none⟩, 1, [goneN true]), (ab, cb, rv)] (fun p hp => ?_)⟩
              simp only [List.mem_cons, List.not_mem_nil, or_false] at hp
              rcases hp with rfl | rfl | rfl
              · exact ⟨_, HI.out.2.2.stay HL3.out.1⟩
              · exact ⟨_, HL3.out.2.1⟩
              · exact ⟨_, HL3.out.2.2⟩
            have h4 := hw4.symm
            have HW4 := Lib.hid hw4; clear hw4
            go_wp2_with (first | rw [h4])
            refine (refJoin_out 3 [acc, [goneN true], rv] _ 3 (w3.heap.size + 1) w4 rfl HL4.out.2 (by simp) HA3.out.1 HA3.out.2).mono ?_
            rintro e w5 ⟨ad, cd, rfl, hg5, hb5⟩
            have HF5 := HF6.out
            rw [HF5] at hb5
            have HE := Lib.hid (And.intro (gb_trans (gb_trans HI.out.1 HL4.out.1) hg5) hb5)
            clear hg5 hb5 h4
            go_wp2
            have hq := HQ.out; rw [hgl] at hq
            rw [hq]
            rw [hgl] at HE; exact ⟨_, _, rfl, HE.out.1, HE.out.2⟩
            
end Rc
end Go.Proofs.Ytohcoihdijemfaa

/- record.readDot: the next dot. -/
namespace Go.Proofs.Ytohcoihdijemfaa
open Go.RowKit Ow Wi Ve
namespace Rc
theorem info_dotS : (Try.prog.info? 43).map (·.size) = some 2 := by kernel_rfl
theorem info_recS : (Try.prog.info? 25).map (·.size) = some 7 := by kernel_rfl
set_option maxHeartbeats 400000 in
theorem readDot_any (rb : Nat) (st : St) (w : World) (h : RdS w rb st) :
    Calls Try.prog 47 #[.pointer (some ⟨rb, 0, none⟩)] w fun e w' => e = .returned (.agg #[iV (toI (numS st).1), iV (toI (numS (numS st).2).1)]) ∧ w.grownBy w' (some rb) ∧ RdS w' rb (numS (numS st).2).2 := by
  have hlt := h.lt
  obtain ⟨Q, hQ⟩ : ∃ Q : Ending → World → Prop, Q = fun e w' => e = .returned (.agg #[iV (toI (numS st).1), iV (toI (numS (numS st).2).1)]) ∧ w.grownBy w' (some rb) ∧ RdS w' rb (numS (numS st).2).2 := ⟨_, rfl⟩
  rw [← hQ]
  have HQ : Hid (∀ w', w.grownBy w' (some rb) → RdS w' rb (numS (numS st).2).2 → Q (.returned (.agg #[iV (toI (numS st).1), iV (toI (numS (numS st).2).1)])) w') := fun w' h1 h2 => by rw [hQ]; exact ⟨rfl, h1, h2⟩
  clear hQ
  obtain ⟨W0, hW0⟩ : ∃ W0, W0 = w.alloc (.cells #[iV 0, iV 0] 43) := ⟨_, rfl⟩
  obtain ⟨N, hN⟩ : ∃ N, N = w.heap.size := ⟨_, rfl⟩
  have hg0 : w.grownBy W0 none := by rw [hW0]; exact gb_alloc (gb_refl _ _) _
  have hb0 : Blk W0 N 43 [iV 0, iV 0] := by rw [hW0, hN]; exact Blk.new _ _ _
  have H1 := Lib.hid (number_any rb st W0 (h.stay hg0))
  have H2 := Lib.hid (fun w' (h : RdS w' rb (numS st).2) => number_any rb (numS st).2 w' h)
  have HG0 := Lib.hid (And.intro hg0 (And.intro hb0 (And.intro (show rb < N by omega) (show w.heap.size ≤ N by omega)))); clear hg0 hb0 h hlt
  go_enter Try.func47, Try.ntmps47
  go_wp2_with fail
  rw [← hW0, ← hN]
  clear hW0 hN
  refine H1.out.mono ?_
  rintro e w1 ⟨rfl, hg1, hr1⟩
  generalize toI (numS st).1 = x at *
  generalize (numS st).2 = st1 at *
  have HG1 := Lib.hid (And.intro hg1 hr1); clear hg1 hr1
  go_wp2_with fail
  refine (H2.out w1 HG1.out.2).mono ?_
  rintro e w2 ⟨rfl, hg2, hr2⟩
  have hb2 := ((HG0.out.2.1.grown HG1.out.1 (by have := HG0.out.2.2.1; simp; omega)).grown hg2 (by have := HG0.out.2.2.1; simp; omega))
  have c0 := hb2.cell (i := 0) rfl
  have c1 := hb2.cell (i := 1) rfl
  have f0 := hb2.free 0
  have f1 := hb2.free 1
  generalize toI (numS st1).1 = y at *
  have HG2 := Lib.hid (And.intro (gb_trans (gb_row HG0.out.1 _) (gb_trans HG1.out.1 hg2)) (And.intro hr2 (And.intro hb2 HG0.out.2.2.1))); clear hg2 hr2 hb2
  go_wp2
  obtain ⟨hg, hr, hb, hN⟩ := HG2.out
  have hR := (hb.set 0 (.int .i64 x)).set 1 (.int .i64 y)
  refine bodyPost_ret (v := .agg #[iV x, iV y]) (results_cell_row Try.results47 _ _ N 43 _ (0, 0) _ rfl hR Try.underlying43 rfl info_dotS) rfl ?_
  exact HQ.out _ (gb_set_new (gb_set_new hg (p := ⟨N, 0, none⟩) HG0.out.2.2.2 _) (p := ⟨N, 1, none⟩) HG0.out.2.2.2 _) ((hr.beside (gb_set (gb_refl _ (some N)) 0 _) hN).beside (gb_set (gb_refl _ (some N)) 1 _) hN)
end Rc
end Go.Proofs.Ytohcoihdijemfaa

/- Rows of dots that are one's own: their cells, appends, copies. -/
namespace Go.Proofs.Ytohcoihdijemfaa
open Go.RowKit Ve
namespace Ve
def dC (d : D) : List Value := [iV d.1, iV d.2]
def dotsC (l : List D) : List Value := l.flatMap dC
theorem dotsC_len (l : List D) : (dotsC l).length = l.length * 2 := by
  induction l with
  | nil => rfl
  | cons d r ih => rw [dotsC, List.flatMap_cons, List.length_append, ← dotsC, ih]; simp [dC]; omega
theorem dotsC_app (l m : List D) : dotsC (l ++ m) = dotsC l ++ dotsC m := by simp [dotsC]
theorem dotsC_one (d : D) : dotsC [d] = [iV d.1, iV d.2] := rfl
theorem dotsC_take (l : List D) (k : Nat) : (dotsC l).take (k * 2) = dotsC (l.take k) := by
  induction l generalizing k with
  | nil => simp [dotsC]
  | cons d r ih =>
    cases k with
    | zero => simp [dotsC]
    | succ k =>
      show ([iV d.1, iV d.2] ++ dotsC r).take ((k + 1) * 2) = [iV d.1, iV d.2] ++ dotsC (r.take k)
      rw [← ih, show (k + 1) * 2 = k * 2 + 2 by omega]
      rfl
theorem dotsC_drop (l : List D) (k : Nat) : (dotsC l).drop (k * 2) = dotsC (l.drop k) := by
  induction l generalizing k with
  | nil => simp [dotsC]
  | cons d r ih =>
    cases k with
    | zero => simp [dotsC]
    | succ k =>
      show ([iV d.1, iV d.2] ++ dotsC r).drop ((k + 1) * 2) = dotsC (r.drop k)
      rw [← ih, show (k + 1) * 2 = k * 2 + 2 by omega]
      rfl
theorem dotsC_at (l : List D) (i : Nat) (h : i < l.length) : (dotsC l)[i * 2]? = some (iV (l.getD i z0).1) ∧ (dotsC l)[i * 2 + 1]? = some (iV (l.getD i z0).2) := by
  have hd : (dotsC l).drop (i * 2) = iV (l.getD i z0).1 :: iV (l.getD i z0).2 :: dotsC (l.drop (i + 1)) := by
    rw [dotsC_drop, drop_at l i h]; rfl
  constructor
  · have := congrArg (fun q => q[0]?) hd
    simpa [List.getElem?_drop] using this
  · have := congrArg (fun q => q[1]?) hd
    simpa [List.getElem?_drop] using this
theorem dotsC_cell (l : List D) : ∀ v ∈ dotsC l, v.oneCell' = true := by
  intro v hv
  obtain ⟨d, _, h⟩ := List.mem_flatMap.1 hv
  simp only [dC, List.mem_cons, List.not_mem_nil, or_false] at h
  rcases h with rfl | rfl <;> rfl
theorem info_dot : ∃ i, Try.prog.info? 43 = some i ∧ i.zero = some (.agg #[iV 0, iV 0]) ∧ i.size = 2 ∧ i.bytes = 16 := by
  have h : (Try.prog.info? 43).map (fun i => (i.zero, i.size, i.bytes)) = some (some (.agg #[iV 0, iV 0]), 2, 16) := by kernel_rfl
  cases hi : Try.prog.info? 43 with
  | none => rw [hi] at h; cases h
  | some i =>
    rw [hi] at h
    simp only [Option.map_some, Option.some.injEq, Prod.mk.injEq] at h
    exact ⟨i, rfl, h.1, h.2.1, h.2.2⟩
/-- a row of one's own, as dots -/
theorem own_dots {w : World} {base n : Nat} {v : Value} {l : List D} (h : w.ownsRow base 43 2 v n (dotsC l)) : ∃ a c, v = .slice a n c ∧ l.length = n ∧ n ≤ c ∧ DotsAt w w.heap.size a l := by
  have hl : l.length = n := by have := h.1; rw [dotsC_len] at this; omega
  rcases h.2 with ⟨rfl, rfl⟩ | ⟨g, c, cur, rfl, hb, hg, hnc, hcm, hcs, ht⟩
  · exact ⟨none, 0, rfl, hl, Nat.le_refl _, Nat.le_refl _, Or.inl hl⟩
  · refine ⟨_, c, rfl, hl, hnc, Nat.le_refl _, Or.inr ⟨g, 0, rfl, lt_of_block hg, fun i hi => ?_⟩⟩
    obtain ⟨e1, e2⟩ := dotsC_at l i hi
    rw [Nat.zero_add]
    have key : ∀ j u, (dotsC l)[j]? = some u → w.cell? ⟨g, j, none⟩ = some u := fun j u hu => by
      have := h.cells (g := g) rfl j u hu
      rwa [Addr.add_lit, Nat.zero_add] at this
    exact ⟨key _ _ e1, key _ _ e2⟩
theorem run_copy2 (w : World) (dT sT ty : TypeId) (hu : Try.prog.underlying dT = some (.slice 43)) (b o dLen dCap : Nat) (a : Addr) (sLen sCap m : Nat) (cs : List Value) (hm : Nat.min sLen dLen = m) (hn : cs.length = m * 2)
    (hsrc : ∀ j v, cs[j]? = some v → w.cell? (a.add j) = some v) (hc : ∀ j, j < cs.length → (w.cell? ⟨b, o + j, none⟩).isSome = true) (hf : ∀ j, j < cs.length → w.frozen? ⟨b, o + j, none⟩ = false) (h1 : ∀ v ∈ cs, v.oneCell' = true) :
    (Builtin.copy_ #[dT, sT] ty #[.slice (some ⟨b, o, none⟩) dLen dCap, .slice (some a) sLen sCap]).run Try.prog w = .ok (goInt m) (w.setCells b o cs) := by
  have hl := run_loadCells_list (P := Try.prog) w a cs hsrc
  have hst := run_storeCells_cells (P := Try.prog) b o cs 0 w (by simpa using hc) (by simpa using hf) h1
  obtain ⟨i, hi, _, hs, _⟩ := info_dot
  rw [hn] at hl
  simp [Builtin.copy_, run_underlying hu, Builtin.lenOf, Builtin.firstCells, sizeOf, typeInfo, hi, hs, hm, hl, hst]
theorem append_args (w : World) (t tx ty e' : TypeId) (ht : Try.prog.underlying t = some (.slice 43)) (htx : Try.prog.underlying tx = some (.slice e')) (a : Option Addr) (n c : Nat) (x : Value) :
    (Builtin.append_ #[t, tx] ty #[.slice a n c, x]).run Try.prog w = (Builtin.append_ #[t, t] ty #[.slice a n c, x]).run Try.prog w := by
  obtain ⟨i, hi, _, hs, _⟩ := info_dot
  simp [Builtin.append_, run_underlying ht, run_underlying htx, sizeOf, typeInfo, hi, hs]
end Ve
end Go.Proofs.Ytohcoihdijemfaa

/- Dots appended to a row of one's own. -/
namespace Go.Proofs.Ytohcoihdijemfaa
open Go.RowKit Ve
namespace Ve
abbrev OwnD' (w : World) (base : Nat) (v : Value) (n : Nat) (l : List D) : Prop := w.ownsRow base 43 2 v n (dotsC l)
/-- dots that lie somewhere, appended to a row of one's own -/
theorem append_dots (w : World) (base B : Nat) (v : Value) (n0 : Nat) (l0 : List D) (a : Option Addr) (m c : Nat) (p : List D) (hown : OwnD' w base v n0 l0) (hm : p.length = m) (hp : DotsAt w B a p) (ha : a = none → c = 0) (hn : n0 + m ≤ 1000000000) (hbase : base ≤ w.heap.size) :
    ∃ v' w', (Builtin.append_ #[23, 23] 23 #[v, .slice a m c]).run Try.prog w = .ok v' w' ∧ OwnD' w' base v' (n0 + m) (l0 ++ p) ∧ w.grownBy w' v.ownBlock := by
  obtain ⟨i, hi, hz, hs, hb⟩ := info_dot
  rcases a with _ | ad
  · have h0 : p.length = 0 := by
      rcases hp.cells with h | ⟨_, _, h, _⟩
      · exact h
      · cases h
    obtain rfl : p = [] := List.eq_nil_of_length_eq_zero h0
    obtain rfl : m = 0 := by rw [← hm]; rfl
    obtain rfl := ha rfl
    exact ⟨v, w, run_append_owned_none (P := Try.prog) w base 23 23 43 i 2 Try.underlying23 hi v n0 _ hown, by simpa using hown, gb_refl _ _⟩
  · obtain ⟨v', w', hr, ho, hg, _⟩ := run_append_own (P := Try.prog) w base 23 23 43 i (.agg #[iV 0, iV 0]) 2 16 Try.underlying23 hi hz hs hb rfl (by decide) v n0 (dotsC l0) hown ad m c (dotsC p) (by rw [dotsC_len, hm])
      (fun j u hu => by
        have hj : j < p.length * 2 := by have := (List.getElem?_eq_some_iff.1 hu).1; rwa [dotsC_len] at this
        obtain ⟨pb, po, e, _, hc⟩ := hp.cells.resolve_left (by omega)
        cases e
        obtain ⟨q, hq⟩ : ∃ q, j = q * 2 ∨ j = q * 2 + 1 := ⟨j / 2, by omega⟩
        have hql : q < p.length := by omega
        obtain ⟨e1, e2⟩ := dotsC_at p q hql
        obtain ⟨f1, f2⟩ := hc q hql
        rw [Addr.add_lit]
        rcases hq with rfl | rfl
        · rw [e1] at hu; rw [f1]; exact hu
        · rw [e2] at hu; rw [← Nat.add_assoc, f2]; exact hu) (dotsC_cell p) (by unfold maxLen; omega) (by omega) hbase
    exact ⟨v', w', hr, by unfold OwnD'; rw [dotsC_app]; exact ho, hg⟩
theorem own_shapeD {w : World} {base n : Nat} {v : Value} {l : List D} (h : OwnD' w base v n l) : ∃ a c, v = .slice a n c := by
  rcases h.2 with ⟨rfl, h0⟩ | ⟨g, c, _, rfl, _⟩
  · exact ⟨none, 0, by rw [h0]⟩
  · exact ⟨_, _, rfl⟩
theorem gb_ownD' {w0 w w' : World} {base n : Nat} {v : Value} {l : List D} (h : w0.grownBy w none) (ho : OwnD' w base v n l) (hb : w0.heap.size ≤ base) (hg : w.grownBy w' v.ownBlock) : w0.grownBy w' none :=
  ⟨hg.os.trans h.os, hg.tape.trans h.tape, hg.output.trans h.output, Nat.le_trans h.size hg.size, fun k hk _ => (hg.block k (Nat.lt_of_lt_of_le hk h.size) (fun e => by have := (ho.lt k e.symm).1; omega)).trans (h.block k hk (by simp))⟩
theorem dots_one' (w : World) (x y : Int) (T : TypeId) : DotsAt (w.alloc (.cells #[iV x, iV y] T)) (w.heap.size + 1) (some ⟨w.heap.size, 0, none⟩) [(x, y)] := by
  have hB : Blk (w.alloc (.cells #[iV x, iV y] T)) w.heap.size T [iV x, iV y] := Blk.new w _ _
  refine ⟨by simp, Or.inr ⟨w.heap.size, 0, rfl, by omega, fun i hi => ?_⟩⟩
  obtain rfl : i = 0 := by simp at hi; omega
  exact ⟨hB.cell (i := 0) rfl, hB.cell (i := 1) rfl⟩
end Ve
end Go.Proofs.Ytohcoihdijemfaa

/- One step of a region that draws its order, for go_region_law: an append whose run is known; a call by its contract. -/
namespace Go.Proofs.Ytohcoihdijemfaa
open Go
namespace Fg
theorem step_append {P : Program} {ops : Array Oper} {o : Oper} {a : Act} {w : World} {K : Act → World → Prop} {Q : Exit → Act → World → Prop} {E : Prop} (hg : o.guard = none) (s x : Operand) (t : TypeId)
    (ho : o.op = .call { callee := .builtin .append, args := #[s, x], argTypes := #[t, t] }) (ht : o.type = t) (v y : Value) (hs : a.eval s = v) (hx : a.eval x = y) (v' : Value) (w' : World)
    (hr : (Builtin.append_ #[t, t] t #[v, y]).run P w = .ok v' w') (hK : K (a.put o.dst v') w') : if Region.wanted o (yielded ops a.tmps) = true then Oper.wp P o a w K Q else E := by
  have hw : Region.wanted o (yielded ops a.tmps) = true := by simp [Region.wanted, hg]
  rw [if_pos hw]
  rw [← ht] at hr
  unfold Oper.wp
  simp [execOp, ho, resolve, invoke, builtin, hs, hx, ← ht, hr, Result.andThen]
  exact hK
theorem step_call {P : Program} {ops : Array Oper} {o : Oper} {a : Act} {w : World} {K : Act → World → Prop} {Q : Exit → Act → World → Prop} {E : Prop} (hg : o.guard = none) {f : FuncId} {args : Array Value}
    (hr : (execOp a.eval o).run P w = .ok (.enter f args) w) (hc : Calls P f args w fun e w' => ∃ v, e = .returned v ∧ K (a.put o.dst v) w') : if Region.wanted o (yielded ops a.tmps) = true then Oper.wp P o a w K Q else E := by
  have hw : Region.wanted o (yielded ops a.tmps) = true := by simp [Region.wanted, hg]
  rw [if_pos hw]
  unfold Oper.wp
  rw [hr]
  exact Calls.mono hc fun e w' ⟨v, he, hK⟩ => by subst he; exact hK
/-- a result that is a row, and one beside it -/
theorem res_row_tmp {P : Program} {fn : Func} {p u : Tmp} {ty : TypeId} (h : fn.results = #[.cell p ty, .tmp u]) (tmps : Array Value) (w : World) (g : Nat) (t : TypeId) (cs : Array Value) (fr : Nat × Nat) (d : TypeDesc)
    (hp : tmps.getD p undef = .pointer (some ⟨g, 0, none⟩)) (hg : w.heap[g]? = some (.cells cs t fr))
    (hu : P.underlying ty = some d) (hd : (match d with | .struct _ | .array _ _ => true | _ => false) = true) (hi : (P.info? ty).map (·.size) = some cs.size) {v : Value} (hv : tmps.getD u undef = v) :
    (results fn tmps).run P w = .ok (.tuple #[.agg cs, v]) w := by
  rw [results_cell_tmp h, hp, hv]
  simp [asAddr, run_loadVar_row w g t ty cs fr d hg hu hd hi, Result.andThen]
end Fg
end Go.Proofs.Ytohcoihdijemfaa

/- record.read: what is found where a record's parts would stand. -/
namespace Go.Proofs.Ytohcoihdijemfaa
open Go.RowKit Ow Wi Ve
namespace Rc
/-- what a reading of a record holds of memory -/
structure Rs (w0 : World) (N rb M : Nat) (T : TypeId) (cells : List Value) (st : St) (w : World) : Prop where
  gb : w0.grownBy w none
  rd : RdS w rb st
  bx : Blk w M T cells
  res : Blk w N 25 z7
structure Rn (w0 : World) (N rb M : Nat) : Prop where
  n0 : w0.heap.size ≤ N
  n1 : N < rb
  n2 : rb < M
theorem Rs.call {w0 w w' : World} {N rb M : Nat} {T : TypeId} {cells : List Value} {st st' : St} (h : Rs w0 N rb M T cells st w) (k : Rn w0 N rb M) (hg : w.grownBy w' (some rb)) (hr : RdS w' rb st') : Rs w0 N rb M T cells st' w' :=
  ⟨gb_then h.gb hg (by have := k.n0; have := k.n1; omega), hr, h.bx.grown hg (by have := k.n2; simp; omega), h.res.grown hg (by have := k.n1; simp; omega)⟩
theorem Rs.set {w0 w : World} {N rb M : Nat} {T : TypeId} {cells : List Value} {st : St} (h : Rs w0 N rb M T cells st w) (k : Rn w0 N rb M) (i : Nat) (v : Value) : Rs w0 N rb M T (cells.set i v) st (w.setCell ⟨M, i, none⟩ v) :=
  ⟨gb_set_new h.gb (p := ⟨M, i, none⟩) (by have := k.n0; have := k.n1; have := k.n2; show _ ≤ M; omega) v, h.rd.beside (gb_set (gb_refl w (some M)) i v) k.n2, h.bx.set i v, h.res.grown (gb_set (gb_refl w (some M)) i v) (by have := k.n1; have := k.n2; simp; omega)⟩
theorem Rs.stay {w0 w w' : World} {N rb M : Nat} {T : TypeId} {cells : List Value} {st : St} (h : Rs w0 N rb M T cells st w) (hg : w.grownBy w' none) : Rs w0 N rb M T cells st w' :=
  ⟨gb_trans h.gb hg, h.rd.stay hg, h.bx.grown hg (by simp), h.res.grown hg (by simp)⟩
/-- a dot read, and appended to the context -/
theorem Rs.readd {w0 w w' : World} {N rb M : Nat} {T : TypeId} {c0 c1 c2 c4 c5 c6 : Value} {a' : Option Addr} {c' k : Nat} {st : St} {x y : Int} {st' : St} {l : List D} (h : Rs w0 N rb M T [c0, c1, c2, .slice a' k c', c4, c5, c6] st w) (K : Rn w0 N rb M) (ho : OwnD' w (M + 1) (.slice a' k c') k l) (hk : k ≤ 8) (hg : w.grownBy w' (some rb)) (hr : RdS w' rb st') :
    ∃ v2 w11, (Builtin.append_ #[23, 23] 23 #[.slice a' k c', .slice (some ⟨w'.heap.size, 0, none⟩) 1 1]).run Try.prog (w'.alloc (.cells #[iV x, iV y] 43)) = .ok v2 w11 ∧ Rs w0 N rb M T [c0, c1, c2, .slice a' k c', c4, c5, c6] st' w11 ∧ OwnD' w11 (M + 1) v2 (k + 1) (l ++ [(x, y)]) := by
  have hb : ∀ r, (Value.slice a' k c').ownBlock = some r → M < r := fun r e => by have := (ho.lt r e).1; omega
  have h1 := h.call K hg hr
  have gA : w'.grownBy (w'.alloc (.cells #[iV x, iV y] 43)) none := gb_alloc (gb_refl _ _) _
  have ho1 := (ho.kept hg (Or.inr fun e => by have := hb _ e; have := K.n2; omega)).kept gA (by cases (Value.slice a' k c').ownBlock <;> simp)
  have h2 := h1.stay gA
  obtain ⟨v2, w11, hap, ho2, hg2⟩ := append_dots _ (M + 1) (w'.heap.size + 1) _ k l (some ⟨w'.heap.size, 0, none⟩) 1 1 [(x, y)] ho1 rfl (dots_one w' x y _) (by simp) (by omega) (by have := h2.bx.lt; omega)
  refine ⟨v2, w11, hap, ?_, ho2⟩
  have hne : ∀ q, q ≤ M → (some q ≠ (Value.slice a' k c').ownBlock) := fun q hq e => by have := hb q e.symm; omega
  refine ⟨gb_ownD' h2.gb ho1 (by have := K.n0; have := K.n1; have := K.n2; omega) hg2, ?_, h2.bx.grown hg2 (hne M (Nat.le_refl _)), h2.res.grown hg2 (hne N (by have := K.n1; have := K.n2; omega))⟩
  cases hb' : (Value.slice a' k c').ownBlock with
  | none => rw [hb'] at hg2; exact h2.rd.stay hg2
  | some r => rw [hb'] at hg2; exact h2.rd.beside hg2 (by have := hb r hb'; have := K.n2; omega)
/-- the context and the value, in rows of one's own -/
structure Two (w : World) (M Bs : Nat) (v3 v5 : Value) (n3 n5 : Nat) (cx : List D) (val : List Nat) : Prop where
  cx : OwnD' w (M + 1) v3 n3 cx
  val : w.ownsRow (M + 1) 5 1 v5 n5 (val.map u8N)
  l3 : ∀ r, v3.ownBlock = some r → r < Bs
  l5 : ∀ r, v5.ownBlock = some r → r < Bs
theorem Two.keep {w w' : World} {M Bs n3 n5 : Nat} {v3 v5 : Value} {cx : List D} {val : List Nat} (h : Two w M Bs v3 v5 n3 n5 cx val) {row : Option Nat} (hg : w.grownBy w' row) (hr : ∀ r, row = some r → r ≤ M ∨ Bs ≤ r) : Two w' M Bs v3 v5 n3 n5 cx val := by
  refine ⟨h.cx.kept hg ?_, h.val.kept hg ?_, h.l3, h.l5⟩
  · cases hb : v3.ownBlock with
    | none => exact Or.inl rfl
    | some r => refine Or.inr fun e => ?_; have := hr r e.symm; have := h.l3 r hb; have := (h.cx.lt r hb).1; omega
  · cases hb : v5.ownBlock with
    | none => exact Or.inl rfl
    | some r => refine Or.inr fun e => ?_; have := hr r e.symm; have := h.l5 r hb; have := (h.val.lt r hb).1; omega
/-- a byte read, and appended to the signature -/
theorem Rs.reads {w0 w w' : World} {N rb M Bs : Nat} {T : TypeId} {c0 c1 c2 c4 : Value} {a3 a5 a6 : Option Addr} {n3 n5 k3 k5 k6 k : Nat} {st st' : St} {x : Nat} {cx : List D} {val l : List Nat} (h : Rs w0 N rb M T [c0, c1, c2, .slice a3 n3 k3, c4, .slice a5 n5 k5, .slice a6 k k6] st w) (K : Rn w0 N rb M) (hB : M < Bs) (hBw : Bs ≤ w.heap.size)
    (ht : Two w M Bs (.slice a3 n3 k3) (.slice a5 n5 k5) n3 n5 cx val) (ho : w.ownsRow Bs 5 1 (.slice a6 k k6) k (l.map u8N)) (hk : k ≤ 64) (hg : w.grownBy w' (some rb)) (hr : RdS w' rb st') :
    ∃ v2 w11, (Builtin.append_ #[22, 22] 22 #[.slice a6 k k6, .slice (some ⟨w'.heap.size, 0, none⟩) 1 1]).run Try.prog (w'.alloc (.cells #[u8N x] 5)) = .ok v2 w11 ∧ Rs w0 N rb M T [c0, c1, c2, .slice a3 n3 k3, c4, .slice a5 n5 k5, .slice a6 k k6] st' w11 ∧ Two w11 M Bs (.slice a3 n3 k3) (.slice a5 n5 k5) n3 n5 cx val ∧ w11.ownsRow Bs 5 1 v2 (k + 1) ((l ++ [x]).map u8N) ∧ Bs ≤ w11.heap.size := by
  have hb : ∀ r, (Value.slice a6 k k6).ownBlock = some r → Bs ≤ r := fun r e => (ho.lt r e).1
  have h1 := h.call K hg hr
  have ho1 := ho.kept hg (Or.inr fun e => by have := hb _ e; have := K.n2; omega)
  have ht1 := ht.keep hg (fun r e => by cases e; have := K.n2; omega)
  obtain ⟨v2, w11, hap, ho2, hg2⟩ := append1_u8 w' Bs k (.slice a6 k k6) (u8N x) (l.map u8N) ho1 rfl (by omega) (Nat.le_trans hBw hg.size)
  have hne : ∀ q, q ≤ M → (some q ≠ (Value.slice a6 k k6).ownBlock) := fun q hq e => by have := hb q e.symm; omega
  refine ⟨v2, w11, hap, ⟨?_, ?_, h1.bx.grown hg2 (hne M (Nat.le_refl _)), h1.res.grown hg2 (hne N (by have := K.n1; have := K.n2; omega))⟩, ht1.keep hg2 (fun r e => Or.inr (hb r e)), by rw [List.map_append]; exact ho2, Nat.le_trans hBw (Nat.le_trans hg.size hg2.size)⟩
  · exact gb_own h1.gb ho1 (by have := K.n0; have := K.n1; have := K.n2; omega) hg2
  · cases hb' : (Value.slice a6 k k6).ownBlock with
    | none => rw [hb'] at hg2; exact h1.rd.stay hg2
    | some r => rw [hb'] at hg2; exact h1.rd.beside hg2 (by have := hb r hb'; have := K.n2; omega)
set_option maxHeartbeats 2000000 in
set_option maxRecDepth 100000 in
theorem read_any (n cap B : Nat) (a : Option Addr) (l : List Nat) (w : World) (hl : l.length = n) (hn : n ≤ 1000000) (hP : BytesAt w B a cap l) :
    Calls Try.prog 24 #[.slice a n cap] w fun e w' => ∃ q : L, e = .returned (q.v (recR (some l))) ∧ w.grownBy w' none ∧ RAt w' w'.heap.size q (recR (some l)) ∧ q.New w.heap.size := by
  obtain ⟨st, hst⟩ : ∃ st, st = some l := ⟨_, rfl⟩
  rw [← hst]
  have hok : OkS st := fun l' e b hb => by rw [hst] at e; cases e; exact getD_mem hP.byte b hb
  have HOK := Lib.hid hok; clear hok
  have hsm : Sm st := fun l' e => by rw [hst] at e; cases e; omega
  obtain ⟨N, hN⟩ : ∃ N, N = w.heap.size := ⟨_, rfl⟩
  obtain ⟨W0, hW0⟩ : ∃ W0, W0 = w.alloc (.cells z7.toArray 25) := ⟨_, rfl⟩
  have hg0 : w.grownBy W0 none := by rw [hW0]; exact gb_alloc (gb_refl _ _) _
  have hb0 : Blk W0 N 25 z7 := by rw [hW0, hN]; exact Blk.new _ _ _
  have HN := Lib.hid (new_any n cap B a l W0 hl hn (hP.stay hg0))
  rw [← hst] at HN
  have HG0 := Lib.hid (And.intro hg0 (And.intro hb0 (Nat.le_of_eq hN.symm))); clear hg0 hb0 hl hn hP
  obtain ⟨Q, hQ⟩ : ∃ Q : Ending → World → Prop, Q = fun e w' => ∃ q : L, e = .returned (q.v (recR st)) ∧ w.grownBy w' none ∧ RAt w' w'.heap.size q (recR st) ∧ q.New w.heap.size := ⟨_, rfl⟩
  rw [← hQ]
  have HQ := Lib.hid hQ; clear hQ
  have HSM := Lib.hid hsm; clear hsm hst
  go_enter Try.func24, Try.ntmps24
  go_wp2_with fail
  rw [show w.alloc (.cells #[.string ⟨#[]⟩, iV 0, iV 0, .slice none 0 0, .bool false, .slice none 0 0, .slice none 0 0] 25) = W0 from hW0.symm, ← hN]
  clear hW0 hN
  refine HN.out.mono ?_
  rintro e w1 ⟨rb, rfl, hg, hrb, hr⟩
  have HG1 := Lib.hid (And.intro (gb_trans HG0.out.1 hg) (And.intro hr (And.intro (HG0.out.2.1.grown hg (by simp)) (show N < rb from Nat.lt_of_lt_of_le HG0.out.2.1.lt hrb)))); clear hg hr hrb
  go_wp2_with fail
  refine (byte_any rb st w1 HG1.out.2.1).mono ?_
  rintro e w2 ⟨rfl, hg, hr⟩
  have HG2 := Lib.hid (show w.grownBy w2 none ∧ RdS w2 rb (s1 st) ∧ Blk w2 N 25 z7 ∧ N < rb from ⟨gb_then HG1.out.1 hg (Nat.le_trans HG0.out.2.2 (Nat.le_of_lt HG1.out.2.2.2)), hr, HG1.out.2.2.1.grown hg (by have := HG1.out.2.2.2; simp; omega), HG1.out.2.2.2⟩); clear hg hr
  obtain ⟨M, hM⟩ : ∃ M, M = w2.heap.size := ⟨_, rfl⟩
  obtain ⟨W3, hW3⟩ : ∃ W3, W3 = w2.alloc (.cells z7.toArray 55) := ⟨_, rfl⟩
  have hg3 : w2.grownBy W3 none := by rw [hW3]; exact gb_alloc (gb_refl _ _) _
  have hb3 : Blk W3 M 55 z7 := by rw [hW3, hM]; exact Blk.new _ _ _
  have HN' : Hid (Rn w N rb M) := ⟨HG0.out.2.2, HG2.out.2.2.2, by rw [hM]; exact HG2.out.2.1.lt⟩
  have HG3 : Hid (Rs w N rb M 55 z7 (s1 st) W3) := ⟨gb_trans HG2.out.1 hg3, HG2.out.2.1.stay hg3, hb3, HG2.out.2.2.1.grown hg3 (by simp)⟩
  clear hg3 hb3
  go_wp2_with fail
  rw [show w2.alloc (.cells #[.string ⟨#[]⟩, iV 0, iV 0, .slice none 0 0, .bool false, .slice none 0 0, .slice none 0 0] 55) = W3 from hW3.symm, ← hM]
  clear hW3 hM HG1 HG2 HG0
  refine (rbytes_any rb 64 (s1 st) W3 HG3.out.rd (sm_byte HSM.out)).mono ?_
  rintro e w4 ⟨v4, rfl, hg, hr, ho⟩
  obtain ⟨ak, ck, rfl, _, hkb, _⟩ := own_slice ho (bytesS_lt HG3.out.rd 64)
  have hcv := bytes_str rfl hkb
  have HG4 : Hid (Rs w N rb M 55 z7 (s2 st) w4) := HG3.out.call HN'.out hg hr
  have HK : Hid (∀ i, (bytesS 64 (s1 st)).1.getD i 0 < 256) := hkb.byte
  obtain ⟨key, hkey⟩ : ∃ k, k = (bytesS 64 (s1 st)).1 := ⟨_, rfl⟩
  rw [← hkey] at hcv HK ⊢
  have HKE := Lib.hid hkey; clear hkey hg hr ho hkb
  have k0 := HG4.out.bx.cell (i := 0) rfl
  have f0 := HG4.out.bx.free 0
  obtain ⟨kn, hkn⟩ : ∃ x, x = key.length := ⟨_, rfl⟩
  rw [← hkn] at hcv ⊢
  clear hkn
  go_wp2_with fail
  have HG5 : Hid (Rs w N rb M 55 [.string (ofL key), iV 0, iV 0, .slice none 0 0, .bool false, .slice none 0 0, .slice none 0 0] (s2 st) (w4.setCell ⟨M, 0, none⟩ (.string (ofL key)))) := HG4.out.set HN'.out 0 _
  clear HG3 HG4 hcv
  generalize w4.setCell ⟨M, 0, none⟩ (.string (ofL key)) = w5 at *
  refine (readDot_any rb (s2 st) w5 HG5.out.rd).mono ?_
  rintro e w6 ⟨rfl, hg, hr⟩
  obtain ⟨cl, hcl⟩ : ∃ x, x = toI (numS (s2 st)).1 := ⟨_, rfl⟩
  obtain ⟨sq, hsq⟩ : ∃ x, x = toI (numS (s3 st)).1 := ⟨_, rfl⟩
  have HCS := Lib.hid (And.intro hcl hsq)
  rw [← hcl, show toI (numS (numS (s2 st)).2).1 = sq from hsq.symm]
  have HG6 : Hid (Rs w N rb M 55 [.string (ofL key), iV 0, iV 0, .slice none 0 0, .bool false, .slice none 0 0, .slice none 0 0] (s4 st) w6) := HG5.out.call HN'.out hg hr
  clear hg hr hcl hsq HG5
  obtain ⟨X, hX⟩ : ∃ X, X = w6.heap.size := ⟨_, rfl⟩
  obtain ⟨W7, hW7⟩ : ∃ W7, W7 = w6.alloc (.cells #[iV cl, iV sq] 43) := ⟨_, rfl⟩
  have hg7 : w6.grownBy W7 none := by rw [hW7]; exact gb_alloc (gb_refl _ _) _
  have hb7 : Blk W7 X 43 [iV cl, iV sq] := by rw [hW7, hX]; exact Blk.new _ _ _
  have HG7 := Lib.hid (HG6.out.stay hg7)
  have HX := Lib.hid (And.intro hb7 (show M < X by rw [hX]; exact HG6.out.bx.lt))
  clear hg7 hb7 HG6
  go_wp2_with fail
  rw [← hW7, ← hX]
  clear hW7 hX
  have m1 := HX.out.1.cell (i := 0) rfl
  have m2 := HX.out.1.cell (i := 1) rfl
  have k1 := HG7.out.bx.cell (i := 1) rfl
  have k2 := HG7.out.bx.cell (i := 2) rfl
  have f1 := HG7.out.bx.free 1
  have f2 := HG7.out.bx.free 2
  have hXM := HX.out.2
  go_region
  have HG8 : Hid (Rs w N rb M 55 [.string (ofL key), iV cl, iV sq, .slice none 0 0, .bool false, .slice none 0 0, .slice none 0 0] (s4 st) ((W7.setCell ⟨M, 1, none⟩ (.int .i64 cl)).setCell ⟨M, 2, none⟩ (.int .i64 sq)).drew) := ((HG7.out.set HN'.out 1 _).set HN'.out 2 _).stay (gb_drew (gb_refl _ _))
  clear HG7 HX m1 m2 k1 k2 f1 f2 hXM
  generalize ((W7.setCell ⟨M, 1, none⟩ (.int .i64 cl)).setCell ⟨M, 2, none⟩ (.int .i64 sq)).drew = w8 at *
  have HC := Lib.hid (rcount_any rb 8 (s4 st) w8 HG8.out.rd)
  obtain ⟨hc, hc8⟩ := cN_is st
  rw [hc] at HC
  have HRD := Lib.hid (fun k w' (h : RdS w' rb (nS (s5 st) k).2) => readDot_any rb (nS (s5 st) k).2 w' h)
  have HSM7 : Hid (Sm (s7 st)) := sm_s7 HSM.out
  go_wp2_with fail
  refine HC.out.mono ?_
  rintro e w9 ⟨rfl, hg, hr⟩
  have HG9 : Hid (Rs w N rb M 55 [.string (ofL key), iV cl, iV sq, .slice none 0 0, .bool false, .slice none 0 0, .slice none 0 0] (s5 st) w9) := HG8.out.call HN'.out hg hr
  clear hg hr HG8 HC hc
  obtain ⟨m, hm⟩ : ∃ m, m = cN st := ⟨_, rfl⟩
  rw [← hm] at hc8 ⊢
  have HM := Lib.hid hm; clear hm
  go_wp2_with fail
  go_loopw [27] (fun i wr => ∃ (k : Nat), k ≤ m ∧ i = .int .i64 k ∧ Hid (∃ v, Rs w N rb M 55 [.string (ofL key), iV cl, iV sq, v, .bool false, .slice none 0 0, .slice none 0 0] (nS (s5 st) k).2 wr ∧ OwnD' wr (M + 1) v k (nS (s5 st) k).1)) (fun i _ => m - (intOf i).toNat)
  case atStart => exact ⟨0, by omega, rfl, _, HG9.out, World.ownsRow_nil _ _ _ _⟩
  case round =>
    obtain ⟨k, hk, rfl, HI⟩ := hrel
    by_cases hlt : k < m
    · have i0 : (k : Int) < (m : Int) := by omega
      obtain ⟨v, hRs, ho⟩ := HI.out
      obtain ⟨a', c', rfl⟩ := own_shapeD ho
      have k3 := hRs.bx.cell (i := 3) rfl
      have HD : Hid (wr.grownBy wr.drew none) := gb_drew (gb_refl _ _)
      have HI2 := Lib.hid (And.intro (hRs.stay HD.out) (And.intro (ho.kept HD.out (by cases (Value.slice a' k c').ownBlock <;> simp)) (show k ≤ 8 by omega)))
      clear hRs ho HI
      obtain ⟨x, hx⟩ : ∃ x, x = toI (numS (nS (s5 st) k).2).1 := ⟨_, rfl⟩
      obtain ⟨y, hy⟩ : ∃ y, y = toI (numS (numS (nS (s5 st) k).2).2).1 := ⟨_, rfl⟩
      have HR1 := Lib.hid (HRD.out k)
      rw [← hx, ← hy] at HR1
      have HXY := Lib.hid (And.intro hx hy); clear hx hy
      go_wp2_with fail
      go_region_law (first
        | (refine Fg.step_call rfl (f := 47) (args := #[.pointer (some ⟨rb, 0, none⟩)]) (Fg.run_call rfl rfl (by simp only [List.map_toArray, List.map_cons, List.map_nil, Act.eval]; rfl) (Fg.run_enter Try.func47 (by kernel_rfl) (by kernel_rfl))) ?_
           refine (HR1.out _ HI2.out.1.rd).mono ?_
           rintro e w10 ⟨rfl, hg10, hr10⟩
           obtain ⟨v2, w11, hap, hR11, ho11⟩ := HI2.out.1.readd (x := x) (y := y) HN'.out HI2.out.2.1 HI2.out.2.2 hg10 hr10
           obtain ⟨a2, c2, rfl⟩ := own_shapeD ho11
           have k3' := (HI2.out.1.call HN'.out hg10 hr10).bx.cell (i := 3) rfl
           have k3'' : (w10.alloc (.cells #[iV x, iV y] 43)).cell? ⟨M, 3, none⟩ = some (.slice a' k c') := ((HI2.out.1.call HN'.out hg10 hr10).bx.alloc _).cell (i := 3) rfl
           have q3 := hR11.bx.cell (i := 3) rfl
           have r3 := hR11.bx.free 3
           have HE := Lib.hid (And.intro hR11 ho11)
           have HAP := Lib.hid hap
           clear hg10 hr10 hR11 ho11 k3 hap
           refine ⟨_, rfl, ?_⟩)
        | (refine Fg.step_append rfl (.tmp 31) (.tmp 34) 23 rfl rfl _ _ rfl rfl _ _ HAP.out ?_))
      all_goals
        have HZ : Hid (Rs w N rb M 55 [.string (ofL key), iV cl, iV sq, .slice a2 (k + 1) c2, .bool false, .slice none 0 0, .slice none 0 0] (nS (s5 st) (k + 1)).2 (w11.setCell ⟨M, 3, none⟩ (.slice a2 (k + 1) c2)) ∧ OwnD' (w11.setCell ⟨M, 3, none⟩ (.slice a2 (k + 1) c2)) (M + 1) (.slice a2 (k + 1) c2) (k + 1) (nS (s5 st) (k + 1)).1) :=
          ⟨HE.out.1.set HN'.out 3 _, by rw [nS_succ, ← HXY.out.1, ← HXY.out.2]; exact HE.out.2.kept (gb_set (gb_refl w11 (some M)) 3 _) (Or.inr fun e => by have := (HE.out.2.lt _ e).1; omega)⟩
        clear k3' k3'' q3 r3
        go_wp2
        go_roundw
        case rel => exact ⟨k + 1, by omega, by go_num, _, HZ.out⟩
        case measure => simp [intOf]; omega
    · obtain rfl : k = m := by omega
      obtain ⟨v, hRs, ho⟩ := HI.out
      obtain ⟨a1, c1, rfl⟩ := own_shapeD ho
      rw [HM.out] at hRs ho
      have HC1 : Hid (Rs w N rb M 55 [.string (ofL key), iV cl, iV sq, .slice a1 (cN st) c1, .bool false, .slice none 0 0, .slice none 0 0] (s6 st) wr ∧ OwnD' wr (M + 1) (.slice a1 (cN st) c1) (cN st) (recR st).cx) := ⟨hRs, ho⟩
      clear hRs ho HI
      have HBY := Lib.hid (byte_any rb (s6 st) wr HC1.out.1.rd)
      obtain ⟨gv, hgv⟩ : ∃ x, x = goneR st := ⟨_, rfl⟩
      obtain ⟨gy, hgy⟩ : ∃ g, ((gv : Int) == 1) = g := ⟨_, rfl⟩
      have HG : Hid (gy = decide (goneR st = 1)) := by
        show _ = _
        rw [← hgy, ← hgv, Bool.eq_iff_iff]
        simp only [beq_iff_eq, decide_eq_true_eq]
        omega
      rw [show (byteS (s6 st)).1 = gv from hgv.symm] at HBY
      clear hgv
      go_wp2_with fail
      refine HBY.out.mono ?_
      rintro e w12 ⟨rfl, hg, hr⟩
      have HG12 : Hid (Rs w N rb M 55 [.string (ofL key), iV cl, iV sq, .slice a1 (cN st) c1, .bool false, .slice none 0 0, .slice none 0 0] (s7 st) w12 ∧ OwnD' w12 (M + 1) (.slice a1 (cN st) c1) (cN st) (recR st).cx) :=
        ⟨HC1.out.1.call HN'.out hg hr, HC1.out.2.kept hg (Or.inr fun e => by have := (HC1.out.2.lt _ e).1; have := HN'.out.n2; omega)⟩
      have k4 := HG12.out.1.bx.cell (i := 4) rfl
      have f4 := HG12.out.1.bx.free 4
      clear hg hr HC1 HBY
      go_wp2_with fail
      have HG13 : Hid (Rs w N rb M 55 [.string (ofL key), iV cl, iV sq, .slice a1 (cN st) c1, .bool gy, .slice none 0 0, .slice none 0 0] (s7 st) (w12.setCell ⟨M, 4, none⟩ (.bool gy)) ∧ OwnD' (w12.setCell ⟨M, 4, none⟩ (.bool gy)) (M + 1) (.slice a1 (cN st) c1) (cN st) (recR st).cx) :=
        ⟨HG12.out.1.set HN'.out 4 _, HG12.out.2.kept (gb_set (gb_refl w12 (some M)) 4 _) (Or.inr fun e => by have := (HG12.out.2.lt _ e).1; omega)⟩
      clear HG12 k4 f4
      generalize w12.setCell ⟨M, 4, none⟩ (.bool gy) = w13 at *
      refine (rbytes_any rb 1024 (s7 st) w13 HG13.out.1.rd HSM7.out).mono ?_
      rintro e w14 ⟨v14, rfl, hg, hr, ho⟩
      have hby := bytesS_lt HG13.out.1.rd 1024
      obtain ⟨a2, c2, rfl, _, hvb, _⟩ := own_slice ho hby
      obtain ⟨n2, hn2⟩ : ∃ x, x = (bytesS 1024 (s7 st)).1.length := ⟨_, rfl⟩
      rw [← hn2] at ho ⊢
      have HN2 := Lib.hid (And.intro hn2 hby); clear hn2 hby
      have hM13 := HG13.out.1.bx.lt
      have HG14 : Hid (Rs w N rb M 55 [.string (ofL key), iV cl, iV sq, .slice a1 (cN st) c1, .bool gy, .slice none 0 0, .slice none 0 0] (s8 st) w14 ∧ Two w14 M w14.heap.size (.slice a1 (cN st) c1) (.slice a2 n2 c2) (cN st) n2 (recR st).cx (recR st).val) :=
        ⟨HG13.out.1.call HN'.out hg hr, HG13.out.2.kept hg (Or.inr fun e => by have := (HG13.out.2.lt _ e).1; have := HN'.out.n2; omega), own_down ho (by omega), fun r e => Nat.lt_of_lt_of_le (HG13.out.2.lt r e).2 hg.size, fun r e => (ho.lt r e).2⟩
      have k5 := HG14.out.1.bx.cell (i := 5) rfl
      have f5 := HG14.out.1.bx.free 5
      clear hg hr HG13 ho hvb hM13
      obtain ⟨Bs, hBs⟩ : ∃ Bs, Bs = w14.heap.size := ⟨_, rfl⟩
      rw [← hBs] at HG14
      have hg15 := gb_set (gb_refl w14 (some M)) 5 (.slice a2 n2 c2)
      have HG15 : Hid (Rs w N rb M 55 [.string (ofL key), iV cl, iV sq, .slice a1 (cN st) c1, .bool gy, .slice a2 n2 c2, .slice none 0 0] (s8 st) (w14.setCell ⟨M, 5, none⟩ (.slice a2 n2 c2)) ∧ Two (w14.setCell ⟨M, 5, none⟩ (.slice a2 n2 c2)) M Bs (.slice a1 (cN st) c1) (.slice a2 n2 c2) (cN st) n2 (recR st).cx (recR st).val ∧ Bs ≤ (w14.setCell ⟨M, 5, none⟩ (.slice a2 n2 c2)).heap.size) :=
        ⟨HG14.out.1.set HN'.out 5 _, HG14.out.2.keep hg15 (fun r e => by cases e; exact Or.inl (Nat.le_refl _)), by rw [hBs]; exact hg15.size⟩
      have HMB : Hid (M < Bs) := by show M < Bs; rw [hBs]; exact HG14.out.1.bx.lt
      have HRB := Lib.hid (fun k w' (h : RdS w' rb (sS (s8 st) k).2) => byte_any rb (sS (s8 st) k).2 w' h)
      clear HG14 hBs hg15
      go_wp2_with fail
      generalize hw15 : w14.setCell ⟨M, 5, none⟩ (.slice a2 n2 c2) = w15 at *
      clear hw15 k5 f5
      go_loopw [48] (fun i wr => ∃ (q : Nat), q ≤ 64 ∧ i = .int .i64 q ∧ Hid (∃ a6 k6, Rs w N rb M 55 [.string (ofL key), iV cl, iV sq, .slice a1 (cN st) c1, .bool gy, .slice a2 n2 c2, .slice a6 q k6] (sS (s8 st) q).2 wr ∧ Two wr M Bs (.slice a1 (cN st) c1) (.slice a2 n2 c2) (cN st) n2 (recR st).cx (recR st).val ∧ Bs ≤ wr.heap.size ∧ wr.ownsRow Bs 5 1 (.slice a6 q k6) q ((sS (s8 st) q).1.map u8N))) (fun i _ => 64 - (intOf i).toNat)
      case atStart => exact ⟨0, by omega, rfl, none, 0, HG15.out.1, HG15.out.2.1, HG15.out.2.2, World.ownsRow_nil _ _ _ _⟩
      case round =>
        obtain ⟨q, hq, rfl, HI⟩ := hrel
        by_cases hlt : q < 64
        · have i0 : (q : Int) < 64 := by omega
          obtain ⟨a6, k6, hRs, ht, hBw, ho⟩ := HI.out
          have q6 := hRs.bx.cell (i := 6) rfl
          have HD : Hid (wr.grownBy wr.drew none) := gb_drew (gb_refl _ _)
          have HI2 := Lib.hid (And.intro (hRs.stay HD.out) (And.intro (ht.keep HD.out (fun r e => by cases e)) (And.intro (Nat.le_trans hBw HD.out.size) (And.intro (ho.kept HD.out (by cases (Value.slice a6 q k6).ownBlock <;> simp)) (show q ≤ 64 by omega)))))
          clear hRs ht hBw ho HI
          obtain ⟨x, hx⟩ : ∃ x, x = (byteS (sS (s8 st) q).2).1 := ⟨_, rfl⟩
          have HR1 := Lib.hid (HRB.out q)
          rw [← hx] at HR1
          have HX := Lib.hid hx; clear hx
          go_wp2_with fail
          go_region_law (first
            | (refine Fg.step_call rfl (f := 45) (args := #[.pointer (some ⟨rb, 0, none⟩)]) (Fg.run_call rfl rfl (by simp only [List.map_toArray, List.map_cons, List.map_nil, Act.eval]; rfl) (Fg.run_enter Try.func45 (by kernel_rfl) (by kernel_rfl))) ?_
               refine (HR1.out _ HI2.out.1.rd).mono ?_
               rintro e w16 ⟨rfl, hg16, hr16⟩
               obtain ⟨v2, w17, hap, hR17, ht17, ho17, hz17⟩ := HI2.out.1.reads (x := x) HN'.out HMB.out HI2.out.2.2.1 HI2.out.2.1 HI2.out.2.2.2.1 HI2.out.2.2.2.2 hg16 hr16
               obtain ⟨a7, k7, rfl⟩ : ∃ a7 k7, v2 = .slice a7 (q + 1) k7 := by
                 rcases ho17.2 with ⟨_, h0⟩ | ⟨g, c, _, e, _⟩
                 · omega
                 · exact ⟨_, _, e⟩
               have q6' := (HI2.out.1.call HN'.out hg16 hr16).bx.cell (i := 6) rfl
               have q6'' : (w16.alloc (.cells #[.int .u8 (x : Nat)] 5)).cell? ⟨M, 6, none⟩ = some (.slice a6 q k6) := ((HI2.out.1.call HN'.out hg16 hr16).bx.alloc _).cell (i := 6) rfl
               have r6 := hR17.bx.cell (i := 6) rfl
               have g6 := hR17.bx.free 6
               have HE := Lib.hid (And.intro hR17 (And.intro ht17 (And.intro ho17 hz17)))
               have HAP : Hid ((Builtin.append_ #[22, 22] 22 #[.slice a6 q k6, .slice (some ⟨w16.heap.size, 0, none⟩) 1 1]).run Try.prog (w16.alloc (.cells #[.int .u8 (x : Nat)] 5)) = .ok (.slice a7 (q + 1) k7) w17) := hap
               clear hg16 hr16 hR17 ht17 ho17 hz17 q6 hap
               refine ⟨_, rfl, ?_⟩)
            | (refine Fg.step_append rfl (.tmp 52) (.tmp 55) 22 rfl rfl _ _ rfl rfl _ _ HAP.out ?_))
          all_goals
            have hgS := gb_set (gb_refl w17 (some M)) 6 (.slice a7 (q + 1) k7)
            have HZ : Hid (∃ a6 k6, Rs w N rb M 55 [.string (ofL key), iV cl, iV sq, .slice a1 (cN st) c1, .bool gy, .slice a2 n2 c2, .slice a6 (q + 1) k6] (sS (s8 st) (q + 1)).2 (w17.setCell ⟨M, 6, none⟩ (.slice a7 (q + 1) k7)) ∧ Two (w17.setCell ⟨M, 6, none⟩ (.slice a7 (q + 1) k7)) M Bs (.slice a1 (cN st) c1) (.slice a2 n2 c2) (cN st) n2 (recR st).cx (recR st).val ∧ Bs ≤ (w17.setCell ⟨M, 6, none⟩ (.slice a7 (q + 1) k7)).heap.size ∧ (w17.setCell ⟨M, 6, none⟩ (.slice a7 (q + 1) k7)).ownsRow Bs 5 1 (.slice a6 (q + 1) k6) (q + 1) ((sS (s8 st) (q + 1)).1.map u8N)) :=
              ⟨a7, k7, HE.out.1.set HN'.out 6 _, HE.out.2.1.keep hgS (fun r e => by cases e; exact Or.inl (Nat.le_refl _)), Nat.le_trans HE.out.2.2.2 hgS.size, by rw [sS_succ, ← HX.out]; exact HE.out.2.2.1.kept hgS (Or.inr fun e => by have := (HE.out.2.2.1.lt _ e).1; have := HMB.out; omega)⟩
            clear q6' q6'' r6 g6 hgS
            go_wp2
            go_roundw
            case rel => exact ⟨q + 1, by omega, by go_num, HZ.out⟩
            case measure => simp [intOf]; omega
        · obtain rfl : q = 64 := by omega
          obtain ⟨a6, k6, hRs, ht, hBw, ho⟩ := HI.out
          have z0 := hRs.bx.cell (i := 0) rfl
          have z1 := hRs.bx.cell (i := 1) rfl
          have z2 := hRs.bx.cell (i := 2) rfl
          have z3 := hRs.bx.cell (i := 3) rfl
          have z4 := hRs.bx.cell (i := 4) rfl
          have z5 := hRs.bx.cell (i := 5) rfl
          have z6 := hRs.bx.cell (i := 6) rfl
          have y0 := hRs.res.cell (i := 0) rfl
          have y1 := hRs.res.cell (i := 1) rfl
          have y2 := hRs.res.cell (i := 2) rfl
          have y3 := hRs.res.cell (i := 3) rfl
          have y4 := hRs.res.cell (i := 4) rfl
          have y5 := hRs.res.cell (i := 5) rfl
          have y6 := hRs.res.cell (i := 6) rfl
          have g0 := hRs.res.free 0
          have g1 := hRs.res.free 1
          have g2 := hRs.res.free 2
          have g3 := hRs.res.free 3
          have g4 := hRs.res.free 4
          have g5 := hRs.res.free 5
          have g6 := hRs.res.free 6
          have HE := Lib.hid (And.intro hRs (And.intro ht ho))
          clear hRs ht hBw ho HI
          go_wp2
          obtain ⟨hR, ht, ho⟩ := HE.out
          have hR7 := ((((((hR.res.set 0 (.string (ofL key))).set 1 (.int .i64 cl)).set 2 (.int .i64 sq)).set 3 (.slice a1 (cN st) c1)).set 4 (.bool gy)).set 5 (.slice a2 n2 c2)).set 6 (.slice a6 64 k6)
          have hgN := gb_set (gb_set (gb_set (gb_set (gb_set (gb_set (gb_set (gb_refl wr (some N)) 0 (.string (ofL key))) 1 (.int .i64 cl)) 2 (.int .i64 sq)) 3 (.slice a1 (cN st) c1)) 4 (.bool gy)) 5 (.slice a2 n2 c2)) 6 (.slice a6 64 k6)
          have hNM : N < M := Nat.lt_trans HN'.out.n1 HN'.out.n2
          refine bodyPost_ret (v := .agg #[.string (ofL key), .int .i64 cl, .int .i64 sq, .slice a1 (cN st) c1, .bool gy, .slice a2 n2 c2, .slice a6 64 k6]) (results_cell_row Try.results24 _ _ N 25 _ (0, 0) _ rfl hR7 Try.underlying25 rfl info_recS) rfl ?_
          have ht2 := ht.keep hgN (fun r e => by cases e; left; omega)
          have ho2 := ho.kept hgN (Or.inr fun e => by have := (ho.lt _ e).1; have := HMB.out; omega)
          obtain ⟨a', c', e3, hl1, _, hd⟩ := own_dots ht2.cx
          simp only [Value.slice.injEq, true_and] at e3
          obtain ⟨rfl, rfl⟩ := e3
          obtain ⟨a', c', e5, _, hv, _⟩ := own_slice ht2.val HN2.out.2
          simp only [Value.slice.injEq] at e5
          obtain ⟨rfl, _, rfl⟩ := e5
          obtain ⟨a', c', e6, _, hs, _⟩ := own_slice ho2 (getD_lt (sS_lt (okS_s8 HOK.out) 64))
          simp only [Value.slice.injEq] at e6
          obtain ⟨rfl, _, rfl⟩ := e6
          rw [HQ.out]
          refine ⟨⟨ofL key, a1, cN st, c1, a2, n2, c2, a6, 64, k6⟩, ?_, gb_then hR.gb hgN HN'.out.n0, ⟨?_, hl1, HN2.out.1.symm, sS_len _ _, hd, hv, hs, ?_⟩, ?_⟩
          · rw [HCS.out.1, HCS.out.2, HG.out]; rfl
          · show strL (ofL key) = (recR st).key
            rw [strL_ofL HK.out, HKE.out]; rfl
          · show cN st < 9223372036854775808
            have := (cN_is st).2
            omega
          · have n0 := HN'.out.n0
            refine ⟨fun g o e => ?_, fun g o e => ?_, fun g o e => ?_⟩
            · have := (ht.cx.lt g (by subst e; rfl)).1; omega
            · have := (ht.val.lt g (by subst e; rfl)).1; omega
            · have := (ho.lt g (by subst e; rfl)).1; have := HMB.out; omega
end Rc
end Go.Proofs.Ytohcoihdijemfaa

/- bytes.Equal of any slices of bytes (the shelf's contract). -/
namespace Go.Proofs.Ytohcoihdijemfaa
open Go.RowKit Go.Shelf Ow

def laysEq_ren : Go.Shelf.Ren := ⟨fun | 115 => 26 | n => n, fun | 37 => 22 | 4 => 4 | 9 => 9 | 5 => 5 | n => n, fun | n => n⟩
theorem laysEq : Go.Proofs.Lays.nb115 Try.prog laysEq_ren := {
  mixed := by kernel_rfl
  f115 := Try.func26.trans (congrArg some (by kernel_rfl))
  t4 := Try.underlying4
  a4 := Try.isAgg4
  z4 := Try.sizeOf4
  v4 := Try.zeroValue4
  t9 := Try.underlying9
  a9 := Try.isAgg9
  z9 := Try.sizeOf9
  v9 := Try.zeroValue9
  t37 := Try.underlying22
  a37 := Try.isAgg22
  z37 := Try.sizeOf22
  v37 := Try.zeroValue22
  t5 := Try.underlying5
  a5 := Try.isAgg5
  z5 := Try.sizeOf5
  v5 := Try.zeroValue5 }
theorem bytesIn_of {w : World} {B n cap : Nat} {a : Option Addr} {l : List Nat} (hn : l.length = n) (h : BytesAt w B a cap l) : Lib.BytesIn w a n (l.map Int.ofNat) := by
  subst hn
  rcases h.cells with h0 | ⟨pb, po, rfl, _, hc⟩
  · intro hp; omega
  · exact Lib.BytesIn.of_cells fun i hi => by
      have hadd : (⟨pb, po, none⟩ : Addr).add i = ⟨pb, po + i, none⟩ := by unfold Addr.add; split <;> simp_all
      rw [hadd, hc i hi]
      simp only [u8N, List.getD_eq_getElem?_getD, List.getElem?_map, List.getElem?_eq_getElem hi, Option.map_some, Option.getD_some]
      rfl
theorem bytesOf_inj {p q : List Nat} (hp : ∀ i, p.getD i 0 < 256) (hq : ∀ i, q.getD i 0 < 256) : (Lib.bytesOf (p.map Int.ofNat) == Lib.bytesOf (q.map Int.ofNat)) = decide (p = q) := by
  rw [Bool.eq_iff_iff, beq_iff_eq, decide_eq_true_iff]
  constructor
  · intro h
    have hl : p.length = q.length := by have := congrArg List.length h; simpa [Lib.bytesOf] using this
    apply List.ext_getElem hl
    intro i h1 h2
    have e : (Lib.bytesOf (p.map Int.ofNat))[i]? = (Lib.bytesOf (q.map Int.ofNat))[i]? := by rw [h]
    simp only [Lib.bytesOf, List.getElem?_map, List.getElem?_eq_getElem h1, List.getElem?_eq_getElem h2, Option.map_some, Option.some.injEq] at e
    have e2 := congrArg UInt8.toNat e
    have a1 := hp i
    have a2 := hq i
    rw [List.getD_eq_getElem?_getD, List.getElem?_eq_getElem h1] at a1
    rw [List.getD_eq_getElem?_getD, List.getElem?_eq_getElem h2] at a2
    simp only [Option.getD_some] at a1 a2
    rw [UInt8.toNat_ofNat', UInt8.toNat_ofNat'] at e2
    simp only [Int.ofNat_eq_natCast, Int.toNat_natCast] at e2
    omega
  · rintro rfl; rfl
theorem bytesEq_any (B1 B2 n m c d : Nat) (a1 a2 : Option Addr) (p q : List Nat) (w : World) (hn : p.length = n) (hm : q.length = m) (h1 : BytesAt w B1 a1 c p) (h2 : BytesAt w B2 a2 d q) :
    Calls Try.prog 26 #[.slice a1 n c, .slice a2 m d] w fun e w' => e = .returned (.bool (decide (p = q))) ∧ w' = w := by
  refine (Any.bytes_Equal_all laysEq a1 a2 n c m d (p.map Int.ofNat) (q.map Int.ofNat) w (by simpa using hn) (by simpa using hm) (bytesIn_of hn h1) (bytesIn_of hm h2)).mono ?_
  rintro e w' ⟨rfl, rfl⟩
  exact ⟨by rw [bytesOf_inj h1.byte h2.byte], rfl⟩
end Go.Proofs.Ytohcoihdijemfaa

/- record.Get: the right record whose bytes these are. -/
namespace Go.Proofs.Ytohcoihdijemfaa
open Go.RowKit Ow Wi Ve
namespace Rc
/-- what Get tells -/
def GOut (w : World) (b : Bool) (r : R) (e : Ending) (w' : World) : Prop :=
  w.grownBy w' none ∧ if b then ∃ q : L, e = .returned (.tuple #[q.v r, .int .i64 0]) ∧ RAt w' w'.heap.size q r ∧ q.New w.heap.size else e = .returned (.tuple #[.agg z7.toArray, .int .i64 4])
set_option maxHeartbeats 2000000 in
set_option maxRecDepth 100000 in
theorem rget_any (n cap B : Nat) (a : Option Addr) (l : List Nat) (w : World) (hl : l.length = n) (hn : n ≤ 1000000) (hP : BytesAt w B a cap l) :
    Calls Try.prog 10 #[.slice a n cap] w (GOut w (getB l) (recR (some l))) := by
  have HR := Lib.hid (fun w' (hg : w.grownBy w' none) => read_any n cap B a l w' hl hn (hP.stay hg))
  obtain ⟨r, hr⟩ : ∃ r, r = recR (some l) := ⟨_, rfl⟩
  rw [← hr] at HR ⊢
  have hgb : getB l = (rightB r && decide (putL r = l)) := by rw [hr]; rfl
  obtain ⟨Q, hQ⟩ : ∃ Q, Q = GOut w (getB l) r := ⟨_, rfl⟩
  rw [← hQ]
  rw [hgb] at hQ
  have HQ := Lib.hid hQ; clear hQ hgb hr
  have HPB := Lib.hid (And.intro hl hP); clear hl hP hn
  obtain ⟨N, hN⟩ : ∃ N, N = w.heap.size := ⟨_, rfl⟩
  obtain ⟨W0, hW0⟩ : ∃ W0, W0 = w.alloc (.cells z7.toArray 25) := ⟨_, rfl⟩
  have hg0 : w.grownBy W0 none := by rw [hW0]; exact gb_alloc (gb_refl _ _) _
  have hb0 : Blk W0 N 25 z7 := by rw [hW0, hN]; exact Blk.new _ _ _
  have HG0 := Lib.hid (And.intro hg0 (And.intro hb0 (Nat.le_of_eq hN.symm))); clear hg0 hb0
  go_enter Try.func10, Try.ntmps10
  go_wp2_with fail
  rw [show w.alloc (.cells #[.string ⟨#[]⟩, iV 0, iV 0, .slice none 0 0, .bool false, .slice none 0 0, .slice none 0 0] 25) = W0 from hW0.symm, ← hN]
  clear hW0 hN
  refine (HR.out W0 HG0.out.1).mono ?_
  rintro e w1 ⟨q, rfl, hg1, hq, hnew⟩
  have HP := Lib.hid (fun w' (hg : w1.grownBy w' none) => rput_any r w1.heap.size w' q (hq.stay hg))
  have HA := Lib.hid (And.intro hq (And.intro hnew HG0.out.2.1.lt)); clear hnew
  obtain ⟨s, a1, n1, c1, a2, n2, c2, a3, n3, c3⟩ := q
  have HV : Hid ((L.mk s a1 n1 c1 a2 n2 c2 a3 n3 c3).v r = .agg #[.string s, iV r.cl, iV r.sq, .slice a1 n1 c1, .bool r.gone, .slice a2 n2 c2, .slice a3 n3 c3]) := rfl
  rw [HV.out] at HP ⊢
  generalize r.cl = cl at *
  generalize r.sq = sq at *
  generalize r.gone = g at *
  obtain ⟨M, hM⟩ : ∃ M, M = w1.heap.size := ⟨_, rfl⟩
  obtain ⟨W2, hW2⟩ : ∃ W2, W2 = w1.alloc (.cells #[.string s, iV cl, iV sq, .slice a1 n1 c1, .bool g, .slice a2 n2 c2, .slice a3 n3 c3] 25) := ⟨_, rfl⟩
  have hg2 : w1.grownBy W2 none := by rw [hW2]; exact gb_alloc (gb_refl _ _) _
  have hb2 : Blk W2 M 25 [.string s, iV cl, iV sq, .slice a1 n1 c1, .bool g, .slice a2 n2 c2, .slice a3 n3 c3] := by rw [hW2, hM]; exact Blk.new _ _ _
  have HG2 := Lib.hid (And.intro hg2 (And.intro hb2 (And.intro ((HG0.out.2.1.grown hg1 (by simp)).grown hg2 (by simp)) (gb_trans HG0.out.1 (gb_trans hg1 hg2))))); clear hg1 hg2 hb2 hq
  go_wp2_with fail
  rw [← hW2, ← hM]
  clear hW2 hM
  refine (HP.out W2 HG2.out.1).mono ?_
  rintro e w3 ⟨ao, co, rfl, hg3, hB3⟩
  have HG3 := Lib.hid (And.intro hg3 (And.intro (HG2.out.2.1.grown hg3 (by simp)) (And.intro (HG2.out.2.2.1.grown hg3 (by simp)) (And.intro (gb_trans HG2.out.2.2.2 hg3) (gb_trans HG2.out.1 hg3))))); clear hg3
  have HE := Lib.hid (bytesEq_any _ B (putO r).length n co cap ao a (putO r) l w3 rfl HPB.out.1 hB3 (HPB.out.2.stay HG3.out.2.2.2.1)); clear hB3 HP HG2
  have HO : Hid (rightB r = true → putO r = putL r) := fun h => by unfold putO; rw [h]; rfl
  generalize (putO r).length = no at *
  cases hb : rightB r with
  | false =>
    have HF := Lib.hid hb; clear hb
    clear HE HO
    have y0 := HG3.out.2.2.1.cell (i := 0) rfl
    have g0 := HG3.out.2.2.1.free 0
    have y1 := HG3.out.2.2.1.cell (i := 1) rfl
    have g1 := HG3.out.2.2.1.free 1
    have y2 := HG3.out.2.2.1.cell (i := 2) rfl
    have g2 := HG3.out.2.2.1.free 2
    have y3 := HG3.out.2.2.1.cell (i := 3) rfl
    have g3 := HG3.out.2.2.1.free 3
    have y4 := HG3.out.2.2.1.cell (i := 4) rfl
    have g4 := HG3.out.2.2.1.free 4
    have y5 := HG3.out.2.2.1.cell (i := 5) rfl
    have g5 := HG3.out.2.2.1.free 5
    have y6 := HG3.out.2.2.1.cell (i := 6) rfl
    have g6 := HG3.out.2.2.1.free 6
    rw [show errN false 4 = 4 from rfl]
    go_wp2
    have hR7 := ((((((HG3.out.2.2.1.set 0 (.string ⟨#[]⟩)).set 1 (iV 0)).set 2 (iV 0)).set 3 (.slice none 0 0)).set 4 (.bool false)).set 5 (.slice none 0 0)).set 6 (.slice none 0 0)
    refine bodyPost_ret (v := .tuple #[.agg z7.toArray, .int .i64 4]) (Fg.res_row_tmp Try.results10 _ _ N 25 z7.toArray (0, 0) _ rfl hR7 Try.underlying25 rfl info_recS rfl) rfl ?_
    rw [HQ.out, HF.out]
    exact ⟨gb_then HG3.out.2.2.2.1 (gb_set (gb_set (gb_set (gb_set (gb_set (gb_set (gb_set (gb_refl w3 (some N)) 0 _) 1 _) 2 _) 3 _) 4 _) 5 _) 6 _) HG0.out.2.2, rfl⟩
  | true =>
    have HF := Lib.hid hb; clear hb
    rw [HO.out HF.out] at HE
    clear HO
    rw [show errN true 4 = 0 from rfl]
    cases hd : decide (putL r = l) with
    | false =>
      rw [hd] at HE
      have HD := Lib.hid hd; clear hd
      have y0 := HG3.out.2.2.1.cell (i := 0) rfl
      have g0 := HG3.out.2.2.1.free 0
      have y1 := HG3.out.2.2.1.cell (i := 1) rfl
      have g1 := HG3.out.2.2.1.free 1
      have y2 := HG3.out.2.2.1.cell (i := 2) rfl
      have g2 := HG3.out.2.2.1.free 2
      have y3 := HG3.out.2.2.1.cell (i := 3) rfl
      have g3 := HG3.out.2.2.1.free 3
      have y4 := HG3.out.2.2.1.cell (i := 4) rfl
      have g4 := HG3.out.2.2.1.free 4
      have y5 := HG3.out.2.2.1.cell (i := 5) rfl
      have g5 := HG3.out.2.2.1.free 5
      have y6 := HG3.out.2.2.1.cell (i := 6) rfl
      have g6 := HG3.out.2.2.1.free 6
      go_wp2_with fail
      refine HE.out.mono ?_
      rintro e w4 ⟨rfl, rfl⟩
      go_wp2
      have hR7 := ((((((HG3.out.2.2.1.set 0 (.string ⟨#[]⟩)).set 1 (iV 0)).set 2 (iV 0)).set 3 (.slice none 0 0)).set 4 (.bool false)).set 5 (.slice none 0 0)).set 6 (.slice none 0 0)
      refine bodyPost_ret (v := .tuple #[.agg z7.toArray, .int .i64 4]) (Fg.res_row_tmp Try.results10 _ _ N 25 z7.toArray (0, 0) _ rfl hR7 Try.underlying25 rfl info_recS rfl) rfl ?_
      rw [HQ.out, HF.out, HD.out]
      exact ⟨gb_then HG3.out.2.2.2.1 (gb_set (gb_set (gb_set (gb_set (gb_set (gb_set (gb_set (gb_refl w4 (some N)) 0 _) 1 _) 2 _) 3 _) 4 _) 5 _) 6 _) HG0.out.2.2, rfl⟩
    | true =>
      rw [hd] at HE
      have HD := Lib.hid hd; clear hd
      have y0 := HG3.out.2.2.1.cell (i := 0) rfl
      have g0 := HG3.out.2.2.1.free 0
      have y1 := HG3.out.2.2.1.cell (i := 1) rfl
      have g1 := HG3.out.2.2.1.free 1
      have y2 := HG3.out.2.2.1.cell (i := 2) rfl
      have g2 := HG3.out.2.2.1.free 2
      have y3 := HG3.out.2.2.1.cell (i := 3) rfl
      have g3 := HG3.out.2.2.1.free 3
      have y4 := HG3.out.2.2.1.cell (i := 4) rfl
      have g4 := HG3.out.2.2.1.free 4
      have y5 := HG3.out.2.2.1.cell (i := 5) rfl
      have g5 := HG3.out.2.2.1.free 5
      have y6 := HG3.out.2.2.1.cell (i := 6) rfl
      have g6 := HG3.out.2.2.1.free 6
      have z0 := HG3.out.2.1.cell (i := 0) rfl
      have z1 := HG3.out.2.1.cell (i := 1) rfl
      have z2 := HG3.out.2.1.cell (i := 2) rfl
      have z3 := HG3.out.2.1.cell (i := 3) rfl
      have z4 := HG3.out.2.1.cell (i := 4) rfl
      have z5 := HG3.out.2.1.cell (i := 5) rfl
      have z6 := HG3.out.2.1.cell (i := 6) rfl
      go_wp2_with fail
      refine HE.out.mono ?_
      rintro e w4 ⟨rfl, rfl⟩
      go_wp2
      have hR7 := ((((((HG3.out.2.2.1.set 0 (.string s)).set 1 (iV cl)).set 2 (iV sq)).set 3 (.slice a1 n1 c1)).set 4 (.bool g)).set 5 (.slice a2 n2 c2)).set 6 (.slice a3 n3 c3)
      refine bodyPost_ret (v := .tuple #[.agg #[.string s, iV cl, iV sq, .slice a1 n1 c1, .bool g, .slice a2 n2 c2, .slice a3 n3 c3], .int .i64 0]) (Fg.res_row_tmp Try.results10 _ _ N 25 _ (0, 0) _ rfl hR7 Try.underlying25 rfl info_recS rfl) rfl ?_
      rw [HQ.out, HF.out, HD.out]
      have hgN := gb_set (gb_set (gb_set (gb_set (gb_set (gb_set (gb_set (gb_refl w4 (some N)) 0 (.string s)) 1 (iV cl)) 2 (iV sq)) 3 (.slice a1 n1 c1)) 4 (.bool g)) 5 (.slice a2 n2 c2)) 6 (.slice a3 n3 c3)
      refine ⟨gb_then HG3.out.2.2.2.1 hgN HG0.out.2.2, _, congrArg (fun v => Ending.returned (Value.tuple #[v, .int .i64 0])) HV.out.symm, ?_⟩
      refine ⟨((HA.out.1.stay HG3.out.2.2.2.2).apart hgN HA.out.2.1 HA.out.2.2).full, ?_⟩
      have hz := HG0.out.1.size
      exact ⟨fun g o e => Nat.le_trans hz (HA.out.2.1.1 g o e), fun g o e => Nat.le_trans hz (HA.out.2.1.2.1 g o e), fun g o e => Nat.le_trans hz (HA.out.2.1.2.2 g o e)⟩
end Rc
end Go.Proofs.Ytohcoihdijemfaa

/- The document's reader (buttressref06): what each call tells. -/
namespace Go.Proofs.Ytohcoihdijemfaa
open Go.RowKit Ow Wi

/-- the document's reader of what is left, or one that is not good -/
def RefS (w : World) (sb : Nat) (st : St) : Prop :=
  ∃ (a : Option Addr) (n cap s : Nat) (bad : Bool) (full : List Nat), Blk w sb 66 [.slice a n cap, .int .i64 s, .bool bad] ∧ full.length = n ∧ n ≤ 100000 ∧ s ≤ n ∧ BytesOff w sb a cap full ∧ (bad = true ∧ st = none ∨ bad = false ∧ st = some (full.drop s))
theorem RefS.stay {w w' : World} {sb : Nat} {st : St} (h : RefS w sb st) (hg : w.grownBy w' none) : RefS w' sb st := by
  obtain ⟨a, n, cap, s, bad, full, hb, h1, h2, h3, hP, h4⟩ := h
  exact ⟨a, n, cap, s, bad, full, hb.grown hg (by simp), h1, h2, h3, hP.stay (gb_row hg _), h4⟩
theorem RefS.beside {w w' : World} {sb T : Nat} {st : St} (h : RefS w sb st) (hg : w.grownBy w' (some T)) (hT : sb < T) : RefS w' sb st := by
  obtain ⟨a, n, cap, s, bad, full, hb, h1, h2, h3, hP, h4⟩ := h
  exact ⟨a, n, cap, s, bad, full, hb.grown hg (by simp; omega), h1, h2, h3, hP.beside hg hT, h4⟩
theorem RefS.lt {w : World} {sb : Nat} {st : St} (h : RefS w sb st) : sb < w.heap.size := by
  obtain ⟨_, _, _, _, _, _, hb, _⟩ := h
  exact hb.lt
theorem gb_drewN' (w : World) (n : Nat) : w.grownBy (w.drewN n) none := gb_drewN (gb_refl _ _) n
set_option maxHeartbeats 1000000 in
theorem ref_done (sb : Nat) (st : St) (w : World) (h : RefS w sb st) :
    Calls Try.prog 32 #[.pointer (some ⟨sb, 0, none⟩)] w fun e w' => e = .returned (.bool (decide (st = some []))) ∧ w.grownBy w' none := by
  obtain ⟨a, n, cap, s, bad, full, hb, h1, h2, h3, hP, h4⟩ := h
  have c0 := hb.cell (i := 0) rfl
  have c1 := hb.cell (i := 1) rfl
  have c2 := hb.cell (i := 2) rfl
  rcases h4 with ⟨rfl, rfl⟩ | ⟨rfl, rfl⟩
  · rw [show decide ((none : St) = some []) = false by decide]
    clear hP hb h1
    go_enter Try.func32, Try.ntmps32
    go_wp2_with fail
    go_quiet (fail)
    go_wp2
    go_ret
    exact ⟨rfl, gb_drewN' _ _⟩
  · by_cases hs : s = n
    · have hd : Hid (decide ((some (full.drop s) : St) = some []) = true) := decide_eq_true (by rw [hs, ← h1, List.drop_length])
      rw [hd.out]
      have i0 : (s : Int) = (n : Int) := by omega
      clear hP hb h1 hs
      go_enter Try.func32, Try.ntmps32
      go_wp2_with fail
      go_quiet (fail)
      go_wp2
      go_ret
      exact ⟨rfl, gb_drewN' _ _⟩
    · have hd : Hid (decide ((some (full.drop s) : St) = some []) = false) := decide_eq_false (fun e => by
        have e2 := congrArg List.length (Option.some.inj e)
        rw [List.length_drop, h1] at e2
        simp at e2
        omega)
      rw [hd.out]
      have i0 : ((s : Int) == (n : Int)) = false := by rw [beq_eq_false_iff_ne]; omega
      clear hP hb h1 hs
      go_enter Try.func32, Try.ntmps32
      go_wp2_with fail
      go_quiet (fail)
      go_wp2
      go_ret
      exact ⟨rfl, gb_drewN' _ _⟩
set_option maxHeartbeats 1000000 in
/-- so many are left, of a good one -/
theorem left_yes (sb n cap s m : Nat) (a : Option Addr) (w : World) (hb : Blk w sb 66 [.slice a n cap, .int .i64 s, .bool false]) (hn : n ≤ 100000) (hs : s + m ≤ n) :
    Calls Try.prog 50 #[.pointer (some ⟨sb, 0, none⟩), .int .i64 m] w fun e w' => e = .returned (.bool true) ∧ ∃ q, w' = w.drewN q := by
  have c0 := hb.cell (i := 0) rfl
  have c1 := hb.cell (i := 1) rfl
  have c2 := hb.cell (i := 2) rfl
  have d0 : decide ((m : Int) < 0) = false := decide_eq_false (by omega)
  have d1 : decide (IntKind.i64.wrap ((n : Int) - (s : Int)) < (m : Int)) = false := decide_eq_false (by rw [IntWalk.i64_in _ (by omega)]; omega)
  clear hb
  go_enter Try.func50, Try.ntmps50
  go_wp2_with fail
  go_quiet (fail)
  go_wp2
  go_ret
  exact ⟨rfl, _, rfl⟩
set_option maxHeartbeats 1000000 in
theorem left_no (sb n cap s : Nat) (m : Int) (bad : Bool) (a : Option Addr) (w : World) (hb : Blk w sb 66 [.slice a n cap, .int .i64 s, .bool bad]) (hn : n ≤ 100000) (hsn : s ≤ n) (h : bad = true ∨ m < 0 ∨ (n : Int) - s < m) :
    Calls Try.prog 50 #[.pointer (some ⟨sb, 0, none⟩), .int .i64 m] w fun e w' => e = .returned (.bool false) ∧ w.grownBy w' (some sb) ∧ Blk w' sb 66 [.slice a n cap, .int .i64 s, .bool true] := by
  have c0 := hb.cell (i := 0) rfl
  have c1 := hb.cell (i := 1) rfl
  have c2 := hb.cell (i := 2) rfl
  have f2 := hb.free 2
  have HB := Lib.hid hb
  have fin : ∀ nq, w.grownBy ((w.drewN nq).setCell ⟨sb, 2, none⟩ (.bool true)) (some sb) ∧ Blk ((w.drewN nq).setCell ⟨sb, 2, none⟩ (.bool true)) sb 66 [.slice a n cap, .int .i64 s, .bool true] := fun nq =>
    ⟨gb_set (gb_row (gb_drewN' w nq) _) 2 _, (HB.out.grown (gb_drewN' w nq) (by simp)).set 2 _⟩
  have HF := Lib.hid fin
  clear hb fin
  cases bad with
  | true =>
    clear h
    go_enter Try.func50, Try.ntmps50
    go_wp2_with fail
    go_quiet (fail)
    go_wp2
    go_ret
    exact ⟨rfl, HF.out _⟩
  | false =>
    by_cases hm : m < 0
    · have d0 : decide (m < 0) = true := decide_eq_true hm
      clear h hm
      go_enter Try.func50, Try.ntmps50
      go_wp2_with fail
      go_quiet (fail)
      go_wp2
      go_ret
      exact ⟨rfl, HF.out _⟩
    · have d0 : decide (m < 0) = false := decide_eq_false hm
      have d1 : decide (IntKind.i64.wrap ((n : Int) - (s : Int)) < m) = true := decide_eq_true (by rw [IntWalk.i64_in _ (by omega)]; simp at h; omega)
      have d2 : decide ((n : Int) - (s : Int) < m) = true := decide_eq_true (by simp at h; omega)
      clear h hm
      go_enter Try.func50, Try.ntmps50
      go_wp2_with fail
      go_quiet (fail)
      go_wp2
      go_ret
      exact ⟨rfl, HF.out _⟩
theorem off_at {w : World} {sb cap s : Nat} {a : Option Addr} {full : List Nat} (hP : BytesOff w sb a cap full) (h : s < full.length) : ∃ pb po, a = some ⟨pb, po, none⟩ ∧ pb < sb ∧ w.cell? ⟨pb, po + s, none⟩ = some (.int .u8 ((full.getD s 0 : Nat) : Int)) := by
  obtain ⟨pb, po, e, hlt, hc⟩ := hP.1.cells.resolve_left (by omega)
  exact ⟨pb, po, e, (hP.2.resolve_left (by omega)) pb po e, hc s h⟩
theorem drop_step (l : List Nat) (s : Nat) (h : s < l.length) : l.drop s = l.getD s 0 :: l.drop (s + 1) := by
  rw [List.drop_eq_getElem_cons h, List.getD_eq_getElem?_getD, List.getElem?_eq_getElem h]; rfl
set_option maxHeartbeats 1000000 in
theorem ref_byte (sb : Nat) (st : St) (w : World) (h : RefS w sb st) :
    Calls Try.prog 28 #[.pointer (some ⟨sb, 0, none⟩)] w fun e w' => e = .returned (.int .u8 ((byteS st).1 : Nat)) ∧ w.grownBy w' (some sb) ∧ RefS w' sb (byteS st).2 := by
  obtain ⟨a, n, cap, s, bad, full, hb, h1, h2, h3, hP, h4⟩ := h
  have stop : (bad = true ∨ (1 : Int) < 0 ∨ (n : Int) - s < 1) → byteS st = (0, none) → Calls Try.prog 28 #[.pointer (some ⟨sb, 0, none⟩)] w fun e w' => e = .returned (.int .u8 ((byteS st).1 : Nat)) ∧ w.grownBy w' (some sb) ∧ RefS w' sb (byteS st).2 := by
    intro hno hs
    have HL := Lib.hid (left_no sb n cap s 1 bad a w hb h2 h3 hno)
    have HP := Lib.hid hP
    rw [hs]
    clear hno hs h4 hb hP
    go_enter Try.func28, Try.ntmps28
    go_wp2_with fail
    refine HL.out.mono ?_
    rintro e w1 ⟨rfl, hg, hb⟩
    have H := Lib.hid (And.intro hg hb); clear hg hb
    go_wp2
    go_ret
    exact ⟨rfl, H.out.1, a, n, cap, s, true, full, H.out.2, h1, h2, h3, HP.out.stay H.out.1, Or.inl ⟨rfl, rfl⟩⟩
  rcases h4 with ⟨rfl, rfl⟩ | ⟨rfl, rfl⟩
  · exact stop (Or.inl rfl) rfl
  · by_cases hs : s < n
    · clear stop
      have e1 : byteS (some (full.drop s)) = (full.getD s 0, some (full.drop (s + 1))) := by
        unfold byteS tells rdWord
        rw [drop_step full s (by omega)]
        simp [wN]
      rw [e1]
      have HL := Lib.hid (left_yes sb n cap s 1 a w hb h2 (by omega))
      obtain ⟨pb, po, rfl, hpb, k0⟩ := off_at hP (s := s) (by omega)
      have HB := Lib.hid (And.intro hb hP)
      have c1 := hb.cell (i := 1) rfl
      have f1 := hb.free 1
      generalize full.getD s 0 = x at *
      clear e1 hb hP
      go_enter Try.func28, Try.ntmps28
      go_wp2_with fail
      refine HL.out.mono ?_
      rintro e w1 ⟨rfl, q, rfl⟩
      go_upto_region 4 with fail
      have hg := gb_set (gb_row (gb_drewN' w q) (some sb)) 1 (.int .i64 ((s : Int) + 1))
      have hb2 := (HB.out.1.grown (gb_drewN' w q) (by simp)).set 1 (.int .i64 ((s : Int) + 1))
      have k2 : ((w.drewN q).setCell ⟨sb, 1, none⟩ (.int .i64 ((s : Int) + 1))).cell? ⟨pb, po + s, none⟩ = some (.int .u8 ((x : Nat) : Int)) := by
        rw [gb_cell hg (p := ⟨pb, po + s, none⟩) (by have := HB.out.1.lt; show pb < w.heap.size; omega) (by simp; omega)]; exact k0
      have k0' := hb2.cell (i := 0) rfl
      have k1' := hb2.cell (i := 1) rfl
      have HF := Lib.hid (And.intro hg (And.intro hb2 (HB.out.2.stay hg)))
      have x1 : IntKind.i64.wrap ((s : Int) + 1 - 1) = s := by rw [IntWalk.i64_in _ (by omega)]; omega
      have x2 : (s : Int) + 1 - 1 = s := by omega
      have x3 : (s : Int) < (n : Int) := by omega
      clear hg hb2 c1 f1 k0 HL HB
      generalize (w.drewN q).setCell ⟨sb, 1, none⟩ (.int .i64 ((s : Int) + 1)) = w2 at *
      go_quiet (fail)
      go_wp2
      go_ret
      obtain ⟨hg, hb2, hP2⟩ := HF.out
      have gq := gb_drewN' w2 nq
      exact ⟨rfl, gb_trans hg (gb_row gq _), _, n, cap, s + 1, false, full, hb2.grown gq (by simp), h1, h2, hs, hP2.stay (gb_row gq _), Or.inr ⟨rfl, rfl⟩⟩
    · refine stop (Or.inr (Or.inr (by omega))) ?_
      unfold byteS tells rdWord
      rw [List.drop_eq_nil_of_le (by omega)]
      rfl
theorem word8_some {l : List Nat} (h : 8 ≤ l.length) : numS (some l) = (wN (l.take 8), some (l.drop 8)) := by
  unfold numS tells rdWord
  simp only [if_pos h]
theorem word8_none {l : List Nat} (h : ¬ 8 ≤ l.length) : numS (some l) = (0, none) := by
  unfold numS tells rdWord
  simp only [if_neg h]
set_option maxHeartbeats 1000000 in
theorem ref_number (sb : Nat) (st : St) (w : World) (h : RefS w sb st) :
    Calls Try.prog 30 #[.pointer (some ⟨sb, 0, none⟩)] w fun e w' => e = .returned (.int .i64 (toI (numS st).1)) ∧ w.grownBy w' (some sb) ∧ RefS w' sb (numS st).2 := by
  obtain ⟨a, n, cap, s, bad, full, hb, h1, h2, h3, hP, h4⟩ := h
  have stop : (bad = true ∨ (8 : Int) < 0 ∨ (n : Int) - s < 8) → numS st = (0, none) → Calls Try.prog 30 #[.pointer (some ⟨sb, 0, none⟩)] w fun e w' => e = .returned (.int .i64 (toI (numS st).1)) ∧ w.grownBy w' (some sb) ∧ RefS w' sb (numS st).2 := by
    intro hno hs
    have HL := Lib.hid (left_no sb n cap s 8 bad a w hb h2 h3 hno)
    have HP := Lib.hid hP
    rw [hs]
    clear hno hs h4 hb hP
    go_enter Try.func30, Try.ntmps30
    go_wp2_with fail
    refine HL.out.mono ?_
    rintro e w1 ⟨rfl, hg, hb⟩
    have H := Lib.hid (And.intro hg hb); clear hg hb
    go_wp2
    go_ret
    exact ⟨rfl, H.out.1, a, n, cap, s, true, full, H.out.2, h1, h2, h3, HP.out.stay H.out.1, Or.inl ⟨rfl, rfl⟩⟩
  rcases h4 with ⟨rfl, rfl⟩ | ⟨rfl, rfl⟩
  · exact stop (Or.inl rfl) rfl
  · by_cases hs : s + 8 ≤ n
    · clear stop
      rw [word8_some (by rw [List.length_drop]; omega)]
      have HL := Lib.hid (left_yes sb n cap s 8 a w hb h2 hs)
      have hPb := getD_drop full s
      have hby : ∀ i, (full.drop s).getD i 0 < 256 := fun i => by rw [getD_drop]; exact hP.1.byte _
      have hne : ∀ k, k < 8 → wN ((full.drop s).take (k + 1)) = wN ((full.drop s).take k) * 256 + full.getD (s + k) 0 := fun k hk => by rw [wN_next (full.drop s) k (by rw [List.length_drop]; omega), getD_drop]
      have hle : ∀ k, k ≤ 7 → wN ((full.drop s).take k) < 72057594037927936 := fun k hk => wN_le (full.drop s) k hby hk
      have hw8 := conv_yes _ (wN_word (full.drop s) hby 8 (by decide))
      have hdd : (full.drop s).drop 8 = full.drop (s + 8) := by rw [List.drop_drop]
      rw [hdd]
      have HM := Lib.hid (And.intro hne (And.intro hle (And.intro hw8 hP.1.byte)))
      obtain ⟨pb, po, rfl, hpb, k0⟩ := off_at hP (s := s) (by omega)
      have hcell := (hP.1.cells.resolve_left (by omega))
      have HB := Lib.hid (And.intro hb (And.intro hP hcell))
      clear hne hle hw8 hby hPb hb hP hcell k0 hdd
      go_enter Try.func30, Try.ntmps30
      go_wp2_with fail
      refine HL.out.mono ?_
      rintro e w1 ⟨rfl, q0, rfl⟩
      go_wp2_with fail
      go_loopw [3, 4] (fun v i wr => ∃ k j : Nat, k ≤ 8 ∧ i = .int .i64 k ∧ v = .int .u64 (wN ((full.drop s).take k)) ∧ wr = w.drewN j) (fun _ i _ => 8 - (intOf i).toNat)
      case atStart => exact ⟨0, _, by omega, rfl, rfl, rfl⟩
      case round =>
        obtain ⟨k, j, hk, rfl, rfl, rfl⟩ := hrel
        by_cases hlt : k < 8
        · have i0 : (k : Int) < 8 := by omega
          have c0 := HB.out.1.cell (i := 0) rfl
          have c1 := HB.out.1.cell (i := 1) rfl
          have k1 : w.cell? ⟨pb, po + (s + k), none⟩ = some (.int .u8 ((full.getD (s + k) 0 : Nat) : Int)) := by
            obtain ⟨pb', po', e, _, hc⟩ := HB.out.2.2
            cases e
            exact hc (s + k) (by omega)
          have hb256 := HM.out.2.2.2 (s + k)
          have hle := HM.out.2.1 k (by omega)
          have hbits := wN_bits _ _ hle hb256
          have HN := Lib.hid (HM.out.1 k hlt)
          generalize wN ((full.drop s).take k) = x at *
          generalize full.getD (s + k) 0 = b at *
          have x1 : IntKind.i64.wrap ((s : Int) + (k : Int)) = (s : Int) + k := by rw [IntWalk.i64_in _ (by omega)]
          have x3 : (s : Int) + (k : Int) < (n : Int) := by omega
          have x7 : ((s : Int) + (k : Int)).toNat = s + k := by omega
          have x8 : ¬ (s : Int) + (k : Int) < 0 := by omega
          have x5 : IntKind.u64.wrap ((x : Int) * 256) = (x : Int) * 256 := by rw [IntKind.wrap_u64]; omega
          have x6 : IntKind.u64.wrap (b : Int) = (b : Int) := by rw [IntKind.wrap_u64]; omega
          go_wp2_with fail
          go_quiet (fail)
          go_wp2_with fail
          exact ⟨⟨k + 1, _, hlt, rfl, by rw [HN.out, Int.natCast_add, Int.natCast_mul]; rfl, rfl⟩, by show 8 - ((k : Int) + 1).toNat < 8 - (k : Int).toNat; omega⟩
        · obtain rfl : k = 8 := by omega
          have c1 := (HB.out.1.grown (gb_drewN' w j) (by simp)).cell (i := 1) rfl
          have f1 := (HB.out.1.grown (gb_drewN' w j) (by simp)).free 1
          have hw8 := HM.out.2.2.1
          generalize hx : wN ((full.drop s).take 8) = x at *
          have HX := Lib.hid hx; clear hx
          go_wp2
          go_ret
          have hg := gb_set (gb_row (gb_drewN' w j) (some sb)) 1 (.int .i64 ((s : Int) + 8))
          exact ⟨congrArg (fun z => Ending.returned (.int .i64 (toI z))) HX.out.symm, hg, _, n, cap, s + 8, false, full, (HB.out.1.grown (gb_drewN' w j) (by simp)).set 1 _, h1, h2, hs, HB.out.2.1.stay hg, Or.inr ⟨rfl, rfl⟩⟩
    · refine stop (Or.inr (Or.inr (by omega))) (word8_none (by rw [List.length_drop]; omega))
theorem count_num (most : Int) (st : St) : (∃ v, numS st = (v, none) ∧ countS most st = (0, none)) ∨ ∃ v r, numS st = (v, some r) ∧ (0 ≤ toI v ∧ toI v ≤ most ∧ countS most st = (toI v, some r) ∨ ¬ (0 ≤ toI v ∧ toI v ≤ most) ∧ countS most st = (0, none)) := by
  cases st with
  | none => exact Or.inl ⟨0, rfl, rfl⟩
  | some l =>
    by_cases h8 : 8 ≤ l.length
    · refine Or.inr ⟨_, _, word8_some h8, ?_⟩
      unfold countS tells rdCount
      by_cases h : 0 ≤ toI (wN (l.take 8)) ∧ toI (wN (l.take 8)) ≤ most
      · left
        refine ⟨h.1, h.2, ?_⟩
        simp only [if_pos (show 8 ≤ l.length ∧ 0 ≤ toI (wN (l.take 8)) ∧ toI (wN (l.take 8)) ≤ most from ⟨h8, h⟩)]
      · right
        refine ⟨h, ?_⟩
        simp only [if_neg (show ¬ (8 ≤ l.length ∧ 0 ≤ toI (wN (l.take 8)) ∧ toI (wN (l.take 8)) ≤ most) from fun k => h k.2)]
    · refine Or.inl ⟨0, word8_none h8, ?_⟩
      unfold countS tells rdCount
      simp only [if_neg (show ¬ (8 ≤ l.length ∧ 0 ≤ toI (wN (l.take 8)) ∧ toI (wN (l.take 8)) ≤ most) from fun k => h8 k.1)]
set_option maxHeartbeats 1000000 in
theorem ref_count (sb : Nat) (most : Int) (st : St) (w : World) (h : RefS w sb st) :
    Calls Try.prog 31 #[.pointer (some ⟨sb, 0, none⟩), .int .i64 most] w fun e w' => e = .returned (.int .i64 (countS most st).1) ∧ w.grownBy w' (some sb) ∧ RefS w' sb (countS most st).2 := by
  have HN := Lib.hid (ref_number sb st w h)
  have bads : ∀ (w1 : World) (a : Option Addr) (n cap s : Nat) (bad : Bool) (full : List Nat), w.grownBy w1 (some sb) → Blk w1 sb 66 [.slice a n cap, .int .i64 s, .bool bad] → full.length = n → n ≤ 100000 → s ≤ n → BytesOff w1 sb a cap full →
      w.grownBy (w1.setCell ⟨sb, 2, none⟩ (.bool true)) (some sb) ∧ RefS (w1.setCell ⟨sb, 2, none⟩ (.bool true)) sb none := fun w1 a n cap s bad full hg hb h1 h2 h3 hP =>
    ⟨gb_set hg 2 _, a, n, cap, s, true, full, hb.set 2 _, h1, h2, h3, hP.stay (gb_set (gb_refl w1 (some sb)) 2 _), Or.inl ⟨rfl, rfl⟩⟩
  have HB := Lib.hid bads; clear bads h
  rcases count_num most st with ⟨v, e1, e2⟩ | ⟨v, r, e1, hcase⟩
  · rw [e1] at HN
    rw [e2]
    clear e1 e2
    go_enter Try.func31, Try.ntmps31
    go_wp2_with fail
    refine HN.out.mono ?_
    rintro e w1 ⟨rfl, hg, a, n, cap, s, bad, full, hb, h1, h2, h3, hP, h4⟩
    rcases h4 with ⟨rfl, _⟩ | ⟨_, h4⟩
    · have c2 := hb.cell (i := 2) rfl
      have f2 := hb.free 2
      have HF := Lib.hid (HB.out w1 a n cap s true full hg hb h1 h2 h3 hP); clear hg hb hP h1 h2 h3
      go_wp2
      go_ret
      exact ⟨rfl, HF.out⟩
    · cases h4
  · rw [e1] at HN
    have HV := Lib.hid hcase
    generalize ht : toI v = t at *
    clear ht e1 hcase
    go_enter Try.func31, Try.ntmps31
    go_wp2_with fail
    refine HN.out.mono ?_
    rintro e w1 ⟨rfl, hg, a, n, cap, s, bad, full, hb, h1, h2, h3, hP, h4⟩
    rcases h4 with ⟨_, h4⟩ | ⟨rfl, h4⟩
    · cases h4
    · have c2 := hb.cell (i := 2) rfl
      have f2 := hb.free 2
      have HF := Lib.hid (HB.out w1 a n cap s false full hg hb h1 h2 h3 hP)
      have HS : Hid (w.grownBy w1 (some sb) ∧ RefS w1 sb (some r)) := ⟨hg, a, n, cap, s, false, full, hb, h1, h2, h3, hP, Or.inr ⟨rfl, h4⟩⟩
      clear hg hb hP h1 h2 h3 h4
      by_cases c0 : t < 0
      · have e2 : Hid (countS most st = (0, none)) := by
          rcases HV.out with ⟨k1, k2, k3⟩ | ⟨_, k3⟩
          · omega
          · exact k3
        go_wp2
        go_ret
        exact ⟨by rw [e2.out]; rfl, by rw [e2.out]; exact HF.out⟩
      · by_cases c1 : most < t
        · have e2 : Hid (countS most st = (0, none)) := by
            rcases HV.out with ⟨k1, k2, k3⟩ | ⟨_, k3⟩
            · omega
            · exact k3
          go_wp2
          go_ret
          exact ⟨by rw [e2.out]; rfl, by rw [e2.out]; exact HF.out⟩
        · have e2 : Hid (countS most st = (t, some r)) := by
            rcases HV.out with ⟨k1, k2, k3⟩ | ⟨k0, k3⟩
            · exact k3
            · exact absurd ⟨by omega, by omega⟩ k0
          have d0 : decide (t < 0) = false := decide_eq_false c0
          have d1 : decide (most < t) = false := decide_eq_false c1
          go_wp2
          go_ret
          exact ⟨by rw [e2.out]; rfl, by rw [e2.out]; exact HS.out⟩
/-- no bytes, that were just laid: a row of one's own -/
theorem own_empty (w : World) : (w.alloc (.cells #[] 5)).ownsRow w.heap.size 5 1 (.slice (some ⟨w.heap.size, 0, none⟩) 0 0) 0 [] :=
  ⟨rfl, Or.inr ⟨w.heap.size, 0, #[], rfl, Nat.le_refl _, heap_alloc_new _ _, Nat.le_refl _, by unfold maxLen; omega, rfl, rfl⟩⟩
theorem append_empty (w : World) (n cap B : Nat) (a : Option Addr) (l : List Nat) (hl : l.length = n) (hn : n ≤ 100000) (hP : BytesAt w B a cap l) :
    ∃ a' c' w', (Builtin.append_ #[22, 22] 22 #[.slice (some ⟨w.heap.size, 0, none⟩) 0 0, .slice a n cap]).run Try.prog (w.alloc (.cells #[] 5)) = .ok (.slice a' n c') w' ∧ w.grownBy w' none ∧ BytesAt w' w'.heap.size a' c' l ∧ (∀ pb po, a' = some ⟨pb, po, none⟩ → w.heap.size ≤ pb ∧ pb < w'.heap.size) ∧ w'.ownsRow w.heap.size 5 1 (.slice a' n c') n (l.map u8N) := by
  have g0 := gb_alloc (gb_refl w none) (.cells #[] 5)
  obtain ⟨v2, w2, hr2, ho2, hg2⟩ := append_bytes (w.alloc (.cells #[] 5)) w.heap.size 0 B cap n (.slice (some ⟨w.heap.size, 0, none⟩) 0 0) [] a l (own_empty w) hl (hP.stay g0) (by omega) g0.size
  rw [Nat.zero_add, List.nil_append] at ho2
  obtain ⟨a', c', rfl, _, hB, hb⟩ := own_slice ho2 hP.byte
  exact ⟨a', c', w2, hr2, gb_then g0 hg2 (Nat.le_refl _), hB, hb, ho2⟩
/-- an append whose run is known, as one step of a region that draws -/
theorem step_append_run {P : Program} {ops : Array Oper} {o : Oper} {a : Act} {w : World} {K : Act → World → Prop} {Q : Exit → Act → World → Prop} {E : Prop} (hg : o.guard = none) (s x : Operand) (t : TypeId)
    (ho : o.op = .call { callee := .builtin .append, args := #[s, x], argTypes := #[t, t] }) (ht : o.type = t) (v y : Value) (hs : a.eval s = v) (hx : a.eval x = y) (v' : Value) (w' : World)
    (hr : (Builtin.append_ #[t, t] t #[v, y]).run P w = .ok v' w') (hK : K (a.put o.dst v') w') : if Region.wanted o (yielded ops a.tmps) = true then Oper.wp P o a w K Q else E := by
  have hw : Region.wanted o (yielded ops a.tmps) = true := by simp [Region.wanted, hg]
  rw [if_pos hw]
  rw [← ht] at hr
  unfold Oper.wp
  simp [execOp, ho, resolve, invoke, builtin, hs, hx, ← ht, hr, Result.andThen]
  exact hK
set_option maxHeartbeats 1000000 in
theorem ref_new (n cap B : Nat) (a : Option Addr) (l : List Nat) (w : World) (hl : l.length = n) (hn : n ≤ 100000) (hP : BytesAt w B a cap l) :
    Calls Try.prog 27 #[.slice a n cap] w fun e w' => ∃ sb, e = .returned (.pointer (some ⟨sb, 0, none⟩)) ∧ w.grownBy w' none ∧ w.heap.size ≤ sb ∧ RefS w' sb (some l) := by
  obtain ⟨a', c', w1, hap, hg, hB, hbs, _⟩ := append_empty w n cap B a l hl hn hP
  have H1 := Lib.hid (And.intro hg (And.intro hB (And.intro hl (And.intro hn hbs)))); clear hl hn hP hg hB hbs
  go_enter Try.func27, Try.ntmps27
  go_wp2_with (at_builtin; refine wpList_append_run rfl (.tmp 3) (.tmp 4) 22 rfl rfl _ _ rfl rfl _ _ hap ?_)
  go_ret
  obtain ⟨hg, hB, hl, hn, hbs⟩ := H1.out
  have gz := gb_alloc (gb_refl w1 none) (.cells #[.slice a' n c', .int .i64 0, .bool false] 66)
  exact ⟨w1.heap.size, rfl, gb_trans hg gz, hg.size, a', n, c', 0, false, l, Blk.new w1 [.slice a' n c', .int .i64 0, .bool false] _, hl, hn, Nat.zero_le _, ⟨(hB.stay gz).full, Or.inr fun pb po e => (hbs pb po e).2⟩, Or.inr ⟨rfl, rfl⟩⟩
theorem bytes_count (most : Int) (st : St) : (countS most st = (0, none) ∧ bytesS most st = ([], none)) ∨ ∃ (m : Nat) (r : List Nat), countS most st = ((m : Int), some r) ∧ bytesS most st = if m ≤ r.length then (r.take m, some (r.drop m)) else ([], none) := by
  cases st with
  | none => exact Or.inl ⟨rfl, rfl⟩
  | some l =>
    unfold countS bytesS tells rdBytes
    by_cases h : 8 ≤ l.length ∧ 0 ≤ toI (wN (l.take 8)) ∧ toI (wN (l.take 8)) ≤ most
    · right
      have e : rdCount most l = some (toI (wN (l.take 8)), l.drop 8) := by unfold rdCount; rw [if_pos h]
      obtain ⟨m, hm⟩ : ∃ m : Nat, toI (wN (l.take 8)) = m := ⟨_, (Int.toNat_of_nonneg h.2.1).symm⟩
      refine ⟨m, l.drop 8, by simp only [e, hm], ?_⟩
      simp only [e, hm, Int.toNat_natCast]
      by_cases hk : m ≤ (l.drop 8).length
      · simp only [if_pos hk]
      · simp only [if_neg hk]
    · left
      have e : rdCount most l = none := by unfold rdCount; rw [if_neg h]
      simp only [e, and_self]
set_option maxRecDepth 100000 in
set_option maxHeartbeats 2000000 in
theorem ref_bytes (sb : Nat) (most : Int) (st : St) (w : World) (h : RefS w sb st) :
    Calls Try.prog 29 #[.pointer (some ⟨sb, 0, none⟩), .int .i64 most] w fun e w' => ∃ v, e = .returned v ∧ w.grownBy w' (some sb) ∧ RefS w' sb (bytesS most st).2 ∧ w'.ownsRow w.heap.size 5 1 v (bytesS most st).1.length ((bytesS most st).1.map u8N) := by
  have HC := Lib.hid (ref_count sb most st w h)
  have hlt := h.lt
  have no : ∀ (w1 : World) (n cap s : Nat) (bad : Bool) (a : Option Addr) (full : List Nat) (m : Int), w.grownBy w1 (some sb) → Blk w1 sb 66 [.slice a n cap, .int .i64 s, .bool bad] → full.length = n → n ≤ 100000 → s ≤ n → BytesOff w1 sb a cap full → (bad = true ∨ m < 0 ∨ (n : Int) - s < m) →
      Calls Try.prog 50 #[.pointer (some ⟨sb, 0, none⟩), .int .i64 m] w1 fun e w' => e = .returned (.bool false) ∧ w.grownBy w' (some sb) ∧ RefS w' sb none := fun w1 n cap s bad a full m hg hb h1 h2 h3 hP hno =>
    (left_no sb n cap s m bad a w1 hb h2 h3 hno).mono fun e w' hq => ⟨hq.1, gb_trans hg hq.2.1, a, n, cap, s, true, full, hq.2.2, h1, h2, h3, hP.stay hq.2.1, Or.inl ⟨rfl, rfl⟩⟩
  have HNO := Lib.hid no; clear no h
  rcases bytes_count most st with ⟨e1, e2⟩ | ⟨m, r, e1, e2⟩
  · rw [e1] at HC
    rw [e2]
    clear e1 e2
    go_enter Try.func29, Try.ntmps29
    go_wp2_with fail
    refine HC.out.mono ?_
    rintro e w1 ⟨rfl, hg, a, n, cap, s, bad, full, hb, h1, h2, h3, hP, h4⟩
    rcases h4 with ⟨rfl, _⟩ | ⟨_, h4⟩
    · have HL := Lib.hid (HNO.out w1 n cap s true a full 0 hg hb h1 h2 h3 hP (Or.inl rfl)); clear hg hb hP h1 h2 h3
      go_wp2_with fail
      refine HL.out.mono ?_
      rintro e w2 ⟨rfl, hr⟩
      have HR := Lib.hid hr; clear hr
      go_wp2
      go_ret
      exact ⟨_, rfl, HR.out.1, HR.out.2, World.ownsRow_nil _ _ _ 1⟩
    · cases h4
  · rw [e1] at HC
    have HE := Lib.hid e2
    clear e1 e2
    go_enter Try.func29, Try.ntmps29
    go_wp2_with fail
    refine HC.out.mono ?_
    rintro e w1 ⟨rfl, hg, a, n, cap, s, bad, full, hb, h1, h2, h3, hP, h4⟩
    rcases h4 with ⟨_, h4⟩ | ⟨rfl, h4⟩
    · cases h4
    cases h4
    by_cases hk : s + m ≤ n
    · have HL := Lib.hid (left_yes sb n cap s m a w1 hb h2 hk)
      have HB := Lib.hid (And.intro hg (And.intro hb hP)); clear hg hb hP
      go_wp2_with fail
      refine HL.out.mono ?_
      rintro e w2 ⟨rfl, q, rfl⟩
      have c1 := (HB.out.2.1.grown (gb_drewN' w1 q) (by simp)).cell (i := 1) rfl
      have f1 := (HB.out.2.1.grown (gb_drewN' w1 q) (by simp)).free 1
      go_upto_region 5 with fail
      have hgs := gb_set (gb_row (gb_drewN' w1 q) (some sb)) 1 (.int .i64 ((s : Int) + (m : Int)))
      have hb2 := (HB.out.2.1.grown (gb_drewN' w1 q) (by simp)).set 1 (.int .i64 ((s : Int) + (m : Int)))
      have hP2 := HB.out.2.2.stay hgs
      have hg2 := gb_trans HB.out.1 hgs
      clear c1 f1
      generalize (w1.drewN q).setCell ⟨sb, 1, none⟩ (.int .i64 ((s : Int) + (m : Int))) = w2 at *
      have hcap : s + m ≤ cap := by have := hP2.1.fits; omega
      obtain ⟨aS, eaS⟩ : ∃ x, x = (if cap = s then a else a.map fun x => x.add s) := ⟨_, rfl⟩
      have haS : s < cap → ∀ pb po, a = some ⟨pb, po, none⟩ → aS = some ⟨pb, po + s, none⟩ := fun hlt pb po e => by
        rw [eaS, if_neg (by omega), e]; simp [Addr.add]
      have hPS : BytesAt w2.drew w2.drew.heap.size aS (cap - s) ((full.drop s).take m) := bytes_take (k := m) (bytes_drop (k := s) ((hP2.1.stay (gb_drew (gb_refl _ none))).full) haS) (fun pb po e => e)
      obtain ⟨a', c', w6, hap, hg6, hB6, hbs6, ho6⟩ := append_empty w2.drew m (cap - s) _ aS _ (by rw [List.length_take, List.length_drop]; omega) (by omega) hPS
      have c0 := (hb2.grown (gb_drew (gb_refl w2 none)) (by simp)).cell (i := 0) rfl
      have c1 := (hb2.grown (gb_drew (gb_refl w2 none)) (by simp)).cell (i := 1) rfl
      have d0 := (hb2.grown (gb_drew (gb_alloc (gb_refl w2 none) (.cells #[] 5))) (by simp)).cell (i := 0) rfl
      have d1 := (hb2.grown (gb_drew (gb_alloc (gb_refl w2 none) (.cells #[] 5))) (by simp)).cell (i := 1) rfl
      have hap' : (Builtin.append_ #[22, 22] 22 #[.slice (some ⟨w2.heap.size, 0, none⟩) 0 0, .slice aS m (cap - s)]).run Try.prog ((w2.alloc (.cells #[] 5)).drew) = .ok (.slice a' m c') w6 := hap
      clear hap
      have m0 := hb2.cell (i := 0) rfl
      have m1 := hb2.cell (i := 1) rfl
      have x1 : IntKind.i64.wrap ((s : Int) + (m : Int) - (m : Int)) = s := by rw [IntWalk.i64_in _ (by omega)]; omega
      have x2 : (s : Int) + (m : Int) - (m : Int) = s := by omega
      have x3 : sb ≠ w2.heap.size := Nat.ne_of_lt hb2.lt
      have x4 : IntKind.i64.wrap (s : Int) = s := by rw [IntWalk.i64_in _ (by omega)]
      have y1 : (0 : Int) ≤ (s : Int) + (m : Int) := by omega
      have y2 : (s : Int) + (m : Int) ≤ (cap : Int) := by omega
      have y3 : (s : Int) ≤ max ((s : Int) + (m : Int)) 0 := by omega
      have y4 : ((s : Int) + (m : Int)).toNat = s + m := by omega
      rw [eaS] at hap'
      have HF := Lib.hid (And.intro hg2 (And.intro hb2 (And.intro hP2 (And.intro hg6 (And.intro hbs6 ho6)))))
      clear hg2 hb2 hP2 hPS haS hB6 hbs6 ho6 hg6 HL HC hgs
      go_region_law (refine step_append_run rfl (.tmp 22) (.tmp 37) 22 rfl rfl _ _ rfl rfl _ _ hap' ?_)
      all_goals go_wp2
      all_goals go_ret
      all_goals (
        obtain ⟨hg2, hb2, hP2, hg6, hbs6, ho6⟩ := HF.out
        have e3 := HE.out
        rw [if_pos (by rw [List.length_drop]; omega), List.drop_drop] at e3
        rw [e3]
        have g26 : w2.grownBy w6 none := gb_trans (gb_drew (gb_refl _ _)) hg6
        have hl : ((full.drop s).take m).length = m := by rw [List.length_take, List.length_drop]; omega
        refine ⟨_, rfl, gb_trans hg2 (gb_row g26 _), ⟨a, n, cap, s + m, false, full, hb2.grown g26 (by simp), h1, h2, hk, hP2.stay (gb_row g26 _), Or.inr ⟨rfl, rfl⟩⟩, ?_⟩
        show w6.ownsRow w.heap.size 5 1 (.slice a' m c') ((full.drop s).take m).length (((full.drop s).take m).map u8N)
        rw [hl]
        exact own_down ho6 hg2.size)
    · have HL := Lib.hid (HNO.out w1 n cap s false a full m hg hb h1 h2 h3 hP (Or.inr (Or.inr (by omega))))
      have e2 : Hid (bytesS most st = ([], none)) := by
        have e3 := HE.out
        rw [if_neg (by rw [List.length_drop]; omega)] at e3
        exact e3
      clear hg hb hP
      go_wp2_with fail
      refine HL.out.mono ?_
      rintro e w2 ⟨rfl, hr⟩
      have HR := Lib.hid hr; clear hr
      go_wp2
      go_ret
      rw [e2.out]
      exact ⟨_, rfl, HR.out.1, HR.out.2, World.ownsRow_nil _ _ _ 1⟩
end Go.Proofs.Ytohcoihdijemfaa

/- The document's Get (buttressref08): what is found, part by part. -/
namespace Go.Proofs.Ytohcoihdijemfaa
open Go.RowKit Ow Wi Ve
namespace Rc
/-- what a reading of a record holds of memory -/
structure Rr (w0 : World) (N rb M : Nat) (T : TypeId) (cells : List Value) (st : St) (w : World) : Prop where
  gb : w0.grownBy w none
  rd : RefS w rb st
  bx : Blk w M T cells
  res : Blk w N 25 z7
theorem Rr.call {w0 w w' : World} {N rb M : Nat} {T : TypeId} {cells : List Value} {st st' : St} (h : Rr w0 N rb M T cells st w) (k : Rn w0 N rb M) (hg : w.grownBy w' (some rb)) (hr : RefS w' rb st') : Rr w0 N rb M T cells st' w' :=
  ⟨gb_then h.gb hg (by have := k.n0; have := k.n1; omega), hr, h.bx.grown hg (by have := k.n2; simp; omega), h.res.grown hg (by have := k.n1; simp; omega)⟩
theorem Rr.set {w0 w : World} {N rb M : Nat} {T : TypeId} {cells : List Value} {st : St} (h : Rr w0 N rb M T cells st w) (k : Rn w0 N rb M) (i : Nat) (v : Value) : Rr w0 N rb M T (cells.set i v) st (w.setCell ⟨M, i, none⟩ v) :=
  ⟨gb_set_new h.gb (p := ⟨M, i, none⟩) (by have := k.n0; have := k.n1; have := k.n2; show _ ≤ M; omega) v, h.rd.beside (gb_set (gb_refl w (some M)) i v) k.n2, h.bx.set i v, h.res.grown (gb_set (gb_refl w (some M)) i v) (by have := k.n1; have := k.n2; simp; omega)⟩
theorem Rr.stay {w0 w w' : World} {N rb M : Nat} {T : TypeId} {cells : List Value} {st : St} (h : Rr w0 N rb M T cells st w) (hg : w.grownBy w' none) : Rr w0 N rb M T cells st w' :=
  ⟨gb_trans h.gb hg, h.rd.stay hg, h.bx.grown hg (by simp), h.res.grown hg (by simp)⟩
/-- a dot read, and appended to the context -/
theorem Rr.readd {w0 w w' : World} {N rb M : Nat} {T : TypeId} {c0 c1 c2 c4 c5 c6 : Value} {a' : Option Addr} {c' k : Nat} {st : St} {x y : Int} {st' : St} {l : List D} (h : Rr w0 N rb M T [c0, c1, c2, .slice a' k c', c4, c5, c6] st w) (K : Rn w0 N rb M) (ho : OwnD' w (M + 1) (.slice a' k c') k l) (hk : k ≤ 8) (hg : w.grownBy w' (some rb)) (hr : RefS w' rb st') :
    ∃ v2 w11, (Builtin.append_ #[23, 23] 23 #[.slice a' k c', .slice (some ⟨w'.heap.size, 0, none⟩) 1 1]).run Try.prog (w'.alloc (.cells #[iV x, iV y] 43)) = .ok v2 w11 ∧ Rr w0 N rb M T [c0, c1, c2, .slice a' k c', c4, c5, c6] st' w11 ∧ OwnD' w11 (M + 1) v2 (k + 1) (l ++ [(x, y)]) := by
  have hb : ∀ r, (Value.slice a' k c').ownBlock = some r → M < r := fun r e => by have := (ho.lt r e).1; omega
  have h1 := h.call K hg hr
  have gA : w'.grownBy (w'.alloc (.cells #[iV x, iV y] 43)) none := gb_alloc (gb_refl _ _) _
  have ho1 := (ho.kept hg (Or.inr fun e => by have := hb _ e; have := K.n2; omega)).kept gA (by cases (Value.slice a' k c').ownBlock <;> simp)
  have h2 := h1.stay gA
  obtain ⟨v2, w11, hap, ho2, hg2⟩ := append_dots _ (M + 1) (w'.heap.size + 1) _ k l (some ⟨w'.heap.size, 0, none⟩) 1 1 [(x, y)] ho1 rfl (dots_one w' x y _) (by simp) (by omega) (by have := h2.bx.lt; omega)
  refine ⟨v2, w11, hap, ?_, ho2⟩
  have hne : ∀ q, q ≤ M → (some q ≠ (Value.slice a' k c').ownBlock) := fun q hq e => by have := hb q e.symm; omega
  refine ⟨gb_ownD' h2.gb ho1 (by have := K.n0; have := K.n1; have := K.n2; omega) hg2, ?_, h2.bx.grown hg2 (hne M (Nat.le_refl _)), h2.res.grown hg2 (hne N (by have := K.n1; have := K.n2; omega))⟩
  cases hb' : (Value.slice a' k c').ownBlock with
  | none => rw [hb'] at hg2; exact h2.rd.stay hg2
  | some r => rw [hb'] at hg2; exact h2.rd.beside hg2 (by have := hb r hb'; have := K.n2; omega)
/-- a byte read, and appended to the signature -/
theorem Rr.reads {w0 w w' : World} {N rb M Bs : Nat} {T : TypeId} {c0 c1 c2 c4 : Value} {a3 a5 a6 : Option Addr} {n3 n5 k3 k5 k6 k : Nat} {st st' : St} {x : Nat} {cx : List D} {val l : List Nat} (h : Rr w0 N rb M T [c0, c1, c2, .slice a3 n3 k3, c4, .slice a5 n5 k5, .slice a6 k k6] st w) (K : Rn w0 N rb M) (hB : M < Bs) (hBw : Bs ≤ w.heap.size)
    (ht : Two w M Bs (.slice a3 n3 k3) (.slice a5 n5 k5) n3 n5 cx val) (ho : w.ownsRow Bs 5 1 (.slice a6 k k6) k (l.map u8N)) (hk : k ≤ 64) (hg : w.grownBy w' (some rb)) (hr : RefS w' rb st') :
    ∃ v2 w11, (Builtin.append_ #[22, 22] 22 #[.slice a6 k k6, .slice (some ⟨w'.heap.size, 0, none⟩) 1 1]).run Try.prog (w'.alloc (.cells #[u8N x] 5)) = .ok v2 w11 ∧ Rr w0 N rb M T [c0, c1, c2, .slice a3 n3 k3, c4, .slice a5 n5 k5, .slice a6 k k6] st' w11 ∧ Two w11 M Bs (.slice a3 n3 k3) (.slice a5 n5 k5) n3 n5 cx val ∧ w11.ownsRow Bs 5 1 v2 (k + 1) ((l ++ [x]).map u8N) ∧ Bs ≤ w11.heap.size := by
  have hb : ∀ r, (Value.slice a6 k k6).ownBlock = some r → Bs ≤ r := fun r e => (ho.lt r e).1
  have h1 := h.call K hg hr
  have ho1 := ho.kept hg (Or.inr fun e => by have := hb _ e; have := K.n2; omega)
  have ht1 := ht.keep hg (fun r e => by cases e; have := K.n2; omega)
  obtain ⟨v2, w11, hap, ho2, hg2⟩ := append1_u8 w' Bs k (.slice a6 k k6) (u8N x) (l.map u8N) ho1 rfl (by omega) (Nat.le_trans hBw hg.size)
  have hne : ∀ q, q ≤ M → (some q ≠ (Value.slice a6 k k6).ownBlock) := fun q hq e => by have := hb q e.symm; omega
  refine ⟨v2, w11, hap, ⟨?_, ?_, h1.bx.grown hg2 (hne M (Nat.le_refl _)), h1.res.grown hg2 (hne N (by have := K.n1; have := K.n2; omega))⟩, ht1.keep hg2 (fun r e => Or.inr (hb r e)), by rw [List.map_append]; exact ho2, Nat.le_trans hBw (Nat.le_trans hg.size hg2.size)⟩
  · exact gb_own h1.gb ho1 (by have := K.n0; have := K.n1; have := K.n2; omega) hg2
  · cases hb' : (Value.slice a6 k k6).ownBlock with
    | none => rw [hb'] at hg2; exact h1.rd.stay hg2
    | some r => rw [hb'] at hg2; exact h1.rd.beside hg2 (by have := hb r hb'; have := K.n2; omega)
theorem okS_row {most : Int} {st : St} (h : OkS st) (i : Nat) : (bytesS most st).1.getD i 0 < 256 := by
  cases e : (bytesS most st).2 with
  | none =>
    rcases bytes_count most st with ⟨_, h2⟩ | ⟨m, r, _, h2⟩
    · rw [h2]; simp
    · rw [h2] at e ⊢
      split at e
      · cases e
      · rename_i hm; rw [if_neg hm]; simp
  | some r =>
    have e2 := (bytes_inv e h).1
    exact getD_lt (fun b hb => h _ e2 b (List.mem_append_left _ (show b ∈ encN _ ++ _ from List.mem_append_right _ hb))) i
theorem two_rat {w : World} {M Bs n2 c1 c2 k6 : Nat} {a1 a2 a6 : Option Addr} {st : St} {key : List Nat} (hok : OkS st) (hK : ∀ i, key.getD i 0 < 256) (hke : key = (bytesS 64 (s1 st)).1) (hn2 : n2 = (bytesS 1024 (s7 st)).1.length) (hby : ∀ i, (bytesS 1024 (s7 st)).1.getD i 0 < 256)
    (ht : Two w M Bs (.slice a1 (cN st) c1) (.slice a2 n2 c2) (cN st) n2 (recR st).cx (recR st).val) (ho : w.ownsRow Bs 5 1 (.slice a6 64 k6) 64 ((sS (s8 st) 64).1.map u8N)) : RAt w w.heap.size ⟨ofL key, a1, cN st, c1, a2, n2, c2, a6, 64, k6⟩ (recR st) := by
  obtain ⟨a', c', e3, hl1, _, hd⟩ := own_dots ht.cx
  simp only [Value.slice.injEq, true_and] at e3
  obtain ⟨rfl, rfl⟩ := e3
  obtain ⟨a', c', e5, _, hv, _⟩ := own_slice ht.val hby
  simp only [Value.slice.injEq] at e5
  obtain ⟨rfl, _, rfl⟩ := e5
  obtain ⟨a', c', e6, _, hs, _⟩ := own_slice ho (getD_lt (sS_lt (okS_s8 hok) 64))
  simp only [Value.slice.injEq] at e6
  obtain ⟨rfl, _, rfl⟩ := e6
  refine ⟨?_, hl1, hn2.symm, sS_len _ _, hd, hv, hs, ?_⟩
  · show strL (ofL key) = (recR st).key
    rw [strL_ofL hK, hke]; rfl
  · show cN st < 9223372036854775808
    have := (cN_is st).2
    omega
set_option maxHeartbeats 4000000 in
set_option maxRecDepth 100000 in
theorem refGet_any (n cap B : Nat) (a : Option Addr) (l : List Nat) (w : World) (hl : l.length = n) (hn : n ≤ 100000) (hP : BytesAt w B a cap l) :
    Calls Try.prog 11 #[.slice a n cap] w (GOut w (getB l) (recR (some l))) := by
  have hgi := get_is (b := l) (fun b hb => getD_mem hP.byte b hb)
  rw [hgi]
  clear hgi
  obtain ⟨st, hst⟩ : ∃ st, st = some l := ⟨_, rfl⟩
  rw [← hst]
  have hok : OkS st := fun l' e b hb => by rw [hst] at e; cases e; exact getD_mem hP.byte b hb
  have HOK := Lib.hid hok; clear hok
  have hsm : Sm st := fun l' e => by rw [hst] at e; cases e; omega
  obtain ⟨N, hN⟩ : ∃ N, N = w.heap.size := ⟨_, rfl⟩
  obtain ⟨W0, hW0⟩ : ∃ W0, W0 = w.alloc (.cells z7.toArray 25) := ⟨_, rfl⟩
  have hg0 : w.grownBy W0 none := by rw [hW0]; exact gb_alloc (gb_refl _ _) _
  have hb0 : Blk W0 N 25 z7 := by rw [hW0, hN]; exact Blk.new _ _ _
  have HN := Lib.hid (ref_new n cap B a l W0 hl hn (hP.stay hg0))
  rw [← hst] at HN
  have HG0 := Lib.hid (And.intro hg0 (And.intro hb0 (Nat.le_of_eq hN.symm))); clear hg0 hb0 hl hn hP
  obtain ⟨Q, hQ⟩ : ∃ Q, Q = GOut w (decide (s9 st = some []) && decide (kindR st = 1) && decide (goneR st ≤ 1) && rightB (recR st)) (recR st) := ⟨_, rfl⟩
  rw [← hQ]
  have HQ := Lib.hid hQ; clear hQ
  have HSM := Lib.hid hsm; clear hsm hst
  go_enter Try.func11, Try.ntmps11
  go_wp2_with fail
  rw [show w.alloc (.cells #[.string ⟨#[]⟩, iV 0, iV 0, .slice none 0 0, .bool false, .slice none 0 0, .slice none 0 0] 25) = W0 from hW0.symm, ← hN]
  clear hW0 hN
  refine HN.out.mono ?_
  rintro e w2 ⟨rb, rfl, hg, hrb, hr⟩
  have HG2 := Lib.hid (show w.grownBy w2 none ∧ RefS w2 rb st ∧ Blk w2 N 25 z7 ∧ N < rb from ⟨gb_trans HG0.out.1 hg, hr, HG0.out.2.1.grown hg (by simp), Nat.lt_of_lt_of_le HG0.out.2.1.lt hrb⟩); clear hg hr hrb
  obtain ⟨M, hM⟩ : ∃ M, M = w2.heap.size := ⟨_, rfl⟩
  obtain ⟨W3, hW3⟩ : ∃ W3, W3 = w2.alloc (.cells z7.toArray 25) := ⟨_, rfl⟩
  have hg3 : w2.grownBy W3 none := by rw [hW3]; exact gb_alloc (gb_refl _ _) _
  have hb3 : Blk W3 M 25 z7 := by rw [hW3, hM]; exact Blk.new _ _ _
  have HN' : Hid (Rn w N rb M) := ⟨HG0.out.2.2, HG2.out.2.2.2, by rw [hM]; exact HG2.out.2.1.lt⟩
  have HG3 : Hid (Rr w N rb M 25 z7 st W3) := ⟨gb_trans HG2.out.1 hg3, HG2.out.2.1.stay hg3, hb3, HG2.out.2.2.1.grown hg3 (by simp)⟩
  clear hg3 hb3
  go_wp2_with fail
  rw [show w2.alloc (.cells #[.string ⟨#[]⟩, iV 0, iV 0, .slice none 0 0, .bool false, .slice none 0 0, .slice none 0 0] 25) = W3 from hW3.symm, ← hM]
  clear hW3 hM HG2 HG0
  refine (ref_byte rb st W3 HG3.out.rd).mono ?_
  rintro e w4 ⟨rfl, hg, hr⟩
  have HG4 : Hid (Rr w N rb M 25 z7 (s1 st) w4) := HG3.out.call HN'.out hg hr
  clear HG3 hg hr
  obtain ⟨kd, hkd⟩ : ∃ k, k = kindR st := ⟨_, rfl⟩
  rw [show (byteS st).1 = kd from hkd.symm]
  have HKD := Lib.hid hkd; clear hkd
  go_wp2_with fail
  refine (ref_bytes rb 64 (s1 st) w4 HG4.out.rd).mono ?_
  rintro e w5 ⟨v4, rfl, hg, hr, ho⟩
  obtain ⟨ak, ck, rfl, _, hkb, _⟩ := own_slice ho (okS_row (okS_byte HOK.out))
  have hcv := bytes_str rfl hkb
  have HG5 : Hid (Rr w N rb M 25 z7 (s2 st) w5) := HG4.out.call HN'.out hg hr
  have HK : Hid (∀ i, (bytesS 64 (s1 st)).1.getD i 0 < 256) := hkb.byte
  obtain ⟨key, hkey⟩ : ∃ k, k = (bytesS 64 (s1 st)).1 := ⟨_, rfl⟩
  rw [← hkey] at hcv HK ⊢
  have HKE := Lib.hid hkey; clear hkey hg hr ho hkb HG4
  have k0 := HG5.out.bx.cell (i := 0) rfl
  have f0 := HG5.out.bx.free 0
  obtain ⟨kn, hkn⟩ : ∃ x, x = key.length := ⟨_, rfl⟩
  rw [← hkn] at hcv ⊢
  clear hkn
  go_wp2_with fail
  have HG6 : Hid (Rr w N rb M 25 [.string (ofL key), iV 0, iV 0, .slice none 0 0, .bool false, .slice none 0 0, .slice none 0 0] (s2 st) (w5.setCell ⟨M, 0, none⟩ (.string (ofL key)))) := HG5.out.set HN'.out 0 _
  clear HG5 hcv k0 f0
  generalize w5.setCell ⟨M, 0, none⟩ (.string (ofL key)) = w6 at *
  refine (ref_number rb (s2 st) w6 HG6.out.rd).mono ?_
  rintro e w7 ⟨rfl, hg, hr⟩
  obtain ⟨cl, hcl⟩ : ∃ x, x = toI (numS (s2 st)).1 := ⟨_, rfl⟩
  rw [← hcl]
  have HCL := Lib.hid hcl; clear hcl
  have HG7 : Hid (Rr w N rb M 25 [.string (ofL key), iV 0, iV 0, .slice none 0 0, .bool false, .slice none 0 0, .slice none 0 0] (s3 st) w7) := HG6.out.call HN'.out hg hr
  have k1 := HG7.out.bx.cell (i := 1) rfl
  have f1 := HG7.out.bx.free 1
  clear hg hr HG6
  go_wp2_with fail
  have HG8 : Hid (Rr w N rb M 25 [.string (ofL key), iV cl, iV 0, .slice none 0 0, .bool false, .slice none 0 0, .slice none 0 0] (s3 st) (w7.setCell ⟨M, 1, none⟩ (iV cl))) := HG7.out.set HN'.out 1 _
  clear HG7 k1 f1
  generalize hw8 : w7.setCell ⟨M, 1, none⟩ (iV cl) = w8 at *
  clear hw8
  refine (ref_number rb (s3 st) w8 HG8.out.rd).mono ?_
  rintro e w9 ⟨rfl, hg, hr⟩
  obtain ⟨sq, hsq⟩ : ∃ x, x = toI (numS (s3 st)).1 := ⟨_, rfl⟩
  rw [← hsq]
  have HCS := Lib.hid (And.intro HCL.out hsq)
  have HG9 : Hid (Rr w N rb M 25 [.string (ofL key), iV cl, iV 0, .slice none 0 0, .bool false, .slice none 0 0, .slice none 0 0] (s4 st) w9) := HG8.out.call HN'.out hg hr
  have k2 := HG9.out.bx.cell (i := 2) rfl
  have f2 := HG9.out.bx.free 2
  clear hg hr HG8 HCL hsq
  have HX : Hid (Rr w N rb M 25 [.string (ofL key), iV cl, iV sq, .slice none 0 0, .bool false, .slice none 0 0, .slice none 0 0] (s4 st) (w9.setCell ⟨M, 2, none⟩ (iV sq))) := HG9.out.set HN'.out 2 _
  go_wp2_with fail
  clear HG9 k2 f2
  generalize hw10 : w9.setCell ⟨M, 2, none⟩ (iV sq) = w10 at *
  clear hw10
  have HC := Lib.hid (ref_count rb 8 (s4 st) w10 HX.out.rd)
  obtain ⟨hc, hc8⟩ := cN_is st
  rw [hc] at HC
  refine HC.out.mono ?_
  rintro e w11 ⟨rfl, hg, hr⟩
  have HG11 : Hid (Rr w N rb M 25 [.string (ofL key), iV cl, iV sq, .slice none 0 0, .bool false, .slice none 0 0, .slice none 0 0] (s5 st) w11) := HX.out.call HN'.out hg hr
  clear hg hr HX HC hc
  obtain ⟨m, hm⟩ : ∃ m, m = cN st := ⟨_, rfl⟩
  rw [← hm] at hc8 ⊢
  have HM := Lib.hid hm; clear hm
  go_wp2_with fail
  go_loopw [9] (fun i wr => ∃ (k : Nat), k ≤ m ∧ i = .int .i64 k ∧ Hid (∃ v, Rr w N rb M 25 [.string (ofL key), iV cl, iV sq, v, .bool false, .slice none 0 0, .slice none 0 0] (nS (s5 st) k).2 wr ∧ OwnD' wr (M + 1) v k (nS (s5 st) k).1)) (fun i _ => m - (intOf i).toNat)
  case atStart => exact ⟨0, by omega, rfl, _, HG11.out, World.ownsRow_nil _ _ _ _⟩
  case round =>
    obtain ⟨k, hk, rfl, HI⟩ := hrel
    by_cases hlt : k < m
    · have i0 : (k : Int) < (m : Int) := by omega
      obtain ⟨v, hRs, ho⟩ := HI.out
      obtain ⟨a', c', rfl⟩ := own_shapeD ho
      have HI2 := Lib.hid (And.intro hRs (And.intro ho (show k ≤ 8 by omega)))
      clear hRs ho HI
      go_wp2_with fail
      refine (ref_number rb _ wr HI2.out.1.rd).mono ?_
      rintro e w12 ⟨rfl, hg, hr⟩
      obtain ⟨x, hx⟩ : ∃ x, x = toI (numS (nS (s5 st) k).2).1 := ⟨_, rfl⟩
      rw [← hx]
      have HX := Lib.hid hx; clear hx
      have H12 := Lib.hid (And.intro (HI2.out.1.call HN'.out hg hr) (HI2.out.2.1.kept hg (Or.inr fun e => by have := (HI2.out.2.1.lt _ e).1; have := HN'.out.n2; omega)))
      clear hg hr
      go_wp2_with fail
      refine (ref_number rb _ w12 H12.out.1.rd).mono ?_
      rintro e w13 ⟨rfl, hg, hr⟩
      obtain ⟨y, hy⟩ : ∃ y, y = toI (numS (numS (nS (s5 st) k).2).2).1 := ⟨_, rfl⟩
      rw [← hy]
      have H13 := Lib.hid (And.intro (H12.out.1.call HN'.out hg hr) (H12.out.2.kept hg (Or.inr fun e => by have := (H12.out.2.lt _ e).1; have := HN'.out.n2; omega)))
      clear hg hr H12
      obtain ⟨v2, w14, hap, hR, hO⟩ := H13.out.1.readd (x := x) (y := y) HN'.out H13.out.2 HI2.out.2.2 (gb_refl w13 (some rb)) H13.out.1.rd
      obtain ⟨a2, c2, rfl⟩ := own_shapeD hO
      have k3 := H13.out.1.bx.cell (i := 3) rfl
      have k3' : (w13.alloc (.cells #[iV x, iV y] 43)).cell? ⟨M, 3, none⟩ = some (.slice a' k c') := (H13.out.1.bx.alloc _).cell (i := 3) rfl
      have q3 := hR.bx.cell (i := 3) rfl
      have r3 := hR.bx.free 3
      have HZ : Hid (Rr w N rb M 25 [.string (ofL key), iV cl, iV sq, .slice a2 (k + 1) c2, .bool false, .slice none 0 0, .slice none 0 0] (nS (s5 st) (k + 1)).2 (w14.setCell ⟨M, 3, none⟩ (.slice a2 (k + 1) c2)) ∧ OwnD' (w14.setCell ⟨M, 3, none⟩ (.slice a2 (k + 1) c2)) (M + 1) (.slice a2 (k + 1) c2) (k + 1) (nS (s5 st) (k + 1)).1) :=
        ⟨hR.set HN'.out 3 _, by rw [nS_succ, ← HX.out, ← hy]; exact hO.kept (gb_set (gb_refl w14 (some M)) 3 _) (Or.inr fun e => by have := (hO.lt _ e).1; omega)⟩
      have HAP := Lib.hid hap
      clear hap hR hO HI2 H13 HX hy
      go_wp2_with (at_builtin; refine Lib.wpList_append_run _ rfl _ _ _ _ rfl _ _ rfl rfl _ _ HAP.out ?_)
      clear k3 k3' q3 r3
      go_roundw
      case rel => exact ⟨k + 1, by omega, by go_num, _, HZ.out⟩
      case measure => simp [intOf]; omega
    · obtain rfl : k = m := by omega
      obtain ⟨v, hRs, ho⟩ := HI.out
      obtain ⟨a1, c1, rfl⟩ := own_shapeD ho
      rw [HM.out] at hRs ho
      have HC1 : Hid (Rr w N rb M 25 [.string (ofL key), iV cl, iV sq, .slice a1 (cN st) c1, .bool false, .slice none 0 0, .slice none 0 0] (s6 st) wr ∧ OwnD' wr (M + 1) (.slice a1 (cN st) c1) (cN st) (recR st).cx) := ⟨hRs, ho⟩
      clear hRs ho HI
      have HBY := Lib.hid (ref_byte rb (s6 st) wr HC1.out.1.rd)
      obtain ⟨gv, hgv⟩ : ∃ x, x = goneR st := ⟨_, rfl⟩
      obtain ⟨gy, hgy⟩ : ∃ g, ((gv : Int) == 1) = g := ⟨_, rfl⟩
      have HG : Hid (gy = decide (goneR st = 1)) := by
        show _ = _
        rw [← hgy, ← hgv, Bool.eq_iff_iff]
        simp only [beq_iff_eq, decide_eq_true_eq]
        omega
      rw [show (byteS (s6 st)).1 = gv from hgv.symm] at HBY
      have HGV := Lib.hid hgv; clear hgv
      go_wp2_with fail
      refine HBY.out.mono ?_
      rintro e w12 ⟨rfl, hg, hr⟩
      have HG12 : Hid (Rr w N rb M 25 [.string (ofL key), iV cl, iV sq, .slice a1 (cN st) c1, .bool false, .slice none 0 0, .slice none 0 0] (s7 st) w12 ∧ OwnD' w12 (M + 1) (.slice a1 (cN st) c1) (cN st) (recR st).cx) :=
        ⟨HC1.out.1.call HN'.out hg hr, HC1.out.2.kept hg (Or.inr fun e => by have := (HC1.out.2.lt _ e).1; have := HN'.out.n2; omega)⟩
      have k4 := HG12.out.1.bx.cell (i := 4) rfl
      have f4 := HG12.out.1.bx.free 4
      clear hg hr HC1 HBY
      have HG13 : Hid (Rr w N rb M 25 [.string (ofL key), iV cl, iV sq, .slice a1 (cN st) c1, .bool gy, .slice none 0 0, .slice none 0 0] (s7 st) (w12.setCell ⟨M, 4, none⟩ (.bool gy)) ∧ OwnD' (w12.setCell ⟨M, 4, none⟩ (.bool gy)) (M + 1) (.slice a1 (cN st) c1) (cN st) (recR st).cx) :=
        ⟨HG12.out.1.set HN'.out 4 _, HG12.out.2.kept (gb_set (gb_refl w12 (some M)) 4 _) (Or.inr fun e => by have := (HG12.out.2.lt _ e).1; omega)⟩
      go_wp2_with fail
      clear HG12 k4 f4
      generalize hw13 : w12.setCell ⟨M, 4, none⟩ (.bool gy) = w13 at *
      clear hw13
      refine (ref_bytes rb 1024 (s7 st) w13 HG13.out.1.rd).mono ?_
      rintro e w14 ⟨v14, rfl, hg, hr, ho⟩
      have hby := okS_row (most := 1024) (okS_byte (okS_nS (okS_count (most := 8) (okS_num (okS_num (okS_bytes (most := 64) (okS_byte HOK.out))))) (cN st)))
      obtain ⟨a2, c2, rfl, _, hvb, _⟩ := own_slice ho hby
      obtain ⟨n2, hn2⟩ : ∃ x, x = (bytesS 1024 (s7 st)).1.length := ⟨_, rfl⟩
      rw [← hn2] at ho ⊢
      have HN2 := Lib.hid (And.intro hn2 hby); clear hn2 hby
      have hM13 := HG13.out.1.bx.lt
      have HG14 : Hid (Rr w N rb M 25 [.string (ofL key), iV cl, iV sq, .slice a1 (cN st) c1, .bool gy, .slice none 0 0, .slice none 0 0] (s8 st) w14 ∧ Two w14 M w14.heap.size (.slice a1 (cN st) c1) (.slice a2 n2 c2) (cN st) n2 (recR st).cx (recR st).val) :=
        ⟨HG13.out.1.call HN'.out hg hr, HG13.out.2.kept hg (Or.inr fun e => by have := (HG13.out.2.lt _ e).1; have := HN'.out.n2; omega), own_down ho (by omega), fun r e => Nat.lt_of_lt_of_le (HG13.out.2.lt r e).2 hg.size, fun r e => (ho.lt r e).2⟩
      have k5 := HG14.out.1.bx.cell (i := 5) rfl
      have f5 := HG14.out.1.bx.free 5
      clear hg hr HG13 ho hvb hM13
      obtain ⟨Bs, hBs⟩ : ∃ Bs, Bs = w14.heap.size := ⟨_, rfl⟩
      rw [← hBs] at HG14
      have hg15 := gb_set (gb_refl w14 (some M)) 5 (.slice a2 n2 c2)
      have HG15 : Hid (Rr w N rb M 25 [.string (ofL key), iV cl, iV sq, .slice a1 (cN st) c1, .bool gy, .slice a2 n2 c2, .slice none 0 0] (s8 st) (w14.setCell ⟨M, 5, none⟩ (.slice a2 n2 c2)) ∧ Two (w14.setCell ⟨M, 5, none⟩ (.slice a2 n2 c2)) M Bs (.slice a1 (cN st) c1) (.slice a2 n2 c2) (cN st) n2 (recR st).cx (recR st).val ∧ Bs ≤ (w14.setCell ⟨M, 5, none⟩ (.slice a2 n2 c2)).heap.size) :=
        ⟨HG14.out.1.set HN'.out 5 _, HG14.out.2.keep hg15 (fun r e => by cases e; exact Or.inl (Nat.le_refl _)), by rw [hBs]; exact hg15.size⟩
      have HMB : Hid (M < Bs) := by show M < Bs; rw [hBs]; exact HG14.out.1.bx.lt
      clear HG14 hBs hg15
      go_wp2_with fail
      generalize hw15 : w14.setCell ⟨M, 5, none⟩ (.slice a2 n2 c2) = w15 at *
      clear hw15 k5 f5
      go_loopw [13] (fun i wr => ∃ (q : Nat), q ≤ 64 ∧ i = .int .i64 q ∧ Hid (∃ a6 k6, Rr w N rb M 25 [.string (ofL key), iV cl, iV sq, .slice a1 (cN st) c1, .bool gy, .slice a2 n2 c2, .slice a6 q k6] (sS (s8 st) q).2 wr ∧ Two wr M Bs (.slice a1 (cN st) c1) (.slice a2 n2 c2) (cN st) n2 (recR st).cx (recR st).val ∧ Bs ≤ wr.heap.size ∧ wr.ownsRow Bs 5 1 (.slice a6 q k6) q ((sS (s8 st) q).1.map u8N))) (fun i _ => 64 - (intOf i).toNat)
      case atStart => exact ⟨0, by omega, rfl, none, 0, HG15.out.1, HG15.out.2.1, HG15.out.2.2, World.ownsRow_nil _ _ _ _⟩
      case round =>
        obtain ⟨q, hq, rfl, HI⟩ := hrel
        by_cases hlt : q < 64
        · have i0 : (q : Int) < 64 := by omega
          obtain ⟨a6, k6, hRs, ht, hBw, ho⟩ := HI.out
          have HI2 := Lib.hid (And.intro hRs (And.intro ht (And.intro hBw (And.intro ho (show q ≤ 64 by omega)))))
          clear hRs ht hBw ho HI
          go_wp2_with fail
          refine (ref_byte rb _ wr HI2.out.1.rd).mono ?_
          rintro e w16 ⟨rfl, hg, hr⟩
          obtain ⟨x, hx⟩ : ∃ x, x = (byteS (sS (s8 st) q).2).1 := ⟨_, rfl⟩
          rw [← hx]
          have HX := Lib.hid hx; clear hx
          have H16 := Lib.hid (And.intro (HI2.out.1.call HN'.out hg hr) (And.intro (HI2.out.2.1.keep hg (fun r e => by cases e; have := HN'.out.n2; omega)) (And.intro (Nat.le_trans HI2.out.2.2.1 hg.size) (HI2.out.2.2.2.1.kept hg (Or.inr fun e => by have := (HI2.out.2.2.2.1.lt _ e).1; have := HN'.out.n2; have := HMB.out; omega)))))
          clear hg hr
          obtain ⟨v2, w17, hap, hR17, ht17, ho17, hz17⟩ := H16.out.1.reads (x := x) HN'.out HMB.out H16.out.2.2.1 H16.out.2.1 H16.out.2.2.2 HI2.out.2.2.2.2 (gb_refl w16 (some rb)) H16.out.1.rd
          obtain ⟨a7, k7, rfl⟩ : ∃ a7 k7, v2 = .slice a7 (q + 1) k7 := by
            rcases ho17.2 with ⟨_, h0⟩ | ⟨g, c, _, e, _⟩
            · omega
            · exact ⟨_, _, e⟩
          have q6 := H16.out.1.bx.cell (i := 6) rfl
          have q6' : (w16.alloc (.cells #[.int .u8 (x : Nat)] 5)).cell? ⟨M, 6, none⟩ = some (.slice a6 q k6) := (H16.out.1.bx.alloc _).cell (i := 6) rfl
          have r6 := hR17.bx.cell (i := 6) rfl
          have g6 := hR17.bx.free 6
          have hgS := gb_set (gb_refl w17 (some M)) 6 (.slice a7 (q + 1) k7)
          have HZ : Hid (∃ a6 k6, Rr w N rb M 25 [.string (ofL key), iV cl, iV sq, .slice a1 (cN st) c1, .bool gy, .slice a2 n2 c2, .slice a6 (q + 1) k6] (sS (s8 st) (q + 1)).2 (w17.setCell ⟨M, 6, none⟩ (.slice a7 (q + 1) k7)) ∧ Two (w17.setCell ⟨M, 6, none⟩ (.slice a7 (q + 1) k7)) M Bs (.slice a1 (cN st) c1) (.slice a2 n2 c2) (cN st) n2 (recR st).cx (recR st).val ∧ Bs ≤ (w17.setCell ⟨M, 6, none⟩ (.slice a7 (q + 1) k7)).heap.size ∧ (w17.setCell ⟨M, 6, none⟩ (.slice a7 (q + 1) k7)).ownsRow Bs 5 1 (.slice a6 (q + 1) k6) (q + 1) ((sS (s8 st) (q + 1)).1.map u8N)) :=
            ⟨a7, k7, hR17.set HN'.out 6 _, ht17.keep hgS (fun r e => by cases e; exact Or.inl (Nat.le_refl _)), Nat.le_trans hz17 hgS.size, by rw [sS_succ, ← HX.out]; exact ho17.kept hgS (Or.inr fun e => by have := (ho17.lt _ e).1; have := HMB.out; omega)⟩
          have HAP : Hid ((Builtin.append_ #[22, 22] 22 #[.slice a6 q k6, .slice (some ⟨w16.heap.size, 0, none⟩) 1 1]).run Try.prog (w16.alloc (.cells #[.int .u8 (x : Nat)] 5)) = .ok (.slice a7 (q + 1) k7) w17) := hap
          clear hap hR17 ht17 ho17 hz17 hgS HI2 H16 HX
          go_wp2_with (at_builtin; refine Lib.wpList_append_run _ rfl _ _ _ _ rfl _ _ rfl rfl _ _ HAP.out ?_)
          clear q6 q6' r6 g6
          go_roundw
          case rel => exact ⟨q + 1, by omega, by go_num, HZ.out⟩
          case measure => simp [intOf]; omega
        · obtain rfl : q = 64 := by omega
          obtain ⟨a6, k6, hRs, ht, hBw, ho⟩ := HI.out
          have HE := Lib.hid (And.intro hRs (And.intro ht ho))
          clear hRs ht hBw ho HI
          have HDN := Lib.hid (ref_done rb _ wr HE.out.1.rd)
          obtain ⟨dn, hdn⟩ : ∃ d, d = decide (s9 st = some []) := ⟨_, rfl⟩
          rw [show decide ((sS (s8 st) 64).2 = some []) = dn from hdn.symm] at HDN
          have HDE := Lib.hid hdn; clear hdn
          go_wp2_with fail
          refine HDN.out.mono ?_
          rintro e w18 ⟨rfl, hg⟩
          have H18 := Lib.hid (And.intro (HE.out.1.stay hg) (And.intro (HE.out.2.1.keep hg (fun r e => by cases e)) (HE.out.2.2.kept hg (by cases (Value.slice a6 64 k6).ownBlock <;> simp))))
          have HV : Hid ((L.mk (ofL key) a1 (cN st) c1 a2 n2 c2 a6 64 k6).v (recR st) = .agg #[.string (ofL key), iV cl, iV sq, .slice a1 (cN st) c1, .bool gy, .slice a2 n2 c2, .slice a6 64 k6]) := by
            show _ = _
            rw [HCS.out.1, HCS.out.2, HG.out]; rfl
          have HRR := Lib.hid (refRightR_any (recR st) w18.heap.size w18 ⟨ofL key, a1, cN st, c1, a2, n2, c2, a6, 64, k6⟩ (two_rat HOK.out HK.out HKE.out HN2.out.1 HN2.out.2 H18.out.2.1 H18.out.2.2))
          rw [HV.out] at HRR
          clear hg HE HDN
          cases dn with
          | false =>
            have HDF := Lib.hid HDE.out
            have y0 := H18.out.1.res.cell (i := 0) rfl
            have g0 := H18.out.1.res.free 0
            have y1 := H18.out.1.res.cell (i := 1) rfl
            have g1 := H18.out.1.res.free 1
            have y2 := H18.out.1.res.cell (i := 2) rfl
            have g2 := H18.out.1.res.free 2
            have y3 := H18.out.1.res.cell (i := 3) rfl
            have g3 := H18.out.1.res.free 3
            have y4 := H18.out.1.res.cell (i := 4) rfl
            have g4 := H18.out.1.res.free 4
            have y5 := H18.out.1.res.cell (i := 5) rfl
            have g5 := H18.out.1.res.free 5
            have y6 := H18.out.1.res.cell (i := 6) rfl
            have g6 := H18.out.1.res.free 6
            go_wp2
            have hR7 := ((((((H18.out.1.res.set 0 (.string ⟨#[]⟩)).set 1 (iV 0)).set 2 (iV 0)).set 3 (.slice none 0 0)).set 4 (.bool false)).set 5 (.slice none 0 0)).set 6 (.slice none 0 0)
            refine bodyPost_ret (v := .tuple #[.agg z7.toArray, .int .i64 4]) (Fg.res_row_tmp Try.results11 _ _ N 25 z7.toArray (0, 0) _ rfl hR7 Try.underlying25 rfl info_recS rfl) rfl ?_
            have hF : (decide (s9 st = some []) && decide (kindR st = 1) && decide (goneR st ≤ 1) && rightB (recR st)) = false := by rw [← HDE.out]; rfl
            rw [HQ.out, hF]
            exact ⟨gb_then H18.out.1.gb (gb_set (gb_set (gb_set (gb_set (gb_set (gb_set (gb_set (gb_refl w18 (some N)) 0 _) 1 _) 2 _) 3 _) 4 _) 5 _) 6 _) HN'.out.n0, rfl⟩
          | true =>
            by_cases h1 : kd = 1
            · by_cases h2 : gv ≤ 1
              · have i1 : ((kd : Int) == 1) = true := by rw [beq_iff_eq]; omega
                have i2 : (kd : Int) = 1 := by omega
                have i3 : ¬ (1 : Int) < (gv : Int) := by omega
                have z0 := H18.out.1.bx.cell (i := 0) rfl
                have z1 := H18.out.1.bx.cell (i := 1) rfl
                have z2 := H18.out.1.bx.cell (i := 2) rfl
                have z3 := H18.out.1.bx.cell (i := 3) rfl
                have z4 := H18.out.1.bx.cell (i := 4) rfl
                have z5 := H18.out.1.bx.cell (i := 5) rfl
                have z6 := H18.out.1.bx.cell (i := 6) rfl
                go_wp2_with fail
                refine HRR.out.mono ?_
                rintro e w19 ⟨rfl, hg⟩
                have H19 := Lib.hid (And.intro (H18.out.1.stay hg) (And.intro (H18.out.2.1.keep hg (fun r e => by cases e)) (H18.out.2.2.kept hg (by cases (Value.slice a6 64 k6).ownBlock <;> simp))))
                clear hg H18 HRR z0 z1 z2 z3 z4 z5 z6
                cases hb : rightB (recR st) with
                | false =>
                  have HBF := Lib.hid hb; clear hb
                  have y0 := H19.out.1.res.cell (i := 0) rfl
                  have g0 := H19.out.1.res.free 0
                  have y1 := H19.out.1.res.cell (i := 1) rfl
                  have g1 := H19.out.1.res.free 1
                  have y2 := H19.out.1.res.cell (i := 2) rfl
                  have g2 := H19.out.1.res.free 2
                  have y3 := H19.out.1.res.cell (i := 3) rfl
                  have g3 := H19.out.1.res.free 3
                  have y4 := H19.out.1.res.cell (i := 4) rfl
                  have g4 := H19.out.1.res.free 4
                  have y5 := H19.out.1.res.cell (i := 5) rfl
                  have g5 := H19.out.1.res.free 5
                  have y6 := H19.out.1.res.cell (i := 6) rfl
                  have g6 := H19.out.1.res.free 6
                  go_wp2
                  have hR7 := ((((((H19.out.1.res.set 0 (.string ⟨#[]⟩)).set 1 (iV 0)).set 2 (iV 0)).set 3 (.slice none 0 0)).set 4 (.bool false)).set 5 (.slice none 0 0)).set 6 (.slice none 0 0)
                  refine bodyPost_ret (v := .tuple #[.agg z7.toArray, .int .i64 4]) (Fg.res_row_tmp Try.results11 _ _ N 25 z7.toArray (0, 0) _ rfl hR7 Try.underlying25 rfl info_recS rfl) rfl ?_
                  have hF : (decide (s9 st = some []) && decide (kindR st = 1) && decide (goneR st ≤ 1) && rightB (recR st)) = false := by rw [HBF.out]; simp
                  rw [HQ.out, hF]
                  exact ⟨gb_then H19.out.1.gb (gb_set (gb_set (gb_set (gb_set (gb_set (gb_set (gb_set (gb_refl w19 (some N)) 0 _) 1 _) 2 _) 3 _) 4 _) 5 _) 6 _) HN'.out.n0, rfl⟩
                | true =>
                  have HBF := Lib.hid hb; clear hb
                  have y0 := H19.out.1.res.cell (i := 0) rfl
                  have g0 := H19.out.1.res.free 0
                  have y1 := H19.out.1.res.cell (i := 1) rfl
                  have g1 := H19.out.1.res.free 1
                  have y2 := H19.out.1.res.cell (i := 2) rfl
                  have g2 := H19.out.1.res.free 2
                  have y3 := H19.out.1.res.cell (i := 3) rfl
                  have g3 := H19.out.1.res.free 3
                  have y4 := H19.out.1.res.cell (i := 4) rfl
                  have g4 := H19.out.1.res.free 4
                  have y5 := H19.out.1.res.cell (i := 5) rfl
                  have g5 := H19.out.1.res.free 5
                  have y6 := H19.out.1.res.cell (i := 6) rfl
                  have g6 := H19.out.1.res.free 6
                  have z0 := H19.out.1.bx.cell (i := 0) rfl
                  have z1 := H19.out.1.bx.cell (i := 1) rfl
                  have z2 := H19.out.1.bx.cell (i := 2) rfl
                  have z3 := H19.out.1.bx.cell (i := 3) rfl
                  have z4 := H19.out.1.bx.cell (i := 4) rfl
                  have z5 := H19.out.1.bx.cell (i := 5) rfl
                  have z6 := H19.out.1.bx.cell (i := 6) rfl
                  go_wp2
                  have hR7 := ((((((H19.out.1.res.set 0 (.string (ofL key))).set 1 (iV cl)).set 2 (iV sq)).set 3 (.slice a1 (cN st) c1)).set 4 (.bool gy)).set 5 (.slice a2 n2 c2)).set 6 (.slice a6 64 k6)
                  refine bodyPost_ret (v := .tuple #[.agg #[.string (ofL key), iV cl, iV sq, .slice a1 (cN st) c1, .bool gy, .slice a2 n2 c2, .slice a6 64 k6], .int .i64 0]) (Fg.res_row_tmp Try.results11 _ _ N 25 _ (0, 0) _ rfl hR7 Try.underlying25 rfl info_recS rfl) rfl ?_
                  have hF : (decide (s9 st = some []) && decide (kindR st = 1) && decide (goneR st ≤ 1) && rightB (recR st)) = true := by
                    rw [HBF.out, ← HDE.out, ← HKD.out, ← HGV.out]; simp [h1, h2]
                  rw [HQ.out, hF]
                  have hgN := gb_set (gb_set (gb_set (gb_set (gb_set (gb_set (gb_set (gb_refl w19 (some N)) 0 (.string (ofL key))) 1 (iV cl)) 2 (iV sq)) 3 (.slice a1 (cN st) c1)) 4 (.bool gy)) 5 (.slice a2 n2 c2)) 6 (.slice a6 64 k6)
                  have hNM : N < M := Nat.lt_trans HN'.out.n1 HN'.out.n2
                  refine ⟨gb_then H19.out.1.gb hgN HN'.out.n0, _, congrArg (fun v => Ending.returned (Value.tuple #[v, .int .i64 0])) HV.out.symm, ?_⟩
                  refine ⟨two_rat HOK.out HK.out HKE.out HN2.out.1 HN2.out.2 (H19.out.2.1.keep hgN (fun r e => by cases e; left; omega)) (H19.out.2.2.kept hgN (Or.inr fun e => by have := (H19.out.2.2.lt _ e).1; have := HMB.out; omega)), ?_⟩
                  have n0 := HN'.out.n0
                  refine ⟨fun g o e => ?_, fun g o e => ?_, fun g o e => ?_⟩
                  · have := (H19.out.2.1.cx.lt g (by simp only at e; subst e; rfl)).1; omega
                  · have := (H19.out.2.1.val.lt g (by simp only at e; subst e; rfl)).1; omega
                  · have := (H19.out.2.2.lt g (by simp only at e; subst e; rfl)).1; have := HMB.out; omega
              · have i1 : ((kd : Int) == 1) = true := by rw [beq_iff_eq]; omega
                have i2 : (kd : Int) = 1 := by omega
                have i3 : (1 : Int) < (gv : Int) := by omega
                have y0 := H18.out.1.res.cell (i := 0) rfl
                have g0 := H18.out.1.res.free 0
                have y1 := H18.out.1.res.cell (i := 1) rfl
                have g1 := H18.out.1.res.free 1
                have y2 := H18.out.1.res.cell (i := 2) rfl
                have g2 := H18.out.1.res.free 2
                have y3 := H18.out.1.res.cell (i := 3) rfl
                have g3 := H18.out.1.res.free 3
                have y4 := H18.out.1.res.cell (i := 4) rfl
                have g4 := H18.out.1.res.free 4
                have y5 := H18.out.1.res.cell (i := 5) rfl
                have g5 := H18.out.1.res.free 5
                have y6 := H18.out.1.res.cell (i := 6) rfl
                have g6 := H18.out.1.res.free 6
                go_wp2
                have hR7 := ((((((H18.out.1.res.set 0 (.string ⟨#[]⟩)).set 1 (iV 0)).set 2 (iV 0)).set 3 (.slice none 0 0)).set 4 (.bool false)).set 5 (.slice none 0 0)).set 6 (.slice none 0 0)
                refine bodyPost_ret (v := .tuple #[.agg z7.toArray, .int .i64 4]) (Fg.res_row_tmp Try.results11 _ _ N 25 z7.toArray (0, 0) _ rfl hR7 Try.underlying25 rfl info_recS rfl) rfl ?_
                have hF : (decide (s9 st = some []) && decide (kindR st = 1) && decide (goneR st ≤ 1) && rightB (recR st)) = false := by rw [← HGV.out]; simp [h2]
                rw [HQ.out, hF]
                exact ⟨gb_then H18.out.1.gb (gb_set (gb_set (gb_set (gb_set (gb_set (gb_set (gb_set (gb_refl w18 (some N)) 0 _) 1 _) 2 _) 3 _) 4 _) 5 _) 6 _) HN'.out.n0, rfl⟩
            · have i1 : ((kd : Int) == 1) = false := by rw [beq_eq_false_iff_ne]; omega
              have i2 : ¬ (kd : Int) = 1 := by omega
              have y0 := H18.out.1.res.cell (i := 0) rfl
              have g0 := H18.out.1.res.free 0
              have y1 := H18.out.1.res.cell (i := 1) rfl
              have g1 := H18.out.1.res.free 1
              have y2 := H18.out.1.res.cell (i := 2) rfl
              have g2 := H18.out.1.res.free 2
              have y3 := H18.out.1.res.cell (i := 3) rfl
              have g3 := H18.out.1.res.free 3
              have y4 := H18.out.1.res.cell (i := 4) rfl
              have g4 := H18.out.1.res.free 4
              have y5 := H18.out.1.res.cell (i := 5) rfl
              have g5 := H18.out.1.res.free 5
              have y6 := H18.out.1.res.cell (i := 6) rfl
              have g6 := H18.out.1.res.free 6
              go_wp2
              have hR7 := ((((((H18.out.1.res.set 0 (.string ⟨#[]⟩)).set 1 (iV 0)).set 2 (iV 0)).set 3 (.slice none 0 0)).set 4 (.bool false)).set 5 (.slice none 0 0)).set 6 (.slice none 0 0)
              refine bodyPost_ret (v := .tuple #[.agg z7.toArray, .int .i64 4]) (Fg.res_row_tmp Try.results11 _ _ N 25 z7.toArray (0, 0) _ rfl hR7 Try.underlying25 rfl info_recS rfl) rfl ?_
              have hF : (decide (s9 st = some []) && decide (kindR st = 1) && decide (goneR st ≤ 1) && rightB (recR st)) = false := by rw [← HKD.out]; simp [h1]
              rw [HQ.out, hF]
              exact ⟨gb_then H18.out.1.gb (gb_set (gb_set (gb_set (gb_set (gb_set (gb_set (gb_set (gb_refl w18 (some N)) 0 _) 1 _) 2 _) 3 _) 4 _) 5 _) 6 _) HN'.out.n0, rfl⟩
end Rc
end Go.Proofs.Ytohcoihdijemfaa

/- The document's Put (buttressref08). -/
namespace Go.Proofs.Ytohcoihdijemfaa
open Go.RowKit Ow Wi Ve
namespace Rc
/-- bytes of one's own, in a block from b on -/
def _root_.Go.Proofs.Ytohcoihdijemfaa.Fg.It.ow (b : Nat) (l : List Nat) : Fg.It := ⟨fun v w => w.ownsRow b 5 1 v l.length (l.map u8N), fun v _ _ h hg => h.kept hg (by cases v.ownBlock <;> simp)⟩
def POwn (w : World) (l : List Nat) (n : Int) (e : Ending) (w' : World) : Prop := ∃ v, e = .returned (.tuple #[v, .int .i64 n]) ∧ w.grownBy w' none ∧ w'.ownsRow w.heap.size 5 1 v l.length (l.map u8N)
set_option maxHeartbeats 1000000 in
theorem refPut_own (r : R) (B : Nat) (w : World) (q : L) (h : RAt w B q r) : Calls Try.prog 7 #[q.v r] w (POwn w (putO r) (errN (rightB r) 4)) := by
  have HS := Lib.hid (fun w' (hg : w.grownBy w' none) => refRightR_any r B w' q (h.stay hg))
  cases hb : rightB r with
  | false =>
    rw [hb] at HS
    have HQ : Hid (∀ w', w.grownBy w' none → POwn w (putO r) (errN false 4) (.returned (.tuple #[.slice none 0 0, .int .i64 4])) w') := fun w' hg => by
      unfold putO
      rw [hb]
      exact ⟨_, rfl, hg, World.ownsRow_nil _ _ _ _⟩
    clear h hb
    generalize POwn w (putO r) (errN false 4) = Q at *
    obtain ⟨s, a1, n1, c1, a2, n2, c2, a3, n3, c3⟩ := q
    obtain ⟨key, cl, sq, cx, g, val, sig⟩ := r
    replace HS : Hid (∀ w' (_ : w.grownBy w' none), Calls Try.prog 20 #[vV s cl sq a1 n1 c1 g a2 n2 c2 a3 n3 c3] w' fun e w'' => e = .returned (.bool false) ∧ w'.grownBy w'' none) := HS
    show Calls _ _ #[vV s cl sq a1 n1 c1 g a2 n2 c2 a3 n3 c3] w _
    go_enter Try.func7, Try.ntmps7
    go_wp2_with fail
    refine (HS.out _ (gb_alloc (gb_refl _ _) _)).mono ?_
    rintro e w1 ⟨rfl, hg⟩
    have HG := Lib.hid (gb_trans (gb_alloc (gb_refl _ _) _) hg); clear hg
    go_wp2
    exact HQ.out _ HG.out
  | true =>
    rw [hb] at HS
    have hs : shapeB r = true := by simp only [rightB, Bool.and_eq_true] at hb; exact hb.1
    have HT := Lib.hid (fun w' (hg : w.grownBy w' none) => refText_any r B w' q (h.stay hg))
    have HQ : Hid (∀ w' v, w.grownBy w' none → w'.ownsRow w.heap.size 5 1 v [textL r, r.sig].flatten.length ([textL r, r.sig].flatten.map u8N) → POwn w (putO r) (errN true 4) (.returned (.tuple #[v, .int .i64 0])) w') := fun w' v hg hB => by
      have e : [textL r, r.sig].flatten = putO r := by unfold putO; rw [hb]; simp [putL]
      rw [e] at hB
      exact ⟨v, rfl, hg, hB⟩
    have e : textO r = textL r := by unfold textO; rw [hs]; rfl
    rw [e] at HT
    have l3 := h.l3
    have hsh := shape_of hs
    have hT : (textL r).length ≤ 2000 ∧ ∀ i, (textL r).getD i 0 < 256 := text_small h hs
    have HL : Hid (([textL r, r.sig].flatten).length ≤ 1000000 ∧ ∀ l ∈ [textL r, r.sig], ∀ i, l.getD i 0 < 256) := by
      have h64 : r.sig.length = 64 := by simp only [rightB, Bool.and_eq_true, decide_eq_true_eq] at hb; exact hb.2
      refine ⟨by simp only [List.flatten_cons, List.flatten_nil, List.length_append, List.length_nil, h64]; omega, fun l hl => ?_⟩
      simp only [List.mem_cons, List.not_mem_nil, or_false] at hl
      rcases hl with rfl | rfl
      · exact hT.2
      · exact h.sig.byte
    have HSG := Lib.hid (And.intro h.sig l3)
    generalize textL r = T at *
    clear h hb hs e hsh hT l3
    generalize POwn w (putO r) (errN true 4) = Q at *
    obtain ⟨s, a1, n1, c1, a2, n2, c2, a3, n3, c3⟩ := q
    obtain ⟨key, cl, sq, cx, g, val, sig⟩ := r
    replace HS : Hid (∀ w' (_ : w.grownBy w' none), Calls Try.prog 20 #[vV s cl sq a1 n1 c1 g a2 n2 c2 a3 n3 c3] w' fun e w'' => e = .returned (.bool true) ∧ w'.grownBy w'' none) := HS
    replace HT : Hid (∀ w' (_ : w.grownBy w' none), Calls Try.prog 22 #[vV s cl sq a1 n1 c1 g a2 n2 c2 a3 n3 c3] w' (YOut w' T)) := HT
    replace HSG : Hid (BytesAt w B a3 c3 sig ∧ sig.length = n3) := HSG
    simp only at HL HQ
    show Calls _ _ #[vV s cl sq a1 n1 c1 g a2 n2 c2 a3 n3 c3] w _
    obtain ⟨N, hN⟩ : ∃ N, N = w.heap.size := ⟨_, rfl⟩
    obtain ⟨W0, hW0⟩ : ∃ W0, W0 = w.alloc (.cells #[.string s, iV cl, iV sq, .slice a1 n1 c1, .bool g, .slice a2 n2 c2, .slice a3 n3 c3] 25) := ⟨_, rfl⟩
    have hG0 : w.grownBy W0 none := by rw [hW0]; exact gb_alloc (gb_refl _ _) _
    have hB0 : Blk W0 N 25 [.string s, iV cl, iV sq, .slice a1 n1 c1, .bool g, .slice a2 n2 c2, .slice a3 n3 c3] := by rw [hW0, hN]; exact Blk.new _ _ _
    have HG0 := Lib.hid (And.intro hG0 hB0); clear hG0 hB0
    go_enter Try.func7, Try.ntmps7
    go_wp2_with fail
    rw [← hW0, ← hN]
    clear hW0 hN
    refine (HS.out _ HG0.out.1).mono ?_
    rintro e w1 ⟨rfl, hg⟩
    have HG := Lib.hid (And.intro (gb_trans HG0.out.1 hg) (HG0.out.2.grown hg (by simp))); clear hg HG0
    go_wp2_with fail
    refine Fg.region_t [] [.any, .any, Fg.It.ow w1.heap.size [T, sig].flatten, .val (Value.int .i64 0), .any, .any, .any, .val (vV s cl sq a1 n1 c1 g a2 n2 c2 a3 n3 c3), Fg.It.by T, .val (Value.pointer (some ⟨N, 6, none⟩)), .val (Value.slice a3 n3 c3), Fg.It.rws [T, sig], Fg.It.ow w1.heap.size [T, sig].flatten] w1 8 (gb_refl _ _) (by kernel_rfl) (by kernel_rfl) (by kernel_rfl) (by kernel_rfl) (by decide) (by kernel_rfl) ?_ ?_
    · refine ⟨Fg.vT rfl (by decide) fun ac w h => ?_, ?_⟩
      · have e1 : ac.tmps.getD 1 undef = Value.pointer (some ⟨N, 0, none⟩) := h.rest 1 (by kernel_rfl)
        have m0 := (HG.out.2.grown h.base (by simp)).cell (i := 0) rfl
        have m1 := (HG.out.2.grown h.base (by simp)).cell (i := 1) rfl
        have m2 := (HG.out.2.grown h.base (by simp)).cell (i := 2) rfl
        have m3 := (HG.out.2.grown h.base (by simp)).cell (i := 3) rfl
        have m4 := (HG.out.2.grown h.base (by simp)).cell (i := 4) rfl
        have m5 := (HG.out.2.grown h.base (by simp)).cell (i := 5) rfl
        have m6 := (HG.out.2.grown h.base (by simp)).cell (i := 6) rfl
        refine ⟨vV s cl sq a1 n1 c1 g a2 n2 c2 a3 n3 c3, w, wants_none rfl, ?_, gb_refl _ _, rfl⟩
        clear h
        simp only [execOp, Act.eval, e1]
        go_simp
      refine ⟨Fg.cT rfl (by decide) fun ac w h => ?_, ?_⟩
      · have e7 : ac.tmps.getD 7 undef = vV s cl sq a1 n1 c1 g a2 n2 c2 a3 n3 c3 := h.dep 7 (by kernel_rfl)
        refine ⟨22, #[vV s cl sq a1 n1 c1 g a2 n2 c2 a3 n3 c3], wants_none rfl, Fg.run_call rfl rfl (by simp only [List.map_toArray, List.map_cons, List.map_nil, Act.eval, e7]) (Fg.run_enter Try.func22 (by kernel_rfl) (by kernel_rfl)), ?_⟩
        exact (HT.out w (gb_trans HG.out.1 h.base)).mono fun _ _ ⟨_, _, he, hg, hb⟩ => ⟨_, he, hg, _, _, _, rfl, hb⟩
      refine ⟨Fg.vT rfl (by decide) fun ac w h => ?_, ?_⟩
      · have e1 : ac.tmps.getD 1 undef = Value.pointer (some ⟨N, 0, none⟩) := h.rest 1 (by kernel_rfl)
        refine ⟨Value.pointer (some ⟨N, 6, none⟩), w, wants_none rfl, ?_, gb_refl _ _, rfl⟩
        clear h
        simp only [execOp, Act.eval, e1]
        go_simp
      refine ⟨Fg.vT rfl (by decide) fun ac w h => ?_, ?_⟩
      · have e9 : ac.tmps.getD 9 undef = Value.pointer (some ⟨N, 6, none⟩) := h.dep 9 (by kernel_rfl)
        have c := (HG.out.2.grown h.base (by simp)).cell (i := 6) rfl
        refine ⟨Value.slice a3 n3 c3, w, wants_none rfl, ?_, gb_refl _ _, rfl⟩
        clear h
        simp only [execOp, Act.eval, e9]
        go_simp
      refine ⟨Fg.vT rfl (by decide) fun ac w h => ?_, ?_⟩
      · obtain ⟨a8, k8, B8, e8, b8⟩ : ∃ x c B, ac.tmps.getD 8 undef = .slice x T.length c ∧ BytesAt w B x c T := h.dep 8 (by kernel_rfl)
        have e10 : ac.tmps.getD 10 undef = Value.slice a3 n3 c3 := h.dep 10 (by kernel_rfl)
        have hbx : RowsAt (w.alloc (.cells #[.slice a8 T.length k8, .slice a3 n3 c3] 22)) (w.heap.size + 1) (some ⟨w.heap.size, 0, none⟩) [T, sig] := by
          rw [← HSG.out.2]
          exact rows_box _ [(a8, k8, T), (a3, c3, sig)] (fun p hp => by
            simp only [List.mem_cons, List.not_mem_nil, or_false] at hp
            rcases hp with rfl | rfl
            · exact ⟨_, b8⟩
            · exact ⟨_, HSG.out.1.stay (gb_trans HG.out.1 h.base)⟩)
        refine ⟨.slice (some ⟨w.heap.size, 0, none⟩) 2 2, w.alloc (.cells #[.slice a8 T.length k8, .slice a3 n3 c3] 22), wants_none rfl, ?_, gb_alloc (gb_refl _ _) _, ⟨_, 2, _, rfl, hbx⟩⟩
        clear h
        simp only [execOp, Act.eval, e8, e10, List.map_toArray, List.map_cons, List.map_nil]
        go_simp
      refine ⟨Fg.cT rfl (by decide) fun ac w h => ?_, ?_⟩
      · obtain ⟨a11, k11, B11, e11, b11⟩ : ∃ x c B, ac.tmps.getD 11 undef = .slice x [T, sig].length c ∧ RowsAt w B x [T, sig] := h.dep 11 (by kernel_rfl)
        refine ⟨21, #[Value.slice a11 [T, sig].length k11], wants_none rfl, Fg.run_call rfl rfl (by simp only [List.map_toArray, List.map_cons, List.map_nil, Act.eval, e11]) (Fg.run_enter Try.func21 (by kernel_rfl) (by kernel_rfl)), ?_⟩
        exact (refJoin_own 2 [T, sig] a11 k11 B11 w rfl b11 (by simp) HL.out.1 HL.out.2).mono fun _ _ ⟨_, he, hg, ho⟩ => ⟨_, he, hg, own_down ho h.base.size⟩
      refine ⟨Fg.vT rfl (by decide) fun ac w h => ?_, ?_⟩
      · obtain ⟨v12, e12, b12⟩ : ∃ v, ac.tmps.getD 12 undef = v ∧ w.ownsRow w1.heap.size 5 1 v [T, sig].flatten.length ([T, sig].flatten.map u8N) := ⟨_, rfl, h.dep 12 (by kernel_rfl)⟩
        exact ⟨_, w, wants_none rfl, Fg.run_assign rfl e12, gb_refl _ _, b12⟩
      refine ⟨Fg.vT rfl (by decide) fun ac w h => ?_, ?_⟩
      · refine ⟨Value.int .i64 0, w, wants_none rfl, ?_, gb_refl _ _, rfl⟩
        clear h
        simp only [execOp, Act.eval]
        go_simp
      trivial
    · intro aq wq hB hsz hdf hrest hslots hpt
      obtain ⟨u0, e0⟩ : ∃ u, aq.tmps.getD 0 undef = u := ⟨_, rfl⟩
      obtain ⟨v2, e2, b2⟩ : ∃ v, aq.tmps.getD 2 undef = v ∧ wq.ownsRow w1.heap.size 5 1 v [T, sig].flatten.length ([T, sig].flatten.map u8N) := ⟨_, rfl, hslots 2 (by kernel_rfl)⟩
      have e3 : aq.tmps.getD 3 undef = Value.int .i64 0 := hslots 3 (by kernel_rfl)
      obtain ⟨u4, e4⟩ : ∃ u, aq.tmps.getD 4 undef = u := ⟨_, rfl⟩
      obtain ⟨u5, e5⟩ : ∃ u, aq.tmps.getD 5 undef = u := ⟨_, rfl⟩
      obtain ⟨u6, e6⟩ : ∃ u, aq.tmps.getD 6 undef = u := ⟨_, rfl⟩
      obtain ⟨u7, e7⟩ : ∃ u, aq.tmps.getD 7 undef = u := ⟨_, rfl⟩
      obtain ⟨u8, e8⟩ : ∃ u, aq.tmps.getD 8 undef = u := ⟨_, rfl⟩
      obtain ⟨u9, e9⟩ : ∃ u, aq.tmps.getD 9 undef = u := ⟨_, rfl⟩
      obtain ⟨u10, e10⟩ : ∃ u, aq.tmps.getD 10 undef = u := ⟨_, rfl⟩
      obtain ⟨u11, e11⟩ : ∃ u, aq.tmps.getD 11 undef = u := ⟨_, rfl⟩
      obtain ⟨u12, e12⟩ : ∃ u, aq.tmps.getD 12 undef = u := ⟨_, rfl⟩
      obtain rfl := Fg.frame_is (a := aq) (vs := [u0, Value.pointer (some ⟨N, 0, none⟩), v2, Value.int .i64 0, u4, u5, u6, u7, u8, u9, u10, u11, u12]) hsz ⟨e0, hrest 1 (by kernel_rfl), e2, e3, e4, e5, e6, e7, e8, e9, e10, e11, e12, trivial⟩ hdf
      clear hsz hdf hrest hslots hpt e0 e2 e3 e4 e5 e6 e7 e8 e9 e10 e11 e12
      have HR := Lib.hid (HQ.out wq v2 (gb_trans HG.out.1 hB) (own_down b2 HG.out.1.size))
      clear b2 hB
      refine wpList_nil ?_
      go_wp2
      exact HR.out
theorem refPut_any (r : R) (B : Nat) (w : World) (q : L) (h : RAt w B q r) : Calls Try.prog 7 #[q.v r] w (POut w (putO r) (errN (rightB r) 4)) := by
  have hb : ∀ i, (putO r).getD i 0 < 256 := by
    unfold putO
    cases hr : rightB r with
    | false => simp
    | true =>
      simp only [rightB, Bool.and_eq_true] at hr
      exact app_byte (text_small h hr.1).2 h.sig.byte
  refine (refPut_own r B w q h).mono fun e w' ⟨v, he, hg, ho⟩ => ?_
  obtain ⟨a, c, rfl, _, hB, _⟩ := own_slice ho hb
  exact ⟨a, c, he, hg, hB⟩
end Rc
end Go.Proofs.Ytohcoihdijemfaa

/- The kit's SameBytes: whether two slices hold the same bytes. -/
namespace Go.Proofs.Ytohcoihdijemfaa
open Go.RowKit Ow

theorem getD_at (l : List Nat) (i : Nat) (h : i < l.length) : l.getD i 0 = l[i] := by rw [List.getD_eq_getElem?_getD, List.getElem?_eq_getElem h]; rfl
theorem list_same {p q : List Nat} (h : p.length = q.length) (hi : ∀ i, i < p.length → p.getD i 0 = q.getD i 0) : p = q := by
  apply List.ext_getElem h
  intro i h1 h2
  rw [← getD_at p i h1, ← getD_at q i h2]
  exact hi i h1
set_option maxHeartbeats 400000 in
theorem sameBytes_any (B1 B2 n m c1 c2 : Nat) (a1 a2 : Option Addr) (p q : List Nat) (w : World) (hn : p.length = n) (hm : q.length = m) (h1 : BytesAt w B1 a1 c1 p) (h2 : BytesAt w B2 a2 c2 q) :
    Calls Try.prog 18 #[.slice a1 n c1, .slice a2 m c2] w fun e w' => e = .returned (.bool (decide (p = q))) ∧ w.grownBy w' none := by
  have hn1 := h1.fits
  have hn2 := h2.fits
  have ht1 := h1.top
  have ht2 := h2.top
  rw [hn] at hn1
  rw [hm] at hn2
  have H1 := Lib.hid h1; clear h1
  have H2 := Lib.hid h2; clear h2
  have HN := Lib.hid hn; clear hn
  have HM := Lib.hid hm; clear hm
  by_cases hnm : n = m
  · subst hnm
    go_enter Try.func18, Try.ntmps18
    go_wp2
    go_loopw [5] (fun i wr => ∃ k j : Nat, k ≤ n ∧ i = .int .i64 k ∧ wr = w.drewN j ∧ ∀ i, i < k → p.getD i 0 = q.getD i 0) (fun i _ => n - (intOf i).toNat)
    case atStart => exact ⟨0, 0, by omega, rfl, rfl, fun i hi => absurd hi (by omega)⟩
    case round =>
      obtain ⟨k, j, hk, rfl, rfl, heq⟩ := hrel
      have HE := Lib.hid heq; clear heq
      by_cases hlt : k < n
      · obtain ⟨pb, po, rfl, _, hc⟩ := H1.out.cells.resolve_left (by rw [HN.out]; omega)
        obtain ⟨qb, qo, rfl, _, hd⟩ := H2.out.cells.resolve_left (by rw [HM.out]; omega)
        have k1 := hc k (by rw [HN.out]; exact hlt)
        have k2 := hd k (by rw [HM.out]; exact hlt)
        unfold u8N at k1 k2
        clear hc hd
        have i0 : (k : Int) < (n : Int) := by omega
        obtain ⟨x, hx⟩ : ∃ x, x = p.getD k 0 := ⟨_, rfl⟩
        obtain ⟨y, hy⟩ : ∃ y, y = q.getD k 0 := ⟨_, rfl⟩
        rw [← hx] at k1
        rw [← hy] at k2
        have HXY := Lib.hid (And.intro hx hy); clear hx hy
        by_cases hxy : x = y
        · subst hxy
          go_wp2_with fail
          go_quiet (fail)
          go_wp2
          go_roundw
          case rel => exact ⟨k + 1, _, by omega, by go_num, rfl, fun i hi => by
            rcases Nat.lt_or_ge i k with h | h
            · exact HE.out i h
            · obtain rfl : i = k := by omega
              rw [← HXY.out.1, ← HXY.out.2]⟩
          case measure => simp [intOf]; omega
        · have hne : ¬ (x : Int) = (y : Int) := by omega
          have hpq : p ≠ q := fun e => hxy (by rw [HXY.out.1, HXY.out.2, e])
          have HPQ : Hid (decide (p = q) = false) := decide_eq_false hpq
          clear hpq hxy
          go_wp2_with fail
          go_quiet (fail)
          go_wp2
          go_ret
          exact ⟨by rw [HPQ.out]; rfl, ⟨rfl, rfl, rfl, Nat.le_refl _, fun _ _ _ => rfl⟩⟩
      · obtain rfl : k = n := by omega
        have hpq : p = q := list_same (by rw [HN.out, HM.out]) (fun i hi => HE.out i (by rw [HN.out] at hi; exact hi))
        have HPQ : Hid (decide (p = q) = true) := decide_eq_true hpq
        clear hlt hpq
        go_wp2
        go_ret
        exact ⟨by rw [HPQ.out]; rfl, ⟨rfl, rfl, rfl, Nat.le_refl _, fun _ _ _ => rfl⟩⟩
  · have hne : ¬ (n : Int) = (m : Int) := by omega
    have hpq : p ≠ q := fun e => hnm (by rw [← HN.out, ← HM.out, e])
    have HPQ : Hid (decide (p = q) = false) := decide_eq_false hpq
    clear hpq hnm
    go_enter Try.func18, Try.ntmps18
    go_wp2
    go_ret
    exact ⟨by rw [HPQ.out]; rfl, gb_refl _ _⟩
end Go.Proofs.Ytohcoihdijemfaa

/- The kit's SameDots: whether two slices hold the same dots. -/
namespace Go.Proofs.Ytohcoihdijemfaa
open Go.RowKit Ve
namespace Ve
theorem dots_same {p q : List D} (h : p.length = q.length) (hi : ∀ i, i < p.length → p.getD i z0 = q.getD i z0) : p = q := by
  apply List.ext_getElem h
  intro i h1 h2
  have := hi i h1
  rwa [List.getD_eq_getElem?_getD, List.getD_eq_getElem?_getD, List.getElem?_eq_getElem h1, List.getElem?_eq_getElem h2] at this
theorem eq_dot (a b c d : Int) (w : World) : (Op.equalIn 10000 43 (.agg #[.int .i64 a, .int .i64 b]) (.agg #[.int .i64 c, .int .i64 d])).run Try.prog w = .ok (a == c && b == d) w := by
  have u3 := Try.underlying3
  have a3 := Try.isAgg3
  have z3 := Try.sizeOf3
  have hS : Try.prog.underlying 43 = some (.struct (Try.prog.fieldsOf 43)) := by kernel_rfl
  have hp : Try.prog.stoodInHeld 43 = false := by kernel_rfl
  rw [show (10000 : Nat) = 9999 + 1 from rfl, run_equalIn_agg w 9999 43 _ _ hS hp]
  simp only [Program.fieldsOf, Try.underlying43]
  go_simp
  by_cases h1 : a = c <;> by_cases h2 : b = d <;> simp [h1, h2]
set_option maxHeartbeats 400000 in
theorem sameDots_any (B1 B2 n m c1 c2 : Nat) (a1 a2 : Option Addr) (p q : List D) (w : World) (hn : p.length = n) (hm : q.length = m) (h1 : DotsAt w B1 a1 p) (h2 : DotsAt w B2 a2 q) (hc : n < 9223372036854775808) :
    Calls Try.prog 33 #[.slice a1 n c1, .slice a2 m c2] w fun e w' => e = .returned (.bool (decide (p = q))) ∧ w.grownBy w' none := by
  have H1 := Lib.hid h1; clear h1
  have H2 := Lib.hid h2; clear h2
  have HN := Lib.hid hn; clear hn
  have HM := Lib.hid hm; clear hm
  by_cases hnm : n = m
  · subst hnm
    go_enter Try.func33, Try.ntmps33
    go_wp2
    go_loopw [5] (fun i wr => ∃ k j : Nat, k ≤ n ∧ i = .int .i64 k ∧ wr = w.drewN j ∧ ∀ i, i < k → p.getD i z0 = q.getD i z0) (fun i _ => n - (intOf i).toNat)
    case atStart => exact ⟨0, 0, by omega, rfl, rfl, fun i hi => absurd hi (by omega)⟩
    case round =>
      obtain ⟨k, j, hk, rfl, rfl, heq⟩ := hrel
      have HE := Lib.hid heq; clear heq
      by_cases hlt : k < n
      · obtain ⟨pb, po, rfl, _, hcs⟩ := H1.out.cells.resolve_left (by rw [HN.out]; omega)
        obtain ⟨qb, qo, rfl, _, hds⟩ := H2.out.cells.resolve_left (by rw [HM.out]; omega)
        obtain ⟨k1, k2⟩ := hcs k (by rw [HN.out]; exact hlt)
        obtain ⟨k3, k4⟩ := hds k (by rw [HM.out]; exact hlt)
        clear hcs hds
        have i0 : (k : Int) < (n : Int) := by omega
        obtain ⟨x, y, hx⟩ : ∃ x y, p.getD k z0 = (x, y) := ⟨_, _, rfl⟩
        obtain ⟨x2, y2, hy⟩ : ∃ x y, q.getD k z0 = (x, y) := ⟨_, _, rfl⟩
        rw [hx] at k1 k2
        rw [hy] at k3 k4
        simp only at k1 k2 k3 k4
        have HXY := Lib.hid (And.intro hx hy); clear hx hy
        by_cases hxy : x = x2 ∧ y = y2
        · obtain ⟨rfl, rfl⟩ := hxy
          go_wp2_with fail
          go_region
          go_wp2
          go_roundw
          case rel => exact ⟨k + 1, j + 1, by omega, by go_num, rfl, fun i hi => by
            rcases Nat.lt_or_ge i k with h | h
            · exact HE.out i h
            · obtain rfl : i = k := by omega
              rw [HXY.out.1, HXY.out.2]⟩
          case measure => simp [intOf]; omega
        · have hpq : p ≠ q := fun e => hxy (by have h1 := HXY.out.1; rw [e, HXY.out.2] at h1; simpa using h1.symm)
          have HPQ : Hid (decide (p = q) = false) := decide_eq_false hpq
          clear hpq
          by_cases hx : x = x2
          · subst hx
            have hy : ¬ y = y2 := fun e => hxy ⟨rfl, e⟩
            clear hxy
            go_wp2_with fail
            have he : ∀ w, (Op.equalIn 10000 43 (.agg #[.int .i64 x, .int .i64 y]) (.agg #[.int .i64 x, .int .i64 y2])).run Try.prog w = .ok false w := fun w => by rw [eq_dot]; simp [hy]
            go_region
            clear he
            go_wp2
            go_ret
            exact ⟨by rw [HPQ.out]; rfl, ⟨rfl, rfl, rfl, Nat.le_refl _, fun _ _ _ => rfl⟩⟩
          · clear hxy
            go_wp2_with fail
            have he : ∀ w, (Op.equalIn 10000 43 (.agg #[.int .i64 x, .int .i64 y]) (.agg #[.int .i64 x2, .int .i64 y2])).run Try.prog w = .ok false w := fun w => by rw [eq_dot]; simp [hx]
            go_region
            clear he
            go_wp2
            go_ret
            exact ⟨by rw [HPQ.out]; rfl, ⟨rfl, rfl, rfl, Nat.le_refl _, fun _ _ _ => rfl⟩⟩
      · obtain rfl : k = n := by omega
        have hpq : p = q := dots_same (by rw [HN.out, HM.out]) (fun i hi => HE.out i (by rw [HN.out] at hi; exact hi))
        have HPQ : Hid (decide (p = q) = true) := decide_eq_true hpq
        clear hlt hpq
        go_wp2
        go_ret
        exact ⟨by rw [HPQ.out]; rfl, ⟨rfl, rfl, rfl, Nat.le_refl _, fun _ _ _ => rfl⟩⟩
  · have hne : ¬ (n : Int) = (m : Int) := by omega
    have hpq : p ≠ q := fun e => hnm (by rw [← HN.out, ← HM.out, e])
    have HPQ : Hid (decide (p = q) = false) := decide_eq_false hpq
    clear hpq hnm
    go_enter Try.func33, Try.ntmps33
    go_wp2
    go_ret
    exact ⟨by rw [HPQ.out]; rfl, gb_refl _ _⟩
end Ve
end Go.Proofs.Ytohcoihdijemfaa

/- The kit's SameRecord. (Printed by gen_rcsame.py.) -/
namespace Go.Proofs.Ytohcoihdijemfaa
open Go.RowKit Ow Wi Ve
namespace Rc
def sameB (a b : R) : Bool := decide (a.key = b.key) && decide (a.cl = b.cl) && decide (a.sq = b.sq) && decide (a.cx = b.cx) && decide (a.gone = b.gone) && decide (a.val = b.val) && decide (a.sig = b.sig)
theorem sameB_iff (a b : R) : sameB a b = true ↔ a = b := by
  cases a; cases b
  simp only [sameB, Bool.and_eq_true, decide_eq_true_eq, R.mk.injEq]
  constructor
  · rintro ⟨⟨⟨⟨⟨⟨h1, h2⟩, h3⟩, h4⟩, h5⟩, h6⟩, h7⟩; exact ⟨h1, h2, h3, h4, h5, h6, h7⟩
  · rintro ⟨h1, h2, h3, h4, h5, h6, h7⟩; exact ⟨⟨⟨⟨⟨⟨h1, h2⟩, h3⟩, h4⟩, h5⟩, h6⟩, h7⟩
set_option maxHeartbeats 2000000 in
theorem sameRec_any (ra rb : R) (B1 B2 : Nat) (w : World) (qa qb : L) (ha : RAt w B1 qa ra) (hb : RAt w B2 qb rb) : Calls Try.prog 12 #[qa.v ra, qb.v rb] w fun e w' => e = .returned (.bool (sameB ra rb)) ∧ w.grownBy w' none := by
  have HD := Lib.hid (fun w' (hg : w.grownBy w' none) => sameDots_any B1 B2 qa.n1 qb.n1 qa.c1 qb.c1 qa.a1 qb.a1 ra.cx rb.cx w' ha.l1 hb.l1 (ha.dots.stay hg) (hb.dots.stay hg) ha.top)
  have HV := Lib.hid (fun w' (hg : w.grownBy w' none) => sameBytes_any B1 B2 qa.n2 qb.n2 qa.c2 qb.c2 qa.a2 qb.a2 ra.val rb.val w' ha.l2 hb.l2 (ha.val.stay hg) (hb.val.stay hg))
  have HS := Lib.hid (fun w' (hg : w.grownBy w' none) => sameBytes_any B1 B2 qa.n3 qb.n3 qa.c3 qb.c3 qa.a3 qb.a3 ra.sig rb.sig w' ha.l3 hb.l3 (ha.sig.stay hg) (hb.sig.stay hg))
  have hz := str_eq qa.s qb.s
  rw [ha.str, hb.str] at hz
  obtain ⟨o, ho⟩ : ∃ o, o = sameB ra rb := ⟨_, rfl⟩
  rw [← ho]
  unfold sameB at ho
  rw [← hz] at ho
  clear ha hb hz
  generalize decide (ra.cx = rb.cx) = z4 at *
  generalize decide (ra.val = rb.val) = z6 at *
  generalize decide (ra.sig = rb.sig) = z7 at *
  obtain ⟨s, a1, n1, c1, a2, n2, c2, a3, n3, c3⟩ := qa
  obtain ⟨key, cl, sq, cx, g, val, sig⟩ := ra
  obtain ⟨s', a1', n1', c1', a2', n2', c2', a3', n3', c3'⟩ := qb
  obtain ⟨key', cl', sq', cx', g', val', sig'⟩ := rb
  simp only at ho HD HV HS
  obtain ⟨z1, h1⟩ : ∃ z, (s.toList == s'.toList) = z := ⟨_, rfl⟩
  obtain ⟨z2, h2⟩ : ∃ z, (cl == cl') = z := ⟨_, rfl⟩
  obtain ⟨z3, h3⟩ : ∃ z, (sq == sq') = z := ⟨_, rfl⟩
  obtain ⟨z5, h5⟩ : ∃ z, (g == g') = z := ⟨_, rfl⟩
  rw [h1, show decide (cl = cl') = (cl == cl') from by rw [Bool.eq_iff_iff]; simp, show decide (sq = sq') = (sq == sq') from by rw [Bool.eq_iff_iff]; simp, show decide (g = g') = (g == g') from by rw [Bool.eq_iff_iff]; simp, h2, h3, h5] at ho
  have HO := Lib.hid ho; clear ho
  replace h1 := Lib.hid h1
  replace h2 := Lib.hid h2
  replace h3 := Lib.hid h3
  replace h5 := Lib.hid h5
  show Calls _ _ #[vV s cl sq a1 n1 c1 g a2 n2 c2 a3 n3 c3, vV s' cl' sq' a1' n1' c1' g' a2' n2' c2' a3' n3' c3'] w _
  obtain ⟨N, hN⟩ : ∃ N, N = w.heap.size := ⟨_, rfl⟩
  obtain ⟨M, hM⟩ : ∃ M, M = w.heap.size + 1 := ⟨_, rfl⟩
  obtain ⟨W0, hW0⟩ : ∃ W0, W0 = (w.alloc (.cells #[.string s, iV cl, iV sq, .slice a1 n1 c1, .bool g, .slice a2 n2 c2, .slice a3 n3 c3] 25)).alloc (.cells #[.string s', iV cl', iV sq', .slice a1' n1' c1', .bool g', .slice a2' n2' c2', .slice a3' n3' c3'] 25) := ⟨_, rfl⟩
  have HG : Hid (w.grownBy W0 none ∧ Blk W0 N 25 [.string s, iV cl, iV sq, .slice a1 n1 c1, .bool g, .slice a2 n2 c2, .slice a3 n3 c3] ∧ Blk W0 M 25 [.string s', iV cl', iV sq', .slice a1' n1' c1', .bool g', .slice a2' n2' c2', .slice a3' n3' c3']) := by
    refine ⟨?_, ?_, ?_⟩
    · rw [hW0]; exact gb_alloc (gb_alloc (gb_refl _ _) _) _
    · rw [hW0, hN]; exact (Blk.new _ _ _).alloc _
    · rw [hW0, hM, ← World.size_alloc]; exact Blk.new _ _ _
  have x0 := HG.out.2.1.cell (i := 0) rfl
  have y0 := HG.out.2.2.cell (i := 0) rfl
  have x1 := HG.out.2.1.cell (i := 1) rfl
  have y1 := HG.out.2.2.cell (i := 1) rfl
  have x2 := HG.out.2.1.cell (i := 2) rfl
  have y2 := HG.out.2.2.cell (i := 2) rfl
  have x3 := HG.out.2.1.cell (i := 3) rfl
  have y3 := HG.out.2.2.cell (i := 3) rfl
  have x4 := HG.out.2.1.cell (i := 4) rfl
  have y4 := HG.out.2.2.cell (i := 4) rfl
  have x5 := HG.out.2.1.cell (i := 5) rfl
  have y5 := HG.out.2.2.cell (i := 5) rfl
  have x6 := HG.out.2.1.cell (i := 6) rfl
  have y6 := HG.out.2.2.cell (i := 6) rfl
  go_enter Try.func12, Try.ntmps12
  go_upto_region 1 with fail
  rw [← hW0, ← hM, ← hN]
  clear hW0 hN hM
  cases z1 with
  | false =>
    have q := h1.out
    go_wp2
    go_ret
    exact ⟨by rw [HO.out]; simp, HG.out.1⟩
  | true =>
    have q1 := h1.out
    cases z2 with
    | false =>
      have q := h2.out
      go_wp2
      go_ret
      exact ⟨by rw [HO.out]; simp, HG.out.1⟩
    | true =>
      have q2 := h2.out
      cases z3 with
      | false =>
        have q := h3.out
        go_wp2
        go_ret
        exact ⟨by rw [HO.out]; simp, HG.out.1⟩
      | true =>
        have q3 := h3.out
        go_wp2_with fail
        refine (HD.out _ HG.out.1).mono ?_
        rintro e w4 ⟨rfl, hg⟩
        have HG4 : Hid (w.grownBy w4 none ∧ Blk w4 N 25 [.string s, iV cl, iV sq, .slice a1 n1 c1, .bool g, .slice a2 n2 c2, .slice a3 n3 c3] ∧ Blk w4 M 25 [.string s', iV cl', iV sq', .slice a1' n1' c1', .bool g', .slice a2' n2' c2', .slice a3' n3' c3']) := ⟨gb_trans HG.out.1 hg, HG.out.2.1.grown hg (by simp), HG.out.2.2.grown hg (by simp)⟩
        clear hg HG
        have HG := HG4; clear HG4
        replace x4 := HG.out.2.1.cell (i := 4) rfl
        replace y4 := HG.out.2.2.cell (i := 4) rfl
        replace x5 := HG.out.2.1.cell (i := 5) rfl
        replace y5 := HG.out.2.2.cell (i := 5) rfl
        replace x6 := HG.out.2.1.cell (i := 6) rfl
        replace y6 := HG.out.2.2.cell (i := 6) rfl
        cases z4 with
        | false =>
          go_wp2
          go_ret
          exact ⟨by rw [HO.out]; simp, HG.out.1⟩
        | true =>
          cases z5 with
          | false =>
            have q := h5.out
            go_wp2
            go_ret
            exact ⟨by rw [HO.out]; simp, HG.out.1⟩
          | true =>
            have q5 := h5.out
            go_wp2_with fail
            refine (HV.out _ HG.out.1).mono ?_
            rintro e w6 ⟨rfl, hg⟩
            have HG6 : Hid (w.grownBy w6 none ∧ Blk w6 N 25 [.string s, iV cl, iV sq, .slice a1 n1 c1, .bool g, .slice a2 n2 c2, .slice a3 n3 c3] ∧ Blk w6 M 25 [.string s', iV cl', iV sq', .slice a1' n1' c1', .bool g', .slice a2' n2' c2', .slice a3' n3' c3']) := ⟨gb_trans HG.out.1 hg, HG.out.2.1.grown hg (by simp), HG.out.2.2.grown hg (by simp)⟩
            clear hg HG
            have HG := HG6; clear HG6
            replace x6 := HG.out.2.1.cell (i := 6) rfl
            replace y6 := HG.out.2.2.cell (i := 6) rfl
            cases z6 with
            | false =>
              go_wp2
              go_ret
              exact ⟨by rw [HO.out]; simp, HG.out.1⟩
            | true =>
              go_wp2_with fail
              refine (HS.out _ HG.out.1).mono ?_
              rintro e w7 ⟨rfl, hg⟩
              have HG7 : Hid (w.grownBy w7 none ∧ Blk w7 N 25 [.string s, iV cl, iV sq, .slice a1 n1 c1, .bool g, .slice a2 n2 c2, .slice a3 n3 c3] ∧ Blk w7 M 25 [.string s', iV cl', iV sq', .slice a1' n1' c1', .bool g', .slice a2' n2' c2', .slice a3' n3' c3']) := ⟨gb_trans HG.out.1 hg, HG.out.2.1.grown hg (by simp), HG.out.2.2.grown hg (by simp)⟩
              clear hg HG
              have HG := HG7; clear HG7
              go_wp2
              go_ret
              exact ⟨by rw [HO.out]; simp, HG.out.1⟩
end Rc
end Go.Proofs.Ytohcoihdijemfaa

/- record's laws: the chapter's example; what is too great. -/
namespace Go.Proofs.Ytohcoihdijemfaa
open Go.RowKit Ow Wi Ve
namespace Rc
theorem mark_bytes (w : World) (l : List Nat) (f : Nat × Nat) (n : Nat) (hn : l.length = n) (hm : n < 9223372036854775808) (hb : ∀ i, l.getD i 0 < 256) :
    BytesAt (w.alloc (.cells (l.map u8N).toArray 5 f)) (w.heap.size + 1) (some ⟨w.heap.size, 0, none⟩) n l :=
  ⟨by simp, by omega, hm, hb, Or.inr ⟨w.heap.size, 0, rfl, by omega, fun i hi => by
    have h : (w.alloc (.cells (l.map u8N).toArray 5 f)).heap[w.heap.size]? = some (.cells (l.map u8N).toArray 5 f) := heap_alloc_new _ _
    rw [Nat.zero_add]
    unfold World.cell?
    rw [h]
    simp [List.getElem?_eq_getElem hi]⟩⟩
def exR : R := ⟨[97], 1, 1, [], false, [120], []⟩
def exO : R := ⟨[97], 1, 1, [(1, 1)], false, [120], []⟩
theorem ex_len : (textO exR).length = 44 := by decide +kernel
theorem ex_one : (textO exR).getD 0 0 = 1 := by decide +kernel
theorem ex_own : textO exO = [] := by decide +kernel
theorem ex_right : rightB exR = false := by decide +kernel
set_option maxRecDepth 100000 in
set_option maxHeartbeats 4000000 in
theorem awake8_any (w : World) : Calls Try.prog 5 #[] w fun e w' => e = .returned (.bool true) ∧ w.grownBy w' none := by
  have hcv := fun (w : World) (C : Array Value) (n c : Nat) => Lib.run_convert_bytes_const (P := Try.prog) w 22 5 C n c Try.underlying22 Try.underlying5
  obtain ⟨G, hG⟩ : ∃ G, G = w.heap.size := ⟨_, rfl⟩
  obtain ⟨N, hN⟩ : ∃ N, N = w.heap.size + 1 := ⟨_, rfl⟩
  obtain ⟨W0, hW0⟩ : ∃ W0, W0 = (w.alloc (.cells #[.int .u8 120] 5 (1, 2))).alloc (.cells #[.string ⟨#[97]⟩, iV 1, iV 1, .slice none 0 0, .bool false, .slice (some ⟨G, 0, none⟩) 1 1, .slice none 0 0] 25) := ⟨_, rfl⟩
  have HG : Hid (BytesAt W0 N (some ⟨G, 0, none⟩) 1 [120] ∧ Blk W0 N 25 [.string ⟨#[97]⟩, iV 1, iV 1, .slice none 0 0, .bool false, .slice (some ⟨G, 0, none⟩) 1 1, .slice none 0 0] ∧ w.grownBy W0 none) := by
    refine ⟨?_, ?_, ?_⟩
    · rw [hW0, hG, hN]; exact (mark_bytes w [120] (1, 2) 1 rfl (by decide) (fun i => by rcases i with _ | i <;> simp)).stay (gb_alloc (gb_refl _ _) _)
    · rw [hW0, hN]; exact blk_at _ _ _ (by simp)
    · rw [hW0]; exact gb_alloc (gb_alloc (gb_refl _ _) _) _
  have hR1 : ∀ w', W0.grownBy w' none → RAt w' N ⟨⟨#[97]⟩, none, 0, 0, some ⟨G, 0, none⟩, 1, 1, none, 0, 0⟩ exR := fun w' hg => by
    have hl : N ≤ w'.heap.size := Nat.le_trans (Nat.le_of_lt HG.out.2.1.lt) hg.size
    exact ⟨rfl, rfl, rfl, rfl, ⟨hl, Or.inl rfl⟩, HG.out.1.stay hg, ⟨hl, Nat.le_refl _, (by decide : (0 : Nat) < 9223372036854775808), fun i => by simp [exR], Or.inl rfl⟩, (by decide : (0 : Nat) < 9223372036854775808)⟩
  have HT := Lib.hid (rtext_any exR N W0 _ (hR1 W0 (gb_refl _ _)))
  have HRR := Lib.hid (fun w' hg => rright_any exR N w' _ (hR1 w' hg))
  rw [ex_right] at HRR
  clear hR1
  go_enter Try.func5, Try.ntmps5
  go_wp2_with fail
  rw [show (w.alloc (.cells #[.int .u8 120] 5 (1, 2))).alloc (.cells #[.string ⟨#[97]⟩, iV 1, iV 1, .slice none 0 0, .bool false, .slice (some ⟨w.heap.size, 0, none⟩) 1 1, .slice none 0 0] 25) = W0 from by rw [hW0, hG], ← hN, ← hG]
  clear hW0 hN hG
  refine HT.out.mono ?_
  rintro e w1 ⟨at1, ct, rfl, hg, hb⟩
  rw [ex_len]
  obtain ⟨pb, po, rfl, _, hc⟩ := hb.cells.resolve_left (by rw [ex_len]; decide)
  have t0 := hc 0 (by rw [ex_len]; decide)
  rw [ex_one] at t0
  have hct := hb.fits
  rw [ex_len] at hct
  have HG1 : Hid (BytesAt w1 N (some ⟨G, 0, none⟩) 1 [120] ∧ Blk w1 N 25 [.string ⟨#[97]⟩, iV 1, iV 1, .slice none 0 0, .bool false, .slice (some ⟨G, 0, none⟩) 1 1, .slice none 0 0] ∧ W0.grownBy w1 none ∧ w1.cell? ⟨pb, po, none⟩ = some (.int .u8 1)) := ⟨HG.out.1.stay hg, HG.out.2.1.grown hg (by simp), hg, t0⟩
  clear hg hb hc t0 HT
  have m0 := HG1.out.2.1.cell (i := 0) rfl
  have m1 := HG1.out.2.1.cell (i := 1) rfl
  have m2 := HG1.out.2.1.cell (i := 2) rfl
  have m3 := HG1.out.2.1.cell (i := 3) rfl
  have m4 := HG1.out.2.1.cell (i := 4) rfl
  have m5 := HG1.out.2.1.cell (i := 5) rfl
  have m6 := HG1.out.2.1.cell (i := 6) rfl
  obtain ⟨M, hM⟩ : ∃ M, M = w1.heap.size := ⟨_, rfl⟩
  obtain ⟨K, hK⟩ : ∃ K, K = w1.heap.size + 1 := ⟨_, rfl⟩
  obtain ⟨W2, hW2⟩ : ∃ W2, W2 = (w1.alloc (.cells #[.string ⟨#[97]⟩, iV 1, iV 1, .slice (some ⟨w1.heap.size + 1, 0, none⟩) 1 1, .bool false, .slice (some ⟨G, 0, none⟩) 1 1, .slice none 0 0] 25)).alloc (.cells #[iV 1, iV 1] 43) := ⟨_, rfl⟩
  have hgW : w1.grownBy W2 none := by rw [hW2]; exact gb_alloc (gb_alloc (gb_refl _ _) _) _
  have HG2 : Hid (BytesAt W2 N (some ⟨G, 0, none⟩) 1 [120] ∧ W0.grownBy W2 none ∧ Blk W2 N 25 [.string ⟨#[97]⟩, iV 1, iV 1, .slice none 0 0, .bool false, .slice (some ⟨G, 0, none⟩) 1 1, .slice none 0 0] ∧ DotsAt W2 (K + 1) (some ⟨K, 0, none⟩) [(1, 1)] ∧ N ≤ K) := by
    refine ⟨HG1.out.1.stay hgW, gb_trans HG1.out.2.2.1 hgW, HG1.out.2.1.grown hgW (by simp), ?_, by rw [hK]; have := HG1.out.2.1.lt; omega⟩
    have h := dots_one (w1.alloc (.cells #[.string ⟨#[97]⟩, iV 1, iV 1, .slice (some ⟨w1.heap.size + 1, 0, none⟩) 1 1, .bool false, .slice (some ⟨G, 0, none⟩) 1 1, .slice none 0 0] 25)) 1 1 43
    rw [World.size_alloc] at h
    rw [hW2, hK]; exact h
  have t2 : ((w1.alloc (.cells #[.string ⟨#[97]⟩, iV 1, iV 1, .slice (some ⟨w1.heap.size + 1, 0, none⟩) 1 1, .bool false, .slice (some ⟨G, 0, none⟩) 1 1, .slice none 0 0] 25)).alloc (.cells #[iV 1, iV 1] 43)).cell? ⟨pb, po, none⟩ = some (.int .u8 1) := by
    rw [← hW2, gb_cell hgW (block_lt_of_cell HG1.out.2.2.2) (by simp)]; exact HG1.out.2.2.2
  have HRO := Lib.hid (rtext_any exO (K + 1) W2 ⟨⟨#[97]⟩, some ⟨K, 0, none⟩, 1, 1, some ⟨G, 0, none⟩, 1, 1, none, 0, 0⟩ ⟨rfl, rfl, rfl, rfl, HG2.out.2.2.2.1, HG2.out.1.up (by have := HG2.out.2.2.2.2; omega) HG2.out.2.2.2.1.lim, ⟨HG2.out.2.2.2.1.lim, Nat.le_refl _, (by decide : (0 : Nat) < 9223372036854775808), fun i => by simp [exO], Or.inl rfl⟩, (by decide : (1 : Nat) < 9223372036854775808)⟩)
  rw [ex_own] at HRO
  clear hgW
  go_wp2_with fail
  rw [← hW2]
  rw [show (w1.heap.size + 1 : Nat) = K from hK.symm]
  clear t2 hW2 hK
  refine HRO.out.mono ?_
  rintro e w3 ⟨a3, c3, rfl, hg, _⟩
  have HG3 : Hid (W0.grownBy w3 none ∧ Blk w3 N 25 [.string ⟨#[97]⟩, iV 1, iV 1, .slice none 0 0, .bool false, .slice (some ⟨G, 0, none⟩) 1 1, .slice none 0 0]) := ⟨gb_trans HG2.out.2.1 hg, HG2.out.2.2.1.grown hg (by simp)⟩
  clear hg m0 m1 m2 m3 m4 m5 m6
  have m0 := HG3.out.2.cell (i := 0) rfl
  have m1 := HG3.out.2.cell (i := 1) rfl
  have m2 := HG3.out.2.cell (i := 2) rfl
  have m3 := HG3.out.2.cell (i := 3) rfl
  have m4 := HG3.out.2.cell (i := 4) rfl
  have m5 := HG3.out.2.cell (i := 5) rfl
  have m6 := HG3.out.2.cell (i := 6) rfl
  go_wp2_with fail
  refine (HRR.out _ HG3.out.1).mono ?_
  rintro e w4 ⟨rfl, hg⟩
  have HG4 := Lib.hid (gb_trans HG.out.2.2 (gb_trans HG3.out.1 hg))
  clear hg m0 m1 m2 m3 m4 m5 m6
  go_wp2
  go_ret
  exact ⟨rfl, HG4.out⟩
def greatB (r : R) : Bool := decide (300 < r.key.length) || decide (50 < r.cx.length) || decide (2000 < r.val.length) || decide (300 < r.sig.length)
set_option maxHeartbeats 2000000 in
theorem great_any (b : Bool) (r : R) (B : Nat) (w : World) (q : L) (h : RAt w B q r) (hb : greatB r = b) : Calls Try.prog 6 #[q.v r] w fun e w' => e = .returned (.bool b) ∧ w.grownBy w' none := by
  unfold greatB at hb
  rw [h.keyLen, h.l1, h.l2, h.l3] at hb
  clear h
  obtain ⟨s, a1, n1, c1, a2, n2, c2, a3, n3, c3⟩ := q
  obtain ⟨key, cl, sq, cx, g, val, sig⟩ := r
  simp only at hb
  show Calls _ _ #[vV s cl sq a1 n1 c1 g a2 n2 c2 a3 n3 c3] w _
  have e1 : decide (300 < s.size) = decide ((300 : Int) < (s.size : Int)) := by rw [Bool.eq_iff_iff]; simp; omega
  have e2 : decide (50 < n1) = decide ((50 : Int) < (n1 : Int)) := by rw [Bool.eq_iff_iff]; simp; omega
  have e3 : decide (2000 < n2) = decide ((2000 : Int) < (n2 : Int)) := by rw [Bool.eq_iff_iff]; simp; omega
  have e4 : decide (300 < n3) = decide ((300 : Int) < (n3 : Int)) := by rw [Bool.eq_iff_iff]; simp; omega
  rw [e1, e2, e3, e4] at hb
  clear e1 e2 e3 e4
  obtain ⟨y1, h1⟩ : ∃ y, decide ((300 : Int) < (s.size : Int)) = y := ⟨_, rfl⟩
  obtain ⟨y2, h2⟩ : ∃ y, decide ((50 : Int) < (n1 : Int)) = y := ⟨_, rfl⟩
  obtain ⟨y3, h3⟩ : ∃ y, decide ((2000 : Int) < (n2 : Int)) = y := ⟨_, rfl⟩
  obtain ⟨y4, h4⟩ : ∃ y, decide ((300 : Int) < (n3 : Int)) = y := ⟨_, rfl⟩
  rw [h1, h2, h3, h4] at hb
  have HB := Lib.hid hb; clear hb
  have HG : Hid (w.grownBy (w.alloc (.cells #[.string s, iV cl, iV sq, .slice a1 n1 c1, .bool g, .slice a2 n2 c2, .slice a3 n3 c3] 25)) none) := gb_alloc (gb_refl _ _) _
  go_enter Try.func6, Try.ntmps6
  cases y1 with
  | true => go_wp2; go_ret; exact ⟨by rw [← HB.out]; rfl, HG.out⟩
  | false =>
    cases y2 with
    | true => go_wp2; go_ret; exact ⟨by rw [← HB.out]; rfl, HG.out⟩
    | false =>
      cases y3 with
      | true => go_wp2; go_ret; exact ⟨by rw [← HB.out]; rfl, HG.out⟩
      | false =>
        cases y4 with
        | true => go_wp2; go_ret; exact ⟨by rw [← HB.out]; rfl, HG.out⟩
        | false => go_wp2; go_ret; exact ⟨by rw [← HB.out]; rfl, HG.out⟩
end Rc
end Go.Proofs.Ytohcoihdijemfaa

/- The kit's lent bytes: a copy with marks behind it; whether they were kept. -/
namespace Go.Proofs.Ytohcoihdijemfaa
open Go.RowKit Ow

/-- the mark of a place in a list of bytes -/
def mkB (k i : Nat) : Nat := (1000003 * (k + 7) + i) * 11400714819323198485 % 18446744073709551616 / 72057594037927936
theorem mkB_lt (k i : Nat) : mkB k i < 256 := by unfold mkB; omega
theorem mkB_is (k i : Nat) : IntKind.u64.wrap ((1000003 * ((k : Int) + 7) + (i : Int)) * 11400714819323198485) / 72057594037927936 % 256 = ((mkB k i : Nat) : Int) := by
  have e : (1000003 * ((k : Int) + 7) + (i : Int)) * 11400714819323198485 = (((1000003 * (k + 7) + i) * 11400714819323198485 : Nat) : Int) := by omega
  rw [e, IntKind.wrap_u64]
  unfold mkB
  generalize (1000003 * (k + 7) + i) * 11400714819323198485 = x
  omega
set_option maxHeartbeats 400000 in
theorem mkByte_any (k i : Nat) (w : World) (hk : k ≤ 1000000) (hi : i ≤ 1000000) :
    Calls Try.prog 23 #[.int .i64 k, .int .i64 i] w fun e w' => e = .returned (.int .u8 (mkB k i)) ∧ w' = w := by
  go_enter Try.func23, Try.ntmps23
  go_wp2
  go_ret
  refine ⟨?_, rfl⟩
  rw [← mkB_is]; rfl
/-- marks, by whatever function; Marks f: the kit's -/
structure Marks (f : Nat → Nat → Nat) : Prop where
  lt : ∀ k i, f k i < 256
  run : ∀ (k i : Nat) (x y : Int) (w : World), x = k → y = i → k ≤ 1000000 → i ≤ 1000000 → Calls Try.prog 23 #[.int .i64 x, .int .i64 y] w fun e w' => e = .returned (.int .u8 (f k i)) ∧ w' = w
theorem marks_kit : Marks mkB := ⟨mkB_lt, fun k i x y w hx hy hk hi => by subst hx; subst hy; exact mkByte_any k i w hk hi⟩
theorem marks_are : ∃ f, Marks f := ⟨mkB, marks_kit⟩
def marksOf (f : Nat → Nat → Nat) (k j : Nat) : List Nat := (List.range j).map (f k)
theorem marksOf_length (f : Nat → Nat → Nat) (k j : Nat) : (marksOf f k j).length = j := by simp [marksOf]
theorem marksOf_next (f : Nat → Nat → Nat) (k j : Nat) : (marksOf f k (j + 1)).map u8N = (marksOf f k j).map u8N ++ [u8N (f k j)] := by simp [marksOf, List.range_succ]
theorem marksOf_get (f : Nat → Nat → Nat) (k j i : Nat) (h : i < j) : (marksOf f k j).getD i 0 = f k i := by
  unfold marksOf; rw [List.getD_eq_getElem?_getD, List.getElem?_map, List.getElem?_range h]; rfl
theorem marksOf_lt {f : Nat → Nat → Nat} (hf : Marks f) (k j i : Nat) : (marksOf f k j).getD i 0 < 256 := by
  by_cases h : i < j
  · rw [marksOf_get f k j i h]; exact hf.lt _ _
  · rw [List.getD_eq_getElem?_getD, List.getElem?_eq_none (by rw [marksOf_length]; omega)]; decide
set_option maxHeartbeats 1000000 in
theorem lentB_any {f : Nat → Nat → Nat} (hf : Marks f) (n cap B : Nat) (p : List Nat) (a : Option Addr) (w : World) (hn : p.length = n) (hP : BytesAt w B a cap p) (hlen : n ≤ 30000) :
    Calls Try.prog 9 #[.slice a n cap] w fun e w' => ∃ g, e = .returned (.slice (some ⟨g, 0, none⟩) n (n + 12)) ∧ w.grownBy w' none ∧ w.heap.size ≤ g ∧ Blk w' g 5 ((p ++ marksOf f 1 12).map u8N) := by
  have HF := Lib.hid hf; clear hf
  obtain ⟨w1, hmk, hg1, hs1, hb1⟩ := make_bytes 0 (n + 12) w (by omega) (by omega)
  have ho1 : w1.ownsRow w.heap.size 5 1 (.slice (some ⟨w.heap.size, 0, none⟩) 0 (n + 12)) 0 [] :=
    ⟨rfl, Or.inr ⟨w.heap.size, n + 12, _, rfl, Nat.le_refl _, hb1, by omega, by unfold maxLen; omega, by simp, by simp⟩⟩
  obtain ⟨w2, hap, ho2, hg2⟩ := append_bytes_fits w1 w.heap.size w.heap.size 0 (n + 12) B cap n [] a p ho1 hn (hP.stay hg1) (by omega)
  have hg02 := gb_then hg1 hg2 (Nat.le_refl _)
  rw [Nat.zero_add, List.nil_append] at ho2
  have hmk' : (Instr.makeSlice 22 (.int .i64 0) (.int .i64 ((n : Int) + 12))).run Try.prog w = .ok (.slice (some ⟨w.heap.size, 0, none⟩) 0 (n + 12)) w1 := hmk
  rw [Nat.zero_add] at hap
  have H2 := Lib.hid (And.intro hap (And.intro ho2 hg02)); clear hap ho2 hg02 hg1 hg2 ho1 hmk hs1 hb1 hP
  go_enter Try.func9, Try.ntmps9
  go_wp2_with (at_builtin; refine wpList_append_run rfl (.tmp 9) (.tmp 10) 22 rfl rfl _ _ rfl rfl _ _ H2.out.1 ?_)
  go_loopw [3, 4] (fun v i wr => ∃ j m : Nat, j ≤ 12 ∧ m = n + j ∧ i = .int .i64 j ∧ v = .slice (some ⟨w.heap.size, 0, none⟩) m (n + 12) ∧ wr.ownsRow w.heap.size 5 1 (.slice (some ⟨w.heap.size, 0, none⟩) m (n + 12)) m (p.map u8N ++ (marksOf f 1 j).map u8N) ∧ w.grownBy wr none) (fun _ i _ => 12 - (intOf i).toNat)
  case atStart => exact ⟨0, n, by omega, rfl, rfl, rfl, by simpa [marksOf] using H2.out.2.1, H2.out.2.2⟩
  case round =>
    obtain ⟨j, m, hj, hm, rfl, rfl, hown, hg⟩ := hrel
    by_cases hlt : j < 12
    · obtain ⟨y, hy⟩ : ∃ y, y = f 1 j := ⟨_, rfl⟩
      obtain ⟨w3, hap, ho3, hg3⟩ := append_byte_fits wr w.heap.size w.heap.size m (n + 12) y _ (by rw [hy]; exact HF.out.lt _ _) hown (by omega)
      have hg4 := gb_then hg hg3 (Nat.le_refl _)
      rw [List.append_assoc, hy, ← marksOf_next] at ho3
      unfold u8N at hap
      have hmb := fun W => HF.out.run 1 j 1 j W rfl rfl (by decide) (by omega)
      rw [← hy] at hmb
      have HI := Lib.hid (And.intro hap (And.intro ho3 (And.intro hg4 (And.intro hm hmb)))); clear hap ho3 hg4 hg3 hm hown hg hy hmb
      have i0 : (j : Int) < 12 := by omega
      go_wp2_with fail
      refine (HI.out.2.2.2.2 wr).mono ?_
      rintro e w4 ⟨rfl, rfl⟩
      go_wp2_with (at_builtin; refine wpList_append_run rfl (.tmp 16) (.tmp 19) 22 rfl rfl _ _ rfl rfl _ _ HI.out.1 ?_)
      go_roundw
      case rel => exact ⟨j + 1, m + 1, by omega, by have := HI.out.2.2.2.1; omega, by go_num, rfl, HI.out.2.1, HI.out.2.2.1⟩
      case measure => simp [intOf]; omega
    · obtain rfl : j = 12 := by omega
      have e : m = n + 12 := hm
      subst e
      rw [← List.map_append] at hown
      rcases hown.2 with ⟨h0, _⟩ | ⟨g', c', cur, e1, hbg, hgh, _, _, hs, ht⟩
      · cases h0
      · cases e1
        have hcur : cur.toList = (p ++ marksOf f 1 12).map u8N := by rw [← ht, List.take_of_length_le]; rw [Array.length_toList]; omega
        have hblk : Blk wr w.heap.size 5 ((p ++ marksOf f 1 12).map u8N) := by unfold Blk; rw [hgh, ← hcur, Array.toArray_toList]
        have HI := Lib.hid (And.intro hblk hg); clear hown hg hm hgh hcur hblk ht hs
        go_wp2
        go_ret
        exact ⟨w.heap.size, rfl, HI.out.2, Nat.le_refl _, HI.out.1⟩
end Go.Proofs.Ytohcoihdijemfaa

/- The kit's KeptBytes: lent bytes, and the marks behind them, are as they were. -/
namespace Go.Proofs.Ytohcoihdijemfaa
open Go.RowKit Ow

set_option maxRecDepth 100000 in
set_option maxHeartbeats 4000000 in
theorem keptB_any {f : Nat → Nat → Nat} (hf : Marks f) (n cap B g : Nat) (p : List Nat) (a : Option Addr) (w : World) (hn : p.length = n) (hP : BytesAt w B a cap p) (hlen : n ≤ 30000) (hG : Blk w g 5 ((p ++ marksOf f 1 12).map u8N)) :
    Calls Try.prog 13 #[.slice (some ⟨g, 0, none⟩) n (n + 12), .slice a n cap] w fun e w' => e = .returned (.bool true) ∧ w.grownBy w' none := by
  have hnc := hP.fits
  rw [hn] at hnc
  have hcap := hP.top
  have HF := Lib.hid hf; clear hf
  have hgb : BytesAt w w.heap.size (some ⟨g, 0, none⟩) (n + 12) (p ++ marksOf f 1 12) := by
    refine blk_bytes (n := n + 12) (tl := []) (by rw [List.append_nil]; exact hG) (by rw [List.length_append, marksOf_length, hn]) (Nat.le_refl _) (by omega) (fun i => ?_) hG.lt (Nat.le_refl _)
    rw [List.getD_eq_getElem?_getD]
    rcases Nat.lt_or_ge i p.length with h | h
    · rw [List.getElem?_append_left h, ← List.getD_eq_getElem?_getD]; exact hP.byte i
    · rw [List.getElem?_append_right h, ← List.getD_eq_getElem?_getD]; exact marksOf_lt HF.out _ _ _
  have HP := Lib.hid (And.intro hn (And.intro hP (And.intro hG hgb))); clear hn hP hG hgb
  go_enter Try.func13, Try.ntmps13
  go_wp2
  go_loopw [6] (fun i wr => ∃ k : Nat, k ≤ n + 12 ∧ i = .int .i64 k ∧ w.grownBy wr none) (fun i _ => n + 12 - (intOf i).toNat)
  case atStart => exact ⟨0, by omega, rfl, gb_refl _ _⟩
  case round =>
    obtain ⟨k, hk, rfl, hg⟩ := hrel
    by_cases hlt : k < n + 12
    · by_cases hkn : k < n
      · obtain ⟨pb, po, rfl, hpb, hc⟩ := HP.out.2.1.cells.resolve_left (by have := HP.out.1; omega)
        have kc : wr.cell? ⟨pb, po + k, none⟩ = some (u8N (p.getD k 0)) := by rw [gb_cell hg (p := ⟨pb, po + k, none⟩) (Nat.lt_of_lt_of_le hpb HP.out.2.1.lim) (by simp)]; exact hc k (by have := HP.out.1; omega)
        have kg : wr.cell? ⟨g, k, none⟩ = some (u8N (p.getD k 0)) := by
          apply (HP.out.2.2.1.grown hg (by simp)).cell
          rw [List.map_append, List.getElem?_append_left (by rw [List.length_map]; have := HP.out.1; omega)]
          exact u8_getD (by have := HP.out.1; omega)
        unfold u8N at kg kc
        clear hc
        generalize p.getD k 0 = x at *
        have HG := Lib.hid hg; clear hg
        have i0 : (k : Int) < (n : Int) := by omega
        have i1 : (k : Int) < (n : Int) + 12 := by omega
        have i2 : decide (n ≤ k) = false := by simp; omega
        go_wp2_with fail
        go_quiet (fail)
        go_wp2
        go_roundw
        case rel => exact ⟨k + 1, by omega, by go_num, gb_drewN HG.out _⟩
        case measure => simp [intOf]; omega
      · obtain ⟨t, ht⟩ : ∃ t, k = n + t := ⟨k - n, by omega⟩
        have t12 : t < 12 := by omega
        obtain ⟨y, hy⟩ : ∃ y, y = f 1 t := ⟨_, rfl⟩
        have hck : ((p ++ marksOf f 1 12).map u8N)[k]? = some (.int .u8 (y : Int)) := by
          rw [List.map_append, List.getElem?_append_right (by rw [List.length_map]; have := HP.out.1; omega), List.length_map, HP.out.1, show k - n = t by omega]
          have h := u8_getD (l := marksOf f 1 12) (i := t) (by rw [marksOf_length]; exact t12)
          rw [marksOf_get f 1 12 t t12, ← hy] at h
          exact h
        have hmb := fun W => (HF.out.run 1 t 1 t W rfl rfl (by decide) (by omega)).mono (fun e w' h => (And.intro h.1 (by rw [h.2]; exact gb_refl _ _) : _ ∧ W.grownBy w' none))
        rw [← hy] at hmb
        have HMB := Lib.hid hmb; clear hmb
        have HCK := Lib.hid hck; clear hck
        have HPB := Lib.hid (HP.out.2.1.stay hg)
        have HGB := Lib.hid (HP.out.2.2.2.stay hg)
        have HGW := Lib.hid (HP.out.2.2.1.grown hg (by simp))
        have HG := Lib.hid hg; clear hg
        have e1 : IntKind.i64.wrap ((k : Int) - (n : Int)) = (t : Int) := by rw [IntKind.wrap_i64]; omega
        have e2 : (k : Int) - (n : Int) = (t : Int) := by omega
        have e3 : IntKind.i64.wrap (t : Int) = (t : Int) := by rw [IntKind.wrap_i64]; omega
        have HTY := Lib.hid (And.intro ht hy); clear ht hy
        have i0 : ¬ (k : Int) < (n : Int) := by omega
        have i3 : (n : Int) ≤ (k : Int) := by omega
        have i1 : (k : Int) < (n : Int) + 12 := by omega
        go_wp2_with fail
        refine wp_region_flow3 (Fg.its [.any, .any, .any, .any, .any, .any, .any, .any, .any, .any, .any, .any, .any, .any, .any, .any, .any, .any, .any, .any, .any, .any, .any, .val (.int .i64 (k : Int)), .val (.slice a n cap), .val (.int .i64 n), .val (.bool false), .val (.bool false), .val undef, .val undef, .val undef, .val undef, .val undef, .val undef, .val undef, .val undef, .val undef, .val undef, .val (.bool false), .val (.bool false), .val (.int .i64 (k : Int)), .val (.slice a n cap), .val (.int .i64 n), .val (.bool true), .val (.bool true), .val (.slice (some ⟨g, 0, none⟩) (n + 12) (n + 12)), .val (.int .i64 (k : Int)), .val (.pointer (some ⟨g, k, none⟩)), .val (.int .u8 (y : Int)), .val (.int .i64 (k : Int)), .val (.slice a n cap), .val (.int .i64 n), .val (.int .i64 (t : Int)), .val (.int .u8 (y : Int)), .val (.bool true), .val (.bool false), .val (.bool false), .val (.bool false)]) (fun _ => 0) (fun _ _ _ => True) (fun w => World.grownBy wr w none) [] (by kernel_rfl) (by kernel_rfl) (by kernel_rfl) (gb_drew (gb_refl _ _)) (Fg.ptrs_nil _ _) (Fg.no_store (by kernel_rfl)) ?_ ?_
        · refine ⟨Fg.value rfl fun ac w h => ?_, ?_⟩
          · have e6 : ac.tmps.getD 6 undef = .int .i64 (k : Int) := h.rest 6 (by kernel_rfl)
            refine ⟨wants_none rfl, .int .i64 (k : Int), w, ?_, gb_refl _ _, rfl⟩
            clear h
            simp only [execOp, Act.eval, e6]
            go_simp
          refine ⟨Fg.value rfl fun ac w h => ?_, ?_⟩
          · have e1 : ac.tmps.getD 1 undef = .slice a n cap := h.rest 1 (by kernel_rfl)
            have b1 := (HPB.out).stay h.base
            exact ⟨wants_none rfl, _, w, by simp only [execOp, Act.eval, e1]; rfl, gb_refl _ _, rfl⟩
          refine ⟨Fg.value rfl fun ac w h => ?_, ?_⟩
          · have e24 : ac.tmps.getD 24 undef = .slice a n cap := h.dep 24 (by kernel_rfl)
            have b24 := (HPB.out).stay h.base
            have x24 : ac.tmps[24]?.getD undef = .slice a n cap := by simpa using e24
            refine ⟨wants_none rfl, .int .i64 n, w, ?_, gb_refl _ _, rfl⟩
            clear h e24
            go_simp
          refine ⟨Fg.value rfl fun ac w h => ?_, ?_⟩
          · have e23 : ac.tmps.getD 23 undef = .int .i64 (k : Int) := h.dep 23 (by kernel_rfl)
            have e25 : ac.tmps.getD 25 undef = .int .i64 n := h.dep 25 (by kernel_rfl)
            refine ⟨wants_none rfl, .bool false, w, ?_, gb_refl _ _, rfl⟩
            clear h
            simp only [execOp, Act.eval, e23, e25]
            go_simp
          refine ⟨Fg.value rfl fun ac w h => ?_, ?_⟩
          · have e26 : ac.tmps.getD 26 undef = .bool false := h.dep 26 (by kernel_rfl)
            refine ⟨wants_none rfl, .bool false, w, ?_, gb_refl _ _, rfl⟩
            clear h
            simp only [execOp, Act.eval, e26]
            go_simp
          refine ⟨Fg.skipped rfl (fun _ => rfl) fun ac w h => ?_, ?_⟩
          · have e27 : ac.tmps.getD 27 undef = .bool false := h.dep 27 (by kernel_rfl)
            exact not_wants (d := 27) rfl rfl (by rw [h.size]; show 27 < 58; decide) e27 (by decide)
          refine ⟨Fg.skipped rfl (fun _ => rfl) fun ac w h => ?_, ?_⟩
          · have e27 : ac.tmps.getD 27 undef = .bool false := h.dep 27 (by kernel_rfl)
            exact not_wants (d := 27) rfl rfl (by rw [h.size]; show 27 < 58; decide) e27 (by decide)
          refine ⟨Fg.skipped rfl (fun _ => rfl) fun ac w h => ?_, ?_⟩
          · have e27 : ac.tmps.getD 27 undef = .bool false := h.dep 27 (by kernel_rfl)
            exact not_wants (d := 27) rfl rfl (by rw [h.size]; show 27 < 58; decide) e27 (by decide)
          refine ⟨Fg.skipped rfl (fun _ => rfl) fun ac w h => ?_, ?_⟩
          · have e27 : ac.tmps.getD 27 undef = .bool false := h.dep 27 (by kernel_rfl)
            exact not_wants (d := 27) rfl rfl (by rw [h.size]; show 27 < 58; decide) e27 (by decide)
          refine ⟨Fg.skipped rfl (fun _ => rfl) fun ac w h => ?_, ?_⟩
          · have e27 : ac.tmps.getD 27 undef = .bool false := h.dep 27 (by kernel_rfl)
            exact not_wants (d := 27) rfl rfl (by rw [h.size]; show 27 < 58; decide) e27 (by decide)
          refine ⟨Fg.skipped rfl (fun _ => rfl) fun ac w h => ?_, ?_⟩
          · have e27 : ac.tmps.getD 27 undef = .bool false := h.dep 27 (by kernel_rfl)
            exact not_wants (d := 27) rfl rfl (by rw [h.size]; show 27 < 58; decide) e27 (by decide)
          refine ⟨Fg.skipped rfl (fun _ => rfl) fun ac w h => ?_, ?_⟩
          · have e27 : ac.tmps.getD 27 undef = .bool false := h.dep 27 (by kernel_rfl)
            exact not_wants (d := 27) rfl rfl (by rw [h.size]; show 27 < 58; decide) e27 (by decide)
          refine ⟨Fg.skipped rfl (fun _ => rfl) fun ac w h => ?_, ?_⟩
          · have e27 : ac.tmps.getD 27 undef = .bool false := h.dep 27 (by kernel_rfl)
            exact not_wants (d := 27) rfl rfl (by rw [h.size]; show 27 < 58; decide) e27 (by decide)
          refine ⟨Fg.skipped rfl (fun _ => rfl) fun ac w h => ?_, ?_⟩
          · have e27 : ac.tmps.getD 27 undef = .bool false := h.dep 27 (by kernel_rfl)
            exact not_wants (d := 27) rfl rfl (by rw [h.size]; show 27 < 58; decide) e27 (by decide)
          refine ⟨Fg.skipped rfl (fun _ => rfl) fun ac w h => ?_, ?_⟩
          · have e27 : ac.tmps.getD 27 undef = .bool false := h.dep 27 (by kernel_rfl)
            exact not_wants (d := 27) rfl rfl (by rw [h.size]; show 27 < 58; decide) e27 (by decide)
          refine ⟨Fg.value rfl fun ac w h => ?_, ?_⟩
          · have e27 : ac.tmps.getD 27 undef = .bool false := h.dep 27 (by kernel_rfl)
            refine ⟨wants_none rfl, .bool false, w, ?_, gb_refl _ _, rfl⟩
            clear h
            simp only [execOp, Act.eval, e27]
            go_simp
          refine ⟨Fg.value rfl fun ac w h => ?_, ?_⟩
          · have e38 : ac.tmps.getD 38 undef = .bool false := h.dep 38 (by kernel_rfl)
            refine ⟨wants_none rfl, .bool false, w, ?_, gb_refl _ _, rfl⟩
            clear h
            simp only [execOp, Act.eval, e38]
            go_simp
          refine ⟨Fg.value rfl fun ac w h => ?_, ?_⟩
          · have e39 : ac.tmps.getD 39 undef = .bool false := h.dep 39 (by kernel_rfl)
            have e6 : ac.tmps.getD 6 undef = .int .i64 (k : Int) := h.rest 6 (by kernel_rfl)
            refine ⟨wants_some (d := 39) rfl rfl (by rw [h.size]; show 39 < 58; decide) e39, .int .i64 (k : Int), w, ?_, gb_refl _ _, rfl⟩
            clear h
            simp only [execOp, Act.eval, e6]
            go_simp
          refine ⟨Fg.value rfl fun ac w h => ?_, ?_⟩
          · have e39 : ac.tmps.getD 39 undef = .bool false := h.dep 39 (by kernel_rfl)
            have e1 : ac.tmps.getD 1 undef = .slice a n cap := h.rest 1 (by kernel_rfl)
            have b1 := (HPB.out).stay h.base
            exact ⟨wants_some (d := 39) rfl rfl (by rw [h.size]; show 39 < 58; decide) e39, _, w, by simp only [execOp, Act.eval, e1]; rfl, gb_refl _ _, rfl⟩
          refine ⟨Fg.value rfl fun ac w h => ?_, ?_⟩
          · have e39 : ac.tmps.getD 39 undef = .bool false := h.dep 39 (by kernel_rfl)
            have e41 : ac.tmps.getD 41 undef = .slice a n cap := h.dep 41 (by kernel_rfl)
            have b41 := (HPB.out).stay h.base
            have x41 : ac.tmps[41]?.getD undef = .slice a n cap := by simpa using e41
            refine ⟨wants_some (d := 39) rfl rfl (by rw [h.size]; show 39 < 58; decide) e39, .int .i64 n, w, ?_, gb_refl _ _, rfl⟩
            clear h e41
            go_simp
          refine ⟨Fg.value rfl fun ac w h => ?_, ?_⟩
          · have e39 : ac.tmps.getD 39 undef = .bool false := h.dep 39 (by kernel_rfl)
            have e40 : ac.tmps.getD 40 undef = .int .i64 (k : Int) := h.dep 40 (by kernel_rfl)
            have e42 : ac.tmps.getD 42 undef = .int .i64 n := h.dep 42 (by kernel_rfl)
            refine ⟨wants_some (d := 39) rfl rfl (by rw [h.size]; show 39 < 58; decide) e39, .bool true, w, ?_, gb_refl _ _, rfl⟩
            clear h
            simp only [execOp, Act.eval, e40, e42]
            go_simp
          refine ⟨Fg.value rfl fun ac w h => ?_, ?_⟩
          · have e39 : ac.tmps.getD 39 undef = .bool false := h.dep 39 (by kernel_rfl)
            have e43 : ac.tmps.getD 43 undef = .bool true := h.dep 43 (by kernel_rfl)
            refine ⟨wants_some (d := 39) rfl rfl (by rw [h.size]; show 39 < 58; decide) e39, .bool true, w, ?_, gb_refl _ _, rfl⟩
            clear h
            simp only [execOp, Act.eval, e43]
            go_simp
          refine ⟨Fg.value rfl fun ac w h => ?_, ?_⟩
          · have e44 : ac.tmps.getD 44 undef = .bool true := h.dep 44 (by kernel_rfl)
            have e5 : ac.tmps.getD 5 undef = .slice (some ⟨g, 0, none⟩) (n + 12) (n + 12) := h.rest 5 (by kernel_rfl)
            have b5 := (HGB.out).stay h.base
            exact ⟨wants_some (d := 44) rfl rfl (by rw [h.size]; show 44 < 58; decide) e44, _, w, by simp only [execOp, Act.eval, e5]; rfl, gb_refl _ _, rfl⟩
          refine ⟨Fg.value rfl fun ac w h => ?_, ?_⟩
          · have e44 : ac.tmps.getD 44 undef = .bool true := h.dep 44 (by kernel_rfl)
            have e6 : ac.tmps.getD 6 undef = .int .i64 (k : Int) := h.rest 6 (by kernel_rfl)
            refine ⟨wants_some (d := 44) rfl rfl (by rw [h.size]; show 44 < 58; decide) e44, .int .i64 (k : Int), w, ?_, gb_refl _ _, rfl⟩
            clear h
            simp only [execOp, Act.eval, e6]
            go_simp
          refine ⟨Fg.value rfl fun ac w h => ?_, ?_⟩
          · have e44 : ac.tmps.getD 44 undef = .bool true := h.dep 44 (by kernel_rfl)
            have e45 : ac.tmps.getD 45 undef = .slice (some ⟨g, 0, none⟩) (n + 12) (n + 12) := h.dep 45 (by kernel_rfl)
            have b45 := (HGB.out).stay h.base
            have e46 : ac.tmps.getD 46 undef = .int .i64 (k : Int) := h.dep 46 (by kernel_rfl)
            refine ⟨wants_some (d := 44) rfl rfl (by rw [h.size]; show 44 < 58; decide) e44, .pointer (some ⟨g, k, none⟩), w, ?_, gb_refl _ _, rfl⟩
            clear h
            simp only [execOp, Act.eval, e45, e46]
            go_simp
          refine ⟨Fg.value rfl fun ac w h => ?_, ?_⟩
          · have e44 : ac.tmps.getD 44 undef = .bool true := h.dep 44 (by kernel_rfl)
            have e47 : ac.tmps.getD 47 undef = .pointer (some ⟨g, k, none⟩) := h.dep 47 (by kernel_rfl)
            have c := (HGW.out.grown h.base (by simp)).cell HCK.out
            refine ⟨wants_some (d := 44) rfl rfl (by rw [h.size]; show 44 < 58; decide) e44, .int .u8 (y : Int), w, ?_, gb_refl _ _, rfl⟩
            clear h
            simp only [execOp, Act.eval, e47]
            go_simp
          refine ⟨Fg.value rfl fun ac w h => ?_, ?_⟩
          · have e44 : ac.tmps.getD 44 undef = .bool true := h.dep 44 (by kernel_rfl)
            have e6 : ac.tmps.getD 6 undef = .int .i64 (k : Int) := h.rest 6 (by kernel_rfl)
            refine ⟨wants_some (d := 44) rfl rfl (by rw [h.size]; show 44 < 58; decide) e44, .int .i64 (k : Int), w, ?_, gb_refl _ _, rfl⟩
            clear h
            simp only [execOp, Act.eval, e6]
            go_simp
          refine ⟨Fg.value rfl fun ac w h => ?_, ?_⟩
          · have e44 : ac.tmps.getD 44 undef = .bool true := h.dep 44 (by kernel_rfl)
            have e1 : ac.tmps.getD 1 undef = .slice a n cap := h.rest 1 (by kernel_rfl)
            have b1 := (HPB.out).stay h.base
            exact ⟨wants_some (d := 44) rfl rfl (by rw [h.size]; show 44 < 58; decide) e44, _, w, by simp only [execOp, Act.eval, e1]; rfl, gb_refl _ _, rfl⟩
          refine ⟨Fg.value rfl fun ac w h => ?_, ?_⟩
          · have e44 : ac.tmps.getD 44 undef = .bool true := h.dep 44 (by kernel_rfl)
            have e50 : ac.tmps.getD 50 undef = .slice a n cap := h.dep 50 (by kernel_rfl)
            have b50 := (HPB.out).stay h.base
            have x50 : ac.tmps[50]?.getD undef = .slice a n cap := by simpa using e50
            refine ⟨wants_some (d := 44) rfl rfl (by rw [h.size]; show 44 < 58; decide) e44, .int .i64 n, w, ?_, gb_refl _ _, rfl⟩
            clear h e50
            go_simp
          refine ⟨Fg.value rfl fun ac w h => ?_, ?_⟩
          · have e44 : ac.tmps.getD 44 undef = .bool true := h.dep 44 (by kernel_rfl)
            have e49 : ac.tmps.getD 49 undef = .int .i64 (k : Int) := h.dep 49 (by kernel_rfl)
            have e51 : ac.tmps.getD 51 undef = .int .i64 n := h.dep 51 (by kernel_rfl)
            refine ⟨wants_some (d := 44) rfl rfl (by rw [h.size]; show 44 < 58; decide) e44, .int .i64 (t : Int), w, ?_, gb_refl _ _, rfl⟩
            clear h
            simp only [execOp, Act.eval, e49, e51]
            go_simp
          refine ⟨Fg.call rfl fun ac w h => ?_, ?_⟩
          · have e44 : ac.tmps.getD 44 undef = .bool true := h.dep 44 (by kernel_rfl)
            have e52 : ac.tmps.getD 52 undef = .int .i64 (t : Int) := h.dep 52 (by kernel_rfl)
            have x52 : ac.tmps[52]?.getD undef = .int .i64 (t : Int) := by simpa using e52
            have hb := h.base
            refine ⟨wants_some (d := 44) rfl rfl (by rw [h.size]; show 44 < 58; decide) e44, 23, #[.int .i64 1, .int .i64 (t : Int)], ?_, ?_⟩
            · clear h hb e52
              go_simp
            · refine (HMB.out w).mono ?_
              intro e w1 hp
              obtain ⟨rfl, hg⟩ := hp
              exact ⟨_, rfl, hg, rfl⟩
          refine ⟨Fg.value rfl fun ac w h => ?_, ?_⟩
          · have e44 : ac.tmps.getD 44 undef = .bool true := h.dep 44 (by kernel_rfl)
            have e48 : ac.tmps.getD 48 undef = .int .u8 (y : Int) := h.dep 48 (by kernel_rfl)
            have e53 : ac.tmps.getD 53 undef = .int .u8 (y : Int) := h.dep 53 (by kernel_rfl)
            refine ⟨wants_some (d := 44) rfl rfl (by rw [h.size]; show 44 < 58; decide) e44, .bool true, w, ?_, gb_refl _ _, rfl⟩
            clear h
            simp only [execOp, Act.eval, e48, e53]
            go_simp
          refine ⟨Fg.value rfl fun ac w h => ?_, ?_⟩
          · have e44 : ac.tmps.getD 44 undef = .bool true := h.dep 44 (by kernel_rfl)
            have e54 : ac.tmps.getD 54 undef = .bool true := h.dep 54 (by kernel_rfl)
            refine ⟨wants_some (d := 44) rfl rfl (by rw [h.size]; show 44 < 58; decide) e44, .bool false, w, ?_, gb_refl _ _, rfl⟩
            clear h
            simp only [execOp, Act.eval, e54]
            go_simp
          refine ⟨Fg.value rfl fun ac w h => ?_, ?_⟩
          · have e39 : ac.tmps.getD 39 undef = .bool false := h.dep 39 (by kernel_rfl)
            have e44 : ac.tmps.getD 44 undef = .bool true := h.dep 44 (by kernel_rfl)
            have e55 : ac.tmps.getD 55 undef = .bool false := h.dep 55 (by kernel_rfl)
            refine ⟨wants_some (d := 39) rfl rfl (by rw [h.size]; show 39 < 58; decide) e39, .bool false, w, ?_, gb_refl _ _, rfl⟩
            clear h
            simp only [execOp, Act.eval, e44, e55]
            go_simp
          refine ⟨Fg.value rfl fun ac w h => ?_, ?_⟩
          · have e39 : ac.tmps.getD 39 undef = .bool false := h.dep 39 (by kernel_rfl)
            have e56 : ac.tmps.getD 56 undef = .bool false := h.dep 56 (by kernel_rfl)
            refine ⟨wants_none rfl, .bool false, w, ?_, gb_refl _ _, rfl⟩
            clear h
            simp only [execOp, Act.eval, e39, e56]
            go_simp
          trivial
        · intro q wq hB hsz hdf hrest hslots _
          obtain ⟨u23, hs23⟩ : ∃ u, q.tmps.getD 23 undef = u := ⟨_, rfl⟩
          obtain ⟨u24, hs24⟩ : ∃ u, q.tmps.getD 24 undef = u := ⟨_, rfl⟩
          obtain ⟨u25, hs25⟩ : ∃ u, q.tmps.getD 25 undef = u := ⟨_, rfl⟩
          obtain ⟨u26, hs26⟩ : ∃ u, q.tmps.getD 26 undef = u := ⟨_, rfl⟩
          obtain ⟨u27, hs27⟩ : ∃ u, q.tmps.getD 27 undef = u := ⟨_, rfl⟩
          obtain ⟨u28, hs28⟩ : ∃ u, q.tmps.getD 28 undef = u := ⟨_, rfl⟩
          obtain ⟨u29, hs29⟩ : ∃ u, q.tmps.getD 29 undef = u := ⟨_, rfl⟩
          obtain ⟨u30, hs30⟩ : ∃ u, q.tmps.getD 30 undef = u := ⟨_, rfl⟩
          obtain ⟨u31, hs31⟩ : ∃ u, q.tmps.getD 31 undef = u := ⟨_, rfl⟩
          obtain ⟨u32, hs32⟩ : ∃ u, q.tmps.getD 32 undef = u := ⟨_, rfl⟩
          obtain ⟨u33, hs33⟩ : ∃ u, q.tmps.getD 33 undef = u := ⟨_, rfl⟩
          obtain ⟨u34, hs34⟩ : ∃ u, q.tmps.getD 34 undef = u := ⟨_, rfl⟩
          obtain ⟨u35, hs35⟩ : ∃ u, q.tmps.getD 35 undef = u := ⟨_, rfl⟩
          obtain ⟨u36, hs36⟩ : ∃ u, q.tmps.getD 36 undef = u := ⟨_, rfl⟩
          obtain ⟨u37, hs37⟩ : ∃ u, q.tmps.getD 37 undef = u := ⟨_, rfl⟩
          obtain ⟨u38, hs38⟩ : ∃ u, q.tmps.getD 38 undef = u := ⟨_, rfl⟩
          obtain ⟨u39, hs39⟩ : ∃ u, q.tmps.getD 39 undef = u := ⟨_, rfl⟩
          obtain ⟨u40, hs40⟩ : ∃ u, q.tmps.getD 40 undef = u := ⟨_, rfl⟩
          obtain ⟨u41, hs41⟩ : ∃ u, q.tmps.getD 41 undef = u := ⟨_, rfl⟩
          obtain ⟨u42, hs42⟩ : ∃ u, q.tmps.getD 42 undef = u := ⟨_, rfl⟩
          obtain ⟨u43, hs43⟩ : ∃ u, q.tmps.getD 43 undef = u := ⟨_, rfl⟩
          obtain ⟨u44, hs44⟩ : ∃ u, q.tmps.getD 44 undef = u := ⟨_, rfl⟩
          obtain ⟨u45, hs45⟩ : ∃ u, q.tmps.getD 45 undef = u := ⟨_, rfl⟩
          obtain ⟨u46, hs46⟩ : ∃ u, q.tmps.getD 46 undef = u := ⟨_, rfl⟩
          obtain ⟨u47, hs47⟩ : ∃ u, q.tmps.getD 47 undef = u := ⟨_, rfl⟩
          obtain ⟨u48, hs48⟩ : ∃ u, q.tmps.getD 48 undef = u := ⟨_, rfl⟩
          obtain ⟨u49, hs49⟩ : ∃ u, q.tmps.getD 49 undef = u := ⟨_, rfl⟩
          obtain ⟨u50, hs50⟩ : ∃ u, q.tmps.getD 50 undef = u := ⟨_, rfl⟩
          obtain ⟨u51, hs51⟩ : ∃ u, q.tmps.getD 51 undef = u := ⟨_, rfl⟩
          obtain ⟨u52, hs52⟩ : ∃ u, q.tmps.getD 52 undef = u := ⟨_, rfl⟩
          obtain ⟨u53, hs53⟩ : ∃ u, q.tmps.getD 53 undef = u := ⟨_, rfl⟩
          obtain ⟨u54, hs54⟩ : ∃ u, q.tmps.getD 54 undef = u := ⟨_, rfl⟩
          obtain ⟨u55, hs55⟩ : ∃ u, q.tmps.getD 55 undef = u := ⟨_, rfl⟩
          obtain ⟨u56, hs56⟩ : ∃ u, q.tmps.getD 56 undef = u := ⟨_, rfl⟩
          obtain rfl := Fg.frame_is (a := q) (vs := [Value.slice (some ⟨g, 0, none⟩) n (n + 12), Value.slice a n cap, undef, undef, u4, Value.slice (some ⟨g, 0, none⟩) (n + 12) (n + 12), Value.int .i64 (k : Int), Value.slice (some ⟨g, 0, none⟩) n (n + 12), Value.int .i64 (n : Int), Value.slice a n cap, Value.int .i64 (n : Int), Value.bool false, Value.slice (some ⟨g, 0, none⟩) n (n + 12), Value.slice a n cap, Value.int .i64 (n : Int), Value.int .i64 ((n : Int) + 12), Value.slice (some ⟨g, 0, none⟩) (n + 12) (n + 12), Value.int .i64 (k : Int), Value.slice (some ⟨g, 0, none⟩) (n + 12) (n + 12), Value.int .i64 ((n : Int) + 12), Value.bool true, u21, u22, u23, u24, u25, u26, u27, u28, u29, u30, u31, u32, u33, u34, u35, u36, u37, u38, u39, u40, u41, u42, u43, u44, u45, u46, u47, u48, u49, u50, u51, u52, u53, u54, u55, u56, Value.bool false]) hsz ⟨hrest 0 (by kernel_rfl), hrest 1 (by kernel_rfl), hrest 2 (by kernel_rfl), hrest 3 (by kernel_rfl), hrest 4 (by kernel_rfl), hrest 5 (by kernel_rfl), hrest 6 (by kernel_rfl), hrest 7 (by kernel_rfl), hrest 8 (by kernel_rfl), hrest 9 (by kernel_rfl), hrest 10 (by kernel_rfl), hrest 11 (by kernel_rfl), hrest 12 (by kernel_rfl), hrest 13 (by kernel_rfl), hrest 14 (by kernel_rfl), hrest 15 (by kernel_rfl), hrest 16 (by kernel_rfl), hrest 17 (by kernel_rfl), hrest 18 (by kernel_rfl), hrest 19 (by kernel_rfl), hrest 20 (by kernel_rfl), hrest 21 (by kernel_rfl), hrest 22 (by kernel_rfl), hs23, hs24, hs25, hs26, hs27, hs28, hs29, hs30, hs31, hs32, hs33, hs34, hs35, hs36, hs37, hs38, hs39, hs40, hs41, hs42, hs43, hs44, hs45, hs46, hs47, hs48, hs49, hs50, hs51, hs52, hs53, hs54, hs55, hs56, (show q.tmps.getD 57 undef = Value.bool false from hslots 57 (by kernel_rfl)), trivial⟩ hdf
          have HG2 := Lib.hid (gb_trans HG.out hB)
          clear hB hsz hdf hrest hslots hs23 hs24 hs25 hs26 hs27 hs28 hs29 hs30 hs31 hs32 hs33 hs34 hs35 hs36 hs37 hs38 hs39 hs40 hs41 hs42 hs43 hs44 hs45 hs46 hs47 hs48 hs49 hs50 hs51 hs52 hs53 hs54 hs55 hs56
          go_wp2
          go_roundw
          case rel => exact ⟨k + 1, by omega, by go_num, HG2.out⟩
          case measure => simp [intOf]; omega
    · obtain rfl : k = n + 12 := by omega
      have HG := Lib.hid hg; clear hg
      clear hlt
      go_wp2
      go_ret
      exact ⟨rfl, HG.out⟩
end Go.Proofs.Ytohcoihdijemfaa

/- The kit's OverBytes: what was lent is written over, the marks too. -/
namespace Go.Proofs.Ytohcoihdijemfaa
open Go.RowKit Ow

set_option maxRecDepth 100000 in
set_option maxHeartbeats 1000000 in
theorem overB_any (n g : Nat) (L : List Value) (w : World) (hL : L.length = n + 12) (hn : n ≤ 30000) (hb : Blk w g 5 L) :
    Calls Try.prog 14 #[.slice (some ⟨g, 0, none⟩) n (n + 12)] w fun e w' => e = .returned (.tuple #[]) ∧ w.grownBy w' (some g) := by
  have H := Lib.hid (And.intro hL hb); clear hL hb
  obtain ⟨a1, hs1, ha1⟩ := slice_to (some ⟨g, 0, none⟩) n (n + 12) (n + 12) (Nat.le_refl _)
  rw [ha1 g 0 rfl] at hs1
  have hs1' : ∀ w, (Instr.slice 22 (.slice (some ⟨g, 0, none⟩) n (n + 12)) none (some (.int .i64 ((n : Int) + 12))) none).run Try.prog w = .ok (.slice (some ⟨g, 0, none⟩) (n + 12) (n + 12)) w := hs1
  clear hs1 ha1
  go_enter Try.func14, Try.ntmps14
  go_wp2_with fail
  go_loopw [3] (fun i wr => ∃ (k : Nat) (L' : List Value), k ≤ n + 12 ∧ i = .int .i64 k ∧ L'.length = n + 12 ∧ Blk wr g 5 L' ∧ w.grownBy wr (some g)) (fun i _ => n + 12 - (intOf i).toNat)
  case atStart => exact ⟨0, L, by omega, rfl, H.out.1, H.out.2, gb_refl _ _⟩
  case round =>
    obtain ⟨k, L', hk, rfl, hl, hb, hg⟩ := hrel
    by_cases hlt : k < n + 12
    · have i0 : (k : Int) < (n : Int) + 12 := by omega
      obtain ⟨c, hc⟩ : ∃ c, L'[k]? = some c := ⟨_, List.getElem?_eq_getElem (by omega)⟩
      have k0 := hb.cell hc
      have f0 := hb.free k
      have HB := Lib.hid (And.intro hl (And.intro hb hg)); clear hl hb hg hc
      have hmb := Lib.hid (mkByte_any 2 k wr (by decide) (by omega))
      go_wp2_with fail
      refine hmb.out.mono ?_
      rintro e w' ⟨rfl, rfl⟩
      go_wp2_with fail
      exact ⟨⟨k + 1, L'.set k (.int .u8 (mkB 2 k)), hlt, rfl, by rw [List.length_set]; exact HB.out.1, HB.out.2.1.set k _, gb_set HB.out.2.2 k _⟩, by show n + 12 - ((k : Int) + 1).toNat < n + 12 - (k : Int).toNat; omega⟩
    · obtain rfl : k = n + 12 := by omega
      have HB := Lib.hid hg; clear hg hb
      go_wp2
      go_end0
      exact ⟨rfl, HB.out⟩
end Go.Proofs.Ytohcoihdijemfaa

/- The kit's Pick. -/
namespace Go.Proofs.Ytohcoihdijemfaa
open Go.RowKit Ow

/-- what Pick answers: a number below n; the world stays -/
def SomeBelow (n : Int) (w : World) (e : Ending) (w' : World) : Prop := ∃ r : Nat, (r : Int) < n ∧ e = .returned (.int .i64 (r : Int)) ∧ w = w'
set_option maxHeartbeats 400000 in
theorem pick_any (x n : Int) (w : World) (hn : 1 ≤ n) (hn2 : n ≤ 4000) (hx1 : -9223372036854775808 ≤ x) (hx2 : x ≤ 9223372036854775807) :
    Calls Try.prog 8 #[.int .i64 x, .int .i64 n] w (SomeBelow n w) := by
  have hn1 : ¬ n < 1 := by omega
  by_cases h0 : 0 ≤ x
  · obtain ⟨y, hy⟩ : ∃ y, y = x % n := ⟨_, rfl⟩
    have y0 : 0 ≤ y := by rw [hy]; exact Int.emod_nonneg _ (by omega)
    have y1 : y < n := by rw [hy]; exact Int.emod_lt_of_pos _ (by omega)
    have ey : x % n = y := hy.symm
    clear hy
    go_enter Try.func8, Try.ntmps8
    go_wp2
    go_ret
    exact ⟨y.toNat, by omega, by rw [show ((y.toNat : Nat) : Int) = y by omega]; rfl, rfl⟩
  · obtain ⟨y, hy⟩ : ∃ y, y = x.tmod n := ⟨_, rfl⟩
    have y0 : y ≤ 0 := by rw [hy]; have := Int.tmod_nonneg (a := -x) n (by omega); rw [Int.neg_tmod] at this; omega
    have y1 : -n < y := by rw [hy]; have := Int.tmod_lt_of_pos (-x) (show 0 < n by omega); rw [Int.neg_tmod] at this; omega
    have ey : x.tmod n = y := hy.symm
    clear hy
    by_cases hz : y < 0
    · go_enter Try.func8, Try.ntmps8
      go_wp2
      go_ret
      exact ⟨(y + n).toNat, by omega, by rw [show (((y + n).toNat : Nat) : Int) = y + n by omega]; rfl, rfl⟩
    · go_enter Try.func8, Try.ntmps8
      go_wp2
      go_ret
      exact ⟨y.toNat, by omega, by rw [show ((y.toNat : Nat) : Int) = y by omega]; rfl, rfl⟩
end Go.Proofs.Ytohcoihdijemfaa

/- The kit's Pick, told whole: the number's rest. -/
namespace Go.Proofs.Ytohcoihdijemfaa
open Go.RowKit Ow

set_option maxHeartbeats 400000 in
theorem pick_is (x n : Int) (w : World) (hn : 1 ≤ n) (hn2 : n ≤ 1000000) (hx1 : -9223372036854775808 ≤ x) (hx2 : x ≤ 9223372036854775807) :
    Calls Try.prog 8 #[.int .i64 x, .int .i64 n] w fun e w' => e = .returned (.int .i64 (x % n)) ∧ w' = w := by
  have hn1 : ¬ n < 1 := by omega
  by_cases h0 : 0 ≤ x
  · obtain ⟨y, hy⟩ : ∃ y, y = x % n := ⟨_, rfl⟩
    have y0 : 0 ≤ y := by rw [hy]; exact Int.emod_nonneg _ (by omega)
    have y1 : y < n := by rw [hy]; exact Int.emod_lt_of_pos _ (by omega)
    rw [← hy]
    have ey : x % n = y := hy.symm
    clear hy
    go_enter Try.func8, Try.ntmps8
    go_wp2
    go_ret
    exact ⟨rfl, rfl⟩
  · obtain ⟨y, hy⟩ : ∃ y, y = x.tmod n := ⟨_, rfl⟩
    have y0 : y ≤ 0 := by rw [hy]; have := Int.tmod_nonneg (a := -x) n (by omega); rw [Int.neg_tmod] at this; omega
    have y1 : -n < y := by rw [hy]; have := Int.tmod_lt_of_pos (-x) (show 0 < n by omega); rw [Int.neg_tmod] at this; omega
    have hxy : x % n = y % n := by
      have h1 : y + n * x.tdiv n = x := by rw [hy]; exact Int.tmod_add_mul_tdiv x n
      conv => lhs; rw [← h1]
      rw [Int.add_mul_emod_self_left]
    have ey : x.tmod n = y := hy.symm
    clear hy
    by_cases hz : y < 0
    · have hr : Hid (x % n = y + n) := by
        show x % n = y + n
        rw [hxy, ← Int.add_emod_right y n]
        exact Int.emod_eq_of_lt (by omega) (by omega)
      clear hxy
      rw [hr.out]
      go_enter Try.func8, Try.ntmps8
      go_wp2
      go_ret
      exact ⟨rfl, rfl⟩
    · have hr : Hid (x % n = y) := by
        show x % n = y
        rw [hxy]
        exact Int.emod_eq_of_lt (by omega) (by omega)
      clear hxy
      rw [hr.out]
      go_enter Try.func8, Try.ntmps8
      go_wp2
      go_ret
      exact ⟨rfl, rfl⟩
end Go.Proofs.Ytohcoihdijemfaa

/- A law's arguments: rows of dots, dots. -/
namespace Go.Proofs.Ytohcoihdijemfaa
open Go.ChangeShapes Go.WideShapes Go.ChangeAt Go.RowKit Go.Deep Go.Joins Ve
namespace Ve
theorem int_of {H : Type} {enc : TypeId × Value → H} {W : World} {base n : Nat} {sp : Nat → Bool} {hd : Bool} {v : Value} {x : DataW H × List MemPlace} (h : DataW.trod enc Try.prog W base sp hd n 3 [v] = some x) : ∃ k, v = iV k := by
  obtain ⟨k, hk, _⟩ := DataW.trod_int Try.underlying3 h
  exact ⟨k, by simpa using hk⟩
theorem spot0 {W : World} {x : Addr} {v : Value} (h : W.cell? (x.add 0) = some v) : ∃ b off, x = ⟨b, off, none⟩ ∧ b < W.heap.size := by
  obtain ⟨b, off, spot⟩ := x
  have hspot : spot = none := by simpa [Addr.add] using World.cell?_spot h
  subst hspot
  exact ⟨b, off, rfl, by simpa [Addr.add] using block_lt_of_cell h⟩
theorem range_getD' {α : Type} (f : Nat → α) (n i : Nat) (z : α) (h : i < n) : ((List.range n).map f).getD i z = f i := by
  rw [List.getD_eq_getElem?_getD, List.getElem?_map, List.getElem?_range h]; rfl
theorem dots_trod {H : Type} {enc : TypeId × Value → H} {W : World} {a : Option Addr} {len cap : Nat} {x : DataW H × List MemPlace} {fuel : Nat} (hf : DataW.trod enc Try.prog W 0 (fun _ => true) true fuel 23 [.slice a len cap] = some x) :
    ∃ l : List D, l.length = len ∧ len < 9223372036854775808 ∧ DotsAt W W.heap.size a l := by
  rcases open_slice_pairs Try.underlying23 Try.underlying43 (by kernel_rfl) rfl rfl (by kernel_rfl) (by kernel_rfl) hf with ⟨hcs, _⟩ | ⟨b, l, c, m, k, V0, V1, D0, D1, P0, P1, hcs, _, hl, hm, hmm, _, hall⟩
  · simp only [List.cons.injEq, Value.slice.injEq, and_true] at hcs
    obtain ⟨rfl, rfl, rfl⟩ := hcs
    exact ⟨[], rfl, by decide, Nat.le_refl _, Or.inl rfl⟩
  · simp only [List.cons.injEq, Value.slice.injEq, and_true] at hcs
    obtain ⟨rfl, rfl, rfl⟩ := hcs
    simp only [if_true] at hmm
    subst hmm
    have each : ∀ i, i < len → ∃ q : D, V0 i = iV q.1 ∧ V1 i = iV q.2 := fun i hi => by
      obtain ⟨_, _, t0, t1⟩ := hall i (by omega)
      obtain ⟨x0, e0⟩ := int_of t0
      obtain ⟨x1, e1⟩ := int_of t1
      exact ⟨(x0, x1), e0, e1⟩
    obtain ⟨q, hq⟩ := choose_lt each
    refine ⟨(List.range len).map q, by simp, by unfold maxLen at hm; omega, Nat.le_refl _, ?_⟩
    by_cases h0 : len = 0
    · left; simp [h0]
    · have c0 := (hall 0 (by omega)).1
      rw [Nat.zero_mul] at c0
      obtain ⟨pb, po, rfl, hlt⟩ := spot0 c0
      refine Or.inr ⟨pb, po, rfl, hlt, fun i hi => ?_⟩
      simp only [List.length_map, List.length_range] at hi
      obtain ⟨e0, e1, _⟩ := hall i (by omega)
      rw [Addr.add_lit] at e0 e1
      rw [range_getD' _ _ _ _ hi, ← (hq i hi).1, ← (hq i hi).2]
      exact ⟨e0, by rw [Nat.add_assoc]; exact e1⟩
/-- an argument that is a row of dots -/
theorem dots_open {H : Type} {enc : TypeId × Value → H} {W : World} {a : Option Addr} {len cap : Nat} {d : DataW H} {ps : List MemPlace} (h : DataW.Trod enc Try.prog W 0 (fun _ => true) true 23 (.slice a len cap) d ps) :
    ∃ l : List D, l.length = len ∧ len < 9223372036854775808 ∧ DotsAt W W.heap.size a l := by
  obtain ⟨fuel, hf⟩ := h
  exact dots_trod (by simpa [Value.cells] using hf)
/-- .. and what room it has -/
theorem dots_room {H : Type} {enc : TypeId × Value → H} {W : World} {a : Option Addr} {len cap : Nat} {d : DataW H} {ps : List MemPlace} (h : DataW.Trod enc Try.prog W 0 (fun _ => true) true 23 (.slice a len cap) d ps) :
    (a = none → cap = 0) ∧ len ≤ cap ∧ cap < 9223372036854775808 := by
  obtain ⟨fuel, hf⟩ := h
  have hf : DataW.trod enc Try.prog W 0 (fun _ => true) true fuel 23 [.slice a len cap] = some (d, ps) := by simpa [Value.cells] using hf
  rcases open_slice Try.underlying23 hf with ⟨hcs, _⟩ | ⟨b, l, c, _, _, _, _, hcs, _, hl, hm, _⟩
  · simp only [List.cons.injEq, Value.slice.injEq, and_true] at hcs
    exact ⟨fun _ => hcs.2.2, by omega, by omega⟩
  · simp only [List.cons.injEq, Value.slice.injEq, and_true] at hcs
    unfold maxLen at hm
    exact ⟨(fun e => by rw [hcs.1] at e; cases e), by omega, by omega⟩
set_option maxRecDepth 100000 in
/-- an argument that is a dot -/
theorem dot_open {H : Type} {enc : TypeId × Value → H} {W : World} {r : Reach} {b0 : Nat} {v : Value} {d : DataW H} {ps : List MemPlace} (hv : Value.okWide Try.prog W r b0 43 v) (h : DataW.Trod enc Try.prog W 0 (fun _ => true) true 43 v d ps) :
    ∃ x y : Int, v = .agg #[iV x, iV y] := by
  obtain ⟨v0, v1, y0, y1, n, rfl, _, _, t0, t1⟩ := open_agg2 Try.underlying43 (by kernel_rfl) (by kernel_rfl) hv h
  obtain ⟨x, rfl⟩ := int_of t0
  obtain ⟨y, rfl⟩ := int_of t1
  exact ⟨x, y, rfl⟩
end Ve
end Go.Proofs.Ytohcoihdijemfaa

/- A law's arguments: records. -/
namespace Go.Proofs.Ytohcoihdijemfaa
open Go.ChangeShapes Go.WideShapes Go.ChangeAt Go.RowKit Go.Deep Go.Joins Ow Ve
namespace Rc
theorem array7 {α : Type} {cs : Array α} (h : cs.size = 7) : ∃ c0 c1 c2 c3 c4 c5 c6, cs = #[c0, c1, c2, c3, c4, c5, c6] := by
  obtain ⟨l⟩ := cs
  match l, h with
  | [c0, c1, c2, c3, c4, c5, c6], _ => exact ⟨c0, c1, c2, c3, c4, c5, c6, rfl⟩
/-- each field of a struct of seven cells -/
theorem open_agg7 {H : Type} {enc : TypeId × Value → H} {P : Program} {w : World} {base : Nat} {spare : Nat → Bool} {held : Bool} {r : Reach} {b0 : Nat} {t : TypeId} {fs : Array Field} {v : Value} {d : DataW H} {p : List MemPlace} (hs : P.underlying t = some (.struct fs)) (hone : oneCellFields P fs = true) (hC : P.cellsOf t = 7)
    (hv : Value.okWide P w r b0 t v) (h : DataW.Trod enc P w base spare held t v d p) :
    ∃ (cs : Array Value) (n : Nat), v = .agg cs ∧ cs.size = 7 ∧ ∀ (i : Nat) (f : Field), fs[i]? = some f → ∀ u, cs.toList[i]? = some u → ∃ y, DataW.trod enc P w base spare held n f.type [u] = some y := by
  obtain ⟨cs, rfl, hsz⟩ := okWide_struct hs hv
  obtain ⟨fuel, hf⟩ := h
  obtain ⟨xs, n, _, _, _, hlen, hx⟩ := DataW.trod_struct hs hf
  refine ⟨cs, n, rfl, hsz.trans hC, fun i f hi u hu => ?_⟩
  have h1 := hx i f hi
  obtain ⟨o, k⟩ := hone_of hone i f hi
  have hi2 : i < xs.length := by rw [hlen]; exact (Array.getElem?_eq_some_iff.1 hi).1
  rw [List.getElem?_eq_getElem hi2] at h1
  refine ⟨xs[i], ?_⟩
  rw [← h1, o, k]
  congr 1
  have hi3 : i < cs.toList.length := (List.getElem?_eq_some_iff.1 hu).1
  rw [show (Value.agg cs).cells.toList = cs.toList from rfl, List.drop_eq_getElem_cons hi3]
  rw [List.getElem?_eq_getElem hi3] at hu
  simp only [Option.some.injEq] at hu
  rw [hu]; rfl
theorem slice_of {H : Type} {enc : TypeId × Value → H} {W : World} {n : Nat} {t e : TypeId} {v : Value} {y : DataW H × List MemPlace} (ht : Try.prog.underlying t = some (.slice e)) (h : DataW.trod enc Try.prog W 0 (fun _ => true) true n t [v] = some y) : ∃ a l c, v = .slice a l c := by
  rcases open_slice ht h with ⟨hcs, _⟩ | ⟨a, l, c, _, _, _, _, hcs, _⟩
  · exact ⟨none, 0, 0, by simpa using hcs⟩
  · exact ⟨some a, l, c, by simpa using hcs⟩
theorem bytes_trod {H : Type} {enc : TypeId × Value → H} {W : World} {n len cap : Nat} {a : Option Addr} {y : DataW H × List MemPlace} (h : DataW.trod enc Try.prog W 0 (fun _ => true) true n 22 [.slice a len cap] = some y) : ∃ p, p.length = len ∧ BytesAt W W.heap.size a cap p :=
  bytes_open (d := y.1) (ps := y.2) ⟨n, h⟩
set_option maxRecDepth 100000 in
/-- an argument that is a record -/
theorem rec_open {H : Type} {enc : TypeId × Value → H} {W : World} {rr : Reach} {b0 : Nat} {v : Value} {d : DataW H} {ps : List MemPlace} (hv : Value.okWide Try.prog W rr b0 25 v) (h : DataW.Trod enc Try.prog W 0 (fun _ => true) true 25 v d ps) :
    ∃ (q : L) (r : R), v = q.v r ∧ RAt W W.heap.size q r := by
  obtain ⟨cs, n, rfl, hsz, hall⟩ := open_agg7 Try.underlying25 (by kernel_rfl) (by kernel_rfl) hv h
  obtain ⟨c0, c1, c2, c3, c4, c5, c6, rfl⟩ := array7 hsz
  obtain ⟨y0, t0⟩ := hall 0 _ rfl c0 rfl
  obtain ⟨y1, t1⟩ := hall 1 _ rfl c1 rfl
  obtain ⟨y2, t2⟩ := hall 2 _ rfl c2 rfl
  obtain ⟨y3, t3⟩ := hall 3 _ rfl c3 rfl
  obtain ⟨y4, t4⟩ := hall 4 _ rfl c4 rfl
  obtain ⟨y5, t5⟩ := hall 5 _ rfl c5 rfl
  obtain ⟨y6, t6⟩ := hall 6 _ rfl c6 rfl
  obtain ⟨s, e0, _, _⟩ := DataW.trod_string Try.underlying9 t0
  obtain ⟨cl, rfl⟩ := int_of t1
  obtain ⟨sq, rfl⟩ := int_of t2
  obtain ⟨g, e4, _⟩ := DataW.trod_bool Try.underlying4 t4
  obtain rfl : c0 = .string s := by simpa using e0
  obtain rfl : c4 = .bool g := by simpa using e4
  obtain ⟨a1, n1, k1, rfl⟩ := slice_of Try.underlying23 t3
  obtain ⟨a2, n2, k2, rfl⟩ := slice_of Try.underlying22 t5
  obtain ⟨a3, n3, k3, rfl⟩ := slice_of Try.underlying22 t6
  obtain ⟨cx, hl1, hm, hd⟩ := dots_trod t3
  obtain ⟨val, hl2, hvb⟩ := bytes_trod t5
  obtain ⟨sig, hl3, hsb⟩ := bytes_trod t6
  exact ⟨⟨s, a1, n1, k1, a2, n2, k2, a3, n3, k3⟩, ⟨strL s, cl, sq, cx, g, val, sig⟩, rfl, rfl, hl1, hl2, hl3, hd, hvb, hsb, hm⟩
end Rc
end Go.Proofs.Ytohcoihdijemfaa
