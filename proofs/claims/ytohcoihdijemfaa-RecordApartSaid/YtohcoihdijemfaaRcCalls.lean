/- record.Text, Right, Put: what they tell of any record. (Printed by gen_rccalls.py.) -/
import Derived.Test.YtohcoihdijemfaaRcText
namespace Go.Proofs.Ytohcoihdijemfaa
open Go.RowKit Ow Wi Ve
namespace Rc
def textO (r : R) : List Nat := if shapeB r then textL r else []
def putO (r : R) : List Nat := if rightB r then putL r else []
def errN (b : Bool) (n : Int) : Int := if b then 0 else n
theorem text_small {w : World} {B : Nat} {q : L} {r : R} (h : RAt w B q r) (hs : shapeB r = true) : (textL r).length ≤ 2000 ∧ ∀ i, (textL r).getD i 0 < 256 := by
  obtain ⟨_, h2, _, h4, h5, _⟩ := shape_of hs
  have hcx : (r.cx.length : Int) ≤ 8 := by have := h4.len (by decide); omega
  have hk : ∀ i, r.key.getD i 0 < 256 := by rw [← h.str]; exact strL_byte _
  have e : textL r = [1] ++ (rowL r.key ++ (dotsL [r.dot] ++ (encN (r.cx.length : Int) ++ (dotsL r.cx ++ ([goneN r.gone] ++ rowL r.val))))) := by simp [textL, dotsL]
  rw [e]
  refine ⟨?_, app_byte (fun i => by rcases i with _ | i <;> simp) (app_byte (rowL_byte hk) (app_byte (dotsL_byte _) (app_byte (encN_byte _) (app_byte (dotsL_byte _) (app_byte (goneN_byte _) (rowL_byte h.val.byte))))))⟩
  simp only [List.length_append, List.length_cons, List.length_nil, rowL_len, dotsL_len, encN_length]
  omega
theorem bout_nil (w w' : World) (hg : w.grownBy w' none) : BOut w [] (.returned (.slice none 0 0)) w' := ⟨none, 0, rfl, hg, Nat.le_refl _, Nat.le_refl _, by decide, fun i => by simp, Or.inl rfl⟩
theorem bout_from {w0 w w' : World} {l : List Nat} {e : Ending} (h : BOut w l e w') (hg : w0.grownBy w none) : BOut w0 l e w' := by
  obtain ⟨a, c, he, hg2, hb⟩ := h
  exact ⟨a, c, he, gb_trans hg hg2, hb⟩
set_option maxHeartbeats 1000000 in
theorem rtext_any (r : R) (B : Nat) (w : World) (q : L) (h : RAt w B q r) : Calls Try.prog 15 #[q.v r] w (BOut w (textO r)) := by
  have HS := Lib.hid (fun w' (hg : w.grownBy w' none) => shaped_any (shapeB r) r B w' q (h.stay hg) rfl)
  have HT := Lib.hid (fun (hs : shapeB r = true) w' (hg : w.grownBy w' none) => text_out r B w' q (h.stay hg) hs)
  clear h
  obtain ⟨Q, hQ⟩ : ∃ Q, Q = BOut w (textO r) := ⟨_, rfl⟩
  rw [← hQ]
  unfold textO at hQ
  generalize textL r = T at HT hQ
  cases hb : shapeB r with
  | false =>
    rw [hb] at HS hQ
    clear HT
    have HQ : Hid (∀ w', w.grownBy w' none → Q (.returned (.slice none 0 0)) w') := fun w' hg => by rw [hQ]; exact bout_nil w w' hg
    clear hQ hb
    obtain ⟨s, a1, n1, c1, a2, n2, c2, a3, n3, c3⟩ := q
    obtain ⟨key, cl, sq, cx, g, val, sig⟩ := r
    replace HS : Hid (∀ w' (_ : w.grownBy w' none), Calls Try.prog 34 #[vV s cl sq a1 n1 c1 g a2 n2 c2 a3 n3 c3] w' fun e w'' => e = .returned (.bool false) ∧ w'.grownBy w'' none) := HS
    show Calls _ _ #[vV s cl sq a1 n1 c1 g a2 n2 c2 a3 n3 c3] w _
    go_enter Try.func15, Try.ntmps15
    go_wp2_with fail
    refine (HS.out _ (gb_alloc (gb_alloc (gb_refl _ _) _) _)).mono ?_
    rintro e w1 ⟨rfl, hg⟩
    have HG := Lib.hid (gb_trans (gb_alloc (gb_alloc (gb_refl _ _) _) _) hg); clear hg
    go_wp2
    exact HQ.out _ HG.out
  | true =>
    rw [hb] at HS
    replace HT := Lib.hid (HT.out hb)
    rw [hb, if_pos rfl] at hQ
    clear hb
    have HQ : Hid (∀ w' e w'', w.grownBy w' none → BOut w' T e w'' → Q e w'') := fun w' e w'' hg ho => by rw [hQ]; exact bout_from ho hg
    clear hQ
    obtain ⟨s, a1, n1, c1, a2, n2, c2, a3, n3, c3⟩ := q
    obtain ⟨key, cl, sq, cx, g, val, sig⟩ := r
    replace HS : Hid (∀ w' (_ : w.grownBy w' none), Calls Try.prog 34 #[vV s cl sq a1 n1 c1 g a2 n2 c2 a3 n3 c3] w' fun e w'' => e = .returned (.bool true) ∧ w'.grownBy w'' none) := HS
    replace HT : Hid (∀ w' (_ : w.grownBy w' none), Calls Try.prog 35 #[vV s cl sq a1 n1 c1 g a2 n2 c2 a3 n3 c3] w' (BOut w' T)) := HT
    show Calls _ _ #[vV s cl sq a1 n1 c1 g a2 n2 c2 a3 n3 c3] w _
    obtain ⟨N, hN⟩ : ∃ N, N = w.heap.size + 1 := ⟨_, rfl⟩
    obtain ⟨W0, hW0⟩ : ∃ W0, W0 = (w.alloc (.cells #[.string s, iV cl, iV sq, .slice a1 n1 c1, .bool g, .slice a2 n2 c2, .slice a3 n3 c3] 25)).alloc (.cells #[.string s, iV cl, iV sq, .slice a1 n1 c1, .bool g, .slice a2 n2 c2, .slice a3 n3 c3] 55) := ⟨_, rfl⟩
    have hG0 : w.grownBy W0 none := by rw [hW0]; exact gb_alloc (gb_alloc (gb_refl _ _) _) _
    have hB0 : Blk W0 N 55 [.string s, iV cl, iV sq, .slice a1 n1 c1, .bool g, .slice a2 n2 c2, .slice a3 n3 c3] := by rw [hW0, hN, ← World.size_alloc]; exact Blk.new _ _ _
    have HG0 := Lib.hid (And.intro hG0 hB0); clear hG0 hB0
    go_enter Try.func15, Try.ntmps15
    go_wp2_with fail
    rw [← hW0, ← hN]
    clear hW0 hN
    refine (HS.out _ HG0.out.1).mono ?_
    rintro e w1 ⟨rfl, hg⟩
    have hB1 := HG0.out.2.grown hg (by simp)
    have m0 := hB1.cell (i := 0) rfl
    have m1 := hB1.cell (i := 1) rfl
    have m2 := hB1.cell (i := 2) rfl
    have m3 := hB1.cell (i := 3) rfl
    have m4 := hB1.cell (i := 4) rfl
    have m5 := hB1.cell (i := 5) rfl
    have m6 := hB1.cell (i := 6) rfl
    have HG := Lib.hid (gb_trans HG0.out.1 hg); clear hg hB1
    go_wp2_with fail
    refine (HT.out _ HG.out).mono ?_
    rintro e w2 ho
    have HO := Lib.hid (HQ.out _ _ _ HG.out ho)
    obtain ⟨a, c, rfl, _⟩ := ho
    go_wp2
    exact HO.out
set_option maxHeartbeats 1000000 in
theorem rright_any (r : R) (B : Nat) (w : World) (q : L) (h : RAt w B q r) : Calls Try.prog 19 #[q.v r] w fun e w' => e = .returned (.bool (rightB r)) ∧ w.grownBy w' none := by
  have HS := Lib.hid (fun w' (hg : w.grownBy w' none) => shaped_any (shapeB r) r B w' q (h.stay hg) rfl)
  have hl := h.l3
  clear h
  obtain ⟨b, hb⟩ : ∃ b, b = rightB r := ⟨_, rfl⟩
  rw [← hb]
  unfold rightB at hb
  rw [hl] at hb
  clear hl
  generalize shapeB r = x at HS hb
  obtain ⟨s, a1, n1, c1, a2, n2, c2, a3, n3, c3⟩ := q
  obtain ⟨key, cl, sq, cx, g, val, sig⟩ := r
  replace HS : Hid (∀ w' (_ : w.grownBy w' none), Calls Try.prog 34 #[vV s cl sq a1 n1 c1 g a2 n2 c2 a3 n3 c3] w' fun e w'' => e = .returned (.bool x) ∧ w'.grownBy w'' none) := HS
  show Calls _ _ #[vV s cl sq a1 n1 c1 g a2 n2 c2 a3 n3 c3] w _
  obtain ⟨N, hN⟩ : ∃ N, N = w.heap.size := ⟨_, rfl⟩
  obtain ⟨W0, hW0⟩ : ∃ W0, W0 = w.alloc (.cells #[.string s, iV cl, iV sq, .slice a1 n1 c1, .bool g, .slice a2 n2 c2, .slice a3 n3 c3] 25) := ⟨_, rfl⟩
  have hG0 : w.grownBy W0 none := by rw [hW0]; exact gb_alloc (gb_refl _ _) _
  have hB0 : Blk W0 N 25 [.string s, iV cl, iV sq, .slice a1 n1 c1, .bool g, .slice a2 n2 c2, .slice a3 n3 c3] := by rw [hW0, hN]; exact Blk.new _ _ _
  have HG0 := Lib.hid (And.intro hG0 hB0); clear hG0 hB0
  have HB := Lib.hid hb; clear hb
  go_enter Try.func19, Try.ntmps19
  go_wp2_with fail
  rw [← hW0, ← hN]
  clear hW0 hN
  refine (HS.out _ HG0.out.1).mono ?_
  rintro e w1 ⟨rfl, hg⟩
  have m6 := (HG0.out.2.grown hg (by simp)).cell (i := 6) rfl
  have HG := Lib.hid (gb_trans HG0.out.1 hg); clear hg
  cases x with
  | false =>
    go_wp2
    go_ret
    exact ⟨by rw [HB.out]; rfl, HG.out⟩
  | true =>
    by_cases h3 : n3 = 64
    · subst h3
      go_wp2
      go_ret
      exact ⟨by rw [HB.out]; rfl, HG.out⟩
    · have i3 : ((n3 : Int) == 64) = false := by rw [beq_eq_false_iff_ne]; omega
      have HF : Hid (b = false) := by show _ = _; rw [HB.out]; simp [h3]
      clear h3
      go_wp2
      go_ret
      exact ⟨by rw [HF.out]; rfl, HG.out⟩
def POut (w : World) (l : List Nat) (n : Int) (e : Ending) (w' : World) : Prop := ∃ a c, e = .returned (.tuple #[.slice a l.length c, .int .i64 n]) ∧ w.grownBy w' none ∧ BytesAt w' w'.heap.size a c l
set_option maxHeartbeats 1000000 in
theorem rput_any (r : R) (B : Nat) (w : World) (q : L) (h : RAt w B q r) : Calls Try.prog 25 #[q.v r] w (POut w (putO r) (errN (rightB r) 4)) := by
  have HS := Lib.hid (fun w' (hg : w.grownBy w' none) => rright_any r B w' q (h.stay hg))
  cases hb : rightB r with
  | false =>
    rw [hb] at HS
    have HQ : Hid (∀ w', w.grownBy w' none → POut w (putO r) (errN false 4) (.returned (.tuple #[.slice none 0 0, .int .i64 4])) w') := fun w' hg => by
      unfold putO
      rw [hb]
      obtain ⟨a, c, e, h2⟩ := bout_nil w w' hg
      simp only [Ending.returned.injEq, Value.slice.injEq] at e
      obtain ⟨rfl, _, rfl⟩ := e
      exact ⟨_, _, rfl, h2⟩
    clear h hb
    generalize POut w (putO r) (errN false 4) = Q at *
    obtain ⟨s, a1, n1, c1, a2, n2, c2, a3, n3, c3⟩ := q
    obtain ⟨key, cl, sq, cx, g, val, sig⟩ := r
    replace HS : Hid (∀ w' (_ : w.grownBy w' none), Calls Try.prog 19 #[vV s cl sq a1 n1 c1 g a2 n2 c2 a3 n3 c3] w' fun e w'' => e = .returned (.bool false) ∧ w'.grownBy w'' none) := HS
    show Calls _ _ #[vV s cl sq a1 n1 c1 g a2 n2 c2 a3 n3 c3] w _
    go_enter Try.func25, Try.ntmps25
    go_wp2_with fail
    refine (HS.out _ (gb_alloc (gb_refl _ _) _)).mono ?_
    rintro e w1 ⟨rfl, hg⟩
    have HG := Lib.hid (gb_trans (gb_alloc (gb_refl _ _) _) hg); clear hg
    go_wp2
    exact HQ.out _ HG.out
  | true =>
    rw [hb] at HS
    have hs : shapeB r = true := by simp only [rightB, Bool.and_eq_true] at hb; exact hb.1
    have HT := Lib.hid (fun w' (hg : w.grownBy w' none) => rtext_any r B w' q (h.stay hg))
    have HQ : Hid (∀ w' a c, w.grownBy w' none → BytesAt w' w'.heap.size a c [textL r, r.sig].flatten → POut w (putO r) (errN true 4) (.returned (.tuple #[.slice a [textL r, r.sig].flatten.length c, .int .i64 0])) w') := fun w' a c hg hB => by
      have e : [textL r, r.sig].flatten = putO r := by unfold putO; rw [hb]; simp [putL]
      rw [e] at hB ⊢
      exact ⟨a, c, rfl, hg, hB⟩
    have e : textO r = textL r := by unfold textO; rw [hs]; rfl
    rw [e] at HT
    have l3 := h.l3
    have hsh := shape_of hs
    have hT : (textL r).length ≤ 2000 ∧ ∀ i, (textL r).getD i 0 < 256 := text_small h hs
    have HL : Hid (([textL r, r.sig].flatten).length ≤ 1000000 ∧ ∀ l ∈ [textL r, r.sig], ∀ i, l.getD i 0 < 256) := by
      have h64 : r.sig.length = 64 := by simp only [rightB, Bool.and_eq_true, decide_eq_true_eq] at hb; exact hb.2
      refine ⟨by simp only [List.flatten_cons, List.flatten_nil, List.length_append, List.length_nil, h64]; omega, fun l hl => ?_⟩
      simp only [List.mem_cons, List.not_mem_nil, or_false] at hl
      rcases hl with rfl | rfl
      · exact hT.2
      · exact h.sig.byte
    have HSG := Lib.hid (And.intro h.sig l3)
    generalize textL r = T at *
    clear h hb hs e hsh hT l3
    generalize POut w (putO r) (errN true 4) = Q at *
    obtain ⟨s, a1, n1, c1, a2, n2, c2, a3, n3, c3⟩ := q
    obtain ⟨key, cl, sq, cx, g, val, sig⟩ := r
    replace HS : Hid (∀ w' (_ : w.grownBy w' none), Calls Try.prog 19 #[vV s cl sq a1 n1 c1 g a2 n2 c2 a3 n3 c3] w' fun e w'' => e = .returned (.bool true) ∧ w'.grownBy w'' none) := HS
    replace HT : Hid (∀ w' (_ : w.grownBy w' none), Calls Try.prog 15 #[vV s cl sq a1 n1 c1 g a2 n2 c2 a3 n3 c3] w' (BOut w' T)) := HT
    replace HSG : Hid (BytesAt w B a3 c3 sig ∧ sig.length = n3) := HSG
    simp only at HL HQ
    show Calls _ _ #[vV s cl sq a1 n1 c1 g a2 n2 c2 a3 n3 c3] w _
    obtain ⟨N, hN⟩ : ∃ N, N = w.heap.size := ⟨_, rfl⟩
    obtain ⟨W0, hW0⟩ : ∃ W0, W0 = w.alloc (.cells #[.string s, iV cl, iV sq, .slice a1 n1 c1, .bool g, .slice a2 n2 c2, .slice a3 n3 c3] 25) := ⟨_, rfl⟩
    have hG0 : w.grownBy W0 none := by rw [hW0]; exact gb_alloc (gb_refl _ _) _
    have hB0 : Blk W0 N 25 [.string s, iV cl, iV sq, .slice a1 n1 c1, .bool g, .slice a2 n2 c2, .slice a3 n3 c3] := by rw [hW0, hN]; exact Blk.new _ _ _
    have HG0 := Lib.hid (And.intro hG0 hB0); clear hG0 hB0
    go_enter Try.func25, Try.ntmps25
    go_wp2_with fail
    rw [← hW0, ← hN]
    clear hW0 hN
    refine (HS.out _ HG0.out.1).mono ?_
    rintro e w1 ⟨rfl, hg⟩
    have HG := Lib.hid (And.intro (gb_trans HG0.out.1 hg) (HG0.out.2.grown hg (by simp))); clear hg HG0
    go_wp2_with fail
    refine Fg.region_t [] [.any, .any, Fg.It.by [T, sig].flatten, .val (Value.int .i64 0), .any, .any, .any, .val (vV s cl sq a1 n1 c1 g a2 n2 c2 a3 n3 c3), Fg.It.by T, .val (Value.pointer (some ⟨N, 6, none⟩)), .val (Value.slice a3 n3 c3), Fg.It.rws [T, sig], Fg.It.by [T, sig].flatten] w1 8 (gb_refl _ _) (by kernel_rfl) (by kernel_rfl) (by kernel_rfl) (by kernel_rfl) (by decide) (by kernel_rfl) ?_ ?_
    · refine ⟨Fg.vT rfl (by decide) fun ac w h => ?_, ?_⟩
      · have e1 : ac.tmps.getD 1 undef = Value.pointer (some ⟨N, 0, none⟩) := h.rest 1 (by kernel_rfl)
        have m0 := (HG.out.2.grown h.base (by simp)).cell (i := 0) rfl
        have m1 := (HG.out.2.grown h.base (by simp)).cell (i := 1) rfl
        have m2 := (HG.out.2.grown h.base (by simp)).cell (i := 2) rfl
        have m3 := (HG.out.2.grown h.base (by simp)).cell (i := 3) rfl
        have m4 := (HG.out.2.grown h.base (by simp)).cell (i := 4) rfl
        have m5 := (HG.out.2.grown h.base (by simp)).cell (i := 5) rfl
        have m6 := (HG.out.2.grown h.base (by simp)).cell (i := 6) rfl
        refine ⟨vV s cl sq a1 n1 c1 g a2 n2 c2 a3 n3 c3, w, wants_none rfl, ?_, gb_refl _ _, rfl⟩
        clear h
        simp only [execOp, Act.eval, e1]
        go_simp
      refine ⟨Fg.cT rfl (by decide) fun ac w h => ?_, ?_⟩
      · have e7 : ac.tmps.getD 7 undef = vV s cl sq a1 n1 c1 g a2 n2 c2 a3 n3 c3 := h.dep 7 (by kernel_rfl)
        refine ⟨15, #[vV s cl sq a1 n1 c1 g a2 n2 c2 a3 n3 c3], wants_none rfl, Fg.run_call rfl rfl (by simp only [List.map_toArray, List.map_cons, List.map_nil, Act.eval, e7]) (Fg.run_enter Try.func15 (by kernel_rfl) (by kernel_rfl)), ?_⟩
        exact (HT.out w (gb_trans HG.out.1 h.base)).mono fun _ _ ⟨_, _, he, hg, hb⟩ => ⟨_, he, hg, _, _, _, rfl, hb⟩
      refine ⟨Fg.vT rfl (by decide) fun ac w h => ?_, ?_⟩
      · have e1 : ac.tmps.getD 1 undef = Value.pointer (some ⟨N, 0, none⟩) := h.rest 1 (by kernel_rfl)
        refine ⟨Value.pointer (some ⟨N, 6, none⟩), w, wants_none rfl, ?_, gb_refl _ _, rfl⟩
        clear h
        simp only [execOp, Act.eval, e1]
        go_simp
      refine ⟨Fg.vT rfl (by decide) fun ac w h => ?_, ?_⟩
      · have e9 : ac.tmps.getD 9 undef = Value.pointer (some ⟨N, 6, none⟩) := h.dep 9 (by kernel_rfl)
        have c := (HG.out.2.grown h.base (by simp)).cell (i := 6) rfl
        refine ⟨Value.slice a3 n3 c3, w, wants_none rfl, ?_, gb_refl _ _, rfl⟩
        clear h
        simp only [execOp, Act.eval, e9]
        go_simp
      refine ⟨Fg.vT rfl (by decide) fun ac w h => ?_, ?_⟩
      · obtain ⟨a8, k8, B8, e8, b8⟩ : ∃ x c B, ac.tmps.getD 8 undef = .slice x T.length c ∧ BytesAt w B x c T := h.dep 8 (by kernel_rfl)
        have e10 : ac.tmps.getD 10 undef = Value.slice a3 n3 c3 := h.dep 10 (by kernel_rfl)
        have hbx : RowsAt (w.alloc (.cells #[.slice a8 T.length k8, .slice a3 n3 c3] 22)) (w.heap.size + 1) (some ⟨w.heap.size, 0, none⟩) [T, sig] := by
          rw [← HSG.out.2]
          exact rows_box _ [(a8, k8, T), (a3, c3, sig)] (fun p hp => by
            simp only [List.mem_cons, List.not_mem_nil, or_false] at hp
            rcases hp with rfl | rfl
            · exact ⟨_, b8⟩
            · exact ⟨_, HSG.out.1.stay (gb_trans HG.out.1 h.base)⟩)
        refine ⟨.slice (some ⟨w.heap.size, 0, none⟩) 2 2, w.alloc (.cells #[.slice a8 T.length k8, .slice a3 n3 c3] 22), wants_none rfl, ?_, gb_alloc (gb_refl _ _) _, ⟨_, 2, _, rfl, hbx⟩⟩
        clear h
        simp only [execOp, Act.eval, e8, e10, List.map_toArray, List.map_cons, List.map_nil]
        go_simp
      refine ⟨Fg.cT rfl (by decide) fun ac w h => ?_, ?_⟩
      · obtain ⟨a11, k11, B11, e11, b11⟩ : ∃ x c B, ac.tmps.getD 11 undef = .slice x [T, sig].length c ∧ RowsAt w B x [T, sig] := h.dep 11 (by kernel_rfl)
        refine ⟨49, #[Value.slice a11 [T, sig].length k11], wants_none rfl, Fg.run_call rfl rfl (by simp only [List.map_toArray, List.map_cons, List.map_nil, Act.eval, e11]) (Fg.run_enter Try.func49 (by kernel_rfl) (by kernel_rfl)), ?_⟩
        exact (join_out 2 [T, sig] a11 k11 B11 w rfl b11 (by simp) HL.out.1 HL.out.2).mono fun _ _ ⟨_, _, he, hg, hb⟩ => ⟨_, he, hg, _, _, _, rfl, hb⟩
      refine ⟨Fg.vT rfl (by decide) fun ac w h => ?_, ?_⟩
      · obtain ⟨a12, k12, B12, e12, b12⟩ : ∃ x c B, ac.tmps.getD 12 undef = .slice x [T, sig].flatten.length c ∧ BytesAt w B x c [T, sig].flatten := h.dep 12 (by kernel_rfl)
        exact ⟨_, w, wants_none rfl, Fg.run_assign rfl e12, gb_refl _ _, ⟨_, _, _, rfl, b12⟩⟩
      refine ⟨Fg.vT rfl (by decide) fun ac w h => ?_, ?_⟩
      · refine ⟨Value.int .i64 0, w, wants_none rfl, ?_, gb_refl _ _, rfl⟩
        clear h
        simp only [execOp, Act.eval]
        go_simp
      trivial
    · intro aq wq hB hsz hdf hrest hslots hpt
      obtain ⟨u0, e0⟩ : ∃ u, aq.tmps.getD 0 undef = u := ⟨_, rfl⟩
      obtain ⟨a2, k2, B2, e2, b2⟩ : ∃ x c B, aq.tmps.getD 2 undef = .slice x [T, sig].flatten.length c ∧ BytesAt wq B x c [T, sig].flatten := hslots 2 (by kernel_rfl)
      have e3 : aq.tmps.getD 3 undef = Value.int .i64 0 := hslots 3 (by kernel_rfl)
      obtain ⟨u4, e4⟩ : ∃ u, aq.tmps.getD 4 undef = u := ⟨_, rfl⟩
      obtain ⟨u5, e5⟩ : ∃ u, aq.tmps.getD 5 undef = u := ⟨_, rfl⟩
      obtain ⟨u6, e6⟩ : ∃ u, aq.tmps.getD 6 undef = u := ⟨_, rfl⟩
      obtain ⟨u7, e7⟩ : ∃ u, aq.tmps.getD 7 undef = u := ⟨_, rfl⟩
      obtain ⟨u8, e8⟩ : ∃ u, aq.tmps.getD 8 undef = u := ⟨_, rfl⟩
      obtain ⟨u9, e9⟩ : ∃ u, aq.tmps.getD 9 undef = u := ⟨_, rfl⟩
      obtain ⟨u10, e10⟩ : ∃ u, aq.tmps.getD 10 undef = u := ⟨_, rfl⟩
      obtain ⟨u11, e11⟩ : ∃ u, aq.tmps.getD 11 undef = u := ⟨_, rfl⟩
      obtain ⟨u12, e12⟩ : ∃ u, aq.tmps.getD 12 undef = u := ⟨_, rfl⟩
      obtain rfl := Fg.frame_is (a := aq) (vs := [u0, Value.pointer (some ⟨N, 0, none⟩), Value.slice a2 [T, sig].flatten.length k2, Value.int .i64 0, u4, u5, u6, u7, u8, u9, u10, u11, u12]) hsz ⟨e0, hrest 1 (by kernel_rfl), e2, e3, e4, e5, e6, e7, e8, e9, e10, e11, e12, trivial⟩ hdf
      clear hsz hdf hrest hslots hpt e0 e2 e3 e4 e5 e6 e7 e8 e9 e10 e11 e12
      have HR := Lib.hid (HQ.out wq a2 k2 (gb_trans HG.out.1 hB) (b2.up b2.lim (Nat.le_refl _)))
      clear b2 hB
      refine wpList_nil ?_
      go_wp2
      exact HR.out
end Rc
end Go.Proofs.Ytohcoihdijemfaa
