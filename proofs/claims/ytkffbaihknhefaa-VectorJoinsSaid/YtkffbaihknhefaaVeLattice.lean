/- THE STAGE'S THEOREM VectorLattice (P7.3): the walk. -/
import Derived.Test.YtkffbaihknhefaaVeAwake
namespace Go.Proofs.Ytkffbaihknhefaa
open Go.RowKit Ve
namespace Ve
theorem all2 {a b : List D} (ha : Rt 0 a) (hb : Rt 0 b) : allB [a, b] = true := allB_of (fun l hl => by
  simp only [List.mem_cons, List.not_mem_nil, or_false] at hl; rcases hl with rfl | rfl <;> assumption)
theorem all3 {a b c : List D} (ha : Rt 0 a) (hb : Rt 0 b) (hc : Rt 0 c) : allB [a, b, c] = true := allB_of (fun l hl => by
  simp only [List.mem_cons, List.not_mem_nil, or_false] at hl; rcases hl with rfl | rfl | rfl <;> assumption)
theorem up2 {a b : List D} (ha : Rt 0 a) (hb : Rt 0 b) (c : Int) : up (joinF [a, b]) c = max (up a c) (up b c) := by
  rw [joinF_up (all2 ha hb), mx, mx, mx, um_up ha, um_up hb]
  have := (up_bd (c := c) hb).1
  omega
theorem up3 {a b d : List D} (ha : Rt 0 a) (hb : Rt 0 b) (hd : Rt 0 d) (c : Int) : up (joinF [a, b, d]) c = max (up a c) (max (up b c) (up d c)) := by
  rw [joinF_up (all3 ha hb hd), mx, mx, mx, mx, um_up ha, um_up hb, um_up hd]
  have := (up_bd (c := c) hd).1
  omega
theorem cv_up {a b : List D} (ha : Rt 0 a) (hb : Rt 0 b) : cvB a b = true ↔ ∀ c, up b c ≤ up a c := by
  rw [← covB_up ha hb]
  simp only [cvB, (rtB_iff a 0).2 ha, (rtB_iff b 0).2 hb, Bool.true_and]
structure LatM (a b c : List D) : Prop where
  com : decide (joinF [a, b] = joinF [b, a]) = true
  as1 : decide (joinF [joinF [a, b], c] = joinF [a, b, c]) = true
  as2 : decide (joinF [a, joinF [b, c]] = joinF [a, b, c]) = true
  idm : decide (joinF [a, a] = a) = true
  rt : rtB 0 (joinF [a, b, c]) = true
  c1 : cvB (joinF [a, b, c]) a = true
  c2 : cvB (joinF [a, b, c]) b = true
  c3 : cvB (joinF [a, b, c]) c = true
  least : cvB c a = true → cvB c b = true → cvB c (joinF [a, b]) = true
  eq1 : cvB a b = decide (joinF [a, b] = a)
  eq2 : (cvB a b && cvB b a) = decide (a = b)
theorem latM {a b c : List D} (ha : Rt 0 a) (hb : Rt 0 b) (hc : Rt 0 c) : LatM a b c := by
  have j2 := joinF_right [a, b]
  have j3 := joinF_right [a, b, c]
  have jb := joinF_right [b, c]
  refine ⟨?_, ?_, ?_, ?_, ?_, ?_, ?_, ?_, ?_, ?_, ?_⟩
  · exact decide_eq_true (up_ext j2 (joinF_right _) (fun x => by rw [up2 ha hb, up2 hb ha]; omega))
  · exact decide_eq_true (up_ext (joinF_right _) j3 (fun x => by rw [up2 j2 hc, up2 ha hb, up3 ha hb hc]; omega))
  · exact decide_eq_true (up_ext (joinF_right _) j3 (fun x => by rw [up2 ha jb, up2 hb hc, up3 ha hb hc]))
  · exact decide_eq_true (up_ext (joinF_right _) ha (fun x => by rw [up2 ha ha]; omega))
  · exact (rtB_iff _ _).2 j3
  · exact (cv_up j3 ha).2 (fun x => by rw [up3 ha hb hc]; omega)
  · exact (cv_up j3 hb).2 (fun x => by rw [up3 ha hb hc]; omega)
  · exact (cv_up j3 hc).2 (fun x => by rw [up3 ha hb hc]; omega)
  · intro h1 h2
    exact (cv_up hc j2).2 (fun x => by
      have e1 := (cv_up hc ha).1 h1 x
      have e2 := (cv_up hc hb).1 h2 x
      rw [up2 ha hb]; omega)
  · rw [Bool.eq_iff_iff, cv_up ha hb, decide_eq_true_iff]
    constructor
    · intro h; exact up_ext j2 ha (fun x => by have := h x; rw [up2 ha hb]; omega)
    · intro h x; have := up2 ha hb x; rw [h] at this; omega
  · rw [Bool.eq_iff_iff, Bool.and_eq_true, cv_up ha hb, cv_up hb ha, decide_eq_true_iff]
    constructor
    · intro h; exact up_ext ha hb (fun x => by have := h.1 x; have := h.2 x; omega)
    · intro h; subst h; exact ⟨fun x => Int.le_refl _, fun x => Int.le_refl _⟩
def LawOut (w : World) (e : Ending) (w' : World) : Prop := e = .returned (.bool true) ∧ w.grownBy w' none
set_option maxHeartbeats 4000000 in
set_option maxRecDepth 100000 in
theorem lattice_any (c0 c1 c2 : Nat) (a0 a1 a2 : Option Addr) (A B C : List D) (w : World) (hS : ST w [(a0, A), (a1, B), (a2, C)] w) :
    Calls Try.prog 5 #[.slice a0 A.length c0, .slice a1 B.length c1, .slice a2 C.length c2] w (LawOut w) := by
  have HS := Lib.hid hS; clear hS
  obtain ⟨Q, hQ⟩ : ∃ Q, Q = LawOut w := ⟨_, rfl⟩
  rw [← hQ]
  have HQ : Hid (∀ w', w.grownBy w' none → Q (.returned (.bool true)) w') := fun w' hg => by rw [hQ]; exact ⟨rfl, hg⟩
  clear hQ
  go_enter Try.func5, Try.ntmps5
  go_wp2_with fail
  refine (awake7_any w).mono ?_
  rintro e w1 ⟨rfl, hg⟩
  have HS1 := Lib.hid (HS.out.grow hg); clear hg HS
  have HJ := Lib.hid (small_any (w1.heap.size + 1) 3 3 _ [A, B, C] _ rfl (rows3 c0 c1 c2 22 (HS1.out.2 (a0, A) (by simp)).1 (HS1.out.2 (a1, B) (by simp)).1 (HS1.out.2 (a2, C) (by simp)).1) (by decide) (fun i hi => by
    have h01 : i = 0 ∨ i = 1 ∨ i = 2 := by simp at hi; omega
    rcases h01 with rfl | rfl | rfl
    · exact (HS1.out.2 (a0, A) (by simp)).2
    · exact (HS1.out.2 (a1, B) (by simp)).2
    · exact (HS1.out.2 (a2, C) (by simp)).2))
  go_wp2_with fail
  refine HJ.out.mono ?_
  rintro e w2 ⟨b, rfl, rfl, _⟩
  have HS2 := Lib.hid (HS1.out.grow (gb_alloc (gb_refl _ none) (.cells #[.slice a0 A.length c0, .slice a1 B.length c1, .slice a2 C.length c2] 22))); clear HS1 HJ
  obtain ⟨W2, hW2⟩ : ∃ W2, W2 = w1.alloc (.cells #[.slice a0 A.length c0, .slice a1 B.length c1, .slice a2 C.length c2] 22) := ⟨_, rfl⟩
  rw [← hW2] at HS2 ⊢
  clear hW2
  cases b with
  | false =>
    go_wp2
    exact HQ.out _ HS2.out.1
  | true =>
    cases hA : rtB 0 A with
    | false =>
      have HJ := Lib.hid (st_isvec false c0 HS2 (a1 := a0) (l1 := A) (by simp) hA)
      go_wp2_with fail
      refine HJ.out.mono ?_
      rintro e w3 ⟨rfl, HS3⟩
      clear HJ HS2
      go_wp2
      exact HQ.out _ HS3.out.1
    | true =>
      have HJ := Lib.hid (st_isvec true c0 HS2 (a1 := a0) (l1 := A) (by simp) hA)
      go_wp2_with fail
      refine HJ.out.mono ?_
      rintro e w3 ⟨rfl, HS3⟩
      clear HJ HS2
      cases hB : rtB 0 B with
      | false =>
        have HJ := Lib.hid (st_isvec false c1 HS3 (a1 := a1) (l1 := B) (by simp) hB)
        go_wp2_with fail
        refine HJ.out.mono ?_
        rintro e w4 ⟨rfl, HS4⟩
        clear HJ HS3
        go_wp2
        exact HQ.out _ HS4.out.1
      | true =>
        have HJ := Lib.hid (st_isvec true c1 HS3 (a1 := a1) (l1 := B) (by simp) hB)
        go_wp2_with fail
        refine HJ.out.mono ?_
        rintro e w4 ⟨rfl, HS4⟩
        clear HJ HS3
        cases hC : rtB 0 C with
        | false =>
          have HJ := Lib.hid (st_isvec false c2 HS4 (a1 := a2) (l1 := C) (by simp) hC)
          go_wp2_with fail
          refine HJ.out.mono ?_
          rintro e w5 ⟨rfl, HS5⟩
          clear HJ HS4
          go_wp2
          exact HQ.out _ HS5.out.1
        | true =>
          have HJ := Lib.hid (st_isvec true c2 HS4 (a1 := a2) (l1 := C) (by simp) hC)
          go_wp2_with fail
          refine HJ.out.mono ?_
          rintro e w5 ⟨rfl, HS5⟩
          clear HJ HS4
          have HM := Lib.hid (latM ((rtB_iff _ _).1 hA) ((rtB_iff _ _).1 hB) ((rtB_iff _ _).1 hC))
          clear hA hB hC
          have HJ := Lib.hid (st_join2 c0 c1 HS5 (a1 := a0) (l1 := A) (a2 := a1) (l2 := B) (by simp) (by simp))
          go_wp2_with fail
          refine HJ.out.mono ?_
          rintro e w6 ⟨r6, d6, rfl, HS6⟩
          clear HJ HS5
          have HJ := Lib.hid (st_join2 c1 c2 HS6 (a1 := a1) (l1 := B) (a2 := a2) (l2 := C) (by simp) (by simp))
          go_wp2_with fail
          refine HJ.out.mono ?_
          rintro e w7 ⟨r7, d7, rfl, HS7⟩
          clear HJ HS6
          have HJ := Lib.hid (st_join3 c0 c1 c2 HS7 (a1 := a0) (l1 := A) (a2 := a1) (l2 := B) (a3 := a2) (l3 := C) (by simp) (by simp) (by simp))
          go_wp2_with fail
          refine HJ.out.mono ?_
          rintro e w8 ⟨r8, d8, rfl, HS8⟩
          clear HJ HS7
          have HJ := Lib.hid (st_isvec true d8 HS8 (a1 := r8) (l1 := (joinF [A, B, C])) (by simp) HM.out.rt)
          go_wp2_with fail
          refine HJ.out.mono ?_
          rintro e w9 ⟨rfl, HS9⟩
          clear HJ HS8
          have HJ := Lib.hid (st_join2 c1 c0 HS9 (a1 := a1) (l1 := B) (a2 := a0) (l2 := A) (by simp) (by simp))
          go_wp2_with fail
          refine HJ.out.mono ?_
          rintro e w10 ⟨r10, d10, rfl, HS10⟩
          clear HJ HS9
          have HJ := Lib.hid (st_same true d6 d10 HS10 (a1 := r6) (l1 := (joinF [A, B])) (a2 := r10) (l2 := (joinF [B, A])) (by simp) (by simp) HM.out.com)
          go_wp2_with fail
          refine HJ.out.mono ?_
          rintro e w11 ⟨rfl, HS11⟩
          clear HJ HS10
          have HJ := Lib.hid (st_join2 d6 c2 HS11 (a1 := r6) (l1 := (joinF [A, B])) (a2 := a2) (l2 := C) (by simp) (by simp))
          go_wp2_with fail
          refine HJ.out.mono ?_
          rintro e w12 ⟨r12, d12, rfl, HS12⟩
          clear HJ HS11
          have HJ := Lib.hid (st_same true d12 d8 HS12 (a1 := r12) (l1 := (joinF [(joinF [A, B]), C])) (a2 := r8) (l2 := (joinF [A, B, C])) (by simp) (by simp) HM.out.as1)
          go_wp2_with fail
          refine HJ.out.mono ?_
          rintro e w13 ⟨rfl, HS13⟩
          clear HJ HS12
          have HJ := Lib.hid (st_join2 c0 d7 HS13 (a1 := a0) (l1 := A) (a2 := r7) (l2 := (joinF [B, C])) (by simp) (by simp))
          go_wp2_with fail
          refine HJ.out.mono ?_
          rintro e w14 ⟨r14, d14, rfl, HS14⟩
          clear HJ HS13
          have HJ := Lib.hid (st_same true d14 d8 HS14 (a1 := r14) (l1 := (joinF [A, (joinF [B, C])])) (a2 := r8) (l2 := (joinF [A, B, C])) (by simp) (by simp) HM.out.as2)
          go_wp2_with fail
          refine HJ.out.mono ?_
          rintro e w15 ⟨rfl, HS15⟩
          clear HJ HS14
          have HJ := Lib.hid (st_join2 c0 c0 HS15 (a1 := a0) (l1 := A) (a2 := a0) (l2 := A) (by simp) (by simp))
          go_wp2_with fail
          refine HJ.out.mono ?_
          rintro e w16 ⟨r16, d16, rfl, HS16⟩
          clear HJ HS15
          have HJ := Lib.hid (st_same true d16 c0 HS16 (a1 := r16) (l1 := (joinF [A, A])) (a2 := a0) (l2 := A) (by simp) (by simp) HM.out.idm)
          go_wp2_with fail
          refine HJ.out.mono ?_
          rintro e w17 ⟨rfl, HS17⟩
          clear HJ HS16
          have HJ := Lib.hid (st_covers true d8 c0 HS17 (a1 := r8) (l1 := (joinF [A, B, C])) (a2 := a0) (l2 := A) (by simp) (by simp) HM.out.c1)
          go_wp2_with fail
          refine HJ.out.mono ?_
          rintro e w18 ⟨rfl, HS18⟩
          clear HJ HS17
          have HJ := Lib.hid (st_covers true d8 c1 HS18 (a1 := r8) (l1 := (joinF [A, B, C])) (a2 := a1) (l2 := B) (by simp) (by simp) HM.out.c2)
          go_wp2_with fail
          refine HJ.out.mono ?_
          rintro e w19 ⟨rfl, HS19⟩
          clear HJ HS18
          have HJ := Lib.hid (st_covers true d8 c2 HS19 (a1 := r8) (l1 := (joinF [A, B, C])) (a2 := a2) (l2 := C) (by simp) (by simp) HM.out.c3)
          go_wp2_with fail
          refine HJ.out.mono ?_
          rintro e w20 ⟨rfl, HS20⟩
          clear HJ HS19
          cases hx : cvB C A with
          | false =>
            have HX := Lib.hid hx; clear hx
            have HJ := Lib.hid (st_covers false c2 c0 HS20 (a1 := a2) (l1 := C) (a2 := a0) (l2 := A) (by simp) (by simp) HX.out)
            go_wp2_with fail
            refine HJ.out.mono ?_
            rintro e w21 ⟨rfl, HS21⟩
            clear HJ HS20
            cases hp : cvB A B with
            | false =>
              have he := HM.out.eq1
              rw [hp] at he
              have HE := Lib.hid he.symm; clear he
              have HP := Lib.hid hp; clear hp
              have HJ := Lib.hid (st_covers false c0 c1 HS21 (a1 := a0) (l1 := A) (a2 := a1) (l2 := B) (by simp) (by simp) HP.out)
              go_wp2_with fail
              refine HJ.out.mono ?_
              rintro e w22 ⟨rfl, HS22⟩
              clear HJ HS21
              have HJ := Lib.hid (st_same false d6 c0 HS22 (a1 := r6) (l1 := (joinF [A, B])) (a2 := a0) (l2 := A) (by simp) (by simp) HE.out)
              go_wp2_with fail
              refine HJ.out.mono ?_
              rintro e w23 ⟨rfl, HS23⟩
              clear HJ HS22
              have he := HM.out.eq2
              rw [HP.out] at he
              have HE2 := Lib.hid he.symm; clear he
              have HJ := Lib.hid (st_covers false c0 c1 HS23 (a1 := a0) (l1 := A) (a2 := a1) (l2 := B) (by simp) (by simp) HP.out)
              go_wp2_with fail
              refine HJ.out.mono ?_
              rintro e w24 ⟨rfl, HS24⟩
              clear HJ HS23
              have HJ := Lib.hid (st_same false c0 c1 HS24 (a1 := a0) (l1 := A) (a2 := a1) (l2 := B) (by simp) (by simp) HE2.out)
              go_wp2_with fail
              refine HJ.out.mono ?_
              rintro e w25 ⟨rfl, HS25⟩
              clear HJ HS24
              go_wp2
              exact HQ.out _ HS25.out.1
            | true =>
              have he := HM.out.eq1
              rw [hp] at he
              have HE := Lib.hid he.symm; clear he
              have HP := Lib.hid hp; clear hp
              have HJ := Lib.hid (st_covers true c0 c1 HS21 (a1 := a0) (l1 := A) (a2 := a1) (l2 := B) (by simp) (by simp) HP.out)
              go_wp2_with fail
              refine HJ.out.mono ?_
              rintro e w22 ⟨rfl, HS22⟩
              clear HJ HS21
              have HJ := Lib.hid (st_same true d6 c0 HS22 (a1 := r6) (l1 := (joinF [A, B])) (a2 := a0) (l2 := A) (by simp) (by simp) HE.out)
              go_wp2_with fail
              refine HJ.out.mono ?_
              rintro e w23 ⟨rfl, HS23⟩
              clear HJ HS22
              cases hr : cvB B A
              · have he := HM.out.eq2
                rw [HP.out, hr] at he
                have HE2 := Lib.hid he.symm; clear he
                have HR := Lib.hid hr; clear hr
                have HJ := Lib.hid (st_covers true c0 c1 HS23 (a1 := a0) (l1 := A) (a2 := a1) (l2 := B) (by simp) (by simp) HP.out)
                go_wp2_with fail
                refine HJ.out.mono ?_
                rintro e w24 ⟨rfl, HS24⟩
                clear HJ HS23
                have HJ := Lib.hid (st_covers false c1 c0 HS24 (a1 := a1) (l1 := B) (a2 := a0) (l2 := A) (by simp) (by simp) HR.out)
                go_wp2_with fail
                refine HJ.out.mono ?_
                rintro e w25 ⟨rfl, HS25⟩
                clear HJ HS24
                have HJ := Lib.hid (st_same false c0 c1 HS25 (a1 := a0) (l1 := A) (a2 := a1) (l2 := B) (by simp) (by simp) HE2.out)
                go_wp2_with fail
                refine HJ.out.mono ?_
                rintro e w26 ⟨rfl, HS26⟩
                clear HJ HS25
                go_wp2
                exact HQ.out _ HS26.out.1
              · have he := HM.out.eq2
                rw [HP.out, hr] at he
                have HE2 := Lib.hid he.symm; clear he
                have HR := Lib.hid hr; clear hr
                have HJ := Lib.hid (st_covers true c0 c1 HS23 (a1 := a0) (l1 := A) (a2 := a1) (l2 := B) (by simp) (by simp) HP.out)
                go_wp2_with fail
                refine HJ.out.mono ?_
                rintro e w24 ⟨rfl, HS24⟩
                clear HJ HS23
                have HJ := Lib.hid (st_covers true c1 c0 HS24 (a1 := a1) (l1 := B) (a2 := a0) (l2 := A) (by simp) (by simp) HR.out)
                go_wp2_with fail
                refine HJ.out.mono ?_
                rintro e w25 ⟨rfl, HS25⟩
                clear HJ HS24
                have HJ := Lib.hid (st_same true c0 c1 HS25 (a1 := a0) (l1 := A) (a2 := a1) (l2 := B) (by simp) (by simp) HE2.out)
                go_wp2_with fail
                refine HJ.out.mono ?_
                rintro e w26 ⟨rfl, HS26⟩
                clear HJ HS25
                go_wp2
                exact HQ.out _ HS26.out.1
          | true =>
            have HX := Lib.hid hx; clear hx
            have HJ := Lib.hid (st_covers true c2 c0 HS20 (a1 := a2) (l1 := C) (a2 := a0) (l2 := A) (by simp) (by simp) HX.out)
            go_wp2_with fail
            refine HJ.out.mono ?_
            rintro e w21 ⟨rfl, HS21⟩
            clear HJ HS20
            cases hy : cvB C B with
            | false =>
              have HY := Lib.hid hy; clear hy
              have HJ := Lib.hid (st_covers false c2 c1 HS21 (a1 := a2) (l1 := C) (a2 := a1) (l2 := B) (by simp) (by simp) HY.out)
              go_wp2_with fail
              refine HJ.out.mono ?_
              rintro e w22 ⟨rfl, HS22⟩
              clear HJ HS21
              cases hp : cvB A B with
              | false =>
                have he := HM.out.eq1
                rw [hp] at he
                have HE := Lib.hid he.symm; clear he
                have HP := Lib.hid hp; clear hp
                have HJ := Lib.hid (st_covers false c0 c1 HS22 (a1 := a0) (l1 := A) (a2 := a1) (l2 := B) (by simp) (by simp) HP.out)
                go_wp2_with fail
                refine HJ.out.mono ?_
                rintro e w23 ⟨rfl, HS23⟩
                clear HJ HS22
                have HJ := Lib.hid (st_same false d6 c0 HS23 (a1 := r6) (l1 := (joinF [A, B])) (a2 := a0) (l2 := A) (by simp) (by simp) HE.out)
                go_wp2_with fail
                refine HJ.out.mono ?_
                rintro e w24 ⟨rfl, HS24⟩
                clear HJ HS23
                have he := HM.out.eq2
                rw [HP.out] at he
                have HE2 := Lib.hid he.symm; clear he
                have HJ := Lib.hid (st_covers false c0 c1 HS24 (a1 := a0) (l1 := A) (a2 := a1) (l2 := B) (by simp) (by simp) HP.out)
                go_wp2_with fail
                refine HJ.out.mono ?_
                rintro e w25 ⟨rfl, HS25⟩
                clear HJ HS24
                have HJ := Lib.hid (st_same false c0 c1 HS25 (a1 := a0) (l1 := A) (a2 := a1) (l2 := B) (by simp) (by simp) HE2.out)
                go_wp2_with fail
                refine HJ.out.mono ?_
                rintro e w26 ⟨rfl, HS26⟩
                clear HJ HS25
                go_wp2
                exact HQ.out _ HS26.out.1
              | true =>
                have he := HM.out.eq1
                rw [hp] at he
                have HE := Lib.hid he.symm; clear he
                have HP := Lib.hid hp; clear hp
                have HJ := Lib.hid (st_covers true c0 c1 HS22 (a1 := a0) (l1 := A) (a2 := a1) (l2 := B) (by simp) (by simp) HP.out)
                go_wp2_with fail
                refine HJ.out.mono ?_
                rintro e w23 ⟨rfl, HS23⟩
                clear HJ HS22
                have HJ := Lib.hid (st_same true d6 c0 HS23 (a1 := r6) (l1 := (joinF [A, B])) (a2 := a0) (l2 := A) (by simp) (by simp) HE.out)
                go_wp2_with fail
                refine HJ.out.mono ?_
                rintro e w24 ⟨rfl, HS24⟩
                clear HJ HS23
                cases hr : cvB B A
                · have he := HM.out.eq2
                  rw [HP.out, hr] at he
                  have HE2 := Lib.hid he.symm; clear he
                  have HR := Lib.hid hr; clear hr
                  have HJ := Lib.hid (st_covers true c0 c1 HS24 (a1 := a0) (l1 := A) (a2 := a1) (l2 := B) (by simp) (by simp) HP.out)
                  go_wp2_with fail
                  refine HJ.out.mono ?_
                  rintro e w25 ⟨rfl, HS25⟩
                  clear HJ HS24
                  have HJ := Lib.hid (st_covers false c1 c0 HS25 (a1 := a1) (l1 := B) (a2 := a0) (l2 := A) (by simp) (by simp) HR.out)
                  go_wp2_with fail
                  refine HJ.out.mono ?_
                  rintro e w26 ⟨rfl, HS26⟩
                  clear HJ HS25
                  have HJ := Lib.hid (st_same false c0 c1 HS26 (a1 := a0) (l1 := A) (a2 := a1) (l2 := B) (by simp) (by simp) HE2.out)
                  go_wp2_with fail
                  refine HJ.out.mono ?_
                  rintro e w27 ⟨rfl, HS27⟩
                  clear HJ HS26
                  go_wp2
                  exact HQ.out _ HS27.out.1
                · have he := HM.out.eq2
                  rw [HP.out, hr] at he
                  have HE2 := Lib.hid he.symm; clear he
                  have HR := Lib.hid hr; clear hr
                  have HJ := Lib.hid (st_covers true c0 c1 HS24 (a1 := a0) (l1 := A) (a2 := a1) (l2 := B) (by simp) (by simp) HP.out)
                  go_wp2_with fail
                  refine HJ.out.mono ?_
                  rintro e w25 ⟨rfl, HS25⟩
                  clear HJ HS24
                  have HJ := Lib.hid (st_covers true c1 c0 HS25 (a1 := a1) (l1 := B) (a2 := a0) (l2 := A) (by simp) (by simp) HR.out)
                  go_wp2_with fail
                  refine HJ.out.mono ?_
                  rintro e w26 ⟨rfl, HS26⟩
                  clear HJ HS25
                  have HJ := Lib.hid (st_same true c0 c1 HS26 (a1 := a0) (l1 := A) (a2 := a1) (l2 := B) (by simp) (by simp) HE2.out)
                  go_wp2_with fail
                  refine HJ.out.mono ?_
                  rintro e w27 ⟨rfl, HS27⟩
                  clear HJ HS26
                  go_wp2
                  exact HQ.out _ HS27.out.1
            | true =>
              have HY := Lib.hid hy; clear hy
              have HJ := Lib.hid (st_covers true c2 c1 HS21 (a1 := a2) (l1 := C) (a2 := a1) (l2 := B) (by simp) (by simp) HY.out)
              go_wp2_with fail
              refine HJ.out.mono ?_
              rintro e w22 ⟨rfl, HS22⟩
              clear HJ HS21
              have HJ := Lib.hid (st_covers true c2 d6 HS22 (a1 := a2) (l1 := C) (a2 := r6) (l2 := (joinF [A, B])) (by simp) (by simp) (HM.out.least HX.out HY.out))
              go_wp2_with fail
              refine HJ.out.mono ?_
              rintro e w23 ⟨rfl, HS23⟩
              clear HJ HS22
              cases hp : cvB A B with
              | false =>
                have he := HM.out.eq1
                rw [hp] at he
                have HE := Lib.hid he.symm; clear he
                have HP := Lib.hid hp; clear hp
                have HJ := Lib.hid (st_covers false c0 c1 HS23 (a1 := a0) (l1 := A) (a2 := a1) (l2 := B) (by simp) (by simp) HP.out)
                go_wp2_with fail
                refine HJ.out.mono ?_
                rintro e w24 ⟨rfl, HS24⟩
                clear HJ HS23
                have HJ := Lib.hid (st_same false d6 c0 HS24 (a1 := r6) (l1 := (joinF [A, B])) (a2 := a0) (l2 := A) (by simp) (by simp) HE.out)
                go_wp2_with fail
                refine HJ.out.mono ?_
                rintro e w25 ⟨rfl, HS25⟩
                clear HJ HS24
                have he := HM.out.eq2
                rw [HP.out] at he
                have HE2 := Lib.hid he.symm; clear he
                have HJ := Lib.hid (st_covers false c0 c1 HS25 (a1 := a0) (l1 := A) (a2 := a1) (l2 := B) (by simp) (by simp) HP.out)
                go_wp2_with fail
                refine HJ.out.mono ?_
                rintro e w26 ⟨rfl, HS26⟩
                clear HJ HS25
                have HJ := Lib.hid (st_same false c0 c1 HS26 (a1 := a0) (l1 := A) (a2 := a1) (l2 := B) (by simp) (by simp) HE2.out)
                go_wp2_with fail
                refine HJ.out.mono ?_
                rintro e w27 ⟨rfl, HS27⟩
                clear HJ HS26
                go_wp2
                exact HQ.out _ HS27.out.1
              | true =>
                have he := HM.out.eq1
                rw [hp] at he
                have HE := Lib.hid he.symm; clear he
                have HP := Lib.hid hp; clear hp
                have HJ := Lib.hid (st_covers true c0 c1 HS23 (a1 := a0) (l1 := A) (a2 := a1) (l2 := B) (by simp) (by simp) HP.out)
                go_wp2_with fail
                refine HJ.out.mono ?_
                rintro e w24 ⟨rfl, HS24⟩
                clear HJ HS23
                have HJ := Lib.hid (st_same true d6 c0 HS24 (a1 := r6) (l1 := (joinF [A, B])) (a2 := a0) (l2 := A) (by simp) (by simp) HE.out)
                go_wp2_with fail
                refine HJ.out.mono ?_
                rintro e w25 ⟨rfl, HS25⟩
                clear HJ HS24
                cases hr : cvB B A
                · have he := HM.out.eq2
                  rw [HP.out, hr] at he
                  have HE2 := Lib.hid he.symm; clear he
                  have HR := Lib.hid hr; clear hr
                  have HJ := Lib.hid (st_covers true c0 c1 HS25 (a1 := a0) (l1 := A) (a2 := a1) (l2 := B) (by simp) (by simp) HP.out)
                  go_wp2_with fail
                  refine HJ.out.mono ?_
                  rintro e w26 ⟨rfl, HS26⟩
                  clear HJ HS25
                  have HJ := Lib.hid (st_covers false c1 c0 HS26 (a1 := a1) (l1 := B) (a2 := a0) (l2 := A) (by simp) (by simp) HR.out)
                  go_wp2_with fail
                  refine HJ.out.mono ?_
                  rintro e w27 ⟨rfl, HS27⟩
                  clear HJ HS26
                  have HJ := Lib.hid (st_same false c0 c1 HS27 (a1 := a0) (l1 := A) (a2 := a1) (l2 := B) (by simp) (by simp) HE2.out)
                  go_wp2_with fail
                  refine HJ.out.mono ?_
                  rintro e w28 ⟨rfl, HS28⟩
                  clear HJ HS27
                  go_wp2
                  exact HQ.out _ HS28.out.1
                · have he := HM.out.eq2
                  rw [HP.out, hr] at he
                  have HE2 := Lib.hid he.symm; clear he
                  have HR := Lib.hid hr; clear hr
                  have HJ := Lib.hid (st_covers true c0 c1 HS25 (a1 := a0) (l1 := A) (a2 := a1) (l2 := B) (by simp) (by simp) HP.out)
                  go_wp2_with fail
                  refine HJ.out.mono ?_
                  rintro e w26 ⟨rfl, HS26⟩
                  clear HJ HS25
                  have HJ := Lib.hid (st_covers true c1 c0 HS26 (a1 := a1) (l1 := B) (a2 := a0) (l2 := A) (by simp) (by simp) HR.out)
                  go_wp2_with fail
                  refine HJ.out.mono ?_
                  rintro e w27 ⟨rfl, HS27⟩
                  clear HJ HS26
                  have HJ := Lib.hid (st_same true c0 c1 HS27 (a1 := a0) (l1 := A) (a2 := a1) (l2 := B) (by simp) (by simp) HE2.out)
                  go_wp2_with fail
                  refine HJ.out.mono ?_
                  rintro e w28 ⟨rfl, HS28⟩
                  clear HJ HS27
                  go_wp2
                  exact HQ.out _ HS28.out.1
end Ve
end Go.Proofs.Ytkffbaihknhefaa
