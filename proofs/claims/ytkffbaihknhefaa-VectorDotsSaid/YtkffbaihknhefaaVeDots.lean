/- VectorDots (P7.1, P7.2): the walk. (Printed by gen_dots.py.) -/
import Derived.Test.YtkffbaihknhefaaVeDotsM
namespace Go.Proofs.Ytkffbaihknhefaa
open Go.RowKit Ve
namespace Ve
set_option maxHeartbeats 4000000 in
set_option maxRecDepth 100000 in
theorem dots7_any (c0 : Nat) (a0 : Option Addr) (V : List D) (x y x2 y2 : Int) (w : World) (hS : ST w [(a0, V)] w) :
    Calls Try.prog 6 #[.slice a0 V.length c0, .agg #[iV x, iV y], .agg #[iV x2, iV y2]] w (LawOut w) := by
  obtain ⟨W0, hW0⟩ : ∃ W0, W0 = (w.alloc (.cells #[iV x, iV y] 24)).alloc (.cells #[iV x2, iV y2] 24) := ⟨_, rfl⟩
  have HG0 : Hid (w.grownBy W0 none) := by rw [hW0]; exact gb_alloc (gb_alloc (gb_refl _ _) _) _
  have HS : Hid (ST W0 [(some ⟨w.heap.size + 1, 0, none⟩, [(x2, y2)]), (some ⟨w.heap.size, 0, none⟩, [(x, y)]), (a0, V)] W0) := by
    have h1 := st_one (Lib.hid hS) x y
    have h2 := st_one (Lib.hid h1) x2 y2
    rw [World.size_alloc] at h2
    rw [← hW0] at h2
    exact ⟨gb_refl _ _, h2.2⟩
  clear hS
  obtain ⟨Q, hQ⟩ : ∃ Q, Q = LawOut w := ⟨_, rfl⟩
  rw [← hQ]
  have HQ : Hid (∀ w', w.grownBy w' none → Q (.returned (.bool true)) w') := fun w' hg => by rw [hQ]; exact ⟨rfl, hg⟩
  clear hQ
  go_enter Try.func6, Try.ntmps6
  go_wp2_with fail
  rw [← hW0]
  clear hW0
  refine (awake7_any W0).mono ?_
  rintro e w0 ⟨rfl, hg⟩
  have HS0 := Lib.hid (HS.out.grow hg); clear hg HS
  have HJ := Lib.hid (st_small1 c0 HS0 (a1 := a0) (l1 := V) (by simp))
  go_wp2_with fail
  refine HJ.out.mono ?_
  rintro e w1 ⟨b, rfl, HS1⟩
  clear HJ HS0
  cases b with
  | false =>
    go_wp2
    exact HQ.out _ (gb_trans HG0.out HS1.out.1)
  | true =>
    cases hV : rtB 0 V with
    | false =>
      have HJ := Lib.hid (st_isvec false c0 HS1 (a1 := a0) (l1 := V) (by simp) hV)
      go_wp2_with fail
      refine HJ.out.mono ?_
      rintro e w2 ⟨rfl, HS2⟩
      clear HJ HS1
      go_wp2
      exact HQ.out _ (gb_trans HG0.out HS2.out.1)
    | true =>
      have HJ := Lib.hid (st_isvec true c0 HS1 (a1 := a0) (l1 := V) (by simp) hV)
      go_wp2_with fail
      refine HJ.out.mono ?_
      rintro e w2 ⟨rfl, HS2⟩
      clear HJ HS1
      cases hd : rtB 0 [(x, y)] with
      | false =>
        obtain ⟨m1, m2⟩ := st_cells HS2 (N := w.heap.size) (x := x) (y := y) (by simp)
        have HJ := Lib.hid (st_right1 false HS2 hd)
        go_wp2_with fail
        refine HJ.out.mono ?_
        rintro e w3 ⟨rfl, HS3⟩
        clear HJ HS2 m1 m2
        go_wp2
        exact HQ.out _ (gb_trans HG0.out HS3.out.1)
      | true =>
        obtain ⟨m1, m2⟩ := st_cells HS2 (N := w.heap.size) (x := x) (y := y) (by simp)
        have HJ := Lib.hid (st_right1 true HS2 hd)
        go_wp2_with fail
        refine HJ.out.mono ?_
        rintro e w3 ⟨rfl, HS3⟩
        clear HJ HS2 m1 m2
        cases ho : rtB 0 [(x2, y2)] with
        | false =>
          obtain ⟨m1, m2⟩ := st_cells HS3 (N := w.heap.size + 1) (x := x2) (y := y2) (by simp)
          have HJ := Lib.hid (st_right1 false HS3 ho)
          go_wp2_with fail
          refine HJ.out.mono ?_
          rintro e w4 ⟨rfl, HS4⟩
          clear HJ HS3 m1 m2
          go_wp2
          exact HQ.out _ (gb_trans HG0.out HS4.out.1)
        | true =>
          obtain ⟨m1, m2⟩ := st_cells HS3 (N := w.heap.size + 1) (x := x2) (y := y2) (by simp)
          have HJ := Lib.hid (st_right1 true HS3 ho)
          go_wp2_with fail
          refine HJ.out.mono ?_
          rintro e w4 ⟨rfl, HS4⟩
          clear HJ HS3 m1 m2
          have HM := Lib.hid (dotM ((rtB_iff _ _).1 hV) hd ho)
          clear hV hd ho
          obtain ⟨m1, m2⟩ := st_cells HS4 (N := w.heap.size) (x := x) (y := y) (by simp)
          have HJ := Lib.hid (st_add1 c0 HS4 (x := x) (y := y) (a1 := a0) (l1 := V) (by simp))
          go_wp2_with fail
          refine HJ.out.mono ?_
          rintro e w5 ⟨r5, d5, rfl, HS5⟩
          clear HJ HS4 m1 m2
          cases hh : hasB V (x2, y2) with
          | true =>
            have HB : Hid (hasB (addF V [(x, y)]) (x2, y2) = true) := by rw [HM.out.had, hh]; rfl
            have HH := Lib.hid hh; clear hh
            obtain ⟨m1, m2⟩ := st_cells HS5 (N := w.heap.size + 1) (x := x2) (y := y2) (by simp)
            have HJ := Lib.hid (st_has true c0 x2 y2 HS5 (a1 := a0) (l1 := V) (by simp) HH.out)
            go_wp2_with fail
            refine HJ.out.mono ?_
            rintro e w6 ⟨rfl, HS6⟩
            clear HJ HS5 m1 m2
            have HJ := Lib.hid (st_isvec true d5 HS6 (a1 := r5) (l1 := addF V [(x, y)]) (by simp) HM.out.rt)
            go_wp2_with fail
            refine HJ.out.mono ?_
            rintro e w7 ⟨rfl, HS7⟩
            clear HJ HS6
            obtain ⟨m1, m2⟩ := st_cells HS7 (N := w.heap.size) (x := x) (y := y) (by simp)
            have HJ := Lib.hid (st_has true d5 x y HS7 (a1 := r5) (l1 := addF V [(x, y)]) (by simp) HM.out.has)
            go_wp2_with fail
            refine HJ.out.mono ?_
            rintro e w8 ⟨rfl, HS8⟩
            clear HJ HS7 m1 m2
            obtain ⟨m1, m2⟩ := st_cells HS8 (N := w.heap.size + 1) (x := x2) (y := y2) (by simp)
            have HJ := Lib.hid (st_has true d5 x2 y2 HS8 (a1 := r5) (l1 := addF V [(x, y)]) (by simp) HB.out)
            go_wp2_with fail
            refine HJ.out.mono ?_
            rintro e w9 ⟨rfl, HS9⟩
            clear HJ HS8 m1 m2
            have HJ := Lib.hid (st_covers true d5 c0 HS9 (a1 := r5) (l1 := addF V [(x, y)]) (a2 := a0) (l2 := V) (by simp) (by simp) HM.out.cv)
            go_wp2_with fail
            refine HJ.out.mono ?_
            rintro e w10 ⟨rfl, HS10⟩
            clear HJ HS9
            go_wp2
            exact HQ.out _ (gb_trans HG0.out HS10.out.1)
          | false =>
            by_cases hx : x2 = x
            · by_cases hy : y2 ≤ y
              · have hb : hasB (addF V [(x, y)]) (x2, y2) = true := by rw [HM.out.had, hh]; simp [hx, hy]
                have HB := Lib.hid hb; clear hb
                have HH := Lib.hid hh; clear hh
                have hbx : (x2 == x) = true := by simp [hx]
                have HX := Lib.hid hx; clear hx
                have hby : decide (y2 ≤ y) = true := by simp [hy]
                have HY := Lib.hid hy; clear hy
                obtain ⟨m1, m2⟩ := st_cells HS5 (N := w.heap.size + 1) (x := x2) (y := y2) (by simp)
                have HJ := Lib.hid (st_has false c0 x2 y2 HS5 (a1 := a0) (l1 := V) (by simp) HH.out)
                go_wp2_with fail
                refine HJ.out.mono ?_
                rintro e w6 ⟨rfl, HS6⟩
                clear HJ HS5 m1 m2
                obtain ⟨m1, m2⟩ := st_cells HS6 (N := w.heap.size) (x := x) (y := y) (by simp)
                obtain ⟨m3, m4⟩ := st_cells HS6 (N := w.heap.size + 1) (x := x2) (y := y2) (by simp)
                have HJ := Lib.hid (st_isvec true d5 HS6 (a1 := r5) (l1 := addF V [(x, y)]) (by simp) HM.out.rt)
                go_wp2_with fail
                refine HJ.out.mono ?_
                rintro e w7 ⟨rfl, HS7⟩
                clear HJ HS6 m1 m2 m3 m4
                obtain ⟨m1, m2⟩ := st_cells HS7 (N := w.heap.size) (x := x) (y := y) (by simp)
                have HJ := Lib.hid (st_has true d5 x y HS7 (a1 := r5) (l1 := addF V [(x, y)]) (by simp) HM.out.has)
                go_wp2_with fail
                refine HJ.out.mono ?_
                rintro e w8 ⟨rfl, HS8⟩
                clear HJ HS7 m1 m2
                obtain ⟨m1, m2⟩ := st_cells HS8 (N := w.heap.size + 1) (x := x2) (y := y2) (by simp)
                have HJ := Lib.hid (st_has true d5 x2 y2 HS8 (a1 := r5) (l1 := addF V [(x, y)]) (by simp) HB.out)
                go_wp2_with fail
                refine HJ.out.mono ?_
                rintro e w9 ⟨rfl, HS9⟩
                clear HJ HS8 m1 m2
                have HJ := Lib.hid (st_covers true d5 c0 HS9 (a1 := r5) (l1 := addF V [(x, y)]) (a2 := a0) (l2 := V) (by simp) (by simp) HM.out.cv)
                go_wp2_with fail
                refine HJ.out.mono ?_
                rintro e w10 ⟨rfl, HS10⟩
                clear HJ HS9
                go_wp2
                exact HQ.out _ (gb_trans HG0.out HS10.out.1)
              · have hb : hasB (addF V [(x, y)]) (x2, y2) = false := by rw [HM.out.had, hh]; simp [hx, hy]
                have HB := Lib.hid hb; clear hb
                have HH := Lib.hid hh; clear hh
                have hbx : (x2 == x) = true := by simp [hx]
                have HX := Lib.hid hx; clear hx
                have hby : decide (y2 ≤ y) = false := by simp [hy]
                have HY := Lib.hid hy; clear hy
                obtain ⟨m1, m2⟩ := st_cells HS5 (N := w.heap.size + 1) (x := x2) (y := y2) (by simp)
                have HJ := Lib.hid (st_has false c0 x2 y2 HS5 (a1 := a0) (l1 := V) (by simp) HH.out)
                go_wp2_with fail
                refine HJ.out.mono ?_
                rintro e w6 ⟨rfl, HS6⟩
                clear HJ HS5 m1 m2
                obtain ⟨m1, m2⟩ := st_cells HS6 (N := w.heap.size) (x := x) (y := y) (by simp)
                obtain ⟨m3, m4⟩ := st_cells HS6 (N := w.heap.size + 1) (x := x2) (y := y2) (by simp)
                have HJ := Lib.hid (st_isvec true d5 HS6 (a1 := r5) (l1 := addF V [(x, y)]) (by simp) HM.out.rt)
                go_wp2_with fail
                refine HJ.out.mono ?_
                rintro e w7 ⟨rfl, HS7⟩
                clear HJ HS6 m1 m2 m3 m4
                obtain ⟨m1, m2⟩ := st_cells HS7 (N := w.heap.size) (x := x) (y := y) (by simp)
                have HJ := Lib.hid (st_has true d5 x y HS7 (a1 := r5) (l1 := addF V [(x, y)]) (by simp) HM.out.has)
                go_wp2_with fail
                refine HJ.out.mono ?_
                rintro e w8 ⟨rfl, HS8⟩
                clear HJ HS7 m1 m2
                obtain ⟨m1, m2⟩ := st_cells HS8 (N := w.heap.size + 1) (x := x2) (y := y2) (by simp)
                have HJ := Lib.hid (st_has false d5 x2 y2 HS8 (a1 := r5) (l1 := addF V [(x, y)]) (by simp) HB.out)
                go_wp2_with fail
                refine HJ.out.mono ?_
                rintro e w9 ⟨rfl, HS9⟩
                clear HJ HS8 m1 m2
                have HJ := Lib.hid (st_covers true d5 c0 HS9 (a1 := r5) (l1 := addF V [(x, y)]) (a2 := a0) (l2 := V) (by simp) (by simp) HM.out.cv)
                go_wp2_with fail
                refine HJ.out.mono ?_
                rintro e w10 ⟨rfl, HS10⟩
                clear HJ HS9
                go_wp2
                exact HQ.out _ (gb_trans HG0.out HS10.out.1)
            · have hb : hasB (addF V [(x, y)]) (x2, y2) = false := by rw [HM.out.had, hh]; simp [hx]
              have HB := Lib.hid hb; clear hb
              have HH := Lib.hid hh; clear hh
              have hbx : (x2 == x) = false := by simp [hx]
              have HX := Lib.hid hx; clear hx
              obtain ⟨m1, m2⟩ := st_cells HS5 (N := w.heap.size + 1) (x := x2) (y := y2) (by simp)
              have HJ := Lib.hid (st_has false c0 x2 y2 HS5 (a1 := a0) (l1 := V) (by simp) HH.out)
              go_wp2_with fail
              refine HJ.out.mono ?_
              rintro e w6 ⟨rfl, HS6⟩
              clear HJ HS5 m1 m2
              obtain ⟨m1, m2⟩ := st_cells HS6 (N := w.heap.size) (x := x) (y := y) (by simp)
              obtain ⟨m3, m4⟩ := st_cells HS6 (N := w.heap.size + 1) (x := x2) (y := y2) (by simp)
              have HJ := Lib.hid (st_isvec true d5 HS6 (a1 := r5) (l1 := addF V [(x, y)]) (by simp) HM.out.rt)
              go_wp2_with fail
              refine HJ.out.mono ?_
              rintro e w7 ⟨rfl, HS7⟩
              clear HJ HS6 m1 m2 m3 m4
              obtain ⟨m1, m2⟩ := st_cells HS7 (N := w.heap.size) (x := x) (y := y) (by simp)
              have HJ := Lib.hid (st_has true d5 x y HS7 (a1 := r5) (l1 := addF V [(x, y)]) (by simp) HM.out.has)
              go_wp2_with fail
              refine HJ.out.mono ?_
              rintro e w8 ⟨rfl, HS8⟩
              clear HJ HS7 m1 m2
              obtain ⟨m1, m2⟩ := st_cells HS8 (N := w.heap.size + 1) (x := x2) (y := y2) (by simp)
              have HJ := Lib.hid (st_has false d5 x2 y2 HS8 (a1 := r5) (l1 := addF V [(x, y)]) (by simp) HB.out)
              go_wp2_with fail
              refine HJ.out.mono ?_
              rintro e w9 ⟨rfl, HS9⟩
              clear HJ HS8 m1 m2
              have HJ := Lib.hid (st_covers true d5 c0 HS9 (a1 := r5) (l1 := addF V [(x, y)]) (a2 := a0) (l2 := V) (by simp) (by simp) HM.out.cv)
              go_wp2_with fail
              refine HJ.out.mono ?_
              rintro e w10 ⟨rfl, HS10⟩
              clear HJ HS9
              go_wp2
              exact HQ.out _ (gb_trans HG0.out HS10.out.1)
end Ve
end Go.Proofs.Ytkffbaihknhefaa
