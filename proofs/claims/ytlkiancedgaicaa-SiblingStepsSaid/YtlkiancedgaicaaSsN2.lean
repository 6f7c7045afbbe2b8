/- texts merged, part 2: XSbSteps -/
import Derived.Test.YtlkiancedgaicaaSsN1
/- The law on Join in steps. -/
namespace Go.Proofs.Ytlkiancedgaicaa
open Go.RowKit Ow Wi Ve Rc
namespace Sb
set_option linter.unusedSimpArgs false
set_option maxRecDepth 100000 in
set_option maxHeartbeats 8000000 in
theorem ssteps_any (a0 a1 a2 : Option Addr) (n m q cap0 cap1 cap2 : Nat) (A B C : List E) (W : World) (hn : A.length = n) (hm : B.length = m) (hq : C.length = q) (hA : RRow W W.heap.size a0 A) (hB : RRow W W.heap.size a1 B) (hC : RRow W W.heap.size a2 C) (rA : a0 = none → cap0 = 0) (rB : a1 = none → cap1 = 0) (rC : a2 = none → cap2 = 0) (hn2 : n < 9223372036854775808) (hm2 : m < 9223372036854775808) (hq2 : q < 9223372036854775808) (fA : ∀ x ∈ A, Fits x) (fB : ∀ x ∈ B, Fits x) (fC : ∀ x ∈ C, Fits x) :
    Calls Try.prog 3 #[.slice a0 n cap0, .slice a1 m cap1, .slice a2 q cap2] W fun e w' => e = .returned (.bool true) ∧ W.grownBy w' none := by
  obtain ⟨Q, hQ⟩ : ∃ Q : Ending → World → Prop, Q = fun e w' => e = .returned (.bool true) ∧ W.grownBy w' none := ⟨_, rfl⟩
  rw [← hQ]
  have HQ : Hid (∀ w', W.grownBy w' none → Q (.returned (.bool true)) w') := fun w' hg => by rw [hQ]; exact ⟨rfl, hg⟩
  clear hQ
  have HW := Lib.hid (awake9_any W)
  have HL : Hid (A.length = n ∧ B.length = m ∧ C.length = q ∧ (a0 = none → cap0 = 0) ∧ (a1 = none → cap1 = 0) ∧ (a2 = none → cap2 = 0) ∧ RRow W W.heap.size a0 A ∧ RRow W W.heap.size a1 B ∧ RRow W W.heap.size a2 C) := ⟨hn, hm, hq, rA, rB, rC, hA, hB, hC⟩
  have HF : Hid ((∀ x ∈ A, Fits x) ∧ (∀ x ∈ B, Fits x) ∧ (∀ x ∈ C, Fits x)) := ⟨fA, fB, fC⟩
  clear hn hm hq hA hB hC rA rB rC fA fB fC
  go_enter Try.func3, Try.ntmps3
  go_wp2_with fail
  refine HW.out.mono ?_
  rintro e w1 ⟨rfl, hg1⟩
  have HG : Hid (Calls Try.prog 6 #[.slice (some ⟨w1.heap.size, 0, none⟩) 3 3] (w1.alloc (.cells #[.slice a0 n cap0, .slice a1 m cap1, .slice a2 q cap2] 22)) (fun e w' => ∃ b : Bool, e = .returned (.bool b) ∧ (b = false → Few [A, B, C]) ∧ w1.grownBy w' none)) := by
    have h := great_lits w1 22 [(a0, cap0, A), (a1, cap1, B), (a2, cap2, C)] 3 rfl (by decide) (by
      intro x hx; simp only [List.mem_cons, List.not_mem_nil, or_false] at hx
      rcases hx with rfl | rfl | rfl
      · exact ⟨(HL.out.2.2.2.2.2.2.1.stay hg1).full, HL.out.2.2.2.1⟩
      · exact ⟨(HL.out.2.2.2.2.2.2.2.1.stay hg1).full, HL.out.2.2.2.2.1⟩
      · exact ⟨(HL.out.2.2.2.2.2.2.2.2.stay hg1).full, HL.out.2.2.2.2.2.1⟩) (by
      intro x hx; simp only [List.mem_cons, List.not_mem_nil, or_false] at hx
      rcases hx with rfl | rfl | rfl
      · exact ⟨by rw [HL.out.1]; exact hn2, HF.out.1⟩
      · exact ⟨by rw [HL.out.2.1]; exact hm2, HF.out.2.1⟩
      · exact ⟨by rw [HL.out.2.2.1]; exact hq2, HF.out.2.2⟩)
    rw [show ([(a0, cap0, A), (a1, cap1, B), (a2, cap2, C)] : List (Option Addr × Nat × List E)).map (fun q => Value.slice q.1 q.2.2.length q.2.1) = [.slice a0 n cap0, .slice a1 m cap1, .slice a2 q cap2] from by simp only [List.map_cons, List.map_nil]; rw [HL.out.1, HL.out.2.1, HL.out.2.2.1]] at h
    exact h
  have HG1 := Lib.hid hg1; clear hg1 HW HF
  go_wp2_with fail
  refine HG.out.mono ?_
  rintro e w2 ⟨b, rfl, hb, hg2⟩
  have HG2 := Lib.hid (gb_trans HG1.out hg2); clear hg2 HG HG1
  cases b with
  | true =>
    have HE := Lib.hid (HQ.out _ HG2.out)
    go_wp2
    exact HE.out
  | false =>
    have HFew := Lib.hid (hb rfl); clear hb
    have hn3 : n ≤ 2500 := by have := (HFew.out A (by simp)).1; rw [HL.out.1] at this; exact this
    have hm3 : m ≤ 2500 := by have := (HFew.out B (by simp)).1; rw [HL.out.2.1] at this; exact this
    have hq3 : q ≤ 2500 := by have := (HFew.out C (by simp)).1; rw [HL.out.2.2.1] at this; exact this
    by_cases h60 : (60 : Int) < (n : Int) + (m : Int) + (q : Int)
    · have HE := Lib.hid (HQ.out _ HG2.out)
      go_wp2
      exact HE.out
    · have HE : Hid (Env W w2 [(a0, n, cap0, A), (a1, m, cap1, B), (a2, q, cap2, C)]) := ⟨HG2.out, fun p hp => by
        simp only [List.mem_cons, List.not_mem_nil, or_false] at hp
        rcases hp with rfl | rfl | rfl
        · exact ⟨HL.out.1, by show n ≤ 100000; omega, (HL.out.2.2.2.2.2.2.1.stay HG2.out).full, HL.out.2.2.2.1, (HFew.out A (by simp)).2⟩
        · exact ⟨HL.out.2.1, by show m ≤ 100000; omega, (HL.out.2.2.2.2.2.2.2.1.stay HG2.out).full, HL.out.2.2.2.2.1, (HFew.out B (by simp)).2⟩
        · exact ⟨HL.out.2.2.1, by show q ≤ 100000; omega, (HL.out.2.2.2.2.2.2.2.2.stay HG2.out).full, HL.out.2.2.2.2.2.1, (HFew.out C (by simp)).2⟩⟩
      clear HFew HL HG2
      have hga := gb_alloc (gb_refl w2 none) (.cells #[] 34)
      have jA := (HE.out.stay hga).at (a := a0) (n := n) (c := cap0) (l := A) (by simp)
      obtain ⟨v1, wA, hap1, ho1, hgA⟩ := append_recs (w2.alloc (.cells #[] 34)) w2.heap.size (w2.alloc (.cells #[] 34)).heap.size (.slice (some ⟨w2.heap.size, 0, none⟩) 0 0) [] a0 n cap0 A (own_none w2 0 rfl) jA.len jA.row jA.cap (by simp; omega) (by simp)
      have hgA' := gb_ownR hga (own_none w2 0 rfl) (Nat.le_refl _) hgA
      have jB := (HE.out.stay hgA').at (a := a1) (n := m) (c := cap1) (l := B) (by simp)
      obtain ⟨v2, wB, hap2, ho2, hgB⟩ := append_recs wA w2.heap.size wA.heap.size v1 ([] ++ A) a1 m cap1 B ho1 jB.len jB.row jB.cap (by rw [List.nil_append, jA.len]; omega) hgA'.size
      have hgB' := gb_ownR hgA' ho1 (Nat.le_refl _) hgB
      have jC := (HE.out.stay hgB').at (a := a2) (n := q) (c := cap2) (l := C) (by simp)
      obtain ⟨v3, wC, hap3, ho3, hgC⟩ := append_recs wB w2.heap.size wB.heap.size v2 ([] ++ A ++ B) a2 q cap2 C ho2 jC.len jC.row jC.cap (by rw [List.nil_append, List.length_append, jA.len, jB.len]; omega) hgB'.size
      have hgC' := gb_ownR hgB' ho2 (Nat.le_refl _) hgC
      rw [List.nil_append] at ho3 ho2
      obtain ⟨N, hN⟩ : ∃ N, (A ++ B ++ C).length = N := ⟨_, rfl⟩
      have hN2 : N = n + m + q := by rw [← hN, List.length_append, List.length_append, jA.len, jB.len, jC.len]
      have hall := env_all3 (HE.out.stay hgC') (a0 := a0) (n0 := n) (c0 := cap0) (l0 := A) (a1 := a1) (n1 := m) (c1 := cap1) (l1 := B) (a2 := a2) (n2 := q) (c2 := cap2) (l2 := C) (by simp) (by simp) (by simp)
      obtain ⟨al, cl, rfl, _, _, hrow⟩ := own_recs ho3 (fun x hx => (hall x hx).2)
      have hcap := own_cap ho3
      have HE2 : Hid (Env W wC [(al, N, cl, A ++ B ++ C), (a0, n, cap0, A), (a1, m, cap1, B), (a2, q, cap2, C)]) := (HE.out.stay hgC').add ⟨hN, by omega, hrow, hcap, fun x hx => (hall x hx).1⟩
      rw [hN] at hap3
      obtain ⟨l1, k1, rfl⟩ := own_shapeR ho1
      obtain ⟨l2, k2, rfl⟩ := own_shapeR ho2
      obtain ⟨N1, hN1⟩ : ∃ N1, ([] ++ A).length = N1 := ⟨_, rfl⟩
      obtain ⟨N2, hN2'⟩ : ∃ N2, (A ++ B).length = N2 := ⟨_, rfl⟩
      rw [hN1] at hap1 hap2
      rw [hN2'] at hap2 hap3
      have HAP := Lib.hid (And.intro hap1 (And.intro hap2 hap3))
      clear hN1 hN2'
      have HN : Hid (N = n + m + q ∧ ¬ (60 < N)) := ⟨hN2, by omega⟩
      have hN60 : N ≤ 60 := by omega
      clear hga jA jB jC hap1 hap2 hap3 ho1 ho2 ho3 hgA hgB hgC hgA' hgB' hgC' hN hN2 hall hrow hcap HE
      go_wp2_with (at_builtin; first | refine Lib.wpList_append_run _ rfl (.tmp 43) (.tmp 44) 22 22 rfl _ _ rfl rfl _ _ HAP.out.1 ?_ | refine Lib.wpList_append_run _ rfl (.tmp 45) (.tmp 46) 22 22 rfl _ _ rfl rfl _ _ HAP.out.2.1 ?_ | refine Lib.wpList_append_run _ rfl (.tmp 47) (.tmp 48) 22 22 rfl _ _ rfl rfl _ _ HAP.out.2.2 ?_)
      have hJ := env_row3 HE2.out a0 n cap0 A a1 m cap1 B a2 q cap2 C (by simp) (by simp) (by simp)
      refine hJ.mono ?_
      clear hJ
      rintro e w4 hj
      cases hal : alikeB (recs (A ++ B ++ C)) with
      | false =>
        obtain ⟨aj, cj, out, rfl, hro, hrow, hz, hsz, hg4⟩ := hj
        have hro2 : recs out = [] := by rw [hro]; unfold joinO; rw [hal]; rfl
        rw [hro2, hal, show errN false 4 = 4 from rfl]
        have HE4 := Lib.hid (HQ.out _ (HE2.out.stay hg4).1)
        clear hro hrow hz hsz hg4 hro2 hal HE2
        go_wp2
        exact HE4.out
      | true =>
        obtain ⟨aj, nj, cj, out, rfl, hro, hnj, he3⟩ := env_out HE2.out (env_all3 HE2.out (a0 := a0) (n0 := n) (c0 := cap0) (l0 := A) (a1 := a1) (n1 := m) (c1 := cap1) (l1 := B) (a2 := a2) (n2 := q) (c2 := cap2) (l2 := C) (by simp) (by simp) (by simp)) hal (by rw [(HE2.out.at (a := al) (n := N) (c := cl) (l := A ++ B ++ C) (by simp)).len]; omega) hj
        have HE3 := Lib.hid he3
        rw [(HE2.out.at (a := al) (n := N) (c := cl) (l := A ++ B ++ C) (by simp)).len] at hnj
        have HAL := Lib.hid hal
        have HRO := Lib.hid hro
        have HSUB : Hid (∀ F : List E, (∀ x ∈ F, x ∈ A ++ B ++ C) → alikeB (recs F) = true) := fun F hF => alike_sub hal fun x hx => by
          obtain ⟨y, hy, rfl⟩ := List.mem_map.1 hx
          exact List.mem_map.2 ⟨y, hF y hy, rfl⟩
        clear hj he3 hal hro HE2 HAP
        go_wp2_with fail
        have hJ := env_join3 HE3.out a2 q cap2 C a1 m cap1 B a0 n cap0 A (by simp) (by simp) (by simp) (HSUB.out _ (fun x hx => by simp only [List.mem_append] at *; rcases hx with (h | h) | h <;> simp [h])) (by omega)
        refine hJ.mono ?_
        clear hJ
        rintro e w5 ⟨ak, nk, ck, out2, rfl, hro2, hnk, he4⟩
        have HE4 := Lib.hid he4
        have HRO2 : Hid (recs out = recs out2) := by
          show recs out = recs out2
          rw [HRO.out, hro2, recs_app, recs_app, recs_app, recs_app]
          rw [steps_turned (a := recs A) (b := recs B) (c := recs C) (by have := HAL.out; rw [recs_app, recs_app] at this; exact this)]
        clear he4 hro2 hnk HE3
        go_wp2_with fail
        have hS := env_same HE4.out aj nj cj out ak nk ck out2 (by simp) (by simp) HRO2.out
        refine hS.mono ?_
        clear hS
        rintro e w6 ⟨rfl, he5⟩
        have HE5 := Lib.hid he5
        clear he5 HE4 HRO2
        go_wp2_with fail
        have hS := env_right HE5.out aj nj cj out (by simp) (by rw [HRO.out]; exact join_set HAL.out)
        refine hS.mono ?_
        clear hS
        rintro e w7 ⟨rfl, he6⟩
        have HE6 := Lib.hid he6
        clear he6 HE5
        go_wp2_with fail
        have jl := HE6.out.at (a := al) (n := N) (c := cl) (l := A ++ B ++ C) (by simp)
        refine (tame_any w7.heap.size N cl al (A ++ B ++ C) w7 jl.len jl.row (by omega)).mono ?_
        clear jl
        rintro e w8 ⟨b, rfl, hb, hg8⟩
        have HE7 := Lib.hid (HE6.out.stay hg8)
        clear hg8 HE6
        cases b with
        | false =>
          have HE8 := Lib.hid (HQ.out _ HE7.out.1)
          go_wp2
          exact HE8.out
        | true =>
          have HT := Lib.hid (hb rfl)
          clear hb
          have HT3 : Hid (alikeB (recs A ++ recs B ++ recs C) = true ∧ Tame (recs A ++ recs B ++ recs C)) := by
            have h1 := HAL.out
            have h2 := HT.out
            rw [recs_app, recs_app] at h1 h2
            exact ⟨h1, h2⟩
          go_wp2_with fail
          have hJ := env_join2 HE7.out a0 n cap0 A a1 m cap1 B (by simp) (by simp) (HSUB.out _ (fun x hx => by simp only [List.mem_append] at *; rcases hx with h | h <;> simp [h])) (by omega)
          refine hJ.mono ?_
          clear hJ
          rintro e w9 ⟨a5, n5, c5, out5, rfl, hro5, hn5, he8⟩
          have HE8 := Lib.hid he8
          have HR5 := Lib.hid hro5
          rw [List.length_append, (HE7.out.at (a := a0) (n := n) (c := cap0) (l := A) (by simp)).len, (HE7.out.at (a := a1) (n := m) (c := cap1) (l := B) (by simp)).len] at hn5
          clear he8 hro5 HE7
          go_wp2_with fail
          have hJ := env_join2 HE8.out a2 q cap2 C a1 m cap1 B (by simp) (by simp) (HSUB.out _ (fun x hx => by simp only [List.mem_append] at *; rcases hx with h | h <;> simp [h])) (by omega)
          refine hJ.mono ?_
          clear hJ
          rintro e w10 ⟨a6, n6, c6, out6, rfl, hro6, hn6, he9⟩
          have HE9 := Lib.hid he9
          have HR6 := Lib.hid hro6
          rw [List.length_append, (HE8.out.at (a := a2) (n := q) (c := cap2) (l := C) (by simp)).len, (HE8.out.at (a := a1) (n := m) (c := cap1) (l := B) (by simp)).len] at hn6
          clear he9 hro6 HE8
          have HAB : Hid (∀ x ∈ recs out5, x ∈ recs A ++ recs B ++ recs C) := fun x hx => by
            rw [HR5.out] at hx
            have := join_sub hx
            rw [recs_app] at this
            exact List.mem_append_left _ this
          have HBC : Hid (∀ x ∈ recs out6, x ∈ recs A ++ recs B ++ recs C) := fun x hx => by
            rw [HR6.out] at hx
            have := join_sub hx
            rw [recs_app] at this
            simp only [List.mem_append] at *
            rcases this with h | h <;> simp [h]
          go_wp2_with fail
          have hJ := env_join2 HE9.out a5 n5 c5 out5 a2 q cap2 C (by simp) (by simp) (by
            rw [recs_app]
            exact alike_sub HT3.out.1 fun x hx => (List.mem_append.1 hx).elim (HAB.out x) (fun h => List.mem_append_right _ h)) (by omega)
          refine hJ.mono ?_
          clear hJ
          rintro e w11 ⟨a7, n7, c7, out7, rfl, hro7, hn7, he10⟩
          have HE10 := Lib.hid he10
          have HR7 : Hid (recs out7 = recs out) := by
            show recs out7 = recs out
            rw [hro7, recs_app, HR5.out, HRO.out, recs_app, recs_app, recs_app]
            exact steps_left HT3.out.1 HT3.out.2
          clear he10 hro7 hn7 HE9
          go_wp2_with fail
          have hJ := env_join2 HE10.out a0 n cap0 A a6 n6 c6 out6 (by simp) (by simp) (by
            rw [recs_app]
            exact alike_sub HT3.out.1 fun x hx => (List.mem_append.1 hx).elim (fun h => List.mem_append_left _ (List.mem_append_left _ h)) (HBC.out x)) (by omega)
          refine hJ.mono ?_
          clear hJ
          rintro e w12 ⟨a8, n8, c8, out8, rfl, hro8, hn8, he11⟩
          have HE11 := Lib.hid he11
          have HR8 : Hid (recs out8 = recs out) := by
            show recs out8 = recs out
            rw [hro8, recs_app, HR6.out, HRO.out, recs_app, recs_app, recs_app]
            exact steps_right HT3.out.1 HT3.out.2
          clear he11 hro8 hn8 HE10 HAB HBC
          go_wp2_with fail
          have hJ := env_join2 HE11.out aj nj cj out al N cl (A ++ B ++ C) (by simp) (by simp) (by
            rw [recs_app]
            exact alike_sub HAL.out fun x hx => (List.mem_append.1 hx).elim (fun h => by rw [HRO.out] at h; exact join_sub h) id) (by omega)
          refine hJ.mono ?_
          clear hJ
          rintro e w13 ⟨a9, n9, c9, out9, rfl, hro9, hn9, he12⟩
          have HE12 := Lib.hid he12
          have HR9 : Hid (recs out9 = recs out) := by
            show recs out9 = recs out
            rw [hro9, recs_app, HRO.out]
            exact steps_again HAL.out HT.out
          clear he12 hro9 hn9 HE11
          go_wp2_with fail
          refine (env_same HE12.out a7 n7 c7 out7 aj nj cj out (by simp) (by simp) HR7.out).mono ?_
          rintro e w14 ⟨rfl, he13⟩
          have HE13 := Lib.hid he13
          clear he13 HE12
          go_wp2_with fail
          refine (env_same HE13.out a8 n8 c8 out8 aj nj cj out (by simp) (by simp) HR8.out).mono ?_
          rintro e w15 ⟨rfl, he14⟩
          have HE14 := Lib.hid he14
          clear he14 HE13
          go_wp2_with fail
          refine (env_same HE14.out a9 n9 c9 out9 aj nj cj out (by simp) (by simp) HR9.out).mono ?_
          rintro e wE ⟨rfl, he15⟩
          have HX : Hid (J wE aj nj cj out ∧ J wE al N cl (A ++ B ++ C) ∧ W.grownBy wE none) := ⟨he15.at (by simp), he15.at (by simp), he15.1⟩
          clear he15 HE14 HR5 HR6 HR7 HR8 HR9 HT3 HSUB
          go_wp2_with fail
          go_loopw [22] (fun i wr => ∃ (k : Nat), k ≤ N ∧ i = .int .i64 k ∧ Hid (wE.grownBy wr none)) (fun i _ => N - (intOf i).toNat)
          case atStart => exact ⟨0, by omega, rfl, gb_refl _ _⟩
          case round =>
            obtain ⟨k, hk, rfl, HI⟩ := hrel
            by_cases hlt : k < N
            · have hki : (k : Int) < (N : Int) := by omega
              obtain ⟨qb, qo, rfl, hqb, hds⟩ := HX.out.2.1.row.at (by rw [HX.out.2.1.len]; omega)
              have HDS := Lib.hid hds; clear hds
              go_wp2_with fail
              go_loopw [23, 24] (fun o j w3 => ∃ (jn : Nat) (ob : Bool), jn ≤ nj ∧ j = .int .i64 jn ∧ o = .bool ob ∧ Hid (wE.grownBy w3 none ∧ (ob = false → ∀ i, i < jn → overB (out.getD i e0).2 ((A ++ B ++ C).getD k e0).2 = false ∧ sameB (out.getD i e0).2 ((A ++ B ++ C).getD k e0).2 = false))) (fun _ j _ => nj - (intOf j).toNat)
              case atStart => exact ⟨0, false, by omega, rfl, rfl, HI.out, fun _ i hi => absurd hi (by omega)⟩
              case round =>
                obtain ⟨jn, ob, hj, rfl, rfl, HJ⟩ := hrel
                by_cases hjl : jn < nj
                · have HIX : Hid ((jn : Int) < (nj : Int) ∧ (k : Int) < (N : Int)) := ⟨by omega, by omega⟩
                  have hji : (jn : Int) < (nj : Int) := by omega
                  obtain ⟨pb, po, rfl, hpb, hcs⟩ := HX.out.1.row.at (by rw [HX.out.1.len]; omega)
                  obtain ⟨zO, hO⟩ : ∃ z, overB (out.getD jn e0).2 ((A ++ B ++ C).getD k e0).2 = z := ⟨_, rfl⟩
                  obtain ⟨zS, hS⟩ : ∃ z, sameB (out.getD jn e0).2 ((A ++ B ++ C).getD k e0).2 = z := ⟨_, rfl⟩
                  have hx := Cells7.stay (hcs jn (by rw [HX.out.1.len]; exact hjl)) HJ.out.1
                  have hy := Cells7.stay (HDS.out k (by rw [HX.out.2.1.len]; exact hlt)) HJ.out.1
                  have hrx := HX.out.1.row.recs _ (getD_mem (l := out) (i := jn) (by rw [HX.out.1.len]; exact hjl))
                  have hry := HX.out.2.1.row.recs _ (getD_mem (l := A ++ B ++ C) (i := k) (by rw [HX.out.2.1.len]; exact hlt))
                  have HK : Hid ((ob || zO || zS) = false → ∀ i, i < jn + 1 → overB (out.getD i e0).2 ((A ++ B ++ C).getD k e0).2 = false ∧ sameB (out.getD i e0).2 ((A ++ B ++ C).getD k e0).2 = false) := by
                    intro h i hi
                    simp only [Bool.or_eq_false_iff] at h
                    rcases (by omega : i < jn ∨ i = jn) with hi | rfl
                    · exact HJ.out.2 h.1.1 i hi
                    · exact ⟨hO.trans h.1.2, hS.trans h.2⟩
                  have ho := fun w' (hg : wE.grownBy w' none) => rover_any (out.getD jn e0).2 ((A ++ B ++ C).getD k e0).2 wE.heap.size wE.heap.size w' _ _ (hrx.stay hg) (hry.stay hg)
                  have hs := fun w' (hg : wE.grownBy w' none) => sameRec_any (out.getD jn e0).2 ((A ++ B ++ C).getD k e0).2 wE.heap.size wE.heap.size w' _ _ (hrx.stay hg) (hry.stay hg)
                  rw [hO] at ho
                  rw [hS] at hs
                  clear hrx hry hO hS hcs
                  obtain ⟨x, hxe⟩ : ∃ x, x = out.getD jn e0 := ⟨_, rfl⟩
                  obtain ⟨y, hye⟩ : ∃ y, y = (A ++ B ++ C).getD k e0 := ⟨_, rfl⟩
                  simp only [← hxe, ← hye] at hx hy ho hs
                  clear hxe hye
                  obtain ⟨⟨rs, ra1, rn1, rd1, ra2, rn2, rd2, ra3, rn3, rd3⟩, ⟨rkey, rcl, rsq, rcx, rg, rval, rsig⟩⟩ := x
                  obtain ⟨⟨rs', ra1', rn1', rd1', ra2', rn2', rd2', ra3', rn3', rd3'⟩, ⟨rkey', rcl', rsq', rcx', rg', rval', rsig'⟩⟩ := y
                  have HXY := Lib.hid (And.intro (cells_of hx) (cells_of hy)); clear hx hy
                  have HO : Hid (∀ w', wE.grownBy w' none → Calls Try.prog 11 #[vV rs rcl rsq ra1 rn1 rd1 rg ra2 rn2 rd2 ra3 rn3 rd3, vV rs' rcl' rsq' ra1' rn1' rd1' rg' ra2' rn2' rd2' ra3' rn3' rd3'] w' fun e w'' => e = .returned (.bool zO) ∧ w'.grownBy w'' none) := ho
                  have HS : Hid (∀ w', wE.grownBy w' none → Calls Try.prog 12 #[vV rs rcl rsq ra1 rn1 rd1 rg ra2 rn2 rd2 ra3 rn3 rd3, vV rs' rcl' rsq' ra1' rn1' rd1' rg' ra2' rn2' rd2' ra3' rn3' rd3'] w' fun e w'' => e = .returned (.bool zS) ∧ w'.grownBy w'' none) := hs
                  clear ho hs
                  obtain ⟨zT, hzT⟩ : ∃ z, z = (ob || zO) := ⟨_, rfl⟩
                  rw [← hzT] at HK
                  obtain ⟨zV, hzV⟩ : ∃ z, z = (zT || zS) := ⟨_, rfl⟩
                  rw [← hzV] at HK
                  have HZT := Lib.hid hzT
                  have HZV := Lib.hid hzV
                  clear hzT hzV
                  obtain ⟨wv, hwv⟩ : ∃ wv, wv = wr := ⟨_, rfl⟩
                  have HG2 := Lib.hid HJ.out.1
                  rw [← hwv] at HXY HG2
                  clear HJ
                  go_wp2_with fail
                  rw [← hwv]
                  clear hwv hji
                  refine Fg.region_t [] [.any, .any, .any, .any, .any, .any, .any, .any, .any, .any, .any, .any, .any, .any, .any, .any, .any, .any, .any, .any, .any, .any, .any, .any, .any, .any, .any, .any, .any, .any, .any, .any, .any, .any, .any, .any, .any, .any, .any, .any, .any, .any, .any, .any, .any, .any, .any, .any, .any, .any, .any, .any, .any, .any, .any, .any, .any, .any, .any, .any, .any, .any, .any, .any, .any, .any, .any, .any, .any, .any, .any, .any, .any, .any, .any, .any, .any, .any, .any, .any, .any, .any, .any, .any, .any, .any, .any, .any, .any, .any, .any, .any, .any, .any, .any, .any, .any, .any, .any, .any, .any, .any, .any, .any, .any, .any, .any, .any, .any, .any, .any, .any, .any, .any, .any, .any, .any, .any, .any, .any, .any, .any, .any, .any, .any, .any, .any, .any, .any, .any, .any, .any, .any, .any, .any, .any, .any, .any, .any, .any, .any, .any, .any, .any, .any, .any, .any, .any, .any, .any, .any, .any, .any, .any, .any, .any, .any, .any, .any, .any, .any, .any, .any, .any, .any, .any, .any, .any, .any, .any, .val (Value.bool ob), .val (Value.bool ob), (cond ob (.val undef) (.val (Value.slice (some ⟨pb, po, none⟩) nj cj))), (cond ob (.val undef) (.val (Value.int .i64 jn))), (cond ob (.val undef) (.val (Value.pointer (some ⟨pb, po + jn * 7, none⟩)))), (cond ob (.val undef) (.val (vV rs rcl rsq ra1 rn1 rd1 rg ra2 rn2 rd2 ra3 rn3 rd3))), (cond ob (.val undef) (.val (Value.slice (some ⟨qb, qo, none⟩) N cl))), (cond ob (.val undef) (.val (Value.int .i64 k))), (cond ob (.val undef) (.val (Value.pointer (some ⟨qb, qo + k * 7, none⟩)))), (cond ob (.val undef) (.val (vV rs' rcl' rsq' ra1' rn1' rd1' rg' ra2' rn2' rd2' ra3' rn3' rd3'))), (cond ob (.val undef) (.val (Value.bool zO))), .val (Value.bool zT), .val (Value.bool zT), (cond zT (.val undef) (.val (Value.slice (some ⟨pb, po, none⟩) nj cj))), (cond zT (.val undef) (.val (Value.int .i64 jn))), (cond zT (.val undef) (.val (Value.pointer (some ⟨pb, po + jn * 7, none⟩)))), (cond zT (.val undef) (.val (vV rs rcl rsq ra1 rn1 rd1 rg ra2 rn2 rd2 ra3 rn3 rd3))), (cond zT (.val undef) (.val (Value.slice (some ⟨qb, qo, none⟩) N cl))), (cond zT (.val undef) (.val (Value.int .i64 k))), (cond zT (.val undef) (.val (Value.pointer (some ⟨qb, qo + k * 7, none⟩)))), (cond zT (.val undef) (.val (vV rs' rcl' rsq' ra1' rn1' rd1' rg' ra2' rn2' rd2' ra3' rn3' rd3'))), (cond zT (.val undef) (.val (Value.bool zS))), .val (Value.bool zV)] wv 23 (gb_refl _ _) (by kernel_rfl) (by kernel_rfl) (by kernel_rfl) (by kernel_rfl) (by decide) (by kernel_rfl) ?_ ?_
                  · refine ⟨Fg.vT rfl (by decide) fun ac w h => ?_, ?_⟩
                    · have e23 : ac.tmps.getD 23 undef = Value.bool ob := h.rest 23 (by kernel_rfl)
                      exact ⟨_, w, wants_none rfl, Fg.run_move rfl e23, gb_refl _ _, rfl⟩
                    refine ⟨Fg.vT rfl (by decide) fun ac w h => ?_, ?_⟩
                    · have e170 : ac.tmps.getD 170 undef = Value.bool ob := h.dep 170 (by kernel_rfl)
                      exact ⟨_, w, wants_none rfl, Fg.run_move rfl e170, gb_refl _ _, rfl⟩
                    refine ⟨?_, ?_⟩
                    · cases ob with
                      | false =>
                        refine Fg.vT rfl (by decide) fun ac w h => ?_
                        have e171 : ac.tmps.getD 171 undef = Value.bool false := h.dep 171 (by kernel_rfl)
                        have e8 : ac.tmps.getD 8 undef = Value.slice (some ⟨pb, po, none⟩) nj cj := h.rest 8 (by kernel_rfl)
                        exact ⟨_, w, wants_some (d := 171) rfl rfl (by rw [h.size]; show 171 < 195; decide) e171, Fg.run_move rfl e8, gb_refl _ _, rfl⟩
                      | true =>
                        refine Fg.sT rfl (by decide) (fun _ => rfl) fun ac w h => ?_
                        have e171 : ac.tmps.getD 171 undef = Value.bool true := h.dep 171 (by kernel_rfl)
                        exact not_wants (d := 171) rfl rfl (by rw [h.size]; show 171 < 195; decide) e171 (by decide)
                    refine ⟨?_, ?_⟩
                    · cases ob with
                      | false =>
                        refine Fg.vT rfl (by decide) fun ac w h => ?_
                        have e171 : ac.tmps.getD 171 undef = Value.bool false := h.dep 171 (by kernel_rfl)
                        have e24 : ac.tmps.getD 24 undef = Value.int .i64 jn := h.rest 24 (by kernel_rfl)
                        exact ⟨_, w, wants_some (d := 171) rfl rfl (by rw [h.size]; show 171 < 195; decide) e171, Fg.run_move rfl e24, gb_refl _ _, rfl⟩
                      | true =>
                        refine Fg.sT rfl (by decide) (fun _ => rfl) fun ac w h => ?_
                        have e171 : ac.tmps.getD 171 undef = Value.bool true := h.dep 171 (by kernel_rfl)
                        exact not_wants (d := 171) rfl rfl (by rw [h.size]; show 171 < 195; decide) e171 (by decide)
                    refine ⟨?_, ?_⟩
                    · cases ob with
                      | false =>
                        refine Fg.vT rfl (by decide) fun ac w h => ?_
                        have e171 : ac.tmps.getD 171 undef = Value.bool false := h.dep 171 (by kernel_rfl)
                        have e172 : ac.tmps.getD 172 undef = Value.slice (some ⟨pb, po, none⟩) nj cj := h.dep 172 (by kernel_rfl)
                        have e173 : ac.tmps.getD 173 undef = Value.int .i64 jn := h.dep 173 (by kernel_rfl)
                        have i0 : (jn : Int) < (nj : Int) := HIX.out.1
                        refine ⟨.pointer (some ⟨pb, po + jn * 7, none⟩), w, wants_some (d := 171) rfl rfl (by rw [h.size]; show 171 < 195; decide) e171, ?_, gb_refl _ _, rfl⟩
                        clear h
                        simp only [execOp, Act.eval, e172, e173]
                        go_simp
                      | true =>
                        refine Fg.sT rfl (by decide) (fun _ => rfl) fun ac w h => ?_
                        have e171 : ac.tmps.getD 171 undef = Value.bool true := h.dep 171 (by kernel_rfl)
                        exact not_wants (d := 171) rfl rfl (by rw [h.size]; show 171 < 195; decide) e171 (by decide)
                    refine ⟨?_, ?_⟩
                    · cases ob with
                      | false =>
                        refine Fg.vT rfl (by decide) fun ac w h => ?_
                        have e171 : ac.tmps.getD 171 undef = Value.bool false := h.dep 171 (by kernel_rfl)
                        have e174 : ac.tmps.getD 174 undef = Value.pointer (some ⟨pb, po + jn * 7, none⟩) := h.dep 174 (by kernel_rfl)
                        have m0 : w.cell? ⟨pb, po + jn * 7 , none⟩ = some (.string rs) := by rw [gb_cell h.base (block_lt_of_cell (HXY.out.1.1)) (by simp)]; exact HXY.out.1.1
                        have m1 : w.cell? ⟨pb, po + jn * 7 + 1, none⟩ = some (iV rcl) := by rw [gb_cell h.base (block_lt_of_cell (HXY.out.1.2.1)) (by simp)]; exact HXY.out.1.2.1
                        have m2 : w.cell? ⟨pb, po + jn * 7 + 2, none⟩ = some (iV rsq) := by rw [gb_cell h.base (block_lt_of_cell (HXY.out.1.2.2.1)) (by simp)]; exact HXY.out.1.2.2.1
                        have m3 : w.cell? ⟨pb, po + jn * 7 + 3, none⟩ = some (.slice ra1 rn1 rd1) := by rw [gb_cell h.base (block_lt_of_cell (HXY.out.1.2.2.2.1)) (by simp)]; exact HXY.out.1.2.2.2.1
                        have m4 : w.cell? ⟨pb, po + jn * 7 + 4, none⟩ = some (.bool rg) := by rw [gb_cell h.base (block_lt_of_cell (HXY.out.1.2.2.2.2.1)) (by simp)]; exact HXY.out.1.2.2.2.2.1
                        have m5 : w.cell? ⟨pb, po + jn * 7 + 5, none⟩ = some (.slice ra2 rn2 rd2) := by rw [gb_cell h.base (block_lt_of_cell (HXY.out.1.2.2.2.2.2.1)) (by simp)]; exact HXY.out.1.2.2.2.2.2.1
                        have m6 : w.cell? ⟨pb, po + jn * 7 + 6, none⟩ = some (.slice ra3 rn3 rd3) := by rw [gb_cell h.base (block_lt_of_cell (HXY.out.1.2.2.2.2.2.2)) (by simp)]; exact HXY.out.1.2.2.2.2.2.2
                        refine ⟨vV rs rcl rsq ra1 rn1 rd1 rg ra2 rn2 rd2 ra3 rn3 rd3, w, wants_some (d := 171) rfl rfl (by rw [h.size]; show 171 < 195; decide) e171, ?_, gb_refl _ _, rfl⟩
                        clear h
                        simp only [execOp, Act.eval, e174]
                        go_simp
                      | true =>
                        refine Fg.sT rfl (by decide) (fun _ => rfl) fun ac w h => ?_
                        have e171 : ac.tmps.getD 171 undef = Value.bool true := h.dep 171 (by kernel_rfl)
                        exact not_wants (d := 171) rfl rfl (by rw [h.size]; show 171 < 195; decide) e171 (by decide)
                    refine ⟨?_, ?_⟩
                    · cases ob with
                      | false =>
                        refine Fg.vT rfl (by decide) fun ac w h => ?_
                        have e171 : ac.tmps.getD 171 undef = Value.bool false := h.dep 171 (by kernel_rfl)
                        have e7 : ac.tmps.getD 7 undef = Value.slice (some ⟨qb, qo, none⟩) N cl := h.rest 7 (by kernel_rfl)
                        exact ⟨_, w, wants_some (d := 171) rfl rfl (by rw [h.size]; show 171 < 195; decide) e171, Fg.run_move rfl e7, gb_refl _ _, rfl⟩
                      | true =>
                        refine Fg.sT rfl (by decide) (fun _ => rfl) fun ac w h => ?_
                        have e171 : ac.tmps.getD 171 undef = Value.bool true := h.dep 171 (by kernel_rfl)
                        exact not_wants (d := 171) rfl rfl (by rw [h.size]; show 171 < 195; decide) e171 (by decide)
                    refine ⟨?_, ?_⟩
                    · cases ob with
                      | false =>
                        refine Fg.vT rfl (by decide) fun ac w h => ?_
                        have e171 : ac.tmps.getD 171 undef = Value.bool false := h.dep 171 (by kernel_rfl)
                        have e22 : ac.tmps.getD 22 undef = Value.int .i64 k := h.rest 22 (by kernel_rfl)
                        exact ⟨_, w, wants_some (d := 171) rfl rfl (by rw [h.size]; show 171 < 195; decide) e171, Fg.run_move rfl e22, gb_refl _ _, rfl⟩
                      | true =>
                        refine Fg.sT rfl (by decide) (fun _ => rfl) fun ac w h => ?_
                        have e171 : ac.tmps.getD 171 undef = Value.bool true := h.dep 171 (by kernel_rfl)
                        exact not_wants (d := 171) rfl rfl (by rw [h.size]; show 171 < 195; decide) e171 (by decide)
                    refine ⟨?_, ?_⟩
                    · cases ob with
                      | false =>
                        refine Fg.vT rfl (by decide) fun ac w h => ?_
                        have e171 : ac.tmps.getD 171 undef = Value.bool false := h.dep 171 (by kernel_rfl)
                        have e176 : ac.tmps.getD 176 undef = Value.slice (some ⟨qb, qo, none⟩) N cl := h.dep 176 (by kernel_rfl)
                        have e177 : ac.tmps.getD 177 undef = Value.int .i64 k := h.dep 177 (by kernel_rfl)
                        have i0 : (k : Int) < (N : Int) := HIX.out.2
                        refine ⟨.pointer (some ⟨qb, qo + k * 7, none⟩), w, wants_some (d := 171) rfl rfl (by rw [h.size]; show 171 < 195; decide) e171, ?_, gb_refl _ _, rfl⟩
                        clear h
                        simp only [execOp, Act.eval, e176, e177]
                        go_simp
                      | true =>
                        refine Fg.sT rfl (by decide) (fun _ => rfl) fun ac w h => ?_
                        have e171 : ac.tmps.getD 171 undef = Value.bool true := h.dep 171 (by kernel_rfl)
                        exact not_wants (d := 171) rfl rfl (by rw [h.size]; show 171 < 195; decide) e171 (by decide)
                    refine ⟨?_, ?_⟩
                    · cases ob with
                      | false =>
                        refine Fg.vT rfl (by decide) fun ac w h => ?_
                        have e171 : ac.tmps.getD 171 undef = Value.bool false := h.dep 171 (by kernel_rfl)
                        have e178 : ac.tmps.getD 178 undef = Value.pointer (some ⟨qb, qo + k * 7, none⟩) := h.dep 178 (by kernel_rfl)
                        have m0 : w.cell? ⟨qb, qo + k * 7 , none⟩ = some (.string rs') := by rw [gb_cell h.base (block_lt_of_cell (HXY.out.2.1)) (by simp)]; exact HXY.out.2.1
                        have m1 : w.cell? ⟨qb, qo + k * 7 + 1, none⟩ = some (iV rcl') := by rw [gb_cell h.base (block_lt_of_cell (HXY.out.2.2.1)) (by simp)]; exact HXY.out.2.2.1
                        have m2 : w.cell? ⟨qb, qo + k * 7 + 2, none⟩ = some (iV rsq') := by rw [gb_cell h.base (block_lt_of_cell (HXY.out.2.2.2.1)) (by simp)]; exact HXY.out.2.2.2.1
                        have m3 : w.cell? ⟨qb, qo + k * 7 + 3, none⟩ = some (.slice ra1' rn1' rd1') := by rw [gb_cell h.base (block_lt_of_cell (HXY.out.2.2.2.2.1)) (by simp)]; exact HXY.out.2.2.2.2.1
                        have m4 : w.cell? ⟨qb, qo + k * 7 + 4, none⟩ = some (.bool rg') := by rw [gb_cell h.base (block_lt_of_cell (HXY.out.2.2.2.2.2.1)) (by simp)]; exact HXY.out.2.2.2.2.2.1
                        have m5 : w.cell? ⟨qb, qo + k * 7 + 5, none⟩ = some (.slice ra2' rn2' rd2') := by rw [gb_cell h.base (block_lt_of_cell (HXY.out.2.2.2.2.2.2.1)) (by simp)]; exact HXY.out.2.2.2.2.2.2.1
                        have m6 : w.cell? ⟨qb, qo + k * 7 + 6, none⟩ = some (.slice ra3' rn3' rd3') := by rw [gb_cell h.base (block_lt_of_cell (HXY.out.2.2.2.2.2.2.2)) (by simp)]; exact HXY.out.2.2.2.2.2.2.2
                        refine ⟨vV rs' rcl' rsq' ra1' rn1' rd1' rg' ra2' rn2' rd2' ra3' rn3' rd3', w, wants_some (d := 171) rfl rfl (by rw [h.size]; show 171 < 195; decide) e171, ?_, gb_refl _ _, rfl⟩
                        clear h
                        simp only [execOp, Act.eval, e178]
                        go_simp
                      | true =>
                        refine Fg.sT rfl (by decide) (fun _ => rfl) fun ac w h => ?_
                        have e171 : ac.tmps.getD 171 undef = Value.bool true := h.dep 171 (by kernel_rfl)
                        exact not_wants (d := 171) rfl rfl (by rw [h.size]; show 171 < 195; decide) e171 (by decide)
                    refine ⟨?_, ?_⟩
                    · cases ob with
                      | false =>
                        refine Fg.cT rfl (by decide) fun ac w h => ?_
                        have e171 : ac.tmps.getD 171 undef = Value.bool false := h.dep 171 (by kernel_rfl)
                        have e175 : ac.tmps.getD 175 undef = vV rs rcl rsq ra1 rn1 rd1 rg ra2 rn2 rd2 ra3 rn3 rd3 := h.dep 175 (by kernel_rfl)
                        have e179 : ac.tmps.getD 179 undef = vV rs' rcl' rsq' ra1' rn1' rd1' rg' ra2' rn2' rd2' ra3' rn3' rd3' := h.dep 179 (by kernel_rfl)
                        refine ⟨11, #[vV rs rcl rsq ra1 rn1 rd1 rg ra2 rn2 rd2 ra3 rn3 rd3, vV rs' rcl' rsq' ra1' rn1' rd1' rg' ra2' rn2' rd2' ra3' rn3' rd3'], wants_some (d := 171) rfl rfl (by rw [h.size]; show 171 < 195; decide) e171, Fg.run_call rfl rfl (by simp only [List.map_toArray, List.map_cons, List.map_nil, Act.eval, e175, e179]) (Fg.run_enter Try.func11 (by kernel_rfl) (by kernel_rfl)), ?_⟩
                        exact (HO.out w (gb_trans HG2.out h.base)).mono fun _ _ ⟨he, hg⟩ => ⟨_, he, hg, rfl⟩
                      | true =>
                        refine Fg.sT rfl (by decide) (fun _ => rfl) fun ac w h => ?_
                        have e171 : ac.tmps.getD 171 undef = Value.bool true := h.dep 171 (by kernel_rfl)
                        exact not_wants (d := 171) rfl rfl (by rw [h.size]; show 171 < 195; decide) e171 (by decide)
                    refine ⟨?_, ?_⟩
                    · cases ob with
                      | false =>
                        cases zO with
                        | false =>
                          refine Fg.vT rfl (by decide) fun ac w h => ?_
                          obtain rfl : zT = false := HZT.out
                          have e171 : ac.tmps.getD 171 undef = Value.bool false := h.dep 171 (by kernel_rfl)
                          have e180 : ac.tmps.getD 180 undef = Value.bool false := h.dep 180 (by kernel_rfl)
                          refine ⟨Value.bool false, w, wants_none rfl, ?_, gb_refl _ _, rfl⟩
                          clear h
                          simp only [execOp, Act.eval, e171, e180]
                          go_simp
                        | true =>
                          refine Fg.vT rfl (by decide) fun ac w h => ?_
                          obtain rfl : zT = true := HZT.out
                          have e171 : ac.tmps.getD 171 undef = Value.bool false := h.dep 171 (by kernel_rfl)
                          have e180 : ac.tmps.getD 180 undef = Value.bool true := h.dep 180 (by kernel_rfl)
                          refine ⟨Value.bool true, w, wants_none rfl, ?_, gb_refl _ _, rfl⟩
                          clear h
                          simp only [execOp, Act.eval, e171, e180]
                          go_simp
                      | true =>
                        refine Fg.vT rfl (by decide) fun ac w h => ?_
                        obtain rfl : zT = true := HZT.out
                        have e171 : ac.tmps.getD 171 undef = Value.bool true := h.dep 171 (by kernel_rfl)
                        refine ⟨Value.bool true, w, wants_none rfl, ?_, gb_refl _ _, rfl⟩
                        clear h
                        simp only [execOp, Act.eval, e171]
                        go_simp
                    refine ⟨Fg.vT rfl (by decide) fun ac w h => ?_, ?_⟩
                    · have e181 : ac.tmps.getD 181 undef = Value.bool zT := h.dep 181 (by kernel_rfl)
                      exact ⟨_, w, wants_none rfl, Fg.run_move rfl e181, gb_refl _ _, rfl⟩
                    refine ⟨?_, ?_⟩
                    · cases zT with
                      | false =>
                        refine Fg.vT rfl (by decide) fun ac w h => ?_
                        have e182 : ac.tmps.getD 182 undef = Value.bool false := h.dep 182 (by kernel_rfl)
                        have e8 : ac.tmps.getD 8 undef = Value.slice (some ⟨pb, po, none⟩) nj cj := h.rest 8 (by kernel_rfl)
                        exact ⟨_, w, wants_some (d := 182) rfl rfl (by rw [h.size]; show 182 < 195; decide) e182, Fg.run_move rfl e8, gb_refl _ _, rfl⟩
                      | true =>
                        refine Fg.sT rfl (by decide) (fun _ => rfl) fun ac w h => ?_
                        have e182 : ac.tmps.getD 182 undef = Value.bool true := h.dep 182 (by kernel_rfl)
                        exact not_wants (d := 182) rfl rfl (by rw [h.size]; show 182 < 195; decide) e182 (by decide)
                    refine ⟨?_, ?_⟩
                    · cases zT with
                      | false =>
                        refine Fg.vT rfl (by decide) fun ac w h => ?_
                        have e182 : ac.tmps.getD 182 undef = Value.bool false := h.dep 182 (by kernel_rfl)
                        have e24 : ac.tmps.getD 24 undef = Value.int .i64 jn := h.rest 24 (by kernel_rfl)
                        exact ⟨_, w, wants_some (d := 182) rfl rfl (by rw [h.size]; show 182 < 195; decide) e182, Fg.run_move rfl e24, gb_refl _ _, rfl⟩
                      | true =>
                        refine Fg.sT rfl (by decide) (fun _ => rfl) fun ac w h => ?_
                        have e182 : ac.tmps.getD 182 undef = Value.bool true := h.dep 182 (by kernel_rfl)
                        exact not_wants (d := 182) rfl rfl (by rw [h.size]; show 182 < 195; decide) e182 (by decide)
                    refine ⟨?_, ?_⟩
                    · cases zT with
                      | false =>
                        refine Fg.vT rfl (by decide) fun ac w h => ?_
                        have e182 : ac.tmps.getD 182 undef = Value.bool false := h.dep 182 (by kernel_rfl)
                        have e183 : ac.tmps.getD 183 undef = Value.slice (some ⟨pb, po, none⟩) nj cj := h.dep 183 (by kernel_rfl)
                        have e184 : ac.tmps.getD 184 undef = Value.int .i64 jn := h.dep 184 (by kernel_rfl)
                        have i0 : (jn : Int) < (nj : Int) := HIX.out.1
                        refine ⟨.pointer (some ⟨pb, po + jn * 7, none⟩), w, wants_some (d := 182) rfl rfl (by rw [h.size]; show 182 < 195; decide) e182, ?_, gb_refl _ _, rfl⟩
                        clear h
                        simp only [execOp, Act.eval, e183, e184]
                        go_simp
                      | true =>
                        refine Fg.sT rfl (by decide) (fun _ => rfl) fun ac w h => ?_
                        have e182 : ac.tmps.getD 182 undef = Value.bool true := h.dep 182 (by kernel_rfl)
                        exact not_wants (d := 182) rfl rfl (by rw [h.size]; show 182 < 195; decide) e182 (by decide)
                    refine ⟨?_, ?_⟩
                    · cases zT with
                      | false =>
                        refine Fg.vT rfl (by decide) fun ac w h => ?_
                        have e182 : ac.tmps.getD 182 undef = Value.bool false := h.dep 182 (by kernel_rfl)
                        have e185 : ac.tmps.getD 185 undef = Value.pointer (some ⟨pb, po + jn * 7, none⟩) := h.dep 185 (by kernel_rfl)
                        have m0 : w.cell? ⟨pb, po + jn * 7 , none⟩ = some (.string rs) := by rw [gb_cell h.base (block_lt_of_cell (HXY.out.1.1)) (by simp)]; exact HXY.out.1.1
                        have m1 : w.cell? ⟨pb, po + jn * 7 + 1, none⟩ = some (iV rcl) := by rw [gb_cell h.base (block_lt_of_cell (HXY.out.1.2.1)) (by simp)]; exact HXY.out.1.2.1
                        have m2 : w.cell? ⟨pb, po + jn * 7 + 2, none⟩ = some (iV rsq) := by rw [gb_cell h.base (block_lt_of_cell (HXY.out.1.2.2.1)) (by simp)]; exact HXY.out.1.2.2.1
                        have m3 : w.cell? ⟨pb, po + jn * 7 + 3, none⟩ = some (.slice ra1 rn1 rd1) := by rw [gb_cell h.base (block_lt_of_cell (HXY.out.1.2.2.2.1)) (by simp)]; exact HXY.out.1.2.2.2.1
                        have m4 : w.cell? ⟨pb, po + jn * 7 + 4, none⟩ = some (.bool rg) := by rw [gb_cell h.base (block_lt_of_cell (HXY.out.1.2.2.2.2.1)) (by simp)]; exact HXY.out.1.2.2.2.2.1
                        have m5 : w.cell? ⟨pb, po + jn * 7 + 5, none⟩ = some (.slice ra2 rn2 rd2) := by rw [gb_cell h.base (block_lt_of_cell (HXY.out.1.2.2.2.2.2.1)) (by simp)]; exact HXY.out.1.2.2.2.2.2.1
                        have m6 : w.cell? ⟨pb, po + jn * 7 + 6, none⟩ = some (.slice ra3 rn3 rd3) := by rw [gb_cell h.base (block_lt_of_cell (HXY.out.1.2.2.2.2.2.2)) (by simp)]; exact HXY.out.1.2.2.2.2.2.2
                        refine ⟨vV rs rcl rsq ra1 rn1 rd1 rg ra2 rn2 rd2 ra3 rn3 rd3, w, wants_some (d := 182) rfl rfl (by rw [h.size]; show 182 < 195; decide) e182, ?_, gb_refl _ _, rfl⟩
                        clear h
                        simp only [execOp, Act.eval, e185]
                        go_simp
                      | true =>
                        refine Fg.sT rfl (by decide) (fun _ => rfl) fun ac w h => ?_
                        have e182 : ac.tmps.getD 182 undef = Value.bool true := h.dep 182 (by kernel_rfl)
                        exact not_wants (d := 182) rfl rfl (by rw [h.size]; show 182 < 195; decide) e182 (by decide)
                    refine ⟨?_, ?_⟩
                    · cases zT with
                      | false =>
                        refine Fg.vT rfl (by decide) fun ac w h => ?_
                        have e182 : ac.tmps.getD 182 undef = Value.bool false := h.dep 182 (by kernel_rfl)
                        have e7 : ac.tmps.getD 7 undef = Value.slice (some ⟨qb, qo, none⟩) N cl := h.rest 7 (by kernel_rfl)
                        exact ⟨_, w, wants_some (d := 182) rfl rfl (by rw [h.size]; show 182 < 195; decide) e182, Fg.run_move rfl e7, gb_refl _ _, rfl⟩
                      | true =>
                        refine Fg.sT rfl (by decide) (fun _ => rfl) fun ac w h => ?_
                        have e182 : ac.tmps.getD 182 undef = Value.bool true := h.dep 182 (by kernel_rfl)
                        exact not_wants (d := 182) rfl rfl (by rw [h.size]; show 182 < 195; decide) e182 (by decide)
                    refine ⟨?_, ?_⟩
                    · cases zT with
                      | false =>
                        refine Fg.vT rfl (by decide) fun ac w h => ?_
                        have e182 : ac.tmps.getD 182 undef = Value.bool false := h.dep 182 (by kernel_rfl)
                        have e22 : ac.tmps.getD 22 undef = Value.int .i64 k := h.rest 22 (by kernel_rfl)
                        exact ⟨_, w, wants_some (d := 182) rfl rfl (by rw [h.size]; show 182 < 195; decide) e182, Fg.run_move rfl e22, gb_refl _ _, rfl⟩
                      | true =>
                        refine Fg.sT rfl (by decide) (fun _ => rfl) fun ac w h => ?_
                        have e182 : ac.tmps.getD 182 undef = Value.bool true := h.dep 182 (by kernel_rfl)
                        exact not_wants (d := 182) rfl rfl (by rw [h.size]; show 182 < 195; decide) e182 (by decide)
                    refine ⟨?_, ?_⟩
                    · cases zT with
                      | false =>
                        refine Fg.vT rfl (by decide) fun ac w h => ?_
                        have e182 : ac.tmps.getD 182 undef = Value.bool false := h.dep 182 (by kernel_rfl)
                        have e187 : ac.tmps.getD 187 undef = Value.slice (some ⟨qb, qo, none⟩) N cl := h.dep 187 (by kernel_rfl)
                        have e188 : ac.tmps.getD 188 undef = Value.int .i64 k := h.dep 188 (by kernel_rfl)
                        have i0 : (k : Int) < (N : Int) := HIX.out.2
                        refine ⟨.pointer (some ⟨qb, qo + k * 7, none⟩), w, wants_some (d := 182) rfl rfl (by rw [h.size]; show 182 < 195; decide) e182, ?_, gb_refl _ _, rfl⟩
                        clear h
                        simp only [execOp, Act.eval, e187, e188]
                        go_simp
                      | true =>
                        refine Fg.sT rfl (by decide) (fun _ => rfl) fun ac w h => ?_
                        have e182 : ac.tmps.getD 182 undef = Value.bool true := h.dep 182 (by kernel_rfl)
                        exact not_wants (d := 182) rfl rfl (by rw [h.size]; show 182 < 195; decide) e182 (by decide)
                    refine ⟨?_, ?_⟩
                    · cases zT with
                      | false =>
                        refine Fg.vT rfl (by decide) fun ac w h => ?_
                        have e182 : ac.tmps.getD 182 undef = Value.bool false := h.dep 182 (by kernel_rfl)
                        have e189 : ac.tmps.getD 189 undef = Value.pointer (some ⟨qb, qo + k * 7, none⟩) := h.dep 189 (by kernel_rfl)
                        have m0 : w.cell? ⟨qb, qo + k * 7 , none⟩ = some (.string rs') := by rw [gb_cell h.base (block_lt_of_cell (HXY.out.2.1)) (by simp)]; exact HXY.out.2.1
                        have m1 : w.cell? ⟨qb, qo + k * 7 + 1, none⟩ = some (iV rcl') := by rw [gb_cell h.base (block_lt_of_cell (HXY.out.2.2.1)) (by simp)]; exact HXY.out.2.2.1
                        have m2 : w.cell? ⟨qb, qo + k * 7 + 2, none⟩ = some (iV rsq') := by rw [gb_cell h.base (block_lt_of_cell (HXY.out.2.2.2.1)) (by simp)]; exact HXY.out.2.2.2.1
                        have m3 : w.cell? ⟨qb, qo + k * 7 + 3, none⟩ = some (.slice ra1' rn1' rd1') := by rw [gb_cell h.base (block_lt_of_cell (HXY.out.2.2.2.2.1)) (by simp)]; exact HXY.out.2.2.2.2.1
                        have m4 : w.cell? ⟨qb, qo + k * 7 + 4, none⟩ = some (.bool rg') := by rw [gb_cell h.base (block_lt_of_cell (HXY.out.2.2.2.2.2.1)) (by simp)]; exact HXY.out.2.2.2.2.2.1
                        have m5 : w.cell? ⟨qb, qo + k * 7 + 5, none⟩ = some (.slice ra2' rn2' rd2') := by rw [gb_cell h.base (block_lt_of_cell (HXY.out.2.2.2.2.2.2.1)) (by simp)]; exact HXY.out.2.2.2.2.2.2.1
                        have m6 : w.cell? ⟨qb, qo + k * 7 + 6, none⟩ = some (.slice ra3' rn3' rd3') := by rw [gb_cell h.base (block_lt_of_cell (HXY.out.2.2.2.2.2.2.2)) (by simp)]; exact HXY.out.2.2.2.2.2.2.2
                        refine ⟨vV rs' rcl' rsq' ra1' rn1' rd1' rg' ra2' rn2' rd2' ra3' rn3' rd3', w, wants_some (d := 182) rfl rfl (by rw [h.size]; show 182 < 195; decide) e182, ?_, gb_refl _ _, rfl⟩
                        clear h
                        simp only [execOp, Act.eval, e189]
                        go_simp
                      | true =>
                        refine Fg.sT rfl (by decide) (fun _ => rfl) fun ac w h => ?_
                        have e182 : ac.tmps.getD 182 undef = Value.bool true := h.dep 182 (by kernel_rfl)
                        exact not_wants (d := 182) rfl rfl (by rw [h.size]; show 182 < 195; decide) e182 (by decide)
                    refine ⟨?_, ?_⟩
                    · cases zT with
                      | false =>
                        refine Fg.cT rfl (by decide) fun ac w h => ?_
                        have e182 : ac.tmps.getD 182 undef = Value.bool false := h.dep 182 (by kernel_rfl)
                        have e186 : ac.tmps.getD 186 undef = vV rs rcl rsq ra1 rn1 rd1 rg ra2 rn2 rd2 ra3 rn3 rd3 := h.dep 186 (by kernel_rfl)
                        have e190 : ac.tmps.getD 190 undef = vV rs' rcl' rsq' ra1' rn1' rd1' rg' ra2' rn2' rd2' ra3' rn3' rd3' := h.dep 190 (by kernel_rfl)
                        refine ⟨12, #[vV rs rcl rsq ra1 rn1 rd1 rg ra2 rn2 rd2 ra3 rn3 rd3, vV rs' rcl' rsq' ra1' rn1' rd1' rg' ra2' rn2' rd2' ra3' rn3' rd3'], wants_some (d := 182) rfl rfl (by rw [h.size]; show 182 < 195; decide) e182, Fg.run_call rfl rfl (by simp only [List.map_toArray, List.map_cons, List.map_nil, Act.eval, e186, e190]) (Fg.run_enter Try.func12 (by kernel_rfl) (by kernel_rfl)), ?_⟩
                        exact (HS.out w (gb_trans HG2.out h.base)).mono fun _ _ ⟨he, hg⟩ => ⟨_, he, hg, rfl⟩
                      | true =>
                        refine Fg.sT rfl (by decide) (fun _ => rfl) fun ac w h => ?_
                        have e182 : ac.tmps.getD 182 undef = Value.bool true := h.dep 182 (by kernel_rfl)
                        exact not_wants (d := 182) rfl rfl (by rw [h.size]; show 182 < 195; decide) e182 (by decide)
                    refine ⟨?_, ?_⟩
                    · cases zT with
                      | false =>
                        cases zS with
                        | false =>
                          refine Fg.vT rfl (by decide) fun ac w h => ?_
                          obtain rfl : zV = false := HZV.out
                          have e182 : ac.tmps.getD 182 undef = Value.bool false := h.dep 182 (by kernel_rfl)
                          have e191 : ac.tmps.getD 191 undef = Value.bool false := h.dep 191 (by kernel_rfl)
                          refine ⟨Value.bool false, w, wants_none rfl, ?_, gb_refl _ _, rfl⟩
                          clear h
                          simp only [execOp, Act.eval, e182, e191]
                          go_simp
                        | true =>
                          refine Fg.vT rfl (by decide) fun ac w h => ?_
                          obtain rfl : zV = true := HZV.out
                          have e182 : ac.tmps.getD 182 undef = Value.bool false := h.dep 182 (by kernel_rfl)
                          have e191 : ac.tmps.getD 191 undef = Value.bool true := h.dep 191 (by kernel_rfl)
                          refine ⟨Value.bool true, w, wants_none rfl, ?_, gb_refl _ _, rfl⟩
                          clear h
                          simp only [execOp, Act.eval, e182, e191]
                          go_simp
                      | true =>
                        refine Fg.vT rfl (by decide) fun ac w h => ?_
                        obtain rfl : zV = true := HZV.out
                        have e182 : ac.tmps.getD 182 undef = Value.bool true := h.dep 182 (by kernel_rfl)
                        refine ⟨Value.bool true, w, wants_none rfl, ?_, gb_refl _ _, rfl⟩
                        clear h
                        simp only [execOp, Act.eval, e182]
                        go_simp
                    trivial
                  · intro aq wq hB hsz hdf hrest hslots hpt
                    obtain ⟨u170, e170⟩ : ∃ u, aq.tmps.getD 170 undef = u := ⟨_, rfl⟩
                    obtain ⟨u171, e171⟩ : ∃ u, aq.tmps.getD 171 undef = u := ⟨_, rfl⟩
                    obtain ⟨u172, e172⟩ : ∃ u, aq.tmps.getD 172 undef = u := ⟨_, rfl⟩
                    obtain ⟨u173, e173⟩ : ∃ u, aq.tmps.getD 173 undef = u := ⟨_, rfl⟩
                    obtain ⟨u174, e174⟩ : ∃ u, aq.tmps.getD 174 undef = u := ⟨_, rfl⟩
                    obtain ⟨u175, e175⟩ : ∃ u, aq.tmps.getD 175 undef = u := ⟨_, rfl⟩
                    obtain ⟨u176, e176⟩ : ∃ u, aq.tmps.getD 176 undef = u := ⟨_, rfl⟩
                    obtain ⟨u177, e177⟩ : ∃ u, aq.tmps.getD 177 undef = u := ⟨_, rfl⟩
                    obtain ⟨u178, e178⟩ : ∃ u, aq.tmps.getD 178 undef = u := ⟨_, rfl⟩
                    obtain ⟨u179, e179⟩ : ∃ u, aq.tmps.getD 179 undef = u := ⟨_, rfl⟩
                    obtain ⟨u180, e180⟩ : ∃ u, aq.tmps.getD 180 undef = u := ⟨_, rfl⟩
                    obtain ⟨u181, e181⟩ : ∃ u, aq.tmps.getD 181 undef = u := ⟨_, rfl⟩
                    obtain ⟨u182, e182⟩ : ∃ u, aq.tmps.getD 182 undef = u := ⟨_, rfl⟩
                    obtain ⟨u183, e183⟩ : ∃ u, aq.tmps.getD 183 undef = u := ⟨_, rfl⟩
                    obtain ⟨u184, e184⟩ : ∃ u, aq.tmps.getD 184 undef = u := ⟨_, rfl⟩
                    obtain ⟨u185, e185⟩ : ∃ u, aq.tmps.getD 185 undef = u := ⟨_, rfl⟩
                    obtain ⟨u186, e186⟩ : ∃ u, aq.tmps.getD 186 undef = u := ⟨_, rfl⟩
                    obtain ⟨u187, e187⟩ : ∃ u, aq.tmps.getD 187 undef = u := ⟨_, rfl⟩
                    obtain ⟨u188, e188⟩ : ∃ u, aq.tmps.getD 188 undef = u := ⟨_, rfl⟩
                    obtain ⟨u189, e189⟩ : ∃ u, aq.tmps.getD 189 undef = u := ⟨_, rfl⟩
                    obtain ⟨u190, e190⟩ : ∃ u, aq.tmps.getD 190 undef = u := ⟨_, rfl⟩
                    obtain ⟨u191, e191⟩ : ∃ u, aq.tmps.getD 191 undef = u := ⟨_, rfl⟩
                    have e192 : aq.tmps.getD 192 undef = Value.bool zV := hslots 192 (by kernel_rfl)
                    obtain rfl := Fg.frame_is (a := aq) (vs := [Value.slice a0 n cap0, Value.slice a1 m cap1, Value.slice a2 q cap2, undef, undef, undef, u6, Value.slice (some ⟨qb, qo, none⟩) N cl, Value.slice (some ⟨pb, po, none⟩) nj cj, Value.int .i64 0, Value.slice ak nk ck, Value.int .i64 0, Value.slice a5 n5 c5, Value.int .i64 0, Value.slice a6 n6 c6, Value.int .i64 0, Value.slice a7 n7 c7, Value.int .i64 0, Value.slice a8 n8 c8, Value.int .i64 0, Value.slice a9 n9 c9, Value.int .i64 0, Value.int .i64 (k : Int), Value.bool ob, Value.int .i64 (jn : Int), Value.bool true, Value.bool false, Value.slice a0 n cap0, Value.slice a1 m cap1, Value.slice a2 q cap2, Value.slice (some ⟨w1.heap.size, 0, none⟩) 3 3, Value.bool false, Value.bool false, Value.slice a0 n cap0, Value.int .i64 (n : Int), Value.slice a1 m cap1, Value.int .i64 (m : Int), Value.int .i64 ((n : Int) + (m : Int)), Value.slice a2 q cap2, Value.int .i64 (q : Int), Value.int .i64 ((n : Int) + (m : Int) + (q : Int)), Value.bool (decide (60 < (n : Int) + (m : Int) + (q : Int))), Value.bool (decide (60 < (n : Int) + (m : Int) + (q : Int))), Value.slice (some ⟨w2.heap.size, 0, none⟩) 0 0, Value.slice a0 n cap0, Value.slice l1 N1 k1, Value.slice a1 m cap1, Value.slice l2 N2 k2, Value.slice a2 q cap2, Value.slice (some ⟨qb, qo, none⟩) N cl, Value.tuple #[Value.slice (some ⟨pb, po, none⟩) nj cj, Value.int .i64 0], Value.slice a0 n cap0, Value.slice a1 m cap1, Value.slice a2 q cap2, Value.slice (some ⟨wC.heap.size, 0, none⟩) 3 3, Value.tuple #[Value.slice (some ⟨pb, po, none⟩) nj cj, Value.int .i64 0], Value.slice (some ⟨pb, po, none⟩) nj cj, Value.int .i64 0, Value.int .i64 0, Value.bool false, undef, undef, undef, Value.tuple #[Value.slice ak nk ck, Value.int .i64 0], Value.slice a2 q cap2, Value.slice a1 m cap1, Value.slice a0 n cap0, Value.slice (some ⟨w4.heap.size, 0, none⟩) 3 3, Value.tuple #[Value.slice ak nk ck, Value.int .i64 0], Value.slice ak nk ck, Value.int .i64 0, Value.int .i64 0, Value.bool false, Value.bool false, Value.slice (some ⟨pb, po, none⟩) nj cj, Value.slice ak nk ck, Value.bool true, Value.bool false, Value.bool false, Value.bool false, Value.slice (some ⟨pb, po, none⟩) nj cj, Value.bool true, Value.bool false, Value.bool false, Value.slice (some ⟨qb, qo, none⟩) N cl, Value.bool true, Value.bool false, Value.tuple #[Value.slice a5 n5 c5, Value.int .i64 0], Value.slice a0 n cap0, Value.slice a1 m cap1, Value.slice (some ⟨w8.heap.size, 0, none⟩) 2 2, Value.tuple #[Value.slice a5 n5 c5, Value.int .i64 0], Value.slice a5 n5 c5, Value.int .i64 0, Value.tuple #[Value.slice a6 n6 c6, Value.int .i64 0], Value.slice a2 q cap2, Value.slice a1 m cap1, Value.slice (some ⟨w9.heap.size, 0, none⟩) 2 2, Value.tuple #[Value.slice a6 n6 c6, Value.int .i64 0], Value.slice a6 n6 c6, Value.int .i64 0, Value.tuple #[Value.slice a7 n7 c7, Value.int .i64 0], Value.slice a5 n5 c5, Value.slice a2 q cap2, Value.slice (some ⟨w10.heap.size, 0, none⟩) 2 2, Value.tuple #[Value.slice a7 n7 c7, Value.int .i64 0], Value.slice a7 n7 c7, Value.int .i64 0, Value.tuple #[Value.slice a8 n8 c8, Value.int .i64 0], Value.slice a0 n cap0, Value.slice a6 n6 c6, Value.slice (some ⟨w11.heap.size, 0, none⟩) 2 2, Value.tuple #[Value.slice a8 n8 c8, Value.int .i64 0], Value.slice a8 n8 c8, Value.int .i64 0, Value.tuple #[Value.slice a9 n9 c9, Value.int .i64 0], Value.slice (some ⟨pb, po, none⟩) nj cj, Value.slice (some ⟨qb, qo, none⟩) N cl, Value.slice (some ⟨w12.heap.size, 0, none⟩) 2 2, Value.tuple #[Value.slice a9 n9 c9, Value.int .i64 0], Value.slice a9 n9 c9, Value.int .i64 0, Value.int .i64 0, Value.bool false, Value.bool false, Value.int .i64 0, Value.bool false, Value.bool false, Value.bool false, Value.int .i64 0, Value.bool false, Value.bool false, Value.bool false, Value.int .i64 0, Value.bool false, Value.bool false, Value.bool false, Value.int .i64 0, Value.bool false, Value.bool false, Value.bool false, Value.slice a7 n7 c7, Value.slice (some ⟨pb, po, none⟩) nj cj, Value.bool true, Value.bool false, Value.bool false, Value.bool false, Value.slice a8 n8 c8, Value.slice (some ⟨pb, po, none⟩) nj cj, Value.bool true, Value.bool false, Value.bool false, Value.bool false, Value.slice a9 n9 c9, Value.slice (some ⟨pb, po, none⟩) nj cj, Value.bool true, Value.bool false, Value.bool false, Value.int .i64 (k : Int), Value.slice (some ⟨qb, qo, none⟩) N cl, Value.int .i64 (N : Int), Value.bool true, u162, u163, Value.int .i64 (jn : Int), Value.slice (some ⟨pb, po, none⟩) nj cj, Value.int .i64 (nj : Int), Value.bool true, u168, u169, u170, u171, u172, u173, u174, u175, u176, u177, u178, u179, u180, u181, u182, u183, u184, u185, u186, u187, u188, u189, u190, u191, Value.bool zV, u193, u194]) hsz ⟨hrest 0 (by kernel_rfl), hrest 1 (by kernel_rfl), hrest 2 (by kernel_rfl), hrest 3 (by kernel_rfl), hrest 4 (by kernel_rfl), hrest 5 (by kernel_rfl), hrest 6 (by kernel_rfl), hrest 7 (by kernel_rfl), hrest 8 (by kernel_rfl), hrest 9 (by kernel_rfl), hrest 10 (by kernel_rfl), hrest 11 (by kernel_rfl), hrest 12 (by kernel_rfl), hrest 13 (by kernel_rfl), hrest 14 (by kernel_rfl), hrest 15 (by kernel_rfl), hrest 16 (by kernel_rfl), hrest 17 (by kernel_rfl), hrest 18 (by kernel_rfl), hrest 19 (by kernel_rfl), hrest 20 (by kernel_rfl), hrest 21 (by kernel_rfl), hrest 22 (by kernel_rfl), hrest 23 (by kernel_rfl), hrest 24 (by kernel_rfl), hrest 25 (by kernel_rfl), hrest 26 (by kernel_rfl), hrest 27 (by kernel_rfl), hrest 28 (by kernel_rfl), hrest 29 (by kernel_rfl), hrest 30 (by kernel_rfl), hrest 31 (by kernel_rfl), hrest 32 (by kernel_rfl), hrest 33 (by kernel_rfl), hrest 34 (by kernel_rfl), hrest 35 (by kernel_rfl), hrest 36 (by kernel_rfl), hrest 37 (by kernel_rfl), hrest 38 (by kernel_rfl), hrest 39 (by kernel_rfl), hrest 40 (by kernel_rfl), hrest 41 (by kernel_rfl), hrest 42 (by kernel_rfl), hrest 43 (by kernel_rfl), hrest 44 (by kernel_rfl), hrest 45 (by kernel_rfl), hrest 46 (by kernel_rfl), hrest 47 (by kernel_rfl), hrest 48 (by kernel_rfl), hrest 49 (by kernel_rfl), hrest 50 (by kernel_rfl), hrest 51 (by kernel_rfl), hrest 52 (by kernel_rfl), hrest 53 (by kernel_rfl), hrest 54 (by kernel_rfl), hrest 55 (by kernel_rfl), hrest 56 (by kernel_rfl), hrest 57 (by kernel_rfl), hrest 58 (by kernel_rfl), hrest 59 (by kernel_rfl), hrest 60 (by kernel_rfl), hrest 61 (by kernel_rfl), hrest 62 (by kernel_rfl), hrest 63 (by kernel_rfl), hrest 64 (by kernel_rfl), hrest 65 (by kernel_rfl), hrest 66 (by kernel_rfl), hrest 67 (by kernel_rfl), hrest 68 (by kernel_rfl), hrest 69 (by kernel_rfl), hrest 70 (by kernel_rfl), hrest 71 (by kernel_rfl), hrest 72 (by kernel_rfl), hrest 73 (by kernel_rfl), hrest 74 (by kernel_rfl), hrest 75 (by kernel_rfl), hrest 76 (by kernel_rfl), hrest 77 (by kernel_rfl), hrest 78 (by kernel_rfl), hrest 79 (by kernel_rfl), hrest 80 (by kernel_rfl), hrest 81 (by kernel_rfl), hrest 82 (by kernel_rfl), hrest 83 (by kernel_rfl), hrest 84 (by kernel_rfl), hrest 85 (by kernel_rfl), hrest 86 (by kernel_rfl), hrest 87 (by kernel_rfl), hrest 88 (by kernel_rfl), hrest 89 (by kernel_rfl), hrest 90 (by kernel_rfl), hrest 91 (by kernel_rfl), hrest 92 (by kernel_rfl), hrest 93 (by kernel_rfl), hrest 94 (by kernel_rfl), hrest 95 (by kernel_rfl), hrest 96 (by kernel_rfl), hrest 97 (by kernel_rfl), hrest 98 (by kernel_rfl), hrest 99 (by kernel_rfl), hrest 100 (by kernel_rfl), hrest 101 (by kernel_rfl), hrest 102 (by kernel_rfl), hrest 103 (by kernel_rfl), hrest 104 (by kernel_rfl), hrest 105 (by kernel_rfl), hrest 106 (by kernel_rfl), hrest 107 (by kernel_rfl), hrest 108 (by kernel_rfl), hrest 109 (by kernel_rfl), hrest 110 (by kernel_rfl), hrest 111 (by kernel_rfl), hrest 112 (by kernel_rfl), hrest 113 (by kernel_rfl), hrest 114 (by kernel_rfl), hrest 115 (by kernel_rfl), hrest 116 (by kernel_rfl), hrest 117 (by kernel_rfl), hrest 118 (by kernel_rfl), hrest 119 (by kernel_rfl), hrest 120 (by kernel_rfl), hrest 121 (by kernel_rfl), hrest 122 (by kernel_rfl), hrest 123 (by kernel_rfl), hrest 124 (by kernel_rfl), hrest 125 (by kernel_rfl), hrest 126 (by kernel_rfl), hrest 127 (by kernel_rfl), hrest 128 (by kernel_rfl), hrest 129 (by kernel_rfl), hrest 130 (by kernel_rfl), hrest 131 (by kernel_rfl), hrest 132 (by kernel_rfl), hrest 133 (by kernel_rfl), hrest 134 (by kernel_rfl), hrest 135 (by kernel_rfl), hrest 136 (by kernel_rfl), hrest 137 (by kernel_rfl), hrest 138 (by kernel_rfl), hrest 139 (by kernel_rfl), hrest 140 (by kernel_rfl), hrest 141 (by kernel_rfl), hrest 142 (by kernel_rfl), hrest 143 (by kernel_rfl), hrest 144 (by kernel_rfl), hrest 145 (by kernel_rfl), hrest 146 (by kernel_rfl), hrest 147 (by kernel_rfl), hrest 148 (by kernel_rfl), hrest 149 (by kernel_rfl), hrest 150 (by kernel_rfl), hrest 151 (by kernel_rfl), hrest 152 (by kernel_rfl), hrest 153 (by kernel_rfl), hrest 154 (by kernel_rfl), hrest 155 (by kernel_rfl), hrest 156 (by kernel_rfl), hrest 157 (by kernel_rfl), hrest 158 (by kernel_rfl), hrest 159 (by kernel_rfl), hrest 160 (by kernel_rfl), hrest 161 (by kernel_rfl), hrest 162 (by kernel_rfl), hrest 163 (by kernel_rfl), hrest 164 (by kernel_rfl), hrest 165 (by kernel_rfl), hrest 166 (by kernel_rfl), hrest 167 (by kernel_rfl), hrest 168 (by kernel_rfl), hrest 169 (by kernel_rfl), e170, e171, e172, e173, e174, e175, e176, e177, e178, e179, e180, e181, e182, e183, e184, e185, e186, e187, e188, e189, e190, e191, e192, hrest 193 (by kernel_rfl), hrest 194 (by kernel_rfl), trivial⟩ hdf
                    clear hsz hdf hrest hslots hpt e170 e171 e172 e173 e174 e175 e176 e177 e178 e179 e180 e181 e182 e183 e184 e185 e186 e187 e188 e189 e190 e191 e192
                    have HGq := Lib.hid (gb_trans HG2.out hB)
                    clear hB
                    refine Fg.wpl_value (v := .bool zV) (w' := wq) rfl (Fg.run_assign rfl rfl) ?_
                    refine wpList_nil ?_
                    simp only [Act.put, List.setIfInBounds_toArray, List.set_cons_succ, List.set_cons_zero]
                    go_wp2
                    exact ⟨⟨jn + 1, zV, by omega, rfl, rfl, HGq.out, HK.out⟩, by show nj - ((jn : Int) + 1).toNat < nj - (jn : Int).toNat; omega⟩
                · obtain rfl : jn = nj := by omega
                  have hob : ob = true := by
                    cases ob with
                    | true => rfl
                    | false => exact (left_over HAL.out HT.out HRO.out (k := k) (by rw [HX.out.2.1.len]; exact hlt) (fun i hi => HJ.out.2 rfl i (by rw [← HX.out.1.len]; exact hi))).elim
                  subst hob
                  have HG3 := Lib.hid HJ.out.1
                  clear HJ hjl
                  go_wp2
                  exact ⟨⟨k + 1, by omega, rfl, HG3.out⟩, by show N - ((k : Int) + 1).toNat < N - (k : Int).toNat; omega⟩
            · obtain rfl : k = N := by omega
              have HE := Lib.hid (HQ.out wr (gb_trans HX.out.2.2 HI.out))
              clear hlt
              go_wp2
              exact HE.out
end Sb
end Go.Proofs.Ytlkiancedgaicaa
