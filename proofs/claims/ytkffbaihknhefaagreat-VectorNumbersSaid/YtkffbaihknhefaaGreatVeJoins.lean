/- VectorJoins (P7.2): the walk. -/
import Derived.Test.YtkffbaihknhefaaGreatVeJoinsFin
import Derived.Test.YtkffbaihknhefaaGreatVeKept
import Derived.Deep.RegionHeld3
import Derived.BigGuardPart
namespace Go.Proofs.YtkffbaihknhefaaGreat
open Go.RowKit Ve
namespace Ve
/-- rows of dots, each with its room, at one place, whatever the world -/
def RW (w : World) (a : Option Addr) (R : List (List D)) : Prop := ∀ k, k < R.length → ∃ pb po ai ci, a = some ⟨pb, po, none⟩ ∧ (ai = none → ci = 0) ∧ ∀ w', w.grownBy w' none → w'.cell? ⟨pb, po + k, none⟩ = some (.slice ai (R.getD k []).length ci) ∧ DotsAt w' w.heap.size ai (R.getD k [])
theorem rw_of {w : World} {a : Option Addr} {R : List (List D)} (h : DRowsAt w w.heap.size a R) (hr : ∀ k, k < R.length → ∀ pb po, a = some ⟨pb, po, none⟩ → ∀ ai ni ci, w.cell? ⟨pb, po + k, none⟩ = some (.slice ai ni ci) → ai = none → ci = 0) : RW w a R := fun k hk => by
  obtain ⟨pb, po, ai, ci, e, hall⟩ := h.all hk
  exact ⟨pb, po, ai, ci, e, hr k hk pb po e ai _ ci (hall w (gb_refl _ _)).1, hall⟩
/-- two cells, and the world behind -/
abbrev J2 (W : World) (p1 p2 : Addr) (v1 v2 : Value) (w' : World) : Prop := W.grownBy w' none ∧ w'.cell? p1 = some v1 ∧ w'.cell? p2 = some v2
theorem j2_keep {W w1 w2 : World} {p1 p2 : Addr} {v1 v2 : Value} (hg : w1.grownBy w2 none) (h : J2 W p1 p2 v1 v2 w1) : J2 W p1 p2 v1 v2 w2 :=
  ⟨gb_trans h.1 hg, by rw [gb_cell hg (block_lt_of_cell h.2.1) (by simp)]; exact h.2.1, by rw [gb_cell hg (block_lt_of_cell h.2.2) (by simp)]; exact h.2.2⟩
theorem j2_drew {W w1 : World} {p1 p2 : Addr} {v1 v2 : Value} (h : J2 W p1 p2 v1 v2 w1) : J2 W p1 p2 v1 v2 w1.drew := ⟨gb_drew h.1, h.2⟩
set_option maxHeartbeats 4000000 in
set_option maxRecDepth 100000 in
theorem joins_any (n c0 c1 c2 : Nat) (a0 a1 a2 : Option Addr) (R : List (List D)) (A B : List D) (w : World) (hR : R.length = n) (hn : n < 9223372036854775808) (h0 : DRowsAt w w.heap.size a0 R) (hW : RW w a0 R) (hdl : dlen R) (hS : ST w [(a1, A), (a2, B)] w) (hn1 : a1 = none → c1 = 0) (hn2 : a2 = none → c2 = 0) :
    Calls Tryz.prog 6 #[.slice a0 n c0, .slice a1 A.length c1, .slice a2 B.length c2] w (LawOut w) := by
  have HS := Lib.hid hS; clear hS
  have HW := Lib.hid (And.intro hW hdl); clear hW hdl
  have H0 := Lib.hid h0; clear h0
  have HN := Lib.hid hR; clear hR
  have HNil := Lib.hid (And.intro hn1 hn2); clear hn1 hn2
  obtain ⟨Q, hQ⟩ : ∃ Q, Q = LawOut w := ⟨_, rfl⟩
  rw [← hQ]
  have HQ : Hid (∀ w', w.grownBy w' none → Q (.returned (.bool true)) w') := fun w' hg => by rw [hQ]; exact ⟨rfl, hg⟩
  clear hQ
  go_enter Tryz.func6, Tryz.ntmps6
  go_wp2_with fail
  refine (awake7_any w).mono ?_
  rintro e w1 ⟨rfl, hg⟩
  have HS1 := Lib.hid (HS.out.grow hg)
  have HG1 := Lib.hid hg; clear hg
  have HJ := Lib.hid (small_any _ n c0 a0 R w1 HN.out (H0.out.stay HG1.out) hn HW.out.2)
  go_wp2_with fail
  refine HJ.out.mono ?_
  rintro e w1' ⟨b, rfl, rfl, hsm⟩
  clear HJ
  cases b with
  | false =>
    clear hsm
    go_wp2
    exact HQ.out _ HG1.out
  | true =>
  have HL0 := Lib.hid (hsm rfl); clear hsm
  have HJ := Lib.hid (small_any (w1.heap.size + 1) 2 2 _ [A, B] _ rfl (rows2 c1 c2 26 (HS1.out.2 (a1, A) (by simp)).1 (HS1.out.2 (a2, B) (by simp)).1) (by decide) (fun i hi => by
    have h01 : i = 0 ∨ i = 1 := by simp at hi; omega
    rcases h01 with rfl | rfl
    · exact (HS1.out.2 (a1, A) (by simp)).2
    · exact (HS1.out.2 (a2, B) (by simp)).2))
  go_wp2_with fail
  refine HJ.out.mono ?_
  rintro e w2 ⟨b, rfl, rfl, hsm⟩
  have hg2 : w1.grownBy (w1.alloc (.cells #[.slice a1 A.length c1, .slice a2 B.length c2] 26)) none := gb_alloc (gb_refl w1 none) _
  have HS2 := Lib.hid (HS1.out.grow hg2)
  have HG2 := Lib.hid (gb_trans HG1.out hg2)
  clear HS1 HJ hg2 HG1
  obtain ⟨W2, hW2⟩ : ∃ W2, W2 = w1.alloc (.cells #[.slice a1 A.length c1, .slice a2 B.length c2] 26) := ⟨_, rfl⟩
  rw [← hW2] at HS2 HG2 ⊢
  clear hW2
  cases b with
  | false =>
    clear hsm
    go_wp2
    exact HQ.out _ HG2.out
  | true =>
  have hl0 : A.length ≤ 150 := (hsm rfl).2 0 (by simp)
  have hl1 : B.length ≤ 150 := (hsm rfl).2 1 (by simp)
  have HL := Lib.hid (And.intro hl0 hl1)
  clear hsm hl0 hl1
  go_wp2_with fail
  go_loopw [7, 8] (fun v i wr => ∃ (k c : Nat) (a : Option Addr), k ≤ n ∧ i = .int .i64 k ∧ v = .slice a k c ∧ Hid (∃ E, LI W2 wr (.slice a k c) k R E)) (fun _ i _ => n - (intOf i).toNat)
  case atStart => exact ⟨0, 0, none, by omega, rfl, rfl, _, LI.start W2 R⟩
  case round =>
    obtain ⟨k, c, a, hk, rfl, rfl, HI⟩ := hrel
    by_cases hlt : k < n
    · obtain ⟨E, hLI⟩ := HI.out
      obtain ⟨pb, po, ai, ci, rfl, hai, hall⟩ := HW.out.1 k (by rw [HN.out]; exact hlt)
      have hgw := gb_trans HG2.out hLI.grown
      obtain ⟨k1, hd⟩ := hall wr hgw
      have hi : (k : Int) < (n : Int) := by omega
      have h150 := HL0.out.2 k (by rw [HN.out]; exact hlt)
      have h20 : k ≤ 20 := by have := HL0.out.1; have := HN.out; omega
      have HJ := Lib.hid (lentD_any (R.getD k []).length ci _ (R.getD k []) ai wr rfl hd hai (by omega))
      obtain ⟨m, hm⟩ : ∃ m, m = (R.getD k []).length := ⟨_, rfl⟩
      rw [← hm] at k1 HJ
      have HM := Lib.hid hm
      have HLI := Lib.hid hLI
      have H20 := Lib.hid h20
      clear hm hLI hall hd hgw h150 HI h20
      go_wp2_with fail
      refine HJ.out.mono ?_
      intro e w4 hlo
      obtain ⟨g, c4, rfl, hl4, hlo4, hg4⟩ := lt_of HM.out.symm hlo
      obtain ⟨a', c', w', hap, hLI'⟩ := HLI.out.push hg4 hl4 hlo4 (by have := H20.out; omega)
      rw [← HM.out] at hap
      have HN2 : Hid (∃ E, LI W2 w' (.slice a' (k + 1) c') (k + 1) R E) := ⟨_, hLI'⟩
      clear hLI' hl4 hlo4 hg4 hlo HLI HJ H20
      go_wp2_with (at_builtin; refine Lib.wpList_append_run _ rfl _ _ _ _ rfl _ _ rfl rfl _ _ hap ?_)
      go_roundw
      case rel => exact ⟨k + 1, c', a', by omega, by go_num, rfl, HN2⟩
      case measure => simp [intOf]; omega
    · obtain rfl : k = n := by omega
      obtain ⟨E, hLI⟩ := HI.out
      have HE := Lib.hid (fun i (hi : i < k) => (hLI.lent i hi).1.lt)
      have HLI := Lib.hid hLI
      have HS3 := Lib.hid (HS2.out.grow hLI.grown)
      clear hLI HS2 HI
      have HJ := Lib.hid (lentD_any A.length c1 _ A a1 wr rfl (HS3.out.2 (a1, A) (by simp)).1 HNil.out.1 (by have := HL.out.1; omega))
      go_wp2_with fail
      refine HJ.out.mono ?_
      intro e w5 hlo
      obtain ⟨gx, cx, rfl, hx5, hxlo, hg5⟩ := lt_of rfl hlo
      have HX5 := Lib.hid hx5
      have HXL := Lib.hid (And.intro hxlo hx5.lt)
      have HG5 := Lib.hid hg5
      have HS5 := Lib.hid (HS3.out.grow hg5)
      clear hx5 hxlo hg5 hlo HJ HS3
      have HJ := Lib.hid (lentD_any B.length c2 _ B a2 w5 rfl (HS5.out.2 (a2, B) (by simp)).1 HNil.out.2 (by have := HL.out.2; omega))
      go_wp2_with fail
      refine HJ.out.mono ?_
      intro e w6 hlo
      obtain ⟨gy, cy, rfl, hy6, hylo, hg6⟩ := lt_of rfl hlo
      have HY6 := Lib.hid hy6
      have HYL := Lib.hid (And.intro hylo hy6.lt)
      have HX6 := Lib.hid (HX5.out.stay hg6)
      have HG6 := Lib.hid (gb_trans HG5.out hg6)
      have HS6 := Lib.hid (HS5.out.grow hg6)
      clear hy6 hylo hg6 hlo HJ HS5 HX5 HG5
      have HJ := Lib.hid (join_any wr.heap.size k c a R w6 HN.out ((HLI.out.rows HN.out).stay HG6.out) hn (fun r hr => by
        obtain ⟨i, hi, e⟩ := List.getElem_of_mem hr
        have := HW.out.2 i hi
        rw [List.getD_eq_getElem?_getD, List.getElem?_eq_getElem hi] at this
        rw [← e]; exact this))
      go_wp2_with fail
      refine HJ.out.mono ?_
      rintro e w7 ⟨v7, rfl, ho7, hg7⟩
      obtain ⟨a7, c7, rfl, _, _, hd7⟩ := own_dots ho7
      have h87 := (joinF_right R).len (by decide)
      have HP7 := Lib.hid (own_pl ho7 (by omega))
      have HD7 := Lib.hid hd7
      have HX7 := Lib.hid (HX6.out.stay hg7)
      have HY7 := Lib.hid (HY6.out.stay hg7)
      have HG7 := Lib.hid (gb_trans HG6.out hg7)
      have HS7 := Lib.hid (HS6.out.grow hg7)
      have HZ7 := Lib.hid (And.intro h87 hg7.size)
      clear ho7 hd7 hg7 HJ HX6 HY6 HS6 h87
      have HJ := Lib.hid (add_any _ _ A.length B.length cx cy _ _ A B w7 rfl rfl HX7.out.at.2.2.pre HY7.out.at.2.2.pre (HS7.out.2 (a1, A) (by simp)).2 (by have := HL.out.2; omega) (by have := HY7.out.1; omega) HY7.out.at.2.1)
      go_wp2_with fail
      refine HJ.out.mono ?_
      rintro e w8 ⟨v8, rfl, ho8, hg8⟩
      obtain ⟨a8, c8, rfl, _, _, hd8⟩ := own_dots ho8
      have h88 := (show Rt 0 (addF A B) from joinF_right _).len (by decide)
      have HP8 := Lib.hid (And.intro (HP7.out.stay hg8) (own_pl ho8 (by omega)))
      have HD8 := Lib.hid (And.intro (HD7.out.stay hg8) hd8)
      have HX8 := Lib.hid (HX7.out.stay hg8)
      have HY8 := Lib.hid (HY7.out.stay hg8)
      have HG8 := Lib.hid (gb_trans HG7.out hg8)
      have HS8 := Lib.hid (HS7.out.grow hg8)
      have HZ8 := Lib.hid (And.intro h88 hg8.size)
      clear ho8 hd8 hg8 HJ HX7 HY7 HS7 h88 HP7 HD7 HG7
      have hg2w : w.grownBy w8 none := gb_trans HG2.out (gb_trans HLI.out.grown HG8.out)
      have HJ := Lib.hid (refJoin_any _ k c0 a0 R w8 HN.out (H0.out.stay hg2w) hn HW.out.2)
      clear hg2w
      go_wp2_with fail
      refine HJ.out.mono ?_
      rintro e w9 ⟨v9, rfl, ho9, hg9⟩
      obtain ⟨a9, c9, rfl, _, _, hd9⟩ := own_dots ho9
      have HJ2 := Lib.hid ((sameDots_any _ _ _ _ c7 c9 _ _ (joinF R) (joinF R) w9 rfl rfl (HD8.out.1.stay hg9) hd9 (by have := HZ7.out.1; omega)))
      rw [decide_eq_true (Eq.refl (joinF R))] at HJ2
      have HG9 := Lib.hid hg9
      clear ho9 hd9 hg9 HJ
      generalize (joinF R).length = n7 at *
      go_wp2_with fail
      refine HJ2.out.mono ?_
      rintro e w10 ⟨rfl, hg10⟩
      have HG10 := Lib.hid (gb_trans HG9.out hg10)
      clear hg10 HJ2 HG9
      have HJ := Lib.hid (refAdd_any _ _ A.length B.length c1 c2 a1 a2 A B w10 rfl rfl ((HS8.out.2 (a1, A) (by simp)).1.stay HG10.out) ((HS8.out.2 (a2, B) (by simp)).1.stay HG10.out) (HS8.out.2 (a1, A) (by simp)).2 (by have := HL.out.2; omega))
      go_wp2_with fail
      refine HJ.out.mono ?_
      rintro e w11 ⟨v11, rfl, ho11, hg11⟩
      obtain ⟨a11, c11, rfl, _, _, hd11⟩ := own_dots ho11
      have HJ2 := Lib.hid ((sameDots_any _ _ _ _ c8 c11 _ _ (addF A B) (addF A B) w11 rfl rfl (HD8.out.2.stay (gb_trans HG10.out hg11)) hd11 (by have := HZ8.out.1; omega)))
      rw [decide_eq_true (Eq.refl (addF A B))] at HJ2
      have HG11 := Lib.hid (gb_trans HG10.out hg11)
      clear ho11 hd11 hg11 HJ HG10
      generalize (addF A B).length = n8 at *
      go_wp2_with fail
      refine HJ2.out.mono ?_
      rintro e w12 ⟨rfl, hg12⟩
      have HG12 := Lib.hid (gb_trans HG11.out hg12)
      clear hg12 HJ2 HG11
      have HJ := Lib.hid (keptD_any A.length cx c1 _ _ gx A a1 w12 rfl ((HS8.out.2 (a1, A) (by simp)).1.stay HG12.out) (by have := HL.out.1; omega) HX8.out.1 HX8.out.at.2.1 (HX8.out.stay HG12.out).at.2.2)
      go_wp2_with fail
      refine HJ.out.mono ?_
      rintro e w13 ⟨rfl, hg13⟩
      have HG13 := Lib.hid (gb_trans HG12.out hg13)
      clear hg13 HJ HG12
      have HJ := Lib.hid (keptD_any B.length cy c2 _ _ gy B a2 w13 rfl ((HS8.out.2 (a2, B) (by simp)).1.stay HG13.out) (by have := HL.out.2; omega) HY8.out.1 HY8.out.at.2.1 (HY8.out.stay HG13.out).at.2.2)
      go_wp2_with fail
      refine HJ.out.mono ?_
      rintro e w14 ⟨rfl, hg14⟩
      have HG14 := Lib.hid (gb_trans HG13.out hg14)
      clear hg14 HJ HG13
      obtain ⟨WO, hWO⟩ : ∃ WO : World, WO = wr := ⟨_, rfl⟩
      subst hWO
      have HGW := Lib.hid (gb_trans HG2.out (gb_trans HLI.out.grown HG8.out))
      have HI8 := Lib.hid (HLI.out.stay HG8.out)
      have hRW : a0 = a0 := rfl
      clear hRW
      go_wp2_with fail
      go_loopw [13] (fun i wr => ∃ (q : Nat), q ≤ k ∧ i = .int .i64 q ∧ Hid (w8.grownBy wr none)) (fun i _ => k - (intOf i).toNat)
      case atStart => exact ⟨0, by omega, rfl, HG14.out⟩
      case round =>
        clear HG14
        obtain ⟨q, hq, rfl, HG⟩ := hrel
        by_cases hqk : q < k
        · have hi : (q : Int) < (k : Int) := by omega
          obtain ⟨gr, rfl, hgr, hc1⟩ := HI8.out.cell hqk
          obtain ⟨pb, po, ai, ci, rfl, _, hall⟩ := HW.out.1 q (by rw [HN.out]; exact hqk)
          obtain ⟨hc2, hd2⟩ := hall wr (gb_trans HGW.out HG.out)
          have hc1' : wr.cell? ⟨gr, q, none⟩ = some (.slice (some ⟨(E q).1, 0, none⟩) (R.getD q []).length (E q).2) := by rw [gb_cell HG.out (p := ⟨gr, q, none⟩) hgr (by simp)]; exact hc1
          have hl := (HI8.out.lent q hqk).1
          have h150 := HL0.out.2 q (by rw [HN.out]; exact hqk)
          have HK := Lib.hid (fun w' (hg : wr.grownBy w' none) => keptD_any (R.getD q []).length (E q).2 ci _ _ (E q).1 (R.getD q []) ai w' rfl (hd2.stay hg) (by omega) hl.1 hl.at.2.1 (hl.stay (gb_trans HG.out hg)).at.2.2)
          generalize (R.getD q []).length = m at *
          generalize (E q).1 = eg at *
          generalize (E q).2 = ec at *
          have hJ0 : J2 wr ⟨gr, q, none⟩ ⟨pb, po + q, none⟩ (.slice (some ⟨eg, 0, none⟩) m ec) (.slice ai m ci) wr := ⟨gb_refl _ _, hc1', hc2⟩
          have hJ := j2_drew hJ0
          clear hc1 hc1' hc2 hd2 hl h150 hall hgr hJ0
          go_wp2_with fail
          go_region_held3 (fun w' => wr.grownBy w' none ∧ w'.cell? ⟨gr, q, none⟩ = some (.slice (some ⟨eg, 0, none⟩) m ec) ∧ w'.cell? ⟨pb, po + q, none⟩ = some (.slice ai m ci))
            (first | (with_reducible exact hJ) | (with_reducible exact j2_keep (by assumption) (by assumption)))
            (first | (go_simp; go_at_call 17; refine (HK.out _ ?_).mono ?_; exact And.left (by assumption); rintro e w3 ⟨rfl, hg3⟩))
          have hH : J2 wr ⟨gr, q, none⟩ ⟨pb, po + q, none⟩ (.slice (some ⟨eg, 0, none⟩) m ec) (.slice ai m ci) w3 := by assumption
          have HG3 := Lib.hid (gb_trans HG.out hH.1)
          clear hH
          go_wp2
          go_roundw
          case rel => exact ⟨q + 1, by omega, by go_num, HG3⟩
          case measure => simp [intOf]; omega
        · obtain rfl : q = k := by omega
          have hEs : ∀ i, i < q → (E i).1 < WO.heap.size := HE.out
          obtain ⟨v1, wC, v2, wD, hap1, hap2, hC⟩ := apart_fin (b1 := w5.heap.size) (b3 := w6.heap.size) (b4 := w7.heap.size) (b5 := w8.heap.size) (HI8.out.stay HG.out) (by have := HL0.out.1; have := HN.out; omega) (fun i hi => by have := HL0.out.2 i (by rw [HN.out]; exact hi); omega) HE.out (a7, n7, c7) (a8, n8, c8) (some ⟨gx, 0, none⟩, A.length, cx) (some ⟨gy, 0, none⟩, B.length, cy)
            (HP8.out.1.stay HG.out) (HP8.out.2.stay HG.out) ((HX8.out.stay HG.out).pl HXL.out.1 HXL.out.2 (by have := HL.out.1; omega)) ((HY8.out.stay HG.out).pl HYL.out.1 HYL.out.2 (by have := HL.out.2; omega)) (by
              have e1 := HLI.out.grown.size
              have e2 := HXL.out
              have e3 := HYL.out
              have e4 := HZ7.out.2
              have e5 := HZ8.out.2
              have e6 := HG.out.size
              omega)
          have HC := Lib.hid hC
          clear hC hEs
          unfold sv at hap2
          go_wp2_with (first | (at_builtin; refine Lib.wpList_append_run _ rfl _ _ _ _ rfl _ _ rfl rfl _ _ hap1 ?_) | (at_builtin; refine Lib.wpList_append_run _ rfl _ _ _ _ rfl _ _ rfl rfl _ _ hap2 ?_))
          refine HC.out.mono ?_
          rintro e w' ⟨rfl, hg'⟩
          have HF := Lib.hid (gb_trans HG2.out hg')
          clear hg'
          go_wp2
          exact HQ.out _ HF.out
end Ve
end Go.Proofs.YtkffbaihknhefaaGreat
