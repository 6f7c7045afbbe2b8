/- The document's Join, Add (buttressref07). -/
import Derived.Test.YtkffbaihknhefaaGreatVeRefHas
import Derived.Test.YtkffbaihknhefaaGreatVeLent
import Derived.Test.YtkffbaihknhefaaGreatVeAdd
namespace Go.Proofs.YtkffbaihknhefaaGreat
open Go.RowKit Ve
namespace Ve
theorem own_grow {w w' : World} {base n : Nat} {v : Value} {l : List D} (h : OwnD' w base v n l) (hg : w.grownBy w' none) : OwnD' w' base v n l := h.kept hg (by cases v.ownBlock <;> simp)
/-- rows of dots at one place, whatever the world -/
theorem DRowsAt.all {w : World} {B : Nat} {a : Option Addr} {R : List (List D)} (h : DRowsAt w B a R) {k : Nat} (hk : k < R.length) :
    ∃ pb po ai ci, a = some ⟨pb, po, none⟩ ∧ ∀ w', w.grownBy w' none → w'.cell? ⟨pb, po + k, none⟩ = some (.slice ai (R.getD k []).length ci) ∧ DotsAt w' B ai (R.getD k []) := by
  obtain ⟨pb, po, e, hp, hc⟩ := h.cells.resolve_left (by omega)
  obtain ⟨ai, ci, h1, h2⟩ := hc k hk
  exact ⟨pb, po, ai, ci, e, fun w' hg => ⟨by rw [gb_cell hg (block_lt_of_cell h1) (by simp)]; exact h1, h2.stay hg⟩⟩
def dlen (R : List (List D)) : Prop := ∀ i, i < R.length → (R.getD i []).length < 9223372036854775808
theorem vecFrom_last (f : Int → Int) (c : Int) : vecFrom f 0 c = [] := rfl
set_option maxHeartbeats 2000000 in
theorem refJoin_any (B n cap : Nat) (a : Option Addr) (R : List (List D)) (w : World) (hn : R.length = n) (h : DRowsAt w B a R) (hc : n < 9223372036854775808) (hl : dlen R) :
    Calls Tryz.prog 19 #[.slice a n cap] w (JoinOut w (joinF R)) := by
  have H := Lib.hid h; clear h
  have HN := Lib.hid (And.intro hn hl); clear hn hl
  obtain ⟨Q, hQ⟩ : ∃ Q, Q = JoinOut w (joinF R) := ⟨_, rfl⟩
  rw [← hQ]
  have HQ := Lib.hid hQ; clear hQ
  go_enter Tryz.func19, Tryz.ntmps19
  go_wp2
  go_loopw [3] (fun i wr => ∃ (k : Nat), k ≤ n ∧ i = .int .i64 k ∧ Hid (w.grownBy wr none ∧ allB (R.drop k) = allB R)) (fun i _ => n - (intOf i).toNat)
  case atStart => exact ⟨0, by omega, rfl, gb_refl _ _, by rw [List.drop_zero]⟩
  case round =>
    obtain ⟨k, hk, rfl, HI⟩ := hrel
    by_cases hlt : k < n
    · obtain ⟨pb, po, ai, ci, rfl, hall⟩ := H.out.all (k := k) (by rw [HN.out.1]; exact hlt)
      obtain ⟨k1, hd⟩ := hall wr HI.out.1
      have hdr := drop_row R k (by rw [HN.out.1]; exact hlt)
      have hdl := HN.out.2 k (by rw [HN.out.1]; exact hlt)
      have hi : (k : Int) < (n : Int) := by omega
      have hab := HI.out.2
      rw [hdr, allB_cons] at hab
      have HRT := Lib.hid (refRight_any B (R.getD k []).length ci ai (R.getD k []) wr rfl hd hdl)
      clear hall hd hdr
      cases hrt : rtB 0 (R.getD k []) with
      | false =>
        rw [hrt] at hab HRT
        have HO : Hid (∀ w', w.grownBy w' none → Q (.returned (.slice none 0 0)) w') := fun w' hg' => by rw [HQ.out, joinF_no (show allB R = false from hab.symm)]; exact ⟨_, rfl, World.ownsRow_nil _ _ _ _, hg'⟩
        clear hab hrt
        generalize (R.getD k []).length = m at *
        go_wp2_with fail
        refine HRT.out.mono ?_
        rintro e w3 ⟨rfl, hg3⟩
        have HG3 := Lib.hid (gb_trans HI.out.1 hg3); clear hg3
        go_wp2
        exact HO.out _ HG3.out
      | true =>
        rw [hrt, Bool.true_and] at hab
        rw [hrt] at HRT
        have HA := Lib.hid hab
        clear hab hrt
        generalize (R.getD k []).length = m at *
        go_wp2_with fail
        refine HRT.out.mono ?_
        rintro e w3 ⟨rfl, hg3⟩
        have HG3 := Lib.hid (gb_trans HI.out.1 hg3); clear hg3
        go_wp2
        go_roundw
        case rel => exact ⟨k + 1, by omega, by go_num, HG3.out, HA.out⟩
        case measure => simp [intOf]; omega
    · obtain rfl : k = n := by omega
      have hall : allB R = true := by rw [← HI.out.2, List.drop_eq_nil_iff.2 (by rw [HN.out.1]; omega)]; rfl
      have hmb := mx_bd (allB_mem hall)
      have hJ : joinF R = vecOf (mx R) := by unfold joinF; rw [if_pos hall]
      have HALL := Lib.hid (And.intro hall (And.intro hmb hJ)); clear hall hmb hJ
      have HI0 : Hid (w.grownBy wr none ∧ OwnD' wr w.heap.size (.slice none 0 0) 0 [] ∧ [] ++ vecFrom (mx R) 8 1 = vecOf (mx R)) := ⟨HI.out.1, World.ownsRow_nil _ _ _ _, rfl⟩
      go_wp2_with fail
      go_loopw [4, 5] (fun v i wr => ∃ (c m : Nat) (av : Option Addr) (cv : Nat), 1 ≤ c ∧ c ≤ 9 ∧ m < c ∧ i = .int .i64 c ∧ v = .slice av m cv ∧ Hid (∃ l, w.grownBy wr none ∧ OwnD' wr w.heap.size (.slice av m cv) m l ∧ l ++ vecFrom (mx R) (9 - c) c = vecOf (mx R))) (fun _ i _ => 9 - (intOf i).toNat)
      case atStart => exact ⟨1, 0, none, 0, by omega, by omega, by omega, rfl, rfl, [], HI0.out⟩
      case round =>
        obtain ⟨c, m, av, cv, hc1, hc9, hm8, rfl, rfl, HV⟩ := hrel
        by_cases h9 : c < 9
        · have j1 : (c : Int) ≤ 8 := by omega
          go_wp2_with fail
          obtain ⟨WO, hWO⟩ : ∃ WO : World, WO = wr := ⟨_, rfl⟩
          subst hWO
          have HT0 : Hid (WO.grownBy WO none ∧ max 0 (mx (R.drop 0) (c : Int)) = mx R (c : Int)) := ⟨gb_refl _ _, by rw [List.drop_zero]; have := mx_nn R (c : Int); omega⟩
          go_loopw [6, 7] (fun t i wr => ∃ (k' : Nat) (x : Int), k' ≤ k ∧ i = .int .i64 k' ∧ t = .int .i64 x ∧ 0 ≤ x ∧ Hid (WO.grownBy wr none ∧ max x (mx (R.drop k') (c : Int)) = mx R (c : Int))) (fun _ i _ => k - (intOf i).toNat)
          case atStart => exact ⟨0, 0, by omega, rfl, rfl, by omega, HT0.out⟩
          case round =>
            obtain ⟨q, x, hq, rfl, rfl, hx0, HX⟩ := hrel
            by_cases hqk : q < k
            · obtain ⟨pb, po, ai, ci, rfl, hal⟩ := H.out.all (k := q) (by rw [HN.out.1]; exact hqk)
              obtain ⟨k1, hd⟩ := hal wr (gb_trans (HV.out.elim fun _ h => h.1) HX.out.1)
              have hdr := drop_row R q (by rw [HN.out.1]; exact hqk)
              have hdl := HN.out.2 q (by rw [HN.out.1]; exact hqk)
              have hi : (q : Int) < (k : Int) := by omega
              have hmem : R.getD q [] ∈ R := by rw [List.getD_eq_getElem?_getD, List.getElem?_eq_getElem (by rw [HN.out.1]; exact hqk)]; exact List.getElem_mem _
              have hum := um_up (allB_mem HALL.out.1 _ hmem) (c : Int)
              have hmx := HX.out.2
              rw [hdr, mx, hum] at hmx
              have HUP := Lib.hid (refUp_any B (R.getD q []).length ci ai (R.getD q []) (c : Int) wr rfl hd hdl)
              generalize up (R.getD q []) (c : Int) = y at hmx HUP
              have HMX := Lib.hid hmx
              clear hal hd hdr hmem hum hmx
              generalize (R.getD q []).length = m' at *
              go_wp2_with fail
              refine HUP.out.mono ?_
              rintro e w3 ⟨rfl, rfl⟩
              go_wp2
              go_roundw
              case rel => exact ⟨q + 1, max x y, by omega, by go_num, rfl, by omega, HX.out.1, by have := HMX.out; omega⟩
              case measure => simp [intOf]; omega
            · obtain rfl : q = k := by omega
              have hx : x = mx R (c : Int) := by
                have := HX.out.2
                rw [List.drop_eq_nil_iff.2 (by rw [HN.out.1]; omega)] at this
                have e0 : mx [] (c : Int) = 0 := rfl
                rw [e0] at this; omega
              obtain ⟨l, hg, ho, hv⟩ := HV.out
              have hg2 := HX.out.1
              rw [show 9 - c = (9 - (c + 1)) + 1 by omega, vecFrom] at hv
              by_cases hxp : 0 < x
              · rw [if_pos (by rw [← hx]; exact hxp), ← hx] at hv
                obtain ⟨v3, w3, hap, ho3, hg3⟩ := append_dots (wr.alloc (.cells #[iV c, iV x] 25)) w.heap.size (wr.heap.size + 1) (.slice av m cv) m l (some ⟨wr.heap.size, 0, none⟩) 1 1 [((c : Int), x)] (own_grow ho (gb_trans hg2 (gb_alloc (gb_refl _ _) _))) rfl (dots_one' wr c x _) (fun h => by cases h) (by omega) (by have := hg.size; have := hg2.size; simp; omega)
                have hg5 := gb_ownD' (gb_trans hg (gb_trans hg2 (gb_alloc (gb_refl _ none) (.cells #[iV c, iV x] 25)))) (l := l) (own_grow ho (gb_trans hg2 (gb_alloc (gb_refl _ _) _))) (Nat.le_refl _) hg3
                obtain ⟨a5, c5, rfl⟩ := own_shapeD ho3
                have HNV : Hid (∃ l, w.grownBy w3 none ∧ OwnD' w3 w.heap.size (.slice a5 (m + 1) c5) (m + 1) l ∧ l ++ vecFrom (mx R) (9 - (c + 1)) ((c + 1 : Nat) : Int) = vecOf (mx R)) := ⟨_, hg5, ho3, by rw [Int.natCast_add, List.append_assoc]; exact hv⟩
                clear hg ho hv hg2 hx ho3 hg3 hg5
                go_wp2_with (at_builtin; refine Lib.wpList_append_run _ rfl _ _ _ _ rfl _ _ rfl rfl _ _ hap ?_)
                go_roundw
                case rel => exact ⟨c + 1, m + 1, a5, c5, by omega, by omega, by omega, by go_num, rfl, HNV.out⟩
                case measure => simp [intOf]; omega
              · rw [if_neg (by rw [← hx]; exact hxp)] at hv
                have HNV : Hid (∃ l, w.grownBy wr none ∧ OwnD' wr w.heap.size (.slice av m cv) m l ∧ l ++ vecFrom (mx R) (9 - (c + 1)) ((c + 1 : Nat) : Int) = vecOf (mx R)) := ⟨l, gb_trans hg hg2, own_grow ho hg2, by rw [Int.natCast_add]; exact hv⟩
                clear hg ho hv hg2 hx
                go_wp2
                go_roundw
                case rel => exact ⟨c + 1, m, av, cv, by omega, by omega, by omega, by go_num, rfl, HNV.out⟩
                case measure => simp [intOf]; omega
        · obtain rfl : c = 9 := by omega
          obtain ⟨l, hg, ho, hv⟩ := HV.out
          have hv2 : l = joinF R := by rw [HALL.out.2.2, ← hv]; exact (List.append_nil l).symm
          have HO : Hid (Q (.returned (.slice av m cv)) wr) := by
            rw [HQ.out]
            refine ⟨_, rfl, ?_, hg⟩
            have hml : (joinF R).length = m := by rw [← hv2]; have := ho.1; rw [dotsC_len] at this; omega
            unfold OwnD
            rw [hml, ← hv2]
            exact ho
          clear hg ho hv hv2
          go_wp2
          exact HO.out
end Ve
end Go.Proofs.YtkffbaihknhefaaGreat
