/- Vectors joined; a vector with dots. -/
import Derived.Test.YtkffbaihknhefaaGreatVeTake
import Derived.Test.YtkffbaihknhefaaGreatVeRight
namespace Go.Proofs.YtkffbaihknhefaaGreat
open Go.RowKit Ve
namespace Ve
/-- rows of dots, in a row, all below block B -/
structure DRowsAt (w : World) (B : Nat) (a : Option Addr) (R : List (List D)) : Prop where
  lim : B ≤ w.heap.size
  cells : R.length = 0 ∨ ∃ pb po, a = some ⟨pb, po, none⟩ ∧ pb < B ∧ ∀ i, i < R.length → ∃ ai ci, w.cell? ⟨pb, po + i, none⟩ = some (.slice ai (R.getD i []).length ci) ∧ DotsAt w B ai (R.getD i [])
theorem DRowsAt.stay {w w' : World} {B : Nat} {a : Option Addr} {R : List (List D)} (h : DRowsAt w B a R) (hg : w.grownBy w' none) : DRowsAt w' B a R := by
  refine ⟨Nat.le_trans h.lim hg.size, ?_⟩
  rcases h.cells with h0 | ⟨pb, po, ha, hlt, hc⟩
  · exact Or.inl h0
  · refine Or.inr ⟨pb, po, ha, hlt, fun i hi => ?_⟩
    obtain ⟨ai, ci, h1, h2⟩ := hc i hi
    exact ⟨ai, ci, by rw [gb_cell hg (p := ⟨pb, po + i, none⟩) (Nat.lt_of_lt_of_le hlt h.lim) (by simp)]; exact h1, h2.stay hg⟩
theorem drop_row (R : List (List D)) (k : Nat) (h : k < R.length) : R.drop k = R.getD k [] :: R.drop (k + 1) := by
  rw [List.drop_eq_getElem_cons h, List.getD_eq_getElem?_getD, List.getElem?_eq_getElem h]; rfl
def JoinOut (w : World) (l : List D) (e : Ending) (w' : World) : Prop := ∃ v, e = .returned v ∧ OwnD w' w.heap.size v l ∧ w.grownBy w' none
set_option maxHeartbeats 400000 in
theorem join_any (B n cap : Nat) (a : Option Addr) (R : List (List D)) (w : World) (hn : R.length = n) (h : DRowsAt w B a R) (hc : n < 9223372036854775808) (hl : ∀ r ∈ R, r.length < 9223372036854775808) :
    Calls Tryz.prog 7 #[.slice a n cap] w (JoinOut w (joinF R)) := by
  have H := Lib.hid h; clear h
  have HN := Lib.hid (And.intro hn hl); clear hn hl
  have HU0 : Hid (∃ l, UAt (w.alloc (.cells #[.slice none 0 0] 41)) w.heap.size l ∧ Rt 0 l ∧ (∀ c, max (up l c) (mx (R.drop 0) c) = mx R c) ∧ allB (R.drop 0) = allB R ∧ w.grownBy (w.alloc (.cells #[.slice none 0 0] 41)) none) :=
    ⟨[], ⟨.slice none 0 0, Blk.new w [.slice none 0 0] _, World.ownsRow_nil _ _ _ _⟩, trivial, fun c => by have := mx_nn R c; rw [List.drop_zero]; show max 0 _ = _; omega, by rw [List.drop_zero], gb_alloc (gb_refl _ _) _⟩
  obtain ⟨Q, hQ⟩ : ∃ Q, Q = JoinOut w (joinF R) := ⟨_, rfl⟩
  rw [← hQ]
  have HQ := Lib.hid hQ; clear hQ
  obtain ⟨ub, hub⟩ : ∃ ub, ub = w.heap.size := ⟨_, rfl⟩
  have hubl : w.heap.size ≤ ub := by omega
  rw [← hub] at HU0
  have HUB := Lib.hid hub
  go_enter Tryz.func7, Tryz.ntmps7
  go_wp2
  rw [← hub]
  clear hub
  go_loopw [8] (fun i wr => ∃ (k : Nat), k ≤ n ∧ i = .int .i64 k ∧ Hid (∃ l, UAt wr ub l ∧ Rt 0 l ∧ (∀ c, max (up l c) (mx (R.drop k) c) = mx R c) ∧ allB (R.drop k) = allB R ∧ w.grownBy wr none)) (fun i _ => n - (intOf i).toNat)
  case atStart => exact ⟨0, by omega, rfl, HU0.out⟩
  case round =>
    obtain ⟨k, hk, rfl, HI⟩ := hrel
    by_cases hlt : k < n
    · obtain ⟨l, hU, hrl, hF, hall, hg⟩ := HI.out
      obtain ⟨pb, po, rfl, hpb, hcs⟩ := (H.out.stay hg).cells.resolve_left (by rw [HN.out.1]; omega)
      obtain ⟨ai, ci, k1, hd⟩ := hcs k (by rw [HN.out.1]; exact hlt)
      obtain ⟨pb', po', e1, _, hcs0⟩ := H.out.cells.resolve_left (by rw [HN.out.1]; omega)
      simp only [Option.some.injEq, Addr.mk.injEq, and_true] at e1
      obtain ⟨rfl, rfl⟩ := e1
      obtain ⟨ai', ci', k1', hd0⟩ := hcs0 k (by rw [HN.out.1]; exact hlt)
      have e2 : w.cell? ⟨pb, po + k, none⟩ = some (.slice ai (R.getD k []).length ci) := by
        rw [← gb_cell hg (p := ⟨pb, po + k, none⟩) (block_lt_of_cell k1') (by simp)]; exact k1
      rw [k1'] at e2
      simp only [Option.some.injEq, Value.slice.injEq, true_and] at e2
      obtain ⟨rfl, rfl⟩ := e2
      clear hcs hcs0 k1'
      have hdr := drop_row R k (by rw [HN.out.1]; exact hlt)
      obtain ⟨d, hdd⟩ : ∃ d, d = R.getD k [] := ⟨_, rfl⟩
      rw [← hdd] at k1 hd hd0 hdr
      have hdl : d.length < 9223372036854775808 := HN.out.2 d (by
        rw [hdd, List.getD_eq_getElem?_getD, List.getElem?_eq_getElem (by rw [HN.out.1]; exact hlt)]; exact List.getElem_mem _)
      have hR := right_any
      have HRT := Lib.hid (vright_any B d.length ci' ai' d wr rfl hd hdl)
      have hi : (k : Int) < (n : Int) := by omega
      have hm : ∀ c, max (up l c) (max (um d c) (mx (R.drop (k + 1)) c)) = mx R c := fun c => by have := hF c; rw [hdr, mx] at this; exact this
      rw [hdr, allB_cons] at hall
      clear hdr hdd hR hd hF HI HU0
      obtain ⟨m, hml⟩ : ∃ m, m = d.length := ⟨_, rfl⟩
      rw [← hml] at k1 HRT
      have HM := Lib.hid hml; clear hml hdl
      cases hrt : rtB 0 d with
      | false =>
        rw [hrt] at hall HRT
        have HO : Hid (∀ w', w.grownBy w' none → Q (.returned (.slice none 0 0)) w') := fun w' hg' => by rw [HQ.out, joinF_no (show allB R = false from hall.symm)]; exact ⟨_, rfl, World.ownsRow_nil _ _ _ _, hg'⟩
        have HG := Lib.hid hg
        clear hm hall hU hrl hd0 hg hrt
        go_wp2_with fail
        refine HRT.out.mono ?_
        rintro e w3 ⟨rfl, hg3⟩
        have HG3 := Lib.hid (gb_trans HG.out hg3); clear hg3
        go_wp2
        exact HO.out _ HG3.out
      | true =>
        rw [hrt] at hall HRT
        have hrd := (rtB_iff _ _).1 hrt
        have HX := Lib.hid (And.intro hU (And.intro hrl (And.intro hm (And.intro hall (And.intro hrd (And.intro hd0 hg))))))
        clear hm hall hU hrl hd0 hg hrt hrd
        go_wp2_with fail
        refine HRT.out.mono ?_
        rintro e w3 ⟨rfl, hg3⟩
        obtain ⟨hU, hrl, hm, hall, hrd, hd0, hg⟩ := HX.out
        have hU3 : UAt w3 ub l := by
          obtain ⟨v, h1, h2⟩ := hU
          exact ⟨v, h1.grown hg3 (by simp), h2.kept hg3 (by cases v.ownBlock <;> simp)⟩
        have HT := Lib.hid (take_any w w3 ub B m ci' ai' d l hubl (gb_trans hg hg3) hU3 HM.out.symm hd0 hrl hrd)
        clear hU hrl hm hall hrd hd0 hg hg3 hU3
        go_wp2_with fail
        refine HT.out.mono ?_
        rintro e w4 ⟨rfl, l2, hU2, hr2, hF2, hg2⟩
        have HN4 : Hid (∃ l, UAt w4 ub l ∧ Rt 0 l ∧ (∀ c, max (up l c) (mx (R.drop (k + 1)) c) = mx R c) ∧ allB (R.drop (k + 1)) = allB R ∧ w.grownBy w4 none) :=
          ⟨l2, hU2, hr2, fun c => by have e := hF2 c; have e2 := HX.out.2.2.1 c; simp only at e; omega, by rw [← HX.out.2.2.2.1]; rfl, hg2⟩
        clear hU2 hr2 hF2 hg2
        go_wp2
        go_roundw
        case rel => exact ⟨k + 1, by omega, by go_num, HN4⟩
        case measure => simp [intOf]; omega
    · obtain rfl : k = n := by omega
      obtain ⟨l, ⟨v, hb, ho⟩, hrl, hF, hall, hg⟩ := HI.out
      rw [List.drop_eq_nil_iff.2 (by rw [HN.out.1]; omega)] at hF hall
      obtain rfl : l = joinF R := joinF_is (hall.symm) hrl (fun c => by rw [← hF c]; have := (up_bd (c := c) hrl).1; show _ = max _ 0; omega)
      obtain ⟨a5, c5, rfl, _, _, _⟩ := own_dots ho
      have HO : Hid (Q (.returned (.slice a5 (joinF R).length c5)) wr) := by
        rw [HQ.out]
        refine ⟨_, rfl, ?_, hg⟩
        rcases ho.2 with h | ⟨g, c, cur, e, hbg, rest⟩
        · exact ⟨ho.1, Or.inl h⟩
        · exact ⟨ho.1, Or.inr ⟨g, c, cur, e, by rw [← HUB.out]; omega, rest⟩⟩
      have b1 := hb.cell (i := 0) rfl
      clear hb ho hrl hF hall hg HQ HU0 HI
      generalize (joinF R).length = jl at *
      go_wp2
      exact HO.out
end Ve
end Go.Proofs.YtkffbaihknhefaaGreat
