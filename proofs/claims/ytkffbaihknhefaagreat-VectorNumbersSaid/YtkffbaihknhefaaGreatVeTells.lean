/- VectorTells (P7.1, DOC.md R3): the walk. (Its region printed by gen_tells.py.) -/
import Derived.Test.YtkffbaihknhefaaGreatVeKept
import Derived.Test.YtkffbaihknhefaaGreatVeRefHas
import Derived.Test.YtkffbaihknhefaaGreatVeDotsM
namespace Go.Proofs.YtkffbaihknhefaaGreat
open Go.RowKit Ve
namespace Ve
theorem DotsAt.pre {w : World} {B : Nat} {a : Option Addr} {p q : List D} (h : DotsAt w B a (p ++ q)) : DotsAt w B a p := by
  refine ⟨h.lim, ?_⟩
  rcases h.cells with h0 | ⟨pb, po, e, hp, hc⟩
  · left; rw [List.length_append] at h0; omega
  · refine Or.inr ⟨pb, po, e, hp, fun i hi => ?_⟩
    have := hc i (by rw [List.length_append]; omega)
    rwa [show (p ++ q).getD i z0 = p.getD i z0 by rw [List.getD_eq_getElem?_getD, List.getElem?_append_left hi, List.getD_eq_getElem?_getD]] at this
/-- what is lent lies in memory -/
def LentAt (w : World) (g n c : Nat) (p : List D) : Prop := n + 12 ≤ c ∧ c < 9223372036854775808 ∧ DotsAt w w.heap.size (some ⟨g, 0, none⟩) (p ++ marksD 1 12)
theorem LentAt.stay {w w' : World} {g n c : Nat} {p : List D} (h : LentAt w g n c p) (hg : w.grownBy w' none) : LentAt w' g n c p := ⟨h.1, h.2.1, (h.2.2.stay hg).full⟩
theorem lentAt_of {w w' : World} {n : Nat} {p : List D} {e : Ending} (h : LentOut w n p e w') : ∃ g c, e = .returned (.slice (some ⟨g, 0, none⟩) n c) ∧ LentAt w' g n c p ∧ w.grownBy w' none := by
  obtain ⟨g, c, he, hc, ho, hg⟩ := h
  obtain ⟨a', c', e1, _, _, hd⟩ := own_dots ho
  simp only [Value.slice.injEq, true_and] at e1
  obtain ⟨rfl, rfl⟩ := e1
  have hcm : c < 9223372036854775808 := by
    rcases ho.2 with ⟨_, h0⟩ | ⟨_, c1, _, e1, _, _, _, hm, _⟩
    · omega
    · simp only [Value.slice.injEq, true_and] at e1; unfold maxLen at hm; omega
  exact ⟨g, c, he, ⟨hc, hcm, hd⟩, hg⟩
set_option maxHeartbeats 4000000 in
set_option maxRecDepth 100000 in
theorem tells_any (c0 c1 : Nat) (a0 a1 : Option Addr) (A B : List D) (x y : Int) (w : World) (hS : ST w [(a0, A), (a1, B)] w) (hn0 : a0 = none → c0 = 0) (hn1 : a1 = none → c1 = 0) :
    Calls Tryz.prog 5 #[.slice a0 A.length c0, .slice a1 B.length c1, .agg #[iV x, iV y]] w (LawOut w) := by
  obtain ⟨N, hN⟩ : ∃ N, N = w.heap.size := ⟨_, rfl⟩
  obtain ⟨W0, hW0⟩ : ∃ W0, W0 = w.alloc (.cells #[iV x, iV y] 25) := ⟨_, rfl⟩
  have HG0 : Hid (w.grownBy W0 none) := by rw [hW0]; exact gb_alloc (gb_refl _ _) _
  have HS : Hid (ST W0 [(some ⟨N, 0, none⟩, [(x, y)]), (a0, A), (a1, B)] W0) := by
    have h1 := st_one (Lib.hid hS) x y
    rw [← hW0, ← hN] at h1
    exact ⟨gb_refl _ _, h1.2⟩
  clear hS
  have HNil := Lib.hid (And.intro hn0 hn1); clear hn0 hn1
  obtain ⟨Q, hQ⟩ : ∃ Q, Q = LawOut w := ⟨_, rfl⟩
  rw [← hQ]
  have HQ : Hid (∀ w', W0.grownBy w' none → Q (.returned (.bool true)) w') := fun w' hg => by rw [hQ]; exact ⟨rfl, gb_trans HG0.out hg⟩
  clear hQ
  go_enter Tryz.func5, Tryz.ntmps5
  go_wp2_with fail
  rw [← hW0, ← hN]
  clear hW0 hN
  refine (awake7_any W0).mono ?_
  rintro e w1 ⟨rfl, hg⟩
  have HS1 := Lib.hid (HS.out.grow hg); clear hg HS
  have HJ := Lib.hid (small_any (w1.heap.size + 1) 2 2 _ [A, B] _ rfl (rows2 c0 c1 26 (HS1.out.2 (a0, A) (by simp)).1 (HS1.out.2 (a1, B) (by simp)).1) (by decide) (fun i hi => by
    have h01 : i = 0 ∨ i = 1 := by simp at hi; omega
    rcases h01 with rfl | rfl
    · exact (HS1.out.2 (a0, A) (by simp)).2
    · exact (HS1.out.2 (a1, B) (by simp)).2))
  go_wp2_with fail
  refine HJ.out.mono ?_
  rintro e w2 ⟨b, rfl, rfl, hsm⟩
  have HS2 := Lib.hid (HS1.out.grow (gb_alloc (gb_refl _ none) (.cells #[.slice a0 A.length c0, .slice a1 B.length c1] 26))); clear HS1 HJ
  obtain ⟨W2, hW2⟩ : ∃ W2, W2 = w1.alloc (.cells #[.slice a0 A.length c0, .slice a1 B.length c1] 26) := ⟨_, rfl⟩
  rw [← hW2] at HS2 ⊢
  clear hW2
  cases b with
  | false =>
    clear hsm
    go_wp2
    exact HQ.out _ HS2.out.1
  | true =>
    have hl0 : A.length ≤ 150 := (hsm rfl).2 0 (by simp)
    have hl1 : B.length ≤ 150 := (hsm rfl).2 1 (by simp)
    have HL := Lib.hid (And.intro hl0 hl1)
    clear hsm
    have HJ := Lib.hid (lentD_any A.length c0 _ A a0 W2 rfl (HS2.out.2 (a0, A) (by simp)).1 HNil.out.1 (by omega))
    clear hl0 hl1
    go_wp2_with fail
    refine HJ.out.mono ?_
    intro e w3 hlo
    obtain ⟨g0, k0, rfl, hla, hg⟩ := lentAt_of hlo
    have HA3 := Lib.hid hla
    have HS3 := Lib.hid (HS2.out.grow hg); clear hg HS2 HJ hlo hla
    have HJ := Lib.hid (lentD_any B.length c1 _ B a1 w3 rfl (HS3.out.2 (a1, B) (by simp)).1 HNil.out.2 (by have := HL.out.2; omega))
    go_wp2_with fail
    refine HJ.out.mono ?_
    intro e W5 hlo
    obtain ⟨g1, k1, rfl, hla, hg⟩ := lentAt_of hlo
    have HB5 := Lib.hid hla
    have HA5 := Lib.hid (HA3.out.stay hg)
    have HS5 := Lib.hid (HS3.out.grow hg); clear hg HS3 HJ hlo hla HA3
    have HG5 := Lib.hid HS5.out.1
    have HD : Hid (∀ {w' : World}, W5.grownBy w' none → w'.cell? ⟨N, 0, none⟩ = some (iV x) ∧ w'.cell? ⟨N, 1, none⟩ = some (iV y)) := fun {w'} hg => st_cells (Lib.hid (HS5.out.grow hg)) (N := N) (by simp)
    have HC1 := Lib.hid (fun W (hg : W5.grownBy W none) => vright_any _ A.length k0 _ A W rfl ((HA5.out.stay hg).2.2.pre) (HS5.out.2 (a0, A) (by simp)).2)
    have HC2 := Lib.hid (fun W (hg : W5.grownBy W none) => refRight_any _ A.length c0 a0 A W rfl ((HS5.out.2 (a0, A) (by simp)).1.stay hg) (HS5.out.2 (a0, A) (by simp)).2)
    have HC3 := Lib.hid (fun W (hg : W5.grownBy W none) => has_any _ A.length k0 _ A x y W rfl ((HA5.out.stay hg).2.2.pre) (HS5.out.2 (a0, A) (by simp)).2)
    have HC4 := Lib.hid (fun W (hg : W5.grownBy W none) => refHas_any _ A.length c0 a0 A x y W rfl ((HS5.out.2 (a0, A) (by simp)).1.stay hg) (HS5.out.2 (a0, A) (by simp)).2)
    have HC5 := Lib.hid (fun W (hg : W5.grownBy W none) => vcovers_any _ _ A.length B.length k0 k1 _ _ A B W rfl rfl ((HA5.out.stay hg).2.2.pre) ((HB5.out.stay hg).2.2.pre) (HS5.out.2 (a0, A) (by simp)).2 (HS5.out.2 (a1, B) (by simp)).2)
    have HC6 := Lib.hid (fun W (hg : W5.grownBy W none) => refCovers_any _ _ A.length B.length c0 c1 a0 a1 A B W rfl rfl ((HS5.out.2 (a0, A) (by simp)).1.stay hg) ((HS5.out.2 (a1, B) (by simp)).1.stay hg) (HS5.out.2 (a0, A) (by simp)).2 (HS5.out.2 (a1, B) (by simp)).2)
    have HK0 := Lib.hid (fun W (hg : W5.grownBy W none) => keptD_any A.length k0 c0 _ _ g0 A a0 W rfl ((HS5.out.2 (a0, A) (by simp)).1.stay hg) (by have := HL.out.1; omega) HA5.out.1 HA5.out.2.1 (HA5.out.stay hg).2.2)
    have HK1 := Lib.hid (fun W (hg : W5.grownBy W none) => keptD_any B.length k1 c1 _ _ g1 B a1 W rfl ((HS5.out.2 (a1, B) (by simp)).1.stay hg) (by have := HL.out.2; omega) HB5.out.1 HB5.out.2.1 (HB5.out.stay hg).2.2)
    generalize rtB 0 A = r at HC1 HC2
    generalize hasB A (x, y) = hh at HC3 HC4
    generalize cvB A B = cc at HC5 HC6
    go_wp2_with fail
    refine wp_region_flow3 (Fg.its [.any, .any, .any, .any, .any, .any, .val (.bool true), .any, .any, .any, .any, .any, .any, .any, .any, .any, .any, .any, .any, .any, .val (.slice (some ⟨g0, 0, none⟩) A.length k0), .val (.bool r), .val (.slice a0 A.length c0), .val (.bool r), .val (.bool true), .val (.bool true), .val (.slice (some ⟨g0, 0, none⟩) A.length k0), .val (.agg #[iV x, iV y]), .val (.bool hh), .val (.slice a0 A.length c0), .val (.agg #[iV x, iV y]), .val (.bool hh), .val (.bool true), .val (.bool true), .val (.bool true), .val (.slice (some ⟨g0, 0, none⟩) A.length k0), .val (.slice (some ⟨g1, 0, none⟩) B.length k1), .val (.bool cc), .val (.slice a0 A.length c0), .val (.slice a1 B.length c1), .val (.bool cc), .val (.bool true), .val (.bool true), .val (.bool true), .val (.slice (some ⟨g0, 0, none⟩) A.length k0), .val (.slice a0 A.length c0), .val (.bool true), .val (.bool true), .val (.bool true), .val (.slice (some ⟨g1, 0, none⟩) B.length k1), .val (.slice a1 B.length c1), .val (.bool true), .val (.bool true)]) (fun _ => 0) (fun _ _ _ => True) (fun w => World.grownBy W5 w none) [] (by kernel_rfl) (by kernel_rfl) (by kernel_rfl) (gb_drew (gb_refl _ _)) (Fg.ptrs_nil _ _) (Fg.no_store (by kernel_rfl)) ?_ ?_
    · refine ⟨Fg.value rfl fun ac w h => ?_, ?_⟩
      · have e7 : ac.tmps.getD 7 undef = .slice (some ⟨g0, 0, none⟩) A.length k0 := h.rest 7 (by kernel_rfl)
        refine ⟨wants_none rfl, .slice (some ⟨g0, 0, none⟩) A.length k0, w, ?_, gb_refl _ _, rfl⟩
        clear h
        simp only [execOp, Act.eval, e7]
        go_simp
      refine ⟨Fg.call rfl fun ac w h => ?_, ?_⟩
      · have e20 : ac.tmps.getD 20 undef = .slice (some ⟨g0, 0, none⟩) A.length k0 := h.dep 20 (by kernel_rfl)
        have x20 : ac.tmps[20]?.getD undef = .slice (some ⟨g0, 0, none⟩) A.length k0 := by simpa using e20
        have hb := h.base
        refine ⟨wants_none rfl, 12, #[.slice (some ⟨g0, 0, none⟩) A.length k0], ?_, ?_⟩
        · clear h hb e20
          go_simp
        · refine (HC1.out w h.base).mono ?_
          intro e w1 hp
          obtain ⟨rfl, hg⟩ := hp
          exact ⟨_, rfl, hg, rfl⟩
      refine ⟨Fg.value rfl fun ac w h => ?_, ?_⟩
      · have e0 : ac.tmps.getD 0 undef = .slice a0 A.length c0 := h.rest 0 (by kernel_rfl)
        refine ⟨wants_none rfl, .slice a0 A.length c0, w, ?_, gb_refl _ _, rfl⟩
        clear h
        simp only [execOp, Act.eval, e0]
        go_simp
      refine ⟨Fg.call rfl fun ac w h => ?_, ?_⟩
      · have e22 : ac.tmps.getD 22 undef = .slice a0 A.length c0 := h.dep 22 (by kernel_rfl)
        have x22 : ac.tmps[22]?.getD undef = .slice a0 A.length c0 := by simpa using e22
        have hb := h.base
        refine ⟨wants_none rfl, 13, #[.slice a0 A.length c0], ?_, ?_⟩
        · clear h hb e22
          go_simp
        · refine (HC2.out w h.base).mono ?_
          intro e w1 hp
          obtain ⟨rfl, hg⟩ := hp
          exact ⟨_, rfl, hg, rfl⟩
      refine ⟨Fg.value rfl fun ac w h => ?_, ?_⟩
      · have e21 : ac.tmps.getD 21 undef = .bool r := h.dep 21 (by kernel_rfl)
        have e23 : ac.tmps.getD 23 undef = .bool r := h.dep 23 (by kernel_rfl)
        refine ⟨wants_none rfl, .bool true, w, ?_, gb_refl _ _, rfl⟩
        clear h
        simp only [execOp, Act.eval, e21, e23]
        go_simp
      refine ⟨Fg.value rfl fun ac w h => ?_, ?_⟩
      · have e24 : ac.tmps.getD 24 undef = .bool true := h.dep 24 (by kernel_rfl)
        refine ⟨wants_none rfl, .bool true, w, ?_, gb_refl _ _, rfl⟩
        clear h
        simp only [execOp, Act.eval, e24]
        go_simp
      refine ⟨Fg.value rfl fun ac w h => ?_, ?_⟩
      · have e25 : ac.tmps.getD 25 undef = .bool true := h.dep 25 (by kernel_rfl)
        have e7 : ac.tmps.getD 7 undef = .slice (some ⟨g0, 0, none⟩) A.length k0 := h.rest 7 (by kernel_rfl)
        refine ⟨wants_some (d := 25) rfl rfl (by rw [h.size]; show 25 < 53; decide) e25, .slice (some ⟨g0, 0, none⟩) A.length k0, w, ?_, gb_refl _ _, rfl⟩
        clear h
        simp only [execOp, Act.eval, e7]
        go_simp
      refine ⟨Fg.value rfl fun ac w h => ?_, ?_⟩
      · have e25 : ac.tmps.getD 25 undef = .bool true := h.dep 25 (by kernel_rfl)
        have e5 : ac.tmps.getD 5 undef = .pointer (some ⟨N, 0, none⟩) := h.rest 5 (by kernel_rfl)
        have c1 := (HD.out h.base).1
        have c2 := (HD.out h.base).2
        refine ⟨wants_some (d := 25) rfl rfl (by rw [h.size]; show 25 < 53; decide) e25, .agg #[iV x, iV y], w, ?_, gb_refl _ _, rfl⟩
        clear h
        simp only [execOp, Act.eval, e5]
        go_simp
      refine ⟨Fg.call rfl fun ac w h => ?_, ?_⟩
      · have e25 : ac.tmps.getD 25 undef = .bool true := h.dep 25 (by kernel_rfl)
        have e26 : ac.tmps.getD 26 undef = .slice (some ⟨g0, 0, none⟩) A.length k0 := h.dep 26 (by kernel_rfl)
        have x26 : ac.tmps[26]?.getD undef = .slice (some ⟨g0, 0, none⟩) A.length k0 := by simpa using e26
        have e27 : ac.tmps.getD 27 undef = .agg #[iV x, iV y] := h.dep 27 (by kernel_rfl)
        have x27 : ac.tmps[27]?.getD undef = .agg #[iV x, iV y] := by simpa using e27
        have hb := h.base
        refine ⟨wants_some (d := 25) rfl rfl (by rw [h.size]; show 25 < 53; decide) e25, 9, #[.slice (some ⟨g0, 0, none⟩) A.length k0, .agg #[iV x, iV y]], ?_, ?_⟩
        · clear h hb e26 e27
          go_simp
        · refine (HC3.out w h.base).mono ?_
          intro e w1 hp
          obtain ⟨rfl, hg⟩ := hp
          exact ⟨_, rfl, hg, rfl⟩
      refine ⟨Fg.value rfl fun ac w h => ?_, ?_⟩
      · have e25 : ac.tmps.getD 25 undef = .bool true := h.dep 25 (by kernel_rfl)
        have e0 : ac.tmps.getD 0 undef = .slice a0 A.length c0 := h.rest 0 (by kernel_rfl)
        refine ⟨wants_some (d := 25) rfl rfl (by rw [h.size]; show 25 < 53; decide) e25, .slice a0 A.length c0, w, ?_, gb_refl _ _, rfl⟩
        clear h
        simp only [execOp, Act.eval, e0]
        go_simp
      refine ⟨Fg.value rfl fun ac w h => ?_, ?_⟩
      · have e25 : ac.tmps.getD 25 undef = .bool true := h.dep 25 (by kernel_rfl)
        have e5 : ac.tmps.getD 5 undef = .pointer (some ⟨N, 0, none⟩) := h.rest 5 (by kernel_rfl)
        have c1 := (HD.out h.base).1
        have c2 := (HD.out h.base).2
        refine ⟨wants_some (d := 25) rfl rfl (by rw [h.size]; show 25 < 53; decide) e25, .agg #[iV x, iV y], w, ?_, gb_refl _ _, rfl⟩
        clear h
        simp only [execOp, Act.eval, e5]
        go_simp
      refine ⟨Fg.call rfl fun ac w h => ?_, ?_⟩
      · have e25 : ac.tmps.getD 25 undef = .bool true := h.dep 25 (by kernel_rfl)
        have e29 : ac.tmps.getD 29 undef = .slice a0 A.length c0 := h.dep 29 (by kernel_rfl)
        have x29 : ac.tmps[29]?.getD undef = .slice a0 A.length c0 := by simpa using e29
        have e30 : ac.tmps.getD 30 undef = .agg #[iV x, iV y] := h.dep 30 (by kernel_rfl)
        have x30 : ac.tmps[30]?.getD undef = .agg #[iV x, iV y] := by simpa using e30
        have hb := h.base
        refine ⟨wants_some (d := 25) rfl rfl (by rw [h.size]; show 25 < 53; decide) e25, 14, #[.slice a0 A.length c0, .agg #[iV x, iV y]], ?_, ?_⟩
        · clear h hb e29 e30
          go_simp
        · refine (HC4.out w h.base).mono ?_
          intro e w1 hp
          obtain ⟨rfl, hg⟩ := hp
          exact ⟨_, rfl, hg, rfl⟩
      refine ⟨Fg.value rfl fun ac w h => ?_, ?_⟩
      · have e25 : ac.tmps.getD 25 undef = .bool true := h.dep 25 (by kernel_rfl)
        have e28 : ac.tmps.getD 28 undef = .bool hh := h.dep 28 (by kernel_rfl)
        have e31 : ac.tmps.getD 31 undef = .bool hh := h.dep 31 (by kernel_rfl)
        refine ⟨wants_some (d := 25) rfl rfl (by rw [h.size]; show 25 < 53; decide) e25, .bool true, w, ?_, gb_refl _ _, rfl⟩
        clear h
        simp only [execOp, Act.eval, e28, e31]
        go_simp
      refine ⟨Fg.value rfl fun ac w h => ?_, ?_⟩
      · have e25 : ac.tmps.getD 25 undef = .bool true := h.dep 25 (by kernel_rfl)
        have e32 : ac.tmps.getD 32 undef = .bool true := h.dep 32 (by kernel_rfl)
        refine ⟨wants_none rfl, .bool true, w, ?_, gb_refl _ _, rfl⟩
        clear h
        simp only [execOp, Act.eval, e25, e32]
        go_simp
      refine ⟨Fg.value rfl fun ac w h => ?_, ?_⟩
      · have e33 : ac.tmps.getD 33 undef = .bool true := h.dep 33 (by kernel_rfl)
        refine ⟨wants_none rfl, .bool true, w, ?_, gb_refl _ _, rfl⟩
        clear h
        simp only [execOp, Act.eval, e33]
        go_simp
      refine ⟨Fg.value rfl fun ac w h => ?_, ?_⟩
      · have e34 : ac.tmps.getD 34 undef = .bool true := h.dep 34 (by kernel_rfl)
        have e7 : ac.tmps.getD 7 undef = .slice (some ⟨g0, 0, none⟩) A.length k0 := h.rest 7 (by kernel_rfl)
        refine ⟨wants_some (d := 34) rfl rfl (by rw [h.size]; show 34 < 53; decide) e34, .slice (some ⟨g0, 0, none⟩) A.length k0, w, ?_, gb_refl _ _, rfl⟩
        clear h
        simp only [execOp, Act.eval, e7]
        go_simp
      refine ⟨Fg.value rfl fun ac w h => ?_, ?_⟩
      · have e34 : ac.tmps.getD 34 undef = .bool true := h.dep 34 (by kernel_rfl)
        have e8 : ac.tmps.getD 8 undef = .slice (some ⟨g1, 0, none⟩) B.length k1 := h.rest 8 (by kernel_rfl)
        refine ⟨wants_some (d := 34) rfl rfl (by rw [h.size]; show 34 < 53; decide) e34, .slice (some ⟨g1, 0, none⟩) B.length k1, w, ?_, gb_refl _ _, rfl⟩
        clear h
        simp only [execOp, Act.eval, e8]
        go_simp
      refine ⟨Fg.call rfl fun ac w h => ?_, ?_⟩
      · have e34 : ac.tmps.getD 34 undef = .bool true := h.dep 34 (by kernel_rfl)
        have e35 : ac.tmps.getD 35 undef = .slice (some ⟨g0, 0, none⟩) A.length k0 := h.dep 35 (by kernel_rfl)
        have x35 : ac.tmps[35]?.getD undef = .slice (some ⟨g0, 0, none⟩) A.length k0 := by simpa using e35
        have e36 : ac.tmps.getD 36 undef = .slice (some ⟨g1, 0, none⟩) B.length k1 := h.dep 36 (by kernel_rfl)
        have x36 : ac.tmps[36]?.getD undef = .slice (some ⟨g1, 0, none⟩) B.length k1 := by simpa using e36
        have hb := h.base
        refine ⟨wants_some (d := 34) rfl rfl (by rw [h.size]; show 34 < 53; decide) e34, 15, #[.slice (some ⟨g0, 0, none⟩) A.length k0, .slice (some ⟨g1, 0, none⟩) B.length k1], ?_, ?_⟩
        · clear h hb e35 e36
          go_simp
        · refine (HC5.out w h.base).mono ?_
          intro e w1 hp
          obtain ⟨rfl, hg⟩ := hp
          exact ⟨_, rfl, hg, rfl⟩
      refine ⟨Fg.value rfl fun ac w h => ?_, ?_⟩
      · have e34 : ac.tmps.getD 34 undef = .bool true := h.dep 34 (by kernel_rfl)
        have e0 : ac.tmps.getD 0 undef = .slice a0 A.length c0 := h.rest 0 (by kernel_rfl)
        refine ⟨wants_some (d := 34) rfl rfl (by rw [h.size]; show 34 < 53; decide) e34, .slice a0 A.length c0, w, ?_, gb_refl _ _, rfl⟩
        clear h
        simp only [execOp, Act.eval, e0]
        go_simp
      refine ⟨Fg.value rfl fun ac w h => ?_, ?_⟩
      · have e34 : ac.tmps.getD 34 undef = .bool true := h.dep 34 (by kernel_rfl)
        have e1 : ac.tmps.getD 1 undef = .slice a1 B.length c1 := h.rest 1 (by kernel_rfl)
        refine ⟨wants_some (d := 34) rfl rfl (by rw [h.size]; show 34 < 53; decide) e34, .slice a1 B.length c1, w, ?_, gb_refl _ _, rfl⟩
        clear h
        simp only [execOp, Act.eval, e1]
        go_simp
      refine ⟨Fg.call rfl fun ac w h => ?_, ?_⟩
      · have e34 : ac.tmps.getD 34 undef = .bool true := h.dep 34 (by kernel_rfl)
        have e38 : ac.tmps.getD 38 undef = .slice a0 A.length c0 := h.dep 38 (by kernel_rfl)
        have x38 : ac.tmps[38]?.getD undef = .slice a0 A.length c0 := by simpa using e38
        have e39 : ac.tmps.getD 39 undef = .slice a1 B.length c1 := h.dep 39 (by kernel_rfl)
        have x39 : ac.tmps[39]?.getD undef = .slice a1 B.length c1 := by simpa using e39
        have hb := h.base
        refine ⟨wants_some (d := 34) rfl rfl (by rw [h.size]; show 34 < 53; decide) e34, 16, #[.slice a0 A.length c0, .slice a1 B.length c1], ?_, ?_⟩
        · clear h hb e38 e39
          go_simp
        · refine (HC6.out w h.base).mono ?_
          intro e w1 hp
          obtain ⟨rfl, hg⟩ := hp
          exact ⟨_, rfl, hg, rfl⟩
      refine ⟨Fg.value rfl fun ac w h => ?_, ?_⟩
      · have e34 : ac.tmps.getD 34 undef = .bool true := h.dep 34 (by kernel_rfl)
        have e37 : ac.tmps.getD 37 undef = .bool cc := h.dep 37 (by kernel_rfl)
        have e40 : ac.tmps.getD 40 undef = .bool cc := h.dep 40 (by kernel_rfl)
        refine ⟨wants_some (d := 34) rfl rfl (by rw [h.size]; show 34 < 53; decide) e34, .bool true, w, ?_, gb_refl _ _, rfl⟩
        clear h
        simp only [execOp, Act.eval, e37, e40]
        go_simp
      refine ⟨Fg.value rfl fun ac w h => ?_, ?_⟩
      · have e34 : ac.tmps.getD 34 undef = .bool true := h.dep 34 (by kernel_rfl)
        have e41 : ac.tmps.getD 41 undef = .bool true := h.dep 41 (by kernel_rfl)
        refine ⟨wants_none rfl, .bool true, w, ?_, gb_refl _ _, rfl⟩
        clear h
        simp only [execOp, Act.eval, e34, e41]
        go_simp
      refine ⟨Fg.value rfl fun ac w h => ?_, ?_⟩
      · have e42 : ac.tmps.getD 42 undef = .bool true := h.dep 42 (by kernel_rfl)
        refine ⟨wants_none rfl, .bool true, w, ?_, gb_refl _ _, rfl⟩
        clear h
        simp only [execOp, Act.eval, e42]
        go_simp
      refine ⟨Fg.value rfl fun ac w h => ?_, ?_⟩
      · have e43 : ac.tmps.getD 43 undef = .bool true := h.dep 43 (by kernel_rfl)
        have e7 : ac.tmps.getD 7 undef = .slice (some ⟨g0, 0, none⟩) A.length k0 := h.rest 7 (by kernel_rfl)
        refine ⟨wants_some (d := 43) rfl rfl (by rw [h.size]; show 43 < 53; decide) e43, .slice (some ⟨g0, 0, none⟩) A.length k0, w, ?_, gb_refl _ _, rfl⟩
        clear h
        simp only [execOp, Act.eval, e7]
        go_simp
      refine ⟨Fg.value rfl fun ac w h => ?_, ?_⟩
      · have e43 : ac.tmps.getD 43 undef = .bool true := h.dep 43 (by kernel_rfl)
        have e0 : ac.tmps.getD 0 undef = .slice a0 A.length c0 := h.rest 0 (by kernel_rfl)
        refine ⟨wants_some (d := 43) rfl rfl (by rw [h.size]; show 43 < 53; decide) e43, .slice a0 A.length c0, w, ?_, gb_refl _ _, rfl⟩
        clear h
        simp only [execOp, Act.eval, e0]
        go_simp
      refine ⟨Fg.call rfl fun ac w h => ?_, ?_⟩
      · have e43 : ac.tmps.getD 43 undef = .bool true := h.dep 43 (by kernel_rfl)
        have e44 : ac.tmps.getD 44 undef = .slice (some ⟨g0, 0, none⟩) A.length k0 := h.dep 44 (by kernel_rfl)
        have x44 : ac.tmps[44]?.getD undef = .slice (some ⟨g0, 0, none⟩) A.length k0 := by simpa using e44
        have e45 : ac.tmps.getD 45 undef = .slice a0 A.length c0 := h.dep 45 (by kernel_rfl)
        have x45 : ac.tmps[45]?.getD undef = .slice a0 A.length c0 := by simpa using e45
        have hb := h.base
        refine ⟨wants_some (d := 43) rfl rfl (by rw [h.size]; show 43 < 53; decide) e43, 17, #[.slice (some ⟨g0, 0, none⟩) A.length k0, .slice a0 A.length c0], ?_, ?_⟩
        · clear h hb e44 e45
          go_simp
        · refine (HK0.out w h.base).mono ?_
          intro e w1 hp
          obtain ⟨rfl, hg⟩ := hp
          exact ⟨_, rfl, hg, rfl⟩
      refine ⟨Fg.value rfl fun ac w h => ?_, ?_⟩
      · have e43 : ac.tmps.getD 43 undef = .bool true := h.dep 43 (by kernel_rfl)
        have e46 : ac.tmps.getD 46 undef = .bool true := h.dep 46 (by kernel_rfl)
        refine ⟨wants_none rfl, .bool true, w, ?_, gb_refl _ _, rfl⟩
        clear h
        simp only [execOp, Act.eval, e43, e46]
        go_simp
      refine ⟨Fg.value rfl fun ac w h => ?_, ?_⟩
      · have e47 : ac.tmps.getD 47 undef = .bool true := h.dep 47 (by kernel_rfl)
        refine ⟨wants_none rfl, .bool true, w, ?_, gb_refl _ _, rfl⟩
        clear h
        simp only [execOp, Act.eval, e47]
        go_simp
      refine ⟨Fg.value rfl fun ac w h => ?_, ?_⟩
      · have e48 : ac.tmps.getD 48 undef = .bool true := h.dep 48 (by kernel_rfl)
        have e8 : ac.tmps.getD 8 undef = .slice (some ⟨g1, 0, none⟩) B.length k1 := h.rest 8 (by kernel_rfl)
        refine ⟨wants_some (d := 48) rfl rfl (by rw [h.size]; show 48 < 53; decide) e48, .slice (some ⟨g1, 0, none⟩) B.length k1, w, ?_, gb_refl _ _, rfl⟩
        clear h
        simp only [execOp, Act.eval, e8]
        go_simp
      refine ⟨Fg.value rfl fun ac w h => ?_, ?_⟩
      · have e48 : ac.tmps.getD 48 undef = .bool true := h.dep 48 (by kernel_rfl)
        have e1 : ac.tmps.getD 1 undef = .slice a1 B.length c1 := h.rest 1 (by kernel_rfl)
        refine ⟨wants_some (d := 48) rfl rfl (by rw [h.size]; show 48 < 53; decide) e48, .slice a1 B.length c1, w, ?_, gb_refl _ _, rfl⟩
        clear h
        simp only [execOp, Act.eval, e1]
        go_simp
      refine ⟨Fg.call rfl fun ac w h => ?_, ?_⟩
      · have e48 : ac.tmps.getD 48 undef = .bool true := h.dep 48 (by kernel_rfl)
        have e49 : ac.tmps.getD 49 undef = .slice (some ⟨g1, 0, none⟩) B.length k1 := h.dep 49 (by kernel_rfl)
        have x49 : ac.tmps[49]?.getD undef = .slice (some ⟨g1, 0, none⟩) B.length k1 := by simpa using e49
        have e50 : ac.tmps.getD 50 undef = .slice a1 B.length c1 := h.dep 50 (by kernel_rfl)
        have x50 : ac.tmps[50]?.getD undef = .slice a1 B.length c1 := by simpa using e50
        have hb := h.base
        refine ⟨wants_some (d := 48) rfl rfl (by rw [h.size]; show 48 < 53; decide) e48, 17, #[.slice (some ⟨g1, 0, none⟩) B.length k1, .slice a1 B.length c1], ?_, ?_⟩
        · clear h hb e49 e50
          go_simp
        · refine (HK1.out w h.base).mono ?_
          intro e w1 hp
          obtain ⟨rfl, hg⟩ := hp
          exact ⟨_, rfl, hg, rfl⟩
      refine ⟨Fg.value rfl fun ac w h => ?_, ?_⟩
      · have e48 : ac.tmps.getD 48 undef = .bool true := h.dep 48 (by kernel_rfl)
        have e51 : ac.tmps.getD 51 undef = .bool true := h.dep 51 (by kernel_rfl)
        refine ⟨wants_none rfl, .bool true, w, ?_, gb_refl _ _, rfl⟩
        clear h
        simp only [execOp, Act.eval, e48, e51]
        go_simp
      refine ⟨Fg.value rfl fun ac w h => ?_, ?_⟩
      · have e52 : ac.tmps.getD 52 undef = .bool true := h.dep 52 (by kernel_rfl)
        refine ⟨wants_none rfl, .bool true, w, ?_, gb_refl _ _, rfl⟩
        clear h
        simp only [execOp, Act.eval, e52]
        go_simp
      trivial
    · intro aq wq hB hsz hdf hrest hslots _
      obtain ⟨u20, hs20⟩ : ∃ u, aq.tmps.getD 20 undef = u := ⟨_, rfl⟩
      obtain ⟨u21, hs21⟩ : ∃ u, aq.tmps.getD 21 undef = u := ⟨_, rfl⟩
      obtain ⟨u22, hs22⟩ : ∃ u, aq.tmps.getD 22 undef = u := ⟨_, rfl⟩
      obtain ⟨u23, hs23⟩ : ∃ u, aq.tmps.getD 23 undef = u := ⟨_, rfl⟩
      obtain ⟨u24, hs24⟩ : ∃ u, aq.tmps.getD 24 undef = u := ⟨_, rfl⟩
      obtain ⟨u25, hs25⟩ : ∃ u, aq.tmps.getD 25 undef = u := ⟨_, rfl⟩
      obtain ⟨u26, hs26⟩ : ∃ u, aq.tmps.getD 26 undef = u := ⟨_, rfl⟩
      obtain ⟨u27, hs27⟩ : ∃ u, aq.tmps.getD 27 undef = u := ⟨_, rfl⟩
      obtain ⟨u28, hs28⟩ : ∃ u, aq.tmps.getD 28 undef = u := ⟨_, rfl⟩
      obtain ⟨u29, hs29⟩ : ∃ u, aq.tmps.getD 29 undef = u := ⟨_, rfl⟩
      obtain ⟨u30, hs30⟩ : ∃ u, aq.tmps.getD 30 undef = u := ⟨_, rfl⟩
      obtain ⟨u31, hs31⟩ : ∃ u, aq.tmps.getD 31 undef = u := ⟨_, rfl⟩
      obtain ⟨u32, hs32⟩ : ∃ u, aq.tmps.getD 32 undef = u := ⟨_, rfl⟩
      obtain ⟨u33, hs33⟩ : ∃ u, aq.tmps.getD 33 undef = u := ⟨_, rfl⟩
      obtain ⟨u34, hs34⟩ : ∃ u, aq.tmps.getD 34 undef = u := ⟨_, rfl⟩
      obtain ⟨u35, hs35⟩ : ∃ u, aq.tmps.getD 35 undef = u := ⟨_, rfl⟩
      obtain ⟨u36, hs36⟩ : ∃ u, aq.tmps.getD 36 undef = u := ⟨_, rfl⟩
      obtain ⟨u37, hs37⟩ : ∃ u, aq.tmps.getD 37 undef = u := ⟨_, rfl⟩
      obtain ⟨u38, hs38⟩ : ∃ u, aq.tmps.getD 38 undef = u := ⟨_, rfl⟩
      obtain ⟨u39, hs39⟩ : ∃ u, aq.tmps.getD 39 undef = u := ⟨_, rfl⟩
      obtain ⟨u40, hs40⟩ : ∃ u, aq.tmps.getD 40 undef = u := ⟨_, rfl⟩
      obtain ⟨u41, hs41⟩ : ∃ u, aq.tmps.getD 41 undef = u := ⟨_, rfl⟩
      obtain ⟨u42, hs42⟩ : ∃ u, aq.tmps.getD 42 undef = u := ⟨_, rfl⟩
      obtain ⟨u43, hs43⟩ : ∃ u, aq.tmps.getD 43 undef = u := ⟨_, rfl⟩
      obtain ⟨u44, hs44⟩ : ∃ u, aq.tmps.getD 44 undef = u := ⟨_, rfl⟩
      obtain ⟨u45, hs45⟩ : ∃ u, aq.tmps.getD 45 undef = u := ⟨_, rfl⟩
      obtain ⟨u46, hs46⟩ : ∃ u, aq.tmps.getD 46 undef = u := ⟨_, rfl⟩
      obtain ⟨u47, hs47⟩ : ∃ u, aq.tmps.getD 47 undef = u := ⟨_, rfl⟩
      obtain ⟨u48, hs48⟩ : ∃ u, aq.tmps.getD 48 undef = u := ⟨_, rfl⟩
      obtain ⟨u49, hs49⟩ : ∃ u, aq.tmps.getD 49 undef = u := ⟨_, rfl⟩
      obtain ⟨u50, hs50⟩ : ∃ u, aq.tmps.getD 50 undef = u := ⟨_, rfl⟩
      obtain ⟨u51, hs51⟩ : ∃ u, aq.tmps.getD 51 undef = u := ⟨_, rfl⟩
      obtain ⟨u52, hs52⟩ : ∃ u, aq.tmps.getD 52 undef = u := ⟨_, rfl⟩
      obtain rfl := Fg.frame_is (a := aq) (vs := [Value.slice a0 A.length c0, Value.slice a1 B.length c1, Value.agg #[iV x, iV y], undef, undef, Value.pointer (some ⟨N, 0, none⟩), Value.bool true, Value.slice (some ⟨g0, 0, none⟩) A.length k0, Value.slice (some ⟨g1, 0, none⟩) B.length k1, Value.bool true, Value.bool false, Value.slice a0 A.length c0, Value.slice a1 B.length c1, Value.slice (some ⟨w1.heap.size, 0, none⟩) 2 2, Value.bool true, Value.bool false, Value.slice a0 A.length c0, Value.slice (some ⟨g0, 0, none⟩) A.length k0, Value.slice a1 B.length c1, Value.slice (some ⟨g1, 0, none⟩) B.length k1, u20, u21, u22, u23, u24, u25, u26, u27, u28, u29, u30, u31, u32, u33, u34, u35, u36, u37, u38, u39, u40, u41, u42, u43, u44, u45, u46, u47, u48, u49, u50, u51, u52]) hsz ⟨hrest 0 (by kernel_rfl), hrest 1 (by kernel_rfl), hrest 2 (by kernel_rfl), hrest 3 (by kernel_rfl), hrest 4 (by kernel_rfl), hrest 5 (by kernel_rfl), (show aq.tmps.getD 6 undef = Value.bool true from hslots 6 (by kernel_rfl)), hrest 7 (by kernel_rfl), hrest 8 (by kernel_rfl), hrest 9 (by kernel_rfl), hrest 10 (by kernel_rfl), hrest 11 (by kernel_rfl), hrest 12 (by kernel_rfl), hrest 13 (by kernel_rfl), hrest 14 (by kernel_rfl), hrest 15 (by kernel_rfl), hrest 16 (by kernel_rfl), hrest 17 (by kernel_rfl), hrest 18 (by kernel_rfl), hrest 19 (by kernel_rfl), hs20, hs21, hs22, hs23, hs24, hs25, hs26, hs27, hs28, hs29, hs30, hs31, hs32, hs33, hs34, hs35, hs36, hs37, hs38, hs39, hs40, hs41, hs42, hs43, hs44, hs45, hs46, hs47, hs48, hs49, hs50, hs51, hs52, trivial⟩ hdf
      have HB0 := Lib.hid hB
      clear hB hsz hdf hrest hslots hs20 hs21 hs22 hs23 hs24 hs25 hs26 hs27 hs28 hs29 hs30 hs31 hs32 hs33 hs34 hs35 hs36 hs37 hs38 hs39 hs40 hs41 hs42 hs43 hs44 hs45 hs46 hs47 hs48 hs49 hs50 hs51 hs52
      go_wp2
      exact HQ.out _ (gb_trans HG5.out HB0.out)
end Ve
end Go.Proofs.YtkffbaihknhefaaGreat
