/- texts merged, part 1: XSbPuts -/
import Derived.Test.YtlkiancedgaicaaGreatPtB4
import Derived.Test.YtlkiancedgaicaaGreatPtB5
import Derived.Test.YtlkiancedgaicaaGreatPtB6
import Derived.Test.YtlkiancedgaicaaGreatPtB3
/- The law on a set's bytes, held against the document's. -/
namespace Go.Proofs.YtlkiancedgaicaaGreat
open Go.RowKit Ow Wi Ve Rc
namespace Sb
/-- the bytes that Put tells -/
def LS (l : List R) : List Nat := if setB l then setL l else []
def PutS (w : World) (l : List R) (e : Ending) (w' : World) : Prop := ∃ v, e = .returned (.tuple #[v, .int .i64 (errN (setB l) 4)]) ∧ w.grownBy w' none ∧ w'.ownsRow w.heap.size 5 1 v (LS l).length ((LS l).map u8N)
theorem puts_any (B n c : Nat) (a : Option Addr) (l : List E) (w : World) (hn : l.length = n) (h : RRow w B a l) (hc : n ≤ 1000000) (hb : setB (recs l) = true → (setL (recs l)).length ≤ 900000) :
    Calls Tryz.prog 42 #[.slice a n c] w (PutS w (recs l)) :=
  (sput_any B n c a l w hn h hc hb).mono fun e w' ⟨hg, ho⟩ => by
    unfold PutS LS
    cases hs : setB (recs l) with
    | true =>
      rw [hs, if_pos rfl] at ho
      obtain ⟨v, rfl, hv⟩ := ho
      exact ⟨v, rfl, hg, hv⟩
    | false =>
      rw [hs, if_neg (by simp)] at ho
      subst ho
      exact ⟨_, rfl, hg, World.ownsRow_nil _ _ _ _⟩
theorem refPuts_any (B n c : Nat) (a : Option Addr) (l : List E) (w : World) (hn : l.length = n) (h : RRow w B a l) (hc : n ≤ 1000000) (hb : setB (recs l) = true → (setL (recs l)).length ≤ 900000) :
    Calls Tryz.prog 43 #[.slice a n c] w (PutS w (recs l)) :=
  (refPut9_any B n c a l w hn h hc hb).mono fun e w' ⟨hg, ho⟩ => by
    unfold PutS LS
    cases hs : setB (recs l) with
    | true =>
      rw [hs, if_pos rfl] at ho
      obtain ⟨v, rfl, hv⟩ := ho
      exact ⟨v, rfl, hg, hv⟩
    | false =>
      rw [hs, if_neg (by simp)] at ho
      subst ho
      exact ⟨_, rfl, hg, World.ownsRow_nil _ _ _ _⟩
theorem right_sig {r : R} (h : rightB r = true) : r.sig.length = 64 := by
  simp only [rightB, Bool.and_eq_true] at h
  have := h.2
  simpa using this
theorem set_few16 {w : World} {B : Nat} {l : List E} (h : ∀ x ∈ l, RAt w B x.1 x.2) (hr : ∀ x ∈ l, rightB x.2 = true) : (rowsL (recs l)).length ≤ 16 * sumC l := by
  induction l with
  | nil => simp [rowsL, sumC]
  | cons x l ih =>
    have hx := h x (by simp)
    have h1 := ih (fun y hy => h y (List.mem_cons_of_mem _ hy)) (fun y hy => hr y (List.mem_cons_of_mem _ hy))
    have h64 := right_sig (hr x (by simp))
    have e : rowsL (recs (x :: l)) = rowL (putL x.2) ++ rowsL (recs l) := by
      rw [show recs (x :: l) = [x.2] ++ recs l from rfl, rowsL_app, rowsL_one]
    have e2 : sumC (x :: l) = cntE x + sumC l := by simp [sumC]
    have h3 := hx.l3
    rw [e, e2, List.length_append, rowL_length, putL_len, hx.keyLen, hx.l1, hx.l2, hx.l3]
    unfold cntE
    omega
set_option linter.unusedSimpArgs false
set_option maxRecDepth 100000 in
set_option maxHeartbeats 4000000 in
theorem sputs_any (a0 : Option Addr) (n cap0 : Nat) (A : List E) (W : World) (hn : A.length = n) (hA : RRow W W.heap.size a0 A) (rA : a0 = none → cap0 = 0) (hn2 : n < 9223372036854775808) (fA : ∀ x ∈ A, Fits x ∧ (x.1.a1 = none → x.1.c1 = 0)) :
    Calls Tryz.prog 7 #[.slice a0 n cap0] W fun e w' => e = .returned (.bool true) ∧ W.grownBy w' none := by
  obtain ⟨mk, hmk⟩ := marks_are
  have HMK := Lib.hid hmk; clear hmk
  obtain ⟨Q, hQ⟩ : ∃ Q : Ending → World → Prop, Q = fun e w' => e = .returned (.bool true) ∧ W.grownBy w' none := ⟨_, rfl⟩
  rw [← hQ]
  have HQ : Hid (∀ w', W.grownBy w' none → Q (.returned (.bool true)) w') := fun w' hg => by rw [hQ]; exact ⟨rfl, hg⟩
  clear hQ
  have HG := Lib.hid (great_one W 48 a0 n cap0 A hn hA rA hn2 (fun x hx => (fA x hx).1))
  have HL : Hid (A.length = n ∧ RRow W W.heap.size a0 A ∧ ∀ x ∈ A, x.1.a1 = none → x.1.c1 = 0) := ⟨hn, hA, fun x hx => (fA x hx).2⟩
  clear hn hA rA fA
  go_enter Tryz.func7, Tryz.ntmps7
  go_wp2_with fail
  refine HG.out.mono ?_
  rintro e w2 ⟨gr, rfl, hb, hg2⟩
  have HG2 := Lib.hid hg2; clear hg2 HG
  cases gr with
  | true =>
    have HW := Lib.hid (awake9_any w2)
    go_wp2_with fail
    refine HW.out.mono ?_
    rintro e w3 ⟨rfl, hg3⟩
    have HE := Lib.hid (HQ.out _ (gb_trans HG2.out hg3))
    clear hg3
    go_wp2
    exact HE.out
  | false =>
    have hsum := hb rfl
    clear hb
    have hn3 : n ≤ 2500 := by have h1 := sum_len A; rw [HL.out.1] at h1; omega
    have HFE : Hid (∀ x ∈ A, FewE x) := fun x hx => by
      have h1 := sum_mem hx
      have h2 : cntE x ≤ 2500 := by omega
      unfold cntE at h2
      unfold FewE; omega
    have HSET : Hid ((LS (recs A)).length ≤ 50000 ∧ (setB (recs A) = true → (setL (recs A)).length ≤ 50000)) := by
      have h1 : setB (recs A) = true → (setL (recs A)).length ≤ 50000 := fun hs => by
        have h2 := set_few16 (fun x hx => HL.out.2.1.recs x hx) (right_of hs)
        rw [setL_len]; omega
      refine ⟨?_, h1⟩
      unfold LS
      cases hs : setB (recs A) with
      | true => exact h1 hs
      | false => simp
    clear hsum
    have HLN := Lib.hid (lentRs_any HMK.out n cap0 W.heap.size a0 A w2 HL.out.1 (HL.out.2.1.stay HG2.out) HL.out.2.2 HFE.out (by omega))
    go_wp2_with fail
    refine HLN.out.mono ?_
    rintro e w3 ⟨G, O, rfl, hg3, hG, hlr⟩
    have hro := lents_recs hlr.at_
    have HRA : Hid (∀ w', w3.grownBy w' none → RRow w' w'.heap.size a0 A) := fun w' hg => (HL.out.2.1.stay (gb_trans HG2.out (gb_trans hg3 hg))).full
    have HRO : Hid (∀ w', w3.grownBy w' none → RRow w' w'.heap.size (some ⟨G, 0, none⟩) O) := fun w' hg => (hlr.stay hg).row (fun x hx => (HRA.out w' hg).recs x hx) HFE.out
    have HKP : Hid (∀ w', w3.grownBy w' none → Calls Tryz.prog 40 #[.slice (some ⟨G, 0, none⟩) n (n + 12), .slice a0 n cap0] w' fun e w'' => e = .returned (.bool true) ∧ w'.grownBy w'' none) := fun w' hg =>
      keptRs_any HMK.out n cap0 w'.heap.size G a0 A O w' HL.out.1 (HRA.out w' hg) HFE.out (hlr.stay hg) (by omega)
    have HOL : Hid (O.length = n ∧ recs O = recs A) := ⟨by rw [hlr.at_.1, HL.out.1], hro⟩
    have HG3 := Lib.hid (gb_trans HG2.out hg3)
    obtain ⟨d0, hd0⟩ : ∃ d0, d0 = n + 12 := ⟨_, rfl⟩
    rw [← hd0] at HKP ⊢
    clear hg3 hG hlr hro HLN hd0
    have HP1 : Hid (∀ w', w3.grownBy w' none → Calls Tryz.prog 42 #[.slice (some ⟨G, 0, none⟩) n d0] w' (PutS w' (recs A))) := fun w' hg => by
      have h := puts_any w'.heap.size n d0 (some ⟨G, 0, none⟩) O w' HOL.out.1 (HRO.out w' hg) (by omega) (fun hs => by rw [HOL.out.2] at hs ⊢; have := HSET.out.2 hs; omega)
      rw [HOL.out.2] at h; exact h
    have HP3 : Hid (∀ w', w3.grownBy w' none → Calls Tryz.prog 43 #[.slice a0 n cap0] w' (PutS w' (recs A))) := fun w' hg =>
      refPuts_any w'.heap.size n cap0 a0 A w' HL.out.1 (HRA.out w' hg) (by omega) (fun hs => by have := HSET.out.2 hs; omega)
    have HR1 : Hid (∀ w', w3.grownBy w' none → Calls Tryz.prog 44 #[.slice (some ⟨G, 0, none⟩) n d0] w' fun e w'' => e = .returned (.bool (setB (recs A))) ∧ w'.grownBy w'' none) := fun w' hg => by
      have h := sright_any w'.heap.size n d0 (some ⟨G, 0, none⟩) O w' HOL.out.1 (HRO.out w' hg) (by omega)
      rw [HOL.out.2] at h; exact h
    have HR3 : Hid (∀ w', w3.grownBy w' none → Calls Tryz.prog 45 #[.slice a0 n cap0] w' fun e w'' => e = .returned (.bool (setB (recs A))) ∧ w'.grownBy w'' none) := fun w' hg =>
      refRight9_any w'.heap.size n cap0 a0 A w' HL.out.1 (HRA.out w' hg) (by omega)
    have hXb : ∀ i, (LS (recs A)).getD i 0 < 256 := by
      unfold LS
      cases hs : setB (recs A) with
      | true =>
        show ∀ i, (setL (recs A)).getD i 0 < 256
        unfold setL
        exact app_byte (encN_byte _) (rowsL_byte (fun x hx => HL.out.2.1.recs x hx) (right_of hs))
      | false => simp
    have hX5 := HSET.out.1
    unfold PutS at HP1 HP3
    generalize LS (recs A) = X at *
    generalize errN (setB (recs A)) 4 = er at *
    generalize setB (recs A) = sb at *
    obtain ⟨nx, hnx⟩ : ∃ nx, X.length = nx := ⟨_, rfl⟩
    rw [hnx] at HP1 HP3 hX5
    have HX := Lib.hid (And.intro hXb hnx)
    clear hXb hnx HSET HFE HRA HRO HOL HL
    go_wp2_with fail
    refine (HP1.out w3 (gb_refl _ _)).mono ?_
    rintro e w4 ⟨v1, rfl, hg4, ho1⟩
    have HG4 := Lib.hid hg4
    have HO1 : Hid (∀ w', w4.grownBy w' none → w'.ownsRow w3.heap.size 5 1 v1 nx (X.map u8N)) := fun w' hg => World.ownsRow.stay ho1 hg
    obtain ⟨a1, c1, rfl, _, hB1, _⟩ := own_slice ho1 HX.out.1
    have HB1 : Hid (∀ w', w4.grownBy w' none → BytesAt w' w'.heap.size a1 c1 X) := fun w' hg => (hB1.stay hg).full
    clear hg4 ho1 hB1
    go_wp2_with fail
    refine (HP1.out w4 HG4.out).mono ?_
    rintro e w5 ⟨v2, rfl, hg5, ho2⟩
    have HG5 := Lib.hid hg5
    have HO2 : Hid (∀ w', w5.grownBy w' none → w'.ownsRow w4.heap.size 5 1 v2 nx (X.map u8N)) := fun w' hg => World.ownsRow.stay ho2 hg
    have HD : Hid ((Value.slice a1 nx c1).ownBlock = none ∨ (Value.slice a1 nx c1).ownBlock ≠ v2.ownBlock) := by
      show _ ∨ _
      cases h1 : (Value.slice a1 nx c1).ownBlock with
      | none => exact Or.inl rfl
      | some g =>
        refine Or.inr fun e => ?_
        have q1 := (World.ownsRow.lt (HO1.out w4 (gb_refl _ _)) g h1).2
        have q2 := (World.ownsRow.lt ho2 g e.symm).1
        omega
    obtain ⟨a2, c2, rfl⟩ := row_shape' ho2
    clear hg5 ho2
    go_wp2_with fail
    refine (HP3.out w5 (gb_trans HG4.out HG5.out)).mono ?_
    rintro e w6 ⟨v3, rfl, hg6, ho3⟩
    obtain ⟨a3, c3, rfl, _, hB3, _⟩ := own_slice ho3 HX.out.1
    have HG6 := Lib.hid hg6
    have HSM := Lib.hid (sameBytes_any w6.heap.size w6.heap.size nx nx c1 c3 a1 a3 X X w6 HX.out.2 HX.out.2 (HB1.out w6 (gb_trans HG5.out hg6)) hB3)
    rw [show decide (X = X) = true from decide_eq_true rfl] at HSM
    clear hg6 ho3 hB3 HP1 HP3
    go_wp2_with fail
    refine HSM.out.mono ?_
    rintro e w7 ⟨rfl, hg7⟩
    have HG7 := Lib.hid (gb_trans HG6.out hg7)
    clear hg7 HSM
    go_wp2_with fail
    refine (HR1.out w7 (gb_trans HG4.out (gb_trans HG5.out HG7.out))).mono ?_
    rintro e w8 ⟨rfl, hg8⟩
    have HG8 := Lib.hid (gb_trans HG7.out hg8)
    clear hg8
    go_wp2_with fail
    refine (HR3.out w8 (gb_trans HG4.out (gb_trans HG5.out HG8.out))).mono ?_
    rintro e w9 ⟨rfl, hg9⟩
    have HG9 := Lib.hid (gb_trans HG8.out hg9)
    clear hg9 HR1 HR3
    have hbb : (sb == sb) = true := by cases sb <;> rfl
    go_wp2_with fail
    refine (HKP.out w9 (gb_trans HG4.out (gb_trans HG5.out HG9.out))).mono ?_
    rintro e w10 ⟨rfl, hg10⟩
    have HG10 := Lib.hid (gb_trans HG9.out hg10)
    clear hg10 hbb HKP
    have HAP := Lib.hid (apart2 HMK.out W w10 (.slice a1 nx c1) (.slice a2 nx c2) w3.heap.size nx nx (X.map u8N) (X.map u8N) HG3.out.size (gb_trans HG3.out (gb_trans HG4.out (gb_trans HG5.out HG10.out))) (HO1.out w10 (gb_trans HG5.out HG10.out)) (own_down (HO2.out w10 HG10.out) HG4.out.size) HD.out ⟨by omega, by omega⟩)
    go_wp2_with fail
    refine HAP.out.mono ?_
    rintro e w11 ⟨rfl, hg11⟩
    have HW := Lib.hid (awake9_any w11)
    have HG11 := Lib.hid hg11
    clear hg11
    go_wp2_with fail
    refine HW.out.mono ?_
    rintro e w12 ⟨rfl, hg12⟩
    have HE := Lib.hid (HQ.out _ (gb_trans HG11.out hg12))
    clear hg12
    go_wp2
    exact HE.out
end Sb
end Go.Proofs.YtlkiancedgaicaaGreat
