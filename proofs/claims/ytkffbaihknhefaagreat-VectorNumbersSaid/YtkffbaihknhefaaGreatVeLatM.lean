/- Three vectors joined and compared: the mathematics of VectorLattice; what a law gives. -/
import Derived.Test.YtkffbaihknhefaaGreatVeAwake
namespace Go.Proofs.YtkffbaihknhefaaGreat
open Go.RowKit Ve
namespace Ve
theorem all2 {a b : List D} (ha : Rt 0 a) (hb : Rt 0 b) : allB [a, b] = true := allB_of (fun l hl => by
  simp only [List.mem_cons, List.not_mem_nil, or_false] at hl; rcases hl with rfl | rfl <;> assumption)
theorem all3 {a b c : List D} (ha : Rt 0 a) (hb : Rt 0 b) (hc : Rt 0 c) : allB [a, b, c] = true := allB_of (fun l hl => by
  simp only [List.mem_cons, List.not_mem_nil, or_false] at hl; rcases hl with rfl | rfl | rfl <;> assumption)
theorem up2 {a b : List D} (ha : Rt 0 a) (hb : Rt 0 b) (c : Int) : up (joinF [a, b]) c = max (up a c) (up b c) := by
  rw [joinF_up (all2 ha hb), mx, mx, mx, um_up ha, um_up hb]
  have := (up_bd (c := c) hb).1
  omega
theorem up3 {a b d : List D} (ha : Rt 0 a) (hb : Rt 0 b) (hd : Rt 0 d) (c : Int) : up (joinF [a, b, d]) c = max (up a c) (max (up b c) (up d c)) := by
  rw [joinF_up (all3 ha hb hd), mx, mx, mx, mx, um_up ha, um_up hb, um_up hd]
  have := (up_bd (c := c) hd).1
  omega
theorem cv_up {a b : List D} (ha : Rt 0 a) (hb : Rt 0 b) : cvB a b = true ↔ ∀ c, up b c ≤ up a c := by
  rw [← covB_up ha hb]
  simp only [cvB, (rtB_iff a 0).2 ha, (rtB_iff b 0).2 hb, Bool.true_and]
structure LatM (a b c : List D) : Prop where
  com : decide (joinF [a, b] = joinF [b, a]) = true
  as1 : decide (joinF [joinF [a, b], c] = joinF [a, b, c]) = true
  as2 : decide (joinF [a, joinF [b, c]] = joinF [a, b, c]) = true
  idm : decide (joinF [a, a] = a) = true
  rt : rtB 0 (joinF [a, b, c]) = true
  c1 : cvB (joinF [a, b, c]) a = true
  c2 : cvB (joinF [a, b, c]) b = true
  c3 : cvB (joinF [a, b, c]) c = true
  least : cvB c a = true → cvB c b = true → cvB c (joinF [a, b]) = true
  eq1 : cvB a b = decide (joinF [a, b] = a)
  eq2 : (cvB a b && cvB b a) = decide (a = b)
theorem latM {a b c : List D} (ha : Rt 0 a) (hb : Rt 0 b) (hc : Rt 0 c) : LatM a b c := by
  have j2 := joinF_right [a, b]
  have j3 := joinF_right [a, b, c]
  have jb := joinF_right [b, c]
  refine ⟨?_, ?_, ?_, ?_, ?_, ?_, ?_, ?_, ?_, ?_, ?_⟩
  · exact decide_eq_true (up_ext j2 (joinF_right _) (fun x => by rw [up2 ha hb, up2 hb ha]; omega))
  · exact decide_eq_true (up_ext (joinF_right _) j3 (fun x => by rw [up2 j2 hc, up2 ha hb, up3 ha hb hc]; omega))
  · exact decide_eq_true (up_ext (joinF_right _) j3 (fun x => by rw [up2 ha jb, up2 hb hc, up3 ha hb hc]))
  · exact decide_eq_true (up_ext (joinF_right _) ha (fun x => by rw [up2 ha ha]; omega))
  · exact (rtB_iff _ _).2 j3
  · exact (cv_up j3 ha).2 (fun x => by rw [up3 ha hb hc]; omega)
  · exact (cv_up j3 hb).2 (fun x => by rw [up3 ha hb hc]; omega)
  · exact (cv_up j3 hc).2 (fun x => by rw [up3 ha hb hc]; omega)
  · intro h1 h2
    exact (cv_up hc j2).2 (fun x => by
      have e1 := (cv_up hc ha).1 h1 x
      have e2 := (cv_up hc hb).1 h2 x
      rw [up2 ha hb]; omega)
  · rw [Bool.eq_iff_iff, cv_up ha hb, decide_eq_true_iff]
    constructor
    · intro h; exact up_ext j2 ha (fun x => by have := h x; rw [up2 ha hb]; omega)
    · intro h x; have := up2 ha hb x; rw [h] at this; omega
  · rw [Bool.eq_iff_iff, Bool.and_eq_true, cv_up ha hb, cv_up hb ha, decide_eq_true_iff]
    constructor
    · intro h; exact up_ext ha hb (fun x => by have := h.1 x; have := h.2 x; omega)
    · intro h; subst h; exact ⟨fun x => Int.le_refl _, fun x => Int.le_refl _⟩
def LawOut (w : World) (e : Ending) (w' : World) : Prop := e = .returned (.bool true) ∧ w.grownBy w' none
end Ve
end Go.Proofs.YtkffbaihknhefaaGreat
