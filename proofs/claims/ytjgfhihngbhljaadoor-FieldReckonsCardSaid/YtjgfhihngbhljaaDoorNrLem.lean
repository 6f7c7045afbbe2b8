/- The laws of the field: what each call tells, of elements and of the document's numbers. -/
import Derived.Test.YtjgfhihngbhljaaDoorNrIs
import Derived.Test.YtjgfhihngbhljaaDoorFeAwake
namespace Go.Proofs.YtjgfhihngbhljaaDoor
open Go.RowKit Ns Ow
namespace Nr
theorem P_is : Fe.P = 2 ^ 255 - 19 := by decide
theorem m_lt (a : Fe) : a.m < Fe.P := by
  have h0 : (0 : Int) < (Fe.P : Int) := by rw [P_is]; decide
  have := Int.emod_lt_of_pos a.V h0
  have h1 := Int.emod_nonneg a.V (Int.ne_of_gt h0)
  unfold Fe.m
  omega
theorem num_mod (v : Nat) : num (v % Fe.P) = num v := num_congr (by rw [P_is, Nat.mod_mod])
theorem num_val {v : Nat} (h : v < Fe.P) : V (num v) = v := by
  rw [num_V, ← P_is]
  exact Nat.mod_eq_of_lt h
theorem num_inj {u v : Nat} (hu : u < Fe.P) (hv : v < Fe.P) : num u = num v ↔ u = v :=
  ⟨fun h => by rw [← num_val hu, ← num_val hv, h], fun h => by rw [h]⟩
theorem num_zero : num 0 = zeros := by decide
theorem num_low {v : Nat} (h : v < Fe.P) : (num v).getD 0 0 = v % 65536 := by
  have e := num_val h
  unfold num
  rw [P_is] at h
  rw [Nat.mod_eq_of_lt h]
  rfl
/-- are the limbs right? -/
def rB (a : Fe) : Bool := (feN a).all fun n => decide (n < 4503599627370496)
theorem rB_right {a : Fe} (h : a.Ok) : rB a = true → a.Right := by
  intro hr
  unfold rB at hr
  rw [feN_all] at hr
  simp only [Bool.and_eq_true, decide_eq_true_eq] at hr
  obtain ⟨n0, n1, n2, n3, n4, _, _, _, _, _⟩ := h
  constructor <;> omega
theorem feN_64 {a : Fe} (h : a.Ok) (j : Nat) : (feN a).getD j 0 < 18446744073709551616 := by
  obtain ⟨n0, n1, n2, n3, n4, l0, l1, l2, l3, l4⟩ := h
  rcases j with _ | _ | _ | _ | _ | j
  · show a.x0.toNat < _; omega
  · show a.x1.toNat < _; omega
  · show a.x2.toNat < _; omega
  · show a.x3.toNat < _; omega
  · show a.x4.toNat < _; omega
  · show (0 : Nat) < _; omega
theorem c_right (a : Fe) (w : World) (h : a.Ok) : Calls Tryd.prog 5 #[a.v] w fun e w' => e = .returned (.bool (rB a)) ∧ w.grownBy w' none := by
  rw [feN_v h]
  exact right_any (feN a) w rfl (feN_64 h)
theorem c_from (a : Fe) (w : World) (h : a.Right) : Calls Tryd.prog 14 #[a.v] w (Out (num a.m) w) := by
  rw [feN_v h.ok, ← feN_m h.ok]
  exact from_any (feN a) w rfl (feN_lt h)
theorem c_add (u v : Nat) (w : World) (hu : u < Fe.P) (hv : v < Fe.P) : Calls Tryd.prog 16 #[nV (num u), nV (num v)] w (Out (num (u + v)) w) := by
  have := add_any (num u) (num v) w (num_whole _) (num_whole _) (num_len _) (num_len _)
  rwa [num_val hu, num_val hv] at this
theorem c_mul (u v : Nat) (w : World) (hu : u < Fe.P) (hv : v < Fe.P) : Calls Tryd.prog 18 #[nV (num u), nV (num v)] w (Out (num (u * v)) w) := by
  have := mul_any (num u) (num v) w (num_whole _) (num_whole _) (num_len _) (num_len _)
  rwa [num_val hu, num_val hv] at this
theorem sub_c1 {u v : Nat} (hv : v < Fe.P) (h : v ≤ u) : num (u - v) = num (u + (Fe.P - v)) := by
  apply num_congr
  rw [show u + (Fe.P - v) = u - v + Fe.P by omega, P_is, Nat.add_mod_right]
theorem c_sub (u v : Nat) (w : World) (hu : u < Fe.P) (hv : v < Fe.P) : Calls Tryd.prog 17 #[nV (num u), nV (num v)] w (Out (num (u + (Fe.P - v))) w) := by
  rcases Nat.lt_or_ge u v with h | h
  · have := sub_lt (num u) (num v) w (num_whole _) (num_whole _) (num_len _) (num_len _) (by rw [num_val hu, num_val hv]; exact h) (by rw [num_val hv, Pp_V, ← P_is]; exact hv)
    rw [num_val hu, num_val hv, Pp_V, ← P_is, show u + Fe.P - v = u + (Fe.P - v) by omega] at this
    exact this
  · have := sub_ge (num u) (num v) w (num_whole _) (num_whole _) (num_len _) (num_len _) (by rw [num_val hu, num_val hv]; exact h)
    rw [num_val hu, num_val hv, sub_c1 hv h] at this
    exact this
theorem c_odd (u : Nat) (w : World) (hu : u < Fe.P) : Calls Tryd.prog 23 #[nV (num u)] w fun e w' => e = .returned (.bool (decide (u % 2 = 1))) ∧ w.grownBy w' none := by
  have := odd_any (num u) w (num_whole _) (num_len _)
  rw [num_low hu] at this
  rwa [Nat.mod_mod_of_dvd u (by decide : 2 ∣ 65536)] at this
/-- an element that is the document's number -/
theorem c_is (r : Fe) (v : Nat) (w : World) (hr : r.Right) (hm : r.m = v % Fe.P) : Calls Tryd.prog 15 #[r.v, nV (num v)] w fun e w' => e = .returned (.bool true) ∧ w.grownBy w' none :=
  is_yes r v w hr (by rw [hm, num_mod])
theorem is_add {a b : Fe} (w : World) (ha : a.Right) (hb : b.Right) : Calls Tryd.prog 15 #[(Fe.addF a b).v, nV (num (a.m + b.m))] w fun e w' => e = .returned (.bool true) ∧ w.grownBy w' none := c_is (Fe.addF a b) (a.m + b.m) w (Fe.add_right a b) (Fe.add_m ha hb)
theorem is_sub {a b : Fe} (w : World) (ha : a.Right) (hb : b.Right) : Calls Tryd.prog 15 #[(Fe.subF a b).v, nV (num (a.m + (Fe.P - b.m)))] w fun e w' => e = .returned (.bool true) ∧ w.grownBy w' none := c_is (Fe.subF a b) (a.m + (Fe.P - b.m)) w (Fe.sub_right a b) (Fe.sub_m ha hb)
theorem is_mul {a b : Fe} (w : World) (ha : a.Right) (hb : b.Right) : Calls Tryd.prog 15 #[(Fe.mulF a b).v, nV (num (a.m * b.m))] w fun e w' => e = .returned (.bool true) ∧ w.grownBy w' none := c_is (Fe.mulF a b) (a.m * b.m) w (Fe.mul_right a b) (Fe.mul_m ha hb)
theorem is_sq {a : Fe} (w : World) (ha : a.Right) : Calls Tryd.prog 15 #[(Fe.sqF a).v, nV (num (a.m * a.m))] w fun e w' => e = .returned (.bool true) ∧ w.grownBy w' none := c_is (Fe.sqF a) (a.m * a.m) w (Fe.sq_right a) (Fe.sq_m ha)
end Nr
end Go.Proofs.YtjgfhihngbhljaaDoor
