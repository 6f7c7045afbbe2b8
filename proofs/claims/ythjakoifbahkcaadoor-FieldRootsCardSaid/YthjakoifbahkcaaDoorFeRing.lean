/- field: what FieldRing asks, of numbers. -/
import Derived.Test.YthjakoifbahkcaaDoorFeMath
namespace Go.Proofs.YthjakoifbahkcaaDoor
namespace Fe
theorem m_lt' (a : Fe) : Fe.m a % P = Fe.m a := Nat.mod_eq_of_lt (m_lt a)
theorem ring_comm {a b : Fe} (ha : Right a) (hb : Right b) : Fe.m (addF a b) = Fe.m (addF b a) := by
  rw [add_m ha hb, add_m hb ha, Nat.add_comm]
theorem ring_mcomm {a b : Fe} (ha : Right a) (hb : Right b) : Fe.m (mulF a b) = Fe.m (mulF b a) := by
  rw [mul_m ha hb, mul_m hb ha, Nat.mul_comm]
theorem ring_assoc {a b c : Fe} (ha : Right a) (hb : Right b) (hc : Right c) : Fe.m (addF (addF a b) c) = Fe.m (addF a (addF b c)) := by
  rw [add_m (add_right _ _) hc, add_m ha hb, add_m ha (add_right _ _), add_m hb hc, Nat.mod_add_mod, Nat.add_mod_mod, Nat.add_assoc]
theorem ring_massoc {a b c : Fe} (ha : Right a) (hb : Right b) (hc : Right c) : Fe.m (mulF (mulF a b) c) = Fe.m (mulF a (mulF b c)) := by
  rw [mul_m (mul_right _ _) hc, mul_m ha hb, mul_m ha (mul_right _ _), mul_m hb hc, Nat.mod_mul_mod, Nat.mul_mod_mod, Nat.mul_assoc]
theorem ring_dist {a b c : Fe} (ha : Right a) (hb : Right b) (hc : Right c) : Fe.m (mulF c (addF a b)) = Fe.m (addF (mulF c a) (mulF c b)) := by
  rw [mul_m hc (add_right _ _), add_m ha hb, add_m (mul_right _ _) (mul_right _ _), mul_m hc ha, mul_m hc hb, Nat.mul_mod_mod, Nat.mod_add_mod, Nat.add_mod_mod, Nat.mul_add]
theorem ring_sub {a b : Fe} (ha : Right a) (hb : Right b) : Fe.m (subF (addF a b) b) = Fe.m a := by
  have hl := m_lt b
  rw [sub_m (add_right _ _) hb, add_m ha hb, Nat.mod_add_mod, show Fe.m a + Fe.m b + (P - Fe.m b) = Fe.m a + P by omega, Nat.add_mod_right, m_lt']
theorem ring_neg {a : Fe} (ha : Right a) : Fe.m (addF a (negF a)) = 0 := by
  have hl := m_lt a
  rw [add_m ha (neg_right _), neg_m ha, Nat.add_mod_mod, show Fe.m a + (P - Fe.m a) = P by omega, Nat.mod_self]
theorem ring_sq {a : Fe} (ha : Right a) : Fe.m (sqF a) = Fe.m (mulF a a) := by rw [sq_m ha, mul_m ha ha]
theorem ring_one {a : Fe} (ha : Right a) : Fe.m (mulF a oneF) = Fe.m a := by rw [mul_m ha one_right, one_m, Nat.mul_one, m_lt']
theorem ring_inv0 {a : Fe} (ha : Right a) (h : Fe.m a = 0) : ¬ Fe.m (mulF a (invF a)) = Fe.m oneF := by
  rw [mul_m ha (inv_right _), inv_m ha, if_pos h, one_m]; decide
theorem ring_inv {a : Fe} (ha : Right a) (h : ¬ Fe.m a = 0) : Fe.m (mulF a (invF a)) = Fe.m oneF := by
  rw [mul_m ha (inv_right _), inv_m ha, if_neg h, one_m]
theorem ring_mm : Fe.m (mulF (negF oneF) (negF oneF)) = Fe.m oneF := by
  rw [mul_m (neg_right _) (neg_right _), negone_m, one_m]; decide +kernel
theorem ring_zero_l {a b : Fe} (ha : Right a) (hb : Right b) (h : Fe.m a = 0) : Fe.m (mulF a b) = 0 := by
  rw [mul_m ha hb, h, Nat.zero_mul, Nat.zero_mod]
theorem ring_zero_r {a b : Fe} (ha : Right a) (hb : Right b) (h : Fe.m b = 0) : Fe.m (mulF a b) = 0 := by
  rw [mul_m ha hb, h, Nat.mul_zero, Nat.zero_mod]
theorem ring_ne {a b : Fe} (ha : Right a) (hb : Right b) (h : ¬ Fe.m a = 0) (g : ¬ Fe.m b = 0) : ¬ Fe.m (mulF a b) = 0 := by
  rw [mul_m ha hb]
  exact mul_ne (by rw [m_lt']; exact h) (by rw [m_lt']; exact g)
end Fe
end Go.Proofs.YthjakoifbahkcaaDoor
