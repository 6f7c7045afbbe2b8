/- field: what FieldRoots asks, of numbers. -/
import Derived.Test.YthjakoifbahkcaaDoorFeAwake
import Derived.Test.YthjakoifbahkcaaDoorFeRing
namespace Go.Proofs.YthjakoifbahkcaaDoor
namespace Fe
theorem sqv_m {a v : Fe} (ha : Right a) (hv : Right v) : Fe.m (mulF (sqF a) v) = Fe.m a * Fe.m a * Fe.m v % P := by
  rw [mul_m (sq_right _) hv, sq_m ha, Nat.mod_mul_mod]
end Fe
theorem roots_ok {a v : Fe} (ha : a.Right) (hv : v.Right) : (rootF (Fe.mulF (Fe.sqF a) v) v).2 = true :=
  root_any_true (t := Fe.m a) (Fe.mul_right _ _) hv (Fe.sqv_m ha hv).symm
theorem roots_back {a v : Fe} (ha : a.Right) (hv : v.Right) : (rootF (Fe.mulF (Fe.sqF a) v) v).1.Right ∧ Fe.m (rootF (Fe.mulF (Fe.sqF a) v) v).1 % 2 = 0 ∧ Fe.m (Fe.mulF (Fe.sqF (rootF (Fe.mulF (Fe.sqF a) v) v).1) v) = Fe.m (Fe.mulF (Fe.sqF a) v) := by
  obtain ⟨h1, h2, h3⟩ := root_says hv (roots_ok ha hv)
  exact ⟨h1, h2, by rw [Fe.sqv_m h1 hv, h3]⟩
theorem roots_same {a v : Fe} (ha : a.Right) (hv : v.Right) (hz : ¬ Fe.m v = 0) : Fe.m (rootF (Fe.mulF (Fe.sqF a) v) v).1 = Fe.m a ∨ Fe.m (rootF (Fe.mulF (Fe.sqF a) v) v).1 = Fe.m (Fe.negF a) := by
  obtain ⟨h1, h2, h3⟩ := roots_back ha hv
  rw [Fe.sqv_m h1 hv, Fe.sqv_m ha hv] at h3
  rw [neg_m ha]
  exact Fe.roots_two (by rw [Fe.m_lt']; exact hz) (Fe.m_lt _) (Fe.m_lt _) h3
theorem root_iff {x : Fe} (hx : x.Right) (hz : ¬ Fe.m x = 0) : (rootF x Fe.oneF).2 = true ↔ Fe.m x ^ Fe.eHalf % Fe.P = 1 := by
  constructor
  · intro h
    obtain ⟨_, _, hm⟩ := root_says one_right h
    rw [one_m, Nat.mul_one] at hm
    exact Fe.square_half (by rw [Fe.m_lt']; exact hz) (by rw [hm, Fe.m_lt'])
  · intro h
    exact root_true hx one_right (by rw [one_m]; exact Fe.fits_half h)
theorem one_two {a : Fe} (ha : a.Right) (hz : ¬ Fe.m a = 0) : (rootF (Fe.addF a a) Fe.oneF).2 = !(rootF a Fe.oneF).2 := by
  have hl := Fe.m_lt a
  have hp : Fe.P % 2 = 1 := by decide +kernel
  have h2 : ¬ Fe.m (Fe.addF a a) = 0 := by
    rw [Fe.add_m ha ha]
    intro e
    obtain ⟨k, hk⟩ := Nat.dvd_of_mod_eq_zero e
    have : k = 0 ∨ k = 1 ∨ 2 ≤ k := by omega
    rcases this with rfl | rfl | hk2
    · omega
    · omega
    · have := Nat.mul_le_mul_left Fe.P hk2
      omega
  have e1 := root_iff ha hz
  have e2 := root_iff (Fe.add_right a a) h2
  have h3 := Fe.half_two (x := Fe.m a) (by rw [Fe.m_lt']; exact hz)
  rw [Fe.add_m ha ha, ← Nat.pow_mod] at e2
  cases hA : (rootF a Fe.oneF).2 <;> cases hB : (rootF (Fe.addF a a) Fe.oneF).2 <;> simp_all
theorem root_val (p q : Fe) (b : Bool) (w0 : World) (hT : FTab w0) (okp : p.Ok) (okq : q.Ok) (hb : (rootF p q).2 = b) : Calls Tryd.prog 28 #[.agg #[.int .u64 p.x0, .int .u64 p.x1, .int .u64 p.x2, .int .u64 p.x3, .int .u64 p.x4], .agg #[.int .u64 q.x0, .int .u64 q.x1, .int .u64 q.x2, .int .u64 q.x3, .int .u64 q.x4]] w0 (RootOut (rootF p q).1 b w0) := by
  rw [← hb]; exact root_all p q w0 hT okp okq
theorem not_wants_undef {ops : Array Oper} {o : Oper} {a : Act} {j d : Nat} {b : Bool} (h : o.guard = some (j, b)) (hj : (ops[j]?).bind (·.dst) = some d) (hd : d < a.tmps.size) (hv : a.tmps.getD d undef = undef) : Region.wanted o (yielded ops a.tmps) = false := by
  unfold Region.wanted yielded
  rw [h]
  have : a.tmps[d]? = some undef := by
    rw [Array.getElem?_eq_getElem hd]
    simp [hd] at hv
    rw [hv]
  simp [hj, this, undef]
end Go.Proofs.YthjakoifbahkcaaDoor
