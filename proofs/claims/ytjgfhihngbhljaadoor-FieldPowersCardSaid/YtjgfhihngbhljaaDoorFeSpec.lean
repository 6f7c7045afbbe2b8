/- field: elements of five limbs, and what the program reckons with them, as plain functions on integers. No program is named here. -/
import Derived.Test.YtjgfhihngbhljaaDoorNumP
namespace Go.Proofs.YtjgfhihngbhljaaDoor

/-- an element: five limbs -/
structure Fe where
  x0 : Int
  x1 : Int
  x2 : Int
  x3 : Int
  x4 : Int
deriving DecidableEq
namespace Fe
/-- each limb is a number of 64 bits -/
structure Ok (a : Fe) : Prop where
  n0 : 0 ≤ a.x0
  n1 : 0 ≤ a.x1
  n2 : 0 ≤ a.x2
  n3 : 0 ≤ a.x3
  n4 : 0 ≤ a.x4
  l0 : a.x0 < 18446744073709551616
  l1 : a.x1 < 18446744073709551616
  l2 : a.x2 < 18446744073709551616
  l3 : a.x3 < 18446744073709551616
  l4 : a.x4 < 18446744073709551616
/-- each limb is below 2^52 -/
structure Right (a : Fe) : Prop where
  n0 : 0 ≤ a.x0
  n1 : 0 ≤ a.x1
  n2 : 0 ≤ a.x2
  n3 : 0 ≤ a.x3
  n4 : 0 ≤ a.x4
  l0 : a.x0 < 4503599627370496
  l1 : a.x1 < 4503599627370496
  l2 : a.x2 < 4503599627370496
  l3 : a.x3 < 4503599627370496
  l4 : a.x4 < 4503599627370496
theorem Right.ok {a : Fe} (h : Right a) : Ok a := by
  obtain ⟨n0, n1, n2, n3, n4, l0, l1, l2, l3, l4⟩ := h
  constructor <;> omega
/-- what it stands for, not reduced -/
def V (a : Fe) : Int := a.x0 + 2251799813685248 * a.x1 + 5070602400912917605986812821504 * a.x2 + 11417981541647679048466287755595961091061972992 * a.x3 + 25711008708143844408671393477458601640355247900524685364822016 * a.x4
/-- 2^255 - 19 -/
def P : Nat := 57896044618658097711785492504343953926634992332820282019728792003956564819949
/-- the number that it stands for -/
def m (a : Fe) : Nat := (a.V % (P : Int)).toNat

def carryF (a : Fe) : Fe :=
  ⟨a.x0 % 2251799813685248 + 19 * (a.x4 / 2251799813685248), a.x1 % 2251799813685248 + a.x0 / 2251799813685248, a.x2 % 2251799813685248 + a.x1 / 2251799813685248,
    a.x3 % 2251799813685248 + a.x2 / 2251799813685248, a.x4 % 2251799813685248 + a.x3 / 2251799813685248⟩
theorem carry_right {a : Fe} (h : Ok a) : Right (carryF a) := by
  obtain ⟨n0, n1, n2, n3, n4, l0, l1, l2, l3, l4⟩ := h
  constructor <;> simp only [carryF] <;> omega
theorem carry_V (a : Fe) : V (carryF a) = V a - (P : Int) * (a.x4 / 2251799813685248) := by
  simp only [V, carryF, P]
  omega
theorem m_of {a b : Fe} (h : ∃ k : Int, V a = V b + (P : Int) * k) : m a = m b := by
  obtain ⟨k, hk⟩ := h
  unfold m
  rw [hk, Int.add_mul_emod_self_left]
theorem carry_m (a : Fe) : m (carryF a) = m a := m_of ⟨-(a.x4 / 2251799813685248), by rw [carry_V, Int.mul_neg]; omega⟩

def w64 (x : Int) : Int := x % 18446744073709551616
def addF (a b : Fe) : Fe := carryF ⟨w64 (a.x0 + b.x0), w64 (a.x1 + b.x1), w64 (a.x2 + b.x2), w64 (a.x3 + b.x3), w64 (a.x4 + b.x4)⟩
def subF (a b : Fe) : Fe :=
  carryF ⟨w64 (a.x0 + w64 (9007199254740916 - b.x0)), w64 (a.x1 + w64 (9007199254740988 - b.x1)), w64 (a.x2 + w64 (9007199254740988 - b.x2)), w64 (a.x3 + w64 (9007199254740988 - b.x3)), w64 (a.x4 + w64 (9007199254740988 - b.x4))⟩
def zeroF : Fe := ⟨0, 0, 0, 0, 0⟩
def oneF : Fe := ⟨1, 0, 0, 0, 0⟩
def negF (a : Fe) : Fe := subF zeroF a

theorem w64_ok (x0 x1 x2 x3 x4 : Int) : Ok ⟨w64 x0, w64 x1, w64 x2, w64 x3, w64 x4⟩ := by
  constructor <;> simp only [w64] <;> omega
theorem add_right (a b : Fe) : Right (addF a b) := carry_right (w64_ok ..)
theorem sub_right (a b : Fe) : Right (subF a b) := carry_right (w64_ok ..)
theorem neg_right (a : Fe) : Right (negF a) := sub_right ..
theorem m_lt (a : Fe) : m a < P := by
  unfold m P
  omega
theorem m_cast (a : Fe) : ((m a : Nat) : Int) = V a % (P : Int) := by
  unfold m P
  omega
theorem of_cast {x y : Nat} (hx : x < P) (h : ((x : Nat) : Int) % (P : Int) = ((y : Nat) : Int) % (P : Int)) : x = y % P := by
  unfold P at *
  omega
theorem add_m {a b : Fe} (ha : Right a) (hb : Right b) : m (addF a b) = (m a + m b) % P := by
  have e : V (⟨w64 (a.x0 + b.x0), w64 (a.x1 + b.x1), w64 (a.x2 + b.x2), w64 (a.x3 + b.x3), w64 (a.x4 + b.x4)⟩ : Fe) = V a + V b := by
    obtain ⟨n0, n1, n2, n3, n4, l0, l1, l2, l3, l4⟩ := ha
    obtain ⟨k0, k1, k2, k3, k4, j0, j1, j2, j3, j4⟩ := hb
    simp only [V, w64]
    omega
  unfold addF
  rw [carry_m]
  apply of_cast (m_lt _)
  rw [m_cast, e, Int.natCast_add, m_cast, m_cast, Int.emod_emod, ← Int.add_emod]
theorem sub_m {a b : Fe} (ha : Right a) (hb : Right b) : m (subF a b) = (m a + (P - m b)) % P := by
  have e : V (⟨w64 (a.x0 + w64 (9007199254740916 - b.x0)), w64 (a.x1 + w64 (9007199254740988 - b.x1)), w64 (a.x2 + w64 (9007199254740988 - b.x2)), w64 (a.x3 + w64 (9007199254740988 - b.x3)), w64 (a.x4 + w64 (9007199254740988 - b.x4))⟩ : Fe)
      = V a - V b + (P : Int) * 4 := by
    obtain ⟨n0, n1, n2, n3, n4, l0, l1, l2, l3, l4⟩ := ha
    obtain ⟨k0, k1, k2, k3, k4, j0, j1, j2, j3, j4⟩ := hb
    simp only [V, w64, P]
    omega
  have hb := m_lt b
  have ca := m_cast a
  have cb := m_cast b
  have h := m_cast (subF a b)
  rw [show m (subF a b) = _ from carry_m _] at h ⊢
  have hl := m_lt (⟨w64 (a.x0 + w64 (9007199254740916 - b.x0)), w64 (a.x1 + w64 (9007199254740988 - b.x1)), w64 (a.x2 + w64 (9007199254740988 - b.x2)), w64 (a.x3 + w64 (9007199254740988 - b.x3)), w64 (a.x4 + w64 (9007199254740988 - b.x4))⟩ : Fe)
  have h2 := m_cast (⟨w64 (a.x0 + w64 (9007199254740916 - b.x0)), w64 (a.x1 + w64 (9007199254740988 - b.x1)), w64 (a.x2 + w64 (9007199254740988 - b.x2)), w64 (a.x3 + w64 (9007199254740988 - b.x3)), w64 (a.x4 + w64 (9007199254740988 - b.x4))⟩ : Fe)
  rw [e, Int.add_mul_emod_self_left] at h2
  generalize m (⟨w64 (a.x0 + w64 (9007199254740916 - b.x0)), w64 (a.x1 + w64 (9007199254740988 - b.x1)), w64 (a.x2 + w64 (9007199254740988 - b.x2)), w64 (a.x3 + w64 (9007199254740988 - b.x3)), w64 (a.x4 + w64 (9007199254740988 - b.x4))⟩ : Fe) = M at *
  clear h e
  generalize V a = A at *
  generalize V b = B at *
  unfold P at *
  omega

/-! ### sums of products: numbers of 128 bits -/
def addS (S a b : Int) : Int := (S + a * b) % 340282366920938463463374607431768211456
def limbS (S : Int) : Int := S % 2251799813685248
def restS (S : Int) : Int := w64 (S / 2251799813685248)
def joinF (s0 s1 s2 s3 s4 : Int) : Fe :=
  carryF ⟨w64 (limbS s0 + w64 (19 * restS s4)), w64 (limbS s1 + restS s0), w64 (limbS s2 + restS s1), w64 (limbS s3 + restS s2), w64 (limbS s4 + restS s3)⟩
def s5 (a0 b0 a1 b1 a2 b2 a3 b3 a4 b4 : Int) : Int := addS (addS (addS (addS (addS 0 a0 b0) a1 b1) a2 b2) a3 b3) a4 b4
def s3 (a0 b0 a1 b1 a2 b2 : Int) : Int := addS (addS (addS 0 a0 b0) a1 b1) a2 b2
def mulF (a b : Fe) : Fe :=
  joinF (s5 a.x0 b.x0 a.x1 (w64 (19 * b.x4)) a.x2 (w64 (19 * b.x3)) a.x3 (w64 (19 * b.x2)) a.x4 (w64 (19 * b.x1)))
    (s5 a.x0 b.x1 a.x1 b.x0 a.x2 (w64 (19 * b.x4)) a.x3 (w64 (19 * b.x3)) a.x4 (w64 (19 * b.x2)))
    (s5 a.x0 b.x2 a.x1 b.x1 a.x2 b.x0 a.x3 (w64 (19 * b.x4)) a.x4 (w64 (19 * b.x3)))
    (s5 a.x0 b.x3 a.x1 b.x2 a.x2 b.x1 a.x3 b.x0 a.x4 (w64 (19 * b.x4)))
    (s5 a.x0 b.x4 a.x1 b.x3 a.x2 b.x2 a.x3 b.x1 a.x4 b.x0)
def sqF (a : Fe) : Fe :=
  joinF (s3 a.x0 a.x0 (w64 (2 * a.x1)) (w64 (19 * a.x4)) (w64 (2 * a.x2)) (w64 (19 * a.x3)))
    (s3 (w64 (2 * a.x0)) a.x1 (w64 (2 * a.x2)) (w64 (19 * a.x4)) a.x3 (w64 (19 * a.x3)))
    (s3 (w64 (2 * a.x0)) a.x2 a.x1 a.x1 (w64 (2 * a.x3)) (w64 (19 * a.x4)))
    (s3 (w64 (2 * a.x0)) a.x3 (w64 (2 * a.x1)) a.x2 a.x4 (w64 (19 * a.x4)))
    (s3 (w64 (2 * a.x0)) a.x4 (w64 (2 * a.x1)) a.x3 a.x2 a.x2)
theorem join_right (s0 s1 s2 s3 s4 : Int) : Right (joinF s0 s1 s2 s3 s4) := carry_right (w64_ok ..)
theorem mul_right (a b : Fe) : Right (mulF a b) := join_right ..
theorem sq_right (a : Fe) : Right (sqF a) := join_right ..
theorem join_V {s0 s1 s2 s3 s4 : Int} (h0 : 0 ≤ s0) (h1 : 0 ≤ s1) (h2 : 0 ≤ s2) (h3 : 0 ≤ s3) (h4 : 0 ≤ s4)
    (l0 : s0 < 2596148429267413814265248164610048) (l1 : s1 < 2596148429267413814265248164610048) (l2 : s2 < 2596148429267413814265248164610048) (l3 : s3 < 2596148429267413814265248164610048) (l4 : s4 < 162259276829213363391578010288128) :
    ∃ k : Int, V (joinF s0 s1 s2 s3 s4) = V ⟨s0, s1, s2, s3, s4⟩ + (P : Int) * k := by
  have e : V (⟨w64 (limbS s0 + w64 (19 * restS s4)), w64 (limbS s1 + restS s0), w64 (limbS s2 + restS s1), w64 (limbS s3 + restS s2), w64 (limbS s4 + restS s3)⟩ : Fe) = V ⟨s0, s1, s2, s3, s4⟩ - (P : Int) * (s4 / 2251799813685248) := by
    simp only [V, w64, limbS, restS, P]
    omega
  unfold joinF
  rw [carry_V, e]
  exact ⟨-(s4 / 2251799813685248) - w64 (limbS s4 + restS s3) / 2251799813685248, by simp only [Int.mul_sub, Int.mul_neg]; omega⟩
theorem prod_bd {x y : Int} (h0 : 0 ≤ x) (h1 : x < 4503599627370496) (k0 : 0 ≤ y) (k1 : y < 4503599627370496) : 0 ≤ x * y ∧ x * y < 20282409603651670423947251286016 := by
  refine ⟨Int.mul_nonneg h0 k0, ?_⟩
  have a : x * y ≤ 4503599627370495 * y := Int.mul_le_mul_of_nonneg_right (by omega) k0
  omega
theorem w64_in {x : Int} (h0 : 0 ≤ x) (h1 : x < 18446744073709551616) : w64 x = x := by unfold w64; omega
theorem s5_is {a0 b0 a1 b1 a2 b2 a3 b3 a4 b4 : Int} (h0 : 0 ≤ a0 * b0) (h1 : 0 ≤ a1 * b1) (h2 : 0 ≤ a2 * b2) (h3 : 0 ≤ a3 * b3) (h4 : 0 ≤ a4 * b4)
    (h : a0 * b0 + a1 * b1 + a2 * b2 + a3 * b3 + a4 * b4 < 340282366920938463463374607431768211456) :
    s5 a0 b0 a1 b1 a2 b2 a3 b3 a4 b4 = a0 * b0 + a1 * b1 + a2 * b2 + a3 * b3 + a4 * b4 := by
  unfold s5 addS
  omega
theorem s3_is {a0 b0 a1 b1 a2 b2 : Int} (h0 : 0 ≤ a0 * b0) (h1 : 0 ≤ a1 * b1) (h2 : 0 ≤ a2 * b2)
    (h : a0 * b0 + a1 * b1 + a2 * b2 < 340282366920938463463374607431768211456) :
    s3 a0 b0 a1 b1 a2 b2 = a0 * b0 + a1 * b1 + a2 * b2 := by
  unfold s3 addS
  omega
theorem poly (a0 a1 a2 a3 a4 b0 b1 b2 b3 b4 : Int) :
    (a0 + 2251799813685248 * a1 + 5070602400912917605986812821504 * a2 + 11417981541647679048466287755595961091061972992 * a3 + 25711008708143844408671393477458601640355247900524685364822016 * a4) *
      (b0 + 2251799813685248 * b1 + 5070602400912917605986812821504 * b2 + 11417981541647679048466287755595961091061972992 * b3 + 25711008708143844408671393477458601640355247900524685364822016 * b4)
    = (a0 * b0 + a1 * (19 * b4) + a2 * (19 * b3) + a3 * (19 * b2) + a4 * (19 * b1)) + 2251799813685248 * (a0 * b1 + a1 * b0 + a2 * (19 * b4) + a3 * (19 * b3) + a4 * (19 * b2))
      + 5070602400912917605986812821504 * (a0 * b2 + a1 * b1 + a2 * b0 + a3 * (19 * b4) + a4 * (19 * b3)) + 11417981541647679048466287755595961091061972992 * (a0 * b3 + a1 * b2 + a2 * b1 + a3 * b0 + a4 * (19 * b4))
      + 25711008708143844408671393477458601640355247900524685364822016 * (a0 * b4 + a1 * b3 + a2 * b2 + a3 * b1 + a4 * b0)
      + 57896044618658097711785492504343953926634992332820282019728792003956564819949 * ((a1 * b4 + a2 * b3 + a3 * b2 + a4 * b1) + 2251799813685248 * (a2 * b4 + a3 * b3 + a4 * b2) + 5070602400912917605986812821504 * (a3 * b4 + a4 * b3) + 11417981541647679048466287755595961091061972992 * (a4 * b4)) := by
  grind
theorem mul_m {a b : Fe} (ha : Right a) (hb : Right b) : m (mulF a b) = m a * m b % P := by
  have key : ∃ k : Int, V (mulF a b) = V a * V b + (P : Int) * k := by
    obtain ⟨n0, n1, n2, n3, n4, l0, l1, l2, l3, l4⟩ := ha
    obtain ⟨k0, k1, k2, k3, k4, j0, j1, j2, j3, j4⟩ := hb
    unfold mulF
    rw [w64_in (x := 19 * b.x1) (by omega) (by omega)]
    rw [w64_in (x := 19 * b.x2) (by omega) (by omega)]
    rw [w64_in (x := 19 * b.x3) (by omega) (by omega)]
    rw [w64_in (x := 19 * b.x4) (by omega) (by omega)]
    obtain ⟨p00, q00⟩ := prod_bd n0 l0 k0 j0
    obtain ⟨p01, q01⟩ := prod_bd n0 l0 k1 j1
    obtain ⟨p02, q02⟩ := prod_bd n0 l0 k2 j2
    obtain ⟨p03, q03⟩ := prod_bd n0 l0 k3 j3
    obtain ⟨p04, q04⟩ := prod_bd n0 l0 k4 j4
    obtain ⟨p10, q10⟩ := prod_bd n1 l1 k0 j0
    obtain ⟨p11, q11⟩ := prod_bd n1 l1 k1 j1
    obtain ⟨p12, q12⟩ := prod_bd n1 l1 k2 j2
    obtain ⟨p13, q13⟩ := prod_bd n1 l1 k3 j3
    obtain ⟨p14, q14⟩ := prod_bd n1 l1 k4 j4
    obtain ⟨p20, q20⟩ := prod_bd n2 l2 k0 j0
    obtain ⟨p21, q21⟩ := prod_bd n2 l2 k1 j1
    obtain ⟨p22, q22⟩ := prod_bd n2 l2 k2 j2
    obtain ⟨p23, q23⟩ := prod_bd n2 l2 k3 j3
    obtain ⟨p24, q24⟩ := prod_bd n2 l2 k4 j4
    obtain ⟨p30, q30⟩ := prod_bd n3 l3 k0 j0
    obtain ⟨p31, q31⟩ := prod_bd n3 l3 k1 j1
    obtain ⟨p32, q32⟩ := prod_bd n3 l3 k2 j2
    obtain ⟨p33, q33⟩ := prod_bd n3 l3 k3 j3
    obtain ⟨p34, q34⟩ := prod_bd n3 l3 k4 j4
    obtain ⟨p40, q40⟩ := prod_bd n4 l4 k0 j0
    obtain ⟨p41, q41⟩ := prod_bd n4 l4 k1 j1
    obtain ⟨p42, q42⟩ := prod_bd n4 l4 k2 j2
    obtain ⟨p43, q43⟩ := prod_bd n4 l4 k3 j3
    obtain ⟨p44, q44⟩ := prod_bd n4 l4 k4 j4
    have e14 : a.x1 * (19 * b.x4) = 19 * (a.x1 * b.x4) := by rw [Int.mul_left_comm]
    have e23 : a.x2 * (19 * b.x3) = 19 * (a.x2 * b.x3) := by rw [Int.mul_left_comm]
    have e24 : a.x2 * (19 * b.x4) = 19 * (a.x2 * b.x4) := by rw [Int.mul_left_comm]
    have e32 : a.x3 * (19 * b.x2) = 19 * (a.x3 * b.x2) := by rw [Int.mul_left_comm]
    have e33 : a.x3 * (19 * b.x3) = 19 * (a.x3 * b.x3) := by rw [Int.mul_left_comm]
    have e34 : a.x3 * (19 * b.x4) = 19 * (a.x3 * b.x4) := by rw [Int.mul_left_comm]
    have e41 : a.x4 * (19 * b.x1) = 19 * (a.x4 * b.x1) := by rw [Int.mul_left_comm]
    have e42 : a.x4 * (19 * b.x2) = 19 * (a.x4 * b.x2) := by rw [Int.mul_left_comm]
    have e43 : a.x4 * (19 * b.x3) = 19 * (a.x4 * b.x3) := by rw [Int.mul_left_comm]
    have e44 : a.x4 * (19 * b.x4) = 19 * (a.x4 * b.x4) := by rw [Int.mul_left_comm]
    rw [s5_is (by omega) (by omega) (by omega) (by omega) (by omega) (by omega)]
    rw [s5_is (by omega) (by omega) (by omega) (by omega) (by omega) (by omega)]
    rw [s5_is (by omega) (by omega) (by omega) (by omega) (by omega) (by omega)]
    rw [s5_is (by omega) (by omega) (by omega) (by omega) (by omega) (by omega)]
    rw [s5_is (by omega) (by omega) (by omega) (by omega) (by omega) (by omega)]
    have hp := poly a.x0 a.x1 a.x2 a.x3 a.x4 b.x0 b.x1 b.x2 b.x3 b.x4
    obtain ⟨k, hk⟩ := join_V (s0 := a.x0 * b.x0 + a.x1 * (19 * b.x4) + a.x2 * (19 * b.x3) + a.x3 * (19 * b.x2) + a.x4 * (19 * b.x1)) (s1 := a.x0 * b.x1 + a.x1 * b.x0 + a.x2 * (19 * b.x4) + a.x3 * (19 * b.x3) + a.x4 * (19 * b.x2)) (s2 := a.x0 * b.x2 + a.x1 * b.x1 + a.x2 * b.x0 + a.x3 * (19 * b.x4) + a.x4 * (19 * b.x3)) (s3 := a.x0 * b.x3 + a.x1 * b.x2 + a.x2 * b.x1 + a.x3 * b.x0 + a.x4 * (19 * b.x4)) (s4 := a.x0 * b.x4 + a.x1 * b.x3 + a.x2 * b.x2 + a.x3 * b.x1 + a.x4 * b.x0)
      (by omega) (by omega) (by omega) (by omega) (by omega) (by omega) (by omega) (by omega) (by omega) (by omega)
    rw [hk]
    refine ⟨k - ((a.x1 * b.x4 + a.x2 * b.x3 + a.x3 * b.x2 + a.x4 * b.x1) + 2251799813685248 * (a.x2 * b.x4 + a.x3 * b.x3 + a.x4 * b.x2) + 5070602400912917605986812821504 * (a.x3 * b.x4 + a.x4 * b.x3) + 11417981541647679048466287755595961091061972992 * (a.x4 * b.x4)), ?_⟩
    simp only [V, P] at hp ⊢
    rw [hp]
    omega
  obtain ⟨k, hk⟩ := key
  apply of_cast (m_lt _)
  rw [m_cast, hk, Int.add_mul_emod_self_left, Int.natCast_mul, m_cast, m_cast, Int.emod_emod, ← Int.mul_emod]
theorem sq_is {a : Fe} (ha : Right a) : sqF a = mulF a a := by
  obtain ⟨n0, n1, n2, n3, n4, l0, l1, l2, l3, l4⟩ := ha
  unfold sqF mulF
  rw [w64_in (x := 19 * a.x1) (by omega) (by omega)]
  rw [w64_in (x := 19 * a.x2) (by omega) (by omega)]
  rw [w64_in (x := 19 * a.x3) (by omega) (by omega)]
  rw [w64_in (x := 19 * a.x4) (by omega) (by omega)]
  rw [w64_in (x := 2 * a.x0) (by omega) (by omega)]
  rw [w64_in (x := 2 * a.x1) (by omega) (by omega)]
  rw [w64_in (x := 2 * a.x2) (by omega) (by omega)]
  rw [w64_in (x := 2 * a.x3) (by omega) (by omega)]
  obtain ⟨p00, q00⟩ := prod_bd n0 l0 n0 l0
  obtain ⟨p01, q01⟩ := prod_bd n0 l0 n1 l1
  obtain ⟨p02, q02⟩ := prod_bd n0 l0 n2 l2
  obtain ⟨p03, q03⟩ := prod_bd n0 l0 n3 l3
  obtain ⟨p04, q04⟩ := prod_bd n0 l0 n4 l4
  obtain ⟨p10, q10⟩ := prod_bd n1 l1 n0 l0
  obtain ⟨p11, q11⟩ := prod_bd n1 l1 n1 l1
  obtain ⟨p12, q12⟩ := prod_bd n1 l1 n2 l2
  obtain ⟨p13, q13⟩ := prod_bd n1 l1 n3 l3
  obtain ⟨p14, q14⟩ := prod_bd n1 l1 n4 l4
  obtain ⟨p20, q20⟩ := prod_bd n2 l2 n0 l0
  obtain ⟨p21, q21⟩ := prod_bd n2 l2 n1 l1
  obtain ⟨p22, q22⟩ := prod_bd n2 l2 n2 l2
  obtain ⟨p23, q23⟩ := prod_bd n2 l2 n3 l3
  obtain ⟨p24, q24⟩ := prod_bd n2 l2 n4 l4
  obtain ⟨p30, q30⟩ := prod_bd n3 l3 n0 l0
  obtain ⟨p31, q31⟩ := prod_bd n3 l3 n1 l1
  obtain ⟨p32, q32⟩ := prod_bd n3 l3 n2 l2
  obtain ⟨p33, q33⟩ := prod_bd n3 l3 n3 l3
  obtain ⟨p34, q34⟩ := prod_bd n3 l3 n4 l4
  obtain ⟨p40, q40⟩ := prod_bd n4 l4 n0 l0
  obtain ⟨p41, q41⟩ := prod_bd n4 l4 n1 l1
  obtain ⟨p42, q42⟩ := prod_bd n4 l4 n2 l2
  obtain ⟨p43, q43⟩ := prod_bd n4 l4 n3 l3
  obtain ⟨p44, q44⟩ := prod_bd n4 l4 n4 l4
  have c10 : a.x1 * a.x0 = a.x0 * a.x1 := Int.mul_comm ..
  have e14 : a.x1 * (19 * a.x4) = 19 * (a.x1 * a.x4) := by rw [Int.mul_left_comm]
  have c20 : a.x2 * a.x0 = a.x0 * a.x2 := Int.mul_comm ..
  have c21 : a.x2 * a.x1 = a.x1 * a.x2 := Int.mul_comm ..
  have e23 : a.x2 * (19 * a.x3) = 19 * (a.x2 * a.x3) := by rw [Int.mul_left_comm]
  have e24 : a.x2 * (19 * a.x4) = 19 * (a.x2 * a.x4) := by rw [Int.mul_left_comm]
  have c30 : a.x3 * a.x0 = a.x0 * a.x3 := Int.mul_comm ..
  have c31 : a.x3 * a.x1 = a.x1 * a.x3 := Int.mul_comm ..
  have c32 : a.x3 * a.x2 = a.x2 * a.x3 := Int.mul_comm ..
  have e32 : a.x3 * (19 * a.x2) = 19 * (a.x3 * a.x2) := by rw [Int.mul_left_comm]
  have e33 : a.x3 * (19 * a.x3) = 19 * (a.x3 * a.x3) := by rw [Int.mul_left_comm]
  have e34 : a.x3 * (19 * a.x4) = 19 * (a.x3 * a.x4) := by rw [Int.mul_left_comm]
  have c40 : a.x4 * a.x0 = a.x0 * a.x4 := Int.mul_comm ..
  have c41 : a.x4 * a.x1 = a.x1 * a.x4 := Int.mul_comm ..
  have e41 : a.x4 * (19 * a.x1) = 19 * (a.x4 * a.x1) := by rw [Int.mul_left_comm]
  have c42 : a.x4 * a.x2 = a.x2 * a.x4 := Int.mul_comm ..
  have e42 : a.x4 * (19 * a.x2) = 19 * (a.x4 * a.x2) := by rw [Int.mul_left_comm]
  have c43 : a.x4 * a.x3 = a.x3 * a.x4 := Int.mul_comm ..
  have e43 : a.x4 * (19 * a.x3) = 19 * (a.x4 * a.x3) := by rw [Int.mul_left_comm]
  have e44 : a.x4 * (19 * a.x4) = 19 * (a.x4 * a.x4) := by rw [Int.mul_left_comm]
  have f14 : 2 * a.x1 * (19 * a.x4) = 38 * (a.x1 * a.x4) := by grind
  have f23 : 2 * a.x2 * (19 * a.x3) = 38 * (a.x2 * a.x3) := by grind
  have f24 : 2 * a.x2 * (19 * a.x4) = 38 * (a.x2 * a.x4) := by grind
  have f34 : 2 * a.x3 * (19 * a.x4) = 38 * (a.x3 * a.x4) := by grind
  have g01 : 2 * a.x0 * a.x1 = 2 * (a.x0 * a.x1) := Int.mul_assoc ..
  have g02 : 2 * a.x0 * a.x2 = 2 * (a.x0 * a.x2) := Int.mul_assoc ..
  have g03 : 2 * a.x0 * a.x3 = 2 * (a.x0 * a.x3) := Int.mul_assoc ..
  have g12 : 2 * a.x1 * a.x2 = 2 * (a.x1 * a.x2) := Int.mul_assoc ..
  have g04 : 2 * a.x0 * a.x4 = 2 * (a.x0 * a.x4) := Int.mul_assoc ..
  have g13 : 2 * a.x1 * a.x3 = 2 * (a.x1 * a.x3) := Int.mul_assoc ..
  rw [s3_is (by omega) (by omega) (by omega) (by omega)]
  rw [s3_is (by omega) (by omega) (by omega) (by omega)]
  rw [s3_is (by omega) (by omega) (by omega) (by omega)]
  rw [s3_is (by omega) (by omega) (by omega) (by omega)]
  rw [s3_is (by omega) (by omega) (by omega) (by omega)]
  rw [s5_is (by omega) (by omega) (by omega) (by omega) (by omega) (by omega)]
  rw [s5_is (by omega) (by omega) (by omega) (by omega) (by omega) (by omega)]
  rw [s5_is (by omega) (by omega) (by omega) (by omega) (by omega) (by omega)]
  rw [s5_is (by omega) (by omega) (by omega) (by omega) (by omega) (by omega)]
  rw [s5_is (by omega) (by omega) (by omega) (by omega) (by omega) (by omega)]
  congr 1 <;> omega
theorem sq_m {a : Fe} (ha : Right a) : m (sqF a) = m a * m a % P := by rw [sq_is ha, mul_m ha ha]
/-- the limbs of the number from 0 to p - 1 -/
def leastF (a : Fe) : Fe :=
  ⟨(m a : Int) % 2251799813685248, (m a : Int) / 2251799813685248 % 2251799813685248, (m a : Int) / 5070602400912917605986812821504 % 2251799813685248,
    (m a : Int) / 11417981541647679048466287755595961091061972992 % 2251799813685248, (m a : Int) / 25711008708143844408671393477458601640355247900524685364822016 % 2251799813685248⟩
def over1 (a : Fe) : Int := (a.x0 + 19) / 2251799813685248
def over2 (a : Fe) : Int := (a.x1 + over1 a) / 2251799813685248
def over3 (a : Fe) : Int := (a.x2 + over2 a) / 2251799813685248
def over4 (a : Fe) : Int := (a.x3 + over3 a) / 2251799813685248
def over5 (a : Fe) : Int := (a.x4 + over4 a) / 2251799813685248
def low0 (a : Fe) : Int := a.x0 + 19 * over5 a
def low1 (a : Fe) : Int := a.x1 + low0 a / 2251799813685248
def low2 (a : Fe) : Int := a.x2 + low1 a / 2251799813685248
def low3 (a : Fe) : Int := a.x3 + low2 a / 2251799813685248
def low4 (a : Fe) : Int := a.x4 + low3 a / 2251799813685248
/-- what carry leaves: each limb is hardly above its 51 bits -/
structure Low (a : Fe) : Prop where
  n0 : 0 ≤ a.x0
  n1 : 0 ≤ a.x1
  n2 : 0 ≤ a.x2
  n3 : 0 ≤ a.x3
  n4 : 0 ≤ a.x4
  l0 : a.x0 < 2251799813840896
  l1 : a.x1 < 2251799813693440
  l2 : a.x2 < 2251799813693440
  l3 : a.x3 < 2251799813693440
  l4 : a.x4 < 2251799813693440
theorem carry_low {a : Fe} (h : Ok a) : Low (carryF a) := by
  obtain ⟨n0, n1, n2, n3, n4, l0, l1, l2, l3, l4⟩ := h
  constructor <;> simp only [carryF] <;> omega
theorem over_is {a : Fe} (h : Low a) : over5 a = (V a + 19) / 57896044618658097711785492504343953926634992332820282019728792003956564819968 := by
  obtain ⟨n0, n1, n2, n3, n4, l0, l1, l2, l3, l4⟩ := h
  simp only [over5, over4, over3, over2, over1, V]
  omega
theorem over_01 {a : Fe} (h : Low a) : 0 ≤ over5 a ∧ over5 a ≤ 1 := by
  rw [over_is h]
  obtain ⟨n0, n1, n2, n3, n4, l0, l1, l2, l3, l4⟩ := h
  simp only [V]
  omega
theorem m_low {a : Fe} (h : Low a) : (m a : Int) = V a - (P : Int) * over5 a := by
  have e := over_is h
  rw [m_cast]
  obtain ⟨n0, n1, n2, n3, n4, l0, l1, l2, l3, l4⟩ := h
  simp only [V, P] at e ⊢
  omega
theorem digits {M d0 d1 d2 d3 d4 : Int} (n0 : 0 ≤ d0) (n1 : 0 ≤ d1) (n2 : 0 ≤ d2) (n3 : 0 ≤ d3) (n4 : 0 ≤ d4)
    (l0 : d0 < 2251799813685248) (l1 : d1 < 2251799813685248) (l2 : d2 < 2251799813685248) (l3 : d3 < 2251799813685248) (l4 : d4 < 2251799813685248)
    (h : M = d0 + 2251799813685248 * d1 + 5070602400912917605986812821504 * d2 + 11417981541647679048466287755595961091061972992 * d3 + 25711008708143844408671393477458601640355247900524685364822016 * d4) :
    (⟨M % 2251799813685248, M / 2251799813685248 % 2251799813685248, M / 5070602400912917605986812821504 % 2251799813685248, M / 11417981541647679048466287755595961091061972992 % 2251799813685248, M / 25711008708143844408671393477458601640355247900524685364822016 % 2251799813685248⟩ : Fe) = ⟨d0, d1, d2, d3, d4⟩ := by
  have e1 : M / 2251799813685248 = d1 + 2251799813685248 * d2 + 5070602400912917605986812821504 * d3 + 11417981541647679048466287755595961091061972992 * d4 := by omega
  have e2 : M / 5070602400912917605986812821504 = d2 + 2251799813685248 * d3 + 5070602400912917605986812821504 * d4 := by omega
  have e3 : M / 11417981541647679048466287755595961091061972992 = d3 + 2251799813685248 * d4 := by omega
  have e4 : M / 25711008708143844408671393477458601640355247900524685364822016 = d4 := by omega
  rw [e1, e2, e3, e4]
  congr 1 <;> omega
theorem least_is {a : Fe} (h : Low a) : leastF a = ⟨low0 a % 2251799813685248, low1 a % 2251799813685248, low2 a % 2251799813685248, low3 a % 2251799813685248, low4 a % 2251799813685248⟩ := by
  have e := m_low h
  have o := over_01 h
  have hl := m_lt a
  obtain ⟨n0, n1, n2, n3, n4, l0, l1, l2, l3, l4⟩ := h
  unfold leastF
  refine digits (by omega) (by omega) (by omega) (by omega) (by omega) (by omega) (by omega) (by omega) (by omega) (by omega) ?_
  have hn : (0 : Int) ≤ (m a : Int) := by omega
  have hl' : (m a : Int) < 57896044618658097711785492504343953926634992332820282019728792003956564819949 := by unfold P at hl; omega
  clear hl
  rw [e] at hn hl' ⊢
  simp only [V, P] at hn hl' ⊢
  simp only [low4, low3, low2, low1, low0]
  generalize over5 a = o5 at *
  omega
theorem least_carry (a : Fe) : leastF (carryF a) = leastF a := by unfold leastF; rw [carry_m]
end Fe
end Go.Proofs.YtjgfhihngbhljaaDoor
