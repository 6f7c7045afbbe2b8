/- scalar: fill, narrowOf, load, bytes. -/
import Derived.Test.YtmnlidfalhjghaaGreatDoorScOff
import Derived.Test.YtmnlidfalhjghaaGreatDoorOwn
namespace Go.Proofs.YtmnlidfalhjghaaGreatDoor
open Go.RowKit Ow

theorem some_ne' {a b : Nat} (h : a ≠ b) : some a ≠ some b := fun e => h (Option.some.inj e)
def wds (n m : Nat) : List Value := (List.range m).map (wV n)
theorem wds_get (n m j : Nat) (h : j < m) (tl : List Value) : (wds n m ++ tl)[j]? = some (wV n j) := by
  unfold wds
  rw [List.getElem?_append_left (by simpa using h), List.getElem?_map, List.getElem?_range h]; rfl
theorem wds_set (n n' m j : Nat) (h : j < m) (tl : List Value) (v : Nat) (hj : Sc.wrd n' j = v) (ho : ∀ i, i ≠ j → Sc.wrd n' i = Sc.wrd n i) : (wds n m ++ tl).set j (u64N v) = wds n' m ++ tl := by
  unfold wds
  rw [List.set_append_left _ _ (by simpa using h)]
  congr 1
  apply List.ext_getElem?
  intro i
  rw [List.getElem?_set, List.length_map, List.length_range]
  by_cases hi : i < m
  · rw [List.getElem?_map, List.getElem?_map, List.getElem?_range hi]
    by_cases e : j = i
    · subst e; simp [hi, wV, hj]
    · simp [e, wV, ho i (fun h => e h.symm)]
  · rw [if_neg (by omega), List.getElem?_eq_none (by simp; omega), List.getElem?_eq_none (by simp; omega)]
theorem fill_bits (o x r : Nat) (hx : x < 256) (hr : r < 8) (ho : o < 2 ^ (8 * r)) : bits .or .u64 (o : Int) (IntKind.u64.wrap ((x : Int) * 2 ^ (8 * r))) = ((o + x * 2 ^ (8 * r) : Nat) : Int) := by
  have hb : (2 : Nat) ^ (8 * r) * 256 ≤ 18446744073709551616 := by
    have : (2 : Nat) ^ (8 * r) * 256 = 2 ^ (8 * r + 8) := by rw [Nat.pow_add]
    rw [this, show (18446744073709551616 : Nat) = 2 ^ 64 by rfl]
    exact Nat.pow_le_pow_right (by decide) (by omega)
  have h1 : x * 2 ^ (8 * r) + 2 ^ (8 * r) ≤ 2 ^ (8 * r) * 256 := by
    have := Nat.mul_le_mul_right (2 ^ (8 * r)) (show x + 1 ≤ 256 by omega)
    rw [Nat.add_mul, Nat.one_mul, Nat.mul_comm 256] at this; exact this
  have e1 : (x : Int) * 2 ^ (8 * r) = ((2 ^ (8 * r) * x : Nat) : Int) := by rw [Int.natCast_mul, Int.natCast_pow, Int.mul_comm]; rfl
  rw [Nat.mul_comm] at h1
  have e2 : IntKind.u64.wrap ((x : Int) * 2 ^ (8 * r)) = ((2 ^ (8 * r) * x : Nat) : Int) := by
    rw [e1, IntKind.wrap_u64]
    generalize 2 ^ (8 * r) * x = y at *
    generalize 2 ^ (8 * r) = z at *
    omega
  rw [e2, u64_or_nat _ _ (by omega) (by omega), Nat.or_comm, ← Nat.two_pow_add_eq_or_of_lt ho, Nat.mul_comm x, Nat.add_comm]
set_option maxHeartbeats 1600000 in
theorem fill_some (WB m len cap pb po : Nat) (T : TypeId) (tl : List Value) (f : Nat → Nat) (w : World) (hf : ∀ i, f i < 256) (hm : len ≤ 8 * m) (hm2 : m ≤ 8) (hne : pb ≠ WB) (hlt : pb < w.heap.size) (hlc : len ≤ cap)
    (hc : ∀ i, i < len → w.cell? ⟨pb, po + i, none⟩ = some (.int .u8 (f i))) (hb : Blk w WB T (wds 0 m ++ tl)) :
    Calls Tryz.prog 38 #[.slice (some ⟨WB, 0, none⟩) m m, .slice (some ⟨pb, po, none⟩) len cap] w fun e w' => e = .returned (.tuple #[]) ∧ w.grownBy w' (some WB) ∧ Blk w' WB T (wds (Sc.leN f len) m ++ tl) := by
  have HC := Lib.hid hc; clear hc
  have HF := Lib.hid hf; clear hf
  have HB := Lib.hid hb; clear hb
  go_enter Tryz.func38, Tryz.ntmps38
  go_wp2
  go_loopw [8] (fun i wr => ∃ k : Nat, k ≤ len ∧ i = .int .i64 k ∧ w.grownBy wr (some WB) ∧ Blk wr WB T (wds (Sc.leN f k) m ++ tl)) (fun i _ => len - (intOf i).toNat)
  case atStart => exact ⟨0, by omega, rfl, gb_refl _ _, HB.out⟩
  case round =>
    obtain ⟨k, hk, rfl, hg, hb⟩ := hrel
    by_cases hkl : k < len
    · obtain ⟨d, hd⟩ : ∃ d, d = k / 8 := ⟨_, rfl⟩
      obtain ⟨r, hr⟩ : ∃ r, r = k % 8 := ⟨_, rfl⟩
      have hd2 : (k : Int) / 8 = (d : Int) := by omega
      have hr2 : (k : Int) % 8 = (r : Int) := by omega
      have dm : d < m := by omega
      have r8 : r < 8 := by omega
      have hs := Sc.fill_same f HF.out k
      rw [← hd, ← hr] at hs
      have hso := Sc.fill_other f HF.out k
      rw [← hd] at hso
      have hv := fill_bits (Sc.wrd (Sc.leN f k) d) (f k) r (HF.out k) r8 hs.2
      have hset := wds_set (Sc.leN f k) (Sc.leN f (k + 1)) m d dm tl _ hs.1 hso
      have HS := Lib.hid (And.intro hv hset); clear hv hset hs hso hd hr
      have c0 := hb.cell (wds_get (Sc.leN f k) m d dm tl)
      have f0 := hb.free d
      have c1 : wr.cell? ⟨pb, po + k, none⟩ = some (.int .u8 (f k)) := by rw [gb_cell hg (p := ⟨pb, po + k, none⟩) hlt (some_ne' hne)]; exact HC.out k hkl
      have fk := HF.out k
      have HB1 := Lib.hid hb; clear hb
      have HG := Lib.hid hg; clear hg
      unfold wV u64N at c0
      go_wp2
      go_region
      all_goals go_wp2
      go_roundw
      case rel =>
        refine ⟨k + 1, by omega, by go_num, gb_drew (gb_set HG.out _ _), ?_⟩
        have h := HB1.out.set d (u64N (Sc.wrd (Sc.leN f k) d + f k * 2 ^ (8 * r)))
        rw [HS.out.2] at h
        unfold u64N at h
        rw [← HS.out.1] at h
        exact h.drew
      case measure => simp [intOf]; omega
    · obtain rfl : k = len := by omega
      have HB1 := Lib.hid hb; clear hb
      have HG := Lib.hid hg; clear hg
      go_wp2
      go_end0
      exact ⟨rfl, HG.out, HB1.out⟩
theorem fill_none (WB m cap : Nat) (a : Option Addr) (w : World) :
    Calls Tryz.prog 38 #[.slice (some ⟨WB, 0, none⟩) m m, .slice a 0 cap] w fun e w' => e = .returned (.tuple #[]) ∧ w' = w := by
  go_enter Tryz.func38, Tryz.ntmps38
  go_wp2
  go_loopw [8] (fun i wr => i = .int .i64 0 ∧ wr = w) (fun _ _ => 0)
  case atStart => exact ⟨rfl, rfl⟩
  case round =>
    obtain ⟨rfl, rfl⟩ := hrel
    go_wp2
    go_end0
    exact ⟨rfl, rfl⟩
/-- the number of bytes -/
def num (l : List Nat) : Nat := Sc.leN (fun i => l.getD i 0) l.length
theorem fill_any (WB m len cap B : Nat) (T : TypeId) (tl : List Value) (a : Option Addr) (l : List Nat) (w : World) (hl : l.length = len) (hm : len ≤ 8 * m) (hm2 : m ≤ 8) (hP : BytesAt w B a cap l) (hB : B ≤ WB) (hb : Blk w WB T (wds 0 m ++ tl)) :
    Calls Tryz.prog 38 #[.slice (some ⟨WB, 0, none⟩) m m, .slice a len cap] w fun e w' => e = .returned (.tuple #[]) ∧ w.grownBy w' (some WB) ∧ Blk w' WB T (wds (num l) m ++ tl) := by
  subst hl
  rcases hP.cells with h0 | ⟨pb, po, rfl, hlt, hc⟩
  · have hz : num l = 0 := by unfold num; rw [h0]; rfl
    rw [h0, hz]
    refine (fill_none WB m cap a w).mono ?_
    rintro e w' ⟨rfl, rfl⟩
    exact ⟨rfl, gb_refl _ _, hb⟩
  · exact fill_some WB m l.length cap pb po T tl _ w hP.byte hm hm2 (by omega) (Nat.lt_of_lt_of_le hlt hP.lim) hP.fits hc hb
theorem wds4 (n : Nat) : wds n 4 = [wV n 0, wV n 1, wV n 2, wV n 3] := rfl
theorem wds8 (n : Nat) : wds n 8 = [wV n 0, wV n 1, wV n 2, wV n 3, wV n 4, wV n 5, wV n 6, wV n 7] := rfl
theorem wV0 (j : Nat) : wV 0 j = .int .u64 0 := by unfold wV Sc.wrd u64N; simp
def narrowV (n : Nat) : Value := .agg #[wV n 0, wV n 1, wV n 2, wV n 3]
set_option maxHeartbeats 1600000 in
theorem narrowOf_any (len cap B : Nat) (a : Option Addr) (l : List Nat) (w : World) (hl : l.length = len) (hm : len ≤ 32) (hP : BytesAt w B a cap l) :
    Calls Tryz.prog 36 #[.slice a len cap] w fun e w' => e = .returned (narrowV (num l)) ∧ w.grownBy w' none := by
  have HP := Lib.hid hP; clear hP
  have hlen := Lib.hid hl; clear hl
  go_enter Tryz.func36, Tryz.ntmps36
  go_wp2_with fail
  have hb : Blk ((w.alloc (.cells #[.int .u64 0, .int .u64 0, .int .u64 0, .int .u64 0] 44)).alloc (.cells #[.int .u64 0, .int .u64 0, .int .u64 0, .int .u64 0] 44)) (w.heap.size + 1) 44 (wds 0 4 ++ []) := by
    rw [wds4, wV0, wV0, wV0, wV0]
    exact blk_at (w.alloc _) [.int .u64 0, .int .u64 0, .int .u64 0, .int .u64 0] _ (by simp)
  have hr : Blk ((w.alloc (.cells #[.int .u64 0, .int .u64 0, .int .u64 0, .int .u64 0] 44)).alloc (.cells #[.int .u64 0, .int .u64 0, .int .u64 0, .int .u64 0] 44)) w.heap.size 44 [.int .u64 0, .int .u64 0, .int .u64 0, .int .u64 0] := (Blk.new w [.int .u64 0, .int .u64 0, .int .u64 0, .int .u64 0] _).alloc _
  have hg := gb_alloc (gb_alloc (gb_refl w none) (.cells #[.int .u64 0, .int .u64 0, .int .u64 0, .int .u64 0] 44)) (.cells #[.int .u64 0, .int .u64 0, .int .u64 0, .int .u64 0] 44)
  revert hb hr hg
  generalize (w.alloc (.cells #[.int .u64 0, .int .u64 0, .int .u64 0, .int .u64 0] 44)).alloc (.cells #[.int .u64 0, .int .u64 0, .int .u64 0, .int .u64 0] 44) = w1
  intro hb hr hg
  refine (fill_any (w.heap.size + 1) 4 len cap B _ [] a l w1 hlen.out hm (by omega) (HP.out.stay hg) (by have := HP.out.lim; omega) hb).mono ?_
  rintro e w2 ⟨rfl, hg2, hb2⟩
  have hg3 := gb_then hg hg2 (by omega)
  have hr2 := hr.grown hg2 (some_ne' (by omega))
  have HG := Lib.hid hg3; clear hg3 hg2 hg hr hb
  rw [wds4] at hb2
  have c0 := hb2.cell (i := 0) rfl
  have c1 := hb2.cell (i := 1) rfl
  have c2 := hb2.cell (i := 2) rfl
  have c3 := hb2.cell (i := 3) rfl
  have r0 := hr2.cell (i := 0) rfl
  have r1 := hr2.cell (i := 1) rfl
  have r2 := hr2.cell (i := 2) rfl
  have r3 := hr2.cell (i := 3) rfl
  have f0 := hr2.free 0
  have f1 := hr2.free 1
  have f2 := hr2.free 2
  have f3 := hr2.free 3
  clear hr2 hb2
  unfold wV u64N at c0 c1 c2 c3
  go_wp2
  refine bodyPost_ret (v := narrowV (num l)) ?_ rfl ⟨rfl, ?_⟩
  · simp [results, Tryz.results36, go_sem, r0, r1, r2, r3, narrowV, wV, u64N]
  · exact gb_set_new (gb_set_new (gb_set_new (gb_set_new HG.out (Nat.le_refl _) _) (Nat.le_refl _) _) (Nat.le_refl _) _) (Nat.le_refl _) _
end Go.Proofs.YtmnlidfalhjghaaGreatDoor
