/- scalar: fill, narrowOf, load, bytes. -/
import Derived.Test.YtffjkabgaiijdaaDoorScOff
import Derived.Test.YtffjkabgaiijdaaDoorOwn
namespace Go.Proofs.YtffjkabgaiijdaaDoor
open Go.RowKit Ow

theorem some_ne' {a b : Nat} (h : a ≠ b) : some a ≠ some b := fun e => h (Option.some.inj e)
def wds (n m : Nat) : List Value := (List.range m).map (wV n)
theorem wds_get (n m j : Nat) (h : j < m) (tl : List Value) : (wds n m ++ tl)[j]? = some (wV n j) := by
  unfold wds
  rw [List.getElem?_append_left (by simpa using h), List.getElem?_map, List.getElem?_range h]; rfl
theorem wds_set (n n' m j : Nat) (h : j < m) (tl : List Value) (v : Nat) (hj : Sc.wrd n' j = v) (ho : ∀ i, i ≠ j → Sc.wrd n' i = Sc.wrd n i) : (wds n m ++ tl).set j (u64N v) = wds n' m ++ tl := by
  unfold wds
  rw [List.set_append_left _ _ (by simpa using h)]
  congr 1
  apply List.ext_getElem?
  intro i
  rw [List.getElem?_set, List.length_map, List.length_range]
  by_cases hi : i < m
  · rw [List.getElem?_map, List.getElem?_map, List.getElem?_range hi]
    by_cases e : j = i
    · subst e; simp [hi, wV, hj]
    · simp [e, wV, ho i (fun h => e h.symm)]
  · rw [if_neg (by omega), List.getElem?_eq_none (by simp; omega), List.getElem?_eq_none (by simp; omega)]
theorem fill_bits (o x r : Nat) (hx : x < 256) (hr : r < 8) (ho : o < 2 ^ (8 * r)) : bits .or .u64 (o : Int) (IntKind.u64.wrap ((x : Int) * 2 ^ (8 * r))) = ((o + x * 2 ^ (8 * r) : Nat) : Int) := by
  have hb : (2 : Nat) ^ (8 * r) * 256 ≤ 18446744073709551616 := by
    have : (2 : Nat) ^ (8 * r) * 256 = 2 ^ (8 * r + 8) := by rw [Nat.pow_add]
    rw [this, show (18446744073709551616 : Nat) = 2 ^ 64 by rfl]
    exact Nat.pow_le_pow_right (by decide) (by omega)
  have h1 : x * 2 ^ (8 * r) + 2 ^ (8 * r) ≤ 2 ^ (8 * r) * 256 := by
    have := Nat.mul_le_mul_right (2 ^ (8 * r)) (show x + 1 ≤ 256 by omega)
    rw [Nat.add_mul, Nat.one_mul, Nat.mul_comm 256] at this; exact this
  have e1 : (x : Int) * 2 ^ (8 * r) = ((2 ^ (8 * r) * x : Nat) : Int) := by rw [Int.natCast_mul, Int.natCast_pow, Int.mul_comm]; rfl
  rw [Nat.mul_comm] at h1
  have e2 : IntKind.u64.wrap ((x : Int) * 2 ^ (8 * r)) = ((2 ^ (8 * r) * x : Nat) : Int) := by
    rw [e1, IntKind.wrap_u64]
    generalize 2 ^ (8 * r) * x = y at *
    generalize 2 ^ (8 * r) = z at *
    omega
  rw [e2, u64_or_nat _ _ (by omega) (by omega), Nat.or_comm, ← Nat.two_pow_add_eq_or_of_lt ho, Nat.mul_comm x, Nat.add_comm]
set_option maxHeartbeats 1600000 in
theorem fill_some (WB m len cap pb po : Nat) (T : TypeId) (tl : List Value) (f : Nat → Nat) (w : World) (hf : ∀ i, f i < 256) (hm : len ≤ 8 * m) (hm2 : m ≤ 8) (hne : pb ≠ WB) (hlt : pb < w.heap.size) (hlc : len ≤ cap)
    (hc : ∀ i, i < len → w.cell? ⟨pb, po + i, none⟩ = some (.int .u8 (f i))) (hb : Blk w WB T (wds 0 m ++ tl)) :
    Calls Tryd.prog 92 #[.slice (some ⟨WB, 0, none⟩) m m, .slice (some ⟨pb, po, none⟩) len cap] w fun e w' => e = .returned (.tuple #[]) ∧ w.grownBy w' (some WB) ∧ Blk w' WB T (wds (Sc.leN f len) m ++ tl) := by
  have HC := Lib.hid hc; clear hc
  have HF := Lib.hid hf; clear hf
  have HB := Lib.hid hb; clear hb
  go_enter Tryd.func92, Tryd.ntmps92
  go_wp2
  go_loopw [8] (fun i wr => ∃ k : Nat, k ≤ len ∧ i = .int .i64 k ∧ w.grownBy wr (some WB) ∧ Blk wr WB T (wds (Sc.leN f k) m ++ tl)) (fun i _ => len - (intOf i).toNat)
  case atStart => exact ⟨0, by omega, rfl, gb_refl _ _, HB.out⟩
  case round =>
    obtain ⟨k, hk, rfl, hg, hb⟩ := hrel
    by_cases hkl : k < len
    · obtain ⟨d, hd⟩ : ∃ d, d = k / 8 := ⟨_, rfl⟩
      obtain ⟨r, hr⟩ : ∃ r, r = k % 8 := ⟨_, rfl⟩
      have hd2 : (k : Int) / 8 = (d : Int) := by omega
      have hr2 : (k : Int) % 8 = (r : Int) := by omega
      have dm : d < m := by omega
      have r8 : r < 8 := by omega
      have hs := Sc.fill_same f HF.out k
      rw [← hd, ← hr] at hs
      have hso := Sc.fill_other f HF.out k
      rw [← hd] at hso
      have hv := fill_bits (Sc.wrd (Sc.leN f k) d) (f k) r (HF.out k) r8 hs.2
      have hset := wds_set (Sc.leN f k) (Sc.leN f (k + 1)) m d dm tl _ hs.1 hso
      have HS := Lib.hid (And.intro hv hset); clear hv hset hs hso hd hr
      have c0 := hb.cell (wds_get (Sc.leN f k) m d dm tl)
      have f0 := hb.free d
      have c1 : wr.cell? ⟨pb, po + k, none⟩ = some (.int .u8 (f k)) := by rw [gb_cell hg (p := ⟨pb, po + k, none⟩) hlt (some_ne' hne)]; exact HC.out k hkl
      have fk := HF.out k
      have HB1 := Lib.hid hb; clear hb
      have HG := Lib.hid hg; clear hg
      unfold wV u64N at c0
      go_wp2
      go_region
      all_goals go_wp2
      go_roundw
      case rel =>
        refine ⟨k + 1, by omega, by go_num, gb_drew (gb_set HG.out _ _), ?_⟩
        have h := HB1.out.set d (u64N (Sc.wrd (Sc.leN f k) d + f k * 2 ^ (8 * r)))
        rw [HS.out.2] at h
        unfold u64N at h
        rw [← HS.out.1] at h
        exact h.drew
      case measure => simp [intOf]; omega
    · obtain rfl : k = len := by omega
      have HB1 := Lib.hid hb; clear hb
      have HG := Lib.hid hg; clear hg
      go_wp2
      go_end0
      exact ⟨rfl, HG.out, HB1.out⟩
theorem fill_none (WB m cap : Nat) (a : Option Addr) (w : World) :
    Calls Tryd.prog 92 #[.slice (some ⟨WB, 0, none⟩) m m, .slice a 0 cap] w fun e w' => e = .returned (.tuple #[]) ∧ w' = w := by
  go_enter Tryd.func92, Tryd.ntmps92
  go_wp2
  go_loopw [8] (fun i wr => i = .int .i64 0 ∧ wr = w) (fun _ _ => 0)
  case atStart => exact ⟨rfl, rfl⟩
  case round =>
    obtain ⟨rfl, rfl⟩ := hrel
    go_wp2
    go_end0
    exact ⟨rfl, rfl⟩
/-- the number of bytes -/
def num (l : List Nat) : Nat := Sc.leN (fun i => l.getD i 0) l.length
theorem fill_any (WB m len cap B : Nat) (T : TypeId) (tl : List Value) (a : Option Addr) (l : List Nat) (w : World) (hl : l.length = len) (hm : len ≤ 8 * m) (hm2 : m ≤ 8) (hP : BytesAt w B a cap l) (hB : B ≤ WB) (hb : Blk w WB T (wds 0 m ++ tl)) :
    Calls Tryd.prog 92 #[.slice (some ⟨WB, 0, none⟩) m m, .slice a len cap] w fun e w' => e = .returned (.tuple #[]) ∧ w.grownBy w' (some WB) ∧ Blk w' WB T (wds (num l) m ++ tl) := by
  subst hl
  rcases hP.cells with h0 | ⟨pb, po, rfl, hlt, hc⟩
  · have hz : num l = 0 := by unfold num; rw [h0]; rfl
    rw [h0, hz]
    refine (fill_none WB m cap a w).mono ?_
    rintro e w' ⟨rfl, rfl⟩
    exact ⟨rfl, gb_refl _ _, hb⟩
  · exact fill_some WB m l.length cap pb po T tl _ w hP.byte hm hm2 (by omega) (Nat.lt_of_lt_of_le hlt hP.lim) hP.fits hc hb
theorem wds4 (n : Nat) : wds n 4 = [wV n 0, wV n 1, wV n 2, wV n 3] := rfl
theorem wds8 (n : Nat) : wds n 8 = [wV n 0, wV n 1, wV n 2, wV n 3, wV n 4, wV n 5, wV n 6, wV n 7] := rfl
theorem wV0 (j : Nat) : wV 0 j = .int .u64 0 := by unfold wV Sc.wrd u64N; simp
def narrowV (n : Nat) : Value := .agg #[wV n 0, wV n 1, wV n 2, wV n 3]
set_option maxHeartbeats 1600000 in
theorem narrowOf_any (len cap B : Nat) (a : Option Addr) (l : List Nat) (w : World) (hl : l.length = len) (hm : len ≤ 32) (hP : BytesAt w B a cap l) :
    Calls Tryd.prog 62 #[.slice a len cap] w fun e w' => e = .returned (narrowV (num l)) ∧ w.grownBy w' none := by
  have HP := Lib.hid hP; clear hP
  have hlen := Lib.hid hl; clear hl
  go_enter Tryd.func62, Tryd.ntmps62
  go_wp2_with fail
  have hb : Blk ((w.alloc (.cells #[.int .u64 0, .int .u64 0, .int .u64 0, .int .u64 0] 76)).alloc (.cells #[.int .u64 0, .int .u64 0, .int .u64 0, .int .u64 0] 76)) (w.heap.size + 1) 76 (wds 0 4 ++ []) := by
    rw [wds4, wV0, wV0, wV0, wV0]
    exact blk_at (w.alloc _) [.int .u64 0, .int .u64 0, .int .u64 0, .int .u64 0] _ (by simp)
  have hr : Blk ((w.alloc (.cells #[.int .u64 0, .int .u64 0, .int .u64 0, .int .u64 0] 76)).alloc (.cells #[.int .u64 0, .int .u64 0, .int .u64 0, .int .u64 0] 76)) w.heap.size 76 [.int .u64 0, .int .u64 0, .int .u64 0, .int .u64 0] := (Blk.new w [.int .u64 0, .int .u64 0, .int .u64 0, .int .u64 0] _).alloc _
  have hg := gb_alloc (gb_alloc (gb_refl w none) (.cells #[.int .u64 0, .int .u64 0, .int .u64 0, .int .u64 0] 76)) (.cells #[.int .u64 0, .int .u64 0, .int .u64 0, .int .u64 0] 76)
  revert hb hr hg
  generalize (w.alloc (.cells #[.int .u64 0, .int .u64 0, .int .u64 0, .int .u64 0] 76)).alloc (.cells #[.int .u64 0, .int .u64 0, .int .u64 0, .int .u64 0] 76) = w1
  intro hb hr hg
  refine (fill_any (w.heap.size + 1) 4 len cap B _ [] a l w1 hlen.out hm (by omega) (HP.out.stay hg) (by have := HP.out.lim; omega) hb).mono ?_
  rintro e w2 ⟨rfl, hg2, hb2⟩
  have hg3 := gb_then hg hg2 (by omega)
  have hr2 := hr.grown hg2 (some_ne' (by omega))
  have HG := Lib.hid hg3; clear hg3 hg2 hg hr hb
  rw [wds4] at hb2
  have c0 := hb2.cell (i := 0) rfl
  have c1 := hb2.cell (i := 1) rfl
  have c2 := hb2.cell (i := 2) rfl
  have c3 := hb2.cell (i := 3) rfl
  have r0 := hr2.cell (i := 0) rfl
  have r1 := hr2.cell (i := 1) rfl
  have r2 := hr2.cell (i := 2) rfl
  have r3 := hr2.cell (i := 3) rfl
  have f0 := hr2.free 0
  have f1 := hr2.free 1
  have f2 := hr2.free 2
  have f3 := hr2.free 3
  clear hr2 hb2
  unfold wV u64N at c0 c1 c2 c3
  go_wp2
  refine bodyPost_ret (v := narrowV (num l)) ?_ rfl ⟨rfl, ?_⟩
  · simp [results, Tryd.results62, go_sem, r0, r1, r2, r3, narrowV, wV, u64N]
  · exact gb_set_new (gb_set_new (gb_set_new (gb_set_new HG.out (Nat.le_refl _) _) (Nat.le_refl _) _) (Nat.le_refl _) _) (Nat.le_refl _) _
set_option maxHeartbeats 1600000 in
theorem load_any (R len cap B : Nat) (T : TypeId) (Y tl : List Value) (a : Option Addr) (l : List Nat) (w : World) (hl : l.length = len) (hm : len ≤ 64) (hY : Y.length = 8) (hP : BytesAt w B a cap l) (hB : B ≤ R) (hb : Blk w R T (Y ++ tl)) :
    Calls Tryd.prog 58 #[.pointer (some ⟨R, 0, none⟩), .slice a len cap] w fun e w' => e = .returned (.tuple #[]) ∧ w.grownBy w' (some R) ∧ Blk w' R T (wds (num l) 8 ++ tl) := by
  have HP := Lib.hid hP; clear hP
  have hlen := Lib.hid hl; clear hl
  have HB := Lib.hid hb; clear hb
  match Y, hY with
  | [y0, y1, y2, y3, y4, y5, y6, y7], _ =>
    have c0 := HB.out.cell (i := 0) rfl
    have c1 := HB.out.cell (i := 1) rfl
    have c2 := HB.out.cell (i := 2) rfl
    have c3 := HB.out.cell (i := 3) rfl
    have c4 := HB.out.cell (i := 4) rfl
    have c5 := HB.out.cell (i := 5) rfl
    have c6 := HB.out.cell (i := 6) rfl
    have c7 := HB.out.cell (i := 7) rfl
    have f0 := HB.out.free 0
    have f1 := HB.out.free 1
    have f2 := HB.out.free 2
    have f3 := HB.out.free 3
    have f4 := HB.out.free 4
    have f5 := HB.out.free 5
    have f6 := HB.out.free 6
    have f7 := HB.out.free 7
    go_enter Tryd.func58, Tryd.ntmps58
    go_wp2_with fail
    have hb1 := (((((((HB.out.set 0 (wV 0 0)).set 1 (wV 0 1)).set 2 (wV 0 2)).set 3 (wV 0 3)).set 4 (wV 0 4)).set 5 (wV 0 5)).set 6 (wV 0 6)).set 7 (wV 0 7)
    have hg1 := gb_set (gb_set (gb_set (gb_set (gb_set (gb_set (gb_set (gb_set (gb_refl w (some R)) 0 (wV 0 0)) 1 (wV 0 1)) 2 (wV 0 2)) 3 (wV 0 3)) 4 (wV 0 4)) 5 (wV 0 5)) 6 (wV 0 6)) 7 (wV 0 7)
    have hb2 : Blk _ R T (wds 0 8 ++ tl) := hb1
    simp only [wV0] at hb2 hg1
    clear hb1 HB c0 c1 c2 c3 c4 c5 c6 c7 f0 f1 f2 f3 f4 f5 f6 f7
    have HB := Lib.hid hb2; clear hb2
    refine (fill_any R 8 len cap B T tl a l _ hlen.out hm (by omega) (HP.out.kept hg1 (fun r e => by cases e; exact hB)) hB HB.out).mono ?_
    rintro e w2 ⟨rfl, hg2, hb2⟩
    have HG := Lib.hid (gb_trans hg1 hg2); clear hg1 hg2
    have HB2 := Lib.hid hb2; clear hb2
    go_wp2
    go_end0
    exact ⟨rfl, HG.out, HB2.out⟩
end Go.Proofs.YtffjkabgaiijdaaDoor
