/- For the laws: one part written, one part's digest, Pick, slices of slices. -/
import Derived.Test.YtabdegeaifajfaaGreatDoorShaPartM
import Derived.BigGuardPart
namespace Go.Proofs.YtabdegeaifajfaaGreatDoor
open Go.RowKit

theorem IsHash.grown {w w' : World} {B M B' : Nat} {l : List Nat} (h : IsHash w B M l) (hg : w.grownBy w' (some B')) (hne : B ≠ B') : IsHash w' B M l :=
  let ⟨r, hr⟩ := h; ⟨r, hr.len, hr.byte, hr.waits, hr.blk.grown hg (fun e => hne (Option.some.inj e))⟩
theorem PartAt.grown {w w' : World} {B B' cap : Nat} {a : Option Addr} {p : List Nat} (h : PartAt w B a cap p) (hg : w.grownBy w' none) (hB : w.heap.size ≤ B') : PartAt w' B' a cap p := by
  refine ⟨h.cap, h.byte, ?_⟩
  rcases h.cells with h0 | ⟨pb, po, ha, _, hlt, hc⟩
  · exact Or.inl h0
  · exact Or.inr ⟨pb, po, ha, by omega, Nat.lt_of_lt_of_le hlt hg.size, fun i hi => by rw [gb_cell hg (p := ⟨pb, po + i, none⟩) hlt (by simp)]; exact hc i hi⟩

theorem parts_one (w : World) (B cap : Nat) (a : Option Addr) (p : List Nat) (hP : PartAt w B a cap p) (hcap : cap < 9223372036854775808) (hB : w.heap.size ≠ B) :
    PartsAt (w.alloc (.cells #[.slice a p.length cap] 34)) B (some ⟨w.heap.size, 0, none⟩) 1 [⟨a, cap, p⟩] := by
  have hb := Blk.new w [.slice a p.length cap] 34
  refine ⟨Nat.le_refl 1, ?_, Or.inr ⟨w.heap.size, 0, rfl, hB, hb.lt, ?_⟩⟩
  · intro q hq
    simp only [List.mem_cons, List.not_mem_nil, or_false] at hq
    subst hq
    exact ⟨hP.kept (gb_alloc (gb_refl _ _) _), hcap⟩
  · intro i hi
    have hi2 : i < 1 := hi
    obtain rfl : i = 0 := by omega
    exact hb.cell rfl
theorem joined_one (a : Option Addr) (cap : Nat) (p : List Nat) : joined [⟨a, cap, p⟩] = p := by simp [joined]

/-- one part is written -/
theorem write_one (B cap n : Nat) (l p : List Nat) (a : Option Addr) (w : World) (hn : p.length = n) (hT : Tables w) (hB2 : 0 + 3 + 1 ≤ B) (hH : IsHash w B B l) (hP : PartAt w B a cap p) (hcap : cap < 9223372036854775808) (hlen : l.length + p.length < 2147483648) :
    Calls Tryz.prog 104 #[.pointer (some ⟨B, 0, none⟩), .slice (some ⟨w.heap.size, 0, none⟩) 1 1] (w.alloc (.cells #[.slice a n cap] 34)) fun e w' => e = .returned (.int .i64 0) ∧ w.grownBy w' (some B) ∧ IsHash w' B B (l ++ p) := by
  subst hn
  have hg := gb_alloc (gb_refl w (some B)) (.cells #[.slice a p.length cap] 34)
  refine (write_any B 1 1 l [⟨a, cap, p⟩] (some ⟨w.heap.size, 0, none⟩) _ rfl (hT.kept hg (fun b e => by cases e; exact hB2)) hB2 (hH.kept (gb_alloc (gb_refl _ _) _)) (parts_one w B cap a p hP hcap (by have := hH.lt; omega)) (by decide) (by rw [joined_one]; exact hlen)).mono ?_
  rintro e w' ⟨rfl, hg2, hH2⟩
  rw [joined_one] at hH2
  exact ⟨rfl, gb_trans hg hg2, hH2⟩
/-- one part's digest -/
theorem sum_one (B cap n : Nat) (p : List Nat) (a : Option Addr) (w : World) (hn : p.length = n) (hT : Tables w) (hB : w.heap.size ≠ B) (hP : PartAt w B a cap p) (hcap : cap < 9223372036854775808) (hlen : p.length < 2147483000) :
    Calls Tryz.prog 71 #[.slice (some ⟨w.heap.size, 0, none⟩) 1 1] (w.alloc (.cells #[.slice a n cap] 34)) fun e w' => ∃ NB, e = .returned (.slice (some ⟨NB, 0, none⟩) 64 64) ∧ w.grownBy w' none ∧ w.heap.size ≤ NB ∧ Blk w' NB 5 ((Sha.sum p).map u8V) := by
  subst hn
  have hg := gb_alloc (gb_refl w none) (.cells #[.slice a p.length cap] 34)
  refine (sum_any 1 1 B [⟨a, cap, p⟩] (some ⟨w.heap.size, 0, none⟩) _ rfl (hT.kept hg (by simp)) (parts_one w B cap a p hP hcap hB) (by decide) (by rw [joined_one]; exact hlen)).mono ?_
  rintro e w' ⟨NB, rfl, hg2, hN, hb⟩
  rw [joined_one] at hb
  exact ⟨NB, rfl, gb_trans hg hg2, Nat.le_trans hg.size hN, hb⟩

set_option maxRecDepth 100000 in
/-- x[lo:hi] of a slice of bytes -/
theorem slice_run (a : Option Addr) (n cap lo k : Nat) (h : lo + k ≤ cap) :
    ∃ a', (∀ w, (Instr.slice 34 (.slice a n cap) (some (.int .i64 (lo : Int))) (some (.int .i64 ((lo : Int) + (k : Int)))) none).run Tryz.prog w = .ok (.slice a' k (cap - lo)) w) ∧ (lo < cap → ∀ pb po, a = some ⟨pb, po, none⟩ → a' = some ⟨pb, po + lo, none⟩) := by
  obtain ⟨j, hj, hs⟩ : ∃ j, Tryz.prog.info? (Tryz.prog.elem 34) = some j ∧ j.size = 1 := by
    have h1 : (Tryz.prog.info? (Tryz.prog.elem 34)).map (·.size) = some 1 := by kernel_rfl
    cases hq : Tryz.prog.info? (Tryz.prog.elem 34) with
    | none => rw [hq] at h1; cases h1
    | some j => rw [hq] at h1; exact ⟨j, rfl, by simpa using h1⟩
  have e1 : ((lo : Int) + (k : Int)).toNat = lo + k := by omega
  refine ⟨if cap = lo then a else a.map (·.add lo), fun w => ?_, ?_⟩
  · rw [run_slice_lh w 34 a n cap Tryz.underlying34 .i64 .i64 _ _ (by omega) (by omega) (by omega), e1, Int.toNat_natCast]
    simp [sizeOf, typeInfo, hj, hs, sliced]
  · intro hlt pb po e
    rw [if_neg (by omega), e]
    simp [Addr.add]

set_option maxRecDepth 100000 in
/-- x[lo:] of a slice of bytes -/
theorem slice_from (a : Option Addr) (n cap lo : Nat) (h : lo ≤ n) :
    ∃ a', (∀ w, (Instr.slice 34 (.slice a n cap) (some (.int .i64 (lo : Int))) none none).run Tryz.prog w = .ok (.slice a' (n - lo) (cap - lo)) w) ∧ (lo < cap → ∀ pb po, a = some ⟨pb, po, none⟩ → a' = some ⟨pb, po + lo, none⟩) := by
  obtain ⟨j, hj, hs⟩ : ∃ j, Tryz.prog.info? (Tryz.prog.elem 34) = some j ∧ j.size = 1 := by
    have h1 : (Tryz.prog.info? (Tryz.prog.elem 34)).map (·.size) = some 1 := by kernel_rfl
    cases hq : Tryz.prog.info? (Tryz.prog.elem 34) with
    | none => rw [hq] at h1; cases h1
    | some j => rw [hq] at h1; exact ⟨j, rfl, by simpa using h1⟩
  refine ⟨if cap = lo then a else a.map (·.add lo), fun w => ?_, ?_⟩
  · rw [run_slice_l w 34 a n cap Tryz.underlying34 .i64 _ (by omega) (by omega), Int.toNat_natCast]
    simp [sizeOf, typeInfo, hj, hs, sliced]
  · intro hlt pb po e
    rw [if_neg (by omega), e]
    simp [Addr.add]

/-- ints that a slice has -/
structure IntsAt (w : World) (a : Option Addr) (len : Nat) (zs : List Int) : Prop where
  wf : ∀ i, -9223372036854775808 ≤ zs.getD i 0 ∧ zs.getD i 0 ≤ 9223372036854775807
  cells : len = 0 ∨ ∃ pb po, a = some ⟨pb, po, none⟩ ∧ pb < w.heap.size ∧ ∀ i, i < len → w.cell? ⟨pb, po + i, none⟩ = some (.int .i64 (zs.getD i 0))

/-- parts in a new block -/
theorem parts_many (w : World) (B : Nat) (ps : List Part) (hP : ∀ p ∈ ps, PartAt w B p.a p.cap p.l ∧ p.cap < 9223372036854775808) (hB : w.heap.size ≠ B) :
    PartsAt (w.alloc (.cells (ps.map Part.v).toArray 34)) B (some ⟨w.heap.size, 0, none⟩) ps.length ps := by
  have hb := Blk.new w (ps.map Part.v) 34
  refine ⟨Nat.le_refl _, fun p hp => ⟨(hP p hp).1.kept (gb_alloc (gb_refl _ _) _), (hP p hp).2⟩, Or.inr ⟨w.heap.size, 0, rfl, hB, hb.lt, fun i hi => ?_⟩⟩
  apply hb.cell
  rw [Nat.zero_add, List.getElem?_map, List.getElem?_eq_getElem hi]; rfl
/-- several parts are written -/
theorem write_many (B m : Nat) (l : List Nat) (ps : List Part) (arr : Array Value) (w : World) (ha : arr = (ps.map Part.v).toArray) (hm : ps.length = m) (hT : Tables w) (hB2 : 0 + 3 + 1 ≤ B) (hH : IsHash w B B l) (hP : ∀ p ∈ ps, PartAt w B p.a p.cap p.l ∧ p.cap < 9223372036854775808) (hm2 : m < 9223372036854775808) (hlen : l.length + (joined ps).length < 2147483648) :
    Calls Tryz.prog 104 #[.pointer (some ⟨B, 0, none⟩), .slice (some ⟨w.heap.size, 0, none⟩) m m] (w.alloc (.cells arr 34)) fun e w' => e = .returned (.int .i64 0) ∧ w.grownBy w' (some B) ∧ IsHash w' B B (l ++ joined ps) := by
  subst ha
  subst hm
  have hg := gb_alloc (gb_refl w (some B)) (.cells (ps.map Part.v).toArray 34)
  refine (write_any B ps.length ps.length l ps (some ⟨w.heap.size, 0, none⟩) _ rfl (hT.kept hg (fun b e => by cases e; exact hB2)) hB2 (hH.kept (gb_alloc (gb_refl _ _) _)) (parts_many w B ps hP (by have := hH.lt; omega)) hm2 hlen).mono ?_
  rintro e w' ⟨rfl, hg2, hH2⟩
  exact ⟨rfl, gb_trans hg hg2, hH2⟩
/-- several parts' digest -/
theorem sum_many (B m : Nat) (ps : List Part) (arr : Array Value) (w : World) (ha : arr = (ps.map Part.v).toArray) (hm : ps.length = m) (hT : Tables w) (hB : w.heap.size ≠ B) (hP : ∀ p ∈ ps, PartAt w B p.a p.cap p.l ∧ p.cap < 9223372036854775808) (hm2 : m < 9223372036854775808) (hlen : (joined ps).length < 2147483000) :
    Calls Tryz.prog 71 #[.slice (some ⟨w.heap.size, 0, none⟩) m m] (w.alloc (.cells arr 34)) fun e w' => ∃ NB, e = .returned (.slice (some ⟨NB, 0, none⟩) 64 64) ∧ w.grownBy w' none ∧ w.heap.size ≤ NB ∧ Blk w' NB 5 ((Sha.sum (joined ps)).map u8V) := by
  subst ha
  subst hm
  have hg := gb_alloc (gb_refl w none) (.cells (ps.map Part.v).toArray 34)
  refine (sum_any ps.length ps.length B ps (some ⟨w.heap.size, 0, none⟩) _ rfl (hT.kept hg (by simp)) (parts_many w B ps hP hB) hm2 hlen).mono ?_
  rintro e w' ⟨NB, rfl, hg2, hN, hb⟩
  exact ⟨NB, rfl, gb_trans hg hg2, Nat.le_trans hg.size hN, hb⟩
theorem apart_blocks {w : World} {B B' M : Nat} {l : List Nat} {L : List Value} (h : IsHash w B M l) (hb : Blk w B' 5 L) : B' ≠ B := by
  obtain ⟨r, hr⟩ := h
  intro e
  subst e
  have h1 := hr.blk
  unfold Blk at h1 hb
  rw [h1] at hb
  cases hb
end Go.Proofs.YtabdegeaifajfaaGreatDoor
