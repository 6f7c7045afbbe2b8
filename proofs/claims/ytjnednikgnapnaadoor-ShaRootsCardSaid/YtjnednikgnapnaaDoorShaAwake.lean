/- The laws' helpers: SameBytes, begins, awake. -/
import Derived.Test.YtjnednikgnapnaaDoorShaPartM
namespace Go.Proofs.YtjnednikgnapnaaDoor
open Go.RowKit

set_option maxHeartbeats 400000 in
theorem same_yes (B1 B2 n m c1 c2 : Nat) (a1 a2 : Option Addr) (p : List Nat) (w : World) (hn : p.length = n) (hm : p.length = m) (h1 : PartAt w B1 a1 c1 p) (h2 : PartAt w B2 a2 c2 p) (hc1 : c1 < 9223372036854775808) :
    Calls Tryd.prog 6 #[.slice a1 n c1, .slice a2 m c2] w fun e w' => e = .returned (.bool true) ∧ ∃ k, w' = w.drewN k := by
  subst hn
  subst hm
  have hp1 := h1.cap
  have H1 := Lib.hid h1; clear h1
  have H2 := Lib.hid h2; clear h2
  go_enter Tryd.func6, Tryd.ntmps6
  go_wp2
  go_loopw [5] (fun i wr => ∃ k j : Nat, k ≤ p.length ∧ i = .int .i64 k ∧ wr = w.drewN j) (fun i _ => p.length - (intOf i).toNat)
  case atStart => exact ⟨0, 0, by omega, rfl, rfl⟩
  case round =>
    obtain ⟨k, j, hk, rfl, rfl⟩ := hrel
    by_cases hlt : k < p.length
    · obtain ⟨pb, po, rfl, _, _, hc⟩ := H1.out.cells.resolve_left (by omega)
      obtain ⟨qb, qo, rfl, _, _, hd⟩ := H2.out.cells.resolve_left (by omega)
      have k1 := hc k hlt
      have k2 := hd k hlt
      unfold u8V at k1 k2
      clear hc hd
      generalize p.getD k 0 = x at *
      have i0 : (k : Int) < (p.length : Int) := by omega
      go_wp2_with fail
      go_quiet (fail)
      go_wp2
      go_roundw
      case rel => exact ⟨k + 1, _, by omega, by go_num, rfl⟩
      case measure => simp [intOf]; omega
    · obtain rfl : k = p.length := by omega
      clear hlt
      go_wp2
      go_ret
      exact ⟨rfl, j, rfl⟩

set_option maxHeartbeats 400000 in
theorem begins_yes (B1 B2 : Nat) (a1 a2 : Option Addr) (q p : List Nat) (w : World) (hp : p.length = 4) (hqp : q.take 4 = p) (h1 : PartAt w B1 a1 64 q) (h2 : PartAt w B2 a2 4 p) :
    Calls Tryd.prog 9 #[.slice a1 64 64, .slice a2 4 4] w fun e w' => e = .returned (.bool true) ∧ ∃ k, w' = w.drewN k := by
  have h3 := h1.take 4
  rw [hqp] at h3
  have H2 := Lib.hid (And.intro h2 (And.intro h3 hp)); clear h1 h2 h3 hp hqp
  go_enter Tryd.func9, Tryd.ntmps9
  go_wp2_with fail
  refine (same_yes B1 B2 4 4 64 4 a1 a2 p w H2.out.2.2 H2.out.2.2 H2.out.2.1 H2.out.1 (by decide)).mono ?_
  rintro e w1 ⟨rfl, k, rfl⟩
  go_wp2
  go_ret
  exact ⟨rfl, k, rfl⟩

theorem sum_empty' : (Sha.sum (joined [])).take 4 = [207, 131, 225, 53] := Sha.sum_empty

def abcParts (n : Nat) : List Part := [⟨some ⟨n, 0, none⟩, 1, [97]⟩, ⟨some ⟨n + 1, 0, none⟩, 2, [98, 99]⟩]
theorem abc_parts (w : World) (B : Nat) (hB : B < w.heap.size) :
    PartsAt (((w.alloc (.cells #[.int .u8 97] 5 (1, 2))).alloc (.cells #[.int .u8 98, .int .u8 99] 5 (2, 3))).alloc (.cells #[.slice (some ⟨w.heap.size, 0, none⟩) 1 1, .slice (some ⟨w.heap.size + 1, 0, none⟩) 2 2] 26)) B (some ⟨w.heap.size + 1 + 1, 0, none⟩) 2 (abcParts w.heap.size) := by
  have h1 := marked_part w [97] 5 (1, 2) B (by omega) (small_byte _ (by decide))
  have h2 := marked_part (w.alloc (.cells #[.int .u8 97] 5 (1, 2))) [98, 99] 5 (2, 3) B (by rw [World.size_alloc]; omega) (small_byte _ (by decide))
  rw [World.size_alloc] at h2
  have hb := Blk.new ((w.alloc (.cells #[.int .u8 97] 5 (1, 2))).alloc (.cells #[.int .u8 98, .int .u8 99] 5 (2, 3))) [.slice (some ⟨w.heap.size, 0, none⟩) 1 1, .slice (some ⟨w.heap.size + 1, 0, none⟩) 2 2] 26
  rw [World.size_alloc, World.size_alloc] at hb
  refine ⟨Nat.le_refl 2, ?_, Or.inr ⟨w.heap.size + 1 + 1, 0, rfl, by omega, hb.lt, ?_⟩⟩
  · intro p hp
    unfold abcParts at hp
    simp only [List.mem_cons, List.not_mem_nil, or_false] at hp
    rcases hp with rfl | rfl
    · exact ⟨h1.kept (gb_alloc (gb_alloc (gb_refl _ _) _) _), by show (1 : Nat) < _; decide⟩
    · exact ⟨h2.kept (gb_alloc (gb_refl _ _) _), by show (2 : Nat) < _; decide⟩
  · intro i hi
    have hi2 : i < 2 := hi
    apply hb.cell
    rw [Nat.zero_add]
    obtain rfl | rfl : i = 0 ∨ i = 1 := by omega
    · rfl
    · rfl

set_option maxRecDepth 100000 in
set_option maxHeartbeats 1000000 in
theorem awake_any (w : World) (hT : Tables w) :
    Calls Tryd.prog 4 #[] w fun e w' => e = .returned (.bool true) ∧ w.grownBy w' none := by
  have HT := Lib.hid hT; clear hT
  go_enter Tryd.func4, Tryd.ntmps4
  go_wp2_with fail
  refine (sum_any 0 0 w.heap.size [] none w rfl HT.out ⟨by decide, by simp, Or.inl rfl⟩ (by decide) (by decide)).mono ?_
  rintro e w1 ⟨NB, rfl, hg1, hNB, hb1⟩
  have H1 := Lib.hid (And.intro hg1 (And.intro hNB hb1)); clear hg1 hNB hb1
  go_wp2_with fail
  have hw2 : w.grownBy (w1.alloc (.cells #[.int .u8 207, .int .u8 131, .int .u8 225, .int .u8 53] 5)) none := gb_alloc H1.out.1 _
  have hq2 := ((H1.out.2.2.alloc (.cells #[.int .u8 207, .int .u8 131, .int .u8 225, .int .u8 53] 5)).part (B := 0) (by have := HT.out.lt; have := H1.out.2.1; omega) (sum_byte _))
  have hp2 : PartAt (w1.alloc (.cells #[.int .u8 207, .int .u8 131, .int .u8 225, .int .u8 53] 5)) 0 (some ⟨w1.heap.size, 0, none⟩) 4 [207, 131, 225, 53] := (Blk.new w1 ([207, 131, 225, 53].map u8V) 5).part (by have := HT.out.lt; have := H1.out.1.size; omega) (by intro i; exact small_byte _ (by decide) i)
  generalize w1.alloc (.cells #[.int .u8 207, .int .u8 131, .int .u8 225, .int .u8 53] 5) = w2 at *
  refine (begins_yes 0 0 _ _ _ _ w2 rfl sum_empty' hq2 hp2).mono ?_
  rintro e w3 ⟨rfl, k, rfl⟩
  have H2 := Lib.hid (gb_drewN hw2 k); clear hw2 hq2 hp2
  generalize w2.drewN k = w3 at *
  have hcv := fun (w : World) (C : Array Value) (n c : Nat) => Lib.run_convert_bytes_const (P := Tryd.prog) w 26 5 C n c Tryd.underlying26 Tryd.underlying5
  have hcv2 := fun (w : World) (o : Obj) (C : Array Value) (n c : Nat) => conv_second w o C n c
  go_wp2_with fail
  have hw4 : w.grownBy (((w3.alloc (.cells #[.int .u8 97] 5 (1, 2))).alloc (.cells #[.int .u8 98, .int .u8 99] 5 (2, 3))).alloc (.cells #[.slice (some ⟨w3.heap.size, 0, none⟩) 1 1, .slice (some ⟨w3.heap.size + 1, 0, none⟩) 2 2] 26)) none := gb_alloc (gb_alloc (gb_alloc H2.out _) _) _
  have hp4 := abc_parts w3 0 (by have := HT.out.lt; have := H2.out.size; omega)
  have hj : joined (abcParts w3.heap.size) = [97, 98, 99] := rfl
  generalize ((w3.alloc (.cells #[.int .u8 97] 5 (1, 2))).alloc (.cells #[.int .u8 98, .int .u8 99] 5 (2, 3))).alloc (.cells #[.slice (some ⟨w3.heap.size, 0, none⟩) 1 1, .slice (some ⟨w3.heap.size + 1, 0, none⟩) 2 2] 26) = w4 at *
  refine (sum_any 2 2 0 (abcParts w3.heap.size) _ w4 rfl (HT.out.kept hw4 (by simp)) hp4 (by decide) (by rw [hj]; decide)).mono ?_
  rintro e w5 ⟨NC, rfl, hg5, hNC, hb5⟩
  rw [hj] at hb5
  have H5 := Lib.hid (And.intro (gb_trans hw4 hg5) (And.intro (Nat.le_trans hw4.size hNC) hb5)); clear hg5 hNC hb5 hw4 hp4 hj hcv hcv2
  go_wp2_with fail
  have hw6 : w.grownBy (w5.alloc (.cells #[.int .u8 221, .int .u8 175, .int .u8 53, .int .u8 161] 5)) none := gb_alloc H5.out.1 _
  have hq6 := ((H5.out.2.2.alloc (.cells #[.int .u8 221, .int .u8 175, .int .u8 53, .int .u8 161] 5)).part (B := 0) (by have := HT.out.lt; have := H5.out.2.1; omega) (sum_byte _))
  have hp6 : PartAt (w5.alloc (.cells #[.int .u8 221, .int .u8 175, .int .u8 53, .int .u8 161] 5)) 0 (some ⟨w5.heap.size, 0, none⟩) 4 [221, 175, 53, 161] := (Blk.new w5 ([221, 175, 53, 161].map u8V) 5).part (by have := HT.out.lt; have := H5.out.1.size; omega) (by intro i; exact small_byte _ (by decide) i)
  generalize w5.alloc (.cells #[.int .u8 221, .int .u8 175, .int .u8 53, .int .u8 161] 5) = w6 at *
  refine (begins_yes 0 0 _ _ _ _ w6 rfl Sha.sum_abc hq6 hp6).mono ?_
  rintro e w7 ⟨rfl, k7, rfl⟩
  have H6 := Lib.hid (gb_drewN hw6 k7); clear hw6 hq6 hp6
  go_wp2
  go_ret
  exact ⟨rfl, H6.out⟩
end Go.Proofs.YtjnednikgnapnaaDoor
