/- THE STATEMENT WireNumbers (P6.1, P6.2): numbers at their ends, and each byte in each place; lengths that say more than is left, just as many, and that are no lengths, with each most about them, are told as written by hand. A closed statement, no condition. -/
import Derived.Test.YtlkiancedgaicaaGreatWiRef
import Derived.Test.YtlkiancedgaicaaGreatWiAsked
import Derived.Test.YtlkiancedgaicaaGreatWiPutsM
import Derived.Test.YtlkiancedgaicaaGreatFlowP
import Derived.Test.YtlkiancedgaicaaGreatFlowS
import Derived.Test.YtlkiancedgaicaaGreatOuts
import Derived.Test.YtlkiancedgaicaaGreatWiAsks
import Derived.Test.YtlkiancedgaicaaGreatWiAwake
import Derived.Test.YtlkiancedgaicaaGreatKept
import Derived.Test.YtlkiancedgaicaaGreatOver
import Derived.Test.YtlkiancedgaicaaGreatSame
import Derived.Test.YtlkiancedgaicaaGreatStep
import Derived.Test.YtlkiancedgaicaaGreatApartNil
import Derived.Deep.RegionLaw
import Derived.Test.YtlkiancedgaicaaGreatWiRefPut
import Derived.Test.YtlkiancedgaicaaGreatKeptRows
import Derived.Test.YtlkiancedgaicaaGreatRows
import Derived.ProofKit
import Derived.OpenShut
import Derived.SizedLaws
namespace Go.Proofs.YtlkiancedgaicaaGreat
open Go.RowKit Ow Wi
theorem ref_good (sb : Nat) (st : St) (w : World) (h : RefS w sb st) :
    Calls Tryz.prog 27 #[.pointer (some ⟨sb, 0, none⟩)] w fun e w' => e = .returned (.bool st.isSome) ∧ w' = w := by
  obtain ⟨a, n, cap, s, bad, full, hb, h1, h2, h3, hP, h4⟩ := h
  have c2 := hb.cell (i := 2) rfl
  have hs : Hid (st.isSome = !bad) := by
    show st.isSome = !bad
    rcases h4 with ⟨rfl, rfl⟩ | ⟨rfl, rfl⟩ <;> rfl
  rw [hs.out]
  clear h4 hP hb h1
  go_enter Tryz.func27, Tryz.ntmps27
  go_wp2
  go_ret
  exact ⟨rfl, rfl⟩
end Go.Proofs.YtlkiancedgaicaaGreat

namespace Go.Proofs.YtlkiancedgaicaaGreat
open Go.RowKit Ow Wi
theorem byteS_lt (st : St) (hb : ∀ l, st = some l → ∀ i, l.getD i 0 < 256) : (byteS st).1 < 256 := by
  have hp : 0 < 256 := by decide
  cases st with
  | none => exact hp
  | some l =>
    unfold byteS tells rdWord
    by_cases hk : 1 ≤ l.length
    · simp only [if_pos hk]
      have h1 := wN_lt (l.take 1) (fun b hm => getD_mem (hb l rfl) b (List.mem_of_mem_take hm))
      rwa [List.length_take, Nat.min_eq_left hk] at h1
    · simp only [if_neg hk]; exact hp
theorem want_base (w : World) (sb : Nat) (st : St) (what most : Int) (h : RefS w sb st) :
    (RefS (((w.alloc (.cells #[.int .i64 what, .int .i64 most] 43)).alloc (.cells #[.int .i64 0, .slice none 0 0, .bool false, .bool false] 40)).alloc (.cells #[.int .i64 0, .slice none 0 0, .bool false, .bool false] 40)) sb st ∧
    Blk (((w.alloc (.cells #[.int .i64 what, .int .i64 most] 43)).alloc (.cells #[.int .i64 0, .slice none 0 0, .bool false, .bool false] 40)).alloc (.cells #[.int .i64 0, .slice none 0 0, .bool false, .bool false] 40)) (w.heap.size + 1) 40 [.int .i64 0, .slice none 0 0, .bool false, .bool false] ∧
    Blk (((w.alloc (.cells #[.int .i64 what, .int .i64 most] 43)).alloc (.cells #[.int .i64 0, .slice none 0 0, .bool false, .bool false] 40)).alloc (.cells #[.int .i64 0, .slice none 0 0, .bool false, .bool false] 40)) (w.heap.size + 1 + 1) 40 [.int .i64 0, .slice none 0 0, .bool false, .bool false] ∧
    w.grownBy (((w.alloc (.cells #[.int .i64 what, .int .i64 most] 43)).alloc (.cells #[.int .i64 0, .slice none 0 0, .bool false, .bool false] 40)).alloc (.cells #[.int .i64 0, .slice none 0 0, .bool false, .bool false] 40)) none ∧ sb < w.heap.size) ∧ Blk (((w.alloc (.cells #[.int .i64 what, .int .i64 most] 43)).alloc (.cells #[.int .i64 0, .slice none 0 0, .bool false, .bool false] 40)).alloc (.cells #[.int .i64 0, .slice none 0 0, .bool false, .bool false] 40)) w.heap.size 43 [.int .i64 what, .int .i64 most] := by
  have g1 := gb_alloc (gb_alloc (gb_alloc (gb_refl w none) (.cells #[.int .i64 what, .int .i64 most] 43)) (.cells #[.int .i64 0, .slice none 0 0, .bool false, .bool false] 40)) (.cells #[.int .i64 0, .slice none 0 0, .bool false, .bool false] 40)
  refine ⟨⟨h.stay g1, ?_, ?_, g1, h.lt⟩, ((Blk.new w [.int .i64 what, .int .i64 most] 43).alloc _).alloc _⟩
  · have h1 := Blk.new (w.alloc (.cells #[.int .i64 what, .int .i64 most] 43)) [.int .i64 0, .slice none 0 0, .bool false, .bool false] 40
    rw [World.size_alloc] at h1
    exact h1.alloc _
  · have h1 := Blk.new ((w.alloc (.cells #[.int .i64 what, .int .i64 most] 43)).alloc (.cells #[.int .i64 0, .slice none 0 0, .bool false, .bool false] 40)) [.int .i64 0, .slice none 0 0, .bool false, .bool false] 40
    rw [World.size_alloc, World.size_alloc] at h1
    exact h1
theorem want_then {w w3 w4 : World} {sb : Nat} {st : St} {L M : List Value} {T U : TypeId} (h : RefS w3 sb st ∧ Blk w3 (w.heap.size + 1) T L ∧ Blk w3 (w.heap.size + 1 + 1) U M ∧ w.grownBy w3 none ∧ sb < w.heap.size) (hg : w3.grownBy w4 (some sb)) :
    Blk w4 (w.heap.size + 1) T L ∧ Blk w4 (w.heap.size + 1 + 1) U M ∧ w.grownBy w4 (some sb) :=
  ⟨h.2.1.grown hg (by have := h.2.2.2.2; simp; omega), h.2.2.1.grown hg (by have := h.2.2.2.2; simp; omega), gb_trans (gb_row h.2.2.2.1 _) hg⟩
set_option maxRecDepth 100000 in
set_option maxHeartbeats 4000000 in
theorem wanted_any (sb : Nat) (what most : Int) (st : St) (k : Nat) (w : World) (h : RefS w sb st) (hb : ∀ l, st = some l → ∀ i, l.getD i 0 < 256) (h1 : -9223372036854775808 ≤ what) (h2 : what ≤ 9223372036854775807) (hk : what % 4 = k) :
    Calls Tryz.prog 32 #[.pointer (some ⟨sb, 0, none⟩), .agg #[.int .i64 what, .int .i64 most]] w fun e w' => ∃ v, e = .returned (toldV (askS k most st).1.1 v (askS k most st).2) ∧ w.grownBy w' (some sb) ∧ RefS w' sb (askS k most st).2 ∧ w'.ownsRow w.heap.size 5 1 v (askS k most st).1.2.length ((askS k most st).1.2.map u8N) := by
  have hk4 : k < 4 := by omega
  have HP := Lib.hid (fun (W : World) => pick_is what 4 W (by decide) (by decide) h1 h2)
  rw [hk] at HP
  have HR := Lib.hid (And.intro h hb); clear h hb h1 h2 hk
  obtain rfl | rfl | rfl | rfl : k = 0 ∨ k = 1 ∨ k = 2 ∨ k = 3 := by omega
  · go_enter Tryz.func32, Tryz.ntmps32
    go_wp2_with (fail)
    refine (HP.out _).mono ?_
    rintro e w' ⟨rfl, rfl⟩
    have HR3 := Lib.hid (want_base w sb st what most HR.out.1)
    have hlt := byteS_lt st HR.out.2
    have hwr : IntKind.i64.wrap (((byteS st).1 : Nat) : Int) = (((byteS st).1 : Nat) : Int) := IntWalk.i64_in _ (by have h2 : (byteS st).1 < 256 := hlt; omega)
    clear hlt
    generalize ((w.alloc (.cells #[.int .i64 what, .int .i64 most] 43)).alloc (.cells #[.int .i64 0, .slice none 0 0, .bool false, .bool false] 40)).alloc (.cells #[.int .i64 0, .slice none 0 0, .bool false, .bool false] 40) = w3 at *
    go_wp2_with (fail)
    refine (ref_byte sb st _ (HR3.out.1.1)).mono ?_
    rintro e w4 ⟨rfl, hg4, hr4⟩
    obtain ⟨hb4, hz4, hg40⟩ := want_then HR3.out.1 hg4
    generalize hst : (byteS st).2 = st2 at *
    have c0 := hz4.cell (i := 0) rfl; have c1 := hz4.cell (i := 1) rfl; have c2 := hz4.cell (i := 2) rfl; have c3 := hz4.cell (i := 3) rfl
    have f0 := hz4.free 0; have f1 := hz4.free 1; have f2 := hz4.free 2; have f3 := hz4.free 3
    have H4 := Lib.hid (And.intro hg40 (And.intro hr4 (And.intro hz4 (And.intro hb4 (And.intro hst trivial)))));  clear hg40 hr4 hz4 hb4 hst hg4
    have hT0 := HR3.out.1.2.2.2.2
    have hT : sb < w.heap.size + 1 + 1 := by omega
    have hT1 : sb < w.heap.size + 1 := by omega
    go_wp2_with (fail)
    refine (ref_good sb st2 _ (H4.out.2.1.beside (gb_set (gb_refl _ _) _ _) hT)).mono ?_
    rintro e w' ⟨rfl, rfl⟩
    go_wp2_with (fail)
    refine (ref_done sb st2 _ (H4.out.2.1.beside (gb_set (gb_set (gb_refl _ _) _ _) _ _) hT)).mono ?_
    rintro e w5 ⟨rfl, hg5⟩
    have H5 : Hid (w.grownBy w5 (some sb) ∧ RefS w5 sb st2 ∧ Blk w5 (w.heap.size + 1 + 1) 40 [.int .i64 (((byteS st).1 : Nat) : Int), (.slice none 0 0), (.bool st2.isSome), .bool false] ∧ Blk w5 (w.heap.size + 1) 40 [.int .i64 0, .slice none 0 0, .bool false, .bool false]) := by
      obtain ⟨hg40, hr4, hz4, hb4, _, _⟩ := H4.out
      have s1 := gb_set (gb_set (gb_refl w4 (some (w.heap.size + 1 + 1))) 0 (.int .i64 (((byteS st).1 : Nat) : Int))) 2 (.bool st2.isSome)
      exact ⟨gb_trans (gb_set_new (gb_set_new hg40 (p := ⟨w.heap.size + 1 + 1, 0, none⟩) (by simp; try omega) (.int .i64 (((byteS st).1 : Nat) : Int))) (p := ⟨w.heap.size + 1 + 1, 2, none⟩) (by simp; try omega) (.bool st2.isSome)) (gb_row hg5 _), (hr4.beside s1 hT).stay hg5, ((hz4.set 0 (.int .i64 (((byteS st).1 : Nat) : Int))).set 2 (.bool st2.isSome)).grown hg5 (by simp), ((hb4.other (a := ⟨w.heap.size + 1 + 1, 0, none⟩) (by simp) (.int .i64 (((byteS st).1 : Nat) : Int))).other (a := ⟨w.heap.size + 1 + 1, 2, none⟩) (by simp) (.bool st2.isSome)).grown hg5 (by simp)⟩
    clear c0 c1 c2 c3 f0 f1 f2 f3 hg5
    have hz5 := H5.out.2.2.1
    have hb5 := H5.out.2.2.2
    have c0 := hz5.cell (i := 0) rfl; have c1 := hz5.cell (i := 1) rfl; have c2 := hz5.cell (i := 2) rfl; have c3 := hz5.cell (i := 3) rfl
    have f0 := hz5.free 0; have f1 := hz5.free 1; have f2 := hz5.free 2; have f3 := hz5.free 3
    have e0 := hb5.cell (i := 0) rfl; have e1 := hb5.cell (i := 1) rfl; have e2 := hb5.cell (i := 2) rfl; have e3 := hb5.cell (i := 3) rfl
    have d0 := hb5.free 0; have d1 := hb5.free 1; have d2 := hb5.free 2; have d3 := hb5.free 3
    clear hz5 hb5
    go_wp2_with (fail)
    have hz5 := H5.out.2.2.1
    have hb5 := H5.out.2.2.2
    have s2 := gb_set (gb_refl w5 (some (w.heap.size + 1 + 1))) 3 (.bool (decide (st2 = some [])))
    have hR := ((((hb5.other (a := ⟨w.heap.size + 1 + 1, 3, none⟩) (by simp) (.bool (decide (st2 = some [])))).set 0 (.int .i64 (((byteS st).1 : Nat) : Int))).set 1 (.slice none 0 0)).set 2 (.bool st2.isSome)).set 3 (.bool (decide (st2 = some [])))
    have hgF := (gb_set_new (gb_set_new (gb_set_new (gb_set_new (gb_set_new H5.out.1 (p := ⟨w.heap.size + 1 + 1, 3, none⟩) (by simp; try omega) (.bool (decide (st2 = some [])))) (p := ⟨w.heap.size + 1, 0, none⟩) (by simp; try omega) (.int .i64 (((byteS st).1 : Nat) : Int))) (p := ⟨w.heap.size + 1, 1, none⟩) (by simp; try omega) (.slice none 0 0)) (p := ⟨w.heap.size + 1, 2, none⟩) (by simp; try omega) (.bool st2.isSome)) (p := ⟨w.heap.size + 1, 3, none⟩) (by simp; try omega) (.bool (decide (st2 = some []))))
    have hrF := (H5.out.2.1.beside s2 hT).beside (gb_set (gb_set (gb_set (gb_set (gb_refl _ (some (w.heap.size + 1))) 0 (.int .i64 (((byteS st).1 : Nat) : Int))) 1 (.slice none 0 0)) 2 (.bool st2.isSome)) 3 (.bool (decide (st2 = some [])))) hT1
    refine bodyPost_ret (v := toldV (((byteS st).1 : Nat) : Int) (.slice none 0 0) st2) (results_cell_row Tryz.results32 _ _ (w.heap.size + 1) 40 _ (0, 0) _ rfl hR Tryz.underlying40 rfl info_told) rfl ?_
    have hs : askS 0 most st = (((((byteS st).1 : Nat) : Int), ([] : List Nat)), st2) := by rw [← H4.out.2.2.2.2.1]; rfl
    rw [hs]
    exact ⟨_, rfl, hgF, hrF, World.ownsRow_nil _ _ _ 1⟩
  · go_enter Tryz.func32, Tryz.ntmps32
    go_wp2_with (fail)
    refine (HP.out _).mono ?_
    rintro e w' ⟨rfl, rfl⟩
    have HR3 := Lib.hid (want_base w sb st what most HR.out.1)
    generalize ((w.alloc (.cells #[.int .i64 what, .int .i64 most] 43)).alloc (.cells #[.int .i64 0, .slice none 0 0, .bool false, .bool false] 40)).alloc (.cells #[.int .i64 0, .slice none 0 0, .bool false, .bool false] 40) = w3 at *
    go_wp2_with (fail)
    refine (ref_number sb st _ (HR3.out.1.1)).mono ?_
    rintro e w4 ⟨rfl, hg4, hr4⟩
    obtain ⟨hb4, hz4, hg40⟩ := want_then HR3.out.1 hg4
    generalize hst : (numS st).2 = st2 at *
    have c0 := hz4.cell (i := 0) rfl; have c1 := hz4.cell (i := 1) rfl; have c2 := hz4.cell (i := 2) rfl; have c3 := hz4.cell (i := 3) rfl
    have f0 := hz4.free 0; have f1 := hz4.free 1; have f2 := hz4.free 2; have f3 := hz4.free 3
    have H4 := Lib.hid (And.intro hg40 (And.intro hr4 (And.intro hz4 (And.intro hb4 (And.intro hst trivial)))));  clear hg40 hr4 hz4 hb4 hst hg4
    have hT0 := HR3.out.1.2.2.2.2
    have hT : sb < w.heap.size + 1 + 1 := by omega
    have hT1 : sb < w.heap.size + 1 := by omega
    go_wp2_with (fail)
    refine (ref_good sb st2 _ (H4.out.2.1.beside (gb_set (gb_refl _ _) _ _) hT)).mono ?_
    rintro e w' ⟨rfl, rfl⟩
    go_wp2_with (fail)
    refine (ref_done sb st2 _ (H4.out.2.1.beside (gb_set (gb_set (gb_refl _ _) _ _) _ _) hT)).mono ?_
    rintro e w5 ⟨rfl, hg5⟩
    have H5 : Hid (w.grownBy w5 (some sb) ∧ RefS w5 sb st2 ∧ Blk w5 (w.heap.size + 1 + 1) 40 [.int .i64 (toI (numS st).1), (.slice none 0 0), (.bool st2.isSome), .bool false] ∧ Blk w5 (w.heap.size + 1) 40 [.int .i64 0, .slice none 0 0, .bool false, .bool false]) := by
      obtain ⟨hg40, hr4, hz4, hb4, _, _⟩ := H4.out
      have s1 := gb_set (gb_set (gb_refl w4 (some (w.heap.size + 1 + 1))) 0 (.int .i64 (toI (numS st).1))) 2 (.bool st2.isSome)
      exact ⟨gb_trans (gb_set_new (gb_set_new hg40 (p := ⟨w.heap.size + 1 + 1, 0, none⟩) (by simp; try omega) (.int .i64 (toI (numS st).1))) (p := ⟨w.heap.size + 1 + 1, 2, none⟩) (by simp; try omega) (.bool st2.isSome)) (gb_row hg5 _), (hr4.beside s1 hT).stay hg5, ((hz4.set 0 (.int .i64 (toI (numS st).1))).set 2 (.bool st2.isSome)).grown hg5 (by simp), ((hb4.other (a := ⟨w.heap.size + 1 + 1, 0, none⟩) (by simp) (.int .i64 (toI (numS st).1))).other (a := ⟨w.heap.size + 1 + 1, 2, none⟩) (by simp) (.bool st2.isSome)).grown hg5 (by simp)⟩
    clear c0 c1 c2 c3 f0 f1 f2 f3 hg5
    have hz5 := H5.out.2.2.1
    have hb5 := H5.out.2.2.2
    have c0 := hz5.cell (i := 0) rfl; have c1 := hz5.cell (i := 1) rfl; have c2 := hz5.cell (i := 2) rfl; have c3 := hz5.cell (i := 3) rfl
    have f0 := hz5.free 0; have f1 := hz5.free 1; have f2 := hz5.free 2; have f3 := hz5.free 3
    have e0 := hb5.cell (i := 0) rfl; have e1 := hb5.cell (i := 1) rfl; have e2 := hb5.cell (i := 2) rfl; have e3 := hb5.cell (i := 3) rfl
    have d0 := hb5.free 0; have d1 := hb5.free 1; have d2 := hb5.free 2; have d3 := hb5.free 3
    clear hz5 hb5
    go_wp2_with (fail)
    have hz5 := H5.out.2.2.1
    have hb5 := H5.out.2.2.2
    have s2 := gb_set (gb_refl w5 (some (w.heap.size + 1 + 1))) 3 (.bool (decide (st2 = some [])))
    have hR := ((((hb5.other (a := ⟨w.heap.size + 1 + 1, 3, none⟩) (by simp) (.bool (decide (st2 = some [])))).set 0 (.int .i64 (toI (numS st).1))).set 1 (.slice none 0 0)).set 2 (.bool st2.isSome)).set 3 (.bool (decide (st2 = some [])))
    have hgF := (gb_set_new (gb_set_new (gb_set_new (gb_set_new (gb_set_new H5.out.1 (p := ⟨w.heap.size + 1 + 1, 3, none⟩) (by simp; try omega) (.bool (decide (st2 = some [])))) (p := ⟨w.heap.size + 1, 0, none⟩) (by simp; try omega) (.int .i64 (toI (numS st).1))) (p := ⟨w.heap.size + 1, 1, none⟩) (by simp; try omega) (.slice none 0 0)) (p := ⟨w.heap.size + 1, 2, none⟩) (by simp; try omega) (.bool st2.isSome)) (p := ⟨w.heap.size + 1, 3, none⟩) (by simp; try omega) (.bool (decide (st2 = some []))))
    have hrF := (H5.out.2.1.beside s2 hT).beside (gb_set (gb_set (gb_set (gb_set (gb_refl _ (some (w.heap.size + 1))) 0 (.int .i64 (toI (numS st).1))) 1 (.slice none 0 0)) 2 (.bool st2.isSome)) 3 (.bool (decide (st2 = some [])))) hT1
    refine bodyPost_ret (v := toldV (toI (numS st).1) (.slice none 0 0) st2) (results_cell_row Tryz.results32 _ _ (w.heap.size + 1) 40 _ (0, 0) _ rfl hR Tryz.underlying40 rfl info_told) rfl ?_
    have hs : askS 1 most st = ((toI (numS st).1, ([] : List Nat)), st2) := by rw [← H4.out.2.2.2.2.1]; rfl
    rw [hs]
    exact ⟨_, rfl, hgF, hrF, World.ownsRow_nil _ _ _ 1⟩
  · go_enter Tryz.func32, Tryz.ntmps32
    go_wp2_with (fail)
    refine (HP.out _).mono ?_
    rintro e w' ⟨rfl, rfl⟩
    have HR3 := Lib.hid (want_base w sb st what most HR.out.1)
    generalize ((w.alloc (.cells #[.int .i64 what, .int .i64 most] 43)).alloc (.cells #[.int .i64 0, .slice none 0 0, .bool false, .bool false] 40)).alloc (.cells #[.int .i64 0, .slice none 0 0, .bool false, .bool false] 40) = w3 at *
    have ca := HR3.out.2.cell (i := 1) rfl
    go_wp2_with (fail)
    refine (ref_bytes sb most st _ (HR3.out.1.1)).mono ?_
    rintro e w4 ⟨v, rfl, hg4, hr4, ho4⟩
    obtain ⟨a, c, rfl⟩ := own_shape3 ho4
    obtain ⟨x, hx⟩ : ∃ x, x = (bytesS most st).1.length := ⟨_, rfl⟩
    rw [← hx] at ho4 ⊢
    have HX := Lib.hid hx; clear hx
    obtain ⟨hb4, hz4, hg40⟩ := want_then HR3.out.1 hg4
    generalize hst : (bytesS most st).2 = st2 at hr4
    have c0 := hz4.cell (i := 0) rfl; have c1 := hz4.cell (i := 1) rfl; have c2 := hz4.cell (i := 2) rfl; have c3 := hz4.cell (i := 3) rfl
    have f0 := hz4.free 0; have f1 := hz4.free 1; have f2 := hz4.free 2; have f3 := hz4.free 3
    have H4 := Lib.hid (And.intro hg40 (And.intro hr4 (And.intro hz4 (And.intro hb4 (And.intro hst ho4)))));  clear hg40 hr4 hz4 hb4 hst hg4 ho4
    have hT0 := HR3.out.1.2.2.2.2
    have hT : sb < w.heap.size + 1 + 1 := by omega
    have hT1 : sb < w.heap.size + 1 := by omega
    go_wp2_with (fail)
    refine (ref_good sb st2 _ (H4.out.2.1.beside (gb_set (gb_refl _ _) _ _) hT)).mono ?_
    rintro e w' ⟨rfl, rfl⟩
    go_wp2_with (fail)
    refine (ref_done sb st2 _ (H4.out.2.1.beside (gb_set (gb_set (gb_refl _ _) _ _) _ _) hT)).mono ?_
    rintro e w5 ⟨rfl, hg5⟩
    have H5 : Hid (w.grownBy w5 (some sb) ∧ RefS w5 sb st2 ∧ Blk w5 (w.heap.size + 1 + 1) 40 [.int .i64 0, (.slice a x c), (.bool st2.isSome), .bool false] ∧ Blk w5 (w.heap.size + 1) 40 [.int .i64 0, .slice none 0 0, .bool false, .bool false] ∧ w5.ownsRow w3.heap.size 5 1 (.slice a x c) x ((bytesS most st).1.map u8N)) := by
      obtain ⟨hg40, hr4, hz4, hb4, _, ho4⟩ := H4.out
      have s1 := gb_set (gb_set (gb_refl w4 (some (w.heap.size + 1 + 1))) 1 (.slice a x c)) 2 (.bool st2.isSome)
      have hBT := HR3.out.1.2.2.1.lt
      exact ⟨gb_trans (gb_set_new (gb_set_new hg40 (p := ⟨w.heap.size + 1 + 1, 1, none⟩) (by simp; try omega) (.slice a x c)) (p := ⟨w.heap.size + 1 + 1, 2, none⟩) (by simp; try omega) (.bool st2.isSome)) (gb_row hg5 _), (hr4.beside s1 hT).stay hg5, ((hz4.set 1 (.slice a x c)).set 2 (.bool st2.isSome)).grown hg5 (by simp), ((hb4.other (a := ⟨w.heap.size + 1 + 1, 1, none⟩) (by simp) (.slice a x c)).other (a := ⟨w.heap.size + 1 + 1, 2, none⟩) (by simp) (.bool st2.isSome)).grown hg5 (by simp), own_kept (own_beside ho4 s1 hBT) hg5⟩
    clear c0 c1 c2 c3 f0 f1 f2 f3 hg5
    have hz5 := H5.out.2.2.1
    have hb5 := H5.out.2.2.2.1
    have c0 := hz5.cell (i := 0) rfl; have c1 := hz5.cell (i := 1) rfl; have c2 := hz5.cell (i := 2) rfl; have c3 := hz5.cell (i := 3) rfl
    have f0 := hz5.free 0; have f1 := hz5.free 1; have f2 := hz5.free 2; have f3 := hz5.free 3
    have e0 := hb5.cell (i := 0) rfl; have e1 := hb5.cell (i := 1) rfl; have e2 := hb5.cell (i := 2) rfl; have e3 := hb5.cell (i := 3) rfl
    have d0 := hb5.free 0; have d1 := hb5.free 1; have d2 := hb5.free 2; have d3 := hb5.free 3
    clear hz5 hb5
    go_wp2_with (fail)
    have hz5 := H5.out.2.2.1
    have hb5 := H5.out.2.2.2.1
    have s2 := gb_set (gb_refl w5 (some (w.heap.size + 1 + 1))) 3 (.bool (decide (st2 = some [])))
    have hR := ((((hb5.other (a := ⟨w.heap.size + 1 + 1, 3, none⟩) (by simp) (.bool (decide (st2 = some [])))).set 0 (.int .i64 0)).set 1 (.slice a x c)).set 2 (.bool st2.isSome)).set 3 (.bool (decide (st2 = some [])))
    have hgF := (gb_set_new (gb_set_new (gb_set_new (gb_set_new (gb_set_new H5.out.1 (p := ⟨w.heap.size + 1 + 1, 3, none⟩) (by simp; try omega) (.bool (decide (st2 = some [])))) (p := ⟨w.heap.size + 1, 0, none⟩) (by simp; try omega) (.int .i64 0)) (p := ⟨w.heap.size + 1, 1, none⟩) (by simp; try omega) (.slice a x c)) (p := ⟨w.heap.size + 1, 2, none⟩) (by simp; try omega) (.bool st2.isSome)) (p := ⟨w.heap.size + 1, 3, none⟩) (by simp; try omega) (.bool (decide (st2 = some []))))
    have hrF := (H5.out.2.1.beside s2 hT).beside (gb_set (gb_set (gb_set (gb_set (gb_refl _ (some (w.heap.size + 1))) 0 (.int .i64 0)) 1 (.slice a x c)) 2 (.bool st2.isSome)) 3 (.bool (decide (st2 = some [])))) hT1
    have hBT := HR3.out.1.2.2.1.lt
    have hoF := own_down (own_beside (own_beside H5.out.2.2.2.2 s2 hBT) (gb_set (gb_set (gb_set (gb_set (gb_refl _ (some (w.heap.size + 1))) 0 (.int .i64 0)) 1 (.slice a x c)) 2 (.bool st2.isSome)) 3 (.bool (decide (st2 = some [])))) (by omega)) HR3.out.1.2.2.2.1.size
    refine bodyPost_ret (v := toldV 0 (.slice a x c) st2) (results_cell_row Tryz.results32 _ _ (w.heap.size + 1) 40 _ (0, 0) _ rfl hR Tryz.underlying40 rfl info_told) rfl ?_
    have hs : askS 2 most st = (((0 : Int), (bytesS most st).1), st2) := by rw [← H4.out.2.2.2.2.1]; rfl
    rw [hs]
    exact ⟨_, rfl, hgF, hrF, by rw [← HX.out]; exact hoF⟩
  · go_enter Tryz.func32, Tryz.ntmps32
    go_wp2_with (fail)
    refine (HP.out _).mono ?_
    rintro e w' ⟨rfl, rfl⟩
    have HR3 := Lib.hid (want_base w sb st what most HR.out.1)
    generalize ((w.alloc (.cells #[.int .i64 what, .int .i64 most] 43)).alloc (.cells #[.int .i64 0, .slice none 0 0, .bool false, .bool false] 40)).alloc (.cells #[.int .i64 0, .slice none 0 0, .bool false, .bool false] 40) = w3 at *
    have ca := HR3.out.2.cell (i := 1) rfl
    go_wp2_with (fail)
    refine (ref_count sb most st _ (HR3.out.1.1)).mono ?_
    rintro e w4 ⟨rfl, hg4, hr4⟩
    obtain ⟨hb4, hz4, hg40⟩ := want_then HR3.out.1 hg4
    generalize hst : (countS most st).2 = st2 at *
    have c0 := hz4.cell (i := 0) rfl; have c1 := hz4.cell (i := 1) rfl; have c2 := hz4.cell (i := 2) rfl; have c3 := hz4.cell (i := 3) rfl
    have f0 := hz4.free 0; have f1 := hz4.free 1; have f2 := hz4.free 2; have f3 := hz4.free 3
    have H4 := Lib.hid (And.intro hg40 (And.intro hr4 (And.intro hz4 (And.intro hb4 (And.intro hst trivial)))));  clear hg40 hr4 hz4 hb4 hst hg4
    have hT0 := HR3.out.1.2.2.2.2
    have hT : sb < w.heap.size + 1 + 1 := by omega
    have hT1 : sb < w.heap.size + 1 := by omega
    go_wp2_with (fail)
    refine (ref_good sb st2 _ (H4.out.2.1.beside (gb_set (gb_refl _ _) _ _) hT)).mono ?_
    rintro e w' ⟨rfl, rfl⟩
    go_wp2_with (fail)
    refine (ref_done sb st2 _ (H4.out.2.1.beside (gb_set (gb_set (gb_refl _ _) _ _) _ _) hT)).mono ?_
    rintro e w5 ⟨rfl, hg5⟩
    have H5 : Hid (w.grownBy w5 (some sb) ∧ RefS w5 sb st2 ∧ Blk w5 (w.heap.size + 1 + 1) 40 [.int .i64 (countS most st).1, (.slice none 0 0), (.bool st2.isSome), .bool false] ∧ Blk w5 (w.heap.size + 1) 40 [.int .i64 0, .slice none 0 0, .bool false, .bool false]) := by
      obtain ⟨hg40, hr4, hz4, hb4, _, _⟩ := H4.out
      have s1 := gb_set (gb_set (gb_refl w4 (some (w.heap.size + 1 + 1))) 0 (.int .i64 (countS most st).1)) 2 (.bool st2.isSome)
      exact ⟨gb_trans (gb_set_new (gb_set_new hg40 (p := ⟨w.heap.size + 1 + 1, 0, none⟩) (by simp; try omega) (.int .i64 (countS most st).1)) (p := ⟨w.heap.size + 1 + 1, 2, none⟩) (by simp; try omega) (.bool st2.isSome)) (gb_row hg5 _), (hr4.beside s1 hT).stay hg5, ((hz4.set 0 (.int .i64 (countS most st).1)).set 2 (.bool st2.isSome)).grown hg5 (by simp), ((hb4.other (a := ⟨w.heap.size + 1 + 1, 0, none⟩) (by simp) (.int .i64 (countS most st).1)).other (a := ⟨w.heap.size + 1 + 1, 2, none⟩) (by simp) (.bool st2.isSome)).grown hg5 (by simp)⟩
    clear c0 c1 c2 c3 f0 f1 f2 f3 hg5
    have hz5 := H5.out.2.2.1
    have hb5 := H5.out.2.2.2
    have c0 := hz5.cell (i := 0) rfl; have c1 := hz5.cell (i := 1) rfl; have c2 := hz5.cell (i := 2) rfl; have c3 := hz5.cell (i := 3) rfl
    have f0 := hz5.free 0; have f1 := hz5.free 1; have f2 := hz5.free 2; have f3 := hz5.free 3
    have e0 := hb5.cell (i := 0) rfl; have e1 := hb5.cell (i := 1) rfl; have e2 := hb5.cell (i := 2) rfl; have e3 := hb5.cell (i := 3) rfl
    have d0 := hb5.free 0; have d1 := hb5.free 1; have d2 := hb5.free 2; have d3 := hb5.free 3
    clear hz5 hb5
    go_wp2_with (fail)
    have hz5 := H5.out.2.2.1
    have hb5 := H5.out.2.2.2
    have s2 := gb_set (gb_refl w5 (some (w.heap.size + 1 + 1))) 3 (.bool (decide (st2 = some [])))
    have hR := ((((hb5.other (a := ⟨w.heap.size + 1 + 1, 3, none⟩) (by simp) (.bool (decide (st2 = some [])))).set 0 (.int .i64 (countS most st).1)).set 1 (.slice none 0 0)).set 2 (.bool st2.isSome)).set 3 (.bool (decide (st2 = some [])))
    have hgF := (gb_set_new (gb_set_new (gb_set_new (gb_set_new (gb_set_new H5.out.1 (p := ⟨w.heap.size + 1 + 1, 3, none⟩) (by simp; try omega) (.bool (decide (st2 = some [])))) (p := ⟨w.heap.size + 1, 0, none⟩) (by simp; try omega) (.int .i64 (countS most st).1)) (p := ⟨w.heap.size + 1, 1, none⟩) (by simp; try omega) (.slice none 0 0)) (p := ⟨w.heap.size + 1, 2, none⟩) (by simp; try omega) (.bool st2.isSome)) (p := ⟨w.heap.size + 1, 3, none⟩) (by simp; try omega) (.bool (decide (st2 = some []))))
    have hrF := (H5.out.2.1.beside s2 hT).beside (gb_set (gb_set (gb_set (gb_set (gb_refl _ (some (w.heap.size + 1))) 0 (.int .i64 (countS most st).1)) 1 (.slice none 0 0)) 2 (.bool st2.isSome)) 3 (.bool (decide (st2 = some [])))) hT1
    refine bodyPost_ret (v := toldV (countS most st).1 (.slice none 0 0) st2) (results_cell_row Tryz.results32 _ _ (w.heap.size + 1) 40 _ (0, 0) _ rfl hR Tryz.underlying40 rfl info_told) rfl ?_
    have hs : askS 3 most st = (((countS most st).1, ([] : List Nat)), st2) := by rw [← H4.out.2.2.2.2.1]; rfl
    rw [hs]
    exact ⟨_, rfl, hgF, hrF, World.ownsRow_nil _ _ _ 1⟩
end Go.Proofs.YtlkiancedgaicaaGreat

namespace Go.Proofs.YtlkiancedgaicaaGreat
open Go.RowKit Ow Wi
theorem new_anyX (n cap B : Nat) (a : Option Addr) (l : List Nat) (w : World) (hl : l.length = n) (hn : n ≤ 1000000) (hP : BytesAt w B a cap l) :
    Calls Tryz.prog 23 #[.slice a n cap] w fun e w' => ∃ rb, e = .returned (.pointer (some ⟨rb, 0, none⟩)) ∧ w.grownBy w' none ∧ w.heap.size ≤ rb ∧ RdS w' rb (some l) ∧ ∀ (T : Nat) (w'' : World), T < w.heap.size → w'.grownBy w'' (some T) → RdS w'' rb (some l) := by
  have HP := Lib.hid (And.intro hl (And.intro hn hP)); clear hl hn hP
  go_enter Tryz.func23, Tryz.ntmps23
  go_wp2_with (fail)
  refine (join_any 1 1 _ [l] _ _ rfl (rows1 HP.out.1 HP.out.2.2.full) (by decide) (by simp only [List.flatten_cons, List.flatten_nil, List.append_nil]; have h1 := HP.out.1; have h2 := HP.out.2.1; omega)).mono ?_
  rintro e w1 ⟨v, rfl, hg, ho⟩
  simp only [List.flatten_cons, List.flatten_nil, List.append_nil] at ho
  obtain ⟨a1, c1, rfl, _, hB, hpb⟩ := own_slice ho HP.out.2.2.byte
  have H1 := Lib.hid (And.intro (gb_trans (gb_alloc (gb_refl w none) _) hg) (And.intro hB (fun pb po e => Nat.le_trans (gb_alloc (gb_refl w none) _).size (hpb pb po e).1 : ∀ pb po, a1 = some ⟨pb, po, none⟩ → w.heap.size ≤ pb))); clear hg ho hB hpb
  go_wp2
  go_ret
  obtain ⟨hg, hB, hpb⟩ := H1.out
  have hb := Blk.new w1 [.slice a1 l.length c1, .pointer (some ⟨w1.heap.size, 0, none⟩)] 102
  have g2 := gb_alloc (gb_refl w1 none) (.cells #[.slice a1 l.length c1, .pointer (some ⟨w1.heap.size, 0, none⟩)] 102)
  have hoff : l.length = 0 ∨ ∀ pb po, a1 = some ⟨pb, po, none⟩ → pb < w1.heap.size := by
    rcases hB.cells with h0 | ⟨pb, po, rfl, hlt, _⟩
    · exact Or.inl h0
    · exact Or.inr fun pb' po' e => by cases e; omega
  refine ⟨w1.heap.size, rfl, gb_trans hg g2, hg.size, ⟨a1, l.length, c1, hb, rfl, (hB.stay g2).full, hoff⟩, fun T w'' hT hg'' => ?_⟩
  exact ⟨a1, l.length, c1, hb.grown hg'' (by have := hg.size; simp; omega), rfl, ((hB.stay g2).apart hg'' (Or.inr fun pb po e => by have := hpb pb po e; omega)).full, hoff⟩
set_option maxHeartbeats 1000000 in
theorem ref_newX (n cap B : Nat) (a : Option Addr) (l : List Nat) (w : World) (hl : l.length = n) (hn : n ≤ 100000) (hP : BytesAt w B a cap l) :
    Calls Tryz.prog 24 #[.slice a n cap] w fun e w' => ∃ sb, e = .returned (.pointer (some ⟨sb, 0, none⟩)) ∧ w.grownBy w' none ∧ w.heap.size ≤ sb ∧ RefS w' sb (some l) ∧ ∀ (T : Nat) (w'' : World), T < w.heap.size → w'.grownBy w'' (some T) → RefS w'' sb (some l) := by
  obtain ⟨a', c', w1, hap, hg, hB, hbs, _⟩ := append_empty w n cap B a l hl hn hP
  have H1 := Lib.hid (And.intro hg (And.intro hB (And.intro hl (And.intro hn hbs)))); clear hl hn hP hg hB hbs
  go_enter Tryz.func24, Tryz.ntmps24
  go_wp2_with (at_builtin; refine wpList_append_run rfl (.tmp 3) (.tmp 4) 23 rfl rfl _ _ rfl rfl _ _ hap ?_)
  go_ret
  obtain ⟨hg, hB, hl, hn, hbs⟩ := H1.out
  have gz := gb_alloc (gb_refl w1 none) (.cells #[.slice a' n c', .int .i64 0, .bool false] 104)
  have hoff : l.length = 0 ∨ ∀ pb po, a' = some ⟨pb, po, none⟩ → pb < w1.heap.size := Or.inr fun pb po e => (hbs pb po e).2
  have hb := Blk.new w1 [.slice a' n c', .int .i64 0, .bool false] 104
  refine ⟨w1.heap.size, rfl, gb_trans hg gz, hg.size, ⟨a', n, c', 0, false, l, hb, hl, hn, Nat.zero_le _, ⟨(hB.stay gz).full, hoff⟩, Or.inr ⟨rfl, rfl⟩⟩, fun T w'' hT hg'' => ?_⟩
  exact ⟨a', n, c', 0, false, l, hb.grown hg'' (by have := hg.size; simp; omega), hl, hn, Nat.zero_le _, ⟨((hB.stay gz).apart hg'' (Or.inr fun pb po e => by have := (hbs pb po e).1; omega)).full, hoff⟩, Or.inr ⟨rfl, rfl⟩⟩
end Go.Proofs.YtlkiancedgaicaaGreat

namespace Go.Proofs.YtlkiancedgaicaaGreat
open Go.RowKit Ow Wi
structure Dt where
  rb : Nat
  sb : Nat
  N0 : Nat
  aa : Option Addr
  m : Nat
  mcap : Nat
  q : Nat
  pb : Nat
  po : Nat
  what : Int
  most : Int
  n : Int
  bs : List Nat
  s2 : St
def ToldAt (D : Dt) (v : Value) (w : World) : Prop := ∃ v1, v = toldV D.n v1 D.s2 ∧ w.ownsRow D.N0 5 1 v1 D.bs.length (D.bs.map u8N)
def BoxAt (D : Dt) (v : Value) (w : World) : Prop := ∃ X L, v = .pointer (some ⟨X, 0, none⟩) ∧ D.N0 ≤ X ∧ L.length = 4 ∧ Blk w X 40 L
def FullAt (D : Dt) (v : Value) (w : World) : Prop := ∃ X v1, v = .pointer (some ⟨X, 0, none⟩) ∧ D.N0 ≤ X ∧ Blk w X 40 [.int .i64 D.n, v1, .bool D.s2.isSome, .bool (decide (D.s2 = some []))] ∧ w.ownsRow D.N0 5 1 v1 D.bs.length (D.bs.map u8N)
def VD (D : Dt) (d : Nat) (v : Value) : Prop := match d with
  | 53 => v = .pointer (some ⟨D.rb, 0, none⟩)
  | 59 => v = .pointer (some ⟨D.sb, 0, none⟩)
  | 54 => v = .slice D.aa D.m D.mcap
  | 60 => v = .slice D.aa D.m D.mcap
  | 55 => v = .int .i64 (D.q : Int)
  | 61 => v = .int .i64 (D.q : Int)
  | 56 => v = .pointer (some ⟨D.pb, D.po + D.q * 2, none⟩)
  | 62 => v = .pointer (some ⟨D.pb, D.po + D.q * 2, none⟩)
  | 57 => v = .agg #[.int .i64 D.what, .int .i64 D.most]
  | 63 => v = .agg #[.int .i64 D.what, .int .i64 D.most]
  | _ => True
def GD (D : Dt) (d : Nat) (v : Value) (w : World) : Prop := VD D d v ∧ (d = 58 ∨ d = 64 → ToldAt D v w) ∧ (d = 10 ∨ d = 11 → BoxAt D v w)
def MD (D : Dt) (j : Nat) (v : Value) (w : World) : Prop := j = 14 ∨ j = 15 → FullAt D v w
structure Stp (D : Dt) (w w' : World) : Prop where
  owns : ∀ v n xs, w.ownsRow D.N0 5 1 v n xs → w'.ownsRow D.N0 5 1 v n xs
  boxes : ∀ v, BoxAt D v w → BoxAt D v w'
theorem Stp.g {D : Dt} {w w' : World} (h : Stp D w w') (d : Nat) (v : Value) (hg : GD D d v w) : GD D d v w' :=
  ⟨hg.1, fun e => by obtain ⟨v1, e1, ho⟩ := hg.2.1 e; exact ⟨v1, e1, h.owns _ _ _ ho⟩, fun e => h.boxes _ (hg.2.2 e)⟩
theorem stp_none {D : Dt} {w w' : World} (hg : w.grownBy w' none) : Stp D w w' ∧ ∀ j v, MD D j v w → MD D j v w' :=
  ⟨⟨fun _ _ _ h => own_kept h hg, fun v ⟨X, L, e, h1, h2, h3⟩ => ⟨X, L, e, h1, h2, h3.grown hg (by simp)⟩⟩, fun j v h e => by
    obtain ⟨X, v1, e1, h1, h2, h3⟩ := h e
    exact ⟨X, v1, e1, h1, h2.grown hg (by simp), own_kept h3 hg⟩⟩
theorem stp_at {D : Dt} {T : Nat} {w w' : World} (hg : w.grownBy w' (some T)) (hT : T < D.N0) : Stp D w w' ∧ ∀ j v, MD D j v w → MD D j v w' :=
  ⟨⟨fun _ _ _ h => own_beside h hg hT, fun v ⟨X, L, e, h1, h2, h3⟩ => ⟨X, L, e, h1, h2, h3.grown hg (by simp; omega)⟩⟩, fun j v h e => by
    obtain ⟨X, v1, e1, h1, h2, h3⟩ := h e
    exact ⟨X, v1, e1, h1, h2.grown hg (by simp; omega), own_beside h3 hg hT⟩⟩
/-- no row of bytes is a box -/
theorem own_no_box {w : World} {b n X : Nat} {v : Value} {xs L : List Value} (h : w.ownsRow b 5 1 v n xs) (hb : Blk w X 40 L) : v.ownBlock ≠ some X := by
  intro e
  rcases h.2 with ⟨rfl, _⟩ | ⟨g, c, cur, rfl, _, hgg, _⟩
  · simp [Value.ownBlock] at e
  · simp only [Value.ownBlock, Option.some.injEq] at e
    subst e
    unfold Blk at hb
    rw [hb] at hgg
    simp at hgg
/-- a box is filled -/
theorem stp_store {D : Dt} {w : World} {X : Nat} {L cs : List Value} (hb : Blk w X 40 L) (hL : L.length = 4) (hc : cs.length = 4) : Stp D w (w.setCells X 0 cs) ∧ ∀ v, v ≠ .pointer (some ⟨X, 0, none⟩) → FullAt D v w → FullAt D v (w.setCells X 0 cs) := by
  have hg : w.grownBy (w.setCells X 0 cs) (some X) := gb_setCells (gb_refl w _) 0
  have own : ∀ v n xs, w.ownsRow D.N0 5 1 v n xs → (w.setCells X 0 cs).ownsRow D.N0 5 1 v n xs := fun v n xs h => h.kept hg (Or.inr (own_no_box h hb))
  refine ⟨⟨own, fun v ⟨Y, M, e, h1, h2, h3⟩ => ?_⟩, fun v hne ⟨Y, v1, e, h1, h2, h3⟩ => ?_⟩
  · by_cases hY : X = Y
    · subst hY
      exact ⟨X, cs, e, h1, hc, hb.setAll (by omega)⟩
    · exact ⟨Y, M, e, h1, h2, h3.setCells_other 0 hY⟩
  · have hY : X ≠ Y := fun e2 => hne (by rw [e, e2])
    exact ⟨Y, v1, e, h1, h2.setCells_other 0 hY, own _ _ _ h3⟩
theorem Ow.OutAt.above {w w' : World} {b0 T N0 : Nat} {v : Value} {L : List Rw1} (h : OutAt w b0 v L) (hg : w.grownBy w' (some T)) (hT : N0 ≤ T) (hv : ∀ g, v.ownBlock = some g → g < N0) (hL : ∀ p ∈ L, ∀ g, (rv p).ownBlock = some g → g < N0) : OutAt w' b0 v L :=
  ⟨h.own.kept hg (Or.inr fun e => by have := hv _ e; omega), fun p hp => ⟨(h.each p hp).1.kept hg (Or.inr fun e => by have := hL p hp _ e; omega), (h.each p hp).2⟩, h.apart⟩
theorem RdS.blk {w : World} {rb : Nat} {st : St} (h : RdS w rb st) : ∃ L, Blk w rb 102 L ∧ ∀ v ∈ L, ∀ x, v ≠ u8N x := by
  cases st with
  | none => exact ⟨_, h, fun v hv x => by simp only [List.mem_cons, List.not_mem_nil, or_false] at hv; rcases hv with rfl | rfl <;> simp [u8N]⟩
  | some l =>
    obtain ⟨a, n, cap, hb, _⟩ := h
    exact ⟨_, hb, fun v hv x => by simp only [List.mem_cons, List.not_mem_nil, or_false] at hv; rcases hv with rfl | rfl <;> simp [u8N, gP]⟩
/-- the document's reader stays when the other one reads -/
theorem RefS.across {w w' : World} {rb sb : Nat} {st st' : St} (h : RefS w sb st) (hr : RdS w rb st') (hg : w.grownBy w' (some rb)) (hne : rb < sb) : RefS w' sb st := by
  obtain ⟨a, n, cap, s, bad, full, hb, h1, h2, h3, hP, h4⟩ := h
  refine ⟨a, n, cap, s, bad, full, hb.grown hg (by simp; omega), h1, h2, h3, ⟨(hP.1.apart hg ?_).full, hP.2⟩, h4⟩
  rcases hP.1.cells with h0 | ⟨pb, po, e, hlt, hc⟩
  · exact Or.inl h0
  · by_cases h0 : full.length = 0
    · exact Or.inl h0
    · refine Or.inr fun pb' po' e2 => ?_
      rw [e] at e2
      simp only [Option.some.injEq, Addr.mk.injEq, and_true] at e2
      obtain ⟨rfl, rfl⟩ := e2
      rintro rfl
      obtain ⟨L, hbl, hno⟩ := hr.blk
      have hc0 := hc 0 (by omega)
      unfold Blk at hbl
      have : ∃ v ∈ L, v = u8N (full.getD 0 0) := by
        unfold World.cell? at hc0
        simp [hbl] at hc0
        exact ⟨_, List.mem_of_getElem? hc0, rfl⟩
      obtain ⟨v, hv, e3⟩ := this
      exact hno v hv _ e3
def BD (D : Dt) (st : St) (W : World) (b0 : Nat) (v8 : Value) (Ls : List Rw1) (listed : Array Bool) (w : World) : Prop :=
  W.grownBy w none ∧ D.N0 ≤ w.heap.size ∧ OutAt w b0 v8 Ls ∧ RdS w D.rb (if listed.getD 5 false = true then D.s2 else st) ∧ RefS w D.sb (if listed.getD 11 false = true then D.s2 else st)
section
variable {D : Dt} {st : St} {W : World} {b0 : Nat} {v8 : Value} {Ls : List Rw1} {listed : Array Bool} {w w' : World}
theorem BD.set (h : BD D st W b0 v8 Ls listed w) {i : Nat} (h5 : i ≠ 5) (h11 : i ≠ 11) : BD D st W b0 v8 Ls (listed.setIfInBounds i true) w := by
  unfold BD at *
  rw [getD_set_ne false h5, getD_set_ne false h11]
  exact h
theorem BD.grown (h : BD D st W b0 v8 Ls listed w) (hg : w.grownBy w' none) : BD D st W b0 v8 Ls listed w' :=
  ⟨gb_trans h.1 hg, Nat.le_trans h.2.1 hg.size, h.2.2.1.stay hg, h.2.2.2.1.stay hg, h.2.2.2.2.stay hg⟩
structure Lie (D : Dt) (W : World) (b0 : Nat) (v8 : Value) (Ls : List Rw1) : Prop where
  r0 : W.heap.size ≤ D.rb
  rs : D.rb < D.sb
  sb0 : D.sb < b0
  bN : b0 ≤ D.N0
  lowV : ∀ g, v8.ownBlock = some g → g < D.N0
  lowL : ∀ p ∈ Ls, ∀ g, (rv p).ownBlock = some g → g < D.N0
theorem BD.store (k : Lie D W b0 v8 Ls) (h : BD D st W b0 v8 Ls listed w) {X : Nat} (hg : w.grownBy w' (some X)) (hX : D.N0 ≤ X) : BD D st W b0 v8 Ls listed w' := by
  have h1 := k.r0; have h2 := k.rs; have h3 := k.sb0; have h4 := k.bN
  exact ⟨gb_then h.1 hg (by omega), Nat.le_trans h.2.1 hg.size, h.2.2.1.above hg hX k.lowV k.lowL, h.2.2.2.1.beside hg (by omega), h.2.2.2.2.beside hg (by omega)⟩
theorem BD.call5 (k : Lie D W b0 v8 Ls) (h : BD D st W b0 v8 Ls listed w) (hs : 5 < listed.size) (hg : w.grownBy w' (some D.rb)) (hr : RdS w' D.rb D.s2) : BD D st W b0 v8 Ls (listed.setIfInBounds 5 true) w' := by
  have h1 := k.r0; have h2 := k.rs; have h3 := k.sb0; have h4 := k.bN
  refine ⟨gb_then h.1 hg h1, Nat.le_trans h.2.1 hg.size, h.2.2.1.beside hg (by omega), ?_, ?_⟩
  · rw [if_pos (by simp [hs])]; exact hr
  · rw [getD_set_ne false (by decide)]; exact h.2.2.2.2.across h.2.2.2.1 hg h2
theorem BD.call11 (k : Lie D W b0 v8 Ls) (h : BD D st W b0 v8 Ls listed w) (hs : 11 < listed.size) (hg : w.grownBy w' (some D.sb)) (hr : RefS w' D.sb D.s2) : BD D st W b0 v8 Ls (listed.setIfInBounds 11 true) w' := by
  have h1 := k.r0; have h2 := k.rs; have h3 := k.sb0; have h4 := k.bN
  refine ⟨gb_then h.1 hg (by omega), Nat.le_trans h.2.1 hg.size, h.2.2.1.beside hg (by omega), ?_, ?_⟩
  · rw [getD_set_ne false (by decide)]; exact h.2.2.2.1.beside hg h2
  · rw [if_pos (by simp [hs])]; exact hr
end
theorem bytesS_len (st : St) (h : ∀ l, st = some l → l.length ≤ 100000) (most : Int) : (bytesS most st).1.length ≤ 100000 := by
  cases st with
  | none => unfold bytesS tells; simp
  | some l =>
    have hb := h l rfl
    unfold bytesS
    cases hr : rdBytes most l with
    | none =>
      have e1 : tells [] (rdBytes most) (some l) = ([], none) := by unfold tells; simp only [hr]
      rw [e1]; simp
    | some p =>
      obtain ⟨x, r⟩ := p
      have e1 : tells [] (rdBytes most) (some l) = (x, some r) := by unfold tells; simp only [hr]
      rw [e1]
      unfold rdBytes rdCount at hr
      split at hr
      · cases hr
      · rename_i n r' hc
        split at hc
        · cases hc
          split at hr
          · cases hr
            simp only [List.length_take, List.length_drop]
            omega
          · cases hr
        · cases hc
theorem askS_small (k : Nat) (st : St) (h : ∀ l, st = some l → l.length ≤ 100000) (most : Int) : (askS k most st).1.2.length ≤ 100000 := by
  unfold askS
  split
  · simp
  · simp
  · exact bytesS_len st h most
  · simp
theorem askS_byte {w : World} {rb : Nat} (k : Nat) {st : St} (h : RdS w rb st) (most : Int) (i : Nat) : (askS k most st).1.2.getD i 0 < 256 := by
  unfold askS
  split
  · simp
  · simp
  · exact bytesS_lt h most i
  · simp
theorem RefS.small {w : World} {sb : Nat} {st : St} (h : RefS w sb st) (l : List Nat) (e : st = some l) : l.length ≤ 100000 := by
  obtain ⟨a, n, cap, s, bad, full, hb, h1, h2, h3, hP, h4⟩ := h
  rcases h4 with ⟨_, h4⟩ | ⟨_, h4⟩
  · rw [h4] at e; cases e
  · rw [h4] at e; cases e; rw [List.length_drop]; omega
theorem RdS.byte {w : World} {rb : Nat} {st : St} (h : RdS w rb st) (l : List Nat) (e : st = some l) (i : Nat) : l.getD i 0 < 256 := by
  subst e; exact RdB.byte h i
/-! ### the region's steps -/
section
variable {P : Program} {ops : Array Oper} {Q : Exit → Act → World → Prop} {D : Dt} {st : St} {W : World} {b0 : Nat} {v8 : Value} {Ls : List Rw1} {a0 : Act} {sf : Nat → Nat}
abbrev StH (P : Program) (ops : Array Oper) (Q : Exit → Act → World → Prop) (D : Dt) (st : St) (W : World) (b0 : Nat) (v8 : Value) (Ls : List Rw1) (a0 : Act) (sf : Nat → Nat) (i : Nat) (o : Oper) : Prop := FlowStepP P Q (GD D) sf (MD D) (BD D st W b0 v8 Ls) [10, 11] a0 ops i o
abbrev AtH (ops : Array Oper) (D : Dt) (st : St) (W : World) (b0 : Nat) (v8 : Value) (Ls : List Rw1) (a0 : Act) (sf : Nat → Nat) (ls : Array Bool) (i : Nat) (o : Oper) (a : Act) (w : World) : Prop := FlowAtP (GD D) sf (MD D) (BD D st W b0 v8 Ls) [10, 11] a0 ops ls i o a w
theorem hVal {i d : Nat} {o : Oper} (hd : o.dst = some d) (hi : i ≠ 5 ∧ i ≠ 11) (hg : d ≠ 58 ∧ d ≠ 64 ∧ d ≠ 10 ∧ d ≠ 11) (hw : o.guard = none)
    (h : ∀ ls a w, AtH ops D st W b0 v8 Ls a0 sf ls i o a w → ∃ v, (execOp a.eval o).run P w = .ok (.value v) w ∧ VD D d v) : StH P ops Q D st W b0 v8 Ls a0 sf i o :=
  flowP_value hd fun ls a w hF => by
    obtain ⟨v, hr, hv⟩ := h ls a w hF
    refine ⟨wants_none hw, v, w, hr, hF.base.set hi.1 hi.2, fun _ _ h => h, fun _ _ h => h, ptrs_put hF.ptrs (Nat.le_refl _) (fun s hs e => ?_), hv, fun e => by omega, fun e => by omega⟩
    simp only [List.mem_cons, List.not_mem_nil, or_false] at hs
    rcases hs with rfl | rfl
    · exact hg.2.2.1 (Option.some.inj e)
    · exact hg.2.2.2 (Option.some.inj e)
theorem hBox {i d : Nat} {o : Oper} (hd : o.dst = some d) (hi : i ≠ 5 ∧ i ≠ 11) (hg : d = 10 ∨ d = 11) (hs : d < a0.tmps.size) (hw : o.guard = none)
    (h : ∀ ls a w, AtH ops D st W b0 v8 Ls a0 sf ls i o a w → (execOp a.eval o).run P w = .ok (.value (.pointer (some ⟨w.heap.size, 0, none⟩))) (w.alloc (.cells #[.int .i64 0, .slice none 0 0, .bool false, .bool false] 40))) : StH P ops Q D st W b0 v8 Ls a0 sf i o :=
  flowP_value hd fun ls a w hF => by
    have hr := h ls a w hF
    have ga : w.grownBy (w.alloc (.cells #[.int .i64 0, .slice none 0 0, .bool false, .bool false] 40)) none := gb_alloc (gb_refl w none) _
    have hst := stp_none (D := D) ga
    refine ⟨wants_none hw, _, _, hr, (hF.base.grown ga).set hi.1 hi.2, fun d u => hst.1.g d u, hst.2, ptrs_new hF.ptrs (by simp) (by rw [hF.size]; exact hs), ?_, fun e => by omega, fun _ => ⟨w.heap.size, _, rfl, hF.base.2.1, rfl, blk_at w [.int .i64 0, .slice none 0 0, .bool false, .bool false] _ rfl⟩⟩
    rcases hg with rfl | rfl <;> trivial
theorem hFill {i s v : Nat} {o : Oper} (hi : i = 14 ∧ s = 10 ∧ v = 58 ∨ i = 15 ∧ s = 11 ∧ v = 64) (hsf : sf 14 = 10 ∧ sf 15 = 11) (hd : o.dst = none) (hw : o.guard = none) (k : Lie D W b0 v8 Ls)
    (ho : o.op = .store 40 (.tmp s) (.tmp v)) (hws : waits ops o s = true) (hwv : waits ops o v = true) (hif : (P.info? 40).map (·.size) = some 4) : StH P ops Q D st W b0 v8 Ls a0 sf i o :=
  flowP_store hd fun ls a w hF => by
    have hsi : sf i = s := by
      rcases hi with ⟨rfl, rfl, rfl⟩ | ⟨rfl, rfl, rfl⟩
      · exact hsf.1
      · exact hsf.2
    have hsm : s ∈ [10, 11] := by
      rcases hi with ⟨rfl, rfl, rfl⟩ | ⟨rfl, rfl, rfl⟩
      · exact List.mem_cons_self ..
      · exact List.mem_cons_of_mem _ (List.mem_cons_self ..)
    obtain ⟨X, L, e10, hX, hL, hb⟩ := (hF.dep s hws).2.2 (by omega)
    obtain ⟨v1, e58, ho1⟩ := (hF.dep v hwv).2.1 (by omega)
    obtain ⟨ax, cx, rfl⟩ := own_shape3 ho1
    have hs := stp_store (D := D) hb hL (cs := [.int .i64 D.n, .slice ax D.bs.length cx, .bool D.s2.isSome, .bool (decide (D.s2 = some []))]) rfl
    refine ⟨wants_none hw, _, Fg.run_store (cs := [.int .i64 D.n, .slice ax D.bs.length cx, .bool D.s2.isSome, .bool (decide (D.s2 = some []))]) ho e10 e58 (hb.there 0 4 (by omega)) hif rfl, ?_, fun d u => hs.1.g d u, fun j oj hj hoj hdj hM hj2 => ?_, (gb_setCells (gb_refl w (some X)) 0).size, fun _ => ?_⟩
    · exact (hF.base.store k (gb_setCells (gb_refl w (some X)) 0) hX).set (by omega) (by omega)
    · refine hs.2 _ (fun e => ?_) (hM hj2)
      have hp := hF.ptrs s hsm X e10
      refine hp.2 (sf j) ?_ ?_ e
      · rcases hj2 with rfl | rfl
        · rw [hsf.1]; simp
        · rw [hsf.2]; simp
      · have h1 := hsf.1; have h2 := hsf.2
        rcases hj2 with rfl | rfl <;> omega
    · rw [hsi]
      exact ⟨X, _, e10, hX, hb.setAll hL, hs.1.owns _ _ _ ho1⟩
theorem hCall5 {o : Oper} (k : Lie D W b0 v8 Ls) (hsz : 5 < ops.size) (hd : o.dst = some 58) (hw : o.guard = none) (f : FuncId) (args : Array Value)
    (hA : ∀ w, RdS w D.rb st → Calls P f args w fun e w' => ∃ v, e = .returned (toldV D.n v D.s2) ∧ w.grownBy w' (some D.rb) ∧ RdS w' D.rb D.s2 ∧ w'.ownsRow w.heap.size 5 1 v D.bs.length (D.bs.map u8N))
    (h : ∀ ls a w, AtH ops D st W b0 v8 Ls a0 sf ls 5 o a w → (execOp a.eval o).run P w = .ok (.enter f args) w) : StH P ops Q D st W b0 v8 Ls a0 sf 5 o :=
  flowP_call hd fun ls a w hF => by
    refine ⟨wants_none hw, f, args, h ls a w hF, (hA w ?_).mono ?_⟩
    · have h1 := hF.base.2.2.2.1
      rwa [hF.fresh, if_neg (by decide)] at h1
    · rintro e w' ⟨v, rfl, hg, hr, ho⟩
      have h1 := k.r0; have h2 := k.rs; have h3 := k.sb0; have h4 := k.bN
      have hst := stp_at (D := D) hg (by omega)
      refine ⟨_, rfl, hF.base.call5 k (by rw [hF.rows]; exact hsz) hg hr, fun d u => hst.1.g d u, hst.2, ptrs_put hF.ptrs hg.size (fun s hs e => ?_), trivial, fun _ => ⟨v, rfl, own_down ho hF.base.2.1⟩, fun e => by omega⟩
      simp only [List.mem_cons, List.not_mem_nil, or_false] at hs
      rcases hs with rfl | rfl <;> exact absurd (Option.some.inj e) (by decide)
theorem hCall11 {o : Oper} (k : Lie D W b0 v8 Ls) (hsz : 11 < ops.size) (hd : o.dst = some 64) (hw : o.guard = none) (f : FuncId) (args : Array Value)
    (hA : ∀ w, RefS w D.sb st → Calls P f args w fun e w' => ∃ v, e = .returned (toldV D.n v D.s2) ∧ w.grownBy w' (some D.sb) ∧ RefS w' D.sb D.s2 ∧ w'.ownsRow w.heap.size 5 1 v D.bs.length (D.bs.map u8N))
    (h : ∀ ls a w, AtH ops D st W b0 v8 Ls a0 sf ls 11 o a w → (execOp a.eval o).run P w = .ok (.enter f args) w) : StH P ops Q D st W b0 v8 Ls a0 sf 11 o :=
  flowP_call hd fun ls a w hF => by
    refine ⟨wants_none hw, f, args, h ls a w hF, (hA w ?_).mono ?_⟩
    · have h1 := hF.base.2.2.2.2
      rwa [hF.fresh, if_neg (by decide)] at h1
    · rintro e w' ⟨v, rfl, hg, hr, ho⟩
      have h1 := k.r0; have h2 := k.rs; have h3 := k.sb0; have h4 := k.bN
      have hst := stp_at (D := D) hg (by omega)
      refine ⟨_, rfl, hF.base.call11 k (by rw [hF.rows]; exact hsz) hg hr, fun d u => hst.1.g d u, hst.2, ptrs_put hF.ptrs hg.size (fun s hs e => ?_), trivial, fun _ => ⟨v, rfl, own_down ho hF.base.2.1⟩, fun e => by omega⟩
      simp only [List.mem_cons, List.not_mem_nil, or_false] at hs
      rcases hs with rfl | rfl <;> exact absurd (Option.some.inj e) (by decide)
end
def P2 (x y : Value) (w : World) : Prop := (∀ C, x = .pointer (some ⟨C, 0, none⟩) → C < w.heap.size ∧ y ≠ .pointer (some ⟨C, 0, none⟩)) ∧ ∀ C, y = .pointer (some ⟨C, 0, none⟩) → C < w.heap.size ∧ x ≠ .pointer (some ⟨C, 0, none⟩)
theorem P2.up {x y : Value} {w w' : World} (h : P2 x y w) (hs : w.heap.size ≤ w'.heap.size) : P2 x y w' :=
  ⟨fun C e => ⟨Nat.lt_of_lt_of_le (h.1 C e).1 hs, (h.1 C e).2⟩, fun C e => ⟨Nat.lt_of_lt_of_le (h.2 C e).1 hs, (h.2 C e).2⟩⟩
theorem P2.ptrs {a : Act} {x y : Value} {w : World} (h : P2 x y w) (hx : a.tmps.getD 10 undef = x) (hy : a.tmps.getD 11 undef = y) : PtrsApart [10, 11] a w := by
  intro s hs C e
  simp only [List.mem_cons, List.not_mem_nil, or_false] at hs
  rcases hs with rfl | rfl
  · rw [hx] at e
    refine ⟨(h.1 C e).1, fun t ht hne => ?_⟩
    simp only [List.mem_cons, List.not_mem_nil, or_false] at ht
    rcases ht with rfl | rfl
    · exact absurd rfl hne
    · rw [hy]; exact (h.1 C e).2
  · rw [hy] at e
    refine ⟨(h.2 C e).1, fun t ht hne => ?_⟩
    simp only [List.mem_cons, List.not_mem_nil, or_false] at ht
    rcases ht with rfl | rfl
    · rw [hx]; exact (h.2 C e).2
    · exact absurd rfl hne
theorem P2.of {a : Act} {w : World} (h : PtrsApart [10, 11] a w) : P2 (a.tmps.getD 10 undef) (a.tmps.getD 11 undef) w :=
  ⟨fun C e => ⟨(h 10 (by simp) C e).1, (h 10 (by simp) C e).2 11 (by simp) (by decide)⟩, fun C e => ⟨(h 11 (by simp) C e).1, (h 11 (by simp) C e).2 10 (by simp) (by decide)⟩⟩
/-- one row more is put to the list -/
theorem one_push {b0 N0 : Nat} {v : Value} {Ls : List Rw1} (w8 : World) (p1 : Rw1) (hI : OutAt w8 b0 v Ls) (hb : b0 ≤ N0) (hN : N0 ≤ w8.heap.size) (lowV : ∀ g, v.ownBlock = some g → g < N0) (lowL : ∀ p ∈ Ls, ∀ g, (rv p).ownBlock = some g → g < N0) (o1 : w8.ownsRow N0 5 1 (rv p1) p1.2.1 p1.2.2.2) (l1 : p1.2.1 ≤ 100000) (hlen : Ls.length + 1 ≤ 1000000000) :
    ∃ v' w', (Builtin.append_ #[22, 22] 22 #[v, .slice (some ⟨w8.heap.size, 0, none⟩) 1 1]).run Tryz.prog (w8.alloc (.cells #[rv p1] 23)) = .ok v' w' ∧ OutAt w' b0 v' (Ls ++ [p1]) ∧ w8.grownBy w' v.ownBlock := by
  have hga : w8.grownBy (w8.alloc (.cells #[rv p1] 23)) none := gb_alloc (gb_refl _ _) _
  have hbl := blk_at w8 [rv p1] 23 rfl
  obtain ⟨v', w', hr, ho, hg'⟩ := outs_push (w8.alloc (.cells #[rv p1] 23)) b0 N0 w8.heap.size v Ls [p1] (hI.stay hga) lowV lowL (by
      intro p hp
      simp only [List.mem_cons, List.not_mem_nil, or_false] at hp
      subst hp
      exact ⟨own_kept o1 hga, l1⟩) (List.Pairwise.cons (fun q hq => by cases hq) List.Pairwise.nil) (by simp) (fun j u hu => by rw [Nat.zero_add]; exact hbl.cell hu) hb (Nat.le_trans hN hga.size) (by simpa using hlen)
  exact ⟨v', w', hr, ho, gb_trans (gb_row hga _) hg'⟩
theorem RdS.over {w w' : World} {rb b0 e n : Nat} {st : St} {v : Value} {xs : List Value} (h : RdS w rb st) (ho : w.ownsRow b0 e 1 v n xs) (hlt : rb < b0) (hg : w.grownBy w' v.ownBlock) : RdS w' rb st := by
  rcases ho.2 with ⟨rfl, _⟩ | ⟨g, c, cur, rfl, hb, _⟩
  · exact h.stay hg
  · exact h.beside hg (show _ < g by omega)
theorem RefS.over {w w' : World} {sb b0 e n : Nat} {st : St} {v : Value} {xs : List Value} (h : RefS w sb st) (ho : w.ownsRow b0 e 1 v n xs) (hlt : sb < b0) (hg : w.grownBy w' v.ownBlock) : RefS w' sb st := by
  rcases ho.2 with ⟨rfl, _⟩ | ⟨g, c, cur, rfl, hb, _⟩
  · exact h.stay hg
  · exact h.beside hg (show _ < g by omega)
end Go.Proofs.YtlkiancedgaicaaGreat

namespace Go.Proofs.YtlkiancedgaicaaGreat
open Go.RowKit Ow Wi
set_option linter.unusedSimpArgs false
set_option maxRecDepth 100000 in
set_option maxHeartbeats 4000000 in
theorem wreads_any (n m cap mcap : Nat) (a aa : Option Addr) (l : List Nat) (asks : List (Int × Int)) (W : World) (hl : l.length = n) (hP : BytesAt W W.heap.size a cap l) (hm : asks.length = m) (hA : AsksAt W W.heap.size aa asks) :
    Calls Tryz.prog 4 #[.slice a n cap, .slice aa m mcap] W fun e w' => e = .returned (.bool true) ∧ W.grownBy w' none := by
  obtain ⟨mk, hmk⟩ := marks_are
  have HMK := Lib.hid hmk; clear hmk
  obtain ⟨Q, hQ⟩ : ∃ Q : Ending → World → Prop, Q = fun e w' => e = .returned (.bool true) ∧ W.grownBy w' none := ⟨_, rfl⟩
  rw [← hQ]
  have HQ : Hid (∀ w', W.grownBy w' none → Q (.returned (.bool true)) w') := fun w' hg => by rw [hQ]; exact ⟨rfl, hg⟩
  clear hQ
  have hn63 : n < 9223372036854775808 := by have h1 := hP.fits; have h2 := hP.top; omega
  have H : Hid (l.length = n ∧ BytesAt W W.heap.size a cap l ∧ asks.length = m ∧ AsksAt W W.heap.size aa asks) := ⟨hl, hP, hm, hA⟩
  clear hl hP hm hA
  have HW := Lib.hid (wawake_any W)
  go_enter Tryz.func4, Tryz.ntmps4
  by_cases hbn : 20000 < n
  · have i0 : (20000 : Int) < (n : Int) := by omega
    go_wp2_with fail
    refine HW.out.mono ?_
    rintro e w3 ⟨rfl, hg3⟩
    have HE := Lib.hid (HQ.out _ hg3)
    clear hg3
    go_wp2
    exact HE.out
  by_cases hbm : 200 < m
  · have i0 : ¬ (20000 : Int) < (n : Int) := by omega
    have i1 : (200 : Int) < (m : Int) := by omega
    go_wp2_with fail
    refine HW.out.mono ?_
    rintro e w3 ⟨rfl, hg3⟩
    have HE := Lib.hid (HQ.out _ hg3)
    clear hg3
    go_wp2
    exact HE.out
  have i0 : ¬ (20000 : Int) < (n : Int) := by omega
  have i1 : ¬ (200 : Int) < (m : Int) := by omega
  have hn2 : n ≤ 20000 := by omega
  have hm2 : m ≤ 200 := by omega
  have HL := Lib.hid (lentB_any HMK.out n cap W.heap.size l a W H.out.1 H.out.2.1 (by omega))
  clear hbn hbm HW hn63
  go_wp2_with fail
  refine HL.out.mono ?_
  rintro e w1 ⟨G, rfl, hg1, hG, hb1⟩
  have hml : (marksOf mk 1 12).length = 12 := by simp [marksOf]
  have HB1 : Hid (∀ w', w1.grownBy w' none → BytesAt w' w'.heap.size (some ⟨G, 0, none⟩) (n + 12) l) := fun w' hg =>
    blk_bytes (tl := (marksOf mk 1 12).map u8N) (by rw [← List.map_append]; exact hb1.grown hg (by simp)) H.out.1 (by omega) (by omega) H.out.2.1.byte (Nat.lt_of_lt_of_le hb1.lt hg.size) (Nat.le_refl _)
  have H1 := Lib.hid (And.intro hg1 (And.intro hG (And.intro hb1 hml)))
  have HN := Lib.hid (new_anyX n (n + 12) w1.heap.size (some ⟨G, 0, none⟩) l w1 H.out.1 (by omega) (HB1.out w1 (gb_refl _ _)))
  have HNR : Hid (∀ w', W.grownBy w' none → Calls Tryz.prog 24 #[.slice a n cap] w' fun e w'' => ∃ sb, e = .returned (.pointer (some ⟨sb, 0, none⟩)) ∧ w'.grownBy w'' none ∧ w'.heap.size ≤ sb ∧ RefS w'' sb (some l) ∧ ∀ (T : Nat) (w3 : World), T < w'.heap.size → w''.grownBy w3 (some T) → RefS w3 sb (some l)) := fun w' hg =>
    ref_newX n cap W.heap.size a l w' H.out.1 (by omega) (H.out.2.1.stay hg)
  have HK : Hid (∀ w', w1.grownBy w' none → Calls Tryz.prog 25 #[.slice (some ⟨G, 0, none⟩) n (n + 12), .slice a n cap] w' fun e w'' => e = .returned (.bool true) ∧ w'.grownBy w'' none) := fun w' hg =>
    keptB_any HMK.out n cap W.heap.size G l a w' H.out.1 (H.out.2.1.stay (gb_trans H1.out.1 hg)) (by omega) (H1.out.2.2.1.grown hg (by simp))
  have HO : Hid (∀ w', w1.grownBy w' none → Calls Tryz.prog 30 #[.slice (some ⟨G, 0, none⟩) n (n + 12)] w' fun e w'' => e = .returned (.tuple #[]) ∧ w'.grownBy w'' (some G)) := fun w' hg =>
    overB_any n G ((l ++ marksOf mk 1 12).map u8N) w' (by rw [List.length_map, List.length_append, H.out.1, H1.out.2.2.2]) (by omega) (H1.out.2.2.1.grown hg (by simp))
  obtain ⟨c0, hc0⟩ : ∃ c0, c0 = n + 12 := ⟨_, rfl⟩
  rw [← hc0] at HN HK HO ⊢
  clear hg1 hG hb1 hml hc0 HL HB1
  go_wp2_with fail
  refine HN.out.mono ?_
  rintro e w2 ⟨rb, rfl, hg2, hrb, hr2, hx2⟩
  have H2 := Lib.hid (And.intro hg2 (And.intro hrb (And.intro hr2 hx2)))
  clear hg2 hrb hr2 hx2 HN
  have HN2 := Lib.hid (HNR.out w2 (gb_trans H1.out.1 H2.out.1))
  go_wp2_with fail
  refine HN2.out.mono ?_
  rintro e w3 ⟨sb, rfl, hg3, hsb, hs3, hx3⟩
  have H3 := Lib.hid (And.intro hg3 (And.intro hsb (And.intro hs3 hx3)))
  clear hg3 hsb hs3 hx3 HN2 HNR
  go_wp2_with fail
  refine (HK.out w3 (gb_trans H2.out.1 H3.out.1)).mono ?_
  rintro e w4 ⟨rfl, hg4⟩
  have H4 := Lib.hid hg4; clear hg4
  go_wp2_with fail
  refine (wgood_any rb (some l) w4 (H2.out.2.2.1.stay (gb_trans H3.out.1 H4.out))).mono ?_
  rintro e w' ⟨rfl, hw'⟩
  subst w'
  go_wp2_with fail
  refine (ref_good sb (some l) w4 (H3.out.2.2.1.stay H4.out)).mono ?_
  rintro e w' ⟨rfl, hw'⟩
  subst w'
  go_wp2_with fail
  refine (done_any rb (some l) w4 (H2.out.2.2.1.stay (gb_trans H3.out.1 H4.out))).mono ?_
  rintro e w' ⟨rfl, hw'⟩
  subst w'
  have HD := Lib.hid (ref_done sb (some l) w4 (H3.out.2.2.1.stay H4.out))
  go_wp2_with fail
  refine HD.out.mono ?_
  rintro e w5 ⟨rfl, hg5⟩
  have H5 := Lib.hid hg5; clear hg5 HD
  go_wp2_with fail
  refine (HO.out w5 (gb_trans H2.out.1 (gb_trans H3.out.1 (gb_trans H4.out H5.out)))).mono ?_
  rintro e w6 ⟨rfl, hg6⟩
  have HS : Hid (W.grownBy w6 none ∧ RdS w6 rb (some l) ∧ RefS w6 sb (some l) ∧ W.heap.size ≤ rb ∧ rb < sb ∧ sb < w6.heap.size) := by
    have h25 := gb_trans H3.out.1 (gb_trans H4.out H5.out)
    have h35 := gb_trans H4.out H5.out
    have hGw := H1.out.2.2.1.lt
    have hlt := (H3.out.2.2.1).lt
    refine ⟨gb_then (gb_trans H1.out.1 (gb_trans H2.out.1 h25)) hg6 H1.out.2.1, H2.out.2.2.2 G w6 hGw (gb_trans (gb_row h25 _) hg6), H3.out.2.2.2 G w6 (Nat.lt_of_lt_of_le hGw H2.out.1.size) (gb_trans (gb_row h35 _) hg6), Nat.le_trans H1.out.1.size H2.out.2.1, ?_, ?_⟩
    · have := (H2.out.2.2.1).lt; have := H3.out.2.1; omega
    · have := h35.size; have := hg6.size; omega
  clear hg6 H1 H2 H3 H4 H5 HK HO
  have hb6 : sb < w6.heap.size := HS.out.2.2.2.2.2
  go_wp2_with fail
  generalize decide (l = []) = dl
  go_loopw [8, 9, 10, 11] (fun v i x y wr => ∃ (q : Nat), q ≤ m ∧ i = .int .i64 q ∧ Hid (W.grownBy wr none ∧ w6.heap.size ≤ wr.heap.size ∧ ∃ (st : St) (Ls : List Rw1), RdS wr rb st ∧ RefS wr sb st ∧ Ls.length = q ∧ OutAt wr w6.heap.size v Ls ∧ (q = 0 → v = .slice none 0 0)) ∧ Hid (P2 x y wr)) (fun _ i _ _ _ => m - (intOf i).toNat)
  case atStart => exact ⟨0, by omega, rfl, ⟨HS.out.1, Nat.le_refl _, some l, [], HS.out.2.1, HS.out.2.2.1, rfl, OutAt.nil _ _, fun _ => rfl⟩, ⟨fun C e => (by cases e), fun C e => (by cases e)⟩⟩
  case round =>
    obtain ⟨q, hq, rfl, HI, HP2⟩ := hrel
    by_cases hlt : q < m
    · obtain ⟨hgW, hsz6, st, Ls, hr, hs, hls, ho, _⟩ := HI.out
      obtain ⟨pb, po, rfl, hpb, hc1, hc2⟩ := H.out.2.2.2.at (i := q) (by rw [H.out.2.2.1]; exact hlt)
      have hwf := H.out.2.2.2.wf (asks.getD q (0, 0)) (by rw [List.getD_eq_getElem?_getD, List.getElem?_eq_getElem (by rw [H.out.2.2.1]; exact hlt)]; exact List.getElem_mem _)
      generalize (asks.getD q (0, 0)).1 = what at *
      generalize (asks.getD q (0, 0)).2 = most at *
      obtain ⟨k, hk⟩ : ∃ k : Nat, what % 4 = k := ⟨(what % 4).toNat, by omega⟩
      have HA : Hid (∀ w', RdS w' rb st → Calls Tryz.prog 31 #[.pointer (some ⟨rb, 0, none⟩), .agg #[.int .i64 what, .int .i64 most]] w' fun e w'' => ∃ v, e = .returned (toldV (askS k most st).1.1 v (askS k most st).2) ∧ w'.grownBy w'' (some rb) ∧ RdS w'' rb (askS k most st).2 ∧ w''.ownsRow w'.heap.size 5 1 v (askS k most st).1.2.length ((askS k most st).1.2.map u8N)) := fun w' h =>
        asked_any rb what most st k w' h (fun l e => by have := hs.small l e; omega) hwf.1.1 hwf.1.2 hk
      have HB : Hid (∀ w', RefS w' sb st → Calls Tryz.prog 32 #[.pointer (some ⟨sb, 0, none⟩), .agg #[.int .i64 what, .int .i64 most]] w' fun e w'' => ∃ v, e = .returned (toldV (askS k most st).1.1 v (askS k most st).2) ∧ w'.grownBy w'' (some sb) ∧ RefS w'' sb (askS k most st).2 ∧ w''.ownsRow w'.heap.size 5 1 v (askS k most st).1.2.length ((askS k most st).1.2.map u8N)) := fun w' h =>
        wanted_any sb what most st k w' h (fun l e => hr.byte l e) hwf.1.1 hwf.1.2 hk
      have HBS : Hid ((askS k most st).1.2.length ≤ 100000 ∧ ∀ i, (askS k most st).1.2.getD i 0 < 256) := ⟨askS_small k st (fun l e => hs.small l e) most, askS_byte k hr most⟩
      generalize (askS k most st).1.1 = nn at *
      generalize (askS k most st).1.2 = bs at *
      generalize (askS k most st).2 = s2 at *
      have HC : Hid (W.cell? ⟨pb, po + q * 2, none⟩ = some (.int .i64 what) ∧ W.cell? ⟨pb, po + q * 2 + 1, none⟩ = some (.int .i64 most)) := ⟨hc1, hc2⟩
      have HL : Hid (Lie ⟨rb, sb, wr.heap.size, some ⟨pb, po, none⟩, m, mcap, q, pb, po, what, most, nn, bs, s2⟩ W w6.heap.size u8 Ls) := ⟨HS.out.2.2.2.1, HS.out.2.2.2.2.1, hb6, hsz6, ho.below.1, ho.below.2⟩
      have HX := Lib.hid (And.intro hgW (And.intro hr (And.intro hs (And.intro hls ho))))
      have i2 : (q : Int) < (m : Int) := by omega
      clear hgW hr hs hls ho hc1 hc2 hwf hk HI hsz6 hpb
      go_wp2_with fail
      refine wp_region_flowP (GD ⟨rb, sb, wr.heap.size, some ⟨pb, po, none⟩, m, mcap, q, pb, po, what, most, nn, bs, s2⟩) (fun j => if j = 14 then 10 else 11) (MD ⟨rb, sb, wr.heap.size, some ⟨pb, po, none⟩, m, mcap, q, pb, po, what, most, nn, bs, s2⟩) (BD ⟨rb, sb, wr.heap.size, some ⟨pb, po, none⟩, m, mcap, q, pb, po, what, most, nn, bs, s2⟩ st W w6.heap.size u8 Ls) [10, 11] (by kernel_rfl) (by kernel_rfl) (by kernel_rfl) ?_ ?_ (by kernel_rfl) ?_ ?_
      · intro ls hls h0
        have gd : wr.grownBy wr.drew none := gb_drew (gb_refl _ _)
        refine ⟨gb_trans HX.out.1 gd, Nat.le_refl _, HX.out.2.2.2.2.stay gd, ?_, ?_⟩
        · rw [if_neg (by rw [h0]; decide)]; exact HX.out.2.1.stay gd
        · rw [if_neg (by rw [h0]; decide)]; exact HX.out.2.2.1.stay gd
      · exact P2.ptrs (HP2.out.up (Nat.le_refl _)) rfl rfl
      · refine ⟨hVal rfl (by decide) (by decide) rfl fun ls ac w h => ?_, ?_⟩
        · have e : ac.tmps.getD 6 undef = .pointer (some ⟨rb, 0, none⟩) := h.rest 6 (by kernel_rfl)
          exact ⟨_, Fg.run_move rfl e, rfl⟩
        refine ⟨hVal rfl (by decide) (by decide) rfl fun ls ac w h => ?_, ?_⟩
        · have e : ac.tmps.getD 1 undef = .slice (some ⟨pb, po, none⟩) m mcap := h.rest 1 (by kernel_rfl)
          exact ⟨_, Fg.run_move rfl e, rfl⟩
        refine ⟨hVal rfl (by decide) (by decide) rfl fun ls ac w h => ?_, ?_⟩
        · have e : ac.tmps.getD 9 undef = .int .i64 (q : Int) := h.rest 9 (by kernel_rfl)
          exact ⟨_, Fg.run_move rfl e, rfl⟩
        refine ⟨hVal rfl (by decide) (by decide) rfl fun ls ac w h => ?_, ?_⟩
        · have e1 : ac.tmps.getD 54 undef = .slice (some ⟨pb, po, none⟩) m mcap := (h.dep 54 (by kernel_rfl)).1
          have e2 : ac.tmps.getD 55 undef = .int .i64 (q : Int) := (h.dep 55 (by kernel_rfl)).1
          refine ⟨.pointer (some ⟨pb, po + q * 2, none⟩), ?_, rfl⟩
          clear h
          simp only [execOp, Act.eval, e1, e2]
          go_simp
        refine ⟨hVal rfl (by decide) (by decide) rfl fun ls ac w h => ?_, ?_⟩
        · have e1 : ac.tmps.getD 56 undef = .pointer (some ⟨pb, po + q * 2, none⟩) := (h.dep 56 (by kernel_rfl)).1
          have y0 : w.cell? ⟨pb, po + q * 2, none⟩ = some (.int .i64 what) := by rw [gb_cell h.base.1 (block_lt_of_cell HC.out.1) (by simp)]; exact HC.out.1
          have y1 : w.cell? ⟨pb, po + q * 2 + 1, none⟩ = some (.int .i64 most) := by rw [gb_cell h.base.1 (block_lt_of_cell HC.out.2) (by simp)]; exact HC.out.2
          refine ⟨.agg #[.int .i64 what, .int .i64 most], Fg.run_load (cs := [.int .i64 what, .int .i64 most]) rfl e1 (fun j v hv => ?_) Tryz.underlying43 rfl (by kernel_rfl), rfl⟩
          rcases j with _ | _ | j
          · cases hv; exact y0
          · cases hv; exact y1
          · simp at hv
        refine ⟨hCall5 HL.out (by decide) rfl rfl 31 #[.pointer (some ⟨rb, 0, none⟩), .agg #[.int .i64 what, .int .i64 most]] HA.out fun ls ac w h => ?_, ?_⟩
        · have e1 : ac.tmps.getD 53 undef = .pointer (some ⟨rb, 0, none⟩) := (h.dep 53 (by kernel_rfl)).1
          have e2 : ac.tmps.getD 57 undef = .agg #[.int .i64 what, .int .i64 most] := (h.dep 57 (by kernel_rfl)).1
          exact Fg.run_call rfl rfl (by simp only [List.map_toArray, List.map_cons, List.map_nil, Act.eval, e1, e2]) (Fg.run_enter Tryz.func31 (by kernel_rfl) (by kernel_rfl))
        refine ⟨hVal rfl (by decide) (by decide) rfl fun ls ac w h => ?_, ?_⟩
        · have e : ac.tmps.getD 7 undef = .pointer (some ⟨sb, 0, none⟩) := h.rest 7 (by kernel_rfl)
          exact ⟨_, Fg.run_move rfl e, rfl⟩
        refine ⟨hVal rfl (by decide) (by decide) rfl fun ls ac w h => ?_, ?_⟩
        · have e : ac.tmps.getD 1 undef = .slice (some ⟨pb, po, none⟩) m mcap := h.rest 1 (by kernel_rfl)
          exact ⟨_, Fg.run_move rfl e, rfl⟩
        refine ⟨hVal rfl (by decide) (by decide) rfl fun ls ac w h => ?_, ?_⟩
        · have e : ac.tmps.getD 9 undef = .int .i64 (q : Int) := h.rest 9 (by kernel_rfl)
          exact ⟨_, Fg.run_move rfl e, rfl⟩
        refine ⟨hVal rfl (by decide) (by decide) rfl fun ls ac w h => ?_, ?_⟩
        · have e1 : ac.tmps.getD 60 undef = .slice (some ⟨pb, po, none⟩) m mcap := (h.dep 60 (by kernel_rfl)).1
          have e2 : ac.tmps.getD 61 undef = .int .i64 (q : Int) := (h.dep 61 (by kernel_rfl)).1
          refine ⟨.pointer (some ⟨pb, po + q * 2, none⟩), ?_, rfl⟩
          clear h
          simp only [execOp, Act.eval, e1, e2]
          go_simp
        refine ⟨hVal rfl (by decide) (by decide) rfl fun ls ac w h => ?_, ?_⟩
        · have e1 : ac.tmps.getD 62 undef = .pointer (some ⟨pb, po + q * 2, none⟩) := (h.dep 62 (by kernel_rfl)).1
          have y0 : w.cell? ⟨pb, po + q * 2, none⟩ = some (.int .i64 what) := by rw [gb_cell h.base.1 (block_lt_of_cell HC.out.1) (by simp)]; exact HC.out.1
          have y1 : w.cell? ⟨pb, po + q * 2 + 1, none⟩ = some (.int .i64 most) := by rw [gb_cell h.base.1 (block_lt_of_cell HC.out.2) (by simp)]; exact HC.out.2
          refine ⟨.agg #[.int .i64 what, .int .i64 most], Fg.run_load (cs := [.int .i64 what, .int .i64 most]) rfl e1 (fun j v hv => ?_) Tryz.underlying43 rfl (by kernel_rfl), rfl⟩
          rcases j with _ | _ | j
          · cases hv; exact y0
          · cases hv; exact y1
          · simp at hv
        refine ⟨hCall11 HL.out (by decide) rfl rfl 32 #[.pointer (some ⟨sb, 0, none⟩), .agg #[.int .i64 what, .int .i64 most]] HB.out fun ls ac w h => ?_, ?_⟩
        · have e1 : ac.tmps.getD 59 undef = .pointer (some ⟨sb, 0, none⟩) := (h.dep 59 (by kernel_rfl)).1
          have e2 : ac.tmps.getD 63 undef = .agg #[.int .i64 what, .int .i64 most] := (h.dep 63 (by kernel_rfl)).1
          exact Fg.run_call rfl rfl (by simp only [List.map_toArray, List.map_cons, List.map_nil, Act.eval, e1, e2]) (Fg.run_enter Tryz.func32 (by kernel_rfl) (by kernel_rfl))
        refine ⟨hBox rfl (by decide) (Or.inl rfl) (by show 10 < 102; decide) rfl fun ls ac w h => ?_, ?_⟩
        · clear h
          go_simp
        refine ⟨hBox rfl (by decide) (Or.inr rfl) (by show 11 < 102; decide) rfl fun ls ac w h => ?_, ?_⟩
        · clear h
          go_simp
        refine ⟨hFill (Or.inl ⟨rfl, rfl, rfl⟩) ⟨rfl, rfl⟩ rfl rfl HL.out rfl (by kernel_rfl) (by kernel_rfl) (by kernel_rfl), ?_⟩
        refine ⟨hFill (Or.inr ⟨rfl, rfl, rfl⟩) ⟨rfl, rfl⟩ rfl rfl HL.out rfl (by kernel_rfl) (by kernel_rfl) (by kernel_rfl), ?_⟩
        trivial
      · intro ls aq wq hall hB hsz hdf hrest hslots hmems hpt
        have hp2 := P2.of hpt
        obtain ⟨X, vx, e10, hX0, hbX, hoX⟩ := hmems 14 _ rfl rfl (Or.inl rfl)
        obtain ⟨Y, vy, e11, hY0, hbY, hoY⟩ := hmems 15 _ rfl rfl (Or.inr rfl)
        have e10 : aq.tmps.getD 10 undef = Value.pointer (some ⟨X, 0, none⟩) := e10
        have e11 : aq.tmps.getD 11 undef = Value.pointer (some ⟨Y, 0, none⟩) := e11
        rw [e10, e11] at hp2
        obtain ⟨u53, e53⟩ : ∃ u, aq.tmps.getD 53 undef = u := ⟨_, rfl⟩
        obtain ⟨u54, e54⟩ : ∃ u, aq.tmps.getD 54 undef = u := ⟨_, rfl⟩
        obtain ⟨u55, e55⟩ : ∃ u, aq.tmps.getD 55 undef = u := ⟨_, rfl⟩
        obtain ⟨u56, e56⟩ : ∃ u, aq.tmps.getD 56 undef = u := ⟨_, rfl⟩
        obtain ⟨u57, e57⟩ : ∃ u, aq.tmps.getD 57 undef = u := ⟨_, rfl⟩
        obtain ⟨u58, e58⟩ : ∃ u, aq.tmps.getD 58 undef = u := ⟨_, rfl⟩
        obtain ⟨u59, e59⟩ : ∃ u, aq.tmps.getD 59 undef = u := ⟨_, rfl⟩
        obtain ⟨u60, e60⟩ : ∃ u, aq.tmps.getD 60 undef = u := ⟨_, rfl⟩
        obtain ⟨u61, e61⟩ : ∃ u, aq.tmps.getD 61 undef = u := ⟨_, rfl⟩
        obtain ⟨u62, e62⟩ : ∃ u, aq.tmps.getD 62 undef = u := ⟨_, rfl⟩
        obtain ⟨u63, e63⟩ : ∃ u, aq.tmps.getD 63 undef = u := ⟨_, rfl⟩
        obtain ⟨u64, e64⟩ : ∃ u, aq.tmps.getD 64 undef = u := ⟨_, rfl⟩
        obtain rfl := Fg.frame_is (a := aq) (vs := [Value.slice a n cap, Value.slice (some ⟨pb, po, none⟩) m mcap, undef, undef, u4, Value.slice (some ⟨G, 0, none⟩) n c0, Value.pointer (some ⟨rb, 0, none⟩), Value.pointer (some ⟨sb, 0, none⟩), u8, Value.int .i64 (q : Int), Value.pointer (some ⟨X, 0, none⟩), Value.pointer (some ⟨Y, 0, none⟩), Value.slice a n cap, Value.int .i64 (n : Int), Value.bool false, Value.bool false, Value.slice (some ⟨pb, po, none⟩) m mcap, Value.int .i64 (m : Int), Value.bool false, Value.bool false, undef, Value.slice a n cap, Value.slice (some ⟨G, 0, none⟩) n c0, Value.slice (some ⟨G, 0, none⟩) n c0, Value.pointer (some ⟨rb, 0, none⟩), Value.slice a n cap, Value.pointer (some ⟨sb, 0, none⟩), Value.slice (some ⟨G, 0, none⟩) n c0, Value.slice a n cap, Value.bool true, Value.bool false, Value.bool false, Value.pointer (some ⟨rb, 0, none⟩), Value.bool true, Value.pointer (some ⟨sb, 0, none⟩), Value.bool true, Value.bool false, Value.bool false, Value.bool false, Value.pointer (some ⟨rb, 0, none⟩), Value.bool dl, Value.pointer (some ⟨sb, 0, none⟩), Value.bool dl, Value.bool false, Value.bool false, Value.slice (some ⟨G, 0, none⟩) n c0, Value.tuple #[], Value.int .i64 (q : Int), Value.slice (some ⟨pb, po, none⟩) m mcap, Value.int .i64 (m : Int), Value.bool true, u51, u52, u53, u54, u55, u56, u57, u58, u59, u60, u61, u62, u63, u64, u65, u66, u67, u68, u69, u70, u71, u72, u73, u74, u75, u76, u77, u78, u79, u80, u81, u82, u83, u84, u85, u86, u87, u88, u89, u90, u91, u92, u93, u94, u95, u96, undef, undef, undef, undef, undef]) hsz ⟨hrest 0 (by kernel_rfl), hrest 1 (by kernel_rfl), hrest 2 (by kernel_rfl), hrest 3 (by kernel_rfl), hrest 4 (by kernel_rfl), hrest 5 (by kernel_rfl), hrest 6 (by kernel_rfl), hrest 7 (by kernel_rfl), hrest 8 (by kernel_rfl), hrest 9 (by kernel_rfl), e10, e11, hrest 12 (by kernel_rfl), hrest 13 (by kernel_rfl), hrest 14 (by kernel_rfl), hrest 15 (by kernel_rfl), hrest 16 (by kernel_rfl), hrest 17 (by kernel_rfl), hrest 18 (by kernel_rfl), hrest 19 (by kernel_rfl), hrest 20 (by kernel_rfl), hrest 21 (by kernel_rfl), hrest 22 (by kernel_rfl), hrest 23 (by kernel_rfl), hrest 24 (by kernel_rfl), hrest 25 (by kernel_rfl), hrest 26 (by kernel_rfl), hrest 27 (by kernel_rfl), hrest 28 (by kernel_rfl), hrest 29 (by kernel_rfl), hrest 30 (by kernel_rfl), hrest 31 (by kernel_rfl), hrest 32 (by kernel_rfl), hrest 33 (by kernel_rfl), hrest 34 (by kernel_rfl), hrest 35 (by kernel_rfl), hrest 36 (by kernel_rfl), hrest 37 (by kernel_rfl), hrest 38 (by kernel_rfl), hrest 39 (by kernel_rfl), hrest 40 (by kernel_rfl), hrest 41 (by kernel_rfl), hrest 42 (by kernel_rfl), hrest 43 (by kernel_rfl), hrest 44 (by kernel_rfl), hrest 45 (by kernel_rfl), hrest 46 (by kernel_rfl), hrest 47 (by kernel_rfl), hrest 48 (by kernel_rfl), hrest 49 (by kernel_rfl), hrest 50 (by kernel_rfl), hrest 51 (by kernel_rfl), hrest 52 (by kernel_rfl), e53, e54, e55, e56, e57, e58, e59, e60, e61, e62, e63, e64, hrest 65 (by kernel_rfl), hrest 66 (by kernel_rfl), hrest 67 (by kernel_rfl), hrest 68 (by kernel_rfl), hrest 69 (by kernel_rfl), hrest 70 (by kernel_rfl), hrest 71 (by kernel_rfl), hrest 72 (by kernel_rfl), hrest 73 (by kernel_rfl), hrest 74 (by kernel_rfl), hrest 75 (by kernel_rfl), hrest 76 (by kernel_rfl), hrest 77 (by kernel_rfl), hrest 78 (by kernel_rfl), hrest 79 (by kernel_rfl), hrest 80 (by kernel_rfl), hrest 81 (by kernel_rfl), hrest 82 (by kernel_rfl), hrest 83 (by kernel_rfl), hrest 84 (by kernel_rfl), hrest 85 (by kernel_rfl), hrest 86 (by kernel_rfl), hrest 87 (by kernel_rfl), hrest 88 (by kernel_rfl), hrest 89 (by kernel_rfl), hrest 90 (by kernel_rfl), hrest 91 (by kernel_rfl), hrest 92 (by kernel_rfl), hrest 93 (by kernel_rfl), hrest 94 (by kernel_rfl), hrest 95 (by kernel_rfl), hrest 96 (by kernel_rfl), hrest 97 (by kernel_rfl), hrest 98 (by kernel_rfl), hrest 99 (by kernel_rfl), hrest 100 (by kernel_rfl), hrest 101 (by kernel_rfl), trivial⟩ hdf
        have h5 := hall 5 (by decide)
        have h11 := hall 11 (by decide)
        obtain ⟨hgq, hNq, hoq, hrq, hsq⟩ := hB
        rw [if_pos h5] at hrq
        rw [if_pos h11] at hsq
        clear hall hsz hdf hrest hslots hmems hpt h5 h11 e10 e11 e53 e54 e55 e56 e57 e58 e59 e60 e61 e62 e63 e64
        obtain ⟨ax, cx, rfl⟩ := own_shape3 hoX
        obtain ⟨ay, cy, rfl⟩ := own_shape3 hoY
        obtain ⟨_, _, e1, _, hbx, _⟩ := own_slice hoX HBS.out.2
        simp only [Value.slice.injEq, true_and] at e1
        obtain ⟨rfl, rfl⟩ := e1
        obtain ⟨_, _, e1, _, hby, _⟩ := own_slice hoY HBS.out.2
        simp only [Value.slice.injEq, true_and] at e1
        obtain ⟨rfl, rfl⟩ := e1
        have HSB := Lib.hid (sameBytes_any wq.heap.size wq.heap.size bs.length bs.length cx cy ax ay bs bs wq rfl rfl hbx hby)
        rw [show decide (bs = bs) = true from decide_eq_true rfl] at HSB
        have HQ2 := Lib.hid (And.intro hgq (And.intro hNq (And.intro hoq (And.intro hrq (And.intro hsq (And.intro hoX hp2))))))
        have HBX : Hid (∃ L, Blk wq X 40 L ∧ L[1]? = some (.slice ax bs.length cx)) := ⟨_, hbX, rfl⟩
        have hbs := HBS.out.1
        clear hgq hNq hoq hrq hsq hoX hoY hp2 hbx hby hX0 hY0
        generalize decide (s2 = some []) = dn at hbX hbY
        generalize s2.isSome = gd at hbX hbY
        have x0 := hbX.cell (i := 0) rfl
        have x1 := hbX.cell (i := 1) rfl
        have x2 := hbX.cell (i := 2) rfl
        have x3 := hbX.cell (i := 3) rfl
        have y0 := hbY.cell (i := 0) rfl
        have y1 := hbY.cell (i := 1) rfl
        have y2 := hbY.cell (i := 2) rfl
        have y3 := hbY.cell (i := 3) rfl
        clear hbX hbY
        go_wp2_with fail
        refine HSB.out.mono ?_
        rintro e w7 ⟨rfl, hg7⟩
        obtain ⟨LX, hLX, hX1⟩ := HBX.out
        have z1 := (hLX.grown hg7 (by simp)).cell hX1
        obtain ⟨v9, w9, hap, ho9, hg9⟩ := one_push (N0 := wr.heap.size) w7 (ax, bs.length, cx, bs.map u8N) (HQ2.out.2.2.1.stay hg7) HL.out.bN (Nat.le_trans HQ2.out.2.1 hg7.size) HL.out.lowV HL.out.lowL (own_kept HQ2.out.2.2.2.2.2.1 hg7) hbs (by rw [HX.out.2.2.2.1]; omega)
        have HAP := Lib.hid hap
        have HZ : Hid ((W.grownBy w9 none ∧ w6.heap.size ≤ w9.heap.size ∧ ∃ (st : St) (Ls : List Rw1), RdS w9 rb st ∧ RefS w9 sb st ∧ Ls.length = q + 1 ∧ OutAt w9 w6.heap.size v9 Ls ∧ (q + 1 = 0 → v9 = .slice none 0 0)) ∧ P2 (.pointer (some ⟨X, 0, none⟩)) (.pointer (some ⟨Y, 0, none⟩)) w9) := by
          have h1 := HL.out.r0; have h2 := HL.out.rs; have h3 := HL.out.sb0; have h4 := HL.out.bN
          have h1 : W.heap.size ≤ rb := h1
          have h2 : rb < sb := h2
          have h4 : w6.heap.size ≤ wr.heap.size := h4
          have h5 : wr.heap.size ≤ wq.heap.size := HQ2.out.2.1
          have ho7 := (HQ2.out.2.2.1.stay hg7).own
          refine ⟨⟨own_gb (gb_trans HQ2.out.1 hg7) (own_down ho7 (by omega)) hg9, by have := hg7.size; have := hg9.size; omega, s2, _, (HQ2.out.2.2.2.1.stay hg7).over ho7 (by omega) hg9, (HQ2.out.2.2.2.2.1.stay hg7).over ho7 (by omega) hg9, by rw [List.length_append, HX.out.2.2.2.1]; rfl, ho9, fun e => by omega⟩, HQ2.out.2.2.2.2.2.2.up (by have := hg7.size; have := hg9.size; omega)⟩
        clear hg7 hLX hX1 hap ho9 hg9 x0 x1 x2 x3 y0 y1 y2 y3 HBX
        go_wp2_with (at_builtin; refine wpList_append_run rfl (.tmp 92) (.tmp 95) 22 rfl rfl _ _ rfl rfl _ _ HAP.out ?_)
        exact ⟨⟨q + 1, by omega, rfl, HZ.out⟩, by show m - ((q : Int) + 1).toNat < m - (q : Int).toNat; omega⟩
    · obtain rfl : q = m := by omega
      obtain ⟨hgW, _, st, Ls, _, _, hls, ho, hnil⟩ := HI.out
      have HAP : Hid (Calls Tryz.prog 21 #[u8] wr fun e w' => e = .returned (.bool true) ∧ W.grownBy w' none) := by
        by_cases h0 : q = 0
        · rw [hnil h0]
          exact (apartB_none wr).mono fun e w' h => ⟨h.1, gb_trans hgW h.2⟩
        · exact apart_all HMK.out W wr u8 w6.heap.size Ls ho HS.out.1.size hgW (by omega) (by omega)
      clear hgW hls ho hnil HI hlt
      go_wp2_with fail
      refine HAP.out.mono ?_
      rintro e w7 ⟨rfl, hg7⟩
      have HW := Lib.hid (wawake_any w7)
      have HG7 := Lib.hid hg7
      clear hg7 HAP
      go_wp2_with fail
      refine HW.out.mono ?_
      rintro e w8 ⟨rfl, hg8⟩
      have HE := Lib.hid (HQ.out _ (gb_trans HG7.out hg8))
      clear hg8
      go_wp2
      exact HE.out
end Go.Proofs.YtlkiancedgaicaaGreat

namespace Go.Proofs.YtlkiancedgaicaaGreat
open Go.RowKit Ow Wi
set_option linter.unusedSimpArgs false
set_option maxRecDepth 100000 in
set_option maxHeartbeats 4000000 in
theorem wputs_any (z : Int) (m cap : Nat) (a : Option Addr) (L : List (List Nat)) (W : World) (hm : L.length = m) (hm2 : m ≤ 140737488351232) (hR : RowsAt W W.heap.size a L) (hl : ∀ r ∈ L, r.length ≤ 140737488351232) :
    Calls Tryz.prog 3 #[.int .i64 z, .slice a m cap] W fun e w' => e = .returned (.bool true) ∧ W.grownBy w' none := by
  obtain ⟨mk, hmk⟩ := marks_are
  have HMK := Lib.hid hmk; clear hmk
  obtain ⟨Q, hQ⟩ : ∃ Q : Ending → World → Prop, Q = fun e w' => e = .returned (.bool true) ∧ W.grownBy w' none := ⟨_, rfl⟩
  rw [← hQ]
  have HQ : Hid (∀ w', W.grownBy w' none → Q (.returned (.bool true)) w') := fun w' hg => by rw [hQ]; exact ⟨rfl, hg⟩
  clear hQ
  obtain ⟨A, C, hin⟩ := rows_in hR
  have H : Hid (L.length = m ∧ RowsIn W a A C L ∧ (∀ r ∈ L, r.length ≤ 140737488351232) ∧ RowsAt W W.heap.size a L) := ⟨hm, hin, hl, hR⟩
  clear hm hin hl hR
  go_enter Tryz.func3, Tryz.ntmps3
  go_wp2_with fail
  go_loopw [5, 6] (fun v i wr => ∃ (k s : Nat), k ≤ m ∧ i = .int .i64 k ∧ v = .int .i64 s ∧ s ≤ 281474976710656 ∧ Hid (W.grownBy wr none ∧ s = m + sumP (L.take k))) (fun _ i _ => m - (intOf i).toNat)
  case atStart => exact ⟨0, m, by omega, rfl, rfl, by omega, gb_refl _ _, by simp [sumP]⟩
  case round =>
    obtain ⟨k, s, hk, rfl, rfl, hs, HI⟩ := hrel
    by_cases hgo : k < m ∧ s ≤ 20000
    · obtain ⟨h1, h2⟩ := hgo
      obtain ⟨pb, po, rfl, hpb, hcs⟩ := (H.out.2.1.stay HI.out.1).cells.resolve_left (by rw [H.out.1]; omega)
      have hc := hcs k (by rw [H.out.1]; exact h1)
      have hst := sumP_take L k (by rw [H.out.1]; exact h1)
      have hmem : L.getD k [] ∈ L := by rw [List.getD_eq_getElem?_getD, List.getElem?_eq_getElem (by rw [H.out.1]; exact h1)]; exact List.getElem_mem _
      have hlk := H.out.2.2.1 _ hmem
      have HT : Hid (s + (L.getD k []).length = m + sumP (L.take (k + 1))) := by
        show _ = _
        rw [hst, HI.out.2]; omega
      generalize (L.getD k []).length = x at *
      have i0 : (k : Int) < (m : Int) := by omega
      have i1 : (s : Int) ≤ 20000 := by omega
      clear hcs hst hmem
      go_wp2_with fail
      exact ⟨⟨k + 1, s + x, by omega, rfl, rfl, by omega, HI.out.1, HT.out⟩, by show m - ((k : Int) + 1).toNat < m - (k : Int).toNat; omega⟩
    · by_cases hbig : 20000 < s
      · have i1 : ¬ (s : Int) ≤ 20000 := by omega
        have i2 : (20000 : Int) < (s : Int) := by omega
        have HW := Lib.hid (wawake_any wr)
        by_cases hkm : (k : Int) < (m : Int)
        · go_wp2_with fail
          refine HW.out.mono ?_
          rintro e w3 ⟨rfl, hg3⟩
          have HE := Lib.hid (HQ.out _ (gb_trans HI.out.1 hg3))
          clear hg3
          go_wp2
          exact HE.out
        · go_wp2_with fail
          refine HW.out.mono ?_
          rintro e w3 ⟨rfl, hg3⟩
          have HE := Lib.hid (HQ.out _ (gb_trans HI.out.1 hg3))
          clear hg3
          go_wp2
          exact HE.out
      · obtain rfl : k = m := by omega
        have i1 : ¬ (20000 : Int) < (s : Int) := by omega
        have hsum := HI.out.2
        rw [List.take_of_length_le (by rw [H.out.1]; exact Nat.le_refl _)] at hsum
        have hk2 : k ≤ 20000 := by omega
        have hs2 : sumP L ≤ 20000 := by omega
        have hbyte : ∀ l ∈ L, ∀ i, l.getD i 0 < 256 := fun l hl => by
          obtain ⟨i, hi, rfl⟩ := List.getElem_of_mem hl
          have := (H.out.2.1.bytes i hi).byte
          rwa [List.getD_eq_getElem?_getD, List.getElem?_eq_getElem hi] at this
        have hlen : ∀ l ∈ L, l.length ≤ 20000 := fun l hl => by have := sumP_mem hl; omega
        have hat : ∀ i, i < k → (L.getD i []).length ≤ 20000 := fun i hi => hlen _ (by rw [List.getD_eq_getElem?_getD, List.getElem?_eq_getElem (by rw [H.out.1]; exact hi)]; exact List.getElem_mem _)
        have HLN := Lib.hid (lentR_any HMK.out k cap a A C L wr H.out.1 (H.out.2.1.stay HI.out.1) (fun i hi => by have := hat i hi; omega) (by omega))
        have HB := Lib.hid (And.intro hbyte (And.intro hlen hat))
        have HG1 := Lib.hid HI.out.1
        clear hgo hbig hsum hbyte hlen hat HI hs
        go_wp2_with fail
        refine HLN.out.mono ?_
        rintro e w3 ⟨G, vs, rfl, hg3, hG, hbk, hla⟩
        have HK : Hid (∀ w', w3.grownBy w' none → Calls Tryz.prog 20 #[.slice (some ⟨G, 0, none⟩) k (k + 12), .slice a k cap] w' fun e w'' => e = .returned (.bool true) ∧ w'.grownBy w'' none) := fun w' hg =>
          keptR_any HMK.out k cap G a A C L vs wr w' H.out.1 (H.out.2.1.stay (gb_trans HG1.out (gb_trans hg3 hg))) (fun i hi => by have := HB.out.2.2 i hi; omega) (by omega) (hbk.grown hg (by simp)) (hla.stay hg)
        obtain ⟨hra, hre⟩ := lent_rows H.out.1 hbk hla HB.out.1 (fun l hl => by have := HB.out.2.1 l hl; omega)
        have HRI : Hid (∀ w', w3.grownBy w' none → RowsAt w' w'.heap.size (some ⟨G, 0, none⟩) L) := fun w' hg => rows_full (hra.stay hg)
        have HRE : Hid (∀ i, i < k → ∃ g, w3.cell? ⟨G, i, none⟩ = some (.slice (some ⟨g, 0, none⟩) (L.getD i []).length ((L.getD i []).length + 12)) ∧ BytesAt w3 w3.heap.size (some ⟨g, 0, none⟩) ((L.getD i []).length + 12) (L.getD i [])) := hre
        have HG3 := Lib.hid (gb_trans HG1.out hg3)
        have HFL : Hid (L.flatten.length ≤ 20000) := by show _ ≤ _; rw [sumP_flat]; exact hs2
        have HJ : Hid (∀ w', w3.grownBy w' none → Calls Tryz.prog 14 #[.slice (some ⟨G, 0, none⟩) k (k + 12)] w' fun e w'' => ∃ v, e = .returned v ∧ w'.grownBy w'' none ∧ w''.ownsRow w'.heap.size 5 1 v L.flatten.length (L.flatten.map u8N)) := fun w' hg =>
          join_any k (k + 12) w'.heap.size L (some ⟨G, 0, none⟩) w' H.out.1 (HRI.out w' hg) (by omega) (by have := HFL.out; omega)
        obtain ⟨c0, hc0⟩ : ∃ c0, c0 = k + 12 := ⟨_, rfl⟩
        rw [← hc0] at HK HJ ⊢
        clear hg3 hG hbk hla hra hre hc0 HLN HG1
        obtain ⟨fl, hfl⟩ : ∃ fl, fl = L.flatten.length := ⟨_, rfl⟩
        rw [← hfl] at HJ
        go_wp2_with fail
        refine (numF_any z w3).mono ?_
        rintro e w4 ⟨g1, rfl, hg4, hn1, hb1⟩
        have H4 := Lib.hid (And.intro hg4 (And.intro hn1 hb1)); clear hg4 hn1 hb1
        go_wp2_with fail
        refine (numF_any z w4).mono ?_
        rintro e w5 ⟨g2, rfl, hg5, hn2, hb2⟩
        have H5 := Lib.hid (And.intro hg5 (And.intro hn2 hb2)); clear hg5 hn2 hb2
        go_wp2_with fail
        refine (HJ.out w5 (gb_trans H4.out.1 H5.out.1)).mono ?_
        rintro e w6 ⟨v3, rfl, hg6, ho6⟩
        have H6 := Lib.hid (And.intro hg6 ho6); clear hg6 ho6
        go_wp2_with fail
        refine (HJ.out w6 (gb_trans H4.out.1 (gb_trans H5.out.1 H6.out.1))).mono ?_
        rintro e w7 ⟨v4, rfl, hg7, ho7⟩
        have H7 := Lib.hid (And.intro hg7 ho7); clear hg7 ho7
        have hs3 : ∃ a3 c3, v3 = .slice a3 fl c3 := own_shape3 H6.out.2
        obtain ⟨a3, c3, rfl⟩ := hs3
        have hs4 : ∃ a4 c4, v4 = .slice a4 fl c4 := own_shape3 H7.out.2
        obtain ⟨a4, c4, rfl⟩ := hs4
        have hfl2 : fl ≤ 20000 := by rw [hfl]; exact HFL.out
        have nb : ∀ (w' : World) (N : Nat), w3.heap.size ≤ N → Blk w' N 5 ((encN z).map u8N) → w'.ownsRow w3.heap.size 5 1 (.slice (some ⟨N, 0, none⟩) 8 8) 8 ((encN z).map u8N) := fun w' N hN hbk =>
          ⟨by rw [List.length_map, encN_length], Or.inr ⟨N, 8, ((encN z).map u8N).toArray, rfl, hN, hbk, Nat.le_refl _, by decide, by simp [encN_length], List.take_of_length_le (by simp [encN_length])⟩⟩
        have hg57 := gb_trans H6.out.1 H7.out.1
        have hg47 := gb_trans H5.out.1 hg57
        have hO := outs_lit w7 w3.heap.size 4 [(some ⟨g1, 0, none⟩, 8, 8, (encN z).map u8N), (some ⟨g2, 0, none⟩, 8, 8, (encN z).map u8N), (a3, fl, c3, L.flatten.map u8N), (a4, fl, c4, L.flatten.map u8N)] rfl (by
            intro p hp
            simp only [List.mem_cons, List.not_mem_nil, or_false] at hp
            rcases hp with rfl | rfl | rfl | rfl
            · exact ⟨nb w7 g1 H4.out.2.1 (H4.out.2.2.grown hg47 (by simp)), by show 8 ≤ 100000; omega⟩
            · exact ⟨nb w7 g2 (Nat.le_trans H4.out.1.size H5.out.2.1) (H5.out.2.2.grown hg57 (by simp)), by show 8 ≤ 100000; omega⟩
            · exact ⟨own_kept (own_down H6.out.2 (gb_trans H4.out.1 H5.out.1).size) H7.out.1, by show fl ≤ 100000; omega⟩
            · exact ⟨own_down H7.out.2 (gb_trans H4.out.1 (gb_trans H5.out.1 H6.out.1)).size, by show fl ≤ 100000; omega⟩) (by
            have l1 := H4.out.2.2.lt
            have l2 := H5.out.2.2.lt
            have k2 := H5.out.2.1
            have k3 := H5.out.1.size
            have k4 := H6.out.1.size
            have e1 : ∀ g, (rv (some ⟨g1, 0, none⟩, 8, 8, (encN z).map u8N)).ownBlock = some g → g < w4.heap.size := fun g e => by simp only [rv, Value.ownBlock, Option.some.injEq] at e; omega
            have e2 : ∀ g, (rv (some ⟨g2, 0, none⟩, 8, 8, (encN z).map u8N)).ownBlock = some g → w4.heap.size ≤ g ∧ g < w5.heap.size := fun g e => by simp only [rv, Value.ownBlock, Option.some.injEq] at e; omega
            have e3 : ∀ g, (rv (a3, fl, c3, L.flatten.map u8N)).ownBlock = some g → w5.heap.size ≤ g ∧ g < w6.heap.size := fun g e => (H6.out.2).lt g e
            have e4 : ∀ g, (rv (a4, fl, c4, L.flatten.map u8N)).ownBlock = some g → w6.heap.size ≤ g := fun g e => ((H7.out.2).lt g e).1
            refine List.Pairwise.cons (fun q hq => ?_) (List.Pairwise.cons (fun q hq => ?_) (List.Pairwise.cons (fun q hq => ?_) (List.Pairwise.cons (fun q hq => by cases hq) List.Pairwise.nil)))
            · simp only [List.mem_cons, List.not_mem_nil, or_false] at hq
              rcases hq with rfl | rfl | rfl
              · exact rise_apart e1 (fun g e => (e2 g e).1)
              · exact rise_apart e1 (fun g e => by have := (e3 g e).1; omega)
              · exact rise_apart e1 (fun g e => by have := e4 g e; omega)
            · simp only [List.mem_cons, List.not_mem_nil, or_false] at hq
              rcases hq with rfl | rfl
              · exact rise_apart (fun g e => (e2 g e).2) (fun g e => (e3 g e).1)
              · exact rise_apart (fun g e => (e2 g e).2) (fun g e => by have := e4 g e; omega)
            · simp only [List.mem_cons, List.not_mem_nil, or_false] at hq
              subst hq
              exact rise_apart (fun g e => (e3 g e).2) e4) (gb_trans H4.out.1 hg47).size (by omega)
        obtain ⟨w8, hw8⟩ : ∃ w8, w8 = w7.alloc (.cells #[.slice (some ⟨g1, 0, none⟩) 8 8, .slice (some ⟨g2, 0, none⟩) 8 8, .slice a3 fl c3, .slice a4 fl c4] 23) := ⟨_, rfl⟩
        obtain ⟨OB, hOB⟩ : ∃ OB, OB = w7.heap.size := ⟨_, rfl⟩
        have hgA : w7.grownBy w8 none := by rw [hw8]; exact gb_alloc (gb_refl _ _) _
        have hbOB : Blk w8 OB 23 [.slice (some ⟨g1, 0, none⟩) 8 8, .slice (some ⟨g2, 0, none⟩) 8 8, .slice a3 fl c3, .slice a4 fl c4] := by rw [hw8]; exact blk_at _ _ _ hOB.symm
        have hO2 : OutAt w8 w3.heap.size (.slice (some ⟨OB, 0, none⟩) 4 4) [(some ⟨g1, 0, none⟩, 8, 8, (encN z).map u8N), (some ⟨g2, 0, none⟩, 8, 8, (encN z).map u8N), (a3, fl, c3, L.flatten.map u8N), (a4, fl, c4, L.flatten.map u8N)] := by rw [hw8, hOB]; exact hO
        have HO := Lib.hid hO2
        have HG8 := Lib.hid (gb_trans H4.out.1 (gb_trans hg47 hgA))
        have HOB : Hid (w8.cell? ⟨OB, 0, none⟩ = some (.slice (some ⟨g1, 0, none⟩) 8 8) ∧ w8.cell? ⟨OB, 2, none⟩ = some (.slice a3 fl c3)) := ⟨hbOB.cell (i := 0) rfl, hbOB.cell (i := 2) rfl⟩
        have hb1 : ∀ w', w8.grownBy w' none → BytesAt w' w'.heap.size (some ⟨g1, 0, none⟩) 8 (encN z) := fun w' hg => numF_bytes (H4.out.2.2.grown (gb_trans hg47 (gb_trans hgA hg)) (by simp))
        obtain ⟨a3', c3', e3, hl3, hb3, _⟩ := own_slice H6.out.2 (flat_byte HB.out.1)
        simp only [Value.slice.injEq, true_and] at e3
        obtain ⟨rfl, rfl⟩ := e3
        have HS1 : Hid (∀ w', w8.grownBy w' none → ∀ {B : Nat} {a : Option Addr} {c : Nat}, BytesAt w' B a c (encN z) → Calls Tryz.prog 15 #[.slice (some ⟨g1, 0, none⟩) 8 8, .slice a (encN z).length c] w' fun e w'' => e = .returned (.bool true) ∧ w'.grownBy w'' none) := fun w' hg B a c hb => by
          have h := sameBytes_any w'.heap.size B 8 (encN z).length 8 c (some ⟨g1, 0, none⟩) a (encN z) (encN z) w' (encN_length z) rfl (hb1 w' hg) hb
          rw [show decide (encN z = encN z) = true from decide_eq_true rfl] at h
          exact h
        have HS2 : Hid (∀ w', w8.grownBy w' none → ∀ {B : Nat} {a : Option Addr} {c : Nat}, BytesAt w' B a c L.flatten → Calls Tryz.prog 15 #[.slice a3 fl c3, .slice a L.flatten.length c] w' fun e w'' => e = .returned (.bool true) ∧ w'.grownBy w'' none) := fun w' hg B a c hb => by
          have h := sameBytes_any w6.heap.size B fl L.flatten.length c3 c a3 a L.flatten L.flatten w' hl3 rfl (hb3.stay (gb_trans H7.out.1 (gb_trans hgA hg))) hb
          rw [show decide (L.flatten = L.flatten) = true from decide_eq_true rfl] at h
          exact h
        have HRN := Lib.hid (fun w' => refNumber_out z w')
        have HRJ : Hid (∀ w', w8.grownBy w' none → Calls Tryz.prog 17 #[.slice a k cap] w' (YOut w' L.flatten)) := fun w' hg => refJoin_out k L a cap w'.heap.size w' H.out.1 (rows_full (H.out.2.2.2.stay (gb_trans HG3.out (gb_trans HG8.out hg)))) (by rw [H.out.1]; omega) (by have := HFL.out; omega) HB.out.1
        have HG2 : Hid (w8.grownBy w8 none) := gb_refl _ _
        clear hg57 hg47 hO nb hgA hbOB hO2 hb1 hl3 hb3 H4 H5 H6 H7 hfl
        go_wp2_with fail
        rw [← hw8, ← hOB]
        clear hw8 hOB
        refine Fg.region_t [] [.any, .any, .any, .any, .any, .any, .any, .any, .any, .any, .any, .any, .any, .any, .any, .any, .any, .any, .any, .any, .any, .any, .any, .any, .any, .any, .any, .any, .any, .any, .any, .any, .any, .any, .any, .any, .any, .any, .any, .any, .any, .any, .any, .any, .val (Value.slice (some ⟨OB, 0, none⟩) 4 4), .val (Value.pointer (some ⟨OB, 0, none⟩)), .val (Value.slice (some ⟨g1, 0, none⟩) 8 8), .val (Value.int .i64 z), Fg.It.by (encN z), .val (Value.bool true), .val (Value.bool false), .val (Value.bool false), .val (Value.slice (some ⟨OB, 0, none⟩) 4 4), .val (Value.pointer (some ⟨OB, 2, none⟩)), .val (Value.slice a3 fl c3), .val (Value.slice a k cap), Fg.It.by L.flatten, .val (Value.bool true), .val (Value.bool false), .val (Value.bool false)] w8 16 (gb_refl _ _) (by kernel_rfl) (by kernel_rfl) (by kernel_rfl) (by kernel_rfl) (by decide) (by kernel_rfl) ?_ ?_
        · refine ⟨Fg.vT rfl (by decide) fun ac w h => ?_, ?_⟩
          · have e8 : ac.tmps.getD 8 undef = Value.slice (some ⟨OB, 0, none⟩) 4 4 := h.rest 8 (by kernel_rfl)
            exact ⟨_, w, wants_none rfl, Fg.run_move rfl e8, gb_refl _ _, rfl⟩
          refine ⟨Fg.vT rfl (by decide) fun ac w h => ?_, ?_⟩
          · have e44 : ac.tmps.getD 44 undef = Value.slice (some ⟨OB, 0, none⟩) 4 4 := h.dep 44 (by kernel_rfl)
            refine ⟨.pointer (some ⟨OB, 0, none⟩), w, wants_none rfl, ?_, gb_refl _ _, rfl⟩
            clear h
            simp only [execOp, Act.eval, e44]
            go_simp
          refine ⟨Fg.vT rfl (by decide) fun ac w h => ?_, ?_⟩
          · have e45 : ac.tmps.getD 45 undef = Value.pointer (some ⟨OB, 0, none⟩) := h.dep 45 (by kernel_rfl)
            have y0 : w.cell? ⟨OB, 0, none⟩ = some (.slice (some ⟨g1, 0, none⟩) 8 8) := by rw [gb_cell h.base (block_lt_of_cell (HOB.out.1)) (by simp)]; exact HOB.out.1
            refine ⟨Value.slice (some ⟨g1, 0, none⟩) 8 8, w, wants_none rfl, ?_, gb_refl _ _, rfl⟩
            clear h
            simp only [execOp, Act.eval, e45]
            go_simp
          refine ⟨Fg.vT rfl (by decide) fun ac w h => ?_, ?_⟩
          · have e0 : ac.tmps.getD 0 undef = Value.int .i64 z := h.rest 0 (by kernel_rfl)
            exact ⟨_, w, wants_none rfl, Fg.run_move rfl e0, gb_refl _ _, rfl⟩
          refine ⟨Fg.cT rfl (by decide) fun ac w h => ?_, ?_⟩
          · have e47 : ac.tmps.getD 47 undef = Value.int .i64 z := h.dep 47 (by kernel_rfl)
            refine ⟨16, #[Value.int .i64 z], wants_none rfl, Fg.run_call rfl rfl (by simp only [List.map_toArray, List.map_cons, List.map_nil, Act.eval, e47]) (Fg.run_enter Tryz.func16 (by kernel_rfl) (by kernel_rfl)), ?_⟩
            exact (HRN.out w).mono fun _ _ ⟨_, _, he, hg, hb⟩ => ⟨_, he, hg, _, _, _, rfl, hb⟩
          refine ⟨Fg.cT rfl (by decide) fun ac w h => ?_, ?_⟩
          · have e46 : ac.tmps.getD 46 undef = Value.slice (some ⟨g1, 0, none⟩) 8 8 := h.dep 46 (by kernel_rfl)
            obtain ⟨a48, k48, B48, e48, b48⟩ : ∃ xa xc xB, ac.tmps.getD 48 undef = .slice xa (encN z).length xc ∧ BytesAt w xB xa xc (encN z) := h.dep 48 (by kernel_rfl)
            refine ⟨15, #[Value.slice (some ⟨g1, 0, none⟩) 8 8, Value.slice a48 (encN z).length k48], wants_none rfl, Fg.run_call rfl rfl (by simp only [List.map_toArray, List.map_cons, List.map_nil, Act.eval, e46, e48]) (Fg.run_enter Tryz.func15 (by kernel_rfl) (by kernel_rfl)), ?_⟩
            exact (HS1.out w (gb_trans HG2.out h.base) b48).mono fun _ _ ⟨he, hg⟩ => ⟨_, he, hg, rfl⟩
          refine ⟨Fg.vT rfl (by decide) fun ac w h => ?_, ?_⟩
          · have e49 : ac.tmps.getD 49 undef = Value.bool true := h.dep 49 (by kernel_rfl)
            refine ⟨Value.bool false, w, wants_none rfl, ?_, gb_refl _ _, rfl⟩
            clear h
            simp only [execOp, Act.eval, e49]
            go_simp
          refine ⟨Fg.vT rfl (by decide) fun ac w h => ?_, ?_⟩
          · have e50 : ac.tmps.getD 50 undef = Value.bool false := h.dep 50 (by kernel_rfl)
            exact ⟨_, w, wants_none rfl, Fg.run_move rfl e50, gb_refl _ _, rfl⟩
          refine ⟨Fg.vT rfl (by decide) fun ac w h => ?_, ?_⟩
          · have e51 : ac.tmps.getD 51 undef = Value.bool false := h.dep 51 (by kernel_rfl)
            have e8 : ac.tmps.getD 8 undef = Value.slice (some ⟨OB, 0, none⟩) 4 4 := h.rest 8 (by kernel_rfl)
            exact ⟨_, w, wants_some (d := 51) rfl rfl (by rw [h.size]; show 51 < 109; decide) e51, Fg.run_move rfl e8, gb_refl _ _, rfl⟩
          refine ⟨Fg.vT rfl (by decide) fun ac w h => ?_, ?_⟩
          · have e51 : ac.tmps.getD 51 undef = Value.bool false := h.dep 51 (by kernel_rfl)
            have e52 : ac.tmps.getD 52 undef = Value.slice (some ⟨OB, 0, none⟩) 4 4 := h.dep 52 (by kernel_rfl)
            refine ⟨.pointer (some ⟨OB, 2, none⟩), w, wants_some (d := 51) rfl rfl (by rw [h.size]; show 51 < 109; decide) e51, ?_, gb_refl _ _, rfl⟩
            clear h
            simp only [execOp, Act.eval, e52]
            go_simp
          refine ⟨Fg.vT rfl (by decide) fun ac w h => ?_, ?_⟩
          · have e51 : ac.tmps.getD 51 undef = Value.bool false := h.dep 51 (by kernel_rfl)
            have e53 : ac.tmps.getD 53 undef = Value.pointer (some ⟨OB, 2, none⟩) := h.dep 53 (by kernel_rfl)
            have y0 : w.cell? ⟨OB, 2, none⟩ = some (.slice a3 fl c3) := by rw [gb_cell h.base (block_lt_of_cell (HOB.out.2)) (by simp)]; exact HOB.out.2
            refine ⟨Value.slice a3 fl c3, w, wants_some (d := 51) rfl rfl (by rw [h.size]; show 51 < 109; decide) e51, ?_, gb_refl _ _, rfl⟩
            clear h
            simp only [execOp, Act.eval, e53]
            go_simp
          refine ⟨Fg.vT rfl (by decide) fun ac w h => ?_, ?_⟩
          · have e51 : ac.tmps.getD 51 undef = Value.bool false := h.dep 51 (by kernel_rfl)
            have e1 : ac.tmps.getD 1 undef = Value.slice a k cap := h.rest 1 (by kernel_rfl)
            exact ⟨_, w, wants_some (d := 51) rfl rfl (by rw [h.size]; show 51 < 109; decide) e51, Fg.run_move rfl e1, gb_refl _ _, rfl⟩
          refine ⟨Fg.cT rfl (by decide) fun ac w h => ?_, ?_⟩
          · have e51 : ac.tmps.getD 51 undef = Value.bool false := h.dep 51 (by kernel_rfl)
            have e55 : ac.tmps.getD 55 undef = Value.slice a k cap := h.dep 55 (by kernel_rfl)
            refine ⟨17, #[Value.slice a k cap], wants_some (d := 51) rfl rfl (by rw [h.size]; show 51 < 109; decide) e51, Fg.run_call rfl rfl (by simp only [List.map_toArray, List.map_cons, List.map_nil, Act.eval, e55]) (Fg.run_enter Tryz.func17 (by kernel_rfl) (by kernel_rfl)), ?_⟩
            exact (HRJ.out w (gb_trans HG2.out h.base)).mono fun _ _ ⟨_, _, he, hg, hb⟩ => ⟨_, he, hg, _, _, _, rfl, hb⟩
          refine ⟨Fg.cT rfl (by decide) fun ac w h => ?_, ?_⟩
          · have e51 : ac.tmps.getD 51 undef = Value.bool false := h.dep 51 (by kernel_rfl)
            have e54 : ac.tmps.getD 54 undef = Value.slice a3 fl c3 := h.dep 54 (by kernel_rfl)
            obtain ⟨a56, k56, B56, e56, b56⟩ : ∃ xa xc xB, ac.tmps.getD 56 undef = .slice xa L.flatten.length xc ∧ BytesAt w xB xa xc L.flatten := h.dep 56 (by kernel_rfl)
            refine ⟨15, #[Value.slice a3 fl c3, Value.slice a56 L.flatten.length k56], wants_some (d := 51) rfl rfl (by rw [h.size]; show 51 < 109; decide) e51, Fg.run_call rfl rfl (by simp only [List.map_toArray, List.map_cons, List.map_nil, Act.eval, e54, e56]) (Fg.run_enter Tryz.func15 (by kernel_rfl) (by kernel_rfl)), ?_⟩
            exact (HS2.out w (gb_trans HG2.out h.base) b56).mono fun _ _ ⟨he, hg⟩ => ⟨_, he, hg, rfl⟩
          refine ⟨Fg.vT rfl (by decide) fun ac w h => ?_, ?_⟩
          · have e51 : ac.tmps.getD 51 undef = Value.bool false := h.dep 51 (by kernel_rfl)
            have e57 : ac.tmps.getD 57 undef = Value.bool true := h.dep 57 (by kernel_rfl)
            refine ⟨Value.bool false, w, wants_some (d := 51) rfl rfl (by rw [h.size]; show 51 < 109; decide) e51, ?_, gb_refl _ _, rfl⟩
            clear h
            simp only [execOp, Act.eval, e57]
            go_simp
          refine ⟨Fg.vT rfl (by decide) fun ac w h => ?_, ?_⟩
          · have e51 : ac.tmps.getD 51 undef = Value.bool false := h.dep 51 (by kernel_rfl)
            have e58 : ac.tmps.getD 58 undef = Value.bool false := h.dep 58 (by kernel_rfl)
            refine ⟨Value.bool false, w, wants_none rfl, ?_, gb_refl _ _, rfl⟩
            clear h
            simp only [execOp, Act.eval, e51, e58]
            go_simp
          trivial
        · intro aq wq hB hsz hdf hrest hslots hpt
          obtain ⟨u44, e44⟩ : ∃ u, aq.tmps.getD 44 undef = u := ⟨_, rfl⟩
          obtain ⟨u45, e45⟩ : ∃ u, aq.tmps.getD 45 undef = u := ⟨_, rfl⟩
          obtain ⟨u46, e46⟩ : ∃ u, aq.tmps.getD 46 undef = u := ⟨_, rfl⟩
          obtain ⟨u47, e47⟩ : ∃ u, aq.tmps.getD 47 undef = u := ⟨_, rfl⟩
          obtain ⟨u48, e48⟩ : ∃ u, aq.tmps.getD 48 undef = u := ⟨_, rfl⟩
          obtain ⟨u49, e49⟩ : ∃ u, aq.tmps.getD 49 undef = u := ⟨_, rfl⟩
          obtain ⟨u50, e50⟩ : ∃ u, aq.tmps.getD 50 undef = u := ⟨_, rfl⟩
          obtain ⟨u51, e51⟩ : ∃ u, aq.tmps.getD 51 undef = u := ⟨_, rfl⟩
          obtain ⟨u52, e52⟩ : ∃ u, aq.tmps.getD 52 undef = u := ⟨_, rfl⟩
          obtain ⟨u53, e53⟩ : ∃ u, aq.tmps.getD 53 undef = u := ⟨_, rfl⟩
          obtain ⟨u54, e54⟩ : ∃ u, aq.tmps.getD 54 undef = u := ⟨_, rfl⟩
          obtain ⟨u55, e55⟩ : ∃ u, aq.tmps.getD 55 undef = u := ⟨_, rfl⟩
          obtain ⟨u56, e56⟩ : ∃ u, aq.tmps.getD 56 undef = u := ⟨_, rfl⟩
          obtain ⟨u57, e57⟩ : ∃ u, aq.tmps.getD 57 undef = u := ⟨_, rfl⟩
          obtain ⟨u58, e58⟩ : ∃ u, aq.tmps.getD 58 undef = u := ⟨_, rfl⟩
          have e59 : aq.tmps.getD 59 undef = Value.bool false := hslots 59 (by kernel_rfl)
          obtain rfl := Fg.frame_is (a := aq) (vs := [Value.int .i64 z, Value.slice a k cap, undef, undef, Value.bool false, Value.int .i64 (s : Int), Value.int .i64 (k : Int), Value.slice (some ⟨G, 0, none⟩) k c0, Value.slice (some ⟨OB, 0, none⟩) 4 4, undef, undef, Value.slice a k cap, Value.int .i64 (k : Int), Value.int .i64 (k : Int), Value.slice a k cap, Value.int .i64 (k : Int), Value.bool false, Value.bool false, undef, undef, Value.bool false, u21, u22, u23, u24, u25, u26, u27, u28, u29, Value.int .i64 (s : Int), Value.bool false, undef, Value.slice a k cap, Value.slice (some ⟨G, 0, none⟩) k c0, Value.int .i64 z, Value.slice (some ⟨g1, 0, none⟩) 8 8, Value.int .i64 z, Value.slice (some ⟨g2, 0, none⟩) 8 8, Value.slice (some ⟨G, 0, none⟩) k c0, Value.slice a3 fl c3, Value.slice (some ⟨G, 0, none⟩) k c0, Value.slice a4 fl c4, Value.slice (some ⟨OB, 0, none⟩) 4 4, u44, u45, u46, u47, u48, u49, u50, u51, u52, u53, u54, u55, u56, u57, u58, Value.bool false, undef, undef, undef, undef, undef, undef, undef, undef, undef, undef, undef, undef, undef, undef, undef, undef, undef, undef, undef, undef, undef, undef, undef, undef, undef, undef, undef, undef, undef, undef, undef, undef, undef, undef, undef, undef, undef, undef, undef, undef, undef, undef, undef, undef, undef, undef, undef, undef, undef]) hsz ⟨hrest 0 (by kernel_rfl), hrest 1 (by kernel_rfl), hrest 2 (by kernel_rfl), hrest 3 (by kernel_rfl), hrest 4 (by kernel_rfl), hrest 5 (by kernel_rfl), hrest 6 (by kernel_rfl), hrest 7 (by kernel_rfl), hrest 8 (by kernel_rfl), hrest 9 (by kernel_rfl), hrest 10 (by kernel_rfl), hrest 11 (by kernel_rfl), hrest 12 (by kernel_rfl), hrest 13 (by kernel_rfl), hrest 14 (by kernel_rfl), hrest 15 (by kernel_rfl), hrest 16 (by kernel_rfl), hrest 17 (by kernel_rfl), hrest 18 (by kernel_rfl), hrest 19 (by kernel_rfl), hrest 20 (by kernel_rfl), hrest 21 (by kernel_rfl), hrest 22 (by kernel_rfl), hrest 23 (by kernel_rfl), hrest 24 (by kernel_rfl), hrest 25 (by kernel_rfl), hrest 26 (by kernel_rfl), hrest 27 (by kernel_rfl), hrest 28 (by kernel_rfl), hrest 29 (by kernel_rfl), hrest 30 (by kernel_rfl), hrest 31 (by kernel_rfl), hrest 32 (by kernel_rfl), hrest 33 (by kernel_rfl), hrest 34 (by kernel_rfl), hrest 35 (by kernel_rfl), hrest 36 (by kernel_rfl), hrest 37 (by kernel_rfl), hrest 38 (by kernel_rfl), hrest 39 (by kernel_rfl), hrest 40 (by kernel_rfl), hrest 41 (by kernel_rfl), hrest 42 (by kernel_rfl), hrest 43 (by kernel_rfl), e44, e45, e46, e47, e48, e49, e50, e51, e52, e53, e54, e55, e56, e57, e58, e59, hrest 60 (by kernel_rfl), hrest 61 (by kernel_rfl), hrest 62 (by kernel_rfl), hrest 63 (by kernel_rfl), hrest 64 (by kernel_rfl), hrest 65 (by kernel_rfl), hrest 66 (by kernel_rfl), hrest 67 (by kernel_rfl), hrest 68 (by kernel_rfl), hrest 69 (by kernel_rfl), hrest 70 (by kernel_rfl), hrest 71 (by kernel_rfl), hrest 72 (by kernel_rfl), hrest 73 (by kernel_rfl), hrest 74 (by kernel_rfl), hrest 75 (by kernel_rfl), hrest 76 (by kernel_rfl), hrest 77 (by kernel_rfl), hrest 78 (by kernel_rfl), hrest 79 (by kernel_rfl), hrest 80 (by kernel_rfl), hrest 81 (by kernel_rfl), hrest 82 (by kernel_rfl), hrest 83 (by kernel_rfl), hrest 84 (by kernel_rfl), hrest 85 (by kernel_rfl), hrest 86 (by kernel_rfl), hrest 87 (by kernel_rfl), hrest 88 (by kernel_rfl), hrest 89 (by kernel_rfl), hrest 90 (by kernel_rfl), hrest 91 (by kernel_rfl), hrest 92 (by kernel_rfl), hrest 93 (by kernel_rfl), hrest 94 (by kernel_rfl), hrest 95 (by kernel_rfl), hrest 96 (by kernel_rfl), hrest 97 (by kernel_rfl), hrest 98 (by kernel_rfl), hrest 99 (by kernel_rfl), hrest 100 (by kernel_rfl), hrest 101 (by kernel_rfl), hrest 102 (by kernel_rfl), hrest 103 (by kernel_rfl), hrest 104 (by kernel_rfl), hrest 105 (by kernel_rfl), hrest 106 (by kernel_rfl), hrest 107 (by kernel_rfl), hrest 108 (by kernel_rfl), trivial⟩ hdf
          clear hsz hdf hrest hslots hpt e44 e45 e46 e47 e48 e49 e50 e51 e52 e53 e54 e55 e56 e57 e58 e59
          have HGq := Lib.hid (gb_trans HG8.out hB)
          have HO9 := Lib.hid (HO.out.stay hB)
          clear hB HOB HS1 HS2 HRN HRJ HG2 HO HG8
          refine wpList_nil ?_
          go_wp2_with fail
          go_loopw [8, 9] (fun v i wr => ∃ (q : Nat), q ≤ k ∧ i = .int .i64 q ∧ Hid (w3.grownBy wr none ∧ ∃ Ls : List Rw1, Ls.length = 4 + 3 * q ∧ OutAt wr w3.heap.size v Ls)) (fun _ i _ => k - (intOf i).toNat)
          case atStart => exact ⟨0, by omega, rfl, HGq.out, _, rfl, HO9.out⟩
          case round =>
            obtain ⟨q, hq, rfl, HI⟩ := hrel
            by_cases hlt : q < k
            · have hlb := HB.out.2.2 q hlt
              have hbyx : ∀ i, (L.getD q []).getD i 0 < 256 := HB.out.1 _ (by rw [List.getD_eq_getElem?_getD, List.getElem?_eq_getElem (by rw [H.out.1]; exact hlt)]; exact List.getElem_mem _)
              obtain ⟨g, hcg, hbg⟩ := HRE.out q hlt
              obtain ⟨pb, po, rfl, hpb, hcs⟩ := H.out.2.1.cells.resolve_left (by rw [H.out.1]; omega)
              have hcp := hcs q (by rw [H.out.1]; exact hlt)
              have hbp := H.out.2.1.bytes q (by rw [H.out.1]; exact hlt)
              have hg3 := gb_trans HG3.out HI.out.1
              have HC0 : Hid (wr.cell? ⟨G, q, none⟩ = some (.slice (some ⟨g, 0, none⟩) (L.getD q []).length ((L.getD q []).length + 12)) ∧ wr.cell? ⟨pb, po + q, none⟩ = some (.slice (A q) (L.getD q []).length (C q))) := by
                refine ⟨?_, ?_⟩
                · rw [gb_cell HI.out.1 (block_lt_of_cell hcg) (by simp)]; exact hcg
                · rw [gb_cell hg3 (block_lt_of_cell hcp) (by simp)]; exact hcp
              have HBG : Hid (∀ w', wr.grownBy w' none → BytesAt w' w'.heap.size (some ⟨g, 0, none⟩) ((L.getD q []).length + 12) (L.getD q [])) := fun w' hg => bytes_up hbg (gb_trans HI.out.1 hg)
              have HBP : Hid (∀ w', wr.grownBy w' none → BytesAt w' w'.heap.size (A q) (C q) (L.getD q [])) := fun w' hg => bytes_up hbp (gb_trans hg3 hg)
              generalize A q = aq at *
              generalize C q = cq at *
              obtain ⟨row, hrow⟩ : ∃ row, row = L.getD q [] := ⟨_, rfl⟩
              rw [← hrow] at hlb hbyx HC0 HBG HBP
              obtain ⟨x, hx⟩ : ∃ x, row.length = x := ⟨_, rfl⟩
              rw [hx] at hlb HC0 HBG
              obtain ⟨cx, hcx⟩ : ∃ cx, cx = x + 12 := ⟨_, rfl⟩
              rw [← hcx] at HC0 HBG
              have HX := Lib.hid (And.intro hx hbyx)
              clear hrow hcg hbg hcs hcp hbp hg3 hx hbyx hcx hpb
              have HBY : Hid (∀ w', wr.grownBy w' none → Calls Tryz.prog 18 #[.slice (some ⟨g, 0, none⟩) x cx] w' fun e w'' => ∃ v, e = .returned v ∧ w'.grownBy w'' none ∧ w''.ownsRow w'.heap.size 5 1 v (8 + x) ((encN (x : Int) ++ row).map u8N)) := fun w' hg => bytesF_any x cx w'.heap.size (some ⟨g, 0, none⟩) row w' HX.out.1 (by omega) (HBG.out w' hg)
              have HRB : Hid (∀ w', wr.grownBy w' none → Calls Tryz.prog 19 #[.slice aq x cq] w' (YOut w' (encN (x : Int) ++ row))) := fun w' hg => by
                have h := refBytes_out x row aq cq w'.heap.size w' HX.out.1 (HBP.out w' hg) (by rw [HX.out.1]; omega)
                rw [HX.out.1] at h; exact h
              have hel : (encN (x : Int) ++ row).length = 8 + x := by rw [List.length_append, encN_length, HX.out.1]
              have heb : ∀ i, (encN (x : Int) ++ row).getD i 0 < 256 := app_byte (encN_byte _) HX.out.2
              obtain ⟨E, hE⟩ : ∃ E, E = encN (x : Int) ++ row := ⟨_, rfl⟩
              rw [← hE] at HBY HRB hel heb
              have HE := Lib.hid (And.intro hel heb)
              clear hE hel heb
              have i0 : (q : Int) < (k : Int) := by omega
              have c1 := HC0.out.1
              have c2 := HC0.out.2
              go_wp2_with fail
              clear c1 c2
              refine (HBY.out wr (gb_refl _ _)).mono ?_
              rintro e w4 ⟨vb, rfl, hg4, ho4⟩
              have H4 := Lib.hid (And.intro hg4 ho4)
              obtain ⟨ab, cb, rfl, _, hb4, _⟩ := own_slice ho4 HE.out.2
              have c2 : w4.cell? ⟨pb, po + q, none⟩ = some (.slice aq x cq) := by rw [gb_cell hg4 (block_lt_of_cell HC0.out.2) (by simp)]; exact HC0.out.2
              have HB4 := Lib.hid hb4
              clear hg4 ho4 hb4
              go_wp2_with fail
              clear c2
              refine (HRB.out w4 H4.out.1).mono ?_
              rintro e w5 ⟨a5, c5, rfl, hg5, hb5⟩
              rw [HE.out.1]
              have HS := Lib.hid (sameBytes_any w4.heap.size w5.heap.size (8 + x) (8 + x) cb c5 ab a5 E E w5 HE.out.1 HE.out.1 (HB4.out.stay hg5) hb5)
              rw [show decide (E = E) = true from decide_eq_true rfl] at HS
              have HG5 := Lib.hid (gb_trans H4.out.1 hg5)
              have HG45 := Lib.hid hg5
              clear hg5 hb5 HRB
              go_wp2_with fail
              refine HS.out.mono ?_
              rintro e w6 ⟨rfl, hg6⟩
              have H6 : Hid (wr.grownBy w6 none ∧ w6.ownsRow wr.heap.size 5 1 (.slice ab (8 + x) cb) (8 + x) (E.map u8N) ∧ w4.heap.size ≤ w6.heap.size ∧ ∀ g, (Value.slice ab (8 + x) cb).ownBlock = some g → g < w6.heap.size) := by
                have h1 := own_kept H4.out.2 (gb_trans HG45.out hg6)
                exact ⟨gb_trans HG5.out hg6, h1, (gb_trans HG45.out hg6).size, fun g e => (h1.lt g e).2⟩
              have HC6 : Hid (w6.cell? ⟨G, q, none⟩ = some (.slice (some ⟨g, 0, none⟩) x cx)) := by
                show _ = _
                rw [gb_cell H6.out.1 (block_lt_of_cell HC0.out.1) (by simp)]; exact HC0.out.1
              clear hg6 HS HG5 HG45
              go_wp2_with fail
              have HB6 : Hid (∀ w', w6.grownBy w' none → Calls Tryz.prog 18 #[.slice (some ⟨g, 0, none⟩) x cx] w' fun e w'' => ∃ v, e = .returned v ∧ w'.grownBy w'' none ∧ w''.ownsRow w'.heap.size 5 1 v (8 + x) (E.map u8N)) := fun w' hg => HBY.out w' (gb_trans H6.out.1 hg)
              have HJ6 : Hid (∀ (w' : World) (BX : Nat), w6.grownBy w' none → Blk w' BX 23 [.slice (some ⟨g, 0, none⟩) x cx] → Calls Tryz.prog 14 #[.slice (some ⟨BX, 0, none⟩) 1 1] w' fun e w'' => ∃ v, e = .returned v ∧ w'.grownBy w'' none ∧ w''.ownsRow w'.heap.size 5 1 v x (row.map u8N)) := fun w' BX hg hb => by
                have h := join_any 1 1 w'.heap.size [row] (some ⟨BX, 0, none⟩) w' rfl (rows_one HX.out.1 (HBG.out w' (gb_trans H6.out.1 hg)) hb) (by decide) (by simp only [List.flatten_cons, List.flatten_nil, List.append_nil]; rw [HX.out.1]; omega)
                simp only [List.flatten_cons, List.flatten_nil, List.append_nil] at h
                rw [HX.out.1] at h
                exact h
              obtain ⟨Ls, hls, hO⟩ := HI.out.2
              have HL := Lib.hid (And.intro hls (And.intro HI.out.1 hO))
              obtain ⟨BX, hBX⟩ : ∃ BX, BX = w6.heap.size := ⟨_, rfl⟩
              have hx2 : 8 + x ≤ 100000 := by omega
              have hx3 : x ≤ 100000 := by omega
              have hm6 := HC6.out
              have hma6 : (w6.alloc (.cells #[.slice (some ⟨g, 0, none⟩) x cx] 23)).cell? ⟨G, q, none⟩ = some (.slice (some ⟨g, 0, none⟩) x cx) := by rw [gb_cell (gb_alloc (gb_refl w6 none) _) (block_lt_of_cell HC6.out) (by simp)]; exact HC6.out
              clear HBY hls hO HI
              go_region_law (first
                | (refine Fg.step_call rfl (f := 18) (args := #[.slice (some ⟨g, 0, none⟩) x cx]) (Fg.run_call rfl rfl (by simp only [List.map_toArray, List.map_cons, List.map_nil, Act.eval]; rfl) (Fg.run_enter Tryz.func18 (by kernel_rfl) (by kernel_rfl))) ?_
                   refine (HB6.out _ (gb_alloc (gb_drew (gb_refl _ _)) _)).mono ?_
                   rintro e w7 ⟨v7, rfl, hg7, ho7⟩
                   have H7 : Hid (w6.grownBy w7 none ∧ w7.ownsRow w6.heap.size 5 1 v7 (8 + x) (E.map u8N) ∧ Blk w7 w6.heap.size 23 [.slice (some ⟨g, 0, none⟩) x cx]) := ⟨gb_trans (gb_alloc (gb_drew (gb_refl _ _)) _) hg7, own_down ho7 (gb_alloc (gb_drew (gb_refl w6 none)) _).size, (blk_at w6.drew [.slice (some ⟨g, 0, none⟩) x cx] _ rfl).grown hg7 (by simp)⟩
                   clear hg7 ho7 HB6
                   refine ⟨_, rfl, ?_⟩)
                | (refine Fg.step_call rfl (f := 18) (args := #[.slice (some ⟨g, 0, none⟩) x cx]) (Fg.run_call rfl rfl (by simp only [List.map_toArray, List.map_cons, List.map_nil, Act.eval]; rfl) (Fg.run_enter Tryz.func18 (by kernel_rfl) (by kernel_rfl))) ?_
                   refine (HB6.out _ (gb_drew (gb_refl _ _))).mono ?_
                   rintro e w7 ⟨v7, rfl, hg7, ho7⟩
                   have H7 : Hid (w6.grownBy w7 none ∧ w7.ownsRow w6.heap.size 5 1 v7 (8 + x) (E.map u8N)) := ⟨gb_trans (gb_drew (gb_refl _ _)) hg7, ho7⟩
                   have c1 : w7.cell? ⟨G, q, none⟩ = some (.slice (some ⟨g, 0, none⟩) x cx) := by rw [gb_cell H7.out.1 (block_lt_of_cell HC6.out) (by simp)]; exact HC6.out
                   clear hg7 ho7 HB6
                   refine ⟨_, rfl, ?_⟩)
                | (refine Fg.step_call rfl (f := 14) (args := #[.slice (some ⟨w7.heap.size, 0, none⟩) 1 1]) (Fg.run_call rfl rfl (by simp only [List.map_toArray, List.map_cons, List.map_nil, Act.eval]; rfl) (Fg.run_enter Tryz.func14 (by kernel_rfl) (by kernel_rfl))) ?_
                   refine (HJ6.out _ _ (gb_alloc H7.out.1 _) (blk_at w7 [.slice (some ⟨g, 0, none⟩) x cx] _ rfl)).mono ?_
                   rintro e w8 ⟨v8, rfl, hg8, ho8⟩
                   have H8 : Hid (w7.grownBy w8 none ∧ w8.ownsRow w7.heap.size 5 1 v8 x (row.map u8N)) := ⟨gb_trans (gb_alloc (gb_refl _ _) _) hg8, own_down ho8 (gb_alloc (gb_refl w7 none) _).size⟩
                   have H7o := Lib.hid H7.out.2
                   obtain ⟨ae, ce, rfl⟩ := own_shape3 H7o.out
                   obtain ⟨af, cf, rfl⟩ := own_shape3 H8.out.2
                   obtain ⟨v9, w9, hr, ho9, hg9⟩ := three_push wr w6 w7 w8 (ab, 8 + x, cb, E.map u8N) (ae, 8 + x, ce, E.map u8N) (af, x, cf, row.map u8N) HL.out.2.2 HL.out.2.1.size H6.out.1 H6.out.2.1 H7.out.1 H7o.out H8.out.1 H8.out.2 hx2 hx2 hx3 (by rw [HL.out.1]; omega)
                   have HR := Lib.hid hr
                   have H9 := Lib.hid (And.intro ho9 hg9)
                   clear hg8 ho8 HJ6 hr ho9 hg9
                   refine ⟨_, rfl, ?_⟩)
                | (refine Fg.step_call rfl (f := 14) (args := #[.slice (some ⟨w6.heap.size, 0, none⟩) 1 1]) (Fg.run_call rfl rfl (by simp only [List.map_toArray, List.map_cons, List.map_nil, Act.eval]; rfl) (Fg.run_enter Tryz.func14 (by kernel_rfl) (by kernel_rfl))) ?_
                   refine (HJ6.out w7 w6.heap.size H7.out.1 H7.out.2.2).mono ?_
                   rintro e w8 ⟨v8, rfl, hg8, ho8⟩
                   have H8 : Hid (w7.grownBy w8 none ∧ w8.ownsRow w7.heap.size 5 1 v8 x (row.map u8N)) := ⟨hg8, ho8⟩
                   have H7o := Lib.hid H7.out.2.1
                   obtain ⟨ae, ce, rfl⟩ := own_shape3 H7o.out
                   obtain ⟨af, cf, rfl⟩ := own_shape3 H8.out.2
                   obtain ⟨v9, w9, hr, ho9, hg9⟩ := three_push wr w6 w7 w8 (ab, 8 + x, cb, E.map u8N) (ae, 8 + x, ce, E.map u8N) (af, x, cf, row.map u8N) HL.out.2.2 HL.out.2.1.size H6.out.1 H6.out.2.1 H7.out.1 H7o.out H8.out.1 H8.out.2 hx2 hx2 hx3 (by rw [HL.out.1]; omega)
                   have HR := Lib.hid hr
                   have H9 := Lib.hid (And.intro ho9 hg9)
                   clear hg8 ho8 HJ6 hr ho9 hg9
                   refine ⟨_, rfl, ?_⟩)
                | (refine Fg.step_append rfl (.tmp 79) (.tmp 92) 22 rfl rfl _ _ rfl rfl _ _ HR.out ?_))
              all_goals
                have HZ : Hid (w3.grownBy w9 none ∧ ∃ Ls : List Rw1, Ls.length = 4 + 3 * (q + 1) ∧ OutAt w9 w3.heap.size v9 Ls) := ⟨own_gb HL.out.2.1 HL.out.2.2.own H9.out.2, _, by rw [List.length_append, HL.out.1]; show 4 + 3 * q + 3 = _; omega, H9.out.1⟩
                go_wp2_with fail
                exact ⟨⟨q + 1, by omega, rfl, HZ.out⟩, by show k - ((q : Int) + 1).toNat < k - (q : Int).toNat; omega⟩
            · obtain rfl : q = k := by omega
              obtain ⟨Ls, hls, ho⟩ := HI.out.2
              have HAP := Lib.hid (fun w' (hg : wr.grownBy w' none) => apart_all HMK.out w3 w' u8 w3.heap.size Ls (ho.stay hg) (Nat.le_refl _) (gb_trans HI.out.1 hg) (by omega) (by omega))
              have HGr := Lib.hid HI.out.1
              clear hls ho HI hlt
              go_wp2_with fail
              refine (HK.out wr HGr.out).mono ?_
              rintro e w4 ⟨rfl, hg4⟩
              have HG4 := Lib.hid hg4; clear hg4
              go_wp2_with fail
              refine (HAP.out w4 HG4.out).mono ?_
              rintro e w5 ⟨rfl, hg5⟩
              have HG5 := Lib.hid hg5; clear hg5
              go_wp2_with fail
              refine (HK.out w5 HG5.out).mono ?_
              rintro e w6 ⟨rfl, hg6⟩
              have HW := Lib.hid (wawake_any w6)
              have HG6 := Lib.hid (gb_trans HG5.out hg6); clear hg6
              go_wp2_with fail
              refine HW.out.mono ?_
              rintro e w7 ⟨rfl, hg7⟩
              have HE := Lib.hid (HQ.out _ (gb_trans HG3.out (gb_trans HG6.out hg7)))
              clear hg7
              go_wp2
              exact HE.out
end Go.Proofs.YtlkiancedgaicaaGreat

namespace Go.Proofs.YtlkiancedgaicaaGreat
open Go.RowKit Ow Wi
set_option linter.unusedSimpArgs false
theorem append_none (w : World) (base n : Nat) (v : Value) (xs : List Value) (hown : w.ownsRow base 5 1 v n xs) :
    (Builtin.append_ #[23, 3] 23 #[v, .int .i64 0]).run Tryz.prog w = .ok v w := by
  obtain ⟨i, hi, hz, hsz, hb⟩ := info_u8z
  have hw : IntKind.i64.wrap 0 = 0 := by rw [IntKind.wrap_i64]; omega
  rcases hown.2 with ⟨rfl, rfl⟩ | ⟨g, cap, cur, rfl, hbg, hg, hnc, hcm, hcs, htake⟩
  · simp [Builtin.append_, run_underlying (Tryz.underlying23), run_underlying (Tryz.underlying3), sizeOf, typeInfo, zeroValue, hi, hz, hsz, hb, asInt, asIntOf, hw]
  · simp [Builtin.append_, run_underlying (Tryz.underlying23), run_underlying (Tryz.underlying3), sizeOf, typeInfo, zeroValue, hi, hz, hsz, hb, asInt, asIntOf, hw, hnc, storeCells]
theorem append_left (w3 : World) (base q : Nat) (z : Int) (v3 : Value) (ho : w3.ownsRow base 5 1 v3 8 ((encN z).map u8N)) (hq : q ≤ 1000) (hb : base ≤ w3.heap.size) :
    ∃ v4 w4, (Builtin.append_ #[23, 3] 23 #[v3, .int .i64 (q : Int)]).run Tryz.prog w3 = .ok v4 w4 ∧ w4.ownsRow base 5 1 v4 (8 + q) ((encN z ++ List.replicate q 0).map u8N) ∧ w3.grownBy w4 v3.ownBlock := by
  by_cases h0 : q = 0
  · subst h0
    exact ⟨v3, w3, append_none w3 base 8 v3 _ ho, by simpa using ho, gb_refl _ _⟩
  · obtain ⟨v', w', hr, ho', hg⟩ := append_zeros w3 base 8 q v3 _ ho (by omega) (by omega) hb
    exact ⟨v', w', hr, by rw [List.map_append, List.map_replicate]; exact ho', hg⟩
set_option maxRecDepth 100000 in
theorem enc_place : ∀ p, p < 8 → ∀ c, c < 256 → encN (toI (wN ((List.replicate 8 0).set p c))) = (List.replicate 8 0).set p c := by decide +kernel
def askL (L : List (Int × Int)) : List Value := L.flatMap fun q => [.int .i64 q.1, .int .i64 q.2]
theorem askL_at : ∀ (L : List (Int × Int)) (i : Nat), i < L.length → (askL L)[i * 2]? = some (.int .i64 (L.getD i (0, 0)).1) ∧ (askL L)[i * 2 + 1]? = some (.int .i64 (L.getD i (0, 0)).2)
  | [], i, h => by simp at h
  | q :: L, 0, _ => by simp [askL]
  | q :: L, i + 1, h => by
    have ih := askL_at L i (by simpa using h)
    have e : askL (q :: L) = .int .i64 q.1 :: .int .i64 q.2 :: askL L := by simp [askL]
    rw [e, show (i + 1) * 2 = i * 2 + 1 + 1 by omega]
    simpa using ih
theorem asks_blk {w : World} {X : Nat} {T : TypeId} {L : List (Int × Int)} (hb : Blk w X T (askL L)) (hw : ∀ q ∈ L, (-9223372036854775808 ≤ q.1 ∧ q.1 ≤ 9223372036854775807) ∧ (-9223372036854775808 ≤ q.2 ∧ q.2 ≤ 9223372036854775807)) : AsksAt w w.heap.size (some ⟨X, 0, none⟩) L :=
  ⟨Nat.le_refl _, hw, Or.inr ⟨X, 0, rfl, hb.lt, fun i hi => by
    obtain ⟨h1, h2⟩ := askL_at L i hi
    rw [Nat.zero_add]
    exact ⟨hb.cell h1, hb.cell h2⟩⟩⟩
def numsL : List Int := [-9223372036854775808, -9223372036854775807, -256, -1, 0, 1, 2, 3, 4, 255, 256, 4294967296, 4611686018427387909, 9223372036854775807]
theorem numsL_wf : ∀ z ∈ numsL, -9223372036854775808 ≤ z ∧ z ≤ 9223372036854775807 := by decide
set_option maxRecDepth 100000 in
set_option maxHeartbeats 4000000 in
theorem wnumbers_any (W : World) : Calls Tryz.prog 5 #[] W fun e w' => e = .returned (.bool true) ∧ W.grownBy w' none := by
  obtain ⟨Q, hQ⟩ : ∃ Q : Ending → World → Prop, Q = fun e w' => e = .returned (.bool true) ∧ W.grownBy w' none := ⟨_, rfl⟩
  rw [← hQ]
  have HQ : Hid (∀ w', W.grownBy w' none → Q (.returned (.bool true)) w') := fun w' hg => by rw [hQ]; exact ⟨rfl, hg⟩
  clear hQ
  have HPu : Hid (∀ (z : Int) w', Calls Tryz.prog 3 #[.int .i64 z, .slice none 0 0] w' fun e w'' => e = .returned (.bool true) ∧ w'.grownBy w'' none) := fun z w' =>
    wputs_any z 0 0 none [] w' rfl (by decide) ⟨Nat.le_refl _, Or.inl rfl⟩ (fun r h => by cases h)
  go_enter Tryz.func5, Tryz.ntmps5
  go_wp2_with fail
  obtain ⟨NB, hNB⟩ : ∃ NB, NB = W.heap.size := ⟨_, rfl⟩
  have hbN := blk_at W (numsL.map (Value.int .i64)) 3 hNB.symm
  have hg1 : W.grownBy (W.alloc (.cells (numsL.map (Value.int .i64)).toArray 3)) none := gb_alloc (gb_refl _ _) _
  obtain ⟨w1, hw1⟩ : ∃ w1, w1 = W.alloc (.cells #[.int .i64 (-9223372036854775808), .int .i64 (-9223372036854775807), .int .i64 (-256), .int .i64 (-1), .int .i64 0, .int .i64 1, .int .i64 2, .int .i64 3, .int .i64 4, .int .i64 255, .int .i64 256, .int .i64 4294967296, .int .i64 4611686018427387909, .int .i64 9223372036854775807] 3) := ⟨_, rfl⟩
  have e1 : W.alloc (.cells (numsL.map (Value.int .i64)).toArray 3) = w1 := by rw [hw1]; rfl
  rw [e1] at hbN hg1
  rw [← hw1, ← hNB]
  clear hw1 e1 hNB
  have HC : Hid (∀ k w', k < 14 → w1.grownBy w' none → ∃ z : Int, (-9223372036854775808 ≤ z ∧ z ≤ 9223372036854775807) ∧ w'.cell? ⟨NB, k, none⟩ = some (.int .i64 z)) := fun k w' hk hg => by
    have hk' : k < numsL.length := hk
    exact ⟨numsL[k], numsL_wf _ (List.getElem_mem hk'), (hbN.grown hg (by simp)).cell (by rw [List.getElem?_map, List.getElem?_eq_getElem hk']; rfl)⟩
  have HG1 := Lib.hid hg1
  clear hbN hg1
  go_loopw [2] (fun i wr => ∃ k : Nat, k ≤ 14 ∧ i = .int .i64 k ∧ Hid (w1.grownBy wr none)) (fun i _ => 14 - (intOf i).toNat)
  case atStart => exact ⟨0, by omega, rfl, gb_refl _ _⟩
  case round =>
    obtain ⟨k, hk, rfl, HI⟩ := hrel
    by_cases hlt : k < 14
    · obtain ⟨z, hz, cz⟩ := HC.out k wr hlt HI.out
      have i0 : (k : Int) < 14 := by omega
      have HP := Lib.hid (HPu.out z wr)
      go_wp2_with fail
      refine HP.out.mono ?_
      rintro e w2 ⟨rfl, hg2⟩
      have H2 := Lib.hid (gb_trans HI.out hg2); clear hg2 HP cz hz HI
      go_wp2_with fail
      go_loopw [3] (fun i wr => ∃ q : Nat, q ≤ 5 ∧ i = .int .i64 q ∧ Hid (w1.grownBy wr none)) (fun i _ => 5 - (intOf i).toNat)
      case atStart => exact ⟨0, by omega, rfl, H2.out⟩
      case round =>
        obtain ⟨q, hq, rfl, HJ⟩ := hrel
        by_cases hlt2 : q < 5
        · have i1 : (q : Int) < 5 := by omega
          obtain ⟨z, hz, cz⟩ := HC.out k wr hlt HJ.out
          go_wp2_with fail
          refine (refNumber_any z wr).mono ?_
          rintro e w3 ⟨v3, rfl, hg3, ho3⟩
          obtain ⟨v4, w4, hap, ho4, hg4⟩ := append_left w3 wr.heap.size q z v3 ho3 (by omega) hg3.size
          have hgs := own_gb hg3 ho3 hg4
          have hby : ∀ i, (encN z ++ List.replicate q 0).getD i 0 < 256 := app_byte (encN_byte z) (fun i => by rw [List.getD_eq_getElem?_getD, List.getElem?_replicate]; split <;> simp)
          obtain ⟨ab, cb, rfl, hl4, hB4, _⟩ := own_slice ho4 hby
          have HAP := Lib.hid hap
          generalize encN z ++ List.replicate q 0 = bz at *
          have HB4 := Lib.hid (And.intro (gb_trans HJ.out hgs) (And.intro hB4 hl4))
          clear hap ho3 ho4 hg3 hg4 hgs hby hB4 hl4 cz hz
          go_wp2_with (at_builtin; refine Lib.wpList_append_run w3 rfl (.tmp 35) (.tmp 36) 23 3 rfl v3 (.int .i64 (q : Int)) rfl rfl _ _ HAP.out ?_)
          go_loopw [5] (fun i wr => ∃ p : Nat, p ≤ 14 ∧ i = .int .i64 p ∧ Hid (w4.grownBy wr none)) (fun i _ => 14 - (intOf i).toNat)
          case atStart => exact ⟨0, by omega, rfl, gb_refl _ _⟩
          case round =>
            obtain ⟨p, hp, rfl, HK⟩ := hrel
            by_cases hlt3 : p < 14
            · have i2 : (p : Int) < 14 := by omega
              go_wp2_with fail
              go_loopw [6] (fun i wr => ∃ t : Nat, t ≤ 4 ∧ i = .int .i64 t ∧ Hid (w4.grownBy wr none)) (fun i _ => 4 - (intOf i).toNat)
              case atStart => exact ⟨0, by omega, rfl, HK.out⟩
              case round =>
                obtain ⟨t, ht, rfl, HL⟩ := hrel
                by_cases hlt4 : t < 4
                · obtain ⟨y, hy, cy⟩ := HC.out p wr hlt3 (gb_trans HB4.out.1 HL.out)
                  have i3 : (t : Int) < 4 := by omega
                  have HWR : Hid (∀ (w' : World) (X : Nat), wr.grownBy w' none → Blk w' X 43 (askL [((t : Int), y), ((t : Int), y), (0, 0), (0, 0)]) → Calls Tryz.prog 4 #[.slice ab (8 + q) cb, .slice (some ⟨X, 0, none⟩) 4 4] w' fun e w'' => e = .returned (.bool true) ∧ w'.grownBy w'' none) := fun w' X hg hb =>
                    wreads_any (8 + q) 4 cb 4 ab (some ⟨X, 0, none⟩) bz _ w' HB4.out.2.2 (bytes_up HB4.out.2.1 (gb_trans HL.out hg)) rfl (asks_blk hb (fun r hr => by
                      simp only [List.mem_cons, List.not_mem_nil, or_false] at hr
                      rcases hr with rfl | rfl | rfl | rfl <;> exact ⟨by constructor <;> (dsimp only; omega), by constructor <;> (dsimp only; omega)⟩))
                  go_wp2_with fail
                  go_region_law (first
                    | (refine Fg.step_call rfl (f := 4) (args := #[.slice ab (8 + q) cb, .slice (some ⟨wr.heap.size, 0, none⟩) 4 4]) (Fg.run_call rfl rfl (by simp only [List.map_toArray, List.map_cons, List.map_nil, Act.eval]; rfl) (Fg.run_enter Tryz.func4 (by kernel_rfl) (by kernel_rfl))) ?_
                       refine (HWR.out _ _ (gb_alloc (gb_drew (gb_refl _ _)) _) (blk_at wr.drew (askL [((t : Int), y), ((t : Int), y), (0, 0), (0, 0)]) _ rfl)).mono ?_
                       rintro e w5 ⟨rfl, hg5⟩
                       have H5 : Hid (w4.grownBy w5 none) := gb_trans HL.out (gb_trans (gb_alloc (gb_drew (gb_refl wr none)) _) hg5)
                       clear hg5 HWR
                       refine ⟨_, rfl, ?_⟩))
                  all_goals
                    go_wp2_with fail
                    exact ⟨⟨t + 1, by omega, rfl, H5.out⟩, by show 4 - ((t : Int) + 1).toNat < 4 - (t : Int).toNat; omega⟩
                · obtain rfl : t = 4 := by omega
                  go_wp2_with fail
                  exact ⟨⟨p + 1, by omega, rfl, HL.out⟩, by show 14 - ((p : Int) + 1).toNat < 14 - (p : Int).toNat; omega⟩
            · obtain rfl : p = 14 := by omega
              have HE := Lib.hid (gb_trans HB4.out.1 HK.out)
              go_wp2_with fail
              exact ⟨⟨q + 1, by omega, rfl, HE.out⟩, by show 5 - ((q : Int) + 1).toNat < 5 - (q : Int).toNat; omega⟩
        · obtain rfl : q = 5 := by omega
          go_wp2_with fail
          exact ⟨⟨k + 1, by omega, rfl, HJ.out⟩, by show 14 - ((k : Int) + 1).toNat < 14 - (k : Int).toNat; omega⟩
    · have i0 : ¬ (k : Int) < 14 := by omega
      have HW2 := Lib.hid (gb_trans HG1.out HI.out)
      clear HI HC HG1 HPu
      go_wp2_with fail
      go_loopw [7] (fun i wr => ∃ n : Nat, n ≤ 10 ∧ i = .int .i64 n ∧ Hid (W.grownBy wr none)) (fun i _ => 10 - (intOf i).toNat)
      case atStart => exact ⟨0, by omega, rfl, HW2.out⟩
      case round =>
        obtain ⟨n, hn, rfl, HI⟩ := hrel
        by_cases hlt : n < 10
        · have i0 : (n : Int) < 10 := by omega
          obtain ⟨w2, hmk, hg2, hs2, hb2⟩ := make_bytes n n wr (Nat.le_refl _) (by omega)
          obtain ⟨BZ, hBZ⟩ : ∃ BZ, BZ = wr.heap.size := ⟨_, rfl⟩
          rw [← hBZ] at hmk hb2
          have HB2 : Hid (W.grownBy w2 none ∧ BytesAt w2 w2.heap.size (some ⟨BZ, 0, none⟩) n (List.replicate n 0)) := ⟨gb_trans HI.out hg2, blk_bytes (tl := []) (by rw [List.append_nil, List.map_replicate]; exact hb2) (by simp) (Nat.le_refl _) (by omega) (fun i => by rw [List.getD_eq_getElem?_getD, List.getElem?_replicate]; split <;> simp) hb2.lt (Nat.le_refl _)⟩
          have HWR : Hid (∀ (w' : World) (X m : Nat) (L : List (Int × Int)), L.length = m → (∀ q ∈ L, (-9223372036854775808 ≤ q.1 ∧ q.1 ≤ 9223372036854775807) ∧ (-9223372036854775808 ≤ q.2 ∧ q.2 ≤ 9223372036854775807)) → w2.grownBy w' none → Blk w' X 43 (askL L) → Calls Tryz.prog 4 #[.slice (some ⟨BZ, 0, none⟩) n n, .slice (some ⟨X, 0, none⟩) m m] w' fun e w'' => e = .returned (.bool true) ∧ w'.grownBy w'' none) := fun w' X m L hL hwf hg hb =>
            wreads_any n m n m (some ⟨BZ, 0, none⟩) (some ⟨X, 0, none⟩) (List.replicate n 0) L w' (by simp) (bytes_up HB2.out.2 hg) hL (asks_blk hb hwf)
          clear hg2 hs2 hb2 hBZ
          go_wp2_with fail
          refine (HWR.out _ w2.heap.size 3 [(1, 0), (0, 0), (1, 0)] rfl (by decide) (gb_alloc (gb_refl _ _) _) (blk_at w2 (askL [(1, 0), (0, 0), (1, 0)]) _ rfl)).mono ?_
          rintro e w3 ⟨rfl, hg3⟩
          have H3 := Lib.hid (gb_trans (gb_alloc (gb_refl w2 none) _) hg3)
          clear hg3
          go_wp2_with fail
          refine (HWR.out _ w3.heap.size 5 [(0, 0), (2, 9), (0, 0), (0, 0), (0, 0)] rfl (by decide) (gb_alloc H3.out _) (blk_at w3 (askL [(0, 0), (2, 9), (0, 0), (0, 0), (0, 0)]) _ rfl)).mono ?_
          rintro e w4 ⟨rfl, hg4⟩
          have H4 : Hid (W.grownBy w4 none) := gb_trans HB2.out.1 (gb_trans (gb_alloc H3.out _) hg4)
          clear hg4 HWR HB2 hmk H3
          go_wp2_with fail
          exact ⟨⟨n + 1, by omega, rfl, H4.out⟩, by show 10 - ((n : Int) + 1).toNat < 10 - (n : Int).toNat; omega⟩
        · have i1 : ¬ (n : Int) < 10 := by omega
          have HW3 := Lib.hid HI.out
          clear HI
          go_wp2_with fail
          go_loopw [9] (fun i wr => ∃ p : Nat, p ≤ 8 ∧ i = .int .i64 p ∧ Hid (W.grownBy wr none)) (fun i _ => 8 - (intOf i).toNat)
          case atStart => exact ⟨0, by omega, rfl, HW3.out⟩
          case round =>
            obtain ⟨p, hp, rfl, HI⟩ := hrel
            by_cases hlt : p < 8
            · have i0 : (p : Int) < 8 := by omega
              go_wp2_with fail
              go_loopw [10] (fun i wr => ∃ c : Nat, c ≤ 256 ∧ i = .int .i64 c ∧ Hid (W.grownBy wr none)) (fun i _ => 256 - (intOf i).toNat)
              case atStart => exact ⟨0, by omega, rfl, HI.out⟩
              case round =>
                clear HI
                obtain ⟨c, hc, rfl, HI⟩ := hrel
                by_cases hlt2 : c < 256
                · have i1 : (c : Int) < 256 := by omega
                  have hwr : IntKind.u8.wrap (c : Int) = (c : Int) := by rw [show IntKind.u8.wrap (c : Int) = (c : Int) % 256 by simp [IntKind.wrap, IntKind.signed, IntKind.bits]]; omega
                  have hz := enc_place p hlt c hlt2
                  obtain ⟨w2, hmk, hg2, hs2, hb2⟩ := make_bytes 8 8 wr (Nat.le_refl _) (by omega)
                  obtain ⟨BZ, hBZ⟩ : ∃ BZ, BZ = wr.heap.size := ⟨_, rfl⟩
                  rw [← hBZ] at hmk hb2
                  have hmk' : (Instr.makeSlice 23 (.int .i64 8) (.int .i64 8)).run Tryz.prog wr = .ok (.slice (some ⟨BZ, 0, none⟩) 8 8) w2 := hmk
                  obtain ⟨B, hB⟩ : ∃ B, B = (List.replicate 8 0).set p c := ⟨_, rfl⟩
                  rw [← hB] at hz
                  have hBl : B.length = 8 := by rw [hB]; simp
                  have hBb : ∀ i, B.getD i 0 < 256 := fun i => by
                    rw [← hz]; exact encN_byte _ i
                  have hb3 : Blk (w2.setCell ⟨BZ, p, none⟩ (.int .u8 (c : Int))) BZ 5 (B.map u8N) := by
                    have h := hb2.set p (u8N c)
                    rw [hB, List.map_set, List.map_replicate]; exact h
                  have hg3 : W.grownBy (w2.setCell ⟨BZ, p, none⟩ (.int .u8 (c : Int))) none := gb_set_new (gb_trans HI.out hg2) (p := ⟨BZ, p, none⟩) (by rw [hBZ]; exact HI.out.size) _
                  have cp : w2.cell? ⟨BZ, p, none⟩ = some (.int .u8 0) := hb2.cell (by rw [List.getElem?_replicate, if_pos hlt]; rfl)
                  have fp := hb2.free p
                  obtain ⟨w3, hw3⟩ : ∃ w3, w3 = w2.setCell ⟨BZ, p, none⟩ (.int .u8 (c : Int)) := ⟨_, rfl⟩
                  rw [← hw3] at hb3 hg3
                  have hn2 : numS (some B) = (wN B, some []) := by
                    rw [word8_some (by omega), List.take_of_length_le (by omega), List.drop_eq_nil_of_le (by omega)]
                  obtain ⟨z, hzz⟩ : ∃ z, z = toI (wN B) := ⟨_, rfl⟩
                  rw [← hzz] at hz
                  have H3 : Hid (W.grownBy w3 none ∧ Blk w3 BZ 5 (B.map u8N) ∧ B.length = 8 ∧ (∀ i, B.getD i 0 < 256) ∧ numS (some B) = (wN B, some []) ∧ z = toI (wN B) ∧ encN z = B) := ⟨hg3, hb3, hBl, hBb, hn2, hzz, hz⟩
                  have HBY : Hid (∀ w', w3.grownBy w' none → BytesAt w' w'.heap.size (some ⟨BZ, 0, none⟩) 8 B) := fun w' hg =>
                    blk_bytes (tl := []) (by rw [List.append_nil]; exact H3.out.2.1.grown hg (by simp)) H3.out.2.2.1 (Nat.le_refl _) (by decide) H3.out.2.2.2.1 (Nat.lt_of_lt_of_le H3.out.2.1.lt hg.size) (Nat.le_refl _)
                  clear hz hmk hg2 hs2 hb2 hB hBl hBb hb3 hg3 hn2 hzz hBZ
                  go_wp2_with fail
                  rw [← hw3]
                  clear hw3 cp fp hmk' hwr
                  refine (new_any 8 8 w3.heap.size (some ⟨BZ, 0, none⟩) B w3 H3.out.2.2.1 (by decide) (HBY.out w3 (gb_refl _ _))).mono ?_
                  rintro e w4 ⟨rb, rfl, hg4, hrb, hr4⟩
                  have H4 := Lib.hid (And.intro hg4 (And.intro hrb hr4)); clear hg4 hrb hr4
                  go_wp2_with fail
                  refine (number_any rb (some B) w4 H4.out.2.2).mono ?_
                  rintro e w5 ⟨rfl, hg5, hr5⟩
                  rw [H3.out.2.2.2.2.1] at hr5 ⊢
                  rw [← H3.out.2.2.2.2.2.1]
                  have h35 := gb_then H4.out.1 hg5 H4.out.2.1
                  have H5 := Lib.hid (And.intro h35 hr5); clear hg5 hr5 h35
                  go_wp2_with fail
                  refine (numF_any z w5).mono ?_
                  rintro e w6 ⟨g6, rfl, hg6, hn6, hb6⟩
                  have HS := Lib.hid (sameBytes_any w6.heap.size w6.heap.size 8 8 8 8 (some ⟨g6, 0, none⟩) (some ⟨BZ, 0, none⟩) (encN z) B w6 (encN_length z) H3.out.2.2.1 (numF_bytes hb6) (HBY.out w6 (gb_trans H5.out.1 hg6)))
                  rw [show decide (encN z = B) = true from decide_eq_true H3.out.2.2.2.2.2.2] at HS
                  have H6 := Lib.hid hg6; clear hg6 hn6 hb6
                  go_wp2_with fail
                  refine HS.out.mono ?_
                  rintro e w7 ⟨rfl, hg7⟩
                  have HD := Lib.hid (done_any rb (some []) w7 (H5.out.2.stay (gb_trans H6.out hg7)))
                  rw [show decide ((some [] : St) = some []) = true from decide_eq_true rfl] at HD
                  have H7 : Hid (W.grownBy w7 none) := gb_trans H3.out.1 (gb_trans H5.out.1 (gb_trans H6.out hg7))
                  clear hg7 HS
                  go_wp2_with fail
                  refine HD.out.mono ?_
                  rintro e w' ⟨rfl, hw'⟩
                  subst w'
                  clear HD H3 H4 H5 H6 HBY
                  go_wp2_with fail
                  exact ⟨⟨c + 1, by omega, rfl, H7.out⟩, by show 256 - ((c : Int) + 1).toNat < 256 - (c : Int).toNat; omega⟩
                · obtain rfl : c = 256 := by omega
                  go_wp2_with fail
                  exact ⟨⟨p + 1, by omega, rfl, HI.out⟩, by show 8 - ((p : Int) + 1).toNat < 8 - (p : Int).toNat; omega⟩
            · have i2 : ¬ (p : Int) < 8 := by omega
              have HPW : Hid (Calls Tryz.prog 3 #[.int .i64 0, .slice (some ⟨wr.heap.size + 1 + 1, 0, none⟩) 3 3] (((wr.alloc (.cells #[] 5)).alloc (.cells #[.int .u8 1] 5)).alloc (.cells #[.slice none 0 0, .slice (some ⟨wr.heap.size, 0, none⟩) 0 0, .slice (some ⟨wr.heap.size + 1, 0, none⟩) 1 1] 23)) fun e w'' => e = .returned (.bool true) ∧ wr.grownBy w'' none) := by
                have g1 := gb_alloc (gb_alloc (gb_alloc (gb_refl wr none) (.cells #[] 5)) (.cells #[.int .u8 1] 5)) (.cells #[.slice none 0 0, .slice (some ⟨wr.heap.size, 0, none⟩) 0 0, .slice (some ⟨wr.heap.size + 1, 0, none⟩) 1 1] 23)
                have hbF := (blk_at (B := wr.heap.size + 1) (wr.alloc (.cells #[] 5)) [.int .u8 1] 5 (by simp)).alloc (.cells #[.slice none 0 0, .slice (some ⟨wr.heap.size, 0, none⟩) 0 0, .slice (some ⟨wr.heap.size + 1, 0, none⟩) 1 1] 23)
                have hbX := blk_at (B := wr.heap.size + 1 + 1) ((wr.alloc (.cells #[] 5)).alloc (.cells #[.int .u8 1] 5)) [.slice none 0 0, .slice (some ⟨wr.heap.size, 0, none⟩) 0 0, .slice (some ⟨wr.heap.size + 1, 0, none⟩) 1 1] 23 (by simp)
                refine (wputs_any 0 3 3 (some ⟨wr.heap.size + 1 + 1, 0, none⟩) [[], [], [1]] _ rfl (by decide) ⟨Nat.le_refl _, Or.inr ⟨wr.heap.size + 1 + 1, 0, rfl, hbX.lt, fun i hi => ?_⟩⟩ (by decide)).mono fun e w'' h => ⟨h.1, gb_trans g1 h.2⟩
                rw [Nat.zero_add]
                have hi3 : i = 0 ∨ i = 1 ∨ i = 2 := by simp at hi; omega
                rcases hi3 with rfl | rfl | rfl
                · exact ⟨none, 0, hbX.cell (i := 0) rfl, Nat.le_refl _, Nat.le_refl _, by decide, fun i => by simp, Or.inl rfl⟩
                · exact ⟨some ⟨wr.heap.size, 0, none⟩, 0, hbX.cell (i := 1) rfl, Nat.le_refl _, Nat.le_refl _, by decide, fun i => by simp, Or.inl rfl⟩
                · exact ⟨some ⟨wr.heap.size + 1, 0, none⟩, 1, hbX.cell (i := 2) rfl, blk_bytes (n := 1) (l := [1]) (tl := []) hbF rfl (Nat.le_refl _) (by decide) (fun i => by rcases i with _ | i <;> simp) hbF.lt (Nat.le_refl _)⟩
              have HG := Lib.hid HI.out
              clear HI
              go_wp2_with fail
              refine HPW.out.mono ?_
              rintro e w5 ⟨rfl, hg5⟩
              have HW := Lib.hid (wawake_any w5)
              have HG5 := Lib.hid (gb_trans HG.out hg5)
              clear hg5 HPW
              go_wp2_with fail
              refine HW.out.mono ?_
              rintro e w6 ⟨rfl, hg6⟩
              have HE := Lib.hid (HQ.out _ (gb_trans HG5.out hg6))
              clear hg6
              go_wp2
              exact HE.out
end Go.Proofs.YtlkiancedgaicaaGreat

namespace Go.Proofs.YtlkiancedgaicaaGreat.lawWireNumbers
open Go.ChangeShapes Go.WideShapes Go.ChangeAt Go.RowKit Ow
theorem own : ownKnob Tryz.prog.godebug = none := by kernel_rfl
theorem laidOut : laidOutB Tryz.prog = true := by kernel_rfl

set_option maxRecDepth 100000 in
theorem contract (H : Type) (enc : TypeId × Value → H) (W : World) (base : Nat) (args : Array Value) (ds gs : List (DataW H)) (before : List MemPlace)
    (hval : ∀ (j : Nat) t v, Tryz.f5.params[j]? = some t → args[j]? = some v → Value.okWide Tryz.prog W .any base t v)
    (hW : DataW.Whole enc Tryz.prog Tryz.f5.params.toList Rows.wireNumbersSpec.vars false W args.toList ds gs before) :
    Calls Tryz.prog 5 args W fun e W' => ∃ v, e = .returned v ∧ Rows.wireNumbersSpec.post enc Tryz.prog Tryz.f5 false true false false W args v W' := by
  have hW' := hW
  obtain ⟨p, q, hA0, hV, rfl, hfz, hnd⟩ := hW
  have hA : DataW.TrodAll enc Tryz.prog W 0 (fun _ => true) true Tryz.f5.params.toList args.toList ds p := hA0
  rw [Tryz.params5] at hA hval
  obtain ⟨hargs, rfl, rfl⟩ := trodAll_nil hA
  obtain rfl : args = #[] := by cases args; simp_all
  obtain ⟨rfl, rfl⟩ := trodVars_none hV
  have walk : Calls Tryz.prog 5 #[] W fun e w' => e = .returned (.bool true) ∧ Below W.heap.size W w' :=
    (wnumbers_any W).mono fun e w' h => ⟨h.1, gb_below h.2⟩
  refine walk.mono fun e W' ⟨he, bel⟩ => ?_
  subst he
  exact ⟨_, rfl, _, _, _, [], _, [], hW', trodAll_mk1 (shut_bool Tryz.underlying4 _), trodAll_mk0, rfl, bel.frame _, fun h => by cases h⟩

set_option maxRecDepth 100000 in
theorem lifted (os : Os) (started : os.Started) (H : Type) (enc : TypeId × Value → H) :
    ReturnsInHanded {} Tryz.checked os 5 .any (Rows.wireNumbersSpec.pre6 enc Tryz.prog Tryz.f5 Rows.wireNumbersRow.domain false) (Rows.wireNumbersSpec.post enc Tryz.prog Tryz.f5 false true false false) := by
  refine returnsInHanded_of_change (C := Tryz.checked) own started (by kernel_rfl) Tryz.func5
    (ChangeSpec.witness6 (enc := enc) (C := Tryz.checked) false ⟨#[], #[], []⟩ 8 (by kernel_rfl) (by kernel_rfl) (by kernel_rfl) (by kernel_rfl)) ?_
  intro W base args ds gs before hval hW _ _
  exact contract H enc W base args ds gs before hval hW

/-- THE STATEMENT. -/
theorem said : Rows.WireNumbersSaid :=
  OpenClaim.holds_of_wide 5 Tryz.f5 rfl rfl rfl rfl rfl rfl rfl ⟨rfl, rfl, rfl, rfl, rfl⟩ rfl rfl rfl rfl rfl (by kernel_rfl) Tryz.func5 (by kernel_rfl)
    (of_decide_eq_true (by kernel_rfl)) (by unfold Func.isWrapper; first | (rw [if_pos (by decide +kernel)]; kernel_rfl) | (rw [if_neg (by decide +kernel)]; exact ⟨rfl, rfl⟩))
    (fun os started H enc _ => lifted os started H enc)
end Go.Proofs.YtlkiancedgaicaaGreat.lawWireNumbers
