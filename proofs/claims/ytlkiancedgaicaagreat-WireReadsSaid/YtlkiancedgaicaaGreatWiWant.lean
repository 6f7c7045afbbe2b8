/- wire's laws: what the document's reader tells to an ask. -/
import Derived.Test.YtlkiancedgaicaaGreatWiAsked
import Derived.Test.YtlkiancedgaicaaGreatWiRefGood
import Derived.Test.YtlkiancedgaicaaGreatWiPutsM
namespace Go.Proofs.YtlkiancedgaicaaGreat
open Go.RowKit Ow Wi
theorem byteS_lt (st : St) (hb : ∀ l, st = some l → ∀ i, l.getD i 0 < 256) : (byteS st).1 < 256 := by
  have hp : 0 < 256 := by decide
  cases st with
  | none => exact hp
  | some l =>
    unfold byteS tells rdWord
    by_cases hk : 1 ≤ l.length
    · simp only [if_pos hk]
      have h1 := wN_lt (l.take 1) (fun b hm => getD_mem (hb l rfl) b (List.mem_of_mem_take hm))
      rwa [List.length_take, Nat.min_eq_left hk] at h1
    · simp only [if_neg hk]; exact hp
theorem want_base (w : World) (sb : Nat) (st : St) (what most : Int) (h : RefS w sb st) :
    (RefS (((w.alloc (.cells #[.int .i64 what, .int .i64 most] 43)).alloc (.cells #[.int .i64 0, .slice none 0 0, .bool false, .bool false] 40)).alloc (.cells #[.int .i64 0, .slice none 0 0, .bool false, .bool false] 40)) sb st ∧
    Blk (((w.alloc (.cells #[.int .i64 what, .int .i64 most] 43)).alloc (.cells #[.int .i64 0, .slice none 0 0, .bool false, .bool false] 40)).alloc (.cells #[.int .i64 0, .slice none 0 0, .bool false, .bool false] 40)) (w.heap.size + 1) 40 [.int .i64 0, .slice none 0 0, .bool false, .bool false] ∧
    Blk (((w.alloc (.cells #[.int .i64 what, .int .i64 most] 43)).alloc (.cells #[.int .i64 0, .slice none 0 0, .bool false, .bool false] 40)).alloc (.cells #[.int .i64 0, .slice none 0 0, .bool false, .bool false] 40)) (w.heap.size + 1 + 1) 40 [.int .i64 0, .slice none 0 0, .bool false, .bool false] ∧
    w.grownBy (((w.alloc (.cells #[.int .i64 what, .int .i64 most] 43)).alloc (.cells #[.int .i64 0, .slice none 0 0, .bool false, .bool false] 40)).alloc (.cells #[.int .i64 0, .slice none 0 0, .bool false, .bool false] 40)) none ∧ sb < w.heap.size) ∧ Blk (((w.alloc (.cells #[.int .i64 what, .int .i64 most] 43)).alloc (.cells #[.int .i64 0, .slice none 0 0, .bool false, .bool false] 40)).alloc (.cells #[.int .i64 0, .slice none 0 0, .bool false, .bool false] 40)) w.heap.size 43 [.int .i64 what, .int .i64 most] := by
  have g1 := gb_alloc (gb_alloc (gb_alloc (gb_refl w none) (.cells #[.int .i64 what, .int .i64 most] 43)) (.cells #[.int .i64 0, .slice none 0 0, .bool false, .bool false] 40)) (.cells #[.int .i64 0, .slice none 0 0, .bool false, .bool false] 40)
  refine ⟨⟨h.stay g1, ?_, ?_, g1, h.lt⟩, ((Blk.new w [.int .i64 what, .int .i64 most] 43).alloc _).alloc _⟩
  · have h1 := Blk.new (w.alloc (.cells #[.int .i64 what, .int .i64 most] 43)) [.int .i64 0, .slice none 0 0, .bool false, .bool false] 40
    rw [World.size_alloc] at h1
    exact h1.alloc _
  · have h1 := Blk.new ((w.alloc (.cells #[.int .i64 what, .int .i64 most] 43)).alloc (.cells #[.int .i64 0, .slice none 0 0, .bool false, .bool false] 40)) [.int .i64 0, .slice none 0 0, .bool false, .bool false] 40
    rw [World.size_alloc, World.size_alloc] at h1
    exact h1
theorem want_then {w w3 w4 : World} {sb : Nat} {st : St} {L M : List Value} {T U : TypeId} (h : RefS w3 sb st ∧ Blk w3 (w.heap.size + 1) T L ∧ Blk w3 (w.heap.size + 1 + 1) U M ∧ w.grownBy w3 none ∧ sb < w.heap.size) (hg : w3.grownBy w4 (some sb)) :
    Blk w4 (w.heap.size + 1) T L ∧ Blk w4 (w.heap.size + 1 + 1) U M ∧ w.grownBy w4 (some sb) :=
  ⟨h.2.1.grown hg (by have := h.2.2.2.2; simp; omega), h.2.2.1.grown hg (by have := h.2.2.2.2; simp; omega), gb_trans (gb_row h.2.2.2.1 _) hg⟩
set_option maxRecDepth 100000 in
set_option maxHeartbeats 4000000 in
theorem wanted_any (sb : Nat) (what most : Int) (st : St) (k : Nat) (w : World) (h : RefS w sb st) (hb : ∀ l, st = some l → ∀ i, l.getD i 0 < 256) (h1 : -9223372036854775808 ≤ what) (h2 : what ≤ 9223372036854775807) (hk : what % 4 = k) :
    Calls Tryz.prog 32 #[.pointer (some ⟨sb, 0, none⟩), .agg #[.int .i64 what, .int .i64 most]] w fun e w' => ∃ v, e = .returned (toldV (askS k most st).1.1 v (askS k most st).2) ∧ w.grownBy w' (some sb) ∧ RefS w' sb (askS k most st).2 ∧ w'.ownsRow w.heap.size 5 1 v (askS k most st).1.2.length ((askS k most st).1.2.map u8N) := by
  have hk4 : k < 4 := by omega
  have HP := Lib.hid (fun (W : World) => pick_is what 4 W (by decide) (by decide) h1 h2)
  rw [hk] at HP
  have HR := Lib.hid (And.intro h hb); clear h hb h1 h2 hk
  obtain rfl | rfl | rfl | rfl : k = 0 ∨ k = 1 ∨ k = 2 ∨ k = 3 := by omega
  · go_enter Tryz.func32, Tryz.ntmps32
    go_wp2_with (fail)
    refine (HP.out _).mono ?_
    rintro e w' ⟨rfl, rfl⟩
    have HR3 := Lib.hid (want_base w sb st what most HR.out.1)
    have hlt := byteS_lt st HR.out.2
    have hwr : IntKind.i64.wrap (((byteS st).1 : Nat) : Int) = (((byteS st).1 : Nat) : Int) := IntWalk.i64_in _ (by have h2 : (byteS st).1 < 256 := hlt; omega)
    clear hlt
    generalize ((w.alloc (.cells #[.int .i64 what, .int .i64 most] 43)).alloc (.cells #[.int .i64 0, .slice none 0 0, .bool false, .bool false] 40)).alloc (.cells #[.int .i64 0, .slice none 0 0, .bool false, .bool false] 40) = w3 at *
    go_wp2_with (fail)
    refine (ref_byte sb st _ (HR3.out.1.1)).mono ?_
    rintro e w4 ⟨rfl, hg4, hr4⟩
    obtain ⟨hb4, hz4, hg40⟩ := want_then HR3.out.1 hg4
    generalize hst : (byteS st).2 = st2 at *
    have c0 := hz4.cell (i := 0) rfl; have c1 := hz4.cell (i := 1) rfl; have c2 := hz4.cell (i := 2) rfl; have c3 := hz4.cell (i := 3) rfl
    have f0 := hz4.free 0; have f1 := hz4.free 1; have f2 := hz4.free 2; have f3 := hz4.free 3
    have H4 := Lib.hid (And.intro hg40 (And.intro hr4 (And.intro hz4 (And.intro hb4 (And.intro hst trivial)))));  clear hg40 hr4 hz4 hb4 hst hg4
    have hT0 := HR3.out.1.2.2.2.2
    have hT : sb < w.heap.size + 1 + 1 := by omega
    have hT1 : sb < w.heap.size + 1 := by omega
    go_wp2_with (fail)
    refine (ref_good sb st2 _ (H4.out.2.1.beside (gb_set (gb_refl _ _) _ _) hT)).mono ?_
    rintro e w' ⟨rfl, rfl⟩
    go_wp2_with (fail)
    refine (ref_done sb st2 _ (H4.out.2.1.beside (gb_set (gb_set (gb_refl _ _) _ _) _ _) hT)).mono ?_
    rintro e w5 ⟨rfl, hg5⟩
    have H5 : Hid (w.grownBy w5 (some sb) ∧ RefS w5 sb st2 ∧ Blk w5 (w.heap.size + 1 + 1) 40 [.int .i64 (((byteS st).1 : Nat) : Int), (.slice none 0 0), (.bool st2.isSome), .bool false] ∧ Blk w5 (w.heap.size + 1) 40 [.int .i64 0, .slice none 0 0, .bool false, .bool false]) := by
      obtain ⟨hg40, hr4, hz4, hb4, _, _⟩ := H4.out
      have s1 := gb_set (gb_set (gb_refl w4 (some (w.heap.size + 1 + 1))) 0 (.int .i64 (((byteS st).1 : Nat) : Int))) 2 (.bool st2.isSome)
      exact ⟨gb_trans (gb_set_new (gb_set_new hg40 (p := ⟨w.heap.size + 1 + 1, 0, none⟩) (by simp; try omega) (.int .i64 (((byteS st).1 : Nat) : Int))) (p := ⟨w.heap.size + 1 + 1, 2, none⟩) (by simp; try omega) (.bool st2.isSome)) (gb_row hg5 _), (hr4.beside s1 hT).stay hg5, ((hz4.set 0 (.int .i64 (((byteS st).1 : Nat) : Int))).set 2 (.bool st2.isSome)).grown hg5 (by simp), ((hb4.other (a := ⟨w.heap.size + 1 + 1, 0, none⟩) (by simp) (.int .i64 (((byteS st).1 : Nat) : Int))).other (a := ⟨w.heap.size + 1 + 1, 2, none⟩) (by simp) (.bool st2.isSome)).grown hg5 (by simp)⟩
    clear c0 c1 c2 c3 f0 f1 f2 f3 hg5
    have hz5 := H5.out.2.2.1
    have hb5 := H5.out.2.2.2
    have c0 := hz5.cell (i := 0) rfl; have c1 := hz5.cell (i := 1) rfl; have c2 := hz5.cell (i := 2) rfl; have c3 := hz5.cell (i := 3) rfl
    have f0 := hz5.free 0; have f1 := hz5.free 1; have f2 := hz5.free 2; have f3 := hz5.free 3
    have e0 := hb5.cell (i := 0) rfl; have e1 := hb5.cell (i := 1) rfl; have e2 := hb5.cell (i := 2) rfl; have e3 := hb5.cell (i := 3) rfl
    have d0 := hb5.free 0; have d1 := hb5.free 1; have d2 := hb5.free 2; have d3 := hb5.free 3
    clear hz5 hb5
    go_wp2_with (fail)
    have hz5 := H5.out.2.2.1
    have hb5 := H5.out.2.2.2
    have s2 := gb_set (gb_refl w5 (some (w.heap.size + 1 + 1))) 3 (.bool (decide (st2 = some [])))
    have hR := ((((hb5.other (a := ⟨w.heap.size + 1 + 1, 3, none⟩) (by simp) (.bool (decide (st2 = some [])))).set 0 (.int .i64 (((byteS st).1 : Nat) : Int))).set 1 (.slice none 0 0)).set 2 (.bool st2.isSome)).set 3 (.bool (decide (st2 = some [])))
    have hgF := (gb_set_new (gb_set_new (gb_set_new (gb_set_new (gb_set_new H5.out.1 (p := ⟨w.heap.size + 1 + 1, 3, none⟩) (by simp; try omega) (.bool (decide (st2 = some [])))) (p := ⟨w.heap.size + 1, 0, none⟩) (by simp; try omega) (.int .i64 (((byteS st).1 : Nat) : Int))) (p := ⟨w.heap.size + 1, 1, none⟩) (by simp; try omega) (.slice none 0 0)) (p := ⟨w.heap.size + 1, 2, none⟩) (by simp; try omega) (.bool st2.isSome)) (p := ⟨w.heap.size + 1, 3, none⟩) (by simp; try omega) (.bool (decide (st2 = some []))))
    have hrF := (H5.out.2.1.beside s2 hT).beside (gb_set (gb_set (gb_set (gb_set (gb_refl _ (some (w.heap.size + 1))) 0 (.int .i64 (((byteS st).1 : Nat) : Int))) 1 (.slice none 0 0)) 2 (.bool st2.isSome)) 3 (.bool (decide (st2 = some [])))) hT1
    refine bodyPost_ret (v := toldV (((byteS st).1 : Nat) : Int) (.slice none 0 0) st2) (results_cell_row Tryz.results32 _ _ (w.heap.size + 1) 40 _ (0, 0) _ rfl hR Tryz.underlying40 rfl info_told) rfl ?_
    have hs : askS 0 most st = (((((byteS st).1 : Nat) : Int), ([] : List Nat)), st2) := by rw [← H4.out.2.2.2.2.1]; rfl
    rw [hs]
    exact ⟨_, rfl, hgF, hrF, World.ownsRow_nil _ _ _ 1⟩
  · go_enter Tryz.func32, Tryz.ntmps32
    go_wp2_with (fail)
    refine (HP.out _).mono ?_
    rintro e w' ⟨rfl, rfl⟩
    have HR3 := Lib.hid (want_base w sb st what most HR.out.1)
    generalize ((w.alloc (.cells #[.int .i64 what, .int .i64 most] 43)).alloc (.cells #[.int .i64 0, .slice none 0 0, .bool false, .bool false] 40)).alloc (.cells #[.int .i64 0, .slice none 0 0, .bool false, .bool false] 40) = w3 at *
    go_wp2_with (fail)
    refine (ref_number sb st _ (HR3.out.1.1)).mono ?_
    rintro e w4 ⟨rfl, hg4, hr4⟩
    obtain ⟨hb4, hz4, hg40⟩ := want_then HR3.out.1 hg4
    generalize hst : (numS st).2 = st2 at *
    have c0 := hz4.cell (i := 0) rfl; have c1 := hz4.cell (i := 1) rfl; have c2 := hz4.cell (i := 2) rfl; have c3 := hz4.cell (i := 3) rfl
    have f0 := hz4.free 0; have f1 := hz4.free 1; have f2 := hz4.free 2; have f3 := hz4.free 3
    have H4 := Lib.hid (And.intro hg40 (And.intro hr4 (And.intro hz4 (And.intro hb4 (And.intro hst trivial)))));  clear hg40 hr4 hz4 hb4 hst hg4
    have hT0 := HR3.out.1.2.2.2.2
    have hT : sb < w.heap.size + 1 + 1 := by omega
    have hT1 : sb < w.heap.size + 1 := by omega
    go_wp2_with (fail)
    refine (ref_good sb st2 _ (H4.out.2.1.beside (gb_set (gb_refl _ _) _ _) hT)).mono ?_
    rintro e w' ⟨rfl, rfl⟩
    go_wp2_with (fail)
    refine (ref_done sb st2 _ (H4.out.2.1.beside (gb_set (gb_set (gb_refl _ _) _ _) _ _) hT)).mono ?_
    rintro e w5 ⟨rfl, hg5⟩
    have H5 : Hid (w.grownBy w5 (some sb) ∧ RefS w5 sb st2 ∧ Blk w5 (w.heap.size + 1 + 1) 40 [.int .i64 (toI (numS st).1), (.slice none 0 0), (.bool st2.isSome), .bool false] ∧ Blk w5 (w.heap.size + 1) 40 [.int .i64 0, .slice none 0 0, .bool false, .bool false]) := by
      obtain ⟨hg40, hr4, hz4, hb4, _, _⟩ := H4.out
      have s1 := gb_set (gb_set (gb_refl w4 (some (w.heap.size + 1 + 1))) 0 (.int .i64 (toI (numS st).1))) 2 (.bool st2.isSome)
      exact ⟨gb_trans (gb_set_new (gb_set_new hg40 (p := ⟨w.heap.size + 1 + 1, 0, none⟩) (by simp; try omega) (.int .i64 (toI (numS st).1))) (p := ⟨w.heap.size + 1 + 1, 2, none⟩) (by simp; try omega) (.bool st2.isSome)) (gb_row hg5 _), (hr4.beside s1 hT).stay hg5, ((hz4.set 0 (.int .i64 (toI (numS st).1))).set 2 (.bool st2.isSome)).grown hg5 (by simp), ((hb4.other (a := ⟨w.heap.size + 1 + 1, 0, none⟩) (by simp) (.int .i64 (toI (numS st).1))).other (a := ⟨w.heap.size + 1 + 1, 2, none⟩) (by simp) (.bool st2.isSome)).grown hg5 (by simp)⟩
    clear c0 c1 c2 c3 f0 f1 f2 f3 hg5
    have hz5 := H5.out.2.2.1
    have hb5 := H5.out.2.2.2
    have c0 := hz5.cell (i := 0) rfl; have c1 := hz5.cell (i := 1) rfl; have c2 := hz5.cell (i := 2) rfl; have c3 := hz5.cell (i := 3) rfl
    have f0 := hz5.free 0; have f1 := hz5.free 1; have f2 := hz5.free 2; have f3 := hz5.free 3
    have e0 := hb5.cell (i := 0) rfl; have e1 := hb5.cell (i := 1) rfl; have e2 := hb5.cell (i := 2) rfl; have e3 := hb5.cell (i := 3) rfl
    have d0 := hb5.free 0; have d1 := hb5.free 1; have d2 := hb5.free 2; have d3 := hb5.free 3
    clear hz5 hb5
    go_wp2_with (fail)
    have hz5 := H5.out.2.2.1
    have hb5 := H5.out.2.2.2
    have s2 := gb_set (gb_refl w5 (some (w.heap.size + 1 + 1))) 3 (.bool (decide (st2 = some [])))
    have hR := ((((hb5.other (a := ⟨w.heap.size + 1 + 1, 3, none⟩) (by simp) (.bool (decide (st2 = some [])))).set 0 (.int .i64 (toI (numS st).1))).set 1 (.slice none 0 0)).set 2 (.bool st2.isSome)).set 3 (.bool (decide (st2 = some [])))
    have hgF := (gb_set_new (gb_set_new (gb_set_new (gb_set_new (gb_set_new H5.out.1 (p := ⟨w.heap.size + 1 + 1, 3, none⟩) (by simp; try omega) (.bool (decide (st2 = some [])))) (p := ⟨w.heap.size + 1, 0, none⟩) (by simp; try omega) (.int .i64 (toI (numS st).1))) (p := ⟨w.heap.size + 1, 1, none⟩) (by simp; try omega) (.slice none 0 0)) (p := ⟨w.heap.size + 1, 2, none⟩) (by simp; try omega) (.bool st2.isSome)) (p := ⟨w.heap.size + 1, 3, none⟩) (by simp; try omega) (.bool (decide (st2 = some []))))
    have hrF := (H5.out.2.1.beside s2 hT).beside (gb_set (gb_set (gb_set (gb_set (gb_refl _ (some (w.heap.size + 1))) 0 (.int .i64 (toI (numS st).1))) 1 (.slice none 0 0)) 2 (.bool st2.isSome)) 3 (.bool (decide (st2 = some [])))) hT1
    refine bodyPost_ret (v := toldV (toI (numS st).1) (.slice none 0 0) st2) (results_cell_row Tryz.results32 _ _ (w.heap.size + 1) 40 _ (0, 0) _ rfl hR Tryz.underlying40 rfl info_told) rfl ?_
    have hs : askS 1 most st = ((toI (numS st).1, ([] : List Nat)), st2) := by rw [← H4.out.2.2.2.2.1]; rfl
    rw [hs]
    exact ⟨_, rfl, hgF, hrF, World.ownsRow_nil _ _ _ 1⟩
  · go_enter Tryz.func32, Tryz.ntmps32
    go_wp2_with (fail)
    refine (HP.out _).mono ?_
    rintro e w' ⟨rfl, rfl⟩
    have HR3 := Lib.hid (want_base w sb st what most HR.out.1)
    generalize ((w.alloc (.cells #[.int .i64 what, .int .i64 most] 43)).alloc (.cells #[.int .i64 0, .slice none 0 0, .bool false, .bool false] 40)).alloc (.cells #[.int .i64 0, .slice none 0 0, .bool false, .bool false] 40) = w3 at *
    have ca := HR3.out.2.cell (i := 1) rfl
    go_wp2_with (fail)
    refine (ref_bytes sb most st _ (HR3.out.1.1)).mono ?_
    rintro e w4 ⟨v, rfl, hg4, hr4, ho4⟩
    obtain ⟨a, c, rfl⟩ := own_shape3 ho4
    obtain ⟨x, hx⟩ : ∃ x, x = (bytesS most st).1.length := ⟨_, rfl⟩
    rw [← hx] at ho4 ⊢
    have HX := Lib.hid hx; clear hx
    obtain ⟨hb4, hz4, hg40⟩ := want_then HR3.out.1 hg4
    generalize hst : (bytesS most st).2 = st2 at hr4
    have c0 := hz4.cell (i := 0) rfl; have c1 := hz4.cell (i := 1) rfl; have c2 := hz4.cell (i := 2) rfl; have c3 := hz4.cell (i := 3) rfl
    have f0 := hz4.free 0; have f1 := hz4.free 1; have f2 := hz4.free 2; have f3 := hz4.free 3
    have H4 := Lib.hid (And.intro hg40 (And.intro hr4 (And.intro hz4 (And.intro hb4 (And.intro hst ho4)))));  clear hg40 hr4 hz4 hb4 hst hg4 ho4
    have hT0 := HR3.out.1.2.2.2.2
    have hT : sb < w.heap.size + 1 + 1 := by omega
    have hT1 : sb < w.heap.size + 1 := by omega
    go_wp2_with (fail)
    refine (ref_good sb st2 _ (H4.out.2.1.beside (gb_set (gb_refl _ _) _ _) hT)).mono ?_
    rintro e w' ⟨rfl, rfl⟩
    go_wp2_with (fail)
    refine (ref_done sb st2 _ (H4.out.2.1.beside (gb_set (gb_set (gb_refl _ _) _ _) _ _) hT)).mono ?_
    rintro e w5 ⟨rfl, hg5⟩
    have H5 : Hid (w.grownBy w5 (some sb) ∧ RefS w5 sb st2 ∧ Blk w5 (w.heap.size + 1 + 1) 40 [.int .i64 0, (.slice a x c), (.bool st2.isSome), .bool false] ∧ Blk w5 (w.heap.size + 1) 40 [.int .i64 0, .slice none 0 0, .bool false, .bool false] ∧ w5.ownsRow w3.heap.size 5 1 (.slice a x c) x ((bytesS most st).1.map u8N)) := by
      obtain ⟨hg40, hr4, hz4, hb4, _, ho4⟩ := H4.out
      have s1 := gb_set (gb_set (gb_refl w4 (some (w.heap.size + 1 + 1))) 1 (.slice a x c)) 2 (.bool st2.isSome)
      have hBT := HR3.out.1.2.2.1.lt
      exact ⟨gb_trans (gb_set_new (gb_set_new hg40 (p := ⟨w.heap.size + 1 + 1, 1, none⟩) (by simp; try omega) (.slice a x c)) (p := ⟨w.heap.size + 1 + 1, 2, none⟩) (by simp; try omega) (.bool st2.isSome)) (gb_row hg5 _), (hr4.beside s1 hT).stay hg5, ((hz4.set 1 (.slice a x c)).set 2 (.bool st2.isSome)).grown hg5 (by simp), ((hb4.other (a := ⟨w.heap.size + 1 + 1, 1, none⟩) (by simp) (.slice a x c)).other (a := ⟨w.heap.size + 1 + 1, 2, none⟩) (by simp) (.bool st2.isSome)).grown hg5 (by simp), own_kept (own_beside ho4 s1 hBT) hg5⟩
    clear c0 c1 c2 c3 f0 f1 f2 f3 hg5
    have hz5 := H5.out.2.2.1
    have hb5 := H5.out.2.2.2.1
    have c0 := hz5.cell (i := 0) rfl; have c1 := hz5.cell (i := 1) rfl; have c2 := hz5.cell (i := 2) rfl; have c3 := hz5.cell (i := 3) rfl
    have f0 := hz5.free 0; have f1 := hz5.free 1; have f2 := hz5.free 2; have f3 := hz5.free 3
    have e0 := hb5.cell (i := 0) rfl; have e1 := hb5.cell (i := 1) rfl; have e2 := hb5.cell (i := 2) rfl; have e3 := hb5.cell (i := 3) rfl
    have d0 := hb5.free 0; have d1 := hb5.free 1; have d2 := hb5.free 2; have d3 := hb5.free 3
    clear hz5 hb5
    go_wp2_with (fail)
    have hz5 := H5.out.2.2.1
    have hb5 := H5.out.2.2.2.1
    have s2 := gb_set (gb_refl w5 (some (w.heap.size + 1 + 1))) 3 (.bool (decide (st2 = some [])))
    have hR := ((((hb5.other (a := ⟨w.heap.size + 1 + 1, 3, none⟩) (by simp) (.bool (decide (st2 = some [])))).set 0 (.int .i64 0)).set 1 (.slice a x c)).set 2 (.bool st2.isSome)).set 3 (.bool (decide (st2 = some [])))
    have hgF := (gb_set_new (gb_set_new (gb_set_new (gb_set_new (gb_set_new H5.out.1 (p := ⟨w.heap.size + 1 + 1, 3, none⟩) (by simp; try omega) (.bool (decide (st2 = some [])))) (p := ⟨w.heap.size + 1, 0, none⟩) (by simp; try omega) (.int .i64 0)) (p := ⟨w.heap.size + 1, 1, none⟩) (by simp; try omega) (.slice a x c)) (p := ⟨w.heap.size + 1, 2, none⟩) (by simp; try omega) (.bool st2.isSome)) (p := ⟨w.heap.size + 1, 3, none⟩) (by simp; try omega) (.bool (decide (st2 = some []))))
    have hrF := (H5.out.2.1.beside s2 hT).beside (gb_set (gb_set (gb_set (gb_set (gb_refl _ (some (w.heap.size + 1))) 0 (.int .i64 0)) 1 (.slice a x c)) 2 (.bool st2.isSome)) 3 (.bool (decide (st2 = some [])))) hT1
    have hBT := HR3.out.1.2.2.1.lt
    have hoF := own_down (own_beside (own_beside H5.out.2.2.2.2 s2 hBT) (gb_set (gb_set (gb_set (gb_set (gb_refl _ (some (w.heap.size + 1))) 0 (.int .i64 0)) 1 (.slice a x c)) 2 (.bool st2.isSome)) 3 (.bool (decide (st2 = some [])))) (by omega)) HR3.out.1.2.2.2.1.size
    refine bodyPost_ret (v := toldV 0 (.slice a x c) st2) (results_cell_row Tryz.results32 _ _ (w.heap.size + 1) 40 _ (0, 0) _ rfl hR Tryz.underlying40 rfl info_told) rfl ?_
    have hs : askS 2 most st = (((0 : Int), (bytesS most st).1), st2) := by rw [← H4.out.2.2.2.2.1]; rfl
    rw [hs]
    exact ⟨_, rfl, hgF, hrF, by rw [← HX.out]; exact hoF⟩
  · go_enter Tryz.func32, Tryz.ntmps32
    go_wp2_with (fail)
    refine (HP.out _).mono ?_
    rintro e w' ⟨rfl, rfl⟩
    have HR3 := Lib.hid (want_base w sb st what most HR.out.1)
    generalize ((w.alloc (.cells #[.int .i64 what, .int .i64 most] 43)).alloc (.cells #[.int .i64 0, .slice none 0 0, .bool false, .bool false] 40)).alloc (.cells #[.int .i64 0, .slice none 0 0, .bool false, .bool false] 40) = w3 at *
    have ca := HR3.out.2.cell (i := 1) rfl
    go_wp2_with (fail)
    refine (ref_count sb most st _ (HR3.out.1.1)).mono ?_
    rintro e w4 ⟨rfl, hg4, hr4⟩
    obtain ⟨hb4, hz4, hg40⟩ := want_then HR3.out.1 hg4
    generalize hst : (countS most st).2 = st2 at *
    have c0 := hz4.cell (i := 0) rfl; have c1 := hz4.cell (i := 1) rfl; have c2 := hz4.cell (i := 2) rfl; have c3 := hz4.cell (i := 3) rfl
    have f0 := hz4.free 0; have f1 := hz4.free 1; have f2 := hz4.free 2; have f3 := hz4.free 3
    have H4 := Lib.hid (And.intro hg40 (And.intro hr4 (And.intro hz4 (And.intro hb4 (And.intro hst trivial)))));  clear hg40 hr4 hz4 hb4 hst hg4
    have hT0 := HR3.out.1.2.2.2.2
    have hT : sb < w.heap.size + 1 + 1 := by omega
    have hT1 : sb < w.heap.size + 1 := by omega
    go_wp2_with (fail)
    refine (ref_good sb st2 _ (H4.out.2.1.beside (gb_set (gb_refl _ _) _ _) hT)).mono ?_
    rintro e w' ⟨rfl, rfl⟩
    go_wp2_with (fail)
    refine (ref_done sb st2 _ (H4.out.2.1.beside (gb_set (gb_set (gb_refl _ _) _ _) _ _) hT)).mono ?_
    rintro e w5 ⟨rfl, hg5⟩
    have H5 : Hid (w.grownBy w5 (some sb) ∧ RefS w5 sb st2 ∧ Blk w5 (w.heap.size + 1 + 1) 40 [.int .i64 (countS most st).1, (.slice none 0 0), (.bool st2.isSome), .bool false] ∧ Blk w5 (w.heap.size + 1) 40 [.int .i64 0, .slice none 0 0, .bool false, .bool false]) := by
      obtain ⟨hg40, hr4, hz4, hb4, _, _⟩ := H4.out
      have s1 := gb_set (gb_set (gb_refl w4 (some (w.heap.size + 1 + 1))) 0 (.int .i64 (countS most st).1)) 2 (.bool st2.isSome)
      exact ⟨gb_trans (gb_set_new (gb_set_new hg40 (p := ⟨w.heap.size + 1 + 1, 0, none⟩) (by simp; try omega) (.int .i64 (countS most st).1)) (p := ⟨w.heap.size + 1 + 1, 2, none⟩) (by simp; try omega) (.bool st2.isSome)) (gb_row hg5 _), (hr4.beside s1 hT).stay hg5, ((hz4.set 0 (.int .i64 (countS most st).1)).set 2 (.bool st2.isSome)).grown hg5 (by simp), ((hb4.other (a := ⟨w.heap.size + 1 + 1, 0, none⟩) (by simp) (.int .i64 (countS most st).1)).other (a := ⟨w.heap.size + 1 + 1, 2, none⟩) (by simp) (.bool st2.isSome)).grown hg5 (by simp)⟩
    clear c0 c1 c2 c3 f0 f1 f2 f3 hg5
    have hz5 := H5.out.2.2.1
    have hb5 := H5.out.2.2.2
    have c0 := hz5.cell (i := 0) rfl; have c1 := hz5.cell (i := 1) rfl; have c2 := hz5.cell (i := 2) rfl; have c3 := hz5.cell (i := 3) rfl
    have f0 := hz5.free 0; have f1 := hz5.free 1; have f2 := hz5.free 2; have f3 := hz5.free 3
    have e0 := hb5.cell (i := 0) rfl; have e1 := hb5.cell (i := 1) rfl; have e2 := hb5.cell (i := 2) rfl; have e3 := hb5.cell (i := 3) rfl
    have d0 := hb5.free 0; have d1 := hb5.free 1; have d2 := hb5.free 2; have d3 := hb5.free 3
    clear hz5 hb5
    go_wp2_with (fail)
    have hz5 := H5.out.2.2.1
    have hb5 := H5.out.2.2.2
    have s2 := gb_set (gb_refl w5 (some (w.heap.size + 1 + 1))) 3 (.bool (decide (st2 = some [])))
    have hR := ((((hb5.other (a := ⟨w.heap.size + 1 + 1, 3, none⟩) (by simp) (.bool (decide (st2 = some [])))).set 0 (.int .i64 (countS most st).1)).set 1 (.slice none 0 0)).set 2 (.bool st2.isSome)).set 3 (.bool (decide (st2 = some [])))
    have hgF := (gb_set_new (gb_set_new (gb_set_new (gb_set_new (gb_set_new H5.out.1 (p := ⟨w.heap.size + 1 + 1, 3, none⟩) (by simp; try omega) (.bool (decide (st2 = some [])))) (p := ⟨w.heap.size + 1, 0, none⟩) (by simp; try omega) (.int .i64 (countS most st).1)) (p := ⟨w.heap.size + 1, 1, none⟩) (by simp; try omega) (.slice none 0 0)) (p := ⟨w.heap.size + 1, 2, none⟩) (by simp; try omega) (.bool st2.isSome)) (p := ⟨w.heap.size + 1, 3, none⟩) (by simp; try omega) (.bool (decide (st2 = some []))))
    have hrF := (H5.out.2.1.beside s2 hT).beside (gb_set (gb_set (gb_set (gb_set (gb_refl _ (some (w.heap.size + 1))) 0 (.int .i64 (countS most st).1)) 1 (.slice none 0 0)) 2 (.bool st2.isSome)) 3 (.bool (decide (st2 = some [])))) hT1
    refine bodyPost_ret (v := toldV (countS most st).1 (.slice none 0 0) st2) (results_cell_row Tryz.results32 _ _ (w.heap.size + 1) 40 _ (0, 0) _ rfl hR Tryz.underlying40 rfl info_told) rfl ?_
    have hs : askS 3 most st = (((countS most st).1, ([] : List Nat)), st2) := by rw [← H4.out.2.2.2.2.1]; rfl
    rw [hs]
    exact ⟨_, rfl, hgF, hrF, World.ownsRow_nil _ _ _ 1⟩
end Go.Proofs.YtlkiancedgaicaaGreat
