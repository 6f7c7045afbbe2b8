/- wire's laws: what a reader tells to an ask. -/
import Derived.Test.YtlkiancedgaicaaGreatWiCalls
import Derived.Test.YtlkiancedgaicaaGreatWiDone
import Derived.Test.YtlkiancedgaicaaGreatWiPick
namespace Go.Proofs.YtlkiancedgaicaaGreat
open Go.RowKit Ow Wi

/-- what an ask tells, and what is left behind it; k: what is asked -/
def askS (k : Nat) (most : Int) (st : St) : (Int × List Nat) × St :=
  match k with
  | 0 => ((((byteS st).1 : Nat), []), (byteS st).2)
  | 1 => ((toI (numS st).1, []), (numS st).2)
  | 2 => ((0, (bytesS most st).1), (bytesS most st).2)
  | _ => (((countS most st).1, []), (countS most st).2)
/-- what is told, as a value -/
def toldV (n : Int) (v : Value) (st : St) : Value := .agg #[.int .i64 n, v, .bool st.isSome, .bool (decide (st = some []))]
/-- the boxes of an ask, of what is told, and of the result -/
theorem asked_base (w : World) (rb : Nat) (st : St) (what most : Int) (h : RdS w rb st) :
    (RdS (((w.alloc (.cells #[.int .i64 what, .int .i64 most] 43)).alloc (.cells #[.int .i64 0, .slice none 0 0, .bool false, .bool false] 40)).alloc (.cells #[.int .i64 0, .slice none 0 0, .bool false, .bool false] 40)) rb st ∧
    Blk (((w.alloc (.cells #[.int .i64 what, .int .i64 most] 43)).alloc (.cells #[.int .i64 0, .slice none 0 0, .bool false, .bool false] 40)).alloc (.cells #[.int .i64 0, .slice none 0 0, .bool false, .bool false] 40)) (w.heap.size + 1) 40 [.int .i64 0, .slice none 0 0, .bool false, .bool false] ∧
    Blk (((w.alloc (.cells #[.int .i64 what, .int .i64 most] 43)).alloc (.cells #[.int .i64 0, .slice none 0 0, .bool false, .bool false] 40)).alloc (.cells #[.int .i64 0, .slice none 0 0, .bool false, .bool false] 40)) (w.heap.size + 1 + 1) 40 [.int .i64 0, .slice none 0 0, .bool false, .bool false] ∧
    w.grownBy (((w.alloc (.cells #[.int .i64 what, .int .i64 most] 43)).alloc (.cells #[.int .i64 0, .slice none 0 0, .bool false, .bool false] 40)).alloc (.cells #[.int .i64 0, .slice none 0 0, .bool false, .bool false] 40)) none ∧ rb < w.heap.size) ∧ Blk (((w.alloc (.cells #[.int .i64 what, .int .i64 most] 43)).alloc (.cells #[.int .i64 0, .slice none 0 0, .bool false, .bool false] 40)).alloc (.cells #[.int .i64 0, .slice none 0 0, .bool false, .bool false] 40)) w.heap.size 43 [.int .i64 what, .int .i64 most] := by
  have g1 := gb_alloc (gb_alloc (gb_alloc (gb_refl w none) (.cells #[.int .i64 what, .int .i64 most] 43)) (.cells #[.int .i64 0, .slice none 0 0, .bool false, .bool false] 40)) (.cells #[.int .i64 0, .slice none 0 0, .bool false, .bool false] 40)
  refine ⟨⟨h.stay g1, ?_, ?_, g1, h.lt⟩, ((Blk.new w [.int .i64 what, .int .i64 most] 43).alloc _).alloc _⟩
  · have h1 := Blk.new (w.alloc (.cells #[.int .i64 what, .int .i64 most] 43)) [.int .i64 0, .slice none 0 0, .bool false, .bool false] 40
    rw [World.size_alloc] at h1
    exact h1.alloc _
  · have h1 := Blk.new ((w.alloc (.cells #[.int .i64 what, .int .i64 most] 43)).alloc (.cells #[.int .i64 0, .slice none 0 0, .bool false, .bool false] 40)) [.int .i64 0, .slice none 0 0, .bool false, .bool false] 40
    rw [World.size_alloc, World.size_alloc] at h1
    exact h1
theorem asked_then {w w3 w4 : World} {rb : Nat} {st : St} {L M : List Value} {T U : TypeId} (h : RdS w3 rb st ∧ Blk w3 (w.heap.size + 1) T L ∧ Blk w3 (w.heap.size + 1 + 1) U M ∧ w.grownBy w3 none ∧ rb < w.heap.size) (hg : w3.grownBy w4 (some rb)) :
    Blk w4 (w.heap.size + 1) T L ∧ Blk w4 (w.heap.size + 1 + 1) U M ∧ w.grownBy w4 (some rb) :=
  ⟨h.2.1.grown hg (by have := h.2.2.2.2; simp; omega), h.2.2.1.grown hg (by have := h.2.2.2.2; simp; omega), gb_trans (gb_row h.2.2.2.1 _) hg⟩

theorem info_told : (Tryz.prog.info? 40).map (·.size) = some 4 := by kernel_rfl
theorem own_beside {w w' : World} {base e n T : Nat} {v : Value} {xs : List Value} (h : w.ownsRow base e 1 v n xs) (hg : w.grownBy w' (some T)) (hT : T < base) : w'.ownsRow base e 1 v n xs := by
  refine ⟨h.1, ?_⟩
  rcases h.2 with h0 | ⟨g, c, cur, e1, h1, h2, h3⟩
  · exact Or.inl h0
  · exact Or.inr ⟨g, c, cur, e1, h1, by rw [hg.block g (Array.getElem?_eq_some_iff.1 h2).1 (by simp; omega)]; exact h2, h3⟩
set_option maxRecDepth 100000 in
set_option maxHeartbeats 4000000 in
theorem asked_any (rb : Nat) (what most : Int) (st : St) (k : Nat) (w : World) (h : RdS w rb st) (hl : ∀ l, st = some l → l.length ≤ 1000000) (h1 : -9223372036854775808 ≤ what) (h2 : what ≤ 9223372036854775807) (hk : what % 4 = k) :
    Calls Tryz.prog 31 #[.pointer (some ⟨rb, 0, none⟩), .agg #[.int .i64 what, .int .i64 most]] w fun e w' => ∃ v, e = .returned (toldV (askS k most st).1.1 v (askS k most st).2) ∧ w.grownBy w' (some rb) ∧ RdS w' rb (askS k most st).2 ∧ w'.ownsRow w.heap.size 5 1 v (askS k most st).1.2.length ((askS k most st).1.2.map u8N) := by
  have hk4 : k < 4 := by omega
  have HP := Lib.hid (fun (W : World) => pick_is what 4 W (by decide) (by decide) h1 h2)
  rw [hk] at HP
  have HR := Lib.hid (And.intro h hl); clear h hl h1 h2 hk
  obtain rfl | rfl | rfl | rfl : k = 0 ∨ k = 1 ∨ k = 2 ∨ k = 3 := by omega
  · go_enter Tryz.func31, Tryz.ntmps31
    go_wp2_with (fail)
    refine (HP.out _).mono ?_
    rintro e w' ⟨rfl, rfl⟩
    have HR3 := Lib.hid (asked_base w rb st what most HR.out.1)
    have hlt := tellsU_lt rb 1 st w HR.out.1
    have hwr : IntKind.i64.wrap (((byteS st).1 : Nat) : Int) = (((byteS st).1 : Nat) : Int) := IntWalk.i64_in _ (by have h2 : (byteS st).1 < 256 := hlt; omega)
    clear hlt
    generalize ((w.alloc (.cells #[.int .i64 what, .int .i64 most] 43)).alloc (.cells #[.int .i64 0, .slice none 0 0, .bool false, .bool false] 40)).alloc (.cells #[.int .i64 0, .slice none 0 0, .bool false, .bool false] 40) = w3 at *
    go_wp2_with (fail)
    refine (byte_any rb st _ (HR3.out.1.1)).mono ?_
    rintro e w4 ⟨rfl, hg4, hr4⟩
    obtain ⟨hb4, hz4, hg40⟩ := asked_then HR3.out.1 hg4
    generalize hst : (byteS st).2 = st2 at *
    have c0 := hz4.cell (i := 0) rfl; have c1 := hz4.cell (i := 1) rfl; have c2 := hz4.cell (i := 2) rfl; have c3 := hz4.cell (i := 3) rfl
    have f0 := hz4.free 0; have f1 := hz4.free 1; have f2 := hz4.free 2; have f3 := hz4.free 3
    have e0 := hb4.cell (i := 0) rfl; have e1 := hb4.cell (i := 1) rfl; have e2 := hb4.cell (i := 2) rfl; have e3 := hb4.cell (i := 3) rfl
    have d0 := hb4.free 0; have d1 := hb4.free 1; have d2 := hb4.free 2; have d3 := hb4.free 3
    have H4 := Lib.hid (And.intro hg40 (And.intro hr4 (And.intro hz4 (And.intro hb4 hst)))); clear hg40 hr4 hz4 hb4 hst hg4
    have hT0 := HR3.out.1.2.2.2.2
    have hT : rb < w.heap.size + 1 + 1 := by omega
    go_wp2_with (fail)
    refine (wgood_any rb st2 _ (H4.out.2.1.beside (gb_set (gb_refl _ _) _ _) hT)).mono ?_
    rintro e w' ⟨rfl, rfl⟩
    go_wp2_with (fail)
    refine (done_any rb st2 _ (H4.out.2.1.beside (gb_set (gb_set (gb_refl _ _) _ _) _ _) hT)).mono ?_
    rintro e w' ⟨rfl, rfl⟩
    go_wp2_with (fail)
    obtain ⟨hg40, hr4, hz4, hb4, hst⟩ := H4.out
    have s1 := (gb_set (gb_set (gb_set (gb_refl w4 (some (w.heap.size + 1 + 1))) 0 (.int .i64 (((byteS st).1 : Nat) : Int))) 2 (.bool st2.isSome)) 3 (.bool (decide (st2 = some []))))
    have hR := ((((((hb4.other (a := ⟨w.heap.size + 1 + 1, 0, none⟩) (by simp) (.int .i64 (((byteS st).1 : Nat) : Int))).other (a := ⟨w.heap.size + 1 + 1, 2, none⟩) (by simp) (.bool st2.isSome)).other (a := ⟨w.heap.size + 1 + 1, 3, none⟩) (by simp) (.bool (decide (st2 = some [])))).set 0 (.int .i64 (((byteS st).1 : Nat) : Int))).set 1 (.slice none 0 0)).set 2 (.bool st2.isSome)).set 3 (.bool (decide (st2 = some [])))
    have hgF := (gb_set_new (gb_set_new (gb_set_new (gb_set_new (gb_set_new (gb_set_new (gb_set_new hg40 (p := ⟨w.heap.size + 1 + 1, 0, none⟩) (by simp; try omega) (.int .i64 (((byteS st).1 : Nat) : Int))) (p := ⟨w.heap.size + 1 + 1, 2, none⟩) (by simp; try omega) (.bool st2.isSome)) (p := ⟨w.heap.size + 1 + 1, 3, none⟩) (by simp; try omega) (.bool (decide (st2 = some [])))) (p := ⟨w.heap.size + 1, 0, none⟩) (by simp; try omega) (.int .i64 (((byteS st).1 : Nat) : Int))) (p := ⟨w.heap.size + 1, 1, none⟩) (by simp; try omega) (.slice none 0 0)) (p := ⟨w.heap.size + 1, 2, none⟩) (by simp; try omega) (.bool st2.isSome)) (p := ⟨w.heap.size + 1, 3, none⟩) (by simp; try omega) (.bool (decide (st2 = some []))))
    have hrF := (hr4.beside s1 hT).beside (gb_set (gb_set (gb_set (gb_set (gb_refl _ (some (w.heap.size + 1))) 0 (.int .i64 (((byteS st).1 : Nat) : Int))) 1 (.slice none 0 0)) 2 (.bool st2.isSome)) 3 (.bool (decide (st2 = some [])))) (by omega)
    refine bodyPost_ret (v := toldV (((byteS st).1 : Nat) : Int) (.slice none 0 0) st2) (results_cell_row Tryz.results31 _ _ (w.heap.size + 1) 40 _ (0, 0) _ rfl hR Tryz.underlying40 rfl info_told) rfl ?_
    have hs : askS 0 most st = (((((byteS st).1 : Nat) : Int), ([] : List Nat)), st2) := by rw [← hst]; rfl
    rw [hs]
    exact ⟨_, rfl, hgF, hrF, World.ownsRow_nil _ _ _ 1⟩
  · go_enter Tryz.func31, Tryz.ntmps31
    go_wp2_with (fail)
    refine (HP.out _).mono ?_
    rintro e w' ⟨rfl, rfl⟩
    have HR3 := Lib.hid (asked_base w rb st what most HR.out.1)
    generalize ((w.alloc (.cells #[.int .i64 what, .int .i64 most] 43)).alloc (.cells #[.int .i64 0, .slice none 0 0, .bool false, .bool false] 40)).alloc (.cells #[.int .i64 0, .slice none 0 0, .bool false, .bool false] 40) = w3 at *
    go_wp2_with (fail)
    refine (number_any rb st _ (HR3.out.1.1)).mono ?_
    rintro e w4 ⟨rfl, hg4, hr4⟩
    obtain ⟨hb4, hz4, hg40⟩ := asked_then HR3.out.1 hg4
    generalize hst : (numS st).2 = st2 at *
    have c0 := hz4.cell (i := 0) rfl; have c1 := hz4.cell (i := 1) rfl; have c2 := hz4.cell (i := 2) rfl; have c3 := hz4.cell (i := 3) rfl
    have f0 := hz4.free 0; have f1 := hz4.free 1; have f2 := hz4.free 2; have f3 := hz4.free 3
    have e0 := hb4.cell (i := 0) rfl; have e1 := hb4.cell (i := 1) rfl; have e2 := hb4.cell (i := 2) rfl; have e3 := hb4.cell (i := 3) rfl
    have d0 := hb4.free 0; have d1 := hb4.free 1; have d2 := hb4.free 2; have d3 := hb4.free 3
    have H4 := Lib.hid (And.intro hg40 (And.intro hr4 (And.intro hz4 (And.intro hb4 hst)))); clear hg40 hr4 hz4 hb4 hst hg4
    have hT0 := HR3.out.1.2.2.2.2
    have hT : rb < w.heap.size + 1 + 1 := by omega
    go_wp2_with (fail)
    refine (wgood_any rb st2 _ (H4.out.2.1.beside (gb_set (gb_refl _ _) _ _) hT)).mono ?_
    rintro e w' ⟨rfl, rfl⟩
    go_wp2_with (fail)
    refine (done_any rb st2 _ (H4.out.2.1.beside (gb_set (gb_set (gb_refl _ _) _ _) _ _) hT)).mono ?_
    rintro e w' ⟨rfl, rfl⟩
    go_wp2_with (fail)
    obtain ⟨hg40, hr4, hz4, hb4, hst⟩ := H4.out
    have s1 := (gb_set (gb_set (gb_set (gb_refl w4 (some (w.heap.size + 1 + 1))) 0 (.int .i64 (toI (numS st).1))) 2 (.bool st2.isSome)) 3 (.bool (decide (st2 = some []))))
    have hR := ((((((hb4.other (a := ⟨w.heap.size + 1 + 1, 0, none⟩) (by simp) (.int .i64 (toI (numS st).1))).other (a := ⟨w.heap.size + 1 + 1, 2, none⟩) (by simp) (.bool st2.isSome)).other (a := ⟨w.heap.size + 1 + 1, 3, none⟩) (by simp) (.bool (decide (st2 = some [])))).set 0 (.int .i64 (toI (numS st).1))).set 1 (.slice none 0 0)).set 2 (.bool st2.isSome)).set 3 (.bool (decide (st2 = some [])))
    have hgF := (gb_set_new (gb_set_new (gb_set_new (gb_set_new (gb_set_new (gb_set_new (gb_set_new hg40 (p := ⟨w.heap.size + 1 + 1, 0, none⟩) (by simp; try omega) (.int .i64 (toI (numS st).1))) (p := ⟨w.heap.size + 1 + 1, 2, none⟩) (by simp; try omega) (.bool st2.isSome)) (p := ⟨w.heap.size + 1 + 1, 3, none⟩) (by simp; try omega) (.bool (decide (st2 = some [])))) (p := ⟨w.heap.size + 1, 0, none⟩) (by simp; try omega) (.int .i64 (toI (numS st).1))) (p := ⟨w.heap.size + 1, 1, none⟩) (by simp; try omega) (.slice none 0 0)) (p := ⟨w.heap.size + 1, 2, none⟩) (by simp; try omega) (.bool st2.isSome)) (p := ⟨w.heap.size + 1, 3, none⟩) (by simp; try omega) (.bool (decide (st2 = some []))))
    have hrF := (hr4.beside s1 hT).beside (gb_set (gb_set (gb_set (gb_set (gb_refl _ (some (w.heap.size + 1))) 0 (.int .i64 (toI (numS st).1))) 1 (.slice none 0 0)) 2 (.bool st2.isSome)) 3 (.bool (decide (st2 = some [])))) (by omega)
    refine bodyPost_ret (v := toldV (toI (numS st).1) (.slice none 0 0) st2) (results_cell_row Tryz.results31 _ _ (w.heap.size + 1) 40 _ (0, 0) _ rfl hR Tryz.underlying40 rfl info_told) rfl ?_
    have hs : askS 1 most st = ((toI (numS st).1, ([] : List Nat)), st2) := by rw [← hst]; rfl
    rw [hs]
    exact ⟨_, rfl, hgF, hrF, World.ownsRow_nil _ _ _ 1⟩
  · go_enter Tryz.func31, Tryz.ntmps31
    go_wp2_with (fail)
    refine (HP.out _).mono ?_
    rintro e w' ⟨rfl, rfl⟩
    have HR3 := Lib.hid (asked_base w rb st what most HR.out.1)
    generalize ((w.alloc (.cells #[.int .i64 what, .int .i64 most] 43)).alloc (.cells #[.int .i64 0, .slice none 0 0, .bool false, .bool false] 40)).alloc (.cells #[.int .i64 0, .slice none 0 0, .bool false, .bool false] 40) = w3 at *
    have ca := HR3.out.2.cell (i := 1) rfl
    go_wp2_with (fail)
    refine (rbytes_any rb most st _ (HR3.out.1.1) HR.out.2).mono ?_
    rintro e w4 ⟨v, rfl, hg4, hr4, ho4⟩
    obtain ⟨a, c, rfl, _, _, _⟩ := own_slice ho4 (bytesS_lt HR.out.1 most)
    obtain ⟨x, hx⟩ : ∃ x, x = (bytesS most st).1.length := ⟨_, rfl⟩
    rw [← hx] at ho4 ⊢
    have HX := Lib.hid hx; clear hx
    obtain ⟨hb4, hz4, hg40⟩ := asked_then HR3.out.1 hg4
    generalize hst : (bytesS most st).2 = st2 at hr4
    have c0 := hz4.cell (i := 0) rfl; have c1 := hz4.cell (i := 1) rfl; have c2 := hz4.cell (i := 2) rfl; have c3 := hz4.cell (i := 3) rfl
    have f0 := hz4.free 0; have f1 := hz4.free 1; have f2 := hz4.free 2; have f3 := hz4.free 3
    have e0 := hb4.cell (i := 0) rfl; have e1 := hb4.cell (i := 1) rfl; have e2 := hb4.cell (i := 2) rfl; have e3 := hb4.cell (i := 3) rfl
    have d0 := hb4.free 0; have d1 := hb4.free 1; have d2 := hb4.free 2; have d3 := hb4.free 3
    have H4 := Lib.hid (And.intro hg40 (And.intro hr4 (And.intro hz4 (And.intro hb4 (And.intro hst ho4))))); clear hg40 hr4 hz4 hb4 hst hg4 ho4
    have hT0 := HR3.out.1.2.2.2.2
    have hT : rb < w.heap.size + 1 + 1 := by omega
    go_wp2_with (fail)
    refine (wgood_any rb st2 _ (H4.out.2.1.beside (gb_set (gb_refl _ _) _ _) hT)).mono ?_
    rintro e w' ⟨rfl, rfl⟩
    go_wp2_with (fail)
    refine (done_any rb st2 _ (H4.out.2.1.beside (gb_set (gb_set (gb_refl _ _) _ _) _ _) hT)).mono ?_
    rintro e w' ⟨rfl, rfl⟩
    go_wp2_with (fail)
    obtain ⟨hg40, hr4, hz4, hb4, hst, ho4⟩ := H4.out
    have s1 := (gb_set (gb_set (gb_set (gb_refl w4 (some (w.heap.size + 1 + 1))) 1 (.slice a x c)) 2 (.bool st2.isSome)) 3 (.bool (decide (st2 = some []))))
    have hR := ((((((hb4.other (a := ⟨w.heap.size + 1 + 1, 1, none⟩) (by simp) (.slice a x c)).other (a := ⟨w.heap.size + 1 + 1, 2, none⟩) (by simp) (.bool st2.isSome)).other (a := ⟨w.heap.size + 1 + 1, 3, none⟩) (by simp) (.bool (decide (st2 = some [])))).set 0 (.int .i64 0)).set 1 (.slice a x c)).set 2 (.bool st2.isSome)).set 3 (.bool (decide (st2 = some [])))
    have hgF := (gb_set_new (gb_set_new (gb_set_new (gb_set_new (gb_set_new (gb_set_new (gb_set_new hg40 (p := ⟨w.heap.size + 1 + 1, 1, none⟩) (by simp; try omega) (.slice a x c)) (p := ⟨w.heap.size + 1 + 1, 2, none⟩) (by simp; try omega) (.bool st2.isSome)) (p := ⟨w.heap.size + 1 + 1, 3, none⟩) (by simp; try omega) (.bool (decide (st2 = some [])))) (p := ⟨w.heap.size + 1, 0, none⟩) (by simp; try omega) (.int .i64 0)) (p := ⟨w.heap.size + 1, 1, none⟩) (by simp; try omega) (.slice a x c)) (p := ⟨w.heap.size + 1, 2, none⟩) (by simp; try omega) (.bool st2.isSome)) (p := ⟨w.heap.size + 1, 3, none⟩) (by simp; try omega) (.bool (decide (st2 = some []))))
    have hrF := (hr4.beside s1 hT).beside (gb_set (gb_set (gb_set (gb_set (gb_refl _ (some (w.heap.size + 1))) 0 (.int .i64 0)) 1 (.slice a x c)) 2 (.bool st2.isSome)) 3 (.bool (decide (st2 = some [])))) (by omega)
    have hBT := HR3.out.1.2.2.1.lt
    have hoF := own_down (own_beside (own_beside ho4 s1 hBT) (gb_set (gb_set (gb_set (gb_set (gb_refl _ (some (w.heap.size + 1))) 0 (.int .i64 0)) 1 (.slice a x c)) 2 (.bool st2.isSome)) 3 (.bool (decide (st2 = some [])))) (by omega)) HR3.out.1.2.2.2.1.size
    refine bodyPost_ret (v := toldV 0 (.slice a x c) st2) (results_cell_row Tryz.results31 _ _ (w.heap.size + 1) 40 _ (0, 0) _ rfl hR Tryz.underlying40 rfl info_told) rfl ?_
    have hs : askS 2 most st = (((0 : Int), (bytesS most st).1), st2) := by rw [← hst]; rfl
    rw [hs]
    exact ⟨_, rfl, hgF, hrF, by rw [← HX.out]; exact hoF⟩
  · go_enter Tryz.func31, Tryz.ntmps31
    go_wp2_with (fail)
    refine (HP.out _).mono ?_
    rintro e w' ⟨rfl, rfl⟩
    have HR3 := Lib.hid (asked_base w rb st what most HR.out.1)
    generalize ((w.alloc (.cells #[.int .i64 what, .int .i64 most] 43)).alloc (.cells #[.int .i64 0, .slice none 0 0, .bool false, .bool false] 40)).alloc (.cells #[.int .i64 0, .slice none 0 0, .bool false, .bool false] 40) = w3 at *
    have ca := HR3.out.2.cell (i := 1) rfl
    go_wp2_with (fail)
    refine (rcount_any rb most st _ (HR3.out.1.1)).mono ?_
    rintro e w4 ⟨rfl, hg4, hr4⟩
    obtain ⟨hb4, hz4, hg40⟩ := asked_then HR3.out.1 hg4
    generalize hst : (countS most st).2 = st2 at *
    have c0 := hz4.cell (i := 0) rfl; have c1 := hz4.cell (i := 1) rfl; have c2 := hz4.cell (i := 2) rfl; have c3 := hz4.cell (i := 3) rfl
    have f0 := hz4.free 0; have f1 := hz4.free 1; have f2 := hz4.free 2; have f3 := hz4.free 3
    have e0 := hb4.cell (i := 0) rfl; have e1 := hb4.cell (i := 1) rfl; have e2 := hb4.cell (i := 2) rfl; have e3 := hb4.cell (i := 3) rfl
    have d0 := hb4.free 0; have d1 := hb4.free 1; have d2 := hb4.free 2; have d3 := hb4.free 3
    have H4 := Lib.hid (And.intro hg40 (And.intro hr4 (And.intro hz4 (And.intro hb4 hst)))); clear hg40 hr4 hz4 hb4 hst hg4
    have hT0 := HR3.out.1.2.2.2.2
    have hT : rb < w.heap.size + 1 + 1 := by omega
    go_wp2_with (fail)
    refine (wgood_any rb st2 _ (H4.out.2.1.beside (gb_set (gb_refl _ _) _ _) hT)).mono ?_
    rintro e w' ⟨rfl, rfl⟩
    go_wp2_with (fail)
    refine (done_any rb st2 _ (H4.out.2.1.beside (gb_set (gb_set (gb_refl _ _) _ _) _ _) hT)).mono ?_
    rintro e w' ⟨rfl, rfl⟩
    go_wp2_with (fail)
    obtain ⟨hg40, hr4, hz4, hb4, hst⟩ := H4.out
    have s1 := (gb_set (gb_set (gb_set (gb_refl w4 (some (w.heap.size + 1 + 1))) 0 (.int .i64 (countS most st).1)) 2 (.bool st2.isSome)) 3 (.bool (decide (st2 = some []))))
    have hR := ((((((hb4.other (a := ⟨w.heap.size + 1 + 1, 0, none⟩) (by simp) (.int .i64 (countS most st).1)).other (a := ⟨w.heap.size + 1 + 1, 2, none⟩) (by simp) (.bool st2.isSome)).other (a := ⟨w.heap.size + 1 + 1, 3, none⟩) (by simp) (.bool (decide (st2 = some [])))).set 0 (.int .i64 (countS most st).1)).set 1 (.slice none 0 0)).set 2 (.bool st2.isSome)).set 3 (.bool (decide (st2 = some [])))
    have hgF := (gb_set_new (gb_set_new (gb_set_new (gb_set_new (gb_set_new (gb_set_new (gb_set_new hg40 (p := ⟨w.heap.size + 1 + 1, 0, none⟩) (by simp; try omega) (.int .i64 (countS most st).1)) (p := ⟨w.heap.size + 1 + 1, 2, none⟩) (by simp; try omega) (.bool st2.isSome)) (p := ⟨w.heap.size + 1 + 1, 3, none⟩) (by simp; try omega) (.bool (decide (st2 = some [])))) (p := ⟨w.heap.size + 1, 0, none⟩) (by simp; try omega) (.int .i64 (countS most st).1)) (p := ⟨w.heap.size + 1, 1, none⟩) (by simp; try omega) (.slice none 0 0)) (p := ⟨w.heap.size + 1, 2, none⟩) (by simp; try omega) (.bool st2.isSome)) (p := ⟨w.heap.size + 1, 3, none⟩) (by simp; try omega) (.bool (decide (st2 = some []))))
    have hrF := (hr4.beside s1 hT).beside (gb_set (gb_set (gb_set (gb_set (gb_refl _ (some (w.heap.size + 1))) 0 (.int .i64 (countS most st).1)) 1 (.slice none 0 0)) 2 (.bool st2.isSome)) 3 (.bool (decide (st2 = some [])))) (by omega)
    refine bodyPost_ret (v := toldV (countS most st).1 (.slice none 0 0) st2) (results_cell_row Tryz.results31 _ _ (w.heap.size + 1) 40 _ (0, 0) _ rfl hR Tryz.underlying40 rfl info_told) rfl ?_
    have hs : askS 3 most st = (((countS most st).1, ([] : List Nat)), st2) := by rw [← hst]; rfl
    rw [hs]
    exact ⟨_, rfl, hgF, hrF, World.ownsRow_nil _ _ _ 1⟩
end Go.Proofs.YtlkiancedgaicaaGreat
