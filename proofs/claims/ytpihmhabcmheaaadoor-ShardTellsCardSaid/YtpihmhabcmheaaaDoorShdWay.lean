/- shard: the way of a digest. -/
import Derived.Test.YtpihmhabcmheaaaDoorShdPut
import Derived.Test.YtpihmhabcmheaaaDoorStr
namespace Go.Proofs.YtpihmhabcmheaaaDoor
open Go.RowKit Ow Go.Shelf
attribute [local go_sem] Oper.semAt_some
/-- what holds between two bits of a way -/
structure WyI (w0 : World) (G S M : Nat) (pre : List Bt) (W : World) : Prop where
  box : Blk W S 47 [.slice (some ⟨G, 0, none⟩) pre.length 510]
  row : W.ownsRow G 5 1 (.slice (some ⟨G, 0, none⟩) pre.length 510) pre.length ((signsL (pre.map (·.1))).map u8N)
  grown : w0.grownBy W none
  size : M ≤ W.heap.size
theorem own_from {w w' : World} {G base n c : Nat} {xs : List Value} {row : Option Nat} {m : Nat} (h : w.ownsRow base 5 1 (.slice (some ⟨G, 0, none⟩) n c) n xs) (hg : w.grownBy w' row) (hG : G < m) (hr : ∀ r, row = some r → m ≤ r) : w'.ownsRow base 5 1 (.slice (some ⟨G, 0, none⟩) n c) n xs := by
  refine ⟨h.1, ?_⟩
  rcases h.2 with ⟨h1, _⟩ | ⟨g, cap, cur, e, hb, hh, r⟩
  · cases h1
  · refine Or.inr ⟨g, cap, cur, e, hb, ?_, r⟩
    cases e
    rw [hg.block G (Array.getElem?_eq_some_iff.1 hh).1 (fun e => by have := hr _ e.symm; omega)]
    exact hh
theorem own_other {w w' : World} {G base n c B : Nat} {xs : List Value} (h : w.ownsRow base 5 1 (.slice (some ⟨G, 0, none⟩) n c) n xs) (hg : w.grownBy w' (some B)) (hG : G ≠ B) : w'.ownsRow base 5 1 (.slice (some ⟨G, 0, none⟩) n c) n xs := by
  refine ⟨h.1, ?_⟩
  rcases h.2 with ⟨h1, _⟩ | ⟨g, cap, cur, e, hb, hh, r⟩
  · cases h1
  · refine Or.inr ⟨g, cap, cur, e, hb, ?_, r⟩
    cases e
    rw [hg.block G (Array.getElem?_eq_some_iff.1 hh).1 (fun e => hG (Option.some.inj e))]
    exact hh
theorem wyI_own (w0 : World) (G S M n : Nat) (hn : w0.heap.size ≤ n) (hG : G < n) : OwnFrom n (WyI w0 G S M) := fun s A B row h hg hr =>
  ⟨blk_from h.box hg hr, own_from h.row hg hG (fun r e => (hr r e).1), gb_from h.grown hg (fun r e => by have := (hr r e).1; omega), Nat.le_trans h.size hg.size⟩
theorem signs_bytes (l : List Nat) (h : ∀ x ∈ l, x < 2) (i : Nat) : (signsL l).getD i 0 < 256 := by
  unfold signsL
  rw [List.getD_eq_getElem?_getD, List.getElem?_map]
  cases hq : l[i]? with
  | none => decide
  | some x => have := h x (List.mem_of_getElem? hq); simp; omega
theorem bitsF_lt (D : List Nat) (a k : Nat) : ∀ x ∈ bitsF D a k, x < 2 := by
  intro x hx
  unfold bitsF at hx
  obtain ⟨p, _, rfl⟩ := List.mem_map.1 hx
  exact bitA_lt _ _
theorem way_bytes (D : List Nat) (i : Nat) : (wayL D).getD i 0 < 256 := signs_bytes _ (bitsF_lt D 2 510) i
theorem info_signs : (Tryd.prog.info? 47).map (·.size) = some 1 := by kernel_rfl
theorem make_signs (c : Nat) (w : World) (hc : c ≤ 140737488355328) : ∃ w', (Instr.makeSlice 47 (.int .i64 0) (.int .i64 c)).run Tryd.prog w = .ok (.slice (some ⟨w.heap.size, 0, none⟩) 0 c) w' ∧
    w.grownBy w' none ∧ w'.heap.size = w.heap.size + 1 ∧ Blk w' w.heap.size 5 (List.replicate c (u8N 0)) := by
  obtain ⟨i, hi, hz, hs, hb⟩ := info_u8z
  have h2 := run_make (P := Tryd.prog) w 47 5 i (.int .u8 0) Tryd.underlying47 hi hz .i64 .i64 0 c (by omega) (by omega) (by rw [hb]; omega) (by omega)
  rw [hs, Nat.mul_one, Int.toNat_natCast, made_bytes] at h2
  exact ⟨_, h2, gb_alloc (gb_refl _ _) _, by simp, Blk.new w _ _⟩
theorem own_none {w : World} {G c : Nat} {L : List Value} (h : Blk w G 5 L) (hl : L.length = c) (hc : c ≤ 140737488355328) : w.ownsRow G 5 1 (.slice (some ⟨G, 0, none⟩) 0 c) 0 [] :=
  ⟨rfl, .inr ⟨G, c, L.toArray, rfl, Nat.le_refl _, h, Nat.zero_le _, by unfold maxLen; omega, by simp [hl], rfl⟩⟩
theorem own_at' {w : World} {G base n c : Nat} {l : List Nat} (h : w.ownsRow base 5 1 (.slice (some ⟨G, 0, none⟩) n c) n (l.map u8N)) (hl : l.length = n) (hn : 0 < n) (hb : ∀ i, l.getD i 0 < 256) : BytesAt w w.heap.size (some ⟨G, 0, none⟩) c l := by
  obtain ⟨g, cap, e, _, h1, h2, h3⟩ := own_some h hn
  cases e
  refine ⟨Nat.le_refl _, by omega, by unfold maxLen at h2; omega, hb, Or.inr ⟨G, 0, rfl, h3, fun i hi => ?_⟩⟩
  rw [Nat.zero_add]
  exact own_cell h (u8_getD hi)
/-- string(b) -/
theorem bytes_str' {w : World} {B n cap : Nat} {a : Option Addr} {l : List Nat} (hn : l.length = n) (h : BytesAt w B a cap l) :
    (convert 47 9 (.slice a n cap)).run Tryd.prog w = .ok (.string (ofL l)) w := by
  subst hn
  rw [run_convert_bytes_string w 47 9 5 a l.length cap Tryd.underlying47 Tryd.underlying5 Tryd.underlying9]
  rcases h.cells with h0 | ⟨pb, po, rfl, hlt, hc⟩
  · obtain rfl : l = [] := List.eq_nil_of_length_eq_zero h0
    cases a with
    | none => rfl
    | some a =>
      exact run_bytesToString w a 0 cap [] (run_loadCells_list (P := Tryd.prog) (w := w) a [] (fun j v hv => by simp at hv))
  · rw [run_bytesToString w ⟨pb, po, none⟩ l.length cap (l.map Int.ofNat) ?_, push_all]
    · show Result.ok (Value.string ⟨#[] ++ (l.map UInt8.ofNat).toArray⟩) w = _
      rw [Array.empty_append]
      rfl
    · have hl := run_loadCells_list (P := Tryd.prog) (w := w) ⟨pb, po, none⟩ (l.map u8N) (fun j u hu => by
        have hj : j < l.length := by
          rcases Nat.lt_or_ge j l.length with h | h
          · exact h
          · rw [List.getElem?_eq_none (by simpa using h)] at hu; cases hu
        rw [Addr.add_lit, hc j hj, ← hu, u8_getD hj])
      rw [List.length_map] at hl
      rw [hl, List.map_map]
      rfl
set_option maxRecDepth 100000 in
set_option maxHeartbeats 12800000 in
theorem way_any (D : List Nat) (w0 : World) (hl : D.length = 64) (hD : ∀ i, D.getD i 0 < 256) :
    Calls Tryd.prog 15 #[.agg (D.map u8N).toArray] w0 fun e w' => e = .returned (.string (ofL (wayL D))) ∧ w0.grownBy w' none := by
  obtain ⟨V, hV⟩ : ∃ V, V = D.map u8N := ⟨_, rfl⟩
  rw [← hV]
  have HV := Lib.hid hV; clear hV
  obtain ⟨wm, hmk, gm, sm, hm⟩ := make_signs 510 (w0.alloc (.cells V.toArray 32)) (by decide)
  have sA : (w0.alloc (.cells V.toArray 32)).heap.size = w0.heap.size + 1 := by simp
  have hb0 := (blk_at w0 (B := w0.heap.size) V 32 rfl).grown gm (by simp)
  have gA := gb_trans (gb_alloc (gb_refl w0 none) (.cells V.toArray 32)) gm
  rw [sA] at hmk sm hm
  have hmk : (Instr.makeSlice 47 (.int .i64 0) (.int .i64 510)).run Tryd.prog (w0.alloc (.cells V.toArray 32)) = .ok (.slice (some ⟨w0.heap.size + 1, 0, none⟩) 0 510) wm := hmk
  refine (callsIn_wide (n := 9)).1 ?_
  refine callsIn_of_wp_marks Tryd.func15 rfl trivial ?_ rfl
  simp only [Tryd.ntmps15, List.size_toArray, List.length_cons, List.length_nil, Nat.reduceAdd, Nat.reduceSub, Array.replicate_succ, Array.replicate_zero, List.push_toArray, List.append_toArray, List.nil_append, List.cons_append]
  refine wpIn_wide.2 ?_
  go_upto_region 1 with (fail)
  have HM := Lib.hid (And.intro hm (And.intro hb0 gA)); clear hm hb0 gA gm
  refine wp_region_lit ?_
  refine Fg.wpl_value (v := .slice (some ⟨w0.heap.size + 1, 0, none⟩) 0 510) (w' := wm) rfl ?_ ?_
  · unfold execOp
    simp only [Act.eval, Sem.run_bind, hmk]
    rfl
  simp only [Act.put, List.setIfInBounds_toArray, List.set_cons_succ, List.set_cons_zero]
  clear hmk sA
  go_upto_region 2 with (fail)
  rw [show w0.heap.size + 1 + 1 = w0.heap.size + 2 from rfl] at sm ⊢
  have hmr := HM.out.1
  have hb0 := HM.out.2.1.alloc (.cells [Value.slice (some ⟨w0.heap.size + 1, 0, none⟩) 0 510].toArray 47)
  have hb1 := blk_at wm (B := w0.heap.size + 2) [Value.slice (some ⟨w0.heap.size + 1, 0, none⟩) 0 510] 47 sm
  have hb2 := hmr.alloc (.cells [Value.slice (some ⟨w0.heap.size + 1, 0, none⟩) 0 510].toArray 47)
  have G1 := gb_alloc HM.out.2.2 (.cells [Value.slice (some ⟨w0.heap.size + 1, 0, none⟩) 0 510].toArray 47)
  have s1 : (wm.alloc (.cells [Value.slice (some ⟨w0.heap.size + 1, 0, none⟩) 0 510].toArray 47)).heap.size = w0.heap.size + 3 := by simp [sm]
  clear hmr HM sm
  revert hb0 hb1 hb2 G1 s1
  show _ → _ → _ → _ → _ → Code.wp _ _ _ _ (wm.alloc (.cells [Value.slice (some ⟨w0.heap.size + 1, 0, none⟩) 0 510].toArray 47))
  generalize wm.alloc (.cells [Value.slice (some ⟨w0.heap.size + 1, 0, none⟩) 0 510].toArray 47) = w1
  intro hb0 hb1 hb2 G1 s1
  have hVl : V.length = 64 := by rw [HV.out, List.length_map, hl]
  refine wp_region_lit ?_
  refine Fg.wpl_value (v := .pointer (some ⟨w0.heap.size, 0, none⟩)) (w' := w1) rfl (by go_simp) ?_
  refine Fg.wpl_value (v := .agg V.toArray) (w' := w1) rfl (Fg.run_load rfl rfl (hb0.range 0 V (by rw [List.drop_zero, List.take_length])) Tryd.underlying30 rfl (by rw [hVl]; exact info_octets)) ?_
  refine Fg.wpl_call rfl (Fg.run_call (vs := #[.agg V.toArray, .int .i64 2, .int .i64 512]) rfl rfl (by simp only [List.map_toArray, List.map_cons, List.map_nil, Act.eval]; rfl) (Fg.run_enter Tryd.func19 (by kernel_rfl) (by kernel_rfl))) ?_
  refine ((callsIn_wide (n := 8)).1 (bits_in Fence.wide 8 trivial rfl V 2 512 w1)).mono ?_
  rintro e w2 ⟨rfl, hw2⟩
  refine ⟨_, rfl, ?_⟩
  refine wpList_nil ?_
  simp only [Act.put, List.setIfInBounds_toArray, List.set_cons_succ, List.set_cons_zero]
  have hO : Blk w2 w1.heap.size 30 V := by subst hw2; exact ((blk_at w1 (B := w1.heap.size) V 30 rfl).alloc _).alloc _
  have hF : Blk w2 (w1.heap.size + 1) 3 [.int .i64 2] := by subst hw2; exact (blk_at (w1.alloc (.cells V.toArray 30)) (B := w1.heap.size + 1) [.int .i64 2] 3 (by simp)).alloc _
  have hT : Blk w2 (w1.heap.size + 2) 3 [.int .i64 512] := by subst hw2; exact blk_at ((w1.alloc (.cells V.toArray 30)).alloc (.cells [.int .i64 2].toArray 3)) (B := w1.heap.size + 2) [.int .i64 512] 3 (by simp)
  have g2 : w1.grownBy w2 none := by subst hw2; exact gb_alloc (gb_alloc (gb_alloc (gb_refl w1 none) _) _) _
  have s2 : w2.heap.size = w1.heap.size + 3 := by subst hw2; simp
  have hI0 : WyI w0 (w0.heap.size + 1) (w0.heap.size + 2) w2.heap.size [] w2 := ⟨hb1.grown g2 (by simp), own_none (hb2.grown g2 (by simp)) (by simp) (by decide), gb_trans G1 g2, Nat.le_refl _⟩
  have hOc : ∀ j, j < 64 → w2.cell? ⟨w1.heap.size, j, none⟩ = some (u8N (D.getD j 0)) := fun j hj => hO.cell (by rw [HV.out]; exact u8_getD (by omega))
  clear hw2 hb0 hb1 hb2 g2 G1
  go_wp2_with fail
  obtain ⟨S, hS⟩ : ∃ S, S = w1.heap.size := ⟨_, rfl⟩
  rw [← hS] at hO hF hT hOc s2 ⊢
  have hS2 : w0.heap.size + 3 ≤ S := by omega
  clear hS s1
  refine (wpIn_wide (n := 9)).1 ?_
  refine wpIn_rangeFunc_ownG (F := Fence.wide) (n := 9) rfl (by decide) (gf := 26) (lb := #[.pointer (some ⟨S + 1, 0, none⟩), .pointer (some ⟨S + 2, 0, none⟩), .pointer (some ⟨S, 0, none⟩)]) rfl trivial (enters_of Tryd.func26 (by kernel_rfl) rfl)
    (w0 := w2) (bits_stops Fence.wide 8 trivial rfl (by decide) (S + 1) (S + 2) S 2 512 510 D hD rfl (by decide) w2 (by omega) (by omega) (by omega) (hF.cell (i := 0) rfl) (hT.cell (i := 0) rfl) hOc)
    (fun h k => keepsB_t h k) (fun W l o o' hl h _ _ => keepsB_b (n := w2.heap.size) (by omega) (by omega) W l o o' hl h) (Below.refl _ _) (fun _ => rfl)
    (WyI w0 (w0.heap.size + 1) (w0.heap.size + 2) w2.heap.size) (fun _ _ _ => False) (wyI_own _ _ _ _ _ (by omega) (by omega)) (fun _ _ _ _ _ h _ _ => h) hI0
    (fun x => { tmps := #[.agg V.toArray, .pointer (some ⟨w0.heap.size, 0, none⟩), .string { data := #[] }, .pointer (some ⟨w0.heap.size + 2, 0, none⟩), .int .u8 (x.1 : Int), .slice (some ⟨w0.heap.size + 1, 0, none⟩) 0 510, .pointer (some ⟨w0.heap.size, 0, none⟩), .agg V.toArray, .func (.func 26) #[] #[.pointer (some ⟨S + 1, 0, none⟩), .pointer (some ⟨S + 2, 0, none⟩), .pointer (some ⟨S, 0, none⟩)], .int .u8 (x.1 : Int), undef, undef, undef, undef, undef, undef], defers := [] }) ?assign ?body ?done ?stop
  case assign =>
    intro l x W K hK
    unfold btE
    gi_wp2
    exact hK
  case body =>
    rintro l pre x W hI hlen
    have c1 := hI.box.cell (i := 0) rfl
    have hx := x.2
    have zW := hI.size
    have hN := (blk_at W (B := W.heap.size) [.int .u8 (x.1 : Int)] 5 rfl).cell (i := 0) rfl
    have hA : ∀ T, (W.alloc (.cells #[.int .u8 (x.1 : Int)] T)).heap.size = W.heap.size + 1 := fun T => by simp
    have hr1 := own_from hI.row (gb_alloc (gb_refl W none) (.cells #[.int .u8 (x.1 : Int)] 5)) (m := W.heap.size) (by omega) (by simp)
    have hput := put_any (w0.heap.size + 1) pre.length 510 x.1 W.heap.size (w0.heap.size + 1) _ _ x.2 hN hr1 (by omega)
    have HJ := Lib.hid (And.intro hI hput); clear hI hput hN hr1
    obtain ⟨x, hxx⟩ := x
    dsimp only at *
    gi_wp2_with (refine ⟨trivial, ?_⟩; gi_at_call 21; refine (CallsIn.inRound l (callsIn_wide.2 HJ.out.2)).mono ?_; rintro e W' ⟨rfl, hg', ho'⟩; have hbW := (HJ.out.1.box.alloc (.cells #[.int .u8 (x : Int)] 5)).grown hg' (some_ne' (by omega)); have c2 := hbW.cell (i := 0) rfl; have f2 := hbW.free 0; have HW := Lib.hid (And.intro hg' (And.intro ho' hbW)); clear hg' ho' hbW)
    have hgA := gb_trans (gb_alloc (gb_refl W (some (w0.heap.size + 1))) (.cells #[.int .u8 (x : Int)] 5)) HW.out.1
    have hg2 := gb_set (gb_refl W' (some (w0.heap.size + 2))) 0 (.slice (some ⟨w0.heap.size + 1, 0, none⟩) (pre.length + 1) 510)
    have zA := hgA.size
    have zS := hg2.size
    have eL : (pre ++ [(⟨x, hxx⟩ : Bt)]).length = pre.length + 1 := by simp
    refine ⟨?_, ⟨fun j hj => ?_, ?_⟩, ?_⟩
    · exact (KeepsFrom.of_grownBy hgA (fun j e => by cases e; omega)).trans (KeepsFrom.of_grownBy hg2 (fun j e => by cases e; omega))
    · rw [gb_cell hg2 (p := ⟨S, j, none⟩) (show S < W'.heap.size by omega) (some_ne' (by show S ≠ w0.heap.size + 2; omega))]
      exact gb_cell hgA (p := ⟨S, j, none⟩) (show S < W.heap.size by omega) (some_ne' (by show S ≠ w0.heap.size + 1; omega))
    · rw [gb_cell hg2 (p := ⟨S + 2, 0, none⟩) (show S + 2 < W'.heap.size by omega) (some_ne' (by show S + 2 ≠ w0.heap.size + 2; omega))]
      exact gb_cell hgA (p := ⟨S + 2, 0, none⟩) (show S + 2 < W.heap.size by omega) (some_ne' (by show S + 2 ≠ w0.heap.size + 1; omega))
    · have hbox := HW.out.2.2.set 0 (.slice (some ⟨w0.heap.size + 1, 0, none⟩) (pre.length + 1) 510)
      have hrow := own_other HW.out.2.1 hg2 (by omega)
      refine ⟨?_, ?_, gb_then (gb_then HJ.out.1.grown hgA (by omega)) hg2 (by omega), by omega⟩
      · rw [eL]; exact hbox
      · rw [eL, List.map_append, List.map_singleton, signsL_snoc, List.map_append]; exact hrow
  case done =>
    rintro D' ys W hD' rfl hI hK
    have c1 := hI.box.cell (i := 0) rfl
    have hrow := hI.row
    rw [bitsV_val, bitsV_len] at hrow
    rw [bitsV_len] at c1
    have hat := own_at' hrow (wayL_len D) (by decide) (way_bytes D)
    have hcv := bytes_str' (wayL_len D) hat
    have hDl : D' < W.heap.size := (Array.getElem?_eq_some_iff.1 hK).1
    have hg := hI.grown
    have hpo := grownBy_putObj' W D' (.deferred none)
    have hg5 := gb_then hg hpo (by omega)
    have HK := Lib.hid (And.intro hK hg5); clear hK hg5 hg hpo hat hrow
    go_wp2_with fail
    refine ⟨by simp, .inl ⟨_, _, rfl, run_takeDeferred HK.out.1, ?_⟩⟩
    refine ⟨.string (ofL (wayL D)), ?_, rfl, HK.out.2⟩
    simp [results, Tryd.results15, go_sem]
  case stop =>
    rintro D c pre W _ _ h _
    exact h.elim
end Go.Proofs.YtpihmhabcmheaaaDoor
