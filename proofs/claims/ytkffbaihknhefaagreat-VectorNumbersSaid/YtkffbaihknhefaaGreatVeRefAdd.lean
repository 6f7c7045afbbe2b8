/- The document's Add (buttressref07). -/
import Derived.Test.YtkffbaihknhefaaGreatVeRefJoin
import Derived.Test.YtkffbaihknhefaaGreatOwnRows
namespace Go.Proofs.YtkffbaihknhefaaGreat
open Go.RowKit Ve
namespace Ve
theorem elt_row : Elt 26 27 24 (.slice none 0 0) := ⟨Tryz.underlying27, by
  obtain ⟨i, hi, hz, hs, hb⟩ := info_row
  exact ⟨i, hi, hz, hs, hb, rfl⟩⟩
abbrev OwnR (w : World) (base : Nat) (v : Value) (n : Nat) (xs : List Value) : Prop := w.ownsRow base 26 1 v n xs
theorem ownR_down {w : World} {base base' n : Nat} {v : Value} {xs : List Value} (h : OwnR w base v n xs) (hb : base' ≤ base) : OwnR w base' v n xs := by
  refine ⟨h.1, ?_⟩
  rcases h.2 with h' | ⟨g, c, cur, e1, e2, e3⟩
  · exact Or.inl h'
  · exact Or.inr ⟨g, c, cur, e1, Nat.le_trans hb e2, e3⟩
theorem ownR_grow {w w' : World} {base n : Nat} {v : Value} {xs : List Value} (h : OwnR w base v n xs) (hg : w.grownBy w' none) : OwnR w' base v n xs := h.kept hg (by cases v.ownBlock <;> simp)
/-- a row more -/
theorem row_push (w : World) (base : Nat) (v : Value) (n : Nat) (xs : List Value) (a : Option Addr) (m c : Nat) (ho : OwnR w base v n xs) (hb : base ≤ w.heap.size) (hn : n ≤ 1000000) :
    ∃ a' c' w', (Builtin.append_ #[27, 27] 27 #[v, .slice (some ⟨w.heap.size, 0, none⟩) 1 1]).run Tryz.prog (w.alloc (.cells #[.slice a m c] 26)) = .ok (.slice a' (n + 1) c') w' ∧ OwnR w' base (.slice a' (n + 1) c') (n + 1) (xs ++ [.slice a m c]) ∧ w.grownBy w' v.ownBlock ∧
      (∀ g, (Value.slice a' (n + 1) c').ownBlock = some g → v.ownBlock = some g ∨ w.heap.size ≤ g) := by
  have g0 : w.grownBy (w.alloc (.cells #[.slice a m c] 26)) none := gb_alloc (gb_refl w none) _
  have hs0 := g0.size
  have hbx : Blk (w.alloc (.cells #[.slice a m c] 26)) w.heap.size 26 [.slice a m c] := Blk.new w _ _
  have hnews : ∀ j u, ([.slice a m c] : List Value)[j]? = some u → (w.alloc (.cells #[.slice a m c] 26)).cell? ((⟨w.heap.size, 0, none⟩ : Addr).add j) = some u := fun j u hu => by
    rw [Addr.add_lit, Nat.zero_add]; exact hbx.cell hu
  have h1 : ∀ u ∈ ([.slice a m c] : List Value), u.oneCell' = true := fun u hu => by rw [List.mem_singleton.1 hu]; rfl
  generalize w.alloc (.cells #[.slice a m c] 26) = wb at *
  rcases own_shape ho with ⟨rfl, rfl⟩ | ⟨g, cap, rfl⟩
  · obtain ⟨g, c', w', hr, hno, hgr⟩ := append_to_none elt_row wb ⟨w.heap.size, 0, none⟩ 1 1 [.slice a m c] (by decide) rfl hnews h1 (by decide) (by decide)
    have hgn := (own_lt hno).2.1
    obtain rfl : xs = [] := List.eq_nil_of_length_eq_zero (by have := ho.1; omega)
    exact ⟨_, c', w', hr, ownR_down hno (Nat.le_trans hb hs0), gb_trans g0 hgr, fun g' e => by simp only [Value.ownBlock, Option.some.injEq] at e; omega⟩
  · rcases append_cases elt_row wb base g n cap xs (ownR_grow ho g0) ⟨w.heap.size, 0, none⟩ 1 1 [.slice a m c] rfl hnews h1 (by omega) (by omega) with ⟨_, w', hr, hno, hgr⟩ | ⟨_, c', w', hr, hno, hgr⟩
    · exact ⟨_, _, w', hr, hno, gb_trans (gb_row g0 _) hgr, fun g' e => Or.inl e⟩
    · exact ⟨_, c', w', hr, ownR_down hno (Nat.le_trans hb hs0), gb_row (gb_trans g0 hgr) _, fun g' e => by simp only [Value.ownBlock, Option.some.injEq] at e; omega⟩
/-- the row of rows, its block apart from what lies in it -/
def RowsIn (w : World) (base : Nat) (v : Value) (n : Nat) (E : Nat → Option Addr × Nat × List D) : Prop :=
  OwnR w base v n ((List.range n).map fun i => .slice (E i).1 (E i).2.2.length (E i).2.1) ∧ ∀ i, i < n → DotsAt w w.heap.size (E i).1 (E i).2.2 ∧ ∀ pb po, 0 < (E i).2.2.length → (E i).1 = some ⟨pb, po, none⟩ → v.ownBlock ≠ some pb ∧ pb < w.heap.size
theorem dots_kept {w w' : World} {B : Nat} {a : Option Addr} {l : List D} {row : Option Nat} (h : DotsAt w B a l) (hg : w.grownBy w' row) (hn : ∀ pb po, 0 < l.length → a = some ⟨pb, po, none⟩ → row ≠ some pb) : DotsAt w' w'.heap.size a l := by
  refine ⟨Nat.le_refl _, ?_⟩
  by_cases hl0 : l.length = 0
  · exact Or.inl hl0
  rcases h.cells with h0 | ⟨pb, po, e, hp, hc⟩
  · exact Or.inl h0
  · have hlt : pb < w.heap.size := Nat.lt_of_lt_of_le hp h.lim
    have e2 : ∀ o, w'.cell? ⟨pb, o, none⟩ = w.cell? ⟨pb, o, none⟩ := fun o => gb_cell hg (p := ⟨pb, o, none⟩) hlt (fun e3 => hn pb po (by omega) e e3.symm)
    exact Or.inr ⟨pb, po, e, Nat.lt_of_lt_of_le hlt hg.size, fun i hi => by rw [e2, e2]; exact hc i hi⟩
theorem RowsIn.stay {w w' : World} {base n : Nat} {v : Value} {E : Nat → Option Addr × Nat × List D} (h : RowsIn w base v n E) (hg : w.grownBy w' none) : RowsIn w' base v n E :=
  ⟨ownR_grow h.1 hg, fun i hi => ⟨dots_kept (h.2 i hi).1 hg (fun _ _ _ _ => by simp), fun pb po h0 e => ⟨((h.2 i hi).2 pb po h0 e).1, Nat.lt_of_lt_of_le ((h.2 i hi).2 pb po h0 e).2 hg.size⟩⟩⟩
theorem range_push {α : Type} (f g : Nat → α) (n : Nat) (h : ∀ i, i < n → g i = f i) : (List.range (n + 1)).map g = (List.range n).map f ++ [g n] := by
  rw [List.range_succ, List.map_append]
  congr 1
  exact List.map_congr_left fun i hi => h i (List.mem_range.1 hi)
theorem RowsIn.push {w : World} {base n : Nat} {v : Value} {E : Nat → Option Addr × Nat × List D} (h : RowsIn w base v n E) (hb : base ≤ w.heap.size) (hn : n ≤ 1000000) (x : Option Addr × Nat × List D) (hx : DotsAt w w.heap.size x.1 x.2.2) (hxa : ∀ pb po, 0 < x.2.2.length → x.1 = some ⟨pb, po, none⟩ → v.ownBlock ≠ some pb ∧ pb < w.heap.size) :
    ∃ a' c' w', (Builtin.append_ #[27, 27] 27 #[v, .slice (some ⟨w.heap.size, 0, none⟩) 1 1]).run Tryz.prog (w.alloc (.cells #[.slice x.1 x.2.2.length x.2.1] 26)) = .ok (.slice a' (n + 1) c') w' ∧
      RowsIn w' base (.slice a' (n + 1) c') (n + 1) (fun i => if i = n then x else E i) ∧ w.grownBy w' v.ownBlock := by
  obtain ⟨a', c', w', hr, ho, hg, hw⟩ := row_push w base v n _ x.1 x.2.2.length x.2.1 h.1 hb hn
  have key : ∀ pb, v.ownBlock ≠ some pb → pb < w.heap.size → (Value.slice a' (n + 1) c').ownBlock ≠ some pb ∧ pb < w'.heap.size := fun pb h1 h2 => ⟨fun e => by
    rcases hw pb e with h | h
    · exact h1 h
    · omega, Nat.lt_of_lt_of_le h2 hg.size⟩
  refine ⟨a', c', w', hr, ⟨?_, fun i hi => ?_⟩, hg⟩
  · rw [range_push (fun i => Value.slice (E i).1 (E i).2.2.length (E i).2.1) _ n (fun i hi => by simp only [if_neg (show ¬ i = n by omega)])]
    simpa using ho
  · by_cases e : i = n
    · subst e
      simp only [if_true]
      exact ⟨dots_kept hx hg (fun pb po h0 e => (hxa pb po h0 e).1), fun pb po h0 e => key pb (hxa pb po h0 e).1 (hxa pb po h0 e).2⟩
    · simp only [if_neg e]
      have hi' := h.2 i (by omega)
      exact ⟨dots_kept hi'.1 hg (fun pb po h0 e => (hi'.2 pb po h0 e).1), fun pb po h0 e => key pb (hi'.2 pb po h0 e).1 (hi'.2 pb po h0 e).2⟩
/-- as rows -/
theorem RowsIn.rows {w : World} {base n c : Nat} {a : Option Addr} {E : Nat → Option Addr × Nat × List D} (h : RowsIn w base (.slice a n c) n E) {R : List (List D)} (hR : R.length = n) (hE : ∀ i, i < n → (E i).2.2 = R.getD i []) : DRowsAt w w.heap.size a R := by
  refine ⟨Nat.le_refl _, ?_⟩
  rcases h.1.2 with ⟨_, h0⟩ | ⟨g, c1, cur, e, hb, hg, hrest⟩
  · left; omega
  · simp only [Value.slice.injEq, true_and] at e
    obtain ⟨rfl, rfl⟩ := e
    refine Or.inr ⟨g, 0, rfl, lt_of_block hg, fun i hi => ?_⟩
    rw [hR] at hi
    refine ⟨(E i).1, (E i).2.1, ?_, by rw [← hE i hi]; exact (h.2 i hi).1⟩
    have := h.1.cells (g := g) rfl i (.slice (E i).1 (E i).2.2.length (E i).2.1) (by simp [hi])
    rw [Addr.add_lit] at this
    rw [← hE i hi]
    exact this
set_option maxHeartbeats 1000000 in
theorem refAdd_any (B1 B2 n1 n2 c1 c2 : Nat) (a1 a2 : Option Addr) (l ds : List D) (w : World) (hn1 : l.length = n1) (hn2 : ds.length = n2) (h1 : DotsAt w B1 a1 l) (h2 : DotsAt w B2 a2 ds) (hc1 : n1 < 9223372036854775808) (hc2 : n2 ≤ 100000) :
    Calls Tryz.prog 20 #[.slice a1 n1 c1, .slice a2 n2 c2] w (JoinOut w (addF l ds)) := by
  have H2 := Lib.hid h2; clear h2
  have HN := Lib.hid (And.intro hn1 hn2)
  obtain ⟨Q, hQ⟩ : ∃ Q, Q = JoinOut w (addF l ds) := ⟨_, rfl⟩
  rw [← hQ]
  have HQ := Lib.hid hQ; clear hQ
  have HI0 : Hid (∃ E : Nat → Option Addr × Nat × List D, w.grownBy (w.alloc (.cells #[.slice a1 n1 c1] 26)) none ∧ RowsIn (w.alloc (.cells #[.slice a1 n1 c1] 26)) w.heap.size (.slice (some ⟨w.heap.size, 0, none⟩) 1 1) 1 E ∧ (E 0).2.2 = l ∧ ∀ i, i < 0 → (E (i + 1)).2.2 = [ds.getD i z0]) := by
    have hl1 := h1.lim
    refine ⟨fun _ => (a1, c1, l), gb_alloc (gb_refl _ _) _, ⟨?_, fun i hi => ⟨(h1.stay (gb_alloc (gb_refl _ _) _)).up' (h1.stay (gb_alloc (gb_refl _ _) _)).lim (Nat.le_refl _), fun pb po h0 e => ?_⟩⟩, rfl, fun i hi => by omega⟩
    · have := World.ownsRow_lit (e := 26) (size := 1) w #[.slice a1 n1 c1] 1 (Nat.le_refl _) (by unfold maxLen; omega) rfl
      rw [← hn1] at this ⊢
      exact this
    · simp only at h0 e
      obtain ⟨pb', po', e', hp, _⟩ := h1.cells.resolve_left (by omega)
      rw [e'] at e
      simp only [Option.some.injEq, Addr.mk.injEq, and_true] at e
      obtain ⟨rfl, rfl⟩ := e
      exact ⟨fun e2 => by simp only [Value.ownBlock, Option.some.injEq] at e2; omega, by simp; omega⟩
  clear h1 hn1 hn2
  go_enter Tryz.func20, Tryz.ntmps20
  go_wp2
  go_loopw [5, 6] (fun v i wr => ∃ (k c : Nat) (a : Option Addr), k ≤ n2 ∧ i = .int .i64 k ∧ v = .slice a (k + 1) c ∧ Hid (∃ E : Nat → Option Addr × Nat × List D, w.grownBy wr none ∧ RowsIn wr w.heap.size (.slice a (k + 1) c) (k + 1) E ∧ (E 0).2.2 = l ∧ ∀ i, i < k → (E (i + 1)).2.2 = [ds.getD i z0])) (fun _ i _ => n2 - (intOf i).toNat)
  case atStart => exact ⟨0, 1, _, by omega, rfl, rfl, HI0.out⟩
  case round =>
    clear HI0
    obtain ⟨k, c, a, hk, rfl, rfl, HI⟩ := hrel
    by_cases hlt : k < n2
    · obtain ⟨E, hg, hr, he0, he⟩ := HI.out
      obtain ⟨pb, po, rfl, hpb, hcs⟩ := (H2.out.stay hg).cells.resolve_left (by rw [HN.out.2]; omega)
      obtain ⟨k1, k2⟩ := hcs k (by rw [HN.out.2]; exact hlt)
      clear hcs
      obtain ⟨x, y, hxy⟩ : ∃ x y, ds.getD k z0 = (x, y) := ⟨_, _, rfl⟩
      rw [hxy] at k1 k2
      simp only at k1 k2
      have hi : (k : Int) < (n2 : Int) := by omega
      have g1 : wr.grownBy (wr.alloc (.cells #[iV x, iV y] 25)) none := gb_alloc (gb_refl _ _) _
      have hd := dots_one' wr x y 25
      obtain ⟨a', c', w', hap, hr', hg'⟩ := (hr.stay g1).push (by have := hg.size; have := g1.size; omega) (by omega) (some ⟨wr.heap.size, 0, none⟩, 1, [(x, y)]) (hd.up' (by simp) (Nat.le_refl _)) (fun pb' po' _ e => by
        simp only [Option.some.injEq, Addr.mk.injEq, and_true] at e
        obtain ⟨rfl, rfl⟩ := e
        refine ⟨fun e2 => ?_, by simp⟩
        have := hr.1.lt _ e2
        omega)
      have hN : Hid (∃ E : Nat → Option Addr × Nat × List D, w.grownBy w' none ∧ RowsIn w' w.heap.size (.slice a' (k + 1 + 1) c') (k + 1 + 1) E ∧ (E 0).2.2 = l ∧ ∀ i, i < k + 1 → (E (i + 1)).2.2 = [ds.getD i z0]) := by
        refine ⟨_, Ow.gb_own (gb_trans hg g1) (ownR_grow hr.1 g1) (Nat.le_refl _) hg', hr', by rw [if_neg (by omega)]; exact he0, fun i hi => ?_⟩
        by_cases e : i = k
        · subst e; simp only [if_true]; rw [hxy]
        · rw [if_neg (by omega)]; exact he i (by omega)
      rw [World.size_alloc] at hap
      clear hr' hg' hd g1 hr he he0 hg hxy HI
      go_wp2_with (at_builtin; refine Lib.wpList_append_run _ rfl _ _ _ _ rfl _ _ rfl rfl _ _ hap ?_)
      go_roundw
      case rel => exact ⟨k + 1, c', a', by omega, by go_num, rfl, hN⟩
      case measure => simp [intOf]; omega
    · obtain rfl : k = n2 := by omega
      obtain ⟨E, hg, hr, he0, he⟩ := HI.out
      have hR : DRowsAt wr wr.heap.size a (l :: ds.map fun d => [d]) := hr.rows (by rw [List.length_cons, List.length_map, HN.out.2]) (fun i hi => by
        cases i with
        | zero => exact he0
        | succ i =>
          have hi' : i < ds.length := by rw [HN.out.2]; omega
          rw [he i (by omega), List.getD_cons_succ, List.getD_eq_getElem?_getD (l := ds.map _), List.getElem?_map, List.getD_eq_getElem?_getD, List.getElem?_eq_getElem hi']; rfl)
      have HJ := Lib.hid (refJoin_any wr.heap.size (k + 1) c a (l :: ds.map fun d => [d]) wr (by rw [List.length_cons, List.length_map, HN.out.2]) hR (by omega) (fun i hi => by
        cases i with
        | zero => show l.length < _; rw [HN.out.1]; exact hc1
        | succ i =>
          rw [List.getD_cons_succ]
          simp only [List.length_cons, List.length_map] at hi
          rw [List.getD_eq_getElem?_getD, List.getElem?_map, List.getElem?_eq_getElem (by omega)]
          show 1 < _; decide))
      have HG := Lib.hid hg
      clear hR hg hr he he0
      go_wp2_with fail
      refine HJ.out.mono ?_
      rintro e w' ⟨v, rfl, ho, hg⟩
      have HO : Hid (Q (.returned v) w') := by
        rw [HQ.out]
        refine ⟨v, rfl, ?_, gb_trans HG.out hg⟩
        have hs := HG.out.size
        rcases ho.2 with h | ⟨g, c, cur, e, hbg, rest⟩
        · exact ⟨ho.1, Or.inl h⟩
        · exact ⟨ho.1, Or.inr ⟨g, c, cur, e, by omega, rest⟩⟩
      clear ho hg
      go_wp2
      exact HO.out
end Ve
end Go.Proofs.YtkffbaihknhefaaGreat
