/- wire's laws: an argument that is a row of asks; what asks come to. -/
import Derived.Test.YtlkiancedgaicaaGreatWiAsked
import Derived.Deep.SlicePairs
namespace Go.Proofs.YtlkiancedgaicaaGreat
open Go.ChangeShapes Go.WideShapes Go.ChangeAt Go.RowKit Ow Wi Go.Deep

/-- asks in a row, below block B -/
structure AsksAt (w : World) (B : Nat) (a : Option Addr) (L : List (Int × Int)) : Prop where
  lim : B ≤ w.heap.size
  wf : ∀ q ∈ L, (-9223372036854775808 ≤ q.1 ∧ q.1 ≤ 9223372036854775807) ∧ (-9223372036854775808 ≤ q.2 ∧ q.2 ≤ 9223372036854775807)
  cells : L.length = 0 ∨ ∃ pb po, a = some ⟨pb, po, none⟩ ∧ pb < B ∧ ∀ i, i < L.length → w.cell? ⟨pb, po + i * 2, none⟩ = some (.int .i64 (L.getD i (0, 0)).1) ∧ w.cell? ⟨pb, po + i * 2 + 1, none⟩ = some (.int .i64 (L.getD i (0, 0)).2)
theorem AsksAt.at {w : World} {B : Nat} {a : Option Addr} {L : List (Int × Int)} (h : AsksAt w B a L) {i : Nat} (hi : i < L.length) : ∃ pb po, a = some ⟨pb, po, none⟩ ∧ pb < w.heap.size ∧ w.cell? ⟨pb, po + i * 2, none⟩ = some (.int .i64 (L.getD i (0, 0)).1) ∧ w.cell? ⟨pb, po + i * 2 + 1, none⟩ = some (.int .i64 (L.getD i (0, 0)).2) := by
  obtain ⟨pb, po, h1, h2, h3⟩ := h.cells.resolve_left (by omega)
  exact ⟨pb, po, h1, Nat.lt_of_lt_of_le h2 h.lim, h3 i hi⟩
theorem asks_open {H : Type} {enc : TypeId × Value → H} {W : World} {a : Option Addr} {len cap : Nat} {d : DataW H} {ps : List MemPlace} (h : DataW.Trod enc Tryz.prog W 0 (fun _ => true) true 33 (.slice a len cap) d ps) :
    ∃ L : List (Int × Int), L.length = len ∧ AsksAt W W.heap.size a L := by
  obtain ⟨fuel, hf⟩ := h
  rcases open_slice_pairs Tryz.underlying33 Tryz.underlying43 (by kernel_rfl) rfl rfl (by kernel_rfl) (by kernel_rfl) hf with ⟨hcs, _⟩ | ⟨x, l, c, m, n, V0, V1, D0, D1, P0, P1, hcs, _, hl, hm, hmm, _, hall⟩
  · simp [Value.cells] at hcs
    obtain ⟨rfl, rfl, rfl⟩ := hcs
    exact ⟨[], rfl, ⟨Nat.le_refl _, fun q hq => by simp at hq, Or.inl rfl⟩⟩
  · simp [Value.cells] at hcs
    obtain ⟨rfl, rfl, rfl⟩ := hcs
    have hml : len ≤ m := by rw [hmm]; simp; exact hl
    have each : ∀ i, i < len → ∃ q : Int × Int, W.cell? (x.add (i * 2)) = some (.int .i64 q.1) ∧ W.cell? (x.add (i * 2 + 1)) = some (.int .i64 q.2) ∧ (Lit.int .i64 q.1).wf = true ∧ (Lit.int .i64 q.2).wf = true := by
      intro i hi
      obtain ⟨h0, h1, t0, t1⟩ := hall i (by omega)
      obtain ⟨n0, e0, _, w0⟩ := DataW.trod_int Tryz.underlying3 t0
      obtain ⟨n1, e1, _, w1⟩ := DataW.trod_int Tryz.underlying3 t1
      simp only [List.cons.injEq, and_true] at e0 e1
      exact ⟨(n0, n1), by rw [h0, e0], by rw [h1, e1], w0, w1⟩
    let f : Nat → Int × Int := fun i => if hi : i < len then Classical.choose (each i hi) else (0, 0)
    have hfx : ∀ i, i < len → W.cell? (x.add (i * 2)) = some (.int .i64 (f i).1) ∧ W.cell? (x.add (i * 2 + 1)) = some (.int .i64 (f i).2) ∧ (Lit.int .i64 (f i).1).wf = true ∧ (Lit.int .i64 (f i).2).wf = true := by
      intro i hi
      have e : f i = Classical.choose (each i hi) := dif_pos hi
      rw [e]
      exact Classical.choose_spec (each i hi)
    refine ⟨(List.range len).map f, by simp, Nat.le_refl _, ?_, ?_⟩
    · intro q hq
      obtain ⟨i, hi, rfl⟩ := List.mem_map.1 hq
      have h2 := hfx i (List.mem_range.1 hi)
      exact ⟨int_wf h2.2.2.1, int_wf h2.2.2.2⟩
    · by_cases h0 : len = 0
      · left; simp [h0]
      · obtain ⟨b, off, rfl, hlt, hadd⟩ := spot_none (v := .int .i64 (f 0).1) (by have := (hfx 0 (by omega)).1; simpa using this)
        refine Or.inr ⟨b, off, rfl, hlt, fun i hi => ?_⟩
        rw [List.length_map, List.length_range] at hi
        rw [range_getD _ _ _ _ hi]
        obtain ⟨c0, c1, _, _⟩ := hfx i hi
        rw [hadd] at c0 c1
        exact ⟨c0, by rw [Nat.add_assoc]; exact c1⟩

/-- how many bytes an ask takes -/
def took (k n : Nat) : Nat := if k = 0 then 1 else if k = 2 then 8 + n else 8
theorem ask_none (k : Nat) (most : Int) : askS k most none = ((0, []), none) := by
  unfold askS
  split <;> rfl
theorem ask_at (k : Nat) (most : Int) (l r : List Nat) (s : Nat) (hs : s ≤ l.length) (h : (askS k most (some (l.drop s))).2 = some r) :
    r = l.drop (s + took k (askS k most (some (l.drop s))).1.2.length) ∧ s + took k (askS k most (some (l.drop s))).1.2.length ≤ l.length := by
  have word : ∀ j, (tells 0 (rdWord j) (some (l.drop s))).2 = some r → r = l.drop (s + j) ∧ s + j ≤ l.length := by
    intro j hj
    unfold tells rdWord at hj
    by_cases hk : j ≤ (l.drop s).length
    · simp only [if_pos hk, Option.some.injEq] at hj
      rw [List.length_drop] at hk
      rw [List.drop_drop] at hj
      exact ⟨hj.symm, by omega⟩
    · simp only [if_neg hk] at hj; cases hj
  match k with
  | 0 => exact word 1 h
  | 1 => exact word 8 h
  | 2 =>
    have h' : (bytesS most (some (l.drop s))).2 = some r := h
    show r = l.drop (s + (8 + (bytesS most (some (l.drop s))).1.length)) ∧ s + (8 + (bytesS most (some (l.drop s))).1.length) ≤ l.length
    unfold bytesS tells at h' ⊢
    cases hr : rdBytes most (l.drop s) with
    | none => simp only [hr] at h'; cases h'
    | some p =>
      obtain ⟨x, r'⟩ := p
      simp only [hr, Option.some.injEq] at h' ⊢
      subst h'
      unfold rdBytes rdCount at hr
      split at hr
      · cases hr
      · rename_i n r2 hc
        split at hc
        · rename_i h8
          cases hc
          split at hr
          · rename_i hle
            cases hr
            rw [List.length_drop] at h8
            rw [List.length_drop, List.length_drop] at hle
            rw [List.length_take, List.length_drop, List.length_drop, Nat.min_eq_left (by omega), List.drop_drop, List.drop_drop]
            refine ⟨?_, by omega⟩
            congr 1
          · cases hr
        · cases hc
  | k + 3 =>
    have h' : (countS most (some (l.drop s))).2 = some r := h
    show r = l.drop (s + took (k + 3) 0) ∧ s + took (k + 3) 0 ≤ l.length
    have ht : took (k + 3) 0 = 8 := by unfold took; rw [if_neg (by omega), if_neg (by omega)]
    rw [ht]
    unfold countS tells rdCount at h'
    by_cases hk : 8 ≤ (l.drop s).length ∧ 0 ≤ toI (wN ((l.drop s).take 8)) ∧ toI (wN ((l.drop s).take 8)) ≤ most
    · simp only [if_pos hk, Option.some.injEq] at h'
      have h8 := hk.1
      rw [List.length_drop] at h8
      rw [List.drop_drop] at h'
      exact ⟨h'.symm, by omega⟩
    · simp only [if_neg hk] at h'; cases h'
theorem drop_done (l : List Nat) (s : Nat) (hs : s ≤ l.length) : decide (some (l.drop s) = some []) = decide (s = l.length) := by
  by_cases h : s = l.length
  · rw [decide_eq_true h, decide_eq_true (by rw [h, List.drop_length])]
  · rw [decide_eq_false h, decide_eq_false (by
      intro e
      have := congrArg List.length (Option.some.inj e)
      rw [List.length_drop] at this
      simp at this
      omega)]
end Go.Proofs.YtlkiancedgaicaaGreat
