/- VectorJoins: the lists for ApartDots, and its call. -/
import Derived.Test.YtkffbaihknhefaaGreatVeJoinsM
namespace Go.Proofs.YtkffbaihknhefaaGreat
open Go.RowKit Ve Ow
namespace Ve
theorem choose_lt' {α : Type} [Inhabited α] {P : Nat → α → Prop} {n : Nat} (h : ∀ i, i < n → ∃ x, P i x) : ∃ f : Nat → α, ∀ i, i < n → P i (f i) := by
  classical
  exact ⟨fun i => if hi : i < n then (h i hi).choose else default, fun i hi => by simp only [dif_pos hi]; exact (h i hi).choose_spec⟩
abbrev Tr := Option Addr × Nat × Nat
def sv (q : Tr) : Value := .slice q.1 q.2.1 q.2.2
/-- a row within a bracket -/
structure PL (w : World) (lo hi : Nat) (q : Tr) : Prop where
  own : ∃ xs, Fd.Own2 w 0 q.2.1 (sv q) xs
  blk : ∀ i, q.1.map (·.block) = some i → lo ≤ i ∧ i < hi
  len : q.2.1 ≤ 100000
theorem PL.stay {w w' : World} {lo hi : Nat} {q : Tr} (h : PL w lo hi q) (hg : w.grownBy w' none) : PL w' lo hi q :=
  ⟨h.own.elim fun xs hx => ⟨xs, World.ownsRow.kept hx hg (by cases (sv q).ownBlock <;> simp)⟩, h.blk, h.len⟩
theorem Lt.pl {w : World} {g c lo hi : Nat} {p : List D} (h : Lt w g c p) (hlo : lo ≤ g) (hhi : g < hi) (hl : p.length ≤ 100000) : PL w lo hi (some ⟨g, 0, none⟩, p.length, c) :=
  ⟨h.own, fun i e => by simp only [Option.map_some, Option.some.injEq] at e; omega, hl⟩
theorem own_pl {w : World} {base n c : Nat} {a : Option Addr} {l : List D} (h : OwnD' w base (.slice a n c) n l) (hl : n ≤ 100000) : PL w base w.heap.size (a, n, c) := by
  refine ⟨⟨dotsC l, h.1, ?_⟩, fun i e => ?_, hl⟩
  · rcases h.2 with h' | ⟨g, c, cur, e1, e2, e3⟩
    · exact Or.inl h'
    · exact Or.inr ⟨g, c, cur, e1, Nat.zero_le _, e3⟩
  · have : (Value.slice a n c).ownBlock = some i := by
      unfold Value.ownBlock
      cases a with
      | none => cases e
      | some x => simpa using e
    exact h.lt i this
def JL (k : Nat) (R : List (List D)) (E : Nat → Nat × Nat) (p1 p2 p3 p4 : Tr) (j : Nat) : Tr :=
  if j < k then (some ⟨(E j).1, 0, none⟩, (R.getD j []).length, (E j).2) else if j = k then p1 else if j = k + 1 then p2 else if j = k + 2 then p3 else p4
theorem JL.cases {k : Nat} {R : List (List D)} {E : Nat → Nat × Nat} {p1 p2 p3 p4 : Tr} {j : Nat} (hj : j < k + 4) :
    (j < k ∧ JL k R E p1 p2 p3 p4 j = (some ⟨(E j).1, 0, none⟩, (R.getD j []).length, (E j).2)) ∨ (j = k ∧ JL k R E p1 p2 p3 p4 j = p1) ∨ (j = k + 1 ∧ JL k R E p1 p2 p3 p4 j = p2) ∨ (j = k + 2 ∧ JL k R E p1 p2 p3 p4 j = p3) ∨ (j = k + 3 ∧ JL k R E p1 p2 p3 p4 j = p4) := by
  unfold JL
  by_cases h0 : j < k
  · exact Or.inl ⟨h0, if_pos h0⟩
  rw [if_neg h0]
  by_cases h1 : j = k
  · exact Or.inr (Or.inl ⟨h1, if_pos h1⟩)
  rw [if_neg h1]
  by_cases h2 : j = k + 1
  · exact Or.inr (Or.inr (Or.inl ⟨h2, if_pos h2⟩))
  rw [if_neg h2]
  by_cases h3 : j = k + 2
  · exact Or.inr (Or.inr (Or.inr (Or.inl ⟨h3, if_pos h3⟩)))
  exact Or.inr (Or.inr (Or.inr (Or.inr ⟨by omega, if_neg h3⟩)))
def JV (q : Nat → Tr) : Fd.Lists := ⟨fun j => (q j).1, fun j => (q j).2.1, fun j => (q j).2.2⟩
set_option maxHeartbeats 1000000 in
theorem apart_fin {w wB : World} {a : Option Addr} {k c b0 b1 b3 b4 b5 : Nat} {R : List (List D)} {E : Nat → Nat × Nat} (h : LI w wB (.slice a k c) k R E) (hk : k ≤ 20) (hR : ∀ i, i < k → (R.getD i []).length ≤ 100000) (hE : ∀ i, i < k → (E i).1 < b0) (p1 p2 p3 p4 : Tr) (h1 : PL wB b3 b4 p1) (h2 : PL wB b4 b5 p2) (h3 : PL wB b0 b1 p3) (h4 : PL wB b1 b3 p4)
    (hb : w.heap.size ≤ b0 ∧ b0 ≤ b1 ∧ b1 ≤ b3 ∧ b3 ≤ b4 ∧ b4 ≤ b5 ∧ b5 ≤ wB.heap.size) :
    ∃ v1 wC v2 wD, (Builtin.append_ #[27, 27] 27 #[.slice (some ⟨wB.heap.size, 0, none⟩) 0 0, .slice a k c]).run Tryz.prog (wB.alloc (.cells #[] 26)) = .ok v1 wC ∧
      (Builtin.append_ #[27, 27] 27 #[v1, .slice (some ⟨wC.heap.size, 0, none⟩) 4 4]).run Tryz.prog (wC.alloc (.cells #[sv p1, sv p2, sv p3, sv p4] 26)) = .ok v2 wD ∧
      Calls Tryz.prog 21 #[v2] wD fun e w' => e = .returned (.bool true) ∧ w.grownBy w' none := by
  have g0 : wB.grownBy (wB.alloc (.cells #[] 26)) none := gb_alloc (gb_refl _ _) _
  have hA : a = none → c = 0 := fun e => by
    rcases own_shape h.own with ⟨e1, _⟩ | ⟨g, c', e1⟩
    · cases e1; rfl
    · rw [e] at e1; cases e1
  have hlit : OwnR (wB.alloc (.cells #[] 26)) wB.heap.size (.slice (some ⟨wB.heap.size, 0, none⟩) 0 0) 0 [] :=
    World.ownsRow_lit (e := 26) (size := 1) wB #[] 0 (Nat.le_refl _) (by unfold maxLen; omega) rfl
  obtain ⟨xs, hxs⟩ : ∃ xs : List Value, xs = (List.range k).map fun i => Value.slice (some ⟨(E i).1, 0, none⟩) (R.getD i []).length (E i).2 := ⟨_, rfl⟩
  have hxl : xs.length = k := by rw [hxs]; simp
  have hx1 : ∀ u ∈ xs, u.oneCell' = true := fun u hu => by
    rw [hxs] at hu
    obtain ⟨i, _, rfl⟩ := List.mem_map.1 hu
    rfl
  have hxc : k = 0 ∨ ∃ ad, a = some ad ∧ ∀ j u, xs[j]? = some u → (wB.alloc (.cells #[] 26)).cell? (ad.add j) = some u := by
    rcases Nat.eq_zero_or_pos k with h0 | h0
    · exact Or.inl h0
    · obtain ⟨g, rfl, hgl, _⟩ := h.cell h0
      refine Or.inr ⟨_, rfl, fun j u hu => ?_⟩
      have hj : j < k := by have := (List.getElem?_eq_some_iff.1 hu).1; omega
      obtain ⟨g', e, _, hc⟩ := h.cell hj
      cases e
      rw [Addr.add_lit, Nat.zero_add, gb_cell g0 (p := ⟨g, j, none⟩) hgl (by simp), hc, ← hu, hxs]
      simp [hj]
  obtain ⟨v1, wC, hr1, ho1, hg1⟩ := append_rows _ wB.heap.size _ 0 [] a k c xs hlit hxl hxc hx1 hA (by omega) g0.size
  rw [Nat.zero_add, List.nil_append] at ho1
  have gC := Ow.gb_own g0 hlit (Nat.le_refl _) hg1
  have gC1 : wC.grownBy (wC.alloc (.cells #[sv p1, sv p2, sv p3, sv p4] 26)) none := gb_alloc (gb_refl _ _) _
  have hB : Blk (wC.alloc (.cells #[sv p1, sv p2, sv p3, sv p4] 26)) wC.heap.size 26 [sv p1, sv p2, sv p3, sv p4] := Blk.new wC _ _
  obtain ⟨v2, wD, hr2, ho2, hg2⟩ := append_rows _ wB.heap.size v1 k xs (some ⟨wC.heap.size, 0, none⟩) 4 4 [sv p1, sv p2, sv p3, sv p4] (ownR_grow ho1 gC1) rfl (Or.inr ⟨_, rfl, fun j u hu => by rw [Addr.add_lit, Nat.zero_add]; exact hB.cell hu⟩) (fun u hu => by
    simp only [List.mem_cons, List.not_mem_nil, or_false] at hu
    rcases hu with rfl | rfl | rfl | rfl <;> rfl) (fun e => by cases e) (by omega) (by have := gC.size; have := gC1.size; omega)
  have gD := Ow.gb_own (gb_trans gC gC1) (ownR_grow ho1 gC1) (Nat.le_refl _) hg2
  refine ⟨v1, wC, v2, wD, hr1, hr2, ?_⟩
  clear hr1 hr2 hB hxc hx1 hlit ho1 hg1 hg2
  obtain ⟨L0, C, rfl, hLb, hnc, hcm, hlt⟩ := own_some ho2 (by omega)
  obtain ⟨q, hq⟩ : ∃ q, q = JL k R E p1 p2 p3 p4 := ⟨_, rfl⟩
  have hQ : ∀ j, j < k + 4 → (j < k ∧ q j = (some ⟨(E j).1, 0, none⟩, (R.getD j []).length, (E j).2)) ∨ (j = k ∧ q j = p1) ∨ (j = k + 1 ∧ q j = p2) ∨ (j = k + 2 ∧ q j = p3) ∨ (j = k + 3 ∧ q j = p4) := fun j hj => by rw [hq]; exact JL.cases hj
  clear hq
  have hmap : (List.range (k + 4)).map (JV q).v = xs ++ [sv p1, sv p2, sv p3, sv p4] := by
    have e0 : (List.range k).map (JV q).v = xs := by
      rw [hxs]
      refine List.map_congr_left fun i hi => ?_
      have hi' := List.mem_range.1 hi
      rcases hQ i (by omega) with ⟨_, e⟩ | ⟨e', _⟩ | ⟨e', _⟩ | ⟨e', _⟩ | ⟨e', _⟩
      · show Value.slice (q i).1 (q i).2.1 (q i).2.2 = _
        rw [e]
      all_goals omega
    have e1 : (JV q).v k = sv p1 := by
      rcases hQ k (by omega) with ⟨e', _⟩ | ⟨_, e⟩ | ⟨e', _⟩ | ⟨e', _⟩ | ⟨e', _⟩
      · omega
      · show sv (q k) = _; rw [e]
      all_goals omega
    have e2 : (JV q).v (k + 1) = sv p2 := by
      rcases hQ (k + 1) (by omega) with ⟨e', _⟩ | ⟨e', _⟩ | ⟨_, e⟩ | ⟨e', _⟩ | ⟨e', _⟩
      · omega
      · omega
      · show sv (q (k + 1)) = _; rw [e]
      all_goals omega
    have e3 : (JV q).v (k + 2) = sv p3 := by
      rcases hQ (k + 2) (by omega) with ⟨e', _⟩ | ⟨e', _⟩ | ⟨e', _⟩ | ⟨_, e⟩ | ⟨e', _⟩
      · omega
      · omega
      · omega
      · show sv (q (k + 2)) = _; rw [e]
      · omega
    have e4 : (JV q).v (k + 3) = sv p4 := by
      rcases hQ (k + 3) (by omega) with ⟨e', _⟩ | ⟨e', _⟩ | ⟨e', _⟩ | ⟨e', _⟩ | ⟨_, e⟩
      · omega
      · omega
      · omega
      · omega
      · show sv (q (k + 3)) = _; rw [e]
    rw [show k + 4 = k + 1 + 1 + 1 + 1 by omega]
    simp only [List.range_succ, List.map_append, List.map_cons, List.map_nil, List.append_assoc, List.cons_append, List.nil_append]
    rw [e0, e1, show k + 1 + 1 = k + 2 from rfl, show k + 2 + 1 = k + 3 from rfl, e2, e3, e4]
  have hL : Fd.ListAt wD L0 (JV q) (k + 4) := by
    rcases ho2.2 with ⟨h0, _⟩ | ⟨g', c', cur, e1, _, hgb, _, _, _, ht⟩
    · cases h0
    · cases e1
      refine ⟨cur.toList.drop ((k + 4) * 1), ?_⟩
      unfold Blk
      rw [hgb, hmap, ← ht, List.take_append_drop, Array.toArray_toList]
  have hblk : ∀ j i, j < k + 4 → (JV q).g j = some i → (j < k ∧ i = (E j).1) ∨ (j = k ∧ b3 ≤ i ∧ i < b4) ∨ (j = k + 1 ∧ b4 ≤ i ∧ i < b5) ∨ (j = k + 2 ∧ b0 ≤ i ∧ i < b1) ∨ (j = k + 3 ∧ b1 ≤ i ∧ i < b3) := fun j i hj e => by
    have e' : (q j).1.map (·.block) = some i := e
    rcases hQ j hj with ⟨h, e2⟩ | ⟨h, e2⟩ | ⟨h, e2⟩ | ⟨h, e2⟩ | ⟨h, e2⟩ <;> rw [e2] at e'
    · left; refine ⟨h, ?_⟩; simp only [Option.map_some, Option.some.injEq] at e'; exact e'.symm
    · have := h1.blk i e'; omega
    · have := h2.blk i e'; omega
    · have := h3.blk i e'; omega
    · have := h4.blk i e'; omega
  have hEw : ∀ i, i < k → w.heap.size ≤ (E i).1 := fun i hi => (h.lent i hi).2.1
  have hap := h.apart
  have hgs := gD.size
  have hV : (JV q).Apart (k + 4) L0 wD.heap.size := by
    refine ⟨fun j j' hj hj' hne => ?_, fun j hj e => ?_, fun j hj i e => ?_, fun j hj => ?_⟩
    · cases e1 : (JV q).g j with
      | none => exact Or.inl rfl
      | some i =>
        refine Or.inr fun e2 => ?_
        have r1 := hblk j i hj e1
        have r2 := hblk j' i hj' e2.symm
        have f1 : j < k → (E j).1 < b0 := hE j
        have f2 : j' < k → (E j').1 < b0 := hE j'
        have f3 : j < j' → j' < k → (E j).1 < (E j').1 := hap j j'
        have f4 : j' < j → j < k → (E j').1 < (E j).1 := hap j' j
        omega
    · have r := hblk j L0 hj e
      have f1 : j < k → (E j).1 < b0 := hE j
      omega
    · have r := hblk j i hj e
      have f1 : j < k → (E j).1 < b0 := hE j
      omega
    · show (q j).2.1 ≤ 100000
      rcases hQ j hj with ⟨h', e2⟩ | ⟨_, e2⟩ | ⟨_, e2⟩ | ⟨_, e2⟩ | ⟨_, e2⟩ <;> rw [e2]
      · exact hR j h'
      · exact h1.len
      · exact h2.len
      · exact h3.len
      · exact h4.len
  have hO1 : ∀ j, j < k + 4 → ∃ xs, wD.ownsRow 0 25 2 ((JV q).v j) ((JV q).n j) xs := fun j hj => by
    show ∃ xs, Fd.Own2 wD 0 (q j).2.1 (sv (q j)) xs
    rcases hQ j hj with ⟨h', e2⟩ | ⟨_, e2⟩ | ⟨_, e2⟩ | ⟨_, e2⟩ | ⟨_, e2⟩ <;> rw [e2]
    · exact ((h.lent j h').1.stay gD).own
    · exact (h1.stay gD).own
    · exact (h2.stay gD).own
    · exact (h3.stay gD).own
    · exact (h4.stay gD).own
  obtain ⟨ys, hys⟩ := choose_lt' hO1
  refine (Fp.apartD_any Fd.marksD_kit (JV q) (k + 4) L0 C ys wD (by omega) (by omega) hnc (by unfold maxLen at hcm; omega) hV hys hL).mono fun e w' hp => ⟨hp.1, gb_kb (gb_trans h.grown gD) hp.2.2 fun i hi => ?_⟩
  obtain ⟨j, hj, e⟩ := hi
  have r := hblk j i hj e
  have f1 : j < k → w.heap.size ≤ (E j).1 := hEw j
  omega
end Ve
end Go.Proofs.YtkffbaihknhefaaGreat
