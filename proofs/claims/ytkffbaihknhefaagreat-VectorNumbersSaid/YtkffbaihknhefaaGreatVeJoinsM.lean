/- VectorJoins: lent rows in a row; their list for the kit's ApartDots. -/
import Derived.Test.YtkffbaihknhefaaGreatVeRefAdd
import Derived.Test.YtkffbaihknhefaaGreatVeTells
import Derived.Test.YtkffbaihknhefaaGreatVeAwake
import Derived.Test.YtkffbaihknhefaaGreatFdApart
namespace Go.Proofs.YtkffbaihknhefaaGreat
open Go.RowKit Ve
namespace Ve
/-- a lent row, by its block -/
def Lt (w : World) (g c : Nat) (p : List D) : Prop := p.length + 12 ≤ c ∧ Fd.Own2 w 0 (p.length + 12) (.slice (some ⟨g, 0, none⟩) (p.length + 12) c) (dotsC (p ++ marksD 1 12))
theorem Lt.kept {w w' : World} {g c : Nat} {p : List D} {row : Option Nat} (h : Lt w g c p) (hg : w.grownBy w' row) (hr : row ≠ some g) : Lt w' g c p :=
  ⟨h.1, World.ownsRow.kept h.2 hg (Or.inr (fun e => hr e.symm))⟩
theorem Lt.stay {w w' : World} {g c : Nat} {p : List D} (h : Lt w g c p) (hg : w.grownBy w' none) : Lt w' g c p := h.kept hg (by simp)
theorem Lt.at {w : World} {g c : Nat} {p : List D} (h : Lt w g c p) : LentAt w g p.length c p := by
  obtain ⟨a', c', e1, _, _, hd⟩ := own_dots h.2
  simp only [Value.slice.injEq, true_and] at e1
  obtain ⟨rfl, rfl⟩ := e1
  have hcm : c < 9223372036854775808 := by
    rcases h.2.2 with ⟨_, h0⟩ | ⟨_, c1, _, e1, _, _, _, hm, _⟩
    · omega
    · simp only [Value.slice.injEq, true_and] at e1; unfold maxLen at hm; omega
  exact ⟨h.1, hcm, hd⟩
theorem Lt.own {w : World} {g c : Nat} {p : List D} (h : Lt w g c p) : ∃ xs, Fd.Own2 w 0 p.length (.slice (some ⟨g, 0, none⟩) p.length c) xs := ⟨_, Fd.own_take h.2 (by omega)⟩
theorem Lt.lt {w : World} {g c : Nat} {p : List D} (h : Lt w g c p) : g < w.heap.size := (Fd.own_lt h.2).1
theorem lt_of {w w' : World} {n : Nat} {p : List D} {e : Ending} (hn : p.length = n) (h : LentOut w n p e w') : ∃ g c, e = .returned (.slice (some ⟨g, 0, none⟩) n c) ∧ Lt w' g c p ∧ w.heap.size ≤ g ∧ w.grownBy w' none := by
  subst hn
  obtain ⟨g, c, he, hc, ho, hg⟩ := h
  exact ⟨g, c, he, ⟨hc, Fd.own_rebase ho (Nat.zero_le _)⟩, (Fd.own_lt ho).2.1, hg⟩
/-- rows lent, one behind the other -/
structure LI (w wr : World) (v : Value) (k : Nat) (R : List (List D)) (E : Nat → Nat × Nat) : Prop where
  grown : w.grownBy wr none
  own : OwnR wr w.heap.size v k ((List.range k).map fun i => .slice (some ⟨(E i).1, 0, none⟩) (R.getD i []).length (E i).2)
  lent : ∀ i, i < k → Lt wr (E i).1 (E i).2 (R.getD i []) ∧ w.heap.size ≤ (E i).1 ∧ v.ownBlock ≠ some (E i).1
  apart : ∀ i j, i < j → j < k → (E i).1 < (E j).1
theorem LI.stay {w wr w' : World} {v : Value} {k : Nat} {R : List (List D)} {E : Nat → Nat × Nat} (h : LI w wr v k R E) (hg : wr.grownBy w' none) : LI w w' v k R E :=
  ⟨gb_trans h.grown hg, ownR_grow h.own hg, fun i hi => ⟨(h.lent i hi).1.stay hg, (h.lent i hi).2⟩, h.apart⟩
theorem LI.start (w : World) (R : List (List D)) : LI w w (.slice none 0 0) 0 R (fun _ => (0, 0)) :=
  ⟨gb_refl _ _, World.ownsRow_nil _ _ _ _, fun i hi => by omega, fun i j h1 h2 => by omega⟩
theorem LI.push {w wr w4 : World} {v : Value} {k g c : Nat} {R : List (List D)} {E : Nat → Nat × Nat} (h : LI w wr v k R E) (hg : wr.grownBy w4 none) (hl : Lt w4 g c (R.getD k [])) (hlo : wr.heap.size ≤ g) (hk : k ≤ 1000000) :
    ∃ a' c' w', (Builtin.append_ #[27, 27] 27 #[v, .slice (some ⟨w4.heap.size, 0, none⟩) 1 1]).run Tryz.prog (w4.alloc (.cells #[.slice (some ⟨g, 0, none⟩) (R.getD k []).length c] 26)) = .ok (.slice a' (k + 1) c') w' ∧
      LI w w' (.slice a' (k + 1) c') (k + 1) R (fun i => if i = k then (g, c) else E i) := by
  have hs := h.grown.size
  have hs4 := hg.size
  obtain ⟨a', c', w', hr, ho, hgr, hw⟩ := row_push w4 w.heap.size v k _ (some ⟨g, 0, none⟩) (R.getD k []).length c (ownR_grow h.own hg) (by omega) hk
  have vb : ∀ x, v.ownBlock = some x → x < wr.heap.size := fun x e => (h.own.lt x e).2
  have hglt := hl.lt
  refine ⟨a', c', w', hr, Ow.gb_own (gb_trans h.grown hg) (ownR_grow h.own hg) (Nat.le_refl _) hgr, ?_, fun i hi => ?_, fun i j hij hj => ?_⟩
  · rw [range_push (fun i => Value.slice (some ⟨(E i).1, 0, none⟩) (R.getD i []).length (E i).2) _ k (fun i hi => by simp only [if_neg (show ¬ i = k by omega)])]
    simpa using ho
  · by_cases e : i = k
    · subst e
      simp only [if_true]
      exact ⟨hl.kept hgr (fun e => by have := vb _ e; omega), by omega, fun e => by
        rcases hw g e with h1 | h1
        · have := vb _ h1; omega
        · omega⟩
    · simp only [if_neg e]
      obtain ⟨h1, h2, h3⟩ := h.lent i (by omega)
      have h4 := h1.lt
      exact ⟨(h1.stay hg).kept hgr h3, h2, fun e => by
        rcases hw _ e with h5 | h5
        · exact h3 h5
        · omega⟩
  · by_cases e : j = k
    · subst e
      simp only [if_true, if_neg (show ¬ i = j by omega)]
      have := (h.lent i hij).1.lt
      omega
    · simp only [if_neg e, if_neg (show ¬ i = k by omega)]
      exact h.apart i j hij (by omega)
theorem LI.rows {w wr : World} {k c : Nat} {a : Option Addr} {R : List (List D)} {E : Nat → Nat × Nat} (h : LI w wr (.slice a k c) k R E) (hR : R.length = k) : DRowsAt wr wr.heap.size a R := by
  refine ⟨Nat.le_refl _, ?_⟩
  rcases h.own.2 with ⟨_, h0⟩ | ⟨g, c1, cur, e, hb, hg, hrest⟩
  · left; omega
  · simp only [Value.slice.injEq, true_and] at e
    obtain ⟨rfl, rfl⟩ := e
    refine Or.inr ⟨g, 0, rfl, lt_of_block hg, fun i hi => ?_⟩
    rw [hR] at hi
    refine ⟨some ⟨(E i).1, 0, none⟩, (E i).2, ?_, (h.lent i hi).1.at.2.2.pre⟩
    have := h.own.cells (g := g) rfl i (.slice (some ⟨(E i).1, 0, none⟩) (R.getD i []).length (E i).2) (by simp [hi])
    rwa [Addr.add_lit] at this
/-- the cell of one of them -/
theorem LI.cell {w wr : World} {k c i : Nat} {a : Option Addr} {R : List (List D)} {E : Nat → Nat × Nat} (h : LI w wr (.slice a k c) k R E) (hi : i < k) : ∃ g, a = some ⟨g, 0, none⟩ ∧ g < wr.heap.size ∧ wr.cell? ⟨g, i, none⟩ = some (.slice (some ⟨(E i).1, 0, none⟩) (R.getD i []).length (E i).2) := by
  rcases h.own.2 with ⟨_, h0⟩ | ⟨g, c1, cur, e, hb, hg, hrest⟩
  · omega
  · simp only [Value.slice.injEq, true_and] at e
    obtain ⟨rfl, rfl⟩ := e
    refine ⟨g, rfl, lt_of_block hg, ?_⟩
    have := h.own.cells (g := g) rfl i (.slice (some ⟨(E i).1, 0, none⟩) (R.getD i []).length (E i).2) (by simp [hi])
    rwa [Addr.add_lit, Nat.zero_add] at this
/-- rows that lie somewhere, appended to a row of one's own -/
theorem append_rows (w : World) (base : Nat) (v : Value) (n0 : Nat) (xs0 : List Value) (a : Option Addr) (m c : Nat) (xs : List Value) (hown : OwnR w base v n0 xs0) (hm : xs.length = m) (hx : m = 0 ∨ ∃ ad, a = some ad ∧ ∀ j u, xs[j]? = some u → w.cell? (ad.add j) = some u) (h1 : ∀ u ∈ xs, u.oneCell' = true) (ha : a = none → c = 0) (hn : n0 + m ≤ 1000000) (hbase : base ≤ w.heap.size) :
    ∃ v' w', (Builtin.append_ #[27, 27] 27 #[v, .slice a m c]).run Tryz.prog w = .ok v' w' ∧ OwnR w' base v' (n0 + m) (xs0 ++ xs) ∧ w.grownBy w' v.ownBlock := by
  obtain ⟨i, hi, hz, hs, hby, hzc⟩ := elt_row.info
  rcases a with _ | ad
  · rcases hx with h0 | ⟨_, h, _⟩
    · subst h0
      obtain rfl : xs = [] := List.eq_nil_of_length_eq_zero hm
      obtain rfl := ha rfl
      exact ⟨v, w, run_append_owned_none (P := Tryz.prog) w base 27 27 26 i 1 elt_row.sl hi v n0 _ hown, by simpa using hown, gb_refl _ _⟩
    · cases h
  · obtain ⟨v', w', hr, ho, hg, _⟩ := run_append_own (P := Tryz.prog) w base 27 27 26 i (.slice none 0 0) 1 24 elt_row.sl hi hz hs hby hzc (by decide) v n0 xs0 hown ad m c xs (by omega) (fun j u hu => by
      rcases hx with h0 | ⟨ad', e, h⟩
      · have := (List.getElem?_eq_some_iff.1 hu).1; omega
      · cases e; exact h j u hu) h1 (by unfold maxLen; omega) (by omega) hbase
    exact ⟨v', w', hr, ho, hg⟩
end Ve
end Go.Proofs.YtkffbaihknhefaaGreat
