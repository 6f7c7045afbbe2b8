/- Rows of bytes, in a row of one's own: a row more. -/
import Derived.Test.YtohcoihdijemfaaWiCalls
import Derived.Test.YtohcoihdijemfaaOwnRows
import Derived.Test.YtohcoihdijemfaaRowsArg
namespace Go.Proofs.Ytohcoihdijemfaa
open Go.RowKit Ow

theorem elt_bytes : Elt 22 28 24 (.slice none 0 0) := by
  refine ⟨Try.underlying28, ?_⟩
  have h : (Try.prog.info? 22).map (fun i => (i.zero, i.size, i.bytes)) = some (some (.slice none 0 0), 1, 24) := by kernel_rfl
  cases hi : Try.prog.info? 22 with
  | none => rw [hi] at h; cases h
  | some i =>
    rw [hi] at h
    simp only [Option.map_some, Option.some.injEq, Prod.mk.injEq] at h
    exact ⟨i, rfl, h.1, h.2.1, h.2.2, rfl⟩
theorem _root_.Go.World.ownsRow.stay {w w' : World} {base e n : Nat} {v : Value} {xs : List Value} (h : w.ownsRow base e 1 v n xs) (hg : w.grownBy w' none) : w'.ownsRow base e 1 v n xs := by
  refine ⟨h.1, ?_⟩
  rcases h.2 with h0 | ⟨g, c, cur, e1, h1, h2, h3⟩
  · exact Or.inl h0
  · exact Or.inr ⟨g, c, cur, e1, h1, by rw [hg.block g (Array.getElem?_eq_some_iff.1 h2).1 (by simp)]; exact h2, h3⟩
/-- the rows L in a row of one's own; none of them lies in its block -/
def Parts (w : World) (base : Nat) (v : Value) (L : List (List Nat)) : Prop :=
  ∃ xs, w.ownsRow base 22 1 v L.length xs ∧ ∀ i, i < L.length → ∃ a c, xs[i]? = some (.slice a (L.getD i []).length c) ∧ BytesAt w w.heap.size a c (L.getD i []) ∧ ∀ pb po, a = some ⟨pb, po, none⟩ → v.ownBlock ≠ some pb ∧ pb < w.heap.size
theorem Parts.nil (w : World) (base : Nat) : Parts w base (.slice none 0 0) [] := ⟨[], World.ownsRow_nil w _ _ 1, fun i hi => by simp at hi⟩
theorem Parts.stay {w w' : World} {base : Nat} {v : Value} {L : List (List Nat)} (h : Parts w base v L) (hg : w.grownBy w' none) : Parts w' base v L := by
  obtain ⟨xs, ho, hc⟩ := h
  refine ⟨xs, ho.stay hg, fun i hi => ?_⟩
  obtain ⟨a, c, h1, h2, h3⟩ := hc i hi
  exact ⟨a, c, h1, (h2.stay hg).full, fun pb po e => ⟨(h3 pb po e).1, Nat.lt_of_lt_of_le (h3 pb po e).2 hg.size⟩⟩
theorem Parts.rows {w : World} {base : Nat} {v : Value} {L : List (List Nat)} (h : Parts w base v L) : ∃ a cap, v = .slice a L.length cap ∧ RowsAt w w.heap.size a L := by
  obtain ⟨xs, ho, hc⟩ := h
  rcases own_shape ho with ⟨rfl, h0⟩ | ⟨g, c, rfl⟩
  · refine ⟨Option.none, 0, by rw [h0], Nat.le_refl _, Or.inl h0⟩
  · refine ⟨_, c, rfl, Nat.le_refl _, Or.inr ⟨g, 0, rfl, (own_lt ho).1, fun i hi => ?_⟩⟩
    obtain ⟨a, c, h1, h2, _⟩ := hc i hi
    exact ⟨a, c, by rw [Nat.zero_add]; exact own_cell ho h1, h2⟩
theorem getD_push_lt (L : List (List Nat)) (l : List Nat) (i : Nat) (h : i < L.length) : (L ++ [l]).getD i [] = L.getD i [] := by
  rw [List.getD_eq_getElem?_getD, List.getD_eq_getElem?_getD, List.getElem?_append_left h]
theorem getD_push (L : List (List Nat)) (l : List Nat) : (L ++ [l]).getD L.length [] = l := by
  rw [List.getD_eq_getElem?_getD, List.getElem?_append_right (Nat.le_refl _)]; simp
/-- what a row more comes to -/
theorem parts_more {w' : World} {base : Nat} {v' : Value} {L : List (List Nat)} {xs : List Value} {a : Option Addr} {n c : Nat} {l : List Nat} (hl : l.length = n) (hxl : xs.length = L.length)
    (ho : w'.ownsRow base 22 1 v' (L.length + 1) (xs ++ [.slice a n c]))
    (hold : ∀ i, i < L.length → ∃ a c, xs[i]? = some (.slice a (L.getD i []).length c) ∧ BytesAt w' w'.heap.size a c (L.getD i []) ∧ ∀ pb po, a = some ⟨pb, po, none⟩ → v'.ownBlock ≠ some pb ∧ pb < w'.heap.size)
    (hnew : BytesAt w' w'.heap.size a c l ∧ ∀ pb po, a = some ⟨pb, po, none⟩ → v'.ownBlock ≠ some pb ∧ pb < w'.heap.size) : Parts w' base v' (L ++ [l]) := by
  subst hl
  refine ⟨xs ++ [.slice a l.length c], by rw [List.length_append]; exact ho, fun i hi => ?_⟩
  rw [List.length_append, List.length_singleton] at hi
  by_cases h : i < L.length
  · obtain ⟨a1, c1, h1, h2, h3⟩ := hold i h
    rw [getD_push_lt L l i h]
    exact ⟨a1, c1, by rw [List.getElem?_append_left (by omega)]; exact h1, h2, h3⟩
  · obtain rfl : i = L.length := by omega
    rw [getD_push]
    exact ⟨a, c, by rw [← hxl, List.getElem?_append_right (Nat.le_refl _)]; simp, hnew⟩
theorem parts_push (w : World) (base : Nat) (v : Value) (L : List (List Nat)) (a : Option Addr) (n c : Nat) (l : List Nat) (h : Parts w base v L) (hl : l.length = n) (hP : BytesAt w w.heap.size a c l) (hne : ∀ pb po, a = some ⟨pb, po, none⟩ → v.ownBlock ≠ some pb ∧ pb < w.heap.size) (hb : base ≤ w.heap.size) (hk : L.length ≤ 1000000) :
    ∃ v' w', (Builtin.append_ #[28, 28] 28 #[v, .slice (some ⟨w.heap.size, 0, none⟩) 1 1]).run Try.prog (w.alloc (.cells #[.slice a n c] 22)) = .ok v' w' ∧ Parts w' base v' (L ++ [l]) ∧ w.grownBy w' v.ownBlock ∧ (∀ g, v'.ownBlock = some g → v.ownBlock = some g ∨ w.heap.size ≤ g) := by
  obtain ⟨xs, ho, hc⟩ := h
  have g0 := gb_alloc (gb_refl w none) (.cells #[.slice a n c] 22)
  have hs0 := g0.size
  have hbx : Blk (w.alloc (.cells #[.slice a n c] 22)) w.heap.size 22 [.slice a n c] := Blk.new w [.slice a n c] 22
  have hnews : ∀ j u, ([.slice a n c] : List Value)[j]? = some u → (w.alloc (.cells #[.slice a n c] 22)).cell? ((⟨w.heap.size, 0, none⟩ : Addr).add j) = some u := fun j u hu => by
    have hadd : (⟨w.heap.size, 0, none⟩ : Addr).add j = ⟨w.heap.size, j, none⟩ := by unfold Addr.add; split <;> simp_all
    rw [hadd]; exact hbx.cell hu
  have h1 : ∀ u ∈ ([.slice a n c] : List Value), u.oneCell' = true := fun u hu => by rw [List.mem_singleton.1 hu]; rfl
  have hxl : xs.length = L.length := by have := ho.1; omega
  generalize w.alloc (.cells #[.slice a n c] 22) = wb at *
  have hPb : BytesAt wb w.heap.size a c l := hP.stay g0
  rcases own_shape ho with ⟨rfl, h0⟩ | ⟨g, cap, rfl⟩
  · obtain rfl : L = [] := List.eq_nil_of_length_eq_zero h0
    obtain ⟨g, c', w', hr, hno, hgr⟩ := append_to_none elt_bytes wb ⟨w.heap.size, 0, none⟩ 1 1 [.slice a n c] (by decide) rfl hnews h1 (by decide) (by decide)
    have hgn := (own_lt hno).2.1
    refine ⟨_, w', hr, ?_, gb_trans g0 hgr, fun g' e => by simp only [Value.ownBlock, Option.some.injEq] at e; omega⟩
    refine parts_more (xs := []) (a := a) (n := n) (c := c) hl rfl (own_down hno (Nat.le_trans hb hs0)) (fun i hi => by simp at hi) ⟨(hPb.stay hgr).full, fun pb po e => ?_⟩
    have h5 := (hne pb po e).2
    have h6 := hgr.size
    exact ⟨fun e2 => by simp only [Value.ownBlock, Option.some.injEq] at e2; omega, by omega⟩
  · have hgl := (own_lt ho).1
    have hop := ho.stay g0
    rcases append_cases elt_bytes wb base g L.length cap xs hop ⟨w.heap.size, 0, none⟩ 1 1 [.slice a n c] rfl hnews h1 (by omega) (by omega) with ⟨_, w', hr, hno, hgr⟩ | ⟨_, c', w', hr, hno, hgr⟩
    · refine ⟨_, w', hr, ?_, gb_trans (gb_row g0 _) hgr, fun g' e => Or.inl e⟩
      refine parts_more (a := a) (n := n) (c := c) hl hxl hno (fun i hi => ?_) ⟨((hPb.full).apart hgr (Or.inr fun pb po e e2 => ?_)).full, fun pb po e => ⟨(hne pb po e).1, by have h5 := (hne pb po e).2; have h6 := hgr.size; omega⟩⟩
      · obtain ⟨a1, c1, e1, e2, e3⟩ := hc i hi
        exact ⟨a1, c1, e1, ((e2.stay g0).apart hgr (Or.inr fun pb po e e4 => (e3 pb po e).1 (by rw [e4]; rfl))).full, fun pb po e => ⟨(e3 pb po e).1, by have h5 := (e3 pb po e).2; have h6 := hgr.size; omega⟩⟩
      · exact (hne pb po e).1 (by rw [e2]; rfl)
    · refine ⟨_, w', hr, ?_, gb_row (gb_trans g0 hgr) _, fun g' e => by simp only [Value.ownBlock, Option.some.injEq] at e; omega⟩
      refine parts_more (a := a) (n := n) (c := c) hl hxl (own_down hno (Nat.le_trans hb hs0)) (fun i hi => ?_) ⟨(hPb.stay hgr).full, fun pb po e => ?_⟩
      · obtain ⟨a1, c1, e1, e2, e3⟩ := hc i hi
        refine ⟨a1, c1, e1, ((e2.stay g0).stay hgr).full, fun pb po e => ?_⟩
        have h5 := (e3 pb po e).2
        have h6 := hgr.size
        exact ⟨fun e2 => by simp only [Value.ownBlock, Option.some.injEq] at e2; omega, by omega⟩
      · have h5 := (hne pb po e).2
        have h6 := hgr.size
        exact ⟨fun e2 => by simp only [Value.ownBlock, Option.some.injEq] at e2; omega, by omega⟩
end Go.Proofs.Ytohcoihdijemfaa
