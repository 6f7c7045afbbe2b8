/- Rows of one's own of elements of two cells (dots): cells, appends by cases. -/
import Derived.Test.YtkffbaihknhefaaGreatOwnRows
import Derived.Test.YtkffbaihknhefaaGreatVeLent
namespace Go.Proofs.YtkffbaihknhefaaGreat
open Go.RowKit Ve
namespace Fd
abbrev Own2 (w : World) (base n : Nat) (v : Value) (xs : List Value) : Prop := w.ownsRow base 25 2 v n xs
theorem own_lt {w : World} {base n g c : Nat} {xs : List Value} (h : Own2 w base n (.slice (some ⟨g, 0, none⟩) n c) xs) : g < w.heap.size ∧ base ≤ g ∧ n ≤ c := by
  rcases h.2 with ⟨h0, _⟩ | ⟨g', c', cur, e1, hb, hg, hnc, _⟩
  · cases h0
  · cases e1
    exact ⟨(Array.getElem?_eq_some_iff.1 hg).1, hb, hnc⟩
theorem own_shape {w : World} {base n : Nat} {v : Value} {xs : List Value} (h : Own2 w base n v xs) : (v = .slice none 0 0 ∧ n = 0) ∨ ∃ g c, v = .slice (some ⟨g, 0, none⟩) n c := by
  rcases h.2 with h0 | ⟨g', c', cur, e1, _⟩
  · exact Or.inl h0
  · exact Or.inr ⟨g', c', e1⟩
theorem own_some {w : World} {base n : Nat} {v : Value} {xs : List Value} (h : Own2 w base n v xs) (hn : 0 < n) : ∃ g c, v = .slice (some ⟨g, 0, none⟩) n c ∧ base ≤ g ∧ n ≤ c ∧ g < w.heap.size := by
  rcases h.2 with ⟨_, h0⟩ | ⟨g, c, cur, rfl, hb, hg, hnc, hcm, _⟩
  · omega
  · exact ⟨g, c, rfl, hb, hnc, lt_of_block hg⟩
theorem own_cell {w : World} {base n g c : Nat} {xs : List Value} (h : Own2 w base n (.slice (some ⟨g, 0, none⟩) n c) xs) {j : Nat} {u : Value} (hu : xs[j]? = some u) : w.cell? ⟨g, j, none⟩ = some u := by
  have := h.cells (g := g) rfl j u hu
  rwa [Addr.add_lit, Nat.zero_add] at this
theorem own_set {w : World} {base n g c i : Nat} {xs : List Value} (h : Own2 w base n (.slice (some ⟨g, 0, none⟩) n c) xs) (v : Value) : Own2 (w.setCell ⟨g, i, none⟩ v) base n (.slice (some ⟨g, 0, none⟩) n c) (xs.set i v) := by
  refine ⟨by rw [List.length_set]; exact h.1, ?_⟩
  rcases h.2 with ⟨h0, _⟩ | ⟨g', c', cur, e1, hb, hg, hnc, hcm, hs, ht⟩
  · cases h0
  · cases e1
    have hblk : Blk w g 25 cur.toList := by unfold Blk; rw [hg]
    have h2 := hblk.set i v
    refine Or.inr ⟨g, c, (cur.toList.set i v).toArray, rfl, hb, h2, hnc, hcm, by simpa using hs, ?_⟩
    rw [← ht, List.take_set]
theorem own_free {w : World} {base n g c : Nat} {xs : List Value} (h : Own2 w base n (.slice (some ⟨g, 0, none⟩) n c) xs) (i : Nat) : w.frozen? ⟨g, i, none⟩ = false := by
  rcases h.2 with ⟨h0, _⟩ | ⟨g', c', cur, e1, hb, hg, hnc, hcm, hs, ht⟩
  · cases h0
  · cases e1
    have hblk : Blk w g 25 cur.toList := by unfold Blk; rw [hg]
    exact hblk.free i
theorem own_take {w : World} {base n n' g c : Nat} {xs : List Value} (h : Own2 w base n' (.slice (some ⟨g, 0, none⟩) n' c) xs) (hn : n ≤ n') : Own2 w base n (.slice (some ⟨g, 0, none⟩) n c) (xs.take (n * 2)) := by
  have hl := h.1
  refine ⟨by rw [List.length_take]; omega, ?_⟩
  rcases h.2 with ⟨h0, _⟩ | ⟨g', c', cur, e1, hb, hg, hnc, hcm, hs, ht⟩
  · cases h0
  · cases e1
    refine Or.inr ⟨g, c, cur, rfl, hb, hg, by omega, hcm, hs, ?_⟩
    rw [← ht, List.take_take]; congr 1; omega
theorem own_rebase {w : World} {base b' n g c : Nat} {xs : List Value} (h : Own2 w base n (.slice (some ⟨g, 0, none⟩) n c) xs) (hb : b' ≤ g) : Own2 w b' n (.slice (some ⟨g, 0, none⟩) n c) xs := by
  refine ⟨h.1, ?_⟩
  rcases h.2 with ⟨h0, _⟩ | ⟨g', c', cur, e1, _, hg, hnc, hcm, hs, ht⟩
  · cases h0
  · cases e1; exact Or.inr ⟨g, c, cur, rfl, hb, hg, hnc, hcm, hs, ht⟩
/-- an append by cases: there is room, or a new block -/
theorem append_cases (w : World) (base g n c : Nat) (xs : List Value) (hown : Own2 w base n (.slice (some ⟨g, 0, none⟩) n c) xs)
    (ad : Addr) (m cc : Nat) (news : List Value) (hl : news.length = m * 2) (hnews : ∀ j u, news[j]? = some u → w.cell? (ad.add j) = some u) (h1 : ∀ u ∈ news, u.oneCell' = true) (hb : n + m ≤ 1000000000) :
    (n + m ≤ c ∧ ∃ w', (Builtin.append_ #[26, 26] 26 #[.slice (some ⟨g, 0, none⟩) n c, .slice (some ad) m cc]).run Tryz.prog w = .ok (.slice (some ⟨g, 0, none⟩) (n + m) c) w' ∧ Own2 w' base (n + m) (.slice (some ⟨g, 0, none⟩) (n + m) c) (xs ++ news) ∧ w.grownBy w' (some g)) ∨
    (c < n + m ∧ ∃ c' w', (Builtin.append_ #[26, 26] 26 #[.slice (some ⟨g, 0, none⟩) n c, .slice (some ad) m cc]).run Tryz.prog w = .ok (.slice (some ⟨w.heap.size, 0, none⟩) (n + m) c') w' ∧ Own2 w' w.heap.size (n + m) (.slice (some ⟨w.heap.size, 0, none⟩) (n + m) c') (xs ++ news) ∧ w.grownBy w' none) := by
  obtain ⟨i, hi, hz, hs, hby⟩ := info_dot
  by_cases h : n + m ≤ c
  · obtain ⟨w', hr, ho, hg⟩ := run_append_fits w base 26 26 25 i 2 (P := Tryz.prog) Tryz.underlying26 hi hs g n c xs hown ad m cc news hl hnews h1 h
    exact Or.inl ⟨h, w', hr, ho, hg⟩
  · refine Or.inr ⟨by omega, ?_⟩
    have hxl := hown.1
    have hold : ∀ j v, xs[j]? = some v → w.cell? ((⟨g, 0, none⟩ : Addr).add j) = some v := fun j v hv => by
      rw [Addr.add_lit, Nat.zero_add]; exact own_cell hown hv
    have hnc : Builtin.nextslicecap (n + m) c * i.bytes ≤ 281474976710656 := growslice_fits (by omega) (by rw [hby]; omega)
    have hr := run_append_grow (P := Tryz.prog) w 26 26 25 i (.agg #[iV 0, iV 0]) Tryz.underlying26 hi hz ⟨g, 0, none⟩ n c xs (by rw [hs]; exact hxl) hold ad m cc news (by rw [hs]; exact hl) hnews (by omega) (by omega) hnc
    have hge := grownCap_ge w (n + m) c 25
    have hcm : grownCap w (n + m) c 25 ≤ maxLen := grownCap_le_maxLen w (n + m) c 25 (by unfold maxLen; omega)
    refine ⟨_, _, hr, ⟨by rw [List.length_append]; omega, Or.inr ⟨w.heap.size, _, _, rfl, Nat.le_refl _, heap_alloc_new w.drew _, hge, hcm, ?_, ?_⟩⟩, ⟨rfl, rfl, rfl, by simp, fun k hk _ => heap_alloc_old w.drew _ hk⟩⟩
    · simp only [Array.size_append, List.size_toArray, size_zeroCells]
      rw [show (Value.agg #[iV 0, iV 0]).cells.size = 2 from rfl]
      omega
    · simp only [Array.toList_append, List.append_assoc]
      rw [← List.append_assoc, List.take_left' (by rw [List.length_append]; omega)]
theorem append_to_none (w : World) (ad : Addr) (m cc : Nat) (news : List Value) (hm : 0 < m) (hl : news.length = m * 2) (hnews : ∀ j u, news[j]? = some u → w.cell? (ad.add j) = some u) (h1 : ∀ u ∈ news, u.oneCell' = true) (hb : m ≤ 1000000000) :
    ∃ g c' w', (Builtin.append_ #[26, 26] 26 #[.slice none 0 0, .slice (some ad) m cc]).run Tryz.prog w = .ok (.slice (some ⟨g, 0, none⟩) m c') w' ∧ Own2 w' w.heap.size m (.slice (some ⟨g, 0, none⟩) m c') news ∧ w.grownBy w' none := by
  obtain ⟨i, hi, hz, hs, hby⟩ := info_dot
  obtain ⟨v', w', hr, ho, hg, _⟩ := run_append_own w w.heap.size 26 26 25 i (.agg #[iV 0, iV 0]) 2 16 (P := Tryz.prog) Tryz.underlying26 hi hz hs hby rfl (by decide) (.slice none 0 0) 0 [] (World.ownsRow_nil w _ _ 2) ad m cc news hl hnews h1 (by unfold maxLen; omega) (by omega) (Nat.le_refl _)
  rw [Nat.zero_add, List.nil_append] at ho
  obtain ⟨g, c, rfl, _⟩ := own_some ho hm
  exact ⟨g, c, w', hr, ho, hg⟩
end Fd
end Go.Proofs.YtkffbaihknhefaaGreat
