/- What the law on wire's puts asks: how many bytes there are; lent rows as rows. -/
import Derived.Test.YtlkiancedgaicaaGreatLentRows
import Derived.Test.YtlkiancedgaicaaGreatRowsArg
import Derived.Test.YtlkiancedgaicaaGreatWiNum
import Derived.Test.YtlkiancedgaicaaGreatOuts
namespace Go.Proofs.YtlkiancedgaicaaGreat
open Go.RowKit Ow Wi
def sumP (L : List (List Nat)) : Nat := (L.map List.length).sum
theorem sumP_take (L : List (List Nat)) (k : Nat) (hk : k < L.length) : sumP (L.take (k + 1)) = sumP (L.take k) + (L.getD k []).length := by
  unfold sumP
  rw [List.take_succ_eq_append_getElem hk, List.map_append, List.sum_append, List.getD_eq_getElem?_getD, List.getElem?_eq_getElem hk]; simp
theorem sumP_mem {L : List (List Nat)} {r : List Nat} (h : r ∈ L) : r.length ≤ sumP L := by
  induction L with
  | nil => cases h
  | cons a L ih =>
    have e : sumP (a :: L) = a.length + sumP L := by simp [sumP]
    rw [e]
    rcases List.mem_cons.1 h with rfl | h
    · omega
    · have := ih h; omega
theorem sumP_flat (L : List (List Nat)) : L.flatten.length = sumP L := by rw [List.length_flatten]; rfl
theorem own_shape3 {w : World} {base e n : Nat} {v : Value} {xs : List Value} (h : w.ownsRow base e 1 v n xs) : ∃ a c, v = .slice a n c := by
  rcases own_shape h with ⟨rfl, h0⟩ | ⟨g, c, rfl⟩
  · exact ⟨none, 0, by rw [h0]⟩
  · exact ⟨_, _, rfl⟩
theorem rows_full {w : World} {B : Nat} {a : Option Addr} {L : List (List Nat)} (h : RowsAt w B a L) : RowsAt w w.heap.size a L := by
  refine ⟨Nat.le_refl _, ?_⟩
  rcases h.cells with h0 | ⟨pb, po, e, hlt, hc⟩
  · exact Or.inl h0
  · refine Or.inr ⟨pb, po, e, Nat.lt_of_lt_of_le hlt h.lim, fun i hi => ?_⟩
    obtain ⟨ai, ci, h1, h2⟩ := hc i hi
    exact ⟨ai, ci, h1, h2.full⟩
theorem rows_in {w : World} {B : Nat} {a : Option Addr} {L : List (List Nat)} (h : RowsAt w B a L) : ∃ A C, RowsIn w a A C L := by
  rcases h.cells with h0 | ⟨pb, po, e, hlt, hc⟩
  · exact ⟨fun _ => none, fun _ => 0, Or.inl h0, fun i hi => by omega⟩
  · refine ⟨fun i => if hi : i < L.length then (hc i hi).choose else none, fun i => if hi : i < L.length then (hc i hi).choose_spec.choose else 0, Or.inr ⟨pb, po, e, Nat.lt_of_lt_of_le hlt h.lim, fun i hi => ?_⟩, fun i hi => ?_⟩
    · simp only [dif_pos hi]; exact (hc i hi).choose_spec.choose_spec.1
    · simp only [dif_pos hi]; exact (hc i hi).choose_spec.choose_spec.2.full
theorem lent_rows {f : Nat → Nat → Nat} {w0 w : World} {G m : Nat} {vs : List Value} {L : List (List Nat)} (hm : L.length = m) (hb : Blk w G 23 vs) (h : LentAt f w0 w G m 12 vs L) (hbyte : ∀ l ∈ L, ∀ i, l.getD i 0 < 256) (hlen : ∀ l ∈ L, l.length ≤ 100000) : RowsAt w w.heap.size (some ⟨G, 0, none⟩) L ∧
    ∀ i, i < m → ∃ g, w.cell? ⟨G, i, none⟩ = some (.slice (some ⟨g, 0, none⟩) (L.getD i []).length ((L.getD i []).length + 12)) ∧ BytesAt w w.heap.size (some ⟨g, 0, none⟩) ((L.getD i []).length + 12) (L.getD i []) := by
  have hmem : ∀ i, i < m → L.getD i [] ∈ L := fun i hi => by
    rw [List.getD_eq_getElem?_getD, List.getElem?_eq_getElem (by omega)]; exact List.getElem_mem _
  have each : ∀ i, i < m → ∃ g, w.cell? ⟨G, i, none⟩ = some (.slice (some ⟨g, 0, none⟩) (L.getD i []).length ((L.getD i []).length + 12)) ∧ BytesAt w w.heap.size (some ⟨g, 0, none⟩) ((L.getD i []).length + 12) (L.getD i []) := fun i hi => by
    obtain ⟨g, e, _, _, hbk⟩ := h.rows i hi
    have hl := hlen _ (hmem i hi)
    exact ⟨g, hb.cell e, blk_bytes (tl := (marksOf f 1 12).map u8N) (by rw [← List.map_append]; exact hbk) rfl (by omega) (by omega) (hbyte _ (hmem i hi)) hbk.lt (Nat.le_refl _)⟩
  refine ⟨⟨Nat.le_refl _, ?_⟩, each⟩
  by_cases h0 : L.length = 0
  · exact Or.inl h0
  · refine Or.inr ⟨G, 0, rfl, hb.lt, fun i hi => ?_⟩
    obtain ⟨g, e, hbb⟩ := each i (by omega)
    exact ⟨_, _, by rw [Nat.zero_add]; exact e, hbb⟩
theorem rows_one {w : World} {BX : Nat} {a : Option Addr} {n c : Nat} {l : List Nat} (hl : l.length = n) (h : BytesAt w w.heap.size a c l) (hb : Blk w BX 23 [.slice a n c]) : RowsAt w w.heap.size (some ⟨BX, 0, none⟩) [l] := by
  refine ⟨Nat.le_refl _, Or.inr ⟨BX, 0, rfl, hb.lt, fun i hi => ?_⟩⟩
  obtain rfl : i = 0 := by simp at hi; omega
  exact ⟨a, c, by rw [Nat.zero_add]; subst hl; exact hb.cell (i := 0) rfl, h⟩
/-- three rows of one's own, made one behind the other, are put to the list -/
theorem three_push {b0 : Nat} {v : Value} {Ls : List Rw1} (wr w6 w7 w8 : World) (p1 p2 p3 : Rw1) (hI : OutAt wr b0 v Ls) (hb : b0 ≤ wr.heap.size) (h6 : wr.grownBy w6 none) (o1 : w6.ownsRow wr.heap.size 5 1 (rv p1) p1.2.1 p1.2.2.2) (h7 : w6.grownBy w7 none) (o2 : w7.ownsRow w6.heap.size 5 1 (rv p2) p2.2.1 p2.2.2.2) (h8 : w7.grownBy w8 none) (o3 : w8.ownsRow w7.heap.size 5 1 (rv p3) p3.2.1 p3.2.2.2)
    (l1 : p1.2.1 ≤ 100000) (l2 : p2.2.1 ≤ 100000) (l3 : p3.2.1 ≤ 100000) (hlen : Ls.length + 3 ≤ 1000000000) :
    ∃ v' w', (Builtin.append_ #[22, 22] 22 #[v, .slice (some ⟨w8.heap.size, 0, none⟩) 3 3]).run Tryz.prog (w8.alloc (.cells #[rv p1, rv p2, rv p3] 23)) = .ok v' w' ∧ OutAt w' b0 v' (Ls ++ [p1, p2, p3]) ∧ wr.grownBy w' v.ownBlock := by
  have hga : w8.grownBy (w8.alloc (.cells #[rv p1, rv p2, rv p3] 23)) none := gb_alloc (gb_refl _ _) _
  have g78 := gb_trans h7 h8
  have hg : wr.grownBy (w8.alloc (.cells #[rv p1, rv p2, rv p3] 23)) none := gb_trans h6 (gb_trans g78 hga)
  have hbl := blk_at w8 [rv p1, rv p2, rv p3] 23 rfl
  have hbe := hI.below
  obtain ⟨v', w', hr, ho, hg'⟩ := outs_push (w8.alloc (.cells #[rv p1, rv p2, rv p3] 23)) b0 wr.heap.size w8.heap.size v Ls [p1, p2, p3] (hI.stay hg) hbe.1 hbe.2 (by
      intro p hp
      simp only [List.mem_cons, List.not_mem_nil, or_false] at hp
      rcases hp with rfl | rfl | rfl
      · exact ⟨own_kept o1 (gb_trans g78 hga), l1⟩
      · exact ⟨own_kept (own_down o2 h6.size) (gb_trans h8 hga), l2⟩
      · exact ⟨own_kept (own_down o3 (gb_trans h6 h7).size) hga, l3⟩) (by
      refine List.Pairwise.cons (fun q hq => ?_) (List.Pairwise.cons (fun q hq => ?_) (List.Pairwise.cons (fun q hq => by cases hq) List.Pairwise.nil))
      · simp only [List.mem_cons, List.not_mem_nil, or_false] at hq
        rcases hq with rfl | rfl
        · exact rise_apart (fun g e => (o1.lt g e).2) (fun g e => (o2.lt g e).1)
        · exact rise_apart (fun g e => (o1.lt g e).2) (fun g e => Nat.le_trans h7.size (o3.lt g e).1)
      · simp only [List.mem_cons, List.not_mem_nil, or_false] at hq
        subst hq
        exact rise_apart (fun g e => (o2.lt g e).2) (fun g e => (o3.lt g e).1)) (by simp) (fun j u hu => by rw [Nat.zero_add]; exact hbl.cell hu) hb hg.size (by simpa using hlen)
  exact ⟨v', w', hr, ho, gb_trans (gb_row hg _) hg'⟩
end Go.Proofs.YtlkiancedgaicaaGreat
