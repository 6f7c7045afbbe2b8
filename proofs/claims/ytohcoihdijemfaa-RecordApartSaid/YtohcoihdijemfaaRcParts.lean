/- Rows of bytes, in a row of one's own: several rows more, out of a box. -/
import Derived.Test.YtohcoihdijemfaaWiRows
import Derived.Test.YtohcoihdijemfaaFlowT
namespace Go.Proofs.Ytohcoihdijemfaa
open Go.RowKit Ow Wi

theorem parts_all {w' : World} {base : Nat} {v' : Value} {L : List (List Nat)} {P : List (Option Addr × Nat × List Nat)} {xs : List Value} (hxl : xs.length = L.length)
    (ho : w'.ownsRow base 22 1 v' (L.length + P.length) (xs ++ P.map rowV))
    (hold : ∀ i, i < L.length → ∃ a c, xs[i]? = some (.slice a (L.getD i []).length c) ∧ BytesAt w' w'.heap.size a c (L.getD i []) ∧ ∀ pb po, a = some ⟨pb, po, none⟩ → v'.ownBlock ≠ some pb ∧ pb < w'.heap.size)
    (hnew : ∀ p ∈ P, BytesAt w' w'.heap.size p.1 p.2.1 p.2.2 ∧ ∀ pb po, p.1 = some ⟨pb, po, none⟩ → v'.ownBlock ≠ some pb ∧ pb < w'.heap.size) : Parts w' base v' (L ++ P.map (·.2.2)) := by
  refine ⟨xs ++ P.map rowV, by rw [List.length_append, List.length_map]; exact ho, fun i hi => ?_⟩
  rw [List.length_append, List.length_map] at hi
  by_cases h : i < L.length
  · obtain ⟨a1, c1, h1, h2, h3⟩ := hold i h
    have e : (L ++ P.map (·.2.2)).getD i [] = L.getD i [] := by rw [List.getD_eq_getElem?_getD, List.getD_eq_getElem?_getD, List.getElem?_append_left h]
    rw [e]
    exact ⟨a1, c1, by rw [List.getElem?_append_left (by omega)]; exact h1, h2, h3⟩
  · obtain ⟨j, rfl⟩ : ∃ j, i = L.length + j := ⟨i - L.length, by omega⟩
    have hj : j < P.length := by omega
    have e0 : P[j]? = some P[j] := List.getElem?_eq_getElem hj
    have e : (L ++ P.map (·.2.2)).getD (L.length + j) [] = P[j].2.2 := by
      rw [List.getD_eq_getElem?_getD, List.getElem?_append_right (by omega), show L.length + j - L.length = j by omega, List.getElem?_map, e0]; rfl
    rw [e]
    obtain ⟨h2, h3⟩ := hnew P[j] (List.getElem_mem hj)
    exact ⟨_, _, by rw [List.getElem?_append_right (by omega), show L.length + j - xs.length = j by omega, List.getElem?_map, e0]; rfl, h2, h3⟩
theorem parts_pushs (w : World) (base b : Nat) (T : TypeId) (v : Value) (L : List (List Nat)) (P : List (Option Addr × Nat × List Nat)) (h : Parts w base v L) (hB : Blk w b T (P.map rowV)) (hvb : v.ownBlock ≠ some b) (hp : 0 < P.length)
    (hP : ∀ p ∈ P, BytesAt w w.heap.size p.1 p.2.1 p.2.2 ∧ ∀ pb po, p.1 = some ⟨pb, po, none⟩ → v.ownBlock ≠ some pb ∧ pb < w.heap.size) (hb : base ≤ w.heap.size) (hk : L.length + P.length ≤ 1000000) :
    ∃ v' w', (Builtin.append_ #[28, 28] 28 #[v, .slice (some ⟨b, 0, none⟩) P.length P.length]).run Try.prog w = .ok v' w' ∧ Parts w' base v' (L ++ P.map (·.2.2)) ∧ w.grownBy w' v.ownBlock ∧ (∀ g, v'.ownBlock = some g → v.ownBlock = some g ∨ w.heap.size ≤ g) := by
  obtain ⟨xs, ho, hc⟩ := h
  have hnews : ∀ j u, (P.map rowV)[j]? = some u → w.cell? ((⟨b, 0, none⟩ : Addr).add j) = some u := fun j u hu => by
    have hadd : (⟨b, 0, none⟩ : Addr).add j = ⟨b, j, none⟩ := by unfold Addr.add; split <;> simp_all
    rw [hadd]; exact hB.cell hu
  have h1 : ∀ u ∈ P.map rowV, u.oneCell' = true := fun u hu => by
    obtain ⟨p, _, rfl⟩ := List.mem_map.1 hu; rfl
  have hxl : xs.length = L.length := by have := ho.1; omega
  rcases own_shape ho with ⟨rfl, h0⟩ | ⟨g, cap, rfl⟩
  · obtain rfl : L = [] := List.eq_nil_of_length_eq_zero h0
    obtain ⟨g, c', w', hr, hno, hgr⟩ := append_to_none elt_bytes w ⟨b, 0, none⟩ P.length P.length (P.map rowV) hp (List.length_map _) hnews h1 (by omega) (by omega)
    have hgn := (own_lt hno).2.1
    refine ⟨_, w', hr, ?_, hgr, fun g' e => by simp only [Value.ownBlock, Option.some.injEq] at e; omega⟩
    refine parts_all (xs := []) rfl (by rw [List.length_nil, Nat.zero_add, List.nil_append]; exact own_down hno hb) (fun i hi => by simp at hi) (fun p hp => ⟨((hP p hp).1.stay hgr).full, fun pb po e => ?_⟩)
    have h5 := ((hP p hp).2 pb po e).2
    have h6 := hgr.size
    exact ⟨fun e2 => by simp only [Value.ownBlock, Option.some.injEq] at e2; omega, by omega⟩
  · have hgl := (own_lt ho).1
    rcases append_cases elt_bytes w base g L.length cap xs ho ⟨b, 0, none⟩ P.length P.length (P.map rowV) (List.length_map _) hnews h1 (by omega) (by omega) with ⟨_, w', hr, hno, hgr⟩ | ⟨_, c', w', hr, hno, hgr⟩
    · refine ⟨_, w', hr, ?_, hgr, fun g' e => Or.inl e⟩
      refine parts_all hxl hno (fun i hi => ?_) (fun p hp => ⟨((hP p hp).1.apart hgr (Or.inr fun pb po e e2 => ?_)).full, fun pb po e => ⟨((hP p hp).2 pb po e).1, by have h5 := ((hP p hp).2 pb po e).2; have h6 := hgr.size; omega⟩⟩)
      · obtain ⟨a1, c1, e1, e2, e3⟩ := hc i hi
        exact ⟨a1, c1, e1, (e2.apart hgr (Or.inr fun pb po e e4 => (e3 pb po e).1 (by rw [e4]; rfl))).full, fun pb po e => ⟨(e3 pb po e).1, by have h5 := (e3 pb po e).2; have h6 := hgr.size; omega⟩⟩
      · exact ((hP p hp).2 pb po e).1 (by rw [e2]; rfl)
    · refine ⟨_, w', hr, ?_, gb_row hgr _, fun g' e => by simp only [Value.ownBlock, Option.some.injEq] at e; omega⟩
      refine parts_all hxl (own_down hno hb) (fun i hi => ?_) (fun p hp => ⟨((hP p hp).1.stay hgr).full, fun pb po e => ?_⟩)
      · obtain ⟨a1, c1, e1, e2, e3⟩ := hc i hi
        refine ⟨a1, c1, e1, (e2.stay hgr).full, fun pb po e => ?_⟩
        have h5 := (e3 pb po e).2
        have h6 := hgr.size
        exact ⟨fun e2 => by simp only [Value.ownBlock, Option.some.injEq] at e2; omega, by omega⟩
      · have h5 := ((hP p hp).2 pb po e).2
        have h6 := hgr.size
        exact ⟨fun e2 => by simp only [Value.ownBlock, Option.some.injEq] at e2; omega, by omega⟩
namespace Fg
/-- two rows of bytes, in a box -/
def It.two (n0 : Nat) (x y : List Nat) : It := ⟨fun v w => ∃ b g1 g2, v = .slice (some ⟨b, 0, none⟩) 2 2 ∧ (n0 ≤ b ∧ n0 ≤ g1 ∧ n0 ≤ g2) ∧ Blk w b 22 [.slice (some ⟨g1, 0, none⟩) 8 8, .slice (some ⟨g2, 0, none⟩) 8 8] ∧ Blk w g1 5 (x.map u8N) ∧ Blk w g2 5 (y.map u8N),
  fun _ _ _ ⟨b, g1, g2, e, h, h1, h2, h3⟩ hg => ⟨b, g1, g2, e, h, h1.grown hg (by simp), h2.grown hg (by simp), h3.grown hg (by simp)⟩⟩
end Fg
end Go.Proofs.Ytohcoihdijemfaa
