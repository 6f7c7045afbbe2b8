/- Rows of dots that are one's own: their cells, appends, copies. -/
import Derived.Test.YtohcoihdijemfaaVeMem
import Derived.Test.YtohcoihdijemfaaFlowS
import Derived.Laws.IdiomCopy
import Derived.Lib.AppendZerosOnto
namespace Go.Proofs.Ytohcoihdijemfaa
open Go.RowKit Ve
namespace Ve
def dC (d : D) : List Value := [iV d.1, iV d.2]
def dotsC (l : List D) : List Value := l.flatMap dC
theorem dotsC_len (l : List D) : (dotsC l).length = l.length * 2 := by
  induction l with
  | nil => rfl
  | cons d r ih => rw [dotsC, List.flatMap_cons, List.length_append, ← dotsC, ih]; simp [dC]; omega
theorem dotsC_app (l m : List D) : dotsC (l ++ m) = dotsC l ++ dotsC m := by simp [dotsC]
theorem dotsC_one (d : D) : dotsC [d] = [iV d.1, iV d.2] := rfl
theorem dotsC_take (l : List D) (k : Nat) : (dotsC l).take (k * 2) = dotsC (l.take k) := by
  induction l generalizing k with
  | nil => simp [dotsC]
  | cons d r ih =>
    cases k with
    | zero => simp [dotsC]
    | succ k =>
      show ([iV d.1, iV d.2] ++ dotsC r).take ((k + 1) * 2) = [iV d.1, iV d.2] ++ dotsC (r.take k)
      rw [← ih, show (k + 1) * 2 = k * 2 + 2 by omega]
      rfl
theorem dotsC_drop (l : List D) (k : Nat) : (dotsC l).drop (k * 2) = dotsC (l.drop k) := by
  induction l generalizing k with
  | nil => simp [dotsC]
  | cons d r ih =>
    cases k with
    | zero => simp [dotsC]
    | succ k =>
      show ([iV d.1, iV d.2] ++ dotsC r).drop ((k + 1) * 2) = dotsC (r.drop k)
      rw [← ih, show (k + 1) * 2 = k * 2 + 2 by omega]
      rfl
theorem dotsC_at (l : List D) (i : Nat) (h : i < l.length) : (dotsC l)[i * 2]? = some (iV (l.getD i z0).1) ∧ (dotsC l)[i * 2 + 1]? = some (iV (l.getD i z0).2) := by
  have hd : (dotsC l).drop (i * 2) = iV (l.getD i z0).1 :: iV (l.getD i z0).2 :: dotsC (l.drop (i + 1)) := by
    rw [dotsC_drop, drop_at l i h]; rfl
  constructor
  · have := congrArg (fun q => q[0]?) hd
    simpa [List.getElem?_drop] using this
  · have := congrArg (fun q => q[1]?) hd
    simpa [List.getElem?_drop] using this
theorem dotsC_cell (l : List D) : ∀ v ∈ dotsC l, v.oneCell' = true := by
  intro v hv
  obtain ⟨d, _, h⟩ := List.mem_flatMap.1 hv
  simp only [dC, List.mem_cons, List.not_mem_nil, or_false] at h
  rcases h with rfl | rfl <;> rfl
theorem info_dot : ∃ i, Try.prog.info? 43 = some i ∧ i.zero = some (.agg #[iV 0, iV 0]) ∧ i.size = 2 ∧ i.bytes = 16 := by
  have h : (Try.prog.info? 43).map (fun i => (i.zero, i.size, i.bytes)) = some (some (.agg #[iV 0, iV 0]), 2, 16) := by kernel_rfl
  cases hi : Try.prog.info? 43 with
  | none => rw [hi] at h; cases h
  | some i =>
    rw [hi] at h
    simp only [Option.map_some, Option.some.injEq, Prod.mk.injEq] at h
    exact ⟨i, rfl, h.1, h.2.1, h.2.2⟩
/-- a row of one's own, as dots -/
theorem own_dots {w : World} {base n : Nat} {v : Value} {l : List D} (h : w.ownsRow base 43 2 v n (dotsC l)) : ∃ a c, v = .slice a n c ∧ l.length = n ∧ n ≤ c ∧ DotsAt w w.heap.size a l := by
  have hl : l.length = n := by have := h.1; rw [dotsC_len] at this; omega
  rcases h.2 with ⟨rfl, rfl⟩ | ⟨g, c, cur, rfl, hb, hg, hnc, hcm, hcs, ht⟩
  · exact ⟨none, 0, rfl, hl, Nat.le_refl _, Nat.le_refl _, Or.inl hl⟩
  · refine ⟨_, c, rfl, hl, hnc, Nat.le_refl _, Or.inr ⟨g, 0, rfl, lt_of_block hg, fun i hi => ?_⟩⟩
    obtain ⟨e1, e2⟩ := dotsC_at l i hi
    rw [Nat.zero_add]
    have key : ∀ j u, (dotsC l)[j]? = some u → w.cell? ⟨g, j, none⟩ = some u := fun j u hu => by
      have := h.cells (g := g) rfl j u hu
      rwa [Addr.add_lit, Nat.zero_add] at this
    exact ⟨key _ _ e1, key _ _ e2⟩
theorem run_copy2 (w : World) (dT sT ty : TypeId) (hu : Try.prog.underlying dT = some (.slice 43)) (b o dLen dCap : Nat) (a : Addr) (sLen sCap m : Nat) (cs : List Value) (hm : Nat.min sLen dLen = m) (hn : cs.length = m * 2)
    (hsrc : ∀ j v, cs[j]? = some v → w.cell? (a.add j) = some v) (hc : ∀ j, j < cs.length → (w.cell? ⟨b, o + j, none⟩).isSome = true) (hf : ∀ j, j < cs.length → w.frozen? ⟨b, o + j, none⟩ = false) (h1 : ∀ v ∈ cs, v.oneCell' = true) :
    (Builtin.copy_ #[dT, sT] ty #[.slice (some ⟨b, o, none⟩) dLen dCap, .slice (some a) sLen sCap]).run Try.prog w = .ok (goInt m) (w.setCells b o cs) := by
  have hl := run_loadCells_list (P := Try.prog) w a cs hsrc
  have hst := run_storeCells_cells (P := Try.prog) b o cs 0 w (by simpa using hc) (by simpa using hf) h1
  obtain ⟨i, hi, _, hs, _⟩ := info_dot
  rw [hn] at hl
  simp [Builtin.copy_, run_underlying hu, Builtin.lenOf, Builtin.firstCells, sizeOf, typeInfo, hi, hs, hm, hl, hst]
theorem append_args (w : World) (t tx ty e' : TypeId) (ht : Try.prog.underlying t = some (.slice 43)) (htx : Try.prog.underlying tx = some (.slice e')) (a : Option Addr) (n c : Nat) (x : Value) :
    (Builtin.append_ #[t, tx] ty #[.slice a n c, x]).run Try.prog w = (Builtin.append_ #[t, t] ty #[.slice a n c, x]).run Try.prog w := by
  obtain ⟨i, hi, _, hs, _⟩ := info_dot
  simp [Builtin.append_, run_underlying ht, run_underlying htx, sizeOf, typeInfo, hi, hs]
end Ve
end Go.Proofs.Ytohcoihdijemfaa
