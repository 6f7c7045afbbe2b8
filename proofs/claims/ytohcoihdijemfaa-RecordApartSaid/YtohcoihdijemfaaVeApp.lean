/- Dots appended to a row of one's own. -/
import Derived.Test.YtohcoihdijemfaaVeRow
import Derived.Lib.AppendZeros
namespace Go.Proofs.Ytohcoihdijemfaa
open Go.RowKit Ve
namespace Ve
abbrev OwnD' (w : World) (base : Nat) (v : Value) (n : Nat) (l : List D) : Prop := w.ownsRow base 43 2 v n (dotsC l)
/-- dots that lie somewhere, appended to a row of one's own -/
theorem append_dots (w : World) (base B : Nat) (v : Value) (n0 : Nat) (l0 : List D) (a : Option Addr) (m c : Nat) (p : List D) (hown : OwnD' w base v n0 l0) (hm : p.length = m) (hp : DotsAt w B a p) (ha : a = none → c = 0) (hn : n0 + m ≤ 1000000000) (hbase : base ≤ w.heap.size) :
    ∃ v' w', (Builtin.append_ #[23, 23] 23 #[v, .slice a m c]).run Try.prog w = .ok v' w' ∧ OwnD' w' base v' (n0 + m) (l0 ++ p) ∧ w.grownBy w' v.ownBlock := by
  obtain ⟨i, hi, hz, hs, hb⟩ := info_dot
  rcases a with _ | ad
  · have h0 : p.length = 0 := by
      rcases hp.cells with h | ⟨_, _, h, _⟩
      · exact h
      · cases h
    obtain rfl : p = [] := List.eq_nil_of_length_eq_zero h0
    obtain rfl : m = 0 := by rw [← hm]; rfl
    obtain rfl := ha rfl
    exact ⟨v, w, run_append_owned_none (P := Try.prog) w base 23 23 43 i 2 Try.underlying23 hi v n0 _ hown, by simpa using hown, gb_refl _ _⟩
  · obtain ⟨v', w', hr, ho, hg, _⟩ := run_append_own (P := Try.prog) w base 23 23 43 i (.agg #[iV 0, iV 0]) 2 16 Try.underlying23 hi hz hs hb rfl (by decide) v n0 (dotsC l0) hown ad m c (dotsC p) (by rw [dotsC_len, hm])
      (fun j u hu => by
        have hj : j < p.length * 2 := by have := (List.getElem?_eq_some_iff.1 hu).1; rwa [dotsC_len] at this
        obtain ⟨pb, po, e, _, hc⟩ := hp.cells.resolve_left (by omega)
        cases e
        obtain ⟨q, hq⟩ : ∃ q, j = q * 2 ∨ j = q * 2 + 1 := ⟨j / 2, by omega⟩
        have hql : q < p.length := by omega
        obtain ⟨e1, e2⟩ := dotsC_at p q hql
        obtain ⟨f1, f2⟩ := hc q hql
        rw [Addr.add_lit]
        rcases hq with rfl | rfl
        · rw [e1] at hu; rw [f1]; exact hu
        · rw [e2] at hu; rw [← Nat.add_assoc, f2]; exact hu) (dotsC_cell p) (by unfold maxLen; omega) (by omega) hbase
    exact ⟨v', w', hr, by unfold OwnD'; rw [dotsC_app]; exact ho, hg⟩
theorem own_shapeD {w : World} {base n : Nat} {v : Value} {l : List D} (h : OwnD' w base v n l) : ∃ a c, v = .slice a n c := by
  rcases h.2 with ⟨rfl, h0⟩ | ⟨g, c, _, rfl, _⟩
  · exact ⟨none, 0, by rw [h0]⟩
  · exact ⟨_, _, rfl⟩
theorem gb_ownD' {w0 w w' : World} {base n : Nat} {v : Value} {l : List D} (h : w0.grownBy w none) (ho : OwnD' w base v n l) (hb : w0.heap.size ≤ base) (hg : w.grownBy w' v.ownBlock) : w0.grownBy w' none :=
  ⟨hg.os.trans h.os, hg.tape.trans h.tape, hg.output.trans h.output, Nat.le_trans h.size hg.size, fun k hk _ => (hg.block k (Nat.lt_of_lt_of_le hk h.size) (fun e => by have := (ho.lt k e.symm).1; omega)).trans (h.block k hk (by simp))⟩
theorem dots_one' (w : World) (x y : Int) (T : TypeId) : DotsAt (w.alloc (.cells #[iV x, iV y] T)) (w.heap.size + 1) (some ⟨w.heap.size, 0, none⟩) [(x, y)] := by
  have hB : Blk (w.alloc (.cells #[iV x, iV y] T)) w.heap.size T [iV x, iV y] := Blk.new w _ _
  refine ⟨by simp, Or.inr ⟨w.heap.size, 0, rfl, by omega, fun i hi => ?_⟩⟩
  obtain rfl : i = 0 := by simp at hi; omega
  exact ⟨hB.cell (i := 0) rfl, hB.cell (i := 1) rfl⟩
end Ve
end Go.Proofs.Ytohcoihdijemfaa
