/- The kit's marks of dots; its lent dots: a copy with marks behind it. -/
import Derived.Test.YtkffbaihknhefaaGreatVeRow
import Derived.Laws.MakeOwn
import Derived.Lib.AppendZeros
import Derived.WalkKit
import Derived.Lib.Hide
import Derived.WalkSpells
import Derived.WalkLawsBesides
import Derived.Outline
namespace Go.Proofs.YtkffbaihknhefaaGreat
open Go.RowKit Ve
namespace Ve
/-- the number in a mark -/
def mkN (k i : Nat) : Nat := 1000003 * (k + 7) + i
set_option maxHeartbeats 400000 in
theorem mark_any (k i : Nat) (w : World) (hk : k ≤ 1000000) (hi : i ≤ 1000000) :
    Calls Tryz.prog 33 #[.int .i64 k, .int .i64 i] w fun e w' => e = .returned (.int .i64 (mkN k i : Nat)) ∧ w = w' := by
  go_enter Tryz.func33, Tryz.ntmps33
  go_wp2
  go_ret
  refine ⟨?_, rfl⟩
  unfold mkN
  congr 2
def MarkOut (w : World) (m : Nat) (e : Ending) (w' : World) : Prop := e = .returned (.agg #[iV 0, iV m]) ∧ w.grownBy w' none
set_option maxHeartbeats 400000 in
theorem markDot_any (k i : Nat) (w : World) (hk : k ≤ 1000000) (hi : i ≤ 1000000) :
    Calls Tryz.prog 23 #[.int .i64 k, .int .i64 i] w (MarkOut w (mkN k i)) := by
  have hm := mark_any k i (w.alloc (.cells #[.int .i64 0, .int .i64 0] 25)) hk hi
  generalize mkN k i = m at hm ⊢
  go_enter Tryz.func23, Tryz.ntmps23
  go_wp2_with fail
  refine hm.mono ?_
  rintro e w' ⟨rfl, rfl⟩
  go_wp2
  exact bodyPost_ret (v := .agg #[iV 0, iV m]) (by simp [results, Tryz.results23, go_sem]) rfl ⟨rfl, gb_alloc (gb_refl _ _) _⟩
/-- marks, one behind the other -/
def marksD (k j : Nat) : List D := (List.range j).map fun i => (0, (mkN k i : Int))
theorem marksD_len (k j : Nat) : (marksD k j).length = j := by simp [marksD]
theorem marksD_next (k j : Nat) : marksD k (j + 1) = marksD k j ++ [(0, (mkN k j : Int))] := by simp [marksD, List.range_succ]
theorem marksD_get (k j i : Nat) (h : i < j) : (marksD k j).getD i z0 = (0, (mkN k i : Int)) := by
  unfold marksD; rw [List.getD_eq_getElem?_getD, List.getElem?_map, List.getElem?_range h]; rfl
abbrev OwnD' (w : World) (base : Nat) (v : Value) (n : Nat) (l : List D) : Prop := w.ownsRow base 25 2 v n (dotsC l)
/-- dots that lie somewhere, appended to a row of one's own -/
theorem append_dots (w : World) (base B : Nat) (v : Value) (n0 : Nat) (l0 : List D) (a : Option Addr) (m c : Nat) (p : List D) (hown : OwnD' w base v n0 l0) (hm : p.length = m) (hp : DotsAt w B a p) (ha : a = none → c = 0) (hn : n0 + m ≤ 1000000000) (hbase : base ≤ w.heap.size) :
    ∃ v' w', (Builtin.append_ #[26, 26] 26 #[v, .slice a m c]).run Tryz.prog w = .ok v' w' ∧ OwnD' w' base v' (n0 + m) (l0 ++ p) ∧ w.grownBy w' v.ownBlock := by
  obtain ⟨i, hi, hz, hs, hb⟩ := info_dot
  rcases a with _ | ad
  · have h0 : p.length = 0 := by
      rcases hp.cells with h | ⟨_, _, h, _⟩
      · exact h
      · cases h
    obtain rfl : p = [] := List.eq_nil_of_length_eq_zero h0
    obtain rfl : m = 0 := by rw [← hm]; rfl
    obtain rfl := ha rfl
    exact ⟨v, w, run_append_owned_none (P := Tryz.prog) w base 26 26 25 i 2 Tryz.underlying26 hi v n0 _ hown, by simpa using hown, gb_refl _ _⟩
  · obtain ⟨v', w', hr, ho, hg, _⟩ := run_append_own (P := Tryz.prog) w base 26 26 25 i (.agg #[iV 0, iV 0]) 2 16 Tryz.underlying26 hi hz hs hb rfl (by decide) v n0 (dotsC l0) hown ad m c (dotsC p) (by rw [dotsC_len, hm])
      (fun j u hu => by
        have hj : j < p.length * 2 := by have := (List.getElem?_eq_some_iff.1 hu).1; rwa [dotsC_len] at this
        obtain ⟨pb, po, e, _, hc⟩ := hp.cells.resolve_left (by omega)
        cases e
        obtain ⟨q, hq⟩ : ∃ q, j = q * 2 ∨ j = q * 2 + 1 := ⟨j / 2, by omega⟩
        have hql : q < p.length := by omega
        obtain ⟨e1, e2⟩ := dotsC_at p q hql
        obtain ⟨f1, f2⟩ := hc q hql
        rw [Addr.add_lit]
        rcases hq with rfl | rfl
        · rw [e1] at hu; rw [f1]; exact hu
        · rw [e2] at hu; rw [← Nat.add_assoc, f2]; exact hu) (dotsC_cell p) (by unfold maxLen; omega) (by omega) hbase
    exact ⟨v', w', hr, by unfold OwnD'; rw [dotsC_app]; exact ho, hg⟩
theorem own_shapeD {w : World} {base n : Nat} {v : Value} {l : List D} (h : OwnD' w base v n l) : ∃ a c, v = .slice a n c := by
  rcases h.2 with ⟨rfl, h0⟩ | ⟨g, c, _, rfl, _⟩
  · exact ⟨none, 0, by rw [h0]⟩
  · exact ⟨_, _, rfl⟩
theorem gb_ownD' {w0 w w' : World} {base n : Nat} {v : Value} {l : List D} (h : w0.grownBy w none) (ho : OwnD' w base v n l) (hb : w0.heap.size ≤ base) (hg : w.grownBy w' v.ownBlock) : w0.grownBy w' none :=
  ⟨hg.os.trans h.os, hg.tape.trans h.tape, hg.output.trans h.output, Nat.le_trans h.size hg.size, fun k hk _ => (hg.block k (Nat.lt_of_lt_of_le hk h.size) (fun e => by have := (ho.lt k e.symm).1; omega)).trans (h.block k hk (by simp))⟩
theorem dots_one' (w : World) (x y : Int) (T : TypeId) : DotsAt (w.alloc (.cells #[iV x, iV y] T)) (w.heap.size + 1) (some ⟨w.heap.size, 0, none⟩) [(x, y)] := by
  have hB : Blk (w.alloc (.cells #[iV x, iV y] T)) w.heap.size T [iV x, iV y] := Blk.new w _ _
  refine ⟨by simp, Or.inr ⟨w.heap.size, 0, rfl, by omega, fun i hi => ?_⟩⟩
  obtain rfl : i = 0 := by simp at hi; omega
  exact ⟨hB.cell (i := 0) rfl, hB.cell (i := 1) rfl⟩
/-- what is lent: a copy in a new block, marks behind it -/
def LentOut (w : World) (n : Nat) (p : List D) (e : Ending) (w' : World) : Prop :=
  ∃ g c, e = .returned (.slice (some ⟨g, 0, none⟩) n c) ∧ n + 12 ≤ c ∧ OwnD' w' w.heap.size (.slice (some ⟨g, 0, none⟩) (n + 12) c) (n + 12) (p ++ marksD 1 12) ∧ w.grownBy w' none
set_option maxHeartbeats 1000000 in
theorem lentD_any (n cap B : Nat) (p : List D) (a : Option Addr) (w : World) (hn : p.length = n) (hP : DotsAt w B a p) (ha : a = none → cap = 0) (hlen : n ≤ 30000) :
    Calls Tryz.prog 11 #[.slice a n cap] w (LentOut w n p) := by
  obtain ⟨i, hi, hz, hs, hb⟩ := info_dot
  obtain ⟨w1, hmk, ho1, hg1⟩ := run_make_own (P := Tryz.prog) w w.heap.size 26 25 i (.agg #[iV 0, iV 0]) 2 Tryz.underlying26 hi hz hs .i64 .i64 (n + 12) (by rw [hb]; omega) (by unfold maxLen; omega) (Nat.le_refl _)
  obtain ⟨v2, w2, hap, ho2, hg2⟩ := append_dots w1 w.heap.size B _ 0 [] a n cap p ho1 hn (hP.stay hg1) ha (by omega) hg1.size
  have hg02 := gb_ownD' hg1 (l := []) ho1 (Nat.le_refl _) hg2
  rw [Nat.zero_add, List.nil_append] at ho2
  have hmk' : (Instr.makeSlice 26 (.int .i64 0) (.int .i64 ((n : Int) + 12))).run Tryz.prog w = .ok (.slice (some ⟨w.heap.size, 0, none⟩) 0 (n + 12)) w1 := hmk
  obtain ⟨a2, c2, rfl⟩ := own_shapeD ho2
  have H2 := Lib.hid (And.intro hap (And.intro ho2 hg02)); clear hap ho2 hg02 hg1 hg2 ho1 hmk hP hi hz hs hb
  obtain ⟨Q, hQ⟩ : ∃ Q, Q = LentOut w n p := ⟨_, rfl⟩
  rw [← hQ]
  have HQ := Lib.hid hQ; clear hQ
  go_enter Tryz.func11, Tryz.ntmps11
  go_wp2_with (at_builtin; refine Lib.wpList_append_run _ rfl _ _ _ _ rfl _ _ rfl rfl _ _ H2.out.1 ?_)
  go_loopw [3, 4] (fun v i wr => ∃ (j m c : Nat) (a : Option Addr), j ≤ 12 ∧ Hid (m = n + j) ∧ i = .int .i64 j ∧ v = .slice a m c ∧ Hid (OwnD' wr w.heap.size (.slice a m c) m (p ++ marksD 1 j) ∧ w.grownBy wr none)) (fun _ i _ => 12 - (intOf i).toNat)
  case atStart => exact ⟨0, n, c2, a2, by omega, rfl, rfl, rfl, by rw [show marksD 1 0 = [] from rfl, List.append_nil]; exact H2.out.2⟩
  case round =>
    obtain ⟨j, m, c, a', hj, hm, rfl, rfl, HO⟩ := hrel
    by_cases hlt : j < 12
    · have i0 : (j : Int) < 12 := by omega
      have hmk := Lib.hid (markDot_any 1 j wr (by decide) (by omega))
      obtain ⟨y, hy⟩ : ∃ y, y = mkN 1 j := ⟨_, rfl⟩
      rw [← hy] at hmk
      go_wp2_with fail
      refine hmk.out.mono ?_
      rintro e w4 ⟨rfl, hg4⟩
      obtain ⟨v3, w3, hap, ho3, hg3⟩ := append_dots (w4.alloc (.cells #[iV 0, iV y] 25)) w.heap.size (w4.heap.size + 1) (.slice a' m c) m (p ++ marksD 1 j) (some ⟨w4.heap.size, 0, none⟩) 1 1 [(0, (y : Int))] ((HO.out.1.kept hg4 (by cases (Value.slice a' m c).ownBlock <;> simp)).alloc _) rfl (dots_one' w4 0 y _) (fun h => by cases h) (by have := hm.out; omega) (by have := HO.out.2.size; have := hg4.size; simp; omega)
      have hg5 := gb_ownD' (gb_trans HO.out.2 (gb_trans hg4 (gb_alloc (gb_refl _ none) (.cells #[iV 0, iV y] 25)))) (l := p ++ marksD 1 j) ((HO.out.1.kept hg4 (by cases (Value.slice a' m c).ownBlock <;> simp)).alloc _) (Nat.le_refl _) hg3
      obtain ⟨a5, c5, rfl⟩ := own_shapeD ho3
      rw [List.append_assoc, hy, ← marksD_next] at ho3
      have HN := Lib.hid (And.intro hap (And.intro ho3 hg5)); clear hap ho3 hg5 hg3 hg4 hy hmk
      go_wp2_with (at_builtin; refine Lib.wpList_append_run _ rfl _ _ _ _ rfl _ _ rfl rfl _ _ HN.out.1 ?_)
      go_roundw
      case rel => exact ⟨j + 1, m + 1, c5, a5, by omega, by have := hm.out; show m + 1 = n + (j + 1); omega, by go_num, rfl, HN.out.2⟩
      case measure => simp [intOf]; omega
    · obtain rfl : j = 12 := by omega
      have e : m = n + 12 := hm.out
      subst e
      obtain ⟨g, rfl, hc⟩ : ∃ g, a' = some ⟨g, 0, none⟩ ∧ n + 12 ≤ c := by
        rcases HO.out.1.2 with ⟨_, h⟩ | ⟨g, c', _, e, _, _, h, _⟩
        · omega
        · simp only [Value.slice.injEq, true_and] at e; exact ⟨g, e.1, by omega⟩
      have HF : Hid (Q (.returned (.slice (some ⟨g, 0, none⟩) n c)) wr) := by rw [HQ.out]; exact ⟨g, c, rfl, hc, HO.out.1, HO.out.2⟩
      have i1 : (n : Int) ≤ (c : Int) := by omega
      clear HO hm
      go_wp2
      exact HF.out
end Ve
end Go.Proofs.YtkffbaihknhefaaGreat
