/- A vector with dots: Add. -/
import Derived.Test.YtkffbaihknhefaaGreatVeJoin
namespace Go.Proofs.YtkffbaihknhefaaGreat
open Go.RowKit Ve
namespace Ve
theorem info_row : ∃ i, Tryz.prog.info? 26 = some i ∧ i.zero = some (.slice none 0 0) ∧ i.size = 1 ∧ i.bytes = 24 := by
  have h : (Tryz.prog.info? 26).map (fun i => (i.zero, i.size, i.bytes)) = some (some (.slice none 0 0), 1, 24) := by kernel_rfl
  cases hi : Tryz.prog.info? 26 with
  | none => rw [hi] at h; cases h
  | some i =>
    rw [hi] at h
    simp only [Option.map_some, Option.some.injEq, Prod.mk.injEq] at h
    exact ⟨i, rfl, h.1, h.2.1, h.2.2⟩
/-- a row of rows that is one's own, a row more -/
theorem append_row (w : World) (base n : Nat) (v : Value) (xs : List Value) (a : Option Addr) (m c : Nat) (hown : w.ownsRow base 26 1 v n xs) (hn : n ≤ 1000000000000) (hbase : base ≤ w.heap.size) :
    ∃ a' c' w', (Builtin.append_ #[27, 27] 27 #[v, .slice (some ⟨w.heap.size, 0, none⟩) 1 1]).run Tryz.prog (w.alloc (.cells #[.slice a m c] 26)) = .ok (.slice a' (n + 1) c') w' ∧
      w'.ownsRow base 26 1 (.slice a' (n + 1) c') (n + 1) (xs ++ [.slice a m c]) ∧ w.grownBy w' v.ownBlock := by
  obtain ⟨i, hi, hz, hs, hb⟩ := info_row
  have hB : Blk (w.alloc (.cells #[.slice a m c] 26)) w.heap.size 26 [.slice a m c] := Blk.new w _ _
  obtain ⟨v', w', hr, ho, hg, _⟩ := run_append_own (P := Tryz.prog) (w.alloc (.cells #[.slice a m c] 26)) base 27 27 26 i (.slice none 0 0) 1 24 Tryz.underlying27 hi hz hs hb rfl (by decide) v n xs (hown.alloc _) ⟨w.heap.size, 0, none⟩ 1 1 [.slice a m c] rfl
    (fun j u hu => by rw [Addr.add_lit, Nat.zero_add]; exact hB.cell hu) (fun u hu => by simp at hu; rw [hu]; rfl) (by unfold maxLen; omega) (by omega) (by simp; omega)
  obtain ⟨a', c', rfl⟩ : ∃ a' c', v' = .slice a' (n + 1) c' := by
    rcases ho.2 with ⟨_, h0⟩ | ⟨g, c1, _, e, _⟩
    · omega
    · exact ⟨_, _, e⟩
  exact ⟨a', c', w', hr, ho, gb_trans (gb_alloc (gb_refl _ _) _) hg⟩
/-- the cells of v's row, and of each dot alone -/
def rowsC (a : Option Addr) (n c pb po cap : Nat) (k : Nat) : List Value := .slice a n c :: (List.range k).map fun i => .slice (some ⟨pb, po + i * 2, none⟩) 1 (cap - i)
theorem rowsC_more (a : Option Addr) (n c pb po cap k : Nat) : rowsC a n c pb po cap (k + 1) = rowsC a n c pb po cap k ++ [.slice (some ⟨pb, po + k * 2, none⟩) 1 (cap - k)] := by
  simp [rowsC, List.range_succ]
theorem rowsC_len (a : Option Addr) (n c pb po cap k : Nat) : (rowsC a n c pb po cap k).length = k + 1 := by simp [rowsC]
theorem rows_dots {w : World} {a a' : Option Addr} {base c pb po cap c' : Nat} {l ds : List D} (ho : w.ownsRow base 26 1 (.slice a' (ds.length + 1) c') (ds.length + 1) (rowsC a l.length c pb po cap ds.length)) (hl : DotsAt w w.heap.size a l)
    (hd : ds.length = 0 ∨ (pb < w.heap.size ∧ ∀ i, i < ds.length → w.cell? ⟨pb, po + i * 2, none⟩ = some (iV (ds.getD i z0).1) ∧ w.cell? ⟨pb, po + i * 2 + 1, none⟩ = some (iV (ds.getD i z0).2))) :
    DRowsAt w w.heap.size a' (l :: ds.map fun d => [d]) := by
  refine ⟨Nat.le_refl _, ?_⟩
  rcases ho.2 with ⟨_, h0⟩ | ⟨g, c1, cur, e, hb, hg, hrest⟩
  · omega
  · simp only [Value.slice.injEq, true_and] at e
    obtain ⟨rfl, rfl⟩ := e
    refine Or.inr ⟨g, 0, rfl, lt_of_block hg, fun i hi => ?_⟩
    simp only [List.length_cons, List.length_map] at hi
    have key : ∀ u, (rowsC a l.length c pb po cap ds.length)[i]? = some u → w.cell? ⟨g, 0 + i, none⟩ = some u := fun u hu => by
      have := ho.cells (g := g) rfl i u hu
      rwa [Addr.add_lit] at this
    cases i with
    | zero => exact ⟨a, c, key _ rfl, hl⟩
    | succ i =>
      obtain ⟨hp, hc⟩ := hd.resolve_left (by omega)
      have hi' : i < ds.length := by omega
      have e1 : (l :: ds.map fun d => [d]).getD (i + 1) [] = [ds.getD i z0] := by
        rw [List.getD_cons_succ, List.getD_eq_getElem?_getD, List.getElem?_map, List.getD_eq_getElem?_getD, List.getElem?_eq_getElem hi']; rfl
      rw [e1]
      refine ⟨some ⟨pb, po + i * 2, none⟩, cap - i, key _ (by simp [rowsC, hi']), Nat.le_refl _, Or.inr ⟨pb, po + i * 2, rfl, hp, fun j hj => ?_⟩⟩
      obtain rfl : j = 0 := by simp at hj; omega
      exact hc i hi'
set_option maxHeartbeats 1000000 in
theorem add_any (B1 B2 n1 n2 c1 c2 : Nat) (a1 a2 : Option Addr) (l ds : List D) (w : World) (hn1 : l.length = n1) (hn2 : ds.length = n2) (h1 : DotsAt w B1 a1 l) (h2 : DotsAt w B2 a2 ds) (hc1 : n1 < 9223372036854775808) (hc2 : n2 ≤ 1000000000) (hcap : n2 ≤ c2) (hcap2 : c2 < 9223372036854775808) :
    Calls Tryz.prog 18 #[.slice a1 n1 c1, .slice a2 n2 c2] w (JoinOut w (addF l ds)) := by
  have H1 := Lib.hid h1; clear h1
  have H2 := Lib.hid h2; clear h2
  have HN := Lib.hid (And.intro hn1 hn2); clear hn1 hn2
  obtain ⟨Q, hQ⟩ : ∃ Q, Q = JoinOut w (addF l ds) := ⟨_, rfl⟩
  rw [← hQ]
  have HQ := Lib.hid hQ; clear hQ
  obtain ⟨pb, po, hpp⟩ : ∃ pb po, n2 = 0 ∨ (a2 = some ⟨pb, po, none⟩ ∧ pb < w.heap.size ∧ ∀ i, i < n2 → w.cell? ⟨pb, po + i * 2, none⟩ = some (iV (ds.getD i z0).1) ∧ w.cell? ⟨pb, po + i * 2 + 1, none⟩ = some (iV (ds.getD i z0).2)) := by
    have := H2.out.lim
    rcases H2.out.cells with h | ⟨pb, po, h, hp, hc⟩
    · exact ⟨0, 0, Or.inl (by rw [← HN.out.2]; exact h)⟩
    · exact ⟨pb, po, Or.inr ⟨h, by omega, by rw [HN.out.2] at hc; exact hc⟩⟩
  have HP := Lib.hid hpp; clear hpp
  have HI0 : Hid (w.grownBy (w.alloc (.cells #[.slice a1 n1 c1] 26)) none ∧ (w.alloc (.cells #[.slice a1 n1 c1] 26)).ownsRow w.heap.size 26 1 (.slice (some ⟨w.heap.size, 0, none⟩) 1 1) 1 (rowsC a1 n1 c1 pb po c2 0)) :=
    ⟨gb_alloc (gb_refl _ _) _, World.ownsRow_lit w #[.slice a1 n1 c1] 1 (Nat.le_refl _) (by unfold maxLen; omega) rfl⟩
  go_enter Tryz.func18, Tryz.ntmps18
  go_wp2
  go_loopw [5, 11] (fun v i wr => ∃ (k c : Nat) (a : Option Addr), k ≤ n2 ∧ i = .int .i64 k ∧ v = .slice a (k + 1) c ∧ Hid (w.grownBy wr none ∧ wr.ownsRow w.heap.size 26 1 (.slice a (k + 1) c) (k + 1) (rowsC a1 n1 c1 pb po c2 k))) (fun _ i _ => n2 - (intOf i).toNat)
  case atStart => exact ⟨0, 1, _, by omega, rfl, rfl, HI0.out⟩
  case round =>
    obtain ⟨k, c, a, hk, rfl, rfl, HI⟩ := hrel
    by_cases hlt : k < n2
    · obtain ⟨rfl, hpb, _⟩ := HP.out.resolve_left (by omega)
      obtain ⟨a', c', w', hr, ho, hg⟩ := append_row wr w.heap.size (k + 1) (.slice a (k + 1) c) _ (some ⟨pb, po + k * 2, none⟩) 1 (c2 - k) HI.out.2 (by omega) HI.out.1.size
      have HN4 : Hid (w.grownBy w' none ∧ w'.ownsRow w.heap.size 26 1 (.slice a' (k + 1 + 1) c') (k + 1 + 1) (rowsC a1 n1 c1 pb po c2 (k + 1))) :=
        ⟨Ow.gb_own HI.out.1 HI.out.2 (Nat.le_refl _) hg, by rw [rowsC_more]; exact ho⟩
      clear ho hg
      have i1 : (k : Int) < (n2 : Int) := by omega
      have i2 : (k : Int) + 1 ≤ (c2 : Int) := by omega
      have i3 : ¬ (c2 = k) := by omega
      have i4 : ((k : Int) + 1).toNat = k + 1 := by omega
      go_wp2_with (at_builtin; refine Lib.wpList_append_run _ rfl _ _ _ _ rfl _ _ rfl rfl _ _ hr ?_)
      go_roundw
      case rel => exact ⟨k + 1, c', a', by omega, by go_num, rfl, HN4⟩
      case measure => simp [intOf]; omega
    · obtain rfl : k = n2 := by omega
      have hR : DRowsAt wr wr.heap.size a (l :: ds.map fun d => [d]) := by
        have hg := HI.out.1
        have ho := HI.out.2
        rw [← HN.out.1, ← HN.out.2] at ho
        refine rows_dots ho ((H1.out.stay hg).up' (H1.out.stay hg).lim (Nat.le_refl _)) ?_
        rw [HN.out.2]
        rcases HP.out with h | ⟨_, hp, hc⟩
        · exact Or.inl h
        · refine Or.inr ⟨Nat.lt_of_lt_of_le hp hg.size, fun i hi => ?_⟩
          obtain ⟨e1, e2⟩ := hc i hi
          exact ⟨by rw [gb_cell hg (by exact hp) (by simp)]; exact e1, by rw [gb_cell hg (by exact hp) (by simp)]; exact e2⟩
      have hJ := join_any wr.heap.size (k + 1) c a (l :: ds.map fun d => [d]) wr (by rw [List.length_cons, List.length_map, HN.out.2]) hR (by omega) (fun r hr => by
        rcases List.mem_cons.1 hr with rfl | hr
        · rw [HN.out.1]; exact hc1
        · obtain ⟨d, _, rfl⟩ := List.mem_map.1 hr
          show 1 < _; decide)
      have HJ := Lib.hid hJ
      clear hR hJ
      go_wp2_with fail
      refine HJ.out.mono ?_
      rintro e w' ⟨v, rfl, ho, hg⟩
      have HO : Hid (Q (.returned v) w') := by
        rw [HQ.out]
        refine ⟨v, rfl, ?_, gb_trans HI.out.1 hg⟩
        have hs := HI.out.1.size
        rcases ho.2 with h | ⟨g, c, cur, e, hbg, rest⟩
        · exact ⟨ho.1, Or.inl h⟩
        · exact ⟨ho.1, Or.inr ⟨g, c, cur, e, by omega, rest⟩⟩
      clear ho hg
      go_wp2
      exact HO.out
end Ve
end Go.Proofs.YtkffbaihknhefaaGreat
