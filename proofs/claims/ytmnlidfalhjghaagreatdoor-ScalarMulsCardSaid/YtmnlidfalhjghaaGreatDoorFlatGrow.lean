/- The kit's flatBytes: lists that are appended to. -/
import Derived.Test.YtmnlidfalhjghaaGreatDoorFlat
namespace Go.Proofs.YtmnlidfalhjghaaGreatDoor
open Go.RowKit Ow

theorem info_slz : ∃ i, Tryz.prog.info? 22 = some i ∧ i.zero = some (.slice none 0 0) ∧ i.size = 1 ∧ i.bytes = 24 := by
  have h : (Tryz.prog.info? 22).map (fun i => (i.zero, i.size, i.bytes)) = some (some (.slice none 0 0), 1, 24) := by kernel_rfl
  cases hi : Tryz.prog.info? 22 with
  | none => rw [hi] at h; cases h
  | some i =>
    rw [hi] at h
    simp only [Option.map_some, Option.some.injEq, Prod.mk.injEq] at h
    exact ⟨i, rfl, h.1, h.2.1, h.2.2⟩
theorem made_nils (n : Nat) : madeCells (Value.slice none 0 0).cells n = (List.replicate n (Value.slice none 0 0)).toArray := by
  unfold madeCells
  apply Array.ext
  · simp
  · intro i h1 h2
    simp [Value.cells, Nat.mod_one]
/-- make([][]byte, n): a new block of nils -/
theorem make_nils (n : Nat) (w : World) (hn : n ≤ 100000) : ∃ w', (Instr.makeSlice 31 (.int .i64 n) (.int .i64 n)).run Tryz.prog w = .ok (.slice (some ⟨w.heap.size, 0, none⟩) n n) w' ∧
    w.grownBy w' none ∧ w'.heap.size = w.heap.size + 1 ∧ Blk w' w.heap.size 22 (List.replicate n (.slice none 0 0)) := by
  obtain ⟨i, hi, hz, hs, hb⟩ := info_slz
  have h2 := run_make (P := Tryz.prog) w 31 22 i (.slice none 0 0) Tryz.underlying31 hi hz .i64 .i64 n n (by omega) (by omega) (by rw [hb]; omega) (by omega)
  rw [hs, Nat.mul_one, Int.toNat_natCast, made_nils] at h2
  exact ⟨_, h2, gb_alloc (gb_refl _ _) _, by simp, Blk.new w _ _⟩
/-- a list that began as list k: in its place, or in a block made since -/
def Grew (V : Lists) (k sz n : Nat) (v : Value) : Prop := v = .slice (V.A k) n (V.C k) ∨ ∃ g c, v = .slice (some ⟨g, 0, none⟩) n c ∧ sz ≤ g
/-- an append to such a list: all lists stay -/
theorem flat_append {V : Lists} {m LB k : Nat} {w wk wr : World} {r : Nat → List Value} (hV : V.Apart m LB w.heap.size) (hLB : LB < w.heap.size) (hw : w.heap.size ≤ wk.heap.size) (hF : FlatAt V m LB w wr r) (hK : Kb (fun i => V.g k = some i) wk wr) (hk : k < m) (v : Value) (n : Nat) (xs : List Value) (hn : V.n k ≤ n)
    (hown : wr.ownsRow 0 5 1 v n xs) (hx : xs.take (V.n k) = r k) (hsh : Grew V k wk.heap.size n v) (ad : Addr) (q cc : Nat) (news : List Value) (hq : 0 < q) (hl : news.length = q) (hnews : ∀ j u, news[j]? = some u → wr.cell? (ad.add j) = some u) (h1 : ∀ u ∈ news, u.oneCell' = true) (hb : n + q ≤ 200000) :
    ∃ v' w', (Builtin.append_ #[22, 22] 22 #[v, .slice (some ad) q cc]).run Tryz.prog wr = .ok v' w' ∧ FlatAt V m LB w w' r ∧ Kb (fun i => V.g k = some i) wk w' ∧ w'.ownsRow 0 5 1 v' (n + q) (xs ++ news) ∧ Grew V k wk.heap.size (n + q) v' := by
  have hxl : xs.length = n := by have := hown.1; omega
  rcases own_shape hown with ⟨rfl, rfl⟩ | ⟨g, c, rfl⟩
  · obtain ⟨g, c', w', hr, ho, hg⟩ := append_to_none elt_u8 wr ad q cc news hq hl hnews h1 (by omega) (by omega)
    have := own_lt ho
    have hs := hK.size
    obtain rfl : xs = [] := List.eq_nil_of_length_eq_zero hxl
    rw [Nat.zero_add, List.nil_append]
    exact ⟨_, w', hr, hF.stay hg, kb_stay hK hg, own_rebase ho (by omega), Or.inr ⟨g, c', rfl, by omega⟩⟩
  · rcases append_cases elt_u8 wr 0 g n c xs hown ad q cc news hl hnews h1 (by omega) (by omega) with ⟨_, w', hr, ho, hg⟩ | ⟨_, c', w', hr, ho, hg⟩
    · rcases hsh with e | ⟨g', c', e, hgw⟩
      · obtain ⟨hA, hC⟩ : V.A k = some ⟨g, 0, none⟩ ∧ V.C k = c := ⟨(Value.slice.inj e).1.symm, (Value.slice.inj e).2.2.symm⟩
        have hgk : V.g k = some g := by unfold Lists.g; rw [hA]; rfl
        refine ⟨_, w', hr, ⟨fun j hj => ?_, hF.list.grown hg (fun e => hV.ls k hk (by rw [hgk, ← e])), kb_then hF.kept hg (fun r e => by cases e; exact Or.inl ⟨k, hk, hgk⟩)⟩, kb_then hK hg (fun r e => by cases e; exact Or.inl hgk), ho, Or.inl (by rw [hA, hC])⟩
        by_cases ej : j = k
        · subst ej
          have h := own_take ho (n := V.n j) (by omega)
          rw [List.take_append_of_le_length (by omega), hx] at h
          unfold Lists.v
          rw [hA, hC]
          exact h
        · exact (hF.own j hj).kept hg (by rw [V.own_block, ← hgk]; exact hV.apart j k hj hk ej)
      · cases e
        refine ⟨_, w', hr, ⟨fun j hj => (hF.own j hj).kept hg ?_, hF.list.grown hg (fun e => by cases e; omega), kb_then hF.kept hg (fun r e => by cases e; exact Or.inr (by omega))⟩, kb_then hK hg (fun r e => by cases e; exact Or.inr (by omega)), ho, Or.inr ⟨g, c, rfl, hgw⟩⟩
        rw [V.own_block]
        cases e : V.g j with
        | none => exact Or.inl rfl
        | some i => exact Or.inr (fun e' => by cases e'; have := hV.old j hj _ e; omega)
    · have := hK.size
      exact ⟨_, w', hr, hF.stay hg, kb_stay hK hg, own_rebase ho (by omega), Or.inr ⟨_, c', rfl, by omega⟩⟩
/-- a grown list, filed away: where it lies, what it holds -/
def GOne (f : Nat → Nat → Nat) (V : Lists) (GB : Nat) (wr : World) (j : Nat) (v : Value) : Prop :=
  ∃ g c, v = .slice (some ⟨g, 0, none⟩) (V.n j + 64) c ∧ (V.g j = some g ∨ GB < g) ∧ g < wr.heap.size ∧ V.n j + 64 ≤ c ∧ ∀ i, i < V.n j + 64 → wr.cell? ⟨g, i, none⟩ = some (u8N (f j i))
theorem GOne.kb {f : Nat → Nat → Nat} {V : Lists} {m LB GB top j : Nat} {wk wr : World} {v : Value} {S : Nat → Prop} (h : GOne f V GB wk j v) (hV : V.Apart m LB top) (hj : j < m) (ht : top ≤ GB) (hK : Kb S wk wr) (hS : ∀ i, S i → i = GB ∨ ∃ k, k < m ∧ k ≠ j ∧ V.g k = some i) : GOne f V GB wr j v := by
  obtain ⟨g, c, rfl, hg, hlt, hc, hcell⟩ := h
  refine ⟨g, c, rfl, hg, Nat.lt_of_lt_of_le hlt hK.size, hc, fun i hi => ?_⟩
  rw [hK.cell (p := ⟨g, i, none⟩) hlt (fun hs => ?_)]
  · exact hcell i hi
  · rcases hS g hs with e | ⟨k, hk, hkj, e⟩
    · rcases hg with h1 | h1
      · have := hV.old j hj g h1; omega
      · omega
    · rcases hg with h1 | h1
      · rcases hV.apart k j hk hj hkj with h2 | h2
        · rw [h2] at e; cases e
        · exact h2 (by rw [e, h1])
      · have := hV.old k hk g e; omega
/-- a list grown by 64 marks is such a one -/
theorem GOne.of {f : Nat → Nat → Nat} {V : Lists} {GB sz k : Nat} {wr : World} {v : Value} (ho : wr.ownsRow 0 5 1 v (V.n k + 64) (mkV f k (V.n k + 64))) (hg : Grew V k sz (V.n k + 64) v) (hs : GB < sz) : GOne f V GB wr k v := by
  obtain ⟨g, c, rfl, _, hnc, _, hlt⟩ := own_some ho (by omega)
  refine ⟨g, c, rfl, ?_, hlt, hnc, fun i hi => own_cell ho (mkV_get f k _ i hi)⟩
  rcases hg with e | ⟨g', c', e, h⟩
  · refine Or.inl ?_
    unfold Lists.g
    cases hA : V.A k with
    | none => rw [hA] at e; cases e
    | some a => rw [hA] at e; cases e; rfl
  · cases e
    exact Or.inr (by omega)
/-- the first k filed, of m -/
def filed (vs : Nat → Value) (k m : Nat) : List Value := (List.range k).map vs ++ List.replicate (m - k) (.slice none 0 0)
theorem filed_start (vs : Nat → Value) (m : Nat) : filed vs 0 m = List.replicate m (.slice none 0 0) := by simp [filed]
theorem filed_end (vs : Nat → Value) (m : Nat) : filed vs m m = (List.range m).map vs := by simp [filed]
theorem filed_nil (vs : Nat → Value) (k m : Nat) (h : k < m) : (filed vs k m)[k]? = some (.slice none 0 0) := by
  unfold filed
  rw [List.getElem?_append_right (by simp), List.length_map, List.length_range, Nat.sub_self, List.getElem?_replicate, if_pos (by omega)]
theorem filed_set (vs : Nat → Value) (k m : Nat) (v : Value) (h : k < m) : (filed vs k m).set k v = filed (fun j => if j = k then v else vs j) (k + 1) m := by
  unfold filed
  rw [List.set_append_right _ _ (by simp), List.length_map, List.length_range, Nat.sub_self, show m - k = (m - (k + 1)) + 1 by omega, List.replicate_succ, List.set_cons_zero, List.range_succ, List.map_append, List.append_assoc]
  congr 1
  · apply List.map_congr_left
    intro j hj
    have := List.mem_range.1 hj
    rw [if_neg (by omega)]
  · simp
/-- all lists as they were marked; the first k grown ones filed in block GB -/
structure Filed (f : Nat → Nat → Nat) (V : Lists) (m LB GB : Nat) (w wr : World) (r : Nat → List Value) (vs : Nat → Value) (k : Nat) : Prop where
  flat : FlatAt V m LB w wr r
  block : Blk wr GB 22 (filed vs k m)
  ones : ∀ j, j < k → GOne f V GB wr j (vs j)
theorem Filed.stay {f : Nat → Nat → Nat} {V : Lists} {m LB GB : Nat} {w wr w' : World} {r : Nat → List Value} {vs : Nat → Value} {k : Nat} (h : Filed f V m LB GB w wr r vs k) (hg : wr.grownBy w' none) : Filed f V m LB GB w w' r vs k := by
  refine ⟨h.flat.stay hg, h.block.grown hg (by simp), fun j hj => ?_⟩
  obtain ⟨g, c, e, h1, h2, h3, h4⟩ := h.ones j hj
  exact ⟨g, c, e, h1, Nat.lt_of_lt_of_le h2 hg.size, h3, fun i hi => by rw [gb_cell hg (p := ⟨g, i, none⟩) h2 (by simp)]; exact h4 i hi⟩
theorem Filed.drew {f : Nat → Nat → Nat} {V : Lists} {m LB GB : Nat} {w wr : World} {r : Nat → List Value} {vs : Nat → Value} {k : Nat} (h : Filed f V m LB GB w wr r vs k) (n : Nat) : Filed f V m LB GB w (wr.drewN n) r vs k := h.stay (gb_drewN (gb_refl _ _) n)
/-- list k grown, and filed -/
theorem Filed.next {f : Nat → Nat → Nat} {V : Lists} {m LB GB : Nat} {w wk wr : World} {r : Nat → List Value} {vs : Nat → Value} {k : Nat} {v : Value} (hV : V.Apart m LB w.heap.size) (hLB : LB < w.heap.size) (hk : k < m) (hGB : w.heap.size ≤ GB) (h : Filed f V m LB GB w wk r vs k) (hF : FlatAt V m LB w wr r) (hK : Kb (fun i => V.g k = some i) wk wr)
    (ho : wr.ownsRow 0 5 1 v (V.n k + 64) (mkV f k (V.n k + 64))) (hg : Grew V k wk.heap.size (V.n k + 64) v) :
    wr.cell? ⟨GB, k, none⟩ = some (.slice none 0 0) ∧ wr.frozen? ⟨GB, k, none⟩ = false ∧ Filed f V m LB GB w (wr.setCell ⟨GB, k, none⟩ v) r (fun j => if j = k then v else vs j) (k + 1) := by
  have hb : Blk wr GB 22 (filed vs k m) := hK.blk h.block (fun e => by have := hV.old k hk _ e; omega)
  have hlt := h.block.lt
  have hs : Kb (fun i => i = GB) wr (wr.setCell ⟨GB, k, none⟩ v) := kb_then (kb_refl _ _) (gb_set (gb_refl wr (some GB)) k v) (fun r e => by cases e; exact Or.inl rfl)
  have hgs : wr.grownBy (wr.setCell ⟨GB, k, none⟩ v) (some GB) := gb_set (gb_refl wr (some GB)) k v
  refine ⟨hb.cell (filed_nil vs k m hk), hb.free k, ⟨hF.own.kept hgs (fun j hj => ?_), hF.list.grown hgs (fun e => by cases e; omega), kb_then hF.kept hgs (fun r e => by cases e; exact Or.inr hGB)⟩, by rw [← filed_set vs k m v hk]; exact hb.set k v, fun j hj => ?_⟩
  · cases e : V.g j with
    | none => exact Or.inl rfl
    | some i => exact Or.inr (fun e' => by cases e'; have := hV.old j hj _ e; omega)
  · by_cases e : j = k
    · subst e
      simp only [if_true]
      exact (GOne.of ho hg hlt).kb hV hk hGB hs (fun i hi => Or.inl hi)
    · simp only [if_neg e]
      exact ((h.ones j (by omega)).kb hV (by omega) hGB hK (fun i hi => Or.inr ⟨k, hk, fun e' => e e'.symm, hi⟩)).kb hV (by omega) hGB hs (fun i hi => Or.inl hi)
/-- the filed list j, once all are -/
theorem Filed.at {f : Nat → Nat → Nat} {V : Lists} {m LB GB : Nat} {w wr : World} {r : Nat → List Value} {vs : Nat → Value} (h : Filed f V m LB GB w wr r vs m) {j : Nat} (hj : j < m) :
    ∃ g c, vs j = .slice (some ⟨g, 0, none⟩) (V.n j + 64) c ∧ wr.cell? ⟨GB, j, none⟩ = some (.slice (some ⟨g, 0, none⟩) (V.n j + 64) c) ∧ (∀ i, i < V.n j + 64 → wr.cell? ⟨g, i, none⟩ = some (u8N (f j i))) ∧ V.n j + 64 ≤ c := by
  obtain ⟨g, c, e, _, _, h3, h4⟩ := h.ones j hj
  refine ⟨g, c, e, h.block.cell ?_, h4, h3⟩
  rw [filed_end, ← e]
  simp [hj]
/-- a mark of a list -/
theorem FlatAt.mark {f : Nat → Nat → Nat} {V : Lists} {m LB k i : Nat} {w wr : World} (h : FlatAt V m LB w wr (fun j => mkV f j (V.n j))) (hk : k < m) (hi : i < V.n k) : ∃ g, V.A k = some ⟨g, 0, none⟩ ∧ wr.cell? ⟨g, i, none⟩ = some (u8N (f k i)) := by
  obtain ⟨g, hA, _⟩ := h.own.some hk (by omega)
  have := h.own k hk
  unfold Lists.v at this
  rw [hA] at this
  exact ⟨g, hA, own_cell this (mkV_get f k _ i hi)⟩
theorem Blk.get {w : World} {B : Nat} {T : TypeId} {L : List Value} (h : Blk w B T L) {i : Nat} (hi : i < L.length) : ∃ u, w.cell? ⟨B, i, none⟩ = some u := ⟨L[i], h.cell (List.getElem?_eq_getElem hi)⟩
theorem amid_get (f : Nat → Nat → Nat) (k i : Nat) (xs : List Value) (h : i < xs.length) : i < (amid f k i xs).length := by
  unfold amid; rw [List.length_append, mkV_length, List.length_drop]; omega
/-- a list whose marks are still there -/
def GTwo (f : Nat → Nat → Nat) (V : Lists) (GB : Nat) (wr : World) (j : Nat) (v : Value) : Prop :=
  ∃ g c, v = .slice (some ⟨g, 0, none⟩) (V.n j + 64) c ∧ (V.g j = some g ∨ GB < g) ∧ g < wr.heap.size ∧ V.n j + 64 ≤ c ∧ ∀ i, i < V.n j → wr.cell? ⟨g, i, none⟩ = some (u8N (f j i))
theorem GTwo.kb {f : Nat → Nat → Nat} {V : Lists} {m LB GB top j : Nat} {wk wr : World} {v : Value} {S : Nat → Prop} (h : GTwo f V GB wk j v) (hV : V.Apart m LB top) (hj : j < m) (ht : top ≤ GB) (hK : Kb S wk wr) (hS : ∀ i, S i → i = GB ∨ ∃ k, k < m ∧ k ≠ j ∧ V.g k = some i) : GTwo f V GB wr j v := by
  obtain ⟨g, c, rfl, hg, hlt, hc, hcell⟩ := h
  refine ⟨g, c, rfl, hg, Nat.lt_of_lt_of_le hlt hK.size, hc, fun i hi => ?_⟩
  rw [hK.cell (p := ⟨g, i, none⟩) hlt (fun hs => ?_)]
  · exact hcell i hi
  · rcases hS g hs with e | ⟨k, hk, hkj, e⟩
    · rcases hg with h1 | h1
      · have := hV.old j hj g h1; omega
      · omega
    · rcases hg with h1 | h1
      · rcases hV.apart k j hk hj hkj with h2 | h2
        · rw [h2] at e; cases e
        · exact h2 (by rw [e, h1])
      · have := hV.old k hk g e; omega
theorem GTwo.of {f : Nat → Nat → Nat} {V : Lists} {GB sz k : Nat} {wr : World} {v : Value} {ys : List Value} (ho : wr.ownsRow 0 5 1 v (V.n k + 64) (mkV f k (V.n k) ++ ys)) (hg : Grew V k sz (V.n k + 64) v) (hs : GB < sz) : GTwo f V GB wr k v := by
  obtain ⟨g, c, rfl, _, hnc, _, hlt⟩ := own_some ho (by omega)
  refine ⟨g, c, rfl, ?_, hlt, hnc, fun i hi => own_cell ho (by rw [List.getElem?_append_left (by rw [mkV_length]; exact hi)]; exact mkV_get f k _ i hi)⟩
  rcases hg with e | ⟨g', c', e, h⟩
  · refine Or.inl ?_
    unfold Lists.g
    cases hA : V.A k with
    | none => rw [hA] at e; cases e
    | some a => rw [hA] at e; cases e; rfl
  · cases e
    exact Or.inr (by omega)
/-- filed again, the first k -/
structure Again (f : Nat → Nat → Nat) (V : Lists) (m LB GB : Nat) (w wr : World) (r : Nat → List Value) (L : List Value) (k : Nat) : Prop where
  flat : FlatAt V m LB w wr r
  block : Blk wr GB 22 L
  len : L.length = m
  ones : ∀ j, j < k → ∃ v, L[j]? = some v ∧ GTwo f V GB wr j v
theorem Filed.again {f : Nat → Nat → Nat} {V : Lists} {m LB GB : Nat} {w wr : World} {r : Nat → List Value} {vs : Nat → Value} {k : Nat} (h : Filed f V m LB GB w wr r vs k) (hk : k ≤ m) : Again f V m LB GB w wr r (filed vs k m) 0 :=
  ⟨h.flat, h.block, by simp [filed]; omega, fun j hj => by omega⟩
theorem Again.stay {f : Nat → Nat → Nat} {V : Lists} {m LB GB : Nat} {w wr w' : World} {r : Nat → List Value} {L : List Value} {k : Nat} (h : Again f V m LB GB w wr r L k) (hg : wr.grownBy w' none) : Again f V m LB GB w w' r L k := by
  refine ⟨h.flat.stay hg, h.block.grown hg (by simp), h.len, fun j hj => ?_⟩
  obtain ⟨v, hv, g, c, e, h1, h2, h3, h4⟩ := h.ones j hj
  exact ⟨v, hv, g, c, e, h1, Nat.lt_of_lt_of_le h2 hg.size, h3, fun i hi => by rw [gb_cell hg (p := ⟨g, i, none⟩) h2 (by simp)]; exact h4 i hi⟩
theorem Again.drew {f : Nat → Nat → Nat} {V : Lists} {m LB GB : Nat} {w wr : World} {r : Nat → List Value} {L : List Value} {k : Nat} (h : Again f V m LB GB w wr r L k) (n : Nat) : Again f V m LB GB w (wr.drewN n) r L k := h.stay (gb_drewN (gb_refl _ _) n)
theorem Again.next {f : Nat → Nat → Nat} {V : Lists} {m LB GB : Nat} {w wk wr : World} {r : Nat → List Value} {L ys : List Value} {k : Nat} {v : Value} (hV : V.Apart m LB w.heap.size) (hLB : LB < w.heap.size) (hk : k < m) (hGB : w.heap.size ≤ GB) (h : Again f V m LB GB w wk r L k) (hF : FlatAt V m LB w wr r) (hK : Kb (fun i => V.g k = some i) wk wr)
    (ho : wr.ownsRow 0 5 1 v (V.n k + 64) (mkV f k (V.n k) ++ ys)) (hg : Grew V k wk.heap.size (V.n k + 64) v) :
    (∃ u, wr.cell? ⟨GB, k, none⟩ = some u) ∧ wr.frozen? ⟨GB, k, none⟩ = false ∧ Again f V m LB GB w (wr.setCell ⟨GB, k, none⟩ v) r (L.set k v) (k + 1) := by
  have hb : Blk wr GB 22 L := hK.blk h.block (fun e => by have := hV.old k hk _ e; omega)
  have hlt := h.block.lt
  have hll := h.len
  have hs : Kb (fun i => i = GB) wr (wr.setCell ⟨GB, k, none⟩ v) := kb_then (kb_refl _ _) (gb_set (gb_refl wr (some GB)) k v) (fun r e => by cases e; exact Or.inl rfl)
  have hgs : wr.grownBy (wr.setCell ⟨GB, k, none⟩ v) (some GB) := gb_set (gb_refl wr (some GB)) k v
  refine ⟨hb.get (by omega), hb.free k, ⟨hF.own.kept hgs (fun j hj => ?_), hF.list.grown hgs (fun e => by cases e; omega), kb_then hF.kept hgs (fun r e => by cases e; exact Or.inr hGB)⟩, hb.set k v, by rw [List.length_set]; exact hll, fun j hj => ?_⟩
  · cases e : V.g j with
    | none => exact Or.inl rfl
    | some i => exact Or.inr (fun e' => by cases e'; have := hV.old j hj _ e; omega)
  · by_cases e : j = k
    · subst e
      exact ⟨v, by rw [List.getElem?_set_self (by omega)], (GTwo.of ho hg hlt).kb hV hk hGB hs (fun i hi => Or.inl hi)⟩
    · obtain ⟨u, hu, h2⟩ := h.ones j (by omega)
      exact ⟨u, by rw [List.getElem?_set_ne (fun e' => e e'.symm)]; exact hu, (h2.kb hV (by omega) hGB hK (fun i hi => Or.inr ⟨k, hk, fun e' => e e'.symm, hi⟩)).kb hV (by omega) hGB hs (fun i hi => Or.inl hi)⟩
theorem Again.at {f : Nat → Nat → Nat} {V : Lists} {m LB GB : Nat} {w wr : World} {r : Nat → List Value} {L : List Value} (h : Again f V m LB GB w wr r L m) {j : Nat} (hj : j < m) :
    ∃ g c, wr.cell? ⟨GB, j, none⟩ = some (.slice (some ⟨g, 0, none⟩) (V.n j + 64) c) ∧ (∀ i, i < V.n j → wr.cell? ⟨g, i, none⟩ = some (u8N (f j i))) ∧ V.n j + 64 ≤ c := by
  obtain ⟨v, hv, g, c, rfl, _, _, h3, h4⟩ := h.ones j hj
  exact ⟨g, c, h.block.cell hv, h4, h3⟩
end Go.Proofs.YtmnlidfalhjghaaGreatDoor
