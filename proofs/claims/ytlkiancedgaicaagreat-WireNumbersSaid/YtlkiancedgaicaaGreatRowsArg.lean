/- A law's arguments: rows of rows of bytes, rows of numbers. -/
import Derived.Test.YtlkiancedgaicaaGreatOpen
import Derived.Test.YtlkiancedgaicaaGreatRowsAt
import Derived.Deep.Matrix
namespace Go.Proofs.YtlkiancedgaicaaGreat
open Go.ChangeShapes Go.WideShapes Go.ChangeAt Go.RowKit Ow Go.Deep

/-- numbers in a row, below block B -/
structure IntsAt (w : World) (B : Nat) (a : Option Addr) (L : List Int) : Prop where
  lim : B ≤ w.heap.size
  wf : ∀ n ∈ L, -9223372036854775808 ≤ n ∧ n ≤ 9223372036854775807
  cells : L.length = 0 ∨ ∃ pb po, a = some ⟨pb, po, none⟩ ∧ pb < B ∧ ∀ i, i < L.length → w.cell? ⟨pb, po + i, none⟩ = some (.int .i64 (L.getD i 0))
theorem IntsAt.kept {w w' : World} {B : Nat} {a : Option Addr} {L : List Int} (h : IntsAt w B a L) {row : Option Nat} (hg : w.grownBy w' row) (hr : ∀ r, row = some r → B ≤ r) : IntsAt w' B a L := by
  refine ⟨Nat.le_trans h.lim hg.size, h.wf, ?_⟩
  rcases h.cells with h0 | ⟨pb, po, ha, hlt, hc⟩
  · exact Or.inl h0
  · exact Or.inr ⟨pb, po, ha, hlt, fun i hi => by rw [gb_cell hg (p := ⟨pb, po + i, none⟩) (Nat.lt_of_lt_of_le hlt h.lim) (fun e => by have := hr _ e.symm; simp at this; omega)]; exact hc i hi⟩
theorem IntsAt.stay {w w' : World} {B : Nat} {a : Option Addr} {L : List Int} (h : IntsAt w B a L) (hg : w.grownBy w' none) : IntsAt w' B a L := h.kept hg (fun r e => by cases e)
theorem IntsAt.at {w : World} {B : Nat} {a : Option Addr} {L : List Int} (h : IntsAt w B a L) {i : Nat} (hi : i < L.length) : ∃ pb po, a = some ⟨pb, po, none⟩ ∧ pb < B ∧ w.cell? ⟨pb, po + i, none⟩ = some (.int .i64 (L.getD i 0)) := by
  obtain ⟨pb, po, h1, h2, h3⟩ := h.cells.resolve_left (by omega)
  exact ⟨pb, po, h1, h2, h3 i hi⟩

theorem weightsAll_mem {H : Type} {P : Program} {e : TypeId} {d : DataW H} {n : Nat} (hn : n ∈ d.weights P e) : ∀ {l : List (DataW H)}, d ∈ l → n ∈ DataW.weightsAll P e l
  | x :: r, hd => by
    simp only [DataW.weightsAll, List.mem_append]
    rcases List.mem_cons.1 hd with rfl | h
    · exact Or.inl hn
    · exact Or.inr (weightsAll_mem hn h)
theorem spot_none {W : World} {x : Addr} {v : Value} (h : W.cell? (x.add 0) = some v) : ∃ b off, x = ⟨b, off, none⟩ ∧ b < W.heap.size ∧ ∀ j, (⟨b, off, none⟩ : Addr).add j = ⟨b, off + j, none⟩ := by
  obtain ⟨b, off, spot⟩ := x
  have hspot : spot = none := by simpa [Addr.add] using World.cell?_spot h
  subst hspot
  exact ⟨b, off, rfl, by simpa [Addr.add] using block_lt_of_cell h, fun j => by unfold Addr.add; split <;> simp_all⟩
theorem range_getD {α : Type} (f : Nat → α) (n i : Nat) (z : α) (h : i < n) : ((List.range n).map f).getD i z = f i := by
  rw [List.getD_eq_getElem?_getD, List.getElem?_map, List.getElem?_range h]; rfl

/-- an argument that is a row of rows of bytes -/
theorem rows_open {H : Type} {enc : TypeId × Value → H} {W : World} {a : Option Addr} {len cap : Nat} {d : DataW H} {ps : List MemPlace} {ts : List TypeId} {ds : List (DataW H)} (h : DataW.Trod enc Tryz.prog W 0 (fun _ => true) true 22 (.slice a len cap) d ps)
    (hsz : (DataW.weightsEach Tryz.prog ts ds).all (· ≤ reachBytes) = true) {j : Nat} (ht : ts[j]? = some 22) (hd : ds[j]? = some d) :
    ∃ L : List (List Nat), L.length = len ∧ len ≤ 140737488351232 ∧ RowsAt W W.heap.size a L ∧ ∀ r ∈ L, r.length ≤ 140737488351232 := by
  obtain ⟨fuel, hf⟩ := h
  rcases open_int_rows Tryz.underlying22 Tryz.underlying23 Tryz.underlying5 (by kernel_rfl) (by kernel_rfl) hf with ⟨hcs, _⟩ | ⟨x, l, c, A, Ln, C, Z, hcs, _, hl, hm, hx, hrow⟩
  · simp [Value.cells] at hcs
    obtain ⟨rfl, rfl, rfl⟩ := hcs
    exact ⟨[], rfl, by decide, ⟨Nat.le_refl _, Or.inl rfl⟩, fun r hr => by simp at hr⟩
  · simp [Value.cells] at hcs
    obtain ⟨rfl, rfl, rfl⟩ := hcs
    simp only [Prod.mk.injEq] at hx
    rw [hx.1] at hd
    have hrl : ∀ r, r < len → C r ≤ 140737488351232 := by
      intro r hr
      obtain ⟨_, hlc, _, hzl, _, hnil, _⟩ := hrow r (by omega)
      rcases hA : A r with _ | ad
      · rw [hnil hA]; decide
      · have hmem : (C r) * 1 ∈ (intRow (H := H) .u8 (A r) (Ln r) (Z r)).weights Tryz.prog 23 := by
          rw [hA]
          simp only [intRow, DataW.weights, Tryz.underlying23]
          rw [show Tryz.prog.bytesOf 5 = 1 by kernel_rfl]
          simp only [lits, List.length_map, List.length_take, List.length_drop, Nat.mul_one, List.mem_cons]
          left; omega
        have h1 : (C r) * 1 ∈ DataW.weightsAll Tryz.prog 23 ((List.range len).map fun r => intRow (H := H) .u8 (A r) (Ln r) (Z r)) :=
          weightsAll_mem hmem (List.mem_map.2 ⟨r, List.mem_range.2 hr, rfl⟩)
        have h2 := List.all_eq_true.1 hsz _ (DataW.weights_mem_each ht hd ((C r) * 1) (by
          simp only [DataW.weights, Tryz.underlying22]
          exact List.mem_cons_of_mem _ (List.mem_append_left _ h1)))
        simp [reachBytes] at h2
        omega
    have hlen : len ≤ 140737488351232 := by
      have := sized_slice hsz ht hd Tryz.underlying22
      rw [show Tryz.prog.bytesOf 23 = 24 by kernel_rfl] at this
      simp only [List.length_map, List.length_range, reachBytes] at this
      omega
    refine ⟨(List.range len).map fun r => nats ((Z r).take (Ln r)), by simp, hlen, ⟨Nat.le_refl _, ?_⟩, ?_⟩
    · by_cases h0 : len = 0
      · left; simp [h0]
      · have hc0 := (hrow 0 (by omega)).1
        obtain ⟨b, off, rfl, hlt, hadd⟩ := spot_none hc0
        refine Or.inr ⟨b, off, rfl, hlt, fun i hi => ?_⟩
        rw [List.length_map, List.length_range] at hi
        rw [range_getD _ _ _ _ hi]
        obtain ⟨hcell, hlc, hcm, hzl, hwf, hnil, hin⟩ := hrow i (by omega)
        rw [hadd] at hcell
        have hb1 := hrl i hi
        rcases hA : A i with _ | ad
        · have hC := hnil hA
          have hL : Ln i = 0 := by omega
          refine ⟨none, C i, ?_, ?_⟩
          · rw [hcell, hA, hL]; simp [nats]
          · rw [hL, hC]
            exact ⟨Nat.le_refl _, by simp [nats], by decide, by simp [nats], Or.inl (by simp [nats])⟩
        · obtain ⟨_, hcc⟩ := hin ad hA
          have hba := bytes_arg (x := ad) (len := Ln i) (cap := C i) (zs := Z i) (W := W) (by omega) hlc hzl (fun c hc => hcc c (by omega)) hwf
          exact ⟨some ad, C i, by rw [hcell, hA, hba.2], hba.1⟩
    · intro r hr
      obtain ⟨k, hk, rfl⟩ := List.mem_map.1 hr
      have hk' := List.mem_range.1 hk
      have := hrl k hk'
      have hzl := (hrow k (by omega)).2.2.2.1
      simp only [nats, List.length_map, List.length_take]
      omega
end Go.Proofs.YtlkiancedgaicaaGreat
