/- merkle's laws: an argument that is a row of leaves, as far as light asks. -/
import Derived.Test.YtabdegeaifajfaaGreatDoorMkLight
import Derived.Test.YtabdegeaifajfaaGreatDoorChecked
import Derived.ProofKit
import Derived.OpenShut
import Derived.ShutString
import Derived.ChangeArms
import Derived.Deep.SlicePairs
import Derived.Deep.Slices
import Derived.Lib.SmallJoins
import Derived.SizedLaws
namespace Go.Proofs.YtabdegeaifajfaaGreatDoor
open Go.ChangeShapes Go.WideShapes Go.ChangeAt Go.RowKit Go.Deep Go.Joins Ow
namespace Mk
theorem open_fields {H : Type} {enc : TypeId × Value → H} {P : Program} {w : World} {base : Nat} {spare : Nat → Bool} {held : Bool} {t : TypeId} {fs : Array Field} {fuel : Nat} {cs : List Value} {x : DataW H × List MemPlace} (hs : P.underlying t = some (.struct fs)) (hone : oneCellFields P fs = true)
    (h : DataW.trod enc P w base spare held fuel t cs = some x) :
    ∃ (n : Nat), cs.length = P.cellsOf t ∧ ∀ (i : Nat) (f : Field), fs[i]? = some f → ∀ u, cs[i]? = some u → ∃ y, DataW.trod enc P w base spare held n f.type [u] = some y := by
  obtain ⟨xs, n, _, rfl, hlen, hx0, hx⟩ := DataW.trod_struct hs h
  refine ⟨n, hlen, fun i f hi u hu => ?_⟩
  have h1 := hx i f hi
  obtain ⟨o, k⟩ := hone_of hone i f hi
  have hi2 : i < xs.length := by rw [hx0]; exact (Array.getElem?_eq_some_iff.1 hi).1
  rw [List.getElem?_eq_getElem hi2] at h1
  refine ⟨xs[i], ?_⟩
  rw [← h1, o, k]
  congr 1
  have hi3 : i < cs.length := (List.getElem?_eq_some_iff.1 hu).1
  rw [List.drop_eq_getElem_cons hi3]
  rw [List.getElem?_eq_getElem hi3] at hu
  simp only [Option.some.injEq] at hu
  rw [hu]; rfl
theorem add_add (b : Addr) (k j : Nat) : (b.add k).add j = b.add (k + j) := by
  obtain ⟨bb, bo, bs⟩ := b
  unfold Addr.add
  by_cases h1 : k = 0
  · subst h1; simp
  · by_cases h2 : j = 0
    · subst h2; simp
    · simp [h1, h2, Nat.add_assoc]
theorem list7 {α : Type} {cs : List α} (h : cs.length = 7) : ∃ c0 c1 c2 c3 c4 c5 c6, cs = [c0, c1, c2, c3, c4, c5, c6] := by
  match cs, h with
  | [c0, c1, c2, c3, c4, c5, c6], _ => exact ⟨c0, c1, c2, c3, c4, c5, c6, rfl⟩
theorem list2 {α : Type} {cs : List α} (h : cs.length = 2) : ∃ c0 c1, cs = [c0, c1] := by
  match cs, h with
  | [c0, c1], _ => exact ⟨c0, c1, rfl⟩
theorem int_of {H : Type} {enc : TypeId × Value → H} {W : World} {base n : Nat} {sp : Nat → Bool} {hd : Bool} {v : Value} {x : DataW H × List MemPlace} (h : DataW.trod enc Tryz.prog W base sp hd n 3 [v] = some x) : ∃ k, v = .int .i64 k := by
  obtain ⟨k, hk, _⟩ := DataW.trod_int Tryz.underlying3 h
  exact ⟨k, by simpa using hk⟩
theorem spot0 {W : World} {x : Addr} {v : Value} (h : W.cell? (x.add 0) = some v) : ∃ b off, x = ⟨b, off, none⟩ ∧ b < W.heap.size := by
  obtain ⟨b, off, spot⟩ := x
  have hspot : spot = none := by simpa [Addr.add] using World.cell?_spot h
  subst hspot
  exact ⟨b, off, rfl, by simpa [Addr.add] using block_lt_of_cell h⟩
theorem slice_of {H : Type} {enc : TypeId × Value → H} {W : World} {n : Nat} {t e : TypeId} {v : Value} {y : DataW H × List MemPlace} (ht : Tryz.prog.underlying t = some (.slice e)) (h : DataW.trod enc Tryz.prog W 0 (fun _ => true) true n t [v] = some y) : ∃ a l c, v = .slice a l c := by
  rcases open_slice ht h with ⟨hcs, _⟩ | ⟨a, l, c, _, _, _, _, hcs, _⟩
  · exact ⟨none, 0, 0, by simpa using hcs⟩
  · exact ⟨some a, l, c, by simpa using hcs⟩
set_option maxRecDepth 100000 in
theorem rec_ok {H : Type} {enc : TypeId × Value → H} {W : World} {fuel : Nat} {cs : List Value} {x : DataW H × List MemPlace} (h : DataW.trod enc Tryz.prog W 0 (fun _ => true) true fuel 57 cs = some x) : RecOK cs := by
  obtain ⟨n, hlen, hall⟩ := open_fields Tryz.underlying57 (by kernel_rfl) h
  obtain ⟨c0, c1, c2, c3, c4, c5, c6, rfl⟩ := list7 (hlen.trans (by kernel_rfl))
  obtain ⟨y0, t0⟩ := hall 0 _ rfl c0 rfl
  obtain ⟨y1, t1⟩ := hall 1 _ rfl c1 rfl
  obtain ⟨y2, t2⟩ := hall 2 _ rfl c2 rfl
  obtain ⟨y3, t3⟩ := hall 3 _ rfl c3 rfl
  obtain ⟨y4, t4⟩ := hall 4 _ rfl c4 rfl
  obtain ⟨y5, t5⟩ := hall 5 _ rfl c5 rfl
  obtain ⟨y6, t6⟩ := hall 6 _ rfl c6 rfl
  obtain ⟨s, e0, _, _⟩ := DataW.trod_string Tryz.underlying9 t0
  obtain ⟨cl, rfl⟩ := int_of t1
  obtain ⟨sq, rfl⟩ := int_of t2
  obtain ⟨g, e4, _⟩ := DataW.trod_bool Tryz.underlying4 t4
  obtain rfl : c0 = .string s := by simpa using e0
  obtain rfl : c4 = .bool g := by simpa using e4
  obtain ⟨a1, n1, k1, rfl⟩ := slice_of Tryz.underlying55 t3
  obtain ⟨a2, n2, k2, rfl⟩ := slice_of Tryz.underlying34 t5
  obtain ⟨a3, n3, k3, rfl⟩ := slice_of Tryz.underlying34 t6
  exact ⟨s, cl, sq, a1, n1, k1, g, a2, n2, k2, a3, n3, k3, rfl⟩
set_option maxRecDepth 100000 in
theorem recs_row {H : Type} {enc : TypeId × Value → H} {W : World} {fuel len cap : Nat} {a : Option Addr} {x : DataW H × List MemPlace} (hf : DataW.trod enc Tryz.prog W 0 (fun _ => true) true fuel 41 [.slice a len cap] = some x) : RecRow W W.heap.size a len := by
  rcases open_slice Tryz.underlying41 hf with ⟨hcs, _⟩ | ⟨b, l, c, m, k, D, Pl, hcs, _, hl, hm, hmm, hx, hall⟩
  · simp only [List.cons.injEq, Value.slice.injEq, and_true] at hcs
    exact Or.inl hcs.2.1
  · simp only [List.cons.injEq, Value.slice.injEq, and_true] at hcs
    obtain ⟨rfl, rfl, rfl⟩ := hcs
    simp only [if_true] at hmm
    subst hmm
    have each : ∀ i, i < len → ∃ cs, RecOK cs ∧ ∀ j v, cs[j]? = some v → W.cell? (b.add (i * 7 + j)) = some v := fun i hi => by
      obtain ⟨cs', h1, h2⟩ := hall i (by omega)
      have hc7 : Tryz.prog.cellsOf 57 = 7 := by kernel_rfl
      rw [hc7] at h1
      obtain ⟨_, hlen, hcell⟩ := World.cells?_some h1
      refine ⟨_, rec_ok h2, fun j v hv => ?_⟩
      have hj : j < 7 := by have := (List.getElem?_eq_some_iff.1 hv).1; omega
      have := hcell j hj
      rw [hv] at this
      rw [← this, add_add]
    by_cases h0 : len = 0
    · exact Or.inl h0
    · obtain ⟨cs, ⟨s, v1, v2, a1, n1, c1, v4, a2, n2, c2, a3, n3, c3, rfl⟩, hq⟩ := each 0 (by omega)
      obtain ⟨pb, po, rfl, hlt⟩ := spot0 (hq 0 _ rfl)
      refine Or.inr ⟨pb, po, rfl, hlt, fun i hi => ?_⟩
      obtain ⟨cs, h1, h2⟩ := each i hi
      refine ⟨cs, h1, fun j v hv => ?_⟩
      have := h2 j v hv
      rw [Addr.add_lit] at this
      rw [Nat.add_assoc]; exact this
set_option maxRecDepth 100000 in
/-- an argument that is a row of leaves -/
theorem leaves_open {H : Type} {enc : TypeId × Value → H} {W : World} {a : Option Addr} {len cap : Nat} {d : DataW H} {ps : List MemPlace} (h : DataW.Trod enc Tryz.prog W 0 (fun _ => true) true 22 (.slice a len cap) d ps) : LeafRow W W.heap.size a len := by
  obtain ⟨fuel, hf⟩ := h
  have hf : DataW.trod enc Tryz.prog W 0 (fun _ => true) true fuel 22 [.slice a len cap] = some (d, ps) := by simpa [Value.cells] using hf
  refine ⟨Nat.le_refl _, ?_⟩
  rcases open_slice Tryz.underlying22 hf with ⟨hcs, _⟩ | ⟨b, l, c, m, k, D, Pl, hcs, _, hl, hm, hmm, hx, hall⟩
  · simp only [List.cons.injEq, Value.slice.injEq, and_true] at hcs
    exact Or.inl hcs.2.1
  · simp only [List.cons.injEq, Value.slice.injEq, and_true] at hcs
    obtain ⟨rfl, rfl, rfl⟩ := hcs
    simp only [if_true] at hmm
    subst hmm
    have each : ∀ i, i < len → ∃ (s : ByteArray) (ra : Option Addr) (m c : Nat), W.cell? (b.add (i * 2)) = some (.string s) ∧ W.cell? (b.add (i * 2 + 1)) = some (.slice ra m c) ∧ RecRow W W.heap.size ra m := fun i hi => by
      obtain ⟨cs', h1, h2⟩ := hall i (by omega)
      have hc2 : Tryz.prog.cellsOf 54 = 2 := by kernel_rfl
      rw [hc2] at h1
      obtain ⟨_, hlen, hcell⟩ := World.cells?_some h1
      obtain ⟨n, hl2, hfs⟩ := open_fields Tryz.underlying54 (by kernel_rfl) h2
      obtain ⟨c0, c1, rfl⟩ := list2 (hl2.trans hc2)
      obtain ⟨y0, t0⟩ := hfs 0 _ rfl c0 rfl
      obtain ⟨y1, t1⟩ := hfs 1 _ rfl c1 rfl
      obtain ⟨s, e0, _, _⟩ := DataW.trod_string Tryz.underlying9 t0
      obtain rfl : c0 = .string s := by simpa using e0
      obtain ⟨ra, m, cc, rfl⟩ := slice_of Tryz.underlying41 t1
      have q0 := hcell 0 (by decide)
      have q1 := hcell 1 (by decide)
      rw [add_add] at q0 q1
      exact ⟨s, ra, m, cc, q0, q1, recs_row t1⟩
    by_cases h0 : len = 0
    · exact Or.inl h0
    · obtain ⟨s, ra, m, c', q0, _, _⟩ := each 0 (by omega)
      rw [Nat.zero_mul] at q0
      obtain ⟨pb, po, rfl, hlt⟩ := spot0 q0
      refine Or.inr ⟨pb, po, rfl, hlt, fun i hi => ?_⟩
      obtain ⟨s, ra, m, c', q0, q1, hr⟩ := each i hi
      rw [Addr.add_lit] at q0 q1
      exact ⟨s, ra, m, c', q0, by rw [Nat.add_assoc]; exact q1, hr⟩
end Mk
end Go.Proofs.YtabdegeaifajfaaGreatDoor
