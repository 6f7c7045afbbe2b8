/- A law's arguments: rows of bytes, as parts. -/
import Derived.Test.YtkddpehkamkaoaaGreatDoorShaPartOf
import Derived.Test.YtkddpehkamkaoaaGreatDoorShaLaid
import Derived.Deep.Matrix
import Derived.Deep.Slices
namespace Go.Proofs.YtkddpehkamkaoaaGreatDoor
open Go.ChangeShapes Go.WideShapes Go.ChangeAt Go.RowKit Go.Deep

theorem spot_none {W : World} {x : Addr} {v : Value} (h : W.cell? (x.add 0) = some v) : ∃ b off, x = ⟨b, off, none⟩ ∧ b < W.heap.size ∧ ∀ j, (⟨b, off, none⟩ : Addr).add j = ⟨b, off + j, none⟩ := by
  obtain ⟨b, off, spot⟩ := x
  have hspot : spot = none := by simpa [Addr.add] using World.cell?_spot h
  subst hspot
  exact ⟨b, off, rfl, by simpa [Addr.add] using block_lt_of_cell h, fun j => by unfold Addr.add; split <;> simp_all⟩
/-- an argument that is a row of rows of bytes -/
theorem parts_open {H : Type} {enc : TypeId × Value → H} {W : World} {a : Option Addr} {len cap : Nat} {d : DataW H} {ps : List MemPlace} (h : DataW.Trod enc Tryz.prog W 0 (fun _ => true) true 22 (.slice a len cap) d ps) :
    ∃ L : List Part, L.length = len ∧ PartsAt W W.heap.size a cap L ∧ cap < 9223372036854775808 := by
  obtain ⟨fuel, hf⟩ := h
  rcases open_int_rows Tryz.underlying22 Tryz.underlying26 Tryz.underlying5 (by kernel_rfl) (by kernel_rfl) hf with ⟨hcs, _⟩ | ⟨x, l, c, A, Ln, C, Z, hcs, _, hl, hm, hx, hrow⟩
  · simp [Value.cells] at hcs
    obtain ⟨rfl, rfl, rfl⟩ := hcs
    exact ⟨[], rfl, ⟨Nat.le_refl _, fun p hp => by simp at hp, Or.inl rfl⟩, by decide⟩
  · simp [Value.cells] at hcs
    obtain ⟨rfl, rfl, rfl⟩ := hcs
    have hpart : ∀ i, i < len → PartAt W W.heap.size (A i) (C i) (nats ((Z i).take (Ln i))) ∧ (nats ((Z i).take (Ln i))).length = Ln i ∧ C i < 9223372036854775808 := by
      intro i hi
      obtain ⟨hcell, hlc, hcm, hzl, hwf, hnil, hin⟩ := hrow i (by omega)
      have hcm' : C i < 9223372036854775808 := by unfold maxLen at hcm; omega
      rcases hA : A i with _ | ad
      · have hC := hnil hA
        have hL : Ln i = 0 := by omega
        rw [hL, hC]
        exact ⟨⟨Nat.le_refl _, by simp [nats], Or.inl (by simp [nats])⟩, by simp [nats], by decide⟩
      · obtain ⟨_, hcc⟩ := hin ad hA
        have hba := sbytes_arg (x := ad) (len := Ln i) (cap := C i) (zs := Z i) (W := W) (Nat.le_refl _) hlc hzl (fun c hc => hcc c (by omega)) hwf
        exact ⟨hba.1, hba.2, hcm'⟩
    refine ⟨(List.range len).map fun i => ⟨A i, C i, nats ((Z i).take (Ln i))⟩, by simp, ⟨by simpa using hl, ?_, ?_⟩, by unfold maxLen at hm; omega⟩
    · intro p hp
      obtain ⟨i, hi, rfl⟩ := List.mem_map.1 hp
      have h1 := hpart i (List.mem_range.1 hi)
      exact ⟨h1.1, h1.2.2⟩
    · by_cases h0 : len = 0
      · left; simp [h0]
      · have hc0 := (hrow 0 (by omega)).1
        obtain ⟨b, off, rfl, hlt, hadd⟩ := spot_none hc0
        refine Or.inr ⟨b, off, rfl, by omega, hlt, fun i hi => ?_⟩
        simp only [List.length_map, List.length_range] at hi
        simp only [List.getElem_map, List.getElem_range]
        have hcell := (hrow i (by omega)).1
        rw [hadd] at hcell
        unfold Part.v
        rw [(hpart i hi).2.1]
        exact hcell
end Go.Proofs.YtkddpehkamkaoaaGreatDoor
