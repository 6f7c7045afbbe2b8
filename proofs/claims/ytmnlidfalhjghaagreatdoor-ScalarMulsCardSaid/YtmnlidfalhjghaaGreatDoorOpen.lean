/- A law's arguments: slices of bytes, numbers. -/
import Derived.Test.YtmnlidfalhjghaaGreatDoorChecked
import Derived.Test.YtmnlidfalhjghaaGreatDoorOwn
import Derived.ProofKit
import Derived.OpenShut
import Derived.ShutString
import Derived.ChangeOld
import Derived.Deep.DeepHandedRow
import Derived.Lib.LaidTab
import Derived.SizedLaws
namespace Go.Proofs.YtmnlidfalhjghaaGreatDoor
open Go.ChangeShapes Go.WideShapes Go.ChangeAt Go.RowKit Ow

theorem laidMet_tail {P : Program} {x : String × DataW Unit} {rest : List (String × DataW Unit)} {W : World} (h : laidMet P (x :: rest) W) : laidMet P rest W := by
  obtain ⟨ps, ⟨g, t, cs, fuel, p, q, _, _, _, _, hq, rfl⟩, hn, hc⟩ := h
  exact ⟨q, hq, (List.nodup_append.1 hn).2.1, fun b off hm => hc b off (List.mem_append_right _ hm)⟩
theorem own : ownKnob Tryz.prog.godebug = none := by kernel_rfl
theorem laidOut : laidOutB Tryz.prog = true := by kernel_rfl
/-- a list of integers as natural numbers -/
def nats (l : List Int) : List Nat := l.map Int.toNat
theorem bytes_arg {W : World} {x : Addr} {len cap : Nat} {zs : List Int} (ht : cap < 9223372036854775808) (hl : len ≤ cap) (hz : zs.length = cap) (hcell : ∀ i, i < zs.length → W.cell? (x.add i) = some (.int .u8 (zs.getD i 0))) (hw : ∀ n ∈ zs, (Lit.int .u8 n).wf = true) :
    BytesAt W W.heap.size (some x) cap (nats (zs.take len)) ∧ (nats (zs.take len)).length = len := by
  have hlen : (nats (zs.take len)).length = len := by simp [nats, hz]; omega
  have hbd : ∀ n ∈ zs, 0 ≤ n ∧ n < 256 := fun n hn => by
    have := hw n hn
    simp [Lit.wf, IntKind.min, IntKind.max, IntKind.signed, IntKind.bits] at this
    omega
  have hget : ∀ i, i < len → (((nats (zs.take len)).getD i 0 : Nat) : Int) = zs.getD i 0 := fun i hi => by
    have h1 : i < zs.length := by omega
    have := hbd zs[i] (List.getElem_mem h1)
    rw [List.getD_eq_getElem?_getD, List.getD_eq_getElem?_getD]
    unfold nats
    rw [List.getElem?_map, List.getElem?_take, if_pos hi, List.getElem?_eq_getElem h1]
    simp; omega
  refine ⟨⟨Nat.le_refl _, by omega, ht, fun i => ?_, ?_⟩, hlen⟩
  · by_cases hi : i < len
    · have h1 : i < zs.length := by omega
      have := hbd zs[i] (List.getElem_mem h1)
      have h2 := hget i hi
      rw [List.getD_eq_getElem?_getD (l := zs), List.getElem?_eq_getElem h1] at h2
      simp only [Option.getD_some] at h2
      omega
    · rw [List.getD_eq_getElem?_getD, List.getElem?_eq_none (by omega)]; decide
  · by_cases h0 : len = 0
    · exact Or.inl (by omega)
    · obtain ⟨b, off, spot⟩ := x
      have hc := hcell 0 (by omega)
      have hspot : spot = none := by simpa [Addr.add] using World.cell?_spot hc
      subst hspot
      have hadd : ∀ j, (⟨b, off, none⟩ : Addr).add j = ⟨b, off + j, none⟩ := fun j => by unfold Addr.add; split <;> simp_all
      have hlt : b < W.heap.size := block_lt_of_cell hc
      refine Or.inr ⟨b, off, rfl, hlt, fun i hi => ?_⟩
      rw [hlen] at hi
      have h3 := hcell i (by omega)
      rw [hadd, ← hget i hi] at h3
      exact h3

/-- an argument that is a slice of bytes -/
theorem bytes_open {H : Type} {enc : TypeId × Value → H} {W : World} {a : Option Addr} {len cap : Nat} {d : DataW H} {ps : List MemPlace} (h : DataW.Trod enc Tryz.prog W 0 (fun _ => true) true 22 (.slice a len cap) d ps) :
    ∃ p, p.length = len ∧ BytesAt W W.heap.size a cap p := by
  obtain ⟨fuel, hf⟩ := h
  rcases open_ints Tryz.underlying22 Tryz.underlying5 (by kernel_rfl) hf with ⟨hcs, _⟩ | ⟨x, l, c, zs, hcs, _, hl, hm, hz, _, hcell, hwz⟩
  · simp [Value.cells] at hcs
    obtain ⟨rfl, rfl, rfl⟩ := hcs
    exact ⟨[], rfl, ⟨Nat.le_refl _, Nat.le_refl _, by decide, by simp, Or.inl rfl⟩⟩
  · simp [Value.cells] at hcs
    obtain ⟨rfl, rfl, rfl⟩ := hcs
    unfold maxLen at hm
    have hb := bytes_arg (by omega) hl (by simpa using hz) hcell hwz
    exact ⟨_, hb.2, hb.1⟩
/-- how great it may be -/
theorem bytes_reach {H : Type} {enc : TypeId × Value → H} {W : World} {a : Option Addr} {len cap : Nat} {d : DataW H} {ps : List MemPlace} {ts : List TypeId} {ds : List (DataW H)} (h : DataW.Trod enc Tryz.prog W 0 (fun _ => true) true 22 (.slice a len cap) d ps)
    (hsz : (DataW.weightsEach Tryz.prog ts ds).all (· ≤ reachBytes) = true) {j : Nat} (ht : ts[j]? = some 22) (hd : ds[j]? = some d) : len ≤ cap ∧ cap ≤ 140737488351232 := by
  obtain ⟨fuel, hf⟩ := h
  rcases open_ints Tryz.underlying22 Tryz.underlying5 (by kernel_rfl) hf with ⟨hcs, _⟩ | ⟨x, l, c, zs, hcs, _, hl, _, hz, hx, _, _⟩
  · simp [Value.cells] at hcs
    obtain ⟨rfl, rfl, rfl⟩ := hcs
    exact ⟨Nat.le_refl _, by decide⟩
  · simp [Value.cells] at hcs
    obtain ⟨rfl, rfl, rfl⟩ := hcs
    have hz2 : zs.length = cap := by simpa using hz
    simp only [Prod.mk.injEq] at hx
    rw [hx.1] at hd
    have := sized_slice hsz ht hd Tryz.underlying22
    rw [show Tryz.prog.bytesOf 5 = 1 by kernel_rfl] at this
    simp only [lits, List.length_map, List.length_take, List.length_drop, reachBytes] at this
    omega
theorem int_wf {n : Int} (h : (Lit.int .i64 n).wf = true) : -9223372036854775808 ≤ n ∧ n ≤ 9223372036854775807 := by
  simp [Lit.wf, IntKind.min, IntKind.max, IntKind.signed, IntKind.bits] at h
  omega
end Go.Proofs.YtmnlidfalhjghaaGreatDoor
