/- What the rows' lists give: the package's two tables. And a law's argument that is a slice of bytes. -/
import Derived.Test.YtjnednikgnapnaaDoorShaLawKit
import Derived.Test.YtjnednikgnapnaaDoorCards
import Derived.Test.YtjnednikgnapnaaDoorTie
import Derived.ProofKit
import Derived.OpenShut
import Derived.ShutString
import Derived.ChangeOld
import Derived.Deep.DeepHandedRow
import Derived.Lib.LaidTab
import Derived.SizedLaws
namespace Go.Proofs.YtjnednikgnapnaaDoor
open Go.ChangeShapes Go.WideShapes Go.ChangeAt Go.RowKit

theorem laidMet_tail {P : Program} {x : String × DataW Unit} {rest : List (String × DataW Unit)} {W : World} (h : laidMet P (x :: rest) W) : laidMet P rest W := by
  obtain ⟨ps, ⟨g, t, cs, fuel, p, q, _, _, _, _, hq, rfl⟩, hn, hc⟩ := h
  exact ⟨q, hq, (List.nodup_append.1 hn).2.1, fun b off hm => hc b off (List.mem_append_right _ hm)⟩
def listK : List Int := Sha.K.map fun (n : Nat) => (n : Int)
def listH : List Int := Sha.H0.map fun (n : Nat) => (n : Int)
theorem laid_is : [("buttress/sha.squareRoots", Rows.laid_buttress_sha_squareRoots), ("buttress/sha.cubeRoots", Rows.laid_buttress_sha_cubeRoots)] = [("buttress/sha.squareRoots", Lib.tabData (H := Unit) .u64 listH), ("buttress/sha.cubeRoots", Lib.tabData .u64 listK)] := by kernel_rfl
theorem tables {W : World} (h : laidMet Tryd.prog [("buttress/sha.squareRoots", Rows.laid_buttress_sha_squareRoots), ("buttress/sha.cubeRoots", Rows.laid_buttress_sha_cubeRoots)] W) : Tables W := by
  rw [laid_is] at h
  have g0 : Tryd.prog.globalNamed "buttress/sha.squareRoots" = some 0 := by kernel_rfl
  have g1 : Tryd.prog.globalNamed "buttress/sha.cubeRoots" = some 1 := by kernel_rfl
  have h0 := Lib.tabIs_of_head g0 (by kernel_rfl) Tryd.underlying49 Tryd.underlying33 (by kernel_rfl) (by kernel_rfl) h
  have h1 := Lib.tabIs_of_head g1 (by kernel_rfl) Tryd.underlying58 Tryd.underlying33 (by kernel_rfl) (by kernel_rfl) (laidMet_tail h)
  have cast_get : ∀ (l : List Nat) (i : Nat), (l.map fun (n : Nat) => (n : Int)).getD i 0 = ((l.getD i 0 : Nat) : Int) := fun l i => by
    rw [List.getD_eq_getElem?_getD, List.getD_eq_getElem?_getD, List.getElem?_map]
    cases l[i]? <;> rfl
  refine ⟨fun t ht => ?_, fun t ht => ?_⟩
  · rw [h1.cell g1 t ht]; unfold listK; rw [cast_get]; rfl
  · rw [h0.cell g0 t ht]; unfold listH; rw [cast_get]; rfl

theorem own : ownKnob Tryd.prog.godebug = none := by kernel_rfl
theorem laidOut : laidOutB Tryd.prog = true := by kernel_rfl

/-- a list of integers as natural numbers -/
def nats (l : List Int) : List Nat := l.map Int.toNat
theorem sbytes_arg {W : World} {B : Nat} {x : Addr} {len cap : Nat} {zs : List Int} (hB : W.heap.size ≤ B) (hl : len ≤ cap) (hz : zs.length = cap) (hcell : ∀ i, i < zs.length → W.cell? (x.add i) = some (.int .u8 (zs.getD i 0))) (hw : ∀ n ∈ zs, (Lit.int .u8 n).wf = true) :
    PartAt W B (some x) cap (nats (zs.take len)) ∧ (nats (zs.take len)).length = len := by
  have hlen : (nats (zs.take len)).length = len := by simp [nats, hz]; omega
  have hbd : ∀ n ∈ zs, 0 ≤ n ∧ n < 256 := fun n hn => by
    have := hw n hn
    simp [Lit.wf, IntKind.min, IntKind.max, IntKind.signed, IntKind.bits] at this
    omega
  have hget : ∀ i, i < len → (((nats (zs.take len)).getD i 0 : Nat) : Int) = zs.getD i 0 := fun i hi => by
    have h1 : i < zs.length := by omega
    have := hbd zs[i] (List.getElem_mem h1)
    rw [List.getD_eq_getElem?_getD, List.getD_eq_getElem?_getD]
    unfold nats
    rw [List.getElem?_map, List.getElem?_take, if_pos hi, List.getElem?_eq_getElem h1]
    simp; omega
  refine ⟨⟨by omega, fun i => ?_, ?_⟩, hlen⟩
  · by_cases hi : i < len
    · have h1 : i < zs.length := by omega
      have := hbd zs[i] (List.getElem_mem h1)
      have h2 := hget i hi
      rw [List.getD_eq_getElem?_getD (l := zs), List.getElem?_eq_getElem h1] at h2
      simp only [Option.getD_some] at h2
      omega
    · rw [List.getD_eq_getElem?_getD, List.getElem?_eq_none (by omega)]; decide
  · by_cases h0 : len = 0
    · exact Or.inl (by omega)
    · obtain ⟨b, off, spot⟩ := x
      have hc := hcell 0 (by omega)
      have hspot : spot = none := by simpa [Addr.add] using World.cell?_spot hc
      subst hspot
      have hadd : ∀ j, (⟨b, off, none⟩ : Addr).add j = ⟨b, off + j, none⟩ := fun j => by unfold Addr.add; split <;> simp_all
      have hlt : b < W.heap.size := block_lt_of_cell hc
      refine Or.inr ⟨b, off, rfl, by omega, hlt, fun i hi => ?_⟩
      rw [hlen] at hi
      have h3 := hcell i (by omega)
      rw [hadd, ← hget i hi] at h3
      exact h3

/-- another row in a block -/
def putObj (l : List Int) : Obj → Obj
  | .cells _ t frozen => .cells (l.map (Value.int .u64)).toArray t frozen
  | o => o
/-- A WORLD FOR A WITNESS: the settled one, the two tables holding what their initialisers lay. -/
noncomputable def laidWorld (os : Os) : World :=
  { World.holding Tryd.prog os ⟨#[], #[], []⟩ with heap := ((World.holding Tryd.prog os ⟨#[], #[], []⟩).heap.modify 0 (putObj listH)).modify 1 (putObj listK) }

/-- an argument that is a slice of bytes -/
theorem bytes_open {H : Type} {enc : TypeId × Value → H} {W : World} {a : Option Addr} {len cap : Nat} {d : DataW H} {ps : List MemPlace} (h : DataW.Trod enc Tryd.prog W 0 (fun _ => true) true 26 (.slice a len cap) d ps) :
    ∃ p, p.length = len ∧ PartAt W W.heap.size a cap p ∧ cap < 9223372036854775808 := by
  obtain ⟨fuel, hf⟩ := h
  rcases open_ints Tryd.underlying26 Tryd.underlying5 (by kernel_rfl) hf with ⟨hcs, _⟩ | ⟨x, l, c, zs, hcs, _, hl, hm, hz, _, hcell, hwz⟩
  · simp [Value.cells] at hcs
    obtain ⟨rfl, rfl, rfl⟩ := hcs
    exact ⟨[], rfl, ⟨Nat.le_refl _, by simp, Or.inl rfl⟩, by decide⟩
  · simp [Value.cells] at hcs
    obtain ⟨rfl, rfl, rfl⟩ := hcs
    have hb := sbytes_arg (Nat.le_refl W.heap.size) hl (by simpa using hz) hcell hwz
    unfold maxLen at hm
    exact ⟨_, hb.2, hb.1, by omega⟩
/-- how great it may be -/
theorem bytes_reach {H : Type} {enc : TypeId × Value → H} {W : World} {a : Option Addr} {len cap : Nat} {d : DataW H} {ps : List MemPlace} {ts : List TypeId} {ds : List (DataW H)} (h : DataW.Trod enc Tryd.prog W 0 (fun _ => true) true 26 (.slice a len cap) d ps)
    (hsz : (DataW.weightsEach Tryd.prog ts ds).all (· ≤ reachBytes) = true) {j : Nat} (ht : ts[j]? = some 26) (hd : ds[j]? = some d) : len ≤ cap ∧ cap ≤ 140737488351232 := by
  obtain ⟨fuel, hf⟩ := h
  rcases open_ints Tryd.underlying26 Tryd.underlying5 (by kernel_rfl) hf with ⟨hcs, _⟩ | ⟨x, l, c, zs, hcs, _, hl, _, hz, hx, _, _⟩
  · simp [Value.cells] at hcs
    obtain ⟨rfl, rfl, rfl⟩ := hcs
    exact ⟨Nat.le_refl _, by decide⟩
  · simp [Value.cells] at hcs
    obtain ⟨rfl, rfl, rfl⟩ := hcs
    have hz2 : zs.length = cap := by simpa using hz
    simp only [Prod.mk.injEq] at hx
    rw [hx.1] at hd
    have := sized_slice hsz ht hd Tryd.underlying26
    rw [show Tryd.prog.bytesOf 5 = 1 by kernel_rfl] at this
    simp only [lits, List.length_map, List.length_take, List.length_drop, reachBytes] at this
    omega
end Go.Proofs.YtjnednikgnapnaaDoor
