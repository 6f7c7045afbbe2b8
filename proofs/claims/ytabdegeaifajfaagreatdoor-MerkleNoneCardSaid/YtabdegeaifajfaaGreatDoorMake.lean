/- make of bytes: a new block of zeros. -/
import Derived.Test.YtabdegeaifajfaaGreatDoorOwn
import Derived.WalkKit
namespace Go.Proofs.YtabdegeaifajfaaGreatDoor
open Go.RowKit Ow

theorem info_u8z : ∃ i, Tryz.prog.info? 5 = some i ∧ i.zero = some (.int .u8 0) ∧ i.size = 1 ∧ i.bytes = 1 := by
  have h : (Tryz.prog.info? 5).map (fun i => (i.zero, i.size, i.bytes)) = some (some (.int .u8 0), 1, 1) := by kernel_rfl
  cases hi : Tryz.prog.info? 5 with
  | none => rw [hi] at h; cases h
  | some i =>
    rw [hi] at h
    simp only [Option.map_some, Option.some.injEq, Prod.mk.injEq] at h
    exact ⟨i, rfl, h.1, h.2.1, h.2.2⟩
theorem made_bytes (n : Nat) : madeCells (Value.int .u8 0).cells n = (List.replicate n (u8N 0)).toArray := by
  unfold madeCells u8N
  apply Array.ext
  · simp
  · intro i h1 h2
    simp [Value.cells, Nat.mod_one]
theorem make_bytes (n c : Nat) (w : World) (h : n ≤ c) (hc : c ≤ 140737488355328) : ∃ w', (Instr.makeSlice 34 (.int .i64 n) (.int .i64 c)).run Tryz.prog w = .ok (.slice (some ⟨w.heap.size, 0, none⟩) n c) w' ∧
    w.grownBy w' none ∧ w'.heap.size = w.heap.size + 1 ∧ Blk w' w.heap.size 5 (List.replicate c (u8N 0)) := by
  obtain ⟨i, hi, hz, hs, hb⟩ := info_u8z
  have h2 := run_make (P := Tryz.prog) w 34 5 i (.int .u8 0) Tryz.underlying34 hi hz .i64 .i64 n c (by omega) (by omega) (by rw [hb]; omega) (by omega)
  rw [hs, Nat.mul_one, Int.toNat_natCast, Int.toNat_natCast, made_bytes] at h2
  exact ⟨_, h2, gb_alloc (gb_refl _ _) _, by simp, Blk.new w _ _⟩
end Go.Proofs.YtabdegeaifajfaaGreatDoor
