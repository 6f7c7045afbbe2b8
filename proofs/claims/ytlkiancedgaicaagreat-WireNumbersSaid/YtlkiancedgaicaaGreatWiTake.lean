/- must and take: the next bytes, or a panic. -/
import Derived.Test.YtlkiancedgaicaaGreatPart
import Derived.Test.YtlkiancedgaicaaGreatWiM
namespace Go.Proofs.YtlkiancedgaicaaGreat
open Go.RowKit Ow Wi

/-- a panic that is not recovered -/
def Dies (e : Ending) : Prop := ∃ u pv, e = .panicked [{ v := .iface u pv, recovered := false }]
theorem must_yes (w : World) : Calls Tryz.prog 177 #[.bool true] w fun e w' => e = .returned (.tuple #[]) ∧ w' = w := by
  go_enter Tryz.func177, Tryz.ntmps177
  go_wp2
  go_end0
  exact ⟨rfl, rfl⟩
theorem must_no (w : World) : Calls Tryz.prog 177 #[.bool false] w fun e w' => Dies e ∧ w' = w := by
  go_enter Tryz.func177, Tryz.ntmps177
  go_wp2
  exact ⟨rfl, ⟨_, _, rfl⟩, rfl⟩
theorem must_any (b : Bool) (w : World) : Calls Tryz.prog 177 #[.bool b] w fun e w' => (b = true ∧ e = .returned (.tuple #[]) ∨ b = false ∧ Dies e) ∧ w' = w := by
  cases b
  · exact (must_no w).mono fun e w' h => ⟨Or.inr ⟨rfl, h.1⟩, h.2⟩
  · exact (must_yes w).mono fun e w' h => ⟨Or.inl ⟨rfl, h.1⟩, h.2⟩

set_option maxRecDepth 100000 in
/-- x[lo:] of a reader's rest -/
theorem rest_from (a : Option Addr) (n cap lo : Nat) (h : lo ≤ n) :
    ∃ a', (∀ w, (Instr.slice 100 (.slice a n cap) (some (.int .i64 (lo : Int))) none none).run Tryz.prog w = .ok (.slice a' (n - lo) (cap - lo)) w) ∧ (lo < cap → ∀ pb po, a = some ⟨pb, po, none⟩ → a' = some ⟨pb, po + lo, none⟩) := by
  obtain ⟨j, hj, hs⟩ : ∃ j, Tryz.prog.info? (Tryz.prog.elem 100) = some j ∧ j.size = 1 := by
    have h1 : (Tryz.prog.info? (Tryz.prog.elem 100)).map (·.size) = some 1 := by kernel_rfl
    cases hq : Tryz.prog.info? (Tryz.prog.elem 100) with
    | none => rw [hq] at h1; cases h1
    | some j => rw [hq] at h1; exact ⟨j, rfl, by simpa using h1⟩
  refine ⟨if cap = lo then a else a.map (·.add lo), fun w => ?_, ?_⟩
  · rw [run_slice_l w 100 a n cap Tryz.underlying100 .i64 _ (by omega) (by omega), Int.toNat_natCast]
    simp [sizeOf, typeInfo, hj, hs, sliced]
  · intro hlt pb po e
    rw [if_neg (by omega), e]
    simp [Addr.add]
set_option maxRecDepth 100000 in
/-- x[:k] of a reader's rest -/
theorem rest_to (a : Option Addr) (n cap k : Nat) (h : k ≤ cap) :
    ∃ a', (∀ w, (Instr.slice 100 (.slice a n cap) none (some (.int .i64 (k : Int))) none).run Tryz.prog w = .ok (.slice a' k cap) w) ∧ (∀ pb po, a = some ⟨pb, po, none⟩ → a' = some ⟨pb, po, none⟩) := by
  obtain ⟨j, hj, hs⟩ : ∃ j, Tryz.prog.info? (Tryz.prog.elem 100) = some j ∧ j.size = 1 := by
    have h1 : (Tryz.prog.info? (Tryz.prog.elem 100)).map (·.size) = some 1 := by kernel_rfl
    cases hq : Tryz.prog.info? (Tryz.prog.elem 100) with
    | none => rw [hq] at h1; cases h1
    | some j => rw [hq] at h1; exact ⟨j, rfl, by simpa using h1⟩
  refine ⟨if cap = 0 then a else a.map (·.add 0), fun w => ?_, fun pb po e => ?_⟩
  · rw [run_slice_h w 100 a n cap Tryz.underlying100 .i64 _ (by omega) (by omega), Int.toNat_natCast]
    simp [sizeOf, typeInfo, hj, hs, sliced]
  · subst e
    split
    · rfl
    · simp [Addr.add]

/-- as many bytes as are asked for -/
theorem take_yes (rb k n cap : Nat) (a : Option Addr) (g : Value) (w : World) (hb : Blk w rb 102 [.slice a n cap, g]) (hk : k ≤ n) (hn : n ≤ cap) :
    Calls Tryz.prog 122 #[.pointer (some ⟨rb, 0, none⟩), .int .i64 k] w fun e w' => ∃ a1 a2, e = .returned (.slice a1 k cap) ∧ w' = w.setCell ⟨rb, 0, none⟩ (.slice a2 (n - k) (cap - k)) ∧
      (∀ pb po, a = some ⟨pb, po, none⟩ → a1 = some ⟨pb, po, none⟩) ∧ (k < cap → ∀ pb po, a = some ⟨pb, po, none⟩ → a2 = some ⟨pb, po + k, none⟩) := by
  obtain ⟨a1, h1, e1⟩ := rest_to a n cap k (by omega)
  obtain ⟨a2, h2, e2⟩ := rest_from a n cap k hk
  have c0 := hb.cell (i := 0) rfl
  have f0 := hb.free 0
  have hle : ((k : Int) ≤ (n : Int)) := by omega
  go_enter Tryz.func122, Tryz.ntmps122
  go_wp2_with (fail)
  refine (must_yes w).mono ?_
  rintro e w' ⟨rfl, rfl⟩
  go_wp2
  go_ret
  exact ⟨a1, a2, rfl, rfl, e1, e2⟩
theorem take_no (rb k n cap : Nat) (a : Option Addr) (g : Value) (w : World) (hb : Blk w rb 102 [.slice a n cap, g]) (hk : n < k) :
    Calls Tryz.prog 122 #[.pointer (some ⟨rb, 0, none⟩), .int .i64 k] w fun e w' => Dies e ∧ w' = w := by
  have c0 := hb.cell (i := 0) rfl
  have hle : ¬ ((k : Int) ≤ (n : Int)) := by omega
  go_enter Tryz.func122, Tryz.ntmps122
  go_wp2_with (fail)
  refine (must_no w).mono ?_
  rintro e w' ⟨⟨u, pv, rfl⟩, rfl⟩
  exact ⟨rfl, ⟨u, pv, rfl⟩, rfl⟩
end Go.Proofs.YtlkiancedgaicaaGreat
