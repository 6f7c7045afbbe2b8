/- Good, and a call that is tried: what it tells, or that its panic is recovered and the reader is none. -/
import Derived.Test.YtlkiancedgaicaaGreatWiWord
import Derived.Defers
import Derived.Recover
import Derived.LaidEqlPtr
namespace Go.Proofs.YtlkiancedgaicaaGreat
open Go.RowKit Ow Wi

/-- the pointer to itself -/
def gP (rb : Nat) : Value := .pointer (some ⟨rb, 0, none⟩)
theorem weql_self (a : Addr) (w : World) : (binOp .eql 34 (.pointer (some a)) (.pointer (some a))).run Tryz.prog w = .ok (.bool true) w := by
  obtain ⟨j, hj⟩ : ∃ j, Tryz.prog.info? 102 = some j := by
    have h1 : (Tryz.prog.info? 102).isSome = true := by kernel_rfl
    exact Option.isSome_iff_exists.1 h1
  exact run_eql_ptr_same w a Tryz.underlying34 hj
theorem weql_none (a : Addr) (w : World) : (binOp .eql 34 (.pointer none) (.pointer (some a))).run Tryz.prog w = .ok (.bool false) w := by
  have h : ∀ d : Nat, (Op.equalIn (d + 1) 34 (.pointer none) (.pointer (some a))).run Tryz.prog w = .ok false w := fun d => by
    simp [Op.equalIn, run_underlying Tryz.underlying34]
  simp only [binOp]
  simp [Op.equal, Op.maxDepth, h 9999]
theorem wgood_nil (w : World) : Calls Tryz.prog 26 #[.pointer none] w fun e w' => e = .returned (.bool false) ∧ w' = w := by
  go_enter Tryz.func26, Tryz.ntmps26
  go_wp2
  go_ret
  exact ⟨rfl, rfl⟩
theorem wgood_yes (rb : Nat) (s : Value) (w : World) (hb : Blk w rb 102 [s, gP rb]) :
    Calls Tryz.prog 26 #[.pointer (some ⟨rb, 0, none⟩)] w fun e w' => e = .returned (.bool true) ∧ w' = w := by
  have c1 := hb.cell (i := 1) rfl
  unfold gP at c1
  have he := weql_self ⟨rb, 0, none⟩ w
  go_enter Tryz.func26, Tryz.ntmps26
  go_wp2
  go_ret
  exact ⟨rfl, rfl⟩
theorem wgood_no (rb : Nat) (s : Value) (w : World) (hb : Blk w rb 102 [s, .pointer none]) :
    Calls Tryz.prog 26 #[.pointer (some ⟨rb, 0, none⟩)] w fun e w' => e = .returned (.bool false) ∧ w' = w := by
  have c1 := hb.cell (i := 1) rfl
  have he := weql_none ⟨rb, 0, none⟩ w
  go_enter Tryz.func26, Tryz.ntmps26
  go_wp2
  go_ret
  exact ⟨rfl, rfl⟩
/-- a reader that is none any more -/
def RdN (w : World) (rb : Nat) : Prop := Blk w rb 102 [.slice none 0 0, .pointer none]
end Go.Proofs.YtlkiancedgaicaaGreat
