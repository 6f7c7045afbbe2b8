/- The kit's CopyBytes, of none too. -/
import Derived.Test.YtohcoihdijemfaaAppendMake
import Derived.Test.YtohcoihdijemfaaFlowS
import Derived.Deep.Cut
namespace Go.Proofs.Ytohcoihdijemfaa
open Go.RowKit Ow

set_option maxHeartbeats 2000000 in
theorem copyB_own (B n cap : Nat) (a : Option Addr) (l : List Nat) (w : World) (hl : l.length = n) (hn : n ≤ 1000000) (hP : BytesAt w B a cap l) :
    Calls Try.prog 39 #[.slice a n cap] w fun e w' => ∃ v, e = .returned v ∧ w.grownBy w' none ∧ w'.ownsRow w.heap.size 5 1 v n (l.map u8N) := by
  obtain ⟨v2, w2, hr2, ho2, hg2⟩ := append_bytes w w.heap.size 0 B cap n (.slice none 0 0) [] a l (World.ownsRow_nil w _ 5 1) hl hP (by omega) (Nat.le_refl _)
  rw [Nat.zero_add, List.nil_append] at ho2
  have HS := Lib.hid (And.intro ho2 hg2); clear ho2 hg2
  have HR := Lib.hid hr2; clear hr2
  go_enter Try.func39, Try.ntmps39
  go_upto_region 2 with (fail)
  refine wp_region_lit ?_
  refine Fg.wpl_value (v := .slice none 0 0) (w' := w) rfl (Fg.run_move rfl rfl) ?_
  refine Fg.wpl_value (v := .slice a n cap) (w' := w) rfl (Fg.run_move rfl rfl) ?_
  refine wpList_append_run rfl (.tmp 4) (.tmp 5) 22 rfl rfl _ _ rfl rfl _ _ HR.out ?_
  refine Fg.wpl_value (v := v2) (w' := w2) rfl (Fg.run_assign rfl rfl) ?_
  refine wpList_nil ?_
  simp only [Act.put, List.setIfInBounds_toArray, List.set_cons_succ, List.set_cons_zero]
  go_wp2
  go_ret
  exact ⟨v2, rfl, HS.out.2, HS.out.1⟩
end Go.Proofs.Ytohcoihdijemfaa
