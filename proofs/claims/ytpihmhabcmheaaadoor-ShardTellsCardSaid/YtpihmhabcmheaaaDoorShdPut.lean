/- shard: signs.put: a bit's sign behind a way's, where there is room. -/
import Derived.Test.YtpihmhabcmheaaaDoorShdShard
import Derived.Test.YtpihmhabcmheaaaDoorMake
namespace Go.Proofs.YtpihmhabcmheaaaDoor
open Go.RowKit Ow
/-- one sign appended, out of a box that was just made, where there is room -/
theorem append_sign_fits (w : World) (base g n0 c x : Nat) (xs : List Value) (hown : w.ownsRow base 5 1 (.slice (some ⟨g, 0, none⟩) n0 c) n0 xs) (hroom : n0 + 1 ≤ c) :
    ∃ w', (Builtin.append_ #[47, 47] 47 #[.slice (some ⟨g, 0, none⟩) n0 c, .slice (some ⟨w.heap.size, 0, none⟩) 1 1]).run Tryd.prog (w.alloc (.cells #[u8N x] 5)) = .ok (.slice (some ⟨g, 0, none⟩) (n0 + 1) c) w' ∧ w'.ownsRow base 5 1 (.slice (some ⟨g, 0, none⟩) (n0 + 1) c) (n0 + 1) (xs ++ [u8N x]) ∧ w.grownBy w' (some g) := by
  obtain ⟨i, z, hi, hz, hs, hb, hc⟩ := info_u8
  obtain ⟨w', hr, ho, hg⟩ := run_append_fits (w.alloc (.cells #[u8N x] 5)) base 47 47 5 i 1 (P := Tryd.prog) Tryd.underlying47 hi hs g n0 c xs (hown.alloc _) ⟨w.heap.size, 0, none⟩ 1 1 [u8N x] rfl (fun j u hu => by
    have hj : j = 0 := by
      rcases Nat.eq_zero_or_pos j with h | h
      · exact h
      · rw [List.getElem?_eq_none (by simp; omega)] at hu; cases hu
    subst hj
    rw [show u8N x = u by simpa using hu]
    exact (Blk.new w [u] 5).cell (i := 0) rfl) (fun u hu => by rw [List.mem_singleton.1 hu]; rfl) hroom
  exact ⟨w', hr, ho, gb_trans (gb_alloc (gb_refl _ _) _) hg⟩
set_option maxRecDepth 100000 in
set_option maxHeartbeats 2000000 in
theorem put_any (g n c x A base : Nat) (xs : List Value) (w : World) (hx : x < 2) (hA : w.cell? ⟨A, 0, none⟩ = some (.int .u8 (x : Int))) (hown : w.ownsRow base 5 1 (.slice (some ⟨g, 0, none⟩) n c) n xs) (hroom : n + 1 ≤ c) :
    Calls Tryd.prog 21 #[.slice (some ⟨g, 0, none⟩) n c, .slice (some ⟨A, 0, none⟩) 1 1] w fun e w' => e = .returned (.slice (some ⟨g, 0, none⟩) (n + 1) c) ∧ w.grownBy w' (some g) ∧ w'.ownsRow base 5 1 (.slice (some ⟨g, 0, none⟩) (n + 1) c) (n + 1) (xs ++ [u8N (48 + x)]) := by
  obtain ⟨w1, hr, ho, hg⟩ := append_sign_fits w base g n c (48 + x) xs hown hroom
  have e1 : ((48 + x : Nat) : Int) = 48 + (x : Int) := by omega
  unfold u8N at hr
  rw [e1] at hr
  have H1 := Lib.hid (And.intro hr (And.intro ho hg)); clear hr ho hg hown e1
  go_enter Tryd.func21, Tryd.ntmps21
  go_wp2
  go_loopw [0, 6, 9] (fun s _ i wr => (i = .int .i64 0 ∧ s = .slice (some ⟨g, 0, none⟩) n c ∧ wr = w) ∨ (i = .int .i64 1 ∧ s = .slice (some ⟨g, 0, none⟩) (n + 1) c ∧ wr = w1)) (fun _ _ i _ => (1 - intOf i).toNat)
  case atStart => exact Or.inl ⟨rfl, rfl, rfl⟩
  case round =>
    obtain ⟨rfl, rfl, rfl⟩ | ⟨rfl, rfl, rfl⟩ := hrel
    · go_wp2_with (at_builtin; refine wpList_append_run rfl (.tmp 13) (.tmp 16) 47 rfl rfl _ _ rfl rfl _ _ H1.out.1 ?_)
      go_roundw
      case rel => first | exact Or.inr ⟨rfl, rfl, rfl⟩ | simp
      case measure => simp [intOf]
    · go_wp2
      go_ret
      exact ⟨rfl, H1.out.2.2, H1.out.2.1⟩
end Go.Proofs.YtpihmhabcmheaaaDoor
