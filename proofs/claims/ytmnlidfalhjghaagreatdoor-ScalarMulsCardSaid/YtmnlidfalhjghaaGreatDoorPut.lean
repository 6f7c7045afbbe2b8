/- The kit's bag: lists of bytes put into it. -/
import Derived.Test.YtmnlidfalhjghaaGreatDoorFlatGrow
namespace Go.Proofs.YtmnlidfalhjghaaGreatDoor
open Go.RowKit Ow

theorem elt_slz : Elt 22 31 24 (.slice none 0 0) := ⟨Tryz.underlying31, by
  obtain ⟨i, hi, hz, hs, hb⟩ := info_slz
  exact ⟨i, hi, hz, hs, hb, rfl⟩⟩
/-- a bag's cells, lists of bytes alone in it -/
def bagL (v : Value) : List Value := List.replicate 5 (.slice none 0 0) ++ v :: List.replicate 18 (.slice none 0 0)
theorem bagL_five (v : Value) : (bagL v)[5]? = some v := rfl
theorem bagL_set (u v : Value) : (bagL u).set 5 v = bagL v := rfl
theorem bagL_nil (v : Value) (i : Nat) (h : i < 24) (h5 : i ≠ 5) : (bagL v)[i]? = some (.slice none 0 0) := by
  unfold bagL
  rcases Nat.lt_or_ge i 5 with h' | h'
  · rw [List.getElem?_append_left (by simpa using h'), List.getElem?_replicate, if_pos h']
  · rw [List.getElem?_append_right (by simpa using h'), List.length_replicate, show i - 5 = (i - 6) + 1 by omega, List.getElem?_cons_succ, List.getElem?_replicate, if_pos (by omega)]
/-- an append to a list of lists of one's own -/
theorem append_list (w : World) (base k : Nat) (v0 l : Value) (rows : List Value) (b : Nat) (hown : w.ownsRow base 22 1 v0 k rows) (hl : w.cell? ⟨b, 0, none⟩ = some l) (h1 : l.oneCell' = true) (hk : k ≤ 100000) (hb : base ≤ w.heap.size) :
    ∃ v' w', (Builtin.append_ #[31, 31] 31 #[v0, .slice (some ⟨b, 0, none⟩) 1 1]).run Tryz.prog w = .ok v' w' ∧ w'.ownsRow base 22 1 v' (k + 1) (rows ++ [l]) ∧ w.grownBy w' v0.ownBlock := by
  obtain ⟨i, hi, hz, hs, hby, hzc⟩ := elt_slz.info
  obtain ⟨v', w', hr, ho, hg, _⟩ := run_append_own w base 31 31 22 i (.slice none 0 0) 1 24 (P := Tryz.prog) elt_slz.sl hi hz hs hby hzc (by decide) v0 k rows hown ⟨b, 0, none⟩ 1 1 [l] rfl (fun j u hu => by
    cases j with
    | zero =>
      have e : (⟨b, 0, none⟩ : Addr).add 0 = ⟨b, 0, none⟩ := by unfold Addr.add; split <;> simp_all
      rw [e, hl]; exact hu
    | succ j => simp at hu) (fun u hu => by simp at hu; subst hu; exact h1) (by unfold maxLen; omega) (by omega) hb
  exact ⟨v', w', hr, ho, hg⟩
set_option maxHeartbeats 1000000 in
theorem put_bytes (w : World) (base B k n c : Nat) (T : TypeId) (hT : T ≠ 22) (v0 : Value) (a : Option Addr) (rows : List Value) (hown : w.ownsRow base 22 1 v0 k rows) (hB : Blk w B T (bagL v0)) (hk : k ≤ 100000) (hb : base ≤ w.heap.size) :
    Calls Tryz.prog 32 #[.pointer (some ⟨B, 0, none⟩), .slice a n c] w fun e w' => (∃ r, e = .returned r) ∧ ∃ v', w'.ownsRow base 22 1 v' (k + 1) (rows ++ [.slice a n c]) ∧ Blk w' B T (bagL v') ∧ Kb (fun i => i = B ∨ v0.ownBlock = some i) w w' := by
  have apart : ∀ (W : World) (v : Value) (j : Nat) (rs : List Value) (u : Value), W.ownsRow base 22 1 v j rs → Blk W B T (bagL u) → some B ≠ v.ownBlock := by
    intro W v j rs u ho hb e
    rcases ho.2 with ⟨h0, _⟩ | ⟨g, c, cur, e1, _, hg, _⟩
    · rw [h0] at e; cases e
    · rw [e1] at e
      have e2 : B = g := by simpa [Value.ownBlock] using e
      subst e2
      unfold Blk at hb
      rw [hb] at hg
      cases hg
      exact hT rfl
  have hgb := World.grownBy_alloc w (.cells #[.slice a n c] 22) none
  obtain ⟨v', w4, hap, ho4, hg4⟩ := append_list (w.alloc (.cells #[.slice a n c] 22)) base k v0 (.slice a n c) rows w.heap.size (hown.alloc _) ((Blk.new w [.slice a n c] 22).cell rfl) rfl hk (Nat.le_trans hb hgb.size)
  have hbv := apart w v0 k rows v0 hown hB
  have hB4 : Blk w4 B T (bagL v0) := (hB.alloc _).grown hg4 hbv
  have hbv4 := apart w4 v' (k + 1) _ v0 ho4 hB4
  obtain ⟨g, c', rfl, _⟩ := own_some ho4 (by omega)
  have c5 := hB.cell (bagL_five v0)
  have c54 := hB4.cell (bagL_five v0)
  have f5 := hB4.free 5
  have hgs : w4.grownBy (w4.setCell ⟨B, 5, none⟩ (.slice (some ⟨g, 0, none⟩) (k + 1) c')) (some B) := gb_set (gb_refl _ (some B)) 5 _
  have hB5 := hB4.set 5 (.slice (some ⟨g, 0, none⟩) (k + 1) c')
  rw [bagL_set] at hB5
  have ho5 := ho4.kept hgs (Or.inr (fun e => hbv4 e.symm))
  have hK : Kb (fun i => i = B ∨ v0.ownBlock = some i) w (w4.setCell ⟨B, 5, none⟩ (.slice (some ⟨g, 0, none⟩) (k + 1) c')) :=
    kb_then (kb_then (kb_stay (kb_refl _ _) hgb) hg4 (fun r e => Or.inl (Or.inr e))) hgs (fun r e => Or.inl (Or.inl (by cases e; rfl)))
  have HI := Lib.hid (And.intro ho5 (And.intro hB5 hK)); clear ho5 hB5 hK hgs hbv4 hB4 hbv ho4 hg4 hgb hB apart
  obtain ⟨a0, c0, rfl⟩ : ∃ a0 c0, v0 = .slice a0 k c0 := by
    rcases own_shape hown with ⟨rfl, rfl⟩ | ⟨g, c, rfl⟩
    · exact ⟨_, _, rfl⟩
    · exact ⟨_, _, rfl⟩
  clear hown
  go_enter Tryz.func32, Tryz.ntmps32
  go_wp2_with (at_builtin; refine wpList_append_run rfl (.tmp 8) (.tmp 10) 31 rfl rfl _ _ rfl rfl _ _ hap ?_)
  go_end0
  exact ⟨⟨_, rfl⟩, _, HI.out⟩
end Go.Proofs.YtmnlidfalhjghaaGreatDoor
