/- The laws' helpers small and together. -/
import Derived.Test.YtkddpehkamkaoaaGreatDoorShaLengths
namespace Go.Proofs.YtkddpehkamkaoaaGreatDoor
open Go.RowKit

theorem small_fin {ps : List Part} {m k n : Nat} (hm : ps.length = m) (hk : k = m) (hn : n ≤ 3000) (h : n ≤ 3000 → n = (joined (ps.take k)).length) : (joined ps).length ≤ 3000 := by
  have := h hn
  rw [List.take_of_length_le (by omega)] at this
  omega
set_option maxHeartbeats 1000000 in
theorem small_any (m cap B : Nat) (ps : List Part) (a : Option Addr) (w : World) (hm : ps.length = m) (hP : PartsAt w B a cap ps) :
    Calls Tryz.prog 5 #[.slice a m cap] w fun e w' => ∃ b, e = .returned (.bool b) ∧ (b = true → m ≤ 40 ∧ (joined ps).length ≤ 3000) ∧ ∃ k, w' = w.drewN k := by
  have hmc := hP.cap
  have HP := Lib.hid (And.intro hm hP); clear hP
  rw [hm] at hmc
  clear hm
  go_enter Tryz.func5, Tryz.ntmps5
  go_wp2
  go_loopw [3, 4] (fun v i wr => ∃ k n j : Nat, k ≤ m ∧ k ≤ 41 ∧ i = .int .i64 k ∧ v = .int .i64 n ∧ n ≤ 6001 ∧ (n ≤ 3000 → n = (joined (ps.take k)).length) ∧ wr = w.drewN j) (fun _ i _ => m - (intOf i).toNat)
  case atStart => exact ⟨0, 0, 0, by omega, by omega, rfl, rfl, by omega, fun _ => rfl, rfl⟩
  case round =>
    obtain ⟨k, n, j, hk, hk2, rfl, rfl, hn, hnj, rfl⟩ := hrel
    by_cases hlt : k < m ∧ k < 41 ∧ n ≤ 3000
    · obtain ⟨l1, l2, l3⟩ := hlt
      have hkl : k < ps.length := by have := HP.out.1; omega
      obtain ⟨pb, po, rfl, _, _, hc⟩ := HP.out.2.cells.resolve_left (by have := HP.out.1; omega)
      have kc := hc k (by have := HP.out.1; omega)
      have hjt := joined_take ps k (by have := HP.out.1; omega)
      have hle := joined_le ps (k + 1)
      have hpk := HP.out.2.parts ps[k] (List.getElem_mem _)
      have hpl : ps[k].l.length ≤ 9223372036854775807 := by have := hpk.1.cap; have := hpk.2; omega
      unfold Part.v at kc
      have hjl : (joined (ps.take (k + 1))).length = n + ps[k].l.length := by rw [hjt, List.length_append, ← hnj l3]
      have HJ := Lib.hid (And.intro hjl hkl); clear hc hjt hle hpk hjl hnj
      generalize ps[k].l.length = x at *
      generalize ps[k].a = pa at *
      generalize ps[k].cap = pc at *
      clear hkl
      have i0 : (k : Int) < (m : Int) := by omega
      have i1 : (k : Int) < 41 := by omega
      have i2 : (n : Int) ≤ 3000 := by omega
      have i3 : (min (x : Int) 3001) = ((min x 3001 : Nat) : Int) := by omega
      go_wp2_with fail
      go_roundw
      case rel => exact ⟨k + 1, n + min x 3001, j, by omega, by omega, by go_num, by congr 1; split <;> omega, by omega, fun h => by have := HJ.out.1; omega, rfl⟩
      case measure => simp [intOf]; omega
    · have hlt' : ¬ ((k : Int) < (m : Int) ∧ (k : Int) < 41 ∧ (n : Int) ≤ 3000) := by omega
      have HJ := Lib.hid hnj
      clear hnj
      by_cases c1 : (k : Int) < (m : Int) <;> by_cases c2 : (k : Int) < 41 <;> by_cases c3 : (n : Int) ≤ 3000
      all_goals first | (exfalso; omega) | skip
      all_goals clear hlt hlt'
      all_goals go_wp2
      all_goals go_ret
      all_goals first | exact Or.inl ⟨rfl, j, rfl⟩ | exact Or.inr ⟨rfl, ⟨by omega, small_fin HP.out.1 (show k = m by omega) (by omega) HJ.out⟩, j, rfl⟩
set_option maxHeartbeats 1000000 in
theorem together_any (m cap B : Nat) (ps : List Part) (a : Option Addr) (w : World) (hm : ps.length = m) (hP : PartsAt w B a cap ps) (h40 : m ≤ 40) (hlen : (joined ps).length ≤ 3000) :
    Calls Tryz.prog 10 #[.slice a m cap] w fun e w' => ∃ v, e = .returned v ∧ w.grownBy w' none ∧ w'.ownsRow w.heap.size 5 1 v (joined ps).length ((joined ps).map u8V) := by
  have hmc := hP.cap
  have HP := Lib.hid (And.intro hm hP); clear hP
  rw [hm] at hmc
  clear hm
  go_enter Tryz.func10, Tryz.ntmps10
  go_wp2
  go_loopw [3, 4] (fun v i wr => ∃ k : Nat, k ≤ m ∧ i = .int .i64 k ∧ w.grownBy wr none ∧ wr.ownsRow w.heap.size 5 1 v (joined (ps.take k)).length ((joined (ps.take k)).map u8V)) (fun _ i _ => m - (intOf i).toNat)
  case atStart => exact ⟨0, by omega, rfl, gb_refl _ _, World.ownsRow_nil _ _ _ _⟩
  case round =>
    obtain ⟨k, hk, rfl, hg, hown⟩ := hrel
    by_cases hlt : k < m
    · have hkl : k < ps.length := by have := HP.out.1; omega
      have hP := HP.out.2.grown hg (B' := wr.heap.size + w.heap.size) (by omega)
      obtain ⟨pb, po, rfl, _, _, hc⟩ := hP.cells.resolve_left (by omega)
      have kc := hc k hkl
      have hpk := hP.parts ps[k] (List.getElem_mem _)
      have hjt := joined_take ps k hkl
      have hle := joined_le ps (k + 1)
      unfold Part.v at kc
      rw [hjt, List.length_append] at hle
      obtain ⟨v2, w2, hap, how2, hgr⟩ := append_part wr w.heap.size _ _ _ _ _ _ ps[k].a ps[k].l hown rfl hpk.1 (by omega) hg.size
      have hg2 := gb_own hg hown (Nat.le_refl _) hgr
      rw [← List.length_append, ← List.map_append, ← hjt] at how2
      have H2 := Lib.hid (And.intro hap (And.intro hg2 how2)); clear hap hg2 how2 hgr hc hpk hle hjt hP hg hown
      generalize ps[k].l.length = x at *
      generalize ps[k].a = pa at *
      generalize ps[k].cap = pc at *
      have i0 : (k : Int) < (m : Int) := by omega
      go_wp2_with (at_builtin; refine wpList_append_run rfl (.tmp 11) (.tmp 15) 26 rfl rfl _ _ rfl rfl _ _ H2.out.1 ?_)
      go_roundw
      case rel => exact ⟨k + 1, by omega, by go_num, H2.out.2.1, H2.out.2.2⟩
      case measure => simp [intOf]; omega
    · obtain rfl : k = m := by omega
      have hjl : ps.take k = ps := by rw [← HP.out.1]; exact List.take_length
      rw [hjl] at hown
      have H2 := Lib.hid (And.intro hg hown); clear hg hown
      go_wp2
      go_ret
      exact ⟨_, rfl, H2.out.1, H2.out.2⟩
end Go.Proofs.YtkddpehkamkaoaaGreatDoor
