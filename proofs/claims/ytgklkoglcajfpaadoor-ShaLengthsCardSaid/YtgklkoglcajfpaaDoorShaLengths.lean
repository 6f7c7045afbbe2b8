/- The law ShaLengths's walk; the document's own digest. -/
import Derived.Test.YtgklkoglcajfpaaDoorShaRefSum
namespace Go.Proofs.YtgklkoglcajfpaaDoor
open Go.RowKit

theorem own_kept {w w' : World} {base e n : Nat} {v : Value} {xs : List Value} (h : w.ownsRow base e 1 v n xs) (hg : w.grownBy w' none) : w'.ownsRow base e 1 v n xs :=
  h.kept hg (by cases v.ownBlock <;> simp)
/-- a row of bytes of one's own, as a part -/
theorem own_part {w : World} {base n : Nat} {v : Value} {l : List Nat} (h : w.ownsRow base 5 1 v n (l.map u8V)) (hl : l.length = n) (hb : ∀ i, l.getD i 0 < 256) :
    ∃ a cap, v = .slice a n cap ∧ cap < 9223372036854775808 ∧ ∀ B, w.heap.size ≤ B → PartAt w B a cap l := by
  subst hl
  rcases Nat.eq_zero_or_pos l.length with h0 | h0
  · rcases h.2 with ⟨rfl, _⟩ | ⟨g, c, cur, rfl, _, _, hnc, hcm, _⟩
    · exact ⟨none, 0, by rw [h0], by decide, fun B _ => ⟨by omega, hb, Or.inl h0⟩⟩
    · exact ⟨_, c, rfl, by unfold maxLen at hcm; omega, fun B _ => ⟨hnc, hb, Or.inl h0⟩⟩
  · obtain ⟨g, c, rfl, _, hnc, hcm, hlt⟩ := own_some h h0
    have hB := own_bytes h0 h
    exact ⟨_, c, rfl, by unfold maxLen at hcm; omega, fun B hB' => ⟨hnc, hb, Or.inr ⟨g, 0, rfl, by omega, hlt, fun i hi => by rw [Nat.zero_add]; exact hB.2 i hi⟩⟩⟩
theorem first_SB : SB Sha.first := by constructor <;> decide

set_option maxHeartbeats 1000000 in
theorem refSum_any (n cap B : Nat) (p : List Nat) (a : Option Addr) (w : World) (hn : p.length = n) (hP : PartAt w B a cap p) (hlen : n < 2147483000) :
    Calls Tryd.prog 19 #[.slice a n cap] w fun e w' => ∃ g c, e = .returned (.slice (some ⟨g, 0, none⟩) 64 c) ∧ w.grownBy w' none ∧ w'.ownsRow w.heap.size 5 1 (.slice (some ⟨g, 0, none⟩) 64 c) 64 ((Sha.sum p).map u8V) := by
  have HP := Lib.hid hP; clear hP
  go_enter Tryd.func19, Tryd.ntmps19
  go_wp2_with fail
  refine (refTable_any w).mono ?_
  rintro e w1 ⟨g, rfl, hg1, hF, hK⟩
  have H1 := Lib.hid (And.intro hg1 (And.intro hF hK)); clear hg1 hF hK
  go_wp2_with fail
  refine (refSumBy_any g 0 8 (g + 1) 0 80 n cap (w.heap.size + B) Sha.first p a w1 first_SB hn (HP.out.grown H1.out.1 (by omega)) hlen H1.out.2.1 H1.out.2.2).mono ?_
  rintro e w2 ⟨g2, c2, rfl, hg2, hown⟩
  rw [turns_first] at hown
  have H2 := Lib.hid (And.intro (gb_trans H1.out.1 hg2) (own_base hown H1.out.1.size)); clear hg2 hown
  go_wp2
  go_ret
  exact ⟨g2, c2, rfl, H2.out.1, H2.out.2⟩

/-- n bytes: 0, 1, .. 255, 0, .. -/
def lenBytes (n : Nat) : List Nat := (List.range n).map (· % 256)
theorem lenBytes_length (n : Nat) : (lenBytes n).length = n := by simp [lenBytes]
theorem lenBytes_next (n : Nat) : (lenBytes (n + 1)).map u8V = (lenBytes n).map u8V ++ [u8V (n % 256)] := by simp [lenBytes, List.range_succ]
theorem lenBytes_byte (n i : Nat) : (lenBytes n).getD i 0 < 256 :=
  small_byte _ (fun x hx => by obtain ⟨y, _, rfl⟩ := List.mem_map.1 hx; exact Nat.mod_lt _ (by decide)) i

set_option maxHeartbeats 1000000 in
theorem shaLengths_any (w : World) (hT : Tables w) :
    Calls Tryd.prog 4 #[] w fun e w' => e = .returned (.bool true) ∧ Below w.heap.size w w' := by
  have HT := Lib.hid hT; clear hT
  go_enter Tryd.func4, Tryd.ntmps4
  go_wp2_with fail
  refine (awake_any w HT.out).mono ?_
  rintro e w1 ⟨rfl, hg1⟩
  have G1 := Lib.hid hg1; clear hg1
  go_wp2_with fail
  go_loopw [1, 2] (fun v i wr => ∃ k : Nat, k ≤ 290 ∧ i = .int .i64 k ∧ wr.ownsRow w.heap.size 5 1 v k ((lenBytes k).map u8V) ∧ w.grownBy wr none) (fun _ i _ => 290 - (intOf i).toNat)
  case atStart => exact ⟨0, by omega, rfl, World.ownsRow_nil _ _ _ _, G1.out⟩
  case round =>
    obtain ⟨k, hk, rfl, hown, hg⟩ := hrel
    by_cases hlt : k < 290
    · have hl := lenBytes_length k
      have hby := lenBytes_byte k
      have hnx := lenBytes_next k
      generalize lenBytes k = p at *
      obtain ⟨a, cap, rfl, hcap, hP⟩ := own_part hown hl hby
      have HP := Lib.hid (And.intro hown (And.intro hg (And.intro hP (And.intro hl hnx)))); clear hown hg hP hl hby hnx
      have i0 : (k : Int) < 290 := by omega
      go_wp2_with fail
      refine (sum_one (wr.heap.size + 1) cap k p a wr HP.out.2.2.2.1 (HT.out.kept HP.out.2.1 (by simp)) (by omega) (HP.out.2.2.1 _ (by omega)) hcap (by have := HP.out.2.2.2.1; omega)).mono ?_
      rintro e w2 ⟨ND, rfl, hg2, hN2, hb2⟩
      have H2 := Lib.hid (And.intro hg2 (And.intro hb2 hN2)); clear hg2 hb2 hN2
      go_wp2_with fail
      refine (refSum_any k cap (wr.heap.size + w2.heap.size) p a w2 HP.out.2.2.2.1 ((HP.out.2.2.1 _ (Nat.le_refl _)).grown H2.out.1 (by omega)) (by omega)).mono ?_
      rintro e w3 ⟨g3, c3, rfl, hg3, hown3⟩
      obtain ⟨a3, cap3, e3, hcap3, hP3⟩ := own_part hown3 rfl (sum_byte p)
      cases e3
      have hb3 := H2.out.2.1.grown hg3 (by simp)
      have hg13 := gb_trans H2.out.1 hg3
      have H3 := Lib.hid (And.intro hg13 (And.intro hb3 hP3)); clear hg3 hb3 hg13 hP3 hown3
      go_wp2_with fail
      refine (same_yes (ND + 1) w3.heap.size 64 64 64 c3 _ _ (Sha.sum p) w3 rfl rfl (H3.out.2.1.part (by omega) (sum_byte _)) (H3.out.2.2 _ (Nat.le_refl _)) (by decide)).mono ?_
      rintro e w4 ⟨rfl, j, rfl⟩
      have hg4 := gb_drewN H3.out.1 j
      have hgw := gb_trans HP.out.2.1 hg4
      have hown4 := own_kept HP.out.1 hg4
      clear H2 H3
      generalize w3.drewN j = w4 at *
      obtain ⟨v5, w5, hap, how5, hgr5⟩ := append1_u8 w4 w.heap.size k _ (u8V (k % 256)) _ hown4 rfl (by omega) hgw.size
      have hg5 := gb_own hgw hown4 (Nat.le_refl _) hgr5
      rw [← HP.out.2.2.2.2] at how5
      unfold u8V at hap
      rw [show ((k % 256 : Nat) : Int) = (k : Int) % 256 by omega] at hap
      have H5 := Lib.hid (And.intro hap (And.intro how5 hg5)); clear hap how5 hg5 hgr5 hown4 hgw hg4
      go_wp2_with (at_builtin; refine wpList_append_run rfl (.tmp 16) (.tmp 19) 30 rfl rfl _ _ rfl rfl _ _ H5.out.1 ?_)
      go_roundw
      case rel => exact ⟨k + 1, by omega, by go_num, H5.out.2.1, H5.out.2.2⟩
      case measure => simp [intOf]; omega
    · obtain rfl : k = 290 := by omega
      have HZ := Lib.hid hg; clear hg hown
      go_wp2
      go_ret
      exact ⟨rfl, gb_below HZ.out⟩
end Go.Proofs.YtgklkoglcajfpaaDoor
