/- The law ShaLengths's walk; the document's own digest. -/
import Derived.Test.YtabdegeaifajfaaGreatDoorShaRefSum
import Derived.Test.YtabdegeaifajfaaGreatDoorShaRefTable
namespace Go.Proofs.YtabdegeaifajfaaGreatDoor
open Go.RowKit

theorem own_kept {w w' : World} {base e n : Nat} {v : Value} {xs : List Value} (h : w.ownsRow base e 1 v n xs) (hg : w.grownBy w' none) : w'.ownsRow base e 1 v n xs :=
  h.kept hg (by cases v.ownBlock <;> simp)
/-- a row of bytes of one's own, as a part -/
theorem own_part {w : World} {base n : Nat} {v : Value} {l : List Nat} (h : w.ownsRow base 5 1 v n (l.map u8V)) (hl : l.length = n) (hb : ∀ i, l.getD i 0 < 256) :
    ∃ a cap, v = .slice a n cap ∧ cap < 9223372036854775808 ∧ ∀ B, w.heap.size ≤ B → PartAt w B a cap l := by
  subst hl
  rcases Nat.eq_zero_or_pos l.length with h0 | h0
  · rcases h.2 with ⟨rfl, _⟩ | ⟨g, c, cur, rfl, _, _, hnc, hcm, _⟩
    · exact ⟨none, 0, by rw [h0], by decide, fun B _ => ⟨by omega, hb, Or.inl h0⟩⟩
    · exact ⟨_, c, rfl, by unfold maxLen at hcm; omega, fun B _ => ⟨hnc, hb, Or.inl h0⟩⟩
  · obtain ⟨g, c, rfl, _, hnc, hcm, hlt⟩ := own_some h h0
    have hB := own_bytes h0 h
    exact ⟨_, c, rfl, by unfold maxLen at hcm; omega, fun B hB' => ⟨hnc, hb, Or.inr ⟨g, 0, rfl, by omega, hlt, fun i hi => by rw [Nat.zero_add]; exact hB.2 i hi⟩⟩⟩
theorem first_SB : SB Sha.first := by constructor <;> decide

set_option maxHeartbeats 1000000 in
theorem refSum_any (n cap B : Nat) (p : List Nat) (a : Option Addr) (w : World) (hn : p.length = n) (hP : PartAt w B a cap p) (hlen : n < 2147483000) :
    Calls Tryz.prog 16 #[.slice a n cap] w fun e w' => ∃ g c, e = .returned (.slice (some ⟨g, 0, none⟩) 64 c) ∧ w.grownBy w' none ∧ w'.ownsRow w.heap.size 5 1 (.slice (some ⟨g, 0, none⟩) 64 c) 64 ((Sha.sum p).map u8V) := by
  have HP := Lib.hid hP; clear hP
  go_enter Tryz.func16, Tryz.ntmps16
  go_wp2_with fail
  refine (refTable_any w).mono ?_
  rintro e w1 ⟨g, rfl, hg1, hF, hK⟩
  have H1 := Lib.hid (And.intro hg1 (And.intro hF hK)); clear hg1 hF hK
  go_wp2_with fail
  refine (refSumBy_any g 0 8 (g + 1) 0 80 n cap (w.heap.size + B) Sha.first p a w1 first_SB hn (HP.out.grown H1.out.1 (by omega)) hlen H1.out.2.1 H1.out.2.2).mono ?_
  rintro e w2 ⟨g2, c2, rfl, hg2, hown⟩
  rw [turns_first] at hown
  have H2 := Lib.hid (And.intro (gb_trans H1.out.1 hg2) (own_base hown H1.out.1.size)); clear hg2 hown
  go_wp2
  go_ret
  exact ⟨g2, c2, rfl, H2.out.1, H2.out.2⟩

end Go.Proofs.YtabdegeaifajfaaGreatDoor
