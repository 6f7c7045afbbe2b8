/- ApartBytes of two rows of one's own. -/
import Derived.Test.YtkddpehkamkaoaaGreatDoorApart
import Derived.Test.YtkddpehkamkaoaaGreatDoorOwnDown
namespace Go.Proofs.YtkddpehkamkaoaaGreatDoor
open Go.RowKit Ow
namespace Ow
def V2 (a1 a2 : Option Addr) (n1 n2 c1 c2 : Nat) : Lists := ⟨fun j => if j = 0 then a1 else a2, fun j => if j = 0 then n1 else n2, fun j => if j = 0 then c1 else c2⟩
theorem row_shape2 {w : World} {base e n : Nat} {v : Value} {xs : List Value} (h : w.ownsRow base e 1 v n xs) : ∃ a c, v = .slice a n c := by
  rcases own_shape h with ⟨rfl, h0⟩ | ⟨g, c, rfl⟩
  · exact ⟨none, 0, by rw [h0]⟩
  · exact ⟨_, _, rfl⟩
theorem two {P : Nat → Prop} (h0 : P 0) (h1 : P 1) : ∀ j, j < 2 → P j := fun j hj => by
  rcases (by omega : j = 0 ∨ j = 1) with rfl | rfl <;> assumption
theorem apart2 {f : Nat → Nat → Nat} (hf : Marks f) (w0 w : World) (v1 v2 : Value) (b n1 n2 : Nat) (x1 x2 : List Value) (hb : w0.heap.size ≤ b) (hg : w0.grownBy w none)
    (h1 : w.ownsRow b 5 1 v1 n1 x1) (h2 : w.ownsRow b 5 1 v2 n2 x2) (d12 : v1.ownBlock = none ∨ v1.ownBlock ≠ v2.ownBlock) (hs : n1 ≤ 100000 ∧ n2 ≤ 100000) :
    Calls Tryz.prog 12 #[.slice (some ⟨w.heap.size, 0, none⟩) 2 2] (w.alloc (.cells #[v1, v2] 26)) fun e w' => e = .returned (.bool true) ∧ w0.grownBy w' none := by
  obtain ⟨a1, c1, rfl⟩ := row_shape2 h1
  obtain ⟨a2, c2, rfl⟩ := row_shape2 h2
  have l1 := h1.lt
  have l2 := h2.lt
  have hgA : w.grownBy (w.alloc (.cells #[.slice a1 n1 c1, .slice a2 n2 c2] 26)) none := gb_alloc (gb_refl _ _) _
  have hB : Blk (w.alloc (.cells #[.slice a1 n1 c1, .slice a2 n2 c2] 26)) w.heap.size 26 [.slice a1 n1 c1, .slice a2 n2 c2] := Blk.new _ _ _
  have k1 := own_kept h1 hgA
  have k2 := own_kept h2 hgA
  generalize w.alloc (.cells #[.slice a1 n1 c1, .slice a2 n2 c2] 26) = W at *
  have e1 : ∀ (a : Option Addr) (n c : Nat), (Value.slice a n c).ownBlock = a.map (·.block) := fun a n c => by unfold Value.ownBlock; cases a <;> rfl
  rw [e1] at l1 l2
  simp only [e1] at d12
  have hsz := hgA.size
  have hV : (V2 a1 a2 n1 n2 c1 c2).Apart 2 w.heap.size W.heap.size := by
    refine ⟨?_, two ?_ ?_, two ?_ ?_, two hs.1 hs.2⟩
    · intro j k hj hk hne
      rcases (by omega : j = 0 ∨ j = 1) with rfl | rfl
      all_goals rcases (by omega : k = 0 ∨ k = 1) with rfl | rfl
      · exact absurd rfl hne
      · exact d12
      · exact (Classical.em ((V2 a1 a2 n1 n2 c1 c2).g 1 = none)).elim Or.inl fun hn => Or.inr fun e => d12.elim (fun h => hn (e.trans h)) (fun h => h e.symm)
      · exact absurd rfl hne
    · exact fun e => by have := (l1 _ e).2; omega
    · exact fun e => by have := (l2 _ e).2; omega
    · exact fun i e => by have := (l1 _ e).2; omega
    · exact fun i e => by have := (l2 _ e).2; omega
  have hO : Owns W (V2 a1 a2 n1 n2 c1 c2) 2 (fun j => if j = 0 then x1 else x2) := two (own_down k1 (Nat.zero_le _)) (own_down k2 (Nat.zero_le _))
  have hL : ListAt W w.heap.size (V2 a1 a2 n1 n2 c1 c2) 2 := ⟨[], hB⟩
  refine (apartB_any hf _ 2 w.heap.size 2 _ W (by omega) (by omega) (by omega) (by omega) hV hO hL).mono ?_
  rintro e w' ⟨rfl, _, hk⟩
  have hgW := gb_trans hg hgA
  refine ⟨rfl, hk.os.trans hgW.os, hk.tape.trans hgW.tape, hk.output.trans hgW.output, Nat.le_trans hgW.size hk.size, fun i hi hr => (hk.block i (Nat.lt_of_lt_of_le hi hgW.size) ?_).trans (hgW.block i hi hr)⟩
  rintro ⟨j, hj, e⟩
  revert e
  exact two (P := fun j => (V2 a1 a2 n1 n2 c1 c2).g j = some i → False) (fun e => by have := (l1 _ e).1; omega) (fun e => by have := (l2 _ e).1; omega) j hj
end Ow
end Go.Proofs.YtkddpehkamkaoaaGreatDoor
