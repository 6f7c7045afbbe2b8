/- The law on what any three are multiplied and added to. -/
import Derived.Test.YtmnlidfalhjghaaGreatDoorScRefMul
import Derived.Test.YtmnlidfalhjghaaGreatDoorScAwake
import Derived.Test.YtmnlidfalhjghaaGreatDoorKept
import Derived.Test.YtmnlidfalhjghaaGreatDoorOuts
namespace Go.Proofs.YtmnlidfalhjghaaGreatDoor
open Go.RowKit Ow
namespace Sr
/-- bytes in a row of one's own, or none -/
def YB (R : List Nat) (w : World) (e : Ending) (w' : World) : Prop := ∃ a cap, e = .returned (.slice a R.length cap) ∧ w.grownBy w' none ∧ w'.ownsRow w.heap.size 5 1 (.slice a R.length cap) R.length (R.map u8N)
/-- bytes that lie somewhere, or none -/
def RB (R : List Nat) (w : World) (e : Ending) (w' : World) : Prop := ∃ a cap, e = .returned (.slice a R.length cap) ∧ w.grownBy w' none ∧ BytesAt w' w'.heap.size a cap R
theorem bytes_none (w : World) : BytesAt w w.heap.size none 0 [] := ⟨Nat.le_refl _, Nat.le_refl _, by decide, fun i => by simp, Or.inl rfl⟩
theorem YB.none (w w' : World) (hg : w.grownBy w' none) : YB [] w (.returned (.slice none 0 0)) w' := ⟨_, _, rfl, hg, World.ownsRow_nil _ _ _ 1⟩
theorem RB.none (w w' : World) (hg : w.grownBy w' none) : RB [] w (.returned (.slice none 0 0)) w' := ⟨_, _, rfl, hg, bytes_none w'⟩
theorem YB.of {l : List Nat} {w w' : World} {e : Ending} (hl : l.length ≤ 1000) (h : OutB l w e w') : YB l w e w' := by
  obtain ⟨g, rfl, hg, hs, ho⟩ := OutB.own h l.length rfl (by omega)
  exact ⟨_, _, rfl, hg, ho⟩
theorem RB.of {n : Nat} {w w' : World} {e : Ending} (h : OutR n w e w') : RB (scB n) w e w' := by
  obtain ⟨g, rfl, hg, hs, ho⟩ := OutR.at h
  exact ⟨_, _, by rw [scB_length], hg, ho⟩
theorem YB.bytes {R : List Nat} {w w' : World} {a : Option Addr} {cap : Nat} (hb : ∀ i, R.getD i 0 < 256) (h : w'.ownsRow w.heap.size 5 1 (.slice a R.length cap) R.length (R.map u8N)) : BytesAt w' w'.heap.size a cap R := by
  rcases Nat.eq_zero_or_pos R.length with h0 | h0
  · have : R = [] := List.eq_nil_of_length_eq_zero h0
    subst this
    rcases h.2 with ⟨e, _⟩ | ⟨g, c, cur, e, _, hg, hnc, hcm, _⟩
    · cases e; exact bytes_none w'
    · cases e
      exact ⟨Nat.le_refl _, hnc, by unfold maxLen at hcm; omega, hb, Or.inl rfl⟩
  · obtain ⟨g, c, e, _, _, hB⟩ := own_bytesAt h rfl h0 hb
    cases e
    exact hB
theorem YB.room {R : List Nat} {w w' : World} {a : Option Addr} {cap : Nat} (h : w'.ownsRow w.heap.size 5 1 (.slice a R.length cap) R.length (R.map u8N)) : ∀ g, (Value.slice a R.length cap).ownBlock = some g → w.heap.size ≤ g ∧ g < w'.heap.size := fun g e => h.lt g e
def mulR (x y z : List Nat) : List Nat := if x.length = 32 ∧ y.length = 32 ∧ z.length = 32 then scB (num x * num y + num z) else []
theorem mulR_len (x y z : List Nat) : (mulR x y z).length ≤ 32 := by unfold mulR; split <;> simp [scB_length]
theorem mulR_lt (x y z : List Nat) : ∀ i, (mulR x y z).getD i 0 < 256 := fun i => by unfold mulR; split; exact scB_lt _ _; simp
set_option maxHeartbeats 1000000 in
theorem mul_none (n1 n2 n3 c1 c2 c3 : Nat) (a1 a2 a3 : Option Addr) (w : World) (h : ¬ (n1 = 32 ∧ n2 = 32 ∧ n3 = 32)) :
    Calls Tryz.prog 19 #[.slice a1 n1 c1, .slice a2 n2 c2, .slice a3 n3 c3] w fun e w' => e = .returned (.slice none 0 0) ∧ w.grownBy w' none := by
  by_cases h1 : n1 = 32
  · subst h1
    by_cases h2 : n2 = 32
    · subst h2
      have i3 : ¬ (n3 : Int) = 32 := by omega
      clear h
      go_enter Tryz.func19, Tryz.ntmps19
      go_wp2
      go_ret
      exact ⟨rfl, gb_refl _ _⟩
    · have i3 : ¬ (n2 : Int) = 32 := by omega
      clear h h2
      go_enter Tryz.func19, Tryz.ntmps19
      go_wp2
      go_ret
      exact ⟨rfl, gb_refl _ _⟩
  · have i3 : ¬ (n1 : Int) = 32 := by omega
    clear h h1
    go_enter Tryz.func19, Tryz.ntmps19
    go_wp2
    go_ret
    exact ⟨rfl, gb_refl _ _⟩
set_option maxHeartbeats 1000000 in
theorem rmul_none (n1 n2 n3 c1 c2 c3 : Nat) (a1 a2 a3 : Option Addr) (w : World) (h : ¬ (n1 = 32 ∧ n2 = 32 ∧ n3 = 32)) :
    Calls Tryz.prog 20 #[.slice a1 n1 c1, .slice a2 n2 c2, .slice a3 n3 c3] w fun e w' => e = .returned (.slice none 0 0) ∧ w.grownBy w' none := by
  by_cases h1 : n1 = 32
  · subst h1
    by_cases h2 : n2 = 32
    · subst h2
      have i3 : ¬ (n3 : Int) = 32 := by omega
      clear h
      go_enter Tryz.func20, Tryz.ntmps20
      go_wp2
      go_ret
      exact ⟨rfl, gb_refl _ _⟩
    · have i3 : ¬ (n2 : Int) = 32 := by omega
      clear h h2
      go_enter Tryz.func20, Tryz.ntmps20
      go_wp2
      go_ret
      exact ⟨rfl, gb_refl _ _⟩
  · have i3 : ¬ (n1 : Int) = 32 := by omega
    clear h h1
    go_enter Tryz.func20, Tryz.ntmps20
    go_wp2
    go_ret
    exact ⟨rfl, gb_refl _ _⟩
theorem mulG_any (n1 n2 n3 c1 c2 c3 B1 B2 B3 : Nat) (a1 a2 a3 : Option Addr) (x y z : List Nat) (w : World) (h1 : x.length = n1) (h2 : y.length = n2) (h3 : z.length = n3) (hA : BytesAt w B1 a1 c1 x) (hB : BytesAt w B2 a2 c2 y) (hC : BytesAt w B3 a3 c3 z) (hT : OTab w) :
    Calls Tryz.prog 19 #[.slice a1 n1 c1, .slice a2 n2 c2, .slice a3 n3 c3] w (YB (mulR x y z) w) := by
  by_cases h : n1 = 32 ∧ n2 = 32 ∧ n3 = 32
  · obtain ⟨rfl, rfl, rfl⟩ := h
    have e : mulR x y z = scB (num x * num y + num z) := if_pos ⟨h1, h2, h3⟩
    rw [e]
    exact (mulAddB_any c1 c2 c3 B1 B2 B3 a1 a2 a3 x y z w h1 h2 h3 hA hB hC hT).mono fun _ _ h => YB.of (by rw [scB_length]; decide) h
  · have e : mulR x y z = [] := if_neg (by rw [h1, h2, h3]; exact h)
    rw [e]
    exact (mul_none n1 n2 n3 c1 c2 c3 a1 a2 a3 w h).mono fun _ _ ⟨he, hg⟩ => by rw [he]; exact YB.none _ _ hg
theorem rmulG_any (n1 n2 n3 c1 c2 c3 B1 B2 B3 : Nat) (a1 a2 a3 : Option Addr) (x y z : List Nat) (w : World) (h1 : x.length = n1) (h2 : y.length = n2) (h3 : z.length = n3) (hA : BytesAt w B1 a1 c1 x) (hB : BytesAt w B2 a2 c2 y) (hC : BytesAt w B3 a3 c3 z) :
    Calls Tryz.prog 20 #[.slice a1 n1 c1, .slice a2 n2 c2, .slice a3 n3 c3] w (RB (mulR x y z) w) := by
  by_cases h : n1 = 32 ∧ n2 = 32 ∧ n3 = 32
  · obtain ⟨rfl, rfl, rfl⟩ := h
    have e : mulR x y z = scB (num x * num y + num z) := if_pos ⟨h1, h2, h3⟩
    rw [e]
    exact (rmulAdd_any c1 c2 c3 B1 B2 B3 a1 a2 a3 x y z w h1 h2 h3 hA hB hC).mono fun _ _ h => RB.of h
  · have e : mulR x y z = [] := if_neg (by rw [h1, h2, h3]; exact h)
    rw [e]
    exact (rmul_none n1 n2 n3 c1 c2 c3 a1 a2 a3 w h).mono fun _ _ ⟨he, hg⟩ => by rw [he]; exact RB.none _ _ hg
/-- bytes that were lent, as a row of one's own, and as bytes -/
theorem lent_own {w : World} {g n b : Nat} {p : List Nat} {f : Nat → Nat → Nat} (h : Blk w g 5 ((p ++ marksOf f 1 12).map u8N)) (hn : p.length = n) (hb : b ≤ g) (hm : n ≤ 30000) : w.ownsRow b 5 1 (.slice (some ⟨g, 0, none⟩) n (n + 12)) n (p.map u8N) :=
  ⟨by rw [List.length_map]; omega, Or.inr ⟨g, n + 12, ((p ++ marksOf f 1 12).map u8N).toArray, rfl, hb, h, by omega, by unfold maxLen; omega, by simp [marksOf_length, hn], by rw [Nat.mul_one, List.map_append]; exact List.take_left' (by rw [List.length_map]; exact hn)⟩⟩
theorem lent_bytes {w : World} {g n : Nat} {p : List Nat} {f : Nat → Nat → Nat} (h : Blk w g 5 ((p ++ marksOf f 1 12).map u8N)) (hn : p.length = n) (hm : n ≤ 30000) (hp : ∀ i, p.getD i 0 < 256) : BytesAt w w.heap.size (some ⟨g, 0, none⟩) (n + 12) p :=
  blk_bytes (tl := (marksOf f 1 12).map u8N) (by rw [← List.map_append]; exact h) hn (by omega) (by omega) hp h.lt (Nat.le_refl _)
/-- where a row's block lies -/
def Br (p : Rw1) (lo hi : Nat) : Prop := ∀ g, (rv p).ownBlock = some g → lo ≤ g ∧ g < hi
theorem br_apart {p q : Rw1} {a b c d : Nat} (h1 : Br p a b) (h2 : Br q c d) (h : b ≤ c ∨ d ≤ a) : (rv p).ownBlock = none ∨ (rv p).ownBlock ≠ (rv q).ownBlock := by
  cases hp : (rv p).ownBlock with
  | none => exact Or.inl rfl
  | some g => exact Or.inr fun e => by have := h1 g hp; have := h2 g e.symm; omega
theorem br_lent (g n c : Nat) (l : List Value) : Br (some ⟨g, 0, none⟩, n, c, l) g (g + 1) := fun i e => by
  simp only [rv, Value.ownBlock, Option.some.injEq] at e
  omega
end Sr
end Go.Proofs.YtmnlidfalhjghaaGreatDoor
