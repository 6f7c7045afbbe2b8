/- field: regions that draw their order over elements: what slots hold, what stays. -/
import Derived.Test.YtjgfhihngbhljaaDoorFeOnes
import Derived.Test.YtjgfhihngbhljaaDoorFlow2
namespace Go.Proofs.YtjgfhihngbhljaaDoor
open Go.RowKit

/-- what a slot has: anything, a value, or a pointer to a new block -/
inductive Item where
  | any
  | val (x : Value)
  | ptr
/-- a block that is new to w0, and none of env's -/
def Okb (w0 : World) (env : List (Nat × Fe)) (B : Nat) : Prop := w0.heap.size ≤ B ∧ ∀ p ∈ env, p.1 ≠ B
def Item.holds (K : Nat → Prop) : Item → Value → World → Prop
  | .any, _, _ => True
  | .val x, v, _ => v = x
  | .ptr, v, w => ∃ Bn, v = .pointer (some ⟨Bn, 0, none⟩) ∧ Room5 w Bn 24 ∧ K Bn
def itemsG (K : Nat → Prop) (L : List Item) (d : Nat) (v : Value) (w : World) : Prop := (L.getD d .any).holds K v w
def set5W (w : World) (B : Nat) (r : Fe) : World :=
  ((((w.setCell ⟨B, 0, none⟩ (.int .u64 r.x0)).setCell ⟨B, 1, none⟩ (.int .u64 r.x1)).setCell ⟨B, 2, none⟩ (.int .u64 r.x2)).setCell ⟨B, 3, none⟩ (.int .u64 r.x3)).setCell ⟨B, 4, none⟩ (.int .u64 r.x4)
def Rel5 (r : Fe) (w w' : World) : Prop := w.grownBy w' none ∨ ∃ Bn, w' = set5W w Bn r ∧ Room5 w Bn 24
theorem rel5_refl (r : Fe) (w : World) : Rel5 r w w := Or.inl (gb_refl _ _)
theorem set5W_room {w : World} {B : Nat} {r : Fe} {T : TypeId} (h : Room5 w B T) (C : Nat) : Room5 (set5W w C r) B T := by
  by_cases e : C = B
  · subst e; exact ⟨_, _, _, _, _, h.set5 _ _ _ _ _⟩
  · exact room5_set (room5_set (room5_set (room5_set (room5_set h e _) e _) e _) e _) e _
theorem set5W_other {w : World} {B C : Nat} {r : Fe} {T : TypeId} {L : List Value} (h : Blk w B T L) (e : C ≠ B) : Blk (set5W w C r) B T L :=
  ((((h.other e _).other e _).other e _).other e _).other e _
theorem set5W_same {w : World} {B : Nat} {r : Fe} {T : TypeId} (h : Room5 w B T) : Blk (set5W w B r) B T (feL r) := h.set5 _ _ _ _ _
theorem items_stab (K : Nat → Prop) (L : List Item) (r : Fe) (d : Nat) (v : Value) (w w' : World) (hR : Rel5 r w w') (h : itemsG K L d v w) : itemsG K L d v w' := by
  unfold itemsG at *
  cases hx : L.getD d .any with
  | any => trivial
  | val x => rw [hx] at h; exact h
  | ptr =>
    rw [hx] at h
    obtain ⟨Bn, hv, hr, hN⟩ := h
    refine ⟨Bn, hv, ?_, hN⟩
    rcases hR with hg | ⟨C, rfl, _⟩
    · exact hr.grown hg (by simp)
    · exact set5W_room hr C
def Stored (K : Nat → Prop) (r : Fe) (_ : Nat) (u : Value) (w : World) : Prop := ∃ Bn, u = .pointer (some ⟨Bn, 0, none⟩) ∧ K Bn ∧ Blk w Bn 24 (feL r)
theorem stored_stab (K : Nat → Prop) (r : Fe) (j : Nat) (u : Value) (w w' : World) (hR : Rel5 r w w') (h : Stored K r j u w) : Stored K r j u w' := by
  obtain ⟨Bn, hu, hN, hb⟩ := h
  refine ⟨Bn, hu, hN, ?_⟩
  rcases hR with hg | ⟨C, rfl, hr⟩
  · exact hb.grown hg (by simp)
  · by_cases e : C = Bn
    · subst e; exact set5W_same hr
    · exact set5W_other hb e
/-- blocks that hold elements, and blocks of five cells -/
structure EnvB (w0 : World) (N : Nat) (env : List (Nat × Fe)) (rooms : List Nat) (w : World) : Prop where
  g : w0.grownBy w none
  e : ∀ p ∈ env, Blk w p.1 24 (feL p.2)
  r : ∀ B ∈ rooms, Room5 w B 24
  n : ∀ p ∈ env, p.1 < N
  l : N ≤ w.heap.size
  m : w0.heap.size ≤ N
theorem EnvB.grown {w0 : World} {N : Nat} {env : List (Nat × Fe)} {rooms : List Nat} {w w' : World} (h : EnvB w0 N env rooms w) (hg : w.grownBy w' none) : EnvB w0 N env rooms w' :=
  ⟨gb_trans h.g hg, fun p hp => (h.e p hp).grown hg (by simp), fun B hB => (h.r B hB).grown hg (by simp), h.n, Nat.le_trans h.l hg.size, h.m⟩
theorem EnvB.set {w0 : World} {N : Nat} {env : List (Nat × Fe)} {rooms : List Nat} {w : World} (h : EnvB w0 N env rooms w) {B : Nat} (hB : Okb w0 env B) (r : Fe) : EnvB w0 N env rooms (set5W w B r) :=
  ⟨gb_set5 h.g hB.1 _ _ _ _ _, fun p hp => set5W_other (h.e p hp) (Ne.symm (hB.2 p hp)), fun C hC => set5W_room (h.r C hC) B, h.n, by show N ≤ _; have := h.l; simpa [set5W, World.setCell] using this, h.m⟩
theorem EnvB.fresh {w0 : World} {N : Nat} {env : List (Nat × Fe)} {rooms : List Nat} {w : World} (h : EnvB w0 N env rooms w) : Okb w0 env w.heap.size :=
  ⟨Nat.le_trans h.m h.l, fun p hp => by have := h.n p hp; have := h.l; omega⟩
/-- the frame, slot by slot -/
def AllAt (a : Act) : Nat → List Value → Prop
  | _, [] => True
  | i, v :: r => a.tmps.getD i undef = v ∧ AllAt a (i + 1) r
theorem allAt_get {a : Act} : ∀ (vs : List Value) (i k : Nat) (v : Value), AllAt a i vs → vs[k]? = some v → a.tmps.getD (i + k) undef = v := by
  intro vs
  induction vs with
  | nil => intro i k v _ h; simp at h
  | cons x r ih =>
    intro i k v h hk
    cases k with
    | zero => simp at hk; subst hk; exact h.1
    | succ k => have := ih (i + 1) k v h.2 (by simpa using hk); rwa [show i + (k + 1) = i + 1 + k by omega]
theorem frame_is {a : Act} {vs : List Value} (hs : a.tmps.size = vs.length) (h : AllAt a 0 vs) (hd : a.defers = []) : a = { tmps := vs.toArray, defers := [] } := by
  have ht : a.tmps = vs.toArray := by
    apply Array.ext_getElem?
    intro i
    by_cases hi : i < a.tmps.size
    · have h2 : i < vs.length := by omega
      have := allAt_get vs 0 i vs[i] h (List.getElem?_eq_getElem h2)
      rw [Nat.zero_add] at this
      simp [hi] at this
      rw [Array.getElem?_eq_getElem hi, this]
      simp [h2]
    · rw [Array.getElem?_eq_none (by omega), Array.getElem?_eq_none (by simp; omega)]
  cases a
  simp at ht hd
  rw [ht, hd]
theorem v_of (a : Fe) : a.v = .agg #[.int .u64 a.x0, .int .u64 a.x1, .int .u64 a.x2, .int .u64 a.x3, .int .u64 a.x4] := rfl
/-- an element's value is loaded -/
theorem feOut_v {F : Fe} {w : World} {e : Ending} {w' : World} (h : FeOut F w e w') : e = .returned F.v ∧ w.grownBy w' none := feOut_is h
theorem gb_drewn (w : World) : w.grownBy w.drew none := gb_drew (gb_refl _ _)
end Go.Proofs.YtjgfhihngbhljaaDoor
