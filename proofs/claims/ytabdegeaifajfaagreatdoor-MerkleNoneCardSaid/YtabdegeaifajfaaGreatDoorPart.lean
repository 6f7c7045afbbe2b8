/- Parts of slices of bytes; rows of one's own as bytes. -/
import Derived.Test.YtabdegeaifajfaaGreatDoorOwn
import Derived.Test.YtabdegeaifajfaaGreatDoorMake
import Derived.WalkKit
import Derived.WalkSpells
import Derived.WalkLawsBesides
import Derived.Lib.Hide
namespace Go.Proofs.YtabdegeaifajfaaGreatDoor
open Go.RowKit Ow

theorem getD_drop (l : List Nat) (k i : Nat) : (l.drop k).getD i 0 = l.getD (k + i) 0 := by
  rw [List.getD_eq_getElem?_getD, List.getElem?_drop, List.getD_eq_getElem?_getD]
theorem getD_take_lt (l : List Nat) (k : Nat) (h : ∀ i, l.getD i 0 < 256) (i : Nat) : (l.take k).getD i 0 < 256 := by
  rw [List.getD_eq_getElem?_getD, List.getElem?_take]
  split
  · rw [← List.getD_eq_getElem?_getD]; exact h i
  · decide
theorem getD_take (l : List Nat) (k i : Nat) (h : i < k) : (l.take k).getD i 0 = l.getD i 0 := by
  rw [List.getD_eq_getElem?_getD, List.getElem?_take, if_pos h, List.getD_eq_getElem?_getD]
theorem bytes_drop {w : World} {B cap k : Nat} {a a' : Option Addr} {l : List Nat} (h : BytesAt w B a cap l) (ha : k < cap → ∀ pb po, a = some ⟨pb, po, none⟩ → a' = some ⟨pb, po + k, none⟩) : BytesAt w B a' (cap - k) (l.drop k) := by
  have hf := h.fits
  have ht := h.top
  refine ⟨h.lim, by rw [List.length_drop]; omega, by omega, fun i => by rw [getD_drop]; exact h.byte _, ?_⟩
  by_cases h0 : l.length ≤ k
  · exact Or.inl (by rw [List.length_drop]; omega)
  · obtain ⟨pb, po, e, hlt, hc⟩ := h.cells.resolve_left (by omega)
    refine Or.inr ⟨pb, po + k, ha (by omega) pb po e, hlt, fun i hi => ?_⟩
    rw [List.length_drop] at hi
    rw [getD_drop, Nat.add_assoc]
    exact hc _ (by omega)
theorem bytes_take {w : World} {B cap k : Nat} {a a' : Option Addr} {l : List Nat} (h : BytesAt w B a cap l) (ha : ∀ pb po, a = some ⟨pb, po, none⟩ → a' = some ⟨pb, po, none⟩) : BytesAt w B a' cap (l.take k) := by
  have hl : (l.take k).length ≤ l.length := by rw [List.length_take]; omega
  refine ⟨h.lim, Nat.le_trans hl h.fits, h.top, getD_take_lt _ _ h.byte, ?_⟩
  rcases h.cells with h0 | ⟨pb, po, e, hlt, hc⟩
  · exact Or.inl (by omega)
  · refine Or.inr ⟨pb, po, ha pb po e, hlt, fun i hi => ?_⟩
    rw [List.length_take] at hi
    rw [getD_take _ _ _ (by omega)]
    exact hc _ (by omega)
set_option maxRecDepth 100000 in
/-- x[:k] of a slice of bytes -/
theorem slice_to (a : Option Addr) (n cap k : Nat) (h : k ≤ cap) :
    ∃ a', (∀ w, (Instr.slice 34 (.slice a n cap) none (some (.int .i64 (k : Int))) none).run Tryz.prog w = .ok (.slice a' k cap) w) ∧ (∀ pb po, a = some ⟨pb, po, none⟩ → a' = some ⟨pb, po, none⟩) := by
  obtain ⟨j, hj, hs⟩ : ∃ j, Tryz.prog.info? (Tryz.prog.elem 34) = some j ∧ j.size = 1 := by
    have h1 : (Tryz.prog.info? (Tryz.prog.elem 34)).map (·.size) = some 1 := by kernel_rfl
    cases hq : Tryz.prog.info? (Tryz.prog.elem 34) with
    | none => rw [hq] at h1; cases h1
    | some j => rw [hq] at h1; exact ⟨j, rfl, by simpa using h1⟩
  refine ⟨if cap = 0 then a else a.map (·.add 0), fun w => ?_, fun pb po e => ?_⟩
  · rw [run_slice_h w 34 a n cap Tryz.underlying34 .i64 _ (by omega) (by omega), Int.toNat_natCast]
    simp [sizeOf, typeInfo, hj, hs, sliced]
  · rw [e]
    split
    · rfl
    · simp [Addr.add]
/-- a row of one's own, whole -/
theorem own_of_blk {w : World} {g n base e : Nat} {xs : List Value} (h : Blk w g e xs) (hn : xs.length = n) (hb : base ≤ g) (hm : n ≤ 140737488355328) : w.ownsRow base e 1 (.slice (some ⟨g, 0, none⟩) n n) n xs :=
  ⟨by omega, Or.inr ⟨g, n, xs.toArray, rfl, hb, h, Nat.le_refl _, by unfold maxLen; omega, by simp [hn], by simp [← hn]⟩⟩
theorem own_bytesAt {w : World} {base n : Nat} {v : Value} {l : List Nat} (h : w.ownsRow base 5 1 v n (l.map u8N)) (hl : l.length = n) (hn : 0 < n) (hb : ∀ i, l.getD i 0 < 256) :
    ∃ g c, v = .slice (some ⟨g, 0, none⟩) n c ∧ base ≤ g ∧ n ≤ c ∧ BytesAt w w.heap.size (some ⟨g, 0, none⟩) c l := by
  subst hl
  obtain ⟨g, c, rfl, hbg, hnc, hcm, hlt⟩ := own_some h hn
  refine ⟨g, c, rfl, hbg, hnc, Nat.le_refl _, hnc, by unfold maxLen at hcm; omega, hb, Or.inr ⟨g, 0, rfl, hlt, fun i hi => ?_⟩⟩
  rw [Nat.zero_add]
  exact own_cell h (u8_getD hi)
theorem _root_.Go.Proofs.YtabdegeaifajfaaGreatDoor.Ow.BytesAt.full {w : World} {B cap : Nat} {a : Option Addr} {l : List Nat} (h : BytesAt w B a cap l) : BytesAt w w.heap.size a cap l := h.up h.lim (Nat.le_refl _)
theorem _root_.Go.Proofs.YtabdegeaifajfaaGreatDoor.Ow.BytesAt.apart {w w' : World} {B cap rb : Nat} {a : Option Addr} {l : List Nat} (h : BytesAt w B a cap l) (hg : w.grownBy w' (some rb)) (hne : l.length = 0 ∨ ∀ pb po, a = some ⟨pb, po, none⟩ → pb ≠ rb) : BytesAt w' B a cap l := by
  refine ⟨Nat.le_trans h.lim hg.size, h.fits, h.top, h.byte, ?_⟩
  rcases hne with h0 | hne
  · exact Or.inl h0
  rcases h.cells with h0 | ⟨pb, po, ha, hlt, hc⟩
  · exact Or.inl h0
  · exact Or.inr ⟨pb, po, ha, hlt, fun i hi => by rw [gb_cell hg (p := ⟨pb, po + i, none⟩) (Nat.lt_of_lt_of_le hlt h.lim) (fun e => hne pb po ha (by simpa using e))]; exact hc i hi⟩
end Go.Proofs.YtabdegeaifajfaaGreatDoor
