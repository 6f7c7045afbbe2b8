/- Blocks known whole, and what a call may have written: plain facts on worlds. -/
import Derived.WalkKit
import Derived.Lib.Hide
import Derived.WalkSmall
import Derived.Laws.Rows
import Derived.Laws.Tables
namespace Go.Proofs.YtabdegeaifajfaaGreatDoor
open Go.RowKit

/-- Block B is a row of the cells L, none of them frozen. -/
def Blk (w : World) (B : Nat) (T : TypeId) (L : List Value) : Prop := w.heap[B]? = some (.cells L.toArray T (0, 0))

theorem Blk.lt {w : World} {B : Nat} {T : TypeId} {L : List Value} (h : Blk w B T L) : B < w.heap.size := by
  rcases Nat.lt_or_ge B w.heap.size with h' | h'
  · exact h'
  · unfold Blk at h; simp [Array.getElem?_eq_none h'] at h
theorem Blk.cell {w : World} {B : Nat} {T : TypeId} {L : List Value} (h : Blk w B T L) {i : Nat} {v : Value} (hv : L[i]? = some v) : w.cell? ⟨B, i, none⟩ = some v := by
  unfold Blk at h; simp [World.cell?, h, hv]
theorem Blk.free {w : World} {B : Nat} {T : TypeId} {L : List Value} (h : Blk w B T L) (i : Nat) : w.frozen? ⟨B, i, none⟩ = false := by
  unfold Blk at h; simp [World.frozen?, h]
theorem Blk.set {w : World} {B : Nat} {T : TypeId} {L : List Value} (h : Blk w B T L) (i : Nat) (v : Value) : Blk (w.setCell ⟨B, i, none⟩ v) B T (L.set i v) := by
  have hlt := h.lt
  unfold Blk at h ⊢
  have h' : w.heap[B] = .cells L.toArray T (0, 0) := by simpa [Array.getElem?_eq_getElem hlt] using h
  show (w.heap.modify B _)[B]? = _
  rw [Array.getElem?_eq_getElem (by simpa using hlt), Array.getElem_modify_self, h']
  simp
theorem Blk.other {w : World} {B : Nat} {T : TypeId} {L : List Value} (h : Blk w B T L) {a : Addr} (ha : a.block ≠ B) (v : Value) : Blk (w.setCell a v) B T L := by
  unfold Blk at h ⊢; rw [Below.heap_setCell _ _ _ _ (fun e => ha e.symm)]; exact h
theorem Blk.alloc {w : World} {B : Nat} {T : TypeId} {L : List Value} (h : Blk w B T L) (o : Obj) : Blk (w.alloc o) B T L := by
  have hlt := h.lt
  unfold Blk at h ⊢; rw [Below.heap_alloc _ _ _ hlt]; exact h
theorem Blk.drewN {w : World} {B : Nat} {T : TypeId} {L : List Value} (h : Blk w B T L) (n : Nat) : Blk (w.drewN n) B T L := h
theorem Blk.drew {w : World} {B : Nat} {T : TypeId} {L : List Value} (h : Blk w B T L) : Blk w.drew B T L := h
theorem Blk.grown {w w' : World} {B : Nat} {T : TypeId} {L : List Value} {row : Option Nat} (h : Blk w B T L) (hg : w.grownBy w' row) (hr : some B ≠ row) : Blk w' B T L := by
  have hlt := h.lt
  unfold Blk at h ⊢; rw [hg.block B hlt hr]; exact h
theorem Blk.new (w : World) (L : List Value) (T : TypeId) : Blk (w.alloc (.cells L.toArray T)) w.heap.size T L := by
  show (w.heap.push _)[w.heap.size]? = _
  simp

theorem gb_refl (w : World) (row : Option Nat) : w.grownBy w row := ⟨rfl, rfl, rfl, Nat.le_refl _, fun _ _ _ => rfl⟩
theorem gb_trans {a b c : World} {row : Option Nat} (h : a.grownBy b row) (k : b.grownBy c row) : a.grownBy c row :=
  ⟨k.os.trans h.os, k.tape.trans h.tape, k.output.trans h.output, Nat.le_trans h.size k.size, fun i hi hr => (k.block i (Nat.lt_of_lt_of_le hi h.size) hr).trans (h.block i hi hr)⟩
theorem gb_row {a b : World} (h : a.grownBy b none) (row : Option Nat) : a.grownBy b row :=
  ⟨h.os, h.tape, h.output, h.size, fun i hi _ => h.block i hi (by simp)⟩
/-- what is written lies in a block that is new -/
theorem gb_new {a b : World} {B : Nat} (h : a.grownBy b (some B)) (hB : a.heap.size ≤ B) (row : Option Nat) : a.grownBy b row :=
  ⟨h.os, h.tape, h.output, h.size, fun i hi _ => h.block i hi (by intro e; cases e; omega)⟩
/-- .. in a block that is new to an elder world -/
theorem gb_then {a b c : World} {B : Nat} {row : Option Nat} (h : a.grownBy b row) (k : b.grownBy c (some B)) (hB : a.heap.size ≤ B) : a.grownBy c row :=
  ⟨k.os.trans h.os, k.tape.trans h.tape, k.output.trans h.output, Nat.le_trans h.size k.size, fun i hi hr => (k.block i (Nat.lt_of_lt_of_le hi h.size) (by intro e; cases e; omega)).trans (h.block i hi hr)⟩
theorem gb_alloc {a w : World} {row : Option Nat} (h : a.grownBy w row) (o : Obj) : a.grownBy (w.alloc o) row := gb_trans h (World.grownBy_alloc w o row)
theorem gb_drewN {a w : World} {row : Option Nat} (h : a.grownBy w row) (n : Nat) : a.grownBy (w.drewN n) row := ⟨h.os, h.tape, h.output, h.size, h.block⟩
theorem gb_drew {a w : World} {row : Option Nat} (h : a.grownBy w row) : a.grownBy w.drew row := ⟨h.os, h.tape, h.output, h.size, h.block⟩
theorem gb_set {a w : World} {B : Nat} (h : a.grownBy w (some B)) (i : Nat) (v : Value) : a.grownBy (w.setCell ⟨B, i, none⟩ v) (some B) :=
  gb_trans h ⟨rfl, rfl, rfl, by simp [World.setCell], fun k _ hr => Below.heap_setCell _ _ _ _ (fun e => hr (by rw [e]))⟩
theorem gb_set_new {a w : World} {row : Option Nat} (h : a.grownBy w row) {p : Addr} (hp : a.heap.size ≤ p.block) (v : Value) : a.grownBy (w.setCell p v) row :=
  ⟨h.os, h.tape, h.output, by simp [World.setCell]; exact h.size, fun k hk hr => by rw [Below.heap_setCell _ _ _ _ (by omega)]; exact h.block k hk hr⟩
theorem gb_below {a b : World} (h : a.grownBy b none) : Below a.heap.size a b := ⟨h.os, h.tape, h.output, h.size, fun k hk => h.block k hk (by simp)⟩
theorem gb_cell {a b : World} {row : Option Nat} (h : a.grownBy b row) {p : Addr} (hp : p.block < a.heap.size) (hr : some p.block ≠ row) : b.cell? p = a.cell? p := World.cell?_of_block (w := a) (h.block p.block hp hr)

theorem gb_setRow {a w : World} {row : Option Nat} (h : a.grownBy w row) {g : Nat} (hg : a.heap.size ≤ g) (cs : Array Value) : a.grownBy (w.setRow g cs) row :=
  ⟨h.os, h.tape, h.output, by simp; exact h.size, fun k hk hr => by rw [setRow_other _ _ _ _ (by omega)]; exact h.block k hk hr⟩
theorem gb_setRow' {a w : World} {g : Nat} (h : a.grownBy w (some g)) (cs : Array Value) : a.grownBy (w.setRow g cs) (some g) :=
  ⟨h.os, h.tape, h.output, by simp; exact h.size, fun k hk hr => by rw [setRow_other _ _ _ _ (fun e => hr (by rw [e]))]; exact h.block k hk hr⟩
theorem Blk.row {w : World} {B : Nat} {T : TypeId} {L : List Value} (h : Blk w B T L) (L' : List Value) : Blk (w.setRow B L'.toArray) B T L' := setRow_heap _ _ _ _ _ _ h
theorem Blk.rowOther {w : World} {B : Nat} {T : TypeId} {L : List Value} (h : Blk w B T L) {g : Nat} (hg : g ≠ B) (cs : Array Value) : Blk (w.setRow g cs) B T L := by
  unfold Blk at h ⊢; rw [setRow_other _ _ _ _ (fun e => hg e.symm)]; exact h

/-- n cells from place o on, one by one. -/
def putN (L : List Value) (o : Nat) (f : Nat → Value) : Nat → List Value
  | 0 => L
  | k + 1 => (putN L o f k).set (o + k) (f k)
theorem putN_length (L : List Value) (o : Nat) (f : Nat → Value) (k : Nat) : (putN L o f k).length = L.length := by
  induction k with
  | zero => rfl
  | succ k ih => simp [putN, ih]
theorem putN_get (L : List Value) (o : Nat) (f : Nat → Value) (k i : Nat) (hk : o + k ≤ L.length) : (putN L o f k)[i]? = if o ≤ i ∧ i < o + k then some (f (i - o)) else L[i]? := by
  induction k with
  | zero => simp [putN]; omega
  | succ k ih =>
    have hl := putN_length L o f k
    rw [putN, List.getElem?_set, ih (by omega), hl]
    by_cases h : o + k = i
    · subst h; simp only [if_true]; rw [if_pos (by omega), if_pos (by omega)]; congr 2; omega
    · rw [if_neg h]
      by_cases h2 : o ≤ i ∧ i < o + k
      · rw [if_pos h2, if_pos (by omega)]
      · rw [if_neg h2, if_neg (by omega)]
theorem putN_is (L : List Value) (o : Nat) (f : Nat → Value) (k : Nat) (hk : o + k ≤ L.length) : putN L o f k = L.take o ++ (List.range k).map f ++ L.drop (o + k) := by
  apply List.ext_getElem?
  intro i
  rw [putN_get L o f k i hk]
  by_cases h1 : i < o
  · rw [if_neg (by omega), List.append_assoc, List.getElem?_append_left (by simp; omega), List.getElem?_take, if_pos h1]
  · by_cases h2 : i < o + k
    · rw [if_pos (by omega), List.append_assoc, List.getElem?_append_right (by simp; omega), List.getElem?_append_left (by simp; omega)]
      simp [Nat.min_eq_left (show o ≤ L.length by omega), show i - o < k by omega]
    · rw [if_neg (by omega), List.getElem?_append_right (by simp; omega)]
      simp [Nat.min_eq_left (show o ≤ L.length by omega)]
      congr 1; omega
end Go.Proofs.YtabdegeaifajfaaGreatDoor
