/- texts merged, part 1: XShaMem XOwn XMake XPart XWiM XWiTake XWiWord XWiTry XWiTryAll XAppendMake XOpen XRowsArg XOwnRows XFlow XFlow2 XFlow3 XFlowG XFlowS XWiJoin XWiRead XWiCalls XWiRows XFlowT XRcParts -/
import Derived.WalkKit
import Derived.Lib.Hide
import Derived.WalkSmall
import Derived.Laws.Rows
import Derived.Laws.Tables
import Derived.Test.YtohcoihdijemfaaGreatProg
import Derived.Laws.AppendOwn
import Derived.Laws.OwnMore
import Derived.WalkSpells
import Derived.WalkLawsBesides
import Derived.Defers
import Derived.Recover
import Derived.LaidEqlPtr
import Derived.Lib.AppendZeros
import Derived.Lib.AppendZerosOnto
import Derived.Test.YtohcoihdijemfaaGreatChecked
import Derived.ProofKit
import Derived.OpenShut
import Derived.ShutString
import Derived.ChangeOld
import Derived.Deep.DeepHandedRow
import Derived.Lib.LaidTab
import Derived.SizedLaws
import Derived.Deep.Matrix
import Derived.Orders
import Derived.Deep.MidRow
import Derived.Deep.Cut
import Derived.Deep.RegionWith
/- Blocks known whole, and what a call may have written: plain facts on worlds. -/
namespace Go.Proofs.YtohcoihdijemfaaGreat
open Go.RowKit

/-- Block B is a row of the cells L, none of them frozen. -/
def Blk (w : World) (B : Nat) (T : TypeId) (L : List Value) : Prop := w.heap[B]? = some (.cells L.toArray T (0, 0))

theorem Blk.lt {w : World} {B : Nat} {T : TypeId} {L : List Value} (h : Blk w B T L) : B < w.heap.size := by
  rcases Nat.lt_or_ge B w.heap.size with h' | h'
  · exact h'
  · unfold Blk at h; simp [Array.getElem?_eq_none h'] at h
theorem Blk.cell {w : World} {B : Nat} {T : TypeId} {L : List Value} (h : Blk w B T L) {i : Nat} {v : Value} (hv : L[i]? = some v) : w.cell? ⟨B, i, none⟩ = some v := by
  unfold Blk at h; simp [World.cell?, h, hv]
theorem Blk.free {w : World} {B : Nat} {T : TypeId} {L : List Value} (h : Blk w B T L) (i : Nat) : w.frozen? ⟨B, i, none⟩ = false := by
  unfold Blk at h; simp [World.frozen?, h]
theorem Blk.set {w : World} {B : Nat} {T : TypeId} {L : List Value} (h : Blk w B T L) (i : Nat) (v : Value) : Blk (w.setCell ⟨B, i, none⟩ v) B T (L.set i v) := by
  have hlt := h.lt
  unfold Blk at h ⊢
  have h' : w.heap[B] = .cells L.toArray T (0, 0) := by simpa [Array.getElem?_eq_getElem hlt] using h
  show (w.heap.modify B _)[B]? = _
  rw [Array.getElem?_eq_getElem (by simpa using hlt), Array.getElem_modify_self, h']
  simp
theorem Blk.other {w : World} {B : Nat} {T : TypeId} {L : List Value} (h : Blk w B T L) {a : Addr} (ha : a.block ≠ B) (v : Value) : Blk (w.setCell a v) B T L := by
  unfold Blk at h ⊢; rw [Below.heap_setCell _ _ _ _ (fun e => ha e.symm)]; exact h
theorem Blk.alloc {w : World} {B : Nat} {T : TypeId} {L : List Value} (h : Blk w B T L) (o : Obj) : Blk (w.alloc o) B T L := by
  have hlt := h.lt
  unfold Blk at h ⊢; rw [Below.heap_alloc _ _ _ hlt]; exact h
theorem Blk.drewN {w : World} {B : Nat} {T : TypeId} {L : List Value} (h : Blk w B T L) (n : Nat) : Blk (w.drewN n) B T L := h
theorem Blk.drew {w : World} {B : Nat} {T : TypeId} {L : List Value} (h : Blk w B T L) : Blk w.drew B T L := h
theorem Blk.grown {w w' : World} {B : Nat} {T : TypeId} {L : List Value} {row : Option Nat} (h : Blk w B T L) (hg : w.grownBy w' row) (hr : some B ≠ row) : Blk w' B T L := by
  have hlt := h.lt
  unfold Blk at h ⊢; rw [hg.block B hlt hr]; exact h
theorem Blk.new (w : World) (L : List Value) (T : TypeId) : Blk (w.alloc (.cells L.toArray T)) w.heap.size T L := by
  show (w.heap.push _)[w.heap.size]? = _
  simp

theorem gb_refl (w : World) (row : Option Nat) : w.grownBy w row := ⟨rfl, rfl, rfl, Nat.le_refl _, fun _ _ _ => rfl⟩
theorem gb_trans {a b c : World} {row : Option Nat} (h : a.grownBy b row) (k : b.grownBy c row) : a.grownBy c row :=
  ⟨k.os.trans h.os, k.tape.trans h.tape, k.output.trans h.output, Nat.le_trans h.size k.size, fun i hi hr => (k.block i (Nat.lt_of_lt_of_le hi h.size) hr).trans (h.block i hi hr)⟩
theorem gb_row {a b : World} (h : a.grownBy b none) (row : Option Nat) : a.grownBy b row :=
  ⟨h.os, h.tape, h.output, h.size, fun i hi _ => h.block i hi (by simp)⟩
/-- what is written lies in a block that is new -/
theorem gb_new {a b : World} {B : Nat} (h : a.grownBy b (some B)) (hB : a.heap.size ≤ B) (row : Option Nat) : a.grownBy b row :=
  ⟨h.os, h.tape, h.output, h.size, fun i hi _ => h.block i hi (by intro e; cases e; omega)⟩
/-- .. in a block that is new to an elder world -/
theorem gb_then {a b c : World} {B : Nat} {row : Option Nat} (h : a.grownBy b row) (k : b.grownBy c (some B)) (hB : a.heap.size ≤ B) : a.grownBy c row :=
  ⟨k.os.trans h.os, k.tape.trans h.tape, k.output.trans h.output, Nat.le_trans h.size k.size, fun i hi hr => (k.block i (Nat.lt_of_lt_of_le hi h.size) (by intro e; cases e; omega)).trans (h.block i hi hr)⟩
theorem gb_alloc {a w : World} {row : Option Nat} (h : a.grownBy w row) (o : Obj) : a.grownBy (w.alloc o) row := gb_trans h (World.grownBy_alloc w o row)
theorem gb_drewN {a w : World} {row : Option Nat} (h : a.grownBy w row) (n : Nat) : a.grownBy (w.drewN n) row := ⟨h.os, h.tape, h.output, h.size, h.block⟩
theorem gb_drew {a w : World} {row : Option Nat} (h : a.grownBy w row) : a.grownBy w.drew row := ⟨h.os, h.tape, h.output, h.size, h.block⟩
theorem gb_set {a w : World} {B : Nat} (h : a.grownBy w (some B)) (i : Nat) (v : Value) : a.grownBy (w.setCell ⟨B, i, none⟩ v) (some B) :=
  gb_trans h ⟨rfl, rfl, rfl, by simp [World.setCell], fun k _ hr => Below.heap_setCell _ _ _ _ (fun e => hr (by rw [e]))⟩
theorem gb_set_new {a w : World} {row : Option Nat} (h : a.grownBy w row) {p : Addr} (hp : a.heap.size ≤ p.block) (v : Value) : a.grownBy (w.setCell p v) row :=
  ⟨h.os, h.tape, h.output, by simp [World.setCell]; exact h.size, fun k hk hr => by rw [Below.heap_setCell _ _ _ _ (by omega)]; exact h.block k hk hr⟩
theorem gb_below {a b : World} (h : a.grownBy b none) : Below a.heap.size a b := ⟨h.os, h.tape, h.output, h.size, fun k hk => h.block k hk (by simp)⟩
theorem gb_cell {a b : World} {row : Option Nat} (h : a.grownBy b row) {p : Addr} (hp : p.block < a.heap.size) (hr : some p.block ≠ row) : b.cell? p = a.cell? p := World.cell?_of_block (w := a) (h.block p.block hp hr)

theorem gb_setRow {a w : World} {row : Option Nat} (h : a.grownBy w row) {g : Nat} (hg : a.heap.size ≤ g) (cs : Array Value) : a.grownBy (w.setRow g cs) row :=
  ⟨h.os, h.tape, h.output, by simp; exact h.size, fun k hk hr => by rw [setRow_other _ _ _ _ (by omega)]; exact h.block k hk hr⟩
theorem gb_setRow' {a w : World} {g : Nat} (h : a.grownBy w (some g)) (cs : Array Value) : a.grownBy (w.setRow g cs) (some g) :=
  ⟨h.os, h.tape, h.output, by simp; exact h.size, fun k hk hr => by rw [setRow_other _ _ _ _ (fun e => hr (by rw [e]))]; exact h.block k hk hr⟩
theorem Blk.row {w : World} {B : Nat} {T : TypeId} {L : List Value} (h : Blk w B T L) (L' : List Value) : Blk (w.setRow B L'.toArray) B T L' := setRow_heap _ _ _ _ _ _ h
theorem Blk.rowOther {w : World} {B : Nat} {T : TypeId} {L : List Value} (h : Blk w B T L) {g : Nat} (hg : g ≠ B) (cs : Array Value) : Blk (w.setRow g cs) B T L := by
  unfold Blk at h ⊢; rw [setRow_other _ _ _ _ (fun e => hg e.symm)]; exact h

/-- n cells from place o on, one by one. -/
def putN (L : List Value) (o : Nat) (f : Nat → Value) : Nat → List Value
  | 0 => L
  | k + 1 => (putN L o f k).set (o + k) (f k)
theorem putN_length (L : List Value) (o : Nat) (f : Nat → Value) (k : Nat) : (putN L o f k).length = L.length := by
  induction k with
  | zero => rfl
  | succ k ih => simp [putN, ih]
theorem putN_get (L : List Value) (o : Nat) (f : Nat → Value) (k i : Nat) (hk : o + k ≤ L.length) : (putN L o f k)[i]? = if o ≤ i ∧ i < o + k then some (f (i - o)) else L[i]? := by
  induction k with
  | zero => simp [putN]; omega
  | succ k ih =>
    have hl := putN_length L o f k
    rw [putN, List.getElem?_set, ih (by omega), hl]
    by_cases h : o + k = i
    · subst h; simp only [if_true]; rw [if_pos (by omega), if_pos (by omega)]; congr 2; omega
    · rw [if_neg h]
      by_cases h2 : o ≤ i ∧ i < o + k
      · rw [if_pos h2, if_pos (by omega)]
      · rw [if_neg h2, if_neg (by omega)]
theorem putN_is (L : List Value) (o : Nat) (f : Nat → Value) (k : Nat) (hk : o + k ≤ L.length) : putN L o f k = L.take o ++ (List.range k).map f ++ L.drop (o + k) := by
  apply List.ext_getElem?
  intro i
  rw [putN_get L o f k i hk]
  by_cases h1 : i < o
  · rw [if_neg (by omega), List.append_assoc, List.getElem?_append_left (by simp; omega), List.getElem?_take, if_pos h1]
  · by_cases h2 : i < o + k
    · rw [if_pos (by omega), List.append_assoc, List.getElem?_append_right (by simp; omega), List.getElem?_append_left (by simp; omega)]
      simp [Nat.min_eq_left (show o ≤ L.length by omega), show i - o < k by omega]
    · rw [if_neg (by omega), List.getElem?_append_right (by simp; omega)]
      simp [Nat.min_eq_left (show o ≤ L.length by omega)]
      congr 1; omega
end Go.Proofs.YtohcoihdijemfaaGreat

/- Rows of bytes: what lies below a bound and stays; rows of one's own; appends; parts of slices. -/
namespace Go.Proofs.YtohcoihdijemfaaGreat
open Go.RowKit
namespace Ow

def u8N (n : Nat) : Value := .int .u8 (n : Int)
/-- a slice of the bytes l, that lie below block B -/
structure BytesAt (w : World) (B : Nat) (a : Option Addr) (cap : Nat) (l : List Nat) : Prop where
  lim : B ≤ w.heap.size
  fits : l.length ≤ cap
  top : cap < 9223372036854775808
  byte : ∀ i, l.getD i 0 < 256
  cells : l.length = 0 ∨ ∃ pb po, a = some ⟨pb, po, none⟩ ∧ pb < B ∧ ∀ i, i < l.length → w.cell? ⟨pb, po + i, none⟩ = some (u8N (l.getD i 0))
theorem BytesAt.kept {w w' : World} {B cap : Nat} {a : Option Addr} {l : List Nat} (h : BytesAt w B a cap l) {row : Option Nat} (hg : w.grownBy w' row) (hr : ∀ r, row = some r → B ≤ r) : BytesAt w' B a cap l := by
  refine ⟨Nat.le_trans h.lim hg.size, h.fits, h.top, h.byte, ?_⟩
  rcases h.cells with h0 | ⟨pb, po, ha, hlt, hc⟩
  · exact Or.inl h0
  · exact Or.inr ⟨pb, po, ha, hlt, fun i hi => by rw [gb_cell hg (p := ⟨pb, po + i, none⟩) (Nat.lt_of_lt_of_le hlt h.lim) (fun e => by have := hr _ e.symm; simp at this; omega)]; exact hc i hi⟩
theorem BytesAt.stay {w w' : World} {B cap : Nat} {a : Option Addr} {l : List Nat} (h : BytesAt w B a cap l) (hg : w.grownBy w' none) : BytesAt w' B a cap l := h.kept hg (fun r e => by cases e)
theorem BytesAt.up {w : World} {B B' cap : Nat} {a : Option Addr} {l : List Nat} (h : BytesAt w B a cap l) (hB : B ≤ B') (hl : B' ≤ w.heap.size) : BytesAt w B' a cap l := by
  refine ⟨hl, h.fits, h.top, h.byte, ?_⟩
  rcases h.cells with h0 | ⟨pb, po, ha, hlt, hc⟩
  · exact Or.inl h0
  · exact Or.inr ⟨pb, po, ha, by omega, hc⟩
theorem u8_getD {l : List Nat} {i : Nat} (h : i < l.length) : (l.map u8N)[i]? = some (u8N (l.getD i 0)) := by
  rw [List.getElem?_map, List.getElem?_eq_getElem h, List.getD_eq_getElem?_getD, List.getElem?_eq_getElem h]; rfl
theorem blk_at (w : World) {B : Nat} (L : List Value) (T : TypeId) (h : w.heap.size = B) : Blk (w.alloc (.cells L.toArray T)) B T L := h ▸ Blk.new w L T
/-- a block of bytes, as a slice -/
theorem blk_bytes {w : World} {N B n cap : Nat} {T : TypeId} {l : List Nat} {tl : List Value} (h : Blk w N T (l.map u8N ++ tl)) (hl : l.length = n) (hc : n ≤ cap) (ht : cap < 9223372036854775808) (hb : ∀ i, l.getD i 0 < 256) (hB : N < B) (hw : B ≤ w.heap.size) :
    BytesAt w B (some ⟨N, 0, none⟩) cap l := by
  subst hl
  refine ⟨hw, hc, ht, hb, Or.inr ⟨N, 0, rfl, hB, fun i hi => ?_⟩⟩
  rw [Nat.zero_add]
  apply h.cell
  rw [List.getElem?_append_left (by simpa using hi)]
  exact u8_getD hi
theorem info_u8 : ∃ i z, Tryz.prog.info? 5 = some i ∧ i.zero = some z ∧ i.size = 1 ∧ i.bytes = 1 ∧ z.cells.size = 1 := by
  have h : (Tryz.prog.info? 5).map (fun i => (i.zero.map (·.cells.size), i.size, i.bytes)) = some (some 1, 1, 1) := by kernel_rfl
  cases hi : Tryz.prog.info? 5 with
  | none => rw [hi] at h; cases h
  | some i =>
    rw [hi] at h
    simp only [Option.map_some, Option.some.injEq, Prod.mk.injEq] at h
    cases hz : i.zero with
    | none => rw [hz] at h; cases h.1
    | some z => rw [hz] at h; exact ⟨i, z, rfl, hz, h.2.1, h.2.2, by simpa using h.1⟩
/-- several elements appended to a row of one's own -/
theorem append_u8 (w : World) (base n m c : Nat) (v : Value) (xs news : List Value) (ad : Addr) (hown : w.ownsRow base 5 1 v n xs) (hl : news.length = m) (hnews : ∀ j u, news[j]? = some u → w.cell? (ad.add j) = some u) (h1 : ∀ u ∈ news, u.oneCell' = true)
    (hn : (n + m) * 1 ≤ 140737488355328) (hbase : base ≤ w.heap.size) :
    ∃ v' w', (Builtin.append_ #[23, 23] 23 #[v, .slice (some ad) m c]).run Tryz.prog w = .ok v' w' ∧ w'.ownsRow base 5 1 v' (n + m) (xs ++ news) ∧ w.grownBy w' v.ownBlock := by
  obtain ⟨i, z, hi, hz, hs, hb, hc⟩ := info_u8
  obtain ⟨v', w', hr, ho, hg, _⟩ := run_append_own w base 23 23 5 i z 1 1 (P := Tryz.prog) Tryz.underlying23 hi hz hs hb hc (by decide) v n xs hown ad m c news (by omega) hnews h1 (by unfold maxLen; omega) hn hbase
  exact ⟨v', w', hr, ho, hg⟩
/-- one element, out of a box that was just made -/
theorem append1_u8 (w : World) (base n : Nat) (v x : Value) (xs : List Value) (hown : w.ownsRow base 5 1 v n xs) (h1 : x.oneCell' = true) (hn : (n + 1) * 1 ≤ 140737488355328) (hbase : base ≤ w.heap.size) :
    ∃ v' w', (Builtin.append_ #[23, 23] 23 #[v, .slice (some ⟨w.heap.size, 0, none⟩) 1 1]).run Tryz.prog (w.alloc (.cells #[x] 5)) = .ok v' w' ∧ w'.ownsRow base 5 1 v' (n + 1) (xs ++ [x]) ∧ w.grownBy w' v.ownBlock := by
  obtain ⟨v', w', hr, ho, hg⟩ := append_u8 (w.alloc (.cells #[x] 5)) base n 1 1 v xs [x] ⟨w.heap.size, 0, none⟩ (hown.alloc _) rfl (fun j u hu => by
    have hj : j = 0 := by
      rcases Nat.eq_zero_or_pos j with h | h
      · exact h
      · rw [List.getElem?_eq_none (by simp; omega)] at hu; cases hu
    subst hj
    rw [show x = u by simpa using hu]
    exact (Blk.new w [u] 5).cell (i := 0) rfl) (fun u hu => by rw [List.mem_singleton.1 hu]; exact h1) hn (by simp; omega)
  exact ⟨v', w', hr, ho, gb_trans (gb_alloc (gb_refl _ _) _) hg⟩

/-- what is written lies in a row of one's own -/
theorem gb_own {w0 w w' : World} {base e n : Nat} {v : Value} {xs : List Value} (h : w0.grownBy w none) (ho : w.ownsRow base e 1 v n xs) (hb : w0.heap.size ≤ base) (hg : w.grownBy w' v.ownBlock) : w0.grownBy w' none :=
  ⟨hg.os.trans h.os, hg.tape.trans h.tape, hg.output.trans h.output, Nat.le_trans h.size hg.size, fun k hk _ => (hg.block k (Nat.lt_of_lt_of_le hk h.size) (fun e => by have := (ho.lt k e.symm).1; omega)).trans (h.block k hk (by simp))⟩
theorem own_drewN {w : World} {base e n : Nat} {v : Value} {xs : List Value} (h : w.ownsRow base e 1 v n xs) (k : Nat) : (w.drewN k).ownsRow base e 1 v n xs := ⟨h.1, h.2⟩
theorem own_some {w : World} {base e n : Nat} {v : Value} {xs : List Value} (h : w.ownsRow base e 1 v n xs) (hn : 0 < n) : ∃ g c, v = .slice (some ⟨g, 0, none⟩) n c ∧ base ≤ g ∧ n ≤ c ∧ c ≤ maxLen ∧ g < w.heap.size := by
  rcases h.2 with ⟨_, h0⟩ | ⟨g, c, cur, rfl, hb, hg, hnc, hcm, _⟩
  · omega
  · exact ⟨g, c, rfl, hb, hnc, hcm, lt_of_block hg⟩
theorem own_cell {w : World} {base e n g c : Nat} {xs : List Value} (h : w.ownsRow base e 1 (.slice (some ⟨g, 0, none⟩) n c) n xs) {j : Nat} {u : Value} (hu : xs[j]? = some u) : w.cell? ⟨g, j, none⟩ = some u := by
  have hl : xs.length = n := by have := h.1; omega
  have hj : j < n := by
    rcases Nat.lt_or_ge j n with h' | h'
    · exact h'
    · rw [List.getElem?_eq_none (by omega)] at hu; cases hu
  rw [h.cellAt j (by omega)]; exact hu

/-- an append whose run is known -/
theorem wpList_append_run {P : Program} {w : World} {ops : Array Oper} {rest : List Oper} {o : Oper} {a : Act} {Q : Exit → Act → World → Prop} (hgd : o.guard = none) (s x : Operand) (t : TypeId)
    (ho : o.op = .call { callee := .builtin .append, args := #[s, x], argTypes := #[t, t] }) (ht : o.type = t) (v y : Value) (hs : a.eval s = v) (hx : a.eval x = y) (v' : Value) (w' : World)
    (hr : (Builtin.append_ #[t, t] t #[v, y]).run P w = .ok v' w') (h : wpList P ops Q rest (a.put o.dst v') w') : wpList P ops Q (o :: rest) a w := by
  refine wpList_plain hgd fun K hK => ?_
  rw [← ht] at hr
  unfold Oper.wp
  simp [execOp, ho, resolve, invoke, builtin, hs, hx, ← ht, hr, Result.andThen]
  exact hK _ _ h
theorem append_none (w : World) (base n c : Nat) (v : Value) (xs : List Value) (hown : w.ownsRow base 5 1 v n xs) :
    (Builtin.append_ #[23, 23] 23 #[v, .slice none 0 c]).run Tryz.prog w = .ok v w := by
  obtain ⟨i, z, hi, hz, hs, hb, hc⟩ := info_u8
  rcases hown.2 with ⟨rfl, rfl⟩ | ⟨g, cap, cur, rfl, _, _, hnc, _⟩
  · simp [Builtin.append_, run_underlying Tryz.underlying23, sizeOf, typeInfo, hi, Builtin.lenOf, Builtin.firstCells]
  · simp [Builtin.append_, run_underlying Tryz.underlying23, sizeOf, typeInfo, hi, Builtin.lenOf, Builtin.firstCells, hnc, storeCells]
theorem own_base {w : World} {b b' e n : Nat} {v : Value} {xs : List Value} (h : w.ownsRow b e 1 v n xs) (hb : b' ≤ b) : w.ownsRow b' e 1 v n xs := by
  refine ⟨h.1, ?_⟩
  rcases h.2 with h' | ⟨g, c, cur, e1, e2, e3⟩
  · exact Or.inl h'
  · exact Or.inr ⟨g, c, cur, e1, Nat.le_trans hb e2, e3⟩
theorem own_kept {w w' : World} {base e n : Nat} {v : Value} {xs : List Value} (h : w.ownsRow base e 1 v n xs) (hg : w.grownBy w' none) : w'.ownsRow base e 1 v n xs :=
  h.kept hg (by cases v.ownBlock <;> simp)
/-- bytes that lie somewhere, appended where there is room -/
theorem append_bytes_fits (w : World) (base g n0 c B cap n : Nat) (xs : List Value) (a : Option Addr) (p : List Nat) (hown : w.ownsRow base 5 1 (.slice (some ⟨g, 0, none⟩) n0 c) n0 xs) (hn : p.length = n) (hP : BytesAt w B a cap p) (hroom : n0 + n ≤ c) :
    ∃ w', (Builtin.append_ #[23, 23] 23 #[.slice (some ⟨g, 0, none⟩) n0 c, .slice a n cap]).run Tryz.prog w = .ok (.slice (some ⟨g, 0, none⟩) (n0 + n) c) w' ∧ w'.ownsRow base 5 1 (.slice (some ⟨g, 0, none⟩) (n0 + n) c) (n0 + n) (xs ++ p.map u8N) ∧ w.grownBy w' (some g) := by
  subst hn
  obtain ⟨i, z, hi, hz, hs, hb, hc⟩ := info_u8
  rcases a with _ | ad
  · have h0 : p.length = 0 := by
      rcases hP.cells with h | ⟨_, _, h, _⟩
      · exact h
      · cases h
    obtain rfl : p = [] := List.eq_nil_of_length_eq_zero h0
    exact ⟨w, append_none w base n0 cap _ xs hown, by simpa using hown, gb_refl _ _⟩
  · refine run_append_fits w base 23 23 5 i 1 (P := Tryz.prog) Tryz.underlying23 hi hs g n0 c xs hown ad p.length cap (p.map u8N) (by simp) (fun j u hu => ?_) (fun u hu => ?_) hroom
    · rcases hP.cells with h | ⟨pb, po, h, _, hc⟩
      · obtain rfl : p = [] := List.eq_nil_of_length_eq_zero h
        simp at hu
      · cases h
        have hj : j < p.length := by
          rcases Nat.lt_or_ge j p.length with h | h
          · exact h
          · rw [List.getElem?_eq_none (by simpa using h)] at hu; cases hu
        have hadd : (⟨pb, po, none⟩ : Addr).add j = ⟨pb, po + j, none⟩ := by unfold Addr.add; split <;> simp_all
        rw [hadd, hc j hj, ← hu, u8_getD hj]
    · obtain ⟨x, _, rfl⟩ := List.mem_map.1 hu
      rfl
/-- .. and where there may be none -/
theorem append_bytes (w : World) (base n0 B cap n : Nat) (v : Value) (xs : List Value) (a : Option Addr) (p : List Nat) (hown : w.ownsRow base 5 1 v n0 xs) (hn : p.length = n) (hP : BytesAt w B a cap p)
    (hb : n0 + n ≤ 140737488355328) (hbase : base ≤ w.heap.size) :
    ∃ v' w', (Builtin.append_ #[23, 23] 23 #[v, .slice a n cap]).run Tryz.prog w = .ok v' w' ∧ w'.ownsRow base 5 1 v' (n0 + n) (xs ++ p.map u8N) ∧ w.grownBy w' v.ownBlock := by
  subst hn
  rcases a with _ | ad
  · have h0 : p.length = 0 := by
      rcases hP.cells with h | ⟨_, _, h, _⟩
      · exact h
      · cases h
    obtain rfl : p = [] := List.eq_nil_of_length_eq_zero h0
    exact ⟨v, w, append_none w base n0 cap _ xs hown, by simpa using hown, gb_refl _ _⟩
  · refine append_u8 w base n0 p.length cap v xs (p.map u8N) ad hown (by simp) (fun j u hu => ?_) (fun u hu => ?_) (by omega) hbase
    · rcases hP.cells with h | ⟨pb, po, h, _, hc⟩
      · obtain rfl : p = [] := List.eq_nil_of_length_eq_zero h
        simp at hu
      · cases h
        have hj : j < p.length := by
          rcases Nat.lt_or_ge j p.length with h | h
          · exact h
          · rw [List.getElem?_eq_none (by simpa using h)] at hu; cases hu
        have hadd : (⟨pb, po, none⟩ : Addr).add j = ⟨pb, po + j, none⟩ := by unfold Addr.add; split <;> simp_all
        rw [hadd, hc j hj, ← hu, u8_getD hj]
    · obtain ⟨x, _, rfl⟩ := List.mem_map.1 hu
      rfl
/-- one byte, out of a box that was just made, where there is room -/
theorem append_byte_fits (w : World) (base g n0 c x : Nat) (xs : List Value) (hx : x < 256) (hown : w.ownsRow base 5 1 (.slice (some ⟨g, 0, none⟩) n0 c) n0 xs) (hroom : n0 + 1 ≤ c) :
    ∃ w', (Builtin.append_ #[23, 23] 23 #[.slice (some ⟨g, 0, none⟩) n0 c, .slice (some ⟨w.heap.size, 0, none⟩) 1 1]).run Tryz.prog (w.alloc (.cells #[u8N x] 5)) = .ok (.slice (some ⟨g, 0, none⟩) (n0 + 1) c) w' ∧ w'.ownsRow base 5 1 (.slice (some ⟨g, 0, none⟩) (n0 + 1) c) (n0 + 1) (xs ++ [u8N x]) ∧ w.grownBy w' (some g) := by
  have hb := Blk.new w [u8N x] 5
  have hp : BytesAt (w.alloc (.cells #[u8N x] 5)) (w.heap.size + 1) (some ⟨w.heap.size, 0, none⟩) 1 [x] :=
    blk_bytes (l := [x]) (n := 1) (tl := []) hb rfl (by omega) (by omega) (fun i => by cases i <;> simp; omega) (by omega) (by simp)
  obtain ⟨w', hr, ho, hg⟩ := append_bytes_fits (w.alloc (.cells #[u8N x] 5)) base g n0 c (w.heap.size + 1) 1 1 xs _ [x] (hown.alloc _) rfl hp hroom
  exact ⟨w', hr, ho, gb_trans (gb_alloc (gb_refl _ _) _) hg⟩
set_option maxRecDepth 100000 in
/-- x[lo:hi] of a slice of bytes -/
theorem slice_run (a : Option Addr) (n cap lo k : Nat) (h : lo + k ≤ cap) :
    ∃ a', (∀ w, (Instr.slice 23 (.slice a n cap) (some (.int .i64 (lo : Int))) (some (.int .i64 ((lo : Int) + (k : Int)))) none).run Tryz.prog w = .ok (.slice a' k (cap - lo)) w) ∧ (lo < cap → ∀ pb po, a = some ⟨pb, po, none⟩ → a' = some ⟨pb, po + lo, none⟩) := by
  obtain ⟨j, hj, hs⟩ : ∃ j, Tryz.prog.info? (Tryz.prog.elem 23) = some j ∧ j.size = 1 := by
    have h1 : (Tryz.prog.info? (Tryz.prog.elem 23)).map (·.size) = some 1 := by kernel_rfl
    cases hq : Tryz.prog.info? (Tryz.prog.elem 23) with
    | none => rw [hq] at h1; cases h1
    | some j => rw [hq] at h1; exact ⟨j, rfl, by simpa using h1⟩
  have e1 : ((lo : Int) + (k : Int)).toNat = lo + k := by omega
  refine ⟨if cap = lo then a else a.map (·.add lo), fun w => ?_, ?_⟩
  · rw [run_slice_lh w 23 a n cap Tryz.underlying23 .i64 .i64 _ _ (by omega) (by omega) (by omega), e1, Int.toNat_natCast]
    simp [sizeOf, typeInfo, hj, hs, sliced]
  · intro hlt pb po e
    rw [if_neg (by omega), e]
    simp [Addr.add]

set_option maxRecDepth 100000 in
/-- x[lo:] of a slice of bytes -/
theorem slice_from (a : Option Addr) (n cap lo : Nat) (h : lo ≤ n) :
    ∃ a', (∀ w, (Instr.slice 23 (.slice a n cap) (some (.int .i64 (lo : Int))) none none).run Tryz.prog w = .ok (.slice a' (n - lo) (cap - lo)) w) ∧ (lo < cap → ∀ pb po, a = some ⟨pb, po, none⟩ → a' = some ⟨pb, po + lo, none⟩) := by
  obtain ⟨j, hj, hs⟩ : ∃ j, Tryz.prog.info? (Tryz.prog.elem 23) = some j ∧ j.size = 1 := by
    have h1 : (Tryz.prog.info? (Tryz.prog.elem 23)).map (·.size) = some 1 := by kernel_rfl
    cases hq : Tryz.prog.info? (Tryz.prog.elem 23) with
    | none => rw [hq] at h1; cases h1
    | some j => rw [hq] at h1; exact ⟨j, rfl, by simpa using h1⟩
  refine ⟨if cap = lo then a else a.map (·.add lo), fun w => ?_, ?_⟩
  · rw [run_slice_l w 23 a n cap Tryz.underlying23 .i64 _ (by omega) (by omega), Int.toNat_natCast]
    simp [sizeOf, typeInfo, hj, hs, sliced]
  · intro hlt pb po e
    rw [if_neg (by omega), e]
    simp [Addr.add]

end Ow
end Go.Proofs.YtohcoihdijemfaaGreat

/- make of bytes: a new block of zeros. -/
namespace Go.Proofs.YtohcoihdijemfaaGreat
open Go.RowKit Ow

theorem info_u8z : ∃ i, Tryz.prog.info? 5 = some i ∧ i.zero = some (.int .u8 0) ∧ i.size = 1 ∧ i.bytes = 1 := by
  have h : (Tryz.prog.info? 5).map (fun i => (i.zero, i.size, i.bytes)) = some (some (.int .u8 0), 1, 1) := by kernel_rfl
  cases hi : Tryz.prog.info? 5 with
  | none => rw [hi] at h; cases h
  | some i =>
    rw [hi] at h
    simp only [Option.map_some, Option.some.injEq, Prod.mk.injEq] at h
    exact ⟨i, rfl, h.1, h.2.1, h.2.2⟩
theorem made_bytes (n : Nat) : madeCells (Value.int .u8 0).cells n = (List.replicate n (u8N 0)).toArray := by
  unfold madeCells u8N
  apply Array.ext
  · simp
  · intro i h1 h2
    simp [Value.cells, Nat.mod_one]
theorem make_bytes (n c : Nat) (w : World) (h : n ≤ c) (hc : c ≤ 140737488355328) : ∃ w', (Instr.makeSlice 23 (.int .i64 n) (.int .i64 c)).run Tryz.prog w = .ok (.slice (some ⟨w.heap.size, 0, none⟩) n c) w' ∧
    w.grownBy w' none ∧ w'.heap.size = w.heap.size + 1 ∧ Blk w' w.heap.size 5 (List.replicate c (u8N 0)) := by
  obtain ⟨i, hi, hz, hs, hb⟩ := info_u8z
  have h2 := run_make (P := Tryz.prog) w 23 5 i (.int .u8 0) Tryz.underlying23 hi hz .i64 .i64 n c (by omega) (by omega) (by rw [hb]; omega) (by omega)
  rw [hs, Nat.mul_one, Int.toNat_natCast, Int.toNat_natCast, made_bytes] at h2
  exact ⟨_, h2, gb_alloc (gb_refl _ _) _, by simp, Blk.new w _ _⟩
end Go.Proofs.YtohcoihdijemfaaGreat

/- Parts of slices of bytes; rows of one's own as bytes. -/
namespace Go.Proofs.YtohcoihdijemfaaGreat
open Go.RowKit Ow

theorem getD_drop (l : List Nat) (k i : Nat) : (l.drop k).getD i 0 = l.getD (k + i) 0 := by
  rw [List.getD_eq_getElem?_getD, List.getElem?_drop, List.getD_eq_getElem?_getD]
theorem getD_take_lt (l : List Nat) (k : Nat) (h : ∀ i, l.getD i 0 < 256) (i : Nat) : (l.take k).getD i 0 < 256 := by
  rw [List.getD_eq_getElem?_getD, List.getElem?_take]
  split
  · rw [← List.getD_eq_getElem?_getD]; exact h i
  · decide
theorem getD_take (l : List Nat) (k i : Nat) (h : i < k) : (l.take k).getD i 0 = l.getD i 0 := by
  rw [List.getD_eq_getElem?_getD, List.getElem?_take, if_pos h, List.getD_eq_getElem?_getD]
theorem bytes_drop {w : World} {B cap k : Nat} {a a' : Option Addr} {l : List Nat} (h : BytesAt w B a cap l) (ha : k < cap → ∀ pb po, a = some ⟨pb, po, none⟩ → a' = some ⟨pb, po + k, none⟩) : BytesAt w B a' (cap - k) (l.drop k) := by
  have hf := h.fits
  have ht := h.top
  refine ⟨h.lim, by rw [List.length_drop]; omega, by omega, fun i => by rw [getD_drop]; exact h.byte _, ?_⟩
  by_cases h0 : l.length ≤ k
  · exact Or.inl (by rw [List.length_drop]; omega)
  · obtain ⟨pb, po, e, hlt, hc⟩ := h.cells.resolve_left (by omega)
    refine Or.inr ⟨pb, po + k, ha (by omega) pb po e, hlt, fun i hi => ?_⟩
    rw [List.length_drop] at hi
    rw [getD_drop, Nat.add_assoc]
    exact hc _ (by omega)
theorem bytes_take {w : World} {B cap k : Nat} {a a' : Option Addr} {l : List Nat} (h : BytesAt w B a cap l) (ha : ∀ pb po, a = some ⟨pb, po, none⟩ → a' = some ⟨pb, po, none⟩) : BytesAt w B a' cap (l.take k) := by
  have hl : (l.take k).length ≤ l.length := by rw [List.length_take]; omega
  refine ⟨h.lim, Nat.le_trans hl h.fits, h.top, getD_take_lt _ _ h.byte, ?_⟩
  rcases h.cells with h0 | ⟨pb, po, e, hlt, hc⟩
  · exact Or.inl (by omega)
  · refine Or.inr ⟨pb, po, ha pb po e, hlt, fun i hi => ?_⟩
    rw [List.length_take] at hi
    rw [getD_take _ _ _ (by omega)]
    exact hc _ (by omega)
set_option maxRecDepth 100000 in
/-- x[:k] of a slice of bytes -/
theorem slice_to (a : Option Addr) (n cap k : Nat) (h : k ≤ cap) :
    ∃ a', (∀ w, (Instr.slice 23 (.slice a n cap) none (some (.int .i64 (k : Int))) none).run Tryz.prog w = .ok (.slice a' k cap) w) ∧ (∀ pb po, a = some ⟨pb, po, none⟩ → a' = some ⟨pb, po, none⟩) := by
  obtain ⟨j, hj, hs⟩ : ∃ j, Tryz.prog.info? (Tryz.prog.elem 23) = some j ∧ j.size = 1 := by
    have h1 : (Tryz.prog.info? (Tryz.prog.elem 23)).map (·.size) = some 1 := by kernel_rfl
    cases hq : Tryz.prog.info? (Tryz.prog.elem 23) with
    | none => rw [hq] at h1; cases h1
    | some j => rw [hq] at h1; exact ⟨j, rfl, by simpa using h1⟩
  refine ⟨if cap = 0 then a else a.map (·.add 0), fun w => ?_, fun pb po e => ?_⟩
  · rw [run_slice_h w 23 a n cap Tryz.underlying23 .i64 _ (by omega) (by omega), Int.toNat_natCast]
    simp [sizeOf, typeInfo, hj, hs, sliced]
  · rw [e]
    split
    · rfl
    · simp [Addr.add]
/-- a row of one's own, whole -/
theorem own_of_blk {w : World} {g n base e : Nat} {xs : List Value} (h : Blk w g e xs) (hn : xs.length = n) (hb : base ≤ g) (hm : n ≤ 140737488355328) : w.ownsRow base e 1 (.slice (some ⟨g, 0, none⟩) n n) n xs :=
  ⟨by omega, Or.inr ⟨g, n, xs.toArray, rfl, hb, h, Nat.le_refl _, by unfold maxLen; omega, by simp [hn], by simp [← hn]⟩⟩
theorem own_bytesAt {w : World} {base n : Nat} {v : Value} {l : List Nat} (h : w.ownsRow base 5 1 v n (l.map u8N)) (hl : l.length = n) (hn : 0 < n) (hb : ∀ i, l.getD i 0 < 256) :
    ∃ g c, v = .slice (some ⟨g, 0, none⟩) n c ∧ base ≤ g ∧ n ≤ c ∧ BytesAt w w.heap.size (some ⟨g, 0, none⟩) c l := by
  subst hl
  obtain ⟨g, c, rfl, hbg, hnc, hcm, hlt⟩ := own_some h hn
  refine ⟨g, c, rfl, hbg, hnc, Nat.le_refl _, hnc, by unfold maxLen at hcm; omega, hb, Or.inr ⟨g, 0, rfl, hlt, fun i hi => ?_⟩⟩
  rw [Nat.zero_add]
  exact own_cell h (u8_getD hi)
end Go.Proofs.YtohcoihdijemfaaGreat

/- The mathematics of a reader: what is left of its bytes, or nothing once it is not good; what rows and numbers come to, put and read. -/
namespace Go.Proofs.YtohcoihdijemfaaGreat
namespace Wi

/-- the number of bytes, the highest first -/
def wN (l : List Nat) : Nat := l.foldl (fun n b => n * 256 + b) 0
/-- a word as a number that may be below 0 -/
def toI (m : Nat) : Int := if m < 9223372036854775808 then (m : Int) else (m : Int) - 18446744073709551616
/-- a number as a word -/
def ofI (n : Int) : Nat := (n % 18446744073709551616).toNat
def encW (m : Nat) : List Nat := (List.range 8).map fun i => m / 2 ^ (8 * (7 - i)) % 256
def encN (n : Int) : List Nat := encW (ofI n)
theorem toI_ofI {n : Int} (h1 : -9223372036854775808 ≤ n) (h2 : n ≤ 9223372036854775807) : toI (ofI n) = n := by
  unfold toI ofI
  split <;> omega
theorem ofI_lt (n : Int) : ofI n < 18446744073709551616 := by unfold ofI; omega
theorem toI_range {m : Nat} (h : m < 18446744073709551616) : -9223372036854775808 ≤ toI m ∧ toI m ≤ 9223372036854775807 := by
  unfold toI
  split <;> omega
theorem ofI_toI {m : Nat} (h : m < 18446744073709551616) : ofI (toI m) = m := by
  unfold toI ofI
  split <;> omega
theorem encW_eq (m : Nat) : encW m = [m / 72057594037927936 % 256, m / 281474976710656 % 256, m / 1099511627776 % 256, m / 4294967296 % 256, m / 16777216 % 256, m / 65536 % 256, m / 256 % 256, m / 1 % 256] := rfl
theorem encW_length (m : Nat) : (encW m).length = 8 := by rw [encW_eq]; rfl
theorem encN_length (n : Int) : (encN n).length = 8 := encW_length _
theorem encW_byte (m i : Nat) : (encW m).getD i 0 < 256 := by
  rw [encW_eq]
  rcases i with _ | _ | _ | _ | _ | _ | _ | _ | i <;> simp <;> omega
theorem encN_byte (n : Int) (i : Nat) : (encN n).getD i 0 < 256 := encW_byte _ i
theorem wN_encW {m : Nat} (h : m < 18446744073709551616) : wN (encW m) = m := by
  rw [encW_eq]
  simp only [wN, List.foldl]
  omega
theorem wN_append (l : List Nat) (b : Nat) : wN (l ++ [b]) = wN l * 256 + b := by unfold wN; rw [List.foldl_append]; rfl
theorem wN_from (l : List Nat) (h : ∀ b ∈ l, b < 256) : ∀ n, l.foldl (fun n b => n * 256 + b) n < (n + 1) * 256 ^ l.length := by
  induction l with
  | nil => intro n; simp
  | cons b l ih =>
    intro n
    have h1 := ih (fun x hx => h x (List.mem_cons_of_mem _ hx)) (n * 256 + b)
    have h2 := h b (by simp)
    have h3 : (n * 256 + b + 1) * 256 ^ l.length ≤ ((n + 1) * 256) * 256 ^ l.length := Nat.mul_le_mul_right _ (by omega)
    rw [List.foldl_cons, List.length_cons, Nat.pow_succ, Nat.mul_comm (256 ^ l.length) 256, ← Nat.mul_assoc]
    omega
theorem wN_lt (l : List Nat) (h : ∀ b ∈ l, b < 256) : wN l < 256 ^ l.length := by
  have := wN_from l h 0
  unfold wN
  omega
theorem encW_wN {l : List Nat} (hl : l.length = 8) (h : ∀ b ∈ l, b < 256) : encW (wN l) = l := by
  rcases l with _ | ⟨a, _ | ⟨b, _ | ⟨c, _ | ⟨d, _ | ⟨e, _ | ⟨f, _ | ⟨g, _ | ⟨k, _ | _⟩⟩⟩⟩⟩⟩⟩⟩ <;> simp at hl
  have h1 := h a (by simp); have h2 := h b (by simp); have h3 := h c (by simp); have h4 := h d (by simp)
  have h5 := h e (by simp); have h6 := h f (by simp); have h7 := h g (by simp); have h8 := h k (by simp)
  rw [encW_eq]
  simp only [wN, List.foldl, List.cons.injEq, and_true]
  refine ⟨?_, ?_, ?_, ?_, ?_, ?_, ?_, ?_⟩ <;> omega

/-- what is left of a good reader's bytes -/
abbrev St := Option (List Nat)
def rdWord (k : Nat) (l : List Nat) : Option (Nat × List Nat) := if k ≤ l.length then some (wN (l.take k), l.drop k) else none
def rdCount (most : Int) (l : List Nat) : Option (Int × List Nat) :=
  if 8 ≤ l.length ∧ 0 ≤ toI (wN (l.take 8)) ∧ toI (wN (l.take 8)) ≤ most then some (toI (wN (l.take 8)), l.drop 8) else none
def rdBytes (most : Int) (l : List Nat) : Option (List Nat × List Nat) :=
  match rdCount most l with
  | none => none
  | some (n, r) => if n.toNat ≤ r.length then some (r.take n.toNat, r.drop n.toNat) else none
/-- what a call tells, and what is left behind it -/
def tells {α : Type} (z : α) (f : List Nat → Option (α × List Nat)) : St → α × St
  | none => (z, none)
  | some l => match f l with
    | none => (z, none)
    | some (x, r) => (x, some r)
def byteS : St → Nat × St := tells 0 (rdWord 1)
def numS : St → Nat × St := tells 0 (rdWord 8)
def countS (most : Int) : St → Int × St := tells 0 (rdCount most)
def bytesS (most : Int) : St → List Nat × St := tells [] (rdBytes most)

/-- rows are read, from the k-th on: nothing where one differs -/
def runRows : Nat → St → List (List Nat) → Option St
  | _, st, [] => some st
  | k, st, row :: rest => if (bytesS ((row.length : Int) + ((k % 3 : Nat) : Int)) st).1 = row then runRows (k + 1) (bytesS ((row.length : Int) + ((k % 3 : Nat) : Int)) st).2 rest else none
def runNums : St → List Int → Option St
  | st, [] => some st
  | st, n :: rest => if toI (numS st).1 = n then runNums (numS st).2 rest else none
def readsF (st : St) (rows : List (List Nat)) (nums : List Int) : Bool :=
  match runRows 0 st rows with
  | none => false
  | some st => match runNums st nums with
    | none => false
    | some st => decide (st = some [])
def encRows (rows : List (List Nat)) : List Nat := rows.flatMap fun r => encN (r.length : Int) ++ r
def encNums (nums : List Int) : List Nat := nums.flatMap encN

theorem take_app {α : Type} (a b : List α) (n : Nat) (h : a.length = n) : (a ++ b).take n = a := by rw [← h]; simp
theorem drop_app {α : Type} (a b : List α) (n : Nat) (h : a.length = n) : (a ++ b).drop n = b := by rw [← h]; simp
theorem bytes_put (row tl : List Nat) (k : Nat) (h : row.length < 9223372036854775808) : bytesS ((row.length : Int) + ((k % 3 : Nat) : Int)) (some (encN row.length ++ (row ++ tl))) = (row, some tl) := by
  have h1 : wN ((encN row.length ++ (row ++ tl)).take 8) = ofI row.length := by rw [take_app _ _ 8 (encN_length _)]; exact wN_encW (ofI_lt _)
  have h2 : toI (ofI row.length) = row.length := toI_ofI (by omega) (by omega)
  have h3 : rdCount ((row.length : Int) + ((k % 3 : Nat) : Int)) (encN row.length ++ (row ++ tl)) = some ((row.length : Int), row ++ tl) := by
    unfold rdCount
    rw [h1, h2, drop_app _ _ 8 (encN_length _), if_pos]
    refine ⟨by rw [List.length_append, encN_length]; omega, by omega, by omega⟩
  have h4 : rdBytes ((row.length : Int) + ((k % 3 : Nat) : Int)) (encN row.length ++ (row ++ tl)) = some (row, tl) := by
    unfold rdBytes
    rw [h3]
    simp only [Int.toNat_natCast]
    rw [if_pos (by rw [List.length_append]; omega), take_app _ _ _ rfl, drop_app _ _ _ rfl]
  unfold bytesS tells
  simp only [h4]
theorem num_put (n : Int) (tl : List Nat) (h1 : -9223372036854775808 ≤ n) (h2 : n ≤ 9223372036854775807) : toI (numS (some (encN n ++ tl))).1 = n ∧ (numS (some (encN n ++ tl))).2 = some tl := by
  have h : rdWord 8 (encN n ++ tl) = some (ofI n, tl) := by
    unfold rdWord
    rw [if_pos (by rw [List.length_append, encN_length]; omega), take_app _ _ 8 (encN_length _), drop_app _ _ 8 (encN_length _)]
    rw [show wN (encN n) = ofI n from wN_encW (ofI_lt _)]
  unfold numS tells
  simp only [h]
  exact ⟨toI_ofI h1 h2, trivial⟩
theorem runRows_put (rows : List (List Nat)) (tl : List Nat) (h : ∀ r ∈ rows, r.length < 9223372036854775808) : ∀ k, runRows k (some (encRows rows ++ tl)) rows = some (some tl) := by
  induction rows with
  | nil => intro k; rfl
  | cons row rest ih =>
    intro k
    have e : encRows (row :: rest) ++ tl = encN row.length ++ (row ++ (encRows rest ++ tl)) := by simp [encRows]
    unfold runRows
    rw [e, bytes_put _ _ _ (h row (by simp)), if_pos rfl]
    exact ih (fun r hr => h r (by simp [hr])) (k + 1)
theorem runNums_put (nums : List Int) (tl : List Nat) (h : ∀ n ∈ nums, -9223372036854775808 ≤ n ∧ n ≤ 9223372036854775807) : runNums (some (encNums nums ++ tl)) nums = some (some tl) := by
  induction nums with
  | nil => rfl
  | cons n rest ih =>
    have e : encNums (n :: rest) ++ tl = encN n ++ (encNums rest ++ tl) := by simp [encNums]
    obtain ⟨h1, h2⟩ := num_put n (encNums rest ++ tl) (h n (by simp)).1 (h n (by simp)).2
    unfold runNums
    rw [e, h1, h2, if_pos rfl]
    exact ih fun r hr => h r (by simp [hr])
theorem reads_put (rows : List (List Nat)) (nums : List Int) (h : ∀ r ∈ rows, r.length < 9223372036854775808) (h' : ∀ n ∈ nums, -9223372036854775808 ≤ n ∧ n ≤ 9223372036854775807) : readsF (some (encRows rows ++ encNums nums)) rows nums = true := by
  unfold readsF
  rw [runRows_put _ _ h]
  have := runNums_put nums [] h'
  rw [List.append_nil] at this
  simp [this]
/-- how many bytes it takes -/
def size (rows : List (List Nat)) : Nat := (rows.map fun r => 8 + r.length).sum
theorem bytes_some {most : Int} {st : St} {l : List Nat} (h : (bytesS most st).2 = some l) : ∃ l0, st = some l0 ∧ l0.length = 8 + (bytesS most st).1.length + l.length := by
  cases st with
  | none => cases h
  | some l0 =>
    refine ⟨l0, rfl, ?_⟩
    unfold bytesS tells at h ⊢
    cases hr : rdBytes most l0 with
    | none => simp only [hr] at h; cases h
    | some p =>
      obtain ⟨x, r⟩ := p
      simp only [hr, Option.some.injEq] at h ⊢
      subst h
      unfold rdBytes rdCount at hr
      split at hr
      · cases hr
      · rename_i n r' hc
        split at hc
        · rename_i h8
          cases hc
          split at hr
          · rename_i hle
            cases hr
            simp only [List.length_take, List.length_drop] at hle ⊢
            omega
          · cases hr
        · cases hc
theorem num_some {st : St} {l : List Nat} (h : (numS st).2 = some l) : ∃ l0, st = some l0 ∧ l0.length = 8 + l.length := by
  cases st with
  | none => cases h
  | some l0 =>
    refine ⟨l0, rfl, ?_⟩
    unfold numS tells rdWord at h
    by_cases h8 : 8 ≤ l0.length
    · simp only [if_pos h8, Option.some.injEq] at h
      subst h
      rw [List.length_drop]; omega
    · simp only [if_neg h8] at h; cases h
theorem runRows_some (rows : List (List Nat)) : ∀ (k : Nat) (st : St) (l : List Nat), runRows k st rows = some (some l) → ∃ l0, st = some l0 ∧ l0.length = size rows + l.length := by
  induction rows with
  | nil => intro k st l h; simp only [runRows, Option.some.injEq] at h; exact ⟨l, h, by simp [size]⟩
  | cons row rest ih =>
    intro k st l h
    unfold runRows at h
    split at h
    · rename_i hx
      obtain ⟨l1, h1, h2⟩ := ih _ _ _ h
      obtain ⟨l0, h3, h4⟩ := bytes_some h1
      refine ⟨l0, h3, ?_⟩
      rw [hx] at h4
      simp only [size, List.map_cons, List.sum_cons] at h2 ⊢
      omega
    · cases h
theorem runNums_some (nums : List Int) : ∀ (st : St) (l : List Nat), runNums st nums = some (some l) → ∃ l0, st = some l0 ∧ l0.length = 8 * nums.length + l.length := by
  induction nums with
  | nil => intro st l h; simp only [runNums, Option.some.injEq] at h; exact ⟨l, h, by simp⟩
  | cons n rest ih =>
    intro st l h
    unfold runNums at h
    split at h
    · obtain ⟨l1, h1, h2⟩ := ih _ _ h
      obtain ⟨l0, h3, h4⟩ := num_some h1
      refine ⟨l0, h3, ?_⟩
      simp only [List.length_cons]
      omega
    · cases h
theorem reads_length {l : List Nat} {rows : List (List Nat)} {nums : List Int} (h : readsF (some l) rows nums = true) : l.length = size rows + 8 * nums.length := by
  unfold readsF at h
  split at h
  · cases h
  · rename_i st hst
    split at h
    · cases h
    · rename_i st' hst'
      have h' : st' = some [] := of_decide_eq_true h
      subst h'
      obtain ⟨l1, h1, h2⟩ := runNums_some _ _ _ hst'
      subst h1
      obtain ⟨l0, h3, h4⟩ := runRows_some _ _ _ _ hst
      cases h3
      simp at h2
      omega
theorem encRows_length (rows : List (List Nat)) : (encRows rows).length = size rows := by
  unfold encRows size
  rw [List.length_flatMap]
  congr 1
  apply List.map_congr_left
  intro r _
  rw [List.length_append, encN_length]
theorem encNums_length (nums : List Int) : (encNums nums).length = 8 * nums.length := by
  induction nums with
  | nil => rfl
  | cons n rest ih =>
    have e : encNums (n :: rest) = encN n ++ encNums rest := by simp [encNums]
    rw [e, List.length_append, encN_length, ih, List.length_cons]; omega
theorem reads_other {l : List Nat} {rows : List (List Nat)} {nums : List Int} (h : l.length ≠ (encRows rows ++ encNums nums).length) : readsF (some l) rows nums = false := by
  cases hb : readsF (some l) rows nums with
  | false => rfl
  | true =>
    exact absurd (reads_length hb) (by rw [List.length_append, encRows_length, encNums_length] at h; exact h)
end Wi
end Go.Proofs.YtohcoihdijemfaaGreat

/- must and take: the next bytes, or a panic. -/
namespace Go.Proofs.YtohcoihdijemfaaGreat
open Go.RowKit Ow Wi

/-- a panic that is not recovered -/
def Dies (e : Ending) : Prop := ∃ u pv, e = .panicked [{ v := .iface u pv, recovered := false }]
theorem must_yes (w : World) : Calls Tryz.prog 140 #[.bool true] w fun e w' => e = .returned (.tuple #[]) ∧ w' = w := by
  go_enter Tryz.func140, Tryz.ntmps140
  go_wp2
  go_end0
  exact ⟨rfl, rfl⟩
theorem must_no (w : World) : Calls Tryz.prog 140 #[.bool false] w fun e w' => Dies e ∧ w' = w := by
  go_enter Tryz.func140, Tryz.ntmps140
  go_wp2
  exact ⟨rfl, ⟨_, _, rfl⟩, rfl⟩
theorem must_any (b : Bool) (w : World) : Calls Tryz.prog 140 #[.bool b] w fun e w' => (b = true ∧ e = .returned (.tuple #[]) ∨ b = false ∧ Dies e) ∧ w' = w := by
  cases b
  · exact (must_no w).mono fun e w' h => ⟨Or.inr ⟨rfl, h.1⟩, h.2⟩
  · exact (must_yes w).mono fun e w' h => ⟨Or.inl ⟨rfl, h.1⟩, h.2⟩

set_option maxRecDepth 100000 in
/-- x[lo:] of a reader's rest -/
theorem rest_from (a : Option Addr) (n cap lo : Nat) (h : lo ≤ n) :
    ∃ a', (∀ w, (Instr.slice 89 (.slice a n cap) (some (.int .i64 (lo : Int))) none none).run Tryz.prog w = .ok (.slice a' (n - lo) (cap - lo)) w) ∧ (lo < cap → ∀ pb po, a = some ⟨pb, po, none⟩ → a' = some ⟨pb, po + lo, none⟩) := by
  obtain ⟨j, hj, hs⟩ : ∃ j, Tryz.prog.info? (Tryz.prog.elem 89) = some j ∧ j.size = 1 := by
    have h1 : (Tryz.prog.info? (Tryz.prog.elem 89)).map (·.size) = some 1 := by kernel_rfl
    cases hq : Tryz.prog.info? (Tryz.prog.elem 89) with
    | none => rw [hq] at h1; cases h1
    | some j => rw [hq] at h1; exact ⟨j, rfl, by simpa using h1⟩
  refine ⟨if cap = lo then a else a.map (·.add lo), fun w => ?_, ?_⟩
  · rw [run_slice_l w 89 a n cap Tryz.underlying89 .i64 _ (by omega) (by omega), Int.toNat_natCast]
    simp [sizeOf, typeInfo, hj, hs, sliced]
  · intro hlt pb po e
    rw [if_neg (by omega), e]
    simp [Addr.add]
set_option maxRecDepth 100000 in
/-- x[:k] of a reader's rest -/
theorem rest_to (a : Option Addr) (n cap k : Nat) (h : k ≤ cap) :
    ∃ a', (∀ w, (Instr.slice 89 (.slice a n cap) none (some (.int .i64 (k : Int))) none).run Tryz.prog w = .ok (.slice a' k cap) w) ∧ (∀ pb po, a = some ⟨pb, po, none⟩ → a' = some ⟨pb, po, none⟩) := by
  obtain ⟨j, hj, hs⟩ : ∃ j, Tryz.prog.info? (Tryz.prog.elem 89) = some j ∧ j.size = 1 := by
    have h1 : (Tryz.prog.info? (Tryz.prog.elem 89)).map (·.size) = some 1 := by kernel_rfl
    cases hq : Tryz.prog.info? (Tryz.prog.elem 89) with
    | none => rw [hq] at h1; cases h1
    | some j => rw [hq] at h1; exact ⟨j, rfl, by simpa using h1⟩
  refine ⟨if cap = 0 then a else a.map (·.add 0), fun w => ?_, fun pb po e => ?_⟩
  · rw [run_slice_h w 89 a n cap Tryz.underlying89 .i64 _ (by omega) (by omega), Int.toNat_natCast]
    simp [sizeOf, typeInfo, hj, hs, sliced]
  · subst e
    split
    · rfl
    · simp [Addr.add]

/-- as many bytes as are asked for -/
theorem take_yes (rb k n cap : Nat) (a : Option Addr) (g : Value) (w : World) (hb : Blk w rb 91 [.slice a n cap, g]) (hk : k ≤ n) (hn : n ≤ cap) :
    Calls Tryz.prog 100 #[.pointer (some ⟨rb, 0, none⟩), .int .i64 k] w fun e w' => ∃ a1 a2, e = .returned (.slice a1 k cap) ∧ w' = w.setCell ⟨rb, 0, none⟩ (.slice a2 (n - k) (cap - k)) ∧
      (∀ pb po, a = some ⟨pb, po, none⟩ → a1 = some ⟨pb, po, none⟩) ∧ (k < cap → ∀ pb po, a = some ⟨pb, po, none⟩ → a2 = some ⟨pb, po + k, none⟩) := by
  obtain ⟨a1, h1, e1⟩ := rest_to a n cap k (by omega)
  obtain ⟨a2, h2, e2⟩ := rest_from a n cap k hk
  have c0 := hb.cell (i := 0) rfl
  have f0 := hb.free 0
  have hle : ((k : Int) ≤ (n : Int)) := by omega
  go_enter Tryz.func100, Tryz.ntmps100
  go_wp2_with (fail)
  refine (must_yes w).mono ?_
  rintro e w' ⟨rfl, rfl⟩
  go_wp2
  go_ret
  exact ⟨a1, a2, rfl, rfl, e1, e2⟩
theorem take_no (rb k n cap : Nat) (a : Option Addr) (g : Value) (w : World) (hb : Blk w rb 91 [.slice a n cap, g]) (hk : n < k) :
    Calls Tryz.prog 100 #[.pointer (some ⟨rb, 0, none⟩), .int .i64 k] w fun e w' => Dies e ∧ w' = w := by
  have c0 := hb.cell (i := 0) rfl
  have hle : ¬ ((k : Int) ≤ (n : Int)) := by omega
  go_enter Tryz.func100, Tryz.ntmps100
  go_wp2_with (fail)
  refine (must_no w).mono ?_
  rintro e w' ⟨⟨u, pv, rfl⟩, rfl⟩
  exact ⟨rfl, ⟨u, pv, rfl⟩, rfl⟩
end Go.Proofs.YtohcoihdijemfaaGreat

/- word and count: a number off a reader's rest, or a panic. -/
namespace Go.Proofs.YtohcoihdijemfaaGreat
open Go.RowKit Ow Wi

/-- bytes that lie elsewhere stay -/
theorem Ow.BytesAt.apart {w w' : World} {B cap rb : Nat} {a : Option Addr} {l : List Nat} (h : BytesAt w B a cap l) (hg : w.grownBy w' (some rb)) (hne : l.length = 0 ∨ ∀ pb po, a = some ⟨pb, po, none⟩ → pb ≠ rb) : BytesAt w' B a cap l := by
  refine ⟨Nat.le_trans h.lim hg.size, h.fits, h.top, h.byte, ?_⟩
  rcases hne with h0 | hne
  · exact Or.inl h0
  rcases h.cells with h0 | ⟨pb, po, ha, hlt, hc⟩
  · exact Or.inl h0
  · exact Or.inr ⟨pb, po, ha, hlt, fun i hi => by rw [gb_cell hg (p := ⟨pb, po + i, none⟩) (Nat.lt_of_lt_of_le hlt h.lim) (fun e => hne pb po ha (by simpa using e))]; exact hc i hi⟩
theorem Ow.BytesAt.full {w : World} {B cap : Nat} {a : Option Addr} {l : List Nat} (h : BytesAt w B a cap l) : BytesAt w w.heap.size a cap l := h.up h.lim (Nat.le_refl _)
/-- bytes in a block that is elder than block rb -/
def BytesOff (w : World) (rb : Nat) (a : Option Addr) (cap : Nat) (l : List Nat) : Prop := BytesAt w w.heap.size a cap l ∧ (l.length = 0 ∨ ∀ pb po, a = some ⟨pb, po, none⟩ → pb < rb)
theorem BytesOff.stay {w w' : World} {rb cap : Nat} {a : Option Addr} {l : List Nat} (h : BytesOff w rb a cap l) (hg : w.grownBy w' (some rb)) : BytesOff w' rb a cap l :=
  ⟨(h.1.apart hg (h.2.imp id fun f pb po e => Nat.ne_of_lt (f pb po e))).full, h.2⟩
theorem BytesOff.beside {w w' : World} {rb cap T : Nat} {a : Option Addr} {l : List Nat} (h : BytesOff w rb a cap l) (hg : w.grownBy w' (some T)) (hT : rb < T) : BytesOff w' rb a cap l :=
  ⟨(h.1.apart hg (h.2.imp id fun f pb po e => by have := f pb po e; omega)).full, h.2⟩
/-- a reader's block with what is left, whatever its good is -/
def RdB (w : World) (rb : Nat) (g : Value) (l : List Nat) : Prop :=
  ∃ a n cap, Blk w rb 91 [.slice a n cap, g] ∧ l.length = n ∧ BytesOff w rb a cap l
theorem RdB.stay {w w' : World} {rb : Nat} {g : Value} {l : List Nat} (h : RdB w rb g l) (hg : w.grownBy w' none) : RdB w' rb g l := by
  obtain ⟨a, n, cap, hb, hl, hP⟩ := h
  exact ⟨a, n, cap, hb.grown hg (by simp), hl, hP.stay (gb_row hg _)⟩
theorem RdB.beside {w w' : World} {rb T : Nat} {g : Value} {l : List Nat} (h : RdB w rb g l) (hg : w.grownBy w' (some T)) (hT : rb < T) : RdB w' rb g l := by
  obtain ⟨a, n, cap, hb, hl, hP⟩ := h
  exact ⟨a, n, cap, hb.grown hg (by simp; omega), hl, hP.beside hg hT⟩
theorem take_rd (rb : Nat) (g : Value) (l : List Nat) (k : Nat) (w : World) (h : RdB w rb g l) (hk : k ≤ l.length) :
    Calls Tryz.prog 100 #[.pointer (some ⟨rb, 0, none⟩), .int .i64 k] w fun e w' => ∃ a1 c1, e = .returned (.slice a1 k c1) ∧ w.grownBy w' (some rb) ∧ RdB w' rb g (l.drop k) ∧ BytesOff w' rb a1 c1 (l.take k) := by
  obtain ⟨a, n, cap, hb, hl, hP, hne⟩ := h
  have hf := hP.fits
  refine (take_yes rb k n cap a g w hb (by omega) (by omega)).mono ?_
  rintro e w' ⟨a1, a2, rfl, rfl, e1, e2⟩
  have hg : w.grownBy (w.setCell ⟨rb, 0, none⟩ (.slice a2 (n - k) (cap - k))) (some rb) := gb_set (gb_refl _ _) _ _
  refine ⟨a1, cap, rfl, hg, ⟨a2, n - k, cap - k, hb.set 0 _, by rw [List.length_drop]; omega, BytesOff.stay ⟨bytes_drop hP e2, ?_⟩ hg⟩, BytesOff.stay ⟨bytes_take hP e1, ?_⟩ hg⟩
  · rcases hP.cells with h0 | ⟨pb, po, ha, _, _⟩
    · left; rw [List.length_drop]; omega
    · rcases hne with h0 | hne
      · left; rw [List.length_drop]; omega
      · rcases Nat.lt_or_ge k cap with h | h
        · right
          intro pb' po' hq
          rw [e2 h pb po ha] at hq
          cases hq
          exact hne pb po ha
        · left; rw [List.length_drop]; omega
  · rcases hP.cells with h0 | ⟨pb, po, ha, _, _⟩
    · left; rw [List.length_take]; omega
    · rcases hne with h0 | hne
      · left; rw [List.length_take]; omega
      · right
        intro pb' po' hq
        rw [e1 pb po ha] at hq
        cases hq
        exact hne pb po ha
theorem take_bad (rb : Nat) (g : Value) (l : List Nat) (k : Nat) (w : World) (h : RdB w rb g l) (hk : l.length < k) :
    Calls Tryz.prog 100 #[.pointer (some ⟨rb, 0, none⟩), .int .i64 k] w fun e w' => Dies e ∧ w' = w := by
  obtain ⟨a, n, cap, hb, hl, hP, hne⟩ := h
  exact take_no rb k n cap a g w hb (by omega)

theorem wN_le (l : List Nat) (k : Nat) (h : ∀ i, l.getD i 0 < 256) (hk : k ≤ 7) : wN (l.take k) < 72057594037927936 := by
  have h1 := wN_lt (l.take k) (fun b hb => by
    obtain ⟨i, hi, rfl⟩ := List.getElem_of_mem (List.mem_of_mem_take hb)
    have := h i
    rwa [List.getD_eq_getElem?_getD, List.getElem?_eq_getElem hi] at this)
  have h2 : 256 ^ (l.take k).length ≤ 256 ^ 7 := Nat.pow_le_pow_right (by decide) (by rw [List.length_take]; omega)
  have h3 : (256 : Nat) ^ 7 = 72057594037927936 := by decide
  omega
theorem wN_next (l : List Nat) (k : Nat) (hk : k < l.length) : wN (l.take (k + 1)) = wN (l.take k) * 256 + l.getD k 0 := by
  rw [List.take_succ_eq_append_getElem hk, wN_append, List.getD_eq_getElem?_getD, List.getElem?_eq_getElem hk]
  rfl
theorem wN_bits (n b : Nat) (hn : n < 72057594037927936) (hb : b < 256) : bits .or .u64 ((n : Int) * 256) (b : Int) = ((n * 256 + b : Nat) : Int) := by
  have e1 : (n : Int) * 256 = ((2 ^ 8 * n : Nat) : Int) := by omega
  rw [e1, u64_or_nat _ _ (by omega) (by omega), ← Nat.two_pow_add_eq_or_of_lt (by omega)]
  omega
set_option maxHeartbeats 800000 in
theorem word_yes (rb : Nat) (g : Value) (l : List Nat) (k : Nat) (w : World) (h : RdB w rb g l) (hk : k ≤ l.length) (h8 : k ≤ 8) :
    Calls Tryz.prog 57 #[.pointer (some ⟨rb, 0, none⟩), .int .i64 k] w fun e w' => e = .returned (.int .u64 (wN (l.take k))) ∧ w.grownBy w' (some rb) ∧ RdB w' rb g (l.drop k) := by
  have HT := Lib.hid (take_rd rb g l k w h hk)
  clear h
  go_enter Tryz.func57, Tryz.ntmps57
  go_wp2_with (fail)
  refine HT.out.mono ?_
  rintro e w1 ⟨a1, c1, rfl, hg, hr, hP, _⟩
  have hlen : (l.take k).length = k := by rw [List.length_take]; omega
  have hfit := hP.fits
  have htop := hP.top
  rw [hlen] at hfit
  have H := Lib.hid (And.intro hg hr); clear hg hr
  have HP := Lib.hid hP; clear hP
  go_wp2
  go_loopw [5, 14] (fun v i wr => ∃ j q : Nat, j ≤ k ∧ i = .int .i64 j ∧ v = .int .u64 (wN (l.take j)) ∧ wr = w1.drewN q) (fun _ i _ => k - (intOf i).toNat)
  case atStart => exact ⟨0, 0, by omega, rfl, rfl, rfl⟩
  case round =>
    obtain ⟨j, q, hj, rfl, rfl, rfl⟩ := hrel
    by_cases hlt : j < k
    · obtain ⟨pb, po, rfl, _, hc⟩ := HP.out.cells.resolve_left (by rw [hlen]; omega)
      have k1 := hc j (by rw [hlen]; exact hlt)
      rw [getD_take _ _ _ hlt] at k1
      unfold u8N at k1
      clear hc
      have i0 : (j : Int) < (k : Int) := by omega
      have hb : (l.take k).getD j 0 < 256 := HP.out.byte j
      rw [getD_take _ _ _ hlt] at hb
      have hw : wN (l.take j) < 72057594037927936 := by
        have := wN_le (l.take k) j HP.out.byte (by omega)
        rwa [List.take_take, Nat.min_eq_left (by omega)] at this
      have HB := Lib.hid (wN_bits _ _ hw hb)
      have HN := Lib.hid (wN_next l j (by omega))
      generalize wN (l.take j) = n at *
      generalize l.getD j 0 = b at *
      have hbits := HB.out
      go_wp2_with fail
      exact ⟨⟨j + 1, q, by omega, rfl, by rw [HN.out, Int.natCast_add, Int.natCast_mul]; rfl, rfl⟩, by show k - ((j : Int) + 1).toNat < k - (j : Int).toNat; omega⟩
    · obtain rfl : j = k := by omega
      clear hlt
      go_wp2
      go_ret
      exact ⟨rfl, gb_drewN H.out.1 q, H.out.2.stay (gb_drewN (gb_refl _ _) q)⟩
theorem word_no (rb : Nat) (g : Value) (l : List Nat) (k : Nat) (w : World) (h : RdB w rb g l) (hk : l.length < k) :
    Calls Tryz.prog 57 #[.pointer (some ⟨rb, 0, none⟩), .int .i64 k] w fun e w' => Dies e ∧ w' = w := by
  have HT := Lib.hid (take_bad rb g l k w h hk)
  clear h
  go_enter Tryz.func57, Tryz.ntmps57
  go_wp2_with (fail)
  refine HT.out.mono ?_
  rintro e w' ⟨⟨u, pv, rfl⟩, rfl⟩
  exact ⟨rfl, ⟨u, pv, rfl⟩, rfl⟩

theorem conv_yes (m : Nat) (h : m < 18446744073709551616) : IntKind.i64.wrap (m : Int) = toI m := by
  rw [IntKind.wrap_i64]
  unfold toI
  split <;> omega
theorem wN_word (l : List Nat) (h : ∀ i, l.getD i 0 < 256) (k : Nat) (hk : k ≤ 8) : wN (l.take k) < 18446744073709551616 := by
  have h1 := wN_lt (l.take k) (fun b hb => by
    obtain ⟨i, hi, rfl⟩ := List.getElem_of_mem (List.mem_of_mem_take hb)
    have := h i
    rwa [List.getD_eq_getElem?_getD, List.getElem?_eq_getElem hi] at this)
  have h2 : 256 ^ (l.take k).length ≤ 256 ^ 8 := Nat.pow_le_pow_right (by decide) (by rw [List.length_take]; omega)
  have h3 : (256 : Nat) ^ 8 = 18446744073709551616 := by decide
  omega
theorem RdB.byte {w : World} {rb : Nat} {g : Value} {l : List Nat} (h : RdB w rb g l) : ∀ i, l.getD i 0 < 256 := by
  obtain ⟨_, _, _, _, _, hP, _⟩ := h
  exact hP.byte
/-- a number from 0 to most -/
theorem count_yes (rb : Nat) (g : Value) (l : List Nat) (most : Int) (w : World) (h : RdB w rb g l) (hk : 8 ≤ l.length) (h0 : 0 ≤ toI (wN (l.take 8))) (h1 : toI (wN (l.take 8)) ≤ most) :
    Calls Tryz.prog 97 #[.pointer (some ⟨rb, 0, none⟩), .int .i64 most] w fun e w' => e = .returned (.int .i64 (toI (wN (l.take 8)))) ∧ w.grownBy w' (some rb) ∧ RdB w' rb g (l.drop 8) := by
  have HT := Lib.hid (word_yes rb g l 8 w h hk (by decide))
  have hc := conv_yes _ (wN_word l h.byte 8 (by decide))
  clear h
  go_enter Tryz.func97, Tryz.ntmps97
  go_wp2_with (fail)
  refine HT.out.mono ?_
  rintro e w1 ⟨rfl, hg, hr⟩
  have H := Lib.hid (And.intro hg hr); clear hg hr
  obtain ⟨t, ht⟩ : ∃ t, t = toI (wN (l.take 8)) := ⟨_, rfl⟩
  rw [← ht] at h0 h1 hc
  have HTT := Lib.hid ht; clear ht
  go_wp2_with (fail)
  refine (must_yes w1).mono ?_
  rintro e w' ⟨rfl, rfl⟩
  go_wp2
  go_ret
  exact ⟨congrArg (fun z => Ending.returned (.int .i64 z)) HTT.out, H.out⟩
/-- .. and no such number -/
theorem count_no (rb : Nat) (g : Value) (l : List Nat) (most : Int) (w : World) (h : RdB w rb g l) (hn : ¬ (8 ≤ l.length ∧ 0 ≤ toI (wN (l.take 8)) ∧ toI (wN (l.take 8)) ≤ most)) :
    Calls Tryz.prog 97 #[.pointer (some ⟨rb, 0, none⟩), .int .i64 most] w fun e w' => Dies e ∧ w.grownBy w' (some rb) ∧ ∃ l', RdB w' rb g l' := by
  by_cases h8 : 8 ≤ l.length
  · have HT := Lib.hid (word_yes rb g l 8 w h h8 (by decide))
    have hc := conv_yes _ (wN_word l h.byte 8 (by decide))
    clear h
    have hn' : 0 ≤ toI (wN (l.take 8)) → ¬ toI (wN (l.take 8)) ≤ most := fun a b => hn ⟨h8, a, b⟩
    clear hn
    go_enter Tryz.func97, Tryz.ntmps97
    go_wp2_with (fail)
    refine HT.out.mono ?_
    rintro e w1 ⟨rfl, hg, hr⟩
    have H := Lib.hid (And.intro hg hr); clear hg hr
    generalize toI (wN (l.take 8)) = t at *
    generalize wN (l.take 8) = m at *
    by_cases h0 : 0 ≤ t
    · have h1 := hn' h0
      clear hn'
      go_wp2_with (fail)
      rw [decide_eq_false (show ¬ t ≤ most by omega)]
      refine (must_no w1).mono ?_
      rintro e w' ⟨⟨u, pv, rfl⟩, rfl⟩
      exact ⟨rfl, ⟨u, pv, rfl⟩, H.out.1, _, H.out.2⟩
    · clear hn'
      go_wp2_with (fail)
      refine (must_no w1).mono ?_
      rintro e w' ⟨⟨u, pv, rfl⟩, rfl⟩
      exact ⟨rfl, ⟨u, pv, rfl⟩, H.out.1, _, H.out.2⟩
  · have HT := Lib.hid (word_no rb g l 8 w h (by omega))
    have HH := Lib.hid h
    clear h hn
    go_enter Tryz.func97, Tryz.ntmps97
    go_wp2_with (fail)
    refine HT.out.mono ?_
    rintro e w' ⟨⟨u, pv, rfl⟩, rfl⟩
    exact ⟨rfl, ⟨u, pv, rfl⟩, gb_refl _ _, _, HH.out⟩
end Go.Proofs.YtohcoihdijemfaaGreat

/- Good, and a call that is tried: what it tells, or that its panic is recovered and the reader is none. -/
namespace Go.Proofs.YtohcoihdijemfaaGreat
open Go.RowKit Ow Wi

/-- the pointer to itself -/
def gP (rb : Nat) : Value := .pointer (some ⟨rb, 0, none⟩)
theorem weql_self (a : Addr) (w : World) : (binOp .eql 34 (.pointer (some a)) (.pointer (some a))).run Tryz.prog w = .ok (.bool true) w := by
  obtain ⟨j, hj⟩ : ∃ j, Tryz.prog.info? 91 = some j := by
    have h1 : (Tryz.prog.info? 91).isSome = true := by kernel_rfl
    exact Option.isSome_iff_exists.1 h1
  exact run_eql_ptr_same w a Tryz.underlying34 hj
theorem weql_none (a : Addr) (w : World) : (binOp .eql 34 (.pointer none) (.pointer (some a))).run Tryz.prog w = .ok (.bool false) w := by
  have h : ∀ d : Nat, (Op.equalIn (d + 1) 34 (.pointer none) (.pointer (some a))).run Tryz.prog w = .ok false w := fun d => by
    simp [Op.equalIn, run_underlying Tryz.underlying34]
  simp only [binOp]
  simp [Op.equal, Op.maxDepth, h 9999]
theorem wgood_nil (w : World) : Calls Tryz.prog 22 #[.pointer none] w fun e w' => e = .returned (.bool false) ∧ w' = w := by
  go_enter Tryz.func22, Tryz.ntmps22
  go_wp2
  go_ret
  exact ⟨rfl, rfl⟩
theorem wgood_yes (rb : Nat) (s : Value) (w : World) (hb : Blk w rb 91 [s, gP rb]) :
    Calls Tryz.prog 22 #[.pointer (some ⟨rb, 0, none⟩)] w fun e w' => e = .returned (.bool true) ∧ w' = w := by
  have c1 := hb.cell (i := 1) rfl
  unfold gP at c1
  have he := weql_self ⟨rb, 0, none⟩ w
  go_enter Tryz.func22, Tryz.ntmps22
  go_wp2
  go_ret
  exact ⟨rfl, rfl⟩
theorem wgood_no (rb : Nat) (s : Value) (w : World) (hb : Blk w rb 91 [s, .pointer none]) :
    Calls Tryz.prog 22 #[.pointer (some ⟨rb, 0, none⟩)] w fun e w' => e = .returned (.bool false) ∧ w' = w := by
  have c1 := hb.cell (i := 1) rfl
  have he := weql_none ⟨rb, 0, none⟩ w
  go_enter Tryz.func22, Tryz.ntmps22
  go_wp2
  go_ret
  exact ⟨rfl, rfl⟩
/-- a reader that is none any more -/
def RdN (w : World) (rb : Nat) : Prop := Blk w rb 91 [.slice none 0 0, .pointer none]
end Go.Proofs.YtohcoihdijemfaaGreat

/- The three instances of a call that is tried. -/
namespace Go.Proofs.YtohcoihdijemfaaGreat
open Go.RowKit Ow Wi
theorem makeF : ∀ (fn : Fn) (first cap : Array Value) (w : World), (Instr.makeFunc fn first cap).run Tryz.prog w = .ok (.func fn first cap) w := fun _ _ _ _ => rfl

/-- what the deferred call does behind a panic -/
theorem caughtU (p : Addr) (rb : Nat) (s g : Value) (u : TypeId) (pv : Value) (older : List PanicEntry) (w : World) (hp : w.cell? p = some (.pointer (some ⟨rb, 0, none⟩))) (hb : Blk w rb 91 [s, g]) :
    CallsD Tryz.prog 99 #[.pointer (some p)] (.panicking ({ v := .iface u pv, recovered := false } :: older)) w fun e u' w' =>
      e = .returned (.tuple #[]) ∧ u' = .panicking ({ v := .iface u pv, recovered := true } :: older) ∧ w.grownBy w' (some rb) ∧ RdN w' rb := by
  have c0 := hb.cell (i := 0) rfl
  have c1 := hb.cell (i := 1) rfl
  have f0 := hb.free 0
  have f1 := hb.free 1
  refine callsD_of_wpS Tryz.func99 rfl fun c₀ cs hu => ?_
  apply wpS_seq
  apply wpS_region
  simp [wpOpsS, go_sem, recoverD, hu, Tryz.ntmps99, Exit.thenS]
  refine wpS_cond (t := true) (by simp [Act.eval, Array.replicate]) ?_
  simp only [if_true]
  refine wpS_of_wp ?_
  go_wp2
  exact ⟨rfl, _, rfl, .tuple #[], results_none rfl _ _ _, rfl, rfl, gb_set (gb_set (gb_refl _ _) 0 _) 1 _, (hb.set 0 _).set 1 _⟩
theorem idleU (p : Addr) (w : World) :
    CallsD Tryz.prog 99 #[.pointer (some p)] .returning w fun e u' w' => e = .returned (.tuple #[]) ∧ u' = .returning ∧ w' = w := by
  refine callsD_of_wpS Tryz.func99 rfl fun c₀ cs hu => ?_
  apply wpS_seq
  apply wpS_region
  simp [wpOpsS, go_sem, recoverD, hu, Tryz.ntmps99, Exit.thenS]
  refine wpS_cond (t := false) (by simp [Act.eval, Array.replicate]) ?_
  simp only [Bool.false_eq_true, if_false]
  refine wpS_of_wp (wp_skip ?_)
  cases c₀
  simp_all [bodyPostS, results, Tryz.results99]
theorem tryU_bad (p : Option Addr) (n : Int) (f : Value) (w : World) (hg : ∀ w1, w.grownBy w1 none → Calls Tryz.prog 22 #[.pointer p] w1 fun e w' => e = .returned (.bool false) ∧ w' = w1) :
    Calls Tryz.prog 56 #[.pointer p, f, .int .i64 n] w fun e w' => e = .returned (.int .u64 0) ∧ w.grownBy w' none := by
  have HG := Lib.hid (hg _ (gb_alloc (gb_refl w none) (.cells #[.pointer p] 34))); clear hg
  go_enter_defers Tryz.func56, Tryz.ntmps56
  go_wp2_with (fail)
  refine HG.out.mono ?_
  rintro e w' ⟨rfl, rfl⟩
  go_wp2
  simp [bodyPostD, Leaves, results, Tryz.results56, go_sem]
  exact gb_alloc (gb_refl w none) _
theorem tryU_yes (rb : Nat) (n : Int) (s : Value) (w : World) (Q : Value → World → Prop) (hb : Blk w rb 91 [s, gP rb])
    (hin : Calls Tryz.prog 57 #[.pointer (some ⟨rb, 0, none⟩), .int .i64 n] (w.alloc (.cells #[.pointer (some ⟨rb, 0, none⟩)] 34)) fun e w' => ∃ x, e = .returned x ∧ Q x w') :
    Calls Tryz.prog 56 #[.pointer (some ⟨rb, 0, none⟩), .func (.func 57) #[.pointer (some ⟨rb, 0, none⟩)] #[], .int .i64 n] w fun e w' => ∃ x, e = .returned x ∧ Q x w' := by
  have HG := Lib.hid (wgood_yes rb s _ (hb.alloc (.cells #[.pointer (some ⟨rb, 0, none⟩)] 34)))
  have HI := Lib.hid hin; clear hin hb
  have hmf := makeF
  go_enter_defers Tryz.func56, Tryz.ntmps56
  go_wp2_with (fail)
  refine HG.out.mono ?_
  rintro e w' ⟨rfl, rfl⟩
  go_wp2_with (fail)
  refine HI.out.mono ?_
  rintro e w2 ⟨x, rfl, hq⟩
  have HQ := Lib.hid hq; clear hq
  go_wp2_with (fail)
  refine leaves_cons (f := 99) (args := #[.pointer (some ⟨w.heap.size, 0, none⟩)]) (by simp) (by simp [go_sem]) ?_
  refine (idleU _ _).mono ?_
  rintro e u' w'' ⟨rfl, rfl, rfl⟩
  simp [Leaves, settle, results, Tryz.results56, go_sem]
  exact HQ.out
theorem tryU_no (rb : Nat) (n : Int) (s : Value) (w : World) (hb : Blk w rb 91 [s, gP rb])
    (hin : Calls Tryz.prog 57 #[.pointer (some ⟨rb, 0, none⟩), .int .i64 n] (w.alloc (.cells #[.pointer (some ⟨rb, 0, none⟩)] 34)) fun e w' => Dies e ∧ (w.alloc (.cells #[.pointer (some ⟨rb, 0, none⟩)] 34)).grownBy w' (some rb) ∧ ∃ l, RdB w' rb (gP rb) l) :
    Calls Tryz.prog 56 #[.pointer (some ⟨rb, 0, none⟩), .func (.func 57) #[.pointer (some ⟨rb, 0, none⟩)] #[], .int .i64 n] w fun e w' => e = .returned (.int .u64 0) ∧ w.grownBy w' (some rb) ∧ RdN w' rb := by
  have HG := Lib.hid (wgood_yes rb s _ (hb.alloc (.cells #[.pointer (some ⟨rb, 0, none⟩)] 34)))
  have HL := Lib.hid hb.lt
  have HI := Lib.hid hin; clear hin hb
  have hmf := makeF
  go_enter_defers Tryz.func56, Tryz.ntmps56
  go_wp2_with (fail)
  refine HG.out.mono ?_
  rintro e w' ⟨rfl, rfl⟩
  go_wp2_with (fail)
  refine HI.out.mono ?_
  rintro e w2 ⟨⟨u, pv, rfl⟩, hg, l, a, m, cap, hb2, _⟩
  have hlt := HL.out
  have hbox : w2.cell? ⟨w.heap.size, 0, none⟩ = some (.pointer (some ⟨rb, 0, none⟩)) := ((Blk.new w [.pointer (some ⟨rb, 0, none⟩)] 34).grown hg (by intro h; cases h; omega)).cell (i := 0) rfl
  have HQ := Lib.hid hg; clear hg
  refine leaves_cons (f := 99) (args := #[.pointer (some ⟨w.heap.size, 0, none⟩)]) (by simp) (by simp [go_sem]) ?_
  refine (caughtU ⟨w.heap.size, 0, none⟩ rb _ _ u pv [] w2 hbox hb2).mono ?_
  rintro e u' w'' ⟨rfl, rfl, hg3, hn⟩
  simp [Leaves, settle, results, Tryz.results56, go_sem]
  exact ⟨gb_trans (gb_trans (gb_alloc (gb_refl w _) _) HQ.out) hg3, hn⟩

/-- what the deferred call does behind a panic -/
theorem caughtB (p : Addr) (rb : Nat) (s g : Value) (u : TypeId) (pv : Value) (older : List PanicEntry) (w : World) (hp : w.cell? p = some (.pointer (some ⟨rb, 0, none⟩))) (hb : Blk w rb 91 [s, g]) :
    CallsD Tryz.prog 109 #[.pointer (some p)] (.panicking ({ v := .iface u pv, recovered := false } :: older)) w fun e u' w' =>
      e = .returned (.tuple #[]) ∧ u' = .panicking ({ v := .iface u pv, recovered := true } :: older) ∧ w.grownBy w' (some rb) ∧ RdN w' rb := by
  have c0 := hb.cell (i := 0) rfl
  have c1 := hb.cell (i := 1) rfl
  have f0 := hb.free 0
  have f1 := hb.free 1
  refine callsD_of_wpS Tryz.func109 rfl fun c₀ cs hu => ?_
  apply wpS_seq
  apply wpS_region
  simp [wpOpsS, go_sem, recoverD, hu, Tryz.ntmps109, Exit.thenS]
  refine wpS_cond (t := true) (by simp [Act.eval, Array.replicate]) ?_
  simp only [if_true]
  refine wpS_of_wp ?_
  go_wp2
  exact ⟨rfl, _, rfl, .tuple #[], results_none rfl _ _ _, rfl, rfl, gb_set (gb_set (gb_refl _ _) 0 _) 1 _, (hb.set 0 _).set 1 _⟩
theorem idleB (p : Addr) (w : World) :
    CallsD Tryz.prog 109 #[.pointer (some p)] .returning w fun e u' w' => e = .returned (.tuple #[]) ∧ u' = .returning ∧ w' = w := by
  refine callsD_of_wpS Tryz.func109 rfl fun c₀ cs hu => ?_
  apply wpS_seq
  apply wpS_region
  simp [wpOpsS, go_sem, recoverD, hu, Tryz.ntmps109, Exit.thenS]
  refine wpS_cond (t := false) (by simp [Act.eval, Array.replicate]) ?_
  simp only [Bool.false_eq_true, if_false]
  refine wpS_of_wp (wp_skip ?_)
  cases c₀
  simp_all [bodyPostS, results, Tryz.results109]
theorem tryB_bad (p : Option Addr) (n : Int) (f : Value) (w : World) (hg : ∀ w1, w.grownBy w1 none → Calls Tryz.prog 22 #[.pointer p] w1 fun e w' => e = .returned (.bool false) ∧ w' = w1) :
    Calls Tryz.prog 67 #[.pointer p, f, .int .i64 n] w fun e w' => e = .returned (.slice none 0 0) ∧ w.grownBy w' none := by
  have HG := Lib.hid (hg _ (gb_alloc (gb_refl w none) (.cells #[.pointer p] 34))); clear hg
  go_enter_defers Tryz.func67, Tryz.ntmps67
  go_wp2_with (fail)
  refine HG.out.mono ?_
  rintro e w' ⟨rfl, rfl⟩
  go_wp2
  simp [bodyPostD, Leaves, results, Tryz.results67, go_sem]
  exact gb_alloc (gb_refl w none) _
theorem tryB_yes (rb : Nat) (n : Int) (s : Value) (w : World) (Q : Value → World → Prop) (hb : Blk w rb 91 [s, gP rb])
    (hin : Calls Tryz.prog 68 #[.pointer (some ⟨rb, 0, none⟩), .int .i64 n] (w.alloc (.cells #[.pointer (some ⟨rb, 0, none⟩)] 34)) fun e w' => ∃ x, e = .returned x ∧ Q x w') :
    Calls Tryz.prog 67 #[.pointer (some ⟨rb, 0, none⟩), .func (.func 68) #[.pointer (some ⟨rb, 0, none⟩)] #[], .int .i64 n] w fun e w' => ∃ x, e = .returned x ∧ Q x w' := by
  have HG := Lib.hid (wgood_yes rb s _ (hb.alloc (.cells #[.pointer (some ⟨rb, 0, none⟩)] 34)))
  have HI := Lib.hid hin; clear hin hb
  have hmf := makeF
  go_enter_defers Tryz.func67, Tryz.ntmps67
  go_wp2_with (fail)
  refine HG.out.mono ?_
  rintro e w' ⟨rfl, rfl⟩
  go_wp2_with (fail)
  refine HI.out.mono ?_
  rintro e w2 ⟨x, rfl, hq⟩
  have HQ := Lib.hid hq; clear hq
  go_wp2_with (fail)
  refine leaves_cons (f := 109) (args := #[.pointer (some ⟨w.heap.size, 0, none⟩)]) (by simp) (by simp [go_sem]) ?_
  refine (idleB _ _).mono ?_
  rintro e u' w'' ⟨rfl, rfl, rfl⟩
  simp [Leaves, settle, results, Tryz.results67, go_sem]
  exact HQ.out
theorem tryB_no (rb : Nat) (n : Int) (s : Value) (w : World) (hb : Blk w rb 91 [s, gP rb])
    (hin : Calls Tryz.prog 68 #[.pointer (some ⟨rb, 0, none⟩), .int .i64 n] (w.alloc (.cells #[.pointer (some ⟨rb, 0, none⟩)] 34)) fun e w' => Dies e ∧ (w.alloc (.cells #[.pointer (some ⟨rb, 0, none⟩)] 34)).grownBy w' (some rb) ∧ ∃ l, RdB w' rb (gP rb) l) :
    Calls Tryz.prog 67 #[.pointer (some ⟨rb, 0, none⟩), .func (.func 68) #[.pointer (some ⟨rb, 0, none⟩)] #[], .int .i64 n] w fun e w' => e = .returned (.slice none 0 0) ∧ w.grownBy w' (some rb) ∧ RdN w' rb := by
  have HG := Lib.hid (wgood_yes rb s _ (hb.alloc (.cells #[.pointer (some ⟨rb, 0, none⟩)] 34)))
  have HL := Lib.hid hb.lt
  have HI := Lib.hid hin; clear hin hb
  have hmf := makeF
  go_enter_defers Tryz.func67, Tryz.ntmps67
  go_wp2_with (fail)
  refine HG.out.mono ?_
  rintro e w' ⟨rfl, rfl⟩
  go_wp2_with (fail)
  refine HI.out.mono ?_
  rintro e w2 ⟨⟨u, pv, rfl⟩, hg, l, a, m, cap, hb2, _⟩
  have hlt := HL.out
  have hbox : w2.cell? ⟨w.heap.size, 0, none⟩ = some (.pointer (some ⟨rb, 0, none⟩)) := ((Blk.new w [.pointer (some ⟨rb, 0, none⟩)] 34).grown hg (by intro h; cases h; omega)).cell (i := 0) rfl
  have HQ := Lib.hid hg; clear hg
  refine leaves_cons (f := 109) (args := #[.pointer (some ⟨w.heap.size, 0, none⟩)]) (by simp) (by simp [go_sem]) ?_
  refine (caughtB ⟨w.heap.size, 0, none⟩ rb _ _ u pv [] w2 hbox hb2).mono ?_
  rintro e u' w'' ⟨rfl, rfl, hg3, hn⟩
  simp [Leaves, settle, results, Tryz.results67, go_sem]
  exact ⟨gb_trans (gb_trans (gb_alloc (gb_refl w _) _) HQ.out) hg3, hn⟩

/-- what the deferred call does behind a panic -/
theorem caughtI (p : Addr) (rb : Nat) (s g : Value) (u : TypeId) (pv : Value) (older : List PanicEntry) (w : World) (hp : w.cell? p = some (.pointer (some ⟨rb, 0, none⟩))) (hb : Blk w rb 91 [s, g]) :
    CallsD Tryz.prog 139 #[.pointer (some p)] (.panicking ({ v := .iface u pv, recovered := false } :: older)) w fun e u' w' =>
      e = .returned (.tuple #[]) ∧ u' = .panicking ({ v := .iface u pv, recovered := true } :: older) ∧ w.grownBy w' (some rb) ∧ RdN w' rb := by
  have c0 := hb.cell (i := 0) rfl
  have c1 := hb.cell (i := 1) rfl
  have f0 := hb.free 0
  have f1 := hb.free 1
  refine callsD_of_wpS Tryz.func139 rfl fun c₀ cs hu => ?_
  apply wpS_seq
  apply wpS_region
  simp [wpOpsS, go_sem, recoverD, hu, Tryz.ntmps139, Exit.thenS]
  refine wpS_cond (t := true) (by simp [Act.eval, Array.replicate]) ?_
  simp only [if_true]
  refine wpS_of_wp ?_
  go_wp2
  exact ⟨rfl, _, rfl, .tuple #[], results_none rfl _ _ _, rfl, rfl, gb_set (gb_set (gb_refl _ _) 0 _) 1 _, (hb.set 0 _).set 1 _⟩
theorem idleI (p : Addr) (w : World) :
    CallsD Tryz.prog 139 #[.pointer (some p)] .returning w fun e u' w' => e = .returned (.tuple #[]) ∧ u' = .returning ∧ w' = w := by
  refine callsD_of_wpS Tryz.func139 rfl fun c₀ cs hu => ?_
  apply wpS_seq
  apply wpS_region
  simp [wpOpsS, go_sem, recoverD, hu, Tryz.ntmps139, Exit.thenS]
  refine wpS_cond (t := false) (by simp [Act.eval, Array.replicate]) ?_
  simp only [Bool.false_eq_true, if_false]
  refine wpS_of_wp (wp_skip ?_)
  cases c₀
  simp_all [bodyPostS, results, Tryz.results139]
theorem tryI_bad (p : Option Addr) (n : Int) (f : Value) (w : World) (hg : ∀ w1, w.grownBy w1 none → Calls Tryz.prog 22 #[.pointer p] w1 fun e w' => e = .returned (.bool false) ∧ w' = w1) :
    Calls Tryz.prog 96 #[.pointer p, f, .int .i64 n] w fun e w' => e = .returned (.int .i64 0) ∧ w.grownBy w' none := by
  have HG := Lib.hid (hg _ (gb_alloc (gb_refl w none) (.cells #[.pointer p] 34))); clear hg
  go_enter_defers Tryz.func96, Tryz.ntmps96
  go_wp2_with (fail)
  refine HG.out.mono ?_
  rintro e w' ⟨rfl, rfl⟩
  go_wp2
  simp [bodyPostD, Leaves, results, Tryz.results96, go_sem]
  exact gb_alloc (gb_refl w none) _
theorem tryI_yes (rb : Nat) (n : Int) (s : Value) (w : World) (Q : Value → World → Prop) (hb : Blk w rb 91 [s, gP rb])
    (hin : Calls Tryz.prog 97 #[.pointer (some ⟨rb, 0, none⟩), .int .i64 n] (w.alloc (.cells #[.pointer (some ⟨rb, 0, none⟩)] 34)) fun e w' => ∃ x, e = .returned x ∧ Q x w') :
    Calls Tryz.prog 96 #[.pointer (some ⟨rb, 0, none⟩), .func (.func 97) #[.pointer (some ⟨rb, 0, none⟩)] #[], .int .i64 n] w fun e w' => ∃ x, e = .returned x ∧ Q x w' := by
  have HG := Lib.hid (wgood_yes rb s _ (hb.alloc (.cells #[.pointer (some ⟨rb, 0, none⟩)] 34)))
  have HI := Lib.hid hin; clear hin hb
  have hmf := makeF
  go_enter_defers Tryz.func96, Tryz.ntmps96
  go_wp2_with (fail)
  refine HG.out.mono ?_
  rintro e w' ⟨rfl, rfl⟩
  go_wp2_with (fail)
  refine HI.out.mono ?_
  rintro e w2 ⟨x, rfl, hq⟩
  have HQ := Lib.hid hq; clear hq
  go_wp2_with (fail)
  refine leaves_cons (f := 139) (args := #[.pointer (some ⟨w.heap.size, 0, none⟩)]) (by simp) (by simp [go_sem]) ?_
  refine (idleI _ _).mono ?_
  rintro e u' w'' ⟨rfl, rfl, rfl⟩
  simp [Leaves, settle, results, Tryz.results96, go_sem]
  exact HQ.out
theorem tryI_no (rb : Nat) (n : Int) (s : Value) (w : World) (hb : Blk w rb 91 [s, gP rb])
    (hin : Calls Tryz.prog 97 #[.pointer (some ⟨rb, 0, none⟩), .int .i64 n] (w.alloc (.cells #[.pointer (some ⟨rb, 0, none⟩)] 34)) fun e w' => Dies e ∧ (w.alloc (.cells #[.pointer (some ⟨rb, 0, none⟩)] 34)).grownBy w' (some rb) ∧ ∃ l, RdB w' rb (gP rb) l) :
    Calls Tryz.prog 96 #[.pointer (some ⟨rb, 0, none⟩), .func (.func 97) #[.pointer (some ⟨rb, 0, none⟩)] #[], .int .i64 n] w fun e w' => e = .returned (.int .i64 0) ∧ w.grownBy w' (some rb) ∧ RdN w' rb := by
  have HG := Lib.hid (wgood_yes rb s _ (hb.alloc (.cells #[.pointer (some ⟨rb, 0, none⟩)] 34)))
  have HL := Lib.hid hb.lt
  have HI := Lib.hid hin; clear hin hb
  have hmf := makeF
  go_enter_defers Tryz.func96, Tryz.ntmps96
  go_wp2_with (fail)
  refine HG.out.mono ?_
  rintro e w' ⟨rfl, rfl⟩
  go_wp2_with (fail)
  refine HI.out.mono ?_
  rintro e w2 ⟨⟨u, pv, rfl⟩, hg, l, a, m, cap, hb2, _⟩
  have hlt := HL.out
  have hbox : w2.cell? ⟨w.heap.size, 0, none⟩ = some (.pointer (some ⟨rb, 0, none⟩)) := ((Blk.new w [.pointer (some ⟨rb, 0, none⟩)] 34).grown hg (by intro h; cases h; omega)).cell (i := 0) rfl
  have HQ := Lib.hid hg; clear hg
  refine leaves_cons (f := 139) (args := #[.pointer (some ⟨w.heap.size, 0, none⟩)]) (by simp) (by simp [go_sem]) ?_
  refine (caughtI ⟨w.heap.size, 0, none⟩ rb _ _ u pv [] w2 hbox hb2).mono ?_
  rintro e u' w'' ⟨rfl, rfl, hg3, hn⟩
  simp [Leaves, settle, results, Tryz.results96, go_sem]
  exact ⟨gb_trans (gb_trans (gb_alloc (gb_refl w _) _) HQ.out) hg3, hn⟩

end Go.Proofs.YtohcoihdijemfaaGreat

/- append of a make, to bytes that are one's own: zeros behind them. -/
namespace Go.Proofs.YtohcoihdijemfaaGreat
open Go.RowKit Ow

theorem zeros_u8 (n : Nat) : Builtin.zeroCells (Value.int .u8 0).cells n = (List.replicate n (u8N 0)).toArray := by
  unfold Builtin.zeroCells u8N
  apply Array.ext
  · simp [Value.cells]
  · intro i h1 h2
    simp [Value.cells, Nat.mod_one]
theorem append_zeros_fits (w : World) (g n cap k : Nat) (cur : Array Value) (hk : 0 < k) (hs : n + k ≤ 1000000) (hg : w.heap[g]? = some (.cells cur 5 (0, 0))) (hroom : n + k ≤ cap) (hfit : n + k ≤ cur.size) :
    (Builtin.append_ #[23, 3] 23 #[.slice (some ⟨g, 0, none⟩) n cap, .int .i64 k]).run Tryz.prog w =
      .ok (.slice (some ⟨g, 0, none⟩) (n + k) cap) (w.setRow g (cur.toList.take n ++ List.replicate k (u8N 0) ++ cur.toList.drop (n + k)).toArray) := by
  obtain ⟨i, hi, hz, hsz, hb⟩ := info_u8z
  have hst := run_storeCells_at Tryz.prog g n 5 (List.replicate k (u8N 0)) 0 cur w hg (by simpa using hfit) (fun u hu => by rw [(List.mem_replicate.1 hu).2]; rfl)
  simp only [Nat.add_zero, List.length_replicate] at hst
  have hw : IntKind.i64.wrap (k : Int) = k := by rw [IntKind.wrap_i64]; omega
  have hneg : ¬ ((k : Int) < 0) := by omega
  have hbig : ¬ (281474976710656 < (k : Int) * (1 : Int)) := by omega
  have hk0 : k ≠ 0 := by omega
  have hzz := zeros_u8 k
  simp [Builtin.append_, run_underlying (Tryz.underlying23), run_underlying (Tryz.underlying3), sizeOf, typeInfo, zeroValue, hi, hz, hsz, hb, asInt, asIntOf, hw, hneg, hk0, hroom, Addr.add_lit, hzz, hst]
  omega
theorem append_zeros (w : World) (base n k : Nat) (v : Value) (xs : List Value) (hown : w.ownsRow base 5 1 v n xs) (hk : 0 < k) (hs : n + k ≤ 1000000) (hbase : base ≤ w.heap.size) :
    ∃ v' w', (Builtin.append_ #[23, 3] 23 #[v, .int .i64 k]).run Tryz.prog w = .ok v' w' ∧ w'.ownsRow base 5 1 v' (n + k) (xs ++ List.replicate k (u8N 0)) ∧ w.grownBy w' v.ownBlock := by
  obtain ⟨i, hi, hz, hsz, hb⟩ := info_u8z
  have hx := hown.1
  have hlen : (xs ++ List.replicate k (u8N 0)).length = (n + k) * 1 := by rw [List.length_append, hx, List.length_replicate]; omega
  have h63 : n + k ≤ maxLen := by unfold maxLen; omega
  have grown : ∀ (old : Nat) (row : Option Nat),
      (w.drew.alloc (.cells (xs.toArray ++ (List.replicate k (u8N 0)).toArray ++ Builtin.zeroCells (Value.int .u8 0).cells (grownCap w (n + k) old 5 - (n + k))) 5)).ownsRow base 5 1
        (.slice (some ⟨w.heap.size, 0, none⟩) (n + k) (grownCap w (n + k) old 5)) (n + k) (xs ++ List.replicate k (u8N 0)) ∧
      w.grownBy (w.drew.alloc (.cells (xs.toArray ++ (List.replicate k (u8N 0)).toArray ++ Builtin.zeroCells (Value.int .u8 0).cells (grownCap w (n + k) old 5 - (n + k))) 5)) row := by
    intro old row
    have hge := grownCap_ge w (n + k) old 5
    have hcm : grownCap w (n + k) old 5 ≤ maxLen := grownCap_le_maxLen w (n + k) old 5 h63
    refine ⟨⟨hlen, .inr ⟨w.heap.size, _, _, rfl, hbase, heap_alloc_new w.drew _, hge, hcm, ?_, ?_⟩⟩, ⟨rfl, rfl, rfl, by simp, fun j hj _ => heap_alloc_old w.drew _ hj⟩⟩
    · rw [zeros_u8]
      simp only [Array.size_append, List.size_toArray, List.length_replicate, hx]
      omega
    · simp only [Array.toList_append, List.append_assoc]
      rw [← List.append_assoc, ← hlen]
      exact List.take_left
  rcases hown.2 with ⟨rfl, rfl⟩ | ⟨g, cap, cur, rfl, hbg, hg, hnc, hcm, hcs, htake⟩
  · have hx0 : xs = [] := List.eq_nil_of_length_eq_zero (by simpa using hx)
    subst hx0
    have hr := Lib.run_append_nil_zeros (P := Tryz.prog) w 23 3 23 5 i (.int .u8 0) .i64 .i64 Tryz.underlying23 Tryz.underlying3 hi hz k hk (by omega) (by omega) (by rw [hb]; omega)
    have hgr := grown 0 (Value.ownBlock (.slice none 0 0))
    rw [zeros_u8 k] at hr
    simp only [Nat.zero_add, List.nil_append, Array.empty_append] at hgr ⊢
    exact ⟨_, _, hr, hgr.1, hgr.2⟩
  · by_cases hroom : n + k ≤ cap
    · have hr := append_zeros_fits w g n cap k cur hk hs hg hroom (by omega)
      refine ⟨_, _, hr, ⟨hlen, .inr ⟨g, cap, _, rfl, hbg, setRow_heap w g cur _ _ _ hg, hroom, hcm, ?_, ?_⟩⟩, ⟨rfl, rfl, rfl, by simp, fun j _ hj => setRow_other w g j _ (fun e => hj (by simp [Value.ownBlock, e]))⟩⟩
      · simp only [List.size_toArray, List.length_append, List.length_take, List.length_drop, Array.length_toList, List.length_replicate]
        omega
      · rw [← hlen]
        have ht2 : cur.toList.take n = xs := by simpa using htake
        show List.take _ (cur.toList.take n ++ List.replicate k (u8N 0) ++ cur.toList.drop (n + k)) = _
        rw [ht2]
        exact List.take_left
    · have holds : ∀ j u, xs[j]? = some u → w.cell? ((⟨g, 0, none⟩ : Addr).add j) = some u := hown.cells (g := g) rfl
      have hf := run_firstCells_some (P := Tryz.prog) w.drew i.size n ⟨g, 0, none⟩ n cap xs (by rw [hsz]; exact hx) holds
      have hr := Lib.run_append_grow_zeros (P := Tryz.prog) w 23 3 23 5 i (.int .u8 0) .i64 .i64 Tryz.underlying23 Tryz.underlying3 hi hz (some ⟨g, 0, none⟩) n cap xs hf k hk (by omega) (by omega) (by omega) (by rw [hb]; omega) (by have := nextslicecap_le (need := n + k) (old := cap) (by omega); rw [hb]; omega)
      rw [zeros_u8 k] at hr
      have hgr := grown cap (Value.ownBlock (.slice (some ⟨g, 0, none⟩) n cap))
      exact ⟨_, _, hr, hgr.1, hgr.2⟩
end Go.Proofs.YtohcoihdijemfaaGreat

/- A law's arguments: slices of bytes, numbers. -/
namespace Go.Proofs.YtohcoihdijemfaaGreat
open Go.ChangeShapes Go.WideShapes Go.ChangeAt Go.RowKit Ow

theorem laidMet_tail {P : Program} {x : String × DataW Unit} {rest : List (String × DataW Unit)} {W : World} (h : laidMet P (x :: rest) W) : laidMet P rest W := by
  obtain ⟨ps, ⟨g, t, cs, fuel, p, q, _, _, _, _, hq, rfl⟩, hn, hc⟩ := h
  exact ⟨q, hq, (List.nodup_append.1 hn).2.1, fun b off hm => hc b off (List.mem_append_right _ hm)⟩
theorem own : ownKnob Tryz.prog.godebug = none := by kernel_rfl
theorem laidOut : laidOutB Tryz.prog = true := by kernel_rfl
/-- a list of integers as natural numbers -/
def nats (l : List Int) : List Nat := l.map Int.toNat
theorem bytes_arg {W : World} {x : Addr} {len cap : Nat} {zs : List Int} (ht : cap < 9223372036854775808) (hl : len ≤ cap) (hz : zs.length = cap) (hcell : ∀ i, i < zs.length → W.cell? (x.add i) = some (.int .u8 (zs.getD i 0))) (hw : ∀ n ∈ zs, (Lit.int .u8 n).wf = true) :
    BytesAt W W.heap.size (some x) cap (nats (zs.take len)) ∧ (nats (zs.take len)).length = len := by
  have hlen : (nats (zs.take len)).length = len := by simp [nats, hz]; omega
  have hbd : ∀ n ∈ zs, 0 ≤ n ∧ n < 256 := fun n hn => by
    have := hw n hn
    simp [Lit.wf, IntKind.min, IntKind.max, IntKind.signed, IntKind.bits] at this
    omega
  have hget : ∀ i, i < len → (((nats (zs.take len)).getD i 0 : Nat) : Int) = zs.getD i 0 := fun i hi => by
    have h1 : i < zs.length := by omega
    have := hbd zs[i] (List.getElem_mem h1)
    rw [List.getD_eq_getElem?_getD, List.getD_eq_getElem?_getD]
    unfold nats
    rw [List.getElem?_map, List.getElem?_take, if_pos hi, List.getElem?_eq_getElem h1]
    simp; omega
  refine ⟨⟨Nat.le_refl _, by omega, ht, fun i => ?_, ?_⟩, hlen⟩
  · by_cases hi : i < len
    · have h1 : i < zs.length := by omega
      have := hbd zs[i] (List.getElem_mem h1)
      have h2 := hget i hi
      rw [List.getD_eq_getElem?_getD (l := zs), List.getElem?_eq_getElem h1] at h2
      simp only [Option.getD_some] at h2
      omega
    · rw [List.getD_eq_getElem?_getD, List.getElem?_eq_none (by omega)]; decide
  · by_cases h0 : len = 0
    · exact Or.inl (by omega)
    · obtain ⟨b, off, spot⟩ := x
      have hc := hcell 0 (by omega)
      have hspot : spot = none := by simpa [Addr.add] using World.cell?_spot hc
      subst hspot
      have hadd : ∀ j, (⟨b, off, none⟩ : Addr).add j = ⟨b, off + j, none⟩ := fun j => by unfold Addr.add; split <;> simp_all
      have hlt : b < W.heap.size := block_lt_of_cell hc
      refine Or.inr ⟨b, off, rfl, hlt, fun i hi => ?_⟩
      rw [hlen] at hi
      have h3 := hcell i (by omega)
      rw [hadd, ← hget i hi] at h3
      exact h3

/-- an argument that is a slice of bytes -/
theorem bytes_open {H : Type} {enc : TypeId × Value → H} {W : World} {a : Option Addr} {len cap : Nat} {d : DataW H} {ps : List MemPlace} (h : DataW.Trod enc Tryz.prog W 0 (fun _ => true) true 23 (.slice a len cap) d ps) :
    ∃ p, p.length = len ∧ BytesAt W W.heap.size a cap p := by
  obtain ⟨fuel, hf⟩ := h
  rcases open_ints Tryz.underlying23 Tryz.underlying5 (by kernel_rfl) hf with ⟨hcs, _⟩ | ⟨x, l, c, zs, hcs, _, hl, hm, hz, _, hcell, hwz⟩
  · simp [Value.cells] at hcs
    obtain ⟨rfl, rfl, rfl⟩ := hcs
    exact ⟨[], rfl, ⟨Nat.le_refl _, Nat.le_refl _, by decide, by simp, Or.inl rfl⟩⟩
  · simp [Value.cells] at hcs
    obtain ⟨rfl, rfl, rfl⟩ := hcs
    unfold maxLen at hm
    have hb := bytes_arg (by omega) hl (by simpa using hz) hcell hwz
    exact ⟨_, hb.2, hb.1⟩
/-- how great it may be -/
theorem bytes_reach {H : Type} {enc : TypeId × Value → H} {W : World} {a : Option Addr} {len cap : Nat} {d : DataW H} {ps : List MemPlace} {ts : List TypeId} {ds : List (DataW H)} (h : DataW.Trod enc Tryz.prog W 0 (fun _ => true) true 23 (.slice a len cap) d ps)
    (hsz : (DataW.weightsEach Tryz.prog ts ds).all (· ≤ reachBytes) = true) {j : Nat} (ht : ts[j]? = some 23) (hd : ds[j]? = some d) : len ≤ cap ∧ cap ≤ 140737488351232 := by
  obtain ⟨fuel, hf⟩ := h
  rcases open_ints Tryz.underlying23 Tryz.underlying5 (by kernel_rfl) hf with ⟨hcs, _⟩ | ⟨x, l, c, zs, hcs, _, hl, _, hz, hx, _, _⟩
  · simp [Value.cells] at hcs
    obtain ⟨rfl, rfl, rfl⟩ := hcs
    exact ⟨Nat.le_refl _, by decide⟩
  · simp [Value.cells] at hcs
    obtain ⟨rfl, rfl, rfl⟩ := hcs
    have hz2 : zs.length = cap := by simpa using hz
    simp only [Prod.mk.injEq] at hx
    rw [hx.1] at hd
    have := sized_slice hsz ht hd Tryz.underlying23
    rw [show Tryz.prog.bytesOf 5 = 1 by kernel_rfl] at this
    simp only [lits, List.length_map, List.length_take, List.length_drop, reachBytes] at this
    omega
theorem int_wf {n : Int} (h : (Lit.int .i64 n).wf = true) : -9223372036854775808 ≤ n ∧ n ≤ 9223372036854775807 := by
  simp [Lit.wf, IntKind.min, IntKind.max, IntKind.signed, IntKind.bits] at h
  omega
end Go.Proofs.YtohcoihdijemfaaGreat

/- A law's arguments: rows of rows of bytes, rows of numbers. -/
namespace Go.Proofs.YtohcoihdijemfaaGreat
open Go.ChangeShapes Go.WideShapes Go.ChangeAt Go.RowKit Ow Go.Deep

/-- rows of bytes, in a row, all below block B -/
structure RowsAt (w : World) (B : Nat) (a : Option Addr) (L : List (List Nat)) : Prop where
  lim : B ≤ w.heap.size
  cells : L.length = 0 ∨ ∃ pb po, a = some ⟨pb, po, none⟩ ∧ pb < B ∧ ∀ i, i < L.length → ∃ ai ci, w.cell? ⟨pb, po + i, none⟩ = some (.slice ai (L.getD i []).length ci) ∧ BytesAt w B ai ci (L.getD i [])
theorem RowsAt.kept {w w' : World} {B : Nat} {a : Option Addr} {L : List (List Nat)} (h : RowsAt w B a L) {row : Option Nat} (hg : w.grownBy w' row) (hr : ∀ r, row = some r → B ≤ r) : RowsAt w' B a L := by
  refine ⟨Nat.le_trans h.lim hg.size, ?_⟩
  rcases h.cells with h0 | ⟨pb, po, ha, hlt, hc⟩
  · exact Or.inl h0
  · refine Or.inr ⟨pb, po, ha, hlt, fun i hi => ?_⟩
    obtain ⟨ai, ci, h1, h2⟩ := hc i hi
    exact ⟨ai, ci, by rw [gb_cell hg (p := ⟨pb, po + i, none⟩) (Nat.lt_of_lt_of_le hlt h.lim) (fun e => by have := hr _ e.symm; simp at this; omega)]; exact h1, h2.kept hg hr⟩
theorem RowsAt.stay {w w' : World} {B : Nat} {a : Option Addr} {L : List (List Nat)} (h : RowsAt w B a L) (hg : w.grownBy w' none) : RowsAt w' B a L := h.kept hg (fun r e => by cases e)
theorem RowsAt.at {w : World} {B : Nat} {a : Option Addr} {L : List (List Nat)} (h : RowsAt w B a L) {i : Nat} (hi : i < L.length) : ∃ pb po ai ci, a = some ⟨pb, po, none⟩ ∧ pb < B ∧ w.cell? ⟨pb, po + i, none⟩ = some (.slice ai (L.getD i []).length ci) ∧ BytesAt w B ai ci (L.getD i []) := by
  obtain ⟨pb, po, h1, h2, h3⟩ := h.cells.resolve_left (by omega)
  obtain ⟨ai, ci, h4, h5⟩ := h3 i hi
  exact ⟨pb, po, ai, ci, h1, h2, h4, h5⟩
/-- numbers in a row, below block B -/
structure IntsAt (w : World) (B : Nat) (a : Option Addr) (L : List Int) : Prop where
  lim : B ≤ w.heap.size
  wf : ∀ n ∈ L, -9223372036854775808 ≤ n ∧ n ≤ 9223372036854775807
  cells : L.length = 0 ∨ ∃ pb po, a = some ⟨pb, po, none⟩ ∧ pb < B ∧ ∀ i, i < L.length → w.cell? ⟨pb, po + i, none⟩ = some (.int .i64 (L.getD i 0))
theorem IntsAt.kept {w w' : World} {B : Nat} {a : Option Addr} {L : List Int} (h : IntsAt w B a L) {row : Option Nat} (hg : w.grownBy w' row) (hr : ∀ r, row = some r → B ≤ r) : IntsAt w' B a L := by
  refine ⟨Nat.le_trans h.lim hg.size, h.wf, ?_⟩
  rcases h.cells with h0 | ⟨pb, po, ha, hlt, hc⟩
  · exact Or.inl h0
  · exact Or.inr ⟨pb, po, ha, hlt, fun i hi => by rw [gb_cell hg (p := ⟨pb, po + i, none⟩) (Nat.lt_of_lt_of_le hlt h.lim) (fun e => by have := hr _ e.symm; simp at this; omega)]; exact hc i hi⟩
theorem IntsAt.stay {w w' : World} {B : Nat} {a : Option Addr} {L : List Int} (h : IntsAt w B a L) (hg : w.grownBy w' none) : IntsAt w' B a L := h.kept hg (fun r e => by cases e)
theorem IntsAt.at {w : World} {B : Nat} {a : Option Addr} {L : List Int} (h : IntsAt w B a L) {i : Nat} (hi : i < L.length) : ∃ pb po, a = some ⟨pb, po, none⟩ ∧ pb < B ∧ w.cell? ⟨pb, po + i, none⟩ = some (.int .i64 (L.getD i 0)) := by
  obtain ⟨pb, po, h1, h2, h3⟩ := h.cells.resolve_left (by omega)
  exact ⟨pb, po, h1, h2, h3 i hi⟩

theorem weightsAll_mem {H : Type} {P : Program} {e : TypeId} {d : DataW H} {n : Nat} (hn : n ∈ d.weights P e) : ∀ {l : List (DataW H)}, d ∈ l → n ∈ DataW.weightsAll P e l
  | x :: r, hd => by
    simp only [DataW.weightsAll, List.mem_append]
    rcases List.mem_cons.1 hd with rfl | h
    · exact Or.inl hn
    · exact Or.inr (weightsAll_mem hn h)
theorem spot_none {W : World} {x : Addr} {v : Value} (h : W.cell? (x.add 0) = some v) : ∃ b off, x = ⟨b, off, none⟩ ∧ b < W.heap.size ∧ ∀ j, (⟨b, off, none⟩ : Addr).add j = ⟨b, off + j, none⟩ := by
  obtain ⟨b, off, spot⟩ := x
  have hspot : spot = none := by simpa [Addr.add] using World.cell?_spot h
  subst hspot
  exact ⟨b, off, rfl, by simpa [Addr.add] using block_lt_of_cell h, fun j => by unfold Addr.add; split <;> simp_all⟩
theorem range_getD {α : Type} (f : Nat → α) (n i : Nat) (z : α) (h : i < n) : ((List.range n).map f).getD i z = f i := by
  rw [List.getD_eq_getElem?_getD, List.getElem?_map, List.getElem?_range h]; rfl

/-- an argument that is a row of rows of bytes -/
theorem rows_open {H : Type} {enc : TypeId × Value → H} {W : World} {a : Option Addr} {len cap : Nat} {d : DataW H} {ps : List MemPlace} {ts : List TypeId} {ds : List (DataW H)} (h : DataW.Trod enc Tryz.prog W 0 (fun _ => true) true 22 (.slice a len cap) d ps)
    (hsz : (DataW.weightsEach Tryz.prog ts ds).all (· ≤ reachBytes) = true) {j : Nat} (ht : ts[j]? = some 22) (hd : ds[j]? = some d) :
    ∃ L : List (List Nat), L.length = len ∧ len ≤ 140737488351232 ∧ RowsAt W W.heap.size a L ∧ ∀ r ∈ L, r.length ≤ 140737488351232 := by
  obtain ⟨fuel, hf⟩ := h
  rcases open_int_rows Tryz.underlying22 Tryz.underlying23 Tryz.underlying5 (by kernel_rfl) (by kernel_rfl) hf with ⟨hcs, _⟩ | ⟨x, l, c, A, Ln, C, Z, hcs, _, hl, hm, hx, hrow⟩
  · simp [Value.cells] at hcs
    obtain ⟨rfl, rfl, rfl⟩ := hcs
    exact ⟨[], rfl, by decide, ⟨Nat.le_refl _, Or.inl rfl⟩, fun r hr => by simp at hr⟩
  · simp [Value.cells] at hcs
    obtain ⟨rfl, rfl, rfl⟩ := hcs
    simp only [Prod.mk.injEq] at hx
    rw [hx.1] at hd
    have hrl : ∀ r, r < len → C r ≤ 140737488351232 := by
      intro r hr
      obtain ⟨_, hlc, _, hzl, _, hnil, _⟩ := hrow r (by omega)
      rcases hA : A r with _ | ad
      · rw [hnil hA]; decide
      · have hmem : (C r) * 1 ∈ (intRow (H := H) .u8 (A r) (Ln r) (Z r)).weights Tryz.prog 23 := by
          rw [hA]
          simp only [intRow, DataW.weights, Tryz.underlying23]
          rw [show Tryz.prog.bytesOf 5 = 1 by kernel_rfl]
          simp only [lits, List.length_map, List.length_take, List.length_drop, Nat.mul_one, List.mem_cons]
          left; omega
        have h1 : (C r) * 1 ∈ DataW.weightsAll Tryz.prog 23 ((List.range len).map fun r => intRow (H := H) .u8 (A r) (Ln r) (Z r)) :=
          weightsAll_mem hmem (List.mem_map.2 ⟨r, List.mem_range.2 hr, rfl⟩)
        have h2 := List.all_eq_true.1 hsz _ (DataW.weights_mem_each ht hd ((C r) * 1) (by
          simp only [DataW.weights, Tryz.underlying22]
          exact List.mem_cons_of_mem _ (List.mem_append_left _ h1)))
        simp [reachBytes] at h2
        omega
    have hlen : len ≤ 140737488351232 := by
      have := sized_slice hsz ht hd Tryz.underlying22
      rw [show Tryz.prog.bytesOf 23 = 24 by kernel_rfl] at this
      simp only [List.length_map, List.length_range, reachBytes] at this
      omega
    refine ⟨(List.range len).map fun r => nats ((Z r).take (Ln r)), by simp, hlen, ⟨Nat.le_refl _, ?_⟩, ?_⟩
    · by_cases h0 : len = 0
      · left; simp [h0]
      · have hc0 := (hrow 0 (by omega)).1
        obtain ⟨b, off, rfl, hlt, hadd⟩ := spot_none hc0
        refine Or.inr ⟨b, off, rfl, hlt, fun i hi => ?_⟩
        rw [List.length_map, List.length_range] at hi
        rw [range_getD _ _ _ _ hi]
        obtain ⟨hcell, hlc, hcm, hzl, hwf, hnil, hin⟩ := hrow i (by omega)
        rw [hadd] at hcell
        have hb1 := hrl i hi
        rcases hA : A i with _ | ad
        · have hC := hnil hA
          have hL : Ln i = 0 := by omega
          refine ⟨none, C i, ?_, ?_⟩
          · rw [hcell, hA, hL]; simp [nats]
          · rw [hL, hC]
            exact ⟨Nat.le_refl _, by simp [nats], by decide, by simp [nats], Or.inl (by simp [nats])⟩
        · obtain ⟨_, hcc⟩ := hin ad hA
          have hba := bytes_arg (x := ad) (len := Ln i) (cap := C i) (zs := Z i) (W := W) (by omega) hlc hzl (fun c hc => hcc c (by omega)) hwf
          exact ⟨some ad, C i, by rw [hcell, hA, hba.2], hba.1⟩
    · intro r hr
      obtain ⟨k, hk, rfl⟩ := List.mem_map.1 hr
      have hk' := List.mem_range.1 hk
      have := hrl k hk'
      have hzl := (hrow k (by omega)).2.2.2.1
      simp only [nats, List.length_map, List.length_take]
      omega
end Go.Proofs.YtohcoihdijemfaaGreat

/- Rows of one's own, several beside each other: what a call may change (Kb S), appends by cases, cells set. -/
namespace Go.Proofs.YtohcoihdijemfaaGreat
open Go.RowKit Ow

/-- all but the blocks of S is as it was -/
structure Kb (S : Nat → Prop) (w w' : World) : Prop where
  os : w'.os = w.os
  tape : w'.tape = w.tape
  output : w'.output = w.output
  size : w.heap.size ≤ w'.heap.size
  block : ∀ i, i < w.heap.size → ¬ S i → w'.heap[i]? = w.heap[i]?
theorem kb_refl (S : Nat → Prop) (w : World) : Kb S w w := ⟨rfl, rfl, rfl, Nat.le_refl _, fun _ _ _ => rfl⟩
theorem kb_trans {S : Nat → Prop} {a b c : World} (h : Kb S a b) (k : Kb S b c) : Kb S a c :=
  ⟨k.os.trans h.os, k.tape.trans h.tape, k.output.trans h.output, Nat.le_trans h.size k.size, fun i hi hs => (k.block i (Nat.lt_of_lt_of_le hi h.size) hs).trans (h.block i hi hs)⟩
/-- .. and something that grows, or writes a row of S, or a new one -/
theorem kb_then {S : Nat → Prop} {a b c : World} {row : Option Nat} (h : Kb S a b) (k : b.grownBy c row) (hr : ∀ r, row = some r → S r ∨ a.heap.size ≤ r) : Kb S a c :=
  ⟨k.os.trans h.os, k.tape.trans h.tape, k.output.trans h.output, Nat.le_trans h.size k.size, fun i hi hs => (k.block i (Nat.lt_of_lt_of_le hi h.size) (fun e => by
    rcases hr i e.symm with h1 | h1
    · exact hs h1
    · omega)).trans (h.block i hi hs)⟩
theorem kb_stay {S : Nat → Prop} {a b c : World} (h : Kb S a b) (k : b.grownBy c none) : Kb S a c := kb_then h k (fun r e => by cases e)
theorem kb_drewN {S : Nat → Prop} {a b : World} (h : Kb S a b) (n : Nat) : Kb S a (b.drewN n) := ⟨h.os, h.tape, h.output, h.size, h.block⟩
/-- new blocks alone are turned, seen from an elder world -/
theorem gb_kb {S : Nat → Prop} {w0 a b : World} (h : w0.grownBy a none) (k : Kb S a b) (hS : ∀ i, S i → w0.heap.size ≤ i) : w0.grownBy b none :=
  ⟨k.os.trans h.os, k.tape.trans h.tape, k.output.trans h.output, Nat.le_trans h.size k.size, fun i hi _ => (k.block i (Nat.lt_of_lt_of_le hi h.size) (fun hs => by have := hS i hs; omega)).trans (h.block i hi (by simp))⟩
theorem Kb.blk {S : Nat → Prop} {w w' : World} (k : Kb S w w') {B : Nat} {T : TypeId} {L : List Value} (h : Blk w B T L) (hs : ¬ S B) : Blk w' B T L := by
  have hlt := h.lt
  unfold Blk at h ⊢; rw [k.block B hlt hs]; exact h
theorem Kb.cell {S : Nat → Prop} {w w' : World} (k : Kb S w w') {p : Addr} (hp : p.block < w.heap.size) (hs : ¬ S p.block) : w'.cell? p = w.cell? p := World.cell?_of_block (w := w) (k.block p.block hp hs)
theorem own_lt {w : World} {base e n g c : Nat} {xs : List Value} (h : w.ownsRow base e 1 (.slice (some ⟨g, 0, none⟩) n c) n xs) : g < w.heap.size ∧ base ≤ g ∧ n ≤ c := by
  rcases h.2 with ⟨h0, _⟩ | ⟨g', c', cur, e1, hb, hg, hnc, _⟩
  · cases h0
  · cases e1
    exact ⟨(Array.getElem?_eq_some_iff.1 hg).1, hb, hnc⟩
/-- what is a row of one's own -/
theorem own_shape {w : World} {base e n : Nat} {v : Value} {xs : List Value} (h : w.ownsRow base e 1 v n xs) : (v = .slice none 0 0 ∧ n = 0) ∨ ∃ g c, v = .slice (some ⟨g, 0, none⟩) n c := by
  rcases h.2 with h0 | ⟨g', c', cur, e1, _⟩
  · exact Or.inl h0
  · exact Or.inr ⟨g', c', e1⟩
/-- a cell set -/
theorem own_set {w : World} {base e n g c i : Nat} {xs : List Value} (h : w.ownsRow base e 1 (.slice (some ⟨g, 0, none⟩) n c) n xs) (v : Value) : (w.setCell ⟨g, i, none⟩ v).ownsRow base e 1 (.slice (some ⟨g, 0, none⟩) n c) n (xs.set i v) := by
  refine ⟨by rw [List.length_set]; exact h.1, ?_⟩
  rcases h.2 with ⟨h0, _⟩ | ⟨g', c', cur, e1, hb, hg, hnc, hcm, hs, ht⟩
  · cases h0
  · cases e1
    have hblk : Blk w g e cur.toList := by unfold Blk; rw [hg]
    have h2 := hblk.set i v
    refine Or.inr ⟨g, c, (cur.toList.set i v).toArray, rfl, hb, h2, hnc, hcm, by simpa using hs, ?_⟩
    rw [← ht, List.take_set]
theorem own_free {w : World} {base e n g c : Nat} {xs : List Value} (h : w.ownsRow base e 1 (.slice (some ⟨g, 0, none⟩) n c) n xs) (i : Nat) : w.frozen? ⟨g, i, none⟩ = false := by
  rcases h.2 with ⟨h0, _⟩ | ⟨g', c', cur, e1, hb, hg, hnc, hcm, hs, ht⟩
  · cases h0
  · cases e1
    have hblk : Blk w g e cur.toList := by unfold Blk; rw [hg]
    exact hblk.free i
/-- its beginning -/
theorem own_take {w : World} {base e n n' g c : Nat} {xs : List Value} (h : w.ownsRow base e 1 (.slice (some ⟨g, 0, none⟩) n' c) n' xs) (hn : n ≤ n') : w.ownsRow base e 1 (.slice (some ⟨g, 0, none⟩) n c) n (xs.take n) := by
  have hl : xs.length = n' := by have := h.1; omega
  refine ⟨by rw [List.length_take]; omega, ?_⟩
  rcases h.2 with ⟨h0, _⟩ | ⟨g', c', cur, e1, hb, hg, hnc, hcm, hs, ht⟩
  · cases h0
  · cases e1
    refine Or.inr ⟨g, c, cur, rfl, hb, hg, by omega, hcm, hs, ?_⟩
    rw [← ht, List.take_take]; congr 1; omega
theorem own_rebase {w : World} {base b' e n g c : Nat} {xs : List Value} (h : w.ownsRow base e 1 (.slice (some ⟨g, 0, none⟩) n c) n xs) (hb : b' ≤ g) : w.ownsRow b' e 1 (.slice (some ⟨g, 0, none⟩) n c) n xs := by
  refine ⟨h.1, ?_⟩
  rcases h.2 with ⟨h0, _⟩ | ⟨g', c', cur, e1, _, hg, hnc, hcm, hs, ht⟩
  · cases h0
  · cases e1; exact Or.inr ⟨g, c, cur, rfl, hb, hg, hnc, hcm, hs, ht⟩
/-- elements of one cell -/
structure Elt (e st : TypeId) (bt : Nat) (z : Value) : Prop where
  sl : Tryz.prog.underlying st = some (.slice e)
  info : ∃ i, Tryz.prog.info? e = some i ∧ i.zero = some z ∧ i.size = 1 ∧ i.bytes = bt ∧ z.cells.size = 1
/-- an append by cases: there is room, or a new block -/
theorem append_cases {e st : TypeId} {bt : Nat} {z : Value} (hE : Elt e st bt z) (w : World) (base g n c : Nat) (xs : List Value) (hown : w.ownsRow base e 1 (.slice (some ⟨g, 0, none⟩) n c) n xs)
    (ad : Addr) (m cc : Nat) (news : List Value) (hl : news.length = m) (hnews : ∀ j u, news[j]? = some u → w.cell? (ad.add j) = some u) (h1 : ∀ u ∈ news, u.oneCell' = true) (hb : (n + m) * bt ≤ 140737488355328) (hb2 : n + m ≤ 140737488355328) :
    (n + m ≤ c ∧ ∃ w', (Builtin.append_ #[st, st] st #[.slice (some ⟨g, 0, none⟩) n c, .slice (some ad) m cc]).run Tryz.prog w = .ok (.slice (some ⟨g, 0, none⟩) (n + m) c) w' ∧ w'.ownsRow base e 1 (.slice (some ⟨g, 0, none⟩) (n + m) c) (n + m) (xs ++ news) ∧ w.grownBy w' (some g)) ∨
    (c < n + m ∧ ∃ c' w', (Builtin.append_ #[st, st] st #[.slice (some ⟨g, 0, none⟩) n c, .slice (some ad) m cc]).run Tryz.prog w = .ok (.slice (some ⟨w.heap.size, 0, none⟩) (n + m) c') w' ∧ w'.ownsRow w.heap.size e 1 (.slice (some ⟨w.heap.size, 0, none⟩) (n + m) c') (n + m) (xs ++ news) ∧ w.grownBy w' none) := by
  obtain ⟨i, hi, hz, hs, hby, hzc⟩ := hE.info
  by_cases h : n + m ≤ c
  · obtain ⟨w', hr, ho, hg⟩ := run_append_fits w base st st e i 1 (P := Tryz.prog) hE.sl hi hs g n c xs hown ad m cc news (by omega) hnews h1 h
    exact Or.inl ⟨h, w', hr, ho, hg⟩
  · refine Or.inr ⟨by omega, ?_⟩
    have hxl : xs.length = n := by have := hown.1; omega
    have hold : ∀ j v, xs[j]? = some v → w.cell? ((⟨g, 0, none⟩ : Addr).add j) = some v := fun j v hv => by
      have hadd : (⟨g, 0, none⟩ : Addr).add j = ⟨g, j, none⟩ := by unfold Addr.add; split <;> simp_all
      rw [hadd]; exact own_cell hown hv
    have hnc : Builtin.nextslicecap (n + m) c * i.bytes ≤ 281474976710656 := growslice_fits (by omega) (by rw [hby]; exact hb)
    have hr := run_append_grow (P := Tryz.prog) w st st e i z hE.sl hi hz ⟨g, 0, none⟩ n c xs (by rw [hs]; omega) hold ad m cc news (by rw [hs]; omega) hnews (by omega) (by omega) hnc
    have hge := grownCap_ge w (n + m) c e
    have hcm : grownCap w (n + m) c e ≤ maxLen := grownCap_le_maxLen w (n + m) c e (by unfold maxLen; omega)
    refine ⟨_, _, hr, ⟨by rw [List.length_append]; omega, Or.inr ⟨w.heap.size, _, _, rfl, Nat.le_refl _, heap_alloc_new w.drew _, hge, hcm, ?_, ?_⟩⟩, ⟨rfl, rfl, rfl, by simp, fun k hk _ => heap_alloc_old w.drew _ hk⟩⟩
    · simp only [Array.size_append, List.size_toArray, size_zeroCells, hzc]
      omega
    · simp only [Array.toList_append, List.append_assoc]
      rw [← List.append_assoc, List.take_left' (by rw [List.length_append]; omega)]
/-- an append to nothing -/
theorem append_to_none {e st : TypeId} {bt : Nat} {z : Value} (hE : Elt e st bt z) (w : World) (ad : Addr) (m cc : Nat) (news : List Value) (hm : 0 < m) (hl : news.length = m) (hnews : ∀ j u, news[j]? = some u → w.cell? (ad.add j) = some u) (h1 : ∀ u ∈ news, u.oneCell' = true) (hb : m * bt ≤ 140737488355328) (hb2 : m ≤ 140737488355328) :
    ∃ g c' w', (Builtin.append_ #[st, st] st #[.slice none 0 0, .slice (some ad) m cc]).run Tryz.prog w = .ok (.slice (some ⟨g, 0, none⟩) m c') w' ∧ w'.ownsRow w.heap.size e 1 (.slice (some ⟨g, 0, none⟩) m c') m news ∧ w.grownBy w' none := by
  obtain ⟨i, hi, hz, hs, hby, hzc⟩ := hE.info
  obtain ⟨v', w', hr, ho, hg, _⟩ := run_append_own w w.heap.size st st e i z 1 bt (P := Tryz.prog) hE.sl hi hz hs hby hzc (by decide) (.slice none 0 0) 0 [] (World.ownsRow_nil w _ e 1) ad m cc news (by omega) hnews h1 (by unfold maxLen; omega) (by rw [Nat.zero_add]; exact hb) (Nat.le_refl _)
  rw [Nat.zero_add, List.nil_append] at ho
  obtain ⟨g, c, rfl, _⟩ := own_some ho hm
  exact ⟨g, c, w', hr, ho, hg⟩
end Go.Proofs.YtohcoihdijemfaaGreat

/- A region that draws its order, by what each operation leaves in its slot: one obligation for each operation, whatever order is drawn. No program is named here. -/
namespace Go.Proofs.YtohcoihdijemfaaGreat
open Go
section
variable {P : Program} {ops : Array Oper} {Q : Exit → Act → World → Prop} {G : Nat → Value → World → Prop} {M : Nat → World → Prop} {B : World → Prop} {Rel : World → World → Prop} {a0 : Act}

def notDst (ops : Array Oper) (d : Nat) : Bool := ops.all fun o => o.dst != some d
def isDst (ops : Array Oper) (d : Nat) : Bool := ops.any fun o => o.dst == some d
def waits (ops : Array Oper) (o : Oper) (d : Nat) : Bool := o.after.any fun e => Region.binds .any e && ((ops[e.on]?).bind (·.dst)) == some d
def waitsFor (o : Oper) (j : Nat) : Bool := o.after.any fun e => Region.binds .any e && e.on == j
/-- the state amid a region: what is listed has left in its slot, or in memory, what it should -/
structure Flow (G : Nat → Value → World → Prop) (M : Nat → World → Prop) (B : World → Prop) (a0 : Act) (ops : Array Oper) (listed : Array Bool) (a : Act) (w : World) : Prop where
  base : B w
  size : a.tmps.size = a0.tmps.size
  defers : a.defers = a0.defers
  rest : ∀ d, notDst ops d = true → a.tmps.getD d undef = a0.tmps.getD d undef
  slots : ∀ j oj d, ops[j]? = some oj → listed.getD j false = true → oj.dst = some d → G d (a.tmps.getD d undef) w
  mems : ∀ j oj, ops[j]? = some oj → listed.getD j false = true → oj.dst = none → M j w
/-- the state at one operation: what it waits for has left what it should -/
structure FlowAt (G : Nat → Value → World → Prop) (M : Nat → World → Prop) (B : World → Prop) (a0 : Act) (ops : Array Oper) (o : Oper) (a : Act) (w : World) : Prop where
  base : B w
  size : a.tmps.size = a0.tmps.size
  defers : a.defers = a0.defers
  rest : ∀ d, notDst ops d = true → a.tmps.getD d undef = a0.tmps.getD d undef
  dep : ∀ d, waits ops o d = true → G d (a.tmps.getD d undef) w
  mem : ∀ j oj, ops[j]? = some oj → waitsFor o j = true → oj.dst = none → M j w
/-- what one operation leaves -/
def FlowPost (G : Nat → Value → World → Prop) (M : Nat → World → Prop) (B : World → Prop) (Rel : World → World → Prop) (i : Nat) (o : Oper) (w : World) (v : Value) (w' : World) : Prop :=
  B w' ∧ Rel w w' ∧ match o.dst with | some d => G d v w' | none => M i w'
def FlowStep (P : Program) (Q : Exit → Act → World → Prop) (G : Nat → Value → World → Prop) (M : Nat → World → Prop) (B : World → Prop) (Rel : World → World → Prop) (a0 : Act) (ops : Array Oper) (i : Nat) (o : Oper) : Prop :=
  ∀ a w, FlowAt G M B a0 ops o a w → ops[i]? = some o → wpOp P ops Q i (fun a' w' => ∃ v, a' = a.put o.dst v ∧ FlowPost G M B Rel i o w v w') a w
def FlowSteps (P : Program) (Q : Exit → Act → World → Prop) (G : Nat → Value → World → Prop) (M : Nat → World → Prop) (B : World → Prop) (Rel : World → World → Prop) (a0 : Act) (ops : Array Oper) : Nat → List Oper → Prop
  | _, [] => True
  | i, o :: r => FlowStep P Q G M B Rel a0 ops i o ∧ FlowSteps P Q G M B Rel a0 ops (i + 1) r
theorem flowSteps_get : ∀ (l : List Oper) (i k : Nat) (o : Oper), FlowSteps P Q G M B Rel a0 ops i l → l[k]? = some o → FlowStep P Q G M B Rel a0 ops (i + k) o := by
  intro l
  induction l with
  | nil => intro i k o _ h; simp at h
  | cons x r ih =>
    intro i k o h hk
    cases k with
    | zero => simp at hk; subst hk; exact h.1
    | succ k => have := ih (i + 1) k o h.2 (by simpa using hk); rwa [show i + (k + 1) = i + 1 + k by omega]

/-- each operation waits for earlier ones alone; no slot is written twice; each slot is there -/
def topo (ops : Array Oper) : Bool := (List.range ops.size).all fun i => ((ops[i]?).map fun o => o.after.all fun e => !Region.binds .any e || decide (e.on < i)).getD true
def onceL : List (Option Tmp) → Bool
  | [] => true
  | none :: r => onceL r
  | some d :: r => r.all (· != some d) && onceL r
def once (ops : Array Oper) (n : Nat) : Bool := onceL (ops.toList.map (·.dst)) && ops.all fun o => match o.dst with | some d => decide (d < n) | none => true
theorem onceL_ne : ∀ (l : List (Option Tmp)), onceL l = true → ∀ (i j : Nat) (d d' : Tmp), l[i]? = some (some d) → l[j]? = some (some d') → i ≠ j → d ≠ d' := by
  intro l
  induction l with
  | nil => intro _ i j d d' h; simp at h
  | cons x r ih =>
    intro h i j d d' hi hj hne
    have hr : onceL r = true := by cases x with | none => exact h | some y => simp [onceL] at h; exact h.2
    cases i with
    | zero =>
      cases j with
      | zero => exact absurd rfl hne
      | succ j =>
        simp at hi hj
        subst hi
        simp [onceL] at h
        intro e
        subst e
        exact h.1 _ (List.mem_of_getElem? hj) rfl
    | succ i =>
      cases j with
      | zero =>
        simp at hi hj
        subst hj
        simp [onceL] at h
        intro e
        subst e
        exact h.1 _ (List.mem_of_getElem? hi) rfl
      | succ j => exact ih hr i j d d' (by simpa using hi) (by simpa using hj) (fun e => hne (by rw [e]))
theorem once_ne {n : Nat} (h : once ops n = true) {i j : Nat} {oi oj : Oper} (hi : ops[i]? = some oi) (hj : ops[j]? = some oj) (hne : i ≠ j) {d : Nat} (hd : oi.dst = some d) : oj.dst ≠ some d := by
  intro e
  have h1 : onceL (ops.toList.map (·.dst)) = true := by simp only [once, Bool.and_eq_true] at h; exact h.1
  refine onceL_ne _ h1 i j d d ?_ ?_ hne rfl
  · rw [List.getElem?_map, Array.getElem?_toList, hi]; simp [hd]
  · rw [List.getElem?_map, Array.getElem?_toList, hj]; simp [e]
theorem once_lt {n : Nat} (h : once ops n = true) {i : Nat} {oi : Oper} (hi : ops[i]? = some oi) {d : Nat} (hd : oi.dst = some d) : d < n := by
  simp only [once, Bool.and_eq_true] at h
  have := (Array.all_eq_true_iff_forall_mem.1 h.2) oi (Array.mem_of_getElem? hi)
  simpa [hd] using this
theorem filter_le {α : Type} (p q : α → Bool) (l : List α) (h : ∀ x, q x = true → p x = true) : (l.filter q).length ≤ (l.filter p).length := by
  induction l with
  | nil => simp
  | cons x r ih =>
    by_cases hq : q x = true
    · simp [hq, h x hq, ih]
    · by_cases hp : p x = true
      · simp [hq, hp]; omega
      · simp [hq, hp, ih]
theorem filter_lt {α : Type} (p q : α → Bool) (l : List α) (h : ∀ x, q x = true → p x = true) (x : α) (hx : x ∈ l) (hp : p x = true) (hq : q x = false) : (l.filter q).length < (l.filter p).length := by
  induction l with
  | nil => cases hx
  | cons y r ih =>
    have hle := filter_le p q r h
    rcases List.mem_cons.1 hx with e | e
    · subst e; simp [hp, hq]; omega
    · have := ih e
      by_cases hqy : q y = true
      · simp [hqy, h y hqy, this]
      · by_cases hpy : p y = true
        · simp [hqy, hpy]; omega
        · simp [hqy, hpy, this]
def unlisted (ops : Array Oper) (listed : Array Bool) : Nat := ((List.range ops.size).filter fun i => !listed.getD i true).length
theorem unlisted_lt {listed : Array Bool} {i : Nat} (h : i ∈ Region.ready .any ops listed) : unlisted ops (listed.setIfInBounds i true) < unlisted ops listed := by
  obtain ⟨h0, o, ho, _⟩ := mem_ready.1 h
  have hi : i < ops.size := by
    rcases Nat.lt_or_ge i ops.size with h' | h'
    · exact h'
    · rw [Array.getElem?_eq_none h'] at ho; cases ho
  have hset : (listed.setIfInBounds i true).getD i true = true := by
    rcases Nat.lt_or_ge i listed.size with h' | h'
    · simp [h']
    · simp [Array.getElem?_eq_none (show (listed.setIfInBounds i true).size ≤ i by simpa using h')]
  refine filter_lt _ _ _ (fun x hx => ?_) i (List.mem_range.2 hi) (by rw [h0]; rfl) (by rw [hset]; rfl)
  by_cases e : i = x
  · subst e; rw [hset] at hx; cases hx
  · rwa [getD_set_ne true e] at hx
theorem all_listed (ht : topo ops = true) {listed : Array Bool} (hs : listed.size = ops.size) (hr : Region.ready .any ops listed = []) : ∀ i, i < ops.size → listed.getD i false = true := by
  intro i
  induction i using Nat.strongRecOn with
  | _ i ih =>
    intro hi
    by_cases hl : listed.getD i false = true
    · exact hl
    have hi' : i < listed.size := by omega
    have hf : listed.getD i true = false := by
      simp [hi'] at hl ⊢; exact hl
    have : i ∈ Region.ready .any ops listed := mem_ready.2 ⟨hf, ops[i], Array.getElem?_eq_getElem hi, fun e he hb => by
      have h1 := (List.all_eq_true.1 ht) i (List.mem_range.2 hi)
      rw [Array.getElem?_eq_getElem hi] at h1
      have h2 : (ops[i].after.all fun e => !Region.binds .any e || decide (e.on < i)) = true := h1
      have h3 : e.on < i := by
        have := (Array.all_eq_true_iff_forall_mem.1 h2) e he
        simpa [hb] using this
      exact ih e.on h3 (by omega)⟩
    rw [hr] at this
    cases this
theorem flow_any (ht : topo ops = true) (ho : once ops a0.tmps.size = true) (stab : ∀ d u w w', Rel w w' → G d u w → G d u w') (stabM : ∀ j w w', Rel w w' → M j w → M j w')
    (steps : FlowSteps P Q G M B Rel a0 ops 0 ops.toList)
    (fin : ∀ a w, B w → a.tmps.size = a0.tmps.size → a.defers = a0.defers → (∀ d, notDst ops d = true → a.tmps.getD d undef = a0.tmps.getD d undef) → (∀ d, isDst ops d = true → G d (a.tmps.getD d undef) w) →
      (∀ j oj, ops[j]? = some oj → oj.dst = none → M j w) → Q .normal a w) :
    ∀ (fuel : Nat) (listed : Array Bool) (a : Act) (w : World), listed.size = ops.size → unlisted ops listed ≤ fuel → Flow G M B a0 ops listed a w → wpAny P .any ops Q fuel listed a w := by
  have inn : ∀ {j : Nat} {oj : Oper}, ops[j]? = some oj → j < ops.size := by
    intro j oj hj
    rcases Nat.lt_or_ge j ops.size with h' | h'
    · exact h'
    · rw [Array.getElem?_eq_none h'] at hj; cases hj
  have go : ∀ (listed : Array Bool) (a : Act) (w : World), listed.size = ops.size → Flow G M B a0 ops listed a w → Region.ready .any ops listed = [] → Q .normal a w := by
    intro listed a w hs hF hr
    have hall := all_listed ht hs hr
    refine fin a w hF.base hF.size hF.defers hF.rest (fun d hd => ?_) (fun j oj hj hn => hF.mems j oj hj (hall j (inn hj)) hn)
    obtain ⟨k, hk, hb⟩ := Array.any_eq_true.1 hd
    exact hF.slots k ops[k] d (Array.getElem?_eq_getElem hk) (hall k hk) (by simpa using hb)
  intro fuel
  induction fuel with
  | zero =>
    intro listed a w hs hu hF
    have hr : Region.ready .any ops listed = [] := by
      cases hc : Region.ready .any ops listed with
      | nil => rfl
      | cons x r =>
        have := unlisted_lt (ops := ops) (listed := listed) (i := x) (by rw [hc]; exact List.mem_cons_self ..)
        omega
    exact ⟨hr, go listed a w hs hF hr⟩
  | succ fuel ih =>
    intro listed a w hs hu hF
    refine ⟨go listed a w hs hF, fun i hi => ?_⟩
    obtain ⟨h0, o, hoi, hall⟩ := mem_ready.1 hi
    have hst := flowSteps_get ops.toList 0 i o steps (by rw [Array.getElem?_toList]; exact hoi)
    rw [Nat.zero_add] at hst
    have hat : FlowAt G M B a0 ops o a w := ⟨hF.base, hF.size, hF.defers, hF.rest, fun d hd => by
        obtain ⟨k, hk, hb⟩ := Array.any_eq_true.1 hd
        simp only [Bool.and_eq_true, beq_iff_eq] at hb
        have hl := hall _ (Array.getElem_mem hk) hb.1
        cases hx : ops[o.after[k].on]? with
        | none => rw [hx] at hb; cases hb.2
        | some oj => rw [hx] at hb; exact hF.slots _ oj d hx hl hb.2,
      fun j oj hj ha hn => by
        obtain ⟨k, hk, hb⟩ := Array.any_eq_true.1 ha
        simp only [Bool.and_eq_true, beq_iff_eq] at hb
        have hl := hall _ (Array.getElem_mem hk) hb.1
        rw [hb.2] at hl
        exact hF.mems j oj hj hl hn⟩
    refine wpOp_mono (fun a' w' h => ?_) (hst a w hat hoi)
    obtain ⟨v, rfl, hB, hR, hG⟩ := h
    have hlt := unlisted_lt hi
    refine ih _ _ _ (by simpa using hs) (by omega) ⟨hB, ?_, ?_, ?_, ?_, ?_⟩
    · rw [← hF.size]; cases o.dst <;> simp [Act.put]
    · rw [← hF.defers]; cases o.dst <;> simp [Act.put]
    · intro d hd
      rw [← hF.rest d hd]
      have hne : o.dst ≠ some d := by
        have := (Array.all_eq_true_iff_forall_mem.1 hd) o (Array.mem_of_getElem? hoi)
        simpa using this
      cases hod : o.dst with
      | none => rfl
      | some d' => rw [hod] at hne; simp [Act.put, Array.getElem?_setIfInBounds_ne (show d' ≠ d from fun e => hne (by rw [e]))]
    · intro j oj d hj hl hd
      by_cases e : i = j
      · subst e
        rw [hoi] at hj
        cases hj
        have hd2 := once_lt ho hoi hd
        rw [← hF.size] at hd2
        rw [hd] at hG ⊢
        simpa [Act.put, hd2] using hG
      · rw [getD_set_ne false e] at hl
        have h1 := hF.slots j oj d hj hl hd
        have hv : (a.put o.dst v).tmps.getD d undef = a.tmps.getD d undef := by
          cases hod : o.dst with
          | none => rfl
          | some d' =>
            have := once_ne ho hoi hj e hod
            rw [hd] at this
            simp [Act.put, Array.getElem?_setIfInBounds_ne (show d' ≠ d from fun e => this (by rw [e]))]
        rw [hv]
        exact stab d _ w w' hR h1
    · intro j oj hj hl hn
      by_cases e : i = j
      · subst e
        rw [hoi] at hj
        cases hj
        rw [hn] at hG
        exact hG
      · rw [getD_set_ne false e] at hl
        exact stabM j w w' hR (hF.mems j oj hj hl hn)
/-- A REGION THAT DRAWS ITS ORDER, by one obligation for each operation. G d v w: what slot d has; M j w: what operation j, that has no slot, has done; B: what holds of memory throughout; Rel: what one operation may do to memory. -/
theorem wp_region_flow {id : Nat} {w : World} (G : Nat → Value → World → Prop) (M : Nat → World → Prop) (B : World → Prop) (Rel : World → World → Prop) (hm : P.follows .mixedOrders = true) (ht : topo ops = true) (ho : once ops a0.tmps.size = true) (hB : B w.drew)
    (stab : ∀ d u w w', Rel w w' → G d u w → G d u w') (stabM : ∀ j w w', Rel w w' → M j w → M j w') (steps : FlowSteps P Q G M B Rel a0 ops 0 ops.toList)
    (fin : ∀ a w, B w → a.tmps.size = a0.tmps.size → a.defers = a0.defers → (∀ d, notDst ops d = true → a.tmps.getD d undef = a0.tmps.getD d undef) → (∀ d, isDst ops d = true → G d (a.tmps.getD d undef) w) →
      (∀ j oj, ops[j]? = some oj → oj.dst = none → M j w) → Q .normal a w) : (Code.region id ops true).wp P Q a0 w :=
  wp_region_any hm (flow_any ht ho stab stabM steps fin ops.size _ a0 _ (by simp) (by unfold unlisted; exact Nat.le_trans (List.length_filter_le _ _) (by simp))
    ⟨hB, rfl, rfl, fun _ _ => rfl, fun j oj d _ hl _ => by
      by_cases h : j < ops.size <;> simp [h] at hl, fun j oj _ hl _ => by
      by_cases h : j < ops.size <;> simp [h] at hl⟩)

theorem wanted_none {o : Oper} (h : o.guard = none) (f : Nat → Option Bool) : Region.wanted o f = true := by simp [Region.wanted, h]
/-- an operation that yields a value -/
theorem flow_value {i : Nat} {o : Oper} {d : Nat} (hd : o.dst = some d) (hg : o.guard = none) (h : ∀ a w, FlowAt G M B a0 ops o a w → ∃ v w', (execOp a.eval o).run P w = .ok (.value v) w' ∧ B w' ∧ Rel w w' ∧ G d v w') : FlowStep P Q G M B Rel a0 ops i o := by
  intro a w hF hi
  obtain ⟨v, w', hr, hB, hR, hG⟩ := h a w hF
  unfold wpOp
  simp only [hi, wanted_none hg, if_true]
  refine Or.inl ?_
  unfold Oper.wp
  rw [hr]
  exact ⟨v, rfl, hB, hR, by rw [hd]; exact hG⟩
/-- an operation that leaves no value -/
theorem flow_skip {i : Nat} {o : Oper} (hd : o.dst = none) (hg : o.guard = none) (h : ∀ a w, FlowAt G M B a0 ops o a w → ∃ w', (execOp a.eval o).run P w = .ok .skip w' ∧ B w' ∧ Rel w w' ∧ M i w') : FlowStep P Q G M B Rel a0 ops i o := by
  intro a w hF hi
  obtain ⟨w', hr, hB, hR, hG⟩ := h a w hF
  unfold wpOp
  simp only [hi, wanted_none hg, if_true]
  refine Or.inl ?_
  unfold Oper.wp
  rw [hr]
  exact ⟨undef, rfl, hB, hR, by rw [hd]; exact hG⟩
/-- a call -/
theorem flow_call {i : Nat} {o : Oper} {d : Nat} (hd : o.dst = some d) (hg : o.guard = none)
    (h : ∀ a w, FlowAt G M B a0 ops o a w → ∃ f args, (execOp a.eval o).run P w = .ok (.enter f args) w ∧ Calls P f args w fun e w' => ∃ v, e = .returned v ∧ B w' ∧ Rel w w' ∧ G d v w') : FlowStep P Q G M B Rel a0 ops i o := by
  intro a w hF hi
  obtain ⟨f, args, hr, hc⟩ := h a w hF
  unfold wpOp
  simp only [hi, wanted_none hg, if_true]
  refine Or.inl ?_
  unfold Oper.wp
  rw [hr]
  refine Calls.mono hc fun e w' he => ?_
  obtain ⟨v, rfl, hB, hR, hG⟩ := he
  exact ⟨v, rfl, hB, hR, by rw [hd]; exact hG⟩
end
end Go.Proofs.YtohcoihdijemfaaGreat

/- A region that draws its order, as in XFlow; what a store has done may be told of the address that stands in a slot (the slot st j of operation j). No program is named here. -/
namespace Go.Proofs.YtohcoihdijemfaaGreat
open Go
section
variable {P : Program} {ops : Array Oper} {Q : Exit → Act → World → Prop} {G : Nat → Value → World → Prop} {st : Nat → Nat} {M : Nat → Value → World → Prop} {B : World → Prop} {Rel : World → World → Prop} {a0 : Act}

structure Flow2 (G : Nat → Value → World → Prop) (st : Nat → Nat) (M : Nat → Value → World → Prop) (B : World → Prop) (a0 : Act) (ops : Array Oper) (listed : Array Bool) (a : Act) (w : World) : Prop where
  base : B w
  size : a.tmps.size = a0.tmps.size
  defers : a.defers = a0.defers
  rest : ∀ d, notDst ops d = true → a.tmps.getD d undef = a0.tmps.getD d undef
  slots : ∀ j oj d, ops[j]? = some oj → listed.getD j false = true → oj.dst = some d → G d (a.tmps.getD d undef) w
  mems : ∀ j oj, ops[j]? = some oj → listed.getD j false = true → oj.dst = none → M j (a.tmps.getD (st j) undef) w
  closed : ∀ j oj, ops[j]? = some oj → listed.getD j false = true → ∀ e ∈ oj.after, Region.binds .any e = true → listed.getD e.on false = true
structure FlowAt2 (G : Nat → Value → World → Prop) (st : Nat → Nat) (M : Nat → Value → World → Prop) (B : World → Prop) (a0 : Act) (ops : Array Oper) (o : Oper) (a : Act) (w : World) : Prop where
  base : B w
  rest : ∀ d, notDst ops d = true → a.tmps.getD d undef = a0.tmps.getD d undef
  dep : ∀ d, waits ops o d = true → G d (a.tmps.getD d undef) w
  mem : ∀ j oj, ops[j]? = some oj → waitsFor o j = true → oj.dst = none → M j (a.tmps.getD (st j) undef) w
def FlowPost2 (G : Nat → Value → World → Prop) (st : Nat → Nat) (M : Nat → Value → World → Prop) (B : World → Prop) (Rel : World → World → Prop) (i : Nat) (o : Oper) (a : Act) (w : World) (v : Value) (w' : World) : Prop :=
  B w' ∧ Rel w w' ∧ match o.dst with | some d => G d v w' | none => M i (a.tmps.getD (st i) undef) w'
def FlowStep2 (P : Program) (Q : Exit → Act → World → Prop) (G : Nat → Value → World → Prop) (st : Nat → Nat) (M : Nat → Value → World → Prop) (B : World → Prop) (Rel : World → World → Prop) (a0 : Act) (ops : Array Oper) (i : Nat) (o : Oper) : Prop :=
  ∀ a w, FlowAt2 G st M B a0 ops o a w → ops[i]? = some o → wpOp P ops Q i (fun a' w' => ∃ v, a' = a.put o.dst v ∧ FlowPost2 G st M B Rel i o a w v w') a w
def FlowSteps2 (P : Program) (Q : Exit → Act → World → Prop) (G : Nat → Value → World → Prop) (st : Nat → Nat) (M : Nat → Value → World → Prop) (B : World → Prop) (Rel : World → World → Prop) (a0 : Act) (ops : Array Oper) : Nat → List Oper → Prop
  | _, [] => True
  | i, o :: r => FlowStep2 P Q G st M B Rel a0 ops i o ∧ FlowSteps2 P Q G st M B Rel a0 ops (i + 1) r
theorem flowSteps2_get : ∀ (l : List Oper) (i k : Nat) (o : Oper), FlowSteps2 P Q G st M B Rel a0 ops i l → l[k]? = some o → FlowStep2 P Q G st M B Rel a0 ops (i + k) o := by
  intro l
  induction l with
  | nil => intro i k o h hk; simp at hk
  | cons x r ih =>
    intro i k o h hk
    cases k with
    | zero => simp at hk; subst hk; exact h.1
    | succ k => have := ih (i + 1) k o h.2 (by simpa using hk); rwa [show i + (k + 1) = i + 1 + k by omega]
/-- each store's slot is one that it waits for, or that nobody writes -/
def stOk (ops : Array Oper) (st : Nat → Nat) : Bool := (List.range ops.size).all fun j => ((ops[j]?).map fun o => o.dst.isSome || waits ops o (st j) || notDst ops (st j)).getD true
theorem flow2_any (ht : topo ops = true) (ho : once ops a0.tmps.size = true) (stab : ∀ d u w w', Rel w w' → G d u w → G d u w') (stabM : ∀ j u w w', Rel w w' → M j u w → M j u w') (hstk : stOk ops st = true)
    (steps : FlowSteps2 P Q G st M B Rel a0 ops 0 ops.toList)
    (fin : ∀ a w, B w → a.tmps.size = a0.tmps.size → a.defers = a0.defers → (∀ d, notDst ops d = true → a.tmps.getD d undef = a0.tmps.getD d undef) → (∀ d, isDst ops d = true → G d (a.tmps.getD d undef) w) →
      (∀ j oj, ops[j]? = some oj → oj.dst = none → M j (a.tmps.getD (st j) undef) w) → Q .normal a w) :
    ∀ (fuel : Nat) (listed : Array Bool) (a : Act) (w : World), listed.size = ops.size → unlisted ops listed ≤ fuel → Flow2 G st M B a0 ops listed a w → wpAny P .any ops Q fuel listed a w := by
  have inn : ∀ {j : Nat} {oj : Oper}, ops[j]? = some oj → j < ops.size := by
    intro j oj hj
    rcases Nat.lt_or_ge j ops.size with h' | h'
    · exact h'
    · rw [Array.getElem?_eq_none h'] at hj; cases hj
  have go : ∀ (listed : Array Bool) (a : Act) (w : World), listed.size = ops.size → Flow2 G st M B a0 ops listed a w → Region.ready .any ops listed = [] → Q .normal a w := by
    intro listed a w hs hF hr
    have hall := all_listed ht hs hr
    refine fin a w hF.base hF.size hF.defers hF.rest (fun d hd => ?_) (fun j oj hj hn => hF.mems j oj hj (hall j (inn hj)) hn)
    obtain ⟨k, hk, hb⟩ := Array.any_eq_true.1 hd
    exact hF.slots k ops[k] d (Array.getElem?_eq_getElem hk) (hall k hk) (by simpa using hb)
  intro fuel
  induction fuel with
  | zero =>
    intro listed a w hs hu hF
    have hr : Region.ready .any ops listed = [] := by
      cases hc : Region.ready .any ops listed with
      | nil => rfl
      | cons x r =>
        have := unlisted_lt (ops := ops) (listed := listed) (i := x) (by rw [hc]; exact List.mem_cons_self ..)
        omega
    exact ⟨hr, go listed a w hs hF hr⟩
  | succ fuel ih =>
    intro listed a w hs hu hF
    refine ⟨go listed a w hs hF, fun i hi => ?_⟩
    obtain ⟨h0, o, hoi, hall⟩ := mem_ready.1 hi
    have hst := flowSteps2_get ops.toList 0 i o steps (by rw [Array.getElem?_toList]; exact hoi)
    rw [Nat.zero_add] at hst
    have hat : FlowAt2 G st M B a0 ops o a w := ⟨hF.base, hF.rest, fun d hd => by
        obtain ⟨k, hk, hb⟩ := Array.any_eq_true.1 hd
        simp only [Bool.and_eq_true, beq_iff_eq] at hb
        have hl := hall _ (Array.getElem_mem hk) hb.1
        cases hx : ops[o.after[k].on]? with
        | none => rw [hx] at hb; cases hb.2
        | some oj => rw [hx] at hb; exact hF.slots _ oj d hx hl hb.2,
      fun j oj hj ha hn => by
        obtain ⟨k, hk, hb⟩ := Array.any_eq_true.1 ha
        simp only [Bool.and_eq_true, beq_iff_eq] at hb
        have hl := hall _ (Array.getElem_mem hk) hb.1
        rw [hb.2] at hl
        exact hF.mems j oj hj hl hn⟩
    refine wpOp_mono (fun a' w' h => ?_) (hst a w hat hoi)
    obtain ⟨v, rfl, hB, hR, hG⟩ := h
    have hlt := unlisted_lt hi
    refine ih _ _ _ (by simpa using hs) (by omega) ⟨hB, ?_, ?_, ?_, ?_, ?_, ?_⟩
    · rw [← hF.size]; cases o.dst <;> simp [Act.put]
    · rw [← hF.defers]; cases o.dst <;> simp [Act.put]
    · intro d hd
      rw [← hF.rest d hd]
      have hne : o.dst ≠ some d := by
        have := (Array.all_eq_true_iff_forall_mem.1 hd) o (Array.mem_of_getElem? hoi)
        simpa using this
      cases hod : o.dst with
      | none => rfl
      | some d' => rw [hod] at hne; simp [Act.put, Array.getElem?_setIfInBounds_ne (show d' ≠ d from fun e => hne (by rw [e]))]
    · intro j oj d hj hl hd
      by_cases e : i = j
      · subst e
        rw [hoi] at hj
        cases hj
        have hd2 := once_lt ho hoi hd
        rw [← hF.size] at hd2
        rw [hd] at hG ⊢
        simpa [Act.put, hd2] using hG
      · rw [getD_set_ne false e] at hl
        have h1 := hF.slots j oj d hj hl hd
        have hv : (a.put o.dst v).tmps.getD d undef = a.tmps.getD d undef := by
          cases hod : o.dst with
          | none => rfl
          | some d' =>
            have := once_ne ho hoi hj e hod
            rw [hd] at this
            simp [Act.put, Array.getElem?_setIfInBounds_ne (show d' ≠ d from fun e => this (by rw [e]))]
        rw [hv]
        exact stab d _ w w' hR h1
    · intro j oj hj hl hn
      have hv : ∀ jj ojj, ops[jj]? = some ojj → ojj.dst = none → (jj = i ∨ listed.getD jj false = true) → (a.put o.dst v).tmps.getD (st jj) undef = a.tmps.getD (st jj) undef := by
        intro jj ojj hjj hnn hcase
        cases hod : o.dst with
        | none => rfl
        | some d' =>
          have hne : d' ≠ st jj := by
            intro he
            have hs1 := (List.all_eq_true.1 hstk) jj (List.mem_range.2 (inn hjj))
            rw [hjj] at hs1
            simp only [Option.map_some, Option.getD_some, hnn, Option.isSome_none, Bool.false_or, Bool.or_eq_true] at hs1
            rcases hs1 with hs1 | hs1
            · obtain ⟨k, hk, hb⟩ := Array.any_eq_true.1 hs1
              simp only [Bool.and_eq_true, beq_iff_eq] at hb
              rcases hcase with hc | hc
              · subst hc
                rw [hoi] at hjj
                cases hjj
                rw [hod] at hnn
                cases hnn
              · have hl2 := hF.closed jj ojj hjj hc _ (Array.getElem_mem hk) hb.1
                cases hx : ops[ojj.after[k].on]? with
                | none => rw [hx] at hb; cases hb.2
                | some ok =>
                  rw [hx] at hb
                  have hdk : ok.dst = some (st jj) := hb.2
                  by_cases hki : ojj.after[k].on = i
                  · rw [hki] at hl2
                    have hlt2 : i < listed.size := by rw [hs]; exact inn hoi
                    simp [hlt2] at h0 hl2
                    rw [h0] at hl2
                    cases hl2
                  · exact once_ne ho hx hoi hki hdk (by rw [hod, he])
            · have := (Array.all_eq_true_iff_forall_mem.1 hs1) o (Array.mem_of_getElem? hoi)
              rw [hod, he] at this
              simp at this
          simp [Act.put, Array.getElem?_setIfInBounds_ne hne]
      by_cases e : i = j
      · subst e
        rw [hv i oj hj hn (Or.inl rfl)]
        rw [hoi] at hj
        cases hj
        rw [hn] at hG
        exact hG
      · rw [getD_set_ne false e] at hl
        rw [hv j oj hj hn (Or.inr hl)]
        exact stabM j _ w w' hR (hF.mems j oj hj hl hn)
    · intro j oj hj hl e he hb
      by_cases ei : i = j
      · subst ei
        rw [hoi] at hj
        cases hj
        exact getD_set_true (hall e he hb)
      · rw [getD_set_ne false ei] at hl
        exact getD_set_true (hF.closed j oj hj hl e he hb)
/-- A REGION THAT DRAWS ITS ORDER, by one obligation for each operation. G d v w: what slot d has; M j w: what operation j, that has no slot, has done; B: what holds of memory throughout; Rel: what one operation may do to memory. -/
theorem wp_region_flow2 {id : Nat} {w : World} (G : Nat → Value → World → Prop) (st : Nat → Nat) (M : Nat → Value → World → Prop) (B : World → Prop) (Rel : World → World → Prop) (hm : P.follows .mixedOrders = true) (ht : topo ops = true) (ho : once ops a0.tmps.size = true) (hB : B w.drew)
    (stab : ∀ d u w w', Rel w w' → G d u w → G d u w') (stabM : ∀ j u w w', Rel w w' → M j u w → M j u w') (hstk : stOk ops st = true) (steps : FlowSteps2 P Q G st M B Rel a0 ops 0 ops.toList)
    (fin : ∀ a w, B w → a.tmps.size = a0.tmps.size → a.defers = a0.defers → (∀ d, notDst ops d = true → a.tmps.getD d undef = a0.tmps.getD d undef) → (∀ d, isDst ops d = true → G d (a.tmps.getD d undef) w) →
      (∀ j oj, ops[j]? = some oj → oj.dst = none → M j (a.tmps.getD (st j) undef) w) → Q .normal a w) : (Code.region id ops true).wp P Q a0 w :=
  wp_region_any hm (flow2_any ht ho stab stabM hstk steps fin ops.size _ a0 _ (by simp) (by unfold unlisted; exact Nat.le_trans (List.length_filter_le _ _) (by simp))
    ⟨hB, rfl, rfl, fun _ _ => rfl, fun j oj d _ hl _ => by
      by_cases h : j < ops.size <;> simp [h] at hl, fun j oj _ hl _ => by
      by_cases h : j < ops.size <;> simp [h] at hl, fun j oj _ hl => by
      by_cases h : j < ops.size <;> simp [h] at hl⟩)

/-- an operation that yields a value -/
theorem flow2_value {i : Nat} {o : Oper} {d : Nat} (hd : o.dst = some d) (hg : o.guard = none) (h : ∀ a w, FlowAt2 G st M B a0 ops o a w → ∃ v w', (execOp a.eval o).run P w = .ok (.value v) w' ∧ B w' ∧ Rel w w' ∧ G d v w') : FlowStep2 P Q G st M B Rel a0 ops i o := by
  intro a w hF hi
  obtain ⟨v, w', hr, hB, hR, hG⟩ := h a w hF
  unfold wpOp
  simp only [hi, wanted_none hg, if_true]
  refine Or.inl ?_
  unfold Oper.wp
  rw [hr]
  exact ⟨v, rfl, hB, hR, by rw [hd]; exact hG⟩
/-- an operation that leaves no value -/
theorem flow2_skip {i : Nat} {o : Oper} (hd : o.dst = none) (hg : o.guard = none) (h : ∀ a w, FlowAt2 G st M B a0 ops o a w → ∃ w', (execOp a.eval o).run P w = .ok .skip w' ∧ B w' ∧ Rel w w' ∧ M i (a.tmps.getD (st i) undef) w') : FlowStep2 P Q G st M B Rel a0 ops i o := by
  intro a w hF hi
  obtain ⟨w', hr, hB, hR, hG⟩ := h a w hF
  unfold wpOp
  simp only [hi, wanted_none hg, if_true]
  refine Or.inl ?_
  unfold Oper.wp
  rw [hr]
  exact ⟨undef, rfl, hB, hR, by rw [hd]; exact hG⟩
/-- a call -/
theorem flow2_call {i : Nat} {o : Oper} {d : Nat} (hd : o.dst = some d) (hg : o.guard = none)
    (h : ∀ a w, FlowAt2 G st M B a0 ops o a w → ∃ f args, (execOp a.eval o).run P w = .ok (.enter f args) w ∧ Calls P f args w fun e w' => ∃ v, e = .returned v ∧ B w' ∧ Rel w w' ∧ G d v w') : FlowStep2 P Q G st M B Rel a0 ops i o := by
  intro a w hF hi
  obtain ⟨f, args, hr, hc⟩ := h a w hF
  unfold wpOp
  simp only [hi, wanted_none hg, if_true]
  refine Or.inl ?_
  unfold Oper.wp
  rw [hr]
  refine Calls.mono hc fun e w' he => ?_
  obtain ⟨v, rfl, hB, hR, hG⟩ := he
  exact ⟨v, rfl, hB, hR, by rw [hd]; exact hG⟩
end
end Go.Proofs.YtohcoihdijemfaaGreat

/- A region that draws its order, as in XFlow2; what a store has done may be told of the address that stands in a slot (the slot st j of operation j). No program is named here. -/
namespace Go.Proofs.YtohcoihdijemfaaGreat
open Go
section
variable {P : Program} {ops : Array Oper} {Q : Exit → Act → World → Prop} {G : Nat → Value → World → Prop} {st : Nat → Nat} {M : Nat → Value → World → Prop} {B : World → Prop} {ps : List Nat} {a0 : Act}

/-- the pointers in the slots ps go to blocks that are there, all apart -/
def PtrsApart (ps : List Nat) (a : Act) (w : World) : Prop :=
  ∀ s ∈ ps, ∀ C, a.tmps.getD s undef = .pointer (some ⟨C, 0, none⟩) → C < w.heap.size ∧ ∀ t ∈ ps, t ≠ s → a.tmps.getD t undef ≠ .pointer (some ⟨C, 0, none⟩)
theorem ptrs_grown {ps : List Nat} {a : Act} {w w' : World} (h : PtrsApart ps a w) (hs : w.heap.size ≤ w'.heap.size) : PtrsApart ps a w' :=
  fun s hm C e => ⟨Nat.lt_of_lt_of_le (h s hm C e).1 hs, (h s hm C e).2⟩
theorem put_getD {a : Act} {dst : Option Tmp} {v : Value} {s : Nat} (h : dst ≠ some s) : (a.put dst v).tmps.getD s undef = a.tmps.getD s undef := by
  cases dst with
  | none => rfl
  | some d => simp [Act.put, Array.getElem?_setIfInBounds_ne (show d ≠ s from fun e => h (by rw [e]))]
theorem ptrs_put {ps : List Nat} {a : Act} {w w' : World} {dst : Option Tmp} {v : Value} (h : PtrsApart ps a w) (hs : w.heap.size ≤ w'.heap.size) (hd : ∀ s ∈ ps, dst ≠ some s) : PtrsApart ps (a.put dst v) w' := by
  intro s hm C e
  rw [put_getD (hd s hm)] at e
  refine ⟨Nat.lt_of_lt_of_le (h s hm C e).1 hs, fun t ht hts => ?_⟩
  rw [put_getD (hd t ht)]
  exact (h s hm C e).2 t ht hts
theorem ptrs_new {ps : List Nat} {a : Act} {w w' : World} {d : Nat} (h : PtrsApart ps a w) (hs : w.heap.size < w'.heap.size) (hd : d < a.tmps.size) : PtrsApart ps (a.put (some d) (.pointer (some ⟨w.heap.size, 0, none⟩))) w' := by
  have hsame : ∀ v, (a.put (some d) v).tmps.getD d undef = v := fun v => by simp [Act.put, hd]
  intro s hm C e
  by_cases e1 : d = s
  · subst e1
    rw [hsame] at e
    cases e
    refine ⟨hs, fun t ht hts e2 => ?_⟩
    rw [put_getD (by intro e3; exact hts (Option.some.inj e3).symm)] at e2
    have := (h t ht _ e2).1
    omega
  · rw [put_getD (by intro e3; exact e1 (Option.some.inj e3))] at e
    refine ⟨by have := (h s hm C e).1; omega, fun t ht hts => ?_⟩
    by_cases e2 : d = t
    · subst e2
      rw [hsame]
      intro e3
      cases e3
      have := (h s hm _ e).1
      omega
    · rw [put_getD (by intro e3; exact e2 (Option.some.inj e3))]
      exact (h s hm C e).2 t ht hts
structure Flow3 (G : Nat → Value → World → Prop) (st : Nat → Nat) (M : Nat → Value → World → Prop) (B : World → Prop) (ps : List Nat) (a0 : Act) (ops : Array Oper) (listed : Array Bool) (a : Act) (w : World) : Prop where
  base : B w
  size : a.tmps.size = a0.tmps.size
  defers : a.defers = a0.defers
  rest : ∀ d, notDst ops d = true → a.tmps.getD d undef = a0.tmps.getD d undef
  slots : ∀ j oj d, ops[j]? = some oj → listed.getD j false = true → oj.dst = some d → G d (a.tmps.getD d undef) w
  mems : ∀ j oj, ops[j]? = some oj → listed.getD j false = true → oj.dst = none → M j (a.tmps.getD (st j) undef) w
  ptrs : PtrsApart ps a w
  closed : ∀ j oj, ops[j]? = some oj → listed.getD j false = true → ∀ e ∈ oj.after, Region.binds .any e = true → listed.getD e.on false = true
structure FlowAt3 (G : Nat → Value → World → Prop) (st : Nat → Nat) (M : Nat → Value → World → Prop) (B : World → Prop) (ps : List Nat) (a0 : Act) (ops : Array Oper) (o : Oper) (a : Act) (w : World) : Prop where
  base : B w
  size : a.tmps.size = a0.tmps.size
  ptrs : PtrsApart ps a w
  rest : ∀ d, notDst ops d = true → a.tmps.getD d undef = a0.tmps.getD d undef
  dep : ∀ d, waits ops o d = true → G d (a.tmps.getD d undef) w
  mem : ∀ j oj, ops[j]? = some oj → waitsFor o j = true → oj.dst = none → M j (a.tmps.getD (st j) undef) w
def FlowPost3 (G : Nat → Value → World → Prop) (st : Nat → Nat) (M : Nat → Value → World → Prop) (B : World → Prop) (ps : List Nat) (ops : Array Oper) (i : Nat) (o : Oper) (a : Act) (w : World) (v : Value) (w' : World) : Prop :=
  B w' ∧ (∀ d u, G d u w → G d u w') ∧ (∀ j oj, j ≠ i → ops[j]? = some oj → oj.dst = none → M j (a.tmps.getD (st j) undef) w → M j (a.tmps.getD (st j) undef) w') ∧ PtrsApart ps (a.put o.dst v) w' ∧
    match o.dst with | some d => G d v w' | none => M i (a.tmps.getD (st i) undef) w'
def FlowStep3 (P : Program) (Q : Exit → Act → World → Prop) (G : Nat → Value → World → Prop) (st : Nat → Nat) (M : Nat → Value → World → Prop) (B : World → Prop) (ps : List Nat) (a0 : Act) (ops : Array Oper) (i : Nat) (o : Oper) : Prop :=
  ∀ a w, FlowAt3 G st M B ps a0 ops o a w → ops[i]? = some o → wpOp P ops Q i (fun a' w' => ∃ v, a' = a.put o.dst v ∧ FlowPost3 G st M B ps ops i o a w v w') a w
def FlowSteps3 (P : Program) (Q : Exit → Act → World → Prop) (G : Nat → Value → World → Prop) (st : Nat → Nat) (M : Nat → Value → World → Prop) (B : World → Prop) (ps : List Nat) (a0 : Act) (ops : Array Oper) : Nat → List Oper → Prop
  | _, [] => True
  | i, o :: r => FlowStep3 P Q G st M B ps a0 ops i o ∧ FlowSteps3 P Q G st M B ps a0 ops (i + 1) r
theorem flowSteps3_get : ∀ (l : List Oper) (i k : Nat) (o : Oper), FlowSteps3 P Q G st M B ps a0 ops i l → l[k]? = some o → FlowStep3 P Q G st M B ps a0 ops (i + k) o := by
  intro l
  induction l with
  | nil => intro i k o h hk; simp at hk
  | cons x r ih =>
    intro i k o h hk
    cases k with
    | zero => simp at hk; subst hk; exact h.1
    | succ k => have := ih (i + 1) k o h.2 (by simpa using hk); rwa [show i + (k + 1) = i + 1 + k by omega]
theorem flow3_any (ht : topo ops = true) (ho : once ops a0.tmps.size = true) (hstk : stOk ops st = true)
    (steps : FlowSteps3 P Q G st M B ps a0 ops 0 ops.toList)
    (fin : ∀ a w, B w → a.tmps.size = a0.tmps.size → a.defers = a0.defers → (∀ d, notDst ops d = true → a.tmps.getD d undef = a0.tmps.getD d undef) → (∀ d, isDst ops d = true → G d (a.tmps.getD d undef) w) →
      (∀ j oj, ops[j]? = some oj → oj.dst = none → M j (a.tmps.getD (st j) undef) w) → Q .normal a w) :
    ∀ (fuel : Nat) (listed : Array Bool) (a : Act) (w : World), listed.size = ops.size → unlisted ops listed ≤ fuel → Flow3 G st M B ps a0 ops listed a w → wpAny P .any ops Q fuel listed a w := by
  have inn : ∀ {j : Nat} {oj : Oper}, ops[j]? = some oj → j < ops.size := by
    intro j oj hj
    rcases Nat.lt_or_ge j ops.size with h' | h'
    · exact h'
    · rw [Array.getElem?_eq_none h'] at hj; cases hj
  have go : ∀ (listed : Array Bool) (a : Act) (w : World), listed.size = ops.size → Flow3 G st M B ps a0 ops listed a w → Region.ready .any ops listed = [] → Q .normal a w := by
    intro listed a w hs hF hr
    have hall := all_listed ht hs hr
    refine fin a w hF.base hF.size hF.defers hF.rest (fun d hd => ?_) (fun j oj hj hn => hF.mems j oj hj (hall j (inn hj)) hn)
    obtain ⟨k, hk, hb⟩ := Array.any_eq_true.1 hd
    exact hF.slots k ops[k] d (Array.getElem?_eq_getElem hk) (hall k hk) (by simpa using hb)
  intro fuel
  induction fuel with
  | zero =>
    intro listed a w hs hu hF
    have hr : Region.ready .any ops listed = [] := by
      cases hc : Region.ready .any ops listed with
      | nil => rfl
      | cons x r =>
        have := unlisted_lt (ops := ops) (listed := listed) (i := x) (by rw [hc]; exact List.mem_cons_self ..)
        omega
    exact ⟨hr, go listed a w hs hF hr⟩
  | succ fuel ih =>
    intro listed a w hs hu hF
    refine ⟨go listed a w hs hF, fun i hi => ?_⟩
    obtain ⟨h0, o, hoi, hall⟩ := mem_ready.1 hi
    have hst := flowSteps3_get ops.toList 0 i o steps (by rw [Array.getElem?_toList]; exact hoi)
    rw [Nat.zero_add] at hst
    have hat : FlowAt3 G st M B ps a0 ops o a w := ⟨hF.base, hF.size, hF.ptrs, hF.rest, fun d hd => by
        obtain ⟨k, hk, hb⟩ := Array.any_eq_true.1 hd
        simp only [Bool.and_eq_true, beq_iff_eq] at hb
        have hl := hall _ (Array.getElem_mem hk) hb.1
        cases hx : ops[o.after[k].on]? with
        | none => rw [hx] at hb; cases hb.2
        | some oj => rw [hx] at hb; exact hF.slots _ oj d hx hl hb.2,
      fun j oj hj ha hn => by
        obtain ⟨k, hk, hb⟩ := Array.any_eq_true.1 ha
        simp only [Bool.and_eq_true, beq_iff_eq] at hb
        have hl := hall _ (Array.getElem_mem hk) hb.1
        rw [hb.2] at hl
        exact hF.mems j oj hj hl hn⟩
    refine wpOp_mono (fun a' w' h => ?_) (hst a w hat hoi)
    obtain ⟨v, rfl, hB, hRG, hRM, hPt, hG⟩ := h
    have hlt := unlisted_lt hi
    refine ih _ _ _ (by simpa using hs) (by omega) ⟨hB, ?_, ?_, ?_, ?_, ?_, hPt, ?_⟩
    · rw [← hF.size]; cases o.dst <;> simp [Act.put]
    · rw [← hF.defers]; cases o.dst <;> simp [Act.put]
    · intro d hd
      rw [← hF.rest d hd]
      have hne : o.dst ≠ some d := by
        have := (Array.all_eq_true_iff_forall_mem.1 hd) o (Array.mem_of_getElem? hoi)
        simpa using this
      cases hod : o.dst with
      | none => rfl
      | some d' => rw [hod] at hne; simp [Act.put, Array.getElem?_setIfInBounds_ne (show d' ≠ d from fun e => hne (by rw [e]))]
    · intro j oj d hj hl hd
      by_cases e : i = j
      · subst e
        rw [hoi] at hj
        cases hj
        have hd2 := once_lt ho hoi hd
        rw [← hF.size] at hd2
        rw [hd] at hG ⊢
        simpa [Act.put, hd2] using hG
      · rw [getD_set_ne false e] at hl
        have h1 := hF.slots j oj d hj hl hd
        have hv : (a.put o.dst v).tmps.getD d undef = a.tmps.getD d undef := by
          cases hod : o.dst with
          | none => rfl
          | some d' =>
            have := once_ne ho hoi hj e hod
            rw [hd] at this
            simp [Act.put, Array.getElem?_setIfInBounds_ne (show d' ≠ d from fun e => this (by rw [e]))]
        rw [hv]
        exact hRG d _ h1
    · intro j oj hj hl hn
      have hv : ∀ jj ojj, ops[jj]? = some ojj → ojj.dst = none → (jj = i ∨ listed.getD jj false = true) → (a.put o.dst v).tmps.getD (st jj) undef = a.tmps.getD (st jj) undef := by
        intro jj ojj hjj hnn hcase
        cases hod : o.dst with
        | none => rfl
        | some d' =>
          have hne : d' ≠ st jj := by
            intro he
            have hs1 := (List.all_eq_true.1 hstk) jj (List.mem_range.2 (inn hjj))
            rw [hjj] at hs1
            simp only [Option.map_some, Option.getD_some, hnn, Option.isSome_none, Bool.false_or, Bool.or_eq_true] at hs1
            rcases hs1 with hs1 | hs1
            · obtain ⟨k, hk, hb⟩ := Array.any_eq_true.1 hs1
              simp only [Bool.and_eq_true, beq_iff_eq] at hb
              rcases hcase with hc | hc
              · subst hc
                rw [hoi] at hjj
                cases hjj
                rw [hod] at hnn
                cases hnn
              · have hl2 := hF.closed jj ojj hjj hc _ (Array.getElem_mem hk) hb.1
                cases hx : ops[ojj.after[k].on]? with
                | none => rw [hx] at hb; cases hb.2
                | some ok =>
                  rw [hx] at hb
                  have hdk : ok.dst = some (st jj) := hb.2
                  by_cases hki : ojj.after[k].on = i
                  · rw [hki] at hl2
                    have hlt2 : i < listed.size := by rw [hs]; exact inn hoi
                    simp [hlt2] at h0 hl2
                    rw [h0] at hl2
                    cases hl2
                  · exact once_ne ho hx hoi hki hdk (by rw [hod, he])
            · have := (Array.all_eq_true_iff_forall_mem.1 hs1) o (Array.mem_of_getElem? hoi)
              rw [hod, he] at this
              simp at this
          simp [Act.put, Array.getElem?_setIfInBounds_ne hne]
      by_cases e : i = j
      · subst e
        rw [hv i oj hj hn (Or.inl rfl)]
        rw [hoi] at hj
        cases hj
        rw [hn] at hG
        exact hG
      · rw [getD_set_ne false e] at hl
        rw [hv j oj hj hn (Or.inr hl)]
        exact hRM j oj (fun e2 => e e2.symm) hj hn (hF.mems j oj hj hl hn)
    · intro j oj hj hl e he hb
      by_cases ei : i = j
      · subst ei
        rw [hoi] at hj
        cases hj
        exact getD_set_true (hall e he hb)
      · rw [getD_set_ne false ei] at hl
        exact getD_set_true (hF.closed j oj hj hl e he hb)
/-- A REGION THAT DRAWS ITS ORDER, by one obligation for each operation. G d v w: what slot d has; M j w: what operation j, that has no slot, has done; B: what holds of memory throughout; Rel: what one operation may do to memory. -/
theorem wp_region_flow3 {id : Nat} {w : World} (G : Nat → Value → World → Prop) (st : Nat → Nat) (M : Nat → Value → World → Prop) (B : World → Prop) (ps : List Nat) (hm : P.follows .mixedOrders = true) (ht : topo ops = true) (ho : once ops a0.tmps.size = true) (hB : B w.drew) (hps : PtrsApart ps a0 w.drew)
    (hstk : stOk ops st = true) (steps : FlowSteps3 P Q G st M B ps a0 ops 0 ops.toList)
    (fin : ∀ a w, B w → a.tmps.size = a0.tmps.size → a.defers = a0.defers → (∀ d, notDst ops d = true → a.tmps.getD d undef = a0.tmps.getD d undef) → (∀ d, isDst ops d = true → G d (a.tmps.getD d undef) w) →
      (∀ j oj, ops[j]? = some oj → oj.dst = none → M j (a.tmps.getD (st j) undef) w) → Q .normal a w) : (Code.region id ops true).wp P Q a0 w :=
  wp_region_any hm (flow3_any ht ho hstk steps fin ops.size _ a0 _ (by simp) (by unfold unlisted; exact Nat.le_trans (List.length_filter_le _ _) (by simp))
    ⟨hB, rfl, rfl, fun _ _ => rfl, fun j oj d _ hl _ => by
      by_cases h : j < ops.size <;> simp [h] at hl, fun j oj _ hl _ => by
      by_cases h : j < ops.size <;> simp [h] at hl, hps, fun j oj _ hl => by
      by_cases h : j < ops.size <;> simp [h] at hl⟩)

/-- the guard of an operation says yes -/
def Wants (ops : Array Oper) (o : Oper) (a : Act) : Prop := Region.wanted o (yielded ops a.tmps) = true
theorem wants_none {o : Oper} {a : Act} (h : o.guard = none) : Wants ops o a := wanted_none h _
theorem wants_some {o : Oper} {a : Act} {j d : Nat} {b : Bool} (h : o.guard = some (j, b)) (hj : (ops[j]?).bind (·.dst) = some d) (hd : d < a.tmps.size) (hv : a.tmps.getD d undef = .bool b) : Wants ops o a := by
  unfold Wants Region.wanted yielded
  rw [h]
  have : a.tmps[d]? = some (.bool b) := by
    rw [Array.getElem?_eq_getElem hd]
    simp [hd] at hv
    rw [hv]
  simp [hj, this]
theorem not_wants {o : Oper} {a : Act} {j d : Nat} {b c : Bool} (h : o.guard = some (j, b)) (hj : (ops[j]?).bind (·.dst) = some d) (hd : d < a.tmps.size) (hv : a.tmps.getD d undef = .bool c) (hbc : c ≠ b) : Region.wanted o (yielded ops a.tmps) = false := by
  unfold Region.wanted yielded
  rw [h]
  have : a.tmps[d]? = some (.bool c) := by
    rw [Array.getElem?_eq_getElem hd]
    simp [hd] at hv
    rw [hv]
  simp [hj, this, hbc]
theorem flow3_skipped {i : Nat} {o : Oper} {d : Nat} (hd : o.dst = some d) (hps : ∀ s ∈ ps, s ≠ d) (hG : ∀ w, B w → G d undef w)
    (h : ∀ a w, FlowAt3 G st M B ps a0 ops o a w → Region.wanted o (yielded ops a.tmps) = false) : FlowStep3 P Q G st M B ps a0 ops i o := by
  intro a w hF hi
  have hw := h a w hF
  unfold wpOp
  simp only [hi, hw]
  exact ⟨undef, rfl, hF.base, fun _ _ h => h, fun _ _ _ _ _ h => h, ptrs_put hF.ptrs (Nat.le_refl _) (fun s hs e => hps s hs (Option.some.inj (hd ▸ e)).symm), by rw [hd]; exact hG w hF.base⟩
/-- an operation that yields a value -/
theorem flow3_value {i : Nat} {o : Oper} {d : Nat} (hd : o.dst = some d) (h : ∀ a w, FlowAt3 G st M B ps a0 ops o a w → Wants ops o a ∧ ∃ v w', (execOp a.eval o).run P w = .ok (.value v) w' ∧ B w' ∧ (∀ d u, G d u w → G d u w') ∧ (∀ j u, M j u w → M j u w') ∧ PtrsApart ps (a.put (some d) v) w' ∧ G d v w') : FlowStep3 P Q G st M B ps a0 ops i o := by
  intro a w hF hi
  obtain ⟨hw, v, w', hr, hB, hRG, hRM, hP, hG⟩ := h a w hF
  unfold Wants at hw
  unfold wpOp
  simp only [hi, hw, if_true]
  refine Or.inl ?_
  unfold Oper.wp
  rw [hr]
  exact ⟨v, rfl, hB, hRG, fun j oj _ _ _ h => hRM j _ h, by rw [hd]; exact hP, by rw [hd]; exact hG⟩
/-- an operation that leaves no value: a store -/
theorem flow3_store {i : Nat} {o : Oper} (hd : o.dst = none) (h : ∀ a w, FlowAt3 G st M B ps a0 ops o a w → Wants ops o a ∧ ∃ w', (execOp a.eval o).run P w = .ok .skip w' ∧ B w' ∧ (∀ d u, G d u w → G d u w') ∧ (∀ j oj, j ≠ i → ops[j]? = some oj → oj.dst = none → M j (a.tmps.getD (st j) undef) w → M j (a.tmps.getD (st j) undef) w') ∧ w.heap.size ≤ w'.heap.size ∧ M i (a.tmps.getD (st i) undef) w') : FlowStep3 P Q G st M B ps a0 ops i o := by
  intro a w hF hi
  obtain ⟨hw, w', hr, hB, hRG, hRM, hs, hG⟩ := h a w hF
  unfold Wants at hw
  unfold wpOp
  simp only [hi, hw, if_true]
  refine Or.inl ?_
  unfold Oper.wp
  rw [hr]
  exact ⟨undef, rfl, hB, hRG, hRM, by rw [hd]; exact ptrs_grown hF.ptrs hs, by rw [hd]; exact hG⟩
/-- a call -/
theorem flow3_call {i : Nat} {o : Oper} {d : Nat} (hd : o.dst = some d)
    (h : ∀ a w, FlowAt3 G st M B ps a0 ops o a w → Wants ops o a ∧ ∃ f args, (execOp a.eval o).run P w = .ok (.enter f args) w ∧ Calls P f args w fun e w' => ∃ v, e = .returned v ∧ B w' ∧ (∀ d u, G d u w → G d u w') ∧ (∀ j u, M j u w → M j u w') ∧ PtrsApart ps (a.put (some d) v) w' ∧ G d v w') : FlowStep3 P Q G st M B ps a0 ops i o := by
  intro a w hF hi
  obtain ⟨hw, f, args, hr, hc⟩ := h a w hF
  unfold Wants at hw
  unfold wpOp
  simp only [hi, hw, if_true]
  refine Or.inl ?_
  unfold Oper.wp
  rw [hr]
  refine Calls.mono hc fun e w' he => ?_
  obtain ⟨v, rfl, hB, hRG, hRM, hP, hG⟩ := he
  exact ⟨v, rfl, hB, hRG, fun j oj _ _ _ h => hRM j _ h, by rw [hd]; exact hP, by rw [hd]; exact hG⟩
end
end Go.Proofs.YtohcoihdijemfaaGreat

/- Regions that draw their order, whatever is in their slots: values, slices of bytes, with guards; no stores. -/
namespace Go.Proofs.YtohcoihdijemfaaGreat
open Go.RowKit Ow
namespace Fg
def AllAt (a : Act) : Nat → List Value → Prop
  | _, [] => True
  | i, v :: r => a.tmps.getD i undef = v ∧ AllAt a (i + 1) r
theorem allAt_get {a : Act} : ∀ (vs : List Value) (i k : Nat) (v : Value), AllAt a i vs → vs[k]? = some v → a.tmps.getD (i + k) undef = v := by
  intro vs
  induction vs with
  | nil => intro i k v _ h; simp at h
  | cons x r ih =>
    intro i k v h hk
    cases k with
    | zero => simp at hk; subst hk; exact h.1
    | succ k => have := ih (i + 1) k v h.2 (by simpa using hk); rwa [show i + (k + 1) = i + 1 + k by omega]
theorem frame_is {a : Act} {vs : List Value} (hs : a.tmps.size = vs.length) (h : AllAt a 0 vs) (hd : a.defers = []) : a = { tmps := vs.toArray, defers := [] } := by
  have ht : a.tmps = vs.toArray := by
    apply Array.ext_getElem?
    intro i
    by_cases hi : i < a.tmps.size
    · have h2 : i < vs.length := by omega
      have := allAt_get vs 0 i vs[i] h (List.getElem?_eq_getElem h2)
      rw [Nat.zero_add] at this
      simp [hi] at this
      rw [Array.getElem?_eq_getElem hi, this]
      simp [h2]
    · rw [Array.getElem?_eq_none (by omega), Array.getElem?_eq_none (by simp; omega)]
  cases a
  simp at ht hd
  rw [ht, hd]

/-- what a slot has, and keeps -/
structure It where
  p : Value → World → Prop
  m : ∀ v w w', p v w → w.grownBy w' none → p v w'
def It.any : It := ⟨fun _ _ => True, fun _ _ _ _ _ => trivial⟩
def It.val (x : Value) : It := ⟨fun v _ => v = x, fun _ _ _ h _ => h⟩
/-- a slice of n bytes -/
def It.byt (n : Nat) (l : List Nat) : It := ⟨fun v w => ∃ a cap B, v = .slice a n cap ∧ BytesAt w B a cap l, fun _ _ _ ⟨a, cap, B, e, h⟩ hg => ⟨a, cap, B, e, h.stay hg⟩⟩
def its (L : List It) (d : Nat) (v : Value) (w : World) : Prop := (L.getD d .any).p v w
theorem its_grown {L : List It} {w w' : World} (hg : w.grownBy w' none) (d : Nat) (v : Value) (h : its L d v w) : its L d v w' := (L.getD d .any).m _ _ _ h hg
section
variable {P : Program} {ops : Array Oper} {Q : Exit → Act → World → Prop} {L : List It} {w0 : World} {a0 : Act}
abbrev At (L : List It) (w0 : World) (a0 : Act) (ops : Array Oper) (o : Oper) (a : Act) (w : World) : Prop := FlowAt3 (its L) (fun _ => 0) (fun _ _ _ => True) (fun w => w0.grownBy w none) [] a0 ops o a w
abbrev Step (P : Program) (Q : Exit → Act → World → Prop) (L : List It) (w0 : World) (a0 : Act) (ops : Array Oper) (i : Nat) (o : Oper) : Prop := FlowStep3 P Q (its L) (fun _ => 0) (fun _ _ _ => True) (fun w => w0.grownBy w none) [] a0 ops i o
theorem ptrs_nil (a : Act) (w : World) : PtrsApart [] a w := by unfold PtrsApart; simp
theorem value {i : Nat} {o : Oper} {d : Nat} (hd : o.dst = some d)
    (h : ∀ a w, At L w0 a0 ops o a w → Wants ops o a ∧ ∃ v w', (execOp a.eval o).run P w = .ok (.value v) w' ∧ w.grownBy w' none ∧ its L d v w') : Step P Q L w0 a0 ops i o :=
  flow3_value hd fun a w hF => by
    obtain ⟨hw, v, w', hr, hg, hG⟩ := h a w hF
    exact ⟨hw, v, w', hr, gb_trans hF.base hg, fun d u => its_grown hg d u, fun _ _ h => h, ptrs_nil _ _, hG⟩
theorem call {i : Nat} {o : Oper} {d : Nat} (hd : o.dst = some d)
    (h : ∀ a w, At L w0 a0 ops o a w → Wants ops o a ∧ ∃ f args, (execOp a.eval o).run P w = .ok (.enter f args) w ∧ Calls P f args w fun e w' => ∃ v, e = .returned v ∧ w.grownBy w' none ∧ its L d v w') : Step P Q L w0 a0 ops i o :=
  flow3_call hd fun a w hF => by
    obtain ⟨hw, f, args, hr, hc⟩ := h a w hF
    refine ⟨hw, f, args, hr, hc.mono fun e w' he => ?_⟩
    obtain ⟨v, rfl, hg, hG⟩ := he
    exact ⟨v, rfl, gb_trans hF.base hg, fun d u => its_grown hg d u, fun _ _ h => h, ptrs_nil _ _, hG⟩
theorem skipped {i : Nat} {o : Oper} {d : Nat} (hd : o.dst = some d) (hG : ∀ w, its L d undef w)
    (h : ∀ a w, At L w0 a0 ops o a w → Region.wanted o (yielded ops a.tmps) = false) : Step P Q L w0 a0 ops i o :=
  flow3_skipped hd (fun s hs => by cases hs) (fun w _ => hG w) h
theorem no_store {ops : Array Oper} (h : (ops.toList.all fun o => o.dst.isSome) = true) : stOk ops (fun _ => 0) = true := by
  unfold stOk
  rw [List.all_eq_true]
  intro j hj
  have hj2 := List.mem_range.1 hj
  rw [Array.getElem?_eq_getElem hj2]
  have := List.all_eq_true.1 h ops[j] (by simp)
  simp [this]
end
theorem not_wants_undef {ops : Array Oper} {o : Oper} {a : Act} {j d : Nat} {b : Bool} (h : o.guard = some (j, b)) (hj : (ops[j]?).bind (·.dst) = some d) (hd : d < a.tmps.size) (hv : a.tmps.getD d undef = undef) : Region.wanted o (yielded ops a.tmps) = false := by
  unfold Region.wanted yielded
  rw [h]
  have : a.tmps[d]? = some undef := by
    rw [Array.getElem?_eq_getElem hd]
    simp [hd] at hv
    rw [hv]
  simp [hj, this, undef]
end Fg
end Go.Proofs.YtohcoihdijemfaaGreat

/- A region that draws its order and ends, whatever the order, in ONE operation that waits for all others (a store, a call that writes); plus the runs of single operations as laws. No program is named here. -/
namespace Go.Proofs.YtohcoihdijemfaaGreat
open Go Go.RowKit
/-! ### blocks, by ranges -/
theorem Blk.range {w : World} {B : Nat} {T : TypeId} {L : List Value} (h : Blk w B T L) (o : Nat) (cs : List Value) (hL : (L.drop o).take cs.length = cs) : w.rangeAt B o cs := fun j v hv => by
  have hj : j < cs.length := (List.getElem?_eq_some_iff.1 hv).1
  refine h.cell ?_
  rw [← hL, List.getElem?_take_of_lt hj, List.getElem?_drop] at hv
  exact hv
theorem Blk.there {w : World} {B : Nat} {T : TypeId} {L : List Value} (h : Blk w B T L) (o n : Nat) (hn : o + n ≤ L.length) : w.there B o n := fun j hj => by
  have hlt : o + j < L.length := by omega
  exact ⟨by rw [h.cell (List.getElem?_eq_getElem hlt)]; rfl, h.free _⟩
/-- cells put over others, from o on -/
def over : List Value → Nat → List Value → List Value
  | L, _, [] => L
  | L, o, v :: r => over (L.set o v) (o + 1) r
theorem over_length : ∀ (cs L : List Value) (o : Nat), (over L o cs).length = L.length
  | [], _, _ => rfl
  | v :: r, L, o => by rw [over, over_length r]; simp
theorem over_eq : ∀ (cs L : List Value) (o : Nat), o + cs.length ≤ L.length → over L o cs = L.take o ++ cs ++ L.drop (o + cs.length)
  | [], L, o, _ => by rw [over]; simp
  | v :: r, L, o, h => by
    have hl : o < L.length := by simp at h; omega
    rw [over, over_eq r (L.set o v) (o + 1) (by simp at h ⊢; omega)]
    have e1 : (L.set o v).take (o + 1) = L.take o ++ [v] := by
      rw [List.take_set, List.take_succ_eq_append_getElem hl, List.set_append_right _ _ (by simp; omega)]
      simp [Nat.min_eq_left (Nat.le_of_lt hl)]
    have e2 : (L.set o v).drop (o + 1 + r.length) = L.drop (o + (v :: r).length) := by
      rw [List.drop_set_of_lt (by omega), List.length_cons]
      congr 1
      omega
    rw [e1, e2]
    simp
theorem over_all (cs L : List Value) (h : L.length = cs.length) : over L 0 cs = cs := by
  rw [over_eq cs L 0 (by omega)]
  simp [List.drop_eq_nil_of_le (show L.length ≤ cs.length by omega)]
theorem Blk.setCells : ∀ {cs : List Value} {w : World} {B : Nat} {T : TypeId} {L : List Value} (_ : Blk w B T L) (o : Nat), Blk (w.setCells B o cs) B T (over L o cs)
  | [], _, _, _, _, h, _ => h
  | v :: r, w, B, T, L, h, o => by
    rw [World.setCells]
    exact Blk.setCells (cs := r) (h.set o v) (o + 1)
theorem Blk.setAll {cs : List Value} {w : World} {B : Nat} {T : TypeId} {L : List Value} (h : Blk w B T L) (hl : L.length = cs.length) : Blk (w.setCells B 0 cs) B T cs := by
  have := h.setCells (cs := cs) 0
  rwa [over_all cs L hl] at this
theorem Blk.setCells_other : ∀ {cs : List Value} {w : World} {B C : Nat} {T : TypeId} {L : List Value} (_ : Blk w B T L) (o : Nat) (_ : C ≠ B), Blk (w.setCells C o cs) B T L
  | [], _, _, _, _, _, h, _, _ => h
  | v :: r, w, B, C, T, L, h, o, hne => by
    rw [World.setCells]
    exact Blk.setCells_other (cs := r) (h.other (a := ⟨C, o, none⟩) hne v) (o + 1) hne
theorem gb_setCells : ∀ {cs : List Value} {a w : World} {B : Nat} (_ : a.grownBy w (some B)) (o : Nat), a.grownBy (w.setCells B o cs) (some B)
  | [], _, _, _, h, _ => h
  | v :: r, a, w, B, h, o => by
    rw [World.setCells]
    exact gb_setCells (cs := r) (gb_set h o v) (o + 1)
theorem gb_setCells_new : ∀ {cs : List Value} {a w : World} {row : Option Nat} {B : Nat} (_ : a.grownBy w row) (_ : a.heap.size ≤ B) (o : Nat), a.grownBy (w.setCells B o cs) row
  | [], _, _, _, _, h, _, _ => h
  | v :: r, a, w, row, B, h, hB, o => by
    rw [World.setCells]
    exact gb_setCells_new (cs := r) (gb_set_new h (p := ⟨B, o, none⟩) hB v) hB (o + 1)
namespace Fg
/-- one of the first k operations yields slot d -/
def isDstTo (ops : Array Oper) (k d : Nat) : Bool := (List.range k).any fun j => (ops[j]?).bind (·.dst) == some d
/-- from k on the operations go in the text's order, and wait for all that stand ahead -/
def tailOk (ops : Array Oper) (k : Nat) : Bool := (List.range ops.size).all fun t => decide (t < k) || (List.range t).all fun j => (List.range (t + 1)).any fun i => decide (j < i) && ((ops[i]?).map fun o => waitsFor o j).getD false
/-- a pointer to a block that was made since, and what it has -/
def It.fresh (T : TypeId) (V : List Value) (n0 : Nat) : It := ⟨fun v w => ∃ N, v = .pointer (some ⟨N, 0, none⟩) ∧ n0 ≤ N ∧ Blk w N T V, fun _ _ _ ⟨N, e, hn, h⟩ hg => ⟨N, e, hn, h.grown hg (by simp)⟩⟩
/-- a slice of a block that was made since -/
def It.row (T : TypeId) (V : List Value) (n n0 : Nat) : It := ⟨fun v w => ∃ N, v = .slice (some ⟨N, 0, none⟩) n n ∧ n0 ≤ N ∧ Blk w N T V, fun _ _ _ ⟨N, e, hn, h⟩ hg => ⟨N, e, hn, h.grown hg (by simp)⟩⟩
/-- it stays whatever is written in block S -/
def It.Steady (S : Nat) (it : It) : Prop := ∀ v w w', it.p v w → w.grownBy w' (some S) → it.p v w'
theorem any_steady (S : Nat) : It.any.Steady S := fun _ _ _ _ _ => trivial
theorem val_steady (S : Nat) (x : Value) : (It.val x).Steady S := fun _ _ _ h _ => h
theorem fresh_steady {S n0 : Nat} (T : TypeId) (V : List Value) (h : S < n0) : (It.fresh T V n0).Steady S := fun _ _ _ ⟨N, e, hn, hb⟩ hg => ⟨N, e, hn, hb.grown hg (fun e => by have := Option.some.inj e; omega)⟩
theorem row_steady {S n0 : Nat} (T : TypeId) (V : List Value) (n : Nat) (h : S < n0) : (It.row T V n n0).Steady S := fun _ _ _ ⟨N, e, hn, hb⟩ hg => ⟨N, e, hn, hb.grown hg (fun e => by have := Option.some.inj e; omega)⟩
theorem its_steady {S : Nat} {L : List It} (hL : ∀ it ∈ L, it.Steady S) {w w' : World} (hg : w.grownBy w' (some S)) (d : Nat) (v : Value) (h : its L d v w) : its L d v w' := by
  unfold its at *
  by_cases hd : d < L.length
  · rw [List.getD_eq_getElem?_getD, List.getElem?_eq_getElem hd] at *
    exact hL _ (List.getElem_mem hd) v w w' h hg
  · rw [List.getD_eq_getElem?_getD, List.getElem?_eq_none (by omega)] at *
    trivial
section
variable {P : Program} {ops : Array Oper} {Q : Exit → Act → World → Prop} {L : List It} {B : World → Prop} {a0 : Act} {ps : List Nat}
structure AtP (k : Nat) (ps : List Nat) (L : List It) (B : World → Prop) (a0 : Act) (ops : Array Oper) (o : Oper) (a : Act) (w : World) : Prop where
  base : B w
  size : a.tmps.size = a0.tmps.size
  ptrs : PtrsApart ps a w
  rest : ∀ d, isDstTo ops k d = false → a.tmps.getD d undef = a0.tmps.getD d undef
  dep : ∀ d, waits ops o d = true → its L d (a.tmps.getD d undef) w
def PostP (ps : List Nat) (L : List It) (B : World → Prop) (o : Oper) (a : Act) (w : World) (v : Value) (w' : World) : Prop :=
  B w' ∧ (∀ d u, its L d u w → its L d u w') ∧ PtrsApart ps (a.put o.dst v) w' ∧ ∀ d, o.dst = some d → its L d v w'
def StepP (k : Nat) (ps : List Nat) (P : Program) (Q : Exit → Act → World → Prop) (L : List It) (B : World → Prop) (a0 : Act) (ops : Array Oper) (i : Nat) (o : Oper) : Prop :=
  ∀ a w, AtP k ps L B a0 ops o a w → ops[i]? = some o → wpOp P ops Q i (fun a' w' => ∃ v, a' = a.put o.dst v ∧ PostP ps L B o a w v w') a w
theorem not_in {d : Nat} (h : (ps.all fun s => s != d) = true) : ∀ s ∈ ps, (some d : Option Tmp) ≠ some s := fun s hs e => by
  have := (List.all_eq_true.1 h) s hs
  rw [Option.some.inj e] at this
  simp at this
theorem stepValue {k i : Nat} {o : Oper} {d : Nat} (hd : o.dst = some d) (h : ∀ a w, AtP k ps L B a0 ops o a w → Wants ops o a ∧ ∃ v w', (execOp a.eval o).run P w = .ok (.value v) w' ∧ B w' ∧ (∀ d u, its L d u w → its L d u w') ∧ PtrsApart ps (a.put (some d) v) w' ∧ its L d v w') : StepP k ps P Q L B a0 ops i o := by
  intro a w hF hi
  obtain ⟨hw, v, w', hr, hB, hRG, hP, hG⟩ := h a w hF
  unfold Wants at hw
  unfold wpOp
  simp only [hi, hw, if_true]
  refine Or.inl ?_
  unfold Oper.wp
  rw [hr]
  exact ⟨v, rfl, hB, hRG, by rw [hd]; exact hP, fun d' e => by rw [hd] at e; cases e; exact hG⟩
theorem stepCall {k i : Nat} {o : Oper} {d : Nat} (hd : o.dst = some d)
    (h : ∀ a w, AtP k ps L B a0 ops o a w → Wants ops o a ∧ ∃ f args, (execOp a.eval o).run P w = .ok (.enter f args) w ∧ Calls P f args w fun e w' => ∃ v, e = .returned v ∧ B w' ∧ (∀ d u, its L d u w → its L d u w') ∧ PtrsApart ps (a.put (some d) v) w' ∧ its L d v w') : StepP k ps P Q L B a0 ops i o := by
  intro a w hF hi
  obtain ⟨hw, f, args, hr, hc⟩ := h a w hF
  unfold Wants at hw
  unfold wpOp
  simp only [hi, hw, if_true]
  refine Or.inl ?_
  unfold Oper.wp
  rw [hr]
  refine Calls.mono hc fun e w' he => ?_
  obtain ⟨v, rfl, hB, hRG, hP, hG⟩ := he
  exact ⟨v, rfl, hB, hRG, by rw [hd]; exact hP, fun d' e => by rw [hd] at e; cases e; exact hG⟩
theorem valueP {k i : Nat} {o : Oper} {d : Nat} (hBs : ∀ w w', B w → w.grownBy w' none → B w') (hd : o.dst = some d) (hps : (ps.all fun s => s != d) = true)
    (h : ∀ a w, AtP k ps L B a0 ops o a w → Wants ops o a ∧ ∃ v w', (execOp a.eval o).run P w = .ok (.value v) w' ∧ w.grownBy w' none ∧ its L d v w') : StepP k ps P Q L B a0 ops i o :=
  stepValue hd fun a w hF => by
    obtain ⟨hw, v, w', hr, hg, hG⟩ := h a w hF
    exact ⟨hw, v, w', hr, hBs _ _ hF.base hg, fun d u => its_grown hg d u, ptrs_put hF.ptrs hg.size (not_in hps), hG⟩
theorem allocP {k i : Nat} {o : Oper} {d : Nat} (hBs : ∀ w w', B w → w.grownBy w' none → B w') (hd : o.dst = some d) (hlt : d < a0.tmps.size)
    (h : ∀ a w, AtP k ps L B a0 ops o a w → Wants ops o a ∧ ∃ w', (execOp a.eval o).run P w = .ok (.value (.pointer (some ⟨w.heap.size, 0, none⟩))) w' ∧ w.grownBy w' none ∧ w.heap.size < w'.heap.size ∧ its L d (.pointer (some ⟨w.heap.size, 0, none⟩)) w') : StepP k ps P Q L B a0 ops i o :=
  stepValue hd fun a w hF => by
    obtain ⟨hw, w', hr, hg, hs, hG⟩ := h a w hF
    exact ⟨hw, _, w', hr, hBs _ _ hF.base hg, fun d u => its_grown hg d u, ptrs_new hF.ptrs hs (by rw [hF.size]; exact hlt), hG⟩
theorem callP {k i : Nat} {o : Oper} {d : Nat} (hBs : ∀ w w', B w → w.grownBy w' none → B w') (hd : o.dst = some d) (hps : (ps.all fun s => s != d) = true)
    (h : ∀ a w, AtP k ps L B a0 ops o a w → Wants ops o a ∧ ∃ f args, (execOp a.eval o).run P w = .ok (.enter f args) w ∧ Calls P f args w fun e w' => ∃ v, e = .returned v ∧ w.grownBy w' none ∧ its L d v w') : StepP k ps P Q L B a0 ops i o :=
  stepCall hd fun a w hF => by
    obtain ⟨hw, f, args, hr, hc⟩ := h a w hF
    refine ⟨hw, f, args, hr, hc.mono fun e w' he => ?_⟩
    obtain ⟨v, rfl, hg, hG⟩ := he
    exact ⟨v, rfl, hBs _ _ hF.base hg, fun d u => its_grown hg d u, ptrs_put hF.ptrs hg.size (not_in hps), hG⟩
theorem skippedP {k i : Nat} {o : Oper} {d : Nat} (hd : o.dst = some d) (hps : (ps.all fun s => s != d) = true) (hG : ∀ w, its L d undef w)
    (h : ∀ a w, AtP k ps L B a0 ops o a w → Region.wanted o (yielded ops a.tmps) = false) : StepP k ps P Q L B a0 ops i o := by
  intro a w hF hi
  have hw := h a w hF
  unfold wpOp
  simp only [hi, hw]
  exact ⟨undef, rfl, hF.base, fun _ _ h => h, ptrs_put hF.ptrs (Nat.le_refl _) (fun s hs e => not_in hps s hs (hd ▸ e)), fun d' e => by rw [hd] at e; cases e; exact hG w⟩
structure FlowS (ps : List Nat) (L : List It) (B : World → Prop) (a0 : Act) (ops : Array Oper) (k : Nat) (listed : Array Bool) (a : Act) (w : World) : Prop where
  base : B w
  size : a.tmps.size = a0.tmps.size
  defers : a.defers = a0.defers
  rest : ∀ d, isDstTo ops k d = false → a.tmps.getD d undef = a0.tmps.getD d undef
  slots : ∀ j oj d, ops[j]? = some oj → listed.getD j false = true → oj.dst = some d → its L d (a.tmps.getD d undef) w
  closed : ∀ j oj, ops[j]? = some oj → listed.getD j false = true → ∀ e ∈ oj.after, Region.binds .any e = true → listed.getD e.on false = true
  notk : ∀ j, k ≤ j → listed.getD j false = false
  ptrs : PtrsApart ps a w
def StepsS (k : Nat) (ps : List Nat) (P : Program) (Q : Exit → Act → World → Prop) (L : List It) (B : World → Prop) (a0 : Act) (ops : Array Oper) : Nat → List Oper → Prop
  | _, [] => True
  | i, o :: r => ((∃ d, o.dst = some d) ∧ StepP k ps P Q L B a0 ops i o) ∧ StepsS k ps P Q L B a0 ops (i + 1) r
theorem stepsS_get {k : Nat} : ∀ (l : List Oper) (i j : Nat) (o : Oper), StepsS k ps P Q L B a0 ops i l → l[j]? = some o → (∃ d, o.dst = some d) ∧ StepP k ps P Q L B a0 ops (i + j) o := by
  intro l
  induction l with
  | nil => intro i j o h hk; simp at hk
  | cons x r ih =>
    intro i j o h hk
    cases j with
    | zero => simp at hk; subst hk; exact h.1
    | succ j => have := ih (i + 1) j o h.2 (by simpa using hk); rwa [show i + (j + 1) = i + 1 + j by omega]
theorem inn {j : Nat} {oj : Oper} (hj : ops[j]? = some oj) : j < ops.size := by
  rcases Nat.lt_or_ge j ops.size with h' | h'
  · exact h'
  · rw [Array.getElem?_eq_none h'] at hj; cases hj
/-- one of the tail is ready: all ahead of it are done -/
theorem tail_all {k t : Nat} {listed : Array Bool} (htl : tailOk ops k = true) (ht : k ≤ t) (hr : t ∈ Region.ready .any ops listed)
    (closed : ∀ j oj, ops[j]? = some oj → listed.getD j false = true → ∀ e ∈ oj.after, Region.binds .any e = true → listed.getD e.on false = true) : ∀ j, j < t → listed.getD j false = true := by
  obtain ⟨_, o, hoi, hall⟩ := mem_ready.1 hr
  have h1 := (List.all_eq_true.1 htl) t (List.mem_range.2 (inn hoi))
  simp only [Bool.or_eq_true, decide_eq_true_eq, Nat.not_lt.2 ht, false_or] at h1
  have go : ∀ n j, j < t → t - j ≤ n → listed.getD j false = true := by
    intro n
    induction n with
    | zero => intro j hj hn; omega
    | succ n ihn =>
      intro j hj hn
      have h2 := (List.all_eq_true.1 h1) j (List.mem_range.2 hj)
      obtain ⟨m, hm, h3⟩ := List.any_eq_true.1 h2
      simp only [Bool.and_eq_true, decide_eq_true_eq] at h3
      have hm' := List.mem_range.1 hm
      obtain ⟨hjm, h3⟩ := h3
      cases hg : ops[m]? with
      | none => rw [hg] at h3; cases h3
      | some om =>
        rw [hg] at h3
        simp only [Option.map_some, Option.getD_some] at h3
        obtain ⟨q, hq, hb⟩ := Array.any_eq_true.1 h3
        simp only [Bool.and_eq_true, beq_iff_eq] at hb
        by_cases hmt : m = t
        · subst hmt
          rw [hg] at hoi
          cases hoi
          have := hall _ (Array.getElem_mem hq) hb.1
          rwa [hb.2] at this
        · have := closed m _ hg (ihn m (by omega) (by omega)) _ (Array.getElem_mem hq) hb.1
          rwa [hb.2] at this
  exact fun j hj => go _ j hj (Nat.le_refl _)
theorem wpOp_of_list {k : Nat} {o : Oper} {r : List Oper} {a : Act} {w : World} (hk : ops[k]? = some o) (h : wpList P ops Q (o :: r) a w) : wpOp P ops Q k (wpList P ops Q r) a w := by
  unfold wpOp
  simp only [hk]
  exact h
theorem tail_any {k0 : Nat} (ht : topo ops = true) (htl : tailOk ops k0 = true) : ∀ (m k fuel : Nat) (listed : Array Bool) (a : Act) (w : World), k0 ≤ k → ops.size = k + m → m ≤ fuel → listed.size = ops.size →
    (∀ j, j < k → listed.getD j false = true) → (∀ j, k ≤ j → listed.getD j false = false) → wpList P ops Q (ops.toList.drop k) a w → wpAny P .any ops Q fuel listed a w := by
  intro m
  induction m with
  | zero =>
    intro k fuel listed a w hk hs hf hls hall hnot h
    have hd : ops.toList.drop k = [] := List.drop_eq_nil_of_le (by simp; omega)
    rw [hd] at h
    have hr : Region.ready .any ops listed = [] := by
      cases hc : Region.ready .any ops listed with
      | nil => rfl
      | cons x r =>
        obtain ⟨h0, o, hoi, _⟩ := mem_ready.1 (show x ∈ Region.ready .any ops listed by rw [hc]; exact List.mem_cons_self ..)
        have hx := hall x (by have := inn hoi; omega)
        have hlt : x < listed.size := by rw [hls]; exact inn hoi
        simp [hlt] at h0 hx
        rw [h0] at hx
        cases hx
    cases fuel with
    | zero => exact ⟨hr, h⟩
    | succ f => exact ⟨fun _ => h, fun i hi => by rw [hr] at hi; cases hi⟩
  | succ m ih =>
    intro k fuel listed a w hk hs hf hls hall hnot h
    obtain ⟨f, rfl⟩ : ∃ f, fuel = f + 1 := ⟨fuel - 1, by omega⟩
    have hks : k < ops.size := by omega
    have closed : ∀ j oj, ops[j]? = some oj → listed.getD j false = true → ∀ e ∈ oj.after, Region.binds .any e = true → listed.getD e.on false = true := by
      intro j oj hj hl e he hb
      have ht1 := (List.all_eq_true.1 ht) j (List.mem_range.2 (inn hj))
      rw [hj] at ht1
      simp only [Option.map_some, Option.getD_some] at ht1
      have ht2 := (Array.all_eq_true_iff_forall_mem.1 ht1) _ he
      simp only [hb, Bool.not_true, Bool.false_or, decide_eq_true_eq] at ht2
      have hjk : j < k := by
        rcases Nat.lt_or_ge j k with h' | h'
        · exact h'
        · rw [hnot j h'] at hl; cases hl
      exact hall _ (by omega)
    refine ⟨fun hr => ?_, fun i hi => ?_⟩
    · have := all_listed ht hls hr k hks
      rw [hnot k (Nat.le_refl _)] at this
      cases this
    · obtain ⟨h0, o, hoi, _⟩ := mem_ready.1 hi
      have hik : i = k := by
        rcases Nat.lt_trichotomy i k with h' | h' | h'
        · have hx := hall i h'
          have hlt : i < listed.size := by rw [hls]; exact inn hoi
          simp [hlt] at h0 hx
          rw [h0] at hx
          cases hx
        · exact h'
        · have := tail_all htl (by omega) hi closed k h'
          rw [hnot k (Nat.le_refl _)] at this
          cases this
      subst hik
      have hd : ops.toList.drop i = o :: ops.toList.drop (i + 1) := by
        rw [List.drop_eq_getElem_cons (by simpa using hks)]
        congr 1
        rw [Array.getElem?_eq_getElem hks] at hoi
        simpa using Option.some.inj hoi
      rw [hd] at h
      refine wpOp_mono (fun a' w' h' => ?_) (wpOp_of_list hoi h)
      refine ih (i + 1) f _ a' w' (by omega) (by omega) (by omega) (by simpa using hls) (fun j hj => ?_) (fun j hj => ?_) h'
      · by_cases e : i = j
        · subst e
          have hlt : i < listed.size := by rw [hls]; exact hks
          simp [hlt]
        · rw [getD_set_ne false e]; exact hall j (by omega)
      · rw [getD_set_ne false (by omega)]; exact hnot j (by omega)
theorem flowS_any {k : Nat} (ht : topo ops = true) (ho : once (ops.extract 0 k) a0.tmps.size = true) (htl : tailOk ops k = true) (hk : k ≤ ops.size)
    (steps : StepsS k ps P Q L B a0 ops 0 (ops.toList.take k))
    (fin : ∀ a w, B w → a.tmps.size = a0.tmps.size → a.defers = a0.defers → (∀ d, isDstTo ops k d = false → a.tmps.getD d undef = a0.tmps.getD d undef) →
      (∀ d, isDstTo ops k d = true → its L d (a.tmps.getD d undef) w) → PtrsApart ps a w → wpList P ops Q (ops.toList.drop k) a w) :
    ∀ (fuel : Nat) (listed : Array Bool) (a : Act) (w : World), listed.size = ops.size → unlisted ops listed ≤ fuel → FlowS ps L B a0 ops k listed a w → wpAny P .any ops Q fuel listed a w := by
  have toTail : ∀ (fuel : Nat) (listed : Array Bool) (a : Act) (w : World), listed.size = ops.size → ops.size - k ≤ fuel → FlowS ps L B a0 ops k listed a w → (∀ j, j < k → listed.getD j false = true) → wpAny P .any ops Q fuel listed a w := by
    intro fuel listed a w hs hf hF hall
    refine tail_any ht htl (ops.size - k) k fuel listed a w (Nat.le_refl _) (by omega) hf hs hall hF.notk (fin a w hF.base hF.size hF.defers hF.rest (fun d hd => ?_) hF.ptrs)
    obtain ⟨j, hj, hb⟩ := List.any_eq_true.1 hd
    have hjk := List.mem_range.1 hj
    have hg : ops[j]? = some ops[j] := Array.getElem?_eq_getElem (by omega)
    rw [hg] at hb
    exact hF.slots j _ d hg (hall j hjk) (by simpa using hb)
  have hcount : ∀ (listed : Array Bool), (∀ j, k ≤ j → listed.getD j false = false) → listed.size = ops.size → ops.size - k ≤ unlisted ops listed := by
    intro listed hn hs
    unfold unlisted
    have hsub : (List.range' k (ops.size - k)).length ≤ ((List.range ops.size).filter fun i => !listed.getD i true).length := by
      have hp : List.Sublist (List.range' k (ops.size - k)) ((List.range ops.size).filter fun i => !listed.getD i true) := by
        have h1 : List.Sublist (List.range' k (ops.size - k)) (List.range ops.size) := by
          have e : List.range ops.size = List.range' 0 k ++ List.range' k (ops.size - k) := by
            rw [List.range_eq_range', show ops.size = k + (ops.size - k) by omega, ← List.range'_append_1]
            simp
          rw [e]
          exact List.sublist_append_right _ _
        have h2 := h1.filter fun i => !listed.getD i true
        have h3 : (List.range' k (ops.size - k)).filter (fun i => !listed.getD i true) = List.range' k (ops.size - k) := by
          rw [List.filter_eq_self]
          intro x hx
          have hx' := List.mem_range'_1.1 hx
          have := hn x hx'.1
          have hlt : x < listed.size := by omega
          simp [hlt] at this ⊢
          exact this
        rwa [h3] at h2
      exact hp.length_le
    simpa using hsub
  intro fuel
  induction fuel with
  | zero =>
    intro listed a w hs hu hF
    have hc := hcount listed hF.notk hs
    refine toTail 0 listed a w hs (by omega) hF (fun j hj => ?_)
    have hr : Region.ready .any ops listed = [] := by
      cases hc : Region.ready .any ops listed with
      | nil => rfl
      | cons x r =>
        have := unlisted_lt (ops := ops) (listed := listed) (i := x) (by rw [hc]; exact List.mem_cons_self ..)
        omega
    exact all_listed ht hs hr j (by omega)
  | succ fuel ih =>
    intro listed a w hs hu hF
    by_cases hdone : ∀ j, j < k → listed.getD j false = true
    · have hc := hcount listed hF.notk hs
      exact toTail (fuel + 1) listed a w hs (by omega) hF hdone
    refine ⟨fun hr => ?_, fun i hi => ?_⟩
    · exact absurd (fun j hj => all_listed ht hs hr j (by omega)) hdone
    obtain ⟨h0, o, hoi, hall⟩ := mem_ready.1 hi
    have hik : i < k := by
      rcases Nat.lt_or_ge i k with h' | h'
      · exact h'
      · exact absurd (fun j hj => tail_all htl h' hi hF.closed j (by omega)) hdone
    have hst := stepsS_get (ops.toList.take k) 0 i o steps (by rw [List.getElem?_take_of_lt hik, Array.getElem?_toList]; exact hoi)
    rw [Nat.zero_add] at hst
    obtain ⟨⟨d, hd⟩, hst⟩ := hst
    have hex : ∀ j, j < k → (ops.extract 0 k)[j]? = ops[j]? := fun j hj => by
      rw [Array.getElem?_extract_of_lt (by omega)]; simp
    have hat : AtP k ps L B a0 ops o a w := ⟨hF.base, hF.size, hF.ptrs, hF.rest, fun d hd => by
        obtain ⟨k, hk, hb⟩ := Array.any_eq_true.1 hd
        simp only [Bool.and_eq_true, beq_iff_eq] at hb
        have hl := hall _ (Array.getElem_mem hk) hb.1
        cases hx : ops[o.after[k].on]? with
        | none => rw [hx] at hb; cases hb.2
        | some oj => rw [hx] at hb; exact hF.slots _ oj d hx hl hb.2⟩
    refine wpOp_mono (fun a' w' h => ?_) (hst a w hat hoi)
    obtain ⟨v, rfl, hB, hRG, hPt, hG⟩ := h
    have hlt := unlisted_lt hi
    refine ih _ _ _ (by simpa using hs) (by omega) ⟨hB, ?_, ?_, ?_, ?_, ?_, ?_, hPt⟩
    · rw [← hF.size]; cases o.dst <;> simp [Act.put]
    · rw [← hF.defers]; cases o.dst <;> simp [Act.put]
    · intro d hd
      rw [← hF.rest d hd]
      have hne : o.dst ≠ some d := by
        intro e
        have : isDstTo ops k d = true := List.any_eq_true.2 ⟨i, List.mem_range.2 hik, by rw [hoi]; simpa using e⟩
        rw [hd] at this
        cases this
      exact put_getD hne
    · intro j oj d hj hl hd
      have hjk : j < k ∨ j = i := by
        by_cases e : i = j
        · exact Or.inr e.symm
        · rw [getD_set_ne false e] at hl
          rcases Nat.lt_or_ge j k with h' | h'
          · exact Or.inl h'
          · rw [hF.notk j h'] at hl; cases hl
      by_cases e : i = j
      · subst e
        rw [hoi] at hj
        cases hj
        have hd2 := once_lt ho ((hex i hik).trans hoi) hd
        rw [← hF.size] at hd2
        have hG := hG _ hd
        rw [hd]
        simpa [Act.put, hd2] using hG
      · rw [getD_set_ne false e] at hl
        have h1 := hF.slots j oj d hj hl hd
        have hv : (a.put o.dst v).tmps.getD d undef = a.tmps.getD d undef := by
          cases hod : o.dst with
          | none => rfl
          | some d' =>
            have := once_ne ho ((hex i hik).trans hoi) ((hex j (by omega)).trans hj) e hod
            rw [hd] at this
            simp [Act.put, Array.getElem?_setIfInBounds_ne (show d' ≠ d from fun e => this (by rw [e]))]
        rw [hv]
        exact hRG d _ h1
    · intro j oj hj hl e he hb
      by_cases ei : i = j
      · subst ei
        rw [hoi] at hj
        cases hj
        exact getD_set_true (hall e he hb)
      · rw [getD_set_ne false ei] at hl
        exact getD_set_true (hF.closed j oj hj hl e he hb)
    · intro j hj
      rw [getD_set_ne false (by omega)]; exact hF.notk j hj
/-- A REGION THAT DRAWS ITS ORDER, of which the operations from k on go as they stand. -/
theorem wp_region_tail {id : Nat} {w : World} (L : List It) (B : World → Prop) (k : Nat) (hB0 : B w.drew) (hm : P.follows .mixedOrders = true) (ht : topo ops = true) (ho : once (ops.extract 0 k) a0.tmps.size = true) (htl : tailOk ops k = true) (hk : k ≤ ops.size) (hps : PtrsApart ps a0 w.drew)
    (steps : StepsS k ps P Q L B a0 ops 0 (ops.toList.take k))
    (fin : ∀ a w', B w' → a.tmps.size = a0.tmps.size → a.defers = a0.defers → (∀ d, isDstTo ops k d = false → a.tmps.getD d undef = a0.tmps.getD d undef) →
      (∀ d, isDstTo ops k d = true → its L d (a.tmps.getD d undef) w') → PtrsApart ps a w' → wpList P ops Q (ops.toList.drop k) a w') : (Code.region id ops true).wp P Q a0 w :=
  wp_region_any hm (flowS_any ht ho htl hk steps fin ops.size _ a0 _ (by simp) (by unfold unlisted; exact Nat.le_trans (List.length_filter_le _ _) (by simp))
    ⟨hB0, rfl, rfl, fun _ _ => rfl, fun j oj d _ hl _ => by
      by_cases h : j < ops.size <;> simp [h] at hl, fun j oj _ hl => by
      by_cases h : j < ops.size <;> simp [h] at hl, fun j _ => by
      by_cases h : j < ops.size <;> simp [h], hps⟩)
theorem list_of_wpOp {k : Nat} {o : Oper} {r : List Oper} {a : Act} {w : World} (hk : ops[k]? = some o) (h : wpOp P ops Q k (wpList P ops Q r) a w) : wpList P ops Q (o :: r) a w := by
  unfold wpOp at h
  simp only [hk] at h
  exact h
/-- the same for a region in the text's order -/
theorem wp_region_plain {id : Nat} {w : World} (L : List It) (B : World → Prop) (k : Nat) (hB0 : B w) (ht : topo ops = true) (ho : once (ops.extract 0 k) a0.tmps.size = true) (hk : k ≤ ops.size) (hps : PtrsApart ps a0 w)
    (steps : StepsS k ps P Q L B a0 ops 0 (ops.toList.take k))
    (fin : ∀ a w', B w' → a.tmps.size = a0.tmps.size → a.defers = a0.defers → (∀ d, isDstTo ops k d = false → a.tmps.getD d undef = a0.tmps.getD d undef) →
      (∀ d, isDstTo ops k d = true → its L d (a.tmps.getD d undef) w') → PtrsApart ps a w' → wpList P ops Q (ops.toList.drop k) a w') : (Code.region id ops false).wp P Q a0 w := by
  refine wp_region_list ?_
  have go : ∀ (m i : Nat) (a : Act) (w' : World), i + m = k → B w' → a.tmps.size = a0.tmps.size → a.defers = a0.defers → (∀ d, isDstTo ops k d = false → a.tmps.getD d undef = a0.tmps.getD d undef) →
      (∀ j oj d, j < i → ops[j]? = some oj → oj.dst = some d → its L d (a.tmps.getD d undef) w') → PtrsApart ps a w' → wpList P ops Q (ops.toList.drop i) a w' := by
    intro m
    induction m with
    | zero =>
      intro i a w' hi hg hs hdf hr hsl hpt
      have hi' : i = k := by omega
      subst hi'
      refine fin a w' hg hs hdf hr (fun d hd => ?_) hpt
      obtain ⟨j, hj, hb⟩ := List.any_eq_true.1 hd
      have hjk := List.mem_range.1 hj
      have hgj : ops[j]? = some ops[j] := Array.getElem?_eq_getElem (by omega)
      rw [hgj] at hb
      exact hsl j _ d hjk hgj (by simpa using hb)
    | succ m ih =>
      intro i a w' hi hg hs hdf hr hsl hpt
      have hik : i < k := by omega
      have hil : i < ops.size := by omega
      have hoi : ops[i]? = some ops[i] := Array.getElem?_eq_getElem hil
      have hst := stepsS_get (ops.toList.take k) 0 i ops[i] steps (by rw [List.getElem?_take_of_lt hik, Array.getElem?_toList]; exact hoi)
      rw [Nat.zero_add] at hst
      obtain ⟨⟨d, hd⟩, hst⟩ := hst
      have hex : ∀ j, j < k → (ops.extract 0 k)[j]? = ops[j]? := fun j hj => by
        rw [Array.getElem?_extract_of_lt (by omega)]; simp
      have hat : AtP k ps L B a0 ops ops[i] a w' := ⟨hg, hs, hpt, hr, fun d hd => by
          obtain ⟨q, hq, hb⟩ := Array.any_eq_true.1 hd
          simp only [Bool.and_eq_true, beq_iff_eq] at hb
          have ht1 := (List.all_eq_true.1 ht) i (List.mem_range.2 hil)
          rw [hoi] at ht1
          simp only [Option.map_some, Option.getD_some] at ht1
          have ht2 := (Array.all_eq_true_iff_forall_mem.1 ht1) _ (Array.getElem_mem hq)
          simp only [hb.1, Bool.not_true, Bool.false_or, decide_eq_true_eq] at ht2
          cases hx : ops[ops[i].after[q].on]? with
          | none => rw [hx] at hb; cases hb.2
          | some oj => rw [hx] at hb; exact hsl _ oj d ht2 hx hb.2⟩
      have hdr : ops.toList.drop i = ops[i] :: ops.toList.drop (i + 1) := by
        rw [List.drop_eq_getElem_cons (by simpa using hil)]
        simp
      rw [hdr]
      refine list_of_wpOp hoi (wpOp_mono (fun a' w'' h => ?_) (hst a w' hat hoi))
      obtain ⟨v, rfl, hB, hRG, hPt, hG⟩ := h
      refine ih (i + 1) _ _ (by omega) hB ?_ ?_ ?_ ?_ hPt
      · rw [← hs]; cases ops[i].dst <;> simp [Act.put]
      · rw [← hdf]; cases ops[i].dst <;> simp [Act.put]
      · intro d hd
        rw [← hr d hd]
        have hne : ops[i].dst ≠ some d := by
          intro e
          have : isDstTo ops k d = true := List.any_eq_true.2 ⟨i, List.mem_range.2 hik, by rw [hoi]; simpa using e⟩
          rw [hd] at this
          cases this
        exact put_getD hne
      · intro j oj d' hj hgj hd'
        by_cases e : i = j
        · subst e
          rw [hoi] at hgj
          cases hgj
          have hd2 := once_lt ho ((hex i hik).trans hoi) hd'
          rw [← hs] at hd2
          have hG := hG _ hd'
          rw [hd']
          simpa [Act.put, hd2] using hG
        · have h1 := hsl j oj d' (by omega) hgj hd'
          have hv : (a.put ops[i].dst v).tmps.getD d' undef = a.tmps.getD d' undef := by
            cases hod : ops[i].dst with
            | none => rfl
            | some d'' =>
              have := once_ne ho ((hex i hik).trans hoi) ((hex j (by omega)).trans hgj) e hod
              rw [hd'] at this
              simp [Act.put, Array.getElem?_setIfInBounds_ne (show d'' ≠ d' from fun e => this (by rw [e]))]
          rw [hv]
          exact hRG d' _ h1
  have := go k 0 a0 w (by omega) hB0 rfl rfl (fun _ _ => rfl) (fun j _ _ hj => by omega) hps
  simpa using this
theorem ptrs_undef {a : Act} {w : World} (h : (ps.all fun s => match a.tmps.getD s undef with | .pointer _ => false | _ => true) = true) : PtrsApart ps a w := fun s hs C e => by
  have := (List.all_eq_true.1 h) s hs
  rw [e] at this
  cases this
/-- values of which those that are pointers go to blocks that are there, all apart -/
def ApartV (l : List Value) (w : World) : Prop := ∀ (i C : Nat), l[i]? = some (.pointer (some ⟨C, 0, none⟩)) → C < w.heap.size ∧ ∀ (j : Nat), j ≠ i → l[j]? ≠ some (.pointer (some ⟨C, 0, none⟩))
theorem ptrs_of {a : Act} {w : World} {l : List Value} (hl : l = ps.map fun s => a.tmps.getD s undef) (h : ApartV l w) : PtrsApart ps a w := by
  subst hl
  intro s hs C e
  obtain ⟨i, hi, rfl⟩ := List.mem_iff_getElem.1 hs
  have hg : (ps.map fun s => a.tmps.getD s undef)[i]? = some (.pointer (some ⟨C, 0, none⟩)) := by
    rw [List.getElem?_map, List.getElem?_eq_getElem hi, Option.map_some, e]
  refine ⟨(h i C hg).1, fun t ht hne e2 => ?_⟩
  obtain ⟨j, hj, rfl⟩ := List.mem_iff_getElem.1 ht
  refine (h i C hg).2 j (fun e3 => hne (by subst e3; rfl)) ?_
  rw [List.getElem?_map, List.getElem?_eq_getElem hj, Option.map_some, e2]
theorem apart_undef (l : List Value) (w : World) (h : (l.all fun v => match v with | .pointer _ => false | _ => true) = true) : ApartV l w := fun i C e => by
  have := (List.all_eq_true.1 h) _ (List.mem_of_getElem? e)
  cases this
theorem apart_one {N : Nat} {w : World} (h : N < w.heap.size) : ApartV [.pointer (some ⟨N, 0, none⟩)] w := fun i C e => by
  match i, e with
  | 0, e =>
    cases e
    refine ⟨h, fun j hj => ?_⟩
    match j, hj with
    | j + 1, _ => simp
theorem apart_three {A B C : Nat} {w : World} (a : A < w.heap.size) (b : B < w.heap.size) (c : C < w.heap.size) (ab : A ≠ B) (ac : A ≠ C) (bc : B ≠ C) : ApartV [.pointer (some ⟨A, 0, none⟩), .pointer (some ⟨B, 0, none⟩), .pointer (some ⟨C, 0, none⟩)] w := fun i X e => by
  match i, e with
  | 0, e =>
    cases e
    refine ⟨a, fun j hj => ?_⟩
    match j, hj with
    | 1, _ => simp <;> omega
    | 2, _ => simp <;> omega
    | j + 3, _ => simp
  | 1, e =>
    cases e
    refine ⟨b, fun j hj => ?_⟩
    match j, hj with
    | 0, _ => simp <;> omega
    | 2, _ => simp <;> omega
    | j + 3, _ => simp
  | 2, e =>
    cases e
    refine ⟨c, fun j hj => ?_⟩
    match j, hj with
    | 0, _ => simp <;> omega
    | 1, _ => simp <;> omega
    | j + 3, _ => simp
theorem ApartV.mono {l : List Value} {w w' : World} (h : ApartV l w) (hs : w.heap.size ≤ w'.heap.size) : ApartV l w' := fun i C e => ⟨Nat.lt_of_lt_of_le (h i C e).1 hs, (h i C e).2⟩
theorem apart_drew {l : List Value} {w : World} (h : ApartV l w) : ApartV l w.drew := h
/-- the next operation of a list -/
theorem wpl_value {o : Oper} {r : List Oper} {a : Act} {w w' : World} {v : Value} (hg : o.guard = none) (hr : (execOp a.eval o).run P w = .ok (.value v) w') (h : wpList P ops Q r (a.put o.dst v) w') : wpList P ops Q (o :: r) a w := by
  refine wpList_plain hg fun K hK => ?_
  unfold Oper.wp
  rw [hr]
  exact hK _ _ h
theorem wpl_skip {o : Oper} {r : List Oper} {a : Act} {w w' : World} (hg : o.guard = none) (hd : o.dst = none) (hr : (execOp a.eval o).run P w = .ok .skip w') (h : wpList P ops Q r a w') : wpList P ops Q (o :: r) a w := by
  refine wpList_plain hg fun K hK => ?_
  unfold Oper.wp
  rw [hr]
  have e : a.put o.dst undef = a := by rw [hd]; rfl
  show K (a.put o.dst undef) w'
  rw [e]
  exact hK _ _ h
theorem wpl_call {o : Oper} {r : List Oper} {a : Act} {w : World} {f : FuncId} {args : Array Value} (hg : o.guard = none) (hr : (execOp a.eval o).run P w = .ok (.enter f args) w)
    (hc : Calls P f args w fun e w' => ∃ v, e = .returned v ∧ wpList P ops Q r (a.put o.dst v) w') : wpList P ops Q (o :: r) a w := by
  refine wpList_plain hg fun K hK => ?_
  unfold Oper.wp
  rw [hr]
  refine Calls.mono hc fun e w' he => ?_
  obtain ⟨v, rfl, h⟩ := he
  exact hK _ _ h
/-! ### the run of one operation -/
theorem run_load {ρ : Operand → Value} {o : Oper} {w : World} {T : TypeId} {x : Operand} {b off : Nat} {cs : List Value} {d : TypeDesc} (ho : o.op = .load T x) (hx : ρ x = .pointer (some ⟨b, off, none⟩)) (hc : w.rangeAt b off cs)
    (hu : P.underlying T = some d) (hd : d.isRow = true) (hi : (P.info? T).map (·.size) = some cs.length) : (execOp ρ o).run P w = .ok (.value (.agg cs.toArray)) w := by
  unfold execOp
  simp only [ho, hx, Instr.loadAt, Instr.sureAddr, Sem.run_bind, Sem.run_pure, Result.andThen_ok, run_loadVar_mid w b off T cs d hc hu hd hi]
theorem run_store {ρ : Operand → Value} {o : Oper} {w : World} {T : TypeId} {x y : Operand} {b off : Nat} {cs : List Value} (ho : o.op = .store T x y) (hx : ρ x = .pointer (some ⟨b, off, none⟩)) (hy : ρ y = .agg cs.toArray)
    (ht : w.there b off cs.length) (hi : (P.info? T).map (·.size) = some cs.length) (h1 : cs.all (·.oneCell') = true) : (execOp ρ o).run P w = .ok .skip (w.setCells b off cs) := by
  unfold execOp
  simp only [ho, hx, hy, Instr.storeAt, Instr.sureAddr, Sem.run_bind, Sem.run_pure, Result.andThen_ok, run_storeVar_mid w b off T cs.toArray (by simpa using ht) (by simpa using hi) (by simpa using h1)]
theorem run_move {ρ : Operand → Value} {o : Oper} {w : World} {x : Operand} {v : Value} (ho : o.op = .move x) (hx : ρ x = v) : (execOp ρ o).run P w = .ok (.value v) w := by
  unfold execOp
  simp only [ho, hx, Sem.run_pure]
theorem run_assign {ρ : Operand → Value} {o : Oper} {w : World} {x : Operand} {v : Value} (ho : o.op = .assign x) (hx : ρ x = v) : (execOp ρ o).run P w = .ok (.value v) w := by
  unfold execOp
  simp only [ho, hx, Sem.run_pure]
theorem run_nilCheck {ρ : Operand → Value} {o : Oper} {w : World} {x : Operand} {p : Addr} (ho : o.op = .nilCheck x) (hx : ρ x = .pointer (some p)) : (execOp ρ o).run P w = .ok (.value (.pointer (some p))) w := by
  unfold execOp
  simp only [ho, hx, Sem.run_pure]
theorem run_fieldAddr {ρ : Operand → Value} {o : Oper} {w : World} {t : TypeId} {f : Nat} {x : Operand} {u v : Value} (ho : o.op = .fieldAddr t x f) (hx : ρ x = u) (hr : (Instr.fieldAt t u f).run P w = .ok v w) : (execOp ρ o).run P w = .ok (.value v) w := by
  unfold execOp
  simp only [ho, hx, Sem.run_bind, Sem.run_pure, Result.andThen_ok, hr]
theorem run_field {ρ : Operand → Value} {o : Oper} {w : World} {t : TypeId} {f : Nat} {x : Operand} {u v : Value} (ho : o.op = .field t x f) (hx : ρ x = u) (hr : (Instr.field t u f).run P w = .ok v w) : (execOp ρ o).run P w = .ok (.value v) w := by
  unfold execOp
  simp only [ho, hx, Sem.run_bind, Sem.run_pure, Result.andThen_ok, hr]
theorem run_build {ρ : Operand → Value} {o : Oper} {w : World} {t : TypeId} {parts : Array (Nat × Operand)} {vs : Array (Nat × Value)} {v : Value} (ho : o.op = .build t parts) (hx : (parts.map fun (i, x) => (i, ρ x)) = vs) (hr : (Instr.build t vs).run P w = .ok v w) : (execOp ρ o).run P w = .ok (.value v) w := by
  unfold execOp
  simp only [ho, hx, Sem.run_bind, Sem.run_pure, Result.andThen_ok, hr]
theorem run_buildSlice {ρ : Operand → Value} {o : Oper} {w w' : World} {t : TypeId} {len : Nat} {parts : Array (Nat × Operand)} {vs : Array (Nat × Value)} {v : Value} (ho : o.op = .buildSlice t len parts) (hx : (parts.map fun (i, x) => (i, ρ x)) = vs) (hr : (Instr.buildSlice t len vs).run P w = .ok v w') : (execOp ρ o).run P w = .ok (.value v) w' := by
  unfold execOp
  simp only [ho, hx, Sem.run_bind, Sem.run_pure, Result.andThen_ok, hr]
theorem run_extract {ρ : Operand → Value} {o : Oper} {w : World} {i : Nat} {x : Operand} {u v : Value} (ho : o.op = .extract x i) (hx : ρ x = u) (hr : (Instr.extract u i).run P w = .ok v w) : (execOp ρ o).run P w = .ok (.value v) w := by
  unfold execOp
  simp only [ho, hx, Sem.run_bind, Sem.run_pure, Result.andThen_ok, hr]
theorem run_enter {w : World} {f : FuncId} {fn : Func} {vs : Array Value} (hf : P.funcs[f]? = some fn) (hn : (fn.name == "runtime.NumGoroutine") = false) (hb : fn.body.isNone = false) : (callFunc f vs).run P w = .ok (.enter f vs) w := by
  have hn' : ¬ fn.name = "runtime.NumGoroutine" := by simpa using hn
  have hb' : ¬ fn.body = none := by rintro e; rw [e] at hb; cases hb
  simp [callFunc, hf, hn', hb']
theorem run_call {ρ : Operand → Value} {o : Oper} {w : World} {x : Operand} {f : FuncId} {args : Array Operand} {tys : Array TypeId} {vs : Array Value} (ho : o.op = .call { callee := .value x, args := args, argTypes := tys }) (hf : ρ x = .func (.func f) #[] #[]) (hv : args.map ρ = vs)
    (hc : (callFunc f vs).run P w = .ok (.enter f vs) w) : (execOp ρ o).run P w = .ok (.enter f vs) w := by
  unfold execOp
  simp only [ho]
  unfold resolve
  simp only [hv, hf]
  go_simp
end
/-! ### one store among the operations that draw -/
/-- a pointer to a block of n cells that was made since -/
def It.room (T : TypeId) (n n0 : Nat) : It := ⟨fun v w => ∃ N, v = .pointer (some ⟨N, 0, none⟩) ∧ n0 ≤ N ∧ ∃ V : List Value, V.length = n ∧ Blk w N T V, fun _ _ _ ⟨N, e, hn, V, hl, h⟩ hg => ⟨N, e, hn, V, hl, h.grown hg (by simp)⟩⟩
/-- it stays when a row is put over another block's, or its own, cells -/
def It.Over (it : It) : Prop := ∀ v w (N : Nat) (T : TypeId) (V cs : List Value), Blk w N T V → V.length = cs.length → it.p v w → it.p v (w.setCells N 0 cs)
def Stored1 (T : TypeId) (cs : List Value) (_ : Nat) (u : Value) (w : World) : Prop := ∃ N, u = .pointer (some ⟨N, 0, none⟩) ∧ Blk w N T cs
section
variable {P : Program} {ops : Array Oper} {Q : Exit → Act → World → Prop} {L : List It} {W : World} {a0 : Act} {ps : List Nat} {p : Nat} {T : TypeId} {cs : List Value}
abbrev AtM (W : World) (ps : List Nat) (p : Nat) (T : TypeId) (cs : List Value) (L : List It) (a0 : Act) (ops : Array Oper) (o : Oper) (a : Act) (w : World) : Prop := FlowAt3 (its L) (fun _ => p) (Stored1 T cs) (fun w => W.grownBy w none) ps a0 ops o a w
abbrev StepM (W : World) (ps : List Nat) (p : Nat) (T : TypeId) (cs : List Value) (P : Program) (Q : Exit → Act → World → Prop) (L : List It) (a0 : Act) (ops : Array Oper) (i : Nat) (o : Oper) : Prop := FlowStep3 P Q (its L) (fun _ => p) (Stored1 T cs) (fun w => W.grownBy w none) ps a0 ops i o
theorem stored1_grown {w w' : World} (hg : w.grownBy w' none) (j : Nat) (u : Value) (h : Stored1 T cs j u w) : Stored1 T cs j u w' := by
  obtain ⟨N, e, hb⟩ := h
  exact ⟨N, e, hb.grown hg (by simp)⟩
theorem valueM {i : Nat} {o : Oper} {d : Nat} (hd : o.dst = some d) (hps : (ps.all fun s => s != d) = true)
    (h : ∀ a w, AtM W ps p T cs L a0 ops o a w → Wants ops o a ∧ ∃ v w', (execOp a.eval o).run P w = .ok (.value v) w' ∧ w.grownBy w' none ∧ its L d v w') : StepM W ps p T cs P Q L a0 ops i o :=
  flow3_value hd fun a w hF => by
    obtain ⟨hw, v, w', hr, hg, hG⟩ := h a w hF
    exact ⟨hw, v, w', hr, gb_trans hF.base hg, fun d u => its_grown hg d u, fun j u => stored1_grown hg j u, ptrs_put hF.ptrs hg.size (not_in hps), hG⟩
theorem allocM {i : Nat} {o : Oper} {d : Nat} (hd : o.dst = some d) (hlt : d < a0.tmps.size)
    (h : ∀ a w, AtM W ps p T cs L a0 ops o a w → Wants ops o a ∧ ∃ w', (execOp a.eval o).run P w = .ok (.value (.pointer (some ⟨w.heap.size, 0, none⟩))) w' ∧ w.grownBy w' none ∧ w.heap.size < w'.heap.size ∧ its L d (.pointer (some ⟨w.heap.size, 0, none⟩)) w') : StepM W ps p T cs P Q L a0 ops i o :=
  flow3_value hd fun a w hF => by
    obtain ⟨hw, w', hr, hg, hs, hG⟩ := h a w hF
    exact ⟨hw, _, w', hr, gb_trans hF.base hg, fun d u => its_grown hg d u, fun j u => stored1_grown hg j u, ptrs_new hF.ptrs hs (by rw [hF.size]; exact hlt), hG⟩
theorem callM {i : Nat} {o : Oper} {d : Nat} (hd : o.dst = some d) (hps : (ps.all fun s => s != d) = true)
    (h : ∀ a w, AtM W ps p T cs L a0 ops o a w → Wants ops o a ∧ ∃ f args, (execOp a.eval o).run P w = .ok (.enter f args) w ∧ Calls P f args w fun e w' => ∃ v, e = .returned v ∧ w.grownBy w' none ∧ its L d v w') : StepM W ps p T cs P Q L a0 ops i o :=
  flow3_call hd fun a w hF => by
    obtain ⟨hw, f, args, hr, hc⟩ := h a w hF
    refine ⟨hw, f, args, hr, hc.mono fun e w' he => ?_⟩
    obtain ⟨v, rfl, hg, hG⟩ := he
    exact ⟨v, rfl, gb_trans hF.base hg, fun d u => its_grown hg d u, fun j u => stored1_grown hg j u, ptrs_put hF.ptrs hg.size (not_in hps), hG⟩
theorem skippedM {i : Nat} {o : Oper} {d : Nat} (hd : o.dst = some d) (hps : (ps.all fun s => s != d) = true) (hG : ∀ w, its L d undef w)
    (h : ∀ a w, AtM W ps p T cs L a0 ops o a w → Region.wanted o (yielded ops a.tmps) = false) : StepM W ps p T cs P Q L a0 ops i o :=
  flow3_skipped hd (fun s hs e => not_in hps s hs (by rw [e])) (fun w _ => hG w) h
theorem any_over : It.any.Over := fun _ _ _ _ _ _ _ _ _ => trivial
theorem val_over (x : Value) : (It.val x).Over := fun _ _ _ _ _ _ _ _ h => h
theorem room_over (T : TypeId) (n n0 : Nat) : (It.room T n n0).Over := fun v w N T' V cs hb hl ⟨N', e, hn, V', hl', hb'⟩ => by
  by_cases he : N = N'
  · subst he
    unfold Blk at hb hb'
    rw [hb] at hb'
    cases hb'
    exact ⟨N, e, hn, over V 0 cs, by rw [over_length]; exact hl', Blk.setCells hb 0⟩
  · exact ⟨N', e, hn, V', hl', hb'.setCells_other 0 he⟩
theorem its_over {L : List It} (hL : ∀ it ∈ L, it.Over) {w : World} {N : Nat} {T : TypeId} {V cs : List Value} (hb : Blk w N T V) (hl : V.length = cs.length) (d : Nat) (v : Value) (h : its L d v w) : its L d v (w.setCells N 0 cs) := by
  unfold its at *
  by_cases hd : d < L.length
  · rw [List.getD_eq_getElem?_getD, List.getElem?_eq_getElem hd] at *
    exact hL _ (List.getElem_mem hd) v w N T V cs hb hl h
  · rw [List.getD_eq_getElem?_getD, List.getElem?_eq_none (by omega)] at *
    trivial
theorem storeM {i : Nat} {o : Oper} {x y : Operand} (hd : o.dst = none) (ho : o.op = .store T x y) (hL : ∀ it ∈ L, it.Over) (hi : (P.info? T).map (·.size) = some cs.length) (h1 : cs.all (·.oneCell') = true)
    (h : ∀ a w, AtM W ps p T cs L a0 ops o a w → Wants ops o a ∧ ∃ N, a.tmps.getD p undef = .pointer (some ⟨N, 0, none⟩) ∧ a.eval x = .pointer (some ⟨N, 0, none⟩) ∧ a.eval y = .agg cs.toArray ∧ W.heap.size ≤ N ∧ ∃ V : List Value, V.length = cs.length ∧ Blk w N T V) : StepM W ps p T cs P Q L a0 ops i o :=
  flow3_store hd fun a w hF => by
    obtain ⟨hw, N, hp, hx, hy, hn, V, hl, hb⟩ := h a w hF
    refine ⟨hw, _, run_store ho hx hy (hb.there 0 cs.length (by omega)) hi h1, gb_setCells_new hF.base hn 0, fun d u => its_over hL hb hl d u, fun j oj _ _ _ hM => ?_, (gb_setCells (cs := cs) (gb_refl w (some N)) 0).size, ⟨N, hp, hb.setAll hl⟩⟩
    exact ⟨N, hp, hb.setAll hl⟩
end
end Fg
end Go.Proofs.YtohcoihdijemfaaGreat

/- slices.Grow, slices.Concat, wire.Join: rows of bytes, one behind the other, in new memory. -/
namespace Go.Proofs.YtohcoihdijemfaaGreat
open Go.RowKit Ow

set_option maxRecDepth 100000 in
set_option maxHeartbeats 800000 in
theorem grow_any (n : Nat) (w : World) (hn : n ≤ 1000000) :
    Calls Tryz.prog 70 #[.slice none 0 0, .int .i64 n] w fun e w' => ∃ v, e = .returned v ∧ w.grownBy w' none ∧ w'.ownsRow w.heap.size 5 1 v 0 [] := by
  have i0 : ¬ (n : Int) < 0 := by omega
  by_cases hz : n = 0
  · subst hz
    go_enter Tryz.func70, Tryz.ntmps70
    go_wp2
    go_ret
    exact ⟨_, rfl, gb_refl _ _, World.ownsRow_nil w _ 5 1⟩
  · have i1 : (0 : Int) < (n : Int) := by omega
    obtain ⟨a0, hs0, _⟩ := slice_to none 0 0 0 (Nat.le_refl _)
    obtain ⟨v2, w2, hr2, ho2, hg2⟩ := append_zeros w w.heap.size 0 n (.slice none 0 0) [] (World.ownsRow_nil w _ 5 1) (by omega) (by omega) (Nat.le_refl _)
    rw [Nat.zero_add, List.nil_append] at ho2
    obtain ⟨g, c, rfl, hbg, hnc, hcm, hlt⟩ := own_some ho2 (by omega)
    obtain ⟨a1, hs1, ha1⟩ := slice_to (some ⟨g, 0, none⟩) n c 0 (Nat.zero_le _)
    rw [ha1 g 0 rfl] at hs1
    have ho3 := own_take ho2 (Nat.zero_le n)
    rw [List.take_zero] at ho3
    have H := Lib.hid (And.intro hg2 ho3); clear ho2 hg2 ho3
    have HR := Lib.hid hr2; clear hr2
    have HS := Lib.hid (And.intro hs0 hs1); clear hs0 hs1
    go_enter Tryz.func70, Tryz.ntmps70
    go_wp2_with (at_builtin; refine Lib.wpList_append_run w rfl (.tmp 20) (.tmp 21) 23 3 rfl (.slice none 0 0) (.int .i64 (n : Int)) rfl rfl _ _ HR.out ?_)
    go_ret
    exact ⟨_, rfl, H.out.1, H.out.2⟩

/-- a row of one's own, from an elder world -/
theorem own_down {w : World} {base b' e n : Nat} {v : Value} {xs : List Value} (h : w.ownsRow base e 1 v n xs) (hb : b' ≤ base) : w.ownsRow b' e 1 v n xs := by
  refine ⟨h.1, ?_⟩
  rcases h.2 with h0 | ⟨g', c', cur, e1, hg, rest⟩
  · exact Or.inl h0
  · exact Or.inr ⟨g', c', cur, e1, Nat.le_trans hb hg, rest⟩
/-- what is written to a row of one's own is new, seen from an elder world -/
theorem own_gb {w a b : World} {e n : Nat} {v : Value} {xs : List Value} (hg : w.grownBy a none) (ho : a.ownsRow w.heap.size e 1 v n xs) (h : a.grownBy b v.ownBlock) : w.grownBy b none := by
  rcases ho.2 with ⟨rfl, _⟩ | ⟨g', c', cur, rfl, hb, _⟩
  · exact gb_trans hg h
  · exact gb_then hg h hb
theorem flat_take (L : List (List Nat)) (k : Nat) (hk : k < L.length) : (L.take (k + 1)).flatten = (L.take k).flatten ++ L.getD k [] := by
  rw [List.take_succ_eq_append_getElem hk, List.flatten_append, List.getD_eq_getElem?_getD, List.getElem?_eq_getElem hk]
  simp
theorem flat_le (L : List (List Nat)) (k : Nat) : (L.take k).flatten.length ≤ L.flatten.length := by
  conv => rhs; rw [← List.take_append_drop k L]
  rw [List.flatten_append, List.length_append]; omega
set_option maxRecDepth 100000 in
set_option maxHeartbeats 1600000 in
theorem concat_any (m cap B : Nat) (L : List (List Nat)) (a : Option Addr) (w : World) (hm : L.length = m) (hR : RowsAt w B a L) (hm2 : m < 9223372036854775808) (hlen : L.flatten.length ≤ 1000000) :
    Calls Tryz.prog 45 #[.slice a m cap] w fun e w' => ∃ v, e = .returned v ∧ w.grownBy w' none ∧ w'.ownsRow w.heap.size 5 1 v L.flatten.length (L.flatten.map u8N) := by
  have HR := Lib.hid hR; clear hR
  have HL := Lib.hid hlen; clear hlen
  have HM := Lib.hid hm; clear hm
  go_enter Tryz.func45, Tryz.ntmps45
  go_wp2_with (fail)
  go_loopw [3, 11] (fun v i wr => ∃ k j : Nat, k ≤ m ∧ i = .int .i64 k ∧ v = .int .i64 ((L.take k).flatten.length : Nat) ∧ wr = w.drewN j) (fun _ i _ => m - (intOf i).toNat)
  case atStart => exact ⟨0, 0, by omega, rfl, rfl, rfl⟩
  case round =>
    obtain ⟨k, j, hk, rfl, rfl, rfl⟩ := hrel
    by_cases hlt : k < m
    · obtain ⟨pb, po, ai, ci, rfl, hpb, k1, hB⟩ := HR.out.at (i := k) (by rw [HM.out]; exact hlt)
      have i0 : (k : Int) < (m : Int) := by omega
      have hN := flat_take L k (by rw [HM.out]; exact hlt)
      have hN' : (L.take (k + 1)).flatten.length = (L.take k).flatten.length + (L.getD k []).length := by rw [hN, List.length_append]
      have hle := flat_le L (k + 1)
      have h6 := HL.out
      have i1 : ¬ (((L.take k).flatten.length : Nat) : Int) + (((L.getD k []).length : Nat) : Int) < 0 := by omega
      have i2 : (((L.take k).flatten.length : Nat) : Int) + (((L.getD k []).length : Nat) : Int) ≤ 1000000 := by omega
      clear hN hle h6 hB
      have HN := Lib.hid hN'; clear hN'
      generalize (L.take k).flatten.length = s at *
      generalize (L.getD k []).length = t at *
      go_wp2_with fail
      exact ⟨⟨k + 1, j, by omega, rfl, by rw [HN.out]; rfl, rfl⟩, by show m - ((k : Int) + 1).toNat < m - (k : Int).toNat; omega⟩
    · obtain rfl : k = m := by omega
      clear hlt
      have e0 : L.take k = L := by rw [← HM.out]; exact List.take_length
      rw [e0]
      obtain ⟨s, hs⟩ : ∃ s, s = L.flatten.length := ⟨_, rfl⟩
      rw [← hs] at HL ⊢
      have HS := Lib.hid (And.intro hs e0); clear hs e0
      have gw : w.grownBy (w.drewN j) none := gb_drewN (gb_refl _ _) j
      go_wp2_with (fail)
      refine (grow_any s (w.drewN j) HL.out).mono ?_
      rintro e w1 ⟨v, rfl, hg, ho⟩
      have HG := Lib.hid (And.intro (gb_trans gw hg) (own_down ho gw.size)); clear hg ho gw
      go_wp2_with (fail)
      go_loopw [6, 27] (fun v i wr => ∃ (q : Nat) (u : Value), u = v ∧ q ≤ k ∧ i = .int .i64 q ∧ w.grownBy wr none ∧ wr.ownsRow w.heap.size 5 1 u (L.take q).flatten.length ((L.take q).flatten.map u8N)) (fun _ i _ => k - (intOf i).toNat)
      case atStart => exact ⟨0, _, rfl, by omega, rfl, HG.out⟩
      case round =>
        obtain ⟨q, vr, rfl, hq, rfl, hg, ho⟩ := hrel
        by_cases hlt : q < k
        · obtain ⟨pb, po, ai, ci, rfl, hpb, k1, hB⟩ := HR.out.at (i := q) (by rw [HM.out]; exact hlt)
          have i0 : (q : Int) < (k : Int) := by omega
          have hN := flat_take L q (by rw [HM.out]; exact hlt)
          have hle := flat_le L (q + 1)
          have h6 := HL.out
          have hB2 := hB.stay hg
          have k2 : wr.cell? ⟨pb, po + q, none⟩ = some (.slice ai (L.getD q []).length ci) := by
            rw [gb_cell hg (p := ⟨pb, po + q, none⟩) (Nat.lt_of_lt_of_le hpb HR.out.lim) (by simp)]; exact k1
          obtain ⟨v2, w2, hr2, ho2, hg2⟩ := append_bytes wr w.heap.size _ B ci _ vr _ ai (L.getD q []) ho rfl hB2 (by have e := HS.out.1; rw [hN, List.length_append, ← e] at hle; omega) hg.size
          have HN := Lib.hid (And.intro hN (And.intro ho2 (own_gb hg ho hg2))); clear hN hle h6 hB hB2 k1 ho2 hg2
          have hap := hr2; clear hr2
          obtain ⟨t, ht⟩ : ∃ t, t = (L.getD q []).length := ⟨_, rfl⟩
          rw [← ht] at hap k2
          have HT := Lib.hid ht; clear ht
          go_wp2_with (at_builtin; refine wpList_append_run rfl (.tmp 31) (.tmp 32) 23 rfl rfl _ _ rfl rfl _ _ hap ?_)
          exact ⟨⟨q + 1, _, rfl, by omega, rfl, HN.out.2.2, by rw [HN.out.1, List.length_append, List.map_append]; exact HN.out.2.1⟩, by show k - ((q : Int) + 1).toNat < k - (q : Int).toNat; omega⟩
        · obtain rfl : q = k := by omega
          clear hlt
          have HI := Lib.hid (And.intro hg ho); clear hg ho
          go_wp2_with (fail)
          go_ret
          obtain ⟨hg, ho⟩ := HI.out
          rw [HS.out.2] at ho
          exact ⟨_, rfl, hg, ho⟩
set_option maxRecDepth 100000 in
set_option maxHeartbeats 400000 in
theorem join_any (m cap B : Nat) (L : List (List Nat)) (a : Option Addr) (w : World) (hm : L.length = m) (hR : RowsAt w B a L) (hm2 : m < 9223372036854775808) (hlen : L.flatten.length ≤ 1000000) :
    Calls Tryz.prog 10 #[.slice a m cap] w fun e w' => ∃ v, e = .returned v ∧ w.grownBy w' none ∧ w'.ownsRow w.heap.size 5 1 v L.flatten.length (L.flatten.map u8N) := by
  have HC := Lib.hid (concat_any m cap B L a w hm hR hm2 hlen); clear hm hR hm2 hlen
  go_enter Tryz.func10, Tryz.ntmps10
  go_wp2_with (fail)
  refine HC.out.mono ?_
  rintro e w' ⟨v, rfl, hr⟩
  have H := Lib.hid hr; clear hr
  go_wp2
  go_ret
  exact ⟨v, rfl, H.out⟩
end Go.Proofs.YtohcoihdijemfaaGreat

/- A reader's calls: what each tells, and what is left behind it. -/
namespace Go.Proofs.YtohcoihdijemfaaGreat
open Go.RowKit Ow Wi

/-- a reader of what is left, or none any more -/
def RdS (w : World) (rb : Nat) : St → Prop
  | none => RdN w rb
  | some l => RdB w rb (gP rb) l
theorem RdN.stay {w w' : World} {rb : Nat} (h : RdN w rb) (hg : w.grownBy w' none) : RdN w' rb := Blk.grown h hg (by simp)
theorem RdS.stay {w w' : World} {rb : Nat} {st : St} (h : RdS w rb st) (hg : w.grownBy w' none) : RdS w' rb st := by
  cases st with
  | none => exact RdN.stay h hg
  | some l => exact RdB.stay h hg
theorem RdS.beside {w w' : World} {rb T : Nat} {st : St} (h : RdS w rb st) (hg : w.grownBy w' (some T)) (hT : rb < T) : RdS w' rb st := by
  cases st with
  | none => exact Blk.grown h hg (by simp; omega)
  | some l => exact RdB.beside h hg hT
theorem RdS.lt {w : World} {rb : Nat} {st : St} (h : RdS w rb st) : rb < w.heap.size := by
  cases st with
  | none => exact Blk.lt h
  | some l => obtain ⟨_, _, _, hb, _⟩ := h; exact hb.lt
theorem wgood_any (rb : Nat) (st : St) (w : World) (h : RdS w rb st) :
    Calls Tryz.prog 22 #[.pointer (some ⟨rb, 0, none⟩)] w fun e w' => e = .returned (.bool st.isSome) ∧ w' = w := by
  cases st with
  | none => exact wgood_no rb _ w h
  | some l => obtain ⟨a, n, cap, hb, _⟩ := h; exact wgood_yes rb _ w hb
/-- a row of one's own as a slice of bytes -/
theorem own_slice {w : World} {base n : Nat} {v : Value} {l : List Nat} (h : w.ownsRow base 5 1 v n (l.map u8N)) (hb : ∀ i, l.getD i 0 < 256) :
    ∃ a c, v = .slice a n c ∧ l.length = n ∧ BytesAt w w.heap.size a c l ∧ (∀ pb po, a = some ⟨pb, po, none⟩ → base ≤ pb ∧ pb < w.heap.size) := by
  have hn : l.length = n := by have := h.1; rw [List.length_map] at this; omega
  by_cases h0 : 0 < n
  · obtain ⟨g, c, rfl, hbg, hnc, hB⟩ := own_bytesAt h hn h0 hb
    exact ⟨_, c, rfl, hn, hB, fun pb po e => by cases e; exact ⟨hbg, (own_lt h).1⟩⟩
  · obtain rfl : n = 0 := by omega
    obtain rfl : l = [] := List.eq_nil_of_length_eq_zero hn
    have h' := h
    rcases h'.2 with ⟨rfl, _⟩ | ⟨g, c, cur, rfl, hbg, _, _, hcm, _⟩
    · exact ⟨none, 0, rfl, rfl, ⟨Nat.le_refl _, Nat.le_refl _, by decide, by simp, Or.inl rfl⟩, fun pb po e => by cases e⟩
    · exact ⟨_, c, rfl, rfl, ⟨Nat.le_refl _, Nat.zero_le _, by unfold maxLen at hcm; omega, by simp, Or.inl rfl⟩, fun pb po e => by cases e; exact ⟨hbg, (own_lt h).1⟩⟩

theorem tryU_any (rb k : Nat) (st : St) (w : World) (h : RdS w rb st) (h8 : k ≤ 8) :
    Calls Tryz.prog 56 #[.pointer (some ⟨rb, 0, none⟩), .func (.func 57) #[.pointer (some ⟨rb, 0, none⟩)] #[], .int .i64 k] w fun e w' => e = .returned (.int .u64 ((tells 0 (rdWord k) st).1 : Nat)) ∧ w.grownBy w' (some rb) ∧ RdS w' rb (tells 0 (rdWord k) st).2 := by
  cases st with
  | none =>
    refine (tryU_bad _ k _ w fun w1 hg => wgood_no rb _ w1 (RdN.stay h hg)).mono ?_
    rintro e w' ⟨rfl, hg⟩
    exact ⟨rfl, gb_row hg _, RdN.stay h hg⟩
  | some l =>
    obtain ⟨a, n, cap, hb, _⟩ := id h
    have gz := gb_alloc (gb_refl w none) (.cells #[.pointer (some ⟨rb, 0, none⟩)] 34)
    by_cases hk : k ≤ l.length
    · have e1 : tells 0 (rdWord k) (some l) = (wN (l.take k), some (l.drop k)) := by unfold tells rdWord; simp only [if_pos hk]
      rw [e1]
      refine (tryU_yes rb k _ w (fun x w' => x = .int .u64 (wN (l.take k) : Nat) ∧ w.grownBy w' (some rb) ∧ RdB w' rb (gP rb) (l.drop k)) hb ((word_yes rb (gP rb) l k _ (RdB.stay h gz) hk h8).mono ?_)).mono ?_
      · rintro e w' ⟨rfl, hg, hr⟩
        exact ⟨_, rfl, rfl, gb_trans (gb_row gz _) hg, hr⟩
      · rintro e w' ⟨x, rfl, rfl, hg, hr⟩
        exact ⟨rfl, hg, hr⟩
    · have e1 : tells 0 (rdWord k) (some l) = (0, none) := by unfold tells rdWord; simp only [if_neg hk]
      rw [e1]
      refine (tryU_no rb k _ w hb ((word_no rb (gP rb) l k _ (RdB.stay h gz) (by omega)).mono ?_)).mono ?_
      · rintro e w' ⟨hd, rfl⟩
        exact ⟨hd, gb_refl _ _, l, RdB.stay h gz⟩
      · rintro e w' ⟨rfl, hg, hn⟩
        exact ⟨rfl, hg, hn⟩
theorem tryI_any (rb : Nat) (most : Int) (st : St) (w : World) (h : RdS w rb st) :
    Calls Tryz.prog 96 #[.pointer (some ⟨rb, 0, none⟩), .func (.func 97) #[.pointer (some ⟨rb, 0, none⟩)] #[], .int .i64 most] w fun e w' => e = .returned (.int .i64 (countS most st).1) ∧ w.grownBy w' (some rb) ∧ RdS w' rb (countS most st).2 := by
  unfold countS
  cases st with
  | none =>
    refine (tryI_bad _ most _ w fun w1 hg => wgood_no rb _ w1 (RdN.stay h hg)).mono ?_
    rintro e w' ⟨rfl, hg⟩
    exact ⟨rfl, gb_row hg _, RdN.stay h hg⟩
  | some l =>
    obtain ⟨a, n, cap, hb, _⟩ := id h
    have gz := gb_alloc (gb_refl w none) (.cells #[.pointer (some ⟨rb, 0, none⟩)] 34)
    by_cases hk : 8 ≤ l.length ∧ 0 ≤ toI (wN (l.take 8)) ∧ toI (wN (l.take 8)) ≤ most
    · have e1 : tells 0 (rdCount most) (some l) = (toI (wN (l.take 8)), some (l.drop 8)) := by unfold tells rdCount; simp only [if_pos hk]
      rw [e1]
      refine (tryI_yes rb most _ w (fun x w' => x = .int .i64 (toI (wN (l.take 8))) ∧ w.grownBy w' (some rb) ∧ RdB w' rb (gP rb) (l.drop 8)) hb ((count_yes rb (gP rb) l most _ (RdB.stay h gz) hk.1 hk.2.1 hk.2.2).mono ?_)).mono ?_
      · rintro e w' ⟨rfl, hg, hr⟩
        exact ⟨_, rfl, rfl, gb_trans (gb_row gz _) hg, hr⟩
      · rintro e w' ⟨x, rfl, rfl, hg, hr⟩
        exact ⟨rfl, hg, hr⟩
    · have e1 : tells 0 (rdCount most) (some l) = (0, none) := by unfold tells rdCount; simp only [if_neg hk]
      rw [e1]
      refine (tryI_no rb most _ w hb (count_no rb (gP rb) l most _ (RdB.stay h gz) hk)).mono ?_
      rintro e w' ⟨rfl, hg, hn⟩
      exact ⟨rfl, hg, hn⟩

/-- one row of bytes, that a box holds -/
theorem rows1 {w : World} {a : Option Addr} {n c : Nat} {l : List Nat} (hl : l.length = n) (h : BytesAt w w.heap.size a c l) :
    RowsAt (w.alloc (.cells #[.slice a n c] 23)) (w.heap.size + 1) (some ⟨w.heap.size, 0, none⟩) [l] := by
  have hb := Blk.new w [.slice a n c] 23
  refine ⟨by simp, Or.inr ⟨w.heap.size, 0, rfl, by omega, fun i hi => ?_⟩⟩
  obtain rfl : i = 0 := by simp at hi; omega
  exact ⟨a, c, by rw [Nat.zero_add]; subst hl; exact hb.cell (i := 0) rfl, (h.stay (gb_alloc (gb_refl w none) _)).up (by omega) (by simp)⟩
set_option maxRecDepth 100000 in
set_option maxHeartbeats 800000 in
theorem rbytes_yes (rb : Nat) (l x r : List Nat) (most : Int) (w : World) (h : RdB w rb (gP rb) l) (hl : l.length ≤ 1000000) (hx : rdBytes most l = some (x, r)) :
    Calls Tryz.prog 68 #[.pointer (some ⟨rb, 0, none⟩), .int .i64 most] w fun e w' => ∃ v, e = .returned v ∧ w.grownBy w' (some rb) ∧ RdB w' rb (gP rb) r ∧ w'.ownsRow w.heap.size 5 1 v x.length (x.map u8N) := by
  unfold rdBytes rdCount at hx
  by_cases hk : 8 ≤ l.length ∧ 0 ≤ toI (wN (l.take 8)) ∧ toI (wN (l.take 8)) ≤ most
  · simp only [if_pos hk] at hx
    by_cases hm : (toI (wN (l.take 8))).toNat ≤ (l.drop 8).length
    · rw [if_pos hm] at hx
      simp only [Option.some.injEq, Prod.mk.injEq] at hx
      obtain ⟨rfl, rfl⟩ := hx
      have HC := Lib.hid (count_yes rb (gP rb) l most w.drew (RdB.stay h (gb_drew (gb_refl _ _))) hk.1 hk.2.1 hk.2.2)
      obtain ⟨m, hmm⟩ : ∃ m : Nat, toI (wN (l.take 8)) = m := ⟨_, (Int.toNat_of_nonneg hk.2.1).symm⟩
      rw [hmm] at HC hm ⊢
      rw [Int.toNat_natCast] at hm ⊢
      have hm1 : m ≤ 1000000 := by rw [List.length_drop] at hm; omega
      have HL := Lib.hid (And.intro hm hl)
      have HL2 : Hid (((l.drop 8).take m).length = m) := by show ((l.drop 8).take m).length = m; rw [List.length_take]; omega
      have HL3 : Hid ([(l.drop 8).take m].flatten.length ≤ 1000000) := by show [(l.drop 8).take m].flatten.length ≤ 1000000; simp only [List.flatten_cons, List.flatten_nil, List.append_nil]; rw [HL2.out]; exact hm1
      clear h hk hmm hm hl
      go_enter Tryz.func68, Tryz.ntmps68
      go_upto_region 1 with (fail)
      go_region_with (first | (go_at_call 97; refine HC.out.mono ?_; rintro e w1 ⟨rfl, hg, hr⟩; have H1 := Lib.hid (And.intro hg hr); clear hg hr HC) | (go_at_call 100; refine (take_rd rb (gP rb) (l.drop 8) m _ H1.out.2 HL.out.1).mono ?_; rintro e w2 ⟨a1, c1, rfl, hg, hr, hP, hQ⟩; have H2 := Lib.hid (And.intro (gb_trans H1.out.1 hg) (And.intro hr hP)); clear hg hr hP hQ H1) | (go_at_call 10; refine (join_any 1 1 _ [(l.drop 8).take m] _ _ rfl (rows1 (HL2.out) H2.out.2.2) (by decide) HL3.out).mono ?_; rintro e w3 ⟨v, rfl, hg, ho⟩; have H3 := Lib.hid (And.intro hg ho); clear hg ho))
      all_goals go_wp2
      all_goals go_ret
      all_goals (
        obtain ⟨hg, ho⟩ := H3.out
        simp only [List.flatten_cons, List.flatten_nil, List.append_nil] at ho
        have gz := gb_alloc (gb_refl w2 none) (.cells #[.slice a1 m c1] 23)
        have g0 : w.grownBy w.drew (some rb) := gb_drew (gb_refl _ _)
        exact ⟨v, rfl, gb_trans g0 (gb_trans H2.out.1 (gb_row (gb_trans gz hg) _)), H2.out.2.1.stay (gb_trans gz hg), own_down ho (Nat.le_trans (gb_trans g0 H2.out.1).size gz.size)⟩)
    · rw [if_neg hm] at hx; cases hx
  · simp only [if_neg hk] at hx; cases hx
set_option maxRecDepth 100000 in
set_option maxHeartbeats 800000 in
theorem rbytes_no (rb : Nat) (l : List Nat) (most : Int) (w : World) (h : RdB w rb (gP rb) l) (hx : rdBytes most l = none) :
    Calls Tryz.prog 68 #[.pointer (some ⟨rb, 0, none⟩), .int .i64 most] w fun e w' => Dies e ∧ w.grownBy w' (some rb) ∧ ∃ l', RdB w' rb (gP rb) l' := by
  unfold rdBytes rdCount at hx
  by_cases hk : 8 ≤ l.length ∧ 0 ≤ toI (wN (l.take 8)) ∧ toI (wN (l.take 8)) ≤ most
  · simp only [if_pos hk] at hx
    by_cases hm : (toI (wN (l.take 8))).toNat ≤ (l.drop 8).length
    · rw [if_pos hm] at hx; cases hx
    · have HC := Lib.hid (count_yes rb (gP rb) l most w.drew (RdB.stay h (gb_drew (gb_refl _ _))) hk.1 hk.2.1 hk.2.2)
      obtain ⟨m, hmm⟩ : ∃ m : Nat, toI (wN (l.take 8)) = m := ⟨_, (Int.toNat_of_nonneg hk.2.1).symm⟩
      rw [hmm] at HC hm
      rw [Int.toNat_natCast] at hm
      have HL : Hid ((l.drop 8).length < m) := Nat.lt_of_not_le hm
      clear h hk hmm hm hx
      go_enter Tryz.func68, Tryz.ntmps68
      go_upto_region 1 with (fail)
      refine wp_region_any (by kernel_rfl) ?_
      change wpAny _ _ _ _ _ _ _ (World.drew _)
      refine wpAny_take (i := 0) (v := ?v0) rfl (by kernel_rfl) (by kernel_rfl) (by kernel_rfl) (fun _ _ _ h => h) (Or.inl ⟨by rfl, ?hy0⟩) ?rest0
      case hy0 => intro w; go_simp; try rfl
      refine wpAny_take (i := 1) (v := ?v1) rfl (by kernel_rfl) (by kernel_rfl) (by kernel_rfl) (fun _ _ _ h => h) (Or.inl ⟨by rfl, ?hy1⟩) ?rest1
      case hy1 => intro w; go_simp; try rfl
      refine wpAny_take (i := 2) (v := ?v2) rfl (by kernel_rfl) (by kernel_rfl) (by kernel_rfl) (fun _ _ _ h => h) (Or.inl ⟨by rfl, ?hy2⟩) ?rest2
      case hy2 => intro w; go_simp; try rfl
      refine wpAny_take (i := 3) (v := ?v3) rfl (by kernel_rfl) (by kernel_rfl) (by kernel_rfl) (fun _ _ _ h => h) (Or.inl ⟨by rfl, ?hy3⟩) ?rest3
      case hy3 => intro w; go_simp; try rfl
      refine wpAny_take (i := 4) (v := ?v4) rfl (by kernel_rfl) (by kernel_rfl) (by kernel_rfl) (fun _ _ _ h => h) (Or.inl ⟨by rfl, ?hy4⟩) ?rest4
      case hy4 => intro w; go_simp; try rfl
      refine wpAny_ready (rs := [5]) (by kernel_rfl) (by simp) ?_
      refine AllReady.cons rfl (fun K hK => ?_) AllReady.nil
      go_simp
      refine HC.out.mono ?_
      rintro e w1 ⟨rfl, hg, hr⟩
      have H1 := Lib.hid (And.intro hg hr); clear hg hr HC
      refine hK _ _ ?_
      clear hK K
      refine wpAny_ready (rs := [6]) (by kernel_rfl) (by simp) ?_
      refine AllReady.cons rfl (fun K hK => ?_) AllReady.nil
      go_simp
      refine (take_bad rb (gP rb) (l.drop 8) m _ H1.out.2 HL.out).mono ?_
      rintro e w2 ⟨⟨u, pv, rfl⟩, rfl⟩
      exact ⟨rfl, ⟨u, pv, rfl⟩, gb_trans (gb_drew (gb_refl _ _)) H1.out.1, _, H1.out.2⟩
  · have HC := Lib.hid (count_no rb (gP rb) l most w.drew (RdB.stay h (gb_drew (gb_refl _ _))) hk)
    clear h hk hx
    go_enter Tryz.func68, Tryz.ntmps68
    go_upto_region 1 with (fail)
    refine wp_region_any (by kernel_rfl) ?_
    change wpAny _ _ _ _ _ _ _ (World.drew _)
    refine wpAny_take (i := 0) (v := ?w0) rfl (by kernel_rfl) (by kernel_rfl) (by kernel_rfl) (fun _ _ _ h => h) (Or.inl ⟨by rfl, ?hz0⟩) ?more0
    case hz0 => intro w; go_simp; try rfl
    refine wpAny_take (i := 1) (v := ?w1) rfl (by kernel_rfl) (by kernel_rfl) (by kernel_rfl) (fun _ _ _ h => h) (Or.inl ⟨by rfl, ?hz1⟩) ?more1
    case hz1 => intro w; go_simp; try rfl
    refine wpAny_take (i := 2) (v := ?w2) rfl (by kernel_rfl) (by kernel_rfl) (by kernel_rfl) (fun _ _ _ h => h) (Or.inl ⟨by rfl, ?hz2⟩) ?more2
    case hz2 => intro w; go_simp; try rfl
    refine wpAny_take (i := 3) (v := ?w3) rfl (by kernel_rfl) (by kernel_rfl) (by kernel_rfl) (fun _ _ _ h => h) (Or.inl ⟨by rfl, ?hz3⟩) ?more3
    case hz3 => intro w; go_simp; try rfl
    refine wpAny_take (i := 4) (v := ?w4) rfl (by kernel_rfl) (by kernel_rfl) (by kernel_rfl) (fun _ _ _ h => h) (Or.inl ⟨by rfl, ?hz4⟩) ?more4
    case hz4 => intro w; go_simp; try rfl
    refine wpAny_ready (rs := [5]) (by kernel_rfl) (by simp) ?_
    refine AllReady.cons rfl (fun K hK => ?_) AllReady.nil
    go_simp
    refine HC.out.mono ?_
    rintro e w1 ⟨⟨u, pv, rfl⟩, hr⟩
    exact ⟨rfl, ⟨u, pv, rfl⟩, gb_trans (gb_drew (gb_refl _ _)) hr.1, hr.2⟩
theorem tryB_any (rb : Nat) (most : Int) (st : St) (w : World) (h : RdS w rb st) (hl : ∀ l, st = some l → l.length ≤ 1000000) :
    Calls Tryz.prog 67 #[.pointer (some ⟨rb, 0, none⟩), .func (.func 68) #[.pointer (some ⟨rb, 0, none⟩)] #[], .int .i64 most] w fun e w' => ∃ v, e = .returned v ∧ w.grownBy w' (some rb) ∧ RdS w' rb (bytesS most st).2 ∧ w'.ownsRow w.heap.size 5 1 v (bytesS most st).1.length ((bytesS most st).1.map u8N) := by
  unfold bytesS
  cases st with
  | none =>
    refine (tryB_bad _ most _ w fun w1 hg => wgood_no rb _ w1 (RdN.stay h hg)).mono ?_
    rintro e w' ⟨rfl, hg⟩
    exact ⟨_, rfl, gb_row hg _, RdN.stay h hg, World.ownsRow_nil w' _ 5 1⟩
  | some l =>
    obtain ⟨a, n, cap, hb, _⟩ := id h
    have gz := gb_alloc (gb_refl w none) (.cells #[.pointer (some ⟨rb, 0, none⟩)] 34)
    cases hk : rdBytes most l with
    | some p =>
      obtain ⟨x, r⟩ := p
      have e1 : tells [] (rdBytes most) (some l) = (x, some r) := by unfold tells; simp only [hk]
      rw [e1]
      refine (tryB_yes rb most _ w (fun v w' => w.grownBy w' (some rb) ∧ RdB w' rb (gP rb) r ∧ w'.ownsRow w.heap.size 5 1 v x.length (x.map u8N)) hb ((rbytes_yes rb l x r most _ (RdB.stay h gz) (hl l rfl) hk).mono ?_))
      rintro e w' ⟨v, rfl, hg, hr, ho⟩
      exact ⟨v, rfl, gb_trans (gb_row gz _) hg, hr, own_down ho gz.size⟩
    | none =>
      have e1 : tells [] (rdBytes most) (some l) = ([], none) := by unfold tells; simp only [hk]
      rw [e1]
      refine (tryB_no rb most _ w hb (rbytes_no rb l most _ (RdB.stay h gz) hk)).mono ?_
      rintro e w' ⟨rfl, hg, hn⟩
      exact ⟨_, rfl, hg, hn, World.ownsRow_nil w' _ 5 1⟩
end Go.Proofs.YtohcoihdijemfaaGreat

/- wire's calls: Number, Bytes, Join, NewReader and the reader's Byte, Number, Count, Bytes. -/
namespace Go.Proofs.YtohcoihdijemfaaGreat
open Go.RowKit Ow Wi

theorem getD_mem {l : List Nat} (h : ∀ i, l.getD i 0 < 256) : ∀ b ∈ l, b < 256 := fun b hb => by
  obtain ⟨i, hi, rfl⟩ := List.getElem_of_mem hb
  have := h i
  rwa [List.getD_eq_getElem?_getD, List.getElem?_eq_getElem hi] at this
theorem tellsU_lt (rb k : Nat) (st : St) (w : World) (h : RdS w rb st) : (tells 0 (rdWord k) st).1 < 256 ^ k := by
  have hp : 0 < 256 ^ k := Nat.pow_pos (by decide)
  cases st with
  | none => exact hp
  | some l =>
    have hb := RdB.byte h
    unfold tells rdWord
    by_cases hk : k ≤ l.length
    · simp only [if_pos hk]
      have h1 := wN_lt (l.take k) (fun b hm => getD_mem hb b (List.mem_of_mem_take hm))
      rwa [List.length_take, Nat.min_eq_left hk] at h1
    · simp only [if_neg hk]; exact hp
theorem bytesS_lt {w : World} {rb : Nat} {st : St} (h : RdS w rb st) (most : Int) (i : Nat) : (bytesS most st).1.getD i 0 < 256 := by
  cases st with
  | none => unfold bytesS tells; simp
  | some l =>
    have hb := RdB.byte h
    unfold bytesS
    cases hr : rdBytes most l with
    | none =>
      have e1 : tells [] (rdBytes most) (some l) = ([], none) := by unfold tells; simp only [hr]
      rw [e1]; simp
    | some p =>
      obtain ⟨x, r⟩ := p
      have e1 : tells [] (rdBytes most) (some l) = (x, some r) := by unfold tells; simp only [hr]
      rw [e1]
      unfold rdBytes rdCount at hr
      split at hr
      · cases hr
      · rename_i n r' hc
        split at hc
        · cases hc
          split at hr
          · cases hr
            exact getD_take_lt _ _ (fun i => by rw [getD_drop]; exact hb _) i
          · cases hr
        · cases hc
theorem byte_any (rb : Nat) (st : St) (w : World) (h : RdS w rb st) :
    Calls Tryz.prog 43 #[.pointer (some ⟨rb, 0, none⟩)] w fun e w' => e = .returned (.int .u8 ((byteS st).1 : Nat)) ∧ w.grownBy w' (some rb) ∧ RdS w' rb (byteS st).2 := by
  have hlt := tellsU_lt rb 1 st w h
  have HT := Lib.hid (tryU_any rb 1 st w h (by decide))
  unfold byteS
  generalize tells 0 (rdWord 1) st = x at *
  obtain ⟨n, st'⟩ := x
  have hw : IntKind.u8.wrap (n : Int) = n := by
    rw [show IntKind.u8.wrap (n : Int) = (n : Int) % 256 by simp [IntKind.wrap, IntKind.signed, IntKind.bits]]
    have : n < 256 := hlt
    omega
  clear h hlt
  have hmf := makeF
  go_enter Tryz.func43, Tryz.ntmps43
  go_wp2_with (fail)
  refine HT.out.mono ?_
  rintro e w' ⟨rfl, hg, hr⟩
  have H := Lib.hid (And.intro hg hr); clear hg hr
  go_wp2
  go_ret
  exact ⟨rfl, H.out⟩
theorem number_any (rb : Nat) (st : St) (w : World) (h : RdS w rb st) :
    Calls Tryz.prog 29 #[.pointer (some ⟨rb, 0, none⟩)] w fun e w' => e = .returned (.int .i64 (toI (numS st).1)) ∧ w.grownBy w' (some rb) ∧ RdS w' rb (numS st).2 := by
  have hlt := tellsU_lt rb 8 st w h
  have HT := Lib.hid (tryU_any rb 8 st w h (by decide))
  unfold numS
  generalize tells 0 (rdWord 8) st = x at *
  obtain ⟨n, st'⟩ := x
  have hw : IntKind.i64.wrap (n : Int) = toI n := conv_yes n (by
    have h1 : (256 : Nat) ^ 8 = 18446744073709551616 := by decide
    have : n < 256 ^ 8 := hlt
    omega)
  clear h hlt
  have hmf := makeF
  go_enter Tryz.func29, Tryz.ntmps29
  go_wp2_with (fail)
  refine HT.out.mono ?_
  rintro e w' ⟨rfl, hg, hr⟩
  have H := Lib.hid (And.intro hg hr); clear hg hr
  go_wp2
  go_ret
  exact ⟨rfl, H.out⟩
theorem rcount_any (rb : Nat) (most : Int) (st : St) (w : World) (h : RdS w rb st) :
    Calls Tryz.prog 51 #[.pointer (some ⟨rb, 0, none⟩), .int .i64 most] w fun e w' => e = .returned (.int .i64 (countS most st).1) ∧ w.grownBy w' (some rb) ∧ RdS w' rb (countS most st).2 := by
  have HT := Lib.hid (tryI_any rb most st w h)
  clear h
  have hmf := makeF
  go_enter Tryz.func51, Tryz.ntmps51
  go_wp2_with (fail)
  refine HT.out.mono ?_
  rintro e w' ⟨rfl, hg, hr⟩
  have H := Lib.hid (And.intro hg hr); clear hg hr
  go_wp2
  go_ret
  exact ⟨rfl, H.out⟩
theorem rbytes_any (rb : Nat) (most : Int) (st : St) (w : World) (h : RdS w rb st) (hl : ∀ l, st = some l → l.length ≤ 1000000) :
    Calls Tryz.prog 42 #[.pointer (some ⟨rb, 0, none⟩), .int .i64 most] w fun e w' => ∃ v, e = .returned v ∧ w.grownBy w' (some rb) ∧ RdS w' rb (bytesS most st).2 ∧ w'.ownsRow w.heap.size 5 1 v (bytesS most st).1.length ((bytesS most st).1.map u8N) := by
  have HT := Lib.hid (tryB_any rb most st w h hl)
  clear h hl
  have hmf := makeF
  go_enter Tryz.func42, Tryz.ntmps42
  go_wp2_with (fail)
  refine HT.out.mono ?_
  rintro e w' ⟨v, rfl, hr⟩
  have H := Lib.hid hr; clear hr
  go_wp2
  go_ret
  exact ⟨v, rfl, H.out⟩
theorem new_any (n cap B : Nat) (a : Option Addr) (l : List Nat) (w : World) (hl : l.length = n) (hn : n ≤ 1000000) (hP : BytesAt w B a cap l) :
    Calls Tryz.prog 19 #[.slice a n cap] w fun e w' => ∃ rb, e = .returned (.pointer (some ⟨rb, 0, none⟩)) ∧ w.grownBy w' none ∧ w.heap.size ≤ rb ∧ RdS w' rb (some l) := by
  have HP := Lib.hid (And.intro hl (And.intro hn hP)); clear hl hn hP
  go_enter Tryz.func19, Tryz.ntmps19
  go_wp2_with (fail)
  refine (join_any 1 1 _ [l] _ _ rfl (rows1 HP.out.1 HP.out.2.2.full) (by decide) (by simp only [List.flatten_cons, List.flatten_nil, List.append_nil]; have h1 := HP.out.1; have h2 := HP.out.2.1; omega)).mono ?_
  rintro e w1 ⟨v, rfl, hg, ho⟩
  simp only [List.flatten_cons, List.flatten_nil, List.append_nil] at ho
  obtain ⟨a1, c1, rfl, _, hB, _⟩ := own_slice ho HP.out.2.2.byte
  have H1 := Lib.hid (And.intro (gb_trans (gb_alloc (gb_refl w none) _) hg) hB); clear hg ho hB
  go_wp2
  go_ret
  obtain ⟨hg, hB⟩ := H1.out
  have hb := Blk.new w1 [.slice a1 l.length c1, .pointer (some ⟨w1.heap.size, 0, none⟩)] 91
  have g2 := gb_alloc (gb_refl w1 none) (.cells #[.slice a1 l.length c1, .pointer (some ⟨w1.heap.size, 0, none⟩)] 91)
  refine ⟨w1.heap.size, rfl, gb_trans hg g2, hg.size, a1, l.length, c1, hb, rfl, (hB.stay g2).full, ?_⟩
  rcases hB.cells with h0 | ⟨pb, po, rfl, hlt, _⟩
  · exact Or.inl h0
  · exact Or.inr fun pb' po' e => by cases e; omega

/-- a number's bytes, as far as they are laid -/
def numB (m k : Nat) : List Value := (List.range 8).map fun i => if i < k then u8N (m / 2 ^ (8 * (7 - i)) % 256) else u8N 0
theorem numB_set (m k : Nat) (hk : k < 8) : (numB m k).set k (u8N (m / 2 ^ (8 * (7 - k)) % 256)) = numB m (k + 1) := by
  apply List.ext_getElem?
  intro i
  unfold numB
  rw [List.getElem?_set]
  simp only [List.length_map, List.length_range, List.getElem?_map]
  by_cases hi : i < 8
  · rw [List.getElem?_range hi]
    by_cases h : k = i
    · subst h; simp [hk]
    · have h2 : i < k ↔ i < k + 1 := by omega
      simp [h, h2]
  · have h : ¬ k = i := by omega
    rw [if_neg h, List.getElem?_eq_none (by simp; omega)]
    rfl
theorem numB_all (m : Nat) : numB m 8 = (encW m).map u8N := by
  unfold numB encW
  rw [List.map_map]
  apply List.map_congr_left
  intro i hi
  rw [if_pos (List.mem_range.1 hi)]
  rfl
set_option maxRecDepth 100000 in
set_option maxHeartbeats 1600000 in
theorem numF_any (n : Int) (w : World) :
    Calls Tryz.prog 9 #[.int .i64 n] w fun e w' => ∃ g, e = .returned (.slice (some ⟨g, 0, none⟩) 8 8) ∧ w.grownBy w' none ∧ w.heap.size ≤ g ∧ Blk w' g 5 ((encN n).map u8N) := by
  have hw : IntKind.u64.wrap n = (ofI n : Nat) := by
    rw [show IntKind.u64.wrap n = n % 18446744073709551616 by simp [IntKind.wrap, IntKind.signed, IntKind.bits]]
    unfold ofI
    omega
  obtain ⟨m, hm⟩ : ∃ m, m = ofI n := ⟨_, rfl⟩
  obtain ⟨N, hN⟩ : ∃ N, N = w.heap.size := ⟨_, rfl⟩
  have hlt := ofI_lt n
  rw [← hm] at hw hlt
  obtain ⟨w1, hmk, hg1, hs1, hb1⟩ := make_bytes 8 8 w (Nat.le_refl _) (by omega)
  have hmk' : (Instr.makeSlice 23 (.int .i64 8) (.int .i64 8)).run Tryz.prog w = .ok (.slice (some ⟨w.heap.size, 0, none⟩) 8 8) w1 := hmk
  rw [← hN] at hmk' hb1
  have HS := Lib.hid (And.intro hg1 hb1); clear hg1 hb1 hmk hs1
  have HN := Lib.hid (And.intro (Nat.le_of_eq hN.symm) hm); clear hN hm
  go_enter Tryz.func9, Tryz.ntmps9
  go_wp2_with (fail)
  go_loopw [11] (fun i wr => ∃ k : Nat, k ≤ 8 ∧ i = .int .i64 k ∧ w.grownBy wr none ∧ Blk wr N 5 (numB m k)) (fun i _ => 8 - (intOf i).toNat)
  case atStart => exact ⟨0, by decide, rfl, HS.out⟩
  case round =>
    obtain ⟨k, hk, rfl, hg, hb⟩ := hrel
    by_cases hlt : k < 8
    · have i0 : (k : Int) < 8 := by omega
      have hlen : (numB m k).length = 8 := by unfold numB; simp
      obtain ⟨c, hc⟩ : ∃ c, (numB m k)[k]? = some c := ⟨_, List.getElem?_eq_getElem (by omega)⟩
      have k0 := hb.cell hc
      have f0 := hb.free k
      have HB := Lib.hid (And.intro hg hb); clear hg hb hc hlen
      go_wp2_with (fail)
      obtain ⟨hg, hb⟩ := HB.out
      have e1 : ((m : Int) / 2 ^ (8 * (7 - k)) % 256) = ((m / 2 ^ (8 * (7 - k)) % 256 : Nat) : Int) := by simp
      refine ⟨⟨k + 1, hlt, rfl, gb_set_new hg HN.out.1 _, ?_⟩, by show 8 - ((k : Int) + 1).toNat < 8 - (k : Int).toNat; omega⟩
      rw [e1, ← numB_set m k hlt]
      exact hb.set k _
    · obtain rfl : k = 8 := by omega
      have HB := Lib.hid (And.intro hg hb); clear hg hb
      go_wp2
      go_ret
      exact ⟨N, rfl, HB.out.1, HN.out.1, by have h := HB.out.2; rw [numB_all, HN.out.2] at h; exact h⟩
/-- two rows of bytes, that a box holds -/
theorem rows2 {w : World} {a1 a2 : Option Addr} {n1 c1 n2 c2 : Nat} {l1 l2 : List Nat} (hl1 : l1.length = n1) (hl2 : l2.length = n2) (h1 : BytesAt w w.heap.size a1 c1 l1) (h2 : BytesAt w w.heap.size a2 c2 l2) :
    RowsAt (w.alloc (.cells #[.slice a1 n1 c1, .slice a2 n2 c2] 23)) (w.heap.size + 1) (some ⟨w.heap.size, 0, none⟩) [l1, l2] := by
  have hb := Blk.new w [.slice a1 n1 c1, .slice a2 n2 c2] 23
  have hg := gb_alloc (gb_refl w none) (.cells #[.slice a1 n1 c1, .slice a2 n2 c2] 23)
  subst hl1 hl2
  refine ⟨by simp, Or.inr ⟨w.heap.size, 0, rfl, by omega, fun i hi => ?_⟩⟩
  obtain rfl | rfl : i = 0 ∨ i = 1 := by simp at hi; omega
  · exact ⟨a1, c1, by rw [Nat.zero_add]; exact hb.cell (i := 0) rfl, (h1.stay hg).up (by omega) (by simp)⟩
  · exact ⟨a2, c2, by rw [Nat.zero_add]; exact hb.cell (i := 1) rfl, (h2.stay hg).up (by omega) (by simp)⟩
theorem numF_bytes {n : Int} {w : World} {g : Nat} (h : Blk w g 5 ((encN n).map u8N)) : BytesAt w w.heap.size (some ⟨g, 0, none⟩) 8 (encN n) :=
  blk_bytes (tl := []) (by rw [List.append_nil]; exact h) (encN_length n) (Nat.le_refl _) (by decide) (fun i => encN_byte n i) h.lt (Nat.le_refl _)
theorem bytesF_any (n cap B : Nat) (a : Option Addr) (l : List Nat) (w : World) (hl : l.length = n) (hn : n ≤ 900000) (hP : BytesAt w B a cap l) :
    Calls Tryz.prog 14 #[.slice a n cap] w fun e w' => ∃ v, e = .returned v ∧ w.grownBy w' none ∧ w'.ownsRow w.heap.size 5 1 v (8 + n) ((encN (n : Int) ++ l).map u8N) := by
  have HP := Lib.hid (And.intro hl (And.intro hn hP)); clear hl hn hP
  have HN := Lib.hid (numF_any (n : Int) w)
  go_enter Tryz.func14, Tryz.ntmps14
  go_wp2_with (fail)
  refine HN.out.mono ?_
  rintro e w1 ⟨g, rfl, hg, _, hb⟩
  have H1 := Lib.hid (And.intro hg hb); clear hg hb
  go_wp2_with (fail)
  refine (join_any 2 2 _ [encN (n : Int), l] _ _ rfl (rows2 (encN_length _) HP.out.1 (numF_bytes H1.out.2) (HP.out.2.2.stay H1.out.1).full) (by decide) (by have h1 := HP.out.1; have h2 := HP.out.2.1; simp only [List.flatten_cons, List.flatten_nil, List.append_nil, List.length_append, encN_length]; omega)).mono ?_
  rintro e w2 ⟨v, rfl, hg, ho⟩
  simp only [List.flatten_cons, List.flatten_nil, List.append_nil] at ho
  have gz := gb_alloc H1.out.1 (.cells #[.slice (some ⟨g, 0, none⟩) 8 8, .slice a n cap] 23)
  have H2 := Lib.hid (And.intro (gb_trans gz hg) (own_down ho gz.size)); clear gz hg ho
  go_wp2
  go_ret
  exact ⟨v, rfl, H2.out.1, by have h := H2.out.2; rw [List.length_append, encN_length, HP.out.1] at h; exact h⟩
end Go.Proofs.YtohcoihdijemfaaGreat

/- Rows of bytes, in a row of one's own: a row more. -/
namespace Go.Proofs.YtohcoihdijemfaaGreat
open Go.RowKit Ow

theorem elt_bytes : Elt 23 22 24 (.slice none 0 0) := by
  refine ⟨Tryz.underlying22, ?_⟩
  have h : (Tryz.prog.info? 23).map (fun i => (i.zero, i.size, i.bytes)) = some (some (.slice none 0 0), 1, 24) := by kernel_rfl
  cases hi : Tryz.prog.info? 23 with
  | none => rw [hi] at h; cases h
  | some i =>
    rw [hi] at h
    simp only [Option.map_some, Option.some.injEq, Prod.mk.injEq] at h
    exact ⟨i, rfl, h.1, h.2.1, h.2.2, rfl⟩
theorem _root_.Go.World.ownsRow.stay {w w' : World} {base e n : Nat} {v : Value} {xs : List Value} (h : w.ownsRow base e 1 v n xs) (hg : w.grownBy w' none) : w'.ownsRow base e 1 v n xs := by
  refine ⟨h.1, ?_⟩
  rcases h.2 with h0 | ⟨g, c, cur, e1, h1, h2, h3⟩
  · exact Or.inl h0
  · exact Or.inr ⟨g, c, cur, e1, h1, by rw [hg.block g (Array.getElem?_eq_some_iff.1 h2).1 (by simp)]; exact h2, h3⟩
/-- the rows L in a row of one's own; none of them lies in its block -/
def Parts (w : World) (base : Nat) (v : Value) (L : List (List Nat)) : Prop :=
  ∃ xs, w.ownsRow base 23 1 v L.length xs ∧ ∀ i, i < L.length → ∃ a c, xs[i]? = some (.slice a (L.getD i []).length c) ∧ BytesAt w w.heap.size a c (L.getD i []) ∧ ∀ pb po, a = some ⟨pb, po, none⟩ → v.ownBlock ≠ some pb ∧ pb < w.heap.size
theorem Parts.nil (w : World) (base : Nat) : Parts w base (.slice none 0 0) [] := ⟨[], World.ownsRow_nil w _ _ 1, fun i hi => by simp at hi⟩
theorem Parts.stay {w w' : World} {base : Nat} {v : Value} {L : List (List Nat)} (h : Parts w base v L) (hg : w.grownBy w' none) : Parts w' base v L := by
  obtain ⟨xs, ho, hc⟩ := h
  refine ⟨xs, ho.stay hg, fun i hi => ?_⟩
  obtain ⟨a, c, h1, h2, h3⟩ := hc i hi
  exact ⟨a, c, h1, (h2.stay hg).full, fun pb po e => ⟨(h3 pb po e).1, Nat.lt_of_lt_of_le (h3 pb po e).2 hg.size⟩⟩
theorem Parts.rows {w : World} {base : Nat} {v : Value} {L : List (List Nat)} (h : Parts w base v L) : ∃ a cap, v = .slice a L.length cap ∧ RowsAt w w.heap.size a L := by
  obtain ⟨xs, ho, hc⟩ := h
  rcases own_shape ho with ⟨rfl, h0⟩ | ⟨g, c, rfl⟩
  · refine ⟨Option.none, 0, by rw [h0], Nat.le_refl _, Or.inl h0⟩
  · refine ⟨_, c, rfl, Nat.le_refl _, Or.inr ⟨g, 0, rfl, (own_lt ho).1, fun i hi => ?_⟩⟩
    obtain ⟨a, c, h1, h2, _⟩ := hc i hi
    exact ⟨a, c, by rw [Nat.zero_add]; exact own_cell ho h1, h2⟩
theorem getD_push_lt (L : List (List Nat)) (l : List Nat) (i : Nat) (h : i < L.length) : (L ++ [l]).getD i [] = L.getD i [] := by
  rw [List.getD_eq_getElem?_getD, List.getD_eq_getElem?_getD, List.getElem?_append_left h]
theorem getD_push (L : List (List Nat)) (l : List Nat) : (L ++ [l]).getD L.length [] = l := by
  rw [List.getD_eq_getElem?_getD, List.getElem?_append_right (Nat.le_refl _)]; simp
/-- what a row more comes to -/
theorem parts_more {w' : World} {base : Nat} {v' : Value} {L : List (List Nat)} {xs : List Value} {a : Option Addr} {n c : Nat} {l : List Nat} (hl : l.length = n) (hxl : xs.length = L.length)
    (ho : w'.ownsRow base 23 1 v' (L.length + 1) (xs ++ [.slice a n c]))
    (hold : ∀ i, i < L.length → ∃ a c, xs[i]? = some (.slice a (L.getD i []).length c) ∧ BytesAt w' w'.heap.size a c (L.getD i []) ∧ ∀ pb po, a = some ⟨pb, po, none⟩ → v'.ownBlock ≠ some pb ∧ pb < w'.heap.size)
    (hnew : BytesAt w' w'.heap.size a c l ∧ ∀ pb po, a = some ⟨pb, po, none⟩ → v'.ownBlock ≠ some pb ∧ pb < w'.heap.size) : Parts w' base v' (L ++ [l]) := by
  subst hl
  refine ⟨xs ++ [.slice a l.length c], by rw [List.length_append]; exact ho, fun i hi => ?_⟩
  rw [List.length_append, List.length_singleton] at hi
  by_cases h : i < L.length
  · obtain ⟨a1, c1, h1, h2, h3⟩ := hold i h
    rw [getD_push_lt L l i h]
    exact ⟨a1, c1, by rw [List.getElem?_append_left (by omega)]; exact h1, h2, h3⟩
  · obtain rfl : i = L.length := by omega
    rw [getD_push]
    exact ⟨a, c, by rw [← hxl, List.getElem?_append_right (Nat.le_refl _)]; simp, hnew⟩
theorem parts_push (w : World) (base : Nat) (v : Value) (L : List (List Nat)) (a : Option Addr) (n c : Nat) (l : List Nat) (h : Parts w base v L) (hl : l.length = n) (hP : BytesAt w w.heap.size a c l) (hne : ∀ pb po, a = some ⟨pb, po, none⟩ → v.ownBlock ≠ some pb ∧ pb < w.heap.size) (hb : base ≤ w.heap.size) (hk : L.length ≤ 1000000) :
    ∃ v' w', (Builtin.append_ #[22, 22] 22 #[v, .slice (some ⟨w.heap.size, 0, none⟩) 1 1]).run Tryz.prog (w.alloc (.cells #[.slice a n c] 23)) = .ok v' w' ∧ Parts w' base v' (L ++ [l]) ∧ w.grownBy w' v.ownBlock ∧ (∀ g, v'.ownBlock = some g → v.ownBlock = some g ∨ w.heap.size ≤ g) := by
  obtain ⟨xs, ho, hc⟩ := h
  have g0 := gb_alloc (gb_refl w none) (.cells #[.slice a n c] 23)
  have hs0 := g0.size
  have hbx : Blk (w.alloc (.cells #[.slice a n c] 23)) w.heap.size 23 [.slice a n c] := Blk.new w [.slice a n c] 23
  have hnews : ∀ j u, ([.slice a n c] : List Value)[j]? = some u → (w.alloc (.cells #[.slice a n c] 23)).cell? ((⟨w.heap.size, 0, none⟩ : Addr).add j) = some u := fun j u hu => by
    have hadd : (⟨w.heap.size, 0, none⟩ : Addr).add j = ⟨w.heap.size, j, none⟩ := by unfold Addr.add; split <;> simp_all
    rw [hadd]; exact hbx.cell hu
  have h1 : ∀ u ∈ ([.slice a n c] : List Value), u.oneCell' = true := fun u hu => by rw [List.mem_singleton.1 hu]; rfl
  have hxl : xs.length = L.length := by have := ho.1; omega
  generalize w.alloc (.cells #[.slice a n c] 23) = wb at *
  have hPb : BytesAt wb w.heap.size a c l := hP.stay g0
  rcases own_shape ho with ⟨rfl, h0⟩ | ⟨g, cap, rfl⟩
  · obtain rfl : L = [] := List.eq_nil_of_length_eq_zero h0
    obtain ⟨g, c', w', hr, hno, hgr⟩ := append_to_none elt_bytes wb ⟨w.heap.size, 0, none⟩ 1 1 [.slice a n c] (by decide) rfl hnews h1 (by decide) (by decide)
    have hgn := (own_lt hno).2.1
    refine ⟨_, w', hr, ?_, gb_trans g0 hgr, fun g' e => by simp only [Value.ownBlock, Option.some.injEq] at e; omega⟩
    refine parts_more (xs := []) (a := a) (n := n) (c := c) hl rfl (own_down hno (Nat.le_trans hb hs0)) (fun i hi => by simp at hi) ⟨(hPb.stay hgr).full, fun pb po e => ?_⟩
    have h5 := (hne pb po e).2
    have h6 := hgr.size
    exact ⟨fun e2 => by simp only [Value.ownBlock, Option.some.injEq] at e2; omega, by omega⟩
  · have hgl := (own_lt ho).1
    have hop := ho.stay g0
    rcases append_cases elt_bytes wb base g L.length cap xs hop ⟨w.heap.size, 0, none⟩ 1 1 [.slice a n c] rfl hnews h1 (by omega) (by omega) with ⟨_, w', hr, hno, hgr⟩ | ⟨_, c', w', hr, hno, hgr⟩
    · refine ⟨_, w', hr, ?_, gb_trans (gb_row g0 _) hgr, fun g' e => Or.inl e⟩
      refine parts_more (a := a) (n := n) (c := c) hl hxl hno (fun i hi => ?_) ⟨((hPb.full).apart hgr (Or.inr fun pb po e e2 => ?_)).full, fun pb po e => ⟨(hne pb po e).1, by have h5 := (hne pb po e).2; have h6 := hgr.size; omega⟩⟩
      · obtain ⟨a1, c1, e1, e2, e3⟩ := hc i hi
        exact ⟨a1, c1, e1, ((e2.stay g0).apart hgr (Or.inr fun pb po e e4 => (e3 pb po e).1 (by rw [e4]; rfl))).full, fun pb po e => ⟨(e3 pb po e).1, by have h5 := (e3 pb po e).2; have h6 := hgr.size; omega⟩⟩
      · exact (hne pb po e).1 (by rw [e2]; rfl)
    · refine ⟨_, w', hr, ?_, gb_row (gb_trans g0 hgr) _, fun g' e => by simp only [Value.ownBlock, Option.some.injEq] at e; omega⟩
      refine parts_more (a := a) (n := n) (c := c) hl hxl (own_down hno (Nat.le_trans hb hs0)) (fun i hi => ?_) ⟨(hPb.stay hgr).full, fun pb po e => ?_⟩
      · obtain ⟨a1, c1, e1, e2, e3⟩ := hc i hi
        refine ⟨a1, c1, e1, ((e2.stay g0).stay hgr).full, fun pb po e => ?_⟩
        have h5 := (e3 pb po e).2
        have h6 := hgr.size
        exact ⟨fun e2 => by simp only [Value.ownBlock, Option.some.injEq] at e2; omega, by omega⟩
      · have h5 := (hne pb po e).2
        have h6 := hgr.size
        exact ⟨fun e2 => by simp only [Value.ownBlock, Option.some.injEq] at e2; omega, by omega⟩
end Go.Proofs.YtohcoihdijemfaaGreat

/- Regions that draw their order, in short: memory only grows; slices of bytes, rows of them; a tail in text order. -/
namespace Go.Proofs.YtohcoihdijemfaaGreat
open Go.RowKit Ow Wi
/-- a call that answers bytes -/
def YOut (w : World) (l : List Nat) (e : Ending) (w' : World) : Prop := ∃ a c, e = .returned (.slice a l.length c) ∧ w.grownBy w' none ∧ BytesAt w' w'.heap.size a c l
theorem bout_own {w w' : World} {base n : Nat} {v : Value} {l : List Nat} (hg : w.grownBy w' none) (h : w'.ownsRow base 5 1 v n (l.map u8N)) (hn : l.length = n) (hb : ∀ i, l.getD i 0 < 256) : YOut w l (.returned v) w' := by
  subst hn
  obtain ⟨a, c, rfl, _, hB, _⟩ := own_slice h hb
  exact ⟨a, c, rfl, hg, hB⟩
theorem app_byte {p q : List Nat} (hp : ∀ i, p.getD i 0 < 256) (hq : ∀ i, q.getD i 0 < 256) (i : Nat) : (p ++ q).getD i 0 < 256 := by
  rw [List.getD_eq_getElem?_getD, List.getElem?_append]
  split
  · rw [← List.getD_eq_getElem?_getD]; exact hp i
  · rw [← List.getD_eq_getElem?_getD]; exact hq _
theorem flat_byte {L : List (List Nat)} (h : ∀ l ∈ L, ∀ i, l.getD i 0 < 256) : ∀ i, L.flatten.getD i 0 < 256 := by
  induction L with
  | nil => intro i; simp
  | cons l r ih =>
    intro i
    rw [List.flatten_cons]
    exact app_byte (h l (by simp)) (ih fun l hl => h l (by simp [hl])) i
theorem number_out (n : Int) (w : World) : Calls Tryz.prog 9 #[.int .i64 n] w (YOut w (encN n)) :=
  (numF_any n w).mono fun e w' ⟨g, he, hg, _, hb⟩ => ⟨_, 8, by rw [encN_length]; exact he, hg, numF_bytes hb⟩
/-- a row of bytes with its length ahead -/
theorem bytes_out (n : Nat) (l : List Nat) (a : Option Addr) (cap B : Nat) (w : World) (hn : l.length = n) (h : BytesAt w B a cap l) (hl : l.length ≤ 900000) : Calls Tryz.prog 14 #[.slice a n cap] w (YOut w (encN (l.length : Int) ++ l)) := by
  subst hn
  exact (bytesF_any l.length cap B a l w rfl hl h).mono fun e w' ⟨v, he, hg, ho⟩ => he ▸ bout_own hg ho (by rw [List.length_append, encN_length]) (app_byte (encN_byte _) h.byte)
theorem join_out (n : Nat) (L : List (List Nat)) (a : Option Addr) (cap B : Nat) (w : World) (hn : L.length = n) (h : RowsAt w B a L) (hm : L.length < 9223372036854775808) (hl : L.flatten.length ≤ 1000000) (hb : ∀ l ∈ L, ∀ i, l.getD i 0 < 256) : Calls Tryz.prog 10 #[.slice a n cap] w (YOut w L.flatten) := by
  subst hn
  exact (join_any L.length cap B L a w rfl h hm hl).mono fun e w' ⟨v, he, hg, ho⟩ => he ▸ bout_own hg ho rfl (flat_byte hb)
/-- rows of bytes, that a box holds -/
def rowV (p : Option Addr × Nat × List Nat) : Value := .slice p.1 p.2.2.length p.2.1
theorem rows_box {w : World} (T : TypeId) (P : List (Option Addr × Nat × List Nat)) (h : ∀ p ∈ P, ∃ B, BytesAt w B p.1 p.2.1 p.2.2) :
    RowsAt (w.alloc (.cells (P.map rowV).toArray T)) (w.heap.size + 1) (some ⟨w.heap.size, 0, none⟩) (P.map (·.2.2)) := by
  have hb := Blk.new w (P.map rowV) T
  have hg := gb_alloc (gb_refl w none) (.cells (P.map rowV).toArray T)
  refine ⟨by simp, Or.inr ⟨w.heap.size, 0, rfl, by omega, fun i hi => ?_⟩⟩
  rw [List.length_map] at hi
  have e : P[i]? = some P[i] := List.getElem?_eq_getElem hi
  obtain ⟨B, hB⟩ := h P[i] (List.getElem_mem hi)
  have e2 : (P.map (·.2.2)).getD i [] = P[i].2.2 := by rw [List.getD_eq_getElem?_getD, List.getElem?_map, e]; rfl
  refine ⟨P[i].1, P[i].2.1, ?_, ?_⟩
  · rw [Nat.zero_add, e2]
    exact hb.cell (by rw [List.getElem?_map, e]; rfl)
  · rw [e2]
    exact (hB.stay hg).up (Nat.le_trans hB.lim (by omega)) (by simp)
theorem bytes_box {w : World} (l : List Nat) (h : ∀ i, l.getD i 0 < 256) (hl : l.length < 1000000) : BytesAt (w.alloc (.cells (l.map u8N).toArray 5)) (w.heap.size + 1) (some ⟨w.heap.size, 0, none⟩) l.length l :=
  blk_bytes (tl := []) (by rw [List.append_nil]; exact Blk.new w (l.map u8N) _) rfl (Nat.le_refl _) (by omega) h (by omega) (by simp)
namespace Fg
/-- a slice of the bytes l -/
def It.by (l : List Nat) : It := ⟨fun v w => ∃ a cap B, v = .slice a l.length cap ∧ BytesAt w B a cap l, fun _ _ _ ⟨a, cap, B, e, h⟩ hg => ⟨a, cap, B, e, h.stay hg⟩⟩
def It.rws (L : List (List Nat)) : It := ⟨fun v w => ∃ a cap B, v = .slice a L.length cap ∧ RowsAt w B a L, fun _ _ _ ⟨a, cap, B, e, h⟩ hg => ⟨a, cap, B, e, h.stay hg⟩⟩
section
variable {P : Program} {ops : Array Oper} {Q : Exit → Act → World → Prop} {L : List It} {W0 : World} {a0 : Act} {ps : List Nat}
abbrev AtT (k : Nat) (ps : List Nat) (L : List It) (W0 : World) (a0 : Act) (ops : Array Oper) (o : Oper) (a : Act) (w : World) : Prop := AtP k ps L (fun w => W0.grownBy w none) a0 ops o a w
abbrev StT (k : Nat) (ps : List Nat) (P : Program) (Q : Exit → Act → World → Prop) (L : List It) (W0 : World) (a0 : Act) (ops : Array Oper) (i : Nat) (o : Oper) : Prop := (∃ d, o.dst = some d) ∧ StepP k ps P Q L (fun w => W0.grownBy w none) a0 ops i o
theorem vT {k i : Nat} {o : Oper} {d : Nat} (hd : o.dst = some d) (hps : (ps.all fun s => s != d) = true)
    (h : ∀ a w, AtT k ps L W0 a0 ops o a w → ∃ v w', Wants ops o a ∧ (execOp a.eval o).run P w = .ok (.value v) w' ∧ w.grownBy w' none ∧ its L d v w') : StT k ps P Q L W0 a0 ops i o :=
  ⟨⟨d, hd⟩, valueP (fun _ _ h k => gb_trans h k) hd hps fun a w hF => by
    obtain ⟨v, w', hw, hr, hg, hG⟩ := h a w hF
    exact ⟨hw, v, w', hr, hg, hG⟩⟩
theorem cT {k i : Nat} {o : Oper} {d : Nat} (hd : o.dst = some d) (hps : (ps.all fun s => s != d) = true)
    (h : ∀ a w, AtT k ps L W0 a0 ops o a w → ∃ f args, Wants ops o a ∧ (execOp a.eval o).run P w = .ok (.enter f args) w ∧ Calls P f args w fun e w' => ∃ v, e = .returned v ∧ w.grownBy w' none ∧ its L d v w') : StT k ps P Q L W0 a0 ops i o :=
  ⟨⟨d, hd⟩, callP (fun _ _ h k => gb_trans h k) hd hps fun a w hF => by
    obtain ⟨f, args, hw, hr, hc⟩ := h a w hF
    exact ⟨hw, f, args, hr, hc⟩⟩
/-- a new box -/
theorem aT {k i : Nat} {o : Oper} {d : Nat} (T : TypeId) (V : List Value) (hd : o.dst = some d) (hlt : d < a0.tmps.size) (hi : L.getD d .any = .fresh T V W0.heap.size)
    (h : ∀ a w, AtT k ps L W0 a0 ops o a w → Wants ops o a ∧ (execOp a.eval o).run P w = .ok (.value (.pointer (some ⟨w.heap.size, 0, none⟩))) (w.alloc (.cells V.toArray T))) : StT k ps P Q L W0 a0 ops i o :=
  ⟨⟨d, hd⟩, allocP (fun _ _ h k => gb_trans h k) hd hlt fun a w hF => by
    obtain ⟨hw, hr⟩ := h a w hF
    refine ⟨hw, _, hr, World.grownBy_alloc _ _ _, by simp, ?_⟩
    unfold its
    rw [hi]
    exact ⟨w.heap.size, rfl, hF.base.size, Blk.new w V T⟩⟩
theorem sT {k i : Nat} {o : Oper} {d : Nat} (hd : o.dst = some d) (hps : (ps.all fun s => s != d) = true) (hG : ∀ w, its L d undef w)
    (h : ∀ a w, AtT k ps L W0 a0 ops o a w → Region.wanted o (yielded ops a.tmps) = false) : StT k ps P Q L W0 a0 ops i o :=
  ⟨⟨d, hd⟩, skippedP hd hps hG h⟩
theorem region_t {id : Nat} {w : World} (ps : List Nat) (L : List It) (W0 : World) (k : Nat) (hB0 : W0.grownBy w none) (hm : P.follows .mixedOrders = true) (ht : topo ops = true) (ho : once (ops.extract 0 k) a0.tmps.size = true) (htl : tailOk ops k = true) (hk : k ≤ ops.size)
    (hu : (ps.all fun s => match a0.tmps.getD s undef with | .pointer _ => false | _ => true) = true)
    (steps : StepsS k ps P Q L (fun w => W0.grownBy w none) a0 ops 0 (ops.toList.take k))
    (fin : ∀ a w', W0.grownBy w' none → a.tmps.size = a0.tmps.size → a.defers = a0.defers → (∀ d, isDstTo ops k d = false → a.tmps.getD d undef = a0.tmps.getD d undef) →
      (∀ d, isDstTo ops k d = true → its L d (a.tmps.getD d undef) w') → PtrsApart ps a w' → wpList P ops Q (ops.toList.drop k) a w') : (Code.region id ops true).wp P Q a0 w :=
  wp_region_tail L (fun w => W0.grownBy w none) k (gb_drew hB0) hm ht ho htl hk (ptrs_undef hu) steps fin
end
end Fg
end Go.Proofs.YtohcoihdijemfaaGreat

/- Rows of bytes, in a row of one's own: several rows more, out of a box. -/
namespace Go.Proofs.YtohcoihdijemfaaGreat
open Go.RowKit Ow Wi

theorem parts_all {w' : World} {base : Nat} {v' : Value} {L : List (List Nat)} {P : List (Option Addr × Nat × List Nat)} {xs : List Value} (hxl : xs.length = L.length)
    (ho : w'.ownsRow base 23 1 v' (L.length + P.length) (xs ++ P.map rowV))
    (hold : ∀ i, i < L.length → ∃ a c, xs[i]? = some (.slice a (L.getD i []).length c) ∧ BytesAt w' w'.heap.size a c (L.getD i []) ∧ ∀ pb po, a = some ⟨pb, po, none⟩ → v'.ownBlock ≠ some pb ∧ pb < w'.heap.size)
    (hnew : ∀ p ∈ P, BytesAt w' w'.heap.size p.1 p.2.1 p.2.2 ∧ ∀ pb po, p.1 = some ⟨pb, po, none⟩ → v'.ownBlock ≠ some pb ∧ pb < w'.heap.size) : Parts w' base v' (L ++ P.map (·.2.2)) := by
  refine ⟨xs ++ P.map rowV, by rw [List.length_append, List.length_map]; exact ho, fun i hi => ?_⟩
  rw [List.length_append, List.length_map] at hi
  by_cases h : i < L.length
  · obtain ⟨a1, c1, h1, h2, h3⟩ := hold i h
    have e : (L ++ P.map (·.2.2)).getD i [] = L.getD i [] := by rw [List.getD_eq_getElem?_getD, List.getD_eq_getElem?_getD, List.getElem?_append_left h]
    rw [e]
    exact ⟨a1, c1, by rw [List.getElem?_append_left (by omega)]; exact h1, h2, h3⟩
  · obtain ⟨j, rfl⟩ : ∃ j, i = L.length + j := ⟨i - L.length, by omega⟩
    have hj : j < P.length := by omega
    have e0 : P[j]? = some P[j] := List.getElem?_eq_getElem hj
    have e : (L ++ P.map (·.2.2)).getD (L.length + j) [] = P[j].2.2 := by
      rw [List.getD_eq_getElem?_getD, List.getElem?_append_right (by omega), show L.length + j - L.length = j by omega, List.getElem?_map, e0]; rfl
    rw [e]
    obtain ⟨h2, h3⟩ := hnew P[j] (List.getElem_mem hj)
    exact ⟨_, _, by rw [List.getElem?_append_right (by omega), show L.length + j - xs.length = j by omega, List.getElem?_map, e0]; rfl, h2, h3⟩
theorem parts_pushs (w : World) (base b : Nat) (T : TypeId) (v : Value) (L : List (List Nat)) (P : List (Option Addr × Nat × List Nat)) (h : Parts w base v L) (hB : Blk w b T (P.map rowV)) (hvb : v.ownBlock ≠ some b) (hp : 0 < P.length)
    (hP : ∀ p ∈ P, BytesAt w w.heap.size p.1 p.2.1 p.2.2 ∧ ∀ pb po, p.1 = some ⟨pb, po, none⟩ → v.ownBlock ≠ some pb ∧ pb < w.heap.size) (hb : base ≤ w.heap.size) (hk : L.length + P.length ≤ 1000000) :
    ∃ v' w', (Builtin.append_ #[22, 22] 22 #[v, .slice (some ⟨b, 0, none⟩) P.length P.length]).run Tryz.prog w = .ok v' w' ∧ Parts w' base v' (L ++ P.map (·.2.2)) ∧ w.grownBy w' v.ownBlock ∧ (∀ g, v'.ownBlock = some g → v.ownBlock = some g ∨ w.heap.size ≤ g) := by
  obtain ⟨xs, ho, hc⟩ := h
  have hnews : ∀ j u, (P.map rowV)[j]? = some u → w.cell? ((⟨b, 0, none⟩ : Addr).add j) = some u := fun j u hu => by
    have hadd : (⟨b, 0, none⟩ : Addr).add j = ⟨b, j, none⟩ := by unfold Addr.add; split <;> simp_all
    rw [hadd]; exact hB.cell hu
  have h1 : ∀ u ∈ P.map rowV, u.oneCell' = true := fun u hu => by
    obtain ⟨p, _, rfl⟩ := List.mem_map.1 hu; rfl
  have hxl : xs.length = L.length := by have := ho.1; omega
  rcases own_shape ho with ⟨rfl, h0⟩ | ⟨g, cap, rfl⟩
  · obtain rfl : L = [] := List.eq_nil_of_length_eq_zero h0
    obtain ⟨g, c', w', hr, hno, hgr⟩ := append_to_none elt_bytes w ⟨b, 0, none⟩ P.length P.length (P.map rowV) hp (List.length_map _) hnews h1 (by omega) (by omega)
    have hgn := (own_lt hno).2.1
    refine ⟨_, w', hr, ?_, hgr, fun g' e => by simp only [Value.ownBlock, Option.some.injEq] at e; omega⟩
    refine parts_all (xs := []) rfl (by rw [List.length_nil, Nat.zero_add, List.nil_append]; exact own_down hno hb) (fun i hi => by simp at hi) (fun p hp => ⟨((hP p hp).1.stay hgr).full, fun pb po e => ?_⟩)
    have h5 := ((hP p hp).2 pb po e).2
    have h6 := hgr.size
    exact ⟨fun e2 => by simp only [Value.ownBlock, Option.some.injEq] at e2; omega, by omega⟩
  · have hgl := (own_lt ho).1
    rcases append_cases elt_bytes w base g L.length cap xs ho ⟨b, 0, none⟩ P.length P.length (P.map rowV) (List.length_map _) hnews h1 (by omega) (by omega) with ⟨_, w', hr, hno, hgr⟩ | ⟨_, c', w', hr, hno, hgr⟩
    · refine ⟨_, w', hr, ?_, hgr, fun g' e => Or.inl e⟩
      refine parts_all hxl hno (fun i hi => ?_) (fun p hp => ⟨((hP p hp).1.apart hgr (Or.inr fun pb po e e2 => ?_)).full, fun pb po e => ⟨((hP p hp).2 pb po e).1, by have h5 := ((hP p hp).2 pb po e).2; have h6 := hgr.size; omega⟩⟩)
      · obtain ⟨a1, c1, e1, e2, e3⟩ := hc i hi
        exact ⟨a1, c1, e1, (e2.apart hgr (Or.inr fun pb po e e4 => (e3 pb po e).1 (by rw [e4]; rfl))).full, fun pb po e => ⟨(e3 pb po e).1, by have h5 := (e3 pb po e).2; have h6 := hgr.size; omega⟩⟩
      · exact ((hP p hp).2 pb po e).1 (by rw [e2]; rfl)
    · refine ⟨_, w', hr, ?_, gb_row hgr _, fun g' e => by simp only [Value.ownBlock, Option.some.injEq] at e; omega⟩
      refine parts_all hxl (own_down hno hb) (fun i hi => ?_) (fun p hp => ⟨((hP p hp).1.stay hgr).full, fun pb po e => ?_⟩)
      · obtain ⟨a1, c1, e1, e2, e3⟩ := hc i hi
        refine ⟨a1, c1, e1, (e2.stay hgr).full, fun pb po e => ?_⟩
        have h5 := (e3 pb po e).2
        have h6 := hgr.size
        exact ⟨fun e2 => by simp only [Value.ownBlock, Option.some.injEq] at e2; omega, by omega⟩
      · have h5 := ((hP p hp).2 pb po e).2
        have h6 := hgr.size
        exact ⟨fun e2 => by simp only [Value.ownBlock, Option.some.injEq] at e2; omega, by omega⟩
namespace Fg
/-- two rows of bytes, in a box -/
def It.two (n0 : Nat) (x y : List Nat) : It := ⟨fun v w => ∃ b g1 g2, v = .slice (some ⟨b, 0, none⟩) 2 2 ∧ (n0 ≤ b ∧ n0 ≤ g1 ∧ n0 ≤ g2) ∧ Blk w b 23 [.slice (some ⟨g1, 0, none⟩) 8 8, .slice (some ⟨g2, 0, none⟩) 8 8] ∧ Blk w g1 5 (x.map u8N) ∧ Blk w g2 5 (y.map u8N),
  fun _ _ _ ⟨b, g1, g2, e, h, h1, h2, h3⟩ hg => ⟨b, g1, g2, e, h, h1.grown hg (by simp), h2.grown hg (by simp), h3.grown hg (by simp)⟩⟩
end Fg
end Go.Proofs.YtohcoihdijemfaaGreat
