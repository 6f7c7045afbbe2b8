/- Rows of bytes: what lies below a bound and stays; rows of one's own; appends; parts of slices. -/
import Derived.Test.YtabdegeaifajfaaGreatDoorProg
import Derived.Test.YtabdegeaifajfaaGreatDoorShaMem
import Derived.Laws.AppendOwn
import Derived.Laws.OwnMore
namespace Go.Proofs.YtabdegeaifajfaaGreatDoor
open Go.RowKit
namespace Ow

def u8N (n : Nat) : Value := .int .u8 (n : Int)
/-- a slice of the bytes l, that lie below block B -/
structure BytesAt (w : World) (B : Nat) (a : Option Addr) (cap : Nat) (l : List Nat) : Prop where
  lim : B ≤ w.heap.size
  fits : l.length ≤ cap
  top : cap < 9223372036854775808
  byte : ∀ i, l.getD i 0 < 256
  cells : l.length = 0 ∨ ∃ pb po, a = some ⟨pb, po, none⟩ ∧ pb < B ∧ ∀ i, i < l.length → w.cell? ⟨pb, po + i, none⟩ = some (u8N (l.getD i 0))
theorem BytesAt.kept {w w' : World} {B cap : Nat} {a : Option Addr} {l : List Nat} (h : BytesAt w B a cap l) {row : Option Nat} (hg : w.grownBy w' row) (hr : ∀ r, row = some r → B ≤ r) : BytesAt w' B a cap l := by
  refine ⟨Nat.le_trans h.lim hg.size, h.fits, h.top, h.byte, ?_⟩
  rcases h.cells with h0 | ⟨pb, po, ha, hlt, hc⟩
  · exact Or.inl h0
  · exact Or.inr ⟨pb, po, ha, hlt, fun i hi => by rw [gb_cell hg (p := ⟨pb, po + i, none⟩) (Nat.lt_of_lt_of_le hlt h.lim) (fun e => by have := hr _ e.symm; simp at this; omega)]; exact hc i hi⟩
theorem BytesAt.stay {w w' : World} {B cap : Nat} {a : Option Addr} {l : List Nat} (h : BytesAt w B a cap l) (hg : w.grownBy w' none) : BytesAt w' B a cap l := h.kept hg (fun r e => by cases e)
theorem BytesAt.up {w : World} {B B' cap : Nat} {a : Option Addr} {l : List Nat} (h : BytesAt w B a cap l) (hB : B ≤ B') (hl : B' ≤ w.heap.size) : BytesAt w B' a cap l := by
  refine ⟨hl, h.fits, h.top, h.byte, ?_⟩
  rcases h.cells with h0 | ⟨pb, po, ha, hlt, hc⟩
  · exact Or.inl h0
  · exact Or.inr ⟨pb, po, ha, by omega, hc⟩
theorem u8_getD {l : List Nat} {i : Nat} (h : i < l.length) : (l.map u8N)[i]? = some (u8N (l.getD i 0)) := by
  rw [List.getElem?_map, List.getElem?_eq_getElem h, List.getD_eq_getElem?_getD, List.getElem?_eq_getElem h]; rfl
theorem blk_at (w : World) {B : Nat} (L : List Value) (T : TypeId) (h : w.heap.size = B) : Blk (w.alloc (.cells L.toArray T)) B T L := h ▸ Blk.new w L T
/-- a block of bytes, as a slice -/
theorem blk_bytes {w : World} {N B n cap : Nat} {T : TypeId} {l : List Nat} {tl : List Value} (h : Blk w N T (l.map u8N ++ tl)) (hl : l.length = n) (hc : n ≤ cap) (ht : cap < 9223372036854775808) (hb : ∀ i, l.getD i 0 < 256) (hB : N < B) (hw : B ≤ w.heap.size) :
    BytesAt w B (some ⟨N, 0, none⟩) cap l := by
  subst hl
  refine ⟨hw, hc, ht, hb, Or.inr ⟨N, 0, rfl, hB, fun i hi => ?_⟩⟩
  rw [Nat.zero_add]
  apply h.cell
  rw [List.getElem?_append_left (by simpa using hi)]
  exact u8_getD hi
theorem info_u8 : ∃ i z, Tryz.prog.info? 5 = some i ∧ i.zero = some z ∧ i.size = 1 ∧ i.bytes = 1 ∧ z.cells.size = 1 := by
  have h : (Tryz.prog.info? 5).map (fun i => (i.zero.map (·.cells.size), i.size, i.bytes)) = some (some 1, 1, 1) := by kernel_rfl
  cases hi : Tryz.prog.info? 5 with
  | none => rw [hi] at h; cases h
  | some i =>
    rw [hi] at h
    simp only [Option.map_some, Option.some.injEq, Prod.mk.injEq] at h
    cases hz : i.zero with
    | none => rw [hz] at h; cases h.1
    | some z => rw [hz] at h; exact ⟨i, z, rfl, hz, h.2.1, h.2.2, by simpa using h.1⟩
/-- several elements appended to a row of one's own -/
theorem append_u8 (w : World) (base n m c : Nat) (v : Value) (xs news : List Value) (ad : Addr) (hown : w.ownsRow base 5 1 v n xs) (hl : news.length = m) (hnews : ∀ j u, news[j]? = some u → w.cell? (ad.add j) = some u) (h1 : ∀ u ∈ news, u.oneCell' = true)
    (hn : (n + m) * 1 ≤ 140737488355328) (hbase : base ≤ w.heap.size) :
    ∃ v' w', (Builtin.append_ #[34, 34] 34 #[v, .slice (some ad) m c]).run Tryz.prog w = .ok v' w' ∧ w'.ownsRow base 5 1 v' (n + m) (xs ++ news) ∧ w.grownBy w' v.ownBlock := by
  obtain ⟨i, z, hi, hz, hs, hb, hc⟩ := info_u8
  obtain ⟨v', w', hr, ho, hg, _⟩ := run_append_own w base 34 34 5 i z 1 1 (P := Tryz.prog) Tryz.underlying34 hi hz hs hb hc (by decide) v n xs hown ad m c news (by omega) hnews h1 (by unfold maxLen; omega) hn hbase
  exact ⟨v', w', hr, ho, hg⟩
/-- one element, out of a box that was just made -/
theorem append1_u8 (w : World) (base n : Nat) (v x : Value) (xs : List Value) (hown : w.ownsRow base 5 1 v n xs) (h1 : x.oneCell' = true) (hn : (n + 1) * 1 ≤ 140737488355328) (hbase : base ≤ w.heap.size) :
    ∃ v' w', (Builtin.append_ #[34, 34] 34 #[v, .slice (some ⟨w.heap.size, 0, none⟩) 1 1]).run Tryz.prog (w.alloc (.cells #[x] 5)) = .ok v' w' ∧ w'.ownsRow base 5 1 v' (n + 1) (xs ++ [x]) ∧ w.grownBy w' v.ownBlock := by
  obtain ⟨v', w', hr, ho, hg⟩ := append_u8 (w.alloc (.cells #[x] 5)) base n 1 1 v xs [x] ⟨w.heap.size, 0, none⟩ (hown.alloc _) rfl (fun j u hu => by
    have hj : j = 0 := by
      rcases Nat.eq_zero_or_pos j with h | h
      · exact h
      · rw [List.getElem?_eq_none (by simp; omega)] at hu; cases hu
    subst hj
    rw [show x = u by simpa using hu]
    exact (Blk.new w [u] 5).cell (i := 0) rfl) (fun u hu => by rw [List.mem_singleton.1 hu]; exact h1) hn (by simp; omega)
  exact ⟨v', w', hr, ho, gb_trans (gb_alloc (gb_refl _ _) _) hg⟩

/-- what is written lies in a row of one's own -/
theorem gb_own {w0 w w' : World} {base e n : Nat} {v : Value} {xs : List Value} (h : w0.grownBy w none) (ho : w.ownsRow base e 1 v n xs) (hb : w0.heap.size ≤ base) (hg : w.grownBy w' v.ownBlock) : w0.grownBy w' none :=
  ⟨hg.os.trans h.os, hg.tape.trans h.tape, hg.output.trans h.output, Nat.le_trans h.size hg.size, fun k hk _ => (hg.block k (Nat.lt_of_lt_of_le hk h.size) (fun e => by have := (ho.lt k e.symm).1; omega)).trans (h.block k hk (by simp))⟩
theorem own_drewN {w : World} {base e n : Nat} {v : Value} {xs : List Value} (h : w.ownsRow base e 1 v n xs) (k : Nat) : (w.drewN k).ownsRow base e 1 v n xs := ⟨h.1, h.2⟩
theorem own_some {w : World} {base e n : Nat} {v : Value} {xs : List Value} (h : w.ownsRow base e 1 v n xs) (hn : 0 < n) : ∃ g c, v = .slice (some ⟨g, 0, none⟩) n c ∧ base ≤ g ∧ n ≤ c ∧ c ≤ maxLen ∧ g < w.heap.size := by
  rcases h.2 with ⟨_, h0⟩ | ⟨g, c, cur, rfl, hb, hg, hnc, hcm, _⟩
  · omega
  · exact ⟨g, c, rfl, hb, hnc, hcm, lt_of_block hg⟩
theorem own_cell {w : World} {base e n g c : Nat} {xs : List Value} (h : w.ownsRow base e 1 (.slice (some ⟨g, 0, none⟩) n c) n xs) {j : Nat} {u : Value} (hu : xs[j]? = some u) : w.cell? ⟨g, j, none⟩ = some u := by
  have hl : xs.length = n := by have := h.1; omega
  have hj : j < n := by
    rcases Nat.lt_or_ge j n with h' | h'
    · exact h'
    · rw [List.getElem?_eq_none (by omega)] at hu; cases hu
  rw [h.cellAt j (by omega)]; exact hu

/-- an append whose run is known -/
theorem wpList_append_run {P : Program} {w : World} {ops : Array Oper} {rest : List Oper} {o : Oper} {a : Act} {Q : Exit → Act → World → Prop} (hgd : o.guard = none) (s x : Operand) (t : TypeId)
    (ho : o.op = .call { callee := .builtin .append, args := #[s, x], argTypes := #[t, t] }) (ht : o.type = t) (v y : Value) (hs : a.eval s = v) (hx : a.eval x = y) (v' : Value) (w' : World)
    (hr : (Builtin.append_ #[t, t] t #[v, y]).run P w = .ok v' w') (h : wpList P ops Q rest (a.put o.dst v') w') : wpList P ops Q (o :: rest) a w := by
  refine wpList_plain hgd fun K hK => ?_
  rw [← ht] at hr
  unfold Oper.wp
  simp [execOp, ho, resolve, invoke, builtin, hs, hx, ← ht, hr, Result.andThen]
  exact hK _ _ h
theorem append_none (w : World) (base n c : Nat) (v : Value) (xs : List Value) (hown : w.ownsRow base 5 1 v n xs) :
    (Builtin.append_ #[34, 34] 34 #[v, .slice none 0 c]).run Tryz.prog w = .ok v w := by
  obtain ⟨i, z, hi, hz, hs, hb, hc⟩ := info_u8
  rcases hown.2 with ⟨rfl, rfl⟩ | ⟨g, cap, cur, rfl, _, _, hnc, _⟩
  · simp [Builtin.append_, run_underlying Tryz.underlying34, sizeOf, typeInfo, hi, Builtin.lenOf, Builtin.firstCells]
  · simp [Builtin.append_, run_underlying Tryz.underlying34, sizeOf, typeInfo, hi, Builtin.lenOf, Builtin.firstCells, hnc, storeCells]
theorem own_base {w : World} {b b' e n : Nat} {v : Value} {xs : List Value} (h : w.ownsRow b e 1 v n xs) (hb : b' ≤ b) : w.ownsRow b' e 1 v n xs := by
  refine ⟨h.1, ?_⟩
  rcases h.2 with h' | ⟨g, c, cur, e1, e2, e3⟩
  · exact Or.inl h'
  · exact Or.inr ⟨g, c, cur, e1, Nat.le_trans hb e2, e3⟩
theorem own_kept {w w' : World} {base e n : Nat} {v : Value} {xs : List Value} (h : w.ownsRow base e 1 v n xs) (hg : w.grownBy w' none) : w'.ownsRow base e 1 v n xs :=
  h.kept hg (by cases v.ownBlock <;> simp)
/-- bytes that lie somewhere, appended where there is room -/
theorem append_bytes_fits (w : World) (base g n0 c B cap n : Nat) (xs : List Value) (a : Option Addr) (p : List Nat) (hown : w.ownsRow base 5 1 (.slice (some ⟨g, 0, none⟩) n0 c) n0 xs) (hn : p.length = n) (hP : BytesAt w B a cap p) (hroom : n0 + n ≤ c) :
    ∃ w', (Builtin.append_ #[34, 34] 34 #[.slice (some ⟨g, 0, none⟩) n0 c, .slice a n cap]).run Tryz.prog w = .ok (.slice (some ⟨g, 0, none⟩) (n0 + n) c) w' ∧ w'.ownsRow base 5 1 (.slice (some ⟨g, 0, none⟩) (n0 + n) c) (n0 + n) (xs ++ p.map u8N) ∧ w.grownBy w' (some g) := by
  subst hn
  obtain ⟨i, z, hi, hz, hs, hb, hc⟩ := info_u8
  rcases a with _ | ad
  · have h0 : p.length = 0 := by
      rcases hP.cells with h | ⟨_, _, h, _⟩
      · exact h
      · cases h
    obtain rfl : p = [] := List.eq_nil_of_length_eq_zero h0
    exact ⟨w, append_none w base n0 cap _ xs hown, by simpa using hown, gb_refl _ _⟩
  · refine run_append_fits w base 34 34 5 i 1 (P := Tryz.prog) Tryz.underlying34 hi hs g n0 c xs hown ad p.length cap (p.map u8N) (by simp) (fun j u hu => ?_) (fun u hu => ?_) hroom
    · rcases hP.cells with h | ⟨pb, po, h, _, hc⟩
      · obtain rfl : p = [] := List.eq_nil_of_length_eq_zero h
        simp at hu
      · cases h
        have hj : j < p.length := by
          rcases Nat.lt_or_ge j p.length with h | h
          · exact h
          · rw [List.getElem?_eq_none (by simpa using h)] at hu; cases hu
        have hadd : (⟨pb, po, none⟩ : Addr).add j = ⟨pb, po + j, none⟩ := by unfold Addr.add; split <;> simp_all
        rw [hadd, hc j hj, ← hu, u8_getD hj]
    · obtain ⟨x, _, rfl⟩ := List.mem_map.1 hu
      rfl
/-- .. and where there may be none -/
theorem append_bytes (w : World) (base n0 B cap n : Nat) (v : Value) (xs : List Value) (a : Option Addr) (p : List Nat) (hown : w.ownsRow base 5 1 v n0 xs) (hn : p.length = n) (hP : BytesAt w B a cap p)
    (hb : n0 + n ≤ 140737488355328) (hbase : base ≤ w.heap.size) :
    ∃ v' w', (Builtin.append_ #[34, 34] 34 #[v, .slice a n cap]).run Tryz.prog w = .ok v' w' ∧ w'.ownsRow base 5 1 v' (n0 + n) (xs ++ p.map u8N) ∧ w.grownBy w' v.ownBlock := by
  subst hn
  rcases a with _ | ad
  · have h0 : p.length = 0 := by
      rcases hP.cells with h | ⟨_, _, h, _⟩
      · exact h
      · cases h
    obtain rfl : p = [] := List.eq_nil_of_length_eq_zero h0
    exact ⟨v, w, append_none w base n0 cap _ xs hown, by simpa using hown, gb_refl _ _⟩
  · refine append_u8 w base n0 p.length cap v xs (p.map u8N) ad hown (by simp) (fun j u hu => ?_) (fun u hu => ?_) (by omega) hbase
    · rcases hP.cells with h | ⟨pb, po, h, _, hc⟩
      · obtain rfl : p = [] := List.eq_nil_of_length_eq_zero h
        simp at hu
      · cases h
        have hj : j < p.length := by
          rcases Nat.lt_or_ge j p.length with h | h
          · exact h
          · rw [List.getElem?_eq_none (by simpa using h)] at hu; cases hu
        have hadd : (⟨pb, po, none⟩ : Addr).add j = ⟨pb, po + j, none⟩ := by unfold Addr.add; split <;> simp_all
        rw [hadd, hc j hj, ← hu, u8_getD hj]
    · obtain ⟨x, _, rfl⟩ := List.mem_map.1 hu
      rfl
/-- one byte, out of a box that was just made, where there is room -/
theorem append_byte_fits (w : World) (base g n0 c x : Nat) (xs : List Value) (hx : x < 256) (hown : w.ownsRow base 5 1 (.slice (some ⟨g, 0, none⟩) n0 c) n0 xs) (hroom : n0 + 1 ≤ c) :
    ∃ w', (Builtin.append_ #[34, 34] 34 #[.slice (some ⟨g, 0, none⟩) n0 c, .slice (some ⟨w.heap.size, 0, none⟩) 1 1]).run Tryz.prog (w.alloc (.cells #[u8N x] 5)) = .ok (.slice (some ⟨g, 0, none⟩) (n0 + 1) c) w' ∧ w'.ownsRow base 5 1 (.slice (some ⟨g, 0, none⟩) (n0 + 1) c) (n0 + 1) (xs ++ [u8N x]) ∧ w.grownBy w' (some g) := by
  have hb := Blk.new w [u8N x] 5
  have hp : BytesAt (w.alloc (.cells #[u8N x] 5)) (w.heap.size + 1) (some ⟨w.heap.size, 0, none⟩) 1 [x] :=
    blk_bytes (l := [x]) (n := 1) (tl := []) hb rfl (by omega) (by omega) (fun i => by cases i <;> simp; omega) (by omega) (by simp)
  obtain ⟨w', hr, ho, hg⟩ := append_bytes_fits (w.alloc (.cells #[u8N x] 5)) base g n0 c (w.heap.size + 1) 1 1 xs _ [x] (hown.alloc _) rfl hp hroom
  exact ⟨w', hr, ho, gb_trans (gb_alloc (gb_refl _ _) _) hg⟩
set_option maxRecDepth 100000 in
/-- x[lo:hi] of a slice of bytes -/
theorem slice_run (a : Option Addr) (n cap lo k : Nat) (h : lo + k ≤ cap) :
    ∃ a', (∀ w, (Instr.slice 34 (.slice a n cap) (some (.int .i64 (lo : Int))) (some (.int .i64 ((lo : Int) + (k : Int)))) none).run Tryz.prog w = .ok (.slice a' k (cap - lo)) w) ∧ (lo < cap → ∀ pb po, a = some ⟨pb, po, none⟩ → a' = some ⟨pb, po + lo, none⟩) := by
  obtain ⟨j, hj, hs⟩ : ∃ j, Tryz.prog.info? (Tryz.prog.elem 34) = some j ∧ j.size = 1 := by
    have h1 : (Tryz.prog.info? (Tryz.prog.elem 34)).map (·.size) = some 1 := by kernel_rfl
    cases hq : Tryz.prog.info? (Tryz.prog.elem 34) with
    | none => rw [hq] at h1; cases h1
    | some j => rw [hq] at h1; exact ⟨j, rfl, by simpa using h1⟩
  have e1 : ((lo : Int) + (k : Int)).toNat = lo + k := by omega
  refine ⟨if cap = lo then a else a.map (·.add lo), fun w => ?_, ?_⟩
  · rw [run_slice_lh w 34 a n cap Tryz.underlying34 .i64 .i64 _ _ (by omega) (by omega) (by omega), e1, Int.toNat_natCast]
    simp [sizeOf, typeInfo, hj, hs, sliced]
  · intro hlt pb po e
    rw [if_neg (by omega), e]
    simp [Addr.add]

set_option maxRecDepth 100000 in
/-- x[lo:] of a slice of bytes -/
theorem slice_from (a : Option Addr) (n cap lo : Nat) (h : lo ≤ n) :
    ∃ a', (∀ w, (Instr.slice 34 (.slice a n cap) (some (.int .i64 (lo : Int))) none none).run Tryz.prog w = .ok (.slice a' (n - lo) (cap - lo)) w) ∧ (lo < cap → ∀ pb po, a = some ⟨pb, po, none⟩ → a' = some ⟨pb, po + lo, none⟩) := by
  obtain ⟨j, hj, hs⟩ : ∃ j, Tryz.prog.info? (Tryz.prog.elem 34) = some j ∧ j.size = 1 := by
    have h1 : (Tryz.prog.info? (Tryz.prog.elem 34)).map (·.size) = some 1 := by kernel_rfl
    cases hq : Tryz.prog.info? (Tryz.prog.elem 34) with
    | none => rw [hq] at h1; cases h1
    | some j => rw [hq] at h1; exact ⟨j, rfl, by simpa using h1⟩
  refine ⟨if cap = lo then a else a.map (·.add lo), fun w => ?_, ?_⟩
  · rw [run_slice_l w 34 a n cap Tryz.underlying34 .i64 _ (by omega) (by omega), Int.toNat_natCast]
    simp [sizeOf, typeInfo, hj, hs, sliced]
  · intro hlt pb po e
    rw [if_neg (by omega), e]
    simp [Addr.add]

end Ow
end Go.Proofs.YtabdegeaifajfaaGreatDoor
