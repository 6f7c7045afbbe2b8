/- scalar: Bits, whole. -/
import Derived.Test.YtmnlidfalhjghaaGreatDoorScBits
namespace Go.Proofs.YtmnlidfalhjghaaGreatDoor
open Go.RowKit Ow Go.Shelf
attribute [local go_sem] Oper.semAt_some

theorem info_bool : ∃ i z, Tryz.prog.info? 4 = some i ∧ i.zero = some z ∧ i.size = 1 ∧ i.bytes = 1 ∧ z.cells.size = 1 := by
  have h : (Tryz.prog.info? 4).map (fun i => (i.zero.map (·.cells.size), i.size, i.bytes)) = some (some 1, 1, 1) := by kernel_rfl
  cases hi : Tryz.prog.info? 4 with
  | none => rw [hi] at h; cases h
  | some i =>
    rw [hi] at h
    simp only [Option.map_some, Option.some.injEq, Prod.mk.injEq] at h
    cases hz : i.zero with
    | none => rw [hz] at h; cases h.1
    | some z => rw [hz] at h; exact ⟨i, z, rfl, hz, h.2.1, h.2.2, by simpa using h.1⟩
theorem append_bool_fits (w : World) (base g n0 c : Nat) (x : Bool) (xs : List Value) (hown : w.ownsRow base 4 1 (.slice (some ⟨g, 0, none⟩) n0 c) n0 xs) (hroom : n0 + 1 ≤ c) :
    ∃ w', (Builtin.append_ #[25, 25] 25 #[.slice (some ⟨g, 0, none⟩) n0 c, .slice (some ⟨w.heap.size, 0, none⟩) 1 1]).run Tryz.prog (w.alloc (.cells #[.bool x] 4)) = .ok (.slice (some ⟨g, 0, none⟩) (n0 + 1) c) w' ∧ w'.ownsRow base 4 1 (.slice (some ⟨g, 0, none⟩) (n0 + 1) c) (n0 + 1) (xs ++ [.bool x]) ∧ w.grownBy w' (some g) := by
  obtain ⟨i, z, hi, hz, hs, hb, hc⟩ := info_bool
  obtain ⟨w', hr, ho, hg⟩ := run_append_fits (w.alloc (.cells #[.bool x] 4)) base 25 25 4 i 1 (P := Tryz.prog) Tryz.underlying25 hi hs g n0 c xs (hown.alloc _) ⟨w.heap.size, 0, none⟩ 1 1 [.bool x] rfl (fun j u hu => by
      have hj : j = 0 := by
        rcases Nat.eq_zero_or_pos j with h | h
        · exact h
        · rw [List.getElem?_eq_none (by simp; omega)] at hu; cases hu
      subst hj
      rw [show Value.bool x = u by simpa using hu]
      exact (Blk.new w [u] 4).cell (i := 0) rfl) (fun u hu => by rw [List.mem_singleton.1 hu]; rfl) hroom
  exact ⟨w', hr, ho, gb_trans (gb_alloc (gb_refl _ _) _) hg⟩
theorem wpListIn_append_run {F : Fence} {n : Nat} {P : Program} (w : World) {ops : Array Oper} {rest : List Oper} {o : Oper} {a : Act} {Q : Exit → Act → World → Prop}
    (hg : o.guard = none) (s x : Operand) (t : TypeId) (hop : o.op = Op.call { callee := Callee.builtin Builtin.append, args := #[s, x], argTypes := #[t, t] }) (ht : o.type = t) (v y : Value) (hs : a.eval s = v) (hx : a.eval x = y) (v' : Value) (w' : World)
    (hrun : (Builtin.append_ #[t, t] t #[v, y]).run P w = .ok v' w') (hK : wpListIn F n P ops Q rest (a.put o.dst v') w') : wpListIn F n P ops Q (o :: rest) a w := by
  refine wpListIn_plain hg fun K hK' => ?_
  rw [← ht] at hrun
  unfold Oper.wpIn
  refine ⟨?_, ?_⟩
  · simp [Oper.about, hop, resolve, Target.leads, Sem.run_pure]
  · rw [Oper.semAt_plain F _ _ (by rw [hop]; intro c hc'; cases hc')]
    simp [execOp, hop, resolve, invoke, builtin, hs, hx, ← ht, hrun, Result.andThen]
    exact hK' _ _ hK
/-- what holds between two bits -/
structure BitI (w : World) (pb po cap : Nat) (f : Nat → Nat) (pre : List Bool) (W : World) : Prop where
  row : W.ownsRow w.heap.size 4 1 (.slice (some ⟨w.heap.size, 0, none⟩) pre.length 256) pre.length (pre.map .bool)
  box : Blk W (w.heap.size + 1) 25 [.slice (some ⟨w.heap.size, 0, none⟩) pre.length 256]
  grown : w.grownBy W none
  size : w.heap.size + 3 ≤ W.heap.size
theorem bitI_own (w : World) (pb po cap : Nat) (f : Nat → Nat) (n : Nat) (hn : w.heap.size < n) : OwnFrom n (BitI w pb po cap f) := fun s A B row h hg hr =>
  ⟨h.row.kept hg (Or.inr (fun e => by have := (hr _ e.symm).1; simp at this; omega)), blk_from h.box hg hr, gb_from h.grown hg (fun r e => by have := (hr r e).1; omega), Nat.le_trans h.size hg.size⟩
/-- bits that lie in a new block, as a slice -/
def OutT (l : List Bool) (w : World) (e : Ending) (w' : World) : Prop := ∃ g, e = .returned (.slice (some ⟨g, 0, none⟩) l.length l.length) ∧ w.grownBy w' none ∧ w.heap.size ≤ g ∧ Blk w' g 4 (l.map .bool)
set_option maxRecDepth 100000 in
set_option maxHeartbeats 2000000 in
theorem bits_fn (cap pb po : Nat) (f : Nat → Nat) (w : World) (hf : ∀ i, f i < 256) (hpb : pb < w.heap.size) (hc : ∀ j, j < 32 → w.cell? ⟨pb, po + j, none⟩ = some (.int .u8 (f j : Int))) :
    Calls Tryz.prog 9 #[.slice (some ⟨pb, po, none⟩) 32 cap] w (OutT (bitsTo f 256) w) := by
  have HF := Lib.hid hf; clear hf
  have HC := Lib.hid hc; clear hc
  obtain ⟨i, z, hi, hz, hs, hb, hcc⟩ := info_bool
  obtain ⟨w1, hmk, ho1, hg1⟩ := run_make_own w w.heap.size 25 4 i z 1 (P := Tryz.prog) Tryz.underlying25 hi hz hs .i64 .i64 256 (by rw [hb]; omega) (by unfold maxLen; omega) (Nat.le_refl _)
  have hmk' : (Instr.makeSlice 25 (.int .i64 0) (.int .i64 256)).run Tryz.prog w = .ok (.slice (some ⟨w.heap.size, 0, none⟩) 0 256) w1 := hmk
  have hs1 : w1.heap.size = w.heap.size + 1 := by
    have h2 := run_make (P := Tryz.prog) w 25 4 i z Tryz.underlying25 hi hz .i64 .i64 0 256 (by omega) (by omega) (by rw [hb]; omega) (by omega)
    rw [hmk'] at h2
    injection h2 with _ h3
    rw [h3]; simp
  clear hmk hi hz hs hb hcc
  refine (callsIn_wide (n := 9)).1 ?_
  refine callsIn_of_wp_marks Tryz.func9 rfl trivial ?_ rfl
  simp only [Tryz.ntmps9, List.size_toArray, List.length_cons, List.length_nil, Nat.reduceAdd, Nat.reduceSub, Array.replicate_succ, Array.replicate_zero, List.push_toArray, List.append_toArray, List.nil_append, List.cons_append]
  gi_wp2_with fail
  refine ⟨trivial, ?_⟩
  have hX := blk_at w1 (B := w.heap.size + 1) [.slice (some ⟨w.heap.size, 0, none⟩) 0 256] 25 hs1
  have ho2 := ho1.alloc (.cells #[.slice (some ⟨w.heap.size, 0, none⟩) 0 256] 25)
  have hg2 := gb_alloc hg1 (.cells #[.slice (some ⟨w.heap.size, 0, none⟩) 0 256] 25)
  have hs2 : (w1.alloc (.cells #[.slice (some ⟨w.heap.size, 0, none⟩) 0 256] 25)).heap.size = w.heap.size + 2 := by simp [hs1]
  clear ho1 hg1 hs1 hmk'
  revert hX ho2 hg2 hs2
  generalize w1.alloc (.cells #[.slice (some ⟨w.heap.size, 0, none⟩) 0 256] 25) = w2
  intro hX ho2 hg2 hs2
  refine (eachBit_in Fence.wide 8 trivial rfl _ _ _ _).mono ?_
  rintro e w3 ⟨rfl, hw3⟩
  have hI : BitI w pb po cap f [] w3 := by
    subst hw3
    exact ⟨ho2.alloc _, hX.alloc _, gb_alloc hg2 _, by simp [hs2]⟩
  have hBs : Blk w3 (w.heap.size + 2) 22 [.slice (some ⟨pb, po, none⟩) 32 cap] := by
    subst hw3
    exact blk_at w2 [.slice (some ⟨pb, po, none⟩) 32 cap] _ hs2
  have hs3 : w3.heap.size = w.heap.size + 3 := by subst hw3; simp [hs2]
  rw [hs2]
  clear hw3 hX ho2 hg2 hs2
  have HI := Lib.hid hI; clear hI
  gi_wp2_with fail
  have hRN : ∀ j, j < 32 → w3.cell? ⟨pb, po + j, none⟩ = some (.int .u8 (f j : Int)) := fun j hj => by rw [gb_cell HI.out.grown (p := ⟨pb, po + j, none⟩) hpb (by simp)]; exact HC.out j hj
  refine wpIn_rangeFunc_ownG (F := Fence.wide) (n := 9) rfl (by decide) (gf := 41) (lb := #[.pointer (some ⟨w.heap.size + 2, 0, none⟩)]) rfl trivial (enters_of Tryz.func41 (by kernel_rfl) rfl)
    (w0 := w3) (eachBit_stops Fence.wide 8 trivial rfl (by decide) (w.heap.size + 2) pb po cap f HF.out w3 (by omega) (by omega) (hBs.cell (i := 0) rfl) hRN)
    (fun h k => keepsB_t h k) (fun W l o o' hl h _ _ => keepsB_b (n := w3.heap.size) (by omega) (by omega) W l o o' hl h) (Below.refl _ _) (fun _ => rfl)
    (BitI w pb po cap f) (fun _ _ _ => False) (bitI_own w pb po cap f _ (by omega)) (fun _ _ _ _ _ h _ _ => h) HI.out
    (fun x => { tmps := #[.slice (some ⟨pb, po, none⟩) 32 cap, undef, .slice none 0 0, .pointer (some ⟨w.heap.size + 1, 0, none⟩), .bool x, .slice (some ⟨pb, po, none⟩) 32 cap, .int .i64 32, .bool false, .slice (some ⟨w.heap.size, 0, none⟩) 0 256, .slice (some ⟨pb, po, none⟩) 32 cap, .func (.func 41) #[] #[.pointer (some ⟨w.heap.size + 2, 0, none⟩)], .bool x, undef, undef, undef, undef, undef], defers := [] }) ?assign ?body ?done ?stop
  case assign =>
    intro l x W K hK
    gi_wp2
    exact hK
  case body =>
    rintro l pre x W hI hlen
    obtain ⟨w4, hap, ho4, hg4⟩ := append_bool_fits W w.heap.size w.heap.size pre.length 256 x _ hI.row (by omega)
    have hb4 := hI.box.grown hg4 (some_ne' (by omega))
    have c0 := hI.box.cell (i := 0) rfl
    have c4 := hb4.cell (i := 0) rfl
    have f4 := hb4.free 0
    have HAP := Lib.hid hap; clear hap
    have HJ := Lib.hid (And.intro hI (And.intro ho4 (And.intro hg4 hb4))); clear hI ho4 hg4 hb4
    gi_wp2_with (gi_at_builtin; refine wpListIn_append_run _ rfl (.tmp 12) (.tmp 14) 25 rfl rfl _ _ rfl rfl _ _ HAP.out ?_)
    obtain ⟨hI, ho4, hg4, hb4⟩ := HJ.out
    have hg5 := gb_set (gb_refl w4 (some (w.heap.size + 1))) 0 (Value.slice (some ⟨w.heap.size, 0, none⟩) (pre.length + 1) 256)
    have hb5 := hb4.set 0 (Value.slice (some ⟨w.heap.size, 0, none⟩) (pre.length + 1) 256)
    have hk5 := (KeepsFrom.of_grownBy (B := w3.heap.size) hg4 (fun j e => by cases e; omega)).trans (KeepsFrom.of_grownBy (B := w3.heap.size) hg5 (fun j e => by cases e; omega))
    have hpW : pb < W.heap.size := by have := hI.size; omega
    have hp4 : pb < w4.heap.size := Nat.lt_of_lt_of_le hpW hg4.size
    have hqW : w.heap.size + 2 < W.heap.size := by have := hI.size; omega
    have hq4 : w.heap.size + 2 < w4.heap.size := Nat.lt_of_lt_of_le hqW hg4.size
    have e1 : (pre ++ [x]).length = pre.length + 1 := by simp
    have e2 : (pre ++ [x]).map Value.bool = pre.map Value.bool ++ [Value.bool x] := by simp
    refine ⟨hk5, ⟨fun j hj => ?_, ?_⟩, ?_⟩
    · rw [gb_cell hg5 (p := ⟨pb, po + j, none⟩) hp4 (some_ne' (by show pb ≠ w.heap.size + 1; omega)), gb_cell hg4 (p := ⟨pb, po + j, none⟩) hpW (some_ne' (by show pb ≠ w.heap.size; omega))]
    · rw [gb_cell hg5 (p := ⟨w.heap.size + 2, 0, none⟩) hq4 (some_ne' (by show w.heap.size + 2 ≠ w.heap.size + 1; omega)), gb_cell hg4 (p := ⟨w.heap.size + 2, 0, none⟩) hqW (some_ne' (by show w.heap.size + 2 ≠ w.heap.size; omega))]
    · refine ⟨?_, ?_, gb_then (gb_then hI.grown hg4 (Nat.le_refl _)) hg5 (by omega), Nat.le_trans hI.size (Nat.le_trans hg4.size hg5.size)⟩
      · rw [e1, e2]
        exact ho4.kept hg5 (Or.inr (some_ne' (by show w.heap.size ≠ w.heap.size + 1; omega)))
      · rw [e1]; exact hb5
  case done =>
    rintro D ys W hD rfl hI hK
    have hl := bitsTo_length f 256
    have hrow := hI.row
    have hbox := hI.box.cell (i := 0) rfl
    rw [hl] at hrow hbox
    obtain ⟨hbk, hge⟩ := own_blk hrow
    have HJ := Lib.hid (And.intro hI.grown hbk); clear hI hrow hbk hl
    gi_wp2
    have hp := grownBy_putObj' W D (.deferred none)
    have hb5 := HJ.out.2.grown hp (some_ne' (by omega))
    have hg5 := gb_then HJ.out.1 hp (by omega)
    refine ⟨by simp, .inl ⟨_, _, rfl, run_takeDeferred hK, ?_⟩⟩
    refine ⟨.slice (some ⟨w.heap.size, 0, none⟩) 256 256, ?_, w.heap.size, by rw [bitsTo_length], hg5, hge, hb5⟩
    simp [results, Tryz.results9, go_sem]
  case stop =>
    rintro D c pre W _ _ h _
    exact h.elim
theorem bits_any (cap B : Nat) (a : Option Addr) (l : List Nat) (w : World) (hl : l.length = 32) (hP : BytesAt w B a cap l) :
    Calls Tryz.prog 9 #[.slice a 32 cap] w (OutT (bitsTo (fun i => l.getD i 0) 256) w) := by
  obtain ⟨pb, po, rfl, hpb, hpc⟩ := hP.cells.resolve_left (by omega)
  exact bits_fn cap pb po _ w hP.byte (Nat.lt_of_lt_of_le hpb hP.lim) fun j hj => hpc j (by omega)
end Go.Proofs.YtmnlidfalhjghaaGreatDoor
