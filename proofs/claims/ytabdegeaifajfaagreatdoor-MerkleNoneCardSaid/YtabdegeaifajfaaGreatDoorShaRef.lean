/- The document's own answer for layer 1: what its small functions tell. -/
import Derived.Test.YtabdegeaifajfaaGreatDoorShaPartM
import Derived.Laws.AppendOwn
import Derived.Laws.OwnMore
namespace Go.Proofs.YtabdegeaifajfaaGreatDoor
open Go.RowKit

theorem rr_is' (x n m : Nat) (hx : x < 18446744073709551616) (hm : m = 64 - n) :
    bits .or .u64 ((x : Int) / 2 ^ n) (IntKind.u64.wrap ((x : Int) * 2 ^ m)) = ((Sha.rr x n : Nat) : Int) := by
  have a : IntKind.u64.wrap ((x : Int) * 2 ^ m) = ((x <<< m % 18446744073709551616 : Nat) : Int) := by
    rw [IntKind.wrap_u64, Nat.shiftLeft_eq, Int.natCast_emod, Int.natCast_mul, Int.natCast_pow]; rfl
  have b : (x : Int) / 2 ^ n = ((x >>> n : Nat) : Int) := by
    rw [Nat.shiftRight_eq_div_pow, Int.natCast_ediv, Int.natCast_pow]; rfl
  rw [a, b, u64_or_nat _ _ (shr_lt64 _ hx) (Nat.mod_lt _ (by decide)), hm, Nat.or_comm]
  rfl
set_option maxHeartbeats 400000 in
theorem rot_any (x n : Int) (w : World) (h0 : 0 ≤ x) (h1 : x < 18446744073709551616) (hn1 : 1 ≤ n) (hn2 : n ≤ 63) :
    Calls Tryz.prog 102 #[.int .u64 x, .int .u64 n] w fun e w' => e = .returned (.int .u64 (rrI x n)) ∧ w = w' := by
  obtain ⟨n, rfl⟩ := Int.eq_ofNat_of_zero_le (show 0 ≤ n by omega)
  obtain ⟨x, rfl⟩ := Int.eq_ofNat_of_zero_le h0
  obtain ⟨m, hm⟩ : ∃ m : Nat, m = 64 - n := ⟨_, rfl⟩
  have em : 64 - (n : Int) = (m : Int) := by omega
  have m2 : (m : Int) ≤ 63 := by omega
  have Hf := Lib.hid (rr_is' x n m (by omega) hm); clear hm
  go_enter Tryz.func102, Tryz.ntmps102
  go_wp2
  go_ret
  exact ⟨ret64 Hf.out, rfl⟩

theorem info_u64 : ∃ i z, Tryz.prog.info? 118 = some i ∧ i.zero = some z ∧ i.size = 1 ∧ i.bytes = 8 ∧ z.cells.size = 1 := by
  have h : (Tryz.prog.info? 118).map (fun i => (i.zero.map (·.cells.size), i.size, i.bytes)) = some (some 1, 1, 8) := by kernel_rfl
  cases hi : Tryz.prog.info? 118 with
  | none => rw [hi] at h; cases h
  | some i =>
    rw [hi] at h
    simp only [Option.map_some, Option.some.injEq, Prod.mk.injEq] at h
    cases hz : i.zero with
    | none => rw [hz] at h; cases h.1
    | some z => rw [hz] at h; exact ⟨i, z, rfl, hz, h.2.1, h.2.2, by simpa using h.1⟩
/-- several elements appended to a row of one's own -/
theorem append_u64 (w : World) (base n m c : Nat) (v : Value) (xs news : List Value) (ad : Addr) (hown : w.ownsRow base 118 1 v n xs) (hl : news.length = m) (hnews : ∀ j u, news[j]? = some u → w.cell? (ad.add j) = some u) (h1 : ∀ u ∈ news, u.oneCell' = true)
    (hn : (n + m) * 8 ≤ 140737488355328) (hbase : base ≤ w.heap.size) :
    ∃ v' w', (Builtin.append_ #[81, 81] 81 #[v, .slice (some ad) m c]).run Tryz.prog w = .ok v' w' ∧ w'.ownsRow base 118 1 v' (n + m) (xs ++ news) ∧ w.grownBy w' v.ownBlock := by
  obtain ⟨i, z, hi, hz, hs, hb, hc⟩ := info_u64
  obtain ⟨v', w', hr, ho, hg, _⟩ := run_append_own w base 81 81 118 i z 1 8 (P := Tryz.prog) Tryz.underlying81 hi hz hs hb hc (by decide) v n xs hown ad m c news (by omega) hnews h1 (by unfold maxLen; omega) hn hbase
  exact ⟨v', w', hr, ho, hg⟩
/-- one element, out of a box that was just made -/
theorem append1_u64 (w : World) (base n : Nat) (v x : Value) (xs : List Value) (hown : w.ownsRow base 118 1 v n xs) (h1 : x.oneCell' = true) (hn : (n + 1) * 8 ≤ 140737488355328) (hbase : base ≤ w.heap.size) :
    ∃ v' w', (Builtin.append_ #[81, 81] 81 #[v, .slice (some ⟨w.heap.size, 0, none⟩) 1 1]).run Tryz.prog (w.alloc (.cells #[x] 118)) = .ok v' w' ∧ w'.ownsRow base 118 1 v' (n + 1) (xs ++ [x]) ∧ w.grownBy w' v.ownBlock := by
  obtain ⟨v', w', hr, ho, hg⟩ := append_u64 (w.alloc (.cells #[x] 118)) base n 1 1 v xs [x] ⟨w.heap.size, 0, none⟩ (hown.alloc _) rfl (fun j u hu => by
    have hj : j = 0 := by
      rcases Nat.eq_zero_or_pos j with h | h
      · exact h
      · rw [List.getElem?_eq_none (by simp; omega)] at hu; cases hu
    subst hj
    rw [show x = u by simpa using hu]
    exact (Blk.new w [u] 118).cell (i := 0) rfl) (fun u hu => by rw [List.mem_singleton.1 hu]; exact h1) hn (by simp; omega)
  exact ⟨v', w', hr, ho, gb_trans (gb_alloc (gb_refl _ _) _) hg⟩

theorem info_u8 : ∃ i z, Tryz.prog.info? 5 = some i ∧ i.zero = some z ∧ i.size = 1 ∧ i.bytes = 1 ∧ z.cells.size = 1 := by
  have h : (Tryz.prog.info? 5).map (fun i => (i.zero.map (·.cells.size), i.size, i.bytes)) = some (some 1, 1, 1) := by kernel_rfl
  cases hi : Tryz.prog.info? 5 with
  | none => rw [hi] at h; cases h
  | some i =>
    rw [hi] at h
    simp only [Option.map_some, Option.some.injEq, Prod.mk.injEq] at h
    cases hz : i.zero with
    | none => rw [hz] at h; cases h.1
    | some z => rw [hz] at h; exact ⟨i, z, rfl, hz, h.2.1, h.2.2, by simpa using h.1⟩
/-- several elements appended to a row of one's own -/
theorem append_u8 (w : World) (base n m c : Nat) (v : Value) (xs news : List Value) (ad : Addr) (hown : w.ownsRow base 5 1 v n xs) (hl : news.length = m) (hnews : ∀ j u, news[j]? = some u → w.cell? (ad.add j) = some u) (h1 : ∀ u ∈ news, u.oneCell' = true)
    (hn : (n + m) * 1 ≤ 140737488355328) (hbase : base ≤ w.heap.size) :
    ∃ v' w', (Builtin.append_ #[34, 34] 34 #[v, .slice (some ad) m c]).run Tryz.prog w = .ok v' w' ∧ w'.ownsRow base 5 1 v' (n + m) (xs ++ news) ∧ w.grownBy w' v.ownBlock := by
  obtain ⟨i, z, hi, hz, hs, hb, hc⟩ := info_u8
  obtain ⟨v', w', hr, ho, hg, _⟩ := run_append_own w base 34 34 5 i z 1 1 (P := Tryz.prog) Tryz.underlying34 hi hz hs hb hc (by decide) v n xs hown ad m c news (by omega) hnews h1 (by unfold maxLen; omega) hn hbase
  exact ⟨v', w', hr, ho, hg⟩
/-- one element, out of a box that was just made -/
theorem append1_u8 (w : World) (base n : Nat) (v x : Value) (xs : List Value) (hown : w.ownsRow base 5 1 v n xs) (h1 : x.oneCell' = true) (hn : (n + 1) * 1 ≤ 140737488355328) (hbase : base ≤ w.heap.size) :
    ∃ v' w', (Builtin.append_ #[34, 34] 34 #[v, .slice (some ⟨w.heap.size, 0, none⟩) 1 1]).run Tryz.prog (w.alloc (.cells #[x] 5)) = .ok v' w' ∧ w'.ownsRow base 5 1 v' (n + 1) (xs ++ [x]) ∧ w.grownBy w' v.ownBlock := by
  obtain ⟨v', w', hr, ho, hg⟩ := append_u8 (w.alloc (.cells #[x] 5)) base n 1 1 v xs [x] ⟨w.heap.size, 0, none⟩ (hown.alloc _) rfl (fun j u hu => by
    have hj : j = 0 := by
      rcases Nat.eq_zero_or_pos j with h | h
      · exact h
      · rw [List.getElem?_eq_none (by simp; omega)] at hu; cases hu
    subst hj
    rw [show x = u by simpa using hu]
    exact (Blk.new w [u] 5).cell (i := 0) rfl) (fun u hu => by rw [List.mem_singleton.1 hu]; exact h1) hn (by simp; omega)
  exact ⟨v', w', hr, ho, gb_trans (gb_alloc (gb_refl _ _) _) hg⟩

/-- what is written lies in a row of one's own -/
theorem gb_own {w0 w w' : World} {base e n : Nat} {v : Value} {xs : List Value} (h : w0.grownBy w none) (ho : w.ownsRow base e 1 v n xs) (hb : w0.heap.size ≤ base) (hg : w.grownBy w' v.ownBlock) : w0.grownBy w' none :=
  ⟨hg.os.trans h.os, hg.tape.trans h.tape, hg.output.trans h.output, Nat.le_trans h.size hg.size, fun k hk _ => (hg.block k (Nat.lt_of_lt_of_le hk h.size) (fun e => by have := (ho.lt k e.symm).1; omega)).trans (h.block k hk (by simp))⟩
theorem own_drewN {w : World} {base e n : Nat} {v : Value} {xs : List Value} (h : w.ownsRow base e 1 v n xs) (k : Nat) : (w.drewN k).ownsRow base e 1 v n xs := ⟨h.1, h.2⟩
theorem own_some {w : World} {base e n : Nat} {v : Value} {xs : List Value} (h : w.ownsRow base e 1 v n xs) (hn : 0 < n) : ∃ g c, v = .slice (some ⟨g, 0, none⟩) n c ∧ base ≤ g ∧ n ≤ c ∧ c ≤ maxLen ∧ g < w.heap.size := by
  rcases h.2 with ⟨_, h0⟩ | ⟨g, c, cur, rfl, hb, hg, hnc, hcm, _⟩
  · omega
  · exact ⟨g, c, rfl, hb, hnc, hcm, lt_of_block hg⟩
theorem own_cell {w : World} {base e n g c : Nat} {xs : List Value} (h : w.ownsRow base e 1 (.slice (some ⟨g, 0, none⟩) n c) n xs) {j : Nat} {u : Value} (hu : xs[j]? = some u) : w.cell? ⟨g, j, none⟩ = some u := by
  have hl : xs.length = n := by have := h.1; omega
  have hj : j < n := by
    rcases Nat.lt_or_ge j n with h' | h'
    · exact h'
    · rw [List.getElem?_eq_none (by omega)] at hu; cases hu
  rw [h.cellAt j (by omega)]; exact hu

/-- an append whose run is known -/
theorem wpList_append_run {P : Program} {w : World} {ops : Array Oper} {rest : List Oper} {o : Oper} {a : Act} {Q : Exit → Act → World → Prop} (hgd : o.guard = none) (s x : Operand) (t : TypeId)
    (ho : o.op = .call { callee := .builtin .append, args := #[s, x], argTypes := #[t, t] }) (ht : o.type = t) (v y : Value) (hs : a.eval s = v) (hx : a.eval x = y) (v' : Value) (w' : World)
    (hr : (Builtin.append_ #[t, t] t #[v, y]).run P w = .ok v' w') (h : wpList P ops Q rest (a.put o.dst v') w') : wpList P ops Q (o :: rest) a w := by
  refine wpList_plain hgd fun K hK => ?_
  rw [← ht] at hr
  unfold Oper.wp
  simp [execOp, ho, resolve, invoke, builtin, hs, hx, ← ht, hr, Result.andThen]
  exact hK _ _ h
end Go.Proofs.YtabdegeaifajfaaGreatDoor
