/- slices.Grow, slices.Concat of rows of slices: their values, one behind the other, in new memory. -/
import Derived.Test.YtabdegeaifajfaaGreatDoorOwn
import Derived.Lib.AppendZeros
namespace Go.Proofs.YtabdegeaifajfaaGreatDoor
open Go.RowKit Ow
namespace Mk
theorem info_sl : ∃ i, Tryz.prog.info? 34 = some i ∧ i.zero = some (.slice none 0 0) ∧ i.size = 1 ∧ i.bytes = 24 := by
  have h : (Tryz.prog.info? 34).map (fun i => (i.zero, i.size, i.bytes)) = some (some (.slice none 0 0), 1, 24) := by kernel_rfl
  cases hi : Tryz.prog.info? 34 with
  | none => rw [hi] at h; cases h
  | some i =>
    rw [hi] at h
    simp only [Option.map_some, Option.some.injEq, Prod.mk.injEq] at h
    exact ⟨i, rfl, h.1, h.2.1, h.2.2⟩
/-- a row of one's own of slices -/
def OwnV (w : World) (base : Nat) (v : Value) (xs : List Value) : Prop := w.ownsRow base 34 1 v xs.length xs
set_option maxRecDepth 100000 in
theorem slice_toV (a : Option Addr) (n cap k : Nat) (h : k ≤ cap) :
    ∃ a', (∀ w, (Instr.slice 110 (.slice a n cap) none (some (.int .i64 (k : Int))) none).run Tryz.prog w = .ok (.slice a' k cap) w) ∧ (∀ pb po, a = some ⟨pb, po, none⟩ → a' = some ⟨pb, po, none⟩) := by
  obtain ⟨j, hj, hs⟩ : ∃ j, Tryz.prog.info? (Tryz.prog.elem 110) = some j ∧ j.size = 1 := by
    have h1 : (Tryz.prog.info? (Tryz.prog.elem 110)).map (·.size) = some 1 := by kernel_rfl
    cases hq : Tryz.prog.info? (Tryz.prog.elem 110) with
    | none => rw [hq] at h1; cases h1
    | some j => rw [hq] at h1; exact ⟨j, rfl, by simpa using h1⟩
  refine ⟨if cap = 0 then a else a.map (·.add 0), fun w => ?_, fun pb po e => ?_⟩
  · rw [run_slice_h w 110 a n cap Tryz.underlying110 .i64 _ (by omega) (by omega), Int.toNat_natCast]
    simp [sizeOf, typeInfo, hj, hs, sliced]
  · rw [e]
    split
    · rfl
    · simp [Addr.add]
set_option maxRecDepth 100000 in
set_option maxHeartbeats 800000 in
theorem growV_any (n : Nat) (w : World) (hn : n ≤ 1000000) :
    Calls Tryz.prog 106 #[.slice none 0 0, .int .i64 n] w fun e w' => ∃ v, e = .returned v ∧ w.grownBy w' none ∧ OwnV w' w.heap.size v [] := by
  have i0 : ¬ (n : Int) < 0 := by omega
  by_cases hz : n = 0
  · subst hz
    go_enter Tryz.func106, Tryz.ntmps106
    go_wp2
    go_ret
    exact ⟨_, rfl, gb_refl _ _, World.ownsRow_nil w _ 34 1⟩
  · have i1 : (0 : Int) < (n : Int) := by omega
    obtain ⟨a0, hs0, _⟩ := slice_toV none 0 0 0 (Nat.le_refl _)
    obtain ⟨i, hi, hzz, hsz, hby⟩ := info_sl
    have hr2 := Lib.run_append_nil_zeros (P := Tryz.prog) w 110 3 110 34 i (.slice none 0 0) .i64 .i64 Tryz.underlying110 Tryz.underlying3 hi hzz n (by omega) (by omega) (by omega) (by rw [hby]; omega)
    have hge := grownCap_ge w n 0 34
    have hcm : grownCap w n 0 34 ≤ maxLen := grownCap_le_maxLen w n 0 _ (by unfold maxLen; omega)
    have ho : ∀ cur : Array Value, cur.size = grownCap w n 0 34 * 1 → OwnV (w.drew.alloc (.cells cur 34)) w.heap.size (.slice (some ⟨w.heap.size, 0, none⟩) 0 (grownCap w n 0 34)) [] := fun cur hc => World.ownsRow_made w.drew cur _ (Nat.le_refl _) hcm hc
    have ho2 := ho (Builtin.zeroCells (Value.slice none 0 0).cells n ++ Builtin.zeroCells (Value.slice none 0 0).cells (grownCap w n 0 34 - n)) (by
      simp only [Array.size_append, size_zeroCells]
      show n * 1 + (grownCap w n 0 34 - n) * 1 = _
      omega)
    have hg2 : w.grownBy (w.drew.alloc (.cells (Builtin.zeroCells (Value.slice none 0 0).cells n ++ Builtin.zeroCells (Value.slice none 0 0).cells (grownCap w n 0 34 - n)) 34)) none := gb_alloc (gb_drew (gb_refl _ _)) _
    generalize grownCap w n 0 34 = gc at *
    generalize w.drew.alloc (.cells (Builtin.zeroCells (Value.slice none 0 0).cells n ++ Builtin.zeroCells (Value.slice none 0 0).cells (gc - n)) 34) = w2 at *
    obtain ⟨a1, hs1, ha1⟩ := slice_toV (some ⟨w.heap.size, 0, none⟩) n gc 0 (Nat.zero_le _)
    rw [ha1 w.heap.size 0 rfl] at hs1
    have H := Lib.hid (And.intro hg2 ho2); clear ho ho2 hg2
    have HR := Lib.hid hr2; clear hr2
    have HS := Lib.hid (And.intro hs0 hs1); clear hs0 hs1
    go_enter Tryz.func106, Tryz.ntmps106
    go_wp2_with (at_builtin; refine Lib.wpList_append_run w rfl (.tmp 20) (.tmp 21) 110 3 rfl (.slice none 0 0) (.int .i64 (n : Int)) rfl rfl _ _ HR.out ?_)
    go_ret
    exact ⟨_, rfl, H.out.1, H.out.2⟩
/-- slices in a row, below block B -/
def VRow (w : World) (B : Nat) (a : Option Addr) (vs : List Value) : Prop := vs.length = 0 ∨ ∃ pb po, a = some ⟨pb, po, none⟩ ∧ pb < B ∧ ∀ i (h : i < vs.length), w.cell? ⟨pb, po + i, none⟩ = some vs[i]
theorem VRow.stay {w w' : World} {B : Nat} {a : Option Addr} {vs : List Value} (h : VRow w B a vs) (hB : B ≤ w.heap.size) (hg : w.grownBy w' none) : VRow w' B a vs := by
  rcases h with h0 | ⟨pb, po, ha, hlt, hc⟩
  · exact Or.inl h0
  · exact Or.inr ⟨pb, po, ha, hlt, fun i hi => by rw [gb_cell hg (p := ⟨pb, po + i, none⟩) (Nat.lt_of_lt_of_le hlt hB) (by simp)]; exact hc i hi⟩
/-- a list of such rows: address, room, what lies there -/
abbrev VS := Option Addr × Nat × List Value
def vsV (p : VS) : Value := .slice p.1 p.2.2.length p.2.1
structure VRows (w : World) (B : Nat) (a : Option Addr) (S : List VS) : Prop where
  lim : B ≤ w.heap.size
  cells : S.length = 0 ∨ ∃ pb po, a = some ⟨pb, po, none⟩ ∧ pb < B ∧ ∀ i (h : i < S.length), w.cell? ⟨pb, po + i, none⟩ = some (vsV S[i])
  rows : ∀ p ∈ S, VRow w B p.1 p.2.2 ∧ (∀ v ∈ p.2.2, v.oneCell' = true) ∧ (p.1 = none → p.2.1 = 0)
theorem VRows.stay {w w' : World} {B : Nat} {a : Option Addr} {S : List VS} (h : VRows w B a S) (hg : w.grownBy w' none) : VRows w' B a S := by
  refine ⟨Nat.le_trans h.lim hg.size, ?_, fun p hp => ⟨(h.rows p hp).1.stay h.lim hg, (h.rows p hp).2⟩⟩
  rcases h.cells with h0 | ⟨pb, po, ha, hlt, hc⟩
  · exact Or.inl h0
  · exact Or.inr ⟨pb, po, ha, hlt, fun i hi => by rw [gb_cell hg (p := ⟨pb, po + i, none⟩) (Nat.lt_of_lt_of_le hlt h.lim) (by simp)]; exact hc i hi⟩
theorem append_vals (w : World) (base B : Nat) (v : Value) (xs : List Value) (a : Option Addr) (m c : Nat) (p : List Value) (hown : OwnV w base v xs) (hm : p.length = m) (hp : VRow w B a p) (h1 : ∀ v ∈ p, v.oneCell' = true) (ha : a = none → c = 0) (hn : xs.length + m ≤ 1000000000) (hbase : base ≤ w.heap.size) :
    ∃ v' w', (Builtin.append_ #[110, 110] 110 #[v, .slice a m c]).run Tryz.prog w = .ok v' w' ∧ OwnV w' base v' (xs ++ p) ∧ w.grownBy w' v.ownBlock := by
  obtain ⟨i, hi, hz, hs, hb⟩ := info_sl
  rcases a with _ | ad
  · have h0 : p.length = 0 := by
      rcases hp with h | ⟨_, _, h, _⟩
      · exact h
      · cases h
    obtain rfl : p = [] := List.eq_nil_of_length_eq_zero h0
    obtain rfl : m = 0 := by rw [← hm]; rfl
    obtain rfl := ha rfl
    exact ⟨v, w, run_append_owned_none (P := Tryz.prog) w base 110 110 34 i 1 Tryz.underlying110 hi v xs.length _ hown, by simpa using hown, gb_refl _ _⟩
  · obtain ⟨v', w', hr, ho, hg, _⟩ := run_append_own (P := Tryz.prog) w base 110 110 34 i (.slice none 0 0) 1 24 Tryz.underlying110 hi hz hs hb rfl (by decide) v xs.length xs hown ad m c p (by rw [hm, Nat.mul_one])
      (fun j u hu => by
        have hj := (List.getElem?_eq_some_iff.1 hu).1
        obtain ⟨pb, po, e, _, hc⟩ := hp.resolve_left (by omega)
        cases e
        rw [Addr.add_lit, hc j hj]
        rw [List.getElem?_eq_getElem hj] at hu
        exact hu) h1 (by unfold maxLen; omega) (by omega) hbase
    exact ⟨v', w', hr, by unfold OwnV; rw [List.length_append, hm]; exact ho, hg⟩
/-- what they are together -/
def catV (S : List VS) : List Value := S.flatMap fun p => p.2.2
theorem catV_take (S : List VS) (k : Nat) (hk : k < S.length) : catV (S.take (k + 1)) = catV (S.take k) ++ S[k].2.2 := by
  unfold catV
  rw [List.take_succ_eq_append_getElem hk, List.flatMap_append]; simp
theorem catV_le (S : List VS) (k : Nat) : (catV (S.take k)).length ≤ (catV S).length := by
  conv => rhs; rw [← List.take_append_drop k S]
  unfold catV
  rw [List.flatMap_append, List.length_append]; omega
theorem gb_ownV {w0 w w' : World} {base : Nat} {v : Value} {l : List Value} (h : w0.grownBy w none) (ho : OwnV w base v l) (hb : w0.heap.size ≤ base) (hg : w.grownBy w' v.ownBlock) : w0.grownBy w' none :=
  ⟨hg.os.trans h.os, hg.tape.trans h.tape, hg.output.trans h.output, Nat.le_trans h.size hg.size, fun k hk _ => (hg.block k (Nat.lt_of_lt_of_le hk h.size) (fun e => by have := (ho.lt k e.symm).1; omega)).trans (h.block k hk (by simp))⟩
set_option maxRecDepth 100000 in
set_option maxHeartbeats 1600000 in
theorem concatV_any (m cap B : Nat) (L : List VS) (a : Option Addr) (w : World) (hm : L.length = m) (hR : VRows w B a L) (hm2 : m < 9223372036854775808) (hlen : (catV L).length ≤ 1000000) :
    Calls Tryz.prog 72 #[.slice a m cap] w fun e w' => ∃ v, e = .returned v ∧ w.grownBy w' none ∧ OwnV w' w.heap.size v (catV L) := by
  have HR := Lib.hid hR; clear hR
  have HL := Lib.hid hlen; clear hlen
  have HM := Lib.hid hm; clear hm
  go_enter Tryz.func72, Tryz.ntmps72
  go_wp2_with (fail)
  go_loopw [3, 11] (fun v i wr => ∃ k j : Nat, k ≤ m ∧ i = .int .i64 k ∧ v = .int .i64 ((catV (L.take k)).length : Nat) ∧ wr = w.drewN j) (fun _ i _ => m - (intOf i).toNat)
  case atStart => exact ⟨0, 0, by omega, rfl, rfl, rfl⟩
  case round =>
    obtain ⟨k, j, hk, rfl, rfl, rfl⟩ := hrel
    by_cases hlt : k < m
    · have hkL : k < L.length := by rw [HM.out]; exact hlt
      obtain ⟨pb, po, rfl, hpb, hc⟩ := HR.out.cells.resolve_left (by omega)
      have k1 := hc k hkL
      clear hc
      obtain ⟨⟨ai, ci, xs⟩, hq⟩ : ∃ p : VS, p = L[k] := ⟨_, rfl⟩
      have i0 : (k : Int) < (m : Int) := by omega
      have hN := catV_take L k hkL
      rw [← hq] at hN k1
      have hN' : (catV (L.take (k + 1))).length = (catV (L.take k)).length + xs.length := by rw [hN, List.length_append]
      have hle := catV_le L (k + 1)
      have h6 := HL.out
      have i1 : ¬ (((catV (L.take k)).length : Nat) : Int) + ((xs.length : Nat) : Int) < 0 := by omega
      have i2 : (((catV (L.take k)).length : Nat) : Int) + ((xs.length : Nat) : Int) ≤ 1000000 := by omega
      clear hN hle h6
      have HN := Lib.hid hN'; clear hN'
      unfold vsV at k1
      dsimp only at k1
      clear hq
      generalize (catV (L.take k)).length = s at *
      generalize xs.length = t at *
      go_wp2_with fail
      exact ⟨⟨k + 1, j, by omega, rfl, by rw [HN.out]; rfl, rfl⟩, by show m - ((k : Int) + 1).toNat < m - (k : Int).toNat; omega⟩
    · obtain rfl : k = m := by omega
      clear hlt
      have e0 : L.take k = L := by rw [← HM.out]; exact List.take_length
      rw [e0]
      obtain ⟨s, hs⟩ : ∃ s, s = (catV L).length := ⟨_, rfl⟩
      rw [← hs] at HL ⊢
      have HS := Lib.hid (And.intro hs e0); clear hs e0
      have gw : w.grownBy (w.drewN j) none := gb_drewN (gb_refl _ _) j
      go_wp2_with (fail)
      refine (growV_any s (w.drewN j) HL.out).mono ?_
      rintro e w1 ⟨v, rfl, hg, ho⟩
      have HG : Hid (w.grownBy w1 none ∧ OwnV w1 w.heap.size v []) := ⟨gb_trans gw hg, ho⟩
      clear hg ho gw
      go_wp2_with (fail)
      go_loopw [6, 27] (fun v i wr => ∃ (q : Nat) (u : Value), u = v ∧ q ≤ k ∧ i = .int .i64 q ∧ w.grownBy wr none ∧ OwnV wr w.heap.size u (catV (L.take q))) (fun _ i _ => k - (intOf i).toNat)
      case atStart => exact ⟨0, _, rfl, by omega, rfl, HG.out⟩
      case round =>
        obtain ⟨q, vr, rfl, hq, rfl, hg, ho⟩ := hrel
        by_cases hlt : q < k
        · have hqL : q < L.length := by rw [HM.out]; exact hlt
          obtain ⟨pb, po, rfl, hpb, hc⟩ := HR.out.cells.resolve_left (by omega)
          have k1 := hc q hqL
          clear hc
          have hrow := HR.out.rows L[q] (List.getElem_mem hqL)
          have hN := catV_take L q hqL
          obtain ⟨⟨ai, ci, xs⟩, hqq⟩ : ∃ p : VS, p = L[q] := ⟨_, rfl⟩
          rw [← hqq] at hN k1 hrow
          dsimp only at hN hrow
          have i0 : (q : Int) < (k : Int) := by omega
          have hle := catV_le L (q + 1)
          have h6 := HL.out
          have k2 : wr.cell? ⟨pb, po + q, none⟩ = some (.slice ai xs.length ci) := by
            rw [gb_cell hg (p := ⟨pb, po + q, none⟩) (Nat.lt_of_lt_of_le hpb HR.out.lim) (by simp)]; exact k1
          obtain ⟨v2, w2, hr2, ho2, hg2⟩ := append_vals wr w.heap.size B vr _ ai _ ci xs ho rfl (hrow.1.stay HR.out.lim hg) hrow.2.1 hrow.2.2 (by have e := HS.out.1; rw [hN, List.length_append, ← e] at hle; omega) hg.size
          have HN := Lib.hid (And.intro hN (And.intro ho2 (gb_ownV hg ho (Nat.le_refl _) hg2))); clear hN hle h6 hrow k1 ho2 hg2 hqq
          have hap := hr2; clear hr2
          obtain ⟨t, ht⟩ : ∃ t, t = xs.length := ⟨_, rfl⟩
          rw [← ht] at hap k2
          have HT := Lib.hid ht; clear ht
          go_wp2_with (at_builtin; refine wpList_append_run rfl (.tmp 31) (.tmp 32) 110 rfl rfl _ _ rfl rfl _ _ hap ?_)
          exact ⟨⟨q + 1, _, rfl, by omega, rfl, HN.out.2.2, by rw [HN.out.1]; exact HN.out.2.1⟩, by show k - ((q : Int) + 1).toNat < k - (q : Int).toNat; omega⟩
        · obtain rfl : q = k := by omega
          clear hlt
          have HI := Lib.hid (And.intro hg ho); clear hg ho
          go_wp2_with (fail)
          go_ret
          obtain ⟨hg, ho⟩ := HI.out
          rw [HS.out.2] at ho
          exact ⟨_, rfl, hg, ho⟩
end Mk
end Go.Proofs.YtabdegeaifajfaaGreatDoor
