/- merkle's laws: light, of any leaves. -/
import Derived.Test.YtabdegeaifajfaaGreatDoorOwn
namespace Go.Proofs.YtabdegeaifajfaaGreatDoor
open Go.RowKit Ow
namespace Mk
/-- a record's cells, as far as light asks -/
def RecOK (cs : List Value) : Prop := ∃ (s : ByteArray) (v1 v2 : Int) (a1 : Option Addr) (n1 c1 : Nat) (v4 : Bool) (a2 : Option Addr) (n2 c2 : Nat) (a3 : Option Addr) (n3 c3 : Nat), cs = [.string s, .int .i64 v1, .int .i64 v2, .slice a1 n1 c1, .bool v4, .slice a2 n2 c2, .slice a3 n3 c3]
def RecRow (w : World) (B : Nat) (a : Option Addr) (m : Nat) : Prop := m = 0 ∨ ∃ qb qo, a = some ⟨qb, qo, none⟩ ∧ qb < B ∧ ∀ k, k < m → ∃ cs, RecOK cs ∧ ∀ j v, cs[j]? = some v → w.cell? ⟨qb, qo + k * 7 + j, none⟩ = some v
structure LeafRow (w : World) (B : Nat) (a : Option Addr) (n : Nat) : Prop where
  lim : B ≤ w.heap.size
  cells : n = 0 ∨ ∃ pb po, a = some ⟨pb, po, none⟩ ∧ pb < B ∧ ∀ i, i < n → ∃ (s : ByteArray) (ra : Option Addr) (m c : Nat), w.cell? ⟨pb, po + i * 2, none⟩ = some (.string s) ∧ w.cell? ⟨pb, po + i * 2 + 1, none⟩ = some (.slice ra m c) ∧ RecRow w B ra m
theorem RecRow.stay {w w' : World} {B m : Nat} {a : Option Addr} (h : RecRow w B a m) (hB : B ≤ w.heap.size) (hg : w.grownBy w' none) : RecRow w' B a m := by
  rcases h with h | ⟨qb, qo, e, hl, hc⟩
  · exact Or.inl h
  · refine Or.inr ⟨qb, qo, e, hl, fun k hk => ?_⟩
    obtain ⟨cs, h1, h2⟩ := hc k hk
    exact ⟨cs, h1, fun j v hv => by rw [gb_cell hg (p := ⟨qb, qo + k * 7 + j, none⟩) (Nat.lt_of_lt_of_le hl hB) (by simp)]; exact h2 j v hv⟩
theorem LeafRow.stay {w w' : World} {B n : Nat} {a : Option Addr} (h : LeafRow w B a n) (hg : w.grownBy w' none) : LeafRow w' B a n := by
  refine ⟨Nat.le_trans h.lim hg.size, ?_⟩
  rcases h.cells with h0 | ⟨pb, po, e, hl, hc⟩
  · exact Or.inl h0
  · refine Or.inr ⟨pb, po, e, hl, fun i hi => ?_⟩
    obtain ⟨s, ra, m, c, h1, h2, h3⟩ := hc i hi
    exact ⟨s, ra, m, c, by rw [gb_cell hg (p := ⟨pb, po + i * 2, none⟩) (Nat.lt_of_lt_of_le hl h.lim) (by simp)]; exact h1, by rw [gb_cell hg (p := ⟨pb, po + i * 2 + 1, none⟩) (Nat.lt_of_lt_of_le hl h.lim) (by simp)]; exact h2, h3.stay h.lim hg⟩
/-- some truth -/
def BoolOut (w : World) (e : Ending) (w' : World) : Prop := ∃ b : Bool, e = .returned (.bool b) ∧ w.grownBy w' none
set_option maxRecDepth 100000 in
set_option maxHeartbeats 4000000 in
theorem light_any (n cap B : Nat) (a : Option Addr) (w0 : World) (hL : LeafRow w0 B a n) : Calls Tryz.prog 5 #[.slice a n cap] w0 (BoolOut w0) := by
  have HL := Lib.hid hL; clear hL
  go_enter Tryz.func5, Tryz.ntmps5
  go_wp2
  go_loopw [3, 4, 5, 6] (fun x i _k _r wr => ∃ (t : Int) (q : Nat), q ≤ 21 ∧ x = .int .i64 t ∧ i = .int .i64 q ∧ w0.grownBy wr none) (fun _ i _ _ _ => 21 - (intOf i).toNat)
  case atStart => exact ⟨0, 0, by omega, rfl, rfl, gb_refl _ _⟩
  case round =>
    obtain ⟨t, q, hq, rfl, rfl, hg⟩ := hrel
    have HG := Lib.hid hg; clear hg
    by_cases h1 : q < n
    · have i1 : (q : Int) < (n : Int) := by omega
      by_cases h2 : q < 21
      · have i2 : (q : Int) < 21 := by omega
        by_cases h3 : t ≤ 60
        · obtain ⟨pb, po, rfl, hpb, hc⟩ := (HL.out.stay HG.out).cells.resolve_left (by omega)
          obtain ⟨s, ra, m, c, k1, k2, hr⟩ := hc q h1
          clear hc
          go_wp2
          go_region
          have HD := Lib.hid (gb_drew HG.out)
          clear k1 k2 i2 i1
          generalize wrap64 (wrap64 (t + if 100 < (m : Int) then 100 else (m : Int)) + wrap64 ((s.size : Int) / 20)) = t2
          generalize (if 100 < (m : Int) then (100 : Int) else (m : Int)) = mm
          generalize wr.drew = wd at HD ⊢
          go_wp2
          go_loopw [5, 6] (fun k _r wr2 => ∃ j : Nat, j ≤ 100 ∧ k = .int .i64 j ∧ w0.grownBy wr2 none) (fun k _ _ => 100 - (intOf k).toNat)
          case atStart => exact ⟨0, by omega, rfl, HD.out⟩
          case round =>
            obtain ⟨j, hj, rfl, hg2⟩ := hrel
            have HG2 := Lib.hid hg2; clear hg2
            obtain ⟨pb', po', e', hpb', hc⟩ := (HL.out.stay HG2.out).cells.resolve_left (by omega)
            cases e'
            obtain ⟨s', ra', m', c', k1, k2, hr⟩ := hc q h1
            clear hc
            have i1 : (q : Int) < (n : Int) := by omega
            by_cases h5 : j < m'
            · have i5 : (j : Int) < (m' : Int) := by omega
              by_cases h6 : j < 100
              · have i6 : (j : Int) < 100 := by omega
                obtain ⟨qb, qo, rfl, hqb, hcc⟩ := hr.resolve_left (by omega)
                obtain ⟨cs, ⟨ss, v1, v2, a1, n1, c1, v4, a2, n2, c2, a3, n3, c3, rfl⟩, hcs⟩ := hcc j h5
                clear hcc
                have r0 := hcs 0 _ rfl
                rw [Nat.add_zero] at r0
                have r1 := hcs 1 _ rfl
                have r2 := hcs 2 _ rfl
                have r3 := hcs 3 _ rfl
                have r4 := hcs 4 _ rfl
                have r5 := hcs 5 _ rfl
                have r6 := hcs 6 _ rfl
                clear hcs
                by_cases x1 : (200 : Int) < (ss.size : Int)
                · go_wp2
                  go_ret
                  exact ⟨_, rfl, gb_alloc HG2.out _⟩
                by_cases x2 : (2000 : Int) < (n2 : Int)
                · go_wp2
                  go_ret
                  exact ⟨_, rfl, gb_alloc HG2.out _⟩
                by_cases x3 : (50 : Int) < (n1 : Int)
                · go_wp2
                  go_ret
                  exact ⟨_, rfl, gb_alloc HG2.out _⟩
                by_cases x4 : (200 : Int) < (n3 : Int)
                · go_wp2
                  go_ret
                  exact ⟨_, rfl, gb_alloc HG2.out _⟩
                go_wp2
                exact ⟨⟨j + 1, by omega, by congr 1, gb_alloc HG2.out _⟩, by simp [intOf]; omega⟩
              · have i6 : ¬ (j : Int) < 100 := by omega
                go_wp2
                exact ⟨⟨t2, q + 1, by omega, rfl, by congr 1, HG2.out⟩, by simp [intOf]; omega⟩
            · have i5 : ¬ (j : Int) < (m' : Int) := by omega
              go_wp2
              exact ⟨⟨t2, q + 1, by omega, rfl, by congr 1, HG2.out⟩, by simp [intOf]; omega⟩
        · have i3 : ¬ t ≤ 60 := h3
          by_cases h4 : (n : Int) ≤ 20
          · go_wp2
            go_ret
            exact ⟨_, rfl, HG.out⟩
          · go_wp2
            go_ret
            exact ⟨_, rfl, HG.out⟩
      · have i2 : ¬ (q : Int) < 21 := by omega
        by_cases h4 : (n : Int) ≤ 20
        · omega
        · go_wp2
          go_ret
          exact ⟨_, rfl, HG.out⟩
    · have i1 : ¬ (q : Int) < (n : Int) := by omega
      by_cases h4 : (n : Int) ≤ 20
      · by_cases h3 : t ≤ 60
        · go_wp2
          go_ret
          exact ⟨_, rfl, HG.out⟩
        · go_wp2
          go_ret
          exact ⟨_, rfl, HG.out⟩
      · go_wp2
        go_ret
        exact ⟨_, rfl, HG.out⟩
end Mk
end Go.Proofs.YtabdegeaifajfaaGreatDoor
