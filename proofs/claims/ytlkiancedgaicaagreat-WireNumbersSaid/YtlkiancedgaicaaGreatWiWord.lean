/- word and count: a number off a reader's rest, or a panic. -/
import Derived.Test.YtlkiancedgaicaaGreatWiTake
namespace Go.Proofs.YtlkiancedgaicaaGreat
open Go.RowKit Ow Wi

/-- bytes in a block that is elder than block rb -/
def BytesOff (w : World) (rb : Nat) (a : Option Addr) (cap : Nat) (l : List Nat) : Prop := BytesAt w w.heap.size a cap l ∧ (l.length = 0 ∨ ∀ pb po, a = some ⟨pb, po, none⟩ → pb < rb)
theorem BytesOff.stay {w w' : World} {rb cap : Nat} {a : Option Addr} {l : List Nat} (h : BytesOff w rb a cap l) (hg : w.grownBy w' (some rb)) : BytesOff w' rb a cap l :=
  ⟨(h.1.apart hg (h.2.imp id fun f pb po e => Nat.ne_of_lt (f pb po e))).full, h.2⟩
theorem BytesOff.beside {w w' : World} {rb cap T : Nat} {a : Option Addr} {l : List Nat} (h : BytesOff w rb a cap l) (hg : w.grownBy w' (some T)) (hT : rb < T) : BytesOff w' rb a cap l :=
  ⟨(h.1.apart hg (h.2.imp id fun f pb po e => by have := f pb po e; omega)).full, h.2⟩
/-- a reader's block with what is left, whatever its good is -/
def RdB (w : World) (rb : Nat) (g : Value) (l : List Nat) : Prop :=
  ∃ a n cap, Blk w rb 102 [.slice a n cap, g] ∧ l.length = n ∧ BytesOff w rb a cap l
theorem RdB.stay {w w' : World} {rb : Nat} {g : Value} {l : List Nat} (h : RdB w rb g l) (hg : w.grownBy w' none) : RdB w' rb g l := by
  obtain ⟨a, n, cap, hb, hl, hP⟩ := h
  exact ⟨a, n, cap, hb.grown hg (by simp), hl, hP.stay (gb_row hg _)⟩
theorem RdB.beside {w w' : World} {rb T : Nat} {g : Value} {l : List Nat} (h : RdB w rb g l) (hg : w.grownBy w' (some T)) (hT : rb < T) : RdB w' rb g l := by
  obtain ⟨a, n, cap, hb, hl, hP⟩ := h
  exact ⟨a, n, cap, hb.grown hg (by simp; omega), hl, hP.beside hg hT⟩
theorem take_rd (rb : Nat) (g : Value) (l : List Nat) (k : Nat) (w : World) (h : RdB w rb g l) (hk : k ≤ l.length) :
    Calls Tryz.prog 122 #[.pointer (some ⟨rb, 0, none⟩), .int .i64 k] w fun e w' => ∃ a1 c1, e = .returned (.slice a1 k c1) ∧ w.grownBy w' (some rb) ∧ RdB w' rb g (l.drop k) ∧ BytesOff w' rb a1 c1 (l.take k) := by
  obtain ⟨a, n, cap, hb, hl, hP, hne⟩ := h
  have hf := hP.fits
  refine (take_yes rb k n cap a g w hb (by omega) (by omega)).mono ?_
  rintro e w' ⟨a1, a2, rfl, rfl, e1, e2⟩
  have hg : w.grownBy (w.setCell ⟨rb, 0, none⟩ (.slice a2 (n - k) (cap - k))) (some rb) := gb_set (gb_refl _ _) _ _
  refine ⟨a1, cap, rfl, hg, ⟨a2, n - k, cap - k, hb.set 0 _, by rw [List.length_drop]; omega, BytesOff.stay ⟨bytes_drop hP e2, ?_⟩ hg⟩, BytesOff.stay ⟨bytes_take hP e1, ?_⟩ hg⟩
  · rcases hP.cells with h0 | ⟨pb, po, ha, _, _⟩
    · left; rw [List.length_drop]; omega
    · rcases hne with h0 | hne
      · left; rw [List.length_drop]; omega
      · rcases Nat.lt_or_ge k cap with h | h
        · right
          intro pb' po' hq
          rw [e2 h pb po ha] at hq
          cases hq
          exact hne pb po ha
        · left; rw [List.length_drop]; omega
  · rcases hP.cells with h0 | ⟨pb, po, ha, _, _⟩
    · left; rw [List.length_take]; omega
    · rcases hne with h0 | hne
      · left; rw [List.length_take]; omega
      · right
        intro pb' po' hq
        rw [e1 pb po ha] at hq
        cases hq
        exact hne pb po ha
theorem take_bad (rb : Nat) (g : Value) (l : List Nat) (k : Nat) (w : World) (h : RdB w rb g l) (hk : l.length < k) :
    Calls Tryz.prog 122 #[.pointer (some ⟨rb, 0, none⟩), .int .i64 k] w fun e w' => Dies e ∧ w' = w := by
  obtain ⟨a, n, cap, hb, hl, hP, hne⟩ := h
  exact take_no rb k n cap a g w hb (by omega)

theorem wN_le (l : List Nat) (k : Nat) (h : ∀ i, l.getD i 0 < 256) (hk : k ≤ 7) : wN (l.take k) < 72057594037927936 := by
  have h1 := wN_lt (l.take k) (fun b hb => by
    obtain ⟨i, hi, rfl⟩ := List.getElem_of_mem (List.mem_of_mem_take hb)
    have := h i
    rwa [List.getD_eq_getElem?_getD, List.getElem?_eq_getElem hi] at this)
  have h2 : 256 ^ (l.take k).length ≤ 256 ^ 7 := Nat.pow_le_pow_right (by decide) (by rw [List.length_take]; omega)
  have h3 : (256 : Nat) ^ 7 = 72057594037927936 := by decide
  omega
theorem wN_next (l : List Nat) (k : Nat) (hk : k < l.length) : wN (l.take (k + 1)) = wN (l.take k) * 256 + l.getD k 0 := by
  rw [List.take_succ_eq_append_getElem hk, wN_append, List.getD_eq_getElem?_getD, List.getElem?_eq_getElem hk]
  rfl
theorem wN_bits (n b : Nat) (hn : n < 72057594037927936) (hb : b < 256) : bits .or .u64 ((n : Int) * 256) (b : Int) = ((n * 256 + b : Nat) : Int) := by
  have e1 : (n : Int) * 256 = ((2 ^ 8 * n : Nat) : Int) := by omega
  rw [e1, u64_or_nat _ _ (by omega) (by omega), ← Nat.two_pow_add_eq_or_of_lt (by omega)]
  omega
set_option maxHeartbeats 800000 in
theorem word_yes (rb : Nat) (g : Value) (l : List Nat) (k : Nat) (w : World) (h : RdB w rb g l) (hk : k ≤ l.length) (h8 : k ≤ 8) :
    Calls Tryz.prog 66 #[.pointer (some ⟨rb, 0, none⟩), .int .i64 k] w fun e w' => e = .returned (.int .u64 (wN (l.take k))) ∧ w.grownBy w' (some rb) ∧ RdB w' rb g (l.drop k) := by
  have HT := Lib.hid (take_rd rb g l k w h hk)
  clear h
  go_enter Tryz.func66, Tryz.ntmps66
  go_wp2_with (fail)
  refine HT.out.mono ?_
  rintro e w1 ⟨a1, c1, rfl, hg, hr, hP, _⟩
  have hlen : (l.take k).length = k := by rw [List.length_take]; omega
  have hfit := hP.fits
  have htop := hP.top
  rw [hlen] at hfit
  have H := Lib.hid (And.intro hg hr); clear hg hr
  have HP := Lib.hid hP; clear hP
  go_wp2
  go_loopw [5, 14] (fun v i wr => ∃ j q : Nat, j ≤ k ∧ i = .int .i64 j ∧ v = .int .u64 (wN (l.take j)) ∧ wr = w1.drewN q) (fun _ i _ => k - (intOf i).toNat)
  case atStart => exact ⟨0, 0, by omega, rfl, rfl, rfl⟩
  case round =>
    obtain ⟨j, q, hj, rfl, rfl, rfl⟩ := hrel
    by_cases hlt : j < k
    · obtain ⟨pb, po, rfl, _, hc⟩ := HP.out.cells.resolve_left (by rw [hlen]; omega)
      have k1 := hc j (by rw [hlen]; exact hlt)
      rw [getD_take _ _ _ hlt] at k1
      unfold u8N at k1
      clear hc
      have i0 : (j : Int) < (k : Int) := by omega
      have hb : (l.take k).getD j 0 < 256 := HP.out.byte j
      rw [getD_take _ _ _ hlt] at hb
      have hw : wN (l.take j) < 72057594037927936 := by
        have := wN_le (l.take k) j HP.out.byte (by omega)
        rwa [List.take_take, Nat.min_eq_left (by omega)] at this
      have HB := Lib.hid (wN_bits _ _ hw hb)
      have HN := Lib.hid (wN_next l j (by omega))
      generalize wN (l.take j) = n at *
      generalize l.getD j 0 = b at *
      have hbits := HB.out
      go_wp2_with fail
      exact ⟨⟨j + 1, q, by omega, rfl, by rw [HN.out, Int.natCast_add, Int.natCast_mul]; rfl, rfl⟩, by show k - ((j : Int) + 1).toNat < k - (j : Int).toNat; omega⟩
    · obtain rfl : j = k := by omega
      clear hlt
      go_wp2
      go_ret
      exact ⟨rfl, gb_drewN H.out.1 q, H.out.2.stay (gb_drewN (gb_refl _ _) q)⟩
theorem word_no (rb : Nat) (g : Value) (l : List Nat) (k : Nat) (w : World) (h : RdB w rb g l) (hk : l.length < k) :
    Calls Tryz.prog 66 #[.pointer (some ⟨rb, 0, none⟩), .int .i64 k] w fun e w' => Dies e ∧ w' = w := by
  have HT := Lib.hid (take_bad rb g l k w h hk)
  clear h
  go_enter Tryz.func66, Tryz.ntmps66
  go_wp2_with (fail)
  refine HT.out.mono ?_
  rintro e w' ⟨⟨u, pv, rfl⟩, rfl⟩
  exact ⟨rfl, ⟨u, pv, rfl⟩, rfl⟩

theorem conv_yes (m : Nat) (h : m < 18446744073709551616) : IntKind.i64.wrap (m : Int) = toI m := by
  rw [IntKind.wrap_i64]
  unfold toI
  split <;> omega
theorem wN_word (l : List Nat) (h : ∀ i, l.getD i 0 < 256) (k : Nat) (hk : k ≤ 8) : wN (l.take k) < 18446744073709551616 := by
  have h1 := wN_lt (l.take k) (fun b hb => by
    obtain ⟨i, hi, rfl⟩ := List.getElem_of_mem (List.mem_of_mem_take hb)
    have := h i
    rwa [List.getD_eq_getElem?_getD, List.getElem?_eq_getElem hi] at this)
  have h2 : 256 ^ (l.take k).length ≤ 256 ^ 8 := Nat.pow_le_pow_right (by decide) (by rw [List.length_take]; omega)
  have h3 : (256 : Nat) ^ 8 = 18446744073709551616 := by decide
  omega
theorem RdB.byte {w : World} {rb : Nat} {g : Value} {l : List Nat} (h : RdB w rb g l) : ∀ i, l.getD i 0 < 256 := by
  obtain ⟨_, _, _, _, _, hP, _⟩ := h
  exact hP.byte
/-- a number from 0 to most -/
theorem count_yes (rb : Nat) (g : Value) (l : List Nat) (most : Int) (w : World) (h : RdB w rb g l) (hk : 8 ≤ l.length) (h0 : 0 ≤ toI (wN (l.take 8))) (h1 : toI (wN (l.take 8)) ≤ most) :
    Calls Tryz.prog 119 #[.pointer (some ⟨rb, 0, none⟩), .int .i64 most] w fun e w' => e = .returned (.int .i64 (toI (wN (l.take 8)))) ∧ w.grownBy w' (some rb) ∧ RdB w' rb g (l.drop 8) := by
  have HT := Lib.hid (word_yes rb g l 8 w h hk (by decide))
  have hc := conv_yes _ (wN_word l h.byte 8 (by decide))
  clear h
  go_enter Tryz.func119, Tryz.ntmps119
  go_wp2_with (fail)
  refine HT.out.mono ?_
  rintro e w1 ⟨rfl, hg, hr⟩
  have H := Lib.hid (And.intro hg hr); clear hg hr
  obtain ⟨t, ht⟩ : ∃ t, t = toI (wN (l.take 8)) := ⟨_, rfl⟩
  rw [← ht] at h0 h1 hc
  have HTT := Lib.hid ht; clear ht
  go_wp2_with (fail)
  refine (must_yes w1).mono ?_
  rintro e w' ⟨rfl, rfl⟩
  go_wp2
  go_ret
  exact ⟨congrArg (fun z => Ending.returned (.int .i64 z)) HTT.out, H.out⟩
/-- .. and no such number -/
theorem count_no (rb : Nat) (g : Value) (l : List Nat) (most : Int) (w : World) (h : RdB w rb g l) (hn : ¬ (8 ≤ l.length ∧ 0 ≤ toI (wN (l.take 8)) ∧ toI (wN (l.take 8)) ≤ most)) :
    Calls Tryz.prog 119 #[.pointer (some ⟨rb, 0, none⟩), .int .i64 most] w fun e w' => Dies e ∧ w.grownBy w' (some rb) ∧ ∃ l', RdB w' rb g l' := by
  by_cases h8 : 8 ≤ l.length
  · have HT := Lib.hid (word_yes rb g l 8 w h h8 (by decide))
    have hc := conv_yes _ (wN_word l h.byte 8 (by decide))
    clear h
    have hn' : 0 ≤ toI (wN (l.take 8)) → ¬ toI (wN (l.take 8)) ≤ most := fun a b => hn ⟨h8, a, b⟩
    clear hn
    go_enter Tryz.func119, Tryz.ntmps119
    go_wp2_with (fail)
    refine HT.out.mono ?_
    rintro e w1 ⟨rfl, hg, hr⟩
    have H := Lib.hid (And.intro hg hr); clear hg hr
    generalize toI (wN (l.take 8)) = t at *
    generalize wN (l.take 8) = m at *
    by_cases h0 : 0 ≤ t
    · have h1 := hn' h0
      clear hn'
      go_wp2_with (fail)
      rw [decide_eq_false (show ¬ t ≤ most by omega)]
      refine (must_no w1).mono ?_
      rintro e w' ⟨⟨u, pv, rfl⟩, rfl⟩
      exact ⟨rfl, ⟨u, pv, rfl⟩, H.out.1, _, H.out.2⟩
    · clear hn'
      go_wp2_with (fail)
      refine (must_no w1).mono ?_
      rintro e w' ⟨⟨u, pv, rfl⟩, rfl⟩
      exact ⟨rfl, ⟨u, pv, rfl⟩, H.out.1, _, H.out.2⟩
  · have HT := Lib.hid (word_no rb g l 8 w h (by omega))
    have HH := Lib.hid h
    clear h hn
    go_enter Tryz.func119, Tryz.ntmps119
    go_wp2_with (fail)
    refine HT.out.mono ?_
    rintro e w' ⟨⟨u, pv, rfl⟩, rfl⟩
    exact ⟨rfl, ⟨u, pv, rfl⟩, gb_refl _ _, _, HH.out⟩
end Go.Proofs.YtlkiancedgaicaaGreat
