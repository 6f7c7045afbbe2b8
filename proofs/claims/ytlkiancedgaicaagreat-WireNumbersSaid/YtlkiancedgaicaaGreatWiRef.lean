/- The document's reader (buttressref06): what each call tells. -/
import Derived.Test.YtlkiancedgaicaaGreatWiCalls
import Derived.BigQuiet
import Derived.Deep.QuietTactic
import Derived.IntWalk
import Derived.Deep.RegionLaw
import Derived.Deep.Cut
namespace Go.Proofs.YtlkiancedgaicaaGreat
open Go.RowKit Ow Wi

/-- the document's reader of what is left, or one that is not good -/
def RefS (w : World) (sb : Nat) (st : St) : Prop :=
  ∃ (a : Option Addr) (n cap s : Nat) (bad : Bool) (full : List Nat), Blk w sb 104 [.slice a n cap, .int .i64 s, .bool bad] ∧ full.length = n ∧ n ≤ 100000 ∧ s ≤ n ∧ BytesOff w sb a cap full ∧ (bad = true ∧ st = none ∨ bad = false ∧ st = some (full.drop s))
theorem RefS.stay {w w' : World} {sb : Nat} {st : St} (h : RefS w sb st) (hg : w.grownBy w' none) : RefS w' sb st := by
  obtain ⟨a, n, cap, s, bad, full, hb, h1, h2, h3, hP, h4⟩ := h
  exact ⟨a, n, cap, s, bad, full, hb.grown hg (by simp), h1, h2, h3, hP.stay (gb_row hg _), h4⟩
theorem RefS.beside {w w' : World} {sb T : Nat} {st : St} (h : RefS w sb st) (hg : w.grownBy w' (some T)) (hT : sb < T) : RefS w' sb st := by
  obtain ⟨a, n, cap, s, bad, full, hb, h1, h2, h3, hP, h4⟩ := h
  exact ⟨a, n, cap, s, bad, full, hb.grown hg (by simp; omega), h1, h2, h3, hP.beside hg hT, h4⟩
theorem RefS.lt {w : World} {sb : Nat} {st : St} (h : RefS w sb st) : sb < w.heap.size := by
  obtain ⟨_, _, _, _, _, _, hb, _⟩ := h
  exact hb.lt
theorem gb_drewN' (w : World) (n : Nat) : w.grownBy (w.drewN n) none := gb_drewN (gb_refl _ _) n
set_option maxHeartbeats 1000000 in
theorem ref_done (sb : Nat) (st : St) (w : World) (h : RefS w sb st) :
    Calls Tryz.prog 29 #[.pointer (some ⟨sb, 0, none⟩)] w fun e w' => e = .returned (.bool (decide (st = some []))) ∧ w.grownBy w' none := by
  obtain ⟨a, n, cap, s, bad, full, hb, h1, h2, h3, hP, h4⟩ := h
  have c0 := hb.cell (i := 0) rfl
  have c1 := hb.cell (i := 1) rfl
  have c2 := hb.cell (i := 2) rfl
  rcases h4 with ⟨rfl, rfl⟩ | ⟨rfl, rfl⟩
  · rw [show decide ((none : St) = some []) = false by decide]
    clear hP hb h1
    go_enter Tryz.func29, Tryz.ntmps29
    go_wp2_with fail
    go_quiet (fail)
    go_wp2
    go_ret
    exact ⟨rfl, gb_drewN' _ _⟩
  · by_cases hs : s = n
    · have hd : Hid (decide ((some (full.drop s) : St) = some []) = true) := decide_eq_true (by rw [hs, ← h1, List.drop_length])
      rw [hd.out]
      have i0 : (s : Int) = (n : Int) := by omega
      clear hP hb h1 hs
      go_enter Tryz.func29, Tryz.ntmps29
      go_wp2_with fail
      go_quiet (fail)
      go_wp2
      go_ret
      exact ⟨rfl, gb_drewN' _ _⟩
    · have hd : Hid (decide ((some (full.drop s) : St) = some []) = false) := decide_eq_false (fun e => by
        have e2 := congrArg List.length (Option.some.inj e)
        rw [List.length_drop, h1] at e2
        simp at e2
        omega)
      rw [hd.out]
      have i0 : ((s : Int) == (n : Int)) = false := by rw [beq_eq_false_iff_ne]; omega
      clear hP hb h1 hs
      go_enter Tryz.func29, Tryz.ntmps29
      go_wp2_with fail
      go_quiet (fail)
      go_wp2
      go_ret
      exact ⟨rfl, gb_drewN' _ _⟩
set_option maxHeartbeats 1000000 in
/-- so many are left, of a good one -/
theorem left_yes (sb n cap s m : Nat) (a : Option Addr) (w : World) (hb : Blk w sb 104 [.slice a n cap, .int .i64 s, .bool false]) (hn : n ≤ 100000) (hs : s + m ≤ n) :
    Calls Tryz.prog 120 #[.pointer (some ⟨sb, 0, none⟩), .int .i64 m] w fun e w' => e = .returned (.bool true) ∧ ∃ q, w' = w.drewN q := by
  have c0 := hb.cell (i := 0) rfl
  have c1 := hb.cell (i := 1) rfl
  have c2 := hb.cell (i := 2) rfl
  have d0 : decide ((m : Int) < 0) = false := decide_eq_false (by omega)
  have d1 : decide (IntKind.i64.wrap ((n : Int) - (s : Int)) < (m : Int)) = false := decide_eq_false (by rw [IntWalk.i64_in _ (by omega)]; omega)
  clear hb
  go_enter Tryz.func120, Tryz.ntmps120
  go_wp2_with fail
  go_quiet (fail)
  go_wp2
  go_ret
  exact ⟨rfl, _, rfl⟩
set_option maxHeartbeats 1000000 in
theorem left_no (sb n cap s : Nat) (m : Int) (bad : Bool) (a : Option Addr) (w : World) (hb : Blk w sb 104 [.slice a n cap, .int .i64 s, .bool bad]) (hn : n ≤ 100000) (hsn : s ≤ n) (h : bad = true ∨ m < 0 ∨ (n : Int) - s < m) :
    Calls Tryz.prog 120 #[.pointer (some ⟨sb, 0, none⟩), .int .i64 m] w fun e w' => e = .returned (.bool false) ∧ w.grownBy w' (some sb) ∧ Blk w' sb 104 [.slice a n cap, .int .i64 s, .bool true] := by
  have c0 := hb.cell (i := 0) rfl
  have c1 := hb.cell (i := 1) rfl
  have c2 := hb.cell (i := 2) rfl
  have f2 := hb.free 2
  have HB := Lib.hid hb
  have fin : ∀ nq, w.grownBy ((w.drewN nq).setCell ⟨sb, 2, none⟩ (.bool true)) (some sb) ∧ Blk ((w.drewN nq).setCell ⟨sb, 2, none⟩ (.bool true)) sb 104 [.slice a n cap, .int .i64 s, .bool true] := fun nq =>
    ⟨gb_set (gb_row (gb_drewN' w nq) _) 2 _, (HB.out.grown (gb_drewN' w nq) (by simp)).set 2 _⟩
  have HF := Lib.hid fin
  clear hb fin
  cases bad with
  | true =>
    clear h
    go_enter Tryz.func120, Tryz.ntmps120
    go_wp2_with fail
    go_quiet (fail)
    go_wp2
    go_ret
    exact ⟨rfl, HF.out _⟩
  | false =>
    by_cases hm : m < 0
    · have d0 : decide (m < 0) = true := decide_eq_true hm
      clear h hm
      go_enter Tryz.func120, Tryz.ntmps120
      go_wp2_with fail
      go_quiet (fail)
      go_wp2
      go_ret
      exact ⟨rfl, HF.out _⟩
    · have d0 : decide (m < 0) = false := decide_eq_false hm
      have d1 : decide (IntKind.i64.wrap ((n : Int) - (s : Int)) < m) = true := decide_eq_true (by rw [IntWalk.i64_in _ (by omega)]; simp at h; omega)
      have d2 : decide ((n : Int) - (s : Int) < m) = true := decide_eq_true (by simp at h; omega)
      clear h hm
      go_enter Tryz.func120, Tryz.ntmps120
      go_wp2_with fail
      go_quiet (fail)
      go_wp2
      go_ret
      exact ⟨rfl, HF.out _⟩
theorem off_at {w : World} {sb cap s : Nat} {a : Option Addr} {full : List Nat} (hP : BytesOff w sb a cap full) (h : s < full.length) : ∃ pb po, a = some ⟨pb, po, none⟩ ∧ pb < sb ∧ w.cell? ⟨pb, po + s, none⟩ = some (.int .u8 ((full.getD s 0 : Nat) : Int)) := by
  obtain ⟨pb, po, e, hlt, hc⟩ := hP.1.cells.resolve_left (by omega)
  exact ⟨pb, po, e, (hP.2.resolve_left (by omega)) pb po e, hc s h⟩
theorem drop_step (l : List Nat) (s : Nat) (h : s < l.length) : l.drop s = l.getD s 0 :: l.drop (s + 1) := by
  rw [List.drop_eq_getElem_cons h, List.getD_eq_getElem?_getD, List.getElem?_eq_getElem h]; rfl
set_option maxHeartbeats 1000000 in
theorem ref_byte (sb : Nat) (st : St) (w : World) (h : RefS w sb st) :
    Calls Tryz.prog 61 #[.pointer (some ⟨sb, 0, none⟩)] w fun e w' => e = .returned (.int .u8 ((byteS st).1 : Nat)) ∧ w.grownBy w' (some sb) ∧ RefS w' sb (byteS st).2 := by
  obtain ⟨a, n, cap, s, bad, full, hb, h1, h2, h3, hP, h4⟩ := h
  have stop : (bad = true ∨ (1 : Int) < 0 ∨ (n : Int) - s < 1) → byteS st = (0, none) → Calls Tryz.prog 61 #[.pointer (some ⟨sb, 0, none⟩)] w fun e w' => e = .returned (.int .u8 ((byteS st).1 : Nat)) ∧ w.grownBy w' (some sb) ∧ RefS w' sb (byteS st).2 := by
    intro hno hs
    have HL := Lib.hid (left_no sb n cap s 1 bad a w hb h2 h3 hno)
    have HP := Lib.hid hP
    rw [hs]
    clear hno hs h4 hb hP
    go_enter Tryz.func61, Tryz.ntmps61
    go_wp2_with fail
    refine HL.out.mono ?_
    rintro e w1 ⟨rfl, hg, hb⟩
    have H := Lib.hid (And.intro hg hb); clear hg hb
    go_wp2
    go_ret
    exact ⟨rfl, H.out.1, a, n, cap, s, true, full, H.out.2, h1, h2, h3, HP.out.stay H.out.1, Or.inl ⟨rfl, rfl⟩⟩
  rcases h4 with ⟨rfl, rfl⟩ | ⟨rfl, rfl⟩
  · exact stop (Or.inl rfl) rfl
  · by_cases hs : s < n
    · clear stop
      have e1 : byteS (some (full.drop s)) = (full.getD s 0, some (full.drop (s + 1))) := by
        unfold byteS tells rdWord
        rw [drop_step full s (by omega)]
        simp [wN]
      rw [e1]
      have HL := Lib.hid (left_yes sb n cap s 1 a w hb h2 (by omega))
      obtain ⟨pb, po, rfl, hpb, k0⟩ := off_at hP (s := s) (by omega)
      have HB := Lib.hid (And.intro hb hP)
      have c1 := hb.cell (i := 1) rfl
      have f1 := hb.free 1
      generalize full.getD s 0 = x at *
      clear e1 hb hP
      go_enter Tryz.func61, Tryz.ntmps61
      go_wp2_with fail
      refine HL.out.mono ?_
      rintro e w1 ⟨rfl, q, rfl⟩
      go_upto_region 4 with fail
      have hg := gb_set (gb_row (gb_drewN' w q) (some sb)) 1 (.int .i64 ((s : Int) + 1))
      have hb2 := (HB.out.1.grown (gb_drewN' w q) (by simp)).set 1 (.int .i64 ((s : Int) + 1))
      have k2 : ((w.drewN q).setCell ⟨sb, 1, none⟩ (.int .i64 ((s : Int) + 1))).cell? ⟨pb, po + s, none⟩ = some (.int .u8 ((x : Nat) : Int)) := by
        rw [gb_cell hg (p := ⟨pb, po + s, none⟩) (by have := HB.out.1.lt; show pb < w.heap.size; omega) (by simp; omega)]; exact k0
      have k0' := hb2.cell (i := 0) rfl
      have k1' := hb2.cell (i := 1) rfl
      have HF := Lib.hid (And.intro hg (And.intro hb2 (HB.out.2.stay hg)))
      have x1 : IntKind.i64.wrap ((s : Int) + 1 - 1) = s := by rw [IntWalk.i64_in _ (by omega)]; omega
      have x2 : (s : Int) + 1 - 1 = s := by omega
      have x3 : (s : Int) < (n : Int) := by omega
      clear hg hb2 c1 f1 k0 HL HB
      generalize (w.drewN q).setCell ⟨sb, 1, none⟩ (.int .i64 ((s : Int) + 1)) = w2 at *
      go_quiet (fail)
      go_wp2
      go_ret
      obtain ⟨hg, hb2, hP2⟩ := HF.out
      have gq := gb_drewN' w2 nq
      exact ⟨rfl, gb_trans hg (gb_row gq _), _, n, cap, s + 1, false, full, hb2.grown gq (by simp), h1, h2, hs, hP2.stay (gb_row gq _), Or.inr ⟨rfl, rfl⟩⟩
    · refine stop (Or.inr (Or.inr (by omega))) ?_
      unfold byteS tells rdWord
      rw [List.drop_eq_nil_of_le (by omega)]
      rfl
theorem word8_some {l : List Nat} (h : 8 ≤ l.length) : numS (some l) = (wN (l.take 8), some (l.drop 8)) := by
  unfold numS tells rdWord
  simp only [if_pos h]
theorem word8_none {l : List Nat} (h : ¬ 8 ≤ l.length) : numS (some l) = (0, none) := by
  unfold numS tells rdWord
  simp only [if_neg h]
set_option maxHeartbeats 1000000 in
theorem ref_number (sb : Nat) (st : St) (w : World) (h : RefS w sb st) :
    Calls Tryz.prog 62 #[.pointer (some ⟨sb, 0, none⟩)] w fun e w' => e = .returned (.int .i64 (toI (numS st).1)) ∧ w.grownBy w' (some sb) ∧ RefS w' sb (numS st).2 := by
  obtain ⟨a, n, cap, s, bad, full, hb, h1, h2, h3, hP, h4⟩ := h
  have stop : (bad = true ∨ (8 : Int) < 0 ∨ (n : Int) - s < 8) → numS st = (0, none) → Calls Tryz.prog 62 #[.pointer (some ⟨sb, 0, none⟩)] w fun e w' => e = .returned (.int .i64 (toI (numS st).1)) ∧ w.grownBy w' (some sb) ∧ RefS w' sb (numS st).2 := by
    intro hno hs
    have HL := Lib.hid (left_no sb n cap s 8 bad a w hb h2 h3 hno)
    have HP := Lib.hid hP
    rw [hs]
    clear hno hs h4 hb hP
    go_enter Tryz.func62, Tryz.ntmps62
    go_wp2_with fail
    refine HL.out.mono ?_
    rintro e w1 ⟨rfl, hg, hb⟩
    have H := Lib.hid (And.intro hg hb); clear hg hb
    go_wp2
    go_ret
    exact ⟨rfl, H.out.1, a, n, cap, s, true, full, H.out.2, h1, h2, h3, HP.out.stay H.out.1, Or.inl ⟨rfl, rfl⟩⟩
  rcases h4 with ⟨rfl, rfl⟩ | ⟨rfl, rfl⟩
  · exact stop (Or.inl rfl) rfl
  · by_cases hs : s + 8 ≤ n
    · clear stop
      rw [word8_some (by rw [List.length_drop]; omega)]
      have HL := Lib.hid (left_yes sb n cap s 8 a w hb h2 hs)
      have hPb := getD_drop full s
      have hby : ∀ i, (full.drop s).getD i 0 < 256 := fun i => by rw [getD_drop]; exact hP.1.byte _
      have hne : ∀ k, k < 8 → wN ((full.drop s).take (k + 1)) = wN ((full.drop s).take k) * 256 + full.getD (s + k) 0 := fun k hk => by rw [wN_next (full.drop s) k (by rw [List.length_drop]; omega), getD_drop]
      have hle : ∀ k, k ≤ 7 → wN ((full.drop s).take k) < 72057594037927936 := fun k hk => wN_le (full.drop s) k hby hk
      have hw8 := conv_yes _ (wN_word (full.drop s) hby 8 (by decide))
      have hdd : (full.drop s).drop 8 = full.drop (s + 8) := by rw [List.drop_drop]
      rw [hdd]
      have HM := Lib.hid (And.intro hne (And.intro hle (And.intro hw8 hP.1.byte)))
      obtain ⟨pb, po, rfl, hpb, k0⟩ := off_at hP (s := s) (by omega)
      have hcell := (hP.1.cells.resolve_left (by omega))
      have HB := Lib.hid (And.intro hb (And.intro hP hcell))
      clear hne hle hw8 hby hPb hb hP hcell k0 hdd
      go_enter Tryz.func62, Tryz.ntmps62
      go_wp2_with fail
      refine HL.out.mono ?_
      rintro e w1 ⟨rfl, q0, rfl⟩
      go_wp2_with fail
      go_loopw [3, 4] (fun v i wr => ∃ k j : Nat, k ≤ 8 ∧ i = .int .i64 k ∧ v = .int .u64 (wN ((full.drop s).take k)) ∧ wr = w.drewN j) (fun _ i _ => 8 - (intOf i).toNat)
      case atStart => exact ⟨0, _, by omega, rfl, rfl, rfl⟩
      case round =>
        obtain ⟨k, j, hk, rfl, rfl, rfl⟩ := hrel
        by_cases hlt : k < 8
        · have i0 : (k : Int) < 8 := by omega
          have c0 := HB.out.1.cell (i := 0) rfl
          have c1 := HB.out.1.cell (i := 1) rfl
          have k1 : w.cell? ⟨pb, po + (s + k), none⟩ = some (.int .u8 ((full.getD (s + k) 0 : Nat) : Int)) := by
            obtain ⟨pb', po', e, _, hc⟩ := HB.out.2.2
            cases e
            exact hc (s + k) (by omega)
          have hb256 := HM.out.2.2.2 (s + k)
          have hle := HM.out.2.1 k (by omega)
          have hbits := wN_bits _ _ hle hb256
          have HN := Lib.hid (HM.out.1 k hlt)
          generalize wN ((full.drop s).take k) = x at *
          generalize full.getD (s + k) 0 = b at *
          have x1 : IntKind.i64.wrap ((s : Int) + (k : Int)) = (s : Int) + k := by rw [IntWalk.i64_in _ (by omega)]
          have x3 : (s : Int) + (k : Int) < (n : Int) := by omega
          have x7 : ((s : Int) + (k : Int)).toNat = s + k := by omega
          have x8 : ¬ (s : Int) + (k : Int) < 0 := by omega
          have x5 : IntKind.u64.wrap ((x : Int) * 256) = (x : Int) * 256 := by rw [IntKind.wrap_u64]; omega
          have x6 : IntKind.u64.wrap (b : Int) = (b : Int) := by rw [IntKind.wrap_u64]; omega
          go_wp2_with fail
          go_quiet (fail)
          go_wp2_with fail
          exact ⟨⟨k + 1, _, hlt, rfl, by rw [HN.out, Int.natCast_add, Int.natCast_mul]; rfl, rfl⟩, by show 8 - ((k : Int) + 1).toNat < 8 - (k : Int).toNat; omega⟩
        · obtain rfl : k = 8 := by omega
          have c1 := (HB.out.1.grown (gb_drewN' w j) (by simp)).cell (i := 1) rfl
          have f1 := (HB.out.1.grown (gb_drewN' w j) (by simp)).free 1
          have hw8 := HM.out.2.2.1
          generalize hx : wN ((full.drop s).take 8) = x at *
          have HX := Lib.hid hx; clear hx
          go_wp2
          go_ret
          have hg := gb_set (gb_row (gb_drewN' w j) (some sb)) 1 (.int .i64 ((s : Int) + 8))
          exact ⟨congrArg (fun z => Ending.returned (.int .i64 (toI z))) HX.out.symm, hg, _, n, cap, s + 8, false, full, (HB.out.1.grown (gb_drewN' w j) (by simp)).set 1 _, h1, h2, hs, HB.out.2.1.stay hg, Or.inr ⟨rfl, rfl⟩⟩
    · refine stop (Or.inr (Or.inr (by omega))) (word8_none (by rw [List.length_drop]; omega))
theorem count_num (most : Int) (st : St) : (∃ v, numS st = (v, none) ∧ countS most st = (0, none)) ∨ ∃ v r, numS st = (v, some r) ∧ (0 ≤ toI v ∧ toI v ≤ most ∧ countS most st = (toI v, some r) ∨ ¬ (0 ≤ toI v ∧ toI v ≤ most) ∧ countS most st = (0, none)) := by
  cases st with
  | none => exact Or.inl ⟨0, rfl, rfl⟩
  | some l =>
    by_cases h8 : 8 ≤ l.length
    · refine Or.inr ⟨_, _, word8_some h8, ?_⟩
      unfold countS tells rdCount
      by_cases h : 0 ≤ toI (wN (l.take 8)) ∧ toI (wN (l.take 8)) ≤ most
      · left
        refine ⟨h.1, h.2, ?_⟩
        simp only [if_pos (show 8 ≤ l.length ∧ 0 ≤ toI (wN (l.take 8)) ∧ toI (wN (l.take 8)) ≤ most from ⟨h8, h⟩)]
      · right
        refine ⟨h, ?_⟩
        simp only [if_neg (show ¬ (8 ≤ l.length ∧ 0 ≤ toI (wN (l.take 8)) ∧ toI (wN (l.take 8)) ≤ most) from fun k => h k.2)]
    · refine Or.inl ⟨0, word8_none h8, ?_⟩
      unfold countS tells rdCount
      simp only [if_neg (show ¬ (8 ≤ l.length ∧ 0 ≤ toI (wN (l.take 8)) ∧ toI (wN (l.take 8)) ≤ most) from fun k => h8 k.1)]
set_option maxHeartbeats 1000000 in
theorem ref_count (sb : Nat) (most : Int) (st : St) (w : World) (h : RefS w sb st) :
    Calls Tryz.prog 64 #[.pointer (some ⟨sb, 0, none⟩), .int .i64 most] w fun e w' => e = .returned (.int .i64 (countS most st).1) ∧ w.grownBy w' (some sb) ∧ RefS w' sb (countS most st).2 := by
  have HN := Lib.hid (ref_number sb st w h)
  have bads : ∀ (w1 : World) (a : Option Addr) (n cap s : Nat) (bad : Bool) (full : List Nat), w.grownBy w1 (some sb) → Blk w1 sb 104 [.slice a n cap, .int .i64 s, .bool bad] → full.length = n → n ≤ 100000 → s ≤ n → BytesOff w1 sb a cap full →
      w.grownBy (w1.setCell ⟨sb, 2, none⟩ (.bool true)) (some sb) ∧ RefS (w1.setCell ⟨sb, 2, none⟩ (.bool true)) sb none := fun w1 a n cap s bad full hg hb h1 h2 h3 hP =>
    ⟨gb_set hg 2 _, a, n, cap, s, true, full, hb.set 2 _, h1, h2, h3, hP.stay (gb_set (gb_refl w1 (some sb)) 2 _), Or.inl ⟨rfl, rfl⟩⟩
  have HB := Lib.hid bads; clear bads h
  rcases count_num most st with ⟨v, e1, e2⟩ | ⟨v, r, e1, hcase⟩
  · rw [e1] at HN
    rw [e2]
    clear e1 e2
    go_enter Tryz.func64, Tryz.ntmps64
    go_wp2_with fail
    refine HN.out.mono ?_
    rintro e w1 ⟨rfl, hg, a, n, cap, s, bad, full, hb, h1, h2, h3, hP, h4⟩
    rcases h4 with ⟨rfl, _⟩ | ⟨_, h4⟩
    · have c2 := hb.cell (i := 2) rfl
      have f2 := hb.free 2
      have HF := Lib.hid (HB.out w1 a n cap s true full hg hb h1 h2 h3 hP); clear hg hb hP h1 h2 h3
      go_wp2
      go_ret
      exact ⟨rfl, HF.out⟩
    · cases h4
  · rw [e1] at HN
    have HV := Lib.hid hcase
    generalize ht : toI v = t at *
    clear ht e1 hcase
    go_enter Tryz.func64, Tryz.ntmps64
    go_wp2_with fail
    refine HN.out.mono ?_
    rintro e w1 ⟨rfl, hg, a, n, cap, s, bad, full, hb, h1, h2, h3, hP, h4⟩
    rcases h4 with ⟨_, h4⟩ | ⟨rfl, h4⟩
    · cases h4
    · have c2 := hb.cell (i := 2) rfl
      have f2 := hb.free 2
      have HF := Lib.hid (HB.out w1 a n cap s false full hg hb h1 h2 h3 hP)
      have HS : Hid (w.grownBy w1 (some sb) ∧ RefS w1 sb (some r)) := ⟨hg, a, n, cap, s, false, full, hb, h1, h2, h3, hP, Or.inr ⟨rfl, h4⟩⟩
      clear hg hb hP h1 h2 h3 h4
      by_cases c0 : t < 0
      · have e2 : Hid (countS most st = (0, none)) := by
          rcases HV.out with ⟨k1, k2, k3⟩ | ⟨_, k3⟩
          · omega
          · exact k3
        go_wp2
        go_ret
        exact ⟨by rw [e2.out]; rfl, by rw [e2.out]; exact HF.out⟩
      · by_cases c1 : most < t
        · have e2 : Hid (countS most st = (0, none)) := by
            rcases HV.out with ⟨k1, k2, k3⟩ | ⟨_, k3⟩
            · omega
            · exact k3
          go_wp2
          go_ret
          exact ⟨by rw [e2.out]; rfl, by rw [e2.out]; exact HF.out⟩
        · have e2 : Hid (countS most st = (t, some r)) := by
            rcases HV.out with ⟨k1, k2, k3⟩ | ⟨k0, k3⟩
            · exact k3
            · exact absurd ⟨by omega, by omega⟩ k0
          have d0 : decide (t < 0) = false := decide_eq_false c0
          have d1 : decide (most < t) = false := decide_eq_false c1
          go_wp2
          go_ret
          exact ⟨by rw [e2.out]; rfl, by rw [e2.out]; exact HS.out⟩
/-- no bytes, that were just laid: a row of one's own -/
theorem own_empty (w : World) : (w.alloc (.cells #[] 5)).ownsRow w.heap.size 5 1 (.slice (some ⟨w.heap.size, 0, none⟩) 0 0) 0 [] :=
  ⟨rfl, Or.inr ⟨w.heap.size, 0, #[], rfl, Nat.le_refl _, heap_alloc_new _ _, Nat.le_refl _, by unfold maxLen; omega, rfl, rfl⟩⟩
theorem append_empty (w : World) (n cap B : Nat) (a : Option Addr) (l : List Nat) (hl : l.length = n) (hn : n ≤ 100000) (hP : BytesAt w B a cap l) :
    ∃ a' c' w', (Builtin.append_ #[23, 23] 23 #[.slice (some ⟨w.heap.size, 0, none⟩) 0 0, .slice a n cap]).run Tryz.prog (w.alloc (.cells #[] 5)) = .ok (.slice a' n c') w' ∧ w.grownBy w' none ∧ BytesAt w' w'.heap.size a' c' l ∧ (∀ pb po, a' = some ⟨pb, po, none⟩ → w.heap.size ≤ pb ∧ pb < w'.heap.size) ∧ w'.ownsRow w.heap.size 5 1 (.slice a' n c') n (l.map u8N) := by
  have g0 := gb_alloc (gb_refl w none) (.cells #[] 5)
  obtain ⟨v2, w2, hr2, ho2, hg2⟩ := append_bytes (w.alloc (.cells #[] 5)) w.heap.size 0 B cap n (.slice (some ⟨w.heap.size, 0, none⟩) 0 0) [] a l (own_empty w) hl (hP.stay g0) (by omega) g0.size
  rw [Nat.zero_add, List.nil_append] at ho2
  obtain ⟨a', c', rfl, _, hB, hb⟩ := own_slice ho2 hP.byte
  exact ⟨a', c', w2, hr2, gb_then g0 hg2 (Nat.le_refl _), hB, hb, ho2⟩
/-- an append whose run is known, as one step of a region that draws -/
theorem step_append_run {P : Program} {ops : Array Oper} {o : Oper} {a : Act} {w : World} {K : Act → World → Prop} {Q : Exit → Act → World → Prop} {E : Prop} (hg : o.guard = none) (s x : Operand) (t : TypeId)
    (ho : o.op = .call { callee := .builtin .append, args := #[s, x], argTypes := #[t, t] }) (ht : o.type = t) (v y : Value) (hs : a.eval s = v) (hx : a.eval x = y) (v' : Value) (w' : World)
    (hr : (Builtin.append_ #[t, t] t #[v, y]).run P w = .ok v' w') (hK : K (a.put o.dst v') w') : if Region.wanted o (yielded ops a.tmps) = true then Oper.wp P o a w K Q else E := by
  have hw : Region.wanted o (yielded ops a.tmps) = true := by simp [Region.wanted, hg]
  rw [if_pos hw]
  rw [← ht] at hr
  unfold Oper.wp
  simp [execOp, ho, resolve, invoke, builtin, hs, hx, ← ht, hr, Result.andThen]
  exact hK
set_option maxHeartbeats 1000000 in
theorem ref_new (n cap B : Nat) (a : Option Addr) (l : List Nat) (w : World) (hl : l.length = n) (hn : n ≤ 100000) (hP : BytesAt w B a cap l) :
    Calls Tryz.prog 24 #[.slice a n cap] w fun e w' => ∃ sb, e = .returned (.pointer (some ⟨sb, 0, none⟩)) ∧ w.grownBy w' none ∧ w.heap.size ≤ sb ∧ RefS w' sb (some l) := by
  obtain ⟨a', c', w1, hap, hg, hB, hbs, _⟩ := append_empty w n cap B a l hl hn hP
  have H1 := Lib.hid (And.intro hg (And.intro hB (And.intro hl (And.intro hn hbs)))); clear hl hn hP hg hB hbs
  go_enter Tryz.func24, Tryz.ntmps24
  go_wp2_with (at_builtin; refine wpList_append_run rfl (.tmp 3) (.tmp 4) 23 rfl rfl _ _ rfl rfl _ _ hap ?_)
  go_ret
  obtain ⟨hg, hB, hl, hn, hbs⟩ := H1.out
  have gz := gb_alloc (gb_refl w1 none) (.cells #[.slice a' n c', .int .i64 0, .bool false] 104)
  exact ⟨w1.heap.size, rfl, gb_trans hg gz, hg.size, a', n, c', 0, false, l, Blk.new w1 [.slice a' n c', .int .i64 0, .bool false] _, hl, hn, Nat.zero_le _, ⟨(hB.stay gz).full, Or.inr fun pb po e => (hbs pb po e).2⟩, Or.inr ⟨rfl, rfl⟩⟩
theorem bytes_count (most : Int) (st : St) : (countS most st = (0, none) ∧ bytesS most st = ([], none)) ∨ ∃ (m : Nat) (r : List Nat), countS most st = ((m : Int), some r) ∧ bytesS most st = if m ≤ r.length then (r.take m, some (r.drop m)) else ([], none) := by
  cases st with
  | none => exact Or.inl ⟨rfl, rfl⟩
  | some l =>
    unfold countS bytesS tells rdBytes
    by_cases h : 8 ≤ l.length ∧ 0 ≤ toI (wN (l.take 8)) ∧ toI (wN (l.take 8)) ≤ most
    · right
      have e : rdCount most l = some (toI (wN (l.take 8)), l.drop 8) := by unfold rdCount; rw [if_pos h]
      obtain ⟨m, hm⟩ : ∃ m : Nat, toI (wN (l.take 8)) = m := ⟨_, (Int.toNat_of_nonneg h.2.1).symm⟩
      refine ⟨m, l.drop 8, by simp only [e, hm], ?_⟩
      simp only [e, hm, Int.toNat_natCast]
      by_cases hk : m ≤ (l.drop 8).length
      · simp only [if_pos hk]
      · simp only [if_neg hk]
    · left
      have e : rdCount most l = none := by unfold rdCount; rw [if_neg h]
      simp only [e, and_self]
set_option maxRecDepth 100000 in
set_option maxHeartbeats 2000000 in
theorem ref_bytes (sb : Nat) (most : Int) (st : St) (w : World) (h : RefS w sb st) :
    Calls Tryz.prog 63 #[.pointer (some ⟨sb, 0, none⟩), .int .i64 most] w fun e w' => ∃ v, e = .returned v ∧ w.grownBy w' (some sb) ∧ RefS w' sb (bytesS most st).2 ∧ w'.ownsRow w.heap.size 5 1 v (bytesS most st).1.length ((bytesS most st).1.map u8N) := by
  have HC := Lib.hid (ref_count sb most st w h)
  have hlt := h.lt
  have no : ∀ (w1 : World) (n cap s : Nat) (bad : Bool) (a : Option Addr) (full : List Nat) (m : Int), w.grownBy w1 (some sb) → Blk w1 sb 104 [.slice a n cap, .int .i64 s, .bool bad] → full.length = n → n ≤ 100000 → s ≤ n → BytesOff w1 sb a cap full → (bad = true ∨ m < 0 ∨ (n : Int) - s < m) →
      Calls Tryz.prog 120 #[.pointer (some ⟨sb, 0, none⟩), .int .i64 m] w1 fun e w' => e = .returned (.bool false) ∧ w.grownBy w' (some sb) ∧ RefS w' sb none := fun w1 n cap s bad a full m hg hb h1 h2 h3 hP hno =>
    (left_no sb n cap s m bad a w1 hb h2 h3 hno).mono fun e w' hq => ⟨hq.1, gb_trans hg hq.2.1, a, n, cap, s, true, full, hq.2.2, h1, h2, h3, hP.stay hq.2.1, Or.inl ⟨rfl, rfl⟩⟩
  have HNO := Lib.hid no; clear no h
  rcases bytes_count most st with ⟨e1, e2⟩ | ⟨m, r, e1, e2⟩
  · rw [e1] at HC
    rw [e2]
    clear e1 e2
    go_enter Tryz.func63, Tryz.ntmps63
    go_wp2_with fail
    refine HC.out.mono ?_
    rintro e w1 ⟨rfl, hg, a, n, cap, s, bad, full, hb, h1, h2, h3, hP, h4⟩
    rcases h4 with ⟨rfl, _⟩ | ⟨_, h4⟩
    · have HL := Lib.hid (HNO.out w1 n cap s true a full 0 hg hb h1 h2 h3 hP (Or.inl rfl)); clear hg hb hP h1 h2 h3
      go_wp2_with fail
      refine HL.out.mono ?_
      rintro e w2 ⟨rfl, hr⟩
      have HR := Lib.hid hr; clear hr
      go_wp2
      go_ret
      exact ⟨_, rfl, HR.out.1, HR.out.2, World.ownsRow_nil _ _ _ 1⟩
    · cases h4
  · rw [e1] at HC
    have HE := Lib.hid e2
    clear e1 e2
    go_enter Tryz.func63, Tryz.ntmps63
    go_wp2_with fail
    refine HC.out.mono ?_
    rintro e w1 ⟨rfl, hg, a, n, cap, s, bad, full, hb, h1, h2, h3, hP, h4⟩
    rcases h4 with ⟨_, h4⟩ | ⟨rfl, h4⟩
    · cases h4
    cases h4
    by_cases hk : s + m ≤ n
    · have HL := Lib.hid (left_yes sb n cap s m a w1 hb h2 hk)
      have HB := Lib.hid (And.intro hg (And.intro hb hP)); clear hg hb hP
      go_wp2_with fail
      refine HL.out.mono ?_
      rintro e w2 ⟨rfl, q, rfl⟩
      have c1 := (HB.out.2.1.grown (gb_drewN' w1 q) (by simp)).cell (i := 1) rfl
      have f1 := (HB.out.2.1.grown (gb_drewN' w1 q) (by simp)).free 1
      go_upto_region 5 with fail
      have hgs := gb_set (gb_row (gb_drewN' w1 q) (some sb)) 1 (.int .i64 ((s : Int) + (m : Int)))
      have hb2 := (HB.out.2.1.grown (gb_drewN' w1 q) (by simp)).set 1 (.int .i64 ((s : Int) + (m : Int)))
      have hP2 := HB.out.2.2.stay hgs
      have hg2 := gb_trans HB.out.1 hgs
      clear c1 f1
      generalize (w1.drewN q).setCell ⟨sb, 1, none⟩ (.int .i64 ((s : Int) + (m : Int))) = w2 at *
      have hcap : s + m ≤ cap := by have := hP2.1.fits; omega
      obtain ⟨aS, eaS⟩ : ∃ x, x = (if cap = s then a else a.map fun x => x.add s) := ⟨_, rfl⟩
      have haS : s < cap → ∀ pb po, a = some ⟨pb, po, none⟩ → aS = some ⟨pb, po + s, none⟩ := fun hlt pb po e => by
        rw [eaS, if_neg (by omega), e]; simp [Addr.add]
      have hPS : BytesAt w2.drew w2.drew.heap.size aS (cap - s) ((full.drop s).take m) := bytes_take (k := m) (bytes_drop (k := s) ((hP2.1.stay (gb_drew (gb_refl _ none))).full) haS) (fun pb po e => e)
      obtain ⟨a', c', w6, hap, hg6, hB6, hbs6, ho6⟩ := append_empty w2.drew m (cap - s) _ aS _ (by rw [List.length_take, List.length_drop]; omega) (by omega) hPS
      have c0 := (hb2.grown (gb_drew (gb_refl w2 none)) (by simp)).cell (i := 0) rfl
      have c1 := (hb2.grown (gb_drew (gb_refl w2 none)) (by simp)).cell (i := 1) rfl
      have d0 := (hb2.grown (gb_drew (gb_alloc (gb_refl w2 none) (.cells #[] 5))) (by simp)).cell (i := 0) rfl
      have d1 := (hb2.grown (gb_drew (gb_alloc (gb_refl w2 none) (.cells #[] 5))) (by simp)).cell (i := 1) rfl
      have hap' : (Builtin.append_ #[23, 23] 23 #[.slice (some ⟨w2.heap.size, 0, none⟩) 0 0, .slice aS m (cap - s)]).run Tryz.prog ((w2.alloc (.cells #[] 5)).drew) = .ok (.slice a' m c') w6 := hap
      clear hap
      have m0 := hb2.cell (i := 0) rfl
      have m1 := hb2.cell (i := 1) rfl
      have x1 : IntKind.i64.wrap ((s : Int) + (m : Int) - (m : Int)) = s := by rw [IntWalk.i64_in _ (by omega)]; omega
      have x2 : (s : Int) + (m : Int) - (m : Int) = s := by omega
      have x3 : sb ≠ w2.heap.size := Nat.ne_of_lt hb2.lt
      have x4 : IntKind.i64.wrap (s : Int) = s := by rw [IntWalk.i64_in _ (by omega)]
      have y1 : (0 : Int) ≤ (s : Int) + (m : Int) := by omega
      have y2 : (s : Int) + (m : Int) ≤ (cap : Int) := by omega
      have y3 : (s : Int) ≤ max ((s : Int) + (m : Int)) 0 := by omega
      have y4 : ((s : Int) + (m : Int)).toNat = s + m := by omega
      rw [eaS] at hap'
      have HF := Lib.hid (And.intro hg2 (And.intro hb2 (And.intro hP2 (And.intro hg6 (And.intro hbs6 ho6)))))
      clear hg2 hb2 hP2 hPS haS hB6 hbs6 ho6 hg6 HL HC hgs
      go_region_law (refine step_append_run rfl (.tmp 22) (.tmp 37) 23 rfl rfl _ _ rfl rfl _ _ hap' ?_)
      all_goals go_wp2
      all_goals go_ret
      all_goals (
        obtain ⟨hg2, hb2, hP2, hg6, hbs6, ho6⟩ := HF.out
        have e3 := HE.out
        rw [if_pos (by rw [List.length_drop]; omega), List.drop_drop] at e3
        rw [e3]
        have g26 : w2.grownBy w6 none := gb_trans (gb_drew (gb_refl _ _)) hg6
        have hl : ((full.drop s).take m).length = m := by rw [List.length_take, List.length_drop]; omega
        refine ⟨_, rfl, gb_trans hg2 (gb_row g26 _), ⟨a, n, cap, s + m, false, full, hb2.grown g26 (by simp), h1, h2, hk, hP2.stay (gb_row g26 _), Or.inr ⟨rfl, rfl⟩⟩, ?_⟩
        show w6.ownsRow w.heap.size 5 1 (.slice a' m c') ((full.drop s).take m).length (((full.drop s).take m).map u8N)
        rw [hl]
        exact own_down ho6 hg2.size)
    · have HL := Lib.hid (HNO.out w1 n cap s false a full m hg hb h1 h2 h3 hP (Or.inr (Or.inr (by omega))))
      have e2 : Hid (bytesS most st = ([], none)) := by
        have e3 := HE.out
        rw [if_neg (by rw [List.length_drop]; omega)] at e3
        exact e3
      clear hg hb hP
      go_wp2_with fail
      refine HL.out.mono ?_
      rintro e w2 ⟨rfl, hr⟩
      have HR := Lib.hid hr; clear hr
      go_wp2
      go_ret
      rw [e2.out]
      exact ⟨_, rfl, HR.out.1, HR.out.2, World.ownsRow_nil _ _ _ 1⟩
end Go.Proofs.YtlkiancedgaicaaGreat
