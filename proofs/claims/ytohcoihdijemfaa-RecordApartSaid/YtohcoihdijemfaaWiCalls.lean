/- wire's calls: Number, Bytes, Join, NewReader and the reader's Byte, Number, Count, Bytes. -/
import Derived.Test.YtohcoihdijemfaaWiRead
namespace Go.Proofs.Ytohcoihdijemfaa
open Go.RowKit Ow Wi

theorem getD_mem {l : List Nat} (h : ∀ i, l.getD i 0 < 256) : ∀ b ∈ l, b < 256 := fun b hb => by
  obtain ⟨i, hi, rfl⟩ := List.getElem_of_mem hb
  have := h i
  rwa [List.getD_eq_getElem?_getD, List.getElem?_eq_getElem hi] at this
theorem tellsU_lt (rb k : Nat) (st : St) (w : World) (h : RdS w rb st) : (tells 0 (rdWord k) st).1 < 256 ^ k := by
  have hp : 0 < 256 ^ k := Nat.pow_pos (by decide)
  cases st with
  | none => exact hp
  | some l =>
    have hb := RdB.byte h
    unfold tells rdWord
    by_cases hk : k ≤ l.length
    · simp only [if_pos hk]
      have h1 := wN_lt (l.take k) (fun b hm => getD_mem hb b (List.mem_of_mem_take hm))
      rwa [List.length_take, Nat.min_eq_left hk] at h1
    · simp only [if_neg hk]; exact hp
theorem bytesS_lt {w : World} {rb : Nat} {st : St} (h : RdS w rb st) (most : Int) (i : Nat) : (bytesS most st).1.getD i 0 < 256 := by
  cases st with
  | none => unfold bytesS tells; simp
  | some l =>
    have hb := RdB.byte h
    unfold bytesS
    cases hr : rdBytes most l with
    | none =>
      have e1 : tells [] (rdBytes most) (some l) = ([], none) := by unfold tells; simp only [hr]
      rw [e1]; simp
    | some p =>
      obtain ⟨x, r⟩ := p
      have e1 : tells [] (rdBytes most) (some l) = (x, some r) := by unfold tells; simp only [hr]
      rw [e1]
      unfold rdBytes rdCount at hr
      split at hr
      · cases hr
      · rename_i n r' hc
        split at hc
        · cases hc
          split at hr
          · cases hr
            exact getD_take_lt _ _ (fun i => by rw [getD_drop]; exact hb _) i
          · cases hr
        · cases hc
theorem byte_any (rb : Nat) (st : St) (w : World) (h : RdS w rb st) :
    Calls Try.prog 45 #[.pointer (some ⟨rb, 0, none⟩)] w fun e w' => e = .returned (.int .u8 ((byteS st).1 : Nat)) ∧ w.grownBy w' (some rb) ∧ RdS w' rb (byteS st).2 := by
  have hlt := tellsU_lt rb 1 st w h
  have HT := Lib.hid (tryU_any rb 1 st w h (by decide))
  unfold byteS
  generalize tells 0 (rdWord 1) st = x at *
  obtain ⟨n, st'⟩ := x
  have hw : IntKind.u8.wrap (n : Int) = n := by
    rw [show IntKind.u8.wrap (n : Int) = (n : Int) % 256 by simp [IntKind.wrap, IntKind.signed, IntKind.bits]]
    have : n < 256 := hlt
    omega
  clear h hlt
  have hmf := makeF
  go_enter Try.func45, Try.ntmps45
  go_wp2_with (fail)
  refine HT.out.mono ?_
  rintro e w' ⟨rfl, hg, hr⟩
  have H := Lib.hid (And.intro hg hr); clear hg hr
  go_wp2
  go_ret
  exact ⟨rfl, H.out⟩
theorem number_any (rb : Nat) (st : St) (w : World) (h : RdS w rb st) :
    Calls Try.prog 63 #[.pointer (some ⟨rb, 0, none⟩)] w fun e w' => e = .returned (.int .i64 (toI (numS st).1)) ∧ w.grownBy w' (some rb) ∧ RdS w' rb (numS st).2 := by
  have hlt := tellsU_lt rb 8 st w h
  have HT := Lib.hid (tryU_any rb 8 st w h (by decide))
  unfold numS
  generalize tells 0 (rdWord 8) st = x at *
  obtain ⟨n, st'⟩ := x
  have hw : IntKind.i64.wrap (n : Int) = toI n := conv_yes n (by
    have h1 : (256 : Nat) ^ 8 = 18446744073709551616 := by decide
    have : n < 256 ^ 8 := hlt
    omega)
  clear h hlt
  have hmf := makeF
  go_enter Try.func63, Try.ntmps63
  go_wp2_with (fail)
  refine HT.out.mono ?_
  rintro e w' ⟨rfl, hg, hr⟩
  have H := Lib.hid (And.intro hg hr); clear hg hr
  go_wp2
  go_ret
  exact ⟨rfl, H.out⟩
theorem rcount_any (rb : Nat) (most : Int) (st : St) (w : World) (h : RdS w rb st) :
    Calls Try.prog 48 #[.pointer (some ⟨rb, 0, none⟩), .int .i64 most] w fun e w' => e = .returned (.int .i64 (countS most st).1) ∧ w.grownBy w' (some rb) ∧ RdS w' rb (countS most st).2 := by
  have HT := Lib.hid (tryI_any rb most st w h)
  clear h
  have hmf := makeF
  go_enter Try.func48, Try.ntmps48
  go_wp2_with (fail)
  refine HT.out.mono ?_
  rintro e w' ⟨rfl, hg, hr⟩
  have H := Lib.hid (And.intro hg hr); clear hg hr
  go_wp2
  go_ret
  exact ⟨rfl, H.out⟩
theorem rbytes_any (rb : Nat) (most : Int) (st : St) (w : World) (h : RdS w rb st) (hl : ∀ l, st = some l → l.length ≤ 1000000) :
    Calls Try.prog 46 #[.pointer (some ⟨rb, 0, none⟩), .int .i64 most] w fun e w' => ∃ v, e = .returned v ∧ w.grownBy w' (some rb) ∧ RdS w' rb (bytesS most st).2 ∧ w'.ownsRow w.heap.size 5 1 v (bytesS most st).1.length ((bytesS most st).1.map u8N) := by
  have HT := Lib.hid (tryB_any rb most st w h hl)
  clear h hl
  have hmf := makeF
  go_enter Try.func46, Try.ntmps46
  go_wp2_with (fail)
  refine HT.out.mono ?_
  rintro e w' ⟨v, rfl, hr⟩
  have H := Lib.hid hr; clear hr
  go_wp2
  go_ret
  exact ⟨v, rfl, H.out⟩
theorem new_any (n cap B : Nat) (a : Option Addr) (l : List Nat) (w : World) (hl : l.length = n) (hn : n ≤ 1000000) (hP : BytesAt w B a cap l) :
    Calls Try.prog 44 #[.slice a n cap] w fun e w' => ∃ rb, e = .returned (.pointer (some ⟨rb, 0, none⟩)) ∧ w.grownBy w' none ∧ w.heap.size ≤ rb ∧ RdS w' rb (some l) := by
  have HP := Lib.hid (And.intro hl (And.intro hn hP)); clear hl hn hP
  go_enter Try.func44, Try.ntmps44
  go_wp2_with (fail)
  refine (join_any 1 1 _ [l] _ _ rfl (rows1 HP.out.1 HP.out.2.2.full) (by decide) (by simp only [List.flatten_cons, List.flatten_nil, List.append_nil]; have h1 := HP.out.1; have h2 := HP.out.2.1; omega)).mono ?_
  rintro e w1 ⟨v, rfl, hg, ho⟩
  simp only [List.flatten_cons, List.flatten_nil, List.append_nil] at ho
  obtain ⟨a1, c1, rfl, _, hB, _⟩ := own_slice ho HP.out.2.2.byte
  have H1 := Lib.hid (And.intro (gb_trans (gb_alloc (gb_refl w none) _) hg) hB); clear hg ho hB
  go_wp2
  go_ret
  obtain ⟨hg, hB⟩ := H1.out
  have hb := Blk.new w1 [.slice a1 l.length c1, .pointer (some ⟨w1.heap.size, 0, none⟩)] 73
  have g2 := gb_alloc (gb_refl w1 none) (.cells #[.slice a1 l.length c1, .pointer (some ⟨w1.heap.size, 0, none⟩)] 73)
  refine ⟨w1.heap.size, rfl, gb_trans hg g2, hg.size, a1, l.length, c1, hb, rfl, (hB.stay g2).full, ?_⟩
  rcases hB.cells with h0 | ⟨pb, po, rfl, hlt, _⟩
  · exact Or.inl h0
  · exact Or.inr fun pb' po' e => by cases e; omega

/-- a number's bytes, as far as they are laid -/
def numB (m k : Nat) : List Value := (List.range 8).map fun i => if i < k then u8N (m / 2 ^ (8 * (7 - i)) % 256) else u8N 0
theorem numB_set (m k : Nat) (hk : k < 8) : (numB m k).set k (u8N (m / 2 ^ (8 * (7 - k)) % 256)) = numB m (k + 1) := by
  apply List.ext_getElem?
  intro i
  unfold numB
  rw [List.getElem?_set]
  simp only [List.length_map, List.length_range, List.getElem?_map]
  by_cases hi : i < 8
  · rw [List.getElem?_range hi]
    by_cases h : k = i
    · subst h; simp [hk]
    · have h2 : i < k ↔ i < k + 1 := by omega
      simp [h, h2]
  · have h : ¬ k = i := by omega
    rw [if_neg h, List.getElem?_eq_none (by simp; omega)]
    rfl
theorem numB_all (m : Nat) : numB m 8 = (encW m).map u8N := by
  unfold numB encW
  rw [List.map_map]
  apply List.map_congr_left
  intro i hi
  rw [if_pos (List.mem_range.1 hi)]
  rfl
set_option maxRecDepth 100000 in
set_option maxHeartbeats 1600000 in
theorem numF_any (n : Int) (w : World) :
    Calls Try.prog 54 #[.int .i64 n] w fun e w' => ∃ g, e = .returned (.slice (some ⟨g, 0, none⟩) 8 8) ∧ w.grownBy w' none ∧ w.heap.size ≤ g ∧ Blk w' g 5 ((encN n).map u8N) := by
  have hw : IntKind.u64.wrap n = (ofI n : Nat) := by
    rw [show IntKind.u64.wrap n = n % 18446744073709551616 by simp [IntKind.wrap, IntKind.signed, IntKind.bits]]
    unfold ofI
    omega
  obtain ⟨m, hm⟩ : ∃ m, m = ofI n := ⟨_, rfl⟩
  obtain ⟨N, hN⟩ : ∃ N, N = w.heap.size := ⟨_, rfl⟩
  have hlt := ofI_lt n
  rw [← hm] at hw hlt
  obtain ⟨w1, hmk, hg1, hs1, hb1⟩ := make_bytes 8 8 w (Nat.le_refl _) (by omega)
  have hmk' : (Instr.makeSlice 22 (.int .i64 8) (.int .i64 8)).run Try.prog w = .ok (.slice (some ⟨w.heap.size, 0, none⟩) 8 8) w1 := hmk
  rw [← hN] at hmk' hb1
  have HS := Lib.hid (And.intro hg1 hb1); clear hg1 hb1 hmk hs1
  have HN := Lib.hid (And.intro (Nat.le_of_eq hN.symm) hm); clear hN hm
  go_enter Try.func54, Try.ntmps54
  go_wp2_with (fail)
  go_loopw [11] (fun i wr => ∃ k : Nat, k ≤ 8 ∧ i = .int .i64 k ∧ w.grownBy wr none ∧ Blk wr N 5 (numB m k)) (fun i _ => 8 - (intOf i).toNat)
  case atStart => exact ⟨0, by decide, rfl, HS.out⟩
  case round =>
    obtain ⟨k, hk, rfl, hg, hb⟩ := hrel
    by_cases hlt : k < 8
    · have i0 : (k : Int) < 8 := by omega
      have hlen : (numB m k).length = 8 := by unfold numB; simp
      obtain ⟨c, hc⟩ : ∃ c, (numB m k)[k]? = some c := ⟨_, List.getElem?_eq_getElem (by omega)⟩
      have k0 := hb.cell hc
      have f0 := hb.free k
      have HB := Lib.hid (And.intro hg hb); clear hg hb hc hlen
      go_wp2_with (fail)
      obtain ⟨hg, hb⟩ := HB.out
      have e1 : ((m : Int) / 2 ^ (8 * (7 - k)) % 256) = ((m / 2 ^ (8 * (7 - k)) % 256 : Nat) : Int) := by simp
      refine ⟨⟨k + 1, hlt, rfl, gb_set_new hg HN.out.1 _, ?_⟩, by show 8 - ((k : Int) + 1).toNat < 8 - (k : Int).toNat; omega⟩
      rw [e1, ← numB_set m k hlt]
      exact hb.set k _
    · obtain rfl : k = 8 := by omega
      have HB := Lib.hid (And.intro hg hb); clear hg hb
      go_wp2
      go_ret
      exact ⟨N, rfl, HB.out.1, HN.out.1, by have h := HB.out.2; rw [numB_all, HN.out.2] at h; exact h⟩
/-- two rows of bytes, that a box holds -/
theorem rows2 {w : World} {a1 a2 : Option Addr} {n1 c1 n2 c2 : Nat} {l1 l2 : List Nat} (hl1 : l1.length = n1) (hl2 : l2.length = n2) (h1 : BytesAt w w.heap.size a1 c1 l1) (h2 : BytesAt w w.heap.size a2 c2 l2) :
    RowsAt (w.alloc (.cells #[.slice a1 n1 c1, .slice a2 n2 c2] 22)) (w.heap.size + 1) (some ⟨w.heap.size, 0, none⟩) [l1, l2] := by
  have hb := Blk.new w [.slice a1 n1 c1, .slice a2 n2 c2] 22
  have hg := gb_alloc (gb_refl w none) (.cells #[.slice a1 n1 c1, .slice a2 n2 c2] 22)
  subst hl1 hl2
  refine ⟨by simp, Or.inr ⟨w.heap.size, 0, rfl, by omega, fun i hi => ?_⟩⟩
  obtain rfl | rfl : i = 0 ∨ i = 1 := by simp at hi; omega
  · exact ⟨a1, c1, by rw [Nat.zero_add]; exact hb.cell (i := 0) rfl, (h1.stay hg).up (by omega) (by simp)⟩
  · exact ⟨a2, c2, by rw [Nat.zero_add]; exact hb.cell (i := 1) rfl, (h2.stay hg).up (by omega) (by simp)⟩
theorem numF_bytes {n : Int} {w : World} {g : Nat} (h : Blk w g 5 ((encN n).map u8N)) : BytesAt w w.heap.size (some ⟨g, 0, none⟩) 8 (encN n) :=
  blk_bytes (tl := []) (by rw [List.append_nil]; exact h) (encN_length n) (Nat.le_refl _) (by decide) (fun i => encN_byte n i) h.lt (Nat.le_refl _)
theorem bytesF_any (n cap B : Nat) (a : Option Addr) (l : List Nat) (w : World) (hl : l.length = n) (hn : n ≤ 900000) (hP : BytesAt w B a cap l) :
    Calls Try.prog 52 #[.slice a n cap] w fun e w' => ∃ v, e = .returned v ∧ w.grownBy w' none ∧ w'.ownsRow w.heap.size 5 1 v (8 + n) ((encN (n : Int) ++ l).map u8N) := by
  have HP := Lib.hid (And.intro hl (And.intro hn hP)); clear hl hn hP
  have HN := Lib.hid (numF_any (n : Int) w)
  go_enter Try.func52, Try.ntmps52
  go_wp2_with (fail)
  refine HN.out.mono ?_
  rintro e w1 ⟨g, rfl, hg, _, hb⟩
  have H1 := Lib.hid (And.intro hg hb); clear hg hb
  go_wp2_with (fail)
  refine (join_any 2 2 _ [encN (n : Int), l] _ _ rfl (rows2 (encN_length _) HP.out.1 (numF_bytes H1.out.2) (HP.out.2.2.stay H1.out.1).full) (by decide) (by have h1 := HP.out.1; have h2 := HP.out.2.1; simp only [List.flatten_cons, List.flatten_nil, List.append_nil, List.length_append, encN_length]; omega)).mono ?_
  rintro e w2 ⟨v, rfl, hg, ho⟩
  simp only [List.flatten_cons, List.flatten_nil, List.append_nil] at ho
  have gz := gb_alloc H1.out.1 (.cells #[.slice (some ⟨g, 0, none⟩) 8 8, .slice a n cap] 22)
  have H2 := Lib.hid (And.intro (gb_trans gz hg) (own_down ho gz.size)); clear gz hg ho
  go_wp2
  go_ret
  exact ⟨v, rfl, H2.out.1, by have h := H2.out.2; rw [List.length_append, encN_length, HP.out.1] at h; exact h⟩
end Go.Proofs.Ytohcoihdijemfaa
