/- wire's Number and Bytes: numbers, and bytes with their number ahead. -/
import Derived.Test.YtlkiancedgaicaaGreatWiM
import Derived.Test.YtlkiancedgaicaaGreatWiJoin
import Derived.Deep.Cut
import Derived.Deep.RegionWith
namespace Go.Proofs.YtlkiancedgaicaaGreat
open Go.RowKit Ow Wi

/-- a row of one's own as a slice of bytes -/
theorem own_slice {w : World} {base n : Nat} {v : Value} {l : List Nat} (h : w.ownsRow base 5 1 v n (l.map u8N)) (hb : ∀ i, l.getD i 0 < 256) :
    ∃ a c, v = .slice a n c ∧ l.length = n ∧ BytesAt w w.heap.size a c l ∧ (∀ pb po, a = some ⟨pb, po, none⟩ → base ≤ pb ∧ pb < w.heap.size) := by
  have hn : l.length = n := by have := h.1; rw [List.length_map] at this; omega
  by_cases h0 : 0 < n
  · obtain ⟨g, c, rfl, hbg, hnc, hB⟩ := own_bytesAt h hn h0 hb
    exact ⟨_, c, rfl, hn, hB, fun pb po e => by cases e; exact ⟨hbg, (own_lt h).1⟩⟩
  · obtain rfl : n = 0 := by omega
    obtain rfl : l = [] := List.eq_nil_of_length_eq_zero hn
    have h' := h
    rcases h'.2 with ⟨rfl, _⟩ | ⟨g, c, cur, rfl, hbg, _, _, hcm, _⟩
    · exact ⟨none, 0, rfl, rfl, ⟨Nat.le_refl _, Nat.le_refl _, by decide, by simp, Or.inl rfl⟩, fun pb po e => by cases e⟩
    · exact ⟨_, c, rfl, rfl, ⟨Nat.le_refl _, Nat.zero_le _, by unfold maxLen at hcm; omega, by simp, Or.inl rfl⟩, fun pb po e => by cases e; exact ⟨hbg, (own_lt h).1⟩⟩

/-- one row of bytes, that a box holds -/
theorem rows1 {w : World} {a : Option Addr} {n c : Nat} {l : List Nat} (hl : l.length = n) (h : BytesAt w w.heap.size a c l) :
    RowsAt (w.alloc (.cells #[.slice a n c] 23)) (w.heap.size + 1) (some ⟨w.heap.size, 0, none⟩) [l] := by
  have hb := Blk.new w [.slice a n c] 23
  refine ⟨by simp, Or.inr ⟨w.heap.size, 0, rfl, by omega, fun i hi => ?_⟩⟩
  obtain rfl : i = 0 := by simp at hi; omega
  exact ⟨a, c, by rw [Nat.zero_add]; subst hl; exact hb.cell (i := 0) rfl, (h.stay (gb_alloc (gb_refl w none) _)).up (by omega) (by simp)⟩
theorem getD_mem {l : List Nat} (h : ∀ i, l.getD i 0 < 256) : ∀ b ∈ l, b < 256 := fun b hb => by
  obtain ⟨i, hi, rfl⟩ := List.getElem_of_mem hb
  have := h i
  rwa [List.getD_eq_getElem?_getD, List.getElem?_eq_getElem hi] at this
/-- a number's bytes, as far as they are laid -/
def numB (m k : Nat) : List Value := (List.range 8).map fun i => if i < k then u8N (m / 2 ^ (8 * (7 - i)) % 256) else u8N 0
theorem numB_set (m k : Nat) (hk : k < 8) : (numB m k).set k (u8N (m / 2 ^ (8 * (7 - k)) % 256)) = numB m (k + 1) := by
  apply List.ext_getElem?
  intro i
  unfold numB
  rw [List.getElem?_set]
  simp only [List.length_map, List.length_range, List.getElem?_map]
  by_cases hi : i < 8
  · rw [List.getElem?_range hi]
    by_cases h : k = i
    · subst h; simp [hk]
    · have h2 : i < k ↔ i < k + 1 := by omega
      simp [h, h2]
  · have h : ¬ k = i := by omega
    rw [if_neg h, List.getElem?_eq_none (by simp; omega)]
    rfl
theorem numB_all (m : Nat) : numB m 8 = (encW m).map u8N := by
  unfold numB encW
  rw [List.map_map]
  apply List.map_congr_left
  intro i hi
  rw [if_pos (List.mem_range.1 hi)]
  rfl
set_option maxRecDepth 100000 in
set_option maxHeartbeats 1600000 in
theorem numF_any (n : Int) (w : World) :
    Calls Tryz.prog 13 #[.int .i64 n] w fun e w' => ∃ g, e = .returned (.slice (some ⟨g, 0, none⟩) 8 8) ∧ w.grownBy w' none ∧ w.heap.size ≤ g ∧ Blk w' g 5 ((encN n).map u8N) := by
  have hw : IntKind.u64.wrap n = (ofI n : Nat) := by
    rw [show IntKind.u64.wrap n = n % 18446744073709551616 by simp [IntKind.wrap, IntKind.signed, IntKind.bits]]
    unfold ofI
    omega
  obtain ⟨m, hm⟩ : ∃ m, m = ofI n := ⟨_, rfl⟩
  obtain ⟨N, hN⟩ : ∃ N, N = w.heap.size := ⟨_, rfl⟩
  have hlt := ofI_lt n
  rw [← hm] at hw hlt
  obtain ⟨w1, hmk, hg1, hs1, hb1⟩ := make_bytes 8 8 w (Nat.le_refl _) (by omega)
  have hmk' : (Instr.makeSlice 23 (.int .i64 8) (.int .i64 8)).run Tryz.prog w = .ok (.slice (some ⟨w.heap.size, 0, none⟩) 8 8) w1 := hmk
  rw [← hN] at hmk' hb1
  have HS := Lib.hid (And.intro hg1 hb1); clear hg1 hb1 hmk hs1
  have HN := Lib.hid (And.intro (Nat.le_of_eq hN.symm) hm); clear hN hm
  go_enter Tryz.func13, Tryz.ntmps13
  go_wp2_with (fail)
  go_loopw [11] (fun i wr => ∃ k : Nat, k ≤ 8 ∧ i = .int .i64 k ∧ w.grownBy wr none ∧ Blk wr N 5 (numB m k)) (fun i _ => 8 - (intOf i).toNat)
  case atStart => exact ⟨0, by decide, rfl, HS.out⟩
  case round =>
    obtain ⟨k, hk, rfl, hg, hb⟩ := hrel
    by_cases hlt : k < 8
    · have i0 : (k : Int) < 8 := by omega
      have hlen : (numB m k).length = 8 := by unfold numB; simp
      obtain ⟨c, hc⟩ : ∃ c, (numB m k)[k]? = some c := ⟨_, List.getElem?_eq_getElem (by omega)⟩
      have k0 := hb.cell hc
      have f0 := hb.free k
      have HB := Lib.hid (And.intro hg hb); clear hg hb hc hlen
      go_wp2_with (fail)
      obtain ⟨hg, hb⟩ := HB.out
      have e1 : ((m : Int) / 2 ^ (8 * (7 - k)) % 256) = ((m / 2 ^ (8 * (7 - k)) % 256 : Nat) : Int) := by simp
      refine ⟨⟨k + 1, hlt, rfl, gb_set_new hg HN.out.1 _, ?_⟩, by show 8 - ((k : Int) + 1).toNat < 8 - (k : Int).toNat; omega⟩
      rw [e1, ← numB_set m k hlt]
      exact hb.set k _
    · obtain rfl : k = 8 := by omega
      have HB := Lib.hid (And.intro hg hb); clear hg hb
      go_wp2
      go_ret
      exact ⟨N, rfl, HB.out.1, HN.out.1, by have h := HB.out.2; rw [numB_all, HN.out.2] at h; exact h⟩
/-- two rows of bytes, that a box holds -/
theorem rows2 {w : World} {a1 a2 : Option Addr} {n1 c1 n2 c2 : Nat} {l1 l2 : List Nat} (hl1 : l1.length = n1) (hl2 : l2.length = n2) (h1 : BytesAt w w.heap.size a1 c1 l1) (h2 : BytesAt w w.heap.size a2 c2 l2) :
    RowsAt (w.alloc (.cells #[.slice a1 n1 c1, .slice a2 n2 c2] 23)) (w.heap.size + 1) (some ⟨w.heap.size, 0, none⟩) [l1, l2] := by
  have hb := Blk.new w [.slice a1 n1 c1, .slice a2 n2 c2] 23
  have hg := gb_alloc (gb_refl w none) (.cells #[.slice a1 n1 c1, .slice a2 n2 c2] 23)
  subst hl1 hl2
  refine ⟨by simp, Or.inr ⟨w.heap.size, 0, rfl, by omega, fun i hi => ?_⟩⟩
  obtain rfl | rfl : i = 0 ∨ i = 1 := by simp at hi; omega
  · exact ⟨a1, c1, by rw [Nat.zero_add]; exact hb.cell (i := 0) rfl, (h1.stay hg).up (by omega) (by simp)⟩
  · exact ⟨a2, c2, by rw [Nat.zero_add]; exact hb.cell (i := 1) rfl, (h2.stay hg).up (by omega) (by simp)⟩
theorem numF_bytes {n : Int} {w : World} {g : Nat} (h : Blk w g 5 ((encN n).map u8N)) : BytesAt w w.heap.size (some ⟨g, 0, none⟩) 8 (encN n) :=
  blk_bytes (tl := []) (by rw [List.append_nil]; exact h) (encN_length n) (Nat.le_refl _) (by decide) (fun i => encN_byte n i) h.lt (Nat.le_refl _)
theorem bytesF_any (n cap B : Nat) (a : Option Addr) (l : List Nat) (w : World) (hl : l.length = n) (hn : n ≤ 900000) (hP : BytesAt w B a cap l) :
    Calls Tryz.prog 18 #[.slice a n cap] w fun e w' => ∃ v, e = .returned v ∧ w.grownBy w' none ∧ w'.ownsRow w.heap.size 5 1 v (8 + n) ((encN (n : Int) ++ l).map u8N) := by
  have HP := Lib.hid (And.intro hl (And.intro hn hP)); clear hl hn hP
  have HN := Lib.hid (numF_any (n : Int) w)
  go_enter Tryz.func18, Tryz.ntmps18
  go_wp2_with (fail)
  refine HN.out.mono ?_
  rintro e w1 ⟨g, rfl, hg, _, hb⟩
  have H1 := Lib.hid (And.intro hg hb); clear hg hb
  go_wp2_with (fail)
  refine (join_any 2 2 _ [encN (n : Int), l] _ _ rfl (rows2 (encN_length _) HP.out.1 (numF_bytes H1.out.2) (HP.out.2.2.stay H1.out.1).full) (by decide) (by have h1 := HP.out.1; have h2 := HP.out.2.1; simp only [List.flatten_cons, List.flatten_nil, List.append_nil, List.length_append, encN_length]; omega)).mono ?_
  rintro e w2 ⟨v, rfl, hg, ho⟩
  simp only [List.flatten_cons, List.flatten_nil, List.append_nil] at ho
  have gz := gb_alloc H1.out.1 (.cells #[.slice (some ⟨g, 0, none⟩) 8 8, .slice a n cap] 23)
  have H2 := Lib.hid (And.intro (gb_trans gz hg) (own_down ho gz.size)); clear gz hg ho
  go_wp2
  go_ret
  exact ⟨v, rfl, H2.out.1, by have h := H2.out.2; rw [List.length_append, encN_length, HP.out.1] at h; exact h⟩
end Go.Proofs.YtlkiancedgaicaaGreat
