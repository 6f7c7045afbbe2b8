/- sha's Hash.add, in one; Hash.pad: a text is made whole. -/
import Derived.Test.YtabdegeaifajfaaGreatDoorShaAddFill
namespace Go.Proofs.YtabdegeaifajfaaGreatDoor
open Go.RowKit

/-- The hash at block B is of this text. -/
def IsHash (w : World) (B M : Nat) (l : List Nat) : Prop := ∃ r, HashAt w B M l r
theorem shaAdd_any (B M m : Nat) (l p : List Nat) (a : Option Addr) (cap : Nat) (w : World) (hm : p.length = m) (hT : Tables w) (hH : IsHash w B M l) (hP : PartAt w B a cap p) (hB2 : 0 + 3 + 1 ≤ B)
    (hlen : l.length + p.length < 2147483648) (hcap : cap < 9223372036854775808) :
    Calls Tryz.prog 124 #[.pointer (some ⟨B, 0, none⟩), .slice a m cap] w fun e w' => e = .returned (.tuple #[]) ∧ w.grownBy w' (some B) ∧ IsHash w' B M (l ++ p) := by
  subst hm
  obtain ⟨r, hH⟩ := hH
  have hc := hP.cap
  by_cases h0 : l.length % 128 = 0
  · exact shaAdd_zero B M l r p a cap w hT hH hP hB2 hlen hcap h0
  · by_cases h1 : l.length % 128 + p.length < 128
    · exact add_early B M l r p a cap w hH hP hlen (by omega) h1
    · obtain ⟨pb, po, rfl, _⟩ := hP.cells.resolve_left (by omega)
      by_cases h2 : 128 - l.length % 128 < cap
      · exact add_fill_less B M l r p pb po cap w hT hH hP hB2 hlen hcap (by omega) (by omega) h2
      · obtain rfl : cap = p.length := by omega
        exact add_fill_just B M l r p pb po w hT hH hP hB2 hlen (by omega) (by omega) (by omega)

def zeros256 : List Value := List.replicate 256 (u8V 0)
def zero256 : Array Value := zeros256.toArray
theorem z58 (w : World) : (zeroValue 188).run Tryz.prog w = .ok (.agg zero256) w := by kernel_rfl
theorem tail_length (n : Nat) : (Sha.tail n).length = Sha.tailLen n := by
  unfold Sha.tail Sha.tailLen
  simp [Sha.wbytes]
  split <;> omega
theorem tail_byte (n : Nat) : ∀ i, (Sha.tail n).getD i 0 < 256 := by
  have all : ∀ x ∈ Sha.tail n, x < 256 := by
    intro x hx
    have hb : ∀ y i, Sha.byte y i < 256 := fun y i => Nat.mod_lt _ (by decide)
    unfold Sha.tail at hx
    rcases List.mem_append.1 hx with hx | hx
    · rcases List.mem_append.1 hx with hx | hx
      · rcases List.mem_cons.1 hx with rfl | hx
        · decide
        · rw [(List.mem_replicate.1 hx).2]; decide
      · simp only [Sha.wbytes, List.mem_cons, List.not_mem_nil, or_false] at hx
        rcases hx with h | h | h | h | h | h | h | h <;> (rw [h]; exact hb _ _)
    · simp only [Sha.wbytes, List.mem_cons, List.not_mem_nil, or_false] at hx
      rcases hx with h | h | h | h | h | h | h | h <;> (rw [h]; exact hb _ _)
  intro i
  by_cases h : i < (Sha.tail n).length
  · rw [List.getD_eq_getElem?_getD, List.getElem?_eq_getElem h]; exact all _ (List.getElem_mem h)
  · rw [List.getD_eq_getElem?_getD, List.getElem?_eq_none (by omega)]; decide
/-- the tail's cells, as they are laid -/
theorem tail_cells (n t : Nat) (ht : t = Sha.tailLen n) :
    (putN (putN (zeros256.set 0 (u8V 128)) (t - 16) (byteV ((n >>> 61 : Nat) : Int)) 8) (t - 8) (byteV (((n <<< 3) % 18446744073709551616 : Nat) : Int)) 8).take t = (Sha.tail n).map u8V := by
  have h1 : 17 ≤ t ∧ t ≤ 144 := by subst ht; unfold Sha.tailLen; split <;> omega
  have hz : zeros256.set 0 (u8V 128) = u8V 128 :: List.replicate 255 (u8V 0) := rfl
  have hzl : (zeros256.set 0 (u8V 128)).length = 256 := by rw [List.length_set]; exact List.length_replicate
  rw [putN_is _ _ _ _ (by rw [putN_length, hzl]; omega), putN_is _ _ _ _ (by rw [hzl]; omega), wbV_is, wbV_is]
  have hA : ((zeros256.set 0 (u8V 128)).take (t - 16)).length = t - 16 := by rw [List.length_take, hzl]; omega
  have hA2 : ((zeros256.set 0 (u8V 128)).take (t - 16) ++ wbV (n >>> 61)).length = t - 8 := by rw [List.length_append, hA, wbV_length]; omega
  rw [List.take_append_of_le_length (l₂ := List.drop (t - 16 + 8) _) (by omega), List.take_of_length_le (i := t - 8) (by omega)]
  rw [List.take_append_of_le_length (by rw [List.length_append, hA2, wbV_length]; omega), List.take_of_length_le (by rw [List.length_append, hA2, wbV_length]; omega)]
  unfold Sha.tail
  rw [← ht, hz, show t - 16 = (t - 17) + 1 by omega, List.take_succ_cons, List.take_replicate, Nat.min_eq_left (by omega)]
  simp [wbV]

theorem zset_length : (zeros256.set 0 (u8V 128)).length = 256 := by rw [List.length_set]; exact List.length_replicate
theorem tail_part (n t a b : Nat) (ht : t = Sha.tailLen n) (ha : t = a + 16) (hb : b = a + 8) (B : Nat) (w : World) (NB : Nat) (hne : NB ≠ B) (hn : n < 2147483648)
    (hN : Blk w NB 188 (putN (putN (zeros256.set 0 (u8V 128)) a (byteV ((n : Int) / 2305843009213693952)) 8) b (byteV ((n : Int) * 8)) 8)) :
    PartAt w B (some ⟨NB, 0, none⟩) 256 (Sha.tail n) := by
  have e1 : (n : Int) / 2305843009213693952 = ((n >>> 61 : Nat) : Int) := by rw [Nat.shiftRight_eq_div_pow]; omega
  have e2 : (n : Int) * 8 = (((n <<< 3) % 18446744073709551616 : Nat) : Int) := by rw [Nat.shiftLeft_eq]; omega
  have hl := tail_length n
  have h1 : 17 ≤ t ∧ t ≤ 144 := by subst ht; unfold Sha.tailLen; split <;> omega
  have hc := tail_cells n t ht
  rw [show t - 16 = a by omega, show t - 8 = b by omega, ← e1, ← e2] at hc
  refine ⟨by omega, tail_byte n, Or.inr ⟨NB, 0, rfl, hne, hN.lt, fun i hi => ?_⟩⟩
  rw [Nat.zero_add]
  apply hN.cell
  generalize putN (putN (zeros256.set 0 (u8V 128)) a (byteV ((n : Int) / 2305843009213693952)) 8) b (byteV ((n : Int) * 8)) 8 = L at *
  have : L[i]? = (L.take t)[i]? := by rw [List.getElem?_take, if_pos (by omega)]
  rw [this, hc, List.getElem?_map, List.getElem?_eq_getElem hi]
  simp [List.getElem?_eq_getElem hi]
theorem HashAt.kept {w w' : World} {B M : Nat} {l r : List Nat} (h : HashAt w B M l r) (hg : w.grownBy w' none) : HashAt w' B M l r := ⟨h.len, h.byte, h.waits, h.blk.grown hg (by simp)⟩

set_option maxRecDepth 100000 in
set_option maxHeartbeats 2000000 in
theorem pad_any (B M : Nat) (l : List Nat) (w : World) (hT : Tables w) (hH : IsHash w B M l) (hB2 : 0 + 3 + 1 ≤ B) (hlen : l.length < 2147483000) :
    Calls Tryz.prog 125 #[.pointer (some ⟨B, 0, none⟩)] w fun e w' => e = .returned (.tuple #[]) ∧ w.grownBy w' (some B) ∧ IsHash w' B M (Sha.whole l) := by
  obtain ⟨r, hr⟩ := hH
  have hz := z58
  have kz := hr.blk.cell (hashV_size _ _ _ _ hr.len)
  have hblt := hr.blk.lt
  have z0 : ∀ n, ((w.drewN n).alloc (.cells zero256 188)).cell? ⟨w.heap.size, 0, none⟩ = some (.int .u8 0) := fun n => (Blk.new (w.drewN n) zeros256 188).cell (i := 0) (v := u8V 0) rfl
  have z1 : ∀ n, ((w.drewN n).alloc (.cells zero256 188)).frozen? ⟨w.heap.size, 0, none⟩ = false := fun n => (Blk.new (w.drewN n) zeros256 188).free 0
  have z2 : ∀ n, (((w.drewN n).alloc (.cells zero256 188)).setCell ⟨w.heap.size, 0, none⟩ (.int .u8 128)).cell? ⟨B, 136, none⟩ = some (u64V l.length) := fun n => (((hr.blk.drewN n).alloc _).other (by show w.heap.size ≠ B; omega) _).cell (hashV_size _ _ _ _ hr.len)
  unfold u64V at kz z2
  have HR := Lib.hid hr; clear hr
  have HT := Lib.hid hT; clear hT
  by_cases hu : l.length % 128 ≤ 111
  · obtain ⟨t, ht⟩ : ∃ t : Nat, t = 128 - l.length % 128 := ⟨_, rfl⟩
    have et : 128 - (l.length : Int) % 128 = (t : Int) := by omega
    have t1 : 17 ≤ (t : Int) := by omega
    have t2 : (t : Int) ≤ 256 := by omega
    have htl : t = Sha.tailLen l.length := by unfold Sha.tailLen; rw [if_neg (by omega)]; exact ht
    clear ht
    obtain ⟨a, ha⟩ : ∃ a : Nat, t = a + 16 := ⟨t - 16, by omega⟩
    obtain ⟨b, hb⟩ : ∃ b : Nat, b = a + 8 := ⟨_, rfl⟩
    have ea : (t : Int) - 16 = (a : Int) := by omega
    have eb : (t : Int) - 8 = (b : Int) := by omega
    have a1 : (a : Int) ≤ 256 := by omega
    have a2 : ¬ 256 = a := by omega
    have a3 : 16 ≤ (t : Int) := by omega
    have b1 : (b : Int) ≤ 256 := by omega
    have b2 : ¬ 256 = b := by omega
    have b3 : 8 ≤ (t : Int) := by omega
    have HTT := Lib.hid (And.intro htl (And.intro ha hb)); clear htl ha hb hu
    go_enter Tryz.func125, Tryz.ntmps125
    go_wp2_with fail
    go_quiet (fail)
    go_wp2_with fail
    have hN0 : Blk (((w.drewN nq).alloc (.cells zero256 188)).setCell ⟨w.heap.size, 0, none⟩ (.int .u8 128)) w.heap.size 188 (zeros256.set 0 (u8V 128)) := (Blk.new (w.drewN nq) zeros256 188).set 0 (u8V 128)
    have hG0 : w.grownBy (((w.drewN nq).alloc (.cells zero256 188)).setCell ⟨w.heap.size, 0, none⟩ (.int .u8 128)) none := gb_set_new (gb_alloc (gb_drewN (gb_refl _ _) _) _) (Nat.le_refl _) _
    generalize ((w.drewN nq).alloc (.cells zero256 188)).setCell ⟨w.heap.size, 0, none⟩ (.int .u8 128) = w1 at *
    have H0 := Lib.hid (And.intro hN0 hG0); clear hN0 hG0 hz z0 z1 z2 kz
    refine (shaPutWord_any w.heap.size _ a _ _ _ _ w1 (by omega) (by omega) (by rw [zset_length]; omega) H0.out.1).mono ?_
    rintro e w2 ⟨rfl, hg2, hN2⟩
    have hG2 := gb_then H0.out.2 hg2 (Nat.le_refl _)
    have H2 := Lib.hid (And.intro hN2 hG2); clear hN2 hG2 hg2 H0
    go_wp2_with fail
    refine (shaPutWord_any w.heap.size _ b _ _ _ _ w2 (by omega) (by omega) (by rw [putN_length, zset_length]; omega) H2.out.1).mono ?_
    rintro e w3 ⟨rfl, hg3, hN3⟩
    have hG3 := gb_then H2.out.2 hg3 (Nat.le_refl _)
    have hP := tail_part l.length t a b HTT.out.1 HTT.out.2.1 HTT.out.2.2 B w3 w.heap.size (by omega) (by omega) hN3
    have H3 := Lib.hid (And.intro hP hG3); clear hP hG3 hN3 hg3 H2
    go_wp2_with fail
    refine (shaAdd_any B M t l (Sha.tail l.length) (some ⟨w.heap.size, 0, none⟩) 256 w3 (by rw [tail_length]; exact HTT.out.1.symm) (HT.out.kept H3.out.2 (by simp)) ⟨r, HR.out.kept H3.out.2⟩ H3.out.1 hB2 (by rw [tail_length, ← HTT.out.1]; omega) (by omega)).mono ?_
    rintro e w4 ⟨rfl, hg4, hH4⟩
    have H4 := Lib.hid (And.intro (gb_trans (gb_row H3.out.2 (some B)) hg4) hH4); clear hg4 hH4
    go_wp2
    go_end0
    exact ⟨rfl, H4.out.1, H4.out.2⟩
  · obtain ⟨t0, ht0⟩ : ∃ t : Nat, t = 128 - l.length % 128 := ⟨_, rfl⟩
    obtain ⟨t, ht⟩ : ∃ t : Nat, t = 256 - l.length % 128 := ⟨_, rfl⟩
    have et0 : 128 - (l.length : Int) % 128 = (t0 : Int) := by omega
    have et : (t0 : Int) + 128 = (t : Int) := by omega
    have t0l : (t0 : Int) < 17 := by omega
    have t1 : 17 ≤ (t : Int) := by omega
    have t2 : (t : Int) ≤ 256 := by omega
    have htl : t = Sha.tailLen l.length := by unfold Sha.tailLen; rw [if_pos (by omega)]; exact ht
    clear ht ht0
    obtain ⟨a, ha⟩ : ∃ a : Nat, t = a + 16 := ⟨t - 16, by omega⟩
    obtain ⟨b, hb⟩ : ∃ b : Nat, b = a + 8 := ⟨_, rfl⟩
    have ea : (t : Int) - 16 = (a : Int) := by omega
    have eb : (t : Int) - 8 = (b : Int) := by omega
    have a1 : (a : Int) ≤ 256 := by omega
    have a2 : ¬ 256 = a := by omega
    have a3 : 16 ≤ (t : Int) := by omega
    have b1 : (b : Int) ≤ 256 := by omega
    have b2 : ¬ 256 = b := by omega
    have b3 : 8 ≤ (t : Int) := by omega
    have HTT := Lib.hid (And.intro htl (And.intro ha hb)); clear htl ha hb hu
    go_enter Tryz.func125, Tryz.ntmps125
    go_wp2_with fail
    go_quiet (fail)
    go_wp2_with fail
    have hN0 : Blk (((w.drewN nq).alloc (.cells zero256 188)).setCell ⟨w.heap.size, 0, none⟩ (.int .u8 128)) w.heap.size 188 (zeros256.set 0 (u8V 128)) := (Blk.new (w.drewN nq) zeros256 188).set 0 (u8V 128)
    have hG0 : w.grownBy (((w.drewN nq).alloc (.cells zero256 188)).setCell ⟨w.heap.size, 0, none⟩ (.int .u8 128)) none := gb_set_new (gb_alloc (gb_drewN (gb_refl _ _) _) _) (Nat.le_refl _) _
    generalize ((w.drewN nq).alloc (.cells zero256 188)).setCell ⟨w.heap.size, 0, none⟩ (.int .u8 128) = w1 at *
    have H0 := Lib.hid (And.intro hN0 hG0); clear hN0 hG0 hz z0 z1 z2 kz
    refine (shaPutWord_any w.heap.size _ a _ _ _ _ w1 (by omega) (by omega) (by rw [zset_length]; omega) H0.out.1).mono ?_
    rintro e w2 ⟨rfl, hg2, hN2⟩
    have hG2 := gb_then H0.out.2 hg2 (Nat.le_refl _)
    have H2 := Lib.hid (And.intro hN2 hG2); clear hN2 hG2 hg2 H0
    go_wp2_with fail
    refine (shaPutWord_any w.heap.size _ b _ _ _ _ w2 (by omega) (by omega) (by rw [putN_length, zset_length]; omega) H2.out.1).mono ?_
    rintro e w3 ⟨rfl, hg3, hN3⟩
    have hG3 := gb_then H2.out.2 hg3 (Nat.le_refl _)
    have hP := tail_part l.length t a b HTT.out.1 HTT.out.2.1 HTT.out.2.2 B w3 w.heap.size (by omega) (by omega) hN3
    have H3 := Lib.hid (And.intro hP hG3); clear hP hG3 hN3 hg3 H2
    go_wp2_with fail
    refine (shaAdd_any B M t l (Sha.tail l.length) (some ⟨w.heap.size, 0, none⟩) 256 w3 (by rw [tail_length]; exact HTT.out.1.symm) (HT.out.kept H3.out.2 (by simp)) ⟨r, HR.out.kept H3.out.2⟩ H3.out.1 hB2 (by rw [tail_length, ← HTT.out.1]; omega) (by omega)).mono ?_
    rintro e w4 ⟨rfl, hg4, hH4⟩
    have H4 := Lib.hid (And.intro (gb_trans (gb_row H3.out.2 (some B)) hg4) hH4); clear hg4 hH4
    go_wp2
    go_end0
    exact ⟨rfl, H4.out.1, H4.out.2⟩
end Go.Proofs.YtabdegeaifajfaaGreatDoor
