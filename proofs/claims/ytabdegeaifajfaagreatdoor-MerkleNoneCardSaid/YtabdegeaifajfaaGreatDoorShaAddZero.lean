/- sha's Hash.add: bytes are taken on, the other ways. -/
import Derived.Test.YtabdegeaifajfaaGreatDoorShaAdd
namespace Go.Proofs.YtabdegeaifajfaaGreatDoor
open Go.RowKit

/-- how long the slice in a slot is: the loop's measure -/
def lenOf : Value → Nat
  | .slice _ n _ => n
  | _ => 0
/-- what the loop over whole blocks keeps: the text's first k blocks are done, q is what is left -/
structure AInv (w wr : World) (B M : Nat) (full : List Nat) (k : Nat) (a : Option Addr) (cap : Nat) (q r : List Nat) : Prop where
  g : w.grownBy wr (some B)
  fits : 128 * k ≤ full.length
  rest : q = full.drop (128 * k)
  part : PartAt wr B a cap q
  len : r.length = 128
  byte : ∀ i, r.getD i 0 < 256
  blk : Blk wr B 177 (hashV (Sha.blocks full k) r full.length M)
theorem shaGetD_drop (l : List Nat) (d i : Nat) : (l.drop d).getD i 0 = l.getD (d + i) 0 := by simp [List.getD_eq_getElem?_getD]
theorem shaGetD_take (l : List Nat) (d i : Nat) (h : i < d) : (l.take d).getD i 0 = l.getD i 0 := by simp [List.getD_eq_getElem?_getD, h]
theorem shaGetD_take_lt (l : List Nat) (d : Nat) (h : ∀ i, l.getD i 0 < 256) (i : Nat) : (l.take d).getD i 0 < 256 := by
  by_cases hi : i < d
  · rw [shaGetD_take _ _ _ hi]; exact h i
  · rw [List.getD_eq_getElem?_getD, List.getElem?_take, if_neg hi]; decide
/-- the part behind d bytes -/
theorem PartAt.from {w : World} {B cap d : Nat} {a a' : Option Addr} {p : List Nat} (h : PartAt w B a cap p) (hd : d ≤ p.length) (ha : d < p.length → ∀ pb po, a = some ⟨pb, po, none⟩ → a' = some ⟨pb, po + d, none⟩) : PartAt w B a' (cap - d) (p.drop d) := by
  have hl : (p.drop d).length = p.length - d := by simp
  refine ⟨by have := h.cap; omega, fun i => by rw [shaGetD_drop]; exact h.byte _, ?_⟩
  by_cases h0 : (p.drop d).length = 0
  · exact Or.inl h0
  · obtain ⟨pb, po, e, hne, hlt, hc⟩ := h.cells.resolve_left (by omega)
    refine Or.inr ⟨pb, po + d, ha (by omega) pb po e, hne, hlt, fun i hi => ?_⟩
    rw [shaGetD_drop, Nat.add_assoc]; exact hc _ (by omega)
/-- a round of the loop -/
theorem AInv.next {w wr w3 : World} {B M k cap : Nat} {full q r : List Nat} {a a' : Option Addr} (h : AInv w wr B M full k a cap q r) (hq : 128 ≤ q.length) (hg : wr.grownBy w3 (some B))
    (hb : Blk w3 B 177 (wordsV (Sha.turn (Sha.blocks full k) (q.take 128)) ++ (r.map u8V ++ [u64V full.length, .pointer (some ⟨M, 0, none⟩)])))
    (ha : 128 < q.length → ∀ pb po, a = some ⟨pb, po, none⟩ → a' = some ⟨pb, po + 128, none⟩) : AInv w w3 B M full (k + 1) a' (cap - 128) (q.drop 128) r := by
  have hl : q.length = full.length - 128 * k := by rw [h.rest, List.length_drop]
  refine ⟨gb_trans h.g hg, by omega, by rw [h.rest, List.drop_drop, Nat.mul_succ], (h.part.kept hg).from (by omega) ha, h.len, h.byte, ?_⟩
  have e : Sha.blocks full (k + 1) = Sha.turn (Sha.blocks full k) (q.take 128) := by rw [h.rest]; rfl
  unfold hashV; rw [e]; exact hb
/-- the loop's end: what is left waits -/
theorem AInv.last {w wr w4 : World} {B M k cap : Nat} {full q r : List Nat} {a : Option Addr} (h : AInv w wr B M full k a cap q r) (hq : q.length < 128) (hg : wr.grownBy w4 (some B))
    (hb : Blk w4 B 177 (hashV (Sha.blocks full k) (laidIn r q 0) full.length M)) : w.grownBy w4 (some B) ∧ HashAt w4 B M full (laidIn r q 0) := by
  have hl : q.length = full.length - 128 * k := by rw [h.rest, List.length_drop]
  have hk := h.fits
  have e1 : full.length / 128 = k := by omega
  have e2 : full.length % 128 = q.length := by omega
  refine ⟨gb_trans h.g hg, laidIn_length _ _ _ h.len (by omega), laidIn_byte _ _ _ h.byte h.part.byte, ?_, by rw [e1]; exact hb⟩
  rw [e1, e2, ← h.rest]
  unfold laidIn
  simp only [List.take_zero, List.nil_append, Nat.sub_zero]
  rw [List.take_of_length_le (l := q) (by omega), List.take_append_of_le_length (by omega), List.take_length]
/-- the loop's beginning, where nothing waits -/
theorem AInv.start {w : World} {B M cap : Nat} {l p r : List Nat} {a : Option Addr} (hH : HashAt w B M l r) (hP : PartAt w B a cap p) (h0 : l.length % 128 = 0) :
    AInv w (w.setCell ⟨B, 136, none⟩ (u64V (l.length + p.length))) B M (l ++ p) (l.length / 128) a cap p r := by
  have hg1 := gb_set (gb_refl w (some B)) 136 (u64V (l.length + p.length))
  have hb1 := hH.blk.set 136 (u64V (l.length + p.length))
  rw [hashV_setSize _ _ _ _ _ hH.len] at hb1
  refine ⟨hg1, by rw [List.length_append]; omega, ?_, hP.kept hg1, hH.len, hH.byte, ?_⟩
  · rw [List.drop_append, List.drop_of_length_le (by omega), show 128 * (l.length / 128) - l.length = 0 by omega]; rfl
  · rw [blocks_append _ _ _ (by omega), List.length_append]; exact hb1
/-- .. and where a block was made whole -/
theorem AInv.fill {w w2 w3 : World} {B M cap : Nat} {l p r : List Nat} {a a' : Option Addr} (hH : HashAt w B M l r) (hP : PartAt w B a cap p) (hs : 128 ≤ l.length % 128 + p.length) (hg2 : w.grownBy w2 (some B)) (hg : w2.grownBy w3 (some B))
    (hb : Blk w3 B 177 (wordsV (Sha.turn (Sha.blocks l (l.length / 128)) (laidIn r p (l.length % 128))) ++ ((laidIn r p (l.length % 128)).map u8V ++ [u64V (l.length + p.length), .pointer (some ⟨M, 0, none⟩)])))
    (ha : 128 - l.length % 128 < p.length → ∀ pb po, a = some ⟨pb, po, none⟩ → a' = some ⟨pb, po + (128 - l.length % 128), none⟩) :
    AInv w w3 B M (l ++ p) (l.length / 128 + 1) a' (cap - (128 - l.length % 128)) (p.drop (128 - l.length % 128)) (laidIn r p (l.length % 128)) := by
  have hm : 128 * (l.length / 128 + 1) = l.length + (128 - l.length % 128) := by omega
  refine ⟨gb_trans hg2 hg, by rw [List.length_append]; omega, ?_, ((hP.kept hg2).kept hg).from (by omega) ha, laidIn_length _ _ _ hH.len (by omega), laidIn_byte _ _ _ hH.byte hP.byte, ?_⟩
  · rw [hm, List.drop_append, List.drop_of_length_le (l := l) (by omega), show l.length + (128 - l.length % 128) - l.length = 128 - l.length % 128 by omega]; rfl
  · have e : Sha.blocks (l ++ p) (l.length / 128 + 1) = Sha.turn (Sha.blocks l (l.length / 128)) (laidIn r p (l.length % 128)) := by
      rw [Sha.blocks, blocks_append _ _ _ (by omega)]
      congr 1
      rw [List.drop_append_of_le_length (by omega), ← hH.waits]
      unfold laidIn
      rw [List.take_append, List.take_of_length_le (l := List.take (l.length % 128) r) (by rw [List.length_take]; omega), List.length_take, hH.len, Nat.min_eq_left (by omega)]
      congr 1
      rw [Nat.min_eq_right (by omega), show l.length % 128 + (128 - l.length % 128) = 128 by omega, List.drop_of_length_le (l := r) (by rw [hH.len]; exact Nat.le_refl _), List.append_nil]
    unfold hashV; rw [e, List.length_append]; exact hb

set_option maxRecDepth 100000 in
set_option maxHeartbeats 2000000 in
theorem shaAdd_zero (B M : Nat) (l r p : List Nat) (a : Option Addr) (cap : Nat) (w : World) (hT : Tables w) (hH : HashAt w B M l r) (hP : PartAt w B a cap p) (hB2 : 0 + 3 + 1 ≤ B)
    (hlen : l.length + p.length < 2147483648) (hcap : cap < 9223372036854775808) (h0 : l.length % 128 = 0) :
    Calls Tryz.prog 124 #[.pointer (some ⟨B, 0, none⟩), .slice a p.length cap] w fun e w' => e = .returned (.tuple #[]) ∧ w.grownBy w' (some B) ∧ ∃ r', HashAt w' B M (l ++ p) r' := by
  have kz := hH.blk.cell (hashV_size _ _ _ _ hH.len)
  have fz := hH.blk.free 136
  unfold u64V at kz
  have hS := AInv.start hH hP h0
  have ec : u64V (l.length + p.length) = .int .u64 ((l.length : Int) + (p.length : Int)) := by unfold u64V; congr 1
  rw [ec] at hS
  have HT := Lib.hid hT; clear hT ec
  have HS := Lib.hid hS; clear hS hH hP
  have eu : (l.length : Int) % 128 = 0 := by omega
  clear h0
  go_enter Tryz.func124, Tryz.ntmps124
  go_wp2
  clear kz fz eu
  go_loopw [1] (fun v wr => ∃ k cap' a' q r', v = .slice a' q.length cap' ∧ cap' < 9223372036854775808 ∧ AInv w wr B M (l ++ p) k a' cap' q r') (fun v _ => lenOf v)
  case atStart => exact ⟨_, cap, a, p, r, rfl, hcap, HS.out⟩
  case round =>
    obtain ⟨k, cap', a', q, r', rfl, hcp', hI⟩ := hrel
    have hqc := hI.part.cap
    by_cases hlt : 128 ≤ q.length
    · obtain ⟨pb, po, rfl, hne, hpl, hc⟩ := hI.part.cells.resolve_left (by omega)
      have hc1 : ∀ i, i < 128 → wr.cell? ⟨pb, po + i, none⟩ = some (.int .u8 (((q.take 128).getD i 0 : Nat) : Int)) := fun i hi => by rw [shaGetD_take _ _ _ hi]; exact hc i (by omega)
      have HT2 := Lib.hid (HT.out.kept hI.g (fun b e => by cases e; exact hB2))
      have HC := Lib.hid hc1; clear hc hc1
      have HI := Lib.hid hI; clear hI
      have i1 : (128 : Int) ≤ (q.length : Int) := by omega
      have i2 : (128 : Int) ≤ (cap' : Int) := by omega
      have i3 : (q.length : Int) ≤ (cap' : Int) := by omega
      by_cases hce : cap' = 128
      · have hq128 : q.length = 128 := by omega
        subst hce
        rw [hq128] at i1 i3 hqc ⊢
        have HQL := Lib.hid hq128; clear hq128 hlt
        go_wp2_with fail
        refine wp_region_still_tail 5 (by kernel_rfl) (by kernel_rfl) ?_
        change wpStill _ _ (World.drew wr) _ _ _
        simp only [List.take_succ_cons, List.take_zero, List.drop_succ_cons, List.drop_zero]
        repeat still_step
        refine wpStill_nil ?_
        go_wp2_with fail
        refine (turn_any B _ pb po _ (Sha.blocks (l ++ p) k) _ (q.take 128) _ (by exact HT2.out.drew) (SB.blocks _ _) (by omega) (shaGetD_take_lt _ _ HI.out.part.byte) (HI.out.blk.drew) (by exact HC.out)).mono ?_
        rintro e w3 ⟨rfl, hg3, hb3⟩
        have hN := HI.out.next (a' := some ⟨pb, po, none⟩) (by rw [HQL.out]; omega) (gb_trans (gb_drew (gb_refl _ _)) hg3) hb3 (fun h => by rw [HQL.out] at h; omega)
        have HN := Lib.hid hN; clear hN hb3 hg3
        go_wp2
        go_roundw
        case rel => exact ⟨k + 1, 0, some ⟨pb, po, none⟩, q.drop 128, r', by rw [List.length_drop, HQL.out], by omega, HN.out⟩
        case measure => simp [lenOf]
      · have i4 : (128 : Int) < (cap' : Int) := by omega
        go_wp2_with fail
        refine wp_region_still_tail 5 (by kernel_rfl) (by kernel_rfl) ?_
        change wpStill _ _ (World.drew wr) _ _ _
        simp only [List.take_succ_cons, List.take_zero, List.drop_succ_cons, List.drop_zero]
        repeat still_step
        refine wpStill_nil ?_
        go_wp2_with fail
        refine (turn_any B _ pb po _ (Sha.blocks (l ++ p) k) _ (q.take 128) _ (by exact HT2.out.drew) (SB.blocks _ _) (by omega) (shaGetD_take_lt _ _ HI.out.part.byte) (HI.out.blk.drew) (by exact HC.out)).mono ?_
        rintro e w3 ⟨rfl, hg3, hb3⟩
        have hN := HI.out.next (a' := some ⟨pb, po + 128, none⟩) hlt (gb_trans (gb_drew (gb_refl _ _)) hg3) hb3 (fun _ pb' po' e => by cases e; rfl)
        have HN := Lib.hid hN; clear hN hb3 hg3
        go_wp2
        go_roundw
        case rel => exact ⟨k + 1, cap' - 128, some ⟨pb, po + 128, none⟩, q.drop 128, r', by rw [List.length_drop], by omega, HN.out⟩
        case measure => simp [lenOf]; omega
    · obtain ⟨w4, hcp, hg4, hb4⟩ := copy_any B M 0 (l ++ p).length cap' _ r' q a' wr hI.len (by omega) hI.blk hI.part
      have Hfin := Lib.hid (hI.last (by omega) hg4 hb4)
      rw [Nat.min_eq_left (by omega)] at hcp
      simp only [Nat.add_zero, Nat.sub_zero] at hcp
      clear hg4 hb4 hI
      have i1 : ¬ (128 : Int) ≤ (q.length : Int) := by omega
      go_wp2
      go_end0
      exact ⟨rfl, Hfin.out.1, _, Hfin.out.2⟩
end Go.Proofs.YtabdegeaifajfaaGreatDoor
