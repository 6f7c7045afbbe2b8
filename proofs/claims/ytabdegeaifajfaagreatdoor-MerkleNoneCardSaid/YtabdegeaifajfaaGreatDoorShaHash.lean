/- sha's New, Copy, Sum, Write. -/
import Derived.Test.YtabdegeaifajfaaGreatDoorShaPad
import Derived.LaidEqlPtr
namespace Go.Proofs.YtabdegeaifajfaaGreatDoor
open Go.RowKit

theorem IsHash.kept {w w' : World} {B M : Nat} {l : List Nat} (h : IsHash w B M l) (hg : w.grownBy w' none) : IsHash w' B M l := let ⟨r, hr⟩ := h; ⟨r, hr.kept hg⟩
theorem IsHash.lt {w : World} {B M : Nat} {l : List Nat} (h : IsHash w B M l) : B < w.heap.size := let ⟨_, hr⟩ := h; hr.blk.lt

theorem info_hash : ∃ j, Tryz.prog.info? 177 = some j := Option.isSome_iff_exists.1 (by kernel_rfl)
theorem eql_same (a : Addr) (w : World) : (binOp .eql 152 (.pointer (some a)) (.pointer (some a))).run Tryz.prog w = .ok (.bool true) w := by
  obtain ⟨j, hj⟩ := info_hash
  exact run_eql_ptr_same w a Tryz.underlying152 hj
theorem eql_none (a : Addr) (w : World) : (binOp .eql 152 (.pointer none) (.pointer (some a))).run Tryz.prog w = .ok (.bool false) w := by
  have h : ∀ d : Nat, (Op.equalIn (d + 1) 152 (.pointer none) (.pointer (some a))).run Tryz.prog w = .ok false w := fun d => by
    simp [Op.equalIn, run_underlying Tryz.underlying152]
  simp only [binOp]
  simp [Op.equal, Op.maxDepth, h 9999]
set_option maxHeartbeats 400000 in
theorem good_yes (B : Nat) (l : List Nat) (w : World) (hH : IsHash w B B l) :
    Calls Tryz.prog 123 #[.pointer (some ⟨B, 0, none⟩)] w fun e w' => e = .returned (.bool true) ∧ w = w' := by
  obtain ⟨r, hr⟩ := hH
  have km := hr.blk.cell (hashV_made _ _ _ _ hr.len)
  clear hr
  have he := fun wx => eql_same ⟨B, 0, none⟩ wx
  go_enter Tryz.func123, Tryz.ntmps123
  go_wp2
  go_ret
  exact ⟨rfl, rfl⟩
set_option maxHeartbeats 400000 in
theorem good_nil (w : World) :
    Calls Tryz.prog 123 #[.pointer none] w fun e w' => e = .returned (.bool false) ∧ w = w' := by
  go_enter Tryz.func123, Tryz.ntmps123
  go_wp2
  go_ret
  exact ⟨rfl, rfl⟩
set_option maxHeartbeats 400000 in
theorem good_zero (B : Nat) (w : World) (km : w.cell? ⟨B, 137, none⟩ = some (.pointer none)) :
    Calls Tryz.prog 123 #[.pointer (some ⟨B, 0, none⟩)] w fun e w' => e = .returned (.bool false) ∧ w = w' := by
  have he := fun wx => eql_none ⟨B, 0, none⟩ wx
  go_enter Tryz.func123, Tryz.ntmps123
  go_wp2
  go_ret
  exact ⟨rfl, rfl⟩

def newV : List Value := wordsV Sha.first ++ ((List.replicate 128 0).map u8V ++ [u64V 0, .pointer none])
theorem range_H0 {w : World} (hT : Tables w) : w.rangeAt 0 0 (wordsV Sha.first) := fun j v hv => by
  have hj : j < 8 := by
    rcases Nat.lt_or_ge j 8 with h | h
    · exact h
    · rw [List.getElem?_eq_none (show (wordsV Sha.first).length ≤ j from h)] at hv; cases hv
  rw [Nat.zero_add]
  have := hT.h j hj
  rw [this]
  obtain rfl | rfl | rfl | rfl | rfl | rfl | rfl | rfl : j = 0 ∨ j = 1 ∨ j = 2 ∨ j = 3 ∨ j = 4 ∨ j = 5 ∨ j = 6 ∨ j = 7 := by omega
  all_goals (rw [← hv]; rfl)

theorem wpList_build_is {P : Program} {w : World} {ops : Array Oper} {rest : List Oper} {o : Oper} {a : Act} {Q : Exit → Act → World → Prop} (hg : o.guard = none) (t : TypeId) (parts : Array (Nat × Operand)) (ho : o.op = .build t parts)
    (c : Array Value) (hf : P.built t (parts.map fun (i, x) => (i, a.eval x)).toList = some c) (h : wpList P ops Q rest (a.put o.dst (.agg c)) w) : wpList P ops Q (o :: rest) a w :=
  wpList_build hg t parts ho (by rw [hf]; rfl) (by rw [hf]; exact h)

set_option maxRecDepth 100000 in
set_option maxHeartbeats 1000000 in
theorem new_any (w : World) (hT : Tables w) :
    Calls Tryz.prog 103 #[] w fun e w' => e = .returned (.pointer (some ⟨w.heap.size, 0, none⟩)) ∧ w.grownBy w' none ∧ IsHash w' w.heap.size w.heap.size [] := by
  have hR := range_H0 hT
  have HR := Lib.hid hR; clear hR hT
  have h137 : newV[137]? = some (.pointer none) := by kernel_rfl
  go_enter Tryz.func103, Tryz.ntmps103
  go_wp2_with (first | (refine wpList_load_mid rfl 174 _ rfl 0 0 rfl (wordsV Sha.first) _ HR.out Tryz.underlying174 rfl (by kernel_rfl) ?_) | (refine wpList_build_is rfl 177 _ rfl newV.toArray (by kernel_rfl) ?_))
  go_ret
  refine ⟨rfl, gb_alloc (gb_refl _ _) _, List.replicate 128 0, by simp, fun i => ?_, rfl, ?_⟩
  · rw [List.getD_eq_getElem?_getD, List.getElem?_replicate]; split <;> decide
  · exact Blk.new w (newV.set 137 (.pointer (some ⟨w.heap.size, 0, none⟩))) 177

def zeroHV : List Value := List.replicate 8 (u64V 0) ++ ((List.replicate 128 0).map u8V ++ [u64V 0, .pointer none])
def zeroHA : Array Value := zeroHV.toArray
theorem z47 (w : World) : (zeroValue 177).run Tryz.prog w = .ok (.agg zeroHA) w := by kernel_rfl
theorem info_size : (Tryz.prog.info? 177).map (·.size) = some 138 := by kernel_rfl
theorem hashV_one (s : Sha.S) (r : List Nat) (n M : Nat) : (hashV s r n M).toArray.all (·.oneCell') = true := by
  rw [Array.all_eq_true_iff_forall_mem]
  intro v hv
  unfold hashV wordsV at hv
  rw [List.mem_toArray, List.mem_append] at hv
  rcases hv with hv | hv
  · simp only [List.mem_cons, List.not_mem_nil, or_false] at hv
    rcases hv with h | h | h | h | h | h | h | h <;> (rw [h]; rfl)
  · rcases List.mem_append.1 hv with hv | hv
    · obtain ⟨x, _, rfl⟩ := List.mem_map.1 hv; rfl
    · simp only [List.mem_cons, List.not_mem_nil, or_false] at hv
      rcases hv with h | h <;> (rw [h]; rfl)
theorem Blk.whole {w : World} {B : Nat} {T : TypeId} {L : List Value} (h : Blk w B T L) : w.rangeAt B 0 L := fun j v hv => by rw [Nat.zero_add]; exact h.cell hv
theorem hashV_setMade (s : Sha.S) (r : List Nat) (n M M' : Nat) (hr : r.length = 128) : (hashV s r n M).set 137 (.pointer (some ⟨M', 0, none⟩)) = hashV s r n M' := by
  unfold hashV
  rw [List.set_append_right _ _ (by simp [wordsV]), List.set_append_right _ _ (by simp [hr, wordsV])]
  simp [hr, wordsV]

theorem whole_mod (l : List Nat) : (Sha.whole l).length % 128 = 0 := by
  unfold Sha.whole; rw [List.length_append, tail_length]; unfold Sha.tailLen; split <;> omega
theorem sum_bytes_length (l : List Nat) : (Sha.sum l).length = 64 := rfl

set_option maxRecDepth 100000 in
set_option maxHeartbeats 1000000 in
theorem sum_hash (B : Nat) (l : List Nat) (w : World) (hT : Tables w) (hlen : l.length < 2147483000) (hH : IsHash w B B l) :
    Calls Tryz.prog 105 #[.pointer (some ⟨B, 0, none⟩)] w fun e w' => ∃ NB, e = .returned (.slice (some ⟨NB, 0, none⟩) 64 64) ∧ w.grownBy w' none ∧ w.heap.size ≤ NB ∧ Blk w' NB 5 ((Sha.sum l).map u8V) := by
  have HH := Lib.hid hH
  obtain ⟨r, hr⟩ := hH
  have hz := z47
  obtain ⟨L, hL⟩ : ∃ L, L = hashV (Sha.blocks l (l.length / 128)) r l.length B := ⟨_, rfl⟩
  have hLl : L.length = 138 := by rw [hL]; exact hashV_length _ _ _ _ hr.len
  have hL1 : L.toArray.all (·.oneCell') = true := by rw [hL]; exact hashV_one _ _ _ _
  have hrow : Blk ((w.alloc (.cells zeroHA 177)).setRow w.heap.size L.toArray) w.heap.size 177 L := (Blk.new w zeroHV 177).row L
  have hb : Blk w B 177 L := by rw [hL]; exact hr.blk
  have hst : IsHash ((w.alloc (.cells zeroHA 177)).setRow w.heap.size L.toArray) w.heap.size B l := ⟨r, hr.len, hr.byte, hr.waits, by rw [← hL]; exact hrow⟩
  have hg : w.grownBy ((w.alloc (.cells zeroHA 177)).setRow w.heap.size L.toArray) none := gb_setRow (gb_alloc (gb_refl _ _) _) (Nat.le_refl _) _
  have hB := hr.blk.lt
  have hT2 := hT.lt
  have HT := Lib.hid (hT.kept hg (by simp)); clear hT
  have HA := Lib.hid (And.intro hb (And.intro hLl (And.intro hL1 (And.intro hst hg)))); clear hb hLl hL1 hst hg hL hrow hr
  go_enter Tryz.func105, Tryz.ntmps105
  go_wp2_with fail
  refine (good_yes B l w HH.out).mono ?_
  rintro e w1 ⟨rfl, rfl⟩
  go_wp2_with (first | (refine wpList_load_mid rfl 177 _ rfl B 0 rfl L _ HA.out.1.whole Tryz.underlying177 rfl (by rw [HA.out.2.1]; exact info_size) ?_) | (refine wpList_store_row rfl 177 _ _ rfl w.heap.size L.toArray rfl rfl 177 zeroHV.toArray (Blk.new w zeroHV 177) (by rw [List.size_toArray, HA.out.2.1]; exact info_size) (by rw [List.size_toArray, List.size_toArray, HA.out.2.1]; rfl) HA.out.2.2.1 ?_))
  refine (pad_any w.heap.size B l _ HT.out HA.out.2.2.2.1 (by omega) hlen).mono ?_
  rintro e w2 ⟨rfl, hg2, hH2⟩
  obtain ⟨r2, hr2⟩ := hH2
  have hg3 := gb_then HA.out.2.2.2.2 hg2 (Nat.le_refl _)
  have H2 := Lib.hid (And.intro hg3 hr2); clear hg2 hg3 hr2
  go_wp2_with fail
  refine (digest_any w.heap.size _ (Sha.blocks (Sha.whole l) ((Sha.whole l).length / 128)) _ w2 (SB.blocks _ _) H2.out.2.blk).mono ?_
  rintro e w3 ⟨NB, rfl, hg4, hNB, hb4⟩
  have hg5 := gb_trans H2.out.1 hg4
  have H4 := Lib.hid (And.intro hg5 (And.intro (Nat.le_trans H2.out.1.size hNB) hb4)); clear hg4 hg5 hNB hb4
  go_wp2
  go_ret
  exact ⟨NB, rfl, H4.out.1, H4.out.2.1, H4.out.2.2⟩

/-- a slice of bytes among parts -/
structure Part where
  a : Option Addr
  cap : Nat
  l : List Nat
def Part.v (p : Part) : Value := .slice p.a p.l.length p.cap
/-- parts in memory, apart from block B -/
structure PartsAt (w : World) (B : Nat) (a : Option Addr) (cap : Nat) (ps : List Part) : Prop where
  cap : ps.length ≤ cap
  parts : ∀ p ∈ ps, PartAt w B p.a p.cap p.l ∧ p.cap < 9223372036854775808
  cells : ps.length = 0 ∨ ∃ pb po, a = some ⟨pb, po, none⟩ ∧ pb ≠ B ∧ pb < w.heap.size ∧ ∀ i (h : i < ps.length), w.cell? ⟨pb, po + i, none⟩ = some ps[i].v
def joined (ps : List Part) : List Nat := ps.flatMap Part.l
theorem PartsAt.kept {w w' : World} {B cap : Nat} {a : Option Addr} {ps : List Part} (h : PartsAt w B a cap ps) (hg : w.grownBy w' (some B)) : PartsAt w' B a cap ps := by
  refine ⟨h.cap, fun p hp => ⟨(h.parts p hp).1.kept hg, (h.parts p hp).2⟩, ?_⟩
  rcases h.cells with h0 | ⟨pb, po, ha, hne, hlt, hc⟩
  · exact Or.inl h0
  · exact Or.inr ⟨pb, po, ha, hne, Nat.lt_of_lt_of_le hlt hg.size, fun i hi => by rw [gb_cell hg (p := ⟨pb, po + i, none⟩) hlt (by intro e; cases e; exact hne rfl)]; exact hc i hi⟩
theorem joined_take (ps : List Part) (k : Nat) (hk : k < ps.length) : joined (ps.take (k + 1)) = joined (ps.take k) ++ ps[k].l := by
  unfold joined
  rw [List.take_succ_eq_append_getElem hk, List.flatMap_append]; simp
theorem joined_le (ps : List Part) (k : Nat) : (joined (ps.take k)).length ≤ (joined ps).length := by
  unfold joined
  conv => rhs; rw [← List.take_append_drop k ps]
  rw [List.flatMap_append, List.length_append]; omega

set_option maxRecDepth 100000 in
set_option maxHeartbeats 1000000 in
theorem write_any (B m cap : Nat) (l : List Nat) (ps : List Part) (a : Option Addr) (w : World) (hm : ps.length = m) (hT : Tables w) (hB2 : 0 + 3 + 1 ≤ B) (hH : IsHash w B B l) (hP : PartsAt w B a cap ps) (hcap : cap < 9223372036854775808)
    (hlen : l.length + (joined ps).length < 2147483648) :
    Calls Tryz.prog 104 #[.pointer (some ⟨B, 0, none⟩), .slice a m cap] w fun e w' => e = .returned (.int .i64 0) ∧ w.grownBy w' (some B) ∧ IsHash w' B B (l ++ joined ps) := by
  have HH := Lib.hid hH; clear hH
  have HT := Lib.hid hT; clear hT
  have hpc := hP.cap
  have HP := Lib.hid hP; clear hP
  subst hm
  go_enter Tryz.func104, Tryz.ntmps104
  go_wp2_with fail
  refine (good_yes B l w HH.out).mono ?_
  rintro e w1 ⟨rfl, rfl⟩
  go_wp2_with fail
  go_loopw [12] (fun i wr => ∃ k : Nat, k ≤ ps.length ∧ i = .int .i64 k ∧ w.grownBy wr (some B) ∧ IsHash wr B B (l ++ joined (ps.take k))) (fun i _ => ps.length - (intOf i).toNat)
  case atStart => exact ⟨0, by omega, rfl, gb_refl _ _, by simpa [joined] using HH.out⟩
  case round =>
    obtain ⟨k, hk, rfl, hg, hI⟩ := hrel
    by_cases hlt : k < ps.length
    · obtain ⟨pb, po, rfl, hne, hlt2, hc⟩ := (HP.out.kept hg).cells.resolve_left (by omega)
      have hck := hc k hlt
      unfold Part.v at hck
      have hpp := (HP.out.kept hg).parts ps[k] (List.getElem_mem hlt)
      have hjt := joined_take ps k hlt
      have hjl := joined_le ps (k + 1)
      rw [hjt, List.length_append] at hjl
      have HJ := Lib.hid hjt; clear hjt hc
      have i0 : (k : Int) < (ps.length : Int) := by omega
      generalize ps[k] = p at *
      obtain ⟨pa, pc, pl⟩ := p
      have HG := Lib.hid (And.intro hg (And.intro hI hpp)); clear hg hI hpp
      go_wp2_with fail
      refine (shaAdd_any B B pl.length (l ++ joined (ps.take k)) pl pa pc wr rfl (HT.out.kept HG.out.1 (fun b e => by cases e; exact hB2)) HG.out.2.1 HG.out.2.2.1 hB2 (by rw [List.length_append]; omega) HG.out.2.2.2).mono ?_
      rintro e w2 ⟨rfl, hg2, hI2⟩
      rw [List.append_assoc, ← HJ.out] at hI2
      have H2 := Lib.hid (And.intro (gb_trans HG.out.1 hg2) hI2); clear hg2 hI2
      go_wp2
      go_roundw
      case rel => exact ⟨k + 1, by omega, by go_num, H2.out.1, H2.out.2⟩
      case measure => simp [intOf]; omega
    · obtain rfl : k = ps.length := by omega
      rw [List.take_length] at hI
      clear hlt
      go_wp2
      go_ret
      exact ⟨rfl, hg, hI⟩

theorem PartsAt.grown {w w' : World} {B B' cap : Nat} {a : Option Addr} {ps : List Part} (h : PartsAt w B a cap ps) (hg : w.grownBy w' none) (hB : w.heap.size ≤ B') : PartsAt w' B' a cap ps := by
  refine ⟨h.cap, fun p hp => ⟨?_, (h.parts p hp).2⟩, ?_⟩
  · have h1 := (h.parts p hp).1
    refine ⟨h1.cap, h1.byte, ?_⟩
    rcases h1.cells with h0 | ⟨pb, po, ha, _, hlt, hc⟩
    · exact Or.inl h0
    · exact Or.inr ⟨pb, po, ha, by omega, Nat.lt_of_lt_of_le hlt hg.size, fun i hi => by rw [gb_cell hg (p := ⟨pb, po + i, none⟩) hlt (by simp)]; exact hc i hi⟩
  · rcases h.cells with h0 | ⟨pb, po, ha, _, hlt, hc⟩
    · exact Or.inl h0
    · exact Or.inr ⟨pb, po, ha, by omega, Nat.lt_of_lt_of_le hlt hg.size, fun i hi => by rw [gb_cell hg (p := ⟨pb, po + i, none⟩) hlt (by simp)]; exact hc i hi⟩

set_option maxRecDepth 100000 in
set_option maxHeartbeats 1000000 in
/-- sha.Sum: the digest of the parts, one behind the other -/
theorem sum_any (m cap B : Nat) (ps : List Part) (a : Option Addr) (w : World) (hm : ps.length = m) (hT : Tables w) (hP : PartsAt w B a cap ps) (hcap : cap < 9223372036854775808) (hlen : (joined ps).length < 2147483000) :
    Calls Tryz.prog 71 #[.slice a m cap] w fun e w' => ∃ NB, e = .returned (.slice (some ⟨NB, 0, none⟩) 64 64) ∧ w.grownBy w' none ∧ w.heap.size ≤ NB ∧ Blk w' NB 5 ((Sha.sum (joined ps)).map u8V) := by
  have hl := hT.lt
  have HT := Lib.hid hT; clear hT
  have HP := Lib.hid hP; clear hP
  go_enter Tryz.func71, Tryz.ntmps71
  go_wp2_with fail
  refine (new_any w HT.out).mono ?_
  rintro e w1 ⟨rfl, hg1, hH1⟩
  have H1 := Lib.hid (And.intro hg1 hH1); clear hg1 hH1
  go_wp2_with fail
  refine (write_any w.heap.size m cap [] ps a w1 hm (HT.out.kept H1.out.1 (by simp)) (by omega) H1.out.2 (HP.out.grown H1.out.1 (Nat.le_refl _)) hcap (by simp only [List.length_nil]; omega)).mono ?_
  rintro e w2 ⟨rfl, hg2, hH2⟩
  have hg3 := gb_then H1.out.1 hg2 (Nat.le_refl _)
  rw [List.nil_append] at hH2
  have H2 := Lib.hid (And.intro hg3 hH2); clear hg2 hg3 hH2
  go_wp2_with fail
  refine (sum_hash w.heap.size (joined ps) w2 (HT.out.kept H2.out.1 (by simp)) hlen H2.out.2).mono ?_
  rintro e w3 ⟨NB, rfl, hg4, hNB, hb4⟩
  have H4 := Lib.hid (And.intro (gb_trans H2.out.1 hg4) (And.intro (Nat.le_trans H2.out.1.size hNB) hb4)); clear hg4 hNB hb4
  go_wp2
  go_ret
  exact ⟨NB, rfl, H4.out.1, H4.out.2.1, H4.out.2.2⟩
end Go.Proofs.YtabdegeaifajfaaGreatDoor
