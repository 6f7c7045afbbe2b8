/- sha's Hash.add: bytes are taken on. -/
import Derived.Test.YtabdegeaifajfaaGreatDoorShaDigest
import Derived.Laws.CopyOwn
namespace Go.Proofs.YtabdegeaifajfaaGreatDoor
open Go.RowKit

/-- a hash's block: words, what waits, how many bytes, itself -/
def hashV (s : Sha.S) (r : List Nat) (n M : Nat) : List Value := wordsV s ++ (r.map u8V ++ [u64V n, .pointer (some ⟨M, 0, none⟩)])
/-- Bytes that a slice has, apart from block B. -/
structure PartAt (w : World) (B : Nat) (a : Option Addr) (cap : Nat) (p : List Nat) : Prop where
  cap : p.length ≤ cap
  byte : ∀ i, p.getD i 0 < 256
  cells : p.length = 0 ∨ ∃ pb po, a = some ⟨pb, po, none⟩ ∧ pb ≠ B ∧ pb < w.heap.size ∧ ∀ i, i < p.length → w.cell? ⟨pb, po + i, none⟩ = some (u8V (p.getD i 0))
theorem PartAt.kept {w w' : World} {B cap : Nat} {a : Option Addr} {p : List Nat} (h : PartAt w B a cap p) (hg : w.grownBy w' (some B)) : PartAt w' B a cap p := by
  refine ⟨h.cap, h.byte, ?_⟩
  rcases h.cells with h0 | ⟨pb, po, ha, hne, hlt, hc⟩
  · exact Or.inl h0
  · exact Or.inr ⟨pb, po, ha, hne, Nat.lt_of_lt_of_le hlt hg.size, fun i hi => by rw [gb_cell hg (p := ⟨pb, po + i, none⟩) hlt (by intro e; cases e; exact hne rfl)]; exact hc i hi⟩
/-- The hash at block B is of this text. -/
structure HashAt (w : World) (B M : Nat) (l : List Nat) (r : List Nat) : Prop where
  len : r.length = 128
  byte : ∀ i, r.getD i 0 < 256
  waits : r.take (l.length % 128) = l.drop (128 * (l.length / 128))
  blk : Blk w B 177 (hashV (Sha.blocks l (l.length / 128)) r l.length M)

theorem SB.blocks (l : List Nat) (n : Nat) : SB (Sha.blocks l n) := by cases n; exact SB.first; exact SB.turn _ _
theorem blocks_append (l p : List Nat) (n : Nat) (h : 128 * n ≤ l.length) : Sha.blocks (l ++ p) n = Sha.blocks l n := by
  induction n with
  | zero => rfl
  | succ n ih =>
    rw [Sha.blocks, Sha.blocks, ih (by omega), List.drop_append_of_le_length (by omega), List.take_append_of_le_length (by rw [List.length_drop]; omega)]

theorem hashV_length (s : Sha.S) (r : List Nat) (n M : Nat) (hr : r.length = 128) : (hashV s r n M).length = 138 := by simp [hashV, wordsV, hr]
theorem hashV_size (s : Sha.S) (r : List Nat) (n M : Nat) (hr : r.length = 128) : (hashV s r n M)[136]? = some (u64V n) := by
  unfold hashV
  rw [List.getElem?_append_right (by simp [wordsV]), List.getElem?_append_right (by simp [hr, wordsV])]
  simp [hr, wordsV]
theorem hashV_made (s : Sha.S) (r : List Nat) (n M : Nat) (hr : r.length = 128) : (hashV s r n M)[137]? = some (.pointer (some ⟨M, 0, none⟩)) := by
  unfold hashV
  rw [List.getElem?_append_right (by simp [wordsV]), List.getElem?_append_right (by simp [hr, wordsV])]
  simp [hr, wordsV]
theorem hashV_rest (s : Sha.S) (r : List Nat) (n M i : Nat) (hr : r.length = 128) (hi : i < 128) : (hashV s r n M)[8 + i]? = some (u8V (r.getD i 0)) := by
  unfold hashV
  rw [List.getElem?_append_right (by simp [wordsV]), List.getElem?_append_left (by simp [hr, wordsV]; omega), List.getElem?_map]
  rw [show 8 + i - (wordsV s).length = i by simp [wordsV], List.getElem?_eq_getElem (by omega)]
  simp [List.getElem?_eq_getElem (show i < r.length by omega)]
theorem hashV_setSize (s : Sha.S) (r : List Nat) (n n' M : Nat) (hr : r.length = 128) : (hashV s r n M).set 136 (u64V n') = hashV s r n' M := by
  unfold hashV
  rw [List.set_append_right _ _ (by simp [wordsV]), List.set_append_right _ _ (by simp [hr, wordsV])]
  simp [hr, wordsV]

/-- what a copy leaves of what waited -/
def laidIn (r q : List Nat) (o : Nat) : List Nat := r.take o ++ (q.take (128 - o) ++ r.drop (o + min q.length (128 - o)))
theorem laidIn_length (r q : List Nat) (o : Nat) (hr : r.length = 128) (ho : o ≤ 128) : (laidIn r q o).length = 128 := by
  simp [laidIn, hr]; omega
theorem laidIn_byte (r q : List Nat) (o : Nat) (hr : ∀ i, r.getD i 0 < 256) (hq : ∀ i, q.getD i 0 < 256) : ∀ i, (laidIn r q o).getD i 0 < 256 := by
  have of : ∀ l : List Nat, (∀ i, l.getD i 0 < 256) → ∀ x ∈ l, x < 256 := fun l h x hx => by
    obtain ⟨i, hi, rfl⟩ := List.mem_iff_getElem.1 hx
    have := h i
    rwa [List.getD_eq_getElem?_getD, List.getElem?_eq_getElem hi] at this
  have all : ∀ x ∈ laidIn r q o, x < 256 := by
    intro x hx
    unfold laidIn at hx
    rcases List.mem_append.1 hx with hx | hx
    · exact of r hr x (List.mem_of_mem_take hx)
    · rcases List.mem_append.1 hx with hx | hx
      · exact of q hq x (List.mem_of_mem_take hx)
      · exact of r hr x (List.mem_of_mem_drop hx)
  intro i
  by_cases h : i < (laidIn r q o).length
  · rw [List.getD_eq_getElem?_getD, List.getElem?_eq_getElem h]; exact all _ (List.getElem_mem h)
  · rw [List.getD_eq_getElem?_getD, List.getElem?_eq_none (by omega)]; decide
theorem copy_any (B M o nn cap : Nat) (s : Sha.S) (r q : List Nat) (a : Option Addr) (w : World) (hr : r.length = 128) (ho : o ≤ 128) (hb : Blk w B 177 (hashV s r nn M)) (hP : PartAt w B a cap q) :
    ∃ w', (Builtin.copy_ #[34, 34] 3 #[.slice (some ⟨B, 8 + o, none⟩) (128 - o) (128 - o), .slice a q.length cap]).run Tryz.prog w = .ok (.int .i64 ((min q.length (128 - o) : Nat) : Int)) w' ∧ w.grownBy w' (some B) ∧
      Blk w' B 177 (hashV s (laidIn r q o) nn M) := by
  by_cases h0 : min q.length (128 - o) = 0
  · refine ⟨w, ?_, gb_refl _ _, ?_⟩
    · rw [run_copy_none (P := Tryz.prog) w 34 34 3 5 _ _ _ _ _ _ Tryz.underlying34 (by kernel_rfl) h0, h0]; rfl
    · have e : laidIn r q o = r := by
        unfold laidIn
        rw [h0]
        have : q.take (128 - o) = [] := by
          apply List.eq_nil_of_length_eq_zero; rw [List.length_take]; omega
        rw [this, List.nil_append, Nat.add_zero, List.take_append_drop]
      rw [e]; exact hb
  · have hq0 : ¬ q.length = 0 := by omega
    obtain ⟨pb, po, rfl, hne, hlt, hc⟩ := hP.cells.resolve_left hq0
    have hlen := hashV_length s r nn M hr
    have e : (hashV s r nn M).take (8 + o) ++ (q.take (128 - o)).map u8V ++ (hashV s r nn M).drop (8 + o + ((q.take (128 - o)).map u8V).length) = hashV s (laidIn r q o) nn M := by
      have hw8 : (wordsV s).length = 8 := rfl
      unfold hashV laidIn
      rw [List.take_append, List.drop_append, hw8, List.take_of_length_le (by rw [hw8]; omega), List.drop_of_length_le (by rw [hw8]; omega)]
      rw [List.take_append_of_le_length (by simp [hr]; omega), List.drop_append_of_le_length (by simp [hr]; omega)]
      simp only [List.map_append, List.append_assoc, List.nil_append, List.map_take, List.map_drop, List.length_take, List.length_map]
      rw [show 8 + o - 8 = o by omega, show 8 + o + min (128 - o) q.length - 8 = o + min q.length (128 - o) by omega]
    have hrun := run_copy_row (P := Tryz.prog) w 34 34 3 5 B (8 + o) (128 - o) (128 - o) ⟨pb, po, none⟩ q.length cap (hashV s r nn M).toArray 177 ((q.take (128 - o)).map u8V) Tryz.underlying34 (by kernel_rfl) hb
      (by show _ = min q.length (128 - o); rw [List.length_map, List.length_take, Nat.min_comm])
      (by
        intro j v hv
        rw [List.getElem?_map] at hv
        have hj : j < (q.take (128 - o)).length := by
          rcases Nat.lt_or_ge j (q.take (128 - o)).length with h | h
          · exact h
          · rw [List.getElem?_eq_none h] at hv; simp at hv
        have hj' := hj
        rw [List.length_take] at hj'
        rw [List.getElem?_take, if_pos (by omega), List.getElem?_eq_getElem (by omega)] at hv
        have hv' : v = u8V (q.getD j 0) := by
          rw [List.getD_eq_getElem?_getD, List.getElem?_eq_getElem (by omega)]; simpa using hv.symm
        subst hv'
        have hadd : (⟨pb, po, none⟩ : Addr).add j = ⟨pb, po + j, none⟩ := by unfold Addr.add; split <;> simp_all
        rw [hadd]; exact hc j (by omega))
      (by rw [List.size_toArray, hlen, List.length_map, List.length_take]; omega)
      (by intro v hv; obtain ⟨x, _, rfl⟩ := List.mem_map.1 hv; rfl)
    have el : ((q.take (128 - o)).map u8V).length = min q.length (128 - o) := by rw [List.length_map, List.length_take, Nat.min_comm]
    simp only at hrun
    rw [e, el] at hrun
    exact ⟨_, hrun, gb_setRow' (gb_refl _ _) _, hb.row _⟩
theorem early_text (l p r : List Nat) {w w2 : World} {B M cap : Nat} {a : Option Addr} (hH : HashAt w B M l r) (hP : PartAt w B a cap p) (hw : 0 < l.length % 128) (hs : l.length % 128 + p.length < 128)
    (hb : Blk w2 B 177 (hashV (Sha.blocks l (l.length / 128)) (laidIn r p (l.length % 128)) (l.length + p.length) M)) : HashAt w2 B M (l ++ p) (laidIn r p (l.length % 128)) := by
  have e1 : (l ++ p).length / 128 = l.length / 128 := by rw [List.length_append]; omega
  have e2 : (l ++ p).length % 128 = l.length % 128 + p.length := by rw [List.length_append]; omega
  refine ⟨laidIn_length _ _ _ hH.len (by omega), laidIn_byte _ _ _ hH.byte hP.byte, ?_, ?_⟩
  · rw [e1, e2, List.drop_append_of_le_length (by omega), ← hH.waits]
    unfold laidIn
    rw [List.take_append, List.take_of_length_le (l := List.take (l.length % 128) r) (by rw [List.length_take]; omega), List.length_take, hH.len, Nat.min_eq_left (by omega)]
    rw [List.take_of_length_le (l := p) (by omega), List.take_append_of_le_length (by omega), show l.length % 128 + p.length - l.length % 128 = p.length by omega, List.take_length]
  · rw [e1, blocks_append _ _ _ (by omega), List.length_append]; exact hb

set_option maxRecDepth 100000 in
set_option maxHeartbeats 1000000 in
theorem add_early (B M : Nat) (l r p : List Nat) (a : Option Addr) (cap : Nat) (w : World) (hH : HashAt w B M l r) (hP : PartAt w B a cap p)
    (hlen : l.length + p.length < 2147483648) (hw : 0 < l.length % 128) (hs : l.length % 128 + p.length < 128) :
    Calls Tryz.prog 124 #[.pointer (some ⟨B, 0, none⟩), .slice a p.length cap] w fun e w' => e = .returned (.tuple #[]) ∧ w.grownBy w' (some B) ∧ ∃ r', HashAt w' B M (l ++ p) r' := by
  have hb := hH.blk
  have kz := hb.cell (hashV_size _ _ _ _ hH.len)
  have fz := hb.free 136
  unfold u64V at kz
  have hb1 := hb.set 136 (u64V (l.length + p.length))
  rw [hashV_setSize _ _ _ _ _ hH.len] at hb1
  have hg1 := gb_set (gb_refl w (some B)) 136 (u64V (l.length + p.length))
  obtain ⟨w2, hcp, hg2, hb2⟩ := copy_any B M (l.length % 128) (l.length + p.length) cap _ r p a _ hH.len (by omega) hb1 (hP.kept hg1)
  have hg3 := gb_trans hg1 hg2
  have Hfin : HashAt w2 B M (l ++ p) (laidIn r p (l.length % 128)) := early_text l p r hH hP hw hs hb2
  rw [Nat.min_eq_left (by omega)] at hcp
  unfold u64V at hcp
  have Hall := Lib.hid (And.intro hg3 Hfin); clear hg3 Hfin hg1 hg2 hb1 hb2 hb hH hP
  generalize hn : l.length = n at *
  obtain ⟨u, hu⟩ : ∃ u : Nat, u = n % 128 := ⟨_, rfl⟩
  have eu : (n : Int) % 128 = (u : Int) := by omega
  rw [← hu] at hw hs hcp
  have u0 : (0 : Int) < (u : Int) := by omega
  have u1 : (u : Int) ≤ 128 := by omega
  have u2 : ¬ 128 = u := by omega
  have ec : ((n + p.length : Nat) : Int) = (n : Int) + (p.length : Int) := by omega
  rw [ec] at hcp
  clear ec
  have HN := Lib.hid hu; clear hn hu
  go_enter Tryz.func124, Tryz.ntmps124
  go_wp2
  exact bodyPost_ret (v := .tuple #[]) (by simp [results, Tryz.results124, go_sem]) rfl ⟨rfl, Hall.out.1, _, Hall.out.2⟩
end Go.Proofs.YtabdegeaifajfaaGreatDoor
