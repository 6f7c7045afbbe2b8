/- scalar: Reduce, Right, MulAdd: what the package tells. -/
import Derived.Test.YtffjkabgaiijdaaDoorScModulo
import Derived.Test.YtffjkabgaiijdaaDoorScBytes
import Derived.Test.YtffjkabgaiijdaaDoorScMul
import Derived.Test.YtffjkabgaiijdaaDoorScIs
namespace Go.Proofs.YtffjkabgaiijdaaDoor
open Go.RowKit Ow

theorem own_blk {w : World} {base e n g : Nat} {xs : List Value} (h : w.ownsRow base e 1 (.slice (some ⟨g, 0, none⟩) n n) n xs) : Blk w g e xs ∧ base ≤ g := by
  rcases h.2 with ⟨h0, _⟩ | ⟨g', cap, cur, e1, hb, hg, _, _, hs, ht⟩
  · cases h0
  · cases e1
    refine ⟨?_, hb⟩
    have : cur.toList = xs := by rw [← ht, List.take_of_length_le]; rw [Array.length_toList]; omega
    unfold Blk
    rw [hg, ← this, Array.toArray_toList]
/-- bytes that lie in a new block, as a slice -/
def OutB (l : List Nat) (w : World) (e : Ending) (w' : World) : Prop := ∃ g, e = .returned (.slice (some ⟨g, 0, none⟩) l.length l.length) ∧ w.grownBy w' none ∧ w.heap.size ≤ g ∧ Blk w' g 5 (l.map u8N)
/-- the scalar of a number -/
def scB (n : Nat) : List Nat := bytesN (n % Sc.L) 32
theorem scB_length (n : Nat) : (scB n).length = 32 := bytesN_length _ _
theorem scB_lt (n i : Nat) : (scB n).getD i 0 < 256 := bytesN_lt _ _ _
theorem scB_num (n : Nat) : num (scB n) = n % Sc.L := by
  unfold scB
  rw [num_bytesN]
  exact Nat.mod_eq_of_lt (Sc.lt256 _ (Sc.mod_lt n))
theorem num_lt (l : List Nat) (hl : ∀ i, l.getD i 0 < 256) : num l < 2 ^ (8 * l.length) := Sc.leN_lt _ hl _
theorem div_top (n j k : Nat) (h : n < 2 ^ j) (hk : j ≤ k) : n / 2 ^ k = 0 := Nat.div_eq_of_lt (Nat.lt_of_lt_of_le h (Nat.pow_le_pow_right (by decide) hk))
theorem num_top (l : List Nat) (hl : ∀ i, l.getD i 0 < 256) (h : l.length ≤ 64) : num l / 2 ^ (64 * 8) = 0 := by
  have h2 := div_top (num l) (8 * l.length) (64 * 8) (num_lt l hl) (by omega)
  exact h2
theorem num_256 (l : List Nat) (hl : ∀ i, l.getD i 0 < 256) (h : l.length ≤ 32) : num l < 2 ^ 256 :=
  Nat.lt_of_lt_of_le (num_lt l hl) (Nat.pow_le_pow_right (by decide) (by omega))
def zeros12 : List Value := [.int .u64 0, .int .u64 0, .int .u64 0, .int .u64 0, .int .u64 0, .int .u64 0, .int .u64 0, .int .u64 0, .int .u64 0, .int .u64 0, .int .u64 0, .int .u64 0]
theorem out_of {n : Nat} {w w1 w2 : World} {g : Nat} (hg : w.grownBy w1 none) (hg2 : w1.grownBy w2 none) (ho : w2.ownsRow w1.heap.size 5 1 (.slice (some ⟨g, 0, none⟩) 32 32) 32 ((bytesN n 32).map u8N)) :
    ∀ m, n = m % Sc.L → OutB (scB m) w (.returned (.slice (some ⟨g, 0, none⟩) 32 32)) w2 := by
  rintro m rfl
  obtain ⟨hb, hge⟩ := own_blk ho
  exact ⟨g, by rw [scB_length], gb_trans hg hg2, Nat.le_trans hg.size hge, hb⟩
set_option maxRecDepth 100000 in
set_option maxHeartbeats 1600000 in
theorem reduce_any (len cap B : Nat) (a : Option Addr) (l : List Nat) (w : World) (hl : l.length = len) (hm : len ≤ 64) (hP : BytesAt w B a cap l) (hT : OTab w) :
    Calls Tryd.prog 11 #[.slice a len cap] w (OutB (scB (num l)) w) := by
  have hN := num_top l hP.byte (by omega)
  have hB := hP.lim
  have HP := Lib.hid hP; clear hP
  have HT := Lib.hid hT; clear hT
  have HL := Lib.hid hl; clear hl
  have hb := Blk.new w zeros12 78
  have hg := gb_alloc (gb_refl w none) (.cells zeros12.toArray 78)
  have hO : 4 < w.heap.size := HT.out.lt
  have hb0 : Blk (w.alloc (.cells zeros12.toArray 78)) w.heap.size 78 ([.int .u64 0, .int .u64 0, .int .u64 0, .int .u64 0, .int .u64 0, .int .u64 0, .int .u64 0, .int .u64 0] ++ [.int .u64 0, .int .u64 0, .int .u64 0, .int .u64 0]) := hb
  have HB := Lib.hid hb0; clear hb hb0
  have HG := Lib.hid hg; clear hg
  have h64 : ¬ 64 < len := by omega
  go_enter Tryd.func11, Tryd.ntmps11
  go_wp2_with fail
  refine (load_any w.heap.size len cap B _ _ _ a l _ HL.out hm rfl (HP.out.stay HG.out) hB HB.out).mono ?_
  rintro e w1 ⟨rfl, hg1, hb1⟩
  have HG1 := Lib.hid (gb_then HG.out hg1 (Nat.le_refl _)); clear hg1
  have HB1 := Lib.hid hb1; clear hb1
  go_wp2_with fail
  refine (modulo_any w.heap.size (num l) _ _ _ _ _ w1 hN (HT.out.kept HG1.out (fun r e => by cases e)) hO HB1.out).mono ?_
  rintro e w2 ⟨rfl, hg2, _⟩
  have HG2 := Lib.hid (gb_then HG1.out hg2 (Nat.le_refl _)); clear hg2
  go_wp2_with fail
  refine (nbytes_any (num l % Sc.L) w2).mono ?_
  rintro e w3 ⟨g, rfl, hg3, ho3⟩
  have HO := Lib.hid (And.intro hg3 ho3); clear hg3 ho3
  go_wp2
  go_ret
  exact out_of HG2.out HO.out.1 HO.out.2 _ rfl
set_option maxRecDepth 100000 in
set_option maxHeartbeats 1600000 in
theorem right_any (cap B : Nat) (a : Option Addr) (l : List Nat) (w : World) (hl : l.length = 32) (hP : BytesAt w B a cap l) (hT : OTab w) :
    Calls Tryd.prog 15 #[.slice a 32 cap] w fun e w' => e = .returned (.bool (decide (num l < Sc.L))) ∧ w.grownBy w' none := by
  have hN := num_top l hP.byte (by omega)
  have h256 := num_256 l hP.byte (by omega)
  have hB := hP.lim
  have HP := Lib.hid hP; clear hP
  have HT := Lib.hid hT; clear hT
  have HL := Lib.hid hl; clear hl
  have hb := Blk.new w zeros12 78
  have hg := gb_alloc (gb_refl w none) (.cells zeros12.toArray 78)
  have hO : 4 < w.heap.size := HT.out.lt
  have hb0 : Blk (w.alloc (.cells zeros12.toArray 78)) w.heap.size 78 ([.int .u64 0, .int .u64 0, .int .u64 0, .int .u64 0, .int .u64 0, .int .u64 0, .int .u64 0, .int .u64 0] ++ [.int .u64 0, .int .u64 0, .int .u64 0, .int .u64 0]) := hb
  have HB := Lib.hid hb0; clear hb hb0
  have HG := Lib.hid hg; clear hg
  have HN := Lib.hid hN; clear hN
  have H256 := Lib.hid h256; clear h256
  go_enter Tryd.func15, Tryd.ntmps15
  go_wp2_with fail
  refine (load_any w.heap.size 32 cap B _ _ _ a l _ HL.out (by omega) rfl (HP.out.stay HG.out) hB HB.out).mono ?_
  rintro e w1 ⟨rfl, hg1, hb1⟩
  have HG1 := Lib.hid (gb_then HG.out hg1 (Nat.le_refl _)); clear hg1
  have HB1 := Lib.hid hb1; clear hb1
  go_wp2_with fail
  refine (modulo_any w.heap.size (num l) _ _ _ _ _ w1 HN.out (HT.out.kept HG1.out (fun r e => by cases e)) hO HB1.out).mono ?_
  rintro e w2 ⟨rfl, hg2, hb2⟩
  have HG2 := Lib.hid (gb_then HG1.out hg2 (Nat.le_refl _)); clear hg2
  have HB2 := Lib.hid hb2; clear hb2
  go_wp2_with fail
  refine (is_any w.heap.size (num l) (num l % Sc.L) _ _ w2 H256.out (Sc.lt256 _ (Sc.mod_lt _)) HB2.out).mono ?_
  rintro e w3 ⟨rfl, hg3⟩
  have HG3 := Lib.hid (gb_trans HG2.out hg3); clear hg3
  go_wp2
  go_ret
  refine ⟨?_, HG3.out⟩
  have e : decide (num l = num l % Sc.L) = decide (num l < Sc.L) := by
    rw [Bool.eq_iff_iff, decide_eq_true_iff, decide_eq_true_iff]
    constructor
    · intro h; rw [h]; exact Sc.mod_lt _
    · intro h; rw [Nat.mod_eq_of_lt h]
  rw [← e]; rfl
theorem mul_top (x y z : Nat) (hx : x < 2 ^ 256) (hy : y < 2 ^ 256) (hz : z < 2 ^ 256) : (x * y + z) / 2 ^ (64 * 8) = 0 := by
  have h := Sc.part_lt x y z 4 hy hz
  rw [Sc.part_end x y z hx] at h
  have h2 := div_top (x * y + z) (64 * (4 + 4)) (64 * 8) h (Nat.le_refl _)
  exact h2
set_option maxRecDepth 100000 in
set_option maxHeartbeats 1600000 in
theorem mulAddB_any (ca cb cc Ba Bb Bc : Nat) (a b c : Option Addr) (x y z : List Nat) (w : World) (hx : x.length = 32) (hy : y.length = 32) (hz : z.length = 32) (hA : BytesAt w Ba a ca x) (hB : BytesAt w Bb b cb y) (hC : BytesAt w Bc c cc z) (hT : OTab w) :
    Calls Tryd.prog 14 #[.slice a 32 ca, .slice b 32 cb, .slice c 32 cc] w (OutB (scB (num x * num y + num z)) w) := by
  have hx2 := num_256 x hA.byte (by omega)
  have hy2 := num_256 y hB.byte (by omega)
  have hz2 := num_256 z hC.byte (by omega)
  have hN := mul_top _ _ _ hx2 hy2 hz2
  have HP := Lib.hid (And.intro (And.intro hx hA) (And.intro (And.intro hy hB) (And.intro hz hC))); clear hA hB hC hx hy hz
  have HN := Lib.hid (And.intro hN (And.intro hx2 (And.intro hy2 hz2))); clear hN hx2 hy2 hz2
  have hO : 4 < w.heap.size := hT.lt
  have HT := Lib.hid hT; clear hT
  go_enter Tryd.func14, Tryd.ntmps14
  have hb := Blk.new w zeros12 78
  have hg := gb_alloc (gb_refl w none) (.cells zeros12.toArray 78)
  have hb0 : Blk (w.alloc (.cells zeros12.toArray 78)) w.heap.size 78 ([.int .u64 0, .int .u64 0, .int .u64 0, .int .u64 0, .int .u64 0, .int .u64 0, .int .u64 0, .int .u64 0] ++ [.int .u64 0, .int .u64 0, .int .u64 0, .int .u64 0]) := hb
  have HB := Lib.hid hb0; clear hb hb0
  have HG := Lib.hid hg; clear hg
  go_wp2_with fail
  refine (narrowOf_any 32 ca Ba a x _ HP.out.1.1 (by omega) (HP.out.1.2.stay HG.out)).mono ?_
  rintro e w1 ⟨rfl, hg1⟩
  have HG1 := Lib.hid (gb_trans HG.out hg1)
  have HB1 := Lib.hid (HB.out.grown hg1 (by simp)); clear hg1
  go_wp2_with fail
  refine (narrowOf_any 32 cb Bb b y w1 HP.out.2.1.1 (by omega) (HP.out.2.1.2.stay HG1.out)).mono ?_
  rintro e w2 ⟨rfl, hg2⟩
  have HG2 := Lib.hid (gb_trans HG1.out hg2)
  have HB2 := Lib.hid (HB1.out.grown hg2 (by simp)); clear hg2
  go_wp2_with fail
  refine (narrowOf_any 32 cc Bc c z w2 HP.out.2.2.1 (by omega) (HP.out.2.2.2.stay HG2.out)).mono ?_
  rintro e w3 ⟨rfl, hg3⟩
  have HG3 := Lib.hid (gb_trans HG2.out hg3)
  have HB3 := Lib.hid (HB2.out.grown hg3 (by simp)); clear hg3
  go_wp2_with fail
  refine (mulAdd_any w.heap.size (num x) (num y) (num z) _ _ _ w3 rfl HN.out.2.1 HN.out.2.2.1 HN.out.2.2.2 HB3.out).mono ?_
  rintro e w4 ⟨rfl, hg4, hb4⟩
  have HG4 := Lib.hid (gb_then HG3.out hg4 (Nat.le_refl _)); clear hg4
  have HB4 := Lib.hid hb4; clear hb4
  go_wp2_with fail
  refine (modulo_any w.heap.size (num x * num y + num z) _ _ _ _ _ w4 HN.out.1 (HT.out.kept HG4.out (fun r e => by cases e)) hO HB4.out).mono ?_
  rintro e w5 ⟨rfl, hg5, _⟩
  have HG5 := Lib.hid (gb_then HG4.out hg5 (Nat.le_refl _)); clear hg5
  go_wp2_with fail
  refine (nbytes_any ((num x * num y + num z) % Sc.L) w5).mono ?_
  rintro e w6 ⟨g, rfl, hg6, ho6⟩
  have HO := Lib.hid (And.intro hg6 ho6); clear hg6 ho6
  go_wp2
  go_ret
  exact out_of HG5.out HO.out.1 HO.out.2 _ rfl
end Go.Proofs.YtffjkabgaiijdaaDoor
