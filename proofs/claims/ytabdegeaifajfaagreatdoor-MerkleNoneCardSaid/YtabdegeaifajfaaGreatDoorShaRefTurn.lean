/- The document's own answer: a block turns eight words. -/
import Derived.Test.YtabdegeaifajfaaGreatDoorShaRef
import Derived.Test.YtabdegeaifajfaaGreatDoorShaHorner
namespace Go.Proofs.YtabdegeaifajfaaGreatDoor
open Go.RowKit

/-- a slice of words in memory -/
def WordsAt (w : World) (g o : Nat) (l : List Nat) : Prop := g < w.heap.size ∧ ∀ i, i < l.length → w.cell? ⟨g, o + i, none⟩ = some (u64V (l.getD i 0))
theorem WordsAt.kept {w w' : World} {g o : Nat} {l : List Nat} (h : WordsAt w g o l) (hg : w.grownBy w' none) : WordsAt w' g o l :=
  ⟨Nat.lt_of_lt_of_le h.1 hg.size, fun i hi => by rw [gb_cell hg (p := ⟨g, o + i, none⟩) h.1 (by simp)]; exact h.2 i hi⟩
theorem ss1_is (x : Int) (h0 : 0 ≤ x) (h1 : x < 18446744073709551616) : bits .xor .u64 (bits .xor .u64 (rrI x 19) (rrI x 61)) (x / 64) = ss1I x := by
  have hf := xor3 (Sha.rr x.toNat 19) (Sha.rr x.toNat 61) (x.toNat >>> 6) (rr_lt _ _ (by omega)) (rr_lt _ _ (by omega)) (shr_lt64 _ (by omega))
  have hs := shrI x 6 h0
  refine Eq.trans ?_ hf
  rw [← hs]; rfl
theorem ss0_is (x : Int) (h0 : 0 ≤ x) (h1 : x < 18446744073709551616) : bits .xor .u64 (bits .xor .u64 (rrI x 1) (rrI x 8)) (x / 128) = ss0I x := by
  have hf := xor3 (Sha.rr x.toNat 1) (Sha.rr x.toNat 8) (x.toNat >>> 7) (rr_lt _ _ (by omega)) (rr_lt _ _ (by omega)) (shr_lt64 _ (by omega))
  have hs := shrI x 7 h0
  refine Eq.trans ?_ hf
  rw [← hs]; rfl
theorem row_next (l : List Nat) (k : Nat) : (Sha.row l (k + 1)).map u64V = (Sha.row l k).map u64V ++ [u64V (if k < 16 then Sha.wordAt l (8 * k) else Sha.more (Sha.row l k) k)] := by
  rw [Sha.row, List.map_append]; rfl
theorem rowV_get (l : List Nat) (k i : Nat) (h : i < k) : ((Sha.row l k).map u64V)[i]? = some (u64V ((Sha.row l k).getD i 0)) := by
  have hr := row_length l k
  rw [List.getElem?_map, List.getElem?_eq_getElem (by omega)]
  simp [List.getElem?_eq_getElem (show i < (Sha.row l k).length by omega)]

/-- a copy of eight words, in a row of one's own -/
theorem copy_words (w wr : World) (hb ho hc : Nat) (s : Sha.S) (hg : w.grownBy wr none) (hH : WordsAt w hb ho s.list) :
    ∃ v' w', (Builtin.append_ #[81, 81] 81 #[.slice (some ⟨wr.heap.size, 0, none⟩) 0 0, .slice (some ⟨hb, ho, none⟩) 8 hc]).run Tryz.prog (wr.alloc (.cells #[] 118)) = .ok v' w' ∧ w'.ownsRow wr.heap.size 118 1 v' 8 (wordsV s) ∧ wr.grownBy w' none := by
  have hg2 := gb_alloc hg (.cells #[] 118)
  have hk := hH.kept hg2
  have ho0 : (wr.alloc (.cells #[] 118)).ownsRow wr.heap.size 118 1 (.slice (some ⟨wr.heap.size, 0, none⟩) 0 0) 0 [] := World.ownsRow_lit wr #[] 0 (Nat.le_refl _) (by unfold maxLen; omega) rfl
  obtain ⟨v', w', hr, how, hgr⟩ := append_u64 _ wr.heap.size 0 8 hc _ [] (wordsV s) ⟨hb, ho, none⟩ ho0 rfl (fun j u hu => by
    have hj : j < 8 := by
      rcases Nat.lt_or_ge j 8 with h | h
      · exact h
      · rw [List.getElem?_eq_none (show (wordsV s).length ≤ j from h)] at hu; cases hu
    have hadd : (⟨hb, ho, none⟩ : Addr).add j = ⟨hb, ho + j, none⟩ := by unfold Addr.add; split <;> simp_all
    rw [hadd, hk.2 j hj, ← hu]
    obtain rfl | rfl | rfl | rfl | rfl | rfl | rfl | rfl : j = 0 ∨ j = 1 ∨ j = 2 ∨ j = 3 ∨ j = 4 ∨ j = 5 ∨ j = 6 ∨ j = 7 := by omega
    all_goals rfl) (fun u hu => by
      unfold wordsV at hu
      simp only [List.mem_cons, List.not_mem_nil, or_false] at hu
      rcases hu with h | h | h | h | h | h | h | h <;> (rw [h]; rfl)) (by decide) (by simp)
  exact ⟨v', w', hr, how, gb_own (gb_alloc (gb_refl wr none) _) ho0 (Nat.le_refl _) hgr⟩
/-- eight words in a block of one's own (perhaps with spare places behind them) -/
structure V8 (w wr : World) (g : Nat) (r : Sha.S) : Prop where
  new : w.heap.size ≤ g
  blk : ∃ E, Blk wr g 118 (wordsV r ++ E)
theorem own_blk {w : World} {base e n g c : Nat} {xs : List Value} (h : w.ownsRow base e 1 (.slice (some ⟨g, 0, none⟩) n c) n xs) : ∃ E, Blk w g e (xs ++ E) := by
  rcases h.2 with ⟨h', _⟩ | ⟨g', cap', cur, h', _, hg, _, _, _, htake⟩
  · simp at h'
  · simp only [Value.slice.injEq, Option.some.injEq, Addr.mk.injEq, and_true, true_and] at h'
    obtain ⟨rfl, _⟩ := h'
    rw [Nat.mul_one] at htake
    refine ⟨cur.toList.drop n, ?_⟩
    rw [← htake, List.take_append_drop]
    exact hg
structure RFacts (w : World) (g kb ko g7 k : Nat) (r : Sha.S) (kk ww : Nat) : Prop where
  c0 : w.cell? ⟨g, 0, none⟩ = some (.int .u64 (r.a : Int))
  c1 : w.cell? ⟨g, 1, none⟩ = some (.int .u64 (r.b : Int))
  c2 : w.cell? ⟨g, 2, none⟩ = some (.int .u64 (r.c : Int))
  c3 : w.cell? ⟨g, 3, none⟩ = some (.int .u64 (r.d : Int))
  c4 : w.cell? ⟨g, 4, none⟩ = some (.int .u64 (r.e : Int))
  c5 : w.cell? ⟨g, 5, none⟩ = some (.int .u64 (r.f : Int))
  c6 : w.cell? ⟨g, 6, none⟩ = some (.int .u64 (r.g : Int))
  c7 : w.cell? ⟨g, 7, none⟩ = some (.int .u64 (r.h : Int))
  kK : w.cell? ⟨kb, ko + k, none⟩ = some (.int .u64 (kk : Int))
  kW : w.cell? ⟨g7, k, none⟩ = some (.int .u64 (ww : Int))
theorem RFacts.drewN {w : World} {g kb ko g7 k : Nat} {r : Sha.S} {kk ww : Nat} (h : RFacts w g kb ko g7 k r kk ww) (n : Nat) : RFacts (w.drewN n) g kb ko g7 k r kk ww := ⟨h.c0, h.c1, h.c2, h.c3, h.c4, h.c5, h.c6, h.c7, h.kK, h.kW⟩
theorem bs1_is (x : Int) (h0 : 0 ≤ x) (h1 : x < 18446744073709551616) : bits .xor .u64 (bits .xor .u64 (rrI x 14) (rrI x 18)) (rrI x 41) = bs1I x :=
  xor3 (Sha.rr x.toNat 14) (Sha.rr x.toNat 18) (Sha.rr x.toNat 41) (rr_lt _ _ (by omega)) (rr_lt _ _ (by omega)) (rr_lt _ _ (by omega))
theorem bs0_is (x : Int) (h0 : 0 ≤ x) (h1 : x < 18446744073709551616) : bits .xor .u64 (bits .xor .u64 (rrI x 28) (rrI x 34)) (rrI x 39) = bs0I x :=
  xor3 (Sha.rr x.toNat 28) (Sha.rr x.toNat 34) (Sha.rr x.toNat 39) (rr_lt _ _ (by omega)) (rr_lt _ _ (by omega)) (rr_lt _ _ (by omega))
/-- the first j words are summed up -/
def plusV (s r : Sha.S) (j : Nat) : List Value := ((Sha.plus s r).list.take j ++ r.list.drop j).map u64V
theorem plusV_zero (s r : Sha.S) : plusV s r 0 = wordsV r := rfl
theorem plusV_all (s r : Sha.S) : plusV s r 8 = wordsV (Sha.plus s r) := rfl
theorem plusV_get (s r : Sha.S) (j : Nat) (E : List Value) (hj : j < 8) : (plusV s r j ++ E)[j]? = some (u64V (r.list.getD j 0)) := by
  obtain rfl | rfl | rfl | rfl | rfl | rfl | rfl | rfl : j = 0 ∨ j = 1 ∨ j = 2 ∨ j = 3 ∨ j = 4 ∨ j = 5 ∨ j = 6 ∨ j = 7 := by omega
  all_goals rfl
theorem plusV_set (s r : Sha.S) (j : Nat) (E : List Value) (hj : j < 8) : (plusV s r j ++ E).set j (u64V ((r.list.getD j 0 + s.list.getD j 0) % 18446744073709551616)) = plusV s r (j + 1) ++ E := by
  obtain ⟨a, b, c, d, e, f, g, h⟩ := s
  obtain ⟨a', b', c', d', e', f', g', h'⟩ := r
  obtain rfl | rfl | rfl | rfl | rfl | rfl | rfl | rfl : j = 0 ∨ j = 1 ∨ j = 2 ∨ j = 3 ∨ j = 4 ∨ j = 5 ∨ j = 6 ∨ j = 7 := by omega
  all_goals simp [plusV, Sha.plus, Sha.S.list, Nat.add_comm]
theorem horner_56 (l : List Nat) (i : Nat) (h : ∀ i, l.getD i 0 < 256) (j : Nat) (hj : j ≤ 7) : horner l i j < 72057594037927936 := by
  have h1 := horner_lt l i h j
  have h2 : 256 ^ j ≤ 256 ^ 7 := Nat.pow_le_pow_right (by decide) hj
  have h3 : (256 : Nat) ^ 7 = 72057594037927936 := by decide
  omega
structure Next1 (l : List Nat) (i j X y : Nat) : Prop where
  h : horner l i (j + 1) = X * 256 + y

/-- the words after the last round, summed up -/
theorem turn_fin (s r : Sha.S) (l : List Nat) (w : World) (g : Nat) (E : List Value) (h : Sha.rnds (Sha.row l 80) s 80 = r) (hE : Blk w g 118 (plusV s r 8 ++ E)) : WordsAt w g 0 (Sha.turn s l).list := by
  have e : Sha.turn s l = Sha.plus s r := by rw [Sha.turn, h]
  clear h
  rw [e]
  clear e
  rw [plusV_all] at hE
  generalize Sha.plus s r = q at *
  obtain ⟨a, b, c, d, e', f, g', h'⟩ := q
  refine ⟨hE.lt, fun i hi => ?_⟩
  have hi8 : i < 8 := hi
  rw [Nat.zero_add]
  obtain rfl | rfl | rfl | rfl | rfl | rfl | rfl | rfl : i = 0 ∨ i = 1 ∨ i = 2 ∨ i = 3 ∨ i = 4 ∨ i = 5 ∨ i = 6 ∨ i = 7 := by omega
  all_goals exact hE.cell rfl

set_option maxRecDepth 100000 in
set_option maxHeartbeats 2000000 in
theorem refTurn_any (hb ho hc kb ko kc b off c : Nat) (s : Sha.S) (l : List Nat) (w : World) (hs : SB s) (hl : ∀ i, l.getD i 0 < 256)
    (hH : WordsAt w hb ho s.list) (hK : WordsAt w kb ko Sha.K) (hB : b < w.heap.size)
    (hcl : ∀ i, i < 128 → w.cell? ⟨b, off + i, none⟩ = some (.int .u8 ((l.getD i 0 : Nat) : Int))) :
    Calls Tryz.prog 70 #[.slice (some ⟨hb, ho, none⟩) 8 hc, .slice (some ⟨kb, ko, none⟩) 80 kc, .slice (some ⟨b, off, none⟩) 128 c] w fun e w' => ∃ g, e = .returned (.slice (some ⟨g, 0, none⟩) 8 8) ∧ w.grownBy w' none ∧ w.heap.size ≤ g ∧ WordsAt w' g 0 (Sha.turn s l).list := by
  have HS := Lib.hid hs; clear hs
  have HH := Lib.hid (And.intro hH hK); clear hH hK
  have HC := Lib.hid (And.intro hl hcl); clear hl hcl
  go_enter Tryz.func70, Tryz.ntmps70
  go_wp2
  go_loopw [7, 8] (fun v i wr => ∃ k : Nat, k ≤ 80 ∧ i = .int .i64 k ∧ wr.ownsRow w.heap.size 118 1 v k ((Sha.row l k).map u64V) ∧ w.grownBy wr none) (fun _ i _ => 80 - (intOf i).toNat)
  case atStart => exact ⟨0, by omega, rfl, World.ownsRow_nil _ _ _ _, gb_refl _ _⟩
  case round =>
    obtain ⟨k, hk, rfl, hown, hg⟩ := hrel
    by_cases hlt : k < 80
    · have hr := row_next l k
      by_cases h16 : k < 16
      · rw [if_pos h16] at hr
        have HR := Lib.hid (And.intro hown (And.intro hg hr)); clear hown hg hr
        have i0 : (k : Int) < 80 := by omega
        have i1 : (k : Int) < 16 := by omega
        go_wp2
        go_loop [9, 10] (fun x i => ∃ j : Nat, j ≤ 8 ∧ i = .int .i64 j ∧ x = .int .u64 ((horner l (8 * k) j : Nat) : Int)) (fun _ i => 8 - (intOf i).toNat)
        case atStart => exact ⟨0, by omega, rfl, rfl⟩
        case round =>
          obtain ⟨j, hj, rfl, rfl⟩ := hrel
          by_cases hlj : j < 8
          · have hx := horner_56 l (8 * k) HC.out.1 j (by omega)
            have hcell : wr.cell? ⟨b, off + (8 * k + j), none⟩ = some (.int .u8 ((l.getD (8 * k + j) 0 : Nat) : Int)) := by
              rw [gb_cell HR.out.2.1 (p := ⟨b, off + (8 * k + j), none⟩) hB (by simp)]; exact HC.out.2 _ (by omega)
            have hN : Next1 l (8 * k) j (horner l (8 * k) j) (l.getD (8 * k + j) 0) := ⟨rfl⟩
            have hy := HC.out.1 (8 * k + j)
            generalize horner l (8 * k) j = X at *
            generalize l.getD (8 * k + j) 0 = y at *
            have j0 : (j : Int) < 8 := by omega
            have i2 : 8 * (k : Int) + (j : Int) < 128 := by omega
            have hx2 : (X : Int) < 72057594037927936 := by omega
            have hy2 : (y : Int) < 256 := by omega
            go_wp2
            go_round
            case rel => exact ⟨j + 1, by omega, by go_num, by rw [hN.h]; congr 1⟩
            case measure => simp [intOf]; omega
          · obtain rfl : j = 8 := by omega
            rw [horner_word l (8 * k) HC.out.1]
            clear hlj hj
            have hrs := HR.out.2.1.size
            obtain ⟨v2, w2, hap, how2, hgr2⟩ := append1_u64 wr w.heap.size k u7 (u64V (Sha.wordAt l (8 * k))) _ HR.out.1 rfl (by omega) hrs
            have hg2 := gb_own HR.out.2.1 HR.out.1 (Nat.le_refl _) hgr2
            rw [← HR.out.2.2] at how2
            unfold u64V at hap
            have H2 := Lib.hid (And.intro how2 (And.intro hg2 hap)); clear how2 hg2 hgr2 hap
            go_wp2_with (at_builtin; refine wpList_append_run rfl (.tmp 80) (.tmp 82) 81 rfl rfl _ _ rfl rfl _ _ H2.out.2.2 ?_)
            go_roundw
            case rel => exact ⟨k + 1, by omega, by go_num, H2.out.1, H2.out.2.1⟩
            case measure => simp [intOf]; omega
      · rw [if_neg h16] at hr
        obtain ⟨g, c7, rfl, hb7, _, _, hg7⟩ := own_some hown (by omega)
        have c2 := own_cell hown (rowV_get l k (k - 2) (by omega))
        have c7' := own_cell hown (rowV_get l k (k - 7) (by omega))
        have c15 := own_cell hown (rowV_get l k (k - 15) (by omega))
        have c16 := own_cell hown (rowV_get l k (k - 16) (by omega))
        obtain ⟨x2, h2⟩ : ∃ x : Int, x = (((Sha.row l k).getD (k - 2) 0 : Nat) : Int) := ⟨_, rfl⟩
        obtain ⟨x7, h7⟩ : ∃ x : Int, x = (((Sha.row l k).getD (k - 7) 0 : Nat) : Int) := ⟨_, rfl⟩
        obtain ⟨x15, h15⟩ : ∃ x : Int, x = (((Sha.row l k).getD (k - 15) 0 : Nat) : Int) := ⟨_, rfl⟩
        obtain ⟨x16, h16'⟩ : ∃ x : Int, x = (((Sha.row l k).getD (k - 16) 0 : Nat) : Int) := ⟨_, rfl⟩
        unfold u64V at c2 c7' c15 c16
        rw [← h2] at c2; rw [← h7] at c7'; rw [← h15] at c15; rw [← h16'] at c16
        have b2 : 0 ≤ x2 ∧ x2 < 18446744073709551616 := by have := row_lt l HC.out.1 k (k - 2); omega
        have b7 : 0 ≤ x7 ∧ x7 < 18446744073709551616 := by have := row_lt l HC.out.1 k (k - 7); omega
        have b15 : 0 ≤ x15 ∧ x15 < 18446744073709551616 := by have := row_lt l HC.out.1 k (k - 15); omega
        have b16 : 0 ≤ x16 ∧ x16 < 18446744073709551616 := by have := row_lt l HC.out.1 k (k - 16); omega
        obtain ⟨b2, b2'⟩ := b2; obtain ⟨b7, b7'⟩ := b7; obtain ⟨b15, b15'⟩ := b15; obtain ⟨b16, b16'⟩ := b16
        have HX := Lib.hid (more_is l k x2 x7 x15 x16 h2 h7 h15 h16'); clear h2 h7 h15 h16'
        have HR := Lib.hid (And.intro hown (And.intro hg hr)); clear hown hg hr
        have n16 : ¬ (k : Int) < 16 := by omega
        have i0 : (k : Int) < 80 := by omega
        have w2' : IntKind.i64.wrap ((k : Int) - 2) = (k : Int) - 2 := IntWalk.i64_in _ (by omega)
        have p2 : (2 : Int) ≤ (k : Int) := by omega
        have q2 : (k : Int) - 2 < (k : Int) := by omega
        have t2 : ((k : Int) - 2).toNat = k - 2 := by omega
        have w7' : IntKind.i64.wrap ((k : Int) - 7) = (k : Int) - 7 := IntWalk.i64_in _ (by omega)
        have p7 : (7 : Int) ≤ (k : Int) := by omega
        have q7 : (k : Int) - 7 < (k : Int) := by omega
        have t7 : ((k : Int) - 7).toNat = k - 7 := by omega
        have w15' : IntKind.i64.wrap ((k : Int) - 15) = (k : Int) - 15 := IntWalk.i64_in _ (by omega)
        have p15 : (15 : Int) ≤ (k : Int) := by omega
        have q15 : (k : Int) - 15 < (k : Int) := by omega
        have t15 : ((k : Int) - 15).toNat = k - 15 := by omega
        have w16' : IntKind.i64.wrap ((k : Int) - 16) = (k : Int) - 16 := IntWalk.i64_in _ (by omega)
        have p16 : (16 : Int) ≤ (k : Int) := by omega
        have q16 : (k : Int) - 16 < (k : Int) := by omega
        have t16 : ((k : Int) - 16).toNat = k - 16 := by omega
        go_wp2_with fail
        go_quiet (fail)
        go_wp2_with fail
        have HR2 := Lib.hid (And.intro (own_drewN HR.out.1 nq) (And.intro (gb_drewN HR.out.2.1 nq) HR.out.2.2))
        have c7'' : (wr.drewN nq).cell? ⟨g, k - 7, none⟩ = some (.int .u64 x7) := c7'
        have c16'' : (wr.drewN nq).cell? ⟨g, k - 16, none⟩ = some (.int .u64 x16) := c16
        clear c2 c7' c15 c16 HR
        generalize wr.drewN nq = wy at *
        go_quiet ((go_at_call 102; exact Calls.quiet_of_same ((rot_any _ _ _ (by assumption) (by assumption) (by decide) (by decide)).mono fun e w' h => ⟨h.1, h.2.symm⟩)))
        rw [ss1_is x2 b2 b2', ss0_is x15 b15 b15', HX.out]
        have how3 := own_drewN HR2.out.1 nq
        have hg3 := gb_drewN HR2.out.2.1 nq
        have hr3 := HR2.out.2.2
        clear HR2 c7'' c16''
        generalize wy.drewN nq = wz at *
        have hrs := hg3.size
        obtain ⟨v2, w2, hap, how2, hgr2⟩ := append1_u64 wz w.heap.size k _ (u64V (Sha.more (Sha.row l k) k)) _ how3 rfl (by omega) hrs
        have hg2 := gb_own hg3 how3 (Nat.le_refl _) hgr2
        rw [← hr3] at how2
        unfold u64V at hap
        have H2 := Lib.hid (And.intro how2 (And.intro hg2 hap)); clear how2 hg2 hgr2 hap how3 hg3 hr3 w2' w7' w15' w16' p2 p7 p15 p16 q2 q7 q15 q16 t2 t7 t15 t16
        go_wp2_with (at_builtin; refine wpList_append_run rfl (.tmp 80) (.tmp 82) 81 rfl rfl _ _ rfl rfl _ _ H2.out.2.2 ?_)
        go_roundw
        case rel => exact ⟨k + 1, by omega, by go_num, H2.out.1, H2.out.2.1⟩
        case measure => simp [intOf]; omega
    · obtain rfl : k = 80 := by omega
      clear hlt hk
      obtain ⟨g7, c7, rfl, hb7, _, _, hg7⟩ := own_some hown (by omega)
      have hrow : WordsAt wr g7 0 (Sha.row l 80) := ⟨hg7, fun i hi => by rw [row_length] at hi; rw [Nat.zero_add]; exact own_cell hown (rowV_get l 80 i hi)⟩
      have HX := Lib.hid (And.intro hg hrow); clear hg hrow hown
      obtain ⟨v13, w2, hap, how, hgr⟩ := copy_words w wr hb ho hc s HX.out.1 HH.out.1
      obtain ⟨g8, c8, rfl, hb8, hc8, _, hlt8⟩ := own_some how (by decide)
      have hv8 : V8 w w2 g8 s := ⟨Nat.le_trans HX.out.1.size hb8, own_blk how⟩
      have hg2 := gb_trans HX.out.1 hgr
      have H2 := Lib.hid (And.intro hg2 (And.intro (HX.out.2.kept hgr) (And.intro hv8 hap))); clear hg2 hv8 hap how hgr hb8 hlt8 HX
      go_wp2_with (at_builtin; refine wpList_append_run rfl (.tmp 84) (.tmp 85) 81 rfl rfl _ _ rfl rfl _ _ H2.out.2.2.2 ?_)
      go_loopw [13, 14] (fun v i wr => ∃ k g c : Nat, k ≤ 80 ∧ i = .int .i64 k ∧ v = .slice (some ⟨g, 0, none⟩) 8 c ∧ (k = 0 ∨ c = 8) ∧ w.grownBy wr none ∧ WordsAt wr g7 0 (Sha.row l 80) ∧ V8 w wr g (Sha.rnds (Sha.row l 80) s k)) (fun _ i _ => 80 - (intOf i).toNat)
      case atStart => exact ⟨0, g8, c8, by omega, rfl, rfl, Or.inl rfl, H2.out.1, H2.out.2.1, H2.out.2.2.1⟩
      case round =>
        obtain ⟨k, g, c13, hk, rfl, rfl, hkc, hg, hrow, hv⟩ := hrel
        obtain ⟨hvn, E, hE⟩ := hv
        have HSB := Lib.hid (HS.out.rnds (Sha.row l 80) k)
        by_cases hlt : k < 80
        · have hF : RFacts wr g kb ko g7 k (Sha.rnds (Sha.row l 80) s k) (Sha.K.getD k 0) ((Sha.row l 80).getD k 0) :=
            ⟨hE.cell rfl, hE.cell rfl, hE.cell rfl, hE.cell rfl, hE.cell rfl, hE.cell rfl, hE.cell rfl, hE.cell rfl, (HH.out.2.kept hg).2 k hlt, by have := hrow.2 k (by rw [row_length]; exact hlt); rw [Nat.zero_add] at this; exact this⟩
          have HN := rnds_next (Sha.row l 80) s k
          have HI := Lib.hid (And.intro hg hrow); clear hg hrow hE hkc
          generalize Sha.rnds (Sha.row l 80) s k = r at *
          generalize Sha.K.getD k 0 = kk at *
          generalize (Sha.row l 80).getD k 0 = ww at *
          have HF := Lib.hid hF
          obtain ⟨d0, d1, d2, d3, d4, d5, d6, d7, dK, dW⟩ := hF
          have p0 : 0 ≤ (k : Int) := by omega
          have q0 : (k : Int) < 80 := by omega
          have ea := i_bd _ HSB.out.a
          have eb := i_bd _ HSB.out.b
          have ec := i_bd _ HSB.out.c
          have ee := i_bd _ HSB.out.e
          have ef := i_bd _ HSB.out.f
          have eg := i_bd _ HSB.out.g
          obtain ⟨ea1, ea2⟩ := ea; obtain ⟨eb1, eb2⟩ := eb; obtain ⟨ec1, ec2⟩ := ec; obtain ⟨ee1, ee2⟩ := ee; obtain ⟨ef1, ef2⟩ := ef; obtain ⟨eg1, eg2⟩ := eg
          go_wp2_with fail
          go_quiet (fail)
          go_wp2_with fail
          have HI2 := Lib.hid (And.intro (gb_drewN HI.out.1 nq) (And.intro (show WordsAt (wr.drewN nq) g7 0 (Sha.row l 80) from HI.out.2) (HF.out.drewN nq)))
          clear d0 d1 d2 d3 d4 d5 d6 d7 dK dW HF HI
          generalize wr.drewN nq = wy at *
          obtain ⟨d0, d1, d2, d3, d4, d5, d6, d7, dK, dW⟩ := HI2.out.2.2
          go_quiet ((go_at_call 102; exact Calls.quiet_of_same ((rot_any _ _ _ ee1 ee2 (by decide) (by decide)).mono fun e w' h => ⟨h.1, h.2.symm⟩)))
          rw [if_neg (show ¬ IntKind.u64.signed = true by decide), bs1_is _ ee1 ee2, ch_is _ _ _ ee1 ee2 ef1 ef2 eg1 eg2, t1_is]
          go_wp2_with fail
          have HI3 := Lib.hid (And.intro (gb_drewN HI2.out.1 nq) (And.intro (show WordsAt (wy.drewN nq) g7 0 (Sha.row l 80) from HI2.out.2.1) (HI2.out.2.2.drewN nq)))
          clear d0 d1 d2 d3 d4 d5 d6 d7 dK dW HI2
          generalize wy.drewN nq = wz at *
          obtain ⟨d0, d1, d2, d3, d4, d5, d6, d7, dK, dW⟩ := HI3.out.2.2
          obtain ⟨T1, hT1⟩ : ∃ T1, T1 = (r.h + Sha.bs1 r.e + Sha.ch r.e r.f r.g + kk + ww) % 18446744073709551616 := ⟨_, rfl⟩
          rw [← hT1]
          have HT1 := Lib.hid hT1; clear hT1
          go_quiet ((go_at_call 102; exact Calls.quiet_of_same ((rot_any _ _ _ ea1 ea2 (by decide) (by decide)).mono fun e w' h => ⟨h.1, h.2.symm⟩)))
          rw [bs0_is _ ea1 ea2, mj_is _ _ _ ea1 ea2 eb1 eb2 ec1 ec2, t2_is]
          go_wp2_with fail
          have HI4 := Lib.hid (And.intro (gb_drewN HI3.out.1 nq) (And.intro (show WordsAt (wz.drewN nq) g7 0 (Sha.row l 80) from HI3.out.2.1) (HI3.out.2.2.drewN nq)))
          clear d0 d1 d2 d3 d4 d5 d6 d7 dK dW HI3
          generalize wz.drewN nq = wp at *
          obtain ⟨d0, d1, d2, d3, d4, d5, d6, d7, dK, dW⟩ := HI4.out.2.2
          obtain ⟨T2, hT2⟩ : ∃ T2, T2 = (Sha.bs0 r.a + Sha.mj r.a r.b r.c) % 18446744073709551616 := ⟨_, rfl⟩
          rw [← hT2]
          have HT2 := Lib.hid hT2; clear hT2
          refine wp_region_still_tail 26 (by kernel_rfl) (by kernel_rfl) ?_
          change wpStill _ _ (World.drew wp) _ _ _
          simp only [List.take_succ_cons, List.take_zero, List.drop_succ_cons, List.drop_zero]
          repeat still_step
          refine wpStill_nil ?_
          rw [add_is, add_is]
          obtain ⟨U1, hU1⟩ : ∃ U, U = (T1 + T2) % 18446744073709551616 := ⟨_, rfl⟩
          obtain ⟨U2, hU2⟩ : ∃ U, U = (r.d + T1) % 18446744073709551616 := ⟨_, rfl⟩
          rw [← hU1, ← hU2]
          have hfin : Sha.rnd kk ww r = ⟨U1, r.a, r.b, r.c, U2, r.e, r.f, r.g⟩ := by rw [hU1, hU2, HT1.out, HT2.out]; rfl
          have HFI := Lib.hid hfin; clear hfin hU1 hU2
          have hblk : Blk (wp.alloc (.cells (wordsV ⟨U1, r.a, r.b, r.c, U2, r.e, r.f, r.g⟩).toArray 118)) wp.heap.size 118 (wordsV (Sha.rnds (Sha.row l 80) s (k + 1)) ++ []) := by
            rw [HN.h, HFI.out, List.append_nil]; exact Blk.new _ _ _
          have HB := Lib.hid (And.intro HI4.out.1.size (And.intro (gb_alloc HI4.out.1 (.cells (wordsV ⟨U1, r.a, r.b, r.c, U2, r.e, r.f, r.g⟩).toArray 118)) (And.intro (HI4.out.2.1.kept (gb_alloc (gb_refl _ _) (.cells (wordsV ⟨U1, r.a, r.b, r.c, U2, r.e, r.f, r.g⟩).toArray 118))) hblk))); clear hblk HI4 d0 d1 d2 d3 d4 d5 d6 d7 dK dW HT1 HT2 HFI
          go_wp2_with fail
          go_roundw
          case rel => exact ⟨k + 1, wp.heap.size, 8, by omega, by go_num, rfl, Or.inr rfl, gb_drew HB.out.2.1, HB.out.2.2.1, ⟨HB.out.1, [], HB.out.2.2.2.drew⟩⟩
          case measure => simp [intOf]; omega
        · obtain rfl : k = 80 := by omega
          obtain rfl : c13 = 8 := by omega
          clear hlt hk hkc hrow
          generalize hr : Sha.rnds (Sha.row l 80) s 80 = r at *
          have HR := Lib.hid hr; clear hr
          have HI := Lib.hid (And.intro hg hE); clear hg hE
          go_wp2
          go_loopw [19] (fun i wr => ∃ j : Nat, j ≤ 8 ∧ i = .int .i64 j ∧ w.grownBy wr none ∧ Blk wr g 118 (plusV s r j ++ E)) (fun i _ => 8 - (intOf i).toNat)
          case atStart => exact ⟨0, by omega, rfl, HI.out⟩
          case round =>
            obtain ⟨j, hj, rfl, hg, hE⟩ := hrel
            by_cases hlj : j < 8
            · have hk := HH.out.1.kept hg
              have k1 := hE.cell (plusV_get s r j E hlj)
              have k2 := hk.2 j hlj
              have f1 := hE.free j
              have hset := plusV_set s r j E hlj
              unfold u64V at k1 k2 hset
              have HJ := Lib.hid (And.intro hg (And.intro hE hset)); clear hg hE hk hset
              generalize s.list.getD j 0 = x at *
              generalize r.list.getD j 0 = y at *
              have j0 : (j : Int) < 8 := by omega
              have j1 : 0 ≤ (j : Int) := by omega
              go_wp2_with fail
              refine wp_region_still_tail 12 (by kernel_rfl) (by kernel_rfl) ?_
              change wpStill _ _ (World.drew wr) _ _ _
              simp only [List.take_succ_cons, List.take_zero, List.drop_succ_cons, List.drop_zero]
              repeat still_step
              refine wpStill_nil ?_
              rw [add_is]
              obtain ⟨U, hU⟩ : ∃ U, U = (y + x) % 18446744073709551616 := ⟨_, rfl⟩
              rw [← hU]
              have hbl := (HJ.out.2.1.set j (.int .u64 (((y + x) % 18446744073709551616 : Nat) : Int)))
              rw [HJ.out.2.2, ← hU] at hbl
              have HB := Lib.hid (And.intro (gb_set_new HJ.out.1 hvn (p := ⟨g, j, none⟩) (.int .u64 (U : Int))) hbl); clear hbl hU
              go_wp2_with fail
              go_roundw
              case rel => (repeat apply Exists.intro); exact ⟨⟨j + 1, by omega, by go_num, gb_drew HB.out.1, HB.out.2.drew⟩, rfl⟩
              case measure => simp [intOf]; omega
            · obtain rfl : j = 8 := by omega
              clear hlj hj
              have hfin : WordsAt wr g 0 (Sha.turn s l).list := turn_fin s r l wr g E HR.out hE
              have HZ := Lib.hid (And.intro hg hfin); clear hg hfin hE
              go_wp2
              go_ret
              exact ⟨g, rfl, HZ.out.1, hvn, HZ.out.2⟩
end Go.Proofs.YtabdegeaifajfaaGreatDoor
