/- The document's own answer: a text made whole. -/
import Derived.Test.YtabdegeaifajfaaGreatDoorShaRefTurn
namespace Go.Proofs.YtabdegeaifajfaaGreatDoor
open Go.RowKit

theorem append_none (w : World) (base n c : Nat) (v : Value) (xs : List Value) (hown : w.ownsRow base 5 1 v n xs) :
    (Builtin.append_ #[34, 34] 34 #[v, .slice none 0 c]).run Tryz.prog w = .ok v w := by
  obtain ⟨i, z, hi, hz, hs, hb, hc⟩ := info_u8
  rcases hown.2 with ⟨rfl, rfl⟩ | ⟨g, cap, cur, rfl, _, _, hnc, _⟩
  · simp [Builtin.append_, run_underlying Tryz.underlying34, sizeOf, typeInfo, hi, Builtin.lenOf, Builtin.firstCells]
  · simp [Builtin.append_, run_underlying Tryz.underlying34, sizeOf, typeInfo, hi, Builtin.lenOf, Builtin.firstCells, hnc, storeCells]
theorem gb_rowless (w : World) (v : Value) : w.grownBy w v.ownBlock := gb_refl w _
/-- bytes that lie somewhere, appended to a row of one's own -/
theorem append_part (w : World) (base n0 B cap n : Nat) (v : Value) (xs : List Value) (a : Option Addr) (p : List Nat) (hown : w.ownsRow base 5 1 v n0 xs) (hn : p.length = n) (hP : PartAt w B a cap p)
    (hb : n0 + n ≤ 140737488355328) (hbase : base ≤ w.heap.size) :
    ∃ v' w', (Builtin.append_ #[34, 34] 34 #[v, .slice a n cap]).run Tryz.prog w = .ok v' w' ∧ w'.ownsRow base 5 1 v' (n0 + n) (xs ++ p.map u8V) ∧ w.grownBy w' v.ownBlock := by
  subst hn
  rcases a with _ | ad
  · have h0 : p.length = 0 := by
      rcases hP.cells with h | ⟨_, _, h, _⟩
      · exact h
      · cases h
    obtain rfl : p = [] := List.eq_nil_of_length_eq_zero h0
    exact ⟨v, w, append_none w base n0 cap v xs hown, by simpa using hown, gb_refl _ _⟩
  · refine append_u8 w base n0 p.length cap v xs (p.map u8V) ad hown (by simp) (fun j u hu => ?_) (fun u hu => ?_) (by omega) hbase
    · rcases hP.cells with h | ⟨pb, po, h, _, _, hc⟩
      · obtain rfl : p = [] := List.eq_nil_of_length_eq_zero h
        simp at hu
      · cases h
        have hj : j < p.length := by
          rcases Nat.lt_or_ge j p.length with h | h
          · exact h
          · rw [List.getElem?_eq_none (by simpa using h)] at hu; cases hu
        have hadd : (⟨pb, po, none⟩ : Addr).add j = ⟨pb, po + j, none⟩ := by unfold Addr.add; split <;> simp_all
        rw [hadd, hc j hj, ← hu, List.getElem?_map, List.getElem?_eq_getElem hj]
        simp [List.getD_eq_getElem?_getD, List.getElem?_eq_getElem hj]
    · obtain ⟨x, _, rfl⟩ := List.mem_map.1 hu
      rfl

theorem take_next (W : List Nat) (m : Nat) (h : m < W.length) : (W.take (m + 1)).map u8V = (W.take m).map u8V ++ [u8V (W.getD m 0)] := by
  rw [List.take_add_one, List.getElem?_eq_getElem h, List.map_append, List.getD_eq_getElem?_getD, List.getElem?_eq_getElem h]; rfl
theorem whole_len (p : List Nat) : (Sha.whole p).length = p.length + Sha.tailLen p.length := by unfold Sha.whole; rw [List.length_append, tail_length]
theorem whole_get (p : List Nat) (j : Nat) : (Sha.whole p).getD (p.length + j) 0 = (Sha.tail p.length).getD j 0 := by
  unfold Sha.whole
  rw [List.getD_eq_getElem?_getD, List.getD_eq_getElem?_getD, List.getElem?_append_right (by omega), show p.length + j - p.length = j by omega]
theorem whole_take (p : List Nat) : (Sha.whole p).take p.length = p := by unfold Sha.whole; rw [List.take_left' rfl]
theorem tail_get_zero (n j : Nat) (hj : j < Sha.tailLen n - 17) : (Sha.tail n).getD (j + 1) 0 = 0 := by
  unfold Sha.tail
  rw [List.getD_eq_getElem?_getD, List.append_assoc, List.cons_append, List.getElem?_cons_succ, List.getElem?_append_left (by simpa using hj), List.getElem?_replicate]
  split <;> rfl
theorem tail_get_len (n j : Nat) (hn : n < 2147483648) (hj : j < 16) : (Sha.tail n).getD (Sha.tailLen n - 16 + j) 0 = if j < 8 then 0 else (8 * n) / 2 ^ (8 * (15 - j)) % 256 := by
  have h1 : n >>> 61 = 0 := by rw [Nat.shiftRight_eq_div_pow]; exact Nat.div_eq_of_lt (by omega)
  have h2 : (n <<< 3) % 18446744073709551616 = 8 * n := by rw [Nat.shiftLeft_eq]; omega
  have hT : 17 ≤ Sha.tailLen n := by unfold Sha.tailLen; split <;> omega
  unfold Sha.tail
  rw [h1, h2, List.getD_eq_getElem?_getD, List.append_assoc, List.cons_append, show Sha.tailLen n - 16 + j = (Sha.tailLen n - 17 + j) + 1 by omega, List.getElem?_cons_succ, List.getElem?_append_right (by simp), List.length_replicate, show Sha.tailLen n - 17 + j - (Sha.tailLen n - 17) = j by omega]
  obtain rfl | rfl | rfl | rfl | rfl | rfl | rfl | rfl | rfl | rfl | rfl | rfl | rfl | rfl | rfl | rfl : j = 0 ∨ j = 1 ∨ j = 2 ∨ j = 3 ∨ j = 4 ∨ j = 5 ∨ j = 6 ∨ j = 7 ∨ j = 8 ∨ j = 9 ∨ j = 10 ∨ j = 11 ∨ j = 12 ∨ j = 13 ∨ j = 14 ∨ j = 15 := by omega
  all_goals simp [Sha.wbytes, Sha.byte, Nat.shiftRight_eq_div_pow]

set_option maxRecDepth 100000 in
set_option maxHeartbeats 1000000 in
theorem refWhole_any (n cap B : Nat) (p : List Nat) (a : Option Addr) (w : World) (hn : p.length = n) (hP : PartAt w B a cap p) (hlen : n < 2147483000) :
    Calls Tryz.prog 69 #[.slice a n cap] w fun e w' => ∃ g c, e = .returned (.slice (some ⟨g, 0, none⟩) (Sha.whole p).length c) ∧ w.grownBy w' none ∧ w'.ownsRow w.heap.size 5 1 (.slice (some ⟨g, 0, none⟩) (Sha.whole p).length c) (Sha.whole p).length ((Sha.whole p).map u8V) := by
  have ho0 : (w.alloc (.cells #[] 5)).ownsRow w.heap.size 5 1 (.slice (some ⟨w.heap.size, 0, none⟩) 0 0) 0 [] := World.ownsRow_lit w #[] 0 (Nat.le_refl _) (by unfold maxLen; omega) rfl
  have hPk : PartAt (w.alloc (.cells #[] 5)) B a cap p := hP.kept (gb_alloc (gb_refl _ _) _)
  obtain ⟨v1, w1, hap, how, hgr⟩ := append_part _ w.heap.size 0 B cap n _ [] a p ho0 hn hPk (by omega) (by simp)
  have hg1 := gb_own (gb_alloc (gb_refl w none) _) ho0 (Nat.le_refl _) hgr
  rw [Nat.zero_add, List.nil_append] at how
  obtain ⟨v2, w2, hap2, how2, hgr2⟩ := append1_u8 w1 w.heap.size n v1 (u8V 128) _ how rfl (by omega) hg1.size
  have hg2 := gb_own hg1 how (Nat.le_refl _) hgr2
  have hf : (p.map u8V ++ [u8V 128]) = ((Sha.whole p).take (n + 1)).map u8V := by
    subst hn
    have hT : 17 ≤ Sha.tailLen p.length := by unfold Sha.tailLen; split <;> omega
    rw [take_next _ _ (by rw [whole_len]; omega), whole_take, ← Nat.add_zero p.length, whole_get]; rfl
  rw [hf] at how2
  unfold u8V at hap2
  have H := Lib.hid (And.intro hap (And.intro hap2 (And.intro how2 hg2))); clear hap hap2 how2 hg2 how hg1 hgr hgr2 hf ho0 hPk hP
  go_enter Tryz.func69, Tryz.ntmps69
  go_wp2_with (first | (at_builtin; refine wpList_append_run rfl (.tmp 7) (.tmp 8) 34 rfl rfl _ _ rfl rfl _ _ H.out.1 ?_) | (at_builtin; refine wpList_append_run rfl (.tmp 9) (.tmp 10) 34 rfl rfl _ _ rfl rfl _ _ H.out.2.1 ?_))
  go_loopw [3] (fun v wr => ∃ m : Nat, n + 1 ≤ m ∧ m ≤ n + Sha.tailLen n - 16 ∧ wr.ownsRow w.heap.size 5 1 v m (((Sha.whole p).take m).map u8V) ∧ w.grownBy wr none) (fun v _ => n + Sha.tailLen n - 16 - (match v with | .slice _ k _ => k | _ => 0))
  case atStart => exact ⟨n + 1, by omega, by unfold Sha.tailLen; split <;> omega, H.out.2.2.1, H.out.2.2.2⟩
  case round =>
    obtain ⟨m, hm1, hm2, hown, hg⟩ := hrel
    obtain ⟨g, c, rfl, hb, hmc, hcm, hg7⟩ := own_some hown (by omega)
    obtain ⟨z, hz⟩ : ∃ z, z = n + Sha.tailLen n - 16 := ⟨_, rfl⟩
    have hz2 : z ≤ n + 300 := by rw [hz]; unfold Sha.tailLen; split <;> omega
    have hz1 : n + 1 ≤ z := by rw [hz]; unfold Sha.tailLen; split <;> omega
    have hzm : z % 128 = 112 := by rw [hz]; unfold Sha.tailLen; split <;> omega
    have hzn : m < z → m % 128 ≠ 112 := by rw [hz]; unfold Sha.tailLen; split <;> omega
    by_cases hlt : m < z
    · have hne : ¬ ((m : Int) % 128 = 112) := by have := hzn hlt; omega
      have hnext := take_next (Sha.whole p) m (by rw [whole_len, hn]; omega)
      have hv : (Sha.whole p).getD m 0 = 0 := by
        rw [show m = p.length + ((m - n - 1) + 1) by omega, whole_get, hn]; exact tail_get_zero n _ (by omega)
      rw [hv] at hnext
      obtain ⟨v2', w2', hap, how2, hgr2⟩ := append1_u8 wr w.heap.size m (.slice (some ⟨g, 0, none⟩) m c) (u8V 0) _ hown rfl (by omega) hg.size
      have hg2 := gb_own hg hown (Nat.le_refl _) hgr2
      rw [← hnext] at how2
      unfold u8V at hap
      have H2 := Lib.hid (And.intro hap (And.intro how2 hg2)); clear hap how2 hg2 hgr2 hnext hv hown hg
      go_wp2_with (at_builtin; refine wpList_append_run rfl (.tmp 16) (.tmp 17) 34 rfl rfl _ _ rfl rfl _ _ H2.out.1 ?_)
      go_roundw
      case rel => exact ⟨m + 1, by omega, by omega, H2.out.2.1, H2.out.2.2⟩
      case measure =>
        obtain ⟨_, c2, rfl, _⟩ := own_some H2.out.2.1 (by omega)
        show n + Sha.tailLen n - 16 - (m + 1) < n + Sha.tailLen n - 16 - m
        omega
    · have e : m = z := by omega
      subst e
      have H2 := Lib.hid (And.intro hown (And.intro hg hz)); clear hown hg hz
      have heq : (m : Int) % 128 = 112 := by omega
      clear hzn hzm hlt
      go_wp2
      clear heq
      go_loopw [3, 5] (fun v i wr => ∃ (q : Int) (k : Nat), -1 ≤ q ∧ m ≤ k ∧ (k : Int) + q = (m : Int) + 15 ∧ i = .int .i64 q ∧ wr.ownsRow w.heap.size 5 1 v k (((Sha.whole p).take k).map u8V) ∧ w.grownBy wr none) (fun _ i _ => (intOf i + 1).toNat)
      case atStart => exact ⟨15, m, by omega, by omega, by omega, rfl, H2.out.1, H2.out.2.1⟩
      case round =>
        obtain ⟨q, k, hq1, hk1, hk2, rfl, hown, hg⟩ := hrel
        by_cases hlt : 0 ≤ q
        · obtain ⟨q, rfl⟩ := Int.eq_ofNat_of_zero_le hlt
          have hT : 17 ≤ Sha.tailLen n := by unfold Sha.tailLen; split <;> omega
          have hmz := H2.out.2.2
          have hnext := take_next (Sha.whole p) k (by rw [whole_len, hn]; omega)
          have hv : (Sha.whole p).getD k 0 = if 15 - q < 8 then 0 else (8 * n) / 2 ^ (8 * q) % 256 := by
            rw [show k = p.length + (Sha.tailLen n - 16 + (15 - q)) by omega, whole_get, hn, tail_get_len n _ (by omega) (by omega), show 15 - (15 - q) = q by omega]
          have hc8 : (((8 * n) / 2 ^ (8 * q) % 256 : Nat) : Int) = 8 * (n : Int) / 2 ^ (8 * q) % 256 := by rw [Int.natCast_emod, Int.natCast_ediv, Int.natCast_mul, Int.natCast_pow]; rfl
          rw [hv] at hnext
          obtain ⟨g', c', rfl, _, hkc, hcm', hg7'⟩ := own_some hown (by omega)
          obtain ⟨v2', w2', hap, how2, hgr2⟩ := append1_u8 wr w.heap.size k (.slice (some ⟨g', 0, none⟩) k c') (u8V (if 15 - q < 8 then 0 else (8 * n) / 2 ^ (8 * q) % 256)) _ hown rfl (by omega) hg.size
          have hg2 := gb_own hg hown (Nat.le_refl _) hgr2
          rw [← hnext] at how2
          unfold u8V at hap
          have H3 := Lib.hid (And.intro how2 hg2); clear how2 hg2 hgr2 hnext hv hown hg hmz
          by_cases h8 : q < 8
          · rw [if_neg (by omega), hc8] at hap
            have HA := Lib.hid hap; clear hap
            have b1 : 8 * (q : Int) < 64 := by omega
            go_wp2_with (at_builtin; refine wpList_append_run rfl (.tmp 35) (.tmp 37) 34 rfl rfl _ _ rfl rfl _ _ HA.out ?_)
            go_roundw
            case rel => exact ⟨(q : Int) - 1, k + 1, by omega, by omega, by omega, by go_num, H3.out.1, H3.out.2⟩
            case measure => simp [intOf]
          · rw [if_pos (by omega)] at hap
            have HA := Lib.hid hap; clear hap
            have b1 : ¬ (q : Int) < 8 := by omega
            go_wp2_with (at_builtin; refine wpList_append_run rfl (.tmp 35) (.tmp 37) 34 rfl rfl _ _ rfl rfl _ _ HA.out ?_)
            go_roundw
            case rel => exact ⟨(q : Int) - 1, k + 1, by omega, by omega, by omega, by go_num, H3.out.1, H3.out.2⟩
            case measure => simp [intOf]
        · obtain rfl : q = -1 := by omega
          have hT : 17 ≤ Sha.tailLen n := by unfold Sha.tailLen; split <;> omega
          have hk : k = (Sha.whole p).length := by have := H2.out.2.2; rw [whole_len, hn]; omega
          subst hk
          rw [List.take_length] at hown
          obtain ⟨g', c', rfl, _, _, _, _⟩ := own_some hown (by omega)
          have H3 := Lib.hid (And.intro hown hg); clear hown hg
          go_wp2
          go_ret
          exact ⟨g', c', rfl, H3.out.2, H3.out.1⟩
end Go.Proofs.YtabdegeaifajfaaGreatDoor
