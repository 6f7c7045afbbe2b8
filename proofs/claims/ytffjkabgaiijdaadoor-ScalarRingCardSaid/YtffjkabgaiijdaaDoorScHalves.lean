/- The law ScalarHalves, walked. -/
import Derived.Test.YtffjkabgaiijdaaDoorScAwake
import Derived.Test.YtffjkabgaiijdaaDoorFlowG
import Derived.Test.YtffjkabgaiijdaaDoorPart
namespace Go.Proofs.YtffjkabgaiijdaaDoor
open Go.RowKit Ow

theorem reduceV (len cap B : Nat) (a : Option Addr) (l : List Nat) (w : World) (hl : l.length = len) (hm : len ≤ 64) (hP : BytesAt w B a cap l) (hT : OTab w) :
    Calls Tryd.prog 11 #[.slice a len cap] w fun e w' => ∃ g, e = .returned (.slice (some ⟨g, 0, none⟩) 32 32) ∧ w.grownBy w' none ∧ BytesAt w' w'.heap.size (some ⟨g, 0, none⟩) 32 (scB (num l)) :=
  (reduce_any len cap B a l w hl hm hP hT).mono fun _ _ h => h.bytes (scB_length _) (scB_lt _)
theorem mulV (ca cb cc Ba Bb Bc : Nat) (a b c : Option Addr) (x y z : List Nat) (w : World) (hx : x.length = 32) (hy : y.length = 32) (hz : z.length = 32) (hA : BytesAt w Ba a ca x) (hB : BytesAt w Bb b cb y) (hC : BytesAt w Bc c cc z) (hT : OTab w) :
    Calls Tryd.prog 14 #[.slice a 32 ca, .slice b 32 cb, .slice c 32 cc] w fun e w' => ∃ g, e = .returned (.slice (some ⟨g, 0, none⟩) 32 32) ∧ w.grownBy w' none ∧ BytesAt w' w'.heap.size (some ⟨g, 0, none⟩) 32 (scB (num x * num y + num z)) :=
  (mulAddB_any ca cb cc Ba Bb Bc a b c x y z w hx hy hz hA hB hC hT).mono fun _ _ h => h.bytes (scB_length _) (scB_lt _)
theorem scB_congr {m n : Nat} (h : m % Sc.L = n % Sc.L) : scB m = scB n := by unfold scB; rw [h]
/-- a power of 256 -/
def powB (k : Nat) : List Nat := List.replicate k 0 ++ [1]
theorem powB_length (k : Nat) : (powB k).length = k + 1 := by simp [powB]
theorem powB_lt (k i : Nat) : (powB k).getD i 0 < 256 := by
  unfold powB
  rw [List.getD_eq_getElem?_getD]
  rcases Nat.lt_or_ge i k with h | h
  · rw [List.getElem?_append_left (by simpa using h), List.getElem?_replicate, if_pos h]; decide
  · rw [List.getElem?_append_right (by simpa using h)]
    rcases Nat.eq_zero_or_pos (i - k) with h0 | h0
    · simp [h0]
    · rw [List.getElem?_eq_none (by simp; omega)]; decide
theorem leN_shift (f : Nat → Nat) (s : Nat) : ∀ k, Sc.leN f (s + k) = Sc.leN f s + Sc.leN (fun i => f (s + i)) k * 2 ^ (8 * s) := by
  intro k
  induction k with
  | zero => simp [Sc.leN]
  | succ k ih =>
    rw [show s + (k + 1) = s + k + 1 by omega, Sc.leN, ih, Sc.leN, Nat.add_mul, show 8 * (s + k) = 8 * k + 8 * s by omega, Nat.pow_add, Nat.mul_assoc (f (s + k)), ← Nat.add_assoc]
theorem leN_zeros (f : Nat → Nat) (k : Nat) (h : ∀ i, i < k → f i = 0) : Sc.leN f k = 0 := by
  induction k with
  | zero => rfl
  | succ k ih => rw [Sc.leN, ih (fun i hi => h i (by omega)), h k (by omega), Nat.zero_mul]
theorem num_powB (k : Nat) : num (powB k) = 2 ^ (8 * k) := by
  unfold num
  rw [powB_length, leN_shift, leN_zeros _ k (fun i hi => by
    unfold powB; rw [List.getD_eq_getElem?_getD, List.getElem?_append_left (by simpa using hi), List.getElem?_replicate, if_pos hi]; rfl)]
  have e : (powB k).getD k 0 = 1 := by unfold powB; rw [List.getD_eq_getElem?_getD, List.getElem?_append_right (by simp)]; simp
  have e1 : Sc.leN (fun i => (powB k).getD (k + i) 0) 1 = 1 := by
    show 0 + (powB k).getD k 0 * 2 ^ (8 * 0) = 1
    rw [e]
  rw [e1, Nat.zero_add, Nat.one_mul]
theorem num_split (l : List Nat) (k : Nat) (h : k ≤ l.length) : num l = num (l.take k) + num (l.drop k) * 2 ^ (8 * k) := by
  unfold num
  have e := leN_shift (fun i => l.getD i 0) k (l.length - k)
  rw [show k + (l.length - k) = l.length by omega] at e
  rw [e, List.length_take, List.length_drop, Nat.min_eq_left h]
  congr 1
  · exact Sc.leN_congr _ _ _ fun i hi => (getD_take l k i hi).symm
  · congr 1
    exact Sc.leN_congr _ _ _ fun i _ => (getD_drop l k i).symm
theorem halves_eq (l : List Nat) (k : Nat) (h : k ≤ l.length) : scB (num l) = scB (num (scB (num (l.drop k))) * num (scB (num (powB k))) + num (scB (num (l.take k)))) := by
  rw [scB_num, scB_num, scB_num, num_powB]
  apply scB_congr
  rw [num_split l k h, Nat.add_comm (num (l.take k))]
  conv => rhs; rw [Nat.add_mod, Nat.mul_mod, Nat.mod_mod, Nat.mod_mod, Nat.mod_mod, ← Nat.mul_mod, ← Nat.add_mod]
set_option maxRecDepth 100000 in
set_option maxHeartbeats 4000000 in
theorem halves_long (cut : Int) (len cap : Nat) (a : Option Addr) (w : World) (hT : OTab w) (h : 64 < len) :
    Calls Tryd.prog 5 #[.slice a len cap, .int .i64 cut] w fun e w' => e = .returned (.bool true) ∧ w.grownBy w' none := by
  have HT := Lib.hid hT; clear hT
  go_enter Tryd.func5, Tryd.ntmps5
  go_wp2_with fail
  refine (awake_any w HT.out).mono ?_
  rintro e w1 ⟨rfl, hg1⟩
  have S1 := Lib.hid hg1; clear hg1
  have i0 : (64 : Int) < (len : Int) := by omega
  go_wp2
  go_ret
  exact ⟨rfl, S1.out⟩
set_option maxRecDepth 100000 in
set_option maxHeartbeats 12000000 in
theorem halves_walk (cut : Int) (len cap B : Nat) (a : Option Addr) (l : List Nat) (w : World) (hT : OTab w) (hl : l.length = len) (hP : BytesAt w B a cap l) (hlen : len ≤ 64) (hc1 : -9223372036854775808 ≤ cut) (hc2 : cut ≤ 9223372036854775807) :
    Calls Tryd.prog 5 #[.slice a len cap, .int .i64 cut] w fun e w' => e = .returned (.bool true) ∧ w.grownBy w' none := by
  have HT0 := Lib.hid hT; clear hT
  have HP := Lib.hid hP
  have hcap := hP.fits
  rw [hl] at hcap
  clear hP
  have HL := Lib.hid hl; clear hl
  have i0 : ¬ (64 : Int) < (len : Int) := by omega
  have HPK := Lib.hid (fun W => pick_any cut ((len : Int) + 1) W (by omega) (by omega) hc1 hc2)
  clear hc1 hc2
  go_enter Tryd.func5, Tryd.ntmps5
  go_wp2_with fail
  refine (awake_any w HT0.out).mono ?_
  rintro e w1 ⟨rfl, hg1⟩
  have S1 := Lib.hid hg1; clear hg1
  go_wp2_with fail
  refine (HPK.out _).mono ?_
  rintro e w2 ⟨k, hk, rfl, rfl⟩
  clear HPK
  by_cases h63 : k ≤ 63
  · have hmin : min (k : Int) 63 = (k : Int) := by omega
    have j63 : ¬ (63 : Int) < (k : Int) := by omega
    obtain ⟨w2, hmk, hg2, hs2, hb2⟩ := make_bytes k k w1 (Nat.le_refl _) (by omega)
    have hown := own_of_blk hb2 (List.length_replicate) (Nat.le_refl w1.heap.size) (by omega)
    have hrow : List.replicate k (u8N 0) = (List.replicate k 0).map u8N := by simp
    rw [hrow] at hown
    have hnb : BytesAt (w2.alloc (.cells #[u8N 1] 5)) (w2.heap.size + 1) (some ⟨w2.heap.size, 0, none⟩) 1 [1] := blk_bytes (l := [1]) (n := 1) (tl := []) (Blk.new w2 [u8N 1] 5) rfl (by decide) (by decide) (fun i => by cases i <;> simp) (by omega) (by simp)
    obtain ⟨vp, w3, hap, ho3, hg3⟩ := append_bytes (w2.alloc (.cells #[u8N 1] 5)) w1.heap.size k (w2.heap.size + 1) 1 1 _ _ _ [1] (hown.alloc _) rfl hnb (by omega) (by simp [hs2]; omega)
    rw [← List.map_append] at ho3
    have hpl : (List.replicate k 0 ++ [1]).length = k + 1 := by simp
    obtain ⟨gp, cp, rfl, hgp, hcp, hbp⟩ := own_bytesAt ho3 hpl (by omega) (powB_lt k)
    have hg13 : w1.grownBy w3 none := gb_own (gb_trans hg2 (gb_alloc (gb_refl w2 none) (.cells #[u8N 1] 5))) (hown.alloc _) (Nat.le_refl _) hg3
    have hsz : w2.heap.size + 1 = w1.heap.size + 2 := by omega
    clear hown hrow hnb ho3 hpl hb2 hgp hg2 hg3
    have HAP : Hid ((Builtin.append_ #[22, 22] 22 #[.slice (some ⟨w1.heap.size, 0, none⟩) k k, .slice (some ⟨w2.heap.size, 0, none⟩) 1 1]).run Tryd.prog (w2.alloc (.cells #[.int .u8 1] 5)) = .ok (.slice (some ⟨gp, 0, none⟩) (k + 1) cp) w3) := hap
    clear hap
    have hlk : k ≤ len := by omega
    obtain ⟨ad, hdr, had⟩ := slice_from a len cap k hlk
    obtain ⟨aT, htk, hat⟩ := slice_to a len cap k (by omega)
    have HSL := Lib.hid (And.intro hdr (And.intro had (And.intro htk hat))); clear hdr had htk hat
    have HW := Lib.hid (And.intro hg13 (And.intro hbp hcp)); clear hg13 hbp hcp
    have HZ := Lib.hid (And.intro hs2 hsz); clear hs2 hsz
    have HK := Lib.hid (And.intro hk (And.intro h63 (And.intro hlk (And.intro hcap hlen)))); clear hk h63 hlk hcap hlen
    go_wp2_with (at_builtin; refine wpList_append_run rfl (.tmp 19) (.tmp 20) 22 rfl rfl _ _ rfl rfl _ _ HAP.out ?_)
    have hg03 := gb_trans S1.out HW.out.1
    have HT := Lib.hid (HT0.out.stay hg03)
    have HP0 := Lib.hid (HP.out.stay hg03)
    have HPw : Hid (BytesAt w3 w3.heap.size (some ⟨gp, 0, none⟩) cp (powB k)) := HW.out.2.1
    have HD := Lib.hid (bytes_drop HP0.out HSL.out.2.1)
    have HKt := Lib.hid (bytes_take (k := k) HP0.out HSL.out.2.2.2)
    have HR1 := Lib.hid HSL.out.1
    have HR2 := Lib.hid HSL.out.2.2.1
    have hlk2 : k ≤ l.length := by rw [HL.out]; exact HK.out.2.2.1
    have HEq := Lib.hid (halves_eq l k hlk2)
    have hd1 : (l.drop k).length = len - k := by rw [List.length_drop, HL.out]
    have hd2 : (l.take k).length = k := by rw [List.length_take]; omega
    have q1 := HK.out.2.2.2.2
    have q2 := HK.out.2.1
    have HLN := Lib.hid (And.intro HL.out (And.intro q1 (And.intro hd1 (And.intro (show len - k ≤ 64 by omega) (And.intro (show k + 1 ≤ 64 by omega) (And.intro hd2 (show k ≤ 64 by omega)))))))
    have HG03 := Lib.hid hg03
    clear hg03 hlk2 hd1 hd2 q1 q2 HSL HAP HZ HW hmin i0
    refine wp_region_flow3 (Fg.its [.any, .any, .any, .any, .val (.bool true), .any, .any, .any, .any, .any, .any, .any, .any, .any, .any, .any, .any, .any, .any, .any, .any, .any, .any, .any, .val (.slice a len cap), .byt 32 (scB (num l)), .val (.slice a len cap), .val (.int .i64 (k : Int)), .byt (len - k) (l.drop k), .byt 32 (scB (num (l.drop k))), .val (.slice (some ⟨gp, 0, none⟩) (k + 1) cp), .byt 32 (scB (num (powB k))), .val (.slice a len cap), .val (.int .i64 (k : Int)), .byt k (l.take k), .byt 32 (scB (num (l.take k))), .byt 32 (scB (num (scB (num (l.drop k))) * num (scB (num (powB k))) + num (scB (num (l.take k))))), .val (.bool true)]) (fun _ => 0) (fun _ _ _ => True) (fun w => World.grownBy w3 w none) [] (by kernel_rfl) (by kernel_rfl) (by kernel_rfl) (gb_drew (gb_refl _ _)) (Fg.ptrs_nil _ _) (Fg.no_store (by kernel_rfl)) ?_ ?_
    · refine ⟨Fg.value rfl fun ac w h => ?_, ?_⟩
      · have e0 : ac.tmps.getD 0 undef = .slice a len cap := h.rest 0 (by kernel_rfl)
        have b0 := (HP0.out).stay h.base
        exact ⟨wants_none rfl, _, w, by simp only [execOp, Act.eval, e0]; rfl, gb_refl _ _, rfl⟩
      refine ⟨Fg.call rfl fun ac w h => ?_, ?_⟩
      · have e24 : ac.tmps.getD 24 undef = .slice a len cap := h.dep 24 (by kernel_rfl)
        have b24 := (HP0.out).stay h.base
        have x24 : ac.tmps[24]?.getD undef = .slice a len cap := by simpa using e24
        have hb := h.base
        refine ⟨wants_none rfl, 11, #[.slice a len cap], ?_, ?_⟩
        · clear h hb e24 b24
          go_simp
        · refine (reduceV _ _ _ _ l w HLN.out.1 HLN.out.2.1 b24 (HT.out.stay hb)).mono ?_
          intro e w1 hp
          obtain ⟨NB, rfl, hg, hbb⟩ := hp
          exact ⟨_, rfl, hg, ⟨_, _, _, rfl, hbb⟩⟩
      refine ⟨Fg.value rfl fun ac w h => ?_, ?_⟩
      · have e0 : ac.tmps.getD 0 undef = .slice a len cap := h.rest 0 (by kernel_rfl)
        have b0 := (HP0.out).stay h.base
        exact ⟨wants_none rfl, _, w, by simp only [execOp, Act.eval, e0]; rfl, gb_refl _ _, rfl⟩
      refine ⟨Fg.value rfl fun ac w h => ?_, ?_⟩
      · have e5 : ac.tmps.getD 5 undef = .int .i64 (k : Int) := h.rest 5 (by kernel_rfl)
        refine ⟨wants_none rfl, .int .i64 (k : Int), w, ?_, gb_refl _ _, rfl⟩
        clear h
        simp only [execOp, Act.eval, e5]
        go_simp
      refine ⟨Fg.value rfl fun ac w h => ?_, ?_⟩
      · have e26 : ac.tmps.getD 26 undef = .slice a len cap := h.dep 26 (by kernel_rfl)
        have b26 := (HP0.out).stay h.base
        have e27 : ac.tmps.getD 27 undef = .int .i64 (k : Int) := h.dep 27 (by kernel_rfl)
        refine ⟨wants_none rfl, .slice ad (len - k) (cap - k), w, ?_, gb_refl _ _, ⟨_, _, _, rfl, HD.out.stay h.base⟩⟩
        clear h
        have hrun := HR1.out w
        simp only [execOp, Act.eval, e26, e27, Option.map_some, Option.map_none]
        go_simp
      refine ⟨Fg.call rfl fun ac w h => ?_, ?_⟩
      · obtain ⟨a28, k28, B28, e28, b28⟩ : ∃ x c B, ac.tmps.getD 28 undef = .slice x (len - k) c ∧ BytesAt w B x c (l.drop k) := h.dep 28 (by kernel_rfl)
        have x28 : ac.tmps[28]?.getD undef = .slice a28 (len - k) k28 := by simpa using e28
        have hb := h.base
        refine ⟨wants_none rfl, 11, #[.slice a28 (len - k) k28], ?_, ?_⟩
        · clear h hb e28 b28
          go_simp
        · refine (reduceV _ _ _ _ (l.drop k) w HLN.out.2.2.1 HLN.out.2.2.2.1 b28 (HT.out.stay hb)).mono ?_
          intro e w1 hp
          obtain ⟨NB, rfl, hg, hbb⟩ := hp
          exact ⟨_, rfl, hg, ⟨_, _, _, rfl, hbb⟩⟩
      refine ⟨Fg.value rfl fun ac w h => ?_, ?_⟩
      · have e6 : ac.tmps.getD 6 undef = .slice (some ⟨gp, 0, none⟩) (k + 1) cp := h.rest 6 (by kernel_rfl)
        have b6 := (HPw.out).stay h.base
        exact ⟨wants_none rfl, _, w, by simp only [execOp, Act.eval, e6]; rfl, gb_refl _ _, rfl⟩
      refine ⟨Fg.call rfl fun ac w h => ?_, ?_⟩
      · have e30 : ac.tmps.getD 30 undef = .slice (some ⟨gp, 0, none⟩) (k + 1) cp := h.dep 30 (by kernel_rfl)
        have b30 := (HPw.out).stay h.base
        have x30 : ac.tmps[30]?.getD undef = .slice (some ⟨gp, 0, none⟩) (k + 1) cp := by simpa using e30
        have hb := h.base
        refine ⟨wants_none rfl, 11, #[.slice (some ⟨gp, 0, none⟩) (k + 1) cp], ?_, ?_⟩
        · clear h hb e30 b30
          go_simp
        · refine (reduceV _ _ _ _ (powB k) w (powB_length k) HLN.out.2.2.2.2.1 b30 (HT.out.stay hb)).mono ?_
          intro e w1 hp
          obtain ⟨NB, rfl, hg, hbb⟩ := hp
          exact ⟨_, rfl, hg, ⟨_, _, _, rfl, hbb⟩⟩
      refine ⟨Fg.value rfl fun ac w h => ?_, ?_⟩
      · have e0 : ac.tmps.getD 0 undef = .slice a len cap := h.rest 0 (by kernel_rfl)
        have b0 := (HP0.out).stay h.base
        exact ⟨wants_none rfl, _, w, by simp only [execOp, Act.eval, e0]; rfl, gb_refl _ _, rfl⟩
      refine ⟨Fg.value rfl fun ac w h => ?_, ?_⟩
      · have e5 : ac.tmps.getD 5 undef = .int .i64 (k : Int) := h.rest 5 (by kernel_rfl)
        refine ⟨wants_none rfl, .int .i64 (k : Int), w, ?_, gb_refl _ _, rfl⟩
        clear h
        simp only [execOp, Act.eval, e5]
        go_simp
      refine ⟨Fg.value rfl fun ac w h => ?_, ?_⟩
      · have e32 : ac.tmps.getD 32 undef = .slice a len cap := h.dep 32 (by kernel_rfl)
        have b32 := (HP0.out).stay h.base
        have e33 : ac.tmps.getD 33 undef = .int .i64 (k : Int) := h.dep 33 (by kernel_rfl)
        refine ⟨wants_none rfl, .slice aT k cap, w, ?_, gb_refl _ _, ⟨_, _, _, rfl, HKt.out.stay h.base⟩⟩
        clear h
        have hrun := HR2.out w
        simp only [execOp, Act.eval, e32, e33, Option.map_some, Option.map_none]
        go_simp
      refine ⟨Fg.call rfl fun ac w h => ?_, ?_⟩
      · obtain ⟨a34, k34, B34, e34, b34⟩ : ∃ x c B, ac.tmps.getD 34 undef = .slice x k c ∧ BytesAt w B x c (l.take k) := h.dep 34 (by kernel_rfl)
        have x34 : ac.tmps[34]?.getD undef = .slice a34 k k34 := by simpa using e34
        have hb := h.base
        refine ⟨wants_none rfl, 11, #[.slice a34 k k34], ?_, ?_⟩
        · clear h hb e34 b34
          go_simp
        · refine (reduceV _ _ _ _ (l.take k) w HLN.out.2.2.2.2.2.1 HLN.out.2.2.2.2.2.2 b34 (HT.out.stay hb)).mono ?_
          intro e w1 hp
          obtain ⟨NB, rfl, hg, hbb⟩ := hp
          exact ⟨_, rfl, hg, ⟨_, _, _, rfl, hbb⟩⟩
      refine ⟨Fg.call rfl fun ac w h => ?_, ?_⟩
      · obtain ⟨a29, k29, B29, e29, b29⟩ : ∃ x c B, ac.tmps.getD 29 undef = .slice x 32 c ∧ BytesAt w B x c (scB (num (l.drop k))) := h.dep 29 (by kernel_rfl)
        have x29 : ac.tmps[29]?.getD undef = .slice a29 32 k29 := by simpa using e29
        obtain ⟨a31, k31, B31, e31, b31⟩ : ∃ x c B, ac.tmps.getD 31 undef = .slice x 32 c ∧ BytesAt w B x c (scB (num (powB k))) := h.dep 31 (by kernel_rfl)
        have x31 : ac.tmps[31]?.getD undef = .slice a31 32 k31 := by simpa using e31
        obtain ⟨a35, k35, B35, e35, b35⟩ : ∃ x c B, ac.tmps.getD 35 undef = .slice x 32 c ∧ BytesAt w B x c (scB (num (l.take k))) := h.dep 35 (by kernel_rfl)
        have x35 : ac.tmps[35]?.getD undef = .slice a35 32 k35 := by simpa using e35
        have hb := h.base
        refine ⟨wants_none rfl, 14, #[.slice a29 32 k29, .slice a31 32 k31, .slice a35 32 k35], ?_, ?_⟩
        · clear h hb e29 e31 e35 b29 b31 b35
          go_simp
        · refine (mulV _ _ _ _ _ _ _ _ _ (scB (num (l.drop k))) (scB (num (powB k))) (scB (num (l.take k))) w rfl rfl rfl b29 b31 b35 (HT.out.stay hb)).mono ?_
          intro e w1 hp
          obtain ⟨NB, rfl, hg, hbb⟩ := hp
          exact ⟨_, rfl, hg, ⟨_, _, _, rfl, hbb⟩⟩
      refine ⟨Fg.call rfl fun ac w h => ?_, ?_⟩
      · obtain ⟨a25, k25, B25, e25, b25⟩ : ∃ x c B, ac.tmps.getD 25 undef = .slice x 32 c ∧ BytesAt w B x c (scB (num l)) := h.dep 25 (by kernel_rfl)
        have x25 : ac.tmps[25]?.getD undef = .slice a25 32 k25 := by simpa using e25
        obtain ⟨a36, k36, B36, e36, b36⟩ : ∃ x c B, ac.tmps.getD 36 undef = .slice x 32 c ∧ BytesAt w B x c (scB (num (scB (num (l.drop k))) * num (scB (num (powB k))) + num (scB (num (l.take k))))) := h.dep 36 (by kernel_rfl)
        have x36 : ac.tmps[36]?.getD undef = .slice a36 32 k36 := by simpa using e36
        have hb := h.base
        refine ⟨wants_none rfl, 16, #[.slice a25 32 k25, .slice a36 32 k36], ?_, ?_⟩
        · clear h hb e25 e36 b25 b36
          go_simp
        · refine (sameBytes_yes _ _ _ _ _ _ (scB (num l)) (scB (num (scB (num (l.drop k))) * num (scB (num (powB k))) + num (scB (num (l.take k))))) w (HEq.out) rfl b25 b36).mono ?_
          intro e w1 hp
          obtain ⟨rfl, hg⟩ := hp
          exact ⟨_, rfl, hg, rfl⟩
      refine ⟨Fg.value rfl fun ac w h => ?_, ?_⟩
      · have e37 : ac.tmps.getD 37 undef = .bool true := h.dep 37 (by kernel_rfl)
        refine ⟨wants_none rfl, .bool true, w, ?_, gb_refl _ _, rfl⟩
        clear h
        simp only [execOp, Act.eval, e37]
        go_simp
      trivial
    · intro q wq hB hsz hdf hrest hslots _
      have e4 : q.tmps.getD 4 undef = .bool true := hslots 4 (by kernel_rfl)
      have G := gb_trans HG03.out hB
      replace hdf : q.defers = [] := hdf
      clear hB hsz hrest hslots
      have e4x : q.tmps[4]?.getD undef = .bool true := by simpa using e4
      go_wp2_with fail
      refine bodyPost_ret (v := .bool true) ?_ hdf ⟨rfl, G⟩
      simp [results, Tryd.results5, go_sem, e4x]
  · have hmin : min (k : Int) 63 = 63 := by omega
    have j63 : (63 : Int) < (k : Int) := by omega
    obtain ⟨w2, hmk, hg2, hs2, hb2⟩ := make_bytes 63 63 w1 (Nat.le_refl _) (by omega)
    have hmk' : (Instr.makeSlice 22 (.int .i64 63) (.int .i64 63)).run Tryd.prog w1 = .ok (.slice (some ⟨w1.heap.size, 0, none⟩) 63 63) w2 := hmk
    have hown := own_of_blk hb2 (List.length_replicate) (Nat.le_refl w1.heap.size) (by omega)
    have hrow : List.replicate 63 (u8N 0) = (List.replicate 63 0).map u8N := by simp
    rw [hrow] at hown
    have hnb : BytesAt (w2.alloc (.cells #[u8N 1] 5)) (w2.heap.size + 1) (some ⟨w2.heap.size, 0, none⟩) 1 [1] := blk_bytes (l := [1]) (n := 1) (tl := []) (Blk.new w2 [u8N 1] 5) rfl (by decide) (by decide) (fun i => by cases i <;> simp) (by omega) (by simp)
    obtain ⟨vp, w3, hap, ho3, hg3⟩ := append_bytes (w2.alloc (.cells #[u8N 1] 5)) w1.heap.size 63 (w2.heap.size + 1) 1 1 _ _ _ [1] (hown.alloc _) rfl hnb (by omega) (by simp [hs2]; omega)
    rw [← List.map_append] at ho3
    have hpl : (List.replicate 63 0 ++ [1]).length = 63 + 1 := by simp
    obtain ⟨gp, cp, rfl, hgp, hcp, hbp⟩ := own_bytesAt ho3 hpl (by omega) (powB_lt 63)
    have hg13 : w1.grownBy w3 none := gb_own (gb_trans hg2 (gb_alloc (gb_refl w2 none) (.cells #[u8N 1] 5))) (hown.alloc _) (Nat.le_refl _) hg3
    have HAP : Hid ((Builtin.append_ #[22, 22] 22 #[.slice (some ⟨w1.heap.size, 0, none⟩) 63 63, .slice (some ⟨w2.heap.size, 0, none⟩) 1 1]).run Tryd.prog (w2.alloc (.cells #[.int .u8 1] 5)) = .ok (.slice (some ⟨gp, 0, none⟩) 64 cp) w3) := hap
    have HW := Lib.hid hg13
    clear hap hown hrow hnb ho3 hpl hb2 hgp hg2 hg3 hg13 hbp hcp hs2 hmk
    go_wp2_with (at_builtin; refine wpList_append_run rfl (.tmp 19) (.tmp 20) 22 rfl rfl _ _ rfl rfl _ _ HAP.out ?_)
    go_ret
    exact ⟨rfl, gb_trans S1.out HW.out⟩
end Go.Proofs.YtffjkabgaiijdaaDoor
