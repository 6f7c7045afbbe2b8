/- The document's Number, Bytes, Join (buttressref06). -/
import Derived.Test.YtlkiancedgaicaaGreatFlowT
namespace Go.Proofs.YtlkiancedgaicaaGreat
open Go.RowKit Ow Wi
theorem encN_take (n : Int) (k : Nat) (h : k < 8) : (encN n).take (k + 1) = (encN n).take k ++ [ofI n / 2 ^ (8 * (7 - k)) % 256] := by
  have hl : k < (encN n).length := by rw [encN_length]; exact h
  rw [List.take_succ_eq_append_getElem hl]
  congr 2
  simp [encN, encW]
set_option maxRecDepth 100000 in
set_option maxHeartbeats 2000000 in
theorem refNumber_any (n : Int) (w : World) : Calls Tryz.prog 16 #[.int .i64 n] w fun e w' => ∃ v, e = .returned v ∧ w.grownBy w' none ∧ w'.ownsRow w.heap.size 5 1 v 8 ((encN n).map u8N) := by
  have hw : IntKind.u64.wrap n = (ofI n : Nat) := by
    rw [show IntKind.u64.wrap n = n % 18446744073709551616 by simp [IntKind.wrap, IntKind.signed, IntKind.bits]]
    unfold ofI
    omega
  obtain ⟨m, hm⟩ : ∃ m, m = ofI n := ⟨_, rfl⟩
  rw [← hm] at hw
  have HM := Lib.hid hm; clear hm
  go_enter Tryz.func16, Tryz.ntmps16
  go_wp2_with fail
  go_loopw [3, 4] (fun v i wr => ∃ (k : Nat) (vr : Value), k ≤ 8 ∧ i = .int .i64 (7 - (k : Int)) ∧ vr = v ∧ Hid (w.grownBy wr none ∧ wr.ownsRow w.heap.size 5 1 vr k (((encN n).take k).map u8N))) (fun _ i _ => (intOf i + 1).toNat)
  case atStart => exact ⟨0, _, by decide, rfl, rfl, gb_refl _ _, World.ownsRow_nil w _ _ 1⟩
  case round =>
    obtain ⟨k, vr, hk, rfl, rfl, HI⟩ := hrel
    by_cases hlt : k < 8
    · obtain ⟨j, hj⟩ : ∃ j : Nat, j = 7 - k := ⟨_, rfl⟩
      have e7 : (7 : Int) - (k : Int) = (j : Int) := by omega
      rw [e7]
      have i0 : (0 : Int) ≤ (j : Int) := by omega
      have i1 : (j : Int) ≤ 7 := by omega
      obtain ⟨v2, w2, hap, ho2, hg2⟩ := append1_u8 wr w.heap.size k vr (.int .u8 ((m : Int) / 2 ^ (8 * (7 - k)) % 256)) _ HI.out.2 rfl (by omega) HI.out.1.size
      have hg3 := own_gb HI.out.1 HI.out.2 hg2
      have hv : [Value.int .u8 ((m : Int) / 2 ^ (8 * (7 - k)) % 256)] = [u8N (ofI n / 2 ^ (8 * (7 - k)) % 256)] := by
        rw [HM.out]; unfold u8N; simp
      rw [hv, ← List.map_singleton, ← List.map_append, ← encN_take n k hlt] at ho2
      have HN := Lib.hid (And.intro hg3 ho2)
      have HA := Lib.hid hap
      clear hg2 hg3 hv ho2 hap HI
      go_wp2_with (at_builtin; refine wpList_append_run rfl (.tmp 9) (.tmp 17) 23 rfl rfl _ _ rfl rfl _ _ HA.out ?_)
      go_roundw
      case rel => exact ⟨k + 1, v2, by omega, by congr 1; omega, rfl, HN.out⟩
      case measure => simp [intOf]; omega
    · obtain rfl : k = 8 := by omega
      have HI2 := HI.out.2
      rw [show (encN n).take 8 = encN n from by rw [← encN_length n]; exact List.take_length] at HI2
      have HN := Lib.hid (And.intro HI.out.1 HI2)
      clear HI HI2
      go_wp2
      go_ret
      exact ⟨vr, rfl, HN.out⟩
theorem refNumber_out (n : Int) (w : World) : Calls Tryz.prog 16 #[.int .i64 n] w (YOut w (encN n)) :=
  (refNumber_any n w).mono fun _ _ ⟨_, he, hg, ho⟩ => he ▸ bout_own hg ho (encN_length n) (encN_byte n)
set_option maxHeartbeats 2000000 in
theorem refBytes_out (n : Nat) (l : List Nat) (a : Option Addr) (cap B : Nat) (w : World) (hn : l.length = n) (h : BytesAt w B a cap l) (hl : l.length ≤ 900000) : Calls Tryz.prog 19 #[.slice a n cap] w (YOut w (encN (l.length : Int) ++ l)) := by
  subst hn
  have HN := Lib.hid (refNumber_any (l.length : Int) w)
  have HH := Lib.hid (And.intro h hl)
  obtain ⟨Q, hQ⟩ : ∃ Q, Q = YOut w (encN (l.length : Int) ++ l) := ⟨_, rfl⟩
  rw [← hQ]
  have HQ := Lib.hid hQ; clear hQ h hl
  go_enter Tryz.func19, Tryz.ntmps19
  go_wp2_with fail
  refine HN.out.mono ?_
  rintro e w1 ⟨v1, rfl, hg, ho⟩
  obtain ⟨v2, w2, hap, ho2, hg2⟩ := append_bytes w1 w.heap.size 8 B cap l.length v1 _ a l ho rfl (HH.out.1.stay hg) (by have := HH.out.2; omega) hg.size
  have hg3 := own_gb hg ho hg2
  rw [← List.map_append] at ho2
  have HR := Lib.hid (bout_own hg3 ho2 (by rw [List.length_append, encN_length]) (app_byte (encN_byte _) HH.out.1.byte))
  have HA := Lib.hid hap
  clear hg ho hap ho2 hg2 hg3 HN
  generalize l.length = m at *
  go_wp2_with (at_builtin; refine wpList_append_run rfl (.tmp 5) (.tmp 6) 23 rfl rfl _ _ rfl rfl _ _ HA.out ?_)
  rw [HQ.out]
  exact HR.out
set_option maxRecDepth 100000 in
set_option maxHeartbeats 2000000 in
theorem refJoin_own (n : Nat) (L : List (List Nat)) (a : Option Addr) (cap B : Nat) (w : World) (hn : L.length = n) (h : RowsAt w B a L) (hm : L.length < 9223372036854775808) (hl : L.flatten.length ≤ 1000000) (hb : ∀ l ∈ L, ∀ i, l.getD i 0 < 256) : Calls Tryz.prog 17 #[.slice a n cap] w (fun e w' => ∃ v, e = .returned v ∧ w.grownBy w' none ∧ w'.ownsRow w.heap.size 5 1 v L.flatten.length (L.flatten.map u8N)) := by
  have hn63 : n < 9223372036854775808 := by omega
  clear hm
  have HR := Lib.hid h; clear h
  have HL := Lib.hid (And.intro hl hb); clear hl hb
  have HM := Lib.hid hn; clear hn
  obtain ⟨Q, hQ⟩ : ∃ Q : Ending → World → Prop, Q = (fun e w' => ∃ v, e = .returned v ∧ w.grownBy w' none ∧ w'.ownsRow w.heap.size 5 1 v L.flatten.length (L.flatten.map u8N)) := ⟨_, rfl⟩
  rw [← hQ]
  have HQ := Lib.hid hQ; clear hQ
  go_enter Tryz.func17, Tryz.ntmps17
  go_wp2_with fail
  go_loopw [3, 4] (fun v i wr => ∃ (q : Nat) (u : Value), q ≤ n ∧ i = .int .i64 q ∧ u = v ∧ Hid (w.grownBy wr none ∧ wr.ownsRow w.heap.size 5 1 u (L.take q).flatten.length ((L.take q).flatten.map u8N))) (fun _ i _ => n - (intOf i).toNat)
  case atStart => exact ⟨0, _, by omega, rfl, rfl, gb_refl _ _, World.ownsRow_nil w _ _ 1⟩
  case round =>
    obtain ⟨q, vr, hq, rfl, rfl, HI⟩ := hrel
    by_cases hlt : q < n
    · obtain ⟨pb, po, ai, ci, rfl, hpb, k1, hB⟩ := HR.out.at (i := q) (by rw [HM.out]; exact hlt)
      have i0 : (q : Int) < (n : Int) := by omega
      have hN := flat_take L q (by rw [HM.out]; exact hlt)
      have hle := flat_le L (q + 1)
      have h6 := HL.out.1
      have hB2 := hB.stay HI.out.1
      have k2 : wr.cell? ⟨pb, po + q, none⟩ = some (.slice ai (L.getD q []).length ci) := by
        rw [gb_cell HI.out.1 (p := ⟨pb, po + q, none⟩) (Nat.lt_of_lt_of_le hpb HR.out.lim) (by simp)]; exact k1
      obtain ⟨v2, w2, hap, ho2, hg2⟩ := append_bytes wr w.heap.size _ B ci _ vr _ ai (L.getD q []) HI.out.2 rfl hB2 (by rw [hN, List.length_append] at hle; omega) HI.out.1.size
      have HN := Lib.hid (And.intro hN (And.intro ho2 (own_gb HI.out.1 HI.out.2 hg2)))
      have HA := Lib.hid hap
      clear hN hle h6 hB hB2 k1 ho2 hg2 hap HI
      obtain ⟨t, ht⟩ : ∃ t, t = (L.getD q []).length := ⟨_, rfl⟩
      rw [← ht] at HA k2
      have HT := Lib.hid ht; clear ht
      go_wp2_with (at_builtin; refine wpList_append_run rfl (.tmp 11) (.tmp 15) 23 rfl rfl _ _ rfl rfl _ _ HA.out ?_)
      go_roundw
      case rel => exact ⟨q + 1, v2, by omega, by go_num, rfl, HN.out.2.2, by rw [HN.out.1, List.length_append, List.map_append]; exact HN.out.2.1⟩
      case measure => simp [intOf]; omega
    · obtain rfl : q = n := by omega
      have e0 : L.take q = L := by rw [← HM.out]; exact List.take_length
      have hI := HI.out
      rw [e0] at hI
      have HF := Lib.hid hI
      clear hI HI e0
      go_wp2
      rw [HQ.out]
      exact ⟨_, rfl, HF.out.1, HF.out.2⟩
theorem refJoin_out (n : Nat) (L : List (List Nat)) (a : Option Addr) (cap B : Nat) (w : World) (hn : L.length = n) (h : RowsAt w B a L) (hm : L.length < 9223372036854775808) (hl : L.flatten.length ≤ 1000000) (hb : ∀ l ∈ L, ∀ i, l.getD i 0 < 256) : Calls Tryz.prog 17 #[.slice a n cap] w (YOut w L.flatten) :=
  (refJoin_own n L a cap B w hn h hm hl hb).mono fun _ _ ⟨_, he, hg, ho⟩ => he ▸ bout_own hg ho rfl (flat_byte hb)
end Go.Proofs.YtlkiancedgaicaaGreat
