/- slices.Grow, slices.Concat, wire.Join: rows of bytes, one behind the other, in new memory. -/
import Derived.Test.YtlkiancedgaicaaGreatAppendMake
import Derived.Test.YtlkiancedgaicaaGreatRowsArg
import Derived.Test.YtlkiancedgaicaaGreatOwnRows
import Derived.Test.YtlkiancedgaicaaGreatOwnDown
import Derived.Test.YtlkiancedgaicaaGreatPart
import Derived.Test.YtlkiancedgaicaaGreatFlowS
namespace Go.Proofs.YtlkiancedgaicaaGreat
open Go.RowKit Ow

set_option maxRecDepth 100000 in
set_option maxHeartbeats 800000 in
theorem grow_any (n : Nat) (w : World) (hn : n ≤ 1000000) :
    Calls Tryz.prog 92 #[.slice none 0 0, .int .i64 n] w fun e w' => ∃ v, e = .returned v ∧ w.grownBy w' none ∧ w'.ownsRow w.heap.size 5 1 v 0 [] := by
  have i0 : ¬ (n : Int) < 0 := by omega
  by_cases hz : n = 0
  · subst hz
    go_enter Tryz.func92, Tryz.ntmps92
    go_wp2
    go_ret
    exact ⟨_, rfl, gb_refl _ _, World.ownsRow_nil w _ 5 1⟩
  · have i1 : (0 : Int) < (n : Int) := by omega
    obtain ⟨a0, hs0, _⟩ := slice_to none 0 0 0 (Nat.le_refl _)
    obtain ⟨v2, w2, hr2, ho2, hg2⟩ := append_zeros w w.heap.size 0 n (.slice none 0 0) [] (World.ownsRow_nil w _ 5 1) (by omega) (by omega) (Nat.le_refl _)
    rw [Nat.zero_add, List.nil_append] at ho2
    obtain ⟨g, c, rfl, hbg, hnc, hcm, hlt⟩ := own_some ho2 (by omega)
    obtain ⟨a1, hs1, ha1⟩ := slice_to (some ⟨g, 0, none⟩) n c 0 (Nat.zero_le _)
    rw [ha1 g 0 rfl] at hs1
    have ho3 := own_take ho2 (Nat.zero_le n)
    rw [List.take_zero] at ho3
    have H := Lib.hid (And.intro hg2 ho3); clear ho2 hg2 ho3
    have HR := Lib.hid hr2; clear hr2
    have HS := Lib.hid (And.intro hs0 hs1); clear hs0 hs1
    go_enter Tryz.func92, Tryz.ntmps92
    go_wp2_with (at_builtin; refine Lib.wpList_append_run w rfl (.tmp 20) (.tmp 21) 23 3 rfl (.slice none 0 0) (.int .i64 (n : Int)) rfl rfl _ _ HR.out ?_)
    go_ret
    exact ⟨_, rfl, H.out.1, H.out.2⟩

theorem flat_take (L : List (List Nat)) (k : Nat) (hk : k < L.length) : (L.take (k + 1)).flatten = (L.take k).flatten ++ L.getD k [] := by
  rw [List.take_succ_eq_append_getElem hk, List.flatten_append, List.getD_eq_getElem?_getD, List.getElem?_eq_getElem hk]
  simp
theorem flat_le (L : List (List Nat)) (k : Nat) : (L.take k).flatten.length ≤ L.flatten.length := by
  conv => rhs; rw [← List.take_append_drop k L]
  rw [List.flatten_append, List.length_append]; omega
set_option maxRecDepth 100000 in
set_option maxHeartbeats 1600000 in
theorem concat_any (m cap B : Nat) (L : List (List Nat)) (a : Option Addr) (w : World) (hm : L.length = m) (hR : RowsAt w B a L) (hm2 : m < 9223372036854775808) (hlen : L.flatten.length ≤ 1000000) :
    Calls Tryz.prog 55 #[.slice a m cap] w fun e w' => ∃ v, e = .returned v ∧ w.grownBy w' none ∧ w'.ownsRow w.heap.size 5 1 v L.flatten.length (L.flatten.map u8N) := by
  have HR := Lib.hid hR; clear hR
  have HL := Lib.hid hlen; clear hlen
  have HM := Lib.hid hm; clear hm
  go_enter Tryz.func55, Tryz.ntmps55
  go_wp2_with (fail)
  go_loopw [3, 11] (fun v i wr => ∃ k j : Nat, k ≤ m ∧ i = .int .i64 k ∧ v = .int .i64 ((L.take k).flatten.length : Nat) ∧ wr = w.drewN j) (fun _ i _ => m - (intOf i).toNat)
  case atStart => exact ⟨0, 0, by omega, rfl, rfl, rfl⟩
  case round =>
    obtain ⟨k, j, hk, rfl, rfl, rfl⟩ := hrel
    by_cases hlt : k < m
    · obtain ⟨pb, po, ai, ci, rfl, hpb, k1, hB⟩ := HR.out.at (i := k) (by rw [HM.out]; exact hlt)
      have i0 : (k : Int) < (m : Int) := by omega
      have hN := flat_take L k (by rw [HM.out]; exact hlt)
      have hN' : (L.take (k + 1)).flatten.length = (L.take k).flatten.length + (L.getD k []).length := by rw [hN, List.length_append]
      have hle := flat_le L (k + 1)
      have h6 := HL.out
      have i1 : ¬ (((L.take k).flatten.length : Nat) : Int) + (((L.getD k []).length : Nat) : Int) < 0 := by omega
      have i2 : (((L.take k).flatten.length : Nat) : Int) + (((L.getD k []).length : Nat) : Int) ≤ 1000000 := by omega
      clear hN hle h6 hB
      have HN := Lib.hid hN'; clear hN'
      generalize (L.take k).flatten.length = s at *
      generalize (L.getD k []).length = t at *
      go_wp2_with fail
      exact ⟨⟨k + 1, j, by omega, rfl, by rw [HN.out]; rfl, rfl⟩, by show m - ((k : Int) + 1).toNat < m - (k : Int).toNat; omega⟩
    · obtain rfl : k = m := by omega
      clear hlt
      have e0 : L.take k = L := by rw [← HM.out]; exact List.take_length
      rw [e0]
      obtain ⟨s, hs⟩ : ∃ s, s = L.flatten.length := ⟨_, rfl⟩
      rw [← hs] at HL ⊢
      have HS := Lib.hid (And.intro hs e0); clear hs e0
      have gw : w.grownBy (w.drewN j) none := gb_drewN (gb_refl _ _) j
      go_wp2_with (fail)
      refine (grow_any s (w.drewN j) HL.out).mono ?_
      rintro e w1 ⟨v, rfl, hg, ho⟩
      have HG := Lib.hid (And.intro (gb_trans gw hg) (own_down ho gw.size)); clear hg ho gw
      go_wp2_with (fail)
      go_loopw [6, 27] (fun v i wr => ∃ (q : Nat) (u : Value), u = v ∧ q ≤ k ∧ i = .int .i64 q ∧ w.grownBy wr none ∧ wr.ownsRow w.heap.size 5 1 u (L.take q).flatten.length ((L.take q).flatten.map u8N)) (fun _ i _ => k - (intOf i).toNat)
      case atStart => exact ⟨0, _, rfl, by omega, rfl, HG.out⟩
      case round =>
        obtain ⟨q, vr, rfl, hq, rfl, hg, ho⟩ := hrel
        by_cases hlt : q < k
        · obtain ⟨pb, po, ai, ci, rfl, hpb, k1, hB⟩ := HR.out.at (i := q) (by rw [HM.out]; exact hlt)
          have i0 : (q : Int) < (k : Int) := by omega
          have hN := flat_take L q (by rw [HM.out]; exact hlt)
          have hle := flat_le L (q + 1)
          have h6 := HL.out
          have hB2 := hB.stay hg
          have k2 : wr.cell? ⟨pb, po + q, none⟩ = some (.slice ai (L.getD q []).length ci) := by
            rw [gb_cell hg (p := ⟨pb, po + q, none⟩) (Nat.lt_of_lt_of_le hpb HR.out.lim) (by simp)]; exact k1
          obtain ⟨v2, w2, hr2, ho2, hg2⟩ := append_bytes wr w.heap.size _ B ci _ vr _ ai (L.getD q []) ho rfl hB2 (by have e := HS.out.1; rw [hN, List.length_append, ← e] at hle; omega) hg.size
          have HN := Lib.hid (And.intro hN (And.intro ho2 (own_gb hg ho hg2))); clear hN hle h6 hB hB2 k1 ho2 hg2
          have hap := hr2; clear hr2
          obtain ⟨t, ht⟩ : ∃ t, t = (L.getD q []).length := ⟨_, rfl⟩
          rw [← ht] at hap k2
          have HT := Lib.hid ht; clear ht
          go_wp2_with (at_builtin; refine wpList_append_run rfl (.tmp 31) (.tmp 32) 23 rfl rfl _ _ rfl rfl _ _ hap ?_)
          exact ⟨⟨q + 1, _, rfl, by omega, rfl, HN.out.2.2, by rw [HN.out.1, List.length_append, List.map_append]; exact HN.out.2.1⟩, by show k - ((q : Int) + 1).toNat < k - (q : Int).toNat; omega⟩
        · obtain rfl : q = k := by omega
          clear hlt
          have HI := Lib.hid (And.intro hg ho); clear hg ho
          go_wp2_with (fail)
          go_ret
          obtain ⟨hg, ho⟩ := HI.out
          rw [HS.out.2] at ho
          exact ⟨_, rfl, hg, ho⟩
set_option maxRecDepth 100000 in
set_option maxHeartbeats 400000 in
theorem join_any (m cap B : Nat) (L : List (List Nat)) (a : Option Addr) (w : World) (hm : L.length = m) (hR : RowsAt w B a L) (hm2 : m < 9223372036854775808) (hlen : L.flatten.length ≤ 1000000) :
    Calls Tryz.prog 14 #[.slice a m cap] w fun e w' => ∃ v, e = .returned v ∧ w.grownBy w' none ∧ w'.ownsRow w.heap.size 5 1 v L.flatten.length (L.flatten.map u8N) := by
  have HC := Lib.hid (concat_any m cap B L a w hm hR hm2 hlen); clear hm hR hm2 hlen
  go_enter Tryz.func14, Tryz.ntmps14
  go_wp2_with (fail)
  refine HC.out.mono ?_
  rintro e w' ⟨v, rfl, hr⟩
  have H := Lib.hid hr; clear hr
  go_wp2
  go_ret
  exact ⟨v, rfl, H.out⟩
end Go.Proofs.YtlkiancedgaicaaGreat
