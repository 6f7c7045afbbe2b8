/- wire: WireBack. -/
import Derived.Test.YtjfclcoppedmoaaWiReads
import Derived.Test.YtjfclcoppedmoaaWiRows
import Derived.Test.YtjfclcoppedmoaaWiPick
namespace Go.Proofs.Ytjfclcoppedmoaa
open Go.RowKit Ow Wi

def encR (r : List Nat) : List Nat := encN (r.length : Int) ++ r
def sumL (L : List (List Nat)) : Nat := (L.map List.length).sum
theorem encR_length (r : List Nat) : (encR r).length = 8 + r.length := by unfold encR; rw [List.length_append, encN_length]
theorem encR_lt (r : List Nat) (h : ∀ i, r.getD i 0 < 256) (i : Nat) : (encR r).getD i 0 < 256 := by
  unfold encR
  rw [List.getD_eq_getElem?_getD, List.getElem?_append]
  split
  · rw [← List.getD_eq_getElem?_getD]; exact encN_byte _ _
  · rw [← List.getD_eq_getElem?_getD]; exact h _
theorem sum_take (L : List (List Nat)) (k : Nat) (hk : k < L.length) : sumL (L.take (k + 1)) = sumL (L.take k) + (L.getD k []).length := by
  unfold sumL
  rw [List.take_succ_eq_append_getElem hk, List.map_append, List.sum_append, List.getD_eq_getElem?_getD, List.getElem?_eq_getElem hk]
  simp
theorem sum_mem (L : List (List Nat)) : ∀ r ∈ L, r.length ≤ sumL L := by
  induction L with
  | nil => intro r h; simp at h
  | cons x L ih =>
    intro r h
    unfold sumL at ih ⊢
    rw [List.map_cons, List.sum_cons]
    rcases List.mem_cons.1 h with rfl | h
    · omega
    · have := ih r h; omega
theorem size_sum (L : List (List Nat)) : size L = 8 * L.length + sumL L := by
  unfold size sumL
  induction L with
  | nil => rfl
  | cons x L ih => rw [List.map_cons, List.map_cons, List.sum_cons, List.sum_cons, List.length_cons]; omega
theorem map_take_succ {α β : Type} (f : α → β) (L : List α) (k : Nat) (z : α) (hk : k < L.length) : (L.take (k + 1)).map f = (L.take k).map f ++ [f (L.getD k z)] := by
  rw [List.take_succ_eq_append_getElem hk, List.map_append, List.getD_eq_getElem?_getD, List.getElem?_eq_getElem hk]; rfl
theorem flat_rows (rows : List (List Nat)) (nums : List Int) : (rows.map encR ++ nums.map encN).flatten = encRows rows ++ encNums nums := by
  rw [List.flatten_append]
  unfold encRows encNums
  rw [List.flatMap_def, List.flatMap_def]
  rfl
theorem enc_lt (rows : List (List Nat)) (nums : List Int) (h : ∀ r ∈ rows, ∀ i, r.getD i 0 < 256) : ∀ x ∈ encRows rows ++ encNums nums, x < 256 := by
  intro x hx
  rcases List.mem_append.1 hx with hx | hx
  · unfold encRows at hx
    obtain ⟨r, hr, hx⟩ := List.mem_flatMap.1 hx
    exact getD_mem (encR_lt r (h r hr)) x hx
  · unfold encNums at hx
    obtain ⟨r, hr, hx⟩ := List.mem_flatMap.1 hx
    exact getD_mem (encN_byte r) x hx
theorem rows_lt {w : World} {B : Nat} {a : Option Addr} {L : List (List Nat)} (h : RowsAt w B a L) : ∀ r ∈ L, ∀ i, r.getD i 0 < 256 := by
  intro r hr i
  obtain ⟨k, hk, rfl⟩ := List.getElem_of_mem hr
  obtain ⟨_, _, _, _, _, _, _, hB⟩ := h.at hk
  have h2 := hB.byte i
  rwa [show L.getD k [] = L[k] by rw [List.getD_eq_getElem?_getD, List.getElem?_eq_getElem hk]; rfl] at h2
/-- what lies in a row of parts, its own block -/
theorem Parts.block {w : World} {base : Nat} {v : Value} {L : List (List Nat)} (h : Parts w base v L) : ∀ g, v.ownBlock = some g → base ≤ g ∧ g < w.heap.size := by
  obtain ⟨xs, ho, _⟩ := h
  intro g e
  rcases own_shape ho with ⟨rfl, _⟩ | ⟨g', c, rfl⟩
  · cases e
  · simp only [Value.ownBlock, Option.some.injEq] at e
    subst e
    exact ⟨(own_lt ho).2.1, (own_lt ho).1⟩
theorem Parts.gb {w a b : World} {v : Value} {L : List (List Nat)} (hg : w.grownBy a none) (h : Parts a w.heap.size v L) (k : a.grownBy b v.ownBlock) : w.grownBy b none := by
  obtain ⟨xs, ho, _⟩ := h
  exact own_gb hg ho k

set_option maxRecDepth 100000 in
set_option maxHeartbeats 8000000 in
theorem wireBack_any (n1 c1 B1 n2 c2 B2 : Nat) (a1 a2 : Option Addr) (rows : List (List Nat)) (nums : List Int) (cut : Int) (w : World) (hrows : rows.length = n1) (hn1 : n1 ≤ 140737488351232) (hR : RowsAt w B1 a1 rows) (hrl : ∀ r ∈ rows, r.length ≤ 140737488351232)
    (hnums : nums.length = n2) (hn2 : n2 ≤ 140737488351232) (hI : IntsAt w B2 a2 nums) (hc1 : -9223372036854775808 ≤ cut) (hc2 : cut ≤ 9223372036854775807) :
    Calls Try.prog 4 #[.slice a1 n1 c1, .slice a2 n2 c2, .int .i64 cut] w fun e w' => e = .returned (.bool true) ∧ w.grownBy w' none := by
  have HR := Lib.hid (And.intro hrows (And.intro hR hrl)); clear hrows hR hrl
  have HI := Lib.hid (And.intro hnums hI); clear hnums hI
  have HC := Lib.hid (And.intro hc1 hc2); clear hc1 hc2
  go_enter Try.func4, Try.ntmps4
  go_wp2_with fail
  refine (wawake_any w).mono ?_
  rintro e w1 ⟨rfl, hg⟩
  have H1 := Lib.hid hg; clear hg
  go_wp2_with fail
  go_loopw [7, 8] (fun v i wr => ∃ k c : Nat, k ≤ n1 ∧ i = .int .i64 k ∧ v = .int .i64 c ∧ c ≤ 300000000000000 ∧ c = n1 + n2 + sumL (rows.take k) ∧ w.grownBy wr none) (fun _ i _ => n1 - (intOf i).toNat)
  case atStart => exact ⟨0, n1 + n2, by omega, rfl, rfl, by omega, by simp [sumL], H1.out⟩
  case round =>
    obtain ⟨k, c, hk, rfl, rfl, hc, hcs, hg⟩ := hrel
    by_cases hbig : 20000 < c
    · have j0 : ¬ (c : Int) ≤ 20000 := by omega
      have j1 : (20000 : Int) < c := by omega
      have HG := Lib.hid hg; clear hg hcs
      by_cases hlt : k < n1
      · have i0 : (k : Int) < (n1 : Int) := by omega
        go_wp2
        go_ret
        exact ⟨rfl, HG.out⟩
      · have i0 : ¬ (k : Int) < (n1 : Int) := by omega
        go_wp2
        go_ret
        exact ⟨rfl, HG.out⟩
    have j0 : (c : Int) ≤ 20000 := by omega
    have j1 : ¬ (20000 : Int) < c := by omega
    by_cases hlt : k < n1
    · obtain ⟨pb, po, ai, ci, rfl, hpb, k1, hB⟩ := HR.out.2.1.at (i := k) (by rw [HR.out.1]; exact hlt)
      have i0 : (k : Int) < (n1 : Int) := by omega
      have k2 : wr.cell? ⟨pb, po + k, none⟩ = some (.slice ai (rows.getD k []).length ci) := by
        rw [gb_cell hg (p := ⟨pb, po + k, none⟩) (Nat.lt_of_lt_of_le hpb HR.out.2.1.lim) (by simp)]; exact k1
      have hrl : (rows.getD k []).length ≤ 140737488351232 := HR.out.2.2 _ (by rw [List.getD_eq_getElem?_getD, List.getElem?_eq_getElem (by rw [HR.out.1]; exact hlt)]; exact List.getElem_mem _)
      have hs := sum_take rows k (by rw [HR.out.1]; exact hlt)
      obtain ⟨t, ht⟩ : ∃ t, t = (rows.getD k []).length := ⟨_, rfl⟩
      rw [← ht] at k2 hrl hs
      have HK := Lib.hid (And.intro hg (And.intro hcs hs)); clear hg hcs hs ht k1 hB
      go_wp2_with fail
      exact ⟨⟨k + 1, c + t, hlt, rfl, rfl, by omega, by rw [HK.out.2.2, HK.out.2.1]; omega, HK.out.1⟩, by show n1 - ((k : Int) + 1).toNat < n1 - (k : Int).toNat; omega⟩
    have hkn : k = n1 := by omega
    subst hkn
    have i0 : ¬ (k : Int) < (k : Int) := by omega
    rw [show rows.take k = rows by rw [← HR.out.1]; exact List.take_length] at hcs
    by_cases hm1 : 200 < k
    · have m1 : (200 : Int) < k := by omega
      have HG := Lib.hid hg; clear hg hcs
      go_wp2
      go_ret
      exact ⟨rfl, HG.out⟩
    have m1 : ¬ (200 : Int) < k := by omega
    by_cases hm2 : 200 < n2
    · have m2 : (200 : Int) < n2 := by omega
      have HG := Lib.hid hg; clear hg hcs
      go_wp2
      go_ret
      exact ⟨rfl, HG.out⟩
    have m2 : ¬ (200 : Int) < n2 := by omega
    have hsum : sumL rows ≤ 20000 := by omega
    have HG := Lib.hid (And.intro hg hsum); clear hg hcs hsum
    go_wp2_with fail
    go_loopw [9, 10] (fun v i ws => ∃ (q : Nat) (u : Value), u = v ∧ q ≤ k ∧ i = .int .i64 q ∧ w.grownBy ws none ∧ Parts ws w.heap.size u ((rows.take q).map encR)) (fun _ i _ => k - (intOf i).toNat)
    case atStart => exact ⟨0, _, rfl, by omega, rfl, HG.out.1, Parts.nil _ _⟩
    case round =>
      obtain ⟨q, v, rfl, hq, rfl, hg, hp⟩ := hrel
      by_cases hlt : q < k
      · obtain ⟨pb, po, ai, ci, rfl, hpb, k1, hB⟩ := HR.out.2.1.at (i := q) (by rw [HR.out.1]; exact hlt)
        have i1 : (q : Int) < (k : Int) := by omega
        have k2 : wr.cell? ⟨pb, po + q, none⟩ = some (.slice ai (rows.getD q []).length ci) := by
          rw [gb_cell hg (p := ⟨pb, po + q, none⟩) (Nat.lt_of_lt_of_le hpb HR.out.2.1.lim) (by simp)]; exact k1
        have hmem : (rows.getD q []) ∈ rows := by rw [List.getD_eq_getElem?_getD, List.getElem?_eq_getElem (by rw [HR.out.1]; exact hlt)]; exact List.getElem_mem _
        have hmap := map_take_succ encR rows q [] (by rw [HR.out.1]; exact hlt)
        have hplen : ((rows.take q).map encR).length ≤ 1000000 := by rw [List.length_map, List.length_take]; omega
        obtain ⟨row, hrow⟩ : ∃ row, row = rows.getD q [] := ⟨_, rfl⟩
        rw [← hrow] at k2 hB hmem hmap
        have hrl : row.length ≤ 20000 := Nat.le_trans (sum_mem rows row hmem) HG.out.2
        obtain ⟨t, ht⟩ : ∃ t, t = row.length := ⟨_, rfl⟩
        rw [← ht] at k2 hrl
        have hbw := hB.stay hg
        have hbf := Lib.hid (bytesF_any t ci _ ai row wr ht.symm (by omega) hbw)
        generalize (rows.take q).map encR = L at *
        have HK := Lib.hid (And.intro hg (And.intro hp (And.intro hmap (And.intro hplen (And.intro hbw.byte ht))))); clear hg hp hmap hplen ht k1 hB hbw hrow hmem hpb
        go_wp2_with fail
        refine hbf.out.mono ?_
        rintro e w3 ⟨v3, rfl, hg3, ho3⟩
        obtain ⟨a3, c3, rfl, hl3, hB3, hbs⟩ := own_slice (l := encR row) (by unfold encR; rw [← HK.out.2.2.2.2.2]; exact ho3) (encR_lt row HK.out.2.2.2.2.1)
        have hpb := Parts.block HK.out.2.1
        obtain ⟨v4, w4, hap, hp4, hg4, _⟩ := parts_push w3 w.heap.size v L a3 (8 + t) c3 (encR row) (HK.out.2.1.stay hg3) hl3 hB3 (fun pb po e => ⟨fun e2 => by have h1 := (hbs pb po e).1; have h2 := (hpb pb e2).2; omega, (hbs pb po e).2⟩) (gb_trans HK.out.1 hg3).size HK.out.2.2.2.1
        have H4 := Lib.hid (And.intro (Parts.gb (gb_trans HK.out.1 hg3) (HK.out.2.1.stay hg3) hg4) hp4); clear hg3 ho3 hB3 hbs hpb hp4 hg4 hbf hl3
        go_wp2_with (at_builtin; refine wpList_append_run rfl (.tmp 55) (.tmp 61) 34 rfl rfl _ _ rfl rfl _ _ hap ?_)
        exact ⟨⟨q + 1, _, rfl, hlt, rfl, H4.out.1, by rw [HK.out.2.2.1]; exact H4.out.2⟩, by show k - ((q : Int) + 1).toNat < k - (q : Int).toNat; omega⟩
      have hqk : q = k := by omega
      subst hqk
      have i1 : ¬ (q : Int) < (q : Int) := by omega
      rw [show rows.take q = rows by rw [← HR.out.1]; exact List.take_length] at hp
      have HP := Lib.hid (And.intro hg hp); clear hg hp
      go_wp2_with fail
      go_loopw [9, 11] (fun v i ws => ∃ (p : Nat) (u : Value), u = v ∧ p ≤ n2 ∧ i = .int .i64 p ∧ w.grownBy ws none ∧ Parts ws w.heap.size u (rows.map encR ++ (nums.take p).map encN)) (fun _ i _ => n2 - (intOf i).toNat)
      case atStart => exact ⟨0, _, rfl, by omega, rfl, HP.out.1, by rw [List.take_zero, List.map_nil, List.append_nil]; exact HP.out.2⟩
      case round =>
        obtain ⟨p, v, rfl, hp, rfl, hg, hps⟩ := hrel
        by_cases hlt : p < n2
        · obtain ⟨pb, po, rfl, hpb, k1⟩ := HI.out.2.at (i := p) (by rw [HI.out.1]; exact hlt)
          have i2 : (p : Int) < (n2 : Int) := by omega
          have k2 : wr.cell? ⟨pb, po + p, none⟩ = some (.int .i64 (nums.getD p 0)) := by
            rw [gb_cell hg (p := ⟨pb, po + p, none⟩) (Nat.lt_of_lt_of_le hpb HI.out.2.lim) (by simp)]; exact k1
          have hmap : rows.map encR ++ (nums.take (p + 1)).map encN = (rows.map encR ++ (nums.take p).map encN) ++ [encN (nums.getD p 0)] := by
            rw [map_take_succ encN nums p 0 (by rw [HI.out.1]; exact hlt), List.append_assoc]
          have hplen : (rows.map encR ++ (nums.take p).map encN).length ≤ 1000000 := by rw [List.length_append, List.length_map, List.length_map, List.length_take, HR.out.1]; omega
          generalize nums.getD p 0 = x at *
          generalize rows.map encR ++ (nums.take p).map encN = L at *
          have HNF := Lib.hid (numF_any x wr)
          have HK := Lib.hid (And.intro hg (And.intro hps (And.intro hmap hplen))); clear hg hps hmap hplen k1 hpb
          go_wp2_with fail
          refine HNF.out.mono ?_
          rintro e w3 ⟨g3, rfl, hg3, hge, hb3⟩
          have hpb := Parts.block HK.out.2.1
          obtain ⟨v4, w4, hap, hp4, hg4, _⟩ := parts_push w3 w.heap.size v L (some ⟨g3, 0, none⟩) 8 8 (encN x) (HK.out.2.1.stay hg3) (encN_length x) (numF_bytes hb3) (fun pb po e => by cases e; exact ⟨fun e2 => by have h2 := (hpb g3 e2).2; omega, hb3.lt⟩) (gb_trans HK.out.1 hg3).size HK.out.2.2.2
          have H4 := Lib.hid (And.intro (Parts.gb (gb_trans HK.out.1 hg3) (HK.out.2.1.stay hg3) hg4) hp4); clear hg3 hb3 hge hpb hp4 hg4 HNF
          go_wp2_with (at_builtin; refine wpList_append_run rfl (.tmp 69) (.tmp 75) 34 rfl rfl _ _ rfl rfl _ _ hap ?_)
          exact ⟨⟨p + 1, _, rfl, hlt, rfl, H4.out.1, by rw [HK.out.2.2.1]; exact H4.out.2⟩, by show n2 - ((p : Int) + 1).toNat < n2 - (p : Int).toNat; omega⟩
        have hpk : p = n2 := by omega
        subst hpk
        have i2 : ¬ (p : Int) < (p : Int) := by omega
        rw [show nums.take p = nums by rw [← HI.out.1]; exact List.take_length] at hps
        obtain ⟨aP, cP, rfl, hRP⟩ := hps.rows
        rw [show (rows.map encR ++ nums.map encN).length = q + p by rw [List.length_append, List.length_map, List.length_map, HR.out.1, HI.out.1]]
        have hEl : (encRows rows ++ encNums nums).length ≤ 30000 := by
          rw [List.length_append, encRows_length, encNums_length, size_sum, HR.out.1, HI.out.1]
          have := HG.out.2
          omega
        have hEb := lt_all _ (enc_lt rows nums (rows_lt HR.out.2.1))
        have hyes := reads_put rows nums (fun r hr => by have h1 := sum_mem rows r hr; have h2 := HG.out.2; omega) HI.out.2.wf
        have hno := fun (l : List Nat) => reads_other (l := l) (rows := rows) (nums := nums)
        have hjoin := join_any (q + p) cP _ (rows.map encR ++ nums.map encN) aP wr (by rw [List.length_append, List.length_map, List.length_map, HR.out.1, HI.out.1]) hRP (by omega) (by rw [flat_rows]; omega)
        rw [flat_rows] at hjoin
        generalize encRows rows ++ encNums nums = E at *
        have HE := Lib.hid (And.intro (And.intro hEl hEb) (And.intro hyes (And.intro hno hg))); clear hEl hEb hyes hno hps hRP hg
        have HJ := Lib.hid hjoin; clear hjoin
        have hrl : Hid (∀ r ∈ rows, r.length ≤ 100000) := fun r hr => by have h1 := sum_mem rows r hr; have h2 := HG.out.2; omega
        go_wp2_with fail
        refine HJ.out.mono ?_
        rintro e w3 ⟨v3, rfl, hg3, ho3⟩
        obtain ⟨a3, c3, rfl, _, hB3, _⟩ := own_slice ho3 HE.out.1.2
        have H3 := Lib.hid (And.intro (gb_trans HE.out.2.2.2 hg3) hB3); clear hg3 ho3 hB3 HJ
        obtain ⟨n, hn⟩ : ∃ n, n = E.length := ⟨_, rfl⟩
        rw [← hn]
        have hn3 : n ≤ 30000 := by rw [hn]; exact HE.out.1.1
        have HN := Lib.hid hn.symm; clear hn
        go_wp2_with fail
        refine (reads_any n c3 _ q c1 _ p c2 _ a3 a1 a2 E rows nums w3 HN.out (by omega) H3.out.2 HR.out.1 (by omega) (HR.out.2.1.stay H3.out.1) hrl.out HI.out.1 (by omega) (HI.out.2.stay H3.out.1)).mono ?_
        rintro e w4 ⟨rfl, hg4⟩
        rw [HE.out.2.1]
        have H4 := Lib.hid (And.intro (gb_trans H3.out.1 hg4) (H3.out.2.stay hg4)); clear hg4 H3
        go_wp2_with fail
        refine (copyB_own _ n c3 a3 E w4 HN.out (by omega) H4.out.2).mono ?_
        rintro e w5 ⟨v5, rfl, hg5, ho5⟩
        obtain ⟨v6, w6, hap, ho6, hg6⟩ := append1_u8 w5 w4.heap.size n v5 (u8N 0) (E.map u8N) ho5 rfl (by omega) hg5.size
        have hE6 : E.map u8N ++ [u8N 0] = (E ++ [0]).map u8N := by rw [List.map_append]; rfl
        rw [hE6] at ho6
        obtain ⟨a6, c6, rfl, hl6, hB6, _⟩ := own_slice ho6 (fun i => by
          rw [List.getD_eq_getElem?_getD, List.getElem?_append]
          split
          · rw [← List.getD_eq_getElem?_getD]; exact HE.out.1.2 i
          · rw [← List.getD_eq_getElem?_getD]; exact lt_all [0] (by decide) _)
        have H6 := Lib.hid (And.intro (gb_trans H4.out.1 (own_gb hg5 ho5 hg6)) (And.intro hl6 (And.intro hB6 (H4.out.2.stay (own_gb hg5 ho5 hg6))))); clear hg5 ho5 hg6 ho6 hl6 hB6 hE6 H4
        have hap2 := hap; clear hap
        unfold u8N at hap2
        go_wp2_with (at_builtin; refine wpList_append_run rfl (.tmp 85) (.tmp 86) 23 rfl rfl _ _ rfl rfl _ _ hap2 ?_)
        refine (reads_any (n + 1) c6 _ q c1 _ p c2 _ a6 a1 a2 (E ++ [0]) rows nums w6 H6.out.2.1 (by omega) H6.out.2.2.1 HR.out.1 (by omega) (HR.out.2.1.stay H6.out.1) hrl.out HI.out.1 (by omega) (HI.out.2.stay H6.out.1)).mono ?_
        rintro e w7 ⟨rfl, hg7⟩
        rw [HE.out.2.2.1 (E ++ [0]) (by rw [List.length_append, List.length_singleton]; omega)]
        have H7 := Lib.hid (And.intro (gb_trans H6.out.1 hg7) (H6.out.2.2.2.stay hg7)); clear hg7 H6 hap2
        by_cases hn0 : n = 0
        · subst hn0
          go_wp2
          go_ret
          exact ⟨rfl, H7.out.1⟩
        have hn0' : ¬ (n : Int) = 0 := by omega
        have hpick := Lib.hid (pick_is cut (n : Int) w7 (by omega) (by omega) HC.out.1 HC.out.2)
        obtain ⟨r, hr⟩ : ∃ r : Nat, cut % (n : Int) = r := ⟨_, (Int.toNat_of_nonneg (Int.emod_nonneg _ hn0')).symm⟩
        have hr2 : cut % (n : Int) < n := Int.emod_lt_of_pos _ (by omega)
        rw [hr] at hr2 hpick
        have hr3 : r < n := by omega
        clear hr hr2
        have hc3 := H7.out.2.fits
        rw [HN.out] at hc3
        obtain ⟨a8, hsl, ha8⟩ := slice_to a3 n c3 r (by omega)
        have H8 := Lib.hid (And.intro H7.out.1 (bytes_take (k := r) H7.out.2 ha8)); clear ha8 hc3 H7
        go_wp2_with fail
        refine hpick.out.mono ?_
        rintro e w' ⟨rfl, rfl⟩
        go_wp2_with fail
        refine (reads_any r c3 _ q c1 _ p c2 _ a8 a1 a2 (E.take r) rows nums w' (by rw [List.length_take, HN.out]; omega) (by omega) H8.out.2 HR.out.1 (by omega) (HR.out.2.1.stay H8.out.1) hrl.out HI.out.1 (by omega) (HI.out.2.stay H8.out.1)).mono ?_
        rintro e w9 ⟨rfl, hg9⟩
        rw [HE.out.2.2.1 (E.take r) (by rw [List.length_take, HN.out]; omega)]
        have H9 := Lib.hid (gb_trans H8.out.1 hg9); clear hg9
        go_wp2
        go_ret
        exact ⟨rfl, H9.out⟩
end Go.Proofs.Ytjfclcoppedmoaa
