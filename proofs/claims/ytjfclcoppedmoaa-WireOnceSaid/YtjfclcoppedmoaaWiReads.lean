/- wire's laws: are just these rows and numbers read of bytes? -/
import Derived.Test.YtjfclcoppedmoaaWiAwake
import Derived.Test.YtjfclcoppedmoaaRowsArg
import Derived.Deep.Cut
import Derived.Deep.RegionWith
namespace Go.Proofs.Ytjfclcoppedmoaa
open Go.RowKit Ow Wi

theorem bytes_left {most : Int} {st : St} {l : List Nat} (h : (bytesS most st).2 = some l) : ∃ l0, st = some l0 ∧ l.length ≤ l0.length := by
  obtain ⟨l0, h1, h2⟩ := bytes_some h
  exact ⟨l0, h1, by omega⟩
theorem num_left {st : St} {l : List Nat} (h : (numS st).2 = some l) : ∃ l0, st = some l0 ∧ l.length ≤ l0.length := by
  obtain ⟨l0, h1, h2⟩ := num_some h
  exact ⟨l0, h1, by omega⟩
theorem drop_row (L : List (List Nat)) (k : Nat) (h : k < L.length) : L.drop k = L.getD k [] :: L.drop (k + 1) := by
  rw [List.drop_eq_getElem_cons h, List.getD_eq_getElem?_getD, List.getElem?_eq_getElem h]; rfl
theorem drop_int (L : List Int) (k : Nat) (h : k < L.length) : L.drop k = L.getD k 0 :: L.drop (k + 1) := by
  rw [List.drop_eq_getElem_cons h, List.getD_eq_getElem?_getD, List.getElem?_eq_getElem h]; rfl
theorem bytesS_lt {w : World} {rb : Nat} {st : St} (h : RdS w rb st) (most : Int) (i : Nat) : (bytesS most st).1.getD i 0 < 256 := by
  cases st with
  | none => unfold bytesS tells; simp
  | some l =>
    have hb := RdB.byte h
    unfold bytesS
    cases hr : rdBytes most l with
    | none =>
      have e1 : tells [] (rdBytes most) (some l) = ([], none) := by unfold tells; simp only [hr]
      rw [e1]; simp
    | some p =>
      obtain ⟨x, r⟩ := p
      have e1 : tells [] (rdBytes most) (some l) = (x, some r) := by unfold tells; simp only [hr]
      rw [e1]
      unfold rdBytes rdCount at hr
      split at hr
      · cases hr
      · rename_i n r' hc
        split at hc
        · cases hc
          split at hr
          · cases hr
            exact getD_take_lt _ _ (fun i => by rw [getD_drop]; exact hb _) i
          · cases hr
        · cases hc
theorem runRows_step (k : Nat) (st : St) (row : List Nat) (rest : List (List Nat)) (h : (bytesS ((row.length : Int) + ((k % 3 : Nat) : Int)) st).1 = row) :
    runRows k st (row :: rest) = runRows (k + 1) (bytesS ((row.length : Int) + ((k % 3 : Nat) : Int)) st).2 rest := by
  conv => lhs; unfold runRows
  rw [if_pos h]
theorem runRows_stop (k : Nat) (st : St) (row : List Nat) (rest : List (List Nat)) (h : ¬ (bytesS ((row.length : Int) + ((k % 3 : Nat) : Int)) st).1 = row) : runRows k st (row :: rest) = none := by
  unfold runRows
  rw [if_neg h]
theorem runNums_step (st : St) (n : Int) (rest : List Int) (h : toI (numS st).1 = n) : runNums st (n :: rest) = runNums (numS st).2 rest := by
  conv => lhs; unfold runNums
  rw [if_pos h]
theorem runNums_stop (st : St) (n : Int) (rest : List Int) (h : ¬ toI (numS st).1 = n) : runNums st (n :: rest) = none := by
  unfold runNums
  rw [if_neg h]
set_option maxRecDepth 100000 in
set_option maxHeartbeats 4000000 in
theorem reads_any (n cap B n1 c1 B1 n2 c2 B2 : Nat) (a a1 a2 : Option Addr) (l : List Nat) (rows : List (List Nat)) (nums : List Int) (w : World) (hl : l.length = n) (hn : n ≤ 1000000) (hP : BytesAt w B a cap l)
    (hrows : rows.length = n1) (hn1 : n1 ≤ 200) (hR : RowsAt w B1 a1 rows) (hrl : ∀ r ∈ rows, r.length ≤ 100000) (hnums : nums.length = n2) (hn2 : n2 ≤ 200) (hI : IntsAt w B2 a2 nums) :
    Calls Try.prog 16 #[.slice a n cap, .slice a1 n1 c1, .slice a2 n2 c2] w fun e w' => e = .returned (.bool (readsF (some l) rows nums)) ∧ w.grownBy w' none := by
  have HP := Lib.hid (And.intro hl (And.intro hn hP)); clear hl hn hP
  have HR := Lib.hid (And.intro hrows (And.intro hR hrl)); clear hrows hR hrl
  have HI := Lib.hid (And.intro hnums hI); clear hnums hI
  go_enter Try.func16, Try.ntmps16
  go_wp2_with (fail)
  refine (new_any n cap B a l w HP.out.1 HP.out.2.1 HP.out.2.2).mono ?_
  rintro e w1 ⟨rb, rfl, hg, hrb, hr⟩
  have H1 := Lib.hid (And.intro hg (And.intro hrb hr)); clear hg hrb hr
  go_wp2_with (fail)
  go_loopw [8] (fun i wr => ∃ (k : Nat) (st : St), k ≤ n1 ∧ i = .int .i64 k ∧ w.grownBy wr none ∧ RdS wr rb st ∧ (∀ l', st = some l' → l'.length ≤ n) ∧ runRows 0 (some l) rows = runRows k st (rows.drop k)) (fun i _ => n1 - (intOf i).toNat)
  case atStart => exact ⟨0, some l, by omega, rfl, H1.out.1, H1.out.2.2, fun l' e => by cases e; exact Nat.le_of_eq HP.out.1, rfl⟩
  case round =>
    obtain ⟨k, st, hk, rfl, hg, hr, hlen, hrun⟩ := hrel
    by_cases hlt : k < n1
    · obtain ⟨pb, po, ai, ci, rfl, hpb, k1, hB⟩ := HR.out.2.1.at (i := k) (by rw [HR.out.1]; exact hlt)
      have i0 : (k : Int) < (n1 : Int) := by omega
      have k2 : wr.cell? ⟨pb, po + k, none⟩ = some (.slice ai (rows.getD k []).length ci) := by
        rw [gb_cell hg (p := ⟨pb, po + k, none⟩) (Nat.lt_of_lt_of_le hpb HR.out.2.1.lim) (by simp)]; exact k1
      have hrl : (rows.getD k []).length ≤ 100000 := HR.out.2.2 _ (by rw [List.getD_eq_getElem?_getD, List.getElem?_eq_getElem (by rw [HR.out.1]; exact hlt)]; exact List.getElem_mem _)
      rw [drop_row rows k (by rw [HR.out.1]; exact hlt)] at hrun
      obtain ⟨row, hrow⟩ : ∃ row, row = rows.getD k [] := ⟨_, rfl⟩
      rw [← hrow] at k2 hB hrl hrun
      obtain ⟨t, ht⟩ : ∃ t, t = row.length := ⟨_, rfl⟩
      rw [← ht] at k2 hrl
      have hm3 : (k : Int).tmod 3 = ((k % 3 : Nat) : Int) := by rw [Int.tmod_eq_emod_of_nonneg (by omega)]; omega
      have hs3 : k % 3 < 3 := by omega
      obtain ⟨q, hq⟩ : ∃ q, q = k % 3 := ⟨_, rfl⟩
      rw [← hq] at hm3 hs3
      have HK := Lib.hid (And.intro (And.intro hg hr) (And.intro (And.intro hlen hrun) (And.intro hB (And.intro ht (And.intro hq k1))))); clear hg hr hlen hrun hB ht hq k1
      have HPB := Lib.hid (And.intro hpb hrow); clear hrow hpb
      go_wp2_with fail
      refine (rbytes_any rb ((t : Int) + (q : Int)) st wr HK.out.1.2 (fun l' e => Nat.le_trans (HK.out.2.1.1 l' e) HP.out.2.1)).mono ?_
      rintro e w3 ⟨v, rfl, hg3, hr3, ho3⟩
      have hg30 := gb_then HK.out.1.1 hg3 H1.out.2.1
      obtain ⟨av, cv, rfl, _, hBv, _⟩ := own_slice ho3 (bytesS_lt HK.out.1.2 _)
      have hlen3 : ∀ l', (bytesS ((t : Int) + (q : Int)) st).2 = some l' → l'.length ≤ n := fun l' e => by
        obtain ⟨l0, e0, hle⟩ := bytes_left e
        exact Nat.le_trans hle (HK.out.2.1.1 l0 e0)
      have k3 : w3.cell? ⟨pb, po + k, none⟩ = some (.slice ai t ci) := by
        rw [gb_cell hg30 (p := ⟨pb, po + k, none⟩) (Nat.lt_of_lt_of_le HPB.out.1 HR.out.2.1.lim) (by simp), HK.out.2.2.2.2.2, ← HPB.out.2, ← HK.out.2.2.2.1]
      have hrun := HK.out.2.1.2
      have hB3 := HK.out.2.2.1.stay hg30
      by_cases hx : (bytesS ((t : Int) + (q : Int)) st).1 = row
      · rw [runRows_step k st row _ (by rw [← HK.out.2.2.2.1, ← HK.out.2.2.2.2.1]; exact hx), ← HK.out.2.2.2.1, ← HK.out.2.2.2.2.1] at hrun
        have hd : decide ((bytesS ((t : Int) + (q : Int)) st).1 = row) = true := decide_eq_true hx
        generalize bytesS ((t : Int) + (q : Int)) st = X at *
        obtain ⟨x, st2⟩ := X
        have HX := Lib.hid (And.intro (And.intro hg30 hr3) (And.intro (And.intro hlen3 hrun) (And.intro hBv (And.intro hB3 hd)))); clear hg3 hr3 ho3 hg30 hBv hlen3 hrun hB3 hd hx
        go_wp2_with fail
        refine (sameBytes_eq _ _ _ _ _ _ _ _ x row w3 true HX.out.2.2.2.2 rfl HK.out.2.2.2.1.symm HX.out.2.2.1 HX.out.2.2.2.1).mono ?_
        rintro e w4 ⟨rfl, hg4⟩
        have HG4 := Lib.hid hg4; clear hg4
        go_wp2_with fail
        exact ⟨⟨k + 1, st2, hlt, rfl, gb_trans HX.out.1.1 HG4.out, HX.out.1.2.stay HG4.out, HX.out.2.1⟩, by show n1 - ((k : Int) + 1).toNat < n1 - (k : Int).toNat; omega⟩
      · rw [runRows_stop k st row _ (by rw [← HK.out.2.2.2.1, ← HK.out.2.2.2.2.1]; exact hx)] at hrun
        have hd : decide ((bytesS ((t : Int) + (q : Int)) st).1 = row) = false := decide_eq_false hx
        have hf : readsF (some l) rows nums = false := by unfold readsF; rw [hrun]
        generalize bytesS ((t : Int) + (q : Int)) st = X at *
        obtain ⟨x, st2⟩ := X
        have HX := Lib.hid (And.intro hg30 (And.intro hf (And.intro hBv (And.intro hB3 hd)))); clear hg3 hr3 ho3 hg30 hBv hlen3 hrun hB3 hd hx hf
        go_wp2_with fail
        refine (sameBytes_eq _ _ _ _ _ _ _ _ x row w3 false HX.out.2.2.2.2 rfl HK.out.2.2.2.1.symm HX.out.2.2.1 HX.out.2.2.2.1).mono ?_
        rintro e w4 ⟨rfl, hg4⟩
        have HG4 := Lib.hid hg4; clear hg4
        go_wp2
        go_ret
        exact ⟨by rw [HX.out.2.1]; rfl, gb_trans HX.out.1 HG4.out⟩
    · obtain rfl : k = n1 := by omega
      clear hlt
      have hrun2 : runRows 0 (some l) rows = some st := by
        rw [hrun, List.drop_eq_nil_of_le (Nat.le_of_eq HR.out.1)]; rfl
      have HB := Lib.hid (And.intro (And.intro hg hr) (And.intro hlen hrun2)); clear hg hr hlen hrun hrun2
      go_wp2_with fail
      go_loopw [10] (fun i wr => ∃ (q : Nat) (s2 : St), q ≤ n2 ∧ i = .int .i64 q ∧ w.grownBy wr none ∧ RdS wr rb s2 ∧ runNums st nums = runNums s2 (nums.drop q)) (fun i _ => n2 - (intOf i).toNat)
      case atStart => exact ⟨0, st, by omega, rfl, HB.out.1.1, HB.out.1.2, rfl⟩
      case round =>
        obtain ⟨q, s2, hq, rfl, hg, hr, hrun⟩ := hrel
        by_cases hlt : q < n2
        · obtain ⟨pb, po, rfl, hpb, k1⟩ := HI.out.2.at (i := q) (by rw [HI.out.1]; exact hlt)
          have i0 : (q : Int) < (n2 : Int) := by omega
          have k2 : wr.drew.cell? ⟨pb, po + q, none⟩ = some (.int .i64 (nums.getD q 0)) := by
            rw [gb_cell (gb_drew hg) (p := ⟨pb, po + q, none⟩) (Nat.lt_of_lt_of_le hpb HI.out.2.lim) (by simp)]; exact k1
          rw [drop_int nums q (by rw [HI.out.1]; exact hlt)] at hrun
          obtain ⟨x, hx⟩ : ∃ x, x = nums.getD q 0 := ⟨_, rfl⟩
          rw [← hx] at k2 k1 hrun
          have HN := Lib.hid (number_any rb s2 wr.drew (hr.stay (gb_drew (gb_refl _ _))))
          have HPB := Lib.hid (And.intro (Nat.lt_of_lt_of_le hpb HI.out.2.lim) (And.intro k1 (And.intro hg H1.out.2.1))); clear hpb k1 hg hr hx
          by_cases hm : toI (numS s2).1 = x
          · rw [runNums_step s2 x _ hm] at hrun
            obtain ⟨m, hmm⟩ : ∃ m, m = toI (numS s2).1 := ⟨_, rfl⟩
            obtain ⟨s3, hs3⟩ : ∃ s3, s3 = (numS s2).2 := ⟨_, rfl⟩
            rw [← hmm] at hm HN
            rw [← hs3] at hrun HN
            subst hm
            have HRUN := Lib.hid hrun; clear hrun hmm hs3
            go_wp2_with (fail)
            go_region_with (go_at_call 7; refine HN.out.mono ?_; rintro e w3 ⟨rfl, hg3, hr3⟩; have hg30 := gb_then (gb_drew HPB.out.2.2.1) hg3 HPB.out.2.2.2; have k3 : w3.cell? ⟨pb, po + q, none⟩ = some (.int .i64 m) := (gb_cell hg30 (p := ⟨pb, po + q, none⟩) HPB.out.1 (by simp)).trans HPB.out.2.1; have H3 := Lib.hid (And.intro hg30 hr3); clear hg3 hr3 hg30)
            all_goals go_wp2_with (fail)
            all_goals exact ⟨⟨q + 1, s3, hlt, rfl, H3.out.1, H3.out.2, HRUN.out⟩, by show n2 - ((q : Int) + 1).toNat < n2 - (q : Int).toNat; omega⟩
          · rw [runNums_stop s2 x _ hm] at hrun
            have hf : readsF (some l) rows nums = false := by
              unfold readsF
              rw [HB.out.2.2]
              show (match runNums st nums with | none => false | some st => decide (st = some [])) = false
              rw [hrun]
            obtain ⟨m, hmm⟩ : ∃ m, m = toI (numS s2).1 := ⟨_, rfl⟩
            rw [← hmm] at hm HN
            have HF := Lib.hid hf; clear hrun hmm hf
            go_wp2_with (fail)
            go_region_with (go_at_call 7; refine HN.out.mono ?_; rintro e w3 ⟨rfl, hg3, hr3⟩; have hg30 := gb_then (gb_drew HPB.out.2.2.1) hg3 HPB.out.2.2.2; have k3 : w3.cell? ⟨pb, po + q, none⟩ = some (.int .i64 x) := (gb_cell hg30 (p := ⟨pb, po + q, none⟩) HPB.out.1 (by simp)).trans HPB.out.2.1; have H3 := Lib.hid (And.intro hg30 hr3); clear hg3 hr3 hg30)
            all_goals go_wp2_with (fail)
            all_goals go_ret
            all_goals exact ⟨by rw [HF.out]; rfl, H3.out.1⟩
        · obtain rfl : q = n2 := by omega
          clear hlt
          have hrun2 : runNums st nums = some s2 := by
            rw [hrun, List.drop_eq_nil_of_le (Nat.le_of_eq HI.out.1)]; rfl
          have hf : readsF (some l) rows nums = decide (s2 = some []) := by
            unfold readsF
            rw [HB.out.2.2]
            show (match runNums st nums with | none => false | some st => decide (st = some [])) = _
            rw [hrun2]
          have HF := Lib.hid (And.intro hf hg); clear hrun hrun2 hf hg
          go_wp2_with (fail)
          refine (done_any rb s2 wr hr).mono ?_
          rintro e w' ⟨rfl, rfl⟩
          go_wp2
          go_ret
          exact ⟨by rw [HF.out.1]; rfl, HF.out.2⟩
end Go.Proofs.Ytjfclcoppedmoaa
