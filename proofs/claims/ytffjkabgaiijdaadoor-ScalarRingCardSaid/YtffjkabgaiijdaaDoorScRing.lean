/- The law ScalarRing, walked: the stage's theorem. -/
import Derived.Test.YtffjkabgaiijdaaDoorScBitsLaw
namespace Go.Proofs.YtffjkabgaiijdaaDoor
open Go.RowKit Ow

theorem sumV (ca cb Ba Bb : Nat) (a b : Option Addr) (x y : List Nat) (w : World) (hx : x.length = 32) (hy : y.length = 32) (hA : BytesAt w Ba a ca x) (hB : BytesAt w Bb b cb y) (hT : OTab w) :
    Calls Tryd.prog 12 #[.slice a 32 ca, .slice b 32 cb] w fun e w' => ∃ g, e = .returned (.slice (some ⟨g, 0, none⟩) 32 32) ∧ w.grownBy w' none ∧ BytesAt w' w'.heap.size (some ⟨g, 0, none⟩) 32 (scB (num x + num y)) :=
  (sum_any ca cb Ba Bb a b x y w hx hy hA hB hT).mono fun _ _ h => h.bytes (scB_length _) (scB_lt _)
theorem productV (ca cb Ba Bb : Nat) (a b : Option Addr) (x y : List Nat) (w : World) (hx : x.length = 32) (hy : y.length = 32) (hA : BytesAt w Ba a ca x) (hB : BytesAt w Bb b cb y) (hT : OTab w) :
    Calls Tryd.prog 13 #[.slice a 32 ca, .slice b 32 cb] w fun e w' => ∃ g, e = .returned (.slice (some ⟨g, 0, none⟩) 32 32) ∧ w.grownBy w' none ∧ BytesAt w' w'.heap.size (some ⟨g, 0, none⟩) 32 (scB (num x * num y)) :=
  (product_any ca cb Ba Bb a b x y w hx hy hA hB hT).mono fun _ _ h => h.bytes (scB_length _) (scB_lt _)
theorem rightV (cap B : Nat) (a : Option Addr) (n : Nat) (w : World) (hP : BytesAt w B a cap (scB n)) (hT : OTab w) :
    Calls Tryd.prog 15 #[.slice a 32 cap] w fun e w' => e = .returned (.bool true) ∧ w.grownBy w' none := by
  refine (right_any cap B a (scB n) w (scB_length n) hP hT).mono ?_
  rintro e w' ⟨rfl, hg⟩
  exact ⟨by rw [scB_num, decide_eq_true (Sc.mod_lt n)], hg⟩
theorem lV (w : World) : Calls Tryd.prog 18 #[.int .i64 (-1)] w fun e w' => ∃ g, e = .returned (.slice (some ⟨g, 0, none⟩) 32 32) ∧ w.grownBy w' none ∧ BytesAt w' w'.heap.size (some ⟨g, 0, none⟩) 32 (ordB 236) :=
  (l_any (-1) 236 w (by decide) (by decide)).mono fun _ _ h => h.bytes rfl (ordB_lt 236 (by decide))
theorem scB_again (n : Nat) : scB (num (scB n)) = scB n := by rw [scB_num]; exact scB_congr (Nat.mod_mod _ _)
theorem mulmod (x y : Nat) : x * (y % Sc.L) % Sc.L = x * y % Sc.L := by rw [Nat.mul_mod, Nat.mod_mod, ← Nat.mul_mod]
theorem modmul (x y : Nat) : x % Sc.L * y % Sc.L = x * y % Sc.L := by rw [Nat.mul_mod, Nat.mod_mod, ← Nat.mul_mod]
theorem r_comm (x y : List Nat) : scB (num x + num y) = scB (num y + num x) := by rw [Nat.add_comm]
theorem r_mcomm (x y : List Nat) : scB (num x * num y) = scB (num y * num x) := by rw [Nat.mul_comm]
theorem r_assoc (x y z : List Nat) : scB (num (scB (num x + num y)) + num z) = scB (num x + num (scB (num y + num z))) := by
  rw [scB_num, scB_num]; apply scB_congr
  rw [Nat.mod_add_mod, Nat.add_mod_mod, Nat.add_assoc]
theorem r_massoc (x y z : List Nat) : scB (num (scB (num x * num y)) * num z) = scB (num x * num (scB (num y * num z))) := by
  rw [scB_num, scB_num]; apply scB_congr
  rw [modmul, mulmod, Nat.mul_assoc]
theorem r_dist (x y z : List Nat) : scB (num z * num (scB (num x + num y))) = scB (num (scB (num z * num x)) + num (scB (num z * num y))) := by
  rw [scB_num, scB_num, scB_num]; apply scB_congr
  rw [mulmod, Nat.mod_add_mod, Nat.add_mod_mod, Nat.mul_add]
theorem r_mul (x y z : List Nat) : scB (num x * num y + num z) = scB (num (scB (num x * num y)) + num z) := by
  rw [scB_num]; apply scB_congr
  rw [Nat.mod_add_mod]
theorem r_one (n : Nat) : scB (num (scB n) * num (oneB 1)) = scB n := by
  rw [scB_num, num_oneB, Nat.mul_one]; exact scB_congr (Nat.mod_mod _ _)
theorem r_neg (x : List Nat) : scB (num x + num (scB (num x * num (ordB 236)))) = oneB 0 := by
  rw [← scB_small 0 (by decide), scB_num]; apply scB_congr
  rw [Nat.add_mod_mod]
  have e : num x + num x * num (ordB 236) = num x * Sc.L := by
    rw [← num_ord1, Nat.mul_add, Nat.mul_one, Nat.add_comm]
  rw [e, Nat.mul_mod_left, Nat.zero_mod]
set_option maxRecDepth 100000 in
set_option maxHeartbeats 4000000 in
theorem ring_long (na nb nc ca cb cc : Nat) (a b c : Option Addr) (w : World) (hT : OTab w) (h : 64 < na ∨ 64 < nb ∨ 64 < nc) :
    Calls Tryd.prog 3 #[.slice a na ca, .slice b nb cb, .slice c nc cc] w fun e w' => e = .returned (.bool true) ∧ w.grownBy w' none := by
  have HT := Lib.hid hT; clear hT
  by_cases h1 : 64 < na
  · have i0 : (64 : Int) < (na : Int) := by omega
    clear h h1
    go_enter Tryd.func3, Tryd.ntmps3
    go_wp2_with fail
    refine (awake_any w HT.out).mono ?_
    rintro e w1 ⟨rfl, hg1⟩
    have S1 := Lib.hid hg1; clear hg1
    go_wp2
    go_ret
    exact ⟨rfl, S1.out⟩
  · by_cases h2 : 64 < nb
    · have i0 : ¬ (64 : Int) < (na : Int) := by omega
      have i1 : (64 : Int) < (nb : Int) := by omega
      clear h h1 h2
      go_enter Tryd.func3, Tryd.ntmps3
      go_wp2_with fail
      refine (awake_any w HT.out).mono ?_
      rintro e w1 ⟨rfl, hg1⟩
      have S1 := Lib.hid hg1; clear hg1
      go_wp2
      go_ret
      exact ⟨rfl, S1.out⟩
    · have i0 : ¬ (64 : Int) < (na : Int) := by omega
      have i1 : ¬ (64 : Int) < (nb : Int) := by omega
      have i2 : (64 : Int) < (nc : Int) := by omega
      clear h h1 h2
      go_enter Tryd.func3, Tryd.ntmps3
      go_wp2_with fail
      refine (awake_any w HT.out).mono ?_
      rintro e w1 ⟨rfl, hg1⟩
      have S1 := Lib.hid hg1; clear hg1
      go_wp2
      go_ret
      exact ⟨rfl, S1.out⟩
set_option maxRecDepth 100000 in
set_option maxHeartbeats 40000000 in
theorem ring_walk (na nb nc ca cb cc Ba Bb Bc : Nat) (a b c : Option Addr) (la lb lc : List Nat) (w : World) (hT : OTab w) (hla : la.length = na) (hlb : lb.length = nb) (hlc : lc.length = nc) (hA : BytesAt w Ba a ca la) (hB : BytesAt w Bb b cb lb) (hC : BytesAt w Bc c cc lc) (h1 : na ≤ 64) (h2 : nb ≤ 64) (h3 : nc ≤ 64) :
    Calls Tryd.prog 3 #[.slice a na ca, .slice b nb cb, .slice c nc cc] w fun e w' => e = .returned (.bool true) ∧ w.grownBy w' none := by
  have i0 : ¬ (64 : Int) < (na : Int) := by omega
  have i1 : ¬ (64 : Int) < (nb : Int) := by omega
  have i2 : ¬ (64 : Int) < (nc : Int) := by omega
  have HLN := Lib.hid (And.intro (And.intro hla h1) (And.intro (And.intro hlb h2) (And.intro hlc h3))); clear hla hlb hlc h1 h2 h3
  have HA0 := Lib.hid hA; have HB0 := Lib.hid hB; have HC0 := Lib.hid hC; have HT0 := Lib.hid hT; clear hA hB hC hT
  go_enter Tryd.func3, Tryd.ntmps3
  go_wp2_with fail
  refine (awake_any w HT0.out).mono ?_
  rintro e w1 ⟨rfl, hg⟩
  have S0 := Lib.hid hg; have HT := Lib.hid (HT0.out.stay hg)
  have HA1 := Lib.hid (HA0.out.stay hg); have HB1 := Lib.hid (HB0.out.stay hg); have HC1 := Lib.hid (HC0.out.stay hg); clear hg
  go_wp2_with fail
  refine (reduceV na ca _ a la w1 HLN.out.1.1 HLN.out.1.2 HA1.out HT.out).mono ?_
  rintro e w2 ⟨gx, rfl, hg, hb⟩
  have S1 := Lib.hid hg; have HX := Lib.hid hb; clear hg hb
  go_wp2_with fail
  refine (reduceV nb cb _ b lb w2 HLN.out.2.1.1 HLN.out.2.1.2 (HB1.out.stay S1.out) (HT.out.stay S1.out)).mono ?_
  rintro e w3 ⟨gy, rfl, hg, hb⟩
  have S2 := Lib.hid hg; have HY := Lib.hid hb; clear hg hb
  go_wp2_with fail
  refine (reduceV nc cc _ c lc w3 HLN.out.2.2.1 HLN.out.2.2.2 (HC1.out.stay (gb_trans S1.out S2.out)) (HT.out.stay (gb_trans S1.out S2.out))).mono ?_
  rintro e w4 ⟨gz, rfl, hg, hb⟩
  have S3 := Lib.hid hg; have HZ := Lib.hid hb; clear hg hb
  clear i0 i1 i2
  go_wp2_with fail
  refine (sumV 32 32 _ _ _ _ (scB (num la)) (scB (num lb)) w4 rfl rfl (HX.out.stay (gb_trans S2.out S3.out)) (HY.out.stay S3.out) (HT.out.stay (gb_trans (gb_trans S1.out S2.out) S3.out))).mono ?_
  rintro e w5 ⟨gs, rfl, hg, hb⟩
  have S4 := Lib.hid hg; have HS := Lib.hid hb; clear hg hb
  go_wp2_with fail
  refine (productV 32 32 _ _ _ _ (scB (num la)) (scB (num lb)) w5 rfl rfl (HX.out.stay (gb_trans (gb_trans S2.out S3.out) S4.out)) (HY.out.stay (gb_trans S3.out S4.out)) (HT.out.stay (gb_trans (gb_trans (gb_trans S1.out S2.out) S3.out) S4.out))).mono ?_
  rintro e w6 ⟨gpp, rfl, hg, hb⟩
  have S5 := Lib.hid hg; have HPp := Lib.hid hb; clear hg hb
  go_wp2_with fail
  refine (mulV 32 32 32 _ _ _ _ _ _ (scB (num la)) (scB (num lb)) (scB (num lc)) w6 rfl rfl rfl (HX.out.stay (gb_trans (gb_trans (gb_trans S2.out S3.out) S4.out) S5.out)) (HY.out.stay (gb_trans (gb_trans S3.out S4.out) S5.out)) (HZ.out.stay (gb_trans S4.out S5.out)) (HT.out.stay (gb_trans (gb_trans (gb_trans (gb_trans S1.out S2.out) S3.out) S4.out) S5.out))).mono ?_
  rintro e w7 ⟨gm, rfl, hg, hb⟩
  have S6 := Lib.hid hg; have HM := Lib.hid hb; clear hg hb
  have hall := Blk.new w7 [Value.slice (some ⟨gx, 0, none⟩) 32 32, .slice (some ⟨gy, 0, none⟩) 32 32, .slice (some ⟨gz, 0, none⟩) 32 32, .slice (some ⟨gs, 0, none⟩) 32 32, .slice (some ⟨gpp, 0, none⟩) 32 32, .slice (some ⟨gm, 0, none⟩) 32 32] 22
  have hgall := gb_alloc (gb_refl w7 none) (.cells #[Value.slice (some ⟨gx, 0, none⟩) 32 32, .slice (some ⟨gy, 0, none⟩) 32 32, .slice (some ⟨gz, 0, none⟩) 32 32, .slice (some ⟨gs, 0, none⟩) 32 32, .slice (some ⟨gpp, 0, none⟩) 32 32, .slice (some ⟨gm, 0, none⟩) 32 32] 22)
  go_wp2
  obtain ⟨GA, hGA⟩ : ∃ G, G = w7.heap.size := ⟨_, rfl⟩
  rw [← hGA] at hall ⊢
  obtain ⟨w8, hw8⟩ : ∃ W, W = w7.alloc (.cells #[Value.slice (some ⟨gx, 0, none⟩) 32 32, .slice (some ⟨gy, 0, none⟩) 32 32, .slice (some ⟨gz, 0, none⟩) 32 32, .slice (some ⟨gs, 0, none⟩) 32 32, .slice (some ⟨gpp, 0, none⟩) 32 32, .slice (some ⟨gm, 0, none⟩) 32 32] 22) := ⟨_, rfl⟩
  replace hall : Blk w8 GA 22 [Value.slice (some ⟨gx, 0, none⟩) 32 32, .slice (some ⟨gy, 0, none⟩) 32 32, .slice (some ⟨gz, 0, none⟩) 32 32, .slice (some ⟨gs, 0, none⟩) 32 32, .slice (some ⟨gpp, 0, none⟩) 32 32, .slice (some ⟨gm, 0, none⟩) 32 32] := by rw [hw8]; exact hall
  rw [← hw8] at hgall ⊢
  clear hw8 hGA
  have S7 := Lib.hid hgall; clear hgall
  have KX := Lib.hid ((HX.out.stay (gb_trans (gb_trans (gb_trans (gb_trans (gb_trans S2.out S3.out) S4.out) S5.out) S6.out) S7.out)))
  have KY := Lib.hid ((HY.out.stay (gb_trans (gb_trans (gb_trans (gb_trans S3.out S4.out) S5.out) S6.out) S7.out)))
  have KZ := Lib.hid ((HZ.out.stay (gb_trans (gb_trans (gb_trans S4.out S5.out) S6.out) S7.out)))
  have KS := Lib.hid ((HS.out.stay (gb_trans (gb_trans S5.out S6.out) S7.out)))
  have KPp := Lib.hid ((HPp.out.stay (gb_trans S6.out S7.out)))
  have KM := Lib.hid ((HM.out.stay S7.out))
  have KT := Lib.hid ((HT.out.stay (gb_trans (gb_trans (gb_trans (gb_trans (gb_trans (gb_trans S1.out S2.out) S3.out) S4.out) S5.out) S6.out) S7.out)))
  have KG := Lib.hid ((gb_trans (gb_trans (gb_trans (gb_trans (gb_trans (gb_trans (gb_trans S0.out S1.out) S2.out) S3.out) S4.out) S5.out) S6.out) S7.out))
  clear HX HY HZ HS HPp HM HT HA1 HB1 HC1 HA0 HB0 HC0 HT0 HLN S0 S1 S2 S3 S4 S5 S6 S7
  have KALL := Lib.hid hall; clear hall
  go_loopw [13] (fun iv wr => ∃ k : Nat, k ≤ 6 ∧ iv = .int .i64 k ∧ w8.grownBy wr none) (fun iv _ => 6 - (intOf iv).toNat)
  case atStart => exact ⟨0, by omega, rfl, gb_refl _ _⟩
  case round =>
    obtain ⟨k, hk, rfl, hg⟩ := hrel
    by_cases hlt : k < 6
    · obtain ⟨gk, ek, Bk, hck, hbk⟩ : ∃ gk ek Bk, ([Value.slice (some ⟨gx, 0, none⟩) 32 32, .slice (some ⟨gy, 0, none⟩) 32 32, .slice (some ⟨gz, 0, none⟩) 32 32, .slice (some ⟨gs, 0, none⟩) 32 32, .slice (some ⟨gpp, 0, none⟩) 32 32, .slice (some ⟨gm, 0, none⟩) 32 32])[k]? = some (.slice (some ⟨gk, 0, none⟩) 32 32) ∧ BytesAt wr Bk (some ⟨gk, 0, none⟩) 32 (scB ek) := by
        obtain rfl | rfl | rfl | rfl | rfl | rfl : k = 0 ∨ k = 1 ∨ k = 2 ∨ k = 3 ∨ k = 4 ∨ k = 5 := by omega
        · exact ⟨_, _, _, rfl, KX.out.stay hg⟩
        · exact ⟨_, _, _, rfl, KY.out.stay hg⟩
        · exact ⟨_, _, _, rfl, KZ.out.stay hg⟩
        · exact ⟨_, _, _, rfl, KS.out.stay hg⟩
        · exact ⟨_, _, _, rfl, KPp.out.stay hg⟩
        · exact ⟨_, _, _, rfl, KM.out.stay hg⟩
      have HCK := Lib.hid hck; have HBK := Lib.hid hbk; clear hck hbk
      have HT := Lib.hid (KT.out.stay hg)
      have HALL := Lib.hid (KALL.out.grown hg (by simp))
      have HG := Lib.hid hg; clear hg
      have i0 : (k : Int) < 6 := by omega
      go_wp2_with fail
      refine wp_region_flow3 (Fg.its [.any, .any, .any, .any, .any, .any, .any, .any, .any, .any, .any, .any, .any, .any, .any, .any, .any, .any, .any, .any, .any, .any, .any, .any, .any, .any, .any, .any, .any, .any, .any, .any, .any, .any, .any, .any, .any, .any, .any, .any, .any, .any, .any, .any, .any, .any, .any, .any, .any, .any, .any, .any, .any, .any, .any, .any, .any, .val (.slice (some ⟨GA, 0, none⟩) 6 6), .val (.int .i64 (k : Int)), .val (.pointer (some ⟨GA, k, none⟩)), .byt 32 (scB ek), .val (.bool true), .val (.bool false), .val (.bool false), .val (.slice (some ⟨GA, 0, none⟩) 6 6), .val (.int .i64 (k : Int)), .val (.pointer (some ⟨GA, k, none⟩)), .byt 32 (scB ek), .byt 32 (scB (num (scB ek))), .val (.slice (some ⟨GA, 0, none⟩) 6 6), .val (.int .i64 (k : Int)), .val (.pointer (some ⟨GA, k, none⟩)), .byt 32 (scB ek), .val (.bool true), .val (.bool false), .val (.bool false)]) (fun _ => 0) (fun _ _ _ => True) (fun w => World.grownBy wr w none) [] (by kernel_rfl) (by kernel_rfl) (by kernel_rfl) (gb_drew (gb_refl _ _)) (Fg.ptrs_nil _ _) (Fg.no_store (by kernel_rfl)) ?_ ?_
      · refine ⟨Fg.value rfl fun ac w h => ?_, ?_⟩
        · have e12 : ac.tmps.getD 12 undef = .slice (some ⟨GA, 0, none⟩) 6 6 := h.rest 12 (by kernel_rfl)
          refine ⟨wants_none rfl, .slice (some ⟨GA, 0, none⟩) 6 6, w, ?_, gb_refl _ _, rfl⟩
          clear h
          simp only [execOp, Act.eval, e12]
          go_simp
        refine ⟨Fg.value rfl fun ac w h => ?_, ?_⟩
        · have e13 : ac.tmps.getD 13 undef = .int .i64 (k : Int) := h.rest 13 (by kernel_rfl)
          refine ⟨wants_none rfl, .int .i64 (k : Int), w, ?_, gb_refl _ _, rfl⟩
          clear h
          simp only [execOp, Act.eval, e13]
          go_simp
        refine ⟨Fg.value rfl fun ac w h => ?_, ?_⟩
        · have e57 : ac.tmps.getD 57 undef = .slice (some ⟨GA, 0, none⟩) 6 6 := h.dep 57 (by kernel_rfl)
          have e58 : ac.tmps.getD 58 undef = .int .i64 (k : Int) := h.dep 58 (by kernel_rfl)
          refine ⟨wants_none rfl, .pointer (some ⟨GA, k, none⟩), w, ?_, gb_refl _ _, rfl⟩
          clear h
          simp only [execOp, Act.eval, e57, e58]
          go_simp
        refine ⟨Fg.value rfl fun ac w h => ?_, ?_⟩
        · have e59 : ac.tmps.getD 59 undef = .pointer (some ⟨GA, k, none⟩) := h.dep 59 (by kernel_rfl)
          have c := (HALL.out.grown h.base (by simp)).cell HCK.out
          refine ⟨wants_none rfl, .slice (some ⟨gk, 0, none⟩) 32 32, w, ?_, gb_refl _ _, ⟨_, _, _, rfl, HBK.out.stay h.base⟩⟩
          clear h
          simp only [execOp, Act.eval, e59]
          go_simp
        refine ⟨Fg.call rfl fun ac w h => ?_, ?_⟩
        · obtain ⟨a60, k60, B60, e60, b60⟩ : ∃ x c B, ac.tmps.getD 60 undef = .slice x 32 c ∧ BytesAt w B x c (scB ek) := h.dep 60 (by kernel_rfl)
          have x60 : ac.tmps[60]?.getD undef = .slice a60 32 k60 := by simpa using e60
          have hb := h.base
          refine ⟨wants_none rfl, 15, #[.slice a60 32 k60], ?_, ?_⟩
          · clear h hb e60 b60
            go_simp
          · refine (rightV _ _ _ ek w b60 (HT.out.stay hb)).mono ?_
            intro e w1 hp
            obtain ⟨rfl, hg⟩ := hp
            exact ⟨_, rfl, hg, rfl⟩
        refine ⟨Fg.value rfl fun ac w h => ?_, ?_⟩
        · have e61 : ac.tmps.getD 61 undef = .bool true := h.dep 61 (by kernel_rfl)
          refine ⟨wants_none rfl, .bool false, w, ?_, gb_refl _ _, rfl⟩
          clear h
          simp only [execOp, Act.eval, e61]
          go_simp
        refine ⟨Fg.value rfl fun ac w h => ?_, ?_⟩
        · have e62 : ac.tmps.getD 62 undef = .bool false := h.dep 62 (by kernel_rfl)
          refine ⟨wants_none rfl, .bool false, w, ?_, gb_refl _ _, rfl⟩
          clear h
          simp only [execOp, Act.eval, e62]
          go_simp
        refine ⟨Fg.value rfl fun ac w h => ?_, ?_⟩
        · have e63 : ac.tmps.getD 63 undef = .bool false := h.dep 63 (by kernel_rfl)
          have e12 : ac.tmps.getD 12 undef = .slice (some ⟨GA, 0, none⟩) 6 6 := h.rest 12 (by kernel_rfl)
          refine ⟨wants_some (d := 63) rfl rfl (by rw [h.size]; show 63 < 151; decide) e63, .slice (some ⟨GA, 0, none⟩) 6 6, w, ?_, gb_refl _ _, rfl⟩
          clear h
          simp only [execOp, Act.eval, e12]
          go_simp
        refine ⟨Fg.value rfl fun ac w h => ?_, ?_⟩
        · have e63 : ac.tmps.getD 63 undef = .bool false := h.dep 63 (by kernel_rfl)
          have e13 : ac.tmps.getD 13 undef = .int .i64 (k : Int) := h.rest 13 (by kernel_rfl)
          refine ⟨wants_some (d := 63) rfl rfl (by rw [h.size]; show 63 < 151; decide) e63, .int .i64 (k : Int), w, ?_, gb_refl _ _, rfl⟩
          clear h
          simp only [execOp, Act.eval, e13]
          go_simp
        refine ⟨Fg.value rfl fun ac w h => ?_, ?_⟩
        · have e63 : ac.tmps.getD 63 undef = .bool false := h.dep 63 (by kernel_rfl)
          have e64 : ac.tmps.getD 64 undef = .slice (some ⟨GA, 0, none⟩) 6 6 := h.dep 64 (by kernel_rfl)
          have e65 : ac.tmps.getD 65 undef = .int .i64 (k : Int) := h.dep 65 (by kernel_rfl)
          refine ⟨wants_some (d := 63) rfl rfl (by rw [h.size]; show 63 < 151; decide) e63, .pointer (some ⟨GA, k, none⟩), w, ?_, gb_refl _ _, rfl⟩
          clear h
          simp only [execOp, Act.eval, e64, e65]
          go_simp
        refine ⟨Fg.value rfl fun ac w h => ?_, ?_⟩
        · have e63 : ac.tmps.getD 63 undef = .bool false := h.dep 63 (by kernel_rfl)
          have e66 : ac.tmps.getD 66 undef = .pointer (some ⟨GA, k, none⟩) := h.dep 66 (by kernel_rfl)
          have c := (HALL.out.grown h.base (by simp)).cell HCK.out
          refine ⟨wants_some (d := 63) rfl rfl (by rw [h.size]; show 63 < 151; decide) e63, .slice (some ⟨gk, 0, none⟩) 32 32, w, ?_, gb_refl _ _, ⟨_, _, _, rfl, HBK.out.stay h.base⟩⟩
          clear h
          simp only [execOp, Act.eval, e66]
          go_simp
        refine ⟨Fg.call rfl fun ac w h => ?_, ?_⟩
        · have e63 : ac.tmps.getD 63 undef = .bool false := h.dep 63 (by kernel_rfl)
          obtain ⟨a67, k67, B67, e67, b67⟩ : ∃ x c B, ac.tmps.getD 67 undef = .slice x 32 c ∧ BytesAt w B x c (scB ek) := h.dep 67 (by kernel_rfl)
          have x67 : ac.tmps[67]?.getD undef = .slice a67 32 k67 := by simpa using e67
          have hb := h.base
          refine ⟨wants_some (d := 63) rfl rfl (by rw [h.size]; show 63 < 151; decide) e63, 11, #[.slice a67 32 k67], ?_, ?_⟩
          · clear h hb e67 b67
            go_simp
          · refine (reduceV 32 _ _ _ (scB ek) w (scB_length _) (by decide) b67 (HT.out.stay hb)).mono ?_
            intro e w1 hp
            obtain ⟨NB, rfl, hg, hbb⟩ := hp
            exact ⟨_, rfl, hg, ⟨_, _, _, rfl, hbb⟩⟩
        refine ⟨Fg.value rfl fun ac w h => ?_, ?_⟩
        · have e63 : ac.tmps.getD 63 undef = .bool false := h.dep 63 (by kernel_rfl)
          have e12 : ac.tmps.getD 12 undef = .slice (some ⟨GA, 0, none⟩) 6 6 := h.rest 12 (by kernel_rfl)
          refine ⟨wants_some (d := 63) rfl rfl (by rw [h.size]; show 63 < 151; decide) e63, .slice (some ⟨GA, 0, none⟩) 6 6, w, ?_, gb_refl _ _, rfl⟩
          clear h
          simp only [execOp, Act.eval, e12]
          go_simp
        refine ⟨Fg.value rfl fun ac w h => ?_, ?_⟩
        · have e63 : ac.tmps.getD 63 undef = .bool false := h.dep 63 (by kernel_rfl)
          have e13 : ac.tmps.getD 13 undef = .int .i64 (k : Int) := h.rest 13 (by kernel_rfl)
          refine ⟨wants_some (d := 63) rfl rfl (by rw [h.size]; show 63 < 151; decide) e63, .int .i64 (k : Int), w, ?_, gb_refl _ _, rfl⟩
          clear h
          simp only [execOp, Act.eval, e13]
          go_simp
        refine ⟨Fg.value rfl fun ac w h => ?_, ?_⟩
        · have e63 : ac.tmps.getD 63 undef = .bool false := h.dep 63 (by kernel_rfl)
          have e69 : ac.tmps.getD 69 undef = .slice (some ⟨GA, 0, none⟩) 6 6 := h.dep 69 (by kernel_rfl)
          have e70 : ac.tmps.getD 70 undef = .int .i64 (k : Int) := h.dep 70 (by kernel_rfl)
          refine ⟨wants_some (d := 63) rfl rfl (by rw [h.size]; show 63 < 151; decide) e63, .pointer (some ⟨GA, k, none⟩), w, ?_, gb_refl _ _, rfl⟩
          clear h
          simp only [execOp, Act.eval, e69, e70]
          go_simp
        refine ⟨Fg.value rfl fun ac w h => ?_, ?_⟩
        · have e63 : ac.tmps.getD 63 undef = .bool false := h.dep 63 (by kernel_rfl)
          have e71 : ac.tmps.getD 71 undef = .pointer (some ⟨GA, k, none⟩) := h.dep 71 (by kernel_rfl)
          have c := (HALL.out.grown h.base (by simp)).cell HCK.out
          refine ⟨wants_some (d := 63) rfl rfl (by rw [h.size]; show 63 < 151; decide) e63, .slice (some ⟨gk, 0, none⟩) 32 32, w, ?_, gb_refl _ _, ⟨_, _, _, rfl, HBK.out.stay h.base⟩⟩
          clear h
          simp only [execOp, Act.eval, e71]
          go_simp
        refine ⟨Fg.call rfl fun ac w h => ?_, ?_⟩
        · have e63 : ac.tmps.getD 63 undef = .bool false := h.dep 63 (by kernel_rfl)
          obtain ⟨a68, k68, B68, e68, b68⟩ : ∃ x c B, ac.tmps.getD 68 undef = .slice x 32 c ∧ BytesAt w B x c (scB (num (scB ek))) := h.dep 68 (by kernel_rfl)
          have x68 : ac.tmps[68]?.getD undef = .slice a68 32 k68 := by simpa using e68
          obtain ⟨a72, k72, B72, e72, b72⟩ : ∃ x c B, ac.tmps.getD 72 undef = .slice x 32 c ∧ BytesAt w B x c (scB ek) := h.dep 72 (by kernel_rfl)
          have x72 : ac.tmps[72]?.getD undef = .slice a72 32 k72 := by simpa using e72
          have hb := h.base
          refine ⟨wants_some (d := 63) rfl rfl (by rw [h.size]; show 63 < 151; decide) e63, 16, #[.slice a68 32 k68, .slice a72 32 k72], ?_, ?_⟩
          · clear h hb e68 e72 b68 b72
            go_simp
          · refine (sameBytes_yes _ _ _ _ _ _ (scB (num (scB ek))) (scB ek) w (scB_again ek) rfl b68 b72).mono ?_
            intro e w1 hp
            obtain ⟨rfl, hg⟩ := hp
            exact ⟨_, rfl, hg, rfl⟩
        refine ⟨Fg.value rfl fun ac w h => ?_, ?_⟩
        · have e63 : ac.tmps.getD 63 undef = .bool false := h.dep 63 (by kernel_rfl)
          have e73 : ac.tmps.getD 73 undef = .bool true := h.dep 73 (by kernel_rfl)
          refine ⟨wants_some (d := 63) rfl rfl (by rw [h.size]; show 63 < 151; decide) e63, .bool false, w, ?_, gb_refl _ _, rfl⟩
          clear h
          simp only [execOp, Act.eval, e73]
          go_simp
        refine ⟨Fg.value rfl fun ac w h => ?_, ?_⟩
        · have e63 : ac.tmps.getD 63 undef = .bool false := h.dep 63 (by kernel_rfl)
          have e74 : ac.tmps.getD 74 undef = .bool false := h.dep 74 (by kernel_rfl)
          refine ⟨wants_none rfl, .bool false, w, ?_, gb_refl _ _, rfl⟩
          clear h
          simp only [execOp, Act.eval, e63, e74]
          go_simp
        trivial
      · intro q wq hB hsz hdf hrest hslots _
        obtain ⟨u57, hs57⟩ : ∃ u, q.tmps.getD 57 undef = u := ⟨_, rfl⟩
        obtain ⟨u58, hs58⟩ : ∃ u, q.tmps.getD 58 undef = u := ⟨_, rfl⟩
        obtain ⟨u59, hs59⟩ : ∃ u, q.tmps.getD 59 undef = u := ⟨_, rfl⟩
        obtain ⟨u60, hs60⟩ : ∃ u, q.tmps.getD 60 undef = u := ⟨_, rfl⟩
        obtain ⟨u61, hs61⟩ : ∃ u, q.tmps.getD 61 undef = u := ⟨_, rfl⟩
        obtain ⟨u62, hs62⟩ : ∃ u, q.tmps.getD 62 undef = u := ⟨_, rfl⟩
        obtain ⟨u63, hs63⟩ : ∃ u, q.tmps.getD 63 undef = u := ⟨_, rfl⟩
        obtain ⟨u64, hs64⟩ : ∃ u, q.tmps.getD 64 undef = u := ⟨_, rfl⟩
        obtain ⟨u65, hs65⟩ : ∃ u, q.tmps.getD 65 undef = u := ⟨_, rfl⟩
        obtain ⟨u66, hs66⟩ : ∃ u, q.tmps.getD 66 undef = u := ⟨_, rfl⟩
        obtain ⟨u67, hs67⟩ : ∃ u, q.tmps.getD 67 undef = u := ⟨_, rfl⟩
        obtain ⟨u68, hs68⟩ : ∃ u, q.tmps.getD 68 undef = u := ⟨_, rfl⟩
        obtain ⟨u69, hs69⟩ : ∃ u, q.tmps.getD 69 undef = u := ⟨_, rfl⟩
        obtain ⟨u70, hs70⟩ : ∃ u, q.tmps.getD 70 undef = u := ⟨_, rfl⟩
        obtain ⟨u71, hs71⟩ : ∃ u, q.tmps.getD 71 undef = u := ⟨_, rfl⟩
        obtain ⟨u72, hs72⟩ : ∃ u, q.tmps.getD 72 undef = u := ⟨_, rfl⟩
        obtain ⟨u73, hs73⟩ : ∃ u, q.tmps.getD 73 undef = u := ⟨_, rfl⟩
        obtain ⟨u74, hs74⟩ : ∃ u, q.tmps.getD 74 undef = u := ⟨_, rfl⟩
        obtain rfl := Fg.frame_is (a := q) (vs := [Value.slice a na ca, Value.slice b nb cb, Value.slice c nc cc, undef, undef, undef, u6, Value.slice (some ⟨gx, 0, none⟩) 32 32, Value.slice (some ⟨gy, 0, none⟩) 32 32, Value.slice (some ⟨gz, 0, none⟩) 32 32, Value.slice (some ⟨gs, 0, none⟩) 32 32, Value.slice (some ⟨gpp, 0, none⟩) 32 32, Value.slice (some ⟨GA, 0, none⟩) 6 6, Value.int .i64 (k : Int), Value.bool true, Value.bool false, Value.slice a na ca, Value.int .i64 (na : Int), Value.bool (decide (64 < (na : Int))), Value.bool (decide (64 < (na : Int))), Value.slice b nb cb, Value.int .i64 (nb : Int), Value.bool (decide (64 < (nb : Int))), Value.bool (decide (64 < (na : Int)) || decide (64 < (nb : Int))), Value.bool (decide (64 < (na : Int)) || decide (64 < (nb : Int))), Value.slice c nc cc, Value.int .i64 (nc : Int), Value.bool (decide (64 < (nc : Int))), Value.bool (decide (64 < (na : Int)) || decide (64 < (nb : Int)) || decide (64 < (nc : Int))), Value.slice a na ca, Value.slice (some ⟨gx, 0, none⟩) 32 32, Value.slice b nb cb, Value.slice (some ⟨gy, 0, none⟩) 32 32, Value.slice c nc cc, Value.slice (some ⟨gz, 0, none⟩) 32 32, Value.slice (some ⟨gx, 0, none⟩) 32 32, Value.slice (some ⟨gy, 0, none⟩) 32 32, Value.slice (some ⟨gs, 0, none⟩) 32 32, Value.slice (some ⟨gx, 0, none⟩) 32 32, Value.slice (some ⟨gy, 0, none⟩) 32 32, Value.slice (some ⟨gpp, 0, none⟩) 32 32, Value.slice (some ⟨gx, 0, none⟩) 32 32, Value.slice (some ⟨gy, 0, none⟩) 32 32, Value.slice (some ⟨gz, 0, none⟩) 32 32, Value.slice (some ⟨gs, 0, none⟩) 32 32, Value.slice (some ⟨gpp, 0, none⟩) 32 32, Value.slice (some ⟨gx, 0, none⟩) 32 32, Value.slice (some ⟨gy, 0, none⟩) 32 32, Value.slice (some ⟨gz, 0, none⟩) 32 32, Value.slice (some ⟨gm, 0, none⟩) 32 32, Value.slice (some ⟨GA, 0, none⟩) 6 6, Value.int .i64 (k : Int), Value.slice (some ⟨GA, 0, none⟩) 6 6, Value.int .i64 6, Value.bool true, u55, u56, u57, u58, u59, u60, u61, u62, u63, u64, u65, u66, u67, u68, u69, u70, u71, u72, u73, u74, Value.bool false, undef, undef, undef, undef, undef, undef, undef, undef, undef, undef, undef, undef, undef, undef, undef, undef, undef, undef, undef, undef, undef, undef, undef, undef, undef, undef, undef, undef, undef, undef, undef, undef, undef, undef, undef, undef, undef, undef, undef, undef, undef, undef, undef, undef, undef, undef, undef, undef, undef, undef, undef, undef, undef, undef, undef, undef, undef, undef, undef, undef, undef, undef, undef, undef, undef, undef, undef, undef, undef, undef, undef, undef, undef, undef, undef]) hsz ⟨hrest 0 (by kernel_rfl), hrest 1 (by kernel_rfl), hrest 2 (by kernel_rfl), hrest 3 (by kernel_rfl), hrest 4 (by kernel_rfl), hrest 5 (by kernel_rfl), hrest 6 (by kernel_rfl), hrest 7 (by kernel_rfl), hrest 8 (by kernel_rfl), hrest 9 (by kernel_rfl), hrest 10 (by kernel_rfl), hrest 11 (by kernel_rfl), hrest 12 (by kernel_rfl), hrest 13 (by kernel_rfl), hrest 14 (by kernel_rfl), hrest 15 (by kernel_rfl), hrest 16 (by kernel_rfl), hrest 17 (by kernel_rfl), hrest 18 (by kernel_rfl), hrest 19 (by kernel_rfl), hrest 20 (by kernel_rfl), hrest 21 (by kernel_rfl), hrest 22 (by kernel_rfl), hrest 23 (by kernel_rfl), hrest 24 (by kernel_rfl), hrest 25 (by kernel_rfl), hrest 26 (by kernel_rfl), hrest 27 (by kernel_rfl), hrest 28 (by kernel_rfl), hrest 29 (by kernel_rfl), hrest 30 (by kernel_rfl), hrest 31 (by kernel_rfl), hrest 32 (by kernel_rfl), hrest 33 (by kernel_rfl), hrest 34 (by kernel_rfl), hrest 35 (by kernel_rfl), hrest 36 (by kernel_rfl), hrest 37 (by kernel_rfl), hrest 38 (by kernel_rfl), hrest 39 (by kernel_rfl), hrest 40 (by kernel_rfl), hrest 41 (by kernel_rfl), hrest 42 (by kernel_rfl), hrest 43 (by kernel_rfl), hrest 44 (by kernel_rfl), hrest 45 (by kernel_rfl), hrest 46 (by kernel_rfl), hrest 47 (by kernel_rfl), hrest 48 (by kernel_rfl), hrest 49 (by kernel_rfl), hrest 50 (by kernel_rfl), hrest 51 (by kernel_rfl), hrest 52 (by kernel_rfl), hrest 53 (by kernel_rfl), hrest 54 (by kernel_rfl), hrest 55 (by kernel_rfl), hrest 56 (by kernel_rfl), hs57, hs58, hs59, hs60, hs61, hs62, hs63, hs64, hs65, hs66, hs67, hs68, hs69, hs70, hs71, hs72, hs73, hs74, (show q.tmps.getD 75 undef = Value.bool false from hslots 75 (by kernel_rfl)), hrest 76 (by kernel_rfl), hrest 77 (by kernel_rfl), hrest 78 (by kernel_rfl), hrest 79 (by kernel_rfl), hrest 80 (by kernel_rfl), hrest 81 (by kernel_rfl), hrest 82 (by kernel_rfl), hrest 83 (by kernel_rfl), hrest 84 (by kernel_rfl), hrest 85 (by kernel_rfl), hrest 86 (by kernel_rfl), hrest 87 (by kernel_rfl), hrest 88 (by kernel_rfl), hrest 89 (by kernel_rfl), hrest 90 (by kernel_rfl), hrest 91 (by kernel_rfl), hrest 92 (by kernel_rfl), hrest 93 (by kernel_rfl), hrest 94 (by kernel_rfl), hrest 95 (by kernel_rfl), hrest 96 (by kernel_rfl), hrest 97 (by kernel_rfl), hrest 98 (by kernel_rfl), hrest 99 (by kernel_rfl), hrest 100 (by kernel_rfl), hrest 101 (by kernel_rfl), hrest 102 (by kernel_rfl), hrest 103 (by kernel_rfl), hrest 104 (by kernel_rfl), hrest 105 (by kernel_rfl), hrest 106 (by kernel_rfl), hrest 107 (by kernel_rfl), hrest 108 (by kernel_rfl), hrest 109 (by kernel_rfl), hrest 110 (by kernel_rfl), hrest 111 (by kernel_rfl), hrest 112 (by kernel_rfl), hrest 113 (by kernel_rfl), hrest 114 (by kernel_rfl), hrest 115 (by kernel_rfl), hrest 116 (by kernel_rfl), hrest 117 (by kernel_rfl), hrest 118 (by kernel_rfl), hrest 119 (by kernel_rfl), hrest 120 (by kernel_rfl), hrest 121 (by kernel_rfl), hrest 122 (by kernel_rfl), hrest 123 (by kernel_rfl), hrest 124 (by kernel_rfl), hrest 125 (by kernel_rfl), hrest 126 (by kernel_rfl), hrest 127 (by kernel_rfl), hrest 128 (by kernel_rfl), hrest 129 (by kernel_rfl), hrest 130 (by kernel_rfl), hrest 131 (by kernel_rfl), hrest 132 (by kernel_rfl), hrest 133 (by kernel_rfl), hrest 134 (by kernel_rfl), hrest 135 (by kernel_rfl), hrest 136 (by kernel_rfl), hrest 137 (by kernel_rfl), hrest 138 (by kernel_rfl), hrest 139 (by kernel_rfl), hrest 140 (by kernel_rfl), hrest 141 (by kernel_rfl), hrest 142 (by kernel_rfl), hrest 143 (by kernel_rfl), hrest 144 (by kernel_rfl), hrest 145 (by kernel_rfl), hrest 146 (by kernel_rfl), hrest 147 (by kernel_rfl), hrest 148 (by kernel_rfl), hrest 149 (by kernel_rfl), hrest 150 (by kernel_rfl), trivial⟩ hdf
        have HG2 := Lib.hid (gb_trans HG.out hB)
        clear hB hsz hdf hrest hslots hs57 hs58 hs59 hs60 hs61 hs62 hs63 hs64 hs65 hs66 hs67 hs68 hs69 hs70 hs71 hs72 hs73 hs74
        go_wp2
        go_roundw
        case rel => exact ⟨k + 1, by omega, by go_num, HG2.out⟩
        case measure => simp [intOf]; omega
    · obtain rfl : k = 6 := by omega
      have R0 := Lib.hid hg; clear hg
      have HX := Lib.hid (KX.out.stay R0.out); clear KX
      have HY := Lib.hid (KY.out.stay R0.out); clear KY
      have HZ := Lib.hid (KZ.out.stay R0.out); clear KZ
      have HS := Lib.hid (KS.out.stay R0.out); clear KS
      have HPp := Lib.hid (KPp.out.stay R0.out); clear KPp
      have HM := Lib.hid (KM.out.stay R0.out); clear KM
      have HT := Lib.hid (KT.out.stay R0.out); have HALL := Lib.hid (KALL.out.grown R0.out (by simp)); have HG := Lib.hid (gb_trans KG.out R0.out); clear KT KALL KG R0
      obtain ⟨v0, hv0⟩ : ∃ W, W = wr := ⟨_, rfl⟩
      subst hv0
      go_wp2_with fail
      refine (sumV 32 32 _ _ _ _ (scB (num lb)) (scB (num la)) v0 rfl rfl HY.out HX.out HT.out).mono ?_
      rintro e v1 ⟨gt1, rfl, hg, hb⟩
      have S0 := Lib.hid hg; have Ht1 := Lib.hid hb; clear hg hb
      go_wp2_with fail
      refine (sameBytes_yes _ _ 32 32 _ _ (scB (num (scB (num la)) + num (scB (num lb)))) (scB (num (scB (num lb)) + num (scB (num la)))) v1 (r_comm _ _) rfl (HS.out.stay S0.out) Ht1.out).mono ?_
      rintro e v2 ⟨rfl, hg⟩
      have S1 := Lib.hid hg; clear hg
      go_wp2_with fail
      refine (productV 32 32 _ _ _ _ (scB (num lb)) (scB (num la)) v2 rfl rfl (HY.out.stay (gb_trans S0.out S1.out)) (HX.out.stay (gb_trans S0.out S1.out)) (HT.out.stay (gb_trans S0.out S1.out))).mono ?_
      rintro e v3 ⟨gt2, rfl, hg, hb⟩
      have S2 := Lib.hid hg; have Ht2 := Lib.hid hb; clear hg hb
      go_wp2_with fail
      refine (sameBytes_yes _ _ 32 32 _ _ (scB (num (scB (num la)) * num (scB (num lb)))) (scB (num (scB (num lb)) * num (scB (num la)))) v3 (r_mcomm _ _) rfl (HPp.out.stay (gb_trans (gb_trans S0.out S1.out) S2.out)) Ht2.out).mono ?_
      rintro e v4 ⟨rfl, hg⟩
      have S3 := Lib.hid hg; clear hg
      go_wp2_with fail
      refine (sumV 32 32 _ _ _ _ (scB (num (scB (num la)) + num (scB (num lb)))) (scB (num lc)) v4 rfl rfl (HS.out.stay (gb_trans (gb_trans (gb_trans S0.out S1.out) S2.out) S3.out)) (HZ.out.stay (gb_trans (gb_trans (gb_trans S0.out S1.out) S2.out) S3.out)) (HT.out.stay (gb_trans (gb_trans (gb_trans S0.out S1.out) S2.out) S3.out))).mono ?_
      rintro e v5 ⟨gt3, rfl, hg, hb⟩
      have S4 := Lib.hid hg; have Ht3 := Lib.hid hb; clear hg hb
      go_wp2_with fail
      refine (sumV 32 32 _ _ _ _ (scB (num lb)) (scB (num lc)) v5 rfl rfl (HY.out.stay (gb_trans (gb_trans (gb_trans (gb_trans S0.out S1.out) S2.out) S3.out) S4.out)) (HZ.out.stay (gb_trans (gb_trans (gb_trans (gb_trans S0.out S1.out) S2.out) S3.out) S4.out)) (HT.out.stay (gb_trans (gb_trans (gb_trans (gb_trans S0.out S1.out) S2.out) S3.out) S4.out))).mono ?_
      rintro e v6 ⟨gt4, rfl, hg, hb⟩
      have S5 := Lib.hid hg; have Ht4 := Lib.hid hb; clear hg hb
      go_wp2_with fail
      refine (sumV 32 32 _ _ _ _ (scB (num la)) (scB (num (scB (num lb)) + num (scB (num lc)))) v6 rfl rfl (HX.out.stay (gb_trans (gb_trans (gb_trans (gb_trans (gb_trans S0.out S1.out) S2.out) S3.out) S4.out) S5.out)) Ht4.out (HT.out.stay (gb_trans (gb_trans (gb_trans (gb_trans (gb_trans S0.out S1.out) S2.out) S3.out) S4.out) S5.out))).mono ?_
      rintro e v7 ⟨gt5, rfl, hg, hb⟩
      have S6 := Lib.hid hg; have Ht5 := Lib.hid hb; clear hg hb
      go_wp2_with fail
      refine (sameBytes_yes _ _ 32 32 _ _ (scB (num (scB (num (scB (num la)) + num (scB (num lb)))) + num (scB (num lc)))) (scB (num (scB (num la)) + num (scB (num (scB (num lb)) + num (scB (num lc)))))) v7 (r_assoc _ _ _) rfl (Ht3.out.stay (gb_trans S5.out S6.out)) Ht5.out).mono ?_
      rintro e v8 ⟨rfl, hg⟩
      have S7 := Lib.hid hg; clear hg
      go_wp2_with fail
      refine (productV 32 32 _ _ _ _ (scB (num (scB (num la)) * num (scB (num lb)))) (scB (num lc)) v8 rfl rfl (HPp.out.stay (gb_trans (gb_trans (gb_trans (gb_trans (gb_trans (gb_trans (gb_trans S0.out S1.out) S2.out) S3.out) S4.out) S5.out) S6.out) S7.out)) (HZ.out.stay (gb_trans (gb_trans (gb_trans (gb_trans (gb_trans (gb_trans (gb_trans S0.out S1.out) S2.out) S3.out) S4.out) S5.out) S6.out) S7.out)) (HT.out.stay (gb_trans (gb_trans (gb_trans (gb_trans (gb_trans (gb_trans (gb_trans S0.out S1.out) S2.out) S3.out) S4.out) S5.out) S6.out) S7.out))).mono ?_
      rintro e v9 ⟨gt6, rfl, hg, hb⟩
      have S8 := Lib.hid hg; have Ht6 := Lib.hid hb; clear hg hb
      go_wp2_with fail
      refine (productV 32 32 _ _ _ _ (scB (num lb)) (scB (num lc)) v9 rfl rfl (HY.out.stay (gb_trans (gb_trans (gb_trans (gb_trans (gb_trans (gb_trans (gb_trans (gb_trans S0.out S1.out) S2.out) S3.out) S4.out) S5.out) S6.out) S7.out) S8.out)) (HZ.out.stay (gb_trans (gb_trans (gb_trans (gb_trans (gb_trans (gb_trans (gb_trans (gb_trans S0.out S1.out) S2.out) S3.out) S4.out) S5.out) S6.out) S7.out) S8.out)) (HT.out.stay (gb_trans (gb_trans (gb_trans (gb_trans (gb_trans (gb_trans (gb_trans (gb_trans S0.out S1.out) S2.out) S3.out) S4.out) S5.out) S6.out) S7.out) S8.out))).mono ?_
      rintro e v10 ⟨gt7, rfl, hg, hb⟩
      have S9 := Lib.hid hg; have Ht7 := Lib.hid hb; clear hg hb
      go_wp2_with fail
      refine (productV 32 32 _ _ _ _ (scB (num la)) (scB (num (scB (num lb)) * num (scB (num lc)))) v10 rfl rfl (HX.out.stay (gb_trans (gb_trans (gb_trans (gb_trans (gb_trans (gb_trans (gb_trans (gb_trans (gb_trans S0.out S1.out) S2.out) S3.out) S4.out) S5.out) S6.out) S7.out) S8.out) S9.out)) Ht7.out (HT.out.stay (gb_trans (gb_trans (gb_trans (gb_trans (gb_trans (gb_trans (gb_trans (gb_trans (gb_trans S0.out S1.out) S2.out) S3.out) S4.out) S5.out) S6.out) S7.out) S8.out) S9.out))).mono ?_
      rintro e v11 ⟨gt8, rfl, hg, hb⟩
      have S10 := Lib.hid hg; have Ht8 := Lib.hid hb; clear hg hb
      go_wp2_with fail
      refine (sameBytes_yes _ _ 32 32 _ _ (scB (num (scB (num (scB (num la)) * num (scB (num lb)))) * num (scB (num lc)))) (scB (num (scB (num la)) * num (scB (num (scB (num lb)) * num (scB (num lc)))))) v11 (r_massoc _ _ _) rfl (Ht6.out.stay (gb_trans S9.out S10.out)) Ht8.out).mono ?_
      rintro e v12 ⟨rfl, hg⟩
      have S11 := Lib.hid hg; clear hg
      go_wp2_with fail
      obtain ⟨w15, hw15⟩ : ∃ W, W = v12 := ⟨_, rfl⟩
      subst hw15
      have H15_7 := Lib.hid ((HX.out.stay (gb_trans (gb_trans (gb_trans (gb_trans (gb_trans (gb_trans (gb_trans (gb_trans (gb_trans (gb_trans (gb_trans S0.out S1.out) S2.out) S3.out) S4.out) S5.out) S6.out) S7.out) S8.out) S9.out) S10.out) S11.out)))
      have H15_8 := Lib.hid ((HY.out.stay (gb_trans (gb_trans (gb_trans (gb_trans (gb_trans (gb_trans (gb_trans (gb_trans (gb_trans (gb_trans (gb_trans S0.out S1.out) S2.out) S3.out) S4.out) S5.out) S6.out) S7.out) S8.out) S9.out) S10.out) S11.out)))
      have H15_9 := Lib.hid ((HZ.out.stay (gb_trans (gb_trans (gb_trans (gb_trans (gb_trans (gb_trans (gb_trans (gb_trans (gb_trans (gb_trans (gb_trans S0.out S1.out) S2.out) S3.out) S4.out) S5.out) S6.out) S7.out) S8.out) S9.out) S10.out) S11.out)))
      have H15_10 := Lib.hid ((HS.out.stay (gb_trans (gb_trans (gb_trans (gb_trans (gb_trans (gb_trans (gb_trans (gb_trans (gb_trans (gb_trans (gb_trans S0.out S1.out) S2.out) S3.out) S4.out) S5.out) S6.out) S7.out) S8.out) S9.out) S10.out) S11.out)))
      have H15_11 := Lib.hid ((HPp.out.stay (gb_trans (gb_trans (gb_trans (gb_trans (gb_trans (gb_trans (gb_trans (gb_trans (gb_trans (gb_trans (gb_trans S0.out S1.out) S2.out) S3.out) S4.out) S5.out) S6.out) S7.out) S8.out) S9.out) S10.out) S11.out)))
      have G15 := Lib.hid ((gb_trans (gb_trans (gb_trans (gb_trans (gb_trans (gb_trans (gb_trans (gb_trans (gb_trans (gb_trans (gb_trans S0.out S1.out) S2.out) S3.out) S4.out) S5.out) S6.out) S7.out) S8.out) S9.out) S10.out) S11.out))
      have HT15 := Lib.hid (HT.out.stay G15.out); have HALL15 := Lib.hid (HALL.out.grown G15.out (by simp)); have HM15 := Lib.hid (HM.out.stay G15.out); have HG15 := Lib.hid (gb_trans HG.out G15.out)
      clear HX HY HZ HS HPp HM HT HALL HG G15 Ht1 Ht2 Ht3 Ht4 Ht5 Ht6 Ht7 Ht8 S0 S1 S2 S3 S4 S5 S6 S7 S8 S9 S10 S11
      have HT := HT15; have HALL := HALL15; have HM := HM15; clear HT15 HALL15 HM15
      refine wp_region_flow3 (Fg.its [.any, .any, .any, .any, .any, .any, .any, .any, .any, .any, .any, .any, .any, .any, .any, .any, .any, .any, .any, .any, .any, .any, .any, .any, .any, .any, .any, .any, .any, .any, .any, .any, .any, .any, .any, .any, .any, .any, .any, .any, .any, .any, .any, .any, .any, .any, .any, .any, .any, .any, .any, .any, .any, .any, .any, .any, .any, .any, .any, .any, .any, .any, .any, .any, .any, .any, .any, .any, .any, .any, .any, .any, .any, .any, .any, .any, .any, .any, .any, .any, .any, .any, .any, .any, .any, .any, .any, .any, .any, .any, .any, .any, .any, .any, .any, .any, .any, .any, .any, .any, .any, .any, .any, .any, .any, .any, .any, .any, .any, .any, .any, .any, .any, .any, .val (.slice (some ⟨gz, 0, none⟩) 32 32), .val (.slice (some ⟨gs, 0, none⟩) 32 32), .byt 32 (scB (num (scB (num lc)) * num (scB (num (scB (num la)) + num (scB (num lb)))))), .val (.slice (some ⟨gz, 0, none⟩) 32 32), .val (.slice (some ⟨gx, 0, none⟩) 32 32), .byt 32 (scB (num (scB (num lc)) * num (scB (num la)))), .val (.slice (some ⟨gz, 0, none⟩) 32 32), .val (.slice (some ⟨gy, 0, none⟩) 32 32), .byt 32 (scB (num (scB (num lc)) * num (scB (num lb)))), .byt 32 (scB (num (scB (num (scB (num lc)) * num (scB (num la)))) + num (scB (num (scB (num lc)) * num (scB (num lb)))))), .val (.bool true), .val (.bool false), .val (.bool false), .val (.slice (some ⟨GA, 0, none⟩) 6 6), .val (.pointer (some ⟨GA, 5, none⟩)), .byt 32 (scB (num (scB (num la)) * num (scB (num lb)) + num (scB (num lc)))), .val (.slice (some ⟨gpp, 0, none⟩) 32 32), .val (.slice (some ⟨gz, 0, none⟩) 32 32), .byt 32 (scB (num (scB (num (scB (num la)) * num (scB (num lb)))) + num (scB (num lc)))), .val (.bool true), .val (.bool false), .val (.bool false), .val (.bool false), .val (.slice (some ⟨gx, 0, none⟩) 32 32), .byt 32 (oneB 1), .byt 32 (scB (num (scB (num la)) * num (oneB 1))), .val (.slice (some ⟨gx, 0, none⟩) 32 32), .val (.bool true), .val (.bool false), .val (.bool false)]) (fun _ => 0) (fun _ _ _ => True) (fun w => World.grownBy w15 w none) [] (by kernel_rfl) (by kernel_rfl) (by kernel_rfl) (gb_drew (gb_refl _ _)) (Fg.ptrs_nil _ _) (Fg.no_store (by kernel_rfl)) ?_ ?_
      · refine ⟨Fg.value rfl fun ac w h => ?_, ?_⟩
        · have e9 : ac.tmps.getD 9 undef = .slice (some ⟨gz, 0, none⟩) 32 32 := h.rest 9 (by kernel_rfl)
          have b9 := (H15_9.out).stay h.base
          exact ⟨wants_none rfl, _, w, by simp only [execOp, Act.eval, e9]; rfl, gb_refl _ _, rfl⟩
        refine ⟨Fg.value rfl fun ac w h => ?_, ?_⟩
        · have e10 : ac.tmps.getD 10 undef = .slice (some ⟨gs, 0, none⟩) 32 32 := h.rest 10 (by kernel_rfl)
          have b10 := (H15_10.out).stay h.base
          exact ⟨wants_none rfl, _, w, by simp only [execOp, Act.eval, e10]; rfl, gb_refl _ _, rfl⟩
        refine ⟨Fg.call rfl fun ac w h => ?_, ?_⟩
        · have e114 : ac.tmps.getD 114 undef = .slice (some ⟨gz, 0, none⟩) 32 32 := h.dep 114 (by kernel_rfl)
          have b114 := (H15_9.out).stay h.base
          have x114 : ac.tmps[114]?.getD undef = .slice (some ⟨gz, 0, none⟩) 32 32 := by simpa using e114
          have e115 : ac.tmps.getD 115 undef = .slice (some ⟨gs, 0, none⟩) 32 32 := h.dep 115 (by kernel_rfl)
          have b115 := (H15_10.out).stay h.base
          have x115 : ac.tmps[115]?.getD undef = .slice (some ⟨gs, 0, none⟩) 32 32 := by simpa using e115
          have hb := h.base
          refine ⟨wants_none rfl, 13, #[.slice (some ⟨gz, 0, none⟩) 32 32, .slice (some ⟨gs, 0, none⟩) 32 32], ?_, ?_⟩
          · clear h hb e114 e115 b114 b115
            go_simp
          · refine (productV _ _ _ _ _ _ (scB (num lc)) (scB (num (scB (num la)) + num (scB (num lb)))) w rfl rfl b114 b115 (HT.out.stay hb)).mono ?_
            intro e w1 hp
            obtain ⟨NB, rfl, hg, hbb⟩ := hp
            exact ⟨_, rfl, hg, ⟨_, _, _, rfl, hbb⟩⟩
        refine ⟨Fg.value rfl fun ac w h => ?_, ?_⟩
        · have e9 : ac.tmps.getD 9 undef = .slice (some ⟨gz, 0, none⟩) 32 32 := h.rest 9 (by kernel_rfl)
          have b9 := (H15_9.out).stay h.base
          exact ⟨wants_none rfl, _, w, by simp only [execOp, Act.eval, e9]; rfl, gb_refl _ _, rfl⟩
        refine ⟨Fg.value rfl fun ac w h => ?_, ?_⟩
        · have e7 : ac.tmps.getD 7 undef = .slice (some ⟨gx, 0, none⟩) 32 32 := h.rest 7 (by kernel_rfl)
          have b7 := (H15_7.out).stay h.base
          exact ⟨wants_none rfl, _, w, by simp only [execOp, Act.eval, e7]; rfl, gb_refl _ _, rfl⟩
        refine ⟨Fg.call rfl fun ac w h => ?_, ?_⟩
        · have e117 : ac.tmps.getD 117 undef = .slice (some ⟨gz, 0, none⟩) 32 32 := h.dep 117 (by kernel_rfl)
          have b117 := (H15_9.out).stay h.base
          have x117 : ac.tmps[117]?.getD undef = .slice (some ⟨gz, 0, none⟩) 32 32 := by simpa using e117
          have e118 : ac.tmps.getD 118 undef = .slice (some ⟨gx, 0, none⟩) 32 32 := h.dep 118 (by kernel_rfl)
          have b118 := (H15_7.out).stay h.base
          have x118 : ac.tmps[118]?.getD undef = .slice (some ⟨gx, 0, none⟩) 32 32 := by simpa using e118
          have hb := h.base
          refine ⟨wants_none rfl, 13, #[.slice (some ⟨gz, 0, none⟩) 32 32, .slice (some ⟨gx, 0, none⟩) 32 32], ?_, ?_⟩
          · clear h hb e117 e118 b117 b118
            go_simp
          · refine (productV _ _ _ _ _ _ (scB (num lc)) (scB (num la)) w rfl rfl b117 b118 (HT.out.stay hb)).mono ?_
            intro e w1 hp
            obtain ⟨NB, rfl, hg, hbb⟩ := hp
            exact ⟨_, rfl, hg, ⟨_, _, _, rfl, hbb⟩⟩
        refine ⟨Fg.value rfl fun ac w h => ?_, ?_⟩
        · have e9 : ac.tmps.getD 9 undef = .slice (some ⟨gz, 0, none⟩) 32 32 := h.rest 9 (by kernel_rfl)
          have b9 := (H15_9.out).stay h.base
          exact ⟨wants_none rfl, _, w, by simp only [execOp, Act.eval, e9]; rfl, gb_refl _ _, rfl⟩
        refine ⟨Fg.value rfl fun ac w h => ?_, ?_⟩
        · have e8 : ac.tmps.getD 8 undef = .slice (some ⟨gy, 0, none⟩) 32 32 := h.rest 8 (by kernel_rfl)
          have b8 := (H15_8.out).stay h.base
          exact ⟨wants_none rfl, _, w, by simp only [execOp, Act.eval, e8]; rfl, gb_refl _ _, rfl⟩
        refine ⟨Fg.call rfl fun ac w h => ?_, ?_⟩
        · have e120 : ac.tmps.getD 120 undef = .slice (some ⟨gz, 0, none⟩) 32 32 := h.dep 120 (by kernel_rfl)
          have b120 := (H15_9.out).stay h.base
          have x120 : ac.tmps[120]?.getD undef = .slice (some ⟨gz, 0, none⟩) 32 32 := by simpa using e120
          have e121 : ac.tmps.getD 121 undef = .slice (some ⟨gy, 0, none⟩) 32 32 := h.dep 121 (by kernel_rfl)
          have b121 := (H15_8.out).stay h.base
          have x121 : ac.tmps[121]?.getD undef = .slice (some ⟨gy, 0, none⟩) 32 32 := by simpa using e121
          have hb := h.base
          refine ⟨wants_none rfl, 13, #[.slice (some ⟨gz, 0, none⟩) 32 32, .slice (some ⟨gy, 0, none⟩) 32 32], ?_, ?_⟩
          · clear h hb e120 e121 b120 b121
            go_simp
          · refine (productV _ _ _ _ _ _ (scB (num lc)) (scB (num lb)) w rfl rfl b120 b121 (HT.out.stay hb)).mono ?_
            intro e w1 hp
            obtain ⟨NB, rfl, hg, hbb⟩ := hp
            exact ⟨_, rfl, hg, ⟨_, _, _, rfl, hbb⟩⟩
        refine ⟨Fg.call rfl fun ac w h => ?_, ?_⟩
        · obtain ⟨a119, k119, B119, e119, b119⟩ : ∃ x c B, ac.tmps.getD 119 undef = .slice x 32 c ∧ BytesAt w B x c (scB (num (scB (num lc)) * num (scB (num la)))) := h.dep 119 (by kernel_rfl)
          have x119 : ac.tmps[119]?.getD undef = .slice a119 32 k119 := by simpa using e119
          obtain ⟨a122, k122, B122, e122, b122⟩ : ∃ x c B, ac.tmps.getD 122 undef = .slice x 32 c ∧ BytesAt w B x c (scB (num (scB (num lc)) * num (scB (num lb)))) := h.dep 122 (by kernel_rfl)
          have x122 : ac.tmps[122]?.getD undef = .slice a122 32 k122 := by simpa using e122
          have hb := h.base
          refine ⟨wants_none rfl, 12, #[.slice a119 32 k119, .slice a122 32 k122], ?_, ?_⟩
          · clear h hb e119 e122 b119 b122
            go_simp
          · refine (sumV _ _ _ _ _ _ (scB (num (scB (num lc)) * num (scB (num la)))) (scB (num (scB (num lc)) * num (scB (num lb)))) w rfl rfl b119 b122 (HT.out.stay hb)).mono ?_
            intro e w1 hp
            obtain ⟨NB, rfl, hg, hbb⟩ := hp
            exact ⟨_, rfl, hg, ⟨_, _, _, rfl, hbb⟩⟩
        refine ⟨Fg.call rfl fun ac w h => ?_, ?_⟩
        · obtain ⟨a116, k116, B116, e116, b116⟩ : ∃ x c B, ac.tmps.getD 116 undef = .slice x 32 c ∧ BytesAt w B x c (scB (num (scB (num lc)) * num (scB (num (scB (num la)) + num (scB (num lb)))))) := h.dep 116 (by kernel_rfl)
          have x116 : ac.tmps[116]?.getD undef = .slice a116 32 k116 := by simpa using e116
          obtain ⟨a123, k123, B123, e123, b123⟩ : ∃ x c B, ac.tmps.getD 123 undef = .slice x 32 c ∧ BytesAt w B x c (scB (num (scB (num (scB (num lc)) * num (scB (num la)))) + num (scB (num (scB (num lc)) * num (scB (num lb)))))) := h.dep 123 (by kernel_rfl)
          have x123 : ac.tmps[123]?.getD undef = .slice a123 32 k123 := by simpa using e123
          have hb := h.base
          refine ⟨wants_none rfl, 16, #[.slice a116 32 k116, .slice a123 32 k123], ?_, ?_⟩
          · clear h hb e116 e123 b116 b123
            go_simp
          · refine (sameBytes_yes _ _ _ _ _ _ (scB (num (scB (num lc)) * num (scB (num (scB (num la)) + num (scB (num lb)))))) (scB (num (scB (num (scB (num lc)) * num (scB (num la)))) + num (scB (num (scB (num lc)) * num (scB (num lb)))))) w (r_dist _ _ _) rfl b116 b123).mono ?_
            intro e w1 hp
            obtain ⟨rfl, hg⟩ := hp
            exact ⟨_, rfl, hg, rfl⟩
        refine ⟨Fg.value rfl fun ac w h => ?_, ?_⟩
        · have e124 : ac.tmps.getD 124 undef = .bool true := h.dep 124 (by kernel_rfl)
          refine ⟨wants_none rfl, .bool false, w, ?_, gb_refl _ _, rfl⟩
          clear h
          simp only [execOp, Act.eval, e124]
          go_simp
        refine ⟨Fg.value rfl fun ac w h => ?_, ?_⟩
        · have e125 : ac.tmps.getD 125 undef = .bool false := h.dep 125 (by kernel_rfl)
          refine ⟨wants_none rfl, .bool false, w, ?_, gb_refl _ _, rfl⟩
          clear h
          simp only [execOp, Act.eval, e125]
          go_simp
        refine ⟨Fg.value rfl fun ac w h => ?_, ?_⟩
        · have e126 : ac.tmps.getD 126 undef = .bool false := h.dep 126 (by kernel_rfl)
          have e12 : ac.tmps.getD 12 undef = .slice (some ⟨GA, 0, none⟩) 6 6 := h.rest 12 (by kernel_rfl)
          refine ⟨wants_some (d := 126) rfl rfl (by rw [h.size]; show 126 < 151; decide) e126, .slice (some ⟨GA, 0, none⟩) 6 6, w, ?_, gb_refl _ _, rfl⟩
          clear h
          simp only [execOp, Act.eval, e12]
          go_simp
        refine ⟨Fg.value rfl fun ac w h => ?_, ?_⟩
        · have e126 : ac.tmps.getD 126 undef = .bool false := h.dep 126 (by kernel_rfl)
          have e127 : ac.tmps.getD 127 undef = .slice (some ⟨GA, 0, none⟩) 6 6 := h.dep 127 (by kernel_rfl)
          refine ⟨wants_some (d := 126) rfl rfl (by rw [h.size]; show 126 < 151; decide) e126, .pointer (some ⟨GA, 5, none⟩), w, ?_, gb_refl _ _, rfl⟩
          clear h
          simp only [execOp, Act.eval, e127]
          go_simp
        refine ⟨Fg.value rfl fun ac w h => ?_, ?_⟩
        · have e126 : ac.tmps.getD 126 undef = .bool false := h.dep 126 (by kernel_rfl)
          have e128 : ac.tmps.getD 128 undef = .pointer (some ⟨GA, 5, none⟩) := h.dep 128 (by kernel_rfl)
          have c := (HALL.out.grown h.base (by simp)).cell (i := 5) rfl
          refine ⟨wants_some (d := 126) rfl rfl (by rw [h.size]; show 126 < 151; decide) e126, .slice (some ⟨gm, 0, none⟩) 32 32, w, ?_, gb_refl _ _, ⟨_, _, _, rfl, HM.out.stay h.base⟩⟩
          clear h
          simp only [execOp, Act.eval, e128]
          go_simp
        refine ⟨Fg.value rfl fun ac w h => ?_, ?_⟩
        · have e126 : ac.tmps.getD 126 undef = .bool false := h.dep 126 (by kernel_rfl)
          have e11 : ac.tmps.getD 11 undef = .slice (some ⟨gpp, 0, none⟩) 32 32 := h.rest 11 (by kernel_rfl)
          have b11 := (H15_11.out).stay h.base
          exact ⟨wants_some (d := 126) rfl rfl (by rw [h.size]; show 126 < 151; decide) e126, _, w, by simp only [execOp, Act.eval, e11]; rfl, gb_refl _ _, rfl⟩
        refine ⟨Fg.value rfl fun ac w h => ?_, ?_⟩
        · have e126 : ac.tmps.getD 126 undef = .bool false := h.dep 126 (by kernel_rfl)
          have e9 : ac.tmps.getD 9 undef = .slice (some ⟨gz, 0, none⟩) 32 32 := h.rest 9 (by kernel_rfl)
          have b9 := (H15_9.out).stay h.base
          exact ⟨wants_some (d := 126) rfl rfl (by rw [h.size]; show 126 < 151; decide) e126, _, w, by simp only [execOp, Act.eval, e9]; rfl, gb_refl _ _, rfl⟩
        refine ⟨Fg.call rfl fun ac w h => ?_, ?_⟩
        · have e126 : ac.tmps.getD 126 undef = .bool false := h.dep 126 (by kernel_rfl)
          have e130 : ac.tmps.getD 130 undef = .slice (some ⟨gpp, 0, none⟩) 32 32 := h.dep 130 (by kernel_rfl)
          have b130 := (H15_11.out).stay h.base
          have x130 : ac.tmps[130]?.getD undef = .slice (some ⟨gpp, 0, none⟩) 32 32 := by simpa using e130
          have e131 : ac.tmps.getD 131 undef = .slice (some ⟨gz, 0, none⟩) 32 32 := h.dep 131 (by kernel_rfl)
          have b131 := (H15_9.out).stay h.base
          have x131 : ac.tmps[131]?.getD undef = .slice (some ⟨gz, 0, none⟩) 32 32 := by simpa using e131
          have hb := h.base
          refine ⟨wants_some (d := 126) rfl rfl (by rw [h.size]; show 126 < 151; decide) e126, 12, #[.slice (some ⟨gpp, 0, none⟩) 32 32, .slice (some ⟨gz, 0, none⟩) 32 32], ?_, ?_⟩
          · clear h hb e130 e131 b130 b131
            go_simp
          · refine (sumV _ _ _ _ _ _ (scB (num (scB (num la)) * num (scB (num lb)))) (scB (num lc)) w rfl rfl b130 b131 (HT.out.stay hb)).mono ?_
            intro e w1 hp
            obtain ⟨NB, rfl, hg, hbb⟩ := hp
            exact ⟨_, rfl, hg, ⟨_, _, _, rfl, hbb⟩⟩
        refine ⟨Fg.call rfl fun ac w h => ?_, ?_⟩
        · have e126 : ac.tmps.getD 126 undef = .bool false := h.dep 126 (by kernel_rfl)
          obtain ⟨a129, k129, B129, e129, b129⟩ : ∃ x c B, ac.tmps.getD 129 undef = .slice x 32 c ∧ BytesAt w B x c (scB (num (scB (num la)) * num (scB (num lb)) + num (scB (num lc)))) := h.dep 129 (by kernel_rfl)
          have x129 : ac.tmps[129]?.getD undef = .slice a129 32 k129 := by simpa using e129
          obtain ⟨a132, k132, B132, e132, b132⟩ : ∃ x c B, ac.tmps.getD 132 undef = .slice x 32 c ∧ BytesAt w B x c (scB (num (scB (num (scB (num la)) * num (scB (num lb)))) + num (scB (num lc)))) := h.dep 132 (by kernel_rfl)
          have x132 : ac.tmps[132]?.getD undef = .slice a132 32 k132 := by simpa using e132
          have hb := h.base
          refine ⟨wants_some (d := 126) rfl rfl (by rw [h.size]; show 126 < 151; decide) e126, 16, #[.slice a129 32 k129, .slice a132 32 k132], ?_, ?_⟩
          · clear h hb e129 e132 b129 b132
            go_simp
          · refine (sameBytes_yes _ _ _ _ _ _ (scB (num (scB (num la)) * num (scB (num lb)) + num (scB (num lc)))) (scB (num (scB (num (scB (num la)) * num (scB (num lb)))) + num (scB (num lc)))) w (r_mul _ _ _) rfl b129 b132).mono ?_
            intro e w1 hp
            obtain ⟨rfl, hg⟩ := hp
            exact ⟨_, rfl, hg, rfl⟩
        refine ⟨Fg.value rfl fun ac w h => ?_, ?_⟩
        · have e126 : ac.tmps.getD 126 undef = .bool false := h.dep 126 (by kernel_rfl)
          have e133 : ac.tmps.getD 133 undef = .bool true := h.dep 133 (by kernel_rfl)
          refine ⟨wants_some (d := 126) rfl rfl (by rw [h.size]; show 126 < 151; decide) e126, .bool false, w, ?_, gb_refl _ _, rfl⟩
          clear h
          simp only [execOp, Act.eval, e133]
          go_simp
        refine ⟨Fg.value rfl fun ac w h => ?_, ?_⟩
        · have e126 : ac.tmps.getD 126 undef = .bool false := h.dep 126 (by kernel_rfl)
          have e134 : ac.tmps.getD 134 undef = .bool false := h.dep 134 (by kernel_rfl)
          refine ⟨wants_none rfl, .bool false, w, ?_, gb_refl _ _, rfl⟩
          clear h
          simp only [execOp, Act.eval, e126, e134]
          go_simp
        refine ⟨Fg.value rfl fun ac w h => ?_, ?_⟩
        · have e135 : ac.tmps.getD 135 undef = .bool false := h.dep 135 (by kernel_rfl)
          refine ⟨wants_none rfl, .bool false, w, ?_, gb_refl _ _, rfl⟩
          clear h
          simp only [execOp, Act.eval, e135]
          go_simp
        refine ⟨Fg.value rfl fun ac w h => ?_, ?_⟩
        · have e136 : ac.tmps.getD 136 undef = .bool false := h.dep 136 (by kernel_rfl)
          have e7 : ac.tmps.getD 7 undef = .slice (some ⟨gx, 0, none⟩) 32 32 := h.rest 7 (by kernel_rfl)
          have b7 := (H15_7.out).stay h.base
          exact ⟨wants_some (d := 136) rfl rfl (by rw [h.size]; show 136 < 151; decide) e136, _, w, by simp only [execOp, Act.eval, e7]; rfl, gb_refl _ _, rfl⟩
        refine ⟨Fg.call rfl fun ac w h => ?_, ?_⟩
        · have e136 : ac.tmps.getD 136 undef = .bool false := h.dep 136 (by kernel_rfl)
          have hb := h.base
          refine ⟨wants_some (d := 136) rfl rfl (by rw [h.size]; show 136 < 151; decide) e136, 17, #[.int .u8 1], ?_, ?_⟩
          · clear h hb
            go_simp
          · refine (oneV 1 (by decide) w).mono ?_
            intro e w1 hp
            obtain ⟨NB, rfl, hg, hbb⟩ := hp
            exact ⟨_, rfl, hg, ⟨_, _, _, rfl, hbb⟩⟩
        refine ⟨Fg.call rfl fun ac w h => ?_, ?_⟩
        · have e136 : ac.tmps.getD 136 undef = .bool false := h.dep 136 (by kernel_rfl)
          have e137 : ac.tmps.getD 137 undef = .slice (some ⟨gx, 0, none⟩) 32 32 := h.dep 137 (by kernel_rfl)
          have b137 := (H15_7.out).stay h.base
          have x137 : ac.tmps[137]?.getD undef = .slice (some ⟨gx, 0, none⟩) 32 32 := by simpa using e137
          obtain ⟨a138, k138, B138, e138, b138⟩ : ∃ x c B, ac.tmps.getD 138 undef = .slice x 32 c ∧ BytesAt w B x c (oneB 1) := h.dep 138 (by kernel_rfl)
          have x138 : ac.tmps[138]?.getD undef = .slice a138 32 k138 := by simpa using e138
          have hb := h.base
          refine ⟨wants_some (d := 136) rfl rfl (by rw [h.size]; show 136 < 151; decide) e136, 13, #[.slice (some ⟨gx, 0, none⟩) 32 32, .slice a138 32 k138], ?_, ?_⟩
          · clear h hb e137 e138 b137 b138
            go_simp
          · refine (productV _ _ _ _ _ _ (scB (num la)) (oneB 1) w rfl rfl b137 b138 (HT.out.stay hb)).mono ?_
            intro e w1 hp
            obtain ⟨NB, rfl, hg, hbb⟩ := hp
            exact ⟨_, rfl, hg, ⟨_, _, _, rfl, hbb⟩⟩
        refine ⟨Fg.value rfl fun ac w h => ?_, ?_⟩
        · have e136 : ac.tmps.getD 136 undef = .bool false := h.dep 136 (by kernel_rfl)
          have e7 : ac.tmps.getD 7 undef = .slice (some ⟨gx, 0, none⟩) 32 32 := h.rest 7 (by kernel_rfl)
          have b7 := (H15_7.out).stay h.base
          exact ⟨wants_some (d := 136) rfl rfl (by rw [h.size]; show 136 < 151; decide) e136, _, w, by simp only [execOp, Act.eval, e7]; rfl, gb_refl _ _, rfl⟩
        refine ⟨Fg.call rfl fun ac w h => ?_, ?_⟩
        · have e136 : ac.tmps.getD 136 undef = .bool false := h.dep 136 (by kernel_rfl)
          obtain ⟨a139, k139, B139, e139, b139⟩ : ∃ x c B, ac.tmps.getD 139 undef = .slice x 32 c ∧ BytesAt w B x c (scB (num (scB (num la)) * num (oneB 1))) := h.dep 139 (by kernel_rfl)
          have x139 : ac.tmps[139]?.getD undef = .slice a139 32 k139 := by simpa using e139
          have e140 : ac.tmps.getD 140 undef = .slice (some ⟨gx, 0, none⟩) 32 32 := h.dep 140 (by kernel_rfl)
          have b140 := (H15_7.out).stay h.base
          have x140 : ac.tmps[140]?.getD undef = .slice (some ⟨gx, 0, none⟩) 32 32 := by simpa using e140
          have hb := h.base
          refine ⟨wants_some (d := 136) rfl rfl (by rw [h.size]; show 136 < 151; decide) e136, 16, #[.slice a139 32 k139, .slice (some ⟨gx, 0, none⟩) 32 32], ?_, ?_⟩
          · clear h hb e139 e140 b139 b140
            go_simp
          · refine (sameBytes_yes _ _ _ _ _ _ (scB (num (scB (num la)) * num (oneB 1))) (scB (num la)) w (r_one _) rfl b139 b140).mono ?_
            intro e w1 hp
            obtain ⟨rfl, hg⟩ := hp
            exact ⟨_, rfl, hg, rfl⟩
        refine ⟨Fg.value rfl fun ac w h => ?_, ?_⟩
        · have e136 : ac.tmps.getD 136 undef = .bool false := h.dep 136 (by kernel_rfl)
          have e141 : ac.tmps.getD 141 undef = .bool true := h.dep 141 (by kernel_rfl)
          refine ⟨wants_some (d := 136) rfl rfl (by rw [h.size]; show 136 < 151; decide) e136, .bool false, w, ?_, gb_refl _ _, rfl⟩
          clear h
          simp only [execOp, Act.eval, e141]
          go_simp
        refine ⟨Fg.value rfl fun ac w h => ?_, ?_⟩
        · have e136 : ac.tmps.getD 136 undef = .bool false := h.dep 136 (by kernel_rfl)
          have e142 : ac.tmps.getD 142 undef = .bool false := h.dep 142 (by kernel_rfl)
          refine ⟨wants_none rfl, .bool false, w, ?_, gb_refl _ _, rfl⟩
          clear h
          simp only [execOp, Act.eval, e136, e142]
          go_simp
        trivial
      · intro q wq hB hsz hdf hrest hslots _
        obtain ⟨u114, hs114⟩ : ∃ u, q.tmps.getD 114 undef = u := ⟨_, rfl⟩
        obtain ⟨u115, hs115⟩ : ∃ u, q.tmps.getD 115 undef = u := ⟨_, rfl⟩
        obtain ⟨u116, hs116⟩ : ∃ u, q.tmps.getD 116 undef = u := ⟨_, rfl⟩
        obtain ⟨u117, hs117⟩ : ∃ u, q.tmps.getD 117 undef = u := ⟨_, rfl⟩
        obtain ⟨u118, hs118⟩ : ∃ u, q.tmps.getD 118 undef = u := ⟨_, rfl⟩
        obtain ⟨u119, hs119⟩ : ∃ u, q.tmps.getD 119 undef = u := ⟨_, rfl⟩
        obtain ⟨u120, hs120⟩ : ∃ u, q.tmps.getD 120 undef = u := ⟨_, rfl⟩
        obtain ⟨u121, hs121⟩ : ∃ u, q.tmps.getD 121 undef = u := ⟨_, rfl⟩
        obtain ⟨u122, hs122⟩ : ∃ u, q.tmps.getD 122 undef = u := ⟨_, rfl⟩
        obtain ⟨u123, hs123⟩ : ∃ u, q.tmps.getD 123 undef = u := ⟨_, rfl⟩
        obtain ⟨u124, hs124⟩ : ∃ u, q.tmps.getD 124 undef = u := ⟨_, rfl⟩
        obtain ⟨u125, hs125⟩ : ∃ u, q.tmps.getD 125 undef = u := ⟨_, rfl⟩
        obtain ⟨u126, hs126⟩ : ∃ u, q.tmps.getD 126 undef = u := ⟨_, rfl⟩
        obtain ⟨u127, hs127⟩ : ∃ u, q.tmps.getD 127 undef = u := ⟨_, rfl⟩
        obtain ⟨u128, hs128⟩ : ∃ u, q.tmps.getD 128 undef = u := ⟨_, rfl⟩
        obtain ⟨u129, hs129⟩ : ∃ u, q.tmps.getD 129 undef = u := ⟨_, rfl⟩
        obtain ⟨u130, hs130⟩ : ∃ u, q.tmps.getD 130 undef = u := ⟨_, rfl⟩
        obtain ⟨u131, hs131⟩ : ∃ u, q.tmps.getD 131 undef = u := ⟨_, rfl⟩
        obtain ⟨u132, hs132⟩ : ∃ u, q.tmps.getD 132 undef = u := ⟨_, rfl⟩
        obtain ⟨u133, hs133⟩ : ∃ u, q.tmps.getD 133 undef = u := ⟨_, rfl⟩
        obtain ⟨u134, hs134⟩ : ∃ u, q.tmps.getD 134 undef = u := ⟨_, rfl⟩
        obtain ⟨u135, hs135⟩ : ∃ u, q.tmps.getD 135 undef = u := ⟨_, rfl⟩
        obtain ⟨u136, hs136⟩ : ∃ u, q.tmps.getD 136 undef = u := ⟨_, rfl⟩
        obtain ⟨u137, hs137⟩ : ∃ u, q.tmps.getD 137 undef = u := ⟨_, rfl⟩
        obtain ⟨u138, hs138⟩ : ∃ u, q.tmps.getD 138 undef = u := ⟨_, rfl⟩
        obtain ⟨u139, hs139⟩ : ∃ u, q.tmps.getD 139 undef = u := ⟨_, rfl⟩
        obtain ⟨u140, hs140⟩ : ∃ u, q.tmps.getD 140 undef = u := ⟨_, rfl⟩
        obtain ⟨u141, hs141⟩ : ∃ u, q.tmps.getD 141 undef = u := ⟨_, rfl⟩
        obtain ⟨u142, hs142⟩ : ∃ u, q.tmps.getD 142 undef = u := ⟨_, rfl⟩
        obtain rfl := Fg.frame_is (a := q) (vs := [Value.slice a na ca, Value.slice b nb cb, Value.slice c nc cc, undef, undef, undef, u6, Value.slice (some ⟨gx, 0, none⟩) 32 32, Value.slice (some ⟨gy, 0, none⟩) 32 32, Value.slice (some ⟨gz, 0, none⟩) 32 32, Value.slice (some ⟨gs, 0, none⟩) 32 32, Value.slice (some ⟨gpp, 0, none⟩) 32 32, Value.slice (some ⟨GA, 0, none⟩) 6 6, Value.int .i64 6, Value.bool true, Value.bool false, Value.slice a na ca, Value.int .i64 (na : Int), Value.bool (decide (64 < (na : Int))), Value.bool (decide (64 < (na : Int))), Value.slice b nb cb, Value.int .i64 (nb : Int), Value.bool (decide (64 < (nb : Int))), Value.bool (decide (64 < (na : Int)) || decide (64 < (nb : Int))), Value.bool (decide (64 < (na : Int)) || decide (64 < (nb : Int))), Value.slice c nc cc, Value.int .i64 (nc : Int), Value.bool (decide (64 < (nc : Int))), Value.bool (decide (64 < (na : Int)) || decide (64 < (nb : Int)) || decide (64 < (nc : Int))), Value.slice a na ca, Value.slice (some ⟨gx, 0, none⟩) 32 32, Value.slice b nb cb, Value.slice (some ⟨gy, 0, none⟩) 32 32, Value.slice c nc cc, Value.slice (some ⟨gz, 0, none⟩) 32 32, Value.slice (some ⟨gx, 0, none⟩) 32 32, Value.slice (some ⟨gy, 0, none⟩) 32 32, Value.slice (some ⟨gs, 0, none⟩) 32 32, Value.slice (some ⟨gx, 0, none⟩) 32 32, Value.slice (some ⟨gy, 0, none⟩) 32 32, Value.slice (some ⟨gpp, 0, none⟩) 32 32, Value.slice (some ⟨gx, 0, none⟩) 32 32, Value.slice (some ⟨gy, 0, none⟩) 32 32, Value.slice (some ⟨gz, 0, none⟩) 32 32, Value.slice (some ⟨gs, 0, none⟩) 32 32, Value.slice (some ⟨gpp, 0, none⟩) 32 32, Value.slice (some ⟨gx, 0, none⟩) 32 32, Value.slice (some ⟨gy, 0, none⟩) 32 32, Value.slice (some ⟨gz, 0, none⟩) 32 32, Value.slice (some ⟨gm, 0, none⟩) 32 32, Value.slice (some ⟨GA, 0, none⟩) 6 6, Value.int .i64 6, Value.slice (some ⟨GA, 0, none⟩) 6 6, Value.int .i64 6, Value.bool false, u55, u56, u57, u58, u59, u60, u61, u62, u63, u64, u65, u66, u67, u68, u69, u70, u71, u72, u73, u74, u75, Value.slice (some ⟨gs, 0, none⟩) 32 32, Value.slice (some ⟨gy, 0, none⟩) 32 32, Value.slice (some ⟨gx, 0, none⟩) 32 32, Value.slice (some ⟨gt1, 0, none⟩) 32 32, Value.bool true, Value.bool false, Value.bool false, Value.slice (some ⟨gpp, 0, none⟩) 32 32, Value.slice (some ⟨gy, 0, none⟩) 32 32, Value.slice (some ⟨gx, 0, none⟩) 32 32, Value.slice (some ⟨gt2, 0, none⟩) 32 32, Value.bool true, Value.bool false, Value.bool false, Value.bool false, Value.slice (some ⟨gs, 0, none⟩) 32 32, Value.slice (some ⟨gz, 0, none⟩) 32 32, Value.slice (some ⟨gt3, 0, none⟩) 32 32, Value.slice (some ⟨gx, 0, none⟩) 32 32, Value.slice (some ⟨gy, 0, none⟩) 32 32, Value.slice (some ⟨gz, 0, none⟩) 32 32, Value.slice (some ⟨gt4, 0, none⟩) 32 32, Value.slice (some ⟨gt5, 0, none⟩) 32 32, Value.bool true, Value.bool false, Value.bool false, Value.bool false, Value.slice (some ⟨gpp, 0, none⟩) 32 32, Value.slice (some ⟨gz, 0, none⟩) 32 32, Value.slice (some ⟨gt6, 0, none⟩) 32 32, Value.slice (some ⟨gx, 0, none⟩) 32 32, Value.slice (some ⟨gy, 0, none⟩) 32 32, Value.slice (some ⟨gz, 0, none⟩) 32 32, Value.slice (some ⟨gt7, 0, none⟩) 32 32, Value.slice (some ⟨gt8, 0, none⟩) 32 32, Value.bool true, Value.bool false, Value.bool false, u114, u115, u116, u117, u118, u119, u120, u121, u122, u123, u124, u125, u126, u127, u128, u129, u130, u131, u132, u133, u134, u135, u136, u137, u138, u139, u140, u141, u142, Value.bool false, undef, undef, undef, undef, undef, undef, undef]) hsz ⟨hrest 0 (by kernel_rfl), hrest 1 (by kernel_rfl), hrest 2 (by kernel_rfl), hrest 3 (by kernel_rfl), hrest 4 (by kernel_rfl), hrest 5 (by kernel_rfl), hrest 6 (by kernel_rfl), hrest 7 (by kernel_rfl), hrest 8 (by kernel_rfl), hrest 9 (by kernel_rfl), hrest 10 (by kernel_rfl), hrest 11 (by kernel_rfl), hrest 12 (by kernel_rfl), hrest 13 (by kernel_rfl), hrest 14 (by kernel_rfl), hrest 15 (by kernel_rfl), hrest 16 (by kernel_rfl), hrest 17 (by kernel_rfl), hrest 18 (by kernel_rfl), hrest 19 (by kernel_rfl), hrest 20 (by kernel_rfl), hrest 21 (by kernel_rfl), hrest 22 (by kernel_rfl), hrest 23 (by kernel_rfl), hrest 24 (by kernel_rfl), hrest 25 (by kernel_rfl), hrest 26 (by kernel_rfl), hrest 27 (by kernel_rfl), hrest 28 (by kernel_rfl), hrest 29 (by kernel_rfl), hrest 30 (by kernel_rfl), hrest 31 (by kernel_rfl), hrest 32 (by kernel_rfl), hrest 33 (by kernel_rfl), hrest 34 (by kernel_rfl), hrest 35 (by kernel_rfl), hrest 36 (by kernel_rfl), hrest 37 (by kernel_rfl), hrest 38 (by kernel_rfl), hrest 39 (by kernel_rfl), hrest 40 (by kernel_rfl), hrest 41 (by kernel_rfl), hrest 42 (by kernel_rfl), hrest 43 (by kernel_rfl), hrest 44 (by kernel_rfl), hrest 45 (by kernel_rfl), hrest 46 (by kernel_rfl), hrest 47 (by kernel_rfl), hrest 48 (by kernel_rfl), hrest 49 (by kernel_rfl), hrest 50 (by kernel_rfl), hrest 51 (by kernel_rfl), hrest 52 (by kernel_rfl), hrest 53 (by kernel_rfl), hrest 54 (by kernel_rfl), hrest 55 (by kernel_rfl), hrest 56 (by kernel_rfl), hrest 57 (by kernel_rfl), hrest 58 (by kernel_rfl), hrest 59 (by kernel_rfl), hrest 60 (by kernel_rfl), hrest 61 (by kernel_rfl), hrest 62 (by kernel_rfl), hrest 63 (by kernel_rfl), hrest 64 (by kernel_rfl), hrest 65 (by kernel_rfl), hrest 66 (by kernel_rfl), hrest 67 (by kernel_rfl), hrest 68 (by kernel_rfl), hrest 69 (by kernel_rfl), hrest 70 (by kernel_rfl), hrest 71 (by kernel_rfl), hrest 72 (by kernel_rfl), hrest 73 (by kernel_rfl), hrest 74 (by kernel_rfl), hrest 75 (by kernel_rfl), hrest 76 (by kernel_rfl), hrest 77 (by kernel_rfl), hrest 78 (by kernel_rfl), hrest 79 (by kernel_rfl), hrest 80 (by kernel_rfl), hrest 81 (by kernel_rfl), hrest 82 (by kernel_rfl), hrest 83 (by kernel_rfl), hrest 84 (by kernel_rfl), hrest 85 (by kernel_rfl), hrest 86 (by kernel_rfl), hrest 87 (by kernel_rfl), hrest 88 (by kernel_rfl), hrest 89 (by kernel_rfl), hrest 90 (by kernel_rfl), hrest 91 (by kernel_rfl), hrest 92 (by kernel_rfl), hrest 93 (by kernel_rfl), hrest 94 (by kernel_rfl), hrest 95 (by kernel_rfl), hrest 96 (by kernel_rfl), hrest 97 (by kernel_rfl), hrest 98 (by kernel_rfl), hrest 99 (by kernel_rfl), hrest 100 (by kernel_rfl), hrest 101 (by kernel_rfl), hrest 102 (by kernel_rfl), hrest 103 (by kernel_rfl), hrest 104 (by kernel_rfl), hrest 105 (by kernel_rfl), hrest 106 (by kernel_rfl), hrest 107 (by kernel_rfl), hrest 108 (by kernel_rfl), hrest 109 (by kernel_rfl), hrest 110 (by kernel_rfl), hrest 111 (by kernel_rfl), hrest 112 (by kernel_rfl), hrest 113 (by kernel_rfl), hs114, hs115, hs116, hs117, hs118, hs119, hs120, hs121, hs122, hs123, hs124, hs125, hs126, hs127, hs128, hs129, hs130, hs131, hs132, hs133, hs134, hs135, hs136, hs137, hs138, hs139, hs140, hs141, hs142, (show q.tmps.getD 143 undef = Value.bool false from hslots 143 (by kernel_rfl)), hrest 144 (by kernel_rfl), hrest 145 (by kernel_rfl), hrest 146 (by kernel_rfl), hrest 147 (by kernel_rfl), hrest 148 (by kernel_rfl), hrest 149 (by kernel_rfl), hrest 150 (by kernel_rfl), trivial⟩ hdf
        have HX := Lib.hid (H15_7.out.stay hB); have HT2 := Lib.hid (HT.out.stay hB); have HG2 := Lib.hid (gb_trans HG15.out hB)
        clear HT hB hsz hdf hrest hslots H15_7 H15_8 H15_9 H15_10 H15_11 HG15 HALL HM hs114 hs115 hs116 hs117 hs118 hs119 hs120 hs121 hs122 hs123 hs124 hs125 hs126 hs127 hs128 hs129 hs130 hs131 hs132 hs133 hs134 hs135 hs136 hs137 hs138 hs139 hs140 hs141 hs142
        have HT := HT2; clear HT2
        obtain ⟨v0, hv0⟩ : ∃ W, W = wq := ⟨_, rfl⟩
        subst hv0
        go_wp2_with fail
        refine (lV v0).mono ?_
        rintro e v1 ⟨glm, rfl, hg, hb⟩
        have S0 := Lib.hid hg; have Hlm := Lib.hid hb; clear hg hb
        go_wp2_with fail
        refine (productV 32 32 _ _ _ _ (scB (num la)) (ordB 236) v1 rfl rfl (HX.out.stay S0.out) Hlm.out (HT.out.stay S0.out)).mono ?_
        rintro e v2 ⟨gr1, rfl, hg, hb⟩
        have S1 := Lib.hid hg; have Hr1 := Lib.hid hb; clear hg hb
        go_wp2_with fail
        refine (sumV 32 32 _ _ _ _ (scB (num la)) (scB (num (scB (num la)) * num (ordB 236))) v2 rfl rfl (HX.out.stay (gb_trans S0.out S1.out)) Hr1.out (HT.out.stay (gb_trans S0.out S1.out))).mono ?_
        rintro e v3 ⟨gr2, rfl, hg, hb⟩
        have S2 := Lib.hid hg; have Hr2 := Lib.hid hb; clear hg hb
        go_wp2_with fail
        refine (oneV 0 (by decide) v3).mono ?_
        rintro e v4 ⟨gr3, rfl, hg, hb⟩
        have S3 := Lib.hid hg; have Hr3 := Lib.hid hb; clear hg hb
        go_wp2_with fail
        refine (sameBytes_yes _ _ 32 32 _ _ (scB (num (scB (num la)) + num (scB (num (scB (num la)) * num (ordB 236))))) (oneB 0) v4 (r_neg _) rfl (Hr2.out.stay S3.out) Hr3.out).mono ?_
        rintro e v5 ⟨rfl, hg⟩
        have S4 := Lib.hid hg; clear hg
        go_wp2
        go_ret
        exact ⟨rfl, gb_trans HG2.out (gb_trans (gb_trans (gb_trans (gb_trans S0.out S1.out) S2.out) S3.out) S4.out)⟩
end Go.Proofs.YtffjkabgaiijdaaDoor
