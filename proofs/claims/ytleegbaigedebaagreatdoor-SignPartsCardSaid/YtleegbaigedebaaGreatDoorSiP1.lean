/- texts merged -/
import Derived.Test.YtleegbaigedebaaGreatDoorSiB6
namespace Go.Proofs.YtleegbaigedebaaGreatDoor
section
open Go.RowKit
namespace Ow
set_option maxRecDepth 100000 in
theorem slice_run (a : Option Addr) (n cap lo k : Nat) (h : lo + k ≤ cap) :
  ∃ a', (∀ w, (Instr.slice 22 (.slice a n cap) (some (.int .i64 (lo : Int))) (some (.int .i64 ((lo : Int) + (k : Int)))) none).run Tryz.prog w = .ok (.slice a' k (cap - lo)) w) ∧ (lo < cap → ∀ pb po, a = some ⟨pb, po, none⟩ → a' = some ⟨pb, po + lo, none⟩) := by
 obtain ⟨j, hj, hs⟩ : ∃ j, Tryz.prog.info? (Tryz.prog.elem 22) = some j ∧ j.size = 1 := by
  have h1 : (Tryz.prog.info? (Tryz.prog.elem 22)).map (·.size) = some 1 := by kernel_rfl
  cases hq : Tryz.prog.info? (Tryz.prog.elem 22) with
  | none => rw [hq] at h1; cases h1
  | some j => rw [hq] at h1; exact ⟨j, rfl, by simpa using h1⟩
 have e1 : ((lo : Int) + (k : Int)).toNat = lo + k := by omega
 refine ⟨if cap = lo then a else a.map (·.add lo), fun w => ?_, ?_⟩
 ·rw [run_slice_lh w 22 a n cap Tryz.underlying22 .i64 .i64 _ _ (by omega) (by omega) (by omega), e1, Int.toNat_natCast]
  simp [sizeOf, typeInfo, hj, hs, sliced]
 ·intro hlt pb po e
  rw [if_neg (by omega), e]
  simp [Addr.add]
end Ow
end
section
open Go.RowKit Ow
theorem info_u8z : ∃ i, Tryz.prog.info? 5 = some i ∧ i.zero = some (.int .u8 0) ∧ i.size = 1 ∧ i.bytes = 1 := by
 have h : (Tryz.prog.info? 5).map (fun i => (i.zero, i.size, i.bytes)) = some (some (.int .u8 0), 1, 1) := by kernel_rfl
 cases hi : Tryz.prog.info? 5 with
 | none => rw [hi] at h; cases h
 | some i =>
  rw [hi] at h
  simp only [Option.map_some, Option.some.injEq, Prod.mk.injEq] at h
  exact ⟨i, rfl, h.1, h.2.1, h.2.2⟩
theorem made_bytes (n : Nat) : madeCells (Value.int .u8 0).cells n = (List.replicate n (u8N 0)).toArray := by
 unfold madeCells u8N
 apply Array.ext
 ·simp
 ·intro i h1 h2
  simp [Value.cells, Nat.mod_one]
theorem make_bytes (n c : Nat) (w : World) (h : n ≤ c) (hc : c ≤ 140737488355328) : ∃ w', (Instr.makeSlice 22 (.int .i64 n) (.int .i64 c)).run Tryz.prog w = .ok (.slice (some ⟨w.heap.size, 0, none⟩) n c) w' ∧
  w.grownBy w' none ∧ w'.heap.size = w.heap.size + 1 ∧ Blk w' w.heap.size 5 (List.replicate c (u8N 0)) := by
 obtain ⟨i, hi, hz, hs, hb⟩ := info_u8z
 have h2 := run_make (P := Tryz.prog) w 22 5 i (.int .u8 0) Tryz.underlying22 hi hz .i64 .i64 n c (by omega) (by omega) (by rw [hb]; omega) (by omega)
 rw [hs, Nat.mul_one, Int.toNat_natCast, Int.toNat_natCast, made_bytes] at h2
 exact ⟨_, h2, gb_alloc (gb_refl _ _) _, by simp, Blk.new w _ _⟩
end
section
open Go.RowKit Ow
theorem xor_bytes (a b : Nat) (ha : a < 256) (hb : b < 256) : ∃ c : Nat, c < 256 ∧ bits .xor .u8 (a : Int) (b : Int) = (c : Int) := by
 exact ⟨a ^^^ b, Nat.xor_lt_two_pow (n := 8) ha hb, u8_xor_nat a b ha hb⟩
theorem rem32 (i : Nat) : Int.tmod (i : Int) 32 = ((i % 32 : Nat) : Int) := by
 rw [Int.tmod_eq_emod_of_nonneg (by omega)]
 omega
end
section
open Go.RowKit Ow
set_option maxRecDepth 100000 in
set_option maxHeartbeats 4000000 in
theorem seed_any (B len cap : Nat) (a : Option Addr) (l : List Nat) (w : World) (hl : l.length = len) (hP : BytesAt w B a cap l) :
  Calls Tryz.prog 7 #[.slice a len cap] w fun e w' => ∃ l' : List Nat, l'.length = 32 ∧ (∀ i, l'.getD i 0 < 256) ∧ OutB l' w e w' := by
 obtain ⟨w1, hmk, hg1, hs1, hb1⟩ := make_bytes 32 32 w (Nat.le_refl _) (by omega)
 have hmk' : (Instr.makeSlice 22 (.int .i64 32) (.int .i64 32)).run Tryz.prog w = .ok (.slice (some ⟨w.heap.size, 0, none⟩) 32 32) w1 := hmk
 clear hmk
 have HS := Lib.hid (And.intro hg1 hb1); clear hg1 hb1
 have HP := Lib.hid hP; clear hP
 have HL := Lib.hid hl; clear hl
 go_enter Tryz.func7, Tryz.ntmps7
 go_wp2
 clear hmk'
 go_loopw [4] (fun v wr => ∃ (i : Nat) (c : List Nat), i ≤ len ∧ i ≤ 100 ∧ v = .int .i64 i ∧ c.length = 32 ∧ (∀ i, c.getD i 0 < 256) ∧ w.grownBy wr none ∧ Blk wr w.heap.size 5 (c.map u8N)) (fun v _ => 100 - (intOf v).toNat)
 case atStart => exact ⟨0, List.replicate 32 0, by omega, by omega, rfl, by simp, fun i => by rw [List.getD_eq_getElem?_getD, List.getElem?_replicate]; split <;> simp, HS.out.1, by simpa using HS.out.2⟩
 case round =>
  clear HS
  obtain ⟨i, c, hi, hi2, rfl, hcl, hcb, hg, hb⟩ := hrel
  by_cases hil : i < len
  ·have i0 : (i : Int) < len := by omega
   by_cases hi3 : i < 100
   ·have i1 : (i : Int) < 100 := by omega
    have hr := rem32 i
    obtain ⟨pb, po, rfl, hpb, hpc⟩ := HP.out.cells.resolve_left (by rw [HL.out]; omega)
    have hne : pb ≠ w.heap.size := by have := HP.out.lim; omega
    have c1 := (gb_cell hg (p := ⟨pb, po + i, none⟩) (show pb < _ from Nat.lt_of_lt_of_le hpb HP.out.lim) (by simp)).trans (hpc i (by rw [HL.out]; exact hil))
    obtain ⟨k, hk⟩ : ∃ k, k = i % 32 := ⟨_, rfl⟩
    have hk32 : k < 32 := by omega
    rw [← hk] at hr
    have c2 := hb.cell (u8_getD (l := c) (i := k) (by omega))
    have f2 := hb.free k
    obtain ⟨x, hx, hxo⟩ := xor_bytes (c.getD k 0) (l.getD i 0) (hcb k) (HP.out.byte i)
    unfold u8N at c1 c2
    generalize c.getD k 0 = cv at *
    generalize l.getD i 0 = lv at *
    clear hpc hk
    have hb2 := hb.set k (u8N x)
    rw [set_u8] at hb2
    have hg2 := gb_set_new hg (p := ⟨w.heap.size, k, none⟩) (Nat.le_refl _) (u8N x)
    have hcb2 : ∀ j, (c.set k x).getD j 0 < 256 := fun j => set_lt c k x hcb hx j
    unfold u8N at hb2 hg2
    have HN := Lib.hid (And.intro hb2 (And.intro hg2 (And.intro hcb2 (And.intro hcl hi)))); clear hb2 hg2 hcb2 hb hg hcb
    go_upto_region 5 with (fail)
    go_region_with (simp only [hxo])
    all_goals go_wp2
    all_goals go_roundw
    all_goals first
     | exact ⟨i + 1, c.set k x, by omega, by omega, by go_num, by rw [List.length_set]; exact HN.out.2.2.2.1, HN.out.2.2.1, gb_drew HN.out.2.1, HN.out.1⟩
     | (simp [intOf]; omega)
   ·have i1 : ¬ (i : Int) < 100 := by omega
    have HN := Lib.hid (And.intro hb (And.intro hg (And.intro hcb hcl))); clear hb hg hcb hcl
    go_wp2
    go_ret
    exact ⟨c, HN.out.2.2.2, HN.out.2.2.1, w.heap.size, by rw [HN.out.2.2.2]; rfl, HN.out.2.1, Nat.le_refl _, HN.out.1⟩
  ·have i0 : ¬ (i : Int) < len := by omega
   have HN := Lib.hid (And.intro hb (And.intro hg (And.intro hcb hcl))); clear hb hg hcb hcl
   go_wp2
   go_ret
   exact ⟨c, HN.out.2.2.2, HN.out.2.2.1, w.heap.size, by rw [HN.out.2.2.2]; rfl, HN.out.2.1, Nat.le_refl _, HN.out.1⟩
end
section
open Go.RowKit Ow
def SomeBelow (n : Int) (w : World) (e : Ending) (w' : World) : Prop := ∃ r : Nat, (r : Int) < n ∧ e = .returned (.int .i64 (r : Int)) ∧ w = w'
set_option maxHeartbeats 400000 in
theorem pick_any (x n : Int) (w : World) (hn : 1 ≤ n) (hn2 : n ≤ 4000) (hx1 : -9223372036854775808 ≤ x) (hx2 : x ≤ 9223372036854775807) :
  Calls Tryz.prog 15 #[.int .i64 x, .int .i64 n] w (SomeBelow n w) := by
 have hn1 : ¬ n < 1 := by omega
 by_cases h0 : 0 ≤ x
 ·obtain ⟨y, hy⟩ : ∃ y, y = x % n := ⟨_, rfl⟩
  have y0 : 0 ≤ y := by rw [hy]; exact Int.emod_nonneg _ (by omega)
  have y1 : y < n := by rw [hy]; exact Int.emod_lt_of_pos _ (by omega)
  have ey : x % n = y := hy.symm
  clear hy
  go_enter Tryz.func15, Tryz.ntmps15
  go_wp2
  go_ret
  exact ⟨y.toNat, by omega, by rw [show ((y.toNat : Nat) : Int) = y by omega]; rfl, rfl⟩
 ·obtain ⟨y, hy⟩ : ∃ y, y = x.tmod n := ⟨_, rfl⟩
  have y0 : y ≤ 0 := by rw [hy]; have := Int.tmod_nonneg (a := -x) n (by omega); rw [Int.neg_tmod] at this; omega
  have y1 : -n < y := by rw [hy]; have := Int.tmod_lt_of_pos (-x) (show 0 < n by omega); rw [Int.neg_tmod] at this; omega
  have ey : x.tmod n = y := hy.symm
  clear hy
  by_cases hz : y < 0
  ·go_enter Tryz.func15, Tryz.ntmps15
   go_wp2
   go_ret
   exact ⟨(y + n).toNat, by omega, by rw [show (((y + n).toNat : Nat) : Int) = y + n by omega]; rfl, rfl⟩
  ·go_enter Tryz.func15, Tryz.ntmps15
   go_wp2
   go_ret
   exact ⟨y.toNat, by omega, by rw [show ((y.toNat : Nat) : Int) = y by omega]; rfl, rfl⟩
end
section
open Go.RowKit Ow Go.Shelf Ed
def Fg.It.sig (L : List Nat) : It := ⟨fun v w => ∃ (g c : Nat) (tl : List Value), v = .slice (some ⟨g, 0, none⟩) 64 c ∧ 64 ≤ c ∧ c < 9223372036854775808 ∧ Blk w g 5 (L.map u8N ++ tl), fun _ _ _ ⟨g, c, tl, e, h1, h2, hb⟩ hg => ⟨g, c, tl, e, h1, h2, hb.grown hg (by simp)⟩⟩
theorem sigB {w : World} {g c : Nat} {L : List Nat} {tl : List Value} (hL : L.length = 64) (hb : ∀ i, L.getD i 0 < 256) (h1 : 64 ≤ c) (h2 : c < 9223372036854775808) (h : Blk w g 5 (L.map u8N ++ tl)) : BytesAt w w.heap.size (some ⟨g, 0, none⟩) c L :=
 blk_bytes h hL h1 h2 hb h.lt (Nat.le_refl _)
theorem sign_sig (l m : List Nat) (cap B mt ct Bt : Nat) (a bt : Option Addr) (pt : List Part) (w0 : World) (HO0 : OTab w0) (HT0 : ETab w0) (HS0 : Tables w0) (hl : l.length = 32) (HPB : Hid (BytesAt w0 B a cap l)) (hpt : pt.length = mt) (HPt : Hid (PartsAt w0 Bt bt ct pt)) (hct : ct < 9223372036854775808) (hm : joined pt = m) (hlen : m.length < 1000000) :
  Calls Tryz.prog 9 #[.slice a 32 cap, .slice bt mt ct] w0 fun e w' => ∃ (g c : Nat) (tl : List Value), e = .returned (.slice (some ⟨g, 0, none⟩) 64 c) ∧ w0.grownBy w' none ∧ 64 ≤ c ∧ c < 9223372036854775808 ∧ Blk w' g 5 ((sgL l m).map u8N ++ tl) := by
 subst hm
 refine (sign_any l cap B mt ct Bt a bt pt w0 HO0 HT0 HS0 hl HPB hpt HPt hct hlen).mono ?_
 rintro e w' ⟨g, c, rfl, hg, _, ho⟩
 obtain ⟨tl, hb, _, h1, h2⟩ := own_row ho
 exact ⟨g, c, tl, rfl, hg, h1, h2, hb⟩
theorem same_sig {w : World} {g c g' c' : Nat} {L : List Nat} {tl tl' : List Value} (hL : L.length = 64) (hb : ∀ i, L.getD i 0 < 256) (h1 : 64 ≤ c) (h2 : c < 9223372036854775808) (h : Blk w g 5 (L.map u8N ++ tl)) (k1 : 64 ≤ c') (k2 : c' < 9223372036854775808) (k : Blk w g' 5 (L.map u8N ++ tl')) :
  Calls Tryz.prog 14 #[.slice (some ⟨g, 0, none⟩) 64 c, .slice (some ⟨g', 0, none⟩) 64 c'] w fun e w' => e = .returned (.bool true) ∧ w.grownBy w' none := by
 have := sameBytes_any w.heap.size w.heap.size 64 64 c c' _ _ L L w hL hL (sigB hL hb h1 h2 h) (sigB hL hb k1 k2 k)
 rwa [decide_eq_true rfl] at this
theorem ver_yes (l m : List Nat) (g gp c mt ct Bt : Nat) (bt : Option Addr) (pt : List Part) (tl : List Value) (w : World) (HO0 : OTab w) (HT0 : ETab w) (HS0 : Tables w) (hp : Blk w gp 104 ((digL (enc (sgA l))).map u8N)) (h1 : 64 ≤ c) (h2 : c < 9223372036854775808) (h : Blk w g 5 ((sgL l m).map u8N ++ tl)) (hpt : pt.length = mt) (HPt : Hid (PartsAt w Bt bt ct pt)) (hct : ct < 9223372036854775808) (hm : joined pt = m) (hlen : m.length < 1000000) :
  Calls Tryz.prog 10 #[.slice (some ⟨gp, 0, none⟩) 32 32, .slice (some ⟨g, 0, none⟩) 64 c, .slice bt mt ct] w fun e w' => e = .returned (.bool true) ∧ w.grownBy w' none := by
 subst hm
 refine (verify_any (digL (enc (sgA l))) (sgL l (joined pt)) 32 32 _ c _ mt ct Bt _ _ bt pt w HO0 HT0 HS0 (digL_len _) (by decide) (Lib.hid (digB hp)) (sgL_len _ _) (Lib.hid (sigB (sgL_len _ _) (sgL_lt _ _) h1 h2 h)) hpt HPt hct hlen).mono ?_
 rintro e w' ⟨b, rfl, hg, hv⟩
 obtain rfl : b = true := hv.2 (ver_sign _ _)
 exact ⟨rfl, hg⟩
theorem partsN {w : World} {N : Nat} {T : TypeId} {ps : List Part} {vs : List Value} (hb : Blk w N T vs) (hv : vs = ps.map Part.v) (h : ∀ p ∈ ps, PartAt w w.heap.size p.a p.cap p.l ∧ p.cap < 9223372036854775808) : PartsAt w w.heap.size (some ⟨N, 0, none⟩) ps.length ps := by
 subst hv
 refine ⟨Nat.le_refl _, h, Or.inr ⟨N, 0, rfl, by have := hb.lt; omega, hb.lt, fun i hi => ?_⟩⟩
 rw [Nat.zero_add]
 apply hb.cell
 rw [List.getElem?_map, List.getElem?_eq_getElem hi]
 rfl
theorem part_nil (w : World) (B : Nat) : PartAt w B none 0 [] ∧ (0 : Nat) < 9223372036854775808 := ⟨⟨by simp, fun i => by simp, Or.inl rfl⟩, by decide⟩
theorem cut3 (l : List Nat) (i j : Nat) : l.take i ++ ((l.drop i).take j ++ l.drop (i + j)) = l := by
 rw [← List.drop_drop, List.take_append_drop, List.take_append_drop]
theorem joined3 (p q r : Part) : joined [p, q, r] = p.l ++ (q.l ++ r.l) := by simp [joined]
theorem joined4 (p n q r : Part) (h : n.l = []) : joined [p, n, q, r] = p.l ++ (q.l ++ r.l) := by simp [joined, h]
end
section
open Go.RowKit Ow Go.Shelf Ed
set_option maxRecDepth 100000 in
set_option maxHeartbeats 12800000 in
theorem signParts_any (n0 c0 n1 c1 B : Nat) (a0 a1 : Option Addr) (z2 z3 : Int) (l0 l1 : List Nat) (w0 : World) (HO : OTab w0) (HT : ETab w0) (HS : Tables w0) (hl0 : l0.length = n0) (hl1 : l1.length = n1)
  (hp0 : BytesAt w0 B a0 c0 l0) (hp1 : BytesAt w0 B a1 c1 l1) (hz2 : -9223372036854775808 ≤ z2 ∧ z2 ≤ 9223372036854775807) (hz3 : -9223372036854775808 ≤ z3 ∧ z3 ≤ 9223372036854775807) :
  Calls Tryz.prog 4 #[.slice a0 n0 c0, .slice a1 n1 c1, .int .i64 z2, .int .i64 z3] w0 fun e w' => e = .returned (.bool true) ∧ w0.grownBy w' none := by
 have HH := Lib.hid (And.intro HO (And.intro HT HS)); clear HO HT HS
 have HP0 := Lib.hid (And.intro hl0 hp0); clear hl0 hp0
 have HP1 := Lib.hid (And.intro hl1 hp1); clear hl1 hp1
 have HZ := Lib.hid (And.intro hz2 hz3); clear hz2 hz3
 go_enter Tryz.func4, Tryz.ntmps4
 go_wp2_with fail
 refine (awake5_any w0 HH.out.1 HH.out.2.1 HH.out.2.2).mono ?_
 rintro e w1 ⟨rfl, ga⟩
 have HG := Lib.hid ga; clear ga
 by_cases h1 : 1000 < n1
 case pos =>
  have i1 : (1000 : Int) < n1 := by omega
  go_wp2
  go_ret
  exact ⟨rfl, HG.out⟩
 have i1 : ¬ (1000 : Int) < n1 := by omega
 by_cases h0 : 100 < n0
 case pos =>
  have i0 : (100 : Int) < n0 := by omega
  go_wp2
  go_ret
  exact ⟨rfl, HG.out⟩
 have i0 : ¬ (100 : Int) < n0 := by omega
 go_wp2_with fail
 refine (seed_any B n0 c0 a0 l0 w1 HP0.out.1 (HP0.out.2.stay HG.out)).mono ?_
 rintro e w2 ⟨x, hx, hxb, ho⟩
 obtain ⟨gx, rfl, ga, hnx, hbx⟩ := outB_blk ho hx
 have HX := Lib.hid (And.intro (gb_trans HG.out ga) (And.intro hbx (And.intro hx hxb))); clear ga hbx ho hnx hx hxb HG
 go_wp2_with fail
 refine (pick_any z2 _ w2 (by omega) (by omega) HZ.out.1.1 HZ.out.1.2).mono ?_
 rintro e w3 ⟨i, hi, rfl, rfl⟩
 have hi2 : i ≤ n1 := by omega
 have i2 : (i : Int) ≤ n1 := by omega
 go_wp2_with fail
 refine (pick_any z3 _ w2 (by omega) (by omega) HZ.out.2.1 HZ.out.2.2).mono ?_
 rintro e w3 ⟨j, hj, rfl, rfl⟩
 have hj2 : i + j ≤ n1 := by omega
 have i3 : (i : Int) + j ≤ n1 := by omega
 go_wp2_with fail
 have gz := gb_alloc HX.out.1 (.cells #[.slice a1 n1 c1] 22)
 have gz1 := gb_alloc (gb_refl w2 none) (.cells #[.slice a1 n1 c1] 22)
 refine (sign_any x 32 _ 1 1 _ (some ⟨gx, 0, none⟩) _ [⟨a1, c1, l1⟩] _ (HH.out.1.kept gz (fun b e => by cases e)) (HH.out.2.1.grown gz) (HH.out.2.2.kept gz (fun b e => by cases e)) HX.out.2.2.1 (Lib.hid ((rowB0 HX.out.2.1 HX.out.2.2.1 HX.out.2.2.2).stay gz1)) rfl (Lib.hid (parts1 HP1.out.1 (Blk.new w2 [.slice a1 n1 c1] 22) (HP1.out.2.stay gz))) (by decide) (by rw [part_one, HP1.out.1]; omega)).mono ?_
 rintro e w4 ⟨gs, cs, rfl, ga, _, hos⟩
 rw [part_one] at hos
 obtain ⟨tl, hbs, _, h64, hc63⟩ := own_row hos
 have HX4 := Lib.hid (And.intro (gb_trans gz ga) (And.intro ((HX.out.2.1.gn gz1).grown ga (by simp)) (And.intro HX.out.2.2 (And.intro hbs (And.intro h64 hc63))))); clear ga hos hbs h64 hc63 gz gz1 HX
 go_wp2_with fail
 refine (pub_any x 32 _ (some ⟨gx, 0, none⟩) w4 (HH.out.2.1.grown HX4.out.1) (HH.out.2.2.kept HX4.out.1 (fun b e => by cases e)) HX4.out.2.2.1.1 (Lib.hid (rowB0 HX4.out.2.1 HX4.out.2.2.1.1 HX4.out.2.2.1.2))).mono ?_
 rintro e w5 ⟨gp, rfl, ga, _, hbp⟩
 have HX5 := Lib.hid (And.intro (gb_trans HX4.out.1 ga) (And.intro (HX4.out.2.1.gn ga) (And.intro HX4.out.2.2.1 (And.intro (HX4.out.2.2.2.1.gn ga) (And.intro HX4.out.2.2.2.2 hbp))))); clear ga hbp HX4
 go_upto_region 10 with (fail)
 obtain ⟨G, hbx, ⟨hx, hxb⟩, hbs, ⟨h64, hc63⟩, hbp⟩ := HX5.out; clear HX5
 have HT0 := HH.out.2.1
 have HT : ETab w5 := HT0.grown G
 have hf1 : n1 ≤ c1 := by have := HP1.out.2.fits; rw [HP1.out.1] at this; exact this
 obtain ⟨sA, hA, hA2⟩ := slice_to a1 n1 c1 i (by omega)
 obtain ⟨sB, hB, hB2⟩ := slice_run a1 n1 c1 i j (by omega)
 obtain ⟨sC, hC, hC2⟩ := slice_from a1 n1 c1 (i + j) (by omega)
 have hC' : ∀ w, (Instr.slice 22 (.slice a1 n1 c1) (some (.int .i64 ((i : Int) + (j : Int)))) none none).run Tryz.prog w = .ok (.slice sC (n1 - (i + j)) (c1 - (i + j))) w := hC
 have qA : BytesAt w0 B sA c1 (l1.take i) := bytes_take HP1.out.2 hA2
 have qB : BytesAt w0 B sB (c1 - i) ((l1.drop i).take j) := bytes_take (bytes_drop HP1.out.2 hB2) (fun pb po e => e)
 have qC : BytesAt w0 B sC (c1 - (i + j)) (l1.drop (i + j)) := bytes_drop HP1.out.2 hC2
 have eA : (l1.take i).length = i := by rw [List.length_take, HP1.out.1]; omega
 have eB : ((l1.drop i).take j).length = j := by rw [List.length_take, List.length_drop, HP1.out.1]; omega
 have eC : (l1.drop (i + j)).length = n1 - (i + j) := by rw [List.length_drop, HP1.out.1]
 have hl1000 : l1.length < 1000000 := by rw [HP1.out.1]; omega
 clear hC hA2 hB2 hC2
 have Gs0 := G.size
 have l1hbx := hbx.lt
 have l1hbs := hbs.lt
 have l1hbp := hbp.lt
 refine Fg.rT [] [.any, .any, .any, .any, .any, .any, .any, .any, .val (Value.bool true), .any, .any, .any, .any, .any, .any, .any, .any, .any, .any, .any, .any, .any, .any, .any, .any, .any, .any, .any, .any, .any, .any, .any, .any, .any, .any, .any, .any, .any, .any, .any, .any, .any, .any, .any, .any, .any, .val (Value.slice (some ⟨gx, 0, none⟩) 32 32), .val (Value.slice a1 n1 c1), .val (Value.int .i64 (i : Int)), .val (Value.slice sA i c1), .val (Value.slice a1 n1 c1), .val (Value.int .i64 (i : Int)), .val (Value.int .i64 ((i : Int) + (j : Int))), .val (Value.slice sB j (c1 - i)), .val (Value.slice a1 n1 c1), .val (Value.int .i64 ((i : Int) + (j : Int))), .val (Value.slice sC (n1 - (i + j)) (c1 - (i + j))), .row 22 ([.slice sA i c1, .slice sB j (c1 - i), .slice sC (n1 - (i + j)) (c1 - (i + j))]) 3 w5.heap.size, .sig (sgL x l1), .val (Value.slice (some ⟨gs, 0, none⟩) 64 cs), .val (Value.bool true), .val (Value.bool true), .val (Value.slice (some ⟨gx, 0, none⟩) 32 32), .val (Value.slice a1 n1 c1), .row 22 ([.slice a1 n1 c1]) 1 w5.heap.size, .sig (sgL x l1), .val (Value.slice (some ⟨gs, 0, none⟩) 64 cs), .val (Value.bool true), .val (Value.bool true), .val (Value.bool true), .val (Value.slice (some ⟨gp, 0, none⟩) 32 32), .val (Value.slice (some ⟨gs, 0, none⟩) 64 cs), .val (Value.slice a1 n1 c1), .val (Value.int .i64 (i : Int)), .val (Value.slice sA i c1), .val (Value.slice a1 n1 c1), .val (Value.int .i64 (i : Int)), .val (Value.int .i64 ((i : Int) + (j : Int))), .val (Value.slice sB j (c1 - i)), .val (Value.slice a1 n1 c1), .val (Value.int .i64 ((i : Int) + (j : Int))), .val (Value.slice sC (n1 - (i + j)) (c1 - (i + j))), .row 22 ([.slice sA i c1, .slice none 0 0, .slice sB j (c1 - i), .slice sC (n1 - (i + j)) (c1 - (i + j))]) 4 w5.heap.size, .val (Value.bool true), .val (Value.bool true)] 40 ?_ ?_
 ·refine Fg.vS rfl (by decide) (fun ac w h => ?_) ?_
  ·have e9 : _ = Value.slice (some ⟨gx, 0, none⟩) 32 32 := h.r 9
   exact Fg.vn (Value.slice (some ⟨gx, 0, none⟩) 32 32) (Fg.run_move rfl e9)
  refine Fg.vS rfl (by decide) (fun ac w h => ?_) ?_
  ·have e1 : _ = Value.slice a1 n1 c1 := h.r 1
   exact Fg.vn (Value.slice a1 n1 c1) (Fg.run_move rfl e1)
  refine Fg.vS rfl (by decide) (fun ac w h => ?_) ?_
  ·have e10 : _ = Value.int .i64 (i : Int) := h.r 10
   exact Fg.vn (Value.int .i64 (i : Int)) (Fg.run_move rfl e10)
  refine Fg.vS rfl (by decide) (fun ac w h => ?_) ?_
  ·have e47 : _ = Value.slice a1 n1 c1 := h.d 47
   have e48 : _ = Value.int .i64 (i : Int) := h.d 48
   refine ⟨wants_none rfl, Value.slice sA i c1, w, ?_, gb_refl _ _, rfl⟩
   clear h
   have hrun := hA w
   simp only [execOp, Act.eval, e47, e48, Option.map_some, Option.map_none]
   go_simp
  refine Fg.vS rfl (by decide) (fun ac w h => ?_) ?_
  ·have e1 : _ = Value.slice a1 n1 c1 := h.r 1
   exact Fg.vn (Value.slice a1 n1 c1) (Fg.run_move rfl e1)
  refine Fg.vS rfl (by decide) (fun ac w h => ?_) ?_
  ·have e10 : _ = Value.int .i64 (i : Int) := h.r 10
   exact Fg.vn (Value.int .i64 (i : Int)) (Fg.run_move rfl e10)
  refine Fg.vS rfl (by decide) (fun ac w h => ?_) ?_
  ·have e11 : _ = Value.int .i64 ((i : Int) + (j : Int)) := h.r 11
   exact Fg.vn (Value.int .i64 ((i : Int) + (j : Int))) (Fg.run_move rfl e11)
  refine Fg.vS rfl (by decide) (fun ac w h => ?_) ?_
  ·have e50 : _ = Value.slice a1 n1 c1 := h.d 50
   have e51 : _ = Value.int .i64 (i : Int) := h.d 51
   have e52 : _ = Value.int .i64 ((i : Int) + (j : Int)) := h.d 52
   refine ⟨wants_none rfl, Value.slice sB j (c1 - i), w, ?_, gb_refl _ _, rfl⟩
   clear h
   have hrun := hB w
   simp only [execOp, Act.eval, e50, e51, e52, Option.map_some, Option.map_none]
   go_simp
  refine Fg.vS rfl (by decide) (fun ac w h => ?_) ?_
  ·have e1 : _ = Value.slice a1 n1 c1 := h.r 1
   exact Fg.vn (Value.slice a1 n1 c1) (Fg.run_move rfl e1)
  refine Fg.vS rfl (by decide) (fun ac w h => ?_) ?_
  ·have e11 : _ = Value.int .i64 ((i : Int) + (j : Int)) := h.r 11
   exact Fg.vn (Value.int .i64 ((i : Int) + (j : Int))) (Fg.run_move rfl e11)
  refine Fg.vS rfl (by decide) (fun ac w h => ?_) ?_
  ·have e54 : _ = Value.slice a1 n1 c1 := h.d 54
   have e55 : _ = Value.int .i64 ((i : Int) + (j : Int)) := h.d 55
   refine ⟨wants_none rfl, Value.slice sC (n1 - (i + j)) (c1 - (i + j)), w, ?_, gb_refl _ _, rfl⟩
   clear h
   have hrun := hC' w
   simp only [execOp, Act.eval, e54, e55, Option.map_some, Option.map_none]
   go_simp
  refine Fg.vS rfl (by decide) (fun ac w h => ?_) ?_
  ·have e49 : _ = Value.slice sA i c1 := h.d 49
   have e53 : _ = Value.slice sB j (c1 - i) := h.d 53
   have e56 : _ = Value.slice sC (n1 - (i + j)) (c1 - (i + j)) := h.d 56
   exact ⟨(wants_none rfl), .slice (some ⟨w.heap.size, 0, none⟩) 3 3, w.alloc (.cells #[.slice sA i c1, .slice sB j (c1 - i), .slice sC (n1 - (i + j)) (c1 - (i + j))] 22), Fg.run_buildSlice (vs := #[(0, Value.slice sA i c1), (1, Value.slice sB j (c1 - i)), (2, Value.slice sC (n1 - (i + j)) (c1 - (i + j)))]) rfl (by simp only [List.map_toArray, List.map_cons, List.map_nil, Act.eval, e49, e53, e56]) (by kernel_rfl), World.grownBy_alloc _ _ _, ⟨w.heap.size, rfl, h.base.size, Blk.new w [.slice sA i c1, .slice sB j (c1 - i), .slice sC (n1 - (i + j)) (c1 - (i + j))] _⟩⟩
  refine Fg.cS rfl (by decide) (fun ac w h => ?_) ?_
  ·have e46 : _ = Value.slice (some ⟨gx, 0, none⟩) 32 32 := h.d 46
   obtain ⟨B57, e57, hn57, b57⟩ := h.d 57
   refine ⟨(wants_none rfl), 9, #[Value.slice (some ⟨gx, 0, none⟩) 32 32, .slice (some ⟨B57, 0, none⟩) 3 3], Fg.run_call rfl rfl (by simp only [List.map_toArray, List.map_cons, List.map_nil, Act.eval, e46, e57]) (Fg.run_enter Tryz.func9 (by kernel_rfl) (by kernel_rfl)), ?_⟩
   exact (sign_sig x l1 32 _ 3 3 _ (some ⟨gx, 0, none⟩) (some ⟨B57, 0, none⟩) [⟨sA, c1, l1.take i⟩, ⟨sB, c1 - i, (l1.drop i).take j⟩, ⟨sC, c1 - (i + j), l1.drop (i + j)⟩] _ (HH.out.1.kept (gb_trans G h.base) (fun b e => by cases e)) (HT.grown h.base) (HH.out.2.2.kept (gb_trans G h.base) (fun b e => by cases e)) hx (Lib.hid (rowB0 (hbx.gn h.base) hx hxb)) rfl (Lib.hid (partsN (ps := [⟨sA, c1, l1.take i⟩, ⟨sB, c1 - i, (l1.drop i).take j⟩, ⟨sC, c1 - (i + j), l1.drop (i + j)⟩]) b57 (by simp only [List.map_cons, List.map_nil, Part.v, eA, eB, eC]) (by intro p hp; simp only [List.mem_cons, List.not_mem_nil, or_false] at hp; rcases hp with rfl | rfl | rfl; all_goals first | exact ⟨part_of (qA.stay (gb_trans G h.base)), qA.top⟩ | exact ⟨part_of (qB.stay (gb_trans G h.base)), qB.top⟩ | exact ⟨part_of (qC.stay (gb_trans G h.base)), qC.top⟩))) (by decide) ((joined3 _ _ _).trans (cut3 l1 i j)) hl1000).mono fun _ _ ⟨g, c, tl, he, hg, h1, h2, hb⟩ => ⟨_, he, hg, ⟨g, c, tl, rfl, h1, h2, hb⟩⟩
  refine Fg.vS rfl (by decide) (fun ac w h => ?_) ?_
  ·have e12 : _ = Value.slice (some ⟨gs, 0, none⟩) 64 cs := h.r 12
   exact Fg.vn (Value.slice (some ⟨gs, 0, none⟩) 64 cs) (Fg.run_move rfl e12)
  refine Fg.cS rfl (by decide) (fun ac w h => ?_) ?_
  ·obtain ⟨g58, c58, t58, e58, k58, m58, b58⟩ := h.d 58
   have e59 : _ = Value.slice (some ⟨gs, 0, none⟩) 64 cs := h.d 59
   refine ⟨(wants_none rfl), 14, #[.slice (some ⟨g58, 0, none⟩) 64 c58, Value.slice (some ⟨gs, 0, none⟩) 64 cs], Fg.run_call rfl rfl (by simp only [List.map_toArray, List.map_cons, List.map_nil, Act.eval, e58, e59]) (Fg.run_enter Tryz.func14 (by kernel_rfl) (by kernel_rfl)), ?_⟩
   exact (same_sig (sgL_len _ _) (sgL_lt _ _) k58 m58 b58 h64 hc63 (hbs.gn h.base)).mono fun _ _ ⟨he, hg⟩ => ⟨_, he, hg, rfl⟩
  refine Fg.vS rfl (by decide) (fun ac w h => ?_) ?_
  ·have e60 : _ = Value.bool true := h.d 60
   exact Fg.vn (Value.bool true) (Fg.run_move rfl e60)
  refine Fg.vS rfl (by decide) (fun ac w h => ?_) ?_
  ·have e61 : _ = Value.bool true := h.d 61
   have e9 : _ = Value.slice (some ⟨gx, 0, none⟩) 32 32 := h.r 9
   exact Fg.vx (Value.slice (some ⟨gx, 0, none⟩) 32 32) (wants_some (d := 61) rfl rfl (by rw [h.size]; show 61 < 85; decide) e61) (Fg.run_move rfl e9)
  refine Fg.vS rfl (by decide) (fun ac w h => ?_) ?_
  ·have e61 : _ = Value.bool true := h.d 61
   have e1 : _ = Value.slice a1 n1 c1 := h.r 1
   exact Fg.vx (Value.slice a1 n1 c1) (wants_some (d := 61) rfl rfl (by rw [h.size]; show 61 < 85; decide) e61) (Fg.run_move rfl e1)
  refine Fg.vS rfl (by decide) (fun ac w h => ?_) ?_
  ·have e61 : _ = Value.bool true := h.d 61
   have e63 : _ = Value.slice a1 n1 c1 := h.d 63
   exact ⟨(wants_some (d := 61) rfl rfl (by rw [h.size]; show 61 < 85; decide) e61), .slice (some ⟨w.heap.size, 0, none⟩) 1 1, w.alloc (.cells #[.slice a1 n1 c1] 22), Fg.run_buildSlice (vs := #[(0, Value.slice a1 n1 c1)]) rfl (by simp only [List.map_toArray, List.map_cons, List.map_nil, Act.eval, e63]) (by kernel_rfl), World.grownBy_alloc _ _ _, ⟨w.heap.size, rfl, h.base.size, Blk.new w [.slice a1 n1 c1] _⟩⟩
  refine Fg.cS rfl (by decide) (fun ac w h => ?_) ?_
  ·have e61 : _ = Value.bool true := h.d 61
   have e62 : _ = Value.slice (some ⟨gx, 0, none⟩) 32 32 := h.d 62
   obtain ⟨B64, e64, hn64, b64⟩ := h.d 64
   refine ⟨(wants_some (d := 61) rfl rfl (by rw [h.size]; show 61 < 85; decide) e61), 9, #[Value.slice (some ⟨gx, 0, none⟩) 32 32, .slice (some ⟨B64, 0, none⟩) 1 1], Fg.run_call rfl rfl (by simp only [List.map_toArray, List.map_cons, List.map_nil, Act.eval, e62, e64]) (Fg.run_enter Tryz.func9 (by kernel_rfl) (by kernel_rfl)), ?_⟩
   exact (sign_sig x l1 32 _ 1 1 _ (some ⟨gx, 0, none⟩) (some ⟨B64, 0, none⟩) [⟨a1, c1, l1⟩] _ (HH.out.1.kept (gb_trans G h.base) (fun b e => by cases e)) (HT.grown h.base) (HH.out.2.2.kept (gb_trans G h.base) (fun b e => by cases e)) hx (Lib.hid (rowB0 (hbx.gn h.base) hx hxb)) rfl (Lib.hid (parts1 HP1.out.1 b64 (HP1.out.2.stay (gb_trans G h.base)))) (by decide) (part_one _ _ _) hl1000).mono fun _ _ ⟨g, c, tl, he, hg, h1, h2, hb⟩ => ⟨_, he, hg, ⟨g, c, tl, rfl, h1, h2, hb⟩⟩
  refine Fg.vS rfl (by decide) (fun ac w h => ?_) ?_
  ·have e61 : _ = Value.bool true := h.d 61
   have e12 : _ = Value.slice (some ⟨gs, 0, none⟩) 64 cs := h.r 12
   exact Fg.vx (Value.slice (some ⟨gs, 0, none⟩) 64 cs) (wants_some (d := 61) rfl rfl (by rw [h.size]; show 61 < 85; decide) e61) (Fg.run_move rfl e12)
  refine Fg.cS rfl (by decide) (fun ac w h => ?_) ?_
  ·have e61 : _ = Value.bool true := h.d 61
   obtain ⟨g65, c65, t65, e65, k65, m65, b65⟩ := h.d 65
   have e66 : _ = Value.slice (some ⟨gs, 0, none⟩) 64 cs := h.d 66
   refine ⟨(wants_some (d := 61) rfl rfl (by rw [h.size]; show 61 < 85; decide) e61), 14, #[.slice (some ⟨g65, 0, none⟩) 64 c65, Value.slice (some ⟨gs, 0, none⟩) 64 cs], Fg.run_call rfl rfl (by simp only [List.map_toArray, List.map_cons, List.map_nil, Act.eval, e65, e66]) (Fg.run_enter Tryz.func14 (by kernel_rfl) (by kernel_rfl)), ?_⟩
   exact (same_sig (sgL_len _ _) (sgL_lt _ _) k65 m65 b65 h64 hc63 (hbs.gn h.base)).mono fun _ _ ⟨he, hg⟩ => ⟨_, he, hg, rfl⟩
  refine Fg.vS rfl (by decide) (fun ac w h => ?_) ?_
  ·have e61 : _ = Value.bool true := h.d 61
   have e67 : _ = Value.bool true := h.d 67
   refine ⟨wants_none rfl, Value.bool true, w, ?_, gb_refl _ _, rfl⟩
   clear h
   simp only [execOp, Act.eval, e61, e67]
   go_simp
  refine Fg.vS rfl (by decide) (fun ac w h => ?_) ?_
  ·have e68 : _ = Value.bool true := h.d 68
   exact Fg.vn (Value.bool true) (Fg.run_move rfl e68)
  refine Fg.vS rfl (by decide) (fun ac w h => ?_) ?_
  ·have e69 : _ = Value.bool true := h.d 69
   have e13 : _ = Value.slice (some ⟨gp, 0, none⟩) 32 32 := h.r 13
   exact Fg.vx (Value.slice (some ⟨gp, 0, none⟩) 32 32) (wants_some (d := 69) rfl rfl (by rw [h.size]; show 69 < 85; decide) e69) (Fg.run_move rfl e13)
  refine Fg.vS rfl (by decide) (fun ac w h => ?_) ?_
  ·have e69 : _ = Value.bool true := h.d 69
   have e12 : _ = Value.slice (some ⟨gs, 0, none⟩) 64 cs := h.r 12
   exact Fg.vx (Value.slice (some ⟨gs, 0, none⟩) 64 cs) (wants_some (d := 69) rfl rfl (by rw [h.size]; show 69 < 85; decide) e69) (Fg.run_move rfl e12)
  refine Fg.vS rfl (by decide) (fun ac w h => ?_) ?_
  ·have e69 : _ = Value.bool true := h.d 69
   have e1 : _ = Value.slice a1 n1 c1 := h.r 1
   exact Fg.vx (Value.slice a1 n1 c1) (wants_some (d := 69) rfl rfl (by rw [h.size]; show 69 < 85; decide) e69) (Fg.run_move rfl e1)
  refine Fg.vS rfl (by decide) (fun ac w h => ?_) ?_
  ·have e69 : _ = Value.bool true := h.d 69
   have e10 : _ = Value.int .i64 (i : Int) := h.r 10
   exact Fg.vx (Value.int .i64 (i : Int)) (wants_some (d := 69) rfl rfl (by rw [h.size]; show 69 < 85; decide) e69) (Fg.run_move rfl e10)
  refine Fg.vS rfl (by decide) (fun ac w h => ?_) ?_
  ·have e69 : _ = Value.bool true := h.d 69
   have e72 : _ = Value.slice a1 n1 c1 := h.d 72
   have e73 : _ = Value.int .i64 (i : Int) := h.d 73
   refine ⟨wants_some (d := 69) rfl rfl (by rw [h.size]; show 69 < 85; decide) e69, Value.slice sA i c1, w, ?_, gb_refl _ _, rfl⟩
   clear h
   have hrun := hA w
   simp only [execOp, Act.eval, e72, e73, Option.map_some, Option.map_none]
   go_simp
  refine Fg.vS rfl (by decide) (fun ac w h => ?_) ?_
  ·have e69 : _ = Value.bool true := h.d 69
   have e1 : _ = Value.slice a1 n1 c1 := h.r 1
   exact Fg.vx (Value.slice a1 n1 c1) (wants_some (d := 69) rfl rfl (by rw [h.size]; show 69 < 85; decide) e69) (Fg.run_move rfl e1)
  refine Fg.vS rfl (by decide) (fun ac w h => ?_) ?_
  ·have e69 : _ = Value.bool true := h.d 69
   have e10 : _ = Value.int .i64 (i : Int) := h.r 10
   exact Fg.vx (Value.int .i64 (i : Int)) (wants_some (d := 69) rfl rfl (by rw [h.size]; show 69 < 85; decide) e69) (Fg.run_move rfl e10)
  refine Fg.vS rfl (by decide) (fun ac w h => ?_) ?_
  ·have e69 : _ = Value.bool true := h.d 69
   have e11 : _ = Value.int .i64 ((i : Int) + (j : Int)) := h.r 11
   exact Fg.vx (Value.int .i64 ((i : Int) + (j : Int))) (wants_some (d := 69) rfl rfl (by rw [h.size]; show 69 < 85; decide) e69) (Fg.run_move rfl e11)
  refine Fg.vS rfl (by decide) (fun ac w h => ?_) ?_
  ·have e69 : _ = Value.bool true := h.d 69
   have e75 : _ = Value.slice a1 n1 c1 := h.d 75
   have e76 : _ = Value.int .i64 (i : Int) := h.d 76
   have e77 : _ = Value.int .i64 ((i : Int) + (j : Int)) := h.d 77
   refine ⟨wants_some (d := 69) rfl rfl (by rw [h.size]; show 69 < 85; decide) e69, Value.slice sB j (c1 - i), w, ?_, gb_refl _ _, rfl⟩
   clear h
   have hrun := hB w
   simp only [execOp, Act.eval, e75, e76, e77, Option.map_some, Option.map_none]
   go_simp
  refine Fg.vS rfl (by decide) (fun ac w h => ?_) ?_
  ·have e69 : _ = Value.bool true := h.d 69
   have e1 : _ = Value.slice a1 n1 c1 := h.r 1
   exact Fg.vx (Value.slice a1 n1 c1) (wants_some (d := 69) rfl rfl (by rw [h.size]; show 69 < 85; decide) e69) (Fg.run_move rfl e1)
  refine Fg.vS rfl (by decide) (fun ac w h => ?_) ?_
  ·have e69 : _ = Value.bool true := h.d 69
   have e11 : _ = Value.int .i64 ((i : Int) + (j : Int)) := h.r 11
   exact Fg.vx (Value.int .i64 ((i : Int) + (j : Int))) (wants_some (d := 69) rfl rfl (by rw [h.size]; show 69 < 85; decide) e69) (Fg.run_move rfl e11)
  refine Fg.vS rfl (by decide) (fun ac w h => ?_) ?_
  ·have e69 : _ = Value.bool true := h.d 69
   have e79 : _ = Value.slice a1 n1 c1 := h.d 79
   have e80 : _ = Value.int .i64 ((i : Int) + (j : Int)) := h.d 80
   refine ⟨wants_some (d := 69) rfl rfl (by rw [h.size]; show 69 < 85; decide) e69, Value.slice sC (n1 - (i + j)) (c1 - (i + j)), w, ?_, gb_refl _ _, rfl⟩
   clear h
   have hrun := hC' w
   simp only [execOp, Act.eval, e79, e80, Option.map_some, Option.map_none]
   go_simp
  refine Fg.vS rfl (by decide) (fun ac w h => ?_) ?_
  ·have e69 : _ = Value.bool true := h.d 69
   have e74 : _ = Value.slice sA i c1 := h.d 74
   have e78 : _ = Value.slice sB j (c1 - i) := h.d 78
   have e81 : _ = Value.slice sC (n1 - (i + j)) (c1 - (i + j)) := h.d 81
   exact ⟨(wants_some (d := 69) rfl rfl (by rw [h.size]; show 69 < 85; decide) e69), .slice (some ⟨w.heap.size, 0, none⟩) 4 4, w.alloc (.cells #[.slice sA i c1, .slice none 0 0, .slice sB j (c1 - i), .slice sC (n1 - (i + j)) (c1 - (i + j))] 22), Fg.run_buildSlice (vs := #[(0, Value.slice sA i c1), (1, Value.slice none 0 0), (2, Value.slice sB j (c1 - i)), (3, Value.slice sC (n1 - (i + j)) (c1 - (i + j)))]) rfl (by simp only [List.map_toArray, List.map_cons, List.map_nil, Act.eval, e74, e78, e81]) (by kernel_rfl), World.grownBy_alloc _ _ _, ⟨w.heap.size, rfl, h.base.size, Blk.new w [.slice sA i c1, .slice none 0 0, .slice sB j (c1 - i), .slice sC (n1 - (i + j)) (c1 - (i + j))] _⟩⟩
  refine Fg.cS rfl (by decide) (fun ac w h => ?_) ?_
  ·have e69 : _ = Value.bool true := h.d 69
   have e70 : _ = Value.slice (some ⟨gp, 0, none⟩) 32 32 := h.d 70
   have e71 : _ = Value.slice (some ⟨gs, 0, none⟩) 64 cs := h.d 71
   obtain ⟨B82, e82, hn82, b82⟩ := h.d 82
   refine ⟨(wants_some (d := 69) rfl rfl (by rw [h.size]; show 69 < 85; decide) e69), 10, #[Value.slice (some ⟨gp, 0, none⟩) 32 32, Value.slice (some ⟨gs, 0, none⟩) 64 cs, .slice (some ⟨B82, 0, none⟩) 4 4], Fg.run_call rfl rfl (by simp only [List.map_toArray, List.map_cons, List.map_nil, Act.eval, e70, e71, e82]) (Fg.run_enter Tryz.func10 (by kernel_rfl) (by kernel_rfl)), ?_⟩
   exact (ver_yes x l1 gs gp cs 4 4 _ (some ⟨B82, 0, none⟩) [⟨sA, c1, l1.take i⟩, ⟨none, 0, []⟩, ⟨sB, c1 - i, (l1.drop i).take j⟩, ⟨sC, c1 - (i + j), l1.drop (i + j)⟩] _ _ (HH.out.1.kept (gb_trans G h.base) (fun b e => by cases e)) (HT.grown h.base) (HH.out.2.2.kept (gb_trans G h.base) (fun b e => by cases e)) (hbp.gn h.base) h64 hc63 (hbs.gn h.base) rfl (Lib.hid (partsN (ps := [⟨sA, c1, l1.take i⟩, ⟨none, 0, []⟩, ⟨sB, c1 - i, (l1.drop i).take j⟩, ⟨sC, c1 - (i + j), l1.drop (i + j)⟩]) b82 (by simp only [List.map_cons, List.map_nil, Part.v, eA, eB, eC, List.length_nil]) (by intro p hp; simp only [List.mem_cons, List.not_mem_nil, or_false] at hp; rcases hp with rfl | rfl | rfl | rfl; all_goals first | exact part_nil _ _ | exact ⟨part_of (qA.stay (gb_trans G h.base)), qA.top⟩ | exact ⟨part_of (qB.stay (gb_trans G h.base)), qB.top⟩ | exact ⟨part_of (qC.stay (gb_trans G h.base)), qC.top⟩))) (by decide) ((joined4 _ _ _ _ rfl).trans (cut3 l1 i j)) hl1000).mono fun _ _ ⟨he, hg⟩ => ⟨_, he, hg, rfl⟩
  refine Fg.vS rfl (by decide) (fun ac w h => ?_) ?_
  ·have e69 : _ = Value.bool true := h.d 69
   have e83 : _ = Value.bool true := h.d 83
   refine ⟨wants_none rfl, Value.bool true, w, ?_, gb_refl _ _, rfl⟩
   clear h
   simp only [execOp, Act.eval, e69, e83]
   go_simp
  refine Fg.vS rfl (by decide) (fun ac w h => ?_) ?_
  ·have e84 : _ = Value.bool true := h.d 84
   exact Fg.vn (Value.bool true) (Fg.run_assign rfl e84)
  trivial
 ·intro qa V1 g1 hsz hdf hrest hslots hpt
  obtain ⟨⟨u0, hs0⟩, ⟨u2, hs2⟩, ⟨u3, hs3⟩, ⟨u4, hs4⟩, ⟨u5, hs5⟩, ⟨u6, hs6⟩, ⟨u7, hs7⟩, ⟨u14, hs14⟩, ⟨u15, hs15⟩, ⟨u16, hs16⟩, ⟨u17, hs17⟩, ⟨u18, hs18⟩, ⟨u19, hs19⟩, ⟨u20, hs20⟩, ⟨u21, hs21⟩, ⟨u22, hs22⟩, ⟨u23, hs23⟩, ⟨u24, hs24⟩, ⟨u25, hs25⟩, ⟨u26, hs26⟩, ⟨u27, hs27⟩, ⟨u28, hs28⟩, ⟨u29, hs29⟩, ⟨u30, hs30⟩, ⟨u31, hs31⟩, ⟨u32, hs32⟩, ⟨u33, hs33⟩, ⟨u34, hs34⟩, ⟨u35, hs35⟩, ⟨u36, hs36⟩, ⟨u37, hs37⟩, ⟨u38, hs38⟩, ⟨u39, hs39⟩, ⟨u40, hs40⟩, ⟨u41, hs41⟩, ⟨u42, hs42⟩, ⟨u43, hs43⟩, ⟨u44, hs44⟩, ⟨u45, hs45⟩, ⟨u46, hs46⟩, ⟨u47, hs47⟩, ⟨u48, hs48⟩, ⟨u49, hs49⟩, ⟨u50, hs50⟩, ⟨u51, hs51⟩, ⟨u52, hs52⟩, ⟨u53, hs53⟩, ⟨u54, hs54⟩, ⟨u55, hs55⟩, ⟨u56, hs56⟩, ⟨u57, hs57⟩, ⟨u58, hs58⟩, ⟨u59, hs59⟩, ⟨u60, hs60⟩, ⟨u61, hs61⟩, ⟨u62, hs62⟩, ⟨u63, hs63⟩, ⟨u64, hs64⟩, ⟨u65, hs65⟩, ⟨u66, hs66⟩, ⟨u67, hs67⟩, ⟨u68, hs68⟩, ⟨u69, hs69⟩, ⟨u70, hs70⟩, ⟨u71, hs71⟩, ⟨u72, hs72⟩, ⟨u73, hs73⟩, ⟨u74, hs74⟩, ⟨u75, hs75⟩, ⟨u76, hs76⟩, ⟨u77, hs77⟩, ⟨u78, hs78⟩, ⟨u79, hs79⟩, ⟨u80, hs80⟩, ⟨u81, hs81⟩, ⟨u82, hs82⟩, ⟨u83, hs83⟩, ⟨u84, hs84⟩, _⟩ := Fg.slotvs qa [0, 2, 3, 4, 5, 6, 7, 14, 15, 16, 17, 18, 19, 20, 21, 22, 23, 24, 25, 26, 27, 28, 29, 30, 31, 32, 33, 34, 35, 36, 37, 38, 39, 40, 41, 42, 43, 44, 45, 46, 47, 48, 49, 50, 51, 52, 53, 54, 55, 56, 57, 58, 59, 60, 61, 62, 63, 64, 65, 66, 67, 68, 69, 70, 71, 72, 73, 74, 75, 76, 77, 78, 79, 80, 81, 82, 83, 84]
  obtain rfl := Fg.frame_by [0, 2, 3, 4, 5, 6, 7, 8, 14, 15, 16, 17, 18, 19, 20, 21, 22, 23, 24, 25, 26, 27, 28, 29, 30, 31, 32, 33, 34, 35, 36, 37, 38, 39, 40, 41, 42, 43, 44, 45, 46, 47, 48, 49, 50, 51, 52, 53, 54, 55, 56, 57, 58, 59, 60, 61, 62, 63, 64, 65, 66, 67, 68, 69, 70, 71, 72, 73, 74, 75, 76, 77, 78, 79, 80, 81, 82, 83, 84] (vs := [u0, Value.slice a1 n1 c1, u2, u3, u4, u5, u6, u7, Value.bool true, Value.slice (some ⟨gx, 0, none⟩) 32 32, Value.int .i64 (i : Int), Value.int .i64 ((i : Int) + (j : Int)), Value.slice (some ⟨gs, 0, none⟩) 64 cs, Value.slice (some ⟨gp, 0, none⟩) 32 32, u14, u15, u16, u17, u18, u19, u20, u21, u22, u23, u24, u25, u26, u27, u28, u29, u30, u31, u32, u33, u34, u35, u36, u37, u38, u39, u40, u41, u42, u43, u44, u45, u46, u47, u48, u49, u50, u51, u52, u53, u54, u55, u56, u57, u58, u59, u60, u61, u62, u63, u64, u65, u66, u67, u68, u69, u70, u71, u72, u73, u74, u75, u76, u77, u78, u79, u80, u81, u82, u83, u84]) hsz hrest (by kernel_rfl) rfl rfl ⟨hs0, hs2, hs3, hs4, hs5, hs6, hs7, (show qa.tmps.getD 8 undef = Value.bool true from hslots 8 (by kernel_rfl)), hs14, hs15, hs16, hs17, hs18, hs19, hs20, hs21, hs22, hs23, hs24, hs25, hs26, hs27, hs28, hs29, hs30, hs31, hs32, hs33, hs34, hs35, hs36, hs37, hs38, hs39, hs40, hs41, hs42, hs43, hs44, hs45, hs46, hs47, hs48, hs49, hs50, hs51, hs52, hs53, hs54, hs55, hs56, hs57, hs58, hs59, hs60, hs61, hs62, hs63, hs64, hs65, hs66, hs67, hs68, hs69, hs70, hs71, hs72, hs73, hs74, hs75, hs76, hs77, hs78, hs79, hs80, hs81, hs82, hs83, hs84, trivial⟩ hdf
  clear hsz hdf hrest hslots hpt hs0 hs2 hs3 hs4 hs5 hs6 hs7 hs14 hs15 hs16 hs17 hs18 hs19 hs20 hs21 hs22 hs23 hs24 hs25 hs26 hs27 hs28 hs29 hs30 hs31 hs32 hs33 hs34 hs35 hs36 hs37 hs38 hs39 hs40 hs41 hs42 hs43 hs44 hs45 hs46 hs47 hs48 hs49 hs50 hs51 hs52 hs53 hs54 hs55 hs56 hs57 hs58 hs59 hs60 hs61 hs62 hs63 hs64 hs65 hs66 hs67 hs68 hs69 hs70 hs71 hs72 hs73 hs74 hs75 hs76 hs77 hs78 hs79 hs80 hs81 hs82 hs83 hs84
  replace hbx := hbx.gn g1
  replace hbs := hbs.gn g1
  replace hbp := hbp.gn g1
  replace G := gb_trans G g1
  replace HT := HT.grown g1
  clear g1
  go_wp2_with fail
  go_ret
  exact ⟨rfl, G⟩
end
section
open Go.ChangeShapes Go.WideShapes Go.ChangeAt Go.RowKit Ow
theorem int_wf {n : Int} (h : (Lit.int .i64 n).wf = true) : -9223372036854775808 ≤ n ∧ n ≤ 9223372036854775807 := by
 simp [Lit.wf, IntKind.min, IntKind.max, IntKind.signed, IntKind.bits] at h
 omega
end
end Go.Proofs.YtleegbaigedebaaGreatDoor
