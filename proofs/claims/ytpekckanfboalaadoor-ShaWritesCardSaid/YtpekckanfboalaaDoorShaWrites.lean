/- The law ShaWrites's walk. -/
import Derived.Test.YtpekckanfboalaaDoorShaTogether
import Derived.Test.YtpekckanfboalaaDoorShaCopy
import Derived.Test.YtpekckanfboalaaDoorOver
import Derived.Test.YtpekckanfboalaaDoorKept
import Derived.Deep.Cut
import Derived.Deep.CutRange
import Derived.Deep.RegionWith
namespace Go.Proofs.YtpekckanfboalaaDoor
open Go.RowKit

theorem part_of {w : World} {B0 B cap : Nat} {a : Option Addr} {l : List Nat} (h : Ow.BytesAt w B0 a cap l) (hB : ∀ pb po, a = some ⟨pb, po, none⟩ → pb ≠ B) : PartAt w B a cap l := by
  refine ⟨h.fits, h.byte, ?_⟩
  rcases h.cells with h0 | ⟨pb, po, e, hlt, hc⟩
  · exact Or.inl h0
  · exact Or.inr ⟨pb, po, e, hB pb po e, Nat.lt_of_lt_of_le hlt h.lim, hc⟩
theorem part_below {w : World} {B0 B cap : Nat} {a : Option Addr} {l : List Nat} (h : Ow.BytesAt w B0 a cap l) (hB : B0 ≤ B) : PartAt w B a cap l := by
  refine ⟨h.fits, h.byte, ?_⟩
  rcases h.cells with h0 | ⟨pb, po, e, hlt, hc⟩
  · exact Or.inl h0
  · exact Or.inr ⟨pb, po, e, by omega, Nat.lt_of_lt_of_le hlt h.lim, hc⟩
theorem bytes_of {w : World} {B cap : Nat} {a : Option Addr} {l : List Nat} (h : PartAt w B a cap l) (hc : cap < 9223372036854775808) : Ow.BytesAt w w.heap.size a cap l := by
  refine ⟨Nat.le_refl _, h.cap, hc, h.byte, ?_⟩
  rcases h.cells with h0 | ⟨pb, po, e, _, hlt, hk⟩
  · exact Or.inl h0
  · exact Or.inr ⟨pb, po, e, hlt, hk⟩
theorem parts_take {w : World} {B cap k : Nat} {a a' : Option Addr} {ps : List Part} (h : PartsAt w B a cap ps) (ha : ∀ pb po, a = some ⟨pb, po, none⟩ → a' = some ⟨pb, po, none⟩) : PartsAt w B a' cap (ps.take k) := by
  refine ⟨by rw [List.length_take]; have := h.cap; omega, fun p hp => h.parts p (List.mem_of_mem_take hp), ?_⟩
  rcases h.cells with h0 | ⟨pb, po, e, hne, hlt, hc⟩
  · left; rw [List.length_take]; omega
  · refine Or.inr ⟨pb, po, ha pb po e, hne, hlt, fun i hi => ?_⟩
    rw [List.getElem_take]
    exact hc i (by rw [List.length_take] at hi; omega)
/-- truths in a row -/
structure TruthsAt (w : World) (a : Option Addr) (bs : List Bool) : Prop where
  cells : bs.length = 0 ∨ ∃ pb po, a = some ⟨pb, po, none⟩ ∧ pb < w.heap.size ∧ ∀ i, i < bs.length → w.cell? ⟨pb, po + i, none⟩ = some (.bool (bs.getD i false))
theorem more_part (w : World) (B : Nat) (hB : w.heap.size ≠ B) : PartAt (w.alloc (.cells #[.int .u8 109, .int .u8 111, .int .u8 114, .int .u8 101] 5 (4, 5))) B (some ⟨w.heap.size, 0, none⟩) 4 [109, 111, 114, 101] :=
  marked_part w [109, 111, 114, 101] 5 (4, 5) B hB (small_byte _ (by decide))
theorem more_write (H : Nat) (l : List Nat) (w : World) (hT : Tables w) (hB2 : 2 ≤ H) (hH : IsHash w H H l) (hlen : l.length + 4 < 2147483648) :
    Calls Tryd.prog 8 #[.pointer (some ⟨H, 0, none⟩), .slice (some ⟨w.heap.size + 1, 0, none⟩) 1 1] ((w.alloc (.cells #[.int .u8 109, .int .u8 111, .int .u8 114, .int .u8 101] 5 (4, 5))).alloc (.cells #[.slice (some ⟨w.heap.size, 0, none⟩) 4 4] 30)) fun e w' => e = .returned (.int .i64 0) ∧ w.grownBy w' (some H) := by
  have hg : ∀ row, w.grownBy (w.alloc (.cells #[.int .u8 109, .int .u8 111, .int .u8 114, .int .u8 101] 5 (4, 5))) row := fun row => gb_alloc (gb_refl _ _) _
  have hp := more_part w H (by have := hH.lt; omega)
  have h2 := hH.kept (hg none)
  have hT2 := hT.kept (hg none) (by simp)
  have hs : (w.alloc (.cells #[.int .u8 109, .int .u8 111, .int .u8 114, .int .u8 101] 5 (4, 5))).heap.size = w.heap.size + 1 := World.size_alloc ..
  have hg := hg (some H)
  generalize w.alloc (.cells #[.int .u8 109, .int .u8 111, .int .u8 114, .int .u8 101] 5 (4, 5)) = wa at *
  rw [← hs]
  refine (write_one H 4 4 l [109, 111, 114, 101] (some ⟨w.heap.size, 0, none⟩) wa rfl hT2 hB2 h2 hp (by omega) hlen).mono ?_
  rintro e w' ⟨rfl, hg2, _⟩
  exact ⟨rfl, gb_trans hg hg2⟩
theorem joined_byte (ps : List Part) (h : ∀ p ∈ ps, ∀ i, p.l.getD i 0 < 256) : ∀ i, (joined ps).getD i 0 < 256 := by
  refine small_byte _ fun x hx => ?_
  unfold joined at hx
  obtain ⟨p, hp, hxp⟩ := List.mem_flatMap.1 hx
  obtain ⟨j, hj, rfl⟩ := List.mem_iff_getElem.1 hxp
  have := h p hp j
  rwa [List.getD_eq_getElem?_getD, List.getElem?_eq_getElem hj] at this
/-- bytes that nobody else has -/
def OwnP (w : World) (v : Value) (n : Nat) (l : List Nat) : Prop := l.length = n ∧ ∃ a c, v = .slice a n c ∧ c < 9223372036854775808 ∧ PartAt w w.heap.size a c l
theorem OwnP.stay {w w' : World} {v : Value} {n : Nat} {l : List Nat} (h : OwnP w v n l) (hg : w.grownBy w' none) : OwnP w' v n l := by
  obtain ⟨h1, a, c, e, h2, h3⟩ := h
  exact ⟨h1, a, c, e, h2, h3.grown hg hg.size⟩
theorem sumW (H : Nat) (l : List Nat) (w0 : World) (hT : Tables w0) (hlen : l.length < 2147483000) (hH : IsHash w0 H H l) (W : World) (hW : w0.grownBy W none) :
    Calls Tryd.prog 13 #[.pointer (some ⟨H, 0, none⟩)] W fun e w' => ∃ v, e = .returned v ∧ w0.grownBy w' none ∧ W.grownBy w' none ∧ OwnP w' v 64 (Sha.sum l) := by
  refine (sum_hash H l W (hT.kept hW (by simp)) hlen (hH.kept hW)).mono ?_
  rintro e w' ⟨NB, rfl, hg, _, hb⟩
  exact ⟨_, rfl, gb_trans hW hg, hg, rfl, _, 64, rfl, by decide, hb.part (by have := hb.lt; omega) (sum_byte _)⟩
theorem togW (m cap : Nat) (a : Option Addr) (ps : List Part) (w0 : World) (hm : ps.length = m) (hP : PartsAt w0 w0.heap.size a cap ps) (h40 : m ≤ 40) (hlen : (joined ps).length ≤ 3000) (W : World) (hW : w0.grownBy W none) :
    Calls Tryd.prog 15 #[.slice a m cap] W fun e w' => ∃ v, e = .returned v ∧ w0.grownBy w' none ∧ W.grownBy w' none ∧ OwnP w' v (joined ps).length (joined ps) := by
  refine (together_any m cap W.heap.size ps a W hm (hP.grown hW hW.size) h40 hlen).mono ?_
  rintro e w' ⟨v, rfl, hg, ho⟩
  obtain ⟨a2, c, e2, hc, hp⟩ := own_part ho rfl (joined_byte ps fun p hp => (hP.parts p hp).1.byte)
  exact ⟨v, rfl, gb_trans hW hg, hg, rfl, a2, c, e2, hc, hp _ (Nat.le_refl _)⟩
theorem refW (w0 W : World) (v : Value) (n : Nat) (l : List Nat) (hlen : n < 2147483000) (hW : w0.grownBy W none) (hO : OwnP W v n l) :
    Calls Tryd.prog 14 #[v] W fun e w' => ∃ v', e = .returned v' ∧ w0.grownBy w' none ∧ W.grownBy w' none ∧ OwnP w' v' 64 (Sha.sum l) := by
  obtain ⟨h1, a, c, rfl, h2, h3⟩ := hO
  refine (refSum_any n c _ l a W h1 h3 hlen).mono ?_
  rintro e w' ⟨g, c', rfl, hg, ho⟩
  obtain ⟨a2, c2, e2, hc, hp⟩ := own_part ho rfl (sum_byte l)
  exact ⟨_, rfl, gb_trans hW hg, hg, rfl, a2, c2, e2, hc, hp _ (Nat.le_refl _)⟩
theorem sameW (w0 W : World) (v1 v2 : Value) (n : Nat) (l : List Nat) (hW : w0.grownBy W none) (h1 : OwnP W v1 n l) (h2 : OwnP W v2 n l) :
    Calls Tryd.prog 12 #[v1, v2] W fun e w' => e = .returned (.bool true) ∧ w0.grownBy w' none := by
  obtain ⟨h1, a, c, rfl, hc, hp⟩ := h1
  obtain ⟨h2, a2, c2, rfl, hc2, hp2⟩ := h2
  refine (same_yes _ _ n n c c2 a a2 l W h1 h2 hp hp2 hc).mono ?_
  rintro e w' ⟨rfl, k, rfl⟩
  exact ⟨rfl, gb_drewN hW k⟩
set_option maxRecDepth 100000 in
set_option maxHeartbeats 1500000 in
theorem shaWrites_any {f : Nat → Nat → Nat} (hf : Marks f) (m cap n2 c2 : Nat) (a a2 : Option Addr) (ps : List Part) (bs : List Bool) (w : World) (hT : Tables w) (hm : ps.length = m) (hP : PartsAt w w.heap.size a cap ps) (hb : bs.length = n2) (hB : TruthsAt w a2 bs) :
    Calls Tryd.prog 3 #[.slice a m cap, .slice a2 n2 c2] w fun e w' => e = .returned (.bool true) ∧ w.grownBy w' none := by
  have HT := Lib.hid hT
  have hw2 := hT.lt
  have HP := Lib.hid (And.intro hm hP); clear hm hP hT
  have HB := Lib.hid (And.intro hb hB); clear hb hB
  have HFM := Lib.hid hf; clear hf
  go_enter Tryd.func3, Tryd.ntmps3
  go_wp2_with fail
  refine (awake_any w HT.out).mono ?_
  rintro e w1 ⟨rfl, hg1⟩
  have G1 := Lib.hid hg1; clear hg1
  go_wp2_with fail
  refine (small_any m cap w1.heap.size ps a w1 HP.out.1 (HP.out.2.grown G1.out G1.out.size)).mono ?_
  rintro e w2 ⟨b, rfl, hs, q, rfl⟩
  cases b with
  | false =>
    go_wp2
    go_ret
    exact ⟨rfl, gb_drewN G1.out q⟩
  | true =>
    obtain ⟨h40, h3000⟩ := hs rfl
    have HS := Lib.hid h3000; clear hs h3000
    have g2 := gb_drewN G1.out q
    generalize w1.drewN q = w2 at *
    go_wp2_with fail
    refine (new_any w2 (HT.out.kept g2 (by simp))).mono ?_
    rintro e w3 ⟨rfl, hg3, hH3⟩
    have G3 := Lib.hid (And.intro (gb_trans g2 hg3) (And.intro hH3 g2.size)); clear hg3 hH3 g2 G1
    generalize w2.heap.size = H0 at *
    go_wp2_with fail
    go_loopw [5, 6] (fun v i wr => ∃ k H : Nat, k ≤ m ∧ i = .int .i64 k ∧ v = .pointer (some ⟨H, 0, none⟩) ∧ w.grownBy wr none ∧ IsHash wr H H (joined (ps.take k)) ∧ w.heap.size ≤ H) (fun _ i _ => m - (intOf i).toNat)
    case atStart => exact ⟨0, H0, by omega, rfl, rfl, G3.out.1, G3.out.2.1, G3.out.2.2⟩
    case round =>
      clear G3
      obtain ⟨k, H, hk, rfl, rfl, hg, hH, hHw⟩ := hrel
      by_cases hlt : k < m
      · have i0 : (k : Int) < (m : Int) := by omega
        obtain ⟨cp, hcp⟩ : ∃ cp : Bool, cp = (decide ((k : Int) < (n2 : Int)) && bs.getD k false) := ⟨_, rfl⟩
        have hkl : k < ps.length := by have := HP.out.1; omega
        have hP := HP.out.2.grown hg hHw
        have hP0 := HP.out.2
        obtain ⟨pb, po, rfl, _, hplt, hc⟩ := hP.cells.resolve_left (by omega)
        have hpb : pb < w.heap.size := by
          rcases hP0.cells with h0 | ⟨pb', po', e, _, hlt', _⟩
          · omega
          · cases e; exact hlt'
        have kc := hc k hkl
        have kcw : ∀ W, w.grownBy W none → W.cell? ⟨pb, po + k, none⟩ = some ps[k].v := fun W hW => by
          rcases hP0.cells with h0 | ⟨pb', po', e, _, _, hc0⟩
          · omega
          · cases e; rw [gb_cell hW (p := ⟨pb, po + k, none⟩) hpb (by simp)]; exact hc0 k hkl
        have hpk := hP.parts ps[k] (List.getElem_mem _)
        have hpk0 := hP0.parts ps[k] (List.getElem_mem _)
        have hjt := joined_take ps k hkl
        have hle := joined_le ps (k + 1)
        have hTr := HT.out.kept hg (by simp)
        rw [hjt, List.length_append] at hle
        unfold Part.v at kc kcw
        have HI := Lib.hid (And.intro hg (And.intro hH (And.intro hHw hP))); clear hg hH hHw hc hP hP0
        have HQ := Lib.hid (And.intro hpk (And.intro hpk0 hjt)); clear hpk hpk0 hjt
        go_upto_region 9 with fail
        go_cut [30] from 15 to 69 (fun s wx => s = .bool cp ∧ wr = wx)
        case first =>
          clear kc kcw
          by_cases h2 : k < n2
          · obtain ⟨qb, qo, rfl, hql, hq⟩ := HB.out.2.cells.resolve_left (by have := HB.out.1; omega)
            have kq : wr.cell? ⟨qb, qo + k, none⟩ = some (.bool (bs.getD k false)) := by rw [gb_cell HI.out.1 (p := ⟨qb, qo + k, none⟩) hql (by simp)]; exact hq k (by have := HB.out.1; omega)
            have i1 : (k : Int) < (n2 : Int) := by omega
            have e1 : cp = bs.getD k false := by rw [hcp, decide_eq_true i1, Bool.true_and]
            rw [← e1] at kq
            clear hq hcp e1
            go_wp2_with fail
            go_meet
            exact ⟨rfl, rfl⟩
          · have i1 : ¬ ((k : Int) < (n2 : Int)) := by omega
            have e1 : cp = false := by rw [hcp, decide_eq_false i1, Bool.false_and]
            subst e1
            clear hcp
            go_wp2_with fail
            go_meet
            exact ⟨rfl, rfl⟩
        case rest =>
          obtain ⟨rfl, rfl⟩ := hcut
          clear hcp
          go_upto_if 30 with fail
          go_cut [5, 7] from 15 to 69 (fun v5 v7 wx => ∃ H' : Nat, v5 = .pointer (some ⟨H', 0, none⟩) ∧ w.grownBy wx none ∧ IsHash wx H' H' (joined (ps.take k)) ∧ w.heap.size ≤ H')
          case first =>
            clear kc kcw
            cases cp with
            | false =>
              go_wp2_with fail
              go_meet
              exact ⟨H, rfl, HI.out.1, HI.out.2.1, HI.out.2.2.1⟩
            | true =>
              have hlj : (joined (ps.take k)).length + 4 < 2147483648 := by have := HS.out; omega
              clear hle
              go_wp2_with fail
              refine (copy_hash H _ _ HI.out.2.1).mono ?_
              rintro e w4 ⟨rfl, hg4, hH4⟩
              have H4 := Lib.hid (And.intro hg4 (And.intro hH4 hlj)); clear hg4 hH4 hlj
              have hcv := fun (w : World) (C : Array Value) (n c : Nat) => Lib.run_convert_bytes_const (P := Tryd.prog) w 30 5 C n c Tryd.underlying30 Tryd.underlying5
              go_wp2_with fail
              have hHlt := HI.out.2.1.lt
              refine (more_write H _ w4 (HT.out.kept (gb_trans HI.out.1 H4.out.1) (by simp)) (by have := HI.out.2.2.1; omega) (HI.out.2.1.kept H4.out.1) H4.out.2.2).mono ?_
              rintro e w5 ⟨rfl, hg5⟩
              have hend : w.grownBy w5 none ∧ IsHash w5 wr.heap.size wr.heap.size (joined (ps.take k)) ∧ w.heap.size ≤ wr.heap.size :=
                ⟨gb_then (gb_trans HI.out.1 H4.out.1) hg5 HI.out.2.2.1, H4.out.2.1.grown hg5 (by omega), HI.out.1.size⟩
              have H5 := Lib.hid hend; clear hend hg5 hHlt hcv
              go_wp2_with fail
              go_meet
              exact ⟨wr.heap.size, rfl, H5.out.1, H5.out.2.1, H5.out.2.2⟩
          case rest =>
            obtain ⟨H2, rfl, hg, hH2, hHw2⟩ := hcut
            have kc2 := kcw wc hg
            have hp2 := HQ.out.2.1
            have hjt := HQ.out.2.2
            have hlj : (joined (ps.take k)).length + ps[k].l.length ≤ 3000 := by have := HS.out; omega
            clear kc hle hTr HI HQ
            generalize hx : ps[k].l.length = x at *
            generalize ps[k].l = p at *
            generalize ps[k].a = pa at *
            generalize ps[k].cap = pc at *
            have hB0 : w.heap.size ≤ wc.heap.size := hg.size
            have hb2 := bytes_of (hp2.1.grown hg hB0) hp2.2
            have HR := Lib.hid (And.intro hp2 (And.intro hx hjt))
            have HC := Lib.hid (And.intro hg (And.intro hH2 (And.intro hHw2 (And.intro hb2 hH2.lt)))); clear hg hH2 hHw2 hb2 hB0 hp2 hjt hx
            have HKW := Lib.hid kcw; clear kcw
            go_wp2_with fail
            refine (lentB_any HFM.out x pc _ p pa wc HR.out.2.1 HC.out.2.2.2.1 (by omega)).mono ?_
            rintro e w6 ⟨g, rfl, hg6, hgw, hb6⟩
            have hmc : (p.map Ow.u8N ++ (marksOf f 1 12).map Ow.u8N) = (p ++ marksOf f 1 12).map Ow.u8N := (List.map_append ..).symm
            have part6 : PartAt w6 H2 (some ⟨g, 0, none⟩) (x + 12) p :=
              part_of (Ow.blk_bytes (n := x) (cap := x + 12) (B := w6.heap.size) (tl := (marksOf f 1 12).map Ow.u8N) (by rw [hmc]; exact hb6) HR.out.2.1 (by omega) (by omega) HR.out.1.1.byte hb6.lt (Nat.le_refl _)) (fun pb po e => by have := HC.out.2.2.2.2; cases e; omega)
            have H6 := Lib.hid (And.intro hg6 (And.intro hgw (And.intro hb6 part6))); clear hg6 hgw hb6 part6 hmc
            go_wp2_with fail
            have hg06 := gb_trans HC.out.1 H6.out.1
            refine (write_one H2 (x + 12) x (joined (ps.take k)) p (some ⟨g, 0, none⟩) w6 HR.out.2.1 (HT.out.kept hg06 (by simp)) (by have := HC.out.2.2.1; omega) (HC.out.2.1.kept H6.out.1) H6.out.2.2.2 (by omega) (by have := HR.out.2.1; omega)).mono ?_
            rintro e w7 ⟨rfl, hg7, hH7⟩
            rw [← HR.out.2.2] at hH7
            have hgn : g ≠ H2 := by have := HC.out.2.2.2.2; have := H6.out.2.1; omega
            have hg07 : w.grownBy w7 none := gb_then hg06 hg7 HC.out.2.2.1
            have kc7 := HKW.out w7 hg07
            have hb7 := bytes_of (HR.out.1.1.grown hg07 hg07.size) HR.out.1.2
            have hG7 := H6.out.2.2.1.grown hg7 (by simpa using hgn)
            have H7 := Lib.hid (And.intro hg07 (And.intro hH7 (And.intro hgn (And.intro hb7 hG7)))); clear hg06 hg07 hg7 hH7 hgn hb7 hG7 kc2
            go_wp2_with fail
            refine (keptB_any HFM.out x pc _ g p pa w7 HR.out.2.1 H7.out.2.2.2.1 (by omega) H7.out.2.2.2.2).mono ?_
            rintro e w8 ⟨rfl, hg8⟩
            have H8 := Lib.hid hg8; clear hg8
            go_wp2_with fail
            refine (overB_any x g _ w8 (by rw [List.length_map, List.length_append, marksOf_length, HR.out.2.1]) (by omega) (H7.out.2.2.2.2.grown H8.out (by simp))).mono ?_
            rintro e w9 ⟨rfl, hg9⟩
            have hg09 : w.grownBy w9 none := gb_then (gb_trans H7.out.1 H8.out) hg9 (Nat.le_trans HC.out.1.size H6.out.2.1)
            have hH9 : IsHash w9 H2 H2 (joined (ps.take (k + 1))) := (H7.out.2.1.kept H8.out).grown hg9 (fun e => H7.out.2.2.1 e.symm)
            have H9 := Lib.hid (And.intro hg09 hH9)
            have hHw2 := HC.out.2.2.1
            have hjle := joined_le ps (k + 1)
            have hmc : m ≤ cap := by have := HP.out.2.cap; have := HP.out.1; omega
            have hw1 : IntKind.i64.wrap ((k : Int) + 1) = (k : Int) + 1 := by rw [IntKind.wrap_i64]; omega
            have hc1 := Lib.hid (show 0 ≤ IntKind.i64.wrap ((k : Int) + 1) ∧ IntKind.i64.wrap ((k : Int) + 1) ≤ (cap : Int) by rw [hw1]; omega)
            have hS := Lib.hid (sumW H2 _ w9 (HT.out.kept hg09 (by simp)) (by have := HS.out; omega) hH9)
            have hTg := Lib.hid (togW (k + 1) cap (some ⟨pb, po, none⟩) (ps.take (k + 1)) w9 (by rw [List.length_take]; omega) (parts_take (HP.out.2.grown hg09 hg09.size) (fun _ _ e => e)) (by omega) (by have := HS.out; omega))
            have hRl : (joined (ps.take (k + 1))).length < 2147483000 := by have := HS.out; omega
            clear hg9 hg09 hH9 hjle hlj hw1 hmc HC H6 H7 H8
            go_upto_region 17 with fail
            go_cut [69] from 15 to 68 (fun s wx => s = .bool false ∧ w.grownBy wx none ∧ IsHash wx H2 H2 (joined (ps.take (k + 1))))
            case first =>
              go_region_with (first
                | (go_at_call 13; refine (hS.out _ (by first | assumption | exact gb_refl _ _ | exact gb_drew (gb_refl _ _))).mono ?_; rintro e wS ⟨vS, rfl, gS, _, oS⟩; have oS := Lib.hid oS)
                | (go_at_call 15; refine (hTg.out _ (by first | assumption | exact gb_refl _ _ | exact gb_drew (gb_refl _ _))).mono ?_; rintro e wT ⟨vT, rfl, gT, dT, oT⟩; have oT := Lib.hid oT; have oS2 := Lib.hid (oS.out.stay dT); clear dT)
                | (go_at_call 14; refine (refW w9 _ _ _ _ hRl (by assumption) oT.out).mono ?_; rintro e wR ⟨vR, rfl, gR, dR, oR⟩; have oR := Lib.hid oR; have oS3 := Lib.hid (oS2.out.stay dR); clear dR)
                | (go_at_call 12; refine (sameW w9 _ _ _ 64 _ (by assumption) oS3.out oR.out).mono ?_; rintro e wE ⟨rfl, gE⟩)
                | (rw [if_pos hc1.out]))
              all_goals (go_wp2_with fail)
              all_goals go_meet
              all_goals exact ⟨rfl, gb_trans H9.out.1 gE, H9.out.2.kept gE⟩
            case rest =>
              obtain ⟨rfl, hg, hH⟩ := hcut
              have HE := Lib.hid (And.intro hg hH); clear hg hH hc1 hS hTg H9 HKW
              go_wp2_with fail
              go_roundw
              case rel => exact ⟨k + 1, H2, by omega, by go_num, rfl, HE.out.1, HE.out.2, hHw2⟩
              case measure => simp [intOf]; omega
      · obtain rfl : k = m := by omega
        have hjl : ps.take k = ps := by rw [← HP.out.1]; exact List.take_length
        rw [hjl] at hH
        have hS := Lib.hid (sumW H _ wr (HT.out.kept hg (by simp)) (by have := HS.out; omega) hH)
        have hTg := Lib.hid (togW k cap a ps wr HP.out.1 (HP.out.2.grown hg hg.size) (by omega) HS.out)
        have HE := Lib.hid hg; clear hg hH hHw
        have hRl : (joined ps).length < 2147483000 := by have := HS.out; omega
        go_wp2_with (first
          | (go_at_call 13; refine (hS.out _ (gb_refl _ _)).mono ?_; rintro e wS ⟨vS, rfl, gS, _, oS⟩; have oS := Lib.hid oS)
          | (go_at_call 15; refine (hTg.out _ (by assumption)).mono ?_; rintro e wT ⟨vT, rfl, gT, dT, oT⟩; have oT := Lib.hid oT; have oS2 := Lib.hid (oS.out.stay dT); clear dT)
          | (go_at_call 14; refine (refW wr _ _ _ _ hRl (by assumption) oT.out).mono ?_; rintro e wR ⟨vR, rfl, gR, dR, oR⟩; have oR := Lib.hid oR; have oS3 := Lib.hid (oS2.out.stay dR); clear dR)
          | (go_at_call 12; refine (sameW wr _ _ _ 64 _ (by assumption) oS3.out oR.out).mono ?_; rintro e wE ⟨rfl, gE⟩))
        go_ret
        exact ⟨rfl, gb_trans HE.out gE⟩
end Go.Proofs.YtpekckanfboalaaDoor
