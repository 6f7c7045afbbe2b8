/- The law on what a reader of any bytes tells. -/
import Derived.Test.YtlkiancedgaicaaGreatWiHeedM
import Derived.Test.YtlkiancedgaicaaGreatWiNewX
import Derived.Test.YtlkiancedgaicaaGreatWiAsks
import Derived.Test.YtlkiancedgaicaaGreatWiAwake
import Derived.Test.YtlkiancedgaicaaGreatKept
import Derived.Test.YtlkiancedgaicaaGreatOver
import Derived.Test.YtlkiancedgaicaaGreatSame
import Derived.Test.YtlkiancedgaicaaGreatStep
import Derived.Test.YtlkiancedgaicaaGreatApartNil
import Derived.Deep.RegionLaw
namespace Go.Proofs.YtlkiancedgaicaaGreat
open Go.RowKit Ow Wi
set_option linter.unusedSimpArgs false
set_option maxRecDepth 100000 in
set_option maxHeartbeats 4000000 in
theorem wreads_any (n m cap mcap : Nat) (a aa : Option Addr) (l : List Nat) (asks : List (Int × Int)) (W : World) (hl : l.length = n) (hP : BytesAt W W.heap.size a cap l) (hm : asks.length = m) (hA : AsksAt W W.heap.size aa asks) :
    Calls Tryz.prog 4 #[.slice a n cap, .slice aa m mcap] W fun e w' => e = .returned (.bool true) ∧ W.grownBy w' none := by
  obtain ⟨mk, hmk⟩ := marks_are
  have HMK := Lib.hid hmk; clear hmk
  obtain ⟨Q, hQ⟩ : ∃ Q : Ending → World → Prop, Q = fun e w' => e = .returned (.bool true) ∧ W.grownBy w' none := ⟨_, rfl⟩
  rw [← hQ]
  have HQ : Hid (∀ w', W.grownBy w' none → Q (.returned (.bool true)) w') := fun w' hg => by rw [hQ]; exact ⟨rfl, hg⟩
  clear hQ
  have hn63 : n < 9223372036854775808 := by have h1 := hP.fits; have h2 := hP.top; omega
  have H : Hid (l.length = n ∧ BytesAt W W.heap.size a cap l ∧ asks.length = m ∧ AsksAt W W.heap.size aa asks) := ⟨hl, hP, hm, hA⟩
  clear hl hP hm hA
  have HW := Lib.hid (wawake_any W)
  go_enter Tryz.func4, Tryz.ntmps4
  by_cases hbn : 20000 < n
  · have i0 : (20000 : Int) < (n : Int) := by omega
    go_wp2_with fail
    refine HW.out.mono ?_
    rintro e w3 ⟨rfl, hg3⟩
    have HE := Lib.hid (HQ.out _ hg3)
    clear hg3
    go_wp2
    exact HE.out
  by_cases hbm : 200 < m
  · have i0 : ¬ (20000 : Int) < (n : Int) := by omega
    have i1 : (200 : Int) < (m : Int) := by omega
    go_wp2_with fail
    refine HW.out.mono ?_
    rintro e w3 ⟨rfl, hg3⟩
    have HE := Lib.hid (HQ.out _ hg3)
    clear hg3
    go_wp2
    exact HE.out
  have i0 : ¬ (20000 : Int) < (n : Int) := by omega
  have i1 : ¬ (200 : Int) < (m : Int) := by omega
  have hn2 : n ≤ 20000 := by omega
  have hm2 : m ≤ 200 := by omega
  have HL := Lib.hid (lentB_any HMK.out n cap W.heap.size l a W H.out.1 H.out.2.1 (by omega))
  clear hbn hbm HW hn63
  go_wp2_with fail
  refine HL.out.mono ?_
  rintro e w1 ⟨G, rfl, hg1, hG, hb1⟩
  have hml : (marksOf mk 1 12).length = 12 := by simp [marksOf]
  have HB1 : Hid (∀ w', w1.grownBy w' none → BytesAt w' w'.heap.size (some ⟨G, 0, none⟩) (n + 12) l) := fun w' hg =>
    blk_bytes (tl := (marksOf mk 1 12).map u8N) (by rw [← List.map_append]; exact hb1.grown hg (by simp)) H.out.1 (by omega) (by omega) H.out.2.1.byte (Nat.lt_of_lt_of_le hb1.lt hg.size) (Nat.le_refl _)
  have H1 := Lib.hid (And.intro hg1 (And.intro hG (And.intro hb1 hml)))
  have HN := Lib.hid (new_anyX n (n + 12) w1.heap.size (some ⟨G, 0, none⟩) l w1 H.out.1 (by omega) (HB1.out w1 (gb_refl _ _)))
  have HNR : Hid (∀ w', W.grownBy w' none → Calls Tryz.prog 24 #[.slice a n cap] w' fun e w'' => ∃ sb, e = .returned (.pointer (some ⟨sb, 0, none⟩)) ∧ w'.grownBy w'' none ∧ w'.heap.size ≤ sb ∧ RefS w'' sb (some l) ∧ ∀ (T : Nat) (w3 : World), T < w'.heap.size → w''.grownBy w3 (some T) → RefS w3 sb (some l)) := fun w' hg =>
    ref_newX n cap W.heap.size a l w' H.out.1 (by omega) (H.out.2.1.stay hg)
  have HK : Hid (∀ w', w1.grownBy w' none → Calls Tryz.prog 25 #[.slice (some ⟨G, 0, none⟩) n (n + 12), .slice a n cap] w' fun e w'' => e = .returned (.bool true) ∧ w'.grownBy w'' none) := fun w' hg =>
    keptB_any HMK.out n cap W.heap.size G l a w' H.out.1 (H.out.2.1.stay (gb_trans H1.out.1 hg)) (by omega) (H1.out.2.2.1.grown hg (by simp))
  have HO : Hid (∀ w', w1.grownBy w' none → Calls Tryz.prog 30 #[.slice (some ⟨G, 0, none⟩) n (n + 12)] w' fun e w'' => e = .returned (.tuple #[]) ∧ w'.grownBy w'' (some G)) := fun w' hg =>
    overB_any n G ((l ++ marksOf mk 1 12).map u8N) w' (by rw [List.length_map, List.length_append, H.out.1, H1.out.2.2.2]) (by omega) (H1.out.2.2.1.grown hg (by simp))
  obtain ⟨c0, hc0⟩ : ∃ c0, c0 = n + 12 := ⟨_, rfl⟩
  rw [← hc0] at HN HK HO ⊢
  clear hg1 hG hb1 hml hc0 HL HB1
  go_wp2_with fail
  refine HN.out.mono ?_
  rintro e w2 ⟨rb, rfl, hg2, hrb, hr2, hx2⟩
  have H2 := Lib.hid (And.intro hg2 (And.intro hrb (And.intro hr2 hx2)))
  clear hg2 hrb hr2 hx2 HN
  have HN2 := Lib.hid (HNR.out w2 (gb_trans H1.out.1 H2.out.1))
  go_wp2_with fail
  refine HN2.out.mono ?_
  rintro e w3 ⟨sb, rfl, hg3, hsb, hs3, hx3⟩
  have H3 := Lib.hid (And.intro hg3 (And.intro hsb (And.intro hs3 hx3)))
  clear hg3 hsb hs3 hx3 HN2 HNR
  go_wp2_with fail
  refine (HK.out w3 (gb_trans H2.out.1 H3.out.1)).mono ?_
  rintro e w4 ⟨rfl, hg4⟩
  have H4 := Lib.hid hg4; clear hg4
  go_wp2_with fail
  refine (wgood_any rb (some l) w4 (H2.out.2.2.1.stay (gb_trans H3.out.1 H4.out))).mono ?_
  rintro e w' ⟨rfl, hw'⟩
  subst w'
  go_wp2_with fail
  refine (ref_good sb (some l) w4 (H3.out.2.2.1.stay H4.out)).mono ?_
  rintro e w' ⟨rfl, hw'⟩
  subst w'
  go_wp2_with fail
  refine (done_any rb (some l) w4 (H2.out.2.2.1.stay (gb_trans H3.out.1 H4.out))).mono ?_
  rintro e w' ⟨rfl, hw'⟩
  subst w'
  have HD := Lib.hid (ref_done sb (some l) w4 (H3.out.2.2.1.stay H4.out))
  go_wp2_with fail
  refine HD.out.mono ?_
  rintro e w5 ⟨rfl, hg5⟩
  have H5 := Lib.hid hg5; clear hg5 HD
  go_wp2_with fail
  refine (HO.out w5 (gb_trans H2.out.1 (gb_trans H3.out.1 (gb_trans H4.out H5.out)))).mono ?_
  rintro e w6 ⟨rfl, hg6⟩
  have HS : Hid (W.grownBy w6 none ∧ RdS w6 rb (some l) ∧ RefS w6 sb (some l) ∧ W.heap.size ≤ rb ∧ rb < sb ∧ sb < w6.heap.size) := by
    have h25 := gb_trans H3.out.1 (gb_trans H4.out H5.out)
    have h35 := gb_trans H4.out H5.out
    have hGw := H1.out.2.2.1.lt
    have hlt := (H3.out.2.2.1).lt
    refine ⟨gb_then (gb_trans H1.out.1 (gb_trans H2.out.1 h25)) hg6 H1.out.2.1, H2.out.2.2.2 G w6 hGw (gb_trans (gb_row h25 _) hg6), H3.out.2.2.2 G w6 (Nat.lt_of_lt_of_le hGw H2.out.1.size) (gb_trans (gb_row h35 _) hg6), Nat.le_trans H1.out.1.size H2.out.2.1, ?_, ?_⟩
    · have := (H2.out.2.2.1).lt; have := H3.out.2.1; omega
    · have := h35.size; have := hg6.size; omega
  clear hg6 H1 H2 H3 H4 H5 HK HO
  have hb6 : sb < w6.heap.size := HS.out.2.2.2.2.2
  go_wp2_with fail
  generalize decide (l = []) = dl
  go_loopw [8, 9, 10, 11] (fun v i x y wr => ∃ (q : Nat), q ≤ m ∧ i = .int .i64 q ∧ Hid (W.grownBy wr none ∧ w6.heap.size ≤ wr.heap.size ∧ ∃ (st : St) (Ls : List Rw1), RdS wr rb st ∧ RefS wr sb st ∧ Ls.length = q ∧ OutAt wr w6.heap.size v Ls ∧ (q = 0 → v = .slice none 0 0)) ∧ Hid (P2 x y wr)) (fun _ i _ _ _ => m - (intOf i).toNat)
  case atStart => exact ⟨0, by omega, rfl, ⟨HS.out.1, Nat.le_refl _, some l, [], HS.out.2.1, HS.out.2.2.1, rfl, OutAt.nil _ _, fun _ => rfl⟩, ⟨fun C e => (by cases e), fun C e => (by cases e)⟩⟩
  case round =>
    obtain ⟨q, hq, rfl, HI, HP2⟩ := hrel
    by_cases hlt : q < m
    · obtain ⟨hgW, hsz6, st, Ls, hr, hs, hls, ho, _⟩ := HI.out
      obtain ⟨pb, po, rfl, hpb, hc1, hc2⟩ := H.out.2.2.2.at (i := q) (by rw [H.out.2.2.1]; exact hlt)
      have hwf := H.out.2.2.2.wf (asks.getD q (0, 0)) (by rw [List.getD_eq_getElem?_getD, List.getElem?_eq_getElem (by rw [H.out.2.2.1]; exact hlt)]; exact List.getElem_mem _)
      generalize (asks.getD q (0, 0)).1 = what at *
      generalize (asks.getD q (0, 0)).2 = most at *
      obtain ⟨k, hk⟩ : ∃ k : Nat, what % 4 = k := ⟨(what % 4).toNat, by omega⟩
      have HA : Hid (∀ w', RdS w' rb st → Calls Tryz.prog 31 #[.pointer (some ⟨rb, 0, none⟩), .agg #[.int .i64 what, .int .i64 most]] w' fun e w'' => ∃ v, e = .returned (toldV (askS k most st).1.1 v (askS k most st).2) ∧ w'.grownBy w'' (some rb) ∧ RdS w'' rb (askS k most st).2 ∧ w''.ownsRow w'.heap.size 5 1 v (askS k most st).1.2.length ((askS k most st).1.2.map u8N)) := fun w' h =>
        asked_any rb what most st k w' h (fun l e => by have := hs.small l e; omega) hwf.1.1 hwf.1.2 hk
      have HB : Hid (∀ w', RefS w' sb st → Calls Tryz.prog 32 #[.pointer (some ⟨sb, 0, none⟩), .agg #[.int .i64 what, .int .i64 most]] w' fun e w'' => ∃ v, e = .returned (toldV (askS k most st).1.1 v (askS k most st).2) ∧ w'.grownBy w'' (some sb) ∧ RefS w'' sb (askS k most st).2 ∧ w''.ownsRow w'.heap.size 5 1 v (askS k most st).1.2.length ((askS k most st).1.2.map u8N)) := fun w' h =>
        wanted_any sb what most st k w' h (fun l e => hr.byte l e) hwf.1.1 hwf.1.2 hk
      have HBS : Hid ((askS k most st).1.2.length ≤ 100000 ∧ ∀ i, (askS k most st).1.2.getD i 0 < 256) := ⟨askS_small k st (fun l e => hs.small l e) most, askS_byte k hr most⟩
      generalize (askS k most st).1.1 = nn at *
      generalize (askS k most st).1.2 = bs at *
      generalize (askS k most st).2 = s2 at *
      have HC : Hid (W.cell? ⟨pb, po + q * 2, none⟩ = some (.int .i64 what) ∧ W.cell? ⟨pb, po + q * 2 + 1, none⟩ = some (.int .i64 most)) := ⟨hc1, hc2⟩
      have HL : Hid (Lie ⟨rb, sb, wr.heap.size, some ⟨pb, po, none⟩, m, mcap, q, pb, po, what, most, nn, bs, s2⟩ W w6.heap.size u8 Ls) := ⟨HS.out.2.2.2.1, HS.out.2.2.2.2.1, hb6, hsz6, ho.below.1, ho.below.2⟩
      have HX := Lib.hid (And.intro hgW (And.intro hr (And.intro hs (And.intro hls ho))))
      have i2 : (q : Int) < (m : Int) := by omega
      clear hgW hr hs hls ho hc1 hc2 hwf hk HI hsz6 hpb
      go_wp2_with fail
      refine wp_region_flowP (GD ⟨rb, sb, wr.heap.size, some ⟨pb, po, none⟩, m, mcap, q, pb, po, what, most, nn, bs, s2⟩) (fun j => if j = 14 then 10 else 11) (MD ⟨rb, sb, wr.heap.size, some ⟨pb, po, none⟩, m, mcap, q, pb, po, what, most, nn, bs, s2⟩) (BD ⟨rb, sb, wr.heap.size, some ⟨pb, po, none⟩, m, mcap, q, pb, po, what, most, nn, bs, s2⟩ st W w6.heap.size u8 Ls) [10, 11] (by kernel_rfl) (by kernel_rfl) (by kernel_rfl) ?_ ?_ (by kernel_rfl) ?_ ?_
      · intro ls hls h0
        have gd : wr.grownBy wr.drew none := gb_drew (gb_refl _ _)
        refine ⟨gb_trans HX.out.1 gd, Nat.le_refl _, HX.out.2.2.2.2.stay gd, ?_, ?_⟩
        · rw [if_neg (by rw [h0]; decide)]; exact HX.out.2.1.stay gd
        · rw [if_neg (by rw [h0]; decide)]; exact HX.out.2.2.1.stay gd
      · exact P2.ptrs (HP2.out.up (Nat.le_refl _)) rfl rfl
      · refine ⟨hVal rfl (by decide) (by decide) rfl fun ls ac w h => ?_, ?_⟩
        · have e : ac.tmps.getD 6 undef = .pointer (some ⟨rb, 0, none⟩) := h.rest 6 (by kernel_rfl)
          exact ⟨_, Fg.run_move rfl e, rfl⟩
        refine ⟨hVal rfl (by decide) (by decide) rfl fun ls ac w h => ?_, ?_⟩
        · have e : ac.tmps.getD 1 undef = .slice (some ⟨pb, po, none⟩) m mcap := h.rest 1 (by kernel_rfl)
          exact ⟨_, Fg.run_move rfl e, rfl⟩
        refine ⟨hVal rfl (by decide) (by decide) rfl fun ls ac w h => ?_, ?_⟩
        · have e : ac.tmps.getD 9 undef = .int .i64 (q : Int) := h.rest 9 (by kernel_rfl)
          exact ⟨_, Fg.run_move rfl e, rfl⟩
        refine ⟨hVal rfl (by decide) (by decide) rfl fun ls ac w h => ?_, ?_⟩
        · have e1 : ac.tmps.getD 54 undef = .slice (some ⟨pb, po, none⟩) m mcap := (h.dep 54 (by kernel_rfl)).1
          have e2 : ac.tmps.getD 55 undef = .int .i64 (q : Int) := (h.dep 55 (by kernel_rfl)).1
          refine ⟨.pointer (some ⟨pb, po + q * 2, none⟩), ?_, rfl⟩
          clear h
          simp only [execOp, Act.eval, e1, e2]
          go_simp
        refine ⟨hVal rfl (by decide) (by decide) rfl fun ls ac w h => ?_, ?_⟩
        · have e1 : ac.tmps.getD 56 undef = .pointer (some ⟨pb, po + q * 2, none⟩) := (h.dep 56 (by kernel_rfl)).1
          have y0 : w.cell? ⟨pb, po + q * 2, none⟩ = some (.int .i64 what) := by rw [gb_cell h.base.1 (block_lt_of_cell HC.out.1) (by simp)]; exact HC.out.1
          have y1 : w.cell? ⟨pb, po + q * 2 + 1, none⟩ = some (.int .i64 most) := by rw [gb_cell h.base.1 (block_lt_of_cell HC.out.2) (by simp)]; exact HC.out.2
          refine ⟨.agg #[.int .i64 what, .int .i64 most], Fg.run_load (cs := [.int .i64 what, .int .i64 most]) rfl e1 (fun j v hv => ?_) Tryz.underlying43 rfl (by kernel_rfl), rfl⟩
          rcases j with _ | _ | j
          · cases hv; exact y0
          · cases hv; exact y1
          · simp at hv
        refine ⟨hCall5 HL.out (by decide) rfl rfl 31 #[.pointer (some ⟨rb, 0, none⟩), .agg #[.int .i64 what, .int .i64 most]] HA.out fun ls ac w h => ?_, ?_⟩
        · have e1 : ac.tmps.getD 53 undef = .pointer (some ⟨rb, 0, none⟩) := (h.dep 53 (by kernel_rfl)).1
          have e2 : ac.tmps.getD 57 undef = .agg #[.int .i64 what, .int .i64 most] := (h.dep 57 (by kernel_rfl)).1
          exact Fg.run_call rfl rfl (by simp only [List.map_toArray, List.map_cons, List.map_nil, Act.eval, e1, e2]) (Fg.run_enter Tryz.func31 (by kernel_rfl) (by kernel_rfl))
        refine ⟨hVal rfl (by decide) (by decide) rfl fun ls ac w h => ?_, ?_⟩
        · have e : ac.tmps.getD 7 undef = .pointer (some ⟨sb, 0, none⟩) := h.rest 7 (by kernel_rfl)
          exact ⟨_, Fg.run_move rfl e, rfl⟩
        refine ⟨hVal rfl (by decide) (by decide) rfl fun ls ac w h => ?_, ?_⟩
        · have e : ac.tmps.getD 1 undef = .slice (some ⟨pb, po, none⟩) m mcap := h.rest 1 (by kernel_rfl)
          exact ⟨_, Fg.run_move rfl e, rfl⟩
        refine ⟨hVal rfl (by decide) (by decide) rfl fun ls ac w h => ?_, ?_⟩
        · have e : ac.tmps.getD 9 undef = .int .i64 (q : Int) := h.rest 9 (by kernel_rfl)
          exact ⟨_, Fg.run_move rfl e, rfl⟩
        refine ⟨hVal rfl (by decide) (by decide) rfl fun ls ac w h => ?_, ?_⟩
        · have e1 : ac.tmps.getD 60 undef = .slice (some ⟨pb, po, none⟩) m mcap := (h.dep 60 (by kernel_rfl)).1
          have e2 : ac.tmps.getD 61 undef = .int .i64 (q : Int) := (h.dep 61 (by kernel_rfl)).1
          refine ⟨.pointer (some ⟨pb, po + q * 2, none⟩), ?_, rfl⟩
          clear h
          simp only [execOp, Act.eval, e1, e2]
          go_simp
        refine ⟨hVal rfl (by decide) (by decide) rfl fun ls ac w h => ?_, ?_⟩
        · have e1 : ac.tmps.getD 62 undef = .pointer (some ⟨pb, po + q * 2, none⟩) := (h.dep 62 (by kernel_rfl)).1
          have y0 : w.cell? ⟨pb, po + q * 2, none⟩ = some (.int .i64 what) := by rw [gb_cell h.base.1 (block_lt_of_cell HC.out.1) (by simp)]; exact HC.out.1
          have y1 : w.cell? ⟨pb, po + q * 2 + 1, none⟩ = some (.int .i64 most) := by rw [gb_cell h.base.1 (block_lt_of_cell HC.out.2) (by simp)]; exact HC.out.2
          refine ⟨.agg #[.int .i64 what, .int .i64 most], Fg.run_load (cs := [.int .i64 what, .int .i64 most]) rfl e1 (fun j v hv => ?_) Tryz.underlying43 rfl (by kernel_rfl), rfl⟩
          rcases j with _ | _ | j
          · cases hv; exact y0
          · cases hv; exact y1
          · simp at hv
        refine ⟨hCall11 HL.out (by decide) rfl rfl 32 #[.pointer (some ⟨sb, 0, none⟩), .agg #[.int .i64 what, .int .i64 most]] HB.out fun ls ac w h => ?_, ?_⟩
        · have e1 : ac.tmps.getD 59 undef = .pointer (some ⟨sb, 0, none⟩) := (h.dep 59 (by kernel_rfl)).1
          have e2 : ac.tmps.getD 63 undef = .agg #[.int .i64 what, .int .i64 most] := (h.dep 63 (by kernel_rfl)).1
          exact Fg.run_call rfl rfl (by simp only [List.map_toArray, List.map_cons, List.map_nil, Act.eval, e1, e2]) (Fg.run_enter Tryz.func32 (by kernel_rfl) (by kernel_rfl))
        refine ⟨hBox rfl (by decide) (Or.inl rfl) (by show 10 < 102; decide) rfl fun ls ac w h => ?_, ?_⟩
        · clear h
          go_simp
        refine ⟨hBox rfl (by decide) (Or.inr rfl) (by show 11 < 102; decide) rfl fun ls ac w h => ?_, ?_⟩
        · clear h
          go_simp
        refine ⟨hFill (Or.inl ⟨rfl, rfl, rfl⟩) ⟨rfl, rfl⟩ rfl rfl HL.out rfl (by kernel_rfl) (by kernel_rfl) (by kernel_rfl), ?_⟩
        refine ⟨hFill (Or.inr ⟨rfl, rfl, rfl⟩) ⟨rfl, rfl⟩ rfl rfl HL.out rfl (by kernel_rfl) (by kernel_rfl) (by kernel_rfl), ?_⟩
        trivial
      · intro ls aq wq hall hB hsz hdf hrest hslots hmems hpt
        have hp2 := P2.of hpt
        obtain ⟨X, vx, e10, hX0, hbX, hoX⟩ := hmems 14 _ rfl rfl (Or.inl rfl)
        obtain ⟨Y, vy, e11, hY0, hbY, hoY⟩ := hmems 15 _ rfl rfl (Or.inr rfl)
        have e10 : aq.tmps.getD 10 undef = Value.pointer (some ⟨X, 0, none⟩) := e10
        have e11 : aq.tmps.getD 11 undef = Value.pointer (some ⟨Y, 0, none⟩) := e11
        rw [e10, e11] at hp2
        obtain ⟨u53, e53⟩ : ∃ u, aq.tmps.getD 53 undef = u := ⟨_, rfl⟩
        obtain ⟨u54, e54⟩ : ∃ u, aq.tmps.getD 54 undef = u := ⟨_, rfl⟩
        obtain ⟨u55, e55⟩ : ∃ u, aq.tmps.getD 55 undef = u := ⟨_, rfl⟩
        obtain ⟨u56, e56⟩ : ∃ u, aq.tmps.getD 56 undef = u := ⟨_, rfl⟩
        obtain ⟨u57, e57⟩ : ∃ u, aq.tmps.getD 57 undef = u := ⟨_, rfl⟩
        obtain ⟨u58, e58⟩ : ∃ u, aq.tmps.getD 58 undef = u := ⟨_, rfl⟩
        obtain ⟨u59, e59⟩ : ∃ u, aq.tmps.getD 59 undef = u := ⟨_, rfl⟩
        obtain ⟨u60, e60⟩ : ∃ u, aq.tmps.getD 60 undef = u := ⟨_, rfl⟩
        obtain ⟨u61, e61⟩ : ∃ u, aq.tmps.getD 61 undef = u := ⟨_, rfl⟩
        obtain ⟨u62, e62⟩ : ∃ u, aq.tmps.getD 62 undef = u := ⟨_, rfl⟩
        obtain ⟨u63, e63⟩ : ∃ u, aq.tmps.getD 63 undef = u := ⟨_, rfl⟩
        obtain ⟨u64, e64⟩ : ∃ u, aq.tmps.getD 64 undef = u := ⟨_, rfl⟩
        obtain rfl := Fg.frame_is (a := aq) (vs := [Value.slice a n cap, Value.slice (some ⟨pb, po, none⟩) m mcap, undef, undef, u4, Value.slice (some ⟨G, 0, none⟩) n c0, Value.pointer (some ⟨rb, 0, none⟩), Value.pointer (some ⟨sb, 0, none⟩), u8, Value.int .i64 (q : Int), Value.pointer (some ⟨X, 0, none⟩), Value.pointer (some ⟨Y, 0, none⟩), Value.slice a n cap, Value.int .i64 (n : Int), Value.bool false, Value.bool false, Value.slice (some ⟨pb, po, none⟩) m mcap, Value.int .i64 (m : Int), Value.bool false, Value.bool false, undef, Value.slice a n cap, Value.slice (some ⟨G, 0, none⟩) n c0, Value.slice (some ⟨G, 0, none⟩) n c0, Value.pointer (some ⟨rb, 0, none⟩), Value.slice a n cap, Value.pointer (some ⟨sb, 0, none⟩), Value.slice (some ⟨G, 0, none⟩) n c0, Value.slice a n cap, Value.bool true, Value.bool false, Value.bool false, Value.pointer (some ⟨rb, 0, none⟩), Value.bool true, Value.pointer (some ⟨sb, 0, none⟩), Value.bool true, Value.bool false, Value.bool false, Value.bool false, Value.pointer (some ⟨rb, 0, none⟩), Value.bool dl, Value.pointer (some ⟨sb, 0, none⟩), Value.bool dl, Value.bool false, Value.bool false, Value.slice (some ⟨G, 0, none⟩) n c0, Value.tuple #[], Value.int .i64 (q : Int), Value.slice (some ⟨pb, po, none⟩) m mcap, Value.int .i64 (m : Int), Value.bool true, u51, u52, u53, u54, u55, u56, u57, u58, u59, u60, u61, u62, u63, u64, u65, u66, u67, u68, u69, u70, u71, u72, u73, u74, u75, u76, u77, u78, u79, u80, u81, u82, u83, u84, u85, u86, u87, u88, u89, u90, u91, u92, u93, u94, u95, u96, undef, undef, undef, undef, undef]) hsz ⟨hrest 0 (by kernel_rfl), hrest 1 (by kernel_rfl), hrest 2 (by kernel_rfl), hrest 3 (by kernel_rfl), hrest 4 (by kernel_rfl), hrest 5 (by kernel_rfl), hrest 6 (by kernel_rfl), hrest 7 (by kernel_rfl), hrest 8 (by kernel_rfl), hrest 9 (by kernel_rfl), e10, e11, hrest 12 (by kernel_rfl), hrest 13 (by kernel_rfl), hrest 14 (by kernel_rfl), hrest 15 (by kernel_rfl), hrest 16 (by kernel_rfl), hrest 17 (by kernel_rfl), hrest 18 (by kernel_rfl), hrest 19 (by kernel_rfl), hrest 20 (by kernel_rfl), hrest 21 (by kernel_rfl), hrest 22 (by kernel_rfl), hrest 23 (by kernel_rfl), hrest 24 (by kernel_rfl), hrest 25 (by kernel_rfl), hrest 26 (by kernel_rfl), hrest 27 (by kernel_rfl), hrest 28 (by kernel_rfl), hrest 29 (by kernel_rfl), hrest 30 (by kernel_rfl), hrest 31 (by kernel_rfl), hrest 32 (by kernel_rfl), hrest 33 (by kernel_rfl), hrest 34 (by kernel_rfl), hrest 35 (by kernel_rfl), hrest 36 (by kernel_rfl), hrest 37 (by kernel_rfl), hrest 38 (by kernel_rfl), hrest 39 (by kernel_rfl), hrest 40 (by kernel_rfl), hrest 41 (by kernel_rfl), hrest 42 (by kernel_rfl), hrest 43 (by kernel_rfl), hrest 44 (by kernel_rfl), hrest 45 (by kernel_rfl), hrest 46 (by kernel_rfl), hrest 47 (by kernel_rfl), hrest 48 (by kernel_rfl), hrest 49 (by kernel_rfl), hrest 50 (by kernel_rfl), hrest 51 (by kernel_rfl), hrest 52 (by kernel_rfl), e53, e54, e55, e56, e57, e58, e59, e60, e61, e62, e63, e64, hrest 65 (by kernel_rfl), hrest 66 (by kernel_rfl), hrest 67 (by kernel_rfl), hrest 68 (by kernel_rfl), hrest 69 (by kernel_rfl), hrest 70 (by kernel_rfl), hrest 71 (by kernel_rfl), hrest 72 (by kernel_rfl), hrest 73 (by kernel_rfl), hrest 74 (by kernel_rfl), hrest 75 (by kernel_rfl), hrest 76 (by kernel_rfl), hrest 77 (by kernel_rfl), hrest 78 (by kernel_rfl), hrest 79 (by kernel_rfl), hrest 80 (by kernel_rfl), hrest 81 (by kernel_rfl), hrest 82 (by kernel_rfl), hrest 83 (by kernel_rfl), hrest 84 (by kernel_rfl), hrest 85 (by kernel_rfl), hrest 86 (by kernel_rfl), hrest 87 (by kernel_rfl), hrest 88 (by kernel_rfl), hrest 89 (by kernel_rfl), hrest 90 (by kernel_rfl), hrest 91 (by kernel_rfl), hrest 92 (by kernel_rfl), hrest 93 (by kernel_rfl), hrest 94 (by kernel_rfl), hrest 95 (by kernel_rfl), hrest 96 (by kernel_rfl), hrest 97 (by kernel_rfl), hrest 98 (by kernel_rfl), hrest 99 (by kernel_rfl), hrest 100 (by kernel_rfl), hrest 101 (by kernel_rfl), trivial⟩ hdf
        have h5 := hall 5 (by decide)
        have h11 := hall 11 (by decide)
        obtain ⟨hgq, hNq, hoq, hrq, hsq⟩ := hB
        rw [if_pos h5] at hrq
        rw [if_pos h11] at hsq
        clear hall hsz hdf hrest hslots hmems hpt h5 h11 e10 e11 e53 e54 e55 e56 e57 e58 e59 e60 e61 e62 e63 e64
        obtain ⟨ax, cx, rfl⟩ := own_shape3 hoX
        obtain ⟨ay, cy, rfl⟩ := own_shape3 hoY
        obtain ⟨_, _, e1, _, hbx, _⟩ := own_slice hoX HBS.out.2
        simp only [Value.slice.injEq, true_and] at e1
        obtain ⟨rfl, rfl⟩ := e1
        obtain ⟨_, _, e1, _, hby, _⟩ := own_slice hoY HBS.out.2
        simp only [Value.slice.injEq, true_and] at e1
        obtain ⟨rfl, rfl⟩ := e1
        have HSB := Lib.hid (sameBytes_any wq.heap.size wq.heap.size bs.length bs.length cx cy ax ay bs bs wq rfl rfl hbx hby)
        rw [show decide (bs = bs) = true from decide_eq_true rfl] at HSB
        have HQ2 := Lib.hid (And.intro hgq (And.intro hNq (And.intro hoq (And.intro hrq (And.intro hsq (And.intro hoX hp2))))))
        have HBX : Hid (∃ L, Blk wq X 40 L ∧ L[1]? = some (.slice ax bs.length cx)) := ⟨_, hbX, rfl⟩
        have hbs := HBS.out.1
        clear hgq hNq hoq hrq hsq hoX hoY hp2 hbx hby hX0 hY0
        generalize decide (s2 = some []) = dn at hbX hbY
        generalize s2.isSome = gd at hbX hbY
        have x0 := hbX.cell (i := 0) rfl
        have x1 := hbX.cell (i := 1) rfl
        have x2 := hbX.cell (i := 2) rfl
        have x3 := hbX.cell (i := 3) rfl
        have y0 := hbY.cell (i := 0) rfl
        have y1 := hbY.cell (i := 1) rfl
        have y2 := hbY.cell (i := 2) rfl
        have y3 := hbY.cell (i := 3) rfl
        clear hbX hbY
        go_wp2_with fail
        refine HSB.out.mono ?_
        rintro e w7 ⟨rfl, hg7⟩
        obtain ⟨LX, hLX, hX1⟩ := HBX.out
        have z1 := (hLX.grown hg7 (by simp)).cell hX1
        obtain ⟨v9, w9, hap, ho9, hg9⟩ := one_push (N0 := wr.heap.size) w7 (ax, bs.length, cx, bs.map u8N) (HQ2.out.2.2.1.stay hg7) HL.out.bN (Nat.le_trans HQ2.out.2.1 hg7.size) HL.out.lowV HL.out.lowL (own_kept HQ2.out.2.2.2.2.2.1 hg7) hbs (by rw [HX.out.2.2.2.1]; omega)
        have HAP := Lib.hid hap
        have HZ : Hid ((W.grownBy w9 none ∧ w6.heap.size ≤ w9.heap.size ∧ ∃ (st : St) (Ls : List Rw1), RdS w9 rb st ∧ RefS w9 sb st ∧ Ls.length = q + 1 ∧ OutAt w9 w6.heap.size v9 Ls ∧ (q + 1 = 0 → v9 = .slice none 0 0)) ∧ P2 (.pointer (some ⟨X, 0, none⟩)) (.pointer (some ⟨Y, 0, none⟩)) w9) := by
          have h1 := HL.out.r0; have h2 := HL.out.rs; have h3 := HL.out.sb0; have h4 := HL.out.bN
          have h1 : W.heap.size ≤ rb := h1
          have h2 : rb < sb := h2
          have h4 : w6.heap.size ≤ wr.heap.size := h4
          have h5 : wr.heap.size ≤ wq.heap.size := HQ2.out.2.1
          have ho7 := (HQ2.out.2.2.1.stay hg7).own
          refine ⟨⟨own_gb (gb_trans HQ2.out.1 hg7) (own_down ho7 (by omega)) hg9, by have := hg7.size; have := hg9.size; omega, s2, _, (HQ2.out.2.2.2.1.stay hg7).over ho7 (by omega) hg9, (HQ2.out.2.2.2.2.1.stay hg7).over ho7 (by omega) hg9, by rw [List.length_append, HX.out.2.2.2.1]; rfl, ho9, fun e => by omega⟩, HQ2.out.2.2.2.2.2.2.up (by have := hg7.size; have := hg9.size; omega)⟩
        clear hg7 hLX hX1 hap ho9 hg9 x0 x1 x2 x3 y0 y1 y2 y3 HBX
        go_wp2_with (at_builtin; refine wpList_append_run rfl (.tmp 92) (.tmp 95) 22 rfl rfl _ _ rfl rfl _ _ HAP.out ?_)
        exact ⟨⟨q + 1, by omega, rfl, HZ.out⟩, by show m - ((q : Int) + 1).toNat < m - (q : Int).toNat; omega⟩
    · obtain rfl : q = m := by omega
      obtain ⟨hgW, _, st, Ls, _, _, hls, ho, hnil⟩ := HI.out
      have HAP : Hid (Calls Tryz.prog 21 #[u8] wr fun e w' => e = .returned (.bool true) ∧ W.grownBy w' none) := by
        by_cases h0 : q = 0
        · rw [hnil h0]
          exact (apartB_none wr).mono fun e w' h => ⟨h.1, gb_trans hgW h.2⟩
        · exact apart_all HMK.out W wr u8 w6.heap.size Ls ho HS.out.1.size hgW (by omega) (by omega)
      clear hgW hls ho hnil HI hlt
      go_wp2_with fail
      refine HAP.out.mono ?_
      rintro e w7 ⟨rfl, hg7⟩
      have HW := Lib.hid (wawake_any w7)
      have HG7 := Lib.hid hg7
      clear hg7 HAP
      go_wp2_with fail
      refine HW.out.mono ?_
      rintro e w8 ⟨rfl, hg8⟩
      have HE := Lib.hid (HQ.out _ (gb_trans HG7.out hg8))
      clear hg8
      go_wp2
      exact HE.out
end Go.Proofs.YtlkiancedgaicaaGreat
