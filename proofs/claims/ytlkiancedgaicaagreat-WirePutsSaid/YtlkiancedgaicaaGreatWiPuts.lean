/- The law on what wire puts. -/
import Derived.Test.YtlkiancedgaicaaGreatWiPutsM
import Derived.Test.YtlkiancedgaicaaGreatWiAwake
import Derived.Test.YtlkiancedgaicaaGreatWiRefPut
import Derived.Test.YtlkiancedgaicaaGreatKeptRows
import Derived.Test.YtlkiancedgaicaaGreatOuts
import Derived.Test.YtlkiancedgaicaaGreatStep
import Derived.Deep.RegionLaw
namespace Go.Proofs.YtlkiancedgaicaaGreat
open Go.RowKit Ow Wi
set_option linter.unusedSimpArgs false
set_option maxRecDepth 100000 in
set_option maxHeartbeats 4000000 in
theorem wputs_any (z : Int) (m cap : Nat) (a : Option Addr) (L : List (List Nat)) (W : World) (hm : L.length = m) (hm2 : m ≤ 140737488351232) (hR : RowsAt W W.heap.size a L) (hl : ∀ r ∈ L, r.length ≤ 140737488351232) :
    Calls Tryz.prog 3 #[.int .i64 z, .slice a m cap] W fun e w' => e = .returned (.bool true) ∧ W.grownBy w' none := by
  obtain ⟨mk, hmk⟩ := marks_are
  have HMK := Lib.hid hmk; clear hmk
  obtain ⟨Q, hQ⟩ : ∃ Q : Ending → World → Prop, Q = fun e w' => e = .returned (.bool true) ∧ W.grownBy w' none := ⟨_, rfl⟩
  rw [← hQ]
  have HQ : Hid (∀ w', W.grownBy w' none → Q (.returned (.bool true)) w') := fun w' hg => by rw [hQ]; exact ⟨rfl, hg⟩
  clear hQ
  obtain ⟨A, C, hin⟩ := rows_in hR
  have H : Hid (L.length = m ∧ RowsIn W a A C L ∧ (∀ r ∈ L, r.length ≤ 140737488351232) ∧ RowsAt W W.heap.size a L) := ⟨hm, hin, hl, hR⟩
  clear hm hin hl hR
  go_enter Tryz.func3, Tryz.ntmps3
  go_wp2_with fail
  go_loopw [5, 6] (fun v i wr => ∃ (k s : Nat), k ≤ m ∧ i = .int .i64 k ∧ v = .int .i64 s ∧ s ≤ 281474976710656 ∧ Hid (W.grownBy wr none ∧ s = m + sumP (L.take k))) (fun _ i _ => m - (intOf i).toNat)
  case atStart => exact ⟨0, m, by omega, rfl, rfl, by omega, gb_refl _ _, by simp [sumP]⟩
  case round =>
    obtain ⟨k, s, hk, rfl, rfl, hs, HI⟩ := hrel
    by_cases hgo : k < m ∧ s ≤ 20000
    · obtain ⟨h1, h2⟩ := hgo
      obtain ⟨pb, po, rfl, hpb, hcs⟩ := (H.out.2.1.stay HI.out.1).cells.resolve_left (by rw [H.out.1]; omega)
      have hc := hcs k (by rw [H.out.1]; exact h1)
      have hst := sumP_take L k (by rw [H.out.1]; exact h1)
      have hmem : L.getD k [] ∈ L := by rw [List.getD_eq_getElem?_getD, List.getElem?_eq_getElem (by rw [H.out.1]; exact h1)]; exact List.getElem_mem _
      have hlk := H.out.2.2.1 _ hmem
      have HT : Hid (s + (L.getD k []).length = m + sumP (L.take (k + 1))) := by
        show _ = _
        rw [hst, HI.out.2]; omega
      generalize (L.getD k []).length = x at *
      have i0 : (k : Int) < (m : Int) := by omega
      have i1 : (s : Int) ≤ 20000 := by omega
      clear hcs hst hmem
      go_wp2_with fail
      exact ⟨⟨k + 1, s + x, by omega, rfl, rfl, by omega, HI.out.1, HT.out⟩, by show m - ((k : Int) + 1).toNat < m - (k : Int).toNat; omega⟩
    · by_cases hbig : 20000 < s
      · have i1 : ¬ (s : Int) ≤ 20000 := by omega
        have i2 : (20000 : Int) < (s : Int) := by omega
        have HW := Lib.hid (wawake_any wr)
        by_cases hkm : (k : Int) < (m : Int)
        · go_wp2_with fail
          refine HW.out.mono ?_
          rintro e w3 ⟨rfl, hg3⟩
          have HE := Lib.hid (HQ.out _ (gb_trans HI.out.1 hg3))
          clear hg3
          go_wp2
          exact HE.out
        · go_wp2_with fail
          refine HW.out.mono ?_
          rintro e w3 ⟨rfl, hg3⟩
          have HE := Lib.hid (HQ.out _ (gb_trans HI.out.1 hg3))
          clear hg3
          go_wp2
          exact HE.out
      · obtain rfl : k = m := by omega
        have i1 : ¬ (20000 : Int) < (s : Int) := by omega
        have hsum := HI.out.2
        rw [List.take_of_length_le (by rw [H.out.1]; exact Nat.le_refl _)] at hsum
        have hk2 : k ≤ 20000 := by omega
        have hs2 : sumP L ≤ 20000 := by omega
        have hbyte : ∀ l ∈ L, ∀ i, l.getD i 0 < 256 := fun l hl => by
          obtain ⟨i, hi, rfl⟩ := List.getElem_of_mem hl
          have := (H.out.2.1.bytes i hi).byte
          rwa [List.getD_eq_getElem?_getD, List.getElem?_eq_getElem hi] at this
        have hlen : ∀ l ∈ L, l.length ≤ 20000 := fun l hl => by have := sumP_mem hl; omega
        have hat : ∀ i, i < k → (L.getD i []).length ≤ 20000 := fun i hi => hlen _ (by rw [List.getD_eq_getElem?_getD, List.getElem?_eq_getElem (by rw [H.out.1]; exact hi)]; exact List.getElem_mem _)
        have HLN := Lib.hid (lentR_any HMK.out k cap a A C L wr H.out.1 (H.out.2.1.stay HI.out.1) (fun i hi => by have := hat i hi; omega) (by omega))
        have HB := Lib.hid (And.intro hbyte (And.intro hlen hat))
        have HG1 := Lib.hid HI.out.1
        clear hgo hbig hsum hbyte hlen hat HI hs
        go_wp2_with fail
        refine HLN.out.mono ?_
        rintro e w3 ⟨G, vs, rfl, hg3, hG, hbk, hla⟩
        have HK : Hid (∀ w', w3.grownBy w' none → Calls Tryz.prog 20 #[.slice (some ⟨G, 0, none⟩) k (k + 12), .slice a k cap] w' fun e w'' => e = .returned (.bool true) ∧ w'.grownBy w'' none) := fun w' hg =>
          keptR_any HMK.out k cap G a A C L vs wr w' H.out.1 (H.out.2.1.stay (gb_trans HG1.out (gb_trans hg3 hg))) (fun i hi => by have := HB.out.2.2 i hi; omega) (by omega) (hbk.grown hg (by simp)) (hla.stay hg)
        obtain ⟨hra, hre⟩ := lent_rows H.out.1 hbk hla HB.out.1 (fun l hl => by have := HB.out.2.1 l hl; omega)
        have HRI : Hid (∀ w', w3.grownBy w' none → RowsAt w' w'.heap.size (some ⟨G, 0, none⟩) L) := fun w' hg => rows_full (hra.stay hg)
        have HRE : Hid (∀ i, i < k → ∃ g, w3.cell? ⟨G, i, none⟩ = some (.slice (some ⟨g, 0, none⟩) (L.getD i []).length ((L.getD i []).length + 12)) ∧ BytesAt w3 w3.heap.size (some ⟨g, 0, none⟩) ((L.getD i []).length + 12) (L.getD i [])) := hre
        have HG3 := Lib.hid (gb_trans HG1.out hg3)
        have HFL : Hid (L.flatten.length ≤ 20000) := by show _ ≤ _; rw [sumP_flat]; exact hs2
        have HJ : Hid (∀ w', w3.grownBy w' none → Calls Tryz.prog 14 #[.slice (some ⟨G, 0, none⟩) k (k + 12)] w' fun e w'' => ∃ v, e = .returned v ∧ w'.grownBy w'' none ∧ w''.ownsRow w'.heap.size 5 1 v L.flatten.length (L.flatten.map u8N)) := fun w' hg =>
          join_any k (k + 12) w'.heap.size L (some ⟨G, 0, none⟩) w' H.out.1 (HRI.out w' hg) (by omega) (by have := HFL.out; omega)
        obtain ⟨c0, hc0⟩ : ∃ c0, c0 = k + 12 := ⟨_, rfl⟩
        rw [← hc0] at HK HJ ⊢
        clear hg3 hG hbk hla hra hre hc0 HLN HG1
        obtain ⟨fl, hfl⟩ : ∃ fl, fl = L.flatten.length := ⟨_, rfl⟩
        rw [← hfl] at HJ
        go_wp2_with fail
        refine (numF_any z w3).mono ?_
        rintro e w4 ⟨g1, rfl, hg4, hn1, hb1⟩
        have H4 := Lib.hid (And.intro hg4 (And.intro hn1 hb1)); clear hg4 hn1 hb1
        go_wp2_with fail
        refine (numF_any z w4).mono ?_
        rintro e w5 ⟨g2, rfl, hg5, hn2, hb2⟩
        have H5 := Lib.hid (And.intro hg5 (And.intro hn2 hb2)); clear hg5 hn2 hb2
        go_wp2_with fail
        refine (HJ.out w5 (gb_trans H4.out.1 H5.out.1)).mono ?_
        rintro e w6 ⟨v3, rfl, hg6, ho6⟩
        have H6 := Lib.hid (And.intro hg6 ho6); clear hg6 ho6
        go_wp2_with fail
        refine (HJ.out w6 (gb_trans H4.out.1 (gb_trans H5.out.1 H6.out.1))).mono ?_
        rintro e w7 ⟨v4, rfl, hg7, ho7⟩
        have H7 := Lib.hid (And.intro hg7 ho7); clear hg7 ho7
        have hs3 : ∃ a3 c3, v3 = .slice a3 fl c3 := own_shape3 H6.out.2
        obtain ⟨a3, c3, rfl⟩ := hs3
        have hs4 : ∃ a4 c4, v4 = .slice a4 fl c4 := own_shape3 H7.out.2
        obtain ⟨a4, c4, rfl⟩ := hs4
        have hfl2 : fl ≤ 20000 := by rw [hfl]; exact HFL.out
        have nb : ∀ (w' : World) (N : Nat), w3.heap.size ≤ N → Blk w' N 5 ((encN z).map u8N) → w'.ownsRow w3.heap.size 5 1 (.slice (some ⟨N, 0, none⟩) 8 8) 8 ((encN z).map u8N) := fun w' N hN hbk =>
          ⟨by rw [List.length_map, encN_length], Or.inr ⟨N, 8, ((encN z).map u8N).toArray, rfl, hN, hbk, Nat.le_refl _, by decide, by simp [encN_length], List.take_of_length_le (by simp [encN_length])⟩⟩
        have hg57 := gb_trans H6.out.1 H7.out.1
        have hg47 := gb_trans H5.out.1 hg57
        have hO := outs_lit w7 w3.heap.size 4 [(some ⟨g1, 0, none⟩, 8, 8, (encN z).map u8N), (some ⟨g2, 0, none⟩, 8, 8, (encN z).map u8N), (a3, fl, c3, L.flatten.map u8N), (a4, fl, c4, L.flatten.map u8N)] rfl (by
            intro p hp
            simp only [List.mem_cons, List.not_mem_nil, or_false] at hp
            rcases hp with rfl | rfl | rfl | rfl
            · exact ⟨nb w7 g1 H4.out.2.1 (H4.out.2.2.grown hg47 (by simp)), by show 8 ≤ 100000; omega⟩
            · exact ⟨nb w7 g2 (Nat.le_trans H4.out.1.size H5.out.2.1) (H5.out.2.2.grown hg57 (by simp)), by show 8 ≤ 100000; omega⟩
            · exact ⟨own_kept (own_down H6.out.2 (gb_trans H4.out.1 H5.out.1).size) H7.out.1, by show fl ≤ 100000; omega⟩
            · exact ⟨own_down H7.out.2 (gb_trans H4.out.1 (gb_trans H5.out.1 H6.out.1)).size, by show fl ≤ 100000; omega⟩) (by
            have l1 := H4.out.2.2.lt
            have l2 := H5.out.2.2.lt
            have k2 := H5.out.2.1
            have k3 := H5.out.1.size
            have k4 := H6.out.1.size
            have e1 : ∀ g, (rv (some ⟨g1, 0, none⟩, 8, 8, (encN z).map u8N)).ownBlock = some g → g < w4.heap.size := fun g e => by simp only [rv, Value.ownBlock, Option.some.injEq] at e; omega
            have e2 : ∀ g, (rv (some ⟨g2, 0, none⟩, 8, 8, (encN z).map u8N)).ownBlock = some g → w4.heap.size ≤ g ∧ g < w5.heap.size := fun g e => by simp only [rv, Value.ownBlock, Option.some.injEq] at e; omega
            have e3 : ∀ g, (rv (a3, fl, c3, L.flatten.map u8N)).ownBlock = some g → w5.heap.size ≤ g ∧ g < w6.heap.size := fun g e => (H6.out.2).lt g e
            have e4 : ∀ g, (rv (a4, fl, c4, L.flatten.map u8N)).ownBlock = some g → w6.heap.size ≤ g := fun g e => ((H7.out.2).lt g e).1
            refine List.Pairwise.cons (fun q hq => ?_) (List.Pairwise.cons (fun q hq => ?_) (List.Pairwise.cons (fun q hq => ?_) (List.Pairwise.cons (fun q hq => by cases hq) List.Pairwise.nil)))
            · simp only [List.mem_cons, List.not_mem_nil, or_false] at hq
              rcases hq with rfl | rfl | rfl
              · exact rise_apart e1 (fun g e => (e2 g e).1)
              · exact rise_apart e1 (fun g e => by have := (e3 g e).1; omega)
              · exact rise_apart e1 (fun g e => by have := e4 g e; omega)
            · simp only [List.mem_cons, List.not_mem_nil, or_false] at hq
              rcases hq with rfl | rfl
              · exact rise_apart (fun g e => (e2 g e).2) (fun g e => (e3 g e).1)
              · exact rise_apart (fun g e => (e2 g e).2) (fun g e => by have := e4 g e; omega)
            · simp only [List.mem_cons, List.not_mem_nil, or_false] at hq
              subst hq
              exact rise_apart (fun g e => (e3 g e).2) e4) (gb_trans H4.out.1 hg47).size (by omega)
        obtain ⟨w8, hw8⟩ : ∃ w8, w8 = w7.alloc (.cells #[.slice (some ⟨g1, 0, none⟩) 8 8, .slice (some ⟨g2, 0, none⟩) 8 8, .slice a3 fl c3, .slice a4 fl c4] 23) := ⟨_, rfl⟩
        obtain ⟨OB, hOB⟩ : ∃ OB, OB = w7.heap.size := ⟨_, rfl⟩
        have hgA : w7.grownBy w8 none := by rw [hw8]; exact gb_alloc (gb_refl _ _) _
        have hbOB : Blk w8 OB 23 [.slice (some ⟨g1, 0, none⟩) 8 8, .slice (some ⟨g2, 0, none⟩) 8 8, .slice a3 fl c3, .slice a4 fl c4] := by rw [hw8]; exact blk_at _ _ _ hOB.symm
        have hO2 : OutAt w8 w3.heap.size (.slice (some ⟨OB, 0, none⟩) 4 4) [(some ⟨g1, 0, none⟩, 8, 8, (encN z).map u8N), (some ⟨g2, 0, none⟩, 8, 8, (encN z).map u8N), (a3, fl, c3, L.flatten.map u8N), (a4, fl, c4, L.flatten.map u8N)] := by rw [hw8, hOB]; exact hO
        have HO := Lib.hid hO2
        have HG8 := Lib.hid (gb_trans H4.out.1 (gb_trans hg47 hgA))
        have HOB : Hid (w8.cell? ⟨OB, 0, none⟩ = some (.slice (some ⟨g1, 0, none⟩) 8 8) ∧ w8.cell? ⟨OB, 2, none⟩ = some (.slice a3 fl c3)) := ⟨hbOB.cell (i := 0) rfl, hbOB.cell (i := 2) rfl⟩
        have hb1 : ∀ w', w8.grownBy w' none → BytesAt w' w'.heap.size (some ⟨g1, 0, none⟩) 8 (encN z) := fun w' hg => numF_bytes (H4.out.2.2.grown (gb_trans hg47 (gb_trans hgA hg)) (by simp))
        obtain ⟨a3', c3', e3, hl3, hb3, _⟩ := own_slice H6.out.2 (flat_byte HB.out.1)
        simp only [Value.slice.injEq, true_and] at e3
        obtain ⟨rfl, rfl⟩ := e3
        have HS1 : Hid (∀ w', w8.grownBy w' none → ∀ {B : Nat} {a : Option Addr} {c : Nat}, BytesAt w' B a c (encN z) → Calls Tryz.prog 15 #[.slice (some ⟨g1, 0, none⟩) 8 8, .slice a (encN z).length c] w' fun e w'' => e = .returned (.bool true) ∧ w'.grownBy w'' none) := fun w' hg B a c hb => by
          have h := sameBytes_any w'.heap.size B 8 (encN z).length 8 c (some ⟨g1, 0, none⟩) a (encN z) (encN z) w' (encN_length z) rfl (hb1 w' hg) hb
          rw [show decide (encN z = encN z) = true from decide_eq_true rfl] at h
          exact h
        have HS2 : Hid (∀ w', w8.grownBy w' none → ∀ {B : Nat} {a : Option Addr} {c : Nat}, BytesAt w' B a c L.flatten → Calls Tryz.prog 15 #[.slice a3 fl c3, .slice a L.flatten.length c] w' fun e w'' => e = .returned (.bool true) ∧ w'.grownBy w'' none) := fun w' hg B a c hb => by
          have h := sameBytes_any w6.heap.size B fl L.flatten.length c3 c a3 a L.flatten L.flatten w' hl3 rfl (hb3.stay (gb_trans H7.out.1 (gb_trans hgA hg))) hb
          rw [show decide (L.flatten = L.flatten) = true from decide_eq_true rfl] at h
          exact h
        have HRN := Lib.hid (fun w' => refNumber_out z w')
        have HRJ : Hid (∀ w', w8.grownBy w' none → Calls Tryz.prog 17 #[.slice a k cap] w' (YOut w' L.flatten)) := fun w' hg => refJoin_out k L a cap w'.heap.size w' H.out.1 (rows_full (H.out.2.2.2.stay (gb_trans HG3.out (gb_trans HG8.out hg)))) (by rw [H.out.1]; omega) (by have := HFL.out; omega) HB.out.1
        have HG2 : Hid (w8.grownBy w8 none) := gb_refl _ _
        clear hg57 hg47 hO nb hgA hbOB hO2 hb1 hl3 hb3 H4 H5 H6 H7 hfl
        go_wp2_with fail
        rw [← hw8, ← hOB]
        clear hw8 hOB
        refine Fg.region_t [] [.any, .any, .any, .any, .any, .any, .any, .any, .any, .any, .any, .any, .any, .any, .any, .any, .any, .any, .any, .any, .any, .any, .any, .any, .any, .any, .any, .any, .any, .any, .any, .any, .any, .any, .any, .any, .any, .any, .any, .any, .any, .any, .any, .any, .val (Value.slice (some ⟨OB, 0, none⟩) 4 4), .val (Value.pointer (some ⟨OB, 0, none⟩)), .val (Value.slice (some ⟨g1, 0, none⟩) 8 8), .val (Value.int .i64 z), Fg.It.by (encN z), .val (Value.bool true), .val (Value.bool false), .val (Value.bool false), .val (Value.slice (some ⟨OB, 0, none⟩) 4 4), .val (Value.pointer (some ⟨OB, 2, none⟩)), .val (Value.slice a3 fl c3), .val (Value.slice a k cap), Fg.It.by L.flatten, .val (Value.bool true), .val (Value.bool false), .val (Value.bool false)] w8 16 (gb_refl _ _) (by kernel_rfl) (by kernel_rfl) (by kernel_rfl) (by kernel_rfl) (by decide) (by kernel_rfl) ?_ ?_
        · refine ⟨Fg.vT rfl (by decide) fun ac w h => ?_, ?_⟩
          · have e8 : ac.tmps.getD 8 undef = Value.slice (some ⟨OB, 0, none⟩) 4 4 := h.rest 8 (by kernel_rfl)
            exact ⟨_, w, wants_none rfl, Fg.run_move rfl e8, gb_refl _ _, rfl⟩
          refine ⟨Fg.vT rfl (by decide) fun ac w h => ?_, ?_⟩
          · have e44 : ac.tmps.getD 44 undef = Value.slice (some ⟨OB, 0, none⟩) 4 4 := h.dep 44 (by kernel_rfl)
            refine ⟨.pointer (some ⟨OB, 0, none⟩), w, wants_none rfl, ?_, gb_refl _ _, rfl⟩
            clear h
            simp only [execOp, Act.eval, e44]
            go_simp
          refine ⟨Fg.vT rfl (by decide) fun ac w h => ?_, ?_⟩
          · have e45 : ac.tmps.getD 45 undef = Value.pointer (some ⟨OB, 0, none⟩) := h.dep 45 (by kernel_rfl)
            have y0 : w.cell? ⟨OB, 0, none⟩ = some (.slice (some ⟨g1, 0, none⟩) 8 8) := by rw [gb_cell h.base (block_lt_of_cell (HOB.out.1)) (by simp)]; exact HOB.out.1
            refine ⟨Value.slice (some ⟨g1, 0, none⟩) 8 8, w, wants_none rfl, ?_, gb_refl _ _, rfl⟩
            clear h
            simp only [execOp, Act.eval, e45]
            go_simp
          refine ⟨Fg.vT rfl (by decide) fun ac w h => ?_, ?_⟩
          · have e0 : ac.tmps.getD 0 undef = Value.int .i64 z := h.rest 0 (by kernel_rfl)
            exact ⟨_, w, wants_none rfl, Fg.run_move rfl e0, gb_refl _ _, rfl⟩
          refine ⟨Fg.cT rfl (by decide) fun ac w h => ?_, ?_⟩
          · have e47 : ac.tmps.getD 47 undef = Value.int .i64 z := h.dep 47 (by kernel_rfl)
            refine ⟨16, #[Value.int .i64 z], wants_none rfl, Fg.run_call rfl rfl (by simp only [List.map_toArray, List.map_cons, List.map_nil, Act.eval, e47]) (Fg.run_enter Tryz.func16 (by kernel_rfl) (by kernel_rfl)), ?_⟩
            exact (HRN.out w).mono fun _ _ ⟨_, _, he, hg, hb⟩ => ⟨_, he, hg, _, _, _, rfl, hb⟩
          refine ⟨Fg.cT rfl (by decide) fun ac w h => ?_, ?_⟩
          · have e46 : ac.tmps.getD 46 undef = Value.slice (some ⟨g1, 0, none⟩) 8 8 := h.dep 46 (by kernel_rfl)
            obtain ⟨a48, k48, B48, e48, b48⟩ : ∃ xa xc xB, ac.tmps.getD 48 undef = .slice xa (encN z).length xc ∧ BytesAt w xB xa xc (encN z) := h.dep 48 (by kernel_rfl)
            refine ⟨15, #[Value.slice (some ⟨g1, 0, none⟩) 8 8, Value.slice a48 (encN z).length k48], wants_none rfl, Fg.run_call rfl rfl (by simp only [List.map_toArray, List.map_cons, List.map_nil, Act.eval, e46, e48]) (Fg.run_enter Tryz.func15 (by kernel_rfl) (by kernel_rfl)), ?_⟩
            exact (HS1.out w (gb_trans HG2.out h.base) b48).mono fun _ _ ⟨he, hg⟩ => ⟨_, he, hg, rfl⟩
          refine ⟨Fg.vT rfl (by decide) fun ac w h => ?_, ?_⟩
          · have e49 : ac.tmps.getD 49 undef = Value.bool true := h.dep 49 (by kernel_rfl)
            refine ⟨Value.bool false, w, wants_none rfl, ?_, gb_refl _ _, rfl⟩
            clear h
            simp only [execOp, Act.eval, e49]
            go_simp
          refine ⟨Fg.vT rfl (by decide) fun ac w h => ?_, ?_⟩
          · have e50 : ac.tmps.getD 50 undef = Value.bool false := h.dep 50 (by kernel_rfl)
            exact ⟨_, w, wants_none rfl, Fg.run_move rfl e50, gb_refl _ _, rfl⟩
          refine ⟨Fg.vT rfl (by decide) fun ac w h => ?_, ?_⟩
          · have e51 : ac.tmps.getD 51 undef = Value.bool false := h.dep 51 (by kernel_rfl)
            have e8 : ac.tmps.getD 8 undef = Value.slice (some ⟨OB, 0, none⟩) 4 4 := h.rest 8 (by kernel_rfl)
            exact ⟨_, w, wants_some (d := 51) rfl rfl (by rw [h.size]; show 51 < 109; decide) e51, Fg.run_move rfl e8, gb_refl _ _, rfl⟩
          refine ⟨Fg.vT rfl (by decide) fun ac w h => ?_, ?_⟩
          · have e51 : ac.tmps.getD 51 undef = Value.bool false := h.dep 51 (by kernel_rfl)
            have e52 : ac.tmps.getD 52 undef = Value.slice (some ⟨OB, 0, none⟩) 4 4 := h.dep 52 (by kernel_rfl)
            refine ⟨.pointer (some ⟨OB, 2, none⟩), w, wants_some (d := 51) rfl rfl (by rw [h.size]; show 51 < 109; decide) e51, ?_, gb_refl _ _, rfl⟩
            clear h
            simp only [execOp, Act.eval, e52]
            go_simp
          refine ⟨Fg.vT rfl (by decide) fun ac w h => ?_, ?_⟩
          · have e51 : ac.tmps.getD 51 undef = Value.bool false := h.dep 51 (by kernel_rfl)
            have e53 : ac.tmps.getD 53 undef = Value.pointer (some ⟨OB, 2, none⟩) := h.dep 53 (by kernel_rfl)
            have y0 : w.cell? ⟨OB, 2, none⟩ = some (.slice a3 fl c3) := by rw [gb_cell h.base (block_lt_of_cell (HOB.out.2)) (by simp)]; exact HOB.out.2
            refine ⟨Value.slice a3 fl c3, w, wants_some (d := 51) rfl rfl (by rw [h.size]; show 51 < 109; decide) e51, ?_, gb_refl _ _, rfl⟩
            clear h
            simp only [execOp, Act.eval, e53]
            go_simp
          refine ⟨Fg.vT rfl (by decide) fun ac w h => ?_, ?_⟩
          · have e51 : ac.tmps.getD 51 undef = Value.bool false := h.dep 51 (by kernel_rfl)
            have e1 : ac.tmps.getD 1 undef = Value.slice a k cap := h.rest 1 (by kernel_rfl)
            exact ⟨_, w, wants_some (d := 51) rfl rfl (by rw [h.size]; show 51 < 109; decide) e51, Fg.run_move rfl e1, gb_refl _ _, rfl⟩
          refine ⟨Fg.cT rfl (by decide) fun ac w h => ?_, ?_⟩
          · have e51 : ac.tmps.getD 51 undef = Value.bool false := h.dep 51 (by kernel_rfl)
            have e55 : ac.tmps.getD 55 undef = Value.slice a k cap := h.dep 55 (by kernel_rfl)
            refine ⟨17, #[Value.slice a k cap], wants_some (d := 51) rfl rfl (by rw [h.size]; show 51 < 109; decide) e51, Fg.run_call rfl rfl (by simp only [List.map_toArray, List.map_cons, List.map_nil, Act.eval, e55]) (Fg.run_enter Tryz.func17 (by kernel_rfl) (by kernel_rfl)), ?_⟩
            exact (HRJ.out w (gb_trans HG2.out h.base)).mono fun _ _ ⟨_, _, he, hg, hb⟩ => ⟨_, he, hg, _, _, _, rfl, hb⟩
          refine ⟨Fg.cT rfl (by decide) fun ac w h => ?_, ?_⟩
          · have e51 : ac.tmps.getD 51 undef = Value.bool false := h.dep 51 (by kernel_rfl)
            have e54 : ac.tmps.getD 54 undef = Value.slice a3 fl c3 := h.dep 54 (by kernel_rfl)
            obtain ⟨a56, k56, B56, e56, b56⟩ : ∃ xa xc xB, ac.tmps.getD 56 undef = .slice xa L.flatten.length xc ∧ BytesAt w xB xa xc L.flatten := h.dep 56 (by kernel_rfl)
            refine ⟨15, #[Value.slice a3 fl c3, Value.slice a56 L.flatten.length k56], wants_some (d := 51) rfl rfl (by rw [h.size]; show 51 < 109; decide) e51, Fg.run_call rfl rfl (by simp only [List.map_toArray, List.map_cons, List.map_nil, Act.eval, e54, e56]) (Fg.run_enter Tryz.func15 (by kernel_rfl) (by kernel_rfl)), ?_⟩
            exact (HS2.out w (gb_trans HG2.out h.base) b56).mono fun _ _ ⟨he, hg⟩ => ⟨_, he, hg, rfl⟩
          refine ⟨Fg.vT rfl (by decide) fun ac w h => ?_, ?_⟩
          · have e51 : ac.tmps.getD 51 undef = Value.bool false := h.dep 51 (by kernel_rfl)
            have e57 : ac.tmps.getD 57 undef = Value.bool true := h.dep 57 (by kernel_rfl)
            refine ⟨Value.bool false, w, wants_some (d := 51) rfl rfl (by rw [h.size]; show 51 < 109; decide) e51, ?_, gb_refl _ _, rfl⟩
            clear h
            simp only [execOp, Act.eval, e57]
            go_simp
          refine ⟨Fg.vT rfl (by decide) fun ac w h => ?_, ?_⟩
          · have e51 : ac.tmps.getD 51 undef = Value.bool false := h.dep 51 (by kernel_rfl)
            have e58 : ac.tmps.getD 58 undef = Value.bool false := h.dep 58 (by kernel_rfl)
            refine ⟨Value.bool false, w, wants_none rfl, ?_, gb_refl _ _, rfl⟩
            clear h
            simp only [execOp, Act.eval, e51, e58]
            go_simp
          trivial
        · intro aq wq hB hsz hdf hrest hslots hpt
          obtain ⟨u44, e44⟩ : ∃ u, aq.tmps.getD 44 undef = u := ⟨_, rfl⟩
          obtain ⟨u45, e45⟩ : ∃ u, aq.tmps.getD 45 undef = u := ⟨_, rfl⟩
          obtain ⟨u46, e46⟩ : ∃ u, aq.tmps.getD 46 undef = u := ⟨_, rfl⟩
          obtain ⟨u47, e47⟩ : ∃ u, aq.tmps.getD 47 undef = u := ⟨_, rfl⟩
          obtain ⟨u48, e48⟩ : ∃ u, aq.tmps.getD 48 undef = u := ⟨_, rfl⟩
          obtain ⟨u49, e49⟩ : ∃ u, aq.tmps.getD 49 undef = u := ⟨_, rfl⟩
          obtain ⟨u50, e50⟩ : ∃ u, aq.tmps.getD 50 undef = u := ⟨_, rfl⟩
          obtain ⟨u51, e51⟩ : ∃ u, aq.tmps.getD 51 undef = u := ⟨_, rfl⟩
          obtain ⟨u52, e52⟩ : ∃ u, aq.tmps.getD 52 undef = u := ⟨_, rfl⟩
          obtain ⟨u53, e53⟩ : ∃ u, aq.tmps.getD 53 undef = u := ⟨_, rfl⟩
          obtain ⟨u54, e54⟩ : ∃ u, aq.tmps.getD 54 undef = u := ⟨_, rfl⟩
          obtain ⟨u55, e55⟩ : ∃ u, aq.tmps.getD 55 undef = u := ⟨_, rfl⟩
          obtain ⟨u56, e56⟩ : ∃ u, aq.tmps.getD 56 undef = u := ⟨_, rfl⟩
          obtain ⟨u57, e57⟩ : ∃ u, aq.tmps.getD 57 undef = u := ⟨_, rfl⟩
          obtain ⟨u58, e58⟩ : ∃ u, aq.tmps.getD 58 undef = u := ⟨_, rfl⟩
          have e59 : aq.tmps.getD 59 undef = Value.bool false := hslots 59 (by kernel_rfl)
          obtain rfl := Fg.frame_is (a := aq) (vs := [Value.int .i64 z, Value.slice a k cap, undef, undef, Value.bool false, Value.int .i64 (s : Int), Value.int .i64 (k : Int), Value.slice (some ⟨G, 0, none⟩) k c0, Value.slice (some ⟨OB, 0, none⟩) 4 4, undef, undef, Value.slice a k cap, Value.int .i64 (k : Int), Value.int .i64 (k : Int), Value.slice a k cap, Value.int .i64 (k : Int), Value.bool false, Value.bool false, undef, undef, Value.bool false, u21, u22, u23, u24, u25, u26, u27, u28, u29, Value.int .i64 (s : Int), Value.bool false, undef, Value.slice a k cap, Value.slice (some ⟨G, 0, none⟩) k c0, Value.int .i64 z, Value.slice (some ⟨g1, 0, none⟩) 8 8, Value.int .i64 z, Value.slice (some ⟨g2, 0, none⟩) 8 8, Value.slice (some ⟨G, 0, none⟩) k c0, Value.slice a3 fl c3, Value.slice (some ⟨G, 0, none⟩) k c0, Value.slice a4 fl c4, Value.slice (some ⟨OB, 0, none⟩) 4 4, u44, u45, u46, u47, u48, u49, u50, u51, u52, u53, u54, u55, u56, u57, u58, Value.bool false, undef, undef, undef, undef, undef, undef, undef, undef, undef, undef, undef, undef, undef, undef, undef, undef, undef, undef, undef, undef, undef, undef, undef, undef, undef, undef, undef, undef, undef, undef, undef, undef, undef, undef, undef, undef, undef, undef, undef, undef, undef, undef, undef, undef, undef, undef, undef, undef, undef]) hsz ⟨hrest 0 (by kernel_rfl), hrest 1 (by kernel_rfl), hrest 2 (by kernel_rfl), hrest 3 (by kernel_rfl), hrest 4 (by kernel_rfl), hrest 5 (by kernel_rfl), hrest 6 (by kernel_rfl), hrest 7 (by kernel_rfl), hrest 8 (by kernel_rfl), hrest 9 (by kernel_rfl), hrest 10 (by kernel_rfl), hrest 11 (by kernel_rfl), hrest 12 (by kernel_rfl), hrest 13 (by kernel_rfl), hrest 14 (by kernel_rfl), hrest 15 (by kernel_rfl), hrest 16 (by kernel_rfl), hrest 17 (by kernel_rfl), hrest 18 (by kernel_rfl), hrest 19 (by kernel_rfl), hrest 20 (by kernel_rfl), hrest 21 (by kernel_rfl), hrest 22 (by kernel_rfl), hrest 23 (by kernel_rfl), hrest 24 (by kernel_rfl), hrest 25 (by kernel_rfl), hrest 26 (by kernel_rfl), hrest 27 (by kernel_rfl), hrest 28 (by kernel_rfl), hrest 29 (by kernel_rfl), hrest 30 (by kernel_rfl), hrest 31 (by kernel_rfl), hrest 32 (by kernel_rfl), hrest 33 (by kernel_rfl), hrest 34 (by kernel_rfl), hrest 35 (by kernel_rfl), hrest 36 (by kernel_rfl), hrest 37 (by kernel_rfl), hrest 38 (by kernel_rfl), hrest 39 (by kernel_rfl), hrest 40 (by kernel_rfl), hrest 41 (by kernel_rfl), hrest 42 (by kernel_rfl), hrest 43 (by kernel_rfl), e44, e45, e46, e47, e48, e49, e50, e51, e52, e53, e54, e55, e56, e57, e58, e59, hrest 60 (by kernel_rfl), hrest 61 (by kernel_rfl), hrest 62 (by kernel_rfl), hrest 63 (by kernel_rfl), hrest 64 (by kernel_rfl), hrest 65 (by kernel_rfl), hrest 66 (by kernel_rfl), hrest 67 (by kernel_rfl), hrest 68 (by kernel_rfl), hrest 69 (by kernel_rfl), hrest 70 (by kernel_rfl), hrest 71 (by kernel_rfl), hrest 72 (by kernel_rfl), hrest 73 (by kernel_rfl), hrest 74 (by kernel_rfl), hrest 75 (by kernel_rfl), hrest 76 (by kernel_rfl), hrest 77 (by kernel_rfl), hrest 78 (by kernel_rfl), hrest 79 (by kernel_rfl), hrest 80 (by kernel_rfl), hrest 81 (by kernel_rfl), hrest 82 (by kernel_rfl), hrest 83 (by kernel_rfl), hrest 84 (by kernel_rfl), hrest 85 (by kernel_rfl), hrest 86 (by kernel_rfl), hrest 87 (by kernel_rfl), hrest 88 (by kernel_rfl), hrest 89 (by kernel_rfl), hrest 90 (by kernel_rfl), hrest 91 (by kernel_rfl), hrest 92 (by kernel_rfl), hrest 93 (by kernel_rfl), hrest 94 (by kernel_rfl), hrest 95 (by kernel_rfl), hrest 96 (by kernel_rfl), hrest 97 (by kernel_rfl), hrest 98 (by kernel_rfl), hrest 99 (by kernel_rfl), hrest 100 (by kernel_rfl), hrest 101 (by kernel_rfl), hrest 102 (by kernel_rfl), hrest 103 (by kernel_rfl), hrest 104 (by kernel_rfl), hrest 105 (by kernel_rfl), hrest 106 (by kernel_rfl), hrest 107 (by kernel_rfl), hrest 108 (by kernel_rfl), trivial⟩ hdf
          clear hsz hdf hrest hslots hpt e44 e45 e46 e47 e48 e49 e50 e51 e52 e53 e54 e55 e56 e57 e58 e59
          have HGq := Lib.hid (gb_trans HG8.out hB)
          have HO9 := Lib.hid (HO.out.stay hB)
          clear hB HOB HS1 HS2 HRN HRJ HG2 HO HG8
          refine wpList_nil ?_
          go_wp2_with fail
          go_loopw [8, 9] (fun v i wr => ∃ (q : Nat), q ≤ k ∧ i = .int .i64 q ∧ Hid (w3.grownBy wr none ∧ ∃ Ls : List Rw1, Ls.length = 4 + 3 * q ∧ OutAt wr w3.heap.size v Ls)) (fun _ i _ => k - (intOf i).toNat)
          case atStart => exact ⟨0, by omega, rfl, HGq.out, _, rfl, HO9.out⟩
          case round =>
            obtain ⟨q, hq, rfl, HI⟩ := hrel
            by_cases hlt : q < k
            · have hlb := HB.out.2.2 q hlt
              have hbyx : ∀ i, (L.getD q []).getD i 0 < 256 := HB.out.1 _ (by rw [List.getD_eq_getElem?_getD, List.getElem?_eq_getElem (by rw [H.out.1]; exact hlt)]; exact List.getElem_mem _)
              obtain ⟨g, hcg, hbg⟩ := HRE.out q hlt
              obtain ⟨pb, po, rfl, hpb, hcs⟩ := H.out.2.1.cells.resolve_left (by rw [H.out.1]; omega)
              have hcp := hcs q (by rw [H.out.1]; exact hlt)
              have hbp := H.out.2.1.bytes q (by rw [H.out.1]; exact hlt)
              have hg3 := gb_trans HG3.out HI.out.1
              have HC0 : Hid (wr.cell? ⟨G, q, none⟩ = some (.slice (some ⟨g, 0, none⟩) (L.getD q []).length ((L.getD q []).length + 12)) ∧ wr.cell? ⟨pb, po + q, none⟩ = some (.slice (A q) (L.getD q []).length (C q))) := by
                refine ⟨?_, ?_⟩
                · rw [gb_cell HI.out.1 (block_lt_of_cell hcg) (by simp)]; exact hcg
                · rw [gb_cell hg3 (block_lt_of_cell hcp) (by simp)]; exact hcp
              have HBG : Hid (∀ w', wr.grownBy w' none → BytesAt w' w'.heap.size (some ⟨g, 0, none⟩) ((L.getD q []).length + 12) (L.getD q [])) := fun w' hg => bytes_up hbg (gb_trans HI.out.1 hg)
              have HBP : Hid (∀ w', wr.grownBy w' none → BytesAt w' w'.heap.size (A q) (C q) (L.getD q [])) := fun w' hg => bytes_up hbp (gb_trans hg3 hg)
              generalize A q = aq at *
              generalize C q = cq at *
              obtain ⟨row, hrow⟩ : ∃ row, row = L.getD q [] := ⟨_, rfl⟩
              rw [← hrow] at hlb hbyx HC0 HBG HBP
              obtain ⟨x, hx⟩ : ∃ x, row.length = x := ⟨_, rfl⟩
              rw [hx] at hlb HC0 HBG
              obtain ⟨cx, hcx⟩ : ∃ cx, cx = x + 12 := ⟨_, rfl⟩
              rw [← hcx] at HC0 HBG
              have HX := Lib.hid (And.intro hx hbyx)
              clear hrow hcg hbg hcs hcp hbp hg3 hx hbyx hcx hpb
              have HBY : Hid (∀ w', wr.grownBy w' none → Calls Tryz.prog 18 #[.slice (some ⟨g, 0, none⟩) x cx] w' fun e w'' => ∃ v, e = .returned v ∧ w'.grownBy w'' none ∧ w''.ownsRow w'.heap.size 5 1 v (8 + x) ((encN (x : Int) ++ row).map u8N)) := fun w' hg => bytesF_any x cx w'.heap.size (some ⟨g, 0, none⟩) row w' HX.out.1 (by omega) (HBG.out w' hg)
              have HRB : Hid (∀ w', wr.grownBy w' none → Calls Tryz.prog 19 #[.slice aq x cq] w' (YOut w' (encN (x : Int) ++ row))) := fun w' hg => by
                have h := refBytes_out x row aq cq w'.heap.size w' HX.out.1 (HBP.out w' hg) (by rw [HX.out.1]; omega)
                rw [HX.out.1] at h; exact h
              have hel : (encN (x : Int) ++ row).length = 8 + x := by rw [List.length_append, encN_length, HX.out.1]
              have heb : ∀ i, (encN (x : Int) ++ row).getD i 0 < 256 := app_byte (encN_byte _) HX.out.2
              obtain ⟨E, hE⟩ : ∃ E, E = encN (x : Int) ++ row := ⟨_, rfl⟩
              rw [← hE] at HBY HRB hel heb
              have HE := Lib.hid (And.intro hel heb)
              clear hE hel heb
              have i0 : (q : Int) < (k : Int) := by omega
              have c1 := HC0.out.1
              have c2 := HC0.out.2
              go_wp2_with fail
              clear c1 c2
              refine (HBY.out wr (gb_refl _ _)).mono ?_
              rintro e w4 ⟨vb, rfl, hg4, ho4⟩
              have H4 := Lib.hid (And.intro hg4 ho4)
              obtain ⟨ab, cb, rfl, _, hb4, _⟩ := own_slice ho4 HE.out.2
              have c2 : w4.cell? ⟨pb, po + q, none⟩ = some (.slice aq x cq) := by rw [gb_cell hg4 (block_lt_of_cell HC0.out.2) (by simp)]; exact HC0.out.2
              have HB4 := Lib.hid hb4
              clear hg4 ho4 hb4
              go_wp2_with fail
              clear c2
              refine (HRB.out w4 H4.out.1).mono ?_
              rintro e w5 ⟨a5, c5, rfl, hg5, hb5⟩
              rw [HE.out.1]
              have HS := Lib.hid (sameBytes_any w4.heap.size w5.heap.size (8 + x) (8 + x) cb c5 ab a5 E E w5 HE.out.1 HE.out.1 (HB4.out.stay hg5) hb5)
              rw [show decide (E = E) = true from decide_eq_true rfl] at HS
              have HG5 := Lib.hid (gb_trans H4.out.1 hg5)
              have HG45 := Lib.hid hg5
              clear hg5 hb5 HRB
              go_wp2_with fail
              refine HS.out.mono ?_
              rintro e w6 ⟨rfl, hg6⟩
              have H6 : Hid (wr.grownBy w6 none ∧ w6.ownsRow wr.heap.size 5 1 (.slice ab (8 + x) cb) (8 + x) (E.map u8N) ∧ w4.heap.size ≤ w6.heap.size ∧ ∀ g, (Value.slice ab (8 + x) cb).ownBlock = some g → g < w6.heap.size) := by
                have h1 := own_kept H4.out.2 (gb_trans HG45.out hg6)
                exact ⟨gb_trans HG5.out hg6, h1, (gb_trans HG45.out hg6).size, fun g e => (h1.lt g e).2⟩
              have HC6 : Hid (w6.cell? ⟨G, q, none⟩ = some (.slice (some ⟨g, 0, none⟩) x cx)) := by
                show _ = _
                rw [gb_cell H6.out.1 (block_lt_of_cell HC0.out.1) (by simp)]; exact HC0.out.1
              clear hg6 HS HG5 HG45
              go_wp2_with fail
              have HB6 : Hid (∀ w', w6.grownBy w' none → Calls Tryz.prog 18 #[.slice (some ⟨g, 0, none⟩) x cx] w' fun e w'' => ∃ v, e = .returned v ∧ w'.grownBy w'' none ∧ w''.ownsRow w'.heap.size 5 1 v (8 + x) (E.map u8N)) := fun w' hg => HBY.out w' (gb_trans H6.out.1 hg)
              have HJ6 : Hid (∀ (w' : World) (BX : Nat), w6.grownBy w' none → Blk w' BX 23 [.slice (some ⟨g, 0, none⟩) x cx] → Calls Tryz.prog 14 #[.slice (some ⟨BX, 0, none⟩) 1 1] w' fun e w'' => ∃ v, e = .returned v ∧ w'.grownBy w'' none ∧ w''.ownsRow w'.heap.size 5 1 v x (row.map u8N)) := fun w' BX hg hb => by
                have h := join_any 1 1 w'.heap.size [row] (some ⟨BX, 0, none⟩) w' rfl (rows_one HX.out.1 (HBG.out w' (gb_trans H6.out.1 hg)) hb) (by decide) (by simp only [List.flatten_cons, List.flatten_nil, List.append_nil]; rw [HX.out.1]; omega)
                simp only [List.flatten_cons, List.flatten_nil, List.append_nil] at h
                rw [HX.out.1] at h
                exact h
              obtain ⟨Ls, hls, hO⟩ := HI.out.2
              have HL := Lib.hid (And.intro hls (And.intro HI.out.1 hO))
              obtain ⟨BX, hBX⟩ : ∃ BX, BX = w6.heap.size := ⟨_, rfl⟩
              have hx2 : 8 + x ≤ 100000 := by omega
              have hx3 : x ≤ 100000 := by omega
              have hm6 := HC6.out
              have hma6 : (w6.alloc (.cells #[.slice (some ⟨g, 0, none⟩) x cx] 23)).cell? ⟨G, q, none⟩ = some (.slice (some ⟨g, 0, none⟩) x cx) := by rw [gb_cell (gb_alloc (gb_refl w6 none) _) (block_lt_of_cell HC6.out) (by simp)]; exact HC6.out
              clear HBY hls hO HI
              go_region_law (first
                | (refine Fg.step_call rfl (f := 18) (args := #[.slice (some ⟨g, 0, none⟩) x cx]) (Fg.run_call rfl rfl (by simp only [List.map_toArray, List.map_cons, List.map_nil, Act.eval]; rfl) (Fg.run_enter Tryz.func18 (by kernel_rfl) (by kernel_rfl))) ?_
                   refine (HB6.out _ (gb_alloc (gb_drew (gb_refl _ _)) _)).mono ?_
                   rintro e w7 ⟨v7, rfl, hg7, ho7⟩
                   have H7 : Hid (w6.grownBy w7 none ∧ w7.ownsRow w6.heap.size 5 1 v7 (8 + x) (E.map u8N) ∧ Blk w7 w6.heap.size 23 [.slice (some ⟨g, 0, none⟩) x cx]) := ⟨gb_trans (gb_alloc (gb_drew (gb_refl _ _)) _) hg7, own_down ho7 (gb_alloc (gb_drew (gb_refl w6 none)) _).size, (blk_at w6.drew [.slice (some ⟨g, 0, none⟩) x cx] _ rfl).grown hg7 (by simp)⟩
                   clear hg7 ho7 HB6
                   refine ⟨_, rfl, ?_⟩)
                | (refine Fg.step_call rfl (f := 18) (args := #[.slice (some ⟨g, 0, none⟩) x cx]) (Fg.run_call rfl rfl (by simp only [List.map_toArray, List.map_cons, List.map_nil, Act.eval]; rfl) (Fg.run_enter Tryz.func18 (by kernel_rfl) (by kernel_rfl))) ?_
                   refine (HB6.out _ (gb_drew (gb_refl _ _))).mono ?_
                   rintro e w7 ⟨v7, rfl, hg7, ho7⟩
                   have H7 : Hid (w6.grownBy w7 none ∧ w7.ownsRow w6.heap.size 5 1 v7 (8 + x) (E.map u8N)) := ⟨gb_trans (gb_drew (gb_refl _ _)) hg7, ho7⟩
                   have c1 : w7.cell? ⟨G, q, none⟩ = some (.slice (some ⟨g, 0, none⟩) x cx) := by rw [gb_cell H7.out.1 (block_lt_of_cell HC6.out) (by simp)]; exact HC6.out
                   clear hg7 ho7 HB6
                   refine ⟨_, rfl, ?_⟩)
                | (refine Fg.step_call rfl (f := 14) (args := #[.slice (some ⟨w7.heap.size, 0, none⟩) 1 1]) (Fg.run_call rfl rfl (by simp only [List.map_toArray, List.map_cons, List.map_nil, Act.eval]; rfl) (Fg.run_enter Tryz.func14 (by kernel_rfl) (by kernel_rfl))) ?_
                   refine (HJ6.out _ _ (gb_alloc H7.out.1 _) (blk_at w7 [.slice (some ⟨g, 0, none⟩) x cx] _ rfl)).mono ?_
                   rintro e w8 ⟨v8, rfl, hg8, ho8⟩
                   have H8 : Hid (w7.grownBy w8 none ∧ w8.ownsRow w7.heap.size 5 1 v8 x (row.map u8N)) := ⟨gb_trans (gb_alloc (gb_refl _ _) _) hg8, own_down ho8 (gb_alloc (gb_refl w7 none) _).size⟩
                   have H7o := Lib.hid H7.out.2
                   obtain ⟨ae, ce, rfl⟩ := own_shape3 H7o.out
                   obtain ⟨af, cf, rfl⟩ := own_shape3 H8.out.2
                   obtain ⟨v9, w9, hr, ho9, hg9⟩ := three_push wr w6 w7 w8 (ab, 8 + x, cb, E.map u8N) (ae, 8 + x, ce, E.map u8N) (af, x, cf, row.map u8N) HL.out.2.2 HL.out.2.1.size H6.out.1 H6.out.2.1 H7.out.1 H7o.out H8.out.1 H8.out.2 hx2 hx2 hx3 (by rw [HL.out.1]; omega)
                   have HR := Lib.hid hr
                   have H9 := Lib.hid (And.intro ho9 hg9)
                   clear hg8 ho8 HJ6 hr ho9 hg9
                   refine ⟨_, rfl, ?_⟩)
                | (refine Fg.step_call rfl (f := 14) (args := #[.slice (some ⟨w6.heap.size, 0, none⟩) 1 1]) (Fg.run_call rfl rfl (by simp only [List.map_toArray, List.map_cons, List.map_nil, Act.eval]; rfl) (Fg.run_enter Tryz.func14 (by kernel_rfl) (by kernel_rfl))) ?_
                   refine (HJ6.out w7 w6.heap.size H7.out.1 H7.out.2.2).mono ?_
                   rintro e w8 ⟨v8, rfl, hg8, ho8⟩
                   have H8 : Hid (w7.grownBy w8 none ∧ w8.ownsRow w7.heap.size 5 1 v8 x (row.map u8N)) := ⟨hg8, ho8⟩
                   have H7o := Lib.hid H7.out.2.1
                   obtain ⟨ae, ce, rfl⟩ := own_shape3 H7o.out
                   obtain ⟨af, cf, rfl⟩ := own_shape3 H8.out.2
                   obtain ⟨v9, w9, hr, ho9, hg9⟩ := three_push wr w6 w7 w8 (ab, 8 + x, cb, E.map u8N) (ae, 8 + x, ce, E.map u8N) (af, x, cf, row.map u8N) HL.out.2.2 HL.out.2.1.size H6.out.1 H6.out.2.1 H7.out.1 H7o.out H8.out.1 H8.out.2 hx2 hx2 hx3 (by rw [HL.out.1]; omega)
                   have HR := Lib.hid hr
                   have H9 := Lib.hid (And.intro ho9 hg9)
                   clear hg8 ho8 HJ6 hr ho9 hg9
                   refine ⟨_, rfl, ?_⟩)
                | (refine Fg.step_append rfl (.tmp 79) (.tmp 92) 22 rfl rfl _ _ rfl rfl _ _ HR.out ?_))
              all_goals
                have HZ : Hid (w3.grownBy w9 none ∧ ∃ Ls : List Rw1, Ls.length = 4 + 3 * (q + 1) ∧ OutAt w9 w3.heap.size v9 Ls) := ⟨own_gb HL.out.2.1 HL.out.2.2.own H9.out.2, _, by rw [List.length_append, HL.out.1]; show 4 + 3 * q + 3 = _; omega, H9.out.1⟩
                go_wp2_with fail
                exact ⟨⟨q + 1, by omega, rfl, HZ.out⟩, by show k - ((q : Int) + 1).toNat < k - (q : Int).toNat; omega⟩
            · obtain rfl : q = k := by omega
              obtain ⟨Ls, hls, ho⟩ := HI.out.2
              have HAP := Lib.hid (fun w' (hg : wr.grownBy w' none) => apart_all HMK.out w3 w' u8 w3.heap.size Ls (ho.stay hg) (Nat.le_refl _) (gb_trans HI.out.1 hg) (by omega) (by omega))
              have HGr := Lib.hid HI.out.1
              clear hls ho HI hlt
              go_wp2_with fail
              refine (HK.out wr HGr.out).mono ?_
              rintro e w4 ⟨rfl, hg4⟩
              have HG4 := Lib.hid hg4; clear hg4
              go_wp2_with fail
              refine (HAP.out w4 HG4.out).mono ?_
              rintro e w5 ⟨rfl, hg5⟩
              have HG5 := Lib.hid hg5; clear hg5
              go_wp2_with fail
              refine (HK.out w5 HG5.out).mono ?_
              rintro e w6 ⟨rfl, hg6⟩
              have HW := Lib.hid (wawake_any w6)
              have HG6 := Lib.hid (gb_trans HG5.out hg6); clear hg6
              go_wp2_with fail
              refine HW.out.mono ?_
              rintro e w7 ⟨rfl, hg7⟩
              have HE := Lib.hid (HQ.out _ (gb_trans HG3.out (gb_trans HG6.out hg7)))
              clear hg7
              go_wp2
              exact HE.out
end Go.Proofs.YtlkiancedgaicaaGreat
