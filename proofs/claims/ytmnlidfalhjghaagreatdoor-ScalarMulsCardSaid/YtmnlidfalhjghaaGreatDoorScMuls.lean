/- The law on what any three are multiplied and added to, walked. -/
import Derived.Test.YtmnlidfalhjghaaGreatDoorScMulsLaw
namespace Go.Proofs.YtmnlidfalhjghaaGreatDoor
open Go.RowKit Ow
namespace Sr
set_option linter.unusedSimpArgs false
theorem muls_great (n1 n2 n3 c1 c2 c3 : Nat) (a1 a2 a3 : Option Addr) (w : World) (hT : OTab w) (h : ¬ (n1 ≤ 100 ∧ n2 ≤ 100 ∧ n3 ≤ 100)) :
    Calls Tryz.prog 4 #[.slice a1 n1 c1, .slice a2 n2 c2, .slice a3 n3 c3] w fun e w' => e = .returned (.bool true) ∧ w.grownBy w' none := by
  have HW := Lib.hid (awake_any w hT); clear hT
  by_cases h1 : n1 ≤ 100
  · have i1 : ¬ (n1 : Int) > 100 := by omega
    by_cases h2 : n2 ≤ 100
    · have i2 : ¬ (n2 : Int) > 100 := by omega
      have i3 : (n3 : Int) > 100 := by omega
      clear h h1 h2
      go_enter Tryz.func4, Tryz.ntmps4
      go_wp2_with fail
      refine HW.out.mono ?_
      rintro e w1 ⟨rfl, hg1⟩
      have HG := Lib.hid hg1; clear hg1 HW
      go_wp2
      go_ret
      exact ⟨rfl, HG.out⟩
    · have i3 : (n2 : Int) > 100 := by omega
      clear h h1 h2
      go_enter Tryz.func4, Tryz.ntmps4
      go_wp2_with fail
      refine HW.out.mono ?_
      rintro e w1 ⟨rfl, hg1⟩
      have HG := Lib.hid hg1; clear hg1 HW
      go_wp2
      go_ret
      exact ⟨rfl, HG.out⟩
  · have i3 : (n1 : Int) > 100 := by omega
    clear h h1
    go_enter Tryz.func4, Tryz.ntmps4
    go_wp2_with fail
    refine HW.out.mono ?_
    rintro e w1 ⟨rfl, hg1⟩
    have HG := Lib.hid hg1; clear hg1 HW
    go_wp2
    go_ret
    exact ⟨rfl, HG.out⟩
set_option maxRecDepth 100000 in
set_option maxHeartbeats 4000000 in
theorem muls_small {f : Nat → Nat → Nat} (hf : Marks f) (n1 n2 n3 c1 c2 c3 B1 B2 B3 : Nat) (a1 a2 a3 : Option Addr) (x y z : List Nat) (w : World) (hT : OTab w) (l1 : n1 ≤ 100) (l2 : n2 ≤ 100) (l3 : n3 ≤ 100)
    (h1 : x.length = n1) (h2 : y.length = n2) (h3 : z.length = n3) (hA : BytesAt w B1 a1 c1 x) (hB : BytesAt w B2 a2 c2 y) (hC : BytesAt w B3 a3 c3 z) :
    Calls Tryz.prog 4 #[.slice a1 n1 c1, .slice a2 n2 c2, .slice a3 n3 c3] w fun e w' => e = .returned (.bool true) ∧ w.grownBy w' none := by
  have i1 : ¬ (n1 : Int) > 100 := by omega
  have i2 : ¬ (n2 : Int) > 100 := by omega
  have i3 : ¬ (n3 : Int) > 100 := by omega
  have HF := Lib.hid hf
  have H : Hid (OTab w ∧ (x.length = n1 ∧ y.length = n2 ∧ z.length = n3) ∧ (BytesAt w B1 a1 c1 x ∧ BytesAt w B2 a2 c2 y ∧ BytesAt w B3 a3 c3 z) ∧ (n1 ≤ 100 ∧ n2 ≤ 100 ∧ n3 ≤ 100)) := ⟨hT, ⟨h1, h2, h3⟩, ⟨hA, hB, hC⟩, ⟨l1, l2, l3⟩⟩
  clear hf hT h1 h2 h3 hA hB hC l1 l2 l3
  go_enter Tryz.func4, Tryz.ntmps4
  go_wp2_with fail
  refine (lentB_any HF.out n1 c1 B1 x a1 w H.out.2.1.1 H.out.2.2.1.1 (by omega)).mono ?_
  rintro e w1 ⟨gx, rfl, hg1, hs1, hb1⟩
  have K1 := Lib.hid (And.intro hg1 (And.intro hs1 hb1)); clear hg1 hs1 hb1
  go_wp2_with fail
  refine (lentB_any HF.out n2 c2 B2 y a2 w1 H.out.2.1.2.1 (H.out.2.2.1.2.1.stay K1.out.1) (by omega)).mono ?_
  rintro e w2 ⟨gy, rfl, hg2, hs2, hb2⟩
  have K2 := Lib.hid (And.intro hg2 (And.intro hs2 hb2)); clear hg2 hs2 hb2
  go_wp2_with fail
  refine (lentB_any HF.out n3 c3 B3 z a3 w2 H.out.2.1.2.2 (H.out.2.2.1.2.2.stay (gb_trans K1.out.1 K2.out.1)) (by omega)).mono ?_
  rintro e w3 ⟨gz, rfl, hg3, hs3, hb3⟩
  have K3 := Lib.hid (And.intro hg3 (And.intro hs3 hb3)); clear hg3 hs3 hb3
  have hg13 := gb_trans K2.out.1 K3.out.1
  have hg03 := gb_trans K1.out.1 hg13
  have hbx := K1.out.2.2.grown hg13 (by simp)
  have hby := K2.out.2.2.grown K3.out.1 (by simp)
  have M := Lib.hid (And.intro hg03 (And.intro hbx (And.intro hby (And.intro K3.out.2.2 (And.intro K1.out.2.1 (And.intro (Nat.lt_of_lt_of_le K1.out.2.2.lt (Nat.le_refl _)) (And.intro K2.out.2.1 (And.intro K2.out.2.2.lt (And.intro K3.out.2.1 K3.out.2.2.lt)))))))))
  clear hg13 hg03 hbx hby K1 K2 K3
  have HM : Hid (∀ w', w3.grownBy w' none → Calls Tryz.prog 19 #[.slice (some ⟨gx, 0, none⟩) n1 (n1 + 12), .slice (some ⟨gy, 0, none⟩) n2 (n2 + 12), .slice (some ⟨gz, 0, none⟩) n3 (n3 + 12)] w' (YB (mulR x y z) w')) := fun w' hg =>
    mulG_any n1 n2 n3 _ _ _ _ _ _ _ _ _ x y z w' H.out.2.1.1 H.out.2.1.2.1 H.out.2.1.2.2 (lent_bytes (M.out.2.1.grown hg (by simp)) H.out.2.1.1 (by have := H.out.2.2.2; omega) H.out.2.2.1.1.byte) (lent_bytes (M.out.2.2.1.grown hg (by simp)) H.out.2.1.2.1 (by have := H.out.2.2.2; omega) H.out.2.2.1.2.1.byte) (lent_bytes (M.out.2.2.2.1.grown hg (by simp)) H.out.2.1.2.2 (by have := H.out.2.2.2; omega) H.out.2.2.1.2.2.byte) (H.out.1.stay (gb_trans M.out.1 hg))
  have HR : Hid (∀ w', w3.grownBy w' none → Calls Tryz.prog 20 #[.slice a1 n1 c1, .slice a2 n2 c2, .slice a3 n3 c3] w' (RB (mulR x y z) w')) := fun w' hg =>
    rmulG_any n1 n2 n3 _ _ _ _ _ _ _ _ _ x y z w' H.out.2.1.1 H.out.2.1.2.1 H.out.2.1.2.2 (H.out.2.2.1.1.stay (gb_trans M.out.1 hg)) (H.out.2.2.1.2.1.stay (gb_trans M.out.1 hg)) (H.out.2.2.1.2.2.stay (gb_trans M.out.1 hg))
  obtain ⟨R, hR⟩ : ∃ R, R = mulR x y z := ⟨_, rfl⟩
  have HRL : Hid (R.length ≤ 32 ∧ ∀ i, R.getD i 0 < 256) := by rw [hR]; exact ⟨mulR_len x y z, mulR_lt x y z⟩
  rw [← hR] at HM HR
  clear hR
  obtain ⟨rn, hrn⟩ : ∃ rn, rn = R.length := ⟨_, rfl⟩
  have HN := Lib.hid hrn.symm
  go_wp2_with fail
  refine (HM.out w3 (gb_refl _ _)).mono ?_
  intro e w4 h
  obtain ⟨a4, c4, rfl, hg4, ho4⟩ := h
  rw [← hrn] at ho4 ⊢
  have K4 := Lib.hid (And.intro hg4 ho4); clear hg4 ho4
  go_wp2_with fail
  refine (HM.out w4 K4.out.1).mono ?_
  intro e w5 h
  obtain ⟨a5, c5, rfl, hg5, ho5⟩ := h
  rw [← hrn] at ho5 ⊢
  have K5 := Lib.hid (And.intro hg5 ho5); clear hg5 ho5 HM
  go_wp2_with fail
  refine (HR.out w5 (gb_trans K4.out.1 K5.out.1)).mono ?_
  intro e w6 h
  obtain ⟨a6, c6, rfl, hg6, ho6⟩ := h
  rw [← hrn]
  have K6 := Lib.hid (And.intro hg6 ho6); clear hg6 ho6 HR
  have h46 := gb_trans K5.out.1 K6.out.1
  have hy4 : BytesAt w6 w4.heap.size a4 c4 R := by
    have h := K4.out.2
    rw [hrn] at h
    exact (YB.bytes HRL.out.2 h).stay h46
  have hsm := sameBytes_any w4.heap.size w6.heap.size rn rn c4 c6 a4 a6 R R w6 hrn.symm hrn.symm hy4 K6.out.2
  rw [decide_eq_true rfl] at hsm
  have HS := Lib.hid hsm
  clear hsm hy4 hrn
  go_wp2_with fail
  refine HS.out.mono ?_
  rintro e w7 ⟨rfl, hg7⟩
  have h37 := gb_trans (gb_trans K4.out.1 h46) hg7
  have K7 := Lib.hid hg7
  have G7 := Lib.hid (And.intro h37 (gb_trans h46 hg7)); clear h37 h46 hg7 HS
  go_wp2_with fail
  refine (keptB_any HF.out n1 c1 B1 gx x a1 w7 H.out.2.1.1 (H.out.2.2.1.1.stay (gb_trans M.out.1 G7.out.1)) (by omega) (M.out.2.1.grown G7.out.1 (by simp))).mono ?_
  rintro e w8 ⟨rfl, hg8⟩
  have G8 := Lib.hid (gb_trans G7.out.1 hg8)
  have N8 := Lib.hid hg8; clear hg8
  go_wp2_with fail
  refine (keptB_any HF.out n2 c2 B2 gy y a2 w8 H.out.2.1.2.1 (H.out.2.2.1.2.1.stay (gb_trans M.out.1 G8.out)) (by omega) (M.out.2.2.1.grown G8.out (by simp))).mono ?_
  rintro e w9 ⟨rfl, hg9⟩
  have G9 := Lib.hid (gb_trans G8.out hg9)
  have N9 := Lib.hid (gb_trans N8.out hg9); clear hg9
  go_wp2_with fail
  refine (keptB_any HF.out n3 c3 B3 gz z a3 w9 H.out.2.1.2.2 (H.out.2.2.1.2.2.stay (gb_trans M.out.1 G9.out)) (by omega) (M.out.2.2.2.1.grown G9.out (by simp))).mono ?_
  rintro e w10 ⟨rfl, hg10⟩
  have h310 := gb_trans G9.out hg10
  have h410 := gb_trans G7.out.2 (gb_trans N9.out hg10)
  have h510 : w5.grownBy w10 none := by
    have h57 : w5.grownBy w7 none := gb_trans K6.out.1 K7.out
    exact gb_trans h57 (gb_trans N9.out hg10)
  have o4 : w10.ownsRow w.heap.size 5 1 (.slice a4 rn c4) rn (R.map u8N) := own_down (own_kept K4.out.2 h410) M.out.1.size
  have o5 : w10.ownsRow w.heap.size 5 1 (.slice a5 rn c5) rn (R.map u8N) := own_down (own_kept K5.out.2 h510) (Nat.le_trans M.out.1.size K4.out.1.size)
  have sz1 := M.out.2.2.2.2.1
  have sz2 := M.out.2.2.2.2.2.1
  have sz3 := M.out.2.2.2.2.2.2.1
  have sz4 := M.out.2.2.2.2.2.2.2.1
  have sz5 := M.out.2.2.2.2.2.2.2.2.1
  have sz6 := M.out.2.2.2.2.2.2.2.2.2
  have ox := lent_own (M.out.2.1.grown h310 (by simp)) H.out.2.1.1 (show w.heap.size ≤ gx by omega) (by have := H.out.2.2.2; omega)
  have oy := lent_own (M.out.2.2.1.grown h310 (by simp)) H.out.2.1.2.1 (show w.heap.size ≤ gy by omega) (by have := H.out.2.2.2; omega)
  have oz := lent_own (M.out.2.2.2.1.grown h310 (by simp)) H.out.2.1.2.2 (show w.heap.size ≤ gz by omega) (by have := H.out.2.2.2; omega)
  have b4 : Br (a4, rn, c4, R.map u8N) w3.heap.size w4.heap.size := fun g e => K4.out.2.lt g e
  have b5 : Br (a5, rn, c5, R.map u8N) w4.heap.size w5.heap.size := fun g e => K5.out.2.lt g e
  have bx := br_lent gx n1 (n1 + 12) (x.map u8N)
  have by' := br_lent gy n2 (n2 + 12) (y.map u8N)
  have bz := br_lent gz n3 (n3 + 12) (z.map u8N)
  have hrl := HRL.out.1
  have hnn := HN.out
  have hn3 := H.out.2.2.2
  have hO := outs_lit w10 w.heap.size 5 [(a4, rn, c4, R.map u8N), (a5, rn, c5, R.map u8N), (some ⟨gx, 0, none⟩, n1, n1 + 12, x.map u8N), (some ⟨gy, 0, none⟩, n2, n2 + 12, y.map u8N), (some ⟨gz, 0, none⟩, n3, n3 + 12, z.map u8N)] rfl
    (fun p hp => by
      simp only [List.mem_cons, List.not_mem_nil, or_false] at hp
      rcases hp with rfl | rfl | rfl | rfl | rfl
      · exact ⟨o4, by show rn ≤ _; omega⟩
      · exact ⟨o5, by show rn ≤ _; omega⟩
      · exact ⟨ox, by show n1 ≤ _; omega⟩
      · exact ⟨oy, by show n2 ≤ _; omega⟩
      · exact ⟨oz, by show n3 ≤ _; omega⟩)
    (by
      have d1 := fun q (hq : q ∈ [(a5, rn, c5, R.map u8N), (some (⟨gx, 0, none⟩ : Addr), n1, n1 + 12, x.map u8N), (some ⟨gy, 0, none⟩, n2, n2 + 12, y.map u8N), (some ⟨gz, 0, none⟩, n3, n3 + 12, z.map u8N)]) => (by
        simp only [List.mem_cons, List.not_mem_nil, or_false] at hq
        rcases hq with rfl | rfl | rfl | rfl
        · exact br_apart b4 b5 (by omega)
        · exact br_apart b4 bx (by omega)
        · exact br_apart b4 by' (by omega)
        · exact br_apart b4 bz (by omega) : (rv (a4, rn, c4, R.map u8N)).ownBlock = none ∨ (rv (a4, rn, c4, R.map u8N)).ownBlock ≠ (rv q).ownBlock)
      have hs4 := K4.out.1.size
      have d2 := fun q (hq : q ∈ [(some (⟨gx, 0, none⟩ : Addr), n1, n1 + 12, x.map u8N), (some ⟨gy, 0, none⟩, n2, n2 + 12, y.map u8N), (some ⟨gz, 0, none⟩, n3, n3 + 12, z.map u8N)]) => (by
        simp only [List.mem_cons, List.not_mem_nil, or_false] at hq
        rcases hq with rfl | rfl | rfl
        · exact br_apart b5 bx (by omega)
        · exact br_apart b5 by' (by omega)
        · exact br_apart b5 bz (by omega) : (rv (a5, rn, c5, R.map u8N)).ownBlock = none ∨ (rv (a5, rn, c5, R.map u8N)).ownBlock ≠ (rv q).ownBlock)
      have d3 := fun q (hq : q ∈ [(some (⟨gy, 0, none⟩ : Addr), n2, n2 + 12, y.map u8N), (some ⟨gz, 0, none⟩, n3, n3 + 12, z.map u8N)]) => (by
        simp only [List.mem_cons, List.not_mem_nil, or_false] at hq
        rcases hq with rfl | rfl
        · exact br_apart bx by' (by omega)
        · exact br_apart bx bz (by omega) : (rv (some ⟨gx, 0, none⟩, n1, n1 + 12, x.map u8N)).ownBlock = none ∨ (rv (some ⟨gx, 0, none⟩, n1, n1 + 12, x.map u8N)).ownBlock ≠ (rv q).ownBlock)
      have d4 := fun q (hq : q ∈ [(some (⟨gz, 0, none⟩ : Addr), n3, n3 + 12, z.map u8N)]) => (by
        simp only [List.mem_cons, List.not_mem_nil, or_false] at hq
        rcases hq with rfl
        exact br_apart by' bz (by omega) : (rv (some ⟨gy, 0, none⟩, n2, n2 + 12, y.map u8N)).ownBlock = none ∨ (rv (some ⟨gy, 0, none⟩, n2, n2 + 12, y.map u8N)).ownBlock ≠ (rv q).ownBlock)
      exact List.pairwise_cons.2 ⟨d1, List.pairwise_cons.2 ⟨d2, List.pairwise_cons.2 ⟨d3, List.pairwise_cons.2 ⟨d4, List.pairwise_cons.2 ⟨fun q hq => (by cases hq), List.Pairwise.nil⟩⟩⟩⟩⟩)
    (gb_trans M.out.1 h310).size (by decide)
  have hap := apart_all HF.out w _ _ w.heap.size _ hO (Nat.le_refl _) (gb_alloc (gb_trans M.out.1 h310) _) (by simp) (by simp)
  have hap' : Calls Tryz.prog 17 #[.slice (some ⟨w10.heap.size, 0, none⟩) 5 5] (w10.alloc (.cells #[.slice a4 rn c4, .slice a5 rn c5, .slice (some ⟨gx, 0, none⟩) n1 (n1 + 12), .slice (some ⟨gy, 0, none⟩) n2 (n2 + 12), .slice (some ⟨gz, 0, none⟩) n3 (n3 + 12)] 22)) fun e w' => e = .returned (.bool true) ∧ w.grownBy w' none := hap
  have HAP := Lib.hid hap'
  clear hg10 h310 h410 h510 o4 o5 sz1 sz2 sz3 sz4 sz5 sz6 ox oy oz b4 b5 bx by' bz hrl hnn hn3 hO hap hap'
  go_wp2_with fail
  refine HAP.out.mono ?_
  rintro e w11 ⟨rfl, hg11⟩
  have G11 := Lib.hid hg11; clear hg11
  go_wp2_with fail
  refine (awake_any w11 (H.out.1.stay G11.out)).mono ?_
  rintro e w12 ⟨rfl, hg12⟩
  have G12 := Lib.hid (gb_trans G11.out hg12); clear hg12
  go_wp2
  go_ret
  exact ⟨rfl, G12.out⟩
theorem muls_any {f : Nat → Nat → Nat} (hf : Marks f) (n1 n2 n3 c1 c2 c3 B1 B2 B3 : Nat) (a1 a2 a3 : Option Addr) (x y z : List Nat) (w : World) (hT : OTab w)
    (h1 : x.length = n1) (h2 : y.length = n2) (h3 : z.length = n3) (hA : BytesAt w B1 a1 c1 x) (hB : BytesAt w B2 a2 c2 y) (hC : BytesAt w B3 a3 c3 z) :
    Calls Tryz.prog 4 #[.slice a1 n1 c1, .slice a2 n2 c2, .slice a3 n3 c3] w fun e w' => e = .returned (.bool true) ∧ w.grownBy w' none := by
  by_cases h : n1 ≤ 100 ∧ n2 ≤ 100 ∧ n3 ≤ 100
  · exact muls_small hf n1 n2 n3 c1 c2 c3 B1 B2 B3 a1 a2 a3 x y z w hT h.1 h.2.1 h.2.2 h1 h2 h3 hA hB hC
  · exact muls_great n1 n2 n3 c1 c2 c3 a1 a2 a3 w hT h
end Sr
end Go.Proofs.YtmnlidfalhjghaaGreatDoor
