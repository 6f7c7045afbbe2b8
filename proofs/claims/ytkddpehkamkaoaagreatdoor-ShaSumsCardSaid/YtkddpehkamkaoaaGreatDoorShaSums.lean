/- The law on the digest of any parts. -/
import Derived.Test.YtkddpehkamkaoaaGreatDoorShaPartOf
import Derived.Test.YtkddpehkamkaoaaGreatDoorShaLaid
import Derived.Test.YtkddpehkamkaoaaGreatDoorKeptRows
import Derived.Test.YtkddpehkamkaoaaGreatDoorApart2
namespace Go.Proofs.YtkddpehkamkaoaaGreatDoor
open Go.RowKit Ow
theorem drewN_gb (w : World) (q : Nat) : w.grownBy (w.drewN q) none := ⟨rfl, rfl, rfl, Nat.le_refl _, fun _ _ _ => rfl⟩
theorem len_joined {ps : List Part} {p : Part} (h : p ∈ ps) : p.l.length ≤ (joined ps).length := by
  induction ps with
  | nil => cases h
  | cons q ps ih =>
    have e : joined (q :: ps) = q.l ++ joined ps := by simp [joined]
    rw [e, List.length_append]
    rcases List.mem_cons.1 h with rfl | h
    · omega
    · have := ih h; omega
abbrev p0 : Part := ⟨none, 0, []⟩
theorem parts_in {w : World} {a : Option Addr} {cap : Nat} {ps : List Part} (h : PartsAt w w.heap.size a cap ps) : RowsIn w a (fun i => (ps.getD i p0).a) (fun i => (ps.getD i p0).cap) (ps.map Part.l) := by
  have hg : ∀ i (hi : i < ps.length), ps.getD i p0 = ps[i] := fun i hi => by rw [List.getD_eq_getElem?_getD, List.getElem?_eq_getElem hi]; rfl
  have hl : ∀ i (hi : i < ps.length), (ps.map Part.l).getD i [] = ps[i].l := fun i hi => by rw [List.getD_eq_getElem?_getD, List.getElem?_map, List.getElem?_eq_getElem hi]; rfl
  refine ⟨?_, fun i hi => ?_⟩
  · rcases h.cells with h0 | ⟨pb, po, e, _, hlt, hc⟩
    · exact Or.inl (by rw [List.length_map]; exact h0)
    · refine Or.inr ⟨pb, po, e, hlt, fun i hi => ?_⟩
      rw [List.length_map] at hi
      have := hc i hi
      rw [hl i hi, hg i hi]; exact this
  · rw [List.length_map] at hi
    have hp := h.parts ps[i] (List.getElem_mem hi)
    rw [hl i hi, hg i hi]
    exact bytes_of hp.1 hp.2
/-- lent rows are parts again -/
theorem lent_parts {f : Nat → Nat → Nat} {w0 w : World} {G m : Nat} {vs : List Value} {L : List (List Nat)} (hm : L.length = m) (hb : Blk w G 26 vs) (h : LentAt f w0 w G m 12 vs L) (hbyte : ∀ l ∈ L, ∀ i, l.getD i 0 < 256) (hlen : ∀ l ∈ L, l.length ≤ 100000) :
    ∃ ps : List Part, ps.length = m ∧ ps.map Part.l = L ∧ PartsAt w w.heap.size (some ⟨G, 0, none⟩) (m + 12) ps := by
  have each : ∀ i, i < m → ∃ g, vs[i]? = some (.slice (some ⟨g, 0, none⟩) (L.getD i []).length ((L.getD i []).length + 12)) ∧ Blk w g 5 ((L.getD i [] ++ marksOf f 1 12).map u8N) := fun i hi => by
    obtain ⟨g, e, _, _, hbk⟩ := h.rows i hi
    exact ⟨g, e, hbk⟩
  have hmem : ∀ i, i < m → L.getD i [] ∈ L := fun i hi => by
    rw [List.getD_eq_getElem?_getD, List.getElem?_eq_getElem (by omega)]; exact List.getElem_mem _
  obtain ⟨g, hg⟩ : ∃ g : Nat → Nat, ∀ i, i < m → vs[i]? = some (.slice (some ⟨g i, 0, none⟩) (L.getD i []).length ((L.getD i []).length + 12)) ∧ Blk w (g i) 5 ((L.getD i [] ++ marksOf f 1 12).map u8N) :=
    ⟨fun i => if hi : i < m then (each i hi).choose else 0, fun i hi => by simp only [dif_pos hi]; exact (each i hi).choose_spec⟩
  refine ⟨(List.range m).map fun i => ⟨some ⟨g i, 0, none⟩, (L.getD i []).length + 12, L.getD i []⟩, by simp, ?_, by simp, fun p hp => ?_, ?_⟩
  · apply List.ext_getElem?
    intro i
    by_cases hi : i < m
    · rw [List.getElem?_map, List.getElem?_map, List.getElem?_range hi, List.getElem?_eq_getElem (by omega)]
      simp only [Option.map_some]
      rw [List.getD_eq_getElem?_getD, List.getElem?_eq_getElem (by omega)]; rfl
    · rw [List.getElem?_eq_none (by simp; omega), List.getElem?_eq_none (by omega)]
  · obtain ⟨i, hi, rfl⟩ := List.mem_map.1 hp
    have hi := List.mem_range.1 hi
    have hb1 : BytesAt w w.heap.size (some ⟨g i, 0, none⟩) ((L.getD i []).length + 12) (L.getD i []) := by
      have := hlen _ (hmem i hi)
      exact blk_bytes (tl := (marksOf f 1 12).map u8N) (by rw [← List.map_append]; exact (hg i hi).2) rfl (by omega) (by omega) (hbyte _ (hmem i hi)) ((hg i hi).2).lt (Nat.le_refl _)
    exact ⟨part_below hb1 (Nat.le_refl _), by show (L.getD i []).length + 12 < _; have := hlen _ (hmem i hi); omega⟩
  · by_cases h0 : m = 0
    · left; simp [h0]
    · refine Or.inr ⟨G, 0, rfl, by have := hb.lt; omega, hb.lt, fun i hi => ?_⟩
      simp only [List.length_map, List.length_range] at hi
      simp only [List.getElem_map, List.getElem_range]
      rw [Nat.zero_add]
      exact hb.cell (hg i hi).1
theorem sum_bytes {N : Nat} {D : List Nat} {w : World} (hD : D.length = 64) (hb : ∀ i, D.getD i 0 < 256) (h : Blk w N 5 (D.map u8V)) : BytesAt w w.heap.size (some ⟨N, 0, none⟩) 64 D :=
  blk_bytes (tl := []) (by rw [List.append_nil]; exact h) hD (Nat.le_refl _) (by decide) hb h.lt (Nat.le_refl _)
theorem same_sum {N N' c : Nat} {D : List Nat} {w : World} (hD : D.length = 64) (hb : ∀ i, D.getD i 0 < 256) (h1 : Blk w N 5 (D.map u8V)) (h2 : BytesAt w w.heap.size (some ⟨N', 0, none⟩) c D) :
    Calls Tryz.prog 8 #[.slice (some ⟨N, 0, none⟩) 64 64, .slice (some ⟨N', 0, none⟩) 64 c] w fun e w' => e = .returned (.bool true) ∧ w.grownBy w' none := by
  have h := sameBytes_any w.heap.size w.heap.size 64 64 64 c (some ⟨N, 0, none⟩) (some ⟨N', 0, none⟩) D D w hD hD (sum_bytes hD hb h1) h2
  rw [show decide (D = D) = true from decide_eq_true rfl] at h
  exact h
set_option linter.unusedSimpArgs false
set_option maxRecDepth 100000 in
set_option maxHeartbeats 4000000 in
theorem shaSums_any {f : Nat → Nat → Nat} (hf : Marks f) (m cap : Nat) (a : Option Addr) (ps : List Part) (w : World) (hT : Tables w) (hm : ps.length = m) (hP : PartsAt w w.heap.size a cap ps) :
    Calls Tryz.prog 3 #[.slice a m cap] w fun e w' => e = .returned (.bool true) ∧ w.grownBy w' none := by
  obtain ⟨Q, hQ⟩ : ∃ Q : Ending → World → Prop, Q = fun e w' => e = .returned (.bool true) ∧ w.grownBy w' none := ⟨_, rfl⟩
  rw [← hQ]
  have HQ : Hid (∀ w', w.grownBy w' none → Q (.returned (.bool true)) w') := fun w' hg => by rw [hQ]; exact ⟨rfl, hg⟩
  clear hQ
  have HF := Lib.hid hf
  have HW := Lib.hid (awake_any w hT)
  have H : Hid (ps.length = m ∧ (∀ w', w.grownBy w' none → PartsAt w' w'.heap.size a cap ps ∧ Tables w')) := ⟨hm, fun w' hg => ⟨hP.grown hg hg.size, hT.kept hg (by simp)⟩⟩
  clear hf hT hm hP
  go_enter Tryz.func3, Tryz.ntmps3
  go_wp2_with fail
  refine HW.out.mono ?_
  rintro e w1 ⟨rfl, hg1⟩
  have HSM := Lib.hid (small_any m cap w1.heap.size ps a w1 H.out.1 (H.out.2 w1 hg1).1)
  have HG1 := Lib.hid hg1; clear hg1 HW
  go_wp2_with fail
  refine HSM.out.mono ?_
  rintro e w2 ⟨b, rfl, hb, k, rfl⟩
  obtain ⟨w2, hw2⟩ : ∃ w2, w2 = w1.drewN k := ⟨_, rfl⟩
  have HG2 := Lib.hid (gb_trans HG1.out (drewN_gb w1 k))
  rw [← hw2] at HG2 ⊢
  clear hw2 HSM HG1
  cases b with
  | false =>
    have HE := Lib.hid (HQ.out _ HG2.out)
    go_wp2
    exact HE.out
  | true =>
    obtain ⟨h40, h3000⟩ := hb rfl
    clear hb
    have hin := parts_in (H.out.2 w2 HG2.out).1
    have hbyte : ∀ l ∈ ps.map Part.l, ∀ i, l.getD i 0 < 256 := fun l hl => by
      obtain ⟨p, hp, rfl⟩ := List.mem_map.1 hl
      exact ((H.out.2 w2 HG2.out).1.parts p hp).1.byte
    have hlen : ∀ l ∈ ps.map Part.l, l.length ≤ 3000 := fun l hl => by
      obtain ⟨p, hp, rfl⟩ := List.mem_map.1 hl
      have := len_joined hp; omega
    have hlm : (ps.map Part.l).length = m := by rw [List.length_map]; exact H.out.1
    have hat : ∀ i, i < m → ((ps.map Part.l).getD i []).length ≤ 30000 := fun i hi => by
      have := hlen ((ps.map Part.l).getD i []) (by rw [List.getD_eq_getElem?_getD, List.getElem?_eq_getElem (by omega)]; exact List.getElem_mem _)
      omega
    have HLN := Lib.hid (lentR_any HF.out m cap a _ _ (ps.map Part.l) w2 hlm hin hat (by omega))
    have HJ : Hid ((joined ps).length ≤ 3000) := h3000
    have HB := Lib.hid (And.intro hbyte (And.intro hlen (And.intro hlm hat)))
    clear hin hbyte hlen hlm hat h3000
    go_wp2_with fail
    refine HLN.out.mono ?_
    rintro e w3 ⟨G, vs, rfl, hg3, hG, hbk, hla⟩
    obtain ⟨ps2, hp2m, hp2l, hp2⟩ := lent_parts HB.out.2.2.1 hbk hla HB.out.1 (fun l hl => by have := HB.out.2.1 l hl; omega)
    have hjj : joined ps2 = joined ps := by
      unfold joined
      rw [List.flatMap_def, List.flatMap_def, hp2l]
    have HK : Hid (∀ w', w3.grownBy w' none → Calls Tryz.prog 11 #[.slice (some ⟨G, 0, none⟩) m (m + 12), .slice a m cap] w' fun e w'' => e = .returned (.bool true) ∧ w'.grownBy w'' none) := fun w' hg =>
      keptR_any HF.out m cap G a _ _ (ps.map Part.l) vs w2 w' HB.out.2.2.1 (parts_in (H.out.2 w' (gb_trans HG2.out (gb_trans hg3 hg))).1) HB.out.2.2.2 (by omega) (hbk.grown hg (by simp)) (hla.stay hg)
    have HS : Hid (∀ w', w3.grownBy w' none → Calls Tryz.prog 7 #[.slice (some ⟨G, 0, none⟩) m (m + 12)] w' fun e w'' => ∃ NB, e = .returned (.slice (some ⟨NB, 0, none⟩) 64 64) ∧ w'.grownBy w'' none ∧ w'.heap.size ≤ NB ∧ Blk w'' NB 5 ((Sha.sum (joined ps)).map u8V)) := fun w' hg => by
      have h := sum_any m (m + 12) w'.heap.size ps2 (some ⟨G, 0, none⟩) w' hp2m (H.out.2 w' (gb_trans HG2.out (gb_trans hg3 hg))).2 (hp2.grown hg hg.size) (by omega) (by rw [hjj]; have := HJ.out; omega)
      rw [hjj] at h
      exact h
    have HG3 := Lib.hid (gb_trans HG2.out hg3)
    obtain ⟨c0, hc0⟩ : ∃ c0, c0 = m + 12 := ⟨_, rfl⟩
    rw [← hc0] at HK HS ⊢
    clear hg3 hG hbk hla hp2m hp2l hp2 hjj hc0 HLN HB
    obtain ⟨D, hD⟩ : ∃ D, D = Sha.sum (joined ps) := ⟨_, rfl⟩
    have HDL : Hid (D.length = 64 ∧ ∀ i, D.getD i 0 < 256) := by rw [hD]; exact ⟨rfl, sum_byte _⟩
    rw [← hD] at HS
    have HRS : Hid (∀ n l (a : Option Addr) (cap B : Nat) (w : World), l.length = n → l = joined ps → PartAt w B a cap l → n < 2147483000 → Calls Tryz.prog 9 #[.slice a n cap] w fun e w' => ∃ g c, e = .returned (.slice (some ⟨g, 0, none⟩) 64 c) ∧ w.grownBy w' none ∧ w'.ownsRow w.heap.size 5 1 (.slice (some ⟨g, 0, none⟩) 64 c) 64 (D.map u8V)) := fun n l a cap B w h1 h2 h3 h4 => by
      have h := refSum_any n cap B l a w h1 h3 h4
      rw [h2, ← hD] at h
      exact h
    clear hD
    go_wp2_with fail
    refine (HS.out w3 (gb_refl _ _)).mono ?_
    rintro e w4 ⟨N1, rfl, hg4, hn1, hb1⟩
    have H4 := Lib.hid (And.intro hg4 (And.intro hn1 hb1)); clear hg4 hn1 hb1
    go_wp2_with fail
    refine (HS.out w4 H4.out.1).mono ?_
    rintro e w5 ⟨N2, rfl, hg5, hn2, hb2⟩
    have H5 := Lib.hid (And.intro hg5 (And.intro hn2 hb2)); clear hg5 hn2 hb2 HS
    have hg35 := gb_trans H4.out.1 H5.out.1
    have HTG := Lib.hid (together_any m cap w5.heap.size ps a w5 H.out.1 (H.out.2 w5 (gb_trans HG3.out hg35)).1 h40 HJ.out)
    clear hg35
    go_wp2_with fail
    refine HTG.out.mono ?_
    rintro e w6 ⟨vt, rfl, hg6, ho6⟩
    obtain ⟨aT, cT, rfl, _, hpT⟩ := own_part ho6 rfl (joined_byte ps fun p hp => ((H.out.2 w2 HG2.out).1.parts p hp).1.byte)
    have hj3 := HJ.out
    have HR := Lib.hid (HRS.out (joined ps).length (joined ps) aT cT w6.heap.size w6 rfl rfl (hpT _ (Nat.le_refl _)) (by omega))
    have HG6 := Lib.hid hg6
    clear hg6 ho6 hpT HTG HRS hj3
    generalize (joined ps).length = jn at *
    go_wp2_with fail
    refine HR.out.mono ?_
    rintro e w7 ⟨g7, c7, rfl, hg7, ho7⟩
    have HG7 := Lib.hid (gb_trans HG6.out hg7)
    have HY := Lib.hid (fun (N c : Nat) (w' : World) (hg : w7.grownBy w' none) (h1 : BytesAt w' w'.heap.size (some ⟨N, 0, none⟩) c D) => same_sum HDL.out.1 HDL.out.2 (H4.out.2.2.grown (gb_trans H5.out.1 (gb_trans HG7.out hg)) (by simp)) h1)
    obtain ⟨a7, c8, e7, hc7, hp7⟩ := own_part ho7 HDL.out.1 HDL.out.2
    simp only [Value.slice.injEq, true_and] at e7
    obtain ⟨rfl, rfl⟩ := e7
    have HY1 := Lib.hid (HY.out g7 c7 w7 (gb_refl _ _) (bytes_of (hp7 _ (Nat.le_refl _)) hc7))
    clear hg7 ho7 hp7 HR
    go_wp2_with fail
    refine HY1.out.mono ?_
    rintro e w8 ⟨rfl, hg8⟩
    have HG8 := Lib.hid hg8
    have HY2 := Lib.hid (HY.out N2 64 w8 hg8 (sum_bytes HDL.out.1 HDL.out.2 (H5.out.2.2.grown (gb_trans HG7.out hg8) (by simp))))
    clear hg8 HY1 HY
    go_wp2_with fail
    refine HY2.out.mono ?_
    rintro e w9 ⟨rfl, hg9⟩
    have HG9 := Lib.hid (gb_trans HG7.out (gb_trans HG8.out hg9))
    clear hg9 HY2 HG8 HG7 HG6
    go_wp2_with fail
    refine (HK.out w9 (gb_trans H4.out.1 (gb_trans H5.out.1 HG9.out))).mono ?_
    rintro e w10 ⟨rfl, hg10⟩
    have own_of : ∀ (N : Nat) (w' : World) (b : Nat), b ≤ N → Blk w' N 5 (D.map u8V) → w'.ownsRow b 5 1 (.slice (some ⟨N, 0, none⟩) 64 64) 64 (D.map u8V) := fun N w' b hb hbk =>
      ⟨by rw [List.length_map, HDL.out.1], Or.inr ⟨N, 64, (D.map u8V).toArray, rfl, hb, hbk, Nat.le_refl _, by decide, by simp [HDL.out.1], List.take_of_length_le (by simp [HDL.out.1])⟩⟩
    have hg510 := gb_trans HG9.out hg10
    have hg410 := gb_trans H5.out.1 hg510
    have HAP := Lib.hid (apart2 HF.out w w10 (.slice (some ⟨N1, 0, none⟩) 64 64) (.slice (some ⟨N2, 0, none⟩) 64 64) w3.heap.size 64 64 (D.map u8V) (D.map u8V) HG3.out.size (gb_trans HG3.out (gb_trans H4.out.1 hg410)) (own_of N1 w10 _ H4.out.2.1 (H4.out.2.2.grown hg410 (by simp))) (own_of N2 w10 _ (Nat.le_trans H4.out.1.size H5.out.2.1) (H5.out.2.2.grown hg510 (by simp))) (Or.inr (by
      simp only [Value.ownBlock, ne_eq, Option.some.injEq]
      have h2 := H4.out.2.2.lt; have h3 := H5.out.2.1; omega)) ⟨by omega, by omega⟩)
    clear hg10 hg410 hg510 own_of HK
    go_wp2_with fail
    refine HAP.out.mono ?_
    rintro e w11 ⟨rfl, hg11⟩
    have HE := Lib.hid (HQ.out _ hg11)
    clear hg11
    go_wp2
    exact HE.out
end Go.Proofs.YtkddpehkamkaoaaGreatDoor
