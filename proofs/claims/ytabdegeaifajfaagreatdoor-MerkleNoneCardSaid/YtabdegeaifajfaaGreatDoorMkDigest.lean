/- merkle: digest. -/
import Derived.Test.YtabdegeaifajfaaGreatDoorMkVals
import Derived.Test.YtabdegeaifajfaaGreatDoorShaLawKit
import Derived.Test.YtabdegeaifajfaaGreatDoorPart
import Derived.Test.YtabdegeaifajfaaGreatDoorFlowS
import Derived.Deep.Cut
import Derived.Laws.ResultCell
namespace Go.Proofs.YtabdegeaifajfaaGreatDoor
open Go.RowKit Ow
namespace Mk
theorem own_parts {w : World} {base : Nat} {v : Value} {ps : List Part} (ho : OwnV w base v (ps.map Part.v)) (h0 : 0 < ps.length) (hp : ∀ p ∈ ps, PartAt w w.heap.size p.a p.cap p.l ∧ p.cap < 9223372036854775808) :
    ∃ g c, v = .slice (some ⟨g, 0, none⟩) ps.length c ∧ c < 9223372036854775808 ∧ PartsAt w w.heap.size (some ⟨g, 0, none⟩) c ps := by
  unfold OwnV at ho
  rw [List.length_map] at ho
  obtain ⟨g, c, rfl, hb, hc, hm, hlt⟩ := own_some ho h0
  refine ⟨g, c, rfl, by unfold maxLen at hm; omega, hc, hp, Or.inr ⟨g, 0, rfl, by omega, hlt, fun i hi => ?_⟩⟩
  rw [Nat.zero_add]
  exact own_cell ho (by rw [List.getElem?_map, List.getElem?_eq_getElem hi]; rfl)
theorem parts_row {w : World} {B cap : Nat} {a : Option Addr} {ps : List Part} (h : PartsAt w B a cap ps) {B' : Nat} (hB : w.heap.size ≤ B') : VRow w B' a (ps.map Part.v) := by
  rcases h.cells with h0 | ⟨pb, po, e, _, hl, hc⟩
  · exact Or.inl (by rw [List.length_map]; exact h0)
  · exact Or.inr ⟨pb, po, e, by omega, fun i hi => by rw [List.getElem_map]; exact hc i (by rw [List.length_map] at hi; exact hi)⟩
theorem one_byte {m : Nat} (hm : m < 256) (i : Nat) : [m].getD i 0 < 256 := by
  rcases i with _ | i
  · exact hm
  · show (0 : Nat) < 256; decide
theorem part_v_one (p : Part) : p.v.oneCell' = true := rfl
set_option maxRecDepth 100000 in
set_option maxHeartbeats 1600000 in
theorem digest_any (m n cap : Nat) (ps : List Part) (a : Option Addr) (w : World) (hm : m < 256) (hn : ps.length = n) (hT : Tables w) (hP : PartsAt w w.heap.size a cap ps) (hnil : a = none → cap = 0) (hlen : (joined ps).length < 2147480000) (hn2 : n ≤ 100000) :
    Calls Tryz.prog 41 #[.int .u8 m, .slice a n cap] w fun e w' => ∃ NB, e = .returned (.slice (some ⟨NB, 0, none⟩) 64 64) ∧ w.grownBy w' none ∧ w.heap.size ≤ NB ∧ Blk w' NB 5 ((Sha.sum (m :: joined ps)).map u8V) := by
  have HT := Lib.hid hT; clear hT
  obtain ⟨wA, hA⟩ : ∃ wA, wA = w.alloc (.cells #[.int .u8 m] 5) := ⟨_, rfl⟩
  obtain ⟨wB, hB⟩ : ∃ wB, wB = wA.alloc (.cells #[.slice (some ⟨w.heap.size, 0, none⟩) 1 1] 34) := ⟨_, rfl⟩
  obtain ⟨wC, hC⟩ : ∃ wC, wC = wB.alloc (.cells #[.slice (some ⟨wA.heap.size, 0, none⟩) 1 1, .slice a n cap] 110) := ⟨_, rfl⟩
  have gA : w.grownBy wA none := hA ▸ gb_alloc (gb_refl w none) _
  have gB : wA.grownBy wB none := hB ▸ gb_alloc (gb_refl wA none) _
  have gC : wB.grownBy wC none := hC ▸ gb_alloc (gb_refl wB none) _
  have bA : Blk wA w.heap.size 5 [.int .u8 m] := hA ▸ Blk.new w _ _
  have bB : Blk wB wA.heap.size 34 [.slice (some ⟨w.heap.size, 0, none⟩) 1 1] := hB ▸ Blk.new wA _ _
  have bC : Blk wC wB.heap.size 110 [.slice (some ⟨wA.heap.size, 0, none⟩) 1 1, .slice a n cap] := hC ▸ Blk.new wB _ _
  have gAC := gb_trans gB gC
  have g0C := gb_trans gA gAC
  have p1 : PartAt wC wC.heap.size (some ⟨w.heap.size, 0, none⟩) 1 [m] := ⟨Nat.le_refl _, one_byte hm, Or.inr ⟨w.heap.size, 0, rfl, by have := (bA.grown gAC (by simp)).lt; omega, (bA.grown gAC (by simp)).lt, fun i hi => by
    obtain rfl : i = 0 := by simpa using hi
    exact (bA.grown gAC (by simp)).cell rfl⟩⟩
  have hPC := hP.grown g0C (B' := wC.heap.size) g0C.size
  obtain ⟨qs, hqs⟩ : ∃ qs : List Part, qs = ⟨some ⟨w.heap.size, 0, none⟩, 1, [m]⟩ :: ps := ⟨_, rfl⟩
  have hR : VRows wC wC.heap.size (some ⟨wB.heap.size, 0, none⟩) [(some ⟨wA.heap.size, 0, none⟩, 1, [.slice (some ⟨w.heap.size, 0, none⟩) 1 1]), (a, cap, ps.map Part.v)] := by
    refine ⟨Nat.le_refl _, Or.inr ⟨wB.heap.size, 0, rfl, bC.lt, fun i hi => ?_⟩, fun p hp => ?_⟩
    · have hi2 : i < 2 := by simpa using hi
      rcases (by omega : i = 0 ∨ i = 1) with rfl | rfl
      · exact bC.cell rfl
      · refine (bC.cell (i := 1) rfl).trans ?_
        show some (Value.slice a n cap) = some (Value.slice a (ps.map Part.v).length cap)
        rw [List.length_map, hn]
    · rcases List.mem_cons.1 hp with rfl | hp
      · refine ⟨Or.inr ⟨wA.heap.size, 0, rfl, (bB.grown gC (by simp)).lt, fun i hi => ?_⟩, fun v hv => ?_, fun h => by cases h⟩
        · obtain rfl : i = 0 := by simpa using hi
          exact (bB.grown gC (by simp)).cell rfl
        · rw [List.mem_singleton.1 hv]; rfl
      · rw [List.mem_singleton.1 hp]
        refine ⟨parts_row hPC (Nat.le_refl _), fun v hv => ?_, hnil⟩
        obtain ⟨q, _, rfl⟩ := List.mem_map.1 hv
        exact part_v_one q
  have hcat : catV [(some ⟨wA.heap.size, 0, none⟩, 1, [Value.slice (some ⟨w.heap.size, 0, none⟩) 1 1]), (a, cap, ps.map Part.v)] = qs.map Part.v := by
    rw [hqs]; simp [catV, Part.v]
  have hql : qs.length = n + 1 := by rw [hqs, List.length_cons, hn]
  have hqj : joined qs = m :: joined ps := by rw [hqs]; simp [joined]
  have hcc := concatV_any 2 2 wC.heap.size _ _ wC rfl hR (by decide) (by rw [hcat, List.length_map, hql]; omega)
  rw [hcat] at hcc
  have hqP : ∀ w', wC.grownBy w' none → ∀ p ∈ qs, PartAt w' w'.heap.size p.a p.cap p.l ∧ p.cap < 9223372036854775808 := fun w' hg p hp => by
    rw [hqs] at hp
    have key : ∀ q : Part, PartAt wC wC.heap.size q.a q.cap q.l → PartAt w' w'.heap.size q.a q.cap q.l := fun q h => by
      refine ⟨h.cap, h.byte, ?_⟩
      rcases h.cells with h0 | ⟨pb, po, ha, _, hlt, hc⟩
      · exact Or.inl h0
      · exact Or.inr ⟨pb, po, ha, by have := hg.size; omega, Nat.lt_of_lt_of_le hlt hg.size, fun i hi => by rw [gb_cell hg (p := ⟨pb, po + i, none⟩) hlt (by simp)]; exact hc i hi⟩
    rcases List.mem_cons.1 hp with rfl | hp
    · exact ⟨key _ p1, by show (1 : Nat) < _; decide⟩
    · exact ⟨key _ (hPC.parts p hp).1, (hPC.parts p hp).2⟩
  have hsz1 : wA.heap.size = w.heap.size + 1 := by rw [hA]; simp
  have hsz2 : wB.heap.size = wA.heap.size + 1 := by rw [hB]; simp
  have HQ := Lib.hid (And.intro hcc (And.intro hqP (And.intro g0C (And.intro hql hqj)))); clear hcc hqP g0C hql hqj hcat hR p1 hPC bA bB bC gA gB gC gAC hP hqs
  have H0 := Lib.hid (And.intro hlen hn2); clear hlen hn2
  go_enter Tryz.func41, Tryz.ntmps41
  go_upto_region 1 with (fail)
  refine wp_region_lit ?_
  refine Fg.wpl_value (v := .int .u8 m) (w' := w) rfl (Fg.run_move rfl rfl) ?_
  simp only [Act.put, List.setIfInBounds_toArray, List.set_cons_succ, List.set_cons_zero]
  refine Fg.wpl_value (v := .slice (some ⟨w.heap.size, 0, none⟩) 1 1) (w' := w.alloc (.cells #[.int .u8 m] 5)) rfl (by go_simp) ?_
  simp only [Act.put, List.setIfInBounds_toArray, List.set_cons_succ, List.set_cons_zero]
  rw [← hA]
  refine Fg.wpl_value (v := .slice (some ⟨wA.heap.size, 0, none⟩) 1 1) (w' := wA.alloc (.cells #[.slice (some ⟨w.heap.size, 0, none⟩) 1 1] 34)) rfl (by go_simp) ?_
  simp only [Act.put, List.setIfInBounds_toArray, List.set_cons_succ, List.set_cons_zero]
  rw [← hB]
  refine Fg.wpl_value (v := .slice a n cap) (w' := wB) rfl (Fg.run_move rfl rfl) ?_
  simp only [Act.put, List.setIfInBounds_toArray, List.set_cons_succ, List.set_cons_zero]
  refine Fg.wpl_value (v := .slice (some ⟨wB.heap.size, 0, none⟩) 2 2) (w' := wB.alloc (.cells #[.slice (some ⟨wA.heap.size, 0, none⟩) 1 1, .slice a n cap] 110)) rfl (by go_simp) ?_
  simp only [Act.put, List.setIfInBounds_toArray, List.set_cons_succ, List.set_cons_zero]
  rw [← hC]
  refine Fg.wpl_call rfl (Fg.run_call (vs := #[.slice (some ⟨wB.heap.size, 0, none⟩) 2 2]) rfl rfl (by simp only [List.map_toArray, List.map_cons, List.map_nil, Act.eval]; rfl) (Fg.run_enter Tryz.func72 (by kernel_rfl) (by kernel_rfl))) ?_
  refine HQ.out.1.mono ?_
  rintro e w3 ⟨v, rfl, g3, ho⟩
  refine ⟨_, rfl, ?_⟩
  simp only [Act.put, List.setIfInBounds_toArray, List.set_cons_succ, List.set_cons_zero]
  obtain ⟨g, c, rfl, hc, hQ⟩ := own_parts ho (by have := HQ.out.2.2.2.1; omega) (HQ.out.2.1 w3 g3)
  have g03 := gb_trans HQ.out.2.2.1 g3
  have hsum := sum_any qs.length c w3.heap.size qs _ w3 rfl (HT.out.kept g03 (by simp)) hQ hc (by rw [HQ.out.2.2.2.2, List.length_cons]; have := H0.out.1; omega)
  rw [HQ.out.2.2.2.2] at hsum
  have HS := Lib.hid (And.intro hsum g03); clear hsum g03 hQ ho g3 hc
  refine Fg.wpl_call rfl (Fg.run_call (vs := #[.slice (some ⟨g, 0, none⟩) qs.length c]) rfl rfl (by simp only [List.map_toArray, List.map_cons, List.map_nil, Act.eval]; rfl) (Fg.run_enter Tryz.func71 (by kernel_rfl) (by kernel_rfl))) ?_
  refine HS.out.1.mono ?_
  rintro e w5 ⟨NB, rfl, g5, hNB, hD⟩
  refine ⟨_, rfl, ?_⟩
  simp only [Act.put, List.setIfInBounds_toArray, List.set_cons_succ, List.set_cons_zero]
  have HF := Lib.hid (And.intro (gb_trans HS.out.2 g5) (And.intro (Nat.le_trans HS.out.2.size hNB) hD)); clear g5 hNB hD HS HQ
  go_wp2
  go_ret
  exact ⟨NB, rfl, HF.out.1, HF.out.2.1, HF.out.2.2⟩
end Mk
end Go.Proofs.YtabdegeaifajfaaGreatDoor
