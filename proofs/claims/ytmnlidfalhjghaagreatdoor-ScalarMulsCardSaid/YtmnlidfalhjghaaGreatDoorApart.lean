/- The kit's ApartBytes: lists of bytes that lie apart. -/
import Derived.Test.YtmnlidfalhjghaaGreatDoorPut
import Derived.Test.YtmnlidfalhjghaaGreatDoorBag
namespace Go.Proofs.YtmnlidfalhjghaaGreatDoor
open Go.RowKit Ow

set_option maxRecDepth 100000 in
set_option maxHeartbeats 1000000 in
theorem apartB_any {f : Nat → Nat → Nat} (hf : Marks f) (V : Lists) (m L0 C : Nat) (xs : Nat → List Value) (w : World) (hm : m ≤ 70000) (hm0 : 0 < m) (hC : m ≤ C) (hC2 : C < 9223372036854775808) (hV : V.Apart m L0 w.heap.size) (hO : Owns w V m xs) (hL : ListAt w L0 V m) :
    Calls Tryz.prog 17 #[.slice (some ⟨L0, 0, none⟩) m C] w fun e w' => e = .returned (.bool true) ∧ Owns w' V m (fun j => mkV f j (V.n j)) ∧ Kb (V.S m) w w' := by
  have H := Lib.hid (And.intro hV (And.intro hO hL)); clear hV hO hL
  have HF := Lib.hid hf; clear hf
  go_enter Tryz.func17, Tryz.ntmps17
  have hb0 : Blk (w.alloc (.cells (bagL (.slice none 0 0)).toArray 78)) w.heap.size 78 (bagL (.slice none 0 0)) := Blk.new w _ _
  have hg0 := World.grownBy_alloc w (.cells (bagL (.slice none 0 0)).toArray 78) none
  have H1 := Lib.hid (And.intro hb0 hg0); clear hb0 hg0
  generalize hB : w.heap.size = B at H1
  have HB := Lib.hid hB
  go_wp2_with fail
  go_loopw [4] (fun i wr => ∃ (k : Nat) (v : Value), k ≤ m ∧ i = .int .i64 k ∧ wr.ownsRow B 22 1 v k ((List.range k).map V.v) ∧ Blk wr B 78 (bagL v) ∧ w.grownBy wr none) (fun i _ => m - (intOf i).toNat)
  case atStart => exact ⟨0, .slice none 0 0, by omega, rfl, World.ownsRow_nil _ _ _ 1, H1.out.1, H1.out.2⟩
  case round =>
    clear H1 hB
    obtain ⟨k, v, hk, rfl, ho, hb, hg⟩ := hrel
    by_cases hlt : k < m
    · have i1 : (k : Int) < (m : Int) := by omega
      have kc : wr.cell? ⟨L0, k, none⟩ = some (.slice (V.A k) (V.n k) (V.C k)) := (H.out.2.2.grown hg (by simp)).cell hlt
      have hput := put_bytes wr B B k (V.n k) (V.C k) 78 (by decide) v (V.A k) _ ho hb (by omega) (by have := hg.size; have := HB.out; omega)
      have HI := Lib.hid (And.intro hput (And.intro hg ho)); clear hput hg ho hb
      go_wp2_with fail
      refine HI.out.1.mono ?_
      rintro e w5 ⟨⟨r, rfl⟩, v', ho', hb', hK⟩
      have hg' : w.grownBy w5 none := gb_kb HI.out.2.1 hK (fun i hi => by
        have e0 := HB.out
        rcases hi with rfl | hi
        · omega
        · rcases HI.out.2.2.2 with ⟨h0, _⟩ | ⟨g, c, cur, e1, hbg, _⟩
          · rw [h0] at hi; cases hi
          · rw [e1] at hi; have e2 : g = i := by simpa [Value.ownBlock] using hi
            omega)
      rw [show (List.range k).map V.v ++ [Value.slice (V.A k) (V.n k) (V.C k)] = (List.range (k + 1)).map V.v by rw [List.range_succ, List.map_append]; rfl] at ho'
      have HJ := Lib.hid (And.intro ho' (And.intro hb' hg')); clear ho' hb' hg' hK HI
      go_wp2_with fail
      go_roundw
      case rel => exact ⟨k + 1, v', hlt, by go_num, HJ.out⟩
      case measure => simp [intOf]; omega
    · obtain rfl : k = m := by omega
      obtain ⟨g, c, rfl, hbg, hnc, hcm, hlt2⟩ := own_some ho hm0
      have hc63 : c < 9223372036854775808 := by unfold maxLen at hcm; omega
      have hL : ListAt wr g V k := by
        rcases ho.2 with ⟨h0, _⟩ | ⟨g', c', cur, e1, _, hgb, _, _, _, ht⟩
        · cases h0
        · cases e1
          refine ⟨cur.toList.drop (k * 1), ?_⟩
          unfold Blk
          rw [hgb, ← ht, List.take_append_drop, Array.toArray_toList]
      have hV := H.out.1
      have hVg : V.Apart k g wr.heap.size := ⟨hV.apart, fun j hj e => by have := hV.old j hj _ e; have := HB.out; omega, fun j hj i e => Nat.lt_of_lt_of_le (hV.old j hj i e) hg.size, hV.small⟩
      have hap := apart_bytes HF.out V k g c B xs wr hm hnc hc63 hVg (H.out.2.1.stay hg) hL ⟨hb.lt, fun i hi h5 => hb.cell (bagL_nil _ i hi h5), hb.cell (bagL_five _)⟩ (fun j hj e => by have := hV.old j hj _ e; have := HB.out; omega)
      have HI := Lib.hid (And.intro hap hg); clear hap hg hb ho hL hVg hV
      go_wp2_with fail
      refine HI.out.1.mono ?_
      rintro e w5 ⟨rfl, hF⟩
      have HJ := Lib.hid (hF.from HI.out.2); clear hF
      go_wp2
      go_ret
      exact ⟨rfl, HJ.out.own, HJ.out.kept⟩
end Go.Proofs.YtmnlidfalhjghaaGreatDoor
