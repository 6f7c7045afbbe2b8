/- The kit's OverBytes: what was lent is written over, the marks too. -/
import Derived.Test.YtlkiancedgaicaaGreatLent
namespace Go.Proofs.YtlkiancedgaicaaGreat
open Go.RowKit Ow

set_option maxRecDepth 100000 in
set_option maxHeartbeats 1000000 in
theorem overB_any (n g : Nat) (L : List Value) (w : World) (hL : L.length = n + 12) (hn : n ≤ 30000) (hb : Blk w g 5 L) :
    Calls Tryz.prog 30 #[.slice (some ⟨g, 0, none⟩) n (n + 12)] w fun e w' => e = .returned (.tuple #[]) ∧ w.grownBy w' (some g) := by
  have H := Lib.hid (And.intro hL hb); clear hL hb
  obtain ⟨a1, hs1, ha1⟩ := slice_to (some ⟨g, 0, none⟩) n (n + 12) (n + 12) (Nat.le_refl _)
  rw [ha1 g 0 rfl] at hs1
  have hs1' : ∀ w, (Instr.slice 23 (.slice (some ⟨g, 0, none⟩) n (n + 12)) none (some (.int .i64 ((n : Int) + 12))) none).run Tryz.prog w = .ok (.slice (some ⟨g, 0, none⟩) (n + 12) (n + 12)) w := hs1
  clear hs1 ha1
  go_enter Tryz.func30, Tryz.ntmps30
  go_wp2_with fail
  go_loopw [3] (fun i wr => ∃ (k : Nat) (L' : List Value), k ≤ n + 12 ∧ i = .int .i64 k ∧ L'.length = n + 12 ∧ Blk wr g 5 L' ∧ w.grownBy wr (some g)) (fun i _ => n + 12 - (intOf i).toNat)
  case atStart => exact ⟨0, L, by omega, rfl, H.out.1, H.out.2, gb_refl _ _⟩
  case round =>
    obtain ⟨k, L', hk, rfl, hl, hb, hg⟩ := hrel
    by_cases hlt : k < n + 12
    · have i0 : (k : Int) < (n : Int) + 12 := by omega
      obtain ⟨c, hc⟩ : ∃ c, L'[k]? = some c := ⟨_, List.getElem?_eq_getElem (by omega)⟩
      have k0 := hb.cell hc
      have f0 := hb.free k
      have HB := Lib.hid (And.intro hl (And.intro hb hg)); clear hl hb hg hc
      have hmb := Lib.hid (mkByte_any 2 k wr (by decide) (by omega))
      go_wp2_with fail
      refine hmb.out.mono ?_
      rintro e w' ⟨rfl, rfl⟩
      go_wp2_with fail
      exact ⟨⟨k + 1, L'.set k (.int .u8 (mkB 2 k)), hlt, rfl, by rw [List.length_set]; exact HB.out.1, HB.out.2.1.set k _, gb_set HB.out.2.2 k _⟩, by show n + 12 - ((k : Int) + 1).toNat < n + 12 - (k : Int).toNat; omega⟩
    · obtain rfl : k = n + 12 := by omega
      have HB := Lib.hid hg; clear hg hb
      go_wp2
      go_end0
      exact ⟨rfl, HB.out⟩
end Go.Proofs.YtlkiancedgaicaaGreat
