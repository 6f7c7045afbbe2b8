/- The kit's row of bytes that marks a place in a list of rows. -/
import Derived.Test.YtlkiancedgaicaaGreatLent
import Derived.Laws.BytesArg
import Derived.Lib.ConvBytes
import Derived.Laws.AppendOwn
namespace Go.Proofs.YtlkiancedgaicaaGreat
open Go.RowKit Ow

/-- the eight bytes of a mark of a row (of k = 1) -/
def mkRowZ (i : Nat) : List Int := [35, 1, 0, 0, 47, (i : Int), (i : Int) / 256, (i : Int) / 65536]
def mkRowS (i : Nat) : ByteArray := strOfNums (mkRowZ i)
def mkRow (i : Nat) : List Nat := (mkRowS i).data.toList.map (·.toNat)
theorem mkRowS_size (i : Nat) : (mkRowS i).size = 8 := by unfold mkRowS; rw [strOfNums_size]; rfl
theorem mkRow_length (i : Nat) : (mkRow i).length = 8 := by unfold mkRow mkRowS; rw [List.length_map, strOfNums_data, List.length_map]; rfl
theorem mkRow_lt (i j : Nat) : (mkRow i).getD j 0 < 256 := by
  rw [List.getD_eq_getElem?_getD]
  unfold mkRow
  rw [List.getElem?_map]
  cases (mkRowS i).data.toList[j]? with
  | none => decide
  | some b => exact b.toNat_lt
set_option maxRecDepth 100000 in
set_option maxHeartbeats 1000000 in
theorem markText_any (i : Nat) (w : World) (hi : i < 12) :
    Calls Tryz.prog 91 #[.int .i64 1, .int .i64 i] w fun e w' => e = .returned (.string (mkRowS i)) ∧ w.grownBy w' none := by
  have hb := Blk.new w ((mkRowZ i).map (Value.int .u8)) 5
  have hcv := run_convert_bytes_arg (P := Tryz.prog) (w.alloc (.cells ((mkRowZ i).map (Value.int .u8)).toArray 5)) 23 5 Tryz.underlying23 Tryz.underlying5 w.heap.size 0 8 8 (mkRowZ i) rfl (fun j hj => by
    rw [Nat.zero_add]
    apply hb.cell
    rw [List.getElem?_map, List.getD_eq_getElem?_getD, List.getElem?_eq_getElem (by exact hj)]; rfl) 9 Tryz.underlying9
  have hcv2 : (convert 23 9 (.slice (some ⟨w.heap.size, 0, none⟩) 8 8)).run Tryz.prog (w.alloc (.cells #[.int .u8 35, .int .u8 1, .int .u8 0, .int .u8 0, .int .u8 47, .int .u8 (i : Int), .int .u8 ((i : Int) / 256), .int .u8 ((i : Int) / 65536)] 5)) = .ok (.string (mkRowS i)) (w.alloc (.cells #[.int .u8 35, .int .u8 1, .int .u8 0, .int .u8 0, .int .u8 47, .int .u8 (i : Int), .int .u8 ((i : Int) / 256), .int .u8 ((i : Int) / 65536)] 5)) := hcv
  clear hcv hb
  generalize mkRowS i = s at *
  go_enter Tryz.func91, Tryz.ntmps91
  go_wp2
  go_ret
  exact ⟨rfl, gb_alloc (gb_refl _ _) _⟩
set_option maxRecDepth 100000 in
theorem bytesWorld_gb (w : World) (e : TypeId) (s : ByteArray) : w.grownBy (Lib.bytesWorld w e s) none :=
  ⟨rfl, rfl, rfl, by rw [Lib.bytesWorld_size]; omega, fun k hk _ => Lib.bytesWorld_at_old w e s k hk⟩
set_option maxRecDepth 100000 in
set_option maxHeartbeats 1000000 in
theorem markRow_any (i : Nat) (w : World) (hi : i < 12) :
    Calls Tryz.prog 54 #[.int .i64 1, .int .i64 i] w fun e w' => ∃ g c, e = .returned (.slice (some ⟨g, 0, none⟩) 8 c) ∧ w.grownBy w' none ∧ w.heap.size ≤ g ∧ BytesAt w' w'.heap.size (some ⟨g, 0, none⟩) c (mkRow i) := by
  have hs8 := mkRowS_size i
  have hbyte := mkRow_lt i
  have hlen := mkRow_length i
  have hget : ∀ j, j < 8 → (((mkRow i).getD j 0 : Nat) : Int) = (((mkRowS i).data.toList.getD j 0).toNat : Int) := by
    intro j hj
    unfold mkRow
    rw [List.getD_eq_getElem?_getD, List.getD_eq_getElem?_getD, List.getElem?_map]
    cases (mkRowS i).data.toList[j]? <;> rfl
  have hmt := Lib.hid (markText_any i · hi)
  have HG := Lib.hid (And.intro hs8 (And.intro hbyte (And.intro hlen hget))); clear hs8 hbyte hlen hget
  go_enter Tryz.func54, Tryz.ntmps54
  go_wp2_with fail
  refine (hmt.out w).mono ?_
  rintro e w1 ⟨rfl, hg1⟩
  have hcv := Lib.run_convert_string_bytes (P := Tryz.prog) w1 9 23 5 (mkRowS i) Tryz.underlying9 Tryz.underlying23 Tryz.underlying5
  have hg2 := bytesWorld_gb w1 5 (mkRowS i)
  have hcell := Lib.bytesWorld_cell w1 5 (mkRowS i)
  have hsz := Lib.bytesWorld_size w1 5 (mkRowS i)
  have hc1 := grownCap_ge w1 (mkRowS i).size 0 5
  have hc2 := grownCap_le_maxLen w1 (mkRowS i).size 0 5 (by rw [HG.out.1]; decide)
  rw [HG.out.1] at hcv hc1 hc2 hcell
  have H2 := Lib.hid (And.intro hg1 (And.intro hg2 (And.intro hcell (And.intro hsz (And.intro hc1 hc2))))); clear hg1 hg2 hcell hsz hc1 hc2
  generalize Lib.bytesWorld w1 5 (mkRowS i) = w2 at *
  generalize grownCap w1 8 0 5 = c at *
  go_wp2
  go_ret
  refine ⟨w1.heap.size, c, rfl, gb_trans H2.out.1 H2.out.2.1, H2.out.1.size, Nat.le_refl _, by rw [HG.out.2.2.1]; exact H2.out.2.2.2.2.1, by have := H2.out.2.2.2.2.2; unfold maxLen at this; omega, HG.out.2.1, Or.inr ⟨w1.heap.size, 0, rfl, by rw [H2.out.2.2.2.1]; omega, fun j hj => ?_⟩⟩
  rw [HG.out.2.2.1] at hj
  rw [Nat.zero_add, H2.out.2.2.1 j hj]
  unfold u8N
  rw [HG.out.2.2.2 j hj]
end Go.Proofs.YtlkiancedgaicaaGreat
