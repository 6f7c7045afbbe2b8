/- The kit's KeptRows. -/
import Derived.Test.YtlkiancedgaicaaGreatLentRows
import Derived.Test.YtlkiancedgaicaaGreatKept
import Derived.Test.YtlkiancedgaicaaGreatSame
import Derived.Test.YtlkiancedgaicaaGreatFlowTB
namespace Go.Proofs.YtlkiancedgaicaaGreat
open Go.RowKit Ow
/-- a slice of the bytes l, in a block of its own -/
def Fg.It.mr (l : List Nat) : Fg.It := ⟨fun v w => ∃ hh dd, v = .slice (some ⟨hh, 0, none⟩) 8 dd ∧ BytesAt w w.heap.size (some ⟨hh, 0, none⟩) dd l, fun _ _ _ ⟨hh, dd, e, h⟩ hg => ⟨hh, dd, e, bytes_up h hg⟩⟩
set_option maxRecDepth 100000 in
theorem slice_toB (a : Option Addr) (n cap k : Nat) (h : k ≤ cap) :
    ∃ a', (∀ w, (Instr.slice 22 (.slice a n cap) none (some (.int .i64 (k : Int))) none).run Tryz.prog w = .ok (.slice a' k cap) w) ∧ (∀ pb po, a = some ⟨pb, po, none⟩ → a' = some ⟨pb, po, none⟩) := by
  obtain ⟨j, hj, hs⟩ : ∃ j, Tryz.prog.info? (Tryz.prog.elem 22) = some j ∧ j.size = 1 := by
    have h1 : (Tryz.prog.info? (Tryz.prog.elem 22)).map (·.size) = some 1 := by kernel_rfl
    cases hq : Tryz.prog.info? (Tryz.prog.elem 22) with
    | none => rw [hq] at h1; cases h1
    | some j => rw [hq] at h1; exact ⟨j, rfl, by simpa using h1⟩
  refine ⟨if cap = 0 then a else a.map (·.add 0), fun w => ?_, fun pb po e => ?_⟩
  · rw [run_slice_h w 22 a n cap Tryz.underlying22 .i64 _ (by omega) (by omega), Int.toNat_natCast]
    simp [sizeOf, typeInfo, hj, hs, sliced]
  · rw [e]
    split
    · rfl
    · simp [Addr.add]
set_option maxHeartbeats 4000000 in
set_option maxRecDepth 100000 in
theorem keptR_any {f : Nat → Nat → Nat} (hf : Marks f) (n cap G : Nat) (a : Option Addr) (A : Nat → Option Addr) (C : Nat → Nat) (L : List (List Nat)) (vs : List Value) (w0 w : World) (hn : L.length = n) (hR : RowsIn w a A C L) (hl : ∀ i, i < n → (L.getD i []).length ≤ 30000) (hn2 : n ≤ 30000) (hb : Blk w G 23 vs) (hL : LentAt f w0 w G n 12 vs L) :
    Calls Tryz.prog 20 #[.slice (some ⟨G, 0, none⟩) n (n + 12), .slice a n cap] w fun e w' => e = .returned (.bool true) ∧ w.grownBy w' none := by
  have HKB : Hid (∀ k, k < n → ∃ g, w.cell? ⟨G, k, none⟩ = some (.slice (some ⟨g, 0, none⟩) (L.getD k []).length ((L.getD k []).length + 12)) ∧ ∀ w', w.grownBy w' none → Calls Tryz.prog 25 #[.slice (some ⟨g, 0, none⟩) (L.getD k []).length ((L.getD k []).length + 12), .slice (A k) (L.getD k []).length (C k)] w' fun e w'' => e = .returned (.bool true) ∧ w'.grownBy w'' none) := fun k hk => by
    obtain ⟨g, e1, _, _, hbk⟩ := hL.rows k hk
    refine ⟨g, hb.cell e1, fun w' hg => ?_⟩
    have hbb := (hR.stay hg).bytes k (by rw [hn]; exact hk)
    exact keptB_any hf (L.getD k []).length (C k) _ g (L.getD k []) (A k) w' rfl hbb (hl k hk) (hbk.grown hg (by simp))
  have HMR : Hid (∀ j, j < 12 → ∃ g c, w.cell? ⟨G, n + j, none⟩ = some (.slice (some ⟨g, 0, none⟩) 8 c) ∧ BytesAt w w.heap.size (some ⟨g, 0, none⟩) c (mkRow j)) := fun j hj => by
    obtain ⟨g, c, e1, _, _, hbb⟩ := hL.marks j hj
    exact ⟨g, c, hb.cell e1, hbb⟩
  have H := Lib.hid (And.intro hR hn)
  obtain ⟨M, hM⟩ : ∃ M, M = n + 12 := ⟨_, rfl⟩
  obtain ⟨a', hsl, ha'⟩ := slice_toB (some ⟨G, 0, none⟩) n (n + 12) (n + 12) (Nat.le_refl _)
  rw [ha' G 0 rfl, show ((n + 12 : Nat) : Int) = (n : Int) + 12 from rfl] at hsl
  replace hsl : ∀ w, (Instr.slice 22 (.slice (some ⟨G, 0, none⟩) n (n + 12)) none (some (.int .i64 ((n : Int) + 12))) none).run Tryz.prog w = .ok (.slice (some ⟨G, 0, none⟩) M (n + 12)) w := by rw [hM]; exact hsl
  have HM := Lib.hid hM
  have hM3 : M ≤ 30012 := by omega
  clear ha' hM hR hn hl hf hb hL
  obtain ⟨Q, hQ⟩ : ∃ Q : Ending → World → Prop, Q = fun e w' => e = .returned (.bool true) ∧ w.grownBy w' none := ⟨_, rfl⟩
  rw [← hQ]
  have HQ : Hid (∀ w', w.grownBy w' none → Q (.returned (.bool true)) w') := fun w' hg => by rw [hQ]; exact ⟨rfl, hg⟩
  clear hQ
  go_enter Tryz.func20, Tryz.ntmps20
  go_wp2_with fail
  clear hsl
  go_loopw [6] (fun v wr => ∃ (k : Nat), k ≤ M ∧ v = .int .i64 k ∧ Hid (w.grownBy wr none)) (fun v _ => M - (intOf v).toNat)
  case atStart => exact ⟨0, by omega, rfl, gb_refl _ _⟩
  case round =>
    obtain ⟨k, hk, rfl, HI⟩ := hrel
    by_cases hkM : k < M
    · have hki : (k : Int) < (M : Int) := by omega
      by_cases hlt : k < n
      · have HCL : Hid (decide ((k : Int) < (n : Int)) = true ∧ (k : Int) < (n : Int) ∧ decide ((n : Int) ≤ (k : Int)) = false ∧ ¬ (n : Int) ≤ (k : Int) ∧ (k : Int) < (M : Int)) := ⟨decide_eq_true (by omega), by omega, decide_eq_false (by omega), by omega, hki⟩
        obtain ⟨pb, po, rfl, hpb, hcs⟩ := H.out.1.cells.resolve_left (by rw [H.out.2]; omega)
        have hy := hcs k (by rw [H.out.2]; exact hlt)
        obtain ⟨g0, hx, hkp⟩ := HKB.out k hlt
        generalize A k = ak at *
        generalize C k = ck at *
        generalize (L.getD k []).length = x0 at *
        clear hcs
        obtain ⟨w2, hw2⟩ : ∃ w2, w2 = wr := ⟨_, rfl⟩
        have HG2 := Lib.hid HI.out
        have HXY : Hid (wr.cell? ⟨G, k, none⟩ = some (.slice (some ⟨g0, 0, none⟩) x0 (x0 + 12)) ∧ wr.cell? ⟨pb, po + k, none⟩ = some (.slice ak x0 ck)) := by
          refine ⟨?_, ?_⟩
          · rw [gb_cell HI.out (block_lt_of_cell hx) (by simp)]; exact hx
          · rw [gb_cell HI.out (block_lt_of_cell hy) (by simp)]; exact hy
        rw [← hw2] at HG2 HXY
        have HK := Lib.hid hkp
        clear hx hy hkp HI
        go_wp2_with fail
        rw [← hw2]
        clear hw2 hki
        refine Fg.region_t [] [.any, .any, .any, .any, .any, .any, .any, .any, .any, .any, .any, .any, .any, .any, .any, .any, .any, .any, .any, .any, .any, .any, .any, .val (Value.int .i64 k), .val (Value.slice (some ⟨pb, po, none⟩) n cap), .val (Value.int .i64 n), .val (Value.bool true), .val (Value.bool true), .val (Value.slice (some ⟨G, 0, none⟩) M (n + 12)), .val (Value.int .i64 k), .val (Value.pointer (some ⟨G, k, none⟩)), .val (Value.slice (some ⟨g0, 0, none⟩) x0 (x0 + 12)), .val (Value.slice (some ⟨pb, po, none⟩) n cap), .val (Value.int .i64 k), .val (Value.pointer (some ⟨pb, po + k, none⟩)), .val (Value.slice ak x0 ck), .val (Value.bool true), .val (Value.bool false), .val (Value.bool false), .val (Value.bool false), .val (Value.int .i64 k), .val (Value.slice (some ⟨pb, po, none⟩) n cap), .val (Value.int .i64 n), .val (Value.bool false), .val (Value.bool false), .val undef, .val undef, .val undef, .val undef, .val undef, .val undef, .val undef, .val undef, .val undef, .val undef, .val undef, .val (Value.bool false), .val (Value.bool false)] w2 35 (gb_refl _ _) (by kernel_rfl) (by kernel_rfl) (by kernel_rfl) (by kernel_rfl) (by decide) (by kernel_rfl) ?_ ?_
        · refine ⟨Fg.vT rfl (by decide) fun ac w h => ?_, ?_⟩
          · have e6 : ac.tmps.getD 6 undef = Value.int .i64 k := h.rest 6 (by kernel_rfl)
            exact ⟨_, w, wants_none rfl, Fg.run_move rfl e6, gb_refl _ _, rfl⟩
          refine ⟨Fg.vT rfl (by decide) fun ac w h => ?_, ?_⟩
          · have e1 : ac.tmps.getD 1 undef = Value.slice (some ⟨pb, po, none⟩) n cap := h.rest 1 (by kernel_rfl)
            exact ⟨_, w, wants_none rfl, Fg.run_move rfl e1, gb_refl _ _, rfl⟩
          refine ⟨Fg.vT rfl (by decide) fun ac w h => ?_, ?_⟩
          · have e24 : ac.tmps.getD 24 undef = Value.slice (some ⟨pb, po, none⟩) n cap := h.dep 24 (by kernel_rfl)
            have x24 : ac.tmps[24]?.getD undef = Value.slice (some ⟨pb, po, none⟩) n cap := by simpa using e24
            refine ⟨.int .i64 n, w, wants_none rfl, ?_, gb_refl _ _, rfl⟩
            clear h e24
            go_simp
          refine ⟨Fg.vT rfl (by decide) fun ac w h => ?_, ?_⟩
          · have e23 : ac.tmps.getD 23 undef = Value.int .i64 k := h.dep 23 (by kernel_rfl)
            have e25 : ac.tmps.getD 25 undef = Value.int .i64 n := h.dep 25 (by kernel_rfl)
            have i1 := HCL.out.1
            have i2 := HCL.out.2.1
            refine ⟨.bool true, w, wants_none rfl, ?_, gb_refl _ _, rfl⟩
            clear h
            simp only [execOp, Act.eval, e23, e25]
            go_simp
          refine ⟨Fg.vT rfl (by decide) fun ac w h => ?_, ?_⟩
          · have e26 : ac.tmps.getD 26 undef = Value.bool true := h.dep 26 (by kernel_rfl)
            exact ⟨_, w, wants_none rfl, Fg.run_move rfl e26, gb_refl _ _, rfl⟩
          refine ⟨Fg.vT rfl (by decide) fun ac w h => ?_, ?_⟩
          · have e27 : ac.tmps.getD 27 undef = Value.bool true := h.dep 27 (by kernel_rfl)
            have e5 : ac.tmps.getD 5 undef = Value.slice (some ⟨G, 0, none⟩) M (n + 12) := h.rest 5 (by kernel_rfl)
            exact ⟨_, w, wants_some (d := 27) rfl rfl (by rw [h.size]; show 27 < 58; decide) e27, Fg.run_move rfl e5, gb_refl _ _, rfl⟩
          refine ⟨Fg.vT rfl (by decide) fun ac w h => ?_, ?_⟩
          · have e27 : ac.tmps.getD 27 undef = Value.bool true := h.dep 27 (by kernel_rfl)
            have e6 : ac.tmps.getD 6 undef = Value.int .i64 k := h.rest 6 (by kernel_rfl)
            exact ⟨_, w, wants_some (d := 27) rfl rfl (by rw [h.size]; show 27 < 58; decide) e27, Fg.run_move rfl e6, gb_refl _ _, rfl⟩
          refine ⟨Fg.vT rfl (by decide) fun ac w h => ?_, ?_⟩
          · have e27 : ac.tmps.getD 27 undef = Value.bool true := h.dep 27 (by kernel_rfl)
            have e28 : ac.tmps.getD 28 undef = Value.slice (some ⟨G, 0, none⟩) M (n + 12) := h.dep 28 (by kernel_rfl)
            have e29 : ac.tmps.getD 29 undef = Value.int .i64 k := h.dep 29 (by kernel_rfl)
            have i0 : (k : Int) < (M : Int) := HCL.out.2.2.2.2
            refine ⟨.pointer (some ⟨G, k, none⟩), w, wants_some (d := 27) rfl rfl (by rw [h.size]; show 27 < 58; decide) e27, ?_, gb_refl _ _, rfl⟩
            clear h
            simp only [execOp, Act.eval, e28, e29]
            go_simp
          refine ⟨Fg.vT rfl (by decide) fun ac w h => ?_, ?_⟩
          · have e27 : ac.tmps.getD 27 undef = Value.bool true := h.dep 27 (by kernel_rfl)
            have e30 : ac.tmps.getD 30 undef = Value.pointer (some ⟨G, k, none⟩) := h.dep 30 (by kernel_rfl)
            have y0 : w.cell? ⟨G, k, none⟩ = some (.slice (some ⟨g0, 0, none⟩) x0 (x0 + 12)) := by rw [gb_cell h.base (block_lt_of_cell (HXY.out.1)) (by simp)]; exact HXY.out.1
            refine ⟨Value.slice (some ⟨g0, 0, none⟩) x0 (x0 + 12), w, wants_some (d := 27) rfl rfl (by rw [h.size]; show 27 < 58; decide) e27, ?_, gb_refl _ _, rfl⟩
            clear h
            simp only [execOp, Act.eval, e30]
            go_simp
          refine ⟨Fg.vT rfl (by decide) fun ac w h => ?_, ?_⟩
          · have e27 : ac.tmps.getD 27 undef = Value.bool true := h.dep 27 (by kernel_rfl)
            have e1 : ac.tmps.getD 1 undef = Value.slice (some ⟨pb, po, none⟩) n cap := h.rest 1 (by kernel_rfl)
            exact ⟨_, w, wants_some (d := 27) rfl rfl (by rw [h.size]; show 27 < 58; decide) e27, Fg.run_move rfl e1, gb_refl _ _, rfl⟩
          refine ⟨Fg.vT rfl (by decide) fun ac w h => ?_, ?_⟩
          · have e27 : ac.tmps.getD 27 undef = Value.bool true := h.dep 27 (by kernel_rfl)
            have e6 : ac.tmps.getD 6 undef = Value.int .i64 k := h.rest 6 (by kernel_rfl)
            exact ⟨_, w, wants_some (d := 27) rfl rfl (by rw [h.size]; show 27 < 58; decide) e27, Fg.run_move rfl e6, gb_refl _ _, rfl⟩
          refine ⟨Fg.vT rfl (by decide) fun ac w h => ?_, ?_⟩
          · have e27 : ac.tmps.getD 27 undef = Value.bool true := h.dep 27 (by kernel_rfl)
            have e32 : ac.tmps.getD 32 undef = Value.slice (some ⟨pb, po, none⟩) n cap := h.dep 32 (by kernel_rfl)
            have e33 : ac.tmps.getD 33 undef = Value.int .i64 k := h.dep 33 (by kernel_rfl)
            have i0 : (k : Int) < (n : Int) := HCL.out.2.1
            refine ⟨.pointer (some ⟨pb, po + k, none⟩), w, wants_some (d := 27) rfl rfl (by rw [h.size]; show 27 < 58; decide) e27, ?_, gb_refl _ _, rfl⟩
            clear h
            simp only [execOp, Act.eval, e32, e33]
            go_simp
          refine ⟨Fg.vT rfl (by decide) fun ac w h => ?_, ?_⟩
          · have e27 : ac.tmps.getD 27 undef = Value.bool true := h.dep 27 (by kernel_rfl)
            have e34 : ac.tmps.getD 34 undef = Value.pointer (some ⟨pb, po + k, none⟩) := h.dep 34 (by kernel_rfl)
            have y0 : w.cell? ⟨pb, po + k, none⟩ = some (.slice ak x0 ck) := by rw [gb_cell h.base (block_lt_of_cell (HXY.out.2)) (by simp)]; exact HXY.out.2
            refine ⟨Value.slice ak x0 ck, w, wants_some (d := 27) rfl rfl (by rw [h.size]; show 27 < 58; decide) e27, ?_, gb_refl _ _, rfl⟩
            clear h
            simp only [execOp, Act.eval, e34]
            go_simp
          refine ⟨Fg.cT rfl (by decide) fun ac w h => ?_, ?_⟩
          · have e27 : ac.tmps.getD 27 undef = Value.bool true := h.dep 27 (by kernel_rfl)
            have e31 : ac.tmps.getD 31 undef = Value.slice (some ⟨g0, 0, none⟩) x0 (x0 + 12) := h.dep 31 (by kernel_rfl)
            have e35 : ac.tmps.getD 35 undef = Value.slice ak x0 ck := h.dep 35 (by kernel_rfl)
            refine ⟨25, #[Value.slice (some ⟨g0, 0, none⟩) x0 (x0 + 12), Value.slice ak x0 ck], wants_some (d := 27) rfl rfl (by rw [h.size]; show 27 < 58; decide) e27, Fg.run_call rfl rfl (by simp only [List.map_toArray, List.map_cons, List.map_nil, Act.eval, e31, e35]) (Fg.run_enter Tryz.func25 (by kernel_rfl) (by kernel_rfl)), ?_⟩
            exact (HK.out w (gb_trans HG2.out h.base)).mono fun _ _ ⟨he, hg⟩ => ⟨_, he, hg, rfl⟩
          refine ⟨Fg.vT rfl (by decide) fun ac w h => ?_, ?_⟩
          · have e27 : ac.tmps.getD 27 undef = Value.bool true := h.dep 27 (by kernel_rfl)
            have e36 : ac.tmps.getD 36 undef = Value.bool true := h.dep 36 (by kernel_rfl)
            refine ⟨Value.bool false, w, wants_some (d := 27) rfl rfl (by rw [h.size]; show 27 < 58; decide) e27, ?_, gb_refl _ _, rfl⟩
            clear h
            simp only [execOp, Act.eval, e36]
            go_simp
          refine ⟨Fg.vT rfl (by decide) fun ac w h => ?_, ?_⟩
          · have e27 : ac.tmps.getD 27 undef = Value.bool true := h.dep 27 (by kernel_rfl)
            have e37 : ac.tmps.getD 37 undef = Value.bool false := h.dep 37 (by kernel_rfl)
            refine ⟨Value.bool false, w, wants_none rfl, ?_, gb_refl _ _, rfl⟩
            clear h
            simp only [execOp, Act.eval, e27, e37]
            go_simp
          refine ⟨Fg.vT rfl (by decide) fun ac w h => ?_, ?_⟩
          · have e38 : ac.tmps.getD 38 undef = Value.bool false := h.dep 38 (by kernel_rfl)
            exact ⟨_, w, wants_none rfl, Fg.run_move rfl e38, gb_refl _ _, rfl⟩
          refine ⟨Fg.vT rfl (by decide) fun ac w h => ?_, ?_⟩
          · have e39 : ac.tmps.getD 39 undef = Value.bool false := h.dep 39 (by kernel_rfl)
            have e6 : ac.tmps.getD 6 undef = Value.int .i64 k := h.rest 6 (by kernel_rfl)
            exact ⟨_, w, wants_some (d := 39) rfl rfl (by rw [h.size]; show 39 < 58; decide) e39, Fg.run_move rfl e6, gb_refl _ _, rfl⟩
          refine ⟨Fg.vT rfl (by decide) fun ac w h => ?_, ?_⟩
          · have e39 : ac.tmps.getD 39 undef = Value.bool false := h.dep 39 (by kernel_rfl)
            have e1 : ac.tmps.getD 1 undef = Value.slice (some ⟨pb, po, none⟩) n cap := h.rest 1 (by kernel_rfl)
            exact ⟨_, w, wants_some (d := 39) rfl rfl (by rw [h.size]; show 39 < 58; decide) e39, Fg.run_move rfl e1, gb_refl _ _, rfl⟩
          refine ⟨Fg.vT rfl (by decide) fun ac w h => ?_, ?_⟩
          · have e39 : ac.tmps.getD 39 undef = Value.bool false := h.dep 39 (by kernel_rfl)
            have e41 : ac.tmps.getD 41 undef = Value.slice (some ⟨pb, po, none⟩) n cap := h.dep 41 (by kernel_rfl)
            have x41 : ac.tmps[41]?.getD undef = Value.slice (some ⟨pb, po, none⟩) n cap := by simpa using e41
            refine ⟨.int .i64 n, w, wants_some (d := 39) rfl rfl (by rw [h.size]; show 39 < 58; decide) e39, ?_, gb_refl _ _, rfl⟩
            clear h e41
            go_simp
          refine ⟨Fg.vT rfl (by decide) fun ac w h => ?_, ?_⟩
          · have e39 : ac.tmps.getD 39 undef = Value.bool false := h.dep 39 (by kernel_rfl)
            have e40 : ac.tmps.getD 40 undef = Value.int .i64 k := h.dep 40 (by kernel_rfl)
            have e42 : ac.tmps.getD 42 undef = Value.int .i64 n := h.dep 42 (by kernel_rfl)
            have i1 := HCL.out.2.2.1
            have i2 := HCL.out.2.2.2.1
            refine ⟨.bool false, w, wants_some (d := 39) rfl rfl (by rw [h.size]; show 39 < 58; decide) e39, ?_, gb_refl _ _, rfl⟩
            clear h
            simp only [execOp, Act.eval, e40, e42]
            go_simp
          refine ⟨Fg.vT rfl (by decide) fun ac w h => ?_, ?_⟩
          · have e39 : ac.tmps.getD 39 undef = Value.bool false := h.dep 39 (by kernel_rfl)
            have e43 : ac.tmps.getD 43 undef = Value.bool false := h.dep 43 (by kernel_rfl)
            exact ⟨_, w, wants_some (d := 39) rfl rfl (by rw [h.size]; show 39 < 58; decide) e39, Fg.run_move rfl e43, gb_refl _ _, rfl⟩
          refine ⟨Fg.sT rfl (by decide) (fun _ => rfl) fun ac w h => ?_, ?_⟩
          · have e44 : ac.tmps.getD 44 undef = Value.bool false := h.dep 44 (by kernel_rfl)
            exact not_wants (d := 44) rfl rfl (by rw [h.size]; show 44 < 58; decide) e44 (by decide)
          refine ⟨Fg.sT rfl (by decide) (fun _ => rfl) fun ac w h => ?_, ?_⟩
          · have e44 : ac.tmps.getD 44 undef = Value.bool false := h.dep 44 (by kernel_rfl)
            exact not_wants (d := 44) rfl rfl (by rw [h.size]; show 44 < 58; decide) e44 (by decide)
          refine ⟨Fg.sT rfl (by decide) (fun _ => rfl) fun ac w h => ?_, ?_⟩
          · have e44 : ac.tmps.getD 44 undef = Value.bool false := h.dep 44 (by kernel_rfl)
            exact not_wants (d := 44) rfl rfl (by rw [h.size]; show 44 < 58; decide) e44 (by decide)
          refine ⟨Fg.sT rfl (by decide) (fun _ => rfl) fun ac w h => ?_, ?_⟩
          · have e44 : ac.tmps.getD 44 undef = Value.bool false := h.dep 44 (by kernel_rfl)
            exact not_wants (d := 44) rfl rfl (by rw [h.size]; show 44 < 58; decide) e44 (by decide)
          refine ⟨Fg.sT rfl (by decide) (fun _ => rfl) fun ac w h => ?_, ?_⟩
          · have e44 : ac.tmps.getD 44 undef = Value.bool false := h.dep 44 (by kernel_rfl)
            exact not_wants (d := 44) rfl rfl (by rw [h.size]; show 44 < 58; decide) e44 (by decide)
          refine ⟨Fg.sT rfl (by decide) (fun _ => rfl) fun ac w h => ?_, ?_⟩
          · have e44 : ac.tmps.getD 44 undef = Value.bool false := h.dep 44 (by kernel_rfl)
            exact not_wants (d := 44) rfl rfl (by rw [h.size]; show 44 < 58; decide) e44 (by decide)
          refine ⟨Fg.sT rfl (by decide) (fun _ => rfl) fun ac w h => ?_, ?_⟩
          · have e44 : ac.tmps.getD 44 undef = Value.bool false := h.dep 44 (by kernel_rfl)
            exact not_wants (d := 44) rfl rfl (by rw [h.size]; show 44 < 58; decide) e44 (by decide)
          refine ⟨Fg.sT rfl (by decide) (fun _ => rfl) fun ac w h => ?_, ?_⟩
          · have e44 : ac.tmps.getD 44 undef = Value.bool false := h.dep 44 (by kernel_rfl)
            exact not_wants (d := 44) rfl rfl (by rw [h.size]; show 44 < 58; decide) e44 (by decide)
          refine ⟨Fg.sT rfl (by decide) (fun _ => rfl) fun ac w h => ?_, ?_⟩
          · have e44 : ac.tmps.getD 44 undef = Value.bool false := h.dep 44 (by kernel_rfl)
            exact not_wants (d := 44) rfl rfl (by rw [h.size]; show 44 < 58; decide) e44 (by decide)
          refine ⟨Fg.sT rfl (by decide) (fun _ => rfl) fun ac w h => ?_, ?_⟩
          · have e44 : ac.tmps.getD 44 undef = Value.bool false := h.dep 44 (by kernel_rfl)
            exact not_wants (d := 44) rfl rfl (by rw [h.size]; show 44 < 58; decide) e44 (by decide)
          refine ⟨Fg.sT rfl (by decide) (fun _ => rfl) fun ac w h => ?_, ?_⟩
          · have e44 : ac.tmps.getD 44 undef = Value.bool false := h.dep 44 (by kernel_rfl)
            exact not_wants (d := 44) rfl rfl (by rw [h.size]; show 44 < 58; decide) e44 (by decide)
          refine ⟨Fg.vT rfl (by decide) fun ac w h => ?_, ?_⟩
          · have e39 : ac.tmps.getD 39 undef = Value.bool false := h.dep 39 (by kernel_rfl)
            have e44 : ac.tmps.getD 44 undef = Value.bool false := h.dep 44 (by kernel_rfl)
            refine ⟨Value.bool false, w, wants_some (d := 39) rfl rfl (by rw [h.size]; show 39 < 58; decide) e39, ?_, gb_refl _ _, rfl⟩
            clear h
            simp only [execOp, Act.eval, e44]
            go_simp
          refine ⟨Fg.vT rfl (by decide) fun ac w h => ?_, ?_⟩
          · have e39 : ac.tmps.getD 39 undef = Value.bool false := h.dep 39 (by kernel_rfl)
            have e56 : ac.tmps.getD 56 undef = Value.bool false := h.dep 56 (by kernel_rfl)
            refine ⟨Value.bool false, w, wants_none rfl, ?_, gb_refl _ _, rfl⟩
            clear h
            simp only [execOp, Act.eval, e39, e56]
            go_simp
          trivial
        · intro aq wq hB hsz hdf hrest hslots hpt
          obtain ⟨u23, e23⟩ : ∃ u, aq.tmps.getD 23 undef = u := ⟨_, rfl⟩
          obtain ⟨u24, e24⟩ : ∃ u, aq.tmps.getD 24 undef = u := ⟨_, rfl⟩
          obtain ⟨u25, e25⟩ : ∃ u, aq.tmps.getD 25 undef = u := ⟨_, rfl⟩
          obtain ⟨u26, e26⟩ : ∃ u, aq.tmps.getD 26 undef = u := ⟨_, rfl⟩
          obtain ⟨u27, e27⟩ : ∃ u, aq.tmps.getD 27 undef = u := ⟨_, rfl⟩
          obtain ⟨u28, e28⟩ : ∃ u, aq.tmps.getD 28 undef = u := ⟨_, rfl⟩
          obtain ⟨u29, e29⟩ : ∃ u, aq.tmps.getD 29 undef = u := ⟨_, rfl⟩
          obtain ⟨u30, e30⟩ : ∃ u, aq.tmps.getD 30 undef = u := ⟨_, rfl⟩
          obtain ⟨u31, e31⟩ : ∃ u, aq.tmps.getD 31 undef = u := ⟨_, rfl⟩
          obtain ⟨u32, e32⟩ : ∃ u, aq.tmps.getD 32 undef = u := ⟨_, rfl⟩
          obtain ⟨u33, e33⟩ : ∃ u, aq.tmps.getD 33 undef = u := ⟨_, rfl⟩
          obtain ⟨u34, e34⟩ : ∃ u, aq.tmps.getD 34 undef = u := ⟨_, rfl⟩
          obtain ⟨u35, e35⟩ : ∃ u, aq.tmps.getD 35 undef = u := ⟨_, rfl⟩
          obtain ⟨u36, e36⟩ : ∃ u, aq.tmps.getD 36 undef = u := ⟨_, rfl⟩
          obtain ⟨u37, e37⟩ : ∃ u, aq.tmps.getD 37 undef = u := ⟨_, rfl⟩
          obtain ⟨u38, e38⟩ : ∃ u, aq.tmps.getD 38 undef = u := ⟨_, rfl⟩
          obtain ⟨u39, e39⟩ : ∃ u, aq.tmps.getD 39 undef = u := ⟨_, rfl⟩
          obtain ⟨u40, e40⟩ : ∃ u, aq.tmps.getD 40 undef = u := ⟨_, rfl⟩
          obtain ⟨u41, e41⟩ : ∃ u, aq.tmps.getD 41 undef = u := ⟨_, rfl⟩
          obtain ⟨u42, e42⟩ : ∃ u, aq.tmps.getD 42 undef = u := ⟨_, rfl⟩
          obtain ⟨u43, e43⟩ : ∃ u, aq.tmps.getD 43 undef = u := ⟨_, rfl⟩
          obtain ⟨u44, e44⟩ : ∃ u, aq.tmps.getD 44 undef = u := ⟨_, rfl⟩
          obtain ⟨u45, e45⟩ : ∃ u, aq.tmps.getD 45 undef = u := ⟨_, rfl⟩
          obtain ⟨u46, e46⟩ : ∃ u, aq.tmps.getD 46 undef = u := ⟨_, rfl⟩
          obtain ⟨u47, e47⟩ : ∃ u, aq.tmps.getD 47 undef = u := ⟨_, rfl⟩
          obtain ⟨u48, e48⟩ : ∃ u, aq.tmps.getD 48 undef = u := ⟨_, rfl⟩
          obtain ⟨u49, e49⟩ : ∃ u, aq.tmps.getD 49 undef = u := ⟨_, rfl⟩
          obtain ⟨u50, e50⟩ : ∃ u, aq.tmps.getD 50 undef = u := ⟨_, rfl⟩
          obtain ⟨u51, e51⟩ : ∃ u, aq.tmps.getD 51 undef = u := ⟨_, rfl⟩
          obtain ⟨u52, e52⟩ : ∃ u, aq.tmps.getD 52 undef = u := ⟨_, rfl⟩
          obtain ⟨u53, e53⟩ : ∃ u, aq.tmps.getD 53 undef = u := ⟨_, rfl⟩
          obtain ⟨u54, e54⟩ : ∃ u, aq.tmps.getD 54 undef = u := ⟨_, rfl⟩
          obtain ⟨u55, e55⟩ : ∃ u, aq.tmps.getD 55 undef = u := ⟨_, rfl⟩
          obtain ⟨u56, e56⟩ : ∃ u, aq.tmps.getD 56 undef = u := ⟨_, rfl⟩
          have e57 : aq.tmps.getD 57 undef = Value.bool false := hslots 57 (by kernel_rfl)
          obtain rfl := Fg.frame_is (a := aq) (vs := [Value.slice (some ⟨G, 0, none⟩) n (n + 12), Value.slice (some ⟨pb, po, none⟩) n cap, undef, undef, u4, Value.slice (some ⟨G, 0, none⟩) M (n + 12), Value.int .i64 k, Value.slice (some ⟨G, 0, none⟩) n (n + 12), Value.int .i64 n, Value.slice (some ⟨pb, po, none⟩) n cap, Value.int .i64 n, Value.bool false, Value.slice (some ⟨G, 0, none⟩) n (n + 12), Value.slice (some ⟨pb, po, none⟩) n cap, Value.int .i64 n, Value.int .i64 ((n : Int) + 12), Value.slice (some ⟨G, 0, none⟩) M (n + 12), Value.int .i64 k, Value.slice (some ⟨G, 0, none⟩) M (n + 12), Value.int .i64 M, Value.bool true, u21, u22, u23, u24, u25, u26, u27, u28, u29, u30, u31, u32, u33, u34, u35, u36, u37, u38, u39, u40, u41, u42, u43, u44, u45, u46, u47, u48, u49, u50, u51, u52, u53, u54, u55, u56, Value.bool false]) hsz ⟨hrest 0 (by kernel_rfl), hrest 1 (by kernel_rfl), hrest 2 (by kernel_rfl), hrest 3 (by kernel_rfl), hrest 4 (by kernel_rfl), hrest 5 (by kernel_rfl), hrest 6 (by kernel_rfl), hrest 7 (by kernel_rfl), hrest 8 (by kernel_rfl), hrest 9 (by kernel_rfl), hrest 10 (by kernel_rfl), hrest 11 (by kernel_rfl), hrest 12 (by kernel_rfl), hrest 13 (by kernel_rfl), hrest 14 (by kernel_rfl), hrest 15 (by kernel_rfl), hrest 16 (by kernel_rfl), hrest 17 (by kernel_rfl), hrest 18 (by kernel_rfl), hrest 19 (by kernel_rfl), hrest 20 (by kernel_rfl), hrest 21 (by kernel_rfl), hrest 22 (by kernel_rfl), e23, e24, e25, e26, e27, e28, e29, e30, e31, e32, e33, e34, e35, e36, e37, e38, e39, e40, e41, e42, e43, e44, e45, e46, e47, e48, e49, e50, e51, e52, e53, e54, e55, e56, e57, trivial⟩ hdf
          clear hsz hdf hrest hslots hpt e23 e24 e25 e26 e27 e28 e29 e30 e31 e32 e33 e34 e35 e36 e37 e38 e39 e40 e41 e42 e43 e44 e45 e46 e47 e48 e49 e50 e51 e52 e53 e54 e55 e56 e57
          have HGq := Lib.hid (gb_trans HG2.out hB)
          clear hB HG2 HXY HK HCL
          refine wpList_nil ?_
          go_wp2
          exact ⟨⟨k + 1, by omega, rfl, HGq.out⟩, by show M - ((k : Int) + 1).toNat < M - (k : Int).toNat; omega⟩
      · obtain ⟨j, hj⟩ : ∃ j, k = n + j := ⟨k - n, by omega⟩
        have hM := HM.out
        have HCL : Hid (decide ((k : Int) < (n : Int)) = false ∧ ¬ (k : Int) < (n : Int) ∧ decide ((n : Int) ≤ (k : Int)) = true ∧ (n : Int) ≤ (k : Int) ∧ (k : Int) < (M : Int) ∧ IntKind.i64.wrap ((k : Int) - (n : Int)) = (j : Int)) := ⟨decide_eq_false (by omega), by omega, decide_eq_true (by omega), by omega, hki, by rw [IntKind.wrap_i64]; omega⟩
        have hj12 : j < 12 := by omega
        obtain ⟨g0, c0, hz, hzb⟩ := HMR.out j hj12
        rw [← hj] at hz
        have hmk := fun w' => markRow_any j w' hj12
        have hml := mkRow_length j
        generalize mkRow j = MR at *
        clear hM hlt hj
        obtain ⟨w2, hw2⟩ : ∃ w2, w2 = wr := ⟨_, rfl⟩
        have HG2 := Lib.hid HI.out
        have HXZ : Hid (wr.cell? ⟨G, k, none⟩ = some (.slice (some ⟨g0, 0, none⟩) 8 c0)) := by
          show _ = _
          rw [gb_cell HI.out (block_lt_of_cell hz) (by simp)]; exact hz
        have HZB : Hid (∀ w', w2.grownBy w' none → BytesAt w' w'.heap.size (some ⟨g0, 0, none⟩) c0 MR) := fun w' hg => bytes_up hzb (gb_trans HI.out (by rw [← hw2]; exact hg))
        rw [← hw2] at HG2 HXZ
        have HMK : Hid (∀ w', Calls Tryz.prog 54 #[.int .i64 1, .int .i64 j] w' fun e w'' => ∃ v, e = .returned v ∧ w'.grownBy w'' none ∧ ∃ hh dd, v = .slice (some ⟨hh, 0, none⟩) 8 dd ∧ BytesAt w'' w''.heap.size (some ⟨hh, 0, none⟩) dd MR) := fun w' => (hmk w').mono fun _ _ ⟨g, c, he, hg, _, hb⟩ => ⟨_, he, hg, g, c, rfl, hb⟩
        have HSM : Hid (∀ w' hh dd, w2.grownBy w' none → BytesAt w' w'.heap.size (some ⟨hh, 0, none⟩) dd MR → Calls Tryz.prog 15 #[.slice (some ⟨g0, 0, none⟩) 8 c0, .slice (some ⟨hh, 0, none⟩) 8 dd] w' fun e w'' => e = .returned (.bool true) ∧ w'.grownBy w'' none) := fun w' hh dd hg hb => by
          have h := sameBytes_any w'.heap.size w'.heap.size 8 8 c0 dd (some ⟨g0, 0, none⟩) (some ⟨hh, 0, none⟩) MR MR w' hml hml (HZB.out w' hg) hb
          rw [show decide (MR = MR) = true from decide_eq_true rfl] at h
          exact h
        clear hz hzb hmk hml HI
        go_wp2_with fail
        rw [← hw2]
        clear hw2 hki
        refine Fg.region_t [] [.any, .any, .any, .any, .any, .any, .any, .any, .any, .any, .any, .any, .any, .any, .any, .any, .any, .any, .any, .any, .any, .any, .any, .val (Value.int .i64 k), .val (Value.slice a n cap), .val (Value.int .i64 n), .val (Value.bool false), .val (Value.bool false), .val undef, .val undef, .val undef, .val undef, .val undef, .val undef, .val undef, .val undef, .val undef, .val undef, .val (Value.bool false), .val (Value.bool false), .val (Value.int .i64 k), .val (Value.slice a n cap), .val (Value.int .i64 n), .val (Value.bool true), .val (Value.bool true), .val (Value.slice (some ⟨G, 0, none⟩) M (n + 12)), .val (Value.int .i64 k), .val (Value.pointer (some ⟨G, k, none⟩)), .val (Value.slice (some ⟨g0, 0, none⟩) 8 c0), .val (Value.int .i64 k), .val (Value.slice a n cap), .val (Value.int .i64 n), .val (Value.int .i64 j), (Fg.It.mr MR), .val (Value.bool true), .val (Value.bool false), .val (Value.bool false), .val (Value.bool false)] w2 35 (gb_refl _ _) (by kernel_rfl) (by kernel_rfl) (by kernel_rfl) (by kernel_rfl) (by decide) (by kernel_rfl) ?_ ?_
        · refine ⟨Fg.vT rfl (by decide) fun ac w h => ?_, ?_⟩
          · have e6 : ac.tmps.getD 6 undef = Value.int .i64 k := h.rest 6 (by kernel_rfl)
            exact ⟨_, w, wants_none rfl, Fg.run_move rfl e6, gb_refl _ _, rfl⟩
          refine ⟨Fg.vT rfl (by decide) fun ac w h => ?_, ?_⟩
          · have e1 : ac.tmps.getD 1 undef = Value.slice a n cap := h.rest 1 (by kernel_rfl)
            exact ⟨_, w, wants_none rfl, Fg.run_move rfl e1, gb_refl _ _, rfl⟩
          refine ⟨Fg.vT rfl (by decide) fun ac w h => ?_, ?_⟩
          · have e24 : ac.tmps.getD 24 undef = Value.slice a n cap := h.dep 24 (by kernel_rfl)
            have x24 : ac.tmps[24]?.getD undef = Value.slice a n cap := by simpa using e24
            refine ⟨.int .i64 n, w, wants_none rfl, ?_, gb_refl _ _, rfl⟩
            clear h e24
            go_simp
          refine ⟨Fg.vT rfl (by decide) fun ac w h => ?_, ?_⟩
          · have e23 : ac.tmps.getD 23 undef = Value.int .i64 k := h.dep 23 (by kernel_rfl)
            have e25 : ac.tmps.getD 25 undef = Value.int .i64 n := h.dep 25 (by kernel_rfl)
            have i1 := HCL.out.1
            have i2 := HCL.out.2.1
            have i3 : n ≤ k := by omega
            refine ⟨.bool false, w, wants_none rfl, ?_, gb_refl _ _, rfl⟩
            clear h
            simp only [execOp, Act.eval, e23, e25]
            go_simp
          refine ⟨Fg.vT rfl (by decide) fun ac w h => ?_, ?_⟩
          · have e26 : ac.tmps.getD 26 undef = Value.bool false := h.dep 26 (by kernel_rfl)
            exact ⟨_, w, wants_none rfl, Fg.run_move rfl e26, gb_refl _ _, rfl⟩
          refine ⟨Fg.sT rfl (by decide) (fun _ => rfl) fun ac w h => ?_, ?_⟩
          · have e27 : ac.tmps.getD 27 undef = Value.bool false := h.dep 27 (by kernel_rfl)
            exact not_wants (d := 27) rfl rfl (by rw [h.size]; show 27 < 58; decide) e27 (by decide)
          refine ⟨Fg.sT rfl (by decide) (fun _ => rfl) fun ac w h => ?_, ?_⟩
          · have e27 : ac.tmps.getD 27 undef = Value.bool false := h.dep 27 (by kernel_rfl)
            exact not_wants (d := 27) rfl rfl (by rw [h.size]; show 27 < 58; decide) e27 (by decide)
          refine ⟨Fg.sT rfl (by decide) (fun _ => rfl) fun ac w h => ?_, ?_⟩
          · have e27 : ac.tmps.getD 27 undef = Value.bool false := h.dep 27 (by kernel_rfl)
            exact not_wants (d := 27) rfl rfl (by rw [h.size]; show 27 < 58; decide) e27 (by decide)
          refine ⟨Fg.sT rfl (by decide) (fun _ => rfl) fun ac w h => ?_, ?_⟩
          · have e27 : ac.tmps.getD 27 undef = Value.bool false := h.dep 27 (by kernel_rfl)
            exact not_wants (d := 27) rfl rfl (by rw [h.size]; show 27 < 58; decide) e27 (by decide)
          refine ⟨Fg.sT rfl (by decide) (fun _ => rfl) fun ac w h => ?_, ?_⟩
          · have e27 : ac.tmps.getD 27 undef = Value.bool false := h.dep 27 (by kernel_rfl)
            exact not_wants (d := 27) rfl rfl (by rw [h.size]; show 27 < 58; decide) e27 (by decide)
          refine ⟨Fg.sT rfl (by decide) (fun _ => rfl) fun ac w h => ?_, ?_⟩
          · have e27 : ac.tmps.getD 27 undef = Value.bool false := h.dep 27 (by kernel_rfl)
            exact not_wants (d := 27) rfl rfl (by rw [h.size]; show 27 < 58; decide) e27 (by decide)
          refine ⟨Fg.sT rfl (by decide) (fun _ => rfl) fun ac w h => ?_, ?_⟩
          · have e27 : ac.tmps.getD 27 undef = Value.bool false := h.dep 27 (by kernel_rfl)
            exact not_wants (d := 27) rfl rfl (by rw [h.size]; show 27 < 58; decide) e27 (by decide)
          refine ⟨Fg.sT rfl (by decide) (fun _ => rfl) fun ac w h => ?_, ?_⟩
          · have e27 : ac.tmps.getD 27 undef = Value.bool false := h.dep 27 (by kernel_rfl)
            exact not_wants (d := 27) rfl rfl (by rw [h.size]; show 27 < 58; decide) e27 (by decide)
          refine ⟨Fg.sT rfl (by decide) (fun _ => rfl) fun ac w h => ?_, ?_⟩
          · have e27 : ac.tmps.getD 27 undef = Value.bool false := h.dep 27 (by kernel_rfl)
            exact not_wants (d := 27) rfl rfl (by rw [h.size]; show 27 < 58; decide) e27 (by decide)
          refine ⟨Fg.sT rfl (by decide) (fun _ => rfl) fun ac w h => ?_, ?_⟩
          · have e27 : ac.tmps.getD 27 undef = Value.bool false := h.dep 27 (by kernel_rfl)
            exact not_wants (d := 27) rfl rfl (by rw [h.size]; show 27 < 58; decide) e27 (by decide)
          refine ⟨Fg.vT rfl (by decide) fun ac w h => ?_, ?_⟩
          · have e27 : ac.tmps.getD 27 undef = Value.bool false := h.dep 27 (by kernel_rfl)
            refine ⟨Value.bool false, w, wants_none rfl, ?_, gb_refl _ _, rfl⟩
            clear h
            simp only [execOp, Act.eval, e27]
            go_simp
          refine ⟨Fg.vT rfl (by decide) fun ac w h => ?_, ?_⟩
          · have e38 : ac.tmps.getD 38 undef = Value.bool false := h.dep 38 (by kernel_rfl)
            exact ⟨_, w, wants_none rfl, Fg.run_move rfl e38, gb_refl _ _, rfl⟩
          refine ⟨Fg.vT rfl (by decide) fun ac w h => ?_, ?_⟩
          · have e39 : ac.tmps.getD 39 undef = Value.bool false := h.dep 39 (by kernel_rfl)
            have e6 : ac.tmps.getD 6 undef = Value.int .i64 k := h.rest 6 (by kernel_rfl)
            exact ⟨_, w, wants_some (d := 39) rfl rfl (by rw [h.size]; show 39 < 58; decide) e39, Fg.run_move rfl e6, gb_refl _ _, rfl⟩
          refine ⟨Fg.vT rfl (by decide) fun ac w h => ?_, ?_⟩
          · have e39 : ac.tmps.getD 39 undef = Value.bool false := h.dep 39 (by kernel_rfl)
            have e1 : ac.tmps.getD 1 undef = Value.slice a n cap := h.rest 1 (by kernel_rfl)
            exact ⟨_, w, wants_some (d := 39) rfl rfl (by rw [h.size]; show 39 < 58; decide) e39, Fg.run_move rfl e1, gb_refl _ _, rfl⟩
          refine ⟨Fg.vT rfl (by decide) fun ac w h => ?_, ?_⟩
          · have e39 : ac.tmps.getD 39 undef = Value.bool false := h.dep 39 (by kernel_rfl)
            have e41 : ac.tmps.getD 41 undef = Value.slice a n cap := h.dep 41 (by kernel_rfl)
            have x41 : ac.tmps[41]?.getD undef = Value.slice a n cap := by simpa using e41
            refine ⟨.int .i64 n, w, wants_some (d := 39) rfl rfl (by rw [h.size]; show 39 < 58; decide) e39, ?_, gb_refl _ _, rfl⟩
            clear h e41
            go_simp
          refine ⟨Fg.vT rfl (by decide) fun ac w h => ?_, ?_⟩
          · have e39 : ac.tmps.getD 39 undef = Value.bool false := h.dep 39 (by kernel_rfl)
            have e40 : ac.tmps.getD 40 undef = Value.int .i64 k := h.dep 40 (by kernel_rfl)
            have e42 : ac.tmps.getD 42 undef = Value.int .i64 n := h.dep 42 (by kernel_rfl)
            have i1 := HCL.out.2.2.1
            have i2 := HCL.out.2.2.2.1
            have i3 : n ≤ k := by omega
            refine ⟨.bool true, w, wants_some (d := 39) rfl rfl (by rw [h.size]; show 39 < 58; decide) e39, ?_, gb_refl _ _, rfl⟩
            clear h
            simp only [execOp, Act.eval, e40, e42]
            go_simp
          refine ⟨Fg.vT rfl (by decide) fun ac w h => ?_, ?_⟩
          · have e39 : ac.tmps.getD 39 undef = Value.bool false := h.dep 39 (by kernel_rfl)
            have e43 : ac.tmps.getD 43 undef = Value.bool true := h.dep 43 (by kernel_rfl)
            exact ⟨_, w, wants_some (d := 39) rfl rfl (by rw [h.size]; show 39 < 58; decide) e39, Fg.run_move rfl e43, gb_refl _ _, rfl⟩
          refine ⟨Fg.vT rfl (by decide) fun ac w h => ?_, ?_⟩
          · have e44 : ac.tmps.getD 44 undef = Value.bool true := h.dep 44 (by kernel_rfl)
            have e5 : ac.tmps.getD 5 undef = Value.slice (some ⟨G, 0, none⟩) M (n + 12) := h.rest 5 (by kernel_rfl)
            exact ⟨_, w, wants_some (d := 44) rfl rfl (by rw [h.size]; show 44 < 58; decide) e44, Fg.run_move rfl e5, gb_refl _ _, rfl⟩
          refine ⟨Fg.vT rfl (by decide) fun ac w h => ?_, ?_⟩
          · have e44 : ac.tmps.getD 44 undef = Value.bool true := h.dep 44 (by kernel_rfl)
            have e6 : ac.tmps.getD 6 undef = Value.int .i64 k := h.rest 6 (by kernel_rfl)
            exact ⟨_, w, wants_some (d := 44) rfl rfl (by rw [h.size]; show 44 < 58; decide) e44, Fg.run_move rfl e6, gb_refl _ _, rfl⟩
          refine ⟨Fg.vT rfl (by decide) fun ac w h => ?_, ?_⟩
          · have e44 : ac.tmps.getD 44 undef = Value.bool true := h.dep 44 (by kernel_rfl)
            have e45 : ac.tmps.getD 45 undef = Value.slice (some ⟨G, 0, none⟩) M (n + 12) := h.dep 45 (by kernel_rfl)
            have e46 : ac.tmps.getD 46 undef = Value.int .i64 k := h.dep 46 (by kernel_rfl)
            have i0 : (k : Int) < (M : Int) := HCL.out.2.2.2.2.1
            refine ⟨.pointer (some ⟨G, k, none⟩), w, wants_some (d := 44) rfl rfl (by rw [h.size]; show 44 < 58; decide) e44, ?_, gb_refl _ _, rfl⟩
            clear h
            simp only [execOp, Act.eval, e45, e46]
            go_simp
          refine ⟨Fg.vT rfl (by decide) fun ac w h => ?_, ?_⟩
          · have e44 : ac.tmps.getD 44 undef = Value.bool true := h.dep 44 (by kernel_rfl)
            have e47 : ac.tmps.getD 47 undef = Value.pointer (some ⟨G, k, none⟩) := h.dep 47 (by kernel_rfl)
            have y0 : w.cell? ⟨G, k, none⟩ = some (.slice (some ⟨g0, 0, none⟩) 8 c0) := by rw [gb_cell h.base (block_lt_of_cell (HXZ.out)) (by simp)]; exact HXZ.out
            refine ⟨Value.slice (some ⟨g0, 0, none⟩) 8 c0, w, wants_some (d := 44) rfl rfl (by rw [h.size]; show 44 < 58; decide) e44, ?_, gb_refl _ _, rfl⟩
            clear h
            simp only [execOp, Act.eval, e47]
            go_simp
          refine ⟨Fg.vT rfl (by decide) fun ac w h => ?_, ?_⟩
          · have e44 : ac.tmps.getD 44 undef = Value.bool true := h.dep 44 (by kernel_rfl)
            have e6 : ac.tmps.getD 6 undef = Value.int .i64 k := h.rest 6 (by kernel_rfl)
            exact ⟨_, w, wants_some (d := 44) rfl rfl (by rw [h.size]; show 44 < 58; decide) e44, Fg.run_move rfl e6, gb_refl _ _, rfl⟩
          refine ⟨Fg.vT rfl (by decide) fun ac w h => ?_, ?_⟩
          · have e44 : ac.tmps.getD 44 undef = Value.bool true := h.dep 44 (by kernel_rfl)
            have e1 : ac.tmps.getD 1 undef = Value.slice a n cap := h.rest 1 (by kernel_rfl)
            exact ⟨_, w, wants_some (d := 44) rfl rfl (by rw [h.size]; show 44 < 58; decide) e44, Fg.run_move rfl e1, gb_refl _ _, rfl⟩
          refine ⟨Fg.vT rfl (by decide) fun ac w h => ?_, ?_⟩
          · have e44 : ac.tmps.getD 44 undef = Value.bool true := h.dep 44 (by kernel_rfl)
            have e50 : ac.tmps.getD 50 undef = Value.slice a n cap := h.dep 50 (by kernel_rfl)
            have x50 : ac.tmps[50]?.getD undef = Value.slice a n cap := by simpa using e50
            refine ⟨.int .i64 n, w, wants_some (d := 44) rfl rfl (by rw [h.size]; show 44 < 58; decide) e44, ?_, gb_refl _ _, rfl⟩
            clear h e50
            go_simp
          refine ⟨Fg.vT rfl (by decide) fun ac w h => ?_, ?_⟩
          · have e44 : ac.tmps.getD 44 undef = Value.bool true := h.dep 44 (by kernel_rfl)
            have e49 : ac.tmps.getD 49 undef = Value.int .i64 k := h.dep 49 (by kernel_rfl)
            have e51 : ac.tmps.getD 51 undef = Value.int .i64 n := h.dep 51 (by kernel_rfl)
            have i0 := HCL.out.2.2.2.2.2
            refine ⟨.int .i64 j, w, wants_some (d := 44) rfl rfl (by rw [h.size]; show 44 < 58; decide) e44, ?_, gb_refl _ _, rfl⟩
            clear h
            simp only [execOp, Act.eval, e49, e51]
            go_simp
          refine ⟨Fg.cT rfl (by decide) fun ac w h => ?_, ?_⟩
          · have e44 : ac.tmps.getD 44 undef = Value.bool true := h.dep 44 (by kernel_rfl)
            have e52 : ac.tmps.getD 52 undef = Value.int .i64 j := h.dep 52 (by kernel_rfl)
            refine ⟨54, #[Value.int .i64 1, Value.int .i64 j], wants_some (d := 44) rfl rfl (by rw [h.size]; show 44 < 58; decide) e44, Fg.run_call rfl rfl (by simp only [List.map_toArray, List.map_cons, List.map_nil, Act.eval, e52]) (Fg.run_enter Tryz.func54 (by kernel_rfl) (by kernel_rfl)), ?_⟩
            exact (HMK.out w).mono fun _ _ ⟨v, he, hg, hb⟩ => ⟨v, he, hg, hb⟩
          refine ⟨Fg.cT rfl (by decide) fun ac w h => ?_, ?_⟩
          · have e44 : ac.tmps.getD 44 undef = Value.bool true := h.dep 44 (by kernel_rfl)
            have e48 : ac.tmps.getD 48 undef = Value.slice (some ⟨g0, 0, none⟩) 8 c0 := h.dep 48 (by kernel_rfl)
            obtain ⟨h53, d53, e53, b53⟩ : ∃ hh dd, ac.tmps.getD 53 undef = .slice (some ⟨hh, 0, none⟩) 8 dd ∧ BytesAt w w.heap.size (some ⟨hh, 0, none⟩) dd MR := h.dep 53 (by kernel_rfl)
            refine ⟨15, #[Value.slice (some ⟨g0, 0, none⟩) 8 c0, Value.slice (some ⟨h53, 0, none⟩) 8 d53], wants_some (d := 44) rfl rfl (by rw [h.size]; show 44 < 58; decide) e44, Fg.run_call rfl rfl (by simp only [List.map_toArray, List.map_cons, List.map_nil, Act.eval, e48, e53]) (Fg.run_enter Tryz.func15 (by kernel_rfl) (by kernel_rfl)), ?_⟩
            exact (HSM.out w h53 d53 h.base b53).mono fun _ _ ⟨he, hg⟩ => ⟨_, he, hg, rfl⟩
          refine ⟨Fg.vT rfl (by decide) fun ac w h => ?_, ?_⟩
          · have e44 : ac.tmps.getD 44 undef = Value.bool true := h.dep 44 (by kernel_rfl)
            have e54 : ac.tmps.getD 54 undef = Value.bool true := h.dep 54 (by kernel_rfl)
            refine ⟨Value.bool false, w, wants_some (d := 44) rfl rfl (by rw [h.size]; show 44 < 58; decide) e44, ?_, gb_refl _ _, rfl⟩
            clear h
            simp only [execOp, Act.eval, e54]
            go_simp
          refine ⟨Fg.vT rfl (by decide) fun ac w h => ?_, ?_⟩
          · have e39 : ac.tmps.getD 39 undef = Value.bool false := h.dep 39 (by kernel_rfl)
            have e44 : ac.tmps.getD 44 undef = Value.bool true := h.dep 44 (by kernel_rfl)
            have e55 : ac.tmps.getD 55 undef = Value.bool false := h.dep 55 (by kernel_rfl)
            refine ⟨Value.bool false, w, wants_some (d := 39) rfl rfl (by rw [h.size]; show 39 < 58; decide) e39, ?_, gb_refl _ _, rfl⟩
            clear h
            simp only [execOp, Act.eval, e44, e55]
            go_simp
          refine ⟨Fg.vT rfl (by decide) fun ac w h => ?_, ?_⟩
          · have e39 : ac.tmps.getD 39 undef = Value.bool false := h.dep 39 (by kernel_rfl)
            have e56 : ac.tmps.getD 56 undef = Value.bool false := h.dep 56 (by kernel_rfl)
            refine ⟨Value.bool false, w, wants_none rfl, ?_, gb_refl _ _, rfl⟩
            clear h
            simp only [execOp, Act.eval, e39, e56]
            go_simp
          trivial
        · intro aq wq hB hsz hdf hrest hslots hpt
          obtain ⟨u23, e23⟩ : ∃ u, aq.tmps.getD 23 undef = u := ⟨_, rfl⟩
          obtain ⟨u24, e24⟩ : ∃ u, aq.tmps.getD 24 undef = u := ⟨_, rfl⟩
          obtain ⟨u25, e25⟩ : ∃ u, aq.tmps.getD 25 undef = u := ⟨_, rfl⟩
          obtain ⟨u26, e26⟩ : ∃ u, aq.tmps.getD 26 undef = u := ⟨_, rfl⟩
          obtain ⟨u27, e27⟩ : ∃ u, aq.tmps.getD 27 undef = u := ⟨_, rfl⟩
          obtain ⟨u28, e28⟩ : ∃ u, aq.tmps.getD 28 undef = u := ⟨_, rfl⟩
          obtain ⟨u29, e29⟩ : ∃ u, aq.tmps.getD 29 undef = u := ⟨_, rfl⟩
          obtain ⟨u30, e30⟩ : ∃ u, aq.tmps.getD 30 undef = u := ⟨_, rfl⟩
          obtain ⟨u31, e31⟩ : ∃ u, aq.tmps.getD 31 undef = u := ⟨_, rfl⟩
          obtain ⟨u32, e32⟩ : ∃ u, aq.tmps.getD 32 undef = u := ⟨_, rfl⟩
          obtain ⟨u33, e33⟩ : ∃ u, aq.tmps.getD 33 undef = u := ⟨_, rfl⟩
          obtain ⟨u34, e34⟩ : ∃ u, aq.tmps.getD 34 undef = u := ⟨_, rfl⟩
          obtain ⟨u35, e35⟩ : ∃ u, aq.tmps.getD 35 undef = u := ⟨_, rfl⟩
          obtain ⟨u36, e36⟩ : ∃ u, aq.tmps.getD 36 undef = u := ⟨_, rfl⟩
          obtain ⟨u37, e37⟩ : ∃ u, aq.tmps.getD 37 undef = u := ⟨_, rfl⟩
          obtain ⟨u38, e38⟩ : ∃ u, aq.tmps.getD 38 undef = u := ⟨_, rfl⟩
          obtain ⟨u39, e39⟩ : ∃ u, aq.tmps.getD 39 undef = u := ⟨_, rfl⟩
          obtain ⟨u40, e40⟩ : ∃ u, aq.tmps.getD 40 undef = u := ⟨_, rfl⟩
          obtain ⟨u41, e41⟩ : ∃ u, aq.tmps.getD 41 undef = u := ⟨_, rfl⟩
          obtain ⟨u42, e42⟩ : ∃ u, aq.tmps.getD 42 undef = u := ⟨_, rfl⟩
          obtain ⟨u43, e43⟩ : ∃ u, aq.tmps.getD 43 undef = u := ⟨_, rfl⟩
          obtain ⟨u44, e44⟩ : ∃ u, aq.tmps.getD 44 undef = u := ⟨_, rfl⟩
          obtain ⟨u45, e45⟩ : ∃ u, aq.tmps.getD 45 undef = u := ⟨_, rfl⟩
          obtain ⟨u46, e46⟩ : ∃ u, aq.tmps.getD 46 undef = u := ⟨_, rfl⟩
          obtain ⟨u47, e47⟩ : ∃ u, aq.tmps.getD 47 undef = u := ⟨_, rfl⟩
          obtain ⟨u48, e48⟩ : ∃ u, aq.tmps.getD 48 undef = u := ⟨_, rfl⟩
          obtain ⟨u49, e49⟩ : ∃ u, aq.tmps.getD 49 undef = u := ⟨_, rfl⟩
          obtain ⟨u50, e50⟩ : ∃ u, aq.tmps.getD 50 undef = u := ⟨_, rfl⟩
          obtain ⟨u51, e51⟩ : ∃ u, aq.tmps.getD 51 undef = u := ⟨_, rfl⟩
          obtain ⟨u52, e52⟩ : ∃ u, aq.tmps.getD 52 undef = u := ⟨_, rfl⟩
          obtain ⟨u53, e53⟩ : ∃ u, aq.tmps.getD 53 undef = u := ⟨_, rfl⟩
          obtain ⟨u54, e54⟩ : ∃ u, aq.tmps.getD 54 undef = u := ⟨_, rfl⟩
          obtain ⟨u55, e55⟩ : ∃ u, aq.tmps.getD 55 undef = u := ⟨_, rfl⟩
          obtain ⟨u56, e56⟩ : ∃ u, aq.tmps.getD 56 undef = u := ⟨_, rfl⟩
          have e57 : aq.tmps.getD 57 undef = Value.bool false := hslots 57 (by kernel_rfl)
          obtain rfl := Fg.frame_is (a := aq) (vs := [Value.slice (some ⟨G, 0, none⟩) n (n + 12), Value.slice a n cap, undef, undef, u4, Value.slice (some ⟨G, 0, none⟩) M (n + 12), Value.int .i64 k, Value.slice (some ⟨G, 0, none⟩) n (n + 12), Value.int .i64 n, Value.slice a n cap, Value.int .i64 n, Value.bool false, Value.slice (some ⟨G, 0, none⟩) n (n + 12), Value.slice a n cap, Value.int .i64 n, Value.int .i64 ((n : Int) + 12), Value.slice (some ⟨G, 0, none⟩) M (n + 12), Value.int .i64 k, Value.slice (some ⟨G, 0, none⟩) M (n + 12), Value.int .i64 M, Value.bool true, u21, u22, u23, u24, u25, u26, u27, u28, u29, u30, u31, u32, u33, u34, u35, u36, u37, u38, u39, u40, u41, u42, u43, u44, u45, u46, u47, u48, u49, u50, u51, u52, u53, u54, u55, u56, Value.bool false]) hsz ⟨hrest 0 (by kernel_rfl), hrest 1 (by kernel_rfl), hrest 2 (by kernel_rfl), hrest 3 (by kernel_rfl), hrest 4 (by kernel_rfl), hrest 5 (by kernel_rfl), hrest 6 (by kernel_rfl), hrest 7 (by kernel_rfl), hrest 8 (by kernel_rfl), hrest 9 (by kernel_rfl), hrest 10 (by kernel_rfl), hrest 11 (by kernel_rfl), hrest 12 (by kernel_rfl), hrest 13 (by kernel_rfl), hrest 14 (by kernel_rfl), hrest 15 (by kernel_rfl), hrest 16 (by kernel_rfl), hrest 17 (by kernel_rfl), hrest 18 (by kernel_rfl), hrest 19 (by kernel_rfl), hrest 20 (by kernel_rfl), hrest 21 (by kernel_rfl), hrest 22 (by kernel_rfl), e23, e24, e25, e26, e27, e28, e29, e30, e31, e32, e33, e34, e35, e36, e37, e38, e39, e40, e41, e42, e43, e44, e45, e46, e47, e48, e49, e50, e51, e52, e53, e54, e55, e56, e57, trivial⟩ hdf
          clear hsz hdf hrest hslots hpt e23 e24 e25 e26 e27 e28 e29 e30 e31 e32 e33 e34 e35 e36 e37 e38 e39 e40 e41 e42 e43 e44 e45 e46 e47 e48 e49 e50 e51 e52 e53 e54 e55 e56 e57
          have HGq := Lib.hid (gb_trans HG2.out hB)
          clear hB HG2 HXZ HMK HSM HCL HZB
          refine wpList_nil ?_
          go_wp2
          exact ⟨⟨k + 1, by omega, rfl, HGq.out⟩, by show M - ((k : Int) + 1).toNat < M - (k : Int).toNat; omega⟩
    · obtain rfl : k = M := by omega
      have HE := Lib.hid (HQ.out _ HI.out)
      clear hkM
      go_wp2
      exact HE.out
end Go.Proofs.YtlkiancedgaicaaGreat
