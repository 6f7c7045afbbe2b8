/- shard: a key's digest. -/
import Derived.Test.YtpihmhabcmheaaaDoorShdShard
import Derived.Test.YtpihmhabcmheaaaDoorStr
import Derived.Test.YtpihmhabcmheaaaDoorShaLawKit
import Derived.Great.FillDense
namespace Go.Proofs.YtpihmhabcmheaaaDoor
open Go.RowKit Ow
/-- what is digested of a key -/
def keyL (s : ByteArray) : List Nat := 6 :: strL s
def keyD (s : ByteArray) : List Nat := Sha.sum (keyL s)
theorem keyD_len (s : ByteArray) : (keyD s).length = 64 := rfl
theorem keyD_byte (s : ByteArray) (i : Nat) : (keyD s).getD i 0 < 256 := sum_byte _ i
theorem bytes_part {w : World} {B cap : Nat} {a : Option Addr} {l : List Nat} (h : BytesAt w B a cap l) {B' : Nat} (hB : B ≤ B') : PartAt w B' a cap l := by
  refine ⟨h.fits, h.byte, ?_⟩
  rcases h.cells with h0 | ⟨pb, po, e, hl, hc⟩
  · exact Or.inl h0
  · exact Or.inr ⟨pb, po, e, by omega, by have := h.lim; omega, fun i hi => hc i hi⟩
theorem run_conv {P : Program} {ρ : Operand → Value} {o : Oper} {w w' : World} {x : Operand} {t1 t2 : TypeId} {u v : Value} (ho : o.op = .convert t1 t2 x) (hx : ρ x = u) (hr : (convert t1 t2 u).run P w = .ok v w') : (execOp ρ o).run P w = .ok (.value v) w' := by
  unfold execOp
  simp only [ho, hx, Sem.run_bind, hr, Result.andThen_ok, Sem.run_pure]
theorem run_arr {P : Program} {ρ : Operand → Value} {o : Oper} {w w' : World} {x : Operand} {t : TypeId} {u v : Value} (ho : o.op = .sliceToArrayPointer t x) (hx : ρ x = u) (hr : (Instr.arrayAt t u).run P w = .ok v w') : (execOp ρ o).run P w = .ok (.value v) w' := by
  unfold execOp
  simp only [ho, hx, Sem.run_bind, hr, Result.andThen_ok, Sem.run_pure]
theorem fill_at (p q : Nat → Option (Nat × Nat)) (h : p 0 = q 0) (c : Array Value) (v : Value) : Instr.fill p c [(0, v)] = Instr.fill q c [(0, v)] := by
  simp only [Instr.fill, h]
set_option maxRecDepth 100000 in
theorem built_digest (V : List Value) (hV : V.length = 64) : Tryd.prog.built 32 [(0, .agg V.toArray)] = some V.toArray := by
  have hk : (Tryd.prog.info? 32).bind (fun it => it.zero.map (fun z => z.cells.size)) = some 64 := by kernel_rfl
  obtain ⟨fs, hu, hm⟩ : ∃ fs, Tryd.prog.underlying 32 = some (.struct fs) ∧ fs.toList.mapM (fun f => (Tryd.prog.info? f.type).map fun i => (f.offset, i.size)) = some [(0, 64)] := ⟨_, Tryd.underlying32, by kernel_rfl⟩
  unfold Program.built
  cases hit : Tryd.prog.info? 32 with
  | none => rw [hit] at hk; cases hk
  | some it =>
    rw [hit] at hk
    cases hz : it.zero with
    | none => simp [hz] at hk
    | some z =>
      simp [hz] at hk
      rw [hu]
      dsimp only
      rw [hz, hm]
      dsimp only
      rw [fill_at _ (fun i => some (i * 64, 64)) rfl]
      have h := Great.fill_whole (s := 64) (by decide) [.agg V.toArray] z.cells (fun v hv => by rw [List.mem_singleton.1 hv]; show V.toArray.size = 64; simpa using hV) (by simp; omega)
      rw [show [((0 : Nat), Value.agg V.toArray)] = ([Value.agg V.toArray].zipIdx 0).map (fun x => (x.2, x.1)) from rfl, h]
      simp [Value.cells]
theorem octets_at (R cap : Nat) (w : World) : (Instr.arrayAt 30 (.slice (some ⟨R, 0, none⟩) 64 cap)).run Tryd.prog w = .ok (.pointer (some ⟨R, 0, none⟩)) w := by
  simp [Instr.arrayAt, run_underlying Tryd.underlying30]
/-- a key's two parts -/
def keyParts (A C c : Nat) (s : ByteArray) : List Part := [⟨some ⟨A, 0, none⟩, 1, [6]⟩, ⟨some ⟨C, 0, none⟩, c, strL s⟩]
theorem key_joined (A C c : Nat) (s : ByteArray) : joined (keyParts A C c s) = keyL s := by simp [joined, keyParts, keyL]
/-- Sum of a key's parts -/
theorem key_sum (A C c n : Nat) (s : ByteArray) (w : World) (hn : s.size = n) (hT : Tables w) (hs : s.size < 2147480000) (hA : BytesAt w w.heap.size (some ⟨A, 0, none⟩) 1 [6]) (hC : BytesAt w w.heap.size (some ⟨C, 0, none⟩) c (strL s)) :
    Calls Tryd.prog 11 #[.slice (some ⟨w.heap.size, 0, none⟩) 2 2] (w.alloc (.cells #[.slice (some ⟨A, 0, none⟩) 1 1, .slice (some ⟨C, 0, none⟩) n c] 26)) fun e w' => ∃ NB, e = .returned (.slice (some ⟨NB, 0, none⟩) 64 64) ∧ w.grownBy w' none ∧ w.heap.size ≤ NB ∧ Blk w' NB 5 ((keyD s).map u8N) := by
  have h := sum_many (w.heap.size + 1) 2 (keyParts A C c s) #[.slice (some ⟨A, 0, none⟩) 1 1, .slice (some ⟨C, 0, none⟩) n c] w (by simp [keyParts, Part.v, strL_len, hn]) rfl hT (by omega) (fun p hp => by
    unfold keyParts at hp
    simp only [List.mem_cons, List.not_mem_nil, or_false] at hp
    rcases hp with rfl | rfl
    · exact ⟨bytes_part hA (by omega), by show (1 : Nat) < _; decide⟩
    · exact ⟨bytes_part hC (by omega), hC.top⟩) (by decide) (by rw [key_joined]; simp only [keyL, List.length_cons, strL_len]; omega)
  rw [key_joined] at h
  exact h
set_option maxRecDepth 100000 in
set_option maxHeartbeats 2000000 in
theorem digestOf_any (s : ByteArray) (w0 : World) (hT : Tables w0) (hs : s.size < 2147480000) :
    Calls Tryd.prog 12 #[.string s] w0 fun e w' => e = .returned (.agg ((keyD s).map u8N).toArray) ∧ w0.grownBy w' none := by
  have HT := Lib.hid hT; clear hT
  go_enter Tryd.func12, Tryd.ntmps12
  go_upto_region 1 with (fail)
  show Code.wp _ _ _ _ (w0.alloc (.cells (List.replicate 64 (u8N 0)).toArray 32))
  have hb := blk_at w0 (B := w0.heap.size) (List.replicate 64 (u8N 0)) 32 rfl
  have g1 := gb_alloc (gb_refl w0 none) (.cells (List.replicate 64 (u8N 0)).toArray 32)
  revert hb g1
  generalize w0.alloc (.cells (List.replicate 64 (u8N 0)).toArray 32) = w1
  intro hb g1
  have hA := blk_bytes (l := [6]) (n := 1) (cap := 1) (tl := []) (blk_at w1 (B := w1.heap.size) [u8N 6] 5 rfl) rfl (by omega) (by omega) (fun i => small_byte [6] (by decide) i) (Nat.lt_succ_self _) (by simp)
  obtain ⟨c, w3, hcv, hg3, hC⟩ := str_bytes s (w1.alloc (.cells #[u8N 6] 5)) (by omega)
  have s2 : (w1.alloc (.cells #[u8N 6] 5)).heap.size = w1.heap.size + 1 := by simp
  rw [s2] at hcv hC
  have hA3 := (hA.stay hg3).up (B' := w3.heap.size) (by have := hg3.size; rw [s2] at this; exact this) (Nat.le_refl _)
  have g3 := gb_trans (gb_alloc (gb_refl w1 none) (.cells #[u8N 6] 5)) hg3
  have hsum := key_sum w1.heap.size (w1.heap.size + 1) c s.size s w3 rfl (HT.out.kept (gb_trans g1 g3) (by simp)) hs hA3 hC
  have hcv : (convert 9 26 (.string s)).run Tryd.prog (w1.alloc (.cells #[.int .u8 6] 5)) = .ok (.slice (some ⟨w1.heap.size + 1, 0, none⟩) s.size c) w3 := hcv
  refine wp_region_lit ?_
  refine Fg.wpl_value (v := .slice (some ⟨w1.heap.size, 0, none⟩) 1 1) (w' := w1.alloc (.cells #[.int .u8 6] 5)) rfl (by go_simp) ?_
  simp only [Act.put, List.setIfInBounds_toArray, List.set_cons_succ, List.set_cons_zero]
  refine Fg.wpl_value (v := .string s) (w' := w1.alloc (.cells #[.int .u8 6] 5)) rfl (Fg.run_move rfl rfl) ?_
  simp only [Act.put, List.setIfInBounds_toArray, List.set_cons_succ, List.set_cons_zero]
  refine Fg.wpl_value (v := .slice (some ⟨w1.heap.size + 1, 0, none⟩) s.size c) (w' := w3) rfl (run_conv rfl rfl hcv) ?_
  simp only [Act.put, List.setIfInBounds_toArray, List.set_cons_succ, List.set_cons_zero]
  refine Fg.wpl_value (v := .slice (some ⟨w3.heap.size, 0, none⟩) 2 2) (w' := w3.alloc (.cells #[.slice (some ⟨w1.heap.size, 0, none⟩) 1 1, .slice (some ⟨w1.heap.size + 1, 0, none⟩) s.size c] 26)) rfl (by go_simp) ?_
  simp only [Act.put, List.setIfInBounds_toArray, List.set_cons_succ, List.set_cons_zero]
  refine Fg.wpl_call rfl (Fg.run_call (vs := #[.slice (some ⟨w3.heap.size, 0, none⟩) 2 2]) rfl rfl (by simp only [List.map_toArray, List.map_cons, List.map_nil, Act.eval]; rfl) (Fg.run_enter Tryd.func11 (by kernel_rfl) (by kernel_rfl))) ?_
  refine hsum.mono ?_
  rintro e w5 ⟨NB, rfl, g5, hNB, hD⟩
  refine ⟨_, rfl, ?_⟩
  simp only [Act.put, List.setIfInBounds_toArray, List.set_cons_succ, List.set_cons_zero]
  have hb5 := (hb.grown g3 (by simp)).grown g5 (by simp)
  have g05 := gb_trans (gb_trans g1 g3) g5
  have z0 := g1.size
  have h00 := hb.lt
  have z3 := g3.size
  clear hcv hC hA hA3 g3 g5 hsum hg3 hb g1
  refine Fg.wpl_value (v := .pointer (some ⟨NB, 0, none⟩)) (w' := w5) rfl (run_arr rfl rfl (octets_at NB 64 w5)) ?_
  simp only [Act.put, List.setIfInBounds_toArray, List.set_cons_succ, List.set_cons_zero]
  have hl : ((keyD s).map u8N).length = 64 := by rw [List.length_map, keyD_len]
  have h1 : ((keyD s).map u8N).all (·.oneCell') = true := by
    rw [List.all_eq_true]
    intro v hv
    obtain ⟨x, _, rfl⟩ := List.mem_map.1 hv
    rfl
  have hlt := hb5.lt
  obtain ⟨V, hV⟩ : ∃ V, V = (keyD s).map u8N := ⟨_, rfl⟩
  rw [← hV] at hD hl h1
  have HV := Lib.hid hV; clear hV
  refine Fg.wpl_value (v := .agg V.toArray) (w' := w5) rfl (Fg.run_load rfl rfl (hD.range 0 V (by rw [List.drop_zero, List.take_length])) Tryd.underlying30 rfl (by rw [hl]; exact info_octets)) ?_
  simp only [Act.put, List.setIfInBounds_toArray, List.set_cons_succ, List.set_cons_zero]
  refine Fg.wpl_value (v := .agg V.toArray) (w' := w5) rfl (Fg.run_build (vs := #[(0, .agg V.toArray)]) rfl (by simp [Act.eval]) (run_build w5 32 _ V.toArray (built_digest V hl))) ?_
  simp only [Act.put, List.setIfInBounds_toArray, List.set_cons_succ, List.set_cons_zero]
  refine Fg.wpl_skip rfl rfl (Fg.run_store (b := w0.heap.size) (off := 0) (cs := V) rfl rfl rfl (hb5.there 0 V.length (by rw [hl]; simp)) (by rw [hl]; exact info_digest) h1) ?_
  refine wpList_nil ?_
  have hb6 := hb5.setAll (cs := V) (by rw [hl]; simp)
  have g6 := gb_setCells_new (cs := V) g05 (B := w0.heap.size) (Nat.le_refl _) 0
  clear hb5 g05 hD
  revert hb6 g6
  generalize w5.setCells w0.heap.size 0 V = w6
  intro hb6 g6
  go_wp2_with fail
  exact bodyPost_ret (v := .agg V.toArray) (results_cell_row Tryd.results12 _ _ w0.heap.size 32 V.toArray (0, 0) _ rfl hb6 Tryd.underlying32 rfl (by rw [List.size_toArray, hl]; exact info_digest)) rfl ⟨by rw [HV.out], g6⟩
end Go.Proofs.YtpihmhabcmheaaaDoor
