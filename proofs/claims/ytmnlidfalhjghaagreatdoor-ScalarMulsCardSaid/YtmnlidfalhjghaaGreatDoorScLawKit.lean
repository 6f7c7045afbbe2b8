/- scalar's laws: small numbers' bytes, the order's; sums and products. -/
import Derived.Test.YtmnlidfalhjghaaGreatDoorScPub
import Derived.Test.YtmnlidfalhjghaaGreatDoorScBitsAll
import Derived.Test.YtmnlidfalhjghaaGreatDoorSame
import Derived.Test.YtmnlidfalhjghaaGreatDoorMake
import Derived.Laws.CopyOwn
namespace Go.Proofs.YtmnlidfalhjghaaGreatDoor
open Go.RowKit Ow

theorem OutB.bytes {l : List Nat} {w w' : World} {e : Ending} (h : OutB l w e w') (hl : l.length = 32) (hb : ∀ i, l.getD i 0 < 256) :
    ∃ g, e = .returned (.slice (some ⟨g, 0, none⟩) 32 32) ∧ w.grownBy w' none ∧ BytesAt w' w'.heap.size (some ⟨g, 0, none⟩) 32 l := by
  obtain ⟨g, rfl, hg, _, hk⟩ := h
  refine ⟨g, by rw [hl], hg, blk_bytes (tl := []) (by rw [List.append_nil]; exact hk) hl (Nat.le_refl _) (by omega) hb hk.lt (Nat.le_refl _)⟩
/-- 32 bytes of a small number -/
def oneB (n : Nat) : List Nat := n :: List.replicate 31 0
theorem oneB_length (n : Nat) : (oneB n).length = 32 := by simp [oneB]
theorem rep0 (k i : Nat) : (List.replicate k (0 : Nat)).getD i 0 = 0 := by
  rw [List.getD_eq_getElem?_getD, List.getElem?_replicate]; split <;> rfl
theorem oneB_lt (n : Nat) (hn : n < 256) : ∀ i, (oneB n).getD i 0 < 256 := by
  intro i
  cases i with
  | zero => exact hn
  | succ i => show (List.replicate 31 0).getD i 0 < 256; rw [rep0]; decide
theorem leN_zero (f : Nat → Nat) (k : Nat) (h : ∀ i, 1 ≤ i → i < k → f i = 0) (hk : 1 ≤ k) : Sc.leN f k = f 0 := by
  induction k with
  | zero => omega
  | succ k ih =>
    rcases Nat.eq_zero_or_pos k with h0 | h0
    · subst h0; simp [Sc.leN]
    · rw [Sc.leN, h k h0 (by omega), ih (fun i h1 h2 => h i h1 (by omega)) h0]; simp
theorem num_oneB (n : Nat) : num (oneB n) = n := by
  unfold num
  rw [oneB_length, leN_zero _ 32 (fun i h1 h2 => by
    obtain ⟨j, rfl⟩ : ∃ j, i = j + 1 := ⟨i - 1, by omega⟩
    exact rep0 31 j) (by decide)]
  rfl
set_option maxHeartbeats 400000 in
theorem sone_any (n : Nat) (w : World) : Calls Tryz.prog 22 #[.int .u8 (n : Int)] w (OutB (oneB n) w) := by
  obtain ⟨w1, hmk, hg, hs, hb⟩ := make_bytes 32 32 w (by omega) (by omega)
  have hmk' : (Instr.makeSlice 22 (.int .i64 32) (.int .i64 32)).run Tryz.prog w = .ok (.slice (some ⟨w.heap.size, 0, none⟩) 32 32) w1 := hmk
  have c0 := hb.cell (i := 0) rfl
  have f0 := hb.free 0
  have hset := hb.set 0 (u8N n)
  have HB : Hid (Blk (w1.setCell ⟨w.heap.size, 0, none⟩ (.int .u8 (n : Int))) w.heap.size 5 ((oneB n).map u8N)) := hset
  have HG := Lib.hid hg
  unfold u8N at c0
  clear hmk hb hset hg hs
  go_enter Tryz.func22, Tryz.ntmps22
  go_wp2
  go_ret
  exact ⟨w.heap.size, by rw [oneB_length]; rfl, gb_set_new HG.out (Nat.le_refl _) _, Nat.le_refl _, HB.out⟩

/-- the order's bytes, the lowest one turned -/
def ordB (n : Nat) : List Nat := [n, 0xd3, 0xf5, 0x5c, 0x1a, 0x63, 0x12, 0x58, 0xd6, 0x9c, 0xf7, 0xa2, 0xde, 0xf9, 0xde, 0x14, 0, 0, 0, 0, 0, 0, 0, 0, 0, 0, 0, 0, 0, 0, 0, 0x10]
theorem ordB_lt (n : Nat) (hn : n < 256) : ∀ i, (ordB n).getD i 0 < 256 := by
  intro i
  rcases Nat.lt_or_ge i 32 with h | h
  · have hall : ∀ x ∈ (ordB n), x < 256 := by
      intro x hx
      simp only [ordB, List.mem_cons, List.not_mem_nil, or_false] at hx
      omega
    rw [getD_at (ordB n) i h]
    exact hall _ (List.getElem_mem _)
  · rw [List.getD_eq_getElem?_getD, List.getElem?_eq_none h]; decide
theorem num_ordB (n : Nat) : num (ordB n) + 237 = Sc.L + n := by
  unfold num
  show Sc.leN (fun i => (ordB n).getD i 0) 32 + 237 = _
  have e : Sc.leN (fun i => (ordB n).getD i 0) 32 + 237 = n + 7237005577332262213973186563042994240857116359379907606001950938285454250989 := by
    simp only [Sc.leN, ordB, List.getD_cons_succ, List.getD_cons_zero]
    omega
  rw [e, Nat.add_comm]; rfl
def ord16 : List Value := [.int .u8 237, .int .u8 211, .int .u8 245, .int .u8 92, .int .u8 26, .int .u8 99, .int .u8 18, .int .u8 88, .int .u8 214, .int .u8 156, .int .u8 247, .int .u8 162, .int .u8 222, .int .u8 249, .int .u8 222, .int .u8 20]
theorem size_u8 : (Tryz.prog.info? 5).map (·.size) = some 1 := by kernel_rfl
theorem copy_ord (w : World) (G S : Nat) (hG : Blk w G 5 (List.replicate 32 (u8N 0))) (hS : Blk w S 5 ord16) :
    ∃ w', (Builtin.copy_ #[22, 22] 3 #[.slice (some ⟨G, 0, none⟩) 32 32, .slice (some ⟨S, 0, none⟩) 16 16]).run Tryz.prog w = .ok (.int .i64 16) w' ∧ w.grownBy w' (some G) ∧ Blk w' G 5 (ord16 ++ List.replicate 16 (u8N 0)) := by
  have h := run_copy_row (P := Tryz.prog) w 22 22 3 5 G 0 32 32 ⟨S, 0, none⟩ 16 16 (List.replicate 32 (u8N 0)).toArray 5 ord16 Tryz.underlying22 size_u8 hG rfl
    (fun j v hv => by
      have hadd : (⟨S, 0, none⟩ : Addr).add j = ⟨S, j, none⟩ := by unfold Addr.add; split <;> simp_all
      rw [hadd]; exact hS.cell hv) (by simp [ord16]) (by intro v hv; simp only [ord16, List.mem_cons, List.not_mem_nil, or_false] at hv; rcases hv with rfl | rfl | rfl | rfl | rfl | rfl | rfl | rfl | rfl | rfl | rfl | rfl | rfl | rfl | rfl | rfl <;> rfl)
  exact ⟨_, h, gb_setRow' (gb_refl _ _) _, hG.row _⟩
set_option maxRecDepth 100000 in
set_option maxHeartbeats 1000000 in
theorem l_any (m : Int) (n : Nat) (w : World) (hm : m + 237 = n) (hn : n < 256) : Calls Tryz.prog 21 #[.int .i64 m] w (OutB (ordB n) w) := by
  obtain ⟨w1, hmk, hg, hs, hb⟩ := make_bytes 32 32 w (by omega) (by omega)
  have hmk' : (Instr.makeSlice 22 (.int .i64 32) (.int .i64 32)).run Tryz.prog w = .ok (.slice (some ⟨w.heap.size, 0, none⟩) 32 32) w1 := hmk
  have hS := blk_at w1 (B := w.heap.size + 1) ord16 5 hs
  have hb2 := hb.alloc (.cells ord16.toArray 5)
  have hg2 := gb_alloc hg (.cells ord16.toArray 5)
  obtain ⟨w3, hcp, hg3, hb3⟩ := copy_ord _ w.heap.size (w.heap.size + 1) hb2 hS
  have hcp' : (Builtin.copy_ #[22, 22] 3 #[.slice (some ⟨w.heap.size, 0, none⟩) 32 32, .slice (some ⟨w.heap.size + 1, 0, none⟩) 16 16]).run Tryz.prog (w1.alloc (.cells #[.int .u8 237, .int .u8 211, .int .u8 245, .int .u8 92, .int .u8 26, .int .u8 99, .int .u8 18, .int .u8 88, .int .u8 214, .int .u8 156, .int .u8 247, .int .u8 162, .int .u8 222, .int .u8 249, .int .u8 222, .int .u8 20] 5)) = .ok (.int .i64 16) w3 := hcp
  have hg4 := gb_then hg2 hg3 (Nat.le_refl _)
  have c31 := hb3.cell (i := 31) rfl
  have f31 := hb3.free 31
  have c0 := hb3.cell (i := 0) rfl
  have f0 := hb3.free 0
  have hset := (hb3.set 31 (u8N 16)).set 0 (u8N n)
  have HB : Hid (Blk ((w3.setCell ⟨w.heap.size, 31, none⟩ (.int .u8 16)).setCell ⟨w.heap.size, 0, none⟩ (.int .u8 (237 + m))) w.heap.size 5 ((ordB n).map u8N)) := by
    have e : 237 + m = (n : Int) := by omega
    rw [e]; exact hset
  have HG := Lib.hid hg4
  unfold u8N at c31
  have m1 : -237 ≤ m := by omega
  have m2 : m ≤ 18 := by omega
  clear hmk hb hg hb2 hS hg2 hcp hg3 hb3 hg4 hset hm
  go_enter Tryz.func21, Tryz.ntmps21
  go_wp2
  go_ret
  exact ⟨w.heap.size, by rw [show (ordB n).length = 32 from rfl]; rfl, gb_set_new (gb_set_new HG.out (Nat.le_refl _) _) (Nat.le_refl _) _, Nat.le_refl _, HB.out⟩
end Go.Proofs.YtmnlidfalhjghaaGreatDoor
