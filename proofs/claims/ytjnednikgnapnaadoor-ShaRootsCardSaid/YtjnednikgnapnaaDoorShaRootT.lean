/- sha's constants out of roots: the product of two numbers. -/
import Derived.Test.YtjnednikgnapnaaDoorShaRootW
namespace Go.Proofs.YtjnednikgnapnaaDoor
open Go.RowKit Ow Ns
namespace Sha
theorem info_u32z : ∃ i, Tryd.prog.info? 45 = some i ∧ i.zero = some (.int .u32 0) ∧ i.size = 1 ∧ i.bytes = 4 := by
  have h : (Tryd.prog.info? 45).map (fun i => (i.zero, i.size, i.bytes)) = some (some (.int .u32 0), 1, 4) := by kernel_rfl
  cases hi : Tryd.prog.info? 45 with
  | none => rw [hi] at h; cases h
  | some i =>
    rw [hi] at h
    simp only [Option.map_some, Option.some.injEq, Prod.mk.injEq] at h
    exact ⟨i, rfl, h.1, h.2.1, h.2.2⟩
theorem made_digs (n : Nat) : madeCells (Value.int .u32 0).cells n = (List.replicate n (u32N 0)).toArray := by
  unfold madeCells u32N
  apply Array.ext
  · simp
  · intro i h1 h2
    simp [Value.cells, Nat.mod_one]
theorem make_digs (n : Nat) (w : World) (hc : n ≤ 1000) : ∃ w', (Instr.makeSlice 44 (.int .i64 n) (.int .i64 n)).run Tryd.prog w = .ok (.slice (some ⟨w.heap.size, 0, none⟩) n n) w' ∧
    w.grownBy w' none ∧ Blk w' w.heap.size 45 ((List.replicate n 0).map u32N) := by
  obtain ⟨i, hi, hz, hs, hb⟩ := info_u32z
  have h2 := run_make (P := Tryd.prog) w 44 45 i (.int .u32 0) Tryd.underlying44 hi hz .i64 .i64 n n (by omega) (by omega) (by rw [hb]; omega) (by omega)
  rw [hs, Nat.mul_one, Int.toNat_natCast, made_digs] at h2
  refine ⟨_, h2, gb_alloc (gb_refl _ _) _, ?_⟩
  rw [List.map_replicate]
  exact Blk.new w _ _
theorem zeros_at (n j : Nat) : (List.replicate n 0).getD j 0 = 0 := by
  rw [List.getD_eq_getElem?_getD, List.getElem?_replicate]
  split <;> rfl
theorem set_map (l : List Nat) (i x : Nat) : (l.map u32N).set i (.int .u32 (x : Int)) = (l.set i x).map u32N := by rw [List.map_set]; rfl
set_option maxHeartbeats 4000000 in
set_option maxRecDepth 100000 in
theorem times_any (A B : List Nat) (ga gb m n ca cb : Nat) (w : World) (hA : Blk w ga 45 (A.map u32N)) (hB : Blk w gb 45 (B.map u32N)) (hm : A.length = m) (hn : B.length = n) (hm2 : m ≤ 100) (hn2 : n ≤ 100) (wA : Whole A) (wB : Whole B) :
    Calls Tryd.prog 17 #[.slice (some ⟨ga, 0, none⟩) m ca, .slice (some ⟨gb, 0, none⟩) n cb] w fun e w' => ∃ (g : Nat) (C : List Nat), e = .returned (.slice (some ⟨g, 0, none⟩) (m + n) (m + n)) ∧ w.grownBy w' none ∧ Blk w' g 45 (C.map u32N) ∧ C.length = m + n ∧ Whole C ∧ V C = V A * V B := by
  have HA : Hid ((∀ w', w.grownBy w' none → Blk w' ga 45 (A.map u32N)) ∧ A.length = m ∧ Whole A) := ⟨fun w' hg => hA.grown hg (by simp), hm, wA⟩
  have HB : Hid ((∀ w', w.grownBy w' none → Blk w' gb 45 (B.map u32N)) ∧ B.length = n ∧ Whole B) := ⟨fun w' hg => hB.grown hg (by simp), hn, wB⟩
  clear hA hm wA hB hn wB
  obtain ⟨q, hq⟩ : ∃ q, q = m + n := ⟨_, rfl⟩
  rw [← hq]
  obtain ⟨w1, hmk, hg1, hb1⟩ := make_digs q w (by omega)
  rw [show ((q : Nat) : Int) = (m : Int) + (n : Int) by omega] at hmk
  obtain ⟨g, hgg⟩ : ∃ g, g = w.heap.size := ⟨_, rfl⟩
  rw [← hgg] at hmk hb1
  have H1 := Lib.hid (And.intro hg1 (And.intro hb1 (Nat.le_of_eq hgg.symm))); clear hg1 hb1 hgg
  go_enter Tryd.func17, Tryd.ntmps17
  go_wp2_with fail
  go_loopw [6] (fun i wr => ∃ (i0 : Nat) (C : List Nat), i0 ≤ m ∧ i = .int .i64 i0 ∧ Hid (w.grownBy wr none ∧ Blk wr g 45 (C.map u32N) ∧ C.length = q ∧ Whole C ∧ V C = V (A.take i0) * V B ∧ ∀ j, i0 + n ≤ j → C.getD j 0 = 0)) (fun i _ => m - (intOf i).toNat)
  case atStart => exact ⟨0, List.replicate q 0, by omega, rfl, H1.out.1, H1.out.2.1, by simp, fun d hd => by rw [List.eq_of_mem_replicate hd]; decide, by rw [V_zeros]; simp [V], fun j _ => zeros_at q j⟩
  case round =>
    obtain ⟨i, C, hi, rfl, HI⟩ := hrel
    by_cases him : i < m
    · have j0 : (i : Int) < (m : Int) := by omega
      obtain ⟨a, ha⟩ : ∃ a, A.getD i 0 = a := ⟨_, rfl⟩
      go_wp2_with fail
      go_loopw [7, 8] (fun cv kv w2 => ∃ (k c : Nat) (D : List Nat), k ≤ n ∧ cv = .int .u32 c ∧ kv = .int .i64 k ∧ c < 65536 ∧ Hid (w.grownBy w2 none ∧ Blk w2 g 45 (D.map u32N) ∧ D.length = q ∧ Whole D ∧ V D + 65536 ^ (i + k) * c = V C + 65536 ^ i * a * V (B.take k) ∧ ∀ j, i + n ≤ j → D.getD j 0 = 0)) (fun _ kv _ => n - (intOf kv).toNat)
      case atStart => exact ⟨0, 0, C, by omega, rfl, rfl, by decide, HI.out.1, HI.out.2.1, HI.out.2.2.1, HI.out.2.2.2.1, by simp [V], HI.out.2.2.2.2.2⟩
      case round =>
        rename World => w2
        obtain ⟨k, c, D, hk, rfl, rfl, hc, HJ⟩ := hrel
        by_cases hkn : k < n
        · have j1 : (k : Int) < (n : Int) := by omega
          obtain ⟨b, hb⟩ : ∃ b, B.getD k 0 = b := ⟨_, rfl⟩
          obtain ⟨o, ho⟩ : ∃ o, D.getD (i + k) 0 = o := ⟨_, rfl⟩
          have cA := u32_at (HA.out.1 _ HJ.out.1) i (by rw [HA.out.2.1]; exact him)
          have cB := u32_at (HB.out.1 _ HJ.out.1) k (by rw [HB.out.2.1]; exact hkn)
          have cD := u32_at HJ.out.2.1 (i + k) (by rw [HJ.out.2.2.1]; omega)
          rw [ha] at cA
          rw [hb] at cB
          rw [ho] at cD
          have la : a < 65536 := by rw [← ha]; exact of_whole HA.out.2.2 i
          have lb : b < 65536 := by rw [← hb]; exact of_whole HB.out.2.2 k
          have lo : o < 65536 := by rw [← ho]; exact of_whole HJ.out.2.2.2.1 _
          obtain ⟨hx1, hx2⟩ := carry_lt la lb lo hc
          have fD := HJ.out.2.1.free (i + k)
          obtain ⟨x, hx⟩ : ∃ x, x = a * b + o + c := ⟨_, rfl⟩
          have hmb : a * b ≤ 65535 * 65535 := Nat.mul_le_mul (by omega) (by omega)
          have hp0 : 0 ≤ (a : Int) * (b : Int) := Int.mul_nonneg (by omega) (by omega)
          have hp1 : (a : Int) * (b : Int) ≤ 4294836225 := by rw [← Int.natCast_mul]; omega
          have HX := Lib.hid (And.intro hx (And.intro hx1 (And.intro hx2 hmb)))
          clear hx hx1 hx2 hmb
          go_wp2_with fail
          go_quiet (fail)
          have HJ3 : Hid (w.grownBy (w2.drewN nq) none ∧ Blk (w2.drewN nq) g 45 (D.map u32N)) := ⟨gb_drewN HJ.out.1 nq, HJ.out.2.1⟩
          generalize w2.drewN nq = w3 at *
          clear cA cB cD fD hp0 hp1
          obtain ⟨r, hr⟩ : ∃ r, r = x % 65536 := ⟨_, rfl⟩
          obtain ⟨y, hy⟩ : ∃ y, y = x / 65536 := ⟨_, rfl⟩
          rw [show (a : Int) * (b : Int) + (o : Int) + (c : Int) = (x : Int) by rw [HX.out.1]; simp]
          have cD := u32_at HJ3.out.2 (i + k) (by rw [HJ.out.2.2.1]; omega)
          have fD := HJ3.out.2.free (i + k)
          have hxl : x < 4294967296 := by rw [HX.out.1]; exact HX.out.2.1
          have r1 : (x : Int) % 65536 = (r : Int) := by omega
          have r2 : (x : Int) / 65536 = (y : Int) := by omega
          have r3 : (x : Int).tmod 65536 = (r : Int) := by rw [Int.tmod_eq_emod_of_nonneg (by omega)]; exact r1
          have r4 : (x : Int).tdiv 65536 = (y : Int) := by rw [Int.tdiv_eq_ediv_of_nonneg (by omega)]; exact r2
          have lr : r < 65536 := by omega
          have ly : y < 65536 := by omega
          have hsb := HJ3.out.2.set (i + k) (.int .u32 (r : Int))
          rw [set_map] at hsb
          have HS := Lib.hid (And.intro hsb (And.intro (gb_set_new HJ3.out.1 (p := ⟨g, i + k, none⟩) H1.out.2.2 (.int .u32 (r : Int))) (And.intro hr hy)))
          clear hsb hr hy
          have hlt : i + k < D.length := by rw [HJ.out.2.2.1]; omega
          have hst := times_step D i k a b c hlt
          rw [ho, ← HX.out.1, ← HS.out.2.2.1, ← HS.out.2.2.2] at hst
          have htk := V_take_succ B k (by rw [HB.out.2.1]; exact hkn)
          rw [hb] at htk
          have HF : Hid ((D.set (i + k) r).length = q ∧ Whole (D.set (i + k) r) ∧ V (D.set (i + k) r) + 65536 ^ (i + (k + 1)) * y = V C + 65536 ^ i * a * V (B.take (k + 1)) ∧ ∀ j, i + n ≤ j → (D.set (i + k) r).getD j 0 = 0) := by
            refine ⟨by rw [List.length_set]; exact HJ.out.2.2.1, whole_set HJ.out.2.2.2.1 _ _ lr, ?_, fun j hj => ?_⟩
            · rw [hst, htk, Nat.mul_add, ← Nat.add_assoc, ← HJ.out.2.2.2.2.1]
            · rw [Ns.set_getD _ _ _ _ hlt, if_neg (by omega)]; exact HJ.out.2.2.2.2.2 j hj
          clear hst htk
          go_wp2
          exact ⟨⟨k + 1, y, D.set (i + k) r, by omega, rfl, rfl, ly, HS.out.2.1, HS.out.1, HF.out.1, HF.out.2.1, HF.out.2.2.1, HF.out.2.2.2⟩, by show n - ((k : Int) + 1).toNat < n - (k : Int).toNat; omega⟩
        · obtain rfl : k = n := by omega
          have j1 : ¬ (k : Int) < (k : Int) := by omega
          have cD := u32_at HJ.out.2.1 (i + k) (by rw [HJ.out.2.2.1]; omega)
          have fD := HJ.out.2.1.free (i + k)
          have hlt : i + k < D.length := by rw [HJ.out.2.2.1]; omega
          have hsb := HJ.out.2.1.set (i + k) (.int .u32 (c : Int))
          rw [set_map] at hsb
          have HS := Lib.hid (And.intro hsb (gb_set_new HJ.out.1 (p := ⟨g, i + k, none⟩) H1.out.2.2 (.int .u32 (c : Int))))
          clear hsb
          have HF : Hid ((D.set (i + k) c).length = q ∧ Whole (D.set (i + k) c) ∧ V (D.set (i + k) c) = V (A.take (i + 1)) * V B ∧ ∀ j, i + 1 + k ≤ j → (D.set (i + k) c).getD j 0 = 0) := by
            refine ⟨by rw [List.length_set]; exact HJ.out.2.2.1, whole_set HJ.out.2.2.2.1 _ _ hc, ?_, fun j hj => ?_⟩
            · have h1 := V_set D (i + k) c hlt
              rw [HJ.out.2.2.2.2.2 (i + k) (Nat.le_refl _), Nat.mul_zero, Nat.add_zero, HJ.out.2.2.2.2.1, HI.out.2.2.2.2.1, List.take_of_length_le (l := B) (by rw [HB.out.2.1]; exact Nat.le_refl _), ← ha] at h1
              rw [h1]
              exact mul_row A i (V B) (by rw [HA.out.2.1]; exact him)
            · rw [Ns.set_getD _ _ _ _ hlt, if_neg (by omega)]; exact HJ.out.2.2.2.2.2 j (by omega)
          go_wp2
          exact ⟨⟨i + 1, D.set (i + k) c, by omega, rfl, HS.out.2, HS.out.1, HF.out.1, HF.out.2.1, HF.out.2.2.1, HF.out.2.2.2⟩, by show m - ((i : Int) + 1).toNat < m - (i : Int).toNat; omega⟩
    · obtain rfl : i = m := by omega
      have j0 : ¬ (i : Int) < (i : Int) := by omega
      have HE := HI
      go_wp2
      go_ret
      refine ⟨g, rfl, HE.out.1, C, HE.out.2.1, HE.out.2.2.1.trans hq, HE.out.2.2.2.1, ?_⟩
      rw [HE.out.2.2.2.2.1, List.take_of_length_le (by rw [HA.out.2.1]; omega)]
end Sha
end Go.Proofs.YtjnednikgnapnaaDoor
