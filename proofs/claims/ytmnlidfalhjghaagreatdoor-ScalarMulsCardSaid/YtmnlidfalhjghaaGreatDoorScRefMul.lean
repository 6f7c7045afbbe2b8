/- scalar's document: MulAdd: products byte by byte, carried. -/
import Derived.Test.YtmnlidfalhjghaaGreatDoorScRefRest
import Derived.BigRegion
import Derived.RegionTactic
namespace Go.Proofs.YtmnlidfalhjghaaGreatDoor
open Go.RowKit Ow
namespace Sr
def iN (n : Nat) : Value := .int .i64 (n : Int)
theorem info_int0 : ∃ i, Tryz.prog.info? 3 = some i ∧ i.zero = some (.int .i64 0) ∧ i.size = 1 ∧ i.bytes = 8 := by
  have h : (Tryz.prog.info? 3).map (fun i => (i.zero, i.size, i.bytes)) = some (some (.int .i64 0), 1, 8) := by kernel_rfl
  cases hi : Tryz.prog.info? 3 with
  | none => rw [hi] at h; cases h
  | some i =>
    rw [hi] at h
    simp only [Option.map_some, Option.some.injEq, Prod.mk.injEq] at h
    exact ⟨i, rfl, h.1, h.2.1, h.2.2⟩
theorem made_ints (n : Nat) : madeCells (Value.int .i64 0).cells n = ((List.replicate n 0).map iN).toArray := by
  unfold madeCells iN
  apply Array.ext
  · simp
  · intro i h1 h2
    simp [Value.cells, Nat.mod_one]
theorem make_ints (n : Nat) (w : World) (hc : n ≤ 1000000) : ∃ w', (Instr.makeSlice 83 (.int .i64 n) (.int .i64 n)).run Tryz.prog w = .ok (.slice (some ⟨w.heap.size, 0, none⟩) n n) w' ∧
    w.grownBy w' none ∧ w'.heap.size = w.heap.size + 1 ∧ Blk w' w.heap.size 3 ((List.replicate n 0).map iN) := by
  obtain ⟨i, hi, hz, hs, hb⟩ := info_int0
  have h2 := run_make (P := Tryz.prog) w 83 3 i (.int .i64 0) Tryz.underlying83 hi hz .i64 .i64 n n (by omega) (by omega) (by rw [hb]; omega) (by omega)
  rw [hs, Nat.mul_one, Int.toNat_natCast, made_ints] at h2
  exact ⟨_, h2, gb_alloc (gb_refl _ _) _, by simp, Blk.new w _ _⟩
theorem iN_cell (t : List Nat) (i : Nat) (h : i < t.length) : (t.map iN)[i]? = some (.int .i64 ((t.getD i 0 : Nat) : Int)) := by
  rw [List.getElem?_map, List.getElem?_eq_getElem h, List.getD_eq_getElem?_getD, List.getElem?_eq_getElem h]; rfl
theorem iN_set (t : List Nat) (i x : Nat) : (t.map iN).set i (.int .i64 (x : Int)) = (t.set i x).map iN := by rw [List.map_set]; rfl
/-- parts that are added to: how great, of which value -/
structure Pt (t : List Nat) (v b : Nat) : Prop where
  len : t.length = 66
  is : val t = v
  le : ∀ j, t.getD j 0 ≤ 65536 * b
theorem Pt.add {t : List Nat} {v b : Nat} (h : Pt t v b) (i d : Nat) (hi : i < 66) (hd : d ≤ 65536) (v' : Nat) (hv : v + d * 2 ^ (8 * i) = v') : Pt (t.set i (t.getD i 0 + d)) v' (b + 1) := by
  refine ⟨by rw [List.length_set]; exact h.len, by rw [val_add t i d (by rw [h.len]; exact hi), h.is, hv], fun j => ?_⟩
  have hl := h.le i
  have hj := h.le j
  rw [getD_set t i _ j (by rw [h.len]; exact hi)]
  split <;> omega
theorem part_add (a b c d e : Nat) : a + b * c * 2 ^ d + b * e * 2 ^ (d + 8 * 0) = a + b * (c + e) * 2 ^ d := by
  rw [Nat.mul_zero, Nat.add_zero, Nat.add_assoc, ← Nat.add_mul, ← Nat.mul_add]
theorem mul_step (A x Y y i j : Nat) : A + x * 2 ^ (8 * i) * Y + x * y * 2 ^ (8 * (i + j)) = A + x * 2 ^ (8 * i) * (Y + y * 2 ^ (8 * j)) := by
  have e : x * y * 2 ^ (8 * (i + j)) = x * 2 ^ (8 * i) * (y * 2 ^ (8 * j)) := by
    rw [Nat.mul_add 8, Nat.pow_add]
    generalize 2 ^ (8 * i) = P
    generalize 2 ^ (8 * j) = Q
    rw [Nat.mul_assoc, Nat.mul_assoc, ← Nat.mul_assoc y P Q, Nat.mul_comm y P, Nat.mul_assoc P y Q]
  rw [e, Nat.add_assoc, ← Nat.mul_add]
theorem mul_row (A x Y i : Nat) (Z : Nat) : A * Y + Z + x * 2 ^ (8 * i) * Y = (A + x * 2 ^ (8 * i)) * Y + Z := by
  rw [Nat.add_mul]; omega
theorem lt_mono (n j k : Nat) (h : n < 2 ^ j) (hk : j ≤ k) : n < 2 ^ k := Nat.lt_of_lt_of_le h (Nat.pow_le_pow_right (by decide) hk)
theorem mul_end (x y z : Nat) (hx : x < 2 ^ 256) (hy : y < 2 ^ 256) (hz : z < 2 ^ 256) (k : Nat) (hk : 512 ≤ k) : x * y + z < 2 ^ k := by
  have h := Sc.part_lt x y z 4 hy hz
  rw [Sc.part_end x y z hx] at h
  have h2 := lt_mono (x * y + z) (64 * (4 + 4)) k h hk
  exact h2
set_option maxRecDepth 100000 in
set_option maxHeartbeats 4000000 in
theorem rmulAdd_any (ca cb cc Ba Bb Bc : Nat) (a b c : Option Addr) (x y z : List Nat) (w : World) (hx : x.length = 32) (hy : y.length = 32) (hz : z.length = 32) (hA : BytesAt w Ba a ca x) (hB : BytesAt w Bb b cb y) (hC : BytesAt w Bc c cc z) :
    Calls Tryz.prog 20 #[.slice a 32 ca, .slice b 32 cb, .slice c 32 cc] w (OutR (num x * num y + num z) w) := by
  have hx2 := num_256 x hA.byte (by omega)
  have hy2 := num_256 y hB.byte (by omega)
  have hz2 := num_256 z hC.byte (by omega)
  have hend := mul_end (num x) (num y) (num z) hx2 hy2 hz2 (8 * 66) (by decide)
  rw [num_is x 32 hx, num_is y 32 hy, num_is z 32 hz] at hend ⊢
  have hlA := hA.lim
  have hlB := hB.lim
  have hlC := hC.lim
  obtain ⟨pa, oa, rfl, hpa, hca⟩ := byte_cell hA (by omega)
  obtain ⟨pb, ob, rfl, hpb, hcb⟩ := byte_cell hB (by omega)
  obtain ⟨pc, oc, rfl, hpc, hcc⟩ := byte_cell hC (by omega)
  obtain ⟨fx, hfx⟩ : ∃ f : Nat → Nat, f = fun i => x.getD i 0 := ⟨_, rfl⟩
  obtain ⟨fy, hfy⟩ : ∃ f : Nat → Nat, f = fun i => y.getD i 0 := ⟨_, rfl⟩
  obtain ⟨fz, hfz⟩ : ∃ f : Nat → Nat, f = fun i => z.getD i 0 := ⟨_, rfl⟩
  have kx : ∀ j, j < 32 → w.cell? ⟨pa, oa + j, none⟩ = some (.int .u8 ((fx j : Nat) : Int)) := fun j hj => by rw [hfx]; exact hca j (by rw [hx]; exact hj)
  have ky : ∀ j, j < 32 → w.cell? ⟨pb, ob + j, none⟩ = some (.int .u8 ((fy j : Nat) : Int)) := fun j hj => by rw [hfy]; exact hcb j (by rw [hy]; exact hj)
  have kz : ∀ j, j < 32 → w.cell? ⟨pc, oc + j, none⟩ = some (.int .u8 ((fz j : Nat) : Int)) := fun j hj => by rw [hfz]; exact hcc j (by rw [hz]; exact hj)
  have bx : ∀ j, fx j < 256 := fun j => by rw [hfx]; exact hA.byte j
  have by' : ∀ j, fy j < 256 := fun j => by rw [hfy]; exact hB.byte j
  have bz : ∀ j, fz j < 256 := fun j => by rw [hfz]; exact hC.byte j
  rw [← hfx, ← hfy, ← hfz] at hend ⊢
  obtain ⟨w1, hmk, hg1, hs1, hb1⟩ := make_ints 66 w (by decide)
  have hmk' : (Instr.makeSlice 83 (.int .i64 66) (.int .i64 66)).run Tryz.prog w = .ok (.slice (some ⟨w.heap.size, 0, none⟩) 66 66) w1 := hmk
  have hpt0 : Pt (List.replicate 66 0) 0 0 := ⟨by simp, val_zero 66, fun j => by rw [List.getD_eq_getElem?_getD, List.getElem?_replicate]; split <;> simp⟩
  have HX := Lib.hid (And.intro (And.intro kx (And.intro ky kz)) (And.intro (And.intro bx (And.intro by' bz)) (And.intro hend (And.intro hg1 (And.intro hb1 hpt0)))))
  have hpn : pa < w.heap.size := by omega
  have hpm : pb < w.heap.size := by omega
  have hpo : pc < w.heap.size := by omega
  clear hx2 hy2 hz2 hend hlA hlB hlC hca hcb hcc hpa hpb hpc kx ky kz bx by' bz hfx hfy hfz hA hB hC hx hy hz hmk hg1 hb1 hs1 hpt0
  go_enter Tryz.func20, Tryz.ntmps20
  go_wp2_with fail
  clear hmk'
  go_loopw [8, 9] (fun i j wr => ∃ (k : Nat) (t : List Nat), k ≤ 32 ∧ i = .int .i64 k ∧ w.grownBy wr none ∧ Blk wr w.heap.size 3 (t.map iN) ∧ Pt t (Sc.leN fx k * Sc.leN fy 32 + Sc.leN fz k) (33 * k)) (fun i _ _ => 32 - (intOf i).toNat)
  case atStart => exact ⟨0, _, by omega, rfl, HX.out.2.2.2.1, HX.out.2.2.2.2.1, by simpa [Sc.leN] using HX.out.2.2.2.2.2⟩
  case round =>
    obtain ⟨k, t, hk, rfl, hg, hb, hp⟩ := hrel
    by_cases hlt : k < 32
    · have i1 : (k : Int) < 32 := by omega
      have hgd := gb_drew hg
      have hbd := hb.grown (gb_drew (gb_refl wr none)) (by simp)
      have c0 := hb.cell (iN_cell t k (by rw [hp.len]; omega))
      have f0 := hbd.free k
      have cz := (gb_cell hg (p := ⟨pc, oc + k, none⟩) hpo (by simp)).trans (HX.out.1.2.2 k hlt)
      have vz := HX.out.2.1.2.2 k
      have vt := hp.le k
      have hset := hbd.set k (.int .i64 ((t.getD k 0 + fz k : Nat) : Int))
      rw [iN_set] at hset
      have hgs := gb_set_new hgd (p := ⟨w.heap.size, k, none⟩) (Nat.le_refl _) (.int .i64 ((t.getD k 0 + fz k : Nat) : Int))
      have hpt := hp.add k (fz k) (by omega) (by omega) (Sc.leN fx k * Sc.leN fy 32 + Sc.leN fz (k + 1)) (by show _ = Sc.leN fx k * Sc.leN fy 32 + (Sc.leN fz k + fz k * 2 ^ (8 * k)); omega)
      have es : ((t.getD k 0 + fz k : Nat) : Int) = ((t.getD k 0 : Nat) : Int) + ((fz k : Nat) : Int) := by omega
      rw [es] at hset hgs
      have HI := Lib.hid (And.intro hset (And.intro hgs hpt)); clear hset hgs hpt hg hb hp hgd hbd es
      generalize hT : t.set k (t.getD k 0 + fz k) = T at *
      clear hT
      generalize t.getD k 0 = tk at *
      generalize fz k = zk at *
      go_wp2_with fail
      go_region
      go_wp2_with fail
      obtain ⟨A, hA⟩ : ∃ A, A = Sc.leN fx k * Sc.leN fy 32 + Sc.leN fz (k + 1) := ⟨_, rfl⟩
      rw [← hA] at HI
      have HA := Lib.hid hA; clear hA
      go_loopw [9] (fun j wr => ∃ (i : Nat) (t : List Nat), i ≤ 32 ∧ j = .int .i64 i ∧ w.grownBy wr none ∧ Blk wr w.heap.size 3 (t.map iN) ∧ Pt t (A + fx k * 2 ^ (8 * k) * Sc.leN fy i) (33 * k + 1 + i)) (fun j _ => 32 - (intOf j).toNat)
      case atStart => exact ⟨0, T, by omega, rfl, HI.out.2.1, HI.out.1, by simpa [Sc.leN] using HI.out.2.2⟩
      case round =>
        clear HI
        obtain ⟨i, t, hi, rfl, hg, hb, hp⟩ := hrel
        by_cases hit : i < 32
        · have i2 : (i : Int) < 32 := by omega
          have hgd := gb_drew hg
          have hbd := hb.grown (gb_drew (gb_refl wr none)) (by simp)
          have c0 := hb.cell (iN_cell t (k + i) (by rw [hp.len]; omega))
          have f0 := hbd.free (k + i)
          have cx := (gb_cell hg (p := ⟨pa, oa + k, none⟩) hpn (by simp)).trans (HX.out.1.1 k hlt)
          have cy := (gb_cell hg (p := ⟨pb, ob + i, none⟩) hpm (by simp)).trans (HX.out.1.2.1 i hit)
          have vx := HX.out.2.1.1 k
          have vy := HX.out.2.1.2.1 i
          have vt := hp.le (k + i)
          have vm : fx k * fy i ≤ 65025 := Nat.mul_le_mul (show fx k ≤ 255 by omega) (show fy i ≤ 255 by omega)
          have hset := hbd.set (k + i) (.int .i64 ((t.getD (k + i) 0 + fx k * fy i : Nat) : Int))
          rw [iN_set] at hset
          have hgs := gb_set_new hgd (p := ⟨w.heap.size, k + i, none⟩) (Nat.le_refl _) (.int .i64 ((t.getD (k + i) 0 + fx k * fy i : Nat) : Int))
          have hpt := hp.add (k + i) (fx k * fy i) (by omega) (by omega) (A + fx k * 2 ^ (8 * k) * Sc.leN fy (i + 1)) (mul_step _ _ _ _ _ _)
          have es : ((t.getD (k + i) 0 + fx k * fy i : Nat) : Int) = ((t.getD (k + i) 0 : Nat) : Int) + ((fx k : Nat) : Int) * ((fy i : Nat) : Int) := by rw [Int.natCast_add, Int.natCast_mul]
          rw [es] at hset hgs
          have hmi : ((fx k : Nat) : Int) * ((fy i : Nat) : Int) = ((fx k * fy i : Nat) : Int) := by rw [Int.natCast_mul]
          have hm0 : 0 ≤ ((fx k : Nat) : Int) * ((fy i : Nat) : Int) := by rw [hmi]; omega
          have hm1 : ((fx k : Nat) : Int) * ((fy i : Nat) : Int) ≤ 65025 := by rw [hmi]; omega
          have HI := Lib.hid (And.intro hset (And.intro hgs hpt)); clear hset hgs hpt hg hb hp hgd hbd es vm hmi
          have ek : ((k : Int) + (i : Int)).toNat = k + i := by omega
          generalize hT : t.set (k + i) (t.getD (k + i) 0 + fx k * fy i) = T2 at *
          clear hT
          generalize t.getD (k + i) 0 = tk at *
          generalize hxk : fx k = xk at *
          have HXK := Lib.hid hxk; clear hxk
          generalize fy i = yi at *
          go_wp2_with fail
          go_region
          go_wp2
          go_roundw
          case rel => exact ⟨i + 1, T2, by omega, by go_num, HI.out.2.1, HI.out.1, HI.out.2.2⟩
          case measure => simp [intOf]; omega
        · obtain rfl : i = 32 := by omega
          have e1 : A + fx k * 2 ^ (8 * k) * Sc.leN fy 32 = Sc.leN fx (k + 1) * Sc.leN fy 32 + Sc.leN fz (k + 1) := by
            rw [HA.out]; exact mul_row _ _ _ _ _
          rw [e1, show 33 * k + 1 + 32 = 33 * (k + 1) by omega] at hp
          have HI := Lib.hid (And.intro hg (And.intro hb hp)); clear hg hb hp e1
          go_wp2
          go_roundw
          case rel => exact ⟨k + 1, t, by omega, by go_num, HI.out⟩
          case measure => simp [intOf]; omega
    · obtain rfl : k = 32 := by omega
      obtain ⟨w5, hmk, hg5, hs5, hb5⟩ := make_bytes 66 66 wr (by omega) (by omega)
      have hmk' : (Instr.makeSlice 22 (.int .i64 66) (.int .i64 66)).run Tryz.prog wr = .ok (.slice (some ⟨wr.heap.size, 0, none⟩) 66 66) w5 := hmk
      rw [← fillB_nil 66] at hb5
      have ht : val t < 2 ^ (8 * t.length) := by rw [hp.is, hp.len]; exact HX.out.2.2.1
      have hcn := carB_num t ht
      rw [hp.is, hp.len] at hcn
      have hlt0 := hb.lt
      have hsz : w.heap.size ≤ wr.heap.size := hg.size
      have hbt := hb.grown hg5 (by simp)
      have H5 := Lib.hid (And.intro (gb_trans hg hg5) (And.intro hb5 (And.intro hp.le (And.intro hp.len (And.intro hcn hbt))))); clear hg hg5 hb5 hs5 hmk ht hcn hp hb hbt
      obtain ⟨WO, hWO⟩ : ∃ WO : World, WO = wr := ⟨_, rfl⟩
      subst hWO
      go_wp2_with fail
      clear hmk'
      go_loopw [11, 12] (fun c i wr => ∃ k : Nat, k ≤ 66 ∧ c = .int .i64 ((car t k : Nat) : Int) ∧ i = .int .i64 k ∧ w.grownBy wr none ∧ Blk wr w.heap.size 3 (t.map iN) ∧ Blk wr WO.heap.size 5 (fillB (carB t k) 66)) (fun _ i _ => 66 - (intOf i).toNat)
      case atStart => exact ⟨0, by omega, rfl, rfl, H5.out.1, H5.out.2.2.2.2.2, H5.out.2.1⟩
      case round =>
        obtain ⟨k, hk6, rfl, rfl, hg, hb, hbo⟩ := hrel
        by_cases hkt : k < 66
        · have i6 : (k : Int) < 66 := by omega
          have c0 := hb.cell (iN_cell t k (by rw [H5.out.2.2.2.1]; exact hkt))
          have c1 := hbo.cell (fillB_cell _ 66 k (carB_length t k) hkt)
          have f1 := hbo.free k
          have vt := H5.out.2.2.1 k
          have vc := car_le t (65536 * (33 * 32)) H5.out.2.2.1 k
          have hset := hbo.set k (u8N ((car t k + t.getD k 0) % 256))
          rw [fillB_set _ 66 k _ (carB_length t k) hkt, ← carB_succ] at hset
          have hgs := gb_set_new hg (p := ⟨WO.heap.size, k, none⟩) hsz (u8N ((car t k + t.getD k 0) % 256))
          have hbs := hb.other (a := ⟨WO.heap.size, k, none⟩) (show WO.heap.size ≠ w.heap.size by omega) (u8N ((car t k + t.getD k 0) % 256))
          have es : (((car t k + t.getD k 0) % 256 : Nat) : Int) = (((car t k : Nat) : Int) + ((t.getD k 0 : Nat) : Int)) % 256 := by omega
          have hcs : ((car t (k + 1) : Nat) : Int) = (((car t k : Nat) : Int) + ((t.getD k 0 : Nat) : Int)) / 256 := by show (((car t k + t.getD k 0) / 256 : Nat) : Int) = _; omega
          unfold u8N at hset hgs hbs
          rw [es] at hset hgs hbs
          have HI := Lib.hid (And.intro hset (And.intro hgs (And.intro hbs hcs))); clear hset hgs hbs hcs es hg hb hbo
          generalize car t k = ck at *
          generalize t.getD k 0 = tk at *
          go_wp2
          go_roundw
          case rel => exact ⟨k + 1, by omega, by rw [HI.out.2.2.2], by go_num, HI.out.2.1, HI.out.2.2.1, HI.out.1⟩
          case measure => simp [intOf]; omega
        · obtain rfl : k = 66 := by omega
          rw [fillB_full _ 66 (carB_length t 66)] at hbo
          have hbz : BytesAt wr wr.heap.size (some ⟨WO.heap.size, 0, none⟩) 66 (carB t 66) := blk_bytes (tl := []) (by rw [List.append_nil]; exact hbo) (carB_length t 66) (Nat.le_refl _) (by omega) (carB_lt t 66) hbo.lt (Nat.le_refl _)
          have hR := rest_any 66 66 wr.heap.size (some ⟨WO.heap.size, 0, none⟩) (carB t 66) wr (by omega) (carB_length t 66) hbz
          rw [H5.out.2.2.2.2.1] at hR
          have HI := Lib.hid (And.intro hg hR); clear hg hR hb hbo hbz
          go_wp2_with fail
          refine HI.out.2.mono ?_
          intro e w9 h
          obtain ⟨g9, rfl, hg9, hs9, hb9⟩ := h
          have H9 := Lib.hid (And.intro (gb_trans HI.out.1 hg9) (And.intro (Nat.le_trans HI.out.1.size hs9) hb9)); clear hg9 hs9 hb9
          go_wp2
          go_ret
          exact ⟨g9, rfl, H9.out⟩
end Sr
end Go.Proofs.YtmnlidfalhjghaaGreatDoor
