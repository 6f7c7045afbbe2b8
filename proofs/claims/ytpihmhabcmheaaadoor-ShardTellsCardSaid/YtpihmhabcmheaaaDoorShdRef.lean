/- shard: the document's own answer: the bits of a key's digest. -/
import Derived.Test.YtpihmhabcmheaaaDoorShdDigest
import Derived.Test.YtpihmhabcmheaaaDoorShaLengths
import Derived.Test.YtpihmhabcmheaaaDoorMake
import Derived.Lib.AppendStr
namespace Go.Proofs.YtpihmhabcmheaaaDoor
open Go.RowKit Ow
theorem str_cells (s : ByteArray) : Lib.strCells s = (strL s).map u8N := by
  unfold Lib.strCells strL
  rw [List.map_map]
  rfl
theorem wpList_append_str {P : Program} {w : World} {ops : Array Oper} {rest : List Oper} {o : Oper} {a : Act} {Q : Exit → Act → World → Prop} (hgd : o.guard = none) (s x : Operand) (t u : TypeId)
    (ho : o.op = .call { callee := .builtin .append, args := #[s, x], argTypes := #[t, u] }) (ht : o.type = t) (v y : Value) (hs : a.eval s = v) (hx : a.eval x = y) (v' : Value) (w' : World)
    (hr : (Builtin.append_ #[t, u] t #[v, y]).run P w = .ok v' w') (h : wpList P ops Q rest (a.put o.dst v') w') : wpList P ops Q (o :: rest) a w := by
  refine wpList_plain hgd fun K hK => ?_
  rw [← ht] at hr
  unfold Oper.wp
  simp [execOp, ho, resolve, invoke, builtin, hs, hx, ← ht, hr, Result.andThen]
  exact hK _ _ h
/-- a string behind a byte, in a row of one's own -/
theorem append_key (w : World) (s : ByteArray) (hs : s.size < 2147480000) :
    ∃ v' w', (Builtin.append_ #[26, 9] 26 #[.slice (some ⟨w.heap.size, 0, none⟩) 1 1, .string s]).run Tryd.prog (w.alloc (.cells #[u8N 6] 5)) = .ok v' w' ∧ w'.ownsRow w.heap.size 5 1 v' (1 + s.size) ((keyL s).map u8N) ∧ w.grownBy w' none := by
  obtain ⟨i, hi, hz, hsz, hb⟩ := info_u8z
  have hown : (w.alloc (.cells #[u8N 6] 5)).ownsRow w.heap.size 5 1 (.slice (some ⟨w.heap.size, 0, none⟩) 1 1) 1 [u8N 6] :=
    ⟨rfl, .inr ⟨w.heap.size, 1, #[u8N 6], rfl, Nat.le_refl _, heap_alloc_new w _, Nat.le_refl _, by decide, rfl, rfl⟩⟩
  obtain ⟨v', w', hr, ho, hg, _⟩ := Lib.run_append_own_string (P := Tryd.prog) (w.alloc (.cells #[u8N 6] 5)) w.heap.size 26 9 26 5 i Tryd.underlying26 Tryd.underlying9 hi hz hsz hb _ 1 _ hown s (by unfold maxLen; omega) (by omega) (by simp)
  rw [str_cells] at ho
  exact ⟨v', w', hr, ho, gb_own (gb_alloc (gb_refl w none) _) hown (Nat.le_refl _) hg⟩
set_option maxRecDepth 100000 in
set_option maxHeartbeats 2000000 in
theorem refBits_any (s : ByteArray) (w : World) (hs : s.size < 2147480000) :
    Calls Tryd.prog 14 #[.string s] w fun e w' => ∃ g c, e = .returned (.slice (some ⟨g, 0, none⟩) 512 c) ∧ w.grownBy w' none ∧ w'.ownsRow w.heap.size 5 1 (.slice (some ⟨g, 0, none⟩) 512 c) 512 ((bitsF (keyD s) 0 512).map u8N) := by
  obtain ⟨v1, w1, hap, ho1, hg1⟩ := append_key w s hs
  unfold u8N at hap
  have hk8 : ∀ i, (keyL s).getD i 0 < 256 := small_byte _ (fun x hx => by
    unfold keyL at hx
    rcases List.mem_cons.1 hx with rfl | hx
    · decide
    · obtain ⟨i, hi, rfl⟩ := List.getElem_of_mem hx
      have := strL_byte s i
      rwa [List.getD_eq_getElem?_getD, List.getElem?_eq_getElem hi] at this)
  obtain ⟨a1, c1, rfl, hc1, hP⟩ := own_part ho1 (by simp [keyL, strL_len]; omega) hk8
  have hp := hP w1.heap.size (Nat.le_refl _)
  have H1 := Lib.hid (And.intro hap (And.intro hg1 hp)); clear hap ho1 hg1 hP hp hc1
  have hkl : (keyL s).length = 1 + s.size := by simp [keyL, strL_len]; omega
  go_enter Tryd.func14, Tryd.ntmps14
  go_wp2_with (at_builtin; refine wpList_append_str rfl (.tmp 7) (.tmp 8) 26 9 rfl rfl _ _ rfl rfl _ _ H1.out.1 ?_)
  refine (refSum_any (1 + s.size) c1 w1.heap.size (keyL s) a1 w1 hkl H1.out.2.2 (by omega)).mono ?_
  rintro e w2 ⟨g2, c2, rfl, hg2, ho2⟩
  have hz2 := hg2.size
  have hz1 := H1.out.2.1.size
  obtain ⟨_, _, e, _, _, _, hlt2⟩ := own_some ho2 (by decide)
  cases e
  have hcell : ∀ i, i < 64 → w2.cell? ⟨g2, i, none⟩ = some (u8N ((keyD s).getD i 0)) := fun i hi => own_cell ho2 (u8_getD (l := keyD s) (by rw [keyD_len]; exact hi))
  have hdb := keyD_byte s
  have hg02 := gb_trans H1.out.2.1 hg2
  clear ho2 hg2
  have H2 := Lib.hid (And.intro hcell (And.intro hdb hg02)); clear hcell hdb hg02
  obtain ⟨D, hDe⟩ : ∃ D, D = keyD s := ⟨_, rfl⟩
  rw [← hDe] at H2
  have HDe := Lib.hid hDe; clear hDe
  have zw : w.heap.size ≤ w2.heap.size := H2.out.2.2.size
  obtain ⟨bb, hbb⟩ : ∃ bb, bb = w2.heap.size := ⟨_, rfl⟩
  have zb : w.heap.size ≤ bb := by omega
  have lt2 : g2 < bb := by omega
  have hbb2 : bb ≤ w2.heap.size := by omega
  clear hbb hlt2 hz1 hz2 zw
  go_wp2
  go_loopw [4, 5] (fun v i wr => ∃ k : Nat, k ≤ 64 ∧ i = .int .i64 k ∧ bb ≤ wr.heap.size ∧ wr.ownsRow bb 5 1 v (8 * k) ((bitsF D 0 (8 * k)).map u8N) ∧ w.grownBy wr none ∧ (∀ j, j < 64 → wr.cell? ⟨g2, j, none⟩ = some (u8N (D.getD j 0)))) (fun _ i _ => 64 - (intOf i).toNat)
  case atStart => exact ⟨0, by omega, rfl, hbb2, World.ownsRow_nil _ _ _ _, H2.out.2.2, H2.out.1⟩
  case round =>
    obtain ⟨k1, hk1, rfl, hbr, hown, hg, hF⟩ := hrel
    by_cases hlt1 : k1 < 64
    · have H4 := Lib.hid (And.intro hown (And.intro hg hF)); clear hown hg hF
      have j0 : (k1 : Int) < 64 := by omega
      go_wp2
      clear j0
      go_loopw [4, 6] (fun v i wr => ∃ (q : Int) (t : Nat), q + t = 7 ∧ -1 ≤ q ∧ i = .int .i64 q ∧ bb ≤ wr.heap.size ∧ wr.ownsRow bb 5 1 v (8 * k1 + t) ((bitsF D 0 (8 * k1 + t)).map u8N) ∧ w.grownBy wr none ∧ (∀ j, j < 64 → wr.cell? ⟨g2, j, none⟩ = some (u8N (D.getD j 0)))) (fun _ i _ => (intOf i + 1).toNat)
      case atStart => exact ⟨7, 0, by omega, by omega, rfl, hbr, H4.out.1, H4.out.2.1, H4.out.2.2⟩
      case round =>
        obtain ⟨q, t, hq1, hq2, rfl, hbr1, hown, hg, hF⟩ := hrel
        by_cases hlq : 0 ≤ q
        · obtain ⟨q, rfl⟩ := Int.eq_ofNat_of_zero_le hlq
          have hx := hF k1 hlt1
          have hxl := H2.out.2.1 k1
          have hbt : bitA D (8 * k1 + t) = D.getD k1 0 / 2 ^ q % 2 := by
            unfold bitA
            rw [show (8 * k1 + t) / 8 = k1 by omega, show 7 - (8 * k1 + t) % 8 = q by omega]
          have hnext := bitsF_succ D 0 (8 * k1 + t)
          rw [Nat.zero_add, hbt] at hnext
          generalize D.getD k1 0 = x at hx hxl hnext hbt
          have hbit := bit_at x q hxl
          have hbl : x / 2 ^ q % 2 < 256 := by omega
          generalize x / 2 ^ q % 2 = y at hnext hbit hbl hbt
          obtain ⟨v2', w2', hap, how2, hgr2⟩ := append1_u8 wr bb (8 * k1 + t) _ (u8N y) _ hown rfl (by omega) hbr1
          have hg2 := gb_own hg hown zb hgr2
          have hbr2 : bb ≤ w2'.heap.size := Nat.le_trans hbr1 hgr2.size
          have hF2 : ∀ j, j < 64 → w2'.cell? ⟨g2, j, none⟩ = some (u8N (D.getD j 0)) := fun j hj => by
            rw [gb_cell hgr2 (p := ⟨g2, j, none⟩) (show g2 < wr.heap.size by omega) (fun e => by have := (hown.lt g2 e.symm).1; omega)]
            exact hF j hj
          rw [← List.map_singleton, ← List.map_append, ← hnext] at how2
          unfold u8N at hap hx
          have H5 := Lib.hid (And.intro hap (And.intro how2 (And.intro hg2 hF2))); clear hap how2 hg2 hgr2 hown hg hF hnext hbt hF2
          have q0 : 0 ≤ (q : Int) := by omega
          have q1 : (q : Int) < 8 := by omega
          have j0 : (k1 : Int) < 64 := by omega
          go_wp2_with (at_builtin; refine wpList_append_run rfl (.tmp 21) (.tmp 30) 26 rfl rfl _ _ rfl rfl _ _ H5.out.1 ?_)
          go_roundw
          case rel => exact ⟨(q : Int) - 1, t + 1, by omega, by omega, by go_num, hbr2, H5.out.2.1, H5.out.2.2.1, H5.out.2.2.2⟩
          case measure => simp [intOf]
        · obtain rfl : t = 8 := by omega
          obtain rfl : q = -1 := by omega
          have H5 := Lib.hid (And.intro hown (And.intro hg hF)); clear hown hg hF
          go_wp2
          go_roundw
          case rel => exact ⟨k1 + 1, by omega, by go_num, hbr1, H5.out.1, H5.out.2.1, H5.out.2.2⟩
          case measure => simp [intOf]; omega
    · obtain rfl : k1 = 64 := by omega
      obtain ⟨g', c', rfl, _, _, _, _⟩ := own_some hown (by omega)
      have H5 := Lib.hid (And.intro (own_base hown zb) hg); clear hown hg hF
      go_wp2
      go_ret
      exact ⟨g', c', rfl, H5.out.2, by rw [← HDe.out]; exact H5.out.1⟩
end Go.Proofs.YtpihmhabcmheaaaDoor
