/- wire's calls: Number, Bytes, Join, NewReader and the reader's Byte, Number, Count, Bytes. -/
import Derived.Test.YtlkiancedgaicaaGreatWiRead
namespace Go.Proofs.YtlkiancedgaicaaGreat
open Go.RowKit Ow Wi

theorem tellsU_lt (rb k : Nat) (st : St) (w : World) (h : RdS w rb st) : (tells 0 (rdWord k) st).1 < 256 ^ k := by
  have hp : 0 < 256 ^ k := Nat.pow_pos (by decide)
  cases st with
  | none => exact hp
  | some l =>
    have hb := RdB.byte h
    unfold tells rdWord
    by_cases hk : k ≤ l.length
    · simp only [if_pos hk]
      have h1 := wN_lt (l.take k) (fun b hm => getD_mem hb b (List.mem_of_mem_take hm))
      rwa [List.length_take, Nat.min_eq_left hk] at h1
    · simp only [if_neg hk]; exact hp
theorem bytesS_lt {w : World} {rb : Nat} {st : St} (h : RdS w rb st) (most : Int) (i : Nat) : (bytesS most st).1.getD i 0 < 256 := by
  cases st with
  | none => unfold bytesS tells; simp
  | some l =>
    have hb := RdB.byte h
    unfold bytesS
    cases hr : rdBytes most l with
    | none =>
      have e1 : tells [] (rdBytes most) (some l) = ([], none) := by unfold tells; simp only [hr]
      rw [e1]; simp
    | some p =>
      obtain ⟨x, r⟩ := p
      have e1 : tells [] (rdBytes most) (some l) = (x, some r) := by unfold tells; simp only [hr]
      rw [e1]
      unfold rdBytes rdCount at hr
      split at hr
      · cases hr
      · rename_i n r' hc
        split at hc
        · cases hc
          split at hr
          · cases hr
            exact getD_take_lt _ _ (fun i => by rw [getD_drop]; exact hb _) i
          · cases hr
        · cases hc
theorem byte_any (rb : Nat) (st : St) (w : World) (h : RdS w rb st) :
    Calls Tryz.prog 53 #[.pointer (some ⟨rb, 0, none⟩)] w fun e w' => e = .returned (.int .u8 ((byteS st).1 : Nat)) ∧ w.grownBy w' (some rb) ∧ RdS w' rb (byteS st).2 := by
  have hlt := tellsU_lt rb 1 st w h
  have HT := Lib.hid (tryU_any rb 1 st w h (by decide))
  unfold byteS
  generalize tells 0 (rdWord 1) st = x at *
  obtain ⟨n, st'⟩ := x
  have hw : IntKind.u8.wrap (n : Int) = n := by
    rw [show IntKind.u8.wrap (n : Int) = (n : Int) % 256 by simp [IntKind.wrap, IntKind.signed, IntKind.bits]]
    have : n < 256 := hlt
    omega
  clear h hlt
  have hmf := makeF
  go_enter Tryz.func53, Tryz.ntmps53
  go_wp2_with (fail)
  refine HT.out.mono ?_
  rintro e w' ⟨rfl, hg, hr⟩
  have H := Lib.hid (And.intro hg hr); clear hg hr
  go_wp2
  go_ret
  exact ⟨rfl, H.out⟩
theorem number_any (rb : Nat) (st : St) (w : World) (h : RdS w rb st) :
    Calls Tryz.prog 33 #[.pointer (some ⟨rb, 0, none⟩)] w fun e w' => e = .returned (.int .i64 (toI (numS st).1)) ∧ w.grownBy w' (some rb) ∧ RdS w' rb (numS st).2 := by
  have hlt := tellsU_lt rb 8 st w h
  have HT := Lib.hid (tryU_any rb 8 st w h (by decide))
  unfold numS
  generalize tells 0 (rdWord 8) st = x at *
  obtain ⟨n, st'⟩ := x
  have hw : IntKind.i64.wrap (n : Int) = toI n := conv_yes n (by
    have h1 : (256 : Nat) ^ 8 = 18446744073709551616 := by decide
    have : n < 256 ^ 8 := hlt
    omega)
  clear h hlt
  have hmf := makeF
  go_enter Tryz.func33, Tryz.ntmps33
  go_wp2_with (fail)
  refine HT.out.mono ?_
  rintro e w' ⟨rfl, hg, hr⟩
  have H := Lib.hid (And.intro hg hr); clear hg hr
  go_wp2
  go_ret
  exact ⟨rfl, H.out⟩
theorem rcount_any (rb : Nat) (most : Int) (st : St) (w : World) (h : RdS w rb st) :
    Calls Tryz.prog 60 #[.pointer (some ⟨rb, 0, none⟩), .int .i64 most] w fun e w' => e = .returned (.int .i64 (countS most st).1) ∧ w.grownBy w' (some rb) ∧ RdS w' rb (countS most st).2 := by
  have HT := Lib.hid (tryI_any rb most st w h)
  clear h
  have hmf := makeF
  go_enter Tryz.func60, Tryz.ntmps60
  go_wp2_with (fail)
  refine HT.out.mono ?_
  rintro e w' ⟨rfl, hg, hr⟩
  have H := Lib.hid (And.intro hg hr); clear hg hr
  go_wp2
  go_ret
  exact ⟨rfl, H.out⟩
theorem rbytes_any (rb : Nat) (most : Int) (st : St) (w : World) (h : RdS w rb st) (hl : ∀ l, st = some l → l.length ≤ 1000000) :
    Calls Tryz.prog 52 #[.pointer (some ⟨rb, 0, none⟩), .int .i64 most] w fun e w' => ∃ v, e = .returned v ∧ w.grownBy w' (some rb) ∧ RdS w' rb (bytesS most st).2 ∧ w'.ownsRow w.heap.size 5 1 v (bytesS most st).1.length ((bytesS most st).1.map u8N) := by
  have HT := Lib.hid (tryB_any rb most st w h hl)
  clear h hl
  have hmf := makeF
  go_enter Tryz.func52, Tryz.ntmps52
  go_wp2_with (fail)
  refine HT.out.mono ?_
  rintro e w' ⟨v, rfl, hr⟩
  have H := Lib.hid hr; clear hr
  go_wp2
  go_ret
  exact ⟨v, rfl, H.out⟩
theorem new_any (n cap B : Nat) (a : Option Addr) (l : List Nat) (w : World) (hl : l.length = n) (hn : n ≤ 1000000) (hP : BytesAt w B a cap l) :
    Calls Tryz.prog 23 #[.slice a n cap] w fun e w' => ∃ rb, e = .returned (.pointer (some ⟨rb, 0, none⟩)) ∧ w.grownBy w' none ∧ w.heap.size ≤ rb ∧ RdS w' rb (some l) := by
  have HP := Lib.hid (And.intro hl (And.intro hn hP)); clear hl hn hP
  go_enter Tryz.func23, Tryz.ntmps23
  go_wp2_with (fail)
  refine (join_any 1 1 _ [l] _ _ rfl (rows1 HP.out.1 HP.out.2.2.full) (by decide) (by simp only [List.flatten_cons, List.flatten_nil, List.append_nil]; have h1 := HP.out.1; have h2 := HP.out.2.1; omega)).mono ?_
  rintro e w1 ⟨v, rfl, hg, ho⟩
  simp only [List.flatten_cons, List.flatten_nil, List.append_nil] at ho
  obtain ⟨a1, c1, rfl, _, hB, _⟩ := own_slice ho HP.out.2.2.byte
  have H1 := Lib.hid (And.intro (gb_trans (gb_alloc (gb_refl w none) _) hg) hB); clear hg ho hB
  go_wp2
  go_ret
  obtain ⟨hg, hB⟩ := H1.out
  have hb := Blk.new w1 [.slice a1 l.length c1, .pointer (some ⟨w1.heap.size, 0, none⟩)] 102
  have g2 := gb_alloc (gb_refl w1 none) (.cells #[.slice a1 l.length c1, .pointer (some ⟨w1.heap.size, 0, none⟩)] 102)
  refine ⟨w1.heap.size, rfl, gb_trans hg g2, hg.size, a1, l.length, c1, hb, rfl, (hB.stay g2).full, ?_⟩
  rcases hB.cells with h0 | ⟨pb, po, rfl, hlt, _⟩
  · exact Or.inl h0
  · exact Or.inr fun pb' po' e => by cases e; omega

end Go.Proofs.YtlkiancedgaicaaGreat
