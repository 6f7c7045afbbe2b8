/- A reader's calls: what each tells, and what is left behind it. -/
import Derived.Test.YtlkiancedgaicaaGreatWiTryAll
import Derived.Test.YtlkiancedgaicaaGreatWiNum
import Derived.Deep.Cut
import Derived.Deep.RegionWith
namespace Go.Proofs.YtlkiancedgaicaaGreat
open Go.RowKit Ow Wi

/-- a reader of what is left, or none any more -/
def RdS (w : World) (rb : Nat) : St → Prop
  | none => RdN w rb
  | some l => RdB w rb (gP rb) l
theorem RdN.stay {w w' : World} {rb : Nat} (h : RdN w rb) (hg : w.grownBy w' none) : RdN w' rb := Blk.grown h hg (by simp)
theorem RdS.stay {w w' : World} {rb : Nat} {st : St} (h : RdS w rb st) (hg : w.grownBy w' none) : RdS w' rb st := by
  cases st with
  | none => exact RdN.stay h hg
  | some l => exact RdB.stay h hg
theorem RdS.beside {w w' : World} {rb T : Nat} {st : St} (h : RdS w rb st) (hg : w.grownBy w' (some T)) (hT : rb < T) : RdS w' rb st := by
  cases st with
  | none => exact Blk.grown h hg (by simp; omega)
  | some l => exact RdB.beside h hg hT
theorem RdS.lt {w : World} {rb : Nat} {st : St} (h : RdS w rb st) : rb < w.heap.size := by
  cases st with
  | none => exact Blk.lt h
  | some l => obtain ⟨_, _, _, hb, _⟩ := h; exact hb.lt
theorem wgood_any (rb : Nat) (st : St) (w : World) (h : RdS w rb st) :
    Calls Tryz.prog 26 #[.pointer (some ⟨rb, 0, none⟩)] w fun e w' => e = .returned (.bool st.isSome) ∧ w' = w := by
  cases st with
  | none => exact wgood_no rb _ w h
  | some l => obtain ⟨a, n, cap, hb, _⟩ := h; exact wgood_yes rb _ w hb
theorem tryU_any (rb k : Nat) (st : St) (w : World) (h : RdS w rb st) (h8 : k ≤ 8) :
    Calls Tryz.prog 65 #[.pointer (some ⟨rb, 0, none⟩), .func (.func 66) #[.pointer (some ⟨rb, 0, none⟩)] #[], .int .i64 k] w fun e w' => e = .returned (.int .u64 ((tells 0 (rdWord k) st).1 : Nat)) ∧ w.grownBy w' (some rb) ∧ RdS w' rb (tells 0 (rdWord k) st).2 := by
  cases st with
  | none =>
    refine (tryU_bad _ k _ w fun w1 hg => wgood_no rb _ w1 (RdN.stay h hg)).mono ?_
    rintro e w' ⟨rfl, hg⟩
    exact ⟨rfl, gb_row hg _, RdN.stay h hg⟩
  | some l =>
    obtain ⟨a, n, cap, hb, _⟩ := id h
    have gz := gb_alloc (gb_refl w none) (.cells #[.pointer (some ⟨rb, 0, none⟩)] 34)
    by_cases hk : k ≤ l.length
    · have e1 : tells 0 (rdWord k) (some l) = (wN (l.take k), some (l.drop k)) := by unfold tells rdWord; simp only [if_pos hk]
      rw [e1]
      refine (tryU_yes rb k _ w (fun x w' => x = .int .u64 (wN (l.take k) : Nat) ∧ w.grownBy w' (some rb) ∧ RdB w' rb (gP rb) (l.drop k)) hb ((word_yes rb (gP rb) l k _ (RdB.stay h gz) hk h8).mono ?_)).mono ?_
      · rintro e w' ⟨rfl, hg, hr⟩
        exact ⟨_, rfl, rfl, gb_trans (gb_row gz _) hg, hr⟩
      · rintro e w' ⟨x, rfl, rfl, hg, hr⟩
        exact ⟨rfl, hg, hr⟩
    · have e1 : tells 0 (rdWord k) (some l) = (0, none) := by unfold tells rdWord; simp only [if_neg hk]
      rw [e1]
      refine (tryU_no rb k _ w hb ((word_no rb (gP rb) l k _ (RdB.stay h gz) (by omega)).mono ?_)).mono ?_
      · rintro e w' ⟨hd, rfl⟩
        exact ⟨hd, gb_refl _ _, l, RdB.stay h gz⟩
      · rintro e w' ⟨rfl, hg, hn⟩
        exact ⟨rfl, hg, hn⟩
theorem tryI_any (rb : Nat) (most : Int) (st : St) (w : World) (h : RdS w rb st) :
    Calls Tryz.prog 118 #[.pointer (some ⟨rb, 0, none⟩), .func (.func 119) #[.pointer (some ⟨rb, 0, none⟩)] #[], .int .i64 most] w fun e w' => e = .returned (.int .i64 (countS most st).1) ∧ w.grownBy w' (some rb) ∧ RdS w' rb (countS most st).2 := by
  unfold countS
  cases st with
  | none =>
    refine (tryI_bad _ most _ w fun w1 hg => wgood_no rb _ w1 (RdN.stay h hg)).mono ?_
    rintro e w' ⟨rfl, hg⟩
    exact ⟨rfl, gb_row hg _, RdN.stay h hg⟩
  | some l =>
    obtain ⟨a, n, cap, hb, _⟩ := id h
    have gz := gb_alloc (gb_refl w none) (.cells #[.pointer (some ⟨rb, 0, none⟩)] 34)
    by_cases hk : 8 ≤ l.length ∧ 0 ≤ toI (wN (l.take 8)) ∧ toI (wN (l.take 8)) ≤ most
    · have e1 : tells 0 (rdCount most) (some l) = (toI (wN (l.take 8)), some (l.drop 8)) := by unfold tells rdCount; simp only [if_pos hk]
      rw [e1]
      refine (tryI_yes rb most _ w (fun x w' => x = .int .i64 (toI (wN (l.take 8))) ∧ w.grownBy w' (some rb) ∧ RdB w' rb (gP rb) (l.drop 8)) hb ((count_yes rb (gP rb) l most _ (RdB.stay h gz) hk.1 hk.2.1 hk.2.2).mono ?_)).mono ?_
      · rintro e w' ⟨rfl, hg, hr⟩
        exact ⟨_, rfl, rfl, gb_trans (gb_row gz _) hg, hr⟩
      · rintro e w' ⟨x, rfl, rfl, hg, hr⟩
        exact ⟨rfl, hg, hr⟩
    · have e1 : tells 0 (rdCount most) (some l) = (0, none) := by unfold tells rdCount; simp only [if_neg hk]
      rw [e1]
      refine (tryI_no rb most _ w hb (count_no rb (gP rb) l most _ (RdB.stay h gz) hk)).mono ?_
      rintro e w' ⟨rfl, hg, hn⟩
      exact ⟨rfl, hg, hn⟩

set_option maxRecDepth 100000 in
set_option maxHeartbeats 800000 in
theorem rbytes_yes (rb : Nat) (l x r : List Nat) (most : Int) (w : World) (h : RdB w rb (gP rb) l) (hl : l.length ≤ 1000000) (hx : rdBytes most l = some (x, r)) :
    Calls Tryz.prog 90 #[.pointer (some ⟨rb, 0, none⟩), .int .i64 most] w fun e w' => ∃ v, e = .returned v ∧ w.grownBy w' (some rb) ∧ RdB w' rb (gP rb) r ∧ w'.ownsRow w.heap.size 5 1 v x.length (x.map u8N) := by
  unfold rdBytes rdCount at hx
  by_cases hk : 8 ≤ l.length ∧ 0 ≤ toI (wN (l.take 8)) ∧ toI (wN (l.take 8)) ≤ most
  · simp only [if_pos hk] at hx
    by_cases hm : (toI (wN (l.take 8))).toNat ≤ (l.drop 8).length
    · rw [if_pos hm] at hx
      simp only [Option.some.injEq, Prod.mk.injEq] at hx
      obtain ⟨rfl, rfl⟩ := hx
      have HC := Lib.hid (count_yes rb (gP rb) l most w.drew (RdB.stay h (gb_drew (gb_refl _ _))) hk.1 hk.2.1 hk.2.2)
      obtain ⟨m, hmm⟩ : ∃ m : Nat, toI (wN (l.take 8)) = m := ⟨_, (Int.toNat_of_nonneg hk.2.1).symm⟩
      rw [hmm] at HC hm ⊢
      rw [Int.toNat_natCast] at hm ⊢
      have hm1 : m ≤ 1000000 := by rw [List.length_drop] at hm; omega
      have HL := Lib.hid (And.intro hm hl)
      have HL2 : Hid (((l.drop 8).take m).length = m) := by show ((l.drop 8).take m).length = m; rw [List.length_take]; omega
      have HL3 : Hid ([(l.drop 8).take m].flatten.length ≤ 1000000) := by show [(l.drop 8).take m].flatten.length ≤ 1000000; simp only [List.flatten_cons, List.flatten_nil, List.append_nil]; rw [HL2.out]; exact hm1
      clear h hk hmm hm hl
      go_enter Tryz.func90, Tryz.ntmps90
      go_upto_region 1 with (fail)
      go_region_with (first | (go_at_call 119; refine HC.out.mono ?_; rintro e w1 ⟨rfl, hg, hr⟩; have H1 := Lib.hid (And.intro hg hr); clear hg hr HC) | (go_at_call 122; refine (take_rd rb (gP rb) (l.drop 8) m _ H1.out.2 HL.out.1).mono ?_; rintro e w2 ⟨a1, c1, rfl, hg, hr, hP, hQ⟩; have H2 := Lib.hid (And.intro (gb_trans H1.out.1 hg) (And.intro hr hP)); clear hg hr hP hQ H1) | (go_at_call 14; refine (join_any 1 1 _ [(l.drop 8).take m] _ _ rfl (rows1 (HL2.out) H2.out.2.2) (by decide) HL3.out).mono ?_; rintro e w3 ⟨v, rfl, hg, ho⟩; have H3 := Lib.hid (And.intro hg ho); clear hg ho))
      all_goals go_wp2
      all_goals go_ret
      all_goals (
        obtain ⟨hg, ho⟩ := H3.out
        simp only [List.flatten_cons, List.flatten_nil, List.append_nil] at ho
        have gz := gb_alloc (gb_refl w2 none) (.cells #[.slice a1 m c1] 23)
        have g0 : w.grownBy w.drew (some rb) := gb_drew (gb_refl _ _)
        exact ⟨v, rfl, gb_trans g0 (gb_trans H2.out.1 (gb_row (gb_trans gz hg) _)), H2.out.2.1.stay (gb_trans gz hg), own_down ho (Nat.le_trans (gb_trans g0 H2.out.1).size gz.size)⟩)
    · rw [if_neg hm] at hx; cases hx
  · simp only [if_neg hk] at hx; cases hx
set_option maxRecDepth 100000 in
set_option maxHeartbeats 800000 in
theorem rbytes_no (rb : Nat) (l : List Nat) (most : Int) (w : World) (h : RdB w rb (gP rb) l) (hx : rdBytes most l = none) :
    Calls Tryz.prog 90 #[.pointer (some ⟨rb, 0, none⟩), .int .i64 most] w fun e w' => Dies e ∧ w.grownBy w' (some rb) ∧ ∃ l', RdB w' rb (gP rb) l' := by
  unfold rdBytes rdCount at hx
  by_cases hk : 8 ≤ l.length ∧ 0 ≤ toI (wN (l.take 8)) ∧ toI (wN (l.take 8)) ≤ most
  · simp only [if_pos hk] at hx
    by_cases hm : (toI (wN (l.take 8))).toNat ≤ (l.drop 8).length
    · rw [if_pos hm] at hx; cases hx
    · have HC := Lib.hid (count_yes rb (gP rb) l most w.drew (RdB.stay h (gb_drew (gb_refl _ _))) hk.1 hk.2.1 hk.2.2)
      obtain ⟨m, hmm⟩ : ∃ m : Nat, toI (wN (l.take 8)) = m := ⟨_, (Int.toNat_of_nonneg hk.2.1).symm⟩
      rw [hmm] at HC hm
      rw [Int.toNat_natCast] at hm
      have HL : Hid ((l.drop 8).length < m) := Nat.lt_of_not_le hm
      clear h hk hmm hm hx
      go_enter Tryz.func90, Tryz.ntmps90
      go_upto_region 1 with (fail)
      refine wp_region_any (by kernel_rfl) ?_
      change wpAny _ _ _ _ _ _ _ (World.drew _)
      refine wpAny_take (i := 0) (v := ?v0) rfl (by kernel_rfl) (by kernel_rfl) (by kernel_rfl) (fun _ _ _ h => h) (Or.inl ⟨by rfl, ?hy0⟩) ?rest0
      case hy0 => intro w; go_simp; try rfl
      refine wpAny_take (i := 1) (v := ?v1) rfl (by kernel_rfl) (by kernel_rfl) (by kernel_rfl) (fun _ _ _ h => h) (Or.inl ⟨by rfl, ?hy1⟩) ?rest1
      case hy1 => intro w; go_simp; try rfl
      refine wpAny_take (i := 2) (v := ?v2) rfl (by kernel_rfl) (by kernel_rfl) (by kernel_rfl) (fun _ _ _ h => h) (Or.inl ⟨by rfl, ?hy2⟩) ?rest2
      case hy2 => intro w; go_simp; try rfl
      refine wpAny_take (i := 3) (v := ?v3) rfl (by kernel_rfl) (by kernel_rfl) (by kernel_rfl) (fun _ _ _ h => h) (Or.inl ⟨by rfl, ?hy3⟩) ?rest3
      case hy3 => intro w; go_simp; try rfl
      refine wpAny_take (i := 4) (v := ?v4) rfl (by kernel_rfl) (by kernel_rfl) (by kernel_rfl) (fun _ _ _ h => h) (Or.inl ⟨by rfl, ?hy4⟩) ?rest4
      case hy4 => intro w; go_simp; try rfl
      refine wpAny_ready (rs := [5]) (by kernel_rfl) (by simp) ?_
      refine AllReady.cons rfl (fun K hK => ?_) AllReady.nil
      go_simp
      refine HC.out.mono ?_
      rintro e w1 ⟨rfl, hg, hr⟩
      have H1 := Lib.hid (And.intro hg hr); clear hg hr HC
      refine hK _ _ ?_
      clear hK K
      refine wpAny_ready (rs := [6]) (by kernel_rfl) (by simp) ?_
      refine AllReady.cons rfl (fun K hK => ?_) AllReady.nil
      go_simp
      refine (take_bad rb (gP rb) (l.drop 8) m _ H1.out.2 HL.out).mono ?_
      rintro e w2 ⟨⟨u, pv, rfl⟩, rfl⟩
      exact ⟨rfl, ⟨u, pv, rfl⟩, gb_trans (gb_drew (gb_refl _ _)) H1.out.1, _, H1.out.2⟩
  · have HC := Lib.hid (count_no rb (gP rb) l most w.drew (RdB.stay h (gb_drew (gb_refl _ _))) hk)
    clear h hk hx
    go_enter Tryz.func90, Tryz.ntmps90
    go_upto_region 1 with (fail)
    refine wp_region_any (by kernel_rfl) ?_
    change wpAny _ _ _ _ _ _ _ (World.drew _)
    refine wpAny_take (i := 0) (v := ?w0) rfl (by kernel_rfl) (by kernel_rfl) (by kernel_rfl) (fun _ _ _ h => h) (Or.inl ⟨by rfl, ?hz0⟩) ?more0
    case hz0 => intro w; go_simp; try rfl
    refine wpAny_take (i := 1) (v := ?w1) rfl (by kernel_rfl) (by kernel_rfl) (by kernel_rfl) (fun _ _ _ h => h) (Or.inl ⟨by rfl, ?hz1⟩) ?more1
    case hz1 => intro w; go_simp; try rfl
    refine wpAny_take (i := 2) (v := ?w2) rfl (by kernel_rfl) (by kernel_rfl) (by kernel_rfl) (fun _ _ _ h => h) (Or.inl ⟨by rfl, ?hz2⟩) ?more2
    case hz2 => intro w; go_simp; try rfl
    refine wpAny_take (i := 3) (v := ?w3) rfl (by kernel_rfl) (by kernel_rfl) (by kernel_rfl) (fun _ _ _ h => h) (Or.inl ⟨by rfl, ?hz3⟩) ?more3
    case hz3 => intro w; go_simp; try rfl
    refine wpAny_take (i := 4) (v := ?w4) rfl (by kernel_rfl) (by kernel_rfl) (by kernel_rfl) (fun _ _ _ h => h) (Or.inl ⟨by rfl, ?hz4⟩) ?more4
    case hz4 => intro w; go_simp; try rfl
    refine wpAny_ready (rs := [5]) (by kernel_rfl) (by simp) ?_
    refine AllReady.cons rfl (fun K hK => ?_) AllReady.nil
    go_simp
    refine HC.out.mono ?_
    rintro e w1 ⟨⟨u, pv, rfl⟩, hr⟩
    exact ⟨rfl, ⟨u, pv, rfl⟩, gb_trans (gb_drew (gb_refl _ _)) hr.1, hr.2⟩
theorem tryB_any (rb : Nat) (most : Int) (st : St) (w : World) (h : RdS w rb st) (hl : ∀ l, st = some l → l.length ≤ 1000000) :
    Calls Tryz.prog 89 #[.pointer (some ⟨rb, 0, none⟩), .func (.func 90) #[.pointer (some ⟨rb, 0, none⟩)] #[], .int .i64 most] w fun e w' => ∃ v, e = .returned v ∧ w.grownBy w' (some rb) ∧ RdS w' rb (bytesS most st).2 ∧ w'.ownsRow w.heap.size 5 1 v (bytesS most st).1.length ((bytesS most st).1.map u8N) := by
  unfold bytesS
  cases st with
  | none =>
    refine (tryB_bad _ most _ w fun w1 hg => wgood_no rb _ w1 (RdN.stay h hg)).mono ?_
    rintro e w' ⟨rfl, hg⟩
    exact ⟨_, rfl, gb_row hg _, RdN.stay h hg, World.ownsRow_nil w' _ 5 1⟩
  | some l =>
    obtain ⟨a, n, cap, hb, _⟩ := id h
    have gz := gb_alloc (gb_refl w none) (.cells #[.pointer (some ⟨rb, 0, none⟩)] 34)
    cases hk : rdBytes most l with
    | some p =>
      obtain ⟨x, r⟩ := p
      have e1 : tells [] (rdBytes most) (some l) = (x, some r) := by unfold tells; simp only [hk]
      rw [e1]
      refine (tryB_yes rb most _ w (fun v w' => w.grownBy w' (some rb) ∧ RdB w' rb (gP rb) r ∧ w'.ownsRow w.heap.size 5 1 v x.length (x.map u8N)) hb ((rbytes_yes rb l x r most _ (RdB.stay h gz) (hl l rfl) hk).mono ?_))
      rintro e w' ⟨v, rfl, hg, hr, ho⟩
      exact ⟨v, rfl, gb_trans (gb_row gz _) hg, hr, own_down ho gz.size⟩
    | none =>
      have e1 : tells [] (rdBytes most) (some l) = ([], none) := by unfold tells; simp only [hk]
      rw [e1]
      refine (tryB_no rb most _ w hb (rbytes_no rb l most _ (RdB.stay h gz) hk)).mono ?_
      rintro e w' ⟨rfl, hg, hn⟩
      exact ⟨_, rfl, hg, hn, World.ownsRow_nil w' _ 5 1⟩
end Go.Proofs.YtlkiancedgaicaaGreat
