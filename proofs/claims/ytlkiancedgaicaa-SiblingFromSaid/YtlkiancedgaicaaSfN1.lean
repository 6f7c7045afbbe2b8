/- texts merged, part 1: XSbFromM XRcOver XSbFrom -/
import Derived.Test.YtlkiancedgaicaaSfB4
import Derived.Test.YtlkiancedgaicaaSfB3
import Derived.Test.YtlkiancedgaicaaSfB2
import Derived.Deep.Cut
import Derived.Deep.CutRange
import Derived.BigQuiet
/- What is few enough; what is joined: the mathematics of the law on Join. -/
namespace Go.Proofs.Ytlkiancedgaicaa
open Go.RowKit Ow Wi Ve Rc
namespace Sb
/-- a record that is small enough -/
def Small (x : E) : Prop := x.1.n1 ≤ 1000000 ∧ x.1.n2 ≤ 1000000 ∧ x.1.n3 ≤ 1000000
theorem cnt_small {x : E} (h : cntE x ≤ 2500) : Small x := by unfold cntE at h; unfold Small; omega
theorem le_sum_mem : ∀ {l : List Nat} {a : Nat}, a ∈ l → a ≤ l.sum
  | b :: l, a, h => by
    rw [List.sum_cons]
    rcases List.mem_cons.1 h with rfl | h
    · omega
    · have := le_sum_mem h; omega
  | [], _, h => by cases h
theorem sum_mem {l : List E} {x : E} (h : x ∈ l) : cntE x ≤ sumC l := by
  unfold sumC
  exact le_sum_mem (List.mem_map.2 ⟨x, h, rfl⟩)
theorem sum_len (l : List E) : l.length ≤ sumC l := by
  induction l with
  | nil => exact Nat.le_refl _
  | cons x l ih =>
    have : sumC (x :: l) = cntE x + sumC l := by simp [sumC]
    rw [this, List.length_cons]
    have : 1 ≤ cntE x := by unfold cntE; omega
    omega
theorem sumS_mem {S : List (List E)} {l : List E} (h : l ∈ S) : sumC l ≤ (S.map sumC).sum := le_sum_mem (List.mem_map.2 ⟨l, h, rfl⟩)
/-- few: no set is great -/
def Few (S : List (List E)) : Prop := ∀ l ∈ S, l.length ≤ 2500 ∧ ∀ x ∈ l, Small x
theorem few_of {S : List (List E)} {m : Nat} (h : m + (S.map sumC).sum ≤ 2500) : Few S := fun l hl => by
  have h1 := sumS_mem hl
  exact ⟨by have := sum_len l; omega, fun x hx => cnt_small (by have := sum_mem hx; omega)⟩
/-- what lies in a row has the length that its parts have -/
theorem small_at {w : World} {B : Nat} {x : E} (h : RAt w B x.1 x.2) (hs : x.2.cx.length ≤ 1000000 ∧ x.2.val.length ≤ 1000000 ∧ x.2.sig.length ≤ 1000000) : Small x := by
  unfold Small
  rw [← h.l1, ← h.l2, ← h.l3]; exact hs
theorem at_small {w : World} {B : Nat} {x : E} (h : RAt w B x.1 x.2) (hs : Small x) : x.2.cx.length ≤ 1000000 ∧ x.2.val.length ≤ 1000000 ∧ x.2.sig.length ≤ 1000000 := by
  rw [h.l1, h.l2, h.l3]; exact hs
theorem joinO_sub {F : List R} {x : R} (h : x ∈ joinO F) : x ∈ F := by
  unfold joinO at h
  split at h
  · exact join_sub h
  · cases h
theorem joinO_rise (F : List R) : (joinO F).Pairwise (fun a b => lessD a b = true) := by
  unfold joinO
  split
  · exact join_rise F
  · exact List.Pairwise.nil
theorem joinO_over {F : List R} {x a : R} (hx : x ∈ joinO F) (ha : a ∈ joinO F) : overB a x = false := by
  unfold joinO at hx ha
  split at hx
  · rename_i h
    rw [if_pos h] at ha
    unfold overB
    rw [join_free hx ha]; simp
  · cases hx
theorem joinO_self {l m : List R} (h : setB l = true) (hm : ∀ x, x ∈ m ↔ x ∈ l) : alikeB m = true ∧ joinO m = l := by
  have ha := (set_of h).1
  have hm2 : alikeB m = true := by
    rw [alike_iff]
    intro r hr
    have hk : keyL m = keyL l := by
      cases m with
      | nil => cases hr
      | cons y m =>
        show y.key = _
        exact ((alike_iff l).1 ha y ((hm y).1 (by simp))).2
    rw [hk]
    exact (alike_iff l).1 ha r ((hm r).1 hr)
  exact ⟨hm2, by unfold joinO; rw [if_pos hm2]; exact join_self h hm⟩
/-- great of sets that have just been laid -/
theorem great_lits (w : World) (T : TypeId) (q : List (Option Addr × Nat × List E)) (m : Nat) (hm : q.length = m) (hm2 : m ≤ 1000000) (hq : ∀ x ∈ q, RRow w w.heap.size x.1 x.2.2 ∧ (x.1 = none → x.2.1 = 0)) (hl : ∀ x ∈ q, x.2.2.length < 9223372036854775808 ∧ ∀ y ∈ x.2.2, Fits y) :
    Calls Try.prog 6 #[.slice (some ⟨w.heap.size, 0, none⟩) m m] (w.alloc (.cells (q.map fun q => Value.slice q.1 q.2.2.length q.2.1).toArray T)) (fun e w' => ∃ b : Bool, e = .returned (.bool b) ∧ (b = false → Few (q.map (·.2.2))) ∧ w.grownBy w' none) :=
  (great_any m m (w.heap.size + 1) (q.map (·.2.2)) (some ⟨w.heap.size, 0, none⟩) _ (by simpa using hm) (srow_new w w.heap.size T q (Nat.le_refl _) hq) (by omega) (fun p hp => by
      obtain ⟨x, hx, rfl⟩ := List.mem_map.1 hp
      exact (hl x hx).1) (fun x hx => by
      obtain ⟨p, hp, hxp⟩ := List.mem_flatten.1 hx
      obtain ⟨y, hy, rfl⟩ := List.mem_map.1 hp
      exact (hl y hy).2 x hxp)).mono fun e w' ⟨b, he, hb, hg⟩ => ⟨b, he, fun h => few_of (hb h), gb_trans (gb_alloc (gb_refl _ _) _) hg⟩
theorem join2 (w : World) (a0 : Option Addr) (n0 c0 : Nat) (l0 : List E) (a1 : Option Addr) (n1 c1 : Nat) (l1 : List E) (h0 : l0.length = n0 ∧ n0 ≤ 100000 ∧ RRow w w.heap.size a0 l0 ∧ (a0 = none → c0 = 0) ∧ ∀ x ∈ l0, Small x) (h1 : l1.length = n1 ∧ n1 ≤ 100000 ∧ RRow w w.heap.size a1 l1 ∧ (a1 = none → c1 = 0) ∧ ∀ x ∈ l1, Small x) :
    Calls Try.prog 7 #[.slice (some ⟨w.heap.size, 0, none⟩) 2 2] (w.alloc (.cells #[.slice a0 n0 c0, .slice a1 n1 c1] 22)) (JoinRow w (recs (l0 ++ l1))) := by
  have hF : (([(a0, c0, l0), (a1, c1, l1)] : List (Option Addr × Nat × List E)).map (·.2.2)).flatten = (l0 ++ l1) := by simp
  have h := join_lits w 22 [(a0, c0, l0), (a1, c1, l1)] 2 rfl (by decide) (by
    intro x hx; simp only [List.mem_cons, List.not_mem_nil, or_false] at hx
    rcases hx with rfl | rfl
    · exact ⟨h0.2.2.1, h0.2.2.2.1⟩
    · exact ⟨h1.2.2.1, h1.2.2.2.1⟩) (by
    rw [hF]; simp only [List.length_append]; rw [h0.1, h1.1]
    have q0 := h0.2.1; have q1 := h1.2.1; omega) (by
    rw [hF]; intro x hx; simp only [List.mem_append] at hx
    rcases hx with hx | hx
    · exact h0.2.2.2.2 x hx
    · exact h1.2.2.2.2 x hx)
  rw [hF, show ([(a0, c0, l0), (a1, c1, l1)] : List (Option Addr × Nat × List E)).map (fun q => Value.slice q.1 q.2.2.length q.2.1) = [.slice a0 n0 c0, .slice a1 n1 c1] from by simp only [List.map_cons, List.map_nil]; rw [h0.1, h1.1]] at h
  exact h
theorem join3 (w : World) (a0 : Option Addr) (n0 c0 : Nat) (l0 : List E) (a1 : Option Addr) (n1 c1 : Nat) (l1 : List E) (a2 : Option Addr) (n2 c2 : Nat) (l2 : List E) (h0 : l0.length = n0 ∧ n0 ≤ 100000 ∧ RRow w w.heap.size a0 l0 ∧ (a0 = none → c0 = 0) ∧ ∀ x ∈ l0, Small x) (h1 : l1.length = n1 ∧ n1 ≤ 100000 ∧ RRow w w.heap.size a1 l1 ∧ (a1 = none → c1 = 0) ∧ ∀ x ∈ l1, Small x) (h2 : l2.length = n2 ∧ n2 ≤ 100000 ∧ RRow w w.heap.size a2 l2 ∧ (a2 = none → c2 = 0) ∧ ∀ x ∈ l2, Small x) :
    Calls Try.prog 7 #[.slice (some ⟨w.heap.size, 0, none⟩) 3 3] (w.alloc (.cells #[.slice a0 n0 c0, .slice a1 n1 c1, .slice a2 n2 c2] 22)) (JoinRow w (recs (l0 ++ l1 ++ l2))) := by
  have hF : (([(a0, c0, l0), (a1, c1, l1), (a2, c2, l2)] : List (Option Addr × Nat × List E)).map (·.2.2)).flatten = (l0 ++ l1 ++ l2) := by simp
  have h := join_lits w 22 [(a0, c0, l0), (a1, c1, l1), (a2, c2, l2)] 3 rfl (by decide) (by
    intro x hx; simp only [List.mem_cons, List.not_mem_nil, or_false] at hx
    rcases hx with rfl | rfl | rfl
    · exact ⟨h0.2.2.1, h0.2.2.2.1⟩
    · exact ⟨h1.2.2.1, h1.2.2.2.1⟩
    · exact ⟨h2.2.2.1, h2.2.2.2.1⟩) (by
    rw [hF]; simp only [List.length_append]; rw [h0.1, h1.1, h2.1]
    have q0 := h0.2.1; have q1 := h1.2.1; have q2 := h2.2.1; omega) (by
    rw [hF]; intro x hx; simp only [List.mem_append] at hx
    rcases hx with (hx | hx) | hx
    · exact h0.2.2.2.2 x hx
    · exact h1.2.2.2.2 x hx
    · exact h2.2.2.2.2 x hx)
  rw [hF, show ([(a0, c0, l0), (a1, c1, l1), (a2, c2, l2)] : List (Option Addr × Nat × List E)).map (fun q => Value.slice q.1 q.2.2.length q.2.1) = [.slice a0 n0 c0, .slice a1 n1 c1, .slice a2 n2 c2] from by simp only [List.map_cons, List.map_nil]; rw [h0.1, h1.1, h2.1]] at h
  exact h
/-- the records laid one row behind the other, as 'append(append([]api.Record{}, a...), b...)' lays them -/
theorem own_none (w : World) : ∀ c : Nat, c = 0 → OwnR (w.alloc (.cells #[] 34)) w.heap.size (.slice (some ⟨w.heap.size, 0, none⟩) 0 c) [] := fun c hc => by
  subst hc
  exact World.ownsRow_made w #[] _ (Nat.le_refl _) (by decide) rfl
end Sb
end Go.Proofs.Ytlkiancedgaicaa

/- record.Over: who is over whom. (Printed by gen_rcover.py.) -/
namespace Go.Proofs.Ytlkiancedgaicaa
open Go.RowKit Ow Wi Ve
namespace Rc
set_option maxHeartbeats 4000000 in
set_option maxRecDepth 100000 in
theorem rover_any (ra rb : R) (B1 B2 : Nat) (w : World) (qa qb : L) (ha : RAt w B1 qa ra) (hb : RAt w B2 qb rb) : Calls Try.prog 11 #[qa.v ra, qb.v rb] w fun e w' => e = .returned (.bool (overB ra rb)) ∧ w.grownBy w' none := by
  have HX := Lib.hid (fun w' (hg : w.grownBy w' none) => shaped_any (shapeB ra) ra B1 w' qa (ha.stay hg) rfl)
  have HY := Lib.hid (fun w' (hg : w.grownBy w' none) => shaped_any (shapeB rb) rb B2 w' qb (hb.stay hg) rfl)
  have HH := Lib.hid (fun w' (hg : w.grownBy w' none) => has_any B1 qa.n1 qa.c1 qa.a1 ra.cx rb.cl rb.sq w' ha.l1 (ha.dots.stay hg) ha.top)
  have hz := str_eq qa.s qb.s
  rw [ha.str, hb.str] at hz
  obtain ⟨o, ho⟩ : ∃ o, o = overB ra rb := ⟨_, rfl⟩
  rw [← ho]
  have ho' : o = (shapeB ra && shapeB rb && decide (ra.key = rb.key) && hasB ra.cx (rb.cl, rb.sq)) := ho
  rw [← hz] at ho'
  clear ha hb hz ho
  generalize hasB ra.cx (rb.cl, rb.sq) = t at *
  generalize shapeB ra = x at *
  generalize shapeB rb = y at *
  obtain ⟨s, a1, n1, c1, a2, n2, c2, a3, n3, c3⟩ := qa
  obtain ⟨key, cl, sq, cx, g, val, sig⟩ := ra
  obtain ⟨s', a1', n1', c1', a2', n2', c2', a3', n3', c3'⟩ := qb
  obtain ⟨key', cl', sq', cx', g', val', sig'⟩ := rb
  replace HX : Hid (∀ w' (_ : w.grownBy w' none), Calls Try.prog 22 #[vV s cl sq a1 n1 c1 g a2 n2 c2 a3 n3 c3] w' fun e w'' => e = .returned (.bool x) ∧ w'.grownBy w'' none) := HX
  replace HY : Hid (∀ w' (_ : w.grownBy w' none), Calls Try.prog 22 #[vV s' cl' sq' a1' n1' c1' g' a2' n2' c2' a3' n3' c3'] w' fun e w'' => e = .returned (.bool y) ∧ w'.grownBy w'' none) := HY
  replace HH : Hid (∀ w' (_ : w.grownBy w' none), Calls Try.prog 23 #[.slice a1 n1 c1, .agg #[iV cl', iV sq']] w' fun e w'' => e = .returned (.bool t) ∧ w'.grownBy w'' none) := HH
  simp only at ho'
  obtain ⟨z, hz⟩ : ∃ z, (s.toList == s'.toList) = z := ⟨_, rfl⟩
  rw [hz] at ho'
  have HZ := Lib.hid hz; clear hz
  have HO := Lib.hid ho'; clear ho'
  show Calls _ _ #[vV s cl sq a1 n1 c1 g a2 n2 c2 a3 n3 c3, vV s' cl' sq' a1' n1' c1' g' a2' n2' c2' a3' n3' c3'] w _
  go_enter Try.func11, Try.ntmps11
  go_upto_region 1 with fail
  go_region
  focus
    obtain ⟨M1, hM1⟩ : ∃ M, M = w.heap.size + 1 + 1 := ⟨_, rfl⟩
    obtain ⟨M2, hM2⟩ : ∃ M, M = w.heap.size + 1 + 1 + 1 := ⟨_, rfl⟩
    obtain ⟨W0, hW0⟩ : ∃ W0, W0 = ((((w.alloc (.cells #[.string s, iV cl, iV sq, .slice a1 n1 c1, .bool g, .slice a2 n2 c2, .slice a3 n3 c3] 34)).alloc (.cells #[.string s', iV cl', iV sq', .slice a1' n1' c1', .bool g', .slice a2' n2' c2', .slice a3' n3' c3'] 34)).alloc (.cells #[.string s, iV cl, iV sq, .slice a1 n1 c1, .bool g, .slice a2 n2 c2, .slice a3 n3 c3] 50)).alloc (.cells #[.string s', iV cl', iV sq', .slice a1' n1' c1', .bool g', .slice a2' n2' c2', .slice a3' n3' c3'] 50)).drew := ⟨_, rfl⟩
    have hG0 : w.grownBy W0 none := by rw [hW0]; exact gb_drew (gb_alloc (gb_alloc (gb_alloc (gb_alloc (gb_refl _ _) _) _) _) _)
    have hP0 : Blk W0 M1 50 [.string s, iV cl, iV sq, .slice a1 n1 c1, .bool g, .slice a2 n2 c2, .slice a3 n3 c3] := by rw [hW0, hM1]; exact ((blk_at _ [.string s, iV cl, iV sq, .slice a1 n1 c1, .bool g, .slice a2 n2 c2, .slice a3 n3 c3] 50 (by simp)).alloc _).drew
    have hP1 : Blk W0 M2 50 [.string s', iV cl', iV sq', .slice a1' n1' c1', .bool g', .slice a2' n2' c2', .slice a3' n3' c3'] := by rw [hW0, hM2]; exact (blk_at _ [.string s', iV cl', iV sq', .slice a1' n1' c1', .bool g', .slice a2' n2' c2', .slice a3' n3' c3'] 50 (by simp)).drew
    rw [← hW0, ← hM2, ← hM1]
  rotate_left
  focus
    obtain ⟨M2, hM2⟩ : ∃ M, M = w.heap.size + 1 + 1 := ⟨_, rfl⟩
    obtain ⟨M1, hM1⟩ : ∃ M, M = w.heap.size + 1 + 1 + 1 := ⟨_, rfl⟩
    obtain ⟨W0, hW0⟩ : ∃ W0, W0 = ((((w.alloc (.cells #[.string s, iV cl, iV sq, .slice a1 n1 c1, .bool g, .slice a2 n2 c2, .slice a3 n3 c3] 34)).alloc (.cells #[.string s', iV cl', iV sq', .slice a1' n1' c1', .bool g', .slice a2' n2' c2', .slice a3' n3' c3'] 34)).alloc (.cells #[.string s', iV cl', iV sq', .slice a1' n1' c1', .bool g', .slice a2' n2' c2', .slice a3' n3' c3'] 50)).alloc (.cells #[.string s, iV cl, iV sq, .slice a1 n1 c1, .bool g, .slice a2 n2 c2, .slice a3 n3 c3] 50)).drew := ⟨_, rfl⟩
    have hG0 : w.grownBy W0 none := by rw [hW0]; exact gb_drew (gb_alloc (gb_alloc (gb_alloc (gb_alloc (gb_refl _ _) _) _) _) _)
    have hP1 : Blk W0 M2 50 [.string s', iV cl', iV sq', .slice a1' n1' c1', .bool g', .slice a2' n2' c2', .slice a3' n3' c3'] := by rw [hW0, hM2]; exact ((blk_at _ [.string s', iV cl', iV sq', .slice a1' n1' c1', .bool g', .slice a2' n2' c2', .slice a3' n3' c3'] 50 (by simp)).alloc _).drew
    have hP0 : Blk W0 M1 50 [.string s, iV cl, iV sq, .slice a1 n1 c1, .bool g, .slice a2 n2 c2, .slice a3 n3 c3] := by rw [hW0, hM1]; exact (blk_at _ [.string s, iV cl, iV sq, .slice a1 n1 c1, .bool g, .slice a2 n2 c2, .slice a3 n3 c3] 50 (by simp)).drew
    rw [← hW0, ← hM1, ← hM2]
  all_goals
    have HG0 := Lib.hid (And.intro hG0 (And.intro hP0 hP1)); clear hG0 hP0 hP1 hW0 hM1 hM2
    go_upto_region 2 with fail
    cases x with
    | false =>
      refine Fg.region_t [] [.any, .any, .any, .any, .val (Value.bool false), .any, .any, .any, .any, .any, .any, .val (vV s cl sq a1 n1 c1 g a2 n2 c2 a3 n3 c3), .val (Value.bool false), .val (Value.bool false), .val undef, .val undef, .val (Value.bool false), .val (Value.bool false), .val undef, .val undef, .val undef, .val undef, .val undef, .val undef, .val undef, .val (Value.bool false), .val (Value.bool false), .val undef, .val undef, .val undef, .val undef, .val undef, .val undef, .val (Value.bool false)] W0 24 (gb_refl _ _) (by kernel_rfl) (by kernel_rfl) (by kernel_rfl) (by kernel_rfl) (by decide) (by kernel_rfl) ?_ ?_
      · refine ⟨Fg.vT rfl (by decide) fun ac w h => ?_, ?_⟩
        · have e5 : ac.tmps.getD 5 undef = Value.pointer (some ⟨M1, 0, none⟩) := h.rest 5 (by kernel_rfl)
          have hb1 := HG0.out.2.1.grown h.base (by simp)
          have m0 := hb1.cell (i := 0) rfl
          have m1 := hb1.cell (i := 1) rfl
          have m2 := hb1.cell (i := 2) rfl
          have m3 := hb1.cell (i := 3) rfl
          have m4 := hb1.cell (i := 4) rfl
          have m5 := hb1.cell (i := 5) rfl
          have m6 := hb1.cell (i := 6) rfl
          refine ⟨vV s cl sq a1 n1 c1 g a2 n2 c2 a3 n3 c3, w, wants_none rfl, ?_, gb_refl _ _, rfl⟩
          clear h
          simp only [execOp, Act.eval, e5]
          go_simp
        refine ⟨Fg.cT rfl (by decide) fun ac w h => ?_, ?_⟩
        · have e11 : ac.tmps.getD 11 undef = vV s cl sq a1 n1 c1 g a2 n2 c2 a3 n3 c3 := h.dep 11 (by kernel_rfl)
          refine ⟨22, #[vV s cl sq a1 n1 c1 g a2 n2 c2 a3 n3 c3], wants_none rfl, Fg.run_call rfl rfl (by simp only [List.map_toArray, List.map_cons, List.map_nil, Act.eval, e11]) (Fg.run_enter Try.func22 (by kernel_rfl) (by kernel_rfl)), ?_⟩
          exact (HX.out w (gb_trans HG0.out.1 h.base)).mono fun _ _ ⟨he, hg⟩ => ⟨_, he, hg, rfl⟩
        refine ⟨Fg.vT rfl (by decide) fun ac w h => ?_, ?_⟩
        · have e12 : ac.tmps.getD 12 undef = Value.bool false := h.dep 12 (by kernel_rfl)
          exact ⟨_, w, wants_none rfl, Fg.run_move rfl e12, gb_refl _ _, rfl⟩
        refine ⟨Fg.sT rfl (by decide) (fun _ => rfl) fun ac w h => ?_, ?_⟩
        · have e13 : ac.tmps.getD 13 undef = Value.bool false := h.dep 13 (by kernel_rfl)
          exact not_wants (d := 13) rfl rfl (by rw [h.size]; show 13 < 34; decide) e13 (by decide)
        refine ⟨Fg.sT rfl (by decide) (fun _ => rfl) fun ac w h => ?_, ?_⟩
        · have e13 : ac.tmps.getD 13 undef = Value.bool false := h.dep 13 (by kernel_rfl)
          exact not_wants (d := 13) rfl rfl (by rw [h.size]; show 13 < 34; decide) e13 (by decide)
        refine ⟨Fg.vT rfl (by decide) fun ac w h => ?_, ?_⟩
        · have e13 : ac.tmps.getD 13 undef = Value.bool false := h.dep 13 (by kernel_rfl)
          refine ⟨Value.bool false, w, wants_none rfl, ?_, gb_refl _ _, rfl⟩
          clear h
          simp only [execOp, Act.eval, e13]
          go_simp
        refine ⟨Fg.vT rfl (by decide) fun ac w h => ?_, ?_⟩
        · have e16 : ac.tmps.getD 16 undef = Value.bool false := h.dep 16 (by kernel_rfl)
          exact ⟨_, w, wants_none rfl, Fg.run_move rfl e16, gb_refl _ _, rfl⟩
        refine ⟨Fg.sT rfl (by decide) (fun _ => rfl) fun ac w h => ?_, ?_⟩
        · have e17 : ac.tmps.getD 17 undef = Value.bool false := h.dep 17 (by kernel_rfl)
          exact not_wants (d := 17) rfl rfl (by rw [h.size]; show 17 < 34; decide) e17 (by decide)
        refine ⟨Fg.sT rfl (by decide) (fun _ => rfl) fun ac w h => ?_, ?_⟩
        · have e17 : ac.tmps.getD 17 undef = Value.bool false := h.dep 17 (by kernel_rfl)
          exact not_wants (d := 17) rfl rfl (by rw [h.size]; show 17 < 34; decide) e17 (by decide)
        refine ⟨Fg.sT rfl (by decide) (fun _ => rfl) fun ac w h => ?_, ?_⟩
        · have e17 : ac.tmps.getD 17 undef = Value.bool false := h.dep 17 (by kernel_rfl)
          exact not_wants (d := 17) rfl rfl (by rw [h.size]; show 17 < 34; decide) e17 (by decide)
        refine ⟨Fg.sT rfl (by decide) (fun _ => rfl) fun ac w h => ?_, ?_⟩
        · have e17 : ac.tmps.getD 17 undef = Value.bool false := h.dep 17 (by kernel_rfl)
          exact not_wants (d := 17) rfl rfl (by rw [h.size]; show 17 < 34; decide) e17 (by decide)
        refine ⟨Fg.sT rfl (by decide) (fun _ => rfl) fun ac w h => ?_, ?_⟩
        · have e17 : ac.tmps.getD 17 undef = Value.bool false := h.dep 17 (by kernel_rfl)
          exact not_wants (d := 17) rfl rfl (by rw [h.size]; show 17 < 34; decide) e17 (by decide)
        refine ⟨Fg.sT rfl (by decide) (fun _ => rfl) fun ac w h => ?_, ?_⟩
        · have e17 : ac.tmps.getD 17 undef = Value.bool false := h.dep 17 (by kernel_rfl)
          exact not_wants (d := 17) rfl rfl (by rw [h.size]; show 17 < 34; decide) e17 (by decide)
        refine ⟨Fg.sT rfl (by decide) (fun _ => rfl) fun ac w h => ?_, ?_⟩
        · have e17 : ac.tmps.getD 17 undef = Value.bool false := h.dep 17 (by kernel_rfl)
          exact not_wants (d := 17) rfl rfl (by rw [h.size]; show 17 < 34; decide) e17 (by decide)
        refine ⟨Fg.vT rfl (by decide) fun ac w h => ?_, ?_⟩
        · have e17 : ac.tmps.getD 17 undef = Value.bool false := h.dep 17 (by kernel_rfl)
          refine ⟨Value.bool false, w, wants_none rfl, ?_, gb_refl _ _, rfl⟩
          clear h
          simp only [execOp, Act.eval, e17]
          go_simp
        refine ⟨Fg.vT rfl (by decide) fun ac w h => ?_, ?_⟩
        · have e25 : ac.tmps.getD 25 undef = Value.bool false := h.dep 25 (by kernel_rfl)
          exact ⟨_, w, wants_none rfl, Fg.run_move rfl e25, gb_refl _ _, rfl⟩
        refine ⟨Fg.sT rfl (by decide) (fun _ => rfl) fun ac w h => ?_, ?_⟩
        · have e26 : ac.tmps.getD 26 undef = Value.bool false := h.dep 26 (by kernel_rfl)
          exact not_wants (d := 26) rfl rfl (by rw [h.size]; show 26 < 34; decide) e26 (by decide)
        refine ⟨Fg.sT rfl (by decide) (fun _ => rfl) fun ac w h => ?_, ?_⟩
        · have e26 : ac.tmps.getD 26 undef = Value.bool false := h.dep 26 (by kernel_rfl)
          exact not_wants (d := 26) rfl rfl (by rw [h.size]; show 26 < 34; decide) e26 (by decide)
        refine ⟨Fg.sT rfl (by decide) (fun _ => rfl) fun ac w h => ?_, ?_⟩
        · have e26 : ac.tmps.getD 26 undef = Value.bool false := h.dep 26 (by kernel_rfl)
          exact not_wants (d := 26) rfl rfl (by rw [h.size]; show 26 < 34; decide) e26 (by decide)
        refine ⟨Fg.sT rfl (by decide) (fun _ => rfl) fun ac w h => ?_, ?_⟩
        · have e26 : ac.tmps.getD 26 undef = Value.bool false := h.dep 26 (by kernel_rfl)
          exact not_wants (d := 26) rfl rfl (by rw [h.size]; show 26 < 34; decide) e26 (by decide)
        refine ⟨Fg.sT rfl (by decide) (fun _ => rfl) fun ac w h => ?_, ?_⟩
        · have e26 : ac.tmps.getD 26 undef = Value.bool false := h.dep 26 (by kernel_rfl)
          exact not_wants (d := 26) rfl rfl (by rw [h.size]; show 26 < 34; decide) e26 (by decide)
        refine ⟨Fg.sT rfl (by decide) (fun _ => rfl) fun ac w h => ?_, ?_⟩
        · have e26 : ac.tmps.getD 26 undef = Value.bool false := h.dep 26 (by kernel_rfl)
          exact not_wants (d := 26) rfl rfl (by rw [h.size]; show 26 < 34; decide) e26 (by decide)
        refine ⟨Fg.vT rfl (by decide) fun ac w h => ?_, ?_⟩
        · have e26 : ac.tmps.getD 26 undef = Value.bool false := h.dep 26 (by kernel_rfl)
          refine ⟨Value.bool false, w, wants_none rfl, ?_, gb_refl _ _, rfl⟩
          clear h
          simp only [execOp, Act.eval, e26]
          go_simp
        refine ⟨Fg.vT rfl (by decide) fun ac w h => ?_, ?_⟩
        · have e33 : ac.tmps.getD 33 undef = Value.bool false := h.dep 33 (by kernel_rfl)
          exact ⟨_, w, wants_none rfl, Fg.run_assign rfl e33, gb_refl _ _, rfl⟩
        trivial
      · intro aq wq hB hsz hdf hrest hslots hpt
        obtain ⟨u0, e0⟩ : ∃ u, aq.tmps.getD 0 undef = u := ⟨_, rfl⟩
        obtain ⟨u1, e1⟩ : ∃ u, aq.tmps.getD 1 undef = u := ⟨_, rfl⟩
        obtain ⟨u2, e2⟩ : ∃ u, aq.tmps.getD 2 undef = u := ⟨_, rfl⟩
        obtain ⟨u3, e3⟩ : ∃ u, aq.tmps.getD 3 undef = u := ⟨_, rfl⟩
        have e4 : aq.tmps.getD 4 undef = Value.bool false := hslots 4 (by kernel_rfl)
        obtain ⟨u5, e5⟩ : ∃ u, aq.tmps.getD 5 undef = u := ⟨_, rfl⟩
        obtain ⟨u6, e6⟩ : ∃ u, aq.tmps.getD 6 undef = u := ⟨_, rfl⟩
        obtain ⟨u7, e7⟩ : ∃ u, aq.tmps.getD 7 undef = u := ⟨_, rfl⟩
        obtain ⟨u8, e8⟩ : ∃ u, aq.tmps.getD 8 undef = u := ⟨_, rfl⟩
        obtain ⟨u9, e9⟩ : ∃ u, aq.tmps.getD 9 undef = u := ⟨_, rfl⟩
        obtain ⟨u10, e10⟩ : ∃ u, aq.tmps.getD 10 undef = u := ⟨_, rfl⟩
        obtain ⟨u11, e11⟩ : ∃ u, aq.tmps.getD 11 undef = u := ⟨_, rfl⟩
        obtain ⟨u12, e12⟩ : ∃ u, aq.tmps.getD 12 undef = u := ⟨_, rfl⟩
        obtain ⟨u13, e13⟩ : ∃ u, aq.tmps.getD 13 undef = u := ⟨_, rfl⟩
        obtain ⟨u14, e14⟩ : ∃ u, aq.tmps.getD 14 undef = u := ⟨_, rfl⟩
        obtain ⟨u15, e15⟩ : ∃ u, aq.tmps.getD 15 undef = u := ⟨_, rfl⟩
        obtain ⟨u16, e16⟩ : ∃ u, aq.tmps.getD 16 undef = u := ⟨_, rfl⟩
        obtain ⟨u17, e17⟩ : ∃ u, aq.tmps.getD 17 undef = u := ⟨_, rfl⟩
        obtain ⟨u18, e18⟩ : ∃ u, aq.tmps.getD 18 undef = u := ⟨_, rfl⟩
        obtain ⟨u19, e19⟩ : ∃ u, aq.tmps.getD 19 undef = u := ⟨_, rfl⟩
        obtain ⟨u20, e20⟩ : ∃ u, aq.tmps.getD 20 undef = u := ⟨_, rfl⟩
        obtain ⟨u21, e21⟩ : ∃ u, aq.tmps.getD 21 undef = u := ⟨_, rfl⟩
        obtain ⟨u22, e22⟩ : ∃ u, aq.tmps.getD 22 undef = u := ⟨_, rfl⟩
        obtain ⟨u23, e23⟩ : ∃ u, aq.tmps.getD 23 undef = u := ⟨_, rfl⟩
        obtain ⟨u24, e24⟩ : ∃ u, aq.tmps.getD 24 undef = u := ⟨_, rfl⟩
        obtain ⟨u25, e25⟩ : ∃ u, aq.tmps.getD 25 undef = u := ⟨_, rfl⟩
        obtain ⟨u26, e26⟩ : ∃ u, aq.tmps.getD 26 undef = u := ⟨_, rfl⟩
        obtain ⟨u27, e27⟩ : ∃ u, aq.tmps.getD 27 undef = u := ⟨_, rfl⟩
        obtain ⟨u28, e28⟩ : ∃ u, aq.tmps.getD 28 undef = u := ⟨_, rfl⟩
        obtain ⟨u29, e29⟩ : ∃ u, aq.tmps.getD 29 undef = u := ⟨_, rfl⟩
        obtain ⟨u30, e30⟩ : ∃ u, aq.tmps.getD 30 undef = u := ⟨_, rfl⟩
        obtain ⟨u31, e31⟩ : ∃ u, aq.tmps.getD 31 undef = u := ⟨_, rfl⟩
        obtain ⟨u32, e32⟩ : ∃ u, aq.tmps.getD 32 undef = u := ⟨_, rfl⟩
        obtain ⟨u33, e33⟩ : ∃ u, aq.tmps.getD 33 undef = u := ⟨_, rfl⟩
        obtain rfl := Fg.frame_is (a := aq) (vs := [u0, u1, u2, u3, Value.bool false, u5, u6, u7, u8, u9, u10, u11, u12, u13, u14, u15, u16, u17, u18, u19, u20, u21, u22, u23, u24, u25, u26, u27, u28, u29, u30, u31, u32, u33]) hsz ⟨e0, e1, e2, e3, e4, e5, e6, e7, e8, e9, e10, e11, e12, e13, e14, e15, e16, e17, e18, e19, e20, e21, e22, e23, e24, e25, e26, e27, e28, e29, e30, e31, e32, e33, trivial⟩ hdf
        clear hsz hdf hrest hslots hpt e0 e1 e2 e3 e4 e5 e6 e7 e8 e9 e10 e11 e12 e13 e14 e15 e16 e17 e18 e19 e20 e21 e22 e23 e24 e25 e26 e27 e28 e29 e30 e31 e32 e33
        have HR := Lib.hid (gb_trans HG0.out.1 hB)
        clear hB
        refine wpList_nil ?_
        go_wp2
        go_ret
        exact ⟨by rw [HO.out]; rfl, HR.out⟩
    | true =>
      cases y with
      | false =>
        refine Fg.region_t [] [.any, .any, .any, .any, .val (Value.bool false), .any, .any, .any, .any, .any, .any, .val (vV s cl sq a1 n1 c1 g a2 n2 c2 a3 n3 c3), .val (Value.bool true), .val (Value.bool true), .val (vV s' cl' sq' a1' n1' c1' g' a2' n2' c2' a3' n3' c3'), .val (Value.bool false), .val (Value.bool false), .val (Value.bool false), .val undef, .val undef, .val undef, .val undef, .val undef, .val undef, .val undef, .val (Value.bool false), .val (Value.bool false), .val undef, .val undef, .val undef, .val undef, .val undef, .val undef, .val (Value.bool false)] W0 24 (gb_refl _ _) (by kernel_rfl) (by kernel_rfl) (by kernel_rfl) (by kernel_rfl) (by decide) (by kernel_rfl) ?_ ?_
        · refine ⟨Fg.vT rfl (by decide) fun ac w h => ?_, ?_⟩
          · have e5 : ac.tmps.getD 5 undef = Value.pointer (some ⟨M1, 0, none⟩) := h.rest 5 (by kernel_rfl)
            have hb1 := HG0.out.2.1.grown h.base (by simp)
            have m0 := hb1.cell (i := 0) rfl
            have m1 := hb1.cell (i := 1) rfl
            have m2 := hb1.cell (i := 2) rfl
            have m3 := hb1.cell (i := 3) rfl
            have m4 := hb1.cell (i := 4) rfl
            have m5 := hb1.cell (i := 5) rfl
            have m6 := hb1.cell (i := 6) rfl
            refine ⟨vV s cl sq a1 n1 c1 g a2 n2 c2 a3 n3 c3, w, wants_none rfl, ?_, gb_refl _ _, rfl⟩
            clear h
            simp only [execOp, Act.eval, e5]
            go_simp
          refine ⟨Fg.cT rfl (by decide) fun ac w h => ?_, ?_⟩
          · have e11 : ac.tmps.getD 11 undef = vV s cl sq a1 n1 c1 g a2 n2 c2 a3 n3 c3 := h.dep 11 (by kernel_rfl)
            refine ⟨22, #[vV s cl sq a1 n1 c1 g a2 n2 c2 a3 n3 c3], wants_none rfl, Fg.run_call rfl rfl (by simp only [List.map_toArray, List.map_cons, List.map_nil, Act.eval, e11]) (Fg.run_enter Try.func22 (by kernel_rfl) (by kernel_rfl)), ?_⟩
            exact (HX.out w (gb_trans HG0.out.1 h.base)).mono fun _ _ ⟨he, hg⟩ => ⟨_, he, hg, rfl⟩
          refine ⟨Fg.vT rfl (by decide) fun ac w h => ?_, ?_⟩
          · have e12 : ac.tmps.getD 12 undef = Value.bool true := h.dep 12 (by kernel_rfl)
            exact ⟨_, w, wants_none rfl, Fg.run_move rfl e12, gb_refl _ _, rfl⟩
          refine ⟨Fg.vT rfl (by decide) fun ac w h => ?_, ?_⟩
          · have e13 : ac.tmps.getD 13 undef = Value.bool true := h.dep 13 (by kernel_rfl)
            have e6 : ac.tmps.getD 6 undef = Value.pointer (some ⟨M2, 0, none⟩) := h.rest 6 (by kernel_rfl)
            have hb2 := HG0.out.2.2.grown h.base (by simp)
            have m0 := hb2.cell (i := 0) rfl
            have m1 := hb2.cell (i := 1) rfl
            have m2 := hb2.cell (i := 2) rfl
            have m3 := hb2.cell (i := 3) rfl
            have m4 := hb2.cell (i := 4) rfl
            have m5 := hb2.cell (i := 5) rfl
            have m6 := hb2.cell (i := 6) rfl
            refine ⟨vV s' cl' sq' a1' n1' c1' g' a2' n2' c2' a3' n3' c3', w, wants_some (d := 13) rfl rfl (by rw [h.size]; show 13 < 34; decide) e13, ?_, gb_refl _ _, rfl⟩
            clear h
            simp only [execOp, Act.eval, e6]
            go_simp
          refine ⟨Fg.cT rfl (by decide) fun ac w h => ?_, ?_⟩
          · have e13 : ac.tmps.getD 13 undef = Value.bool true := h.dep 13 (by kernel_rfl)
            have e14 : ac.tmps.getD 14 undef = vV s' cl' sq' a1' n1' c1' g' a2' n2' c2' a3' n3' c3' := h.dep 14 (by kernel_rfl)
            refine ⟨22, #[vV s' cl' sq' a1' n1' c1' g' a2' n2' c2' a3' n3' c3'], wants_some (d := 13) rfl rfl (by rw [h.size]; show 13 < 34; decide) e13, Fg.run_call rfl rfl (by simp only [List.map_toArray, List.map_cons, List.map_nil, Act.eval, e14]) (Fg.run_enter Try.func22 (by kernel_rfl) (by kernel_rfl)), ?_⟩
            exact (HY.out w (gb_trans HG0.out.1 h.base)).mono fun _ _ ⟨he, hg⟩ => ⟨_, he, hg, rfl⟩
          refine ⟨Fg.vT rfl (by decide) fun ac w h => ?_, ?_⟩
          · have e13 : ac.tmps.getD 13 undef = Value.bool true := h.dep 13 (by kernel_rfl)
            have e15 : ac.tmps.getD 15 undef = Value.bool false := h.dep 15 (by kernel_rfl)
            refine ⟨Value.bool false, w, wants_none rfl, ?_, gb_refl _ _, rfl⟩
            clear h
            simp only [execOp, Act.eval, e13, e15]
            go_simp
          refine ⟨Fg.vT rfl (by decide) fun ac w h => ?_, ?_⟩
          · have e16 : ac.tmps.getD 16 undef = Value.bool false := h.dep 16 (by kernel_rfl)
            exact ⟨_, w, wants_none rfl, Fg.run_move rfl e16, gb_refl _ _, rfl⟩
          refine ⟨Fg.sT rfl (by decide) (fun _ => rfl) fun ac w h => ?_, ?_⟩
          · have e17 : ac.tmps.getD 17 undef = Value.bool false := h.dep 17 (by kernel_rfl)
            exact not_wants (d := 17) rfl rfl (by rw [h.size]; show 17 < 34; decide) e17 (by decide)
          refine ⟨Fg.sT rfl (by decide) (fun _ => rfl) fun ac w h => ?_, ?_⟩
          · have e17 : ac.tmps.getD 17 undef = Value.bool false := h.dep 17 (by kernel_rfl)
            exact not_wants (d := 17) rfl rfl (by rw [h.size]; show 17 < 34; decide) e17 (by decide)
          refine ⟨Fg.sT rfl (by decide) (fun _ => rfl) fun ac w h => ?_, ?_⟩
          · have e17 : ac.tmps.getD 17 undef = Value.bool false := h.dep 17 (by kernel_rfl)
            exact not_wants (d := 17) rfl rfl (by rw [h.size]; show 17 < 34; decide) e17 (by decide)
          refine ⟨Fg.sT rfl (by decide) (fun _ => rfl) fun ac w h => ?_, ?_⟩
          · have e17 : ac.tmps.getD 17 undef = Value.bool false := h.dep 17 (by kernel_rfl)
            exact not_wants (d := 17) rfl rfl (by rw [h.size]; show 17 < 34; decide) e17 (by decide)
          refine ⟨Fg.sT rfl (by decide) (fun _ => rfl) fun ac w h => ?_, ?_⟩
          · have e17 : ac.tmps.getD 17 undef = Value.bool false := h.dep 17 (by kernel_rfl)
            exact not_wants (d := 17) rfl rfl (by rw [h.size]; show 17 < 34; decide) e17 (by decide)
          refine ⟨Fg.sT rfl (by decide) (fun _ => rfl) fun ac w h => ?_, ?_⟩
          · have e17 : ac.tmps.getD 17 undef = Value.bool false := h.dep 17 (by kernel_rfl)
            exact not_wants (d := 17) rfl rfl (by rw [h.size]; show 17 < 34; decide) e17 (by decide)
          refine ⟨Fg.sT rfl (by decide) (fun _ => rfl) fun ac w h => ?_, ?_⟩
          · have e17 : ac.tmps.getD 17 undef = Value.bool false := h.dep 17 (by kernel_rfl)
            exact not_wants (d := 17) rfl rfl (by rw [h.size]; show 17 < 34; decide) e17 (by decide)
          refine ⟨Fg.vT rfl (by decide) fun ac w h => ?_, ?_⟩
          · have e17 : ac.tmps.getD 17 undef = Value.bool false := h.dep 17 (by kernel_rfl)
            refine ⟨Value.bool false, w, wants_none rfl, ?_, gb_refl _ _, rfl⟩
            clear h
            simp only [execOp, Act.eval, e17]
            go_simp
          refine ⟨Fg.vT rfl (by decide) fun ac w h => ?_, ?_⟩
          · have e25 : ac.tmps.getD 25 undef = Value.bool false := h.dep 25 (by kernel_rfl)
            exact ⟨_, w, wants_none rfl, Fg.run_move rfl e25, gb_refl _ _, rfl⟩
          refine ⟨Fg.sT rfl (by decide) (fun _ => rfl) fun ac w h => ?_, ?_⟩
          · have e26 : ac.tmps.getD 26 undef = Value.bool false := h.dep 26 (by kernel_rfl)
            exact not_wants (d := 26) rfl rfl (by rw [h.size]; show 26 < 34; decide) e26 (by decide)
          refine ⟨Fg.sT rfl (by decide) (fun _ => rfl) fun ac w h => ?_, ?_⟩
          · have e26 : ac.tmps.getD 26 undef = Value.bool false := h.dep 26 (by kernel_rfl)
            exact not_wants (d := 26) rfl rfl (by rw [h.size]; show 26 < 34; decide) e26 (by decide)
          refine ⟨Fg.sT rfl (by decide) (fun _ => rfl) fun ac w h => ?_, ?_⟩
          · have e26 : ac.tmps.getD 26 undef = Value.bool false := h.dep 26 (by kernel_rfl)
            exact not_wants (d := 26) rfl rfl (by rw [h.size]; show 26 < 34; decide) e26 (by decide)
          refine ⟨Fg.sT rfl (by decide) (fun _ => rfl) fun ac w h => ?_, ?_⟩
          · have e26 : ac.tmps.getD 26 undef = Value.bool false := h.dep 26 (by kernel_rfl)
            exact not_wants (d := 26) rfl rfl (by rw [h.size]; show 26 < 34; decide) e26 (by decide)
          refine ⟨Fg.sT rfl (by decide) (fun _ => rfl) fun ac w h => ?_, ?_⟩
          · have e26 : ac.tmps.getD 26 undef = Value.bool false := h.dep 26 (by kernel_rfl)
            exact not_wants (d := 26) rfl rfl (by rw [h.size]; show 26 < 34; decide) e26 (by decide)
          refine ⟨Fg.sT rfl (by decide) (fun _ => rfl) fun ac w h => ?_, ?_⟩
          · have e26 : ac.tmps.getD 26 undef = Value.bool false := h.dep 26 (by kernel_rfl)
            exact not_wants (d := 26) rfl rfl (by rw [h.size]; show 26 < 34; decide) e26 (by decide)
          refine ⟨Fg.vT rfl (by decide) fun ac w h => ?_, ?_⟩
          · have e26 : ac.tmps.getD 26 undef = Value.bool false := h.dep 26 (by kernel_rfl)
            refine ⟨Value.bool false, w, wants_none rfl, ?_, gb_refl _ _, rfl⟩
            clear h
            simp only [execOp, Act.eval, e26]
            go_simp
          refine ⟨Fg.vT rfl (by decide) fun ac w h => ?_, ?_⟩
          · have e33 : ac.tmps.getD 33 undef = Value.bool false := h.dep 33 (by kernel_rfl)
            exact ⟨_, w, wants_none rfl, Fg.run_assign rfl e33, gb_refl _ _, rfl⟩
          trivial
        · intro aq wq hB hsz hdf hrest hslots hpt
          obtain ⟨u0, e0⟩ : ∃ u, aq.tmps.getD 0 undef = u := ⟨_, rfl⟩
          obtain ⟨u1, e1⟩ : ∃ u, aq.tmps.getD 1 undef = u := ⟨_, rfl⟩
          obtain ⟨u2, e2⟩ : ∃ u, aq.tmps.getD 2 undef = u := ⟨_, rfl⟩
          obtain ⟨u3, e3⟩ : ∃ u, aq.tmps.getD 3 undef = u := ⟨_, rfl⟩
          have e4 : aq.tmps.getD 4 undef = Value.bool false := hslots 4 (by kernel_rfl)
          obtain ⟨u5, e5⟩ : ∃ u, aq.tmps.getD 5 undef = u := ⟨_, rfl⟩
          obtain ⟨u6, e6⟩ : ∃ u, aq.tmps.getD 6 undef = u := ⟨_, rfl⟩
          obtain ⟨u7, e7⟩ : ∃ u, aq.tmps.getD 7 undef = u := ⟨_, rfl⟩
          obtain ⟨u8, e8⟩ : ∃ u, aq.tmps.getD 8 undef = u := ⟨_, rfl⟩
          obtain ⟨u9, e9⟩ : ∃ u, aq.tmps.getD 9 undef = u := ⟨_, rfl⟩
          obtain ⟨u10, e10⟩ : ∃ u, aq.tmps.getD 10 undef = u := ⟨_, rfl⟩
          obtain ⟨u11, e11⟩ : ∃ u, aq.tmps.getD 11 undef = u := ⟨_, rfl⟩
          obtain ⟨u12, e12⟩ : ∃ u, aq.tmps.getD 12 undef = u := ⟨_, rfl⟩
          obtain ⟨u13, e13⟩ : ∃ u, aq.tmps.getD 13 undef = u := ⟨_, rfl⟩
          obtain ⟨u14, e14⟩ : ∃ u, aq.tmps.getD 14 undef = u := ⟨_, rfl⟩
          obtain ⟨u15, e15⟩ : ∃ u, aq.tmps.getD 15 undef = u := ⟨_, rfl⟩
          obtain ⟨u16, e16⟩ : ∃ u, aq.tmps.getD 16 undef = u := ⟨_, rfl⟩
          obtain ⟨u17, e17⟩ : ∃ u, aq.tmps.getD 17 undef = u := ⟨_, rfl⟩
          obtain ⟨u18, e18⟩ : ∃ u, aq.tmps.getD 18 undef = u := ⟨_, rfl⟩
          obtain ⟨u19, e19⟩ : ∃ u, aq.tmps.getD 19 undef = u := ⟨_, rfl⟩
          obtain ⟨u20, e20⟩ : ∃ u, aq.tmps.getD 20 undef = u := ⟨_, rfl⟩
          obtain ⟨u21, e21⟩ : ∃ u, aq.tmps.getD 21 undef = u := ⟨_, rfl⟩
          obtain ⟨u22, e22⟩ : ∃ u, aq.tmps.getD 22 undef = u := ⟨_, rfl⟩
          obtain ⟨u23, e23⟩ : ∃ u, aq.tmps.getD 23 undef = u := ⟨_, rfl⟩
          obtain ⟨u24, e24⟩ : ∃ u, aq.tmps.getD 24 undef = u := ⟨_, rfl⟩
          obtain ⟨u25, e25⟩ : ∃ u, aq.tmps.getD 25 undef = u := ⟨_, rfl⟩
          obtain ⟨u26, e26⟩ : ∃ u, aq.tmps.getD 26 undef = u := ⟨_, rfl⟩
          obtain ⟨u27, e27⟩ : ∃ u, aq.tmps.getD 27 undef = u := ⟨_, rfl⟩
          obtain ⟨u28, e28⟩ : ∃ u, aq.tmps.getD 28 undef = u := ⟨_, rfl⟩
          obtain ⟨u29, e29⟩ : ∃ u, aq.tmps.getD 29 undef = u := ⟨_, rfl⟩
          obtain ⟨u30, e30⟩ : ∃ u, aq.tmps.getD 30 undef = u := ⟨_, rfl⟩
          obtain ⟨u31, e31⟩ : ∃ u, aq.tmps.getD 31 undef = u := ⟨_, rfl⟩
          obtain ⟨u32, e32⟩ : ∃ u, aq.tmps.getD 32 undef = u := ⟨_, rfl⟩
          obtain ⟨u33, e33⟩ : ∃ u, aq.tmps.getD 33 undef = u := ⟨_, rfl⟩
          obtain rfl := Fg.frame_is (a := aq) (vs := [u0, u1, u2, u3, Value.bool false, u5, u6, u7, u8, u9, u10, u11, u12, u13, u14, u15, u16, u17, u18, u19, u20, u21, u22, u23, u24, u25, u26, u27, u28, u29, u30, u31, u32, u33]) hsz ⟨e0, e1, e2, e3, e4, e5, e6, e7, e8, e9, e10, e11, e12, e13, e14, e15, e16, e17, e18, e19, e20, e21, e22, e23, e24, e25, e26, e27, e28, e29, e30, e31, e32, e33, trivial⟩ hdf
          clear hsz hdf hrest hslots hpt e0 e1 e2 e3 e4 e5 e6 e7 e8 e9 e10 e11 e12 e13 e14 e15 e16 e17 e18 e19 e20 e21 e22 e23 e24 e25 e26 e27 e28 e29 e30 e31 e32 e33
          have HR := Lib.hid (gb_trans HG0.out.1 hB)
          clear hB
          refine wpList_nil ?_
          go_wp2
          go_ret
          exact ⟨by rw [HO.out]; rfl, HR.out⟩
      | true =>
        cases z with
        | false =>
          refine Fg.region_t [] [.any, .any, .any, .any, .val (Value.bool false), .any, .any, .any, .any, .any, .any, .val (vV s cl sq a1 n1 c1 g a2 n2 c2 a3 n3 c3), .val (Value.bool true), .val (Value.bool true), .val (vV s' cl' sq' a1' n1' c1' g' a2' n2' c2' a3' n3' c3'), .val (Value.bool true), .val (Value.bool true), .val (Value.bool true), .val (Value.pointer (some ⟨M1, 0, none⟩)), .val (Value.pointer (some ⟨M1, 0, none⟩)), .val (Value.string s), .val (Value.pointer (some ⟨M2, 0, none⟩)), .val (Value.pointer (some ⟨M2, 0, none⟩)), .val (Value.string s'), .val (Value.bool false), .val (Value.bool false), .val (Value.bool false), .val undef, .val undef, .val undef, .val undef, .val undef, .val undef, .val (Value.bool false)] W0 24 (gb_refl _ _) (by kernel_rfl) (by kernel_rfl) (by kernel_rfl) (by kernel_rfl) (by decide) (by kernel_rfl) ?_ ?_
          · refine ⟨Fg.vT rfl (by decide) fun ac w h => ?_, ?_⟩
            · have e5 : ac.tmps.getD 5 undef = Value.pointer (some ⟨M1, 0, none⟩) := h.rest 5 (by kernel_rfl)
              have hb1 := HG0.out.2.1.grown h.base (by simp)
              have m0 := hb1.cell (i := 0) rfl
              have m1 := hb1.cell (i := 1) rfl
              have m2 := hb1.cell (i := 2) rfl
              have m3 := hb1.cell (i := 3) rfl
              have m4 := hb1.cell (i := 4) rfl
              have m5 := hb1.cell (i := 5) rfl
              have m6 := hb1.cell (i := 6) rfl
              refine ⟨vV s cl sq a1 n1 c1 g a2 n2 c2 a3 n3 c3, w, wants_none rfl, ?_, gb_refl _ _, rfl⟩
              clear h
              simp only [execOp, Act.eval, e5]
              go_simp
            refine ⟨Fg.cT rfl (by decide) fun ac w h => ?_, ?_⟩
            · have e11 : ac.tmps.getD 11 undef = vV s cl sq a1 n1 c1 g a2 n2 c2 a3 n3 c3 := h.dep 11 (by kernel_rfl)
              refine ⟨22, #[vV s cl sq a1 n1 c1 g a2 n2 c2 a3 n3 c3], wants_none rfl, Fg.run_call rfl rfl (by simp only [List.map_toArray, List.map_cons, List.map_nil, Act.eval, e11]) (Fg.run_enter Try.func22 (by kernel_rfl) (by kernel_rfl)), ?_⟩
              exact (HX.out w (gb_trans HG0.out.1 h.base)).mono fun _ _ ⟨he, hg⟩ => ⟨_, he, hg, rfl⟩
            refine ⟨Fg.vT rfl (by decide) fun ac w h => ?_, ?_⟩
            · have e12 : ac.tmps.getD 12 undef = Value.bool true := h.dep 12 (by kernel_rfl)
              exact ⟨_, w, wants_none rfl, Fg.run_move rfl e12, gb_refl _ _, rfl⟩
            refine ⟨Fg.vT rfl (by decide) fun ac w h => ?_, ?_⟩
            · have e13 : ac.tmps.getD 13 undef = Value.bool true := h.dep 13 (by kernel_rfl)
              have e6 : ac.tmps.getD 6 undef = Value.pointer (some ⟨M2, 0, none⟩) := h.rest 6 (by kernel_rfl)
              have hb2 := HG0.out.2.2.grown h.base (by simp)
              have m0 := hb2.cell (i := 0) rfl
              have m1 := hb2.cell (i := 1) rfl
              have m2 := hb2.cell (i := 2) rfl
              have m3 := hb2.cell (i := 3) rfl
              have m4 := hb2.cell (i := 4) rfl
              have m5 := hb2.cell (i := 5) rfl
              have m6 := hb2.cell (i := 6) rfl
              refine ⟨vV s' cl' sq' a1' n1' c1' g' a2' n2' c2' a3' n3' c3', w, wants_some (d := 13) rfl rfl (by rw [h.size]; show 13 < 34; decide) e13, ?_, gb_refl _ _, rfl⟩
              clear h
              simp only [execOp, Act.eval, e6]
              go_simp
            refine ⟨Fg.cT rfl (by decide) fun ac w h => ?_, ?_⟩
            · have e13 : ac.tmps.getD 13 undef = Value.bool true := h.dep 13 (by kernel_rfl)
              have e14 : ac.tmps.getD 14 undef = vV s' cl' sq' a1' n1' c1' g' a2' n2' c2' a3' n3' c3' := h.dep 14 (by kernel_rfl)
              refine ⟨22, #[vV s' cl' sq' a1' n1' c1' g' a2' n2' c2' a3' n3' c3'], wants_some (d := 13) rfl rfl (by rw [h.size]; show 13 < 34; decide) e13, Fg.run_call rfl rfl (by simp only [List.map_toArray, List.map_cons, List.map_nil, Act.eval, e14]) (Fg.run_enter Try.func22 (by kernel_rfl) (by kernel_rfl)), ?_⟩
              exact (HY.out w (gb_trans HG0.out.1 h.base)).mono fun _ _ ⟨he, hg⟩ => ⟨_, he, hg, rfl⟩
            refine ⟨Fg.vT rfl (by decide) fun ac w h => ?_, ?_⟩
            · have e13 : ac.tmps.getD 13 undef = Value.bool true := h.dep 13 (by kernel_rfl)
              have e15 : ac.tmps.getD 15 undef = Value.bool true := h.dep 15 (by kernel_rfl)
              refine ⟨Value.bool true, w, wants_none rfl, ?_, gb_refl _ _, rfl⟩
              clear h
              simp only [execOp, Act.eval, e13, e15]
              go_simp
            refine ⟨Fg.vT rfl (by decide) fun ac w h => ?_, ?_⟩
            · have e16 : ac.tmps.getD 16 undef = Value.bool true := h.dep 16 (by kernel_rfl)
              exact ⟨_, w, wants_none rfl, Fg.run_move rfl e16, gb_refl _ _, rfl⟩
            refine ⟨Fg.vT rfl (by decide) fun ac w h => ?_, ?_⟩
            · have e17 : ac.tmps.getD 17 undef = Value.bool true := h.dep 17 (by kernel_rfl)
              have e5 : ac.tmps.getD 5 undef = Value.pointer (some ⟨M1, 0, none⟩) := h.rest 5 (by kernel_rfl)
              refine ⟨Value.pointer (some ⟨M1, 0, none⟩), w, wants_some (d := 17) rfl rfl (by rw [h.size]; show 17 < 34; decide) e17, ?_, gb_refl _ _, rfl⟩
              clear h
              simp only [execOp, Act.eval, e5]
              go_simp
            refine ⟨Fg.vT rfl (by decide) fun ac w h => ?_, ?_⟩
            · have e17 : ac.tmps.getD 17 undef = Value.bool true := h.dep 17 (by kernel_rfl)
              have e18 : ac.tmps.getD 18 undef = Value.pointer (some ⟨M1, 0, none⟩) := h.dep 18 (by kernel_rfl)
              refine ⟨Value.pointer (some ⟨M1, 0, none⟩), w, wants_some (d := 17) rfl rfl (by rw [h.size]; show 17 < 34; decide) e17, ?_, gb_refl _ _, rfl⟩
              clear h
              simp only [execOp, Act.eval, e18]
              go_simp
            refine ⟨Fg.vT rfl (by decide) fun ac w h => ?_, ?_⟩
            · have e17 : ac.tmps.getD 17 undef = Value.bool true := h.dep 17 (by kernel_rfl)
              have e19 : ac.tmps.getD 19 undef = Value.pointer (some ⟨M1, 0, none⟩) := h.dep 19 (by kernel_rfl)
              have hb1 := HG0.out.2.1.grown h.base (by simp)
              have m0 := hb1.cell (i := 0) rfl
              refine ⟨Value.string s, w, wants_some (d := 17) rfl rfl (by rw [h.size]; show 17 < 34; decide) e17, ?_, gb_refl _ _, rfl⟩
              clear h
              simp only [execOp, Act.eval, e19]
              go_simp
            refine ⟨Fg.vT rfl (by decide) fun ac w h => ?_, ?_⟩
            · have e17 : ac.tmps.getD 17 undef = Value.bool true := h.dep 17 (by kernel_rfl)
              have e6 : ac.tmps.getD 6 undef = Value.pointer (some ⟨M2, 0, none⟩) := h.rest 6 (by kernel_rfl)
              refine ⟨Value.pointer (some ⟨M2, 0, none⟩), w, wants_some (d := 17) rfl rfl (by rw [h.size]; show 17 < 34; decide) e17, ?_, gb_refl _ _, rfl⟩
              clear h
              simp only [execOp, Act.eval, e6]
              go_simp
            refine ⟨Fg.vT rfl (by decide) fun ac w h => ?_, ?_⟩
            · have e17 : ac.tmps.getD 17 undef = Value.bool true := h.dep 17 (by kernel_rfl)
              have e21 : ac.tmps.getD 21 undef = Value.pointer (some ⟨M2, 0, none⟩) := h.dep 21 (by kernel_rfl)
              refine ⟨Value.pointer (some ⟨M2, 0, none⟩), w, wants_some (d := 17) rfl rfl (by rw [h.size]; show 17 < 34; decide) e17, ?_, gb_refl _ _, rfl⟩
              clear h
              simp only [execOp, Act.eval, e21]
              go_simp
            refine ⟨Fg.vT rfl (by decide) fun ac w h => ?_, ?_⟩
            · have e17 : ac.tmps.getD 17 undef = Value.bool true := h.dep 17 (by kernel_rfl)
              have e22 : ac.tmps.getD 22 undef = Value.pointer (some ⟨M2, 0, none⟩) := h.dep 22 (by kernel_rfl)
              have hb2 := HG0.out.2.2.grown h.base (by simp)
              have m0 := hb2.cell (i := 0) rfl
              refine ⟨Value.string s', w, wants_some (d := 17) rfl rfl (by rw [h.size]; show 17 < 34; decide) e17, ?_, gb_refl _ _, rfl⟩
              clear h
              simp only [execOp, Act.eval, e22]
              go_simp
            refine ⟨Fg.vT rfl (by decide) fun ac w h => ?_, ?_⟩
            · have e17 : ac.tmps.getD 17 undef = Value.bool true := h.dep 17 (by kernel_rfl)
              have e20 : ac.tmps.getD 20 undef = Value.string s := h.dep 20 (by kernel_rfl)
              have e23 : ac.tmps.getD 23 undef = Value.string s' := h.dep 23 (by kernel_rfl)
              have hz := HZ.out
              refine ⟨.bool false, w, wants_some (d := 17) rfl rfl (by rw [h.size]; show 17 < 34; decide) e17, ?_, gb_refl _ _, rfl⟩
              clear h
              simp only [execOp, Act.eval, e20, e23]
              go_simp
            refine ⟨Fg.vT rfl (by decide) fun ac w h => ?_, ?_⟩
            · have e17 : ac.tmps.getD 17 undef = Value.bool true := h.dep 17 (by kernel_rfl)
              have e24 : ac.tmps.getD 24 undef = Value.bool false := h.dep 24 (by kernel_rfl)
              refine ⟨Value.bool false, w, wants_none rfl, ?_, gb_refl _ _, rfl⟩
              clear h
              simp only [execOp, Act.eval, e17, e24]
              go_simp
            refine ⟨Fg.vT rfl (by decide) fun ac w h => ?_, ?_⟩
            · have e25 : ac.tmps.getD 25 undef = Value.bool false := h.dep 25 (by kernel_rfl)
              exact ⟨_, w, wants_none rfl, Fg.run_move rfl e25, gb_refl _ _, rfl⟩
            refine ⟨Fg.sT rfl (by decide) (fun _ => rfl) fun ac w h => ?_, ?_⟩
            · have e26 : ac.tmps.getD 26 undef = Value.bool false := h.dep 26 (by kernel_rfl)
              exact not_wants (d := 26) rfl rfl (by rw [h.size]; show 26 < 34; decide) e26 (by decide)
            refine ⟨Fg.sT rfl (by decide) (fun _ => rfl) fun ac w h => ?_, ?_⟩
            · have e26 : ac.tmps.getD 26 undef = Value.bool false := h.dep 26 (by kernel_rfl)
              exact not_wants (d := 26) rfl rfl (by rw [h.size]; show 26 < 34; decide) e26 (by decide)
            refine ⟨Fg.sT rfl (by decide) (fun _ => rfl) fun ac w h => ?_, ?_⟩
            · have e26 : ac.tmps.getD 26 undef = Value.bool false := h.dep 26 (by kernel_rfl)
              exact not_wants (d := 26) rfl rfl (by rw [h.size]; show 26 < 34; decide) e26 (by decide)
            refine ⟨Fg.sT rfl (by decide) (fun _ => rfl) fun ac w h => ?_, ?_⟩
            · have e26 : ac.tmps.getD 26 undef = Value.bool false := h.dep 26 (by kernel_rfl)
              exact not_wants (d := 26) rfl rfl (by rw [h.size]; show 26 < 34; decide) e26 (by decide)
            refine ⟨Fg.sT rfl (by decide) (fun _ => rfl) fun ac w h => ?_, ?_⟩
            · have e26 : ac.tmps.getD 26 undef = Value.bool false := h.dep 26 (by kernel_rfl)
              exact not_wants (d := 26) rfl rfl (by rw [h.size]; show 26 < 34; decide) e26 (by decide)
            refine ⟨Fg.sT rfl (by decide) (fun _ => rfl) fun ac w h => ?_, ?_⟩
            · have e26 : ac.tmps.getD 26 undef = Value.bool false := h.dep 26 (by kernel_rfl)
              exact not_wants (d := 26) rfl rfl (by rw [h.size]; show 26 < 34; decide) e26 (by decide)
            refine ⟨Fg.vT rfl (by decide) fun ac w h => ?_, ?_⟩
            · have e26 : ac.tmps.getD 26 undef = Value.bool false := h.dep 26 (by kernel_rfl)
              refine ⟨Value.bool false, w, wants_none rfl, ?_, gb_refl _ _, rfl⟩
              clear h
              simp only [execOp, Act.eval, e26]
              go_simp
            refine ⟨Fg.vT rfl (by decide) fun ac w h => ?_, ?_⟩
            · have e33 : ac.tmps.getD 33 undef = Value.bool false := h.dep 33 (by kernel_rfl)
              exact ⟨_, w, wants_none rfl, Fg.run_assign rfl e33, gb_refl _ _, rfl⟩
            trivial
          · intro aq wq hB hsz hdf hrest hslots hpt
            obtain ⟨u0, e0⟩ : ∃ u, aq.tmps.getD 0 undef = u := ⟨_, rfl⟩
            obtain ⟨u1, e1⟩ : ∃ u, aq.tmps.getD 1 undef = u := ⟨_, rfl⟩
            obtain ⟨u2, e2⟩ : ∃ u, aq.tmps.getD 2 undef = u := ⟨_, rfl⟩
            obtain ⟨u3, e3⟩ : ∃ u, aq.tmps.getD 3 undef = u := ⟨_, rfl⟩
            have e4 : aq.tmps.getD 4 undef = Value.bool false := hslots 4 (by kernel_rfl)
            obtain ⟨u5, e5⟩ : ∃ u, aq.tmps.getD 5 undef = u := ⟨_, rfl⟩
            obtain ⟨u6, e6⟩ : ∃ u, aq.tmps.getD 6 undef = u := ⟨_, rfl⟩
            obtain ⟨u7, e7⟩ : ∃ u, aq.tmps.getD 7 undef = u := ⟨_, rfl⟩
            obtain ⟨u8, e8⟩ : ∃ u, aq.tmps.getD 8 undef = u := ⟨_, rfl⟩
            obtain ⟨u9, e9⟩ : ∃ u, aq.tmps.getD 9 undef = u := ⟨_, rfl⟩
            obtain ⟨u10, e10⟩ : ∃ u, aq.tmps.getD 10 undef = u := ⟨_, rfl⟩
            obtain ⟨u11, e11⟩ : ∃ u, aq.tmps.getD 11 undef = u := ⟨_, rfl⟩
            obtain ⟨u12, e12⟩ : ∃ u, aq.tmps.getD 12 undef = u := ⟨_, rfl⟩
            obtain ⟨u13, e13⟩ : ∃ u, aq.tmps.getD 13 undef = u := ⟨_, rfl⟩
            obtain ⟨u14, e14⟩ : ∃ u, aq.tmps.getD 14 undef = u := ⟨_, rfl⟩
            obtain ⟨u15, e15⟩ : ∃ u, aq.tmps.getD 15 undef = u := ⟨_, rfl⟩
            obtain ⟨u16, e16⟩ : ∃ u, aq.tmps.getD 16 undef = u := ⟨_, rfl⟩
            obtain ⟨u17, e17⟩ : ∃ u, aq.tmps.getD 17 undef = u := ⟨_, rfl⟩
            obtain ⟨u18, e18⟩ : ∃ u, aq.tmps.getD 18 undef = u := ⟨_, rfl⟩
            obtain ⟨u19, e19⟩ : ∃ u, aq.tmps.getD 19 undef = u := ⟨_, rfl⟩
            obtain ⟨u20, e20⟩ : ∃ u, aq.tmps.getD 20 undef = u := ⟨_, rfl⟩
            obtain ⟨u21, e21⟩ : ∃ u, aq.tmps.getD 21 undef = u := ⟨_, rfl⟩
            obtain ⟨u22, e22⟩ : ∃ u, aq.tmps.getD 22 undef = u := ⟨_, rfl⟩
            obtain ⟨u23, e23⟩ : ∃ u, aq.tmps.getD 23 undef = u := ⟨_, rfl⟩
            obtain ⟨u24, e24⟩ : ∃ u, aq.tmps.getD 24 undef = u := ⟨_, rfl⟩
            obtain ⟨u25, e25⟩ : ∃ u, aq.tmps.getD 25 undef = u := ⟨_, rfl⟩
            obtain ⟨u26, e26⟩ : ∃ u, aq.tmps.getD 26 undef = u := ⟨_, rfl⟩
            obtain ⟨u27, e27⟩ : ∃ u, aq.tmps.getD 27 undef = u := ⟨_, rfl⟩
            obtain ⟨u28, e28⟩ : ∃ u, aq.tmps.getD 28 undef = u := ⟨_, rfl⟩
            obtain ⟨u29, e29⟩ : ∃ u, aq.tmps.getD 29 undef = u := ⟨_, rfl⟩
            obtain ⟨u30, e30⟩ : ∃ u, aq.tmps.getD 30 undef = u := ⟨_, rfl⟩
            obtain ⟨u31, e31⟩ : ∃ u, aq.tmps.getD 31 undef = u := ⟨_, rfl⟩
            obtain ⟨u32, e32⟩ : ∃ u, aq.tmps.getD 32 undef = u := ⟨_, rfl⟩
            obtain ⟨u33, e33⟩ : ∃ u, aq.tmps.getD 33 undef = u := ⟨_, rfl⟩
            obtain rfl := Fg.frame_is (a := aq) (vs := [u0, u1, u2, u3, Value.bool false, u5, u6, u7, u8, u9, u10, u11, u12, u13, u14, u15, u16, u17, u18, u19, u20, u21, u22, u23, u24, u25, u26, u27, u28, u29, u30, u31, u32, u33]) hsz ⟨e0, e1, e2, e3, e4, e5, e6, e7, e8, e9, e10, e11, e12, e13, e14, e15, e16, e17, e18, e19, e20, e21, e22, e23, e24, e25, e26, e27, e28, e29, e30, e31, e32, e33, trivial⟩ hdf
            clear hsz hdf hrest hslots hpt e0 e1 e2 e3 e4 e5 e6 e7 e8 e9 e10 e11 e12 e13 e14 e15 e16 e17 e18 e19 e20 e21 e22 e23 e24 e25 e26 e27 e28 e29 e30 e31 e32 e33
            have HR := Lib.hid (gb_trans HG0.out.1 hB)
            clear hB
            refine wpList_nil ?_
            go_wp2
            go_ret
            exact ⟨by rw [HO.out]; rfl, HR.out⟩
        | true =>
          refine Fg.region_t [] [.any, .any, .any, .any, .val (Value.bool t), .any, .any, .any, .any, .any, .any, .val (vV s cl sq a1 n1 c1 g a2 n2 c2 a3 n3 c3), .val (Value.bool true), .val (Value.bool true), .val (vV s' cl' sq' a1' n1' c1' g' a2' n2' c2' a3' n3' c3'), .val (Value.bool true), .val (Value.bool true), .val (Value.bool true), .val (Value.pointer (some ⟨M1, 0, none⟩)), .val (Value.pointer (some ⟨M1, 0, none⟩)), .val (Value.string s), .val (Value.pointer (some ⟨M2, 0, none⟩)), .val (Value.pointer (some ⟨M2, 0, none⟩)), .val (Value.string s'), .val (Value.bool true), .val (Value.bool true), .val (Value.bool true), .val (Value.pointer (some ⟨M1, 0, none⟩)), .val (Value.pointer (some ⟨M1, 3, none⟩)), .val (Value.slice a1 n1 c1), .val (vV s' cl' sq' a1' n1' c1' g' a2' n2' c2' a3' n3' c3'), .val (Value.agg #[iV cl', iV sq']), .val (Value.bool t), .val (Value.bool t)] W0 24 (gb_refl _ _) (by kernel_rfl) (by kernel_rfl) (by kernel_rfl) (by kernel_rfl) (by decide) (by kernel_rfl) ?_ ?_
          · refine ⟨Fg.vT rfl (by decide) fun ac w h => ?_, ?_⟩
            · have e5 : ac.tmps.getD 5 undef = Value.pointer (some ⟨M1, 0, none⟩) := h.rest 5 (by kernel_rfl)
              have hb1 := HG0.out.2.1.grown h.base (by simp)
              have m0 := hb1.cell (i := 0) rfl
              have m1 := hb1.cell (i := 1) rfl
              have m2 := hb1.cell (i := 2) rfl
              have m3 := hb1.cell (i := 3) rfl
              have m4 := hb1.cell (i := 4) rfl
              have m5 := hb1.cell (i := 5) rfl
              have m6 := hb1.cell (i := 6) rfl
              refine ⟨vV s cl sq a1 n1 c1 g a2 n2 c2 a3 n3 c3, w, wants_none rfl, ?_, gb_refl _ _, rfl⟩
              clear h
              simp only [execOp, Act.eval, e5]
              go_simp
            refine ⟨Fg.cT rfl (by decide) fun ac w h => ?_, ?_⟩
            · have e11 : ac.tmps.getD 11 undef = vV s cl sq a1 n1 c1 g a2 n2 c2 a3 n3 c3 := h.dep 11 (by kernel_rfl)
              refine ⟨22, #[vV s cl sq a1 n1 c1 g a2 n2 c2 a3 n3 c3], wants_none rfl, Fg.run_call rfl rfl (by simp only [List.map_toArray, List.map_cons, List.map_nil, Act.eval, e11]) (Fg.run_enter Try.func22 (by kernel_rfl) (by kernel_rfl)), ?_⟩
              exact (HX.out w (gb_trans HG0.out.1 h.base)).mono fun _ _ ⟨he, hg⟩ => ⟨_, he, hg, rfl⟩
            refine ⟨Fg.vT rfl (by decide) fun ac w h => ?_, ?_⟩
            · have e12 : ac.tmps.getD 12 undef = Value.bool true := h.dep 12 (by kernel_rfl)
              exact ⟨_, w, wants_none rfl, Fg.run_move rfl e12, gb_refl _ _, rfl⟩
            refine ⟨Fg.vT rfl (by decide) fun ac w h => ?_, ?_⟩
            · have e13 : ac.tmps.getD 13 undef = Value.bool true := h.dep 13 (by kernel_rfl)
              have e6 : ac.tmps.getD 6 undef = Value.pointer (some ⟨M2, 0, none⟩) := h.rest 6 (by kernel_rfl)
              have hb2 := HG0.out.2.2.grown h.base (by simp)
              have m0 := hb2.cell (i := 0) rfl
              have m1 := hb2.cell (i := 1) rfl
              have m2 := hb2.cell (i := 2) rfl
              have m3 := hb2.cell (i := 3) rfl
              have m4 := hb2.cell (i := 4) rfl
              have m5 := hb2.cell (i := 5) rfl
              have m6 := hb2.cell (i := 6) rfl
              refine ⟨vV s' cl' sq' a1' n1' c1' g' a2' n2' c2' a3' n3' c3', w, wants_some (d := 13) rfl rfl (by rw [h.size]; show 13 < 34; decide) e13, ?_, gb_refl _ _, rfl⟩
              clear h
              simp only [execOp, Act.eval, e6]
              go_simp
            refine ⟨Fg.cT rfl (by decide) fun ac w h => ?_, ?_⟩
            · have e13 : ac.tmps.getD 13 undef = Value.bool true := h.dep 13 (by kernel_rfl)
              have e14 : ac.tmps.getD 14 undef = vV s' cl' sq' a1' n1' c1' g' a2' n2' c2' a3' n3' c3' := h.dep 14 (by kernel_rfl)
              refine ⟨22, #[vV s' cl' sq' a1' n1' c1' g' a2' n2' c2' a3' n3' c3'], wants_some (d := 13) rfl rfl (by rw [h.size]; show 13 < 34; decide) e13, Fg.run_call rfl rfl (by simp only [List.map_toArray, List.map_cons, List.map_nil, Act.eval, e14]) (Fg.run_enter Try.func22 (by kernel_rfl) (by kernel_rfl)), ?_⟩
              exact (HY.out w (gb_trans HG0.out.1 h.base)).mono fun _ _ ⟨he, hg⟩ => ⟨_, he, hg, rfl⟩
            refine ⟨Fg.vT rfl (by decide) fun ac w h => ?_, ?_⟩
            · have e13 : ac.tmps.getD 13 undef = Value.bool true := h.dep 13 (by kernel_rfl)
              have e15 : ac.tmps.getD 15 undef = Value.bool true := h.dep 15 (by kernel_rfl)
              refine ⟨Value.bool true, w, wants_none rfl, ?_, gb_refl _ _, rfl⟩
              clear h
              simp only [execOp, Act.eval, e13, e15]
              go_simp
            refine ⟨Fg.vT rfl (by decide) fun ac w h => ?_, ?_⟩
            · have e16 : ac.tmps.getD 16 undef = Value.bool true := h.dep 16 (by kernel_rfl)
              exact ⟨_, w, wants_none rfl, Fg.run_move rfl e16, gb_refl _ _, rfl⟩
            refine ⟨Fg.vT rfl (by decide) fun ac w h => ?_, ?_⟩
            · have e17 : ac.tmps.getD 17 undef = Value.bool true := h.dep 17 (by kernel_rfl)
              have e5 : ac.tmps.getD 5 undef = Value.pointer (some ⟨M1, 0, none⟩) := h.rest 5 (by kernel_rfl)
              refine ⟨Value.pointer (some ⟨M1, 0, none⟩), w, wants_some (d := 17) rfl rfl (by rw [h.size]; show 17 < 34; decide) e17, ?_, gb_refl _ _, rfl⟩
              clear h
              simp only [execOp, Act.eval, e5]
              go_simp
            refine ⟨Fg.vT rfl (by decide) fun ac w h => ?_, ?_⟩
            · have e17 : ac.tmps.getD 17 undef = Value.bool true := h.dep 17 (by kernel_rfl)
              have e18 : ac.tmps.getD 18 undef = Value.pointer (some ⟨M1, 0, none⟩) := h.dep 18 (by kernel_rfl)
              refine ⟨Value.pointer (some ⟨M1, 0, none⟩), w, wants_some (d := 17) rfl rfl (by rw [h.size]; show 17 < 34; decide) e17, ?_, gb_refl _ _, rfl⟩
              clear h
              simp only [execOp, Act.eval, e18]
              go_simp
            refine ⟨Fg.vT rfl (by decide) fun ac w h => ?_, ?_⟩
            · have e17 : ac.tmps.getD 17 undef = Value.bool true := h.dep 17 (by kernel_rfl)
              have e19 : ac.tmps.getD 19 undef = Value.pointer (some ⟨M1, 0, none⟩) := h.dep 19 (by kernel_rfl)
              have hb1 := HG0.out.2.1.grown h.base (by simp)
              have m0 := hb1.cell (i := 0) rfl
              refine ⟨Value.string s, w, wants_some (d := 17) rfl rfl (by rw [h.size]; show 17 < 34; decide) e17, ?_, gb_refl _ _, rfl⟩
              clear h
              simp only [execOp, Act.eval, e19]
              go_simp
            refine ⟨Fg.vT rfl (by decide) fun ac w h => ?_, ?_⟩
            · have e17 : ac.tmps.getD 17 undef = Value.bool true := h.dep 17 (by kernel_rfl)
              have e6 : ac.tmps.getD 6 undef = Value.pointer (some ⟨M2, 0, none⟩) := h.rest 6 (by kernel_rfl)
              refine ⟨Value.pointer (some ⟨M2, 0, none⟩), w, wants_some (d := 17) rfl rfl (by rw [h.size]; show 17 < 34; decide) e17, ?_, gb_refl _ _, rfl⟩
              clear h
              simp only [execOp, Act.eval, e6]
              go_simp
            refine ⟨Fg.vT rfl (by decide) fun ac w h => ?_, ?_⟩
            · have e17 : ac.tmps.getD 17 undef = Value.bool true := h.dep 17 (by kernel_rfl)
              have e21 : ac.tmps.getD 21 undef = Value.pointer (some ⟨M2, 0, none⟩) := h.dep 21 (by kernel_rfl)
              refine ⟨Value.pointer (some ⟨M2, 0, none⟩), w, wants_some (d := 17) rfl rfl (by rw [h.size]; show 17 < 34; decide) e17, ?_, gb_refl _ _, rfl⟩
              clear h
              simp only [execOp, Act.eval, e21]
              go_simp
            refine ⟨Fg.vT rfl (by decide) fun ac w h => ?_, ?_⟩
            · have e17 : ac.tmps.getD 17 undef = Value.bool true := h.dep 17 (by kernel_rfl)
              have e22 : ac.tmps.getD 22 undef = Value.pointer (some ⟨M2, 0, none⟩) := h.dep 22 (by kernel_rfl)
              have hb2 := HG0.out.2.2.grown h.base (by simp)
              have m0 := hb2.cell (i := 0) rfl
              refine ⟨Value.string s', w, wants_some (d := 17) rfl rfl (by rw [h.size]; show 17 < 34; decide) e17, ?_, gb_refl _ _, rfl⟩
              clear h
              simp only [execOp, Act.eval, e22]
              go_simp
            refine ⟨Fg.vT rfl (by decide) fun ac w h => ?_, ?_⟩
            · have e17 : ac.tmps.getD 17 undef = Value.bool true := h.dep 17 (by kernel_rfl)
              have e20 : ac.tmps.getD 20 undef = Value.string s := h.dep 20 (by kernel_rfl)
              have e23 : ac.tmps.getD 23 undef = Value.string s' := h.dep 23 (by kernel_rfl)
              have hz := HZ.out
              refine ⟨.bool true, w, wants_some (d := 17) rfl rfl (by rw [h.size]; show 17 < 34; decide) e17, ?_, gb_refl _ _, rfl⟩
              clear h
              simp only [execOp, Act.eval, e20, e23]
              go_simp
            refine ⟨Fg.vT rfl (by decide) fun ac w h => ?_, ?_⟩
            · have e17 : ac.tmps.getD 17 undef = Value.bool true := h.dep 17 (by kernel_rfl)
              have e24 : ac.tmps.getD 24 undef = Value.bool true := h.dep 24 (by kernel_rfl)
              refine ⟨Value.bool true, w, wants_none rfl, ?_, gb_refl _ _, rfl⟩
              clear h
              simp only [execOp, Act.eval, e17, e24]
              go_simp
            refine ⟨Fg.vT rfl (by decide) fun ac w h => ?_, ?_⟩
            · have e25 : ac.tmps.getD 25 undef = Value.bool true := h.dep 25 (by kernel_rfl)
              exact ⟨_, w, wants_none rfl, Fg.run_move rfl e25, gb_refl _ _, rfl⟩
            refine ⟨Fg.vT rfl (by decide) fun ac w h => ?_, ?_⟩
            · have e26 : ac.tmps.getD 26 undef = Value.bool true := h.dep 26 (by kernel_rfl)
              have e5 : ac.tmps.getD 5 undef = Value.pointer (some ⟨M1, 0, none⟩) := h.rest 5 (by kernel_rfl)
              refine ⟨Value.pointer (some ⟨M1, 0, none⟩), w, wants_some (d := 26) rfl rfl (by rw [h.size]; show 26 < 34; decide) e26, ?_, gb_refl _ _, rfl⟩
              clear h
              simp only [execOp, Act.eval, e5]
              go_simp
            refine ⟨Fg.vT rfl (by decide) fun ac w h => ?_, ?_⟩
            · have e26 : ac.tmps.getD 26 undef = Value.bool true := h.dep 26 (by kernel_rfl)
              have e27 : ac.tmps.getD 27 undef = Value.pointer (some ⟨M1, 0, none⟩) := h.dep 27 (by kernel_rfl)
              refine ⟨Value.pointer (some ⟨M1, 3, none⟩), w, wants_some (d := 26) rfl rfl (by rw [h.size]; show 26 < 34; decide) e26, ?_, gb_refl _ _, rfl⟩
              clear h
              simp only [execOp, Act.eval, e27]
              go_simp
            refine ⟨Fg.vT rfl (by decide) fun ac w h => ?_, ?_⟩
            · have e26 : ac.tmps.getD 26 undef = Value.bool true := h.dep 26 (by kernel_rfl)
              have e28 : ac.tmps.getD 28 undef = Value.pointer (some ⟨M1, 3, none⟩) := h.dep 28 (by kernel_rfl)
              have hb1 := HG0.out.2.1.grown h.base (by simp)
              have m3 := hb1.cell (i := 3) rfl
              refine ⟨Value.slice a1 n1 c1, w, wants_some (d := 26) rfl rfl (by rw [h.size]; show 26 < 34; decide) e26, ?_, gb_refl _ _, rfl⟩
              clear h
              simp only [execOp, Act.eval, e28]
              go_simp
            refine ⟨Fg.vT rfl (by decide) fun ac w h => ?_, ?_⟩
            · have e26 : ac.tmps.getD 26 undef = Value.bool true := h.dep 26 (by kernel_rfl)
              have e6 : ac.tmps.getD 6 undef = Value.pointer (some ⟨M2, 0, none⟩) := h.rest 6 (by kernel_rfl)
              have hb2 := HG0.out.2.2.grown h.base (by simp)
              have m0 := hb2.cell (i := 0) rfl
              have m1 := hb2.cell (i := 1) rfl
              have m2 := hb2.cell (i := 2) rfl
              have m3 := hb2.cell (i := 3) rfl
              have m4 := hb2.cell (i := 4) rfl
              have m5 := hb2.cell (i := 5) rfl
              have m6 := hb2.cell (i := 6) rfl
              refine ⟨vV s' cl' sq' a1' n1' c1' g' a2' n2' c2' a3' n3' c3', w, wants_some (d := 26) rfl rfl (by rw [h.size]; show 26 < 34; decide) e26, ?_, gb_refl _ _, rfl⟩
              clear h
              simp only [execOp, Act.eval, e6]
              go_simp
            refine ⟨Fg.cT rfl (by decide) fun ac w h => ?_, ?_⟩
            · have e26 : ac.tmps.getD 26 undef = Value.bool true := h.dep 26 (by kernel_rfl)
              have e30 : ac.tmps.getD 30 undef = vV s' cl' sq' a1' n1' c1' g' a2' n2' c2' a3' n3' c3' := h.dep 30 (by kernel_rfl)
              refine ⟨24, #[vV s' cl' sq' a1' n1' c1' g' a2' n2' c2' a3' n3' c3'], wants_some (d := 26) rfl rfl (by rw [h.size]; show 26 < 34; decide) e26, Fg.run_call rfl rfl (by simp only [List.map_toArray, List.map_cons, List.map_nil, Act.eval, e30]) (Fg.run_enter Try.func24 (by kernel_rfl) (by kernel_rfl)), ?_⟩
              exact (dot_any s' cl' sq' a1' n1' c1' g' a2' n2' c2' a3' n3' c3' w).mono fun _ _ ⟨he, hg⟩ => ⟨_, he, hg, rfl⟩
            refine ⟨Fg.cT rfl (by decide) fun ac w h => ?_, ?_⟩
            · have e26 : ac.tmps.getD 26 undef = Value.bool true := h.dep 26 (by kernel_rfl)
              have e29 : ac.tmps.getD 29 undef = Value.slice a1 n1 c1 := h.dep 29 (by kernel_rfl)
              have e31 : ac.tmps.getD 31 undef = Value.agg #[iV cl', iV sq'] := h.dep 31 (by kernel_rfl)
              refine ⟨23, #[Value.slice a1 n1 c1, Value.agg #[iV cl', iV sq']], wants_some (d := 26) rfl rfl (by rw [h.size]; show 26 < 34; decide) e26, Fg.run_call rfl rfl (by simp only [List.map_toArray, List.map_cons, List.map_nil, Act.eval, e29, e31]) (Fg.run_enter Try.func23 (by kernel_rfl) (by kernel_rfl)), ?_⟩
              exact (HH.out w (gb_trans HG0.out.1 h.base)).mono fun _ _ ⟨he, hg⟩ => ⟨_, he, hg, rfl⟩
            refine ⟨Fg.vT rfl (by decide) fun ac w h => ?_, ?_⟩
            · have e26 : ac.tmps.getD 26 undef = Value.bool true := h.dep 26 (by kernel_rfl)
              have e32 : ac.tmps.getD 32 undef = Value.bool t := h.dep 32 (by kernel_rfl)
              refine ⟨Value.bool t, w, wants_none rfl, ?_, gb_refl _ _, rfl⟩
              clear h
              simp only [execOp, Act.eval, e26, e32]
              go_simp
            refine ⟨Fg.vT rfl (by decide) fun ac w h => ?_, ?_⟩
            · have e33 : ac.tmps.getD 33 undef = Value.bool t := h.dep 33 (by kernel_rfl)
              exact ⟨_, w, wants_none rfl, Fg.run_assign rfl e33, gb_refl _ _, rfl⟩
            trivial
          · intro aq wq hB hsz hdf hrest hslots hpt
            obtain ⟨u0, e0⟩ : ∃ u, aq.tmps.getD 0 undef = u := ⟨_, rfl⟩
            obtain ⟨u1, e1⟩ : ∃ u, aq.tmps.getD 1 undef = u := ⟨_, rfl⟩
            obtain ⟨u2, e2⟩ : ∃ u, aq.tmps.getD 2 undef = u := ⟨_, rfl⟩
            obtain ⟨u3, e3⟩ : ∃ u, aq.tmps.getD 3 undef = u := ⟨_, rfl⟩
            have e4 : aq.tmps.getD 4 undef = Value.bool t := hslots 4 (by kernel_rfl)
            obtain ⟨u5, e5⟩ : ∃ u, aq.tmps.getD 5 undef = u := ⟨_, rfl⟩
            obtain ⟨u6, e6⟩ : ∃ u, aq.tmps.getD 6 undef = u := ⟨_, rfl⟩
            obtain ⟨u7, e7⟩ : ∃ u, aq.tmps.getD 7 undef = u := ⟨_, rfl⟩
            obtain ⟨u8, e8⟩ : ∃ u, aq.tmps.getD 8 undef = u := ⟨_, rfl⟩
            obtain ⟨u9, e9⟩ : ∃ u, aq.tmps.getD 9 undef = u := ⟨_, rfl⟩
            obtain ⟨u10, e10⟩ : ∃ u, aq.tmps.getD 10 undef = u := ⟨_, rfl⟩
            obtain ⟨u11, e11⟩ : ∃ u, aq.tmps.getD 11 undef = u := ⟨_, rfl⟩
            obtain ⟨u12, e12⟩ : ∃ u, aq.tmps.getD 12 undef = u := ⟨_, rfl⟩
            obtain ⟨u13, e13⟩ : ∃ u, aq.tmps.getD 13 undef = u := ⟨_, rfl⟩
            obtain ⟨u14, e14⟩ : ∃ u, aq.tmps.getD 14 undef = u := ⟨_, rfl⟩
            obtain ⟨u15, e15⟩ : ∃ u, aq.tmps.getD 15 undef = u := ⟨_, rfl⟩
            obtain ⟨u16, e16⟩ : ∃ u, aq.tmps.getD 16 undef = u := ⟨_, rfl⟩
            obtain ⟨u17, e17⟩ : ∃ u, aq.tmps.getD 17 undef = u := ⟨_, rfl⟩
            obtain ⟨u18, e18⟩ : ∃ u, aq.tmps.getD 18 undef = u := ⟨_, rfl⟩
            obtain ⟨u19, e19⟩ : ∃ u, aq.tmps.getD 19 undef = u := ⟨_, rfl⟩
            obtain ⟨u20, e20⟩ : ∃ u, aq.tmps.getD 20 undef = u := ⟨_, rfl⟩
            obtain ⟨u21, e21⟩ : ∃ u, aq.tmps.getD 21 undef = u := ⟨_, rfl⟩
            obtain ⟨u22, e22⟩ : ∃ u, aq.tmps.getD 22 undef = u := ⟨_, rfl⟩
            obtain ⟨u23, e23⟩ : ∃ u, aq.tmps.getD 23 undef = u := ⟨_, rfl⟩
            obtain ⟨u24, e24⟩ : ∃ u, aq.tmps.getD 24 undef = u := ⟨_, rfl⟩
            obtain ⟨u25, e25⟩ : ∃ u, aq.tmps.getD 25 undef = u := ⟨_, rfl⟩
            obtain ⟨u26, e26⟩ : ∃ u, aq.tmps.getD 26 undef = u := ⟨_, rfl⟩
            obtain ⟨u27, e27⟩ : ∃ u, aq.tmps.getD 27 undef = u := ⟨_, rfl⟩
            obtain ⟨u28, e28⟩ : ∃ u, aq.tmps.getD 28 undef = u := ⟨_, rfl⟩
            obtain ⟨u29, e29⟩ : ∃ u, aq.tmps.getD 29 undef = u := ⟨_, rfl⟩
            obtain ⟨u30, e30⟩ : ∃ u, aq.tmps.getD 30 undef = u := ⟨_, rfl⟩
            obtain ⟨u31, e31⟩ : ∃ u, aq.tmps.getD 31 undef = u := ⟨_, rfl⟩
            obtain ⟨u32, e32⟩ : ∃ u, aq.tmps.getD 32 undef = u := ⟨_, rfl⟩
            obtain ⟨u33, e33⟩ : ∃ u, aq.tmps.getD 33 undef = u := ⟨_, rfl⟩
            obtain rfl := Fg.frame_is (a := aq) (vs := [u0, u1, u2, u3, Value.bool t, u5, u6, u7, u8, u9, u10, u11, u12, u13, u14, u15, u16, u17, u18, u19, u20, u21, u22, u23, u24, u25, u26, u27, u28, u29, u30, u31, u32, u33]) hsz ⟨e0, e1, e2, e3, e4, e5, e6, e7, e8, e9, e10, e11, e12, e13, e14, e15, e16, e17, e18, e19, e20, e21, e22, e23, e24, e25, e26, e27, e28, e29, e30, e31, e32, e33, trivial⟩ hdf
            clear hsz hdf hrest hslots hpt e0 e1 e2 e3 e4 e5 e6 e7 e8 e9 e10 e11 e12 e13 e14 e15 e16 e17 e18 e19 e20 e21 e22 e23 e24 e25 e26 e27 e28 e29 e30 e31 e32 e33
            have HR := Lib.hid (gb_trans HG0.out.1 hB)
            clear hB
            refine wpList_nil ?_
            go_wp2
            go_ret
            exact ⟨by rw [HO.out]; rfl, HR.out⟩
end Rc
end Go.Proofs.Ytlkiancedgaicaa

/- The law on what Join tells. -/
namespace Go.Proofs.Ytlkiancedgaicaa
open Go.RowKit Ow Wi Ve Rc
namespace Sb
theorem gb_drewN (w : World) (q : Nat) : w.grownBy (w.drewN q) none := ⟨rfl, rfl, rfl, Nat.le_refl _, fun _ _ _ => rfl⟩
set_option linter.unusedSimpArgs false
set_option maxRecDepth 100000 in
set_option maxHeartbeats 600000 in
theorem sfrom_any (a0 a1 : Option Addr) (n m cap0 cap1 : Nat) (A B : List E) (W : World) (hn : A.length = n) (hm : B.length = m) (hA : RRow W W.heap.size a0 A) (hB : RRow W W.heap.size a1 B) (rA : a0 = none → cap0 = 0) (rB : a1 = none → cap1 = 0) (hn2 : n < 9223372036854775808) (hm2 : m < 9223372036854775808) (fA : ∀ x ∈ A, Fits x) (fB : ∀ x ∈ B, Fits x) :
    Calls Try.prog 4 #[.slice a0 n cap0, .slice a1 m cap1] W fun e w' => e = .returned (.bool true) ∧ W.grownBy w' none := by
  obtain ⟨Q, hQ⟩ : ∃ Q : Ending → World → Prop, Q = fun e w' => e = .returned (.bool true) ∧ W.grownBy w' none := ⟨_, rfl⟩
  rw [← hQ]
  have HQ : Hid (∀ w', W.grownBy w' none → Q (.returned (.bool true)) w') := fun w' hg => by rw [hQ]; exact ⟨rfl, hg⟩
  clear hQ
  have HW := Lib.hid (awake9_any W)
  have HL : Hid (A.length = n ∧ B.length = m ∧ (a0 = none → cap0 = 0) ∧ (a1 = none → cap1 = 0) ∧ RRow W W.heap.size a0 A ∧ RRow W W.heap.size a1 B) := ⟨hn, hm, rA, rB, hA, hB⟩
  have HF : Hid ((∀ x ∈ A, Fits x) ∧ (∀ x ∈ B, Fits x)) := ⟨fA, fB⟩
  clear hn hm hA hB rA rB fA fB
  go_enter Try.func4, Try.ntmps4
  go_wp2_with fail
  refine HW.out.mono ?_
  rintro e w1 ⟨rfl, hg1⟩
  have HG : Hid (Calls Try.prog 6 #[.slice (some ⟨w1.heap.size, 0, none⟩) 2 2] (w1.alloc (.cells #[.slice a0 n cap0, .slice a1 m cap1] 22)) (fun e w' => ∃ b : Bool, e = .returned (.bool b) ∧ (b = false → Few [A, B]) ∧ w1.grownBy w' none)) := by
    have h := great_lits w1 22 [(a0, cap0, A), (a1, cap1, B)] 2 rfl (by decide) (by
      intro x hx; simp only [List.mem_cons, List.not_mem_nil, or_false] at hx
      rcases hx with rfl | rfl
      · exact ⟨(HL.out.2.2.2.2.1.stay hg1).full, HL.out.2.2.1⟩
      · exact ⟨(HL.out.2.2.2.2.2.stay hg1).full, HL.out.2.2.2.1⟩) (by
      intro x hx; simp only [List.mem_cons, List.not_mem_nil, or_false] at hx
      rcases hx with rfl | rfl
      · exact ⟨by rw [HL.out.1]; exact hn2, HF.out.1⟩
      · exact ⟨by rw [HL.out.2.1]; exact hm2, HF.out.2⟩)
    rw [show ([(a0, cap0, A), (a1, cap1, B)] : List (Option Addr × Nat × List E)).map (fun q => Value.slice q.1 q.2.2.length q.2.1) = [.slice a0 n cap0, .slice a1 m cap1] from by simp only [List.map_cons, List.map_nil]; rw [HL.out.1, HL.out.2.1]] at h
    exact h
  have HG1 := Lib.hid hg1; clear hg1 HW HF
  go_wp2_with fail
  refine HG.out.mono ?_
  rintro e w2 ⟨b, rfl, hb, hg2⟩
  have HG2 := Lib.hid (gb_trans HG1.out hg2); clear hg2 HG HG1
  cases b with
  | true =>
    have HE := Lib.hid (HQ.out _ HG2.out)
    go_wp2
    exact HE.out
  | false =>
    have HFew := Lib.hid (hb rfl); clear hb
    have hn3 : n ≤ 2500 := by have := (HFew.out A (by simp)).1; rw [HL.out.1] at this; exact this
    have hm3 : m ≤ 2500 := by have := (HFew.out B (by simp)).1; rw [HL.out.2.1] at this; exact this
    by_cases h60 : (60 : Int) < (n : Int) + (m : Int)
    · have HE := Lib.hid (HQ.out _ HG2.out)
      go_wp2
      exact HE.out
    · have HR := Lib.hid (sright_any w2.heap.size n cap0 a0 A w2 HL.out.1 ((HL.out.2.2.2.2.1.stay HG2.out).full) (by omega))
      have HA3 : Hid (∀ w', w2.grownBy w' none → A.length = n ∧ n ≤ 100000 ∧ RRow w' w'.heap.size a0 A ∧ (a0 = none → cap0 = 0) ∧ ∀ x ∈ A, Small x) := fun w' hg => ⟨HL.out.1, by omega, (HL.out.2.2.2.2.1.stay (gb_trans HG2.out hg)).full, HL.out.2.2.1, (HFew.out A (by simp)).2⟩
      have HB3 : Hid (∀ w', w2.grownBy w' none → B.length = m ∧ m ≤ 100000 ∧ RRow w' w'.heap.size a1 B ∧ (a1 = none → cap1 = 0) ∧ ∀ x ∈ B, Small x) := fun w' hg => ⟨HL.out.2.1, by omega, (HL.out.2.2.2.2.2.stay (gb_trans HG2.out hg)).full, HL.out.2.2.2.1, (HFew.out B (by simp)).2⟩
      go_upto_if 29 with fail
      refine HR.out.mono ?_
      rintro e w3 ⟨rfl, hg3⟩
      have HG3 := Lib.hid hg3; clear hg3 HR HFew HL
      have HS : Hid (∀ b, setB (recs A) = b → b = true → alikeB (recs (A ++ A)) = true ∧ joinO (recs (A ++ A)) = recs A) := fun b hb e => joinO_self (hb.trans e) (fun x => by simp [recs])
      obtain ⟨sb, hsb⟩ : ∃ sb, setB (recs A) = sb := ⟨_, rfl⟩
      rw [hsb]
      replace HS := Lib.hid (HS.out sb hsb)
      clear hsb
      go_upto_if 29 with fail
      go_cut [5, 6] from 30 to 44 (fun _ _ wx => w2.grownBy wx none)
      case first =>
        cases sb with
        | false =>
          go_wp2
          go_meet
          exact HG3.out
        | true =>
          have HJ := Lib.hid (join2 w3 a0 n cap0 A a0 n cap0 A (HA3.out w3 HG3.out) (HA3.out w3 HG3.out))
          go_wp2_with fail
          refine HJ.out.mono ?_
          rintro e w4 ⟨aj, cj, out, rfl, hro, hrow, hz, hsz, hg4⟩
          rw [(HS.out (by simp)).1]
          have hout : recs out = recs A := hro.trans (HS.out (by simp)).2
          have hln : (recs out).length = n := by rw [hout, recs_len, (HA3.out w4 (gb_trans HG3.out hg4)).1]
          have HM := Lib.hid (sameRecs_any w4.heap.size w4.heap.size n n cj cap0 aj a0 out A w4 ((recs_len out).symm.trans hln) ((HA3.out w4 (gb_trans HG3.out hg4)).1) hrow ((HA3.out w4 (gb_trans HG3.out hg4)).2.2.1) (by omega))
          rw [hout, show sameL (recs A) (recs A) = true from decide_eq_true rfl] at HM
          rw [hln]
          have HG4 := Lib.hid (gb_trans HG3.out hg4)
          clear hg4 hro hrow hz hsz hout hln HJ
          go_wp2_with fail
          refine HM.out.mono ?_
          rintro e w5 ⟨rfl, hg5⟩
          have HG5 := Lib.hid (gb_trans HG4.out hg5); clear hg5
          go_wp2
          go_meet
          exact HG5.out
      case rest =>
        rename World => wx
        have HG4 := Lib.hid hcut; clear hcut HG3 HS
        have HJ := Lib.hid (join2 wx a0 n cap0 A a1 m cap1 B (HA3.out wx HG4.out) (HB3.out wx HG4.out))
        go_wp2_with fail
        refine HJ.out.mono ?_
        rintro e w4 ⟨aj, cj, out, rfl, hro, hrow, hz, hsz, hg4⟩
        have HG5 := Lib.hid (gb_trans HG4.out hg4)
        obtain ⟨q, hq⟩ : ∃ q, (recs out).length = q := ⟨_, rfl⟩
        rw [hq]
        rw [recs_len] at hq
        obtain ⟨er, her⟩ : ∃ er, er = errN (alikeB (recs (A ++ B))) 4 := ⟨_, rfl⟩
        rw [← her]
        have hga := gb_alloc (gb_refl w4 none) (.cells #[] 34)
        have hA4 := HA3.out (w4.alloc (.cells #[] 34)) (gb_trans HG5.out hga)
        obtain ⟨v1, wA, hap1, ho1, hgA⟩ := append_recs (w4.alloc (.cells #[] 34)) w4.heap.size (w4.alloc (.cells #[] 34)).heap.size (.slice (some ⟨w4.heap.size, 0, none⟩) 0 0) [] a0 n cap0 A (own_none w4 0 rfl) hA4.1 hA4.2.2.1 hA4.2.2.2.1 (by simp; omega) (by simp)
        have hgA' := gb_ownR hga (own_none w4 0 rfl) (Nat.le_refl _) hgA
        have hB4 := HB3.out wA (gb_trans HG5.out hgA')
        obtain ⟨v2, wB, hap2, ho2, hgB⟩ := append_recs wA w4.heap.size wA.heap.size v1 ([] ++ A) a1 m cap1 B ho1 hB4.1 hB4.2.2.1 hB4.2.2.2.1 (by rw [List.nil_append, hA4.1]; omega) hgA'.size
        have hgB' := gb_ownR hgA' ho1 (Nat.le_refl _) hgB
        rw [List.nil_append] at ho2
        obtain ⟨al, cl, rfl, _, _, hall⟩ := own_recs ho2 (fun x hx => by
          have hg := gb_trans HG5.out hgB'
          rcases List.mem_append.1 hx with hx | hx
          · exact (HA3.out wB hg).2.2.1.recs x hx
          · exact (HB3.out wB hg).2.2.1.recs x hx)
        have hnm : (A ++ B).length = n + m := by rw [List.length_append, hA4.1, hB4.1]
        rw [hnm] at hap2
        have HAP := Lib.hid (And.intro hap1 hap2)
        have HX : Hid (out.length = q ∧ recs out = joinO (recs (A ++ B)) ∧ RRow wB wB.heap.size aj out ∧ RRow wB wB.heap.size al (A ++ B) ∧ (A ++ B).length = n + m ∧ er = errN (alikeB (recs (A ++ B))) 4 ∧ q < 9223372036854775808) :=
          ⟨hq, hro, (hrow.stay hgB').full, hall, hnm, her, by rw [← hq]; exact hsz⟩
        have HGB := Lib.hid (gb_trans HG5.out hgB')
        obtain ⟨l1, k1, rfl⟩ := own_shapeR ho1
        clear hga hA4 hap1 ho1 hgA hgA' hB4 hap2 ho2 hgB hgB' hall hro hrow hz hsz hg4 hq her hnm HJ HG4
        go_wp2_with (at_builtin; first | refine Lib.wpList_append_run _ rfl (.tmp 52) (.tmp 53) 22 22 rfl _ _ rfl rfl _ _ HAP.out.1 ?_ | refine Lib.wpList_append_run _ rfl (.tmp 54) (.tmp 55) 22 22 rfl _ _ rfl rfl _ _ HAP.out.2 ?_)
        go_loopw [10] (fun i wr => ∃ (k : Nat), k ≤ q ∧ i = .int .i64 k ∧ Hid (wB.grownBy wr none)) (fun i _ => q - (intOf i).toNat)
        case atStart => exact ⟨0, by omega, rfl, gb_refl _ _⟩
        case round =>
          obtain ⟨k, hk, rfl, HI⟩ := hrel
          by_cases hlt : k < q
          · have hl : 0 < out.length := by rw [HX.out.1]; omega
            obtain ⟨pb, po, rfl, hpb, hcs⟩ := HX.out.2.2.1.at hl
            have HCS := Lib.hid hcs; clear hcs
            have hi : (k : Int) < (q : Int) := by omega
            have hq63 := HX.out.2.2.2.2.2.2
            go_wp2_with fail
            go_loopw [11, 12] (fun o j w3 => ∃ (jn : Nat) (ob : Bool), jn ≤ n + m ∧ j = .int .i64 jn ∧ o = .bool ob ∧ Hid (wB.grownBy w3 none ∧ (ob = false → ∀ i, i < jn → sameB (out.getD k e0).2 ((A ++ B).getD i e0).2 = false))) (fun _ j _ => n + m - (intOf j).toNat)
            case atStart => exact ⟨0, false, by omega, rfl, rfl, HI.out, fun _ i hi => absurd hi (by omega)⟩
            case round =>
              obtain ⟨jn, ob, hj, rfl, rfl, HJ⟩ := hrel
              by_cases hjl : jn < n + m
              · have hji : (jn : Int) < (n : Int) + (m : Int) := by omega
                obtain ⟨qb, qo, rfl, hqb, hds⟩ := HX.out.2.2.2.1.at (by rw [HX.out.2.2.2.2.1]; omega)
                obtain ⟨x, hxe⟩ : ∃ x, x = out.getD k e0 := ⟨_, rfl⟩
                obtain ⟨y, hye⟩ : ∃ y, y = (A ++ B).getD jn e0 := ⟨_, rfl⟩
                have hx := Cells7.stay (HCS.out k (by rw [HX.out.1]; exact hlt)) HJ.out.1
                have hy := Cells7.stay (hds jn (by rw [HX.out.2.2.2.2.1]; exact hjl)) HJ.out.1
                have hrx := HX.out.2.2.1.recs _ (getD_mem (l := out) (i := k) (by rw [HX.out.1]; exact hlt))
                have hry := HX.out.2.2.2.1.recs _ (getD_mem (l := A ++ B) (i := jn) (by rw [HX.out.2.2.2.2.1]; exact hjl))
                have HK : Hid (∀ b, sameB (out.getD k e0).2 ((A ++ B).getD jn e0).2 = b → ob = false → b = false → ∀ i, i < jn + 1 → sameB (out.getD k e0).2 ((A ++ B).getD i e0).2 = false) := by
                  intro b hb ho e i hi
                  rcases (by omega : i < jn ∨ i = jn) with hi | rfl
                  · exact HJ.out.2 ho i hi
                  · exact hb.trans e
                rw [← hxe] at hx hrx
                rw [← hye] at hy hry
                obtain ⟨b, hb⟩ : ∃ b, sameB x.2 y.2 = b := ⟨_, rfl⟩
                replace HK := Lib.hid (HK.out b (by rw [← hxe, ← hye]; exact hb))
                have HB := Lib.hid (fun w' (hg : wB.grownBy w' none) => sameRec_any x.2 y.2 wB.heap.size wB.heap.size w' _ _ (hrx.stay hg) (hry.stay hg))
                rw [hb] at HB
                clear hb hrx hry hxe hye hds
                obtain ⟨⟨rs, ra1, rn1, rd1, ra2, rn2, rd2, ra3, rn3, rd3⟩, ⟨rkey, rcl, rsq, rcx, rg, rval, rsig⟩⟩ := x
                obtain ⟨⟨rs', ra1', rn1', rd1', ra2', rn2', rd2', ra3', rn3', rd3'⟩, ⟨rkey', rcl', rsq', rcx', rg', rval', rsig'⟩⟩ := y
                have HXY := Lib.hid (And.intro (cells_of hx) (cells_of hy)); clear hx hy
                replace HB : Hid (∀ w', wB.grownBy w' none → Calls Try.prog 12 #[vV rs rcl rsq ra1 rn1 rd1 rg ra2 rn2 rd2 ra3 rn3 rd3, vV rs' rcl' rsq' ra1' rn1' rd1' rg' ra2' rn2' rd2' ra3' rn3' rd3'] w' fun e w'' => e = .returned (.bool b) ∧ w'.grownBy w'' none) := HB
                obtain ⟨w2, hw2⟩ : ∃ w2, w2 = wr := ⟨_, rfl⟩
                have HG2 := Lib.hid HJ.out.1
                rw [← hw2] at HXY HG2
                go_wp2_with fail
                rw [← hw2]
                clear hw2 hji
                cases ob with
                | true =>
                  clear HJ HK
                  refine Fg.region_t [] [.any, .any, .any, .any, .any, .any, .any, .any, .any, .any, .any, .any, .any, .any, .any, .any, .any, .any, .any, .any, .any, .any, .any, .any, .any, .any, .any, .any, .any, .any, .any, .any, .any, .any, .any, .any, .any, .any, .any, .any, .any, .any, .any, .any, .any, .any, .any, .any, .any, .any, .any, .any, .any, .any, .any, .any, .any, .any, .any, .any, .any, .any, .any, .any, .any, .any, .any, .any, .any, .val (Value.bool true), .val (Value.bool true), .val undef, .val undef, .val undef, .val undef, .val undef, .val undef, .val undef, .val undef, .val undef, .val (Value.bool true)] w2 12 (gb_refl _ _) (by kernel_rfl) (by kernel_rfl) (by kernel_rfl) (by kernel_rfl) (by decide) (by kernel_rfl) ?_ ?_
                  · refine ⟨Fg.vT rfl (by decide) fun ac w h => ?_, ?_⟩
                    · have e11 : ac.tmps.getD 11 undef = Value.bool true := h.rest 11 (by kernel_rfl)
                      exact ⟨_, w, wants_none rfl, Fg.run_move rfl e11, gb_refl _ _, rfl⟩
                    refine ⟨Fg.vT rfl (by decide) fun ac w h => ?_, ?_⟩
                    · have e69 : ac.tmps.getD 69 undef = Value.bool true := h.dep 69 (by kernel_rfl)
                      exact ⟨_, w, wants_none rfl, Fg.run_move rfl e69, gb_refl _ _, rfl⟩
                    refine ⟨Fg.sT rfl (by decide) (fun _ => rfl) fun ac w h => ?_, ?_⟩
                    · have e70 : ac.tmps.getD 70 undef = Value.bool true := h.dep 70 (by kernel_rfl)
                      exact not_wants (d := 70) rfl rfl (by rw [h.size]; show 70 < 151; decide) e70 (by decide)
                    refine ⟨Fg.sT rfl (by decide) (fun _ => rfl) fun ac w h => ?_, ?_⟩
                    · have e70 : ac.tmps.getD 70 undef = Value.bool true := h.dep 70 (by kernel_rfl)
                      exact not_wants (d := 70) rfl rfl (by rw [h.size]; show 70 < 151; decide) e70 (by decide)
                    refine ⟨Fg.sT rfl (by decide) (fun _ => rfl) fun ac w h => ?_, ?_⟩
                    · have e70 : ac.tmps.getD 70 undef = Value.bool true := h.dep 70 (by kernel_rfl)
                      exact not_wants (d := 70) rfl rfl (by rw [h.size]; show 70 < 151; decide) e70 (by decide)
                    refine ⟨Fg.sT rfl (by decide) (fun _ => rfl) fun ac w h => ?_, ?_⟩
                    · have e70 : ac.tmps.getD 70 undef = Value.bool true := h.dep 70 (by kernel_rfl)
                      exact not_wants (d := 70) rfl rfl (by rw [h.size]; show 70 < 151; decide) e70 (by decide)
                    refine ⟨Fg.sT rfl (by decide) (fun _ => rfl) fun ac w h => ?_, ?_⟩
                    · have e70 : ac.tmps.getD 70 undef = Value.bool true := h.dep 70 (by kernel_rfl)
                      exact not_wants (d := 70) rfl rfl (by rw [h.size]; show 70 < 151; decide) e70 (by decide)
                    refine ⟨Fg.sT rfl (by decide) (fun _ => rfl) fun ac w h => ?_, ?_⟩
                    · have e70 : ac.tmps.getD 70 undef = Value.bool true := h.dep 70 (by kernel_rfl)
                      exact not_wants (d := 70) rfl rfl (by rw [h.size]; show 70 < 151; decide) e70 (by decide)
                    refine ⟨Fg.sT rfl (by decide) (fun _ => rfl) fun ac w h => ?_, ?_⟩
                    · have e70 : ac.tmps.getD 70 undef = Value.bool true := h.dep 70 (by kernel_rfl)
                      exact not_wants (d := 70) rfl rfl (by rw [h.size]; show 70 < 151; decide) e70 (by decide)
                    refine ⟨Fg.sT rfl (by decide) (fun _ => rfl) fun ac w h => ?_, ?_⟩
                    · have e70 : ac.tmps.getD 70 undef = Value.bool true := h.dep 70 (by kernel_rfl)
                      exact not_wants (d := 70) rfl rfl (by rw [h.size]; show 70 < 151; decide) e70 (by decide)
                    refine ⟨Fg.sT rfl (by decide) (fun _ => rfl) fun ac w h => ?_, ?_⟩
                    · have e70 : ac.tmps.getD 70 undef = Value.bool true := h.dep 70 (by kernel_rfl)
                      exact not_wants (d := 70) rfl rfl (by rw [h.size]; show 70 < 151; decide) e70 (by decide)
                    refine ⟨Fg.vT rfl (by decide) fun ac w h => ?_, ?_⟩
                    · have e70 : ac.tmps.getD 70 undef = Value.bool true := h.dep 70 (by kernel_rfl)
                      refine ⟨Value.bool true, w, wants_none rfl, ?_, gb_refl _ _, rfl⟩
                      clear h
                      simp only [execOp, Act.eval, e70]
                      go_simp
                    trivial
                  · intro aq wq hB hsz hdf hrest hslots hpt
                    obtain ⟨u63, e63⟩ : ∃ u, aq.tmps.getD 63 undef = u := ⟨_, rfl⟩
                    obtain ⟨u64, e64⟩ : ∃ u, aq.tmps.getD 64 undef = u := ⟨_, rfl⟩
                    obtain ⟨u65, e65⟩ : ∃ u, aq.tmps.getD 65 undef = u := ⟨_, rfl⟩
                    obtain ⟨u66, e66⟩ : ∃ u, aq.tmps.getD 66 undef = u := ⟨_, rfl⟩
                    obtain ⟨u67, e67⟩ : ∃ u, aq.tmps.getD 67 undef = u := ⟨_, rfl⟩
                    obtain ⟨u68, e68⟩ : ∃ u, aq.tmps.getD 68 undef = u := ⟨_, rfl⟩
                    obtain ⟨u69, e69⟩ : ∃ u, aq.tmps.getD 69 undef = u := ⟨_, rfl⟩
                    obtain ⟨u70, e70⟩ : ∃ u, aq.tmps.getD 70 undef = u := ⟨_, rfl⟩
                    obtain ⟨u71, e71⟩ : ∃ u, aq.tmps.getD 71 undef = u := ⟨_, rfl⟩
                    obtain ⟨u72, e72⟩ : ∃ u, aq.tmps.getD 72 undef = u := ⟨_, rfl⟩
                    obtain ⟨u73, e73⟩ : ∃ u, aq.tmps.getD 73 undef = u := ⟨_, rfl⟩
                    obtain ⟨u74, e74⟩ : ∃ u, aq.tmps.getD 74 undef = u := ⟨_, rfl⟩
                    obtain ⟨u75, e75⟩ : ∃ u, aq.tmps.getD 75 undef = u := ⟨_, rfl⟩
                    obtain ⟨u76, e76⟩ : ∃ u, aq.tmps.getD 76 undef = u := ⟨_, rfl⟩
                    obtain ⟨u77, e77⟩ : ∃ u, aq.tmps.getD 77 undef = u := ⟨_, rfl⟩
                    obtain ⟨u78, e78⟩ : ∃ u, aq.tmps.getD 78 undef = u := ⟨_, rfl⟩
                    obtain ⟨u79, e79⟩ : ∃ u, aq.tmps.getD 79 undef = u := ⟨_, rfl⟩
                    have e80 : aq.tmps.getD 80 undef = Value.bool true := hslots 80 (by kernel_rfl)
                    obtain rfl := Fg.frame_is (a := aq) (vs := [Value.slice a0 n cap0, Value.slice a1 m cap1, undef, undef, u4, u5, u6, Value.slice (some ⟨pb, po, none⟩) q cj, Value.int .i64 er, Value.slice (some ⟨qb, qo, none⟩) (n + m) cl, Value.int .i64 k, Value.bool true, Value.int .i64 jn, u13, Value.bool true, Value.bool false, Value.slice a0 n cap0, Value.slice a1 m cap1, Value.slice (some ⟨w1.heap.size, 0, none⟩) 2 2, Value.bool false, Value.bool false, Value.slice a0 n cap0, Value.int .i64 n, Value.slice a1 m cap1, Value.int .i64 m, Value.int .i64 ((n : Int) + m), Value.bool (decide (60 < (n : Int) + m)), Value.bool (decide (60 < (n : Int) + m)), Value.slice a0 n cap0, Value.bool sb, u30, u31, u32, u33, u34, u35, u36, u37, u38, u39, u40, u41, u42, u43, u44, Value.tuple #[.slice (some ⟨pb, po, none⟩) q cj, .int .i64 er], Value.slice a0 n cap0, Value.slice a1 m cap1, Value.slice (some ⟨wx.heap.size, 0, none⟩) 2 2, Value.tuple #[.slice (some ⟨pb, po, none⟩) q cj, .int .i64 er], Value.slice (some ⟨pb, po, none⟩) q cj, Value.int .i64 er, Value.slice (some ⟨w4.heap.size, 0, none⟩) 0 0, Value.slice a0 n cap0, Value.slice l1 A.length k1, Value.slice a1 m cap1, Value.slice (some ⟨qb, qo, none⟩) (n + m) cl, Value.int .i64 k, Value.slice (some ⟨pb, po, none⟩) q cj, Value.int .i64 q, Value.bool true, u61, u62, u63, u64, u65, u66, u67, u68, u69, u70, u71, u72, u73, u74, u75, u76, u77, u78, u79, Value.bool true, u81, u82, u83, u84, u85, u86, u87, u88, u89, u90, u91, u92, u93, u94, u95, u96, u97, u98, u99, u100, u101, u102, u103, u104, u105, u106, u107, u108, u109, u110, u111, u112, u113, u114, u115, u116, u117, u118, u119, u120, u121, u122, u123, u124, u125, u126, u127, u128, u129, u130, u131, u132, u133, u134, u135, u136, u137, u138, u139, u140, u141, u142, u143, undef, undef, undef, undef, undef, undef, undef]) hsz ⟨hrest 0 (by kernel_rfl), hrest 1 (by kernel_rfl), hrest 2 (by kernel_rfl), hrest 3 (by kernel_rfl), hrest 4 (by kernel_rfl), hrest 5 (by kernel_rfl), hrest 6 (by kernel_rfl), hrest 7 (by kernel_rfl), hrest 8 (by kernel_rfl), hrest 9 (by kernel_rfl), hrest 10 (by kernel_rfl), hrest 11 (by kernel_rfl), hrest 12 (by kernel_rfl), hrest 13 (by kernel_rfl), hrest 14 (by kernel_rfl), hrest 15 (by kernel_rfl), hrest 16 (by kernel_rfl), hrest 17 (by kernel_rfl), hrest 18 (by kernel_rfl), hrest 19 (by kernel_rfl), hrest 20 (by kernel_rfl), hrest 21 (by kernel_rfl), hrest 22 (by kernel_rfl), hrest 23 (by kernel_rfl), hrest 24 (by kernel_rfl), hrest 25 (by kernel_rfl), hrest 26 (by kernel_rfl), hrest 27 (by kernel_rfl), hrest 28 (by kernel_rfl), hrest 29 (by kernel_rfl), hrest 30 (by kernel_rfl), hrest 31 (by kernel_rfl), hrest 32 (by kernel_rfl), hrest 33 (by kernel_rfl), hrest 34 (by kernel_rfl), hrest 35 (by kernel_rfl), hrest 36 (by kernel_rfl), hrest 37 (by kernel_rfl), hrest 38 (by kernel_rfl), hrest 39 (by kernel_rfl), hrest 40 (by kernel_rfl), hrest 41 (by kernel_rfl), hrest 42 (by kernel_rfl), hrest 43 (by kernel_rfl), hrest 44 (by kernel_rfl), hrest 45 (by kernel_rfl), hrest 46 (by kernel_rfl), hrest 47 (by kernel_rfl), hrest 48 (by kernel_rfl), hrest 49 (by kernel_rfl), hrest 50 (by kernel_rfl), hrest 51 (by kernel_rfl), hrest 52 (by kernel_rfl), hrest 53 (by kernel_rfl), hrest 54 (by kernel_rfl), hrest 55 (by kernel_rfl), hrest 56 (by kernel_rfl), hrest 57 (by kernel_rfl), hrest 58 (by kernel_rfl), hrest 59 (by kernel_rfl), hrest 60 (by kernel_rfl), hrest 61 (by kernel_rfl), hrest 62 (by kernel_rfl), e63, e64, e65, e66, e67, e68, e69, e70, e71, e72, e73, e74, e75, e76, e77, e78, e79, e80, hrest 81 (by kernel_rfl), hrest 82 (by kernel_rfl), hrest 83 (by kernel_rfl), hrest 84 (by kernel_rfl), hrest 85 (by kernel_rfl), hrest 86 (by kernel_rfl), hrest 87 (by kernel_rfl), hrest 88 (by kernel_rfl), hrest 89 (by kernel_rfl), hrest 90 (by kernel_rfl), hrest 91 (by kernel_rfl), hrest 92 (by kernel_rfl), hrest 93 (by kernel_rfl), hrest 94 (by kernel_rfl), hrest 95 (by kernel_rfl), hrest 96 (by kernel_rfl), hrest 97 (by kernel_rfl), hrest 98 (by kernel_rfl), hrest 99 (by kernel_rfl), hrest 100 (by kernel_rfl), hrest 101 (by kernel_rfl), hrest 102 (by kernel_rfl), hrest 103 (by kernel_rfl), hrest 104 (by kernel_rfl), hrest 105 (by kernel_rfl), hrest 106 (by kernel_rfl), hrest 107 (by kernel_rfl), hrest 108 (by kernel_rfl), hrest 109 (by kernel_rfl), hrest 110 (by kernel_rfl), hrest 111 (by kernel_rfl), hrest 112 (by kernel_rfl), hrest 113 (by kernel_rfl), hrest 114 (by kernel_rfl), hrest 115 (by kernel_rfl), hrest 116 (by kernel_rfl), hrest 117 (by kernel_rfl), hrest 118 (by kernel_rfl), hrest 119 (by kernel_rfl), hrest 120 (by kernel_rfl), hrest 121 (by kernel_rfl), hrest 122 (by kernel_rfl), hrest 123 (by kernel_rfl), hrest 124 (by kernel_rfl), hrest 125 (by kernel_rfl), hrest 126 (by kernel_rfl), hrest 127 (by kernel_rfl), hrest 128 (by kernel_rfl), hrest 129 (by kernel_rfl), hrest 130 (by kernel_rfl), hrest 131 (by kernel_rfl), hrest 132 (by kernel_rfl), hrest 133 (by kernel_rfl), hrest 134 (by kernel_rfl), hrest 135 (by kernel_rfl), hrest 136 (by kernel_rfl), hrest 137 (by kernel_rfl), hrest 138 (by kernel_rfl), hrest 139 (by kernel_rfl), hrest 140 (by kernel_rfl), hrest 141 (by kernel_rfl), hrest 142 (by kernel_rfl), hrest 143 (by kernel_rfl), hrest 144 (by kernel_rfl), hrest 145 (by kernel_rfl), hrest 146 (by kernel_rfl), hrest 147 (by kernel_rfl), hrest 148 (by kernel_rfl), hrest 149 (by kernel_rfl), hrest 150 (by kernel_rfl), trivial⟩ hdf
                    clear hsz hdf hrest hslots hpt e63 e64 e65 e66 e67 e68 e69 e70 e71 e72 e73 e74 e75 e76 e77 e78 e79 e80
                    have HGq := Lib.hid (gb_trans HG2.out hB)
                    clear hB
                    refine Fg.wpl_value (v := .bool true) (w' := wq) rfl (Fg.run_assign rfl rfl) ?_
                    refine wpList_nil ?_
                    simp only [Act.put, List.setIfInBounds_toArray, List.set_cons_succ, List.set_cons_zero]
                    go_wp2
                    exact ⟨⟨jn + 1, true, by omega, rfl, rfl, HGq.out, fun h => by cases h⟩, by show n + m - ((jn : Int) + 1).toNat < n + m - (jn : Int).toNat; omega⟩
                | false =>
                  clear HJ
                  refine Fg.region_t [] [.any, .any, .any, .any, .any, .any, .any, .any, .any, .any, .any, .any, .any, .any, .any, .any, .any, .any, .any, .any, .any, .any, .any, .any, .any, .any, .any, .any, .any, .any, .any, .any, .any, .any, .any, .any, .any, .any, .any, .any, .any, .any, .any, .any, .any, .any, .any, .any, .any, .any, .any, .any, .any, .any, .any, .any, .any, .any, .any, .any, .any, .any, .any, .any, .any, .any, .any, .any, .any, .val (Value.bool false), .val (Value.bool false), .val (Value.slice (some ⟨pb, po, none⟩) q cj), .val (Value.int .i64 k), .val (Value.pointer (some ⟨pb, po + k * 7, none⟩)), .val (vV rs rcl rsq ra1 rn1 rd1 rg ra2 rn2 rd2 ra3 rn3 rd3), .val (Value.slice (some ⟨qb, qo, none⟩) (n + m) cl), .val (Value.int .i64 jn), .val (Value.pointer (some ⟨qb, qo + jn * 7, none⟩)), .val (vV rs' rcl' rsq' ra1' rn1' rd1' rg' ra2' rn2' rd2' ra3' rn3' rd3'), .val (Value.bool b), .val (Value.bool b)] w2 12 (gb_refl _ _) (by kernel_rfl) (by kernel_rfl) (by kernel_rfl) (by kernel_rfl) (by decide) (by kernel_rfl) ?_ ?_
                  · refine ⟨Fg.vT rfl (by decide) fun ac w h => ?_, ?_⟩
                    · have e11 : ac.tmps.getD 11 undef = Value.bool false := h.rest 11 (by kernel_rfl)
                      exact ⟨_, w, wants_none rfl, Fg.run_move rfl e11, gb_refl _ _, rfl⟩
                    refine ⟨Fg.vT rfl (by decide) fun ac w h => ?_, ?_⟩
                    · have e69 : ac.tmps.getD 69 undef = Value.bool false := h.dep 69 (by kernel_rfl)
                      exact ⟨_, w, wants_none rfl, Fg.run_move rfl e69, gb_refl _ _, rfl⟩
                    refine ⟨Fg.vT rfl (by decide) fun ac w h => ?_, ?_⟩
                    · have e70 : ac.tmps.getD 70 undef = Value.bool false := h.dep 70 (by kernel_rfl)
                      have e7 : ac.tmps.getD 7 undef = Value.slice (some ⟨pb, po, none⟩) q cj := h.rest 7 (by kernel_rfl)
                      exact ⟨_, w, wants_some (d := 70) rfl rfl (by rw [h.size]; show 70 < 151; decide) e70, Fg.run_move rfl e7, gb_refl _ _, rfl⟩
                    refine ⟨Fg.vT rfl (by decide) fun ac w h => ?_, ?_⟩
                    · have e70 : ac.tmps.getD 70 undef = Value.bool false := h.dep 70 (by kernel_rfl)
                      have e10 : ac.tmps.getD 10 undef = Value.int .i64 k := h.rest 10 (by kernel_rfl)
                      exact ⟨_, w, wants_some (d := 70) rfl rfl (by rw [h.size]; show 70 < 151; decide) e70, Fg.run_move rfl e10, gb_refl _ _, rfl⟩
                    refine ⟨Fg.vT rfl (by decide) fun ac w h => ?_, ?_⟩
                    · have e70 : ac.tmps.getD 70 undef = Value.bool false := h.dep 70 (by kernel_rfl)
                      have e71 : ac.tmps.getD 71 undef = Value.slice (some ⟨pb, po, none⟩) q cj := h.dep 71 (by kernel_rfl)
                      have e72 : ac.tmps.getD 72 undef = Value.int .i64 k := h.dep 72 (by kernel_rfl)
                      have i0 : (k : Int) < (q : Int) := by omega
                      refine ⟨.pointer (some ⟨pb, po + k * 7, none⟩), w, wants_some (d := 70) rfl rfl (by rw [h.size]; show 70 < 151; decide) e70, ?_, gb_refl _ _, rfl⟩
                      clear h
                      simp only [execOp, Act.eval, e71, e72]
                      go_simp
                    refine ⟨Fg.vT rfl (by decide) fun ac w h => ?_, ?_⟩
                    · have e70 : ac.tmps.getD 70 undef = Value.bool false := h.dep 70 (by kernel_rfl)
                      have e73 : ac.tmps.getD 73 undef = Value.pointer (some ⟨pb, po + k * 7, none⟩) := h.dep 73 (by kernel_rfl)
                      have m0 : w.cell? ⟨pb, po + k * 7 , none⟩ = some (.string rs) := by rw [gb_cell h.base (block_lt_of_cell (HXY.out.1.1)) (by simp)]; exact HXY.out.1.1
                      have m1 : w.cell? ⟨pb, po + k * 7 + 1, none⟩ = some (iV rcl) := by rw [gb_cell h.base (block_lt_of_cell (HXY.out.1.2.1)) (by simp)]; exact HXY.out.1.2.1
                      have m2 : w.cell? ⟨pb, po + k * 7 + 2, none⟩ = some (iV rsq) := by rw [gb_cell h.base (block_lt_of_cell (HXY.out.1.2.2.1)) (by simp)]; exact HXY.out.1.2.2.1
                      have m3 : w.cell? ⟨pb, po + k * 7 + 3, none⟩ = some (.slice ra1 rn1 rd1) := by rw [gb_cell h.base (block_lt_of_cell (HXY.out.1.2.2.2.1)) (by simp)]; exact HXY.out.1.2.2.2.1
                      have m4 : w.cell? ⟨pb, po + k * 7 + 4, none⟩ = some (.bool rg) := by rw [gb_cell h.base (block_lt_of_cell (HXY.out.1.2.2.2.2.1)) (by simp)]; exact HXY.out.1.2.2.2.2.1
                      have m5 : w.cell? ⟨pb, po + k * 7 + 5, none⟩ = some (.slice ra2 rn2 rd2) := by rw [gb_cell h.base (block_lt_of_cell (HXY.out.1.2.2.2.2.2.1)) (by simp)]; exact HXY.out.1.2.2.2.2.2.1
                      have m6 : w.cell? ⟨pb, po + k * 7 + 6, none⟩ = some (.slice ra3 rn3 rd3) := by rw [gb_cell h.base (block_lt_of_cell (HXY.out.1.2.2.2.2.2.2)) (by simp)]; exact HXY.out.1.2.2.2.2.2.2
                      refine ⟨vV rs rcl rsq ra1 rn1 rd1 rg ra2 rn2 rd2 ra3 rn3 rd3, w, wants_some (d := 70) rfl rfl (by rw [h.size]; show 70 < 151; decide) e70, ?_, gb_refl _ _, rfl⟩
                      clear h
                      simp only [execOp, Act.eval, e73]
                      go_simp
                    refine ⟨Fg.vT rfl (by decide) fun ac w h => ?_, ?_⟩
                    · have e70 : ac.tmps.getD 70 undef = Value.bool false := h.dep 70 (by kernel_rfl)
                      have e9 : ac.tmps.getD 9 undef = Value.slice (some ⟨qb, qo, none⟩) (n + m) cl := h.rest 9 (by kernel_rfl)
                      exact ⟨_, w, wants_some (d := 70) rfl rfl (by rw [h.size]; show 70 < 151; decide) e70, Fg.run_move rfl e9, gb_refl _ _, rfl⟩
                    refine ⟨Fg.vT rfl (by decide) fun ac w h => ?_, ?_⟩
                    · have e70 : ac.tmps.getD 70 undef = Value.bool false := h.dep 70 (by kernel_rfl)
                      have e12 : ac.tmps.getD 12 undef = Value.int .i64 jn := h.rest 12 (by kernel_rfl)
                      exact ⟨_, w, wants_some (d := 70) rfl rfl (by rw [h.size]; show 70 < 151; decide) e70, Fg.run_move rfl e12, gb_refl _ _, rfl⟩
                    refine ⟨Fg.vT rfl (by decide) fun ac w h => ?_, ?_⟩
                    · have e70 : ac.tmps.getD 70 undef = Value.bool false := h.dep 70 (by kernel_rfl)
                      have e75 : ac.tmps.getD 75 undef = Value.slice (some ⟨qb, qo, none⟩) (n + m) cl := h.dep 75 (by kernel_rfl)
                      have e76 : ac.tmps.getD 76 undef = Value.int .i64 jn := h.dep 76 (by kernel_rfl)
                      have i0 : (jn : Int) < (n : Int) + (m : Int) := by omega
                      refine ⟨.pointer (some ⟨qb, qo + jn * 7, none⟩), w, wants_some (d := 70) rfl rfl (by rw [h.size]; show 70 < 151; decide) e70, ?_, gb_refl _ _, rfl⟩
                      clear h
                      simp only [execOp, Act.eval, e75, e76]
                      go_simp
                    refine ⟨Fg.vT rfl (by decide) fun ac w h => ?_, ?_⟩
                    · have e70 : ac.tmps.getD 70 undef = Value.bool false := h.dep 70 (by kernel_rfl)
                      have e77 : ac.tmps.getD 77 undef = Value.pointer (some ⟨qb, qo + jn * 7, none⟩) := h.dep 77 (by kernel_rfl)
                      have m0 : w.cell? ⟨qb, qo + jn * 7 , none⟩ = some (.string rs') := by rw [gb_cell h.base (block_lt_of_cell (HXY.out.2.1)) (by simp)]; exact HXY.out.2.1
                      have m1 : w.cell? ⟨qb, qo + jn * 7 + 1, none⟩ = some (iV rcl') := by rw [gb_cell h.base (block_lt_of_cell (HXY.out.2.2.1)) (by simp)]; exact HXY.out.2.2.1
                      have m2 : w.cell? ⟨qb, qo + jn * 7 + 2, none⟩ = some (iV rsq') := by rw [gb_cell h.base (block_lt_of_cell (HXY.out.2.2.2.1)) (by simp)]; exact HXY.out.2.2.2.1
                      have m3 : w.cell? ⟨qb, qo + jn * 7 + 3, none⟩ = some (.slice ra1' rn1' rd1') := by rw [gb_cell h.base (block_lt_of_cell (HXY.out.2.2.2.2.1)) (by simp)]; exact HXY.out.2.2.2.2.1
                      have m4 : w.cell? ⟨qb, qo + jn * 7 + 4, none⟩ = some (.bool rg') := by rw [gb_cell h.base (block_lt_of_cell (HXY.out.2.2.2.2.2.1)) (by simp)]; exact HXY.out.2.2.2.2.2.1
                      have m5 : w.cell? ⟨qb, qo + jn * 7 + 5, none⟩ = some (.slice ra2' rn2' rd2') := by rw [gb_cell h.base (block_lt_of_cell (HXY.out.2.2.2.2.2.2.1)) (by simp)]; exact HXY.out.2.2.2.2.2.2.1
                      have m6 : w.cell? ⟨qb, qo + jn * 7 + 6, none⟩ = some (.slice ra3' rn3' rd3') := by rw [gb_cell h.base (block_lt_of_cell (HXY.out.2.2.2.2.2.2.2)) (by simp)]; exact HXY.out.2.2.2.2.2.2.2
                      refine ⟨vV rs' rcl' rsq' ra1' rn1' rd1' rg' ra2' rn2' rd2' ra3' rn3' rd3', w, wants_some (d := 70) rfl rfl (by rw [h.size]; show 70 < 151; decide) e70, ?_, gb_refl _ _, rfl⟩
                      clear h
                      simp only [execOp, Act.eval, e77]
                      go_simp
                    refine ⟨Fg.cT rfl (by decide) fun ac w h => ?_, ?_⟩
                    · have e70 : ac.tmps.getD 70 undef = Value.bool false := h.dep 70 (by kernel_rfl)
                      have e74 : ac.tmps.getD 74 undef = vV rs rcl rsq ra1 rn1 rd1 rg ra2 rn2 rd2 ra3 rn3 rd3 := h.dep 74 (by kernel_rfl)
                      have e78 : ac.tmps.getD 78 undef = vV rs' rcl' rsq' ra1' rn1' rd1' rg' ra2' rn2' rd2' ra3' rn3' rd3' := h.dep 78 (by kernel_rfl)
                      refine ⟨12, #[vV rs rcl rsq ra1 rn1 rd1 rg ra2 rn2 rd2 ra3 rn3 rd3, vV rs' rcl' rsq' ra1' rn1' rd1' rg' ra2' rn2' rd2' ra3' rn3' rd3'], wants_some (d := 70) rfl rfl (by rw [h.size]; show 70 < 151; decide) e70, Fg.run_call rfl rfl (by simp only [List.map_toArray, List.map_cons, List.map_nil, Act.eval, e74, e78]) (Fg.run_enter Try.func12 (by kernel_rfl) (by kernel_rfl)), ?_⟩
                      exact (HB.out w (gb_trans HG2.out h.base)).mono fun _ _ ⟨he, hg⟩ => ⟨_, he, hg, rfl⟩
                    refine ⟨Fg.vT rfl (by decide) fun ac w h => ?_, ?_⟩
                    · have e70 : ac.tmps.getD 70 undef = Value.bool false := h.dep 70 (by kernel_rfl)
                      have e79 : ac.tmps.getD 79 undef = Value.bool b := h.dep 79 (by kernel_rfl)
                      refine ⟨Value.bool b, w, wants_none rfl, ?_, gb_refl _ _, rfl⟩
                      clear h
                      simp only [execOp, Act.eval, e70, e79]
                      go_simp
                    trivial
                  · intro aq wq hB hsz hdf hrest hslots hpt
                    obtain ⟨u63, e63⟩ : ∃ u, aq.tmps.getD 63 undef = u := ⟨_, rfl⟩
                    obtain ⟨u64, e64⟩ : ∃ u, aq.tmps.getD 64 undef = u := ⟨_, rfl⟩
                    obtain ⟨u65, e65⟩ : ∃ u, aq.tmps.getD 65 undef = u := ⟨_, rfl⟩
                    obtain ⟨u66, e66⟩ : ∃ u, aq.tmps.getD 66 undef = u := ⟨_, rfl⟩
                    obtain ⟨u67, e67⟩ : ∃ u, aq.tmps.getD 67 undef = u := ⟨_, rfl⟩
                    obtain ⟨u68, e68⟩ : ∃ u, aq.tmps.getD 68 undef = u := ⟨_, rfl⟩
                    obtain ⟨u69, e69⟩ : ∃ u, aq.tmps.getD 69 undef = u := ⟨_, rfl⟩
                    obtain ⟨u70, e70⟩ : ∃ u, aq.tmps.getD 70 undef = u := ⟨_, rfl⟩
                    obtain ⟨u71, e71⟩ : ∃ u, aq.tmps.getD 71 undef = u := ⟨_, rfl⟩
                    obtain ⟨u72, e72⟩ : ∃ u, aq.tmps.getD 72 undef = u := ⟨_, rfl⟩
                    obtain ⟨u73, e73⟩ : ∃ u, aq.tmps.getD 73 undef = u := ⟨_, rfl⟩
                    obtain ⟨u74, e74⟩ : ∃ u, aq.tmps.getD 74 undef = u := ⟨_, rfl⟩
                    obtain ⟨u75, e75⟩ : ∃ u, aq.tmps.getD 75 undef = u := ⟨_, rfl⟩
                    obtain ⟨u76, e76⟩ : ∃ u, aq.tmps.getD 76 undef = u := ⟨_, rfl⟩
                    obtain ⟨u77, e77⟩ : ∃ u, aq.tmps.getD 77 undef = u := ⟨_, rfl⟩
                    obtain ⟨u78, e78⟩ : ∃ u, aq.tmps.getD 78 undef = u := ⟨_, rfl⟩
                    obtain ⟨u79, e79⟩ : ∃ u, aq.tmps.getD 79 undef = u := ⟨_, rfl⟩
                    have e80 : aq.tmps.getD 80 undef = Value.bool b := hslots 80 (by kernel_rfl)
                    obtain rfl := Fg.frame_is (a := aq) (vs := [Value.slice a0 n cap0, Value.slice a1 m cap1, undef, undef, u4, u5, u6, Value.slice (some ⟨pb, po, none⟩) q cj, Value.int .i64 er, Value.slice (some ⟨qb, qo, none⟩) (n + m) cl, Value.int .i64 k, Value.bool false, Value.int .i64 jn, u13, Value.bool true, Value.bool false, Value.slice a0 n cap0, Value.slice a1 m cap1, Value.slice (some ⟨w1.heap.size, 0, none⟩) 2 2, Value.bool false, Value.bool false, Value.slice a0 n cap0, Value.int .i64 n, Value.slice a1 m cap1, Value.int .i64 m, Value.int .i64 ((n : Int) + m), Value.bool (decide (60 < (n : Int) + m)), Value.bool (decide (60 < (n : Int) + m)), Value.slice a0 n cap0, Value.bool sb, u30, u31, u32, u33, u34, u35, u36, u37, u38, u39, u40, u41, u42, u43, u44, Value.tuple #[.slice (some ⟨pb, po, none⟩) q cj, .int .i64 er], Value.slice a0 n cap0, Value.slice a1 m cap1, Value.slice (some ⟨wx.heap.size, 0, none⟩) 2 2, Value.tuple #[.slice (some ⟨pb, po, none⟩) q cj, .int .i64 er], Value.slice (some ⟨pb, po, none⟩) q cj, Value.int .i64 er, Value.slice (some ⟨w4.heap.size, 0, none⟩) 0 0, Value.slice a0 n cap0, Value.slice l1 A.length k1, Value.slice a1 m cap1, Value.slice (some ⟨qb, qo, none⟩) (n + m) cl, Value.int .i64 k, Value.slice (some ⟨pb, po, none⟩) q cj, Value.int .i64 q, Value.bool true, u61, u62, u63, u64, u65, u66, u67, u68, u69, u70, u71, u72, u73, u74, u75, u76, u77, u78, u79, Value.bool b, u81, u82, u83, u84, u85, u86, u87, u88, u89, u90, u91, u92, u93, u94, u95, u96, u97, u98, u99, u100, u101, u102, u103, u104, u105, u106, u107, u108, u109, u110, u111, u112, u113, u114, u115, u116, u117, u118, u119, u120, u121, u122, u123, u124, u125, u126, u127, u128, u129, u130, u131, u132, u133, u134, u135, u136, u137, u138, u139, u140, u141, u142, u143, undef, undef, undef, undef, undef, undef, undef]) hsz ⟨hrest 0 (by kernel_rfl), hrest 1 (by kernel_rfl), hrest 2 (by kernel_rfl), hrest 3 (by kernel_rfl), hrest 4 (by kernel_rfl), hrest 5 (by kernel_rfl), hrest 6 (by kernel_rfl), hrest 7 (by kernel_rfl), hrest 8 (by kernel_rfl), hrest 9 (by kernel_rfl), hrest 10 (by kernel_rfl), hrest 11 (by kernel_rfl), hrest 12 (by kernel_rfl), hrest 13 (by kernel_rfl), hrest 14 (by kernel_rfl), hrest 15 (by kernel_rfl), hrest 16 (by kernel_rfl), hrest 17 (by kernel_rfl), hrest 18 (by kernel_rfl), hrest 19 (by kernel_rfl), hrest 20 (by kernel_rfl), hrest 21 (by kernel_rfl), hrest 22 (by kernel_rfl), hrest 23 (by kernel_rfl), hrest 24 (by kernel_rfl), hrest 25 (by kernel_rfl), hrest 26 (by kernel_rfl), hrest 27 (by kernel_rfl), hrest 28 (by kernel_rfl), hrest 29 (by kernel_rfl), hrest 30 (by kernel_rfl), hrest 31 (by kernel_rfl), hrest 32 (by kernel_rfl), hrest 33 (by kernel_rfl), hrest 34 (by kernel_rfl), hrest 35 (by kernel_rfl), hrest 36 (by kernel_rfl), hrest 37 (by kernel_rfl), hrest 38 (by kernel_rfl), hrest 39 (by kernel_rfl), hrest 40 (by kernel_rfl), hrest 41 (by kernel_rfl), hrest 42 (by kernel_rfl), hrest 43 (by kernel_rfl), hrest 44 (by kernel_rfl), hrest 45 (by kernel_rfl), hrest 46 (by kernel_rfl), hrest 47 (by kernel_rfl), hrest 48 (by kernel_rfl), hrest 49 (by kernel_rfl), hrest 50 (by kernel_rfl), hrest 51 (by kernel_rfl), hrest 52 (by kernel_rfl), hrest 53 (by kernel_rfl), hrest 54 (by kernel_rfl), hrest 55 (by kernel_rfl), hrest 56 (by kernel_rfl), hrest 57 (by kernel_rfl), hrest 58 (by kernel_rfl), hrest 59 (by kernel_rfl), hrest 60 (by kernel_rfl), hrest 61 (by kernel_rfl), hrest 62 (by kernel_rfl), e63, e64, e65, e66, e67, e68, e69, e70, e71, e72, e73, e74, e75, e76, e77, e78, e79, e80, hrest 81 (by kernel_rfl), hrest 82 (by kernel_rfl), hrest 83 (by kernel_rfl), hrest 84 (by kernel_rfl), hrest 85 (by kernel_rfl), hrest 86 (by kernel_rfl), hrest 87 (by kernel_rfl), hrest 88 (by kernel_rfl), hrest 89 (by kernel_rfl), hrest 90 (by kernel_rfl), hrest 91 (by kernel_rfl), hrest 92 (by kernel_rfl), hrest 93 (by kernel_rfl), hrest 94 (by kernel_rfl), hrest 95 (by kernel_rfl), hrest 96 (by kernel_rfl), hrest 97 (by kernel_rfl), hrest 98 (by kernel_rfl), hrest 99 (by kernel_rfl), hrest 100 (by kernel_rfl), hrest 101 (by kernel_rfl), hrest 102 (by kernel_rfl), hrest 103 (by kernel_rfl), hrest 104 (by kernel_rfl), hrest 105 (by kernel_rfl), hrest 106 (by kernel_rfl), hrest 107 (by kernel_rfl), hrest 108 (by kernel_rfl), hrest 109 (by kernel_rfl), hrest 110 (by kernel_rfl), hrest 111 (by kernel_rfl), hrest 112 (by kernel_rfl), hrest 113 (by kernel_rfl), hrest 114 (by kernel_rfl), hrest 115 (by kernel_rfl), hrest 116 (by kernel_rfl), hrest 117 (by kernel_rfl), hrest 118 (by kernel_rfl), hrest 119 (by kernel_rfl), hrest 120 (by kernel_rfl), hrest 121 (by kernel_rfl), hrest 122 (by kernel_rfl), hrest 123 (by kernel_rfl), hrest 124 (by kernel_rfl), hrest 125 (by kernel_rfl), hrest 126 (by kernel_rfl), hrest 127 (by kernel_rfl), hrest 128 (by kernel_rfl), hrest 129 (by kernel_rfl), hrest 130 (by kernel_rfl), hrest 131 (by kernel_rfl), hrest 132 (by kernel_rfl), hrest 133 (by kernel_rfl), hrest 134 (by kernel_rfl), hrest 135 (by kernel_rfl), hrest 136 (by kernel_rfl), hrest 137 (by kernel_rfl), hrest 138 (by kernel_rfl), hrest 139 (by kernel_rfl), hrest 140 (by kernel_rfl), hrest 141 (by kernel_rfl), hrest 142 (by kernel_rfl), hrest 143 (by kernel_rfl), hrest 144 (by kernel_rfl), hrest 145 (by kernel_rfl), hrest 146 (by kernel_rfl), hrest 147 (by kernel_rfl), hrest 148 (by kernel_rfl), hrest 149 (by kernel_rfl), hrest 150 (by kernel_rfl), trivial⟩ hdf
                    clear hsz hdf hrest hslots hpt e63 e64 e65 e66 e67 e68 e69 e70 e71 e72 e73 e74 e75 e76 e77 e78 e79 e80
                    have HGq := Lib.hid (gb_trans HG2.out hB)
                    clear hB
                    refine Fg.wpl_value (v := .bool b) (w' := wq) rfl (Fg.run_assign rfl rfl) ?_
                    refine wpList_nil ?_
                    simp only [Act.put, List.setIfInBounds_toArray, List.set_cons_succ, List.set_cons_zero]
                    go_wp2
                    exact ⟨⟨jn + 1, b, by omega, rfl, rfl, HGq.out, HK.out rfl⟩, by show n + m - ((jn : Int) + 1).toNat < n + m - (jn : Int).toNat; omega⟩
              · obtain rfl : jn = n + m := by omega
                have hob : ob = true := by
                  cases ob with
                  | true => rfl
                  | false =>
                    have hmem : (out.getD k e0).2 ∈ recs (A ++ B) := joinO_sub (by rw [← HX.out.2.1]; exact List.mem_map.2 ⟨_, getD_mem (by rw [HX.out.1]; exact hlt), rfl⟩)
                    obtain ⟨y, hy, he⟩ := List.mem_map.1 hmem
                    obtain ⟨i, hi2, rfl⟩ := List.getElem_of_mem hy
                    have hq := HJ.out.2 rfl i (by rw [← HX.out.2.2.2.2.1]; exact hi2)
                    rw [List.getD_eq_getElem?_getD (l := A ++ B), List.getElem?_eq_getElem hi2] at hq
                    have := (sameB_iff (out.getD k e0).2 ((A ++ B)[i]).2).2 he.symm
                    rw [Option.getD_some, this] at hq; cases hq
                subst hob
                have HG2 := Lib.hid HJ.out.1
                clear HJ hjl
                have hjx : ¬ (n : Int) + (m : Int) < (n : Int) + (m : Int) := by omega
                go_upto_region 19 with fail
                go_cut [128] from 61 to 127 (fun v wz => v = .bool false ∧ wB.grownBy wz none)
                case first =>
                  by_cases hk0 : k = 0
                  · have h0 : decide ((0 : Int) < (k : Int)) = false := decide_eq_false (by omega)
                    have h0' : decide (0 < k) = false := decide_eq_false (by omega)
                    clear hk0
                    go_quiet (fail)
                    all_goals (first | (refine Met.intro ?_; dsimp only; (repeat apply Exists.intro); refine ⟨?rel, rfl⟩) | (go_wp2; go_meet) | go_meet)
                    all_goals exact ⟨rfl, gb_trans HG2.out (gb_drewN _ _)⟩
                  · obtain ⟨k', hk'⟩ : ∃ k', k' + 1 = k := ⟨k - 1, by omega⟩
                    have hri := (rises_get out).1 ((rises_iff _).2 (by rw [HX.out.2.1]; exact joinO_rise _)) k' (by rw [HX.out.1, hk']; exact hlt)
                    have hx := Cells7.stay (HCS.out k' (by rw [HX.out.1]; omega)) HG2.out
                    have hy := Cells7.stay (HCS.out k (by rw [HX.out.1]; exact hlt)) HG2.out
                    rw [hk'] at hri
                    have x1 := hx.c1
                    have x2 := hx.c2
                    have y1 := hy.c1
                    have y2 := hy.c2
                    rw [lessD_iff] at hri
                    generalize (out.getD k' e0).2.cl = z1 at x1 hri
                    generalize (out.getD k' e0).2.sq = s1 at x2 hri
                    generalize (out.getD k e0).2.cl = z2 at y1 hri
                    generalize (out.getD k e0).2.sq = s2 at y2 hri
                    clear hx hy
                    have hq63 := HX.out.2.2.2.2.2.2
                    have i0 : decide ((0 : Int) < (k : Int)) = true := decide_eq_true (by omega)
                    have i0' : decide (0 < k) = true := decide_eq_true (by omega)
                    have i1 : (k' : Int) < (q : Int) := by omega
                    have iw : IntKind.i64.wrap ((k : Int) - 1) = (k' : Int) := by rw [IntKind.wrap_i64]; omega
                    rcases hri with hz | ⟨rfl, hz⟩
                    · have h1 : decide (z2 < z1) = false := decide_eq_false (by omega)
                      have h2 : decide (z1 = z2) = false := decide_eq_false (by omega)
                      have h4 : (z1 == z2) = false := beq_eq_false_iff_ne.2 (by omega)
                      clear hz hk' hk0 hq63
                      go_quiet (fail)
                      all_goals (first | (refine Met.intro ?_; dsimp only; (repeat apply Exists.intro); refine ⟨?rel, rfl⟩) | (go_wp2; go_meet) | go_meet)
                      all_goals exact ⟨rfl, gb_trans HG2.out (gb_drewN _ _)⟩
                    · have h3 : decide (s2 ≤ s1) = false := decide_eq_false (by omega)
                      have h4 : decide (z1 < z1) = false := decide_eq_false (by omega)
                      clear hz hk' hk0 hq63
                      go_quiet (fail)
                      all_goals (first | (refine Met.intro ?_; dsimp only; (repeat apply Exists.intro); refine ⟨?rel, rfl⟩) | (go_wp2; go_meet) | go_meet)
                      all_goals exact ⟨rfl, gb_trans HG2.out (gb_drewN _ _)⟩
                case rest =>
                  rename World => wz
                  obtain ⟨rfl, hgz⟩ := hcut
                  have HG3 := Lib.hid hgz
                  clear hgz HG2
                  go_wp2_with fail
                  go_loopw [13] (fun j w3 => ∃ (jn : Nat), jn ≤ q ∧ j = .int .i64 jn ∧ Hid (wB.grownBy w3 none)) (fun j _ => q - (intOf j).toNat)
                  case atStart => exact ⟨0, by omega, rfl, HG3.out⟩
                  case round =>
                    obtain ⟨jn, hj, rfl, HJ⟩ := hrel
                    by_cases hjl : jn < q
                    · have hji : (jn : Int) < (q : Int) := by omega
                      obtain ⟨x, hxe⟩ : ∃ x, x = out.getD k e0 := ⟨_, rfl⟩
                      obtain ⟨y, hye⟩ : ∃ y, y = out.getD jn e0 := ⟨_, rfl⟩
                      have hx := Cells7.stay (HCS.out k (by rw [HX.out.1]; exact hlt)) HJ.out
                      have hy := Cells7.stay (HCS.out jn (by rw [HX.out.1]; exact hjl)) HJ.out
                      have mx := getD_mem (l := out) (i := k) (by rw [HX.out.1]; exact hlt)
                      have my := getD_mem (l := out) (i := jn) (by rw [HX.out.1]; exact hjl)
                      have hrx := HX.out.2.2.1.recs _ mx
                      have hry := HX.out.2.2.1.recs _ my
                      have hov : overB (out.getD k e0).2 (out.getD jn e0).2 = false := joinO_over (F := recs (A ++ B)) (by rw [← HX.out.2.1]; exact List.mem_map.2 ⟨_, my, rfl⟩) (by rw [← HX.out.2.1]; exact List.mem_map.2 ⟨_, mx, rfl⟩)
                      clear mx my
                      rw [← hxe] at hx hrx hov
                      rw [← hye] at hy hry hov
                      have HB := Lib.hid (fun w' (hg : wB.grownBy w' none) => rover_any x.2 y.2 wB.heap.size wB.heap.size w' _ _ (hrx.stay hg) (hry.stay hg))
                      rw [hov] at HB
                      clear hov hrx hry hxe hye
                      obtain ⟨⟨rs, ra1, rn1, rd1, ra2, rn2, rd2, ra3, rn3, rd3⟩, ⟨rkey, rcl, rsq, rcx, rg, rval, rsig⟩⟩ := x
                      obtain ⟨⟨rs', ra1', rn1', rd1', ra2', rn2', rd2', ra3', rn3', rd3'⟩, ⟨rkey', rcl', rsq', rcx', rg', rval', rsig'⟩⟩ := y
                      have HXY := Lib.hid (And.intro (cells_of hx) (cells_of hy)); clear hx hy
                      replace HB : Hid (∀ w', wB.grownBy w' none → Calls Try.prog 11 #[vV rs rcl rsq ra1 rn1 rd1 rg ra2 rn2 rd2 ra3 rn3 rd3, vV rs' rcl' rsq' ra1' rn1' rd1' rg' ra2' rn2' rd2' ra3' rn3' rd3'] w' fun e w'' => e = .returned (.bool false) ∧ w'.grownBy w'' none) := HB
                      obtain ⟨w2, hw2⟩ : ∃ w2, w2 = wr := ⟨_, rfl⟩
                      have HG2 := Lib.hid HJ.out
                      rw [← hw2] at HXY HG2
                      go_wp2_with fail
                      rw [← hw2]
                      clear hw2 hji HJ
                      refine Fg.region_t [] [.any, .any, .any, .any, .any, .any, .any, .any, .any, .any, .any, .any, .any, .any, .any, .any, .any, .any, .any, .any, .any, .any, .any, .any, .any, .any, .any, .any, .any, .any, .any, .any, .any, .any, .any, .any, .any, .any, .any, .any, .any, .any, .any, .any, .any, .any, .any, .any, .any, .any, .any, .any, .any, .any, .any, .any, .any, .any, .any, .any, .any, .any, .any, .any, .any, .any, .any, .any, .any, .any, .any, .any, .any, .any, .any, .any, .any, .any, .any, .any, .any, .any, .any, .any, .any, .any, .any, .any, .any, .any, .any, .any, .any, .any, .any, .any, .any, .any, .any, .any, .any, .any, .any, .any, .any, .any, .any, .any, .any, .any, .any, .any, .any, .any, .any, .any, .any, .any, .any, .any, .any, .any, .any, .any, .any, .any, .any, .any, .any, .any, .any, .any, .any, .any, .any, .val (Value.slice (some ⟨pb, po, none⟩) q cj), .val (Value.int .i64 k), .val (Value.pointer (some ⟨pb, po + k * 7, none⟩)), .val (vV rs rcl rsq ra1 rn1 rd1 rg ra2 rn2 rd2 ra3 rn3 rd3), .val (Value.slice (some ⟨pb, po, none⟩) q cj), .val (Value.int .i64 jn), .val (Value.pointer (some ⟨pb, po + jn * 7, none⟩)), .val (vV rs' rcl' rsq' ra1' rn1' rd1' rg' ra2' rn2' rd2' ra3' rn3' rd3'), .val (Value.bool false)] w2 9 (gb_refl _ _) (by kernel_rfl) (by kernel_rfl) (by kernel_rfl) (by kernel_rfl) (by decide) (by kernel_rfl) ?_ ?_
                      · refine ⟨Fg.vT rfl (by decide) fun ac w h => ?_, ?_⟩
                        · have e7 : ac.tmps.getD 7 undef = Value.slice (some ⟨pb, po, none⟩) q cj := h.rest 7 (by kernel_rfl)
                          exact ⟨_, w, wants_none rfl, Fg.run_move rfl e7, gb_refl _ _, rfl⟩
                        refine ⟨Fg.vT rfl (by decide) fun ac w h => ?_, ?_⟩
                        · have e10 : ac.tmps.getD 10 undef = Value.int .i64 k := h.rest 10 (by kernel_rfl)
                          exact ⟨_, w, wants_none rfl, Fg.run_move rfl e10, gb_refl _ _, rfl⟩
                        refine ⟨Fg.vT rfl (by decide) fun ac w h => ?_, ?_⟩
                        · have e135 : ac.tmps.getD 135 undef = Value.slice (some ⟨pb, po, none⟩) q cj := h.dep 135 (by kernel_rfl)
                          have e136 : ac.tmps.getD 136 undef = Value.int .i64 k := h.dep 136 (by kernel_rfl)
                          have i0 : (k : Int) < (q : Int) := by omega
                          refine ⟨.pointer (some ⟨pb, po + k * 7, none⟩), w, wants_none rfl, ?_, gb_refl _ _, rfl⟩
                          clear h
                          simp only [execOp, Act.eval, e135, e136]
                          go_simp
                        refine ⟨Fg.vT rfl (by decide) fun ac w h => ?_, ?_⟩
                        · have e137 : ac.tmps.getD 137 undef = Value.pointer (some ⟨pb, po + k * 7, none⟩) := h.dep 137 (by kernel_rfl)
                          have m0 : w.cell? ⟨pb, po + k * 7 , none⟩ = some (.string rs) := by rw [gb_cell h.base (block_lt_of_cell (HXY.out.1.1)) (by simp)]; exact HXY.out.1.1
                          have m1 : w.cell? ⟨pb, po + k * 7 + 1, none⟩ = some (iV rcl) := by rw [gb_cell h.base (block_lt_of_cell (HXY.out.1.2.1)) (by simp)]; exact HXY.out.1.2.1
                          have m2 : w.cell? ⟨pb, po + k * 7 + 2, none⟩ = some (iV rsq) := by rw [gb_cell h.base (block_lt_of_cell (HXY.out.1.2.2.1)) (by simp)]; exact HXY.out.1.2.2.1
                          have m3 : w.cell? ⟨pb, po + k * 7 + 3, none⟩ = some (.slice ra1 rn1 rd1) := by rw [gb_cell h.base (block_lt_of_cell (HXY.out.1.2.2.2.1)) (by simp)]; exact HXY.out.1.2.2.2.1
                          have m4 : w.cell? ⟨pb, po + k * 7 + 4, none⟩ = some (.bool rg) := by rw [gb_cell h.base (block_lt_of_cell (HXY.out.1.2.2.2.2.1)) (by simp)]; exact HXY.out.1.2.2.2.2.1
                          have m5 : w.cell? ⟨pb, po + k * 7 + 5, none⟩ = some (.slice ra2 rn2 rd2) := by rw [gb_cell h.base (block_lt_of_cell (HXY.out.1.2.2.2.2.2.1)) (by simp)]; exact HXY.out.1.2.2.2.2.2.1
                          have m6 : w.cell? ⟨pb, po + k * 7 + 6, none⟩ = some (.slice ra3 rn3 rd3) := by rw [gb_cell h.base (block_lt_of_cell (HXY.out.1.2.2.2.2.2.2)) (by simp)]; exact HXY.out.1.2.2.2.2.2.2
                          refine ⟨vV rs rcl rsq ra1 rn1 rd1 rg ra2 rn2 rd2 ra3 rn3 rd3, w, wants_none rfl, ?_, gb_refl _ _, rfl⟩
                          clear h
                          simp only [execOp, Act.eval, e137]
                          go_simp
                        refine ⟨Fg.vT rfl (by decide) fun ac w h => ?_, ?_⟩
                        · have e7 : ac.tmps.getD 7 undef = Value.slice (some ⟨pb, po, none⟩) q cj := h.rest 7 (by kernel_rfl)
                          exact ⟨_, w, wants_none rfl, Fg.run_move rfl e7, gb_refl _ _, rfl⟩
                        refine ⟨Fg.vT rfl (by decide) fun ac w h => ?_, ?_⟩
                        · have e13 : ac.tmps.getD 13 undef = Value.int .i64 jn := h.rest 13 (by kernel_rfl)
                          exact ⟨_, w, wants_none rfl, Fg.run_move rfl e13, gb_refl _ _, rfl⟩
                        refine ⟨Fg.vT rfl (by decide) fun ac w h => ?_, ?_⟩
                        · have e139 : ac.tmps.getD 139 undef = Value.slice (some ⟨pb, po, none⟩) q cj := h.dep 139 (by kernel_rfl)
                          have e140 : ac.tmps.getD 140 undef = Value.int .i64 jn := h.dep 140 (by kernel_rfl)
                          have i0 : (jn : Int) < (q : Int) := by omega
                          refine ⟨.pointer (some ⟨pb, po + jn * 7, none⟩), w, wants_none rfl, ?_, gb_refl _ _, rfl⟩
                          clear h
                          simp only [execOp, Act.eval, e139, e140]
                          go_simp
                        refine ⟨Fg.vT rfl (by decide) fun ac w h => ?_, ?_⟩
                        · have e141 : ac.tmps.getD 141 undef = Value.pointer (some ⟨pb, po + jn * 7, none⟩) := h.dep 141 (by kernel_rfl)
                          have m0 : w.cell? ⟨pb, po + jn * 7 , none⟩ = some (.string rs') := by rw [gb_cell h.base (block_lt_of_cell (HXY.out.2.1)) (by simp)]; exact HXY.out.2.1
                          have m1 : w.cell? ⟨pb, po + jn * 7 + 1, none⟩ = some (iV rcl') := by rw [gb_cell h.base (block_lt_of_cell (HXY.out.2.2.1)) (by simp)]; exact HXY.out.2.2.1
                          have m2 : w.cell? ⟨pb, po + jn * 7 + 2, none⟩ = some (iV rsq') := by rw [gb_cell h.base (block_lt_of_cell (HXY.out.2.2.2.1)) (by simp)]; exact HXY.out.2.2.2.1
                          have m3 : w.cell? ⟨pb, po + jn * 7 + 3, none⟩ = some (.slice ra1' rn1' rd1') := by rw [gb_cell h.base (block_lt_of_cell (HXY.out.2.2.2.2.1)) (by simp)]; exact HXY.out.2.2.2.2.1
                          have m4 : w.cell? ⟨pb, po + jn * 7 + 4, none⟩ = some (.bool rg') := by rw [gb_cell h.base (block_lt_of_cell (HXY.out.2.2.2.2.2.1)) (by simp)]; exact HXY.out.2.2.2.2.2.1
                          have m5 : w.cell? ⟨pb, po + jn * 7 + 5, none⟩ = some (.slice ra2' rn2' rd2') := by rw [gb_cell h.base (block_lt_of_cell (HXY.out.2.2.2.2.2.2.1)) (by simp)]; exact HXY.out.2.2.2.2.2.2.1
                          have m6 : w.cell? ⟨pb, po + jn * 7 + 6, none⟩ = some (.slice ra3' rn3' rd3') := by rw [gb_cell h.base (block_lt_of_cell (HXY.out.2.2.2.2.2.2.2)) (by simp)]; exact HXY.out.2.2.2.2.2.2.2
                          refine ⟨vV rs' rcl' rsq' ra1' rn1' rd1' rg' ra2' rn2' rd2' ra3' rn3' rd3', w, wants_none rfl, ?_, gb_refl _ _, rfl⟩
                          clear h
                          simp only [execOp, Act.eval, e141]
                          go_simp
                        refine ⟨Fg.cT rfl (by decide) fun ac w h => ?_, ?_⟩
                        · have e138 : ac.tmps.getD 138 undef = vV rs rcl rsq ra1 rn1 rd1 rg ra2 rn2 rd2 ra3 rn3 rd3 := h.dep 138 (by kernel_rfl)
                          have e142 : ac.tmps.getD 142 undef = vV rs' rcl' rsq' ra1' rn1' rd1' rg' ra2' rn2' rd2' ra3' rn3' rd3' := h.dep 142 (by kernel_rfl)
                          refine ⟨11, #[vV rs rcl rsq ra1 rn1 rd1 rg ra2 rn2 rd2 ra3 rn3 rd3, vV rs' rcl' rsq' ra1' rn1' rd1' rg' ra2' rn2' rd2' ra3' rn3' rd3'], wants_none rfl, Fg.run_call rfl rfl (by simp only [List.map_toArray, List.map_cons, List.map_nil, Act.eval, e138, e142]) (Fg.run_enter Try.func11 (by kernel_rfl) (by kernel_rfl)), ?_⟩
                          exact (HB.out w (gb_trans HG2.out h.base)).mono fun _ _ ⟨he, hg⟩ => ⟨_, he, hg, rfl⟩
                        trivial
                      · intro aq wq hB hsz hdf hrest hslots hpt
                        obtain ⟨u129, e129⟩ : ∃ u, aq.tmps.getD 129 undef = u := ⟨_, rfl⟩
                        obtain ⟨u130, e130⟩ : ∃ u, aq.tmps.getD 130 undef = u := ⟨_, rfl⟩
                        obtain ⟨u131, e131⟩ : ∃ u, aq.tmps.getD 131 undef = u := ⟨_, rfl⟩
                        obtain ⟨u132, e132⟩ : ∃ u, aq.tmps.getD 132 undef = u := ⟨_, rfl⟩
                        obtain ⟨u133, e133⟩ : ∃ u, aq.tmps.getD 133 undef = u := ⟨_, rfl⟩
                        obtain ⟨u134, e134⟩ : ∃ u, aq.tmps.getD 134 undef = u := ⟨_, rfl⟩
                        obtain ⟨u135, e135⟩ : ∃ u, aq.tmps.getD 135 undef = u := ⟨_, rfl⟩
                        obtain ⟨u136, e136⟩ : ∃ u, aq.tmps.getD 136 undef = u := ⟨_, rfl⟩
                        obtain ⟨u137, e137⟩ : ∃ u, aq.tmps.getD 137 undef = u := ⟨_, rfl⟩
                        obtain ⟨u138, e138⟩ : ∃ u, aq.tmps.getD 138 undef = u := ⟨_, rfl⟩
                        obtain ⟨u139, e139⟩ : ∃ u, aq.tmps.getD 139 undef = u := ⟨_, rfl⟩
                        obtain ⟨u140, e140⟩ : ∃ u, aq.tmps.getD 140 undef = u := ⟨_, rfl⟩
                        obtain ⟨u141, e141⟩ : ∃ u, aq.tmps.getD 141 undef = u := ⟨_, rfl⟩
                        obtain ⟨u142, e142⟩ : ∃ u, aq.tmps.getD 142 undef = u := ⟨_, rfl⟩
                        have e143 : aq.tmps.getD 143 undef = Value.bool false := hslots 143 (by kernel_rfl)
                        obtain rfl := Fg.frame_is (a := aq) (vs := [Value.slice a0 n cap0, Value.slice a1 m cap1, undef, undef, u4, u5, u6, Value.slice (some ⟨pb, po, none⟩) q cj, Value.int .i64 er, Value.slice al (n + m) cl, Value.int .i64 k, Value.bool true, Value.int .i64 ((n : Int) + m), Value.int .i64 jn, Value.bool true, Value.bool false, Value.slice a0 n cap0, Value.slice a1 m cap1, Value.slice (some ⟨w1.heap.size, 0, none⟩) 2 2, Value.bool false, Value.bool false, Value.slice a0 n cap0, Value.int .i64 n, Value.slice a1 m cap1, Value.int .i64 m, Value.int .i64 ((n : Int) + m), Value.bool (decide (60 < (n : Int) + m)), Value.bool (decide (60 < (n : Int) + m)), Value.slice a0 n cap0, Value.bool sb, u30, u31, u32, u33, u34, u35, u36, u37, u38, u39, u40, u41, u42, u43, u44, Value.tuple #[.slice (some ⟨pb, po, none⟩) q cj, .int .i64 er], Value.slice a0 n cap0, Value.slice a1 m cap1, Value.slice (some ⟨wx.heap.size, 0, none⟩) 2 2, Value.tuple #[.slice (some ⟨pb, po, none⟩) q cj, .int .i64 er], Value.slice (some ⟨pb, po, none⟩) q cj, Value.int .i64 er, Value.slice (some ⟨w4.heap.size, 0, none⟩) 0 0, Value.slice a0 n cap0, Value.slice l1 A.length k1, Value.slice a1 m cap1, Value.slice al (n + m) cl, Value.int .i64 k, Value.slice (some ⟨pb, po, none⟩) q cj, Value.int .i64 q, Value.bool true, u61, u62, u63, u64, u65, u66, u67, u68, u69, u70, u71, u72, u73, u74, u75, u76, u77, u78, u79, u80, u81, u82, u83, u84, u85, u86, u87, u88, u89, u90, u91, u92, u93, u94, u95, u96, u97, u98, u99, u100, u101, u102, u103, u104, u105, u106, u107, u108, u109, u110, u111, u112, u113, u114, u115, u116, u117, u118, u119, u120, u121, u122, u123, u124, u125, u126, u127, Value.bool false, u129, u130, u131, u132, u133, u134, u135, u136, u137, u138, u139, u140, u141, u142, Value.bool false, undef, undef, undef, undef, undef, undef, undef]) hsz ⟨hrest 0 (by kernel_rfl), hrest 1 (by kernel_rfl), hrest 2 (by kernel_rfl), hrest 3 (by kernel_rfl), hrest 4 (by kernel_rfl), hrest 5 (by kernel_rfl), hrest 6 (by kernel_rfl), hrest 7 (by kernel_rfl), hrest 8 (by kernel_rfl), hrest 9 (by kernel_rfl), hrest 10 (by kernel_rfl), hrest 11 (by kernel_rfl), hrest 12 (by kernel_rfl), hrest 13 (by kernel_rfl), hrest 14 (by kernel_rfl), hrest 15 (by kernel_rfl), hrest 16 (by kernel_rfl), hrest 17 (by kernel_rfl), hrest 18 (by kernel_rfl), hrest 19 (by kernel_rfl), hrest 20 (by kernel_rfl), hrest 21 (by kernel_rfl), hrest 22 (by kernel_rfl), hrest 23 (by kernel_rfl), hrest 24 (by kernel_rfl), hrest 25 (by kernel_rfl), hrest 26 (by kernel_rfl), hrest 27 (by kernel_rfl), hrest 28 (by kernel_rfl), hrest 29 (by kernel_rfl), hrest 30 (by kernel_rfl), hrest 31 (by kernel_rfl), hrest 32 (by kernel_rfl), hrest 33 (by kernel_rfl), hrest 34 (by kernel_rfl), hrest 35 (by kernel_rfl), hrest 36 (by kernel_rfl), hrest 37 (by kernel_rfl), hrest 38 (by kernel_rfl), hrest 39 (by kernel_rfl), hrest 40 (by kernel_rfl), hrest 41 (by kernel_rfl), hrest 42 (by kernel_rfl), hrest 43 (by kernel_rfl), hrest 44 (by kernel_rfl), hrest 45 (by kernel_rfl), hrest 46 (by kernel_rfl), hrest 47 (by kernel_rfl), hrest 48 (by kernel_rfl), hrest 49 (by kernel_rfl), hrest 50 (by kernel_rfl), hrest 51 (by kernel_rfl), hrest 52 (by kernel_rfl), hrest 53 (by kernel_rfl), hrest 54 (by kernel_rfl), hrest 55 (by kernel_rfl), hrest 56 (by kernel_rfl), hrest 57 (by kernel_rfl), hrest 58 (by kernel_rfl), hrest 59 (by kernel_rfl), hrest 60 (by kernel_rfl), hrest 61 (by kernel_rfl), hrest 62 (by kernel_rfl), hrest 63 (by kernel_rfl), hrest 64 (by kernel_rfl), hrest 65 (by kernel_rfl), hrest 66 (by kernel_rfl), hrest 67 (by kernel_rfl), hrest 68 (by kernel_rfl), hrest 69 (by kernel_rfl), hrest 70 (by kernel_rfl), hrest 71 (by kernel_rfl), hrest 72 (by kernel_rfl), hrest 73 (by kernel_rfl), hrest 74 (by kernel_rfl), hrest 75 (by kernel_rfl), hrest 76 (by kernel_rfl), hrest 77 (by kernel_rfl), hrest 78 (by kernel_rfl), hrest 79 (by kernel_rfl), hrest 80 (by kernel_rfl), hrest 81 (by kernel_rfl), hrest 82 (by kernel_rfl), hrest 83 (by kernel_rfl), hrest 84 (by kernel_rfl), hrest 85 (by kernel_rfl), hrest 86 (by kernel_rfl), hrest 87 (by kernel_rfl), hrest 88 (by kernel_rfl), hrest 89 (by kernel_rfl), hrest 90 (by kernel_rfl), hrest 91 (by kernel_rfl), hrest 92 (by kernel_rfl), hrest 93 (by kernel_rfl), hrest 94 (by kernel_rfl), hrest 95 (by kernel_rfl), hrest 96 (by kernel_rfl), hrest 97 (by kernel_rfl), hrest 98 (by kernel_rfl), hrest 99 (by kernel_rfl), hrest 100 (by kernel_rfl), hrest 101 (by kernel_rfl), hrest 102 (by kernel_rfl), hrest 103 (by kernel_rfl), hrest 104 (by kernel_rfl), hrest 105 (by kernel_rfl), hrest 106 (by kernel_rfl), hrest 107 (by kernel_rfl), hrest 108 (by kernel_rfl), hrest 109 (by kernel_rfl), hrest 110 (by kernel_rfl), hrest 111 (by kernel_rfl), hrest 112 (by kernel_rfl), hrest 113 (by kernel_rfl), hrest 114 (by kernel_rfl), hrest 115 (by kernel_rfl), hrest 116 (by kernel_rfl), hrest 117 (by kernel_rfl), hrest 118 (by kernel_rfl), hrest 119 (by kernel_rfl), hrest 120 (by kernel_rfl), hrest 121 (by kernel_rfl), hrest 122 (by kernel_rfl), hrest 123 (by kernel_rfl), hrest 124 (by kernel_rfl), hrest 125 (by kernel_rfl), hrest 126 (by kernel_rfl), hrest 127 (by kernel_rfl), hrest 128 (by kernel_rfl), e129, e130, e131, e132, e133, e134, e135, e136, e137, e138, e139, e140, e141, e142, e143, hrest 144 (by kernel_rfl), hrest 145 (by kernel_rfl), hrest 146 (by kernel_rfl), hrest 147 (by kernel_rfl), hrest 148 (by kernel_rfl), hrest 149 (by kernel_rfl), hrest 150 (by kernel_rfl), trivial⟩ hdf
                        clear hsz hdf hrest hslots hpt e129 e130 e131 e132 e133 e134 e135 e136 e137 e138 e139 e140 e141 e142 e143
                        have HGq := Lib.hid (gb_trans HG2.out hB)
                        clear hB
                        refine wpList_nil ?_
                        go_wp2
                        exact ⟨⟨jn + 1, by omega, rfl, HGq.out⟩, by show q - ((jn : Int) + 1).toNat < q - (jn : Int).toNat; omega⟩
                    · obtain rfl : jn = q := by omega
                      clear hjl
                      go_wp2
                      exact ⟨⟨k + 1, by omega, rfl, HJ.out⟩, by show jn - ((k : Int) + 1).toNat < jn - (k : Int).toNat; omega⟩
          · have hkq : ¬ (k : Int) < (q : Int) := by omega
            have HE := Lib.hid (HQ.out wr (gb_trans HG2.out (gb_trans HGB.out HI.out)))
            cases hal : alikeB (recs (A ++ B)) with
            | true =>
              obtain rfl : er = 0 := by rw [HX.out.2.2.2.2.2.1, hal]; rfl
              clear hal hlt
              go_wp2
              exact HE.out
            | false =>
              have hq0 : q = 0 := by
                rw [← HX.out.1, ← recs_len, HX.out.2.1]
                unfold joinO
                rw [hal]; rfl
              obtain rfl : er = 4 := by rw [HX.out.2.2.2.2.2.1, hal]; rfl
              subst hq0
              obtain rfl : k = 0 := by omega
              clear hal hlt
              go_wp2
              exact HE.out
end Sb
end Go.Proofs.Ytlkiancedgaicaa
