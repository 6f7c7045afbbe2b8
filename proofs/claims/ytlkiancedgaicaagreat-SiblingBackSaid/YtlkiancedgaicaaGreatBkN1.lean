/- texts merged, part 1: XSbFromM XPick XWiPick XWiCopy XSbBack -/
import Derived.Test.YtlkiancedgaicaaGreatBkB4
import Derived.Test.YtlkiancedgaicaaGreatBkB3
import Derived.Test.YtlkiancedgaicaaGreatBkB2
import Derived.Test.YtlkiancedgaicaaGreatBkB1
import Derived.Deep.Cut
import Derived.Deep.CutRange
/- What is few enough; what is joined: the mathematics of the law on Join. -/
namespace Go.Proofs.YtlkiancedgaicaaGreat
open Go.RowKit Ow Wi Ve Rc
namespace Sb
/-- a record that is small enough -/
def Small (x : E) : Prop := x.1.n1 ≤ 1000000 ∧ x.1.n2 ≤ 1000000 ∧ x.1.n3 ≤ 1000000
theorem cnt_small {x : E} (h : cntE x ≤ 2500) : Small x := by unfold cntE at h; unfold Small; omega
theorem le_sum_mem : ∀ {l : List Nat} {a : Nat}, a ∈ l → a ≤ l.sum
  | b :: l, a, h => by
    rw [List.sum_cons]
    rcases List.mem_cons.1 h with rfl | h
    · omega
    · have := le_sum_mem h; omega
  | [], _, h => by cases h
theorem sum_mem {l : List E} {x : E} (h : x ∈ l) : cntE x ≤ sumC l := by
  unfold sumC
  exact le_sum_mem (List.mem_map.2 ⟨x, h, rfl⟩)
theorem sum_len (l : List E) : l.length ≤ sumC l := by
  induction l with
  | nil => exact Nat.le_refl _
  | cons x l ih =>
    have : sumC (x :: l) = cntE x + sumC l := by simp [sumC]
    rw [this, List.length_cons]
    have : 1 ≤ cntE x := by unfold cntE; omega
    omega
theorem sumS_mem {S : List (List E)} {l : List E} (h : l ∈ S) : sumC l ≤ (S.map sumC).sum := le_sum_mem (List.mem_map.2 ⟨l, h, rfl⟩)
/-- few: no set is great -/
def Few (S : List (List E)) : Prop := ∀ l ∈ S, l.length ≤ 2500 ∧ ∀ x ∈ l, Small x
theorem few_of {S : List (List E)} {m : Nat} (h : m + (S.map sumC).sum ≤ 2500) : Few S := fun l hl => by
  have h1 := sumS_mem hl
  exact ⟨by have := sum_len l; omega, fun x hx => cnt_small (by have := sum_mem hx; omega)⟩
/-- what lies in a row has the length that its parts have -/
theorem small_at {w : World} {B : Nat} {x : E} (h : RAt w B x.1 x.2) (hs : x.2.cx.length ≤ 1000000 ∧ x.2.val.length ≤ 1000000 ∧ x.2.sig.length ≤ 1000000) : Small x := by
  unfold Small
  rw [← h.l1, ← h.l2, ← h.l3]; exact hs
theorem at_small {w : World} {B : Nat} {x : E} (h : RAt w B x.1 x.2) (hs : Small x) : x.2.cx.length ≤ 1000000 ∧ x.2.val.length ≤ 1000000 ∧ x.2.sig.length ≤ 1000000 := by
  rw [h.l1, h.l2, h.l3]; exact hs
theorem joinO_sub {F : List R} {x : R} (h : x ∈ joinO F) : x ∈ F := by
  unfold joinO at h
  split at h
  · exact join_sub h
  · cases h
theorem joinO_rise (F : List R) : (joinO F).Pairwise (fun a b => lessD a b = true) := by
  unfold joinO
  split
  · exact join_rise F
  · exact List.Pairwise.nil
theorem joinO_over {F : List R} {x a : R} (hx : x ∈ joinO F) (ha : a ∈ joinO F) : overB a x = false := by
  unfold joinO at hx ha
  split at hx
  · rename_i h
    rw [if_pos h] at ha
    unfold overB
    rw [join_free hx ha]; simp
  · cases hx
theorem joinO_self {l m : List R} (h : setB l = true) (hm : ∀ x, x ∈ m ↔ x ∈ l) : alikeB m = true ∧ joinO m = l := by
  have ha := (set_of h).1
  have hm2 : alikeB m = true := by
    rw [alike_iff]
    intro r hr
    have hk : keyL m = keyL l := by
      cases m with
      | nil => cases hr
      | cons y m =>
        show y.key = _
        exact ((alike_iff l).1 ha y ((hm y).1 (by simp))).2
    rw [hk]
    exact (alike_iff l).1 ha r ((hm r).1 hr)
  exact ⟨hm2, by unfold joinO; rw [if_pos hm2]; exact join_self h hm⟩
/-- great of sets that have just been laid -/
theorem great_lits (w : World) (T : TypeId) (q : List (Option Addr × Nat × List E)) (m : Nat) (hm : q.length = m) (hm2 : m ≤ 1000000) (hq : ∀ x ∈ q, RRow w w.heap.size x.1 x.2.2 ∧ (x.1 = none → x.2.1 = 0)) (hl : ∀ x ∈ q, x.2.2.length < 9223372036854775808 ∧ ∀ y ∈ x.2.2, Fits y) :
    Calls Tryz.prog 34 #[.slice (some ⟨w.heap.size, 0, none⟩) m m] (w.alloc (.cells (q.map fun q => Value.slice q.1 q.2.2.length q.2.1).toArray T)) (fun e w' => ∃ b : Bool, e = .returned (.bool b) ∧ (b = false → Few (q.map (·.2.2))) ∧ w.grownBy w' none) :=
  (great_any m m (w.heap.size + 1) (q.map (·.2.2)) (some ⟨w.heap.size, 0, none⟩) _ (by simpa using hm) (srow_new w w.heap.size T q (Nat.le_refl _) hq) (by omega) (fun p hp => by
      obtain ⟨x, hx, rfl⟩ := List.mem_map.1 hp
      exact (hl x hx).1) (fun x hx => by
      obtain ⟨p, hp, hxp⟩ := List.mem_flatten.1 hx
      obtain ⟨y, hy, rfl⟩ := List.mem_map.1 hp
      exact (hl y hy).2 x hxp)).mono fun e w' ⟨b, he, hb, hg⟩ => ⟨b, he, fun h => few_of (hb h), gb_trans (gb_alloc (gb_refl _ _) _) hg⟩
theorem join2 (w : World) (a0 : Option Addr) (n0 c0 : Nat) (l0 : List E) (a1 : Option Addr) (n1 c1 : Nat) (l1 : List E) (h0 : l0.length = n0 ∧ n0 ≤ 100000 ∧ RRow w w.heap.size a0 l0 ∧ (a0 = none → c0 = 0) ∧ ∀ x ∈ l0, Small x) (h1 : l1.length = n1 ∧ n1 ≤ 100000 ∧ RRow w w.heap.size a1 l1 ∧ (a1 = none → c1 = 0) ∧ ∀ x ∈ l1, Small x) :
    Calls Tryz.prog 37 #[.slice (some ⟨w.heap.size, 0, none⟩) 2 2] (w.alloc (.cells #[.slice a0 n0 c0, .slice a1 n1 c1] 48)) (JoinRow w (recs (l0 ++ l1))) := by
  have hF : (([(a0, c0, l0), (a1, c1, l1)] : List (Option Addr × Nat × List E)).map (·.2.2)).flatten = (l0 ++ l1) := by simp
  have h := join_lits w 48 [(a0, c0, l0), (a1, c1, l1)] 2 rfl (by decide) (by
    intro x hx; simp only [List.mem_cons, List.not_mem_nil, or_false] at hx
    rcases hx with rfl | rfl
    · exact ⟨h0.2.2.1, h0.2.2.2.1⟩
    · exact ⟨h1.2.2.1, h1.2.2.2.1⟩) (by
    rw [hF]; simp only [List.length_append]; rw [h0.1, h1.1]
    have q0 := h0.2.1; have q1 := h1.2.1; omega) (by
    rw [hF]; intro x hx; simp only [List.mem_append] at hx
    rcases hx with hx | hx
    · exact h0.2.2.2.2 x hx
    · exact h1.2.2.2.2 x hx)
  rw [hF, show ([(a0, c0, l0), (a1, c1, l1)] : List (Option Addr × Nat × List E)).map (fun q => Value.slice q.1 q.2.2.length q.2.1) = [.slice a0 n0 c0, .slice a1 n1 c1] from by simp only [List.map_cons, List.map_nil]; rw [h0.1, h1.1]] at h
  exact h
theorem join3 (w : World) (a0 : Option Addr) (n0 c0 : Nat) (l0 : List E) (a1 : Option Addr) (n1 c1 : Nat) (l1 : List E) (a2 : Option Addr) (n2 c2 : Nat) (l2 : List E) (h0 : l0.length = n0 ∧ n0 ≤ 100000 ∧ RRow w w.heap.size a0 l0 ∧ (a0 = none → c0 = 0) ∧ ∀ x ∈ l0, Small x) (h1 : l1.length = n1 ∧ n1 ≤ 100000 ∧ RRow w w.heap.size a1 l1 ∧ (a1 = none → c1 = 0) ∧ ∀ x ∈ l1, Small x) (h2 : l2.length = n2 ∧ n2 ≤ 100000 ∧ RRow w w.heap.size a2 l2 ∧ (a2 = none → c2 = 0) ∧ ∀ x ∈ l2, Small x) :
    Calls Tryz.prog 37 #[.slice (some ⟨w.heap.size, 0, none⟩) 3 3] (w.alloc (.cells #[.slice a0 n0 c0, .slice a1 n1 c1, .slice a2 n2 c2] 48)) (JoinRow w (recs (l0 ++ l1 ++ l2))) := by
  have hF : (([(a0, c0, l0), (a1, c1, l1), (a2, c2, l2)] : List (Option Addr × Nat × List E)).map (·.2.2)).flatten = (l0 ++ l1 ++ l2) := by simp
  have h := join_lits w 48 [(a0, c0, l0), (a1, c1, l1), (a2, c2, l2)] 3 rfl (by decide) (by
    intro x hx; simp only [List.mem_cons, List.not_mem_nil, or_false] at hx
    rcases hx with rfl | rfl | rfl
    · exact ⟨h0.2.2.1, h0.2.2.2.1⟩
    · exact ⟨h1.2.2.1, h1.2.2.2.1⟩
    · exact ⟨h2.2.2.1, h2.2.2.2.1⟩) (by
    rw [hF]; simp only [List.length_append]; rw [h0.1, h1.1, h2.1]
    have q0 := h0.2.1; have q1 := h1.2.1; have q2 := h2.2.1; omega) (by
    rw [hF]; intro x hx; simp only [List.mem_append] at hx
    rcases hx with (hx | hx) | hx
    · exact h0.2.2.2.2 x hx
    · exact h1.2.2.2.2 x hx
    · exact h2.2.2.2.2 x hx)
  rw [hF, show ([(a0, c0, l0), (a1, c1, l1), (a2, c2, l2)] : List (Option Addr × Nat × List E)).map (fun q => Value.slice q.1 q.2.2.length q.2.1) = [.slice a0 n0 c0, .slice a1 n1 c1, .slice a2 n2 c2] from by simp only [List.map_cons, List.map_nil]; rw [h0.1, h1.1, h2.1]] at h
  exact h
/-- the records laid one row behind the other, as 'append(append([]api.Record{}, a...), b...)' lays them -/
theorem own_none (w : World) : ∀ c : Nat, c = 0 → OwnR (w.alloc (.cells #[] 66)) w.heap.size (.slice (some ⟨w.heap.size, 0, none⟩) 0 c) [] := fun c hc => by
  subst hc
  exact World.ownsRow_made w #[] _ (Nat.le_refl _) (by decide) rfl
end Sb
end Go.Proofs.YtlkiancedgaicaaGreat

/- The kit's Pick. -/
namespace Go.Proofs.YtlkiancedgaicaaGreat
open Go.RowKit Ow

/-- what Pick answers: a number below n; the world stays -/
def SomeBelow (n : Int) (w : World) (e : Ending) (w' : World) : Prop := ∃ r : Nat, (r : Int) < n ∧ e = .returned (.int .i64 (r : Int)) ∧ w = w'
set_option maxHeartbeats 400000 in
theorem pick_any (x n : Int) (w : World) (hn : 1 ≤ n) (hn2 : n ≤ 4000) (hx1 : -9223372036854775808 ≤ x) (hx2 : x ≤ 9223372036854775807) :
    Calls Tryz.prog 51 #[.int .i64 x, .int .i64 n] w (SomeBelow n w) := by
  have hn1 : ¬ n < 1 := by omega
  by_cases h0 : 0 ≤ x
  · obtain ⟨y, hy⟩ : ∃ y, y = x % n := ⟨_, rfl⟩
    have y0 : 0 ≤ y := by rw [hy]; exact Int.emod_nonneg _ (by omega)
    have y1 : y < n := by rw [hy]; exact Int.emod_lt_of_pos _ (by omega)
    have ey : x % n = y := hy.symm
    clear hy
    go_enter Tryz.func51, Tryz.ntmps51
    go_wp2
    go_ret
    exact ⟨y.toNat, by omega, by rw [show ((y.toNat : Nat) : Int) = y by omega]; rfl, rfl⟩
  · obtain ⟨y, hy⟩ : ∃ y, y = x.tmod n := ⟨_, rfl⟩
    have y0 : y ≤ 0 := by rw [hy]; have := Int.tmod_nonneg (a := -x) n (by omega); rw [Int.neg_tmod] at this; omega
    have y1 : -n < y := by rw [hy]; have := Int.tmod_lt_of_pos (-x) (show 0 < n by omega); rw [Int.neg_tmod] at this; omega
    have ey : x.tmod n = y := hy.symm
    clear hy
    by_cases hz : y < 0
    · go_enter Tryz.func51, Tryz.ntmps51
      go_wp2
      go_ret
      exact ⟨(y + n).toNat, by omega, by rw [show (((y + n).toNat : Nat) : Int) = y + n by omega]; rfl, rfl⟩
    · go_enter Tryz.func51, Tryz.ntmps51
      go_wp2
      go_ret
      exact ⟨y.toNat, by omega, by rw [show ((y.toNat : Nat) : Int) = y by omega]; rfl, rfl⟩
end Go.Proofs.YtlkiancedgaicaaGreat

/- The kit's Pick, told whole: the number's rest. -/
namespace Go.Proofs.YtlkiancedgaicaaGreat
open Go.RowKit Ow

set_option maxHeartbeats 400000 in
theorem pick_is (x n : Int) (w : World) (hn : 1 ≤ n) (hn2 : n ≤ 1000000) (hx1 : -9223372036854775808 ≤ x) (hx2 : x ≤ 9223372036854775807) :
    Calls Tryz.prog 51 #[.int .i64 x, .int .i64 n] w fun e w' => e = .returned (.int .i64 (x % n)) ∧ w' = w := by
  have hn1 : ¬ n < 1 := by omega
  by_cases h0 : 0 ≤ x
  · obtain ⟨y, hy⟩ : ∃ y, y = x % n := ⟨_, rfl⟩
    have y0 : 0 ≤ y := by rw [hy]; exact Int.emod_nonneg _ (by omega)
    have y1 : y < n := by rw [hy]; exact Int.emod_lt_of_pos _ (by omega)
    rw [← hy]
    have ey : x % n = y := hy.symm
    clear hy
    go_enter Tryz.func51, Tryz.ntmps51
    go_wp2
    go_ret
    exact ⟨rfl, rfl⟩
  · obtain ⟨y, hy⟩ : ∃ y, y = x.tmod n := ⟨_, rfl⟩
    have y0 : y ≤ 0 := by rw [hy]; have := Int.tmod_nonneg (a := -x) n (by omega); rw [Int.neg_tmod] at this; omega
    have y1 : -n < y := by rw [hy]; have := Int.tmod_lt_of_pos (-x) (show 0 < n by omega); rw [Int.neg_tmod] at this; omega
    have hxy : x % n = y % n := by
      have h1 : y + n * x.tdiv n = x := by rw [hy]; exact Int.tmod_add_mul_tdiv x n
      conv => lhs; rw [← h1]
      rw [Int.add_mul_emod_self_left]
    have ey : x.tmod n = y := hy.symm
    clear hy
    by_cases hz : y < 0
    · have hr : Hid (x % n = y + n) := by
        show x % n = y + n
        rw [hxy, ← Int.add_emod_right y n]
        exact Int.emod_eq_of_lt (by omega) (by omega)
      clear hxy
      rw [hr.out]
      go_enter Tryz.func51, Tryz.ntmps51
      go_wp2
      go_ret
      exact ⟨rfl, rfl⟩
    · have hr : Hid (x % n = y) := by
        show x % n = y
        rw [hxy]
        exact Int.emod_eq_of_lt (by omega) (by omega)
      clear hxy
      rw [hr.out]
      go_enter Tryz.func51, Tryz.ntmps51
      go_wp2
      go_ret
      exact ⟨rfl, rfl⟩
end Go.Proofs.YtlkiancedgaicaaGreat

/- The kit's CopyBytes, of none too. -/
namespace Go.Proofs.YtlkiancedgaicaaGreat
open Go.RowKit Ow

set_option maxHeartbeats 2000000 in
theorem copyB_own (B n cap : Nat) (a : Option Addr) (l : List Nat) (w : World) (hl : l.length = n) (hn : n ≤ 1000000) (hP : BytesAt w B a cap l) :
    Calls Tryz.prog 50 #[.slice a n cap] w fun e w' => ∃ v, e = .returned v ∧ w.grownBy w' none ∧ w'.ownsRow w.heap.size 5 1 v n (l.map u8N) := by
  obtain ⟨v2, w2, hr2, ho2, hg2⟩ := append_bytes w w.heap.size 0 B cap n (.slice none 0 0) [] a l (World.ownsRow_nil w _ 5 1) hl hP (by omega) (Nat.le_refl _)
  rw [Nat.zero_add, List.nil_append] at ho2
  have HS := Lib.hid (And.intro ho2 hg2); clear ho2 hg2
  have HR := Lib.hid hr2; clear hr2
  go_enter Tryz.func50, Tryz.ntmps50
  go_upto_region 2 with (fail)
  refine wp_region_lit ?_
  refine Fg.wpl_value (v := .slice none 0 0) (w' := w) rfl (Fg.run_move rfl rfl) ?_
  refine Fg.wpl_value (v := .slice a n cap) (w' := w) rfl (Fg.run_move rfl rfl) ?_
  refine wpList_append_run rfl (.tmp 4) (.tmp 5) 23 rfl rfl _ _ rfl rfl _ _ HR.out ?_
  refine Fg.wpl_value (v := v2) (w' := w2) rfl (Fg.run_assign rfl rfl) ?_
  refine wpList_nil ?_
  simp only [Act.put, List.setIfInBounds_toArray, List.set_cons_succ, List.set_cons_zero]
  go_wp2
  go_ret
  exact ⟨v2, rfl, HS.out.2, HS.out.1⟩
end Go.Proofs.YtlkiancedgaicaaGreat

/- The law on a set's bytes, there and back. -/
namespace Go.Proofs.YtlkiancedgaicaaGreat
open Go.RowKit Ow Wi Ve Rc
namespace Sb
theorem dotsL_len (l : List D) : (dotsL l).length = 16 * l.length := by
  induction l with
  | nil => rfl
  | cons d l ih =>
    have e : dotsL (d :: l) = dotL d ++ dotsL l := by simp [dotsL]
    rw [e, List.length_append, ih, List.length_cons]
    have : (dotL d).length = 16 := by unfold dotL; rw [List.length_append, encN_length, encN_length]
    omega
theorem putL_len (r : R) : (putL r).length = 42 + r.key.length + 16 * r.cx.length + r.val.length + r.sig.length := by
  unfold putL textL
  have h1 : (dotL r.dot).length = 16 := by unfold dotL; rw [List.length_append, encN_length, encN_length]
  simp only [List.length_append, List.length_cons, rowL_length, encN_length, dotsL_len, h1]
  omega
theorem set_few {w : World} {B : Nat} {l : List E} (h : ∀ x ∈ l, RAt w B x.1 x.2) : (rowsL (recs l)).length ≤ 57 * sumC l := by
  induction l with
  | nil => simp [rowsL, sumC]
  | cons x l ih =>
    have hx := h x (by simp)
    have h1 := ih fun y hy => h y (List.mem_cons_of_mem _ hy)
    have e : rowsL (recs (x :: l)) = rowL (putL x.2) ++ rowsL (recs l) := by
      rw [show recs (x :: l) = [x.2] ++ recs l from rfl, rowsL_app, rowsL_one]
    have e2 : sumC (x :: l) = cntE x + sumC l := by simp [sumC]
    rw [e, e2, List.length_append, rowL_length, putL_len, hx.keyLen, hx.l1, hx.l2, hx.l3]
    unfold cntE
    omega
theorem rowsL_byte {w : World} {B : Nat} {l : List E} (h : ∀ x ∈ l, RAt w B x.1 x.2) (hr : ∀ x ∈ l, rightB x.2 = true) : ∀ i, (rowsL (recs l)).getD i 0 < 256 := by
  induction l with
  | nil => intro i; simp [rowsL]
  | cons x l ih =>
    have hx := h x (by simp)
    rw [show recs (x :: l) = [x.2] ++ recs l from rfl, rowsL_app, rowsL_one]
    refine app_byte ?_ (ih (fun y hy => h y (List.mem_cons_of_mem _ hy)) (fun y hy => hr y (List.mem_cons_of_mem _ hy)))
    unfold rowL putL
    exact app_byte (encN_byte _) (app_byte (text_small hx (right_shape (hr x (by simp)))).2 hx.sig.byte)
/-- great of one set that has just been laid -/
theorem great_one (w : World) (T : TypeId) (a : Option Addr) (n c : Nat) (l : List E) (hn : l.length = n) (h : RRow w w.heap.size a l) (ha : a = none → c = 0) (hl : n < 9223372036854775808) (hf : ∀ x ∈ l, Fits x) :
    Calls Tryz.prog 34 #[.slice (some ⟨w.heap.size, 0, none⟩) 1 1] (w.alloc (.cells #[.slice a n c] T)) (fun e w' => ∃ b : Bool, e = .returned (.bool b) ∧ (b = false → 1 + sumC l ≤ 2500) ∧ w.grownBy w' none) := by
  have hr := srow_new w w.heap.size T [(a, c, l)] (Nat.le_refl _) (fun x hx => by
    rw [List.mem_singleton] at hx; subst hx; exact ⟨h, ha⟩)
  rw [show ([(a, c, l)] : List (Option Addr × Nat × List E)).map (fun q => Value.slice q.1 q.2.2.length q.2.1) = [.slice a n c] from by simp only [List.map_cons, List.map_nil]; rw [hn]] at hr
  refine (great_any 1 1 (w.heap.size + 1) [l] (some ⟨w.heap.size, 0, none⟩) _ rfl hr (by decide) (fun p hp => by rw [List.mem_singleton] at hp; subst hp; rw [hn]; exact hl) (fun x hx => by simp only [List.flatten_cons, List.flatten_nil, List.append_nil] at hx; exact hf x hx)).mono fun e w' ⟨b, he, hb, hg⟩ => ⟨b, he, fun h => ?_, gb_trans (gb_alloc (gb_refl _ _) _) hg⟩
  have := hb h
  simp only [List.map_cons, List.map_nil, List.sum_cons, List.sum_nil] at this
  omega
/-- what Get tells, by its parts -/
def GetT (w : World) (b : List Nat) (e : Ending) (w' : World) : Prop :=
  ∃ a n c out er, e = .returned (.tuple #[.slice a n c, .int .i64 er]) ∧ w.grownBy w' none ∧ ((er = 0 ∧ getL b = some (recs out) ∧ out.length = n ∧ n ≤ b.length ∧ RRow w' w'.heap.size a out) ∨ er = 4 ∧ getL b = none)
theorem sget_t (n cap B : Nat) (a : Option Addr) (b : List Nat) (w : World) (hl : b.length = n) (hn : n ≤ 1000000) (hP : BytesAt w B a cap b) :
    Calls Tryz.prog 46 #[.slice a n cap] w (GetT w b) :=
  (sget_any n cap B a b w hl hn hP).mono fun e w' ⟨hg, ho⟩ => by
    rcases ho with ⟨v, out, rfl, h1, h2, h3⟩ | ⟨h1, rfl⟩
    · obtain ⟨av, cv, rfl, _, _, hrow⟩ := h3.row
      exact ⟨av, out.length, cv, out, 0, rfl, hg, Or.inl ⟨rfl, h1, rfl, h2, hrow⟩⟩
    · exact ⟨none, 0, 0, [], 4, rfl, hg, Or.inr ⟨rfl, h1⟩⟩
set_option linter.unusedSimpArgs false
set_option maxRecDepth 100000 in
set_option maxHeartbeats 4000000 in
theorem sback_any (a0 a1 : Option Addr) (n m cap0 cap1 : Nat) (cut : Int) (A : List E) (b : List Nat) (W : World) (hn : A.length = n) (hm : b.length = m) (hA : RRow W W.heap.size a0 A) (rA : a0 = none → cap0 = 0) (hn2 : n < 9223372036854775808) (fA : ∀ x ∈ A, Fits x) (hB : BytesAt W W.heap.size a1 cap1 b) (hc1 : -9223372036854775808 ≤ cut) (hc2 : cut ≤ 9223372036854775807) :
    Calls Tryz.prog 10 #[.slice a0 n cap0, .slice a1 m cap1, .int .i64 cut] W fun e w' => e = .returned (.bool true) ∧ W.grownBy w' none := by
  obtain ⟨Q, hQ⟩ : ∃ Q : Ending → World → Prop, Q = fun e w' => e = .returned (.bool true) ∧ W.grownBy w' none := ⟨_, rfl⟩
  rw [← hQ]
  have HQ : Hid (∀ w', W.grownBy w' none → Q (.returned (.bool true)) w') := fun w' hg => by rw [hQ]; exact ⟨rfl, hg⟩
  clear hQ
  have HW := Lib.hid (awake9_any W)
  have HL : Hid (A.length = n ∧ b.length = m ∧ (a0 = none → cap0 = 0) ∧ RRow W W.heap.size a0 A ∧ BytesAt W W.heap.size a1 cap1 b) := ⟨hn, hm, rA, hA, hB⟩
  have HF := Lib.hid fA
  have HC : Hid (-9223372036854775808 ≤ cut ∧ cut ≤ 9223372036854775807) := ⟨hc1, hc2⟩
  have hm63 : m < 9223372036854775808 := by have h1 := hB.fits; have h2 := hB.top; omega
  clear hn hm hA hB rA fA hc1 hc2
  go_enter Tryz.func10, Tryz.ntmps10
  go_wp2_with fail
  refine HW.out.mono ?_
  rintro e w1 ⟨rfl, hg1⟩
  have HG := Lib.hid (great_one w1 48 a0 n cap0 A HL.out.1 ((HL.out.2.2.2.1.stay hg1).full) HL.out.2.2.1 hn2 HF.out)
  have HG1 := Lib.hid hg1; clear hg1 HW HF
  go_wp2_with fail
  refine HG.out.mono ?_
  rintro e w2 ⟨gr, rfl, hb, hg2⟩
  have HG2 := Lib.hid (gb_trans HG1.out hg2); clear hg2 HG HG1
  cases gr with
  | true =>
    have HE := Lib.hid (HQ.out _ HG2.out)
    go_wp2
    exact HE.out
  | false =>
    have hsum := hb rfl
    clear hb
    have hn3 : n ≤ 2500 := by have h1 := sum_len A; rw [HL.out.1] at h1; omega
    have HSET : Hid ((setL (recs A)).length ≤ 200000) := by
      show _ ≤ _
      have h1 := set_few (fun x hx => HL.out.2.2.2.1.recs x hx)
      rw [setL_len]; omega
    clear hsum
    by_cases h2 : (20000 : Int) < (m : Int)
    · have HE := Lib.hid (HQ.out _ HG2.out)
      go_wp2
      exact HE.out
    · have hm3 : m ≤ 20000 := by omega
      have HGet := Lib.hid (sget_t m cap1 W.heap.size a1 b w2 HL.out.2.1 (by omega) (HL.out.2.2.2.2.stay HG2.out))
      go_upto_if 35 with fail
      refine HGet.out.mono ?_
      rintro e w3 ⟨ax, nx, cx, out, er, rfl, hg3, hx⟩
      have HX := Lib.hid hx
      have HG3 := Lib.hid (gb_trans HG2.out hg3)
      clear hx hg3 HGet
      go_upto_if 35 with fail
      go_cut [9, 10] from 36 to 53 (fun _ _ wx => W.grownBy wx none)
      case first =>
        rcases HX.out with ⟨rfl, hgl, hnx, hnb, hrow⟩ | ⟨rfl, _⟩
        · have hbl := HL.out.2.1
          obtain ⟨hinv, hset⟩ := getL_inv (fun x hx => _root_.Go.Proofs.YtlkiancedgaicaaGreat.getD_mem HL.out.2.2.2.2.byte x hx) hgl
          have HP := Lib.hid (sput_any w3.heap.size nx cx ax out w3 hnx hrow (by omega) (fun _ => by rw [hinv]; omega))
          have HI := Lib.hid (And.intro hinv (And.intro hset (And.intro hnx (And.intro hrow (show nx ≤ 20000 by omega)))))
          clear hgl hnx hnb hrow hinv hset hbl HX
          go_wp2_with fail
          refine HP.out.mono ?_
          rintro e w4 ⟨hg4, ho⟩
          rw [HI.out.2.1, if_pos rfl] at ho
          obtain ⟨v4, rfl, ho4⟩ := ho
          rw [HI.out.1] at ho4
          obtain ⟨a4, c4, rfl, hl4, hB4, _⟩ := own_slice ho4 HL.out.2.2.2.2.byte
          have hnx := HI.out.2.2.2.2
          have HR := Lib.hid (fun w' (hg : w4.grownBy w' none) => sright_any w3.heap.size nx cx ax out w' HI.out.2.2.1 (HI.out.2.2.2.1.stay (gb_trans hg4 hg)) (by omega))
          rw [HI.out.2.1] at HR
          have HS := Lib.hid (fun w' (hg : w4.grownBy w' none) => sameBytes_any W.heap.size w4.heap.size m m cap1 c4 a1 a4 b b w' HL.out.2.1 HL.out.2.1 (HL.out.2.2.2.2.stay (gb_trans HG3.out (gb_trans hg4 hg))) (hB4.stay hg))
          rw [show decide (b = b) = true from decide_eq_true rfl] at HS
          have HG4 := Lib.hid (gb_trans HG3.out hg4)
          rw [HL.out.2.1]
          clear hg4 ho4 hl4 hB4 hnx HP
          go_wp2_with fail
          refine (HR.out w4 (gb_refl _ _)).mono ?_
          rintro e w5 ⟨rfl, hg5⟩
          have HG5 := Lib.hid hg5
          clear hg5
          go_wp2_with fail
          refine (HS.out w5 HG5.out).mono ?_
          rintro e w6 ⟨rfl, hg6⟩
          have HG6 := Lib.hid (gb_trans (gb_trans HG4.out HG5.out) hg6)
          clear hg6
          go_wp2
          go_meet
          exact HG6.out
        · go_wp2
          go_meet
          exact HG3.out
      case rest =>
        rename World => wx
        have HG4 := Lib.hid hcut
        clear hcut HG3 HX
        have HRW : Hid (∀ w', wx.grownBy w' none → RRow w' w'.heap.size a0 A) := fun w' hg => (HL.out.2.2.2.1.stay (gb_trans HG4.out hg)).full
        have HP := Lib.hid (sput_any wx.heap.size n cap0 a0 A wx HL.out.1 (HRW.out wx (gb_refl _ _)) (by omega) (fun _ => by have := HSET.out; omega))
        have HR := Lib.hid (fun w' (hg : wx.grownBy w' none) => sright_any w'.heap.size n cap0 a0 A w' HL.out.1 (HRW.out w' hg) (by omega))
        cases hs : setB (recs A) with
        | false =>
          rw [hs] at HR
          unfold PutOut at HP
          rw [hs] at HP
          clear hs
          go_wp2_with fail
          refine HP.out.mono ?_
          rintro e w4 ⟨hg4, he⟩
          rw [if_neg (by simp)] at he
          subst he
          have HG5 := Lib.hid hg4
          clear hg4
          go_wp2_with fail
          refine (HR.out w4 HG5.out).mono ?_
          rintro e w5 ⟨rfl, hg5⟩
          have HE := Lib.hid (HQ.out w5 (gb_trans HG4.out (gb_trans HG5.out hg5)))
          clear hg5
          go_wp2
          exact HE.out
        | true =>
          rw [hs] at HR
          unfold PutOut at HP
          rw [hs] at HP
          obtain ⟨P, hP⟩ : ∃ P, P = setL (recs A) := ⟨_, rfl⟩
          obtain ⟨np, hnp⟩ : ∃ np, np = P.length := ⟨_, rfl⟩
          have hPl : P.length ≤ 200000 := by rw [hP]; exact HSET.out
          have hP8 : 8 ≤ P.length := by rw [hP, setL_len]; omega
          have hPb : ∀ i, P.getD i 0 < 256 := by
            rw [hP]
            unfold setL
            exact app_byte (encN_byte _) (rowsL_byte (fun x hx => (HRW.out wx (gb_refl _ _)).recs x hx) (right_of hs))
          have HM : Hid (getL P = some (recs A) ∧ (∀ k, k < np → getL (P.take k) = none) ∧ (∀ tl : List Nat, tl.length ≤ 20000 → tl ≠ [] → getL (P ++ tl) = none) ∧ P.length = np ∧ ∀ i, P.getD i 0 < 256) := by
            refine ⟨?_, ?_, ?_, hnp.symm, hPb⟩
            · rw [hP]; exact getL_put hs (by rw [← hP]; omega)
            · intro k hk
              rw [hP]
              exact getL_less hs (by rw [← hP]; omega) (fun x hx => _root_.Go.Proofs.YtlkiancedgaicaaGreat.getD_mem hPb x (by rw [hP]; exact hx)) (by rw [← hP]; omega)
            · intro tl ht hne
              rw [hP]
              exact getL_more hs hne (by rw [← hP, List.length_append]; omega)
          rw [← hP] at HP
          have hnp2 : np ≤ 200000 := by omega
          have hnp8 : 8 ≤ np := by omega
          clear hs hP hnp hPl hP8 hPb HSET
          go_wp2_with fail
          refine HP.out.mono ?_
          rintro e w4 ⟨hg4, ho⟩
          rw [if_pos trivial] at ho
          obtain ⟨v4, rfl, ho4⟩ := ho
          obtain ⟨a4, c4, rfl, hl4, hB4, _⟩ := own_slice ho4 HM.out.2.2.2.2
          rw [HM.out.2.2.2.1]
          have HG5 := Lib.hid hg4
          have HB4 := Lib.hid hB4
          clear hg4 ho4 hl4 hB4 HP
          go_wp2_with fail
          refine (HR.out w4 HG5.out).mono ?_
          rintro e w5 ⟨rfl, hg5⟩
          have HG6 := Lib.hid (gb_trans HG5.out hg5)
          have HB5 := Lib.hid ((HB4.out.stay hg5).full)
          clear hg5 HB4 HG5 HR
          go_wp2_with fail
          refine (sget_t np c4 w5.heap.size a4 P w5 HM.out.2.2.2.1 (by omega) HB5.out).mono ?_
          rintro e w6 ⟨ay, ny, cy, outy, er, rfl, hg6, hy⟩
          rcases hy with ⟨rfl, hgy, hny, _, hrowy⟩ | ⟨_, hno⟩
          · have hre : recs outy = recs A := by rw [HM.out.1] at hgy; exact (Option.some.inj hgy).symm
            have HY : Hid (outy.length = ny ∧ RRow w6 w6.heap.size ay outy ∧ recs outy = recs A) := ⟨hny, hrowy, hre⟩
            have HG7 := Lib.hid (gb_trans HG6.out hg6)
            have HB6 := Lib.hid ((HB5.out.stay hg6).full)
            have hnyn : ny = n := by
              have h1 := congrArg List.length hre
              rw [recs_len, recs_len, HL.out.1, hny] at h1; exact h1
            clear hgy hny hrowy hre hg6 HB5 HG6
            subst hnyn
            have hpick := Lib.hid (pick_is cut (np : Int) w6 (by omega) (by omega) HC.out.1 HC.out.2)
            obtain ⟨r, hr⟩ : ∃ r : Nat, cut % (np : Int) = r := ⟨_, (Int.toNat_of_nonneg (Int.emod_nonneg _ (by omega))).symm⟩
            have hr2 : cut % (np : Int) < np := Int.emod_lt_of_pos _ (by omega)
            rw [hr] at hr2 hpick
            have hr3 : r < np := by omega
            clear hr hr2
            have hc4 := HB6.out.fits
            rw [HM.out.2.2.2.1] at hc4
            obtain ⟨a8, hsl, ha8⟩ := slice_to a4 np c4 r (by omega)
            have HB8 := Lib.hid (bytes_take (k := r) HB6.out ha8)
            clear ha8 hc4
            go_wp2_with fail
            refine hpick.out.mono ?_
            rintro e w' ⟨rfl, rfl⟩
            go_wp2_with fail
            refine (sget_t r c4 w'.heap.size a8 (P.take r) w' (by rw [List.length_take, HM.out.2.2.2.1]; omega) (by omega) HB8.out).mono ?_
            rintro e w7 ⟨az, nz, cz, outz, er, rfl, hg7, hz⟩
            rcases hz with ⟨_, hgz, _⟩ | ⟨rfl, _⟩
            · rw [HM.out.2.1 r hr3] at hgz; cases hgz
            · have HG8 := Lib.hid (gb_trans HG7.out hg7)
              have HB7 := Lib.hid ((HB6.out.stay hg7).full)
              have HY7 : Hid (outy.length = ny ∧ RRow w7 w7.heap.size ay outy ∧ recs outy = recs A) := ⟨HY.out.1, (HY.out.2.1.stay hg7).full, HY.out.2.2⟩
              clear hg7 HB8 HB6 HY HG7 hpick
              go_wp2_with fail
              refine (copyB_own w7.heap.size np c4 a4 P w7 HM.out.2.2.2.1 (by omega) HB7.out).mono ?_
              rintro e w8 ⟨v8, rfl, hg8, ho8⟩
              obtain ⟨v9, w9, hap, ho9, hg9⟩ := append_bytes w8 w7.heap.size np W.heap.size cap1 m v8 (P.map u8N) a1 b ho8 HL.out.2.1 (HL.out.2.2.2.2.stay (gb_trans HG4.out (gb_trans HG8.out hg8))) (by omega) hg8.size
              have hg79 := own_gb hg8 ho8 hg9
              rw [← List.map_append] at ho9
              have hPb9 : ∀ i, (P ++ b).getD i 0 < 256 := app_byte HM.out.2.2.2.2 HL.out.2.2.2.2.byte
              obtain ⟨a9, c9, rfl, hl9, hB9, _⟩ := own_slice ho9 hPb9
              obtain ⟨a8', c8', rfl⟩ := bytes_shape ho8
              obtain ⟨N, hN⟩ : ∃ N, N = np + m := ⟨_, rfl⟩
              rw [← hN] at hap hl9
              have HAP := Lib.hid hap
              have HB9 := Lib.hid (And.intro hl9 hB9)
              have HG9 := Lib.hid (gb_trans HG8.out hg79)
              have HY9 : Hid (outy.length = ny ∧ RRow w9 w9.heap.size ay outy ∧ recs outy = recs A) := ⟨HY7.out.1, (HY7.out.2.1.stay hg79).full, HY7.out.2.2⟩
              have hN3 : N ≤ 1000000 := by omega
              clear hg8 ho8 hap ho9 hg9 hg79 hPb9 hl9 hB9 hN HB7 HG8 HY7
              go_wp2_with (at_builtin; refine Lib.wpList_append_run _ rfl (.tmp 86) (.tmp 87) 23 23 rfl _ _ rfl rfl _ _ HAP.out ?_)
              refine (sget_t N c9 w9.heap.size a9 (P ++ b) w9 HB9.out.1 hN3 HB9.out.2).mono ?_
              rintro e w10 ⟨au, nu, cu, outu, er, rfl, hg10, hu⟩
              have HU : Hid (m = 0 ∨ er = 4) := by
                by_cases hb0 : b = []
                · left; rw [← HL.out.2.1, hb0]; rfl
                · right
                  rcases hu with ⟨_, hgu, _⟩ | ⟨h, _⟩
                  · rw [HM.out.2.2.1 b (by rw [HL.out.2.1]; exact hm3) hb0] at hgu; cases hgu
                  · exact h
              have HS := Lib.hid (sameRecs_any w10.heap.size w10.heap.size ny ny cy cap0 ay a0 outy A w10 HY9.out.1 HL.out.1 ((HY9.out.2.1.stay hg10).full) (HRW.out w10 (gb_trans HG9.out hg10)) (by omega))
              rw [HY9.out.2.2, show sameL (recs A) (recs A) = true from decide_eq_true rfl] at HS
              have HG10 := Lib.hid (gb_trans HG9.out hg10)
              clear hg10 hu
              go_wp2_with fail
              refine HS.out.mono ?_
              rintro e w11 ⟨rfl, hg11⟩
              have HE := Lib.hid (HQ.out w11 (gb_trans HG4.out (gb_trans HG10.out hg11)))
              clear hg11
              rcases HU.out with h0 | h4
              · subst h0
                go_wp2
                exact HE.out
              · subst h4
                by_cases h0 : m = 0
                · subst h0
                  go_wp2
                  exact HE.out
                · have h0i : ¬ (m : Int) = 0 := by omega
                  go_wp2
                  exact HE.out
          · rw [HM.out.1] at hno; cases hno
end Sb
end Go.Proofs.YtlkiancedgaicaaGreat
