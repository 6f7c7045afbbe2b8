/- sha's constants out of roots: the eight words and the eighty, in two rows of one's own beside each other. -/
import Derived.Test.YtjnednikgnapnaaDoorShaRootP
import Derived.Test.YtjnednikgnapnaaDoorOwnRows
import Derived.Test.YtjnednikgnapnaaDoorShaRefTurn
namespace Go.Proofs.YtjnednikgnapnaaDoor
open Go.RowKit Ow Ns
namespace Sha
theorem elt_u64 : Elt 33 23 8 (.int .u64 0) := by
  refine ⟨Tryd.underlying23, ?_⟩
  have h : (Tryd.prog.info? 33).map (fun i => (i.zero, i.size, i.bytes)) = some (some (.int .u64 0), 1, 8) := by kernel_rfl
  cases hi : Tryd.prog.info? 33 with
  | none => rw [hi] at h; cases h
  | some i =>
    rw [hi] at h
    simp only [Option.map_some, Option.some.injEq, Prod.mk.injEq] at h
    exact ⟨i, rfl, h.1, h.2.1, h.2.2, rfl⟩
abbrev OwnU (w : World) (b : Nat) (v : Value) (n : Nat) (l : List Nat) : Prop := w.ownsRow b 33 1 v n (l.map u64V)
theorem u64_getD {l : List Nat} {i : Nat} (h : i < l.length) : (l.map u64V)[i]? = some (u64V (l.getD i 0)) := by
  rw [List.getElem?_map, List.getElem?_eq_getElem h, List.getD_eq_getElem?_getD, List.getElem?_eq_getElem h]; rfl
/-- a word behind others -/
theorem push_word (w : World) (base n x : Nat) (v : Value) (l : List Nat) (hown : OwnU w base v n l) (hn : n ≤ 1000) (hbase : base ≤ w.heap.size) :
    ∃ v' w', (Builtin.append_ #[23, 23] 23 #[v, .slice (some ⟨w.heap.size, 0, none⟩) 1 1]).run Tryd.prog (w.alloc (.cells #[.int .u64 (x : Int)] 33)) = .ok v' w' ∧ OwnU w' base v' (n + 1) (l ++ [x]) ∧ w.grownBy w' v.ownBlock ∧ (∃ g, v'.ownBlock = some g ∧ (v.ownBlock = some g ∨ w.heap.size ≤ g)) := by
  have hx := Blk.new w [u64V x] 33
  have hnews : ∀ j u, [u64V x][j]? = some u → (w.alloc (.cells #[u64V x] 33)).cell? ((⟨w.heap.size, 0, none⟩ : Addr).add j) = some u := fun j u hu => by rw [Addr.add_lit, Nat.zero_add]; exact hx.cell hu
  have h1 : ∀ u ∈ [u64V x], u.oneCell' = true := fun u hu => by obtain rfl := List.mem_singleton.1 hu; rfl
  have ho := hown.alloc (.cells #[u64V x] 33)
  have g1 := gb_alloc (gb_refl w none) (.cells #[u64V x] 33)
  have hs1 : (w.alloc (.cells #[u64V x] 33)).heap.size = w.heap.size + 1 := by simp
  rcases own_shape ho with ⟨rfl, rfl⟩ | ⟨g, c, rfl⟩
  · obtain ⟨g, c', w', hr, ho', hg⟩ := append_to_none elt_u64 (w.alloc (.cells #[u64V x] 33)) ⟨w.heap.size, 0, none⟩ 1 1 [u64V x] (by decide) rfl hnews h1 (by decide) (by decide)
    have hl0 : l = [] := by have := hown.1; simpa using this
    subst hl0
    refine ⟨_, w', hr, own_base ho' (by rw [hs1]; omega), gb_trans g1 hg, g, rfl, Or.inr ?_⟩
    have := (own_lt ho').2.1
    omega
  · rcases append_cases elt_u64 _ base g n c _ ho ⟨w.heap.size, 0, none⟩ 1 1 [u64V x] rfl hnews h1 (by omega) (by omega) with ⟨_, w', hr, ho', hg⟩ | ⟨_, c', w', hr, ho', hg⟩
    · refine ⟨_, w', hr, ?_, gb_trans (gb_row g1 _) hg, g, rfl, Or.inl rfl⟩
      unfold OwnU
      rw [List.map_append]
      exact ho'
    · refine ⟨_, w', hr, ?_, gb_row (gb_trans g1 hg) _, _, rfl, Or.inr (by show w.heap.size ≤ (w.alloc (.cells #[u64V x] 33)).heap.size; omega)⟩
      unfold OwnU
      rw [List.map_append]
      exact own_base ho' (by omega)
/-- rows that lie apart -/
def Far (v u : Value) : Prop := ∀ g, v.ownBlock = some g → u.ownBlock ≠ some g
theorem Far.symm {v u : Value} (h : Far v u) : Far u v := fun g hu hv => h g hv hu
theorem far_row {v u : Value} (h : Far v u) : v.ownBlock = none ∨ v.ownBlock ≠ u.ownBlock := by
  cases hv : v.ownBlock with
  | none => exact Or.inl rfl
  | some g => exact Or.inr (fun e => h g hv e.symm)
theorem far_push {w : World} {b n e : Nat} {v v' u : Value} {xs : List Value} (h : Far v u) (hg : ∃ g, v'.ownBlock = some g ∧ (v.ownBlock = some g ∨ w.heap.size ≤ g)) (hu : w.ownsRow b e 1 u n xs) : Far v' u := by
  intro g hv' hu'
  obtain ⟨g', e', hc⟩ := hg
  rw [hv'] at e'
  cases e'
  rcases hc with hc | hc
  · exact h g hc hu'
  · have := (hu.lt g hu').2; omega
/-- what holds between two primes -/
structure CI (w : World) (vl : Value) (k : Nat) (v2 v3 : Value) (wr : World) : Prop where
  o2 : OwnU wr w.heap.size v2 (min k 8) (H0.take k)
  o3 : OwnU wr w.heap.size v3 k (K.take k)
  lst : OwnI wr w.heap.size vl primes80
  a : Far v2 v3
  b : Far v2 vl
  c : Far v3 vl
  grown : w.grownBy wr none
theorem CI.stay {w : World} {vl : Value} {k : Nat} {v2 v3 : Value} {wr w' : World} (h : CI w vl k v2 v3 wr) (hg : wr.grownBy w' none) : CI w vl k v2 v3 w' :=
  ⟨h.o2.kept hg (by cases v2.ownBlock <;> simp), h.o3.kept hg (by cases v3.ownBlock <;> simp), h.lst.kept hg (by cases vl.ownBlock <;> simp), h.a, h.b, h.c, gb_trans h.grown hg⟩
theorem K_next (k : Nat) (h : k < 80) : K.take (k + 1) = K.take k ++ [rootN (primes80.getD k 0) 3] := by
  have hl := primes80_length
  rw [List.take_add_one, ← roots_K, List.getElem?_map, List.getElem?_eq_getElem (by omega), List.getD_eq_getElem?_getD, List.getElem?_eq_getElem (by omega)]
  rfl
theorem H_next (k : Nat) (h : k < 8) : H0.take (k + 1) = H0.take k ++ [rootN (primes80.getD k 0) 2] := by
  have hl := primes80_length
  rw [List.take_add_one, ← roots_H0, List.getElem?_map, List.getElem?_take, if_pos h, List.getElem?_eq_getElem (by omega), List.getD_eq_getElem?_getD, List.getElem?_eq_getElem (by omega)]
  rfl
theorem H_all (k : Nat) (h : 8 ≤ k) : H0.take k = H0 := List.take_of_length_le (by show H0.length ≤ k; exact h)
theorem prime_small (k : Nat) (h : k < 80) : primes80.getD k 0 < 65536 := by
  have hl := primes80_length
  rw [List.getD_eq_getElem?_getD, List.getElem?_eq_getElem (by omega)]
  exact (primes80_small _ (List.getElem_mem _)).2
/-- the second row grows -/
theorem CI.push3 {w : World} {vl : Value} {k : Nat} {v2 v3 : Value} {wr : World} (h2 : OwnU wr w.heap.size v2 (min (k + 1) 8) (H0.take (k + 1))) (h3 : OwnU wr w.heap.size v3 k (K.take k)) (hl : OwnI wr w.heap.size vl primes80) (ha : Far v2 v3) (hb : Far v2 vl) (hc : Far v3 vl) (hg : w.grownBy wr none) (hk : k < 80) :
    ∃ v' w', (Builtin.append_ #[23, 23] 23 #[v3, .slice (some ⟨wr.heap.size, 0, none⟩) 1 1]).run Tryd.prog (wr.alloc (.cells #[.int .u64 ((rootN (primes80.getD k 0) 3 : Nat) : Int)] 33)) = .ok v' w' ∧ CI w vl (k + 1) v2 v' w' := by
  obtain ⟨v', w', hr, ho, hg', hf⟩ := push_word wr w.heap.size k (rootN (primes80.getD k 0) 3) v3 _ h3 (by omega) hg.size
  rw [← K_next k hk] at ho
  exact ⟨v', w', hr, h2.kept hg' (far_row ha), ho, hl.kept hg' (far_row hc.symm), (far_push ha.symm hf h2).symm, hb, far_push hc hf hl, gb_own hg h3 (Nat.le_refl _) hg'⟩
theorem CI.push2 {w : World} {vl : Value} {k : Nat} {v2 v3 : Value} {wr : World} (h : CI w vl k v2 v3 wr) (hk : k < 8) :
    ∃ v' w', (Builtin.append_ #[23, 23] 23 #[v2, .slice (some ⟨wr.heap.size, 0, none⟩) 1 1]).run Tryd.prog (wr.alloc (.cells #[.int .u64 ((rootN (primes80.getD k 0) 2 : Nat) : Int)] 33)) = .ok v' w' ∧
      OwnU w' w.heap.size v' (min (k + 1) 8) (H0.take (k + 1)) ∧ OwnU w' w.heap.size v3 k (K.take k) ∧ OwnI w' w.heap.size vl primes80 ∧ Far v' v3 ∧ Far v' vl ∧ Far v3 vl ∧ w.grownBy w' none := by
  have h2 := h.o2
  rw [Nat.min_eq_left (by omega)] at h2
  obtain ⟨v', w', hr, ho, hg', hf⟩ := push_word wr w.heap.size k (rootN (primes80.getD k 0) 2) v2 _ h2 (by omega) h.grown.size
  rw [← H_next k hk] at ho
  refine ⟨v', w', hr, by rw [Nat.min_eq_left (by omega)]; exact ho, h.o3.kept hg' (far_row h.a.symm), h.lst.kept hg' (far_row h.b.symm), far_push h.a hf h.o3, far_push h.b hf h.lst, h.c, gb_own h.grown h2 (Nat.le_refl _) hg'⟩
set_option maxHeartbeats 4000000 in
set_option maxRecDepth 100000 in
theorem constants_any (w : World) :
    Calls Tryd.prog 5 #[] w fun e w' => ∃ g1 c1 g2 c2, e = .returned (.tuple #[.slice (some ⟨g1, 0, none⟩) 8 c1, .slice (some ⟨g2, 0, none⟩) 80 c2]) ∧ w.grownBy w' none ∧ WordsAt w' g1 0 H0 ∧ WordsAt w' g2 0 K := by
  go_enter Tryd.func5, Tryd.ntmps5
  go_wp2_with fail
  refine (primes_any w).mono ?_
  rintro e w1 ⟨vl, rfl, hg1, hl1⟩
  obtain ⟨al, cl, rfl⟩ := own_shapeI hl1
  rw [primes80_length] at *
  have HI0 : Hid (CI w (.slice al 80 cl) 0 (.slice none 0 0) (.slice none 0 0) w1) := ⟨World.ownsRow_nil _ _ _ _, World.ownsRow_nil _ _ _ _, by unfold OwnI; rw [primes80_length]; exact hl1, fun g h => (by cases h), fun g h => (by cases h), fun g h => (by cases h), hg1⟩
  clear hg1 hl1
  go_wp2_with fail
  go_loopw [2, 3, 5] (fun v2 v3 i wr => ∃ k : Nat, k ≤ 80 ∧ i = .int .i64 k ∧ Hid (CI w (.slice al 80 cl) k v2 v3 wr)) (fun _ _ i _ => 80 - (intOf i).toNat)
  case atStart => exact ⟨0, by omega, rfl, HI0⟩
  case round =>
    obtain ⟨k, hk, rfl, HI⟩ := hrel
    by_cases hlt : k < 80
    · obtain ⟨gl, rfl, hcl⟩ := own_atI HI.out.lst k (by rw [primes80_length]; exact hlt)
      have hps := prime_small k hlt
      have i0 : (k : Int) < 80 := by omega
      obtain ⟨p, hp⟩ : ∃ p, p = primes80.getD k 0 := ⟨_, rfl⟩
      rw [← hp] at hcl hps
      have HP := Lib.hid hp; clear hp
      have step : ∀ (u w4 : _), OwnU w4 w.heap.size u (min (k + 1) 8) (H0.take (k + 1)) → OwnU w4 w.heap.size u3 k (K.take k) → OwnI w4 w.heap.size (.slice (some ⟨gl, 0, none⟩) 80 cl) primes80 → Far u u3 → Far u (.slice (some ⟨gl, 0, none⟩) 80 cl) → Far u3 (.slice (some ⟨gl, 0, none⟩) 80 cl) → w.grownBy w4 none →
          ∃ v' w', (Builtin.append_ #[23, 23] 23 #[u3, .slice (some ⟨w4.heap.size, 0, none⟩) 1 1]).run Tryd.prog (w4.alloc (.cells #[.int .u64 ((rootN p 3 : Nat) : Int)] 33)) = .ok v' w' ∧ CI w (.slice (some ⟨gl, 0, none⟩) 80 cl) (k + 1) u v' w' := fun u w4 h2 h3 hl ha hb hc hg => by
        rw [HP.out]
        exact CI.push3 h2 h3 hl ha hb hc hg hlt
      have HS := Lib.hid step; clear step
      by_cases h8 : k < 8
      · have i1 : (k : Int) < 8 := by omega
        go_wp2_with fail
        refine (root_any p 2 wr hps (Or.inl rfl)).mono ?_
        rintro e w2 ⟨rfl, hg2⟩
        obtain ⟨v2', w3, hap, f1, f2, f3, f4, f5, f6, f7⟩ := CI.push2 (HI.out.stay hg2) h8
        rw [← HP.out] at hap
        have hcl3 : w3.cell? ⟨gl, k, none⟩ = some (.int .i64 (p : Nat)) := by
          obtain ⟨gl', e, h⟩ := own_atI f3 k (by rw [primes80_length]; exact hlt)
          cases e
          rw [h, ← HP.out]
        have HA := Lib.hid (And.intro hap (And.intro f1 (And.intro f2 (And.intro f3 (And.intro f4 (And.intro f5 (And.intro f6 f7))))))); clear hap f1 f2 f3 f4 f5 f6 f7 hg2
        go_wp2_with (at_builtin; refine wpList_append_run rfl (.tmp 22) (.tmp 24) 23 rfl rfl _ _ rfl rfl _ _ HA.out.1 ?_)
        refine (root_any p 3 w3 hps (Or.inr rfl)).mono ?_
        rintro e w4 ⟨rfl, hg4⟩
        obtain ⟨_, f1, f2, f3, f4, f5, f6, f7⟩ := HA.out
        obtain ⟨v3', w5, hap, HC⟩ := HS.out v2' w4 (f1.kept hg4 (by cases v2'.ownBlock <;> simp)) (f2.kept hg4 (by cases u3.ownBlock <;> simp)) (f3.kept hg4 (Or.inr (by simp [Value.ownBlock]))) f4 f5 f6 (gb_trans f7 hg4)
        have HB := Lib.hid (And.intro hap HC); clear hap HC f1 f2 f3 f4 f5 f6 f7 hg4
        go_wp2_with (at_builtin; refine wpList_append_run rfl (.tmp 31) (.tmp 33) 23 rfl rfl _ _ rfl rfl _ _ HB.out.1 ?_)
        go_roundw
        case rel => exact ⟨k + 1, by omega, by go_num, Lib.hid HB.out.2⟩
        case measure => simp [intOf]; omega
      · have i1 : ¬ (k : Int) < 8 := by omega
        go_wp2_with fail
        refine (root_any p 3 wr hps (Or.inr rfl)).mono ?_
        rintro e w4 ⟨rfl, hg4⟩
        have hI4 := HI.out.stay hg4
        have e2 : H0.take (k + 1) = H0.take k := by rw [H_all _ (by omega), H_all _ (by omega)]
        obtain ⟨v3', w5, hap, HC⟩ := HS.out u2 w4 (by rw [e2, show min (k + 1) 8 = min k 8 by omega]; exact hI4.o2) hI4.o3 hI4.lst hI4.a hI4.b hI4.c hI4.grown
        have HB := Lib.hid (And.intro hap HC); clear hap HC hg4 hI4 e2
        go_wp2_with (at_builtin; refine wpList_append_run rfl (.tmp 31) (.tmp 33) 23 rfl rfl _ _ rfl rfl _ _ HB.out.1 ?_)
        go_roundw
        case rel => exact ⟨k + 1, by omega, by go_num, Lib.hid HB.out.2⟩
        case measure => simp [intOf]; omega
    · obtain rfl : k = 80 := by omega
      have h2 := HI.out.o2
      have h3 := HI.out.o3
      have hg := HI.out.grown
      rw [H_all 80 (by decide)] at h2
      rw [List.take_of_length_le (show K.length ≤ 80 by decide)] at h3
      obtain ⟨g1, c1, rfl, _, _, _, l1⟩ := own_some h2 (by decide)
      obtain ⟨g2, c2, rfl, _, _, _, l2⟩ := own_some h3 (by decide)
      have hW1 : WordsAt wr g1 0 H0 := ⟨l1, fun i hi => by rw [Nat.zero_add]; exact own_cell h2 (u64_getD hi)⟩
      have hW2 : WordsAt wr g2 0 K := ⟨l2, fun i hi => by rw [Nat.zero_add]; exact own_cell h3 (u64_getD hi)⟩
      have HW := Lib.hid (And.intro hg (And.intro hW1 hW2)); clear h2 h3 hg hW1 hW2
      go_wp2
      go_ret2
      exact ⟨g1, c1, g2, c2, rfl, HW.out.1, HW.out.2.1, HW.out.2.2⟩
end Sha
end Go.Proofs.YtjnednikgnapnaaDoor
