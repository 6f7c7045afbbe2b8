/- sha's constants out of roots: the first primes. -/
import Derived.Test.YtjnednikgnapnaaDoorShaRootR
import Derived.Deep.RegionWith
namespace Go.Proofs.YtjnednikgnapnaaDoor
open Go.RowKit Ow Ns
namespace Sha
def iN (n : Nat) : Value := .int .i64 n
theorem info_int : ∃ i, Tryd.prog.info? 3 = some i ∧ i.zero = some (.int .i64 0) ∧ i.size = 1 ∧ i.bytes = 8 := by
  have h : (Tryd.prog.info? 3).map (fun i => (i.zero, i.size, i.bytes)) = some (some (.int .i64 0), 1, 8) := by kernel_rfl
  cases hi : Tryd.prog.info? 3 with
  | none => rw [hi] at h; cases h
  | some i =>
    rw [hi] at h
    simp only [Option.map_some, Option.some.injEq, Prod.mk.injEq] at h
    exact ⟨i, rfl, h.1, h.2.1, h.2.2⟩
abbrev OwnI (w : World) (b : Nat) (v : Value) (l : List Nat) : Prop := w.ownsRow b 3 1 v l.length (l.map iN)
theorem append_int (w : World) (base : Nat) (v : Value) (l : List Nat) (N cc T x : Nat) (hown : OwnI w base v l) (hx : Blk w N T [iN x]) (hn : l.length ≤ 1000) (hbase : base ≤ w.heap.size) :
    ∃ v' w', (Builtin.append_ #[31, 31] 31 #[v, .slice (some ⟨N, 0, none⟩) 1 cc]).run Tryd.prog w = .ok v' w' ∧ OwnI w' base v' (l ++ [x]) ∧ w.grownBy w' v.ownBlock := by
  obtain ⟨i, hi, hz, hs, hb⟩ := info_int
  obtain ⟨v', w', hr, ho, hg, _⟩ := run_append_own (P := Tryd.prog) w base 31 31 3 i (.int .i64 0) 1 8 Tryd.underlying31 hi hz hs hb rfl (by decide) v l.length (l.map iN) hown ⟨N, 0, none⟩ 1 cc [iN x] rfl
      (fun j u hu => by rw [Addr.add_lit, Nat.zero_add]; exact hx.cell hu) (fun u hu => by obtain rfl := List.mem_singleton.1 hu; rfl) (by unfold maxLen; omega) (by omega) hbase
  refine ⟨v', w', hr, ?_, hg⟩
  unfold OwnI
  rw [List.length_append, List.map_append]
  exact ho
theorem own_shapeI {w : World} {b : Nat} {v : Value} {l : List Nat} (h : OwnI w b v l) : ∃ a c, v = .slice a l.length c := by
  rcases h.2 with ⟨rfl, h0⟩ | ⟨g, c, _, rfl, _⟩
  · exact ⟨none, 0, by rw [h0]⟩
  · exact ⟨_, c, rfl⟩
theorem own_atI {w : World} {b n c : Nat} {a : Option Addr} {l : List Nat} (h : OwnI w b (.slice a n c) l) (i : Nat) (hi : i < l.length) : ∃ g, a = some ⟨g, 0, none⟩ ∧ w.cell? ⟨g, i, none⟩ = some (.int .i64 (l.getD i 0 : Nat)) := by
  rcases h.2 with ⟨e, h0⟩ | ⟨g, c', _, e, _⟩
  · omega
  · cases e
    refine ⟨g, rfl, ?_⟩
    have := h.cells (g := g) rfl i (iN (l.getD i 0)) (by rw [List.getElem?_map, List.getElem?_eq_getElem hi, List.getD_eq_getElem?_getD, List.getElem?_eq_getElem hi]; rfl)
    rw [Addr.add_lit, Nat.zero_add] at this
    exact this
theorem primes_done {fuel n : Nat} {l : List Nat} (h : primesFrom 80 fuel n l = primes80) (hl : ¬ l.length < 80) : l = primes80 := by
  cases fuel with
  | zero => exact h
  | succ f => rw [← h]; show l = if l.length < 80 then _ else l; rw [if_neg hl]
theorem primes_next {fuel n : Nat} {l : List Nat} (h : primesFrom 80 fuel n l = primes80) (hl : l.length < 80) : ∃ f, fuel = f + 1 ∧ primesFrom 80 f (n + 1) (if l.all (fun q => n % q != 0) then l ++ [n] else l) = primes80 := by
  cases fuel with
  | zero =>
    exfalso
    have e : l = primes80 := h
    have := primes80_length
    rw [← e] at this
    omega
  | succ f =>
    refine ⟨f, rfl, ?_⟩
    rw [← h]
    show _ = if l.length < 80 then _ else l
    rw [if_pos hl]
set_option maxHeartbeats 4000000 in
set_option maxRecDepth 100000 in
theorem primes_any (w : World) :
    Calls Tryd.prog 10 #[.int .i64 80] w fun e w' => ∃ v, e = .returned v ∧ w.grownBy w' none ∧ OwnI w' w.heap.size v primes80 := by
  go_enter Tryd.func10, Tryd.ntmps10
  go_wp2_with fail
  go_loopw [3, 4] (fun v nv wr => ∃ (a : Option Addr) (c n fuel : Nat) (l : List Nat), v = .slice a l.length c ∧ nv = .int .i64 n ∧ n + fuel = 412 ∧ l.length ≤ 80 ∧ 2 ≤ n ∧ Hid (w.grownBy wr none ∧ OwnI wr w.heap.size (.slice a l.length c) l ∧ primesFrom 80 fuel n l = primes80 ∧ ∀ q ∈ l, 2 ≤ q)) (fun _ nv _ => 412 - (intOf nv).toNat)
  case atStart => exact ⟨none, 0, 2, 410, [], rfl, rfl, rfl, by decide, by decide, gb_refl _ _, World.ownsRow_nil _ _ _ _, rfl, fun q hq => (by cases hq)⟩
  case round =>
    obtain ⟨a, c, n, fuel, l, rfl, rfl, hnf, hl80, hn2, HI⟩ := hrel
    by_cases hlt : l.length < 80
    · have j0 : (l.length : Int) < 80 := by omega
      obtain ⟨f, rfl, hnx⟩ := primes_next HI.out.2.2.1 hlt
      obtain ⟨m, hm⟩ : ∃ m, m = l.length := ⟨_, rfl⟩
      rw [← hm] at j0 ⊢
      have HN := Lib.hid (And.intro hnx hm)
      clear hnx
      go_wp2_with fail
      go_loopw [5, 6] (fun bv iv w2 => ∃ (i : Nat) (b : Bool), i ≤ m ∧ bv = .bool b ∧ iv = .int .i64 i ∧ Hid (w2 = wr ∧ b = (l.take i).all (fun q => n % q != 0))) (fun _ iv _ => m - (intOf iv).toNat)
      case atStart => exact ⟨0, true, by omega, rfl, rfl, rfl, by simp⟩
      case round =>
        obtain ⟨i, b, him, rfl, rfl, HJ⟩ := hrel
        obtain rfl := HJ.out.1
        by_cases hi : i < m
        · have j1 : (i : Int) < (m : Int) := by omega
          cases b with
          | false =>
            have HB : Hid (false = (l.take (i + 1)).all (fun q => n % q != 0)) := by
              show false = _
              rw [List.take_add_one, List.all_append, ← HJ.out.2]; rfl
            go_wp2
            exact ⟨⟨i + 1, false, by omega, rfl, rfl, trivial, HB.out⟩, by show m - ((i : Int) + 1).toNat < m - (i : Int).toNat; omega⟩
          | true =>
            obtain ⟨g, rfl, cq⟩ := own_atI HI.out.2.1 i (by omega)
            have hq2 := HI.out.2.2.2 (l.getD i 0) (by rw [List.getD_eq_getElem?_getD, List.getElem?_eq_getElem (by omega)]; exact List.getElem_mem _)
            have HB : Hid ((n % l.getD i 0 != 0) = (l.take (i + 1)).all (fun q => n % q != 0)) := by
              show _ = _
              rw [List.take_add_one, List.all_append, ← HJ.out.2, List.getElem?_eq_getElem (by omega), List.getD_eq_getElem?_getD, List.getElem?_eq_getElem (by omega)]
              simp
            generalize l.getD i 0 = x at *
            have hx0 : (x : Int) ≠ 0 := by omega
            have hx1 : ¬ (x : Int) = 0 := by omega
            have hbb : Hid (((n : Int) % (x : Int) != 0) = (n % x != 0)) := by
              show (((n % x : Nat) : Int) != 0) = _
              cases n % x <;> rfl
            go_wp2
            exact ⟨⟨i + 1, _, by omega, rfl, rfl, trivial, hbb.out.trans HB.out⟩, by show m - ((i : Int) + 1).toNat < m - (i : Int).toNat; omega⟩
        · obtain rfl : i = m := by omega
          have j1 : ¬ (i : Int) < (i : Int) := by omega
          have hall : l.take i = l := by rw [HN.out.2]; exact List.take_length
          have HB := Lib.hid HJ.out.2
          rw [hall] at HB
          cases b with
          | false =>
            have HL := HN.out.1
            rw [← HB.out] at HL
            have HL := Lib.hid HL
            go_wp2
            exact ⟨⟨a, c, n + 1, f, l, by rw [HN.out.2], rfl, by omega, hl80, by omega, HI.out.1, HI.out.2.1, HL.out, HI.out.2.2.2⟩, by show 412 - ((n : Int) + 1).toNat < 412 - (n : Int).toNat; omega⟩
          | true =>
            have hnx2 : primesFrom 80 f (n + 1) (l ++ [n]) = primes80 := by
              have h := HN.out.1
              rw [← HB.out, if_pos rfl] at h
              exact h
            have hg1 := gb_alloc HI.out.1 (.cells #[.int .i64 (n : Int)] 3)
            have ho1 := World.ownsRow.alloc HI.out.2.1 (.cells #[.int .i64 (n : Int)] 3)
            obtain ⟨v', w3, hap, ho', hg3⟩ := append_int (wr.alloc (.cells #[.int .i64 (n : Int)] 3)) w.heap.size (.slice a l.length c) l wr.heap.size 1 3 n ho1 (Blk.new wr [iN n] 3) (by omega) hg1.size
            obtain ⟨a', c', rfl⟩ := own_shapeI ho'
            have HE := Lib.hid (And.intro (gb_own hg1 ho1 (Nat.le_refl _) hg3) (And.intro ho' (And.intro hnx2 (show ∀ q ∈ l ++ [n], 2 ≤ q from fun q hq => (List.mem_append.1 hq).elim (HI.out.2.2.2 q) (fun h => by rw [List.mem_singleton.1 h]; exact hn2)))))
            have hll : (l ++ [n]).length = i + 1 := by rw [List.length_append, ← HN.out.2]; rfl
            rw [← HN.out.2, hll] at hap
            have HAP := Lib.hid hap
            replace hll := Lib.hid hll
            clear hap ho' hg3 hnx2 hg1 ho1 hall
            go_upto_region 11 with fail
            go_wp2_with (at_builtin; refine wpList_append_run rfl (.tmp 30) (.tmp 32) 31 rfl rfl _ _ rfl rfl _ _ HAP.out ?_)
            exact ⟨⟨a', c', n + 1, f, l ++ [n], by rw [hll.out, HN.out.2], rfl, by omega, by rw [hll.out]; omega, by omega, HE.out.1, HE.out.2.1, HE.out.2.2.1, HE.out.2.2.2⟩, by show 412 - ((n : Int) + 1).toNat < 412 - (n : Int).toNat; omega⟩
    · have e := primes_done HI.out.2.2.1 hlt
      have j0 : ¬ (l.length : Int) < 80 := by omega
      have HE := Lib.hid (And.intro HI.out.1 HI.out.2.1)
      rw [e] at HE
      go_wp2
      go_ret
      exact ⟨_, rfl, HE.out.1, by rw [e] at *; exact HE.out.2⟩
end Sha
end Go.Proofs.YtjnednikgnapnaaDoor
