/- append of a make, to bytes that are one's own: zeros behind them. -/
import Derived.Test.YtlkiancedgaicaaGreatMake
import Derived.Lib.AppendZeros
import Derived.Lib.AppendZerosOnto
namespace Go.Proofs.YtlkiancedgaicaaGreat
open Go.RowKit Ow

theorem zeros_u8 (n : Nat) : Builtin.zeroCells (Value.int .u8 0).cells n = (List.replicate n (u8N 0)).toArray := by
  unfold Builtin.zeroCells u8N
  apply Array.ext
  · simp [Value.cells]
  · intro i h1 h2
    simp [Value.cells, Nat.mod_one]
theorem append_zeros_fits (w : World) (g n cap k : Nat) (cur : Array Value) (hk : 0 < k) (hs : n + k ≤ 1000000) (hg : w.heap[g]? = some (.cells cur 5 (0, 0))) (hroom : n + k ≤ cap) (hfit : n + k ≤ cur.size) :
    (Builtin.append_ #[23, 3] 23 #[.slice (some ⟨g, 0, none⟩) n cap, .int .i64 k]).run Tryz.prog w =
      .ok (.slice (some ⟨g, 0, none⟩) (n + k) cap) (w.setRow g (cur.toList.take n ++ List.replicate k (u8N 0) ++ cur.toList.drop (n + k)).toArray) := by
  obtain ⟨i, hi, hz, hsz, hb⟩ := info_u8z
  have hst := run_storeCells_at Tryz.prog g n 5 (List.replicate k (u8N 0)) 0 cur w hg (by simpa using hfit) (fun u hu => by rw [(List.mem_replicate.1 hu).2]; rfl)
  simp only [Nat.add_zero, List.length_replicate] at hst
  have hw : IntKind.i64.wrap (k : Int) = k := by rw [IntKind.wrap_i64]; omega
  have hneg : ¬ ((k : Int) < 0) := by omega
  have hbig : ¬ (281474976710656 < (k : Int) * (1 : Int)) := by omega
  have hk0 : k ≠ 0 := by omega
  have hzz := zeros_u8 k
  simp [Builtin.append_, run_underlying (Tryz.underlying23), run_underlying (Tryz.underlying3), sizeOf, typeInfo, zeroValue, hi, hz, hsz, hb, asInt, asIntOf, hw, hneg, hk0, hroom, Addr.add_lit, hzz, hst]
  omega
theorem append_zeros (w : World) (base n k : Nat) (v : Value) (xs : List Value) (hown : w.ownsRow base 5 1 v n xs) (hk : 0 < k) (hs : n + k ≤ 1000000) (hbase : base ≤ w.heap.size) :
    ∃ v' w', (Builtin.append_ #[23, 3] 23 #[v, .int .i64 k]).run Tryz.prog w = .ok v' w' ∧ w'.ownsRow base 5 1 v' (n + k) (xs ++ List.replicate k (u8N 0)) ∧ w.grownBy w' v.ownBlock := by
  obtain ⟨i, hi, hz, hsz, hb⟩ := info_u8z
  have hx := hown.1
  have hlen : (xs ++ List.replicate k (u8N 0)).length = (n + k) * 1 := by rw [List.length_append, hx, List.length_replicate]; omega
  have h63 : n + k ≤ maxLen := by unfold maxLen; omega
  have grown : ∀ (old : Nat) (row : Option Nat),
      (w.drew.alloc (.cells (xs.toArray ++ (List.replicate k (u8N 0)).toArray ++ Builtin.zeroCells (Value.int .u8 0).cells (grownCap w (n + k) old 5 - (n + k))) 5)).ownsRow base 5 1
        (.slice (some ⟨w.heap.size, 0, none⟩) (n + k) (grownCap w (n + k) old 5)) (n + k) (xs ++ List.replicate k (u8N 0)) ∧
      w.grownBy (w.drew.alloc (.cells (xs.toArray ++ (List.replicate k (u8N 0)).toArray ++ Builtin.zeroCells (Value.int .u8 0).cells (grownCap w (n + k) old 5 - (n + k))) 5)) row := by
    intro old row
    have hge := grownCap_ge w (n + k) old 5
    have hcm : grownCap w (n + k) old 5 ≤ maxLen := grownCap_le_maxLen w (n + k) old 5 h63
    refine ⟨⟨hlen, .inr ⟨w.heap.size, _, _, rfl, hbase, heap_alloc_new w.drew _, hge, hcm, ?_, ?_⟩⟩, ⟨rfl, rfl, rfl, by simp, fun j hj _ => heap_alloc_old w.drew _ hj⟩⟩
    · rw [zeros_u8]
      simp only [Array.size_append, List.size_toArray, List.length_replicate, hx]
      omega
    · simp only [Array.toList_append, List.append_assoc]
      rw [← List.append_assoc, ← hlen]
      exact List.take_left
  rcases hown.2 with ⟨rfl, rfl⟩ | ⟨g, cap, cur, rfl, hbg, hg, hnc, hcm, hcs, htake⟩
  · have hx0 : xs = [] := List.eq_nil_of_length_eq_zero (by simpa using hx)
    subst hx0
    have hr := Lib.run_append_nil_zeros (P := Tryz.prog) w 23 3 23 5 i (.int .u8 0) .i64 .i64 Tryz.underlying23 Tryz.underlying3 hi hz k hk (by omega) (by omega) (by rw [hb]; omega)
    have hgr := grown 0 (Value.ownBlock (.slice none 0 0))
    rw [zeros_u8 k] at hr
    simp only [Nat.zero_add, List.nil_append, Array.empty_append] at hgr ⊢
    exact ⟨_, _, hr, hgr.1, hgr.2⟩
  · by_cases hroom : n + k ≤ cap
    · have hr := append_zeros_fits w g n cap k cur hk hs hg hroom (by omega)
      refine ⟨_, _, hr, ⟨hlen, .inr ⟨g, cap, _, rfl, hbg, setRow_heap w g cur _ _ _ hg, hroom, hcm, ?_, ?_⟩⟩, ⟨rfl, rfl, rfl, by simp, fun j _ hj => setRow_other w g j _ (fun e => hj (by simp [Value.ownBlock, e]))⟩⟩
      · simp only [List.size_toArray, List.length_append, List.length_take, List.length_drop, Array.length_toList, List.length_replicate]
        omega
      · rw [← hlen]
        have ht2 : cur.toList.take n = xs := by simpa using htake
        show List.take _ (cur.toList.take n ++ List.replicate k (u8N 0) ++ cur.toList.drop (n + k)) = _
        rw [ht2]
        exact List.take_left
    · have holds : ∀ j u, xs[j]? = some u → w.cell? ((⟨g, 0, none⟩ : Addr).add j) = some u := hown.cells (g := g) rfl
      have hf := run_firstCells_some (P := Tryz.prog) w.drew i.size n ⟨g, 0, none⟩ n cap xs (by rw [hsz]; exact hx) holds
      have hr := Lib.run_append_grow_zeros (P := Tryz.prog) w 23 3 23 5 i (.int .u8 0) .i64 .i64 Tryz.underlying23 Tryz.underlying3 hi hz (some ⟨g, 0, none⟩) n cap xs hf k hk (by omega) (by omega) (by omega) (by rw [hb]; omega) (by have := nextslicecap_le (need := n + k) (old := cap) (by omega); rw [hb]; omega)
      rw [zeros_u8 k] at hr
      have hgr := grown cap (Value.ownBlock (.slice (some ⟨g, 0, none⟩) n cap))
      exact ⟨_, _, hr, hgr.1, hgr.2⟩
end Go.Proofs.YtlkiancedgaicaaGreat
