/- Lists of bytes of one's own, in a list of one's own: what ApartBytes is asked of. -/
import Derived.Test.YtmnlidfalhjghaaGreatDoorApart
import Derived.Test.YtmnlidfalhjghaaGreatDoorOwnDown
namespace Go.Proofs.YtmnlidfalhjghaaGreatDoor
open Go.RowKit
namespace Ow
/-- where a list lies, its length, its room, what it holds -/
abbrev Rw1 := Option Addr × Nat × Nat × List Value
def rv (p : Rw1) : Value := .slice p.1 p.2.1 p.2.2.1
structure OutAt (w : World) (b0 : Nat) (v : Value) (L : List Rw1) : Prop where
  own : w.ownsRow b0 22 1 v L.length (L.map rv)
  each : ∀ p ∈ L, w.ownsRow b0 5 1 (rv p) p.2.1 p.2.2.2 ∧ p.2.1 ≤ 100000 ∧ ∀ g, (rv p).ownBlock = some g → v.ownBlock ≠ some g
  apart : L.Pairwise fun p q => (rv p).ownBlock = none ∨ (rv p).ownBlock ≠ (rv q).ownBlock
theorem OutAt.nil (w : World) (b0 : Nat) : OutAt w b0 (.slice none 0 0) [] := ⟨World.ownsRow_nil _ _ _ _, fun p hp => (by cases hp), List.Pairwise.nil⟩
theorem OutAt.stay {w w' : World} {b0 : Nat} {v : Value} {L : List Rw1} (h : OutAt w b0 v L) (hg : w.grownBy w' none) : OutAt w' b0 v L :=
  ⟨own_kept h.own hg, fun p hp => ⟨own_kept (h.each p hp).1 hg, (h.each p hp).2⟩, h.apart⟩
theorem OutAt.beside {w w' : World} {b0 T : Nat} {v : Value} {L : List Rw1} (h : OutAt w b0 v L) (hg : w.grownBy w' (some T)) (hT : T < b0) : OutAt w' b0 v L :=
  ⟨h.own.kept hg (Or.inr fun e => by have := (h.own.lt _ e).1; omega), fun p hp => ⟨(h.each p hp).1.kept hg (Or.inr fun e => by have := ((h.each p hp).1.lt _ e).1; omega), (h.each p hp).2⟩, h.apart⟩
theorem OutAt.below {w : World} {b0 : Nat} {v : Value} {L : List Rw1} (h : OutAt w b0 v L) : (∀ g, v.ownBlock = some g → g < w.heap.size) ∧ ∀ p ∈ L, ∀ g, (rv p).ownBlock = some g → g < w.heap.size :=
  ⟨fun g e => (h.own.lt g e).2, fun p hp g e => ((h.each p hp).1.lt g e).2⟩
theorem info_bs' : ∃ i, Tryz.prog.info? 22 = some i ∧ i.zero = some (.slice none 0 0) ∧ i.size = 1 ∧ i.bytes = 24 := by
  have h : (Tryz.prog.info? 22).map (fun i => (i.zero, i.size, i.bytes)) = some (some (.slice none 0 0), 1, 24) := by kernel_rfl
  cases hi : Tryz.prog.info? 22 with
  | none => rw [hi] at h; cases h
  | some i =>
    rw [hi] at h
    simp only [Option.map_some, Option.some.injEq, Prod.mk.injEq] at h
    exact ⟨i, rfl, h.1, h.2.1, h.2.2⟩
/-- rows appended to a list of one's own: its block is the former one, or a new one -/
theorem append_rowsN (w : World) (base n m X : Nat) (v : Value) (xs news : List Value) (hown : w.ownsRow base 22 1 v n xs) (hl : news.length = m) (h0 : 0 < m) (hx : ∀ j u, news[j]? = some u → w.cell? ⟨X, 0 + j, none⟩ = some u) (h1 : ∀ u ∈ news, u.oneCell' = true) (hn : n + m ≤ 1000000000) (hbase : base ≤ w.heap.size) :
    ∃ v' w', (Builtin.append_ #[31, 31] 31 #[v, .slice (some ⟨X, 0, none⟩) m m]).run Tryz.prog w = .ok v' w' ∧ w'.ownsRow base 22 1 v' (n + m) (xs ++ news) ∧ w.grownBy w' v.ownBlock ∧ ∀ g, v'.ownBlock = some g → v.ownBlock = some g ∨ w.heap.size ≤ g := by
  obtain ⟨i, hi, hz, hs, hb⟩ := info_bs'
  have hnews : ∀ j u, news[j]? = some u → w.cell? ((⟨X, 0, none⟩ : Addr).add j) = some u := fun j u hu => by rw [Addr.add_lit]; exact hx j u hu
  have hl1 : news.length = m * 1 := by omega
  obtain ⟨v', w', hr, ho, hg, _⟩ := run_append_own (P := Tryz.prog) w base 31 31 22 i (.slice none 0 0) 1 24 Tryz.underlying31 hi hz hs hb rfl (by decide) v n xs hown ⟨X, 0, none⟩ m m news hl1 hnews h1 (by unfold maxLen; omega) (by omega) hbase
  refine ⟨v', w', hr, ho, hg, fun g e => ?_⟩
  rcases hown.2 with ⟨rfl, h0'⟩ | ⟨g0, cap, cur, rfl, hbg, hgg, hnc, hcm, hcs, ht⟩
  · have hr2 := run_append_nil (P := Tryz.prog) w 31 31 22 i (.slice none 0 0) Tryz.underlying31 hi hz ⟨X, 0, none⟩ m m news (by rw [hs]; exact hl1) hnews h0 (by omega) (by rw [hb]; omega)
    rw [hr] at hr2
    simp only [Result.ok.injEq] at hr2
    rw [hr2.1] at e
    simp only [Value.ownBlock, Option.some.injEq] at e
    exact Or.inr (by omega)
  · by_cases hroom : n + m ≤ cap
    · have hr2 := run_append_room (P := Tryz.prog) w 31 31 22 i Tryz.underlying31 hi g0 n cap cur hgg ⟨X, 0, none⟩ m m news (by rw [hs]; exact hl1) hnews h1 hroom (by rw [hs, hl, hcs]; omega)
      rw [hr] at hr2
      simp only [Result.ok.injEq] at hr2
      rw [hr2.1] at e
      exact Or.inl e
    · have holds : ∀ j u, xs[j]? = some u → w.cell? ((⟨g0, 0, none⟩ : Addr).add j) = some u := World.ownsRow.cells hown (g := g0) rfl
      have hr2 := run_append_grow (P := Tryz.prog) w 31 31 22 i (.slice none 0 0) Tryz.underlying31 hi hz ⟨g0, 0, none⟩ n cap xs (by rw [hs]; exact hown.1) holds ⟨X, 0, none⟩ m m news (by rw [hs]; exact hl1) hnews (by omega) (by omega) (growslice_fits (by omega) (by rw [hb]; omega))
      rw [hr] at hr2
      simp only [Result.ok.injEq] at hr2
      rw [hr2.1] at e
      simp only [Value.ownBlock, Option.some.injEq] at e
      exact Or.inr (by omega)
theorem outs_push (w : World) (b0 n0 X : Nat) (v : Value) (L N : List Rw1) (h : OutAt w b0 v L) (hv : ∀ g, v.ownBlock = some g → g < n0) (hL : ∀ p ∈ L, ∀ g, (rv p).ownBlock = some g → g < n0)
    (hN : ∀ p ∈ N, w.ownsRow n0 5 1 (rv p) p.2.1 p.2.2.2 ∧ p.2.1 ≤ 100000) (hNA : N.Pairwise fun p q => (rv p).ownBlock = none ∨ (rv p).ownBlock ≠ (rv q).ownBlock) (h0 : 0 < N.length)
    (hX : ∀ j u, (N.map rv)[j]? = some u → w.cell? ⟨X, 0 + j, none⟩ = some u) (hb : b0 ≤ n0) (hb2 : n0 ≤ w.heap.size) (hlen : L.length + N.length ≤ 1000000000) :
    ∃ v' w', (Builtin.append_ #[31, 31] 31 #[v, .slice (some ⟨X, 0, none⟩) N.length N.length]).run Tryz.prog w = .ok v' w' ∧ OutAt w' b0 v' (L ++ N) ∧ w.grownBy w' v.ownBlock := by
  obtain ⟨v', w', hr, ho, hg, hnew⟩ := append_rowsN w b0 L.length N.length X v (L.map rv) (N.map rv) h.own (List.length_map _) h0 hX (fun u hu => by obtain ⟨p, _, rfl⟩ := List.mem_map.1 hu; rfl) hlen (Nat.le_trans hb hb2)
  refine ⟨v', w', hr, ⟨by rw [List.length_append, List.map_append]; exact ho, fun p hp => ?_, ?_⟩, hg⟩
  · rcases List.mem_append.1 hp with hp | hp
    · obtain ⟨k1, k2, k3⟩ := h.each p hp
      refine ⟨k1.kept hg ?_, k2, fun g e e2 => ?_⟩
      · cases hpb : (rv p).ownBlock with
        | none => exact Or.inl rfl
        | some g => exact Or.inr fun e => k3 g hpb e.symm
      · rcases hnew g e2 with h2 | h2
        · exact k3 g e h2
        · have := (k1.lt g e).2; omega
    · obtain ⟨k1, k2⟩ := hN p hp
      refine ⟨(own_down k1 hb).kept hg ?_, k2, fun g e e2 => ?_⟩
      · cases hpb : (rv p).ownBlock with
        | none => exact Or.inl rfl
        | some g => exact Or.inr fun e => by have := hv g e.symm; have := (k1.lt g hpb).1; omega
      · rcases hnew g e2 with h2 | h2
        · have := hv g h2; have := (k1.lt g e).1; omega
        · have := (k1.lt g e).2; omega
  · refine List.pairwise_append.2 ⟨h.apart, hNA, fun p hp q hq => ?_⟩
    cases hpb : (rv p).ownBlock with
    | none => exact Or.inl rfl
    | some g => exact Or.inr fun e => by have := hL p hp g hpb; have := ((hN q hq).1.lt g e.symm).1; omega
/-- a list of rows, just laid -/
theorem outs_lit (w : World) (b0 n : Nat) (L : List Rw1) (hn : L.length = n) (h : ∀ p ∈ L, w.ownsRow b0 5 1 (rv p) p.2.1 p.2.2.2 ∧ p.2.1 ≤ 100000) (ha : L.Pairwise fun p q => (rv p).ownBlock = none ∨ (rv p).ownBlock ≠ (rv q).ownBlock) (hb : b0 ≤ w.heap.size) (hm : n ≤ 1000000) :
    OutAt (w.alloc (.cells (L.map rv).toArray 22)) b0 (.slice (some ⟨w.heap.size, 0, none⟩) n n) L := by
  subst hn
  have hg := gb_alloc (gb_refl w none) (.cells (L.map rv).toArray 22)
  refine ⟨⟨by simp, Or.inr ⟨w.heap.size, L.length, (L.map rv).toArray, rfl, hb, Blk.new w (L.map rv) _, Nat.le_refl _, by unfold maxLen; omega, by simp, by rw [Nat.mul_one]; exact List.take_of_length_le (by simp)⟩⟩, fun p hp => ?_, ha⟩
  obtain ⟨h1, h2⟩ := h p hp
  refine ⟨own_kept h1 hg, h2, fun g e e2 => ?_⟩
  simp only [Value.ownBlock, Option.some.injEq] at e2
  have := (h1.lt g e).2
  omega
/-- rows that rise lie apart -/
theorem rise_apart {p q : Rw1} {a : Nat} (h1 : ∀ g, (rv p).ownBlock = some g → g < a) (h2 : ∀ g, (rv q).ownBlock = some g → a ≤ g) : (rv p).ownBlock = none ∨ (rv p).ownBlock ≠ (rv q).ownBlock := by
  cases hp : (rv p).ownBlock with
  | none => exact Or.inl rfl
  | some g => exact Or.inr fun e => by have := h1 g hp; have := h2 g e.symm; omega
/-- all of them lie apart -/
theorem apart_all {f : Nat → Nat → Nat} (hf : Marks f) (w0 w : World) (v : Value) (b0 : Nat) (L : List Rw1) (h : OutAt w b0 v L) (hb : w0.heap.size ≤ b0) (hg : w0.grownBy w none) (hl : 0 < L.length) (hl2 : L.length ≤ 70000) :
    Calls Tryz.prog 17 #[v] w fun e w' => e = .returned (.bool true) ∧ w0.grownBy w' none := by
  obtain ⟨m, hm⟩ : ∃ m, m = L.length := ⟨_, rfl⟩
  have hgd : ∀ j (hj : j < L.length) (d : Rw1), L.getD j d = L[j] := fun j hj d => by rw [List.getD_eq_getElem?_getD, List.getElem?_eq_getElem hj]; rfl
  obtain ⟨d, _⟩ : ∃ d : Rw1, d = (none, 0, 0, []) := ⟨_, rfl⟩
  obtain ⟨V, hV⟩ : ∃ V : Lists, V = ⟨fun j => (L.getD j d).1, fun j => (L.getD j d).2.1, fun j => (L.getD j d).2.2.1⟩ := ⟨_, rfl⟩
  have hVv : ∀ j, V.v j = rv (L.getD j d) := fun j => by rw [hV]; rfl
  have hVg : ∀ j, V.g j = (rv (L.getD j d)).ownBlock := fun j => by rw [← hVv, V.own_block]
  have hVn : ∀ j, V.n j = (L.getD j d).2.1 := fun j => by rw [hV]
  have hmem : ∀ j, j < L.length → L.getD j d ∈ L := fun j hj => by rw [hgd j hj]; exact List.getElem_mem _
  obtain ⟨g, c, cur, rfl, hbg, hgg, hnc, hcm, hcs, ht⟩ := h.own.2.resolve_left (fun hh => by omega)
  have hap := List.pairwise_iff_getElem.1 h.apart
  have hA : V.Apart L.length g w.heap.size := by
    refine ⟨fun j k hj hk hne => ?_, fun j hj e => ?_, fun j hj i e => ?_, fun j hj => ?_⟩
    · rw [hVg, hVg, hgd j hj, hgd k hk]
      rcases (by omega : j < k ∨ k < j) with hjk | hjk
      · exact hap j k hj hk hjk
      · rcases hap k j hk hj hjk with h1 | h1
        · cases h2 : (rv L[j]).ownBlock with
          | none => exact Or.inl rfl
          | some x => exact Or.inr fun e => by rw [← e] at h1; cases h1
        · exact Or.inr fun e => h1 e.symm
    · rw [hVg] at e
      exact (h.each _ (hmem j hj)).2.2 g e rfl
    · rw [hVg] at e
      exact ((h.each _ (hmem j hj)).1.lt i e).2
    · rw [hVn]; exact (h.each _ (hmem j hj)).2.1
  have hO : Owns w V L.length (fun j => (L.getD j d).2.2.2) := fun j hj => by
    rw [hVv, hVn]
    exact own_down (h.each _ (hmem j hj)).1 (Nat.zero_le _)
  have hLs : ListAt w g V L.length := by
    refine ⟨cur.toList.drop (L.length * 1), ?_⟩
    have e : (List.range L.length).map V.v = L.map rv := by
      apply List.ext_getElem?
      intro j
      by_cases hj : j < L.length
      · rw [List.getElem?_map, List.getElem?_map, List.getElem?_range hj, List.getElem?_eq_getElem hj]
        simp only [Option.map_some]
        rw [hVv, hgd j hj]
      · rw [List.getElem?_eq_none (by simp; omega), List.getElem?_eq_none (by simp; omega)]
    rw [e, ← ht, List.take_append_drop]
    unfold Blk
    rw [hgg]
  refine (apartB_any hf V L.length g c _ w hl2 hl hnc (by unfold maxLen at hcm; omega) hA hO hLs).mono ?_
  rintro e w' ⟨rfl, _, hk⟩
  refine ⟨rfl, hk.os.trans hg.os, hk.tape.trans hg.tape, hk.output.trans hg.output, Nat.le_trans hg.size hk.size, fun i hi hr => (hk.block i (Nat.lt_of_lt_of_le hi hg.size) ?_).trans (hg.block i hi hr)⟩
  rintro ⟨j, hj, e⟩
  rw [hVg] at e
  have := ((h.each _ (hmem j hj)).1.lt i e).1
  omega
end Ow
end Go.Proofs.YtmnlidfalhjghaaGreatDoor
