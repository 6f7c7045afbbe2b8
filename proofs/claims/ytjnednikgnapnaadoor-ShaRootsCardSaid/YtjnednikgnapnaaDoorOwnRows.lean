/- Rows of one's own, several beside each other: what a call may change (Kb S), appends by cases, cells set. -/
import Derived.Test.YtjnednikgnapnaaDoorOwn
import Derived.WalkKit
namespace Go.Proofs.YtjnednikgnapnaaDoor
open Go.RowKit Ow

/-- all but the blocks of S is as it was -/
structure Kb (S : Nat → Prop) (w w' : World) : Prop where
  os : w'.os = w.os
  tape : w'.tape = w.tape
  output : w'.output = w.output
  size : w.heap.size ≤ w'.heap.size
  block : ∀ i, i < w.heap.size → ¬ S i → w'.heap[i]? = w.heap[i]?
theorem kb_refl (S : Nat → Prop) (w : World) : Kb S w w := ⟨rfl, rfl, rfl, Nat.le_refl _, fun _ _ _ => rfl⟩
theorem kb_trans {S : Nat → Prop} {a b c : World} (h : Kb S a b) (k : Kb S b c) : Kb S a c :=
  ⟨k.os.trans h.os, k.tape.trans h.tape, k.output.trans h.output, Nat.le_trans h.size k.size, fun i hi hs => (k.block i (Nat.lt_of_lt_of_le hi h.size) hs).trans (h.block i hi hs)⟩
/-- .. and something that grows, or writes a row of S, or a new one -/
theorem kb_then {S : Nat → Prop} {a b c : World} {row : Option Nat} (h : Kb S a b) (k : b.grownBy c row) (hr : ∀ r, row = some r → S r ∨ a.heap.size ≤ r) : Kb S a c :=
  ⟨k.os.trans h.os, k.tape.trans h.tape, k.output.trans h.output, Nat.le_trans h.size k.size, fun i hi hs => (k.block i (Nat.lt_of_lt_of_le hi h.size) (fun e => by
    rcases hr i e.symm with h1 | h1
    · exact hs h1
    · omega)).trans (h.block i hi hs)⟩
theorem kb_stay {S : Nat → Prop} {a b c : World} (h : Kb S a b) (k : b.grownBy c none) : Kb S a c := kb_then h k (fun r e => by cases e)
theorem kb_drewN {S : Nat → Prop} {a b : World} (h : Kb S a b) (n : Nat) : Kb S a (b.drewN n) := ⟨h.os, h.tape, h.output, h.size, h.block⟩
/-- new blocks alone are turned, seen from an elder world -/
theorem gb_kb {S : Nat → Prop} {w0 a b : World} (h : w0.grownBy a none) (k : Kb S a b) (hS : ∀ i, S i → w0.heap.size ≤ i) : w0.grownBy b none :=
  ⟨k.os.trans h.os, k.tape.trans h.tape, k.output.trans h.output, Nat.le_trans h.size k.size, fun i hi _ => (k.block i (Nat.lt_of_lt_of_le hi h.size) (fun hs => by have := hS i hs; omega)).trans (h.block i hi (by simp))⟩
theorem Kb.blk {S : Nat → Prop} {w w' : World} (k : Kb S w w') {B : Nat} {T : TypeId} {L : List Value} (h : Blk w B T L) (hs : ¬ S B) : Blk w' B T L := by
  have hlt := h.lt
  unfold Blk at h ⊢; rw [k.block B hlt hs]; exact h
theorem Kb.cell {S : Nat → Prop} {w w' : World} (k : Kb S w w') {p : Addr} (hp : p.block < w.heap.size) (hs : ¬ S p.block) : w'.cell? p = w.cell? p := World.cell?_of_block (w := w) (k.block p.block hp hs)
theorem own_lt {w : World} {base e n g c : Nat} {xs : List Value} (h : w.ownsRow base e 1 (.slice (some ⟨g, 0, none⟩) n c) n xs) : g < w.heap.size ∧ base ≤ g ∧ n ≤ c := by
  rcases h.2 with ⟨h0, _⟩ | ⟨g', c', cur, e1, hb, hg, hnc, _⟩
  · cases h0
  · cases e1
    exact ⟨(Array.getElem?_eq_some_iff.1 hg).1, hb, hnc⟩
/-- what is a row of one's own -/
theorem own_shape {w : World} {base e n : Nat} {v : Value} {xs : List Value} (h : w.ownsRow base e 1 v n xs) : (v = .slice none 0 0 ∧ n = 0) ∨ ∃ g c, v = .slice (some ⟨g, 0, none⟩) n c := by
  rcases h.2 with h0 | ⟨g', c', cur, e1, _⟩
  · exact Or.inl h0
  · exact Or.inr ⟨g', c', e1⟩
/-- a cell set -/
theorem own_set {w : World} {base e n g c i : Nat} {xs : List Value} (h : w.ownsRow base e 1 (.slice (some ⟨g, 0, none⟩) n c) n xs) (v : Value) : (w.setCell ⟨g, i, none⟩ v).ownsRow base e 1 (.slice (some ⟨g, 0, none⟩) n c) n (xs.set i v) := by
  refine ⟨by rw [List.length_set]; exact h.1, ?_⟩
  rcases h.2 with ⟨h0, _⟩ | ⟨g', c', cur, e1, hb, hg, hnc, hcm, hs, ht⟩
  · cases h0
  · cases e1
    have hblk : Blk w g e cur.toList := by unfold Blk; rw [hg]
    have h2 := hblk.set i v
    refine Or.inr ⟨g, c, (cur.toList.set i v).toArray, rfl, hb, h2, hnc, hcm, by simpa using hs, ?_⟩
    rw [← ht, List.take_set]
theorem own_free {w : World} {base e n g c : Nat} {xs : List Value} (h : w.ownsRow base e 1 (.slice (some ⟨g, 0, none⟩) n c) n xs) (i : Nat) : w.frozen? ⟨g, i, none⟩ = false := by
  rcases h.2 with ⟨h0, _⟩ | ⟨g', c', cur, e1, hb, hg, hnc, hcm, hs, ht⟩
  · cases h0
  · cases e1
    have hblk : Blk w g e cur.toList := by unfold Blk; rw [hg]
    exact hblk.free i
/-- its beginning -/
theorem own_take {w : World} {base e n n' g c : Nat} {xs : List Value} (h : w.ownsRow base e 1 (.slice (some ⟨g, 0, none⟩) n' c) n' xs) (hn : n ≤ n') : w.ownsRow base e 1 (.slice (some ⟨g, 0, none⟩) n c) n (xs.take n) := by
  have hl : xs.length = n' := by have := h.1; omega
  refine ⟨by rw [List.length_take]; omega, ?_⟩
  rcases h.2 with ⟨h0, _⟩ | ⟨g', c', cur, e1, hb, hg, hnc, hcm, hs, ht⟩
  · cases h0
  · cases e1
    refine Or.inr ⟨g, c, cur, rfl, hb, hg, by omega, hcm, hs, ?_⟩
    rw [← ht, List.take_take]; congr 1; omega
theorem own_rebase {w : World} {base b' e n g c : Nat} {xs : List Value} (h : w.ownsRow base e 1 (.slice (some ⟨g, 0, none⟩) n c) n xs) (hb : b' ≤ g) : w.ownsRow b' e 1 (.slice (some ⟨g, 0, none⟩) n c) n xs := by
  refine ⟨h.1, ?_⟩
  rcases h.2 with ⟨h0, _⟩ | ⟨g', c', cur, e1, _, hg, hnc, hcm, hs, ht⟩
  · cases h0
  · cases e1; exact Or.inr ⟨g, c, cur, rfl, hb, hg, hnc, hcm, hs, ht⟩
/-- elements of one cell -/
structure Elt (e st : TypeId) (bt : Nat) (z : Value) : Prop where
  sl : Tryd.prog.underlying st = some (.slice e)
  info : ∃ i, Tryd.prog.info? e = some i ∧ i.zero = some z ∧ i.size = 1 ∧ i.bytes = bt ∧ z.cells.size = 1
/-- an append by cases: there is room, or a new block -/
theorem append_cases {e st : TypeId} {bt : Nat} {z : Value} (hE : Elt e st bt z) (w : World) (base g n c : Nat) (xs : List Value) (hown : w.ownsRow base e 1 (.slice (some ⟨g, 0, none⟩) n c) n xs)
    (ad : Addr) (m cc : Nat) (news : List Value) (hl : news.length = m) (hnews : ∀ j u, news[j]? = some u → w.cell? (ad.add j) = some u) (h1 : ∀ u ∈ news, u.oneCell' = true) (hb : (n + m) * bt ≤ 140737488355328) (hb2 : n + m ≤ 140737488355328) :
    (n + m ≤ c ∧ ∃ w', (Builtin.append_ #[st, st] st #[.slice (some ⟨g, 0, none⟩) n c, .slice (some ad) m cc]).run Tryd.prog w = .ok (.slice (some ⟨g, 0, none⟩) (n + m) c) w' ∧ w'.ownsRow base e 1 (.slice (some ⟨g, 0, none⟩) (n + m) c) (n + m) (xs ++ news) ∧ w.grownBy w' (some g)) ∨
    (c < n + m ∧ ∃ c' w', (Builtin.append_ #[st, st] st #[.slice (some ⟨g, 0, none⟩) n c, .slice (some ad) m cc]).run Tryd.prog w = .ok (.slice (some ⟨w.heap.size, 0, none⟩) (n + m) c') w' ∧ w'.ownsRow w.heap.size e 1 (.slice (some ⟨w.heap.size, 0, none⟩) (n + m) c') (n + m) (xs ++ news) ∧ w.grownBy w' none) := by
  obtain ⟨i, hi, hz, hs, hby, hzc⟩ := hE.info
  by_cases h : n + m ≤ c
  · obtain ⟨w', hr, ho, hg⟩ := run_append_fits w base st st e i 1 (P := Tryd.prog) hE.sl hi hs g n c xs hown ad m cc news (by omega) hnews h1 h
    exact Or.inl ⟨h, w', hr, ho, hg⟩
  · refine Or.inr ⟨by omega, ?_⟩
    have hxl : xs.length = n := by have := hown.1; omega
    have hold : ∀ j v, xs[j]? = some v → w.cell? ((⟨g, 0, none⟩ : Addr).add j) = some v := fun j v hv => by
      have hadd : (⟨g, 0, none⟩ : Addr).add j = ⟨g, j, none⟩ := by unfold Addr.add; split <;> simp_all
      rw [hadd]; exact own_cell hown hv
    have hnc : Builtin.nextslicecap (n + m) c * i.bytes ≤ 281474976710656 := growslice_fits (by omega) (by rw [hby]; exact hb)
    have hr := run_append_grow (P := Tryd.prog) w st st e i z hE.sl hi hz ⟨g, 0, none⟩ n c xs (by rw [hs]; omega) hold ad m cc news (by rw [hs]; omega) hnews (by omega) (by omega) hnc
    have hge := grownCap_ge w (n + m) c e
    have hcm : grownCap w (n + m) c e ≤ maxLen := grownCap_le_maxLen w (n + m) c e (by unfold maxLen; omega)
    refine ⟨_, _, hr, ⟨by rw [List.length_append]; omega, Or.inr ⟨w.heap.size, _, _, rfl, Nat.le_refl _, heap_alloc_new w.drew _, hge, hcm, ?_, ?_⟩⟩, ⟨rfl, rfl, rfl, by simp, fun k hk _ => heap_alloc_old w.drew _ hk⟩⟩
    · simp only [Array.size_append, List.size_toArray, size_zeroCells, hzc]
      omega
    · simp only [Array.toList_append, List.append_assoc]
      rw [← List.append_assoc, List.take_left' (by rw [List.length_append]; omega)]
/-- an append to nothing -/
theorem append_to_none {e st : TypeId} {bt : Nat} {z : Value} (hE : Elt e st bt z) (w : World) (ad : Addr) (m cc : Nat) (news : List Value) (hm : 0 < m) (hl : news.length = m) (hnews : ∀ j u, news[j]? = some u → w.cell? (ad.add j) = some u) (h1 : ∀ u ∈ news, u.oneCell' = true) (hb : m * bt ≤ 140737488355328) (hb2 : m ≤ 140737488355328) :
    ∃ g c' w', (Builtin.append_ #[st, st] st #[.slice none 0 0, .slice (some ad) m cc]).run Tryd.prog w = .ok (.slice (some ⟨g, 0, none⟩) m c') w' ∧ w'.ownsRow w.heap.size e 1 (.slice (some ⟨g, 0, none⟩) m c') m news ∧ w.grownBy w' none := by
  obtain ⟨i, hi, hz, hs, hby, hzc⟩ := hE.info
  obtain ⟨v', w', hr, ho, hg, _⟩ := run_append_own w w.heap.size st st e i z 1 bt (P := Tryd.prog) hE.sl hi hz hs hby hzc (by decide) (.slice none 0 0) 0 [] (World.ownsRow_nil w _ e 1) ad m cc news (by omega) hnews h1 (by unfold maxLen; omega) (by rw [Nat.zero_add]; exact hb) (Nat.le_refl _)
  rw [Nat.zero_add, List.nil_append] at ho
  obtain ⟨g, c, rfl, _⟩ := own_some ho hm
  exact ⟨g, c, w', hr, ho, hg⟩
end Go.Proofs.YtjnednikgnapnaaDoor
