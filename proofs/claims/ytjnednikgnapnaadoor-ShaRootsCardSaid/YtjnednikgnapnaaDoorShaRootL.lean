/- For the law ShaRoots: bytes of a constant, marked in whatever order; digests of bytes that lie in a row. -/
import Derived.Test.YtjnednikgnapnaaDoorShaRootC
import Derived.Test.YtjnednikgnapnaaDoorShaRefSum
import Derived.Test.YtjnednikgnapnaaDoorShaAwake
import Derived.Test.YtjnednikgnapnaaDoorRowsBox
import Derived.Test.YtjnednikgnapnaaDoorFlowTB
import Derived.Test.YtjnednikgnapnaaDoorMake
namespace Go.Proofs.YtjnednikgnapnaaDoor
open Go.RowKit Ow
theorem freeze_get (w : World) (N k i : Nat) : (w.freeze ⟨N, k, none⟩ 1).heap[i]? = w.heap[i]? ∨ ∃ C T f f', i = N ∧ w.heap[i]? = some (.cells C T f) ∧ (w.freeze ⟨N, k, none⟩ 1).heap[i]? = some (.cells C T f') := by
  unfold World.freeze
  rw [if_neg (by decide)]
  show (w.heap.modify N _)[i]? = _ ∨ _
  rw [Array.getElem?_modify]
  by_cases h : N = i
  · subst h
    rw [if_pos rfl]
    cases ho : w.heap[N]? with
    | none => exact Or.inl rfl
    | some o =>
      cases o with
      | cells C T f =>
        obtain ⟨lo, hi⟩ := f
        exact Or.inr ⟨C, T, (lo, hi), if lo == hi then (k, k + 1) else (min lo k, max hi (k + 1)), rfl, rfl, rfl⟩
      | _ => exact Or.inl rfl
  · rw [if_neg h]
    exact Or.inl rfl
theorem freeze_size (w : World) (N k : Nat) : (w.freeze ⟨N, k, none⟩ 1).heap.size = w.heap.size := by
  unfold World.freeze
  rw [if_neg (by decide)]
  simp
theorem freeze_cell (w : World) (N k : Nat) (p : Addr) : (w.freeze ⟨N, k, none⟩ 1).cell? p = w.cell? p := by
  rcases freeze_get w N k p.block with h | ⟨C, T, f, f', _, h1, h2⟩
  · exact World.cell?_of_block h
  · unfold World.cell?
    rw [h1, h2]
theorem freeze_gb {w0 w : World} {N : Nat} (h : w0.grownBy w none) (hN : w0.heap.size ≤ N) (k : Nat) : w0.grownBy (w.freeze ⟨N, k, none⟩ 1) none := by
  have hs := freeze_size w N k
  refine ⟨?_, ?_, ?_, by rw [hs]; exact h.size, fun i hi hr => ?_⟩
  · rw [← h.os]; unfold World.freeze; rw [if_neg (by decide)]
  · rw [← h.tape]; unfold World.freeze; rw [if_neg (by decide)]
  · rw [← h.output]; unfold World.freeze; rw [if_neg (by decide)]
  · rcases freeze_get w N k i with h1 | ⟨_, _, _, _, h1, _⟩
    · rw [h1]; exact h.block i hi hr
    · omega
theorem freeze_bytes {w : World} {B cap : Nat} {a : Option Addr} {l : List Nat} (h : BytesAt w B a cap l) (N k : Nat) : BytesAt (w.freeze ⟨N, k, none⟩ 1) B a cap l := by
  refine ⟨by rw [freeze_size]; exact h.lim, h.fits, h.top, h.byte, ?_⟩
  rcases h.cells with h0 | ⟨pb, po, e, hl, hc⟩
  · exact Or.inl h0
  · exact Or.inr ⟨pb, po, e, hl, fun i hi => by rw [freeze_cell]; exact hc i hi⟩
/-- a row just laid, marked or not -/
def litI (n0 : Nat) (l : List Nat) : Fg.It := ⟨fun v w => ∃ N f, v = .slice (some ⟨N, 0, none⟩) l.length l.length ∧ n0 ≤ N ∧ w.heap[N]? = some (.cells (l.map u8N).toArray 5 f), fun _ _ _ ⟨N, f, e, hn, h⟩ hg => ⟨N, f, e, hn, by rw [hg.block N (Array.getElem?_eq_some_iff.1 h).1 (by simp)]; exact h⟩⟩
def Fz (it : Fg.It) : Prop := ∀ v w N k, it.p v w → it.p v (w.freeze ⟨N, k, none⟩ 1)
theorem fz_any : Fz .any := fun _ _ _ _ _ => trivial
theorem fz_by (l : List Nat) : Fz (.by l) := fun _ _ N k ⟨a, cap, B, e, h⟩ => ⟨a, cap, B, e, freeze_bytes h N k⟩
theorem fz_lit (n0 : Nat) (l : List Nat) : Fz (litI n0 l) := fun _ w N k ⟨M, f, e, hn, h⟩ => by
  rcases freeze_get w N k M with h1 | ⟨C, T, g, g', _, h1, h2⟩
  · exact ⟨M, f, e, hn, by rw [h1]; exact h⟩
  · rw [h1] at h
    cases h
    exact ⟨M, g', e, hn, h2⟩
theorem fz_its {L : List Fg.It} (hL : ∀ it ∈ L, Fz it) (w : World) (N k d : Nat) (u : Value) (h : Fg.its L d u w) : Fg.its L d u (w.freeze ⟨N, k, none⟩ 1) := by
  unfold Fg.its at h ⊢
  rcases Nat.lt_or_ge d L.length with hd | hd
  · rw [List.getD_eq_getElem?_getD, List.getElem?_eq_getElem hd] at h ⊢
    exact hL _ (List.getElem_mem hd) u w N k h
  · rw [List.getD_eq_getElem?_getD, List.getElem?_eq_none hd] at h ⊢
    exact fz_any u w N k h
/-- []byte("..") of a constant, wherever it was laid -/
theorem conv_const (w : World) (l : List Nat) (f : Nat × Nat) (N n c : Nat) (h : w.heap[N]? = some (.cells (l.map u8N).toArray 5 f)) :
    (convert 26 26 (.slice (some ⟨N, 0, none⟩) n c)).run Tryd.prog w = .ok (.slice (some ⟨N, 0, none⟩) n c) (w.freeze ⟨N, l.length, none⟩ 1) := by
  have hsh : w.shape? N = some (5, l.length) := by
    unfold World.shape?
    rw [h]
    simp
  simp [convert, run_underlying Tryd.underlying26, run_underlying Tryd.underlying5, markStringish, hsh]
theorem lit_bytes {w : World} {N : Nat} {f : Nat × Nat} {l : List Nat} (h : w.heap[N]? = some (.cells (l.map u8N).toArray 5 f)) (hb : ∀ i, l.getD i 0 < 256) (hl : l.length < 1000000) : BytesAt w w.heap.size (some ⟨N, 0, none⟩) l.length l := by
  refine ⟨Nat.le_refl _, Nat.le_refl _, by omega, hb, Or.inr ⟨N, 0, rfl, (Array.getElem?_eq_some_iff.1 h).1, fun i hi => ?_⟩⟩
  rw [Nat.zero_add]
  unfold World.cell?
  rw [h]
  simp [List.getD_eq_getElem?_getD, List.getElem?_eq_getElem hi]
theorem byt_part {w : World} {B cap : Nat} {a : Option Addr} {l : List Nat} (h : BytesAt w B a cap l) {B' : Nat} (hB : B ≤ B') : PartAt w B' a cap l := by
  refine ⟨h.fits, h.byte, ?_⟩
  rcases h.cells with h0 | ⟨pb, po, e, hl, hc⟩
  · exact Or.inl h0
  · exact Or.inr ⟨pb, po, e, by omega, by have := h.lim; omega, fun i hi => hc i hi⟩
theorem zero_byte (n i : Nat) : (List.replicate n 0).getD i 0 < 256 := by
  rw [List.getD_eq_getElem?_getD]
  by_cases h : i < n
  · simp [h]
  · simp [h]
/-- Sum of a row of one row of bytes -/
theorem sum_row (l : List Nat) (a : Option Addr) (c B : Nat) (w0 W : World) (hT : Tables w0) (hW : w0.grownBy W none) (h : RowsAt W B a [l]) (hl : l.length < 2147480000) (hc : c < 9223372036854775808) (hc1 : 1 ≤ c) :
    Calls Tryd.prog 7 #[.slice a 1 c] W (YOut W (Sha.sum l)) := by
  obtain ⟨pb, po, ai, ci, rfl, hpb, hcell, hB⟩ := h.at (i := 0) (by simp)
  have hB : BytesAt W B ai ci l := hB
  have hcell : W.cell? ⟨pb, po + 0, none⟩ = some (.slice ai l.length ci) := hcell
  have hlim := h.lim
  have hP : PartsAt W (W.heap.size + 1) (some ⟨pb, po, none⟩) c [⟨ai, ci, l⟩] := by
    refine ⟨hc1, fun p hp => ?_, Or.inr ⟨pb, po, rfl, by omega, by omega, fun i hi => ?_⟩⟩
    · obtain rfl := List.mem_singleton.1 hp
      exact ⟨byt_part hB (by omega), hB.top⟩
    · have hi' : i < 1 := hi
      obtain rfl : i = 0 := by omega
      exact hcell
  refine (sum_any 1 c (W.heap.size + 1) [⟨ai, ci, l⟩] (some ⟨pb, po, none⟩) W rfl (hT.kept hW (by simp)) hP hc (by simp [joined]; omega)).mono ?_
  rintro e w' ⟨NB, rfl, hg, _, hb⟩
  have e1 : joined [⟨ai, ci, l⟩] = l := by simp [joined]
  rw [e1] at hb
  exact ⟨_, 64, rfl, hg, blk_bytes (tl := []) (by rw [List.append_nil]; exact hb) rfl (Nat.le_refl _) (by omega) (sum_byte l) hb.lt (Nat.le_refl _)⟩
/-- the digest by constants out of roots -/
theorem sumBy_row (l : List Nat) (a : Option Addr) (c B g1 c1 g2 c2 : Nat) (w0 W : World) (h1 : WordsAt w0 g1 0 Sha.H0) (h2 : WordsAt w0 g2 0 Sha.K) (hW : w0.grownBy W none) (h : BytesAt W B a c l) (hl : l.length < 2147480000) :
    Calls Tryd.prog 8 #[.slice (some ⟨g1, 0, none⟩) 8 c1, .slice (some ⟨g2, 0, none⟩) 80 c2, .slice a l.length c] W (YOut W (Sha.sum l)) := by
  have hs : SB Sha.first := by constructor <;> decide
  refine (refSumBy_any g1 0 c1 g2 0 c2 l.length c (W.heap.size + B) Sha.first l a W hs rfl (byt_part h (by omega)) (by omega) (h1.kept hW) (h2.kept hW)).mono ?_
  rintro e w' ⟨g, c', rfl, hg, ho⟩
  rw [turns_first] at ho
  have hlen : (Sha.sum l).length = 64 := rfl
  obtain ⟨g', c'', e, _, hcc, hcm, hlt⟩ := own_some ho (by decide)
  cases e
  refine ⟨some ⟨g, 0, none⟩, c', rfl, hg, Nat.le_refl _, by rw [hlen]; exact hcc, by unfold maxLen at hcm; omega, sum_byte l, Or.inr ⟨g, 0, rfl, hlt, fun i hi => ?_⟩⟩
  rw [Nat.zero_add]
  exact own_cell ho (u8_getD (l := Sha.sum l) hi)
/-- a row of one row of bytes, that was just laid -/
def boxI (l : List Nat) : Fg.It := ⟨fun v w => ∃ N, v = .slice (some ⟨N, 0, none⟩) 1 1 ∧ RowsAt w (N + 1) (some ⟨N, 0, none⟩) [l], fun _ _ _ ⟨N, e, h⟩ hg => ⟨N, e, h.stay hg⟩⟩
theorem box_new {w : World} {B c : Nat} {a : Option Addr} {l : List Nat} (h : BytesAt w B a c l) : (boxI l).p (.slice (some ⟨w.heap.size, 0, none⟩) 1 1) (w.alloc (.cells #[.slice a l.length c] 26)) :=
  ⟨w.heap.size, rfl, rows_box 26 [(a, c, l)] (fun p hp => by obtain rfl := List.mem_singleton.1 hp; exact ⟨B, h⟩)⟩
/-- the law's texts -/
def TL : List (List Nat) := [[], [97, 98, 99], List.replicate 111 0, List.replicate 112 0, List.replicate 300 0]
theorem TL_len (k : Nat) : (TL.getD k []).length ≤ 300 := by
  rcases k with _ | _ | _ | _ | _ | k
  · show 0 ≤ 300; omega
  · show 3 ≤ 300; omega
  · show (List.replicate 111 0).length ≤ 300; rw [List.length_replicate]; omega
  · show (List.replicate 112 0).length ≤ 300; rw [List.length_replicate]; omega
  · show (List.replicate 300 0).length ≤ 300; rw [List.length_replicate]; omega
  · show 0 ≤ 300; omega
theorem none_bytes (w : World) : BytesAt w w.heap.size none 0 [] := ⟨Nat.le_refl _, Nat.le_refl _, by decide, fun i => by simp, Or.inl rfl⟩
theorem made_at (n : Nat) (hn : n < 1000000) (w : World) : ∃ w', (Instr.makeSlice 26 (.int .i64 n) (.int .i64 n)).run Tryd.prog w = .ok (.slice (some ⟨w.heap.size, 0, none⟩) n n) w' ∧ w.grownBy w' none ∧ BytesAt w' w'.heap.size (some ⟨w.heap.size, 0, none⟩) n (List.replicate n 0) := by
  obtain ⟨w', hr, hg, hs, hb⟩ := make_bytes n n w (Nat.le_refl _) (by omega)
  refine ⟨w', hr, hg, blk_bytes (T := 5) (tl := []) ?_ (by simp) (Nat.le_refl _) (by omega) (zero_byte n) (by omega) (Nat.le_refl _)⟩
  rw [List.append_nil, List.map_replicate]
  exact hb
/-- two answers, held against each other -/
theorem same_row (l : List Nat) (a1 a2 : Option Addr) (c1 c2 B1 B2 : Nat) (w : World) (h1 : BytesAt w B1 a1 c1 l) (h2 : BytesAt w B2 a2 c2 l) :
    Calls Tryd.prog 6 #[.slice a1 l.length c1, .slice a2 l.length c2] w fun e w' => e = .returned (.bool true) ∧ ∃ k, w' = w.drewN k :=
  same_yes B1 B2 l.length l.length c1 c2 a1 a2 l w rfl rfl (byt_part h1 (Nat.le_refl _)) (byt_part h2 (Nat.le_refl _)) h1.top
end Go.Proofs.YtjnednikgnapnaaDoor
