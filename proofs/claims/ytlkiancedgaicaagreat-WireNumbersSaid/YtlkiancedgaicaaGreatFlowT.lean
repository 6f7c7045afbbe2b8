/- What calls of wire tell, for regions that draw their order. -/
import Derived.Test.YtlkiancedgaicaaGreatFlowTB
import Derived.Test.YtlkiancedgaicaaGreatWiNum
namespace Go.Proofs.YtlkiancedgaicaaGreat
open Go.RowKit Ow Wi
/-- a call that answers bytes -/
def YOut (w : World) (l : List Nat) (e : Ending) (w' : World) : Prop := ∃ a c, e = .returned (.slice a l.length c) ∧ w.grownBy w' none ∧ BytesAt w' w'.heap.size a c l
theorem bout_own {w w' : World} {base n : Nat} {v : Value} {l : List Nat} (hg : w.grownBy w' none) (h : w'.ownsRow base 5 1 v n (l.map u8N)) (hn : l.length = n) (hb : ∀ i, l.getD i 0 < 256) : YOut w l (.returned v) w' := by
  subst hn
  obtain ⟨a, c, rfl, _, hB, _⟩ := own_slice h hb
  exact ⟨a, c, rfl, hg, hB⟩
theorem app_byte {p q : List Nat} (hp : ∀ i, p.getD i 0 < 256) (hq : ∀ i, q.getD i 0 < 256) (i : Nat) : (p ++ q).getD i 0 < 256 := by
  rw [List.getD_eq_getElem?_getD, List.getElem?_append]
  split
  · rw [← List.getD_eq_getElem?_getD]; exact hp i
  · rw [← List.getD_eq_getElem?_getD]; exact hq _
theorem flat_byte {L : List (List Nat)} (h : ∀ l ∈ L, ∀ i, l.getD i 0 < 256) : ∀ i, L.flatten.getD i 0 < 256 := by
  induction L with
  | nil => intro i; simp
  | cons l r ih =>
    intro i
    rw [List.flatten_cons]
    exact app_byte (h l (by simp)) (ih fun l hl => h l (by simp [hl])) i
theorem number_out (n : Int) (w : World) : Calls Tryz.prog 13 #[.int .i64 n] w (YOut w (encN n)) :=
  (numF_any n w).mono fun e w' ⟨g, he, hg, _, hb⟩ => ⟨_, 8, by rw [encN_length]; exact he, hg, numF_bytes hb⟩
/-- a row of bytes with its length ahead -/
theorem bytes_out (n : Nat) (l : List Nat) (a : Option Addr) (cap B : Nat) (w : World) (hn : l.length = n) (h : BytesAt w B a cap l) (hl : l.length ≤ 900000) : Calls Tryz.prog 18 #[.slice a n cap] w (YOut w (encN (l.length : Int) ++ l)) := by
  subst hn
  exact (bytesF_any l.length cap B a l w rfl hl h).mono fun e w' ⟨v, he, hg, ho⟩ => he ▸ bout_own hg ho (by rw [List.length_append, encN_length]) (app_byte (encN_byte _) h.byte)
theorem join_out (n : Nat) (L : List (List Nat)) (a : Option Addr) (cap B : Nat) (w : World) (hn : L.length = n) (h : RowsAt w B a L) (hm : L.length < 9223372036854775808) (hl : L.flatten.length ≤ 1000000) (hb : ∀ l ∈ L, ∀ i, l.getD i 0 < 256) : Calls Tryz.prog 14 #[.slice a n cap] w (YOut w L.flatten) := by
  subst hn
  exact (join_any L.length cap B L a w rfl h hm hl).mono fun e w' ⟨v, he, hg, ho⟩ => he ▸ bout_own hg ho rfl (flat_byte hb)
/-- rows of bytes, that a box holds -/
def rowV (p : Option Addr × Nat × List Nat) : Value := .slice p.1 p.2.2.length p.2.1
theorem rows_box {w : World} (T : TypeId) (P : List (Option Addr × Nat × List Nat)) (h : ∀ p ∈ P, ∃ B, BytesAt w B p.1 p.2.1 p.2.2) :
    RowsAt (w.alloc (.cells (P.map rowV).toArray T)) (w.heap.size + 1) (some ⟨w.heap.size, 0, none⟩) (P.map (·.2.2)) := by
  have hb := Blk.new w (P.map rowV) T
  have hg := gb_alloc (gb_refl w none) (.cells (P.map rowV).toArray T)
  refine ⟨by simp, Or.inr ⟨w.heap.size, 0, rfl, by omega, fun i hi => ?_⟩⟩
  rw [List.length_map] at hi
  have e : P[i]? = some P[i] := List.getElem?_eq_getElem hi
  obtain ⟨B, hB⟩ := h P[i] (List.getElem_mem hi)
  have e2 : (P.map (·.2.2)).getD i [] = P[i].2.2 := by rw [List.getD_eq_getElem?_getD, List.getElem?_map, e]; rfl
  refine ⟨P[i].1, P[i].2.1, ?_, ?_⟩
  · rw [Nat.zero_add, e2]
    exact hb.cell (by rw [List.getElem?_map, e]; rfl)
  · rw [e2]
    exact (hB.stay hg).up (Nat.le_trans hB.lim (by omega)) (by simp)
theorem bytes_box {w : World} (l : List Nat) (h : ∀ i, l.getD i 0 < 256) (hl : l.length < 1000000) : BytesAt (w.alloc (.cells (l.map u8N).toArray 5)) (w.heap.size + 1) (some ⟨w.heap.size, 0, none⟩) l.length l :=
  blk_bytes (tl := []) (by rw [List.append_nil]; exact Blk.new w (l.map u8N) _) rfl (Nat.le_refl _) (by omega) h (by omega) (by simp)
end Go.Proofs.YtlkiancedgaicaaGreat
