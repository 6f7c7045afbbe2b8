/- What a law's walk knows: rows of dots that stay, whatever is called; the calls by them. -/
import Derived.Test.YtkffbaihknhefaaGreatVeJoin
import Derived.Test.YtkffbaihknhefaaGreatVeCovers
import Derived.Test.YtkffbaihknhefaaGreatVeSame
namespace Go.Proofs.YtkffbaihknhefaaGreat
open Go.RowKit Ve
namespace Ve
/-- rows that lie in memory, and what was there ahead stays -/
def ST (w0 : World) (F : List (Option Addr × List D)) (w : World) : Prop := w0.grownBy w none ∧ ∀ f ∈ F, DotsAt w w.heap.size f.1 f.2 ∧ f.2.length < 9223372036854775808
theorem DotsAt.full {w : World} {B : Nat} {a : Option Addr} {l : List D} (h : DotsAt w B a l) : DotsAt w w.heap.size a l := h.up' h.lim (Nat.le_refl _)
theorem ST.grow {w0 w w' : World} {F : List (Option Addr × List D)} (h : ST w0 F w) (hg : w.grownBy w' none) : ST w0 F w' :=
  ⟨gb_trans h.1 hg, fun f hf => ⟨((h.2 f hf).1.stay hg).full, (h.2 f hf).2⟩⟩
theorem ST.add {w0 w w' : World} {F : List (Option Addr × List D)} {a : Option Addr} {l : List D} (h : ST w0 F w) (hg : w.grownBy w' none) (ha : DotsAt w' w'.heap.size a l) (hl : l.length < 9223372036854775808) : ST w0 ((a, l) :: F) w' :=
  ⟨gb_trans h.1 hg, fun f hf => by
    rcases List.mem_cons.1 hf with rfl | hf
    · exact ⟨ha, hl⟩
    · exact (h.grow hg).2 f hf⟩
def RowOut (w0 : World) (F : List (Option Addr × List D)) (l : List D) (e : Ending) (w' : World) : Prop := ∃ a c, e = .returned (.slice a l.length c) ∧ Hid (ST w0 ((a, l) :: F) w')
def BoolOut (w0 : World) (F : List (Option Addr × List D)) (b : Bool) (e : Ending) (w' : World) : Prop := e = .returned (.bool b) ∧ Hid (ST w0 F w')
theorem rowOut_of {w0 w w1 : World} {F : List (Option Addr × List D)} {l : List D} (h : ST w0 F w) (hg : w.grownBy w1 none) (hr : Rt 0 l) {e : Ending} {w' : World} (hj : JoinOut w1 l e w') : RowOut w0 F l e w' := by
  obtain ⟨v, rfl, ho, hg2⟩ := hj
  obtain ⟨a, c, rfl, _, _, hd⟩ := own_dots ho
  have h8 := hr.len (by decide)
  exact ⟨a, c, rfl, h.add (gb_trans hg hg2) hd (by omega)⟩
theorem rows2 {w : World} {B : Nat} {a1 a2 : Option Addr} {l1 l2 : List D} (c1 c2 : Nat) (T : TypeId) (h1 : DotsAt w B a1 l1) (h2 : DotsAt w B a2 l2) :
    DRowsAt (w.alloc (.cells #[.slice a1 l1.length c1, .slice a2 l2.length c2] T)) (w.heap.size + 1) (some ⟨w.heap.size, 0, none⟩) [l1, l2] := by
  have hg : w.grownBy (w.alloc (.cells #[.slice a1 l1.length c1, .slice a2 l2.length c2] T)) none := gb_alloc (gb_refl _ _) _
  have hB : Blk (w.alloc (.cells #[.slice a1 l1.length c1, .slice a2 l2.length c2] T)) w.heap.size T [.slice a1 l1.length c1, .slice a2 l2.length c2] := Blk.new w _ _
  have hl := h1.lim
  refine ⟨by simp, Or.inr ⟨w.heap.size, 0, rfl, by omega, fun i hi => ?_⟩⟩
  have h01 : i = 0 ∨ i = 1 := by simp at hi; omega
  rcases h01 with rfl | rfl
  · exact ⟨_, c1, hB.cell (i := 0) rfl, (h1.stay hg).up' (by omega) (by simp)⟩
  · exact ⟨_, c2, hB.cell (i := 1) rfl, (h2.stay hg).up' (by omega) (by simp)⟩
theorem rows1' {w : World} {B : Nat} {a1 : Option Addr} {l1 : List D} (c1 : Nat) (T : TypeId) (h1 : DotsAt w B a1 l1) : DRowsAt (w.alloc (.cells #[.slice a1 l1.length c1] T)) (w.heap.size + 1) (some ⟨w.heap.size, 0, none⟩) [l1] := by
  have hg : w.grownBy (w.alloc (.cells #[.slice a1 l1.length c1] T)) none := gb_alloc (gb_refl _ _) _
  have hB : Blk (w.alloc (.cells #[.slice a1 l1.length c1] T)) w.heap.size T [.slice a1 l1.length c1] := Blk.new w _ _
  have hl := h1.lim
  refine ⟨by simp, Or.inr ⟨w.heap.size, 0, rfl, by omega, fun i hi => ?_⟩⟩
  obtain rfl : i = 0 := by simp at hi; omega
  exact ⟨_, c1, hB.cell (i := 0) rfl, (h1.stay hg).up' (by omega) (by simp)⟩
theorem rows3 {w : World} {B : Nat} {a1 a2 a3 : Option Addr} {l1 l2 l3 : List D} (c1 c2 c3 : Nat) (T : TypeId) (h1 : DotsAt w B a1 l1) (h2 : DotsAt w B a2 l2) (h3 : DotsAt w B a3 l3) :
    DRowsAt (w.alloc (.cells #[.slice a1 l1.length c1, .slice a2 l2.length c2, .slice a3 l3.length c3] T)) (w.heap.size + 1) (some ⟨w.heap.size, 0, none⟩) [l1, l2, l3] := by
  have hg : w.grownBy (w.alloc (.cells #[.slice a1 l1.length c1, .slice a2 l2.length c2, .slice a3 l3.length c3] T)) none := gb_alloc (gb_refl _ _) _
  have hB : Blk (w.alloc (.cells #[.slice a1 l1.length c1, .slice a2 l2.length c2, .slice a3 l3.length c3] T)) w.heap.size T [.slice a1 l1.length c1, .slice a2 l2.length c2, .slice a3 l3.length c3] := Blk.new w _ _
  have hl := h1.lim
  refine ⟨by simp, Or.inr ⟨w.heap.size, 0, rfl, by omega, fun i hi => ?_⟩⟩
  have h01 : i = 0 ∨ i = 1 ∨ i = 2 := by simp at hi; omega
  rcases h01 with rfl | rfl | rfl
  · exact ⟨_, c1, hB.cell (i := 0) rfl, (h1.stay hg).up' (by omega) (by simp)⟩
  · exact ⟨_, c2, hB.cell (i := 1) rfl, (h2.stay hg).up' (by omega) (by simp)⟩
  · exact ⟨_, c3, hB.cell (i := 2) rfl, (h3.stay hg).up' (by omega) (by simp)⟩
section
variable {w0 w : World} {F : List (Option Addr × List D)} {a1 a2 a3 : Option Addr} {l1 l2 l3 : List D}
theorem st_join1 (c1 : Nat) (h : Hid (ST w0 F w)) (h1 : (a1, l1) ∈ F) :
    Calls Tryz.prog 7 #[.slice (some ⟨w.heap.size, 0, none⟩) 1 1] (w.alloc (.cells #[.slice a1 l1.length c1] 26)) (RowOut w0 F (joinF [l1])) :=
  (join_any (w.heap.size + 1) 1 1 _ [l1] _ rfl (rows1' c1 _ (h.out.2 _ h1).1) (by decide) (fun r hr => by
    simp only [List.mem_cons, List.not_mem_nil, or_false] at hr
    subst hr
    exact (h.out.2 _ h1).2)).mono fun e w' hj => rowOut_of h.out (gb_alloc (gb_refl _ _) _) (joinF_right _) hj
theorem st_join2 (c1 c2 : Nat) (h : Hid (ST w0 F w)) (h1 : (a1, l1) ∈ F) (h2 : (a2, l2) ∈ F) :
    Calls Tryz.prog 7 #[.slice (some ⟨w.heap.size, 0, none⟩) 2 2] (w.alloc (.cells #[.slice a1 l1.length c1, .slice a2 l2.length c2] 26)) (RowOut w0 F (joinF [l1, l2])) :=
  (join_any (w.heap.size + 1) 2 2 _ [l1, l2] _ rfl (rows2 c1 c2 _ (h.out.2 _ h1).1 (h.out.2 _ h2).1) (by decide) (fun r hr => by
    simp only [List.mem_cons, List.not_mem_nil, or_false] at hr
    rcases hr with rfl | rfl
    · exact (h.out.2 _ h1).2
    · exact (h.out.2 _ h2).2)).mono fun e w' hj => rowOut_of h.out (gb_alloc (gb_refl _ _) _) (joinF_right _) hj
theorem st_join3 (c1 c2 c3 : Nat) (h : Hid (ST w0 F w)) (h1 : (a1, l1) ∈ F) (h2 : (a2, l2) ∈ F) (h3 : (a3, l3) ∈ F) :
    Calls Tryz.prog 7 #[.slice (some ⟨w.heap.size, 0, none⟩) 3 3] (w.alloc (.cells #[.slice a1 l1.length c1, .slice a2 l2.length c2, .slice a3 l3.length c3] 26)) (RowOut w0 F (joinF [l1, l2, l3])) :=
  (join_any (w.heap.size + 1) 3 3 _ [l1, l2, l3] _ rfl (rows3 c1 c2 c3 _ (h.out.2 _ h1).1 (h.out.2 _ h2).1 (h.out.2 _ h3).1) (by decide) (fun r hr => by
    simp only [List.mem_cons, List.not_mem_nil, or_false] at hr
    rcases hr with rfl | rfl | rfl
    · exact (h.out.2 _ h1).2
    · exact (h.out.2 _ h2).2
    · exact (h.out.2 _ h3).2)).mono fun e w' hj => rowOut_of h.out (gb_alloc (gb_refl _ _) _) (joinF_right _) hj
theorem st_isvec (b : Bool) (c1 : Nat) (h : Hid (ST w0 F w)) (h1 : (a1, l1) ∈ F) (hb : rtB 0 l1 = b) : Calls Tryz.prog 12 #[.slice a1 l1.length c1] w (BoolOut w0 F b) :=
  (vright_any _ _ c1 a1 l1 w rfl (h.out.2 _ h1).1 (h.out.2 _ h1).2).mono fun e w' hj => ⟨by rw [← hb]; exact hj.1, h.out.grow hj.2⟩
theorem st_covers (b : Bool) (c1 c2 : Nat) (h : Hid (ST w0 F w)) (h1 : (a1, l1) ∈ F) (h2 : (a2, l2) ∈ F) (hb : cvB l1 l2 = b) : Calls Tryz.prog 15 #[.slice a1 l1.length c1, .slice a2 l2.length c2] w (BoolOut w0 F b) :=
  (vcovers_any _ _ _ _ c1 c2 a1 a2 l1 l2 w rfl rfl (h.out.2 _ h1).1 (h.out.2 _ h2).1 (h.out.2 _ h1).2 (h.out.2 _ h2).2).mono fun e w' hj => ⟨by rw [← hb]; exact hj.1, h.out.grow hj.2⟩
theorem st_has (b : Bool) (c1 : Nat) (x y : Int) (h : Hid (ST w0 F w)) (h1 : (a1, l1) ∈ F) (hb : hasB l1 (x, y) = b) : Calls Tryz.prog 9 #[.slice a1 l1.length c1, .agg #[iV x, iV y]] w (BoolOut w0 F b) :=
  (has_any _ _ c1 a1 l1 x y w rfl (h.out.2 _ h1).1 (h.out.2 _ h1).2).mono fun e w' hj => ⟨by rw [← hb]; exact hj.1, h.out.grow hj.2⟩
theorem st_same (b : Bool) (c1 c2 : Nat) (h : Hid (ST w0 F w)) (h1 : (a1, l1) ∈ F) (h2 : (a2, l2) ∈ F) (hb : decide (l1 = l2) = b) : Calls Tryz.prog 8 #[.slice a1 l1.length c1, .slice a2 l2.length c2] w (BoolOut w0 F b) :=
  (sameDots_any _ _ _ _ c1 c2 a1 a2 l1 l2 w rfl rfl (h.out.2 _ h1).1 (h.out.2 _ h2).1 (h.out.2 _ h1).2).mono fun e w' hj => ⟨by rw [← hb]; exact hj.1, h.out.grow hj.2⟩
end
/-- a row of constants, built -/
theorem dots_new (w : World) (l : List D) (T : TypeId) (L : List Value) (hL : L = dotsC l) : DotsAt (w.alloc (.cells L.toArray T)) (w.heap.size + 1) (some ⟨w.heap.size, 0, none⟩) l := by
  subst hL
  have hB : Blk (w.alloc (.cells (dotsC l).toArray T)) w.heap.size T (dotsC l) := Blk.new w _ _
  refine ⟨by simp, Or.inr ⟨w.heap.size, 0, rfl, by omega, fun i hi => ?_⟩⟩
  obtain ⟨e1, e2⟩ := dotsC_at l i hi
  rw [Nat.zero_add]
  exact ⟨hB.cell e1, hB.cell e2⟩
theorem ST.new {w0 w : World} {F : List (Option Addr × List D)} (h : ST w0 F w) (l : List D) (T : TypeId) (L : List Value) (hL : L = dotsC l) (hl : l.length < 9223372036854775808) : ST w0 ((some ⟨w.heap.size, 0, none⟩, l) :: F) (w.alloc (.cells L.toArray T)) :=
  h.add (gb_alloc (gb_refl _ _) _) (dots_new w l T L hL).full hl
theorem ST.base {w : World} : ST w [] w := ⟨gb_refl _ _, fun f hf => by cases hf⟩
end Ve
end Go.Proofs.YtkffbaihknhefaaGreat
