/- VectorNumbers: what it builds. -/
import Derived.Test.YtkffbaihknhefaaGreatVeTells
import Derived.Test.YtkffbaihknhefaaGreatVeJoins
namespace Go.Proofs.YtkffbaihknhefaaGreat
open Go.RowKit Ve
namespace Fg
/-- two dots, built -/
def It.dts (l : List D) : It := ⟨fun v w => ∃ g, v = .slice (some ⟨g, 0, none⟩) 2 2 ∧ DotsAt w w.heap.size (some ⟨g, 0, none⟩) l, fun _ _ _ ⟨g, e, h⟩ hg => ⟨g, e, (h.stay hg).full⟩⟩
end Fg
namespace Ve
/-- nine numbers -/
def IC (w : World) (b : Nat) : Prop := b < w.heap.size ∧ ∀ i, i < 9 → ∃ c : Int, w.cell? ⟨b, i, none⟩ = some (iV c)
theorem IC.stay {w w' : World} {b : Nat} (h : IC w b) (hg : w.grownBy w' none) : IC w' b := ⟨Nat.lt_of_lt_of_le h.1 hg.size, fun i hi => by
  obtain ⟨c, hc⟩ := h.2 i hi
  exact ⟨c, by rw [gb_cell hg (p := ⟨b, i, none⟩) h.1 (by simp)]; exact hc⟩⟩
theorem ic_new (w : World) (T : TypeId) (l : List Int) (h : l.length = 9) (A : Array Value) (hA : A = (l.map iV).toArray) : IC (w.alloc (.cells A T)) w.heap.size := by
  subst hA
  have hB : Blk (w.alloc (.cells (l.map iV).toArray T)) w.heap.size T (l.map iV) := Blk.new w _ _
  exact ⟨by simp, fun i hi => ⟨l[i]'(by omega), hB.cell (by rw [List.getElem?_map, List.getElem?_eq_getElem (by omega)]; rfl)⟩⟩
def zz : D := (2, 2)
def RR (d : D) : List (List D) := [[], [d], [zz], [d, zz], [zz, d], [d, d]]
/-- the six rows -/
structure RK (w : World) (rb : Nat) (d : D) : Prop where
  lt : rb < w.heap.size
  row : ∀ n, n < 6 → ∃ a c, w.cell? ⟨rb, n, none⟩ = some (.slice a ((RR d).getD n []).length c) ∧ (a = none → c = 0) ∧ DotsAt w w.heap.size a ((RR d).getD n [])
  one : ∃ b, w.cell? ⟨rb, 1, none⟩ = some (.slice (some ⟨b, 0, none⟩) 1 1) ∧ DotsAt w w.heap.size (some ⟨b, 0, none⟩) [d]
theorem RK.stay {w w' : World} {rb : Nat} {d : D} (h : RK w rb d) (hg : w.grownBy w' none) : RK w' rb d := by
  have hc : ∀ n, w'.cell? ⟨rb, n, none⟩ = w.cell? ⟨rb, n, none⟩ := fun n => gb_cell hg (p := ⟨rb, n, none⟩) h.lt (by simp)
  refine ⟨Nat.lt_of_lt_of_le h.lt hg.size, fun n hn => ?_, ?_⟩
  · obtain ⟨a, c, h1, h2, h3⟩ := h.row n hn
    exact ⟨a, c, by rw [hc]; exact h1, h2, (h3.stay hg).full⟩
  · obtain ⟨b, h1, h2⟩ := h.one
    exact ⟨b, by rw [hc]; exact h1, (h2.stay hg).full⟩
theorem rr_len (d : D) (n : Nat) : ((RR d).getD n []).length ≤ 2 := by
  match n with
  | 0 | 1 | 2 | 3 | 4 | 5 => simp [RR]
  | n + 6 => simp [RR]
theorem RK.rows {w : World} {rb : Nat} {d : D} (h : RK w rb d) (n : Nat) : DRowsAt w w.heap.size (some ⟨rb, n, none⟩) ((RR d).drop n) ∧ RW w (some ⟨rb, n, none⟩) ((RR d).drop n) ∧ dlen ((RR d).drop n) := by
  have hl : ((RR d).drop n).length = 6 - n := by simp [RR]
  have hd : ∀ i, ((RR d).drop n).getD i [] = (RR d).getD (n + i) [] := fun i => by rw [List.getD_eq_getElem?_getD, List.getElem?_drop, List.getD_eq_getElem?_getD]
  have h1 : DRowsAt w w.heap.size (some ⟨rb, n, none⟩) ((RR d).drop n) := by
    refine ⟨Nat.le_refl _, Or.inr ⟨rb, n, rfl, h.lt, fun i hi => ?_⟩⟩
    rw [hl] at hi
    obtain ⟨a, c, e1, _, e3⟩ := h.row (n + i) (by omega)
    rw [hd]
    exact ⟨a, c, e1, e3⟩
  refine ⟨h1, rw_of h1 fun k hk pb po e ai ni ci hc hn => ?_, fun i _ => ?_⟩
  · rw [hl] at hk
    obtain ⟨a, c, e1, e2, _⟩ := h.row (n + k) (by omega)
    simp only [Option.some.injEq, Addr.mk.injEq, and_true] at e
    obtain ⟨rfl, rfl⟩ := e
    rw [e1] at hc
    simp only [Option.some.injEq, Value.slice.injEq] at hc
    obtain ⟨rfl, _, rfl⟩ := hc
    exact e2 hn
  · rw [hd]; have := rr_len d (n + i); omega
/-- they are built -/
theorem rk_new (w : World) (x y : Int) (T U : TypeId) :
    RK ((((((w.alloc (.cells #[iV x, iV y] T)).alloc (.cells #[iV 2, iV 2] T)).alloc (.cells #[iV x, iV y, iV 2, iV 2] T)).alloc (.cells #[iV 2, iV 2, iV x, iV y] T)).alloc (.cells #[iV x, iV y, iV x, iV y] T)).alloc (.cells #[.slice none 0 0, .slice (some ⟨w.heap.size, 0, none⟩) 1 1, .slice (some ⟨w.heap.size + 1, 0, none⟩) 1 1, .slice (some ⟨w.heap.size + 1 + 1, 0, none⟩) 2 2, .slice (some ⟨w.heap.size + 1 + 1 + 1, 0, none⟩) 2 2, .slice (some ⟨w.heap.size + 1 + 1 + 1 + 1, 0, none⟩) 2 2] U)) (w.heap.size + 1 + 1 + 1 + 1 + 1) (x, y) := by
  have h1 := (ST.base (w := w)).new [(x, y)] T [iV x, iV y] rfl (by simp)
  have h2 := h1.new [(2, 2)] T [iV 2, iV 2] rfl (by simp)
  have h3 := h2.new [(x, y), (2, 2)] T [iV x, iV y, iV 2, iV 2] rfl (by simp)
  have h4 := h3.new [(2, 2), (x, y)] T [iV 2, iV 2, iV x, iV y] rfl (by simp)
  have h5 := h4.new [(x, y), (x, y)] T [iV x, iV y, iV x, iV y] rfl (by simp)
  simp only [World.size_alloc] at h5
  have hs : (((((w.alloc (.cells [iV x, iV y].toArray T)).alloc (.cells [iV 2, iV 2].toArray T)).alloc (.cells [iV x, iV y, iV 2, iV 2].toArray T)).alloc (.cells [iV 2, iV 2, iV x, iV y].toArray T)).alloc (.cells [iV x, iV y, iV x, iV y].toArray T)).heap.size = w.heap.size + 1 + 1 + 1 + 1 + 1 := by simp
  have key : ∀ W5 : World, W5.heap.size = w.heap.size + 1 + 1 + 1 + 1 + 1 → ST w [(some ⟨w.heap.size + 1 + 1 + 1 + 1, 0, none⟩, [(x, y), (x, y)]), (some ⟨w.heap.size + 1 + 1 + 1, 0, none⟩, [(2, 2), (x, y)]), (some ⟨w.heap.size + 1 + 1, 0, none⟩, [(x, y), (2, 2)]), (some ⟨w.heap.size + 1, 0, none⟩, [(2, 2)]), (some ⟨w.heap.size, 0, none⟩, [(x, y)])] W5 →
      RK (W5.alloc (.cells #[.slice none 0 0, .slice (some ⟨w.heap.size, 0, none⟩) 1 1, .slice (some ⟨w.heap.size + 1, 0, none⟩) 1 1, .slice (some ⟨w.heap.size + 1 + 1, 0, none⟩) 2 2, .slice (some ⟨w.heap.size + 1 + 1 + 1, 0, none⟩) 2 2, .slice (some ⟨w.heap.size + 1 + 1 + 1 + 1, 0, none⟩) 2 2] U)) (w.heap.size + 1 + 1 + 1 + 1 + 1) (x, y) := by
    intro W5 hs hST
    have hg : W5.grownBy (W5.alloc (.cells #[.slice none 0 0, .slice (some ⟨w.heap.size, 0, none⟩) 1 1, .slice (some ⟨w.heap.size + 1, 0, none⟩) 1 1, .slice (some ⟨w.heap.size + 1 + 1, 0, none⟩) 2 2, .slice (some ⟨w.heap.size + 1 + 1 + 1, 0, none⟩) 2 2, .slice (some ⟨w.heap.size + 1 + 1 + 1 + 1, 0, none⟩) 2 2] U)) none := gb_alloc (gb_refl _ _) _
    have hB : Blk (W5.alloc (.cells #[.slice none 0 0, .slice (some ⟨w.heap.size, 0, none⟩) 1 1, .slice (some ⟨w.heap.size + 1, 0, none⟩) 1 1, .slice (some ⟨w.heap.size + 1 + 1, 0, none⟩) 2 2, .slice (some ⟨w.heap.size + 1 + 1 + 1, 0, none⟩) 2 2, .slice (some ⟨w.heap.size + 1 + 1 + 1 + 1, 0, none⟩) 2 2] U)) W5.heap.size U [.slice none 0 0, .slice (some ⟨w.heap.size, 0, none⟩) 1 1, .slice (some ⟨w.heap.size + 1, 0, none⟩) 1 1, .slice (some ⟨w.heap.size + 1 + 1, 0, none⟩) 2 2, .slice (some ⟨w.heap.size + 1 + 1 + 1, 0, none⟩) 2 2, .slice (some ⟨w.heap.size + 1 + 1 + 1 + 1, 0, none⟩) 2 2] := Blk.new W5 _ _
    have hS := hST.grow hg
    rw [← hs]
    have hlt := hB.lt
    generalize (W5.alloc (.cells #[.slice none 0 0, .slice (some ⟨w.heap.size, 0, none⟩) 1 1, .slice (some ⟨w.heap.size + 1, 0, none⟩) 1 1, .slice (some ⟨w.heap.size + 1 + 1, 0, none⟩) 2 2, .slice (some ⟨w.heap.size + 1 + 1 + 1, 0, none⟩) 2 2, .slice (some ⟨w.heap.size + 1 + 1 + 1 + 1, 0, none⟩) 2 2] U)) = W6 at *
    have s : ∀ (a : Option Addr) (l : List D), (a, l) ∈ _ → DotsAt W6 W6.heap.size a l := fun a l h => (hS.2 (a, l) h).1
    refine ⟨hlt, fun n hn => ?_, ⟨_, hB.cell (i := 1) rfl, s _ _ (by simp)⟩⟩
    match n, hn with
    | 0, _ => exact ⟨none, 0, hB.cell (i := 0) rfl, fun _ => rfl, Nat.le_refl _, Or.inl rfl⟩
    | 1, _ => exact ⟨_, 1, hB.cell (i := 1) rfl, fun e => by (cases e), s _ _ (by simp [RR, zz])⟩
    | 2, _ => exact ⟨_, 1, hB.cell (i := 2) rfl, fun e => by (cases e), s _ _ (by simp [RR, zz])⟩
    | 3, _ => exact ⟨_, 2, hB.cell (i := 3) rfl, fun e => by (cases e), s _ _ (by simp [RR, zz])⟩
    | 4, _ => exact ⟨_, 2, hB.cell (i := 4) rfl, fun e => by (cases e), s _ _ (by simp [RR, zz])⟩
    | 5, _ => exact ⟨_, 2, hB.cell (i := 5) rfl, fun e => by (cases e), s _ _ (by simp [RR, zz])⟩
  exact key _ hs h5
set_option maxRecDepth 100000 in
theorem rows_from (rb n : Nat) (hn : n < 6) (w : World) : (Instr.slice 27 (.slice (some ⟨rb, 0, none⟩) 6 6) (some (.int .i64 (n : Int))) none none).run Tryz.prog w = .ok (.slice (some ⟨rb, n, none⟩) (6 - n) (6 - n)) w := by
  obtain ⟨j, hj, hs⟩ : ∃ j, Tryz.prog.info? (Tryz.prog.elem 27) = some j ∧ j.size = 1 := by
    have h1 : (Tryz.prog.info? (Tryz.prog.elem 27)).map (·.size) = some 1 := by kernel_rfl
    cases hq : Tryz.prog.info? (Tryz.prog.elem 27) with
    | none => rw [hq] at h1; cases h1
    | some j => rw [hq] at h1; exact ⟨j, rfl, by simpa using h1⟩
  rw [run_slice_l w 27 (some ⟨rb, 0, none⟩) 6 6 Tryz.underlying27 .i64 _ (by omega) (by omega), Int.toNat_natCast]
  have h6 : ¬ 6 = n := by omega
  simp [sizeOf, typeInfo, hj, hs, sliced, h6, Addr.add]
  intro h
  exact h.symm
end Ve
end Go.Proofs.YtkffbaihknhefaaGreat
