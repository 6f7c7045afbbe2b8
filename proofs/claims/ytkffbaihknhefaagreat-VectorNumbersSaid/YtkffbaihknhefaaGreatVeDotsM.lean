/- VectorDots (P7.1, P7.2): what it comes to; calls by state. -/
import Derived.Test.YtkffbaihknhefaaGreatVeLatM
import Derived.Test.YtkffbaihknhefaaGreatVeAdd
namespace Go.Proofs.YtkffbaihknhefaaGreat
open Go.RowKit Ve
namespace Ve
section
variable {w0 w : World} {F : List (Option Addr × List D)} {a1 : Option Addr} {l1 : List D} {x y : Int}
theorem st_cells {N : Nat} (h : Hid (ST w0 F w)) (h1 : (some ⟨N, 0, none⟩, [(x, y)]) ∈ F) : w.cell? ⟨N, 0, none⟩ = some (iV x) ∧ w.cell? ⟨N, 1, none⟩ = some (iV y) := by
  obtain ⟨pb, po, e, _, hc⟩ := (h.out.2 _ h1).1.cells.resolve_left (by simp)
  simp only [Option.some.injEq, Addr.mk.injEq, and_true] at e
  obtain ⟨rfl, rfl⟩ := e
  have := hc 0 (by simp)
  simpa using this
theorem st_one (h : Hid (ST w0 F w)) (x y : Int) : ST w0 ((some ⟨w.heap.size, 0, none⟩, [(x, y)]) :: F) (w.alloc (.cells #[iV x, iV y] 25)) := h.out.new [(x, y)] 25 [iV x, iV y] rfl (by simp)
theorem st_right1 (b : Bool) (h : Hid (ST w0 F w)) (hb : rtB 0 [(x, y)] = b) : Calls Tryz.prog 12 #[.slice (some ⟨w.heap.size, 0, none⟩) 1 1] (w.alloc (.cells #[iV x, iV y] 25)) (BoolOut w0 F b) :=
  (st_isvec b 1 (Lib.hid (st_one h x y)) (List.mem_cons_self ..) hb).mono fun _ _ hj => ⟨hj.1, ⟨hj.2.out.1, fun f hf => hj.2.out.2 f (List.mem_cons_of_mem _ hf)⟩⟩
theorem st_add1 (c1 : Nat) (h : Hid (ST w0 F w)) (h1 : (a1, l1) ∈ F) :
    Calls Tryz.prog 18 #[.slice a1 l1.length c1, .slice (some ⟨w.heap.size, 0, none⟩) 1 1] (w.alloc (.cells #[iV x, iV y] 25)) (RowOut w0 F (addF l1 [(x, y)])) :=
  (add_any _ _ _ 1 c1 1 a1 _ l1 [(x, y)] _ rfl rfl ((h.out.2 _ h1).1.stay (gb_alloc (gb_refl _ _) _)) (dots_one w x y _) (h.out.2 _ h1).2 (by decide) (by decide) (by decide)).mono
    fun _ _ hj => rowOut_of h.out (gb_alloc (gb_refl _ _) _) (joinF_right _) hj
theorem st_small1 (c1 : Nat) (h : Hid (ST w0 F w)) (h1 : (a1, l1) ∈ F) :
    Calls Tryz.prog 10 #[.slice (some ⟨w.heap.size, 0, none⟩) 1 1] (w.alloc (.cells #[.slice a1 l1.length c1] 26)) fun e w' => ∃ b, BoolOut w0 F b e w' :=
  (small_any (w.heap.size + 1) 1 1 _ [l1] _ rfl (rows1' c1 26 (h.out.2 _ h1).1) (by decide) (fun i hi => by
    obtain rfl : i = 0 := by simp at hi; omega
    exact (h.out.2 _ h1).2)).mono fun _ _ hj => by
    obtain ⟨b, he, rfl, _⟩ := hj
    exact ⟨b, he, h.out.grow (gb_alloc (gb_refl _ _) _)⟩
end
structure DotM (V : List D) (x y x2 y2 : Int) : Prop where
  rt : rtB 0 (addF V [(x, y)]) = true
  has : hasB (addF V [(x, y)]) (x, y) = true
  cv : cvB (addF V [(x, y)]) V = true
  had : hasB (addF V [(x, y)]) (x2, y2) = (hasB V (x2, y2) || (decide (x2 = x) && decide (y2 ≤ y)))
theorem dotM {V : List D} {x y x2 y2 : Int} (hV : Rt 0 V) (hd : rtB 0 [(x, y)] = true) (ho : rtB 0 [(x2, y2)] = true) : DotM V x y x2 y2 := by
  have h1 := (rtB_iff _ _).1 hd
  have hw : addF V [(x, y)] = joinF [V, [(x, y)]] := rfl
  have hr := joinF_right [V, [(x, y)]]
  have hu : ∀ c, up (joinF [V, [(x, y)]]) c = max (up V c) (if x = c then y else 0) := fun c => by rw [up2 hV h1, up, up]
  have e1 : rtB 0 (joinF [V, [(x, y)]]) = true := (rtB_iff _ _).2 hr
  have y1 : 1 ≤ y := h1.2.2.1
  rw [rtB_one] at hd ho
  refine ⟨by rw [hw]; exact e1, ?_, ?_, ?_⟩
  · rw [hw, hasB, e1, hd, hu, if_pos rfl]; simp; omega
  · rw [hw]; exact (cv_up hr hV).2 (fun c => by rw [hu]; omega)
  · rw [hw, hasB, hasB, e1, ho, (rtB_iff _ _).2 hV, hu]
    have y2' : 1 ≤ y2 := by have := (okD_iff _).1 ho; exact this.2.2.1
    have hb := (up_bd (c := x2) hV).1
    rw [Bool.eq_iff_iff]
    simp only [Bool.true_and, Bool.or_eq_true, Bool.and_eq_true, decide_eq_true_eq]
    by_cases hx : x = x2
    · rw [if_pos hx]; subst hx; simp; omega
    · rw [if_neg hx]
      have hx' : ¬ x2 = x := fun e => hx e.symm
      simp [hx']; omega
end Ve
end Go.Proofs.YtkffbaihknhefaaGreat
