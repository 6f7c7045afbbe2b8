/- field: what the rows' lists give: the package's two elements. And a law's argument that is an element. -/
import Derived.Test.YtjgfhihngbhljaaDoorFeAdd
import Derived.Test.YtjgfhihngbhljaaDoorCards
import Derived.Test.YtjgfhihngbhljaaDoorTie
import Derived.ProofKit
import Derived.OpenShut
import Derived.ShutString
import Derived.ChangeOld
import Derived.Deep.DeepHandedRow
import Derived.Lib.LaidTab
import Derived.SizedLaws
namespace Go.Proofs.YtjgfhihngbhljaaDoor
open Go.ChangeShapes Go.WideShapes Go.ChangeAt Go.RowKit

theorem laidMet_tail {P : Program} {x : String × DataW Unit} {rest : List (String × DataW Unit)} {W : World} (h : laidMet P (x :: rest) W) : laidMet P rest W := by
  obtain ⟨ps, ⟨g, t, cs, fuel, p, q, _, _, _, _, hq, rfl⟩, hn, hc⟩ := h
  exact ⟨q, hq, (List.nodup_append.1 hn).2.1, fun b off hm => hc b off (List.mem_append_right _ hm)⟩
def listF : List Int := [9007199254740916, 9007199254740988, 9007199254740988, 9007199254740988, 9007199254740988]
def listI : List Int := [1718705420411056, 234908883556509, 2233514472574048, 2117202627021982, 765476049583133]
theorem laid_is : [("buttress/field.fourTimesP", Rows.laid_buttress_field_fourTimesP), ("buttress/field.rootOfMinusOne", Rows.laid_buttress_field_rootOfMinusOne)] = [("buttress/field.fourTimesP", Lib.tabData (H := Unit) .u64 listF), ("buttress/field.rootOfMinusOne", Lib.tabData .u64 listI)] := by kernel_rfl
theorem tables {W : World} (h : laidMet Tryd.prog [("buttress/field.fourTimesP", Rows.laid_buttress_field_fourTimesP), ("buttress/field.rootOfMinusOne", Rows.laid_buttress_field_rootOfMinusOne)] W) : FTab W := by
  rw [laid_is] at h
  have g0 : Tryd.prog.globalNamed "buttress/field.fourTimesP" = some 0 := by kernel_rfl
  have g1 : Tryd.prog.globalNamed "buttress/field.rootOfMinusOne" = some 1 := by kernel_rfl
  have h0 := Lib.tabIs_of_head g0 (by kernel_rfl) Tryd.underlying24 Tryd.underlying22 (by kernel_rfl) (by kernel_rfl) h
  have h1 := Lib.tabIs_of_head g1 (by kernel_rfl) Tryd.underlying24 Tryd.underlying22 (by kernel_rfl) (by kernel_rfl) (laidMet_tail h)
  have hp : ∀ i, i < 5 → W.cell? ⟨0, i, none⟩ = some (.int .u64 (fourP i)) := fun i hi => by
    rw [h0.cell g0 i hi]
    obtain rfl | rfl | rfl | rfl | rfl : i = 0 ∨ i = 1 ∨ i = 2 ∨ i = 3 ∨ i = 4 := by omega
    all_goals rfl
  have hq : ∀ i, i < 5 → W.cell? ⟨1, i, none⟩ = some (.int .u64 (rootI.at i)) := fun i hi => by
    rw [h1.cell g1 i hi]
    obtain rfl | rfl | rfl | rfl | rfl : i = 0 ∨ i = 1 ∨ i = 2 ∨ i = 3 ∨ i = 4 := by omega
    all_goals rfl
  refine ⟨?_, hp, hq⟩
  have h2 := block_lt_of_cell (hp 0 (by decide))
  have h3 := block_lt_of_cell (hq 0 (by decide))
  simp only [] at h2 h3
  exact ⟨h2, h3⟩

theorem own : ownKnob Tryd.prog.godebug = none := by kernel_rfl
theorem laidOut : laidOutB Tryd.prog = true := by kernel_rfl
/-- another row in a block -/
def putObj (l : List Int) : Obj → Obj
  | .cells _ t frozen => .cells (l.map (Value.int .u64)).toArray t frozen
  | o => o
/-- A WORLD FOR A WITNESS: the settled one, the two elements holding what their initialisers lay. -/
noncomputable def laidWorld (os : Os) : World :=
  { World.holding Tryd.prog os ⟨#[], #[], []⟩ with heap := ((World.holding Tryd.prog os ⟨#[], #[], []⟩).heap.modify 0 (putObj listF)).modify 1 (putObj listI) }
theorem okWide_array {P : Program} {w : World} {r : Reach} {base n : Nat} {t e : TypeId} {v : Value} (ht : P.underlying t = some (.array n e)) (h : Value.okWide P w r base t v) : ∃ cs, v = .agg cs ∧ cs.size = P.cellsOf t := by
  simp only [Value.okWide, ht] at h
  obtain ⟨cs, h1, h2, _⟩ := h
  exact ⟨cs, h1, h2⟩
/-- an argument that is an element -/
theorem elem_open {H : Type} {enc : TypeId × Value → H} {W : World} {base : Nat} {v : Value} {d : DataW H} {ps : List MemPlace} (hv : Value.okWide Tryd.prog W .any base 24 v) (h : DataW.Trod enc Tryd.prog W 0 (fun _ => true) true 24 v d ps) :
    ∃ x : Fe, x.Ok ∧ v = .agg #[.int .u64 x.x0, .int .u64 x.x1, .int .u64 x.x2, .int .u64 x.x3, .int .u64 x.x4] := by
  obtain ⟨cs, rfl, hsz⟩ := okWide_array Tryd.underlying24 hv
  have h5 : Tryd.prog.cellsOf 24 = 5 := by kernel_rfl
  have h1 : Tryd.prog.cellsOf 22 = 1 := by kernel_rfl
  obtain ⟨l⟩ := cs
  match l, hsz.trans h5 with
  | [c0, c1, c2, c3, c4], _ =>
    obtain ⟨fuel, hf⟩ := h
    obtain ⟨xs, m, _, _, _, hlen, hg⟩ := DataW.trod_array Tryd.underlying24 hf
    rw [h1] at hg
    match xs, hlen with
    | [y0, y1, y2, y3, y4], _ =>
      have e0 : DataW.trod enc Tryd.prog W 0 (fun _ => true) true m 22 [c0] = some y0 := hg 0 (by decide)
      have e1 : DataW.trod enc Tryd.prog W 0 (fun _ => true) true m 22 [c1] = some y1 := hg 1 (by decide)
      have e2 : DataW.trod enc Tryd.prog W 0 (fun _ => true) true m 22 [c2] = some y2 := hg 2 (by decide)
      have e3 : DataW.trod enc Tryd.prog W 0 (fun _ => true) true m 22 [c3] = some y3 := hg 3 (by decide)
      have e4 : DataW.trod enc Tryd.prog W 0 (fun _ => true) true m 22 [c4] = some y4 := hg 4 (by decide)
      obtain ⟨n0, q0, _, w0⟩ := DataW.trod_int Tryd.underlying22 e0
      obtain ⟨n1, q1, _, w1⟩ := DataW.trod_int Tryd.underlying22 e1
      obtain ⟨n2, q2, _, w2⟩ := DataW.trod_int Tryd.underlying22 e2
      obtain ⟨n3, q3, _, w3⟩ := DataW.trod_int Tryd.underlying22 e3
      obtain ⟨n4, q4, _, w4⟩ := DataW.trod_int Tryd.underlying22 e4
      simp only [List.cons.injEq, and_true] at q0 q1 q2 q3 q4
      subst q0; subst q1; subst q2; subst q3; subst q4
      simp [Lit.wf, IntKind.min, IntKind.max, IntKind.signed, IntKind.bits] at w0 w1 w2 w3 w4
      refine ⟨⟨n0, n1, n2, n3, n4⟩, ?_, rfl⟩
      constructor <;> simp only [] <;> omega
end Go.Proofs.YtjgfhihngbhljaaDoor
