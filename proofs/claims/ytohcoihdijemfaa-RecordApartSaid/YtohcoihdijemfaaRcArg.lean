/- A law's arguments: records. -/
import Derived.Test.YtohcoihdijemfaaRcMem
import Derived.Test.YtohcoihdijemfaaVeArg0
import Derived.Test.YtohcoihdijemfaaOpen
import Derived.ChangeArms
namespace Go.Proofs.Ytohcoihdijemfaa
open Go.ChangeShapes Go.WideShapes Go.ChangeAt Go.RowKit Go.Deep Go.Joins Ow Ve
namespace Rc
theorem array7 {α : Type} {cs : Array α} (h : cs.size = 7) : ∃ c0 c1 c2 c3 c4 c5 c6, cs = #[c0, c1, c2, c3, c4, c5, c6] := by
  obtain ⟨l⟩ := cs
  match l, h with
  | [c0, c1, c2, c3, c4, c5, c6], _ => exact ⟨c0, c1, c2, c3, c4, c5, c6, rfl⟩
/-- each field of a struct of seven cells -/
theorem open_agg7 {H : Type} {enc : TypeId × Value → H} {P : Program} {w : World} {base : Nat} {spare : Nat → Bool} {held : Bool} {r : Reach} {b0 : Nat} {t : TypeId} {fs : Array Field} {v : Value} {d : DataW H} {p : List MemPlace} (hs : P.underlying t = some (.struct fs)) (hone : oneCellFields P fs = true) (hC : P.cellsOf t = 7)
    (hv : Value.okWide P w r b0 t v) (h : DataW.Trod enc P w base spare held t v d p) :
    ∃ (cs : Array Value) (n : Nat), v = .agg cs ∧ cs.size = 7 ∧ ∀ (i : Nat) (f : Field), fs[i]? = some f → ∀ u, cs.toList[i]? = some u → ∃ y, DataW.trod enc P w base spare held n f.type [u] = some y := by
  obtain ⟨cs, rfl, hsz⟩ := okWide_struct hs hv
  obtain ⟨fuel, hf⟩ := h
  obtain ⟨xs, n, _, _, _, hlen, hx⟩ := DataW.trod_struct hs hf
  refine ⟨cs, n, rfl, hsz.trans hC, fun i f hi u hu => ?_⟩
  have h1 := hx i f hi
  obtain ⟨o, k⟩ := hone_of hone i f hi
  have hi2 : i < xs.length := by rw [hlen]; exact (Array.getElem?_eq_some_iff.1 hi).1
  rw [List.getElem?_eq_getElem hi2] at h1
  refine ⟨xs[i], ?_⟩
  rw [← h1, o, k]
  congr 1
  have hi3 : i < cs.toList.length := (List.getElem?_eq_some_iff.1 hu).1
  rw [show (Value.agg cs).cells.toList = cs.toList from rfl, List.drop_eq_getElem_cons hi3]
  rw [List.getElem?_eq_getElem hi3] at hu
  simp only [Option.some.injEq] at hu
  rw [hu]; rfl
theorem slice_of {H : Type} {enc : TypeId × Value → H} {W : World} {n : Nat} {t e : TypeId} {v : Value} {y : DataW H × List MemPlace} (ht : Try.prog.underlying t = some (.slice e)) (h : DataW.trod enc Try.prog W 0 (fun _ => true) true n t [v] = some y) : ∃ a l c, v = .slice a l c := by
  rcases open_slice ht h with ⟨hcs, _⟩ | ⟨a, l, c, _, _, _, _, hcs, _⟩
  · exact ⟨none, 0, 0, by simpa using hcs⟩
  · exact ⟨some a, l, c, by simpa using hcs⟩
theorem bytes_trod {H : Type} {enc : TypeId × Value → H} {W : World} {n len cap : Nat} {a : Option Addr} {y : DataW H × List MemPlace} (h : DataW.trod enc Try.prog W 0 (fun _ => true) true n 22 [.slice a len cap] = some y) : ∃ p, p.length = len ∧ BytesAt W W.heap.size a cap p :=
  bytes_open (d := y.1) (ps := y.2) ⟨n, h⟩
set_option maxRecDepth 100000 in
/-- an argument that is a record -/
theorem rec_open {H : Type} {enc : TypeId × Value → H} {W : World} {rr : Reach} {b0 : Nat} {v : Value} {d : DataW H} {ps : List MemPlace} (hv : Value.okWide Try.prog W rr b0 25 v) (h : DataW.Trod enc Try.prog W 0 (fun _ => true) true 25 v d ps) :
    ∃ (q : L) (r : R), v = q.v r ∧ RAt W W.heap.size q r := by
  obtain ⟨cs, n, rfl, hsz, hall⟩ := open_agg7 Try.underlying25 (by kernel_rfl) (by kernel_rfl) hv h
  obtain ⟨c0, c1, c2, c3, c4, c5, c6, rfl⟩ := array7 hsz
  obtain ⟨y0, t0⟩ := hall 0 _ rfl c0 rfl
  obtain ⟨y1, t1⟩ := hall 1 _ rfl c1 rfl
  obtain ⟨y2, t2⟩ := hall 2 _ rfl c2 rfl
  obtain ⟨y3, t3⟩ := hall 3 _ rfl c3 rfl
  obtain ⟨y4, t4⟩ := hall 4 _ rfl c4 rfl
  obtain ⟨y5, t5⟩ := hall 5 _ rfl c5 rfl
  obtain ⟨y6, t6⟩ := hall 6 _ rfl c6 rfl
  obtain ⟨s, e0, _, _⟩ := DataW.trod_string Try.underlying9 t0
  obtain ⟨cl, rfl⟩ := int_of t1
  obtain ⟨sq, rfl⟩ := int_of t2
  obtain ⟨g, e4, _⟩ := DataW.trod_bool Try.underlying4 t4
  obtain rfl : c0 = .string s := by simpa using e0
  obtain rfl : c4 = .bool g := by simpa using e4
  obtain ⟨a1, n1, k1, rfl⟩ := slice_of Try.underlying23 t3
  obtain ⟨a2, n2, k2, rfl⟩ := slice_of Try.underlying22 t5
  obtain ⟨a3, n3, k3, rfl⟩ := slice_of Try.underlying22 t6
  obtain ⟨cx, hl1, hm, hd⟩ := dots_trod t3
  obtain ⟨val, hl2, hvb⟩ := bytes_trod t5
  obtain ⟨sig, hl3, hsb⟩ := bytes_trod t6
  exact ⟨⟨s, a1, n1, k1, a2, n2, k2, a3, n3, k3⟩, ⟨strL s, cl, sq, cx, g, val, sig⟩, rfl, rfl, hl1, hl2, hl3, hd, hvb, hsb, hm⟩
end Rc
end Go.Proofs.Ytohcoihdijemfaa
