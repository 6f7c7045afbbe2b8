/- The document's field: a number's sixteen parts as a value, as a block. -/
import Derived.Test.YtjgfhihngbhljaaDoorNsM
import Derived.Test.YtjgfhihngbhljaaDoorFlowS
namespace Go.Proofs.YtjgfhihngbhljaaDoor
open Go.RowKit Ns
namespace Nr
def pV (n : Nat) : Value := .int .u64 (n : Int)
def pL (l : List Nat) : List Value := l.map pV
theorem pL_len (l : List Nat) : (pL l).length = l.length := by simp [pL]
theorem pL_get (l : List Nat) (i : Nat) (h : i < l.length) : (pL l)[i]? = some (.int .u64 ((l.getD i 0 : Nat) : Int)) := by
  unfold pL
  rw [List.getElem?_map, List.getElem?_eq_getElem h, List.getD_eq_getElem?_getD, List.getElem?_eq_getElem h]
  rfl
theorem pL_set (l : List Nat) (i x : Nat) : (pL l).set i (.int .u64 (x : Int)) = pL (l.set i x) := by
  unfold pL
  rw [List.map_set]
  rfl
theorem pL_one (l : List Nat) : (pL l).all (·.oneCell') = true := by
  rw [List.all_eq_true]
  intro v hv
  obtain ⟨x, _, rfl⟩ := List.mem_map.1 hv
  rfl
/-- a number as a value -/
def nV (l : List Nat) : Value := .agg (pL l).toArray
abbrev zeros : List Nat := List.replicate 16 0
theorem V_zeros : V zeros = 0 := by decide
theorem info_N : (Tryd.prog.info? 33).map (·.size) = some 16 := by kernel_rfl
theorem cell {w : World} {B : Nat} {l : List Nat} (h : Blk w B 33 (pL l)) (i : Nat) (hi : i < l.length) : w.cell? ⟨B, i, none⟩ = some (.int .u64 ((l.getD i 0 : Nat) : Int)) := h.cell (pL_get l i hi)
theorem set {w : World} {B : Nat} {l : List Nat} (h : Blk w B 33 (pL l)) (i x : Nat) : Blk (w.setCell ⟨B, i, none⟩ (.int .u64 (x : Int))) B 33 (pL (l.set i x)) := by
  have := h.set i (.int .u64 (x : Int))
  rwa [pL_set] at this
/-- a number is loaded -/
theorem ld {P : Program} {ρ : Operand → Value} {o : Oper} {w : World} {x : Operand} {B : Nat} {l : List Nat} (ho : o.op = .load 33 x) (hx : ρ x = .pointer (some ⟨B, 0, none⟩)) (h : Blk w B 33 (pL l)) (hl : l.length = 16)
    (hu : P.underlying 33 = Tryd.prog.underlying 33) (hi : P.info? 33 = Tryd.prog.info? 33) : (execOp ρ o).run P w = .ok (.value (nV l)) w :=
  Fg.run_load ho hx (h.range 0 (pL l) (by rw [List.drop_zero, List.take_length])) (hu.trans Tryd.underlying33) rfl (by rw [hi, pL_len, hl]; exact info_N)
/-- and stored -/
theorem st {P : Program} {ρ : Operand → Value} {o : Oper} {w : World} {x y : Operand} {B : Nat} {l : List Nat} {L : List Value} (ho : o.op = .store 33 x y) (hx : ρ x = .pointer (some ⟨B, 0, none⟩)) (hy : ρ y = nV l) (h : Blk w B 33 L) (hL : L.length = 16) (hl : l.length = 16)
    (hi : P.info? 33 = Tryd.prog.info? 33) : (execOp ρ o).run P w = .ok .skip (w.setCells B 0 (pL l)) :=
  Fg.run_store ho hx hy (h.there 0 (pL l).length (by rw [pL_len, hl, hL]; decide)) (by rw [hi, pL_len, hl]; exact info_N) (pL_one l)
theorem stored {w : World} {B : Nat} {l : List Nat} {L : List Value} (h : Blk w B 33 L) (hL : L.length = 16) (hl : l.length = 16) : Blk (w.setCells B 0 (pL l)) B 33 (pL l) := h.setAll (by rw [hL, pL_len, hl])
theorem new {w : World} {B : Nat} (h : w.heap.size = B) (l : List Nat) : Blk (w.alloc (.cells (pL l).toArray 33)) B 33 (pL l) := h ▸ Blk.new w (pL l) _
/-- a variable, that is laid with a number -/
theorem var (w : World) (l : List Nat) (hl : l.length = 16) : Blk ((w.alloc (.cells (pL zeros).toArray 33)).setCells w.heap.size 0 (pL l)) w.heap.size 33 (pL l) ∧ w.grownBy ((w.alloc (.cells (pL zeros).toArray 33)).setCells w.heap.size 0 (pL l)) none ∧ w.heap.size < ((w.alloc (.cells (pL zeros).toArray 33)).setCells w.heap.size 0 (pL l)).heap.size := by
  have h := stored (l := l) (new (w := w) rfl zeros) rfl hl
  exact ⟨h, gb_setCells_new (gb_alloc (gb_refl w none) _) (Nat.le_refl _) 0, h.lt⟩
/-- two arguments, a result, a variable -/
theorem four (w0 : World) (a b : List Nat) : Blk ((((w0.alloc (.cells (pL a).toArray 33)).alloc (.cells (pL b).toArray 33)).alloc (.cells (pL zeros).toArray 33)).alloc (.cells (pL zeros).toArray 33)) w0.heap.size 33 (pL a) ∧
    Blk ((((w0.alloc (.cells (pL a).toArray 33)).alloc (.cells (pL b).toArray 33)).alloc (.cells (pL zeros).toArray 33)).alloc (.cells (pL zeros).toArray 33)) (w0.heap.size + 1) 33 (pL b) ∧
    Blk ((((w0.alloc (.cells (pL a).toArray 33)).alloc (.cells (pL b).toArray 33)).alloc (.cells (pL zeros).toArray 33)).alloc (.cells (pL zeros).toArray 33)) (w0.heap.size + 2) 33 (pL zeros) ∧
    Blk ((((w0.alloc (.cells (pL a).toArray 33)).alloc (.cells (pL b).toArray 33)).alloc (.cells (pL zeros).toArray 33)).alloc (.cells (pL zeros).toArray 33)) (w0.heap.size + 3) 33 (pL zeros) ∧
    w0.grownBy ((((w0.alloc (.cells (pL a).toArray 33)).alloc (.cells (pL b).toArray 33)).alloc (.cells (pL zeros).toArray 33)).alloc (.cells (pL zeros).toArray 33)) none :=
  ⟨(((new rfl a).alloc _).alloc _).alloc _, ((new (by simp) b).alloc _).alloc _, (new (by simp) zeros).alloc _, new (by simp) zeros, gb_alloc (gb_alloc (gb_alloc (gb_alloc (gb_refl w0 none) _) _) _) _⟩
/-- a result that is a number -/
theorem res {fn : Func} {p : Tmp} (h : fn.results = #[.cell p 33]) (tmps : Array Value) (w : World) (g : Nat) (l : List Nat) (hp : tmps.getD p undef = .pointer (some ⟨g, 0, none⟩)) (hg : Blk w g 33 (pL l)) (hl : l.length = 16) :
    (results fn tmps).run Tryd.prog w = .ok (nV l) w :=
  results_cell_row h tmps w g 33 (pL l).toArray (0, 0) _ hp hg Tryd.underlying33 rfl (by rw [List.size_toArray, pL_len, hl]; exact info_N)
/-- a number that is answered -/
def Out (l : List Nat) (w : World) (e : Ending) (w' : World) : Prop := e = .returned (nV l) ∧ w.grownBy w' none
theorem getD_lt (l : List Nat) (hl : Whole l) (i : Nat) : l.getD i 0 < 65536 := of_whole hl i
end Nr
end Go.Proofs.YtjgfhihngbhljaaDoor
