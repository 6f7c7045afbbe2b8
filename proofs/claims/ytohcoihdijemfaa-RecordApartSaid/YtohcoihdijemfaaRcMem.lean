/- Records in memory. -/
import Derived.Test.YtohcoihdijemfaaRcM
import Derived.Test.YtohcoihdijemfaaStr
import Derived.Test.YtohcoihdijemfaaVeCovers
import Derived.Test.YtohcoihdijemfaaWiCalls
namespace Go.Proofs.Ytohcoihdijemfaa
open Go.RowKit Ow Wi Ve
namespace Rc
/-- where a record's parts lie -/
structure L where
  s : ByteArray
  a1 : Option Addr
  n1 : Nat
  c1 : Nat
  a2 : Option Addr
  n2 : Nat
  c2 : Nat
  a3 : Option Addr
  n3 : Nat
  c3 : Nat
def cellsV (s : ByteArray) (cl sq : Int) (a1 : Option Addr) (n1 c1 : Nat) (g : Bool) (a2 : Option Addr) (n2 c2 : Nat) (a3 : Option Addr) (n3 c3 : Nat) : List Value :=
  [.string s, iV cl, iV sq, .slice a1 n1 c1, .bool g, .slice a2 n2 c2, .slice a3 n3 c3]
def L.cells (q : L) (r : R) : List Value := cellsV q.s r.cl r.sq q.a1 q.n1 q.c1 r.gone q.a2 q.n2 q.c2 q.a3 q.n3 q.c3
def L.v (q : L) (r : R) : Value := .agg (q.cells r).toArray
/-- no record's cells -/
def z7 : List Value := cellsV ⟨#[]⟩ 0 0 none 0 0 false none 0 0 none 0 0
structure RAt (w : World) (B : Nat) (q : L) (r : R) : Prop where
  str : strL q.s = r.key
  l1 : r.cx.length = q.n1
  l2 : r.val.length = q.n2
  l3 : r.sig.length = q.n3
  dots : DotsAt w B q.a1 r.cx
  val : BytesAt w B q.a2 q.c2 r.val
  sig : BytesAt w B q.a3 q.c3 r.sig
  top : q.n1 < 9223372036854775808
theorem RAt.stay {w w' : World} {B : Nat} {q : L} {r : R} (h : RAt w B q r) (hg : w.grownBy w' none) : RAt w' B q r :=
  ⟨h.str, h.l1, h.l2, h.l3, h.dots.stay hg, h.val.stay hg, h.sig.stay hg, h.top⟩
theorem RAt.full {w : World} {B : Nat} {q : L} {r : R} (h : RAt w B q r) : RAt w w.heap.size q r :=
  ⟨h.str, h.l1, h.l2, h.l3, h.dots.up' h.dots.lim (Nat.le_refl _), h.val.up h.val.lim (Nat.le_refl _), h.sig.up h.sig.lim (Nat.le_refl _), h.top⟩
theorem RAt.keyLen {w : World} {B : Nat} {q : L} {r : R} (h : RAt w B q r) : r.key.length = q.s.size := by rw [← h.str, strL_len]
/-- its rows lie in new blocks -/
def L.New (q : L) (n0 : Nat) : Prop := (∀ g o, q.a1 = some ⟨g, o, none⟩ → n0 ≤ g) ∧ (∀ g o, q.a2 = some ⟨g, o, none⟩ → n0 ≤ g) ∧ ∀ g o, q.a3 = some ⟨g, o, none⟩ → n0 ≤ g
theorem dots_apart {w w' : World} {B T : Nat} {a : Option Addr} {l : List D} (h : DotsAt w B a l) (hg : w.grownBy w' (some T)) (hT : ∀ pb po, a = some ⟨pb, po, none⟩ → pb ≠ T) : DotsAt w' B a l := by
  refine ⟨Nat.le_trans h.lim hg.size, ?_⟩
  rcases h.cells with h0 | ⟨pb, po, ha, hlt, hc⟩
  · exact Or.inl h0
  · have e : ∀ o, w'.cell? ⟨pb, o, none⟩ = w.cell? ⟨pb, o, none⟩ := fun o => gb_cell hg (p := ⟨pb, o, none⟩) (Nat.lt_of_lt_of_le hlt h.lim) (fun e => hT pb po ha (Option.some.inj e))
    exact Or.inr ⟨pb, po, ha, hlt, fun i hi => by rw [e, e]; exact hc i hi⟩
theorem RAt.apart {w w' : World} {B T n0 : Nat} {q : L} {r : R} (h : RAt w B q r) (hg : w.grownBy w' (some T)) (hq : q.New n0) (hT : T < n0) : RAt w' B q r :=
  ⟨h.str, h.l1, h.l2, h.l3, dots_apart h.dots hg (fun pb po e => by have := hq.1 _ _ e; omega), h.val.apart hg (Or.inr fun pb po e => by have := hq.2.1 _ _ e; omega), h.sig.apart hg (Or.inr fun pb po e => by have := hq.2.2 _ _ e; omega), h.top⟩
end Rc
end Go.Proofs.Ytohcoihdijemfaa
