/- Regions that draw their order, in short: memory only grows; slices of bytes, rows of them; a tail in text order. -/
import Derived.Test.YtohcoihdijemfaaFlowS
import Derived.Test.YtohcoihdijemfaaRowsArg
import Derived.Test.YtohcoihdijemfaaWiCalls
namespace Go.Proofs.Ytohcoihdijemfaa
open Go.RowKit Ow Wi
/-- a call that answers bytes -/
def BOut (w : World) (l : List Nat) (e : Ending) (w' : World) : Prop := ∃ a c, e = .returned (.slice a l.length c) ∧ w.grownBy w' none ∧ BytesAt w' w'.heap.size a c l
theorem bout_own {w w' : World} {base n : Nat} {v : Value} {l : List Nat} (hg : w.grownBy w' none) (h : w'.ownsRow base 5 1 v n (l.map u8N)) (hn : l.length = n) (hb : ∀ i, l.getD i 0 < 256) : BOut w l (.returned v) w' := by
  subst hn
  obtain ⟨a, c, rfl, _, hB, _⟩ := own_slice h hb
  exact ⟨a, c, rfl, hg, hB⟩
theorem app_byte {p q : List Nat} (hp : ∀ i, p.getD i 0 < 256) (hq : ∀ i, q.getD i 0 < 256) (i : Nat) : (p ++ q).getD i 0 < 256 := by
  rw [List.getD_eq_getElem?_getD, List.getElem?_append]
  split
  · rw [← List.getD_eq_getElem?_getD]; exact hp i
  · rw [← List.getD_eq_getElem?_getD]; exact hq _
theorem flat_byte {L : List (List Nat)} (h : ∀ l ∈ L, ∀ i, l.getD i 0 < 256) : ∀ i, L.flatten.getD i 0 < 256 := by
  induction L with
  | nil => intro i; simp
  | cons l r ih =>
    intro i
    rw [List.flatten_cons]
    exact app_byte (h l (by simp)) (ih fun l hl => h l (by simp [hl])) i
theorem number_out (n : Int) (w : World) : Calls Try.prog 54 #[.int .i64 n] w (BOut w (encN n)) :=
  (numF_any n w).mono fun e w' ⟨g, he, hg, _, hb⟩ => ⟨_, 8, by rw [encN_length]; exact he, hg, numF_bytes hb⟩
/-- a row of bytes with its length ahead -/
theorem bytes_out (n : Nat) (l : List Nat) (a : Option Addr) (cap B : Nat) (w : World) (hn : l.length = n) (h : BytesAt w B a cap l) (hl : l.length ≤ 900000) : Calls Try.prog 52 #[.slice a n cap] w (BOut w (encN (l.length : Int) ++ l)) := by
  subst hn
  exact (bytesF_any l.length cap B a l w rfl hl h).mono fun e w' ⟨v, he, hg, ho⟩ => he ▸ bout_own hg ho (by rw [List.length_append, encN_length]) (app_byte (encN_byte _) h.byte)
theorem join_out (n : Nat) (L : List (List Nat)) (a : Option Addr) (cap B : Nat) (w : World) (hn : L.length = n) (h : RowsAt w B a L) (hm : L.length < 9223372036854775808) (hl : L.flatten.length ≤ 1000000) (hb : ∀ l ∈ L, ∀ i, l.getD i 0 < 256) : Calls Try.prog 49 #[.slice a n cap] w (BOut w L.flatten) := by
  subst hn
  exact (join_any L.length cap B L a w rfl h hm hl).mono fun e w' ⟨v, he, hg, ho⟩ => he ▸ bout_own hg ho rfl (flat_byte hb)
/-- rows of bytes, that a box holds -/
def rowV (p : Option Addr × Nat × List Nat) : Value := .slice p.1 p.2.2.length p.2.1
theorem rows_box {w : World} (T : TypeId) (P : List (Option Addr × Nat × List Nat)) (h : ∀ p ∈ P, ∃ B, BytesAt w B p.1 p.2.1 p.2.2) :
    RowsAt (w.alloc (.cells (P.map rowV).toArray T)) (w.heap.size + 1) (some ⟨w.heap.size, 0, none⟩) (P.map (·.2.2)) := by
  have hb := Blk.new w (P.map rowV) T
  have hg := gb_alloc (gb_refl w none) (.cells (P.map rowV).toArray T)
  refine ⟨by simp, Or.inr ⟨w.heap.size, 0, rfl, by omega, fun i hi => ?_⟩⟩
  rw [List.length_map] at hi
  have e : P[i]? = some P[i] := List.getElem?_eq_getElem hi
  obtain ⟨B, hB⟩ := h P[i] (List.getElem_mem hi)
  have e2 : (P.map (·.2.2)).getD i [] = P[i].2.2 := by rw [List.getD_eq_getElem?_getD, List.getElem?_map, e]; rfl
  refine ⟨P[i].1, P[i].2.1, ?_, ?_⟩
  · rw [Nat.zero_add, e2]
    exact hb.cell (by rw [List.getElem?_map, e]; rfl)
  · rw [e2]
    exact (hB.stay hg).up (Nat.le_trans hB.lim (by omega)) (by simp)
theorem bytes_box {w : World} (l : List Nat) (h : ∀ i, l.getD i 0 < 256) (hl : l.length < 1000000) : BytesAt (w.alloc (.cells (l.map u8N).toArray 5)) (w.heap.size + 1) (some ⟨w.heap.size, 0, none⟩) l.length l :=
  blk_bytes (tl := []) (by rw [List.append_nil]; exact Blk.new w (l.map u8N) _) rfl (Nat.le_refl _) (by omega) h (by omega) (by simp)
namespace Fg
/-- a slice of the bytes l -/
def It.by (l : List Nat) : It := ⟨fun v w => ∃ a cap B, v = .slice a l.length cap ∧ BytesAt w B a cap l, fun _ _ _ ⟨a, cap, B, e, h⟩ hg => ⟨a, cap, B, e, h.stay hg⟩⟩
def It.rws (L : List (List Nat)) : It := ⟨fun v w => ∃ a cap B, v = .slice a L.length cap ∧ RowsAt w B a L, fun _ _ _ ⟨a, cap, B, e, h⟩ hg => ⟨a, cap, B, e, h.stay hg⟩⟩
section
variable {P : Program} {ops : Array Oper} {Q : Exit → Act → World → Prop} {L : List It} {W0 : World} {a0 : Act} {ps : List Nat}
abbrev AtT (k : Nat) (ps : List Nat) (L : List It) (W0 : World) (a0 : Act) (ops : Array Oper) (o : Oper) (a : Act) (w : World) : Prop := AtP k ps L (fun w => W0.grownBy w none) a0 ops o a w
abbrev StT (k : Nat) (ps : List Nat) (P : Program) (Q : Exit → Act → World → Prop) (L : List It) (W0 : World) (a0 : Act) (ops : Array Oper) (i : Nat) (o : Oper) : Prop := (∃ d, o.dst = some d) ∧ StepP k ps P Q L (fun w => W0.grownBy w none) a0 ops i o
theorem vT {k i : Nat} {o : Oper} {d : Nat} (hd : o.dst = some d) (hps : (ps.all fun s => s != d) = true)
    (h : ∀ a w, AtT k ps L W0 a0 ops o a w → ∃ v w', Wants ops o a ∧ (execOp a.eval o).run P w = .ok (.value v) w' ∧ w.grownBy w' none ∧ its L d v w') : StT k ps P Q L W0 a0 ops i o :=
  ⟨⟨d, hd⟩, valueP (fun _ _ h k => gb_trans h k) hd hps fun a w hF => by
    obtain ⟨v, w', hw, hr, hg, hG⟩ := h a w hF
    exact ⟨hw, v, w', hr, hg, hG⟩⟩
theorem cT {k i : Nat} {o : Oper} {d : Nat} (hd : o.dst = some d) (hps : (ps.all fun s => s != d) = true)
    (h : ∀ a w, AtT k ps L W0 a0 ops o a w → ∃ f args, Wants ops o a ∧ (execOp a.eval o).run P w = .ok (.enter f args) w ∧ Calls P f args w fun e w' => ∃ v, e = .returned v ∧ w.grownBy w' none ∧ its L d v w') : StT k ps P Q L W0 a0 ops i o :=
  ⟨⟨d, hd⟩, callP (fun _ _ h k => gb_trans h k) hd hps fun a w hF => by
    obtain ⟨f, args, hw, hr, hc⟩ := h a w hF
    exact ⟨hw, f, args, hr, hc⟩⟩
/-- a new box -/
theorem aT {k i : Nat} {o : Oper} {d : Nat} (T : TypeId) (V : List Value) (hd : o.dst = some d) (hlt : d < a0.tmps.size) (hi : L.getD d .any = .fresh T V W0.heap.size)
    (h : ∀ a w, AtT k ps L W0 a0 ops o a w → Wants ops o a ∧ (execOp a.eval o).run P w = .ok (.value (.pointer (some ⟨w.heap.size, 0, none⟩))) (w.alloc (.cells V.toArray T))) : StT k ps P Q L W0 a0 ops i o :=
  ⟨⟨d, hd⟩, allocP (fun _ _ h k => gb_trans h k) hd hlt fun a w hF => by
    obtain ⟨hw, hr⟩ := h a w hF
    refine ⟨hw, _, hr, World.grownBy_alloc _ _ _, by simp, ?_⟩
    unfold its
    rw [hi]
    exact ⟨w.heap.size, rfl, hF.base.size, Blk.new w V T⟩⟩
theorem sT {k i : Nat} {o : Oper} {d : Nat} (hd : o.dst = some d) (hps : (ps.all fun s => s != d) = true) (hG : ∀ w, its L d undef w)
    (h : ∀ a w, AtT k ps L W0 a0 ops o a w → Region.wanted o (yielded ops a.tmps) = false) : StT k ps P Q L W0 a0 ops i o :=
  ⟨⟨d, hd⟩, skippedP hd hps hG h⟩
theorem region_t {id : Nat} {w : World} (ps : List Nat) (L : List It) (W0 : World) (k : Nat) (hB0 : W0.grownBy w none) (hm : P.follows .mixedOrders = true) (ht : topo ops = true) (ho : once (ops.extract 0 k) a0.tmps.size = true) (htl : tailOk ops k = true) (hk : k ≤ ops.size)
    (hu : (ps.all fun s => match a0.tmps.getD s undef with | .pointer _ => false | _ => true) = true)
    (steps : StepsS k ps P Q L (fun w => W0.grownBy w none) a0 ops 0 (ops.toList.take k))
    (fin : ∀ a w', W0.grownBy w' none → a.tmps.size = a0.tmps.size → a.defers = a0.defers → (∀ d, isDstTo ops k d = false → a.tmps.getD d undef = a0.tmps.getD d undef) →
      (∀ d, isDstTo ops k d = true → its L d (a.tmps.getD d undef) w') → PtrsApart ps a w' → wpList P ops Q (ops.toList.drop k) a w') : (Code.region id ops true).wp P Q a0 w :=
  wp_region_tail L (fun w => W0.grownBy w none) k (gb_drew hB0) hm ht ho htl hk (ptrs_undef hu) steps fin
end
end Fg
end Go.Proofs.Ytohcoihdijemfaa
