/- A region that draws its order and ends, whatever the order, in ONE operation that waits for all others (a store, a call that writes); plus the runs of single operations as laws. No program is named here. -/
import Derived.Test.YtabdegeaifajfaaGreatDoorFlowG
import Derived.Deep.MidRow
namespace Go.Proofs.YtabdegeaifajfaaGreatDoor
open Go Go.RowKit
/-! ### blocks, by ranges -/
theorem Blk.range {w : World} {B : Nat} {T : TypeId} {L : List Value} (h : Blk w B T L) (o : Nat) (cs : List Value) (hL : (L.drop o).take cs.length = cs) : w.rangeAt B o cs := fun j v hv => by
  have hj : j < cs.length := (List.getElem?_eq_some_iff.1 hv).1
  refine h.cell ?_
  rw [← hL, List.getElem?_take_of_lt hj, List.getElem?_drop] at hv
  exact hv
theorem Blk.there {w : World} {B : Nat} {T : TypeId} {L : List Value} (h : Blk w B T L) (o n : Nat) (hn : o + n ≤ L.length) : w.there B o n := fun j hj => by
  have hlt : o + j < L.length := by omega
  exact ⟨by rw [h.cell (List.getElem?_eq_getElem hlt)]; rfl, h.free _⟩
/-- cells put over others, from o on -/
def over : List Value → Nat → List Value → List Value
  | L, _, [] => L
  | L, o, v :: r => over (L.set o v) (o + 1) r
theorem over_length : ∀ (cs L : List Value) (o : Nat), (over L o cs).length = L.length
  | [], _, _ => rfl
  | v :: r, L, o => by rw [over, over_length r]; simp
theorem over_eq : ∀ (cs L : List Value) (o : Nat), o + cs.length ≤ L.length → over L o cs = L.take o ++ cs ++ L.drop (o + cs.length)
  | [], L, o, _ => by rw [over]; simp
  | v :: r, L, o, h => by
    have hl : o < L.length := by simp at h; omega
    rw [over, over_eq r (L.set o v) (o + 1) (by simp at h ⊢; omega)]
    have e1 : (L.set o v).take (o + 1) = L.take o ++ [v] := by
      rw [List.take_set, List.take_succ_eq_append_getElem hl, List.set_append_right _ _ (by simp; omega)]
      simp [Nat.min_eq_left (Nat.le_of_lt hl)]
    have e2 : (L.set o v).drop (o + 1 + r.length) = L.drop (o + (v :: r).length) := by
      rw [List.drop_set_of_lt (by omega), List.length_cons]
      congr 1
      omega
    rw [e1, e2]
    simp
theorem over_all (cs L : List Value) (h : L.length = cs.length) : over L 0 cs = cs := by
  rw [over_eq cs L 0 (by omega)]
  simp [List.drop_eq_nil_of_le (show L.length ≤ cs.length by omega)]
theorem Blk.setCells : ∀ {cs : List Value} {w : World} {B : Nat} {T : TypeId} {L : List Value} (_ : Blk w B T L) (o : Nat), Blk (w.setCells B o cs) B T (over L o cs)
  | [], _, _, _, _, h, _ => h
  | v :: r, w, B, T, L, h, o => by
    rw [World.setCells]
    exact Blk.setCells (cs := r) (h.set o v) (o + 1)
theorem Blk.setAll {cs : List Value} {w : World} {B : Nat} {T : TypeId} {L : List Value} (h : Blk w B T L) (hl : L.length = cs.length) : Blk (w.setCells B 0 cs) B T cs := by
  have := h.setCells (cs := cs) 0
  rwa [over_all cs L hl] at this
theorem Blk.setCells_other : ∀ {cs : List Value} {w : World} {B C : Nat} {T : TypeId} {L : List Value} (_ : Blk w B T L) (o : Nat) (_ : C ≠ B), Blk (w.setCells C o cs) B T L
  | [], _, _, _, _, _, h, _, _ => h
  | v :: r, w, B, C, T, L, h, o, hne => by
    rw [World.setCells]
    exact Blk.setCells_other (cs := r) (h.other (a := ⟨C, o, none⟩) hne v) (o + 1) hne
theorem gb_setCells : ∀ {cs : List Value} {a w : World} {B : Nat} (_ : a.grownBy w (some B)) (o : Nat), a.grownBy (w.setCells B o cs) (some B)
  | [], _, _, _, h, _ => h
  | v :: r, a, w, B, h, o => by
    rw [World.setCells]
    exact gb_setCells (cs := r) (gb_set h o v) (o + 1)
theorem gb_setCells_new : ∀ {cs : List Value} {a w : World} {row : Option Nat} {B : Nat} (_ : a.grownBy w row) (_ : a.heap.size ≤ B) (o : Nat), a.grownBy (w.setCells B o cs) row
  | [], _, _, _, _, h, _, _ => h
  | v :: r, a, w, row, B, h, hB, o => by
    rw [World.setCells]
    exact gb_setCells_new (cs := r) (gb_set_new h (p := ⟨B, o, none⟩) hB v) hB (o + 1)
namespace Fg
/-- one of the first k operations yields slot d -/
def isDstTo (ops : Array Oper) (k d : Nat) : Bool := (List.range k).any fun j => (ops[j]?).bind (·.dst) == some d
/-- from k on the operations go in the text's order, and wait for all that stand ahead -/
def tailOk (ops : Array Oper) (k : Nat) : Bool := (List.range ops.size).all fun t => decide (t < k) || (List.range t).all fun j => (List.range (t + 1)).any fun i => decide (j < i) && ((ops[i]?).map fun o => waitsFor o j).getD false
/-- a pointer to a block that was made since, and what it has -/
def It.fresh (T : TypeId) (V : List Value) (n0 : Nat) : It := ⟨fun v w => ∃ N, v = .pointer (some ⟨N, 0, none⟩) ∧ n0 ≤ N ∧ Blk w N T V, fun _ _ _ ⟨N, e, hn, h⟩ hg => ⟨N, e, hn, h.grown hg (by simp)⟩⟩
/-- a slice of a block that was made since -/
def It.row (T : TypeId) (V : List Value) (n n0 : Nat) : It := ⟨fun v w => ∃ N, v = .slice (some ⟨N, 0, none⟩) n n ∧ n0 ≤ N ∧ Blk w N T V, fun _ _ _ ⟨N, e, hn, h⟩ hg => ⟨N, e, hn, h.grown hg (by simp)⟩⟩
/-- it stays whatever is written in block S -/
def It.Steady (S : Nat) (it : It) : Prop := ∀ v w w', it.p v w → w.grownBy w' (some S) → it.p v w'
theorem any_steady (S : Nat) : It.any.Steady S := fun _ _ _ _ _ => trivial
theorem val_steady (S : Nat) (x : Value) : (It.val x).Steady S := fun _ _ _ h _ => h
theorem fresh_steady {S n0 : Nat} (T : TypeId) (V : List Value) (h : S < n0) : (It.fresh T V n0).Steady S := fun _ _ _ ⟨N, e, hn, hb⟩ hg => ⟨N, e, hn, hb.grown hg (fun e => by have := Option.some.inj e; omega)⟩
theorem row_steady {S n0 : Nat} (T : TypeId) (V : List Value) (n : Nat) (h : S < n0) : (It.row T V n n0).Steady S := fun _ _ _ ⟨N, e, hn, hb⟩ hg => ⟨N, e, hn, hb.grown hg (fun e => by have := Option.some.inj e; omega)⟩
theorem its_steady {S : Nat} {L : List It} (hL : ∀ it ∈ L, it.Steady S) {w w' : World} (hg : w.grownBy w' (some S)) (d : Nat) (v : Value) (h : its L d v w) : its L d v w' := by
  unfold its at *
  by_cases hd : d < L.length
  · rw [List.getD_eq_getElem?_getD, List.getElem?_eq_getElem hd] at *
    exact hL _ (List.getElem_mem hd) v w w' h hg
  · rw [List.getD_eq_getElem?_getD, List.getElem?_eq_none (by omega)] at *
    trivial
section
variable {P : Program} {ops : Array Oper} {Q : Exit → Act → World → Prop} {L : List It} {B : World → Prop} {a0 : Act} {ps : List Nat}
structure AtP (k : Nat) (ps : List Nat) (L : List It) (B : World → Prop) (a0 : Act) (ops : Array Oper) (o : Oper) (a : Act) (w : World) : Prop where
  base : B w
  size : a.tmps.size = a0.tmps.size
  ptrs : PtrsApart ps a w
  rest : ∀ d, isDstTo ops k d = false → a.tmps.getD d undef = a0.tmps.getD d undef
  dep : ∀ d, waits ops o d = true → its L d (a.tmps.getD d undef) w
def PostP (ps : List Nat) (L : List It) (B : World → Prop) (o : Oper) (a : Act) (w : World) (v : Value) (w' : World) : Prop :=
  B w' ∧ (∀ d u, its L d u w → its L d u w') ∧ PtrsApart ps (a.put o.dst v) w' ∧ ∀ d, o.dst = some d → its L d v w'
def StepP (k : Nat) (ps : List Nat) (P : Program) (Q : Exit → Act → World → Prop) (L : List It) (B : World → Prop) (a0 : Act) (ops : Array Oper) (i : Nat) (o : Oper) : Prop :=
  ∀ a w, AtP k ps L B a0 ops o a w → ops[i]? = some o → wpOp P ops Q i (fun a' w' => ∃ v, a' = a.put o.dst v ∧ PostP ps L B o a w v w') a w
theorem not_in {d : Nat} (h : (ps.all fun s => s != d) = true) : ∀ s ∈ ps, (some d : Option Tmp) ≠ some s := fun s hs e => by
  have := (List.all_eq_true.1 h) s hs
  rw [Option.some.inj e] at this
  simp at this
theorem stepValue {k i : Nat} {o : Oper} {d : Nat} (hd : o.dst = some d) (h : ∀ a w, AtP k ps L B a0 ops o a w → Wants ops o a ∧ ∃ v w', (execOp a.eval o).run P w = .ok (.value v) w' ∧ B w' ∧ (∀ d u, its L d u w → its L d u w') ∧ PtrsApart ps (a.put (some d) v) w' ∧ its L d v w') : StepP k ps P Q L B a0 ops i o := by
  intro a w hF hi
  obtain ⟨hw, v, w', hr, hB, hRG, hP, hG⟩ := h a w hF
  unfold Wants at hw
  unfold wpOp
  simp only [hi, hw, if_true]
  refine Or.inl ?_
  unfold Oper.wp
  rw [hr]
  exact ⟨v, rfl, hB, hRG, by rw [hd]; exact hP, fun d' e => by rw [hd] at e; cases e; exact hG⟩
theorem stepCall {k i : Nat} {o : Oper} {d : Nat} (hd : o.dst = some d)
    (h : ∀ a w, AtP k ps L B a0 ops o a w → Wants ops o a ∧ ∃ f args, (execOp a.eval o).run P w = .ok (.enter f args) w ∧ Calls P f args w fun e w' => ∃ v, e = .returned v ∧ B w' ∧ (∀ d u, its L d u w → its L d u w') ∧ PtrsApart ps (a.put (some d) v) w' ∧ its L d v w') : StepP k ps P Q L B a0 ops i o := by
  intro a w hF hi
  obtain ⟨hw, f, args, hr, hc⟩ := h a w hF
  unfold Wants at hw
  unfold wpOp
  simp only [hi, hw, if_true]
  refine Or.inl ?_
  unfold Oper.wp
  rw [hr]
  refine Calls.mono hc fun e w' he => ?_
  obtain ⟨v, rfl, hB, hRG, hP, hG⟩ := he
  exact ⟨v, rfl, hB, hRG, by rw [hd]; exact hP, fun d' e => by rw [hd] at e; cases e; exact hG⟩
theorem valueP {k i : Nat} {o : Oper} {d : Nat} (hBs : ∀ w w', B w → w.grownBy w' none → B w') (hd : o.dst = some d) (hps : (ps.all fun s => s != d) = true)
    (h : ∀ a w, AtP k ps L B a0 ops o a w → Wants ops o a ∧ ∃ v w', (execOp a.eval o).run P w = .ok (.value v) w' ∧ w.grownBy w' none ∧ its L d v w') : StepP k ps P Q L B a0 ops i o :=
  stepValue hd fun a w hF => by
    obtain ⟨hw, v, w', hr, hg, hG⟩ := h a w hF
    exact ⟨hw, v, w', hr, hBs _ _ hF.base hg, fun d u => its_grown hg d u, ptrs_put hF.ptrs hg.size (not_in hps), hG⟩
theorem allocP {k i : Nat} {o : Oper} {d : Nat} (hBs : ∀ w w', B w → w.grownBy w' none → B w') (hd : o.dst = some d) (hlt : d < a0.tmps.size)
    (h : ∀ a w, AtP k ps L B a0 ops o a w → Wants ops o a ∧ ∃ w', (execOp a.eval o).run P w = .ok (.value (.pointer (some ⟨w.heap.size, 0, none⟩))) w' ∧ w.grownBy w' none ∧ w.heap.size < w'.heap.size ∧ its L d (.pointer (some ⟨w.heap.size, 0, none⟩)) w') : StepP k ps P Q L B a0 ops i o :=
  stepValue hd fun a w hF => by
    obtain ⟨hw, w', hr, hg, hs, hG⟩ := h a w hF
    exact ⟨hw, _, w', hr, hBs _ _ hF.base hg, fun d u => its_grown hg d u, ptrs_new hF.ptrs hs (by rw [hF.size]; exact hlt), hG⟩
theorem callP {k i : Nat} {o : Oper} {d : Nat} (hBs : ∀ w w', B w → w.grownBy w' none → B w') (hd : o.dst = some d) (hps : (ps.all fun s => s != d) = true)
    (h : ∀ a w, AtP k ps L B a0 ops o a w → Wants ops o a ∧ ∃ f args, (execOp a.eval o).run P w = .ok (.enter f args) w ∧ Calls P f args w fun e w' => ∃ v, e = .returned v ∧ w.grownBy w' none ∧ its L d v w') : StepP k ps P Q L B a0 ops i o :=
  stepCall hd fun a w hF => by
    obtain ⟨hw, f, args, hr, hc⟩ := h a w hF
    refine ⟨hw, f, args, hr, hc.mono fun e w' he => ?_⟩
    obtain ⟨v, rfl, hg, hG⟩ := he
    exact ⟨v, rfl, hBs _ _ hF.base hg, fun d u => its_grown hg d u, ptrs_put hF.ptrs hg.size (not_in hps), hG⟩
theorem skippedP {k i : Nat} {o : Oper} {d : Nat} (hd : o.dst = some d) (hps : (ps.all fun s => s != d) = true) (hG : ∀ w, its L d undef w)
    (h : ∀ a w, AtP k ps L B a0 ops o a w → Region.wanted o (yielded ops a.tmps) = false) : StepP k ps P Q L B a0 ops i o := by
  intro a w hF hi
  have hw := h a w hF
  unfold wpOp
  simp only [hi, hw]
  exact ⟨undef, rfl, hF.base, fun _ _ h => h, ptrs_put hF.ptrs (Nat.le_refl _) (fun s hs e => not_in hps s hs (hd ▸ e)), fun d' e => by rw [hd] at e; cases e; exact hG w⟩
structure FlowS (ps : List Nat) (L : List It) (B : World → Prop) (a0 : Act) (ops : Array Oper) (k : Nat) (listed : Array Bool) (a : Act) (w : World) : Prop where
  base : B w
  size : a.tmps.size = a0.tmps.size
  defers : a.defers = a0.defers
  rest : ∀ d, isDstTo ops k d = false → a.tmps.getD d undef = a0.tmps.getD d undef
  slots : ∀ j oj d, ops[j]? = some oj → listed.getD j false = true → oj.dst = some d → its L d (a.tmps.getD d undef) w
  closed : ∀ j oj, ops[j]? = some oj → listed.getD j false = true → ∀ e ∈ oj.after, Region.binds .any e = true → listed.getD e.on false = true
  notk : ∀ j, k ≤ j → listed.getD j false = false
  ptrs : PtrsApart ps a w
def StepsS (k : Nat) (ps : List Nat) (P : Program) (Q : Exit → Act → World → Prop) (L : List It) (B : World → Prop) (a0 : Act) (ops : Array Oper) : Nat → List Oper → Prop
  | _, [] => True
  | i, o :: r => ((∃ d, o.dst = some d) ∧ StepP k ps P Q L B a0 ops i o) ∧ StepsS k ps P Q L B a0 ops (i + 1) r
theorem stepsS_get {k : Nat} : ∀ (l : List Oper) (i j : Nat) (o : Oper), StepsS k ps P Q L B a0 ops i l → l[j]? = some o → (∃ d, o.dst = some d) ∧ StepP k ps P Q L B a0 ops (i + j) o := by
  intro l
  induction l with
  | nil => intro i j o h hk; simp at hk
  | cons x r ih =>
    intro i j o h hk
    cases j with
    | zero => simp at hk; subst hk; exact h.1
    | succ j => have := ih (i + 1) j o h.2 (by simpa using hk); rwa [show i + (j + 1) = i + 1 + j by omega]
theorem inn {j : Nat} {oj : Oper} (hj : ops[j]? = some oj) : j < ops.size := by
  rcases Nat.lt_or_ge j ops.size with h' | h'
  · exact h'
  · rw [Array.getElem?_eq_none h'] at hj; cases hj
/-- one of the tail is ready: all ahead of it are done -/
theorem tail_all {k t : Nat} {listed : Array Bool} (htl : tailOk ops k = true) (ht : k ≤ t) (hr : t ∈ Region.ready .any ops listed)
    (closed : ∀ j oj, ops[j]? = some oj → listed.getD j false = true → ∀ e ∈ oj.after, Region.binds .any e = true → listed.getD e.on false = true) : ∀ j, j < t → listed.getD j false = true := by
  obtain ⟨_, o, hoi, hall⟩ := mem_ready.1 hr
  have h1 := (List.all_eq_true.1 htl) t (List.mem_range.2 (inn hoi))
  simp only [Bool.or_eq_true, decide_eq_true_eq, Nat.not_lt.2 ht, false_or] at h1
  have go : ∀ n j, j < t → t - j ≤ n → listed.getD j false = true := by
    intro n
    induction n with
    | zero => intro j hj hn; omega
    | succ n ihn =>
      intro j hj hn
      have h2 := (List.all_eq_true.1 h1) j (List.mem_range.2 hj)
      obtain ⟨m, hm, h3⟩ := List.any_eq_true.1 h2
      simp only [Bool.and_eq_true, decide_eq_true_eq] at h3
      have hm' := List.mem_range.1 hm
      obtain ⟨hjm, h3⟩ := h3
      cases hg : ops[m]? with
      | none => rw [hg] at h3; cases h3
      | some om =>
        rw [hg] at h3
        simp only [Option.map_some, Option.getD_some] at h3
        obtain ⟨q, hq, hb⟩ := Array.any_eq_true.1 h3
        simp only [Bool.and_eq_true, beq_iff_eq] at hb
        by_cases hmt : m = t
        · subst hmt
          rw [hg] at hoi
          cases hoi
          have := hall _ (Array.getElem_mem hq) hb.1
          rwa [hb.2] at this
        · have := closed m _ hg (ihn m (by omega) (by omega)) _ (Array.getElem_mem hq) hb.1
          rwa [hb.2] at this
  exact fun j hj => go _ j hj (Nat.le_refl _)
theorem wpOp_of_list {k : Nat} {o : Oper} {r : List Oper} {a : Act} {w : World} (hk : ops[k]? = some o) (h : wpList P ops Q (o :: r) a w) : wpOp P ops Q k (wpList P ops Q r) a w := by
  unfold wpOp
  simp only [hk]
  exact h
theorem tail_any {k0 : Nat} (ht : topo ops = true) (htl : tailOk ops k0 = true) : ∀ (m k fuel : Nat) (listed : Array Bool) (a : Act) (w : World), k0 ≤ k → ops.size = k + m → m ≤ fuel → listed.size = ops.size →
    (∀ j, j < k → listed.getD j false = true) → (∀ j, k ≤ j → listed.getD j false = false) → wpList P ops Q (ops.toList.drop k) a w → wpAny P .any ops Q fuel listed a w := by
  intro m
  induction m with
  | zero =>
    intro k fuel listed a w hk hs hf hls hall hnot h
    have hd : ops.toList.drop k = [] := List.drop_eq_nil_of_le (by simp; omega)
    rw [hd] at h
    have hr : Region.ready .any ops listed = [] := by
      cases hc : Region.ready .any ops listed with
      | nil => rfl
      | cons x r =>
        obtain ⟨h0, o, hoi, _⟩ := mem_ready.1 (show x ∈ Region.ready .any ops listed by rw [hc]; exact List.mem_cons_self ..)
        have hx := hall x (by have := inn hoi; omega)
        have hlt : x < listed.size := by rw [hls]; exact inn hoi
        simp [hlt] at h0 hx
        rw [h0] at hx
        cases hx
    cases fuel with
    | zero => exact ⟨hr, h⟩
    | succ f => exact ⟨fun _ => h, fun i hi => by rw [hr] at hi; cases hi⟩
  | succ m ih =>
    intro k fuel listed a w hk hs hf hls hall hnot h
    obtain ⟨f, rfl⟩ : ∃ f, fuel = f + 1 := ⟨fuel - 1, by omega⟩
    have hks : k < ops.size := by omega
    have closed : ∀ j oj, ops[j]? = some oj → listed.getD j false = true → ∀ e ∈ oj.after, Region.binds .any e = true → listed.getD e.on false = true := by
      intro j oj hj hl e he hb
      have ht1 := (List.all_eq_true.1 ht) j (List.mem_range.2 (inn hj))
      rw [hj] at ht1
      simp only [Option.map_some, Option.getD_some] at ht1
      have ht2 := (Array.all_eq_true_iff_forall_mem.1 ht1) _ he
      simp only [hb, Bool.not_true, Bool.false_or, decide_eq_true_eq] at ht2
      have hjk : j < k := by
        rcases Nat.lt_or_ge j k with h' | h'
        · exact h'
        · rw [hnot j h'] at hl; cases hl
      exact hall _ (by omega)
    refine ⟨fun hr => ?_, fun i hi => ?_⟩
    · have := all_listed ht hls hr k hks
      rw [hnot k (Nat.le_refl _)] at this
      cases this
    · obtain ⟨h0, o, hoi, _⟩ := mem_ready.1 hi
      have hik : i = k := by
        rcases Nat.lt_trichotomy i k with h' | h' | h'
        · have hx := hall i h'
          have hlt : i < listed.size := by rw [hls]; exact inn hoi
          simp [hlt] at h0 hx
          rw [h0] at hx
          cases hx
        · exact h'
        · have := tail_all htl (by omega) hi closed k h'
          rw [hnot k (Nat.le_refl _)] at this
          cases this
      subst hik
      have hd : ops.toList.drop i = o :: ops.toList.drop (i + 1) := by
        rw [List.drop_eq_getElem_cons (by simpa using hks)]
        congr 1
        rw [Array.getElem?_eq_getElem hks] at hoi
        simpa using Option.some.inj hoi
      rw [hd] at h
      refine wpOp_mono (fun a' w' h' => ?_) (wpOp_of_list hoi h)
      refine ih (i + 1) f _ a' w' (by omega) (by omega) (by omega) (by simpa using hls) (fun j hj => ?_) (fun j hj => ?_) h'
      · by_cases e : i = j
        · subst e
          have hlt : i < listed.size := by rw [hls]; exact hks
          simp [hlt]
        · rw [getD_set_ne false e]; exact hall j (by omega)
      · rw [getD_set_ne false (by omega)]; exact hnot j (by omega)
theorem flowS_any {k : Nat} (ht : topo ops = true) (ho : once (ops.extract 0 k) a0.tmps.size = true) (htl : tailOk ops k = true) (hk : k ≤ ops.size)
    (steps : StepsS k ps P Q L B a0 ops 0 (ops.toList.take k))
    (fin : ∀ a w, B w → a.tmps.size = a0.tmps.size → a.defers = a0.defers → (∀ d, isDstTo ops k d = false → a.tmps.getD d undef = a0.tmps.getD d undef) →
      (∀ d, isDstTo ops k d = true → its L d (a.tmps.getD d undef) w) → PtrsApart ps a w → wpList P ops Q (ops.toList.drop k) a w) :
    ∀ (fuel : Nat) (listed : Array Bool) (a : Act) (w : World), listed.size = ops.size → unlisted ops listed ≤ fuel → FlowS ps L B a0 ops k listed a w → wpAny P .any ops Q fuel listed a w := by
  have toTail : ∀ (fuel : Nat) (listed : Array Bool) (a : Act) (w : World), listed.size = ops.size → ops.size - k ≤ fuel → FlowS ps L B a0 ops k listed a w → (∀ j, j < k → listed.getD j false = true) → wpAny P .any ops Q fuel listed a w := by
    intro fuel listed a w hs hf hF hall
    refine tail_any ht htl (ops.size - k) k fuel listed a w (Nat.le_refl _) (by omega) hf hs hall hF.notk (fin a w hF.base hF.size hF.defers hF.rest (fun d hd => ?_) hF.ptrs)
    obtain ⟨j, hj, hb⟩ := List.any_eq_true.1 hd
    have hjk := List.mem_range.1 hj
    have hg : ops[j]? = some ops[j] := Array.getElem?_eq_getElem (by omega)
    rw [hg] at hb
    exact hF.slots j _ d hg (hall j hjk) (by simpa using hb)
  have hcount : ∀ (listed : Array Bool), (∀ j, k ≤ j → listed.getD j false = false) → listed.size = ops.size → ops.size - k ≤ unlisted ops listed := by
    intro listed hn hs
    unfold unlisted
    have hsub : (List.range' k (ops.size - k)).length ≤ ((List.range ops.size).filter fun i => !listed.getD i true).length := by
      have hp : List.Sublist (List.range' k (ops.size - k)) ((List.range ops.size).filter fun i => !listed.getD i true) := by
        have h1 : List.Sublist (List.range' k (ops.size - k)) (List.range ops.size) := by
          have e : List.range ops.size = List.range' 0 k ++ List.range' k (ops.size - k) := by
            rw [List.range_eq_range', show ops.size = k + (ops.size - k) by omega, ← List.range'_append_1]
            simp
          rw [e]
          exact List.sublist_append_right _ _
        have h2 := h1.filter fun i => !listed.getD i true
        have h3 : (List.range' k (ops.size - k)).filter (fun i => !listed.getD i true) = List.range' k (ops.size - k) := by
          rw [List.filter_eq_self]
          intro x hx
          have hx' := List.mem_range'_1.1 hx
          have := hn x hx'.1
          have hlt : x < listed.size := by omega
          simp [hlt] at this ⊢
          exact this
        rwa [h3] at h2
      exact hp.length_le
    simpa using hsub
  intro fuel
  induction fuel with
  | zero =>
    intro listed a w hs hu hF
    have hc := hcount listed hF.notk hs
    refine toTail 0 listed a w hs (by omega) hF (fun j hj => ?_)
    have hr : Region.ready .any ops listed = [] := by
      cases hc : Region.ready .any ops listed with
      | nil => rfl
      | cons x r =>
        have := unlisted_lt (ops := ops) (listed := listed) (i := x) (by rw [hc]; exact List.mem_cons_self ..)
        omega
    exact all_listed ht hs hr j (by omega)
  | succ fuel ih =>
    intro listed a w hs hu hF
    by_cases hdone : ∀ j, j < k → listed.getD j false = true
    · have hc := hcount listed hF.notk hs
      exact toTail (fuel + 1) listed a w hs (by omega) hF hdone
    refine ⟨fun hr => ?_, fun i hi => ?_⟩
    · exact absurd (fun j hj => all_listed ht hs hr j (by omega)) hdone
    obtain ⟨h0, o, hoi, hall⟩ := mem_ready.1 hi
    have hik : i < k := by
      rcases Nat.lt_or_ge i k with h' | h'
      · exact h'
      · exact absurd (fun j hj => tail_all htl h' hi hF.closed j (by omega)) hdone
    have hst := stepsS_get (ops.toList.take k) 0 i o steps (by rw [List.getElem?_take_of_lt hik, Array.getElem?_toList]; exact hoi)
    rw [Nat.zero_add] at hst
    obtain ⟨⟨d, hd⟩, hst⟩ := hst
    have hex : ∀ j, j < k → (ops.extract 0 k)[j]? = ops[j]? := fun j hj => by
      rw [Array.getElem?_extract_of_lt (by omega)]; simp
    have hat : AtP k ps L B a0 ops o a w := ⟨hF.base, hF.size, hF.ptrs, hF.rest, fun d hd => by
        obtain ⟨k, hk, hb⟩ := Array.any_eq_true.1 hd
        simp only [Bool.and_eq_true, beq_iff_eq] at hb
        have hl := hall _ (Array.getElem_mem hk) hb.1
        cases hx : ops[o.after[k].on]? with
        | none => rw [hx] at hb; cases hb.2
        | some oj => rw [hx] at hb; exact hF.slots _ oj d hx hl hb.2⟩
    refine wpOp_mono (fun a' w' h => ?_) (hst a w hat hoi)
    obtain ⟨v, rfl, hB, hRG, hPt, hG⟩ := h
    have hlt := unlisted_lt hi
    refine ih _ _ _ (by simpa using hs) (by omega) ⟨hB, ?_, ?_, ?_, ?_, ?_, ?_, hPt⟩
    · rw [← hF.size]; cases o.dst <;> simp [Act.put]
    · rw [← hF.defers]; cases o.dst <;> simp [Act.put]
    · intro d hd
      rw [← hF.rest d hd]
      have hne : o.dst ≠ some d := by
        intro e
        have : isDstTo ops k d = true := List.any_eq_true.2 ⟨i, List.mem_range.2 hik, by rw [hoi]; simpa using e⟩
        rw [hd] at this
        cases this
      exact put_getD hne
    · intro j oj d hj hl hd
      have hjk : j < k ∨ j = i := by
        by_cases e : i = j
        · exact Or.inr e.symm
        · rw [getD_set_ne false e] at hl
          rcases Nat.lt_or_ge j k with h' | h'
          · exact Or.inl h'
          · rw [hF.notk j h'] at hl; cases hl
      by_cases e : i = j
      · subst e
        rw [hoi] at hj
        cases hj
        have hd2 := once_lt ho ((hex i hik).trans hoi) hd
        rw [← hF.size] at hd2
        have hG := hG _ hd
        rw [hd]
        simpa [Act.put, hd2] using hG
      · rw [getD_set_ne false e] at hl
        have h1 := hF.slots j oj d hj hl hd
        have hv : (a.put o.dst v).tmps.getD d undef = a.tmps.getD d undef := by
          cases hod : o.dst with
          | none => rfl
          | some d' =>
            have := once_ne ho ((hex i hik).trans hoi) ((hex j (by omega)).trans hj) e hod
            rw [hd] at this
            simp [Act.put, Array.getElem?_setIfInBounds_ne (show d' ≠ d from fun e => this (by rw [e]))]
        rw [hv]
        exact hRG d _ h1
    · intro j oj hj hl e he hb
      by_cases ei : i = j
      · subst ei
        rw [hoi] at hj
        cases hj
        exact getD_set_true (hall e he hb)
      · rw [getD_set_ne false ei] at hl
        exact getD_set_true (hF.closed j oj hj hl e he hb)
    · intro j hj
      rw [getD_set_ne false (by omega)]; exact hF.notk j hj
/-- A REGION THAT DRAWS ITS ORDER, of which the operations from k on go as they stand. -/
theorem wp_region_tail {id : Nat} {w : World} (L : List It) (B : World → Prop) (k : Nat) (hB0 : B w.drew) (hm : P.follows .mixedOrders = true) (ht : topo ops = true) (ho : once (ops.extract 0 k) a0.tmps.size = true) (htl : tailOk ops k = true) (hk : k ≤ ops.size) (hps : PtrsApart ps a0 w.drew)
    (steps : StepsS k ps P Q L B a0 ops 0 (ops.toList.take k))
    (fin : ∀ a w', B w' → a.tmps.size = a0.tmps.size → a.defers = a0.defers → (∀ d, isDstTo ops k d = false → a.tmps.getD d undef = a0.tmps.getD d undef) →
      (∀ d, isDstTo ops k d = true → its L d (a.tmps.getD d undef) w') → PtrsApart ps a w' → wpList P ops Q (ops.toList.drop k) a w') : (Code.region id ops true).wp P Q a0 w :=
  wp_region_any hm (flowS_any ht ho htl hk steps fin ops.size _ a0 _ (by simp) (by unfold unlisted; exact Nat.le_trans (List.length_filter_le _ _) (by simp))
    ⟨hB0, rfl, rfl, fun _ _ => rfl, fun j oj d _ hl _ => by
      by_cases h : j < ops.size <;> simp [h] at hl, fun j oj _ hl => by
      by_cases h : j < ops.size <;> simp [h] at hl, fun j _ => by
      by_cases h : j < ops.size <;> simp [h], hps⟩)
theorem list_of_wpOp {k : Nat} {o : Oper} {r : List Oper} {a : Act} {w : World} (hk : ops[k]? = some o) (h : wpOp P ops Q k (wpList P ops Q r) a w) : wpList P ops Q (o :: r) a w := by
  unfold wpOp at h
  simp only [hk] at h
  exact h
/-- the same for a region in the text's order -/
theorem wp_region_plain {id : Nat} {w : World} (L : List It) (B : World → Prop) (k : Nat) (hB0 : B w) (ht : topo ops = true) (ho : once (ops.extract 0 k) a0.tmps.size = true) (hk : k ≤ ops.size) (hps : PtrsApart ps a0 w)
    (steps : StepsS k ps P Q L B a0 ops 0 (ops.toList.take k))
    (fin : ∀ a w', B w' → a.tmps.size = a0.tmps.size → a.defers = a0.defers → (∀ d, isDstTo ops k d = false → a.tmps.getD d undef = a0.tmps.getD d undef) →
      (∀ d, isDstTo ops k d = true → its L d (a.tmps.getD d undef) w') → PtrsApart ps a w' → wpList P ops Q (ops.toList.drop k) a w') : (Code.region id ops false).wp P Q a0 w := by
  refine wp_region_list ?_
  have go : ∀ (m i : Nat) (a : Act) (w' : World), i + m = k → B w' → a.tmps.size = a0.tmps.size → a.defers = a0.defers → (∀ d, isDstTo ops k d = false → a.tmps.getD d undef = a0.tmps.getD d undef) →
      (∀ j oj d, j < i → ops[j]? = some oj → oj.dst = some d → its L d (a.tmps.getD d undef) w') → PtrsApart ps a w' → wpList P ops Q (ops.toList.drop i) a w' := by
    intro m
    induction m with
    | zero =>
      intro i a w' hi hg hs hdf hr hsl hpt
      have hi' : i = k := by omega
      subst hi'
      refine fin a w' hg hs hdf hr (fun d hd => ?_) hpt
      obtain ⟨j, hj, hb⟩ := List.any_eq_true.1 hd
      have hjk := List.mem_range.1 hj
      have hgj : ops[j]? = some ops[j] := Array.getElem?_eq_getElem (by omega)
      rw [hgj] at hb
      exact hsl j _ d hjk hgj (by simpa using hb)
    | succ m ih =>
      intro i a w' hi hg hs hdf hr hsl hpt
      have hik : i < k := by omega
      have hil : i < ops.size := by omega
      have hoi : ops[i]? = some ops[i] := Array.getElem?_eq_getElem hil
      have hst := stepsS_get (ops.toList.take k) 0 i ops[i] steps (by rw [List.getElem?_take_of_lt hik, Array.getElem?_toList]; exact hoi)
      rw [Nat.zero_add] at hst
      obtain ⟨⟨d, hd⟩, hst⟩ := hst
      have hex : ∀ j, j < k → (ops.extract 0 k)[j]? = ops[j]? := fun j hj => by
        rw [Array.getElem?_extract_of_lt (by omega)]; simp
      have hat : AtP k ps L B a0 ops ops[i] a w' := ⟨hg, hs, hpt, hr, fun d hd => by
          obtain ⟨q, hq, hb⟩ := Array.any_eq_true.1 hd
          simp only [Bool.and_eq_true, beq_iff_eq] at hb
          have ht1 := (List.all_eq_true.1 ht) i (List.mem_range.2 hil)
          rw [hoi] at ht1
          simp only [Option.map_some, Option.getD_some] at ht1
          have ht2 := (Array.all_eq_true_iff_forall_mem.1 ht1) _ (Array.getElem_mem hq)
          simp only [hb.1, Bool.not_true, Bool.false_or, decide_eq_true_eq] at ht2
          cases hx : ops[ops[i].after[q].on]? with
          | none => rw [hx] at hb; cases hb.2
          | some oj => rw [hx] at hb; exact hsl _ oj d ht2 hx hb.2⟩
      have hdr : ops.toList.drop i = ops[i] :: ops.toList.drop (i + 1) := by
        rw [List.drop_eq_getElem_cons (by simpa using hil)]
        simp
      rw [hdr]
      refine list_of_wpOp hoi (wpOp_mono (fun a' w'' h => ?_) (hst a w' hat hoi))
      obtain ⟨v, rfl, hB, hRG, hPt, hG⟩ := h
      refine ih (i + 1) _ _ (by omega) hB ?_ ?_ ?_ ?_ hPt
      · rw [← hs]; cases ops[i].dst <;> simp [Act.put]
      · rw [← hdf]; cases ops[i].dst <;> simp [Act.put]
      · intro d hd
        rw [← hr d hd]
        have hne : ops[i].dst ≠ some d := by
          intro e
          have : isDstTo ops k d = true := List.any_eq_true.2 ⟨i, List.mem_range.2 hik, by rw [hoi]; simpa using e⟩
          rw [hd] at this
          cases this
        exact put_getD hne
      · intro j oj d' hj hgj hd'
        by_cases e : i = j
        · subst e
          rw [hoi] at hgj
          cases hgj
          have hd2 := once_lt ho ((hex i hik).trans hoi) hd'
          rw [← hs] at hd2
          have hG := hG _ hd'
          rw [hd']
          simpa [Act.put, hd2] using hG
        · have h1 := hsl j oj d' (by omega) hgj hd'
          have hv : (a.put ops[i].dst v).tmps.getD d' undef = a.tmps.getD d' undef := by
            cases hod : ops[i].dst with
            | none => rfl
            | some d'' =>
              have := once_ne ho ((hex i hik).trans hoi) ((hex j (by omega)).trans hgj) e hod
              rw [hd'] at this
              simp [Act.put, Array.getElem?_setIfInBounds_ne (show d'' ≠ d' from fun e => this (by rw [e]))]
          rw [hv]
          exact hRG d' _ h1
  have := go k 0 a0 w (by omega) hB0 rfl rfl (fun _ _ => rfl) (fun j _ _ hj => by omega) hps
  simpa using this
theorem ptrs_undef {a : Act} {w : World} (h : (ps.all fun s => match a.tmps.getD s undef with | .pointer _ => false | _ => true) = true) : PtrsApart ps a w := fun s hs C e => by
  have := (List.all_eq_true.1 h) s hs
  rw [e] at this
  cases this
/-- values of which those that are pointers go to blocks that are there, all apart -/
def ApartV (l : List Value) (w : World) : Prop := ∀ (i C : Nat), l[i]? = some (.pointer (some ⟨C, 0, none⟩)) → C < w.heap.size ∧ ∀ (j : Nat), j ≠ i → l[j]? ≠ some (.pointer (some ⟨C, 0, none⟩))
theorem ptrs_of {a : Act} {w : World} {l : List Value} (hl : l = ps.map fun s => a.tmps.getD s undef) (h : ApartV l w) : PtrsApart ps a w := by
  subst hl
  intro s hs C e
  obtain ⟨i, hi, rfl⟩ := List.mem_iff_getElem.1 hs
  have hg : (ps.map fun s => a.tmps.getD s undef)[i]? = some (.pointer (some ⟨C, 0, none⟩)) := by
    rw [List.getElem?_map, List.getElem?_eq_getElem hi, Option.map_some, e]
  refine ⟨(h i C hg).1, fun t ht hne e2 => ?_⟩
  obtain ⟨j, hj, rfl⟩ := List.mem_iff_getElem.1 ht
  refine (h i C hg).2 j (fun e3 => hne (by subst e3; rfl)) ?_
  rw [List.getElem?_map, List.getElem?_eq_getElem hj, Option.map_some, e2]
theorem apart_undef (l : List Value) (w : World) (h : (l.all fun v => match v with | .pointer _ => false | _ => true) = true) : ApartV l w := fun i C e => by
  have := (List.all_eq_true.1 h) _ (List.mem_of_getElem? e)
  cases this
theorem apart_one {N : Nat} {w : World} (h : N < w.heap.size) : ApartV [.pointer (some ⟨N, 0, none⟩)] w := fun i C e => by
  match i, e with
  | 0, e =>
    cases e
    refine ⟨h, fun j hj => ?_⟩
    match j, hj with
    | j + 1, _ => simp
theorem apart_three {A B C : Nat} {w : World} (a : A < w.heap.size) (b : B < w.heap.size) (c : C < w.heap.size) (ab : A ≠ B) (ac : A ≠ C) (bc : B ≠ C) : ApartV [.pointer (some ⟨A, 0, none⟩), .pointer (some ⟨B, 0, none⟩), .pointer (some ⟨C, 0, none⟩)] w := fun i X e => by
  match i, e with
  | 0, e =>
    cases e
    refine ⟨a, fun j hj => ?_⟩
    match j, hj with
    | 1, _ => simp <;> omega
    | 2, _ => simp <;> omega
    | j + 3, _ => simp
  | 1, e =>
    cases e
    refine ⟨b, fun j hj => ?_⟩
    match j, hj with
    | 0, _ => simp <;> omega
    | 2, _ => simp <;> omega
    | j + 3, _ => simp
  | 2, e =>
    cases e
    refine ⟨c, fun j hj => ?_⟩
    match j, hj with
    | 0, _ => simp <;> omega
    | 1, _ => simp <;> omega
    | j + 3, _ => simp
theorem ApartV.mono {l : List Value} {w w' : World} (h : ApartV l w) (hs : w.heap.size ≤ w'.heap.size) : ApartV l w' := fun i C e => ⟨Nat.lt_of_lt_of_le (h i C e).1 hs, (h i C e).2⟩
theorem apart_drew {l : List Value} {w : World} (h : ApartV l w) : ApartV l w.drew := h
/-- the next operation of a list -/
theorem wpl_value {o : Oper} {r : List Oper} {a : Act} {w w' : World} {v : Value} (hg : o.guard = none) (hr : (execOp a.eval o).run P w = .ok (.value v) w') (h : wpList P ops Q r (a.put o.dst v) w') : wpList P ops Q (o :: r) a w := by
  refine wpList_plain hg fun K hK => ?_
  unfold Oper.wp
  rw [hr]
  exact hK _ _ h
theorem wpl_skip {o : Oper} {r : List Oper} {a : Act} {w w' : World} (hg : o.guard = none) (hd : o.dst = none) (hr : (execOp a.eval o).run P w = .ok .skip w') (h : wpList P ops Q r a w') : wpList P ops Q (o :: r) a w := by
  refine wpList_plain hg fun K hK => ?_
  unfold Oper.wp
  rw [hr]
  have e : a.put o.dst undef = a := by rw [hd]; rfl
  show K (a.put o.dst undef) w'
  rw [e]
  exact hK _ _ h
theorem wpl_call {o : Oper} {r : List Oper} {a : Act} {w : World} {f : FuncId} {args : Array Value} (hg : o.guard = none) (hr : (execOp a.eval o).run P w = .ok (.enter f args) w)
    (hc : Calls P f args w fun e w' => ∃ v, e = .returned v ∧ wpList P ops Q r (a.put o.dst v) w') : wpList P ops Q (o :: r) a w := by
  refine wpList_plain hg fun K hK => ?_
  unfold Oper.wp
  rw [hr]
  refine Calls.mono hc fun e w' he => ?_
  obtain ⟨v, rfl, h⟩ := he
  exact hK _ _ h
/-! ### the run of one operation -/
theorem run_load {ρ : Operand → Value} {o : Oper} {w : World} {T : TypeId} {x : Operand} {b off : Nat} {cs : List Value} {d : TypeDesc} (ho : o.op = .load T x) (hx : ρ x = .pointer (some ⟨b, off, none⟩)) (hc : w.rangeAt b off cs)
    (hu : P.underlying T = some d) (hd : d.isRow = true) (hi : (P.info? T).map (·.size) = some cs.length) : (execOp ρ o).run P w = .ok (.value (.agg cs.toArray)) w := by
  unfold execOp
  simp only [ho, hx, Instr.loadAt, Instr.sureAddr, Sem.run_bind, Sem.run_pure, Result.andThen_ok, run_loadVar_mid w b off T cs d hc hu hd hi]
theorem run_store {ρ : Operand → Value} {o : Oper} {w : World} {T : TypeId} {x y : Operand} {b off : Nat} {cs : List Value} (ho : o.op = .store T x y) (hx : ρ x = .pointer (some ⟨b, off, none⟩)) (hy : ρ y = .agg cs.toArray)
    (ht : w.there b off cs.length) (hi : (P.info? T).map (·.size) = some cs.length) (h1 : cs.all (·.oneCell') = true) : (execOp ρ o).run P w = .ok .skip (w.setCells b off cs) := by
  unfold execOp
  simp only [ho, hx, hy, Instr.storeAt, Instr.sureAddr, Sem.run_bind, Sem.run_pure, Result.andThen_ok, run_storeVar_mid w b off T cs.toArray (by simpa using ht) (by simpa using hi) (by simpa using h1)]
theorem run_move {ρ : Operand → Value} {o : Oper} {w : World} {x : Operand} {v : Value} (ho : o.op = .move x) (hx : ρ x = v) : (execOp ρ o).run P w = .ok (.value v) w := by
  unfold execOp
  simp only [ho, hx, Sem.run_pure]
theorem run_assign {ρ : Operand → Value} {o : Oper} {w : World} {x : Operand} {v : Value} (ho : o.op = .assign x) (hx : ρ x = v) : (execOp ρ o).run P w = .ok (.value v) w := by
  unfold execOp
  simp only [ho, hx, Sem.run_pure]
theorem run_nilCheck {ρ : Operand → Value} {o : Oper} {w : World} {x : Operand} {p : Addr} (ho : o.op = .nilCheck x) (hx : ρ x = .pointer (some p)) : (execOp ρ o).run P w = .ok (.value (.pointer (some p))) w := by
  unfold execOp
  simp only [ho, hx, Sem.run_pure]
theorem run_fieldAddr {ρ : Operand → Value} {o : Oper} {w : World} {t : TypeId} {f : Nat} {x : Operand} {u v : Value} (ho : o.op = .fieldAddr t x f) (hx : ρ x = u) (hr : (Instr.fieldAt t u f).run P w = .ok v w) : (execOp ρ o).run P w = .ok (.value v) w := by
  unfold execOp
  simp only [ho, hx, Sem.run_bind, Sem.run_pure, Result.andThen_ok, hr]
theorem run_field {ρ : Operand → Value} {o : Oper} {w : World} {t : TypeId} {f : Nat} {x : Operand} {u v : Value} (ho : o.op = .field t x f) (hx : ρ x = u) (hr : (Instr.field t u f).run P w = .ok v w) : (execOp ρ o).run P w = .ok (.value v) w := by
  unfold execOp
  simp only [ho, hx, Sem.run_bind, Sem.run_pure, Result.andThen_ok, hr]
theorem run_build {ρ : Operand → Value} {o : Oper} {w : World} {t : TypeId} {parts : Array (Nat × Operand)} {vs : Array (Nat × Value)} {v : Value} (ho : o.op = .build t parts) (hx : (parts.map fun (i, x) => (i, ρ x)) = vs) (hr : (Instr.build t vs).run P w = .ok v w) : (execOp ρ o).run P w = .ok (.value v) w := by
  unfold execOp
  simp only [ho, hx, Sem.run_bind, Sem.run_pure, Result.andThen_ok, hr]
theorem run_buildSlice {ρ : Operand → Value} {o : Oper} {w w' : World} {t : TypeId} {len : Nat} {parts : Array (Nat × Operand)} {vs : Array (Nat × Value)} {v : Value} (ho : o.op = .buildSlice t len parts) (hx : (parts.map fun (i, x) => (i, ρ x)) = vs) (hr : (Instr.buildSlice t len vs).run P w = .ok v w') : (execOp ρ o).run P w = .ok (.value v) w' := by
  unfold execOp
  simp only [ho, hx, Sem.run_bind, Sem.run_pure, Result.andThen_ok, hr]
theorem run_extract {ρ : Operand → Value} {o : Oper} {w : World} {i : Nat} {x : Operand} {u v : Value} (ho : o.op = .extract x i) (hx : ρ x = u) (hr : (Instr.extract u i).run P w = .ok v w) : (execOp ρ o).run P w = .ok (.value v) w := by
  unfold execOp
  simp only [ho, hx, Sem.run_bind, Sem.run_pure, Result.andThen_ok, hr]
theorem run_enter {w : World} {f : FuncId} {fn : Func} {vs : Array Value} (hf : P.funcs[f]? = some fn) (hn : (fn.name == "runtime.NumGoroutine") = false) (hb : fn.body.isNone = false) : (callFunc f vs).run P w = .ok (.enter f vs) w := by
  have hn' : ¬ fn.name = "runtime.NumGoroutine" := by simpa using hn
  have hb' : ¬ fn.body = none := by rintro e; rw [e] at hb; cases hb
  simp [callFunc, hf, hn', hb']
theorem run_call {ρ : Operand → Value} {o : Oper} {w : World} {x : Operand} {f : FuncId} {args : Array Operand} {tys : Array TypeId} {vs : Array Value} (ho : o.op = .call { callee := .value x, args := args, argTypes := tys }) (hf : ρ x = .func (.func f) #[] #[]) (hv : args.map ρ = vs)
    (hc : (callFunc f vs).run P w = .ok (.enter f vs) w) : (execOp ρ o).run P w = .ok (.enter f vs) w := by
  unfold execOp
  simp only [ho]
  unfold resolve
  simp only [hv, hf]
  go_simp
end
/-! ### one store among the operations that draw -/
/-- a pointer to a block of n cells that was made since -/
def It.room (T : TypeId) (n n0 : Nat) : It := ⟨fun v w => ∃ N, v = .pointer (some ⟨N, 0, none⟩) ∧ n0 ≤ N ∧ ∃ V : List Value, V.length = n ∧ Blk w N T V, fun _ _ _ ⟨N, e, hn, V, hl, h⟩ hg => ⟨N, e, hn, V, hl, h.grown hg (by simp)⟩⟩
/-- it stays when a row is put over another block's, or its own, cells -/
def It.Over (it : It) : Prop := ∀ v w (N : Nat) (T : TypeId) (V cs : List Value), Blk w N T V → V.length = cs.length → it.p v w → it.p v (w.setCells N 0 cs)
def Stored1 (T : TypeId) (cs : List Value) (_ : Nat) (u : Value) (w : World) : Prop := ∃ N, u = .pointer (some ⟨N, 0, none⟩) ∧ Blk w N T cs
section
variable {P : Program} {ops : Array Oper} {Q : Exit → Act → World → Prop} {L : List It} {W : World} {a0 : Act} {ps : List Nat} {p : Nat} {T : TypeId} {cs : List Value}
abbrev AtM (W : World) (ps : List Nat) (p : Nat) (T : TypeId) (cs : List Value) (L : List It) (a0 : Act) (ops : Array Oper) (o : Oper) (a : Act) (w : World) : Prop := FlowAt3 (its L) (fun _ => p) (Stored1 T cs) (fun w => W.grownBy w none) ps a0 ops o a w
abbrev StepM (W : World) (ps : List Nat) (p : Nat) (T : TypeId) (cs : List Value) (P : Program) (Q : Exit → Act → World → Prop) (L : List It) (a0 : Act) (ops : Array Oper) (i : Nat) (o : Oper) : Prop := FlowStep3 P Q (its L) (fun _ => p) (Stored1 T cs) (fun w => W.grownBy w none) ps a0 ops i o
theorem stored1_grown {w w' : World} (hg : w.grownBy w' none) (j : Nat) (u : Value) (h : Stored1 T cs j u w) : Stored1 T cs j u w' := by
  obtain ⟨N, e, hb⟩ := h
  exact ⟨N, e, hb.grown hg (by simp)⟩
theorem valueM {i : Nat} {o : Oper} {d : Nat} (hd : o.dst = some d) (hps : (ps.all fun s => s != d) = true)
    (h : ∀ a w, AtM W ps p T cs L a0 ops o a w → Wants ops o a ∧ ∃ v w', (execOp a.eval o).run P w = .ok (.value v) w' ∧ w.grownBy w' none ∧ its L d v w') : StepM W ps p T cs P Q L a0 ops i o :=
  flow3_value hd fun a w hF => by
    obtain ⟨hw, v, w', hr, hg, hG⟩ := h a w hF
    exact ⟨hw, v, w', hr, gb_trans hF.base hg, fun d u => its_grown hg d u, fun j u => stored1_grown hg j u, ptrs_put hF.ptrs hg.size (not_in hps), hG⟩
theorem allocM {i : Nat} {o : Oper} {d : Nat} (hd : o.dst = some d) (hlt : d < a0.tmps.size)
    (h : ∀ a w, AtM W ps p T cs L a0 ops o a w → Wants ops o a ∧ ∃ w', (execOp a.eval o).run P w = .ok (.value (.pointer (some ⟨w.heap.size, 0, none⟩))) w' ∧ w.grownBy w' none ∧ w.heap.size < w'.heap.size ∧ its L d (.pointer (some ⟨w.heap.size, 0, none⟩)) w') : StepM W ps p T cs P Q L a0 ops i o :=
  flow3_value hd fun a w hF => by
    obtain ⟨hw, w', hr, hg, hs, hG⟩ := h a w hF
    exact ⟨hw, _, w', hr, gb_trans hF.base hg, fun d u => its_grown hg d u, fun j u => stored1_grown hg j u, ptrs_new hF.ptrs hs (by rw [hF.size]; exact hlt), hG⟩
theorem callM {i : Nat} {o : Oper} {d : Nat} (hd : o.dst = some d) (hps : (ps.all fun s => s != d) = true)
    (h : ∀ a w, AtM W ps p T cs L a0 ops o a w → Wants ops o a ∧ ∃ f args, (execOp a.eval o).run P w = .ok (.enter f args) w ∧ Calls P f args w fun e w' => ∃ v, e = .returned v ∧ w.grownBy w' none ∧ its L d v w') : StepM W ps p T cs P Q L a0 ops i o :=
  flow3_call hd fun a w hF => by
    obtain ⟨hw, f, args, hr, hc⟩ := h a w hF
    refine ⟨hw, f, args, hr, hc.mono fun e w' he => ?_⟩
    obtain ⟨v, rfl, hg, hG⟩ := he
    exact ⟨v, rfl, gb_trans hF.base hg, fun d u => its_grown hg d u, fun j u => stored1_grown hg j u, ptrs_put hF.ptrs hg.size (not_in hps), hG⟩
theorem skippedM {i : Nat} {o : Oper} {d : Nat} (hd : o.dst = some d) (hps : (ps.all fun s => s != d) = true) (hG : ∀ w, its L d undef w)
    (h : ∀ a w, AtM W ps p T cs L a0 ops o a w → Region.wanted o (yielded ops a.tmps) = false) : StepM W ps p T cs P Q L a0 ops i o :=
  flow3_skipped hd (fun s hs e => not_in hps s hs (by rw [e])) (fun w _ => hG w) h
theorem any_over : It.any.Over := fun _ _ _ _ _ _ _ _ _ => trivial
theorem val_over (x : Value) : (It.val x).Over := fun _ _ _ _ _ _ _ _ h => h
theorem room_over (T : TypeId) (n n0 : Nat) : (It.room T n n0).Over := fun v w N T' V cs hb hl ⟨N', e, hn, V', hl', hb'⟩ => by
  by_cases he : N = N'
  · subst he
    unfold Blk at hb hb'
    rw [hb] at hb'
    cases hb'
    exact ⟨N, e, hn, over V 0 cs, by rw [over_length]; exact hl', Blk.setCells hb 0⟩
  · exact ⟨N', e, hn, V', hl', hb'.setCells_other 0 he⟩
theorem its_over {L : List It} (hL : ∀ it ∈ L, it.Over) {w : World} {N : Nat} {T : TypeId} {V cs : List Value} (hb : Blk w N T V) (hl : V.length = cs.length) (d : Nat) (v : Value) (h : its L d v w) : its L d v (w.setCells N 0 cs) := by
  unfold its at *
  by_cases hd : d < L.length
  · rw [List.getD_eq_getElem?_getD, List.getElem?_eq_getElem hd] at *
    exact hL _ (List.getElem_mem hd) v w N T V cs hb hl h
  · rw [List.getD_eq_getElem?_getD, List.getElem?_eq_none (by omega)] at *
    trivial
theorem storeM {i : Nat} {o : Oper} {x y : Operand} (hd : o.dst = none) (ho : o.op = .store T x y) (hL : ∀ it ∈ L, it.Over) (hi : (P.info? T).map (·.size) = some cs.length) (h1 : cs.all (·.oneCell') = true)
    (h : ∀ a w, AtM W ps p T cs L a0 ops o a w → Wants ops o a ∧ ∃ N, a.tmps.getD p undef = .pointer (some ⟨N, 0, none⟩) ∧ a.eval x = .pointer (some ⟨N, 0, none⟩) ∧ a.eval y = .agg cs.toArray ∧ W.heap.size ≤ N ∧ ∃ V : List Value, V.length = cs.length ∧ Blk w N T V) : StepM W ps p T cs P Q L a0 ops i o :=
  flow3_store hd fun a w hF => by
    obtain ⟨hw, N, hp, hx, hy, hn, V, hl, hb⟩ := h a w hF
    refine ⟨hw, _, run_store ho hx hy (hb.there 0 cs.length (by omega)) hi h1, gb_setCells_new hF.base hn 0, fun d u => its_over hL hb hl d u, fun j oj _ _ _ hM => ?_, (gb_setCells (cs := cs) (gb_refl w (some N)) 0).size, ⟨N, hp, hb.setAll hl⟩⟩
    exact ⟨N, hp, hb.setAll hl⟩
end
end Fg
end Go.Proofs.YtabdegeaifajfaaGreatDoor
