/- What is asked of two readers side by side, in whatever order: what holds between. -/
import Derived.Test.YtlkiancedgaicaaGreatWiWant
import Derived.Test.YtlkiancedgaicaaGreatFlowP
import Derived.Test.YtlkiancedgaicaaGreatFlowS
import Derived.Test.YtlkiancedgaicaaGreatOuts
namespace Go.Proofs.YtlkiancedgaicaaGreat
open Go.RowKit Ow Wi
structure Dt where
  rb : Nat
  sb : Nat
  N0 : Nat
  aa : Option Addr
  m : Nat
  mcap : Nat
  q : Nat
  pb : Nat
  po : Nat
  what : Int
  most : Int
  n : Int
  bs : List Nat
  s2 : St
def ToldAt (D : Dt) (v : Value) (w : World) : Prop := ∃ v1, v = toldV D.n v1 D.s2 ∧ w.ownsRow D.N0 5 1 v1 D.bs.length (D.bs.map u8N)
def BoxAt (D : Dt) (v : Value) (w : World) : Prop := ∃ X L, v = .pointer (some ⟨X, 0, none⟩) ∧ D.N0 ≤ X ∧ L.length = 4 ∧ Blk w X 40 L
def FullAt (D : Dt) (v : Value) (w : World) : Prop := ∃ X v1, v = .pointer (some ⟨X, 0, none⟩) ∧ D.N0 ≤ X ∧ Blk w X 40 [.int .i64 D.n, v1, .bool D.s2.isSome, .bool (decide (D.s2 = some []))] ∧ w.ownsRow D.N0 5 1 v1 D.bs.length (D.bs.map u8N)
def VD (D : Dt) (d : Nat) (v : Value) : Prop := match d with
  | 53 => v = .pointer (some ⟨D.rb, 0, none⟩)
  | 59 => v = .pointer (some ⟨D.sb, 0, none⟩)
  | 54 => v = .slice D.aa D.m D.mcap
  | 60 => v = .slice D.aa D.m D.mcap
  | 55 => v = .int .i64 (D.q : Int)
  | 61 => v = .int .i64 (D.q : Int)
  | 56 => v = .pointer (some ⟨D.pb, D.po + D.q * 2, none⟩)
  | 62 => v = .pointer (some ⟨D.pb, D.po + D.q * 2, none⟩)
  | 57 => v = .agg #[.int .i64 D.what, .int .i64 D.most]
  | 63 => v = .agg #[.int .i64 D.what, .int .i64 D.most]
  | _ => True
def GD (D : Dt) (d : Nat) (v : Value) (w : World) : Prop := VD D d v ∧ (d = 58 ∨ d = 64 → ToldAt D v w) ∧ (d = 10 ∨ d = 11 → BoxAt D v w)
def MD (D : Dt) (j : Nat) (v : Value) (w : World) : Prop := j = 14 ∨ j = 15 → FullAt D v w
structure Stp (D : Dt) (w w' : World) : Prop where
  owns : ∀ v n xs, w.ownsRow D.N0 5 1 v n xs → w'.ownsRow D.N0 5 1 v n xs
  boxes : ∀ v, BoxAt D v w → BoxAt D v w'
theorem Stp.g {D : Dt} {w w' : World} (h : Stp D w w') (d : Nat) (v : Value) (hg : GD D d v w) : GD D d v w' :=
  ⟨hg.1, fun e => by obtain ⟨v1, e1, ho⟩ := hg.2.1 e; exact ⟨v1, e1, h.owns _ _ _ ho⟩, fun e => h.boxes _ (hg.2.2 e)⟩
theorem stp_none {D : Dt} {w w' : World} (hg : w.grownBy w' none) : Stp D w w' ∧ ∀ j v, MD D j v w → MD D j v w' :=
  ⟨⟨fun _ _ _ h => own_kept h hg, fun v ⟨X, L, e, h1, h2, h3⟩ => ⟨X, L, e, h1, h2, h3.grown hg (by simp)⟩⟩, fun j v h e => by
    obtain ⟨X, v1, e1, h1, h2, h3⟩ := h e
    exact ⟨X, v1, e1, h1, h2.grown hg (by simp), own_kept h3 hg⟩⟩
theorem stp_at {D : Dt} {T : Nat} {w w' : World} (hg : w.grownBy w' (some T)) (hT : T < D.N0) : Stp D w w' ∧ ∀ j v, MD D j v w → MD D j v w' :=
  ⟨⟨fun _ _ _ h => own_beside h hg hT, fun v ⟨X, L, e, h1, h2, h3⟩ => ⟨X, L, e, h1, h2, h3.grown hg (by simp; omega)⟩⟩, fun j v h e => by
    obtain ⟨X, v1, e1, h1, h2, h3⟩ := h e
    exact ⟨X, v1, e1, h1, h2.grown hg (by simp; omega), own_beside h3 hg hT⟩⟩
/-- no row of bytes is a box -/
theorem own_no_box {w : World} {b n X : Nat} {v : Value} {xs L : List Value} (h : w.ownsRow b 5 1 v n xs) (hb : Blk w X 40 L) : v.ownBlock ≠ some X := by
  intro e
  rcases h.2 with ⟨rfl, _⟩ | ⟨g, c, cur, rfl, _, hgg, _⟩
  · simp [Value.ownBlock] at e
  · simp only [Value.ownBlock, Option.some.injEq] at e
    subst e
    unfold Blk at hb
    rw [hb] at hgg
    simp at hgg
/-- a box is filled -/
theorem stp_store {D : Dt} {w : World} {X : Nat} {L cs : List Value} (hb : Blk w X 40 L) (hL : L.length = 4) (hc : cs.length = 4) : Stp D w (w.setCells X 0 cs) ∧ ∀ v, v ≠ .pointer (some ⟨X, 0, none⟩) → FullAt D v w → FullAt D v (w.setCells X 0 cs) := by
  have hg : w.grownBy (w.setCells X 0 cs) (some X) := gb_setCells (gb_refl w _) 0
  have own : ∀ v n xs, w.ownsRow D.N0 5 1 v n xs → (w.setCells X 0 cs).ownsRow D.N0 5 1 v n xs := fun v n xs h => h.kept hg (Or.inr (own_no_box h hb))
  refine ⟨⟨own, fun v ⟨Y, M, e, h1, h2, h3⟩ => ?_⟩, fun v hne ⟨Y, v1, e, h1, h2, h3⟩ => ?_⟩
  · by_cases hY : X = Y
    · subst hY
      exact ⟨X, cs, e, h1, hc, hb.setAll (by omega)⟩
    · exact ⟨Y, M, e, h1, h2, h3.setCells_other 0 hY⟩
  · have hY : X ≠ Y := fun e2 => hne (by rw [e, e2])
    exact ⟨Y, v1, e, h1, h2.setCells_other 0 hY, own _ _ _ h3⟩
theorem Ow.OutAt.above {w w' : World} {b0 T N0 : Nat} {v : Value} {L : List Rw1} (h : OutAt w b0 v L) (hg : w.grownBy w' (some T)) (hT : N0 ≤ T) (hv : ∀ g, v.ownBlock = some g → g < N0) (hL : ∀ p ∈ L, ∀ g, (rv p).ownBlock = some g → g < N0) : OutAt w' b0 v L :=
  ⟨h.own.kept hg (Or.inr fun e => by have := hv _ e; omega), fun p hp => ⟨(h.each p hp).1.kept hg (Or.inr fun e => by have := hL p hp _ e; omega), (h.each p hp).2⟩, h.apart⟩
theorem RdS.blk {w : World} {rb : Nat} {st : St} (h : RdS w rb st) : ∃ L, Blk w rb 102 L ∧ ∀ v ∈ L, ∀ x, v ≠ u8N x := by
  cases st with
  | none => exact ⟨_, h, fun v hv x => by simp only [List.mem_cons, List.not_mem_nil, or_false] at hv; rcases hv with rfl | rfl <;> simp [u8N]⟩
  | some l =>
    obtain ⟨a, n, cap, hb, _⟩ := h
    exact ⟨_, hb, fun v hv x => by simp only [List.mem_cons, List.not_mem_nil, or_false] at hv; rcases hv with rfl | rfl <;> simp [u8N, gP]⟩
/-- the document's reader stays when the other one reads -/
theorem RefS.across {w w' : World} {rb sb : Nat} {st st' : St} (h : RefS w sb st) (hr : RdS w rb st') (hg : w.grownBy w' (some rb)) (hne : rb < sb) : RefS w' sb st := by
  obtain ⟨a, n, cap, s, bad, full, hb, h1, h2, h3, hP, h4⟩ := h
  refine ⟨a, n, cap, s, bad, full, hb.grown hg (by simp; omega), h1, h2, h3, ⟨(hP.1.apart hg ?_).full, hP.2⟩, h4⟩
  rcases hP.1.cells with h0 | ⟨pb, po, e, hlt, hc⟩
  · exact Or.inl h0
  · by_cases h0 : full.length = 0
    · exact Or.inl h0
    · refine Or.inr fun pb' po' e2 => ?_
      rw [e] at e2
      simp only [Option.some.injEq, Addr.mk.injEq, and_true] at e2
      obtain ⟨rfl, rfl⟩ := e2
      rintro rfl
      obtain ⟨L, hbl, hno⟩ := hr.blk
      have hc0 := hc 0 (by omega)
      unfold Blk at hbl
      have : ∃ v ∈ L, v = u8N (full.getD 0 0) := by
        unfold World.cell? at hc0
        simp [hbl] at hc0
        exact ⟨_, List.mem_of_getElem? hc0, rfl⟩
      obtain ⟨v, hv, e3⟩ := this
      exact hno v hv _ e3
def BD (D : Dt) (st : St) (W : World) (b0 : Nat) (v8 : Value) (Ls : List Rw1) (listed : Array Bool) (w : World) : Prop :=
  W.grownBy w none ∧ D.N0 ≤ w.heap.size ∧ OutAt w b0 v8 Ls ∧ RdS w D.rb (if listed.getD 5 false = true then D.s2 else st) ∧ RefS w D.sb (if listed.getD 11 false = true then D.s2 else st)
section
variable {D : Dt} {st : St} {W : World} {b0 : Nat} {v8 : Value} {Ls : List Rw1} {listed : Array Bool} {w w' : World}
theorem BD.set (h : BD D st W b0 v8 Ls listed w) {i : Nat} (h5 : i ≠ 5) (h11 : i ≠ 11) : BD D st W b0 v8 Ls (listed.setIfInBounds i true) w := by
  unfold BD at *
  rw [getD_set_ne false h5, getD_set_ne false h11]
  exact h
theorem BD.grown (h : BD D st W b0 v8 Ls listed w) (hg : w.grownBy w' none) : BD D st W b0 v8 Ls listed w' :=
  ⟨gb_trans h.1 hg, Nat.le_trans h.2.1 hg.size, h.2.2.1.stay hg, h.2.2.2.1.stay hg, h.2.2.2.2.stay hg⟩
structure Lie (D : Dt) (W : World) (b0 : Nat) (v8 : Value) (Ls : List Rw1) : Prop where
  r0 : W.heap.size ≤ D.rb
  rs : D.rb < D.sb
  sb0 : D.sb < b0
  bN : b0 ≤ D.N0
  lowV : ∀ g, v8.ownBlock = some g → g < D.N0
  lowL : ∀ p ∈ Ls, ∀ g, (rv p).ownBlock = some g → g < D.N0
theorem BD.store (k : Lie D W b0 v8 Ls) (h : BD D st W b0 v8 Ls listed w) {X : Nat} (hg : w.grownBy w' (some X)) (hX : D.N0 ≤ X) : BD D st W b0 v8 Ls listed w' := by
  have h1 := k.r0; have h2 := k.rs; have h3 := k.sb0; have h4 := k.bN
  exact ⟨gb_then h.1 hg (by omega), Nat.le_trans h.2.1 hg.size, h.2.2.1.above hg hX k.lowV k.lowL, h.2.2.2.1.beside hg (by omega), h.2.2.2.2.beside hg (by omega)⟩
theorem BD.call5 (k : Lie D W b0 v8 Ls) (h : BD D st W b0 v8 Ls listed w) (hs : 5 < listed.size) (hg : w.grownBy w' (some D.rb)) (hr : RdS w' D.rb D.s2) : BD D st W b0 v8 Ls (listed.setIfInBounds 5 true) w' := by
  have h1 := k.r0; have h2 := k.rs; have h3 := k.sb0; have h4 := k.bN
  refine ⟨gb_then h.1 hg h1, Nat.le_trans h.2.1 hg.size, h.2.2.1.beside hg (by omega), ?_, ?_⟩
  · rw [if_pos (by simp [hs])]; exact hr
  · rw [getD_set_ne false (by decide)]; exact h.2.2.2.2.across h.2.2.2.1 hg h2
theorem BD.call11 (k : Lie D W b0 v8 Ls) (h : BD D st W b0 v8 Ls listed w) (hs : 11 < listed.size) (hg : w.grownBy w' (some D.sb)) (hr : RefS w' D.sb D.s2) : BD D st W b0 v8 Ls (listed.setIfInBounds 11 true) w' := by
  have h1 := k.r0; have h2 := k.rs; have h3 := k.sb0; have h4 := k.bN
  refine ⟨gb_then h.1 hg (by omega), Nat.le_trans h.2.1 hg.size, h.2.2.1.beside hg (by omega), ?_, ?_⟩
  · rw [getD_set_ne false (by decide)]; exact h.2.2.2.1.beside hg h2
  · rw [if_pos (by simp [hs])]; exact hr
end
theorem bytesS_len (st : St) (h : ∀ l, st = some l → l.length ≤ 100000) (most : Int) : (bytesS most st).1.length ≤ 100000 := by
  cases st with
  | none => unfold bytesS tells; simp
  | some l =>
    have hb := h l rfl
    unfold bytesS
    cases hr : rdBytes most l with
    | none =>
      have e1 : tells [] (rdBytes most) (some l) = ([], none) := by unfold tells; simp only [hr]
      rw [e1]; simp
    | some p =>
      obtain ⟨x, r⟩ := p
      have e1 : tells [] (rdBytes most) (some l) = (x, some r) := by unfold tells; simp only [hr]
      rw [e1]
      unfold rdBytes rdCount at hr
      split at hr
      · cases hr
      · rename_i n r' hc
        split at hc
        · cases hc
          split at hr
          · cases hr
            simp only [List.length_take, List.length_drop]
            omega
          · cases hr
        · cases hc
theorem askS_small (k : Nat) (st : St) (h : ∀ l, st = some l → l.length ≤ 100000) (most : Int) : (askS k most st).1.2.length ≤ 100000 := by
  unfold askS
  split
  · simp
  · simp
  · exact bytesS_len st h most
  · simp
theorem askS_byte {w : World} {rb : Nat} (k : Nat) {st : St} (h : RdS w rb st) (most : Int) (i : Nat) : (askS k most st).1.2.getD i 0 < 256 := by
  unfold askS
  split
  · simp
  · simp
  · exact bytesS_lt h most i
  · simp
theorem RefS.small {w : World} {sb : Nat} {st : St} (h : RefS w sb st) (l : List Nat) (e : st = some l) : l.length ≤ 100000 := by
  obtain ⟨a, n, cap, s, bad, full, hb, h1, h2, h3, hP, h4⟩ := h
  rcases h4 with ⟨_, h4⟩ | ⟨_, h4⟩
  · rw [h4] at e; cases e
  · rw [h4] at e; cases e; rw [List.length_drop]; omega
theorem RdS.byte {w : World} {rb : Nat} {st : St} (h : RdS w rb st) (l : List Nat) (e : st = some l) (i : Nat) : l.getD i 0 < 256 := by
  subst e; exact RdB.byte h i
/-! ### the region's steps -/
section
variable {P : Program} {ops : Array Oper} {Q : Exit → Act → World → Prop} {D : Dt} {st : St} {W : World} {b0 : Nat} {v8 : Value} {Ls : List Rw1} {a0 : Act} {sf : Nat → Nat}
abbrev StH (P : Program) (ops : Array Oper) (Q : Exit → Act → World → Prop) (D : Dt) (st : St) (W : World) (b0 : Nat) (v8 : Value) (Ls : List Rw1) (a0 : Act) (sf : Nat → Nat) (i : Nat) (o : Oper) : Prop := FlowStepP P Q (GD D) sf (MD D) (BD D st W b0 v8 Ls) [10, 11] a0 ops i o
abbrev AtH (ops : Array Oper) (D : Dt) (st : St) (W : World) (b0 : Nat) (v8 : Value) (Ls : List Rw1) (a0 : Act) (sf : Nat → Nat) (ls : Array Bool) (i : Nat) (o : Oper) (a : Act) (w : World) : Prop := FlowAtP (GD D) sf (MD D) (BD D st W b0 v8 Ls) [10, 11] a0 ops ls i o a w
theorem hVal {i d : Nat} {o : Oper} (hd : o.dst = some d) (hi : i ≠ 5 ∧ i ≠ 11) (hg : d ≠ 58 ∧ d ≠ 64 ∧ d ≠ 10 ∧ d ≠ 11) (hw : o.guard = none)
    (h : ∀ ls a w, AtH ops D st W b0 v8 Ls a0 sf ls i o a w → ∃ v, (execOp a.eval o).run P w = .ok (.value v) w ∧ VD D d v) : StH P ops Q D st W b0 v8 Ls a0 sf i o :=
  flowP_value hd fun ls a w hF => by
    obtain ⟨v, hr, hv⟩ := h ls a w hF
    refine ⟨wants_none hw, v, w, hr, hF.base.set hi.1 hi.2, fun _ _ h => h, fun _ _ h => h, ptrs_put hF.ptrs (Nat.le_refl _) (fun s hs e => ?_), hv, fun e => by omega, fun e => by omega⟩
    simp only [List.mem_cons, List.not_mem_nil, or_false] at hs
    rcases hs with rfl | rfl
    · exact hg.2.2.1 (Option.some.inj e)
    · exact hg.2.2.2 (Option.some.inj e)
theorem hBox {i d : Nat} {o : Oper} (hd : o.dst = some d) (hi : i ≠ 5 ∧ i ≠ 11) (hg : d = 10 ∨ d = 11) (hs : d < a0.tmps.size) (hw : o.guard = none)
    (h : ∀ ls a w, AtH ops D st W b0 v8 Ls a0 sf ls i o a w → (execOp a.eval o).run P w = .ok (.value (.pointer (some ⟨w.heap.size, 0, none⟩))) (w.alloc (.cells #[.int .i64 0, .slice none 0 0, .bool false, .bool false] 40))) : StH P ops Q D st W b0 v8 Ls a0 sf i o :=
  flowP_value hd fun ls a w hF => by
    have hr := h ls a w hF
    have ga : w.grownBy (w.alloc (.cells #[.int .i64 0, .slice none 0 0, .bool false, .bool false] 40)) none := gb_alloc (gb_refl w none) _
    have hst := stp_none (D := D) ga
    refine ⟨wants_none hw, _, _, hr, (hF.base.grown ga).set hi.1 hi.2, fun d u => hst.1.g d u, hst.2, ptrs_new hF.ptrs (by simp) (by rw [hF.size]; exact hs), ?_, fun e => by omega, fun _ => ⟨w.heap.size, _, rfl, hF.base.2.1, rfl, blk_at w [.int .i64 0, .slice none 0 0, .bool false, .bool false] _ rfl⟩⟩
    rcases hg with rfl | rfl <;> trivial
theorem hFill {i s v : Nat} {o : Oper} (hi : i = 14 ∧ s = 10 ∧ v = 58 ∨ i = 15 ∧ s = 11 ∧ v = 64) (hsf : sf 14 = 10 ∧ sf 15 = 11) (hd : o.dst = none) (hw : o.guard = none) (k : Lie D W b0 v8 Ls)
    (ho : o.op = .store 40 (.tmp s) (.tmp v)) (hws : waits ops o s = true) (hwv : waits ops o v = true) (hif : (P.info? 40).map (·.size) = some 4) : StH P ops Q D st W b0 v8 Ls a0 sf i o :=
  flowP_store hd fun ls a w hF => by
    have hsi : sf i = s := by
      rcases hi with ⟨rfl, rfl, rfl⟩ | ⟨rfl, rfl, rfl⟩
      · exact hsf.1
      · exact hsf.2
    have hsm : s ∈ [10, 11] := by
      rcases hi with ⟨rfl, rfl, rfl⟩ | ⟨rfl, rfl, rfl⟩
      · exact List.mem_cons_self ..
      · exact List.mem_cons_of_mem _ (List.mem_cons_self ..)
    obtain ⟨X, L, e10, hX, hL, hb⟩ := (hF.dep s hws).2.2 (by omega)
    obtain ⟨v1, e58, ho1⟩ := (hF.dep v hwv).2.1 (by omega)
    obtain ⟨ax, cx, rfl⟩ := own_shape3 ho1
    have hs := stp_store (D := D) hb hL (cs := [.int .i64 D.n, .slice ax D.bs.length cx, .bool D.s2.isSome, .bool (decide (D.s2 = some []))]) rfl
    refine ⟨wants_none hw, _, Fg.run_store (cs := [.int .i64 D.n, .slice ax D.bs.length cx, .bool D.s2.isSome, .bool (decide (D.s2 = some []))]) ho e10 e58 (hb.there 0 4 (by omega)) hif rfl, ?_, fun d u => hs.1.g d u, fun j oj hj hoj hdj hM hj2 => ?_, (gb_setCells (gb_refl w (some X)) 0).size, fun _ => ?_⟩
    · exact (hF.base.store k (gb_setCells (gb_refl w (some X)) 0) hX).set (by omega) (by omega)
    · refine hs.2 _ (fun e => ?_) (hM hj2)
      have hp := hF.ptrs s hsm X e10
      refine hp.2 (sf j) ?_ ?_ e
      · rcases hj2 with rfl | rfl
        · rw [hsf.1]; simp
        · rw [hsf.2]; simp
      · have h1 := hsf.1; have h2 := hsf.2
        rcases hj2 with rfl | rfl <;> omega
    · rw [hsi]
      exact ⟨X, _, e10, hX, hb.setAll hL, hs.1.owns _ _ _ ho1⟩
theorem hCall5 {o : Oper} (k : Lie D W b0 v8 Ls) (hsz : 5 < ops.size) (hd : o.dst = some 58) (hw : o.guard = none) (f : FuncId) (args : Array Value)
    (hA : ∀ w, RdS w D.rb st → Calls P f args w fun e w' => ∃ v, e = .returned (toldV D.n v D.s2) ∧ w.grownBy w' (some D.rb) ∧ RdS w' D.rb D.s2 ∧ w'.ownsRow w.heap.size 5 1 v D.bs.length (D.bs.map u8N))
    (h : ∀ ls a w, AtH ops D st W b0 v8 Ls a0 sf ls 5 o a w → (execOp a.eval o).run P w = .ok (.enter f args) w) : StH P ops Q D st W b0 v8 Ls a0 sf 5 o :=
  flowP_call hd fun ls a w hF => by
    refine ⟨wants_none hw, f, args, h ls a w hF, (hA w ?_).mono ?_⟩
    · have h1 := hF.base.2.2.2.1
      rwa [hF.fresh, if_neg (by decide)] at h1
    · rintro e w' ⟨v, rfl, hg, hr, ho⟩
      have h1 := k.r0; have h2 := k.rs; have h3 := k.sb0; have h4 := k.bN
      have hst := stp_at (D := D) hg (by omega)
      refine ⟨_, rfl, hF.base.call5 k (by rw [hF.rows]; exact hsz) hg hr, fun d u => hst.1.g d u, hst.2, ptrs_put hF.ptrs hg.size (fun s hs e => ?_), trivial, fun _ => ⟨v, rfl, own_down ho hF.base.2.1⟩, fun e => by omega⟩
      simp only [List.mem_cons, List.not_mem_nil, or_false] at hs
      rcases hs with rfl | rfl <;> exact absurd (Option.some.inj e) (by decide)
theorem hCall11 {o : Oper} (k : Lie D W b0 v8 Ls) (hsz : 11 < ops.size) (hd : o.dst = some 64) (hw : o.guard = none) (f : FuncId) (args : Array Value)
    (hA : ∀ w, RefS w D.sb st → Calls P f args w fun e w' => ∃ v, e = .returned (toldV D.n v D.s2) ∧ w.grownBy w' (some D.sb) ∧ RefS w' D.sb D.s2 ∧ w'.ownsRow w.heap.size 5 1 v D.bs.length (D.bs.map u8N))
    (h : ∀ ls a w, AtH ops D st W b0 v8 Ls a0 sf ls 11 o a w → (execOp a.eval o).run P w = .ok (.enter f args) w) : StH P ops Q D st W b0 v8 Ls a0 sf 11 o :=
  flowP_call hd fun ls a w hF => by
    refine ⟨wants_none hw, f, args, h ls a w hF, (hA w ?_).mono ?_⟩
    · have h1 := hF.base.2.2.2.2
      rwa [hF.fresh, if_neg (by decide)] at h1
    · rintro e w' ⟨v, rfl, hg, hr, ho⟩
      have h1 := k.r0; have h2 := k.rs; have h3 := k.sb0; have h4 := k.bN
      have hst := stp_at (D := D) hg (by omega)
      refine ⟨_, rfl, hF.base.call11 k (by rw [hF.rows]; exact hsz) hg hr, fun d u => hst.1.g d u, hst.2, ptrs_put hF.ptrs hg.size (fun s hs e => ?_), trivial, fun _ => ⟨v, rfl, own_down ho hF.base.2.1⟩, fun e => by omega⟩
      simp only [List.mem_cons, List.not_mem_nil, or_false] at hs
      rcases hs with rfl | rfl <;> exact absurd (Option.some.inj e) (by decide)
end
def P2 (x y : Value) (w : World) : Prop := (∀ C, x = .pointer (some ⟨C, 0, none⟩) → C < w.heap.size ∧ y ≠ .pointer (some ⟨C, 0, none⟩)) ∧ ∀ C, y = .pointer (some ⟨C, 0, none⟩) → C < w.heap.size ∧ x ≠ .pointer (some ⟨C, 0, none⟩)
theorem P2.up {x y : Value} {w w' : World} (h : P2 x y w) (hs : w.heap.size ≤ w'.heap.size) : P2 x y w' :=
  ⟨fun C e => ⟨Nat.lt_of_lt_of_le (h.1 C e).1 hs, (h.1 C e).2⟩, fun C e => ⟨Nat.lt_of_lt_of_le (h.2 C e).1 hs, (h.2 C e).2⟩⟩
theorem P2.ptrs {a : Act} {x y : Value} {w : World} (h : P2 x y w) (hx : a.tmps.getD 10 undef = x) (hy : a.tmps.getD 11 undef = y) : PtrsApart [10, 11] a w := by
  intro s hs C e
  simp only [List.mem_cons, List.not_mem_nil, or_false] at hs
  rcases hs with rfl | rfl
  · rw [hx] at e
    refine ⟨(h.1 C e).1, fun t ht hne => ?_⟩
    simp only [List.mem_cons, List.not_mem_nil, or_false] at ht
    rcases ht with rfl | rfl
    · exact absurd rfl hne
    · rw [hy]; exact (h.1 C e).2
  · rw [hy] at e
    refine ⟨(h.2 C e).1, fun t ht hne => ?_⟩
    simp only [List.mem_cons, List.not_mem_nil, or_false] at ht
    rcases ht with rfl | rfl
    · rw [hx]; exact (h.2 C e).2
    · exact absurd rfl hne
theorem P2.of {a : Act} {w : World} (h : PtrsApart [10, 11] a w) : P2 (a.tmps.getD 10 undef) (a.tmps.getD 11 undef) w :=
  ⟨fun C e => ⟨(h 10 (by simp) C e).1, (h 10 (by simp) C e).2 11 (by simp) (by decide)⟩, fun C e => ⟨(h 11 (by simp) C e).1, (h 11 (by simp) C e).2 10 (by simp) (by decide)⟩⟩
/-- one row more is put to the list -/
theorem one_push {b0 N0 : Nat} {v : Value} {Ls : List Rw1} (w8 : World) (p1 : Rw1) (hI : OutAt w8 b0 v Ls) (hb : b0 ≤ N0) (hN : N0 ≤ w8.heap.size) (lowV : ∀ g, v.ownBlock = some g → g < N0) (lowL : ∀ p ∈ Ls, ∀ g, (rv p).ownBlock = some g → g < N0) (o1 : w8.ownsRow N0 5 1 (rv p1) p1.2.1 p1.2.2.2) (l1 : p1.2.1 ≤ 100000) (hlen : Ls.length + 1 ≤ 1000000000) :
    ∃ v' w', (Builtin.append_ #[22, 22] 22 #[v, .slice (some ⟨w8.heap.size, 0, none⟩) 1 1]).run Tryz.prog (w8.alloc (.cells #[rv p1] 23)) = .ok v' w' ∧ OutAt w' b0 v' (Ls ++ [p1]) ∧ w8.grownBy w' v.ownBlock := by
  have hga : w8.grownBy (w8.alloc (.cells #[rv p1] 23)) none := gb_alloc (gb_refl _ _) _
  have hbl := blk_at w8 [rv p1] 23 rfl
  obtain ⟨v', w', hr, ho, hg'⟩ := outs_push (w8.alloc (.cells #[rv p1] 23)) b0 N0 w8.heap.size v Ls [p1] (hI.stay hga) lowV lowL (by
      intro p hp
      simp only [List.mem_cons, List.not_mem_nil, or_false] at hp
      subst hp
      exact ⟨own_kept o1 hga, l1⟩) (List.Pairwise.cons (fun q hq => by cases hq) List.Pairwise.nil) (by simp) (fun j u hu => by rw [Nat.zero_add]; exact hbl.cell hu) hb (Nat.le_trans hN hga.size) (by simpa using hlen)
  exact ⟨v', w', hr, ho, gb_trans (gb_row hga _) hg'⟩
theorem RdS.over {w w' : World} {rb b0 e n : Nat} {st : St} {v : Value} {xs : List Value} (h : RdS w rb st) (ho : w.ownsRow b0 e 1 v n xs) (hlt : rb < b0) (hg : w.grownBy w' v.ownBlock) : RdS w' rb st := by
  rcases ho.2 with ⟨rfl, _⟩ | ⟨g, c, cur, rfl, hb, _⟩
  · exact h.stay hg
  · exact h.beside hg (show _ < g by omega)
theorem RefS.over {w w' : World} {sb b0 e n : Nat} {st : St} {v : Value} {xs : List Value} (h : RefS w sb st) (ho : w.ownsRow b0 e 1 v n xs) (hlt : sb < b0) (hg : w.grownBy w' v.ownBlock) : RefS w' sb st := by
  rcases ho.2 with ⟨rfl, _⟩ | ⟨g, c, cur, rfl, hb, _⟩
  · exact h.stay hg
  · exact h.beside hg (show _ < g by omega)
end Go.Proofs.YtlkiancedgaicaaGreat
