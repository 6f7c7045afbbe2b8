/- texts merged, part 1: XFlowK XScNumsM XFlowS XStep XScNums -/
import Derived.Test.YtmnlidfalhjghaaGreatDoorRdB2
import Derived.Test.YtmnlidfalhjghaaGreatDoorRdB1
import Derived.Test.YtmnlidfalhjghaaGreatDoorRdB3
import Derived.Deep.MidRow
import Derived.Deep.RegionLaw
import Derived.Laws.ResultCell
import Derived.Deep.RegionLawGrows
/- Regions that draw their order, in which bytes may be appended to in place: rows of bytes stay rows of bytes, whatever they hold. -/
namespace Go.Proofs.YtmnlidfalhjghaaGreatDoor
open Go.RowKit Ow
namespace Fk
/-- a block of c bytes -/
def BB (w : World) (g c : Nat) : Prop := ∃ l : List Nat, l.length = c ∧ (∀ i, l.getD i 0 < 256) ∧ Blk w g 5 (l.map u8N)
theorem BB.lt {w : World} {g c : Nat} (h : BB w g c) : g < w.heap.size := h.elim fun _ h => h.2.2.lt
theorem BB.stay {w w' : World} {g c : Nat} (h : BB w g c) (hg : w.grownBy w' none) : BB w' g c := h.elim fun l h => ⟨l, h.1, h.2.1, h.2.2.grown hg (by simp)⟩
theorem BB.beside {w w' : World} {g c T : Nat} (h : BB w g c) (hg : w.grownBy w' (some T)) (hT : g ≠ T) : BB w' g c := h.elim fun l h => ⟨l, h.1, h.2.1, h.2.2.grown hg (fun e => hT (Option.some.inj e))⟩
theorem BB.size {w : World} {g c c' : Nat} (h : BB w g c) (h' : BB w g c') : c = c' := by
  obtain ⟨l, h1, _, hb⟩ := h
  obtain ⟨l', h1', _, hb'⟩ := h'
  unfold Blk at hb hb'
  rw [hb] at hb'
  have e := congrArg Array.size (Obj.cells.inj (Option.some.inj hb')).1
  simp at e
  omega
theorem BB.of {w : World} {g c : Nat} {l : List Nat} (hb : Blk w g 5 (l.map u8N)) (hl : l.length = c) (h : ∀ i, l.getD i 0 < 256) : BB w g c := ⟨l, hl, h, hb⟩
theorem getD_set' (l : List Nat) (i x j : Nat) (hx : x < 256) (h : ∀ i, l.getD i 0 < 256) : (l.set i x).getD j 0 < 256 := by
  rw [List.getD_eq_getElem?_getD, List.getElem?_set]
  split
  · split <;> simp [hx]
  · rw [← List.getD_eq_getElem?_getD]; exact h j
theorem BB.set {w : World} {g c : Nat} (h : BB w g c) (i x : Nat) (hx : x < 256) : BB (w.setCell ⟨g, i, none⟩ (.int .u8 (x : Int))) g c := by
  obtain ⟨l, hl, hb, hk⟩ := h
  refine ⟨l.set i x, by rw [List.length_set]; exact hl, fun j => getD_set' l i x j hx hb, ?_⟩
  have := hk.set i (u8N x)
  rw [List.map_set]; exact this
theorem BB.free {w : World} {g c : Nat} (h : BB w g c) (i : Nat) : w.frozen? ⟨g, i, none⟩ = false := h.elim fun _ h => h.2.2.free i
theorem bb_set {w : World} {g c i k : Nat} (h : BB w g c) (j x : Nat) (hx : x < 256) (hb : BB w i k) : BB (w.setCell ⟨g, j, none⟩ (.int .u8 (x : Int))) i k := by
  by_cases e : i = g
  · subst e
    rw [hb.size h]; exact h.set j x hx
  · exact hb.beside (gb_set (gb_refl w (some g)) j _) e
theorem BB.cell {w : World} {g c : Nat} (h : BB w g c) (i : Nat) (hi : i < c) : ∃ x : Nat, x < 256 ∧ w.cell? ⟨g, i, none⟩ = some (.int .u8 (x : Int)) := by
  obtain ⟨l, hl, hb, hk⟩ := h
  exact ⟨l.getD i 0, hb i, hk.cell (u8_getD (by omega))⟩
/-- bytes of such a block -/
theorem BB.bytes {w : World} {g c n : Nat} (h : BB w g c) (hn : n ≤ c) (hc : c ≤ maxLen) : ∃ l : List Nat, l.length = n ∧ BytesAt w w.heap.size (some ⟨g, 0, none⟩) c l := by
  obtain ⟨l, hl, hb, hk⟩ := h
  refine ⟨l.take n, by rw [List.length_take]; omega, ?_⟩
  refine blk_bytes (n := n) (tl := (l.drop n).map u8N) (by rw [← List.map_append, List.take_append_drop]; exact hk) (by rw [List.length_take]; omega) hn (by unfold maxLen at hc; omega) (getD_take_lt l n hb) hk.lt (Nat.le_refl _)
theorem byte_zeros (n : Nat) : Builtin.zeroCells #[Value.int .u8 0] n = ((List.replicate n 0).map u8N).toArray := by
  unfold Builtin.zeroCells u8N
  apply Array.ext
  · simp
  · intro i h1 h2
    simp [Nat.mod_one]
theorem getD_app (p q : List Nat) (hp : ∀ i, p.getD i 0 < 256) (hq : ∀ i, q.getD i 0 < 256) (i : Nat) : (p ++ q).getD i 0 < 256 := by
  rw [List.getD_eq_getElem?_getD, List.getElem?_append]
  split
  · rw [← List.getD_eq_getElem?_getD]; exact hp i
  · rw [← List.getD_eq_getElem?_getD]; exact hq _
theorem getD_zero (n i : Nat) : (List.replicate n (0 : Nat)).getD i 0 < 256 := by rw [List.getD_eq_getElem?_getD, List.getElem?_replicate]; split <;> simp
theorem getD_drop' (l : List Nat) (n : Nat) (h : ∀ i, l.getD i 0 < 256) (i : Nat) : (l.drop n).getD i 0 < 256 := by rw [getD_drop]; exact h _
/-- m bytes appended to n of a block: in place, or in a new block; all rows of bytes stay such -/
theorem bb_append (w : World) (g n c s m cs cs' : Nat) (hB : BB w g c) (hn : n ≤ c) (hc : c ≤ maxLen) (hS : BB w s cs') (hm : m ≤ cs') (hb : n + m ≤ 100000000) :
    ∃ g' c' w', (Builtin.append_ #[22, 22] 22 #[.slice (some ⟨g, 0, none⟩) n c, .slice (some ⟨s, 0, none⟩) m cs]).run Tryz.prog w = .ok (.slice (some ⟨g', 0, none⟩) (n + m) c') w' ∧ n + m ≤ c' ∧ c' ≤ maxLen ∧ BB w' g' c' ∧ (∀ i k, BB w i k → BB w' i k) ∧ w.grownBy w' (some g) ∧ (g' = g ∨ g' = w.heap.size) := by
  obtain ⟨i, hi, hz, hs, hby⟩ := info_u8z
  obtain ⟨L, hL, hLb, hLk⟩ := hB
  obtain ⟨S, hSl, hSb, hSk⟩ := hS
  have hnews : ∀ j u, ((S.take m).map u8N)[j]? = some u → w.cell? ((⟨s, 0, none⟩ : Addr).add j) = some u := fun j u hu => by
    have hadd : (⟨s, 0, none⟩ : Addr).add j = ⟨s, j, none⟩ := by unfold Addr.add; split <;> simp_all
    rw [hadd]
    have hj : j < m := by
      rcases Nat.lt_or_ge j m with h | h
      · exact h
      · rw [List.getElem?_eq_none (by simp; omega)] at hu; cases hu
    have h1 : (S.map u8N)[j]? = some u := by
      rw [List.map_take, List.getElem?_take, if_pos hj] at hu; exact hu
    exact hSk.cell h1
  have hnl : ((S.take m).map u8N).length = m * 1 := by simp; omega
  have h1 : ∀ u ∈ (S.take m).map u8N, u.oneCell' = true := fun u hu => by obtain ⟨x, _, rfl⟩ := List.mem_map.1 hu; rfl
  by_cases hroom : n + m ≤ c
  · have hr := run_append_room (P := Tryz.prog) w 22 22 5 i Tryz.underlying22 hi g n c (L.map u8N).toArray hLk ⟨s, 0, none⟩ m cs ((S.take m).map u8N) (by rw [hs]; exact hnl) hnews h1 hroom (by rw [hs]; simp; omega)
    have e3 : (L.map u8N).toArray.toList.take (n * 1) ++ (S.take m).map u8N ++ (L.map u8N).toArray.toList.drop (n * 1 + ((S.take m).map u8N).length) = (L.take n ++ S.take m ++ L.drop (n + m)).map u8N := by
      have e4 : n * 1 + ((S.take m).map u8N).length = n + m := by rw [hnl]; omega
      rw [e4, Nat.mul_one, List.map_append, List.map_append, List.map_take, List.map_take, List.map_drop]
    rw [hs, e3] at hr
    have hg := gb_setRow' (gb_refl w (some g)) ((L.take n ++ S.take m ++ L.drop (n + m)).map u8N).toArray
    have hk := hLk.row ((L.take n ++ S.take m ++ L.drop (n + m)).map u8N)
    have hbb := BB.of hk (c := c) (by simp; omega) (getD_app _ _ (getD_app _ _ (getD_take_lt L n hLb) (getD_take_lt S m hSb)) (getD_drop' L _ hLb))
    refine ⟨g, c, _, hr, hroom, hc, hbb, fun j k hj => ?_, hg, Or.inl rfl⟩
    by_cases e : j = g
    · subst e
      rw [hj.size ⟨L, hL, hLb, hLk⟩]; exact hbb
    · exact hj.beside hg e
  · have holds : ∀ j u, ((L.take n).map u8N)[j]? = some u → w.cell? ((⟨g, 0, none⟩ : Addr).add j) = some u := fun j u hu => by
      have hadd : (⟨g, 0, none⟩ : Addr).add j = ⟨g, j, none⟩ := by unfold Addr.add; split <;> simp_all
      rw [hadd]
      have hj : j < n := by
        rcases Nat.lt_or_ge j n with h | h
        · exact h
        · rw [List.getElem?_eq_none (by simp; omega)] at hu; cases hu
      have h1 : (L.map u8N)[j]? = some u := by
        rw [List.map_take, List.getElem?_take, if_pos hj] at hu; exact hu
      exact hLk.cell h1
    have hge := grownCap_ge w (n + m) c 5
    have hle := grownCap_le_maxLen w (n + m) c 5 (by unfold maxLen; omega)
    have hr := run_append_grow (P := Tryz.prog) w 22 22 5 i (.int .u8 0) Tryz.underlying22 hi hz ⟨g, 0, none⟩ n c ((L.take n).map u8N) (by rw [hs]; simp; omega) holds ⟨s, 0, none⟩ m cs ((S.take m).map u8N) (by rw [hs]; exact hnl) hnews (by omega) (by omega) (growslice_fits (by omega) (by rw [hby]; omega))
    generalize grownCap w (n + m) c 5 = K at *
    have ez : (Value.int .u8 0).cells = #[Value.int .u8 0] := rfl
    have hg0 := gb_alloc (gb_drew (gb_refl w none)) (.cells (((L.take n).map u8N).toArray ++ ((S.take m).map u8N).toArray ++ Builtin.zeroCells (Value.int .u8 0).cells (K - (n + m))) 5)
    have hk : Blk (w.drew.alloc (.cells (((L.take n).map u8N).toArray ++ ((S.take m).map u8N).toArray ++ Builtin.zeroCells (Value.int .u8 0).cells (K - (n + m))) 5)) w.heap.size 5 ((L.take n ++ S.take m ++ List.replicate (K - (n + m)) 0).map u8N) := by
      have e : ((L.take n).map u8N).toArray ++ ((S.take m).map u8N).toArray ++ Builtin.zeroCells (Value.int .u8 0).cells (K - (n + m)) = ((L.take n ++ S.take m ++ List.replicate (K - (n + m)) 0).map u8N).toArray := by
        rw [ez, byte_zeros, List.map_append, List.map_append]
        simp
      rw [e]
      exact Blk.new w.drew _ _
    refine ⟨w.heap.size, K, _, hr, hge, hle, BB.of hk (by simp; omega) (getD_app _ _ (getD_app _ _ (getD_take_lt L n hLb) (getD_take_lt S m hSb)) (getD_zero _)), fun j k hj => hj.stay hg0, gb_row hg0 _, Or.inr rfl⟩
theorem bb_nil (w : World) : BB (w.alloc (.cells #[] 5)) w.heap.size 0 := BB.of (l := []) (Blk.new w [] _) rfl (fun i => by simp)
theorem bb_one (w : World) : BB (w.alloc (.cells #[.int .u8 0] 5)) w.heap.size 1 := BB.of (l := [0]) (Blk.new w [.int .u8 0] _) rfl (fun i => by rcases i with _ | i <;> simp)
theorem run_append {P : Program} {ρ : Operand → Value} {o : Oper} {w : World} {s x : Operand} {t : TypeId} {v y v' : Value} {w' : World} (ho : o.op = .call { callee := .builtin .append, args := #[s, x], argTypes := #[t, t] }) (ht : o.type = t) (hs : ρ s = v) (hx : ρ x = y)
    (hr : (Builtin.append_ #[t, t] t #[v, y]).run P w = .ok v' w') : (execOp ρ o).run P w = .ok (.value v') w' := by
  rw [← ht] at hr
  simp [execOp, ho, resolve, invoke, builtin, hs, hx, ← ht, hr, Result.andThen]
/-- what a slot has, and keeps as long as rows of bytes stay -/
structure It where
  p : Value → World → Prop
  m : ∀ v w w', p v w → (∀ g c, BB w g c → BB w' g c) → p v w'
def It.any : It := ⟨fun _ _ => True, fun _ _ _ _ _ => trivial⟩
def It.val (x : Value) : It := ⟨fun v _ => v = x, fun _ _ _ h _ => h⟩
/-- n bytes of a row that was made since -/
def It.bb (lo n : Nat) : It := ⟨fun v w => ∃ g c, v = .slice (some ⟨g, 0, none⟩) n c ∧ n ≤ c ∧ c ≤ maxLen ∧ lo ≤ g ∧ BB w g c, fun _ _ _ ⟨g, c, e, h1, h2, h3, h⟩ hg => ⟨g, c, e, h1, h2, h3, hg _ _ h⟩⟩
def its (L : List It) (d : Nat) (v : Value) (w : World) : Prop := (L.getD d .any).p v w
theorem its_grown {L : List It} {w w' : World} (hg : ∀ g c, BB w g c → BB w' g c) (d : Nat) (v : Value) (h : its L d v w) : its L d v w' := (L.getD d .any).m _ _ _ h hg
/-- a step of memory -/
structure KM (B : World → Prop) (w w' : World) : Prop where
  base : B w → B w'
  rows : ∀ g c, BB w g c → BB w' g c
theorem refl (B : World → Prop) (w : World) : KM B w w := ⟨id, fun _ _ h => h⟩
theorem KM.of {B : World → Prop} {w w' : World} (hB : B w → B w') (hg : w.grownBy w' none) : KM B w w' := ⟨hB, fun _ _ h => h.stay hg⟩
section
variable {P : Program} {ops : Array Oper} {Q : Exit → Act → World → Prop} {L : List It} {B : World → Prop} {a0 : Act}
abbrev At (L : List It) (B : World → Prop) (a0 : Act) (ops : Array Oper) (o : Oper) (a : Act) (w : World) : Prop := FlowAt3 (its L) (fun _ => 0) (fun _ _ _ => True) B [] a0 ops o a w
abbrev Step (P : Program) (Q : Exit → Act → World → Prop) (L : List It) (B : World → Prop) (a0 : Act) (ops : Array Oper) (i : Nat) (o : Oper) : Prop := FlowStep3 P Q (its L) (fun _ => 0) (fun _ _ _ => True) B [] a0 ops i o
theorem value {i : Nat} {o : Oper} {d : Nat} (hd : o.dst = some d)
    (h : ∀ a w, At L B a0 ops o a w → Wants ops o a ∧ ∃ v w', (execOp a.eval o).run P w = .ok (.value v) w' ∧ KM B w w' ∧ its L d v w') : Step P Q L B a0 ops i o :=
  flow3_value hd fun a w hF => by
    obtain ⟨hw, v, w', hr, hg, hG⟩ := h a w hF
    exact ⟨hw, v, w', hr, hg.base hF.base, fun d u => its_grown hg.rows d u, fun _ _ h => h, Fg.ptrs_nil _ _, hG⟩
theorem call {i : Nat} {o : Oper} {d : Nat} (hd : o.dst = some d)
    (h : ∀ a w, At L B a0 ops o a w → Wants ops o a ∧ ∃ f args, (execOp a.eval o).run P w = .ok (.enter f args) w ∧ Calls P f args w fun e w' => ∃ v, e = .returned v ∧ KM B w w' ∧ its L d v w') : Step P Q L B a0 ops i o :=
  flow3_call hd fun a w hF => by
    obtain ⟨hw, f, args, hr, hc⟩ := h a w hF
    refine ⟨hw, f, args, hr, hc.mono fun e w' he => ?_⟩
    obtain ⟨v, rfl, hg, hG⟩ := he
    exact ⟨v, rfl, hg.base hF.base, fun d u => its_grown hg.rows d u, fun _ _ h => h, Fg.ptrs_nil _ _, hG⟩
theorem skipped {i : Nat} {o : Oper} {d : Nat} (hd : o.dst = some d) (hG : ∀ w, its L d undef w)
    (h : ∀ a w, At L B a0 ops o a w → Region.wanted o (yielded ops a.tmps) = false) : Step P Q L B a0 ops i o :=
  flow3_skipped hd (fun s hs => by cases hs) (fun w _ => hG w) h
end
end Fk
end Go.Proofs.YtmnlidfalhjghaaGreatDoor

/- ScalarNumbers: the rows of bytes that it builds. -/
namespace Go.Proofs.YtmnlidfalhjghaaGreatDoor
open Go.RowKit Ow Fk
namespace Sr
def elV (p : Nat × Nat) : Value := .slice (some ⟨p.1, 0, none⟩) 32 p.2
/-- the rows built so far: each of 32 bytes, with room -/
structure NS (w0 : World) (v : Value) (E : List (Nat × Nat)) (w : World) : Prop where
  own : w.ownsRow w0.heap.size 22 1 v E.length (E.map elV)
  each : ∀ p ∈ E, 32 ≤ p.2 ∧ p.2 ≤ 66 ∧ BB w p.1 p.2 ∧ w0.heap.size ≤ p.1
  grown : w0.grownBy w none
theorem NS.stay {w0 w w' : World} {v : Value} {E : List (Nat × Nat)} (h : NS w0 v E w) (hg : w.grownBy w' none) : NS w0 v E w' :=
  ⟨own_kept h.own hg, fun p hp => ⟨(h.each p hp).1, (h.each p hp).2.1, (h.each p hp).2.2.1.stay hg, (h.each p hp).2.2.2⟩, gb_trans h.grown hg⟩
theorem byte_other {w : World} {base n g c : Nat} {v : Value} {xs : List Value} (h : w.ownsRow base 22 1 v n xs) (hb : BB w g c) : v.ownBlock = none ∨ v.ownBlock ≠ some g := by
  rcases h.2 with ⟨rfl, _⟩ | ⟨g', c', cur, rfl, _, hg', _⟩
  · exact Or.inl rfl
  · refine Or.inr fun e => ?_
    have e1 : g' = g := by simpa [Value.ownBlock] using e
    subst e1
    obtain ⟨l, _, _, hk⟩ := hb
    unfold Blk at hk
    rw [hk] at hg'
    have := (Obj.cells.inj (Option.some.inj hg')).2.1
    exact absurd this (by decide)
theorem NS.row {w0 w w' : World} {v : Value} {E : List (Nat × Nat)} {g c : Nat} (h : NS w0 v E w) (hg : w.grownBy w' (some g)) (hb : BB w g c) (hlo : w0.heap.size ≤ g) (hr : ∀ i k, BB w i k → BB w' i k) : NS w0 v E w' :=
  ⟨h.own.kept hg (byte_other h.own hb), fun p hp => ⟨(h.each p hp).1, (h.each p hp).2.1, hr _ _ (h.each p hp).2.2.1, (h.each p hp).2.2.2⟩, gb_then h.grown hg hlo⟩
/-- what holds throughout: the rows, and 66 bytes more -/
structure NB (w0 : World) (v : Value) (E : List (Nat × Nat)) (F : Nat) (w : World) : Prop where
  ns : NS w0 v E w
  full : BB w F 66
  lo : w0.heap.size ≤ F
theorem NB.stay {w0 w w' : World} {v : Value} {E : List (Nat × Nat)} {F : Nat} (h : NB w0 v E F w) (hg : w.grownBy w' none) : NB w0 v E F w' := ⟨h.ns.stay hg, h.full.stay hg, h.lo⟩
theorem NB.row {w0 w w' : World} {v : Value} {E : List (Nat × Nat)} {F g c : Nat} (h : NB w0 v E F w) (hg : w.grownBy w' (some g)) (hb : BB w g c) (hlo : w0.heap.size ≤ g) (hr : ∀ i k, BB w i k → BB w' i k) : NB w0 v E F w' := ⟨h.ns.row hg hb hlo hr, hr _ _ h.full, h.lo⟩
theorem km_none {w0 w w' : World} {v : Value} {E : List (Nat × Nat)} {F : Nat} (hg : w.grownBy w' none) : KM (NB w0 v E F) w w' := KM.of (fun h => h.stay hg) hg
theorem km_row {w0 w w' : World} {v : Value} {E : List (Nat × Nat)} {F g c : Nat} (hg : w.grownBy w' (some g)) (hb : BB w g c) (hlo : w0.heap.size ≤ g) (hr : ∀ i k, BB w i k → BB w' i k) : KM (NB w0 v E F) w w' := ⟨fun h => h.row hg hb hlo hr, hr⟩
/-- the law calls of any such rows -/
theorem ns_muls {w : World} (hT : OTab w) (n1 n2 n3 g1 g2 g3 c1 c2 c3 : Nat) (h1 : BB w g1 c1) (h2 : BB w g2 c2) (h3 : BB w g3 c3) (k1 : n1 ≤ c1) (k2 : n2 ≤ c2) (k3 : n3 ≤ c3) (m1 : c1 ≤ maxLen) (m2 : c2 ≤ maxLen) (m3 : c3 ≤ maxLen) :
    Calls Tryz.prog 4 #[.slice (some ⟨g1, 0, none⟩) n1 c1, .slice (some ⟨g2, 0, none⟩) n2 c2, .slice (some ⟨g3, 0, none⟩) n3 c3] w fun e w' => e = .returned (.bool true) ∧ w.grownBy w' none := by
  obtain ⟨x, hx, hA⟩ := h1.bytes k1 m1
  obtain ⟨y, hy, hB⟩ := h2.bytes k2 m2
  obtain ⟨z, hz, hC⟩ := h3.bytes k3 m3
  exact muls_any marks_kit n1 n2 n3 c1 c2 c3 _ _ _ _ _ _ x y z w hT hx hy hz hA hB hC
theorem ns_reds {w : World} (hT : OTab w) (n g c : Nat) (h : BB w g c) (k : n ≤ c) (m : c ≤ maxLen) :
    Calls Tryz.prog 3 #[.slice (some ⟨g, 0, none⟩) n c] w fun e w' => e = .returned (.bool true) ∧ w.grownBy w' none := by
  obtain ⟨x, hx, hA⟩ := h.bytes k m
  exact reds_any marks_kit Ft.marksT_kit n c _ _ x w hT hx hA
theorem NS.at {w0 w : World} {gv cv n : Nat} {E : List (Nat × Nat)} (h : NS w0 (.slice (some ⟨gv, 0, none⟩) n cv) E w) (hn : E.length = n) (i : Nat) (hi : i < n) : w.cell? ⟨gv, i, none⟩ = some (.slice (some ⟨(E.getD i (0, 0)).1, 0, none⟩) 32 (E.getD i (0, 0)).2) ∧ 32 ≤ (E.getD i (0, 0)).2 ∧ (E.getD i (0, 0)).2 ≤ 66 ∧ BB w (E.getD i (0, 0)).1 (E.getD i (0, 0)).2 ∧ w0.heap.size ≤ (E.getD i (0, 0)).1 := by
  subst hn
  have hg : E[i]? = some (E.getD i (0, 0)) := by rw [List.getD_eq_getElem?_getD, List.getElem?_eq_getElem hi]; rfl
  refine ⟨own_cell h.own (by rw [List.getElem?_map, hg]; rfl), ?_⟩
  exact h.each _ (List.mem_of_getElem? hg)
/-- rows appended -/
theorem NS.push {w0 w : World} {v : Value} {E : List (Nat × Nat)} (h : NS w0 v E w) (X : Nat) (N : List (Nat × Nat)) (h0 : 0 < N.length) (hX : ∀ j u, (N.map elV)[j]? = some u → w.cell? ⟨X, 0 + j, none⟩ = some u) (hN : ∀ p ∈ N, 32 ≤ p.2 ∧ p.2 ≤ 66 ∧ BB w p.1 p.2 ∧ w0.heap.size ≤ p.1) (hl : E.length + N.length ≤ 1000) :
    ∃ v' w', (Builtin.append_ #[31, 31] 31 #[v, .slice (some ⟨X, 0, none⟩) N.length N.length]).run Tryz.prog w = .ok v' w' ∧ NS w0 v' (E ++ N) w' ∧ (∀ g c, BB w g c → BB w' g c) := by
  obtain ⟨v', w', hr, ho, hg, _⟩ := append_rowsN w w0.heap.size E.length N.length X v (E.map elV) (N.map elV) h.own (List.length_map _) h0 hX (fun u hu => by obtain ⟨p, _, rfl⟩ := List.mem_map.1 hu; rfl) (by omega) h.grown.size
  have hr2 : ∀ g c, BB w g c → BB w' g c := fun g c hb => by
    cases hv : v.ownBlock with
    | none => rw [hv] at hg; exact hb.stay hg
    | some T =>
      rw [hv] at hg
      refine hb.beside hg fun e => ?_
      subst e
      rcases byte_other h.own hb with h1 | h1
      · rw [hv] at h1; cases h1
      · exact h1 hv
  refine ⟨v', w', hr, ⟨by rw [List.length_append, List.map_append]; exact ho, fun p hp => ?_, own_gb h.grown h.own hg⟩, hr2⟩
  rcases List.mem_append.1 hp with hp | hp
  · exact ⟨(h.each p hp).1, (h.each p hp).2.1, hr2 _ _ (h.each p hp).2.2.1, (h.each p hp).2.2.2⟩
  · exact ⟨(hN p hp).1, (hN p hp).2.1, hr2 _ _ (hN p hp).2.2.1, (hN p hp).2.2.2⟩
end Sr
end Go.Proofs.YtmnlidfalhjghaaGreatDoor

/- A region that draws its order and ends, whatever the order, in ONE operation that waits for all others (a store, a call that writes); plus the runs of single operations as laws. No program is named here. -/
namespace Go.Proofs.YtmnlidfalhjghaaGreatDoor
open Go Go.RowKit
/-! ### blocks, by ranges -/
theorem Blk.range {w : World} {B : Nat} {T : TypeId} {L : List Value} (h : Blk w B T L) (o : Nat) (cs : List Value) (hL : (L.drop o).take cs.length = cs) : w.rangeAt B o cs := fun j v hv => by
  have hj : j < cs.length := (List.getElem?_eq_some_iff.1 hv).1
  refine h.cell ?_
  rw [← hL, List.getElem?_take_of_lt hj, List.getElem?_drop] at hv
  exact hv
theorem Blk.there {w : World} {B : Nat} {T : TypeId} {L : List Value} (h : Blk w B T L) (o n : Nat) (hn : o + n ≤ L.length) : w.there B o n := fun j hj => by
  have hlt : o + j < L.length := by omega
  exact ⟨by rw [h.cell (List.getElem?_eq_getElem hlt)]; rfl, h.free _⟩
/-- cells put over others, from o on -/
def over : List Value → Nat → List Value → List Value
  | L, _, [] => L
  | L, o, v :: r => over (L.set o v) (o + 1) r
theorem over_length : ∀ (cs L : List Value) (o : Nat), (over L o cs).length = L.length
  | [], _, _ => rfl
  | v :: r, L, o => by rw [over, over_length r]; simp
theorem over_eq : ∀ (cs L : List Value) (o : Nat), o + cs.length ≤ L.length → over L o cs = L.take o ++ cs ++ L.drop (o + cs.length)
  | [], L, o, _ => by rw [over]; simp
  | v :: r, L, o, h => by
    have hl : o < L.length := by simp at h; omega
    rw [over, over_eq r (L.set o v) (o + 1) (by simp at h ⊢; omega)]
    have e1 : (L.set o v).take (o + 1) = L.take o ++ [v] := by
      rw [List.take_set, List.take_succ_eq_append_getElem hl, List.set_append_right _ _ (by simp; omega)]
      simp [Nat.min_eq_left (Nat.le_of_lt hl)]
    have e2 : (L.set o v).drop (o + 1 + r.length) = L.drop (o + (v :: r).length) := by
      rw [List.drop_set_of_lt (by omega), List.length_cons]
      congr 1
      omega
    rw [e1, e2]
    simp
theorem over_all (cs L : List Value) (h : L.length = cs.length) : over L 0 cs = cs := by
  rw [over_eq cs L 0 (by omega)]
  simp [List.drop_eq_nil_of_le (show L.length ≤ cs.length by omega)]
theorem Blk.setCells : ∀ {cs : List Value} {w : World} {B : Nat} {T : TypeId} {L : List Value} (_ : Blk w B T L) (o : Nat), Blk (w.setCells B o cs) B T (over L o cs)
  | [], _, _, _, _, h, _ => h
  | v :: r, w, B, T, L, h, o => by
    rw [World.setCells]
    exact Blk.setCells (cs := r) (h.set o v) (o + 1)
theorem Blk.setAll {cs : List Value} {w : World} {B : Nat} {T : TypeId} {L : List Value} (h : Blk w B T L) (hl : L.length = cs.length) : Blk (w.setCells B 0 cs) B T cs := by
  have := h.setCells (cs := cs) 0
  rwa [over_all cs L hl] at this
theorem Blk.setCells_other : ∀ {cs : List Value} {w : World} {B C : Nat} {T : TypeId} {L : List Value} (_ : Blk w B T L) (o : Nat) (_ : C ≠ B), Blk (w.setCells C o cs) B T L
  | [], _, _, _, _, _, h, _, _ => h
  | v :: r, w, B, C, T, L, h, o, hne => by
    rw [World.setCells]
    exact Blk.setCells_other (cs := r) (h.other (a := ⟨C, o, none⟩) hne v) (o + 1) hne
theorem gb_setCells : ∀ {cs : List Value} {a w : World} {B : Nat} (_ : a.grownBy w (some B)) (o : Nat), a.grownBy (w.setCells B o cs) (some B)
  | [], _, _, _, h, _ => h
  | v :: r, a, w, B, h, o => by
    rw [World.setCells]
    exact gb_setCells (cs := r) (gb_set h o v) (o + 1)
theorem gb_setCells_new : ∀ {cs : List Value} {a w : World} {row : Option Nat} {B : Nat} (_ : a.grownBy w row) (_ : a.heap.size ≤ B) (o : Nat), a.grownBy (w.setCells B o cs) row
  | [], _, _, _, _, h, _, _ => h
  | v :: r, a, w, row, B, h, hB, o => by
    rw [World.setCells]
    exact gb_setCells_new (cs := r) (gb_set_new h (p := ⟨B, o, none⟩) hB v) hB (o + 1)
namespace Fg
/-- one of the first k operations yields slot d -/
def isDstTo (ops : Array Oper) (k d : Nat) : Bool := (List.range k).any fun j => (ops[j]?).bind (·.dst) == some d
/-- from k on the operations go in the text's order, and wait for all that stand ahead -/
def tailOk (ops : Array Oper) (k : Nat) : Bool := (List.range ops.size).all fun t => decide (t < k) || (List.range t).all fun j => (List.range (t + 1)).any fun i => decide (j < i) && ((ops[i]?).map fun o => waitsFor o j).getD false
/-- a pointer to a block that was made since, and what it has -/
def It.fresh (T : TypeId) (V : List Value) (n0 : Nat) : It := ⟨fun v w => ∃ N, v = .pointer (some ⟨N, 0, none⟩) ∧ n0 ≤ N ∧ Blk w N T V, fun _ _ _ ⟨N, e, hn, h⟩ hg => ⟨N, e, hn, h.grown hg (by simp)⟩⟩
/-- a slice of a block that was made since -/
def It.row (T : TypeId) (V : List Value) (n n0 : Nat) : It := ⟨fun v w => ∃ N, v = .slice (some ⟨N, 0, none⟩) n n ∧ n0 ≤ N ∧ Blk w N T V, fun _ _ _ ⟨N, e, hn, h⟩ hg => ⟨N, e, hn, h.grown hg (by simp)⟩⟩
/-- it stays whatever is written in block S -/
def It.Steady (S : Nat) (it : It) : Prop := ∀ v w w', it.p v w → w.grownBy w' (some S) → it.p v w'
theorem any_steady (S : Nat) : It.any.Steady S := fun _ _ _ _ _ => trivial
theorem val_steady (S : Nat) (x : Value) : (It.val x).Steady S := fun _ _ _ h _ => h
theorem fresh_steady {S n0 : Nat} (T : TypeId) (V : List Value) (h : S < n0) : (It.fresh T V n0).Steady S := fun _ _ _ ⟨N, e, hn, hb⟩ hg => ⟨N, e, hn, hb.grown hg (fun e => by have := Option.some.inj e; omega)⟩
theorem row_steady {S n0 : Nat} (T : TypeId) (V : List Value) (n : Nat) (h : S < n0) : (It.row T V n n0).Steady S := fun _ _ _ ⟨N, e, hn, hb⟩ hg => ⟨N, e, hn, hb.grown hg (fun e => by have := Option.some.inj e; omega)⟩
theorem its_steady {S : Nat} {L : List It} (hL : ∀ it ∈ L, it.Steady S) {w w' : World} (hg : w.grownBy w' (some S)) (d : Nat) (v : Value) (h : its L d v w) : its L d v w' := by
  unfold its at *
  by_cases hd : d < L.length
  · rw [List.getD_eq_getElem?_getD, List.getElem?_eq_getElem hd] at *
    exact hL _ (List.getElem_mem hd) v w w' h hg
  · rw [List.getD_eq_getElem?_getD, List.getElem?_eq_none (by omega)] at *
    trivial
section
variable {P : Program} {ops : Array Oper} {Q : Exit → Act → World → Prop} {L : List It} {B : World → Prop} {a0 : Act} {ps : List Nat}
structure AtP (k : Nat) (ps : List Nat) (L : List It) (B : World → Prop) (a0 : Act) (ops : Array Oper) (o : Oper) (a : Act) (w : World) : Prop where
  base : B w
  size : a.tmps.size = a0.tmps.size
  ptrs : PtrsApart ps a w
  rest : ∀ d, isDstTo ops k d = false → a.tmps.getD d undef = a0.tmps.getD d undef
  dep : ∀ d, waits ops o d = true → its L d (a.tmps.getD d undef) w
def PostP (ps : List Nat) (L : List It) (B : World → Prop) (o : Oper) (a : Act) (w : World) (v : Value) (w' : World) : Prop :=
  B w' ∧ (∀ d u, its L d u w → its L d u w') ∧ PtrsApart ps (a.put o.dst v) w' ∧ ∀ d, o.dst = some d → its L d v w'
def StepP (k : Nat) (ps : List Nat) (P : Program) (Q : Exit → Act → World → Prop) (L : List It) (B : World → Prop) (a0 : Act) (ops : Array Oper) (i : Nat) (o : Oper) : Prop :=
  ∀ a w, AtP k ps L B a0 ops o a w → ops[i]? = some o → wpOp P ops Q i (fun a' w' => ∃ v, a' = a.put o.dst v ∧ PostP ps L B o a w v w') a w
theorem not_in {d : Nat} (h : (ps.all fun s => s != d) = true) : ∀ s ∈ ps, (some d : Option Tmp) ≠ some s := fun s hs e => by
  have := (List.all_eq_true.1 h) s hs
  rw [Option.some.inj e] at this
  simp at this
theorem stepValue {k i : Nat} {o : Oper} {d : Nat} (hd : o.dst = some d) (h : ∀ a w, AtP k ps L B a0 ops o a w → Wants ops o a ∧ ∃ v w', (execOp a.eval o).run P w = .ok (.value v) w' ∧ B w' ∧ (∀ d u, its L d u w → its L d u w') ∧ PtrsApart ps (a.put (some d) v) w' ∧ its L d v w') : StepP k ps P Q L B a0 ops i o := by
  intro a w hF hi
  obtain ⟨hw, v, w', hr, hB, hRG, hP, hG⟩ := h a w hF
  unfold Wants at hw
  unfold wpOp
  simp only [hi, hw, if_true]
  refine Or.inl ?_
  unfold Oper.wp
  rw [hr]
  exact ⟨v, rfl, hB, hRG, by rw [hd]; exact hP, fun d' e => by rw [hd] at e; cases e; exact hG⟩
theorem stepCall {k i : Nat} {o : Oper} {d : Nat} (hd : o.dst = some d)
    (h : ∀ a w, AtP k ps L B a0 ops o a w → Wants ops o a ∧ ∃ f args, (execOp a.eval o).run P w = .ok (.enter f args) w ∧ Calls P f args w fun e w' => ∃ v, e = .returned v ∧ B w' ∧ (∀ d u, its L d u w → its L d u w') ∧ PtrsApart ps (a.put (some d) v) w' ∧ its L d v w') : StepP k ps P Q L B a0 ops i o := by
  intro a w hF hi
  obtain ⟨hw, f, args, hr, hc⟩ := h a w hF
  unfold Wants at hw
  unfold wpOp
  simp only [hi, hw, if_true]
  refine Or.inl ?_
  unfold Oper.wp
  rw [hr]
  refine Calls.mono hc fun e w' he => ?_
  obtain ⟨v, rfl, hB, hRG, hP, hG⟩ := he
  exact ⟨v, rfl, hB, hRG, by rw [hd]; exact hP, fun d' e => by rw [hd] at e; cases e; exact hG⟩
theorem valueP {k i : Nat} {o : Oper} {d : Nat} (hBs : ∀ w w', B w → w.grownBy w' none → B w') (hd : o.dst = some d) (hps : (ps.all fun s => s != d) = true)
    (h : ∀ a w, AtP k ps L B a0 ops o a w → Wants ops o a ∧ ∃ v w', (execOp a.eval o).run P w = .ok (.value v) w' ∧ w.grownBy w' none ∧ its L d v w') : StepP k ps P Q L B a0 ops i o :=
  stepValue hd fun a w hF => by
    obtain ⟨hw, v, w', hr, hg, hG⟩ := h a w hF
    exact ⟨hw, v, w', hr, hBs _ _ hF.base hg, fun d u => its_grown hg d u, ptrs_put hF.ptrs hg.size (not_in hps), hG⟩
theorem allocP {k i : Nat} {o : Oper} {d : Nat} (hBs : ∀ w w', B w → w.grownBy w' none → B w') (hd : o.dst = some d) (hlt : d < a0.tmps.size)
    (h : ∀ a w, AtP k ps L B a0 ops o a w → Wants ops o a ∧ ∃ w', (execOp a.eval o).run P w = .ok (.value (.pointer (some ⟨w.heap.size, 0, none⟩))) w' ∧ w.grownBy w' none ∧ w.heap.size < w'.heap.size ∧ its L d (.pointer (some ⟨w.heap.size, 0, none⟩)) w') : StepP k ps P Q L B a0 ops i o :=
  stepValue hd fun a w hF => by
    obtain ⟨hw, w', hr, hg, hs, hG⟩ := h a w hF
    exact ⟨hw, _, w', hr, hBs _ _ hF.base hg, fun d u => its_grown hg d u, ptrs_new hF.ptrs hs (by rw [hF.size]; exact hlt), hG⟩
theorem callP {k i : Nat} {o : Oper} {d : Nat} (hBs : ∀ w w', B w → w.grownBy w' none → B w') (hd : o.dst = some d) (hps : (ps.all fun s => s != d) = true)
    (h : ∀ a w, AtP k ps L B a0 ops o a w → Wants ops o a ∧ ∃ f args, (execOp a.eval o).run P w = .ok (.enter f args) w ∧ Calls P f args w fun e w' => ∃ v, e = .returned v ∧ w.grownBy w' none ∧ its L d v w') : StepP k ps P Q L B a0 ops i o :=
  stepCall hd fun a w hF => by
    obtain ⟨hw, f, args, hr, hc⟩ := h a w hF
    refine ⟨hw, f, args, hr, hc.mono fun e w' he => ?_⟩
    obtain ⟨v, rfl, hg, hG⟩ := he
    exact ⟨v, rfl, hBs _ _ hF.base hg, fun d u => its_grown hg d u, ptrs_put hF.ptrs hg.size (not_in hps), hG⟩
theorem skippedP {k i : Nat} {o : Oper} {d : Nat} (hd : o.dst = some d) (hps : (ps.all fun s => s != d) = true) (hG : ∀ w, its L d undef w)
    (h : ∀ a w, AtP k ps L B a0 ops o a w → Region.wanted o (yielded ops a.tmps) = false) : StepP k ps P Q L B a0 ops i o := by
  intro a w hF hi
  have hw := h a w hF
  unfold wpOp
  simp only [hi, hw]
  exact ⟨undef, rfl, hF.base, fun _ _ h => h, ptrs_put hF.ptrs (Nat.le_refl _) (fun s hs e => not_in hps s hs (hd ▸ e)), fun d' e => by rw [hd] at e; cases e; exact hG w⟩
structure FlowS (ps : List Nat) (L : List It) (B : World → Prop) (a0 : Act) (ops : Array Oper) (k : Nat) (listed : Array Bool) (a : Act) (w : World) : Prop where
  base : B w
  size : a.tmps.size = a0.tmps.size
  defers : a.defers = a0.defers
  rest : ∀ d, isDstTo ops k d = false → a.tmps.getD d undef = a0.tmps.getD d undef
  slots : ∀ j oj d, ops[j]? = some oj → listed.getD j false = true → oj.dst = some d → its L d (a.tmps.getD d undef) w
  closed : ∀ j oj, ops[j]? = some oj → listed.getD j false = true → ∀ e ∈ oj.after, Region.binds .any e = true → listed.getD e.on false = true
  notk : ∀ j, k ≤ j → listed.getD j false = false
  ptrs : PtrsApart ps a w
def StepsS (k : Nat) (ps : List Nat) (P : Program) (Q : Exit → Act → World → Prop) (L : List It) (B : World → Prop) (a0 : Act) (ops : Array Oper) : Nat → List Oper → Prop
  | _, [] => True
  | i, o :: r => ((∃ d, o.dst = some d) ∧ StepP k ps P Q L B a0 ops i o) ∧ StepsS k ps P Q L B a0 ops (i + 1) r
theorem stepsS_get {k : Nat} : ∀ (l : List Oper) (i j : Nat) (o : Oper), StepsS k ps P Q L B a0 ops i l → l[j]? = some o → (∃ d, o.dst = some d) ∧ StepP k ps P Q L B a0 ops (i + j) o := by
  intro l
  induction l with
  | nil => intro i j o h hk; simp at hk
  | cons x r ih =>
    intro i j o h hk
    cases j with
    | zero => simp at hk; subst hk; exact h.1
    | succ j => have := ih (i + 1) j o h.2 (by simpa using hk); rwa [show i + (j + 1) = i + 1 + j by omega]
theorem inn {j : Nat} {oj : Oper} (hj : ops[j]? = some oj) : j < ops.size := by
  rcases Nat.lt_or_ge j ops.size with h' | h'
  · exact h'
  · rw [Array.getElem?_eq_none h'] at hj; cases hj
/-- one of the tail is ready: all ahead of it are done -/
theorem tail_all {k t : Nat} {listed : Array Bool} (htl : tailOk ops k = true) (ht : k ≤ t) (hr : t ∈ Region.ready .any ops listed)
    (closed : ∀ j oj, ops[j]? = some oj → listed.getD j false = true → ∀ e ∈ oj.after, Region.binds .any e = true → listed.getD e.on false = true) : ∀ j, j < t → listed.getD j false = true := by
  obtain ⟨_, o, hoi, hall⟩ := mem_ready.1 hr
  have h1 := (List.all_eq_true.1 htl) t (List.mem_range.2 (inn hoi))
  simp only [Bool.or_eq_true, decide_eq_true_eq, Nat.not_lt.2 ht, false_or] at h1
  have go : ∀ n j, j < t → t - j ≤ n → listed.getD j false = true := by
    intro n
    induction n with
    | zero => intro j hj hn; omega
    | succ n ihn =>
      intro j hj hn
      have h2 := (List.all_eq_true.1 h1) j (List.mem_range.2 hj)
      obtain ⟨m, hm, h3⟩ := List.any_eq_true.1 h2
      simp only [Bool.and_eq_true, decide_eq_true_eq] at h3
      have hm' := List.mem_range.1 hm
      obtain ⟨hjm, h3⟩ := h3
      cases hg : ops[m]? with
      | none => rw [hg] at h3; cases h3
      | some om =>
        rw [hg] at h3
        simp only [Option.map_some, Option.getD_some] at h3
        obtain ⟨q, hq, hb⟩ := Array.any_eq_true.1 h3
        simp only [Bool.and_eq_true, beq_iff_eq] at hb
        by_cases hmt : m = t
        · subst hmt
          rw [hg] at hoi
          cases hoi
          have := hall _ (Array.getElem_mem hq) hb.1
          rwa [hb.2] at this
        · have := closed m _ hg (ihn m (by omega) (by omega)) _ (Array.getElem_mem hq) hb.1
          rwa [hb.2] at this
  exact fun j hj => go _ j hj (Nat.le_refl _)
theorem wpOp_of_list {k : Nat} {o : Oper} {r : List Oper} {a : Act} {w : World} (hk : ops[k]? = some o) (h : wpList P ops Q (o :: r) a w) : wpOp P ops Q k (wpList P ops Q r) a w := by
  unfold wpOp
  simp only [hk]
  exact h
theorem tail_any {k0 : Nat} (ht : topo ops = true) (htl : tailOk ops k0 = true) : ∀ (m k fuel : Nat) (listed : Array Bool) (a : Act) (w : World), k0 ≤ k → ops.size = k + m → m ≤ fuel → listed.size = ops.size →
    (∀ j, j < k → listed.getD j false = true) → (∀ j, k ≤ j → listed.getD j false = false) → wpList P ops Q (ops.toList.drop k) a w → wpAny P .any ops Q fuel listed a w := by
  intro m
  induction m with
  | zero =>
    intro k fuel listed a w hk hs hf hls hall hnot h
    have hd : ops.toList.drop k = [] := List.drop_eq_nil_of_le (by simp; omega)
    rw [hd] at h
    have hr : Region.ready .any ops listed = [] := by
      cases hc : Region.ready .any ops listed with
      | nil => rfl
      | cons x r =>
        obtain ⟨h0, o, hoi, _⟩ := mem_ready.1 (show x ∈ Region.ready .any ops listed by rw [hc]; exact List.mem_cons_self ..)
        have hx := hall x (by have := inn hoi; omega)
        have hlt : x < listed.size := by rw [hls]; exact inn hoi
        simp [hlt] at h0 hx
        rw [h0] at hx
        cases hx
    cases fuel with
    | zero => exact ⟨hr, h⟩
    | succ f => exact ⟨fun _ => h, fun i hi => by rw [hr] at hi; cases hi⟩
  | succ m ih =>
    intro k fuel listed a w hk hs hf hls hall hnot h
    obtain ⟨f, rfl⟩ : ∃ f, fuel = f + 1 := ⟨fuel - 1, by omega⟩
    have hks : k < ops.size := by omega
    have closed : ∀ j oj, ops[j]? = some oj → listed.getD j false = true → ∀ e ∈ oj.after, Region.binds .any e = true → listed.getD e.on false = true := by
      intro j oj hj hl e he hb
      have ht1 := (List.all_eq_true.1 ht) j (List.mem_range.2 (inn hj))
      rw [hj] at ht1
      simp only [Option.map_some, Option.getD_some] at ht1
      have ht2 := (Array.all_eq_true_iff_forall_mem.1 ht1) _ he
      simp only [hb, Bool.not_true, Bool.false_or, decide_eq_true_eq] at ht2
      have hjk : j < k := by
        rcases Nat.lt_or_ge j k with h' | h'
        · exact h'
        · rw [hnot j h'] at hl; cases hl
      exact hall _ (by omega)
    refine ⟨fun hr => ?_, fun i hi => ?_⟩
    · have := all_listed ht hls hr k hks
      rw [hnot k (Nat.le_refl _)] at this
      cases this
    · obtain ⟨h0, o, hoi, _⟩ := mem_ready.1 hi
      have hik : i = k := by
        rcases Nat.lt_trichotomy i k with h' | h' | h'
        · have hx := hall i h'
          have hlt : i < listed.size := by rw [hls]; exact inn hoi
          simp [hlt] at h0 hx
          rw [h0] at hx
          cases hx
        · exact h'
        · have := tail_all htl (by omega) hi closed k h'
          rw [hnot k (Nat.le_refl _)] at this
          cases this
      subst hik
      have hd : ops.toList.drop i = o :: ops.toList.drop (i + 1) := by
        rw [List.drop_eq_getElem_cons (by simpa using hks)]
        congr 1
        rw [Array.getElem?_eq_getElem hks] at hoi
        simpa using Option.some.inj hoi
      rw [hd] at h
      refine wpOp_mono (fun a' w' h' => ?_) (wpOp_of_list hoi h)
      refine ih (i + 1) f _ a' w' (by omega) (by omega) (by omega) (by simpa using hls) (fun j hj => ?_) (fun j hj => ?_) h'
      · by_cases e : i = j
        · subst e
          have hlt : i < listed.size := by rw [hls]; exact hks
          simp [hlt]
        · rw [getD_set_ne false e]; exact hall j (by omega)
      · rw [getD_set_ne false (by omega)]; exact hnot j (by omega)
theorem flowS_any {k : Nat} (ht : topo ops = true) (ho : once (ops.extract 0 k) a0.tmps.size = true) (htl : tailOk ops k = true) (hk : k ≤ ops.size)
    (steps : StepsS k ps P Q L B a0 ops 0 (ops.toList.take k))
    (fin : ∀ a w, B w → a.tmps.size = a0.tmps.size → a.defers = a0.defers → (∀ d, isDstTo ops k d = false → a.tmps.getD d undef = a0.tmps.getD d undef) →
      (∀ d, isDstTo ops k d = true → its L d (a.tmps.getD d undef) w) → PtrsApart ps a w → wpList P ops Q (ops.toList.drop k) a w) :
    ∀ (fuel : Nat) (listed : Array Bool) (a : Act) (w : World), listed.size = ops.size → unlisted ops listed ≤ fuel → FlowS ps L B a0 ops k listed a w → wpAny P .any ops Q fuel listed a w := by
  have toTail : ∀ (fuel : Nat) (listed : Array Bool) (a : Act) (w : World), listed.size = ops.size → ops.size - k ≤ fuel → FlowS ps L B a0 ops k listed a w → (∀ j, j < k → listed.getD j false = true) → wpAny P .any ops Q fuel listed a w := by
    intro fuel listed a w hs hf hF hall
    refine tail_any ht htl (ops.size - k) k fuel listed a w (Nat.le_refl _) (by omega) hf hs hall hF.notk (fin a w hF.base hF.size hF.defers hF.rest (fun d hd => ?_) hF.ptrs)
    obtain ⟨j, hj, hb⟩ := List.any_eq_true.1 hd
    have hjk := List.mem_range.1 hj
    have hg : ops[j]? = some ops[j] := Array.getElem?_eq_getElem (by omega)
    rw [hg] at hb
    exact hF.slots j _ d hg (hall j hjk) (by simpa using hb)
  have hcount : ∀ (listed : Array Bool), (∀ j, k ≤ j → listed.getD j false = false) → listed.size = ops.size → ops.size - k ≤ unlisted ops listed := by
    intro listed hn hs
    unfold unlisted
    have hsub : (List.range' k (ops.size - k)).length ≤ ((List.range ops.size).filter fun i => !listed.getD i true).length := by
      have hp : List.Sublist (List.range' k (ops.size - k)) ((List.range ops.size).filter fun i => !listed.getD i true) := by
        have h1 : List.Sublist (List.range' k (ops.size - k)) (List.range ops.size) := by
          have e : List.range ops.size = List.range' 0 k ++ List.range' k (ops.size - k) := by
            rw [List.range_eq_range', show ops.size = k + (ops.size - k) by omega, ← List.range'_append_1]
            simp
          rw [e]
          exact List.sublist_append_right _ _
        have h2 := h1.filter fun i => !listed.getD i true
        have h3 : (List.range' k (ops.size - k)).filter (fun i => !listed.getD i true) = List.range' k (ops.size - k) := by
          rw [List.filter_eq_self]
          intro x hx
          have hx' := List.mem_range'_1.1 hx
          have := hn x hx'.1
          have hlt : x < listed.size := by omega
          simp [hlt] at this ⊢
          exact this
        rwa [h3] at h2
      exact hp.length_le
    simpa using hsub
  intro fuel
  induction fuel with
  | zero =>
    intro listed a w hs hu hF
    have hc := hcount listed hF.notk hs
    refine toTail 0 listed a w hs (by omega) hF (fun j hj => ?_)
    have hr : Region.ready .any ops listed = [] := by
      cases hc : Region.ready .any ops listed with
      | nil => rfl
      | cons x r =>
        have := unlisted_lt (ops := ops) (listed := listed) (i := x) (by rw [hc]; exact List.mem_cons_self ..)
        omega
    exact all_listed ht hs hr j (by omega)
  | succ fuel ih =>
    intro listed a w hs hu hF
    by_cases hdone : ∀ j, j < k → listed.getD j false = true
    · have hc := hcount listed hF.notk hs
      exact toTail (fuel + 1) listed a w hs (by omega) hF hdone
    refine ⟨fun hr => ?_, fun i hi => ?_⟩
    · exact absurd (fun j hj => all_listed ht hs hr j (by omega)) hdone
    obtain ⟨h0, o, hoi, hall⟩ := mem_ready.1 hi
    have hik : i < k := by
      rcases Nat.lt_or_ge i k with h' | h'
      · exact h'
      · exact absurd (fun j hj => tail_all htl h' hi hF.closed j (by omega)) hdone
    have hst := stepsS_get (ops.toList.take k) 0 i o steps (by rw [List.getElem?_take_of_lt hik, Array.getElem?_toList]; exact hoi)
    rw [Nat.zero_add] at hst
    obtain ⟨⟨d, hd⟩, hst⟩ := hst
    have hex : ∀ j, j < k → (ops.extract 0 k)[j]? = ops[j]? := fun j hj => by
      rw [Array.getElem?_extract_of_lt (by omega)]; simp
    have hat : AtP k ps L B a0 ops o a w := ⟨hF.base, hF.size, hF.ptrs, hF.rest, fun d hd => by
        obtain ⟨k, hk, hb⟩ := Array.any_eq_true.1 hd
        simp only [Bool.and_eq_true, beq_iff_eq] at hb
        have hl := hall _ (Array.getElem_mem hk) hb.1
        cases hx : ops[o.after[k].on]? with
        | none => rw [hx] at hb; cases hb.2
        | some oj => rw [hx] at hb; exact hF.slots _ oj d hx hl hb.2⟩
    refine wpOp_mono (fun a' w' h => ?_) (hst a w hat hoi)
    obtain ⟨v, rfl, hB, hRG, hPt, hG⟩ := h
    have hlt := unlisted_lt hi
    refine ih _ _ _ (by simpa using hs) (by omega) ⟨hB, ?_, ?_, ?_, ?_, ?_, ?_, hPt⟩
    · rw [← hF.size]; cases o.dst <;> simp [Act.put]
    · rw [← hF.defers]; cases o.dst <;> simp [Act.put]
    · intro d hd
      rw [← hF.rest d hd]
      have hne : o.dst ≠ some d := by
        intro e
        have : isDstTo ops k d = true := List.any_eq_true.2 ⟨i, List.mem_range.2 hik, by rw [hoi]; simpa using e⟩
        rw [hd] at this
        cases this
      exact put_getD hne
    · intro j oj d hj hl hd
      have hjk : j < k ∨ j = i := by
        by_cases e : i = j
        · exact Or.inr e.symm
        · rw [getD_set_ne false e] at hl
          rcases Nat.lt_or_ge j k with h' | h'
          · exact Or.inl h'
          · rw [hF.notk j h'] at hl; cases hl
      by_cases e : i = j
      · subst e
        rw [hoi] at hj
        cases hj
        have hd2 := once_lt ho ((hex i hik).trans hoi) hd
        rw [← hF.size] at hd2
        have hG := hG _ hd
        rw [hd]
        simpa [Act.put, hd2] using hG
      · rw [getD_set_ne false e] at hl
        have h1 := hF.slots j oj d hj hl hd
        have hv : (a.put o.dst v).tmps.getD d undef = a.tmps.getD d undef := by
          cases hod : o.dst with
          | none => rfl
          | some d' =>
            have := once_ne ho ((hex i hik).trans hoi) ((hex j (by omega)).trans hj) e hod
            rw [hd] at this
            simp [Act.put, Array.getElem?_setIfInBounds_ne (show d' ≠ d from fun e => this (by rw [e]))]
        rw [hv]
        exact hRG d _ h1
    · intro j oj hj hl e he hb
      by_cases ei : i = j
      · subst ei
        rw [hoi] at hj
        cases hj
        exact getD_set_true (hall e he hb)
      · rw [getD_set_ne false ei] at hl
        exact getD_set_true (hF.closed j oj hj hl e he hb)
    · intro j hj
      rw [getD_set_ne false (by omega)]; exact hF.notk j hj
/-- A REGION THAT DRAWS ITS ORDER, of which the operations from k on go as they stand. -/
theorem wp_region_tail {id : Nat} {w : World} (L : List It) (B : World → Prop) (k : Nat) (hB0 : B w.drew) (hm : P.follows .mixedOrders = true) (ht : topo ops = true) (ho : once (ops.extract 0 k) a0.tmps.size = true) (htl : tailOk ops k = true) (hk : k ≤ ops.size) (hps : PtrsApart ps a0 w.drew)
    (steps : StepsS k ps P Q L B a0 ops 0 (ops.toList.take k))
    (fin : ∀ a w', B w' → a.tmps.size = a0.tmps.size → a.defers = a0.defers → (∀ d, isDstTo ops k d = false → a.tmps.getD d undef = a0.tmps.getD d undef) →
      (∀ d, isDstTo ops k d = true → its L d (a.tmps.getD d undef) w') → PtrsApart ps a w' → wpList P ops Q (ops.toList.drop k) a w') : (Code.region id ops true).wp P Q a0 w :=
  wp_region_any hm (flowS_any ht ho htl hk steps fin ops.size _ a0 _ (by simp) (by unfold unlisted; exact Nat.le_trans (List.length_filter_le _ _) (by simp))
    ⟨hB0, rfl, rfl, fun _ _ => rfl, fun j oj d _ hl _ => by
      by_cases h : j < ops.size <;> simp [h] at hl, fun j oj _ hl => by
      by_cases h : j < ops.size <;> simp [h] at hl, fun j _ => by
      by_cases h : j < ops.size <;> simp [h], hps⟩)
theorem list_of_wpOp {k : Nat} {o : Oper} {r : List Oper} {a : Act} {w : World} (hk : ops[k]? = some o) (h : wpOp P ops Q k (wpList P ops Q r) a w) : wpList P ops Q (o :: r) a w := by
  unfold wpOp at h
  simp only [hk] at h
  exact h
/-- the same for a region in the text's order -/
theorem wp_region_plain {id : Nat} {w : World} (L : List It) (B : World → Prop) (k : Nat) (hB0 : B w) (ht : topo ops = true) (ho : once (ops.extract 0 k) a0.tmps.size = true) (hk : k ≤ ops.size) (hps : PtrsApart ps a0 w)
    (steps : StepsS k ps P Q L B a0 ops 0 (ops.toList.take k))
    (fin : ∀ a w', B w' → a.tmps.size = a0.tmps.size → a.defers = a0.defers → (∀ d, isDstTo ops k d = false → a.tmps.getD d undef = a0.tmps.getD d undef) →
      (∀ d, isDstTo ops k d = true → its L d (a.tmps.getD d undef) w') → PtrsApart ps a w' → wpList P ops Q (ops.toList.drop k) a w') : (Code.region id ops false).wp P Q a0 w := by
  refine wp_region_list ?_
  have go : ∀ (m i : Nat) (a : Act) (w' : World), i + m = k → B w' → a.tmps.size = a0.tmps.size → a.defers = a0.defers → (∀ d, isDstTo ops k d = false → a.tmps.getD d undef = a0.tmps.getD d undef) →
      (∀ j oj d, j < i → ops[j]? = some oj → oj.dst = some d → its L d (a.tmps.getD d undef) w') → PtrsApart ps a w' → wpList P ops Q (ops.toList.drop i) a w' := by
    intro m
    induction m with
    | zero =>
      intro i a w' hi hg hs hdf hr hsl hpt
      have hi' : i = k := by omega
      subst hi'
      refine fin a w' hg hs hdf hr (fun d hd => ?_) hpt
      obtain ⟨j, hj, hb⟩ := List.any_eq_true.1 hd
      have hjk := List.mem_range.1 hj
      have hgj : ops[j]? = some ops[j] := Array.getElem?_eq_getElem (by omega)
      rw [hgj] at hb
      exact hsl j _ d hjk hgj (by simpa using hb)
    | succ m ih =>
      intro i a w' hi hg hs hdf hr hsl hpt
      have hik : i < k := by omega
      have hil : i < ops.size := by omega
      have hoi : ops[i]? = some ops[i] := Array.getElem?_eq_getElem hil
      have hst := stepsS_get (ops.toList.take k) 0 i ops[i] steps (by rw [List.getElem?_take_of_lt hik, Array.getElem?_toList]; exact hoi)
      rw [Nat.zero_add] at hst
      obtain ⟨⟨d, hd⟩, hst⟩ := hst
      have hex : ∀ j, j < k → (ops.extract 0 k)[j]? = ops[j]? := fun j hj => by
        rw [Array.getElem?_extract_of_lt (by omega)]; simp
      have hat : AtP k ps L B a0 ops ops[i] a w' := ⟨hg, hs, hpt, hr, fun d hd => by
          obtain ⟨q, hq, hb⟩ := Array.any_eq_true.1 hd
          simp only [Bool.and_eq_true, beq_iff_eq] at hb
          have ht1 := (List.all_eq_true.1 ht) i (List.mem_range.2 hil)
          rw [hoi] at ht1
          simp only [Option.map_some, Option.getD_some] at ht1
          have ht2 := (Array.all_eq_true_iff_forall_mem.1 ht1) _ (Array.getElem_mem hq)
          simp only [hb.1, Bool.not_true, Bool.false_or, decide_eq_true_eq] at ht2
          cases hx : ops[ops[i].after[q].on]? with
          | none => rw [hx] at hb; cases hb.2
          | some oj => rw [hx] at hb; exact hsl _ oj d ht2 hx hb.2⟩
      have hdr : ops.toList.drop i = ops[i] :: ops.toList.drop (i + 1) := by
        rw [List.drop_eq_getElem_cons (by simpa using hil)]
        simp
      rw [hdr]
      refine list_of_wpOp hoi (wpOp_mono (fun a' w'' h => ?_) (hst a w' hat hoi))
      obtain ⟨v, rfl, hB, hRG, hPt, hG⟩ := h
      refine ih (i + 1) _ _ (by omega) hB ?_ ?_ ?_ ?_ hPt
      · rw [← hs]; cases ops[i].dst <;> simp [Act.put]
      · rw [← hdf]; cases ops[i].dst <;> simp [Act.put]
      · intro d hd
        rw [← hr d hd]
        have hne : ops[i].dst ≠ some d := by
          intro e
          have : isDstTo ops k d = true := List.any_eq_true.2 ⟨i, List.mem_range.2 hik, by rw [hoi]; simpa using e⟩
          rw [hd] at this
          cases this
        exact put_getD hne
      · intro j oj d' hj hgj hd'
        by_cases e : i = j
        · subst e
          rw [hoi] at hgj
          cases hgj
          have hd2 := once_lt ho ((hex i hik).trans hoi) hd'
          rw [← hs] at hd2
          have hG := hG _ hd'
          rw [hd']
          simpa [Act.put, hd2] using hG
        · have h1 := hsl j oj d' (by omega) hgj hd'
          have hv : (a.put ops[i].dst v).tmps.getD d' undef = a.tmps.getD d' undef := by
            cases hod : ops[i].dst with
            | none => rfl
            | some d'' =>
              have := once_ne ho ((hex i hik).trans hoi) ((hex j (by omega)).trans hgj) e hod
              rw [hd'] at this
              simp [Act.put, Array.getElem?_setIfInBounds_ne (show d'' ≠ d' from fun e => this (by rw [e]))]
          rw [hv]
          exact hRG d' _ h1
  have := go k 0 a0 w (by omega) hB0 rfl rfl (fun _ _ => rfl) (fun j _ _ hj => by omega) hps
  simpa using this
theorem ptrs_undef {a : Act} {w : World} (h : (ps.all fun s => match a.tmps.getD s undef with | .pointer _ => false | _ => true) = true) : PtrsApart ps a w := fun s hs C e => by
  have := (List.all_eq_true.1 h) s hs
  rw [e] at this
  cases this
/-- values of which those that are pointers go to blocks that are there, all apart -/
def ApartV (l : List Value) (w : World) : Prop := ∀ (i C : Nat), l[i]? = some (.pointer (some ⟨C, 0, none⟩)) → C < w.heap.size ∧ ∀ (j : Nat), j ≠ i → l[j]? ≠ some (.pointer (some ⟨C, 0, none⟩))
theorem ptrs_of {a : Act} {w : World} {l : List Value} (hl : l = ps.map fun s => a.tmps.getD s undef) (h : ApartV l w) : PtrsApart ps a w := by
  subst hl
  intro s hs C e
  obtain ⟨i, hi, rfl⟩ := List.mem_iff_getElem.1 hs
  have hg : (ps.map fun s => a.tmps.getD s undef)[i]? = some (.pointer (some ⟨C, 0, none⟩)) := by
    rw [List.getElem?_map, List.getElem?_eq_getElem hi, Option.map_some, e]
  refine ⟨(h i C hg).1, fun t ht hne e2 => ?_⟩
  obtain ⟨j, hj, rfl⟩ := List.mem_iff_getElem.1 ht
  refine (h i C hg).2 j (fun e3 => hne (by subst e3; rfl)) ?_
  rw [List.getElem?_map, List.getElem?_eq_getElem hj, Option.map_some, e2]
theorem apart_undef (l : List Value) (w : World) (h : (l.all fun v => match v with | .pointer _ => false | _ => true) = true) : ApartV l w := fun i C e => by
  have := (List.all_eq_true.1 h) _ (List.mem_of_getElem? e)
  cases this
theorem apart_one {N : Nat} {w : World} (h : N < w.heap.size) : ApartV [.pointer (some ⟨N, 0, none⟩)] w := fun i C e => by
  match i, e with
  | 0, e =>
    cases e
    refine ⟨h, fun j hj => ?_⟩
    match j, hj with
    | j + 1, _ => simp
theorem apart_three {A B C : Nat} {w : World} (a : A < w.heap.size) (b : B < w.heap.size) (c : C < w.heap.size) (ab : A ≠ B) (ac : A ≠ C) (bc : B ≠ C) : ApartV [.pointer (some ⟨A, 0, none⟩), .pointer (some ⟨B, 0, none⟩), .pointer (some ⟨C, 0, none⟩)] w := fun i X e => by
  match i, e with
  | 0, e =>
    cases e
    refine ⟨a, fun j hj => ?_⟩
    match j, hj with
    | 1, _ => simp <;> omega
    | 2, _ => simp <;> omega
    | j + 3, _ => simp
  | 1, e =>
    cases e
    refine ⟨b, fun j hj => ?_⟩
    match j, hj with
    | 0, _ => simp <;> omega
    | 2, _ => simp <;> omega
    | j + 3, _ => simp
  | 2, e =>
    cases e
    refine ⟨c, fun j hj => ?_⟩
    match j, hj with
    | 0, _ => simp <;> omega
    | 1, _ => simp <;> omega
    | j + 3, _ => simp
theorem ApartV.mono {l : List Value} {w w' : World} (h : ApartV l w) (hs : w.heap.size ≤ w'.heap.size) : ApartV l w' := fun i C e => ⟨Nat.lt_of_lt_of_le (h i C e).1 hs, (h i C e).2⟩
theorem apart_drew {l : List Value} {w : World} (h : ApartV l w) : ApartV l w.drew := h
/-- the next operation of a list -/
theorem wpl_value {o : Oper} {r : List Oper} {a : Act} {w w' : World} {v : Value} (hg : o.guard = none) (hr : (execOp a.eval o).run P w = .ok (.value v) w') (h : wpList P ops Q r (a.put o.dst v) w') : wpList P ops Q (o :: r) a w := by
  refine wpList_plain hg fun K hK => ?_
  unfold Oper.wp
  rw [hr]
  exact hK _ _ h
theorem wpl_skip {o : Oper} {r : List Oper} {a : Act} {w w' : World} (hg : o.guard = none) (hd : o.dst = none) (hr : (execOp a.eval o).run P w = .ok .skip w') (h : wpList P ops Q r a w') : wpList P ops Q (o :: r) a w := by
  refine wpList_plain hg fun K hK => ?_
  unfold Oper.wp
  rw [hr]
  have e : a.put o.dst undef = a := by rw [hd]; rfl
  show K (a.put o.dst undef) w'
  rw [e]
  exact hK _ _ h
theorem wpl_call {o : Oper} {r : List Oper} {a : Act} {w : World} {f : FuncId} {args : Array Value} (hg : o.guard = none) (hr : (execOp a.eval o).run P w = .ok (.enter f args) w)
    (hc : Calls P f args w fun e w' => ∃ v, e = .returned v ∧ wpList P ops Q r (a.put o.dst v) w') : wpList P ops Q (o :: r) a w := by
  refine wpList_plain hg fun K hK => ?_
  unfold Oper.wp
  rw [hr]
  refine Calls.mono hc fun e w' he => ?_
  obtain ⟨v, rfl, h⟩ := he
  exact hK _ _ h
/-! ### the run of one operation -/
theorem run_load {ρ : Operand → Value} {o : Oper} {w : World} {T : TypeId} {x : Operand} {b off : Nat} {cs : List Value} {d : TypeDesc} (ho : o.op = .load T x) (hx : ρ x = .pointer (some ⟨b, off, none⟩)) (hc : w.rangeAt b off cs)
    (hu : P.underlying T = some d) (hd : d.isRow = true) (hi : (P.info? T).map (·.size) = some cs.length) : (execOp ρ o).run P w = .ok (.value (.agg cs.toArray)) w := by
  unfold execOp
  simp only [ho, hx, Instr.loadAt, Instr.sureAddr, Sem.run_bind, Sem.run_pure, Result.andThen_ok, run_loadVar_mid w b off T cs d hc hu hd hi]
theorem run_store {ρ : Operand → Value} {o : Oper} {w : World} {T : TypeId} {x y : Operand} {b off : Nat} {cs : List Value} (ho : o.op = .store T x y) (hx : ρ x = .pointer (some ⟨b, off, none⟩)) (hy : ρ y = .agg cs.toArray)
    (ht : w.there b off cs.length) (hi : (P.info? T).map (·.size) = some cs.length) (h1 : cs.all (·.oneCell') = true) : (execOp ρ o).run P w = .ok .skip (w.setCells b off cs) := by
  unfold execOp
  simp only [ho, hx, hy, Instr.storeAt, Instr.sureAddr, Sem.run_bind, Sem.run_pure, Result.andThen_ok, run_storeVar_mid w b off T cs.toArray (by simpa using ht) (by simpa using hi) (by simpa using h1)]
theorem run_move {ρ : Operand → Value} {o : Oper} {w : World} {x : Operand} {v : Value} (ho : o.op = .move x) (hx : ρ x = v) : (execOp ρ o).run P w = .ok (.value v) w := by
  unfold execOp
  simp only [ho, hx, Sem.run_pure]
theorem run_assign {ρ : Operand → Value} {o : Oper} {w : World} {x : Operand} {v : Value} (ho : o.op = .assign x) (hx : ρ x = v) : (execOp ρ o).run P w = .ok (.value v) w := by
  unfold execOp
  simp only [ho, hx, Sem.run_pure]
theorem run_nilCheck {ρ : Operand → Value} {o : Oper} {w : World} {x : Operand} {p : Addr} (ho : o.op = .nilCheck x) (hx : ρ x = .pointer (some p)) : (execOp ρ o).run P w = .ok (.value (.pointer (some p))) w := by
  unfold execOp
  simp only [ho, hx, Sem.run_pure]
theorem run_fieldAddr {ρ : Operand → Value} {o : Oper} {w : World} {t : TypeId} {f : Nat} {x : Operand} {u v : Value} (ho : o.op = .fieldAddr t x f) (hx : ρ x = u) (hr : (Instr.fieldAt t u f).run P w = .ok v w) : (execOp ρ o).run P w = .ok (.value v) w := by
  unfold execOp
  simp only [ho, hx, Sem.run_bind, Sem.run_pure, Result.andThen_ok, hr]
theorem run_field {ρ : Operand → Value} {o : Oper} {w : World} {t : TypeId} {f : Nat} {x : Operand} {u v : Value} (ho : o.op = .field t x f) (hx : ρ x = u) (hr : (Instr.field t u f).run P w = .ok v w) : (execOp ρ o).run P w = .ok (.value v) w := by
  unfold execOp
  simp only [ho, hx, Sem.run_bind, Sem.run_pure, Result.andThen_ok, hr]
theorem run_build {ρ : Operand → Value} {o : Oper} {w : World} {t : TypeId} {parts : Array (Nat × Operand)} {vs : Array (Nat × Value)} {v : Value} (ho : o.op = .build t parts) (hx : (parts.map fun (i, x) => (i, ρ x)) = vs) (hr : (Instr.build t vs).run P w = .ok v w) : (execOp ρ o).run P w = .ok (.value v) w := by
  unfold execOp
  simp only [ho, hx, Sem.run_bind, Sem.run_pure, Result.andThen_ok, hr]
theorem run_buildSlice {ρ : Operand → Value} {o : Oper} {w w' : World} {t : TypeId} {len : Nat} {parts : Array (Nat × Operand)} {vs : Array (Nat × Value)} {v : Value} (ho : o.op = .buildSlice t len parts) (hx : (parts.map fun (i, x) => (i, ρ x)) = vs) (hr : (Instr.buildSlice t len vs).run P w = .ok v w') : (execOp ρ o).run P w = .ok (.value v) w' := by
  unfold execOp
  simp only [ho, hx, Sem.run_bind, Sem.run_pure, Result.andThen_ok, hr]
theorem run_extract {ρ : Operand → Value} {o : Oper} {w : World} {i : Nat} {x : Operand} {u v : Value} (ho : o.op = .extract x i) (hx : ρ x = u) (hr : (Instr.extract u i).run P w = .ok v w) : (execOp ρ o).run P w = .ok (.value v) w := by
  unfold execOp
  simp only [ho, hx, Sem.run_bind, Sem.run_pure, Result.andThen_ok, hr]
theorem run_enter {w : World} {f : FuncId} {fn : Func} {vs : Array Value} (hf : P.funcs[f]? = some fn) (hn : (fn.name == "runtime.NumGoroutine") = false) (hb : fn.body.isNone = false) : (callFunc f vs).run P w = .ok (.enter f vs) w := by
  have hn' : ¬ fn.name = "runtime.NumGoroutine" := by simpa using hn
  have hb' : ¬ fn.body = none := by rintro e; rw [e] at hb; cases hb
  simp [callFunc, hf, hn', hb']
theorem run_call {ρ : Operand → Value} {o : Oper} {w : World} {x : Operand} {f : FuncId} {args : Array Operand} {tys : Array TypeId} {vs : Array Value} (ho : o.op = .call { callee := .value x, args := args, argTypes := tys }) (hf : ρ x = .func (.func f) #[] #[]) (hv : args.map ρ = vs)
    (hc : (callFunc f vs).run P w = .ok (.enter f vs) w) : (execOp ρ o).run P w = .ok (.enter f vs) w := by
  unfold execOp
  simp only [ho]
  unfold resolve
  simp only [hv, hf]
  go_simp
end
/-! ### one store among the operations that draw -/
/-- a pointer to a block of n cells that was made since -/
def It.room (T : TypeId) (n n0 : Nat) : It := ⟨fun v w => ∃ N, v = .pointer (some ⟨N, 0, none⟩) ∧ n0 ≤ N ∧ ∃ V : List Value, V.length = n ∧ Blk w N T V, fun _ _ _ ⟨N, e, hn, V, hl, h⟩ hg => ⟨N, e, hn, V, hl, h.grown hg (by simp)⟩⟩
/-- it stays when a row is put over another block's, or its own, cells -/
def It.Over (it : It) : Prop := ∀ v w (N : Nat) (T : TypeId) (V cs : List Value), Blk w N T V → V.length = cs.length → it.p v w → it.p v (w.setCells N 0 cs)
def Stored1 (T : TypeId) (cs : List Value) (_ : Nat) (u : Value) (w : World) : Prop := ∃ N, u = .pointer (some ⟨N, 0, none⟩) ∧ Blk w N T cs
section
variable {P : Program} {ops : Array Oper} {Q : Exit → Act → World → Prop} {L : List It} {W : World} {a0 : Act} {ps : List Nat} {p : Nat} {T : TypeId} {cs : List Value}
abbrev AtM (W : World) (ps : List Nat) (p : Nat) (T : TypeId) (cs : List Value) (L : List It) (a0 : Act) (ops : Array Oper) (o : Oper) (a : Act) (w : World) : Prop := FlowAt3 (its L) (fun _ => p) (Stored1 T cs) (fun w => W.grownBy w none) ps a0 ops o a w
abbrev StepM (W : World) (ps : List Nat) (p : Nat) (T : TypeId) (cs : List Value) (P : Program) (Q : Exit → Act → World → Prop) (L : List It) (a0 : Act) (ops : Array Oper) (i : Nat) (o : Oper) : Prop := FlowStep3 P Q (its L) (fun _ => p) (Stored1 T cs) (fun w => W.grownBy w none) ps a0 ops i o
theorem stored1_grown {w w' : World} (hg : w.grownBy w' none) (j : Nat) (u : Value) (h : Stored1 T cs j u w) : Stored1 T cs j u w' := by
  obtain ⟨N, e, hb⟩ := h
  exact ⟨N, e, hb.grown hg (by simp)⟩
theorem valueM {i : Nat} {o : Oper} {d : Nat} (hd : o.dst = some d) (hps : (ps.all fun s => s != d) = true)
    (h : ∀ a w, AtM W ps p T cs L a0 ops o a w → Wants ops o a ∧ ∃ v w', (execOp a.eval o).run P w = .ok (.value v) w' ∧ w.grownBy w' none ∧ its L d v w') : StepM W ps p T cs P Q L a0 ops i o :=
  flow3_value hd fun a w hF => by
    obtain ⟨hw, v, w', hr, hg, hG⟩ := h a w hF
    exact ⟨hw, v, w', hr, gb_trans hF.base hg, fun d u => its_grown hg d u, fun j u => stored1_grown hg j u, ptrs_put hF.ptrs hg.size (not_in hps), hG⟩
theorem allocM {i : Nat} {o : Oper} {d : Nat} (hd : o.dst = some d) (hlt : d < a0.tmps.size)
    (h : ∀ a w, AtM W ps p T cs L a0 ops o a w → Wants ops o a ∧ ∃ w', (execOp a.eval o).run P w = .ok (.value (.pointer (some ⟨w.heap.size, 0, none⟩))) w' ∧ w.grownBy w' none ∧ w.heap.size < w'.heap.size ∧ its L d (.pointer (some ⟨w.heap.size, 0, none⟩)) w') : StepM W ps p T cs P Q L a0 ops i o :=
  flow3_value hd fun a w hF => by
    obtain ⟨hw, w', hr, hg, hs, hG⟩ := h a w hF
    exact ⟨hw, _, w', hr, gb_trans hF.base hg, fun d u => its_grown hg d u, fun j u => stored1_grown hg j u, ptrs_new hF.ptrs hs (by rw [hF.size]; exact hlt), hG⟩
theorem callM {i : Nat} {o : Oper} {d : Nat} (hd : o.dst = some d) (hps : (ps.all fun s => s != d) = true)
    (h : ∀ a w, AtM W ps p T cs L a0 ops o a w → Wants ops o a ∧ ∃ f args, (execOp a.eval o).run P w = .ok (.enter f args) w ∧ Calls P f args w fun e w' => ∃ v, e = .returned v ∧ w.grownBy w' none ∧ its L d v w') : StepM W ps p T cs P Q L a0 ops i o :=
  flow3_call hd fun a w hF => by
    obtain ⟨hw, f, args, hr, hc⟩ := h a w hF
    refine ⟨hw, f, args, hr, hc.mono fun e w' he => ?_⟩
    obtain ⟨v, rfl, hg, hG⟩ := he
    exact ⟨v, rfl, gb_trans hF.base hg, fun d u => its_grown hg d u, fun j u => stored1_grown hg j u, ptrs_put hF.ptrs hg.size (not_in hps), hG⟩
theorem skippedM {i : Nat} {o : Oper} {d : Nat} (hd : o.dst = some d) (hps : (ps.all fun s => s != d) = true) (hG : ∀ w, its L d undef w)
    (h : ∀ a w, AtM W ps p T cs L a0 ops o a w → Region.wanted o (yielded ops a.tmps) = false) : StepM W ps p T cs P Q L a0 ops i o :=
  flow3_skipped hd (fun s hs e => not_in hps s hs (by rw [e])) (fun w _ => hG w) h
theorem any_over : It.any.Over := fun _ _ _ _ _ _ _ _ _ => trivial
theorem val_over (x : Value) : (It.val x).Over := fun _ _ _ _ _ _ _ _ h => h
theorem room_over (T : TypeId) (n n0 : Nat) : (It.room T n n0).Over := fun v w N T' V cs hb hl ⟨N', e, hn, V', hl', hb'⟩ => by
  by_cases he : N = N'
  · subst he
    unfold Blk at hb hb'
    rw [hb] at hb'
    cases hb'
    exact ⟨N, e, hn, over V 0 cs, by rw [over_length]; exact hl', Blk.setCells hb 0⟩
  · exact ⟨N', e, hn, V', hl', hb'.setCells_other 0 he⟩
theorem its_over {L : List It} (hL : ∀ it ∈ L, it.Over) {w : World} {N : Nat} {T : TypeId} {V cs : List Value} (hb : Blk w N T V) (hl : V.length = cs.length) (d : Nat) (v : Value) (h : its L d v w) : its L d v (w.setCells N 0 cs) := by
  unfold its at *
  by_cases hd : d < L.length
  · rw [List.getD_eq_getElem?_getD, List.getElem?_eq_getElem hd] at *
    exact hL _ (List.getElem_mem hd) v w N T V cs hb hl h
  · rw [List.getD_eq_getElem?_getD, List.getElem?_eq_none (by omega)] at *
    trivial
theorem storeM {i : Nat} {o : Oper} {x y : Operand} (hd : o.dst = none) (ho : o.op = .store T x y) (hL : ∀ it ∈ L, it.Over) (hi : (P.info? T).map (·.size) = some cs.length) (h1 : cs.all (·.oneCell') = true)
    (h : ∀ a w, AtM W ps p T cs L a0 ops o a w → Wants ops o a ∧ ∃ N, a.tmps.getD p undef = .pointer (some ⟨N, 0, none⟩) ∧ a.eval x = .pointer (some ⟨N, 0, none⟩) ∧ a.eval y = .agg cs.toArray ∧ W.heap.size ≤ N ∧ ∃ V : List Value, V.length = cs.length ∧ Blk w N T V) : StepM W ps p T cs P Q L a0 ops i o :=
  flow3_store hd fun a w hF => by
    obtain ⟨hw, N, hp, hx, hy, hn, V, hl, hb⟩ := h a w hF
    refine ⟨hw, _, run_store ho hx hy (hb.there 0 cs.length (by omega)) hi h1, gb_setCells_new hF.base hn 0, fun d u => its_over hL hb hl d u, fun j oj _ _ _ hM => ?_, (gb_setCells (cs := cs) (gb_refl w (some N)) 0).size, ⟨N, hp, hb.setAll hl⟩⟩
    exact ⟨N, hp, hb.setAll hl⟩
end
end Fg
end Go.Proofs.YtmnlidfalhjghaaGreatDoor

/- One step of a region that draws its order, for go_region_law: an append whose run is known; a call by its contract. -/
namespace Go.Proofs.YtmnlidfalhjghaaGreatDoor
open Go
namespace Fg
theorem step_append {P : Program} {ops : Array Oper} {o : Oper} {a : Act} {w : World} {K : Act → World → Prop} {Q : Exit → Act → World → Prop} {E : Prop} (hg : o.guard = none) (s x : Operand) (t : TypeId)
    (ho : o.op = .call { callee := .builtin .append, args := #[s, x], argTypes := #[t, t] }) (ht : o.type = t) (v y : Value) (hs : a.eval s = v) (hx : a.eval x = y) (v' : Value) (w' : World)
    (hr : (Builtin.append_ #[t, t] t #[v, y]).run P w = .ok v' w') (hK : K (a.put o.dst v') w') : if Region.wanted o (yielded ops a.tmps) = true then Oper.wp P o a w K Q else E := by
  have hw : Region.wanted o (yielded ops a.tmps) = true := by simp [Region.wanted, hg]
  rw [if_pos hw]
  rw [← ht] at hr
  unfold Oper.wp
  simp [execOp, ho, resolve, invoke, builtin, hs, hx, ← ht, hr, Result.andThen]
  exact hK
theorem step_call {P : Program} {ops : Array Oper} {o : Oper} {a : Act} {w : World} {K : Act → World → Prop} {Q : Exit → Act → World → Prop} {E : Prop} (hg : o.guard = none) {f : FuncId} {args : Array Value}
    (hr : (execOp a.eval o).run P w = .ok (.enter f args) w) (hc : Calls P f args w fun e w' => ∃ v, e = .returned v ∧ K (a.put o.dst v) w') : if Region.wanted o (yielded ops a.tmps) = true then Oper.wp P o a w K Q else E := by
  have hw : Region.wanted o (yielded ops a.tmps) = true := by simp [Region.wanted, hg]
  rw [if_pos hw]
  unfold Oper.wp
  rw [hr]
  exact Calls.mono hc fun e w' ⟨v, he, hK⟩ => by subst he; exact hK
/-- a result that is a row, and one beside it -/
theorem res_row_tmp {P : Program} {fn : Func} {p u : Tmp} {ty : TypeId} (h : fn.results = #[.cell p ty, .tmp u]) (tmps : Array Value) (w : World) (g : Nat) (t : TypeId) (cs : Array Value) (fr : Nat × Nat) (d : TypeDesc)
    (hp : tmps.getD p undef = .pointer (some ⟨g, 0, none⟩)) (hg : w.heap[g]? = some (.cells cs t fr))
    (hu : P.underlying ty = some d) (hd : (match d with | .struct _ | .array _ _ => true | _ => false) = true) (hi : (P.info? ty).map (·.size) = some cs.size) {v : Value} (hv : tmps.getD u undef = v) :
    (results fn tmps).run P w = .ok (.tuple #[.agg cs, v]) w := by
  rw [results_cell_tmp h, hp, hv]
  simp [asAddr, run_loadVar_row w g t ty cs fr d hg hu hd hi, Result.andThen]
end Fg
end Go.Proofs.YtmnlidfalhjghaaGreatDoor

/- The law ScalarNumbers, walked. (Its drawn regions by gen_scnums.py.) -/
namespace Go.Proofs.YtmnlidfalhjghaaGreatDoor
open Go.RowKit Ow Fk
namespace Sr
set_option linter.unusedSimpArgs false
theorem le_max {c : Nat} (h : c ≤ 66) : c ≤ maxLen := by unfold maxLen; omega
set_option maxRecDepth 100000 in
set_option maxHeartbeats 8000000 in
theorem scnums_any (w0 : World) (hT : OTab w0) : Calls Tryz.prog 5 #[] w0 fun e w' => e = .returned (.bool true) ∧ w0.grownBy w' none := by
  obtain ⟨Q, hQ⟩ : ∃ Q : Ending → World → Prop, Q = fun e w' => e = .returned (.bool true) ∧ w0.grownBy w' none := ⟨_, rfl⟩
  rw [← hQ]
  have HQ : Hid (∀ w', w0.grownBy w' none → Q (.returned (.bool true)) w') := fun w' hg => by rw [hQ]; exact ⟨rfl, hg⟩
  clear hQ
  have HT : Hid (∀ w', w0.grownBy w' none → OTab w') := fun w' hg => hT.stay hg
  clear hT
  go_enter Tryz.func5, Tryz.ntmps5
  go_wp2_with fail
  go_loopw [1, 2] (fun v i wr => ∃ (k : Nat) (z : Int) (E : List (Nat × Nat)), k ≤ 7 ∧ z + 3 = k ∧ i = .int .i64 z ∧ Hid (E.length = 2 * k ∧ NS w0 v E wr)) (fun _ i _ => (4 - intOf i).toNat)
  case atStart => exact ⟨0, -3, [], by omega, by omega, rfl, rfl, World.ownsRow_nil _ _ _ 1, fun p hp => (by cases hp), gb_refl _ _⟩
  case round =>
    obtain ⟨k, z, E, hk, hz, rfl, HN⟩ := hrel
    by_cases hlt : k < 7
    · obtain ⟨y, hy, hy2, hy3⟩ : ∃ y : Nat, y < 16 ∧ bits .and .i64 z 15 = (y : Int) ∧ IntKind.u8.wrap (y : Int) = (y : Int) := by
        have hz3 : z = (k : Int) - 3 := by omega
        subst hz3
        have hc : k = 0 ∨ k = 1 ∨ k = 2 ∨ k = 3 ∨ k = 4 ∨ k = 5 ∨ k = 6 := by omega
        rcases hc with rfl | rfl | rfl | rfl | rfl | rfl | rfl
        · exact ⟨13, by decide, by decide +kernel, by decide +kernel⟩
        · exact ⟨14, by decide, by decide +kernel, by decide +kernel⟩
        · exact ⟨15, by decide, by decide +kernel, by decide +kernel⟩
        · exact ⟨0, by decide, by decide +kernel, by decide +kernel⟩
        · exact ⟨1, by decide, by decide +kernel, by decide +kernel⟩
        · exact ⟨2, by decide, by decide +kernel, by decide +kernel⟩
        · exact ⟨3, by decide, by decide +kernel, by decide +kernel⟩
      have i0 : z < 4 := by omega
      have z1 : -3 ≤ z := by omega
      have HL := Lib.hid (fun w' => l_any z (k + 234) w' (by omega) (by omega))
      go_wp2_with fail
      refine (HL.out wr).mono ?_
      intro e w2 h
      obtain ⟨gl, rfl, hg2, hs2, hb2⟩ := h
      have H2 := Lib.hid (And.intro hg2 (And.intro hs2 hb2)); clear hg2 hs2 hb2
      rw [show (ordB (k + 234)).length = 32 from rfl]
      go_wp2_with fail
      refine (sone_any y w2).mono ?_
      intro e w3 h
      obtain ⟨g1, rfl, hg3, hs3, hb3⟩ := h
      rw [oneB_length]
      have hN3 := (HN.out.2.stay H2.out.1).stay hg3
      have hbl : BB w3 gl 32 := BB.of (H2.out.2.2.grown hg3 (by simp)) rfl (ordB_lt _ (by omega))
      have hb1 : BB w3 g1 32 := BB.of hb3 (oneB_length y) (oneB_lt y (by omega))
      have hsz := hN3.grown.size
      have hlo : w0.heap.size ≤ gl := Nat.le_trans HN.out.2.grown.size H2.out.2.1
      have hlo1 : w0.heap.size ≤ g1 := Nat.le_trans (Nat.le_trans HN.out.2.grown.size H2.out.1.size) hs3
      obtain ⟨W4, hW4⟩ : ∃ W4, W4 = w3.alloc (.cells #[.slice (some ⟨gl, 0, none⟩) 32 32, .slice (some ⟨g1, 0, none⟩) 32 32] 22) := ⟨_, rfl⟩
      have hg4 : w3.grownBy W4 none := by rw [hW4]; exact gb_alloc (gb_refl _ _) _
      have hX : Blk W4 w3.heap.size 22 (([(gl, 32), (g1, 32)] : List (Nat × Nat)).map elV) := by rw [hW4]; exact Blk.new w3 _ _
      obtain ⟨v', w5, hap, hN5, _⟩ := (hN3.stay hg4).push w3.heap.size [(gl, 32), (g1, 32)] (by simp) (fun j u hu => by rw [Nat.zero_add]; exact hX.cell hu) (fun p hp => by
        simp only [List.mem_cons, List.not_mem_nil, or_false] at hp
        rcases hp with rfl | rfl
        · exact ⟨by show 32 ≤ 32; decide, by show 32 ≤ 66; decide, hbl.stay hg4, hlo⟩
        · exact ⟨by show 32 ≤ 32; decide, by show 32 ≤ 66; decide, hb1.stay hg4, hlo1⟩) (by have := HN.out.1; simp; omega)
      have hap' : (Builtin.append_ #[31, 31] 31 #[u1, .slice (some ⟨w3.heap.size, 0, none⟩) 2 2]).run Tryz.prog (w3.alloc (.cells #[.slice (some ⟨gl, 0, none⟩) 32 32, .slice (some ⟨g1, 0, none⟩) 32 32] 22)) = .ok v' w5 := by rw [← hW4]; exact hap
      have H5 := Lib.hid hN5
      clear hN3 hbl hb1 hsz hlo hlo1 hW4 hg4 hX hap hN5 hb3 hg3 hs3
      go_wp2_with (at_builtin; refine wpList_append_run rfl (.tmp 15) (.tmp 22) 31 rfl rfl _ _ rfl rfl _ _ hap' ?_)
      clear hap'
      go_roundw
      case rel => exact ⟨k + 1, z + 1, E ++ [(gl, 32), (g1, 32)], by omega, by omega, rfl, by rw [List.length_append, HN.out.1]; rfl, H5.out⟩
      case measure => simp [intOf]; omega
    · obtain rfl : k = 7 := by omega
      obtain rfl : z = 4 := by omega
      obtain ⟨w2, hmk, hg2, hs2, hb2⟩ := make_bytes 66 66 wr (by omega) (by omega)
      have hmk' : (Instr.makeSlice 22 (.int .i64 66) (.int .i64 66)).run Tryz.prog wr = .ok (.slice (some ⟨wr.heap.size, 0, none⟩) 66 66) w2 := hmk
      have hBF : BB w2 wr.heap.size 66 := BB.of (l := List.replicate 66 0) (by rw [List.map_replicate]; exact hb2) (by simp) (getD_zero 66)
      obtain ⟨WO, hWO⟩ : ∃ WO : World, WO = wr := ⟨_, rfl⟩
      subst hWO
      have H2 : Hid (E.length = 14 ∧ NB w0 u1 E WO.heap.size w2) := ⟨HN.out.1, HN.out.2.stay hg2, hBF, HN.out.2.grown.size⟩
      clear hmk hg2 hs2 hb2 hBF HN
      go_wp2_with fail
      clear hmk'
      go_loopw [4] (fun i wr => ∃ j : Nat, j ≤ 66 ∧ i = .int .i64 j ∧ Hid (NB w0 u1 E WO.heap.size wr)) (fun i _ => 66 - (intOf i).toNat)
      case atStart => exact ⟨0, by omega, rfl, H2.out.2⟩
      case round =>
        obtain ⟨j, hj, rfl, HB⟩ := hrel
        by_cases hjt : j < 66
        · have i1 : (j : Int) < 66 := by omega
          obtain ⟨x, hx, cx⟩ := HB.out.full.cell j hjt
          have fx : wr.frozen? ⟨WO.heap.size, j, none⟩ = false := HB.out.full.free j
          have hrows : ∀ i k, BB wr i k → BB (wr.setCell ⟨WO.heap.size, j, none⟩ (.int .u8 255)) i k := fun i k hb => bb_set HB.out.full j 255 (by decide) hb
          have H3 : Hid (NB w0 u1 E WO.heap.size (wr.setCell ⟨WO.heap.size, j, none⟩ (.int .u8 255))) := HB.out.row (gb_set (gb_refl _ _) _ _) HB.out.full HB.out.lo hrows
          clear hrows hx
          go_wp2
          go_roundw
          case rel => exact ⟨j + 1, by omega, by go_num, H3.out⟩
          case measure => simp [intOf]; omega
        · obtain rfl : j = 66 := by omega
          have HL := Lib.hid (fun w' => l_any (-1) 236 w' (by omega) (by omega))
          have HO := Lib.hid (fun (y : Nat) w' => sone_any y w')
          have HRF : Hid (∀ (w' : World) (g1 g2 g3 : Nat), Blk w' g1 5 ((ordB 236).map u8N) → Blk w' g2 5 ((oneB 15).map u8N) → Blk w' g3 5 ((oneB 14).map u8N) → Calls Tryz.prog 20 #[.slice (some ⟨g1, 0, none⟩) 32 32, .slice (some ⟨g2, 0, none⟩) 32 32, .slice (some ⟨g3, 0, none⟩) 32 32] w' (OutR (num (ordB 236) * num (oneB 15) + num (oneB 14)) w')) := fun w' g1 g2 g3 h1 h2 h3 =>
            rmulAdd_any 32 32 32 _ _ _ _ _ _ (ordB 236) (oneB 15) (oneB 14) w' rfl rfl rfl (blk_bytes (tl := []) (by rw [List.append_nil]; exact h1) rfl (Nat.le_refl _) (by decide) (ordB_lt 236 (by decide)) h1.lt (Nat.le_refl _)) (blk_bytes (tl := []) (by rw [List.append_nil]; exact h2) rfl (Nat.le_refl _) (by decide) (oneB_lt 15 (by decide)) h2.lt (Nat.le_refl _)) (blk_bytes (tl := []) (by rw [List.append_nil]; exact h3) rfl (Nat.le_refl _) (by decide) (oneB_lt 14 (by decide)) h3.lt (Nat.le_refl _))
          obtain ⟨MR, hMR⟩ : ∃ MR, MR = num (ordB 236) * num (oneB 15) + num (oneB 14) := ⟨_, rfl⟩
          rw [← hMR] at HRF
          clear hMR
          have HBD := Lib.hid (HB.out.stay (gb_drew (gb_refl wr none)))
          clear HB
          go_wp2_with fail
          go_region_law (first
            | (refine Fg.step_call rfl (f := 21) (args := #[.int .i64 (-1)]) (Fg.run_call rfl rfl (by simp only [List.map_toArray, List.map_cons, List.map_nil, Act.eval]) (Fg.run_enter Tryz.func21 (by kernel_rfl) (by kernel_rfl))) ?_
               refine (HL.out _).mono ?_
               intro e w3 h
               obtain ⟨gl, rfl, hg3, hs3, hb3⟩ := h
               have H3 := Lib.hid (And.intro (HBD.out.stay hg3) (And.intro (Nat.le_trans HBD.out.ns.grown.size hs3) hb3)); clear hg3 hs3 hb3 HL
               rw [show (ordB 236).length = 32 from rfl]
               refine ⟨_, rfl, ?_⟩)
            | (refine Fg.step_call rfl (f := 22) (args := #[.int .u8 15]) (Fg.run_call rfl rfl (by simp only [List.map_toArray, List.map_cons, List.map_nil, Act.eval]) (Fg.run_enter Tryz.func22 (by kernel_rfl) (by kernel_rfl))) ?_
               refine (HO.out 15 _).mono ?_
               intro e w4 h
               obtain ⟨g15, rfl, hg4, hs4, hb4⟩ := h
               have H4 := Lib.hid (And.intro (H3.out.1.stay hg4) (And.intro (Nat.le_trans H3.out.1.ns.grown.size hs4) (And.intro hb4 (H3.out.2.2.grown hg4 (by simp))))); clear hg4 hs4 hb4
               rw [show (oneB 15).length = 32 from rfl]
               refine ⟨_, rfl, ?_⟩)
            | (refine Fg.step_call rfl (f := 22) (args := #[.int .u8 14]) (Fg.run_call rfl rfl (by simp only [List.map_toArray, List.map_cons, List.map_nil, Act.eval]) (Fg.run_enter Tryz.func22 (by kernel_rfl) (by kernel_rfl))) ?_
               refine (HO.out 14 _).mono ?_
               intro e w5 h
               obtain ⟨g14, rfl, hg5, hs5, hb5⟩ := h
               have H5 := Lib.hid (And.intro (H4.out.1.stay hg5) (And.intro hb5 (And.intro (H4.out.2.2.1.grown hg5 (by simp)) (H4.out.2.2.2.grown hg5 (by simp))))); clear hg5 hs5 hb5
               rw [show (oneB 14).length = 32 from rfl]
               refine ⟨_, rfl, ?_⟩)
            | (refine Fg.step_call rfl (f := 20) (args := #[.slice (some ⟨gl, 0, none⟩) 32 32, .slice (some ⟨g15, 0, none⟩) 32 32, .slice (some ⟨g14, 0, none⟩) 32 32]) (Fg.run_call rfl rfl (by simp only [List.map_toArray, List.map_cons, List.map_nil, Act.eval]; rfl) (Fg.run_enter Tryz.func20 (by kernel_rfl) (by kernel_rfl))) ?_
               refine (HRF.out _ _ _ _ H5.out.2.2.2 H5.out.2.2.1 H5.out.2.1).mono ?_
               intro e w6 h
               obtain ⟨gm, rfl, hg6, hs6, hb6⟩ := h
               have H6 := Lib.hid (And.intro (H5.out.1.stay hg6) (And.intro (Nat.le_trans H5.out.1.ns.grown.size hs6) (BB.of (c := 33) hb6 (by rw [List.length_append, scB_length]; rfl) (getD_app _ _ (scB_lt MR) (fun i => by rcases i with _ | i <;> simp))))); clear hg6 hs6 hb6
               obtain ⟨W7, hW7⟩ : ∃ W7, W7 = w6.alloc (.cells #[.slice (some ⟨WO.heap.size, 0, none⟩) 32 66, .slice (some ⟨gm, 0, none⟩) 32 33] 22) := ⟨_, rfl⟩
               have hg7 : w6.grownBy W7 none := by rw [hW7]; exact gb_alloc (gb_refl _ _) _
               have hX : Blk W7 w6.heap.size 22 (([(WO.heap.size, 66), (gm, 33)] : List (Nat × Nat)).map elV) := by rw [hW7]; exact Blk.new w6 _ _
               obtain ⟨v', w8, hap, hN8, hr8⟩ := (H6.out.1.ns.stay hg7).push w6.heap.size [(WO.heap.size, 66), (gm, 33)] (by simp) (fun j u hu => by rw [Nat.zero_add]; exact hX.cell hu) (fun p hp => by
                 simp only [List.mem_cons, List.not_mem_nil, or_false] at hp
                 rcases hp with rfl | rfl
                 · exact ⟨by show 32 ≤ 66; decide, by show 66 ≤ 66; decide, H6.out.1.full.stay hg7, H6.out.1.lo⟩
                 · exact ⟨by show 32 ≤ 33; decide, by show 33 ≤ 66; decide, H6.out.2.2.stay hg7, H6.out.2.1⟩) (by have := H2.out.1; simp; omega)
               have HAP : Hid ((Builtin.append_ #[31, 31] 31 #[u1, .slice (some ⟨w6.heap.size, 0, none⟩) 2 2]).run Tryz.prog (w6.alloc (.cells #[.slice (some ⟨WO.heap.size, 0, none⟩) 32 66, .slice (some ⟨gm, 0, none⟩) 32 33] 22)) = .ok v' w8) := by rw [← hW7]; exact hap
               have H8 : Hid ((E ++ [(WO.heap.size, 66), (gm, 33)]).length = 16 ∧ NB w0 v' (E ++ [(WO.heap.size, 66), (gm, 33)]) WO.heap.size w8) := ⟨by rw [List.length_append, H2.out.1]; rfl, hN8, hr8 _ _ (H6.out.1.full.stay hg7), H6.out.1.lo⟩
               clear hW7 hg7 hX hap hN8 hr8 H3 H4 H5 H6
               refine ⟨_, rfl, ?_⟩)
            | (refine Fg.step_append rfl (.tmp 34) (.tmp 41) 31 rfl rfl _ _ rfl rfl _ _ HAP.out ?_))
          have hown := H8.out.2.ns.own
          rw [H8.out.1] at hown
          obtain ⟨gv, cv, rfl, _⟩ := own_some hown (by decide)
          obtain ⟨E2, hE2⟩ : ∃ E2, E2 = E ++ [(WO.heap.size, 66), (gm, 33)] := ⟨_, rfl⟩
          rw [← hE2] at H8
          clear hE2 hown HO HRF H2 HBD
          obtain ⟨F, hF⟩ : ∃ F, F = WO.heap.size := ⟨_, rfl⟩
          rw [← hF] at H8
          go_wp2_with fail
          rw [← hF]
          clear hF HAP
          have HC : Hid (∀ w', NB w0 (.slice (some ⟨gv, 0, none⟩) 16 cv) E2 F w' → ∀ i, i < 16 → w'.cell? ⟨gv, i, none⟩ = some (.slice (some ⟨(E2.getD i (0, 0)).1, 0, none⟩) 32 (E2.getD i (0, 0)).2) ∧ 32 ≤ (E2.getD i (0, 0)).2 ∧ (E2.getD i (0, 0)).2 ≤ 66 ∧ BB w' (E2.getD i (0, 0)).1 (E2.getD i (0, 0)).2 ∧ w0.heap.size ≤ (E2.getD i (0, 0)).1) := fun w' h i hi => h.ns.at H8.out.1 i hi
          have HMU : Hid (∀ w', NB w0 (.slice (some ⟨gv, 0, none⟩) 16 cv) E2 F w' → ∀ (n1 n2 n3 g1 g2 g3 c1 c2 c3 : Nat), BB w' g1 c1 → BB w' g2 c2 → BB w' g3 c3 → n1 ≤ c1 → n2 ≤ c2 → n3 ≤ c3 → c1 ≤ maxLen → c2 ≤ maxLen → c3 ≤ maxLen → Calls Tryz.prog 4 #[.slice (some ⟨g1, 0, none⟩) n1 c1, .slice (some ⟨g2, 0, none⟩) n2 c2, .slice (some ⟨g3, 0, none⟩) n3 c3] w' fun e w'' => e = .returned (.bool true) ∧ w'.grownBy w'' none) := fun w' h n1 n2 n3 g1 g2 g3 c1 c2 c3 h1 h2 h3 k1 k2 k3 m1 m2 m3 => ns_muls (HT.out w' h.ns.grown) n1 n2 n3 g1 g2 g3 c1 c2 c3 h1 h2 h3 k1 k2 k3 m1 m2 m3
          have HRD : Hid (∀ w', NB w0 (.slice (some ⟨gv, 0, none⟩) 16 cv) E2 F w' → ∀ (n g c : Nat), BB w' g c → n ≤ c → c ≤ maxLen → Calls Tryz.prog 3 #[.slice (some ⟨g, 0, none⟩) n c] w' fun e w'' => e = .returned (.bool true) ∧ w'.grownBy w'' none) := fun w' h n g c h1 k1 m1 => ns_reds (HT.out w' h.ns.grown) n g c h1 k1 m1
          go_loopw [5] (fun a wr => ∃ i : Nat, i ≤ 16 ∧ a = .int .i64 i ∧ Hid (NB w0 (.slice (some ⟨gv, 0, none⟩) 16 cv) E2 F wr)) (fun a _ => 16 - (intOf a).toNat)
          case atStart => exact ⟨0, by omega, rfl, H8.out.2⟩
          case round =>
            obtain ⟨i, hi, rfl, HB⟩ := hrel
            by_cases hit : i < 16
            · have i1 : (i : Int) < 16 := by omega
              go_wp2_with fail
              go_loopw [6] (fun a wr => ∃ k : Nat, k ≤ 16 ∧ a = .int .i64 k ∧ Hid (NB w0 (.slice (some ⟨gv, 0, none⟩) 16 cv) E2 F wr)) (fun a _ => 16 - (intOf a).toNat)
              case atStart => exact ⟨0, by omega, rfl, HB.out⟩
              case round =>
                clear HB
                obtain ⟨k, hk, rfl, HB⟩ := hrel
                by_cases hkt : k < 16
                · have i2 : (k : Int) < 16 := by omega
                  obtain ⟨j, hj, hjm⟩ : ∃ j : Nat, j < 16 ∧ ((i : Int) + (k : Int)) % 16 = (j : Int) := ⟨(i + k) % 16, by omega, by omega⟩
                  have hwk : IntKind.i64.wrap ((i : Int) + (k : Int)) = (i : Int) + (k : Int) := by rw [IntKind.wrap_i64]; omega
                  have htm : ((i : Int) + (k : Int)).tmod 16 = (j : Int) := by rw [Int.tmod_eq_emod_of_nonneg (by omega)]; exact hjm
                  have hj2 : ¬ (16 : Int) ≤ (j : Int) := by omega
                  have HEi := Lib.hid (fun w' h => HC.out w' h i hit)
                  have HEk := Lib.hid (fun w' h => HC.out w' h k hkt)
                  have HEj := Lib.hid (fun w' h => HC.out w' h j hj)
                  generalize (E2.getD i (0, 0)).1 = gi at HEi
                  generalize (E2.getD i (0, 0)).2 = ci at HEi
                  generalize (E2.getD k (0, 0)).1 = gk at HEk
                  generalize (E2.getD k (0, 0)).2 = ck at HEk
                  generalize (E2.getD j (0, 0)).1 = gj at HEj
                  generalize (E2.getD j (0, 0)).2 = cj at HEj
                  go_wp2_with fail
                  refine wp_region_flow3 (Fk.its [.any, .any, .any, .any, .any, .any, .any, .any, .any, .any, .any, .any, .any, .any, .any, .any, .any, .any, .any, .any, .any, .any, .any, .any, .any, .any, .any, .any, .any, .any, .any, .any, .any, .any, .any, .any, .any, .any, .any, .any, .any, .any, .any, .any, .any, .any, .any, .any, .any, .any, .any, .any, .any, .any, .any, .val (.slice (some ⟨gv, 0, none⟩) 16 cv), .val (.int .i64 (i : Int)), .val (.pointer (some ⟨gv, i, none⟩)), .val (.slice (some ⟨gi, 0, none⟩) 32 ci), .val (.slice (some ⟨gv, 0, none⟩) 16 cv), .val (.int .i64 (k : Int)), .val (.pointer (some ⟨gv, k, none⟩)), .val (.slice (some ⟨gk, 0, none⟩) 32 ck), .val (.slice (some ⟨gv, 0, none⟩) 16 cv), .val (.int .i64 (i : Int)), .val (.int .i64 (k : Int)), .val (.int .i64 ((i : Int) + (k : Int))), .val (.slice (some ⟨gv, 0, none⟩) 16 cv), .val (.int .i64 16), .val (.int .i64 (j : Int)), .val (.pointer (some ⟨gv, j, none⟩)), .val (.slice (some ⟨gj, 0, none⟩) 32 cj), .val (.bool true), .val (.bool false), .val (.bool false), Fk.It.bb w0.heap.size 0, .val (.slice (some ⟨gv, 0, none⟩) 16 cv), .val (.int .i64 (i : Int)), .val (.pointer (some ⟨gv, i, none⟩)), .val (.slice (some ⟨gi, 0, none⟩) 32 ci), Fk.It.bb w0.heap.size 32, .val (.slice (some ⟨gv, 0, none⟩) 16 cv), .val (.int .i64 (k : Int)), .val (.pointer (some ⟨gv, k, none⟩)), .val (.slice (some ⟨gk, 0, none⟩) 32 ck), Fk.It.bb w0.heap.size 64, .val (.bool true), .val (.bool false), .val (.bool false)]) (fun _ => 0) (fun _ _ _ => True) (NB w0 (.slice (some ⟨gv, 0, none⟩) 16 cv) E2 F) [] (by kernel_rfl) (by kernel_rfl) (by kernel_rfl) (HB.out.stay (gb_drew (gb_refl _ _))) (Fg.ptrs_nil _ _) (Fg.no_store (by kernel_rfl)) ?_ ?_
                  · refine ⟨Fk.value rfl fun ac w h => ?_, ?_⟩
                    · have e1 : ac.tmps.getD 1 undef = .slice (some ⟨gv, 0, none⟩) 16 cv := h.rest 1 (by kernel_rfl)
                      refine ⟨wants_none rfl, .slice (some ⟨gv, 0, none⟩) 16 cv, w, ?_, Fk.refl _ _, rfl⟩
                      clear h
                      simp only [execOp, Act.eval, e1]
                      go_simp
                    refine ⟨Fk.value rfl fun ac w h => ?_, ?_⟩
                    · have e5 : ac.tmps.getD 5 undef = .int .i64 (i : Int) := h.rest 5 (by kernel_rfl)
                      refine ⟨wants_none rfl, .int .i64 (i : Int), w, ?_, Fk.refl _ _, rfl⟩
                      clear h
                      simp only [execOp, Act.eval, e5]
                      go_simp
                    refine ⟨Fk.value rfl fun ac w h => ?_, ?_⟩
                    · have e55 : ac.tmps.getD 55 undef = .slice (some ⟨gv, 0, none⟩) 16 cv := h.dep 55 (by kernel_rfl)
                      have e56 : ac.tmps.getD 56 undef = .int .i64 (i : Int) := h.dep 56 (by kernel_rfl)
                      refine ⟨wants_none rfl, .pointer (some ⟨gv, i, none⟩), w, ?_, Fk.refl _ _, rfl⟩
                      clear h
                      simp only [execOp, Act.eval, e55, e56]
                      go_simp
                    refine ⟨Fk.value rfl fun ac w h => ?_, ?_⟩
                    · have e57 : ac.tmps.getD 57 undef = .pointer (some ⟨gv, i, none⟩) := h.dep 57 (by kernel_rfl)
                      have c1 := (HEi.out w h.base).1
                      refine ⟨wants_none rfl, .slice (some ⟨gi, 0, none⟩) 32 ci, w, ?_, Fk.refl _ _, rfl⟩
                      clear h
                      simp only [execOp, Act.eval, e57]
                      go_simp
                    refine ⟨Fk.value rfl fun ac w h => ?_, ?_⟩
                    · have e1 : ac.tmps.getD 1 undef = .slice (some ⟨gv, 0, none⟩) 16 cv := h.rest 1 (by kernel_rfl)
                      refine ⟨wants_none rfl, .slice (some ⟨gv, 0, none⟩) 16 cv, w, ?_, Fk.refl _ _, rfl⟩
                      clear h
                      simp only [execOp, Act.eval, e1]
                      go_simp
                    refine ⟨Fk.value rfl fun ac w h => ?_, ?_⟩
                    · have e6 : ac.tmps.getD 6 undef = .int .i64 (k : Int) := h.rest 6 (by kernel_rfl)
                      refine ⟨wants_none rfl, .int .i64 (k : Int), w, ?_, Fk.refl _ _, rfl⟩
                      clear h
                      simp only [execOp, Act.eval, e6]
                      go_simp
                    refine ⟨Fk.value rfl fun ac w h => ?_, ?_⟩
                    · have e59 : ac.tmps.getD 59 undef = .slice (some ⟨gv, 0, none⟩) 16 cv := h.dep 59 (by kernel_rfl)
                      have e60 : ac.tmps.getD 60 undef = .int .i64 (k : Int) := h.dep 60 (by kernel_rfl)
                      refine ⟨wants_none rfl, .pointer (some ⟨gv, k, none⟩), w, ?_, Fk.refl _ _, rfl⟩
                      clear h
                      simp only [execOp, Act.eval, e59, e60]
                      go_simp
                    refine ⟨Fk.value rfl fun ac w h => ?_, ?_⟩
                    · have e61 : ac.tmps.getD 61 undef = .pointer (some ⟨gv, k, none⟩) := h.dep 61 (by kernel_rfl)
                      have c1 := (HEk.out w h.base).1
                      refine ⟨wants_none rfl, .slice (some ⟨gk, 0, none⟩) 32 ck, w, ?_, Fk.refl _ _, rfl⟩
                      clear h
                      simp only [execOp, Act.eval, e61]
                      go_simp
                    refine ⟨Fk.value rfl fun ac w h => ?_, ?_⟩
                    · have e1 : ac.tmps.getD 1 undef = .slice (some ⟨gv, 0, none⟩) 16 cv := h.rest 1 (by kernel_rfl)
                      refine ⟨wants_none rfl, .slice (some ⟨gv, 0, none⟩) 16 cv, w, ?_, Fk.refl _ _, rfl⟩
                      clear h
                      simp only [execOp, Act.eval, e1]
                      go_simp
                    refine ⟨Fk.value rfl fun ac w h => ?_, ?_⟩
                    · have e5 : ac.tmps.getD 5 undef = .int .i64 (i : Int) := h.rest 5 (by kernel_rfl)
                      refine ⟨wants_none rfl, .int .i64 (i : Int), w, ?_, Fk.refl _ _, rfl⟩
                      clear h
                      simp only [execOp, Act.eval, e5]
                      go_simp
                    refine ⟨Fk.value rfl fun ac w h => ?_, ?_⟩
                    · have e6 : ac.tmps.getD 6 undef = .int .i64 (k : Int) := h.rest 6 (by kernel_rfl)
                      refine ⟨wants_none rfl, .int .i64 (k : Int), w, ?_, Fk.refl _ _, rfl⟩
                      clear h
                      simp only [execOp, Act.eval, e6]
                      go_simp
                    refine ⟨Fk.value rfl fun ac w h => ?_, ?_⟩
                    · have e64 : ac.tmps.getD 64 undef = .int .i64 (i : Int) := h.dep 64 (by kernel_rfl)
                      have e65 : ac.tmps.getD 65 undef = .int .i64 (k : Int) := h.dep 65 (by kernel_rfl)
                      refine ⟨wants_none rfl, .int .i64 ((i : Int) + (k : Int)), w, ?_, Fk.refl _ _, rfl⟩
                      clear h
                      simp only [execOp, Act.eval, e64, e65]
                      go_simp
                    refine ⟨Fk.value rfl fun ac w h => ?_, ?_⟩
                    · have e1 : ac.tmps.getD 1 undef = .slice (some ⟨gv, 0, none⟩) 16 cv := h.rest 1 (by kernel_rfl)
                      refine ⟨wants_none rfl, .slice (some ⟨gv, 0, none⟩) 16 cv, w, ?_, Fk.refl _ _, rfl⟩
                      clear h
                      simp only [execOp, Act.eval, e1]
                      go_simp
                    refine ⟨Fk.value rfl fun ac w h => ?_, ?_⟩
                    · have e67 : ac.tmps.getD 67 undef = .slice (some ⟨gv, 0, none⟩) 16 cv := h.dep 67 (by kernel_rfl)
                      have x67 : ac.tmps[67]?.getD undef = .slice (some ⟨gv, 0, none⟩) 16 cv := by simpa using e67
                      refine ⟨wants_none rfl, .int .i64 16, w, ?_, Fk.refl _ _, rfl⟩
                      clear h e67
                      go_simp
                    refine ⟨Fk.value rfl fun ac w h => ?_, ?_⟩
                    · have e66 : ac.tmps.getD 66 undef = .int .i64 ((i : Int) + (k : Int)) := h.dep 66 (by kernel_rfl)
                      have e68 : ac.tmps.getD 68 undef = .int .i64 16 := h.dep 68 (by kernel_rfl)
                      refine ⟨wants_none rfl, .int .i64 (j : Int), w, ?_, Fk.refl _ _, rfl⟩
                      clear h
                      simp only [execOp, Act.eval, e66, e68]
                      go_simp
                    refine ⟨Fk.value rfl fun ac w h => ?_, ?_⟩
                    · have e63 : ac.tmps.getD 63 undef = .slice (some ⟨gv, 0, none⟩) 16 cv := h.dep 63 (by kernel_rfl)
                      have e69 : ac.tmps.getD 69 undef = .int .i64 (j : Int) := h.dep 69 (by kernel_rfl)
                      refine ⟨wants_none rfl, .pointer (some ⟨gv, j, none⟩), w, ?_, Fk.refl _ _, rfl⟩
                      clear h
                      simp only [execOp, Act.eval, e63, e69]
                      go_simp
                    refine ⟨Fk.value rfl fun ac w h => ?_, ?_⟩
                    · have e70 : ac.tmps.getD 70 undef = .pointer (some ⟨gv, j, none⟩) := h.dep 70 (by kernel_rfl)
                      have c1 := (HEj.out w h.base).1
                      refine ⟨wants_none rfl, .slice (some ⟨gj, 0, none⟩) 32 cj, w, ?_, Fk.refl _ _, rfl⟩
                      clear h
                      simp only [execOp, Act.eval, e70]
                      go_simp
                    refine ⟨Fk.call rfl fun ac w h => ?_, ?_⟩
                    · have e58 : ac.tmps.getD 58 undef = .slice (some ⟨gi, 0, none⟩) 32 ci := h.dep 58 (by kernel_rfl)
                      have x58 : ac.tmps[58]?.getD undef = .slice (some ⟨gi, 0, none⟩) 32 ci := by simpa using e58
                      have e62 : ac.tmps.getD 62 undef = .slice (some ⟨gk, 0, none⟩) 32 ck := h.dep 62 (by kernel_rfl)
                      have x62 : ac.tmps[62]?.getD undef = .slice (some ⟨gk, 0, none⟩) 32 ck := by simpa using e62
                      have e71 : ac.tmps.getD 71 undef = .slice (some ⟨gj, 0, none⟩) 32 cj := h.dep 71 (by kernel_rfl)
                      have x71 : ac.tmps[71]?.getD undef = .slice (some ⟨gj, 0, none⟩) 32 cj := by simpa using e71
                      have hb := h.base
                      refine ⟨wants_none rfl, 4, #[.slice (some ⟨gi, 0, none⟩) 32 ci, .slice (some ⟨gk, 0, none⟩) 32 ck, .slice (some ⟨gj, 0, none⟩) 32 cj], ?_, ?_⟩
                      · clear h hb e58 e62 e71
                        go_simp
                      · refine (HMU.out w h.base 32 32 32 _ _ _ _ _ _ (HEi.out w h.base).2.2.2.1 (HEk.out w h.base).2.2.2.1 (HEj.out w h.base).2.2.2.1 (HEi.out w h.base).2.1 (HEk.out w h.base).2.1 (HEj.out w h.base).2.1 (le_max (HEi.out w h.base).2.2.1) (le_max (HEk.out w h.base).2.2.1) (le_max (HEj.out w h.base).2.2.1)).mono ?_
                        intro e w1 hp
                        obtain ⟨rfl, hg⟩ := hp
                        exact ⟨_, rfl, km_none hg, rfl⟩
                    refine ⟨Fk.value rfl fun ac w h => ?_, ?_⟩
                    · have e72 : ac.tmps.getD 72 undef = .bool true := h.dep 72 (by kernel_rfl)
                      refine ⟨wants_none rfl, .bool false, w, ?_, Fk.refl _ _, rfl⟩
                      clear h
                      simp only [execOp, Act.eval, e72]
                      go_simp
                    refine ⟨Fk.value rfl fun ac w h => ?_, ?_⟩
                    · have e73 : ac.tmps.getD 73 undef = .bool false := h.dep 73 (by kernel_rfl)
                      refine ⟨wants_none rfl, .bool false, w, ?_, Fk.refl _ _, rfl⟩
                      clear h
                      simp only [execOp, Act.eval, e73]
                      go_simp
                    refine ⟨Fk.value rfl fun ac w h => ?_, ?_⟩
                    · have e74 : ac.tmps.getD 74 undef = .bool false := h.dep 74 (by kernel_rfl)
                      refine ⟨wants_some (d := 74) rfl rfl (by rw [h.size]; show 74 < 186; decide) e74, .slice (some ⟨w.heap.size, 0, none⟩) 0 0, w.alloc (.cells #[] 5), ?_, km_none (gb_alloc (gb_refl _ _) _), ⟨w.heap.size, 0, rfl, Nat.le_refl _, Nat.zero_le _, h.base.ns.grown.size, bb_nil w⟩⟩
                      clear h
                      go_simp
                    refine ⟨Fk.value rfl fun ac w h => ?_, ?_⟩
                    · have e74 : ac.tmps.getD 74 undef = .bool false := h.dep 74 (by kernel_rfl)
                      have e1 : ac.tmps.getD 1 undef = .slice (some ⟨gv, 0, none⟩) 16 cv := h.rest 1 (by kernel_rfl)
                      refine ⟨wants_some (d := 74) rfl rfl (by rw [h.size]; show 74 < 186; decide) e74, .slice (some ⟨gv, 0, none⟩) 16 cv, w, ?_, Fk.refl _ _, rfl⟩
                      clear h
                      simp only [execOp, Act.eval, e1]
                      go_simp
                    refine ⟨Fk.value rfl fun ac w h => ?_, ?_⟩
                    · have e74 : ac.tmps.getD 74 undef = .bool false := h.dep 74 (by kernel_rfl)
                      have e5 : ac.tmps.getD 5 undef = .int .i64 (i : Int) := h.rest 5 (by kernel_rfl)
                      refine ⟨wants_some (d := 74) rfl rfl (by rw [h.size]; show 74 < 186; decide) e74, .int .i64 (i : Int), w, ?_, Fk.refl _ _, rfl⟩
                      clear h
                      simp only [execOp, Act.eval, e5]
                      go_simp
                    refine ⟨Fk.value rfl fun ac w h => ?_, ?_⟩
                    · have e74 : ac.tmps.getD 74 undef = .bool false := h.dep 74 (by kernel_rfl)
                      have e76 : ac.tmps.getD 76 undef = .slice (some ⟨gv, 0, none⟩) 16 cv := h.dep 76 (by kernel_rfl)
                      have e77 : ac.tmps.getD 77 undef = .int .i64 (i : Int) := h.dep 77 (by kernel_rfl)
                      refine ⟨wants_some (d := 74) rfl rfl (by rw [h.size]; show 74 < 186; decide) e74, .pointer (some ⟨gv, i, none⟩), w, ?_, Fk.refl _ _, rfl⟩
                      clear h
                      simp only [execOp, Act.eval, e76, e77]
                      go_simp
                    refine ⟨Fk.value rfl fun ac w h => ?_, ?_⟩
                    · have e74 : ac.tmps.getD 74 undef = .bool false := h.dep 74 (by kernel_rfl)
                      have e78 : ac.tmps.getD 78 undef = .pointer (some ⟨gv, i, none⟩) := h.dep 78 (by kernel_rfl)
                      have c1 := (HEi.out w h.base).1
                      refine ⟨wants_some (d := 74) rfl rfl (by rw [h.size]; show 74 < 186; decide) e74, .slice (some ⟨gi, 0, none⟩) 32 ci, w, ?_, Fk.refl _ _, rfl⟩
                      clear h
                      simp only [execOp, Act.eval, e78]
                      go_simp
                    refine ⟨Fk.value rfl fun ac w h => ?_, ?_⟩
                    · have e74 : ac.tmps.getD 74 undef = .bool false := h.dep 74 (by kernel_rfl)
                      obtain ⟨g75, c75, e75, h75, m75, q75, b75⟩ : ∃ g c, ac.tmps.getD 75 undef = .slice (some ⟨g, 0, none⟩) 0 c ∧ 0 ≤ c ∧ c ≤ maxLen ∧ w0.heap.size ≤ g ∧ BB w g c := h.dep 75 (by kernel_rfl)
                      have e79 : ac.tmps.getD 79 undef = .slice (some ⟨gi, 0, none⟩) 32 ci := h.dep 79 (by kernel_rfl)
                      obtain ⟨g', c', w', hr, hc1, hc2, hc3, hc4, hc5, hc6⟩ := bb_append w g75 0 c75 gi 32 ci ci b75 h75 m75 (HEi.out w h.base).2.2.2.1 (HEi.out w h.base).2.1 (by decide)
                      exact ⟨wants_some (d := 74) rfl rfl (by rw [h.size]; show 74 < 186; decide) e74, _, w', Fk.run_append rfl rfl e75 e79 hr, km_row hc5 b75 q75 hc4, ⟨g', c', rfl, hc1, hc2, by rcases hc6 with rfl | rfl; exact q75; exact h.base.ns.grown.size, hc3⟩⟩
                    refine ⟨Fk.value rfl fun ac w h => ?_, ?_⟩
                    · have e74 : ac.tmps.getD 74 undef = .bool false := h.dep 74 (by kernel_rfl)
                      have e1 : ac.tmps.getD 1 undef = .slice (some ⟨gv, 0, none⟩) 16 cv := h.rest 1 (by kernel_rfl)
                      refine ⟨wants_some (d := 74) rfl rfl (by rw [h.size]; show 74 < 186; decide) e74, .slice (some ⟨gv, 0, none⟩) 16 cv, w, ?_, Fk.refl _ _, rfl⟩
                      clear h
                      simp only [execOp, Act.eval, e1]
                      go_simp
                    refine ⟨Fk.value rfl fun ac w h => ?_, ?_⟩
                    · have e74 : ac.tmps.getD 74 undef = .bool false := h.dep 74 (by kernel_rfl)
                      have e6 : ac.tmps.getD 6 undef = .int .i64 (k : Int) := h.rest 6 (by kernel_rfl)
                      refine ⟨wants_some (d := 74) rfl rfl (by rw [h.size]; show 74 < 186; decide) e74, .int .i64 (k : Int), w, ?_, Fk.refl _ _, rfl⟩
                      clear h
                      simp only [execOp, Act.eval, e6]
                      go_simp
                    refine ⟨Fk.value rfl fun ac w h => ?_, ?_⟩
                    · have e74 : ac.tmps.getD 74 undef = .bool false := h.dep 74 (by kernel_rfl)
                      have e81 : ac.tmps.getD 81 undef = .slice (some ⟨gv, 0, none⟩) 16 cv := h.dep 81 (by kernel_rfl)
                      have e82 : ac.tmps.getD 82 undef = .int .i64 (k : Int) := h.dep 82 (by kernel_rfl)
                      refine ⟨wants_some (d := 74) rfl rfl (by rw [h.size]; show 74 < 186; decide) e74, .pointer (some ⟨gv, k, none⟩), w, ?_, Fk.refl _ _, rfl⟩
                      clear h
                      simp only [execOp, Act.eval, e81, e82]
                      go_simp
                    refine ⟨Fk.value rfl fun ac w h => ?_, ?_⟩
                    · have e74 : ac.tmps.getD 74 undef = .bool false := h.dep 74 (by kernel_rfl)
                      have e83 : ac.tmps.getD 83 undef = .pointer (some ⟨gv, k, none⟩) := h.dep 83 (by kernel_rfl)
                      have c1 := (HEk.out w h.base).1
                      refine ⟨wants_some (d := 74) rfl rfl (by rw [h.size]; show 74 < 186; decide) e74, .slice (some ⟨gk, 0, none⟩) 32 ck, w, ?_, Fk.refl _ _, rfl⟩
                      clear h
                      simp only [execOp, Act.eval, e83]
                      go_simp
                    refine ⟨Fk.value rfl fun ac w h => ?_, ?_⟩
                    · have e74 : ac.tmps.getD 74 undef = .bool false := h.dep 74 (by kernel_rfl)
                      obtain ⟨g80, c80, e80, h80, m80, q80, b80⟩ : ∃ g c, ac.tmps.getD 80 undef = .slice (some ⟨g, 0, none⟩) 32 c ∧ 32 ≤ c ∧ c ≤ maxLen ∧ w0.heap.size ≤ g ∧ BB w g c := h.dep 80 (by kernel_rfl)
                      have e84 : ac.tmps.getD 84 undef = .slice (some ⟨gk, 0, none⟩) 32 ck := h.dep 84 (by kernel_rfl)
                      obtain ⟨g', c', w', hr, hc1, hc2, hc3, hc4, hc5, hc6⟩ := bb_append w g80 32 c80 gk 32 ck ck b80 h80 m80 (HEk.out w h.base).2.2.2.1 (HEk.out w h.base).2.1 (by decide)
                      exact ⟨wants_some (d := 74) rfl rfl (by rw [h.size]; show 74 < 186; decide) e74, _, w', Fk.run_append rfl rfl e80 e84 hr, km_row hc5 b80 q80 hc4, ⟨g', c', rfl, hc1, hc2, by rcases hc6 with rfl | rfl; exact q80; exact h.base.ns.grown.size, hc3⟩⟩
                    refine ⟨Fk.call rfl fun ac w h => ?_, ?_⟩
                    · have e74 : ac.tmps.getD 74 undef = .bool false := h.dep 74 (by kernel_rfl)
                      obtain ⟨g85, c85, e85, h85, m85, q85, b85⟩ : ∃ g c, ac.tmps.getD 85 undef = .slice (some ⟨g, 0, none⟩) 64 c ∧ 64 ≤ c ∧ c ≤ maxLen ∧ w0.heap.size ≤ g ∧ BB w g c := h.dep 85 (by kernel_rfl)
                      have x85 : ac.tmps[85]?.getD undef = .slice (some ⟨g85, 0, none⟩) 64 c85 := by simpa using e85
                      have hb := h.base
                      refine ⟨wants_some (d := 74) rfl rfl (by rw [h.size]; show 74 < 186; decide) e74, 3, #[.slice (some ⟨g85, 0, none⟩) 64 c85], ?_, ?_⟩
                      · clear h hb e85 h85 m85 q85 b85
                        go_simp
                      · refine (HRD.out w hb 64 g85 c85 b85 h85 m85).mono ?_
                        intro e w1 hp
                        obtain ⟨rfl, hg⟩ := hp
                        exact ⟨_, rfl, km_none hg, rfl⟩
                    refine ⟨Fk.value rfl fun ac w h => ?_, ?_⟩
                    · have e74 : ac.tmps.getD 74 undef = .bool false := h.dep 74 (by kernel_rfl)
                      have e86 : ac.tmps.getD 86 undef = .bool true := h.dep 86 (by kernel_rfl)
                      refine ⟨wants_some (d := 74) rfl rfl (by rw [h.size]; show 74 < 186; decide) e74, .bool false, w, ?_, Fk.refl _ _, rfl⟩
                      clear h
                      simp only [execOp, Act.eval, e86]
                      go_simp
                    refine ⟨Fk.value rfl fun ac w h => ?_, ?_⟩
                    · have e74 : ac.tmps.getD 74 undef = .bool false := h.dep 74 (by kernel_rfl)
                      have e87 : ac.tmps.getD 87 undef = .bool false := h.dep 87 (by kernel_rfl)
                      refine ⟨wants_none rfl, .bool false, w, ?_, Fk.refl _ _, rfl⟩
                      clear h
                      simp only [execOp, Act.eval, e74, e87]
                      go_simp
                    trivial
                  · intro aq wq hB hsz hdf hrest hslots _
                    obtain ⟨u55, hs55⟩ : ∃ u, aq.tmps.getD 55 undef = u := ⟨_, rfl⟩
                    obtain ⟨u56, hs56⟩ : ∃ u, aq.tmps.getD 56 undef = u := ⟨_, rfl⟩
                    obtain ⟨u57, hs57⟩ : ∃ u, aq.tmps.getD 57 undef = u := ⟨_, rfl⟩
                    obtain ⟨u58, hs58⟩ : ∃ u, aq.tmps.getD 58 undef = u := ⟨_, rfl⟩
                    obtain ⟨u59, hs59⟩ : ∃ u, aq.tmps.getD 59 undef = u := ⟨_, rfl⟩
                    obtain ⟨u60, hs60⟩ : ∃ u, aq.tmps.getD 60 undef = u := ⟨_, rfl⟩
                    obtain ⟨u61, hs61⟩ : ∃ u, aq.tmps.getD 61 undef = u := ⟨_, rfl⟩
                    obtain ⟨u62, hs62⟩ : ∃ u, aq.tmps.getD 62 undef = u := ⟨_, rfl⟩
                    obtain ⟨u63, hs63⟩ : ∃ u, aq.tmps.getD 63 undef = u := ⟨_, rfl⟩
                    obtain ⟨u64, hs64⟩ : ∃ u, aq.tmps.getD 64 undef = u := ⟨_, rfl⟩
                    obtain ⟨u65, hs65⟩ : ∃ u, aq.tmps.getD 65 undef = u := ⟨_, rfl⟩
                    obtain ⟨u66, hs66⟩ : ∃ u, aq.tmps.getD 66 undef = u := ⟨_, rfl⟩
                    obtain ⟨u67, hs67⟩ : ∃ u, aq.tmps.getD 67 undef = u := ⟨_, rfl⟩
                    obtain ⟨u68, hs68⟩ : ∃ u, aq.tmps.getD 68 undef = u := ⟨_, rfl⟩
                    obtain ⟨u69, hs69⟩ : ∃ u, aq.tmps.getD 69 undef = u := ⟨_, rfl⟩
                    obtain ⟨u70, hs70⟩ : ∃ u, aq.tmps.getD 70 undef = u := ⟨_, rfl⟩
                    obtain ⟨u71, hs71⟩ : ∃ u, aq.tmps.getD 71 undef = u := ⟨_, rfl⟩
                    obtain ⟨u72, hs72⟩ : ∃ u, aq.tmps.getD 72 undef = u := ⟨_, rfl⟩
                    obtain ⟨u73, hs73⟩ : ∃ u, aq.tmps.getD 73 undef = u := ⟨_, rfl⟩
                    obtain ⟨u74, hs74⟩ : ∃ u, aq.tmps.getD 74 undef = u := ⟨_, rfl⟩
                    obtain ⟨u75, hs75⟩ : ∃ u, aq.tmps.getD 75 undef = u := ⟨_, rfl⟩
                    obtain ⟨u76, hs76⟩ : ∃ u, aq.tmps.getD 76 undef = u := ⟨_, rfl⟩
                    obtain ⟨u77, hs77⟩ : ∃ u, aq.tmps.getD 77 undef = u := ⟨_, rfl⟩
                    obtain ⟨u78, hs78⟩ : ∃ u, aq.tmps.getD 78 undef = u := ⟨_, rfl⟩
                    obtain ⟨u79, hs79⟩ : ∃ u, aq.tmps.getD 79 undef = u := ⟨_, rfl⟩
                    obtain ⟨u80, hs80⟩ : ∃ u, aq.tmps.getD 80 undef = u := ⟨_, rfl⟩
                    obtain ⟨u81, hs81⟩ : ∃ u, aq.tmps.getD 81 undef = u := ⟨_, rfl⟩
                    obtain ⟨u82, hs82⟩ : ∃ u, aq.tmps.getD 82 undef = u := ⟨_, rfl⟩
                    obtain ⟨u83, hs83⟩ : ∃ u, aq.tmps.getD 83 undef = u := ⟨_, rfl⟩
                    obtain ⟨u84, hs84⟩ : ∃ u, aq.tmps.getD 84 undef = u := ⟨_, rfl⟩
                    obtain ⟨u85, hs85⟩ : ∃ u, aq.tmps.getD 85 undef = u := ⟨_, rfl⟩
                    obtain ⟨u86, hs86⟩ : ∃ u, aq.tmps.getD 86 undef = u := ⟨_, rfl⟩
                    obtain ⟨u87, hs87⟩ : ∃ u, aq.tmps.getD 87 undef = u := ⟨_, rfl⟩
                    obtain rfl := Fg.frame_is (a := aq) (vs := [u0, Value.slice (some ⟨gv, 0, none⟩) 16 cv, Value.int .i64 4, Value.slice (some ⟨F, 0, none⟩) 66 66, Value.int .i64 66, Value.int .i64 (i : Int), Value.int .i64 (k : Int), undef, undef, undef, undef, Value.int .i64 4, Value.bool false, u13, u14, u15, u16, u17, u18, u19, u20, u21, u22, u23, Value.slice (some ⟨F, 0, none⟩) 66 66, Value.int .i64 66, Value.slice (some ⟨F, 0, none⟩) 66 66, Value.int .i64 66, Value.bool false, u29, u30, u31, u32, u33, u1, Value.slice (some ⟨F, 0, none⟩) 66 66, Value.slice (some ⟨F, 0, none⟩) 32 66, Value.slice (some ⟨gl, 0, none⟩) 32 32, Value.slice (some ⟨g15, 0, none⟩) 32 32, Value.slice (some ⟨g14, 0, none⟩) 32 32, Value.slice (some ⟨gm, 0, none⟩) 32 33, Value.slice (some ⟨w6.heap.size, 0, none⟩) 2 2, Value.slice (some ⟨gv, 0, none⟩) 16 cv, Value.int .i64 (i : Int), Value.slice (some ⟨gv, 0, none⟩) 16 cv, Value.int .i64 16, Value.bool true, u47, u48, Value.int .i64 (k : Int), Value.slice (some ⟨gv, 0, none⟩) 16 cv, Value.int .i64 16, Value.bool true, u53, u54, u55, u56, u57, u58, u59, u60, u61, u62, u63, u64, u65, u66, u67, u68, u69, u70, u71, u72, u73, u74, u75, u76, u77, u78, u79, u80, u81, u82, u83, u84, u85, u86, u87, Value.bool false, u89, u90, u91, u92, u93, u94, u95, u96, u97, u98, u99, u100, u101, u102, u103, u104, u105, u106, u107, u108, u109, u110, u111, u112, u113, u114, u115, u116, u117, u118, u119, u120, u121, u122, u123, u124, u125, u126, u127, u128, u129, undef, undef, undef, undef, undef, undef, undef, undef, undef, undef, undef, undef, undef, undef, undef, undef, undef, undef, undef, undef, undef, undef, undef, undef, undef, undef, undef, undef, undef, undef, undef, undef, undef, undef, undef, undef, undef, undef, undef, undef, undef, undef, undef, undef, undef, undef, undef, undef, undef, undef, undef, undef, undef, undef, undef, undef]) hsz ⟨hrest 0 (by kernel_rfl), hrest 1 (by kernel_rfl), hrest 2 (by kernel_rfl), hrest 3 (by kernel_rfl), hrest 4 (by kernel_rfl), hrest 5 (by kernel_rfl), hrest 6 (by kernel_rfl), hrest 7 (by kernel_rfl), hrest 8 (by kernel_rfl), hrest 9 (by kernel_rfl), hrest 10 (by kernel_rfl), hrest 11 (by kernel_rfl), hrest 12 (by kernel_rfl), hrest 13 (by kernel_rfl), hrest 14 (by kernel_rfl), hrest 15 (by kernel_rfl), hrest 16 (by kernel_rfl), hrest 17 (by kernel_rfl), hrest 18 (by kernel_rfl), hrest 19 (by kernel_rfl), hrest 20 (by kernel_rfl), hrest 21 (by kernel_rfl), hrest 22 (by kernel_rfl), hrest 23 (by kernel_rfl), hrest 24 (by kernel_rfl), hrest 25 (by kernel_rfl), hrest 26 (by kernel_rfl), hrest 27 (by kernel_rfl), hrest 28 (by kernel_rfl), hrest 29 (by kernel_rfl), hrest 30 (by kernel_rfl), hrest 31 (by kernel_rfl), hrest 32 (by kernel_rfl), hrest 33 (by kernel_rfl), hrest 34 (by kernel_rfl), hrest 35 (by kernel_rfl), hrest 36 (by kernel_rfl), hrest 37 (by kernel_rfl), hrest 38 (by kernel_rfl), hrest 39 (by kernel_rfl), hrest 40 (by kernel_rfl), hrest 41 (by kernel_rfl), hrest 42 (by kernel_rfl), hrest 43 (by kernel_rfl), hrest 44 (by kernel_rfl), hrest 45 (by kernel_rfl), hrest 46 (by kernel_rfl), hrest 47 (by kernel_rfl), hrest 48 (by kernel_rfl), hrest 49 (by kernel_rfl), hrest 50 (by kernel_rfl), hrest 51 (by kernel_rfl), hrest 52 (by kernel_rfl), hrest 53 (by kernel_rfl), hrest 54 (by kernel_rfl), hs55, hs56, hs57, hs58, hs59, hs60, hs61, hs62, hs63, hs64, hs65, hs66, hs67, hs68, hs69, hs70, hs71, hs72, hs73, hs74, hs75, hs76, hs77, hs78, hs79, hs80, hs81, hs82, hs83, hs84, hs85, hs86, hs87, (show aq.tmps.getD 88 undef = Value.bool false from hslots 88 (by kernel_rfl)), hrest 89 (by kernel_rfl), hrest 90 (by kernel_rfl), hrest 91 (by kernel_rfl), hrest 92 (by kernel_rfl), hrest 93 (by kernel_rfl), hrest 94 (by kernel_rfl), hrest 95 (by kernel_rfl), hrest 96 (by kernel_rfl), hrest 97 (by kernel_rfl), hrest 98 (by kernel_rfl), hrest 99 (by kernel_rfl), hrest 100 (by kernel_rfl), hrest 101 (by kernel_rfl), hrest 102 (by kernel_rfl), hrest 103 (by kernel_rfl), hrest 104 (by kernel_rfl), hrest 105 (by kernel_rfl), hrest 106 (by kernel_rfl), hrest 107 (by kernel_rfl), hrest 108 (by kernel_rfl), hrest 109 (by kernel_rfl), hrest 110 (by kernel_rfl), hrest 111 (by kernel_rfl), hrest 112 (by kernel_rfl), hrest 113 (by kernel_rfl), hrest 114 (by kernel_rfl), hrest 115 (by kernel_rfl), hrest 116 (by kernel_rfl), hrest 117 (by kernel_rfl), hrest 118 (by kernel_rfl), hrest 119 (by kernel_rfl), hrest 120 (by kernel_rfl), hrest 121 (by kernel_rfl), hrest 122 (by kernel_rfl), hrest 123 (by kernel_rfl), hrest 124 (by kernel_rfl), hrest 125 (by kernel_rfl), hrest 126 (by kernel_rfl), hrest 127 (by kernel_rfl), hrest 128 (by kernel_rfl), hrest 129 (by kernel_rfl), hrest 130 (by kernel_rfl), hrest 131 (by kernel_rfl), hrest 132 (by kernel_rfl), hrest 133 (by kernel_rfl), hrest 134 (by kernel_rfl), hrest 135 (by kernel_rfl), hrest 136 (by kernel_rfl), hrest 137 (by kernel_rfl), hrest 138 (by kernel_rfl), hrest 139 (by kernel_rfl), hrest 140 (by kernel_rfl), hrest 141 (by kernel_rfl), hrest 142 (by kernel_rfl), hrest 143 (by kernel_rfl), hrest 144 (by kernel_rfl), hrest 145 (by kernel_rfl), hrest 146 (by kernel_rfl), hrest 147 (by kernel_rfl), hrest 148 (by kernel_rfl), hrest 149 (by kernel_rfl), hrest 150 (by kernel_rfl), hrest 151 (by kernel_rfl), hrest 152 (by kernel_rfl), hrest 153 (by kernel_rfl), hrest 154 (by kernel_rfl), hrest 155 (by kernel_rfl), hrest 156 (by kernel_rfl), hrest 157 (by kernel_rfl), hrest 158 (by kernel_rfl), hrest 159 (by kernel_rfl), hrest 160 (by kernel_rfl), hrest 161 (by kernel_rfl), hrest 162 (by kernel_rfl), hrest 163 (by kernel_rfl), hrest 164 (by kernel_rfl), hrest 165 (by kernel_rfl), hrest 166 (by kernel_rfl), hrest 167 (by kernel_rfl), hrest 168 (by kernel_rfl), hrest 169 (by kernel_rfl), hrest 170 (by kernel_rfl), hrest 171 (by kernel_rfl), hrest 172 (by kernel_rfl), hrest 173 (by kernel_rfl), hrest 174 (by kernel_rfl), hrest 175 (by kernel_rfl), hrest 176 (by kernel_rfl), hrest 177 (by kernel_rfl), hrest 178 (by kernel_rfl), hrest 179 (by kernel_rfl), hrest 180 (by kernel_rfl), hrest 181 (by kernel_rfl), hrest 182 (by kernel_rfl), hrest 183 (by kernel_rfl), hrest 184 (by kernel_rfl), hrest 185 (by kernel_rfl), trivial⟩ hdf
                    have HD := Lib.hid hB
                    clear hB hsz hdf hrest hslots hs55 hs56 hs57 hs58 hs59 hs60 hs61 hs62 hs63 hs64 hs65 hs66 hs67 hs68 hs69 hs70 hs71 hs72 hs73 hs74 hs75 hs76 hs77 hs78 hs79 hs80 hs81 hs82 hs83 hs84 hs85 hs86 hs87
                    go_wp2
                    go_roundw
                    case rel => exact ⟨k + 1, by omega, by go_num, HD.out⟩
                    case measure => simp [intOf]; omega
                · obtain rfl : k = 16 := by omega
                  have hci := (HC.out wr HB.out i hit).2.1
                  have hci2 := (HC.out wr HB.out i hit).2.2.1
                  have HEi := Lib.hid (fun w' h => HC.out w' h i hit)
                  generalize (E2.getD i (0, 0)).1 = gi at HEi
                  generalize (E2.getD i (0, 0)).2 = ci at HEi hci hci2
                  have hc31 : (31 : Int) ≤ (ci : Int) := by omega
                  go_wp2_with fail
                  refine wp_region_flow3 (Fk.its [.any, .any, .any, .any, .any, .any, .any, .any, .any, .any, .any, .any, .any, .any, .any, .any, .any, .any, .any, .any, .any, .any, .any, .any, .any, .any, .any, .any, .any, .any, .any, .any, .any, .any, .any, .any, .any, .any, .any, .any, .any, .any, .any, .any, .any, .any, .any, .any, .any, .any, .any, .any, .any, .any, .any, .any, .any, .any, .any, .any, .any, .any, .any, .any, .any, .any, .any, .any, .any, .any, .any, .any, .any, .any, .any, .any, .any, .any, .any, .any, .any, .any, .any, .any, .any, .any, .any, .any, .any, .val (.slice (some ⟨gv, 0, none⟩) 16 cv), .val (.int .i64 (i : Int)), .val (.pointer (some ⟨gv, i, none⟩)), .val (.slice (some ⟨gi, 0, none⟩) 32 ci), .val (.bool true), .val (.bool false), .val (.bool false), .val (.slice (some ⟨gv, 0, none⟩) 16 cv), .val (.int .i64 (i : Int)), .val (.pointer (some ⟨gv, i, none⟩)), .val (.slice (some ⟨gi, 0, none⟩) 32 ci), .val (.slice (some ⟨gv, 0, none⟩) 16 cv), .val (.int .i64 (i : Int)), .val (.pointer (some ⟨gv, i, none⟩)), .val (.slice (some ⟨gi, 0, none⟩) 32 ci), .val (.slice (some ⟨gi, 0, none⟩) 31 ci), .val (.slice (some ⟨gv, 0, none⟩) 16 cv), .val (.int .i64 (i : Int)), .val (.pointer (some ⟨gv, i, none⟩)), .val (.slice (some ⟨gi, 0, none⟩) 32 ci), .val (.bool true), .val (.bool false), .val (.bool false), .val (.bool false), .val (.slice (some ⟨gv, 0, none⟩) 16 cv), .val (.int .i64 (i : Int)), .val (.pointer (some ⟨gv, i, none⟩)), .val (.slice (some ⟨gi, 0, none⟩) 32 ci), .val (.slice (some ⟨gv, 0, none⟩) 16 cv), .val (.int .i64 (i : Int)), .val (.pointer (some ⟨gv, i, none⟩)), .val (.slice (some ⟨gi, 0, none⟩) 32 ci), .val (.slice (some ⟨gv, 0, none⟩) 16 cv), .val (.int .i64 (i : Int)), .val (.pointer (some ⟨gv, i, none⟩)), .val (.slice (some ⟨gi, 0, none⟩) 32 ci), Fk.It.bb w0.heap.size 1, Fk.It.bb w0.heap.size 33, .val (.bool true), .val (.bool false), .val (.bool false)]) (fun _ => 0) (fun _ _ _ => True) (NB w0 (.slice (some ⟨gv, 0, none⟩) 16 cv) E2 F) [] (by kernel_rfl) (by kernel_rfl) (by kernel_rfl) (HB.out.stay (gb_drew (gb_refl _ _))) (Fg.ptrs_nil _ _) (Fg.no_store (by kernel_rfl)) ?_ ?_
                  · refine ⟨Fk.value rfl fun ac w h => ?_, ?_⟩
                    · have e1 : ac.tmps.getD 1 undef = .slice (some ⟨gv, 0, none⟩) 16 cv := h.rest 1 (by kernel_rfl)
                      refine ⟨wants_none rfl, .slice (some ⟨gv, 0, none⟩) 16 cv, w, ?_, Fk.refl _ _, rfl⟩
                      clear h
                      simp only [execOp, Act.eval, e1]
                      go_simp
                    refine ⟨Fk.value rfl fun ac w h => ?_, ?_⟩
                    · have e5 : ac.tmps.getD 5 undef = .int .i64 (i : Int) := h.rest 5 (by kernel_rfl)
                      refine ⟨wants_none rfl, .int .i64 (i : Int), w, ?_, Fk.refl _ _, rfl⟩
                      clear h
                      simp only [execOp, Act.eval, e5]
                      go_simp
                    refine ⟨Fk.value rfl fun ac w h => ?_, ?_⟩
                    · have e89 : ac.tmps.getD 89 undef = .slice (some ⟨gv, 0, none⟩) 16 cv := h.dep 89 (by kernel_rfl)
                      have e90 : ac.tmps.getD 90 undef = .int .i64 (i : Int) := h.dep 90 (by kernel_rfl)
                      refine ⟨wants_none rfl, .pointer (some ⟨gv, i, none⟩), w, ?_, Fk.refl _ _, rfl⟩
                      clear h
                      simp only [execOp, Act.eval, e89, e90]
                      go_simp
                    refine ⟨Fk.value rfl fun ac w h => ?_, ?_⟩
                    · have e91 : ac.tmps.getD 91 undef = .pointer (some ⟨gv, i, none⟩) := h.dep 91 (by kernel_rfl)
                      have c1 := (HEi.out w h.base).1
                      refine ⟨wants_none rfl, .slice (some ⟨gi, 0, none⟩) 32 ci, w, ?_, Fk.refl _ _, rfl⟩
                      clear h
                      simp only [execOp, Act.eval, e91]
                      go_simp
                    refine ⟨Fk.call rfl fun ac w h => ?_, ?_⟩
                    · have e92 : ac.tmps.getD 92 undef = .slice (some ⟨gi, 0, none⟩) 32 ci := h.dep 92 (by kernel_rfl)
                      have x92 : ac.tmps[92]?.getD undef = .slice (some ⟨gi, 0, none⟩) 32 ci := by simpa using e92
                      have hb := h.base
                      refine ⟨wants_none rfl, 3, #[.slice (some ⟨gi, 0, none⟩) 32 ci], ?_, ?_⟩
                      · clear h hb e92
                        go_simp
                      · refine (HRD.out w h.base 32 gi ci (HEi.out w h.base).2.2.2.1 (HEi.out w h.base).2.1 (le_max (HEi.out w h.base).2.2.1)).mono ?_
                        intro e w1 hp
                        obtain ⟨rfl, hg⟩ := hp
                        exact ⟨_, rfl, km_none hg, rfl⟩
                    refine ⟨Fk.value rfl fun ac w h => ?_, ?_⟩
                    · have e93 : ac.tmps.getD 93 undef = .bool true := h.dep 93 (by kernel_rfl)
                      refine ⟨wants_none rfl, .bool false, w, ?_, Fk.refl _ _, rfl⟩
                      clear h
                      simp only [execOp, Act.eval, e93]
                      go_simp
                    refine ⟨Fk.value rfl fun ac w h => ?_, ?_⟩
                    · have e94 : ac.tmps.getD 94 undef = .bool false := h.dep 94 (by kernel_rfl)
                      refine ⟨wants_none rfl, .bool false, w, ?_, Fk.refl _ _, rfl⟩
                      clear h
                      simp only [execOp, Act.eval, e94]
                      go_simp
                    refine ⟨Fk.value rfl fun ac w h => ?_, ?_⟩
                    · have e95 : ac.tmps.getD 95 undef = .bool false := h.dep 95 (by kernel_rfl)
                      have e1 : ac.tmps.getD 1 undef = .slice (some ⟨gv, 0, none⟩) 16 cv := h.rest 1 (by kernel_rfl)
                      refine ⟨wants_some (d := 95) rfl rfl (by rw [h.size]; show 95 < 186; decide) e95, .slice (some ⟨gv, 0, none⟩) 16 cv, w, ?_, Fk.refl _ _, rfl⟩
                      clear h
                      simp only [execOp, Act.eval, e1]
                      go_simp
                    refine ⟨Fk.value rfl fun ac w h => ?_, ?_⟩
                    · have e95 : ac.tmps.getD 95 undef = .bool false := h.dep 95 (by kernel_rfl)
                      have e5 : ac.tmps.getD 5 undef = .int .i64 (i : Int) := h.rest 5 (by kernel_rfl)
                      refine ⟨wants_some (d := 95) rfl rfl (by rw [h.size]; show 95 < 186; decide) e95, .int .i64 (i : Int), w, ?_, Fk.refl _ _, rfl⟩
                      clear h
                      simp only [execOp, Act.eval, e5]
                      go_simp
                    refine ⟨Fk.value rfl fun ac w h => ?_, ?_⟩
                    · have e95 : ac.tmps.getD 95 undef = .bool false := h.dep 95 (by kernel_rfl)
                      have e96 : ac.tmps.getD 96 undef = .slice (some ⟨gv, 0, none⟩) 16 cv := h.dep 96 (by kernel_rfl)
                      have e97 : ac.tmps.getD 97 undef = .int .i64 (i : Int) := h.dep 97 (by kernel_rfl)
                      refine ⟨wants_some (d := 95) rfl rfl (by rw [h.size]; show 95 < 186; decide) e95, .pointer (some ⟨gv, i, none⟩), w, ?_, Fk.refl _ _, rfl⟩
                      clear h
                      simp only [execOp, Act.eval, e96, e97]
                      go_simp
                    refine ⟨Fk.value rfl fun ac w h => ?_, ?_⟩
                    · have e95 : ac.tmps.getD 95 undef = .bool false := h.dep 95 (by kernel_rfl)
                      have e98 : ac.tmps.getD 98 undef = .pointer (some ⟨gv, i, none⟩) := h.dep 98 (by kernel_rfl)
                      have c1 := (HEi.out w h.base).1
                      refine ⟨wants_some (d := 95) rfl rfl (by rw [h.size]; show 95 < 186; decide) e95, .slice (some ⟨gi, 0, none⟩) 32 ci, w, ?_, Fk.refl _ _, rfl⟩
                      clear h
                      simp only [execOp, Act.eval, e98]
                      go_simp
                    refine ⟨Fk.value rfl fun ac w h => ?_, ?_⟩
                    · have e95 : ac.tmps.getD 95 undef = .bool false := h.dep 95 (by kernel_rfl)
                      have e1 : ac.tmps.getD 1 undef = .slice (some ⟨gv, 0, none⟩) 16 cv := h.rest 1 (by kernel_rfl)
                      refine ⟨wants_some (d := 95) rfl rfl (by rw [h.size]; show 95 < 186; decide) e95, .slice (some ⟨gv, 0, none⟩) 16 cv, w, ?_, Fk.refl _ _, rfl⟩
                      clear h
                      simp only [execOp, Act.eval, e1]
                      go_simp
                    refine ⟨Fk.value rfl fun ac w h => ?_, ?_⟩
                    · have e95 : ac.tmps.getD 95 undef = .bool false := h.dep 95 (by kernel_rfl)
                      have e5 : ac.tmps.getD 5 undef = .int .i64 (i : Int) := h.rest 5 (by kernel_rfl)
                      refine ⟨wants_some (d := 95) rfl rfl (by rw [h.size]; show 95 < 186; decide) e95, .int .i64 (i : Int), w, ?_, Fk.refl _ _, rfl⟩
                      clear h
                      simp only [execOp, Act.eval, e5]
                      go_simp
                    refine ⟨Fk.value rfl fun ac w h => ?_, ?_⟩
                    · have e95 : ac.tmps.getD 95 undef = .bool false := h.dep 95 (by kernel_rfl)
                      have e100 : ac.tmps.getD 100 undef = .slice (some ⟨gv, 0, none⟩) 16 cv := h.dep 100 (by kernel_rfl)
                      have e101 : ac.tmps.getD 101 undef = .int .i64 (i : Int) := h.dep 101 (by kernel_rfl)
                      refine ⟨wants_some (d := 95) rfl rfl (by rw [h.size]; show 95 < 186; decide) e95, .pointer (some ⟨gv, i, none⟩), w, ?_, Fk.refl _ _, rfl⟩
                      clear h
                      simp only [execOp, Act.eval, e100, e101]
                      go_simp
                    refine ⟨Fk.value rfl fun ac w h => ?_, ?_⟩
                    · have e95 : ac.tmps.getD 95 undef = .bool false := h.dep 95 (by kernel_rfl)
                      have e102 : ac.tmps.getD 102 undef = .pointer (some ⟨gv, i, none⟩) := h.dep 102 (by kernel_rfl)
                      have c1 := (HEi.out w h.base).1
                      refine ⟨wants_some (d := 95) rfl rfl (by rw [h.size]; show 95 < 186; decide) e95, .slice (some ⟨gi, 0, none⟩) 32 ci, w, ?_, Fk.refl _ _, rfl⟩
                      clear h
                      simp only [execOp, Act.eval, e102]
                      go_simp
                    refine ⟨Fk.value rfl fun ac w h => ?_, ?_⟩
                    · have e95 : ac.tmps.getD 95 undef = .bool false := h.dep 95 (by kernel_rfl)
                      have e103 : ac.tmps.getD 103 undef = .slice (some ⟨gi, 0, none⟩) 32 ci := h.dep 103 (by kernel_rfl)
                      refine ⟨wants_some (d := 95) rfl rfl (by rw [h.size]; show 95 < 186; decide) e95, .slice (some ⟨gi, 0, none⟩) 31 ci, w, ?_, Fk.refl _ _, rfl⟩
                      clear h
                      simp only [execOp, Act.eval, e103]
                      go_simp
                    refine ⟨Fk.value rfl fun ac w h => ?_, ?_⟩
                    · have e95 : ac.tmps.getD 95 undef = .bool false := h.dep 95 (by kernel_rfl)
                      have e1 : ac.tmps.getD 1 undef = .slice (some ⟨gv, 0, none⟩) 16 cv := h.rest 1 (by kernel_rfl)
                      refine ⟨wants_some (d := 95) rfl rfl (by rw [h.size]; show 95 < 186; decide) e95, .slice (some ⟨gv, 0, none⟩) 16 cv, w, ?_, Fk.refl _ _, rfl⟩
                      clear h
                      simp only [execOp, Act.eval, e1]
                      go_simp
                    refine ⟨Fk.value rfl fun ac w h => ?_, ?_⟩
                    · have e95 : ac.tmps.getD 95 undef = .bool false := h.dep 95 (by kernel_rfl)
                      have e5 : ac.tmps.getD 5 undef = .int .i64 (i : Int) := h.rest 5 (by kernel_rfl)
                      refine ⟨wants_some (d := 95) rfl rfl (by rw [h.size]; show 95 < 186; decide) e95, .int .i64 (i : Int), w, ?_, Fk.refl _ _, rfl⟩
                      clear h
                      simp only [execOp, Act.eval, e5]
                      go_simp
                    refine ⟨Fk.value rfl fun ac w h => ?_, ?_⟩
                    · have e95 : ac.tmps.getD 95 undef = .bool false := h.dep 95 (by kernel_rfl)
                      have e105 : ac.tmps.getD 105 undef = .slice (some ⟨gv, 0, none⟩) 16 cv := h.dep 105 (by kernel_rfl)
                      have e106 : ac.tmps.getD 106 undef = .int .i64 (i : Int) := h.dep 106 (by kernel_rfl)
                      refine ⟨wants_some (d := 95) rfl rfl (by rw [h.size]; show 95 < 186; decide) e95, .pointer (some ⟨gv, i, none⟩), w, ?_, Fk.refl _ _, rfl⟩
                      clear h
                      simp only [execOp, Act.eval, e105, e106]
                      go_simp
                    refine ⟨Fk.value rfl fun ac w h => ?_, ?_⟩
                    · have e95 : ac.tmps.getD 95 undef = .bool false := h.dep 95 (by kernel_rfl)
                      have e107 : ac.tmps.getD 107 undef = .pointer (some ⟨gv, i, none⟩) := h.dep 107 (by kernel_rfl)
                      have c1 := (HEi.out w h.base).1
                      refine ⟨wants_some (d := 95) rfl rfl (by rw [h.size]; show 95 < 186; decide) e95, .slice (some ⟨gi, 0, none⟩) 32 ci, w, ?_, Fk.refl _ _, rfl⟩
                      clear h
                      simp only [execOp, Act.eval, e107]
                      go_simp
                    refine ⟨Fk.call rfl fun ac w h => ?_, ?_⟩
                    · have e95 : ac.tmps.getD 95 undef = .bool false := h.dep 95 (by kernel_rfl)
                      have e99 : ac.tmps.getD 99 undef = .slice (some ⟨gi, 0, none⟩) 32 ci := h.dep 99 (by kernel_rfl)
                      have x99 : ac.tmps[99]?.getD undef = .slice (some ⟨gi, 0, none⟩) 32 ci := by simpa using e99
                      have e104 : ac.tmps.getD 104 undef = .slice (some ⟨gi, 0, none⟩) 31 ci := h.dep 104 (by kernel_rfl)
                      have x104 : ac.tmps[104]?.getD undef = .slice (some ⟨gi, 0, none⟩) 31 ci := by simpa using e104
                      have e108 : ac.tmps.getD 108 undef = .slice (some ⟨gi, 0, none⟩) 32 ci := h.dep 108 (by kernel_rfl)
                      have x108 : ac.tmps[108]?.getD undef = .slice (some ⟨gi, 0, none⟩) 32 ci := by simpa using e108
                      have hb := h.base
                      refine ⟨wants_some (d := 95) rfl rfl (by rw [h.size]; show 95 < 186; decide) e95, 4, #[.slice (some ⟨gi, 0, none⟩) 32 ci, .slice (some ⟨gi, 0, none⟩) 31 ci, .slice (some ⟨gi, 0, none⟩) 32 ci], ?_, ?_⟩
                      · clear h hb e99 e104 e108
                        go_simp
                      · refine (HMU.out w h.base 32 31 32 _ _ _ _ _ _ (HEi.out w h.base).2.2.2.1 (HEi.out w h.base).2.2.2.1 (HEi.out w h.base).2.2.2.1 (HEi.out w h.base).2.1 (Nat.le_trans (by decide) (HEi.out w h.base).2.1) (HEi.out w h.base).2.1 (le_max (HEi.out w h.base).2.2.1) (le_max (HEi.out w h.base).2.2.1) (le_max (HEi.out w h.base).2.2.1)).mono ?_
                        intro e w1 hp
                        obtain ⟨rfl, hg⟩ := hp
                        exact ⟨_, rfl, km_none hg, rfl⟩
                    refine ⟨Fk.value rfl fun ac w h => ?_, ?_⟩
                    · have e95 : ac.tmps.getD 95 undef = .bool false := h.dep 95 (by kernel_rfl)
                      have e109 : ac.tmps.getD 109 undef = .bool true := h.dep 109 (by kernel_rfl)
                      refine ⟨wants_some (d := 95) rfl rfl (by rw [h.size]; show 95 < 186; decide) e95, .bool false, w, ?_, Fk.refl _ _, rfl⟩
                      clear h
                      simp only [execOp, Act.eval, e109]
                      go_simp
                    refine ⟨Fk.value rfl fun ac w h => ?_, ?_⟩
                    · have e95 : ac.tmps.getD 95 undef = .bool false := h.dep 95 (by kernel_rfl)
                      have e110 : ac.tmps.getD 110 undef = .bool false := h.dep 110 (by kernel_rfl)
                      refine ⟨wants_none rfl, .bool false, w, ?_, Fk.refl _ _, rfl⟩
                      clear h
                      simp only [execOp, Act.eval, e95, e110]
                      go_simp
                    refine ⟨Fk.value rfl fun ac w h => ?_, ?_⟩
                    · have e111 : ac.tmps.getD 111 undef = .bool false := h.dep 111 (by kernel_rfl)
                      refine ⟨wants_none rfl, .bool false, w, ?_, Fk.refl _ _, rfl⟩
                      clear h
                      simp only [execOp, Act.eval, e111]
                      go_simp
                    refine ⟨Fk.value rfl fun ac w h => ?_, ?_⟩
                    · have e112 : ac.tmps.getD 112 undef = .bool false := h.dep 112 (by kernel_rfl)
                      have e1 : ac.tmps.getD 1 undef = .slice (some ⟨gv, 0, none⟩) 16 cv := h.rest 1 (by kernel_rfl)
                      refine ⟨wants_some (d := 112) rfl rfl (by rw [h.size]; show 112 < 186; decide) e112, .slice (some ⟨gv, 0, none⟩) 16 cv, w, ?_, Fk.refl _ _, rfl⟩
                      clear h
                      simp only [execOp, Act.eval, e1]
                      go_simp
                    refine ⟨Fk.value rfl fun ac w h => ?_, ?_⟩
                    · have e112 : ac.tmps.getD 112 undef = .bool false := h.dep 112 (by kernel_rfl)
                      have e5 : ac.tmps.getD 5 undef = .int .i64 (i : Int) := h.rest 5 (by kernel_rfl)
                      refine ⟨wants_some (d := 112) rfl rfl (by rw [h.size]; show 112 < 186; decide) e112, .int .i64 (i : Int), w, ?_, Fk.refl _ _, rfl⟩
                      clear h
                      simp only [execOp, Act.eval, e5]
                      go_simp
                    refine ⟨Fk.value rfl fun ac w h => ?_, ?_⟩
                    · have e112 : ac.tmps.getD 112 undef = .bool false := h.dep 112 (by kernel_rfl)
                      have e113 : ac.tmps.getD 113 undef = .slice (some ⟨gv, 0, none⟩) 16 cv := h.dep 113 (by kernel_rfl)
                      have e114 : ac.tmps.getD 114 undef = .int .i64 (i : Int) := h.dep 114 (by kernel_rfl)
                      refine ⟨wants_some (d := 112) rfl rfl (by rw [h.size]; show 112 < 186; decide) e112, .pointer (some ⟨gv, i, none⟩), w, ?_, Fk.refl _ _, rfl⟩
                      clear h
                      simp only [execOp, Act.eval, e113, e114]
                      go_simp
                    refine ⟨Fk.value rfl fun ac w h => ?_, ?_⟩
                    · have e112 : ac.tmps.getD 112 undef = .bool false := h.dep 112 (by kernel_rfl)
                      have e115 : ac.tmps.getD 115 undef = .pointer (some ⟨gv, i, none⟩) := h.dep 115 (by kernel_rfl)
                      have c1 := (HEi.out w h.base).1
                      refine ⟨wants_some (d := 112) rfl rfl (by rw [h.size]; show 112 < 186; decide) e112, .slice (some ⟨gi, 0, none⟩) 32 ci, w, ?_, Fk.refl _ _, rfl⟩
                      clear h
                      simp only [execOp, Act.eval, e115]
                      go_simp
                    refine ⟨Fk.value rfl fun ac w h => ?_, ?_⟩
                    · have e112 : ac.tmps.getD 112 undef = .bool false := h.dep 112 (by kernel_rfl)
                      have e1 : ac.tmps.getD 1 undef = .slice (some ⟨gv, 0, none⟩) 16 cv := h.rest 1 (by kernel_rfl)
                      refine ⟨wants_some (d := 112) rfl rfl (by rw [h.size]; show 112 < 186; decide) e112, .slice (some ⟨gv, 0, none⟩) 16 cv, w, ?_, Fk.refl _ _, rfl⟩
                      clear h
                      simp only [execOp, Act.eval, e1]
                      go_simp
                    refine ⟨Fk.value rfl fun ac w h => ?_, ?_⟩
                    · have e112 : ac.tmps.getD 112 undef = .bool false := h.dep 112 (by kernel_rfl)
                      have e5 : ac.tmps.getD 5 undef = .int .i64 (i : Int) := h.rest 5 (by kernel_rfl)
                      refine ⟨wants_some (d := 112) rfl rfl (by rw [h.size]; show 112 < 186; decide) e112, .int .i64 (i : Int), w, ?_, Fk.refl _ _, rfl⟩
                      clear h
                      simp only [execOp, Act.eval, e5]
                      go_simp
                    refine ⟨Fk.value rfl fun ac w h => ?_, ?_⟩
                    · have e112 : ac.tmps.getD 112 undef = .bool false := h.dep 112 (by kernel_rfl)
                      have e117 : ac.tmps.getD 117 undef = .slice (some ⟨gv, 0, none⟩) 16 cv := h.dep 117 (by kernel_rfl)
                      have e118 : ac.tmps.getD 118 undef = .int .i64 (i : Int) := h.dep 118 (by kernel_rfl)
                      refine ⟨wants_some (d := 112) rfl rfl (by rw [h.size]; show 112 < 186; decide) e112, .pointer (some ⟨gv, i, none⟩), w, ?_, Fk.refl _ _, rfl⟩
                      clear h
                      simp only [execOp, Act.eval, e117, e118]
                      go_simp
                    refine ⟨Fk.value rfl fun ac w h => ?_, ?_⟩
                    · have e112 : ac.tmps.getD 112 undef = .bool false := h.dep 112 (by kernel_rfl)
                      have e119 : ac.tmps.getD 119 undef = .pointer (some ⟨gv, i, none⟩) := h.dep 119 (by kernel_rfl)
                      have c1 := (HEi.out w h.base).1
                      refine ⟨wants_some (d := 112) rfl rfl (by rw [h.size]; show 112 < 186; decide) e112, .slice (some ⟨gi, 0, none⟩) 32 ci, w, ?_, Fk.refl _ _, rfl⟩
                      clear h
                      simp only [execOp, Act.eval, e119]
                      go_simp
                    refine ⟨Fk.value rfl fun ac w h => ?_, ?_⟩
                    · have e112 : ac.tmps.getD 112 undef = .bool false := h.dep 112 (by kernel_rfl)
                      have e1 : ac.tmps.getD 1 undef = .slice (some ⟨gv, 0, none⟩) 16 cv := h.rest 1 (by kernel_rfl)
                      refine ⟨wants_some (d := 112) rfl rfl (by rw [h.size]; show 112 < 186; decide) e112, .slice (some ⟨gv, 0, none⟩) 16 cv, w, ?_, Fk.refl _ _, rfl⟩
                      clear h
                      simp only [execOp, Act.eval, e1]
                      go_simp
                    refine ⟨Fk.value rfl fun ac w h => ?_, ?_⟩
                    · have e112 : ac.tmps.getD 112 undef = .bool false := h.dep 112 (by kernel_rfl)
                      have e5 : ac.tmps.getD 5 undef = .int .i64 (i : Int) := h.rest 5 (by kernel_rfl)
                      refine ⟨wants_some (d := 112) rfl rfl (by rw [h.size]; show 112 < 186; decide) e112, .int .i64 (i : Int), w, ?_, Fk.refl _ _, rfl⟩
                      clear h
                      simp only [execOp, Act.eval, e5]
                      go_simp
                    refine ⟨Fk.value rfl fun ac w h => ?_, ?_⟩
                    · have e112 : ac.tmps.getD 112 undef = .bool false := h.dep 112 (by kernel_rfl)
                      have e121 : ac.tmps.getD 121 undef = .slice (some ⟨gv, 0, none⟩) 16 cv := h.dep 121 (by kernel_rfl)
                      have e122 : ac.tmps.getD 122 undef = .int .i64 (i : Int) := h.dep 122 (by kernel_rfl)
                      refine ⟨wants_some (d := 112) rfl rfl (by rw [h.size]; show 112 < 186; decide) e112, .pointer (some ⟨gv, i, none⟩), w, ?_, Fk.refl _ _, rfl⟩
                      clear h
                      simp only [execOp, Act.eval, e121, e122]
                      go_simp
                    refine ⟨Fk.value rfl fun ac w h => ?_, ?_⟩
                    · have e112 : ac.tmps.getD 112 undef = .bool false := h.dep 112 (by kernel_rfl)
                      have e123 : ac.tmps.getD 123 undef = .pointer (some ⟨gv, i, none⟩) := h.dep 123 (by kernel_rfl)
                      have c1 := (HEi.out w h.base).1
                      refine ⟨wants_some (d := 112) rfl rfl (by rw [h.size]; show 112 < 186; decide) e112, .slice (some ⟨gi, 0, none⟩) 32 ci, w, ?_, Fk.refl _ _, rfl⟩
                      clear h
                      simp only [execOp, Act.eval, e123]
                      go_simp
                    refine ⟨Fk.value rfl fun ac w h => ?_, ?_⟩
                    · have e112 : ac.tmps.getD 112 undef = .bool false := h.dep 112 (by kernel_rfl)
                      refine ⟨wants_some (d := 112) rfl rfl (by rw [h.size]; show 112 < 186; decide) e112, .slice (some ⟨w.heap.size, 0, none⟩) 1 1, w.alloc (.cells #[.int .u8 0] 5), ?_, km_none (gb_alloc (gb_refl _ _) _), ⟨w.heap.size, 1, rfl, Nat.le_refl _, by decide, h.base.ns.grown.size, bb_one w⟩⟩
                      clear h
                      go_simp
                    refine ⟨Fk.value rfl fun ac w h => ?_, ?_⟩
                    · have e112 : ac.tmps.getD 112 undef = .bool false := h.dep 112 (by kernel_rfl)
                      obtain ⟨g125, c125, e125, h125, m125, q125, b125⟩ : ∃ g c, ac.tmps.getD 125 undef = .slice (some ⟨g, 0, none⟩) 1 c ∧ 1 ≤ c ∧ c ≤ maxLen ∧ w0.heap.size ≤ g ∧ BB w g c := h.dep 125 (by kernel_rfl)
                      have e124 : ac.tmps.getD 124 undef = .slice (some ⟨gi, 0, none⟩) 32 ci := h.dep 124 (by kernel_rfl)
                      obtain ⟨g', c', w', hr, hc1, hc2, hc3, hc4, hc5, hc6⟩ := bb_append w gi 32 ci g125 1 c125 c125 (HEi.out w h.base).2.2.2.1 (HEi.out w h.base).2.1 (le_max (HEi.out w h.base).2.2.1) b125 h125 (by decide)
                      exact ⟨wants_some (d := 112) rfl rfl (by rw [h.size]; show 112 < 186; decide) e112, _, w', Fk.run_append rfl rfl e124 e125 hr, km_row hc5 (HEi.out w h.base).2.2.2.1 (HEi.out w h.base).2.2.2.2 hc4, ⟨g', c', rfl, hc1, hc2, by rcases hc6 with rfl | rfl; exact (HEi.out w h.base).2.2.2.2; exact h.base.ns.grown.size, hc3⟩⟩
                    refine ⟨Fk.call rfl fun ac w h => ?_, ?_⟩
                    · have e112 : ac.tmps.getD 112 undef = .bool false := h.dep 112 (by kernel_rfl)
                      obtain ⟨g126, c126, e126, h126, m126, q126, b126⟩ : ∃ g c, ac.tmps.getD 126 undef = .slice (some ⟨g, 0, none⟩) 33 c ∧ 33 ≤ c ∧ c ≤ maxLen ∧ w0.heap.size ≤ g ∧ BB w g c := h.dep 126 (by kernel_rfl)
                      have e116 : ac.tmps.getD 116 undef = .slice (some ⟨gi, 0, none⟩) 32 ci := h.dep 116 (by kernel_rfl)
                      have e120 : ac.tmps.getD 120 undef = .slice (some ⟨gi, 0, none⟩) 32 ci := h.dep 120 (by kernel_rfl)
                      have x126 : ac.tmps[126]?.getD undef = .slice (some ⟨g126, 0, none⟩) 33 c126 := by simpa using e126
                      have x116 : ac.tmps[116]?.getD undef = .slice (some ⟨gi, 0, none⟩) 32 ci := by simpa using e116
                      have x120 : ac.tmps[120]?.getD undef = .slice (some ⟨gi, 0, none⟩) 32 ci := by simpa using e120
                      have hb := h.base
                      refine ⟨wants_some (d := 112) rfl rfl (by rw [h.size]; show 112 < 186; decide) e112, 4, #[.slice (some ⟨gi, 0, none⟩) 32 ci, .slice (some ⟨gi, 0, none⟩) 32 ci, .slice (some ⟨g126, 0, none⟩) 33 c126], ?_, ?_⟩
                      · clear h hb e126 h126 m126 q126 b126 e116 e120
                        go_simp
                      · refine (HMU.out w hb 32 32 33 _ _ _ _ _ _ (HEi.out w h.base).2.2.2.1 (HEi.out w h.base).2.2.2.1 b126 (HEi.out w h.base).2.1 (HEi.out w h.base).2.1 h126 (le_max (HEi.out w h.base).2.2.1) (le_max (HEi.out w h.base).2.2.1) m126).mono ?_
                        intro e w1 hp
                        obtain ⟨rfl, hg⟩ := hp
                        exact ⟨_, rfl, km_none hg, rfl⟩
                    refine ⟨Fk.value rfl fun ac w h => ?_, ?_⟩
                    · have e112 : ac.tmps.getD 112 undef = .bool false := h.dep 112 (by kernel_rfl)
                      have e127 : ac.tmps.getD 127 undef = .bool true := h.dep 127 (by kernel_rfl)
                      refine ⟨wants_some (d := 112) rfl rfl (by rw [h.size]; show 112 < 186; decide) e112, .bool false, w, ?_, Fk.refl _ _, rfl⟩
                      clear h
                      simp only [execOp, Act.eval, e127]
                      go_simp
                    refine ⟨Fk.value rfl fun ac w h => ?_, ?_⟩
                    · have e112 : ac.tmps.getD 112 undef = .bool false := h.dep 112 (by kernel_rfl)
                      have e128 : ac.tmps.getD 128 undef = .bool false := h.dep 128 (by kernel_rfl)
                      refine ⟨wants_none rfl, .bool false, w, ?_, Fk.refl _ _, rfl⟩
                      clear h
                      simp only [execOp, Act.eval, e112, e128]
                      go_simp
                    trivial
                  · intro aq wq hB hsz hdf hrest hslots _
                    obtain ⟨u89, hs89⟩ : ∃ u, aq.tmps.getD 89 undef = u := ⟨_, rfl⟩
                    obtain ⟨u90, hs90⟩ : ∃ u, aq.tmps.getD 90 undef = u := ⟨_, rfl⟩
                    obtain ⟨u91, hs91⟩ : ∃ u, aq.tmps.getD 91 undef = u := ⟨_, rfl⟩
                    obtain ⟨u92, hs92⟩ : ∃ u, aq.tmps.getD 92 undef = u := ⟨_, rfl⟩
                    obtain ⟨u93, hs93⟩ : ∃ u, aq.tmps.getD 93 undef = u := ⟨_, rfl⟩
                    obtain ⟨u94, hs94⟩ : ∃ u, aq.tmps.getD 94 undef = u := ⟨_, rfl⟩
                    obtain ⟨u95, hs95⟩ : ∃ u, aq.tmps.getD 95 undef = u := ⟨_, rfl⟩
                    obtain ⟨u96, hs96⟩ : ∃ u, aq.tmps.getD 96 undef = u := ⟨_, rfl⟩
                    obtain ⟨u97, hs97⟩ : ∃ u, aq.tmps.getD 97 undef = u := ⟨_, rfl⟩
                    obtain ⟨u98, hs98⟩ : ∃ u, aq.tmps.getD 98 undef = u := ⟨_, rfl⟩
                    obtain ⟨u99, hs99⟩ : ∃ u, aq.tmps.getD 99 undef = u := ⟨_, rfl⟩
                    obtain ⟨u100, hs100⟩ : ∃ u, aq.tmps.getD 100 undef = u := ⟨_, rfl⟩
                    obtain ⟨u101, hs101⟩ : ∃ u, aq.tmps.getD 101 undef = u := ⟨_, rfl⟩
                    obtain ⟨u102, hs102⟩ : ∃ u, aq.tmps.getD 102 undef = u := ⟨_, rfl⟩
                    obtain ⟨u103, hs103⟩ : ∃ u, aq.tmps.getD 103 undef = u := ⟨_, rfl⟩
                    obtain ⟨u104, hs104⟩ : ∃ u, aq.tmps.getD 104 undef = u := ⟨_, rfl⟩
                    obtain ⟨u105, hs105⟩ : ∃ u, aq.tmps.getD 105 undef = u := ⟨_, rfl⟩
                    obtain ⟨u106, hs106⟩ : ∃ u, aq.tmps.getD 106 undef = u := ⟨_, rfl⟩
                    obtain ⟨u107, hs107⟩ : ∃ u, aq.tmps.getD 107 undef = u := ⟨_, rfl⟩
                    obtain ⟨u108, hs108⟩ : ∃ u, aq.tmps.getD 108 undef = u := ⟨_, rfl⟩
                    obtain ⟨u109, hs109⟩ : ∃ u, aq.tmps.getD 109 undef = u := ⟨_, rfl⟩
                    obtain ⟨u110, hs110⟩ : ∃ u, aq.tmps.getD 110 undef = u := ⟨_, rfl⟩
                    obtain ⟨u111, hs111⟩ : ∃ u, aq.tmps.getD 111 undef = u := ⟨_, rfl⟩
                    obtain ⟨u112, hs112⟩ : ∃ u, aq.tmps.getD 112 undef = u := ⟨_, rfl⟩
                    obtain ⟨u113, hs113⟩ : ∃ u, aq.tmps.getD 113 undef = u := ⟨_, rfl⟩
                    obtain ⟨u114, hs114⟩ : ∃ u, aq.tmps.getD 114 undef = u := ⟨_, rfl⟩
                    obtain ⟨u115, hs115⟩ : ∃ u, aq.tmps.getD 115 undef = u := ⟨_, rfl⟩
                    obtain ⟨u116, hs116⟩ : ∃ u, aq.tmps.getD 116 undef = u := ⟨_, rfl⟩
                    obtain ⟨u117, hs117⟩ : ∃ u, aq.tmps.getD 117 undef = u := ⟨_, rfl⟩
                    obtain ⟨u118, hs118⟩ : ∃ u, aq.tmps.getD 118 undef = u := ⟨_, rfl⟩
                    obtain ⟨u119, hs119⟩ : ∃ u, aq.tmps.getD 119 undef = u := ⟨_, rfl⟩
                    obtain ⟨u120, hs120⟩ : ∃ u, aq.tmps.getD 120 undef = u := ⟨_, rfl⟩
                    obtain ⟨u121, hs121⟩ : ∃ u, aq.tmps.getD 121 undef = u := ⟨_, rfl⟩
                    obtain ⟨u122, hs122⟩ : ∃ u, aq.tmps.getD 122 undef = u := ⟨_, rfl⟩
                    obtain ⟨u123, hs123⟩ : ∃ u, aq.tmps.getD 123 undef = u := ⟨_, rfl⟩
                    obtain ⟨u124, hs124⟩ : ∃ u, aq.tmps.getD 124 undef = u := ⟨_, rfl⟩
                    obtain ⟨u125, hs125⟩ : ∃ u, aq.tmps.getD 125 undef = u := ⟨_, rfl⟩
                    obtain ⟨u126, hs126⟩ : ∃ u, aq.tmps.getD 126 undef = u := ⟨_, rfl⟩
                    obtain ⟨u127, hs127⟩ : ∃ u, aq.tmps.getD 127 undef = u := ⟨_, rfl⟩
                    obtain ⟨u128, hs128⟩ : ∃ u, aq.tmps.getD 128 undef = u := ⟨_, rfl⟩
                    obtain rfl := Fg.frame_is (a := aq) (vs := [u0, Value.slice (some ⟨gv, 0, none⟩) 16 cv, Value.int .i64 4, Value.slice (some ⟨F, 0, none⟩) 66 66, Value.int .i64 66, Value.int .i64 (i : Int), Value.int .i64 (16 : Int), undef, undef, undef, undef, Value.int .i64 4, Value.bool false, u13, u14, u15, u16, u17, u18, u19, u20, u21, u22, u23, Value.slice (some ⟨F, 0, none⟩) 66 66, Value.int .i64 66, Value.slice (some ⟨F, 0, none⟩) 66 66, Value.int .i64 66, Value.bool false, u29, u30, u31, u32, u33, u1, Value.slice (some ⟨F, 0, none⟩) 66 66, Value.slice (some ⟨F, 0, none⟩) 32 66, Value.slice (some ⟨gl, 0, none⟩) 32 32, Value.slice (some ⟨g15, 0, none⟩) 32 32, Value.slice (some ⟨g14, 0, none⟩) 32 32, Value.slice (some ⟨gm, 0, none⟩) 32 33, Value.slice (some ⟨w6.heap.size, 0, none⟩) 2 2, Value.slice (some ⟨gv, 0, none⟩) 16 cv, Value.int .i64 (i : Int), Value.slice (some ⟨gv, 0, none⟩) 16 cv, Value.int .i64 16, Value.bool true, u47, u48, Value.int .i64 (16 : Int), Value.slice (some ⟨gv, 0, none⟩) 16 cv, Value.int .i64 16, Value.bool false, u53, u54, u55, u56, u57, u58, u59, u60, u61, u62, u63, u64, u65, u66, u67, u68, u69, u70, u71, u72, u73, u74, u75, u76, u77, u78, u79, u80, u81, u82, u83, u84, u85, u86, u87, u88, u89, u90, u91, u92, u93, u94, u95, u96, u97, u98, u99, u100, u101, u102, u103, u104, u105, u106, u107, u108, u109, u110, u111, u112, u113, u114, u115, u116, u117, u118, u119, u120, u121, u122, u123, u124, u125, u126, u127, u128, Value.bool false, undef, undef, undef, undef, undef, undef, undef, undef, undef, undef, undef, undef, undef, undef, undef, undef, undef, undef, undef, undef, undef, undef, undef, undef, undef, undef, undef, undef, undef, undef, undef, undef, undef, undef, undef, undef, undef, undef, undef, undef, undef, undef, undef, undef, undef, undef, undef, undef, undef, undef, undef, undef, undef, undef, undef, undef]) hsz ⟨hrest 0 (by kernel_rfl), hrest 1 (by kernel_rfl), hrest 2 (by kernel_rfl), hrest 3 (by kernel_rfl), hrest 4 (by kernel_rfl), hrest 5 (by kernel_rfl), hrest 6 (by kernel_rfl), hrest 7 (by kernel_rfl), hrest 8 (by kernel_rfl), hrest 9 (by kernel_rfl), hrest 10 (by kernel_rfl), hrest 11 (by kernel_rfl), hrest 12 (by kernel_rfl), hrest 13 (by kernel_rfl), hrest 14 (by kernel_rfl), hrest 15 (by kernel_rfl), hrest 16 (by kernel_rfl), hrest 17 (by kernel_rfl), hrest 18 (by kernel_rfl), hrest 19 (by kernel_rfl), hrest 20 (by kernel_rfl), hrest 21 (by kernel_rfl), hrest 22 (by kernel_rfl), hrest 23 (by kernel_rfl), hrest 24 (by kernel_rfl), hrest 25 (by kernel_rfl), hrest 26 (by kernel_rfl), hrest 27 (by kernel_rfl), hrest 28 (by kernel_rfl), hrest 29 (by kernel_rfl), hrest 30 (by kernel_rfl), hrest 31 (by kernel_rfl), hrest 32 (by kernel_rfl), hrest 33 (by kernel_rfl), hrest 34 (by kernel_rfl), hrest 35 (by kernel_rfl), hrest 36 (by kernel_rfl), hrest 37 (by kernel_rfl), hrest 38 (by kernel_rfl), hrest 39 (by kernel_rfl), hrest 40 (by kernel_rfl), hrest 41 (by kernel_rfl), hrest 42 (by kernel_rfl), hrest 43 (by kernel_rfl), hrest 44 (by kernel_rfl), hrest 45 (by kernel_rfl), hrest 46 (by kernel_rfl), hrest 47 (by kernel_rfl), hrest 48 (by kernel_rfl), hrest 49 (by kernel_rfl), hrest 50 (by kernel_rfl), hrest 51 (by kernel_rfl), hrest 52 (by kernel_rfl), hrest 53 (by kernel_rfl), hrest 54 (by kernel_rfl), hrest 55 (by kernel_rfl), hrest 56 (by kernel_rfl), hrest 57 (by kernel_rfl), hrest 58 (by kernel_rfl), hrest 59 (by kernel_rfl), hrest 60 (by kernel_rfl), hrest 61 (by kernel_rfl), hrest 62 (by kernel_rfl), hrest 63 (by kernel_rfl), hrest 64 (by kernel_rfl), hrest 65 (by kernel_rfl), hrest 66 (by kernel_rfl), hrest 67 (by kernel_rfl), hrest 68 (by kernel_rfl), hrest 69 (by kernel_rfl), hrest 70 (by kernel_rfl), hrest 71 (by kernel_rfl), hrest 72 (by kernel_rfl), hrest 73 (by kernel_rfl), hrest 74 (by kernel_rfl), hrest 75 (by kernel_rfl), hrest 76 (by kernel_rfl), hrest 77 (by kernel_rfl), hrest 78 (by kernel_rfl), hrest 79 (by kernel_rfl), hrest 80 (by kernel_rfl), hrest 81 (by kernel_rfl), hrest 82 (by kernel_rfl), hrest 83 (by kernel_rfl), hrest 84 (by kernel_rfl), hrest 85 (by kernel_rfl), hrest 86 (by kernel_rfl), hrest 87 (by kernel_rfl), hrest 88 (by kernel_rfl), hs89, hs90, hs91, hs92, hs93, hs94, hs95, hs96, hs97, hs98, hs99, hs100, hs101, hs102, hs103, hs104, hs105, hs106, hs107, hs108, hs109, hs110, hs111, hs112, hs113, hs114, hs115, hs116, hs117, hs118, hs119, hs120, hs121, hs122, hs123, hs124, hs125, hs126, hs127, hs128, (show aq.tmps.getD 129 undef = Value.bool false from hslots 129 (by kernel_rfl)), hrest 130 (by kernel_rfl), hrest 131 (by kernel_rfl), hrest 132 (by kernel_rfl), hrest 133 (by kernel_rfl), hrest 134 (by kernel_rfl), hrest 135 (by kernel_rfl), hrest 136 (by kernel_rfl), hrest 137 (by kernel_rfl), hrest 138 (by kernel_rfl), hrest 139 (by kernel_rfl), hrest 140 (by kernel_rfl), hrest 141 (by kernel_rfl), hrest 142 (by kernel_rfl), hrest 143 (by kernel_rfl), hrest 144 (by kernel_rfl), hrest 145 (by kernel_rfl), hrest 146 (by kernel_rfl), hrest 147 (by kernel_rfl), hrest 148 (by kernel_rfl), hrest 149 (by kernel_rfl), hrest 150 (by kernel_rfl), hrest 151 (by kernel_rfl), hrest 152 (by kernel_rfl), hrest 153 (by kernel_rfl), hrest 154 (by kernel_rfl), hrest 155 (by kernel_rfl), hrest 156 (by kernel_rfl), hrest 157 (by kernel_rfl), hrest 158 (by kernel_rfl), hrest 159 (by kernel_rfl), hrest 160 (by kernel_rfl), hrest 161 (by kernel_rfl), hrest 162 (by kernel_rfl), hrest 163 (by kernel_rfl), hrest 164 (by kernel_rfl), hrest 165 (by kernel_rfl), hrest 166 (by kernel_rfl), hrest 167 (by kernel_rfl), hrest 168 (by kernel_rfl), hrest 169 (by kernel_rfl), hrest 170 (by kernel_rfl), hrest 171 (by kernel_rfl), hrest 172 (by kernel_rfl), hrest 173 (by kernel_rfl), hrest 174 (by kernel_rfl), hrest 175 (by kernel_rfl), hrest 176 (by kernel_rfl), hrest 177 (by kernel_rfl), hrest 178 (by kernel_rfl), hrest 179 (by kernel_rfl), hrest 180 (by kernel_rfl), hrest 181 (by kernel_rfl), hrest 182 (by kernel_rfl), hrest 183 (by kernel_rfl), hrest 184 (by kernel_rfl), hrest 185 (by kernel_rfl), trivial⟩ hdf
                    have HD := Lib.hid hB
                    clear hB hsz hdf hrest hslots hs89 hs90 hs91 hs92 hs93 hs94 hs95 hs96 hs97 hs98 hs99 hs100 hs101 hs102 hs103 hs104 hs105 hs106 hs107 hs108 hs109 hs110 hs111 hs112 hs113 hs114 hs115 hs116 hs117 hs118 hs119 hs120 hs121 hs122 hs123 hs124 hs125 hs126 hs127 hs128
                    go_wp2
                    go_roundw
                    case rel => exact ⟨i + 1, by omega, by go_num, HD.out⟩
                    case measure => simp [intOf]; omega
            · have i9 : ¬ (i : Int) < 16 := by omega
              have HF : Hid (w0.grownBy wr none ∧ BB wr F 66) := ⟨HB.out.ns.grown, HB.out.full⟩
              have HRE : Hid (∀ w', w0.grownBy w' none → ∀ (n g c : Nat), BB w' g c → n ≤ c → c ≤ maxLen → Calls Tryz.prog 3 #[.slice (some ⟨g, 0, none⟩) n c] w' fun e w'' => e = .returned (.bool true) ∧ w'.grownBy w'' none) := fun w' h n g c h1 k1 m1 => ns_reds (HT.out w' h) n g c h1 k1 m1
              have HMV : Hid (∀ w', w0.grownBy w' none → ∀ (n1 n2 n3 g1 g2 g3 c1 c2 c3 : Nat), BB w' g1 c1 → BB w' g2 c2 → BB w' g3 c3 → n1 ≤ c1 → n2 ≤ c2 → n3 ≤ c3 → c1 ≤ maxLen → c2 ≤ maxLen → c3 ≤ maxLen → Calls Tryz.prog 4 #[.slice (some ⟨g1, 0, none⟩) n1 c1, .slice (some ⟨g2, 0, none⟩) n2 c2, .slice (some ⟨g3, 0, none⟩) n3 c3] w' fun e w'' => e = .returned (.bool true) ∧ w'.grownBy w'' none) := fun w' h n1 n2 n3 g1 g2 g3 c1 c2 c3 h1 h2 h3 k1 k2 k3 m1 m2 m3 => ns_muls (HT.out w' h) n1 n2 n3 g1 g2 g3 c1 c2 c3 h1 h2 h3 k1 k2 k3 m1 m2 m3
              clear HB HMU HRD HC
              go_wp2_with fail
              go_loopw [7] (fun a wr => ∃ n : Nat, n ≤ 67 ∧ a = .int .i64 n ∧ Hid (w0.grownBy wr none ∧ BB wr F 66)) (fun a _ => 67 - (intOf a).toNat)
              case atStart => exact ⟨0, by omega, rfl, HF.out⟩
              case round =>
                clear HF
                obtain ⟨n, hn, rfl, HF⟩ := hrel
                by_cases hnt : n < 67
                · have i2 : (n : Int) ≤ 66 := by omega
                  have HR1 := Lib.hid (HRE.out wr HF.out.1 n F 66 HF.out.2 (by omega) (by decide))
                  go_wp2_with fail
                  refine HR1.out.mono ?_
                  rintro e w2 ⟨rfl, hg2⟩
                  have HF2 : Hid (w0.grownBy w2 none ∧ BB w2 F 66) := ⟨gb_trans HF.out.1 hg2, HF.out.2.stay hg2⟩
                  obtain ⟨w3, hmk, hg3, hs3, hb3⟩ := make_bytes n n w2 (by omega) (by omega)
                  have hBN : BB w3 w2.heap.size n := BB.of (l := List.replicate n 0) (by rw [List.map_replicate]; exact hb3) (by simp) (getD_zero n)
                  have HR2 := Lib.hid (HRE.out w3 (gb_trans HF2.out.1 hg3) n w2.heap.size n hBN (Nat.le_refl _) (by unfold maxLen; omega))
                  have HF3 : Hid (w0.grownBy w3 none ∧ BB w3 F 66) := ⟨gb_trans HF2.out.1 hg3, HF2.out.2.stay hg3⟩
                  clear hg2 hg3 hs3 hb3 hBN HR1 HF
                  go_wp2_with fail
                  refine HR2.out.mono ?_
                  rintro e w4 ⟨rfl, hg4⟩
                  have HF4 : Hid (w0.grownBy w4 none ∧ BB w4 F 66) := ⟨gb_trans HF3.out.1 hg4, HF3.out.2.stay hg4⟩
                  clear hg4 HR2 hmk HF2 HF3
                  go_wp2
                  go_roundw
                  case rel => exact ⟨n + 1, by omega, by go_num, HF4⟩
                  case measure => simp [intOf]; omega
                · have i9n : ¬ (n : Int) ≤ 66 := by omega
                  have HG := Lib.hid HF.out.1
                  have HL := Lib.hid (fun w' => l_any 0 237 w' (by omega) (by omega))
                  clear HF
                  go_wp2_with fail
                  go_loopw [8] (fun a wr => ∃ y : Nat, y ≤ 256 ∧ a = .int .i64 y ∧ Hid (w0.grownBy wr none)) (fun a _ => 256 - (intOf a).toNat)
                  case atStart => exact ⟨0, by omega, rfl, HG.out⟩
                  case round =>
                    clear HG
                    obtain ⟨y, hy, rfl, HG⟩ := hrel
                    by_cases hyt : y < 256
                    · have i3 : (y : Int) < 256 := by omega
                      obtain ⟨w2, hmk, hg2, hs2, hb2⟩ := make_bytes 64 64 wr (by omega) (by omega)
                      have hmk' : (Instr.makeSlice 22 (.int .i64 64) (.int .i64 64)).run Tryz.prog wr = .ok (.slice (some ⟨wr.heap.size, 0, none⟩) 64 64) w2 := hmk
                      have hB2 : BB w2 wr.heap.size 64 := BB.of (l := List.replicate 64 0) (by rw [List.map_replicate]; exact hb2) (by simp) (getD_zero 64)
                      have q8 : (0 : Int) ≤ (y : Int) / 8 := by omega
                      have q9 : (y : Int) / 8 < 64 := by omega
                      have q10 : ((y : Int) / 8).toNat = y / 8 := by omega
                      obtain ⟨x8, _, c8⟩ := hB2.cell (y / 8) (by omega)
                      have f8 := hB2.free (y / 8)
                      have hp8 : (2 : Int) ^ (y % 8) % 256 = (((2 ^ (y % 8) % 256 : Nat)) : Int) := by rw [Int.natCast_emod, Int.natCast_pow]; rfl
                      obtain ⟨W3, hW3⟩ : ∃ W3, W3 = w2.setCell ⟨wr.heap.size, y / 8, none⟩ (.int .u8 (2 ^ (y % 8) % 256)) := ⟨_, rfl⟩
                      have hB3 : BB W3 wr.heap.size 64 := by rw [hW3, hp8]; exact hB2.set (y / 8) _ (by omega)
                      have hg3 : w0.grownBy W3 none := by rw [hW3]; exact gb_set_new (gb_trans HG.out hg2) (p := ⟨wr.heap.size, y / 8, none⟩) HG.out.size _
                      obtain ⟨w4, hmk4, hg4, hs4, hb4⟩ := make_bytes 64 64 W3 (by omega) (by omega)
                      have hmk4' : (Instr.makeSlice 22 (.int .i64 64) (.int .i64 64)).run Tryz.prog (w2.setCell ⟨wr.heap.size, y / 8, none⟩ (.int .u8 (2 ^ (y % 8) % 256))) = .ok (.slice (some ⟨W3.heap.size, 0, none⟩) 64 64) w4 := by rw [← hW3]; exact hmk4
                      have hB4 : BB w4 W3.heap.size 64 := BB.of (l := List.replicate 64 0) (by rw [List.map_replicate]; exact hb4) (by simp) (getD_zero 64)
                      have hB34 : BB w4 wr.heap.size 64 := hB3.stay hg4
                      have q11 : (0 : Int) ≤ 32 + (y : Int) / 8 := by omega
                      have q12 : 32 + (y : Int) / 8 < 64 := by omega
                      have q13 : (32 + (y : Int) / 8).toNat = 32 + y / 8 := by omega
                      obtain ⟨x9, _, c9⟩ := hB4.cell (32 + y / 8) (by omega)
                      have f9 := hB4.free (32 + y / 8)
                      obtain ⟨W5, hW5⟩ : ∃ W5, W5 = w4.setCell ⟨W3.heap.size, 32 + y / 8, none⟩ (.int .u8 (2 ^ (y % 8) % 256)) := ⟨_, rfl⟩
                      have H5 : Hid (w0.grownBy W5 none ∧ BB W5 wr.heap.size 64 ∧ BB W5 W3.heap.size 64) := by
                        rw [hW5, hp8]
                        exact ⟨gb_set_new (gb_trans hg3 hg4) (p := ⟨W3.heap.size, 32 + y / 8, none⟩) hg3.size _, bb_set hB4 (32 + y / 8) _ (by omega) hB34, hB4.set (32 + y / 8) _ (by omega)⟩
                      clear hmk hmk4 hg2 hs2 hb2 hB2 hB3 hg3 hg4 hs4 hb4 hB4 hB34 hp8 hW3
                      go_wp2_with fail
                      rw [← hW5]
                      have HR9 := Lib.hid (fun w' (hg : W5.grownBy w' none) => HRE.out w' (gb_trans H5.out.1 hg) 64 wr.heap.size 64 (H5.out.2.1.stay hg) (Nat.le_refl _) (by decide))
                      have HR10 := Lib.hid (fun w' (hg : W5.grownBy w' none) => HRE.out w' (gb_trans H5.out.1 hg) 64 W3.heap.size 64 (H5.out.2.2.stay hg) (Nat.le_refl _) (by decide))
                      have HMW : Hid (∀ w', W5.grownBy w' none → ∀ (a : Option Addr) (c B : Nat), BytesAt w' B a c (ordB 237) → Calls Tryz.prog 4 #[.slice (some ⟨wr.heap.size, 0, none⟩) 32 64, .slice a 32 c, .slice (some ⟨wr.heap.size, 0, none⟩) 32 64] w' fun e w'' => e = .returned (.bool true) ∧ w'.grownBy w'' none) := fun w' hg a c B hb => by
                        obtain ⟨x, hx, hA⟩ := (H5.out.2.1.stay hg).bytes (n := 32) (by decide) (by decide)
                        exact muls_any marks_kit 32 32 32 64 c 64 _ _ _ _ _ _ x (ordB 237) x w' (HT.out w' (gb_trans H5.out.1 hg)) hx rfl hx hA hb hA
                      clear hW5 hmk' hmk4' q8 q9 q10 q11 q12 q13 c8 f8 c9 f9
                      refine wp_region_flow3 (Fg.its [.any, .any, .any, .any, .any, .any, .any, .any, .any, .any, .any, .any, .any, .any, .any, .any, .any, .any, .any, .any, .any, .any, .any, .any, .any, .any, .any, .any, .any, .any, .any, .any, .any, .any, .any, .any, .any, .any, .any, .any, .any, .any, .any, .any, .any, .any, .any, .any, .any, .any, .any, .any, .any, .any, .any, .any, .any, .any, .any, .any, .any, .any, .any, .any, .any, .any, .any, .any, .any, .any, .any, .any, .any, .any, .any, .any, .any, .any, .any, .any, .any, .any, .any, .any, .any, .any, .any, .any, .any, .any, .any, .any, .any, .any, .any, .any, .any, .any, .any, .any, .any, .any, .any, .any, .any, .any, .any, .any, .any, .any, .any, .any, .any, .any, .any, .any, .any, .any, .any, .any, .any, .any, .any, .any, .any, .any, .any, .any, .any, .any, .any, .any, .any, .any, .any, .any, .any, .any, .any, .any, .any, .any, .any, .any, .any, .any, .any, .any, .any, .any, .any, .any, .any, .any, .any, .any, .any, .any, .any, .any, .any, .any, .any, .any, .any, .any, .any, .any, .val (.slice (some ⟨wr.heap.size, 0, none⟩) 64 64), .val (.bool true), .val (.bool false), .val (.bool false), .val (.slice (some ⟨W3.heap.size, 0, none⟩) 64 64), .val (.bool true), .val (.bool false), .val (.bool false), .val (.bool false), .val (.slice (some ⟨wr.heap.size, 0, none⟩) 64 64), .val (.slice (some ⟨wr.heap.size, 0, none⟩) 32 64), .byt 32 (ordB 237), .val (.slice (some ⟨wr.heap.size, 0, none⟩) 64 64), .val (.slice (some ⟨wr.heap.size, 0, none⟩) 32 64), .val (.bool true), .val (.bool false), .val (.bool false)]) (fun _ => 0) (fun _ _ _ => True) (fun w => World.grownBy W5 w none) [] (by kernel_rfl) (by kernel_rfl) (by kernel_rfl) (gb_drew (gb_refl _ _)) (Fg.ptrs_nil _ _) (Fg.no_store (by kernel_rfl)) ?_ ?_
                      · refine ⟨Fg.value rfl fun ac w h => ?_, ?_⟩
                        · have e9 : ac.tmps.getD 9 undef = .slice (some ⟨wr.heap.size, 0, none⟩) 64 64 := h.rest 9 (by kernel_rfl)
                          refine ⟨wants_none rfl, .slice (some ⟨wr.heap.size, 0, none⟩) 64 64, w, ?_, gb_refl _ _, rfl⟩
                          clear h
                          simp only [execOp, Act.eval, e9]
                          go_simp
                        refine ⟨Fg.call rfl fun ac w h => ?_, ?_⟩
                        · have e168 : ac.tmps.getD 168 undef = .slice (some ⟨wr.heap.size, 0, none⟩) 64 64 := h.dep 168 (by kernel_rfl)
                          have x168 : ac.tmps[168]?.getD undef = .slice (some ⟨wr.heap.size, 0, none⟩) 64 64 := by simpa using e168
                          have hb := h.base
                          refine ⟨wants_none rfl, 3, #[.slice (some ⟨wr.heap.size, 0, none⟩) 64 64], ?_, ?_⟩
                          · clear h hb e168
                            go_simp
                          · refine (HR9.out w h.base).mono ?_
                            intro e w1 hp
                            obtain ⟨rfl, hg⟩ := hp
                            exact ⟨_, rfl, hg, rfl⟩
                        refine ⟨Fg.value rfl fun ac w h => ?_, ?_⟩
                        · have e169 : ac.tmps.getD 169 undef = .bool true := h.dep 169 (by kernel_rfl)
                          refine ⟨wants_none rfl, .bool false, w, ?_, gb_refl _ _, rfl⟩
                          clear h
                          simp only [execOp, Act.eval, e169]
                          go_simp
                        refine ⟨Fg.value rfl fun ac w h => ?_, ?_⟩
                        · have e170 : ac.tmps.getD 170 undef = .bool false := h.dep 170 (by kernel_rfl)
                          refine ⟨wants_none rfl, .bool false, w, ?_, gb_refl _ _, rfl⟩
                          clear h
                          simp only [execOp, Act.eval, e170]
                          go_simp
                        refine ⟨Fg.value rfl fun ac w h => ?_, ?_⟩
                        · have e171 : ac.tmps.getD 171 undef = .bool false := h.dep 171 (by kernel_rfl)
                          have e10 : ac.tmps.getD 10 undef = .slice (some ⟨W3.heap.size, 0, none⟩) 64 64 := h.rest 10 (by kernel_rfl)
                          refine ⟨wants_some (d := 171) rfl rfl (by rw [h.size]; show 171 < 186; decide) e171, .slice (some ⟨W3.heap.size, 0, none⟩) 64 64, w, ?_, gb_refl _ _, rfl⟩
                          clear h
                          simp only [execOp, Act.eval, e10]
                          go_simp
                        refine ⟨Fg.call rfl fun ac w h => ?_, ?_⟩
                        · have e171 : ac.tmps.getD 171 undef = .bool false := h.dep 171 (by kernel_rfl)
                          have e172 : ac.tmps.getD 172 undef = .slice (some ⟨W3.heap.size, 0, none⟩) 64 64 := h.dep 172 (by kernel_rfl)
                          have x172 : ac.tmps[172]?.getD undef = .slice (some ⟨W3.heap.size, 0, none⟩) 64 64 := by simpa using e172
                          have hb := h.base
                          refine ⟨wants_some (d := 171) rfl rfl (by rw [h.size]; show 171 < 186; decide) e171, 3, #[.slice (some ⟨W3.heap.size, 0, none⟩) 64 64], ?_, ?_⟩
                          · clear h hb e172
                            go_simp
                          · refine (HR10.out w h.base).mono ?_
                            intro e w1 hp
                            obtain ⟨rfl, hg⟩ := hp
                            exact ⟨_, rfl, hg, rfl⟩
                        refine ⟨Fg.value rfl fun ac w h => ?_, ?_⟩
                        · have e171 : ac.tmps.getD 171 undef = .bool false := h.dep 171 (by kernel_rfl)
                          have e173 : ac.tmps.getD 173 undef = .bool true := h.dep 173 (by kernel_rfl)
                          refine ⟨wants_some (d := 171) rfl rfl (by rw [h.size]; show 171 < 186; decide) e171, .bool false, w, ?_, gb_refl _ _, rfl⟩
                          clear h
                          simp only [execOp, Act.eval, e173]
                          go_simp
                        refine ⟨Fg.value rfl fun ac w h => ?_, ?_⟩
                        · have e171 : ac.tmps.getD 171 undef = .bool false := h.dep 171 (by kernel_rfl)
                          have e174 : ac.tmps.getD 174 undef = .bool false := h.dep 174 (by kernel_rfl)
                          refine ⟨wants_none rfl, .bool false, w, ?_, gb_refl _ _, rfl⟩
                          clear h
                          simp only [execOp, Act.eval, e171, e174]
                          go_simp
                        refine ⟨Fg.value rfl fun ac w h => ?_, ?_⟩
                        · have e175 : ac.tmps.getD 175 undef = .bool false := h.dep 175 (by kernel_rfl)
                          refine ⟨wants_none rfl, .bool false, w, ?_, gb_refl _ _, rfl⟩
                          clear h
                          simp only [execOp, Act.eval, e175]
                          go_simp
                        refine ⟨Fg.value rfl fun ac w h => ?_, ?_⟩
                        · have e176 : ac.tmps.getD 176 undef = .bool false := h.dep 176 (by kernel_rfl)
                          have e9 : ac.tmps.getD 9 undef = .slice (some ⟨wr.heap.size, 0, none⟩) 64 64 := h.rest 9 (by kernel_rfl)
                          refine ⟨wants_some (d := 176) rfl rfl (by rw [h.size]; show 176 < 186; decide) e176, .slice (some ⟨wr.heap.size, 0, none⟩) 64 64, w, ?_, gb_refl _ _, rfl⟩
                          clear h
                          simp only [execOp, Act.eval, e9]
                          go_simp
                        refine ⟨Fg.value rfl fun ac w h => ?_, ?_⟩
                        · have e176 : ac.tmps.getD 176 undef = .bool false := h.dep 176 (by kernel_rfl)
                          have e177 : ac.tmps.getD 177 undef = .slice (some ⟨wr.heap.size, 0, none⟩) 64 64 := h.dep 177 (by kernel_rfl)
                          refine ⟨wants_some (d := 176) rfl rfl (by rw [h.size]; show 176 < 186; decide) e176, .slice (some ⟨wr.heap.size, 0, none⟩) 32 64, w, ?_, gb_refl _ _, rfl⟩
                          clear h
                          simp only [execOp, Act.eval, e177]
                          go_simp
                        refine ⟨Fg.call rfl fun ac w h => ?_, ?_⟩
                        · have e176 : ac.tmps.getD 176 undef = .bool false := h.dep 176 (by kernel_rfl)
                          have hb := h.base
                          refine ⟨wants_some (d := 176) rfl rfl (by rw [h.size]; show 176 < 186; decide) e176, 21, #[.int .i64 0], ?_, ?_⟩
                          · clear h hb
                            go_simp
                          · refine ((HL.out w).mono fun e w2 h2 => h2.bytes rfl (ordB_lt 237 (by decide))).mono ?_
                            intro e w1 hp
                            obtain ⟨NB, rfl, hg, hbb⟩ := hp
                            exact ⟨_, rfl, hg, ⟨_, _, _, rfl, hbb⟩⟩
                        refine ⟨Fg.value rfl fun ac w h => ?_, ?_⟩
                        · have e176 : ac.tmps.getD 176 undef = .bool false := h.dep 176 (by kernel_rfl)
                          have e9 : ac.tmps.getD 9 undef = .slice (some ⟨wr.heap.size, 0, none⟩) 64 64 := h.rest 9 (by kernel_rfl)
                          refine ⟨wants_some (d := 176) rfl rfl (by rw [h.size]; show 176 < 186; decide) e176, .slice (some ⟨wr.heap.size, 0, none⟩) 64 64, w, ?_, gb_refl _ _, rfl⟩
                          clear h
                          simp only [execOp, Act.eval, e9]
                          go_simp
                        refine ⟨Fg.value rfl fun ac w h => ?_, ?_⟩
                        · have e176 : ac.tmps.getD 176 undef = .bool false := h.dep 176 (by kernel_rfl)
                          have e180 : ac.tmps.getD 180 undef = .slice (some ⟨wr.heap.size, 0, none⟩) 64 64 := h.dep 180 (by kernel_rfl)
                          refine ⟨wants_some (d := 176) rfl rfl (by rw [h.size]; show 176 < 186; decide) e176, .slice (some ⟨wr.heap.size, 0, none⟩) 32 64, w, ?_, gb_refl _ _, rfl⟩
                          clear h
                          simp only [execOp, Act.eval, e180]
                          go_simp
                        refine ⟨Fg.call rfl fun ac w h => ?_, ?_⟩
                        · have e176 : ac.tmps.getD 176 undef = .bool false := h.dep 176 (by kernel_rfl)
                          have e178 : ac.tmps.getD 178 undef = .slice (some ⟨wr.heap.size, 0, none⟩) 32 64 := h.dep 178 (by kernel_rfl)
                          have x178 : ac.tmps[178]?.getD undef = .slice (some ⟨wr.heap.size, 0, none⟩) 32 64 := by simpa using e178
                          obtain ⟨a179, k179, B179, e179, b179⟩ : ∃ x c B, ac.tmps.getD 179 undef = .slice x 32 c ∧ BytesAt w B x c (ordB 237) := h.dep 179 (by kernel_rfl)
                          have x179 : ac.tmps[179]?.getD undef = .slice a179 32 k179 := by simpa using e179
                          have e181 : ac.tmps.getD 181 undef = .slice (some ⟨wr.heap.size, 0, none⟩) 32 64 := h.dep 181 (by kernel_rfl)
                          have x181 : ac.tmps[181]?.getD undef = .slice (some ⟨wr.heap.size, 0, none⟩) 32 64 := by simpa using e181
                          have hb := h.base
                          refine ⟨wants_some (d := 176) rfl rfl (by rw [h.size]; show 176 < 186; decide) e176, 4, #[.slice (some ⟨wr.heap.size, 0, none⟩) 32 64, .slice a179 32 k179, .slice (some ⟨wr.heap.size, 0, none⟩) 32 64], ?_, ?_⟩
                          · clear h hb e178 e179 e181 b179
                            go_simp
                          · refine (HMW.out w h.base _ _ _ b179).mono ?_
                            intro e w1 hp
                            obtain ⟨rfl, hg⟩ := hp
                            exact ⟨_, rfl, hg, rfl⟩
                        refine ⟨Fg.value rfl fun ac w h => ?_, ?_⟩
                        · have e176 : ac.tmps.getD 176 undef = .bool false := h.dep 176 (by kernel_rfl)
                          have e182 : ac.tmps.getD 182 undef = .bool true := h.dep 182 (by kernel_rfl)
                          refine ⟨wants_some (d := 176) rfl rfl (by rw [h.size]; show 176 < 186; decide) e176, .bool false, w, ?_, gb_refl _ _, rfl⟩
                          clear h
                          simp only [execOp, Act.eval, e182]
                          go_simp
                        refine ⟨Fg.value rfl fun ac w h => ?_, ?_⟩
                        · have e176 : ac.tmps.getD 176 undef = .bool false := h.dep 176 (by kernel_rfl)
                          have e183 : ac.tmps.getD 183 undef = .bool false := h.dep 183 (by kernel_rfl)
                          refine ⟨wants_none rfl, .bool false, w, ?_, gb_refl _ _, rfl⟩
                          clear h
                          simp only [execOp, Act.eval, e176, e183]
                          go_simp
                        trivial
                      · intro aq wq hB hsz hdf hrest hslots _
                        obtain ⟨u168, hs168⟩ : ∃ u, aq.tmps.getD 168 undef = u := ⟨_, rfl⟩
                        obtain ⟨u169, hs169⟩ : ∃ u, aq.tmps.getD 169 undef = u := ⟨_, rfl⟩
                        obtain ⟨u170, hs170⟩ : ∃ u, aq.tmps.getD 170 undef = u := ⟨_, rfl⟩
                        obtain ⟨u171, hs171⟩ : ∃ u, aq.tmps.getD 171 undef = u := ⟨_, rfl⟩
                        obtain ⟨u172, hs172⟩ : ∃ u, aq.tmps.getD 172 undef = u := ⟨_, rfl⟩
                        obtain ⟨u173, hs173⟩ : ∃ u, aq.tmps.getD 173 undef = u := ⟨_, rfl⟩
                        obtain ⟨u174, hs174⟩ : ∃ u, aq.tmps.getD 174 undef = u := ⟨_, rfl⟩
                        obtain ⟨u175, hs175⟩ : ∃ u, aq.tmps.getD 175 undef = u := ⟨_, rfl⟩
                        obtain ⟨u176, hs176⟩ : ∃ u, aq.tmps.getD 176 undef = u := ⟨_, rfl⟩
                        obtain ⟨u177, hs177⟩ : ∃ u, aq.tmps.getD 177 undef = u := ⟨_, rfl⟩
                        obtain ⟨u178, hs178⟩ : ∃ u, aq.tmps.getD 178 undef = u := ⟨_, rfl⟩
                        obtain ⟨u179, hs179⟩ : ∃ u, aq.tmps.getD 179 undef = u := ⟨_, rfl⟩
                        obtain ⟨u180, hs180⟩ : ∃ u, aq.tmps.getD 180 undef = u := ⟨_, rfl⟩
                        obtain ⟨u181, hs181⟩ : ∃ u, aq.tmps.getD 181 undef = u := ⟨_, rfl⟩
                        obtain ⟨u182, hs182⟩ : ∃ u, aq.tmps.getD 182 undef = u := ⟨_, rfl⟩
                        obtain ⟨u183, hs183⟩ : ∃ u, aq.tmps.getD 183 undef = u := ⟨_, rfl⟩
                        obtain rfl := Fg.frame_is (a := aq) (vs := [u0, Value.slice (some ⟨gv, 0, none⟩) 16 cv, Value.int .i64 4, Value.slice (some ⟨F, 0, none⟩) 66 66, Value.int .i64 66, Value.int .i64 (i : Int), u6, Value.int .i64 (n : Int), Value.int .i64 (y : Int), Value.slice (some ⟨wr.heap.size, 0, none⟩) 64 64, Value.slice (some ⟨W3.heap.size, 0, none⟩) 64 64, Value.int .i64 4, Value.bool false, u13, u14, u15, u16, u17, u18, u19, u20, u21, u22, u23, Value.slice (some ⟨F, 0, none⟩) 66 66, Value.int .i64 66, Value.slice (some ⟨F, 0, none⟩) 66 66, Value.int .i64 66, Value.bool false, u29, u30, u31, u32, u33, u1, Value.slice (some ⟨F, 0, none⟩) 66 66, Value.slice (some ⟨F, 0, none⟩) 32 66, Value.slice (some ⟨gl, 0, none⟩) 32 32, Value.slice (some ⟨g15, 0, none⟩) 32 32, Value.slice (some ⟨g14, 0, none⟩) 32 32, Value.slice (some ⟨gm, 0, none⟩) 32 33, Value.slice (some ⟨w6.heap.size, 0, none⟩) 2 2, Value.slice (some ⟨gv, 0, none⟩) 16 cv, Value.int .i64 (i : Int), Value.slice (some ⟨gv, 0, none⟩) 16 cv, Value.int .i64 16, Value.bool false, u47, u48, u49, u50, u51, u52, u53, u54, u55, u56, u57, u58, u59, u60, u61, u62, u63, u64, u65, u66, u67, u68, u69, u70, u71, u72, u73, u74, u75, u76, u77, u78, u79, u80, u81, u82, u83, u84, u85, u86, u87, u88, u89, u90, u91, u92, u93, u94, u95, u96, u97, u98, u99, u100, u101, u102, u103, u104, u105, u106, u107, u108, u109, u110, u111, u112, u113, u114, u115, u116, u117, u118, u119, u120, u121, u122, u123, u124, u125, u126, u127, u128, u129, Value.int .i64 (n : Int), Value.bool false, u132, u133, u134, u135, u136, u137, u138, u139, u140, u141, u142, u143, u144, Value.int .i64 (y : Int), Value.bool true, u147, u148, Value.slice (some ⟨wr.heap.size, 0, none⟩) 64 64, Value.slice (some ⟨wr.heap.size, 0, none⟩) 64 64, Value.int .i64 (y : Int), Value.int .i64 ((y : Int) / 8), Value.int .i64 (y : Int), Value.int .i64 ((y : Int) % 8), Value.int IntKind.u64 ((y : Int) % 8), Value.int IntKind.u8 (2 ^ (y % 8) % 256), Value.pointer (some ⟨wr.heap.size, y / 8, none⟩), Value.slice (some ⟨W3.heap.size, 0, none⟩) 64 64, Value.slice (some ⟨W3.heap.size, 0, none⟩) 64 64, Value.int .i64 (y : Int), Value.int .i64 ((y : Int) / 8), Value.int .i64 (32 + (y : Int) / 8), Value.int .i64 (y : Int), Value.int .i64 ((y : Int) % 8), Value.int IntKind.u64 ((y : Int) % 8), Value.int IntKind.u8 (2 ^ (y % 8) % 256), Value.pointer (some ⟨W3.heap.size, 32 + y / 8, none⟩), u168, u169, u170, u171, u172, u173, u174, u175, u176, u177, u178, u179, u180, u181, u182, u183, Value.bool false, undef]) hsz ⟨hrest 0 (by kernel_rfl), hrest 1 (by kernel_rfl), hrest 2 (by kernel_rfl), hrest 3 (by kernel_rfl), hrest 4 (by kernel_rfl), hrest 5 (by kernel_rfl), hrest 6 (by kernel_rfl), hrest 7 (by kernel_rfl), hrest 8 (by kernel_rfl), hrest 9 (by kernel_rfl), hrest 10 (by kernel_rfl), hrest 11 (by kernel_rfl), hrest 12 (by kernel_rfl), hrest 13 (by kernel_rfl), hrest 14 (by kernel_rfl), hrest 15 (by kernel_rfl), hrest 16 (by kernel_rfl), hrest 17 (by kernel_rfl), hrest 18 (by kernel_rfl), hrest 19 (by kernel_rfl), hrest 20 (by kernel_rfl), hrest 21 (by kernel_rfl), hrest 22 (by kernel_rfl), hrest 23 (by kernel_rfl), hrest 24 (by kernel_rfl), hrest 25 (by kernel_rfl), hrest 26 (by kernel_rfl), hrest 27 (by kernel_rfl), hrest 28 (by kernel_rfl), hrest 29 (by kernel_rfl), hrest 30 (by kernel_rfl), hrest 31 (by kernel_rfl), hrest 32 (by kernel_rfl), hrest 33 (by kernel_rfl), hrest 34 (by kernel_rfl), hrest 35 (by kernel_rfl), hrest 36 (by kernel_rfl), hrest 37 (by kernel_rfl), hrest 38 (by kernel_rfl), hrest 39 (by kernel_rfl), hrest 40 (by kernel_rfl), hrest 41 (by kernel_rfl), hrest 42 (by kernel_rfl), hrest 43 (by kernel_rfl), hrest 44 (by kernel_rfl), hrest 45 (by kernel_rfl), hrest 46 (by kernel_rfl), hrest 47 (by kernel_rfl), hrest 48 (by kernel_rfl), hrest 49 (by kernel_rfl), hrest 50 (by kernel_rfl), hrest 51 (by kernel_rfl), hrest 52 (by kernel_rfl), hrest 53 (by kernel_rfl), hrest 54 (by kernel_rfl), hrest 55 (by kernel_rfl), hrest 56 (by kernel_rfl), hrest 57 (by kernel_rfl), hrest 58 (by kernel_rfl), hrest 59 (by kernel_rfl), hrest 60 (by kernel_rfl), hrest 61 (by kernel_rfl), hrest 62 (by kernel_rfl), hrest 63 (by kernel_rfl), hrest 64 (by kernel_rfl), hrest 65 (by kernel_rfl), hrest 66 (by kernel_rfl), hrest 67 (by kernel_rfl), hrest 68 (by kernel_rfl), hrest 69 (by kernel_rfl), hrest 70 (by kernel_rfl), hrest 71 (by kernel_rfl), hrest 72 (by kernel_rfl), hrest 73 (by kernel_rfl), hrest 74 (by kernel_rfl), hrest 75 (by kernel_rfl), hrest 76 (by kernel_rfl), hrest 77 (by kernel_rfl), hrest 78 (by kernel_rfl), hrest 79 (by kernel_rfl), hrest 80 (by kernel_rfl), hrest 81 (by kernel_rfl), hrest 82 (by kernel_rfl), hrest 83 (by kernel_rfl), hrest 84 (by kernel_rfl), hrest 85 (by kernel_rfl), hrest 86 (by kernel_rfl), hrest 87 (by kernel_rfl), hrest 88 (by kernel_rfl), hrest 89 (by kernel_rfl), hrest 90 (by kernel_rfl), hrest 91 (by kernel_rfl), hrest 92 (by kernel_rfl), hrest 93 (by kernel_rfl), hrest 94 (by kernel_rfl), hrest 95 (by kernel_rfl), hrest 96 (by kernel_rfl), hrest 97 (by kernel_rfl), hrest 98 (by kernel_rfl), hrest 99 (by kernel_rfl), hrest 100 (by kernel_rfl), hrest 101 (by kernel_rfl), hrest 102 (by kernel_rfl), hrest 103 (by kernel_rfl), hrest 104 (by kernel_rfl), hrest 105 (by kernel_rfl), hrest 106 (by kernel_rfl), hrest 107 (by kernel_rfl), hrest 108 (by kernel_rfl), hrest 109 (by kernel_rfl), hrest 110 (by kernel_rfl), hrest 111 (by kernel_rfl), hrest 112 (by kernel_rfl), hrest 113 (by kernel_rfl), hrest 114 (by kernel_rfl), hrest 115 (by kernel_rfl), hrest 116 (by kernel_rfl), hrest 117 (by kernel_rfl), hrest 118 (by kernel_rfl), hrest 119 (by kernel_rfl), hrest 120 (by kernel_rfl), hrest 121 (by kernel_rfl), hrest 122 (by kernel_rfl), hrest 123 (by kernel_rfl), hrest 124 (by kernel_rfl), hrest 125 (by kernel_rfl), hrest 126 (by kernel_rfl), hrest 127 (by kernel_rfl), hrest 128 (by kernel_rfl), hrest 129 (by kernel_rfl), hrest 130 (by kernel_rfl), hrest 131 (by kernel_rfl), hrest 132 (by kernel_rfl), hrest 133 (by kernel_rfl), hrest 134 (by kernel_rfl), hrest 135 (by kernel_rfl), hrest 136 (by kernel_rfl), hrest 137 (by kernel_rfl), hrest 138 (by kernel_rfl), hrest 139 (by kernel_rfl), hrest 140 (by kernel_rfl), hrest 141 (by kernel_rfl), hrest 142 (by kernel_rfl), hrest 143 (by kernel_rfl), hrest 144 (by kernel_rfl), hrest 145 (by kernel_rfl), hrest 146 (by kernel_rfl), hrest 147 (by kernel_rfl), hrest 148 (by kernel_rfl), hrest 149 (by kernel_rfl), hrest 150 (by kernel_rfl), hrest 151 (by kernel_rfl), hrest 152 (by kernel_rfl), hrest 153 (by kernel_rfl), hrest 154 (by kernel_rfl), hrest 155 (by kernel_rfl), hrest 156 (by kernel_rfl), hrest 157 (by kernel_rfl), hrest 158 (by kernel_rfl), hrest 159 (by kernel_rfl), hrest 160 (by kernel_rfl), hrest 161 (by kernel_rfl), hrest 162 (by kernel_rfl), hrest 163 (by kernel_rfl), hrest 164 (by kernel_rfl), hrest 165 (by kernel_rfl), hrest 166 (by kernel_rfl), hrest 167 (by kernel_rfl), hs168, hs169, hs170, hs171, hs172, hs173, hs174, hs175, hs176, hs177, hs178, hs179, hs180, hs181, hs182, hs183, (show aq.tmps.getD 184 undef = Value.bool false from hslots 184 (by kernel_rfl)), hrest 185 (by kernel_rfl), trivial⟩ hdf
                        have HD := Lib.hid hB
                        clear hB hsz hdf hrest hslots hs168 hs169 hs170 hs171 hs172 hs173 hs174 hs175 hs176 hs177 hs178 hs179 hs180 hs181 hs182 hs183
                        have HD2 := Lib.hid (gb_trans H5.out.1 HD.out)
                        go_wp2
                        go_roundw
                        case rel => exact ⟨y + 1, by omega, by go_num, HD2⟩
                        case measure => simp [intOf]; omega
                    · have i9y : ¬ (y : Int) < 256 := by omega
                      have HW := Lib.hid (awake_any wr (HT.out wr HG.out))
                      go_wp2_with fail
                      refine HW.out.mono ?_
                      rintro e w9 ⟨rfl, hg9⟩
                      have HE := Lib.hid (HQ.out _ (gb_trans HG.out hg9))
                      clear hg9 HW
                      go_wp2
                      exact HE.out
end Sr
end Go.Proofs.YtmnlidfalhjghaaGreatDoor
