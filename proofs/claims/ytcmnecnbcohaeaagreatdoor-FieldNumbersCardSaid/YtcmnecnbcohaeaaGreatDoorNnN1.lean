/- texts merged -/
import Derived.Test.YtcmnecnbcohaeaaGreatDoorGtB1
import Derived.Test.YtcmnecnbcohaeaaGreatDoorGtB3
namespace Go.Proofs.YtcmnecnbcohaeaaGreatDoor
section
open Go.RowKit
theorem FlowAt3.d {G :Nat -> Value -> World -> Prop} {st :Nat -> Nat} {M :Nat -> Value -> World -> Prop} {B :World -> Prop} {ps :List Nat} {a0 :Act} {ops :Array Oper} {o :Oper} {a :Act} {w :World} (h :FlowAt3 G st M B ps a0 ops o a w) (d :Nat) (hd :waits ops o d = true := by kernel_rfl) :G d (a.tmps.getD d undef) w := h.dep d hd
theorem FlowAt3.r {G :Nat -> Value -> World -> Prop} {st :Nat -> Nat} {M :Nat -> Value -> World -> Prop} {B :World -> Prop} {ps :List Nat} {a0 :Act} {ops :Array Oper} {o :Oper} {a :Act} {w :World} (h :FlowAt3 G st M B ps a0 ops o a w) (d :Nat) (hd :notDst ops d = true := by kernel_rfl) :a.tmps.getD d undef = a0.tmps.getD d undef := h.rest d hd
theorem FlowAt.d {G :Nat -> Value -> World -> Prop} {M :Nat -> World -> Prop} {B :World -> Prop} {a0 :Act} {ops :Array Oper} {o :Oper} {a :Act} {w :World} (h :FlowAt G M B a0 ops o a w) (d :Nat) (hd :waits ops o d = true := by kernel_rfl) :G d (a.tmps.getD d undef) w := h.dep d hd
theorem FlowAt.r {G :Nat -> Value -> World -> Prop} {M :Nat -> World -> Prop} {B :World -> Prop} {a0 :Act} {ops :Array Oper} {o :Oper} {a :Act} {w :World} (h :FlowAt G M B a0 ops o a w) (d :Nat) (hd :notDst ops d = true := by kernel_rfl) :a.tmps.getD d undef = a0.tmps.getD d undef := h.rest d hd
theorem FlowAt2.d {G :Nat -> Value -> World -> Prop} {st :Nat -> Nat} {M :Nat -> Value -> World -> Prop} {B :World -> Prop} {a0 :Act} {ops :Array Oper} {o :Oper} {a :Act} {w :World} (h :FlowAt2 G st M B a0 ops o a w) (d :Nat) (hd :waits ops o d = true := by kernel_rfl) :G d (a.tmps.getD d undef) w := h.dep d hd
theorem FlowAt2.r {G :Nat -> Value -> World -> Prop} {st :Nat -> Nat} {M :Nat -> Value -> World -> Prop} {B :World -> Prop} {a0 :Act} {ops :Array Oper} {o :Oper} {a :Act} {w :World} (h :FlowAt2 G st M B a0 ops o a w) (d :Nat) (hd :notDst ops d = true := by kernel_rfl) :a.tmps.getD d undef = a0.tmps.getD d undef := h.rest d hd
end
section
open Go.RowKit
namespace Fg
theorem slotv (a :Act) (i :Nat) :∃ u, a.tmps.getD i undef = u := ⟨_, rfl⟩
def SlotsV (a :Act) :List Nat -> Prop
 | [] =>True
 | i::r =>(∃ u, a.tmps.getD i undef = u) /\ SlotsV a r
theorem slotvs (a :Act) :∀ L :List Nat, SlotsV a L
 | [] =>trivial
 | _::r =>⟨⟨_, rfl⟩, slotvs a r⟩
variable {P :Program} {Q :Exit -> Act -> World -> Prop} {L :List It} {a0 :Act} {ops :Array Oper} {ps :List Nat}
theorem vS {W :World} {k i :Nat} {o :Oper} {d :Nat} {r :List Oper} (hd :o.dst = some d) (hps :(ps.all fun s =>s !=d) = true)
  (h :∀ a w, AtP k ps L (fun w =>World.grownBy W w none) a0 ops o a w -> Wants ops o a /\ ∃ v w', (execOp a.eval o).run P w = .ok (.value v) w' /\ w.grownBy w' none /\ its L d v w')
  (hr :StepsS k ps P Q L (fun w =>World.grownBy W w none) a0 ops (i+1) r) :StepsS k ps P Q L (fun w =>World.grownBy W w none) a0 ops i (o::r) :=
 ⟨⟨⟨_, hd⟩, valueP (fun _ _ h k =>gb_trans h k) hd hps h⟩, hr⟩
theorem cS {W :World} {k i :Nat} {o :Oper} {d :Nat} {r :List Oper} (hd :o.dst = some d) (hps :(ps.all fun s =>s !=d) = true)
  (h :∀ a w, AtP k ps L (fun w =>World.grownBy W w none) a0 ops o a w -> Wants ops o a /\ ∃ f args, (execOp a.eval o).run P w = .ok (.enter f args) w /\ Calls P f args w fun e w' =>∃ v, e = .returned v /\ w.grownBy w' none /\ its L d v w')
  (hr :StepsS k ps P Q L (fun w =>World.grownBy W w none) a0 ops (i+1) r) :StepsS k ps P Q L (fun w =>World.grownBy W w none) a0 ops i (o::r) :=
 ⟨⟨⟨_, hd⟩, callP (fun _ _ h k =>gb_trans h k) hd hps h⟩, hr⟩
theorem AtP.d {B :World -> Prop} {k :Nat} {o :Oper} {a :Act} {w :World} (h :AtP k ps L B a0 ops o a w) (d :Nat) (hd :waits ops o d = true := by kernel_rfl) :its L d (a.tmps.getD d undef) w := h.dep d hd
theorem AtP.r {B :World -> Prop} {k :Nat} {o :Oper} {a :Act} {w :World} (h :AtP k ps L B a0 ops o a w) (d :Nat) (hd :isDstTo ops k d = false := by kernel_rfl) :a.tmps.getD d undef = a0.tmps.getD d undef := h.rest d hd
def AtD (a :Act) (D :List Nat) :Nat -> List Value -> Prop
 | _, [] =>True
 | i, v::r =>match D.contains i with
  | true =>a.tmps.getD i undef = v /\ AtD a D (i+1) r
  | false =>AtD a D (i+1) r
def maskD (D :List Nat) :Nat -> List Value -> List Value
 | _, [] =>[]
 | i, v::r =>(if D.contains i = true then undef else v)::maskD D (i+1) r
theorem atD_all {a a0 :Act} {D :List Nat} {k :Nat} (hr :∀ d, isDstTo ops k d = false -> a.tmps.getD d undef = a0.tmps.getD d undef) :∀ (vs us :List Value) (i :Nat), (∀ j, us.getD j undef = a0.tmps.getD (i+j) undef) -> us.length = vs.length ->
  (∀ d, i <= d -> d<i+vs.length -> D.contains d = false -> isDstTo ops k d = false) -> maskD D i us = maskD D i vs -> AtD a D i vs -> AllAt a i vs := by
 intro vs
 induction vs with
 | nil =>intros; trivial
 | cons v r ih =>
  intro us i hu hl hD hm h
  cases us with
  | nil =>simp at hl
  | cons u us =>
   simp only[maskD, List.cons.injEq]at hm
   have hu2 :∀ j, us.getD j undef = a0.tmps.getD (i+1+j) undef := fun j =>by
    have := hu (j+1)
    rw[show i+1+j = i+(j+1) by omega]
    simpa using this
   have hD2 :∀ d, i+1 <= d -> d<i+1+r.length -> D.contains d = false -> isDstTo ops k d = false := fun d h1 h2 =>hD d (by omega) (by simp only[List.length_cons]; omega)
   have hl2 :us.length = r.length := by simpa using hl
   unfold AtD at h
   by_cases hc :D.contains i = true
   .rw[hc]at h
    exact ⟨h.1, ih us (i+1) hu2 hl2 hD2 hm.2 h.2⟩
   .have hc' :D.contains i = false := by simpa using hc
    rw[hc']at h hm
    refine ⟨?_, ih us (i+1) hu2 hl2 hD2 hm.2 h⟩
    have h0 := hu 0
    simp only[List.getD_cons_zero, Nat.add_zero]at h0
    rw[hr i (hD i (Nat.le_refl _) (by simp only[List.length_cons]; omega) hc'), <- h0]
    simpa using hm.1
theorem frame_by {a a0 :Act} {k :Nat} (D :List Nat) {vs :List Value} (hs :a.tmps.size = a0.tmps.size) (hr :∀ d, isDstTo ops k d = false -> a.tmps.getD d undef = a0.tmps.getD d undef)
  (hD :((List.range vs.length).all fun d =>D.contains d||!isDstTo ops k d) = true) (hm :maskD D 0 a0.tmps.toList = maskD D 0 vs) (hl :a0.tmps.size = vs.length) (h :AtD a D 0 vs) (hd :a.defers = []) :a = { tmps := vs.toArray, defers := [] } := by
 refine frame_is (hs.trans hl) (atD_all hr vs a0.tmps.toList 0 (fun j =>?_) (by simpa using hl) (fun d _ h2 hc =>?_) hm h) hd
 .rw[Nat.zero_add, Array.getD_eq_getD_getElem?, List.getD_eq_getElem?_getD, Array.getElem?_toList]
 .have := List.all_eq_true.1 hD d (List.mem_range.2 (by omega))
  rw[hc]at this
  simpa using this
theorem vn {a :Act} {w :World} {o :Oper} {d :Nat} (v :Value) (hr :(execOp a.eval o).run P w = .ok (.value v) w) (hg :o.guard = none := by exact rfl) (hi :its L d v w := by exact rfl) :
  Wants ops o a /\ ∃ v w', (execOp a.eval o).run P w = .ok (.value v) w' /\ w.grownBy w' none /\ its L d v w' := ⟨wants_none hg, v, w, hr, gb_refl _ _, hi⟩
theorem vx {a :Act} {w :World} {o :Oper} {d :Nat} (v :Value) (hw :Wants ops o a) (hr :(execOp a.eval o).run P w = .ok (.value v) w) (hi :its L d v w := by exact rfl) :
  Wants ops o a /\ ∃ v w', (execOp a.eval o).run P w = .ok (.value v) w' /\ w.grownBy w' none /\ its L d v w' := ⟨hw, v, w, hr, gb_refl _ _, hi⟩
theorem rT {id :Nat} {w :World} (ps :List Nat) (L :List It) (k :Nat) (steps :StepsS k ps P Q L (fun w' =>World.grownBy w w' none) a0 ops 0 (ops.toList.take k))
  (fin :∀ a w', World.grownBy w w' none -> a.tmps.size = a0.tmps.size -> a.defers = a0.defers -> (∀ d, isDstTo ops k d = false -> a.tmps.getD d undef = a0.tmps.getD d undef) ->
   (∀ d, isDstTo ops k d = true -> its L d (a.tmps.getD d undef) w') -> PtrsApart ps a w' -> wpList P ops Q (ops.toList.drop k) a w')
  (hm :P.follows .mixedOrders = true := by kernel_rfl) (ht :topo ops = true := by kernel_rfl) (ho :once (ops.extract 0 k) a0.tmps.size = true := by kernel_rfl) (htl :tailOk ops k = true := by kernel_rfl) (hk :k <= ops.size := by decide) (hps :PtrsApart ps a0 w.drew := by exact Fg.ptrs_undef (by kernel_rfl)) :
  (Code.region id ops true).wp P Q a0 w := wp_region_tail L (fun w' =>World.grownBy w w' none) k (gb_drew (gb_refl _ _)) hm ht ho htl hk hps steps fin
theorem rP {id :Nat} {w :World} (ps :List Nat) (L :List It) (k :Nat) (steps :StepsS k ps P Q L (fun w' =>World.grownBy w w' none) a0 ops 0 (ops.toList.take k))
  (fin :∀ a w', World.grownBy w w' none -> a.tmps.size = a0.tmps.size -> a.defers = a0.defers -> (∀ d, isDstTo ops k d = false -> a.tmps.getD d undef = a0.tmps.getD d undef) ->
   (∀ d, isDstTo ops k d = true -> its L d (a.tmps.getD d undef) w') -> PtrsApart ps a w' -> wpList P ops Q (ops.toList.drop k) a w')
  (ht :topo ops = true := by kernel_rfl) (ho :once (ops.extract 0 k) a0.tmps.size = true := by kernel_rfl) (hk :k <= ops.size := by decide) (hps :PtrsApart ps a0 w := by exact Fg.ptrs_undef (by kernel_rfl)) :
  (Code.region id ops false).wp P Q a0 w := wp_region_plain L (fun w' =>World.grownBy w w' none) k (gb_refl _ _) ht ho hk hps steps fin
end Fg
theorem Blk.gn {w w' :World} {B :Nat} {T :TypeId} {L :List Value} (h :Blk w B T L) (g :w.grownBy w' none) :Blk w' B T L := h.grown g (by simp)
abbrev zr5 :List Value := [Value.int IntKind.u64 0, Value.int IntKind.u64 0, Value.int IntKind.u64 0, Value.int IntKind.u64 0, Value.int IntKind.u64 0]
abbrev zr20 :List Value := [Value.int IntKind.u64 0, Value.int IntKind.u64 0, Value.int IntKind.u64 0, Value.int IntKind.u64 0, Value.int IntKind.u64 0, Value.int IntKind.u64 0, Value.int IntKind.u64 0, Value.int IntKind.u64 0, Value.int IntKind.u64 0, Value.int IntKind.u64 0, Value.int IntKind.u64 0, Value.int IntKind.u64 0, Value.int IntKind.u64 0, Value.int IntKind.u64 0, Value.int IntKind.u64 0, Value.int IntKind.u64 0, Value.int IntKind.u64 0, Value.int IntKind.u64 0, Value.int IntKind.u64 0, Value.int IntKind.u64 0]
abbrev zr30 :List Value := [Value.int IntKind.u64 0, Value.int IntKind.u64 0, Value.int IntKind.u64 0, Value.int IntKind.u64 0, Value.int IntKind.u64 0, Value.int IntKind.u64 0, Value.int IntKind.u64 0, Value.int IntKind.u64 0, Value.int IntKind.u64 0, Value.int IntKind.u64 0, Value.int IntKind.u64 0, Value.int IntKind.u64 0, Value.int IntKind.u64 0, Value.int IntKind.u64 0, Value.int IntKind.u64 0, Value.int IntKind.u64 0, Value.int IntKind.u64 0, Value.int IntKind.u64 0, Value.int IntKind.u64 0, Value.int IntKind.u64 0, Value.int IntKind.u64 0, Value.int IntKind.u64 0, Value.int IntKind.u64 0, Value.int IntKind.u64 0, Value.int IntKind.u64 0, Value.int IntKind.u64 0, Value.int IntKind.u64 0, Value.int IntKind.u64 0, Value.int IntKind.u64 0, Value.int IntKind.u64 0]
end
section
open Go.RowKit
namespace Fg
variable {P :Program} {Q :Exit -> Act -> World -> Prop} {L :List It} {a0 :Act} {ops :Array Oper} {ps :List Nat}
def AV (ρ :Operand -> Value) :List Operand -> List Value -> Prop
 | [], [] =>True
 | x::r, v::s =>ρ x = v /\ AV ρ r s
 | _, _ =>False
theorem av_map {ρ :Operand -> Value} :∀ {xs :List Operand} {vs :List Value}, AV ρ xs vs -> xs.map ρ = vs
 | [], [], _ =>rfl
 | x::r, v::s, h =>by rw[List.map_cons, h.1, av_map h.2]
 | [], _::_, h =>h.elim
 | _::_, [], h =>h.elim
theorem cq {a :Act} {w :World} {o :Oper} {d :Nat} {f :FuncId} {fn :Func} {x :Operand} {args :Array Operand} {tys :Array TypeId} {vs :List Value} {v :Value} (ho :o.op = .call { callee := .value x, args := args, argTypes := tys }) (hc :Calls P f vs.toArray w fun e w' =>e = .returned v /\ w.grownBy w' none) (hv :AV a.eval args.toList vs) (hf :P.funcs[f]? = some fn)
  (hg :o.guard = none := by exact rfl) (hx :a.eval x = .func (.func f) #[] #[] := by exact rfl) (hn :(fn.name == "runtime.NumGoroutine") = false := by kernel_rfl) (hb :fn.body.isNone = false := by kernel_rfl) (hi :∀ w', its L d v w' := by exact fun _ =>rfl) :
  Wants ops o a /\ ∃ f args, (execOp a.eval o).run P w = .ok (.enter f args) w /\ Calls P f args w fun e w' =>∃ v, e = .returned v /\ w.grownBy w' none /\ its L d v w' :=
 ⟨wants_none hg, f, vs.toArray, run_call ho hx (Array.ext' (by rw[Array.toList_map, av_map hv])) (run_enter hf hn hb), hc.mono fun _ w' h =>⟨v, h.1, h.2, hi w'⟩⟩
theorem cz {a :Act} {w :World} {o :Oper} {d :Nat} {f :FuncId} {fn :Func} {x :Operand} {args :Array Operand} {tys :Array TypeId} {vs :List Value} {v :Value} (ho :o.op = .call { callee := .value x, args := args, argTypes := tys }) (hg :Wants ops o a) (hc :Calls P f vs.toArray w fun e w' =>e = .returned v /\ w.grownBy w' none) (hv :AV a.eval args.toList vs) (hf :P.funcs[f]? = some fn)
  (hx :a.eval x = .func (.func f) #[] #[] := by exact rfl) (hn :(fn.name == "runtime.NumGoroutine") = false := by kernel_rfl) (hb :fn.body.isNone = false := by kernel_rfl) (hi :∀ w', its L d v w' := by exact fun _ =>rfl) :
  Wants ops o a /\ ∃ f args, (execOp a.eval o).run P w = .ok (.enter f args) w /\ Calls P f args w fun e w' =>∃ v, e = .returned v /\ w.grownBy w' none /\ its L d v w' :=
 ⟨hg, f, vs.toArray, run_call ho hx (Array.ext' (by rw[Array.toList_map, av_map hv])) (run_enter hf hn hb), hc.mono fun _ w' h =>⟨v, h.1, h.2, hi w'⟩⟩
end Fg
end
section
open Go.RowKit Ns
namespace Nr
theorem V_num_mod (u :Nat) :V (num u)%(2^255-19) = u%(2^255-19) := by rw[num_V, Nat.mod_mod]
theorem num_mul_l (u y :Nat) :num (V (num u)*y) = num (u*y) := num_congr (by rw[Nat.mul_mod, V_num_mod, <- Nat.mul_mod])
theorem num_sq (u :Nat) :num (V (num u)*V (num u)) = num (u*u) := num_congr (by rw[Nat.mul_mod, V_num_mod, <- Nat.mul_mod])
set_option maxRecDepth 100000 in
set_option maxHeartbeats 4000000 in
theorem power_any (a b :List Nat) (w0 :World) (ha :Whole a) (hb :Whole b) (la :a.length = 16) (lb :b.length = 16) :Calls Tryz.prog 82 #[nV a, nV b] w0 (Out (num (V a^V b)) w0) := by
 have hb16 := V_lt b hb
 rw[lb]at hb16
 unfold nV
 go_enter Tryz.func82, Tryz.ntmps82
 go_upto_region 1 with (fail)
 show Code.wp _ _ _ _ (((w0.alloc (.cells (pL a).toArray 31)).alloc (.cells (pL b).toArray 31)).alloc (.cells (pL zeros).toArray 31))
 obtain ⟨b1, b2, b3, g4⟩ := three w0 a b
 revert g4; revert b3; revert b2; revert b1
 generalize (((w0.alloc (.cells (pL a).toArray 31)).alloc (.cells (pL b).toArray 31)).alloc (.cells (pL zeros).toArray 31)) = w2
 intro b1 b2 b3 g4
 refine wp_region_lit ?_
 refine Fg.wpl_call rfl (Fg.run_call (vs := #[.int .u64 1]) rfl rfl (by simp only[List.map_toArray, List.map_cons, List.map_nil, Act.eval]<;>rfl) (Fg.run_enter Tryz.func42 (by kernel_rfl) (by kernel_rfl))) ?_
 refine (small_any 1 w2 (by decide)).mono ?_
 rintro e w3 ⟨rfl, gw3⟩
 refine ⟨_, rfl, ?_⟩
 simp only[Act.put, List.setIfInBounds_toArray, List.set_cons_succ, List.set_cons_zero]
 refine Fg.wpl_value (v := .pointer (some ⟨w3.heap.size, 0, none⟩)) (w' := w3.alloc (.cells (pL zeros).toArray 31)) rfl (by go_simp; rfl) ?_
 simp only[Act.put, List.setIfInBounds_toArray, List.set_cons_succ, List.set_cons_zero]
 refine Fg.wpl_skip rfl rfl (st (l := num 1) rfl rfl rfl (new (w := w3) rfl zeros) rfl (num_len _) rfl) ?_
 refine wpList_nil ?_
 obtain ⟨hw4, gw4, sw4⟩ := var w3 (num 1) (num_len _)
 revert hw4 gw4 sw4
 generalize World.setCells _ _ _ _ = w4
 intro hw4 gw4 sw4
 have H4 := Lib.hid (And.intro (gb_trans (gb_trans g4 gw3) gw4) (And.intro ((b1.grown gw3 (by simp)).grown gw4 (by simp)) (And.intro ((b2.grown gw3 (by simp)).grown gw4 (by simp)) (And.intro ((b3.grown gw3 (by simp)).grown gw4 (by simp)) hw4))))
 have z3 := b3.lt
 have z4 := gw3.size
 clear b1 b2 b3 g4 gw3 gw4 hw4
 obtain ⟨Q, hQ⟩ :∃ Q, Q = w3.heap.size := ⟨_, rfl⟩
 rw[<- hQ]at H4 sw4 z4 ⊢
 clear hQ
 have HA := Lib.hid (And.intro ha (And.intro hb (And.intro la (And.intro lb hb16)))); clear ha hb la lb hb16
 go_wp2
 go_loopw [6] (fun i wr =>∃ (q :Int) (k :Nat) (l :List Nat), q+1 = k /\ k <= 256 /\ i = .int .i64 q /\ l = num (V a^(V b/2^k)) /\ w0.grownBy wr none /\ Blk wr w0.heap.size 31 (pL a) /\ Blk wr (w0.heap.size+1) 31 (pL b) /\ Blk wr (w0.heap.size+2) 31 (pL zeros) /\ Blk wr Q 31 (pL l)) (fun i _ =>(intOf i+1).toNat)
 case atStart =>exact ⟨255, 256, num 1, by decide, by omega, rfl, by rw[pow_begin _ _ (Nat.lt_of_lt_of_eq HA.out.2.2.2.2 (by decide))], H4.out.1, H4.out.2.1, H4.out.2.2.1, H4.out.2.2.2.1, H4.out.2.2.2.2⟩
 case round =>
  obtain ⟨q, k, l, hq, hk, rfl, hl, hg, h1, h2, h3, h4⟩ := hrel
  by_cases h0 :0 <= q
  .obtain ⟨i, rfl⟩ := Int.eq_ofNat_of_zero_le h0
   obtain rfl :k = i+1 := by omega
   have hll :l.length = 16 := by rw[hl]; exact num_len _
   have hlw :Whole l := by rw[hl]; exact num_whole _
   have hps := pow_step (V a) (V b) i
   have hvb := V_bit b i HA.out.2.1 (by have := HA.out.2.2.2.1; omega)
   obtain ⟨u, hu⟩ :∃ u, u = V a^(V b/2^(i+1)) := ⟨_, rfl⟩
   rw[<- hu]at hl hps
   obtain ⟨s, hs⟩ :∃ s, s = num (u*u) := ⟨_, rfl⟩
   have hsl :s.length = 16 := by rw[hs]; exact num_len _
   have hsw :Whole s := by rw[hs]; exact num_whole _
   have hm :num (V l*V l) = s := by rw[hl, num_sq, hs]
   have hm2 :num (V s*V a) = num (u*u*V a) := by rw[hs, num_mul_l]
   have cM :∀ w, Calls Tryz.prog 41 #[nV l, nV l] w (Out s w) := fun w =>hm ▸ mul_any l l w hlw hlw hll hll
   have cM2 :∀ w, Calls Tryz.prog 41 #[nV s, nV a] w (Out (num (u*u*V a)) w) := fun w =>hm2 ▸ mul_any s a w hsw HA.out.1 hsl HA.out.2.2.1
   have HC := Lib.hid (And.intro cM (And.intro cM2 (And.intro hps (And.intro hvb hs)))); clear cM cM2 hps hvb hm hm2 hs hl hlw hu
   clear hsw
   go_upto_region 5 with (fail)
   refine wp_region_lit ?_
   refine Fg.wpl_value (v := nV (l)) (w' := wr) rfl (ld rfl rfl (h4) (hll) rfl rfl) ?_
   simp only[Act.put, List.setIfInBounds_toArray, List.set_cons_succ, List.set_cons_zero]
   refine Fg.wpl_value (v := nV (l)) (w' := wr) rfl (ld rfl rfl (h4) (hll) rfl rfl) ?_
   simp only[Act.put, List.setIfInBounds_toArray, List.set_cons_succ, List.set_cons_zero]
   refine Fg.wpl_call rfl (Fg.run_call (vs := #[nV l, nV l]) rfl rfl (by simp only[List.map_toArray, List.map_cons, List.map_nil, Act.eval]<;>rfl) (Fg.run_enter Tryz.func41 (by kernel_rfl) (by kernel_rfl))) ?_
   refine (HC.out.1 wr).mono ?_
   rintro e w5 ⟨rfl, gw5⟩
   refine ⟨_, rfl, ?_⟩
   simp only[Act.put, List.setIfInBounds_toArray, List.set_cons_succ, List.set_cons_zero]
   refine Fg.wpl_skip rfl rfl (st (l := s) rfl rfl rfl (h4.grown gw5 (by simp)) (by rw[pL_len, hll]) hsl rfl) ?_
   refine wpList_nil ?_
   have hR := stored (l := s) (h4.grown gw5 (by simp)) (by rw[pL_len, hll]) hsl
   have gR := gb_setCells_new (cs := pL s) (gb_trans hg gw5) (B := Q) (by omega) 0
   have o1 := (h1.grown gw5 (by simp)).setCells_other (cs := pL s) (C := Q) 0 (by omega)
   have o2 := (h2.grown gw5 (by simp)).setCells_other (cs := pL s) (C := Q) 0 (by omega)
   have o3 := (h3.grown gw5 (by simp)).setCells_other (cs := pL s) (C := Q) 0 (by omega)
   clear hg h1 h2 h3 h4 gw5
   revert o3; revert o2; revert o1; revert gR; revert hR
   generalize World.setCells _ _ _ _ = w6
   intro hR gR o1 o2 o3
   have c0 := cell o2 (i/16) (by have := HA.out.2.2.2.1; omega)
   have v0 := of_whole HA.out.2.1 (i/16)
   have hvb := HC.out.2.2.2.1
   generalize b.getD (i/16) 0 = x at c0 v0 hvb
   have i1 :(i :Int)<256 := by omega
   have hx2 :x/2^(i%16)<18446744073709551616 := Nat.lt_of_le_of_lt (Nat.div_le_self _ _) (by omega)
   have hbit := and_one64 (x/2^(i%16)) hx2
   have ecast :((x/2^(i%16) :Nat) :Int) = (x :Int)/2^(i%16) := by rw[Int.natCast_ediv, Int.natCast_pow]; rfl
   rw[ecast, <- hvb]at hbit
   have H6 := Lib.hid (And.intro gR (And.intro o1 (And.intro o2 (And.intro o3 hR)))); clear gR o1 o2 o3 hR hx2 ecast hvb
   have hps := HC.out.2.2.1
   rcases Nat.mod_two_eq_zero_or_one (V b/2^i) with h|h
   .rw[h]at hbit hps
    rw[Nat.pow_zero, Nat.mul_one]at hps
    have HP := Lib.hid hps; clear hps h
    have hbit :bits .and .u64 ((x :Int)/2^(i%16)) 1 = 0 := hbit
    go_wp2
    go_roundw
    case rel =>exact ⟨(i :Int)-1, i, s, by omega, by omega, by congr 1, by rw[HP.out]; exact HC.out.2.2.2.2, H6.out.1, H6.out.2.1, H6.out.2.2.1, H6.out.2.2.2.1, H6.out.2.2.2.2⟩
    case measure =>simp[intOf]
   .rw[h]at hbit hps
    rw[Nat.pow_one]at hps
    have HP := Lib.hid hps; clear hps h
    have hbit :bits .and .u64 ((x :Int)/2^(i%16)) 1 = 1 := hbit
    go_upto_region 7 with (fail)
    refine wp_region_lit ?_
    refine Fg.wpl_value (v := nV (s)) (w' := w6) rfl (ld rfl rfl (H6.out.2.2.2.2) (hsl) rfl rfl) ?_
    simp only[Act.put, List.setIfInBounds_toArray, List.set_cons_succ, List.set_cons_zero]
    refine Fg.wpl_value (v := nV (a)) (w' := w6) rfl (ld rfl rfl (H6.out.2.1) (HA.out.2.2.1) rfl rfl) ?_
    simp only[Act.put, List.setIfInBounds_toArray, List.set_cons_succ, List.set_cons_zero]
    refine Fg.wpl_call rfl (Fg.run_call (vs := #[nV s, nV a]) rfl rfl (by simp only[List.map_toArray, List.map_cons, List.map_nil, Act.eval]<;>rfl) (Fg.run_enter Tryz.func41 (by kernel_rfl) (by kernel_rfl))) ?_
    refine (HC.out.2.1 w6).mono ?_
    rintro e w7 ⟨rfl, gw7⟩
    refine ⟨_, rfl, ?_⟩
    simp only[Act.put, List.setIfInBounds_toArray, List.set_cons_succ, List.set_cons_zero]
    obtain ⟨t, ht⟩ :∃ t, t = num (u*u*V a) := ⟨_, rfl⟩
    have htl :t.length = 16 := by rw[ht]; exact num_len _
    rw[<- ht]
    refine Fg.wpl_skip rfl rfl (st (l := t) rfl rfl rfl (H6.out.2.2.2.2.grown gw7 (by simp)) (by rw[pL_len, hsl]) htl rfl) ?_
    refine wpList_nil ?_
    have hR := stored (l := t) (H6.out.2.2.2.2.grown gw7 (by simp)) (by rw[pL_len, hsl]) htl
    have gR := gb_setCells_new (cs := pL t) (gb_trans H6.out.1 gw7) (B := Q) (by omega) 0
    have o1 := (H6.out.2.1.grown gw7 (by simp)).setCells_other (cs := pL t) (C := Q) 0 (by omega)
    have o2 := (H6.out.2.2.1.grown gw7 (by simp)).setCells_other (cs := pL t) (C := Q) 0 (by omega)
    have o3 := (H6.out.2.2.2.1.grown gw7 (by simp)).setCells_other (cs := pL t) (C := Q) 0 (by omega)
    clear gw7
    revert o3; revert o2; revert o1; revert gR; revert hR
    generalize World.setCells _ _ _ _ = w8
    intro hR gR o1 o2 o3
    have H8 := Lib.hid (And.intro gR (And.intro o1 (And.intro o2 (And.intro o3 hR)))); clear gR o1 o2 o3 hR
    have HTt := Lib.hid ht; clear ht
    go_wp2
    go_roundw
    case rel =>exact ⟨(i :Int)-1, i, t, by omega, by omega, by congr 1, by rw[HP.out]; exact HTt.out, H8.out.1, H8.out.2.1, H8.out.2.2.1, H8.out.2.2.2.1, H8.out.2.2.2.2⟩
    case measure =>simp[intOf]
  .obtain rfl :k = 0 := by omega
   obtain rfl :q = -1 := by omega
   have hll :l.length = 16 := by rw[hl]; exact num_len _
   rw[Nat.pow_zero, Nat.div_one]at hl
   have HL := Lib.hid hl; clear hl
   go_upto_region 8 with (fail)
   obtain ⟨rN, hrN⟩ :∃ r :List Nat, r = l := ⟨_, rfl⟩
   have hrl :rN.length = 16 := by rw[hrN]; exact hll
   have hrb := h4
   rw[<- hrN]at hrb
   have HRN := Lib.hid hrN; clear hrN
   refine wp_region_lit ?_
   refine Fg.wpl_value (v := nV rN) (w' := _) rfl (ld rfl rfl hrb hrl rfl rfl) ?_
   simp only[Act.put, List.setIfInBounds_toArray, List.set_cons_succ, List.set_cons_zero]
   refine Fg.wpl_skip rfl rfl (st (l := rN) rfl rfl rfl (h3) (by rw[pL_len]; rfl) (hrl) rfl) ?_
   refine wpList_nil ?_
   have hR := stored (l := rN) (h3) (by rw[pL_len]; rfl) (hrl)
   have gR := gb_setCells_new (cs := pL rN) (hg) (B := w0.heap.size+2) (by omega) 0
   revert gR; revert hR
   generalize World.setCells _ _ _ _ = wR
   intro hR gR
   go_wp2_with fail
   exact bodyPost_ret (v := nV rN) (res Tryz.results82 _ _ (w0.heap.size+2) rN rfl hR (hrl)) rfl ⟨by rw[HRN.out, HL.out], gR⟩
def Pm2 :List Nat := Pp.set 0 65515
theorem Pm2_V :V Pm2 = 2^255-21 := by decide
theorem Pm2_whole :Whole Pm2 := by unfold Whole Pm2; decide
set_option maxRecDepth 100000 in
set_option maxHeartbeats 2000000 in
theorem invert_any (a :List Nat) (w0 :World) (ha :Whole a) (la :a.length = 16) :Calls Tryz.prog 46 #[nV a] w0 (Out (num (V a^(2^255-21))) w0) := by
 have cP := fun w =>power_any a Pm2 w ha Pm2_whole la rfl
 rw[Pm2_V]at cP
 obtain ⟨r, hr⟩ :∃ r, r = num (V a^(2^255-21)) := ⟨_, rfl⟩
 rw[<- hr]at cP ⊢
 have hrl :r.length = 16 := by rw[hr]; exact num_len _
 have HC := Lib.hid cP; clear cP hr
 unfold nV
 go_enter Tryz.func46, Tryz.ntmps46
 go_upto_region 1 with (fail)
 show Code.wp _ _ _ _ ((w0.alloc (.cells (pL a).toArray 31)).alloc (.cells (pL zeros).toArray 31))
 have bA := (new (w := w0) rfl a).alloc (.cells (pL zeros).toArray 31)
 have bB := new (w := w0.alloc (.cells (pL a).toArray 31)) (B := w0.heap.size+1) (by simp) zeros
 have g2 := gb_alloc (gb_alloc (gb_refl w0 none) (.cells (pL a).toArray 31)) (.cells (pL zeros).toArray 31)
 revert g2; revert bB; revert bA
 generalize (w0.alloc (.cells (pL a).toArray 31)).alloc (.cells (pL zeros).toArray 31) = w2
 intro bA bB g2
 refine wp_region_lit ?_
 refine Fg.wpl_call rfl (Fg.run_call (vs := #[]) rfl rfl (by simp only[List.map_toArray, List.map_nil]) (Fg.run_enter Tryz.func28 (by kernel_rfl) (by kernel_rfl))) ?_
 refine (p_any w2).mono ?_
 rintro e w3 ⟨rfl, gw3⟩
 refine ⟨_, rfl, ?_⟩
 simp only[Act.put, List.setIfInBounds_toArray, List.set_cons_succ, List.set_cons_zero]
 refine Fg.wpl_value (v := .pointer (some ⟨w3.heap.size, 0, none⟩)) (w' := w3.alloc (.cells (pL zeros).toArray 31)) rfl (by go_simp; rfl) ?_
 simp only[Act.put, List.setIfInBounds_toArray, List.set_cons_succ, List.set_cons_zero]
 refine Fg.wpl_skip rfl rfl (st (l := Pp) rfl rfl rfl (new (w := w3) rfl zeros) rfl (Pp_len) rfl) ?_
 refine wpList_nil ?_
 obtain ⟨hw4, gw4, sw4⟩ := var w3 (Pp) (Pp_len)
 revert hw4 gw4 sw4
 generalize World.setCells _ _ _ _ = w4
 intro hw4 gw4 sw4
 have z2 := bB.lt
 have z3 := gw3.size
 have b1 := (bA.grown gw3 (by simp)).grown gw4 (by simp)
 have b3 := (bB.grown gw3 (by simp)).grown gw4 (by simp)
 have g4 := gb_trans (gb_trans g2 gw3) gw4
 clear bA bB g2 gw3 gw4
 obtain ⟨Q, hQ⟩ :∃ Q, Q = w3.heap.size := ⟨_, rfl⟩
 rw[<- hQ]at hw4 sw4 z3 ⊢
 clear hQ
 have c0 :w4.cell? ⟨Q, 0, none⟩ = some (.int .u64 65517) := cell hw4 0 (by decide)
 have f0 := hw4.free 0
 have q4 :Blk (w4.setCell ⟨Q, 0, none⟩ (.int .u64 65515)) Q 31 (pL Pm2) := set hw4 0 65515
 have q1 := b1.other (a := ⟨Q, 0, none⟩) (by show Q ≠ w0.heap.size; omega) (.int .u64 65515)
 have q3 := b3.other (a := ⟨Q, 0, none⟩) (by show Q ≠ w0.heap.size+1; omega) (.int .u64 65515)
 have qg := gb_set_new g4 (p := ⟨Q, 0, none⟩) (by show w0.heap.size <= Q; omega) (.int .u64 65515)
 have H4 := Lib.hid (And.intro qg (And.intro q1 (And.intro q3 q4))); clear qg q1 q3 q4 b1 b3 g4 hw4
 go_upto_region 3 with (fail)
 obtain ⟨W5, hW5⟩ :∃ W5, W5 = w4.setCell ⟨Q, 0, none⟩ (.int .u64 65515) := ⟨_, rfl⟩
 rw[<- hW5]at H4 ⊢
 clear hW5 c0 f0
 refine wp_region_lit ?_
 refine Fg.wpl_value (v := nV (a)) (w' := W5) rfl (ld rfl rfl (H4.out.2.1) (la) rfl rfl) ?_
 simp only[Act.put, List.setIfInBounds_toArray, List.set_cons_succ, List.set_cons_zero]
 refine Fg.wpl_value (v := nV (Pm2)) (w' := W5) rfl (ld rfl rfl (H4.out.2.2.2) (rfl) rfl rfl) ?_
 simp only[Act.put, List.setIfInBounds_toArray, List.set_cons_succ, List.set_cons_zero]
 refine Fg.wpl_call rfl (Fg.run_call (vs := #[nV a, nV Pm2]) rfl rfl (by simp only[List.map_toArray, List.map_cons, List.map_nil, Act.eval]<;>rfl) (Fg.run_enter Tryz.func82 (by kernel_rfl) (by kernel_rfl))) ?_
 refine (HC.out W5).mono ?_
 rintro e w6 ⟨rfl, gw6⟩
 refine ⟨_, rfl, ?_⟩
 simp only[Act.put, List.setIfInBounds_toArray, List.set_cons_succ, List.set_cons_zero]
 refine Fg.wpl_skip rfl rfl (st (l := r) rfl rfl rfl (H4.out.2.2.1.grown gw6 (by simp)) (by rw[pL_len]; rfl) (hrl) rfl) ?_
 refine wpList_nil ?_
 have hR := stored (l := r) (H4.out.2.2.1.grown gw6 (by simp)) (by rw[pL_len]; rfl) (hrl)
 have gR := gb_setCells_new (cs := pL r) (gb_trans H4.out.1 gw6) (B := w0.heap.size+1) (by omega) 0
 revert gR; revert hR
 generalize World.setCells _ _ _ _ = wR
 intro hR gR
 go_wp2_with fail
 exact bodyPost_ret (v := nV r) (res Tryz.results46 _ _ (w0.heap.size+1) r rfl hR (hrl)) rfl ⟨by rw[(rfl :r = r)], gR⟩
end Nr
end
section
open Go.RowKit Ns
namespace Nr
def halfs :List Nat -> List Nat
 | [] =>[]
 | d::r =>(d/2+32768*(r.getD 0 0%2))::halfs r
theorem halfs_len (l :List Nat) :(halfs l).length = l.length := by
 induction l with
 | nil =>rfl
 | cons d r ih =>simp[halfs, ih]
theorem halfs_get (l :List Nat) (i :Nat) (h :i<l.length) :(halfs l).getD i 0 = l.getD i 0/2+32768*(l.getD (i+1) 0%2) := by
 induction l generalizing i with
 | nil =>simp at h
 | cons d r ih =>
  cases i with
  | zero =>simp[halfs]
  | succ i =>simpa[halfs] using ih i (by simpa using h)
theorem halfs_whole {l :List Nat} (h :Whole l) :Whole (halfs l) := whole_of fun j hj =>by
 rw[halfs_len]at hj
 rw[halfs_get l j hj]
 have := of_whole h j
 omega
theorem or_bit (x b :Nat) (hx :x<32768) (hb :b<2) :bits .or .u64 (x :Int) ((b :Int)*32768) = ((x+32768*b :Nat) :Int) := by
 have e :(b :Int)*32768 = ((2^15*b :Nat) :Int) := by omega
 rw[e, u64_or_nat _ _ (by omega) (by omega)]
 have := Nat.two_pow_add_eq_or_of_lt (show x<2^15 by omega) b
 rw[Nat.or_comm, <- this]
 omega
structure HalfI (a :List Nat) (k :Nat) (l :List Nat) :Prop where
 len :l.length = 16
 done :∀ j, j<k -> l.getD j 0 = a.getD j 0/2+32768*(a.getD (j+1) 0%2)
 rest :∀ j, k <= j -> l.getD j 0 = a.getD j 0
theorem HalfI.next {a l :List Nat} {k :Nat} (h :HalfI a k l) (hk :k<16) :HalfI a (k+1) (l.set k (a.getD k 0/2+32768*(a.getD (k+1) 0%2))) := by
 have hl := h.len
 refine ⟨by rw[List.length_set]; exact hl, fun j hj =>?_, fun j hj =>?_⟩
 .rw[set_getD _ _ _ _ (by omega)]
  split
  .next e =>rw[e]
  .exact h.done j (by omega)
 .rw[set_getD _ _ _ _ (by omega), if_neg (by omega)]
  exact h.rest j (by omega)
theorem HalfI.all {a l :List Nat} (h :HalfI a 16 l) (la :a.length = 16) :l = halfs a := by
 apply List.ext_getElem (by rw[h.len, halfs_len, la])
 intro i h1 h2
 have := h.done i (by rw[h.len]at h1; exact h1)
 rw[<- halfs_get a i (by rw[h.len]at h1; omega), List.getD_eq_getElem?_getD, List.getD_eq_getElem?_getD, List.getElem?_eq_getElem h1, List.getElem?_eq_getElem h2]at this
 exact this
set_option maxRecDepth 100000 in
set_option maxHeartbeats 4000000 in
theorem half_any (a :List Nat) (w0 :World) (ha :Whole a) (la :a.length = 16) :Calls Tryz.prog 83 #[nV a] w0 (Out (halfs a) w0) := by
 unfold nV
 go_enter Tryz.func83, Tryz.ntmps83
 go_upto_region 1 with (fail)
 show Code.wp _ _ _ _ ((w0.alloc (.cells (pL a).toArray 31)).alloc (.cells (pL zeros).toArray 31))
 have bA := (new (w := w0) rfl a).alloc (.cells (pL zeros).toArray 31)
 have bB := new (w := w0.alloc (.cells (pL a).toArray 31)) (B := w0.heap.size+1) (by simp) zeros
 have g2 := gb_alloc (gb_alloc (gb_refl w0 none) (.cells (pL a).toArray 31)) (.cells (pL zeros).toArray 31)
 revert g2; revert bB; revert bA
 generalize (w0.alloc (.cells (pL a).toArray 31)).alloc (.cells (pL zeros).toArray 31) = w2
 intro bA bB g2
 have H2 := Lib.hid (And.intro g2 (And.intro bA bB)); clear g2 bA bB
 have HA := Lib.hid (And.intro ha la); clear ha la
 go_wp2
 go_loopw [3] (fun i wr =>∃ (k :Nat) (l :List Nat), k <= 16 /\ i = .int .i64 k /\ HalfI a k l /\ w0.grownBy wr none /\ Blk wr w0.heap.size 31 (pL l) /\ Blk wr (w0.heap.size+1) 31 (pL zeros)) (fun i _ =>16-(intOf i).toNat)
 case atStart =>exact ⟨0, a, by omega, rfl, ⟨HA.out.2, fun j hj =>by omega, fun _ _ =>rfl⟩, H2.out.1, H2.out.2.1, H2.out.2.2⟩
 case round =>
  obtain ⟨k, l, hk, rfl, hh, hg, hb, hz⟩ := hrel
  by_cases hlt :k<16
  .have i0 :(k :Int)<16 := by omega
   have hl := hh.len
   have c0 := cell hb k (by omega)
   rw[hh.rest k (Nat.le_refl _)]at c0
   have f0 := hb.free k
   have v0 := of_whole HA.out.1 k
   have vy := of_whole HA.out.1 (k+1)
   have hn := hh.next hlt
   have hm := Nat.mod_lt (a.getD (k+1) 0) (show 0<2 by decide)
   have s1 := set hb k (a.getD k 0/2)
   have z1 := hz.other (a := ⟨w0.heap.size, k, none⟩) (by show w0.heap.size ≠ w0.heap.size+1; omega) (.int .u64 ((a.getD k 0/2 :Nat) :Int))
   have g1 := gb_set_new hg (p := ⟨w0.heap.size, k, none⟩) (Nat.le_refl _) (.int .u64 ((a.getD k 0/2 :Nat) :Int))
   have zlen :(l.set k (a.getD k 0/2)).length = 16 := by rw[List.length_set]; exact hl
   have zget :∀ j, (l.set k (a.getD k 0/2)).getD j 0 = if j = k then a.getD k 0/2 else l.getD j 0 := fun j =>set_getD _ _ _ _ (by omega)
   have zset :(l.set k (a.getD k 0/2)).set k (a.getD k 0/2+32768*(a.getD (k+1) 0%2)) = l.set k (a.getD k 0/2+32768*(a.getD (k+1) 0%2)) := by rw[List.set_set]
   have hr1 := hh.rest (k+1) (by omega)
   have hlast :k = 15 -> l.set k (a.getD k 0/2) = l.set k (a.getD k 0/2+32768*(a.getD (k+1) 0%2)) := fun e =>by
    have h0 :a.getD (k+1) 0 = 0 := by rw[List.getD_eq_getElem?_getD, List.getElem?_eq_none (by rw[HA.out.2, e]; decide)]; rfl
    rw[h0, Nat.zero_mod, Nat.mul_zero, Nat.add_zero]
   rw[show ((a.getD k 0/2 :Nat) :Int) = ((a.getD k 0 :Nat) :Int)/2 by omega]at s1 z1 g1
   have HI := Lib.hid (And.intro hn (And.intro g1 (And.intro s1 (And.intro z1 (And.intro zset hlast))))); clear hn g1 s1 z1 zset hlast hh hg hb hz
   generalize a.getD k 0 = ak at *
   generalize a.getD (k+1) 0 = y at *
   by_cases h15 :k<15
   .have i1 :(k :Int)<15 := by omega
    have i2 :(k :Int)+1<16 := by omega
    go_upto_region 6 with (fail)
    have HJ := HI.out
    have hHI := HI.out.1
    clear HI c0 f0
    revert HJ
    generalize wr.setCell ⟨w0.heap.size, k, none⟩ (.int .u64 (((ak :Nat) :Int)/2)) = W
    intro HJ
    have hb := HJ.2.2.1
    have hz := HJ.2.2.2.1
    have c0 := cell hb k (by omega)
    rw[zget k, if_pos rfl]at c0
    have c1 := cell hb (k+1) (by omega)
    rw[zget (k+1), if_neg (by omega), hr1]at c1
    have f0 := hb.free k
    have hbd := hb.grown (gb_drew (gb_refl W none)) (by simp)
    have f1 := hbd.free k
    have v1 := vy
    have hbit := and_one64 (y) (by omega)
    have s1 := set hbd k (ak/2+32768*(y%2))
    rw[HJ.2.2.2.2.1]at s1
    have z1 := (hz.grown (gb_drew (gb_refl W none)) (by simp)).other (a := ⟨w0.heap.size, k, none⟩) (by show w0.heap.size ≠ w0.heap.size+1; omega) (.int .u64 ((ak/2+32768*(y%2) :Nat) :Int))
    have g1 := gb_set_new (gb_drew HJ.2.1) (p := ⟨w0.heap.size, k, none⟩) (Nat.le_refl _) (.int .u64 ((ak/2+32768*(y%2) :Nat) :Int))
    obtain ⟨L, hL⟩ :∃ L, L = l.set k (ak/2+32768*(y%2)) := ⟨_, rfl⟩
    rw[<- hL]at s1 hHI
    have hor := or_bit (ak/2) (y%2) (by omega) hm
    have hx :ak/2<32768 := by omega
    clear HJ hb hz zget zlen hr1 hL hbd v0
    generalize ak/2 = x at *
    rcases Nat.mod_two_eq_zero_or_one y with h|h
    .rw[h]at hbit hor s1 z1 g1
     rw[show ((x+32768*0 :Nat) :Int) = (x :Int) by omega]at hor s1 z1 g1
     have hbit :bits .and .u64 (y :Int) 1 = 0 := hbit
     have hor :bits .or .u64 (x :Int) 0 = (x :Int) := hor
     have HI := Lib.hid (And.intro hHI (And.intro g1 (And.intro s1 z1))); clear hHI g1 s1 z1 h hm
     go_region
     go_wp2
     exact ⟨⟨k+1, L, by omega, by congr 1, HI.out.1, HI.out.2.1, HI.out.2.2.1, HI.out.2.2.2⟩, by simp[intOf]; omega⟩
    .rw[h]at hbit hor s1 z1 g1
     rw[show ((x+32768*1 :Nat) :Int) = (x :Int)+32768 by omega]at hor s1 z1 g1
     have hbit :bits .and .u64 (y :Int) 1 = 1 := hbit
     have hor :bits .or .u64 (x :Int) 32768 = (x :Int)+32768 := hor
     have HI := Lib.hid (And.intro hHI (And.intro g1 (And.intro s1 z1))); clear hHI g1 s1 z1 h hm
     go_region
     go_wp2
     exact ⟨⟨k+1, L, by omega, by congr 1, HI.out.1, HI.out.2.1, HI.out.2.2.1, HI.out.2.2.2⟩, by simp[intOf]; omega⟩
   .have i1 :¬ (k :Int)<15 := by omega
    go_wp2
    go_roundw
    case rel =>exact ⟨k+1, l.set k (ak/2), by omega, by congr 1, by rw[HI.out.2.2.2.2.2 (by omega)]; exact HI.out.1, HI.out.2.1, HI.out.2.2.1, HI.out.2.2.2.1⟩
    case measure =>simp[intOf]; omega
  .obtain rfl :k = 16 := by omega
   have hl := hh.all HA.out.2
   have hll := hh.len
   have HL := Lib.hid hl; clear hl hh
   go_upto_region 7 with (fail)
   obtain ⟨rN, hrN⟩ :∃ r :List Nat, r = l := ⟨_, rfl⟩
   have hrl :rN.length = 16 := by rw[hrN]; exact hll
   have hrb := hb
   rw[<- hrN]at hrb
   have HRN := Lib.hid hrN; clear hrN
   refine wp_region_lit ?_
   refine Fg.wpl_value (v := nV rN) (w' := _) rfl (ld rfl rfl hrb hrl rfl rfl) ?_
   simp only[Act.put, List.setIfInBounds_toArray, List.set_cons_succ, List.set_cons_zero]
   refine Fg.wpl_skip rfl rfl (st (l := rN) rfl rfl rfl (hz) (by rw[pL_len]; rfl) (hrl) rfl) ?_
   refine wpList_nil ?_
   have hR := stored (l := rN) (hz) (by rw[pL_len]; rfl) (hrl)
   have gR := gb_setCells_new (cs := pL rN) (hg) (B := w0.heap.size+1) (by omega) 0
   revert gR; revert hR
   generalize World.setCells _ _ _ _ = wR
   intro hR gR
   go_wp2_with fail
   exact bodyPost_ret (v := nV rN) (res Tryz.results83 _ _ (w0.heap.size+1) rN rfl hR (hrl)) rfl ⟨by rw[HRN.out, HL.out], gR⟩
end Nr
end
section
open Go.RowKit Ns Ow
namespace Nr
def Out2 (r :List Nat × Bool) (w :World) (e :Ending) (w' :World) :Prop := e = .returned (.tuple #[nV r.1, .bool r.2]) /\ w.grownBy w' none
theorem res2 {fn :Func} {p u :Tmp} (h :fn.results = #[.cell p 31, .tmp u]) (tmps :Array Value) (w :World) (g :Nat) (l :List Nat) (v :Value) (hp :tmps.getD p undef = .pointer (some ⟨g, 0, none⟩)) (hu :tmps.getD u undef = v) (hg :Blk w g 31 (pL l)) (hl :l.length = 16) :
  (results fn tmps).run Tryz.prog w = .ok (.tuple #[nV l, v]) w := by
 have h1 := results_cell_row (fn := { fn with results := #[.cell p 31] }) rfl tmps w g 31 (pL l).toArray (0, 0) _ hp hg Tryz.underlying31 rfl (by rw[List.size_toArray, pL_len, hl]; exact info_N)
 rw[results_cell_tmp h, hp, hu]
 have hp' :tmps[p]?.getD undef = .pointer (some ⟨g, 0, none⟩) := by simpa using hp
 simp only[results]at h1
 simp[asAddr, hp']at h1 ⊢
 rw[h1]
 rfl
def rU (b :List Nat) :List Nat := num (V b^(2^255-21))
def rW (a b :List Nat) :List Nat := num (V a*V (rU b))
def e1 :List Nat := Pp.set 0 65520
def e2 :List Nat := halfs e1
def e3 :List Nat := halfs e2
def e4 :List Nat := halfs e3
def q1 :List Nat := Pp.set 0 65516
def q2 :List Nat := halfs q1
def q3 :List Nat := halfs q2
def rR (w :List Nat) :List Nat := num (V w^V e4)
def rI :List Nat := num (V (num 2)^V q3)
def rR1 (r :List Nat) :List Nat := num (V r*V rI)
def sqL (r :List Nat) :List Nat := num (V r*V r)
def rEnd (w r :List Nat) :List Nat × Bool := if sqL r = w then (if V r%2 = 1 then num (V zeros+(Fe.P-V r)) else r, true) else (zeros, false)
def rGo (w :List Nat) :List Nat × Bool := if sqL (rR w) = w then rEnd w (rR w) else rEnd w (rR1 (rR w))
def refRoot (a b :List Nat) :List Nat × Bool := if a = zeros then (zeros, true) else if b = zeros then (zeros, false) else rGo (rW a b)
theorem e1_whole :Whole e1 := by unfold Whole e1; decide
theorem q1_whole :Whole q1 := by unfold Whole q1; decide
theorem V_lt_P (v :Nat) :V (num v)<Fe.P := by rw[num_V, P_is]; exact Nat.mod_lt _ (by decide)
theorem Odd_num (u :Nat) (w :World) :Calls Tryz.prog 44 #[nV (num u)] w fun e w' =>e = .returned (.bool (decide (V (num u)%2 = 1))) /\ w.grownBy w' none := by
 have := c_odd (V (num u)) w (V_lt_P u)
 rwa [show num (V (num u)) = num u by rw[num_V]; exact num_congr (Nat.mod_mod _ _)]at this
theorem Sub_zero (u :Nat) (w :World) :Calls Tryz.prog 40 #[nV zeros, nV (num u)] w (Out (num (V zeros+(Fe.P-V (num u)))) w) := by
 have := c_sub 0 (V (num u)) w (by decide) (V_lt_P u)
 rw[show num (V (num u)) = num u by rw[num_V]; exact num_congr (Nat.mod_mod _ _), num_zero]at this
 rw[V_zeros]
 exact this
theorem run_neN {ρ :Operand -> Value} {o :Oper} {w :World} {x y :Operand} {t :TypeId} {l m :List Nat} (ho :o.op = .binOp .neq 31 x y t) (hx :ρ x = nV l) (hy :ρ y = nV m) (hl :l.length = 16) (hm :m.length = 16) :(execOp ρ o).run Tryz.prog w = .ok (.value (.bool (!decide (l = m)))) w := by
 have h1 := eql_N l m hl hm w
 unfold nV at h1 hx hy
 rw[run_eql_struct]at h1
 have hn :(binOp .neq 31 (.agg (pL l).toArray) (.agg (pL m).toArray)).run Tryz.prog w = .ok (.bool (!decide (l = m))) w := by
  rw[run_neq_struct]
  revert h1
  generalize (Op.equalIn 10000 31 (.agg (pL l).toArray) (.agg (pL m).toArray)).run Tryz.prog w = z
  intro h1
  cases z with
  | ok b w1 =>
   simp only[Result.andThen_ok, Result.ok.injEq]at h1 ⊢
   obtain ⟨h2, h3⟩ := h1
   injection h2 with h2
   exact ⟨by rw[h2], h3⟩
  | _ =>simp[Result.andThen]at h1
 have hg := guard_N .neq x y l m w
 unfold nV at hg
 unfold execOp
 simp only[ho, hx, hy, Sem.run_bind, hg, hn, Result.andThen_ok, Sem.run_pure]
end Nr
end
section
open Go.RowKit Ns Ow
namespace Nr
theorem e1_len :e1.length = 16 := by decide
theorem q1_len :q1.length = 16 := by decide
theorem half_e1 (w :World) :Calls Tryz.prog 83 #[nV e1] w (Out e2 w) := half_any e1 w e1_whole e1_len
theorem half_e2 (w :World) :Calls Tryz.prog 83 #[nV e2] w (Out e3 w) := half_any e2 w (halfs_whole e1_whole) (by rw[e2, halfs_len]; exact e1_len)
theorem half_e3 (w :World) :Calls Tryz.prog 83 #[nV e3] w (Out e4 w) := half_any e3 w (halfs_whole (halfs_whole e1_whole)) (by rw[e3, halfs_len, e2, halfs_len]; exact e1_len)
theorem half_q1 (w :World) :Calls Tryz.prog 83 #[nV q1] w (Out q2 w) := half_any q1 w q1_whole q1_len
theorem half_q2 (w :World) :Calls Tryz.prog 83 #[nV q2] w (Out q3 w) := half_any q2 w (halfs_whole q1_whole) (by rw[q2, halfs_len]; exact q1_len)
theorem e4_whole :Whole e4 := halfs_whole (halfs_whole (halfs_whole e1_whole))
theorem e4_len :e4.length = 16 := by rw[e4, halfs_len, e3, halfs_len, e2, halfs_len]; exact e1_len
theorem q3_whole :Whole q3 := halfs_whole (halfs_whole q1_whole)
theorem q3_len :q3.length = 16 := by rw[q3, halfs_len, q2, halfs_len]; exact q1_len
theorem pow_R (W :List Nat) (w :World) (hW :Whole W) (lW :W.length = 16) :Calls Tryz.prog 82 #[nV W, nV e4] w (Out (rR W) w) := power_any W e4 w hW e4_whole lW e4_len
theorem pow_I (w :World) :Calls Tryz.prog 82 #[nV (num 2), nV q3] w (Out rI w) := power_any (num 2) q3 w (num_whole _) q3_whole (num_len _) q3_len
theorem small_two (w :World) :Calls Tryz.prog 42 #[.int .u64 2] w (Out (num 2) w) := small_any 2 w (by decide)
theorem mul_R1 (v :Nat) (w :World) :Calls Tryz.prog 41 #[nV (num v), nV rI] w (Out (rR1 (num v)) w) := mul_any (num v) rI w (num_whole _) (num_whole _) (num_len _) (num_len _)
theorem mul_sq (v :Nat) (w :World) :Calls Tryz.prog 41 #[nV (num v), nV (num v)] w (Out (sqL (num v)) w) := mul_any (num v) (num v) w (num_whole _) (num_whole _) (num_len _) (num_len _)
set_option maxRecDepth 100000 in
set_option maxHeartbeats 8000000 in
theorem root_walk (a b :List Nat) (w0 :World) (ha :Whole a) (hb :Whole b) (la :a.length = 16) (lb :b.length = 16) :Calls Tryz.prog 45 #[nV a, nV b] w0 (Out2 (refRoot a b) w0) := by
 obtain ⟨F, hF⟩ :∃ F, F = refRoot a b := ⟨_, rfl⟩
 rw[<- hF]
 unfold refRoot at hF
 have HA := Lib.hid (And.intro ha (And.intro hb (And.intro la lb))); clear ha hb la lb
 unfold nV
 go_enter Tryz.func45, Tryz.ntmps45
 go_upto_region 1 with (fail)
 show Code.wp _ _ _ _ (((w0.alloc (.cells (pL a).toArray 31)).alloc (.cells (pL b).toArray 31)).alloc (.cells (pL zeros).toArray 31))
 obtain ⟨b1, b2, b3, g4⟩ := three w0 a b
 revert g4; revert b3; revert b2; revert b1
 generalize (((w0.alloc (.cells (pL a).toArray 31)).alloc (.cells (pL b).toArray 31)).alloc (.cells (pL zeros).toArray 31)) = w2
 intro b1 b2 b3 g4
 refine wp_region_lit ?_
 refine Fg.wpl_value (v := nV zeros) (w' := w2) rfl (by go_simp; rfl) ?_
 simp only[Act.put, List.setIfInBounds_toArray, List.set_cons_succ, List.set_cons_zero]
 refine Fg.wpl_value (v := .pointer (some ⟨w2.heap.size, 0, none⟩)) (w' := w2.alloc (.cells (pL zeros).toArray 31)) rfl (by go_simp; rfl) ?_
 simp only[Act.put, List.setIfInBounds_toArray, List.set_cons_succ, List.set_cons_zero]
 refine Fg.wpl_skip rfl rfl (st (l := zeros) rfl rfl rfl (new (w := w2) rfl zeros) rfl (rfl) rfl) ?_
 refine wpList_nil ?_
 obtain ⟨hw3, gw3, sw3⟩ := var w2 (zeros) (rfl)
 revert hw3 gw3 sw3
 generalize World.setCells _ _ _ _ = w3
 intro hw3 gw3 sw3
 have z3 := b3.lt
 obtain ⟨Q, hQ⟩ :∃ Q, Q = w2.heap.size := ⟨_, rfl⟩
 have H3 := Lib.hid (And.intro (gb_trans g4 gw3) (And.intro (b1.gn gw3) (And.intro (b2.gn gw3) (And.intro (b3.gn gw3) hw3)))); clear b1 b2 b3 g4 gw3 hw3
 rw[<- hQ]at H3 z3 sw3 ⊢
 clear hQ
 go_upto_region 2 with (fail)
 refine wp_region_lit ?_
 refine Fg.wpl_value (v := nV (a)) (w' := w3) rfl (ld rfl rfl (H3.out.2.1) (HA.out.2.2.1) rfl rfl) ?_
 simp only[Act.put, List.setIfInBounds_toArray, List.set_cons_succ, List.set_cons_zero]
 refine Fg.wpl_value (v := nV (zeros)) (w' := w3) rfl (ld rfl rfl (H3.out.2.2.2.2) (rfl) rfl rfl) ?_
 simp only[Act.put, List.setIfInBounds_toArray, List.set_cons_succ, List.set_cons_zero]
 refine Fg.wpl_value (v := .bool (decide (a = zeros))) (w' := w3) rfl (run_eqN rfl rfl rfl HA.out.2.2.1 rfl) ?_
 simp only[Act.put, List.setIfInBounds_toArray, List.set_cons_succ, List.set_cons_zero]
 refine wpList_nil ?_
 by_cases hz :a = zeros
 .rw[if_pos hz]at hF
  rw[decide_eq_true hz]
  have HF := Lib.hid hF; clear hF hz
  go_upto_region 3 with (fail)
  refine wp_region_lit ?_
  refine Fg.wpl_value (v := nV (zeros)) (w' := w3) rfl (ld rfl rfl (H3.out.2.2.2.2) (rfl) rfl rfl) ?_
  simp only[Act.put, List.setIfInBounds_toArray, List.set_cons_succ, List.set_cons_zero]
  refine Fg.wpl_skip rfl rfl (st (l := zeros) rfl rfl rfl (H3.out.2.2.2.1) rfl (rfl) rfl) ?_
  refine Fg.wpl_value (v := .bool true) (w' := _) rfl (by go_simp; rfl) ?_
  simp only[Act.put, List.setIfInBounds_toArray, List.set_cons_succ, List.set_cons_zero]
  refine wpList_nil ?_
  have hR := stored (l := zeros) (H3.out.2.2.2.1) rfl (rfl)
  have gR := gb_setCells_new (cs := pL (zeros)) (H3.out.1) (B := w0.heap.size+2) (by omega) 0
  revert gR; revert hR
  generalize World.setCells _ _ _ _ = wR
  intro hR gR
  go_wp2_with fail
  exact bodyPost_ret (v := .tuple #[nV (zeros), .bool true]) (res2 Tryz.results45 _ _ (w0.heap.size+2) (zeros) (.bool true) rfl rfl hR (rfl)) rfl ⟨by rw[HF.out], gR⟩
 .rw[if_neg hz]at hF
  rw[decide_eq_false hz]
  go_upto_region 4 with (fail)
  refine wp_region_lit ?_
  refine Fg.wpl_value (v := nV (b)) (w' := w3) rfl (ld rfl rfl (H3.out.2.2.1) (HA.out.2.2.2) rfl rfl) ?_
  simp only[Act.put, List.setIfInBounds_toArray, List.set_cons_succ, List.set_cons_zero]
  refine Fg.wpl_value (v := nV (zeros)) (w' := w3) rfl (ld rfl rfl (H3.out.2.2.2.2) (rfl) rfl rfl) ?_
  simp only[Act.put, List.setIfInBounds_toArray, List.set_cons_succ, List.set_cons_zero]
  refine Fg.wpl_value (v := .bool (decide (b = zeros))) (w' := w3) rfl (run_eqN rfl rfl rfl HA.out.2.2.2 rfl) ?_
  simp only[Act.put, List.setIfInBounds_toArray, List.set_cons_succ, List.set_cons_zero]
  refine wpList_nil ?_
  by_cases hy :b = zeros
  .rw[if_pos hy]at hF
   rw[decide_eq_true hy]
   have HF := Lib.hid hF; clear hF hz hy
   go_upto_region 5 with (fail)
   refine wp_region_lit ?_
   refine Fg.wpl_value (v := nV (zeros)) (w' := w3) rfl (ld rfl rfl (H3.out.2.2.2.2) (rfl) rfl rfl) ?_
   simp only[Act.put, List.setIfInBounds_toArray, List.set_cons_succ, List.set_cons_zero]
   refine Fg.wpl_skip rfl rfl (st (l := zeros) rfl rfl rfl (H3.out.2.2.2.1) rfl (rfl) rfl) ?_
   refine Fg.wpl_value (v := .bool false) (w' := _) rfl (by go_simp; rfl) ?_
   simp only[Act.put, List.setIfInBounds_toArray, List.set_cons_succ, List.set_cons_zero]
   refine wpList_nil ?_
   have hR := stored (l := zeros) (H3.out.2.2.2.1) rfl (rfl)
   have gR := gb_setCells_new (cs := pL (zeros)) (H3.out.1) (B := w0.heap.size+2) (by omega) 0
   revert gR; revert hR
   generalize World.setCells _ _ _ _ = wR
   intro hR gR
   go_wp2_with fail
   exact bodyPost_ret (v := .tuple #[nV (zeros), .bool false]) (res2 Tryz.results45 _ _ (w0.heap.size+2) (zeros) (.bool false) rfl rfl hR (rfl)) rfl ⟨by rw[HF.out], gR⟩
  .rw[if_neg hy]at hF
   rw[decide_eq_false hy]
   have HF := Lib.hid hF; clear hF hz hy
   go_upto_region 6 with (fail)
   obtain ⟨U, hU⟩ :∃ U, U = rU b := ⟨_, rfl⟩
   obtain ⟨W, hW⟩ :∃ W, W = rW a b := ⟨_, rfl⟩
   have cInv :∀ w, Calls Tryz.prog 46 #[nV b] w (Out U w) := fun w =>hU ▸ invert_any b w HA.out.2.1 HA.out.2.2.2
   have hUw :Whole U := by rw[hU]; exact num_whole _
   have hUl :U.length = 16 := by rw[hU]; exact num_len _
   have hW' :num (V a*V U) = W := by rw[hW, hU]; rfl
   have cMul :∀ w, Calls Tryz.prog 41 #[nV a, nV U] w (Out W w) := fun w =>hW' ▸ mul_any a U w HA.out.1 hUw HA.out.2.2.1 hUl
   have hWw :Whole W := by rw[hW]; exact num_whole _
   have hWl :W.length = 16 := by rw[hW]; exact num_len _
   rw[<- hW]at HF
   have HC := Lib.hid (And.intro cInv cMul); clear cInv cMul hU hUw hUl hW' hW
   refine Fg.region_t [7] [.any, .any, .any, .any, .any, .any, .any, .fresh 31 (pL zeros) w3.heap.size, .any, .any, .any, .any, .any, .any, .any, .any, .any, .any, .any, .any, .val (nV a), .val (nV b), .val (nV U), .val (nV W)] w3 5 (gb_refl _ _) (by kernel_rfl) (by kernel_rfl) (by kernel_rfl) (by kernel_rfl) (by decide) (by kernel_rfl) ?_ ?_
   .refine ⟨Fg.vT rfl (by decide) fun ac w h =>?_, ?_⟩
    .have e2 :_ = Value.pointer (some ⟨w0.heap.size, 0, none⟩) := h.r 2
     refine ⟨nV a, w, wants_none rfl, ?_, gb_refl _ _, rfl⟩
     exact ld rfl e2 (H3.out.2.1.gn h.base) HA.out.2.2.1 rfl rfl
    refine ⟨Fg.vT rfl (by decide) fun ac w h =>?_, ?_⟩
    .have e3 :_ = Value.pointer (some ⟨w0.heap.size+1, 0, none⟩) := h.r 3
     refine ⟨nV b, w, wants_none rfl, ?_, gb_refl _ _, rfl⟩
     exact ld rfl e3 (H3.out.2.2.1.gn h.base) HA.out.2.2.2 rfl rfl
    refine ⟨Fg.cT rfl (by decide) fun ac w h =>?_, ?_⟩
    .have e21 :_ = nV b := h.d 21
     refine ⟨46, #[nV b], wants_none rfl, Fg.run_call rfl rfl (by simp only[List.map_toArray, List.map_cons, List.map_nil, Act.eval, e21]) (Fg.run_enter Tryz.func46 (by kernel_rfl) (by kernel_rfl)), ?_⟩
     exact (HC.out.1 w).mono fun _ _ ⟨he, hg⟩ =>⟨_, he, hg, rfl⟩
    refine ⟨Fg.cT rfl (by decide) fun ac w h =>?_, ?_⟩
    .have e20 :_ = nV a := h.d 20
     have e22 :_ = nV U := h.d 22
     refine ⟨41, #[nV a, nV U], wants_none rfl, Fg.run_call rfl rfl (by simp only[List.map_toArray, List.map_cons, List.map_nil, Act.eval, e20, e22]) (Fg.run_enter Tryz.func41 (by kernel_rfl) (by kernel_rfl)), ?_⟩
     exact (HC.out.2 w).mono fun _ _ ⟨he, hg⟩ =>⟨_, he, hg, rfl⟩
    refine ⟨Fg.aT 31 (pL zeros) rfl (by show 7<64; decide) rfl fun ac w h =>?_, ?_⟩
    .refine ⟨wants_none rfl, ?_⟩
     clear h
     go_simp
     rfl
    trivial
   .intro aq wq hB hsz hdf hrest hslots hpt
    obtain ⟨N7, e7, n7, b7⟩ :∃ N, aq.tmps.getD 7 undef = .pointer (some ⟨N, 0, none⟩) /\ w3.heap.size <= N /\ Blk wq N 31 (pL zeros) := hslots 7 (by kernel_rfl)
    obtain ⟨⟨u20, e20⟩, ⟨u21, e21⟩, ⟨u22, e22⟩, _⟩ := Fg.slotvs aq [20, 21, 22]
    have e23 :aq.tmps.getD 23 undef = nV W := hslots 23 (by kernel_rfl)
    obtain rfl := Fg.frame_by [7, 20, 21, 22, 23] (vs := [_, _, _, _, _, _, _, Value.pointer (some ⟨N7, 0, none⟩), _, _, _, _, _, _, _, _, _, _, _, _, u20, u21, u22, nV W, _, _, _, _, _, _, _, _, _, _, _, _, _, _, _, _, _, _, _, _, _, _, _, _, _, _, _, _, _, _, _, _, _, _, _, _, _, _, _, _]) hsz hrest (by kernel_rfl) rfl rfl ⟨e7, e20, e21, e22, e23, trivial⟩ hdf
    clear hsz hdf hrest hslots hpt e7 e20 e21 e22 e23
    refine Fg.wpl_skip rfl rfl (st (l := W) rfl rfl rfl b7 rfl hWl rfl) ?_
    refine wpList_nil ?_
    have d7 := stored (l := W) b7 rfl hWl
    have g7 := gb_setCells_new (cs := pL W) (gb_trans H3.out.1 hB) (B := N7) (by omega) 0
    have d4 := (H3.out.2.2.2.1.gn hB).setCells_other (cs := pL W) (C := N7) 0 (by omega)
    have d6 := (H3.out.2.2.2.2.gn hB).setCells_other (cs := pL W) (C := N7) 0 (by omega)
    have z7 := d7.lt
    have y7 :Q<N7 := by omega
    clear b7 hB n7
    revert z7; revert d6; revert d4; revert g7; revert d7
    generalize World.setCells _ _ _ _ = w4
    intro d7 g7 d4 d6 z7
    go_upto_region 7 with (fail)
    refine wp_region_lit ?_
    refine Fg.wpl_call rfl (Fg.run_call (vs := #[]) rfl rfl (by simp only[List.map_toArray, List.map_nil]) (Fg.run_enter Tryz.func28 (by kernel_rfl) (by kernel_rfl))) ?_
    refine (p_any w4).mono ?_
    rintro e w5 ⟨rfl, gw5⟩
    refine ⟨_, rfl, ?_⟩
    simp only[Act.put, List.setIfInBounds_toArray, List.set_cons_succ, List.set_cons_zero]
    refine Fg.wpl_value (v := .pointer (some ⟨w5.heap.size, 0, none⟩)) (w' := w5.alloc (.cells (pL zeros).toArray 31)) rfl (by go_simp; rfl) ?_
    simp only[Act.put, List.setIfInBounds_toArray, List.set_cons_succ, List.set_cons_zero]
    refine Fg.wpl_skip rfl rfl (st (l := Pp) rfl rfl rfl (new (w := w5) rfl zeros) rfl (Pp_len) rfl) ?_
    refine wpList_nil ?_
    obtain ⟨hw6, gw6, sw6⟩ := var w5 (Pp) (Pp_len)
    revert hw6 gw6 sw6
    generalize World.setCells _ _ _ _ = w6
    intro hw6 gw6 sw6
    have z5 := gw5.size
    obtain ⟨N8, hN8⟩ :∃ N8, N8 = w5.heap.size := ⟨_, rfl⟩
    have y8 :N7<N8 := by omega
    rw[<- hN8]at hw6 sw6 ⊢
    have d4 := (d4.gn gw5).grown gw6 (by simp)
    have d6 := (d6.gn gw5).grown gw6 (by simp)
    have d7 := (d7.gn gw5).grown gw6 (by simp)
    have g7 := gb_trans (gb_trans g7 gw5) gw6
    have c0 :w6.cell? ⟨N8, 0, none⟩ = some (.int .u64 65517) := cell hw6 0 (by decide)
    have f0 := hw6.free 0
    have o8 :Blk (w6.setCell ⟨N8, 0, none⟩ (.int .u64 65520)) N8 31 (pL e1) := set hw6 0 65520
    have o4 := d4.other (a := ⟨N8, 0, none⟩) (by show N8 ≠ w0.heap.size+2; omega) (.int .u64 65520)
    have o6 := d6.other (a := ⟨N8, 0, none⟩) (by show N8 ≠ Q; omega) (.int .u64 65520)
    have o7 := d7.other (a := ⟨N8, 0, none⟩) (by show N8 ≠ N7; omega) (.int .u64 65520)
    have og := gb_set_new g7 (p := ⟨N8, 0, none⟩) (by show w0.heap.size <= N8; omega) (.int .u64 65520)
    have H8 := Lib.hid (And.intro og (And.intro o4 (And.intro o6 (And.intro o7 o8)))); clear og o4 o6 o7 o8 d4 d6 d7 g7 gw5 gw6 hw6 z5 hN8
    go_upto_region 9 with (fail)
    revert H8
    generalize w6.setCell ⟨N8, 0, none⟩ (.int .u64 65520) = w7
    intro H8
    clear c0 f0
    obtain ⟨v, hv⟩ :∃ v, rR W = num v := ⟨_, rfl⟩
    have cPow := fun w =>pow_R W w hWw hWl
    have hgo :F = if sqL (num v) = W then rEnd W (num v) else rEnd W (rR1 (num v)) := by rw[HF.out, rGo, hv]
    rw[hv]at cPow
    have HG := Lib.hid hgo
    have y9 := H8.out.2.2.2.2.lt
    have HP := Lib.hid cPow
    clear cPow hgo hv HF
    refine Fg.region_t [9] [.any, .any, .any, .any, .any, .any, .any, .any, .any, .fresh 31 (pL zeros) w7.heap.size, .any, .any, .any, .any, .any, .any, .any, .any, .any, .any, .any, .any, .any, .any, .any, .any, .any, .any, .any, .val (nV W), .val (nV e1), .val (nV e2), .val (nV e3), .val (nV e4), .val (nV (num v))] w7 7 (gb_refl _ _) (by kernel_rfl) (by kernel_rfl) (by kernel_rfl) (by kernel_rfl) (by decide) (by kernel_rfl) ?_ ?_
    .refine ⟨Fg.vT rfl (by decide) fun ac w h =>?_, ?_⟩
     .have e7 :_ = Value.pointer (some ⟨N7, 0, none⟩) := h.r 7
      refine ⟨nV W, w, wants_none rfl, ?_, gb_refl _ _, rfl⟩
      exact ld rfl e7 (H8.out.2.2.2.1.gn h.base) hWl rfl rfl
     refine ⟨Fg.vT rfl (by decide) fun ac w h =>?_, ?_⟩
     .have e8 :_ = Value.pointer (some ⟨N8, 0, none⟩) := h.r 8
      refine ⟨nV e1, w, wants_none rfl, ?_, gb_refl _ _, rfl⟩
      exact ld rfl e8 (H8.out.2.2.2.2.gn h.base) e1_len rfl rfl
     refine ⟨Fg.cT rfl (by decide) fun ac w h =>?_, ?_⟩
     .have e30 :_ = nV e1 := h.d 30
      refine ⟨83, #[nV e1], wants_none rfl, Fg.run_call rfl rfl (by simp only[List.map_toArray, List.map_cons, List.map_nil, Act.eval, e30]) (Fg.run_enter Tryz.func83 (by kernel_rfl) (by kernel_rfl)), ?_⟩
      exact (half_e1 w).mono fun _ _ ⟨he, hg⟩ =>⟨_, he, hg, rfl⟩
     refine ⟨Fg.cT rfl (by decide) fun ac w h =>?_, ?_⟩
     .have e31 :_ = nV e2 := h.d 31
      refine ⟨83, #[nV e2], wants_none rfl, Fg.run_call rfl rfl (by simp only[List.map_toArray, List.map_cons, List.map_nil, Act.eval, e31]) (Fg.run_enter Tryz.func83 (by kernel_rfl) (by kernel_rfl)), ?_⟩
      exact (half_e2 w).mono fun _ _ ⟨he, hg⟩ =>⟨_, he, hg, rfl⟩
     refine ⟨Fg.cT rfl (by decide) fun ac w h =>?_, ?_⟩
     .have e32 :_ = nV e3 := h.d 32
      refine ⟨83, #[nV e3], wants_none rfl, Fg.run_call rfl rfl (by simp only[List.map_toArray, List.map_cons, List.map_nil, Act.eval, e32]) (Fg.run_enter Tryz.func83 (by kernel_rfl) (by kernel_rfl)), ?_⟩
      exact (half_e3 w).mono fun _ _ ⟨he, hg⟩ =>⟨_, he, hg, rfl⟩
     refine ⟨Fg.cT rfl (by decide) fun ac w h =>?_, ?_⟩
     .have e29 :_ = nV W := h.d 29
      have e33 :_ = nV e4 := h.d 33
      refine ⟨82, #[nV W, nV e4], wants_none rfl, Fg.run_call rfl rfl (by simp only[List.map_toArray, List.map_cons, List.map_nil, Act.eval, e29, e33]) (Fg.run_enter Tryz.func82 (by kernel_rfl) (by kernel_rfl)), ?_⟩
      exact (HP.out w).mono fun _ _ ⟨he, hg⟩ =>⟨_, he, hg, rfl⟩
     refine ⟨Fg.aT 31 (pL zeros) rfl (by show 9<64; decide) rfl fun ac w h =>?_, ?_⟩
     .refine ⟨wants_none rfl, ?_⟩
      clear h
      go_simp
      rfl
     trivial
    .intro ar wr hB hsz hdf hrest hslots hpt
     obtain ⟨N9, e9, n9, b9⟩ :∃ N, ar.tmps.getD 9 undef = .pointer (some ⟨N, 0, none⟩) /\ w7.heap.size <= N /\ Blk wr N 31 (pL zeros) := hslots 9 (by kernel_rfl)
     obtain ⟨⟨u29, e29⟩, ⟨u30, e30⟩, ⟨u31, e31⟩, ⟨u32, e32⟩, ⟨u33, e33⟩, _⟩ := Fg.slotvs ar [29, 30, 31, 32, 33]
     have e34 :ar.tmps.getD 34 undef = nV (num v) := hslots 34 (by kernel_rfl)
     obtain rfl := Fg.frame_is (a := ar) (vs := [Value.agg (pL a).toArray, Value.agg (pL b).toArray, Value.pointer (some ⟨w0.heap.size, 0, none⟩), Value.pointer (some ⟨w0.heap.size+1, 0, none⟩), Value.pointer (some ⟨w0.heap.size+2, 0, none⟩), Value.bool false, Value.pointer (some ⟨Q, 0, none⟩), Value.pointer (some ⟨N7, 0, none⟩), Value.pointer (some ⟨N8, 0, none⟩), Value.pointer (some ⟨N9, 0, none⟩), undef, nV zeros, nV a, nV zeros, Value.bool false, undef, nV b, nV zeros, Value.bool false, undef, u20, u21, u22, nV W, nV Pp, Value.pointer (some ⟨N8, 0, none⟩), Value.int .u64 65517, Value.int .u64 65520, Value.pointer (some ⟨N8, 0, none⟩), u29, u30, u31, u32, u33, nV (num v), undef, undef, undef, undef, undef, undef, undef, undef, undef, undef, undef, undef, undef, undef, undef, undef, undef, undef, undef, undef, undef, undef, undef, undef, undef, undef, undef, undef, undef]) hsz ⟨hrest 0 (by kernel_rfl), hrest 1 (by kernel_rfl), hrest 2 (by kernel_rfl), hrest 3 (by kernel_rfl), hrest 4 (by kernel_rfl), hrest 5 (by kernel_rfl), hrest 6 (by kernel_rfl), hrest 7 (by kernel_rfl), hrest 8 (by kernel_rfl), e9, hrest 10 (by kernel_rfl), hrest 11 (by kernel_rfl), hrest 12 (by kernel_rfl), hrest 13 (by kernel_rfl), hrest 14 (by kernel_rfl), hrest 15 (by kernel_rfl), hrest 16 (by kernel_rfl), hrest 17 (by kernel_rfl), hrest 18 (by kernel_rfl), hrest 19 (by kernel_rfl), hrest 20 (by kernel_rfl), hrest 21 (by kernel_rfl), hrest 22 (by kernel_rfl), hrest 23 (by kernel_rfl), hrest 24 (by kernel_rfl), hrest 25 (by kernel_rfl), hrest 26 (by kernel_rfl), hrest 27 (by kernel_rfl), hrest 28 (by kernel_rfl), e29, e30, e31, e32, e33, e34, hrest 35 (by kernel_rfl), hrest 36 (by kernel_rfl), hrest 37 (by kernel_rfl), hrest 38 (by kernel_rfl), hrest 39 (by kernel_rfl), hrest 40 (by kernel_rfl), hrest 41 (by kernel_rfl), hrest 42 (by kernel_rfl), hrest 43 (by kernel_rfl), hrest 44 (by kernel_rfl), hrest 45 (by kernel_rfl), hrest 46 (by kernel_rfl), hrest 47 (by kernel_rfl), hrest 48 (by kernel_rfl), hrest 49 (by kernel_rfl), hrest 50 (by kernel_rfl), hrest 51 (by kernel_rfl), hrest 52 (by kernel_rfl), hrest 53 (by kernel_rfl), hrest 54 (by kernel_rfl), hrest 55 (by kernel_rfl), hrest 56 (by kernel_rfl), hrest 57 (by kernel_rfl), hrest 58 (by kernel_rfl), hrest 59 (by kernel_rfl), hrest 60 (by kernel_rfl), hrest 61 (by kernel_rfl), hrest 62 (by kernel_rfl), hrest 63 (by kernel_rfl), trivial⟩ hdf
     clear hsz hdf hrest hslots hpt e9 e29 e30 e31 e32 e33 e34
     refine Fg.wpl_skip rfl rfl (st (l := num v) rfl rfl rfl b9 rfl (num_len _) rfl) ?_
     refine wpList_nil ?_
     have d9 := stored (l := num v) b9 rfl (num_len _)
     have g9 := gb_setCells_new (cs := pL (num v)) (gb_trans H8.out.1 hB) (B := N9) (by omega) 0
     have d4 := (H8.out.2.1.gn hB).setCells_other (cs := pL (num v)) (C := N9) 0 (by omega)
     have d6 := (H8.out.2.2.1.gn hB).setCells_other (cs := pL (num v)) (C := N9) 0 (by omega)
     have d7 := (H8.out.2.2.2.1.gn hB).setCells_other (cs := pL (num v)) (C := N9) 0 (by omega)
     have z9 := d9.lt
     have y10 :N8<N9 := by omega
     clear b9 hB n9
     revert z9; revert d7; revert d6; revert d4; revert g9; revert d9
     generalize World.setCells _ _ _ _ = w9
     intro d9 g9 d4 d6 d7 z9
     have H9 := Lib.hid (And.intro g9 (And.intro d4 (And.intro d6 (And.intro d7 d9)))); clear g9 d4 d6 d7 d9 H8
     go_upto_region 10 with (fail)
     by_cases hs :sqL (num v) = W
     .skip
      refine Fg.region_t [] [.any, .any, .any, .any, .any, .any, .any, .any, .any, .any, .any, .any, .any, .any, .any, .any, .any, .any, .any, .any, .any, .any, .any, .any, .any, .any, .any, .any, .any, .any, .any, .any, .any, .any, .any, .val (nV (num v)), .val (nV (num v)), .val (nV (sqL (num v))), .val (nV W), .val (Value.bool false)] w9 5 (gb_refl _ _) (by kernel_rfl) (by kernel_rfl) (by kernel_rfl) (by kernel_rfl) (by decide) (by kernel_rfl) ?_ ?_
      .refine ⟨Fg.vT rfl (by decide) fun ac w h =>?_, ?_⟩
       .have e9 :_ = Value.pointer (some ⟨N9, 0, none⟩) := h.r 9
        refine ⟨nV (num v), w, wants_none rfl, ?_, gb_refl _ _, rfl⟩
        exact ld rfl e9 (H9.out.2.2.2.2.gn h.base) (num_len _) rfl rfl
       refine ⟨Fg.vT rfl (by decide) fun ac w h =>?_, ?_⟩
       .have e9 :_ = Value.pointer (some ⟨N9, 0, none⟩) := h.r 9
        refine ⟨nV (num v), w, wants_none rfl, ?_, gb_refl _ _, rfl⟩
        exact ld rfl e9 (H9.out.2.2.2.2.gn h.base) (num_len _) rfl rfl
       refine ⟨Fg.cT rfl (by decide) fun ac w h =>?_, ?_⟩
       .have e35 :_ = nV (num v) := h.d 35
        have e36 :_ = nV (num v) := h.d 36
        refine ⟨41, #[nV (num v), nV (num v)], wants_none rfl, Fg.run_call rfl rfl (by simp only[List.map_toArray, List.map_cons, List.map_nil, Act.eval, e35, e36]) (Fg.run_enter Tryz.func41 (by kernel_rfl) (by kernel_rfl)), ?_⟩
        exact (mul_sq v w).mono fun _ _ ⟨he, hg⟩ =>⟨_, he, hg, rfl⟩
       refine ⟨Fg.vT rfl (by decide) fun ac w h =>?_, ?_⟩
       .have e7 :_ = Value.pointer (some ⟨N7, 0, none⟩) := h.r 7
        refine ⟨nV W, w, wants_none rfl, ?_, gb_refl _ _, rfl⟩
        exact ld rfl e7 (H9.out.2.2.2.1.gn h.base) hWl rfl rfl
       refine ⟨Fg.vT rfl (by decide) fun ac w h =>?_, ?_⟩
       .have e37 :_ = nV (sqL (num v)) := h.d 37
        have e38 :_ = nV W := h.d 38
        refine ⟨.bool false, w, wants_none rfl, ?_, gb_refl _ _, rfl⟩
        exact (run_neN (l := sqL (num v)) rfl e37 e38 (num_len _) hWl).trans (by rw[decide_eq_true hs]; rfl)
       trivial
      .intro ap wp hB hsz hdf hrest hslots hpt
       obtain ⟨⟨u35, e35⟩, ⟨u36, e36⟩, ⟨u37, e37⟩, ⟨u38, e38⟩, _⟩ := Fg.slotvs ap [35, 36, 37, 38]
       have e39 :ap.tmps.getD 39 undef = Value.bool false := hslots 39 (by kernel_rfl)
       obtain rfl := Fg.frame_is (a := ap) (vs := [Value.agg (pL a).toArray, Value.agg (pL b).toArray, Value.pointer (some ⟨w0.heap.size, 0, none⟩), Value.pointer (some ⟨w0.heap.size+1, 0, none⟩), Value.pointer (some ⟨w0.heap.size+2, 0, none⟩), Value.bool false, Value.pointer (some ⟨Q, 0, none⟩), Value.pointer (some ⟨N7, 0, none⟩), Value.pointer (some ⟨N8, 0, none⟩), Value.pointer (some ⟨N9, 0, none⟩), undef, nV zeros, nV a, nV zeros, Value.bool false, undef, nV b, nV zeros, Value.bool false, undef, u20, u21, u22, nV W, nV Pp, Value.pointer (some ⟨N8, 0, none⟩), Value.int .u64 65517, Value.int .u64 65520, Value.pointer (some ⟨N8, 0, none⟩), u29, u30, u31, u32, u33, nV (num v), u35, u36, u37, u38, Value.bool false, undef, undef, undef, undef, undef, undef, undef, undef, undef, undef, undef, undef, undef, undef, undef, undef, undef, undef, undef, undef, undef, undef, undef, undef]) hsz ⟨hrest 0 (by kernel_rfl), hrest 1 (by kernel_rfl), hrest 2 (by kernel_rfl), hrest 3 (by kernel_rfl), hrest 4 (by kernel_rfl), hrest 5 (by kernel_rfl), hrest 6 (by kernel_rfl), hrest 7 (by kernel_rfl), hrest 8 (by kernel_rfl), hrest 9 (by kernel_rfl), hrest 10 (by kernel_rfl), hrest 11 (by kernel_rfl), hrest 12 (by kernel_rfl), hrest 13 (by kernel_rfl), hrest 14 (by kernel_rfl), hrest 15 (by kernel_rfl), hrest 16 (by kernel_rfl), hrest 17 (by kernel_rfl), hrest 18 (by kernel_rfl), hrest 19 (by kernel_rfl), hrest 20 (by kernel_rfl), hrest 21 (by kernel_rfl), hrest 22 (by kernel_rfl), hrest 23 (by kernel_rfl), hrest 24 (by kernel_rfl), hrest 25 (by kernel_rfl), hrest 26 (by kernel_rfl), hrest 27 (by kernel_rfl), hrest 28 (by kernel_rfl), hrest 29 (by kernel_rfl), hrest 30 (by kernel_rfl), hrest 31 (by kernel_rfl), hrest 32 (by kernel_rfl), hrest 33 (by kernel_rfl), hrest 34 (by kernel_rfl), e35, e36, e37, e38, e39, hrest 40 (by kernel_rfl), hrest 41 (by kernel_rfl), hrest 42 (by kernel_rfl), hrest 43 (by kernel_rfl), hrest 44 (by kernel_rfl), hrest 45 (by kernel_rfl), hrest 46 (by kernel_rfl), hrest 47 (by kernel_rfl), hrest 48 (by kernel_rfl), hrest 49 (by kernel_rfl), hrest 50 (by kernel_rfl), hrest 51 (by kernel_rfl), hrest 52 (by kernel_rfl), hrest 53 (by kernel_rfl), hrest 54 (by kernel_rfl), hrest 55 (by kernel_rfl), hrest 56 (by kernel_rfl), hrest 57 (by kernel_rfl), hrest 58 (by kernel_rfl), hrest 59 (by kernel_rfl), hrest 60 (by kernel_rfl), hrest 61 (by kernel_rfl), hrest 62 (by kernel_rfl), hrest 63 (by kernel_rfl), trivial⟩ hdf
       clear hsz hdf hrest hslots hpt e35 e36 e37 e38 e39
       refine wpList_nil ?_
       have HE :Hid (F = rEnd W (num v)) := Lib.hid (by have := HG.out; rwa [if_pos hs]at this)
       have H10 := Lib.hid (And.intro (gb_trans H9.out.1 hB) (And.intro (H9.out.2.1.gn hB) (And.intro (H9.out.2.2.1.gn hB) (And.intro (H9.out.2.2.2.1.gn hB) (H9.out.2.2.2.2.gn hB))))); clear hB hs
       go_upto_region 14 with (fail)
       by_cases hs2 :sqL (num v) = W
       .skip
        refine Fg.region_t [] [.any, .any, .any, .any, .any, .any, .any, .any, .any, .any, .any, .any, .any, .any, .any, .any, .any, .any, .any, .any, .any, .any, .any, .any, .any, .any, .any, .any, .any, .any, .any, .any, .any, .any, .any, .any, .any, .any, .any, .any, .any, .any, .any, .any, .any, .any, .any, .any, .any, .any, .any, .any, .val (nV (num v)), .val (nV (num v)), .val (nV (sqL (num v))), .val (nV W), .val (Value.bool false)] wp 5 (gb_refl _ _) (by kernel_rfl) (by kernel_rfl) (by kernel_rfl) (by kernel_rfl) (by decide) (by kernel_rfl) ?_ ?_
        .refine ⟨Fg.vT rfl (by decide) fun ac w h =>?_, ?_⟩
         .have e9 :_ = Value.pointer (some ⟨N9, 0, none⟩) := h.r 9
          refine ⟨nV (num v), w, wants_none rfl, ?_, gb_refl _ _, rfl⟩
          exact ld rfl e9 (H10.out.2.2.2.2.gn h.base) (num_len _) rfl rfl
         refine ⟨Fg.vT rfl (by decide) fun ac w h =>?_, ?_⟩
         .have e9 :_ = Value.pointer (some ⟨N9, 0, none⟩) := h.r 9
          refine ⟨nV (num v), w, wants_none rfl, ?_, gb_refl _ _, rfl⟩
          exact ld rfl e9 (H10.out.2.2.2.2.gn h.base) (num_len _) rfl rfl
         refine ⟨Fg.cT rfl (by decide) fun ac w h =>?_, ?_⟩
         .have e52 :_ = nV (num v) := h.d 52
          have e53 :_ = nV (num v) := h.d 53
          refine ⟨41, #[nV (num v), nV (num v)], wants_none rfl, Fg.run_call rfl rfl (by simp only[List.map_toArray, List.map_cons, List.map_nil, Act.eval, e52, e53]) (Fg.run_enter Tryz.func41 (by kernel_rfl) (by kernel_rfl)), ?_⟩
          exact (mul_sq v w).mono fun _ _ ⟨he, hg⟩ =>⟨_, he, hg, rfl⟩
         refine ⟨Fg.vT rfl (by decide) fun ac w h =>?_, ?_⟩
         .have e7 :_ = Value.pointer (some ⟨N7, 0, none⟩) := h.r 7
          refine ⟨nV W, w, wants_none rfl, ?_, gb_refl _ _, rfl⟩
          exact ld rfl e7 (H10.out.2.2.2.1.gn h.base) hWl rfl rfl
         refine ⟨Fg.vT rfl (by decide) fun ac w h =>?_, ?_⟩
         .have e54 :_ = nV (sqL (num v)) := h.d 54
          have e55 :_ = nV W := h.d 55
          refine ⟨.bool false, w, wants_none rfl, ?_, gb_refl _ _, rfl⟩
          exact (run_neN (l := sqL (num v)) rfl e54 e55 (num_len _) hWl).trans (by rw[decide_eq_true hs2]; rfl)
         trivial
        .intro ax wx hB hsz hdf hrest hslots hpt
         obtain ⟨⟨u52, e52⟩, ⟨u53, e53⟩, ⟨u54, e54⟩, ⟨u55, e55⟩, _⟩ := Fg.slotvs ax [52, 53, 54, 55]
         have e56 :ax.tmps.getD 56 undef = Value.bool false := hslots 56 (by kernel_rfl)
         obtain rfl := Fg.frame_is (a := ax) (vs := [Value.agg (pL a).toArray, Value.agg (pL b).toArray, Value.pointer (some ⟨w0.heap.size, 0, none⟩), Value.pointer (some ⟨w0.heap.size+1, 0, none⟩), Value.pointer (some ⟨w0.heap.size+2, 0, none⟩), Value.bool false, Value.pointer (some ⟨Q, 0, none⟩), Value.pointer (some ⟨N7, 0, none⟩), Value.pointer (some ⟨N8, 0, none⟩), Value.pointer (some ⟨N9, 0, none⟩), undef, nV zeros, nV a, nV zeros, Value.bool false, undef, nV b, nV zeros, Value.bool false, undef, u20, u21, u22, nV W, nV Pp, Value.pointer (some ⟨N8, 0, none⟩), Value.int .u64 65517, Value.int .u64 65520, Value.pointer (some ⟨N8, 0, none⟩), u29, u30, u31, u32, u33, nV (num v), u35, u36, u37, u38, Value.bool false, undef, undef, undef, undef, undef, undef, undef, undef, undef, undef, undef, undef, u52, u53, u54, u55, Value.bool false, undef, undef, undef, undef, undef, undef, undef]) hsz ⟨hrest 0 (by kernel_rfl), hrest 1 (by kernel_rfl), hrest 2 (by kernel_rfl), hrest 3 (by kernel_rfl), hrest 4 (by kernel_rfl), hrest 5 (by kernel_rfl), hrest 6 (by kernel_rfl), hrest 7 (by kernel_rfl), hrest 8 (by kernel_rfl), hrest 9 (by kernel_rfl), hrest 10 (by kernel_rfl), hrest 11 (by kernel_rfl), hrest 12 (by kernel_rfl), hrest 13 (by kernel_rfl), hrest 14 (by kernel_rfl), hrest 15 (by kernel_rfl), hrest 16 (by kernel_rfl), hrest 17 (by kernel_rfl), hrest 18 (by kernel_rfl), hrest 19 (by kernel_rfl), hrest 20 (by kernel_rfl), hrest 21 (by kernel_rfl), hrest 22 (by kernel_rfl), hrest 23 (by kernel_rfl), hrest 24 (by kernel_rfl), hrest 25 (by kernel_rfl), hrest 26 (by kernel_rfl), hrest 27 (by kernel_rfl), hrest 28 (by kernel_rfl), hrest 29 (by kernel_rfl), hrest 30 (by kernel_rfl), hrest 31 (by kernel_rfl), hrest 32 (by kernel_rfl), hrest 33 (by kernel_rfl), hrest 34 (by kernel_rfl), hrest 35 (by kernel_rfl), hrest 36 (by kernel_rfl), hrest 37 (by kernel_rfl), hrest 38 (by kernel_rfl), hrest 39 (by kernel_rfl), hrest 40 (by kernel_rfl), hrest 41 (by kernel_rfl), hrest 42 (by kernel_rfl), hrest 43 (by kernel_rfl), hrest 44 (by kernel_rfl), hrest 45 (by kernel_rfl), hrest 46 (by kernel_rfl), hrest 47 (by kernel_rfl), hrest 48 (by kernel_rfl), hrest 49 (by kernel_rfl), hrest 50 (by kernel_rfl), hrest 51 (by kernel_rfl), e52, e53, e54, e55, e56, hrest 57 (by kernel_rfl), hrest 58 (by kernel_rfl), hrest 59 (by kernel_rfl), hrest 60 (by kernel_rfl), hrest 61 (by kernel_rfl), hrest 62 (by kernel_rfl), hrest 63 (by kernel_rfl), trivial⟩ hdf
         clear hsz hdf hrest hslots hpt e52 e53 e54 e55 e56
         refine wpList_nil ?_
         have HX := Lib.hid (And.intro (gb_trans H10.out.1 hB) (And.intro (H10.out.2.1.gn hB) (And.intro (H10.out.2.2.1.gn hB) (H10.out.2.2.2.2.gn hB)))); clear hB
         have hE := HE.out
         rw[rEnd, if_pos hs2]at hE
         go_upto_region 16 with (fail)
         refine wp_region_lit ?_
         refine Fg.wpl_value (v := nV (num v)) (w' := wx) rfl (ld rfl rfl (HX.out.2.2.2) (num_len _) rfl rfl) ?_
         simp only[Act.put, List.setIfInBounds_toArray, List.set_cons_succ, List.set_cons_zero]
         refine Fg.wpl_call rfl (Fg.run_call (vs := #[nV (num v)]) rfl rfl (by simp only[List.map_toArray, List.map_cons, List.map_nil, Act.eval]<;>rfl) (Fg.run_enter Tryz.func44 (by kernel_rfl) (by kernel_rfl))) ?_
         refine (Odd_num v wx).mono ?_
         rintro e wy ⟨rfl, gwy⟩
         refine ⟨_, rfl, ?_⟩
         simp only[Act.put, List.setIfInBounds_toArray, List.set_cons_succ, List.set_cons_zero]
         refine wpList_nil ?_
         have HY := Lib.hid (And.intro (gb_trans HX.out.1 gwy) (And.intro (HX.out.2.1.gn gwy) (And.intro (HX.out.2.2.1.gn gwy) (HX.out.2.2.2.gn gwy)))); clear gwy HX
         by_cases ho :V (num v)%2 = 1
         .rw[if_pos ho]at hE
          rw[decide_eq_true ho]
          have HZ := Lib.hid hE; clear hE ho hs2
          go_upto_region 17 with (fail)
          refine wp_region_lit ?_
          refine Fg.wpl_value (v := nV (zeros)) (w' := wy) rfl (ld rfl rfl (HY.out.2.2.1) (rfl) rfl rfl) ?_
          simp only[Act.put, List.setIfInBounds_toArray, List.set_cons_succ, List.set_cons_zero]
          refine Fg.wpl_value (v := nV (num v)) (w' := wy) rfl (ld rfl rfl (HY.out.2.2.2) (num_len _) rfl rfl) ?_
          simp only[Act.put, List.setIfInBounds_toArray, List.set_cons_succ, List.set_cons_zero]
          refine Fg.wpl_call rfl (Fg.run_call (vs := #[nV zeros, nV (num v)]) rfl rfl (by simp only[List.map_toArray, List.map_cons, List.map_nil, Act.eval]<;>rfl) (Fg.run_enter Tryz.func40 (by kernel_rfl) (by kernel_rfl))) ?_
          refine (Sub_zero v wy).mono ?_
          rintro e wz ⟨rfl, gwz⟩
          refine ⟨_, rfl, ?_⟩
          simp only[Act.put, List.setIfInBounds_toArray, List.set_cons_succ, List.set_cons_zero]
          obtain ⟨n, hn⟩ :∃ n, n = num (V zeros+(Fe.P-V (num v))) := ⟨_, rfl⟩
          have hnl :n.length = 16 := by rw[hn]; exact num_len _
          rw[<- hn]
          rw[<- hn]at HZ
          have b9 := HY.out.2.2.2.gn gwz
          refine Fg.wpl_skip rfl rfl (st (l := n) rfl rfl rfl b9 (by rw[pL_len]; exact num_len _) hnl rfl) ?_
          refine wpList_nil ?_
          have d9 := stored (l := n) b9 (by rw[pL_len]; exact num_len _) hnl
          have g9 := gb_setCells_new (cs := pL n) (gb_trans HY.out.1 gwz) (B := N9) (by omega) 0
          have d4 := (HY.out.2.1.gn gwz).setCells_other (cs := pL n) (C := N9) 0 (by omega)
          clear b9 hn gwz
          revert d4; revert g9; revert d9
          generalize World.setCells _ _ _ _ = wv
          intro d9 g9 d4
          go_upto_region 18 with (fail)
          refine wp_region_lit ?_
          refine Fg.wpl_value (v := nV (n)) (w' := wv) rfl (ld rfl rfl (d9) (hnl) rfl rfl) ?_
          simp only[Act.put, List.setIfInBounds_toArray, List.set_cons_succ, List.set_cons_zero]
          refine Fg.wpl_skip rfl rfl (st (l := n) rfl rfl rfl (d4) rfl (hnl) rfl) ?_
          refine Fg.wpl_value (v := .bool true) (w' := _) rfl (by go_simp; rfl) ?_
          simp only[Act.put, List.setIfInBounds_toArray, List.set_cons_succ, List.set_cons_zero]
          refine wpList_nil ?_
          have hR := stored (l := n) (d4) rfl (hnl)
          have gR := gb_setCells_new (cs := pL (n)) (g9) (B := w0.heap.size+2) (by omega) 0
          revert gR; revert hR
          generalize World.setCells _ _ _ _ = wR
          intro hR gR
          go_wp2_with fail
          exact bodyPost_ret (v := .tuple #[nV (n), .bool true]) (res2 Tryz.results45 _ _ (w0.heap.size+2) (n) (.bool true) rfl rfl hR (hnl)) rfl ⟨by rw[HZ.out], gR⟩
         .rw[if_neg ho]at hE
          rw[decide_eq_false ho]
          have HZ := Lib.hid hE; clear hE ho hs2
          go_upto_region 18 with (fail)
          refine wp_region_lit ?_
          refine Fg.wpl_value (v := nV (num v)) (w' := wy) rfl (ld rfl rfl (HY.out.2.2.2) (num_len _) rfl rfl) ?_
          simp only[Act.put, List.setIfInBounds_toArray, List.set_cons_succ, List.set_cons_zero]
          refine Fg.wpl_skip rfl rfl (st (l := num v) rfl rfl rfl (HY.out.2.1) rfl (num_len _) rfl) ?_
          refine Fg.wpl_value (v := .bool true) (w' := _) rfl (by go_simp; rfl) ?_
          simp only[Act.put, List.setIfInBounds_toArray, List.set_cons_succ, List.set_cons_zero]
          refine wpList_nil ?_
          have hR := stored (l := num v) (HY.out.2.1) rfl (num_len _)
          have gR := gb_setCells_new (cs := pL (num v)) (HY.out.1) (B := w0.heap.size+2) (by omega) 0
          revert gR; revert hR
          generalize World.setCells _ _ _ _ = wR
          intro hR gR
          go_wp2_with fail
          exact bodyPost_ret (v := .tuple #[nV (num v), .bool true]) (res2 Tryz.results45 _ _ (w0.heap.size+2) (num v) (.bool true) rfl rfl hR (num_len _)) rfl ⟨by rw[HZ.out], gR⟩
       .skip
        refine Fg.region_t [] [.any, .any, .any, .any, .any, .any, .any, .any, .any, .any, .any, .any, .any, .any, .any, .any, .any, .any, .any, .any, .any, .any, .any, .any, .any, .any, .any, .any, .any, .any, .any, .any, .any, .any, .any, .any, .any, .any, .any, .any, .any, .any, .any, .any, .any, .any, .any, .any, .any, .any, .any, .any, .val (nV (num v)), .val (nV (num v)), .val (nV (sqL (num v))), .val (nV W), .val (Value.bool true)] wp 5 (gb_refl _ _) (by kernel_rfl) (by kernel_rfl) (by kernel_rfl) (by kernel_rfl) (by decide) (by kernel_rfl) ?_ ?_
        .refine ⟨Fg.vT rfl (by decide) fun ac w h =>?_, ?_⟩
         .have e9 :_ = Value.pointer (some ⟨N9, 0, none⟩) := h.r 9
          refine ⟨nV (num v), w, wants_none rfl, ?_, gb_refl _ _, rfl⟩
          exact ld rfl e9 (H10.out.2.2.2.2.gn h.base) (num_len _) rfl rfl
         refine ⟨Fg.vT rfl (by decide) fun ac w h =>?_, ?_⟩
         .have e9 :_ = Value.pointer (some ⟨N9, 0, none⟩) := h.r 9
          refine ⟨nV (num v), w, wants_none rfl, ?_, gb_refl _ _, rfl⟩
          exact ld rfl e9 (H10.out.2.2.2.2.gn h.base) (num_len _) rfl rfl
         refine ⟨Fg.cT rfl (by decide) fun ac w h =>?_, ?_⟩
         .have e52 :_ = nV (num v) := h.d 52
          have e53 :_ = nV (num v) := h.d 53
          refine ⟨41, #[nV (num v), nV (num v)], wants_none rfl, Fg.run_call rfl rfl (by simp only[List.map_toArray, List.map_cons, List.map_nil, Act.eval, e52, e53]) (Fg.run_enter Tryz.func41 (by kernel_rfl) (by kernel_rfl)), ?_⟩
          exact (mul_sq v w).mono fun _ _ ⟨he, hg⟩ =>⟨_, he, hg, rfl⟩
         refine ⟨Fg.vT rfl (by decide) fun ac w h =>?_, ?_⟩
         .have e7 :_ = Value.pointer (some ⟨N7, 0, none⟩) := h.r 7
          refine ⟨nV W, w, wants_none rfl, ?_, gb_refl _ _, rfl⟩
          exact ld rfl e7 (H10.out.2.2.2.1.gn h.base) hWl rfl rfl
         refine ⟨Fg.vT rfl (by decide) fun ac w h =>?_, ?_⟩
         .have e54 :_ = nV (sqL (num v)) := h.d 54
          have e55 :_ = nV W := h.d 55
          refine ⟨.bool true, w, wants_none rfl, ?_, gb_refl _ _, rfl⟩
          exact (run_neN (l := sqL (num v)) rfl e54 e55 (num_len _) hWl).trans (by rw[decide_eq_false hs2]; rfl)
         trivial
        .intro ax wx hB hsz hdf hrest hslots hpt
         obtain ⟨⟨u52, e52⟩, ⟨u53, e53⟩, ⟨u54, e54⟩, ⟨u55, e55⟩, _⟩ := Fg.slotvs ax [52, 53, 54, 55]
         have e56 :ax.tmps.getD 56 undef = Value.bool true := hslots 56 (by kernel_rfl)
         obtain rfl := Fg.frame_is (a := ax) (vs := [Value.agg (pL a).toArray, Value.agg (pL b).toArray, Value.pointer (some ⟨w0.heap.size, 0, none⟩), Value.pointer (some ⟨w0.heap.size+1, 0, none⟩), Value.pointer (some ⟨w0.heap.size+2, 0, none⟩), Value.bool false, Value.pointer (some ⟨Q, 0, none⟩), Value.pointer (some ⟨N7, 0, none⟩), Value.pointer (some ⟨N8, 0, none⟩), Value.pointer (some ⟨N9, 0, none⟩), undef, nV zeros, nV a, nV zeros, Value.bool false, undef, nV b, nV zeros, Value.bool false, undef, u20, u21, u22, nV W, nV Pp, Value.pointer (some ⟨N8, 0, none⟩), Value.int .u64 65517, Value.int .u64 65520, Value.pointer (some ⟨N8, 0, none⟩), u29, u30, u31, u32, u33, nV (num v), u35, u36, u37, u38, Value.bool false, undef, undef, undef, undef, undef, undef, undef, undef, undef, undef, undef, undef, u52, u53, u54, u55, Value.bool true, undef, undef, undef, undef, undef, undef, undef]) hsz ⟨hrest 0 (by kernel_rfl), hrest 1 (by kernel_rfl), hrest 2 (by kernel_rfl), hrest 3 (by kernel_rfl), hrest 4 (by kernel_rfl), hrest 5 (by kernel_rfl), hrest 6 (by kernel_rfl), hrest 7 (by kernel_rfl), hrest 8 (by kernel_rfl), hrest 9 (by kernel_rfl), hrest 10 (by kernel_rfl), hrest 11 (by kernel_rfl), hrest 12 (by kernel_rfl), hrest 13 (by kernel_rfl), hrest 14 (by kernel_rfl), hrest 15 (by kernel_rfl), hrest 16 (by kernel_rfl), hrest 17 (by kernel_rfl), hrest 18 (by kernel_rfl), hrest 19 (by kernel_rfl), hrest 20 (by kernel_rfl), hrest 21 (by kernel_rfl), hrest 22 (by kernel_rfl), hrest 23 (by kernel_rfl), hrest 24 (by kernel_rfl), hrest 25 (by kernel_rfl), hrest 26 (by kernel_rfl), hrest 27 (by kernel_rfl), hrest 28 (by kernel_rfl), hrest 29 (by kernel_rfl), hrest 30 (by kernel_rfl), hrest 31 (by kernel_rfl), hrest 32 (by kernel_rfl), hrest 33 (by kernel_rfl), hrest 34 (by kernel_rfl), hrest 35 (by kernel_rfl), hrest 36 (by kernel_rfl), hrest 37 (by kernel_rfl), hrest 38 (by kernel_rfl), hrest 39 (by kernel_rfl), hrest 40 (by kernel_rfl), hrest 41 (by kernel_rfl), hrest 42 (by kernel_rfl), hrest 43 (by kernel_rfl), hrest 44 (by kernel_rfl), hrest 45 (by kernel_rfl), hrest 46 (by kernel_rfl), hrest 47 (by kernel_rfl), hrest 48 (by kernel_rfl), hrest 49 (by kernel_rfl), hrest 50 (by kernel_rfl), hrest 51 (by kernel_rfl), e52, e53, e54, e55, e56, hrest 57 (by kernel_rfl), hrest 58 (by kernel_rfl), hrest 59 (by kernel_rfl), hrest 60 (by kernel_rfl), hrest 61 (by kernel_rfl), hrest 62 (by kernel_rfl), hrest 63 (by kernel_rfl), trivial⟩ hdf
         clear hsz hdf hrest hslots hpt e52 e53 e54 e55 e56
         refine wpList_nil ?_
         have HX := Lib.hid (And.intro (gb_trans H10.out.1 hB) (And.intro (H10.out.2.1.gn hB) (H10.out.2.2.1.gn hB))); clear hB
         have hE := HE.out
         rw[rEnd, if_neg hs2]at hE
         have HZ := Lib.hid hE; clear hE hs2
         go_upto_region 15 with (fail)
         refine wp_region_lit ?_
         refine Fg.wpl_value (v := nV (zeros)) (w' := wx) rfl (ld rfl rfl (HX.out.2.2) (rfl) rfl rfl) ?_
         simp only[Act.put, List.setIfInBounds_toArray, List.set_cons_succ, List.set_cons_zero]
         refine Fg.wpl_skip rfl rfl (st (l := zeros) rfl rfl rfl (HX.out.2.1) rfl (rfl) rfl) ?_
         refine Fg.wpl_value (v := .bool false) (w' := _) rfl (by go_simp; rfl) ?_
         simp only[Act.put, List.setIfInBounds_toArray, List.set_cons_succ, List.set_cons_zero]
         refine wpList_nil ?_
         have hR := stored (l := zeros) (HX.out.2.1) rfl (rfl)
         have gR := gb_setCells_new (cs := pL (zeros)) (HX.out.1) (B := w0.heap.size+2) (by omega) 0
         revert gR; revert hR
         generalize World.setCells _ _ _ _ = wR
         intro hR gR
         go_wp2_with fail
         exact bodyPost_ret (v := .tuple #[nV (zeros), .bool false]) (res2 Tryz.results45 _ _ (w0.heap.size+2) (zeros) (.bool false) rfl rfl hR (rfl)) rfl ⟨by rw[HZ.out], gR⟩
     .skip
      refine Fg.region_t [] [.any, .any, .any, .any, .any, .any, .any, .any, .any, .any, .any, .any, .any, .any, .any, .any, .any, .any, .any, .any, .any, .any, .any, .any, .any, .any, .any, .any, .any, .any, .any, .any, .any, .any, .any, .val (nV (num v)), .val (nV (num v)), .val (nV (sqL (num v))), .val (nV W), .val (Value.bool true)] w9 5 (gb_refl _ _) (by kernel_rfl) (by kernel_rfl) (by kernel_rfl) (by kernel_rfl) (by decide) (by kernel_rfl) ?_ ?_
      .refine ⟨Fg.vT rfl (by decide) fun ac w h =>?_, ?_⟩
       .have e9 :_ = Value.pointer (some ⟨N9, 0, none⟩) := h.r 9
        refine ⟨nV (num v), w, wants_none rfl, ?_, gb_refl _ _, rfl⟩
        exact ld rfl e9 (H9.out.2.2.2.2.gn h.base) (num_len _) rfl rfl
       refine ⟨Fg.vT rfl (by decide) fun ac w h =>?_, ?_⟩
       .have e9 :_ = Value.pointer (some ⟨N9, 0, none⟩) := h.r 9
        refine ⟨nV (num v), w, wants_none rfl, ?_, gb_refl _ _, rfl⟩
        exact ld rfl e9 (H9.out.2.2.2.2.gn h.base) (num_len _) rfl rfl
       refine ⟨Fg.cT rfl (by decide) fun ac w h =>?_, ?_⟩
       .have e35 :_ = nV (num v) := h.d 35
        have e36 :_ = nV (num v) := h.d 36
        refine ⟨41, #[nV (num v), nV (num v)], wants_none rfl, Fg.run_call rfl rfl (by simp only[List.map_toArray, List.map_cons, List.map_nil, Act.eval, e35, e36]) (Fg.run_enter Tryz.func41 (by kernel_rfl) (by kernel_rfl)), ?_⟩
        exact (mul_sq v w).mono fun _ _ ⟨he, hg⟩ =>⟨_, he, hg, rfl⟩
       refine ⟨Fg.vT rfl (by decide) fun ac w h =>?_, ?_⟩
       .have e7 :_ = Value.pointer (some ⟨N7, 0, none⟩) := h.r 7
        refine ⟨nV W, w, wants_none rfl, ?_, gb_refl _ _, rfl⟩
        exact ld rfl e7 (H9.out.2.2.2.1.gn h.base) hWl rfl rfl
       refine ⟨Fg.vT rfl (by decide) fun ac w h =>?_, ?_⟩
       .have e37 :_ = nV (sqL (num v)) := h.d 37
        have e38 :_ = nV W := h.d 38
        refine ⟨.bool true, w, wants_none rfl, ?_, gb_refl _ _, rfl⟩
        exact (run_neN (l := sqL (num v)) rfl e37 e38 (num_len _) hWl).trans (by rw[decide_eq_false hs]; rfl)
       trivial
      .intro ap wp hB hsz hdf hrest hslots hpt
       obtain ⟨⟨u35, e35⟩, ⟨u36, e36⟩, ⟨u37, e37⟩, ⟨u38, e38⟩, _⟩ := Fg.slotvs ap [35, 36, 37, 38]
       have e39 :ap.tmps.getD 39 undef = Value.bool true := hslots 39 (by kernel_rfl)
       obtain rfl := Fg.frame_is (a := ap) (vs := [Value.agg (pL a).toArray, Value.agg (pL b).toArray, Value.pointer (some ⟨w0.heap.size, 0, none⟩), Value.pointer (some ⟨w0.heap.size+1, 0, none⟩), Value.pointer (some ⟨w0.heap.size+2, 0, none⟩), Value.bool false, Value.pointer (some ⟨Q, 0, none⟩), Value.pointer (some ⟨N7, 0, none⟩), Value.pointer (some ⟨N8, 0, none⟩), Value.pointer (some ⟨N9, 0, none⟩), undef, nV zeros, nV a, nV zeros, Value.bool false, undef, nV b, nV zeros, Value.bool false, undef, u20, u21, u22, nV W, nV Pp, Value.pointer (some ⟨N8, 0, none⟩), Value.int .u64 65517, Value.int .u64 65520, Value.pointer (some ⟨N8, 0, none⟩), u29, u30, u31, u32, u33, nV (num v), u35, u36, u37, u38, Value.bool true, undef, undef, undef, undef, undef, undef, undef, undef, undef, undef, undef, undef, undef, undef, undef, undef, undef, undef, undef, undef, undef, undef, undef, undef]) hsz ⟨hrest 0 (by kernel_rfl), hrest 1 (by kernel_rfl), hrest 2 (by kernel_rfl), hrest 3 (by kernel_rfl), hrest 4 (by kernel_rfl), hrest 5 (by kernel_rfl), hrest 6 (by kernel_rfl), hrest 7 (by kernel_rfl), hrest 8 (by kernel_rfl), hrest 9 (by kernel_rfl), hrest 10 (by kernel_rfl), hrest 11 (by kernel_rfl), hrest 12 (by kernel_rfl), hrest 13 (by kernel_rfl), hrest 14 (by kernel_rfl), hrest 15 (by kernel_rfl), hrest 16 (by kernel_rfl), hrest 17 (by kernel_rfl), hrest 18 (by kernel_rfl), hrest 19 (by kernel_rfl), hrest 20 (by kernel_rfl), hrest 21 (by kernel_rfl), hrest 22 (by kernel_rfl), hrest 23 (by kernel_rfl), hrest 24 (by kernel_rfl), hrest 25 (by kernel_rfl), hrest 26 (by kernel_rfl), hrest 27 (by kernel_rfl), hrest 28 (by kernel_rfl), hrest 29 (by kernel_rfl), hrest 30 (by kernel_rfl), hrest 31 (by kernel_rfl), hrest 32 (by kernel_rfl), hrest 33 (by kernel_rfl), hrest 34 (by kernel_rfl), e35, e36, e37, e38, e39, hrest 40 (by kernel_rfl), hrest 41 (by kernel_rfl), hrest 42 (by kernel_rfl), hrest 43 (by kernel_rfl), hrest 44 (by kernel_rfl), hrest 45 (by kernel_rfl), hrest 46 (by kernel_rfl), hrest 47 (by kernel_rfl), hrest 48 (by kernel_rfl), hrest 49 (by kernel_rfl), hrest 50 (by kernel_rfl), hrest 51 (by kernel_rfl), hrest 52 (by kernel_rfl), hrest 53 (by kernel_rfl), hrest 54 (by kernel_rfl), hrest 55 (by kernel_rfl), hrest 56 (by kernel_rfl), hrest 57 (by kernel_rfl), hrest 58 (by kernel_rfl), hrest 59 (by kernel_rfl), hrest 60 (by kernel_rfl), hrest 61 (by kernel_rfl), hrest 62 (by kernel_rfl), hrest 63 (by kernel_rfl), trivial⟩ hdf
       clear hsz hdf hrest hslots hpt e35 e36 e37 e38 e39
       refine wpList_nil ?_
       obtain ⟨v2, hv2⟩ :∃ v2, rR1 (num v) = num v2 := ⟨_, rfl⟩
       have cR1 := fun w =>mul_R1 v w
       rw[hv2]at cR1
       have HE :Hid (F = rEnd W (num v2)) := Lib.hid (by have := HG.out; rwa [if_neg hs, hv2]at this)
       have HM := Lib.hid cR1; clear cR1 hv2 hs
       have d4 := H9.out.2.1.gn hB
       have d6 := H9.out.2.2.1.gn hB
       have d7 := H9.out.2.2.2.1.gn hB
       have d9 := H9.out.2.2.2.2.gn hB
       have g9 := gb_trans H9.out.1 hB
       have zp := hB.size
       clear hB
       go_upto_region 11 with (fail)
       refine wp_region_lit ?_
       refine Fg.wpl_call rfl (Fg.run_call (vs := #[]) rfl rfl (by simp only[List.map_toArray, List.map_nil]) (Fg.run_enter Tryz.func28 (by kernel_rfl) (by kernel_rfl))) ?_
       refine (p_any wp).mono ?_
       rintro e w10 ⟨rfl, gw10⟩
       refine ⟨_, rfl, ?_⟩
       simp only[Act.put, List.setIfInBounds_toArray, List.set_cons_succ, List.set_cons_zero]
       refine Fg.wpl_value (v := .pointer (some ⟨w10.heap.size, 0, none⟩)) (w' := w10.alloc (.cells (pL zeros).toArray 31)) rfl (by go_simp; rfl) ?_
       simp only[Act.put, List.setIfInBounds_toArray, List.set_cons_succ, List.set_cons_zero]
       refine Fg.wpl_skip rfl rfl (st (l := Pp) rfl rfl rfl (new (w := w10) rfl zeros) rfl (Pp_len) rfl) ?_
       refine wpList_nil ?_
       obtain ⟨hw11, gw11, sw11⟩ := var w10 (Pp) (Pp_len)
       revert hw11 gw11 sw11
       generalize World.setCells _ _ _ _ = w11
       intro hw11 gw11 sw11
       have z10 := gw10.size
       obtain ⟨N10, hN10⟩ :∃ N10, N10 = w10.heap.size := ⟨_, rfl⟩
       have y11 :N9<N10 := by omega
       rw[<- hN10]at hw11 sw11 ⊢
       have d4 := (d4.gn gw10).grown gw11 (by simp)
       have d6 := (d6.gn gw10).grown gw11 (by simp)
       have d7 := (d7.gn gw10).grown gw11 (by simp)
       have d9 := (d9.gn gw10).grown gw11 (by simp)
       have g9 := gb_trans (gb_trans g9 gw10) gw11
       have c0 :w11.cell? ⟨N10, 0, none⟩ = some (.int .u64 65517) := cell hw11 0 (by decide)
       have f0 := hw11.free 0
       have o10 :Blk (w11.setCell ⟨N10, 0, none⟩ (.int .u64 65516)) N10 31 (pL q1) := set hw11 0 65516
       have o4 := d4.other (a := ⟨N10, 0, none⟩) (by show N10 ≠ w0.heap.size+2; omega) (.int .u64 65516)
       have o6 := d6.other (a := ⟨N10, 0, none⟩) (by show N10 ≠ Q; omega) (.int .u64 65516)
       have o7 := d7.other (a := ⟨N10, 0, none⟩) (by show N10 ≠ N7; omega) (.int .u64 65516)
       have o9 := d9.other (a := ⟨N10, 0, none⟩) (by show N10 ≠ N9; omega) (.int .u64 65516)
       have og := gb_set_new g9 (p := ⟨N10, 0, none⟩) (by show w0.heap.size <= N10; omega) (.int .u64 65516)
       have H11 := Lib.hid (And.intro og (And.intro o4 (And.intro o6 (And.intro o7 (And.intro o9 o10))))); clear og o4 o6 o7 o9 o10 d4 d6 d7 d9 g9 gw10 gw11 hw11 z10 zp hN10 H9 H3
       go_upto_region 13 with (fail)
       revert H11
       generalize w11.setCell ⟨N10, 0, none⟩ (.int .u64 65516) = w12
       intro H11
       clear c0 f0
       refine Fg.region_t [] [.any, .any, .any, .any, .any, .any, .any, .any, .any, .any, .any, .any, .any, .any, .any, .any, .any, .any, .any, .any, .any, .any, .any, .any, .any, .any, .any, .any, .any, .any, .any, .any, .any, .any, .any, .any, .any, .any, .any, .any, .any, .any, .any, .any, .any, .val (nV (num v)), .val (nV (num 2)), .val (nV q1), .val (nV q2), .val (nV q3), .val (nV rI), .val (nV (num v2))] w12 7 (gb_refl _ _) (by kernel_rfl) (by kernel_rfl) (by kernel_rfl) (by kernel_rfl) (by decide) (by kernel_rfl) ?_ ?_
       .refine ⟨Fg.vT rfl (by decide) fun ac w h =>?_, ?_⟩
        .have e9 :_ = Value.pointer (some ⟨N9, 0, none⟩) := h.r 9
         refine ⟨nV (num v), w, wants_none rfl, ?_, gb_refl _ _, rfl⟩
         exact ld rfl e9 (H11.out.2.2.2.2.1.gn h.base) (num_len _) rfl rfl
        refine ⟨Fg.cT rfl (by decide) fun ac w h =>?_, ?_⟩
        .refine ⟨42, #[Value.int .u64 2], wants_none rfl, Fg.run_call rfl rfl (by simp only[List.map_toArray, List.map_cons, List.map_nil, Act.eval]) (Fg.run_enter Tryz.func42 (by kernel_rfl) (by kernel_rfl)), ?_⟩
         exact (small_two w).mono fun _ _ ⟨he, hg⟩ =>⟨_, he, hg, rfl⟩
        refine ⟨Fg.vT rfl (by decide) fun ac w h =>?_, ?_⟩
        .have e10 :_ = Value.pointer (some ⟨N10, 0, none⟩) := h.r 10
         refine ⟨nV q1, w, wants_none rfl, ?_, gb_refl _ _, rfl⟩
         exact ld rfl e10 (H11.out.2.2.2.2.2.gn h.base) q1_len rfl rfl
        refine ⟨Fg.cT rfl (by decide) fun ac w h =>?_, ?_⟩
        .have e47 :_ = nV q1 := h.d 47
         refine ⟨83, #[nV q1], wants_none rfl, Fg.run_call rfl rfl (by simp only[List.map_toArray, List.map_cons, List.map_nil, Act.eval, e47]) (Fg.run_enter Tryz.func83 (by kernel_rfl) (by kernel_rfl)), ?_⟩
         exact (half_q1 w).mono fun _ _ ⟨he, hg⟩ =>⟨_, he, hg, rfl⟩
        refine ⟨Fg.cT rfl (by decide) fun ac w h =>?_, ?_⟩
        .have e48 :_ = nV q2 := h.d 48
         refine ⟨83, #[nV q2], wants_none rfl, Fg.run_call rfl rfl (by simp only[List.map_toArray, List.map_cons, List.map_nil, Act.eval, e48]) (Fg.run_enter Tryz.func83 (by kernel_rfl) (by kernel_rfl)), ?_⟩
         exact (half_q2 w).mono fun _ _ ⟨he, hg⟩ =>⟨_, he, hg, rfl⟩
        refine ⟨Fg.cT rfl (by decide) fun ac w h =>?_, ?_⟩
        .have e46 :_ = nV (num 2) := h.d 46
         have e49 :_ = nV q3 := h.d 49
         refine ⟨82, #[nV (num 2), nV q3], wants_none rfl, Fg.run_call rfl rfl (by simp only[List.map_toArray, List.map_cons, List.map_nil, Act.eval, e46, e49]) (Fg.run_enter Tryz.func82 (by kernel_rfl) (by kernel_rfl)), ?_⟩
         exact (pow_I w).mono fun _ _ ⟨he, hg⟩ =>⟨_, he, hg, rfl⟩
        refine ⟨Fg.cT rfl (by decide) fun ac w h =>?_, ?_⟩
        .have e45 :_ = nV (num v) := h.d 45
         have e50 :_ = nV rI := h.d 50
         refine ⟨41, #[nV (num v), nV rI], wants_none rfl, Fg.run_call rfl rfl (by simp only[List.map_toArray, List.map_cons, List.map_nil, Act.eval, e45, e50]) (Fg.run_enter Tryz.func41 (by kernel_rfl) (by kernel_rfl)), ?_⟩
         exact (HM.out w).mono fun _ _ ⟨he, hg⟩ =>⟨_, he, hg, rfl⟩
        trivial
       .intro ao wo hB hsz hdf hrest hslots hpt
        obtain ⟨⟨u45, e45⟩, ⟨u46, e46⟩, ⟨u47, e47⟩, ⟨u48, e48⟩, ⟨u49, e49⟩, ⟨u50, e50⟩, _⟩ := Fg.slotvs ao [45, 46, 47, 48, 49, 50]
        have e51 :ao.tmps.getD 51 undef = nV (num v2) := hslots 51 (by kernel_rfl)
        obtain rfl := Fg.frame_is (a := ao) (vs := [Value.agg (pL a).toArray, Value.agg (pL b).toArray, Value.pointer (some ⟨w0.heap.size, 0, none⟩), Value.pointer (some ⟨w0.heap.size+1, 0, none⟩), Value.pointer (some ⟨w0.heap.size+2, 0, none⟩), Value.bool false, Value.pointer (some ⟨Q, 0, none⟩), Value.pointer (some ⟨N7, 0, none⟩), Value.pointer (some ⟨N8, 0, none⟩), Value.pointer (some ⟨N9, 0, none⟩), Value.pointer (some ⟨N10, 0, none⟩), nV zeros, nV a, nV zeros, Value.bool false, undef, nV b, nV zeros, Value.bool false, undef, u20, u21, u22, nV W, nV Pp, Value.pointer (some ⟨N8, 0, none⟩), Value.int .u64 65517, Value.int .u64 65520, Value.pointer (some ⟨N8, 0, none⟩), u29, u30, u31, u32, u33, nV (num v), u35, u36, u37, u38, Value.bool true, nV Pp, Value.pointer (some ⟨N10, 0, none⟩), Value.int .u64 65517, Value.int .u64 65516, Value.pointer (some ⟨N10, 0, none⟩), u45, u46, u47, u48, u49, u50, nV (num v2), undef, undef, undef, undef, undef, undef, undef, undef, undef, undef, undef, undef]) hsz ⟨hrest 0 (by kernel_rfl), hrest 1 (by kernel_rfl), hrest 2 (by kernel_rfl), hrest 3 (by kernel_rfl), hrest 4 (by kernel_rfl), hrest 5 (by kernel_rfl), hrest 6 (by kernel_rfl), hrest 7 (by kernel_rfl), hrest 8 (by kernel_rfl), hrest 9 (by kernel_rfl), hrest 10 (by kernel_rfl), hrest 11 (by kernel_rfl), hrest 12 (by kernel_rfl), hrest 13 (by kernel_rfl), hrest 14 (by kernel_rfl), hrest 15 (by kernel_rfl), hrest 16 (by kernel_rfl), hrest 17 (by kernel_rfl), hrest 18 (by kernel_rfl), hrest 19 (by kernel_rfl), hrest 20 (by kernel_rfl), hrest 21 (by kernel_rfl), hrest 22 (by kernel_rfl), hrest 23 (by kernel_rfl), hrest 24 (by kernel_rfl), hrest 25 (by kernel_rfl), hrest 26 (by kernel_rfl), hrest 27 (by kernel_rfl), hrest 28 (by kernel_rfl), hrest 29 (by kernel_rfl), hrest 30 (by kernel_rfl), hrest 31 (by kernel_rfl), hrest 32 (by kernel_rfl), hrest 33 (by kernel_rfl), hrest 34 (by kernel_rfl), hrest 35 (by kernel_rfl), hrest 36 (by kernel_rfl), hrest 37 (by kernel_rfl), hrest 38 (by kernel_rfl), hrest 39 (by kernel_rfl), hrest 40 (by kernel_rfl), hrest 41 (by kernel_rfl), hrest 42 (by kernel_rfl), hrest 43 (by kernel_rfl), hrest 44 (by kernel_rfl), e45, e46, e47, e48, e49, e50, e51, hrest 52 (by kernel_rfl), hrest 53 (by kernel_rfl), hrest 54 (by kernel_rfl), hrest 55 (by kernel_rfl), hrest 56 (by kernel_rfl), hrest 57 (by kernel_rfl), hrest 58 (by kernel_rfl), hrest 59 (by kernel_rfl), hrest 60 (by kernel_rfl), hrest 61 (by kernel_rfl), hrest 62 (by kernel_rfl), hrest 63 (by kernel_rfl), trivial⟩ hdf
        clear hsz hdf hrest hslots hpt e45 e46 e47 e48 e49 e50 e51
        have b9 := H11.out.2.2.2.2.1.gn hB
        refine Fg.wpl_skip rfl rfl (st (l := num v2) rfl rfl rfl b9 (by rw[pL_len]; exact num_len _) (num_len _) rfl) ?_
        refine wpList_nil ?_
        have d9 := stored (l := num v2) b9 (by rw[pL_len]; exact num_len _) (num_len _)
        have g9 := gb_setCells_new (cs := pL (num v2)) (gb_trans H11.out.1 hB) (B := N9) (by omega) 0
        have d4 := (H11.out.2.1.gn hB).setCells_other (cs := pL (num v2)) (C := N9) 0 (by omega)
        have d6 := (H11.out.2.2.1.gn hB).setCells_other (cs := pL (num v2)) (C := N9) 0 (by omega)
        have d7 := (H11.out.2.2.2.1.gn hB).setCells_other (cs := pL (num v2)) (C := N9) 0 (by omega)
        clear b9 hB
        revert d7; revert d6; revert d4; revert g9; revert d9
        generalize World.setCells _ _ _ _ = w13
        intro d9 g9 d4 d6 d7
        have H10 := Lib.hid (And.intro g9 (And.intro d4 (And.intro d6 (And.intro d7 d9)))); clear g9 d4 d6 d7 d9 H11
        go_upto_region 14 with (fail)
        by_cases hs2 :sqL (num v2) = W
        .skip
         refine Fg.region_t [] [.any, .any, .any, .any, .any, .any, .any, .any, .any, .any, .any, .any, .any, .any, .any, .any, .any, .any, .any, .any, .any, .any, .any, .any, .any, .any, .any, .any, .any, .any, .any, .any, .any, .any, .any, .any, .any, .any, .any, .any, .any, .any, .any, .any, .any, .any, .any, .any, .any, .any, .any, .any, .val (nV (num v2)), .val (nV (num v2)), .val (nV (sqL (num v2))), .val (nV W), .val (Value.bool false)] w13 5 (gb_refl _ _) (by kernel_rfl) (by kernel_rfl) (by kernel_rfl) (by kernel_rfl) (by decide) (by kernel_rfl) ?_ ?_
         .refine ⟨Fg.vT rfl (by decide) fun ac w h =>?_, ?_⟩
          .have e9 :_ = Value.pointer (some ⟨N9, 0, none⟩) := h.r 9
           refine ⟨nV (num v2), w, wants_none rfl, ?_, gb_refl _ _, rfl⟩
           exact ld rfl e9 (H10.out.2.2.2.2.gn h.base) (num_len _) rfl rfl
          refine ⟨Fg.vT rfl (by decide) fun ac w h =>?_, ?_⟩
          .have e9 :_ = Value.pointer (some ⟨N9, 0, none⟩) := h.r 9
           refine ⟨nV (num v2), w, wants_none rfl, ?_, gb_refl _ _, rfl⟩
           exact ld rfl e9 (H10.out.2.2.2.2.gn h.base) (num_len _) rfl rfl
          refine ⟨Fg.cT rfl (by decide) fun ac w h =>?_, ?_⟩
          .have e52 :_ = nV (num v2) := h.d 52
           have e53 :_ = nV (num v2) := h.d 53
           refine ⟨41, #[nV (num v2), nV (num v2)], wants_none rfl, Fg.run_call rfl rfl (by simp only[List.map_toArray, List.map_cons, List.map_nil, Act.eval, e52, e53]) (Fg.run_enter Tryz.func41 (by kernel_rfl) (by kernel_rfl)), ?_⟩
           exact (mul_sq v2 w).mono fun _ _ ⟨he, hg⟩ =>⟨_, he, hg, rfl⟩
          refine ⟨Fg.vT rfl (by decide) fun ac w h =>?_, ?_⟩
          .have e7 :_ = Value.pointer (some ⟨N7, 0, none⟩) := h.r 7
           refine ⟨nV W, w, wants_none rfl, ?_, gb_refl _ _, rfl⟩
           exact ld rfl e7 (H10.out.2.2.2.1.gn h.base) hWl rfl rfl
          refine ⟨Fg.vT rfl (by decide) fun ac w h =>?_, ?_⟩
          .have e54 :_ = nV (sqL (num v2)) := h.d 54
           have e55 :_ = nV W := h.d 55
           refine ⟨.bool false, w, wants_none rfl, ?_, gb_refl _ _, rfl⟩
           exact (run_neN (l := sqL (num v2)) rfl e54 e55 (num_len _) hWl).trans (by rw[decide_eq_true hs2]; rfl)
          trivial
         .intro ax wx hB hsz hdf hrest hslots hpt
          obtain ⟨⟨u52, e52⟩, ⟨u53, e53⟩, ⟨u54, e54⟩, ⟨u55, e55⟩, _⟩ := Fg.slotvs ax [52, 53, 54, 55]
          have e56 :ax.tmps.getD 56 undef = Value.bool false := hslots 56 (by kernel_rfl)
          obtain rfl := Fg.frame_is (a := ax) (vs := [Value.agg (pL a).toArray, Value.agg (pL b).toArray, Value.pointer (some ⟨w0.heap.size, 0, none⟩), Value.pointer (some ⟨w0.heap.size+1, 0, none⟩), Value.pointer (some ⟨w0.heap.size+2, 0, none⟩), Value.bool false, Value.pointer (some ⟨Q, 0, none⟩), Value.pointer (some ⟨N7, 0, none⟩), Value.pointer (some ⟨N8, 0, none⟩), Value.pointer (some ⟨N9, 0, none⟩), Value.pointer (some ⟨N10, 0, none⟩), nV zeros, nV a, nV zeros, Value.bool false, undef, nV b, nV zeros, Value.bool false, undef, u20, u21, u22, nV W, nV Pp, Value.pointer (some ⟨N8, 0, none⟩), Value.int .u64 65517, Value.int .u64 65520, Value.pointer (some ⟨N8, 0, none⟩), u29, u30, u31, u32, u33, nV (num v), u35, u36, u37, u38, Value.bool true, nV Pp, Value.pointer (some ⟨N10, 0, none⟩), Value.int .u64 65517, Value.int .u64 65516, Value.pointer (some ⟨N10, 0, none⟩), u45, u46, u47, u48, u49, u50, nV (num v2), u52, u53, u54, u55, Value.bool false, undef, undef, undef, undef, undef, undef, undef]) hsz ⟨hrest 0 (by kernel_rfl), hrest 1 (by kernel_rfl), hrest 2 (by kernel_rfl), hrest 3 (by kernel_rfl), hrest 4 (by kernel_rfl), hrest 5 (by kernel_rfl), hrest 6 (by kernel_rfl), hrest 7 (by kernel_rfl), hrest 8 (by kernel_rfl), hrest 9 (by kernel_rfl), hrest 10 (by kernel_rfl), hrest 11 (by kernel_rfl), hrest 12 (by kernel_rfl), hrest 13 (by kernel_rfl), hrest 14 (by kernel_rfl), hrest 15 (by kernel_rfl), hrest 16 (by kernel_rfl), hrest 17 (by kernel_rfl), hrest 18 (by kernel_rfl), hrest 19 (by kernel_rfl), hrest 20 (by kernel_rfl), hrest 21 (by kernel_rfl), hrest 22 (by kernel_rfl), hrest 23 (by kernel_rfl), hrest 24 (by kernel_rfl), hrest 25 (by kernel_rfl), hrest 26 (by kernel_rfl), hrest 27 (by kernel_rfl), hrest 28 (by kernel_rfl), hrest 29 (by kernel_rfl), hrest 30 (by kernel_rfl), hrest 31 (by kernel_rfl), hrest 32 (by kernel_rfl), hrest 33 (by kernel_rfl), hrest 34 (by kernel_rfl), hrest 35 (by kernel_rfl), hrest 36 (by kernel_rfl), hrest 37 (by kernel_rfl), hrest 38 (by kernel_rfl), hrest 39 (by kernel_rfl), hrest 40 (by kernel_rfl), hrest 41 (by kernel_rfl), hrest 42 (by kernel_rfl), hrest 43 (by kernel_rfl), hrest 44 (by kernel_rfl), hrest 45 (by kernel_rfl), hrest 46 (by kernel_rfl), hrest 47 (by kernel_rfl), hrest 48 (by kernel_rfl), hrest 49 (by kernel_rfl), hrest 50 (by kernel_rfl), hrest 51 (by kernel_rfl), e52, e53, e54, e55, e56, hrest 57 (by kernel_rfl), hrest 58 (by kernel_rfl), hrest 59 (by kernel_rfl), hrest 60 (by kernel_rfl), hrest 61 (by kernel_rfl), hrest 62 (by kernel_rfl), hrest 63 (by kernel_rfl), trivial⟩ hdf
          clear hsz hdf hrest hslots hpt e52 e53 e54 e55 e56
          refine wpList_nil ?_
          have HX := Lib.hid (And.intro (gb_trans H10.out.1 hB) (And.intro (H10.out.2.1.gn hB) (And.intro (H10.out.2.2.1.gn hB) (H10.out.2.2.2.2.gn hB)))); clear hB
          have hE := HE.out
          rw[rEnd, if_pos hs2]at hE
          go_upto_region 16 with (fail)
          refine wp_region_lit ?_
          refine Fg.wpl_value (v := nV (num v2)) (w' := wx) rfl (ld rfl rfl (HX.out.2.2.2) (num_len _) rfl rfl) ?_
          simp only[Act.put, List.setIfInBounds_toArray, List.set_cons_succ, List.set_cons_zero]
          refine Fg.wpl_call rfl (Fg.run_call (vs := #[nV (num v2)]) rfl rfl (by simp only[List.map_toArray, List.map_cons, List.map_nil, Act.eval]<;>rfl) (Fg.run_enter Tryz.func44 (by kernel_rfl) (by kernel_rfl))) ?_
          refine (Odd_num v2 wx).mono ?_
          rintro e wy ⟨rfl, gwy⟩
          refine ⟨_, rfl, ?_⟩
          simp only[Act.put, List.setIfInBounds_toArray, List.set_cons_succ, List.set_cons_zero]
          refine wpList_nil ?_
          have HY := Lib.hid (And.intro (gb_trans HX.out.1 gwy) (And.intro (HX.out.2.1.gn gwy) (And.intro (HX.out.2.2.1.gn gwy) (HX.out.2.2.2.gn gwy)))); clear gwy HX
          by_cases ho :V (num v2)%2 = 1
          .rw[if_pos ho]at hE
           rw[decide_eq_true ho]
           have HZ := Lib.hid hE; clear hE ho hs2
           go_upto_region 17 with (fail)
           refine wp_region_lit ?_
           refine Fg.wpl_value (v := nV (zeros)) (w' := wy) rfl (ld rfl rfl (HY.out.2.2.1) (rfl) rfl rfl) ?_
           simp only[Act.put, List.setIfInBounds_toArray, List.set_cons_succ, List.set_cons_zero]
           refine Fg.wpl_value (v := nV (num v2)) (w' := wy) rfl (ld rfl rfl (HY.out.2.2.2) (num_len _) rfl rfl) ?_
           simp only[Act.put, List.setIfInBounds_toArray, List.set_cons_succ, List.set_cons_zero]
           refine Fg.wpl_call rfl (Fg.run_call (vs := #[nV zeros, nV (num v2)]) rfl rfl (by simp only[List.map_toArray, List.map_cons, List.map_nil, Act.eval]<;>rfl) (Fg.run_enter Tryz.func40 (by kernel_rfl) (by kernel_rfl))) ?_
           refine (Sub_zero v2 wy).mono ?_
           rintro e wz ⟨rfl, gwz⟩
           refine ⟨_, rfl, ?_⟩
           simp only[Act.put, List.setIfInBounds_toArray, List.set_cons_succ, List.set_cons_zero]
           obtain ⟨n, hn⟩ :∃ n, n = num (V zeros+(Fe.P-V (num v2))) := ⟨_, rfl⟩
           have hnl :n.length = 16 := by rw[hn]; exact num_len _
           rw[<- hn]
           rw[<- hn]at HZ
           have b9 := HY.out.2.2.2.gn gwz
           refine Fg.wpl_skip rfl rfl (st (l := n) rfl rfl rfl b9 (by rw[pL_len]; exact num_len _) hnl rfl) ?_
           refine wpList_nil ?_
           have d9 := stored (l := n) b9 (by rw[pL_len]; exact num_len _) hnl
           have g9 := gb_setCells_new (cs := pL n) (gb_trans HY.out.1 gwz) (B := N9) (by omega) 0
           have d4 := (HY.out.2.1.gn gwz).setCells_other (cs := pL n) (C := N9) 0 (by omega)
           clear b9 hn gwz
           revert d4; revert g9; revert d9
           generalize World.setCells _ _ _ _ = wv
           intro d9 g9 d4
           go_upto_region 18 with (fail)
           refine wp_region_lit ?_
           refine Fg.wpl_value (v := nV (n)) (w' := wv) rfl (ld rfl rfl (d9) (hnl) rfl rfl) ?_
           simp only[Act.put, List.setIfInBounds_toArray, List.set_cons_succ, List.set_cons_zero]
           refine Fg.wpl_skip rfl rfl (st (l := n) rfl rfl rfl (d4) rfl (hnl) rfl) ?_
           refine Fg.wpl_value (v := .bool true) (w' := _) rfl (by go_simp; rfl) ?_
           simp only[Act.put, List.setIfInBounds_toArray, List.set_cons_succ, List.set_cons_zero]
           refine wpList_nil ?_
           have hR := stored (l := n) (d4) rfl (hnl)
           have gR := gb_setCells_new (cs := pL (n)) (g9) (B := w0.heap.size+2) (by omega) 0
           revert gR; revert hR
           generalize World.setCells _ _ _ _ = wR
           intro hR gR
           go_wp2_with fail
           exact bodyPost_ret (v := .tuple #[nV (n), .bool true]) (res2 Tryz.results45 _ _ (w0.heap.size+2) (n) (.bool true) rfl rfl hR (hnl)) rfl ⟨by rw[HZ.out], gR⟩
          .rw[if_neg ho]at hE
           rw[decide_eq_false ho]
           have HZ := Lib.hid hE; clear hE ho hs2
           go_upto_region 18 with (fail)
           refine wp_region_lit ?_
           refine Fg.wpl_value (v := nV (num v2)) (w' := wy) rfl (ld rfl rfl (HY.out.2.2.2) (num_len _) rfl rfl) ?_
           simp only[Act.put, List.setIfInBounds_toArray, List.set_cons_succ, List.set_cons_zero]
           refine Fg.wpl_skip rfl rfl (st (l := num v2) rfl rfl rfl (HY.out.2.1) rfl (num_len _) rfl) ?_
           refine Fg.wpl_value (v := .bool true) (w' := _) rfl (by go_simp; rfl) ?_
           simp only[Act.put, List.setIfInBounds_toArray, List.set_cons_succ, List.set_cons_zero]
           refine wpList_nil ?_
           have hR := stored (l := num v2) (HY.out.2.1) rfl (num_len _)
           have gR := gb_setCells_new (cs := pL (num v2)) (HY.out.1) (B := w0.heap.size+2) (by omega) 0
           revert gR; revert hR
           generalize World.setCells _ _ _ _ = wR
           intro hR gR
           go_wp2_with fail
           exact bodyPost_ret (v := .tuple #[nV (num v2), .bool true]) (res2 Tryz.results45 _ _ (w0.heap.size+2) (num v2) (.bool true) rfl rfl hR (num_len _)) rfl ⟨by rw[HZ.out], gR⟩
        .skip
         refine Fg.region_t [] [.any, .any, .any, .any, .any, .any, .any, .any, .any, .any, .any, .any, .any, .any, .any, .any, .any, .any, .any, .any, .any, .any, .any, .any, .any, .any, .any, .any, .any, .any, .any, .any, .any, .any, .any, .any, .any, .any, .any, .any, .any, .any, .any, .any, .any, .any, .any, .any, .any, .any, .any, .any, .val (nV (num v2)), .val (nV (num v2)), .val (nV (sqL (num v2))), .val (nV W), .val (Value.bool true)] w13 5 (gb_refl _ _) (by kernel_rfl) (by kernel_rfl) (by kernel_rfl) (by kernel_rfl) (by decide) (by kernel_rfl) ?_ ?_
         .refine ⟨Fg.vT rfl (by decide) fun ac w h =>?_, ?_⟩
          .have e9 :_ = Value.pointer (some ⟨N9, 0, none⟩) := h.r 9
           refine ⟨nV (num v2), w, wants_none rfl, ?_, gb_refl _ _, rfl⟩
           exact ld rfl e9 (H10.out.2.2.2.2.gn h.base) (num_len _) rfl rfl
          refine ⟨Fg.vT rfl (by decide) fun ac w h =>?_, ?_⟩
          .have e9 :_ = Value.pointer (some ⟨N9, 0, none⟩) := h.r 9
           refine ⟨nV (num v2), w, wants_none rfl, ?_, gb_refl _ _, rfl⟩
           exact ld rfl e9 (H10.out.2.2.2.2.gn h.base) (num_len _) rfl rfl
          refine ⟨Fg.cT rfl (by decide) fun ac w h =>?_, ?_⟩
          .have e52 :_ = nV (num v2) := h.d 52
           have e53 :_ = nV (num v2) := h.d 53
           refine ⟨41, #[nV (num v2), nV (num v2)], wants_none rfl, Fg.run_call rfl rfl (by simp only[List.map_toArray, List.map_cons, List.map_nil, Act.eval, e52, e53]) (Fg.run_enter Tryz.func41 (by kernel_rfl) (by kernel_rfl)), ?_⟩
           exact (mul_sq v2 w).mono fun _ _ ⟨he, hg⟩ =>⟨_, he, hg, rfl⟩
          refine ⟨Fg.vT rfl (by decide) fun ac w h =>?_, ?_⟩
          .have e7 :_ = Value.pointer (some ⟨N7, 0, none⟩) := h.r 7
           refine ⟨nV W, w, wants_none rfl, ?_, gb_refl _ _, rfl⟩
           exact ld rfl e7 (H10.out.2.2.2.1.gn h.base) hWl rfl rfl
          refine ⟨Fg.vT rfl (by decide) fun ac w h =>?_, ?_⟩
          .have e54 :_ = nV (sqL (num v2)) := h.d 54
           have e55 :_ = nV W := h.d 55
           refine ⟨.bool true, w, wants_none rfl, ?_, gb_refl _ _, rfl⟩
           exact (run_neN (l := sqL (num v2)) rfl e54 e55 (num_len _) hWl).trans (by rw[decide_eq_false hs2]; rfl)
          trivial
         .intro ax wx hB hsz hdf hrest hslots hpt
          obtain ⟨⟨u52, e52⟩, ⟨u53, e53⟩, ⟨u54, e54⟩, ⟨u55, e55⟩, _⟩ := Fg.slotvs ax [52, 53, 54, 55]
          have e56 :ax.tmps.getD 56 undef = Value.bool true := hslots 56 (by kernel_rfl)
          obtain rfl := Fg.frame_is (a := ax) (vs := [Value.agg (pL a).toArray, Value.agg (pL b).toArray, Value.pointer (some ⟨w0.heap.size, 0, none⟩), Value.pointer (some ⟨w0.heap.size+1, 0, none⟩), Value.pointer (some ⟨w0.heap.size+2, 0, none⟩), Value.bool false, Value.pointer (some ⟨Q, 0, none⟩), Value.pointer (some ⟨N7, 0, none⟩), Value.pointer (some ⟨N8, 0, none⟩), Value.pointer (some ⟨N9, 0, none⟩), Value.pointer (some ⟨N10, 0, none⟩), nV zeros, nV a, nV zeros, Value.bool false, undef, nV b, nV zeros, Value.bool false, undef, u20, u21, u22, nV W, nV Pp, Value.pointer (some ⟨N8, 0, none⟩), Value.int .u64 65517, Value.int .u64 65520, Value.pointer (some ⟨N8, 0, none⟩), u29, u30, u31, u32, u33, nV (num v), u35, u36, u37, u38, Value.bool true, nV Pp, Value.pointer (some ⟨N10, 0, none⟩), Value.int .u64 65517, Value.int .u64 65516, Value.pointer (some ⟨N10, 0, none⟩), u45, u46, u47, u48, u49, u50, nV (num v2), u52, u53, u54, u55, Value.bool true, undef, undef, undef, undef, undef, undef, undef]) hsz ⟨hrest 0 (by kernel_rfl), hrest 1 (by kernel_rfl), hrest 2 (by kernel_rfl), hrest 3 (by kernel_rfl), hrest 4 (by kernel_rfl), hrest 5 (by kernel_rfl), hrest 6 (by kernel_rfl), hrest 7 (by kernel_rfl), hrest 8 (by kernel_rfl), hrest 9 (by kernel_rfl), hrest 10 (by kernel_rfl), hrest 11 (by kernel_rfl), hrest 12 (by kernel_rfl), hrest 13 (by kernel_rfl), hrest 14 (by kernel_rfl), hrest 15 (by kernel_rfl), hrest 16 (by kernel_rfl), hrest 17 (by kernel_rfl), hrest 18 (by kernel_rfl), hrest 19 (by kernel_rfl), hrest 20 (by kernel_rfl), hrest 21 (by kernel_rfl), hrest 22 (by kernel_rfl), hrest 23 (by kernel_rfl), hrest 24 (by kernel_rfl), hrest 25 (by kernel_rfl), hrest 26 (by kernel_rfl), hrest 27 (by kernel_rfl), hrest 28 (by kernel_rfl), hrest 29 (by kernel_rfl), hrest 30 (by kernel_rfl), hrest 31 (by kernel_rfl), hrest 32 (by kernel_rfl), hrest 33 (by kernel_rfl), hrest 34 (by kernel_rfl), hrest 35 (by kernel_rfl), hrest 36 (by kernel_rfl), hrest 37 (by kernel_rfl), hrest 38 (by kernel_rfl), hrest 39 (by kernel_rfl), hrest 40 (by kernel_rfl), hrest 41 (by kernel_rfl), hrest 42 (by kernel_rfl), hrest 43 (by kernel_rfl), hrest 44 (by kernel_rfl), hrest 45 (by kernel_rfl), hrest 46 (by kernel_rfl), hrest 47 (by kernel_rfl), hrest 48 (by kernel_rfl), hrest 49 (by kernel_rfl), hrest 50 (by kernel_rfl), hrest 51 (by kernel_rfl), e52, e53, e54, e55, e56, hrest 57 (by kernel_rfl), hrest 58 (by kernel_rfl), hrest 59 (by kernel_rfl), hrest 60 (by kernel_rfl), hrest 61 (by kernel_rfl), hrest 62 (by kernel_rfl), hrest 63 (by kernel_rfl), trivial⟩ hdf
          clear hsz hdf hrest hslots hpt e52 e53 e54 e55 e56
          refine wpList_nil ?_
          have HX := Lib.hid (And.intro (gb_trans H10.out.1 hB) (And.intro (H10.out.2.1.gn hB) (H10.out.2.2.1.gn hB))); clear hB
          have hE := HE.out
          rw[rEnd, if_neg hs2]at hE
          have HZ := Lib.hid hE; clear hE hs2
          go_upto_region 15 with (fail)
          refine wp_region_lit ?_
          refine Fg.wpl_value (v := nV (zeros)) (w' := wx) rfl (ld rfl rfl (HX.out.2.2) (rfl) rfl rfl) ?_
          simp only[Act.put, List.setIfInBounds_toArray, List.set_cons_succ, List.set_cons_zero]
          refine Fg.wpl_skip rfl rfl (st (l := zeros) rfl rfl rfl (HX.out.2.1) rfl (rfl) rfl) ?_
          refine Fg.wpl_value (v := .bool false) (w' := _) rfl (by go_simp; rfl) ?_
          simp only[Act.put, List.setIfInBounds_toArray, List.set_cons_succ, List.set_cons_zero]
          refine wpList_nil ?_
          have hR := stored (l := zeros) (HX.out.2.1) rfl (rfl)
          have gR := gb_setCells_new (cs := pL (zeros)) (HX.out.1) (B := w0.heap.size+2) (by omega) 0
          revert gR; revert hR
          generalize World.setCells _ _ _ _ = wR
          intro hR gR
          go_wp2_with fail
          exact bodyPost_ret (v := .tuple #[nV (zeros), .bool false]) (res2 Tryz.results45 _ _ (w0.heap.size+2) (zeros) (.bool false) rfl rfl hR (rfl)) rfl ⟨by rw[HZ.out], gR⟩
end Nr
end
section
open Go.RowKit Ns Ow
namespace Nr
theorem num_iff (u v :Nat) :num u = num v ↔ u%Fe.P = v%Fe.P :=
 ⟨fun h =>by have := congrArg V h; rwa [num_V, num_V, <- P_is]at this, fun h =>num_congr (by rw[<- P_is]; exact h)⟩
theorem V_num (u :Nat) :V (num u) = u%Fe.P := by rw[num_V, P_is]
theorem V_e4 :V e4 = Fe.eEighth+1 := by decide +kernel
theorem V_q3 :V q3 = Fe.eFourth := by decide +kernel
theorem sqL_num (y w :Nat) :sqL (num y) = num w ↔ y*y%Fe.P = w%Fe.P := by
 unfold sqL
 rw[num_iff, V_num, <- Nat.mul_mod]
theorem P_odd :Fe.P%2 = 1 := by decide +kernel
theorem neg_sq {z :Nat} (h :z <= Fe.P) :(Fe.P-z)*(Fe.P-z)%Fe.P = z*z%Fe.P := by
 obtain ⟨d, hd⟩ :∃ d, Fe.P = z+d := ⟨Fe.P-z, by omega⟩
 have e :(Fe.P-z)*(Fe.P-z)+Fe.P*(2*z) = z*z+Fe.P*Fe.P := by
  rw[hd, Nat.add_sub_cancel_left]; grind
 have := congrArg (· % Fe.P) e
 simpa[Nat.add_mul_mod_self_left] using this
theorem rEnd_says {w y :Nat} (h :(rEnd (num w) (num y)).2 = true) :∃ t, t<Fe.P /\ (rEnd (num w) (num y)).1 = num t /\ t%2 = 0 /\ t*t%Fe.P = w%Fe.P := by
 unfold rEnd at h ⊢
 by_cases hs :sqL (num y) = num w
 .rw[if_pos hs]
  have hz := (sqL_num y w).1 hs
  have hlt := V_lt_P y
  have h2 :V (num y)*V (num y)%Fe.P = w%Fe.P := by rw[V_num, <- Nat.mul_mod]; exact hz
  by_cases ho :V (num y)%2 = 1
  .rw[if_pos ho]
   have hp := P_odd
   exact ⟨Fe.P-V (num y), by omega, by rw[V_zeros, Nat.zero_add], by omega, by rw[neg_sq (by omega)]; exact h2⟩
  .rw[if_neg ho]
   exact ⟨V (num y), hlt, (num_iff _ _).2 (by rw[V_num, Nat.mod_mod]), by omega, h2⟩
 .rw[if_neg hs]at h; cases h
theorem rGo_says {w :Nat} (h :(rGo (num w)).2 = true) :∃ t, t<Fe.P /\ (rGo (num w)).1 = num t /\ t%2 = 0 /\ t*t%Fe.P = w%Fe.P := by
 unfold rGo at h ⊢
 obtain ⟨y, hy⟩ :∃ y, rR (num w) = num y := ⟨_, rfl⟩
 obtain ⟨z, hz⟩ :∃ z, rR1 (num y) = num z := ⟨_, rfl⟩
 rw[hy, hz]at h ⊢
 by_cases hs :sqL (num y) = num w
 .rw[if_pos hs]at h ⊢; exact rEnd_says h
 .rw[if_neg hs]at h ⊢; exact rEnd_says h
theorem rEnd_true {W R :List Nat} (h :sqL R = W) :(rEnd W R).2 = true := by unfold rEnd; rw[if_pos h]
theorem rGo_true {w t :Nat} (h :t*t%Fe.P = w%Fe.P) :(rGo (num w)).2 = true := by
 obtain ⟨y, hy⟩ :∃ y, y = V (num w)^V e4 := ⟨_, rfl⟩
 have hR :rR (num w) = num y := by rw[rR, hy]
 have hyy :y*y%Fe.P = w*w^Fe.eFourth%Fe.P := by
  rw[hy, <- Nat.pow_add, V_e4, show Fe.eEighth+1+(Fe.eEighth+1) = Fe.eFourth+1 by rw[<- Fe.eEighth_is]; omega, V_num, <- Nat.pow_mod, Nat.pow_succ', ]
 have hq :w^Fe.eFourth%Fe.P = t^Fe.eHalf%Fe.P := by
  rw[<- Fe.cong_pow _ h, show t*t = t^2 from by rw[Nat.pow_succ, Nat.pow_one], <- Nat.pow_mul, Fe.eFourth_is']
 clear hy
 unfold rGo
 rw[hR]
 by_cases hs :sqL (num y) = num w
 .rw[if_pos hs]; exact rEnd_true hs
 rw[if_neg hs]
 apply rEnd_true
 have hs' :y*y%Fe.P ≠ w%Fe.P := fun e =>hs ((sqL_num y w).2 e)
 have h2 := Fe.P_2
 have ht :t%Fe.P ≠ 0 := fun e =>hs' (by
  have hw :w%Fe.P = 0 := by rw[<- h, Nat.mul_mod, e, Nat.zero_mul, Nat.zero_mod]
  rw[hyy, Nat.mul_mod, hw, Nat.zero_mul, Nat.zero_mod])
 have h1 :w^Fe.eFourth%Fe.P = Fe.P-1 := by
  rcases Fe.half_one ht with e|e
  .exact absurd (by rw[hyy, Nat.mul_mod, hq, e, Nat.mul_one, Nat.mod_mod]) hs'
  .rw[hq, e]
 obtain ⟨i, hi⟩ :∃ i, i = 2^Fe.eFourth := ⟨_, rfl⟩
 have hI :V rI = i%Fe.P := by rw[rI, V_num, V_num, V_q3, show 2%Fe.P = 2 from Nat.mod_eq_of_lt (by decide +kernel), hi]
 have hii :i*i%Fe.P = (Fe.P-1)%Fe.P := by
  rw[hi, <- Nat.pow_add, Fe.eFourth_is, Fe.two_half, Nat.mod_eq_of_lt (by omega)]
 clear hi
 obtain ⟨z, hz⟩ :∃ z, z = V (num y)*V rI := ⟨_, rfl⟩
 have hR1 :rR1 (num y) = num z := by rw[rR1, hz]
 rw[hR1, sqL_num]
 have hzz :z%Fe.P = y*i%Fe.P := by rw[hz, V_num, hI, <- Nat.mul_mod]
 rw[Fe.cong_mul hzz hzz, show y*i*(y*i) = y*y*(i*i) by grind, Fe.cong_mul hyy hii]
 have c1 :w^Fe.eFourth%Fe.P = (Fe.P-1)%Fe.P := by rw[h1, Nat.mod_eq_of_lt (by omega)]
 rw[Fe.cong_mul (Fe.cong_mul (rfl :w%Fe.P = w%Fe.P) c1) (rfl :(Fe.P-1)%Fe.P = (Fe.P-1)%Fe.P)]
 exact Fe.minus_minus w
theorem exp_inv :2^255-21 = Fe.eInv := by decide +kernel
theorem rW_num (u v :Nat) :rW (num u) (num v) = num (u*(v^Fe.eInv%Fe.P)) := by
 unfold rW rU
 rw[exp_inv, V_num, V_num, V_num, <- Nat.pow_mod, num_iff, Nat.mod_mul_mod]
theorem num_zeros {u :Nat} (h :u<Fe.P) :num u = zeros ↔ u = 0 := by
 rw[<- num_zero]
 exact num_inj h (by decide +kernel)
theorem root_same {a b :Fe} (ha :a.Right) (hb :b.Right) :(refRoot (num a.m) (num b.m)).2 = (rootF a b).2 /\ ((rootF a b).2 = true -> (refRoot (num a.m) (num b.m)).1 = num (rootF a b).1.m) := by
 have hua := m_lt a
 have hvb := m_lt b
 unfold refRoot
 by_cases hu :a.m = 0
 .rw[if_pos ((num_zeros hua).2 hu)]
  have hg :Fe.m (guessF a b) = 0 := by
   rw[guess_m ha hb, hu]
   unfold Fe.gN
   rw[Nat.zero_mul, Nat.zero_mul, Nat.zero_mod]
  have hf :fitsF (guessF a b) a b = true := (fitsF_is (guess_right a b) hb).2 (by rw[hg, hu]; simp)
  have e :rootF a b = (guessF a b, true) := by
   unfold rootF evenF
   rw[if_pos hf, hg]
   rfl
  rw[e]
  exact ⟨rfl, fun _ =>by rw[hg, num_zero]⟩
 rw[if_neg (fun e =>hu ((num_zeros hua).1 e))]
 by_cases hv :b.m = 0
 .rw[if_pos ((num_zeros hvb).2 hv)]
  have e :(rootF a b).2 = false := by
   rw[Bool.eq_false_iff]
   intro h
   have := (root_says hb h).2.2
   rw[hv, Nat.mul_zero, Nat.zero_mod]at this
   exact hu this.symm
  rw[e]
  exact ⟨rfl, fun h =>by cases h⟩
 rw[if_neg (fun e =>hv ((num_zeros hvb).1 e)), rW_num]
 obtain ⟨w, hw⟩ :∃ w, w = a.m*(b.m^Fe.eInv%Fe.P) := ⟨_, rfl⟩
 have hvp :b.m%Fe.P ≠ 0 := by rw[Nat.mod_eq_of_lt hvb]; exact hv
 have hinv :b.m*(b.m^Fe.eInv%Fe.P)%Fe.P = 1%Fe.P := by
  rw[Fe.inv_is, if_neg hvp, Nat.mod_eq_of_lt Fe.P_2]
 have hwv :w*b.m%Fe.P = a.m := by
  rw[hw, Nat.mul_assoc, Nat.mul_comm _ b.m, Fe.cong_mul (rfl :a.m%Fe.P = a.m%Fe.P) hinv, Nat.mul_one, Nat.mod_eq_of_lt hua]
 have hback :∀ t, t*t*b.m%Fe.P = a.m -> t*t%Fe.P = w%Fe.P := fun t h =>by
  have h' :t*t*b.m%Fe.P = a.m%Fe.P := by rw[h, Nat.mod_eq_of_lt hua]
  rw[hw, <- Fe.cong_mul h' (rfl :(b.m^Fe.eInv%Fe.P)%Fe.P = (b.m^Fe.eInv%Fe.P)%Fe.P), Nat.mul_assoc (t*t), Fe.cong_mul (rfl :t*t%Fe.P = t*t%Fe.P) hinv, Nat.mul_one]
 have hforth :∀ t, t*t%Fe.P = w%Fe.P -> t*t*b.m%Fe.P = a.m := fun t h =>by
  rw[Fe.cong_mul h (rfl :b.m%Fe.P = b.m%Fe.P)]; exact hwv
 rw[<- hw]
 clear hw hwv hinv
 cases hr :(rootF a b).2 with
 | true =>
  obtain ⟨_, he, hm⟩ := root_says hb hr
  have h2 := rGo_true (hback _ hm)
  refine ⟨h2, fun _ =>?_⟩
  obtain ⟨t, ht, e, hev, hsq⟩ := rGo_says h2
  rw[e, num_inj ht (m_lt _)]
  have := Fe.roots_two (r := Fe.m (rootF a b).1) (a := t) hvp (m_lt _) ht (by rw[hm, hforth t hsq])
  rcases this with h|h
  .exact h.symm
  .have hp := P_odd
   rcases Nat.eq_zero_or_pos t with z|z
   .rw[z, Nat.sub_zero, Nat.mod_self]at h
    rw[h, z]
   .rw[Nat.mod_eq_of_lt (by omega)]at h
    omega
 | false =>
  refine ⟨?_, fun h =>by cases h⟩
  rw[Bool.eq_false_iff]
  intro h
  obtain ⟨t, ht, e, hev, hsq⟩ := rGo_says h
  rw[root_any_true ha hb (hforth t hsq)]at hr
  cases hr
theorem root_not {a b :Fe} (h :(rootF a b).2 = false) :(rootF a b).1 = Fe.zeroF := by
 unfold rootF at *
 by_cases h1 :fitsF (guessF a b) a b = true
 .rw[if_pos h1]at h; cases h
 .rw[if_neg h1]at h ⊢
  by_cases h2 :fitsF (Fe.mulF (guessF a b) rootI) a b = true
  .rw[if_pos h2]at h; cases h
  .rw[if_neg h2]
end Nr
end
section
open Go
section
variable {P :Program} {ops :Array Oper} {Q :Exit -> Act -> World -> Prop} {G :Nat -> Value -> World -> Prop} {st :Nat -> Nat} {M :Nat -> Value -> World -> Prop} {B :Array Bool -> World -> Prop} {ps :List Nat} {a0 :Act}
structure FlowP (G :Nat -> Value -> World -> Prop) (st :Nat -> Nat) (M :Nat -> Value -> World -> Prop) (B :Array Bool -> World -> Prop) (ps :List Nat) (a0 :Act) (ops :Array Oper) (listed :Array Bool) (a :Act) (w :World) :Prop where
 base :B listed w
 size :a.tmps.size = a0.tmps.size
 defers :a.defers = a0.defers
 rest :∀ d, notDst ops d = true -> a.tmps.getD d undef = a0.tmps.getD d undef
 slots :∀ j oj d, ops[j]? = some oj -> listed.getD j false = true -> oj.dst = some d -> G d (a.tmps.getD d undef) w
 mems :∀ j oj, ops[j]? = some oj -> listed.getD j false = true -> oj.dst = none -> M j (a.tmps.getD (st j) undef) w
 ptrs :PtrsApart ps a w
 closed :∀ j oj, ops[j]? = some oj -> listed.getD j false = true -> ∀ e ∈ oj.after, Region.binds .any e = true -> listed.getD e.on false = true
structure FlowAtP (G :Nat -> Value -> World -> Prop) (st :Nat -> Nat) (M :Nat -> Value -> World -> Prop) (B :Array Bool -> World -> Prop) (ps :List Nat) (a0 :Act) (ops :Array Oper) (listed :Array Bool) (i :Nat) (o :Oper) (a :Act) (w :World) :Prop where
 base :B listed w
 fresh :listed.getD i false = false
 rows :listed.size = ops.size
 size :a.tmps.size = a0.tmps.size
 ptrs :PtrsApart ps a w
 rest :∀ d, notDst ops d = true -> a.tmps.getD d undef = a0.tmps.getD d undef
 dep :∀ d, waits ops o d = true -> G d (a.tmps.getD d undef) w
 mem :∀ j oj, ops[j]? = some oj -> waitsFor o j = true -> oj.dst = none -> M j (a.tmps.getD (st j) undef) w
def FlowPostP (G :Nat -> Value -> World -> Prop) (st :Nat -> Nat) (M :Nat -> Value -> World -> Prop) (B :Array Bool -> World -> Prop) (ps :List Nat) (ops :Array Oper) (listed :Array Bool) (i :Nat) (o :Oper) (a :Act) (w :World) (v :Value) (w' :World) :Prop :=
 B (listed.setIfInBounds i true) w' /\ (∀ d u, G d u w -> G d u w') /\ (∀ j oj, j ≠ i -> ops[j]? = some oj -> oj.dst = none -> M j (a.tmps.getD (st j) undef) w -> M j (a.tmps.getD (st j) undef) w') /\ PtrsApart ps (a.put o.dst v) w' /\
  match o.dst with|some d =>G d v w'|none =>M i (a.tmps.getD (st i) undef) w'
def FlowStepP (P :Program) (Q :Exit -> Act -> World -> Prop) (G :Nat -> Value -> World -> Prop) (st :Nat -> Nat) (M :Nat -> Value -> World -> Prop) (B :Array Bool -> World -> Prop) (ps :List Nat) (a0 :Act) (ops :Array Oper) (i :Nat) (o :Oper) :Prop :=
 ∀ listed a w, FlowAtP G st M B ps a0 ops listed i o a w -> ops[i]? = some o -> wpOp P ops Q i (fun a' w' =>∃ v, a' = a.put o.dst v /\ FlowPostP G st M B ps ops listed i o a w v w') a w
def FlowStepsP (P :Program) (Q :Exit -> Act -> World -> Prop) (G :Nat -> Value -> World -> Prop) (st :Nat -> Nat) (M :Nat -> Value -> World -> Prop) (B :Array Bool -> World -> Prop) (ps :List Nat) (a0 :Act) (ops :Array Oper) :Nat -> List Oper -> Prop
 | _, [] =>True
 | i, o::r =>FlowStepP P Q G st M B ps a0 ops i o /\ FlowStepsP P Q G st M B ps a0 ops (i+1) r
theorem flowStepsP_get :∀ (l :List Oper) (i k :Nat) (o :Oper), FlowStepsP P Q G st M B ps a0 ops i l -> l[k]? = some o -> FlowStepP P Q G st M B ps a0 ops (i+k) o := by
 intro l
 induction l with
 | nil =>intro i k o h hk; simp at hk
 | cons x r ih =>
  intro i k o h hk
  cases k with
  | zero =>simp at hk; subst hk; exact h.1
  | succ k =>have := ih (i+1) k o h.2 (by simpa using hk); rwa [show i+(k+1) = i+1+k by omega]
theorem flowP_any (ht :topo ops = true) (ho :once ops a0.tmps.size = true) (hstk :stOk ops st = true)
  (steps :FlowStepsP P Q G st M B ps a0 ops 0 ops.toList)
  (fin :∀ listed a w, (∀ j, j<ops.size -> listed.getD j false = true) -> B listed w -> a.tmps.size = a0.tmps.size -> a.defers = a0.defers -> (∀ d, notDst ops d = true -> a.tmps.getD d undef = a0.tmps.getD d undef) -> (∀ d, isDst ops d = true -> G d (a.tmps.getD d undef) w) ->
   (∀ j oj, ops[j]? = some oj -> oj.dst = none -> M j (a.tmps.getD (st j) undef) w) -> PtrsApart ps a w -> Q .normal a w) :
  ∀ (fuel :Nat) (listed :Array Bool) (a :Act) (w :World), listed.size = ops.size -> unlisted ops listed <= fuel -> FlowP G st M B ps a0 ops listed a w -> wpAny P .any ops Q fuel listed a w := by
 have inn :∀ {j :Nat} {oj :Oper}, ops[j]? = some oj -> j<ops.size := by
  intro j oj hj
  rcases Nat.lt_or_ge j ops.size with h'|h'
  .exact h'
  .rw[Array.getElem?_eq_none h']at hj; cases hj
 have go :∀ (listed :Array Bool) (a :Act) (w :World), listed.size = ops.size -> FlowP G st M B ps a0 ops listed a w -> Region.ready .any ops listed = [] -> Q .normal a w := by
  intro listed a w hs hF hr
  have hall := all_listed ht hs hr
  refine fin listed a w hall hF.base hF.size hF.defers hF.rest (fun d hd =>?_) (fun j oj hj hn =>hF.mems j oj hj (hall j (inn hj)) hn) hF.ptrs
  obtain ⟨k, hk, hb⟩ := Array.any_eq_true.1 hd
  exact hF.slots k ops[k] d (Array.getElem?_eq_getElem hk) (hall k hk) (by simpa using hb)
 intro fuel
 induction fuel with
 | zero =>
  intro listed a w hs hu hF
  have hr :Region.ready .any ops listed = [] := by
   cases hc :Region.ready .any ops listed with
   | nil =>rfl
   | cons x r =>
    have := unlisted_lt (ops := ops) (listed := listed) (i := x) (by rw[hc]; exact List.mem_cons_self ..)
    omega
  exact ⟨hr, go listed a w hs hF hr⟩
 | succ fuel ih =>
  intro listed a w hs hu hF
  refine ⟨go listed a w hs hF, fun i hi =>?_⟩
  obtain ⟨h0, o, hoi, hall⟩ := mem_ready.1 hi
  have hst := flowStepsP_get ops.toList 0 i o steps (by rw[Array.getElem?_toList]; exact hoi)
  rw[Nat.zero_add]at hst
  have h00 :listed.getD i false = false := by
   by_cases h :i<listed.size
   .simp[h]at h0 ⊢; exact h0
   .simp[h]
  have hat :FlowAtP G st M B ps a0 ops listed i o a w := ⟨hF.base, h00, hs, hF.size, hF.ptrs, hF.rest, fun d hd =>by
    obtain ⟨k, hk, hb⟩ := Array.any_eq_true.1 hd
    simp only[Bool.and_eq_true, beq_iff_eq]at hb
    have hl := hall _ (Array.getElem_mem hk) hb.1
    cases hx :ops[o.after[k].on]? with
    | none =>rw[hx]at hb; cases hb.2
    | some oj =>rw[hx]at hb; exact hF.slots _ oj d hx hl hb.2,
   fun j oj hj ha hn =>by
    obtain ⟨k, hk, hb⟩ := Array.any_eq_true.1 ha
    simp only[Bool.and_eq_true, beq_iff_eq]at hb
    have hl := hall _ (Array.getElem_mem hk) hb.1
    rw[hb.2]at hl
    exact hF.mems j oj hj hl hn⟩
  refine wpOp_mono (fun a' w' h =>?_) (hst listed a w hat hoi)
  obtain ⟨v, rfl, hB, hRG, hRM, hPt, hG⟩ := h
  have hlt := unlisted_lt hi
  refine ih _ _ _ (by simpa using hs) (by omega) ⟨hB, ?_, ?_, ?_, ?_, ?_, hPt, ?_⟩
  .rw[<- hF.size]; cases o.dst<;>simp[Act.put]
  .rw[<- hF.defers]; cases o.dst<;>simp[Act.put]
  .intro d hd
   rw[<- hF.rest d hd]
   have hne :o.dst ≠ some d := by
    have := (Array.all_eq_true_iff_forall_mem.1 hd) o (Array.mem_of_getElem? hoi)
    simpa using this
   cases hod :o.dst with
   | none =>rfl
   | some d' =>rw[hod]at hne; simp[Act.put, Array.getElem?_setIfInBounds_ne (show d' ≠ d from fun e =>hne (by rw[e]))]
  .intro j oj d hj hl hd
   by_cases e :i = j
   .subst e
    rw[hoi]at hj
    cases hj
    have hd2 := once_lt ho hoi hd
    rw[<- hF.size]at hd2
    rw[hd]at hG ⊢
    simpa[Act.put, hd2] using hG
   .rw[getD_set_ne false e]at hl
    have h1 := hF.slots j oj d hj hl hd
    have hv :(a.put o.dst v).tmps.getD d undef = a.tmps.getD d undef := by
     cases hod :o.dst with
     | none =>rfl
     | some d' =>
      have := once_ne ho hoi hj e hod
      rw[hd]at this
      simp[Act.put, Array.getElem?_setIfInBounds_ne (show d' ≠ d from fun e =>this (by rw[e]))]
    rw[hv]
    exact hRG d _ h1
  .intro j oj hj hl hn
   have hv :∀ jj ojj, ops[jj]? = some ojj -> ojj.dst = none -> (jj = i \/ listed.getD jj false = true) -> (a.put o.dst v).tmps.getD (st jj) undef = a.tmps.getD (st jj) undef := by
    intro jj ojj hjj hnn hcase
    cases hod :o.dst with
    | none =>rfl
    | some d' =>
     have hne :d' ≠ st jj := by
      intro he
      have hs1 := (List.all_eq_true.1 hstk) jj (List.mem_range.2 (inn hjj))
      rw[hjj]at hs1
      simp only[Option.map_some, Option.getD_some, hnn, Option.isSome_none, Bool.false_or, Bool.or_eq_true]at hs1
      rcases hs1 with hs1|hs1
      .obtain ⟨k, hk, hb⟩ := Array.any_eq_true.1 hs1
       simp only[Bool.and_eq_true, beq_iff_eq]at hb
       rcases hcase with hc|hc
       .subst hc
        rw[hoi]at hjj
        cases hjj
        rw[hod]at hnn
        cases hnn
       .have hl2 := hF.closed jj ojj hjj hc _ (Array.getElem_mem hk) hb.1
        cases hx :ops[ojj.after[k].on]? with
        | none =>rw[hx]at hb; cases hb.2
        | some ok =>
         rw[hx]at hb
         have hdk :ok.dst = some (st jj) := hb.2
         by_cases hki :ojj.after[k].on = i
         .rw[hki]at hl2
          have hlt2 :i<listed.size := by rw[hs]; exact inn hoi
          simp[hlt2]at h0 hl2
          rw[h0]at hl2
          cases hl2
         .exact once_ne ho hx hoi hki hdk (by rw[hod, he])
      .have := (Array.all_eq_true_iff_forall_mem.1 hs1) o (Array.mem_of_getElem? hoi)
       rw[hod, he]at this
       simp at this
     simp[Act.put, Array.getElem?_setIfInBounds_ne hne]
   by_cases e :i = j
   .subst e
    rw[hv i oj hj hn (Or.inl rfl)]
    rw[hoi]at hj
    cases hj
    rw[hn]at hG
    exact hG
   .rw[getD_set_ne false e]at hl
    rw[hv j oj hj hn (Or.inr hl)]
    exact hRM j oj (fun e2 =>e e2.symm) hj hn (hF.mems j oj hj hl hn)
  .intro j oj hj hl e he hb
   by_cases ei :i = j
   .subst ei
    rw[hoi]at hj
    cases hj
    exact getD_set_true (hall e he hb)
   .rw[getD_set_ne false ei]at hl
    exact getD_set_true (hF.closed j oj hj hl e he hb)
theorem wp_region_flowP {id :Nat} {w :World} (G :Nat -> Value -> World -> Prop) (st :Nat -> Nat) (M :Nat -> Value -> World -> Prop) (B :Array Bool -> World -> Prop) (ps :List Nat) (hm :P.follows .mixedOrders = true) (ht :topo ops = true) (ho :once ops a0.tmps.size = true) (hB :∀ listed :Array Bool, listed.size = ops.size -> (∀ j, listed.getD j false = false) -> B listed w.drew) (hps :PtrsApart ps a0 w.drew)
  (hstk :stOk ops st = true) (steps :FlowStepsP P Q G st M B ps a0 ops 0 ops.toList)
  (fin :∀ listed a w, (∀ j, j<ops.size -> listed.getD j false = true) -> B listed w -> a.tmps.size = a0.tmps.size -> a.defers = a0.defers -> (∀ d, notDst ops d = true -> a.tmps.getD d undef = a0.tmps.getD d undef) -> (∀ d, isDst ops d = true -> G d (a.tmps.getD d undef) w) ->
   (∀ j oj, ops[j]? = some oj -> oj.dst = none -> M j (a.tmps.getD (st j) undef) w) -> PtrsApart ps a w -> Q .normal a w) :(Code.region id ops true).wp P Q a0 w :=
 wp_region_any hm (flowP_any ht ho hstk steps fin ops.size _ a0 _ (by simp) (by unfold unlisted; exact Nat.le_trans (List.length_filter_le _ _) (by simp))
  ⟨hB _ (by simp) (fun j =>by by_cases h :j<ops.size<;>simp[h]), rfl, rfl, fun _ _ =>rfl, fun j oj d _ hl _ =>by
   by_cases h :j<ops.size<;>simp[h]at hl, fun j oj _ hl _ =>by
   by_cases h :j<ops.size<;>simp[h]at hl, hps, fun j oj _ hl =>by
   by_cases h :j<ops.size<;>simp[h]at hl⟩)
theorem flowP_value {i :Nat} {o :Oper} {d :Nat} (hd :o.dst = some d) (h :∀ listed a w, FlowAtP G st M B ps a0 ops listed i o a w -> Wants ops o a /\ ∃ v w', (execOp a.eval o).run P w = .ok (.value v) w' /\ B (listed.setIfInBounds i true) w' /\ (∀ d u, G d u w -> G d u w') /\ (∀ j u, M j u w -> M j u w') /\ PtrsApart ps (a.put (some d) v) w' /\ G d v w') :FlowStepP P Q G st M B ps a0 ops i o := by
 intro listed a w hF hi
 obtain ⟨hw, v, w', hr, hB, hRG, hRM, hP, hG⟩ := h listed a w hF
 unfold Wants at hw
 unfold wpOp
 simp only[hi, hw, if_true]
 refine Or.inl ?_
 unfold Oper.wp
 rw[hr]
 exact ⟨v, rfl, hB, hRG, fun j oj _ _ _ h =>hRM j _ h, by rw[hd]; exact hP, by rw[hd]; exact hG⟩
theorem flowP_store {i :Nat} {o :Oper} (hd :o.dst = none) (h :∀ listed a w, FlowAtP G st M B ps a0 ops listed i o a w -> Wants ops o a /\ ∃ w', (execOp a.eval o).run P w = .ok .skip w' /\ B (listed.setIfInBounds i true) w' /\ (∀ d u, G d u w -> G d u w') /\ (∀ j oj, j ≠ i -> ops[j]? = some oj -> oj.dst = none -> M j (a.tmps.getD (st j) undef) w -> M j (a.tmps.getD (st j) undef) w') /\ w.heap.size <= w'.heap.size /\ M i (a.tmps.getD (st i) undef) w') :FlowStepP P Q G st M B ps a0 ops i o := by
 intro listed a w hF hi
 obtain ⟨hw, w', hr, hB, hRG, hRM, hs, hG⟩ := h listed a w hF
 unfold Wants at hw
 unfold wpOp
 simp only[hi, hw, if_true]
 refine Or.inl ?_
 unfold Oper.wp
 rw[hr]
 exact ⟨undef, rfl, hB, hRG, hRM, by rw[hd]; exact ptrs_grown hF.ptrs hs, by rw[hd]; exact hG⟩
theorem flowP_call {i :Nat} {o :Oper} {d :Nat} (hd :o.dst = some d)
  (h :∀ listed a w, FlowAtP G st M B ps a0 ops listed i o a w -> Wants ops o a /\ ∃ f args, (execOp a.eval o).run P w = .ok (.enter f args) w /\ Calls P f args w fun e w' =>∃ v, e = .returned v /\ B (listed.setIfInBounds i true) w' /\ (∀ d u, G d u w -> G d u w') /\ (∀ j u, M j u w -> M j u w') /\ PtrsApart ps (a.put (some d) v) w' /\ G d v w') :FlowStepP P Q G st M B ps a0 ops i o := by
 intro listed a w hF hi
 obtain ⟨hw, f, args, hr, hc⟩ := h listed a w hF
 unfold Wants at hw
 unfold wpOp
 simp only[hi, hw, if_true]
 refine Or.inl ?_
 unfold Oper.wp
 rw[hr]
 refine Calls.mono hc fun e w' he =>?_
 obtain ⟨v, rfl, hB, hRG, hRM, hP, hG⟩ := he
 exact ⟨v, rfl, hB, hRG, fun j oj _ _ _ h =>hRM j _ h, by rw[hd]; exact hP, by rw[hd]; exact hG⟩
end
theorem FlowAtP.d {G :Nat -> Value -> World -> Prop} {st :Nat -> Nat} {M :Nat -> Value -> World -> Prop} {B :Array Bool -> World -> Prop} {ps :List Nat} {a0 :Act} {ops :Array Oper} {listed :Array Bool} {i :Nat} {o :Oper} {a :Act} {w :World} (h :FlowAtP G st M B ps a0 ops listed i o a w) (d :Nat) (hd :waits ops o d = true := by kernel_rfl) :G d (a.tmps.getD d undef) w := h.dep d hd
theorem FlowAtP.r {G :Nat -> Value -> World -> Prop} {st :Nat -> Nat} {M :Nat -> Value -> World -> Prop} {B :Array Bool -> World -> Prop} {ps :List Nat} {a0 :Act} {ops :Array Oper} {listed :Array Bool} {i :Nat} {o :Oper} {a :Act} {w :World} (h :FlowAtP G st M B ps a0 ops listed i o a w) (d :Nat) (hd :notDst ops d = true := by kernel_rfl) :a.tmps.getD d undef = a0.tmps.getD d undef := h.rest d hd
end
end Go.Proofs.YtcmnecnbcohaeaaGreatDoor
