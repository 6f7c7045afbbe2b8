/- texts merged -/
import Derived.Orders
import Derived.WalkKit
import Derived.Lib.Hide
import Derived.WalkSmall
import Derived.Laws.Rows
import Derived.Laws.Tables
import Derived.Test.YtjgnjhgdmdmebaaGreatDoorProg
import Derived.Laws.AppendOwn
import Derived.Laws.OwnMore
import Derived.Deep.MidRow
import Derived.Shelf.Bits.Mul64
import Derived.Shelf.Spec.BitsCarry
import Derived.WalkSpells
import Derived.WalkLawsBesides
import Derived.BigQuiet
import Derived.Deep.QuietTactic
import Derived.Deep.RegionHeld3
import Derived.StillTailTactics
import Derived.Outline
namespace Go.Proofs.YtjgnjhgdmdmebaaGreatDoor
section
open Go
section
variable {P:Program} {ops:Array Oper} {Q:Exit->Act->World->Prop} {G:Nat->Value->World->Prop} {M:Nat->World->Prop} {B:World->Prop} {Rel:World->World->Prop} {a0:Act}
def jP (ops:Array Oper) (d:Nat):Bool:=ops.all fun o=>o.dst !=some d
def isDst (ops:Array Oper) (d:Nat):Bool:=ops.any fun o=>o.dst==some d
def waits (ops:Array Oper) (o:Oper) (d:Nat):Bool:=o.after.any fun e=>Region.binds .any e&&((ops[e.on]?).bind (·.dst))==some d
def waitsFor (o:Oper) (j:Nat):Bool:=o.after.any fun e=>Region.binds .any e&&e.on==j
structure Flow (G:Nat->Value->World->Prop) (M:Nat->World->Prop) (B:World->Prop) (a0:Act) (ops:Array Oper) (listed:Array Bool) (a:Act) (w:World):Prop where
 base:B w
 size:a.tmps.size=a0.tmps.size
 defers:a.defers=a0.defers
 rest:∀d,jP ops d=true->a.tmps.getD d undef=a0.tmps.getD d undef
 slots:∀j oj d,ops[j]?=some oj->listed.getD j false=true->oj.dst=some d->G d (a.tmps.getD d undef) w
 zH:∀j oj,ops[j]?=some oj->listed.getD j false=true->oj.dst=none->M j w
structure qo (G:Nat->Value->World->Prop) (M:Nat->World->Prop) (B:World->Prop) (a0:Act) (ops:Array Oper) (o:Oper) (a:Act) (w:World):Prop where
 base:B w
 size:a.tmps.size=a0.tmps.size
 defers:a.defers=a0.defers
 rest:∀d,jP ops d=true->a.tmps.getD d undef=a0.tmps.getD d undef
 dep:∀d,waits ops o d=true->G d (a.tmps.getD d undef) w
 mem:∀j oj,ops[j]?=some oj->waitsFor o j=true->oj.dst=none->M j w
def QJ (G:Nat->Value->World->Prop) (M:Nat->World->Prop) (B:World->Prop) (Rel:World->World->Prop) (i:Nat) (o:Oper) (w:World) (v:Value) (w':World):Prop:=
 B w'/\Rel w w'/\match o.dst with|some d=>G d v w'|none=>M i w'
def rC (P:Program) (Q:Exit->Act->World->Prop) (G:Nat->Value->World->Prop) (M:Nat->World->Prop) (B:World->Prop) (Rel:World->World->Prop) (a0:Act) (ops:Array Oper) (i:Nat) (o:Oper):Prop:=
 ∀a w,qo G M B a0 ops o a w->ops[i]?=some o->wpOp P ops Q i (fun a' w'=>∃v,a'=a.put o.dst v/\QJ G M B Rel i o w v w') a w
def sZ (P:Program) (Q:Exit->Act->World->Prop) (G:Nat->Value->World->Prop) (M:Nat->World->Prop) (B:World->Prop) (Rel:World->World->Prop) (a0:Act) (ops:Array Oper):Nat->List Oper->Prop
 | _,[]=>True
 | i,o:: r=>rC P Q G M B Rel a0 ops i o/\sZ P Q G M B Rel a0 ops (i+1) r
theorem Ck:∀(l:List Oper) (i k:Nat) (o:Oper),sZ P Q G M B Rel a0 ops i l->l[k]?=some o->rC P Q G M B Rel a0 ops (i+k) o:=by
 intro l
 induction l with
 | nil=>intro i k o _ h;simp at h
 | cons x r ih=>
  intro i k o h hk
  cases k with
  | zero=>simp at hk;subst hk;exact h.1
  | succ k=>have:=ih (i+1) k o h.2 (by simpa using hk);rwa [show i+(k+1)=i+1+k by omega]
def vJ (ops:Array Oper):Bool:=(List.range ops.size).all fun i=>((ops[i]?).map fun o=>o.after.all fun e=>!Region.binds .any e||decide (e.on<i)).getD true
def vK:List (Option Tmp)->Bool
 | []=>true
 | none:: r=>vK r
 | some d:: r=>r.all (· !=some d)&&vK r
def once (ops:Array Oper) (n:Nat):Bool:=vK (ops.toList.map (·.dst))&&ops.all fun o=>match o.dst with|some d=>decide (d<n)|none=>true
theorem QK:∀(l:List (Option Tmp)),vK l=true->∀(i j:Nat) (d d':Tmp),l[i]?=some (some d)->l[j]?=some (some d')->i≠j->d≠d':=by
 intro l
 induction l with
 | nil=>intro _ i j d d' h;simp at h
 | cons x r ih=>
  intro h i j d d' hi hj hne
  have hr:vK r=true:=by cases x with|none=>exact h|some y=>simp[vK]at h;exact h.2
  cases i with
  | zero=>
   cases j with
   | zero=>exact absurd rfl hne
   | succ j=>
    simp at hi hj
    subst hi
    simp[vK]at h
    intro e
    subst e
    exact h.1 _ (List.mem_of_getElem? hj) rfl
  | succ i=>
   cases j with
   | zero=>
    simp at hi hj
    subst hj
    simp[vK]at h
    intro e
    subst e
    exact h.1 _ (List.mem_of_getElem? hi) rfl
   | succ j=>exact ih hr i j d d' (by simpa using hi) (by simpa using hj) (fun e=>hne (by rw[e]))
theorem qp {n:Nat} (h:once ops n=true) {i j:Nat} {oi oj:Oper} (hi:ops[i]?=some oi) (hj:ops[j]?=some oj) (hne:i≠j) {d:Nat} (hd:oi.dst=some d):oj.dst≠some d:=by
 intro e
 have h1:vK (ops.toList.map (·.dst))=true:=by simp only[once,Bool.and_eq_true]at h;exact h.1
 refine QK _ h1 i j d d ?_ ?_ hne rfl
 .rw[List.getElem?_map,Array.getElem?_toList,hi];simp[hd]
 .rw[List.getElem?_map,Array.getElem?_toList,hj];simp[e]
theorem vL {n:Nat} (h:once ops n=true) {i:Nat} {oi:Oper} (hi:ops[i]?=some oi) {d:Nat} (hd:oi.dst=some d):d<n:=by
 simp only[once,Bool.and_eq_true]at h
 have:=(Array.all_eq_true_iff_forall_mem.1 h.2) oi (Array.mem_of_getElem? hi)
 simpa[hd] using this
theorem filter_le {α:Type} (p q:α->Bool) (l:List α) (h:∀x,q x=true->p x=true):(l.filter q).length<=(l.filter p).length:=by
 induction l with
 | nil=>simp
 | cons x r ih=>
  by_cases hq:q x=true
  .simp[hq,h x hq,ih]
  .by_cases hp:p x=true
   .simp[hq,hp];omega
   .simp[hq,hp,ih]
theorem filter_lt {α:Type} (p q:α->Bool) (l:List α) (h:∀x,q x=true->p x=true) (x:α) (hx:x∈l) (hp:p x=true) (hq:q x=false):(l.filter q).length<(l.filter p).length:=by
 induction l with
 | nil=>cases hx
 | cons y r ih=>
  have hle:=filter_le p q r h
  rcases List.mem_cons.1 hx with e|e
  .subst e;simp[hp,hq];omega
  .have:=ih e
   by_cases hqy:q y=true
   .simp[hqy,h y hqy,this]
   .by_cases hpy:p y=true
    .simp[hqy,hpy];omega
    .simp[hqy,hpy,this]
def jg (ops:Array Oper) (listed:Array Bool):Nat:=((List.range ops.size).filter fun i=>!listed.getD i true).length
theorem jc {listed:Array Bool} {i:Nat} (h:i∈Region.ready .any ops listed):jg ops (listed.setIfInBounds i true)<jg ops listed:=by
 obtain⟨h0,o,ho,_⟩:=mem_ready.1 h
 have hi:i<ops.size:=by
  rcases Nat.lt_or_ge i ops.size with h'|h'
  .exact h'
  .rw[Array.getElem?_eq_none h']at ho;cases ho
 have hset:(listed.setIfInBounds i true).getD i true=true:=by
  rcases Nat.lt_or_ge i listed.size with h'|h'
  .simp[h']
  .simp[Array.getElem?_eq_none (show (listed.setIfInBounds i true).size<=i by simpa using h')]
 refine filter_lt _ _ _ (fun x hx=>?_) i (List.mem_range.2 hi) (by rw[h0];rfl) (by rw[hset];rfl)
 by_cases e:i=x
 .subst e;rw[hset]at hx;cases hx
 .rwa [getD_set_ne true e]at hx
theorem lg (ht:vJ ops=true) {listed:Array Bool} (hs:listed.size=ops.size) (hr:Region.ready .any ops listed=[]):∀i,i<ops.size->listed.getD i false=true:=by
 intro i
 induction i using Nat.strongRecOn with
 | _ i ih=>
  intro hi
  by_cases hl:listed.getD i false=true
  .exact hl
  have hi':i<listed.size:=by omega
  have hf:listed.getD i true=false:=by
   simp[hi']at hl ⊢;exact hl
  have:i∈Region.ready .any ops listed:=mem_ready.2 ⟨hf,ops[i],Array.getElem?_eq_getElem hi,fun e he hb=>by
   have h1:=(List.all_eq_true.1 ht) i (List.mem_range.2 hi)
   rw[Array.getElem?_eq_getElem hi]at h1
   have h2:(ops[i].after.all fun e=>!Region.binds .any e||decide (e.on<i))=true:=h1
   have h3:e.on<i:=by
    have:=(Array.all_eq_true_iff_forall_mem.1 h2) e he
    simpa[hb] using this
   exact ih e.on h3 (by omega)⟩
  rw[hr]at this
  cases this
theorem QL (ht:vJ ops=true) (ho:once ops a0.tmps.size=true) (JJ:∀d u w w',Rel w w'->G d u w->G d u w') (zI:∀j w w',Rel w w'->M j w->M j w')
  (steps:sZ P Q G M B Rel a0 ops 0 ops.toList)
  (fin:∀a w,B w->a.tmps.size=a0.tmps.size->a.defers=a0.defers->(∀d,jP ops d=true->a.tmps.getD d undef=a0.tmps.getD d undef)->(∀d,isDst ops d=true->G d (a.tmps.getD d undef) w)->
   (∀j oj,ops[j]?=some oj->oj.dst=none->M j w)->Q .normal a w):
  ∀(fuel:Nat) (listed:Array Bool) (a:Act) (w:World),listed.size=ops.size->jg ops listed<=fuel->Flow G M B a0 ops listed a w->wpAny P .any ops Q fuel listed a w:=by
 have inn:∀{j:Nat} {oj:Oper},ops[j]?=some oj->j<ops.size:=by
  intro j oj hj
  rcases Nat.lt_or_ge j ops.size with h'|h'
  .exact h'
  .rw[Array.getElem?_eq_none h']at hj;cases hj
 have go:∀(listed:Array Bool) (a:Act) (w:World),listed.size=ops.size->Flow G M B a0 ops listed a w->Region.ready .any ops listed=[]->Q .normal a w:=by
  intro listed a w hs hF hr
  have hall:=lg ht hs hr
  refine fin a w hF.base hF.size hF.defers hF.rest (fun d hd=>?_) (fun j oj hj hn=>hF.zH j oj hj (hall j (inn hj)) hn)
  obtain⟨k,hk,hb⟩:=Array.any_eq_true.1 hd
  exact hF.slots k ops[k] d (Array.getElem?_eq_getElem hk) (hall k hk) (by simpa using hb)
 intro fuel
 induction fuel with
 | zero=>
  intro listed a w hs hu hF
  have hr:Region.ready .any ops listed=[]:=by
   cases hc:Region.ready .any ops listed with
   | nil=>rfl
   | cons x r=>
    have:=jc (ops:=ops) (listed:=listed) (i:=x) (by rw[hc];exact List.mem_cons_self ..)
    omega
  exact⟨hr,go listed a w hs hF hr⟩
 | succ fuel ih=>
  intro listed a w hs hu hF
  refine⟨go listed a w hs hF,fun i hi=>?_⟩
  obtain⟨h0,o,hoi,hall⟩:=mem_ready.1 hi
  have hst:=Ck ops.toList 0 i o steps (by rw[Array.getElem?_toList];exact hoi)
  rw[Nat.zero_add]at hst
  have hat:qo G M B a0 ops o a w:=⟨hF.base,hF.size,hF.defers,hF.rest,fun d hd=>by
    obtain⟨k,hk,hb⟩:=Array.any_eq_true.1 hd
    simp only[Bool.and_eq_true,beq_iff_eq]at hb
    have hl:=hall _ (Array.getElem_mem hk) hb.1
    cases hx:ops[o.after[k].on]? with
    | none=>rw[hx]at hb;cases hb.2
    | some oj=>rw[hx]at hb;exact hF.slots _ oj d hx hl hb.2,
   fun j oj hj ha hn=>by
    obtain⟨k,hk,hb⟩:=Array.any_eq_true.1 ha
    simp only[Bool.and_eq_true,beq_iff_eq]at hb
    have hl:=hall _ (Array.getElem_mem hk) hb.1
    rw[hb.2]at hl
    exact hF.zH j oj hj hl hn⟩
  refine wpOp_mono (fun a' w' h=>?_) (hst a w hat hoi)
  obtain⟨v,rfl,hB,hR,hG⟩:=h
  have hlt:=jc hi
  refine ih _ _ _ (by simpa using hs) (by omega) ⟨hB,?_,?_,?_,?_,?_⟩
  .rw[<- hF.size];cases o.dst<;>simp[Act.put]
  .rw[<- hF.defers];cases o.dst<;>simp[Act.put]
  .intro d hd
   rw[<- hF.rest d hd]
   have hne:o.dst≠some d:=by
    have:=(Array.all_eq_true_iff_forall_mem.1 hd) o (Array.mem_of_getElem? hoi)
    simpa using this
   cases hod:o.dst with
   | none=>rfl
   | some d'=>rw[hod]at hne;simp[Act.put,Array.getElem?_setIfInBounds_ne (show d'≠d from fun e=>hne (by rw[e]))]
  .intro j oj d hj hl hd
   by_cases e:i=j
   .subst e
    rw[hoi]at hj
    cases hj
    have hd2:=vL ho hoi hd
    rw[<- hF.size]at hd2
    rw[hd]at hG ⊢
    simpa[Act.put,hd2] using hG
   .rw[getD_set_ne false e]at hl
    have h1:=hF.slots j oj d hj hl hd
    have hv:(a.put o.dst v).tmps.getD d undef=a.tmps.getD d undef:=by
     cases hod:o.dst with
     | none=>rfl
     | some d'=>
      have:=qp ho hoi hj e hod
      rw[hd]at this
      simp[Act.put,Array.getElem?_setIfInBounds_ne (show d'≠d from fun e=>this (by rw[e]))]
    rw[hv]
    exact JJ d _ w w' hR h1
  .intro j oj hj hl hn
   by_cases e:i=j
   .subst e
    rw[hoi]at hj
    cases hj
    rw[hn]at hG
    exact hG
   .rw[getD_set_ne false e]at hl
    exact zI j w w' hR (hF.zH j oj hj hl hn)
theorem rD {id:Nat} {w:World} (G:Nat->Value->World->Prop) (M:Nat->World->Prop) (B:World->Prop) (Rel:World->World->Prop) (hm:P.follows .mixedOrders=true) (ht:vJ ops=true) (ho:once ops a0.tmps.size=true) (hB:B w.drew)
  (JJ:∀d u w w',Rel w w'->G d u w->G d u w') (zI:∀j w w',Rel w w'->M j w->M j w') (steps:sZ P Q G M B Rel a0 ops 0 ops.toList)
  (fin:∀a w,B w->a.tmps.size=a0.tmps.size->a.defers=a0.defers->(∀d,jP ops d=true->a.tmps.getD d undef=a0.tmps.getD d undef)->(∀d,isDst ops d=true->G d (a.tmps.getD d undef) w)->
   (∀j oj,ops[j]?=some oj->oj.dst=none->M j w)->Q .normal a w):(Code.region id ops true).wp P Q a0 w:=
 wp_region_any hm (QL ht ho JJ zI steps fin ops.size _ a0 _ (by simp) (by unfold jg;exact Nat.le_trans (List.length_filter_le _ _) (by simp))
  ⟨hB,rfl,rfl,fun _ _=>rfl,fun j oj d _ hl _=>by
   by_cases h:j<ops.size<;>simp[h]at hl,fun j oj _ hl _=>by
   by_cases h:j<ops.size<;>simp[h]at hl⟩)
theorem jB {o:Oper} (h:o.guard=none) (f:Nat->Option Bool):Region.wanted o f=true:=by simp[Region.wanted,h]
theorem aB {i:Nat} {o:Oper} {d:Nat} (hd:o.dst=some d) (hg:o.guard=none) (h:∀a w,qo G M B a0 ops o a w->∃v w',(execOp a.eval o).run P w=.ok (.value v) w'/\B w'/\Rel w w'/\G d v w'):rC P Q G M B Rel a0 ops i o:=by
 intro a w hF hi
 obtain⟨v,w',hr,hB,hR,hG⟩:=h a w hF
 unfold wpOp
 simp only[hi,jB hg,if_true]
 refine Or.inl ?_
 unfold Oper.wp
 rw[hr]
 exact⟨v,rfl,hB,hR,by rw[hd];exact hG⟩
theorem CQ {i:Nat} {o:Oper} (hd:o.dst=none) (hg:o.guard=none) (h:∀a w,qo G M B a0 ops o a w->∃w',(execOp a.eval o).run P w=.ok .skip w'/\B w'/\Rel w w'/\M i w'):rC P Q G M B Rel a0 ops i o:=by
 intro a w hF hi
 obtain⟨w',hr,hB,hR,hG⟩:=h a w hF
 unfold wpOp
 simp only[hi,jB hg,if_true]
 refine Or.inl ?_
 unfold Oper.wp
 rw[hr]
 exact⟨undef,rfl,hB,hR,by rw[hd];exact hG⟩
theorem iF {i:Nat} {o:Oper} {d:Nat} (hd:o.dst=some d) (hg:o.guard=none)
  (h:∀a w,qo G M B a0 ops o a w->∃f args,(execOp a.eval o).run P w=.ok (.enter f args) w/\Calls P f args w fun e w'=>∃v,e=.returned v/\B w'/\Rel w w'/\G d v w'):rC P Q G M B Rel a0 ops i o:=by
 intro a w hF hi
 obtain⟨f,args,hr,hc⟩:=h a w hF
 unfold wpOp
 simp only[hi,jB hg,if_true]
 refine Or.inl ?_
 unfold Oper.wp
 rw[hr]
 refine Calls.mono hc fun e w' he=>?_
 obtain⟨v,rfl,hB,hR,hG⟩:=he
 exact⟨v,rfl,hB,hR,by rw[hd];exact hG⟩
end
end
section
open Go
section
variable {P:Program} {ops:Array Oper} {Q:Exit->Act->World->Prop} {G:Nat->Value->World->Prop} {st:Nat->Nat} {M:Nat->Value->World->Prop} {B:World->Prop} {Rel:World->World->Prop} {a0:Act}
structure XJ (G:Nat->Value->World->Prop) (st:Nat->Nat) (M:Nat->Value->World->Prop) (B:World->Prop) (a0:Act) (ops:Array Oper) (listed:Array Bool) (a:Act) (w:World):Prop where
 base:B w
 size:a.tmps.size=a0.tmps.size
 defers:a.defers=a0.defers
 rest:∀d,jP ops d=true->a.tmps.getD d undef=a0.tmps.getD d undef
 slots:∀j oj d,ops[j]?=some oj->listed.getD j false=true->oj.dst=some d->G d (a.tmps.getD d undef) w
 zH:∀j oj,ops[j]?=some oj->listed.getD j false=true->oj.dst=none->M j (a.tmps.getD (st j) undef) w
 closed:∀j oj,ops[j]?=some oj->listed.getD j false=true->∀e∈oj.after,Region.binds .any e=true->listed.getD e.on false=true
structure mU (G:Nat->Value->World->Prop) (st:Nat->Nat) (M:Nat->Value->World->Prop) (B:World->Prop) (a0:Act) (ops:Array Oper) (o:Oper) (a:Act) (w:World):Prop where
 base:B w
 rest:∀d,jP ops d=true->a.tmps.getD d undef=a0.tmps.getD d undef
 dep:∀d,waits ops o d=true->G d (a.tmps.getD d undef) w
 mem:∀j oj,ops[j]?=some oj->waitsFor o j=true->oj.dst=none->M j (a.tmps.getD (st j) undef) w
def ND (G:Nat->Value->World->Prop) (st:Nat->Nat) (M:Nat->Value->World->Prop) (B:World->Prop) (Rel:World->World->Prop) (i:Nat) (o:Oper) (a:Act) (w:World) (v:Value) (w':World):Prop:=
 B w'/\Rel w w'/\match o.dst with|some d=>G d v w'|none=>M i (a.tmps.getD (st i) undef) w'
def pU (P:Program) (Q:Exit->Act->World->Prop) (G:Nat->Value->World->Prop) (st:Nat->Nat) (M:Nat->Value->World->Prop) (B:World->Prop) (Rel:World->World->Prop) (a0:Act) (ops:Array Oper) (i:Nat) (o:Oper):Prop:=
 ∀a w,mU G st M B a0 ops o a w->ops[i]?=some o->wpOp P ops Q i (fun a' w'=>∃v,a'=a.put o.dst v/\ND G st M B Rel i o a w v w') a w
def qw (P:Program) (Q:Exit->Act->World->Prop) (G:Nat->Value->World->Prop) (st:Nat->Nat) (M:Nat->Value->World->Prop) (B:World->Prop) (Rel:World->World->Prop) (a0:Act) (ops:Array Oper):Nat->List Oper->Prop
 | _,[]=>True
 | i,o:: r=>pU P Q G st M B Rel a0 ops i o/\qw P Q G st M B Rel a0 ops (i+1) r
theorem zJ:∀(l:List Oper) (i k:Nat) (o:Oper),qw P Q G st M B Rel a0 ops i l->l[k]?=some o->pU P Q G st M B Rel a0 ops (i+k) o:=by
 intro l
 induction l with
 | nil=>intro i k o h hk;simp at hk
 | cons x r ih=>
  intro i k o h hk
  cases k with
  | zero=>simp at hk;subst hk;exact h.1
  | succ k=>have:=ih (i+1) k o h.2 (by simpa using hk);rwa [show i+(k+1)=i+1+k by omega]
def Vk (ops:Array Oper) (st:Nat->Nat):Bool:=(List.range ops.size).all fun j=>((ops[j]?).map fun o=>o.dst.isSome||waits ops o (st j)||jP ops (st j)).getD true
theorem NG (ht:vJ ops=true) (ho:once ops a0.tmps.size=true) (JJ:∀d u w w',Rel w w'->G d u w->G d u w') (zI:∀j u w w',Rel w w'->M j u w->M j u w') (JK:Vk ops st=true)
  (steps:qw P Q G st M B Rel a0 ops 0 ops.toList)
  (fin:∀a w,B w->a.tmps.size=a0.tmps.size->a.defers=a0.defers->(∀d,jP ops d=true->a.tmps.getD d undef=a0.tmps.getD d undef)->(∀d,isDst ops d=true->G d (a.tmps.getD d undef) w)->
   (∀j oj,ops[j]?=some oj->oj.dst=none->M j (a.tmps.getD (st j) undef) w)->Q .normal a w):
  ∀(fuel:Nat) (listed:Array Bool) (a:Act) (w:World),listed.size=ops.size->jg ops listed<=fuel->XJ G st M B a0 ops listed a w->wpAny P .any ops Q fuel listed a w:=by
 have inn:∀{j:Nat} {oj:Oper},ops[j]?=some oj->j<ops.size:=by
  intro j oj hj
  rcases Nat.lt_or_ge j ops.size with h'|h'
  .exact h'
  .rw[Array.getElem?_eq_none h']at hj;cases hj
 have go:∀(listed:Array Bool) (a:Act) (w:World),listed.size=ops.size->XJ G st M B a0 ops listed a w->Region.ready .any ops listed=[]->Q .normal a w:=by
  intro listed a w hs hF hr
  have hall:=lg ht hs hr
  refine fin a w hF.base hF.size hF.defers hF.rest (fun d hd=>?_) (fun j oj hj hn=>hF.zH j oj hj (hall j (inn hj)) hn)
  obtain⟨k,hk,hb⟩:=Array.any_eq_true.1 hd
  exact hF.slots k ops[k] d (Array.getElem?_eq_getElem hk) (hall k hk) (by simpa using hb)
 intro fuel
 induction fuel with
 | zero=>
  intro listed a w hs hu hF
  have hr:Region.ready .any ops listed=[]:=by
   cases hc:Region.ready .any ops listed with
   | nil=>rfl
   | cons x r=>
    have:=jc (ops:=ops) (listed:=listed) (i:=x) (by rw[hc];exact List.mem_cons_self ..)
    omega
  exact⟨hr,go listed a w hs hF hr⟩
 | succ fuel ih=>
  intro listed a w hs hu hF
  refine⟨go listed a w hs hF,fun i hi=>?_⟩
  obtain⟨h0,o,hoi,hall⟩:=mem_ready.1 hi
  have hst:=zJ ops.toList 0 i o steps (by rw[Array.getElem?_toList];exact hoi)
  rw[Nat.zero_add]at hst
  have hat:mU G st M B a0 ops o a w:=⟨hF.base,hF.rest,fun d hd=>by
    obtain⟨k,hk,hb⟩:=Array.any_eq_true.1 hd
    simp only[Bool.and_eq_true,beq_iff_eq]at hb
    have hl:=hall _ (Array.getElem_mem hk) hb.1
    cases hx:ops[o.after[k].on]? with
    | none=>rw[hx]at hb;cases hb.2
    | some oj=>rw[hx]at hb;exact hF.slots _ oj d hx hl hb.2,
   fun j oj hj ha hn=>by
    obtain⟨k,hk,hb⟩:=Array.any_eq_true.1 ha
    simp only[Bool.and_eq_true,beq_iff_eq]at hb
    have hl:=hall _ (Array.getElem_mem hk) hb.1
    rw[hb.2]at hl
    exact hF.zH j oj hj hl hn⟩
  refine wpOp_mono (fun a' w' h=>?_) (hst a w hat hoi)
  obtain⟨v,rfl,hB,hR,hG⟩:=h
  have hlt:=jc hi
  refine ih _ _ _ (by simpa using hs) (by omega) ⟨hB,?_,?_,?_,?_,?_,?_⟩
  .rw[<- hF.size];cases o.dst<;>simp[Act.put]
  .rw[<- hF.defers];cases o.dst<;>simp[Act.put]
  .intro d hd
   rw[<- hF.rest d hd]
   have hne:o.dst≠some d:=by
    have:=(Array.all_eq_true_iff_forall_mem.1 hd) o (Array.mem_of_getElem? hoi)
    simpa using this
   cases hod:o.dst with
   | none=>rfl
   | some d'=>rw[hod]at hne;simp[Act.put,Array.getElem?_setIfInBounds_ne (show d'≠d from fun e=>hne (by rw[e]))]
  .intro j oj d hj hl hd
   by_cases e:i=j
   .subst e
    rw[hoi]at hj
    cases hj
    have hd2:=vL ho hoi hd
    rw[<- hF.size]at hd2
    rw[hd]at hG ⊢
    simpa[Act.put,hd2] using hG
   .rw[getD_set_ne false e]at hl
    have h1:=hF.slots j oj d hj hl hd
    have hv:(a.put o.dst v).tmps.getD d undef=a.tmps.getD d undef:=by
     cases hod:o.dst with
     | none=>rfl
     | some d'=>
      have:=qp ho hoi hj e hod
      rw[hd]at this
      simp[Act.put,Array.getElem?_setIfInBounds_ne (show d'≠d from fun e=>this (by rw[e]))]
    rw[hv]
    exact JJ d _ w w' hR h1
  .intro j oj hj hl hn
   have hv:∀jj NH,ops[jj]?=some NH->NH.dst=none->(jj=i\/listed.getD jj false=true)->(a.put o.dst v).tmps.getD (st jj) undef=a.tmps.getD (st jj) undef:=by
    intro jj NH hjj hnn hcase
    cases hod:o.dst with
    | none=>rfl
    | some d'=>
     have hne:d'≠st jj:=by
      intro he
      have hs1:=(List.all_eq_true.1 JK) jj (List.mem_range.2 (inn hjj))
      rw[hjj]at hs1
      simp only[Option.map_some,Option.getD_some,hnn,Option.isSome_none,Bool.false_or,Bool.or_eq_true]at hs1
      rcases hs1 with hs1|hs1
      .obtain⟨k,hk,hb⟩:=Array.any_eq_true.1 hs1
       simp only[Bool.and_eq_true,beq_iff_eq]at hb
       rcases hcase with hc|hc
       .subst hc
        rw[hoi]at hjj
        cases hjj
        rw[hod]at hnn
        cases hnn
       .have hl2:=hF.closed jj NH hjj hc _ (Array.getElem_mem hk) hb.1
        cases hx:ops[NH.after[k].on]? with
        | none=>rw[hx]at hb;cases hb.2
        | some ok=>
         rw[hx]at hb
         have hdk:ok.dst=some (st jj):=hb.2
         by_cases hki:NH.after[k].on=i
         .rw[hki]at hl2
          have hlt2:i<listed.size:=by rw[hs];exact inn hoi
          simp[hlt2]at h0 hl2
          rw[h0]at hl2
          cases hl2
         .exact qp ho hx hoi hki hdk (by rw[hod,he])
      .have:=(Array.all_eq_true_iff_forall_mem.1 hs1) o (Array.mem_of_getElem? hoi)
       rw[hod,he]at this
       simp at this
     simp[Act.put,Array.getElem?_setIfInBounds_ne hne]
   by_cases e:i=j
   .subst e
    rw[hv i oj hj hn (Or.inl rfl)]
    rw[hoi]at hj
    cases hj
    rw[hn]at hG
    exact hG
   .rw[getD_set_ne false e]at hl
    rw[hv j oj hj hn (Or.inr hl)]
    exact zI j _ w w' hR (hF.zH j oj hj hl hn)
  .intro j oj hj hl e he hb
   by_cases ei:i=j
   .subst ei
    rw[hoi]at hj
    cases hj
    exact getD_set_true (hall e he hb)
   .rw[getD_set_ne false ei]at hl
    exact getD_set_true (hF.closed j oj hj hl e he hb)
theorem jh {id:Nat} {w:World} (G:Nat->Value->World->Prop) (st:Nat->Nat) (M:Nat->Value->World->Prop) (B:World->Prop) (Rel:World->World->Prop) (hm:P.follows .mixedOrders=true) (ht:vJ ops=true) (ho:once ops a0.tmps.size=true) (hB:B w.drew)
  (JJ:∀d u w w',Rel w w'->G d u w->G d u w') (zI:∀j u w w',Rel w w'->M j u w->M j u w') (JK:Vk ops st=true) (steps:qw P Q G st M B Rel a0 ops 0 ops.toList)
  (fin:∀a w,B w->a.tmps.size=a0.tmps.size->a.defers=a0.defers->(∀d,jP ops d=true->a.tmps.getD d undef=a0.tmps.getD d undef)->(∀d,isDst ops d=true->G d (a.tmps.getD d undef) w)->
   (∀j oj,ops[j]?=some oj->oj.dst=none->M j (a.tmps.getD (st j) undef) w)->Q .normal a w):(Code.region id ops true).wp P Q a0 w:=
 wp_region_any hm (NG ht ho JJ zI JK steps fin ops.size _ a0 _ (by simp) (by unfold jg;exact Nat.le_trans (List.length_filter_le _ _) (by simp))
  ⟨hB,rfl,rfl,fun _ _=>rfl,fun j oj d _ hl _=>by
   by_cases h:j<ops.size<;>simp[h]at hl,fun j oj _ hl _=>by
   by_cases h:j<ops.size<;>simp[h]at hl,fun j oj _ hl=>by
   by_cases h:j<ops.size<;>simp[h]at hl⟩)
theorem cK {i:Nat} {o:Oper} {d:Nat} (hd:o.dst=some d) (hg:o.guard=none) (h:∀a w,mU G st M B a0 ops o a w->∃v w',(execOp a.eval o).run P w=.ok (.value v) w'/\B w'/\Rel w w'/\G d v w'):pU P Q G st M B Rel a0 ops i o:=by
 intro a w hF hi
 obtain⟨v,w',hr,hB,hR,hG⟩:=h a w hF
 unfold wpOp
 simp only[hi,jB hg,if_true]
 refine Or.inl ?_
 unfold Oper.wp
 rw[hr]
 exact⟨v,rfl,hB,hR,by rw[hd];exact hG⟩
theorem qx {i:Nat} {o:Oper} (hd:o.dst=none) (hg:o.guard=none) (h:∀a w,mU G st M B a0 ops o a w->∃w',(execOp a.eval o).run P w=.ok .skip w'/\B w'/\Rel w w'/\M i (a.tmps.getD (st i) undef) w'):pU P Q G st M B Rel a0 ops i o:=by
 intro a w hF hi
 obtain⟨w',hr,hB,hR,hG⟩:=h a w hF
 unfold wpOp
 simp only[hi,jB hg,if_true]
 refine Or.inl ?_
 unfold Oper.wp
 rw[hr]
 exact⟨undef,rfl,hB,hR,by rw[hd];exact hG⟩
theorem gJ {i:Nat} {o:Oper} {d:Nat} (hd:o.dst=some d) (hg:o.guard=none)
  (h:∀a w,mU G st M B a0 ops o a w->∃f args,(execOp a.eval o).run P w=.ok (.enter f args) w/\Calls P f args w fun e w'=>∃v,e=.returned v/\B w'/\Rel w w'/\G d v w'):pU P Q G st M B Rel a0 ops i o:=by
 intro a w hF hi
 obtain⟨f,args,hr,hc⟩:=h a w hF
 unfold wpOp
 simp only[hi,jB hg,if_true]
 refine Or.inl ?_
 unfold Oper.wp
 rw[hr]
 refine Calls.mono hc fun e w' he=>?_
 obtain⟨v,rfl,hB,hR,hG⟩:=he
 exact⟨v,rfl,hB,hR,by rw[hd];exact hG⟩
end
end
section
open Go
section
variable {P:Program} {ops:Array Oper} {Q:Exit->Act->World->Prop} {G:Nat->Value->World->Prop} {st:Nat->Nat} {M:Nat->Value->World->Prop} {B:World->Prop} {ps:List Nat} {a0:Act}
def bN (ps:List Nat) (a:Act) (w:World):Prop:=
 ∀s∈ps,∀C,a.tmps.getD s undef=.pointer (some ⟨C,0,none⟩)->C<w.heap.size/\∀t∈ps,t≠s->a.tmps.getD t undef≠.pointer (some ⟨C,0,none⟩)
theorem JL {ps:List Nat} {a:Act} {w w':World} (h:bN ps a w) (hs:w.heap.size<=w'.heap.size):bN ps a w':=
 fun s hm C e=>⟨Nat.lt_of_lt_of_le (h s hm C e).1 hs,(h s hm C e).2⟩
theorem nG {a:Act} {dst:Option Tmp} {v:Value} {s:Nat} (h:dst≠some s):(a.put dst v).tmps.getD s undef=a.tmps.getD s undef:=by
 cases dst with
 | none=>rfl
 | some d=>simp[Act.put,Array.getElem?_setIfInBounds_ne (show d≠s from fun e=>h (by rw[e]))]
theorem pV {ps:List Nat} {a:Act} {w w':World} {dst:Option Tmp} {v:Value} (h:bN ps a w) (hs:w.heap.size<=w'.heap.size) (hd:∀s∈ps,dst≠some s):bN ps (a.put dst v) w':=by
 intro s hm C e
 rw[nG (hd s hm)]at e
 refine⟨Nat.lt_of_lt_of_le (h s hm C e).1 hs,fun t ht hts=>?_⟩
 rw[nG (hd t ht)]
 exact (h s hm C e).2 t ht hts
theorem FH {ps:List Nat} {a:Act} {w w':World} {d:Nat} (h:bN ps a w) (hs:w.heap.size<w'.heap.size) (hd:d<a.tmps.size):bN ps (a.put (some d) (.pointer (some ⟨w.heap.size,0,none⟩))) w':=by
 have hsame:∀v,(a.put (some d) v).tmps.getD d undef=v:=fun v=>by simp[Act.put,hd]
 intro s hm C e
 by_cases e1:d=s
 .subst e1
  rw[hsame]at e
  cases e
  refine⟨hs,fun t ht hts e2=>?_⟩
  rw[nG (by intro e3;exact hts (Option.some.inj e3).symm)]at e2
  have:=(h t ht _ e2).1
  omega
 .rw[nG (by intro e3;exact e1 (Option.some.inj e3))]at e
  refine⟨by have:=(h s hm C e).1;omega,fun t ht hts=>?_⟩
  by_cases e2:d=t
  .subst e2
   rw[hsame]
   intro e3
   cases e3
   have:=(h s hm _ e).1
   omega
  .rw[nG (by intro e3;exact e2 (Option.some.inj e3))]
   exact (h s hm C e).2 t ht hts
structure XK (G:Nat->Value->World->Prop) (st:Nat->Nat) (M:Nat->Value->World->Prop) (B:World->Prop) (ps:List Nat) (a0:Act) (ops:Array Oper) (listed:Array Bool) (a:Act) (w:World):Prop where
 base:B w
 size:a.tmps.size=a0.tmps.size
 defers:a.defers=a0.defers
 rest:∀d,jP ops d=true->a.tmps.getD d undef=a0.tmps.getD d undef
 slots:∀j oj d,ops[j]?=some oj->listed.getD j false=true->oj.dst=some d->G d (a.tmps.getD d undef) w
 zH:∀j oj,ops[j]?=some oj->listed.getD j false=true->oj.dst=none->M j (a.tmps.getD (st j) undef) w
 ptrs:bN ps a w
 closed:∀j oj,ops[j]?=some oj->listed.getD j false=true->∀e∈oj.after,Region.binds .any e=true->listed.getD e.on false=true
structure lJ (G:Nat->Value->World->Prop) (st:Nat->Nat) (M:Nat->Value->World->Prop) (B:World->Prop) (ps:List Nat) (a0:Act) (ops:Array Oper) (o:Oper) (a:Act) (w:World):Prop where
 base:B w
 size:a.tmps.size=a0.tmps.size
 ptrs:bN ps a w
 rest:∀d,jP ops d=true->a.tmps.getD d undef=a0.tmps.getD d undef
 dep:∀d,waits ops o d=true->G d (a.tmps.getD d undef) w
 mem:∀j oj,ops[j]?=some oj->waitsFor o j=true->oj.dst=none->M j (a.tmps.getD (st j) undef) w
def NI (G:Nat->Value->World->Prop) (st:Nat->Nat) (M:Nat->Value->World->Prop) (B:World->Prop) (ps:List Nat) (ops:Array Oper) (i:Nat) (o:Oper) (a:Act) (w:World) (v:Value) (w':World):Prop:=
 B w'/\(∀d u,G d u w->G d u w')/\(∀j oj,j≠i->ops[j]?=some oj->oj.dst=none->M j (a.tmps.getD (st j) undef) w->M j (a.tmps.getD (st j) undef) w')/\bN ps (a.put o.dst v) w'/\
  match o.dst with|some d=>G d v w'|none=>M i (a.tmps.getD (st i) undef) w'
def ni (P:Program) (Q:Exit->Act->World->Prop) (G:Nat->Value->World->Prop) (st:Nat->Nat) (M:Nat->Value->World->Prop) (B:World->Prop) (ps:List Nat) (a0:Act) (ops:Array Oper) (i:Nat) (o:Oper):Prop:=
 ∀a w,lJ G st M B ps a0 ops o a w->ops[i]?=some o->wpOp P ops Q i (fun a' w'=>∃v,a'=a.put o.dst v/\NI G st M B ps ops i o a w v w') a w
def qy (P:Program) (Q:Exit->Act->World->Prop) (G:Nat->Value->World->Prop) (st:Nat->Nat) (M:Nat->Value->World->Prop) (B:World->Prop) (ps:List Nat) (a0:Act) (ops:Array Oper):Nat->List Oper->Prop
 | _,[]=>True
 | i,o:: r=>ni P Q G st M B ps a0 ops i o/\qy P Q G st M B ps a0 ops (i+1) r
theorem zK:∀(l:List Oper) (i k:Nat) (o:Oper),qy P Q G st M B ps a0 ops i l->l[k]?=some o->ni P Q G st M B ps a0 ops (i+k) o:=by
 intro l
 induction l with
 | nil=>intro i k o h hk;simp at hk
 | cons x r ih=>
  intro i k o h hk
  cases k with
  | zero=>simp at hk;subst hk;exact h.1
  | succ k=>have:=ih (i+1) k o h.2 (by simpa using hk);rwa [show i+(k+1)=i+1+k by omega]
theorem NJ (ht:vJ ops=true) (ho:once ops a0.tmps.size=true) (JK:Vk ops st=true)
  (steps:qy P Q G st M B ps a0 ops 0 ops.toList)
  (fin:∀a w,B w->a.tmps.size=a0.tmps.size->a.defers=a0.defers->(∀d,jP ops d=true->a.tmps.getD d undef=a0.tmps.getD d undef)->(∀d,isDst ops d=true->G d (a.tmps.getD d undef) w)->
   (∀j oj,ops[j]?=some oj->oj.dst=none->M j (a.tmps.getD (st j) undef) w)->Q .normal a w):
  ∀(fuel:Nat) (listed:Array Bool) (a:Act) (w:World),listed.size=ops.size->jg ops listed<=fuel->XK G st M B ps a0 ops listed a w->wpAny P .any ops Q fuel listed a w:=by
 have inn:∀{j:Nat} {oj:Oper},ops[j]?=some oj->j<ops.size:=by
  intro j oj hj
  rcases Nat.lt_or_ge j ops.size with h'|h'
  .exact h'
  .rw[Array.getElem?_eq_none h']at hj;cases hj
 have go:∀(listed:Array Bool) (a:Act) (w:World),listed.size=ops.size->XK G st M B ps a0 ops listed a w->Region.ready .any ops listed=[]->Q .normal a w:=by
  intro listed a w hs hF hr
  have hall:=lg ht hs hr
  refine fin a w hF.base hF.size hF.defers hF.rest (fun d hd=>?_) (fun j oj hj hn=>hF.zH j oj hj (hall j (inn hj)) hn)
  obtain⟨k,hk,hb⟩:=Array.any_eq_true.1 hd
  exact hF.slots k ops[k] d (Array.getElem?_eq_getElem hk) (hall k hk) (by simpa using hb)
 intro fuel
 induction fuel with
 | zero=>
  intro listed a w hs hu hF
  have hr:Region.ready .any ops listed=[]:=by
   cases hc:Region.ready .any ops listed with
   | nil=>rfl
   | cons x r=>
    have:=jc (ops:=ops) (listed:=listed) (i:=x) (by rw[hc];exact List.mem_cons_self ..)
    omega
  exact⟨hr,go listed a w hs hF hr⟩
 | succ fuel ih=>
  intro listed a w hs hu hF
  refine⟨go listed a w hs hF,fun i hi=>?_⟩
  obtain⟨h0,o,hoi,hall⟩:=mem_ready.1 hi
  have hst:=zK ops.toList 0 i o steps (by rw[Array.getElem?_toList];exact hoi)
  rw[Nat.zero_add]at hst
  have hat:lJ G st M B ps a0 ops o a w:=⟨hF.base,hF.size,hF.ptrs,hF.rest,fun d hd=>by
    obtain⟨k,hk,hb⟩:=Array.any_eq_true.1 hd
    simp only[Bool.and_eq_true,beq_iff_eq]at hb
    have hl:=hall _ (Array.getElem_mem hk) hb.1
    cases hx:ops[o.after[k].on]? with
    | none=>rw[hx]at hb;cases hb.2
    | some oj=>rw[hx]at hb;exact hF.slots _ oj d hx hl hb.2,
   fun j oj hj ha hn=>by
    obtain⟨k,hk,hb⟩:=Array.any_eq_true.1 ha
    simp only[Bool.and_eq_true,beq_iff_eq]at hb
    have hl:=hall _ (Array.getElem_mem hk) hb.1
    rw[hb.2]at hl
    exact hF.zH j oj hj hl hn⟩
  refine wpOp_mono (fun a' w' h=>?_) (hst a w hat hoi)
  obtain⟨v,rfl,hB,JM,YA,hPt,hG⟩:=h
  have hlt:=jc hi
  refine ih _ _ _ (by simpa using hs) (by omega) ⟨hB,?_,?_,?_,?_,?_,hPt,?_⟩
  .rw[<- hF.size];cases o.dst<;>simp[Act.put]
  .rw[<- hF.defers];cases o.dst<;>simp[Act.put]
  .intro d hd
   rw[<- hF.rest d hd]
   have hne:o.dst≠some d:=by
    have:=(Array.all_eq_true_iff_forall_mem.1 hd) o (Array.mem_of_getElem? hoi)
    simpa using this
   cases hod:o.dst with
   | none=>rfl
   | some d'=>rw[hod]at hne;simp[Act.put,Array.getElem?_setIfInBounds_ne (show d'≠d from fun e=>hne (by rw[e]))]
  .intro j oj d hj hl hd
   by_cases e:i=j
   .subst e
    rw[hoi]at hj
    cases hj
    have hd2:=vL ho hoi hd
    rw[<- hF.size]at hd2
    rw[hd]at hG ⊢
    simpa[Act.put,hd2] using hG
   .rw[getD_set_ne false e]at hl
    have h1:=hF.slots j oj d hj hl hd
    have hv:(a.put o.dst v).tmps.getD d undef=a.tmps.getD d undef:=by
     cases hod:o.dst with
     | none=>rfl
     | some d'=>
      have:=qp ho hoi hj e hod
      rw[hd]at this
      simp[Act.put,Array.getElem?_setIfInBounds_ne (show d'≠d from fun e=>this (by rw[e]))]
    rw[hv]
    exact JM d _ h1
  .intro j oj hj hl hn
   have hv:∀jj NH,ops[jj]?=some NH->NH.dst=none->(jj=i\/listed.getD jj false=true)->(a.put o.dst v).tmps.getD (st jj) undef=a.tmps.getD (st jj) undef:=by
    intro jj NH hjj hnn hcase
    cases hod:o.dst with
    | none=>rfl
    | some d'=>
     have hne:d'≠st jj:=by
      intro he
      have hs1:=(List.all_eq_true.1 JK) jj (List.mem_range.2 (inn hjj))
      rw[hjj]at hs1
      simp only[Option.map_some,Option.getD_some,hnn,Option.isSome_none,Bool.false_or,Bool.or_eq_true]at hs1
      rcases hs1 with hs1|hs1
      .obtain⟨k,hk,hb⟩:=Array.any_eq_true.1 hs1
       simp only[Bool.and_eq_true,beq_iff_eq]at hb
       rcases hcase with hc|hc
       .subst hc
        rw[hoi]at hjj
        cases hjj
        rw[hod]at hnn
        cases hnn
       .have hl2:=hF.closed jj NH hjj hc _ (Array.getElem_mem hk) hb.1
        cases hx:ops[NH.after[k].on]? with
        | none=>rw[hx]at hb;cases hb.2
        | some ok=>
         rw[hx]at hb
         have hdk:ok.dst=some (st jj):=hb.2
         by_cases hki:NH.after[k].on=i
         .rw[hki]at hl2
          have hlt2:i<listed.size:=by rw[hs];exact inn hoi
          simp[hlt2]at h0 hl2
          rw[h0]at hl2
          cases hl2
         .exact qp ho hx hoi hki hdk (by rw[hod,he])
      .have:=(Array.all_eq_true_iff_forall_mem.1 hs1) o (Array.mem_of_getElem? hoi)
       rw[hod,he]at this
       simp at this
     simp[Act.put,Array.getElem?_setIfInBounds_ne hne]
   by_cases e:i=j
   .subst e
    rw[hv i oj hj hn (Or.inl rfl)]
    rw[hoi]at hj
    cases hj
    rw[hn]at hG
    exact hG
   .rw[getD_set_ne false e]at hl
    rw[hv j oj hj hn (Or.inr hl)]
    exact YA j oj (fun e2=>e e2.symm) hj hn (hF.zH j oj hj hl hn)
  .intro j oj hj hl e he hb
   by_cases ei:i=j
   .subst ei
    rw[hoi]at hj
    cases hj
    exact getD_set_true (hall e he hb)
   .rw[getD_set_ne false ei]at hl
    exact getD_set_true (hF.closed j oj hj hl e he hb)
theorem ze {id:Nat} {w:World} (G:Nat->Value->World->Prop) (st:Nat->Nat) (M:Nat->Value->World->Prop) (B:World->Prop) (ps:List Nat) (hm:P.follows .mixedOrders=true) (ht:vJ ops=true) (ho:once ops a0.tmps.size=true) (hB:B w.drew) (hps:bN ps a0 w.drew)
  (JK:Vk ops st=true) (steps:qy P Q G st M B ps a0 ops 0 ops.toList)
  (fin:∀a w,B w->a.tmps.size=a0.tmps.size->a.defers=a0.defers->(∀d,jP ops d=true->a.tmps.getD d undef=a0.tmps.getD d undef)->(∀d,isDst ops d=true->G d (a.tmps.getD d undef) w)->
   (∀j oj,ops[j]?=some oj->oj.dst=none->M j (a.tmps.getD (st j) undef) w)->Q .normal a w):(Code.region id ops true).wp P Q a0 w:=
 wp_region_any hm (NJ ht ho JK steps fin ops.size _ a0 _ (by simp) (by unfold jg;exact Nat.le_trans (List.length_filter_le _ _) (by simp))
  ⟨hB,rfl,rfl,fun _ _=>rfl,fun j oj d _ hl _=>by
   by_cases h:j<ops.size<;>simp[h]at hl,fun j oj _ hl _=>by
   by_cases h:j<ops.size<;>simp[h]at hl,hps,fun j oj _ hl=>by
   by_cases h:j<ops.size<;>simp[h]at hl⟩)
def iD (ops:Array Oper) (o:Oper) (a:Act):Prop:=Region.wanted o (yielded ops a.tmps)=true
theorem aA {o:Oper} {a:Act} (h:o.guard=none):iD ops o a:=jB h _
theorem aR {o:Oper} {a:Act} {j d:Nat} {b:Bool} (h:o.guard=some (j,b)) (hj:(ops[j]?).bind (·.dst)=some d) (hd:d<a.tmps.size) (hv:a.tmps.getD d undef=.bool b):iD ops o a:=by
 unfold iD Region.wanted yielded
 rw[h]
 have:a.tmps[d]?=some (.bool b):=by
  rw[Array.getElem?_eq_getElem hd]
  simp[hd]at hv
  rw[hv]
 simp[hj,this]
theorem dx {o:Oper} {a:Act} {j d:Nat} {b c:Bool} (h:o.guard=some (j,b)) (hj:(ops[j]?).bind (·.dst)=some d) (hd:d<a.tmps.size) (hv:a.tmps.getD d undef=.bool c) (hbc:c≠b):Region.wanted o (yielded ops a.tmps)=false:=by
 unfold Region.wanted yielded
 rw[h]
 have:a.tmps[d]?=some (.bool c):=by
  rw[Array.getElem?_eq_getElem hd]
  simp[hd]at hv
  rw[hv]
 simp[hj,this,hbc]
theorem yE {i:Nat} {o:Oper} {d:Nat} (hd:o.dst=some d) (h:∀a w,lJ G st M B ps a0 ops o a w->iD ops o a/\∃v w',(execOp a.eval o).run P w=.ok (.value v) w'/\B w'/\(∀d u,G d u w->G d u w')/\(∀j u,M j u w->M j u w')/\bN ps (a.put (some d) v) w'/\G d v w'):ni P Q G st M B ps a0 ops i o:=by
 intro a w hF hi
 obtain⟨hw,v,w',hr,hB,JM,YA,hP,hG⟩:=h a w hF
 unfold iD at hw
 unfold wpOp
 simp only[hi,hw,if_true]
 refine Or.inl ?_
 unfold Oper.wp
 rw[hr]
 exact⟨v,rfl,hB,JM,fun j oj _ _ _ h=>YA j _ h,by rw[hd];exact hP,by rw[hd];exact hG⟩
theorem FI {i:Nat} {o:Oper} (hd:o.dst=none) (h:∀a w,lJ G st M B ps a0 ops o a w->iD ops o a/\∃w',(execOp a.eval o).run P w=.ok .skip w'/\B w'/\(∀d u,G d u w->G d u w')/\(∀j oj,j≠i->ops[j]?=some oj->oj.dst=none->M j (a.tmps.getD (st j) undef) w->M j (a.tmps.getD (st j) undef) w')/\w.heap.size<=w'.heap.size/\M i (a.tmps.getD (st i) undef) w'):ni P Q G st M B ps a0 ops i o:=by
 intro a w hF hi
 obtain⟨hw,w',hr,hB,JM,YA,hs,hG⟩:=h a w hF
 unfold iD at hw
 unfold wpOp
 simp only[hi,hw,if_true]
 refine Or.inl ?_
 unfold Oper.wp
 rw[hr]
 exact⟨undef,rfl,hB,JM,YA,by rw[hd];exact JL hF.ptrs hs,by rw[hd];exact hG⟩
theorem JN {i:Nat} {o:Oper} {d:Nat} (hd:o.dst=some d)
  (h:∀a w,lJ G st M B ps a0 ops o a w->iD ops o a/\∃f args,(execOp a.eval o).run P w=.ok (.enter f args) w/\Calls P f args w fun e w'=>∃v,e=.returned v/\B w'/\(∀d u,G d u w->G d u w')/\(∀j u,M j u w->M j u w')/\bN ps (a.put (some d) v) w'/\G d v w'):ni P Q G st M B ps a0 ops i o:=by
 intro a w hF hi
 obtain⟨hw,f,args,hr,hc⟩:=h a w hF
 unfold iD at hw
 unfold wpOp
 simp only[hi,hw,if_true]
 refine Or.inl ?_
 unfold Oper.wp
 rw[hr]
 refine Calls.mono hc fun e w' he=>?_
 obtain⟨v,rfl,hB,JM,YA,hP,hG⟩:=he
 exact⟨v,rfl,hB,JM,fun j oj _ _ _ h=>YA j _ h,by rw[hd];exact hP,by rw[hd];exact hG⟩
end
end
section
open Go.RowKit
theorem lJ.d {G:Nat->Value->World->Prop} {st:Nat->Nat} {M:Nat->Value->World->Prop} {B:World->Prop} {ps:List Nat} {a0:Act} {ops:Array Oper} {o:Oper} {a:Act} {w:World} (h:lJ G st M B ps a0 ops o a w) (d:Nat) (hd:waits ops o d=true:=by kernel_rfl):G d (a.tmps.getD d undef) w:=h.dep d hd
theorem lJ.r {G:Nat->Value->World->Prop} {st:Nat->Nat} {M:Nat->Value->World->Prop} {B:World->Prop} {ps:List Nat} {a0:Act} {ops:Array Oper} {o:Oper} {a:Act} {w:World} (h:lJ G st M B ps a0 ops o a w) (d:Nat) (hd:jP ops d=true:=by kernel_rfl):a.tmps.getD d undef=a0.tmps.getD d undef:=h.rest d hd
theorem qo.d {G:Nat->Value->World->Prop} {M:Nat->World->Prop} {B:World->Prop} {a0:Act} {ops:Array Oper} {o:Oper} {a:Act} {w:World} (h:qo G M B a0 ops o a w) (d:Nat) (hd:waits ops o d=true:=by kernel_rfl):G d (a.tmps.getD d undef) w:=h.dep d hd
theorem qo.r {G:Nat->Value->World->Prop} {M:Nat->World->Prop} {B:World->Prop} {a0:Act} {ops:Array Oper} {o:Oper} {a:Act} {w:World} (h:qo G M B a0 ops o a w) (d:Nat) (hd:jP ops d=true:=by kernel_rfl):a.tmps.getD d undef=a0.tmps.getD d undef:=h.rest d hd
theorem mU.d {G:Nat->Value->World->Prop} {st:Nat->Nat} {M:Nat->Value->World->Prop} {B:World->Prop} {a0:Act} {ops:Array Oper} {o:Oper} {a:Act} {w:World} (h:mU G st M B a0 ops o a w) (d:Nat) (hd:waits ops o d=true:=by kernel_rfl):G d (a.tmps.getD d undef) w:=h.dep d hd
theorem mU.r {G:Nat->Value->World->Prop} {st:Nat->Nat} {M:Nat->Value->World->Prop} {B:World->Prop} {a0:Act} {ops:Array Oper} {o:Oper} {a:Act} {w:World} (h:mU G st M B a0 ops o a w) (d:Nat) (hd:jP ops d=true:=by kernel_rfl):a.tmps.getD d undef=a0.tmps.getD d undef:=h.rest d hd
end
section
open Go.RowKit
def aG (w:World) (B:Nat) (T:TypeId) (L:List Value):Prop:=w.heap[B]?=some (.cells L.toArray T (0,0))
theorem aG.lt {w:World} {B:Nat} {T:TypeId} {L:List Value} (h:aG w B T L):B<w.heap.size:=by
 rcases Nat.lt_or_ge B w.heap.size with h'|h'
 .exact h'
 .unfold aG at h;simp[Array.getElem?_eq_none h']at h
theorem aG.cell {w:World} {B:Nat} {T:TypeId} {L:List Value} (h:aG w B T L) {i:Nat} {v:Value} (hv:L[i]?=some v):w.cell? ⟨B,i,none⟩=some v:=by
 unfold aG at h;simp[World.cell?,h,hv]
theorem aG.free {w:World} {B:Nat} {T:TypeId} {L:List Value} (h:aG w B T L) (i:Nat):w.frozen? ⟨B,i,none⟩=false:=by
 unfold aG at h;simp[World.frozen?,h]
theorem aG.set {w:World} {B:Nat} {T:TypeId} {L:List Value} (h:aG w B T L) (i:Nat) (v:Value):aG (w.setCell ⟨B,i,none⟩ v) B T (L.set i v):=by
 have hlt:=h.lt
 unfold aG at h ⊢
 have h':w.heap[B]=.cells L.toArray T (0,0):=by simpa[Array.getElem?_eq_getElem hlt] using h
 show (w.heap.modify B _)[B]?=_
 rw[Array.getElem?_eq_getElem (by simpa using hlt),Array.getElem_modify_self,h']
 simp
theorem aG.other {w:World} {B:Nat} {T:TypeId} {L:List Value} (h:aG w B T L) {a:Addr} (ha:a.block≠B) (v:Value):aG (w.setCell a v) B T L:=by
 unfold aG at h ⊢;rw[Below.heap_setCell _ _ _ _ (fun e=>ha e.symm)];exact h
theorem aG.alloc {w:World} {B:Nat} {T:TypeId} {L:List Value} (h:aG w B T L) (o:Obj):aG (w.alloc o) B T L:=by
 have hlt:=h.lt
 unfold aG at h ⊢;rw[Below.heap_alloc _ _ _ hlt];exact h
theorem aG.drewN {w:World} {B:Nat} {T:TypeId} {L:List Value} (h:aG w B T L) (n:Nat):aG (w.drewN n) B T L:=h
theorem aG.drew {w:World} {B:Nat} {T:TypeId} {L:List Value} (h:aG w B T L):aG w.drew B T L:=h
theorem aG.grown {w w':World} {B:Nat} {T:TypeId} {L:List Value} {row:Option Nat} (h:aG w B T L) (hg:w.grownBy w' row) (hr:some B≠row):aG w' B T L:=by
 have hlt:=h.lt
 unfold aG at h ⊢;rw[hg.block B hlt hr];exact h
theorem aG.new (w:World) (L:List Value) (T:TypeId):aG (w.alloc (.cells L.toArray T)) w.heap.size T L:=by
 show (w.heap.push _)[w.heap.size]?=_
 simp
theorem ah (w:World) (row:Option Nat):w.grownBy w row:=⟨rfl,rfl,rfl,Nat.le_refl _,fun _ _ _=>rfl⟩
theorem aj {a b c:World} {row:Option Nat} (h:a.grownBy b row) (k:b.grownBy c row):a.grownBy c row:=
 ⟨k.os.trans h.os,k.tape.trans h.tape,k.output.trans h.output,Nat.le_trans h.size k.size,fun i hi hr=>(k.block i (Nat.lt_of_lt_of_le hi h.size) hr).trans (h.block i hi hr)⟩
theorem fP {a b:World} (h:a.grownBy b none) (row:Option Nat):a.grownBy b row:=
 ⟨h.os,h.tape,h.output,h.size,fun i hi _=>h.block i hi (by simp)⟩
theorem aX {a b c:World} {B:Nat} {row:Option Nat} (h:a.grownBy b row) (k:b.grownBy c (some B)) (hB:a.heap.size<=B):a.grownBy c row:=
 ⟨k.os.trans h.os,k.tape.trans h.tape,k.output.trans h.output,Nat.le_trans h.size k.size,fun i hi hr=>(k.block i (Nat.lt_of_lt_of_le hi h.size) (by intro e;cases e;omega)).trans (h.block i hi hr)⟩
theorem au {a w:World} {row:Option Nat} (h:a.grownBy w row) (o:Obj):a.grownBy (w.alloc o) row:=aj h (World.grownBy_alloc w o row)
theorem gK {a w:World} {row:Option Nat} (h:a.grownBy w row) (n:Nat):a.grownBy (w.drewN n) row:=⟨h.os,h.tape,h.output,h.size,h.block⟩
theorem aZ {a w:World} {row:Option Nat} (h:a.grownBy w row):a.grownBy w.drew row:=⟨h.os,h.tape,h.output,h.size,h.block⟩
theorem aS {a w:World} {B:Nat} (h:a.grownBy w (some B)) (i:Nat) (v:Value):a.grownBy (w.setCell ⟨B,i,none⟩ v) (some B):=
 aj h ⟨rfl,rfl,rfl,by simp[World.setCell],fun k _ hr=>Below.heap_setCell _ _ _ _ (fun e=>hr (by rw[e]))⟩
theorem aJ {a w:World} {row:Option Nat} (h:a.grownBy w row) {p:Addr} (hp:a.heap.size<=p.block) (v:Value):a.grownBy (w.setCell p v) row:=
 ⟨h.os,h.tape,h.output,by simp[World.setCell];exact h.size,fun k hk hr=>by rw[Below.heap_setCell _ _ _ _ (by omega)];exact h.block k hk hr⟩
theorem QM {a b:World} (h:a.grownBy b none):Below a.heap.size a b:=⟨h.os,h.tape,h.output,h.size,fun k hk=>h.block k hk (by simp)⟩
theorem aW {a b:World} {row:Option Nat} (h:a.grownBy b row) {p:Addr} (hp:p.block<a.heap.size) (hr:some p.block≠row):b.cell? p=a.cell? p:=World.cell?_of_block (w:=a) (h.block p.block hp hr)
theorem pW {a w:World} {row:Option Nat} (h:a.grownBy w row) {g:Nat} (hg:a.heap.size<=g) (cs:Array Value):a.grownBy (w.setRow g cs) row:=
 ⟨h.os,h.tape,h.output,by simp;exact h.size,fun k hk hr=>by rw[setRow_other _ _ _ _ (by omega)];exact h.block k hk hr⟩
theorem uL {a w:World} {g:Nat} (h:a.grownBy w (some g)) (cs:Array Value):a.grownBy (w.setRow g cs) (some g):=
 ⟨h.os,h.tape,h.output,by simp;exact h.size,fun k hk hr=>by rw[setRow_other _ _ _ _ (fun e=>hr (by rw[e]))];exact h.block k hk hr⟩
theorem aG.row {w:World} {B:Nat} {T:TypeId} {L:List Value} (h:aG w B T L) (L':List Value):aG (w.setRow B L'.toArray) B T L':=setRow_heap _ _ _ _ _ _ h
theorem aG.QN {w:World} {B:Nat} {T:TypeId} {L:List Value} (h:aG w B T L) {g:Nat} (hg:g≠B) (cs:Array Value):aG (w.setRow g cs) B T L:=by
 unfold aG at h ⊢;rw[setRow_other _ _ _ _ (fun e=>hg e.symm)];exact h
def oI (L:List Value) (o:Nat) (f:Nat->Value):Nat->List Value
 | 0=>L
 | k+1=>(oI L o f k).set (o+k) (f k)
theorem fJ (L:List Value) (o:Nat) (f:Nat->Value) (k:Nat):(oI L o f k).length=L.length:=by
 induction k with
 | zero=>rfl
 | succ k ih=>simp[oI,ih]
theorem rE (L:List Value) (o:Nat) (f:Nat->Value) (k i:Nat) (hk:o+k<=L.length):(oI L o f k)[i]?=if o<=i/\i<o+k then some (f (i-o)) else L[i]?:=by
 induction k with
 | zero=>simp[oI];omega
 | succ k ih=>
  have hl:=fJ L o f k
  rw[oI,List.getElem?_set,ih (by omega),hl]
  by_cases h:o+k=i
  .subst h;simp only[if_true];rw[if_pos (by omega),if_pos (by omega)];congr 2;omega
  .rw[if_neg h]
   by_cases h2:o<=i/\i<o+k
   .rw[if_pos h2,if_pos (by omega)]
   .rw[if_neg h2,if_neg (by omega)]
theorem DX (L:List Value) (o:Nat) (f:Nat->Value) (k:Nat) (hk:o+k<=L.length):oI L o f k=L.take o++(List.range k).map f++L.drop (o+k):=by
 apply List.ext_getElem?
 intro i
 rw[rE L o f k i hk]
 by_cases h1:i<o
 .rw[if_neg (by omega),List.append_assoc,List.getElem?_append_left (by simp;omega),List.getElem?_take,if_pos h1]
 .by_cases h2:i<o+k
  .rw[if_pos (by omega),List.append_assoc,List.getElem?_append_right (by simp;omega),List.getElem?_append_left (by simp;omega)]
   simp[Nat.min_eq_left (show o<=L.length by omega),show i-o<k by omega]
  .rw[if_neg (by omega),List.getElem?_append_right (by simp;omega)]
   simp[Nat.min_eq_left (show o<=L.length by omega)]
   congr 1;omega
end
section
open Go.RowKit
namespace Ow
def dD (n:Nat):Value:=.int .u8 (n:Int)
structure BytesAt (w:World) (B:Nat) (a:Option Addr) (cap:Nat) (l:List Nat):Prop where
 lim:B<=w.heap.size
 fits:l.length<=cap
 top:cap<9223372036854775808
 byte:∀i,l.getD i 0<256
 cells:l.length=0\/∃pb po,a=some ⟨pb,po,none⟩/\pb<B/\∀i,i<l.length->w.cell? ⟨pb,po+i,none⟩=some (dD (l.getD i 0))
theorem BytesAt.kept {w w':World} {B cap:Nat} {a:Option Addr} {l:List Nat} (h:BytesAt w B a cap l) {row:Option Nat} (hg:w.grownBy w' row) (hr:∀r,row=some r->B<=r):BytesAt w' B a cap l:=by
 refine⟨Nat.le_trans h.lim hg.size,h.fits,h.top,h.byte,?_⟩
 rcases h.cells with h0 |⟨pb,po,ha,hlt,hc⟩
 .exact Or.inl h0
 .exact Or.inr ⟨pb,po,ha,hlt,fun i hi=>by rw[aW hg (p:=⟨pb,po+i,none⟩) (Nat.lt_of_lt_of_le hlt h.lim) (fun e=>by have:=hr _ e.symm;simp at this;omega)];exact hc i hi⟩
theorem BytesAt.stay {w w':World} {B cap:Nat} {a:Option Addr} {l:List Nat} (h:BytesAt w B a cap l) (hg:w.grownBy w' none):BytesAt w' B a cap l:=h.kept hg (fun r e=>by cases e)
theorem BytesAt.up {w:World} {B B' cap:Nat} {a:Option Addr} {l:List Nat} (h:BytesAt w B a cap l) (hB:B<=B') (hl:B'<=w.heap.size):BytesAt w B' a cap l:=by
 refine⟨hl,h.fits,h.top,h.byte,?_⟩
 rcases h.cells with h0 |⟨pb,po,ha,hlt,hc⟩
 .exact Or.inl h0
 .exact Or.inr ⟨pb,po,ha,by omega,hc⟩
theorem vM {l:List Nat} {i:Nat} (h:i<l.length):(l.map dD)[i]?=some (dD (l.getD i 0)):=by
 rw[List.getElem?_map,List.getElem?_eq_getElem h,List.getD_eq_getElem?_getD,List.getElem?_eq_getElem h];rfl
theorem kE (w:World) {B:Nat} (L:List Value) (T:TypeId) (h:w.heap.size=B):aG (w.alloc (.cells L.toArray T)) B T L:=h▸aG.new w L T
theorem lq {w:World} {N B n cap:Nat} {T:TypeId} {l:List Nat} {tl:List Value} (h:aG w N T (l.map dD++tl)) (hl:l.length=n) (hc:n<=cap) (ht:cap<9223372036854775808) (hb:∀i,l.getD i 0<256) (hB:N<B) (hw:B<=w.heap.size):
  BytesAt w B (some ⟨N,0,none⟩) cap l:=by
 subst hl
 refine⟨hw,hc,ht,hb,Or.inr ⟨N,0,rfl,hB,fun i hi=>?_⟩⟩
 rw[Nat.zero_add]
 apply h.cell
 rw[List.getElem?_append_left (by simpa using hi)]
 exact vM hi
theorem qz:∃i z,Tryz.prog.info? 5=some i/\i.zero=some z/\i.size=1/\i.bytes=1/\z.cells.size=1:=by
 have h:(Tryz.prog.info? 5).map (fun i=>(i.zero.map (·.cells.size),i.size,i.bytes))=some (some 1,1,1):=by kernel_rfl
 cases hi:Tryz.prog.info? 5 with
 | none=>rw[hi]at h;cases h
 | some i=>
  rw[hi]at h
  simp only[Option.map_some,Option.some.injEq,Prod.mk.injEq]at h
  cases hz:i.zero with
  | none=>rw[hz]at h;cases h.1
  | some z=>rw[hz]at h;exact⟨i,z,rfl,hz,h.2.1,h.2.2,by simpa using h.1⟩
theorem NK (w:World) (base n m c:Nat) (v:Value) (xs news:List Value) (ad:Addr) (hown:w.ownsRow base 5 1 v n xs) (hl:news.length=m) (hnews:∀j u,news[j]?=some u->w.cell? (ad.add j)=some u) (h1:∀u∈news,u.oneCell'=true)
  (hn:(n+m)*1<=140737488355328) (hbase:base<=w.heap.size):
  ∃v' w',(Builtin.append_ #[24,24] 24 #[v,.slice (some ad) m c]).run Tryz.prog w=.ok v' w'/\w'.ownsRow base 5 1 v' (n+m) (xs++news)/\w.grownBy w' v.ownBlock:=by
 obtain⟨i,z,hi,hz,hs,hb,hc⟩:=qz
 obtain⟨v',w',hr,ho,hg,_⟩:=run_append_own w base 24 24 5 i z 1 1 (P:=Tryz.prog) Tryz.underlying24 hi hz hs hb hc (by decide) v n xs hown ad m c news (by omega) hnews h1 (by unfold maxLen;omega) hn hbase
 exact⟨v',w',hr,ho,hg⟩
theorem rF {w:World} {base e n:Nat} {v:Value} {xs:List Value} (h:w.ownsRow base e 1 v n xs) (hn:0<n):∃g c,v=.slice (some ⟨g,0,none⟩) n c/\base<=g/\n<=c/\c<=maxLen/\g<w.heap.size:=by
 rcases h.2 with⟨_,h0⟩ |⟨g,c,cur,rfl,hb,hg,hnc,hcm,_⟩
 .omega
 .exact⟨g,c,rfl,hb,hnc,hcm,lt_of_block hg⟩
theorem nH {w:World} {base e n g c:Nat} {xs:List Value} (h:w.ownsRow base e 1 (.slice (some ⟨g,0,none⟩) n c) n xs) {j:Nat} {u:Value} (hu:xs[j]?=some u):w.cell? ⟨g,j,none⟩=some u:=by
 have hl:xs.length=n:=by have:=h.1;omega
 have hj:j<n:=by
  rcases Nat.lt_or_ge j n with h'|h'
  .exact h'
  .rw[List.getElem?_eq_none (by omega)]at hu;cases hu
 rw[h.cellAt j (by omega)];exact hu
theorem wpList_append_run {P:Program} {w:World} {ops:Array Oper} {rest:List Oper} {o:Oper} {a:Act} {Q:Exit->Act->World->Prop} (hgd:o.guard=none) (s x:Operand) (t:TypeId)
  (ho:o.op=.call {callee:=.builtin .append,args:=#[s,x],argTypes:=#[t,t]}) (ht:o.type=t) (v y:Value) (hs:a.eval s=v) (hx:a.eval x=y) (v':Value) (w':World)
  (hr:(Builtin.append_ #[t,t] t #[v,y]).run P w=.ok v' w') (h:wpList P ops Q rest (a.put o.dst v') w'):wpList P ops Q (o:: rest) a w:=by
 refine wpList_plain hgd fun K hK=>?_
 rw[<- ht]at hr
 unfold Oper.wp
 simp[execOp,ho,resolve,invoke,builtin,hs,hx,<- ht,hr,Result.andThen]
 exact hK _ _ h
theorem yF (w:World) (base n c:Nat) (v:Value) (xs:List Value) (hown:w.ownsRow base 5 1 v n xs):
  (Builtin.append_ #[24,24] 24 #[v,.slice none 0 c]).run Tryz.prog w=.ok v w:=by
 obtain⟨i,z,hi,hz,hs,hb,hc⟩:=qz
 rcases hown.2 with⟨rfl,rfl⟩ |⟨g,cap,cur,rfl,_,_,hnc,_⟩
 .simp[Builtin.append_,run_underlying Tryz.underlying24,sizeOf,typeInfo,hi,Builtin.lenOf,Builtin.firstCells]
 .simp[Builtin.append_,run_underlying Tryz.underlying24,sizeOf,typeInfo,hi,Builtin.lenOf,Builtin.firstCells,hnc,storeCells]
theorem rG {w w':World} {base e n:Nat} {v:Value} {xs:List Value} (h:w.ownsRow base e 1 v n xs) (hg:w.grownBy w' none):w'.ownsRow base e 1 v n xs:=
 h.kept hg (by cases v.ownBlock<;>simp)
theorem vN (w:World) (base g n0 c B cap n:Nat) (xs:List Value) (a:Option Addr) (p:List Nat) (hown:w.ownsRow base 5 1 (.slice (some ⟨g,0,none⟩) n0 c) n0 xs) (hn:p.length=n) (hP:BytesAt w B a cap p) (hroom:n0+n<=c):
  ∃w',(Builtin.append_ #[24,24] 24 #[.slice (some ⟨g,0,none⟩) n0 c,.slice a n cap]).run Tryz.prog w=.ok (.slice (some ⟨g,0,none⟩) (n0+n) c) w'/\w'.ownsRow base 5 1 (.slice (some ⟨g,0,none⟩) (n0+n) c) (n0+n) (xs++p.map dD)/\w.grownBy w' (some g):=by
 subst hn
 obtain⟨i,z,hi,hz,hs,hb,hc⟩:=qz
 rcases a with _|ad
 .have h0:p.length=0:=by
   rcases hP.cells with h |⟨_,_,h,_⟩
   .exact h
   .cases h
  obtain rfl:p=[]:=List.eq_nil_of_length_eq_zero h0
  exact⟨w,yF w base n0 cap _ xs hown,by simpa using hown,ah _ _⟩
 .refine run_append_fits w base 24 24 5 i 1 (P:=Tryz.prog) Tryz.underlying24 hi hs g n0 c xs hown ad p.length cap (p.map dD) (by simp) (fun j u hu=>?_) (fun u hu=>?_) hroom
  .rcases hP.cells with h |⟨pb,po,h,_,hc⟩
   .obtain rfl:p=[]:=List.eq_nil_of_length_eq_zero h
    simp at hu
   .cases h
    have hj:j<p.length:=by
     rcases Nat.lt_or_ge j p.length with h|h
     .exact h
     .rw[List.getElem?_eq_none (by simpa using h)]at hu;cases hu
    have hadd:(⟨pb,po,none⟩:Addr).add j=⟨pb,po+j,none⟩:=by unfold Addr.add;split<;>simp_all
    rw[hadd,hc j hj,<- hu,vM hj]
  .obtain⟨x,_,rfl⟩:=List.mem_map.1 hu
   rfl
theorem mV (w:World) (base n0 B cap n:Nat) (v:Value) (xs:List Value) (a:Option Addr) (p:List Nat) (hown:w.ownsRow base 5 1 v n0 xs) (hn:p.length=n) (hP:BytesAt w B a cap p)
  (hb:n0+n<=140737488355328) (hbase:base<=w.heap.size):
  ∃v' w',(Builtin.append_ #[24,24] 24 #[v,.slice a n cap]).run Tryz.prog w=.ok v' w'/\w'.ownsRow base 5 1 v' (n0+n) (xs++p.map dD)/\w.grownBy w' v.ownBlock:=by
 subst hn
 rcases a with _|ad
 .have h0:p.length=0:=by
   rcases hP.cells with h |⟨_,_,h,_⟩
   .exact h
   .cases h
  obtain rfl:p=[]:=List.eq_nil_of_length_eq_zero h0
  exact⟨v,w,yF w base n0 cap _ xs hown,by simpa using hown,ah _ _⟩
 .refine NK w base n0 p.length cap v xs (p.map dD) ad hown (by simp) (fun j u hu=>?_) (fun u hu=>?_) (by omega) hbase
  .rcases hP.cells with h |⟨pb,po,h,_,hc⟩
   .obtain rfl:p=[]:=List.eq_nil_of_length_eq_zero h
    simp at hu
   .cases h
    have hj:j<p.length:=by
     rcases Nat.lt_or_ge j p.length with h|h
     .exact h
     .rw[List.getElem?_eq_none (by simpa using h)]at hu;cases hu
    have hadd:(⟨pb,po,none⟩:Addr).add j=⟨pb,po+j,none⟩:=by unfold Addr.add;split<;>simp_all
    rw[hadd,hc j hj,<- hu,vM hj]
  .obtain⟨x,_,rfl⟩:=List.mem_map.1 hu
   rfl
theorem xD (w:World) (base g n0 c x:Nat) (xs:List Value) (hx:x<256) (hown:w.ownsRow base 5 1 (.slice (some ⟨g,0,none⟩) n0 c) n0 xs) (hroom:n0+1<=c):
  ∃w',(Builtin.append_ #[24,24] 24 #[.slice (some ⟨g,0,none⟩) n0 c,.slice (some ⟨w.heap.size,0,none⟩) 1 1]).run Tryz.prog (w.alloc (.cells #[dD x] 5))=.ok (.slice (some ⟨g,0,none⟩) (n0+1) c) w'/\w'.ownsRow base 5 1 (.slice (some ⟨g,0,none⟩) (n0+1) c) (n0+1) (xs++[dD x])/\w.grownBy w' (some g):=by
 have hb:=aG.new w [dD x] 5
 have hp:BytesAt (w.alloc (.cells #[dD x] 5)) (w.heap.size+1) (some ⟨w.heap.size,0,none⟩) 1 [x]:=
  lq (l:=[x]) (n:=1) (tl:=[]) hb rfl (by omega) (by omega) (fun i=>by cases i<;>simp;omega) (by omega) (by simp)
 obtain⟨w',hr,ho,hg⟩:=vN (w.alloc (.cells #[dD x] 5)) base g n0 c (w.heap.size+1) 1 1 xs _ [x] (hown.alloc _) rfl hp hroom
 exact⟨w',hr,ho,aj (au (ah _ _) _) hg⟩
set_option maxRecDepth 100000 in
theorem zL (a:Option Addr) (n cap lo:Nat) (h:lo<=n):
  ∃a',(∀w,(Instr.slice 24 (.slice a n cap) (some (.int .i64 (lo:Int))) none none).run Tryz.prog w=.ok (.slice a' (n-lo) (cap-lo)) w)/\(lo<cap->∀pb po,a=some ⟨pb,po,none⟩->a'=some ⟨pb,po+lo,none⟩):=by
 obtain⟨j,hj,hs⟩:∃j,Tryz.prog.info? (Tryz.prog.elem 24)=some j/\j.size=1:=by
  have h1:(Tryz.prog.info? (Tryz.prog.elem 24)).map (·.size)=some 1:=by kernel_rfl
  cases hq:Tryz.prog.info? (Tryz.prog.elem 24) with
  | none=>rw[hq]at h1;cases h1
  | some j=>rw[hq]at h1;exact⟨j,rfl,by simpa using h1⟩
 refine⟨if cap=lo then a else a.map (·.add lo),fun w=>?_,?_⟩
 .rw[run_slice_l w 24 a n cap Tryz.underlying24 .i64 _ (by omega) (by omega),Int.toNat_natCast]
  simp[sizeOf,typeInfo,hj,hs,sliced]
 .intro hlt pb po e
  rw[if_neg (by omega),e]
  simp[Addr.add]
end Ow
end
section
open Go.RowKit Ow
namespace Fg
def yG (a:Act):Nat->List Value->Prop
 | _,[]=>True
 | i,v:: r=>a.tmps.getD i undef=v/\yG a (i+1) r
theorem xE {a:Act}:∀(vs:List Value) (i k:Nat) (v:Value),yG a i vs->vs[k]?=some v->a.tmps.getD (i+k) undef=v:=by
 intro vs
 induction vs with
 | nil=>intro i k v _ h;simp at h
 | cons x r ih=>
  intro i k v h hk
  cases k with
  | zero=>simp at hk;subst hk;exact h.1
  | succ k=>have:=ih (i+1) k v h.2 (by simpa using hk);rwa [show i+(k+1)=i+1+k by omega]
theorem gZ {a:Act} {vs:List Value} (hs:a.tmps.size=vs.length) (h:yG a 0 vs) (hd:a.defers=[]):a={tmps:=vs.toArray,defers:=[]}:=by
 have ht:a.tmps=vs.toArray:=by
  apply Array.ext_getElem?
  intro i
  by_cases hi:i<a.tmps.size
  .have h2:i<vs.length:=by omega
   have:=xE vs 0 i vs[i] h (List.getElem?_eq_getElem h2)
   rw[Nat.zero_add]at this
   simp[hi]at this
   rw[Array.getElem?_eq_getElem hi,this]
   simp[h2]
  .rw[Array.getElem?_eq_none (by omega),Array.getElem?_eq_none (by simp;omega)]
 cases a
 simp at ht hd
 rw[ht,hd]
structure It where
 p:Value->World->Prop
 m:∀v w w',p v w->w.grownBy w' none->p v w'
def It.any:It:=⟨fun _ _=>True,fun _ _ _ _ _=>trivial⟩
def It.val (x:Value):It:=⟨fun v _=>v=x,fun _ _ _ h _=>h⟩
def its (L:List It) (d:Nat) (v:Value) (w:World):Prop:=(L.getD d .any).p v w
theorem nk {L:List It} {w w':World} (hg:w.grownBy w' none) (d:Nat) (v:Value) (h:its L d v w):its L d v w':=(L.getD d .any).m _ _ _ h hg
section
variable {P:Program} {ops:Array Oper} {Q:Exit->Act->World->Prop} {L:List It} {w0:World} {a0:Act}
end
end Fg
end
section
open Go Go.RowKit
theorem aG.range {w:World} {B:Nat} {T:TypeId} {L:List Value} (h:aG w B T L) (o:Nat) (cs:List Value) (hL:(L.drop o).take cs.length=cs):w.rangeAt B o cs:=fun j v hv=>by
 have hj:j<cs.length:=(List.getElem?_eq_some_iff.1 hv).1
 refine h.cell ?_
 rw[<- hL,List.getElem?_take_of_lt hj,List.getElem?_drop]at hv
 exact hv
theorem aG.there {w:World} {B:Nat} {T:TypeId} {L:List Value} (h:aG w B T L) (o n:Nat) (hn:o+n<=L.length):w.there B o n:=fun j hj=>by
 have hlt:o+j<L.length:=by omega
 exact⟨by rw[h.cell (List.getElem?_eq_getElem hlt)];rfl,h.free _⟩
def over:List Value->Nat->List Value->List Value
 | L,_,[]=>L
 | L,o,v:: r=>over (L.set o v) (o+1) r
theorem yH:∀(cs L:List Value) (o:Nat),(over L o cs).length=L.length
 | [],_,_=>rfl
 | v:: r,L,o=>by rw[over,yH r];simp
theorem L6:∀(cs L:List Value) (o:Nat),o+cs.length<=L.length->over L o cs=L.take o++cs++L.drop (o+cs.length)
 | [],L,o,_=>by rw[over];simp
 | v:: r,L,o,h=>by
  have hl:o<L.length:=by simp at h;omega
  rw[over,L6 r (L.set o v) (o+1) (by simp at h ⊢;omega)]
  have e1:(L.set o v).take (o+1)=L.take o++[v]:=by
   rw[List.take_set,List.take_succ_eq_append_getElem hl,List.set_append_right _ _ (by simp;omega)]
   simp[Nat.min_eq_left (Nat.le_of_lt hl)]
  have e2:(L.set o v).drop (o+1+r.length)=L.drop (o+(v:: r).length):=by
   rw[List.drop_set_of_lt (by omega),List.length_cons]
   congr 1
   omega
  rw[e1,e2]
  simp
theorem QO (cs L:List Value) (h:L.length=cs.length):over L 0 cs=cs:=by
 rw[L6 cs L 0 (by omega)]
 simp[List.drop_eq_nil_of_le (show L.length<=cs.length by omega)]
theorem aG.setCells:∀{cs:List Value} {w:World} {B:Nat} {T:TypeId} {L:List Value} (_:aG w B T L) (o:Nat),aG (w.setCells B o cs) B T (over L o cs)
 | [],_,_,_,_,h,_=>h
 | v:: r,w,B,T,L,h,o=>by
  rw[World.setCells]
  exact aG.setCells (cs:=r) (h.set o v) (o+1)
theorem aG.bG {cs:List Value} {w:World} {B:Nat} {T:TypeId} {L:List Value} (h:aG w B T L) (hl:L.length=cs.length):aG (w.setCells B 0 cs) B T cs:=by
 have:=h.setCells (cs:=cs) 0
 rwa [QO cs L hl]at this
theorem aG.ak:∀{cs:List Value} {w:World} {B C:Nat} {T:TypeId} {L:List Value} (_:aG w B T L) (o:Nat) (_:C≠B),aG (w.setCells C o cs) B T L
 | [],_,_,_,_,_,h,_,_=>h
 | v:: r,w,B,C,T,L,h,o,hne=>by
  rw[World.setCells]
  exact aG.ak (cs:=r) (h.other (a:=⟨C,o,none⟩) hne v) (o+1) hne
theorem aK:∀{cs:List Value} {a w:World} {B:Nat} (_:a.grownBy w (some B)) (o:Nat),a.grownBy (w.setCells B o cs) (some B)
 | [],_,_,_,h,_=>h
 | v:: r,a,w,B,h,o=>by
  rw[World.setCells]
  exact aK (cs:=r) (aS h o v) (o+1)
theorem aH:∀{cs:List Value} {a w:World} {row:Option Nat} {B:Nat} (_:a.grownBy w row) (_:a.heap.size<=B) (o:Nat),a.grownBy (w.setCells B o cs) row
 | [],_,_,_,_,h,_,_=>h
 | v:: r,a,w,row,B,h,hB,o=>by
  rw[World.setCells]
  exact aH (cs:=r) (aJ h (p:=⟨B,o,none⟩) hB v) hB (o+1)
namespace Fg
def fC (ops:Array Oper) (k d:Nat):Bool:=(List.range k).any fun j=>(ops[j]?).bind (·.dst)==some d
def xG (ops:Array Oper) (k:Nat):Bool:=(List.range ops.size).all fun t=>decide (t<k)||(List.range t).all fun j=>(List.range (t+1)).any fun i=>decide (j<i)&&((ops[i]?).map fun o=>waitsFor o j).getD false
def It.fresh (T:TypeId) (V:List Value) (n0:Nat):It:=⟨fun v w=>∃N,v=.pointer (some ⟨N,0,none⟩)/\n0<=N/\aG w N T V,fun _ _ _ ⟨N,e,hn,h⟩ hg=>⟨N,e,hn,h.grown hg (by simp)⟩⟩
def It.row (T:TypeId) (V:List Value) (n n0:Nat):It:=⟨fun v w=>∃N,v=.slice (some ⟨N,0,none⟩) n n/\n0<=N/\aG w N T V,fun _ _ _ ⟨N,e,hn,h⟩ hg=>⟨N,e,hn,h.grown hg (by simp)⟩⟩
def It.zM (S:Nat) (it:It):Prop:=∀v w w',it.p v w->w.grownBy w' (some S)->it.p v w'
theorem JO (S:Nat):It.any.zM S:=fun _ _ _ _ _=>trivial
theorem JQ (S:Nat) (x:Value):(It.val x).zM S:=fun _ _ _ h _=>h
theorem DY {S n0:Nat} (T:TypeId) (V:List Value) (h:S<n0):(It.fresh T V n0).zM S:=fun _ _ _ ⟨N,e,hn,hb⟩ hg=>⟨N,e,hn,hb.grown hg (fun e=>by have:=Option.some.inj e;omega)⟩
theorem JR {S:Nat} {L:List It} (hL:∀it∈L,it.zM S) {w w':World} (hg:w.grownBy w' (some S)) (d:Nat) (v:Value) (h:its L d v w):its L d v w':=by
 unfold its at *
 by_cases hd:d<L.length
 .rw[List.getD_eq_getElem?_getD,List.getElem?_eq_getElem hd]at *
  exact hL _ (List.getElem_mem hd) v w w' h hg
 .rw[List.getD_eq_getElem?_getD,List.getElem?_eq_none (by omega)]at *
  trivial
section
variable {P:Program} {ops:Array Oper} {Q:Exit->Act->World->Prop} {L:List It} {B:World->Prop} {a0:Act} {ps:List Nat}
structure JF (k:Nat) (ps:List Nat) (L:List It) (B:World->Prop) (a0:Act) (ops:Array Oper) (o:Oper) (a:Act) (w:World):Prop where
 base:B w
 size:a.tmps.size=a0.tmps.size
 ptrs:bN ps a w
 rest:∀d,fC ops k d=false->a.tmps.getD d undef=a0.tmps.getD d undef
 dep:∀d,waits ops o d=true->its L d (a.tmps.getD d undef) w
def aa5 (ps:List Nat) (L:List It) (B:World->Prop) (o:Oper) (a:Act) (w:World) (v:Value) (w':World):Prop:=
 B w'/\(∀d u,its L d u w->its L d u w')/\bN ps (a.put o.dst v) w'/\∀d,o.dst=some d->its L d v w'
def vO (k:Nat) (ps:List Nat) (P:Program) (Q:Exit->Act->World->Prop) (L:List It) (B:World->Prop) (a0:Act) (ops:Array Oper) (i:Nat) (o:Oper):Prop:=
 ∀a w,JF k ps L B a0 ops o a w->ops[i]?=some o->wpOp P ops Q i (fun a' w'=>∃v,a'=a.put o.dst v/\aa5 ps L B o a w v w') a w
theorem xH {d:Nat} (h:(ps.all fun s=>s !=d)=true):∀s∈ps,(some d:Option Tmp)≠some s:=fun s hs e=>by
 have:=(List.all_eq_true.1 h) s hs
 rw[Option.some.inj e]at this
 simp at this
theorem CS {k i:Nat} {o:Oper} {d:Nat} (hd:o.dst=some d) (h:∀a w,JF k ps L B a0 ops o a w->iD ops o a/\∃v w',(execOp a.eval o).run P w=.ok (.value v) w'/\B w'/\(∀d u,its L d u w->its L d u w')/\bN ps (a.put (some d) v) w'/\its L d v w'):vO k ps P Q L B a0 ops i o:=by
 intro a w hF hi
 obtain⟨hw,v,w',hr,hB,JM,hP,hG⟩:=h a w hF
 unfold iD at hw
 unfold wpOp
 simp only[hi,hw,if_true]
 refine Or.inl ?_
 unfold Oper.wp
 rw[hr]
 exact⟨v,rfl,hB,JM,by rw[hd];exact hP,fun d' e=>by rw[hd]at e;cases e;exact hG⟩
theorem FJ {k i:Nat} {o:Oper} {d:Nat} (hd:o.dst=some d)
  (h:∀a w,JF k ps L B a0 ops o a w->iD ops o a/\∃f args,(execOp a.eval o).run P w=.ok (.enter f args) w/\Calls P f args w fun e w'=>∃v,e=.returned v/\B w'/\(∀d u,its L d u w->its L d u w')/\bN ps (a.put (some d) v) w'/\its L d v w'):vO k ps P Q L B a0 ops i o:=by
 intro a w hF hi
 obtain⟨hw,f,args,hr,hc⟩:=h a w hF
 unfold iD at hw
 unfold wpOp
 simp only[hi,hw,if_true]
 refine Or.inl ?_
 unfold Oper.wp
 rw[hr]
 refine Calls.mono hc fun e w' he=>?_
 obtain⟨v,rfl,hB,JM,hP,hG⟩:=he
 exact⟨v,rfl,hB,JM,by rw[hd];exact hP,fun d' e=>by rw[hd]at e;cases e;exact hG⟩
theorem xI {k i:Nat} {o:Oper} {d:Nat} (zf:∀w w',B w->w.grownBy w' none->B w') (hd:o.dst=some d) (hps:(ps.all fun s=>s !=d)=true)
  (h:∀a w,JF k ps L B a0 ops o a w->iD ops o a/\∃v w',(execOp a.eval o).run P w=.ok (.value v) w'/\w.grownBy w' none/\its L d v w'):vO k ps P Q L B a0 ops i o:=
 CS hd fun a w hF=>by
  obtain⟨hw,v,w',hr,hg,hG⟩:=h a w hF
  exact⟨hw,v,w',hr,zf _ _ hF.base hg,fun d u=>nk hg d u,pV hF.ptrs hg.size (xH hps),hG⟩
theorem fU {k i:Nat} {o:Oper} {d:Nat} (zf:∀w w',B w->w.grownBy w' none->B w') (hd:o.dst=some d) (hlt:d<a0.tmps.size)
  (h:∀a w,JF k ps L B a0 ops o a w->iD ops o a/\∃w',(execOp a.eval o).run P w=.ok (.value (.pointer (some ⟨w.heap.size,0,none⟩))) w'/\w.grownBy w' none/\w.heap.size<w'.heap.size/\its L d (.pointer (some ⟨w.heap.size,0,none⟩)) w'):vO k ps P Q L B a0 ops i o:=
 CS hd fun a w hF=>by
  obtain⟨hw,w',hr,hg,hs,hG⟩:=h a w hF
  exact⟨hw,_,w',hr,zf _ _ hF.base hg,fun d u=>nk hg d u,FH hF.ptrs hs (by rw[hF.size];exact hlt),hG⟩
theorem QS {k i:Nat} {o:Oper} {d:Nat} (zf:∀w w',B w->w.grownBy w' none->B w') (hd:o.dst=some d) (hps:(ps.all fun s=>s !=d)=true)
  (h:∀a w,JF k ps L B a0 ops o a w->iD ops o a/\∃f args,(execOp a.eval o).run P w=.ok (.enter f args) w/\Calls P f args w fun e w'=>∃v,e=.returned v/\w.grownBy w' none/\its L d v w'):vO k ps P Q L B a0 ops i o:=
 FJ hd fun a w hF=>by
  obtain⟨hw,f,args,hr,hc⟩:=h a w hF
  refine⟨hw,f,args,hr,hc.mono fun e w' he=>?_⟩
  obtain⟨v,rfl,hg,hG⟩:=he
  exact⟨v,rfl,zf _ _ hF.base hg,fun d u=>nk hg d u,pV hF.ptrs hg.size (xH hps),hG⟩
theorem dS {k i:Nat} {o:Oper} {d:Nat} (hd:o.dst=some d) (hps:(ps.all fun s=>s !=d)=true) (hG:∀w,its L d undef w)
  (h:∀a w,JF k ps L B a0 ops o a w->Region.wanted o (yielded ops a.tmps)=false):vO k ps P Q L B a0 ops i o:=by
 intro a w hF hi
 have hw:=h a w hF
 unfold wpOp
 simp only[hi,hw]
 exact⟨undef,rfl,hF.base,fun _ _ h=>h,pV hF.ptrs (Nat.le_refl _) (fun s hs e=>xH hps s hs (hd▸e)),fun d' e=>by rw[hd]at e;cases e;exact hG w⟩
structure XL (ps:List Nat) (L:List It) (B:World->Prop) (a0:Act) (ops:Array Oper) (k:Nat) (listed:Array Bool) (a:Act) (w:World):Prop where
 base:B w
 size:a.tmps.size=a0.tmps.size
 defers:a.defers=a0.defers
 rest:∀d,fC ops k d=false->a.tmps.getD d undef=a0.tmps.getD d undef
 slots:∀j oj d,ops[j]?=some oj->listed.getD j false=true->oj.dst=some d->its L d (a.tmps.getD d undef) w
 closed:∀j oj,ops[j]?=some oj->listed.getD j false=true->∀e∈oj.after,Region.binds .any e=true->listed.getD e.on false=true
 QT:∀j,k<=j->listed.getD j false=false
 ptrs:bN ps a w
def mG (k:Nat) (ps:List Nat) (P:Program) (Q:Exit->Act->World->Prop) (L:List It) (B:World->Prop) (a0:Act) (ops:Array Oper):Nat->List Oper->Prop
 | _,[]=>True
 | i,o:: r=>((∃d,o.dst=some d)/\vO k ps P Q L B a0 ops i o)/\mG k ps P Q L B a0 ops (i+1) r
theorem zN {k:Nat}:∀(l:List Oper) (i j:Nat) (o:Oper),mG k ps P Q L B a0 ops i l->l[j]?=some o->(∃d,o.dst=some d)/\vO k ps P Q L B a0 ops (i+j) o:=by
 intro l
 induction l with
 | nil=>intro i j o h hk;simp at hk
 | cons x r ih=>
  intro i j o h hk
  cases j with
  | zero=>simp at hk;subst hk;exact h.1
  | succ j=>have:=ih (i+1) j o h.2 (by simpa using hk);rwa [show i+(j+1)=i+1+j by omega]
theorem inn {j:Nat} {oj:Oper} (hj:ops[j]?=some oj):j<ops.size:=by
 rcases Nat.lt_or_ge j ops.size with h'|h'
 .exact h'
 .rw[Array.getElem?_eq_none h']at hj;cases hj
theorem FK {k t:Nat} {listed:Array Bool} (htl:xG ops k=true) (ht:k<=t) (hr:t∈Region.ready .any ops listed)
  (closed:∀j oj,ops[j]?=some oj->listed.getD j false=true->∀e∈oj.after,Region.binds .any e=true->listed.getD e.on false=true):∀j,j<t->listed.getD j false=true:=by
 obtain⟨_,o,hoi,hall⟩:=mem_ready.1 hr
 have h1:=(List.all_eq_true.1 htl) t (List.mem_range.2 (inn hoi))
 simp only[Bool.or_eq_true,decide_eq_true_eq,Nat.not_lt.2 ht,false_or]at h1
 have go:∀n j,j<t->t-j<=n->listed.getD j false=true:=by
  intro n
  induction n with
  | zero=>intro j hj hn;omega
  | succ n ihn=>
   intro j hj hn
   have h2:=(List.all_eq_true.1 h1) j (List.mem_range.2 hj)
   obtain⟨m,hm,h3⟩:=List.any_eq_true.1 h2
   simp only[Bool.and_eq_true,decide_eq_true_eq]at h3
   have hm':=List.mem_range.1 hm
   obtain⟨hjm,h3⟩:=h3
   cases hg:ops[m]? with
   | none=>rw[hg]at h3;cases h3
   | some om=>
    rw[hg]at h3
    simp only[Option.map_some,Option.getD_some]at h3
    obtain⟨q,hq,hb⟩:=Array.any_eq_true.1 h3
    simp only[Bool.and_eq_true,beq_iff_eq]at hb
    by_cases hmt:m=t
    .subst hmt
     rw[hg]at hoi
     cases hoi
     have:=hall _ (Array.getElem_mem hq) hb.1
     rwa [hb.2]at this
    .have:=closed m _ hg (ihn m (by omega) (by omega)) _ (Array.getElem_mem hq) hb.1
     rwa [hb.2]at this
 exact fun j hj=>go _ j hj (Nat.le_refl _)
theorem DZ {k:Nat} {o:Oper} {r:List Oper} {a:Act} {w:World} (hk:ops[k]?=some o) (h:wpList P ops Q (o:: r) a w):wpOp P ops Q k (wpList P ops Q r) a w:=by
 unfold wpOp
 simp only[hk]
 exact h
theorem QU {k0:Nat} (ht:vJ ops=true) (htl:xG ops k0=true):∀(m k fuel:Nat) (listed:Array Bool) (a:Act) (w:World),k0<=k->ops.size=k+m->m<=fuel->listed.size=ops.size->
  (∀j,j<k->listed.getD j false=true)->(∀j,k<=j->listed.getD j false=false)->wpList P ops Q (ops.toList.drop k) a w->wpAny P .any ops Q fuel listed a w:=by
 intro m
 induction m with
 | zero=>
  intro k fuel listed a w hk hs hf hls hall hnot h
  have hd:ops.toList.drop k=[]:=List.drop_eq_nil_of_le (by simp;omega)
  rw[hd]at h
  have hr:Region.ready .any ops listed=[]:=by
   cases hc:Region.ready .any ops listed with
   | nil=>rfl
   | cons x r=>
    obtain⟨h0,o,hoi,_⟩:=mem_ready.1 (show x∈Region.ready .any ops listed by rw[hc];exact List.mem_cons_self ..)
    have hx:=hall x (by have:=inn hoi;omega)
    have hlt:x<listed.size:=by rw[hls];exact inn hoi
    simp[hlt]at h0 hx
    rw[h0]at hx
    cases hx
  cases fuel with
  | zero=>exact⟨hr,h⟩
  | succ f=>exact⟨fun _=>h,fun i hi=>by rw[hr]at hi;cases hi⟩
 | succ m ih=>
  intro k fuel listed a w hk hs hf hls hall hnot h
  obtain⟨f,rfl⟩:∃f,fuel=f+1:=⟨fuel-1,by omega⟩
  have hks:k<ops.size:=by omega
  have closed:∀j oj,ops[j]?=some oj->listed.getD j false=true->∀e∈oj.after,Region.binds .any e=true->listed.getD e.on false=true:=by
   intro j oj hj hl e he hb
   have ht1:=(List.all_eq_true.1 ht) j (List.mem_range.2 (inn hj))
   rw[hj]at ht1
   simp only[Option.map_some,Option.getD_some]at ht1
   have ht2:=(Array.all_eq_true_iff_forall_mem.1 ht1) _ he
   simp only[hb,Bool.not_true,Bool.false_or,decide_eq_true_eq]at ht2
   have hjk:j<k:=by
    rcases Nat.lt_or_ge j k with h'|h'
    .exact h'
    .rw[hnot j h']at hl;cases hl
   exact hall _ (by omega)
  refine⟨fun hr=>?_,fun i hi=>?_⟩
  .have:=lg ht hls hr k hks
   rw[hnot k (Nat.le_refl _)]at this
   cases this
  .obtain⟨h0,o,hoi,_⟩:=mem_ready.1 hi
   have hik:i=k:=by
    rcases Nat.lt_trichotomy i k with h'|h'|h'
    .have hx:=hall i h'
     have hlt:i<listed.size:=by rw[hls];exact inn hoi
     simp[hlt]at h0 hx
     rw[h0]at hx
     cases hx
    .exact h'
    .have:=FK htl (by omega) hi closed k h'
     rw[hnot k (Nat.le_refl _)]at this
     cases this
   subst hik
   have hd:ops.toList.drop i=o:: ops.toList.drop (i+1):=by
    rw[List.drop_eq_getElem_cons (by simpa using hks)]
    congr 1
    rw[Array.getElem?_eq_getElem hks]at hoi
    simpa using Option.some.inj hoi
   rw[hd]at h
   refine wpOp_mono (fun a' w' h'=>?_) (DZ hoi h)
   refine ih (i+1) f _ a' w' (by omega) (by omega) (by omega) (by simpa using hls) (fun j hj=>?_) (fun j hj=>?_) h'
   .by_cases e:i=j
    .subst e
     have hlt:i<listed.size:=by rw[hls];exact hks
     simp[hlt]
    .rw[getD_set_ne false e];exact hall j (by omega)
   .rw[getD_set_ne false (by omega)];exact hnot j (by omega)
theorem NM {k:Nat} (ht:vJ ops=true) (ho:once (ops.extract 0 k) a0.tmps.size=true) (htl:xG ops k=true) (hk:k<=ops.size)
  (steps:mG k ps P Q L B a0 ops 0 (ops.toList.take k))
  (fin:∀a w,B w->a.tmps.size=a0.tmps.size->a.defers=a0.defers->(∀d,fC ops k d=false->a.tmps.getD d undef=a0.tmps.getD d undef)->
   (∀d,fC ops k d=true->its L d (a.tmps.getD d undef) w)->bN ps a w->wpList P ops Q (ops.toList.drop k) a w):
  ∀(fuel:Nat) (listed:Array Bool) (a:Act) (w:World),listed.size=ops.size->jg ops listed<=fuel->XL ps L B a0 ops k listed a w->wpAny P .any ops Q fuel listed a w:=by
 have QV:∀(fuel:Nat) (listed:Array Bool) (a:Act) (w:World),listed.size=ops.size->ops.size-k<=fuel->XL ps L B a0 ops k listed a w->(∀j,j<k->listed.getD j false=true)->wpAny P .any ops Q fuel listed a w:=by
  intro fuel listed a w hs hf hF hall
  refine QU ht htl (ops.size-k) k fuel listed a w (Nat.le_refl _) (by omega) hf hs hall hF.QT (fin a w hF.base hF.size hF.defers hF.rest (fun d hd=>?_) hF.ptrs)
  obtain⟨j,hj,hb⟩:=List.any_eq_true.1 hd
  have hjk:=List.mem_range.1 hj
  have hg:ops[j]?=some ops[j]:=Array.getElem?_eq_getElem (by omega)
  rw[hg]at hb
  exact hF.slots j _ d hg (hall j hjk) (by simpa using hb)
 have hcount:∀(listed:Array Bool),(∀j,k<=j->listed.getD j false=false)->listed.size=ops.size->ops.size-k<=jg ops listed:=by
  intro listed hn hs
  unfold jg
  have hsub:(List.range' k (ops.size-k)).length<=((List.range ops.size).filter fun i=>!listed.getD i true).length:=by
   have hp:List.Sublist (List.range' k (ops.size-k)) ((List.range ops.size).filter fun i=>!listed.getD i true):=by
    have h1:List.Sublist (List.range' k (ops.size-k)) (List.range ops.size):=by
     have e:List.range ops.size=List.range' 0 k++List.range' k (ops.size-k):=by
      rw[List.range_eq_range',show ops.size=k+(ops.size-k) by omega,<- List.range'_append_1]
      simp
     rw[e]
     exact List.sublist_append_right _ _
    have h2:=h1.filter fun i=>!listed.getD i true
    have h3:(List.range' k (ops.size-k)).filter (fun i=>!listed.getD i true)=List.range' k (ops.size-k):=by
     rw[List.filter_eq_self]
     intro x hx
     have hx':=List.mem_range'_1.1 hx
     have:=hn x hx'.1
     have hlt:x<listed.size:=by omega
     simp[hlt]at this ⊢
     exact this
    rwa [h3]at h2
   exact hp.length_le
  simpa using hsub
 intro fuel
 induction fuel with
 | zero=>
  intro listed a w hs hu hF
  have hc:=hcount listed hF.QT hs
  refine QV 0 listed a w hs (by omega) hF (fun j hj=>?_)
  have hr:Region.ready .any ops listed=[]:=by
   cases hc:Region.ready .any ops listed with
   | nil=>rfl
   | cons x r=>
    have:=jc (ops:=ops) (listed:=listed) (i:=x) (by rw[hc];exact List.mem_cons_self ..)
    omega
  exact lg ht hs hr j (by omega)
 | succ fuel ih=>
  intro listed a w hs hu hF
  by_cases hdone:∀j,j<k->listed.getD j false=true
  .have hc:=hcount listed hF.QT hs
   exact QV (fuel+1) listed a w hs (by omega) hF hdone
  refine⟨fun hr=>?_,fun i hi=>?_⟩
  .exact absurd (fun j hj=>lg ht hs hr j (by omega)) hdone
  obtain⟨h0,o,hoi,hall⟩:=mem_ready.1 hi
  have hik:i<k:=by
   rcases Nat.lt_or_ge i k with h'|h'
   .exact h'
   .exact absurd (fun j hj=>FK htl h' hi hF.closed j (by omega)) hdone
  have hst:=zN (ops.toList.take k) 0 i o steps (by rw[List.getElem?_take_of_lt hik,Array.getElem?_toList];exact hoi)
  rw[Nat.zero_add]at hst
  obtain⟨⟨d,hd⟩,hst⟩:=hst
  have hex:∀j,j<k->(ops.extract 0 k)[j]?=ops[j]?:=fun j hj=>by
   rw[Array.getElem?_extract_of_lt (by omega)];simp
  have hat:JF k ps L B a0 ops o a w:=⟨hF.base,hF.size,hF.ptrs,hF.rest,fun d hd=>by
    obtain⟨k,hk,hb⟩:=Array.any_eq_true.1 hd
    simp only[Bool.and_eq_true,beq_iff_eq]at hb
    have hl:=hall _ (Array.getElem_mem hk) hb.1
    cases hx:ops[o.after[k].on]? with
    | none=>rw[hx]at hb;cases hb.2
    | some oj=>rw[hx]at hb;exact hF.slots _ oj d hx hl hb.2⟩
  refine wpOp_mono (fun a' w' h=>?_) (hst a w hat hoi)
  obtain⟨v,rfl,hB,JM,hPt,hG⟩:=h
  have hlt:=jc hi
  refine ih _ _ _ (by simpa using hs) (by omega) ⟨hB,?_,?_,?_,?_,?_,?_,hPt⟩
  .rw[<- hF.size];cases o.dst<;>simp[Act.put]
  .rw[<- hF.defers];cases o.dst<;>simp[Act.put]
  .intro d hd
   rw[<- hF.rest d hd]
   have hne:o.dst≠some d:=by
    intro e
    have:fC ops k d=true:=List.any_eq_true.2 ⟨i,List.mem_range.2 hik,by rw[hoi];simpa using e⟩
    rw[hd]at this
    cases this
   exact nG hne
  .intro j oj d hj hl hd
   have hjk:j<k\/j=i:=by
    by_cases e:i=j
    .exact Or.inr e.symm
    .rw[getD_set_ne false e]at hl
     rcases Nat.lt_or_ge j k with h'|h'
     .exact Or.inl h'
     .rw[hF.QT j h']at hl;cases hl
   by_cases e:i=j
   .subst e
    rw[hoi]at hj
    cases hj
    have hd2:=vL ho ((hex i hik).trans hoi) hd
    rw[<- hF.size]at hd2
    have hG:=hG _ hd
    rw[hd]
    simpa[Act.put,hd2] using hG
   .rw[getD_set_ne false e]at hl
    have h1:=hF.slots j oj d hj hl hd
    have hv:(a.put o.dst v).tmps.getD d undef=a.tmps.getD d undef:=by
     cases hod:o.dst with
     | none=>rfl
     | some d'=>
      have:=qp ho ((hex i hik).trans hoi) ((hex j (by omega)).trans hj) e hod
      rw[hd]at this
      simp[Act.put,Array.getElem?_setIfInBounds_ne (show d'≠d from fun e=>this (by rw[e]))]
    rw[hv]
    exact JM d _ h1
  .intro j oj hj hl e he hb
   by_cases ei:i=j
   .subst ei
    rw[hoi]at hj
    cases hj
    exact getD_set_true (hall e he hb)
   .rw[getD_set_ne false ei]at hl
    exact getD_set_true (hF.closed j oj hj hl e he hb)
  .intro j hj
   rw[getD_set_ne false (by omega)];exact hF.QT j hj
theorem jC {id:Nat} {w:World} (L:List It) (B:World->Prop) (k:Nat) (hB0:B w.drew) (hm:P.follows .mixedOrders=true) (ht:vJ ops=true) (ho:once (ops.extract 0 k) a0.tmps.size=true) (htl:xG ops k=true) (hk:k<=ops.size) (hps:bN ps a0 w.drew)
  (steps:mG k ps P Q L B a0 ops 0 (ops.toList.take k))
  (fin:∀a w',B w'->a.tmps.size=a0.tmps.size->a.defers=a0.defers->(∀d,fC ops k d=false->a.tmps.getD d undef=a0.tmps.getD d undef)->
   (∀d,fC ops k d=true->its L d (a.tmps.getD d undef) w')->bN ps a w'->wpList P ops Q (ops.toList.drop k) a w'):(Code.region id ops true).wp P Q a0 w:=
 wp_region_any hm (NM ht ho htl hk steps fin ops.size _ a0 _ (by simp) (by unfold jg;exact Nat.le_trans (List.length_filter_le _ _) (by simp))
  ⟨hB0,rfl,rfl,fun _ _=>rfl,fun j oj d _ hl _=>by
   by_cases h:j<ops.size<;>simp[h]at hl,fun j oj _ hl=>by
   by_cases h:j<ops.size<;>simp[h]at hl,fun j _=>by
   by_cases h:j<ops.size<;>simp[h],hps⟩)
theorem D5 {k:Nat} {o:Oper} {r:List Oper} {a:Act} {w:World} (hk:ops[k]?=some o) (h:wpOp P ops Q k (wpList P ops Q r) a w):wpList P ops Q (o:: r) a w:=by
 unfold wpOp at h
 simp only[hk]at h
 exact h
theorem iG {id:Nat} {w:World} (L:List It) (B:World->Prop) (k:Nat) (hB0:B w) (ht:vJ ops=true) (ho:once (ops.extract 0 k) a0.tmps.size=true) (hk:k<=ops.size) (hps:bN ps a0 w)
  (steps:mG k ps P Q L B a0 ops 0 (ops.toList.take k))
  (fin:∀a w',B w'->a.tmps.size=a0.tmps.size->a.defers=a0.defers->(∀d,fC ops k d=false->a.tmps.getD d undef=a0.tmps.getD d undef)->
   (∀d,fC ops k d=true->its L d (a.tmps.getD d undef) w')->bN ps a w'->wpList P ops Q (ops.toList.drop k) a w'):(Code.region id ops false).wp P Q a0 w:=by
 refine wp_region_list ?_
 have go:∀(m i:Nat) (a:Act) (w':World),i+m=k->B w'->a.tmps.size=a0.tmps.size->a.defers=a0.defers->(∀d,fC ops k d=false->a.tmps.getD d undef=a0.tmps.getD d undef)->
   (∀j oj d,j<i->ops[j]?=some oj->oj.dst=some d->its L d (a.tmps.getD d undef) w')->bN ps a w'->wpList P ops Q (ops.toList.drop i) a w':=by
  intro m
  induction m with
  | zero=>
   intro i a w' hi hg hs hdf hr hsl hpt
   have hi':i=k:=by omega
   subst hi'
   refine fin a w' hg hs hdf hr (fun d hd=>?_) hpt
   obtain⟨j,hj,hb⟩:=List.any_eq_true.1 hd
   have hjk:=List.mem_range.1 hj
   have hgj:ops[j]?=some ops[j]:=Array.getElem?_eq_getElem (by omega)
   rw[hgj]at hb
   exact hsl j _ d hjk hgj (by simpa using hb)
  | succ m ih=>
   intro i a w' hi hg hs hdf hr hsl hpt
   have hik:i<k:=by omega
   have hil:i<ops.size:=by omega
   have hoi:ops[i]?=some ops[i]:=Array.getElem?_eq_getElem hil
   have hst:=zN (ops.toList.take k) 0 i ops[i] steps (by rw[List.getElem?_take_of_lt hik,Array.getElem?_toList];exact hoi)
   rw[Nat.zero_add]at hst
   obtain⟨⟨d,hd⟩,hst⟩:=hst
   have hex:∀j,j<k->(ops.extract 0 k)[j]?=ops[j]?:=fun j hj=>by
    rw[Array.getElem?_extract_of_lt (by omega)];simp
   have hat:JF k ps L B a0 ops ops[i] a w':=⟨hg,hs,hpt,hr,fun d hd=>by
     obtain⟨q,hq,hb⟩:=Array.any_eq_true.1 hd
     simp only[Bool.and_eq_true,beq_iff_eq]at hb
     have ht1:=(List.all_eq_true.1 ht) i (List.mem_range.2 hil)
     rw[hoi]at ht1
     simp only[Option.map_some,Option.getD_some]at ht1
     have ht2:=(Array.all_eq_true_iff_forall_mem.1 ht1) _ (Array.getElem_mem hq)
     simp only[hb.1,Bool.not_true,Bool.false_or,decide_eq_true_eq]at ht2
     cases hx:ops[ops[i].after[q].on]? with
     | none=>rw[hx]at hb;cases hb.2
     | some oj=>rw[hx]at hb;exact hsl _ oj d ht2 hx hb.2⟩
   have hdr:ops.toList.drop i=ops[i]:: ops.toList.drop (i+1):=by
    rw[List.drop_eq_getElem_cons (by simpa using hil)]
    simp
   rw[hdr]
   refine D5 hoi (wpOp_mono (fun a' w'' h=>?_) (hst a w' hat hoi))
   obtain⟨v,rfl,hB,JM,hPt,hG⟩:=h
   refine ih (i+1) _ _ (by omega) hB ?_ ?_ ?_ ?_ hPt
   .rw[<- hs];cases ops[i].dst<;>simp[Act.put]
   .rw[<- hdf];cases ops[i].dst<;>simp[Act.put]
   .intro d hd
    rw[<- hr d hd]
    have hne:ops[i].dst≠some d:=by
     intro e
     have:fC ops k d=true:=List.any_eq_true.2 ⟨i,List.mem_range.2 hik,by rw[hoi];simpa using e⟩
     rw[hd]at this
     cases this
    exact nG hne
   .intro j oj d' hj hgj hd'
    by_cases e:i=j
    .subst e
     rw[hoi]at hgj
     cases hgj
     have hd2:=vL ho ((hex i hik).trans hoi) hd'
     rw[<- hs]at hd2
     have hG:=hG _ hd'
     rw[hd']
     simpa[Act.put,hd2] using hG
    .have h1:=hsl j oj d' (by omega) hgj hd'
     have hv:(a.put ops[i].dst v).tmps.getD d' undef=a.tmps.getD d' undef:=by
      cases hod:ops[i].dst with
      | none=>rfl
      | some d''=>
       have:=qp ho ((hex i hik).trans hoi) ((hex j (by omega)).trans hgj) e hod
       rw[hd']at this
       simp[Act.put,Array.getElem?_setIfInBounds_ne (show d''≠d' from fun e=>this (by rw[e]))]
     rw[hv]
     exact JM d' _ h1
 have:=go k 0 a0 w (by omega) hB0 rfl rfl (fun _ _=>rfl) (fun j _ _ hj=>by omega) hps
 simpa using this
theorem nI {a:Act} {w:World} (h:(ps.all fun s=>match a.tmps.getD s undef with | .pointer _=>false|_=>true)=true):bN ps a w:=fun s hs C e=>by
 have:=(List.all_eq_true.1 h) s hs
 rw[e]at this
 cases this
def jD (l:List Value) (w:World):Prop:=∀(i C:Nat),l[i]?=some (.pointer (some ⟨C,0,none⟩))->C<w.heap.size/\∀(j:Nat),j≠i->l[j]?≠some (.pointer (some ⟨C,0,none⟩))
theorem qA {a:Act} {w:World} {l:List Value} (hl:l=ps.map fun s=>a.tmps.getD s undef) (h:jD l w):bN ps a w:=by
 subst hl
 intro s hs C e
 obtain⟨i,hi,rfl⟩:=List.mem_iff_getElem.1 hs
 have hg:(ps.map fun s=>a.tmps.getD s undef)[i]?=some (.pointer (some ⟨C,0,none⟩)):=by
  rw[List.getElem?_map,List.getElem?_eq_getElem hi,Option.map_some,e]
 refine⟨(h i C hg).1,fun t ht hne e2=>?_⟩
 obtain⟨j,hj,rfl⟩:=List.mem_iff_getElem.1 ht
 refine (h i C hg).2 j (fun e3=>hne (by subst e3;rfl)) ?_
 rw[List.getElem?_map,List.getElem?_eq_getElem hj,Option.map_some,e2]
theorem jE (l:List Value) (w:World) (h:(l.all fun v=>match v with | .pointer _=>false|_=>true)=true):jD l w:=fun i C e=>by
 have:=(List.all_eq_true.1 h) _ (List.mem_of_getElem? e)
 cases this
theorem ny {N:Nat} {w:World} (h:N<w.heap.size):jD [.pointer (some ⟨N,0,none⟩)] w:=fun i C e=>by
 match i,e with
 | 0,e=>
  cases e
  refine⟨h,fun j hj=>?_⟩
  match j,hj with
  | j+1,_=>simp
theorem FL {A B C:Nat} {w:World} (a:A<w.heap.size) (b:B<w.heap.size) (c:C<w.heap.size) (ab:A≠B) (ac:A≠C) (bc:B≠C):jD [.pointer (some ⟨A,0,none⟩),.pointer (some ⟨B,0,none⟩),.pointer (some ⟨C,0,none⟩)] w:=fun i X e=>by
 match i,e with
 | 0,e=>
  cases e
  refine⟨a,fun j hj=>?_⟩
  match j,hj with
  | 1,_=>simp<;>omega
  | 2,_=>simp<;>omega
  | j+3,_=>simp
 | 1,e=>
  cases e
  refine⟨b,fun j hj=>?_⟩
  match j,hj with
  | 0,_=>simp<;>omega
  | 2,_=>simp<;>omega
  | j+3,_=>simp
 | 2,e=>
  cases e
  refine⟨c,fun j hj=>?_⟩
  match j,hj with
  | 0,_=>simp<;>omega
  | 1,_=>simp<;>omega
  | j+3,_=>simp
theorem jD.mono {l:List Value} {w w':World} (h:jD l w) (hs:w.heap.size<=w'.heap.size):jD l w':=fun i C e=>⟨Nat.lt_of_lt_of_le (h i C e).1 hs,(h i C e).2⟩
theorem zO {l:List Value} {w:World} (h:jD l w):jD l w.drew:=h
theorem aL {o:Oper} {r:List Oper} {a:Act} {w w':World} {v:Value} (hg:o.guard=none) (hr:(execOp a.eval o).run P w=.ok (.value v) w') (h:wpList P ops Q r (a.put o.dst v) w'):wpList P ops Q (o:: r) a w:=by
 refine wpList_plain hg fun K hK=>?_
 unfold Oper.wp
 rw[hr]
 exact hK _ _ h
theorem aV {o:Oper} {r:List Oper} {a:Act} {w w':World} (hg:o.guard=none) (hd:o.dst=none) (hr:(execOp a.eval o).run P w=.ok .skip w') (h:wpList P ops Q r a w'):wpList P ops Q (o:: r) a w:=by
 refine wpList_plain hg fun K hK=>?_
 unfold Oper.wp
 rw[hr]
 have e:a.put o.dst undef=a:=by rw[hd];rfl
 show K (a.put o.dst undef) w'
 rw[e]
 exact hK _ _ h
theorem bP {o:Oper} {r:List Oper} {a:Act} {w:World} {f:FuncId} {args:Array Value} (hg:o.guard=none) (hr:(execOp a.eval o).run P w=.ok (.enter f args) w)
  (hc:Calls P f args w fun e w'=>∃v,e=.returned v/\wpList P ops Q r (a.put o.dst v) w'):wpList P ops Q (o:: r) a w:=by
 refine wpList_plain hg fun K hK=>?_
 unfold Oper.wp
 rw[hr]
 refine Calls.mono hc fun e w' he=>?_
 obtain⟨v,rfl,h⟩:=he
 exact hK _ _ h
theorem run_load {ρ:Operand->Value} {o:Oper} {w:World} {T:TypeId} {x:Operand} {b off:Nat} {cs:List Value} {d:TypeDesc} (ho:o.op=.load T x) (hx:ρ x=.pointer (some ⟨b,off,none⟩)) (hc:w.rangeAt b off cs)
  (hu:P.underlying T=some d) (hd:d.isRow=true) (hi:(P.info? T).map (·.size)=some cs.length):(execOp ρ o).run P w=.ok (.value (.agg cs.toArray)) w:=by
 unfold execOp
 simp only[ho,hx,Instr.loadAt,Instr.sureAddr,Sem.run_bind,Sem.run_pure,Result.andThen_ok,run_loadVar_mid w b off T cs d hc hu hd hi]
theorem run_store {ρ:Operand->Value} {o:Oper} {w:World} {T:TypeId} {x y:Operand} {b off:Nat} {cs:List Value} (ho:o.op=.store T x y) (hx:ρ x=.pointer (some ⟨b,off,none⟩)) (hy:ρ y=.agg cs.toArray)
  (ht:w.there b off cs.length) (hi:(P.info? T).map (·.size)=some cs.length) (h1:cs.all (·.oneCell')=true):(execOp ρ o).run P w=.ok .skip (w.setCells b off cs):=by
 unfold execOp
 simp only[ho,hx,hy,Instr.storeAt,Instr.sureAddr,Sem.run_bind,Sem.run_pure,Result.andThen_ok,run_storeVar_mid w b off T cs.toArray (by simpa using ht) (by simpa using hi) (by simpa using h1)]
theorem run_move {ρ:Operand->Value} {o:Oper} {w:World} {x:Operand} {v:Value} (ho:o.op=.move x) (hx:ρ x=v):(execOp ρ o).run P w=.ok (.value v) w:=by
 unfold execOp
 simp only[ho,hx,Sem.run_pure]
theorem run_assign {ρ:Operand->Value} {o:Oper} {w:World} {x:Operand} {v:Value} (ho:o.op=.assign x) (hx:ρ x=v):(execOp ρ o).run P w=.ok (.value v) w:=by
 unfold execOp
 simp only[ho,hx,Sem.run_pure]
theorem bV {ρ:Operand->Value} {o:Oper} {w:World} {x:Operand} {p:Addr} (ho:o.op=.nilCheck x) (hx:ρ x=.pointer (some p)):(execOp ρ o).run P w=.ok (.value (.pointer (some p))) w:=by
 unfold execOp
 simp only[ho,hx,Sem.run_pure]
theorem aF {ρ:Operand->Value} {o:Oper} {w:World} {t:TypeId} {f:Nat} {x:Operand} {u v:Value} (ho:o.op=.fieldAddr t x f) (hx:ρ x=u) (hr:(Instr.fieldAt t u f).run P w=.ok v w):(execOp ρ o).run P w=.ok (.value v) w:=by
 unfold execOp
 simp only[ho,hx,Sem.run_bind,Sem.run_pure,Result.andThen_ok,hr]
theorem xJ {ρ:Operand->Value} {o:Oper} {w:World} {t:TypeId} {f:Nat} {x:Operand} {u v:Value} (ho:o.op=.field t x f) (hx:ρ x=u) (hr:(Instr.field t u f).run P w=.ok v w):(execOp ρ o).run P w=.ok (.value v) w:=by
 unfold execOp
 simp only[ho,hx,Sem.run_bind,Sem.run_pure,Result.andThen_ok,hr]
theorem run_build {ρ:Operand->Value} {o:Oper} {w:World} {t:TypeId} {parts:Array (Nat×Operand)} {vs:Array (Nat×Value)} {v:Value} (ho:o.op=.build t parts) (hx:(parts.map fun (i,x)=>(i,ρ x))=vs) (hr:(Instr.build t vs).run P w=.ok v w):(execOp ρ o).run P w=.ok (.value v) w:=by
 unfold execOp
 simp only[ho,hx,Sem.run_bind,Sem.run_pure,Result.andThen_ok,hr]
theorem run_buildSlice {ρ:Operand->Value} {o:Oper} {w w':World} {t:TypeId} {len:Nat} {parts:Array (Nat×Operand)} {vs:Array (Nat×Value)} {v:Value} (ho:o.op=.buildSlice t len parts) (hx:(parts.map fun (i,x)=>(i,ρ x))=vs) (hr:(Instr.buildSlice t len vs).run P w=.ok v w'):(execOp ρ o).run P w=.ok (.value v) w':=by
 unfold execOp
 simp only[ho,hx,Sem.run_bind,Sem.run_pure,Result.andThen_ok,hr]
theorem bY {ρ:Operand->Value} {o:Oper} {w:World} {i:Nat} {x:Operand} {u v:Value} (ho:o.op=.extract x i) (hx:ρ x=u) (hr:(Instr.extract u i).run P w=.ok v w):(execOp ρ o).run P w=.ok (.value v) w:=by
 unfold execOp
 simp only[ho,hx,Sem.run_bind,Sem.run_pure,Result.andThen_ok,hr]
theorem aI {w:World} {f:FuncId} {fn:Func} {vs:Array Value} (hf:P.funcs[f]?=some fn) (hn:(fn.name== "runtime.NumGoroutine")=false) (hb:fn.body.isNone=false):(callFunc f vs).run P w=.ok (.enter f vs) w:=by
 have hn':¬fn.name= "runtime.NumGoroutine":=by simpa using hn
 have hb':¬fn.body=none:=by rintro e;rw[e]at hb;cases hb
 simp[callFunc,hf,hn',hb']
theorem aN {ρ:Operand->Value} {o:Oper} {w:World} {x:Operand} {f:FuncId} {args:Array Operand} {tys:Array TypeId} {vs:Array Value} (ho:o.op=.call {callee:=.value x,args:=args,argTypes:=tys}) (hf:ρ x=.func (.func f) #[] #[]) (hv:args.map ρ=vs)
  (hc:(callFunc f vs).run P w=.ok (.enter f vs) w):(execOp ρ o).run P w=.ok (.enter f vs) w:=by
 unfold execOp
 simp only[ho]
 unfold resolve
 simp only[hv,hf]
 go_simp
end
def It.room (T:TypeId) (n n0:Nat):It:=⟨fun v w=>∃N,v=.pointer (some ⟨N,0,none⟩)/\n0<=N/\∃V:List Value,V.length=n/\aG w N T V,fun _ _ _ ⟨N,e,hn,V,hl,h⟩ hg=>⟨N,e,hn,V,hl,h.grown hg (by simp)⟩⟩
def It.Over (it:It):Prop:=∀v w (N:Nat) (T:TypeId) (V cs:List Value),aG w N T V->V.length=cs.length->it.p v w->it.p v (w.setCells N 0 cs)
def vP (T:TypeId) (cs:List Value) (_:Nat) (u:Value) (w:World):Prop:=∃N,u=.pointer (some ⟨N,0,none⟩)/\aG w N T cs
section
variable {P:Program} {ops:Array Oper} {Q:Exit->Act->World->Prop} {L:List It} {W:World} {a0:Act} {ps:List Nat} {p:Nat} {T:TypeId} {cs:List Value}
abbrev AtM (W:World) (ps:List Nat) (p:Nat) (T:TypeId) (cs:List Value) (L:List It) (a0:Act) (ops:Array Oper) (o:Oper) (a:Act) (w:World):Prop:=lJ (its L) (fun _=>p) (vP T cs) (fun w=>W.grownBy w none) ps a0 ops o a w
abbrev L8 (W:World) (ps:List Nat) (p:Nat) (T:TypeId) (cs:List Value) (P:Program) (Q:Exit->Act->World->Prop) (L:List It) (a0:Act) (ops:Array Oper) (i:Nat) (o:Oper):Prop:=ni P Q (its L) (fun _=>p) (vP T cs) (fun w=>W.grownBy w none) ps a0 ops i o
theorem pG {w w':World} (hg:w.grownBy w' none) (j:Nat) (u:Value) (h:vP T cs j u w):vP T cs j u w':=by
 obtain⟨N,e,hb⟩:=h
 exact⟨N,e,hb.grown hg (by simp)⟩
theorem uM {i:Nat} {o:Oper} {d:Nat} (hd:o.dst=some d) (hps:(ps.all fun s=>s !=d)=true)
  (h:∀a w,AtM W ps p T cs L a0 ops o a w->iD ops o a/\∃v w',(execOp a.eval o).run P w=.ok (.value v) w'/\w.grownBy w' none/\its L d v w'):L8 W ps p T cs P Q L a0 ops i o:=
 yE hd fun a w hF=>by
  obtain⟨hw,v,w',hr,hg,hG⟩:=h a w hF
  exact⟨hw,v,w',hr,aj hF.base hg,fun d u=>nk hg d u,fun j u=>pG hg j u,pV hF.ptrs hg.size (xH hps),hG⟩
theorem YB {i:Nat} {o:Oper} {d:Nat} (hd:o.dst=some d) (hlt:d<a0.tmps.size)
  (h:∀a w,AtM W ps p T cs L a0 ops o a w->iD ops o a/\∃w',(execOp a.eval o).run P w=.ok (.value (.pointer (some ⟨w.heap.size,0,none⟩))) w'/\w.grownBy w' none/\w.heap.size<w'.heap.size/\its L d (.pointer (some ⟨w.heap.size,0,none⟩)) w'):L8 W ps p T cs P Q L a0 ops i o:=
 yE hd fun a w hF=>by
  obtain⟨hw,w',hr,hg,hs,hG⟩:=h a w hF
  exact⟨hw,_,w',hr,aj hF.base hg,fun d u=>nk hg d u,fun j u=>pG hg j u,FH hF.ptrs hs (by rw[hF.size];exact hlt),hG⟩
theorem CU {i:Nat} {o:Oper} {d:Nat} (hd:o.dst=some d) (hps:(ps.all fun s=>s !=d)=true)
  (h:∀a w,AtM W ps p T cs L a0 ops o a w->iD ops o a/\∃f args,(execOp a.eval o).run P w=.ok (.enter f args) w/\Calls P f args w fun e w'=>∃v,e=.returned v/\w.grownBy w' none/\its L d v w'):L8 W ps p T cs P Q L a0 ops i o:=
 JN hd fun a w hF=>by
  obtain⟨hw,f,args,hr,hc⟩:=h a w hF
  refine⟨hw,f,args,hr,hc.mono fun e w' he=>?_⟩
  obtain⟨v,rfl,hg,hG⟩:=he
  exact⟨v,rfl,aj hF.base hg,fun d u=>nk hg d u,fun j u=>pG hg j u,pV hF.ptrs hg.size (xH hps),hG⟩
theorem QW:It.any.Over:=fun _ _ _ _ _ _ _ _ _=>trivial
theorem QX (x:Value):(It.val x).Over:=fun _ _ _ _ _ _ _ _ h=>h
theorem NP (T:TypeId) (n n0:Nat):(It.room T n n0).Over:=fun v w N T' V cs hb hl ⟨N',e,hn,V',hl',hb'⟩=>by
 by_cases he:N=N'
 .subst he
  unfold aG at hb hb'
  rw[hb]at hb'
  cases hb'
  exact⟨N,e,hn,over V 0 cs,by rw[yH];exact hl',aG.setCells hb 0⟩
 .exact⟨N',e,hn,V',hl',hb'.ak 0 he⟩
theorem QY {L:List It} (hL:∀it∈L,it.Over) {w:World} {N:Nat} {T:TypeId} {V cs:List Value} (hb:aG w N T V) (hl:V.length=cs.length) (d:Nat) (v:Value) (h:its L d v w):its L d v (w.setCells N 0 cs):=by
 unfold its at *
 by_cases hd:d<L.length
 .rw[List.getD_eq_getElem?_getD,List.getElem?_eq_getElem hd]at *
  exact hL _ (List.getElem_mem hd) v w N T V cs hb hl h
 .rw[List.getD_eq_getElem?_getD,List.getElem?_eq_none (by omega)]at *
  trivial
theorem YC {i:Nat} {o:Oper} {x y:Operand} (hd:o.dst=none) (ho:o.op=.store T x y) (hL:∀it∈L,it.Over) (hi:(P.info? T).map (·.size)=some cs.length) (h1:cs.all (·.oneCell')=true)
  (h:∀a w,AtM W ps p T cs L a0 ops o a w->iD ops o a/\∃N,a.tmps.getD p undef=.pointer (some ⟨N,0,none⟩)/\a.eval x=.pointer (some ⟨N,0,none⟩)/\a.eval y=.agg cs.toArray/\W.heap.size<=N/\∃V:List Value,V.length=cs.length/\aG w N T V):L8 W ps p T cs P Q L a0 ops i o:=
 FI hd fun a w hF=>by
  obtain⟨hw,N,hp,hx,hy,hn,V,hl,hb⟩:=h a w hF
  refine⟨hw,_,run_store ho hx hy (hb.there 0 cs.length (by omega)) hi h1,aH hF.base hn 0,fun d u=>QY hL hb hl d u,fun j oj _ _ _ hM=>?_,(aK (cs:=cs) (ah w (some N)) 0).size,⟨N,hp,hb.bG hl⟩⟩
  exact⟨N,hp,hb.bG hl⟩
end
end Fg
end
section
open Go.RowKit
namespace Fg
theorem bO (a:Act) (i:Nat):∃u,a.tmps.getD i undef=u:=⟨_,rfl⟩
def QZ (a:Act):List Nat->Prop
 | []=>True
 | i:: r=>(∃u,a.tmps.getD i undef=u)/\QZ a r
theorem bn (a:Act):∀L:List Nat,QZ a L
 | []=>trivial
 | _:: r=>⟨⟨_,rfl⟩,bn a r⟩
variable {P:Program} {Q:Exit->Act->World->Prop} {L:List It} {a0:Act} {ops:Array Oper} {ps:List Nat}
theorem vS {W:World} {k i:Nat} {o:Oper} {d:Nat} {r:List Oper} (hd:o.dst=some d) (hps:(ps.all fun s=>s !=d)=true)
  (h:∀a w,JF k ps L (fun w=>World.grownBy W w none) a0 ops o a w->iD ops o a/\∃v w',(execOp a.eval o).run P w=.ok (.value v) w'/\w.grownBy w' none/\its L d v w')
  (hr:mG k ps P Q L (fun w=>World.grownBy W w none) a0 ops (i+1) r):mG k ps P Q L (fun w=>World.grownBy W w none) a0 ops i (o:: r):=
 ⟨⟨⟨_,hd⟩,xI (fun _ _ h k=>aj h k) hd hps h⟩,hr⟩
theorem cS {W:World} {k i:Nat} {o:Oper} {d:Nat} {r:List Oper} (hd:o.dst=some d) (hps:(ps.all fun s=>s !=d)=true)
  (h:∀a w,JF k ps L (fun w=>World.grownBy W w none) a0 ops o a w->iD ops o a/\∃f args,(execOp a.eval o).run P w=.ok (.enter f args) w/\Calls P f args w fun e w'=>∃v,e=.returned v/\w.grownBy w' none/\its L d v w')
  (hr:mG k ps P Q L (fun w=>World.grownBy W w none) a0 ops (i+1) r):mG k ps P Q L (fun w=>World.grownBy W w none) a0 ops i (o:: r):=
 ⟨⟨⟨_,hd⟩,QS (fun _ _ h k=>aj h k) hd hps h⟩,hr⟩
theorem JF.d {B:World->Prop} {k:Nat} {o:Oper} {a:Act} {w:World} (h:JF k ps L B a0 ops o a w) (d:Nat) (hd:waits ops o d=true:=by kernel_rfl):its L d (a.tmps.getD d undef) w:=h.dep d hd
theorem JF.r {B:World->Prop} {k:Nat} {o:Oper} {a:Act} {w:World} (h:JF k ps L B a0 ops o a w) (d:Nat) (hd:fC ops k d=false:=by kernel_rfl):a.tmps.getD d undef=a0.tmps.getD d undef:=h.rest d hd
def AtD (a:Act) (D:List Nat):Nat->List Value->Prop
 | _,[]=>True
 | i,v:: r=>match D.contains i with
  | true=>a.tmps.getD i undef=v/\AtD a D (i+1) r
  | false=>AtD a D (i+1) r
def CV (D:List Nat):Nat->List Value->List Value
 | _,[]=>[]
 | i,v:: r=>(if D.contains i=true then undef else v):: CV D (i+1) r
theorem Vl {a a0:Act} {D:List Nat} {k:Nat} (hr:∀d,fC ops k d=false->a.tmps.getD d undef=a0.tmps.getD d undef):∀(vs us:List Value) (i:Nat),(∀j,us.getD j undef=a0.tmps.getD (i+j) undef)->us.length=vs.length->
  (∀d,i<=d->d<i+vs.length->D.contains d=false->fC ops k d=false)->CV D i us=CV D i vs->AtD a D i vs->yG a i vs:=by
 intro vs
 induction vs with
 | nil=>intros;trivial
 | cons v r ih=>
  intro us i hu hl hD hm h
  cases us with
  | nil=>simp at hl
  | cons u us=>
   simp only[CV,List.cons.injEq]at hm
   have hu2:∀j,us.getD j undef=a0.tmps.getD (i+1+j) undef:=fun j=>by
    have:=hu (j+1)
    rw[show i+1+j=i+(j+1) by omega]
    simpa using this
   have hD2:∀d,i+1<=d->d<i+1+r.length->D.contains d=false->fC ops k d=false:=fun d h1 h2=>hD d (by omega) (by simp only[List.length_cons];omega)
   have hl2:us.length=r.length:=by simpa using hl
   unfold AtD at h
   by_cases hc:D.contains i=true
   .rw[hc]at h
    exact⟨h.1,ih us (i+1) hu2 hl2 hD2 hm.2 h.2⟩
   .have hc':D.contains i=false:=by simpa using hc
    rw[hc']at h hm
    refine⟨?_,ih us (i+1) hu2 hl2 hD2 hm.2 h⟩
    have h0:=hu 0
    simp only[List.getD_cons_zero,Nat.add_zero]at h0
    rw[hr i (hD i (Nat.le_refl _) (by simp only[List.length_cons];omega) hc'),<- h0]
    simpa using hm.1
theorem aP {a a0:Act} {k:Nat} (D:List Nat) {vs:List Value} (hs:a.tmps.size=a0.tmps.size) (hr:∀d,fC ops k d=false->a.tmps.getD d undef=a0.tmps.getD d undef)
  (hD:((List.range vs.length).all fun d=>D.contains d||!fC ops k d)=true) (hm:CV D 0 a0.tmps.toList=CV D 0 vs) (hl:a0.tmps.size=vs.length) (h:AtD a D 0 vs) (hd:a.defers=[]):a={tmps:=vs.toArray,defers:=[]}:=by
 refine gZ (hs.trans hl) (Vl hr vs a0.tmps.toList 0 (fun j=>?_) (by simpa using hl) (fun d _ h2 hc=>?_) hm h) hd
 .rw[Nat.zero_add,Array.getD_eq_getD_getElem?,List.getD_eq_getElem?_getD,Array.getElem?_toList]
 .have:=List.all_eq_true.1 hD d (List.mem_range.2 (by omega))
  rw[hc]at this
  simpa using this
theorem vn {a:Act} {w:World} {o:Oper} {d:Nat} (v:Value) (hr:(execOp a.eval o).run P w=.ok (.value v) w) (hg:o.guard=none:=by exact rfl) (hi:its L d v w:=by exact rfl):
  iD ops o a/\∃v w',(execOp a.eval o).run P w=.ok (.value v) w'/\w.grownBy w' none/\its L d v w':=⟨aA hg,v,w,hr,ah _ _,hi⟩
theorem vx {a:Act} {w:World} {o:Oper} {d:Nat} (v:Value) (hw:iD ops o a) (hr:(execOp a.eval o).run P w=.ok (.value v) w) (hi:its L d v w:=by exact rfl):
  iD ops o a/\∃v w',(execOp a.eval o).run P w=.ok (.value v) w'/\w.grownBy w' none/\its L d v w':=⟨hw,v,w,hr,ah _ _,hi⟩
theorem rT {id:Nat} {w:World} (ps:List Nat) (L:List It) (k:Nat) (steps:mG k ps P Q L (fun w'=>World.grownBy w w' none) a0 ops 0 (ops.toList.take k))
  (fin:∀a w',World.grownBy w w' none->a.tmps.size=a0.tmps.size->a.defers=a0.defers->(∀d,fC ops k d=false->a.tmps.getD d undef=a0.tmps.getD d undef)->
   (∀d,fC ops k d=true->its L d (a.tmps.getD d undef) w')->bN ps a w'->wpList P ops Q (ops.toList.drop k) a w')
  (hm:P.follows .mixedOrders=true:=by kernel_rfl) (ht:vJ ops=true:=by kernel_rfl) (ho:once (ops.extract 0 k) a0.tmps.size=true:=by kernel_rfl) (htl:xG ops k=true:=by kernel_rfl) (hk:k<=ops.size:=by decide) (hps:bN ps a0 w.drew:=by exact Fg.nI (by kernel_rfl)):
  (Code.region id ops true).wp P Q a0 w:=jC L (fun w'=>World.grownBy w w' none) k (aZ (ah _ _)) hm ht ho htl hk hps steps fin
theorem rP {id:Nat} {w:World} (ps:List Nat) (L:List It) (k:Nat) (steps:mG k ps P Q L (fun w'=>World.grownBy w w' none) a0 ops 0 (ops.toList.take k))
  (fin:∀a w',World.grownBy w w' none->a.tmps.size=a0.tmps.size->a.defers=a0.defers->(∀d,fC ops k d=false->a.tmps.getD d undef=a0.tmps.getD d undef)->
   (∀d,fC ops k d=true->its L d (a.tmps.getD d undef) w')->bN ps a w'->wpList P ops Q (ops.toList.drop k) a w')
  (ht:vJ ops=true:=by kernel_rfl) (ho:once (ops.extract 0 k) a0.tmps.size=true:=by kernel_rfl) (hk:k<=ops.size:=by decide) (hps:bN ps a0 w:=by exact Fg.nI (by kernel_rfl)):
  (Code.region id ops false).wp P Q a0 w:=iG L (fun w'=>World.grownBy w w' none) k (ah _ _) ht ho hk hps steps fin
end Fg
theorem aG.gn {w w':World} {B:Nat} {T:TypeId} {L:List Value} (h:aG w B T L) (g:w.grownBy w' none):aG w' B T L:=h.grown g (by simp)
abbrev gL:List Value:=[Value.int IntKind.u64 0,Value.int IntKind.u64 0,Value.int IntKind.u64 0,Value.int IntKind.u64 0,Value.int IntKind.u64 0]
abbrev bE:List Value:=[Value.int IntKind.u64 0,Value.int IntKind.u64 0,Value.int IntKind.u64 0,Value.int IntKind.u64 0,Value.int IntKind.u64 0,Value.int IntKind.u64 0,Value.int IntKind.u64 0,Value.int IntKind.u64 0,Value.int IntKind.u64 0,Value.int IntKind.u64 0,Value.int IntKind.u64 0,Value.int IntKind.u64 0,Value.int IntKind.u64 0,Value.int IntKind.u64 0,Value.int IntKind.u64 0,Value.int IntKind.u64 0,Value.int IntKind.u64 0,Value.int IntKind.u64 0,Value.int IntKind.u64 0,Value.int IntKind.u64 0]
abbrev nJ:List Value:=[Value.int IntKind.u64 0,Value.int IntKind.u64 0,Value.int IntKind.u64 0,Value.int IntKind.u64 0,Value.int IntKind.u64 0,Value.int IntKind.u64 0,Value.int IntKind.u64 0,Value.int IntKind.u64 0,Value.int IntKind.u64 0,Value.int IntKind.u64 0,Value.int IntKind.u64 0,Value.int IntKind.u64 0,Value.int IntKind.u64 0,Value.int IntKind.u64 0,Value.int IntKind.u64 0,Value.int IntKind.u64 0,Value.int IntKind.u64 0,Value.int IntKind.u64 0,Value.int IntKind.u64 0,Value.int IntKind.u64 0,Value.int IntKind.u64 0,Value.int IntKind.u64 0,Value.int IntKind.u64 0,Value.int IntKind.u64 0,Value.int IntKind.u64 0,Value.int IntKind.u64 0,Value.int IntKind.u64 0,Value.int IntKind.u64 0,Value.int IntKind.u64 0,Value.int IntKind.u64 0]
end
section
open Go.RowKit
namespace Fg
variable {P:Program} {Q:Exit->Act->World->Prop} {L:List It} {a0:Act} {ops:Array Oper} {ps:List Nat}
def AV (ρ:Operand->Value):List Operand->List Value->Prop
 | [],[]=>True
 | x:: r,v:: s=>ρ x=v/\AV ρ r s
 | _,_=>False
theorem JU {ρ:Operand->Value}:∀{xs:List Operand} {vs:List Value},AV ρ xs vs->xs.map ρ=vs
 | [],[],_=>rfl
 | x:: r,v:: s,h=>by rw[List.map_cons,h.1,JU h.2]
 | [],_:: _,h=>h.elim
 | _:: _,[],h=>h.elim
theorem cq {a:Act} {w:World} {o:Oper} {d:Nat} {f:FuncId} {fn:Func} {x:Operand} {args:Array Operand} {tys:Array TypeId} {vs:List Value} {v:Value} (ho:o.op=.call {callee:=.value x,args:=args,argTypes:=tys}) (hc:Calls P f vs.toArray w fun e w'=>e=.returned v/\w.grownBy w' none) (hv:AV a.eval args.toList vs) (hf:P.funcs[f]?=some fn)
  (hg:o.guard=none:=by exact rfl) (hx:a.eval x=.func (.func f) #[] #[]:=by exact rfl) (hn:(fn.name== "runtime.NumGoroutine")=false:=by kernel_rfl) (hb:fn.body.isNone=false:=by kernel_rfl) (hi:∀w',its L d v w':=by exact fun _=>rfl):
  iD ops o a/\∃f args,(execOp a.eval o).run P w=.ok (.enter f args) w/\Calls P f args w fun e w'=>∃v,e=.returned v/\w.grownBy w' none/\its L d v w':=
 ⟨aA hg,f,vs.toArray,aN ho hx (Array.ext' (by rw[Array.toList_map,JU hv])) (aI hf hn hb),hc.mono fun _ w' h=>⟨v,h.1,h.2,hi w'⟩⟩
theorem cz {a:Act} {w:World} {o:Oper} {d:Nat} {f:FuncId} {fn:Func} {x:Operand} {args:Array Operand} {tys:Array TypeId} {vs:List Value} {v:Value} (ho:o.op=.call {callee:=.value x,args:=args,argTypes:=tys}) (hg:iD ops o a) (hc:Calls P f vs.toArray w fun e w'=>e=.returned v/\w.grownBy w' none) (hv:AV a.eval args.toList vs) (hf:P.funcs[f]?=some fn)
  (hx:a.eval x=.func (.func f) #[] #[]:=by exact rfl) (hn:(fn.name== "runtime.NumGoroutine")=false:=by kernel_rfl) (hb:fn.body.isNone=false:=by kernel_rfl) (hi:∀w',its L d v w':=by exact fun _=>rfl):
  iD ops o a/\∃f args,(execOp a.eval o).run P w=.ok (.enter f args) w/\Calls P f args w fun e w'=>∃v,e=.returned v/\w.grownBy w' none/\its L d v w':=
 ⟨hg,f,vs.toArray,aN ho hx (Array.ext' (by rw[Array.toList_map,JU hv])) (aI hf hn hb),hc.mono fun _ w' h=>⟨v,h.1,h.2,hi w'⟩⟩
end Fg
end
namespace Num
def Prime (p:Nat):Prop:=2<=p/\∀m,m ∣ p->m=1\/m=p
theorem Prime.coprime {p a:Nat} (h:Prime p) (ha:¬p ∣ a):Nat.Coprime p a:=by
 rcases h.2 (Nat.gcd p a) (Nat.gcd_dvd_left p a) with e|e
 .exact e
 .exact absurd (e▸Nat.gcd_dvd_right p a) ha
theorem Prime.dvd_mul {p a b:Nat} (h:Prime p) (hd:p ∣ a*b):p ∣ a\/p ∣ b:=by
 by_cases ha:p ∣ a
 .exact Or.inl ha
 .exact Or.inr ((h.coprime ha).dvd_of_dvd_mul_left hd)
theorem D6:∀n:Nat,2<=n->∃r,Prime r/\r ∣ n:=by
 intro n
 induction n using Nat.strongRecOn with
 | _ n ih=>
  intro h2
  by_cases hp:Prime n
  .exact⟨n,hp,Nat.dvd_refl n⟩
  .have:∃m,m ∣ n/\m≠1/\m≠n:=by
    by_cases hm:∃m,m ∣ n/\m≠1/\m≠n
    .exact hm
    .refine absurd ⟨h2,fun m hd=>?_⟩ hp
     by_cases e1:m=1
     .exact Or.inl e1
     .by_cases e2:m=n
      .exact Or.inr e2
      .exact absurd ⟨m,hd,e1,e2⟩ hm
   obtain⟨m,hd,h1,hn⟩:=this
   have hle:=Nat.le_of_dvd (by omega) hd
   have h0:m≠0:=by rintro rfl;have:=Nat.eq_zero_of_zero_dvd hd;omega
   obtain⟨r,hr,hrd⟩:=ih m (by omega) (by omega)
   exact⟨r,hr,Nat.dvd_trans hrd hd⟩
theorem zP {n:Nat} (h2:2<=n) (hp:¬Prime n):∃r,Prime r/\r ∣ n/\r*r<=n:=by
 have:∃m,m ∣ n/\m≠1/\m≠n:=by
  by_cases hm:∃m,m ∣ n/\m≠1/\m≠n
  .exact hm
  .refine absurd ⟨h2,fun m hd=>?_⟩ hp
   by_cases e1:m=1
   .exact Or.inl e1
   .by_cases e2:m=n
    .exact Or.inr e2
    .exact absurd ⟨m,hd,e1,e2⟩ hm
 obtain⟨m,⟨k,hk⟩,h1,hn⟩:=this
 have hm0:m≠0:=by rintro rfl;omega
 have hk0:k≠0:=by rintro rfl;omega
 have hk1:k≠1:=by rintro rfl;omega
 have go:∀x y:Nat,n=x*y->2<=x->x<=y->∃r,Prime r/\r ∣ n/\r*r<=n:=by
  intro x y e hx hxy
  obtain⟨r,hr,hd⟩:=D6 x hx
  have hrx:=Nat.le_of_dvd (by omega) hd
  exact⟨r,hr,e▸Nat.dvd_trans hd (Nat.dvd_mul_right x y),e▸Nat.mul_le_mul hrx (Nat.le_trans hrx hxy)⟩
 rcases Nat.le_total m k with h|h
 .exact go m k hk (by omega) h
 .exact go k m (by rw[hk,Nat.mul_comm]) (by omega) h
def prod (l:List Nat):Nat:=l.foldr (· * ·) 1
theorem prod_cons (x:Nat) (l:List Nat):prod (x:: l)=x*prod l:=rfl
theorem NQ {l l':List Nat} (h:l.Perm l'):prod l=prod l':=by
 induction h with
 | nil=>rfl
 | cons x _ ih=>rw[prod_cons,prod_cons,ih]
 | swap x y l=>simp only[prod_cons];rw[Nat.mul_left_comm]
 | trans _ _ h1 h2=>exact h1.trans h2
theorem Vm {l l':List Nat} (hn:l.Nodup) (hs:∀x∈l,x∈l') (hl:l.length=l'.length):l.Perm l':=by
 induction l generalizing l' with
 | nil=>rw[List.eq_nil_of_length_eq_zero hl.symm]
 | cons x t ih=>
  have hx:=hs x (List.mem_cons_self ..)
  have hn':=List.nodup_cons.1 hn
  have hp:=List.perm_cons_erase hx
  refine List.Perm.trans (List.Perm.cons x (ih hn'.2 (fun y hy=>?_) ?_)) hp.symm
  .have hne:y≠x:=fun e=>hn'.1 (e▸hy)
   exact (List.mem_erase_of_ne hne).2 (hs y (List.mem_cons_of_mem _ hy))
  .have:=hp.length_eq
   simp only[List.length_cons]at this hl
   omega
theorem Q0 (p a:Nat) (l:List Nat):prod (l.map fun i=>a*i%p)%p=a^l.length*prod l%p:=by
 induction l with
 | nil=>simp[prod]
 | cons x t ih=>
  rw[List.map_cons,prod_cons,Nat.mul_mod,ih,Nat.mod_mod,<- Nat.mul_mod,prod_cons,List.length_cons,Nat.pow_succ]
  congr 1
  simp only[Nat.mul_assoc,Nat.mul_left_comm,Nat.mul_comm]
theorem D7 {p:Nat} (h:Prime p) (l:List Nat) (hl:∀x∈l,¬p ∣ x):¬p ∣ prod l:=by
 induction l with
 | nil=>intro hd;have:=Nat.le_of_dvd (by decide) hd;have:=h.1;simp[prod]at *;omega
 | cons x t ih=>
  intro hd
  rcases h.dvd_mul hd with e|e
  .exact hl x (List.mem_cons_self ..) e
  .exact ih (fun y hy=>hl y (List.mem_cons_of_mem _ hy)) e
theorem cancel {p x y P:Nat} (h:Prime p) (hP:¬p ∣ P) (_:y<=x) (e:x*P%p=y*P%p):p ∣ x-y:=by
 have h1:=Nat.sub_mod_eq_zero_of_mod_eq e
 rw[<- Nat.sub_mul]at h1
 rcases h.dvd_mul (Nat.dvd_of_mod_eq_zero h1) with k|k
 .exact k
 .exact absurd k hP
theorem mod_one {p x:Nat} (hx:1<=x) (h:p ∣ x-1):x%p=1%p:=by
 obtain⟨k,hk⟩:=h
 have:x=1+p*k:=by omega
 rw[this,Nat.add_mul_mod_self_left]
theorem Q5 {p a:Nat} (h:Prime p) (ha:¬p ∣ a):a^(p-1)%p=1:=by
 have h2:=h.1
 have hz:1<=a:=by
  rcases Nat.eq_zero_or_pos a with e|e
  .exact absurd (e▸Nat.dvd_zero p) ha
  .exact e
 have mem:∀x,x∈List.range' 1 (p-1)↔1<=x/\x<p:=by
  intro x;rw[List.mem_range'_1];omega
 have low:∀x∈List.range' 1 (p-1),¬p ∣ x:=fun x hx hd=>by
  have:=(mem x).1 hx;have:=Nat.le_of_dvd (by omega) hd;omega
 have perm:((List.range' 1 (p-1)).map fun i=>a*i%p).Perm (List.range' 1 (p-1)):=by
  apply Vm
  .rw[List.nodup_iff_pairwise_ne,List.pairwise_map]
   refine List.Pairwise.imp_of_mem ?_ (List.nodup_iff_pairwise_ne.1 (List.nodup_range' ..))
   intro x y hx hy hne e
   have bx:=(mem x).1 hx
   have b_y:=(mem y).1 hy
   apply hne
   rw[Nat.mul_comm a x,Nat.mul_comm a y]at e
   rcases Nat.le_total x y with l|l
   .obtain⟨k,hk⟩:=cancel h ha l e.symm
    rcases Nat.eq_zero_or_pos k with z|z
    .subst z;omega
    .have:=Nat.le_mul_of_pos_right p z;omega
   .obtain⟨k,hk⟩:=cancel h ha l e
    rcases Nat.eq_zero_or_pos k with z|z
    .subst z;omega
    .have:=Nat.le_mul_of_pos_right p z;omega
  .intro x hx
   obtain⟨i,hi,rfl⟩:=List.mem_map.1 hx
   rw[mem]
   refine⟨?_,Nat.mod_lt _ (by omega)⟩
   rcases Nat.eq_zero_or_pos (a*i%p) with z|z
   .rcases h.dvd_mul (Nat.dvd_of_mod_eq_zero z) with k|k
    .exact absurd k ha
    .exact absurd k (low i hi)
   .exact z
  .simp
 have e:=Q0 p a (List.range' 1 (p-1))
 rw[NQ perm,List.length_range']at e
 have hd:=cancel (x:=a^(p-1)) (y:=1) h (D7 h _ low) (Nat.one_le_pow _ _ hz) (by rw[Nat.one_mul];exact e.symm)
 rw[mod_one (Nat.one_le_pow _ _ hz) hd,Nat.mod_eq_of_lt h2]
theorem FM {r b x:Nat} (k:Nat) (h:b^x%r=1%r):b^(x*k)%r=1%r:=by
 rw[Nat.pow_mul,Nat.pow_mod,h,<- Nat.pow_mod,Nat.one_pow]
theorem Vn (r b x y:Nat) (hx:b^x%r=1%r) (hy:b^y%r=1%r):b^Nat.gcd x y%r=1%r:=by
 induction x,y using Nat.gcd.induction with
 | H0 y=>rwa [Nat.gcd_zero_left]
 | H1 x y _ ih=>
  rw[Nat.gcd_rec]
  refine ih ?_ hx
  have e:b^y=b^(x*(y/x))*b^(y%x):=by rw[<- Nat.pow_add,Nat.div_add_mod]
  rw[e,Nat.mul_mod,FM _ hx,<- Nat.mul_mod,Nat.one_mul]at hy
  exact hy
theorem step {N q m a:Nat} (hq:Prime q) (hN:N-1=m*q) (h2:2<=N) (h1:a^(N-1)%N=1) (hg:Nat.gcd (a^m%N+(N-1)) N=1):
  ∀r,Prime r->r ∣ N->q ∣ r-1:=by
 intro r hr hd
 have hr2:=hr.1
 by_cases hn:q ∣ r-1
 .exact hn
 have hc:Nat.gcd q (r-1)=1:=hq.coprime hn
 have hb:(a^m)^q%r=1%r:=by
  rw[<- Nat.pow_mul,<- hN,<- Nat.mod_mod_of_dvd _ hd,h1]
 have ha:¬r ∣ a^m:=by
  intro k
  have hq0:q≠0:=by have:=hq.1;omega
  have:=Nat.mod_eq_zero_of_dvd (Nat.dvd_trans k ⟨(a^m)^(q-1),by rw[<- Nat.pow_succ',show (q-1).succ=q by omega]⟩)
  rw[hb,Nat.mod_eq_of_lt hr2]at this
  omega
 have hf:=Q5 hr ha
 have h3:=Vn r (a^m) q (r-1) hb (by rw[hf,Nat.mod_eq_of_lt hr2])
 rw[hc,Nat.pow_one]at h3
 have h4:r ∣ Nat.gcd (a^m%N+(N-1)) N:=by
  refine Nat.dvd_gcd (Nat.dvd_of_mod_eq_zero ?_) hd
  rw[Nat.add_mod,Nat.mod_mod_of_dvd _ hd,h3,<- Nat.add_mod,Nat.add_sub_cancel' (by omega:1<=N)]
  exact Nat.mod_eq_zero_of_dvd hd
 rw[hg]at h4
 have:=Nat.le_of_dvd (by decide) h4
 omega
theorem nK {N F:Nat} (h2:2<=N) (hF:N<F*F) (h:∀r,Prime r->r ∣ N->F ∣ r-1):Prime N:=by
 by_cases hp:Prime N
 .exact hp
 obtain⟨r,hr,hd,hle⟩:=zP h2 hp
 have hr2:=hr.1
 have:=Nat.le_of_dvd (by omega) (h r hr hd)
 have:F*F<=r*r:=Nat.mul_le_mul (by omega) (by omega)
 omega
theorem both {x q q':Nat} (hq:Prime q) (hn:¬q ∣ q') (h:q ∣ x) (h':q' ∣ x):q*q' ∣ x:=
 Nat.Coprime.mul_dvd_of_dvd_of_dvd (hq.coprime hn) h h'
def trial (n:Nat):Nat->Nat->Bool
 | 0,_=>true
 | f+1,d=>n%d !=0&&trial n f (d+1)
theorem JV {n:Nat}:∀f d,trial n f d=true->∀m,d<=m->m<d+f->n%m≠0:=by
 intro f
 induction f with
 | zero=>intro d _ m h1 h2;omega
 | succ f ih=>
  intro d h m h1 h2
  simp only[trial,Bool.and_eq_true,bne_iff_ne]at h
  by_cases e:m=d
  .subst e;exact h.1
  .exact ih (d+1) h.2 m (by omega) (by omega)
theorem lT {n:Nat} (f:Nat) (h2:2<=n) (hf:n<(f+2)*(f+2)) (h:trial n f 2=true):Prime n:=by
 by_cases hp:Prime n
 .exact hp
 obtain⟨r,hr,hd,hle⟩:=zP h2 hp
 have hr2:=hr.1
 by_cases hlt:r<2+f
 .exact absurd (Nat.mod_eq_zero_of_dvd hd) (JV f 2 h r hr2 hlt)
 .have:(f+2)*(f+2)<=r*r:=Nat.mul_le_mul (by omega) (by omega)
  omega
def pm (n a:Nat):Nat->Nat->Nat
 | 0,_=>1%n
 | f+1,e=>if e%2=0 then pm n a f (e/2)*pm n a f (e/2)%n else pm n a f (e/2)*pm n a f (e/2)%n*a%n
theorem aa6 (n a:Nat):∀f e,e<2^f->pm n a f e=a^e%n:=by
 intro f
 induction f with
 | zero=>
  intro e h
  have:e=0:=by simpa using h
  subst this
  simp[pm]
 | succ f ih=>
  intro e h
  have h':e/2<2^f:=by rw[Nat.pow_succ]at h;omega
  have sq:pm n a f (e/2)*pm n a f (e/2)%n=a^(e/2+e/2)%n:=by
   rw[ih _ h',<- Nat.mul_mod,<- Nat.pow_add]
  rw[pm,sq]
  by_cases h2:e%2=0
  .rw[if_pos h2,show e/2+e/2=e by omega]
  .rw[if_neg h2,Nat.mod_mul_mod,<- Nat.pow_succ,show (e/2+e/2).succ=e by omega]
theorem JW {n a e v:Nat} (f:Nat) (he:e<2^f) (h:pm n a f e=v):a^e%n=v:=by rw[<- aa6 n a f e he];exact h
theorem step' {N q:Nat} (m a f b:Nat) (hq:Prime q) (hN:N-1=m*q) (h2:2<=N) (hf:N<2^f) (h1:pm N a f (N-1)=1) (hb:pm N a f m=b) (hg:Nat.gcd (b+(N-1)) N=1):
  ∀r,Prime r->r ∣ N->q ∣ r-1:=by
 have hm:m<2^f:=by
  have h1:=hq.1
  have:m*1<=m*q:=Nat.mul_le_mul_left m (by omega)
  omega
 refine step (a:=a) hq hN h2 (JW f (by omega) h1) ?_
 rw[JW f hm hb];exact hg
end Num
namespace Num
theorem NR:Prime 127:=lT 11 (by decide) (by decide) (by decide +kernel)
theorem Q6:Prime 4153:=lT 64 (by decide) (by decide) (by decide +kernel)
theorem FN:Prime 430751:=lT 656 (by decide) (by decide) (by decide +kernel)
theorem FP:Prime 8574133:=lT 2928 (by decide) (by decide) (by decide +kernel)
theorem NS:Prime 569003:=lT 754 (by decide) (by decide) (by decide +kernel)
theorem Q7:Prime 2773320623:=nK (F:=569003) (by decide) (by decide +kernel) fun r hr hd=>(step' 4874 2 32 2039232613 NS (by decide +kernel) (by decide) (by decide +kernel) (by decide +kernel) (by decide +kernel) (by decide +kernel) r hr hd)
theorem Q8:Prime 72106336199:=nK (F:=2773320623) (by decide) (by decide +kernel) fun r hr hd=>(step' 26 2 37 67108864 Q7 (by decide +kernel) (by decide) (by decide +kernel) (by decide +kernel) (by decide +kernel) (by decide +kernel) r hr hd)
theorem FQ:Prime 1919519569386763:=nK (F:=8574133*127) (by decide) (by decide +kernel) fun r hr hd=>both FP (by decide +kernel) (step' 223873314 2 51 1059928654987441 FP (by decide +kernel) (by decide) (by decide +kernel) (by decide +kernel) (by decide +kernel) (by decide +kernel) r hr hd) (step' 15114327318006 2 51 576774792492622 NR (by decide +kernel) (by decide) (by decide +kernel) (by decide +kernel) (by decide +kernel) (by decide +kernel) r hr hd)
theorem Q9:Prime 31757755568855353:=nK (F:=430751*4153) (by decide) (by decide +kernel) fun r hr hd=>both FN (by decide +kernel) (step' 73726481352 2 55 15280470251845350 FN (by decide +kernel) (by decide) (by decide +kernel) (by decide +kernel) (by decide +kernel) (by decide +kernel) r hr hd) (step' 7646943310584 2 55 28256283979054930 Q6 (by decide +kernel) (by decide) (by decide +kernel) (by decide +kernel) (by decide +kernel) (by decide +kernel) r hr hd)
theorem FR:Prime 75445702479781427272750846543864801:=nK (F:=1919519569386763*72106336199) (by decide) (by decide +kernel) fun r hr hd=>both FQ (by decide +kernel) (step' 39304471641247389600 2 116 56747016255153332959347766392083459 FQ (by decide +kernel) (by decide) (by decide +kernel) (by decide +kernel) (by decide +kernel) (by decide +kernel) r hr hd) (step' 1046311689884858398375200 2 116 71619851993489548214160924360205394 Q8 (by decide +kernel) (by decide) (by decide +kernel) (by decide +kernel) (by decide +kernel) (by decide +kernel) r hr hd)
theorem Ra:Prime 74058212732561358302231226437062788676166966415465897661863160754340907:=nK (F:=75445702479781427272750846543864801*31757755568855353) (by decide) (by decide +kernel) fun r hr hd=>both FR (by decide +kernel) (step' 981609426360740691344999861639072106 2 236 69490809710348678725736597923071784769591275419387514694139338586948360 FR (by decide +kernel) (by decide) (by decide +kernel) (by decide +kernel) (by decide +kernel) (by decide +kernel) r hr hd) (step' 2331972502653487852620185443007392165117953542933313402 2 236 50366660687963342066214195241331738400016478712605795091965648721912165 Q9 (by decide +kernel) (by decide) (by decide +kernel) (by decide +kernel) (by decide +kernel) (by decide +kernel) r hr hd)
theorem Vo:Prime 57896044618658097711785492504343953926634992332820282019728792003956564819949:=nK (F:=74058212732561358302231226437062788676166966415465897661863160754340907) (by decide) (by decide +kernel) fun r hr hd=>(step' 781764 2 255 427094198651976259540344842774561673889945192655078505504941250475370961481 Ra (by decide +kernel) (by decide) (by decide +kernel) (by decide +kernel) (by decide +kernel) (by decide +kernel) r hr hd)
end Num
section
structure Fe where
 x0:Int
 x1:Int
 x2:Int
 x3:Int
 x4:Int
deriving DecidableEq
namespace Fe
structure Ok (a:Fe):Prop where
 n0:0<=a.x0
 n1:0<=a.x1
 n2:0<=a.x2
 n3:0<=a.x3
 n4:0<=a.x4
 l0:a.x0<18446744073709551616
 l1:a.x1<18446744073709551616
 l2:a.x2<18446744073709551616
 l3:a.x3<18446744073709551616
 l4:a.x4<18446744073709551616
structure Right (a:Fe):Prop where
 n0:0<=a.x0
 n1:0<=a.x1
 n2:0<=a.x2
 n3:0<=a.x3
 n4:0<=a.x4
 l0:a.x0<4503599627370496
 l1:a.x1<4503599627370496
 l2:a.x2<4503599627370496
 l3:a.x3<4503599627370496
 l4:a.x4<4503599627370496
theorem Right.ok {a:Fe} (h:Right a):Ok a:=by
 obtain⟨n0,n1,n2,n3,n4,l0,l1,l2,l3,l4⟩:=h
 constructor<;>omega
def V (a:Fe):Int:=a.x0+2251799813685248*a.x1+5070602400912917605986812821504*a.x2+11417981541647679048466287755595961091061972992*a.x3+25711008708143844408671393477458601640355247900524685364822016*a.x4
def P:Nat:=57896044618658097711785492504343953926634992332820282019728792003956564819949
def m (a:Fe):Nat:=(a.V%(P:Int)).toNat
def jZ (a:Fe):Fe:=
 ⟨a.x0%2251799813685248+19*(a.x4/2251799813685248),a.x1%2251799813685248+a.x0/2251799813685248,a.x2%2251799813685248+a.x1/2251799813685248,
  a.x3%2251799813685248+a.x2/2251799813685248,a.x4%2251799813685248+a.x3/2251799813685248⟩
theorem rH {a:Fe} (h:Ok a):Right (jZ a):=by
 obtain⟨n0,n1,n2,n3,n4,l0,l1,l2,l3,l4⟩:=h
 constructor<;>simp only[jZ]<;>omega
theorem L9 (a:Fe):V (jZ a)=V a-(P:Int)*(a.x4/2251799813685248):=by
 simp only[V,jZ,P]
 omega
theorem ae7 {a b:Fe} (h:∃k:Int,V a=V b+(P:Int)*k):m a=m b:=by
 obtain⟨k,hk⟩:=h
 unfold m
 rw[hk,Int.add_mul_emod_self_left]
theorem D8 (a:Fe):m (jZ a)=m a:=ae7 ⟨-(a.x4/2251799813685248),by rw[L9,Int.mul_neg];omega⟩
def dG (x:Int):Int:=x%18446744073709551616
def fA (a b:Fe):Fe:=jZ ⟨dG (a.x0+b.x0),dG (a.x1+b.x1),dG (a.x2+b.x2),dG (a.x3+b.x3),dG (a.x4+b.x4)⟩
def gQ (a b:Fe):Fe:=
 jZ ⟨dG (a.x0+dG (9007199254740916-b.x0)),dG (a.x1+dG (9007199254740988-b.x1)),dG (a.x2+dG (9007199254740988-b.x2)),dG (a.x3+dG (9007199254740988-b.x3)),dG (a.x4+dG (9007199254740988-b.x4))⟩
def bL:Fe:=⟨0,0,0,0,0⟩
def dM:Fe:=⟨1,0,0,0,0⟩
def kF (a:Fe):Fe:=gQ bL a
theorem D9 (x0 x1 x2 x3 x4:Int):Ok ⟨dG x0,dG x1,dG x2,dG x3,dG x4⟩:=by
 constructor<;>simp only[dG]<;>omega
theorem dH (a b:Fe):Right (fA a b):=rH (D9 ..)
theorem fI (a b:Fe):Right (gQ a b):=rH (D9 ..)
theorem ku (a:Fe):Right (kF a):=fI ..
theorem xK (a:Fe):m a<P:=by
 unfold m P
 omega
theorem mH (a:Fe):((m a:Nat):Int)=V a%(P:Int):=by
 unfold m P
 omega
theorem Ma {x y:Nat} (hx:x<P) (h:((x:Nat):Int)%(P:Int)=((y:Nat):Int)%(P:Int)):x=y%P:=by
 unfold P at *
 omega
theorem aa7 {a b:Fe} (ha:Right a) (hb:Right b):m (fA a b)=(m a+m b)%P:=by
 have e:V (⟨dG (a.x0+b.x0),dG (a.x1+b.x1),dG (a.x2+b.x2),dG (a.x3+b.x3),dG (a.x4+b.x4)⟩:Fe)=V a+V b:=by
  obtain⟨n0,n1,n2,n3,n4,l0,l1,l2,l3,l4⟩:=ha
  obtain⟨k0,k1,k2,k3,k4,j0,j1,j2,j3,j4⟩:=hb
  simp only[V,dG]
  omega
 unfold fA
 rw[D8]
 apply Ma (xK _)
 rw[mH,e,Int.natCast_add,mH,mH,Int.emod_emod,<- Int.add_emod]
theorem XM {a b:Fe} (ha:Right a) (hb:Right b):m (gQ a b)=(m a+(P-m b))%P:=by
 have e:V (⟨dG (a.x0+dG (9007199254740916-b.x0)),dG (a.x1+dG (9007199254740988-b.x1)),dG (a.x2+dG (9007199254740988-b.x2)),dG (a.x3+dG (9007199254740988-b.x3)),dG (a.x4+dG (9007199254740988-b.x4))⟩:Fe)
   =V a-V b+(P:Int)*4:=by
  obtain⟨n0,n1,n2,n3,n4,l0,l1,l2,l3,l4⟩:=ha
  obtain⟨k0,k1,k2,k3,k4,j0,j1,j2,j3,j4⟩:=hb
  simp only[V,dG,P]
  omega
 have hb:=xK b
 have ca:=mH a
 have cb:=mH b
 have h:=mH (gQ a b)
 rw[show m (gQ a b)=_ from D8 _]at h ⊢
 have hl:=xK (⟨dG (a.x0+dG (9007199254740916-b.x0)),dG (a.x1+dG (9007199254740988-b.x1)),dG (a.x2+dG (9007199254740988-b.x2)),dG (a.x3+dG (9007199254740988-b.x3)),dG (a.x4+dG (9007199254740988-b.x4))⟩:Fe)
 have h2:=mH (⟨dG (a.x0+dG (9007199254740916-b.x0)),dG (a.x1+dG (9007199254740988-b.x1)),dG (a.x2+dG (9007199254740988-b.x2)),dG (a.x3+dG (9007199254740988-b.x3)),dG (a.x4+dG (9007199254740988-b.x4))⟩:Fe)
 rw[e,Int.add_mul_emod_self_left]at h2
 generalize m (⟨dG (a.x0+dG (9007199254740916-b.x0)),dG (a.x1+dG (9007199254740988-b.x1)),dG (a.x2+dG (9007199254740988-b.x2)),dG (a.x3+dG (9007199254740988-b.x3)),dG (a.x4+dG (9007199254740988-b.x4))⟩:Fe)=M at *
 clear h e
 generalize V a=A at *
 generalize V b=B at *
 unfold P at *
 omega
def pX (S a b:Int):Int:=(S+a*b)%340282366920938463463374607431768211456
def mM (S:Int):Int:=S%2251799813685248
def mO (S:Int):Int:=dG (S/2251799813685248)
def uq (s0 s1 s2 s3 s4:Int):Fe:=
 jZ ⟨dG (mM s0+dG (19*mO s4)),dG (mM s1+mO s0),dG (mM s2+mO s1),dG (mM s3+mO s2),dG (mM s4+mO s3)⟩
def s5 (a0 b0 a1 b1 a2 b2 a3 b3 a4 b4:Int):Int:=pX (pX (pX (pX (pX 0 a0 b0) a1 b1) a2 b2) a3 b3) a4 b4
def s3 (a0 b0 a1 b1 a2 b2:Int):Int:=pX (pX (pX 0 a0 b0) a1 b1) a2 b2
def aM (a b:Fe):Fe:=
 uq (s5 a.x0 b.x0 a.x1 (dG (19*b.x4)) a.x2 (dG (19*b.x3)) a.x3 (dG (19*b.x2)) a.x4 (dG (19*b.x1)))
  (s5 a.x0 b.x1 a.x1 b.x0 a.x2 (dG (19*b.x4)) a.x3 (dG (19*b.x3)) a.x4 (dG (19*b.x2)))
  (s5 a.x0 b.x2 a.x1 b.x1 a.x2 b.x0 a.x3 (dG (19*b.x4)) a.x4 (dG (19*b.x3)))
  (s5 a.x0 b.x3 a.x1 b.x2 a.x2 b.x1 a.x3 b.x0 a.x4 (dG (19*b.x4)))
  (s5 a.x0 b.x4 a.x1 b.x3 a.x2 b.x2 a.x3 b.x1 a.x4 b.x0)
def bZ (a:Fe):Fe:=
 uq (s3 a.x0 a.x0 (dG (2*a.x1)) (dG (19*a.x4)) (dG (2*a.x2)) (dG (19*a.x3)))
  (s3 (dG (2*a.x0)) a.x1 (dG (2*a.x2)) (dG (19*a.x4)) a.x3 (dG (19*a.x3)))
  (s3 (dG (2*a.x0)) a.x2 a.x1 a.x1 (dG (2*a.x3)) (dG (19*a.x4)))
  (s3 (dG (2*a.x0)) a.x3 (dG (2*a.x1)) a.x2 a.x4 (dG (19*a.x4)))
  (s3 (dG (2*a.x0)) a.x4 (dG (2*a.x1)) a.x3 a.x2 a.x2)
theorem zQ (s0 s1 s2 s3 s4:Int):Right (uq s0 s1 s2 s3 s4):=rH (D9 ..)
theorem mul_right (a b:Fe):Right (aM a b):=zQ ..
theorem dO (a:Fe):Right (bZ a):=zQ ..
theorem YD {s0 s1 s2 s3 s4:Int} (h0:0<=s0) (h1:0<=s1) (h2:0<=s2) (h3:0<=s3) (h4:0<=s4)
  (l0:s0<2596148429267413814265248164610048) (l1:s1<2596148429267413814265248164610048) (l2:s2<2596148429267413814265248164610048) (l3:s3<2596148429267413814265248164610048) (l4:s4<162259276829213363391578010288128):
  ∃k:Int,V (uq s0 s1 s2 s3 s4)=V ⟨s0,s1,s2,s3,s4⟩+(P:Int)*k:=by
 have e:V (⟨dG (mM s0+dG (19*mO s4)),dG (mM s1+mO s0),dG (mM s2+mO s1),dG (mM s3+mO s2),dG (mM s4+mO s3)⟩:Fe)=V ⟨s0,s1,s2,s3,s4⟩-(P:Int)*(s4/2251799813685248):=by
  simp only[V,dG,mM,mO,P]
  omega
 unfold uq
 rw[L9,e]
 exact⟨-(s4/2251799813685248)-dG (mM s4+mO s3)/2251799813685248,by simp only[Int.mul_sub,Int.mul_neg];omega⟩
theorem bD {x y:Int} (h0:0<=x) (h1:x<4503599627370496) (k0:0<=y) (k1:y<4503599627370496):0<=x*y/\x*y<20282409603651670423947251286016:=by
 refine⟨Int.mul_nonneg h0 k0,?_⟩
 have a:x*y<=4503599627370495*y:=Int.mul_le_mul_of_nonneg_right (by omega) k0
 omega
theorem j5 {x:Int} (h0:0<=x) (h1:x<18446744073709551616):dG x=x:=by unfold dG;omega
theorem uw {a0 b0 a1 b1 a2 b2 a3 b3 a4 b4:Int} (h0:0<=a0*b0) (h1:0<=a1*b1) (h2:0<=a2*b2) (h3:0<=a3*b3) (h4:0<=a4*b4)
  (h:a0*b0+a1*b1+a2*b2+a3*b3+a4*b4<340282366920938463463374607431768211456):
  s5 a0 b0 a1 b1 a2 b2 a3 b3 a4 b4=a0*b0+a1*b1+a2*b2+a3*b3+a4*b4:=by
 unfold s5 pX
 omega
theorem FT {a0 b0 a1 b1 a2 b2:Int} (h0:0<=a0*b0) (h1:0<=a1*b1) (h2:0<=a2*b2)
  (h:a0*b0+a1*b1+a2*b2<340282366920938463463374607431768211456):
  s3 a0 b0 a1 b1 a2 b2=a0*b0+a1*b1+a2*b2:=by
 unfold s3 pX
 omega
theorem poly (a0 a1 a2 a3 a4 b0 b1 b2 b3 b4:Int):
  (a0+2251799813685248*a1+5070602400912917605986812821504*a2+11417981541647679048466287755595961091061972992*a3+25711008708143844408671393477458601640355247900524685364822016*a4) *
   (b0+2251799813685248*b1+5070602400912917605986812821504*b2+11417981541647679048466287755595961091061972992*b3+25711008708143844408671393477458601640355247900524685364822016*b4)
  =(a0*b0+a1*(19*b4)+a2*(19*b3)+a3*(19*b2)+a4*(19*b1))+2251799813685248*(a0*b1+a1*b0+a2*(19*b4)+a3*(19*b3)+a4*(19*b2))
   + 5070602400912917605986812821504*(a0*b2+a1*b1+a2*b0+a3*(19*b4)+a4*(19*b3))+11417981541647679048466287755595961091061972992*(a0*b3+a1*b2+a2*b1+a3*b0+a4*(19*b4))
   + 25711008708143844408671393477458601640355247900524685364822016*(a0*b4+a1*b3+a2*b2+a3*b1+a4*b0)
   + 57896044618658097711785492504343953926634992332820282019728792003956564819949*((a1*b4+a2*b3+a3*b2+a4*b1)+2251799813685248*(a2*b4+a3*b3+a4*b2)+5070602400912917605986812821504*(a3*b4+a4*b3)+11417981541647679048466287755595961091061972992*(a4*b4)):=by
 grind
theorem yI {a b:Fe} (ha:Right a) (hb:Right b):m (aM a b)=m a*m b%P:=by
 have key:∃k:Int,V (aM a b)=V a*V b+(P:Int)*k:=by
  obtain⟨n0,n1,n2,n3,n4,l0,l1,l2,l3,l4⟩:=ha
  obtain⟨k0,k1,k2,k3,k4,j0,j1,j2,j3,j4⟩:=hb
  unfold aM
  rw[j5 (x:=19*b.x1) (by omega) (by omega)]
  rw[j5 (x:=19*b.x2) (by omega) (by omega)]
  rw[j5 (x:=19*b.x3) (by omega) (by omega)]
  rw[j5 (x:=19*b.x4) (by omega) (by omega)]
  obtain⟨p00,q00⟩:=bD n0 l0 k0 j0
  obtain⟨p01,q01⟩:=bD n0 l0 k1 j1
  obtain⟨p02,q02⟩:=bD n0 l0 k2 j2
  obtain⟨p03,q03⟩:=bD n0 l0 k3 j3
  obtain⟨p04,q04⟩:=bD n0 l0 k4 j4
  obtain⟨p10,q10⟩:=bD n1 l1 k0 j0
  obtain⟨p11,q11⟩:=bD n1 l1 k1 j1
  obtain⟨p12,q12⟩:=bD n1 l1 k2 j2
  obtain⟨p13,q13⟩:=bD n1 l1 k3 j3
  obtain⟨p14,q14⟩:=bD n1 l1 k4 j4
  obtain⟨p20,q20⟩:=bD n2 l2 k0 j0
  obtain⟨p21,q21⟩:=bD n2 l2 k1 j1
  obtain⟨p22,q22⟩:=bD n2 l2 k2 j2
  obtain⟨p23,q23⟩:=bD n2 l2 k3 j3
  obtain⟨p24,q24⟩:=bD n2 l2 k4 j4
  obtain⟨p30,q30⟩:=bD n3 l3 k0 j0
  obtain⟨p31,q31⟩:=bD n3 l3 k1 j1
  obtain⟨p32,q32⟩:=bD n3 l3 k2 j2
  obtain⟨p33,q33⟩:=bD n3 l3 k3 j3
  obtain⟨p34,q34⟩:=bD n3 l3 k4 j4
  obtain⟨p40,q40⟩:=bD n4 l4 k0 j0
  obtain⟨p41,q41⟩:=bD n4 l4 k1 j1
  obtain⟨p42,q42⟩:=bD n4 l4 k2 j2
  obtain⟨p43,q43⟩:=bD n4 l4 k3 j3
  obtain⟨p44,q44⟩:=bD n4 l4 k4 j4
  have e14:a.x1*(19*b.x4)=19*(a.x1*b.x4):=by rw[Int.mul_left_comm]
  have e23:a.x2*(19*b.x3)=19*(a.x2*b.x3):=by rw[Int.mul_left_comm]
  have e24:a.x2*(19*b.x4)=19*(a.x2*b.x4):=by rw[Int.mul_left_comm]
  have e32:a.x3*(19*b.x2)=19*(a.x3*b.x2):=by rw[Int.mul_left_comm]
  have e33:a.x3*(19*b.x3)=19*(a.x3*b.x3):=by rw[Int.mul_left_comm]
  have e34:a.x3*(19*b.x4)=19*(a.x3*b.x4):=by rw[Int.mul_left_comm]
  have e41:a.x4*(19*b.x1)=19*(a.x4*b.x1):=by rw[Int.mul_left_comm]
  have e42:a.x4*(19*b.x2)=19*(a.x4*b.x2):=by rw[Int.mul_left_comm]
  have e43:a.x4*(19*b.x3)=19*(a.x4*b.x3):=by rw[Int.mul_left_comm]
  have e44:a.x4*(19*b.x4)=19*(a.x4*b.x4):=by rw[Int.mul_left_comm]
  rw[uw (by omega) (by omega) (by omega) (by omega) (by omega) (by omega)]
  rw[uw (by omega) (by omega) (by omega) (by omega) (by omega) (by omega)]
  rw[uw (by omega) (by omega) (by omega) (by omega) (by omega) (by omega)]
  rw[uw (by omega) (by omega) (by omega) (by omega) (by omega) (by omega)]
  rw[uw (by omega) (by omega) (by omega) (by omega) (by omega) (by omega)]
  have hp:=poly a.x0 a.x1 a.x2 a.x3 a.x4 b.x0 b.x1 b.x2 b.x3 b.x4
  obtain⟨k,hk⟩:=YD (s0:=a.x0*b.x0+a.x1*(19*b.x4)+a.x2*(19*b.x3)+a.x3*(19*b.x2)+a.x4*(19*b.x1)) (s1:=a.x0*b.x1+a.x1*b.x0+a.x2*(19*b.x4)+a.x3*(19*b.x3)+a.x4*(19*b.x2)) (s2:=a.x0*b.x2+a.x1*b.x1+a.x2*b.x0+a.x3*(19*b.x4)+a.x4*(19*b.x3)) (s3:=a.x0*b.x3+a.x1*b.x2+a.x2*b.x1+a.x3*b.x0+a.x4*(19*b.x4)) (s4:=a.x0*b.x4+a.x1*b.x3+a.x2*b.x2+a.x3*b.x1+a.x4*b.x0)
   (by omega) (by omega) (by omega) (by omega) (by omega) (by omega) (by omega) (by omega) (by omega) (by omega)
  rw[hk]
  refine⟨k-((a.x1*b.x4+a.x2*b.x3+a.x3*b.x2+a.x4*b.x1)+2251799813685248*(a.x2*b.x4+a.x3*b.x3+a.x4*b.x2)+5070602400912917605986812821504*(a.x3*b.x4+a.x4*b.x3)+11417981541647679048466287755595961091061972992*(a.x4*b.x4)),?_⟩
  simp only[V,P]at hp ⊢
  rw[hp]
  omega
 obtain⟨k,hk⟩:=key
 apply Ma (xK _)
 rw[mH,hk,Int.add_mul_emod_self_left,Int.natCast_mul,mH,mH,Int.emod_emod,<- Int.mul_emod]
theorem aa8 {a:Fe} (ha:Right a):bZ a=aM a a:=by
 obtain⟨n0,n1,n2,n3,n4,l0,l1,l2,l3,l4⟩:=ha
 unfold bZ aM
 rw[j5 (x:=19*a.x1) (by omega) (by omega)]
 rw[j5 (x:=19*a.x2) (by omega) (by omega)]
 rw[j5 (x:=19*a.x3) (by omega) (by omega)]
 rw[j5 (x:=19*a.x4) (by omega) (by omega)]
 rw[j5 (x:=2*a.x0) (by omega) (by omega)]
 rw[j5 (x:=2*a.x1) (by omega) (by omega)]
 rw[j5 (x:=2*a.x2) (by omega) (by omega)]
 rw[j5 (x:=2*a.x3) (by omega) (by omega)]
 obtain⟨p00,q00⟩:=bD n0 l0 n0 l0
 obtain⟨p01,q01⟩:=bD n0 l0 n1 l1
 obtain⟨p02,q02⟩:=bD n0 l0 n2 l2
 obtain⟨p03,q03⟩:=bD n0 l0 n3 l3
 obtain⟨p04,q04⟩:=bD n0 l0 n4 l4
 obtain⟨p10,q10⟩:=bD n1 l1 n0 l0
 obtain⟨p11,q11⟩:=bD n1 l1 n1 l1
 obtain⟨p12,q12⟩:=bD n1 l1 n2 l2
 obtain⟨p13,q13⟩:=bD n1 l1 n3 l3
 obtain⟨p14,q14⟩:=bD n1 l1 n4 l4
 obtain⟨p20,q20⟩:=bD n2 l2 n0 l0
 obtain⟨p21,q21⟩:=bD n2 l2 n1 l1
 obtain⟨p22,q22⟩:=bD n2 l2 n2 l2
 obtain⟨p23,q23⟩:=bD n2 l2 n3 l3
 obtain⟨p24,q24⟩:=bD n2 l2 n4 l4
 obtain⟨p30,q30⟩:=bD n3 l3 n0 l0
 obtain⟨p31,q31⟩:=bD n3 l3 n1 l1
 obtain⟨p32,q32⟩:=bD n3 l3 n2 l2
 obtain⟨p33,q33⟩:=bD n3 l3 n3 l3
 obtain⟨p34,q34⟩:=bD n3 l3 n4 l4
 obtain⟨p40,q40⟩:=bD n4 l4 n0 l0
 obtain⟨p41,q41⟩:=bD n4 l4 n1 l1
 obtain⟨p42,q42⟩:=bD n4 l4 n2 l2
 obtain⟨p43,q43⟩:=bD n4 l4 n3 l3
 obtain⟨p44,q44⟩:=bD n4 l4 n4 l4
 have c10:a.x1*a.x0=a.x0*a.x1:=Int.mul_comm ..
 have e14:a.x1*(19*a.x4)=19*(a.x1*a.x4):=by rw[Int.mul_left_comm]
 have c20:a.x2*a.x0=a.x0*a.x2:=Int.mul_comm ..
 have c21:a.x2*a.x1=a.x1*a.x2:=Int.mul_comm ..
 have e23:a.x2*(19*a.x3)=19*(a.x2*a.x3):=by rw[Int.mul_left_comm]
 have e24:a.x2*(19*a.x4)=19*(a.x2*a.x4):=by rw[Int.mul_left_comm]
 have c30:a.x3*a.x0=a.x0*a.x3:=Int.mul_comm ..
 have c31:a.x3*a.x1=a.x1*a.x3:=Int.mul_comm ..
 have c32:a.x3*a.x2=a.x2*a.x3:=Int.mul_comm ..
 have e32:a.x3*(19*a.x2)=19*(a.x3*a.x2):=by rw[Int.mul_left_comm]
 have e33:a.x3*(19*a.x3)=19*(a.x3*a.x3):=by rw[Int.mul_left_comm]
 have e34:a.x3*(19*a.x4)=19*(a.x3*a.x4):=by rw[Int.mul_left_comm]
 have c40:a.x4*a.x0=a.x0*a.x4:=Int.mul_comm ..
 have c41:a.x4*a.x1=a.x1*a.x4:=Int.mul_comm ..
 have e41:a.x4*(19*a.x1)=19*(a.x4*a.x1):=by rw[Int.mul_left_comm]
 have c42:a.x4*a.x2=a.x2*a.x4:=Int.mul_comm ..
 have e42:a.x4*(19*a.x2)=19*(a.x4*a.x2):=by rw[Int.mul_left_comm]
 have c43:a.x4*a.x3=a.x3*a.x4:=Int.mul_comm ..
 have e43:a.x4*(19*a.x3)=19*(a.x4*a.x3):=by rw[Int.mul_left_comm]
 have e44:a.x4*(19*a.x4)=19*(a.x4*a.x4):=by rw[Int.mul_left_comm]
 have f14:2*a.x1*(19*a.x4)=38*(a.x1*a.x4):=by grind
 have f23:2*a.x2*(19*a.x3)=38*(a.x2*a.x3):=by grind
 have f24:2*a.x2*(19*a.x4)=38*(a.x2*a.x4):=by grind
 have f34:2*a.x3*(19*a.x4)=38*(a.x3*a.x4):=by grind
 have g01:2*a.x0*a.x1=2*(a.x0*a.x1):=Int.mul_assoc ..
 have g02:2*a.x0*a.x2=2*(a.x0*a.x2):=Int.mul_assoc ..
 have g03:2*a.x0*a.x3=2*(a.x0*a.x3):=Int.mul_assoc ..
 have g12:2*a.x1*a.x2=2*(a.x1*a.x2):=Int.mul_assoc ..
 have g04:2*a.x0*a.x4=2*(a.x0*a.x4):=Int.mul_assoc ..
 have g13:2*a.x1*a.x3=2*(a.x1*a.x3):=Int.mul_assoc ..
 rw[FT (by omega) (by omega) (by omega) (by omega)]
 rw[FT (by omega) (by omega) (by omega) (by omega)]
 rw[FT (by omega) (by omega) (by omega) (by omega)]
 rw[FT (by omega) (by omega) (by omega) (by omega)]
 rw[FT (by omega) (by omega) (by omega) (by omega)]
 rw[uw (by omega) (by omega) (by omega) (by omega) (by omega) (by omega)]
 rw[uw (by omega) (by omega) (by omega) (by omega) (by omega) (by omega)]
 rw[uw (by omega) (by omega) (by omega) (by omega) (by omega) (by omega)]
 rw[uw (by omega) (by omega) (by omega) (by omega) (by omega) (by omega)]
 rw[uw (by omega) (by omega) (by omega) (by omega) (by omega) (by omega)]
 congr 1<;>omega
theorem YE {a:Fe} (ha:Right a):m (bZ a)=m a*m a%P:=by rw[aa8 ha,yI ha ha]
def gB (a:Fe):Fe:=
 ⟨(m a:Int)%2251799813685248,(m a:Int)/2251799813685248%2251799813685248,(m a:Int)/5070602400912917605986812821504%2251799813685248,
  (m a:Int)/11417981541647679048466287755595961091061972992%2251799813685248,(m a:Int)/25711008708143844408671393477458601640355247900524685364822016%2251799813685248⟩
def yJ (a:Fe):Int:=(a.x0+19)/2251799813685248
def zR (a:Fe):Int:=(a.x1+yJ a)/2251799813685248
def CW (a:Fe):Int:=(a.x2+zR a)/2251799813685248
def FU (a:Fe):Int:=(a.x3+CW a)/2251799813685248
def uy (a:Fe):Int:=(a.x4+FU a)/2251799813685248
def Rb (a:Fe):Int:=a.x0+19*uy a
def Rf (a:Fe):Int:=a.x1+Rb a/2251799813685248
def Rh (a:Fe):Int:=a.x2+Rf a/2251799813685248
def Ri (a:Fe):Int:=a.x3+Rh a/2251799813685248
def Vp (a:Fe):Int:=a.x4+Ri a/2251799813685248
structure Low (a:Fe):Prop where
 n0:0<=a.x0
 n1:0<=a.x1
 n2:0<=a.x2
 n3:0<=a.x3
 n4:0<=a.x4
 l0:a.x0<2251799813840896
 l1:a.x1<2251799813693440
 l2:a.x2<2251799813693440
 l3:a.x3<2251799813693440
 l4:a.x4<2251799813693440
theorem NT {a:Fe} (h:Ok a):Low (jZ a):=by
 obtain⟨n0,n1,n2,n3,n4,l0,l1,l2,l3,l4⟩:=h
 constructor<;>simp only[jZ]<;>omega
theorem Mc {a:Fe} (h:Low a):uy a=(V a+19)/57896044618658097711785492504343953926634992332820282019728792003956564819968:=by
 obtain⟨n0,n1,n2,n3,n4,l0,l1,l2,l3,l4⟩:=h
 simp only[uy,FU,CW,zR,yJ,V]
 omega
theorem Vq {a:Fe} (h:Low a):0<=uy a/\uy a<=1:=by
 rw[Mc h]
 obtain⟨n0,n1,n2,n3,n4,l0,l1,l2,l3,l4⟩:=h
 simp only[V]
 omega
theorem aa9 {a:Fe} (h:Low a):(m a:Int)=V a-(P:Int)*uy a:=by
 have e:=Mc h
 rw[mH]
 obtain⟨n0,n1,n2,n3,n4,l0,l1,l2,l3,l4⟩:=h
 simp only[V,P]at e ⊢
 omega
theorem digits {M d0 d1 d2 d3 d4:Int} (n0:0<=d0) (n1:0<=d1) (n2:0<=d2) (n3:0<=d3) (n4:0<=d4)
  (l0:d0<2251799813685248) (l1:d1<2251799813685248) (l2:d2<2251799813685248) (l3:d3<2251799813685248) (l4:d4<2251799813685248)
  (h:M=d0+2251799813685248*d1+5070602400912917605986812821504*d2+11417981541647679048466287755595961091061972992*d3+25711008708143844408671393477458601640355247900524685364822016*d4):
  (⟨M%2251799813685248,M/2251799813685248%2251799813685248,M/5070602400912917605986812821504%2251799813685248,M/11417981541647679048466287755595961091061972992%2251799813685248,M/25711008708143844408671393477458601640355247900524685364822016%2251799813685248⟩:Fe)=⟨d0,d1,d2,d3,d4⟩:=by
 have e1:M/2251799813685248=d1+2251799813685248*d2+5070602400912917605986812821504*d3+11417981541647679048466287755595961091061972992*d4:=by omega
 have e2:M/5070602400912917605986812821504=d2+2251799813685248*d3+5070602400912917605986812821504*d4:=by omega
 have e3:M/11417981541647679048466287755595961091061972992=d3+2251799813685248*d4:=by omega
 have e4:M/25711008708143844408671393477458601640355247900524685364822016=d4:=by omega
 rw[e1,e2,e3,e4]
 congr 1<;>omega
theorem Rj {a:Fe} (h:Low a):gB a=⟨Rb a%2251799813685248,Rf a%2251799813685248,Rh a%2251799813685248,Ri a%2251799813685248,Vp a%2251799813685248⟩:=by
 have e:=aa9 h
 have o:=Vq h
 have hl:=xK a
 obtain⟨n0,n1,n2,n3,n4,l0,l1,l2,l3,l4⟩:=h
 unfold gB
 refine digits (by omega) (by omega) (by omega) (by omega) (by omega) (by omega) (by omega) (by omega) (by omega) (by omega) ?_
 have hn:(0:Int)<=(m a:Int):=by omega
 have hl':(m a:Int)<57896044618658097711785492504343953926634992332820282019728792003956564819949:=by unfold P at hl;omega
 clear hl
 rw[e]at hn hl' ⊢
 simp only[V,P]at hn hl' ⊢
 simp only[Vp,Ri,Rh,Rf,Rb]
 generalize uy a=o5 at *
 omega
theorem FV (a:Fe):gB (jZ a)=gB a:=by unfold gB;rw[D8]
end Fe
end
namespace Fe
open Num
def zS:Nat:=57896044618658097711785492504343953926634992332820282019728792003956564819948
def eInv:Nat:=57896044618658097711785492504343953926634992332820282019728792003956564819947
def uz:Nat:=28948022309329048855892746252171976963317496166410141009864396001978282409974
def oJ:Nat:=7237005577332262213973186563042994240829374041602535252466099000494570602493
def Ea:Nat:=14474011154664524427946373126085988481658748083205070504932198000989141204987
theorem Rk:zS=P-1:=by decide +kernel
theorem Vr:eInv+1=zS:=by decide +kernel
theorem Rl:uz+uz=zS:=by decide +kernel
theorem NU:2*uz=zS:=by decide +kernel
theorem FW:2*Ea=uz:=by decide +kernel
theorem JX:oJ+oJ+1=Ea:=by decide +kernel
theorem vQ:Prime P:=Vo
theorem P_2:2<=P:=vQ.1
theorem Vs {x:Nat} (h:x%P≠0):¬P ∣ x:=fun k=>h (Nat.mod_eq_zero_of_dvd k)
theorem Eb {x:Nat} (h:x%P≠0):x^zS%P=1:=by rw[Rk];exact Q5 vQ (Vs h)
theorem eG {x y:Nat} (hx:x%P≠0) (hy:y%P≠0):x*y%P≠0:=fun h=>by
 rcases vQ.dvd_mul (Nat.dvd_of_mod_eq_zero h) with k|k
 .exact hx (Nat.mod_eq_zero_of_dvd k)
 .exact hy (Nat.mod_eq_zero_of_dvd k)
theorem YF {x:Nat} (hx:x%P≠0) (n:Nat):x^n%P≠0:=by
 induction n with
 | zero=>rw[Nat.pow_zero,Nat.mod_eq_of_lt P_2];omega
 | succ n ih=>rw[Nat.pow_succ];exact eG ih hx
theorem vR {a b c d:Nat} (h:a%P=b%P) (k:c%P=d%P):a*c%P=b*d%P:=by rw[Nat.mul_mod,h,k,<- Nat.mul_mod]
theorem FX {a b:Nat} (n:Nat) (h:a%P=b%P):a^n%P=b^n%P:=by rw[Nat.pow_mod,h,<- Nat.pow_mod]
theorem YG (x:Nat):x*(x^eInv%P)%P=if x%P=0 then 0 else 1:=by
 by_cases h:x%P=0
 .rw[if_pos h,Nat.mul_mod,h,Nat.zero_mul,Nat.zero_mod]
 .rw[if_neg h,Nat.mul_mod_mod,<- Nat.pow_succ',show eInv.succ=zS from Vr,Eb h]
theorem YH {y:Nat} (h:y*y%P=1):y%P=1\/y%P=P-1:=by
 have h2:=P_2
 rcases Nat.eq_zero_or_pos y with e|e
 .subst e;rw[Nat.zero_mul,Nat.zero_mod]at h;omega
 .obtain⟨z,rfl⟩:∃z,y=z+1:=⟨y-1,by omega⟩
  have e1:(z+1)*(z+1)=z*(z+2)+1:=by grind
  have hd:P ∣ z*(z+2):=by
   have:=Nat.sub_mod_eq_zero_of_mod_eq (m:=(z+1)*(z+1)) (n:=1) (k:=P) (by rw[h,Nat.mod_eq_of_lt h2])
   rw[e1,Nat.add_sub_cancel]at this
   exact Nat.dvd_of_mod_eq_zero this
  rcases vQ.dvd_mul hd with⟨k,hk⟩ |⟨k,hk⟩
  .left;rw[hk,Nat.mul_add_mod,Nat.mod_eq_of_lt h2]
  .right
   have:z+1=P*k-1:=by omega
   unfold P at *
   omega
theorem Rm {x:Nat} (h:x%P≠0):x^uz%P=1\/x^uz%P=P-1:=by
 apply YH
 rw[<- Nat.pow_add,Rl]
 exact Eb h
theorem FY {x s:Nat} (hx:x%P≠0) (h:s*s%P=x%P):x^uz%P=1:=by
 have hs:s%P≠0:=fun e=>hx (by rw[<- h,Nat.mul_mod,e,Nat.zero_mul,Nat.zero_mod])
 have e:(s*s)^uz=s^zS:=by
  rw[show s*s=s^2 from by rw[Nat.pow_succ,Nat.pow_one],<- Nat.pow_mul,NU]
 rw[<- FX _ h,e,Eb hs]
def i0:Nat:=19681161376707505956807079304988542015446066515923890162744021073123829784752
theorem abd:i0*i0%P=P-1:=by decide +kernel
def gN (u v:Nat):Nat:=u*v^3*(u*v^7)^oJ
def FZ (u v:Nat):Nat:=(u*v^7)^Ea
theorem YI (u v:Nat):gN u v*gN u v*v=u*FZ u v:=by
 have e:FZ u v=(u*v^7)^oJ*(u*v^7)^oJ*(u*v^7):=by
  unfold FZ
  rw[<- Nat.pow_add,<- Nat.pow_succ,<- JX]
 rw[e]
 unfold gN
 generalize (u*v^7)^oJ=Y
 grind
def mP (r u v:Nat):Prop:=r*r*v%P=u%P
instance (r u v:Nat):Decidable (mP r u v):=inferInstanceAs (Decidable (_=_))
theorem F3 (x:Nat):x*(P-1)*(P-1)%P=x%P:=by
 have e:x*(P-1)*(P-1)=x+P*(x*(P-2)):=by
  obtain⟨q,hq⟩:∃q,P=q+2:=⟨P-2,by have:=P_2;omega⟩
  rw[hq,show q+2-1=q+1 by omega,show q+2-2=q by omega]
  grind
 rw[e,Nat.add_mul_mod_self_left]
theorem Rn {u v:Nat} (h:FZ u v%P=1\/FZ u v%P=P-1):mP (gN u v) u v\/mP (gN u v*i0) u v:=by
 have h2:=P_2
 rcases h with h|h
 .left
  unfold mP
  rw[YI,Nat.mul_mod,h,Nat.mul_one,Nat.mod_mod]
 .right
  unfold mP
  have e:gN u v*i0*(gN u v*i0)*v=(gN u v*gN u v*v)*(i0*i0):=by generalize gN u v=g;grind
  have c1:FZ u v%P=(P-1)%P:=by rw[h,Nat.mod_eq_of_lt (by omega)]
  have c2:i0*i0%P=(P-1)%P:=by rw[abd,Nat.mod_eq_of_lt (by omega)]
  rw[e,YI,vR (vR (rfl:u%P=u%P) c1) c2,F3]
theorem NV {u v:Nat} (h:u%P=0):mP (gN u v) u v:=by
 unfold mP
 rw[YI,Nat.mul_mod,h,Nat.zero_mul,Nat.zero_mod]
theorem zT {u v t:Nat} (h:t*t*v%P=u%P):mP (gN u v) u v\/mP (gN u v*i0) u v:=by
 by_cases hu:u%P=0
 .exact Or.inl (NV hu)
 have hv:v%P≠0:=fun e=>hu (by rw[<- h,Nat.mul_mod,e,Nat.mul_zero,Nat.zero_mod])
 have ht:t%P≠0:=fun e=>hu (by rw[<- h,Nat.mul_assoc,Nat.mul_mod,e,Nat.zero_mul,Nat.zero_mod])
 have hw:=eG ht (YF hv 4)
 apply Rn
 have e:FZ u v%P=(t*v^4)^uz%P:=by
  have c:u*v^7%P=(t*v^4)^2%P:=by
   rw[vR h.symm (rfl:v^7%P=v^7%P)]
   congr 1
   grind
  unfold FZ
  rw[FX _ c,<- Nat.pow_mul,FW]
 rw[e]
 exact Rm hw
end Fe
section
open Go.Shelf
def F4:Go.Shelf.Ren:=⟨fun|264=>110|n=>n,fun|53=>64|46=>136|n=>n,fun|n=>n⟩
theorem Vt:Go.Proofs.Lays.n264 Tryz.prog F4:={
 mixed:=by kernel_rfl
 f264:=Tryz.func110.trans (congrArg some (by kernel_rfl))
 t46:=Tryz.underlying136
 a46:=Tryz.isAgg136
 z46:=Tryz.sizeOf136
 v46:=Tryz.zeroValue136
 t53:=Tryz.underlying64
 a53:=Tryz.isAgg64
 z53:=Tryz.sizeOf64
 v53:=Tryz.zeroValue64}
theorem XO (x y:Int) (hx0:0<=x) (hy0:0<=y) (hx:x<18446744073709551616) (hy:y<18446744073709551616) (w:World):
  Calls Tryz.prog 110 #[.int .u64 x,.int .u64 y] w fun e w'=>e=.returned (.tuple #[.int .u64 (x*y/18446744073709551616),.int .u64 (x*y%18446744073709551616)])/\w=w':=by
 obtain⟨x,rfl⟩:=Int.eq_ofNat_of_zero_le hx0
 obtain⟨y,rfl⟩:=Int.eq_ofNat_of_zero_le hy0
 refine (Any.bits_Mul64 Vt x y (by omega) (by omega) w).mono ?_
 rintro e w' ⟨rfl,rfl⟩
 refine⟨?_,rfl⟩
 rw[Int.natCast_ediv,Int.natCast_emod,Int.natCast_mul]
 rfl
theorem Ro (x y:Int) (hx0:0<=x) (hy0:0<=y) (w:World):(callFunc 111 #[.int .u64 x,.int .u64 y,.int .u64 0]).run Tryz.prog w=
  .ok (.value (.tuple #[.int .u64 ((x+y)%18446744073709551616),.int .u64 ((x+y)/18446744073709551616)])) w:=by
 have h:=run_add64 (P:=Tryz.prog) x y 0 (by omega) (by omega) (by omega) (by omega) (w:=w)
 rw[run_callFunc_extern Tryz.func111 (by kernel_rfl) (by kernel_rfl) (by kernel_rfl) (e:=add64Entry) (by kernel_rfl),h]
 simp only[Result.andThen,Int.add_zero]
end
section
open Go.RowKit
def Fe.v (a:Fe):Value:=.agg #[.int .u64 a.x0,.int .u64 a.x1,.int .u64 a.x2,.int .u64 a.x3,.int .u64 a.x4]
theorem mI (x:Int) (h0:0<=x) (h1:x<18446744073709551616):bits .and .u64 x 2251799813685247=x%2251799813685248:=by
 obtain⟨x,rfl⟩:=Int.eq_ofNat_of_zero_le h0
 have e:(2251799813685247:Int)=((2251799813685247:Nat):Int):=rfl
 rw[e,u64_and_nat _ _ (by omega) (by decide),show (2251799813685247:Nat)=2^51-1 from rfl,Nat.and_two_pow_sub_one_eq_mod]
 omega
theorem ig (x:Int):IntKind.u64.wrap x=Fe.dG x:=IntKind.wrap_u64 x
theorem qB (x y:Int) (h0:0<=x) (h1:x<18446744073709551616) (k0:0<=y) (k1:y<18446744073709551616):
  IntKind.u64.wrap (bits .and .u64 x 2251799813685247+y/2251799813685248)=x%2251799813685248+y/2251799813685248:=by
 rw[mI x h0 h1,ig,Fe.j5]<;>omega
theorem F5 (x y:Int) (h0:0<=x) (h1:x<18446744073709551616) (k0:0<=y) (k1:y<18446744073709551616):
  IntKind.u64.wrap (bits .and .u64 x 2251799813685247+19*(y/2251799813685248))=x%2251799813685248+19*(y/2251799813685248):=by
 rw[mI x h0 h1,ig,Fe.j5]<;>omega
set_option maxHeartbeats 400000 in
theorem NW (x0 x1 x2 x3 x4:Int) (w:World) (n0:0<=x0) (n1:0<=x1) (n2:0<=x2) (n3:0<=x3) (n4:0<=x4)
  (l0:x0<18446744073709551616) (l1:x1<18446744073709551616) (l2:x2<18446744073709551616) (l3:x3<18446744073709551616) (l4:x4<18446744073709551616):
  Calls Tryz.prog 137 #[.agg #[.int .u64 x0,.int .u64 x1,.int .u64 x2,.int .u64 x3,.int .u64 x4]] w fun e w'=>e=.returned (Fe.jZ ⟨x0,x1,x2,x3,x4⟩).v/\w.grownBy w' none:=by
 have H0:=Lib.hid (F5 x0 x4 n0 l0 n4 l4)
 have H1:=Lib.hid (qB x1 x0 n1 l1 n0 l0)
 have H2:=Lib.hid (qB x2 x1 n2 l2 n1 l1)
 have H3:=Lib.hid (qB x3 x2 n3 l3 n2 l2)
 have H4:=Lib.hid (qB x4 x3 n4 l4 n3 l3)
 go_enter Tryz.func137,Tryz.ntmps137
 go_wp2
 refine bodyPost_ret (v:=(Fe.jZ ⟨x0,x1,x2,x3,x4⟩).v) ?_ rfl ⟨rfl,au (au (ah _ _) _) _⟩
 simp[results,Tryz.results137,go_sem]
 rw[H0.out,H1.out,H2.out,H3.out,H4.out]
 rfl
theorem F6 (a:Fe) (w:World) (h:a.Ok):Calls Tryz.prog 137 #[a.v] w fun e w'=>e=.returned (Fe.jZ a).v/\w.grownBy w' none:=
 NW a.x0 a.x1 a.x2 a.x3 a.x4 w h.n0 h.n1 h.n2 h.n3 h.n4 h.l0 h.l1 h.l2 h.l3 h.l4
def zU (S:Int):Value:=.agg #[.int .u64 (S/18446744073709551616),.int .u64 (S%18446744073709551616)]
structure nL (S:Int):Prop where
 n:0<=S
 l:S<340282366920938463463374607431768211456
theorem NY (h l:Int) (h0:0<=h) (h1:h<18446744073709551616) (l0:0<=l) (l1:l<18446744073709551616):
  bits .or .u64 (IntKind.u64.wrap (h*8192)) (l/2251799813685248)=Fe.mO (h*18446744073709551616+l):=by
 obtain⟨h,rfl⟩:=Int.eq_ofNat_of_zero_le h0
 obtain⟨l,rfl⟩:=Int.eq_ofNat_of_zero_le l0
 have e1:IntKind.u64.wrap ((h:Int)*8192)=((2^13*(h%2251799813685248):Nat):Int):=by rw[ig];unfold Fe.dG;omega
 have e2:(l:Int)/2251799813685248=((l/2251799813685248:Nat):Int):=by omega
 rw[e1,e2,u64_or_nat _ _ (by omega) (by omega),<- Nat.two_pow_add_eq_or_of_lt (by omega)]
 unfold Fe.mO Fe.dG
 omega
theorem NZ (h l:Int) (l0:0<=l) (l1:l<18446744073709551616):bits .and .u64 l 2251799813685247=Fe.mM (h*18446744073709551616+l):=by
 rw[mI l l0 l1];unfold Fe.mM;omega
set_option maxHeartbeats 400000 in
theorem Rp (h l:Int) (w:World) (l0:0<=l) (l1:l<18446744073709551616):
  Calls Tryz.prog 138 #[.agg #[.int .u64 h,.int .u64 l]] w fun e w'=>e=.returned (.int .u64 (Fe.mM (h*18446744073709551616+l)))/\w'=w.alloc (.cells #[.int .u64 h,.int .u64 l] 172):=by
 have H0:=Lib.hid (NZ h l l0 l1)
 go_enter Tryz.func138,Tryz.ntmps138
 go_wp2
 go_ret
 exact⟨by rw[H0.out];rfl,rfl⟩
set_option maxHeartbeats 400000 in
theorem Rq (h l:Int) (w:World) (h0:0<=h) (h1:h<18446744073709551616) (l0:0<=l) (l1:l<18446744073709551616):
  Calls Tryz.prog 139 #[.agg #[.int .u64 h,.int .u64 l]] w fun e w'=>e=.returned (.int .u64 (Fe.mO (h*18446744073709551616+l)))/\w'=w.alloc (.cells #[.int .u64 h,.int .u64 l] 172):=by
 have H0:=Lib.hid (NY h l h0 h1 l0 l1)
 go_enter Tryz.func139,Tryz.ntmps139
 go_wp2
 go_ret
 exact⟨by rw[H0.out];rfl,rfl⟩
theorem Rs (h l a b:Int):
  (l+a*b)%18446744073709551616=Fe.pX (h*18446744073709551616+l) a b%18446744073709551616/\
  IntKind.u64.wrap (h+IntKind.u64.wrap (a*b/18446744073709551616+(l+a*b%18446744073709551616)/18446744073709551616))=Fe.pX (h*18446744073709551616+l) a b/18446744073709551616:=by
 rw[ig,ig]
 unfold Fe.pX Fe.dG
 generalize a*b=p at *
 omega
set_option maxHeartbeats 400000 in
theorem Ru (B:Nat) (h l a b:Int) (w:World) (T:TypeId) (l0:0<=l)
  (a0:0<=a) (a1:a<18446744073709551616) (b0:0<=b) (b1:b<18446744073709551616) (hb:aG w B T [.int .u64 h,.int .u64 l]):
  Calls Tryz.prog 140 #[.pointer (some ⟨B,0,none⟩),.int .u64 a,.int .u64 b] w fun e w'=>e=.returned (.tuple #[])/\w.grownBy w' (some B)/\
   aG w' B T [.int .u64 (Fe.pX (h*18446744073709551616+l) a b/18446744073709551616),.int .u64 (Fe.pX (h*18446744073709551616+l) a b%18446744073709551616)]:=by
 have H:=Lib.hid (Rs h l a b)
 have q0:0<=a*b%18446744073709551616:=by omega
 have c0:=hb.cell (i:=0) rfl
 have c1:=hb.cell (i:=1) rfl
 have f0:=hb.free 0
 have f1:=hb.free 1
 go_enter Tryz.func140,Tryz.ntmps140
 go_wp2_with (first|(go_at_call 110;refine (XO _ _ a0 b0 a1 b1 _).mono ?_;rintro e w' ⟨rfl,rfl⟩)|simp only[Ro _ _ l0 q0])
 go_end0
 refine⟨rfl,aS (aS (ah _ _) _ _) _ _,?_⟩
 rw[H.out.1,H.out.2]
 exact (hb.set 1 _).set 0 _
def flat:List (Int×Int)->List Value
 | []=>[]
 | p:: r=>.int .u64 p.1:: .int .u64 p.2:: flat r
theorem flat_get (ps:List (Int×Int)) (k:Nat) (h:k<ps.length):(flat ps)[k*2]?=some (.int .u64 (ps.getD k (0,0)).1)/\(flat ps)[k*2+1]?=some (.int .u64 (ps.getD k (0,0)).2):=by
 induction ps generalizing k with
 | nil=>simp at h
 | cons p r ih=>
  cases k with
  | zero=>exact⟨rfl,rfl⟩
  | succ k=>
   have:=ih k (by simpa using h)
   rw[show (k+1)*2=k*2+1+1 by omega]
   simpa[flat] using this
def nM (ps:List (Int×Int)):Int:=ps.foldl (fun S p=>Fe.pX S p.1 p.2) 0
theorem Oa (ps:List (Int×Int)) (k:Nat) (h:k<ps.length):nM (ps.take (k+1))=Fe.pX (nM (ps.take k)) (ps.getD k (0,0)).1 (ps.getD k (0,0)).2:=by
 have e:ps.getD k (0,0)=ps[k]:=by rw[List.getD_eq_getElem?_getD,List.getElem?_eq_getElem h];rfl
 unfold nM
 rw[List.take_succ_eq_append_getElem h,List.foldl_append,e]
 rfl
theorem Vu (S a b:Int):0<=Fe.pX S a b/\Fe.pX S a b<340282366920938463463374607431768211456:=by unfold Fe.pX;omega
theorem gu (ps:List (Int×Int)):0<=nM ps/\nM ps<340282366920938463463374607431768211456:=by
 rcases List.eq_nil_or_concat ps with rfl |⟨l,x,rfl⟩
 .unfold nM;simp
 .unfold nM;rw[List.concat_eq_append,List.foldl_append];exact Vu ..
theorem bJ {a b:Nat} (h:a≠b):some a≠some b:=fun e=>h (Option.some.inj e)
theorem halves (S:Int):S/18446744073709551616*18446744073709551616+S%18446744073709551616=S:=by omega
set_option maxHeartbeats 800000 in
theorem jm (PB n:Nat) (ps:List (Int×Int)) (w:World) (T:TypeId) (hn:ps.length=n) (hn2:n<=1000) (hb:aG w PB T (flat ps))
  (hp:∀p∈ps,0<=p.1/\p.1<18446744073709551616/\0<=p.2/\p.2<18446744073709551616):
  Calls Tryz.prog 109 #[.slice (some ⟨PB,0,none⟩) n n] w fun e w'=>e=.returned (zU (nM ps))/\w.grownBy w' none:=by
 have hlt:=hb.lt
 have Hn:=Lib.hid hn;clear hn
 go_enter Tryz.func109,Tryz.ntmps109
 go_wp2
 go_loopw [8] (fun i wr=>∃k:Nat,k<=n/\i=.int .i64 k/\w.grownBy wr none/\aG wr PB T (flat ps)/\w.heap.size+1<wr.heap.size/\
   aG wr w.heap.size 172 [.int .u64 0,.int .u64 0]/\
   aG wr (w.heap.size+1) 172 [.int .u64 (nM (ps.take k)/18446744073709551616),.int .u64 (nM (ps.take k)%18446744073709551616)]) (fun i _=>n-(intOf i).toNat)
 case atStart=>
  refine⟨0,by omega,rfl,au (au (ah _ _) _) _,(hb.alloc _).alloc _,by simp,?_,?_⟩
  .exact (aG.new w [.int .u64 0,.int .u64 0] 172).alloc _
  .have:=aG.new (w.alloc (.cells #[.int .u64 0,.int .u64 0] 172)) [.int .u64 0,.int .u64 0] 172
   simpa[nM] using this
 case round=>
  obtain⟨k,hk,rfl,hg,hB,hsz,hR,hS⟩:=hrel
  by_cases hkn:k<n
  .have hkl:k<ps.length:=by rw[Hn.out];exact hkn
   have hsb:=gu (ps.take k)
   have Hs:=Lib.hid (Oa ps k hkl)
   have hget:=flat_get ps k hkl
   have hmem:ps.getD k (0,0)∈ps:=by rw[List.getD_eq_getElem?_getD,List.getElem?_eq_getElem hkl];exact List.getElem_mem hkl
   obtain⟨p0,p1,p2,p3⟩:=hp _ hmem
   obtain⟨S,hS0⟩:∃S,S=nM (ps.take k):=⟨_,rfl⟩
   rw[<- hS0]at hsb hS
   have vH:=Lib.hid hS0;clear hS0
   obtain⟨a,ha⟩:∃a,a=(ps.getD k (0,0)).1:=⟨_,rfl⟩
   obtain⟨b,hbb⟩:∃b,b=(ps.getD k (0,0)).2:=⟨_,rfl⟩
   rw[<- ha,<- hbb]at hget
   rw[<- ha]at p0 p1
   rw[<- hbb]at p2 p3
   have Ha:=Lib.hid ha;clear ha
   have Hb:=Lib.hid hbb;clear hbb
   have c0:=hB.cell hget.1
   have c1:=hB.cell hget.2
   clear hget hmem hkl
   have s0:0<=S/18446744073709551616:=by omega
   have s1:S/18446744073709551616<18446744073709551616:=by omega
   have s2:0<=S%18446744073709551616:=by omega
   go_wp2_with (go_at_call 140;refine (Ru (w.heap.size+1) _ _ a b _ 172 s2 p0 p1 p2 p3 (hS.alloc _)).mono ?_;rintro e w1 ⟨rfl,hg1,hS1⟩)
   have hsz1:w.heap.size+1<w1.heap.size:=by have:=hg1.size;simp at this;omega
   go_roundw
   case rel=>
    refine⟨k+1,by omega,by go_num,aX (au hg _) hg1 (by omega),(hB.alloc _).grown hg1 (bJ (by omega)),hsz1,(hR.alloc _).grown hg1 (bJ (by omega)),?_⟩
    rw[Hs.out,<- vH.out,<- Ha.out,<- Hb.out]
    rw[halves]at hS1
    exact hS1
   case measure=>simp[intOf];omega
  .obtain rfl:k=n:=by omega
   have e:ps.take k=ps:=by rw[List.take_of_length_le];rw[Hn.out];omega
   rw[e]at hS
   clear e
   obtain⟨S,hS0⟩:∃S,S=nM ps:=⟨_,rfl⟩
   rw[<- hS0]at hS
   have vH:=Lib.hid hS0;clear hS0
   have c0:=hS.cell (i:=0) rfl
   have c1:=hS.cell (i:=1) rfl
   have r0:=hR.cell (i:=0) rfl
   have r1:=hR.cell (i:=1) rfl
   have z0:=hR.free 0
   have z1:=hR.free 1
   go_wp2
   refine bodyPost_ret (v:=.agg #[.int .u64 (S/18446744073709551616),.int .u64 (S%18446744073709551616)]) ?_ rfl ⟨by rw[<- vH.out];rfl,?_⟩
   .simp[results,Tryz.results109,go_sem,r0,r1]
   .exact aJ (aJ hg (Nat.le_refl _) _) (Nat.le_refl _) _
end
section
open Go.RowKit
theorem Vv (h l:Int) (w:World) (l0:0<=l) (l1:l<18446744073709551616):
  Calls Tryz.prog 138 #[.agg #[.int .u64 h,.int .u64 l]] w fun e w'=>e=.returned (.int .u64 (Fe.mM (h*18446744073709551616+l)))/\w.grownBy w' none:=
 (Rp h l w l0 l1).mono fun _ _ ⟨he,hw⟩=>⟨he,hw▸au (ah _ _) _⟩
theorem Vw (h l:Int) (w:World) (h0:0<=h) (h1:h<18446744073709551616) (l0:0<=l) (l1:l<18446744073709551616):
  Calls Tryz.prog 139 #[.agg #[.int .u64 h,.int .u64 l]] w fun e w'=>e=.returned (.int .u64 (Fe.mO (h*18446744073709551616+l)))/\w.grownBy w' none:=
 (Rq h l w h0 h1 l0 l1).mono fun _ _ ⟨he,hw⟩=>⟨he,hw▸au (ah _ _) _⟩
theorem aG.newAt (w:World) {B:Nat} (L:List Value) (T:TypeId) (h:w.heap.size=B):aG (w.alloc (.cells L.toArray T)) B T L:=h▸aG.new w L T
def fK (w:World) (B:Nat) (T:TypeId):Prop:=∃u0 u1 u2 u3 u4:Value,aG w B T [u0,u1,u2,u3,u4]
theorem fK.grown {w w':World} {B:Nat} {T:TypeId} {row:Option Nat} (h:fK w B T) (hg:w.grownBy w' row) (hr:some B≠row):fK w' B T:=
 let ⟨_,_,_,_,_,hb⟩:=h;⟨_,_,_,_,_,hb.grown hg hr⟩
theorem fK.rJ {w:World} {B:Nat} {T:TypeId} (h:fK w B T) (v0 v1 v2 v3 v4:Value):
  aG (((((w.setCell ⟨B,0,none⟩ v0).setCell ⟨B,1,none⟩ v1).setCell ⟨B,2,none⟩ v2).setCell ⟨B,3,none⟩ v3).setCell ⟨B,4,none⟩ v4) B T [v0,v1,v2,v3,v4]:=
 let ⟨_,_,_,_,_,hb⟩:=h;((((hb.set 0 v0).set 1 v1).set 2 v2).set 3 v3).set 4 v4
def nN (F:Fe) (w:World) (e:Ending) (w':World):Prop:=
 ∃r:Fe,Hid (r=F)/\e=.returned (.agg #[.int .u64 r.x0,.int .u64 r.x1,.int .u64 r.x2,.int .u64 r.x3,.int .u64 r.x4])/\w.grownBy w' none
theorem zV {F:Fe} {w:World} {e:Ending} {w':World} (h:e=.returned F.v/\w.grownBy w' none):nN F w e w':=⟨F,Lib.hid rfl,h.1,h.2⟩
theorem eH {F:Fe} {w:World} {e:Ending} {w':World} (h:nN F w e w'):e=.returned F.v/\w.grownBy w' none:=by
 obtain⟨r,hr,he,hg⟩:=h
 have:=hr.out
 subst this
 exact⟨he,hg⟩
theorem Ec (y0 y1 y2 y3 y4:Int) (w:World):
  Calls Tryz.prog 137 #[.agg #[.int .u64 (IntKind.u64.wrap y0),.int .u64 (IntKind.u64.wrap y1),.int .u64 (IntKind.u64.wrap y2),.int .u64 (IntKind.u64.wrap y3),.int .u64 (IntKind.u64.wrap y4)]] w (nN (Fe.jZ ⟨Fe.dG y0,Fe.dG y1,Fe.dG y2,Fe.dG y3,Fe.dG y4⟩) w):=by
 simp only[ig]
 exact (F6 ⟨Fe.dG y0,Fe.dG y1,Fe.dG y2,Fe.dG y3,Fe.dG y4⟩ w (Fe.D9 ..)).mono fun _ _=>zV
abbrev yK (h0 l0 h1 l1 h2 l2 h3 l3 h4 l4:Int) (w w':World):Prop:=aG w' w.heap.size 176 [.int .u64 h0,.int .u64 l0,.int .u64 h1,.int .u64 l1,.int .u64 h2,.int .u64 l2,.int .u64 h3,.int .u64 l3,.int .u64 h4,.int .u64 l4]/\fK w' (w.heap.size+1) 66/\w.grownBy w' none/\w'.cell? ⟨w.heap.size,0,none⟩=some (.int .u64 h0)/\w'.cell? ⟨w.heap.size,1,none⟩=some (.int .u64 l0)/\w'.cell? ⟨w.heap.size,2,none⟩=some (.int .u64 h1)/\w'.cell? ⟨w.heap.size,3,none⟩=some (.int .u64 l1)/\w'.cell? ⟨w.heap.size,4,none⟩=some (.int .u64 h2)/\w'.cell? ⟨w.heap.size,5,none⟩=some (.int .u64 l2)/\w'.cell? ⟨w.heap.size,6,none⟩=some (.int .u64 h3)/\w'.cell? ⟨w.heap.size,7,none⟩=some (.int .u64 l3)/\w'.cell? ⟨w.heap.size,8,none⟩=some (.int .u64 h4)/\w'.cell? ⟨w.heap.size,9,none⟩=some (.int .u64 l4)
theorem zX {h0 l0 h1 l1 h2 l2 h3 l3 h4 l4:Int} {w w':World} (hA:aG w' w.heap.size 176 [.int .u64 h0,.int .u64 l0,.int .u64 h1,.int .u64 l1,.int .u64 h2,.int .u64 l2,.int .u64 h3,.int .u64 l3,.int .u64 h4,.int .u64 l4]) (hB:fK w' (w.heap.size+1) 66) (hG:w.grownBy w' none):yK h0 l0 h1 l1 h2 l2 h3 l3 h4 l4 w w':=
 ⟨hA,hB,hG,hA.cell (i:=0) rfl,hA.cell (i:=1) rfl,hA.cell (i:=2) rfl,hA.cell (i:=3) rfl,hA.cell (i:=4) rfl,hA.cell (i:=5) rfl,hA.cell (i:=6) rfl,hA.cell (i:=7) rfl,hA.cell (i:=8) rfl,hA.cell (i:=9) rfl⟩
theorem JY {h0 l0 h1 l1 h2 l2 h3 l3 h4 l4:Int} {w w1 w2:World} (hg:w1.grownBy w2 none) (hS:yK h0 l0 h1 l1 h2 l2 h3 l3 h4 l4 w w1):yK h0 l0 h1 l1 h2 l2 h3 l3 h4 l4 w w2:=
 zX (hS.1.grown hg (by simp)) (hS.2.1.grown hg (by simp)) (aj hS.2.2.1 hg)
theorem Ob {h0 l0 h1 l1 h2 l2 h3 l3 h4 l4:Int} {w w1:World} (hS:yK h0 l0 h1 l1 h2 l2 h3 l3 h4 l4 w w1) (v0 v1 v2 v3 v4:Value):
  yK h0 l0 h1 l1 h2 l2 h3 l3 h4 l4 w (((((w1.setCell ⟨w.heap.size+1,0,none⟩ v0).setCell ⟨w.heap.size+1,1,none⟩ v1).setCell ⟨w.heap.size+1,2,none⟩ v2).setCell ⟨w.heap.size+1,3,none⟩ v3).setCell ⟨w.heap.size+1,4,none⟩ v4):=
 zX (((((hS.1.other (by simp) v0).other (by simp) v1).other (by simp) v2).other (by simp) v3).other (by simp) v4) ⟨_,_,_,_,_,hS.2.1.rJ v0 v1 v2 v3 v4⟩
  (aJ (aJ (aJ (aJ (aJ hS.2.2.1 (by simp) _) (by simp) _) (by simp) _) (by simp) _) (by simp) _)
set_option maxRecDepth 100000 in
set_option maxHeartbeats 1600000 in
theorem Oc (h0 l0 h1 l1 h2 l2 h3 l3 h4 l4:Int) (w:World)
  (a0:0<=h0) (a1:0<=h1) (a2:0<=h2) (a3:0<=h3) (a4:0<=h4) (b0:0<=l0) (b1:0<=l1) (b2:0<=l2) (b3:0<=l3) (b4:0<=l4)
  (c0:h0<18446744073709551616) (c1:h1<18446744073709551616) (c2:h2<18446744073709551616) (c3:h3<18446744073709551616) (c4:h4<18446744073709551616)
  (d0:l0<18446744073709551616) (d1:l1<18446744073709551616) (d2:l2<18446744073709551616) (d3:l3<18446744073709551616) (d4:l4<18446744073709551616):
  Calls Tryz.prog 108 #[.agg #[.int .u64 h0,.int .u64 l0,.int .u64 h1,.int .u64 l1,.int .u64 h2,.int .u64 l2,.int .u64 h3,.int .u64 l3,.int .u64 h4,.int .u64 l4]] w fun e w'=>
   e=.returned (Fe.uq (h0*18446744073709551616+l0) (h1*18446744073709551616+l1) (h2*18446744073709551616+l2) (h3*18446744073709551616+l3) (h4*18446744073709551616+l4)).v/\w.grownBy w' none:=by
 go_enter Tryz.func108,Tryz.ntmps108
 go_wp2
 have hS0:yK h0 l0 h1 l1 h2 l2 h3 l3 h4 l4 w ((w.alloc (.cells #[.int .u64 h0,.int .u64 l0,.int .u64 h1,.int .u64 l1,.int .u64 h2,.int .u64 l2,.int .u64 h3,.int .u64 l3,.int .u64 h4,.int .u64 l4] 176)).alloc (.cells #[.int .u64 0,.int .u64 0,.int .u64 0,.int .u64 0,.int .u64 0] 66)).drew:=
  zX ((aG.new w _ _).alloc _).drew ⟨_,_,_,_,_,(aG.newAt (w.alloc _) [.int .u64 0,.int .u64 0,.int .u64 0,.int .u64 0,.int .u64 0] _ (by simp)).drew⟩ (aZ (au (au (ah _ _) _) _))
 revert hS0
 generalize (w.alloc (.cells #[.int .u64 h0,.int .u64 l0,.int .u64 h1,.int .u64 l1,.int .u64 h2,.int .u64 l2,.int .u64 h3,.int .u64 l3,.int .u64 h4,.int .u64 l4] 176)).alloc (.cells #[.int .u64 0,.int .u64 0,.int .u64 0,.int .u64 0,.int .u64 0] 66)=W0
 intro hS0
 go_region_held3 (fun w'=>aG w' w.heap.size 176 [.int .u64 h0,.int .u64 l0,.int .u64 h1,.int .u64 l1,.int .u64 h2,.int .u64 l2,.int .u64 h3,.int .u64 l3,.int .u64 h4,.int .u64 l4]/\fK w' (w.heap.size+1) 66/\w.grownBy w' none/\w'.cell? ⟨w.heap.size,0,none⟩=some (.int .u64 h0)/\w'.cell? ⟨w.heap.size,1,none⟩=some (.int .u64 l0)/\w'.cell? ⟨w.heap.size,2,none⟩=some (.int .u64 h1)/\w'.cell? ⟨w.heap.size,3,none⟩=some (.int .u64 l1)/\w'.cell? ⟨w.heap.size,4,none⟩=some (.int .u64 h2)/\w'.cell? ⟨w.heap.size,5,none⟩=some (.int .u64 l2)/\w'.cell? ⟨w.heap.size,6,none⟩=some (.int .u64 h3)/\w'.cell? ⟨w.heap.size,7,none⟩=some (.int .u64 l3)/\w'.cell? ⟨w.heap.size,8,none⟩=some (.int .u64 h4)/\w'.cell? ⟨w.heap.size,9,none⟩=some (.int .u64 l4))
  (first|(with_reducible exact hS0)|(with_reducible exact JY (by assumption) (by assumption))|(with_reducible exact Ob (by assumption) _ _ _ _ _))
  (first|(go_simp;go_at_call 138;refine (Vv _ _ _ ?_ ?_).mono ?_;assumption;assumption;rintro e w1 ⟨rfl,hg1⟩)|(go_simp;go_at_call 139;refine (Vw _ _ _ ?_ ?_ ?_ ?_).mono ?_;assumption;assumption;assumption;assumption;rintro e w1 ⟨rfl,hg1⟩)|(go_simp;go_at_call 137;refine (Ec _ _ _ _ _ _).mono ?_;rintro e w1 ⟨r,hr,rfl,hg1⟩;obtain⟨u0,u1,u2,u3,u4,hR⟩:fK w1 (w.heap.size+1) 66:=fK.grown (And.left (And.right (by assumption:yK h0 l0 h1 l1 h2 l2 h3 l3 h4 l4 w _))) hg1 (by simp);have z0:=hR.cell (i:=0) rfl;have z1:=hR.cell (i:=1) rfl;have z2:=hR.cell (i:=2) rfl;have z3:=hR.cell (i:=3) rfl;have z4:=hR.cell (i:=4) rfl;have y0:=hR.free 0;have y1:=hR.free 1;have y2:=hR.free 2;have y3:=hR.free 3;have y4:=hR.free 4))
 go_wp2
 refine bodyPost_ret (v:=.agg #[.int .u64 r.x0,.int .u64 r.x1,.int .u64 r.x2,.int .u64 r.x3,.int .u64 r.x4]) ?_ rfl ⟨?_,?_⟩
 .simp[results,Tryz.results108,go_sem,z0,z1,z2,z3,z4]
 .unfold Fe.uq
  have e:=hr.out
  rw[ig]at e
  rw[<- e];rfl
 .with_reducible exact (show yK h0 l0 h1 l1 h2 l2 h3 l3 h4 l4 w _ from (by assumption)).2.2.1
end
section
open Go.RowKit
def abe (A B R:Nat) (x0 x1 x2 x3 x4 y0 y1 y2 y3 y4 z0 z1 z2 z3 S0 S1 S2 S3 S4:Int) (r:Fe):List (Value->World->Prop):=[
 fun _ _=>True,
 fun _ _=>True,
 fun _ _=>True,
 fun _ _=>True,
 fun _ _=>True,
 fun _ _=>True,
 fun _ _=>True,
 fun _ _=>True,
 fun _ _=>True,
 fun _ _=>True,
 fun _ _=>True,
 fun _ _=>True,
 fun _ _=>True,
 fun _ _=>True,
 fun _ _=>True,
 fun _ _=>True,
 fun _ _=>True,
 fun _ _=>True,
 fun _ _=>True,
 fun _ _=>True,
 fun _ _=>True,
 fun v _=>v=.pointer (some ⟨A,0,none⟩),
 fun v _=>v=.int .u64 x0,
 fun v _=>v=.pointer (some ⟨B,0,none⟩),
 fun v _=>v=.int .u64 y0,
 fun v _=>v=.agg #[.int .u64 x0,.int .u64 y0],
 fun v _=>v=.pointer (some ⟨A,1,none⟩),
 fun v _=>v=.int .u64 x1,
 fun v _=>v=.int .u64 z3,
 fun v _=>v=.agg #[.int .u64 x1,.int .u64 z3],
 fun v _=>v=.pointer (some ⟨A,2,none⟩),
 fun v _=>v=.int .u64 x2,
 fun v _=>v=.int .u64 z2,
 fun v _=>v=.agg #[.int .u64 x2,.int .u64 z2],
 fun v _=>v=.pointer (some ⟨A,3,none⟩),
 fun v _=>v=.int .u64 x3,
 fun v _=>v=.int .u64 z1,
 fun v _=>v=.agg #[.int .u64 x3,.int .u64 z1],
 fun v _=>v=.pointer (some ⟨A,4,none⟩),
 fun v _=>v=.int .u64 x4,
 fun v _=>v=.int .u64 z0,
 fun v _=>v=.agg #[.int .u64 x4,.int .u64 z0],
 fun v w=>∃PB,PB≠R/\v=.slice (some ⟨PB,0,none⟩) 5 5/\aG w PB 175 (flat [(x0,y0),(x1,z3),(x2,z2),(x3,z1),(x4,z0)]),
 fun v _=>v=.agg #[.int .u64 (S0/18446744073709551616),.int .u64 (S0%18446744073709551616)],
 fun v _=>v=.pointer (some ⟨A,0,none⟩),
 fun v _=>v=.int .u64 x0,
 fun v _=>v=.pointer (some ⟨B,1,none⟩),
 fun v _=>v=.int .u64 y1,
 fun v _=>v=.agg #[.int .u64 x0,.int .u64 y1],
 fun v _=>v=.pointer (some ⟨A,1,none⟩),
 fun v _=>v=.int .u64 x1,
 fun v _=>v=.pointer (some ⟨B,0,none⟩),
 fun v _=>v=.int .u64 y0,
 fun v _=>v=.agg #[.int .u64 x1,.int .u64 y0],
 fun v _=>v=.pointer (some ⟨A,2,none⟩),
 fun v _=>v=.int .u64 x2,
 fun v _=>v=.int .u64 z3,
 fun v _=>v=.agg #[.int .u64 x2,.int .u64 z3],
 fun v _=>v=.pointer (some ⟨A,3,none⟩),
 fun v _=>v=.int .u64 x3,
 fun v _=>v=.int .u64 z2,
 fun v _=>v=.agg #[.int .u64 x3,.int .u64 z2],
 fun v _=>v=.pointer (some ⟨A,4,none⟩),
 fun v _=>v=.int .u64 x4,
 fun v _=>v=.int .u64 z1,
 fun v _=>v=.agg #[.int .u64 x4,.int .u64 z1],
 fun v w=>∃PB,PB≠R/\v=.slice (some ⟨PB,0,none⟩) 5 5/\aG w PB 175 (flat [(x0,y1),(x1,y0),(x2,z3),(x3,z2),(x4,z1)]),
 fun v _=>v=.agg #[.int .u64 (S1/18446744073709551616),.int .u64 (S1%18446744073709551616)],
 fun v _=>v=.pointer (some ⟨A,0,none⟩),
 fun v _=>v=.int .u64 x0,
 fun v _=>v=.pointer (some ⟨B,2,none⟩),
 fun v _=>v=.int .u64 y2,
 fun v _=>v=.agg #[.int .u64 x0,.int .u64 y2],
 fun v _=>v=.pointer (some ⟨A,1,none⟩),
 fun v _=>v=.int .u64 x1,
 fun v _=>v=.pointer (some ⟨B,1,none⟩),
 fun v _=>v=.int .u64 y1,
 fun v _=>v=.agg #[.int .u64 x1,.int .u64 y1],
 fun v _=>v=.pointer (some ⟨A,2,none⟩),
 fun v _=>v=.int .u64 x2,
 fun v _=>v=.pointer (some ⟨B,0,none⟩),
 fun v _=>v=.int .u64 y0,
 fun v _=>v=.agg #[.int .u64 x2,.int .u64 y0],
 fun v _=>v=.pointer (some ⟨A,3,none⟩),
 fun v _=>v=.int .u64 x3,
 fun v _=>v=.int .u64 z3,
 fun v _=>v=.agg #[.int .u64 x3,.int .u64 z3],
 fun v _=>v=.pointer (some ⟨A,4,none⟩),
 fun v _=>v=.int .u64 x4,
 fun v _=>v=.int .u64 z2,
 fun v _=>v=.agg #[.int .u64 x4,.int .u64 z2],
 fun v w=>∃PB,PB≠R/\v=.slice (some ⟨PB,0,none⟩) 5 5/\aG w PB 175 (flat [(x0,y2),(x1,y1),(x2,y0),(x3,z3),(x4,z2)]),
 fun v _=>v=.agg #[.int .u64 (S2/18446744073709551616),.int .u64 (S2%18446744073709551616)],
 fun v _=>v=.pointer (some ⟨A,0,none⟩),
 fun v _=>v=.int .u64 x0,
 fun v _=>v=.pointer (some ⟨B,3,none⟩),
 fun v _=>v=.int .u64 y3,
 fun v _=>v=.agg #[.int .u64 x0,.int .u64 y3],
 fun v _=>v=.pointer (some ⟨A,1,none⟩),
 fun v _=>v=.int .u64 x1,
 fun v _=>v=.pointer (some ⟨B,2,none⟩),
 fun v _=>v=.int .u64 y2,
 fun v _=>v=.agg #[.int .u64 x1,.int .u64 y2],
 fun v _=>v=.pointer (some ⟨A,2,none⟩),
 fun v _=>v=.int .u64 x2,
 fun v _=>v=.pointer (some ⟨B,1,none⟩),
 fun v _=>v=.int .u64 y1,
 fun v _=>v=.agg #[.int .u64 x2,.int .u64 y1],
 fun v _=>v=.pointer (some ⟨A,3,none⟩),
 fun v _=>v=.int .u64 x3,
 fun v _=>v=.pointer (some ⟨B,0,none⟩),
 fun v _=>v=.int .u64 y0,
 fun v _=>v=.agg #[.int .u64 x3,.int .u64 y0],
 fun v _=>v=.pointer (some ⟨A,4,none⟩),
 fun v _=>v=.int .u64 x4,
 fun v _=>v=.int .u64 z3,
 fun v _=>v=.agg #[.int .u64 x4,.int .u64 z3],
 fun v w=>∃PB,PB≠R/\v=.slice (some ⟨PB,0,none⟩) 5 5/\aG w PB 175 (flat [(x0,y3),(x1,y2),(x2,y1),(x3,y0),(x4,z3)]),
 fun v _=>v=.agg #[.int .u64 (S3/18446744073709551616),.int .u64 (S3%18446744073709551616)],
 fun v _=>v=.pointer (some ⟨A,0,none⟩),
 fun v _=>v=.int .u64 x0,
 fun v _=>v=.pointer (some ⟨B,4,none⟩),
 fun v _=>v=.int .u64 y4,
 fun v _=>v=.agg #[.int .u64 x0,.int .u64 y4],
 fun v _=>v=.pointer (some ⟨A,1,none⟩),
 fun v _=>v=.int .u64 x1,
 fun v _=>v=.pointer (some ⟨B,3,none⟩),
 fun v _=>v=.int .u64 y3,
 fun v _=>v=.agg #[.int .u64 x1,.int .u64 y3],
 fun v _=>v=.pointer (some ⟨A,2,none⟩),
 fun v _=>v=.int .u64 x2,
 fun v _=>v=.pointer (some ⟨B,2,none⟩),
 fun v _=>v=.int .u64 y2,
 fun v _=>v=.agg #[.int .u64 x2,.int .u64 y2],
 fun v _=>v=.pointer (some ⟨A,3,none⟩),
 fun v _=>v=.int .u64 x3,
 fun v _=>v=.pointer (some ⟨B,1,none⟩),
 fun v _=>v=.int .u64 y1,
 fun v _=>v=.agg #[.int .u64 x3,.int .u64 y1],
 fun v _=>v=.pointer (some ⟨A,4,none⟩),
 fun v _=>v=.int .u64 x4,
 fun v _=>v=.pointer (some ⟨B,0,none⟩),
 fun v _=>v=.int .u64 y0,
 fun v _=>v=.agg #[.int .u64 x4,.int .u64 y0],
 fun v w=>∃PB,PB≠R/\v=.slice (some ⟨PB,0,none⟩) 5 5/\aG w PB 175 (flat [(x0,y4),(x1,y3),(x2,y2),(x3,y1),(x4,y0)]),
 fun v _=>v=.agg #[.int .u64 (S4/18446744073709551616),.int .u64 (S4%18446744073709551616)],
 fun v _=>v=.agg #[.int .u64 (S0/18446744073709551616),.int .u64 (S0%18446744073709551616),.int .u64 (S1/18446744073709551616),.int .u64 (S1%18446744073709551616),.int .u64 (S2/18446744073709551616),.int .u64 (S2%18446744073709551616),.int .u64 (S3/18446744073709551616),.int .u64 (S3%18446744073709551616),.int .u64 (S4/18446744073709551616),.int .u64 (S4%18446744073709551616)],
 fun v _=>v=r.v]
def Rv (A B R:Nat) (x0 x1 x2 x3 x4 y0 y1 y2 y3 y4 z0 z1 z2 z3 S0 S1 S2 S3 S4:Int) (r:Fe) (d:Nat) (v:Value) (w:World):Prop:=((abe A B R x0 x1 x2 x3 x4 y0 y1 y2 y3 y4 z0 z1 z2 z3 S0 S1 S2 S3 S4 r).getD d (fun _ _=>True)) v w
structure zY (w0:World) (A B R:Nat) (x0 x1 x2 x3 x4 y0 y1 y2 y3 y4:Int) (w:World):Prop where
 a:aG w A 66 [.int .u64 x0,.int .u64 x1,.int .u64 x2,.int .u64 x3,.int .u64 x4]
 b:aG w B 66 [.int .u64 y0,.int .u64 y1,.int .u64 y2,.int .u64 y3,.int .u64 y4]
 r:fK w R 66
 g:w0.grownBy w none
 ra:A≠R
 rb:B≠R
 rn:w0.heap.size<=R
theorem zY.grown {w0:World} {A B R:Nat} {x0 x1 x2 x3 x4 y0 y1 y2 y3 y4:Int} {w w':World} (h:zY w0 A B R x0 x1 x2 x3 x4 y0 y1 y2 y3 y4 w) (hg:w.grownBy w' none):zY w0 A B R x0 x1 x2 x3 x4 y0 y1 y2 y3 y4 w':=
 ⟨h.a.grown hg (by simp),h.b.grown hg (by simp),h.r.grown hg (by simp),aj h.g hg,h.ra,h.rb,h.rn⟩
theorem zY.alloc {w0:World} {A B R:Nat} {x0 x1 x2 x3 x4 y0 y1 y2 y3 y4:Int} {w:World} (h:zY w0 A B R x0 x1 x2 x3 x4 y0 y1 y2 y3 y4 w) (o:Obj):zY w0 A B R x0 x1 x2 x3 x4 y0 y1 y2 y3 y4 (w.alloc o):=h.grown (World.grownBy_alloc _ _ _)
theorem zY.rJ {w0:World} {A B R:Nat} {x0 x1 x2 x3 x4 y0 y1 y2 y3 y4:Int} {w:World} (h:zY w0 A B R x0 x1 x2 x3 x4 y0 y1 y2 y3 y4 w) (v0 v1 v2 v3 v4:Value):
  zY w0 A B R x0 x1 x2 x3 x4 y0 y1 y2 y3 y4 (((((w.setCell ⟨R,0,none⟩ v0).setCell ⟨R,1,none⟩ v1).setCell ⟨R,2,none⟩ v2).setCell ⟨R,3,none⟩ v3).setCell ⟨R,4,none⟩ v4):=
 ⟨((((h.a.other (Ne.symm h.ra) _).other (Ne.symm h.ra) _).other (Ne.symm h.ra) _).other (Ne.symm h.ra) _).other (Ne.symm h.ra) _,
  ((((h.b.other (Ne.symm h.rb) _).other (Ne.symm h.rb) _).other (Ne.symm h.rb) _).other (Ne.symm h.rb) _).other (Ne.symm h.rb) _,
  ⟨_,_,_,_,_,h.r.rJ v0 v1 v2 v3 v4⟩,aJ (aJ (aJ (aJ (aJ h.g h.rn _) h.rn _) h.rn _) h.rn _) h.rn _,h.ra,h.rb,h.rn⟩
def Stable (R:Nat):List (Value->World->Prop)->Prop
 | []=>True
 | p:: r=>(∀v w w',World.grownBy w w' (some R)->p v w->p v w')/\Stable R r
theorem zZ {R:Nat} (L:List (Value->World->Prop)) (h:Stable R L) (d:Nat) (u:Value) (w w':World) (hR:w.grownBy w' (some R)) (hu:(L.getD d (fun _ _=>True)) u w):(L.getD d (fun _ _=>True)) u w':=by
 induction L generalizing d with
 | nil=>simp at hu ⊢
 | cons p r ih=>
  cases d with
  | zero=>exact h.1 u w w' hR hu
  | succ d=>exact ih h.2 d hu
theorem JZ (A B R:Nat) (x0 x1 x2 x3 x4 y0 y1 y2 y3 y4 z0 z1 z2 z3 S0 S1 S2 S3 S4:Int) (r:Fe) (d:Nat) (u:Value) (w w':World) (hR:w.grownBy w' (some R)) (h:Rv A B R x0 x1 x2 x3 x4 y0 y1 y2 y3 y4 z0 z1 z2 z3 S0 S1 S2 S3 S4 r d u w):Rv A B R x0 x1 x2 x3 x4 y0 y1 y2 y3 y4 z0 z1 z2 z3 S0 S1 S2 S3 S4 r d u w':=
 zZ (R:=R) _ (show Stable R (abe A B R x0 x1 x2 x3 x4 y0 y1 y2 y3 y4 z0 z1 z2 z3 S0 S1 S2 S3 S4 r) from⟨fun _ _ _ _ h=>h,fun _ _ _ _ h=>h,fun _ _ _ _ h=>h,fun _ _ _ _ h=>h,fun _ _ _ _ h=>h,fun _ _ _ _ h=>h,fun _ _ _ _ h=>h,fun _ _ _ _ h=>h,fun _ _ _ _ h=>h,fun _ _ _ _ h=>h,fun _ _ _ _ h=>h,fun _ _ _ _ h=>h,fun _ _ _ _ h=>h,fun _ _ _ _ h=>h,fun _ _ _ _ h=>h,fun _ _ _ _ h=>h,fun _ _ _ _ h=>h,fun _ _ _ _ h=>h,fun _ _ _ _ h=>h,fun _ _ _ _ h=>h,fun _ _ _ _ h=>h,fun _ _ _ _ h=>h,fun _ _ _ _ h=>h,fun _ _ _ _ h=>h,fun _ _ _ _ h=>h,fun _ _ _ _ h=>h,fun _ _ _ _ h=>h,fun _ _ _ _ h=>h,fun _ _ _ _ h=>h,fun _ _ _ _ h=>h,fun _ _ _ _ h=>h,fun _ _ _ _ h=>h,fun _ _ _ _ h=>h,fun _ _ _ _ h=>h,fun _ _ _ _ h=>h,fun _ _ _ _ h=>h,fun _ _ _ _ h=>h,fun _ _ _ _ h=>h,fun _ _ _ _ h=>h,fun _ _ _ _ h=>h,fun _ _ _ _ h=>h,fun _ _ _ _ h=>h,fun _ _ _ hR ⟨PB,hne,hv,hb⟩=>⟨PB,hne,hv,hb.grown hR (bJ hne)⟩,fun _ _ _ _ h=>h,fun _ _ _ _ h=>h,fun _ _ _ _ h=>h,fun _ _ _ _ h=>h,fun _ _ _ _ h=>h,fun _ _ _ _ h=>h,fun _ _ _ _ h=>h,fun _ _ _ _ h=>h,fun _ _ _ _ h=>h,fun _ _ _ _ h=>h,fun _ _ _ _ h=>h,fun _ _ _ _ h=>h,fun _ _ _ _ h=>h,fun _ _ _ _ h=>h,fun _ _ _ _ h=>h,fun _ _ _ _ h=>h,fun _ _ _ _ h=>h,fun _ _ _ _ h=>h,fun _ _ _ _ h=>h,fun _ _ _ _ h=>h,fun _ _ _ _ h=>h,fun _ _ _ _ h=>h,fun _ _ _ _ h=>h,fun _ _ _ hR ⟨PB,hne,hv,hb⟩=>⟨PB,hne,hv,hb.grown hR (bJ hne)⟩,fun _ _ _ _ h=>h,fun _ _ _ _ h=>h,fun _ _ _ _ h=>h,fun _ _ _ _ h=>h,fun _ _ _ _ h=>h,fun _ _ _ _ h=>h,fun _ _ _ _ h=>h,fun _ _ _ _ h=>h,fun _ _ _ _ h=>h,fun _ _ _ _ h=>h,fun _ _ _ _ h=>h,fun _ _ _ _ h=>h,fun _ _ _ _ h=>h,fun _ _ _ _ h=>h,fun _ _ _ _ h=>h,fun _ _ _ _ h=>h,fun _ _ _ _ h=>h,fun _ _ _ _ h=>h,fun _ _ _ _ h=>h,fun _ _ _ _ h=>h,fun _ _ _ _ h=>h,fun _ _ _ _ h=>h,fun _ _ _ _ h=>h,fun _ _ _ _ h=>h,fun _ _ _ hR ⟨PB,hne,hv,hb⟩=>⟨PB,hne,hv,hb.grown hR (bJ hne)⟩,fun _ _ _ _ h=>h,fun _ _ _ _ h=>h,fun _ _ _ _ h=>h,fun _ _ _ _ h=>h,fun _ _ _ _ h=>h,fun _ _ _ _ h=>h,fun _ _ _ _ h=>h,fun _ _ _ _ h=>h,fun _ _ _ _ h=>h,fun _ _ _ _ h=>h,fun _ _ _ _ h=>h,fun _ _ _ _ h=>h,fun _ _ _ _ h=>h,fun _ _ _ _ h=>h,fun _ _ _ _ h=>h,fun _ _ _ _ h=>h,fun _ _ _ _ h=>h,fun _ _ _ _ h=>h,fun _ _ _ _ h=>h,fun _ _ _ _ h=>h,fun _ _ _ _ h=>h,fun _ _ _ _ h=>h,fun _ _ _ _ h=>h,fun _ _ _ _ h=>h,fun _ _ _ _ h=>h,fun _ _ _ hR ⟨PB,hne,hv,hb⟩=>⟨PB,hne,hv,hb.grown hR (bJ hne)⟩,fun _ _ _ _ h=>h,fun _ _ _ _ h=>h,fun _ _ _ _ h=>h,fun _ _ _ _ h=>h,fun _ _ _ _ h=>h,fun _ _ _ _ h=>h,fun _ _ _ _ h=>h,fun _ _ _ _ h=>h,fun _ _ _ _ h=>h,fun _ _ _ _ h=>h,fun _ _ _ _ h=>h,fun _ _ _ _ h=>h,fun _ _ _ _ h=>h,fun _ _ _ _ h=>h,fun _ _ _ _ h=>h,fun _ _ _ _ h=>h,fun _ _ _ _ h=>h,fun _ _ _ _ h=>h,fun _ _ _ _ h=>h,fun _ _ _ _ h=>h,fun _ _ _ _ h=>h,fun _ _ _ _ h=>h,fun _ _ _ _ h=>h,fun _ _ _ _ h=>h,fun _ _ _ _ h=>h,fun _ _ _ _ h=>h,fun _ _ _ hR ⟨PB,hne,hv,hb⟩=>⟨PB,hne,hv,hb.grown hR (bJ hne)⟩,fun _ _ _ _ h=>h,fun _ _ _ _ h=>h,fun _ _ _ _ h=>h,trivial⟩) d u w w' hR h
theorem CX (S0 S1 S2 S3 S4:Int) (w:World) (h0:nL S0) (h1:nL S1) (h2:nL S2) (h3:nL S3) (h4:nL S4):
  Calls Tryz.prog 108 #[.agg #[.int .u64 (S0/18446744073709551616),.int .u64 (S0%18446744073709551616),.int .u64 (S1/18446744073709551616),.int .u64 (S1%18446744073709551616),.int .u64 (S2/18446744073709551616),.int .u64 (S2%18446744073709551616),.int .u64 (S3/18446744073709551616),.int .u64 (S3%18446744073709551616),.int .u64 (S4/18446744073709551616),.int .u64 (S4%18446744073709551616)]] w fun e w'=>e=.returned (Fe.uq S0 S1 S2 S3 S4).v/\w.grownBy w' none:=by
 obtain⟨n0,l0⟩:=h0
 obtain⟨n1,l1⟩:=h1
 obtain⟨n2,l2⟩:=h2
 obtain⟨n3,l3⟩:=h3
 obtain⟨n4,l4⟩:=h4
 have:=Oc (S0/18446744073709551616) (S0%18446744073709551616) (S1/18446744073709551616) (S1%18446744073709551616) (S2/18446744073709551616) (S2%18446744073709551616) (S3/18446744073709551616) (S3%18446744073709551616) (S4/18446744073709551616) (S4%18446744073709551616) w
  (by omega) (by omega) (by omega) (by omega) (by omega) (by omega) (by omega) (by omega) (by omega) (by omega) (by omega) (by omega) (by omega) (by omega) (by omega) (by omega) (by omega) (by omega) (by omega) (by omega)
 simpa only[halves] using this
set_option maxRecDepth 100000 in
set_option maxHeartbeats 4000000 in
theorem Vx (x0 x1 x2 x3 x4 y0 y1 y2 y3 y4:Int) (w:World) (a0:0<=x0) (c0:x0<18446744073709551616) (a1:0<=x1) (c1:x1<18446744073709551616) (a2:0<=x2) (c2:x2<18446744073709551616) (a3:0<=x3) (c3:x3<18446744073709551616) (a4:0<=x4) (c4:x4<18446744073709551616) (b0:0<=y0) (d0:y0<18446744073709551616) (b1:0<=y1) (d1:y1<18446744073709551616) (b2:0<=y2) (d2:y2<18446744073709551616) (b3:0<=y3) (d3:y3<18446744073709551616) (b4:0<=y4) (d4:y4<18446744073709551616):
  Calls Tryz.prog 82 #[.agg #[.int .u64 x0,.int .u64 x1,.int .u64 x2,.int .u64 x3,.int .u64 x4],.agg #[.int .u64 y0,.int .u64 y1,.int .u64 y2,.int .u64 y3,.int .u64 y4]] w (nN (Fe.aM ⟨x0,x1,x2,x3,x4⟩ ⟨y0,y1,y2,y3,y4⟩) w):=by
 obtain⟨z0,hz0⟩:∃z,IntKind.u64.wrap (19*y1)=z:=⟨_,rfl⟩
 have pz0:0<=z0:=by rw[<- hz0,ig];unfold Fe.dG;omega
 have qz0:z0<18446744073709551616:=by rw[<- hz0,ig];unfold Fe.dG;omega
 obtain⟨z1,hz1⟩:∃z,IntKind.u64.wrap (19*y2)=z:=⟨_,rfl⟩
 have pz1:0<=z1:=by rw[<- hz1,ig];unfold Fe.dG;omega
 have qz1:z1<18446744073709551616:=by rw[<- hz1,ig];unfold Fe.dG;omega
 obtain⟨z2,hz2⟩:∃z,IntKind.u64.wrap (19*y3)=z:=⟨_,rfl⟩
 have pz2:0<=z2:=by rw[<- hz2,ig];unfold Fe.dG;omega
 have qz2:z2<18446744073709551616:=by rw[<- hz2,ig];unfold Fe.dG;omega
 obtain⟨z3,hz3⟩:∃z,IntKind.u64.wrap (19*y4)=z:=⟨_,rfl⟩
 have pz3:0<=z3:=by rw[<- hz3,ig];unfold Fe.dG;omega
 have qz3:z3<18446744073709551616:=by rw[<- hz3,ig];unfold Fe.dG;omega
 obtain⟨S0,hS0⟩:∃S,nM [(x0,y0),(x1,z3),(x2,z2),(x3,z1),(x4,z0)]=S:=⟨_,rfl⟩
 obtain⟨S1,hS1⟩:∃S,nM [(x0,y1),(x1,y0),(x2,z3),(x3,z2),(x4,z1)]=S:=⟨_,rfl⟩
 obtain⟨S2,hS2⟩:∃S,nM [(x0,y2),(x1,y1),(x2,y0),(x3,z3),(x4,z2)]=S:=⟨_,rfl⟩
 obtain⟨S3,XP⟩:∃S,nM [(x0,y3),(x1,y2),(x2,y1),(x3,y0),(x4,z3)]=S:=⟨_,rfl⟩
 obtain⟨S4,hS4⟩:∃S,nM [(x0,y4),(x1,y3),(x2,y2),(x3,y1),(x4,y0)]=S:=⟨_,rfl⟩
 obtain⟨r,hr⟩:∃r,r=Fe.uq S0 S1 S2 S3 S4:=⟨_,rfl⟩
 have vH:=Lib.hid hS0;clear hS0
 have Od:=Lib.hid hS1;clear hS1
 have HS2:=Lib.hid hS2;clear hS2
 have YJ:=Lib.hid XP;clear XP
 have YL:=Lib.hid hS4;clear hS4
 have Hr:=Lib.hid hr;clear hr
 have iS0:nL S0:=by rw[<- vH.out];exact⟨(gu _).1,(gu _).2⟩
 have iS1:nL S1:=by rw[<- Od.out];exact⟨(gu _).1,(gu _).2⟩
 have iS2:nL S2:=by rw[<- HS2.out];exact⟨(gu _).1,(gu _).2⟩
 have iS3:nL S3:=by rw[<- YJ.out];exact⟨(gu _).1,(gu _).2⟩
 have iS4:nL S4:=by rw[<- YL.out];exact⟨(gu _).1,(gu _).2⟩
 have XQ:=Lib.hid hz0;clear hz0
 have XR:=Lib.hid hz1;clear hz1
 have XT:=Lib.hid hz2;clear hz2
 have Rw:=Lib.hid hz3;clear hz3
 go_enter Tryz.func82,Tryz.ntmps82
 have hB0:zY w w.heap.size (w.heap.size+1) (w.heap.size+1+1) x0 x1 x2 x3 x4 y0 y1 y2 y3 y4 (((w.alloc (.cells #[.int .u64 x0,.int .u64 x1,.int .u64 x2,.int .u64 x3,.int .u64 x4] 66)).alloc (.cells #[.int .u64 y0,.int .u64 y1,.int .u64 y2,.int .u64 y3,.int .u64 y4] 66)).alloc (.cells #[.int .u64 0,.int .u64 0,.int .u64 0,.int .u64 0,.int .u64 0] 66)):=
  ⟨((aG.new w [.int .u64 x0,.int .u64 x1,.int .u64 x2,.int .u64 x3,.int .u64 x4] _).alloc _).alloc _,(aG.newAt (w.alloc _) [.int .u64 y0,.int .u64 y1,.int .u64 y2,.int .u64 y3,.int .u64 y4] _ (by simp)).alloc _,⟨_,_,_,_,_,aG.newAt _ [.int .u64 0,.int .u64 0,.int .u64 0,.int .u64 0,.int .u64 0] _ (by simp)⟩,au (au (au (ah _ _) _) _) _,by omega,by omega,by omega⟩
 go_wp2
 go_quiet (fail)
 go_wp2
 have hB1:=(hB0.grown (gK (ah _ none) nq)).grown (aZ (ah _ none))
 clear hB0
 refine rD (Rv w.heap.size (w.heap.size+1) (w.heap.size+1+1) x0 x1 x2 x3 x4 y0 y1 y2 y3 y4 z0 z1 z2 z3 S0 S1 S2 S3 S4 r) (fun _ w'=>aG w' (w.heap.size+1+1) 66 [.int .u64 r.x0,.int .u64 r.x1,.int .u64 r.x2,.int .u64 r.x3,.int .u64 r.x4])
  (zY w w.heap.size (w.heap.size+1) (w.heap.size+1+1) x0 x1 x2 x3 x4 y0 y1 y2 y3 y4) (fun w' w''=>w'.grownBy w'' none\/(w'.grownBy w'' (some (w.heap.size+1+1))/\aG w'' (w.heap.size+1+1) 66 [.int .u64 r.x0,.int .u64 r.x1,.int .u64 r.x2,.int .u64 r.x3,.int .u64 r.x4])) (by kernel_rfl) (by kernel_rfl) (by kernel_rfl) hB1 ?_ ?_ ?_ ?_
 .exact fun d u w1 w2 hR h=>JZ _ _ _ _ _ _ _ _ _ _ _ _ _ _ _ _ _ _ _ _ _ _ r d u w1 w2 (hR.elim (fun h=>fP h _) (fun h=>h.1)) h
 .exact fun j w1 w2 hR h=>hR.elim (fun hg=>h.grown hg (by simp)) (fun h=>h.2)
 .clear hB1
  generalize w.heap.size=A
  generalize eB:A+1=B
  generalize eR:B+1=R
  refine⟨aB rfl rfl fun a w h=>?_,?_⟩
  .have e2:_=Value.pointer (some ⟨A,0,none⟩):=h.r 2
   refine⟨.pointer (some ⟨A,0,none⟩),w,?_,h.base,Or.inl (ah _ _),rfl⟩
   clear h
   simp only[execOp,Act.eval,e2]
   go_simp
  refine⟨aB rfl rfl fun a w h=>?_,?_⟩
  .have e21:_=Value.pointer (some ⟨A,0,none⟩):=h.d 21
   have c:=h.base.a.cell (i:=0) rfl
   refine⟨.int .u64 x0,w,?_,h.base,Or.inl (ah _ _),rfl⟩
   clear h
   simp only[execOp,Act.eval,e21]
   go_simp
  refine⟨aB rfl rfl fun a w h=>?_,?_⟩
  .have e3:_=Value.pointer (some ⟨B,0,none⟩):=h.r 3
   refine⟨.pointer (some ⟨B,0,none⟩),w,?_,h.base,Or.inl (ah _ _),rfl⟩
   clear h
   simp only[execOp,Act.eval,e3]
   go_simp
  refine⟨aB rfl rfl fun a w h=>?_,?_⟩
  .have e23:_=Value.pointer (some ⟨B,0,none⟩):=h.d 23
   have c:=h.base.b.cell (i:=0) rfl
   refine⟨.int .u64 y0,w,?_,h.base,Or.inl (ah _ _),rfl⟩
   clear h
   simp only[execOp,Act.eval,e23]
   go_simp
  refine⟨aB rfl rfl fun a w h=>?_,?_⟩
  .have e22:_=Value.int .u64 x0:=h.d 22
   have e24:_=Value.int .u64 y0:=h.d 24
   refine⟨.agg #[.int .u64 x0,.int .u64 y0],w,?_,h.base,Or.inl (ah _ _),rfl⟩
   clear h
   simp only[execOp,List.map_toArray,List.map_cons,List.map_nil,Act.eval,e22,e24]
   go_simp
  refine⟨aB rfl rfl fun a w h=>?_,?_⟩
  .have e2:_=Value.pointer (some ⟨A,0,none⟩):=h.r 2
   refine⟨.pointer (some ⟨A,1,none⟩),w,?_,h.base,Or.inl (ah _ _),rfl⟩
   clear h
   simp only[execOp,Act.eval,e2]
   go_simp
  refine⟨aB rfl rfl fun a w h=>?_,?_⟩
  .have e26:_=Value.pointer (some ⟨A,1,none⟩):=h.d 26
   have c:=h.base.a.cell (i:=1) rfl
   refine⟨.int .u64 x1,w,?_,h.base,Or.inl (ah _ _),rfl⟩
   clear h
   simp only[execOp,Act.eval,e26]
   go_simp
  refine⟨aB rfl rfl fun a w h=>?_,?_⟩
  .have e8:a.tmps.getD 8 undef=.int .u64 z3:=(h.rest 8 (by kernel_rfl)).trans (congrArg (Value.int .u64) Rw.out)
   refine⟨.int .u64 z3,w,?_,h.base,Or.inl (ah _ _),rfl⟩
   clear h
   simp only[execOp,Act.eval,e8]
   go_simp
  refine⟨aB rfl rfl fun a w h=>?_,?_⟩
  .have e27:_=Value.int .u64 x1:=h.d 27
   have e28:_=Value.int .u64 z3:=h.d 28
   refine⟨.agg #[.int .u64 x1,.int .u64 z3],w,?_,h.base,Or.inl (ah _ _),rfl⟩
   clear h
   simp only[execOp,List.map_toArray,List.map_cons,List.map_nil,Act.eval,e27,e28]
   go_simp
  refine⟨aB rfl rfl fun a w h=>?_,?_⟩
  .have e2:_=Value.pointer (some ⟨A,0,none⟩):=h.r 2
   refine⟨.pointer (some ⟨A,2,none⟩),w,?_,h.base,Or.inl (ah _ _),rfl⟩
   clear h
   simp only[execOp,Act.eval,e2]
   go_simp
  refine⟨aB rfl rfl fun a w h=>?_,?_⟩
  .have e30:_=Value.pointer (some ⟨A,2,none⟩):=h.d 30
   have c:=h.base.a.cell (i:=2) rfl
   refine⟨.int .u64 x2,w,?_,h.base,Or.inl (ah _ _),rfl⟩
   clear h
   simp only[execOp,Act.eval,e30]
   go_simp
  refine⟨aB rfl rfl fun a w h=>?_,?_⟩
  .have e7:a.tmps.getD 7 undef=.int .u64 z2:=(h.rest 7 (by kernel_rfl)).trans (congrArg (Value.int .u64) XT.out)
   refine⟨.int .u64 z2,w,?_,h.base,Or.inl (ah _ _),rfl⟩
   clear h
   simp only[execOp,Act.eval,e7]
   go_simp
  refine⟨aB rfl rfl fun a w h=>?_,?_⟩
  .have e31:_=Value.int .u64 x2:=h.d 31
   have e32:_=Value.int .u64 z2:=h.d 32
   refine⟨.agg #[.int .u64 x2,.int .u64 z2],w,?_,h.base,Or.inl (ah _ _),rfl⟩
   clear h
   simp only[execOp,List.map_toArray,List.map_cons,List.map_nil,Act.eval,e31,e32]
   go_simp
  refine⟨aB rfl rfl fun a w h=>?_,?_⟩
  .have e2:_=Value.pointer (some ⟨A,0,none⟩):=h.r 2
   refine⟨.pointer (some ⟨A,3,none⟩),w,?_,h.base,Or.inl (ah _ _),rfl⟩
   clear h
   simp only[execOp,Act.eval,e2]
   go_simp
  refine⟨aB rfl rfl fun a w h=>?_,?_⟩
  .have e34:_=Value.pointer (some ⟨A,3,none⟩):=h.d 34
   have c:=h.base.a.cell (i:=3) rfl
   refine⟨.int .u64 x3,w,?_,h.base,Or.inl (ah _ _),rfl⟩
   clear h
   simp only[execOp,Act.eval,e34]
   go_simp
  refine⟨aB rfl rfl fun a w h=>?_,?_⟩
  .have e6:a.tmps.getD 6 undef=.int .u64 z1:=(h.rest 6 (by kernel_rfl)).trans (congrArg (Value.int .u64) XR.out)
   refine⟨.int .u64 z1,w,?_,h.base,Or.inl (ah _ _),rfl⟩
   clear h
   simp only[execOp,Act.eval,e6]
   go_simp
  refine⟨aB rfl rfl fun a w h=>?_,?_⟩
  .have e35:_=Value.int .u64 x3:=h.d 35
   have e36:_=Value.int .u64 z1:=h.d 36
   refine⟨.agg #[.int .u64 x3,.int .u64 z1],w,?_,h.base,Or.inl (ah _ _),rfl⟩
   clear h
   simp only[execOp,List.map_toArray,List.map_cons,List.map_nil,Act.eval,e35,e36]
   go_simp
  refine⟨aB rfl rfl fun a w h=>?_,?_⟩
  .have e2:_=Value.pointer (some ⟨A,0,none⟩):=h.r 2
   refine⟨.pointer (some ⟨A,4,none⟩),w,?_,h.base,Or.inl (ah _ _),rfl⟩
   clear h
   simp only[execOp,Act.eval,e2]
   go_simp
  refine⟨aB rfl rfl fun a w h=>?_,?_⟩
  .have e38:_=Value.pointer (some ⟨A,4,none⟩):=h.d 38
   have c:=h.base.a.cell (i:=4) rfl
   refine⟨.int .u64 x4,w,?_,h.base,Or.inl (ah _ _),rfl⟩
   clear h
   simp only[execOp,Act.eval,e38]
   go_simp
  refine⟨aB rfl rfl fun a w h=>?_,?_⟩
  .have e5:a.tmps.getD 5 undef=.int .u64 z0:=(h.rest 5 (by kernel_rfl)).trans (congrArg (Value.int .u64) XQ.out)
   refine⟨.int .u64 z0,w,?_,h.base,Or.inl (ah _ _),rfl⟩
   clear h
   simp only[execOp,Act.eval,e5]
   go_simp
  refine⟨aB rfl rfl fun a w h=>?_,?_⟩
  .have e39:_=Value.int .u64 x4:=h.d 39
   have e40:_=Value.int .u64 z0:=h.d 40
   refine⟨.agg #[.int .u64 x4,.int .u64 z0],w,?_,h.base,Or.inl (ah _ _),rfl⟩
   clear h
   simp only[execOp,List.map_toArray,List.map_cons,List.map_nil,Act.eval,e39,e40]
   go_simp
  refine⟨aB rfl rfl fun a w h=>?_,?_⟩
  .have e25:_=Value.agg #[.int .u64 x0,.int .u64 y0]:=h.d 25
   have e29:_=Value.agg #[.int .u64 x1,.int .u64 z3]:=h.d 29
   have e33:_=Value.agg #[.int .u64 x2,.int .u64 z2]:=h.d 33
   have e37:_=Value.agg #[.int .u64 x3,.int .u64 z1]:=h.d 37
   have e41:_=Value.agg #[.int .u64 x4,.int .u64 z0]:=h.d 41
   obtain⟨_,_,_,_,_,Cj⟩:=h.base.r
   have hs:=Cj.lt
   refine⟨.slice (some ⟨w.heap.size,0,none⟩) 5 5,w.alloc (.cells #[.int .u64 x0,.int .u64 y0,.int .u64 x1,.int .u64 z3,.int .u64 x2,.int .u64 z2,.int .u64 x3,.int .u64 z1,.int .u64 x4,.int .u64 z0] 175),?_,h.base.alloc _,Or.inl (World.grownBy_alloc _ _ _),⟨w.heap.size,by omega,rfl,aG.new w _ _⟩⟩
   clear h
   simp only[execOp,List.map_toArray,List.map_cons,List.map_nil,Act.eval,e25,e29,e33,e37,e41]
   go_simp
  refine⟨iF rfl rfl fun a w h=>?_,?_⟩
  .obtain⟨PB,hne,e42,hP⟩:∃PB,PB≠R/\a.tmps.getD 42 undef=.slice (some ⟨PB,0,none⟩) 5 5/\aG w PB 175 (flat [(x0,y0),(x1,z3),(x2,z2),(x3,z1),(x4,z0)]):=h.dep 42 (by kernel_rfl)
   have hb:=h.base
   refine⟨109,#[.slice (some ⟨PB,0,none⟩) 5 5],?_,?_⟩
   .clear h hb hP
    have ak4:a.tmps[42]?.getD undef=.slice (some ⟨PB,0,none⟩) 5 5:=by simpa using e42
    clear e42
    go_simp
   .refine (jm PB 5 _ w _ rfl (by decide) hP ?_).mono ?_
    .intro p hp;simp only[List.mem_cons,List.not_mem_nil,or_false]at hp;rcases hp with rfl|rfl|rfl|rfl|rfl<;>exact⟨by assumption,by assumption,by assumption,by assumption⟩
    .rintro e w1 ⟨rfl,hg⟩;exact⟨_,rfl,hb.grown hg,Or.inl hg,by show zU _=_;rw[vH.out];rfl⟩
  refine⟨aB rfl rfl fun a w h=>?_,?_⟩
  .have e2:_=Value.pointer (some ⟨A,0,none⟩):=h.r 2
   refine⟨.pointer (some ⟨A,0,none⟩),w,?_,h.base,Or.inl (ah _ _),rfl⟩
   clear h
   simp only[execOp,Act.eval,e2]
   go_simp
  refine⟨aB rfl rfl fun a w h=>?_,?_⟩
  .have e44:_=Value.pointer (some ⟨A,0,none⟩):=h.d 44
   have c:=h.base.a.cell (i:=0) rfl
   refine⟨.int .u64 x0,w,?_,h.base,Or.inl (ah _ _),rfl⟩
   clear h
   simp only[execOp,Act.eval,e44]
   go_simp
  refine⟨aB rfl rfl fun a w h=>?_,?_⟩
  .have e3:_=Value.pointer (some ⟨B,0,none⟩):=h.r 3
   refine⟨.pointer (some ⟨B,1,none⟩),w,?_,h.base,Or.inl (ah _ _),rfl⟩
   clear h
   simp only[execOp,Act.eval,e3]
   go_simp
  refine⟨aB rfl rfl fun a w h=>?_,?_⟩
  .have e46:_=Value.pointer (some ⟨B,1,none⟩):=h.d 46
   have c:=h.base.b.cell (i:=1) rfl
   refine⟨.int .u64 y1,w,?_,h.base,Or.inl (ah _ _),rfl⟩
   clear h
   simp only[execOp,Act.eval,e46]
   go_simp
  refine⟨aB rfl rfl fun a w h=>?_,?_⟩
  .have e45:_=Value.int .u64 x0:=h.d 45
   have e47:_=Value.int .u64 y1:=h.d 47
   refine⟨.agg #[.int .u64 x0,.int .u64 y1],w,?_,h.base,Or.inl (ah _ _),rfl⟩
   clear h
   simp only[execOp,List.map_toArray,List.map_cons,List.map_nil,Act.eval,e45,e47]
   go_simp
  refine⟨aB rfl rfl fun a w h=>?_,?_⟩
  .have e2:_=Value.pointer (some ⟨A,0,none⟩):=h.r 2
   refine⟨.pointer (some ⟨A,1,none⟩),w,?_,h.base,Or.inl (ah _ _),rfl⟩
   clear h
   simp only[execOp,Act.eval,e2]
   go_simp
  refine⟨aB rfl rfl fun a w h=>?_,?_⟩
  .have e49:_=Value.pointer (some ⟨A,1,none⟩):=h.d 49
   have c:=h.base.a.cell (i:=1) rfl
   refine⟨.int .u64 x1,w,?_,h.base,Or.inl (ah _ _),rfl⟩
   clear h
   simp only[execOp,Act.eval,e49]
   go_simp
  refine⟨aB rfl rfl fun a w h=>?_,?_⟩
  .have e3:_=Value.pointer (some ⟨B,0,none⟩):=h.r 3
   refine⟨.pointer (some ⟨B,0,none⟩),w,?_,h.base,Or.inl (ah _ _),rfl⟩
   clear h
   simp only[execOp,Act.eval,e3]
   go_simp
  refine⟨aB rfl rfl fun a w h=>?_,?_⟩
  .have e51:_=Value.pointer (some ⟨B,0,none⟩):=h.d 51
   have c:=h.base.b.cell (i:=0) rfl
   refine⟨.int .u64 y0,w,?_,h.base,Or.inl (ah _ _),rfl⟩
   clear h
   simp only[execOp,Act.eval,e51]
   go_simp
  refine⟨aB rfl rfl fun a w h=>?_,?_⟩
  .have e50:_=Value.int .u64 x1:=h.d 50
   have e52:_=Value.int .u64 y0:=h.d 52
   refine⟨.agg #[.int .u64 x1,.int .u64 y0],w,?_,h.base,Or.inl (ah _ _),rfl⟩
   clear h
   simp only[execOp,List.map_toArray,List.map_cons,List.map_nil,Act.eval,e50,e52]
   go_simp
  refine⟨aB rfl rfl fun a w h=>?_,?_⟩
  .have e2:_=Value.pointer (some ⟨A,0,none⟩):=h.r 2
   refine⟨.pointer (some ⟨A,2,none⟩),w,?_,h.base,Or.inl (ah _ _),rfl⟩
   clear h
   simp only[execOp,Act.eval,e2]
   go_simp
  refine⟨aB rfl rfl fun a w h=>?_,?_⟩
  .have e54:_=Value.pointer (some ⟨A,2,none⟩):=h.d 54
   have c:=h.base.a.cell (i:=2) rfl
   refine⟨.int .u64 x2,w,?_,h.base,Or.inl (ah _ _),rfl⟩
   clear h
   simp only[execOp,Act.eval,e54]
   go_simp
  refine⟨aB rfl rfl fun a w h=>?_,?_⟩
  .have e8:a.tmps.getD 8 undef=.int .u64 z3:=(h.rest 8 (by kernel_rfl)).trans (congrArg (Value.int .u64) Rw.out)
   refine⟨.int .u64 z3,w,?_,h.base,Or.inl (ah _ _),rfl⟩
   clear h
   simp only[execOp,Act.eval,e8]
   go_simp
  refine⟨aB rfl rfl fun a w h=>?_,?_⟩
  .have e55:_=Value.int .u64 x2:=h.d 55
   have e56:_=Value.int .u64 z3:=h.d 56
   refine⟨.agg #[.int .u64 x2,.int .u64 z3],w,?_,h.base,Or.inl (ah _ _),rfl⟩
   clear h
   simp only[execOp,List.map_toArray,List.map_cons,List.map_nil,Act.eval,e55,e56]
   go_simp
  refine⟨aB rfl rfl fun a w h=>?_,?_⟩
  .have e2:_=Value.pointer (some ⟨A,0,none⟩):=h.r 2
   refine⟨.pointer (some ⟨A,3,none⟩),w,?_,h.base,Or.inl (ah _ _),rfl⟩
   clear h
   simp only[execOp,Act.eval,e2]
   go_simp
  refine⟨aB rfl rfl fun a w h=>?_,?_⟩
  .have e58:_=Value.pointer (some ⟨A,3,none⟩):=h.d 58
   have c:=h.base.a.cell (i:=3) rfl
   refine⟨.int .u64 x3,w,?_,h.base,Or.inl (ah _ _),rfl⟩
   clear h
   simp only[execOp,Act.eval,e58]
   go_simp
  refine⟨aB rfl rfl fun a w h=>?_,?_⟩
  .have e7:a.tmps.getD 7 undef=.int .u64 z2:=(h.rest 7 (by kernel_rfl)).trans (congrArg (Value.int .u64) XT.out)
   refine⟨.int .u64 z2,w,?_,h.base,Or.inl (ah _ _),rfl⟩
   clear h
   simp only[execOp,Act.eval,e7]
   go_simp
  refine⟨aB rfl rfl fun a w h=>?_,?_⟩
  .have e59:_=Value.int .u64 x3:=h.d 59
   have e60:_=Value.int .u64 z2:=h.d 60
   refine⟨.agg #[.int .u64 x3,.int .u64 z2],w,?_,h.base,Or.inl (ah _ _),rfl⟩
   clear h
   simp only[execOp,List.map_toArray,List.map_cons,List.map_nil,Act.eval,e59,e60]
   go_simp
  refine⟨aB rfl rfl fun a w h=>?_,?_⟩
  .have e2:_=Value.pointer (some ⟨A,0,none⟩):=h.r 2
   refine⟨.pointer (some ⟨A,4,none⟩),w,?_,h.base,Or.inl (ah _ _),rfl⟩
   clear h
   simp only[execOp,Act.eval,e2]
   go_simp
  refine⟨aB rfl rfl fun a w h=>?_,?_⟩
  .have e62:_=Value.pointer (some ⟨A,4,none⟩):=h.d 62
   have c:=h.base.a.cell (i:=4) rfl
   refine⟨.int .u64 x4,w,?_,h.base,Or.inl (ah _ _),rfl⟩
   clear h
   simp only[execOp,Act.eval,e62]
   go_simp
  refine⟨aB rfl rfl fun a w h=>?_,?_⟩
  .have e6:a.tmps.getD 6 undef=.int .u64 z1:=(h.rest 6 (by kernel_rfl)).trans (congrArg (Value.int .u64) XR.out)
   refine⟨.int .u64 z1,w,?_,h.base,Or.inl (ah _ _),rfl⟩
   clear h
   simp only[execOp,Act.eval,e6]
   go_simp
  refine⟨aB rfl rfl fun a w h=>?_,?_⟩
  .have e63:_=Value.int .u64 x4:=h.d 63
   have e64:_=Value.int .u64 z1:=h.d 64
   refine⟨.agg #[.int .u64 x4,.int .u64 z1],w,?_,h.base,Or.inl (ah _ _),rfl⟩
   clear h
   simp only[execOp,List.map_toArray,List.map_cons,List.map_nil,Act.eval,e63,e64]
   go_simp
  refine⟨aB rfl rfl fun a w h=>?_,?_⟩
  .have e48:_=Value.agg #[.int .u64 x0,.int .u64 y1]:=h.d 48
   have e53:_=Value.agg #[.int .u64 x1,.int .u64 y0]:=h.d 53
   have e57:_=Value.agg #[.int .u64 x2,.int .u64 z3]:=h.d 57
   have e61:_=Value.agg #[.int .u64 x3,.int .u64 z2]:=h.d 61
   have e65:_=Value.agg #[.int .u64 x4,.int .u64 z1]:=h.d 65
   obtain⟨_,_,_,_,_,Cj⟩:=h.base.r
   have hs:=Cj.lt
   refine⟨.slice (some ⟨w.heap.size,0,none⟩) 5 5,w.alloc (.cells #[.int .u64 x0,.int .u64 y1,.int .u64 x1,.int .u64 y0,.int .u64 x2,.int .u64 z3,.int .u64 x3,.int .u64 z2,.int .u64 x4,.int .u64 z1] 175),?_,h.base.alloc _,Or.inl (World.grownBy_alloc _ _ _),⟨w.heap.size,by omega,rfl,aG.new w _ _⟩⟩
   clear h
   simp only[execOp,List.map_toArray,List.map_cons,List.map_nil,Act.eval,e48,e53,e57,e61,e65]
   go_simp
  refine⟨iF rfl rfl fun a w h=>?_,?_⟩
  .obtain⟨PB,hne,e66,hP⟩:∃PB,PB≠R/\a.tmps.getD 66 undef=.slice (some ⟨PB,0,none⟩) 5 5/\aG w PB 175 (flat [(x0,y1),(x1,y0),(x2,z3),(x3,z2),(x4,z1)]):=h.dep 66 (by kernel_rfl)
   have hb:=h.base
   refine⟨109,#[.slice (some ⟨PB,0,none⟩) 5 5],?_,?_⟩
   .clear h hb hP
    have ak5:a.tmps[66]?.getD undef=.slice (some ⟨PB,0,none⟩) 5 5:=by simpa using e66
    clear e66
    go_simp
   .refine (jm PB 5 _ w _ rfl (by decide) hP ?_).mono ?_
    .intro p hp;simp only[List.mem_cons,List.not_mem_nil,or_false]at hp;rcases hp with rfl|rfl|rfl|rfl|rfl<;>exact⟨by assumption,by assumption,by assumption,by assumption⟩
    .rintro e w1 ⟨rfl,hg⟩;exact⟨_,rfl,hb.grown hg,Or.inl hg,by show zU _=_;rw[Od.out];rfl⟩
  refine⟨aB rfl rfl fun a w h=>?_,?_⟩
  .have e2:_=Value.pointer (some ⟨A,0,none⟩):=h.r 2
   refine⟨.pointer (some ⟨A,0,none⟩),w,?_,h.base,Or.inl (ah _ _),rfl⟩
   clear h
   simp only[execOp,Act.eval,e2]
   go_simp
  refine⟨aB rfl rfl fun a w h=>?_,?_⟩
  .have e68:_=Value.pointer (some ⟨A,0,none⟩):=h.d 68
   have c:=h.base.a.cell (i:=0) rfl
   refine⟨.int .u64 x0,w,?_,h.base,Or.inl (ah _ _),rfl⟩
   clear h
   simp only[execOp,Act.eval,e68]
   go_simp
  refine⟨aB rfl rfl fun a w h=>?_,?_⟩
  .have e3:_=Value.pointer (some ⟨B,0,none⟩):=h.r 3
   refine⟨.pointer (some ⟨B,2,none⟩),w,?_,h.base,Or.inl (ah _ _),rfl⟩
   clear h
   simp only[execOp,Act.eval,e3]
   go_simp
  refine⟨aB rfl rfl fun a w h=>?_,?_⟩
  .have e70:_=Value.pointer (some ⟨B,2,none⟩):=h.d 70
   have c:=h.base.b.cell (i:=2) rfl
   refine⟨.int .u64 y2,w,?_,h.base,Or.inl (ah _ _),rfl⟩
   clear h
   simp only[execOp,Act.eval,e70]
   go_simp
  refine⟨aB rfl rfl fun a w h=>?_,?_⟩
  .have e69:_=Value.int .u64 x0:=h.d 69
   have e71:_=Value.int .u64 y2:=h.d 71
   refine⟨.agg #[.int .u64 x0,.int .u64 y2],w,?_,h.base,Or.inl (ah _ _),rfl⟩
   clear h
   simp only[execOp,List.map_toArray,List.map_cons,List.map_nil,Act.eval,e69,e71]
   go_simp
  refine⟨aB rfl rfl fun a w h=>?_,?_⟩
  .have e2:_=Value.pointer (some ⟨A,0,none⟩):=h.r 2
   refine⟨.pointer (some ⟨A,1,none⟩),w,?_,h.base,Or.inl (ah _ _),rfl⟩
   clear h
   simp only[execOp,Act.eval,e2]
   go_simp
  refine⟨aB rfl rfl fun a w h=>?_,?_⟩
  .have e73:_=Value.pointer (some ⟨A,1,none⟩):=h.d 73
   have c:=h.base.a.cell (i:=1) rfl
   refine⟨.int .u64 x1,w,?_,h.base,Or.inl (ah _ _),rfl⟩
   clear h
   simp only[execOp,Act.eval,e73]
   go_simp
  refine⟨aB rfl rfl fun a w h=>?_,?_⟩
  .have e3:_=Value.pointer (some ⟨B,0,none⟩):=h.r 3
   refine⟨.pointer (some ⟨B,1,none⟩),w,?_,h.base,Or.inl (ah _ _),rfl⟩
   clear h
   simp only[execOp,Act.eval,e3]
   go_simp
  refine⟨aB rfl rfl fun a w h=>?_,?_⟩
  .have e75:_=Value.pointer (some ⟨B,1,none⟩):=h.d 75
   have c:=h.base.b.cell (i:=1) rfl
   refine⟨.int .u64 y1,w,?_,h.base,Or.inl (ah _ _),rfl⟩
   clear h
   simp only[execOp,Act.eval,e75]
   go_simp
  refine⟨aB rfl rfl fun a w h=>?_,?_⟩
  .have e74:_=Value.int .u64 x1:=h.d 74
   have e76:_=Value.int .u64 y1:=h.d 76
   refine⟨.agg #[.int .u64 x1,.int .u64 y1],w,?_,h.base,Or.inl (ah _ _),rfl⟩
   clear h
   simp only[execOp,List.map_toArray,List.map_cons,List.map_nil,Act.eval,e74,e76]
   go_simp
  refine⟨aB rfl rfl fun a w h=>?_,?_⟩
  .have e2:_=Value.pointer (some ⟨A,0,none⟩):=h.r 2
   refine⟨.pointer (some ⟨A,2,none⟩),w,?_,h.base,Or.inl (ah _ _),rfl⟩
   clear h
   simp only[execOp,Act.eval,e2]
   go_simp
  refine⟨aB rfl rfl fun a w h=>?_,?_⟩
  .have e78:_=Value.pointer (some ⟨A,2,none⟩):=h.d 78
   have c:=h.base.a.cell (i:=2) rfl
   refine⟨.int .u64 x2,w,?_,h.base,Or.inl (ah _ _),rfl⟩
   clear h
   simp only[execOp,Act.eval,e78]
   go_simp
  refine⟨aB rfl rfl fun a w h=>?_,?_⟩
  .have e3:_=Value.pointer (some ⟨B,0,none⟩):=h.r 3
   refine⟨.pointer (some ⟨B,0,none⟩),w,?_,h.base,Or.inl (ah _ _),rfl⟩
   clear h
   simp only[execOp,Act.eval,e3]
   go_simp
  refine⟨aB rfl rfl fun a w h=>?_,?_⟩
  .have e80:_=Value.pointer (some ⟨B,0,none⟩):=h.d 80
   have c:=h.base.b.cell (i:=0) rfl
   refine⟨.int .u64 y0,w,?_,h.base,Or.inl (ah _ _),rfl⟩
   clear h
   simp only[execOp,Act.eval,e80]
   go_simp
  refine⟨aB rfl rfl fun a w h=>?_,?_⟩
  .have e79:_=Value.int .u64 x2:=h.d 79
   have e81:_=Value.int .u64 y0:=h.d 81
   refine⟨.agg #[.int .u64 x2,.int .u64 y0],w,?_,h.base,Or.inl (ah _ _),rfl⟩
   clear h
   simp only[execOp,List.map_toArray,List.map_cons,List.map_nil,Act.eval,e79,e81]
   go_simp
  refine⟨aB rfl rfl fun a w h=>?_,?_⟩
  .have e2:_=Value.pointer (some ⟨A,0,none⟩):=h.r 2
   refine⟨.pointer (some ⟨A,3,none⟩),w,?_,h.base,Or.inl (ah _ _),rfl⟩
   clear h
   simp only[execOp,Act.eval,e2]
   go_simp
  refine⟨aB rfl rfl fun a w h=>?_,?_⟩
  .have e83:_=Value.pointer (some ⟨A,3,none⟩):=h.d 83
   have c:=h.base.a.cell (i:=3) rfl
   refine⟨.int .u64 x3,w,?_,h.base,Or.inl (ah _ _),rfl⟩
   clear h
   simp only[execOp,Act.eval,e83]
   go_simp
  refine⟨aB rfl rfl fun a w h=>?_,?_⟩
  .have e8:a.tmps.getD 8 undef=.int .u64 z3:=(h.rest 8 (by kernel_rfl)).trans (congrArg (Value.int .u64) Rw.out)
   refine⟨.int .u64 z3,w,?_,h.base,Or.inl (ah _ _),rfl⟩
   clear h
   simp only[execOp,Act.eval,e8]
   go_simp
  refine⟨aB rfl rfl fun a w h=>?_,?_⟩
  .have e84:_=Value.int .u64 x3:=h.d 84
   have e85:_=Value.int .u64 z3:=h.d 85
   refine⟨.agg #[.int .u64 x3,.int .u64 z3],w,?_,h.base,Or.inl (ah _ _),rfl⟩
   clear h
   simp only[execOp,List.map_toArray,List.map_cons,List.map_nil,Act.eval,e84,e85]
   go_simp
  refine⟨aB rfl rfl fun a w h=>?_,?_⟩
  .have e2:_=Value.pointer (some ⟨A,0,none⟩):=h.r 2
   refine⟨.pointer (some ⟨A,4,none⟩),w,?_,h.base,Or.inl (ah _ _),rfl⟩
   clear h
   simp only[execOp,Act.eval,e2]
   go_simp
  refine⟨aB rfl rfl fun a w h=>?_,?_⟩
  .have e87:_=Value.pointer (some ⟨A,4,none⟩):=h.d 87
   have c:=h.base.a.cell (i:=4) rfl
   refine⟨.int .u64 x4,w,?_,h.base,Or.inl (ah _ _),rfl⟩
   clear h
   simp only[execOp,Act.eval,e87]
   go_simp
  refine⟨aB rfl rfl fun a w h=>?_,?_⟩
  .have e7:a.tmps.getD 7 undef=.int .u64 z2:=(h.rest 7 (by kernel_rfl)).trans (congrArg (Value.int .u64) XT.out)
   refine⟨.int .u64 z2,w,?_,h.base,Or.inl (ah _ _),rfl⟩
   clear h
   simp only[execOp,Act.eval,e7]
   go_simp
  refine⟨aB rfl rfl fun a w h=>?_,?_⟩
  .have e88:_=Value.int .u64 x4:=h.d 88
   have e89:_=Value.int .u64 z2:=h.d 89
   refine⟨.agg #[.int .u64 x4,.int .u64 z2],w,?_,h.base,Or.inl (ah _ _),rfl⟩
   clear h
   simp only[execOp,List.map_toArray,List.map_cons,List.map_nil,Act.eval,e88,e89]
   go_simp
  refine⟨aB rfl rfl fun a w h=>?_,?_⟩
  .have e72:_=Value.agg #[.int .u64 x0,.int .u64 y2]:=h.d 72
   have e77:_=Value.agg #[.int .u64 x1,.int .u64 y1]:=h.d 77
   have e82:_=Value.agg #[.int .u64 x2,.int .u64 y0]:=h.d 82
   have e86:_=Value.agg #[.int .u64 x3,.int .u64 z3]:=h.d 86
   have e90:_=Value.agg #[.int .u64 x4,.int .u64 z2]:=h.d 90
   obtain⟨_,_,_,_,_,Cj⟩:=h.base.r
   have hs:=Cj.lt
   refine⟨.slice (some ⟨w.heap.size,0,none⟩) 5 5,w.alloc (.cells #[.int .u64 x0,.int .u64 y2,.int .u64 x1,.int .u64 y1,.int .u64 x2,.int .u64 y0,.int .u64 x3,.int .u64 z3,.int .u64 x4,.int .u64 z2] 175),?_,h.base.alloc _,Or.inl (World.grownBy_alloc _ _ _),⟨w.heap.size,by omega,rfl,aG.new w _ _⟩⟩
   clear h
   simp only[execOp,List.map_toArray,List.map_cons,List.map_nil,Act.eval,e72,e77,e82,e86,e90]
   go_simp
  refine⟨iF rfl rfl fun a w h=>?_,?_⟩
  .obtain⟨PB,hne,e91,hP⟩:∃PB,PB≠R/\a.tmps.getD 91 undef=.slice (some ⟨PB,0,none⟩) 5 5/\aG w PB 175 (flat [(x0,y2),(x1,y1),(x2,y0),(x3,z3),(x4,z2)]):=h.dep 91 (by kernel_rfl)
   have hb:=h.base
   refine⟨109,#[.slice (some ⟨PB,0,none⟩) 5 5],?_,?_⟩
   .clear h hb hP
    have ak6:a.tmps[91]?.getD undef=.slice (some ⟨PB,0,none⟩) 5 5:=by simpa using e91
    clear e91
    go_simp
   .refine (jm PB 5 _ w _ rfl (by decide) hP ?_).mono ?_
    .intro p hp;simp only[List.mem_cons,List.not_mem_nil,or_false]at hp;rcases hp with rfl|rfl|rfl|rfl|rfl<;>exact⟨by assumption,by assumption,by assumption,by assumption⟩
    .rintro e w1 ⟨rfl,hg⟩;exact⟨_,rfl,hb.grown hg,Or.inl hg,by show zU _=_;rw[HS2.out];rfl⟩
  refine⟨aB rfl rfl fun a w h=>?_,?_⟩
  .have e2:_=Value.pointer (some ⟨A,0,none⟩):=h.r 2
   refine⟨.pointer (some ⟨A,0,none⟩),w,?_,h.base,Or.inl (ah _ _),rfl⟩
   clear h
   simp only[execOp,Act.eval,e2]
   go_simp
  refine⟨aB rfl rfl fun a w h=>?_,?_⟩
  .have e93:_=Value.pointer (some ⟨A,0,none⟩):=h.d 93
   have c:=h.base.a.cell (i:=0) rfl
   refine⟨.int .u64 x0,w,?_,h.base,Or.inl (ah _ _),rfl⟩
   clear h
   simp only[execOp,Act.eval,e93]
   go_simp
  refine⟨aB rfl rfl fun a w h=>?_,?_⟩
  .have e3:_=Value.pointer (some ⟨B,0,none⟩):=h.r 3
   refine⟨.pointer (some ⟨B,3,none⟩),w,?_,h.base,Or.inl (ah _ _),rfl⟩
   clear h
   simp only[execOp,Act.eval,e3]
   go_simp
  refine⟨aB rfl rfl fun a w h=>?_,?_⟩
  .have e95:_=Value.pointer (some ⟨B,3,none⟩):=h.d 95
   have c:=h.base.b.cell (i:=3) rfl
   refine⟨.int .u64 y3,w,?_,h.base,Or.inl (ah _ _),rfl⟩
   clear h
   simp only[execOp,Act.eval,e95]
   go_simp
  refine⟨aB rfl rfl fun a w h=>?_,?_⟩
  .have e94:_=Value.int .u64 x0:=h.d 94
   have e96:_=Value.int .u64 y3:=h.d 96
   refine⟨.agg #[.int .u64 x0,.int .u64 y3],w,?_,h.base,Or.inl (ah _ _),rfl⟩
   clear h
   simp only[execOp,List.map_toArray,List.map_cons,List.map_nil,Act.eval,e94,e96]
   go_simp
  refine⟨aB rfl rfl fun a w h=>?_,?_⟩
  .have e2:_=Value.pointer (some ⟨A,0,none⟩):=h.r 2
   refine⟨.pointer (some ⟨A,1,none⟩),w,?_,h.base,Or.inl (ah _ _),rfl⟩
   clear h
   simp only[execOp,Act.eval,e2]
   go_simp
  refine⟨aB rfl rfl fun a w h=>?_,?_⟩
  .have e98:_=Value.pointer (some ⟨A,1,none⟩):=h.d 98
   have c:=h.base.a.cell (i:=1) rfl
   refine⟨.int .u64 x1,w,?_,h.base,Or.inl (ah _ _),rfl⟩
   clear h
   simp only[execOp,Act.eval,e98]
   go_simp
  refine⟨aB rfl rfl fun a w h=>?_,?_⟩
  .have e3:_=Value.pointer (some ⟨B,0,none⟩):=h.r 3
   refine⟨.pointer (some ⟨B,2,none⟩),w,?_,h.base,Or.inl (ah _ _),rfl⟩
   clear h
   simp only[execOp,Act.eval,e3]
   go_simp
  refine⟨aB rfl rfl fun a w h=>?_,?_⟩
  .have e100:_=Value.pointer (some ⟨B,2,none⟩):=h.d 100
   have c:=h.base.b.cell (i:=2) rfl
   refine⟨.int .u64 y2,w,?_,h.base,Or.inl (ah _ _),rfl⟩
   clear h
   simp only[execOp,Act.eval,e100]
   go_simp
  refine⟨aB rfl rfl fun a w h=>?_,?_⟩
  .have e99:_=Value.int .u64 x1:=h.d 99
   have afA:_=Value.int .u64 y2:=h.d 101
   refine⟨.agg #[.int .u64 x1,.int .u64 y2],w,?_,h.base,Or.inl (ah _ _),rfl⟩
   clear h
   simp only[execOp,List.map_toArray,List.map_cons,List.map_nil,Act.eval,e99,afA]
   go_simp
  refine⟨aB rfl rfl fun a w h=>?_,?_⟩
  .have e2:_=Value.pointer (some ⟨A,0,none⟩):=h.r 2
   refine⟨.pointer (some ⟨A,2,none⟩),w,?_,h.base,Or.inl (ah _ _),rfl⟩
   clear h
   simp only[execOp,Act.eval,e2]
   go_simp
  refine⟨aB rfl rfl fun a w h=>?_,?_⟩
  .have afB:_=Value.pointer (some ⟨A,2,none⟩):=h.d 103
   have c:=h.base.a.cell (i:=2) rfl
   refine⟨.int .u64 x2,w,?_,h.base,Or.inl (ah _ _),rfl⟩
   clear h
   simp only[execOp,Act.eval,afB]
   go_simp
  refine⟨aB rfl rfl fun a w h=>?_,?_⟩
  .have e3:_=Value.pointer (some ⟨B,0,none⟩):=h.r 3
   refine⟨.pointer (some ⟨B,1,none⟩),w,?_,h.base,Or.inl (ah _ _),rfl⟩
   clear h
   simp only[execOp,Act.eval,e3]
   go_simp
  refine⟨aB rfl rfl fun a w h=>?_,?_⟩
  .have afC:_=Value.pointer (some ⟨B,1,none⟩):=h.d 105
   have c:=h.base.b.cell (i:=1) rfl
   refine⟨.int .u64 y1,w,?_,h.base,Or.inl (ah _ _),rfl⟩
   clear h
   simp only[execOp,Act.eval,afC]
   go_simp
  refine⟨aB rfl rfl fun a w h=>?_,?_⟩
  .have afD:_=Value.int .u64 x2:=h.d 104
   have afE:_=Value.int .u64 y1:=h.d 106
   refine⟨.agg #[.int .u64 x2,.int .u64 y1],w,?_,h.base,Or.inl (ah _ _),rfl⟩
   clear h
   simp only[execOp,List.map_toArray,List.map_cons,List.map_nil,Act.eval,afD,afE]
   go_simp
  refine⟨aB rfl rfl fun a w h=>?_,?_⟩
  .have e2:_=Value.pointer (some ⟨A,0,none⟩):=h.r 2
   refine⟨.pointer (some ⟨A,3,none⟩),w,?_,h.base,Or.inl (ah _ _),rfl⟩
   clear h
   simp only[execOp,Act.eval,e2]
   go_simp
  refine⟨aB rfl rfl fun a w h=>?_,?_⟩
  .have e108:_=Value.pointer (some ⟨A,3,none⟩):=h.d 108
   have c:=h.base.a.cell (i:=3) rfl
   refine⟨.int .u64 x3,w,?_,h.base,Or.inl (ah _ _),rfl⟩
   clear h
   simp only[execOp,Act.eval,e108]
   go_simp
  refine⟨aB rfl rfl fun a w h=>?_,?_⟩
  .have e3:_=Value.pointer (some ⟨B,0,none⟩):=h.r 3
   refine⟨.pointer (some ⟨B,0,none⟩),w,?_,h.base,Or.inl (ah _ _),rfl⟩
   clear h
   simp only[execOp,Act.eval,e3]
   go_simp
  refine⟨aB rfl rfl fun a w h=>?_,?_⟩
  .have afF:_=Value.pointer (some ⟨B,0,none⟩):=h.d 110
   have c:=h.base.b.cell (i:=0) rfl
   refine⟨.int .u64 y0,w,?_,h.base,Or.inl (ah _ _),rfl⟩
   clear h
   simp only[execOp,Act.eval,afF]
   go_simp
  refine⟨aB rfl rfl fun a w h=>?_,?_⟩
  .have e109:_=Value.int .u64 x3:=h.d 109
   have afG:_=Value.int .u64 y0:=h.d 111
   refine⟨.agg #[.int .u64 x3,.int .u64 y0],w,?_,h.base,Or.inl (ah _ _),rfl⟩
   clear h
   simp only[execOp,List.map_toArray,List.map_cons,List.map_nil,Act.eval,e109,afG]
   go_simp
  refine⟨aB rfl rfl fun a w h=>?_,?_⟩
  .have e2:_=Value.pointer (some ⟨A,0,none⟩):=h.r 2
   refine⟨.pointer (some ⟨A,4,none⟩),w,?_,h.base,Or.inl (ah _ _),rfl⟩
   clear h
   simp only[execOp,Act.eval,e2]
   go_simp
  refine⟨aB rfl rfl fun a w h=>?_,?_⟩
  .have afH:_=Value.pointer (some ⟨A,4,none⟩):=h.d 113
   have c:=h.base.a.cell (i:=4) rfl
   refine⟨.int .u64 x4,w,?_,h.base,Or.inl (ah _ _),rfl⟩
   clear h
   simp only[execOp,Act.eval,afH]
   go_simp
  refine⟨aB rfl rfl fun a w h=>?_,?_⟩
  .have e8:a.tmps.getD 8 undef=.int .u64 z3:=(h.rest 8 (by kernel_rfl)).trans (congrArg (Value.int .u64) Rw.out)
   refine⟨.int .u64 z3,w,?_,h.base,Or.inl (ah _ _),rfl⟩
   clear h
   simp only[execOp,Act.eval,e8]
   go_simp
  refine⟨aB rfl rfl fun a w h=>?_,?_⟩
  .have afI:_=Value.int .u64 x4:=h.d 114
   have e115:_=Value.int .u64 z3:=h.d 115
   refine⟨.agg #[.int .u64 x4,.int .u64 z3],w,?_,h.base,Or.inl (ah _ _),rfl⟩
   clear h
   simp only[execOp,List.map_toArray,List.map_cons,List.map_nil,Act.eval,afI,e115]
   go_simp
  refine⟨aB rfl rfl fun a w h=>?_,?_⟩
  .have e97:_=Value.agg #[.int .u64 x0,.int .u64 y3]:=h.d 97
   have afJ:_=Value.agg #[.int .u64 x1,.int .u64 y2]:=h.d 102
   have afK:_=Value.agg #[.int .u64 x2,.int .u64 y1]:=h.d 107
   have afL:_=Value.agg #[.int .u64 x3,.int .u64 y0]:=h.d 112
   have e116:_=Value.agg #[.int .u64 x4,.int .u64 z3]:=h.d 116
   obtain⟨_,_,_,_,_,Cj⟩:=h.base.r
   have hs:=Cj.lt
   refine⟨.slice (some ⟨w.heap.size,0,none⟩) 5 5,w.alloc (.cells #[.int .u64 x0,.int .u64 y3,.int .u64 x1,.int .u64 y2,.int .u64 x2,.int .u64 y1,.int .u64 x3,.int .u64 y0,.int .u64 x4,.int .u64 z3] 175),?_,h.base.alloc _,Or.inl (World.grownBy_alloc _ _ _),⟨w.heap.size,by omega,rfl,aG.new w _ _⟩⟩
   clear h
   simp only[execOp,List.map_toArray,List.map_cons,List.map_nil,Act.eval,e97,afJ,afK,afL,e116]
   go_simp
  refine⟨iF rfl rfl fun a w h=>?_,?_⟩
  .obtain⟨PB,hne,e117,hP⟩:∃PB,PB≠R/\a.tmps.getD 117 undef=.slice (some ⟨PB,0,none⟩) 5 5/\aG w PB 175 (flat [(x0,y3),(x1,y2),(x2,y1),(x3,y0),(x4,z3)]):=h.dep 117 (by kernel_rfl)
   have hb:=h.base
   refine⟨109,#[.slice (some ⟨PB,0,none⟩) 5 5],?_,?_⟩
   .clear h hb hP
    have aiF:a.tmps[117]?.getD undef=.slice (some ⟨PB,0,none⟩) 5 5:=by simpa using e117
    clear e117
    go_simp
   .refine (jm PB 5 _ w _ rfl (by decide) hP ?_).mono ?_
    .intro p hp;simp only[List.mem_cons,List.not_mem_nil,or_false]at hp;rcases hp with rfl|rfl|rfl|rfl|rfl<;>exact⟨by assumption,by assumption,by assumption,by assumption⟩
    .rintro e w1 ⟨rfl,hg⟩;exact⟨_,rfl,hb.grown hg,Or.inl hg,by show zU _=_;rw[YJ.out];rfl⟩
  refine⟨aB rfl rfl fun a w h=>?_,?_⟩
  .have e2:_=Value.pointer (some ⟨A,0,none⟩):=h.r 2
   refine⟨.pointer (some ⟨A,0,none⟩),w,?_,h.base,Or.inl (ah _ _),rfl⟩
   clear h
   simp only[execOp,Act.eval,e2]
   go_simp
  refine⟨aB rfl rfl fun a w h=>?_,?_⟩
  .have e119:_=Value.pointer (some ⟨A,0,none⟩):=h.d 119
   have c:=h.base.a.cell (i:=0) rfl
   refine⟨.int .u64 x0,w,?_,h.base,Or.inl (ah _ _),rfl⟩
   clear h
   simp only[execOp,Act.eval,e119]
   go_simp
  refine⟨aB rfl rfl fun a w h=>?_,?_⟩
  .have e3:_=Value.pointer (some ⟨B,0,none⟩):=h.r 3
   refine⟨.pointer (some ⟨B,4,none⟩),w,?_,h.base,Or.inl (ah _ _),rfl⟩
   clear h
   simp only[execOp,Act.eval,e3]
   go_simp
  refine⟨aB rfl rfl fun a w h=>?_,?_⟩
  .have Oe:_=Value.pointer (some ⟨B,4,none⟩):=h.d 121
   have c:=h.base.b.cell (i:=4) rfl
   refine⟨.int .u64 y4,w,?_,h.base,Or.inl (ah _ _),rfl⟩
   clear h
   simp only[execOp,Act.eval,Oe]
   go_simp
  refine⟨aB rfl rfl fun a w h=>?_,?_⟩
  .have e120:_=Value.int .u64 x0:=h.d 120
   have Og:_=Value.int .u64 y4:=h.d 122
   refine⟨.agg #[.int .u64 x0,.int .u64 y4],w,?_,h.base,Or.inl (ah _ _),rfl⟩
   clear h
   simp only[execOp,List.map_toArray,List.map_cons,List.map_nil,Act.eval,e120,Og]
   go_simp
  refine⟨aB rfl rfl fun a w h=>?_,?_⟩
  .have e2:_=Value.pointer (some ⟨A,0,none⟩):=h.r 2
   refine⟨.pointer (some ⟨A,1,none⟩),w,?_,h.base,Or.inl (ah _ _),rfl⟩
   clear h
   simp only[execOp,Act.eval,e2]
   go_simp
  refine⟨aB rfl rfl fun a w h=>?_,?_⟩
  .have Oh:_=Value.pointer (some ⟨A,1,none⟩):=h.d 124
   have c:=h.base.a.cell (i:=1) rfl
   refine⟨.int .u64 x1,w,?_,h.base,Or.inl (ah _ _),rfl⟩
   clear h
   simp only[execOp,Act.eval,Oh]
   go_simp
  refine⟨aB rfl rfl fun a w h=>?_,?_⟩
  .have e3:_=Value.pointer (some ⟨B,0,none⟩):=h.r 3
   refine⟨.pointer (some ⟨B,3,none⟩),w,?_,h.base,Or.inl (ah _ _),rfl⟩
   clear h
   simp only[execOp,Act.eval,e3]
   go_simp
  refine⟨aB rfl rfl fun a w h=>?_,?_⟩
  .have e126:_=Value.pointer (some ⟨B,3,none⟩):=h.d 126
   have c:=h.base.b.cell (i:=3) rfl
   refine⟨.int .u64 y3,w,?_,h.base,Or.inl (ah _ _),rfl⟩
   clear h
   simp only[execOp,Act.eval,e126]
   go_simp
  refine⟨aB rfl rfl fun a w h=>?_,?_⟩
  .have e125:_=Value.int .u64 x1:=h.d 125
   have e127:_=Value.int .u64 y3:=h.d 127
   refine⟨.agg #[.int .u64 x1,.int .u64 y3],w,?_,h.base,Or.inl (ah _ _),rfl⟩
   clear h
   simp only[execOp,List.map_toArray,List.map_cons,List.map_nil,Act.eval,e125,e127]
   go_simp
  refine⟨aB rfl rfl fun a w h=>?_,?_⟩
  .have e2:_=Value.pointer (some ⟨A,0,none⟩):=h.r 2
   refine⟨.pointer (some ⟨A,2,none⟩),w,?_,h.base,Or.inl (ah _ _),rfl⟩
   clear h
   simp only[execOp,Act.eval,e2]
   go_simp
  refine⟨aB rfl rfl fun a w h=>?_,?_⟩
  .have e129:_=Value.pointer (some ⟨A,2,none⟩):=h.d 129
   have c:=h.base.a.cell (i:=2) rfl
   refine⟨.int .u64 x2,w,?_,h.base,Or.inl (ah _ _),rfl⟩
   clear h
   simp only[execOp,Act.eval,e129]
   go_simp
  refine⟨aB rfl rfl fun a w h=>?_,?_⟩
  .have e3:_=Value.pointer (some ⟨B,0,none⟩):=h.r 3
   refine⟨.pointer (some ⟨B,2,none⟩),w,?_,h.base,Or.inl (ah _ _),rfl⟩
   clear h
   simp only[execOp,Act.eval,e3]
   go_simp
  refine⟨aB rfl rfl fun a w h=>?_,?_⟩
  .have Oi:_=Value.pointer (some ⟨B,2,none⟩):=h.d 131
   have c:=h.base.b.cell (i:=2) rfl
   refine⟨.int .u64 y2,w,?_,h.base,Or.inl (ah _ _),rfl⟩
   clear h
   simp only[execOp,Act.eval,Oi]
   go_simp
  refine⟨aB rfl rfl fun a w h=>?_,?_⟩
  .have Oj:_=Value.int .u64 x2:=h.d 130
   have Ol:_=Value.int .u64 y2:=h.d 132
   refine⟨.agg #[.int .u64 x2,.int .u64 y2],w,?_,h.base,Or.inl (ah _ _),rfl⟩
   clear h
   simp only[execOp,List.map_toArray,List.map_cons,List.map_nil,Act.eval,Oj,Ol]
   go_simp
  refine⟨aB rfl rfl fun a w h=>?_,?_⟩
  .have e2:_=Value.pointer (some ⟨A,0,none⟩):=h.r 2
   refine⟨.pointer (some ⟨A,3,none⟩),w,?_,h.base,Or.inl (ah _ _),rfl⟩
   clear h
   simp only[execOp,Act.eval,e2]
   go_simp
  refine⟨aB rfl rfl fun a w h=>?_,?_⟩
  .have Om:_=Value.pointer (some ⟨A,3,none⟩):=h.d 134
   have c:=h.base.a.cell (i:=3) rfl
   refine⟨.int .u64 x3,w,?_,h.base,Or.inl (ah _ _),rfl⟩
   clear h
   simp only[execOp,Act.eval,Om]
   go_simp
  refine⟨aB rfl rfl fun a w h=>?_,?_⟩
  .have e3:_=Value.pointer (some ⟨B,0,none⟩):=h.r 3
   refine⟨.pointer (some ⟨B,1,none⟩),w,?_,h.base,Or.inl (ah _ _),rfl⟩
   clear h
   simp only[execOp,Act.eval,e3]
   go_simp
  refine⟨aB rfl rfl fun a w h=>?_,?_⟩
  .have Oo:_=Value.pointer (some ⟨B,1,none⟩):=h.d 136
   have c:=h.base.b.cell (i:=1) rfl
   refine⟨.int .u64 y1,w,?_,h.base,Or.inl (ah _ _),rfl⟩
   clear h
   simp only[execOp,Act.eval,Oo]
   go_simp
  refine⟨aB rfl rfl fun a w h=>?_,?_⟩
  .have Oq:_=Value.int .u64 x3:=h.d 135
   have e137:_=Value.int .u64 y1:=h.d 137
   refine⟨.agg #[.int .u64 x3,.int .u64 y1],w,?_,h.base,Or.inl (ah _ _),rfl⟩
   clear h
   simp only[execOp,List.map_toArray,List.map_cons,List.map_nil,Act.eval,Oq,e137]
   go_simp
  refine⟨aB rfl rfl fun a w h=>?_,?_⟩
  .have e2:_=Value.pointer (some ⟨A,0,none⟩):=h.r 2
   refine⟨.pointer (some ⟨A,4,none⟩),w,?_,h.base,Or.inl (ah _ _),rfl⟩
   clear h
   simp only[execOp,Act.eval,e2]
   go_simp
  refine⟨aB rfl rfl fun a w h=>?_,?_⟩
  .have Ot:_=Value.pointer (some ⟨A,4,none⟩):=h.d 139
   have c:=h.base.a.cell (i:=4) rfl
   refine⟨.int .u64 x4,w,?_,h.base,Or.inl (ah _ _),rfl⟩
   clear h
   simp only[execOp,Act.eval,Ot]
   go_simp
  refine⟨aB rfl rfl fun a w h=>?_,?_⟩
  .have e3:_=Value.pointer (some ⟨B,0,none⟩):=h.r 3
   refine⟨.pointer (some ⟨B,0,none⟩),w,?_,h.base,Or.inl (ah _ _),rfl⟩
   clear h
   simp only[execOp,Act.eval,e3]
   go_simp
  refine⟨aB rfl rfl fun a w h=>?_,?_⟩
  .have Ou:_=Value.pointer (some ⟨B,0,none⟩):=h.d 141
   have c:=h.base.b.cell (i:=0) rfl
   refine⟨.int .u64 y0,w,?_,h.base,Or.inl (ah _ _),rfl⟩
   clear h
   simp only[execOp,Act.eval,Ou]
   go_simp
  refine⟨aB rfl rfl fun a w h=>?_,?_⟩
  .have Ov:_=Value.int .u64 x4:=h.d 140
   have Ox:_=Value.int .u64 y0:=h.d 142
   refine⟨.agg #[.int .u64 x4,.int .u64 y0],w,?_,h.base,Or.inl (ah _ _),rfl⟩
   clear h
   simp only[execOp,List.map_toArray,List.map_cons,List.map_nil,Act.eval,Ov,Ox]
   go_simp
  refine⟨aB rfl rfl fun a w h=>?_,?_⟩
  .have Oy:_=Value.agg #[.int .u64 x0,.int .u64 y4]:=h.d 123
   have e128:_=Value.agg #[.int .u64 x1,.int .u64 y3]:=h.d 128
   have Oz:_=Value.agg #[.int .u64 x2,.int .u64 y2]:=h.d 133
   have e138:_=Value.agg #[.int .u64 x3,.int .u64 y1]:=h.d 138
   have e143:_=Value.agg #[.int .u64 x4,.int .u64 y0]:=h.d 143
   obtain⟨_,_,_,_,_,Cj⟩:=h.base.r
   have hs:=Cj.lt
   refine⟨.slice (some ⟨w.heap.size,0,none⟩) 5 5,w.alloc (.cells #[.int .u64 x0,.int .u64 y4,.int .u64 x1,.int .u64 y3,.int .u64 x2,.int .u64 y2,.int .u64 x3,.int .u64 y1,.int .u64 x4,.int .u64 y0] 175),?_,h.base.alloc _,Or.inl (World.grownBy_alloc _ _ _),⟨w.heap.size,by omega,rfl,aG.new w _ _⟩⟩
   clear h
   simp only[execOp,List.map_toArray,List.map_cons,List.map_nil,Act.eval,Oy,e128,Oz,e138,e143]
   go_simp
  refine⟨iF rfl rfl fun a w h=>?_,?_⟩
  .obtain⟨PB,hne,abg,hP⟩:∃PB,PB≠R/\a.tmps.getD 144 undef=.slice (some ⟨PB,0,none⟩) 5 5/\aG w PB 175 (flat [(x0,y4),(x1,y3),(x2,y2),(x3,y1),(x4,y0)]):=h.dep 144 (by kernel_rfl)
   have hb:=h.base
   refine⟨109,#[.slice (some ⟨PB,0,none⟩) 5 5],?_,?_⟩
   .clear h hb hP
    have aiG:a.tmps[144]?.getD undef=.slice (some ⟨PB,0,none⟩) 5 5:=by simpa using abg
    clear abg
    go_simp
   .refine (jm PB 5 _ w _ rfl (by decide) hP ?_).mono ?_
    .intro p hp;simp only[List.mem_cons,List.not_mem_nil,or_false]at hp;rcases hp with rfl|rfl|rfl|rfl|rfl<;>exact⟨by assumption,by assumption,by assumption,by assumption⟩
    .rintro e w1 ⟨rfl,hg⟩;exact⟨_,rfl,hb.grown hg,Or.inl hg,by show zU _=_;rw[YL.out];rfl⟩
  refine⟨aB rfl rfl fun a w h=>?_,?_⟩
  .have e43:_=Value.agg #[.int .u64 (S0/18446744073709551616),.int .u64 (S0%18446744073709551616)]:=h.d 43
   have e67:_=Value.agg #[.int .u64 (S1/18446744073709551616),.int .u64 (S1%18446744073709551616)]:=h.d 67
   have e92:_=Value.agg #[.int .u64 (S2/18446744073709551616),.int .u64 (S2%18446744073709551616)]:=h.d 92
   have e118:_=Value.agg #[.int .u64 (S3/18446744073709551616),.int .u64 (S3%18446744073709551616)]:=h.d 118
   have afN:_=Value.agg #[.int .u64 (S4/18446744073709551616),.int .u64 (S4%18446744073709551616)]:=h.d 145
   refine⟨.agg #[.int .u64 (S0/18446744073709551616),.int .u64 (S0%18446744073709551616),.int .u64 (S1/18446744073709551616),.int .u64 (S1%18446744073709551616),.int .u64 (S2/18446744073709551616),.int .u64 (S2%18446744073709551616),.int .u64 (S3/18446744073709551616),.int .u64 (S3%18446744073709551616),.int .u64 (S4/18446744073709551616),.int .u64 (S4%18446744073709551616)],w,?_,h.base,Or.inl (ah _ _),rfl⟩
   clear h
   simp only[execOp,List.map_toArray,List.map_cons,List.map_nil,Act.eval,e43,e67,e92,e118,afN]
   go_simp
  refine⟨iF rfl rfl fun a w h=>?_,?_⟩
  .have abh:_=Value.agg #[.int .u64 (S0/18446744073709551616),.int .u64 (S0%18446744073709551616),.int .u64 (S1/18446744073709551616),.int .u64 (S1%18446744073709551616),.int .u64 (S2/18446744073709551616),.int .u64 (S2%18446744073709551616),.int .u64 (S3/18446744073709551616),.int .u64 (S3%18446744073709551616),.int .u64 (S4/18446744073709551616),.int .u64 (S4%18446744073709551616)]:=h.d 146
   have hb:=h.base
   refine⟨108,#[.agg #[.int .u64 (S0/18446744073709551616),.int .u64 (S0%18446744073709551616),.int .u64 (S1/18446744073709551616),.int .u64 (S1%18446744073709551616),.int .u64 (S2/18446744073709551616),.int .u64 (S2%18446744073709551616),.int .u64 (S3/18446744073709551616),.int .u64 (S3%18446744073709551616),.int .u64 (S4/18446744073709551616),.int .u64 (S4%18446744073709551616)]],?_,?_⟩
   .clear h hb
    have aiH:a.tmps[146]?.getD undef=.agg #[.int .u64 (S0/18446744073709551616),.int .u64 (S0%18446744073709551616),.int .u64 (S1/18446744073709551616),.int .u64 (S1%18446744073709551616),.int .u64 (S2/18446744073709551616),.int .u64 (S2%18446744073709551616),.int .u64 (S3/18446744073709551616),.int .u64 (S3%18446744073709551616),.int .u64 (S4/18446744073709551616),.int .u64 (S4%18446744073709551616)]:=by simpa using abh
    clear abh
    go_simp
   .refine (CX S0 S1 S2 S3 S4 w (by assumption) (by assumption) (by assumption) (by assumption) (by assumption)).mono ?_
    rintro e w1 ⟨rfl,hg⟩
    exact⟨_,rfl,hb.grown hg,Or.inl hg,by show Fe.v _=Fe.v _;rw[Hr.out]⟩
  refine⟨CQ rfl rfl fun a w h=>?_,?_⟩
  .have afO:_=Value.agg #[.int .u64 r.x0,.int .u64 r.x1,.int .u64 r.x2,.int .u64 r.x3,.int .u64 r.x4]:=h.d 147
   have e4:_=Value.pointer (some ⟨R,0,none⟩):=h.r 4
   obtain⟨u0,u1,u2,u3,u4,hR⟩:=h.base.r
   have c0r:=hR.cell (i:=0) rfl;have f0r:=hR.free 0
   have c1r:=hR.cell (i:=1) rfl;have f1r:=hR.free 1
   have c2r:=hR.cell (i:=2) rfl;have f2r:=hR.free 2
   have c3r:=hR.cell (i:=3) rfl;have f3r:=hR.free 3
   have c4r:=hR.cell (i:=4) rfl;have f4r:=hR.free 4
   refine⟨_,?_,h.base.rJ _ _ _ _ _,Or.inr ⟨aS (aS (aS (aS (aS (ah _ _) _ _) _ _) _ _) _ _) _ _,h.base.r.rJ _ _ _ _ _⟩,h.base.r.rJ _ _ _ _ _⟩
   clear h
   simp only[execOp,Act.eval,afO,e4]
   go_simp
  trivial
 .intro a w1 hB hsz hdf hrest aC jN
  have hM:=jN 127 _ rfl rfl
  have eR0:a.tmps.getD 4 undef=.pointer (some ⟨(w.heap.size+1+1),0,none⟩):=hrest 4 (by kernel_rfl)
  have hg:=hB.g
  clear jN aC hrest hB
  have eR1:a.tmps[4]?.getD undef=.pointer (some ⟨(w.heap.size+1+1),0,none⟩):=by simpa using eR0
  have z0:=hM.cell (i:=0) rfl
  have z1:=hM.cell (i:=1) rfl
  have z2:=hM.cell (i:=2) rfl
  have z3:=hM.cell (i:=3) rfl
  have z4:=hM.cell (i:=4) rfl
  clear hM
  go_wp2
  refine bodyPost_ret (v:=.agg #[.int .u64 r.x0,.int .u64 r.x1,.int .u64 r.x2,.int .u64 r.x3,.int .u64 r.x4]) ?_ (by rw[hdf]) ⟨r,?_,rfl,hg⟩
  .simp[results,Tryz.results82,go_sem,eR1,z0,z1,z2,z3,z4]
  .rw[Hr.out,<- vH.out,<- Od.out,<- HS2.out,<- YJ.out,<- YL.out,<- XQ.out,<- XR.out,<- XT.out,<- Rw.out]
   simp only[ig]
   rfl
end
end Go.Proofs.YtjgnjhgdmdmebaaGreatDoor
