/- texts merged -/
import Derived.Orders
import Derived.WalkKit
import Derived.Lib.Hide
import Derived.WalkSmall
import Derived.Laws.Rows
import Derived.Laws.Tables
import Derived.Test.YtmijliomjpphkaaGreatDoorProg
import Derived.Laws.AppendOwn
import Derived.Laws.OwnMore
import Derived.Deep.MidRow
import Derived.Lib.AppendZeros
import Derived.Lib.AppendZerosOnto
import Derived.Test.YtmijliomjpphkaaGreatDoorChecked
import Derived.ProofKit
import Derived.OpenShut
import Derived.ShutString
import Derived.ChangeOld
import Derived.Deep.DeepHandedRow
import Derived.Lib.LaidTab
import Derived.SizedLaws
import Derived.Deep.Matrix
import Derived.WalkSpells
import Derived.WalkLawsBesides
import Derived.Deep.Cut
import Derived.Deep.RegionWith
import Derived.Lib.ConvBytes
import Derived.Laws.BytesString
import Derived.Shelf.SlSorted.Search
import Derived.BigQuiet
import Derived.Deep.QuietTactic
import Derived.Outline
namespace Go.Proofs.YtmijliomjpphkaaGreatDoor
section
open Go
section
variable {P:Program} {ops:Array Oper} {Q:Exit->Act->World->Prop} {G:Nat->Value->World->Prop} {M:Nat->World->Prop} {B:World->Prop} {Rel:World->World->Prop} {a0:Act}
def jZ (ops:Array Oper) (d:Nat):Bool:=ops.all fun o=>o.dst !=some d
def isDst (ops:Array Oper) (d:Nat):Bool:=ops.any fun o=>o.dst==some d
def waits (ops:Array Oper) (o:Oper) (d:Nat):Bool:=o.after.any fun e=>Region.binds .any e&&((ops[e.on]?).bind (·.dst))==some d
def waitsFor (o:Oper) (j:Nat):Bool:=o.after.any fun e=>Region.binds .any e&&e.on==j
structure Flow (G:Nat->Value->World->Prop) (M:Nat->World->Prop) (B:World->Prop) (a0:Act) (ops:Array Oper) (listed:Array Bool) (a:Act) (w:World):Prop where
 base:B w
 size:a.tmps.size=a0.tmps.size
 defers:a.defers=a0.defers
 rest:∀d,jZ ops d=true->a.tmps.getD d undef=a0.tmps.getD d undef
 slots:∀j oj d,ops[j]?=some oj->listed.getD j false=true->oj.dst=some d->G d (a.tmps.getD d undef) w
 zH:∀j oj,ops[j]?=some oj->listed.getD j false=true->oj.dst=none->M j w
structure qG (G:Nat->Value->World->Prop) (M:Nat->World->Prop) (B:World->Prop) (a0:Act) (ops:Array Oper) (o:Oper) (a:Act) (w:World):Prop where
 base:B w
 size:a.tmps.size=a0.tmps.size
 defers:a.defers=a0.defers
 rest:∀d,jZ ops d=true->a.tmps.getD d undef=a0.tmps.getD d undef
 dep:∀d,waits ops o d=true->G d (a.tmps.getD d undef) w
 mem:∀j oj,ops[j]?=some oj->waitsFor o j=true->oj.dst=none->M j w
def QA (G:Nat->Value->World->Prop) (M:Nat->World->Prop) (B:World->Prop) (Rel:World->World->Prop) (i:Nat) (o:Oper) (w:World) (v:Value) (w':World):Prop:=
 B w'/\Rel w w'/\match o.dst with|some d=>G d v w'|none=>M i w'
def rW (P:Program) (Q:Exit->Act->World->Prop) (G:Nat->Value->World->Prop) (M:Nat->World->Prop) (B:World->Prop) (Rel:World->World->Prop) (a0:Act) (ops:Array Oper) (i:Nat) (o:Oper):Prop:=
 ∀a w,qG G M B a0 ops o a w->ops[i]?=some o->wpOp P ops Q i (fun a' w'=>∃v,a'=a.put o.dst v/\QA G M B Rel i o w v w') a w
def tN (P:Program) (Q:Exit->Act->World->Prop) (G:Nat->Value->World->Prop) (M:Nat->World->Prop) (B:World->Prop) (Rel:World->World->Prop) (a0:Act) (ops:Array Oper):Nat->List Oper->Prop
 | _,[]=>True
 | i,o:: r=>rW P Q G M B Rel a0 ops i o/\tN P Q G M B Rel a0 ops (i+1) r
theorem Co:∀(l:List Oper) (i k:Nat) (o:Oper),tN P Q G M B Rel a0 ops i l->l[k]?=some o->rW P Q G M B Rel a0 ops (i+k) o:=by
 intro l
 induction l with
 | nil=>intro i k o _ h;simp at h
 | cons x r ih=>
  intro i k o h hk
  cases k with
  | zero=>simp at hk;subst hk;exact h.1
  | succ k=>have:=ih (i+1) k o h.2 (by simpa using hk);rwa [show i+(k+1)=i+1+k by omega]
def vP (ops:Array Oper):Bool:=(List.range ops.size).all fun i=>((ops[i]?).map fun o=>o.after.all fun e=>!Region.binds .any e||decide (e.on<i)).getD true
def vQ:List (Option Tmp)->Bool
 | []=>true
 | none:: r=>vQ r
 | some d:: r=>r.all (· !=some d)&&vQ r
def once (ops:Array Oper) (n:Nat):Bool:=vQ (ops.toList.map (·.dst))&&ops.all fun o=>match o.dst with|some d=>decide (d<n)|none=>true
theorem QB:∀(l:List (Option Tmp)),vQ l=true->∀(i j:Nat) (d d':Tmp),l[i]?=some (some d)->l[j]?=some (some d')->i≠j->d≠d':=by
 intro l
 induction l with
 | nil=>intro _ i j d d' h;simp at h
 | cons x r ih=>
  intro h i j d d' hi hj hne
  have hr:vQ r=true:=by cases x with|none=>exact h|some y=>simp[vQ]at h;exact h.2
  cases i with
  | zero=>
   cases j with
   | zero=>exact absurd rfl hne
   | succ j=>
    simp at hi hj
    subst hi
    simp[vQ]at h
    intro e
    subst e
    exact h.1 _ (List.mem_of_getElem? hj) rfl
  | succ i=>
   cases j with
   | zero=>
    simp at hi hj
    subst hj
    simp[vQ]at h
    intro e
    subst e
    exact h.1 _ (List.mem_of_getElem? hi) rfl
   | succ j=>exact ih hr i j d d' (by simpa using hi) (by simpa using hj) (fun e=>hne (by rw[e]))
theorem qH {n:Nat} (h:once ops n=true) {i j:Nat} {oi oj:Oper} (hi:ops[i]?=some oi) (hj:ops[j]?=some oj) (hne:i≠j) {d:Nat} (hd:oi.dst=some d):oj.dst≠some d:=by
 intro e
 have h1:vQ (ops.toList.map (·.dst))=true:=by simp only[once,Bool.and_eq_true]at h;exact h.1
 refine QB _ h1 i j d d ?_ ?_ hne rfl
 .rw[List.getElem?_map,Array.getElem?_toList,hi];simp[hd]
 .rw[List.getElem?_map,Array.getElem?_toList,hj];simp[e]
theorem vR {n:Nat} (h:once ops n=true) {i:Nat} {oi:Oper} (hi:ops[i]?=some oi) {d:Nat} (hd:oi.dst=some d):d<n:=by
 simp only[once,Bool.and_eq_true]at h
 have:=(Array.all_eq_true_iff_forall_mem.1 h.2) oi (Array.mem_of_getElem? hi)
 simpa[hd] using this
theorem filter_le {α:Type} (p q:α->Bool) (l:List α) (h:∀x,q x=true->p x=true):(l.filter q).length<=(l.filter p).length:=by
 induction l with
 | nil=>simp
 | cons x r ih=>
  by_cases hq:q x=true
  .simp[hq,h x hq,ih]
  .by_cases hp:p x=true
   .simp[hq,hp];omega
   .simp[hq,hp,ih]
theorem filter_lt {α:Type} (p q:α->Bool) (l:List α) (h:∀x,q x=true->p x=true) (x:α) (hx:x∈l) (hp:p x=true) (hq:q x=false):(l.filter q).length<(l.filter p).length:=by
 induction l with
 | nil=>cases hx
 | cons y r ih=>
  have hle:=filter_le p q r h
  rcases List.mem_cons.1 hx with e|e
  .subst e;simp[hp,hq];omega
  .have:=ih e
   by_cases hqy:q y=true
   .simp[hqy,h y hqy,this]
   .by_cases hpy:p y=true
    .simp[hqy,hpy];omega
    .simp[hqy,hpy,this]
def jq (ops:Array Oper) (listed:Array Bool):Nat:=((List.range ops.size).filter fun i=>!listed.getD i true).length
theorem jh {listed:Array Bool} {i:Nat} (h:i∈Region.ready .any ops listed):jq ops (listed.setIfInBounds i true)<jq ops listed:=by
 obtain⟨h0,o,ho,_⟩:=mem_ready.1 h
 have hi:i<ops.size:=by
  rcases Nat.lt_or_ge i ops.size with h'|h'
  .exact h'
  .rw[Array.getElem?_eq_none h']at ho;cases ho
 have hset:(listed.setIfInBounds i true).getD i true=true:=by
  rcases Nat.lt_or_ge i listed.size with h'|h'
  .simp[h']
  .simp[Array.getElem?_eq_none (show (listed.setIfInBounds i true).size<=i by simpa using h')]
 refine filter_lt _ _ _ (fun x hx=>?_) i (List.mem_range.2 hi) (by rw[h0];rfl) (by rw[hset];rfl)
 by_cases e:i=x
 .subst e;rw[hset]at hx;cases hx
 .rwa [getD_set_ne true e]at hx
theorem lJ (ht:vP ops=true) {listed:Array Bool} (hs:listed.size=ops.size) (hr:Region.ready .any ops listed=[]):∀i,i<ops.size->listed.getD i false=true:=by
 intro i
 induction i using Nat.strongRecOn with
 | _ i ih=>
  intro hi
  by_cases hl:listed.getD i false=true
  .exact hl
  have hi':i<listed.size:=by omega
  have hf:listed.getD i true=false:=by
   simp[hi']at hl ⊢;exact hl
  have:i∈Region.ready .any ops listed:=mem_ready.2 ⟨hf,ops[i],Array.getElem?_eq_getElem hi,fun e he hb=>by
   have h1:=(List.all_eq_true.1 ht) i (List.mem_range.2 hi)
   rw[Array.getElem?_eq_getElem hi]at h1
   have h2:(ops[i].after.all fun e=>!Region.binds .any e||decide (e.on<i))=true:=h1
   have h3:e.on<i:=by
    have:=(Array.all_eq_true_iff_forall_mem.1 h2) e he
    simpa[hb] using this
   exact ih e.on h3 (by omega)⟩
  rw[hr]at this
  cases this
theorem QC (ht:vP ops=true) (ho:once ops a0.tmps.size=true) (JL:∀d u w w',Rel w w'->G d u w->G d u w') (zI:∀j w w',Rel w w'->M j w->M j w')
  (steps:tN P Q G M B Rel a0 ops 0 ops.toList)
  (fin:∀a w,B w->a.tmps.size=a0.tmps.size->a.defers=a0.defers->(∀d,jZ ops d=true->a.tmps.getD d undef=a0.tmps.getD d undef)->(∀d,isDst ops d=true->G d (a.tmps.getD d undef) w)->
   (∀j oj,ops[j]?=some oj->oj.dst=none->M j w)->Q .normal a w):
  ∀(fuel:Nat) (listed:Array Bool) (a:Act) (w:World),listed.size=ops.size->jq ops listed<=fuel->Flow G M B a0 ops listed a w->wpAny P .any ops Q fuel listed a w:=by
 have inn:∀{j:Nat} {oj:Oper},ops[j]?=some oj->j<ops.size:=by
  intro j oj hj
  rcases Nat.lt_or_ge j ops.size with h'|h'
  .exact h'
  .rw[Array.getElem?_eq_none h']at hj;cases hj
 have go:∀(listed:Array Bool) (a:Act) (w:World),listed.size=ops.size->Flow G M B a0 ops listed a w->Region.ready .any ops listed=[]->Q .normal a w:=by
  intro listed a w hs hF hr
  have hall:=lJ ht hs hr
  refine fin a w hF.base hF.size hF.defers hF.rest (fun d hd=>?_) (fun j oj hj hn=>hF.zH j oj hj (hall j (inn hj)) hn)
  obtain⟨k,hk,hb⟩:=Array.any_eq_true.1 hd
  exact hF.slots k ops[k] d (Array.getElem?_eq_getElem hk) (hall k hk) (by simpa using hb)
 intro fuel
 induction fuel with
 | zero=>
  intro listed a w hs hu hF
  have hr:Region.ready .any ops listed=[]:=by
   cases hc:Region.ready .any ops listed with
   | nil=>rfl
   | cons x r=>
    have:=jh (ops:=ops) (listed:=listed) (i:=x) (by rw[hc];exact List.mem_cons_self ..)
    omega
  exact⟨hr,go listed a w hs hF hr⟩
 | succ fuel ih=>
  intro listed a w hs hu hF
  refine⟨go listed a w hs hF,fun i hi=>?_⟩
  obtain⟨h0,o,hoi,hall⟩:=mem_ready.1 hi
  have hst:=Co ops.toList 0 i o steps (by rw[Array.getElem?_toList];exact hoi)
  rw[Nat.zero_add]at hst
  have hat:qG G M B a0 ops o a w:=⟨hF.base,hF.size,hF.defers,hF.rest,fun d hd=>by
    obtain⟨k,hk,hb⟩:=Array.any_eq_true.1 hd
    simp only[Bool.and_eq_true,beq_iff_eq]at hb
    have hl:=hall _ (Array.getElem_mem hk) hb.1
    cases hx:ops[o.after[k].on]? with
    | none=>rw[hx]at hb;cases hb.2
    | some oj=>rw[hx]at hb;exact hF.slots _ oj d hx hl hb.2,
   fun j oj hj ha hn=>by
    obtain⟨k,hk,hb⟩:=Array.any_eq_true.1 ha
    simp only[Bool.and_eq_true,beq_iff_eq]at hb
    have hl:=hall _ (Array.getElem_mem hk) hb.1
    rw[hb.2]at hl
    exact hF.zH j oj hj hl hn⟩
  refine wpOp_mono (fun a' w' h=>?_) (hst a w hat hoi)
  obtain⟨v,rfl,hB,hR,hG⟩:=h
  have hlt:=jh hi
  refine ih _ _ _ (by simpa using hs) (by omega) ⟨hB,?_,?_,?_,?_,?_⟩
  .rw[<- hF.size];cases o.dst<;>simp[Act.put]
  .rw[<- hF.defers];cases o.dst<;>simp[Act.put]
  .intro d hd
   rw[<- hF.rest d hd]
   have hne:o.dst≠some d:=by
    have:=(Array.all_eq_true_iff_forall_mem.1 hd) o (Array.mem_of_getElem? hoi)
    simpa using this
   cases hod:o.dst with
   | none=>rfl
   | some d'=>rw[hod]at hne;simp[Act.put,Array.getElem?_setIfInBounds_ne (show d'≠d from fun e=>hne (by rw[e]))]
  .intro j oj d hj hl hd
   by_cases e:i=j
   .subst e
    rw[hoi]at hj
    cases hj
    have hd2:=vR ho hoi hd
    rw[<- hF.size]at hd2
    rw[hd]at hG ⊢
    simpa[Act.put,hd2] using hG
   .rw[getD_set_ne false e]at hl
    have h1:=hF.slots j oj d hj hl hd
    have hv:(a.put o.dst v).tmps.getD d undef=a.tmps.getD d undef:=by
     cases hod:o.dst with
     | none=>rfl
     | some d'=>
      have:=qH ho hoi hj e hod
      rw[hd]at this
      simp[Act.put,Array.getElem?_setIfInBounds_ne (show d'≠d from fun e=>this (by rw[e]))]
    rw[hv]
    exact JL d _ w w' hR h1
  .intro j oj hj hl hn
   by_cases e:i=j
   .subst e
    rw[hoi]at hj
    cases hj
    rw[hn]at hG
    exact hG
   .rw[getD_set_ne false e]at hl
    exact zI j w w' hR (hF.zH j oj hj hl hn)
theorem sj {id:Nat} {w:World} (G:Nat->Value->World->Prop) (M:Nat->World->Prop) (B:World->Prop) (Rel:World->World->Prop) (hm:P.follows .mixedOrders=true) (ht:vP ops=true) (ho:once ops a0.tmps.size=true) (hB:B w.drew)
  (JL:∀d u w w',Rel w w'->G d u w->G d u w') (zI:∀j w w',Rel w w'->M j w->M j w') (steps:tN P Q G M B Rel a0 ops 0 ops.toList)
  (fin:∀a w,B w->a.tmps.size=a0.tmps.size->a.defers=a0.defers->(∀d,jZ ops d=true->a.tmps.getD d undef=a0.tmps.getD d undef)->(∀d,isDst ops d=true->G d (a.tmps.getD d undef) w)->
   (∀j oj,ops[j]?=some oj->oj.dst=none->M j w)->Q .normal a w):(Code.region id ops true).wp P Q a0 w:=
 wp_region_any hm (QC ht ho JL zI steps fin ops.size _ a0 _ (by simp) (by unfold jq;exact Nat.le_trans (List.length_filter_le _ _) (by simp))
  ⟨hB,rfl,rfl,fun _ _=>rfl,fun j oj d _ hl _=>by
   by_cases h:j<ops.size<;>simp[h]at hl,fun j oj _ hl _=>by
   by_cases h:j<ops.size<;>simp[h]at hl⟩)
theorem jL {o:Oper} (h:o.guard=none) (f:Nat->Option Bool):Region.wanted o f=true:=by simp[Region.wanted,h]
theorem aA {i:Nat} {o:Oper} {d:Nat} (hd:o.dst=some d) (hg:o.guard=none) (h:∀a w,qG G M B a0 ops o a w->∃v w',(execOp a.eval o).run P w=.ok (.value v) w'/\B w'/\Rel w w'/\G d v w'):rW P Q G M B Rel a0 ops i o:=by
 intro a w hF hi
 obtain⟨v,w',hr,hB,hR,hG⟩:=h a w hF
 unfold wpOp
 simp only[hi,jL hg,if_true]
 refine Or.inl ?_
 unfold Oper.wp
 rw[hr]
 exact⟨v,rfl,hB,hR,by rw[hd];exact hG⟩
theorem CY {i:Nat} {o:Oper} (hd:o.dst=none) (hg:o.guard=none) (h:∀a w,qG G M B a0 ops o a w->∃w',(execOp a.eval o).run P w=.ok .skip w'/\B w'/\Rel w w'/\M i w'):rW P Q G M B Rel a0 ops i o:=by
 intro a w hF hi
 obtain⟨w',hr,hB,hR,hG⟩:=h a w hF
 unfold wpOp
 simp only[hi,jL hg,if_true]
 refine Or.inl ?_
 unfold Oper.wp
 rw[hr]
 exact⟨undef,rfl,hB,hR,by rw[hd];exact hG⟩
theorem iJ {i:Nat} {o:Oper} {d:Nat} (hd:o.dst=some d) (hg:o.guard=none)
  (h:∀a w,qG G M B a0 ops o a w->∃f args,(execOp a.eval o).run P w=.ok (.enter f args) w/\Calls P f args w fun e w'=>∃v,e=.returned v/\B w'/\Rel w w'/\G d v w'):rW P Q G M B Rel a0 ops i o:=by
 intro a w hF hi
 obtain⟨f,args,hr,hc⟩:=h a w hF
 unfold wpOp
 simp only[hi,jL hg,if_true]
 refine Or.inl ?_
 unfold Oper.wp
 rw[hr]
 refine Calls.mono hc fun e w' he=>?_
 obtain⟨v,rfl,hB,hR,hG⟩:=he
 exact⟨v,rfl,hB,hR,by rw[hd];exact hG⟩
end
end
section
open Go
section
variable {P:Program} {ops:Array Oper} {Q:Exit->Act->World->Prop} {G:Nat->Value->World->Prop} {st:Nat->Nat} {M:Nat->Value->World->Prop} {B:World->Prop} {Rel:World->World->Prop} {a0:Act}
structure X5 (G:Nat->Value->World->Prop) (st:Nat->Nat) (M:Nat->Value->World->Prop) (B:World->Prop) (a0:Act) (ops:Array Oper) (listed:Array Bool) (a:Act) (w:World):Prop where
 base:B w
 size:a.tmps.size=a0.tmps.size
 defers:a.defers=a0.defers
 rest:∀d,jZ ops d=true->a.tmps.getD d undef=a0.tmps.getD d undef
 slots:∀j oj d,ops[j]?=some oj->listed.getD j false=true->oj.dst=some d->G d (a.tmps.getD d undef) w
 zH:∀j oj,ops[j]?=some oj->listed.getD j false=true->oj.dst=none->M j (a.tmps.getD (st j) undef) w
 closed:∀j oj,ops[j]?=some oj->listed.getD j false=true->∀e∈oj.after,Region.binds .any e=true->listed.getD e.on false=true
structure nC (G:Nat->Value->World->Prop) (st:Nat->Nat) (M:Nat->Value->World->Prop) (B:World->Prop) (a0:Act) (ops:Array Oper) (o:Oper) (a:Act) (w:World):Prop where
 base:B w
 rest:∀d,jZ ops d=true->a.tmps.getD d undef=a0.tmps.getD d undef
 dep:∀d,waits ops o d=true->G d (a.tmps.getD d undef) w
 mem:∀j oj,ops[j]?=some oj->waitsFor o j=true->oj.dst=none->M j (a.tmps.getD (st j) undef) w
def NH (G:Nat->Value->World->Prop) (st:Nat->Nat) (M:Nat->Value->World->Prop) (B:World->Prop) (Rel:World->World->Prop) (i:Nat) (o:Oper) (a:Act) (w:World) (v:Value) (w':World):Prop:=
 B w'/\Rel w w'/\match o.dst with|some d=>G d v w'|none=>M i (a.tmps.getD (st i) undef) w'
def qj (P:Program) (Q:Exit->Act->World->Prop) (G:Nat->Value->World->Prop) (st:Nat->Nat) (M:Nat->Value->World->Prop) (B:World->Prop) (Rel:World->World->Prop) (a0:Act) (ops:Array Oper) (i:Nat) (o:Oper):Prop:=
 ∀a w,nC G st M B a0 ops o a w->ops[i]?=some o->wpOp P ops Q i (fun a' w'=>∃v,a'=a.put o.dst v/\NH G st M B Rel i o a w v w') a w
def qI (P:Program) (Q:Exit->Act->World->Prop) (G:Nat->Value->World->Prop) (st:Nat->Nat) (M:Nat->Value->World->Prop) (B:World->Prop) (Rel:World->World->Prop) (a0:Act) (ops:Array Oper):Nat->List Oper->Prop
 | _,[]=>True
 | i,o:: r=>qj P Q G st M B Rel a0 ops i o/\qI P Q G st M B Rel a0 ops (i+1) r
theorem zJ:∀(l:List Oper) (i k:Nat) (o:Oper),qI P Q G st M B Rel a0 ops i l->l[k]?=some o->qj P Q G st M B Rel a0 ops (i+k) o:=by
 intro l
 induction l with
 | nil=>intro i k o h hk;simp at hk
 | cons x r ih=>
  intro i k o h hk
  cases k with
  | zero=>simp at hk;subst hk;exact h.1
  | succ k=>have:=ih (i+1) k o h.2 (by simpa using hk);rwa [show i+(k+1)=i+1+k by omega]
def U8 (ops:Array Oper) (st:Nat->Nat):Bool:=(List.range ops.size).all fun j=>((ops[j]?).map fun o=>o.dst.isSome||waits ops o (st j)||jZ ops (st j)).getD true
theorem NI (ht:vP ops=true) (ho:once ops a0.tmps.size=true) (JL:∀d u w w',Rel w w'->G d u w->G d u w') (zI:∀j u w w',Rel w w'->M j u w->M j u w') (JM:U8 ops st=true)
  (steps:qI P Q G st M B Rel a0 ops 0 ops.toList)
  (fin:∀a w,B w->a.tmps.size=a0.tmps.size->a.defers=a0.defers->(∀d,jZ ops d=true->a.tmps.getD d undef=a0.tmps.getD d undef)->(∀d,isDst ops d=true->G d (a.tmps.getD d undef) w)->
   (∀j oj,ops[j]?=some oj->oj.dst=none->M j (a.tmps.getD (st j) undef) w)->Q .normal a w):
  ∀(fuel:Nat) (listed:Array Bool) (a:Act) (w:World),listed.size=ops.size->jq ops listed<=fuel->X5 G st M B a0 ops listed a w->wpAny P .any ops Q fuel listed a w:=by
 have inn:∀{j:Nat} {oj:Oper},ops[j]?=some oj->j<ops.size:=by
  intro j oj hj
  rcases Nat.lt_or_ge j ops.size with h'|h'
  .exact h'
  .rw[Array.getElem?_eq_none h']at hj;cases hj
 have go:∀(listed:Array Bool) (a:Act) (w:World),listed.size=ops.size->X5 G st M B a0 ops listed a w->Region.ready .any ops listed=[]->Q .normal a w:=by
  intro listed a w hs hF hr
  have hall:=lJ ht hs hr
  refine fin a w hF.base hF.size hF.defers hF.rest (fun d hd=>?_) (fun j oj hj hn=>hF.zH j oj hj (hall j (inn hj)) hn)
  obtain⟨k,hk,hb⟩:=Array.any_eq_true.1 hd
  exact hF.slots k ops[k] d (Array.getElem?_eq_getElem hk) (hall k hk) (by simpa using hb)
 intro fuel
 induction fuel with
 | zero=>
  intro listed a w hs hu hF
  have hr:Region.ready .any ops listed=[]:=by
   cases hc:Region.ready .any ops listed with
   | nil=>rfl
   | cons x r=>
    have:=jh (ops:=ops) (listed:=listed) (i:=x) (by rw[hc];exact List.mem_cons_self ..)
    omega
  exact⟨hr,go listed a w hs hF hr⟩
 | succ fuel ih=>
  intro listed a w hs hu hF
  refine⟨go listed a w hs hF,fun i hi=>?_⟩
  obtain⟨h0,o,hoi,hall⟩:=mem_ready.1 hi
  have hst:=zJ ops.toList 0 i o steps (by rw[Array.getElem?_toList];exact hoi)
  rw[Nat.zero_add]at hst
  have hat:nC G st M B a0 ops o a w:=⟨hF.base,hF.rest,fun d hd=>by
    obtain⟨k,hk,hb⟩:=Array.any_eq_true.1 hd
    simp only[Bool.and_eq_true,beq_iff_eq]at hb
    have hl:=hall _ (Array.getElem_mem hk) hb.1
    cases hx:ops[o.after[k].on]? with
    | none=>rw[hx]at hb;cases hb.2
    | some oj=>rw[hx]at hb;exact hF.slots _ oj d hx hl hb.2,
   fun j oj hj ha hn=>by
    obtain⟨k,hk,hb⟩:=Array.any_eq_true.1 ha
    simp only[Bool.and_eq_true,beq_iff_eq]at hb
    have hl:=hall _ (Array.getElem_mem hk) hb.1
    rw[hb.2]at hl
    exact hF.zH j oj hj hl hn⟩
  refine wpOp_mono (fun a' w' h=>?_) (hst a w hat hoi)
  obtain⟨v,rfl,hB,hR,hG⟩:=h
  have hlt:=jh hi
  refine ih _ _ _ (by simpa using hs) (by omega) ⟨hB,?_,?_,?_,?_,?_,?_⟩
  .rw[<- hF.size];cases o.dst<;>simp[Act.put]
  .rw[<- hF.defers];cases o.dst<;>simp[Act.put]
  .intro d hd
   rw[<- hF.rest d hd]
   have hne:o.dst≠some d:=by
    have:=(Array.all_eq_true_iff_forall_mem.1 hd) o (Array.mem_of_getElem? hoi)
    simpa using this
   cases hod:o.dst with
   | none=>rfl
   | some d'=>rw[hod]at hne;simp[Act.put,Array.getElem?_setIfInBounds_ne (show d'≠d from fun e=>hne (by rw[e]))]
  .intro j oj d hj hl hd
   by_cases e:i=j
   .subst e
    rw[hoi]at hj
    cases hj
    have hd2:=vR ho hoi hd
    rw[<- hF.size]at hd2
    rw[hd]at hG ⊢
    simpa[Act.put,hd2] using hG
   .rw[getD_set_ne false e]at hl
    have h1:=hF.slots j oj d hj hl hd
    have hv:(a.put o.dst v).tmps.getD d undef=a.tmps.getD d undef:=by
     cases hod:o.dst with
     | none=>rfl
     | some d'=>
      have:=qH ho hoi hj e hod
      rw[hd]at this
      simp[Act.put,Array.getElem?_setIfInBounds_ne (show d'≠d from fun e=>this (by rw[e]))]
    rw[hv]
    exact JL d _ w w' hR h1
  .intro j oj hj hl hn
   have hv:∀jj NJ,ops[jj]?=some NJ->NJ.dst=none->(jj=i\/listed.getD jj false=true)->(a.put o.dst v).tmps.getD (st jj) undef=a.tmps.getD (st jj) undef:=by
    intro jj NJ hjj hnn hcase
    cases hod:o.dst with
    | none=>rfl
    | some d'=>
     have hne:d'≠st jj:=by
      intro he
      have hs1:=(List.all_eq_true.1 JM) jj (List.mem_range.2 (inn hjj))
      rw[hjj]at hs1
      simp only[Option.map_some,Option.getD_some,hnn,Option.isSome_none,Bool.false_or,Bool.or_eq_true]at hs1
      rcases hs1 with hs1|hs1
      .obtain⟨k,hk,hb⟩:=Array.any_eq_true.1 hs1
       simp only[Bool.and_eq_true,beq_iff_eq]at hb
       rcases hcase with hc|hc
       .subst hc
        rw[hoi]at hjj
        cases hjj
        rw[hod]at hnn
        cases hnn
       .have hl2:=hF.closed jj NJ hjj hc _ (Array.getElem_mem hk) hb.1
        cases hx:ops[NJ.after[k].on]? with
        | none=>rw[hx]at hb;cases hb.2
        | some ok=>
         rw[hx]at hb
         have hdk:ok.dst=some (st jj):=hb.2
         by_cases hki:NJ.after[k].on=i
         .rw[hki]at hl2
          have hlt2:i<listed.size:=by rw[hs];exact inn hoi
          simp[hlt2]at h0 hl2
          rw[h0]at hl2
          cases hl2
         .exact qH ho hx hoi hki hdk (by rw[hod,he])
      .have:=(Array.all_eq_true_iff_forall_mem.1 hs1) o (Array.mem_of_getElem? hoi)
       rw[hod,he]at this
       simp at this
     simp[Act.put,Array.getElem?_setIfInBounds_ne hne]
   by_cases e:i=j
   .subst e
    rw[hv i oj hj hn (Or.inl rfl)]
    rw[hoi]at hj
    cases hj
    rw[hn]at hG
    exact hG
   .rw[getD_set_ne false e]at hl
    rw[hv j oj hj hn (Or.inr hl)]
    exact zI j _ w w' hR (hF.zH j oj hj hl hn)
  .intro j oj hj hl e he hb
   by_cases ei:i=j
   .subst ei
    rw[hoi]at hj
    cases hj
    exact getD_set_true (hall e he hb)
   .rw[getD_set_ne false ei]at hl
    exact getD_set_true (hF.closed j oj hj hl e he hb)
theorem jr {id:Nat} {w:World} (G:Nat->Value->World->Prop) (st:Nat->Nat) (M:Nat->Value->World->Prop) (B:World->Prop) (Rel:World->World->Prop) (hm:P.follows .mixedOrders=true) (ht:vP ops=true) (ho:once ops a0.tmps.size=true) (hB:B w.drew)
  (JL:∀d u w w',Rel w w'->G d u w->G d u w') (zI:∀j u w w',Rel w w'->M j u w->M j u w') (JM:U8 ops st=true) (steps:qI P Q G st M B Rel a0 ops 0 ops.toList)
  (fin:∀a w,B w->a.tmps.size=a0.tmps.size->a.defers=a0.defers->(∀d,jZ ops d=true->a.tmps.getD d undef=a0.tmps.getD d undef)->(∀d,isDst ops d=true->G d (a.tmps.getD d undef) w)->
   (∀j oj,ops[j]?=some oj->oj.dst=none->M j (a.tmps.getD (st j) undef) w)->Q .normal a w):(Code.region id ops true).wp P Q a0 w:=
 wp_region_any hm (NI ht ho JL zI JM steps fin ops.size _ a0 _ (by simp) (by unfold jq;exact Nat.le_trans (List.length_filter_le _ _) (by simp))
  ⟨hB,rfl,rfl,fun _ _=>rfl,fun j oj d _ hl _=>by
   by_cases h:j<ops.size<;>simp[h]at hl,fun j oj _ hl _=>by
   by_cases h:j<ops.size<;>simp[h]at hl,fun j oj _ hl=>by
   by_cases h:j<ops.size<;>simp[h]at hl⟩)
theorem cK {i:Nat} {o:Oper} {d:Nat} (hd:o.dst=some d) (hg:o.guard=none) (h:∀a w,nC G st M B a0 ops o a w->∃v w',(execOp a.eval o).run P w=.ok (.value v) w'/\B w'/\Rel w w'/\G d v w'):qj P Q G st M B Rel a0 ops i o:=by
 intro a w hF hi
 obtain⟨v,w',hr,hB,hR,hG⟩:=h a w hF
 unfold wpOp
 simp only[hi,jL hg,if_true]
 refine Or.inl ?_
 unfold Oper.wp
 rw[hr]
 exact⟨v,rfl,hB,hR,by rw[hd];exact hG⟩
theorem qJ {i:Nat} {o:Oper} (hd:o.dst=none) (hg:o.guard=none) (h:∀a w,nC G st M B a0 ops o a w->∃w',(execOp a.eval o).run P w=.ok .skip w'/\B w'/\Rel w w'/\M i (a.tmps.getD (st i) undef) w'):qj P Q G st M B Rel a0 ops i o:=by
 intro a w hF hi
 obtain⟨w',hr,hB,hR,hG⟩:=h a w hF
 unfold wpOp
 simp only[hi,jL hg,if_true]
 refine Or.inl ?_
 unfold Oper.wp
 rw[hr]
 exact⟨undef,rfl,hB,hR,by rw[hd];exact hG⟩
theorem gT {i:Nat} {o:Oper} {d:Nat} (hd:o.dst=some d) (hg:o.guard=none)
  (h:∀a w,nC G st M B a0 ops o a w->∃f args,(execOp a.eval o).run P w=.ok (.enter f args) w/\Calls P f args w fun e w'=>∃v,e=.returned v/\B w'/\Rel w w'/\G d v w'):qj P Q G st M B Rel a0 ops i o:=by
 intro a w hF hi
 obtain⟨f,args,hr,hc⟩:=h a w hF
 unfold wpOp
 simp only[hi,jL hg,if_true]
 refine Or.inl ?_
 unfold Oper.wp
 rw[hr]
 refine Calls.mono hc fun e w' he=>?_
 obtain⟨v,rfl,hB,hR,hG⟩:=he
 exact⟨v,rfl,hB,hR,by rw[hd];exact hG⟩
end
end
section
open Go
section
variable {P:Program} {ops:Array Oper} {Q:Exit->Act->World->Prop} {G:Nat->Value->World->Prop} {st:Nat->Nat} {M:Nat->Value->World->Prop} {B:World->Prop} {ps:List Nat} {a0:Act}
def bJ (ps:List Nat) (a:Act) (w:World):Prop:=
 ∀s∈ps,∀C,a.tmps.getD s undef=.pointer (some ⟨C,0,none⟩)->C<w.heap.size/\∀t∈ps,t≠s->a.tmps.getD t undef≠.pointer (some ⟨C,0,none⟩)
theorem JN {ps:List Nat} {a:Act} {w w':World} (h:bJ ps a w) (hs:w.heap.size<=w'.heap.size):bJ ps a w':=
 fun s hm C e=>⟨Nat.lt_of_lt_of_le (h s hm C e).1 hs,(h s hm C e).2⟩
theorem nU {a:Act} {dst:Option Tmp} {v:Value} {s:Nat} (h:dst≠some s):(a.put dst v).tmps.getD s undef=a.tmps.getD s undef:=by
 cases dst with
 | none=>rfl
 | some d=>simp[Act.put,Array.getElem?_setIfInBounds_ne (show d≠s from fun e=>h (by rw[e]))]
theorem ql {ps:List Nat} {a:Act} {w w':World} {dst:Option Tmp} {v:Value} (h:bJ ps a w) (hs:w.heap.size<=w'.heap.size) (hd:∀s∈ps,dst≠some s):bJ ps (a.put dst v) w':=by
 intro s hm C e
 rw[nU (hd s hm)]at e
 refine⟨Nat.lt_of_lt_of_le (h s hm C e).1 hs,fun t ht hts=>?_⟩
 rw[nU (hd t ht)]
 exact (h s hm C e).2 t ht hts
theorem FJ {ps:List Nat} {a:Act} {w w':World} {d:Nat} (h:bJ ps a w) (hs:w.heap.size<w'.heap.size) (hd:d<a.tmps.size):bJ ps (a.put (some d) (.pointer (some ⟨w.heap.size,0,none⟩))) w':=by
 have hsame:∀v,(a.put (some d) v).tmps.getD d undef=v:=fun v=>by simp[Act.put,hd]
 intro s hm C e
 by_cases e1:d=s
 .subst e1
  rw[hsame]at e
  cases e
  refine⟨hs,fun t ht hts e2=>?_⟩
  rw[nU (by intro e3;exact hts (Option.some.inj e3).symm)]at e2
  have:=(h t ht _ e2).1
  omega
 .rw[nU (by intro e3;exact e1 (Option.some.inj e3))]at e
  refine⟨by have:=(h s hm C e).1;omega,fun t ht hts=>?_⟩
  by_cases e2:d=t
  .subst e2
   rw[hsame]
   intro e3
   cases e3
   have:=(h s hm _ e).1
   omega
  .rw[nU (by intro e3;exact e2 (Option.some.inj e3))]
   exact (h s hm C e).2 t ht hts
structure X6 (G:Nat->Value->World->Prop) (st:Nat->Nat) (M:Nat->Value->World->Prop) (B:World->Prop) (ps:List Nat) (a0:Act) (ops:Array Oper) (listed:Array Bool) (a:Act) (w:World):Prop where
 base:B w
 size:a.tmps.size=a0.tmps.size
 defers:a.defers=a0.defers
 rest:∀d,jZ ops d=true->a.tmps.getD d undef=a0.tmps.getD d undef
 slots:∀j oj d,ops[j]?=some oj->listed.getD j false=true->oj.dst=some d->G d (a.tmps.getD d undef) w
 zH:∀j oj,ops[j]?=some oj->listed.getD j false=true->oj.dst=none->M j (a.tmps.getD (st j) undef) w
 ptrs:bJ ps a w
 closed:∀j oj,ops[j]?=some oj->listed.getD j false=true->∀e∈oj.after,Region.binds .any e=true->listed.getD e.on false=true
structure lX (G:Nat->Value->World->Prop) (st:Nat->Nat) (M:Nat->Value->World->Prop) (B:World->Prop) (ps:List Nat) (a0:Act) (ops:Array Oper) (o:Oper) (a:Act) (w:World):Prop where
 base:B w
 size:a.tmps.size=a0.tmps.size
 ptrs:bJ ps a w
 rest:∀d,jZ ops d=true->a.tmps.getD d undef=a0.tmps.getD d undef
 dep:∀d,waits ops o d=true->G d (a.tmps.getD d undef) w
 mem:∀j oj,ops[j]?=some oj->waitsFor o j=true->oj.dst=none->M j (a.tmps.getD (st j) undef) w
def NK (G:Nat->Value->World->Prop) (st:Nat->Nat) (M:Nat->Value->World->Prop) (B:World->Prop) (ps:List Nat) (ops:Array Oper) (i:Nat) (o:Oper) (a:Act) (w:World) (v:Value) (w':World):Prop:=
 B w'/\(∀d u,G d u w->G d u w')/\(∀j oj,j≠i->ops[j]?=some oj->oj.dst=none->M j (a.tmps.getD (st j) undef) w->M j (a.tmps.getD (st j) undef) w')/\bJ ps (a.put o.dst v) w'/\
  match o.dst with|some d=>G d v w'|none=>M i (a.tmps.getD (st i) undef) w'
def nK (P:Program) (Q:Exit->Act->World->Prop) (G:Nat->Value->World->Prop) (st:Nat->Nat) (M:Nat->Value->World->Prop) (B:World->Prop) (ps:List Nat) (a0:Act) (ops:Array Oper) (i:Nat) (o:Oper):Prop:=
 ∀a w,lX G st M B ps a0 ops o a w->ops[i]?=some o->wpOp P ops Q i (fun a' w'=>∃v,a'=a.put o.dst v/\NK G st M B ps ops i o a w v w') a w
def qK (P:Program) (Q:Exit->Act->World->Prop) (G:Nat->Value->World->Prop) (st:Nat->Nat) (M:Nat->Value->World->Prop) (B:World->Prop) (ps:List Nat) (a0:Act) (ops:Array Oper):Nat->List Oper->Prop
 | _,[]=>True
 | i,o:: r=>nK P Q G st M B ps a0 ops i o/\qK P Q G st M B ps a0 ops (i+1) r
theorem zK:∀(l:List Oper) (i k:Nat) (o:Oper),qK P Q G st M B ps a0 ops i l->l[k]?=some o->nK P Q G st M B ps a0 ops (i+k) o:=by
 intro l
 induction l with
 | nil=>intro i k o h hk;simp at hk
 | cons x r ih=>
  intro i k o h hk
  cases k with
  | zero=>simp at hk;subst hk;exact h.1
  | succ k=>have:=ih (i+1) k o h.2 (by simpa using hk);rwa [show i+(k+1)=i+1+k by omega]
theorem NM (ht:vP ops=true) (ho:once ops a0.tmps.size=true) (JM:U8 ops st=true)
  (steps:qK P Q G st M B ps a0 ops 0 ops.toList)
  (fin:∀a w,B w->a.tmps.size=a0.tmps.size->a.defers=a0.defers->(∀d,jZ ops d=true->a.tmps.getD d undef=a0.tmps.getD d undef)->(∀d,isDst ops d=true->G d (a.tmps.getD d undef) w)->
   (∀j oj,ops[j]?=some oj->oj.dst=none->M j (a.tmps.getD (st j) undef) w)->Q .normal a w):
  ∀(fuel:Nat) (listed:Array Bool) (a:Act) (w:World),listed.size=ops.size->jq ops listed<=fuel->X6 G st M B ps a0 ops listed a w->wpAny P .any ops Q fuel listed a w:=by
 have inn:∀{j:Nat} {oj:Oper},ops[j]?=some oj->j<ops.size:=by
  intro j oj hj
  rcases Nat.lt_or_ge j ops.size with h'|h'
  .exact h'
  .rw[Array.getElem?_eq_none h']at hj;cases hj
 have go:∀(listed:Array Bool) (a:Act) (w:World),listed.size=ops.size->X6 G st M B ps a0 ops listed a w->Region.ready .any ops listed=[]->Q .normal a w:=by
  intro listed a w hs hF hr
  have hall:=lJ ht hs hr
  refine fin a w hF.base hF.size hF.defers hF.rest (fun d hd=>?_) (fun j oj hj hn=>hF.zH j oj hj (hall j (inn hj)) hn)
  obtain⟨k,hk,hb⟩:=Array.any_eq_true.1 hd
  exact hF.slots k ops[k] d (Array.getElem?_eq_getElem hk) (hall k hk) (by simpa using hb)
 intro fuel
 induction fuel with
 | zero=>
  intro listed a w hs hu hF
  have hr:Region.ready .any ops listed=[]:=by
   cases hc:Region.ready .any ops listed with
   | nil=>rfl
   | cons x r=>
    have:=jh (ops:=ops) (listed:=listed) (i:=x) (by rw[hc];exact List.mem_cons_self ..)
    omega
  exact⟨hr,go listed a w hs hF hr⟩
 | succ fuel ih=>
  intro listed a w hs hu hF
  refine⟨go listed a w hs hF,fun i hi=>?_⟩
  obtain⟨h0,o,hoi,hall⟩:=mem_ready.1 hi
  have hst:=zK ops.toList 0 i o steps (by rw[Array.getElem?_toList];exact hoi)
  rw[Nat.zero_add]at hst
  have hat:lX G st M B ps a0 ops o a w:=⟨hF.base,hF.size,hF.ptrs,hF.rest,fun d hd=>by
    obtain⟨k,hk,hb⟩:=Array.any_eq_true.1 hd
    simp only[Bool.and_eq_true,beq_iff_eq]at hb
    have hl:=hall _ (Array.getElem_mem hk) hb.1
    cases hx:ops[o.after[k].on]? with
    | none=>rw[hx]at hb;cases hb.2
    | some oj=>rw[hx]at hb;exact hF.slots _ oj d hx hl hb.2,
   fun j oj hj ha hn=>by
    obtain⟨k,hk,hb⟩:=Array.any_eq_true.1 ha
    simp only[Bool.and_eq_true,beq_iff_eq]at hb
    have hl:=hall _ (Array.getElem_mem hk) hb.1
    rw[hb.2]at hl
    exact hF.zH j oj hj hl hn⟩
  refine wpOp_mono (fun a' w' h=>?_) (hst a w hat hoi)
  obtain⟨v,rfl,hB,JO,YP,hPt,hG⟩:=h
  have hlt:=jh hi
  refine ih _ _ _ (by simpa using hs) (by omega) ⟨hB,?_,?_,?_,?_,?_,hPt,?_⟩
  .rw[<- hF.size];cases o.dst<;>simp[Act.put]
  .rw[<- hF.defers];cases o.dst<;>simp[Act.put]
  .intro d hd
   rw[<- hF.rest d hd]
   have hne:o.dst≠some d:=by
    have:=(Array.all_eq_true_iff_forall_mem.1 hd) o (Array.mem_of_getElem? hoi)
    simpa using this
   cases hod:o.dst with
   | none=>rfl
   | some d'=>rw[hod]at hne;simp[Act.put,Array.getElem?_setIfInBounds_ne (show d'≠d from fun e=>hne (by rw[e]))]
  .intro j oj d hj hl hd
   by_cases e:i=j
   .subst e
    rw[hoi]at hj
    cases hj
    have hd2:=vR ho hoi hd
    rw[<- hF.size]at hd2
    rw[hd]at hG ⊢
    simpa[Act.put,hd2] using hG
   .rw[getD_set_ne false e]at hl
    have h1:=hF.slots j oj d hj hl hd
    have hv:(a.put o.dst v).tmps.getD d undef=a.tmps.getD d undef:=by
     cases hod:o.dst with
     | none=>rfl
     | some d'=>
      have:=qH ho hoi hj e hod
      rw[hd]at this
      simp[Act.put,Array.getElem?_setIfInBounds_ne (show d'≠d from fun e=>this (by rw[e]))]
    rw[hv]
    exact JO d _ h1
  .intro j oj hj hl hn
   have hv:∀jj NJ,ops[jj]?=some NJ->NJ.dst=none->(jj=i\/listed.getD jj false=true)->(a.put o.dst v).tmps.getD (st jj) undef=a.tmps.getD (st jj) undef:=by
    intro jj NJ hjj hnn hcase
    cases hod:o.dst with
    | none=>rfl
    | some d'=>
     have hne:d'≠st jj:=by
      intro he
      have hs1:=(List.all_eq_true.1 JM) jj (List.mem_range.2 (inn hjj))
      rw[hjj]at hs1
      simp only[Option.map_some,Option.getD_some,hnn,Option.isSome_none,Bool.false_or,Bool.or_eq_true]at hs1
      rcases hs1 with hs1|hs1
      .obtain⟨k,hk,hb⟩:=Array.any_eq_true.1 hs1
       simp only[Bool.and_eq_true,beq_iff_eq]at hb
       rcases hcase with hc|hc
       .subst hc
        rw[hoi]at hjj
        cases hjj
        rw[hod]at hnn
        cases hnn
       .have hl2:=hF.closed jj NJ hjj hc _ (Array.getElem_mem hk) hb.1
        cases hx:ops[NJ.after[k].on]? with
        | none=>rw[hx]at hb;cases hb.2
        | some ok=>
         rw[hx]at hb
         have hdk:ok.dst=some (st jj):=hb.2
         by_cases hki:NJ.after[k].on=i
         .rw[hki]at hl2
          have hlt2:i<listed.size:=by rw[hs];exact inn hoi
          simp[hlt2]at h0 hl2
          rw[h0]at hl2
          cases hl2
         .exact qH ho hx hoi hki hdk (by rw[hod,he])
      .have:=(Array.all_eq_true_iff_forall_mem.1 hs1) o (Array.mem_of_getElem? hoi)
       rw[hod,he]at this
       simp at this
     simp[Act.put,Array.getElem?_setIfInBounds_ne hne]
   by_cases e:i=j
   .subst e
    rw[hv i oj hj hn (Or.inl rfl)]
    rw[hoi]at hj
    cases hj
    rw[hn]at hG
    exact hG
   .rw[getD_set_ne false e]at hl
    rw[hv j oj hj hn (Or.inr hl)]
    exact YP j oj (fun e2=>e e2.symm) hj hn (hF.zH j oj hj hl hn)
  .intro j oj hj hl e he hb
   by_cases ei:i=j
   .subst ei
    rw[hoi]at hj
    cases hj
    exact getD_set_true (hall e he hb)
   .rw[getD_set_ne false ei]at hl
    exact getD_set_true (hF.closed j oj hj hl e he hb)
theorem y8 {id:Nat} {w:World} (G:Nat->Value->World->Prop) (st:Nat->Nat) (M:Nat->Value->World->Prop) (B:World->Prop) (ps:List Nat) (hm:P.follows .mixedOrders=true) (ht:vP ops=true) (ho:once ops a0.tmps.size=true) (hB:B w.drew) (hps:bJ ps a0 w.drew)
  (JM:U8 ops st=true) (steps:qK P Q G st M B ps a0 ops 0 ops.toList)
  (fin:∀a w,B w->a.tmps.size=a0.tmps.size->a.defers=a0.defers->(∀d,jZ ops d=true->a.tmps.getD d undef=a0.tmps.getD d undef)->(∀d,isDst ops d=true->G d (a.tmps.getD d undef) w)->
   (∀j oj,ops[j]?=some oj->oj.dst=none->M j (a.tmps.getD (st j) undef) w)->Q .normal a w):(Code.region id ops true).wp P Q a0 w:=
 wp_region_any hm (NM ht ho JM steps fin ops.size _ a0 _ (by simp) (by unfold jq;exact Nat.le_trans (List.length_filter_le _ _) (by simp))
  ⟨hB,rfl,rfl,fun _ _=>rfl,fun j oj d _ hl _=>by
   by_cases h:j<ops.size<;>simp[h]at hl,fun j oj _ hl _=>by
   by_cases h:j<ops.size<;>simp[h]at hl,hps,fun j oj _ hl=>by
   by_cases h:j<ops.size<;>simp[h]at hl⟩)
def iH (ops:Array Oper) (o:Oper) (a:Act):Prop:=Region.wanted o (yielded ops a.tmps)=true
theorem aB {o:Oper} {a:Act} (h:o.guard=none):iH ops o a:=jL h _
theorem aS {o:Oper} {a:Act} {j d:Nat} {b:Bool} (h:o.guard=some (j,b)) (hj:(ops[j]?).bind (·.dst)=some d) (hd:d<a.tmps.size) (hv:a.tmps.getD d undef=.bool b):iH ops o a:=by
 unfold iH Region.wanted yielded
 rw[h]
 have:a.tmps[d]?=some (.bool b):=by
  rw[Array.getElem?_eq_getElem hd]
  simp[hd]at hv
  rw[hv]
 simp[hj,this]
theorem dz {o:Oper} {a:Act} {j d:Nat} {b c:Bool} (h:o.guard=some (j,b)) (hj:(ops[j]?).bind (·.dst)=some d) (hd:d<a.tmps.size) (hv:a.tmps.getD d undef=.bool c) (hbc:c≠b):Region.wanted o (yielded ops a.tmps)=false:=by
 unfold Region.wanted yielded
 rw[h]
 have:a.tmps[d]?=some (.bool c):=by
  rw[Array.getElem?_eq_getElem hd]
  simp[hd]at hv
  rw[hv]
 simp[hj,this,hbc]
theorem yA {i:Nat} {o:Oper} {d:Nat} (hd:o.dst=some d) (h:∀a w,lX G st M B ps a0 ops o a w->iH ops o a/\∃v w',(execOp a.eval o).run P w=.ok (.value v) w'/\B w'/\(∀d u,G d u w->G d u w')/\(∀j u,M j u w->M j u w')/\bJ ps (a.put (some d) v) w'/\G d v w'):nK P Q G st M B ps a0 ops i o:=by
 intro a w hF hi
 obtain⟨hw,v,w',hr,hB,JO,YP,hP,hG⟩:=h a w hF
 unfold iH at hw
 unfold wpOp
 simp only[hi,hw,if_true]
 refine Or.inl ?_
 unfold Oper.wp
 rw[hr]
 exact⟨v,rfl,hB,JO,fun j oj _ _ _ h=>YP j _ h,by rw[hd];exact hP,by rw[hd];exact hG⟩
theorem FK {i:Nat} {o:Oper} (hd:o.dst=none) (h:∀a w,lX G st M B ps a0 ops o a w->iH ops o a/\∃w',(execOp a.eval o).run P w=.ok .skip w'/\B w'/\(∀d u,G d u w->G d u w')/\(∀j oj,j≠i->ops[j]?=some oj->oj.dst=none->M j (a.tmps.getD (st j) undef) w->M j (a.tmps.getD (st j) undef) w')/\w.heap.size<=w'.heap.size/\M i (a.tmps.getD (st i) undef) w'):nK P Q G st M B ps a0 ops i o:=by
 intro a w hF hi
 obtain⟨hw,w',hr,hB,JO,YP,hs,hG⟩:=h a w hF
 unfold iH at hw
 unfold wpOp
 simp only[hi,hw,if_true]
 refine Or.inl ?_
 unfold Oper.wp
 rw[hr]
 exact⟨undef,rfl,hB,JO,YP,by rw[hd];exact JN hF.ptrs hs,by rw[hd];exact hG⟩
theorem JQ {i:Nat} {o:Oper} {d:Nat} (hd:o.dst=some d)
  (h:∀a w,lX G st M B ps a0 ops o a w->iH ops o a/\∃f args,(execOp a.eval o).run P w=.ok (.enter f args) w/\Calls P f args w fun e w'=>∃v,e=.returned v/\B w'/\(∀d u,G d u w->G d u w')/\(∀j u,M j u w->M j u w')/\bJ ps (a.put (some d) v) w'/\G d v w'):nK P Q G st M B ps a0 ops i o:=by
 intro a w hF hi
 obtain⟨hw,f,args,hr,hc⟩:=h a w hF
 unfold iH at hw
 unfold wpOp
 simp only[hi,hw,if_true]
 refine Or.inl ?_
 unfold Oper.wp
 rw[hr]
 refine Calls.mono hc fun e w' he=>?_
 obtain⟨v,rfl,hB,JO,YP,hP,hG⟩:=he
 exact⟨v,rfl,hB,JO,fun j oj _ _ _ h=>YP j _ h,by rw[hd];exact hP,by rw[hd];exact hG⟩
end
end
section
open Go.RowKit
theorem lX.d {G:Nat->Value->World->Prop} {st:Nat->Nat} {M:Nat->Value->World->Prop} {B:World->Prop} {ps:List Nat} {a0:Act} {ops:Array Oper} {o:Oper} {a:Act} {w:World} (h:lX G st M B ps a0 ops o a w) (d:Nat) (hd:waits ops o d=true:=by kernel_rfl):G d (a.tmps.getD d undef) w:=h.dep d hd
theorem lX.r {G:Nat->Value->World->Prop} {st:Nat->Nat} {M:Nat->Value->World->Prop} {B:World->Prop} {ps:List Nat} {a0:Act} {ops:Array Oper} {o:Oper} {a:Act} {w:World} (h:lX G st M B ps a0 ops o a w) (d:Nat) (hd:jZ ops d=true:=by kernel_rfl):a.tmps.getD d undef=a0.tmps.getD d undef:=h.rest d hd
theorem qG.d {G:Nat->Value->World->Prop} {M:Nat->World->Prop} {B:World->Prop} {a0:Act} {ops:Array Oper} {o:Oper} {a:Act} {w:World} (h:qG G M B a0 ops o a w) (d:Nat) (hd:waits ops o d=true:=by kernel_rfl):G d (a.tmps.getD d undef) w:=h.dep d hd
theorem qG.r {G:Nat->Value->World->Prop} {M:Nat->World->Prop} {B:World->Prop} {a0:Act} {ops:Array Oper} {o:Oper} {a:Act} {w:World} (h:qG G M B a0 ops o a w) (d:Nat) (hd:jZ ops d=true:=by kernel_rfl):a.tmps.getD d undef=a0.tmps.getD d undef:=h.rest d hd
theorem nC.d {G:Nat->Value->World->Prop} {st:Nat->Nat} {M:Nat->Value->World->Prop} {B:World->Prop} {a0:Act} {ops:Array Oper} {o:Oper} {a:Act} {w:World} (h:nC G st M B a0 ops o a w) (d:Nat) (hd:waits ops o d=true:=by kernel_rfl):G d (a.tmps.getD d undef) w:=h.dep d hd
theorem nC.r {G:Nat->Value->World->Prop} {st:Nat->Nat} {M:Nat->Value->World->Prop} {B:World->Prop} {a0:Act} {ops:Array Oper} {o:Oper} {a:Act} {w:World} (h:nC G st M B a0 ops o a w) (d:Nat) (hd:jZ ops d=true:=by kernel_rfl):a.tmps.getD d undef=a0.tmps.getD d undef:=h.rest d hd
end
section
open Go.RowKit
def aH (w:World) (B:Nat) (T:TypeId) (L:List Value):Prop:=w.heap[B]?=some (.cells L.toArray T (0,0))
theorem aH.lt {w:World} {B:Nat} {T:TypeId} {L:List Value} (h:aH w B T L):B<w.heap.size:=by
 rcases Nat.lt_or_ge B w.heap.size with h'|h'
 .exact h'
 .unfold aH at h;simp[Array.getElem?_eq_none h']at h
theorem aH.cell {w:World} {B:Nat} {T:TypeId} {L:List Value} (h:aH w B T L) {i:Nat} {v:Value} (hv:L[i]?=some v):w.cell? ⟨B,i,none⟩=some v:=by
 unfold aH at h;simp[World.cell?,h,hv]
theorem aH.free {w:World} {B:Nat} {T:TypeId} {L:List Value} (h:aH w B T L) (i:Nat):w.frozen? ⟨B,i,none⟩=false:=by
 unfold aH at h;simp[World.frozen?,h]
theorem aH.set {w:World} {B:Nat} {T:TypeId} {L:List Value} (h:aH w B T L) (i:Nat) (v:Value):aH (w.setCell ⟨B,i,none⟩ v) B T (L.set i v):=by
 have hlt:=h.lt
 unfold aH at h ⊢
 have h':w.heap[B]=.cells L.toArray T (0,0):=by simpa[Array.getElem?_eq_getElem hlt] using h
 show (w.heap.modify B _)[B]?=_
 rw[Array.getElem?_eq_getElem (by simpa using hlt),Array.getElem_modify_self,h']
 simp
theorem aH.other {w:World} {B:Nat} {T:TypeId} {L:List Value} (h:aH w B T L) {a:Addr} (ha:a.block≠B) (v:Value):aH (w.setCell a v) B T L:=by
 unfold aH at h ⊢;rw[Below.heap_setCell _ _ _ _ (fun e=>ha e.symm)];exact h
theorem aH.alloc {w:World} {B:Nat} {T:TypeId} {L:List Value} (h:aH w B T L) (o:Obj):aH (w.alloc o) B T L:=by
 have hlt:=h.lt
 unfold aH at h ⊢;rw[Below.heap_alloc _ _ _ hlt];exact h
theorem aH.drewN {w:World} {B:Nat} {T:TypeId} {L:List Value} (h:aH w B T L) (n:Nat):aH (w.drewN n) B T L:=h
theorem aH.drew {w:World} {B:Nat} {T:TypeId} {L:List Value} (h:aH w B T L):aH w.drew B T L:=h
theorem aH.grown {w w':World} {B:Nat} {T:TypeId} {L:List Value} {row:Option Nat} (h:aH w B T L) (hg:w.grownBy w' row) (hr:some B≠row):aH w' B T L:=by
 have hlt:=h.lt
 unfold aH at h ⊢;rw[hg.block B hlt hr];exact h
theorem aH.new (w:World) (L:List Value) (T:TypeId):aH (w.alloc (.cells L.toArray T)) w.heap.size T L:=by
 show (w.heap.push _)[w.heap.size]?=_
 simp
theorem ah (w:World) (row:Option Nat):w.grownBy w row:=⟨rfl,rfl,rfl,Nat.le_refl _,fun _ _ _=>rfl⟩
theorem aj {a b c:World} {row:Option Nat} (h:a.grownBy b row) (k:b.grownBy c row):a.grownBy c row:=
 ⟨k.os.trans h.os,k.tape.trans h.tape,k.output.trans h.output,Nat.le_trans h.size k.size,fun i hi hr=>(k.block i (Nat.lt_of_lt_of_le hi h.size) hr).trans (h.block i hi hr)⟩
theorem dB {a b:World} (h:a.grownBy b none) (row:Option Nat):a.grownBy b row:=
 ⟨h.os,h.tape,h.output,h.size,fun i hi _=>h.block i hi (by simp)⟩
theorem aW {a b c:World} {B:Nat} {row:Option Nat} (h:a.grownBy b row) (k:b.grownBy c (some B)) (hB:a.heap.size<=B):a.grownBy c row:=
 ⟨k.os.trans h.os,k.tape.trans h.tape,k.output.trans h.output,Nat.le_trans h.size k.size,fun i hi hr=>(k.block i (Nat.lt_of_lt_of_le hi h.size) (by intro e;cases e;omega)).trans (h.block i hi hr)⟩
theorem av {a w:World} {row:Option Nat} (h:a.grownBy w row) (o:Obj):a.grownBy (w.alloc o) row:=aj h (World.grownBy_alloc w o row)
theorem iM {a w:World} {row:Option Nat} (h:a.grownBy w row) (n:Nat):a.grownBy (w.drewN n) row:=⟨h.os,h.tape,h.output,h.size,h.block⟩
theorem aX {a w:World} {row:Option Nat} (h:a.grownBy w row):a.grownBy w.drew row:=⟨h.os,h.tape,h.output,h.size,h.block⟩
theorem aJ {a w:World} {B:Nat} (h:a.grownBy w (some B)) (i:Nat) (v:Value):a.grownBy (w.setCell ⟨B,i,none⟩ v) (some B):=
 aj h ⟨rfl,rfl,rfl,by simp[World.setCell],fun k _ hr=>Below.heap_setCell _ _ _ _ (fun e=>hr (by rw[e]))⟩
theorem aO {a w:World} {row:Option Nat} (h:a.grownBy w row) {p:Addr} (hp:a.heap.size<=p.block) (v:Value):a.grownBy (w.setCell p v) row:=
 ⟨h.os,h.tape,h.output,by simp[World.setCell];exact h.size,fun k hk hr=>by rw[Below.heap_setCell _ _ _ _ (by omega)];exact h.block k hk hr⟩
theorem QD {a b:World} (h:a.grownBy b none):Below a.heap.size a b:=⟨h.os,h.tape,h.output,h.size,fun k hk=>h.block k hk (by simp)⟩
theorem bf {a b:World} {row:Option Nat} (h:a.grownBy b row) {p:Addr} (hp:p.block<a.heap.size) (hr:some p.block≠row):b.cell? p=a.cell? p:=World.cell?_of_block (w:=a) (h.block p.block hp hr)
theorem qm {a w:World} {row:Option Nat} (h:a.grownBy w row) {g:Nat} (hg:a.heap.size<=g) (cs:Array Value):a.grownBy (w.setRow g cs) row:=
 ⟨h.os,h.tape,h.output,by simp;exact h.size,fun k hk hr=>by rw[setRow_other _ _ _ _ (by omega)];exact h.block k hk hr⟩
theorem uS {a w:World} {g:Nat} (h:a.grownBy w (some g)) (cs:Array Value):a.grownBy (w.setRow g cs) (some g):=
 ⟨h.os,h.tape,h.output,by simp;exact h.size,fun k hk hr=>by rw[setRow_other _ _ _ _ (fun e=>hr (by rw[e]))];exact h.block k hk hr⟩
theorem aH.row {w:World} {B:Nat} {T:TypeId} {L:List Value} (h:aH w B T L) (L':List Value):aH (w.setRow B L'.toArray) B T L':=setRow_heap _ _ _ _ _ _ h
theorem aH.QE {w:World} {B:Nat} {T:TypeId} {L:List Value} (h:aH w B T L) {g:Nat} (hg:g≠B) (cs:Array Value):aH (w.setRow g cs) B T L:=by
 unfold aH at h ⊢;rw[setRow_other _ _ _ _ (fun e=>hg e.symm)];exact h
def oV (L:List Value) (o:Nat) (f:Nat->Value):Nat->List Value
 | 0=>L
 | k+1=>(oV L o f k).set (o+k) (f k)
theorem fT (L:List Value) (o:Nat) (f:Nat->Value) (k:Nat):(oV L o f k).length=L.length:=by
 induction k with
 | zero=>rfl
 | succ k ih=>simp[oV,ih]
theorem su (L:List Value) (o:Nat) (f:Nat->Value) (k i:Nat) (hk:o+k<=L.length):(oV L o f k)[i]?=if o<=i/\i<o+k then some (f (i-o)) else L[i]?:=by
 induction k with
 | zero=>simp[oV];omega
 | succ k ih=>
  have hl:=fT L o f k
  rw[oV,List.getElem?_set,ih (by omega),hl]
  by_cases h:o+k=i
  .subst h;simp only[if_true];rw[if_pos (by omega),if_pos (by omega)];congr 2;omega
  .rw[if_neg h]
   by_cases h2:o<=i/\i<o+k
   .rw[if_pos h2,if_pos (by omega)]
   .rw[if_neg h2,if_neg (by omega)]
theorem Ea (L:List Value) (o:Nat) (f:Nat->Value) (k:Nat) (hk:o+k<=L.length):oV L o f k=L.take o++(List.range k).map f++L.drop (o+k):=by
 apply List.ext_getElem?
 intro i
 rw[su L o f k i hk]
 by_cases h1:i<o
 .rw[if_neg (by omega),List.append_assoc,List.getElem?_append_left (by simp;omega),List.getElem?_take,if_pos h1]
 .by_cases h2:i<o+k
  .rw[if_pos (by omega),List.append_assoc,List.getElem?_append_right (by simp;omega),List.getElem?_append_left (by simp;omega)]
   simp[Nat.min_eq_left (show o<=L.length by omega),show i-o<k by omega]
  .rw[if_neg (by omega),List.getElem?_append_right (by simp;omega)]
   simp[Nat.min_eq_left (show o<=L.length by omega)]
   congr 1;omega
end
section
open Go.RowKit
namespace Ow
def dD (n:Nat):Value:=.int .u8 (n:Int)
structure BytesAt (w:World) (B:Nat) (a:Option Addr) (cap:Nat) (l:List Nat):Prop where
 lim:B<=w.heap.size
 fits:l.length<=cap
 top:cap<9223372036854775808
 byte:∀i,l.getD i 0<256
 cells:l.length=0\/∃pb po,a=some ⟨pb,po,none⟩/\pb<B/\∀i,i<l.length->w.cell? ⟨pb,po+i,none⟩=some (dD (l.getD i 0))
theorem BytesAt.kept {w w':World} {B cap:Nat} {a:Option Addr} {l:List Nat} (h:BytesAt w B a cap l) {row:Option Nat} (hg:w.grownBy w' row) (hr:∀r,row=some r->B<=r):BytesAt w' B a cap l:=by
 refine⟨Nat.le_trans h.lim hg.size,h.fits,h.top,h.byte,?_⟩
 rcases h.cells with h0 |⟨pb,po,ha,hlt,hc⟩
 .exact Or.inl h0
 .exact Or.inr ⟨pb,po,ha,hlt,fun i hi=>by rw[bf hg (p:=⟨pb,po+i,none⟩) (Nat.lt_of_lt_of_le hlt h.lim) (fun e=>by have:=hr _ e.symm;simp at this;omega)];exact hc i hi⟩
theorem BytesAt.stay {w w':World} {B cap:Nat} {a:Option Addr} {l:List Nat} (h:BytesAt w B a cap l) (hg:w.grownBy w' none):BytesAt w' B a cap l:=h.kept hg (fun r e=>by cases e)
theorem BytesAt.up {w:World} {B B' cap:Nat} {a:Option Addr} {l:List Nat} (h:BytesAt w B a cap l) (hB:B<=B') (hl:B'<=w.heap.size):BytesAt w B' a cap l:=by
 refine⟨hl,h.fits,h.top,h.byte,?_⟩
 rcases h.cells with h0 |⟨pb,po,ha,hlt,hc⟩
 .exact Or.inl h0
 .exact Or.inr ⟨pb,po,ha,by omega,hc⟩
theorem vU {l:List Nat} {i:Nat} (h:i<l.length):(l.map dD)[i]?=some (dD (l.getD i 0)):=by
 rw[List.getElem?_map,List.getElem?_eq_getElem h,List.getD_eq_getElem?_getD,List.getElem?_eq_getElem h];rfl
theorem kQ (w:World) {B:Nat} (L:List Value) (T:TypeId) (h:w.heap.size=B):aH (w.alloc (.cells L.toArray T)) B T L:=h▸aH.new w L T
theorem nL {w:World} {N B n cap:Nat} {T:TypeId} {l:List Nat} {tl:List Value} (h:aH w N T (l.map dD++tl)) (hl:l.length=n) (hc:n<=cap) (ht:cap<9223372036854775808) (hb:∀i,l.getD i 0<256) (hB:N<B) (hw:B<=w.heap.size):
  BytesAt w B (some ⟨N,0,none⟩) cap l:=by
 subst hl
 refine⟨hw,hc,ht,hb,Or.inr ⟨N,0,rfl,hB,fun i hi=>?_⟩⟩
 rw[Nat.zero_add]
 apply h.cell
 rw[List.getElem?_append_left (by simpa using hi)]
 exact vU hi
theorem qL:∃i z,Tryz.prog.info? 5=some i/\i.zero=some z/\i.size=1/\i.bytes=1/\z.cells.size=1:=by
 have h:(Tryz.prog.info? 5).map (fun i=>(i.zero.map (·.cells.size),i.size,i.bytes))=some (some 1,1,1):=by kernel_rfl
 cases hi:Tryz.prog.info? 5 with
 | none=>rw[hi]at h;cases h
 | some i=>
  rw[hi]at h
  simp only[Option.map_some,Option.some.injEq,Prod.mk.injEq]at h
  cases hz:i.zero with
  | none=>rw[hz]at h;cases h.1
  | some z=>rw[hz]at h;exact⟨i,z,rfl,hz,h.2.1,h.2.2,by simpa using h.1⟩
theorem CZ (w:World) (base n m c:Nat) (v:Value) (xs news:List Value) (ad:Addr) (hown:w.ownsRow base 5 1 v n xs) (hl:news.length=m) (hnews:∀j u,news[j]?=some u->w.cell? (ad.add j)=some u) (h1:∀u∈news,u.oneCell'=true)
  (hn:(n+m)*1<=140737488355328) (hbase:base<=w.heap.size):
  ∃v' w',(Builtin.append_ #[22,22] 22 #[v,.slice (some ad) m c]).run Tryz.prog w=.ok v' w'/\w'.ownsRow base 5 1 v' (n+m) (xs++news)/\w.grownBy w' v.ownBlock:=by
 obtain⟨i,z,hi,hz,hs,hb,hc⟩:=qL
 obtain⟨v',w',hr,ho,hg,_⟩:=run_append_own w base 22 22 5 i z 1 1 (P:=Tryz.prog) Tryz.underlying22 hi hz hs hb hc (by decide) v n xs hown ad m c news (by omega) hnews h1 (by unfold maxLen;omega) hn hbase
 exact⟨v',w',hr,ho,hg⟩
theorem JR (w:World) (base n:Nat) (v x:Value) (xs:List Value) (hown:w.ownsRow base 5 1 v n xs) (h1:x.oneCell'=true) (hn:(n+1)*1<=140737488355328) (hbase:base<=w.heap.size):
  ∃v' w',(Builtin.append_ #[22,22] 22 #[v,.slice (some ⟨w.heap.size,0,none⟩) 1 1]).run Tryz.prog (w.alloc (.cells #[x] 5))=.ok v' w'/\w'.ownsRow base 5 1 v' (n+1) (xs++[x])/\w.grownBy w' v.ownBlock:=by
 obtain⟨v',w',hr,ho,hg⟩:=CZ (w.alloc (.cells #[x] 5)) base n 1 1 v xs [x] ⟨w.heap.size,0,none⟩ (hown.alloc _) rfl (fun j u hu=>by
  have hj:j=0:=by
   rcases Nat.eq_zero_or_pos j with h|h
   .exact h
   .rw[List.getElem?_eq_none (by simp;omega)]at hu;cases hu
  subst hj
  rw[show x=u by simpa using hu]
  exact (aH.new w [u] 5).cell (i:=0) rfl) (fun u hu=>by rw[List.mem_singleton.1 hu];exact h1) hn (by simp;omega)
 exact⟨v',w',hr,ho,aj (av (ah _ _) _) hg⟩
theorem YQ {w0 w w':World} {base e n:Nat} {v:Value} {xs:List Value} (h:w0.grownBy w none) (ho:w.ownsRow base e 1 v n xs) (hb:w0.heap.size<=base) (hg:w.grownBy w' v.ownBlock):w0.grownBy w' none:=
 ⟨hg.os.trans h.os,hg.tape.trans h.tape,hg.output.trans h.output,Nat.le_trans h.size hg.size,fun k hk _=>(hg.block k (Nat.lt_of_lt_of_le hk h.size) (fun e=>by have:=(ho.lt k e.symm).1;omega)).trans (h.block k hk (by simp))⟩
theorem sw {w:World} {base e n:Nat} {v:Value} {xs:List Value} (h:w.ownsRow base e 1 v n xs) (hn:0<n):∃g c,v=.slice (some ⟨g,0,none⟩) n c/\base<=g/\n<=c/\c<=maxLen/\g<w.heap.size:=by
 rcases h.2 with⟨_,h0⟩ |⟨g,c,cur,rfl,hb,hg,hnc,hcm,_⟩
 .omega
 .exact⟨g,c,rfl,hb,hnc,hcm,lt_of_block hg⟩
theorem nV {w:World} {base e n g c:Nat} {xs:List Value} (h:w.ownsRow base e 1 (.slice (some ⟨g,0,none⟩) n c) n xs) {j:Nat} {u:Value} (hu:xs[j]?=some u):w.cell? ⟨g,j,none⟩=some u:=by
 have hl:xs.length=n:=by have:=h.1;omega
 have hj:j<n:=by
  rcases Nat.lt_or_ge j n with h'|h'
  .exact h'
  .rw[List.getElem?_eq_none (by omega)]at hu;cases hu
 rw[h.cellAt j (by omega)];exact hu
theorem wpList_append_run {P:Program} {w:World} {ops:Array Oper} {rest:List Oper} {o:Oper} {a:Act} {Q:Exit->Act->World->Prop} (hgd:o.guard=none) (s x:Operand) (t:TypeId)
  (ho:o.op=.call {callee:=.builtin .append,args:=#[s,x],argTypes:=#[t,t]}) (ht:o.type=t) (v y:Value) (hs:a.eval s=v) (hx:a.eval x=y) (v':Value) (w':World)
  (hr:(Builtin.append_ #[t,t] t #[v,y]).run P w=.ok v' w') (h:wpList P ops Q rest (a.put o.dst v') w'):wpList P ops Q (o:: rest) a w:=by
 refine wpList_plain hgd fun K hK=>?_
 rw[<- ht]at hr
 unfold Oper.wp
 simp[execOp,ho,resolve,invoke,builtin,hs,hx,<- ht,hr,Result.andThen]
 exact hK _ _ h
theorem yB (w:World) (base n c:Nat) (v:Value) (xs:List Value) (hown:w.ownsRow base 5 1 v n xs):
  (Builtin.append_ #[22,22] 22 #[v,.slice none 0 c]).run Tryz.prog w=.ok v w:=by
 obtain⟨i,z,hi,hz,hs,hb,hc⟩:=qL
 rcases hown.2 with⟨rfl,rfl⟩ |⟨g,cap,cur,rfl,_,_,hnc,_⟩
 .simp[Builtin.append_,run_underlying Tryz.underlying22,sizeOf,typeInfo,hi,Builtin.lenOf,Builtin.firstCells]
 .simp[Builtin.append_,run_underlying Tryz.underlying22,sizeOf,typeInfo,hi,Builtin.lenOf,Builtin.firstCells,hnc,storeCells]
theorem zL {w w':World} {base e n:Nat} {v:Value} {xs:List Value} (h:w.ownsRow base e 1 v n xs) (hg:w.grownBy w' none):w'.ownsRow base e 1 v n xs:=
 h.kept hg (by cases v.ownBlock<;>simp)
theorem vW (w:World) (base g n0 c B cap n:Nat) (xs:List Value) (a:Option Addr) (p:List Nat) (hown:w.ownsRow base 5 1 (.slice (some ⟨g,0,none⟩) n0 c) n0 xs) (hn:p.length=n) (hP:BytesAt w B a cap p) (hroom:n0+n<=c):
  ∃w',(Builtin.append_ #[22,22] 22 #[.slice (some ⟨g,0,none⟩) n0 c,.slice a n cap]).run Tryz.prog w=.ok (.slice (some ⟨g,0,none⟩) (n0+n) c) w'/\w'.ownsRow base 5 1 (.slice (some ⟨g,0,none⟩) (n0+n) c) (n0+n) (xs++p.map dD)/\w.grownBy w' (some g):=by
 subst hn
 obtain⟨i,z,hi,hz,hs,hb,hc⟩:=qL
 rcases a with _|ad
 .have h0:p.length=0:=by
   rcases hP.cells with h |⟨_,_,h,_⟩
   .exact h
   .cases h
  obtain rfl:p=[]:=List.eq_nil_of_length_eq_zero h0
  exact⟨w,yB w base n0 cap _ xs hown,by simpa using hown,ah _ _⟩
 .refine run_append_fits w base 22 22 5 i 1 (P:=Tryz.prog) Tryz.underlying22 hi hs g n0 c xs hown ad p.length cap (p.map dD) (by simp) (fun j u hu=>?_) (fun u hu=>?_) hroom
  .rcases hP.cells with h |⟨pb,po,h,_,hc⟩
   .obtain rfl:p=[]:=List.eq_nil_of_length_eq_zero h
    simp at hu
   .cases h
    have hj:j<p.length:=by
     rcases Nat.lt_or_ge j p.length with h|h
     .exact h
     .rw[List.getElem?_eq_none (by simpa using h)]at hu;cases hu
    have hadd:(⟨pb,po,none⟩:Addr).add j=⟨pb,po+j,none⟩:=by unfold Addr.add;split<;>simp_all
    rw[hadd,hc j hj,<- hu,vU hj]
  .obtain⟨x,_,rfl⟩:=List.mem_map.1 hu
   rfl
theorem nD (w:World) (base n0 B cap n:Nat) (v:Value) (xs:List Value) (a:Option Addr) (p:List Nat) (hown:w.ownsRow base 5 1 v n0 xs) (hn:p.length=n) (hP:BytesAt w B a cap p)
  (hb:n0+n<=140737488355328) (hbase:base<=w.heap.size):
  ∃v' w',(Builtin.append_ #[22,22] 22 #[v,.slice a n cap]).run Tryz.prog w=.ok v' w'/\w'.ownsRow base 5 1 v' (n0+n) (xs++p.map dD)/\w.grownBy w' v.ownBlock:=by
 subst hn
 rcases a with _|ad
 .have h0:p.length=0:=by
   rcases hP.cells with h |⟨_,_,h,_⟩
   .exact h
   .cases h
  obtain rfl:p=[]:=List.eq_nil_of_length_eq_zero h0
  exact⟨v,w,yB w base n0 cap _ xs hown,by simpa using hown,ah _ _⟩
 .refine CZ w base n0 p.length cap v xs (p.map dD) ad hown (by simp) (fun j u hu=>?_) (fun u hu=>?_) (by omega) hbase
  .rcases hP.cells with h |⟨pb,po,h,_,hc⟩
   .obtain rfl:p=[]:=List.eq_nil_of_length_eq_zero h
    simp at hu
   .cases h
    have hj:j<p.length:=by
     rcases Nat.lt_or_ge j p.length with h|h
     .exact h
     .rw[List.getElem?_eq_none (by simpa using h)]at hu;cases hu
    have hadd:(⟨pb,po,none⟩:Addr).add j=⟨pb,po+j,none⟩:=by unfold Addr.add;split<;>simp_all
    rw[hadd,hc j hj,<- hu,vU hj]
  .obtain⟨x,_,rfl⟩:=List.mem_map.1 hu
   rfl
theorem xA (w:World) (base g n0 c x:Nat) (xs:List Value) (hx:x<256) (hown:w.ownsRow base 5 1 (.slice (some ⟨g,0,none⟩) n0 c) n0 xs) (hroom:n0+1<=c):
  ∃w',(Builtin.append_ #[22,22] 22 #[.slice (some ⟨g,0,none⟩) n0 c,.slice (some ⟨w.heap.size,0,none⟩) 1 1]).run Tryz.prog (w.alloc (.cells #[dD x] 5))=.ok (.slice (some ⟨g,0,none⟩) (n0+1) c) w'/\w'.ownsRow base 5 1 (.slice (some ⟨g,0,none⟩) (n0+1) c) (n0+1) (xs++[dD x])/\w.grownBy w' (some g):=by
 have hb:=aH.new w [dD x] 5
 have hp:BytesAt (w.alloc (.cells #[dD x] 5)) (w.heap.size+1) (some ⟨w.heap.size,0,none⟩) 1 [x]:=
  nL (l:=[x]) (n:=1) (tl:=[]) hb rfl (by omega) (by omega) (fun i=>by cases i<;>simp;omega) (by omega) (by simp)
 obtain⟨w',hr,ho,hg⟩:=vW (w.alloc (.cells #[dD x] 5)) base g n0 c (w.heap.size+1) 1 1 xs _ [x] (hown.alloc _) rfl hp hroom
 exact⟨w',hr,ho,aj (av (ah _ _) _) hg⟩
set_option maxRecDepth 100000 in
theorem zM (a:Option Addr) (n cap lo:Nat) (h:lo<=n):
  ∃a',(∀w,(Instr.slice 22 (.slice a n cap) (some (.int .i64 (lo:Int))) none none).run Tryz.prog w=.ok (.slice a' (n-lo) (cap-lo)) w)/\(lo<cap->∀pb po,a=some ⟨pb,po,none⟩->a'=some ⟨pb,po+lo,none⟩):=by
 obtain⟨j,hj,hs⟩:∃j,Tryz.prog.info? (Tryz.prog.elem 22)=some j/\j.size=1:=by
  have h1:(Tryz.prog.info? (Tryz.prog.elem 22)).map (·.size)=some 1:=by kernel_rfl
  cases hq:Tryz.prog.info? (Tryz.prog.elem 22) with
  | none=>rw[hq]at h1;cases h1
  | some j=>rw[hq]at h1;exact⟨j,rfl,by simpa using h1⟩
 refine⟨if cap=lo then a else a.map (·.add lo),fun w=>?_,?_⟩
 .rw[run_slice_l w 22 a n cap Tryz.underlying22 .i64 _ (by omega) (by omega),Int.toNat_natCast]
  simp[sizeOf,typeInfo,hj,hs,sliced]
 .intro hlt pb po e
  rw[if_neg (by omega),e]
  simp[Addr.add]
end Ow
end
section
open Go.RowKit Ow
namespace Fg
def yC (a:Act):Nat->List Value->Prop
 | _,[]=>True
 | i,v:: r=>a.tmps.getD i undef=v/\yC a (i+1) r
theorem xB {a:Act}:∀(vs:List Value) (i k:Nat) (v:Value),yC a i vs->vs[k]?=some v->a.tmps.getD (i+k) undef=v:=by
 intro vs
 induction vs with
 | nil=>intro i k v _ h;simp at h
 | cons x r ih=>
  intro i k v h hk
  cases k with
  | zero=>simp at hk;subst hk;exact h.1
  | succ k=>have:=ih (i+1) k v h.2 (by simpa using hk);rwa [show i+(k+1)=i+1+k by omega]
theorem gW {a:Act} {vs:List Value} (hs:a.tmps.size=vs.length) (h:yC a 0 vs) (hd:a.defers=[]):a={tmps:=vs.toArray,defers:=[]}:=by
 have ht:a.tmps=vs.toArray:=by
  apply Array.ext_getElem?
  intro i
  by_cases hi:i<a.tmps.size
  .have h2:i<vs.length:=by omega
   have:=xB vs 0 i vs[i] h (List.getElem?_eq_getElem h2)
   rw[Nat.zero_add]at this
   simp[hi]at this
   rw[Array.getElem?_eq_getElem hi,this]
   simp[h2]
  .rw[Array.getElem?_eq_none (by omega),Array.getElem?_eq_none (by simp;omega)]
 cases a
 simp at ht hd
 rw[ht,hd]
structure It where
 p:Value->World->Prop
 m:∀v w w',p v w->w.grownBy w' none->p v w'
def It.any:It:=⟨fun _ _=>True,fun _ _ _ _ _=>trivial⟩
def It.val (x:Value):It:=⟨fun v _=>v=x,fun _ _ _ h _=>h⟩
def its (L:List It) (d:Nat) (v:Value) (w:World):Prop:=(L.getD d .any).p v w
theorem nM {L:List It} {w w':World} (hg:w.grownBy w' none) (d:Nat) (v:Value) (h:its L d v w):its L d v w':=(L.getD d .any).m _ _ _ h hg
section
variable {P:Program} {ops:Array Oper} {Q:Exit->Act->World->Prop} {L:List It} {w0:World} {a0:Act}
end
end Fg
end
section
open Go Go.RowKit
theorem aH.range {w:World} {B:Nat} {T:TypeId} {L:List Value} (h:aH w B T L) (o:Nat) (cs:List Value) (hL:(L.drop o).take cs.length=cs):w.rangeAt B o cs:=fun j v hv=>by
 have hj:j<cs.length:=(List.getElem?_eq_some_iff.1 hv).1
 refine h.cell ?_
 rw[<- hL,List.getElem?_take_of_lt hj,List.getElem?_drop]at hv
 exact hv
theorem aH.there {w:World} {B:Nat} {T:TypeId} {L:List Value} (h:aH w B T L) (o n:Nat) (hn:o+n<=L.length):w.there B o n:=fun j hj=>by
 have hlt:o+j<L.length:=by omega
 exact⟨by rw[h.cell (List.getElem?_eq_getElem hlt)];rfl,h.free _⟩
def over:List Value->Nat->List Value->List Value
 | L,_,[]=>L
 | L,o,v:: r=>over (L.set o v) (o+1) r
theorem yD:∀(cs L:List Value) (o:Nat),(over L o cs).length=L.length
 | [],_,_=>rfl
 | v:: r,L,o=>by rw[over,yD r];simp
theorem LZ:∀(cs L:List Value) (o:Nat),o+cs.length<=L.length->over L o cs=L.take o++cs++L.drop (o+cs.length)
 | [],L,o,_=>by rw[over];simp
 | v:: r,L,o,h=>by
  have hl:o<L.length:=by simp at h;omega
  rw[over,LZ r (L.set o v) (o+1) (by simp at h ⊢;omega)]
  have e1:(L.set o v).take (o+1)=L.take o++[v]:=by
   rw[List.take_set,List.take_succ_eq_append_getElem hl,List.set_append_right _ _ (by simp;omega)]
   simp[Nat.min_eq_left (Nat.le_of_lt hl)]
  have e2:(L.set o v).drop (o+1+r.length)=L.drop (o+(v:: r).length):=by
   rw[List.drop_set_of_lt (by omega),List.length_cons]
   congr 1
   omega
  rw[e1,e2]
  simp
theorem QF (cs L:List Value) (h:L.length=cs.length):over L 0 cs=cs:=by
 rw[LZ cs L 0 (by omega)]
 simp[List.drop_eq_nil_of_le (show L.length<=cs.length by omega)]
theorem aH.setCells:∀{cs:List Value} {w:World} {B:Nat} {T:TypeId} {L:List Value} (_:aH w B T L) (o:Nat),aH (w.setCells B o cs) B T (over L o cs)
 | [],_,_,_,_,h,_=>h
 | v:: r,w,B,T,L,h,o=>by
  rw[World.setCells]
  exact aH.setCells (cs:=r) (h.set o v) (o+1)
theorem aH.bC {cs:List Value} {w:World} {B:Nat} {T:TypeId} {L:List Value} (h:aH w B T L) (hl:L.length=cs.length):aH (w.setCells B 0 cs) B T cs:=by
 have:=h.setCells (cs:=cs) 0
 rwa [QF cs L hl]at this
theorem aH.au:∀{cs:List Value} {w:World} {B C:Nat} {T:TypeId} {L:List Value} (_:aH w B T L) (o:Nat) (_:C≠B),aH (w.setCells C o cs) B T L
 | [],_,_,_,_,_,h,_,_=>h
 | v:: r,w,B,C,T,L,h,o,hne=>by
  rw[World.setCells]
  exact aH.au (cs:=r) (h.other (a:=⟨C,o,none⟩) hne v) (o+1) hne
theorem aK:∀{cs:List Value} {a w:World} {B:Nat} (_:a.grownBy w (some B)) (o:Nat),a.grownBy (w.setCells B o cs) (some B)
 | [],_,_,_,h,_=>h
 | v:: r,a,w,B,h,o=>by
  rw[World.setCells]
  exact aK (cs:=r) (aJ h o v) (o+1)
theorem aG:∀{cs:List Value} {a w:World} {row:Option Nat} {B:Nat} (_:a.grownBy w row) (_:a.heap.size<=B) (o:Nat),a.grownBy (w.setCells B o cs) row
 | [],_,_,_,_,h,_,_=>h
 | v:: r,a,w,row,B,h,hB,o=>by
  rw[World.setCells]
  exact aG (cs:=r) (aO h (p:=⟨B,o,none⟩) hB v) hB (o+1)
namespace Fg
def fH (ops:Array Oper) (k d:Nat):Bool:=(List.range k).any fun j=>(ops[j]?).bind (·.dst)==some d
def xC (ops:Array Oper) (k:Nat):Bool:=(List.range ops.size).all fun t=>decide (t<k)||(List.range t).all fun j=>(List.range (t+1)).any fun i=>decide (j<i)&&((ops[i]?).map fun o=>waitsFor o j).getD false
def It.fresh (T:TypeId) (V:List Value) (n0:Nat):It:=⟨fun v w=>∃N,v=.pointer (some ⟨N,0,none⟩)/\n0<=N/\aH w N T V,fun _ _ _ ⟨N,e,hn,h⟩ hg=>⟨N,e,hn,h.grown hg (by simp)⟩⟩
def It.row (T:TypeId) (V:List Value) (n n0:Nat):It:=⟨fun v w=>∃N,v=.slice (some ⟨N,0,none⟩) n n/\n0<=N/\aH w N T V,fun _ _ _ ⟨N,e,hn,h⟩ hg=>⟨N,e,hn,h.grown hg (by simp)⟩⟩
def It.zN (S:Nat) (it:It):Prop:=∀v w w',it.p v w->w.grownBy w' (some S)->it.p v w'
theorem JU (S:Nat):It.any.zN S:=fun _ _ _ _ _=>trivial
theorem JV (S:Nat) (x:Value):(It.val x).zN S:=fun _ _ _ h _=>h
theorem Eb {S n0:Nat} (T:TypeId) (V:List Value) (h:S<n0):(It.fresh T V n0).zN S:=fun _ _ _ ⟨N,e,hn,hb⟩ hg=>⟨N,e,hn,hb.grown hg (fun e=>by have:=Option.some.inj e;omega)⟩
theorem JW {S:Nat} {L:List It} (hL:∀it∈L,it.zN S) {w w':World} (hg:w.grownBy w' (some S)) (d:Nat) (v:Value) (h:its L d v w):its L d v w':=by
 unfold its at *
 by_cases hd:d<L.length
 .rw[List.getD_eq_getElem?_getD,List.getElem?_eq_getElem hd]at *
  exact hL _ (List.getElem_mem hd) v w w' h hg
 .rw[List.getD_eq_getElem?_getD,List.getElem?_eq_none (by omega)]at *
  trivial
section
variable {P:Program} {ops:Array Oper} {Q:Exit->Act->World->Prop} {L:List It} {B:World->Prop} {a0:Act} {ps:List Nat}
structure JJ (k:Nat) (ps:List Nat) (L:List It) (B:World->Prop) (a0:Act) (ops:Array Oper) (o:Oper) (a:Act) (w:World):Prop where
 base:B w
 size:a.tmps.size=a0.tmps.size
 ptrs:bJ ps a w
 rest:∀d,fH ops k d=false->a.tmps.getD d undef=a0.tmps.getD d undef
 dep:∀d,waits ops o d=true->its L d (a.tmps.getD d undef) w
def abz (ps:List Nat) (L:List It) (B:World->Prop) (o:Oper) (a:Act) (w:World) (v:Value) (w':World):Prop:=
 B w'/\(∀d u,its L d u w->its L d u w')/\bJ ps (a.put o.dst v) w'/\∀d,o.dst=some d->its L d v w'
def vX (k:Nat) (ps:List Nat) (P:Program) (Q:Exit->Act->World->Prop) (L:List It) (B:World->Prop) (a0:Act) (ops:Array Oper) (i:Nat) (o:Oper):Prop:=
 ∀a w,JJ k ps L B a0 ops o a w->ops[i]?=some o->wpOp P ops Q i (fun a' w'=>∃v,a'=a.put o.dst v/\abz ps L B o a w v w') a w
theorem xD {d:Nat} (h:(ps.all fun s=>s !=d)=true):∀s∈ps,(some d:Option Tmp)≠some s:=fun s hs e=>by
 have:=(List.all_eq_true.1 h) s hs
 rw[Option.some.inj e]at this
 simp at this
theorem C8 {k i:Nat} {o:Oper} {d:Nat} (hd:o.dst=some d) (h:∀a w,JJ k ps L B a0 ops o a w->iH ops o a/\∃v w',(execOp a.eval o).run P w=.ok (.value v) w'/\B w'/\(∀d u,its L d u w->its L d u w')/\bJ ps (a.put (some d) v) w'/\its L d v w'):vX k ps P Q L B a0 ops i o:=by
 intro a w hF hi
 obtain⟨hw,v,w',hr,hB,JO,hP,hG⟩:=h a w hF
 unfold iH at hw
 unfold wpOp
 simp only[hi,hw,if_true]
 refine Or.inl ?_
 unfold Oper.wp
 rw[hr]
 exact⟨v,rfl,hB,JO,by rw[hd];exact hP,fun d' e=>by rw[hd]at e;cases e;exact hG⟩
theorem FL {k i:Nat} {o:Oper} {d:Nat} (hd:o.dst=some d)
  (h:∀a w,JJ k ps L B a0 ops o a w->iH ops o a/\∃f args,(execOp a.eval o).run P w=.ok (.enter f args) w/\Calls P f args w fun e w'=>∃v,e=.returned v/\B w'/\(∀d u,its L d u w->its L d u w')/\bJ ps (a.put (some d) v) w'/\its L d v w'):vX k ps P Q L B a0 ops i o:=by
 intro a w hF hi
 obtain⟨hw,f,args,hr,hc⟩:=h a w hF
 unfold iH at hw
 unfold wpOp
 simp only[hi,hw,if_true]
 refine Or.inl ?_
 unfold Oper.wp
 rw[hr]
 refine Calls.mono hc fun e w' he=>?_
 obtain⟨v,rfl,hB,JO,hP,hG⟩:=he
 exact⟨v,rfl,hB,JO,by rw[hd];exact hP,fun d' e=>by rw[hd]at e;cases e;exact hG⟩
theorem xE {k i:Nat} {o:Oper} {d:Nat} (vM:∀w w',B w->w.grownBy w' none->B w') (hd:o.dst=some d) (hps:(ps.all fun s=>s !=d)=true)
  (h:∀a w,JJ k ps L B a0 ops o a w->iH ops o a/\∃v w',(execOp a.eval o).run P w=.ok (.value v) w'/\w.grownBy w' none/\its L d v w'):vX k ps P Q L B a0 ops i o:=
 C8 hd fun a w hF=>by
  obtain⟨hw,v,w',hr,hg,hG⟩:=h a w hF
  exact⟨hw,v,w',hr,vM _ _ hF.base hg,fun d u=>nM hg d u,ql hF.ptrs hg.size (xD hps),hG⟩
theorem gF {k i:Nat} {o:Oper} {d:Nat} (vM:∀w w',B w->w.grownBy w' none->B w') (hd:o.dst=some d) (hlt:d<a0.tmps.size)
  (h:∀a w,JJ k ps L B a0 ops o a w->iH ops o a/\∃w',(execOp a.eval o).run P w=.ok (.value (.pointer (some ⟨w.heap.size,0,none⟩))) w'/\w.grownBy w' none/\w.heap.size<w'.heap.size/\its L d (.pointer (some ⟨w.heap.size,0,none⟩)) w'):vX k ps P Q L B a0 ops i o:=
 C8 hd fun a w hF=>by
  obtain⟨hw,w',hr,hg,hs,hG⟩:=h a w hF
  exact⟨hw,_,w',hr,vM _ _ hF.base hg,fun d u=>nM hg d u,FJ hF.ptrs hs (by rw[hF.size];exact hlt),hG⟩
theorem QG {k i:Nat} {o:Oper} {d:Nat} (vM:∀w w',B w->w.grownBy w' none->B w') (hd:o.dst=some d) (hps:(ps.all fun s=>s !=d)=true)
  (h:∀a w,JJ k ps L B a0 ops o a w->iH ops o a/\∃f args,(execOp a.eval o).run P w=.ok (.enter f args) w/\Calls P f args w fun e w'=>∃v,e=.returned v/\w.grownBy w' none/\its L d v w'):vX k ps P Q L B a0 ops i o:=
 FL hd fun a w hF=>by
  obtain⟨hw,f,args,hr,hc⟩:=h a w hF
  refine⟨hw,f,args,hr,hc.mono fun e w' he=>?_⟩
  obtain⟨v,rfl,hg,hG⟩:=he
  exact⟨v,rfl,vM _ _ hF.base hg,fun d u=>nM hg d u,ql hF.ptrs hg.size (xD hps),hG⟩
theorem dX {k i:Nat} {o:Oper} {d:Nat} (hd:o.dst=some d) (hps:(ps.all fun s=>s !=d)=true) (hG:∀w,its L d undef w)
  (h:∀a w,JJ k ps L B a0 ops o a w->Region.wanted o (yielded ops a.tmps)=false):vX k ps P Q L B a0 ops i o:=by
 intro a w hF hi
 have hw:=h a w hF
 unfold wpOp
 simp only[hi,hw]
 exact⟨undef,rfl,hF.base,fun _ _ h=>h,ql hF.ptrs (Nat.le_refl _) (fun s hs e=>xD hps s hs (hd▸e)),fun d' e=>by rw[hd]at e;cases e;exact hG w⟩
structure X7 (ps:List Nat) (L:List It) (B:World->Prop) (a0:Act) (ops:Array Oper) (k:Nat) (listed:Array Bool) (a:Act) (w:World):Prop where
 base:B w
 size:a.tmps.size=a0.tmps.size
 defers:a.defers=a0.defers
 rest:∀d,fH ops k d=false->a.tmps.getD d undef=a0.tmps.getD d undef
 slots:∀j oj d,ops[j]?=some oj->listed.getD j false=true->oj.dst=some d->its L d (a.tmps.getD d undef) w
 closed:∀j oj,ops[j]?=some oj->listed.getD j false=true->∀e∈oj.after,Region.binds .any e=true->listed.getD e.on false=true
 QH:∀j,k<=j->listed.getD j false=false
 ptrs:bJ ps a w
def mU (k:Nat) (ps:List Nat) (P:Program) (Q:Exit->Act->World->Prop) (L:List It) (B:World->Prop) (a0:Act) (ops:Array Oper):Nat->List Oper->Prop
 | _,[]=>True
 | i,o:: r=>((∃d,o.dst=some d)/\vX k ps P Q L B a0 ops i o)/\mU k ps P Q L B a0 ops (i+1) r
theorem zO {k:Nat}:∀(l:List Oper) (i j:Nat) (o:Oper),mU k ps P Q L B a0 ops i l->l[j]?=some o->(∃d,o.dst=some d)/\vX k ps P Q L B a0 ops (i+j) o:=by
 intro l
 induction l with
 | nil=>intro i j o h hk;simp at hk
 | cons x r ih=>
  intro i j o h hk
  cases j with
  | zero=>simp at hk;subst hk;exact h.1
  | succ j=>have:=ih (i+1) j o h.2 (by simpa using hk);rwa [show i+(j+1)=i+1+j by omega]
theorem inn {j:Nat} {oj:Oper} (hj:ops[j]?=some oj):j<ops.size:=by
 rcases Nat.lt_or_ge j ops.size with h'|h'
 .exact h'
 .rw[Array.getElem?_eq_none h']at hj;cases hj
theorem FM {k t:Nat} {listed:Array Bool} (htl:xC ops k=true) (ht:k<=t) (hr:t∈Region.ready .any ops listed)
  (closed:∀j oj,ops[j]?=some oj->listed.getD j false=true->∀e∈oj.after,Region.binds .any e=true->listed.getD e.on false=true):∀j,j<t->listed.getD j false=true:=by
 obtain⟨_,o,hoi,hall⟩:=mem_ready.1 hr
 have h1:=(List.all_eq_true.1 htl) t (List.mem_range.2 (inn hoi))
 simp only[Bool.or_eq_true,decide_eq_true_eq,Nat.not_lt.2 ht,false_or]at h1
 have go:∀n j,j<t->t-j<=n->listed.getD j false=true:=by
  intro n
  induction n with
  | zero=>intro j hj hn;omega
  | succ n ihn=>
   intro j hj hn
   have h2:=(List.all_eq_true.1 h1) j (List.mem_range.2 hj)
   obtain⟨m,hm,h3⟩:=List.any_eq_true.1 h2
   simp only[Bool.and_eq_true,decide_eq_true_eq]at h3
   have hm':=List.mem_range.1 hm
   obtain⟨hjm,h3⟩:=h3
   cases hg:ops[m]? with
   | none=>rw[hg]at h3;cases h3
   | some om=>
    rw[hg]at h3
    simp only[Option.map_some,Option.getD_some]at h3
    obtain⟨q,hq,hb⟩:=Array.any_eq_true.1 h3
    simp only[Bool.and_eq_true,beq_iff_eq]at hb
    by_cases hmt:m=t
    .subst hmt
     rw[hg]at hoi
     cases hoi
     have:=hall _ (Array.getElem_mem hq) hb.1
     rwa [hb.2]at this
    .have:=closed m _ hg (ihn m (by omega) (by omega)) _ (Array.getElem_mem hq) hb.1
     rwa [hb.2]at this
 exact fun j hj=>go _ j hj (Nat.le_refl _)
theorem Ec {k:Nat} {o:Oper} {r:List Oper} {a:Act} {w:World} (hk:ops[k]?=some o) (h:wpList P ops Q (o:: r) a w):wpOp P ops Q k (wpList P ops Q r) a w:=by
 unfold wpOp
 simp only[hk]
 exact h
theorem QI {k0:Nat} (ht:vP ops=true) (htl:xC ops k0=true):∀(m k fuel:Nat) (listed:Array Bool) (a:Act) (w:World),k0<=k->ops.size=k+m->m<=fuel->listed.size=ops.size->
  (∀j,j<k->listed.getD j false=true)->(∀j,k<=j->listed.getD j false=false)->wpList P ops Q (ops.toList.drop k) a w->wpAny P .any ops Q fuel listed a w:=by
 intro m
 induction m with
 | zero=>
  intro k fuel listed a w hk hs hf hls hall hnot h
  have hd:ops.toList.drop k=[]:=List.drop_eq_nil_of_le (by simp;omega)
  rw[hd]at h
  have hr:Region.ready .any ops listed=[]:=by
   cases hc:Region.ready .any ops listed with
   | nil=>rfl
   | cons x r=>
    obtain⟨h0,o,hoi,_⟩:=mem_ready.1 (show x∈Region.ready .any ops listed by rw[hc];exact List.mem_cons_self ..)
    have hx:=hall x (by have:=inn hoi;omega)
    have hlt:x<listed.size:=by rw[hls];exact inn hoi
    simp[hlt]at h0 hx
    rw[h0]at hx
    cases hx
  cases fuel with
  | zero=>exact⟨hr,h⟩
  | succ f=>exact⟨fun _=>h,fun i hi=>by rw[hr]at hi;cases hi⟩
 | succ m ih=>
  intro k fuel listed a w hk hs hf hls hall hnot h
  obtain⟨f,rfl⟩:∃f,fuel=f+1:=⟨fuel-1,by omega⟩
  have hks:k<ops.size:=by omega
  have closed:∀j oj,ops[j]?=some oj->listed.getD j false=true->∀e∈oj.after,Region.binds .any e=true->listed.getD e.on false=true:=by
   intro j oj hj hl e he hb
   have ht1:=(List.all_eq_true.1 ht) j (List.mem_range.2 (inn hj))
   rw[hj]at ht1
   simp only[Option.map_some,Option.getD_some]at ht1
   have ht2:=(Array.all_eq_true_iff_forall_mem.1 ht1) _ he
   simp only[hb,Bool.not_true,Bool.false_or,decide_eq_true_eq]at ht2
   have hjk:j<k:=by
    rcases Nat.lt_or_ge j k with h'|h'
    .exact h'
    .rw[hnot j h']at hl;cases hl
   exact hall _ (by omega)
  refine⟨fun hr=>?_,fun i hi=>?_⟩
  .have:=lJ ht hls hr k hks
   rw[hnot k (Nat.le_refl _)]at this
   cases this
  .obtain⟨h0,o,hoi,_⟩:=mem_ready.1 hi
   have hik:i=k:=by
    rcases Nat.lt_trichotomy i k with h'|h'|h'
    .have hx:=hall i h'
     have hlt:i<listed.size:=by rw[hls];exact inn hoi
     simp[hlt]at h0 hx
     rw[h0]at hx
     cases hx
    .exact h'
    .have:=FM htl (by omega) hi closed k h'
     rw[hnot k (Nat.le_refl _)]at this
     cases this
   subst hik
   have hd:ops.toList.drop i=o:: ops.toList.drop (i+1):=by
    rw[List.drop_eq_getElem_cons (by simpa using hks)]
    congr 1
    rw[Array.getElem?_eq_getElem hks]at hoi
    simpa using Option.some.inj hoi
   rw[hd]at h
   refine wpOp_mono (fun a' w' h'=>?_) (Ec hoi h)
   refine ih (i+1) f _ a' w' (by omega) (by omega) (by omega) (by simpa using hls) (fun j hj=>?_) (fun j hj=>?_) h'
   .by_cases e:i=j
    .subst e
     have hlt:i<listed.size:=by rw[hls];exact hks
     simp[hlt]
    .rw[getD_set_ne false e];exact hall j (by omega)
   .rw[getD_set_ne false (by omega)];exact hnot j (by omega)
theorem NP {k:Nat} (ht:vP ops=true) (ho:once (ops.extract 0 k) a0.tmps.size=true) (htl:xC ops k=true) (hk:k<=ops.size)
  (steps:mU k ps P Q L B a0 ops 0 (ops.toList.take k))
  (fin:∀a w,B w->a.tmps.size=a0.tmps.size->a.defers=a0.defers->(∀d,fH ops k d=false->a.tmps.getD d undef=a0.tmps.getD d undef)->
   (∀d,fH ops k d=true->its L d (a.tmps.getD d undef) w)->bJ ps a w->wpList P ops Q (ops.toList.drop k) a w):
  ∀(fuel:Nat) (listed:Array Bool) (a:Act) (w:World),listed.size=ops.size->jq ops listed<=fuel->X7 ps L B a0 ops k listed a w->wpAny P .any ops Q fuel listed a w:=by
 have QJ:∀(fuel:Nat) (listed:Array Bool) (a:Act) (w:World),listed.size=ops.size->ops.size-k<=fuel->X7 ps L B a0 ops k listed a w->(∀j,j<k->listed.getD j false=true)->wpAny P .any ops Q fuel listed a w:=by
  intro fuel listed a w hs hf hF hall
  refine QI ht htl (ops.size-k) k fuel listed a w (Nat.le_refl _) (by omega) hf hs hall hF.QH (fin a w hF.base hF.size hF.defers hF.rest (fun d hd=>?_) hF.ptrs)
  obtain⟨j,hj,hb⟩:=List.any_eq_true.1 hd
  have hjk:=List.mem_range.1 hj
  have hg:ops[j]?=some ops[j]:=Array.getElem?_eq_getElem (by omega)
  rw[hg]at hb
  exact hF.slots j _ d hg (hall j hjk) (by simpa using hb)
 have hcount:∀(listed:Array Bool),(∀j,k<=j->listed.getD j false=false)->listed.size=ops.size->ops.size-k<=jq ops listed:=by
  intro listed hn hs
  unfold jq
  have hsub:(List.range' k (ops.size-k)).length<=((List.range ops.size).filter fun i=>!listed.getD i true).length:=by
   have hp:List.Sublist (List.range' k (ops.size-k)) ((List.range ops.size).filter fun i=>!listed.getD i true):=by
    have h1:List.Sublist (List.range' k (ops.size-k)) (List.range ops.size):=by
     have e:List.range ops.size=List.range' 0 k++List.range' k (ops.size-k):=by
      rw[List.range_eq_range',show ops.size=k+(ops.size-k) by omega,<- List.range'_append_1]
      simp
     rw[e]
     exact List.sublist_append_right _ _
    have h2:=h1.filter fun i=>!listed.getD i true
    have h3:(List.range' k (ops.size-k)).filter (fun i=>!listed.getD i true)=List.range' k (ops.size-k):=by
     rw[List.filter_eq_self]
     intro x hx
     have hx':=List.mem_range'_1.1 hx
     have:=hn x hx'.1
     have hlt:x<listed.size:=by omega
     simp[hlt]at this ⊢
     exact this
    rwa [h3]at h2
   exact hp.length_le
  simpa using hsub
 intro fuel
 induction fuel with
 | zero=>
  intro listed a w hs hu hF
  have hc:=hcount listed hF.QH hs
  refine QJ 0 listed a w hs (by omega) hF (fun j hj=>?_)
  have hr:Region.ready .any ops listed=[]:=by
   cases hc:Region.ready .any ops listed with
   | nil=>rfl
   | cons x r=>
    have:=jh (ops:=ops) (listed:=listed) (i:=x) (by rw[hc];exact List.mem_cons_self ..)
    omega
  exact lJ ht hs hr j (by omega)
 | succ fuel ih=>
  intro listed a w hs hu hF
  by_cases hdone:∀j,j<k->listed.getD j false=true
  .have hc:=hcount listed hF.QH hs
   exact QJ (fuel+1) listed a w hs (by omega) hF hdone
  refine⟨fun hr=>?_,fun i hi=>?_⟩
  .exact absurd (fun j hj=>lJ ht hs hr j (by omega)) hdone
  obtain⟨h0,o,hoi,hall⟩:=mem_ready.1 hi
  have hik:i<k:=by
   rcases Nat.lt_or_ge i k with h'|h'
   .exact h'
   .exact absurd (fun j hj=>FM htl h' hi hF.closed j (by omega)) hdone
  have hst:=zO (ops.toList.take k) 0 i o steps (by rw[List.getElem?_take_of_lt hik,Array.getElem?_toList];exact hoi)
  rw[Nat.zero_add]at hst
  obtain⟨⟨d,hd⟩,hst⟩:=hst
  have hex:∀j,j<k->(ops.extract 0 k)[j]?=ops[j]?:=fun j hj=>by
   rw[Array.getElem?_extract_of_lt (by omega)];simp
  have hat:JJ k ps L B a0 ops o a w:=⟨hF.base,hF.size,hF.ptrs,hF.rest,fun d hd=>by
    obtain⟨k,hk,hb⟩:=Array.any_eq_true.1 hd
    simp only[Bool.and_eq_true,beq_iff_eq]at hb
    have hl:=hall _ (Array.getElem_mem hk) hb.1
    cases hx:ops[o.after[k].on]? with
    | none=>rw[hx]at hb;cases hb.2
    | some oj=>rw[hx]at hb;exact hF.slots _ oj d hx hl hb.2⟩
  refine wpOp_mono (fun a' w' h=>?_) (hst a w hat hoi)
  obtain⟨v,rfl,hB,JO,hPt,hG⟩:=h
  have hlt:=jh hi
  refine ih _ _ _ (by simpa using hs) (by omega) ⟨hB,?_,?_,?_,?_,?_,?_,hPt⟩
  .rw[<- hF.size];cases o.dst<;>simp[Act.put]
  .rw[<- hF.defers];cases o.dst<;>simp[Act.put]
  .intro d hd
   rw[<- hF.rest d hd]
   have hne:o.dst≠some d:=by
    intro e
    have:fH ops k d=true:=List.any_eq_true.2 ⟨i,List.mem_range.2 hik,by rw[hoi];simpa using e⟩
    rw[hd]at this
    cases this
   exact nU hne
  .intro j oj d hj hl hd
   have hjk:j<k\/j=i:=by
    by_cases e:i=j
    .exact Or.inr e.symm
    .rw[getD_set_ne false e]at hl
     rcases Nat.lt_or_ge j k with h'|h'
     .exact Or.inl h'
     .rw[hF.QH j h']at hl;cases hl
   by_cases e:i=j
   .subst e
    rw[hoi]at hj
    cases hj
    have hd2:=vR ho ((hex i hik).trans hoi) hd
    rw[<- hF.size]at hd2
    have hG:=hG _ hd
    rw[hd]
    simpa[Act.put,hd2] using hG
   .rw[getD_set_ne false e]at hl
    have h1:=hF.slots j oj d hj hl hd
    have hv:(a.put o.dst v).tmps.getD d undef=a.tmps.getD d undef:=by
     cases hod:o.dst with
     | none=>rfl
     | some d'=>
      have:=qH ho ((hex i hik).trans hoi) ((hex j (by omega)).trans hj) e hod
      rw[hd]at this
      simp[Act.put,Array.getElem?_setIfInBounds_ne (show d'≠d from fun e=>this (by rw[e]))]
    rw[hv]
    exact JO d _ h1
  .intro j oj hj hl e he hb
   by_cases ei:i=j
   .subst ei
    rw[hoi]at hj
    cases hj
    exact getD_set_true (hall e he hb)
   .rw[getD_set_ne false ei]at hl
    exact getD_set_true (hF.closed j oj hj hl e he hb)
  .intro j hj
   rw[getD_set_ne false (by omega)];exact hF.QH j hj
theorem jM {id:Nat} {w:World} (L:List It) (B:World->Prop) (k:Nat) (hB0:B w.drew) (hm:P.follows .mixedOrders=true) (ht:vP ops=true) (ho:once (ops.extract 0 k) a0.tmps.size=true) (htl:xC ops k=true) (hk:k<=ops.size) (hps:bJ ps a0 w.drew)
  (steps:mU k ps P Q L B a0 ops 0 (ops.toList.take k))
  (fin:∀a w',B w'->a.tmps.size=a0.tmps.size->a.defers=a0.defers->(∀d,fH ops k d=false->a.tmps.getD d undef=a0.tmps.getD d undef)->
   (∀d,fH ops k d=true->its L d (a.tmps.getD d undef) w')->bJ ps a w'->wpList P ops Q (ops.toList.drop k) a w'):(Code.region id ops true).wp P Q a0 w:=
 wp_region_any hm (NP ht ho htl hk steps fin ops.size _ a0 _ (by simp) (by unfold jq;exact Nat.le_trans (List.length_filter_le _ _) (by simp))
  ⟨hB0,rfl,rfl,fun _ _=>rfl,fun j oj d _ hl _=>by
   by_cases h:j<ops.size<;>simp[h]at hl,fun j oj _ hl=>by
   by_cases h:j<ops.size<;>simp[h]at hl,fun j _=>by
   by_cases h:j<ops.size<;>simp[h],hps⟩)
theorem Ee {k:Nat} {o:Oper} {r:List Oper} {a:Act} {w:World} (hk:ops[k]?=some o) (h:wpOp P ops Q k (wpList P ops Q r) a w):wpList P ops Q (o:: r) a w:=by
 unfold wpOp at h
 simp only[hk]at h
 exact h
theorem iK {id:Nat} {w:World} (L:List It) (B:World->Prop) (k:Nat) (hB0:B w) (ht:vP ops=true) (ho:once (ops.extract 0 k) a0.tmps.size=true) (hk:k<=ops.size) (hps:bJ ps a0 w)
  (steps:mU k ps P Q L B a0 ops 0 (ops.toList.take k))
  (fin:∀a w',B w'->a.tmps.size=a0.tmps.size->a.defers=a0.defers->(∀d,fH ops k d=false->a.tmps.getD d undef=a0.tmps.getD d undef)->
   (∀d,fH ops k d=true->its L d (a.tmps.getD d undef) w')->bJ ps a w'->wpList P ops Q (ops.toList.drop k) a w'):(Code.region id ops false).wp P Q a0 w:=by
 refine wp_region_list ?_
 have go:∀(m i:Nat) (a:Act) (w':World),i+m=k->B w'->a.tmps.size=a0.tmps.size->a.defers=a0.defers->(∀d,fH ops k d=false->a.tmps.getD d undef=a0.tmps.getD d undef)->
   (∀j oj d,j<i->ops[j]?=some oj->oj.dst=some d->its L d (a.tmps.getD d undef) w')->bJ ps a w'->wpList P ops Q (ops.toList.drop i) a w':=by
  intro m
  induction m with
  | zero=>
   intro i a w' hi hg hs hdf hr hsl hpt
   have hi':i=k:=by omega
   subst hi'
   refine fin a w' hg hs hdf hr (fun d hd=>?_) hpt
   obtain⟨j,hj,hb⟩:=List.any_eq_true.1 hd
   have hjk:=List.mem_range.1 hj
   have hgj:ops[j]?=some ops[j]:=Array.getElem?_eq_getElem (by omega)
   rw[hgj]at hb
   exact hsl j _ d hjk hgj (by simpa using hb)
  | succ m ih=>
   intro i a w' hi hg hs hdf hr hsl hpt
   have hik:i<k:=by omega
   have hil:i<ops.size:=by omega
   have hoi:ops[i]?=some ops[i]:=Array.getElem?_eq_getElem hil
   have hst:=zO (ops.toList.take k) 0 i ops[i] steps (by rw[List.getElem?_take_of_lt hik,Array.getElem?_toList];exact hoi)
   rw[Nat.zero_add]at hst
   obtain⟨⟨d,hd⟩,hst⟩:=hst
   have hex:∀j,j<k->(ops.extract 0 k)[j]?=ops[j]?:=fun j hj=>by
    rw[Array.getElem?_extract_of_lt (by omega)];simp
   have hat:JJ k ps L B a0 ops ops[i] a w':=⟨hg,hs,hpt,hr,fun d hd=>by
     obtain⟨q,hq,hb⟩:=Array.any_eq_true.1 hd
     simp only[Bool.and_eq_true,beq_iff_eq]at hb
     have ht1:=(List.all_eq_true.1 ht) i (List.mem_range.2 hil)
     rw[hoi]at ht1
     simp only[Option.map_some,Option.getD_some]at ht1
     have ht2:=(Array.all_eq_true_iff_forall_mem.1 ht1) _ (Array.getElem_mem hq)
     simp only[hb.1,Bool.not_true,Bool.false_or,decide_eq_true_eq]at ht2
     cases hx:ops[ops[i].after[q].on]? with
     | none=>rw[hx]at hb;cases hb.2
     | some oj=>rw[hx]at hb;exact hsl _ oj d ht2 hx hb.2⟩
   have hdr:ops.toList.drop i=ops[i]:: ops.toList.drop (i+1):=by
    rw[List.drop_eq_getElem_cons (by simpa using hil)]
    simp
   rw[hdr]
   refine Ee hoi (wpOp_mono (fun a' w'' h=>?_) (hst a w' hat hoi))
   obtain⟨v,rfl,hB,JO,hPt,hG⟩:=h
   refine ih (i+1) _ _ (by omega) hB ?_ ?_ ?_ ?_ hPt
   .rw[<- hs];cases ops[i].dst<;>simp[Act.put]
   .rw[<- hdf];cases ops[i].dst<;>simp[Act.put]
   .intro d hd
    rw[<- hr d hd]
    have hne:ops[i].dst≠some d:=by
     intro e
     have:fH ops k d=true:=List.any_eq_true.2 ⟨i,List.mem_range.2 hik,by rw[hoi];simpa using e⟩
     rw[hd]at this
     cases this
    exact nU hne
   .intro j oj d' hj hgj hd'
    by_cases e:i=j
    .subst e
     rw[hoi]at hgj
     cases hgj
     have hd2:=vR ho ((hex i hik).trans hoi) hd'
     rw[<- hs]at hd2
     have hG:=hG _ hd'
     rw[hd']
     simpa[Act.put,hd2] using hG
    .have h1:=hsl j oj d' (by omega) hgj hd'
     have hv:(a.put ops[i].dst v).tmps.getD d' undef=a.tmps.getD d' undef:=by
      cases hod:ops[i].dst with
      | none=>rfl
      | some d''=>
       have:=qH ho ((hex i hik).trans hoi) ((hex j (by omega)).trans hgj) e hod
       rw[hd']at this
       simp[Act.put,Array.getElem?_setIfInBounds_ne (show d''≠d' from fun e=>this (by rw[e]))]
     rw[hv]
     exact JO d' _ h1
 have:=go k 0 a0 w (by omega) hB0 rfl rfl (fun _ _=>rfl) (fun j _ _ hj=>by omega) hps
 simpa using this
theorem nW {a:Act} {w:World} (h:(ps.all fun s=>match a.tmps.getD s undef with | .pointer _=>false|_=>true)=true):bJ ps a w:=fun s hs C e=>by
 have:=(List.all_eq_true.1 h) s hs
 rw[e]at this
 cases this
def jN (l:List Value) (w:World):Prop:=∀(i C:Nat),l[i]?=some (.pointer (some ⟨C,0,none⟩))->C<w.heap.size/\∀(j:Nat),j≠i->l[j]?≠some (.pointer (some ⟨C,0,none⟩))
theorem qM {a:Act} {w:World} {l:List Value} (hl:l=ps.map fun s=>a.tmps.getD s undef) (h:jN l w):bJ ps a w:=by
 subst hl
 intro s hs C e
 obtain⟨i,hi,rfl⟩:=List.mem_iff_getElem.1 hs
 have hg:(ps.map fun s=>a.tmps.getD s undef)[i]?=some (.pointer (some ⟨C,0,none⟩)):=by
  rw[List.getElem?_map,List.getElem?_eq_getElem hi,Option.map_some,e]
 refine⟨(h i C hg).1,fun t ht hne e2=>?_⟩
 obtain⟨j,hj,rfl⟩:=List.mem_iff_getElem.1 ht
 refine (h i C hg).2 j (fun e3=>hne (by subst e3;rfl)) ?_
 rw[List.getElem?_map,List.getElem?_eq_getElem hj,Option.map_some,e2]
theorem jO (l:List Value) (w:World) (h:(l.all fun v=>match v with | .pointer _=>false|_=>true)=true):jN l w:=fun i C e=>by
 have:=(List.all_eq_true.1 h) _ (List.mem_of_getElem? e)
 cases this
theorem nN {N:Nat} {w:World} (h:N<w.heap.size):jN [.pointer (some ⟨N,0,none⟩)] w:=fun i C e=>by
 match i,e with
 | 0,e=>
  cases e
  refine⟨h,fun j hj=>?_⟩
  match j,hj with
  | j+1,_=>simp
theorem FN {A B C:Nat} {w:World} (a:A<w.heap.size) (b:B<w.heap.size) (c:C<w.heap.size) (ab:A≠B) (ac:A≠C) (bc:B≠C):jN [.pointer (some ⟨A,0,none⟩),.pointer (some ⟨B,0,none⟩),.pointer (some ⟨C,0,none⟩)] w:=fun i X e=>by
 match i,e with
 | 0,e=>
  cases e
  refine⟨a,fun j hj=>?_⟩
  match j,hj with
  | 1,_=>simp<;>omega
  | 2,_=>simp<;>omega
  | j+3,_=>simp
 | 1,e=>
  cases e
  refine⟨b,fun j hj=>?_⟩
  match j,hj with
  | 0,_=>simp<;>omega
  | 2,_=>simp<;>omega
  | j+3,_=>simp
 | 2,e=>
  cases e
  refine⟨c,fun j hj=>?_⟩
  match j,hj with
  | 0,_=>simp<;>omega
  | 1,_=>simp<;>omega
  | j+3,_=>simp
theorem jN.mono {l:List Value} {w w':World} (h:jN l w) (hs:w.heap.size<=w'.heap.size):jN l w':=fun i C e=>⟨Nat.lt_of_lt_of_le (h i C e).1 hs,(h i C e).2⟩
theorem zP {l:List Value} {w:World} (h:jN l w):jN l w.drew:=h
theorem aL {o:Oper} {r:List Oper} {a:Act} {w w':World} {v:Value} (hg:o.guard=none) (hr:(execOp a.eval o).run P w=.ok (.value v) w') (h:wpList P ops Q r (a.put o.dst v) w'):wpList P ops Q (o:: r) a w:=by
 refine wpList_plain hg fun K hK=>?_
 unfold Oper.wp
 rw[hr]
 exact hK _ _ h
theorem aV {o:Oper} {r:List Oper} {a:Act} {w w':World} (hg:o.guard=none) (hd:o.dst=none) (hr:(execOp a.eval o).run P w=.ok .skip w') (h:wpList P ops Q r a w'):wpList P ops Q (o:: r) a w:=by
 refine wpList_plain hg fun K hK=>?_
 unfold Oper.wp
 rw[hr]
 have e:a.put o.dst undef=a:=by rw[hd];rfl
 show K (a.put o.dst undef) w'
 rw[e]
 exact hK _ _ h
theorem bP {o:Oper} {r:List Oper} {a:Act} {w:World} {f:FuncId} {args:Array Value} (hg:o.guard=none) (hr:(execOp a.eval o).run P w=.ok (.enter f args) w)
  (hc:Calls P f args w fun e w'=>∃v,e=.returned v/\wpList P ops Q r (a.put o.dst v) w'):wpList P ops Q (o:: r) a w:=by
 refine wpList_plain hg fun K hK=>?_
 unfold Oper.wp
 rw[hr]
 refine Calls.mono hc fun e w' he=>?_
 obtain⟨v,rfl,h⟩:=he
 exact hK _ _ h
theorem run_load {ρ:Operand->Value} {o:Oper} {w:World} {T:TypeId} {x:Operand} {b off:Nat} {cs:List Value} {d:TypeDesc} (ho:o.op=.load T x) (hx:ρ x=.pointer (some ⟨b,off,none⟩)) (hc:w.rangeAt b off cs)
  (hu:P.underlying T=some d) (hd:d.isRow=true) (hi:(P.info? T).map (·.size)=some cs.length):(execOp ρ o).run P w=.ok (.value (.agg cs.toArray)) w:=by
 unfold execOp
 simp only[ho,hx,Instr.loadAt,Instr.sureAddr,Sem.run_bind,Sem.run_pure,Result.andThen_ok,run_loadVar_mid w b off T cs d hc hu hd hi]
theorem run_store {ρ:Operand->Value} {o:Oper} {w:World} {T:TypeId} {x y:Operand} {b off:Nat} {cs:List Value} (ho:o.op=.store T x y) (hx:ρ x=.pointer (some ⟨b,off,none⟩)) (hy:ρ y=.agg cs.toArray)
  (ht:w.there b off cs.length) (hi:(P.info? T).map (·.size)=some cs.length) (h1:cs.all (·.oneCell')=true):(execOp ρ o).run P w=.ok .skip (w.setCells b off cs):=by
 unfold execOp
 simp only[ho,hx,hy,Instr.storeAt,Instr.sureAddr,Sem.run_bind,Sem.run_pure,Result.andThen_ok,run_storeVar_mid w b off T cs.toArray (by simpa using ht) (by simpa using hi) (by simpa using h1)]
theorem run_move {ρ:Operand->Value} {o:Oper} {w:World} {x:Operand} {v:Value} (ho:o.op=.move x) (hx:ρ x=v):(execOp ρ o).run P w=.ok (.value v) w:=by
 unfold execOp
 simp only[ho,hx,Sem.run_pure]
theorem run_assign {ρ:Operand->Value} {o:Oper} {w:World} {x:Operand} {v:Value} (ho:o.op=.assign x) (hx:ρ x=v):(execOp ρ o).run P w=.ok (.value v) w:=by
 unfold execOp
 simp only[ho,hx,Sem.run_pure]
theorem bU {ρ:Operand->Value} {o:Oper} {w:World} {x:Operand} {p:Addr} (ho:o.op=.nilCheck x) (hx:ρ x=.pointer (some p)):(execOp ρ o).run P w=.ok (.value (.pointer (some p))) w:=by
 unfold execOp
 simp only[ho,hx,Sem.run_pure]
theorem aF {ρ:Operand->Value} {o:Oper} {w:World} {t:TypeId} {f:Nat} {x:Operand} {u v:Value} (ho:o.op=.fieldAddr t x f) (hx:ρ x=u) (hr:(Instr.fieldAt t u f).run P w=.ok v w):(execOp ρ o).run P w=.ok (.value v) w:=by
 unfold execOp
 simp only[ho,hx,Sem.run_bind,Sem.run_pure,Result.andThen_ok,hr]
theorem xG {ρ:Operand->Value} {o:Oper} {w:World} {t:TypeId} {f:Nat} {x:Operand} {u v:Value} (ho:o.op=.field t x f) (hx:ρ x=u) (hr:(Instr.field t u f).run P w=.ok v w):(execOp ρ o).run P w=.ok (.value v) w:=by
 unfold execOp
 simp only[ho,hx,Sem.run_bind,Sem.run_pure,Result.andThen_ok,hr]
theorem run_build {ρ:Operand->Value} {o:Oper} {w:World} {t:TypeId} {parts:Array (Nat×Operand)} {vs:Array (Nat×Value)} {v:Value} (ho:o.op=.build t parts) (hx:(parts.map fun (i,x)=>(i,ρ x))=vs) (hr:(Instr.build t vs).run P w=.ok v w):(execOp ρ o).run P w=.ok (.value v) w:=by
 unfold execOp
 simp only[ho,hx,Sem.run_bind,Sem.run_pure,Result.andThen_ok,hr]
theorem run_buildSlice {ρ:Operand->Value} {o:Oper} {w w':World} {t:TypeId} {len:Nat} {parts:Array (Nat×Operand)} {vs:Array (Nat×Value)} {v:Value} (ho:o.op=.buildSlice t len parts) (hx:(parts.map fun (i,x)=>(i,ρ x))=vs) (hr:(Instr.buildSlice t len vs).run P w=.ok v w'):(execOp ρ o).run P w=.ok (.value v) w':=by
 unfold execOp
 simp only[ho,hx,Sem.run_bind,Sem.run_pure,Result.andThen_ok,hr]
theorem bW {ρ:Operand->Value} {o:Oper} {w:World} {i:Nat} {x:Operand} {u v:Value} (ho:o.op=.extract x i) (hx:ρ x=u) (hr:(Instr.extract u i).run P w=.ok v w):(execOp ρ o).run P w=.ok (.value v) w:=by
 unfold execOp
 simp only[ho,hx,Sem.run_bind,Sem.run_pure,Result.andThen_ok,hr]
theorem aI {w:World} {f:FuncId} {fn:Func} {vs:Array Value} (hf:P.funcs[f]?=some fn) (hn:(fn.name== "runtime.NumGoroutine")=false) (hb:fn.body.isNone=false):(callFunc f vs).run P w=.ok (.enter f vs) w:=by
 have hn':¬fn.name= "runtime.NumGoroutine":=by simpa using hn
 have hb':¬fn.body=none:=by rintro e;rw[e]at hb;cases hb
 simp[callFunc,hf,hn',hb']
theorem aN {ρ:Operand->Value} {o:Oper} {w:World} {x:Operand} {f:FuncId} {args:Array Operand} {tys:Array TypeId} {vs:Array Value} (ho:o.op=.call {callee:=.value x,args:=args,argTypes:=tys}) (hf:ρ x=.func (.func f) #[] #[]) (hv:args.map ρ=vs)
  (hc:(callFunc f vs).run P w=.ok (.enter f vs) w):(execOp ρ o).run P w=.ok (.enter f vs) w:=by
 unfold execOp
 simp only[ho]
 unfold resolve
 simp only[hv,hf]
 go_simp
end
def It.room (T:TypeId) (n n0:Nat):It:=⟨fun v w=>∃N,v=.pointer (some ⟨N,0,none⟩)/\n0<=N/\∃V:List Value,V.length=n/\aH w N T V,fun _ _ _ ⟨N,e,hn,V,hl,h⟩ hg=>⟨N,e,hn,V,hl,h.grown hg (by simp)⟩⟩
def It.Over (it:It):Prop:=∀v w (N:Nat) (T:TypeId) (V cs:List Value),aH w N T V->V.length=cs.length->it.p v w->it.p v (w.setCells N 0 cs)
def vY (T:TypeId) (cs:List Value) (_:Nat) (u:Value) (w:World):Prop:=∃N,u=.pointer (some ⟨N,0,none⟩)/\aH w N T cs
section
variable {P:Program} {ops:Array Oper} {Q:Exit->Act->World->Prop} {L:List It} {W:World} {a0:Act} {ps:List Nat} {p:Nat} {T:TypeId} {cs:List Value}
abbrev AtM (W:World) (ps:List Nat) (p:Nat) (T:TypeId) (cs:List Value) (L:List It) (a0:Act) (ops:Array Oper) (o:Oper) (a:Act) (w:World):Prop:=lX (its L) (fun _=>p) (vY T cs) (fun w=>W.grownBy w none) ps a0 ops o a w
abbrev L6 (W:World) (ps:List Nat) (p:Nat) (T:TypeId) (cs:List Value) (P:Program) (Q:Exit->Act->World->Prop) (L:List It) (a0:Act) (ops:Array Oper) (i:Nat) (o:Oper):Prop:=nK P Q (its L) (fun _=>p) (vY T cs) (fun w=>W.grownBy w none) ps a0 ops i o
theorem pU {w w':World} (hg:w.grownBy w' none) (j:Nat) (u:Value) (h:vY T cs j u w):vY T cs j u w':=by
 obtain⟨N,e,hb⟩:=h
 exact⟨N,e,hb.grown hg (by simp)⟩
theorem uT {i:Nat} {o:Oper} {d:Nat} (hd:o.dst=some d) (hps:(ps.all fun s=>s !=d)=true)
  (h:∀a w,AtM W ps p T cs L a0 ops o a w->iH ops o a/\∃v w',(execOp a.eval o).run P w=.ok (.value v) w'/\w.grownBy w' none/\its L d v w'):L6 W ps p T cs P Q L a0 ops i o:=
 yA hd fun a w hF=>by
  obtain⟨hw,v,w',hr,hg,hG⟩:=h a w hF
  exact⟨hw,v,w',hr,aj hF.base hg,fun d u=>nM hg d u,fun j u=>pU hg j u,ql hF.ptrs hg.size (xD hps),hG⟩
theorem YR {i:Nat} {o:Oper} {d:Nat} (hd:o.dst=some d) (hlt:d<a0.tmps.size)
  (h:∀a w,AtM W ps p T cs L a0 ops o a w->iH ops o a/\∃w',(execOp a.eval o).run P w=.ok (.value (.pointer (some ⟨w.heap.size,0,none⟩))) w'/\w.grownBy w' none/\w.heap.size<w'.heap.size/\its L d (.pointer (some ⟨w.heap.size,0,none⟩)) w'):L6 W ps p T cs P Q L a0 ops i o:=
 yA hd fun a w hF=>by
  obtain⟨hw,w',hr,hg,hs,hG⟩:=h a w hF
  exact⟨hw,_,w',hr,aj hF.base hg,fun d u=>nM hg d u,fun j u=>pU hg j u,FJ hF.ptrs hs (by rw[hF.size];exact hlt),hG⟩
theorem Da {i:Nat} {o:Oper} {d:Nat} (hd:o.dst=some d) (hps:(ps.all fun s=>s !=d)=true)
  (h:∀a w,AtM W ps p T cs L a0 ops o a w->iH ops o a/\∃f args,(execOp a.eval o).run P w=.ok (.enter f args) w/\Calls P f args w fun e w'=>∃v,e=.returned v/\w.grownBy w' none/\its L d v w'):L6 W ps p T cs P Q L a0 ops i o:=
 JQ hd fun a w hF=>by
  obtain⟨hw,f,args,hr,hc⟩:=h a w hF
  refine⟨hw,f,args,hr,hc.mono fun e w' he=>?_⟩
  obtain⟨v,rfl,hg,hG⟩:=he
  exact⟨v,rfl,aj hF.base hg,fun d u=>nM hg d u,fun j u=>pU hg j u,ql hF.ptrs hg.size (xD hps),hG⟩
theorem QK:It.any.Over:=fun _ _ _ _ _ _ _ _ _=>trivial
theorem QL (x:Value):(It.val x).Over:=fun _ _ _ _ _ _ _ _ h=>h
theorem NQ (T:TypeId) (n n0:Nat):(It.room T n n0).Over:=fun v w N T' V cs hb hl ⟨N',e,hn,V',hl',hb'⟩=>by
 by_cases he:N=N'
 .subst he
  unfold aH at hb hb'
  rw[hb]at hb'
  cases hb'
  exact⟨N,e,hn,over V 0 cs,by rw[yD];exact hl',aH.setCells hb 0⟩
 .exact⟨N',e,hn,V',hl',hb'.au 0 he⟩
theorem QM {L:List It} (hL:∀it∈L,it.Over) {w:World} {N:Nat} {T:TypeId} {V cs:List Value} (hb:aH w N T V) (hl:V.length=cs.length) (d:Nat) (v:Value) (h:its L d v w):its L d v (w.setCells N 0 cs):=by
 unfold its at *
 by_cases hd:d<L.length
 .rw[List.getD_eq_getElem?_getD,List.getElem?_eq_getElem hd]at *
  exact hL _ (List.getElem_mem hd) v w N T V cs hb hl h
 .rw[List.getD_eq_getElem?_getD,List.getElem?_eq_none (by omega)]at *
  trivial
theorem YS {i:Nat} {o:Oper} {x y:Operand} (hd:o.dst=none) (ho:o.op=.store T x y) (hL:∀it∈L,it.Over) (hi:(P.info? T).map (·.size)=some cs.length) (h1:cs.all (·.oneCell')=true)
  (h:∀a w,AtM W ps p T cs L a0 ops o a w->iH ops o a/\∃N,a.tmps.getD p undef=.pointer (some ⟨N,0,none⟩)/\a.eval x=.pointer (some ⟨N,0,none⟩)/\a.eval y=.agg cs.toArray/\W.heap.size<=N/\∃V:List Value,V.length=cs.length/\aH w N T V):L6 W ps p T cs P Q L a0 ops i o:=
 FK hd fun a w hF=>by
  obtain⟨hw,N,hp,hx,hy,hn,V,hl,hb⟩:=h a w hF
  refine⟨hw,_,run_store ho hx hy (hb.there 0 cs.length (by omega)) hi h1,aG hF.base hn 0,fun d u=>QM hL hb hl d u,fun j oj _ _ _ hM=>?_,(aK (cs:=cs) (ah w (some N)) 0).size,⟨N,hp,hb.bC hl⟩⟩
  exact⟨N,hp,hb.bC hl⟩
end
end Fg
end
section
open Go.RowKit
namespace Fg
theorem bL (a:Act) (i:Nat):∃u,a.tmps.getD i undef=u:=⟨_,rfl⟩
def QN (a:Act):List Nat->Prop
 | []=>True
 | i:: r=>(∃u,a.tmps.getD i undef=u)/\QN a r
theorem bn (a:Act):∀L:List Nat,QN a L
 | []=>trivial
 | _:: r=>⟨⟨_,rfl⟩,bn a r⟩
variable {P:Program} {Q:Exit->Act->World->Prop} {L:List It} {a0:Act} {ops:Array Oper} {ps:List Nat}
theorem vS {W:World} {k i:Nat} {o:Oper} {d:Nat} {r:List Oper} (hd:o.dst=some d) (hps:(ps.all fun s=>s !=d)=true)
  (h:∀a w,JJ k ps L (fun w=>World.grownBy W w none) a0 ops o a w->iH ops o a/\∃v w',(execOp a.eval o).run P w=.ok (.value v) w'/\w.grownBy w' none/\its L d v w')
  (hr:mU k ps P Q L (fun w=>World.grownBy W w none) a0 ops (i+1) r):mU k ps P Q L (fun w=>World.grownBy W w none) a0 ops i (o:: r):=
 ⟨⟨⟨_,hd⟩,xE (fun _ _ h k=>aj h k) hd hps h⟩,hr⟩
theorem cS {W:World} {k i:Nat} {o:Oper} {d:Nat} {r:List Oper} (hd:o.dst=some d) (hps:(ps.all fun s=>s !=d)=true)
  (h:∀a w,JJ k ps L (fun w=>World.grownBy W w none) a0 ops o a w->iH ops o a/\∃f args,(execOp a.eval o).run P w=.ok (.enter f args) w/\Calls P f args w fun e w'=>∃v,e=.returned v/\w.grownBy w' none/\its L d v w')
  (hr:mU k ps P Q L (fun w=>World.grownBy W w none) a0 ops (i+1) r):mU k ps P Q L (fun w=>World.grownBy W w none) a0 ops i (o:: r):=
 ⟨⟨⟨_,hd⟩,QG (fun _ _ h k=>aj h k) hd hps h⟩,hr⟩
theorem JJ.d {B:World->Prop} {k:Nat} {o:Oper} {a:Act} {w:World} (h:JJ k ps L B a0 ops o a w) (d:Nat) (hd:waits ops o d=true:=by kernel_rfl):its L d (a.tmps.getD d undef) w:=h.dep d hd
theorem JJ.r {B:World->Prop} {k:Nat} {o:Oper} {a:Act} {w:World} (h:JJ k ps L B a0 ops o a w) (d:Nat) (hd:fH ops k d=false:=by kernel_rfl):a.tmps.getD d undef=a0.tmps.getD d undef:=h.rest d hd
def AtD (a:Act) (D:List Nat):Nat->List Value->Prop
 | _,[]=>True
 | i,v:: r=>match D.contains i with
  | true=>a.tmps.getD i undef=v/\AtD a D (i+1) r
  | false=>AtD a D (i+1) r
def Db (D:List Nat):Nat->List Value->List Value
 | _,[]=>[]
 | i,v:: r=>(if D.contains i=true then undef else v):: Db D (i+1) r
theorem U9 {a a0:Act} {D:List Nat} {k:Nat} (hr:∀d,fH ops k d=false->a.tmps.getD d undef=a0.tmps.getD d undef):∀(vs us:List Value) (i:Nat),(∀j,us.getD j undef=a0.tmps.getD (i+j) undef)->us.length=vs.length->
  (∀d,i<=d->d<i+vs.length->D.contains d=false->fH ops k d=false)->Db D i us=Db D i vs->AtD a D i vs->yC a i vs:=by
 intro vs
 induction vs with
 | nil=>intros;trivial
 | cons v r ih=>
  intro us i hu hl hD hm h
  cases us with
  | nil=>simp at hl
  | cons u us=>
   simp only[Db,List.cons.injEq]at hm
   have hu2:∀j,us.getD j undef=a0.tmps.getD (i+1+j) undef:=fun j=>by
    have:=hu (j+1)
    rw[show i+1+j=i+(j+1) by omega]
    simpa using this
   have hD2:∀d,i+1<=d->d<i+1+r.length->D.contains d=false->fH ops k d=false:=fun d h1 h2=>hD d (by omega) (by simp only[List.length_cons];omega)
   have hl2:us.length=r.length:=by simpa using hl
   unfold AtD at h
   by_cases hc:D.contains i=true
   .rw[hc]at h
    exact⟨h.1,ih us (i+1) hu2 hl2 hD2 hm.2 h.2⟩
   .have hc':D.contains i=false:=by simpa using hc
    rw[hc']at h hm
    refine⟨?_,ih us (i+1) hu2 hl2 hD2 hm.2 h⟩
    have h0:=hu 0
    simp only[List.getD_cons_zero,Nat.add_zero]at h0
    rw[hr i (hD i (Nat.le_refl _) (by simp only[List.length_cons];omega) hc'),<- h0]
    simpa using hm.1
theorem aQ {a a0:Act} {k:Nat} (D:List Nat) {vs:List Value} (hs:a.tmps.size=a0.tmps.size) (hr:∀d,fH ops k d=false->a.tmps.getD d undef=a0.tmps.getD d undef)
  (hD:((List.range vs.length).all fun d=>D.contains d||!fH ops k d)=true) (hm:Db D 0 a0.tmps.toList=Db D 0 vs) (hl:a0.tmps.size=vs.length) (h:AtD a D 0 vs) (hd:a.defers=[]):a={tmps:=vs.toArray,defers:=[]}:=by
 refine gW (hs.trans hl) (U9 hr vs a0.tmps.toList 0 (fun j=>?_) (by simpa using hl) (fun d _ h2 hc=>?_) hm h) hd
 .rw[Nat.zero_add,Array.getD_eq_getD_getElem?,List.getD_eq_getElem?_getD,Array.getElem?_toList]
 .have:=List.all_eq_true.1 hD d (List.mem_range.2 (by omega))
  rw[hc]at this
  simpa using this
theorem vn {a:Act} {w:World} {o:Oper} {d:Nat} (v:Value) (hr:(execOp a.eval o).run P w=.ok (.value v) w) (hg:o.guard=none:=by exact rfl) (hi:its L d v w:=by exact rfl):
  iH ops o a/\∃v w',(execOp a.eval o).run P w=.ok (.value v) w'/\w.grownBy w' none/\its L d v w':=⟨aB hg,v,w,hr,ah _ _,hi⟩
theorem vx {a:Act} {w:World} {o:Oper} {d:Nat} (v:Value) (hw:iH ops o a) (hr:(execOp a.eval o).run P w=.ok (.value v) w) (hi:its L d v w:=by exact rfl):
  iH ops o a/\∃v w',(execOp a.eval o).run P w=.ok (.value v) w'/\w.grownBy w' none/\its L d v w':=⟨hw,v,w,hr,ah _ _,hi⟩
theorem rT {id:Nat} {w:World} (ps:List Nat) (L:List It) (k:Nat) (steps:mU k ps P Q L (fun w'=>World.grownBy w w' none) a0 ops 0 (ops.toList.take k))
  (fin:∀a w',World.grownBy w w' none->a.tmps.size=a0.tmps.size->a.defers=a0.defers->(∀d,fH ops k d=false->a.tmps.getD d undef=a0.tmps.getD d undef)->
   (∀d,fH ops k d=true->its L d (a.tmps.getD d undef) w')->bJ ps a w'->wpList P ops Q (ops.toList.drop k) a w')
  (hm:P.follows .mixedOrders=true:=by kernel_rfl) (ht:vP ops=true:=by kernel_rfl) (ho:once (ops.extract 0 k) a0.tmps.size=true:=by kernel_rfl) (htl:xC ops k=true:=by kernel_rfl) (hk:k<=ops.size:=by decide) (hps:bJ ps a0 w.drew:=by exact Fg.nW (by kernel_rfl)):
  (Code.region id ops true).wp P Q a0 w:=jM L (fun w'=>World.grownBy w w' none) k (aX (ah _ _)) hm ht ho htl hk hps steps fin
theorem rP {id:Nat} {w:World} (ps:List Nat) (L:List It) (k:Nat) (steps:mU k ps P Q L (fun w'=>World.grownBy w w' none) a0 ops 0 (ops.toList.take k))
  (fin:∀a w',World.grownBy w w' none->a.tmps.size=a0.tmps.size->a.defers=a0.defers->(∀d,fH ops k d=false->a.tmps.getD d undef=a0.tmps.getD d undef)->
   (∀d,fH ops k d=true->its L d (a.tmps.getD d undef) w')->bJ ps a w'->wpList P ops Q (ops.toList.drop k) a w')
  (ht:vP ops=true:=by kernel_rfl) (ho:once (ops.extract 0 k) a0.tmps.size=true:=by kernel_rfl) (hk:k<=ops.size:=by decide) (hps:bJ ps a0 w:=by exact Fg.nW (by kernel_rfl)):
  (Code.region id ops false).wp P Q a0 w:=iK L (fun w'=>World.grownBy w w' none) k (ah _ _) ht ho hk hps steps fin
end Fg
theorem aH.gn {w w':World} {B:Nat} {T:TypeId} {L:List Value} (h:aH w B T L) (g:w.grownBy w' none):aH w' B T L:=h.grown g (by simp)
abbrev gX:List Value:=[Value.int IntKind.u64 0,Value.int IntKind.u64 0,Value.int IntKind.u64 0,Value.int IntKind.u64 0,Value.int IntKind.u64 0]
abbrev bB:List Value:=[Value.int IntKind.u64 0,Value.int IntKind.u64 0,Value.int IntKind.u64 0,Value.int IntKind.u64 0,Value.int IntKind.u64 0,Value.int IntKind.u64 0,Value.int IntKind.u64 0,Value.int IntKind.u64 0,Value.int IntKind.u64 0,Value.int IntKind.u64 0,Value.int IntKind.u64 0,Value.int IntKind.u64 0,Value.int IntKind.u64 0,Value.int IntKind.u64 0,Value.int IntKind.u64 0,Value.int IntKind.u64 0,Value.int IntKind.u64 0,Value.int IntKind.u64 0,Value.int IntKind.u64 0,Value.int IntKind.u64 0]
abbrev nX:List Value:=[Value.int IntKind.u64 0,Value.int IntKind.u64 0,Value.int IntKind.u64 0,Value.int IntKind.u64 0,Value.int IntKind.u64 0,Value.int IntKind.u64 0,Value.int IntKind.u64 0,Value.int IntKind.u64 0,Value.int IntKind.u64 0,Value.int IntKind.u64 0,Value.int IntKind.u64 0,Value.int IntKind.u64 0,Value.int IntKind.u64 0,Value.int IntKind.u64 0,Value.int IntKind.u64 0,Value.int IntKind.u64 0,Value.int IntKind.u64 0,Value.int IntKind.u64 0,Value.int IntKind.u64 0,Value.int IntKind.u64 0,Value.int IntKind.u64 0,Value.int IntKind.u64 0,Value.int IntKind.u64 0,Value.int IntKind.u64 0,Value.int IntKind.u64 0,Value.int IntKind.u64 0,Value.int IntKind.u64 0,Value.int IntKind.u64 0,Value.int IntKind.u64 0,Value.int IntKind.u64 0]
end
section
open Go.RowKit
namespace Fg
variable {P:Program} {Q:Exit->Act->World->Prop} {L:List It} {a0:Act} {ops:Array Oper} {ps:List Nat}
def AV (ρ:Operand->Value):List Operand->List Value->Prop
 | [],[]=>True
 | x:: r,v:: s=>ρ x=v/\AV ρ r s
 | _,_=>False
theorem JX {ρ:Operand->Value}:∀{xs:List Operand} {vs:List Value},AV ρ xs vs->xs.map ρ=vs
 | [],[],_=>rfl
 | x:: r,v:: s,h=>by rw[List.map_cons,h.1,JX h.2]
 | [],_:: _,h=>h.elim
 | _:: _,[],h=>h.elim
theorem cq {a:Act} {w:World} {o:Oper} {d:Nat} {f:FuncId} {fn:Func} {x:Operand} {args:Array Operand} {tys:Array TypeId} {vs:List Value} {v:Value} (ho:o.op=.call {callee:=.value x,args:=args,argTypes:=tys}) (hc:Calls P f vs.toArray w fun e w'=>e=.returned v/\w.grownBy w' none) (hv:AV a.eval args.toList vs) (hf:P.funcs[f]?=some fn)
  (hg:o.guard=none:=by exact rfl) (hx:a.eval x=.func (.func f) #[] #[]:=by exact rfl) (hn:(fn.name== "runtime.NumGoroutine")=false:=by kernel_rfl) (hb:fn.body.isNone=false:=by kernel_rfl) (hi:∀w',its L d v w':=by exact fun _=>rfl):
  iH ops o a/\∃f args,(execOp a.eval o).run P w=.ok (.enter f args) w/\Calls P f args w fun e w'=>∃v,e=.returned v/\w.grownBy w' none/\its L d v w':=
 ⟨aB hg,f,vs.toArray,aN ho hx (Array.ext' (by rw[Array.toList_map,JX hv])) (aI hf hn hb),hc.mono fun _ w' h=>⟨v,h.1,h.2,hi w'⟩⟩
theorem cz {a:Act} {w:World} {o:Oper} {d:Nat} {f:FuncId} {fn:Func} {x:Operand} {args:Array Operand} {tys:Array TypeId} {vs:List Value} {v:Value} (ho:o.op=.call {callee:=.value x,args:=args,argTypes:=tys}) (hg:iH ops o a) (hc:Calls P f vs.toArray w fun e w'=>e=.returned v/\w.grownBy w' none) (hv:AV a.eval args.toList vs) (hf:P.funcs[f]?=some fn)
  (hx:a.eval x=.func (.func f) #[] #[]:=by exact rfl) (hn:(fn.name== "runtime.NumGoroutine")=false:=by kernel_rfl) (hb:fn.body.isNone=false:=by kernel_rfl) (hi:∀w',its L d v w':=by exact fun _=>rfl):
  iH ops o a/\∃f args,(execOp a.eval o).run P w=.ok (.enter f args) w/\Calls P f args w fun e w'=>∃v,e=.returned v/\w.grownBy w' none/\its L d v w':=
 ⟨hg,f,vs.toArray,aN ho hx (Array.ext' (by rw[Array.toList_map,JX hv])) (aI hf hn hb),hc.mono fun _ w' h=>⟨v,h.1,h.2,hi w'⟩⟩
end Fg
end
section
namespace Wi
def wN (l:List Nat):Nat:=l.foldl (fun n b=>n*256+b) 0
def lu (m:Nat):Int:=if m<9223372036854775808 then (m:Int) else (m:Int)-18446744073709551616
def L8 (n:Int):Nat:=(n%18446744073709551616).toNat
def FP (m:Nat):List Nat:=(List.range 8).map fun i=>m/2^(8*(7-i))%256
def dR (n:Int):List Nat:=FP (L8 n)
theorem L9 {n:Int} (h1: -9223372036854775808<=n) (h2:n<=9223372036854775807):lu (L8 n)=n:=by
 unfold lu L8
 split<;>omega
theorem JY (n:Int):L8 n<18446744073709551616:=by unfold L8;omega
theorem Va {m:Nat} (h:m<18446744073709551616):L8 (lu m)=m:=by
 unfold lu L8
 split<;>omega
theorem zl (m:Nat):FP m=[m/72057594037927936%256,m/281474976710656%256,m/1099511627776%256,m/4294967296%256,m/16777216%256,m/65536%256,m/256%256,m/1%256]:=rfl
theorem FQ (m:Nat):(FP m).length=8:=by rw[zl];rfl
theorem cO (n:Int):(dR n).length=8:=FQ _
theorem NR (m i:Nat):(FP m).getD i 0<256:=by
 rw[zl]
 rcases i with _|_|_|_|_|_|_|_|i<;>simp<;>omega
theorem nO (n:Int) (i:Nat):(dR n).getD i 0<256:=NR _ i
theorem Ma {m:Nat} (h:m<18446744073709551616):wN (FP m)=m:=by
 rw[zl]
 simp only[wN,List.foldl]
 omega
theorem NS (l:List Nat) (b:Nat):wN (l++[b])=wN l*256+b:=by unfold wN;rw[List.foldl_append];rfl
theorem Vb (l:List Nat) (h:∀b∈l,b<256):∀n,l.foldl (fun n b=>n*256+b) n<(n+1)*256^l.length:=by
 induction l with
 | nil=>intro n;simp
 | cons b l ih=>
  intro n
  have h1:=ih (fun x hx=>h x (List.mem_cons_of_mem _ hx)) (n*256+b)
  have h2:=h b (by simp)
  have h3:(n*256+b+1)*256^l.length<=((n+1)*256)*256^l.length:=Nat.mul_le_mul_right _ (by omega)
  rw[List.foldl_cons,List.length_cons,Nat.pow_succ,Nat.mul_comm (256^l.length) 256,<- Nat.mul_assoc]
  omega
theorem Mc (l:List Nat) (h:∀b∈l,b<256):wN l<256^l.length:=by
 have:=Vb l h 0
 unfold wN
 omega
theorem Vd {l:List Nat} (hl:l.length=8) (h:∀b∈l,b<256):FP (wN l)=l:=by
 rcases l with _ |⟨a,_ |⟨b,_ |⟨c,_ |⟨d,_ |⟨e,_ |⟨f,_ |⟨g,_ |⟨k,_|_⟩⟩⟩⟩⟩⟩⟩⟩<;>simp at hl
 have h1:=h a (by simp);have h2:=h b (by simp);have h3:=h c (by simp);have h4:=h d (by simp)
 have h5:=h e (by simp);have h6:=h f (by simp);have h7:=h g (by simp);have h8:=h k (by simp)
 rw[zl]
 simp only[wN,List.foldl,List.cons.injEq,and_true]
 refine⟨?_,?_,?_,?_,?_,?_,?_,?_⟩<;>omega
abbrev St:=Option (List Nat)
def iq (k:Nat) (l:List Nat):Option (Nat×List Nat):=if k<=l.length then some (wN (l.take k),l.drop k) else none
def iT (most:Int) (l:List Nat):Option (Int×List Nat):=
 if 8<=l.length/\0<=lu (wN (l.take 8))/\lu (wN (l.take 8))<=most then some (lu (wN (l.take 8)),l.drop 8) else none
def iN (most:Int) (l:List Nat):Option (List Nat×List Nat):=
 match iT most l with
 | none=>none
 | some (n,r)=>if n.toNat<=r.length then some (r.take n.toNat,r.drop n.toNat) else none
def tells {α:Type} (z:α) (f:List Nat->Option (α×List Nat)):St->α×St
 | none=>(z,none)
 | some l=>match f l with
  | none=>(z,none)
  | some (x,r)=>(x,some r)
def jG:St->Nat×St:=tells 0 (iq 1)
def gH:St->Nat×St:=tells 0 (iq 8)
def iI (most:Int):St->Int×St:=tells 0 (iT most)
def gU (most:Int):St->List Nat×St:=tells [] (iN most)
theorem zQ {α:Type} (a b:List α) (n:Nat) (h:a.length=n):(a++b).take n=a:=by rw[<- h];simp
theorem zR {α:Type} (a b:List α) (n:Nat) (h:a.length=n):(a++b).drop n=b:=by rw[<- h];simp
theorem zm (n:Int) (tl:List Nat) (h1: -9223372036854775808<=n) (h2:n<=9223372036854775807):lu (gH (some (dR n++tl))).1=n/\(gH (some (dR n++tl))).2=some tl:=by
 have h:iq 8 (dR n++tl)=some (L8 n,tl):=by
  unfold iq
  rw[if_pos (by rw[List.length_append,cO];omega),zQ _ _ 8 (cO _),zR _ _ 8 (cO _)]
  rw[show wN (dR n)=L8 n from Ma (JY _)]
 unfold gH tells
 simp only[h]
 exact⟨L9 h1 h2,trivial⟩
end Wi
end
section
open Go.RowKit Ow
theorem zS:∃i,Tryz.prog.info? 5=some i/\i.zero=some (.int .u8 0)/\i.size=1/\i.bytes=1:=by
 have h:(Tryz.prog.info? 5).map (fun i=>(i.zero,i.size,i.bytes))=some (some (.int .u8 0),1,1):=by kernel_rfl
 cases hi:Tryz.prog.info? 5 with
 | none=>rw[hi]at h;cases h
 | some i=>
  rw[hi]at h
  simp only[Option.map_some,Option.some.injEq,Prod.mk.injEq]at h
  exact⟨i,rfl,h.1,h.2.1,h.2.2⟩
theorem JZ (n:Nat):madeCells (Value.int .u8 0).cells n=(List.replicate n (dD 0)).toArray:=by
 unfold madeCells dD
 apply Array.ext
 .simp
 .intro i h1 h2
  simp[Value.cells,Nat.mod_one]
theorem J2 (n c:Nat) (w:World) (h:n<=c) (hc:c<=140737488355328):∃w',(Instr.makeSlice 22 (.int .i64 n) (.int .i64 c)).run Tryz.prog w=.ok (.slice (some ⟨w.heap.size,0,none⟩) n c) w'/\
  w.grownBy w' none/\w'.heap.size=w.heap.size+1/\aH w' w.heap.size 5 (List.replicate c (dD 0)):=by
 obtain⟨i,hi,hz,hs,hb⟩:=zS
 have h2:=run_make (P:=Tryz.prog) w 22 5 i (.int .u8 0) Tryz.underlying22 hi hz .i64 .i64 n c (by omega) (by omega) (by rw[hb];omega) (by omega)
 rw[hs,Nat.mul_one,Int.toNat_natCast,Int.toNat_natCast,JZ]at h2
 exact⟨_,h2,av (ah _ _) _,by simp,aH.new w _ _⟩
end
section
open Go.RowKit Ow
theorem vZ (n:Nat):Builtin.zeroCells (Value.int .u8 0).cells n=(List.replicate n (dD 0)).toArray:=by
 unfold Builtin.zeroCells dD
 apply Array.ext
 .simp[Value.cells]
 .intro i h1 h2
  simp[Value.cells,Nat.mod_one]
theorem wh (w:World) (g n cap k:Nat) (cur:Array Value) (hk:0<k) (hs:n+k<=1000000) (hg:w.heap[g]?=some (.cells cur 5 (0,0))) (hroom:n+k<=cap) (hfit:n+k<=cur.size):
  (Builtin.append_ #[22,3] 22 #[.slice (some ⟨g,0,none⟩) n cap,.int .i64 k]).run Tryz.prog w=
   .ok (.slice (some ⟨g,0,none⟩) (n+k) cap) (w.setRow g (cur.toList.take n++List.replicate k (dD 0)++cur.toList.drop (n+k)).toArray):=by
 obtain⟨i,hi,hz,hsz,hb⟩:=zS
 have hst:=run_storeCells_at Tryz.prog g n 5 (List.replicate k (dD 0)) 0 cur w hg (by simpa using hfit) (fun u hu=>by rw[(List.mem_replicate.1 hu).2];rfl)
 simp only[Nat.add_zero,List.length_replicate]at hst
 have hw:IntKind.i64.wrap (k:Int)=k:=by rw[IntKind.wrap_i64];omega
 have hneg:¬((k:Int)<0):=by omega
 have hbig:¬(281474976710656<(k:Int)*(1:Int)):=by omega
 have hk0:k≠0:=by omega
 have hzz:=vZ k
 simp[Builtin.append_,run_underlying (Tryz.underlying22),run_underlying (Tryz.underlying3),sizeOf,typeInfo,zeroValue,hi,hz,hsz,hb,asInt,asIntOf,hw,hneg,hk0,hroom,Addr.add_lit,hzz,hst]
 omega
theorem Ef (w:World) (base n k:Nat) (v:Value) (xs:List Value) (hown:w.ownsRow base 5 1 v n xs) (hk:0<k) (hs:n+k<=1000000) (hbase:base<=w.heap.size):
  ∃v' w',(Builtin.append_ #[22,3] 22 #[v,.int .i64 k]).run Tryz.prog w=.ok v' w'/\w'.ownsRow base 5 1 v' (n+k) (xs++List.replicate k (dD 0))/\w.grownBy w' v.ownBlock:=by
 obtain⟨i,hi,hz,hsz,hb⟩:=zS
 have hx:=hown.1
 have hlen:(xs++List.replicate k (dD 0)).length=(n+k)*1:=by rw[List.length_append,hx,List.length_replicate];omega
 have h63:n+k<=maxLen:=by unfold maxLen;omega
 have grown:∀(old:Nat) (row:Option Nat),
   (w.drew.alloc (.cells (xs.toArray++(List.replicate k (dD 0)).toArray++Builtin.zeroCells (Value.int .u8 0).cells (grownCap w (n+k) old 5-(n+k))) 5)).ownsRow base 5 1
    (.slice (some ⟨w.heap.size,0,none⟩) (n+k) (grownCap w (n+k) old 5)) (n+k) (xs++List.replicate k (dD 0))/\
   w.grownBy (w.drew.alloc (.cells (xs.toArray++(List.replicate k (dD 0)).toArray++Builtin.zeroCells (Value.int .u8 0).cells (grownCap w (n+k) old 5-(n+k))) 5)) row:=by
  intro old row
  have hge:=grownCap_ge w (n+k) old 5
  have hcm:grownCap w (n+k) old 5<=maxLen:=grownCap_le_maxLen w (n+k) old 5 h63
  refine⟨⟨hlen,.inr ⟨w.heap.size,_,_,rfl,hbase,heap_alloc_new w.drew _,hge,hcm,?_,?_⟩⟩,⟨rfl,rfl,rfl,by simp,fun j hj _=>heap_alloc_old w.drew _ hj⟩⟩
  .rw[vZ]
   simp only[Array.size_append,List.size_toArray,List.length_replicate,hx]
   omega
  .simp only[Array.toList_append,List.append_assoc]
   rw[<- List.append_assoc,<- hlen]
   exact List.take_left
 rcases hown.2 with⟨rfl,rfl⟩ |⟨g,cap,cur,rfl,hbg,hg,hnc,hcm,hcs,htake⟩
 .have hx0:xs=[]:=List.eq_nil_of_length_eq_zero (by simpa using hx)
  subst hx0
  have hr:=Lib.run_append_nil_zeros (P:=Tryz.prog) w 22 3 22 5 i (.int .u8 0) .i64 .i64 Tryz.underlying22 Tryz.underlying3 hi hz k hk (by omega) (by omega) (by rw[hb];omega)
  have hgr:=grown 0 (Value.ownBlock (.slice none 0 0))
  rw[vZ k]at hr
  simp only[Nat.zero_add,List.nil_append,Array.empty_append]at hgr ⊢
  exact⟨_,_,hr,hgr.1,hgr.2⟩
 .by_cases hroom:n+k<=cap
  .have hr:=wh w g n cap k cur hk hs hg hroom (by omega)
   refine⟨_,_,hr,⟨hlen,.inr ⟨g,cap,_,rfl,hbg,setRow_heap w g cur _ _ _ hg,hroom,hcm,?_,?_⟩⟩,⟨rfl,rfl,rfl,by simp,fun j _ hj=>setRow_other w g j _ (fun e=>hj (by simp[Value.ownBlock,e]))⟩⟩
   .simp only[List.size_toArray,List.length_append,List.length_take,List.length_drop,Array.length_toList,List.length_replicate]
    omega
   .rw[<- hlen]
    have ht2:cur.toList.take n=xs:=by simpa using htake
    show List.take _ (cur.toList.take n++List.replicate k (dD 0)++cur.toList.drop (n+k))=_
    rw[ht2]
    exact List.take_left
  .have holds:∀j u,xs[j]?=some u->w.cell? ((⟨g,0,none⟩:Addr).add j)=some u:=hown.cells (g:=g) rfl
   have hf:=run_firstCells_some (P:=Tryz.prog) w.drew i.size n ⟨g,0,none⟩ n cap xs (by rw[hsz];exact hx) holds
   have hr:=Lib.run_append_grow_zeros (P:=Tryz.prog) w 22 3 22 5 i (.int .u8 0) .i64 .i64 Tryz.underlying22 Tryz.underlying3 hi hz (some ⟨g,0,none⟩) n cap xs hf k hk (by omega) (by omega) (by omega) (by rw[hb];omega) (by have:=nextslicecap_le (need:=n+k) (old:=cap) (by omega);rw[hb];omega)
   rw[vZ k]at hr
   have hgr:=grown cap (Value.ownBlock (.slice (some ⟨g,0,none⟩) n cap))
   exact⟨_,_,hr,hgr.1,hgr.2⟩
end
section
open Go.ChangeShapes Go.WideShapes Go.ChangeAt Go.RowKit Ow
theorem fI {P:Program} {x:String×DataW Unit} {rest:List (String×DataW Unit)} {W:World} (h:laidMet P (x:: rest) W):laidMet P rest W:=by
 obtain⟨ps,⟨g,t,cs,fuel,p,q,_,_,_,_,hq,rfl⟩,hn,hc⟩:=h
 exact⟨q,hq,(List.nodup_append.1 hn).2.1,fun b off hm=>hc b off (List.mem_append_right _ hm)⟩
theorem own:ownKnob Tryz.prog.godebug=none:=by kernel_rfl
theorem laidOut:laidOutB Tryz.prog=true:=by kernel_rfl
def NT (l:List Int):List Nat:=l.map Int.toNat
theorem NU {W:World} {x:Addr} {len cap:Nat} {zs:List Int} (ht:cap<9223372036854775808) (hl:len<=cap) (hz:zs.length=cap) (hcell:∀i,i<zs.length->W.cell? (x.add i)=some (.int .u8 (zs.getD i 0))) (hw:∀n∈zs,(Lit.int .u8 n).wf=true):
  BytesAt W W.heap.size (some x) cap (NT (zs.take len))/\(NT (zs.take len)).length=len:=by
 have hlen:(NT (zs.take len)).length=len:=by simp[NT,hz];omega
 have hbd:∀n∈zs,0<=n/\n<256:=fun n hn=>by
  have:=hw n hn
  simp[Lit.wf,IntKind.min,IntKind.max,IntKind.signed,IntKind.bits]at this
  omega
 have hget:∀i,i<len->(((NT (zs.take len)).getD i 0:Nat):Int)=zs.getD i 0:=fun i hi=>by
  have h1:i<zs.length:=by omega
  have:=hbd zs[i] (List.getElem_mem h1)
  rw[List.getD_eq_getElem?_getD,List.getD_eq_getElem?_getD]
  unfold NT
  rw[List.getElem?_map,List.getElem?_take,if_pos hi,List.getElem?_eq_getElem h1]
  simp;omega
 refine⟨⟨Nat.le_refl _,by omega,ht,fun i=>?_,?_⟩,hlen⟩
 .by_cases hi:i<len
  .have h1:i<zs.length:=by omega
   have:=hbd zs[i] (List.getElem_mem h1)
   have h2:=hget i hi
   rw[List.getD_eq_getElem?_getD (l:=zs),List.getElem?_eq_getElem h1]at h2
   simp only[Option.getD_some]at h2
   omega
  .rw[List.getD_eq_getElem?_getD,List.getElem?_eq_none (by omega)];decide
 .by_cases h0:len=0
  .exact Or.inl (by omega)
  .obtain⟨b,off,spot⟩:=x
   have hc:=hcell 0 (by omega)
   have hspot:spot=none:=by simpa[Addr.add] using World.cell?_spot hc
   subst hspot
   have hadd:∀j,(⟨b,off,none⟩:Addr).add j=⟨b,off+j,none⟩:=fun j=>by unfold Addr.add;split<;>simp_all
   have hlt:b<W.heap.size:=block_lt_of_cell hc
   refine Or.inr ⟨b,off,rfl,hlt,fun i hi=>?_⟩
   rw[hlen]at hi
   have h3:=hcell i (by omega)
   rw[hadd,<- hget i hi]at h3
   exact h3
theorem uU {H:Type} {enc:TypeId×Value->H} {W:World} {a:Option Addr} {len cap:Nat} {d:DataW H} {ps:List MemPlace} (h:DataW.Trod enc Tryz.prog W 0 (fun _=>true) true 22 (.slice a len cap) d ps):
  ∃p,p.length=len/\BytesAt W W.heap.size a cap p:=by
 obtain⟨fuel,hf⟩:=h
 rcases open_ints Tryz.underlying22 Tryz.underlying5 (by kernel_rfl) hf with⟨hcs,_⟩ |⟨x,l,c,zs,hcs,_,hl,hm,hz,_,hcell,hwz⟩
 .simp[Value.cells]at hcs
  obtain⟨rfl,rfl,rfl⟩:=hcs
  exact⟨[],rfl,⟨Nat.le_refl _,Nat.le_refl _,by decide,by simp,Or.inl rfl⟩⟩
 .simp[Value.cells]at hcs
  obtain⟨rfl,rfl,rfl⟩:=hcs
  unfold maxLen at hm
  have hb:=NU (by omega) hl (by simpa using hz) hcell hwz
  exact⟨_,hb.2,hb.1⟩
end
section
open Go.RowKit Ow
structure jl (w:World) (B:Nat) (a:Option Addr) (L:List (List Nat)):Prop where
 lim:B<=w.heap.size
 cells:L.length=0\/∃pb po,a=some ⟨pb,po,none⟩/\pb<B/\∀i,i<L.length->∃ai ci,w.cell? ⟨pb,po+i,none⟩=some (.slice ai (L.getD i []).length ci)/\BytesAt w B ai ci (L.getD i [])
theorem jl.kept {w w':World} {B:Nat} {a:Option Addr} {L:List (List Nat)} (h:jl w B a L) {row:Option Nat} (hg:w.grownBy w' row) (hr:∀r,row=some r->B<=r):jl w' B a L:=by
 refine⟨Nat.le_trans h.lim hg.size,?_⟩
 rcases h.cells with h0 |⟨pb,po,ha,hlt,hc⟩
 .exact Or.inl h0
 .refine Or.inr ⟨pb,po,ha,hlt,fun i hi=>?_⟩
  obtain⟨ai,ci,h1,h2⟩:=hc i hi
  exact⟨ai,ci,by rw[bf hg (p:=⟨pb,po+i,none⟩) (Nat.lt_of_lt_of_le hlt h.lim) (fun e=>by have:=hr _ e.symm;simp at this;omega)];exact h1,h2.kept hg hr⟩
theorem jl.stay {w w':World} {B:Nat} {a:Option Addr} {L:List (List Nat)} (h:jl w B a L) (hg:w.grownBy w' none):jl w' B a L:=h.kept hg (fun r e=>by cases e)
theorem jl.at {w:World} {B:Nat} {a:Option Addr} {L:List (List Nat)} (h:jl w B a L) {i:Nat} (hi:i<L.length):∃pb po ai ci,a=some ⟨pb,po,none⟩/\pb<B/\w.cell? ⟨pb,po+i,none⟩=some (.slice ai (L.getD i []).length ci)/\BytesAt w B ai ci (L.getD i []):=by
 obtain⟨pb,po,h1,h2,h3⟩:=h.cells.resolve_left (by omega)
 obtain⟨ai,ci,h4,h5⟩:=h3 i hi
 exact⟨pb,po,ai,ci,h1,h2,h4,h5⟩
end
section
open Go.ChangeShapes Go.WideShapes Go.ChangeAt Go.RowKit Ow Go.Deep
end
section
open Go.RowKit Ow
theorem nY {w:World} {base e n g c:Nat} {xs:List Value} (h:w.ownsRow base e 1 (.slice (some ⟨g,0,none⟩) n c) n xs):g<w.heap.size/\base<=g/\n<=c:=by
 rcases h.2 with⟨h0,_⟩ |⟨g',c',cur,e1,hb,hg,hnc,_⟩
 .cases h0
 .cases e1
  exact⟨(Array.getElem?_eq_some_iff.1 hg).1,hb,hnc⟩
theorem Dc {w:World} {base e n:Nat} {v:Value} {xs:List Value} (h:w.ownsRow base e 1 v n xs):(v=.slice none 0 0/\n=0)\/∃g c,v=.slice (some ⟨g,0,none⟩) n c:=by
 rcases h.2 with h0 |⟨g',c',cur,e1,_⟩
 .exact Or.inl h0
 .exact Or.inr ⟨g',c',e1⟩
theorem Eh {w:World} {base e n g c i:Nat} {xs:List Value} (h:w.ownsRow base e 1 (.slice (some ⟨g,0,none⟩) n c) n xs) (v:Value):(w.setCell ⟨g,i,none⟩ v).ownsRow base e 1 (.slice (some ⟨g,0,none⟩) n c) n (xs.set i v):=by
 refine⟨by rw[List.length_set];exact h.1,?_⟩
 rcases h.2 with⟨h0,_⟩ |⟨g',c',cur,e1,hb,hg,hnc,hcm,hs,ht⟩
 .cases h0
 .cases e1
  have hblk:aH w g e cur.toList:=by unfold aH;rw[hg]
  have h2:=hblk.set i v
  refine Or.inr ⟨g,c,(cur.toList.set i v).toArray,rfl,hb,h2,hnc,hcm,by simpa using hs,?_⟩
  rw[<- ht,List.take_set]
theorem zT {w:World} {base e n g c:Nat} {xs:List Value} (h:w.ownsRow base e 1 (.slice (some ⟨g,0,none⟩) n c) n xs) (i:Nat):w.frozen? ⟨g,i,none⟩=false:=by
 rcases h.2 with⟨h0,_⟩ |⟨g',c',cur,e1,hb,hg,hnc,hcm,hs,ht⟩
 .cases h0
 .cases e1
  have hblk:aH w g e cur.toList:=by unfold aH;rw[hg]
  exact hblk.free i
theorem QO {w:World} {base e n n' g c:Nat} {xs:List Value} (h:w.ownsRow base e 1 (.slice (some ⟨g,0,none⟩) n' c) n' xs) (hn:n<=n'):w.ownsRow base e 1 (.slice (some ⟨g,0,none⟩) n c) n (xs.take n):=by
 have hl:xs.length=n':=by have:=h.1;omega
 refine⟨by rw[List.length_take];omega,?_⟩
 rcases h.2 with⟨h0,_⟩ |⟨g',c',cur,e1,hb,hg,hnc,hcm,hs,ht⟩
 .cases h0
 .cases e1
  refine Or.inr ⟨g,c,cur,rfl,hb,hg,by omega,hcm,hs,?_⟩
  rw[<- ht,List.take_take];congr 1;omega
structure Elt (e st:TypeId) (bt:Nat) (z:Value):Prop where
 sl:Tryz.prog.underlying st=some (.slice e)
 info:∃i,Tryz.prog.info? e=some i/\i.zero=some z/\i.size=1/\i.bytes=bt/\z.cells.size=1
theorem wm {e st:TypeId} {bt:Nat} {z:Value} (hE:Elt e st bt z) (w:World) (base g n c:Nat) (xs:List Value) (hown:w.ownsRow base e 1 (.slice (some ⟨g,0,none⟩) n c) n xs)
  (ad:Addr) (m cc:Nat) (news:List Value) (hl:news.length=m) (hnews:∀j u,news[j]?=some u->w.cell? (ad.add j)=some u) (h1:∀u∈news,u.oneCell'=true) (hb:(n+m)*bt<=140737488355328) (hb2:n+m<=140737488355328):
  (n+m<=c/\∃w',(Builtin.append_ #[st,st] st #[.slice (some ⟨g,0,none⟩) n c,.slice (some ad) m cc]).run Tryz.prog w=.ok (.slice (some ⟨g,0,none⟩) (n+m) c) w'/\w'.ownsRow base e 1 (.slice (some ⟨g,0,none⟩) (n+m) c) (n+m) (xs++news)/\w.grownBy w' (some g))\/
  (c<n+m/\∃c' w',(Builtin.append_ #[st,st] st #[.slice (some ⟨g,0,none⟩) n c,.slice (some ad) m cc]).run Tryz.prog w=.ok (.slice (some ⟨w.heap.size,0,none⟩) (n+m) c') w'/\w'.ownsRow w.heap.size e 1 (.slice (some ⟨w.heap.size,0,none⟩) (n+m) c') (n+m) (xs++news)/\w.grownBy w' none):=by
 obtain⟨i,hi,hz,hs,hby,hzc⟩:=hE.info
 by_cases h:n+m<=c
 .obtain⟨w',hr,ho,hg⟩:=run_append_fits w base st st e i 1 (P:=Tryz.prog) hE.sl hi hs g n c xs hown ad m cc news (by omega) hnews h1 h
  exact Or.inl ⟨h,w',hr,ho,hg⟩
 .refine Or.inr ⟨by omega,?_⟩
  have hxl:xs.length=n:=by have:=hown.1;omega
  have hold:∀j v,xs[j]?=some v->w.cell? ((⟨g,0,none⟩:Addr).add j)=some v:=fun j v hv=>by
   have hadd:(⟨g,0,none⟩:Addr).add j=⟨g,j,none⟩:=by unfold Addr.add;split<;>simp_all
   rw[hadd];exact nV hown hv
  have hnc:Builtin.nextslicecap (n+m) c*i.bytes<=281474976710656:=growslice_fits (by omega) (by rw[hby];exact hb)
  have hr:=run_append_grow (P:=Tryz.prog) w st st e i z hE.sl hi hz ⟨g,0,none⟩ n c xs (by rw[hs];omega) hold ad m cc news (by rw[hs];omega) hnews (by omega) (by omega) hnc
  have hge:=grownCap_ge w (n+m) c e
  have hcm:grownCap w (n+m) c e<=maxLen:=grownCap_le_maxLen w (n+m) c e (by unfold maxLen;omega)
  refine⟨_,_,hr,⟨by rw[List.length_append];omega,Or.inr ⟨w.heap.size,_,_,rfl,Nat.le_refl _,heap_alloc_new w.drew _,hge,hcm,?_,?_⟩⟩,⟨rfl,rfl,rfl,by simp,fun k hk _=>heap_alloc_old w.drew _ hk⟩⟩
  .simp only[Array.size_append,List.size_toArray,size_zeroCells,hzc]
   omega
  .simp only[Array.toList_append,List.append_assoc]
   rw[<- List.append_assoc,List.take_left' (by rw[List.length_append];omega)]
theorem zU {e st:TypeId} {bt:Nat} {z:Value} (hE:Elt e st bt z) (w:World) (ad:Addr) (m cc:Nat) (news:List Value) (hm:0<m) (hl:news.length=m) (hnews:∀j u,news[j]?=some u->w.cell? (ad.add j)=some u) (h1:∀u∈news,u.oneCell'=true) (hb:m*bt<=140737488355328) (hb2:m<=140737488355328):
  ∃g c' w',(Builtin.append_ #[st,st] st #[.slice none 0 0,.slice (some ad) m cc]).run Tryz.prog w=.ok (.slice (some ⟨g,0,none⟩) m c') w'/\w'.ownsRow w.heap.size e 1 (.slice (some ⟨g,0,none⟩) m c') m news/\w.grownBy w' none:=by
 obtain⟨i,hi,hz,hs,hby,hzc⟩:=hE.info
 obtain⟨v',w',hr,ho,hg,_⟩:=run_append_own w w.heap.size st st e i z 1 bt (P:=Tryz.prog) hE.sl hi hz hs hby hzc (by decide) (.slice none 0 0) 0 [] (World.ownsRow_nil w _ e 1) ad m cc news (by omega) hnews h1 (by unfold maxLen;omega) (by rw[Nat.zero_add];exact hb) (Nat.le_refl _)
 rw[Nat.zero_add,List.nil_append]at ho
 obtain⟨g,c,rfl,_⟩:=sw ho hm
 exact⟨g,c,w',hr,ho,hg⟩
end
section
open Go.RowKit Ow
theorem jv {w:World} {base b' e n:Nat} {v:Value} {xs:List Value} (h:w.ownsRow base e 1 v n xs) (hb:b'<=base):w.ownsRow b' e 1 v n xs:=by
 refine⟨h.1,?_⟩
 rcases h.2 with h0 |⟨g',c',cur,e1,hg,rest⟩
 .exact Or.inl h0
 .exact Or.inr ⟨g',c',cur,e1,Nat.le_trans hb hg,rest⟩
theorem QS {w a b:World} {e n:Nat} {v:Value} {xs:List Value} (hg:w.grownBy a none) (ho:a.ownsRow w.heap.size e 1 v n xs) (h:a.grownBy b v.ownBlock):w.grownBy b none:=by
 rcases ho.2 with⟨rfl,_⟩ |⟨g',c',cur,rfl,hb,_⟩
 .exact aj hg h
 .exact aW hg h hb
end
section
open Go.RowKit Ow
theorem getD_drop (l:List Nat) (k i:Nat):(l.drop k).getD i 0=l.getD (k+i) 0:=by
 rw[List.getD_eq_getElem?_getD,List.getElem?_drop,List.getD_eq_getElem?_getD]
theorem getD_take_lt (l:List Nat) (k:Nat) (h:∀i,l.getD i 0<256) (i:Nat):(l.take k).getD i 0<256:=by
 rw[List.getD_eq_getElem?_getD,List.getElem?_take]
 split
 .rw[<- List.getD_eq_getElem?_getD];exact h i
 .decide
theorem getD_take (l:List Nat) (k i:Nat) (h:i<k):(l.take k).getD i 0=l.getD i 0:=by
 rw[List.getD_eq_getElem?_getD,List.getElem?_take,if_pos h,List.getD_eq_getElem?_getD]
theorem zV {w:World} {B cap k:Nat} {a a':Option Addr} {l:List Nat} (h:BytesAt w B a cap l) (ha:k<cap->∀pb po,a=some ⟨pb,po,none⟩->a'=some ⟨pb,po+k,none⟩):BytesAt w B a' (cap-k) (l.drop k):=by
 have hf:=h.fits
 have ht:=h.top
 refine⟨h.lim,by rw[List.length_drop];omega,by omega,fun i=>by rw[getD_drop];exact h.byte _,?_⟩
 by_cases h0:l.length<=k
 .exact Or.inl (by rw[List.length_drop];omega)
 .obtain⟨pb,po,e,hlt,hc⟩:=h.cells.resolve_left (by omega)
  refine Or.inr ⟨pb,po+k,ha (by omega) pb po e,hlt,fun i hi=>?_⟩
  rw[List.length_drop]at hi
  rw[getD_drop,Nat.add_assoc]
  exact hc _ (by omega)
theorem zX {w:World} {B cap k:Nat} {a a':Option Addr} {l:List Nat} (h:BytesAt w B a cap l) (ha:∀pb po,a=some ⟨pb,po,none⟩->a'=some ⟨pb,po,none⟩):BytesAt w B a' cap (l.take k):=by
 have hl:(l.take k).length<=l.length:=by rw[List.length_take];omega
 refine⟨h.lim,Nat.le_trans hl h.fits,h.top,getD_take_lt _ _ h.byte,?_⟩
 rcases h.cells with h0 |⟨pb,po,e,hlt,hc⟩
 .exact Or.inl (by omega)
 .refine Or.inr ⟨pb,po,ha pb po e,hlt,fun i hi=>?_⟩
  rw[List.length_take]at hi
  rw[getD_take _ _ _ (by omega)]
  exact hc _ (by omega)
set_option maxRecDepth 100000 in
theorem zY (a:Option Addr) (n cap k:Nat) (h:k<=cap):
  ∃a',(∀w,(Instr.slice 22 (.slice a n cap) none (some (.int .i64 (k:Int))) none).run Tryz.prog w=.ok (.slice a' k cap) w)/\(∀pb po,a=some ⟨pb,po,none⟩->a'=some ⟨pb,po,none⟩):=by
 obtain⟨j,hj,hs⟩:∃j,Tryz.prog.info? (Tryz.prog.elem 22)=some j/\j.size=1:=by
  have h1:(Tryz.prog.info? (Tryz.prog.elem 22)).map (·.size)=some 1:=by kernel_rfl
  cases hq:Tryz.prog.info? (Tryz.prog.elem 22) with
  | none=>rw[hq]at h1;cases h1
  | some j=>rw[hq]at h1;exact⟨j,rfl,by simpa using h1⟩
 refine⟨if cap=0 then a else a.map (·.add 0),fun w=>?_,fun pb po e=>?_⟩
 .rw[run_slice_h w 22 a n cap Tryz.underlying22 .i64 _ (by omega) (by omega),Int.toNat_natCast]
  simp[sizeOf,typeInfo,hj,hs,sliced]
 .rw[e]
  split
  .rfl
  .simp[Addr.add]
theorem J3 {w:World} {g n base e:Nat} {xs:List Value} (h:aH w g e xs) (hn:xs.length=n) (hb:base<=g) (hm:n<=140737488355328):w.ownsRow base e 1 (.slice (some ⟨g,0,none⟩) n n) n xs:=
 ⟨by omega,Or.inr ⟨g,n,xs.toArray,rfl,hb,h,Nat.le_refl _,by unfold maxLen;omega,by simp[hn],by simp[<- hn]⟩⟩
theorem FR {w:World} {base n:Nat} {v:Value} {l:List Nat} (h:w.ownsRow base 5 1 v n (l.map dD)) (hl:l.length=n) (hn:0<n) (hb:∀i,l.getD i 0<256):
  ∃g c,v=.slice (some ⟨g,0,none⟩) n c/\base<=g/\n<=c/\BytesAt w w.heap.size (some ⟨g,0,none⟩) c l:=by
 subst hl
 obtain⟨g,c,rfl,hbg,hnc,hcm,hlt⟩:=sw h hn
 refine⟨g,c,rfl,hbg,hnc,Nat.le_refl _,hnc,by unfold maxLen at hcm;omega,hb,Or.inr ⟨g,0,rfl,hlt,fun i hi=>?_⟩⟩
 rw[Nat.zero_add]
 exact nV h (vU hi)
theorem _root_.Go.Proofs.YtmijliomjpphkaaGreatDoor.Ow.BytesAt.full {w:World} {B cap:Nat} {a:Option Addr} {l:List Nat} (h:BytesAt w B a cap l):BytesAt w w.heap.size a cap l:=h.up h.lim (Nat.le_refl _)
theorem _root_.Go.Proofs.YtmijliomjpphkaaGreatDoor.Ow.BytesAt.apart {w w':World} {B cap rb:Nat} {a:Option Addr} {l:List Nat} (h:BytesAt w B a cap l) (hg:w.grownBy w' (some rb)) (hne:l.length=0\/∀pb po,a=some ⟨pb,po,none⟩->pb≠rb):BytesAt w' B a cap l:=by
 refine⟨Nat.le_trans h.lim hg.size,h.fits,h.top,h.byte,?_⟩
 rcases hne with h0|hne
 .exact Or.inl h0
 rcases h.cells with h0 |⟨pb,po,ha,hlt,hc⟩
 .exact Or.inl h0
 .exact Or.inr ⟨pb,po,ha,hlt,fun i hi=>by rw[bf hg (p:=⟨pb,po+i,none⟩) (Nat.lt_of_lt_of_le hlt h.lim) (fun e=>hne pb po ha (by simpa using e))];exact hc i hi⟩
end
section
open Go.RowKit Ow
set_option maxRecDepth 100000 in
set_option maxHeartbeats 800000 in
theorem QT (n:Nat) (w:World) (hn:n<=1000000):
  Calls Tryz.prog 56 #[.slice none 0 0,.int .i64 n] w fun e w'=>∃v,e=.returned v/\w.grownBy w' none/\w'.ownsRow w.heap.size 5 1 v 0 []:=by
 have i0:¬(n:Int)<0:=by omega
 by_cases hz:n=0
 .subst hz
  go_enter Tryz.func56,Tryz.ntmps56
  go_wp2
  go_ret
  exact⟨_,rfl,ah _ _,World.ownsRow_nil w _ 5 1⟩
 .have i1:(0:Int)<(n:Int):=by omega
  obtain⟨a0,hs0,_⟩:=zY none 0 0 0 (Nat.le_refl _)
  obtain⟨v2,w2,hr2,ho2,hg2⟩:=Ef w w.heap.size 0 n (.slice none 0 0) [] (World.ownsRow_nil w _ 5 1) (by omega) (by omega) (Nat.le_refl _)
  rw[Nat.zero_add,List.nil_append]at ho2
  obtain⟨g,c,rfl,hbg,hnc,hcm,hlt⟩:=sw ho2 (by omega)
  obtain⟨a1,hs1,ha1⟩:=zY (some ⟨g,0,none⟩) n c 0 (Nat.zero_le _)
  rw[ha1 g 0 rfl]at hs1
  have ho3:=QO ho2 (Nat.zero_le n)
  rw[List.take_zero]at ho3
  have H:=Lib.hid (And.intro hg2 ho3);clear ho2 hg2 ho3
  have HR:=Lib.hid hr2;clear hr2
  have HS:=Lib.hid (And.intro hs0 hs1);clear hs0 hs1
  go_enter Tryz.func56,Tryz.ntmps56
  go_wp2_with (at_builtin;refine Lib.wpList_append_run w rfl (.tmp 20) (.tmp 21) 22 3 rfl (.slice none 0 0) (.int .i64 (n:Int)) rfl rfl _ _ HR.out ?_)
  go_ret
  exact⟨_,rfl,H.out.1,H.out.2⟩
theorem Df (L:List (List Nat)) (k:Nat) (hk:k<L.length):(L.take (k+1)).flatten=(L.take k).flatten++L.getD k []:=by
 rw[List.take_succ_eq_append_getElem hk,List.flatten_append,List.getD_eq_getElem?_getD,List.getElem?_eq_getElem hk]
 simp
theorem Md (L:List (List Nat)) (k:Nat):(L.take k).flatten.length<=L.flatten.length:=by
 conv=>rhs;rw[<- List.take_append_drop k L]
 rw[List.flatten_append,List.length_append];omega
set_option maxRecDepth 100000 in
set_option maxHeartbeats 1600000 in
theorem J4 (m cap B:Nat) (L:List (List Nat)) (a:Option Addr) (w:World) (hm:L.length=m) (hR:jl w B a L) (hm2:m<9223372036854775808) (hlen:L.flatten.length<=1000000):
  Calls Tryz.prog 34 #[.slice a m cap] w fun e w'=>∃v,e=.returned v/\w.grownBy w' none/\w'.ownsRow w.heap.size 5 1 v L.flatten.length (L.flatten.map dD):=by
 have HR:=Lib.hid hR;clear hR
 have HL:=Lib.hid hlen;clear hlen
 have HM:=Lib.hid hm;clear hm
 go_enter Tryz.func34,Tryz.ntmps34
 go_wp2_with (fail)
 go_loopw [3,11] (fun v i wr=>∃k j:Nat,k<=m/\i=.int .i64 k/\v=.int .i64 ((L.take k).flatten.length:Nat)/\wr=w.drewN j) (fun _ i _=>m-(intOf i).toNat)
 case atStart=>exact⟨0,0,by omega,rfl,rfl,rfl⟩
 case round=>
  obtain⟨k,j,hk,rfl,rfl,rfl⟩:=hrel
  by_cases hlt:k<m
  .obtain⟨pb,po,ai,ci,rfl,hpb,k1,hB⟩:=HR.out.at (i:=k) (by rw[HM.out];exact hlt)
   have i0:(k:Int)<(m:Int):=by omega
   have hN:=Df L k (by rw[HM.out];exact hlt)
   have hN':(L.take (k+1)).flatten.length=(L.take k).flatten.length+(L.getD k []).length:=by rw[hN,List.length_append]
   have hle:=Md L (k+1)
   have h6:=HL.out
   have i1:¬(((L.take k).flatten.length:Nat):Int)+(((L.getD k []).length:Nat):Int)<0:=by omega
   have i2:(((L.take k).flatten.length:Nat):Int)+(((L.getD k []).length:Nat):Int)<=1000000:=by omega
   clear hN hle h6 hB
   have HN:=Lib.hid hN';clear hN'
   generalize (L.take k).flatten.length=s at *
   generalize (L.getD k []).length=t at *
   go_wp2_with fail
   exact⟨⟨k+1,j,by omega,rfl,by rw[HN.out];rfl,rfl⟩,by show m-((k:Int)+1).toNat<m-(k:Int).toNat;omega⟩
  .obtain rfl:k=m:=by omega
   clear hlt
   have e0:L.take k=L:=by rw[<- HM.out];exact List.take_length
   rw[e0]
   obtain⟨s,hs⟩:∃s,s=L.flatten.length:=⟨_,rfl⟩
   rw[<- hs]at HL ⊢
   have HS:=Lib.hid (And.intro hs e0);clear hs e0
   have gw:w.grownBy (w.drewN j) none:=iM (ah _ _) j
   go_wp2_with (fail)
   refine (QT s (w.drewN j) HL.out).mono ?_
   rintro e w1 ⟨v,rfl,hg,ho⟩
   have HG:=Lib.hid (And.intro (aj gw hg) (jv ho gw.size));clear hg ho gw
   go_wp2_with (fail)
   go_loopw [6,27] (fun v i wr=>∃(q:Nat) (u:Value),u=v/\q<=k/\i=.int .i64 q/\w.grownBy wr none/\wr.ownsRow w.heap.size 5 1 u (L.take q).flatten.length ((L.take q).flatten.map dD)) (fun _ i _=>k-(intOf i).toNat)
   case atStart=>exact⟨0,_,rfl,by omega,rfl,HG.out⟩
   case round=>
    obtain⟨q,vr,rfl,hq,rfl,hg,ho⟩:=hrel
    by_cases hlt:q<k
    .obtain⟨pb,po,ai,ci,rfl,hpb,k1,hB⟩:=HR.out.at (i:=q) (by rw[HM.out];exact hlt)
     have i0:(q:Int)<(k:Int):=by omega
     have hN:=Df L q (by rw[HM.out];exact hlt)
     have hle:=Md L (q+1)
     have h6:=HL.out
     have hB2:=hB.stay hg
     have k2:wr.cell? ⟨pb,po+q,none⟩=some (.slice ai (L.getD q []).length ci):=by
      rw[bf hg (p:=⟨pb,po+q,none⟩) (Nat.lt_of_lt_of_le hpb HR.out.lim) (by simp)];exact k1
     obtain⟨v2,w2,hr2,ho2,hg2⟩:=nD wr w.heap.size _ B ci _ vr _ ai (L.getD q []) ho rfl hB2 (by have e:=HS.out.1;rw[hN,List.length_append,<- e]at hle;omega) hg.size
     have HN:=Lib.hid (And.intro hN (And.intro ho2 (QS hg ho hg2)));clear hN hle h6 hB hB2 k1 ho2 hg2
     have hap:=hr2;clear hr2
     obtain⟨t,ht⟩:∃t,t=(L.getD q []).length:=⟨_,rfl⟩
     rw[<- ht]at hap k2
     have HT:=Lib.hid ht;clear ht
     go_wp2_with (at_builtin;refine wpList_append_run rfl (.tmp 31) (.tmp 32) 22 rfl rfl _ _ rfl rfl _ _ hap ?_)
     exact⟨⟨q+1,_,rfl,by omega,rfl,HN.out.2.2,by rw[HN.out.1,List.length_append,List.map_append];exact HN.out.2.1⟩,by show k-((q:Int)+1).toNat<k-(q:Int).toNat;omega⟩
    .obtain rfl:q=k:=by omega
     clear hlt
     have HI:=Lib.hid (And.intro hg ho);clear hg ho
     go_wp2_with (fail)
     go_ret
     obtain⟨hg,ho⟩:=HI.out
     rw[HS.out.2]at ho
     exact⟨_,rfl,hg,ho⟩
set_option maxRecDepth 100000 in
set_option maxHeartbeats 400000 in
theorem qp (m cap B:Nat) (L:List (List Nat)) (a:Option Addr) (w:World) (hm:L.length=m) (hR:jl w B a L) (hm2:m<9223372036854775808) (hlen:L.flatten.length<=1000000):
  Calls Tryz.prog 18 #[.slice a m cap] w fun e w'=>∃v,e=.returned v/\w.grownBy w' none/\w'.ownsRow w.heap.size 5 1 v L.flatten.length (L.flatten.map dD):=by
 have HC:=Lib.hid (J4 m cap B L a w hm hR hm2 hlen);clear hm hR hm2 hlen
 go_enter Tryz.func18,Tryz.ntmps18
 go_wp2_with (fail)
 refine HC.out.mono ?_
 rintro e w' ⟨v,rfl,hr⟩
 have H:=Lib.hid hr;clear hr
 go_wp2
 go_ret
 exact⟨v,rfl,H.out⟩
end
section
open Go.RowKit Ow Wi
theorem jB {w:World} {base n:Nat} {v:Value} {l:List Nat} (h:w.ownsRow base 5 1 v n (l.map dD)) (hb:∀i,l.getD i 0<256):
  ∃a c,v=.slice a n c/\l.length=n/\BytesAt w w.heap.size a c l/\(∀pb po,a=some ⟨pb,po,none⟩->base<=pb/\pb<w.heap.size):=by
 have hn:l.length=n:=by have:=h.1;rw[List.length_map]at this;omega
 by_cases h0:0<n
 .obtain⟨g,c,rfl,hbg,hnc,hB⟩:=FR h hn h0 hb
  exact⟨_,c,rfl,hn,hB,fun pb po e=>by cases e;exact⟨hbg,(nY h).1⟩⟩
 .obtain rfl:n=0:=by omega
  obtain rfl:l=[]:=List.eq_nil_of_length_eq_zero hn
  have h':=h
  rcases h'.2 with⟨rfl,_⟩ |⟨g,c,cur,rfl,hbg,_,_,hcm,_⟩
  .exact⟨none,0,rfl,rfl,⟨Nat.le_refl _,Nat.le_refl _,by decide,by simp,Or.inl rfl⟩,fun pb po e=>by cases e⟩
  .exact⟨_,c,rfl,rfl,⟨Nat.le_refl _,Nat.zero_le _,by unfold maxLen at hcm;omega,by simp,Or.inl rfl⟩,fun pb po e=>by cases e;exact⟨hbg,(nY h).1⟩⟩
theorem X8 {w:World} {a:Option Addr} {n c:Nat} {l:List Nat} (hl:l.length=n) (h:BytesAt w w.heap.size a c l):
  jl (w.alloc (.cells #[.slice a n c] 22)) (w.heap.size+1) (some ⟨w.heap.size,0,none⟩) [l]:=by
 have hb:=aH.new w [.slice a n c] 22
 refine⟨by simp,Or.inr ⟨w.heap.size,0,rfl,by omega,fun i hi=>?_⟩⟩
 obtain rfl:i=0:=by simp at hi;omega
 exact⟨a,c,by rw[Nat.zero_add];subst hl;exact hb.cell (i:=0) rfl,(h.stay (av (ah w none) _)).up (by omega) (by simp)⟩
theorem FT {l:List Nat} (h:∀i,l.getD i 0<256):∀b∈l,b<256:=fun b hb=>by
 obtain⟨i,hi,rfl⟩:=List.getElem_of_mem hb
 have:=h i
 rwa [List.getD_eq_getElem?_getD,List.getElem?_eq_getElem hi]at this
def Ei (m k:Nat):List Value:=(List.range 8).map fun i=>if i<k then dD (m/2^(8*(7-i))%256) else dD 0
theorem QU (m k:Nat) (hk:k<8):(Ei m k).set k (dD (m/2^(8*(7-k))%256))=Ei m (k+1):=by
 apply List.ext_getElem?
 intro i
 unfold Ei
 rw[List.getElem?_set]
 simp only[List.length_map,List.length_range,List.getElem?_map]
 by_cases hi:i<8
 .rw[List.getElem?_range hi]
  by_cases h:k=i
  .subst h;simp[hk]
  .have h2:i<k↔i<k+1:=by omega
   simp[h,h2]
 .have h:¬k=i:=by omega
  rw[if_neg h,List.getElem?_eq_none (by simp;omega)]
  rfl
theorem QV (m:Nat):Ei m 8=(FP m).map dD:=by
 unfold Ei FP
 rw[List.map_map]
 apply List.map_congr_left
 intro i hi
 rw[if_pos (List.mem_range.1 hi)]
 rfl
set_option maxRecDepth 100000 in
set_option maxHeartbeats 1600000 in
theorem zZ (n:Int) (w:World):
  Calls Tryz.prog 42 #[.int .i64 n] w fun e w'=>∃g,e=.returned (.slice (some ⟨g,0,none⟩) 8 8)/\w.grownBy w' none/\w.heap.size<=g/\aH w' g 5 ((dR n).map dD):=by
 have hw:IntKind.u64.wrap n=(L8 n:Nat):=by
  rw[show IntKind.u64.wrap n=n%18446744073709551616 by simp[IntKind.wrap,IntKind.signed,IntKind.bits]]
  unfold L8
  omega
 obtain⟨m,hm⟩:∃m,m=L8 n:=⟨_,rfl⟩
 obtain⟨N,hN⟩:∃N,N=w.heap.size:=⟨_,rfl⟩
 have hlt:=JY n
 rw[<- hm]at hw hlt
 obtain⟨w1,hmk,hg1,hs1,hb1⟩:=J2 8 8 w (Nat.le_refl _) (by omega)
 have hmk':(Instr.makeSlice 22 (.int .i64 8) (.int .i64 8)).run Tryz.prog w=.ok (.slice (some ⟨w.heap.size,0,none⟩) 8 8) w1:=hmk
 rw[<- hN]at hmk' hb1
 have HS:=Lib.hid (And.intro hg1 hb1);clear hg1 hb1 hmk hs1
 have HN:=Lib.hid (And.intro (Nat.le_of_eq hN.symm) hm);clear hN hm
 go_enter Tryz.func42,Tryz.ntmps42
 go_wp2_with (fail)
 go_loopw [11] (fun i wr=>∃k:Nat,k<=8/\i=.int .i64 k/\w.grownBy wr none/\aH wr N 5 (Ei m k)) (fun i _=>8-(intOf i).toNat)
 case atStart=>exact⟨0,by decide,rfl,HS.out⟩
 case round=>
  obtain⟨k,hk,rfl,hg,hb⟩:=hrel
  by_cases hlt:k<8
  .have i0:(k:Int)<8:=by omega
   have hlen:(Ei m k).length=8:=by unfold Ei;simp
   obtain⟨c,hc⟩:∃c,(Ei m k)[k]?=some c:=⟨_,List.getElem?_eq_getElem (by omega)⟩
   have k0:=hb.cell hc
   have f0:=hb.free k
   have HB:=Lib.hid (And.intro hg hb);clear hg hb hc hlen
   go_wp2_with (fail)
   obtain⟨hg,hb⟩:=HB.out
   have e1:((m:Int)/2^(8*(7-k))%256)=((m/2^(8*(7-k))%256:Nat):Int):=by simp
   refine⟨⟨k+1,hlt,rfl,aO hg HN.out.1 _,?_⟩,by show 8-((k:Int)+1).toNat<8-(k:Int).toNat;omega⟩
   rw[e1,<- QU m k hlt]
   exact hb.set k _
  .obtain rfl:k=8:=by omega
   have HB:=Lib.hid (And.intro hg hb);clear hg hb
   go_wp2
   go_ret
   exact⟨N,rfl,HB.out.1,HN.out.1,by have h:=HB.out.2;rw[QV,HN.out.2]at h;exact h⟩
theorem abA {w:World} {a1 a2:Option Addr} {n1 c1 n2 c2:Nat} {l1 l2:List Nat} (hl1:l1.length=n1) (hl2:l2.length=n2) (h1:BytesAt w w.heap.size a1 c1 l1) (h2:BytesAt w w.heap.size a2 c2 l2):
  jl (w.alloc (.cells #[.slice a1 n1 c1,.slice a2 n2 c2] 22)) (w.heap.size+1) (some ⟨w.heap.size,0,none⟩) [l1,l2]:=by
 have hb:=aH.new w [.slice a1 n1 c1,.slice a2 n2 c2] 22
 have hg:=av (ah w none) (.cells #[.slice a1 n1 c1,.slice a2 n2 c2] 22)
 subst hl1 hl2
 refine⟨by simp,Or.inr ⟨w.heap.size,0,rfl,by omega,fun i hi=>?_⟩⟩
 obtain rfl|rfl:i=0\/i=1:=by simp at hi;omega
 .exact⟨a1,c1,by rw[Nat.zero_add];exact hb.cell (i:=0) rfl,(h1.stay hg).up (by omega) (by simp)⟩
 .exact⟨a2,c2,by rw[Nat.zero_add];exact hb.cell (i:=1) rfl,(h2.stay hg).up (by omega) (by simp)⟩
theorem qN {n:Int} {w:World} {g:Nat} (h:aH w g 5 ((dR n).map dD)):BytesAt w w.heap.size (some ⟨g,0,none⟩) 8 (dR n):=
 nL (tl:=[]) (by rw[List.append_nil];exact h) (cO n) (Nat.le_refl _) (by decide) (fun i=>nO n i) h.lt (Nat.le_refl _)
theorem J5 (n cap B:Nat) (a:Option Addr) (l:List Nat) (w:World) (hl:l.length=n) (hn:n<=900000) (hP:BytesAt w B a cap l):
  Calls Tryz.prog 39 #[.slice a n cap] w fun e w'=>∃v,e=.returned v/\w.grownBy w' none/\w'.ownsRow w.heap.size 5 1 v (8+n) ((dR (n:Int)++l).map dD):=by
 have HP:=Lib.hid (And.intro hl (And.intro hn hP));clear hl hn hP
 have HN:=Lib.hid (zZ (n:Int) w)
 go_enter Tryz.func39,Tryz.ntmps39
 go_wp2_with (fail)
 refine HN.out.mono ?_
 rintro e w1 ⟨g,rfl,hg,_,hb⟩
 have H1:=Lib.hid (And.intro hg hb);clear hg hb
 go_wp2_with (fail)
 refine (qp 2 2 _ [dR (n:Int),l] _ _ rfl (abA (cO _) HP.out.1 (qN H1.out.2) (HP.out.2.2.stay H1.out.1).full) (by decide) (by have h1:=HP.out.1;have h2:=HP.out.2.1;simp only[List.flatten_cons,List.flatten_nil,List.append_nil,List.length_append,cO];omega)).mono ?_
 rintro e w2 ⟨v,rfl,hg,ho⟩
 simp only[List.flatten_cons,List.flatten_nil,List.append_nil]at ho
 have gz:=av H1.out.1 (.cells #[.slice (some ⟨g,0,none⟩) 8 8,.slice a n cap] 22)
 have H2:=Lib.hid (And.intro (aj gz hg) (jv ho gz.size));clear gz hg ho
 go_wp2
 go_ret
 exact⟨v,rfl,H2.out.1,by have h:=H2.out.2;rw[List.length_append,cO,HP.out.1]at h;exact h⟩
end
section
open Go.RowKit Ow
theorem Dh:Elt 22 68 24 (.slice none 0 0):=by
 refine⟨Tryz.underlying68,?_⟩
 have h:(Tryz.prog.info? 22).map (fun i=>(i.zero,i.size,i.bytes))=some (some (.slice none 0 0),1,24):=by kernel_rfl
 cases hi:Tryz.prog.info? 22 with
 | none=>rw[hi]at h;cases h
 | some i=>
  rw[hi]at h
  simp only[Option.map_some,Option.some.injEq,Prod.mk.injEq]at h
  exact⟨i,rfl,h.1,h.2.1,h.2.2,rfl⟩
theorem _root_.Go.World.ownsRow.stay {w w':World} {base e n:Nat} {v:Value} {xs:List Value} (h:w.ownsRow base e 1 v n xs) (hg:w.grownBy w' none):w'.ownsRow base e 1 v n xs:=by
 refine⟨h.1,?_⟩
 rcases h.2 with h0 |⟨g,c,cur,e1,h1,h2,h3⟩
 .exact Or.inl h0
 .exact Or.inr ⟨g,c,cur,e1,h1,by rw[hg.block g (Array.getElem?_eq_some_iff.1 h2).1 (by simp)];exact h2,h3⟩
def Parts (w:World) (base:Nat) (v:Value) (L:List (List Nat)):Prop:=
 ∃xs,w.ownsRow base 22 1 v L.length xs/\∀i,i<L.length->∃a c,xs[i]?=some (.slice a (L.getD i []).length c)/\BytesAt w w.heap.size a c (L.getD i [])/\∀pb po,a=some ⟨pb,po,none⟩->v.ownBlock≠some pb/\pb<w.heap.size
theorem Parts.nil (w:World) (base:Nat):Parts w base (.slice none 0 0) []:=⟨[],World.ownsRow_nil w _ _ 1,fun i hi=>by simp at hi⟩
theorem Parts.stay {w w':World} {base:Nat} {v:Value} {L:List (List Nat)} (h:Parts w base v L) (hg:w.grownBy w' none):Parts w' base v L:=by
 obtain⟨xs,ho,hc⟩:=h
 refine⟨xs,ho.stay hg,fun i hi=>?_⟩
 obtain⟨a,c,h1,h2,h3⟩:=hc i hi
 exact⟨a,c,h1,(h2.stay hg).full,fun pb po e=>⟨(h3 pb po e).1,Nat.lt_of_lt_of_le (h3 pb po e).2 hg.size⟩⟩
theorem Parts.rows {w:World} {base:Nat} {v:Value} {L:List (List Nat)} (h:Parts w base v L):∃a cap,v=.slice a L.length cap/\jl w w.heap.size a L:=by
 obtain⟨xs,ho,hc⟩:=h
 rcases Dc ho with⟨rfl,h0⟩ |⟨g,c,rfl⟩
 .refine⟨Option.none,0,by rw[h0],Nat.le_refl _,Or.inl h0⟩
 .refine⟨_,c,rfl,Nat.le_refl _,Or.inr ⟨g,0,rfl,(nY ho).1,fun i hi=>?_⟩⟩
  obtain⟨a,c,h1,h2,_⟩:=hc i hi
  exact⟨a,c,by rw[Nat.zero_add];exact nV ho h1,h2⟩
end
section
open Go.RowKit Ow
namespace Fg
def It.by (l:List Nat):It:=⟨fun v w=>∃a cap B,v=.slice a l.length cap/\BytesAt w B a cap l,fun _ _ _ ⟨a,cap,B,e,h⟩ hg=>⟨a,cap,B,e,h.stay hg⟩⟩
def It.rws (L:List (List Nat)):It:=⟨fun v w=>∃a cap B,v=.slice a L.length cap/\jl w B a L,fun _ _ _ ⟨a,cap,B,e,h⟩ hg=>⟨a,cap,B,e,h.stay hg⟩⟩
section
variable {P:Program} {ops:Array Oper} {Q:Exit->Act->World->Prop} {L:List It} {W0:World} {a0:Act} {ps:List Nat}
abbrev AtT (k:Nat) (ps:List Nat) (L:List It) (W0:World) (a0:Act) (ops:Array Oper) (o:Oper) (a:Act) (w:World):Prop:=JJ k ps L (fun w=>W0.grownBy w none) a0 ops o a w
abbrev StT (k:Nat) (ps:List Nat) (P:Program) (Q:Exit->Act->World->Prop) (L:List It) (W0:World) (a0:Act) (ops:Array Oper) (i:Nat) (o:Oper):Prop:=(∃d,o.dst=some d)/\vX k ps P Q L (fun w=>W0.grownBy w none) a0 ops i o
theorem vT {k i:Nat} {o:Oper} {d:Nat} (hd:o.dst=some d) (hps:(ps.all fun s=>s !=d)=true)
  (h:∀a w,AtT k ps L W0 a0 ops o a w->∃v w',iH ops o a/\(execOp a.eval o).run P w=.ok (.value v) w'/\w.grownBy w' none/\its L d v w'):StT k ps P Q L W0 a0 ops i o:=
 ⟨⟨d,hd⟩,xE (fun _ _ h k=>aj h k) hd hps fun a w hF=>by
  obtain⟨v,w',hw,hr,hg,hG⟩:=h a w hF
  exact⟨hw,v,w',hr,hg,hG⟩⟩
theorem cT {k i:Nat} {o:Oper} {d:Nat} (hd:o.dst=some d) (hps:(ps.all fun s=>s !=d)=true)
  (h:∀a w,AtT k ps L W0 a0 ops o a w->∃f args,iH ops o a/\(execOp a.eval o).run P w=.ok (.enter f args) w/\Calls P f args w fun e w'=>∃v,e=.returned v/\w.grownBy w' none/\its L d v w'):StT k ps P Q L W0 a0 ops i o:=
 ⟨⟨d,hd⟩,QG (fun _ _ h k=>aj h k) hd hps fun a w hF=>by
  obtain⟨f,args,hw,hr,hc⟩:=h a w hF
  exact⟨hw,f,args,hr,hc⟩⟩
theorem sD {id:Nat} {w:World} (ps:List Nat) (L:List It) (W0:World) (k:Nat) (hB0:W0.grownBy w none) (hm:P.follows .mixedOrders=true) (ht:vP ops=true) (ho:once (ops.extract 0 k) a0.tmps.size=true) (htl:xC ops k=true) (hk:k<=ops.size)
  (hu:(ps.all fun s=>match a0.tmps.getD s undef with | .pointer _=>false|_=>true)=true)
  (steps:mU k ps P Q L (fun w=>W0.grownBy w none) a0 ops 0 (ops.toList.take k))
  (fin:∀a w',W0.grownBy w' none->a.tmps.size=a0.tmps.size->a.defers=a0.defers->(∀d,fH ops k d=false->a.tmps.getD d undef=a0.tmps.getD d undef)->
   (∀d,fH ops k d=true->its L d (a.tmps.getD d undef) w')->bJ ps a w'->wpList P ops Q (ops.toList.drop k) a w'):(Code.region id ops true).wp P Q a0 w:=
 jM L (fun w=>W0.grownBy w none) k (aX hB0) hm ht ho htl hk (nW hu) steps fin
end
end Fg
end
section
open Go.RowKit Ow Wi
def Cq (w:World) (l:List Nat) (e:Ending) (w':World):Prop:=∃a c,e=.returned (.slice a l.length c)/\w.grownBy w' none/\BytesAt w' w'.heap.size a c l
theorem wo {w w':World} {base n:Nat} {v:Value} {l:List Nat} (hg:w.grownBy w' none) (h:w'.ownsRow base 5 1 v n (l.map dD)) (hn:l.length=n) (hb:∀i,l.getD i 0<256):Cq w l (.returned v) w':=by
 subst hn
 obtain⟨a,c,rfl,_,hB,_⟩:=jB h hb
 exact⟨a,c,rfl,hg,hB⟩
theorem kr {p q:List Nat} (hp:∀i,p.getD i 0<256) (hq:∀i,q.getD i 0<256) (i:Nat):(p++q).getD i 0<256:=by
 rw[List.getD_eq_getElem?_getD,List.getElem?_append]
 split
 .rw[<- List.getD_eq_getElem?_getD];exact hp i
 .rw[<- List.getD_eq_getElem?_getD];exact hq _
theorem Di {L:List (List Nat)} (h:∀l∈L,∀i,l.getD i 0<256):∀i,L.flatten.getD i 0<256:=by
 induction L with
 | nil=>intro i;simp
 | cons l r ih=>
  intro i
  rw[List.flatten_cons]
  exact kr (h l (by simp)) (ih fun l hl=>h l (by simp[hl])) i
theorem J6 (n:Int) (w:World):Calls Tryz.prog 42 #[.int .i64 n] w (Cq w (dR n)):=
 (zZ n w).mono fun e w' ⟨g,he,hg,_,hb⟩=>⟨_,8,by rw[cO];exact he,hg,qN hb⟩
theorem Dj (n:Nat) (l:List Nat) (a:Option Addr) (cap B:Nat) (w:World) (hn:l.length=n) (h:BytesAt w B a cap l) (hl:l.length<=900000):Calls Tryz.prog 39 #[.slice a n cap] w (Cq w (dR (l.length:Int)++l)):=by
 subst hn
 exact (J5 l.length cap B a l w rfl hl h).mono fun e w' ⟨v,he,hg,ho⟩=>he▸wo hg ho (by rw[List.length_append,cO]) (kr (nO _) h.byte)
theorem QW (n:Nat) (L:List (List Nat)) (a:Option Addr) (cap B:Nat) (w:World) (hn:L.length=n) (h:jl w B a L) (hm:L.length<9223372036854775808) (hl:L.flatten.length<=1000000) (hb:∀l∈L,∀i,l.getD i 0<256):Calls Tryz.prog 18 #[.slice a n cap] w (Cq w L.flatten):=by
 subst hn
 exact (qp L.length cap B L a w rfl h hm hl).mono fun e w' ⟨v,he,hg,ho⟩=>he▸wo hg ho rfl (Di hb)
def z8 (p:Option Addr×Nat×List Nat):Value:=.slice p.1 p.2.2.length p.2.1
theorem FU {w:World} (T:TypeId) (P:List (Option Addr×Nat×List Nat)) (h:∀p∈P,∃B,BytesAt w B p.1 p.2.1 p.2.2):
  jl (w.alloc (.cells (P.map z8).toArray T)) (w.heap.size+1) (some ⟨w.heap.size,0,none⟩) (P.map (·.2.2)):=by
 have hb:=aH.new w (P.map z8) T
 have hg:=av (ah w none) (.cells (P.map z8).toArray T)
 refine⟨by simp,Or.inr ⟨w.heap.size,0,rfl,by omega,fun i hi=>?_⟩⟩
 rw[List.length_map]at hi
 have e:P[i]?=some P[i]:=List.getElem?_eq_getElem hi
 obtain⟨B,hB⟩:=h P[i] (List.getElem_mem hi)
 have e2:(P.map (·.2.2)).getD i []=P[i].2.2:=by rw[List.getD_eq_getElem?_getD,List.getElem?_map,e];rfl
 refine⟨P[i].1,P[i].2.1,?_,?_⟩
 .rw[Nat.zero_add,e2]
  exact hb.cell (by rw[List.getElem?_map,e];rfl)
 .rw[e2]
  exact (hB.stay hg).up (Nat.le_trans hB.lim (by omega)) (by simp)
theorem Dk {w:World} (l:List Nat) (h:∀i,l.getD i 0<256) (hl:l.length<1000000):BytesAt (w.alloc (.cells (l.map dD).toArray 5)) (w.heap.size+1) (some ⟨w.heap.size,0,none⟩) l.length l:=
 nL (tl:=[]) (by rw[List.append_nil];exact aH.new w (l.map dD) _) rfl (Nat.le_refl _) (by omega) h (by omega) (by simp)
end
section
open Go.RowKit Ow Wi
theorem xH {w':World} {base:Nat} {v':Value} {L:List (List Nat)} {P:List (Option Addr×Nat×List Nat)} {xs:List Value} (hxl:xs.length=L.length)
  (ho:w'.ownsRow base 22 1 v' (L.length+P.length) (xs++P.map z8))
  (hold:∀i,i<L.length->∃a c,xs[i]?=some (.slice a (L.getD i []).length c)/\BytesAt w' w'.heap.size a c (L.getD i [])/\∀pb po,a=some ⟨pb,po,none⟩->v'.ownBlock≠some pb/\pb<w'.heap.size)
  (hnew:∀p∈P,BytesAt w' w'.heap.size p.1 p.2.1 p.2.2/\∀pb po,p.1=some ⟨pb,po,none⟩->v'.ownBlock≠some pb/\pb<w'.heap.size):Parts w' base v' (L++P.map (·.2.2)):=by
 refine⟨xs++P.map z8,by rw[List.length_append,List.length_map];exact ho,fun i hi=>?_⟩
 rw[List.length_append,List.length_map]at hi
 by_cases h:i<L.length
 .obtain⟨a1,c1,h1,h2,h3⟩:=hold i h
  have e:(L++P.map (·.2.2)).getD i []=L.getD i []:=by rw[List.getD_eq_getElem?_getD,List.getD_eq_getElem?_getD,List.getElem?_append_left h]
  rw[e]
  exact⟨a1,c1,by rw[List.getElem?_append_left (by omega)];exact h1,h2,h3⟩
 .obtain⟨j,rfl⟩:∃j,i=L.length+j:=⟨i-L.length,by omega⟩
  have hj:j<P.length:=by omega
  have e0:P[j]?=some P[j]:=List.getElem?_eq_getElem hj
  have e:(L++P.map (·.2.2)).getD (L.length+j) []=P[j].2.2:=by
   rw[List.getD_eq_getElem?_getD,List.getElem?_append_right (by omega),show L.length+j-L.length=j by omega,List.getElem?_map,e0];rfl
  rw[e]
  obtain⟨h2,h3⟩:=hnew P[j] (List.getElem_mem hj)
  exact⟨_,_,by rw[List.getElem?_append_right (by omega),show L.length+j-xs.length=j by omega,List.getElem?_map,e0];rfl,h2,h3⟩
theorem FV (w:World) (base b:Nat) (T:TypeId) (v:Value) (L:List (List Nat)) (P:List (Option Addr×Nat×List Nat)) (h:Parts w base v L) (hB:aH w b T (P.map z8)) (hvb:v.ownBlock≠some b) (hp:0<P.length)
  (hP:∀p∈P,BytesAt w w.heap.size p.1 p.2.1 p.2.2/\∀pb po,p.1=some ⟨pb,po,none⟩->v.ownBlock≠some pb/\pb<w.heap.size) (hb:base<=w.heap.size) (hk:L.length+P.length<=1000000):
  ∃v' w',(Builtin.append_ #[68,68] 68 #[v,.slice (some ⟨b,0,none⟩) P.length P.length]).run Tryz.prog w=.ok v' w'/\Parts w' base v' (L++P.map (·.2.2))/\w.grownBy w' v.ownBlock/\(∀g,v'.ownBlock=some g->v.ownBlock=some g\/w.heap.size<=g):=by
 obtain⟨xs,ho,hc⟩:=h
 have hnews:∀j u,(P.map z8)[j]?=some u->w.cell? ((⟨b,0,none⟩:Addr).add j)=some u:=fun j u hu=>by
  have hadd:(⟨b,0,none⟩:Addr).add j=⟨b,j,none⟩:=by unfold Addr.add;split<;>simp_all
  rw[hadd];exact hB.cell hu
 have h1:∀u∈P.map z8,u.oneCell'=true:=fun u hu=>by
  obtain⟨p,_,rfl⟩:=List.mem_map.1 hu;rfl
 have hxl:xs.length=L.length:=by have:=ho.1;omega
 rcases Dc ho with⟨rfl,h0⟩ |⟨g,cap,rfl⟩
 .obtain rfl:L=[]:=List.eq_nil_of_length_eq_zero h0
  obtain⟨g,c',w',hr,hno,hgr⟩:=zU Dh w ⟨b,0,none⟩ P.length P.length (P.map z8) hp (List.length_map _) hnews h1 (by omega) (by omega)
  have hgn:=(nY hno).2.1
  refine⟨_,w',hr,?_,hgr,fun g' e=>by simp only[Value.ownBlock,Option.some.injEq]at e;omega⟩
  refine xH (xs:=[]) rfl (by rw[List.length_nil,Nat.zero_add,List.nil_append];exact jv hno hb) (fun i hi=>by simp at hi) (fun p hp=>⟨((hP p hp).1.stay hgr).full,fun pb po e=>?_⟩)
  have h5:=((hP p hp).2 pb po e).2
  have h6:=hgr.size
  exact⟨fun e2=>by simp only[Value.ownBlock,Option.some.injEq]at e2;omega,by omega⟩
 .have hgl:=(nY ho).1
  rcases wm Dh w base g L.length cap xs ho ⟨b,0,none⟩ P.length P.length (P.map z8) (List.length_map _) hnews h1 (by omega) (by omega) with⟨_,w',hr,hno,hgr⟩ |⟨_,c',w',hr,hno,hgr⟩
  .refine⟨_,w',hr,?_,hgr,fun g' e=>Or.inl e⟩
   refine xH hxl hno (fun i hi=>?_) (fun p hp=>⟨((hP p hp).1.apart hgr (Or.inr fun pb po e e2=>?_)).full,fun pb po e=>⟨((hP p hp).2 pb po e).1,by have h5:=((hP p hp).2 pb po e).2;have h6:=hgr.size;omega⟩⟩)
   .obtain⟨a1,c1,e1,e2,e3⟩:=hc i hi
    exact⟨a1,c1,e1,(e2.apart hgr (Or.inr fun pb po e e4=>(e3 pb po e).1 (by rw[e4];rfl))).full,fun pb po e=>⟨(e3 pb po e).1,by have h5:=(e3 pb po e).2;have h6:=hgr.size;omega⟩⟩
   .exact ((hP p hp).2 pb po e).1 (by rw[e2];rfl)
  .refine⟨_,w',hr,?_,dB hgr _,fun g' e=>by simp only[Value.ownBlock,Option.some.injEq]at e;omega⟩
   refine xH hxl (jv hno hb) (fun i hi=>?_) (fun p hp=>⟨((hP p hp).1.stay hgr).full,fun pb po e=>?_⟩)
   .obtain⟨a1,c1,e1,e2,e3⟩:=hc i hi
    refine⟨a1,c1,e1,(e2.stay hgr).full,fun pb po e=>?_⟩
    have h5:=(e3 pb po e).2
    have h6:=hgr.size
    exact⟨fun e2=>by simp only[Value.ownBlock,Option.some.injEq]at e2;omega,by omega⟩
   .have h5:=((hP p hp).2 pb po e).2
    have h6:=hgr.size
    exact⟨fun e2=>by simp only[Value.ownBlock,Option.some.injEq]at e2;omega,by omega⟩
namespace Fg
def It.two (n0:Nat) (x y:List Nat):It:=⟨fun v w=>∃b g1 g2,v=.slice (some ⟨b,0,none⟩) 2 2/\(n0<=b/\n0<=g1/\n0<=g2)/\aH w b 22 [.slice (some ⟨g1,0,none⟩) 8 8,.slice (some ⟨g2,0,none⟩) 8 8]/\aH w g1 5 (x.map dD)/\aH w g2 5 (y.map dD),
 fun _ _ _ ⟨b,g1,g2,e,h,h1,h2,h3⟩ hg=>⟨b,g1,g2,e,h,h1.grown hg (by simp),h2.grown hg (by simp),h3.grown hg (by simp)⟩⟩
end Fg
end
section
namespace Ve
abbrev D:=Int×Int
abbrev z0:D:=(0,0)
def Rt:Int->List D->Prop
 | _,[]=>True
 | a,d:: r=>a<d.1/\d.1<=8/\1<=d.2/\d.2<=1073741824/\Rt d.1 r
def Aa:Int->List D->Bool
 | _,[]=>true
 | a,d:: r=>(decide (a<d.1)&&decide (d.1<=8)&&decide (1<=d.2)&&decide (d.2<=1073741824))&&Aa d.1 r
theorem Ej (l:List D):∀a,Aa a l=true↔Rt a l:=by
 induction l with
 | nil=>intro a;simp[Aa,Rt]
 | cons d r ih=>intro a;simp[Aa,Rt,ih,and_assoc]
def up:List D->Int->Int
 | [],_=>0
 | d:: r,c=>if d.1=c then d.2 else up r c
theorem drop_at (l:List D) (k:Nat) (h:k<l.length):l.drop k=l.getD k z0:: l.drop (k+1):=by
 rw[List.drop_eq_getElem_cons h,List.getD_eq_getElem?_getD,List.getElem?_eq_getElem h];rfl
theorem FW (l:List D) (k:Nat) (h:l.length<=k):l.drop k=[]:=List.drop_eq_nil_iff.2 h
theorem Rt.mem {l:List D}:∀{a:Int},Rt a l->∀d∈l,a<d.1/\d.1<=8/\1<=d.2/\d.2<=1073741824:=by
 induction l with
 | nil=>intro a _ d hd;cases hd
 | cons e r ih=>
  intro a h d hd
  rcases List.mem_cons.1 hd with rfl|hd
  .exact⟨h.1,h.2.1,h.2.2.1,h.2.2.2.1⟩
  .have:=ih h.2.2.2.2 d hd
   have:=h.1
   omega
theorem Rt.len {l:List D}:∀{a:Int},Rt a l->a<=8->(l.length:Int)<=8-a:=by
 induction l with
 | nil=>intro a _ h;simp;omega
 | cons e r ih=>intro a h ha;have:=ih h.2.2.2.2 h.2.1;have:=h.1;simp;omega
theorem abB {l:List D}:∀{a:Int} {c:Int},Rt a l->c<=a->up l c=0:=by
 induction l with
 | nil=>intros;rfl
 | cons e r ih=>intro a c h hc;have:=h.1;rw[up,if_neg (by omega)];exact ih h.2.2.2.2 (by omega)
def Cr (a:List D):List D->Bool
 | []=>true
 | d:: r=>decide (d.2<=up a d.1)&&Cr a r
def okD (d:D):Bool:=decide (1<=d.1)&&decide (d.1<=8)&&decide (1<=d.2)&&decide (d.2<=1073741824)
theorem Vf (d:D):okD d=true↔Rt 0 [d]:=by
 simp[okD,Rt,and_assoc];omega
theorem Me (d:D):Aa 0 [d]=okD d:=by
 rw[Bool.eq_iff_iff,Vf,Ej]
def pl (l:List D) (c:Int):Nat:=(List.range l.length).countP (fun i=>!decide (c<=(l.getD i z0).1))
theorem Rt.X9 {l:List D}:∀{a:Int},Rt a l->∀i j,i<j->j<l.length->(l.getD i z0).1<(l.getD j z0).1:=by
 induction l with
 | nil=>intro a _ i j _ h;simp at h
 | cons e r ih=>
  intro a h i j hij hj
  cases j with
  | zero=>omega
  | succ j=>
   simp only[List.length_cons]at hj
   cases i with
   | zero=>
    simp only[List.getD_cons_zero,List.getD_cons_succ]
    have hm:r.getD j z0∈r:=by
     rw[List.getD_eq_getElem?_getD,List.getElem?_eq_getElem (by omega)];exact List.getElem_mem _
    exact (Rt.mem h.2.2.2.2 _ hm).1
   | succ i=>
    simp only[List.getD_cons_succ]
    exact ih h.2.2.2.2 i j (by omega) (by omega)
theorem NV (p:Nat->Bool) (n:Nat) (hm:∀a b,a<=b->b<n->p a=true->p b=true):∃k,(List.range n).countP (fun i=>!p i)=k/\k<=n/\(∀i,i<k->p i=false)/\∀i,k<=i->i<n->p i=true:=by
 induction n with
 | zero=>exact⟨0,rfl,by omega,fun i h=>by omega,fun i _ h=>by omega⟩
 | succ n ih=>
  obtain⟨k,hk,hkn,h1,h2⟩:=ih (fun a b hab hb=>hm a b hab (by omega))
  rw[List.range_succ,List.countP_append,hk]
  by_cases hp:p n=true
  .exact⟨k,by simp[hp],by omega,h1,fun i hi hn=>by
    by_cases hin:i=n
    .subst hin;exact hp
    .exact h2 i hi (by omega)⟩
  .have hp':p n=false:=by simpa using hp
   have hkk:k=n:=by
    rcases Nat.lt_or_ge k n with hlt|hge
    .exact absurd (hm k n (by omega) (by omega) (h2 k (Nat.le_refl _) hlt)) hp
    .omega
   subst hkk
   refine⟨k+1,by simp[hp'],by omega,fun i hi=>?_,fun i hi hn=>by omega⟩
   by_cases hin:i=k
   .subst hin;exact hp'
   .exact h1 i (by omega)
theorem abC {l:List D} {a:Int} (h:Rt a l) (c:Int):pl l c<=l.length/\(∀i,i<pl l c->(l.getD i z0).1<c)/\∀i,pl l c<=i->i<l.length->c<=(l.getD i z0).1:=by
 obtain⟨k,hk,hkn,h1,h2⟩:=NV (fun i=>decide (c<=(l.getD i z0).1)) l.length (fun x y hxy hy hx=>by
  rcases Nat.eq_or_lt_of_le hxy with rfl|hlt
  .exact hx
  .have:=h.X9 x y hlt hy
   simp only[decide_eq_true_eq]at hx ⊢
   omega)
 have hp:pl l c=k:=hk
 rw[hp]
 refine⟨hkn,fun i hi=>?_,fun i hi hn=>?_⟩
 .have:=h1 i hi
  simp only[decide_eq_false_iff_not]at this
  omega
 .have:=h2 i hi hn
  simpa using this
theorem abD {l:List D}:∀{a:Int} {c:Int} (k:Nat),Rt a l->(∀i,i<k->(l.getD i z0).1<c)->(k<l.length->c<=(l.getD k z0).1)->up l c=if k<l.length/\(l.getD k z0).1=c then (l.getD k z0).2 else 0:=by
 induction l with
 | nil=>intro a c k _ _ _;simp[up]
 | cons e r ih=>
  intro a c k h h1 h2
  cases k with
  | zero=>
   have:=h2 (by simp)
   simp only[List.getD_cons_zero]at this
   rw[up]
   by_cases he:e.1=c
   .rw[if_pos he,if_pos ⟨by simp,by simpa using he⟩];rfl
   .rw[if_neg he,if_neg (by simp;exact he)]
    exact abB h.2.2.2.2 (by omega)
  | succ k=>
   have h10:=h1 0 (by omega)
   simp only[List.getD_cons_zero]at h10
   rw[up,if_neg (by omega),ih (c:=c) k h.2.2.2.2 (fun i hi=>by have:=h1 (i+1) (by omega);simpa using this) (fun hk=>by have:=h2 (by simpa using hk);simpa using this)]
   simp only[List.length_cons,List.getD_cons_succ,Nat.add_lt_add_iff_right]
end Ve
end
section
open Wi Ve
namespace Rc
structure R where
 key:List Nat
 cl:Int
 sq:Int
 cx:List D
 gone:Bool
 val:List Nat
 sig:List Nat
def R.dot (r:R):D:=(r.cl,r.sq)
def abE (v:List D) (d:D):Bool:=Aa 0 v&&okD d&&decide (d.2<=up v d.1)
def zn (r:R):Bool:=okD r.dot&&Aa 0 r.cx&&!abE r.cx r.dot
def YT (r:R):Bool:=decide (1<=r.key.length)&&decide (r.key.length<=64)
def YU (r:R):Bool:=decide (r.val.length<=if r.gone then 0 else 1024)
def gV (r:R):Bool:=YT r&&zn r&&YU r
def dY (r:R):Bool:=gV r&&decide (r.sig.length=64)
def gY (g:Bool):Nat:=if g then 1 else 0
def NW (d:D):List Nat:=dR d.1++dR d.2
def bN (l:List D):List Nat:=l.flatMap NW
def gu (l:List Nat):List Nat:=dR (l.length:Int)++l
def dZ (r:R):List Nat:=1:: (gu r.key++(NW r.dot++(dR (r.cx.length:Int)++(bN r.cx++(gY r.gone:: gu r.val)))))
def uV (r:R):List Nat:=dZ r++r.sig
def nS (st:St):Nat->List D×St
 | 0=>([],st)
 | k+1=>((nS st k).1++[(lu (gH (nS st k).2).1,lu (gH (gH (nS st k).2).2).1)],(gH (gH (nS st k).2).2).2)
def sS (st:St):Nat->List Nat×St
 | 0=>([],st)
 | k+1=>((sS st k).1++[(jG (sS st k).2).1],(jG (sS st k).2).2)
def s1 (st:St):St:=(jG st).2
def s2 (st:St):St:=(gU 64 (s1 st)).2
def s3 (st:St):St:=(gH (s2 st)).2
def s4 (st:St):St:=(gH (s3 st)).2
def s5 (st:St):St:=(iI 8 (s4 st)).2
def cN (st:St):Nat:=(iI 8 (s4 st)).1.toNat
def s6 (st:St):St:=(nS (s5 st) (cN st)).2
def s7 (st:St):St:=(jG (s6 st)).2
def s8 (st:St):St:=(gU 1024 (s7 st)).2
def s9 (st:St):St:=(sS (s8 st) 64).2
def Ya (st:St):Nat:=(jG st).1
def Dl (st:St):Nat:=(jG (s6 st)).1
def lD (st:St):R where
 key:=(gU 64 (s1 st)).1
 cl:=lu (gH (s2 st)).1
 sq:=lu (gH (s3 st)).1
 cx:=(nS (s5 st) (cN st)).1
 gone:=decide (Dl st=1)
 val:=(gU 1024 (s7 st)).1
 sig:=(sS (s8 st) 64).1
def Ab (b:List Nat):Bool:=dY (lD (some b))&&decide (uV (lD (some b))=b)
theorem Mf (st:St) (k:Nat):nS st (k+1)=((nS st k).1++[(lu (gH (nS st k).2).1,lu (gH (gH (nS st k).2).2).1)],(gH (gH (nS st k).2).2).2):=rfl
theorem El (st:St) (k:Nat):sS st (k+1)=((sS st k).1++[(jG (sS st k).2).1],(jG (sS st k).2).2):=rfl
theorem YV (st:St) (k:Nat):(sS st k).1.length=k:=by
 induction k with
 | zero=>rfl
 | succ k ih=>simp[sS,ih]
def Dm (st:St):Prop:=∀l,st=some l->∀b∈l,b<256
def Sm (st:St):Prop:=∀l,st=some l->l.length<=1000000
theorem wu {α:Type} (z:α) (f:List Nat->Option (α×List Nat)) (hf:∀l x r,f l=some (x,r)->r.length<=l.length) {st:St} (h:Sm st):Sm (tells z f st).2:=by
 intro l hl
 cases st with
 | none=>cases hl
 | some l0=>
  unfold tells at hl
  cases hf2:f l0 with
  | none=>simp only[hf2]at hl;cases hl
  | some p=>
   obtain⟨x,r⟩:=p
   simp only[hf2,Option.some.injEq]at hl
   subst hl
   exact Nat.le_trans (hf _ _ _ hf2) (h l0 rfl)
theorem Dn (k:Nat) (l:List Nat) (x:Nat) (r:List Nat) (h:iq k l=some (x,r)):r.length<=l.length:=by
 unfold iq at h
 split at h
 .cases h;rw[List.length_drop];omega
 .cases h
theorem Ac (most:Int) (l:List Nat) (x:Int) (r:List Nat) (h:iT most l=some (x,r)):r.length<=l.length:=by
 unfold iT at h
 split at h
 .cases h;rw[List.length_drop];omega
 .cases h
theorem J7 (most:Int) (l:List Nat) (x:List Nat) (r:List Nat) (h:iN most l=some (x,r)):r.length<=l.length:=by
 unfold iN at h
 split at h
 .cases h
 .rename_i n r' hc
  have:=Ac _ _ _ _ hc
  split at h
  .cases h;rw[List.length_drop];omega
  .cases h
theorem QX {most:Int} (h:0<=most) (st:St):0<=(iI most st).1/\(iI most st).1<=most:=by
 cases st with
 | none=>exact⟨Int.le_refl _,h⟩
 | some l=>
  unfold iI tells iT
  by_cases h8:8<=l.length/\0<=lu (wN (l.take 8))/\lu (wN (l.take 8))<=most
  .simp only[if_pos h8];exact h8.2
  .simp only[if_neg h8];exact⟨Int.le_refl _,h⟩
theorem Yb (st:St):(iI 8 (s4 st)).1=((cN st:Nat):Int)/\cN st<=8:=by
 have h:=QX (most:=8) (by decide) (s4 st)
 unfold cN
 omega
theorem Em {st:St} (h:Sm st):Sm (jG st).2:=wu _ _ (Dn 1) h
theorem En {st:St} (h:Sm st):Sm (gH st).2:=wu _ _ (Dn 8) h
theorem QY {most:Int} {st:St} (h:Sm st):Sm (iI most st).2:=wu _ _ (Ac most) h
theorem QZ {most:Int} {st:St} (h:Sm st):Sm (gU most st).2:=wu _ _ (J7 most) h
theorem abF {st:St} (h:Sm st) (k:Nat):Sm (nS st k).2:=by
 induction k with
 | zero=>exact h
 | succ k ih=>exact En (En ih)
theorem abG {st:St} (h:Sm st):Sm (s7 st):=Em (abF (QY (En (En (QZ (Em h))))) _)
theorem Q0 {st:St} {r:List Nat} (h:(jG st).2=some r):st=some ((jG st).1:: r):=by
 cases st with
 | none=>cases h
 | some l=>
  cases l with
  | nil=>simp[jG,tells,iq]at h
  | cons x l=>
   simp[jG,tells,iq]at h
   subst h
   simp[jG,tells,iq,wN]
theorem num_inv {st:St} {r:List Nat} (h:(gH st).2=some r) (ho:Dm st):st=some (dR (lu (gH st).1)++r):=by
 cases st with
 | none=>cases h
 | some l=>
  unfold gH tells iq at h ⊢
  by_cases h8:8<=l.length
  .simp only[if_pos h8,Option.some.injEq]at h ⊢
   subst h
   have hb:∀b∈l.take 8,b<256:=fun b hb=>ho l rfl b (List.mem_of_mem_take hb)
   have hl:(l.take 8).length=8:=by rw[List.length_take];omega
   have hlt:=Mc (l.take 8) hb
   rw[hl]at hlt
   unfold dR
   rw[Va (by simpa using hlt),Vd hl hb,List.take_append_drop]
  .simp only[if_neg h8]at h;cases h
theorem Dp {most:Int} {st:St} {r:List Nat} (h:(iI most st).2=some r) (ho:Dm st):st=some (dR (iI most st).1++r)/\0<=(iI most st).1/\(iI most st).1<=most:=by
 cases st with
 | none=>cases h
 | some l=>
  unfold iI tells iT at h ⊢
  by_cases h8:8<=l.length/\0<=lu (wN (l.take 8))/\lu (wN (l.take 8))<=most
  .simp only[if_pos h8,Option.some.injEq]at h ⊢
   subst h
   refine⟨?_,h8.2⟩
   have h9:=num_inv (st:=some l) (r:=l.drop 8) (by unfold gH tells iq;simp only[if_pos h8.1]) ho
   unfold gH tells iq at h9
   simp only[if_pos h8.1,Option.some.injEq]at h9
   exact h9
  .simp only[if_neg h8]at h;cases h
theorem NY {most:Int} {st:St} {r:List Nat} (h:(gU most st).2=some r) (ho:Dm st):st=some (gu (gU most st).1++r)/\((gU most st).1.length:Int)<=most:=by
 cases st with
 | none=>cases h
 | some l=>
  unfold gU tells iN at h ⊢
  cases hc:iT most l with
  | none=>simp only[hc]at h;cases h
  | some p=>
   obtain⟨n,q⟩:=p
   have e:iI most (some l)=(n,some q):=by unfold iI tells;simp only[hc]
   obtain⟨h1,h2,h3⟩:=Dp (most:=most) (st:=some l) (r:=q) (by rw[e]) ho
   rw[e]at h1 h2 h3
   simp only at h1 h2 h3
   simp only[hc]at h ⊢
   by_cases hk:n.toNat<=q.length
   .simp only[if_pos hk,Option.some.injEq]at h ⊢
    subst h
    have hl:(q.take n.toNat).length=n.toNat:=by rw[List.length_take];omega
    refine⟨?_,by rw[hl];omega⟩
    unfold gu
    rw[hl,Int.toNat_of_nonneg h2,List.append_assoc,List.take_append_drop]
    exact Option.some.inj h1
   .simp only[if_neg hk]at h;cases h
theorem Ae {st:St} (h:Dm st):Dm (jG st).2:=fun _ hl=>by
 have e:=Q0 hl
 exact fun b hb=>h _ e b (List.mem_cons_of_mem _ hb)
theorem zo {st:St} (h:Dm st):Dm (gH st).2:=fun _ hl b hb=>h _ (num_inv hl h) b (List.mem_append_right _ hb)
theorem NZ {most:Int} {st:St} (h:Dm st):Dm (iI most st).2:=fun _ hl b hb=>h _ (Dp hl h).1 b (List.mem_append_right _ hb)
theorem Dq {most:Int} {st:St} (h:Dm st):Dm (gU most st).2:=fun _ hl b hb=>h _ (NY hl h).1 b (List.mem_append_right _ hb)
theorem YW {st:St} (h:Dm st) (k:Nat):Dm (nS st k).2:=by
 induction k with
 | zero=>exact h
 | succ k ih=>exact zo (zo ih)
theorem YX {st:St} (h:Dm st) (k:Nat):Dm (sS st k).2:=by
 induction k with
 | zero=>exact h
 | succ k ih=>exact Ae ih
theorem Vg {st:St} (h:Dm st):(jG st).1<256:=by
 cases st with
 | none=>decide
 | some l=>
  cases l with
  | nil=>decide
  | cons x l=>
   have:=h _ rfl x (by simp)
   simpa[jG,tells,iq,wN] using this
theorem abH {st:St} (h:Dm st) (k:Nat):∀b∈(sS st k).1,b<256:=by
 induction k with
 | zero=>intro b hb;cases hb
 | succ k ih=>
  intro b hb
  rw[El]at hb
  rcases List.mem_append.1 hb with hb|hb
  .exact ih b hb
  .rw[List.mem_singleton.1 hb];exact Vg (YX h k)
theorem YZ {st:St} (h:Dm st):Dm (s8 st):=Dq (Ae (YW (NZ (zo (zo (Dq (Ae h))))) _))
theorem getD_lt {l:List Nat} (h:∀b∈l,b<256) (i:Nat):l.getD i 0<256:=by
 rw[List.getD_eq_getElem?_getD]
 cases hi:l[i]? with
 | none=>decide
 | some x=>exact h x (List.mem_of_getElem? hi)
theorem Af (x:Nat) (tl:List Nat):jG (some (x:: tl))=(x,some tl):=by
 simp[jG,tells,iq,wN]
theorem yE (most n:Int) (tl:List Nat) (h1:0<=n) (h2:n<=most) (h3:n<=9223372036854775807):iT most (dR n++tl)=some (n,tl):=by
 have e1:wN ((dR n++tl).take 8)=L8 n:=by rw[zQ _ _ 8 (cO _)];exact Ma (JY _)
 have e2:lu (L8 n)=n:=L9 (by omega) h3
 unfold iT
 rw[e1,e2,zR _ _ 8 (cO _),if_pos ⟨by rw[List.length_append,cO];omega,h1,h2⟩]
theorem Oa (most n:Int) (tl:List Nat) (h1:0<=n) (h2:n<=most) (h3:n<=9223372036854775807):iI most (some (dR n++tl))=(n,some tl):=by
 unfold iI tells
 simp only[yE most n tl h1 h2 h3]
theorem Mg (most:Int) (row tl:List Nat) (h:(row.length:Int)<=most) (h3:row.length<9223372036854775808):gU most (some (gu row++tl))=(row,some tl):=by
 have e:iN most (gu row++tl)=some (row,tl):=by
  unfold iN gu
  rw[List.append_assoc,yE most row.length (row++tl) (by omega) h (by omega)]
  simp only[Int.toNat_natCast]
  rw[if_pos (by rw[List.length_append];omega),zQ _ _ _ rfl,zR _ _ _ rfl]
 unfold gU tells
 simp only[e]
theorem Y0 (l:List D) (tl:List Nat) (h:∀d∈l,(-9223372036854775808<=d.1/\d.1<=9223372036854775807)/\-9223372036854775808<=d.2/\d.2<=9223372036854775807):∀k,k<=l.length->nS (some (bN l++tl)) k=(l.take k,some (bN (l.drop k)++tl)):=by
 intro k
 induction k with
 | zero=>intro _;simp[nS]
 | succ k ih=>
  intro hk
  have h0:=ih (by omega)
  have hd:=drop_at l k (by omega)
  have hm:=h (l.getD k z0) (by rw[List.getD_eq_getElem?_getD,List.getElem?_eq_getElem (by omega)];exact List.getElem_mem _)
  have e:bN (l.drop k)++tl=dR (l.getD k z0).1++(dR (l.getD k z0).2++(bN (l.drop (k+1))++tl)):=by
   rw[hd];simp[bN,NW]
  obtain⟨a1,a2⟩:=zm (l.getD k z0).1 (dR (l.getD k z0).2++(bN (l.drop (k+1))++tl)) hm.1.1 hm.1.2
  obtain⟨b1,b2⟩:=zm (l.getD k z0).2 (bN (l.drop (k+1))++tl) hm.2.1 hm.2.2
  rw[Mf,h0]
  dsimp only
  rw[e,a1,a2,b1,b2,List.take_succ_eq_append_getElem (by omega)]
  rw[show l.getD k z0=l[k] by rw[List.getD_eq_getElem?_getD,List.getElem?_eq_getElem (by omega)];rfl]
theorem Y1 (l tl:List Nat):∀k,k<=l.length->sS (some (l++tl)) k=(l.take k,some (l.drop k++tl)):=by
 intro k
 induction k with
 | zero=>intro _;simp[sS]
 | succ k ih=>
  intro hk
  have h0:=ih (by omega)
  have hd:l.drop k=l[k]:: l.drop (k+1):=List.drop_eq_getElem_cons (by omega)
  rw[El,h0]
  dsimp only
  rw[hd,List.cons_append,Af,List.take_succ_eq_append_getElem (by omega)]
theorem Y2 {d:D} (h:okD d=true):(-9223372036854775808<=d.1/\d.1<=9223372036854775807)/\-9223372036854775808<=d.2/\d.2<=9223372036854775807:=by
 simp[okD]at h
 omega
theorem sG {r:R} (h:gV r=true):1<=r.key.length/\r.key.length<=64/\okD r.dot=true/\Rt 0 r.cx/\r.val.length<=1024/\abE r.cx r.dot=false:=by
 simp only[gV,YT,zn,YU,Bool.and_eq_true,decide_eq_true_eq,Bool.not_eq_true']at h
 obtain⟨⟨⟨h1,h2⟩,⟨h3,h4⟩,h5⟩,h6⟩:=h
 refine⟨h1,h2,h3,(Ej _ _).1 h4,?_,h5⟩
 split at h6<;>omega
theorem Q5 {r:R} (h:gV r=true) (hs:r.sig.length=64) (tl:List Nat):Ya (some (uV r++tl))=1/\Dl (some (uV r++tl))=gY r.gone/\lD (some (uV r++tl))=r/\s9 (some (uV r++tl))=some tl:=by
 obtain⟨k1,k2,k3,k4,k5,_⟩:=sG h
 have hcx:(r.cx.length:Int)<=8:=by have:=k4.len (by decide);omega
 have hb:=Y2 k3
 obtain⟨T8,g8⟩:∃T,T=r.sig++tl:=⟨_,rfl⟩
 obtain⟨T7,g7⟩:∃T,T=gu r.val++T8:=⟨_,rfl⟩
 obtain⟨T6,g6⟩:∃T,T=gY r.gone:: T7:=⟨_,rfl⟩
 obtain⟨T5,g5⟩:∃T,T=bN r.cx++T6:=⟨_,rfl⟩
 obtain⟨T4,g4⟩:∃T,T=dR (r.cx.length:Int)++T5:=⟨_,rfl⟩
 obtain⟨T3,g3⟩:∃T,T=dR r.sq++T4:=⟨_,rfl⟩
 obtain⟨T2,g2⟩:∃T,T=dR r.cl++T3:=⟨_,rfl⟩
 obtain⟨T1,g1⟩:∃T,T=gu r.key++T2:=⟨_,rfl⟩
 have e0:uV r++tl=1:: T1:=by
  rw[g1,g2,g3,g4,g5,g6,g7,g8]
  simp[uV,dZ,NW,R.dot]
 rw[e0]
 have t0:=Af 1 T1
 have t1:=Mg 64 r.key T2 (by omega) (by omega)
 rw[<- g1]at t1
 have t2:=zm r.cl T3 hb.1.1 hb.1.2
 rw[<- g2]at t2
 have t3:=zm r.sq T4 hb.2.1 hb.2.2
 rw[<- g3]at t3
 have t4:=Oa 8 r.cx.length T5 (by omega) hcx (by omega)
 rw[<- g4]at t4
 have t5:=Y0 r.cx T6 (fun d hd=>by have:=k4.mem d hd;omega) _ (Nat.le_refl _)
 rw[<- g5,List.take_length,List.drop_length,show bN []++T6=T6 from rfl]at t5
 have t6:=Af (gY r.gone) T7
 rw[<- g6]at t6
 have t7:=Mg 1024 r.val T8 (by omega) (by omega)
 rw[<- g7]at t7
 have t8:=Y1 r.sig tl r.sig.length (Nat.le_refl _)
 rw[<- g8,List.take_length,List.drop_length,hs,List.nil_append]at t8
 have q1:s1 (some (1:: T1))=some T1:=by unfold s1;rw[t0]
 have q2:s2 (some (1:: T1))=some T2:=by unfold s2;rw[q1,t1]
 have q3:s3 (some (1:: T1))=some T3:=by unfold s3;rw[q2];exact t2.2
 have q4:s4 (some (1:: T1))=some T4:=by unfold s4;rw[q3];exact t3.2
 have q5:s5 (some (1:: T1))=some T5:=by unfold s5;rw[q4,t4]
 have qn:cN (some (1:: T1))=r.cx.length:=by unfold cN;rw[q4,t4];rfl
 have q6:s6 (some (1:: T1))=some T6:=by unfold s6;rw[q5,qn,t5]
 have q7:s7 (some (1:: T1))=some T7:=by unfold s7;rw[q6,t6]
 have q8:s8 (some (1:: T1))=some T8:=by unfold s8;rw[q7,t7]
 have hg:Dl (some (1:: T1))=gY r.gone:=by unfold Dl;rw[q6,t6]
 refine⟨by unfold Ya;rw[t0],hg,?_,by unfold s9;rw[q8,t8]⟩
 unfold lD
 rw[hg,q1,t1,q2,t2.1,q3,t3.1,q5,qn,t5,q7,t7,q8,t8]
 cases r with
 | mk key cl sq cx gone val sig=>cases gone<;>rfl
theorem get_put {r:R} (h:dY r=true):Ab (uV r)=true/\lD (some (uV r))=r:=by
 have h3:=h
 simp only[dY,Bool.and_eq_true,decide_eq_true_eq]at h3
 obtain⟨_,_,a3,_⟩:=Q5 h3.1 h3.2 []
 rw[List.append_nil]at a3
 refine⟨?_,a3⟩
 simp only[Ab,a3,h,Bool.true_and,decide_true]
end Rc
end
section
open Go.RowKit Ow
def iF (s:ByteArray):List Nat:=s.data.toList.map UInt8.toNat
theorem qw (s:ByteArray):(iF s).length=s.size:=by unfold iF;rw[List.length_map];rfl
theorem xI (s:ByteArray) (i:Nat):(iF s).getD i 0<256:=by
 unfold iF
 rw[List.getD_eq_getElem?_getD,List.getElem?_map]
 cases s.data.toList[i]? with
 | none=>decide
 | some b=>exact b.toNat_lt
theorem Q6 {s t:ByteArray} (h:iF s=iF t):s=t:=by
 unfold iF at h
 have h2:s.data.toList=t.data.toList:=List.map_inj_right (fun a b h=>UInt8.toNat_inj.1 h) |>.1 h
 cases s;cases t
 simpa using h2
theorem str_eq (s t:ByteArray):(s.toList==t.toList)=decide (iF s=iF t):=by
 rw[ByteArray.toList_eq,ByteArray.toList_eq,Bool.eq_iff_iff]
 simp only[beq_iff_eq,decide_eq_true_eq]
 constructor
 .intro h;unfold iF;rw[h]
 .intro h;rw[Q6 h]
def Ag (l:List Nat):ByteArray:=⟨(l.map UInt8.ofNat).toArray⟩
theorem Q7 {l:List Nat} (h:∀i,l.getD i 0<256):iF (Ag l)=l:=by
 unfold iF Ag
 simp only[List.map_map]
 conv=>rhs;rw[<- List.map_id l]
 apply List.map_congr_left
 intro x hx
 obtain⟨i,hi,rfl⟩:=List.getElem_of_mem hx
 have:=h i
 rw[List.getD_eq_getElem?_getD,List.getElem?_eq_getElem hi]at this
 simp only[Option.getD_some]at this
 simp[UInt8.toNat_ofNat']
 omega
theorem Ct (w:World) (e:TypeId) (s:ByteArray):w.grownBy (Lib.bytesWorld w e s) none:=by
 refine⟨rfl,rfl,rfl,by rw[Lib.bytesWorld_size];omega,fun k hk _=>Lib.bytesWorld_at_old w e s k hk⟩
theorem Mh (w:World) (n:Nat) (e:TypeId) (h:n<9223372036854775808):n<=grownCap w n 0 e/\grownCap w n 0 e<9223372036854775808:=by
 have:∀t:Nat,n<=(Question.appendCap n 0 e).cut t/\(Question.appendCap n 0 e).cut t<9223372036854775808:=fun t=>by
  show n<=n+t%(2^63-n)/\n+t%(2^63-n)<9223372036854775808
  have:=Nat.mod_lt t (show 0<2^63-n by omega)
  omega
 exact this _
theorem Ob (s:ByteArray) (w:World) (hs:s.size<9223372036854775808):
  ∃c w',(convert 9 22 (.string s)).run Tryz.prog w=.ok (.slice (some ⟨w.heap.size,0,none⟩) s.size c) w'/\w.grownBy w' none/\BytesAt w' w'.heap.size (some ⟨w.heap.size,0,none⟩) c (iF s):=by
 have h:=Lib.run_convert_string_bytes (P:=Tryz.prog) w 9 22 5 s Tryz.underlying9 Tryz.underlying22 Tryz.underlying5
 refine⟨_,_,h,Ct w _ s,Nat.le_refl _,by rw[qw];exact (Mh w s.size _ hs).1,(Mh w s.size _ hs).2,xI s,Or.inr ⟨w.heap.size,0,rfl,by rw[Lib.bytesWorld_size];omega,fun i hi=>?_⟩⟩
 rw[qw]at hi
 rw[Nat.zero_add,Lib.bytesWorld_cell w 5 s i hi]
 unfold dD iF
 have hi2:i<s.data.toList.length:=hi
 simp only[List.getD_eq_getElem?_getD,List.getElem?_map,List.getElem?_eq_getElem hi2,Option.map_some,Option.getD_some]
theorem Q8 (l:List Nat):∀s:ByteArray,(l.map Int.ofNat).foldl (fun r n=>r.push (UInt8.ofNat n.toNat)) s=⟨s.data++(l.map UInt8.ofNat).toArray⟩:=by
 induction l with
 | nil=>intro s;cases s;simp
 | cons x r ih=>
  intro s
  simp only[List.map_cons,List.foldl_cons]
  rw[ih]
  cases s
  simp[ByteArray.push]
theorem Oc {w:World} {B n cap:Nat} {a:Option Addr} {l:List Nat} (hn:l.length=n) (h:BytesAt w B a cap l):
  (convert 22 9 (.slice a n cap)).run Tryz.prog w=.ok (.string (Ag l)) w:=by
 subst hn
 rw[run_convert_bytes_string w 22 9 5 a l.length cap Tryz.underlying22 Tryz.underlying5 Tryz.underlying9]
 rcases h.cells with h0 |⟨pb,po,rfl,hlt,hc⟩
 .obtain rfl:l=[]:=List.eq_nil_of_length_eq_zero h0
  cases a with
  | none=>rfl
  | some a=>
   exact run_bytesToString w a 0 cap [] (run_loadCells_list (P:=Tryz.prog) (w:=w) a [] (fun j v hv=>by simp at hv))
 .rw[run_bytesToString w ⟨pb,po,none⟩ l.length cap (l.map Int.ofNat) ?_,Q8]
  .show Result.ok (Value.string ⟨#[]++(l.map UInt8.ofNat).toArray⟩) w=_
   rw[Array.empty_append]
   rfl
  .have hl:=run_loadCells_list (P:=Tryz.prog) (w:=w) ⟨pb,po,none⟩ (l.map dD) (fun j u hu=>by
    have hj:j<l.length:=by
     rcases Nat.lt_or_ge j l.length with h|h
     .exact h
     .rw[List.getElem?_eq_none (by simpa using h)]at hu;cases hu
    rw[Addr.add_lit,hc j hj,<- hu,vU hj])
   rw[List.length_map]at hl
   rw[hl,List.map_map]
   rfl
end
section
open Go.Shelf
def Ah:Go.Shelf.Ren:=⟨fun|16=>151|n=>n,fun|3=>3|4=>4|35=>187|38=>116|n=>n,fun|n=>n⟩
theorem J8:Go.Proofs.SlLaysO.n16 Tryz.prog Ah:={
 mixed:=by kernel_rfl
 f16:=Tryz.func151.trans (congrArg some (by kernel_rfl))
 t3:=Tryz.underlying3
 a3:=Tryz.isAgg3
 z3:=Tryz.sizeOf3
 v3:=Tryz.zeroValue3
 t4:=Tryz.underlying4
 a4:=Tryz.isAgg4
 z4:=Tryz.sizeOf4
 v4:=Tryz.zeroValue4
 t35:=Tryz.underlying187
 a35:=Tryz.isAgg187
 z35:=Tryz.sizeOf187
 v35:=Tryz.zeroValue187
 t38:=Tryz.underlying116
 a38:=Tryz.isAgg116
 z38:=Tryz.sizeOf116
 v38:=Tryz.zeroValue116}
end
section
open Go.RowKit
namespace Ve
abbrev iV (n:Int):Value:=.int .i64 n
structure dK (w:World) (B:Nat) (a:Option Addr) (l:List D):Prop where
 lim:B<=w.heap.size
 cells:l.length=0\/∃pb po,a=some ⟨pb,po,none⟩/\pb<B/\∀i,i<l.length->w.cell? ⟨pb,po+i*2,none⟩=some (iV (l.getD i z0).1)/\w.cell? ⟨pb,po+i*2+1,none⟩=some (iV (l.getD i z0).2)
theorem dK.kept {w w':World} {B:Nat} {a:Option Addr} {l:List D} (h:dK w B a l) {row:Option Nat} (hg:w.grownBy w' row) (hr:∀r,row=some r->B<=r):dK w' B a l:=by
 refine⟨Nat.le_trans h.lim hg.size,?_⟩
 rcases h.cells with h0 |⟨pb,po,ha,hlt,hc⟩
 .exact Or.inl h0
 .have e:∀o,w'.cell? ⟨pb,o,none⟩=w.cell? ⟨pb,o,none⟩:=fun o=>bf hg (p:=⟨pb,o,none⟩) (Nat.lt_of_lt_of_le hlt h.lim) (fun e=>by have:=hr _ e.symm;simp at this;omega)
  exact Or.inr ⟨pb,po,ha,hlt,fun i hi=>by rw[e,e];exact hc i hi⟩
theorem dK.stay {w w':World} {B:Nat} {a:Option Addr} {l:List D} (h:dK w B a l) (hg:w.grownBy w' none):dK w' B a l:=h.kept hg (fun r e=>by cases e)
theorem dK.up' {w:World} {B B':Nat} {a:Option Addr} {l:List D} (h:dK w B a l) (hB:B<=B') (hl:B'<=w.heap.size):dK w B' a l:=by
 refine⟨hl,?_⟩
 rcases h.cells with h0 |⟨pb,po,ha,hlt,hc⟩
 .exact Or.inl h0
 .exact Or.inr ⟨pb,po,ha,by omega,hc⟩
end Ve
end
section
open Go.RowKit Go.Shelf Go.Sort Ve
namespace Ve
set_option maxHeartbeats 400000 in
theorem FX (n cap ba bx pb po i:Nat) (c x:Int) (w:World) (hi:i<n) (ha:w.cell? ⟨ba,0,none⟩=some (.slice (some ⟨pb,po,none⟩) n cap)) (hx:w.cell? ⟨bx,0,none⟩=some (iV c)) (hc:w.cell? ⟨pb,po+i*2,none⟩=some (iV x)):
  Calls Tryz.prog 152 (#[.int .i64 i]++#[.pointer (some ⟨ba,0,none⟩),.pointer (some ⟨bx,0,none⟩)]) w fun e w'=>e=.returned (.bool (decide (c<=x)))/\∃q,w'=w.drewN q:=by
 have hiz:(i:Int)<(n:Int):=by omega
 go_enter Tryz.func152,Tryz.ntmps152
 go_wp2
 go_quiet (fail)
 go_wp2
 go_ret
 exact⟨rfl,_,rfl⟩
theorem zq (w:World) (q:Nat) (os:Array Obj):w.grownBy (grow (w.drewN q) os) none:=
 ⟨rfl,rfl,rfl,by simp[grow],fun k hk _=>by
  show ((w.drewN q).heap++os)[k]?=_
  rw[Array.getElem?_append_left (by show k<w.heap.size;omega)]
  rfl⟩
set_option maxHeartbeats 400000 in
theorem Od (B n cap:Nat) (a:Option Addr) (l:List D) (c:Int) (w:World) (hn:l.length=n) (h:dK w B a l) (hr:Rt 0 l):
  Calls Tryz.prog 140 #[.slice a n cap,.int .i64 c] w fun e w'=>e=.returned (.int .i64 (pl l c:Nat))/\w.grownBy w' none:=by
 have hl8:=hr.len (by decide)
 obtain⟨W0,hW0⟩:∃W0,W0=(w.alloc (.cells #[.slice a n cap] 118)).alloc (.cells #[.int .i64 c] 3):=⟨_,rfl⟩
 have hg0:w.grownBy W0 none:=by rw[hW0];exact av (av (ah _ _) _) _
 have ca:W0.cell? ⟨w.heap.size,0,none⟩=some (.slice a n cap):=by rw[hW0];exact cell_alloc_sl _ (cell_new_sl w _ _)
 have cx:W0.cell? ⟨w.heap.size+1,0,none⟩=some (.int .i64 c):=by rw[hW0];have:=cell_new_sl (w.alloc (.cells #[.slice a n cap] 118)) (.int .i64 c) 3;rwa [World.size_alloc]at this
 have hS:=Any.sort_Search J8 152 #[.pointer (some ⟨w.heap.size,0,none⟩),.pointer (some ⟨w.heap.size+1,0,none⟩)] n (fun i=>decide (c<=(l.getD i z0).1)) W0
  (enters_of Tryz.func152 (by kernel_rfl) rfl) (by omega)
  (fun m os i hi=>by
   have hg:=aj hg0 (zq W0 m os)
   obtain⟨pb,po,rfl,_,hcs⟩:=(h.stay hg).cells.resolve_left (by omega)
   have k1:=(hcs i (by omega)).1
   refine (FX n cap w.heap.size (w.heap.size+1) pb po i c _ _ hi (by rw[bf (zq W0 m os) (aH.lt (w:=W0) (T:=118) (L:=[.slice (some ⟨pb,po,none⟩) n cap]) (by rw[hW0];exact (aH.new _ _ _).alloc _)) (by simp)];exact ca)
    (by rw[bf (zq W0 m os) (by rw[hW0];simp) (by simp)];exact cx) k1).mono ?_
   rintro e w' ⟨rfl,q,rfl⟩
   exact⟨rfl,q,#[],by rw[grow_empty]⟩)
  (fun x y hxy hy hx=>by
   rcases Nat.eq_or_lt_of_le hxy with rfl|hlt
   .exact hx
   .have:=hr.X9 x y hlt (by omega)
    simp only[decide_eq_true_eq]at hx ⊢
    omega)
 have hp:(List.range n).countP (fun i=>!decide (c<=(l.getD i z0).1))=pl l c:=by rw[<- hn];rfl
 rw[hp]at hS
 change Calls Tryz.prog 151 _ _ _ at hS
 have HG:=Lib.hid hg0
 clear ca cx hp h hr hn hg0
 generalize pl l c=r at hS ⊢
 go_enter Tryz.func140,Tryz.ntmps140
 go_wp2_with (go_at_call 151;rw[<- hW0];refine hS.mono ?_;rintro e w' ⟨rfl,q,os,rfl⟩)
 go_ret
 exact⟨rfl,by rw[<- hW0];exact aj HG.out (zq W0 q os)⟩
set_option maxHeartbeats 400000 in
theorem Q9 (B n cap:Nat) (a:Option Addr) (l:List D) (c:Int) (w:World) (hn:l.length=n) (h:dK w B a l) (hr:Rt 0 l):
  Calls Tryz.prog 114 #[.slice a n cap,.int .i64 c] w fun e w'=>e=.returned (.int .i64 (up l c))/\w.grownBy w' none:=by
 obtain⟨p1,p2,p3⟩:=abC hr c
 have hu:=abD (pl l c) hr p2 (fun hk=>p3 _ (Nat.le_refl _) hk)
 have hP:=Od B n cap a l c w hn h hr
 generalize pl l c=k at p1 p2 p3 hu hP
 have H:=Lib.hid h;clear h
 have HN:=Lib.hid hn
 rw[hn]at p1
 clear p2 p3
 by_cases hk:k=n
 .subst hk
  rw[if_neg (by omega)]at hu
  have HU:=Lib.hid hu;clear hu hn
  go_enter Tryz.func114,Tryz.ntmps114
  go_wp2_with fail
  refine hP.mono ?_
  rintro e w' ⟨rfl,hg⟩
  have HG:=Lib.hid hg;clear hg hP
  go_wp2
  go_ret
  exact⟨by rw[HU.out];rfl,HG.out⟩
 .have hlt:k<n:=by omega
  have hk2:(k:Int)<(n:Int):=by omega
  have hk3:¬(k:Int)=(n:Int):=by omega
  obtain⟨x,y,hxy⟩:∃x y,l.getD k z0=(x,y):=⟨_,_,rfl⟩
  rw[hn,hxy]at hu
  simp only at hu
  have HX:=Lib.hid hxy;clear hxy hn
  by_cases hx:x=c
  .subst hx
   rw[if_pos ⟨hlt,rfl⟩]at hu
   have HU:=Lib.hid hu;clear hu
   go_enter Tryz.func114,Tryz.ntmps114
   go_wp2_with fail
   refine hP.mono ?_
   rintro e w' ⟨rfl,hg⟩
   obtain⟨pb,po,rfl,_,hcs⟩:=(H.out.stay hg).cells.resolve_left (by rw[HN.out];omega)
   obtain⟨k1,k2⟩:=hcs k (by rw[HN.out];exact hlt)
   rw[HX.out]at k1 k2
   simp only at k1 k2
   have HG:=Lib.hid hg;clear hg hP hcs
   go_wp2
   go_ret
   exact⟨by rw[HU.out];rfl,HG.out⟩
  .rw[if_neg (fun h=>hx h.2)]at hu
   have HU:=Lib.hid hu;clear hu
   have hxb:(x !=c)=true:=by simpa using hx
   go_enter Tryz.func114,Tryz.ntmps114
   go_wp2_with fail
   refine hP.mono ?_
   rintro e w' ⟨rfl,hg⟩
   obtain⟨pb,po,rfl,_,hcs⟩:=(H.out.stay hg).cells.resolve_left (by rw[HN.out];omega)
   obtain⟨k1,k2⟩:=hcs k (by rw[HN.out];exact hlt)
   rw[HX.out]at k1 k2
   simp only at k1 k2
   have HG:=Lib.hid hg;clear hg hP hcs
   go_wp2
   go_ret
   exact⟨by rw[HU.out];rfl,HG.out⟩
end Ve
end
section
open Go.RowKit Ve
namespace Ve
set_option maxHeartbeats 400000 in
theorem nP (B n c:Nat) (a:Option Addr) (l:List D) (w:World) (hn:l.length=n) (h:dK w B a l) (hc:n<9223372036854775808):
  Calls Tryz.prog 86 #[.slice a n c] w fun e w'=>e=.returned (.bool (Aa 0 l))/\w.grownBy w' none:=by
 have H:=Lib.hid h;clear h
 have HN:=Lib.hid hn;clear hn
 obtain⟨R,HR⟩:∃R,Hid (R=Aa 0 l):=⟨_,rfl⟩
 rw[<- HR.out]
 go_enter Tryz.func86,Tryz.ntmps86
 go_wp2
 go_loopw [3,8] (fun last i wr=>∃(k:Nat) (b:Int),k<=n/\0<=b/\i=.int .i64 k/\last=.int .i64 b/\Hid (w.grownBy wr none/\R=Aa b (l.drop k))) (fun _ i _=>n-(intOf i).toNat)
 case atStart=>exact⟨0,0,by omega,by omega,rfl,rfl,ah _ _,HR.out⟩
 case round=>
  obtain⟨k,b,hk,hb,rfl,rfl,HI⟩:=hrel
  by_cases hlt:k<n
  .obtain⟨pb,po,rfl,hpb,hcs⟩:=(H.out.stay HI.out.1).cells.resolve_left (by rw[HN.out];omega)
   obtain⟨k1,k2⟩:=hcs k (by rw[HN.out];exact hlt)
   clear hcs
   have hd:=drop_at l k (by rw[HN.out];exact hlt)
   obtain⟨x,y,hxy⟩:∃x y,l.getD k z0=(x,y):=⟨_,_,rfl⟩
   rw[hxy]at k1 k2 hd
   simp only at k1 k2
   have HD:=Lib.hid hd;clear hd hxy
   have hi:(k:Int)<(n:Int):=by omega
   have hfin:∀(b2:Bool),(decide (b<x)&&decide (x<=8)&&decide (1<=y)&&decide (y<=1073741824))=b2->R=(b2&&Aa x (l.drop (k+1))):=fun b2 hb2=>by rw[HI.out.2,HD.out,Aa,hb2]
   have HF:=Lib.hid hfin;clear hfin
   by_cases h1:x<=b
   .have hr:R=false:=by rw[HF.out false (by simp;omega)];rfl
    have Qr:=Lib.hid hr;clear hr
    go_wp2
    go_ret
    exact⟨by rw[Qr.out];rfl,av HI.out.1 _⟩
   by_cases h2:8<x
   .have hr:R=false:=by rw[HF.out false (by simp;omega)];rfl
    have Qr:=Lib.hid hr;clear hr
    go_wp2
    go_ret
    exact⟨by rw[Qr.out];rfl,av HI.out.1 _⟩
   by_cases h3:y<1
   .have hr:R=false:=by rw[HF.out false (by simp;omega)];rfl
    have Qr:=Lib.hid hr;clear hr
    go_wp2
    go_ret
    exact⟨by rw[Qr.out];rfl,av HI.out.1 _⟩
   by_cases h4:1073741824<y
   .have hr:R=false:=by rw[HF.out false (by simp;omega)];rfl
    have Qr:=Lib.hid hr;clear hr
    go_wp2
    go_ret
    exact⟨by rw[Qr.out];rfl,av HI.out.1 _⟩
   have hr:R=Aa x (l.drop (k+1)):=by rw[HF.out true (by simp;omega)];rfl
   have Y4:=Lib.hid hr;clear hr
   go_wp2
   go_roundw
   case rel=>exact⟨k+1,x,by omega,by omega,by go_num,rfl,av HI.out.1 _,Y4.out⟩
   case measure=>simp[intOf];omega
  .obtain rfl:k=n:=by omega
   have hr:R=true:=by rw[HI.out.2,FW l k (by rw[HN.out];omega)];rfl
   have Y4:=Lib.hid hr;clear hr
   go_wp2
   go_ret
   exact⟨by rw[Y4.out];rfl,HI.out.1⟩
theorem qO (B n c:Nat) (a:Option Addr) (l:List D) (w:World) (hn:l.length=n) (h:dK w B a l) (hc:n<9223372036854775808):
  Calls Tryz.prog 57 #[.slice a n c] w fun e w'=>e=.returned (.bool (Aa 0 l))/\w.grownBy w' none:=by
 have H:=Lib.hid h;clear h
 have HN:=Lib.hid hn;clear hn
 obtain⟨R,HR⟩:∃R,Hid (R=Aa 0 l):=⟨_,rfl⟩
 rw[<- HR.out]
 go_enter Tryz.func57,Tryz.ntmps57
 go_wp2_with fail
 refine (nP B n c a l _ HN.out H.out hc).mono ?_
 rintro e w' ⟨rfl,hg⟩
 rw[<- HR.out]
 have HG:=Lib.hid hg;clear hg
 go_wp2
 go_ret
 exact⟨rfl,HG.out⟩
end Ve
end
section
open Go.RowKit Ve
namespace Ve
set_option maxHeartbeats 400000 in
theorem J9 (B1 B2 n1 n2 c1 c2:Nat) (a1 a2:Option Addr) (l1 l2:List D) (w:World) (hn1:l1.length=n1) (hn2:l2.length=n2) (h1:dK w B1 a1 l1) (h2:dK w B2 a2 l2) (hr:Rt 0 l1) (hc:n2<9223372036854775808):
  Calls Tryz.prog 87 #[.slice a1 n1 c1,.slice a2 n2 c2] w fun e w'=>e=.returned (.bool (Cr l1 l2))/\w.grownBy w' none:=by
 have H1:=Lib.hid h1;clear h1
 have H2:=Lib.hid h2;clear h2
 have HN:=Lib.hid (And.intro hn1 hn2);clear hn1 hn2
 obtain⟨R,HR⟩:∃R,Hid (R=Cr l1 l2):=⟨_,rfl⟩
 rw[<- HR.out]
 go_enter Tryz.func87,Tryz.ntmps87
 go_wp2
 go_loopw [9] (fun i wr=>∃(k:Nat),k<=n2/\i=.int .i64 k/\Hid (w.grownBy wr none/\R=Cr l1 (l2.drop k))) (fun i _=>n2-(intOf i).toNat)
 case atStart=>exact⟨0,by omega,rfl,ah _ _,HR.out⟩
 case round=>
  obtain⟨k,hk,rfl,HI⟩:=hrel
  by_cases hlt:k<n2
  .obtain⟨pb,po,rfl,hpb,hcs⟩:=(H2.out.stay HI.out.1).cells.resolve_left (by rw[HN.out.2];omega)
   obtain⟨k1,k2⟩:=hcs k (by rw[HN.out.2];exact hlt)
   clear hcs
   have hd:=drop_at l2 k (by rw[HN.out.2];exact hlt)
   obtain⟨x,y,hxy⟩:∃x y,l2.getD k z0=(x,y):=⟨_,_,rfl⟩
   rw[hxy]at k1 k2 hd
   simp only at k1 k2
   have hfin:R=(decide (y<=up l1 x)&&Cr l1 (l2.drop (k+1))):=by rw[HI.out.2,hd,Cr]
   have HF:=Lib.hid hfin;clear hfin hd hxy
   have hi:(k:Int)<(n2:Int):=by omega
   have hS:∀w',w.grownBy w' none->Calls Tryz.prog 114 #[.slice a1 n1 c1,.int .i64 x] w' fun e w''=>e=.returned (.int .i64 (up l1 x))/\w'.grownBy w'' none:=fun w' hg=>Q9 B1 n1 c1 a1 l1 x w' HN.out.1 (H1.out.stay hg) hr
   generalize up l1 x=u at hS HF
   have HS:=Lib.hid hS;clear hS
   obtain⟨W1,hW1⟩:∃W1,W1=(wr.alloc (.cells #[iV x,iV y] 42)):=⟨_,rfl⟩
   have hg1:w.grownBy W1 none:=by rw[hW1];exact av HI.out.1 _
   have hB:aH W1 wr.heap.size 42 [iV x,iV y]:=by rw[hW1];exact aH.new wr _ _
   have iA:=Lib.hid (And.intro hg1 hB);clear hg1 hB
   generalize hN:wr.heap.size=N at iA
   by_cases hyu:u<y
   .have hr2:R=false:=by rw[HF.out,decide_eq_false (by omega)];rfl
    have Qr:=Lib.hid hr2;clear hr2
    have hyb:decide (u<y)=true:=decide_eq_true hyu
    go_wp2_with fail
    rw[<- hW1]
    have m1:=iA.out.2.cell (i:=0) rfl
    have m2:=iA.out.2.cell (i:=1) rfl
    clear hW1 k1 k2 hN
    go_region_with (go_at_call 114;refine (HS.out _ (aX iA.out.1)).mono ?_;rintro e w3 ⟨rfl,hg3⟩;have m3:w3.cell? ⟨N,1,none⟩=some (iV y):=((iA.out.2.drew.grown hg3 (by simp)).cell (i:=1) rfl);have gq:=Lib.hid (aj (aX iA.out.1) hg3);clear hg3 m1 m2)
    all_goals
     go_wp2
     go_ret
     exact⟨by rw[Qr.out];rfl,gq.out⟩
   .have hr2:R=Cr l1 (l2.drop (k+1)):=by rw[HF.out,decide_eq_true (by omega)];rfl
    have Y4:=Lib.hid hr2;clear hr2
    have hyb:decide (u<y)=false:=decide_eq_false hyu
    go_wp2_with fail
    rw[<- hW1]
    have m1:=iA.out.2.cell (i:=0) rfl
    have m2:=iA.out.2.cell (i:=1) rfl
    clear hW1 k1 k2 hN
    go_region_with (go_at_call 114;refine (HS.out _ (aX iA.out.1)).mono ?_;rintro e w3 ⟨rfl,hg3⟩;have m3:w3.cell? ⟨N,1,none⟩=some (iV y):=((iA.out.2.drew.grown hg3 (by simp)).cell (i:=1) rfl);have gq:=Lib.hid (aj (aX iA.out.1) hg3);clear hg3 m1 m2)
    all_goals
     go_wp2
     go_roundw
     case rel=>exact⟨k+1,by omega,by go_num,gq.out,Y4.out⟩
     case measure=>simp[intOf];omega
  .obtain rfl:k=n2:=by omega
   have hr:R=true:=by rw[HI.out.2,FW l2 k (by rw[HN.out.2];omega)];rfl
   have Y4:=Lib.hid hr;clear hr
   go_wp2
   go_ret
   exact⟨by rw[Y4.out];rfl,HI.out.1⟩
def cvB (a b:List D):Bool:=Aa 0 a&&Aa 0 b&&Cr a b
def hasB (v:List D) (d:D):Bool:=Aa 0 v&&okD d&&decide (d.2<=up v d.1)
theorem Vh (v:List D) (d:D):hasB v d=cvB v [d]:=by
 simp[hasB,cvB,Me,Cr]
set_option maxHeartbeats 400000 in
theorem FY (B1 B2 n1 n2 c1 c2:Nat) (a1 a2:Option Addr) (l1 l2:List D) (w:World) (hn1:l1.length=n1) (hn2:l2.length=n2) (h1:dK w B1 a1 l1) (h2:dK w B2 a2 l2) (hc1:n1<9223372036854775808) (hc2:n2<9223372036854775808):
  Calls Tryz.prog 58 #[.slice a1 n1 c1,.slice a2 n2 c2] w fun e w'=>e=.returned (.bool (cvB l1 l2))/\w.grownBy w' none:=by
 have HA:=Lib.hid (fun w' (hg:w.grownBy w' none)=>qO B1 n1 c1 a1 l1 w' hn1 (h1.stay hg) hc1)
 have HB:=Lib.hid (fun w' (hg:w.grownBy w' none)=>qO B2 n2 c2 a2 l2 w' hn2 (h2.stay hg) hc2)
 have HC:=Lib.hid (fun (hr:Aa 0 l1=true) w' (hg:w.grownBy w' none)=>J9 B1 B2 n1 n2 c1 c2 a1 a2 l1 l2 w' hn1 hn2 (h1.stay hg) (h2.stay hg) ((Ej _ _).1 hr) hc2)
 clear h1 h2 hn1 hn2
 obtain⟨R,hR⟩:∃R,R=cvB l1 l2:=⟨_,rfl⟩
 rw[<- hR]
 unfold cvB at hR
 generalize Cr l1 l2=z at hR HC
 generalize Aa 0 l2=y at hR HB
 cases hx:Aa 0 l1 with
 | false=>
  rw[hx]at hR HA
  have HR:=Lib.hid (show R=false from hR);clear hR
  clear HB HC hx
  go_enter Tryz.func58,Tryz.ntmps58
  go_wp2_with fail
  refine (HA.out _ (ah _ _)).mono ?_
  rintro e w1 ⟨rfl,hg⟩
  have HG:=Lib.hid hg;clear hg
  go_wp2
  go_ret
  exact⟨by rw[HR.out];rfl,HG.out⟩
 | true=>
  replace HC:=Lib.hid (HC.out hx)
  rw[hx]at hR HA
  clear hx
  cases y with
  | false=>
   have HR:=Lib.hid (show R=false from hR);clear hR
   clear HC
   go_enter Tryz.func58,Tryz.ntmps58
   go_wp2_with fail
   refine (HA.out _ (ah _ _)).mono ?_
   rintro e w1 ⟨rfl,hg⟩
   have HG:=Lib.hid hg;clear hg
   go_wp2_with fail
   refine (HB.out _ HG.out).mono ?_
   rintro e w2 ⟨rfl,hg⟩
   have HG2:=Lib.hid (aj HG.out hg);clear hg
   go_wp2
   go_ret
   exact⟨by rw[HR.out];rfl,HG2.out⟩
  | true=>
   have HR:=Lib.hid (show R=z from by simpa using hR);clear hR
   go_enter Tryz.func58,Tryz.ntmps58
   go_wp2_with fail
   refine (HA.out _ (ah _ _)).mono ?_
   rintro e w1 ⟨rfl,hg⟩
   have HG:=Lib.hid hg;clear hg
   go_wp2_with fail
   refine (HB.out _ HG.out).mono ?_
   rintro e w2 ⟨rfl,hg⟩
   have HG2:=Lib.hid (aj HG.out hg);clear hg
   go_wp2_with fail
   refine (HC.out _ HG2.out).mono ?_
   rintro e w3 ⟨rfl,hg⟩
   have gq:=Lib.hid (aj HG2.out hg);clear hg
   go_wp2
   go_ret
   exact⟨by rw[HR.out];rfl,gq.out⟩
theorem wz (w:World) (x y:Int) (T:TypeId):dK (w.alloc (.cells #[iV x,iV y] T)) (w.heap.size+1) (some ⟨w.heap.size,0,none⟩) [(x,y)]:=by
 have hB:aH (w.alloc (.cells #[iV x,iV y] T)) w.heap.size T [iV x,iV y]:=aH.new w _ _
 refine⟨by simp,Or.inr ⟨w.heap.size,0,rfl,by omega,fun i hi=>?_⟩⟩
 obtain rfl:i=0:=by simp at hi;omega
 exact⟨hB.cell (i:=0) rfl,hB.cell (i:=1) rfl⟩
end Ve
end
section
open Go.RowKit Ow Wi Ve
namespace Rc
structure L where
 s:ByteArray
 a1:Option Addr
 n1:Nat
 c1:Nat
 a2:Option Addr
 n2:Nat
 c2:Nat
 a3:Option Addr
 n3:Nat
 c3:Nat
def Eo (s:ByteArray) (cl sq:Int) (a1:Option Addr) (n1 c1:Nat) (g:Bool) (a2:Option Addr) (n2 c2:Nat) (a3:Option Addr) (n3 c3:Nat):List Value:=
 [.string s,iV cl,iV sq,.slice a1 n1 c1,.bool g,.slice a2 n2 c2,.slice a3 n3 c3]
def L.cells (q:L) (r:R):List Value:=Eo q.s r.cl r.sq q.a1 q.n1 q.c1 r.gone q.a2 q.n2 q.c2 q.a3 q.n3 q.c3
def L.v (q:L) (r:R):Value:=.agg (q.cells r).toArray
def z7:List Value:=Eo ⟨#[]⟩ 0 0 none 0 0 false none 0 0 none 0 0
structure mV (w:World) (B:Nat) (q:L) (r:R):Prop where
 str:iF q.s=r.key
 l1:r.cx.length=q.n1
 l2:r.val.length=q.n2
 l3:r.sig.length=q.n3
 dots:dK w B q.a1 r.cx
 val:BytesAt w B q.a2 q.c2 r.val
 sig:BytesAt w B q.a3 q.c3 r.sig
 top:q.n1<9223372036854775808
theorem mV.stay {w w':World} {B:Nat} {q:L} {r:R} (h:mV w B q r) (hg:w.grownBy w' none):mV w' B q r:=
 ⟨h.str,h.l1,h.l2,h.l3,h.dots.stay hg,h.val.stay hg,h.sig.stay hg,h.top⟩
theorem mV.full {w:World} {B:Nat} {q:L} {r:R} (h:mV w B q r):mV w w.heap.size q r:=
 ⟨h.str,h.l1,h.l2,h.l3,h.dots.up' h.dots.lim (Nat.le_refl _),h.val.up h.val.lim (Nat.le_refl _),h.sig.up h.sig.lim (Nat.le_refl _),h.top⟩
theorem mV.Ka {w:World} {B:Nat} {q:L} {r:R} (h:mV w B q r):r.key.length=q.s.size:=by rw[<- h.str,qw]
def L.New (q:L) (n0:Nat):Prop:=(∀g o,q.a1=some ⟨g,o,none⟩->n0<=g)/\(∀g o,q.a2=some ⟨g,o,none⟩->n0<=g)/\∀g o,q.a3=some ⟨g,o,none⟩->n0<=g
theorem Kc {w w':World} {B T:Nat} {a:Option Addr} {l:List D} (h:dK w B a l) (hg:w.grownBy w' (some T)) (hT:∀pb po,a=some ⟨pb,po,none⟩->pb≠T):dK w' B a l:=by
 refine⟨Nat.le_trans h.lim hg.size,?_⟩
 rcases h.cells with h0 |⟨pb,po,ha,hlt,hc⟩
 .exact Or.inl h0
 .have e:∀o,w'.cell? ⟨pb,o,none⟩=w.cell? ⟨pb,o,none⟩:=fun o=>bf hg (p:=⟨pb,o,none⟩) (Nat.lt_of_lt_of_le hlt h.lim) (fun e=>hT pb po ha (Option.some.inj e))
  exact Or.inr ⟨pb,po,ha,hlt,fun i hi=>by rw[e,e];exact hc i hi⟩
theorem mV.apart {w w':World} {B T n0:Nat} {q:L} {r:R} (h:mV w B q r) (hg:w.grownBy w' (some T)) (hq:q.New n0) (hT:T<n0):mV w' B q r:=
 ⟨h.str,h.l1,h.l2,h.l3,Kc h.dots hg (fun pb po e=>by have:=hq.1 _ _ e;omega),h.val.apart hg (Or.inr fun pb po e=>by have:=hq.2.1 _ _ e;omega),h.sig.apart hg (Or.inr fun pb po e=>by have:=hq.2.2 _ _ e;omega),h.top⟩
end Rc
end
section
open Go.RowKit Ow Wi Ve
namespace Rc
def uW (l:List D):List (List Nat):=l.flatMap fun d=>[dR d.1,dR d.2]
theorem FZ (l:List D):(uW l).length=2*l.length:=by
 induction l with
 | nil=>rfl
 | cons d r ih=>simp only[uW,List.flatMap_cons,List.length_append,List.length_cons,List.length_nil]at ih ⊢;omega
theorem xJ (l:List D):(uW l).flatten=bN l:=by
 induction l with
 | nil=>rfl
 | cons d r ih=>
  have h:(uW (d:: r)).flatten=dR d.1++(dR d.2++(uW r).flatten):=rfl
  rw[h,ih];simp[bN,NW]
theorem Oe (l:List D) (k:Nat) (h:k<l.length) {x y:Int} (e:l.getD k z0=(x,y)):uW (l.take (k+1))=uW (l.take k)++[dR x,dR y]:=by
 rw[List.take_succ_eq_append_getElem h]
 have e2:l[k]=(x,y):=by rw[<- e,List.getD_eq_getElem?_getD,List.getElem?_eq_getElem h];rfl
 rw[e2]
 simp[uW]
theorem Dr (l:List D):∀r∈uW l,∀i,r.getD i 0<256:=fun r hr=>by
 obtain⟨d,_,h⟩:=List.mem_flatMap.1 hr
 simp only[List.mem_cons,List.not_mem_nil,or_false]at h
 rcases h with rfl|rfl<;>exact nO _
theorem xK (l:List D):(bN l).length=16*l.length:=by
 induction l with
 | nil=>rfl
 | cons d r ih=>simp only[bN,List.flatMap_cons,List.length_append,NW,cO,List.length_cons]at ih ⊢;omega
theorem _root_.Go.Proofs.YtmijliomjpphkaaGreatDoor.Parts.lt {w:World} {base:Nat} {v:Value} {L:List (List Nat)} (h:Parts w base v L):∀g,v.ownBlock=some g->g<w.heap.size:=fun g e=>by
 obtain⟨xs,ho,_⟩:=h
 exact (ho.lt g e).2
theorem _root_.Go.Proofs.YtmijliomjpphkaaGreatDoor.Parts.gb {w w1 w2 w3:World} {v:Value} {L:List (List Nat)} (h:Parts w1 w.heap.size v L) (hg:w.grownBy w1 none) (hg2:w1.grownBy w2 none) (hg3:w2.grownBy w3 v.ownBlock):w.grownBy w3 none:=by
 obtain⟨xs,ho,_⟩:=h
 exact QS (aj hg hg2) (ho.stay hg2) hg3
theorem Ai (n:Int) (n0:Nat) (w:World) (h:n0<=w.heap.size):Calls Tryz.prog 42 #[.int .i64 n] w (fun e w'=>∃v,e=.returned v/\w.grownBy w' none/\∃N,v=.slice (some ⟨N,0,none⟩) 8 8/\n0<=N/\aH w' N 5 ((dR n).map dD)):=
 (zZ n w).mono fun _ _ ⟨g,he,hg,hn,hb⟩=>⟨_,he,hg,g,rfl,Nat.le_trans h hn,hb⟩
def _root_.Go.Proofs.YtmijliomjpphkaaGreatDoor.Fg.It.dts (l:List D):Fg.It:=⟨fun v w=>∃a cap B,v=.slice a l.length cap/\dK w B a l,fun _ _ _ ⟨a,cap,B,e,h⟩ hg=>⟨a,cap,B,e,h.stay hg⟩⟩
set_option maxHeartbeats 1000000 in
set_option maxRecDepth 100000 in
theorem F3 (n cap B:Nat) (l:List D) (a:Option Addr) (w:World) (hn:l.length=n) (h:dK w B a l) (hm:n<=8):
  Calls Tryz.prog 40 #[.slice a n cap] w (Cq w (bN l)):=by
 have H:=Lib.hid h;clear h
 have HL:=Lib.hid hn;clear hn
 obtain⟨Q,hQ⟩:∃Q,Q=Cq w (bN l):=⟨_,rfl⟩
 rw[<- hQ]
 have HQ:=Lib.hid hQ;clear hQ
 go_enter Tryz.func40,Tryz.ntmps40
 go_wp2
 go_loopw [3,8] (fun v i wr=>∃(k:Nat) (vr:Value),k<=n/\i=.int .i64 k/\vr=v/\Hid (w.grownBy wr none/\Parts wr w.heap.size vr (uW (l.take k)))) (fun _ i _=>n-(intOf i).toNat)
 case atStart=>exact⟨0,_,by omega,rfl,rfl,ah _ _,Parts.nil _ _⟩
 case round=>
  obtain⟨k,vr,hk,rfl,rfl,HI⟩:=hrel
  by_cases hlt:k<n
  .have i0:(k:Int)<(n:Int):=by omega
   obtain⟨pb,po,rfl,hpb,hcs⟩:=(H.out.stay HI.out.1).cells.resolve_left (by rw[HL.out];omega)
   obtain⟨k1,k2⟩:=hcs k (by rw[HL.out];exact hlt)
   obtain⟨x,y,hxy⟩:∃x y,l.getD k z0=(x,y):=⟨_,_,rfl⟩
   have HD:=Lib.hid (And.intro (Oe l k (by rw[HL.out];exact hlt) hxy) (And.intro hlt (And.intro hk (show k<8 by omega))))
   rw[hxy]at k1 k2
   simp only at k1 k2
   clear hcs hxy
   obtain⟨W1,hW1⟩:∃W1,W1=wr.alloc (.cells #[iV x,iV y] 42):=⟨_,rfl⟩
   obtain⟨N,hN⟩:∃N,N=wr.heap.size:=⟨_,rfl⟩
   have HN:Hid (aH W1 N 42 [iV x,iV y]):=by show aH _ _ _ _;rw[hW1,hN];exact aH.new wr _ _
   have HN1:Hid (wr.grownBy W1 none):=by show wr.grownBy _ none;rw[hW1];exact av (ah _ _) _
   go_wp2_with fail
   rw[<- hW1,<- hN]
   clear hW1 hN k1 k2
   refine Fg.sD [] [.any,.any,.any,.any,.any,.any,.any,.any,.any,.any,.any,.any,.val (vr),.val (Value.pointer (some ⟨N,0,none⟩)),.val (Value.int .i64 x),.row 5 ((dR x).map dD) 8 W1.heap.size,.val (Value.pointer (some ⟨N,1,none⟩)),.val (Value.int .i64 y),.row 5 ((dR y).map dD) 8 W1.heap.size,.two W1.heap.size (dR x) (dR y)] W1 8 (ah _ _) (by kernel_rfl) (by kernel_rfl) (by kernel_rfl) (by kernel_rfl) (by decide) (by kernel_rfl) ?_ ?_
   .refine⟨Fg.vT rfl (by decide) fun ac w h=>?_,?_⟩
    .have e3:_=vr:=h.r 3
     exact⟨_,w,aB rfl,Fg.run_move rfl e3,ah _ _,rfl⟩
    refine⟨Fg.vT rfl (by decide) fun ac w h=>?_,?_⟩
    .have e5:_=Value.pointer (some ⟨N,0,none⟩):=h.r 5
     refine⟨Value.pointer (some ⟨N,0,none⟩),w,aB rfl,?_,ah _ _,rfl⟩
     clear h
     simp only[execOp,Act.eval,e5]
     go_simp
    refine⟨Fg.vT rfl (by decide) fun ac w h=>?_,?_⟩
    .have e13:_=Value.pointer (some ⟨N,0,none⟩):=h.d 13
     have c:=((HN.out.gn h.base).cell (i:=0) rfl)
     refine⟨Value.int .i64 x,w,aB rfl,?_,ah _ _,rfl⟩
     clear h
     simp only[execOp,Act.eval,e13]
     go_simp
    refine⟨Fg.cT rfl (by decide) fun ac w h=>?_,?_⟩
    .have e14:_=Value.int .i64 x:=h.d 14
     refine⟨42,#[Value.int .i64 x],aB rfl,Fg.aN rfl rfl (by simp only[List.map_toArray,List.map_cons,List.map_nil,Act.eval,e14]) (Fg.aI Tryz.func42 (by kernel_rfl) (by kernel_rfl)),?_⟩
     exact (Ai x W1.heap.size w h.base.size).mono fun _ _ ⟨v,he,hg,hb⟩=>⟨v,he,hg,hb⟩
    refine⟨Fg.vT rfl (by decide) fun ac w h=>?_,?_⟩
    .have e5:_=Value.pointer (some ⟨N,0,none⟩):=h.r 5
     refine⟨Value.pointer (some ⟨N,1,none⟩),w,aB rfl,?_,ah _ _,rfl⟩
     clear h
     simp only[execOp,Act.eval,e5]
     go_simp
    refine⟨Fg.vT rfl (by decide) fun ac w h=>?_,?_⟩
    .have e16:_=Value.pointer (some ⟨N,1,none⟩):=h.d 16
     have c:=((HN.out.gn h.base).cell (i:=1) rfl)
     refine⟨Value.int .i64 y,w,aB rfl,?_,ah _ _,rfl⟩
     clear h
     simp only[execOp,Act.eval,e16]
     go_simp
    refine⟨Fg.cT rfl (by decide) fun ac w h=>?_,?_⟩
    .have e17:_=Value.int .i64 y:=h.d 17
     refine⟨42,#[Value.int .i64 y],aB rfl,Fg.aN rfl rfl (by simp only[List.map_toArray,List.map_cons,List.map_nil,Act.eval,e17]) (Fg.aI Tryz.func42 (by kernel_rfl) (by kernel_rfl)),?_⟩
     exact (Ai y W1.heap.size w h.base.size).mono fun _ _ ⟨v,he,hg,hb⟩=>⟨v,he,hg,hb⟩
    refine⟨Fg.vT rfl (by decide) fun ac w h=>?_,?_⟩
    .obtain⟨g15,e15,n15,b15⟩:∃N,ac.tmps.getD 15 undef=.slice (some ⟨N,0,none⟩) 8 8/\W1.heap.size<=N/\aH w N 5 ((dR x).map dD):=h.dep 15 (by kernel_rfl)
     obtain⟨g18,e18,n18,b18⟩:∃N,ac.tmps.getD 18 undef=.slice (some ⟨N,0,none⟩) 8 8/\W1.heap.size<=N/\aH w N 5 ((dR y).map dD):=h.dep 18 (by kernel_rfl)
     refine⟨.slice (some ⟨w.heap.size,0,none⟩) 2 2,w.alloc (.cells #[.slice (some ⟨g15,0,none⟩) 8 8,.slice (some ⟨g18,0,none⟩) 8 8] 22),aB rfl,?_,av (ah _ _) _,⟨w.heap.size,g15,g18,rfl,⟨h.base.size,n15,n18⟩,aH.new w [.slice (some ⟨g15,0,none⟩) 8 8,.slice (some ⟨g18,0,none⟩) 8 8] _,b15.alloc _,b18.alloc _⟩⟩
     clear h
     simp only[execOp,Act.eval,e15,e18,List.map_toArray,List.map_cons,List.map_nil]
     go_simp
    trivial
   .intro aq wq hB hsz hdf hrest aC hpt
    have e12:aq.tmps.getD 12 undef=vr:=aC 12 (by kernel_rfl)
    obtain⟨⟨u13,e13⟩,⟨u14,e14⟩,⟨u15,e15⟩,⟨u16,e16⟩,⟨u17,e17⟩,⟨u18,e18⟩,_⟩:=Fg.bn aq [13,14,15,16,17,18]
    obtain⟨b19,p19,q19,e19,n19,h19,Y5,Y6⟩:∃b g1 g2,aq.tmps.getD 19 undef=.slice (some ⟨b,0,none⟩) 2 2/\(W1.heap.size<=b/\W1.heap.size<=g1/\W1.heap.size<=g2)/\aH wq b 22 [.slice (some ⟨g1,0,none⟩) 8 8,.slice (some ⟨g2,0,none⟩) 8 8]/\aH wq g1 5 ((dR x).map dD)/\aH wq g2 5 ((dR y).map dD):=aC 19 (by kernel_rfl)
    obtain rfl:=Fg.aQ [12,13,14,15,16,17,18,19] (vs:=[_,_,_,_,_,_,_,_,_,_,_,_,vr,u13,u14,u15,u16,u17,u18,Value.slice (some ⟨b19,0,none⟩) 2 2,_,_,_,_]) hsz hrest (by kernel_rfl) rfl rfl ⟨e12,e13,e14,e15,e16,e17,e18,e19,trivial⟩ hdf
    clear hsz hdf hrest aC hpt e12 e13 e14 e15 e16 e17 e18 e19
    have HP:=Lib.hid (HI.out.2.stay (aj HN1.out hB))
    have hlt:=HI.out.2.lt
    have hbb:=hB.size
    have hww:=HN1.out.size
    obtain⟨v2,w2,hap,hP2,hg2,hnb⟩:=FV wq w.heap.size b19 _ vr (uW (l.take k)) [(some ⟨p19,0,none⟩,8,dR x),(some ⟨q19,0,none⟩,8,dR y)] HP.out (by simpa[z8,cO] using h19) (fun e=>by have:=hlt _ e;omega) (by simp) (fun p hp=>by
     simp only[List.mem_cons,List.not_mem_nil,or_false]at hp
     rcases hp with rfl|rfl
     .exact⟨qN Y5,fun pb po e=>by cases e;exact⟨fun e=>by have:=hlt _ e;omega,Y5.lt⟩⟩
     .exact⟨qN Y6,fun pb po e=>by cases e;exact⟨fun e=>by have:=hlt _ e;omega,Y6.lt⟩⟩) (Nat.le_trans HI.out.1.size (by omega)) (by rw[FZ,List.length_take];have:=HD.out.2.2.2;simp;omega)
    have HS:=Lib.hid (show w.grownBy w2 none/\Parts w2 w.heap.size v2 (uW (l.take (k+1))) from⟨HI.out.2.gb HI.out.1 (aj HN1.out hB) hg2,by rw[HD.out.1];exact hP2⟩)
    have HA:=Lib.hid hap
    clear hP2 hg2 hnb hap hB hlt h19 Y5 Y6 n19 HP hbb hww
    refine wpList_append_run rfl (.tmp 12) (.tmp 19) 68 rfl rfl _ _ rfl rfl _ _ HA.out ?_
    refine Fg.aL (v:=v2) (w':=w2) rfl (Fg.run_assign rfl rfl) ?_
    refine wpList_nil ?_
    simp only[Act.put,List.setIfInBounds_toArray,List.set_cons_succ,List.set_cons_zero]
    go_wp2
    go_roundw
    case rel=>exact⟨k+1,v2,by omega,by go_num,rfl,HS.out⟩
    case measure=>simp[intOf];omega
  .obtain rfl:k=n:=by omega
   have e0:l.take k=l:=by rw[<- HL.out];exact List.take_length
   have hP:=HI.out.2
   rw[e0]at hP
   obtain⟨ap,cp,rfl,hR⟩:=hP.rows
   have HJ:=Lib.hid (QW (uW l).length (uW l) ap cp _ wr rfl hR (by rw[FZ,HL.out];omega) (by rw[xJ,xK,HL.out];omega) (Dr l))
   have HG:=Lib.hid HI.out.1
   clear hP hR e0 HI
   rw[xJ]at HJ
   generalize (uW l).length=m at *
   go_wp2_with fail
   refine HJ.out.mono ?_
   rintro e w2 ⟨a2,c2,rfl,hg,hb⟩
   have HR:Hid (Q (.returned (.slice a2 (bN l).length c2)) w2):=by rw[HQ.out];exact⟨a2,c2,rfl,aj HG.out hg,hb⟩
   clear hg hb
   go_wp2
   exact HR.out
end Rc
end
section
open Go.RowKit Ow Wi Ve
namespace Rc
abbrev vV (s:ByteArray) (cl sq:Int) (a1:Option Addr) (n1 c1:Nat) (g:Bool) (a2:Option Addr) (n2 c2:Nat) (a3:Option Addr) (n3 c3:Nat):Value:=
 .agg #[.string s,iV cl,iV sq,.slice a1 n1 c1,.bool g,.slice a2 n2 c2,.slice a3 n3 c3]
section
set_option maxHeartbeats 400000 in
theorem Mi (s:ByteArray) (cl sq:Int) (a1:Option Addr) (n1 c1:Nat) (g:Bool) (a2:Option Addr) (n2 c2:Nat) (a3:Option Addr) (n3 c3:Nat) (w:World):
  Calls Tryz.prog 41 #[vV s cl sq a1 n1 c1 g a2 n2 c2 a3 n3 c3] w fun e w'=>e=.returned (.agg #[iV cl,iV sq])/\w.grownBy w' none:=by
 go_enter Tryz.func41,Tryz.ntmps41
 go_wp2
 exact bodyPost_ret (v:=.agg #[iV cl,iV sq]) (by simp[results,Tryz.results41,go_sem]) rfl ⟨rfl,av (av (ah _ _) _) _⟩
set_option maxHeartbeats 400000 in
theorem Ke (b:Bool) (r:R) (B:Nat) (w:World) (q:L) (h:mV w B q r) (hb:zn r=b):
  Calls Tryz.prog 35 #[q.v r] w fun e w'=>e=.returned (.bool b)/\w.grownBy w' none:=by
 obtain⟨s,a1,n1,c1,a2,n2,c2,a3,n3,c3⟩:=q
 obtain⟨key,cl,sq,cx,g,val,sig⟩:=r
 have hl:cx.length=n1:=h.l1
 have HA:=Lib.hid (fun w' (hg:w.grownBy w' none)=>qO B n1 c1 a1 cx w' hl (h.dots.stay hg) h.top)
 have HO:=Lib.hid (fun w' B2 a2 c2 (h2:dK w' B2 a2 [(cl,sq)])=>qO B2 1 c2 a2 [(cl,sq)] w' rfl h2 (by decide))
 have HC:=Lib.hid (fun w' (hg:w.grownBy w' none) B2 a2 c2 (h2:dK w' B2 a2 [(cl,sq)])=>FY B B2 n1 1 c1 c2 a1 a2 cx [(cl,sq)] w' hl rfl (h.dots.stay hg) h2 h.top (by decide))
 clear h hl
 rw[Me]at HO
 rw[<- Vh]at HC
 have hb':(okD (cl,sq)&&Aa 0 cx&&!hasB cx (cl,sq))=b:=hb
 clear hb
 generalize okD (cl,sq)=x at *
 generalize Aa 0 cx=y at *
 generalize hasB cx (cl,sq)=z at *
 show Calls _ _ #[vV s cl sq a1 n1 c1 g a2 n2 c2 a3 n3 c3] w _
 obtain⟨N,hN⟩:∃N,N=w.heap.size:=⟨_,rfl⟩
 obtain⟨W0,hW0⟩:∃W0,W0=w.alloc (.cells #[.string s,iV cl,iV sq,.slice a1 n1 c1,.bool g,.slice a2 n2 c2,.slice a3 n3 c3] 46):=⟨_,rfl⟩
 have hG0:w.grownBy W0 none:=by rw[hW0];exact av (ah _ _) _
 have hB0:aH W0 N 46 [.string s,iV cl,iV sq,.slice a1 n1 c1,.bool g,.slice a2 n2 c2,.slice a3 n3 c3]:=by rw[hW0,hN];exact aH.new w _ _
 have jg:=Lib.hid (And.intro hG0 hB0);clear hG0 hB0
 go_enter Tryz.func35,Tryz.ntmps35
 go_wp2_with fail
 rw[<- hW0,<- hN]
 clear hW0 hN
 refine (Mi s cl sq a1 n1 c1 g a2 n2 c2 a3 n3 c3 W0).mono ?_
 rintro e w1 ⟨rfl,hg⟩
 have hD:=wz w1 cl sq 42
 obtain⟨W1,hW1⟩:∃W1,W1=w1.alloc (.cells #[iV cl,iV sq] 42):=⟨_,rfl⟩
 rw[<- hW1]at hD
 have hg1:w.grownBy W1 none:=by rw[hW1];exact av (aj jg.out.1 hg) _
 have hB1:aH W1 N 46 [.string s,iV cl,iV sq,.slice a1 n1 c1,.bool g,.slice a2 n2 c2,.slice a3 n3 c3]:=by rw[hW1];exact (jg.out.2.grown hg (by simp)).alloc _
 have iA:=Lib.hid (And.intro hg1 (And.intro hD hB1));clear hg1 hD hg hB1
 obtain⟨M,hM⟩:∃M,M=w1.heap.size:=⟨_,rfl⟩
 rw[<- hM]at iA
 go_wp2_with fail
 rw[<- hW1,<- hM]
 clear hW1 hM
 refine (HO.out _ _ _ 1 iA.out.2.1).mono ?_
 rintro e w2 ⟨rfl,hg⟩
 have c3:=(iA.out.2.2.grown hg (by simp)).cell (i:=3) rfl
 have HG2:=Lib.hid (And.intro (aj iA.out.1 hg) (iA.out.2.1.stay hg));clear hg
 cases x with
 | false=>
  go_wp2
  go_ret
  exact⟨by rw[<- hb'];rfl,HG2.out.1⟩
 | true=>
  go_wp2_with fail
  refine (HA.out _ HG2.out.1).mono ?_
  rintro e w3 ⟨rfl,hg⟩
  have c4:w3.cell? ⟨N,3,none⟩=some (.slice a1 n1 c1):=by rw[bf hg (block_lt_of_cell c3) (by simp)];exact c3
  have gq:=Lib.hid (And.intro (aj HG2.out.1 hg) (HG2.out.2.stay hg));clear hg c3
  cases y with
  | false=>
   go_wp2
   go_ret
   exact⟨by rw[<- hb'];rfl,gq.out.1⟩
  | true=>
   go_wp2_with fail
   refine (HC.out _ gq.out.1 _ _ _ gq.out.2).mono ?_
   rintro e w4 ⟨rfl,hg⟩
   have lY:=Lib.hid (aj gq.out.1 hg);clear hg c4
   go_wp2
   go_ret
   exact⟨by rw[<- hb'];simp,lY.out⟩
set_option maxHeartbeats 400000 in
theorem qP (b:Bool) (r:R) (B:Nat) (w:World) (q:L) (h:mV w B q r) (hb:gV r=b):
  Calls Tryz.prog 19 #[q.v r] w fun e w'=>e=.returned (.bool b)/\w.grownBy w' none:=by
 have HP:=Lib.hid (fun w' (hg:w.grownBy w' none)=>Ke _ r B w' q (h.stay hg) rfl)
 have hk:=h.Ka
 have hv:=h.l2
 clear h
 unfold gV YT YU at hb
 generalize zn r=z at HP hb
 obtain⟨s,a1,n1,c1,a2,n2,c2,a3,n3,c3⟩:=q
 obtain⟨key,cl,sq,cx,g,val,sig⟩:=r
 simp only at hk hv hb
 rw[hk,hv]at hb
 clear hk hv
 show Calls _ _ #[vV s cl sq a1 n1 c1 g a2 n2 c2 a3 n3 c3] w _
 replace HP:Hid (∀w' (hg:w.grownBy w' none),Calls Tryz.prog 35 #[vV s cl sq a1 n1 c1 g a2 n2 c2 a3 n3 c3] w' fun e w''=>e=.returned (.bool z)/\w'.grownBy w'' none):=HP
 obtain⟨N,hN⟩:∃N,N=w.heap.size:=⟨_,rfl⟩
 obtain⟨W0,hW0⟩:∃W0,W0=w.alloc (.cells #[.string s,iV cl,iV sq,.slice a1 n1 c1,.bool g,.slice a2 n2 c2,.slice a3 n3 c3] 46):=⟨_,rfl⟩
 have hG0:w.grownBy W0 none:=by rw[hW0];exact av (ah _ _) _
 have hB0:aH W0 N 46 [.string s,iV cl,iV sq,.slice a1 n1 c1,.bool g,.slice a2 n2 c2,.slice a3 n3 c3]:=by rw[hW0,hN];exact aH.new w _ _
 have jg:=Lib.hid (And.intro hG0 hB0);clear hG0 hB0
 cases g
 all_goals
  simp only[Bool.false_eq_true,if_true,if_false]at hb
  have HB:=Lib.hid hb;clear hb
  go_enter Tryz.func19,Tryz.ntmps19
  by_cases h1:1<=s.size
  .have i1:(1:Int)<=(s.size:Int):=by omega
   by_cases h2:s.size<=64
   .have i2:(s.size:Int)<=64:=by omega
    go_wp2_with fail
    rw[<- hW0,<- hN]
    clear hW0 hN
    refine (HP.out W0 jg.out.1).mono ?_
    rintro e w1 ⟨rfl,hg⟩
    have k5:=(jg.out.2.grown hg (by simp)).cell (i:=5) rfl
    have iA:=Lib.hid (aj jg.out.1 hg);clear hg
    cases z with
    | false=>
     have HF:Hid (b=false):=by show b=_;rw[<- HB.out];simp
     go_wp2
     go_ret
     exact⟨by rw[HF.out];rfl,iA.out⟩
    | true=>
     have HE:Hid ((decide (n2<=1024)=decide ((n2:Int)<=1024))/\decide (n2<=0)=decide (n2=0)):=⟨by rw[Bool.eq_iff_iff];simp;omega,by simp⟩
     go_wp2
     go_ret
     refine⟨?_,iA.out⟩
     first
     | exact congrArg (fun x=>Ending.returned (Value.bool x)) (show decide ((n2:Int)<=1024)=b from by have h:=HB.out;rw[HE.out.1]at h;rw[<- h];simp[h1,h2])
     | exact congrArg (fun x=>Ending.returned (Value.bool x)) (show decide (n2=0)=b from by have h:=HB.out;rw[HE.out.2]at h;rw[<- h];simp[h1,h2])
   .have i2:¬(s.size:Int)<=64:=by omega
    have HF:Hid (b=false):=by show b=_;rw[<- HB.out];simp[h2]
    go_wp2
    go_ret
    exact⟨by rw[HF.out];rfl,by rw[<- hW0];exact jg.out.1⟩
  .have i1:¬(1:Int)<=(s.size:Int):=by omega
   have HF:Hid (b=false):=by show b=_;rw[<- HB.out];simp[h1]
   go_wp2
   go_ret
   exact⟨by rw[HF.out];rfl,by rw[<- hW0];exact jg.out.1⟩
end
end Rc
end
section
open Go.RowKit Ow Wi
def _root_.Go.Proofs.YtmijliomjpphkaaGreatDoor.Fg.It.ow (b:Nat) (l:List Nat):Fg.It:=⟨fun v w=>w.ownsRow b 5 1 v l.length (l.map dD),fun v _ _ h hg=>h.kept hg (by cases v.ownBlock<;>simp)⟩
end
end Go.Proofs.YtmijliomjpphkaaGreatDoor
