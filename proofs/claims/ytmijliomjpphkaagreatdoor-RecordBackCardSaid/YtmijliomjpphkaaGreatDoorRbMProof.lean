/- THE STAGE'S THEOREM RecordBack: a record of a right shape is sealed; it is right then, checked with the seed's key, put, got as it was, and put as the same; what is got of any bytes is put as just these (P8.4). -/
import Derived.Test.YtmijliomjpphkaaGreatDoorRbM7
namespace Go.Proofs.YtmijliomjpphkaaGreatDoor.CX
open Go.ChangeShapes Go.WideShapes Go.ChangeAt Go.RowKit Ow Wi Ve Rc Ed Sb
set_option maxRecDepth 100000 in
theorem contract (H:Type) (enc:TypeId×Value->H) (W:World) (base:Nat) (args:Array Value) (ds gs:List (DataW H)) (before:List MemPlace)
    (hval:∀(j:Nat) t v,Tryz.f3.params[j]?=some t->args[j]?=some v->Value.okWide Tryz.prog W .any base t v)
    (hW:DataW.Whole enc Tryz.prog Tryz.f3.params.toList Rows.recordBackSpec.vars false W args.toList ds gs before) (hL:laidMetH Tryz.prog Rows.recordBackRow.laid W):
    Calls Tryz.prog 3 args W fun e W'=>∃v,e=.returned v/\Rows.recordBackSpec.post enc Tryz.prog Tryz.f3 false true false false W args v W':=by
  have hT:oI W/\eY W/\Tables W:=UO hL
  have hW':=hW
  obtain⟨p,q,UY,hV,rfl,hfz,hnd⟩:=hW
  have hA:DataW.TrodAll enc Tryz.prog W 0 (fun _=>true) true Tryz.f3.params.toList args.toList ds p:=UY
  rw[Tryz.params3]at hA hval
  obtain⟨v0,vs0,d0,ds0,p0,q0,hargs,rfl,rfl,h0,r0⟩:=trodAll_cons hA
  obtain⟨v1,vs1,d1,ds1,p1,q1,rfl,rfl,rfl,h1,r1⟩:=trodAll_cons r0
  obtain⟨v2,vs2,d2,ds2,p2,q2,rfl,rfl,rfl,h2,r2⟩:=trodAll_cons r1
  obtain⟨rfl,rfl,rfl⟩:=trodAll_nil r2
  obtain rfl:args=#[v0,v1,v2]:=by cases args;simp_all
  obtain⟨rfl,rfl⟩:=trodVars_none hV
  obtain⟨a0,aer,cap0,rfl⟩:=okWide_slice Tryz.underlying22 (hval 0 22 v0 rfl rfl)
  have k0:=h0
  have lt0:∀x∈p0,x.block<W.heap.size:=by obtain⟨m,hm⟩:=k0;exact DataW.trod_lt m _ _ _ hm
  have k1:=h1
  obtain⟨Q1,R1,rfl,hr1⟩:=Rc.UQ (hval 1 25 v1 rfl rfl) h1
  have lt1:∀x∈p1,x.block<W.heap.size:=by obtain⟨m,hm⟩:=k1;exact DataW.trod_lt m _ _ _ hm
  obtain⟨a2,len2,cap2,rfl⟩:=okWide_slice Tryz.underlying22 (hval 2 22 v2 rfl rfl)
  have k2:=h2
  have lt2:∀x∈p2,x.block<W.heap.size:=by obtain⟨m,hm⟩:=k2;exact DataW.trod_lt m _ _ _ hm
  obtain⟨l0,hl0,Qt⟩:=uU h0
  obtain⟨l2,hl2,hP2⟩:=uU h2
  have walk:Calls Tryz.prog 3 #[.slice a0 aer cap0,Q1.v R1,.slice a2 len2 cap2] W fun e w'=>e=.returned (.bool true)/\Below W.heap.size W w':=
    (Gr.UK aer cap0 _ len2 cap2 _ _ a0 a2 l0 l2 R1 W Q1 hT.1 hT.2.1 hT.2.2 hl0 Qt hr1 hl2 hP2).mono fun e w' h=>⟨h.1,QD h.2⟩
  refine walk.mono fun e W' ⟨he,bel⟩=>?_
  subst he
  exact⟨_,rfl,_,_,_,[],_,[],hW',trodAll_mk1 (shut_bool Tryz.underlying4 _),(trodAll_cons_mk (Below.trod laidOut (by kernel_rfl) (of_decide_eq_true (by kernel_rfl)) k0 bel lt0) (trodAll_cons_mk (Below.trod laidOut (by kernel_rfl) (of_decide_eq_true (by kernel_rfl)) k1 bel lt1) (trodAll_cons_mk (Below.trod laidOut (by kernel_rfl) (of_decide_eq_true (by kernel_rfl)) k2 bel lt2) trodAll_mk0))),rfl,bel.frame _,fun h=>by cases h⟩
theorem UR (os:Os):laidMet Tryz.prog Rows.recordBackRow.laid ((Fz os).forCall (fun _ _=>0) ⟨#[],#[.slice none 0 0,.agg #[.string ⟨#[]⟩,.int .i64 0,.int .i64 0,.slice none 0 0,.bool false,.slice none 0 0,.slice none 0 0],.slice none 0 0],[]⟩).memory:=
  laidMet_of_run' 8 (by kernel_rfl) (by kernel_rfl)
theorem reads (os:Os) {H:Type} (enc:TypeId×Value->H):∃d places,DataW.whole enc Tryz.prog ((Fz os).forCall (fun _ _=>0) ⟨#[],#[.slice none 0 0,.agg #[.string ⟨#[]⟩,.int .i64 0,.int .i64 0,.slice none 0 0,.bool false,.slice none 0 0,.slice none 0 0],.slice none 0 0],[]⟩).memory Tryz.f3.params.toList Rows.recordBackSpec.vars false (#[Value.slice none 0 0,Value.agg #[.string ⟨#[]⟩,.int .i64 0,.int .i64 0,.slice none 0 0,.bool false,.slice none 0 0,.slice none 0 0],Value.slice none 0 0]:Array Value).toList 8=some (d,[],places):=
  ⟨[.nil,.agg [.lit (.string []),.lit (.int .i64 0),.lit (.int .i64 0),.nil,.lit (.bool false),.nil,.nil],.nil],[],by kernel_rfl⟩
set_option maxRecDepth 100000 in
theorem lifted (os:Os) (started:os.Started) (H:Type) (enc:TypeId×Value->H) (F:Stop.Interp):
    ReturnsInHanded {} Tryz.checked os 3 .any ((OpenSpec.ofChange Rows.recordBackSpec).preRow enc Tryz.prog Tryz.f3 Rows.recordBackRow.domain false Rows.recordBackRow.laid) (((OpenSpec.ofChange Rows.recordBackSpec).at F).post enc Tryz.prog Tryz.f3 false true false false):=by
  obtain⟨d,places,hx⟩:=reads os enc
  refine returnsInHanded_of_row (C:=Tryz.checked) (s:=OpenSpec.ofChange Rows.recordBackSpec) own started (by kernel_rfl) Tryz.func3
    (witness_row_at (enc:=enc) (C:=Tryz.checked) false (Fz os) #[.slice none 0 0,.agg #[.string ⟨#[]⟩,.int .i64 0,.int .i64 0,.slice none 0 0,.bool false,.slice none 0 0,.slice none 0 0],.slice none 0 0] rfl (by kernel_rfl) (by kernel_rfl) (by kernel_rfl)
      (OpenSpec.preRow_of_cond 8 hx (by kernel_rfl) (fun k hk=>by cases hk) (by kernel_rfl) (UR os))) ?_
  intro W base args ds gs before hval hW _ _ _ hL _ _
  exact contract H enc W base args ds gs before hval hW hL
theorem UU:Tryz.pinned.checked.prog.inPlace 3=Rows.recordBackRow.inPlace:=by kernel_rfl
theorem JI:Tryz.pinned.checked.prog.unfollowed 3=Rows.recordBackRow.unfollowed:=by kernel_rfl
theorem Qq:Tryz.pinned.checked.prog.recurses 3=Rows.recordBackRow.recurses:=by kernel_rfl
theorem aa4:Tryz.pinned.checked.prog.varsNamed 3=Rows.recordBackRow.named:=by kernel_rfl
theorem facts:joinedFacts Tryz.pinned.checked.prog 3 Tryz.f3 (OpenSpec.ofChange Rows.recordBackSpec).bare Rows.recordBackRow=true:=by
  unfold joinedFacts
  rw[UU,JI,Qq,aa4]
  kernel_rfl
theorem named:Tryz.pinned.checked.prog.funcNamed Rows.recordBackRow.func=some 3:=by kernel_rfl
theorem inst:Func.isInstance Tryz.pinned.checked.prog Tryz.f3 Rows.recordBackRow.origin Rows.recordBackRow.targs:=of_decide_eq_true (by kernel_rfl)
theorem wrap:Func.isWrapper Tryz.pinned.checked.prog Tryz.f3 Rows.recordBackRow.wrapper Rows.recordBackRow.mainSum:=by unfold Func.isWrapper;first|(rw[if_pos (by decide +kernel)];kernel_rfl)|(rw[if_neg (by decide +kernel)];exact⟨rfl,rfl⟩)
theorem said:Rows.RecordBackSaid:=
  OpenClaim.holds_of_cond 3 Tryz.f3 rfl rfl rfl rfl rfl rfl rfl ⟨rfl,rfl,rfl,rfl,rfl⟩ rfl rfl rfl rfl rfl named Tryz.func3 facts inst wrap
    (fun os started H enc _ F=>by rw[OpenClaim.pre_eq_preRow];exact lifted os started H enc F)
theorem plain (f:FuncId) (fn:Func) (hf:Tryz.pinned.checked.prog.funcNamed "buttress/buttresslaw08.RecordBack"=some f) (hfn:Tryz.pinned.checked.prog.funcs[f]?=some fn):
    false=Tryz.pinned.checked.prog.looks []/\∀(j:Nat) t,fn.params[j]?=some t->Tryz.pinned.checked.prog.wantsStandIn t=false:=by
  obtain rfl:f=3:=Option.some.inj ((show Tryz.prog.funcNamed "buttress/buttresslaw08.RecordBack"=some 3 by kernel_rfl).symm.trans hf) |>.symm
  obtain rfl:fn=Tryz.f3:=(Option.some.inj (Tryz.func3.symm.trans hfn)).symm
  refine⟨by kernel_rfl,fun j t ht=>?_⟩
  rw[Tryz.params3]at ht
  have hz:t=22\/t=25\/t=22:=by simpa using Array.mem_of_getElem? ht
  have hm:t=22\/t=25:=by rcases hz with rfl|rfl|rfl<;>simp
  rcases hm with rfl|rfl
  . exact (show Tryz.prog.wantsStandIn 22=false by kernel_rfl)
  . exact (show Tryz.prog.wantsStandIn 25=false by kernel_rfl)
theorem card:Rows.RecordBackCardSaid:=
  Claim7.holds_tied_plain_at .later [] _ _ _ _ said (fun _ h=>by cases h) (by kernel_rfl) (fun _ h=>by cases h) recordBack_row_tie rfl ⟨rfl,rfl⟩ (by kernel_rfl) rfl plain (by kernel_rfl)
end Go.Proofs.YtmijliomjpphkaaGreatDoor.CX
