/- THE STAGE'S THEOREM GrantEach: a row of records may be written just if each one may; the first one that may not tells the error; a grant more, of a client that has none, turns nothing of the other clients' (P10.2, P10.3; to 6 records). -/
import Derived.Test.YtjgnjhgdmdmebaaGreatDoorGeM7
namespace Go.Proofs.YtjgnjhgdmdmebaaGreatDoor.Fy
open Go.ChangeShapes Go.WideShapes Go.ChangeAt Go.RowKit Ow Wi Ve Rc Ed Sb
set_option maxRecDepth 100000 in
theorem contract (H:Type) (enc:TypeId×Value->H) (W:World) (base:Nat) (args:Array Value) (ds gs:List (DataW H)) (before:List MemPlace)
    (hval:∀(j:Nat) t v,Tryz.f3.params[j]?=some t->args[j]?=some v->Value.okWide Tryz.prog W .any base t v)
    (hW:DataW.Whole enc Tryz.prog Tryz.f3.params.toList Rows.grantEachSpec.vars false W args.toList ds gs before) (hL:laidMetH Tryz.prog Rows.grantEachRow.laid W) (hsz:(DataW.weightsEach Tryz.prog (Tryz.f3.params.toList++(OpenSpec.ofChange Rows.grantEachSpec).bare.plain.varTypes Tryz.prog) (ds++gs)).all (·<=reachBytes)=true):
    Calls Tryz.prog 3 args W fun e W'=>∃v,e=.returned v/\Rows.grantEachSpec.post enc Tryz.prog Tryz.f3 false true false false W args v W':=by
  have hT:kr W/\dB W/\Tables W:=Va hL
  have hW':=hW
  obtain⟨p,q,Vf,hV,rfl,hfz,hnd⟩:=hW
  have hA:DataW.TrodAll enc Tryz.prog W 0 (fun _=>true) true Tryz.f3.params.toList args.toList ds p:=Vf
  rw[Tryz.params3]at hA hval hsz
  obtain⟨v0,vs0,d0,ds0,p0,q0,hargs,rfl,rfl,h0,r0⟩:=trodAll_cons hA
  obtain⟨v1,vs1,d1,ds1,p1,q1,rfl,rfl,rfl,h1,r1⟩:=trodAll_cons r0
  obtain⟨v2,vs2,d2,ds2,p2,q2,rfl,rfl,rfl,h2,r2⟩:=trodAll_cons r1
  obtain⟨rfl,rfl,rfl⟩:=trodAll_nil r2
  obtain rfl:args=#[v0,v1,v2]:=by cases args;simp_all
  obtain⟨rfl,rfl⟩:=trodVars_none hV
  obtain⟨a0,ad3,cap0,rfl⟩:=okWide_slice Tryz.underlying22 (hval 0 22 v0 rfl rfl)
  have k0:=h0
  have lt0:∀x∈p0,x.block<W.heap.size:=by obtain⟨m,hm⟩:=k0;exact DataW.trod_lt m _ _ _ hm
  obtain⟨a1,len1,ad4,rfl⟩:=okWide_slice Tryz.underlying23 (hval 1 23 v1 rfl rfl)
  have k1:=h1
  have lt1:∀x∈p1,x.block<W.heap.size:=by obtain⟨m,hm⟩:=k1;exact DataW.trod_lt m _ _ _ hm
  have k2:=h2
  have w2:∀m∈d2.weights Tryz.prog 26,m<=reachBytes:=fun m hm=>by simpa using List.all_eq_true.1 hsz m (DataW.weights_mem_each (j:=2) rfl rfl m hm)
  obtain⟨X2,rfl,hx2,anU⟩:=Gr.U6 (hval 2 26 v2 rfl rfl) h2 w2
  have lt2:∀x∈p2,x.block<W.heap.size:=by obtain⟨m,hm⟩:=k2;exact DataW.trod_lt m _ _ _ hm
  have w0:∀m∈d0.weights Tryz.prog 22,m<=reachBytes:=fun m hm=>by simpa using List.all_eq_true.1 hsz m (DataW.weights_mem_each (j:=0) rfl rfl m hm)
  have w1:∀m∈d1.weights Tryz.prog 23,m<=reachBytes:=fun m hm=>by simpa using List.all_eq_true.1 hsz m (DataW.weights_mem_each (j:=1) rfl rfl m hm)
  obtain⟨l0,hl0,hn0,hL0,hc0,hf0⟩:=Gr.JB h0 w0
  obtain⟨l1,hl1,hm1,kC,hc1,hf1⟩:=Qy h1 w1
  have walk:Calls Tryz.prog 3 #[.slice a0 ad3 cap0,.slice a1 len1 ad4,Gr.gV X2] W fun e w'=>e=.returned (.bool true)/\Below W.heap.size W w':=
    (Gr.Qu ad3 cap0 len1 ad4 a0 a1 l0 l1 X2 W hT.1 hT.2.1 hT.2.2 hl0 hn0 hf0 hL0 hc0 hl1 hm1 hf1 kC hx2).mono fun e w' h=>⟨h.1,QM h.2⟩
  refine walk.mono fun e W' ⟨he,bel⟩=>?_
  subst he
  exact⟨_,rfl,_,_,_,[],_,[],hW',trodAll_mk1 (shut_bool Tryz.underlying4 _),(trodAll_cons_mk (Below.trod laidOut (by kernel_rfl) (of_decide_eq_true (by kernel_rfl)) k0 bel lt0) (trodAll_cons_mk (Below.trod laidOut (by kernel_rfl) (of_decide_eq_true (by kernel_rfl)) k1 bel lt1) (trodAll_cons_mk (Below.trod laidOut (by kernel_rfl) (of_decide_eq_true (by kernel_rfl)) k2 bel lt2) trodAll_mk0))),rfl,bel.frame _,fun h=>by cases h⟩
theorem Vb (os:Os):laidMet Tryz.prog Rows.grantEachRow.laid ((Fx os).forCall (fun _ _=>0) ⟨#[],#[.slice none 0 0,.slice none 0 0,.agg #[.int .i64 0,.slice none 0 0,.string ⟨#[]⟩]],[]⟩).memory:=
  laidMet_of_run' 8 (by kernel_rfl) (by kernel_rfl)
theorem reads (os:Os) {H:Type} (enc:TypeId×Value->H):∃d places,DataW.whole enc Tryz.prog ((Fx os).forCall (fun _ _=>0) ⟨#[],#[.slice none 0 0,.slice none 0 0,.agg #[.int .i64 0,.slice none 0 0,.string ⟨#[]⟩]],[]⟩).memory Tryz.f3.params.toList Rows.grantEachSpec.vars false (#[Value.slice none 0 0,Value.slice none 0 0,Value.agg #[.int .i64 0,.slice none 0 0,.string ⟨#[]⟩]]:Array Value).toList 8=some (d,[],places):=
  ⟨[.nil,.nil,.agg [.lit (.int .i64 0),.nil,.lit (.string [])]],[],by kernel_rfl⟩
set_option maxRecDepth 100000 in
theorem lifted (os:Os) (started:os.Started) (H:Type) (enc:TypeId×Value->H) (F:Stop.Interp):
    ReturnsInHanded {} Tryz.checked os 3 .any ((OpenSpec.ofChange Rows.grantEachSpec).preRow enc Tryz.prog Tryz.f3 Rows.grantEachRow.domain false Rows.grantEachRow.laid) (((OpenSpec.ofChange Rows.grantEachSpec).at F).post enc Tryz.prog Tryz.f3 false true false false):=by
  obtain⟨d,places,hx⟩:=reads os enc
  refine returnsInHanded_of_row (C:=Tryz.checked) (s:=OpenSpec.ofChange Rows.grantEachSpec) own started (by kernel_rfl) Tryz.func3
    (witness_row_at (enc:=enc) (C:=Tryz.checked) false (Fx os) #[.slice none 0 0,.slice none 0 0,.agg #[.int .i64 0,.slice none 0 0,.string ⟨#[]⟩]] rfl (by kernel_rfl) (by kernel_rfl) (by kernel_rfl)
      (OpenSpec.preRow_of_cond 8 hx (by kernel_rfl) (fun k hk=>by cases hk) (by kernel_rfl) (Vb os))) ?_
  intro W base args ds gs before hval hW _ _ hsz hL _ _
  exact contract H enc W base args ds gs before hval hW hL hsz
theorem Vd:Tryz.pinned.checked.prog.inPlace 3=Rows.grantEachRow.inPlace:=by kernel_rfl
theorem JE:Tryz.pinned.checked.prog.unfollowed 3=Rows.grantEachRow.unfollowed:=by kernel_rfl
theorem QA:Tryz.pinned.checked.prog.recurses 3=Rows.grantEachRow.recurses:=by kernel_rfl
theorem aaH:Tryz.pinned.checked.prog.varsNamed 3=Rows.grantEachRow.named:=by kernel_rfl
theorem facts:joinedFacts Tryz.pinned.checked.prog 3 Tryz.f3 (OpenSpec.ofChange Rows.grantEachSpec).bare Rows.grantEachRow=true:=by
  unfold joinedFacts
  rw[Vd,JE,QA,aaH]
  kernel_rfl
theorem named:Tryz.pinned.checked.prog.funcNamed Rows.grantEachRow.func=some 3:=by kernel_rfl
theorem inst:Func.isInstance Tryz.pinned.checked.prog Tryz.f3 Rows.grantEachRow.origin Rows.grantEachRow.targs:=of_decide_eq_true (by kernel_rfl)
theorem wrap:Func.isWrapper Tryz.pinned.checked.prog Tryz.f3 Rows.grantEachRow.wrapper Rows.grantEachRow.mainSum:=by unfold Func.isWrapper;first|(rw[if_pos (by decide +kernel)];kernel_rfl)|(rw[if_neg (by decide +kernel)];exact⟨rfl,rfl⟩)
theorem said:Rows.GrantEachSaid:=
  OpenClaim.holds_of_cond 3 Tryz.f3 rfl rfl rfl rfl rfl rfl rfl ⟨rfl,rfl,rfl,rfl,rfl⟩ rfl rfl rfl rfl rfl named Tryz.func3 facts inst wrap
    (fun os started H enc _ F=>by rw[OpenClaim.pre_eq_preRow];exact lifted os started H enc F)
theorem plain (f:FuncId) (fn:Func) (hf:Tryz.pinned.checked.prog.funcNamed "buttress/buttresslaw10.GrantEach"=some f) (hfn:Tryz.pinned.checked.prog.funcs[f]?=some fn):
    true=Tryz.pinned.checked.prog.looks []/\∀(j:Nat) t,fn.params[j]?=some t->Tryz.pinned.checked.prog.wantsStandIn t=false:=by
  obtain rfl:f=3:=Option.some.inj ((show Tryz.prog.funcNamed "buttress/buttresslaw10.GrantEach"=some 3 by kernel_rfl).symm.trans hf) |>.symm
  obtain rfl:fn=Tryz.f3:=(Option.some.inj (Tryz.func3.symm.trans hfn)).symm
  refine⟨by kernel_rfl,fun j t ht=>?_⟩
  rw[Tryz.params3]at ht
  have hm:t=22\/t=23\/t=26:=by simpa using Array.mem_of_getElem? ht
  rcases hm with rfl|rfl|rfl
  . exact (show Tryz.prog.wantsStandIn 22=false by kernel_rfl)
  . exact (show Tryz.prog.wantsStandIn 23=false by kernel_rfl)
  . exact (show Tryz.prog.wantsStandIn 26=false by kernel_rfl)
theorem card:Rows.GrantEachCardSaid:=
  Claim7.holds_tied_plain_at .later [] _ _ _ _ said (fun _ h=>by cases h) (by kernel_rfl) (fun _ h=>by cases h) grantEach_row_tie rfl ⟨rfl,rfl⟩ (by kernel_rfl) rfl plain (by kernel_rfl)
end Go.Proofs.YtjgnjhgdmdmebaaGreatDoor.Fy
