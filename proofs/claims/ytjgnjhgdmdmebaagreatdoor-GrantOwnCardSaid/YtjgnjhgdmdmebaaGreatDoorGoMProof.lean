/- GrantOwn: A record that a client's seed sealed may be written, if its key begins with the prefix, and else not; nor by the same grant of another client (P10.2; to 100 bytes of a prefix).  -/
import Derived.Test.YtjgnjhgdmdmebaaGreatDoorGoM7
namespace Go.Proofs.YtjgnjhgdmdmebaaGreatDoor.Jt
open Go.ChangeShapes Go.WideShapes Go.ChangeAt Go.RowKit Ow Wi Ve Rc Ed Sb
set_option maxRecDepth 100000 in
theorem contract (H:Type) (enc:TypeId×Value->H) (W:World) (base:Nat) (args:Array Value) (ds gs:List (DataW H)) (before:List MemPlace)
    (hval:∀(j:Nat) t v,Tryz.f4.params[j]?=some t->args[j]?=some v->Value.okWide Tryz.prog W .any base t v)
    (hW:DataW.Whole enc Tryz.prog Tryz.f4.params.toList Rows.grantOwnSpec.vars false W args.toList ds gs before) (hL:laidMetH Tryz.prog Rows.grantOwnRow.laid W) (hsz:(DataW.weightsEach Tryz.prog (Tryz.f4.params.toList++(OpenSpec.ofChange Rows.grantOwnSpec).bare.plain.varTypes Tryz.prog) (ds++gs)).all (·<=reachBytes)=true):
    Calls Tryz.prog 4 args W fun e W'=>∃v,e=.returned v/\Rows.grantOwnSpec.post enc Tryz.prog Tryz.f4 false true false false W args v W':=by
  have hT:ko W/\dH W/\Tables W:=Us hL
  have hW':=hW
  obtain⟨p,q,Uv,hV,rfl,hfz,hnd⟩:=hW
  have hA:DataW.TrodAll enc Tryz.prog W 0 (fun _=>true) true Tryz.f4.params.toList args.toList ds p:=Uv
  rw[Tryz.params4]at hA hval hsz
  obtain⟨v0,vs0,d0,ds0,p0,q0,hargs,rfl,rfl,h0,r0⟩:=trodAll_cons hA
  obtain⟨v1,vs1,d1,ds1,p1,q1,rfl,rfl,rfl,h1,r1⟩:=trodAll_cons r0
  obtain⟨v2,vs2,d2,ds2,p2,q2,rfl,rfl,rfl,h2,r2⟩:=trodAll_cons r1
  obtain⟨v3,vs3,d3,ds3,p3,q3,rfl,rfl,rfl,h3,r3⟩:=trodAll_cons r2
  obtain⟨rfl,rfl,rfl⟩:=trodAll_nil r3
  obtain rfl:args=#[v0,v1,v2,v3]:=by cases args;simp_all
  obtain⟨rfl,rfl⟩:=trodVars_none hV
  obtain⟨a0,adg,cap0,rfl⟩:=okWide_slice Tryz.underlying24 (hval 0 24 v0 rfl rfl)
  have k0:=h0
  have lt0:∀x∈p0,x.block<W.heap.size:=by obtain⟨m,hm⟩:=k0;exact DataW.trod_lt m _ _ _ hm
  have k1:=h1
  obtain⟨Q1,R1,rfl,hr1⟩:=Rc.Uk (hval 1 34 v1 rfl rfl) h1
  have lt1:∀x∈p1,x.block<W.heap.size:=by obtain⟨m,hm⟩:=k1;exact DataW.trod_lt m _ _ _ hm
  have k2:=h2
  obtain⟨s2,rfl,_,_,hs2⟩:=Go.ChangeMaps.open_string Tryz.underlying9 (hval 2 9 v2 rfl rfl) h2
  have lt2:∀x∈p2,x.block<W.heap.size:=by obtain⟨m,hm⟩:=k2;exact DataW.trod_lt m _ _ _ hm
  obtain⟨n3,rfl,_,_,wf3⟩:=open_int Tryz.underlying3 (hval 3 3 v3 rfl rfl) h3
  have k3:=h3
  have lt3:∀x∈p3,x.block<W.heap.size:=by obtain⟨m,hm⟩:=k3;exact DataW.trod_lt m _ _ _ hm
  obtain⟨l0,hl0,P7⟩:=BR h0
  have w1:∀m∈d1.weights Tryz.prog 34,m<=reachBytes:=fun m hm=>by simpa using List.all_eq_true.1 hsz m (DataW.weights_mem_each (j:=1) rfl rfl m hm)
  have walk:Calls Tryz.prog 4 #[.slice a0 adg cap0,Q1.v R1,.string s2,.int .i64 n3] W fun e w'=>e=.returned (.bool true)/\Below W.heap.size W w':=
    (Gr.Un adg cap0 a0 l0 R1 s2 n3 W Q1 hT.1 hT.2.1 hT.2.2 hl0 P7 hr1 (Gr.Um h1 w1) (Tw wf3).1 (Tw wf3).2).mono fun e w' h=>⟨h.1,Qh h.2⟩
  refine walk.mono fun e W' ⟨he,bel⟩=>?_
  subst he
  exact⟨_,rfl,_,_,_,[],_,[],hW',trodAll_mk1 (shut_bool Tryz.underlying4 _),(trodAll_cons_mk (Below.trod laidOut (by kernel_rfl) (of_decide_eq_true (by kernel_rfl)) k0 bel lt0) (trodAll_cons_mk (Below.trod laidOut (by kernel_rfl) (of_decide_eq_true (by kernel_rfl)) k1 bel lt1) (trodAll_cons_mk (Below.trod laidOut (by kernel_rfl) (of_decide_eq_true (by kernel_rfl)) k2 bel lt2) (trodAll_cons_mk (Below.trod laidOut (by kernel_rfl) (of_decide_eq_true (by kernel_rfl)) k3 bel lt3) trodAll_mk0)))),rfl,bel.frame _,fun h=>by cases h⟩
theorem Ut (os:Os):laidMet Tryz.prog Rows.grantOwnRow.laid ((Fp os).forCall (fun _ _=>0) ⟨#[],#[.slice none 0 0,.agg #[.string ⟨#[]⟩,.int .i64 0,.int .i64 0,.slice none 0 0,.bool false,.slice none 0 0,.slice none 0 0],.string ⟨#[]⟩,.int .i64 0],[]⟩).memory:=
  laidMet_of_run' 8 (by kernel_rfl) (by kernel_rfl)
theorem reads (os:Os) {H:Type} (enc:TypeId×Value->H):∃d places,DataW.whole enc Tryz.prog ((Fp os).forCall (fun _ _=>0) ⟨#[],#[.slice none 0 0,.agg #[.string ⟨#[]⟩,.int .i64 0,.int .i64 0,.slice none 0 0,.bool false,.slice none 0 0,.slice none 0 0],.string ⟨#[]⟩,.int .i64 0],[]⟩).memory Tryz.f4.params.toList Rows.grantOwnSpec.vars false (#[Value.slice none 0 0,Value.agg #[.string ⟨#[]⟩,.int .i64 0,.int .i64 0,.slice none 0 0,.bool false,.slice none 0 0,.slice none 0 0],Value.string ⟨#[]⟩,Value.int .i64 0]:Array Value).toList 8=some (d,[],places):=
  ⟨[.nil,.agg [.lit (.string []),.lit (.int .i64 0),.lit (.int .i64 0),.nil,.lit (.bool false),.nil,.nil],.lit (.string []),.lit (.int .i64 0)],[],by kernel_rfl⟩
set_option maxRecDepth 100000 in
theorem lifted (os:Os) (started:os.Started) (H:Type) (enc:TypeId×Value->H) (F:Stop.Interp):
    ReturnsInHanded {} Tryz.checked os 4 .any ((OpenSpec.ofChange Rows.grantOwnSpec).preRow enc Tryz.prog Tryz.f4 Rows.grantOwnRow.domain false Rows.grantOwnRow.laid) (((OpenSpec.ofChange Rows.grantOwnSpec).at F).post enc Tryz.prog Tryz.f4 false true false false):=by
  obtain⟨d,places,hx⟩:=reads os enc
  refine returnsInHanded_of_row (C:=Tryz.checked) (s:=OpenSpec.ofChange Rows.grantOwnSpec) own started (by kernel_rfl) Tryz.func4
    (witness_row_at (enc:=enc) (C:=Tryz.checked) false (Fp os) #[.slice none 0 0,.agg #[.string ⟨#[]⟩,.int .i64 0,.int .i64 0,.slice none 0 0,.bool false,.slice none 0 0,.slice none 0 0],.string ⟨#[]⟩,.int .i64 0] rfl (by kernel_rfl) (by kernel_rfl) (by kernel_rfl)
      (OpenSpec.preRow_of_cond 8 hx (by kernel_rfl) (fun k hk=>by cases hk) (by kernel_rfl) (Ut os))) ?_
  intro W base args ds gs before hval hW _ _ hsz hL _ _
  exact contract H enc W base args ds gs before hval hW hL hsz
theorem Uu:Tryz.pinned.checked.prog.inPlace 4=Rows.grantOwnRow.inPlace:=by kernel_rfl
theorem Ju:Tryz.pinned.checked.prog.unfollowed 4=Rows.grantOwnRow.unfollowed:=by kernel_rfl
theorem P6:Tryz.pinned.checked.prog.recurses 4=Rows.grantOwnRow.recurses:=by kernel_rfl
theorem ZV:Tryz.pinned.checked.prog.varsNamed 4=Rows.grantOwnRow.named:=by kernel_rfl
theorem facts:joinedFacts Tryz.pinned.checked.prog 4 Tryz.f4 (OpenSpec.ofChange Rows.grantOwnSpec).bare Rows.grantOwnRow=true:=by
  unfold joinedFacts
  rw[Uu,Ju,P6,ZV]
  kernel_rfl
theorem named:Tryz.pinned.checked.prog.funcNamed Rows.grantOwnRow.func=some 4:=by kernel_rfl
theorem inst:Func.isInstance Tryz.pinned.checked.prog Tryz.f4 Rows.grantOwnRow.origin Rows.grantOwnRow.targs:=of_decide_eq_true (by kernel_rfl)
theorem wrap:Func.isWrapper Tryz.pinned.checked.prog Tryz.f4 Rows.grantOwnRow.wrapper Rows.grantOwnRow.mainSum:=by unfold Func.isWrapper;first|(rw[if_pos (by decide +kernel)];kernel_rfl)|(rw[if_neg (by decide +kernel)];exact⟨rfl,rfl⟩)
theorem said:Rows.GrantOwnSaid:=
  OpenClaim.holds_of_cond 4 Tryz.f4 rfl rfl rfl rfl rfl rfl rfl ⟨rfl,rfl,rfl,rfl,rfl⟩ rfl rfl rfl rfl rfl named Tryz.func4 facts inst wrap
    (fun os started H enc _ F=>by rw[OpenClaim.pre_eq_preRow];exact lifted os started H enc F)
theorem plain (f:FuncId) (fn:Func) (hf:Tryz.pinned.checked.prog.funcNamed "buttress/buttresslaw10.GrantOwn"=some f) (hfn:Tryz.pinned.checked.prog.funcs[f]?=some fn):
    true=Tryz.pinned.checked.prog.looks []/\∀(j:Nat) t,fn.params[j]?=some t->Tryz.pinned.checked.prog.wantsStandIn t=false:=by
  obtain rfl:f=4:=Option.some.inj ((show Tryz.prog.funcNamed "buttress/buttresslaw10.GrantOwn"=some 4 by kernel_rfl).symm.trans hf) |>.symm
  obtain rfl:fn=Tryz.f4:=(Option.some.inj (Tryz.func4.symm.trans hfn)).symm
  refine⟨by kernel_rfl,fun j t ht=>?_⟩
  rw[Tryz.params4]at ht
  have hm:t=24\/t=34\/t=9\/t=3:=by simpa using Array.mem_of_getElem? ht
  rcases hm with rfl|rfl|rfl|rfl
  . exact (show Tryz.prog.wantsStandIn 24=false by kernel_rfl)
  . exact (show Tryz.prog.wantsStandIn 34=false by kernel_rfl)
  . exact (show Tryz.prog.wantsStandIn 9=false by kernel_rfl)
  . exact (show Tryz.prog.wantsStandIn 3=false by kernel_rfl)
theorem card:Rows.GrantOwnCardSaid:=
  Claim7.holds_tied_plain_at .later [] _ _ _ _ said (fun _ h=>by cases h) (by kernel_rfl) (fun _ h=>by cases h) grantOwn_row_tie rfl ⟨rfl,rfl⟩ (by kernel_rfl) rfl plain (by kernel_rfl)
end Go.Proofs.YtjgnjhgdmdmebaaGreatDoor.Jt
