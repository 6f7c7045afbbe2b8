/- texts merged -/
import Derived.Test.YtjgnjhgdmdmebaaGreatDoorGeM1
import Derived.RegionTactic
import Derived.ChangeAlike
import Derived.BigRegion
import Derived.ChangeKeysEq
import Derived.Deep.Cut
import Derived.Laws.ResultCell
namespace Go.Proofs.YtjgnjhgdmdmebaaGreatDoor
section
open Go.RowKit
def sqG (A R:Nat) (x0 x1 x2 x3 x4 z0 z1 z2 z3 z4 z5 S0 S1 S2 S3 S4:Int) (r:Fe):List (Value->World->Prop):=[
 fun _ _=>True,
 fun _ _=>True,
 fun _ _=>True,
 fun _ _=>True,
 fun _ _=>True,
 fun _ _=>True,
 fun _ _=>True,
 fun _ _=>True,
 fun _ _=>True,
 fun _ _=>True,
 fun _ _=>True,
 fun _ _=>True,
 fun _ _=>True,
 fun _ _=>True,
 fun _ _=>True,
 fun _ _=>True,
 fun _ _=>True,
 fun _ _=>True,
 fun _ _=>True,
 fun v _=>v=.pointer (some ⟨A,0,none⟩),
 fun v _=>v=.int .u64 x0,
 fun v _=>v=.pointer (some ⟨A,0,none⟩),
 fun v _=>v=.int .u64 x0,
 fun v _=>v=.agg #[.int .u64 x0,.int .u64 x0],
 fun v _=>v=.int .u64 z1,
 fun v _=>v=.int .u64 z3,
 fun v _=>v=.agg #[.int .u64 z1,.int .u64 z3],
 fun v _=>v=.pointer (some ⟨A,2,none⟩),
 fun v _=>v=.int .u64 x2,
 fun v _=>v=.int .u64 z4,
 fun v _=>v=.int .u64 z2,
 fun v _=>v=.agg #[.int .u64 z4,.int .u64 z2],
 fun v w=>∃PB,PB≠R/\v=.slice (some ⟨PB,0,none⟩) 3 3/\aG w PB 175 (flat [(x0,x0),(z1,z3),(z4,z2)]),
 fun v _=>v=.agg #[.int .u64 (S0/18446744073709551616),.int .u64 (S0%18446744073709551616)],
 fun v _=>v=.int .u64 z0,
 fun v _=>v=.pointer (some ⟨A,1,none⟩),
 fun v _=>v=.int .u64 x1,
 fun v _=>v=.agg #[.int .u64 z0,.int .u64 x1],
 fun v _=>v=.pointer (some ⟨A,2,none⟩),
 fun v _=>v=.int .u64 x2,
 fun v _=>v=.int .u64 z4,
 fun v _=>v=.int .u64 z3,
 fun v _=>v=.agg #[.int .u64 z4,.int .u64 z3],
 fun v _=>v=.pointer (some ⟨A,3,none⟩),
 fun v _=>v=.int .u64 x3,
 fun v _=>v=.int .u64 z2,
 fun v _=>v=.agg #[.int .u64 x3,.int .u64 z2],
 fun v w=>∃PB,PB≠R/\v=.slice (some ⟨PB,0,none⟩) 3 3/\aG w PB 175 (flat [(z0,x1),(z4,z3),(x3,z2)]),
 fun v _=>v=.agg #[.int .u64 (S1/18446744073709551616),.int .u64 (S1%18446744073709551616)],
 fun v _=>v=.int .u64 z0,
 fun v _=>v=.pointer (some ⟨A,2,none⟩),
 fun v _=>v=.int .u64 x2,
 fun v _=>v=.agg #[.int .u64 z0,.int .u64 x2],
 fun v _=>v=.pointer (some ⟨A,1,none⟩),
 fun v _=>v=.int .u64 x1,
 fun v _=>v=.pointer (some ⟨A,1,none⟩),
 fun v _=>v=.int .u64 x1,
 fun v _=>v=.agg #[.int .u64 x1,.int .u64 x1],
 fun v _=>v=.pointer (some ⟨A,3,none⟩),
 fun v _=>v=.int .u64 x3,
 fun v _=>v=.int .u64 z5,
 fun v _=>v=.int .u64 z3,
 fun v _=>v=.agg #[.int .u64 z5,.int .u64 z3],
 fun v w=>∃PB,PB≠R/\v=.slice (some ⟨PB,0,none⟩) 3 3/\aG w PB 175 (flat [(z0,x2),(x1,x1),(z5,z3)]),
 fun v _=>v=.agg #[.int .u64 (S2/18446744073709551616),.int .u64 (S2%18446744073709551616)],
 fun v _=>v=.int .u64 z0,
 fun v _=>v=.pointer (some ⟨A,3,none⟩),
 fun v _=>v=.int .u64 x3,
 fun v _=>v=.agg #[.int .u64 z0,.int .u64 x3],
 fun v _=>v=.int .u64 z1,
 fun v _=>v=.pointer (some ⟨A,2,none⟩),
 fun v _=>v=.int .u64 x2,
 fun v _=>v=.agg #[.int .u64 z1,.int .u64 x2],
 fun v _=>v=.pointer (some ⟨A,4,none⟩),
 fun v _=>v=.int .u64 x4,
 fun v _=>v=.int .u64 z3,
 fun v _=>v=.agg #[.int .u64 x4,.int .u64 z3],
 fun v w=>∃PB,PB≠R/\v=.slice (some ⟨PB,0,none⟩) 3 3/\aG w PB 175 (flat [(z0,x3),(z1,x2),(x4,z3)]),
 fun v _=>v=.agg #[.int .u64 (S3/18446744073709551616),.int .u64 (S3%18446744073709551616)],
 fun v _=>v=.int .u64 z0,
 fun v _=>v=.pointer (some ⟨A,4,none⟩),
 fun v _=>v=.int .u64 x4,
 fun v _=>v=.agg #[.int .u64 z0,.int .u64 x4],
 fun v _=>v=.int .u64 z1,
 fun v _=>v=.pointer (some ⟨A,3,none⟩),
 fun v _=>v=.int .u64 x3,
 fun v _=>v=.agg #[.int .u64 z1,.int .u64 x3],
 fun v _=>v=.pointer (some ⟨A,2,none⟩),
 fun v _=>v=.int .u64 x2,
 fun v _=>v=.pointer (some ⟨A,2,none⟩),
 fun v _=>v=.int .u64 x2,
 fun v _=>v=.agg #[.int .u64 x2,.int .u64 x2],
 fun v w=>∃PB,PB≠R/\v=.slice (some ⟨PB,0,none⟩) 3 3/\aG w PB 175 (flat [(z0,x4),(z1,x3),(x2,x2)]),
 fun v _=>v=.agg #[.int .u64 (S4/18446744073709551616),.int .u64 (S4%18446744073709551616)],
 fun v _=>v=.agg #[.int .u64 (S0/18446744073709551616),.int .u64 (S0%18446744073709551616),.int .u64 (S1/18446744073709551616),.int .u64 (S1%18446744073709551616),.int .u64 (S2/18446744073709551616),.int .u64 (S2%18446744073709551616),.int .u64 (S3/18446744073709551616),.int .u64 (S3%18446744073709551616),.int .u64 (S4/18446744073709551616),.int .u64 (S4%18446744073709551616)],
 fun v _=>v=r.v]
def YM (A R:Nat) (x0 x1 x2 x3 x4 z0 z1 z2 z3 z4 z5 S0 S1 S2 S3 S4:Int) (r:Fe) (d:Nat) (v:Value) (w:World):Prop:=((sqG A R x0 x1 x2 x3 x4 z0 z1 z2 z3 z4 z5 S0 S1 S2 S3 S4 r).getD d (fun _ _=>True)) v w
structure Rx (w0:World) (A R:Nat) (x0 x1 x2 x3 x4:Int) (w:World):Prop where
 a:aG w A 66 [.int .u64 x0,.int .u64 x1,.int .u64 x2,.int .u64 x3,.int .u64 x4]
 r:fK w R 66
 g:w0.grownBy w none
 ra:A≠R
 rn:w0.heap.size<=R
theorem Rx.grown {w0:World} {A R:Nat} {x0 x1 x2 x3 x4:Int} {w w':World} (h:Rx w0 A R x0 x1 x2 x3 x4 w) (hg:w.grownBy w' none):Rx w0 A R x0 x1 x2 x3 x4 w':=
 ⟨h.a.grown hg (by simp),h.r.grown hg (by simp),aj h.g hg,h.ra,h.rn⟩
theorem Rx.alloc {w0:World} {A R:Nat} {x0 x1 x2 x3 x4:Int} {w:World} (h:Rx w0 A R x0 x1 x2 x3 x4 w) (o:Obj):Rx w0 A R x0 x1 x2 x3 x4 (w.alloc o):=h.grown (World.grownBy_alloc _ _ _)
theorem Rx.rJ {w0:World} {A R:Nat} {x0 x1 x2 x3 x4:Int} {w:World} (h:Rx w0 A R x0 x1 x2 x3 x4 w) (v0 v1 v2 v3 v4:Value):
  Rx w0 A R x0 x1 x2 x3 x4 (((((w.setCell ⟨R,0,none⟩ v0).setCell ⟨R,1,none⟩ v1).setCell ⟨R,2,none⟩ v2).setCell ⟨R,3,none⟩ v3).setCell ⟨R,4,none⟩ v4):=
 ⟨((((h.a.other (Ne.symm h.ra) _).other (Ne.symm h.ra) _).other (Ne.symm h.ra) _).other (Ne.symm h.ra) _).other (Ne.symm h.ra) _,
  ⟨_,_,_,_,_,h.r.rJ v0 v1 v2 v3 v4⟩,aJ (aJ (aJ (aJ (aJ h.g h.rn _) h.rn _) h.rn _) h.rn _) h.rn _,h.ra,h.rn⟩
theorem OA (A R:Nat) (x0 x1 x2 x3 x4 z0 z1 z2 z3 z4 z5 S0 S1 S2 S3 S4:Int) (r:Fe) (d:Nat) (u:Value) (w w':World) (hR:w.grownBy w' (some R)) (h:YM A R x0 x1 x2 x3 x4 z0 z1 z2 z3 z4 z5 S0 S1 S2 S3 S4 r d u w):YM A R x0 x1 x2 x3 x4 z0 z1 z2 z3 z4 z5 S0 S1 S2 S3 S4 r d u w':=
 zZ (R:=R) _ (show Stable R (sqG A R x0 x1 x2 x3 x4 z0 z1 z2 z3 z4 z5 S0 S1 S2 S3 S4 r) from⟨fun _ _ _ _ h=>h,fun _ _ _ _ h=>h,fun _ _ _ _ h=>h,fun _ _ _ _ h=>h,fun _ _ _ _ h=>h,fun _ _ _ _ h=>h,fun _ _ _ _ h=>h,fun _ _ _ _ h=>h,fun _ _ _ _ h=>h,fun _ _ _ _ h=>h,fun _ _ _ _ h=>h,fun _ _ _ _ h=>h,fun _ _ _ _ h=>h,fun _ _ _ _ h=>h,fun _ _ _ _ h=>h,fun _ _ _ _ h=>h,fun _ _ _ _ h=>h,fun _ _ _ _ h=>h,fun _ _ _ _ h=>h,fun _ _ _ _ h=>h,fun _ _ _ _ h=>h,fun _ _ _ _ h=>h,fun _ _ _ _ h=>h,fun _ _ _ _ h=>h,fun _ _ _ _ h=>h,fun _ _ _ _ h=>h,fun _ _ _ _ h=>h,fun _ _ _ _ h=>h,fun _ _ _ _ h=>h,fun _ _ _ _ h=>h,fun _ _ _ _ h=>h,fun _ _ _ _ h=>h,fun _ _ _ hR ⟨PB,hne,hv,hb⟩=>⟨PB,hne,hv,hb.grown hR (bJ hne)⟩,fun _ _ _ _ h=>h,fun _ _ _ _ h=>h,fun _ _ _ _ h=>h,fun _ _ _ _ h=>h,fun _ _ _ _ h=>h,fun _ _ _ _ h=>h,fun _ _ _ _ h=>h,fun _ _ _ _ h=>h,fun _ _ _ _ h=>h,fun _ _ _ _ h=>h,fun _ _ _ _ h=>h,fun _ _ _ _ h=>h,fun _ _ _ _ h=>h,fun _ _ _ _ h=>h,fun _ _ _ hR ⟨PB,hne,hv,hb⟩=>⟨PB,hne,hv,hb.grown hR (bJ hne)⟩,fun _ _ _ _ h=>h,fun _ _ _ _ h=>h,fun _ _ _ _ h=>h,fun _ _ _ _ h=>h,fun _ _ _ _ h=>h,fun _ _ _ _ h=>h,fun _ _ _ _ h=>h,fun _ _ _ _ h=>h,fun _ _ _ _ h=>h,fun _ _ _ _ h=>h,fun _ _ _ _ h=>h,fun _ _ _ _ h=>h,fun _ _ _ _ h=>h,fun _ _ _ _ h=>h,fun _ _ _ _ h=>h,fun _ _ _ hR ⟨PB,hne,hv,hb⟩=>⟨PB,hne,hv,hb.grown hR (bJ hne)⟩,fun _ _ _ _ h=>h,fun _ _ _ _ h=>h,fun _ _ _ _ h=>h,fun _ _ _ _ h=>h,fun _ _ _ _ h=>h,fun _ _ _ _ h=>h,fun _ _ _ _ h=>h,fun _ _ _ _ h=>h,fun _ _ _ _ h=>h,fun _ _ _ _ h=>h,fun _ _ _ _ h=>h,fun _ _ _ _ h=>h,fun _ _ _ _ h=>h,fun _ _ _ hR ⟨PB,hne,hv,hb⟩=>⟨PB,hne,hv,hb.grown hR (bJ hne)⟩,fun _ _ _ _ h=>h,fun _ _ _ _ h=>h,fun _ _ _ _ h=>h,fun _ _ _ _ h=>h,fun _ _ _ _ h=>h,fun _ _ _ _ h=>h,fun _ _ _ _ h=>h,fun _ _ _ _ h=>h,fun _ _ _ _ h=>h,fun _ _ _ _ h=>h,fun _ _ _ _ h=>h,fun _ _ _ _ h=>h,fun _ _ _ _ h=>h,fun _ _ _ _ h=>h,fun _ _ _ hR ⟨PB,hne,hv,hb⟩=>⟨PB,hne,hv,hb.grown hR (bJ hne)⟩,fun _ _ _ _ h=>h,fun _ _ _ _ h=>h,fun _ _ _ _ h=>h,trivial⟩) d u w w' hR h
set_option maxRecDepth 100000 in
set_option maxHeartbeats 4000000 in
theorem YN (x0 x1 x2 x3 x4:Int) (w:World) (a0:0<=x0) (c0:x0<18446744073709551616) (a1:0<=x1) (c1:x1<18446744073709551616) (a2:0<=x2) (c2:x2<18446744073709551616) (a3:0<=x3) (c3:x3<18446744073709551616) (a4:0<=x4) (c4:x4<18446744073709551616):
  Calls Tryz.prog 105 #[.agg #[.int .u64 x0,.int .u64 x1,.int .u64 x2,.int .u64 x3,.int .u64 x4]] w (nN (Fe.bZ ⟨x0,x1,x2,x3,x4⟩) w):=by
 obtain⟨z0,hz0⟩:∃z,IntKind.u64.wrap (2*x0)=z:=⟨_,rfl⟩
 have pz0:0<=z0:=by rw[<- hz0,ig];unfold Fe.dG;omega
 have qz0:z0<18446744073709551616:=by rw[<- hz0,ig];unfold Fe.dG;omega
 obtain⟨z1,hz1⟩:∃z,IntKind.u64.wrap (2*x1)=z:=⟨_,rfl⟩
 have pz1:0<=z1:=by rw[<- hz1,ig];unfold Fe.dG;omega
 have qz1:z1<18446744073709551616:=by rw[<- hz1,ig];unfold Fe.dG;omega
 obtain⟨z2,hz2⟩:∃z,IntKind.u64.wrap (19*x3)=z:=⟨_,rfl⟩
 have pz2:0<=z2:=by rw[<- hz2,ig];unfold Fe.dG;omega
 have qz2:z2<18446744073709551616:=by rw[<- hz2,ig];unfold Fe.dG;omega
 obtain⟨z3,hz3⟩:∃z,IntKind.u64.wrap (19*x4)=z:=⟨_,rfl⟩
 have pz3:0<=z3:=by rw[<- hz3,ig];unfold Fe.dG;omega
 have qz3:z3<18446744073709551616:=by rw[<- hz3,ig];unfold Fe.dG;omega
 obtain⟨z4,YO⟩:∃z,IntKind.u64.wrap (2*x2)=z:=⟨_,rfl⟩
 have pz4:0<=z4:=by rw[<- YO,ig];unfold Fe.dG;omega
 have qz4:z4<18446744073709551616:=by rw[<- YO,ig];unfold Fe.dG;omega
 obtain⟨z5,hz5⟩:∃z,IntKind.u64.wrap (2*x3)=z:=⟨_,rfl⟩
 have pz5:0<=z5:=by rw[<- hz5,ig];unfold Fe.dG;omega
 have qz5:z5<18446744073709551616:=by rw[<- hz5,ig];unfold Fe.dG;omega
 obtain⟨S0,hS0⟩:∃S,nM [(x0,x0),(z1,z3),(z4,z2)]=S:=⟨_,rfl⟩
 obtain⟨S1,hS1⟩:∃S,nM [(z0,x1),(z4,z3),(x3,z2)]=S:=⟨_,rfl⟩
 obtain⟨S2,hS2⟩:∃S,nM [(z0,x2),(x1,x1),(z5,z3)]=S:=⟨_,rfl⟩
 obtain⟨S3,XP⟩:∃S,nM [(z0,x3),(z1,x2),(x4,z3)]=S:=⟨_,rfl⟩
 obtain⟨S4,hS4⟩:∃S,nM [(z0,x4),(z1,x3),(x2,x2)]=S:=⟨_,rfl⟩
 obtain⟨r,hr⟩:∃r,r=Fe.uq S0 S1 S2 S3 S4:=⟨_,rfl⟩
 have vH:=Lib.hid hS0;clear hS0
 have Od:=Lib.hid hS1;clear hS1
 have HS2:=Lib.hid hS2;clear hS2
 have YJ:=Lib.hid XP;clear XP
 have YL:=Lib.hid hS4;clear hS4
 have Hr:=Lib.hid hr;clear hr
 have iS0:nL S0:=by rw[<- vH.out];exact⟨(gu _).1,(gu _).2⟩
 have iS1:nL S1:=by rw[<- Od.out];exact⟨(gu _).1,(gu _).2⟩
 have iS2:nL S2:=by rw[<- HS2.out];exact⟨(gu _).1,(gu _).2⟩
 have iS3:nL S3:=by rw[<- YJ.out];exact⟨(gu _).1,(gu _).2⟩
 have iS4:nL S4:=by rw[<- YL.out];exact⟨(gu _).1,(gu _).2⟩
 have XQ:=Lib.hid hz0;clear hz0
 have XR:=Lib.hid hz1;clear hz1
 have XT:=Lib.hid hz2;clear hz2
 have Rw:=Lib.hid hz3;clear hz3
 have Hz4:=Lib.hid YO;clear YO
 have Hz5:=Lib.hid hz5;clear hz5
 go_enter Tryz.func105,Tryz.ntmps105
 have hB0:Rx w w.heap.size (w.heap.size+1) x0 x1 x2 x3 x4 ((w.alloc (.cells #[.int .u64 x0,.int .u64 x1,.int .u64 x2,.int .u64 x3,.int .u64 x4] 66)).alloc (.cells #[.int .u64 0,.int .u64 0,.int .u64 0,.int .u64 0,.int .u64 0] 66)):=
  ⟨(aG.new w [.int .u64 x0,.int .u64 x1,.int .u64 x2,.int .u64 x3,.int .u64 x4] _).alloc _,⟨_,_,_,_,_,aG.newAt _ [.int .u64 0,.int .u64 0,.int .u64 0,.int .u64 0,.int .u64 0] _ (by simp)⟩,au (au (ah _ _) _) _,by omega,by omega⟩
 go_wp2
 go_quiet (fail)
 go_wp2
 go_quiet (fail)
 go_wp2
 refine rD (YM w.heap.size (w.heap.size+1) x0 x1 x2 x3 x4 z0 z1 z2 z3 z4 z5 S0 S1 S2 S3 S4 r) (fun _ w'=>aG w' (w.heap.size+1) 66 [.int .u64 r.x0,.int .u64 r.x1,.int .u64 r.x2,.int .u64 r.x3,.int .u64 r.x4])
  (Rx w w.heap.size (w.heap.size+1) x0 x1 x2 x3 x4) (fun w' w''=>w'.grownBy w'' none\/(w'.grownBy w'' (some (w.heap.size+1))/\aG w'' (w.heap.size+1) 66 [.int .u64 r.x0,.int .u64 r.x1,.int .u64 r.x2,.int .u64 r.x3,.int .u64 r.x4])) (by kernel_rfl) (by kernel_rfl) (by kernel_rfl) (((hB0.grown (gK (ah _ none) _)).grown (gK (ah _ none) _)).grown (aZ (ah _ none))) ?_ ?_ ?_ ?_
 .exact fun d u w1 w2 hR h=>OA _ _ _ _ _ _ _ _ _ _ _ _ _ _ _ _ _ _ r d u w1 w2 (hR.elim (fun h=>fP h _) (fun h=>h.1)) h
 .exact fun j w1 w2 hR h=>hR.elim (fun hg=>h.grown hg (by simp)) (fun h=>h.2)
 .clear hB0
  generalize w.heap.size=A
  generalize eR:A+1=R
  refine⟨aB rfl rfl fun a w h=>?_,?_⟩
  .have e1:_=Value.pointer (some ⟨A,0,none⟩):=h.r 1
   refine⟨.pointer (some ⟨A,0,none⟩),w,?_,h.base,Or.inl (ah _ _),rfl⟩
   clear h
   simp only[execOp,Act.eval,e1]
   go_simp
  refine⟨aB rfl rfl fun a w h=>?_,?_⟩
  .have e19:_=Value.pointer (some ⟨A,0,none⟩):=h.d 19
   have c:=h.base.a.cell (i:=0) rfl
   refine⟨.int .u64 x0,w,?_,h.base,Or.inl (ah _ _),rfl⟩
   clear h
   simp only[execOp,Act.eval,e19]
   go_simp
  refine⟨aB rfl rfl fun a w h=>?_,?_⟩
  .have e1:_=Value.pointer (some ⟨A,0,none⟩):=h.r 1
   refine⟨.pointer (some ⟨A,0,none⟩),w,?_,h.base,Or.inl (ah _ _),rfl⟩
   clear h
   simp only[execOp,Act.eval,e1]
   go_simp
  refine⟨aB rfl rfl fun a w h=>?_,?_⟩
  .have e21:_=Value.pointer (some ⟨A,0,none⟩):=h.d 21
   have c:=h.base.a.cell (i:=0) rfl
   refine⟨.int .u64 x0,w,?_,h.base,Or.inl (ah _ _),rfl⟩
   clear h
   simp only[execOp,Act.eval,e21]
   go_simp
  refine⟨aB rfl rfl fun a w h=>?_,?_⟩
  .have e20:_=Value.int .u64 x0:=h.d 20
   have e22:_=Value.int .u64 x0:=h.d 22
   refine⟨.agg #[.int .u64 x0,.int .u64 x0],w,?_,h.base,Or.inl (ah _ _),rfl⟩
   clear h
   simp only[execOp,List.map_toArray,List.map_cons,List.map_nil,Act.eval,e20,e22]
   go_simp
  refine⟨aB rfl rfl fun a w h=>?_,?_⟩
  .have e4:a.tmps.getD 4 undef=.int .u64 z1:=(h.rest 4 (by kernel_rfl)).trans (congrArg (Value.int .u64) XR.out)
   refine⟨.int .u64 z1,w,?_,h.base,Or.inl (ah _ _),rfl⟩
   clear h
   simp only[execOp,Act.eval,e4]
   go_simp
  refine⟨aB rfl rfl fun a w h=>?_,?_⟩
  .have e6:a.tmps.getD 6 undef=.int .u64 z3:=(h.rest 6 (by kernel_rfl)).trans (congrArg (Value.int .u64) Rw.out)
   refine⟨.int .u64 z3,w,?_,h.base,Or.inl (ah _ _),rfl⟩
   clear h
   simp only[execOp,Act.eval,e6]
   go_simp
  refine⟨aB rfl rfl fun a w h=>?_,?_⟩
  .have e24:_=Value.int .u64 z1:=h.d 24
   have e25:_=Value.int .u64 z3:=h.d 25
   refine⟨.agg #[.int .u64 z1,.int .u64 z3],w,?_,h.base,Or.inl (ah _ _),rfl⟩
   clear h
   simp only[execOp,List.map_toArray,List.map_cons,List.map_nil,Act.eval,e24,e25]
   go_simp
  refine⟨aB rfl rfl fun a w h=>?_,?_⟩
  .have e1:_=Value.pointer (some ⟨A,0,none⟩):=h.r 1
   refine⟨.pointer (some ⟨A,2,none⟩),w,?_,h.base,Or.inl (ah _ _),rfl⟩
   clear h
   simp only[execOp,Act.eval,e1]
   go_simp
  refine⟨aB rfl rfl fun a w h=>?_,?_⟩
  .have e27:_=Value.pointer (some ⟨A,2,none⟩):=h.d 27
   have c:=h.base.a.cell (i:=2) rfl
   refine⟨.int .u64 x2,w,?_,h.base,Or.inl (ah _ _),rfl⟩
   clear h
   simp only[execOp,Act.eval,e27]
   go_simp
  refine⟨aB rfl rfl fun a w h=>?_,?_⟩
  .have e28:_=Value.int .u64 x2:=h.d 28
   refine⟨.int .u64 (IntKind.u64.wrap (2*x2)),w,?_,h.base,Or.inl (ah _ _),congrArg (Value.int .u64) Hz4.out⟩
   clear h
   simp only[execOp,Act.eval,e28]
   go_simp
  refine⟨aB rfl rfl fun a w h=>?_,?_⟩
  .have e5:a.tmps.getD 5 undef=.int .u64 z2:=(h.rest 5 (by kernel_rfl)).trans (congrArg (Value.int .u64) XT.out)
   refine⟨.int .u64 z2,w,?_,h.base,Or.inl (ah _ _),rfl⟩
   clear h
   simp only[execOp,Act.eval,e5]
   go_simp
  refine⟨aB rfl rfl fun a w h=>?_,?_⟩
  .have e29:_=Value.int .u64 z4:=h.d 29
   have e30:_=Value.int .u64 z2:=h.d 30
   refine⟨.agg #[.int .u64 z4,.int .u64 z2],w,?_,h.base,Or.inl (ah _ _),rfl⟩
   clear h
   simp only[execOp,List.map_toArray,List.map_cons,List.map_nil,Act.eval,e29,e30]
   go_simp
  refine⟨aB rfl rfl fun a w h=>?_,?_⟩
  .have e23:_=Value.agg #[.int .u64 x0,.int .u64 x0]:=h.d 23
   have e26:_=Value.agg #[.int .u64 z1,.int .u64 z3]:=h.d 26
   have e31:_=Value.agg #[.int .u64 z4,.int .u64 z2]:=h.d 31
   obtain⟨_,_,_,_,_,Cj⟩:=h.base.r
   have hs:=Cj.lt
   refine⟨.slice (some ⟨w.heap.size,0,none⟩) 3 3,w.alloc (.cells #[.int .u64 x0,.int .u64 x0,.int .u64 z1,.int .u64 z3,.int .u64 z4,.int .u64 z2] 175),?_,h.base.alloc _,Or.inl (World.grownBy_alloc _ _ _),⟨w.heap.size,by omega,rfl,aG.new w _ _⟩⟩
   clear h
   simp only[execOp,List.map_toArray,List.map_cons,List.map_nil,Act.eval,e23,e26,e31]
   go_simp
  refine⟨iF rfl rfl fun a w h=>?_,?_⟩
  .obtain⟨PB,hne,e32,hP⟩:∃PB,PB≠R/\a.tmps.getD 32 undef=.slice (some ⟨PB,0,none⟩) 3 3/\aG w PB 175 (flat [(x0,x0),(z1,z3),(z4,z2)]):=h.dep 32 (by kernel_rfl)
   have hb:=h.base
   refine⟨109,#[.slice (some ⟨PB,0,none⟩) 3 3],?_,?_⟩
   .clear h hb hP
    have ala:a.tmps[32]?.getD undef=.slice (some ⟨PB,0,none⟩) 3 3:=by simpa using e32
    clear e32
    go_simp
   .refine (jm PB 3 _ w _ rfl (by decide) hP ?_).mono ?_
    .intro p hp;simp only[List.mem_cons,List.not_mem_nil,or_false]at hp;rcases hp with rfl|rfl|rfl<;>exact⟨by assumption,by assumption,by assumption,by assumption⟩
    .rintro e w1 ⟨rfl,hg⟩;exact⟨_,rfl,hb.grown hg,Or.inl hg,by show zU _=_;rw[vH.out];rfl⟩
  refine⟨aB rfl rfl fun a w h=>?_,?_⟩
  .have e3:a.tmps.getD 3 undef=.int .u64 z0:=(h.rest 3 (by kernel_rfl)).trans (congrArg (Value.int .u64) XQ.out)
   refine⟨.int .u64 z0,w,?_,h.base,Or.inl (ah _ _),rfl⟩
   clear h
   simp only[execOp,Act.eval,e3]
   go_simp
  refine⟨aB rfl rfl fun a w h=>?_,?_⟩
  .have e1:_=Value.pointer (some ⟨A,0,none⟩):=h.r 1
   refine⟨.pointer (some ⟨A,1,none⟩),w,?_,h.base,Or.inl (ah _ _),rfl⟩
   clear h
   simp only[execOp,Act.eval,e1]
   go_simp
  refine⟨aB rfl rfl fun a w h=>?_,?_⟩
  .have e35:_=Value.pointer (some ⟨A,1,none⟩):=h.d 35
   have c:=h.base.a.cell (i:=1) rfl
   refine⟨.int .u64 x1,w,?_,h.base,Or.inl (ah _ _),rfl⟩
   clear h
   simp only[execOp,Act.eval,e35]
   go_simp
  refine⟨aB rfl rfl fun a w h=>?_,?_⟩
  .have e34:_=Value.int .u64 z0:=h.d 34
   have e36:_=Value.int .u64 x1:=h.d 36
   refine⟨.agg #[.int .u64 z0,.int .u64 x1],w,?_,h.base,Or.inl (ah _ _),rfl⟩
   clear h
   simp only[execOp,List.map_toArray,List.map_cons,List.map_nil,Act.eval,e34,e36]
   go_simp
  refine⟨aB rfl rfl fun a w h=>?_,?_⟩
  .have e1:_=Value.pointer (some ⟨A,0,none⟩):=h.r 1
   refine⟨.pointer (some ⟨A,2,none⟩),w,?_,h.base,Or.inl (ah _ _),rfl⟩
   clear h
   simp only[execOp,Act.eval,e1]
   go_simp
  refine⟨aB rfl rfl fun a w h=>?_,?_⟩
  .have e38:_=Value.pointer (some ⟨A,2,none⟩):=h.d 38
   have c:=h.base.a.cell (i:=2) rfl
   refine⟨.int .u64 x2,w,?_,h.base,Or.inl (ah _ _),rfl⟩
   clear h
   simp only[execOp,Act.eval,e38]
   go_simp
  refine⟨aB rfl rfl fun a w h=>?_,?_⟩
  .have e39:_=Value.int .u64 x2:=h.d 39
   refine⟨.int .u64 (IntKind.u64.wrap (2*x2)),w,?_,h.base,Or.inl (ah _ _),congrArg (Value.int .u64) Hz4.out⟩
   clear h
   simp only[execOp,Act.eval,e39]
   go_simp
  refine⟨aB rfl rfl fun a w h=>?_,?_⟩
  .have e6:a.tmps.getD 6 undef=.int .u64 z3:=(h.rest 6 (by kernel_rfl)).trans (congrArg (Value.int .u64) Rw.out)
   refine⟨.int .u64 z3,w,?_,h.base,Or.inl (ah _ _),rfl⟩
   clear h
   simp only[execOp,Act.eval,e6]
   go_simp
  refine⟨aB rfl rfl fun a w h=>?_,?_⟩
  .have e40:_=Value.int .u64 z4:=h.d 40
   have e41:_=Value.int .u64 z3:=h.d 41
   refine⟨.agg #[.int .u64 z4,.int .u64 z3],w,?_,h.base,Or.inl (ah _ _),rfl⟩
   clear h
   simp only[execOp,List.map_toArray,List.map_cons,List.map_nil,Act.eval,e40,e41]
   go_simp
  refine⟨aB rfl rfl fun a w h=>?_,?_⟩
  .have e1:_=Value.pointer (some ⟨A,0,none⟩):=h.r 1
   refine⟨.pointer (some ⟨A,3,none⟩),w,?_,h.base,Or.inl (ah _ _),rfl⟩
   clear h
   simp only[execOp,Act.eval,e1]
   go_simp
  refine⟨aB rfl rfl fun a w h=>?_,?_⟩
  .have e43:_=Value.pointer (some ⟨A,3,none⟩):=h.d 43
   have c:=h.base.a.cell (i:=3) rfl
   refine⟨.int .u64 x3,w,?_,h.base,Or.inl (ah _ _),rfl⟩
   clear h
   simp only[execOp,Act.eval,e43]
   go_simp
  refine⟨aB rfl rfl fun a w h=>?_,?_⟩
  .have e5:a.tmps.getD 5 undef=.int .u64 z2:=(h.rest 5 (by kernel_rfl)).trans (congrArg (Value.int .u64) XT.out)
   refine⟨.int .u64 z2,w,?_,h.base,Or.inl (ah _ _),rfl⟩
   clear h
   simp only[execOp,Act.eval,e5]
   go_simp
  refine⟨aB rfl rfl fun a w h=>?_,?_⟩
  .have e44:_=Value.int .u64 x3:=h.d 44
   have e45:_=Value.int .u64 z2:=h.d 45
   refine⟨.agg #[.int .u64 x3,.int .u64 z2],w,?_,h.base,Or.inl (ah _ _),rfl⟩
   clear h
   simp only[execOp,List.map_toArray,List.map_cons,List.map_nil,Act.eval,e44,e45]
   go_simp
  refine⟨aB rfl rfl fun a w h=>?_,?_⟩
  .have e37:_=Value.agg #[.int .u64 z0,.int .u64 x1]:=h.d 37
   have e42:_=Value.agg #[.int .u64 z4,.int .u64 z3]:=h.d 42
   have e46:_=Value.agg #[.int .u64 x3,.int .u64 z2]:=h.d 46
   obtain⟨_,_,_,_,_,Cj⟩:=h.base.r
   have hs:=Cj.lt
   refine⟨.slice (some ⟨w.heap.size,0,none⟩) 3 3,w.alloc (.cells #[.int .u64 z0,.int .u64 x1,.int .u64 z4,.int .u64 z3,.int .u64 x3,.int .u64 z2] 175),?_,h.base.alloc _,Or.inl (World.grownBy_alloc _ _ _),⟨w.heap.size,by omega,rfl,aG.new w _ _⟩⟩
   clear h
   simp only[execOp,List.map_toArray,List.map_cons,List.map_nil,Act.eval,e37,e42,e46]
   go_simp
  refine⟨iF rfl rfl fun a w h=>?_,?_⟩
  .obtain⟨PB,hne,e47,hP⟩:∃PB,PB≠R/\a.tmps.getD 47 undef=.slice (some ⟨PB,0,none⟩) 3 3/\aG w PB 175 (flat [(z0,x1),(z4,z3),(x3,z2)]):=h.dep 47 (by kernel_rfl)
   have hb:=h.base
   refine⟨109,#[.slice (some ⟨PB,0,none⟩) 3 3],?_,?_⟩
   .clear h hb hP
    have alb:a.tmps[47]?.getD undef=.slice (some ⟨PB,0,none⟩) 3 3:=by simpa using e47
    clear e47
    go_simp
   .refine (jm PB 3 _ w _ rfl (by decide) hP ?_).mono ?_
    .intro p hp;simp only[List.mem_cons,List.not_mem_nil,or_false]at hp;rcases hp with rfl|rfl|rfl<;>exact⟨by assumption,by assumption,by assumption,by assumption⟩
    .rintro e w1 ⟨rfl,hg⟩;exact⟨_,rfl,hb.grown hg,Or.inl hg,by show zU _=_;rw[Od.out];rfl⟩
  refine⟨aB rfl rfl fun a w h=>?_,?_⟩
  .have e3:a.tmps.getD 3 undef=.int .u64 z0:=(h.rest 3 (by kernel_rfl)).trans (congrArg (Value.int .u64) XQ.out)
   refine⟨.int .u64 z0,w,?_,h.base,Or.inl (ah _ _),rfl⟩
   clear h
   simp only[execOp,Act.eval,e3]
   go_simp
  refine⟨aB rfl rfl fun a w h=>?_,?_⟩
  .have e1:_=Value.pointer (some ⟨A,0,none⟩):=h.r 1
   refine⟨.pointer (some ⟨A,2,none⟩),w,?_,h.base,Or.inl (ah _ _),rfl⟩
   clear h
   simp only[execOp,Act.eval,e1]
   go_simp
  refine⟨aB rfl rfl fun a w h=>?_,?_⟩
  .have e50:_=Value.pointer (some ⟨A,2,none⟩):=h.d 50
   have c:=h.base.a.cell (i:=2) rfl
   refine⟨.int .u64 x2,w,?_,h.base,Or.inl (ah _ _),rfl⟩
   clear h
   simp only[execOp,Act.eval,e50]
   go_simp
  refine⟨aB rfl rfl fun a w h=>?_,?_⟩
  .have e49:_=Value.int .u64 z0:=h.d 49
   have e51:_=Value.int .u64 x2:=h.d 51
   refine⟨.agg #[.int .u64 z0,.int .u64 x2],w,?_,h.base,Or.inl (ah _ _),rfl⟩
   clear h
   simp only[execOp,List.map_toArray,List.map_cons,List.map_nil,Act.eval,e49,e51]
   go_simp
  refine⟨aB rfl rfl fun a w h=>?_,?_⟩
  .have e1:_=Value.pointer (some ⟨A,0,none⟩):=h.r 1
   refine⟨.pointer (some ⟨A,1,none⟩),w,?_,h.base,Or.inl (ah _ _),rfl⟩
   clear h
   simp only[execOp,Act.eval,e1]
   go_simp
  refine⟨aB rfl rfl fun a w h=>?_,?_⟩
  .have e53:_=Value.pointer (some ⟨A,1,none⟩):=h.d 53
   have c:=h.base.a.cell (i:=1) rfl
   refine⟨.int .u64 x1,w,?_,h.base,Or.inl (ah _ _),rfl⟩
   clear h
   simp only[execOp,Act.eval,e53]
   go_simp
  refine⟨aB rfl rfl fun a w h=>?_,?_⟩
  .have e1:_=Value.pointer (some ⟨A,0,none⟩):=h.r 1
   refine⟨.pointer (some ⟨A,1,none⟩),w,?_,h.base,Or.inl (ah _ _),rfl⟩
   clear h
   simp only[execOp,Act.eval,e1]
   go_simp
  refine⟨aB rfl rfl fun a w h=>?_,?_⟩
  .have e55:_=Value.pointer (some ⟨A,1,none⟩):=h.d 55
   have c:=h.base.a.cell (i:=1) rfl
   refine⟨.int .u64 x1,w,?_,h.base,Or.inl (ah _ _),rfl⟩
   clear h
   simp only[execOp,Act.eval,e55]
   go_simp
  refine⟨aB rfl rfl fun a w h=>?_,?_⟩
  .have e54:_=Value.int .u64 x1:=h.d 54
   have e56:_=Value.int .u64 x1:=h.d 56
   refine⟨.agg #[.int .u64 x1,.int .u64 x1],w,?_,h.base,Or.inl (ah _ _),rfl⟩
   clear h
   simp only[execOp,List.map_toArray,List.map_cons,List.map_nil,Act.eval,e54,e56]
   go_simp
  refine⟨aB rfl rfl fun a w h=>?_,?_⟩
  .have e1:_=Value.pointer (some ⟨A,0,none⟩):=h.r 1
   refine⟨.pointer (some ⟨A,3,none⟩),w,?_,h.base,Or.inl (ah _ _),rfl⟩
   clear h
   simp only[execOp,Act.eval,e1]
   go_simp
  refine⟨aB rfl rfl fun a w h=>?_,?_⟩
  .have e58:_=Value.pointer (some ⟨A,3,none⟩):=h.d 58
   have c:=h.base.a.cell (i:=3) rfl
   refine⟨.int .u64 x3,w,?_,h.base,Or.inl (ah _ _),rfl⟩
   clear h
   simp only[execOp,Act.eval,e58]
   go_simp
  refine⟨aB rfl rfl fun a w h=>?_,?_⟩
  .have e59:_=Value.int .u64 x3:=h.d 59
   refine⟨.int .u64 (IntKind.u64.wrap (2*x3)),w,?_,h.base,Or.inl (ah _ _),congrArg (Value.int .u64) Hz5.out⟩
   clear h
   simp only[execOp,Act.eval,e59]
   go_simp
  refine⟨aB rfl rfl fun a w h=>?_,?_⟩
  .have e6:a.tmps.getD 6 undef=.int .u64 z3:=(h.rest 6 (by kernel_rfl)).trans (congrArg (Value.int .u64) Rw.out)
   refine⟨.int .u64 z3,w,?_,h.base,Or.inl (ah _ _),rfl⟩
   clear h
   simp only[execOp,Act.eval,e6]
   go_simp
  refine⟨aB rfl rfl fun a w h=>?_,?_⟩
  .have e60:_=Value.int .u64 z5:=h.d 60
   have e61:_=Value.int .u64 z3:=h.d 61
   refine⟨.agg #[.int .u64 z5,.int .u64 z3],w,?_,h.base,Or.inl (ah _ _),rfl⟩
   clear h
   simp only[execOp,List.map_toArray,List.map_cons,List.map_nil,Act.eval,e60,e61]
   go_simp
  refine⟨aB rfl rfl fun a w h=>?_,?_⟩
  .have e52:_=Value.agg #[.int .u64 z0,.int .u64 x2]:=h.d 52
   have e57:_=Value.agg #[.int .u64 x1,.int .u64 x1]:=h.d 57
   have e62:_=Value.agg #[.int .u64 z5,.int .u64 z3]:=h.d 62
   obtain⟨_,_,_,_,_,Cj⟩:=h.base.r
   have hs:=Cj.lt
   refine⟨.slice (some ⟨w.heap.size,0,none⟩) 3 3,w.alloc (.cells #[.int .u64 z0,.int .u64 x2,.int .u64 x1,.int .u64 x1,.int .u64 z5,.int .u64 z3] 175),?_,h.base.alloc _,Or.inl (World.grownBy_alloc _ _ _),⟨w.heap.size,by omega,rfl,aG.new w _ _⟩⟩
   clear h
   simp only[execOp,List.map_toArray,List.map_cons,List.map_nil,Act.eval,e52,e57,e62]
   go_simp
  refine⟨iF rfl rfl fun a w h=>?_,?_⟩
  .obtain⟨PB,hne,e63,hP⟩:∃PB,PB≠R/\a.tmps.getD 63 undef=.slice (some ⟨PB,0,none⟩) 3 3/\aG w PB 175 (flat [(z0,x2),(x1,x1),(z5,z3)]):=h.dep 63 (by kernel_rfl)
   have hb:=h.base
   refine⟨109,#[.slice (some ⟨PB,0,none⟩) 3 3],?_,?_⟩
   .clear h hb hP
    have alc:a.tmps[63]?.getD undef=.slice (some ⟨PB,0,none⟩) 3 3:=by simpa using e63
    clear e63
    go_simp
   .refine (jm PB 3 _ w _ rfl (by decide) hP ?_).mono ?_
    .intro p hp;simp only[List.mem_cons,List.not_mem_nil,or_false]at hp;rcases hp with rfl|rfl|rfl<;>exact⟨by assumption,by assumption,by assumption,by assumption⟩
    .rintro e w1 ⟨rfl,hg⟩;exact⟨_,rfl,hb.grown hg,Or.inl hg,by show zU _=_;rw[HS2.out];rfl⟩
  refine⟨aB rfl rfl fun a w h=>?_,?_⟩
  .have e3:a.tmps.getD 3 undef=.int .u64 z0:=(h.rest 3 (by kernel_rfl)).trans (congrArg (Value.int .u64) XQ.out)
   refine⟨.int .u64 z0,w,?_,h.base,Or.inl (ah _ _),rfl⟩
   clear h
   simp only[execOp,Act.eval,e3]
   go_simp
  refine⟨aB rfl rfl fun a w h=>?_,?_⟩
  .have e1:_=Value.pointer (some ⟨A,0,none⟩):=h.r 1
   refine⟨.pointer (some ⟨A,3,none⟩),w,?_,h.base,Or.inl (ah _ _),rfl⟩
   clear h
   simp only[execOp,Act.eval,e1]
   go_simp
  refine⟨aB rfl rfl fun a w h=>?_,?_⟩
  .have e66:_=Value.pointer (some ⟨A,3,none⟩):=h.d 66
   have c:=h.base.a.cell (i:=3) rfl
   refine⟨.int .u64 x3,w,?_,h.base,Or.inl (ah _ _),rfl⟩
   clear h
   simp only[execOp,Act.eval,e66]
   go_simp
  refine⟨aB rfl rfl fun a w h=>?_,?_⟩
  .have e65:_=Value.int .u64 z0:=h.d 65
   have e67:_=Value.int .u64 x3:=h.d 67
   refine⟨.agg #[.int .u64 z0,.int .u64 x3],w,?_,h.base,Or.inl (ah _ _),rfl⟩
   clear h
   simp only[execOp,List.map_toArray,List.map_cons,List.map_nil,Act.eval,e65,e67]
   go_simp
  refine⟨aB rfl rfl fun a w h=>?_,?_⟩
  .have e4:a.tmps.getD 4 undef=.int .u64 z1:=(h.rest 4 (by kernel_rfl)).trans (congrArg (Value.int .u64) XR.out)
   refine⟨.int .u64 z1,w,?_,h.base,Or.inl (ah _ _),rfl⟩
   clear h
   simp only[execOp,Act.eval,e4]
   go_simp
  refine⟨aB rfl rfl fun a w h=>?_,?_⟩
  .have e1:_=Value.pointer (some ⟨A,0,none⟩):=h.r 1
   refine⟨.pointer (some ⟨A,2,none⟩),w,?_,h.base,Or.inl (ah _ _),rfl⟩
   clear h
   simp only[execOp,Act.eval,e1]
   go_simp
  refine⟨aB rfl rfl fun a w h=>?_,?_⟩
  .have e70:_=Value.pointer (some ⟨A,2,none⟩):=h.d 70
   have c:=h.base.a.cell (i:=2) rfl
   refine⟨.int .u64 x2,w,?_,h.base,Or.inl (ah _ _),rfl⟩
   clear h
   simp only[execOp,Act.eval,e70]
   go_simp
  refine⟨aB rfl rfl fun a w h=>?_,?_⟩
  .have e69:_=Value.int .u64 z1:=h.d 69
   have e71:_=Value.int .u64 x2:=h.d 71
   refine⟨.agg #[.int .u64 z1,.int .u64 x2],w,?_,h.base,Or.inl (ah _ _),rfl⟩
   clear h
   simp only[execOp,List.map_toArray,List.map_cons,List.map_nil,Act.eval,e69,e71]
   go_simp
  refine⟨aB rfl rfl fun a w h=>?_,?_⟩
  .have e1:_=Value.pointer (some ⟨A,0,none⟩):=h.r 1
   refine⟨.pointer (some ⟨A,4,none⟩),w,?_,h.base,Or.inl (ah _ _),rfl⟩
   clear h
   simp only[execOp,Act.eval,e1]
   go_simp
  refine⟨aB rfl rfl fun a w h=>?_,?_⟩
  .have e73:_=Value.pointer (some ⟨A,4,none⟩):=h.d 73
   have c:=h.base.a.cell (i:=4) rfl
   refine⟨.int .u64 x4,w,?_,h.base,Or.inl (ah _ _),rfl⟩
   clear h
   simp only[execOp,Act.eval,e73]
   go_simp
  refine⟨aB rfl rfl fun a w h=>?_,?_⟩
  .have e6:a.tmps.getD 6 undef=.int .u64 z3:=(h.rest 6 (by kernel_rfl)).trans (congrArg (Value.int .u64) Rw.out)
   refine⟨.int .u64 z3,w,?_,h.base,Or.inl (ah _ _),rfl⟩
   clear h
   simp only[execOp,Act.eval,e6]
   go_simp
  refine⟨aB rfl rfl fun a w h=>?_,?_⟩
  .have e74:_=Value.int .u64 x4:=h.d 74
   have e75:_=Value.int .u64 z3:=h.d 75
   refine⟨.agg #[.int .u64 x4,.int .u64 z3],w,?_,h.base,Or.inl (ah _ _),rfl⟩
   clear h
   simp only[execOp,List.map_toArray,List.map_cons,List.map_nil,Act.eval,e74,e75]
   go_simp
  refine⟨aB rfl rfl fun a w h=>?_,?_⟩
  .have e68:_=Value.agg #[.int .u64 z0,.int .u64 x3]:=h.d 68
   have e72:_=Value.agg #[.int .u64 z1,.int .u64 x2]:=h.d 72
   have e76:_=Value.agg #[.int .u64 x4,.int .u64 z3]:=h.d 76
   obtain⟨_,_,_,_,_,Cj⟩:=h.base.r
   have hs:=Cj.lt
   refine⟨.slice (some ⟨w.heap.size,0,none⟩) 3 3,w.alloc (.cells #[.int .u64 z0,.int .u64 x3,.int .u64 z1,.int .u64 x2,.int .u64 x4,.int .u64 z3] 175),?_,h.base.alloc _,Or.inl (World.grownBy_alloc _ _ _),⟨w.heap.size,by omega,rfl,aG.new w _ _⟩⟩
   clear h
   simp only[execOp,List.map_toArray,List.map_cons,List.map_nil,Act.eval,e68,e72,e76]
   go_simp
  refine⟨iF rfl rfl fun a w h=>?_,?_⟩
  .obtain⟨PB,hne,e77,hP⟩:∃PB,PB≠R/\a.tmps.getD 77 undef=.slice (some ⟨PB,0,none⟩) 3 3/\aG w PB 175 (flat [(z0,x3),(z1,x2),(x4,z3)]):=h.dep 77 (by kernel_rfl)
   have hb:=h.base
   refine⟨109,#[.slice (some ⟨PB,0,none⟩) 3 3],?_,?_⟩
   .clear h hb hP
    have ald:a.tmps[77]?.getD undef=.slice (some ⟨PB,0,none⟩) 3 3:=by simpa using e77
    clear e77
    go_simp
   .refine (jm PB 3 _ w _ rfl (by decide) hP ?_).mono ?_
    .intro p hp;simp only[List.mem_cons,List.not_mem_nil,or_false]at hp;rcases hp with rfl|rfl|rfl<;>exact⟨by assumption,by assumption,by assumption,by assumption⟩
    .rintro e w1 ⟨rfl,hg⟩;exact⟨_,rfl,hb.grown hg,Or.inl hg,by show zU _=_;rw[YJ.out];rfl⟩
  refine⟨aB rfl rfl fun a w h=>?_,?_⟩
  .have e3:a.tmps.getD 3 undef=.int .u64 z0:=(h.rest 3 (by kernel_rfl)).trans (congrArg (Value.int .u64) XQ.out)
   refine⟨.int .u64 z0,w,?_,h.base,Or.inl (ah _ _),rfl⟩
   clear h
   simp only[execOp,Act.eval,e3]
   go_simp
  refine⟨aB rfl rfl fun a w h=>?_,?_⟩
  .have e1:_=Value.pointer (some ⟨A,0,none⟩):=h.r 1
   refine⟨.pointer (some ⟨A,4,none⟩),w,?_,h.base,Or.inl (ah _ _),rfl⟩
   clear h
   simp only[execOp,Act.eval,e1]
   go_simp
  refine⟨aB rfl rfl fun a w h=>?_,?_⟩
  .have e80:_=Value.pointer (some ⟨A,4,none⟩):=h.d 80
   have c:=h.base.a.cell (i:=4) rfl
   refine⟨.int .u64 x4,w,?_,h.base,Or.inl (ah _ _),rfl⟩
   clear h
   simp only[execOp,Act.eval,e80]
   go_simp
  refine⟨aB rfl rfl fun a w h=>?_,?_⟩
  .have e79:_=Value.int .u64 z0:=h.d 79
   have e81:_=Value.int .u64 x4:=h.d 81
   refine⟨.agg #[.int .u64 z0,.int .u64 x4],w,?_,h.base,Or.inl (ah _ _),rfl⟩
   clear h
   simp only[execOp,List.map_toArray,List.map_cons,List.map_nil,Act.eval,e79,e81]
   go_simp
  refine⟨aB rfl rfl fun a w h=>?_,?_⟩
  .have e4:a.tmps.getD 4 undef=.int .u64 z1:=(h.rest 4 (by kernel_rfl)).trans (congrArg (Value.int .u64) XR.out)
   refine⟨.int .u64 z1,w,?_,h.base,Or.inl (ah _ _),rfl⟩
   clear h
   simp only[execOp,Act.eval,e4]
   go_simp
  refine⟨aB rfl rfl fun a w h=>?_,?_⟩
  .have e1:_=Value.pointer (some ⟨A,0,none⟩):=h.r 1
   refine⟨.pointer (some ⟨A,3,none⟩),w,?_,h.base,Or.inl (ah _ _),rfl⟩
   clear h
   simp only[execOp,Act.eval,e1]
   go_simp
  refine⟨aB rfl rfl fun a w h=>?_,?_⟩
  .have e84:_=Value.pointer (some ⟨A,3,none⟩):=h.d 84
   have c:=h.base.a.cell (i:=3) rfl
   refine⟨.int .u64 x3,w,?_,h.base,Or.inl (ah _ _),rfl⟩
   clear h
   simp only[execOp,Act.eval,e84]
   go_simp
  refine⟨aB rfl rfl fun a w h=>?_,?_⟩
  .have e83:_=Value.int .u64 z1:=h.d 83
   have e85:_=Value.int .u64 x3:=h.d 85
   refine⟨.agg #[.int .u64 z1,.int .u64 x3],w,?_,h.base,Or.inl (ah _ _),rfl⟩
   clear h
   simp only[execOp,List.map_toArray,List.map_cons,List.map_nil,Act.eval,e83,e85]
   go_simp
  refine⟨aB rfl rfl fun a w h=>?_,?_⟩
  .have e1:_=Value.pointer (some ⟨A,0,none⟩):=h.r 1
   refine⟨.pointer (some ⟨A,2,none⟩),w,?_,h.base,Or.inl (ah _ _),rfl⟩
   clear h
   simp only[execOp,Act.eval,e1]
   go_simp
  refine⟨aB rfl rfl fun a w h=>?_,?_⟩
  .have e87:_=Value.pointer (some ⟨A,2,none⟩):=h.d 87
   have c:=h.base.a.cell (i:=2) rfl
   refine⟨.int .u64 x2,w,?_,h.base,Or.inl (ah _ _),rfl⟩
   clear h
   simp only[execOp,Act.eval,e87]
   go_simp
  refine⟨aB rfl rfl fun a w h=>?_,?_⟩
  .have e1:_=Value.pointer (some ⟨A,0,none⟩):=h.r 1
   refine⟨.pointer (some ⟨A,2,none⟩),w,?_,h.base,Or.inl (ah _ _),rfl⟩
   clear h
   simp only[execOp,Act.eval,e1]
   go_simp
  refine⟨aB rfl rfl fun a w h=>?_,?_⟩
  .have e89:_=Value.pointer (some ⟨A,2,none⟩):=h.d 89
   have c:=h.base.a.cell (i:=2) rfl
   refine⟨.int .u64 x2,w,?_,h.base,Or.inl (ah _ _),rfl⟩
   clear h
   simp only[execOp,Act.eval,e89]
   go_simp
  refine⟨aB rfl rfl fun a w h=>?_,?_⟩
  .have e88:_=Value.int .u64 x2:=h.d 88
   have e90:_=Value.int .u64 x2:=h.d 90
   refine⟨.agg #[.int .u64 x2,.int .u64 x2],w,?_,h.base,Or.inl (ah _ _),rfl⟩
   clear h
   simp only[execOp,List.map_toArray,List.map_cons,List.map_nil,Act.eval,e88,e90]
   go_simp
  refine⟨aB rfl rfl fun a w h=>?_,?_⟩
  .have e82:_=Value.agg #[.int .u64 z0,.int .u64 x4]:=h.d 82
   have e86:_=Value.agg #[.int .u64 z1,.int .u64 x3]:=h.d 86
   have e91:_=Value.agg #[.int .u64 x2,.int .u64 x2]:=h.d 91
   obtain⟨_,_,_,_,_,Cj⟩:=h.base.r
   have hs:=Cj.lt
   refine⟨.slice (some ⟨w.heap.size,0,none⟩) 3 3,w.alloc (.cells #[.int .u64 z0,.int .u64 x4,.int .u64 z1,.int .u64 x3,.int .u64 x2,.int .u64 x2] 175),?_,h.base.alloc _,Or.inl (World.grownBy_alloc _ _ _),⟨w.heap.size,by omega,rfl,aG.new w _ _⟩⟩
   clear h
   simp only[execOp,List.map_toArray,List.map_cons,List.map_nil,Act.eval,e82,e86,e91]
   go_simp
  refine⟨iF rfl rfl fun a w h=>?_,?_⟩
  .obtain⟨PB,hne,e92,hP⟩:∃PB,PB≠R/\a.tmps.getD 92 undef=.slice (some ⟨PB,0,none⟩) 3 3/\aG w PB 175 (flat [(z0,x4),(z1,x3),(x2,x2)]):=h.dep 92 (by kernel_rfl)
   have hb:=h.base
   refine⟨109,#[.slice (some ⟨PB,0,none⟩) 3 3],?_,?_⟩
   .clear h hb hP
    have ale:a.tmps[92]?.getD undef=.slice (some ⟨PB,0,none⟩) 3 3:=by simpa using e92
    clear e92
    go_simp
   .refine (jm PB 3 _ w _ rfl (by decide) hP ?_).mono ?_
    .intro p hp;simp only[List.mem_cons,List.not_mem_nil,or_false]at hp;rcases hp with rfl|rfl|rfl<;>exact⟨by assumption,by assumption,by assumption,by assumption⟩
    .rintro e w1 ⟨rfl,hg⟩;exact⟨_,rfl,hb.grown hg,Or.inl hg,by show zU _=_;rw[YL.out];rfl⟩
  refine⟨aB rfl rfl fun a w h=>?_,?_⟩
  .have e33:_=Value.agg #[.int .u64 (S0/18446744073709551616),.int .u64 (S0%18446744073709551616)]:=h.d 33
   have e48:_=Value.agg #[.int .u64 (S1/18446744073709551616),.int .u64 (S1%18446744073709551616)]:=h.d 48
   have e64:_=Value.agg #[.int .u64 (S2/18446744073709551616),.int .u64 (S2%18446744073709551616)]:=h.d 64
   have e78:_=Value.agg #[.int .u64 (S3/18446744073709551616),.int .u64 (S3%18446744073709551616)]:=h.d 78
   have e93:_=Value.agg #[.int .u64 (S4/18446744073709551616),.int .u64 (S4%18446744073709551616)]:=h.d 93
   refine⟨.agg #[.int .u64 (S0/18446744073709551616),.int .u64 (S0%18446744073709551616),.int .u64 (S1/18446744073709551616),.int .u64 (S1%18446744073709551616),.int .u64 (S2/18446744073709551616),.int .u64 (S2%18446744073709551616),.int .u64 (S3/18446744073709551616),.int .u64 (S3%18446744073709551616),.int .u64 (S4/18446744073709551616),.int .u64 (S4%18446744073709551616)],w,?_,h.base,Or.inl (ah _ _),rfl⟩
   clear h
   simp only[execOp,List.map_toArray,List.map_cons,List.map_nil,Act.eval,e33,e48,e64,e78,e93]
   go_simp
  refine⟨iF rfl rfl fun a w h=>?_,?_⟩
  .have e94:_=Value.agg #[.int .u64 (S0/18446744073709551616),.int .u64 (S0%18446744073709551616),.int .u64 (S1/18446744073709551616),.int .u64 (S1%18446744073709551616),.int .u64 (S2/18446744073709551616),.int .u64 (S2%18446744073709551616),.int .u64 (S3/18446744073709551616),.int .u64 (S3%18446744073709551616),.int .u64 (S4/18446744073709551616),.int .u64 (S4%18446744073709551616)]:=h.d 94
   have hb:=h.base
   refine⟨108,#[.agg #[.int .u64 (S0/18446744073709551616),.int .u64 (S0%18446744073709551616),.int .u64 (S1/18446744073709551616),.int .u64 (S1%18446744073709551616),.int .u64 (S2/18446744073709551616),.int .u64 (S2%18446744073709551616),.int .u64 (S3/18446744073709551616),.int .u64 (S3%18446744073709551616),.int .u64 (S4/18446744073709551616),.int .u64 (S4%18446744073709551616)]],?_,?_⟩
   .clear h hb
    have alf:a.tmps[94]?.getD undef=.agg #[.int .u64 (S0/18446744073709551616),.int .u64 (S0%18446744073709551616),.int .u64 (S1/18446744073709551616),.int .u64 (S1%18446744073709551616),.int .u64 (S2/18446744073709551616),.int .u64 (S2%18446744073709551616),.int .u64 (S3/18446744073709551616),.int .u64 (S3%18446744073709551616),.int .u64 (S4/18446744073709551616),.int .u64 (S4%18446744073709551616)]:=by simpa using e94
    clear e94
    go_simp
   .refine (CX S0 S1 S2 S3 S4 w (by assumption) (by assumption) (by assumption) (by assumption) (by assumption)).mono ?_
    rintro e w1 ⟨rfl,hg⟩
    exact⟨_,rfl,hb.grown hg,Or.inl hg,by show Fe.v _=Fe.v _;rw[Hr.out]⟩
  refine⟨CQ rfl rfl fun a w h=>?_,?_⟩
  .have e95:_=Value.agg #[.int .u64 r.x0,.int .u64 r.x1,.int .u64 r.x2,.int .u64 r.x3,.int .u64 r.x4]:=h.d 95
   have e2:_=Value.pointer (some ⟨R,0,none⟩):=h.r 2
   obtain⟨u0,u1,u2,u3,u4,hR⟩:=h.base.r
   have c0r:=hR.cell (i:=0) rfl;have f0r:=hR.free 0
   have c1r:=hR.cell (i:=1) rfl;have f1r:=hR.free 1
   have c2r:=hR.cell (i:=2) rfl;have f2r:=hR.free 2
   have c3r:=hR.cell (i:=3) rfl;have f3r:=hR.free 3
   have c4r:=hR.cell (i:=4) rfl;have f4r:=hR.free 4
   refine⟨_,?_,h.base.rJ _ _ _ _ _,Or.inr ⟨aS (aS (aS (aS (aS (ah _ _) _ _) _ _) _ _) _ _) _ _,h.base.r.rJ _ _ _ _ _⟩,h.base.r.rJ _ _ _ _ _⟩
   clear h
   simp only[execOp,Act.eval,e95,e2]
   go_simp
  trivial
 .intro a w1 hB hsz hdf hrest aC jN
  have hM:=jN 77 _ rfl rfl
  have eR0:a.tmps.getD 2 undef=.pointer (some ⟨(w.heap.size+1),0,none⟩):=hrest 2 (by kernel_rfl)
  have hg:=hB.g
  clear jN aC hrest hB
  have eR1:a.tmps[2]?.getD undef=.pointer (some ⟨(w.heap.size+1),0,none⟩):=by simpa using eR0
  have z0:=hM.cell (i:=0) rfl
  have z1:=hM.cell (i:=1) rfl
  have z2:=hM.cell (i:=2) rfl
  have z3:=hM.cell (i:=3) rfl
  have z4:=hM.cell (i:=4) rfl
  clear hM
  go_wp2
  refine bodyPost_ret (v:=.agg #[.int .u64 r.x0,.int .u64 r.x1,.int .u64 r.x2,.int .u64 r.x3,.int .u64 r.x4]) ?_ (by rw[hdf]) ⟨r,?_,rfl,hg⟩
  .simp[results,Tryz.results105,go_sem,eR1,z0,z1,z2,z3,z4]
  .rw[Hr.out,<- vH.out,<- Od.out,<- HS2.out,<- YJ.out,<- YL.out,<- XQ.out,<- XR.out,<- XT.out,<- Rw.out,<- Hz4.out,<- Hz5.out]
   simp only[ig]
   rfl
end
section
open Go.RowKit
def Fe.at (a:Fe):Nat->Int
 | 0=>a.x0
 | 1=>a.x1
 | 2=>a.x2
 | 3=>a.x3
 | _=>a.x4
theorem Fe.Ok.at {a:Fe} (h:a.Ok) (i:Nat):0<=a.at i/\a.at i<18446744073709551616:=by
 obtain⟨n0,n1,n2,n3,n4,l0,l1,l2,l3,l4⟩:=h
 match i with
 | 0=>exact⟨n0,l0⟩
 | 1=>exact⟨n1,l1⟩
 | 2=>exact⟨n2,l2⟩
 | 3=>exact⟨n3,l3⟩
 | n+4=>exact⟨n4,l4⟩
def vU (f g:Nat->Int) (k:Nat):List Value:=(List.range 5).map fun i=>.int .u64 (if i<k then g i else f i)
theorem oK (f g:Nat->Int) (k:Nat):(vU f g k).length=5:=by simp[vU]
theorem gM (f g:Nat->Int) (k i:Nat) (h:i<5):(vU f g k)[i]?=some (.int .u64 (if i<k then g i else f i)):=by
 unfold vU
 rw[List.getElem?_map,List.getElem?_range h]
 rfl
theorem F7 (f g:Nat->Int) (k:Nat) (h:k<5):(vU f g k).set k (.int .u64 (g k))=vU f g (k+1):=by
 apply List.ext_getElem?
 intro i
 rw[List.getElem?_set]
 by_cases hi:i<5
 .rw[gM f g (k+1) i hi]
  by_cases e:k=i
  .subst e;simp[oK,h]
  .rw[if_neg e,gM f g k i hi]
   congr 2
   by_cases hk:i<k
   .rw[if_pos hk,if_pos (by omega)]
   .rw[if_neg hk,if_neg (by omega)]
 .rw[List.getElem?_eq_none (by rw[oK];omega),List.getElem?_eq_none (by rw[oK];omega)]
  split
  .rw[oK];simp;omega
  .rfl
theorem jv {w0 w:World} {B:Nat} (h:w0.grownBy w none) (hB:w0.heap.size<=B) (v0 v1 v2 v3 v4:Value):
  w0.grownBy (((((w.setCell ⟨B,0,none⟩ v0).setCell ⟨B,1,none⟩ v1).setCell ⟨B,2,none⟩ v2).setCell ⟨B,3,none⟩ v3).setCell ⟨B,4,none⟩ v4) none:=
 aJ (aJ (aJ (aJ (aJ h hB _) hB _) hB _) hB _) hB _
theorem bU {w:World} {B:Nat} {T:TypeId} (h:fK w B T) {p:Addr} (hp:p.block≠B) (v:Value):fK (w.setCell p v) B T:=
 let ⟨_,_,_,_,_,hb⟩:=h;⟨_,_,_,_,_,hb.other hp v⟩
set_option maxHeartbeats 800000 in
theorem Vy (a b:Fe) (w:World) (ha:a.Ok) (hb:b.Ok):
  Calls Tryz.prog 129 #[.agg #[.int .u64 a.x0,.int .u64 a.x1,.int .u64 a.x2,.int .u64 a.x3,.int .u64 a.x4],.agg #[.int .u64 b.x0,.int .u64 b.x1,.int .u64 b.x2,.int .u64 b.x3,.int .u64 b.x4]] w (nN (Fe.fA a b) w):=by
 have hA:=ha.at
 have hB:=hb.at
 clear ha hb
 go_enter Tryz.func129,Tryz.ntmps129
 go_wp2
 go_loopw [6] (fun i wr=>∃k:Nat,k<=5/\i=.int .i64 k/\w.grownBy wr none/\aG wr w.heap.size 66 (vU a.at (fun i=>IntKind.u64.wrap (a.at i+b.at i)) k)/\aG wr (w.heap.size+1) 66 (vU b.at b.at 0)/\fK wr (w.heap.size+2) 66) (fun i _=>5-(intOf i).toNat)
 case atStart=>
  exact⟨0,by omega,rfl,au (au (au (ah _ _) _) _) _,((aG.new w (vU a.at (fun i=>IntKind.u64.wrap (a.at i+b.at i)) 0) _).alloc _).alloc _,(aG.newAt (w.alloc _) (vU b.at b.at 0) _ (by simp)).alloc _,⟨_,_,_,_,_,aG.newAt _ [.int .u64 0,.int .u64 0,.int .u64 0,.int .u64 0,.int .u64 0] _ (by simp)⟩⟩
 case round=>
  obtain⟨k,hk,rfl,hg,hBa,hBb,hR⟩:=hrel
  by_cases hlt:k<5
  .have c0:=hBa.cell (gM a.at (fun i=>IntKind.u64.wrap (a.at i+b.at i)) k k hlt)
   have c1:=hBb.cell (gM b.at b.at 0 k hlt)
   rw[if_neg (by omega)]at c0 c1
   have f0:=hBa.free k
   have hset:=hBa.set k (.int .u64 (IntKind.u64.wrap (a.at k+b.at k)))
   have YP:=Lib.hid (F7 a.at (fun i=>IntKind.u64.wrap (a.at i+b.at i)) k hlt)
   have i0:(0:Int)<=(k:Int):=by omega
   have i1:(k:Int)<5:=by omega
   go_wp2
   go_region
   go_wp2
   go_roundw
   case rel=>exact⟨k+1,by omega,by go_num,aJ (aZ hg) (Nat.le_refl _) _,YP.out▸hset,(hBb.drew).other (by simp) _,bU (hR.grown (aZ (ah _ none)) (by simp)) (by simp) _⟩
   case measure=>simp[intOf];omega
  .obtain rfl:k=5:=by omega
   have c0:=hBa.cell (gM a.at (fun i=>IntKind.u64.wrap (a.at i+b.at i)) 5 0 (by decide))
   have c1:=hBa.cell (gM a.at (fun i=>IntKind.u64.wrap (a.at i+b.at i)) 5 1 (by decide))
   have c2:=hBa.cell (gM a.at (fun i=>IntKind.u64.wrap (a.at i+b.at i)) 5 2 (by decide))
   have c3:=hBa.cell (gM a.at (fun i=>IntKind.u64.wrap (a.at i+b.at i)) 5 3 (by decide))
   have c4:=hBa.cell (gM a.at (fun i=>IntKind.u64.wrap (a.at i+b.at i)) 5 4 (by decide))
   rw[if_pos (by decide)]at c0 c1 c2 c3 c4
   clear hBa hBb
   go_wp2_with (go_at_call 137;refine (Ec _ _ _ _ _ _).mono ?_;rintro e w1 ⟨r,hr,rfl,hg1⟩;obtain⟨u0,u1,u2,u3,u4,kC⟩:=hR.grown hg1 (by simp);have z0:=kC.cell (i:=0) rfl;have z1:=kC.cell (i:=1) rfl;have z2:=kC.cell (i:=2) rfl;have z3:=kC.cell (i:=3) rfl;have z4:=kC.cell (i:=4) rfl;have y0:=kC.free 0;have y1:=kC.free 1;have y2:=kC.free 2;have y3:=kC.free 3;have y4:=kC.free 4)
   refine bodyPost_ret (v:=.agg #[.int .u64 r.x0,.int .u64 r.x1,.int .u64 r.x2,.int .u64 r.x3,.int .u64 r.x4]) ?_ rfl ⟨r,?_,rfl,?_⟩
   .simp[results,Tryz.results129,go_sem,z0,z1,z2,z3,z4]
   .have e:=hr.out
    rw[e]
    unfold Fe.fA
    exact Lib.hid rfl
   .exact jv (aj hg hg1) (by omega) _ _ _ _ _
def nO:Nat->Int
 | 0=>9007199254740916
 | _=>9007199254740988
def fQ:Fe:=⟨1718705420411056,234908883556509,2233514472574048,2117202627021982,765476049583133⟩
theorem Ry (i:Nat):0<=nO i/\nO i<18446744073709551616:=by
 cases i<;>simp[nO]
structure qY (w:World):Prop where
 lt:4<w.heap.size/\6<w.heap.size
 p:∀i,i<5->w.cell? ⟨4,i,none⟩=some (.int .u64 (nO i))
 q:∀i,i<5->w.cell? ⟨6,i,none⟩=some (.int .u64 (fQ.at i))
theorem qY.grown {w w':World} (h:qY w) (hg:w.grownBy w' none):qY w':=
 ⟨⟨Nat.lt_of_lt_of_le h.lt.1 hg.size,Nat.lt_of_lt_of_le h.lt.2 hg.size⟩,fun i hi=>by rw[aW hg (p:=⟨4,i,none⟩) h.lt.1 (by simp)];exact h.p i hi,
  fun i hi=>by rw[aW hg (p:=⟨6,i,none⟩) h.lt.2 (by simp)];exact h.q i hi⟩
set_option maxHeartbeats 800000 in
theorem Md (a b:Fe) (w:World) (hT:qY w) (ha:a.Ok) (hb:b.Ok):
  Calls Tryz.prog 127 #[.agg #[.int .u64 a.x0,.int .u64 a.x1,.int .u64 a.x2,.int .u64 a.x3,.int .u64 a.x4],.agg #[.int .u64 b.x0,.int .u64 b.x1,.int .u64 b.x2,.int .u64 b.x3,.int .u64 b.x4]] w (nN (Fe.gQ a b) w):=by
 have hA:=ha.at
 have hB:=hb.at
 clear ha hb
 go_enter Tryz.func127,Tryz.ntmps127
 go_wp2
 go_loopw [6] (fun i wr=>∃k:Nat,k<=5/\i=.int .i64 k/\w.grownBy wr none/\aG wr w.heap.size 66 (vU a.at (fun i=>IntKind.u64.wrap (a.at i+IntKind.u64.wrap (nO i-b.at i))) k)/\aG wr (w.heap.size+1) 66 (vU b.at b.at 0)/\fK wr (w.heap.size+2) 66) (fun i _=>5-(intOf i).toNat)
 case atStart=>
  exact⟨0,by omega,rfl,au (au (au (ah _ _) _) _) _,((aG.new w (vU a.at (fun i=>IntKind.u64.wrap (a.at i+IntKind.u64.wrap (nO i-b.at i))) 0) _).alloc _).alloc _,(aG.newAt (w.alloc _) (vU b.at b.at 0) _ (by simp)).alloc _,⟨_,_,_,_,_,aG.newAt _ [.int .u64 0,.int .u64 0,.int .u64 0,.int .u64 0,.int .u64 0] _ (by simp)⟩⟩
 case round=>
  obtain⟨k,hk,rfl,hg,hBa,hBb,hR⟩:=hrel
  by_cases hlt:k<5
  .have c0:=hBa.cell (gM a.at (fun i=>IntKind.u64.wrap (a.at i+IntKind.u64.wrap (nO i-b.at i))) k k hlt)
   have c1:=hBb.cell (gM b.at b.at 0 k hlt)
   rw[if_neg (by omega)]at c0 c1
   have f0:=hBa.free k
   have ct:=(hT.grown hg).p k hlt
   have hf:=Ry k
   have hset:=hBa.set k (.int .u64 (IntKind.u64.wrap (a.at k+IntKind.u64.wrap (nO k-b.at k))))
   have YP:=Lib.hid (F7 a.at (fun i=>IntKind.u64.wrap (a.at i+IntKind.u64.wrap (nO i-b.at i))) k hlt)
   have i0:(0:Int)<=(k:Int):=by omega
   have i1:(k:Int)<5:=by omega
   go_wp2
   go_region
   go_wp2
   go_roundw
   case rel=>exact⟨k+1,by omega,by go_num,aJ (aZ hg) (Nat.le_refl _) _,YP.out▸hset,(hBb.drew).other (by simp) _,bU (hR.grown (aZ (ah _ none)) (by simp)) (by simp) _⟩
   case measure=>simp[intOf];omega
  .obtain rfl:k=5:=by omega
   have c0:=hBa.cell (gM a.at (fun i=>IntKind.u64.wrap (a.at i+IntKind.u64.wrap (nO i-b.at i))) 5 0 (by decide))
   have c1:=hBa.cell (gM a.at (fun i=>IntKind.u64.wrap (a.at i+IntKind.u64.wrap (nO i-b.at i))) 5 1 (by decide))
   have c2:=hBa.cell (gM a.at (fun i=>IntKind.u64.wrap (a.at i+IntKind.u64.wrap (nO i-b.at i))) 5 2 (by decide))
   have c3:=hBa.cell (gM a.at (fun i=>IntKind.u64.wrap (a.at i+IntKind.u64.wrap (nO i-b.at i))) 5 3 (by decide))
   have c4:=hBa.cell (gM a.at (fun i=>IntKind.u64.wrap (a.at i+IntKind.u64.wrap (nO i-b.at i))) 5 4 (by decide))
   rw[if_pos (by decide)]at c0 c1 c2 c3 c4
   clear hBa hBb
   clear hT
   go_wp2_with (go_at_call 137;refine (Ec _ _ _ _ _ _).mono ?_;rintro e w1 ⟨r,hr,rfl,hg1⟩;obtain⟨u0,u1,u2,u3,u4,kC⟩:=hR.grown hg1 (by simp);have z0:=kC.cell (i:=0) rfl;have z1:=kC.cell (i:=1) rfl;have z2:=kC.cell (i:=2) rfl;have z3:=kC.cell (i:=3) rfl;have z4:=kC.cell (i:=4) rfl;have y0:=kC.free 0;have y1:=kC.free 1;have y2:=kC.free 2;have y3:=kC.free 3;have y4:=kC.free 4)
   refine bodyPost_ret (v:=.agg #[.int .u64 r.x0,.int .u64 r.x1,.int .u64 r.x2,.int .u64 r.x3,.int .u64 r.x4]) ?_ rfl ⟨r,?_,rfl,?_⟩
   .simp[results,Tryz.results127,go_sem,z0,z1,z2,z3,z4]
   .have e:=hr.out
    rw[e]
    unfold Fe.gQ
    exact Lib.hid rfl
   .exact jv (aj hg hg1) (by omega) _ _ _ _ _
set_option maxHeartbeats 400000 in
theorem Ee (a:Fe) (w:World) (hT:qY w) (ha:a.Ok):
  Calls Tryz.prog 120 #[.agg #[.int .u64 a.x0,.int .u64 a.x1,.int .u64 a.x2,.int .u64 a.x3,.int .u64 a.x4]] w (nN (Fe.kF a) w):=by
 have hg0:∀c0 c1,w.grownBy ((w.alloc c0).alloc c1) none:=fun c0 c1=>au (au (ah _ _) _) _
 have hz:Fe.Ok ⟨0,0,0,0,0⟩:=by constructor<;>decide
 go_enter Tryz.func120,Tryz.ntmps120
 go_wp2_with (go_at_call 127;refine (Md ⟨0,0,0,0,0⟩ a _ (hT.grown (hg0 _ _)) hz ha).mono ?_;rintro e w1 ⟨r,hr,rfl,hg1⟩;have hg2:=aj (hg0 _ _) hg1;obtain⟨u0,u1,u2,u3,u4,kC⟩:fK w1 (w.heap.size+1) 66:=fK.grown ⟨_,_,_,_,_,aG.newAt _ [.int .u64 0,.int .u64 0,.int .u64 0,.int .u64 0,.int .u64 0] _ (by simp)⟩ hg1 (by simp);have z0:=kC.cell (i:=0) rfl;have z1:=kC.cell (i:=1) rfl;have z2:=kC.cell (i:=2) rfl;have z3:=kC.cell (i:=3) rfl;have z4:=kC.cell (i:=4) rfl;have y0:=kC.free 0;have y1:=kC.free 1;have y2:=kC.free 2;have y3:=kC.free 3;have y4:=kC.free 4)
 refine bodyPost_ret (v:=.agg #[.int .u64 r.x0,.int .u64 r.x1,.int .u64 r.x2,.int .u64 r.x3,.int .u64 r.x4]) ?_ rfl ⟨r,hr,rfl,jv hg2 (by omega) _ _ _ _ _⟩
 simp[results,Tryz.results120,go_sem,z0,z1,z2,z3,z4]
set_option maxHeartbeats 400000 in
theorem Vz (w:World):Calls Tryz.prog 97 #[] w (nN Fe.dM w):=by
 go_enter Tryz.func97,Tryz.ntmps97
 go_wp2
 refine bodyPost_ret (v:=.agg #[.int .u64 1,.int .u64 0,.int .u64 0,.int .u64 0,.int .u64 0]) ?_ rfl ⟨Fe.dM,Lib.hid rfl,rfl,au (ah _ _) _⟩
 simp[results,Tryz.results97,go_sem]
end
section
open Go.RowKit
def ov (c:Fe):Nat->Int
 | 0=>19
 | 1=>Fe.yJ c
 | 2=>Fe.zR c
 | 3=>Fe.CW c
 | 4=>Fe.FU c
 | _=>Fe.uy c
theorem qU {c:Fe} (h:Fe.Low c) (k:Nat):0<=ov c k/\ov c k<=19:=by
 obtain⟨n0,n1,n2,n3,n4,l0,l1,l2,l3,l4⟩:=h
 match k with
 | 0=>simp[ov]
 | 1=>simp only[ov,Fe.yJ];omega
 | 2=>simp only[ov,Fe.zR,Fe.yJ];omega
 | 3=>simp only[ov,Fe.CW,Fe.zR,Fe.yJ];omega
 | 4=>simp only[ov,Fe.FU,Fe.CW,Fe.zR,Fe.yJ];omega
 | n+5=>simp only[ov,Fe.uy,Fe.FU,Fe.CW,Fe.zR,Fe.yJ];omega
def xL (l0 l1 l2 l3 l4 x1 x2 x3 x4:Int):Nat->List Value
 | 0=>[.int .u64 l0,.int .u64 x1,.int .u64 x2,.int .u64 x3,.int .u64 x4]
 | 1=>[.int .u64 (l0%2251799813685248),.int .u64 l1,.int .u64 x2,.int .u64 x3,.int .u64 x4]
 | 2=>[.int .u64 (l0%2251799813685248),.int .u64 (l1%2251799813685248),.int .u64 l2,.int .u64 x3,.int .u64 x4]
 | 3=>[.int .u64 (l0%2251799813685248),.int .u64 (l1%2251799813685248),.int .u64 (l2%2251799813685248),.int .u64 l3,.int .u64 x4]
 | _=>[.int .u64 (l0%2251799813685248),.int .u64 (l1%2251799813685248),.int .u64 (l2%2251799813685248),.int .u64 (l3%2251799813685248),.int .u64 l4]
set_option maxHeartbeats 1600000 in
theorem OB (a:Fe) (w:World) (ha:a.Ok):
  Calls Tryz.prog 135 #[.agg #[.int .u64 a.x0,.int .u64 a.x1,.int .u64 a.x2,.int .u64 a.x3,.int .u64 a.x4]] w (nN (Fe.gB a) w):=by
 have hg0:∀c0 c1,w.grownBy ((w.alloc c0).alloc c1) none:=fun c0 c1=>au (au (ah _ _) _) _
 go_enter Tryz.func135,Tryz.ntmps135
 go_wp2_with (go_at_call 137;refine ((F6 a _ ha).mono fun _ _=>zV).mono ?_;rintro e w1 ⟨c,hc,rfl,hg1⟩;have hg2:=aj (hg0 _ _) hg1;have kC:fK w1 (w.heap.size+1) 66:=fK.grown ⟨_,_,_,_,_,aG.newAt _ [.int .u64 0,.int .u64 0,.int .u64 0,.int .u64 0,.int .u64 0] _ (by simp)⟩ hg1 (by simp);have hA1:=aG.grown (aG.alloc (aG.new w [.int .u64 a.x0,.int .u64 a.x1,.int .u64 a.x2,.int .u64 a.x3,.int .u64 a.x4] 66) _) hg1 (by simp);have z0:=hA1.cell (i:=0) rfl;have z1:=hA1.cell (i:=1) rfl;have z2:=hA1.cell (i:=2) rfl;have z3:=hA1.cell (i:=3) rfl;have z4:=hA1.cell (i:=4) rfl;have y0:=hA1.free 0;have y1:=hA1.free 1;have y2:=hA1.free 2;have y3:=hA1.free 3;have y4:=hA1.free 4)
 have hA2:aG (((((w1.setCell ⟨w.heap.size,0,none⟩ (.int .u64 c.x0)).setCell ⟨w.heap.size,1,none⟩ (.int .u64 c.x1)).setCell ⟨w.heap.size,2,none⟩ (.int .u64 c.x2)).setCell ⟨w.heap.size,3,none⟩ (.int .u64 c.x3)).setCell ⟨w.heap.size,4,none⟩ (.int .u64 c.x4)) w.heap.size 66 [.int .u64 c.x0,.int .u64 c.x1,.int .u64 c.x2,.int .u64 c.x3,.int .u64 c.x4]:=fK.rJ ⟨_,_,_,_,_,hA1⟩ _ _ _ _ _
 have hR2:fK (((((w1.setCell ⟨w.heap.size,0,none⟩ (.int .u64 c.x0)).setCell ⟨w.heap.size,1,none⟩ (.int .u64 c.x1)).setCell ⟨w.heap.size,2,none⟩ (.int .u64 c.x2)).setCell ⟨w.heap.size,3,none⟩ (.int .u64 c.x3)).setCell ⟨w.heap.size,4,none⟩ (.int .u64 c.x4)) (w.heap.size+1) 66:=bU (bU (bU (bU (bU kC (by simp) _) (by simp) _) (by simp) _) (by simp) _) (by simp) _
 have hg3:w.grownBy (((((w1.setCell ⟨w.heap.size,0,none⟩ (.int .u64 c.x0)).setCell ⟨w.heap.size,1,none⟩ (.int .u64 c.x1)).setCell ⟨w.heap.size,2,none⟩ (.int .u64 c.x2)).setCell ⟨w.heap.size,3,none⟩ (.int .u64 c.x3)).setCell ⟨w.heap.size,4,none⟩ (.int .u64 c.x4)) none:=jv hg2 (Nat.le_refl _) _ _ _ _ _
 revert hA2 hR2 hg3
 clear kC hA1 z0 z1 z2 z3 z4 y0 y1 y2 y3 y4 hg1 hg2
 generalize (((((w1.setCell ⟨w.heap.size,0,none⟩ (.int .u64 c.x0)).setCell ⟨w.heap.size,1,none⟩ (.int .u64 c.x1)).setCell ⟨w.heap.size,2,none⟩ (.int .u64 c.x2)).setCell ⟨w.heap.size,3,none⟩ (.int .u64 c.x3)).setCell ⟨w.heap.size,4,none⟩ (.int .u64 c.x4))=W2
 intro hA2 hR2 hg3
 have hlow:Fe.Low c:=by have e:=hc.out;rw[e];exact Fe.NT ha
 have hcr:Fe.Low c:=hlow
 obtain⟨n0,n1,n2,n3,n4,m0,m1,m2,m3,m4⟩:=hcr
 go_loop [10,3] (fun i o=>∃k:Nat,k<=5/\i=.int .i64 k/\o=.int .u64 (ov c k)) (fun i _=>5-(intOf i).toNat)
 case atStart=>exact⟨0,by omega,rfl,rfl⟩
 case round=>
  obtain⟨k,hk,rfl,rfl⟩:=hrel
  rcases (show k=0\/k=1\/k=2\/k=3\/k=4\/k=5 by omega) with rfl|rfl|rfl|rfl|rfl|rfl
  .have b0:=(qU hlow 0).1
   have b1:=(qU hlow 0).2
   have e0:=Lib.hid (show ov c 1=(c.x0+ov c 0)/2251799813685248 from rfl)
   generalize ov c 0=o at *
   have i0:∀w,(Instr.index 66 (.agg #[.int .u64 c.x0,.int .u64 c.x1,.int .u64 c.x2,.int .u64 c.x3,.int .u64 c.x4]) (.int .i64 0)).run Tryz.prog w=.ok (.int .u64 c.x0) w:=fun _=>by kernel_rfl
   go_wp2
   go_round
   case rel=>exact⟨1,by omega,rfl,by rw[e0.out]⟩
   case measure=>simp[intOf]
  .have b0:=(qU hlow 1).1
   have b1:=(qU hlow 1).2
   have e0:=Lib.hid (show ov c 2=(c.x1+ov c 1)/2251799813685248 from rfl)
   generalize ov c 1=o at *
   have i0:∀w,(Instr.index 66 (.agg #[.int .u64 c.x0,.int .u64 c.x1,.int .u64 c.x2,.int .u64 c.x3,.int .u64 c.x4]) (.int .i64 1)).run Tryz.prog w=.ok (.int .u64 c.x1) w:=fun _=>by kernel_rfl
   go_wp2
   go_round
   case rel=>exact⟨2,by omega,rfl,by rw[e0.out]⟩
   case measure=>simp[intOf]
  .have b0:=(qU hlow 2).1
   have b1:=(qU hlow 2).2
   have e0:=Lib.hid (show ov c 3=(c.x2+ov c 2)/2251799813685248 from rfl)
   generalize ov c 2=o at *
   have i0:∀w,(Instr.index 66 (.agg #[.int .u64 c.x0,.int .u64 c.x1,.int .u64 c.x2,.int .u64 c.x3,.int .u64 c.x4]) (.int .i64 2)).run Tryz.prog w=.ok (.int .u64 c.x2) w:=fun _=>by kernel_rfl
   go_wp2
   go_round
   case rel=>exact⟨3,by omega,rfl,by rw[e0.out]⟩
   case measure=>simp[intOf]
  .have b0:=(qU hlow 3).1
   have b1:=(qU hlow 3).2
   have e0:=Lib.hid (show ov c 4=(c.x3+ov c 3)/2251799813685248 from rfl)
   generalize ov c 3=o at *
   have i0:∀w,(Instr.index 66 (.agg #[.int .u64 c.x0,.int .u64 c.x1,.int .u64 c.x2,.int .u64 c.x3,.int .u64 c.x4]) (.int .i64 3)).run Tryz.prog w=.ok (.int .u64 c.x3) w:=fun _=>by kernel_rfl
   go_wp2
   go_round
   case rel=>exact⟨4,by omega,rfl,by rw[e0.out]⟩
   case measure=>simp[intOf]
  .have b0:=(qU hlow 4).1
   have b1:=(qU hlow 4).2
   have e0:=Lib.hid (show ov c 5=(c.x4+ov c 4)/2251799813685248 from rfl)
   generalize ov c 4=o at *
   have i0:∀w,(Instr.index 66 (.agg #[.int .u64 c.x0,.int .u64 c.x1,.int .u64 c.x2,.int .u64 c.x3,.int .u64 c.x4]) (.int .i64 4)).run Tryz.prog w=.ok (.int .u64 c.x4) w:=fun _=>by kernel_rfl
   go_wp2
   go_round
   case rel=>exact⟨5,by omega,rfl,by rw[e0.out]⟩
   case measure=>simp[intOf]
  .have b0:=(qU hlow 5).1
   have b1:=(qU hlow 5).2
   have HO:Hid (ov c 5=Fe.uy c):=Lib.hid rfl
   generalize ov c 5=o at *
   have z0:=hA2.cell (i:=0) rfl
   have y0:=hA2.free 0
   go_wp2
   have hA3:=hA2.set 0 (.int .u64 (c.x0+19*o))
   have Me:=bU hR2 (p:=⟨w.heap.size,0,none⟩) (by simp) (.int .u64 (c.x0+19*o))
   have hg4:=aJ hg3 (p:=⟨w.heap.size,0,none⟩) (Nat.le_refl _) (.int .u64 (c.x0+19*o))
   have q0:0<=c.x0+19*o/\c.x0+19*o<4503599627370496:=by omega
   have HL0:Hid (Fe.Rb c=c.x0+19*o):=Lib.hid (by unfold Fe.Rb;rw[<- HO.out])
   clear hA2 hR2 hg3 z0 y0
   revert hA3 Me hg4
   generalize W2.setCell ⟨w.heap.size,0,none⟩ (.int .u64 (c.x0+19*o))=W3
   generalize c.x0+19*o=l0 at *
   obtain⟨q00,q01⟩:=q0
   intro hA3 Me hg4
   obtain⟨l1,h1⟩:∃l,c.x1+l0/2251799813685248=l:=⟨_,rfl⟩
   have q10:0<=l1:=by omega
   have q11:l1<4503599627370496:=by omega
   have H1:=Lib.hid h1;clear h1
   obtain⟨l2,h2⟩:∃l,c.x2+l1/2251799813685248=l:=⟨_,rfl⟩
   have q20:0<=l2:=by omega
   have q21:l2<4503599627370496:=by omega
   have H2:=Lib.hid h2;clear h2
   obtain⟨l3,h3⟩:∃l,c.x3+l2/2251799813685248=l:=⟨_,rfl⟩
   have q30:0<=l3:=by omega
   have q31:l3<4503599627370496:=by omega
   have H3:=Lib.hid h3;clear h3
   obtain⟨l4,h4⟩:∃l,c.x4+l3/2251799813685248=l:=⟨_,rfl⟩
   have q40:0<=l4:=by omega
   have q41:l4<4503599627370496:=by omega
   have H4:=Lib.hid h4;clear h4
   go_loopw [24] (fun i wr=>∃k:Nat,k<=4/\i=.int .i64 k/\w.grownBy wr none/\aG wr w.heap.size 66 (xL l0 l1 l2 l3 l4 c.x1 c.x2 c.x3 c.x4 k)/\fK wr (w.heap.size+1) 66) (fun i _=>4-(intOf i).toNat)
   case atStart=>exact⟨0,by omega,rfl,hg4,hA3,Me⟩
   case round=>
    obtain⟨k,hk,rfl,hg,hA,hR⟩:=hrel
    clear hA3 Me hg4
    rcases (show k=0\/k=1\/k=2\/k=3\/k=4 by omega) with rfl|rfl|rfl|rfl|rfl
    .have hB:=hA
     unfold xL at hB
     have z0:=hB.cell (i:=0) rfl
     have z1:=hB.cell (i:=1) rfl
     have f0:=hB.free 0
     have f1:=hB.free 1
     go_wp2
     go_region
     go_wp2
     rw[mI l0 (by omega) (by omega),H1.out]
     go_roundw
     case rel=>exact⟨1,by omega,rfl,aJ (aJ (aZ hg) (Nat.le_refl _) _) (Nat.le_refl _) _,((hB.drew).set 1 (.int .u64 l1)).set 0 (.int .u64 (l0%2251799813685248)),bU (bU (hR.grown (aZ (ah _ none)) (by simp)) (by simp) _) (by simp) _⟩
     case measure=>simp[intOf]
    .have hB:=hA
     unfold xL at hB
     have z0:=hB.cell (i:=1) rfl
     have z1:=hB.cell (i:=2) rfl
     have f0:=hB.free 1
     have f1:=hB.free 2
     go_wp2
     go_region
     go_wp2
     rw[mI l1 (by omega) (by omega),H2.out]
     go_roundw
     case rel=>exact⟨2,by omega,rfl,aJ (aJ (aZ hg) (Nat.le_refl _) _) (Nat.le_refl _) _,((hB.drew).set 2 (.int .u64 l2)).set 1 (.int .u64 (l1%2251799813685248)),bU (bU (hR.grown (aZ (ah _ none)) (by simp)) (by simp) _) (by simp) _⟩
     case measure=>simp[intOf]
    .have hB:=hA
     unfold xL at hB
     have z0:=hB.cell (i:=2) rfl
     have z1:=hB.cell (i:=3) rfl
     have f0:=hB.free 2
     have f1:=hB.free 3
     go_wp2
     go_region
     go_wp2
     rw[mI l2 (by omega) (by omega),H3.out]
     go_roundw
     case rel=>exact⟨3,by omega,rfl,aJ (aJ (aZ hg) (Nat.le_refl _) _) (Nat.le_refl _) _,((hB.drew).set 3 (.int .u64 l3)).set 2 (.int .u64 (l2%2251799813685248)),bU (bU (hR.grown (aZ (ah _ none)) (by simp)) (by simp) _) (by simp) _⟩
     case measure=>simp[intOf]
    .have hB:=hA
     unfold xL at hB
     have z0:=hB.cell (i:=3) rfl
     have z1:=hB.cell (i:=4) rfl
     have f0:=hB.free 3
     have f1:=hB.free 4
     go_wp2
     go_region
     go_wp2
     rw[mI l3 (by omega) (by omega),H4.out]
     go_roundw
     case rel=>exact⟨4,by omega,rfl,aJ (aJ (aZ hg) (Nat.le_refl _) _) (Nat.le_refl _) _,((hB.drew).set 4 (.int .u64 l4)).set 3 (.int .u64 (l3%2251799813685248)),bU (bU (hR.grown (aZ (ah _ none)) (by simp)) (by simp) _) (by simp) _⟩
     case measure=>simp[intOf]
    .have hB:=hA
     unfold xL at hB
     have z0:=hB.cell (i:=0) rfl
     have z1:=hB.cell (i:=1) rfl
     have z2:=hB.cell (i:=2) rfl
     have z3:=hB.cell (i:=3) rfl
     have z4:=hB.cell (i:=4) rfl
     have y4:=hB.free 4
     obtain⟨u0,u1,u2,u3,u4,kC⟩:=hR
     have t0:=kC.cell (i:=0) rfl
     have t1:=kC.cell (i:=1) rfl
     have t2:=kC.cell (i:=2) rfl
     have t3:=kC.cell (i:=3) rfl
     have t4:=kC.cell (i:=4) rfl
     have v0:=kC.free 0
     have v1:=kC.free 1
     have v2:=kC.free 2
     have v3:=kC.free 3
     have v4:=kC.free 4
     go_wp2
     rw[mI l4 (by omega) (by omega)]
     refine bodyPost_ret (v:=.agg #[.int .u64 (l0%2251799813685248),.int .u64 (l1%2251799813685248),.int .u64 (l2%2251799813685248),.int .u64 (l3%2251799813685248),.int .u64 (l4%2251799813685248)]) ?_ rfl ⟨⟨l0%2251799813685248,l1%2251799813685248,l2%2251799813685248,l3%2251799813685248,l4%2251799813685248⟩,Lib.hid ?_,rfl,jv (aJ hg (Nat.le_refl _) _) (by omega) _ _ _ _ _⟩
     .simp[results,Tryz.results135,go_sem,t0,t1,t2,t3,t4]
     .have e:=hc.out
      have e1:Fe.Rf c=l1:=by unfold Fe.Rf;rw[HL0.out,H1.out]
      have e2:Fe.Rh c=l2:=by unfold Fe.Rh;rw[e1,H2.out]
      have e3:Fe.Ri c=l3:=by unfold Fe.Ri;rw[e2,H3.out]
      have e4:Fe.Vp c=l4:=by unfold Fe.Vp;rw[e3,H4.out]
      rw[<- Fe.FV,<- e,Fe.Rj hlow,HL0.out,e1,e2,e3,e4]
end
section
open Go.RowKit
def qZ (x:Int) (i:Nat):Value:=.int .u8 (x/2^(8*i)%256)
set_option maxHeartbeats 400000 in
theorem oL (B off n c:Nat) (T:TypeId) (L:List Value) (x:Int) (w:World) (hn:8<=n) (hL:off+8<=L.length) (hb:aG w B T L):
  Calls Tryz.prog 136 #[.slice (some ⟨B,off,none⟩) n c,.int .u64 x] w fun e w'=>e=.returned (.tuple #[])/\w.grownBy w' (some B)/\aG w' B T (oI L off (qZ x) 8):=by
 go_enter Tryz.func136,Tryz.ntmps136
 go_wp2
 go_loopw [5] (fun i wr=>∃k:Nat,k<=8/\i=.int .i64 k/\w.grownBy wr (some B)/\aG wr B T (oI L off (qZ x) k)) (fun i _=>8-(intOf i).toNat)
 case atStart=>exact⟨0,by omega,rfl,ah _ _,hb⟩
 case round=>
  obtain⟨k,hk,rfl,hg,hB⟩:=hrel
  by_cases hlt:k<8
  .have hi:(k:Int)<(n:Int):=by omega
   have hs:0<=8*(k:Int):=by omega
   have hs2:8*(k:Int)<64:=by omega
   have hfr:=hB.free (off+k)
   obtain⟨v0,hv0⟩:∃v,wr.cell? ⟨B,off+k,none⟩=some v:=⟨_,hB.cell (List.getElem?_eq_getElem (by rw[fJ];omega))⟩
   go_wp2
   go_roundw
   case rel=>exact⟨k+1,by omega,by go_num,aS hg _ _,hB.set _ _⟩
   case measure=>simp[intOf];omega
  .obtain rfl:k=8:=by omega
   go_wp2
   go_end0
   exact⟨rfl,hg,hB⟩
def aU (f:Nat->Int):Nat->Int
 | 0=>0
 | k+1=>aU f k+f k*2^(8*k)
theorem z8 {a b:Nat} (h:a<=b):(2:Int)^a<=2^b:=by
 have h1:=Int.ofNat_le.2 (Nat.pow_le_pow_right (n:=2) (by decide) h)
 simpa[Int.natCast_pow] using h1
theorem gH (f:Nat->Int) (hf:∀i,0<=f i/\f i<256) (k:Nat):0<=aU f k/\aU f k<2^(8*k):=by
 induction k with
 | zero=>simp[aU]
 | succ k ih=>
  have h:=hf k
  have e:(2:Int)^(8*(k+1))=256*2^(8*k):=by rw[show 8*(k+1)=8*k+8 by omega,Int.pow_add];omega
  rw[aU,e]
  generalize (2:Int)^(8*k)=p at *
  have h1:f k*p<=255*p:=Int.mul_le_mul_of_nonneg_right (by omega) (by omega)
  have h2:0<=f k*p:=Int.mul_nonneg h.1 (by omega)
  omega
theorem Rz (a b:Int) (s:Nat) (h0:0<=a) (h1:a<2^s) (h2:a<18446744073709551616) (k0:0<=b) (k1:b*2^s<18446744073709551616):bits .or .u64 a (b*2^s)=a+b*2^s:=by
 obtain⟨a,rfl⟩:=Int.eq_ofNat_of_zero_le h0
 obtain⟨b,rfl⟩:=Int.eq_ofNat_of_zero_le k0
 have e:(b:Int)*2^s=((2^s*b:Nat):Int):=by rw[Int.natCast_mul,Int.natCast_pow,Int.mul_comm];rfl
 have ha:a<2^s:=by
  have:((2^s:Nat):Int)=(2:Int)^s:=by rw[Int.natCast_pow];rfl
  omega
 rw[e]at k1 ⊢
 rw[u64_or_nat _ _ (by omega) (by omega),Nat.or_comm,<- Nat.two_pow_add_eq_or_of_lt ha]
 omega
set_option maxHeartbeats 400000 in
theorem F8 (B off n c:Nat) (f:Nat->Int) (w:World) (hn:8<=n) (hf:∀i,0<=f i/\f i<256) (hc:∀i,i<8->w.cell? ⟨B,off+i,none⟩=some (.int .u8 (f i))):
  Calls Tryz.prog 156 #[.slice (some ⟨B,off,none⟩) n c] w fun e w'=>e=.returned (.int .u64 (aU f 8))/\w=w':=by
 go_enter Tryz.func156,Tryz.ntmps156
 go_wp2
 go_loop [3,5] (fun v i=>∃k:Nat,k<=8/\i=.int .i64 k/\v=.int .u64 (aU f k)) (fun _ i=>8-(intOf i).toNat)
 case atStart=>exact⟨0,by omega,rfl,rfl⟩
 case round=>
  obtain⟨k,hk,rfl,rfl⟩:=hrel
  by_cases hlt:k<8
  .have hi:(k:Int)<(n:Int):=by omega
   have hs:0<=8*(k:Int):=by omega
   have hs2:8*(k:Int)<64:=by omega
   have c0:=hc k hlt
   have b0:=(hf k).1
   have b1:=(hf k).2
   have Hw:Hid (bits .or .u64 (aU f k) (IntKind.u64.wrap (f k*2^(8*k)))=aU f (k+1)):=by
    apply Lib.hid
    have hb:=gH f hf k
    have hb1:=gH f hf (k+1)
    have hp:(2:Int)^(8*(k+1))<=2^64:=z8 (by omega)
    have hp2:(2:Int)^(8*k)<=2^64:=z8 (by omega)
    have h64:(2:Int)^64=18446744073709551616:=by decide
    have hm:0<=f k*2^(8*k):=Int.mul_nonneg b0 (by omega)
    rw[aU]at hb1
    rw[ig,Fe.j5 hm (by omega),aU]
    exact Rz _ _ _ hb.1 hb.2 (by omega) b0 (by omega)
   go_wp2
   go_round
   case rel=>exact⟨k+1,by omega,by go_num,by rw[Hw.out]⟩
   case measure=>simp[intOf];omega
  .obtain rfl:k=8:=by omega
   go_wp2
   go_ret
   exact⟨rfl,rfl⟩
theorem uN (a b:Int) (s:Nat) (p q:Int) (hp:(2:Int)^s=p) (hq:p*q=18446744073709551616) (h0:0<=a) (h1:a<p) (hq0:0<q):bits .or .u64 a (IntKind.u64.wrap (b*p))=a+(b%q)*p:=by
 have hp0:0<p:=by omega
 have hpp:p<=18446744073709551616:=by
  have:p*1<=p*q:=Int.mul_le_mul_of_nonneg_left (by omega) (by omega)
  omega
 have e:IntKind.u64.wrap (b*p)=(b%q)*2^s:=by
  rw[ig,hp]
  unfold Fe.dG
  rw[<- hq,Int.mul_comm b p,Int.mul_comm (b%q) p,Int.mul_emod_mul_of_pos _ _ hp0]
 have hb0:0<=b%q:=Int.emod_nonneg _ (by omega)
 have hb1:b%q<q:=Int.emod_lt_of_pos _ hq0
 have hb2:(b%q)*p<18446744073709551616:=by
  have h:(b%q)*p<=(q-1)*p:=Int.mul_le_mul_of_nonneg_right (by omega) (by omega)
  have e2:(q-1)*p=18446744073709551616-p:=by rw[Int.sub_mul,Int.mul_comm q p,hq,Int.one_mul]
  omega
 rw[e,Rz a _ s h0 (by rw[hp];exact h1) (by omega) hb0 (by rw[hp];exact hb2),hp]
def dh (x:Int):List Value:=(List.range 32).map (qZ x)
theorem tq (x:Int) (k i:Nat) (h:i<8):qZ (x/2^(64*k)%18446744073709551616) i=qZ x (8*k+i):=by
 unfold qZ
 have e:x/2^(8*(8*k+i))=x/2^(64*k)/2^(8*i):=by
  rw[show 8*(8*k+i)=64*k+8*i by omega,Int.pow_add,Int.ediv_ediv_of_nonneg (Int.le_of_lt (Int.pow_pos (by decide)))]
 rw[e]
 generalize x/2^(64*k)=y
 congr 1
 obtain rfl|rfl|rfl|rfl|rfl|rfl|rfl|rfl:i=0\/i=1\/i=2\/i=3\/i=4\/i=5\/i=6\/i=7:=by omega
 all_goals simp only[Nat.mul_zero,Nat.mul_one,Int.reducePow,Nat.reduceMul];omega
def lK:List Value:=List.replicate 32 (.int .u8 0)
theorem J2 (x:Int):oI (oI (oI (oI lK 0 (qZ (x/2^(64*0)%18446744073709551616)) 8) 8 (qZ (x/2^(64*1)%18446744073709551616)) 8) 16 (qZ (x/2^(64*2)%18446744073709551616)) 8) 24 (qZ (x/2^(64*3)%18446744073709551616)) 8=dh x:=by
 apply List.ext_getElem?
 intro i
 have l0:lK.length=32:=rfl
 rw[rE _ _ _ _ _ (by simp only[fJ,l0];omega),rE _ _ _ _ _ (by simp only[fJ,l0];omega),rE _ _ _ _ _ (by simp only[fJ,l0];omega),rE _ _ _ _ _ (by rw[l0];omega)]
 by_cases h:i<32
 .have e:(dh x)[i]?=some (qZ x i):=by unfold dh;rw[List.getElem?_map,List.getElem?_range h];rfl
  rw[e]
  by_cases h3:24<=i
  .rw[if_pos (by omega),tq x 3 (i-24) (by omega),show 8*3+(i-24)=i by omega]
  .rw[if_neg (by omega)]
   by_cases h2:16<=i
   .rw[if_pos (by omega),tq x 2 (i-16) (by omega),show 8*2+(i-16)=i by omega]
   .rw[if_neg (by omega)]
    by_cases h1:8<=i
    .rw[if_pos (by omega),tq x 1 (i-8) (by omega),show 8*1+(i-8)=i by omega]
    .rw[if_neg (by omega),if_pos (by omega),tq x 0 (i-0) (by omega),show 8*0+(i-0)=i by omega]
 .rw[if_neg (by omega),if_neg (by omega),if_neg (by omega),if_neg (by omega),List.getElem?_eq_none (by rw[l0];omega),List.getElem?_eq_none (by simp[dh];omega)]
theorem OC (a:Fe):0<=(Fe.m a:Int)/\(Fe.m a:Int)<57896044618658097711785492504343953926634992332820282019728792003956564819949:=by
 have:=Fe.xK a
 unfold Fe.P at this
 omega
theorem F9 (a:Fe):
  (Fe.gB a).x0+(Fe.gB a).x1%8192*2251799813685248=(Fe.m a:Int)/2^(64*0)%18446744073709551616/\
  (Fe.gB a).x1/8192+(Fe.gB a).x2%67108864*274877906944=(Fe.m a:Int)/2^(64*1)%18446744073709551616/\
  (Fe.gB a).x2/67108864+(Fe.gB a).x3%549755813888*33554432=(Fe.m a:Int)/2^(64*2)%18446744073709551616/\
  (Fe.gB a).x3/549755813888+(Fe.gB a).x4%4503599627370496*4096=(Fe.m a:Int)/2^(64*3)%18446744073709551616:=by
 have hl:=OC a
 unfold Fe.gB
 generalize (Fe.m a:Int)=x at *
 have e2:x/5070602400912917605986812821504=x/2251799813685248/2251799813685248:=by rw[Int.ediv_ediv_of_nonneg (by decide)];rfl
 have e3:x/11417981541647679048466287755595961091061972992=x/2251799813685248/2251799813685248/2251799813685248:=by rw[Int.ediv_ediv_of_nonneg (by decide),Int.ediv_ediv_of_nonneg (by decide)];rfl
 have e4:x/25711008708143844408671393477458601640355247900524685364822016=x/2251799813685248/2251799813685248/2251799813685248/2251799813685248:=by rw[Int.ediv_ediv_of_nonneg (by decide),Int.ediv_ediv_of_nonneg (by decide),Int.ediv_ediv_of_nonneg (by decide)];rfl
 rw[e2,e3,e4]
 have p1:(2:Int)^(64*1)=18446744073709551616:=by decide
 have p2:(2:Int)^(64*2)=340282366920938463463374607431768211456:=by decide
 have p3:(2:Int)^(64*3)=6277101735386680763835789423207666416102355444464034512896:=by decide
 rw[p1,p2,p3]
 obtain⟨d0,q1,b0,b0',f0⟩:∃d q:Int,0<=d/\d<2251799813685248/\x=2251799813685248*q+d:=⟨x%2251799813685248,x/2251799813685248,by omega,by omega,by omega⟩
 obtain⟨d1,q2,b1,b1',f1⟩:∃d q:Int,0<=d/\d<2251799813685248/\q1=2251799813685248*q+d:=⟨q1%2251799813685248,q1/2251799813685248,by omega,by omega,by omega⟩
 obtain⟨d2,q3,b2,b2',f2⟩:∃d q:Int,0<=d/\d<2251799813685248/\q2=2251799813685248*q+d:=⟨q2%2251799813685248,q2/2251799813685248,by omega,by omega,by omega⟩
 obtain⟨d3,q4,b3,b3',f3⟩:∃d q:Int,0<=d/\d<2251799813685248/\q3=2251799813685248*q+d:=⟨q3%2251799813685248,q3/2251799813685248,by omega,by omega,by omega⟩
 have g1:x/2251799813685248=q1:=by omega
 have g2:q1/2251799813685248=q2:=by omega
 have g3:q2/2251799813685248=q3:=by omega
 have g4:q3/2251799813685248=q4:=by omega
 have m0:x%2251799813685248=d0:=by omega
 have m1:q1%2251799813685248=d1:=by omega
 have m2:q2%2251799813685248=d2:=by omega
 have m3:q3%2251799813685248=d3:=by omega
 simp only[g1,g2,g3,g4,m0,m1,m2,m3]
 have b4:0<=q4:=by omega
 have b4':q4<2251799813685248:=by omega
 have m4:q4%2251799813685248=q4:=by omega
 rw[m4]
 have w1:x/18446744073709551616=d1/8192+274877906944*q2:=by omega
 have w2:x/340282366920938463463374607431768211456=d2/67108864+33554432*q3:=by omega
 have w3:x/6277101735386680763835789423207666416102355444464034512896=d3/549755813888+4096*q4:=by omega
 rw[w1,w2,w3]
 refine⟨?_,?_,?_,?_⟩<;>omega
end
section
open Go.RowKit
theorem RA (a:Fe):(0<=(Fe.gB a).x0/\(Fe.gB a).x0<2251799813685248)/\(0<=(Fe.gB a).x1/\(Fe.gB a).x1<2251799813685248)/\(0<=(Fe.gB a).x2/\(Fe.gB a).x2<2251799813685248)/\
  (0<=(Fe.gB a).x3/\(Fe.gB a).x3<2251799813685248)/\(0<=(Fe.gB a).x4/\(Fe.gB a).x4<2251799813685248):=by
 unfold Fe.gB
 refine⟨⟨?_,?_⟩,⟨?_,?_⟩,⟨?_,?_⟩,⟨?_,?_⟩,?_,?_⟩<;>dsimp only<;>omega
theorem vW:(Tryz.prog.info? 166).map (·.size)=some 32:=by kernel_rfl
theorem Aa (x:Int):(dh x).toArray.all (·.oneCell')=true:=by
 simp[dh,qZ,Value.oneCell']
abbrev J3 (w:World) (r:Fe) (w':World):Prop:=aG w' w.heap.size 66 [.int .u64 r.x0,.int .u64 r.x1,.int .u64 r.x2,.int .u64 r.x3,.int .u64 r.x4]/\w'.cell? ⟨w.heap.size,0,none⟩=some (.int .u64 r.x0)/\w'.cell? ⟨w.heap.size,1,none⟩=some (.int .u64 r.x1)/\w'.cell? ⟨w.heap.size,2,none⟩=some (.int .u64 r.x2)/\w'.cell? ⟨w.heap.size,3,none⟩=some (.int .u64 r.x3)/\w'.cell? ⟨w.heap.size,4,none⟩=some (.int .u64 r.x4)
theorem vX {w w':World} {r:Fe} (h:aG w' w.heap.size 66 [.int .u64 r.x0,.int .u64 r.x1,.int .u64 r.x2,.int .u64 r.x3,.int .u64 r.x4]):J3 w r w':=⟨h,h.cell (i:=0) rfl,h.cell (i:=1) rfl,h.cell (i:=2) rfl,h.cell (i:=3) rfl,h.cell (i:=4) rfl⟩
theorem tu {w w1 w2:World} {r:Fe} {B:Nat} (hg:w1.grownBy w2 (some B)) (hne:w.heap.size≠B) (h:J3 w r w1):J3 w r w2:=vX (h.1.grown hg (bJ hne))
set_option maxRecDepth 100000 in
set_option maxHeartbeats 1600000 in
theorem rM (a:Fe) (w:World) (ha:a.Ok):
  Calls Tryz.prog 107 #[.agg #[.int .u64 a.x0,.int .u64 a.x1,.int .u64 a.x2,.int .u64 a.x3,.int .u64 a.x4]] w fun e w'=>e=.returned (.agg (dh (Fe.m a)).toArray)/\w.grownBy w' none:=by
 have hg0:∀c0 c1,w.grownBy ((w.alloc c0).alloc c1) none:=fun c0 c1=>au (au (ah _ _) _) _
 go_enter Tryz.func107,Tryz.ntmps107
 go_wp2_with (go_at_call 135;refine (OB a _ ha).mono ?_;rintro e w1 ⟨r,hr,rfl,hg1⟩;have hg2:=aj (hg0 _ _) hg1;have hA1:=aG.grown (aG.alloc (aG.new w [.int .u64 a.x0,.int .u64 a.x1,.int .u64 a.x2,.int .u64 a.x3,.int .u64 a.x4] 66) _) hg1 (by simp);have z0:=hA1.cell (i:=0) rfl;have z1:=hA1.cell (i:=1) rfl;have z2:=hA1.cell (i:=2) rfl;have z3:=hA1.cell (i:=3) rfl;have z4:=hA1.cell (i:=4) rfl;have y0:=hA1.free 0;have y1:=hA1.free 1;have y2:=hA1.free 2;have y3:=hA1.free 3;have y4:=hA1.free 4)
 have hlt1:w.heap.size+1<w1.heap.size:=by have:=hg1.size;simp at this;omega
 have hA2:aG ((((((w1.setCell ⟨w.heap.size,0,none⟩ (.int .u64 r.x0)).setCell ⟨w.heap.size,1,none⟩ (.int .u64 r.x1)).setCell ⟨w.heap.size,2,none⟩ (.int .u64 r.x2)).setCell ⟨w.heap.size,3,none⟩ (.int .u64 r.x3)).setCell ⟨w.heap.size,4,none⟩ (.int .u64 r.x4)).alloc (.cells #[.int .u8 0,.int .u8 0,.int .u8 0,.int .u8 0,.int .u8 0,.int .u8 0,.int .u8 0,.int .u8 0,.int .u8 0,.int .u8 0,.int .u8 0,.int .u8 0,.int .u8 0,.int .u8 0,.int .u8 0,.int .u8 0,.int .u8 0,.int .u8 0,.int .u8 0,.int .u8 0,.int .u8 0,.int .u8 0,.int .u8 0,.int .u8 0,.int .u8 0,.int .u8 0,.int .u8 0,.int .u8 0,.int .u8 0,.int .u8 0,.int .u8 0,.int .u8 0] 166)) w.heap.size 66 [.int .u64 r.x0,.int .u64 r.x1,.int .u64 r.x2,.int .u64 r.x3,.int .u64 r.x4]:=aG.alloc (fK.rJ ⟨_,_,_,_,_,hA1⟩ _ _ _ _ _) _
 have hC2:aG ((((((w1.setCell ⟨w.heap.size,0,none⟩ (.int .u64 r.x0)).setCell ⟨w.heap.size,1,none⟩ (.int .u64 r.x1)).setCell ⟨w.heap.size,2,none⟩ (.int .u64 r.x2)).setCell ⟨w.heap.size,3,none⟩ (.int .u64 r.x3)).setCell ⟨w.heap.size,4,none⟩ (.int .u64 r.x4)).alloc (.cells #[.int .u8 0,.int .u8 0,.int .u8 0,.int .u8 0,.int .u8 0,.int .u8 0,.int .u8 0,.int .u8 0,.int .u8 0,.int .u8 0,.int .u8 0,.int .u8 0,.int .u8 0,.int .u8 0,.int .u8 0,.int .u8 0,.int .u8 0,.int .u8 0,.int .u8 0,.int .u8 0,.int .u8 0,.int .u8 0,.int .u8 0,.int .u8 0,.int .u8 0,.int .u8 0,.int .u8 0,.int .u8 0,.int .u8 0,.int .u8 0,.int .u8 0,.int .u8 0] 166)) w1.heap.size 166 lK:=aG.newAt _ lK _ (by simp)
 have hR2:aG ((((((w1.setCell ⟨w.heap.size,0,none⟩ (.int .u64 r.x0)).setCell ⟨w.heap.size,1,none⟩ (.int .u64 r.x1)).setCell ⟨w.heap.size,2,none⟩ (.int .u64 r.x2)).setCell ⟨w.heap.size,3,none⟩ (.int .u64 r.x3)).setCell ⟨w.heap.size,4,none⟩ (.int .u64 r.x4)).alloc (.cells #[.int .u8 0,.int .u8 0,.int .u8 0,.int .u8 0,.int .u8 0,.int .u8 0,.int .u8 0,.int .u8 0,.int .u8 0,.int .u8 0,.int .u8 0,.int .u8 0,.int .u8 0,.int .u8 0,.int .u8 0,.int .u8 0,.int .u8 0,.int .u8 0,.int .u8 0,.int .u8 0,.int .u8 0,.int .u8 0,.int .u8 0,.int .u8 0,.int .u8 0,.int .u8 0,.int .u8 0,.int .u8 0,.int .u8 0,.int .u8 0,.int .u8 0,.int .u8 0] 166)) (w.heap.size+1) 166 lK:=aG.alloc ((((((aG.grown (aG.newAt (w.alloc _) lK _ (by simp)) hg1 (by simp)).other (by simp) _).other (by simp) _).other (by simp) _).other (by simp) _).other (by simp) _) _
 have hg3:w.grownBy ((((((w1.setCell ⟨w.heap.size,0,none⟩ (.int .u64 r.x0)).setCell ⟨w.heap.size,1,none⟩ (.int .u64 r.x1)).setCell ⟨w.heap.size,2,none⟩ (.int .u64 r.x2)).setCell ⟨w.heap.size,3,none⟩ (.int .u64 r.x3)).setCell ⟨w.heap.size,4,none⟩ (.int .u64 r.x4)).alloc (.cells #[.int .u8 0,.int .u8 0,.int .u8 0,.int .u8 0,.int .u8 0,.int .u8 0,.int .u8 0,.int .u8 0,.int .u8 0,.int .u8 0,.int .u8 0,.int .u8 0,.int .u8 0,.int .u8 0,.int .u8 0,.int .u8 0,.int .u8 0,.int .u8 0,.int .u8 0,.int .u8 0,.int .u8 0,.int .u8 0,.int .u8 0,.int .u8 0,.int .u8 0,.int .u8 0,.int .u8 0,.int .u8 0,.int .u8 0,.int .u8 0,.int .u8 0,.int .u8 0] 166)) none:=au (jv hg2 (Nat.le_refl _) _ _ _ _ _) _
 revert hA2 hC2 hR2 hg3
 clear hA1 z0 z1 z2 z3 z4 y0 y1 y2 y3 y4
 generalize ((((((w1.setCell ⟨w.heap.size,0,none⟩ (.int .u64 r.x0)).setCell ⟨w.heap.size,1,none⟩ (.int .u64 r.x1)).setCell ⟨w.heap.size,2,none⟩ (.int .u64 r.x2)).setCell ⟨w.heap.size,3,none⟩ (.int .u64 r.x3)).setCell ⟨w.heap.size,4,none⟩ (.int .u64 r.x4)).alloc (.cells #[.int .u8 0,.int .u8 0,.int .u8 0,.int .u8 0,.int .u8 0,.int .u8 0,.int .u8 0,.int .u8 0,.int .u8 0,.int .u8 0,.int .u8 0,.int .u8 0,.int .u8 0,.int .u8 0,.int .u8 0,.int .u8 0,.int .u8 0,.int .u8 0,.int .u8 0,.int .u8 0,.int .u8 0,.int .u8 0,.int .u8 0,.int .u8 0,.int .u8 0,.int .u8 0,.int .u8 0,.int .u8 0,.int .u8 0,.int .u8 0,.int .u8 0,.int .u8 0] 166))=W2
 obtain⟨C,hC⟩:∃C,C=w1.heap.size:=⟨_,rfl⟩
 rw[<- hC]at hlt1
 rw[<- hC]
 clear hg1 hg2 hC
 intro hA2 hC2 hR2 hg3
 obtain⟨⟨p00,p01⟩,⟨p10,p11⟩,⟨p20,p21⟩,⟨p30,p31⟩,p40,p41⟩:=RA a
 have YQ:=F9 a
 rw[<- hr.out]at p00 p01 p10 p11 p20 p21 p30 p31 p40 p41 YQ
 have HW:=Lib.hid YQ;clear YQ
 have J4:w.heap.size≠C:=by omega
 have VA:w.heap.size+1≠C:=by omega
 have hS0:J3 w r W2.drew:=vX hA2.drew
 have K0:=Lib.hid (uN r.x0 r.x1 51 2251799813685248 8192 (by decide) (by decide) p00 p01 (by decide))
 have K1:=Lib.hid (uN (r.x1/8192) r.x2 38 274877906944 67108864 (by decide) (by decide) (by omega) (by omega) (by decide))
 have K2:=Lib.hid (uN (r.x2/67108864) r.x3 25 33554432 549755813888 (by decide) (by decide) (by omega) (by omega) (by decide))
 have K3:=Lib.hid (uN (r.x3/549755813888) r.x4 12 4096 4503599627370496 (by decide) (by decide) (by omega) (by omega) (by decide))
 go_region_held3 (fun w'=>aG w' w.heap.size 66 [.int .u64 r.x0,.int .u64 r.x1,.int .u64 r.x2,.int .u64 r.x3,.int .u64 r.x4]/\w'.cell? ⟨w.heap.size,0,none⟩=some (.int .u64 r.x0)/\w'.cell? ⟨w.heap.size,1,none⟩=some (.int .u64 r.x1)/\w'.cell? ⟨w.heap.size,2,none⟩=some (.int .u64 r.x2)/\w'.cell? ⟨w.heap.size,3,none⟩=some (.int .u64 r.x3)/\w'.cell? ⟨w.heap.size,4,none⟩=some (.int .u64 r.x4))
  (first|(with_reducible exact hS0)|(with_reducible exact tu (by assumption) J4 (by assumption)))
  (first|(go_simp;go_at_call 136;refine (oL C 0 32 32 166 _ _ _ (by decide) (by decide) hC2.drew).mono ?_;rintro e v1 ⟨rfl,ge1,hd1⟩))
 rw[K0.out,HW.out.1]at hd1
 have hA3:=(hA2.drew).grown ge1 (bJ J4)
 have Me:=(hR2.drew).grown ge1 (bJ VA)
 have hg4:=aX (aZ hg3) ge1 (by omega)
 have hS1:J3 w r v1.drew:=vX hA3.drew
 clear ge1 hS0 hA2 hR2 hg3 hC2
 go_wp2
 go_region_held3 (fun w'=>aG w' w.heap.size 66 [.int .u64 r.x0,.int .u64 r.x1,.int .u64 r.x2,.int .u64 r.x3,.int .u64 r.x4]/\w'.cell? ⟨w.heap.size,0,none⟩=some (.int .u64 r.x0)/\w'.cell? ⟨w.heap.size,1,none⟩=some (.int .u64 r.x1)/\w'.cell? ⟨w.heap.size,2,none⟩=some (.int .u64 r.x2)/\w'.cell? ⟨w.heap.size,3,none⟩=some (.int .u64 r.x3)/\w'.cell? ⟨w.heap.size,4,none⟩=some (.int .u64 r.x4))
  (first|(with_reducible exact hS1)|(with_reducible exact tu (by assumption) J4 (by assumption)))
  (first|(go_simp;go_at_call 136;refine (oL C 8 24 24 166 _ _ _ (by decide) (by simp only[fJ];decide) hd1.drew).mono ?_;rintro e v2 ⟨rfl,ge2,hd2⟩))
 rw[K1.out,HW.out.2.1]at hd2
 have VB:=(hA3.drew).grown ge2 (bJ J4)
 have J5:=(Me.drew).grown ge2 (bJ VA)
 have hg5:=aX (aZ hg4) ge2 (by omega)
 have hS2:J3 w r v2.drew:=vX VB.drew
 clear ge2 hS1 hA3 Me hg4 hd1
 go_wp2
 go_region_held3 (fun w'=>aG w' w.heap.size 66 [.int .u64 r.x0,.int .u64 r.x1,.int .u64 r.x2,.int .u64 r.x3,.int .u64 r.x4]/\w'.cell? ⟨w.heap.size,0,none⟩=some (.int .u64 r.x0)/\w'.cell? ⟨w.heap.size,1,none⟩=some (.int .u64 r.x1)/\w'.cell? ⟨w.heap.size,2,none⟩=some (.int .u64 r.x2)/\w'.cell? ⟨w.heap.size,3,none⟩=some (.int .u64 r.x3)/\w'.cell? ⟨w.heap.size,4,none⟩=some (.int .u64 r.x4))
  (first|(with_reducible exact hS2)|(with_reducible exact tu (by assumption) J4 (by assumption)))
  (first|(go_simp;go_at_call 136;refine (oL C 16 16 16 166 _ _ _ (by decide) (by simp only[fJ];decide) hd2.drew).mono ?_;rintro e v3 ⟨rfl,ge3,hd3⟩))
 rw[K2.out,HW.out.2.2.1]at hd3
 have hA5:=(VB.drew).grown ge3 (bJ J4)
 have JG:=(J5.drew).grown ge3 (bJ VA)
 have uD:=aX (aZ hg5) ge3 (by omega)
 have XP:J3 w r v3.drew:=vX hA5.drew
 clear ge3 hS2 VB J5 hg5 hd2
 go_wp2
 go_region_held3 (fun w'=>aG w' w.heap.size 66 [.int .u64 r.x0,.int .u64 r.x1,.int .u64 r.x2,.int .u64 r.x3,.int .u64 r.x4]/\w'.cell? ⟨w.heap.size,0,none⟩=some (.int .u64 r.x0)/\w'.cell? ⟨w.heap.size,1,none⟩=some (.int .u64 r.x1)/\w'.cell? ⟨w.heap.size,2,none⟩=some (.int .u64 r.x2)/\w'.cell? ⟨w.heap.size,3,none⟩=some (.int .u64 r.x3)/\w'.cell? ⟨w.heap.size,4,none⟩=some (.int .u64 r.x4))
  (first|(with_reducible exact XP)|(with_reducible exact tu (by assumption) J4 (by assumption)))
  (first|(go_simp;go_at_call 136;refine (oL C 24 8 8 166 _ _ _ (by decide) (by simp only[fJ];decide) hd3.drew).mono ?_;rintro e v4 ⟨rfl,ge4,hd4⟩))
 rw[K3.out,HW.out.2.2.2,J2]at hd4
 have hR6:=(JG.drew).grown ge4 (bJ VA)
 have J6:=aX (aZ uD) ge4 (by omega)
 clear ge4 XP hA5 JG uD hd3 K0 K1 K2 K3
 obtain⟨X,hX⟩:∃X,X=dh (Fe.m a):=⟨_,rfl⟩
 rw[<- hX]at hd4
 have hXl:X.length=32:=by rw[hX];rfl
 have hX1:X.toArray.all (·.oneCell')=true:=by rw[hX];exact Aa _
 have HX:=Lib.hid (And.intro hX (And.intro hXl hX1));clear hX hXl hX1
 have HM:=Lib.hid (And.intro hd4 hR6);clear hd4 hR6
 go_wp2_with (first
  | (refine wpList_load_row rfl 166 (.tmp 3) rfl C rfl 166 X.toArray (0,0) _ HM.out.1 Tryz.underlying166 rfl (by rw[List.size_toArray,HX.out.2.1];exact vW) ?_)
  | (refine wpList_store_row rfl 166 (.tmp 2) (.tmp 41) rfl (w.heap.size+1) X.toArray rfl rfl 166 lK.toArray HM.out.2 (by rw[List.size_toArray,HX.out.2.1];exact vW) (by rw[List.size_toArray,List.size_toArray,HX.out.2.1];rfl) HX.out.2.2 ?_))
 refine bodyPost_ret (v:=.agg X.toArray) ?_ rfl ⟨by rw[HX.out.1],pW J6 (by omega) _⟩
 exact results_cell_row Tryz.results107 _ _ (w.heap.size+1) 166 X.toArray (0,0) _ rfl (HM.out.2.row X) Tryz.underlying166 rfl (by rw[List.size_toArray,HX.out.2.1];exact vW)
end
section
open Go.RowKit
theorem xM {P:Program} (w:World) (d:Nat) {e:TypeId} {k:IntKind} (he:P.plainKey e=true) (hu:P.underlying e=some (.int k)) (f g:Nat->Int) (xs ys:Array Value) (is:List Nat)
    (hx:∀i∈is,xs[i*1]?=some (.int k (f i))) (hy:∀i∈is,ys[i*1]?=some (.int k (g i))):(Op.eqItems (d+1) e 1 xs ys is).run P w=.ok (is.all fun i=>f i==g i) w:=by
  induction is with
  | nil=>simp[Op.eqItems]
  | cons i r ih=>
    have h1:=run_part_plain w he (hx i (List.mem_cons_self ..))
    have h2:=run_part_plain w he (hy i (List.mem_cons_self ..))
    simp only[Op.eqItems,Sem.run_bind,h1,h2,Result.andThen_ok,run_equalIn_int w d e k k (f i) (g i) hu,List.all_cons]
    cases hfg:f i==g i
    . simp
    . simpa using ih (fun j hj=>hx j (List.mem_cons_of_mem _ hj)) (fun j hj=>hy j (List.mem_cons_of_mem _ hj))
theorem yL (n:Nat):∀x y:Int,0<=x->0<=y->x<2^(8*n)->y<2^(8*n)->(∀i,i<n->x/2^(8*i)%256=y/2^(8*i)%256)->x=y:=by
  induction n with
  | zero=>intro x y h0 k0 h1 k1 _;simp at h1 k1;omega
  | succ n ih=>
    intro x y h0 k0 h1 k1 h
    have e:(2:Int)^(8*(n+1))=256*2^(8*n):=by rw[show 8*(n+1)=8*n+8 by omega,Int.pow_add];omega
    rw[e]at h1 k1
    have hd:x/256=y/256:=ih _ _ (by omega) (by omega) (by omega) (by omega) fun i hi=>by
      have:=h (i+1) (by omega)
      have e2:(2:Int)^(8*(i+1))=256*2^(8*i):=by rw[show 8*(i+1)=8*i+8 by omega,Int.pow_add];omega
      rw[e2,<- Int.ediv_ediv_of_nonneg (by decide),<- Int.ediv_ediv_of_nonneg (by decide)]at this
      exact this
    have hm:=h 0 (by omega)
    simp at hm
    omega
theorem J7 (x y:Int) (h0:0<=x) (k0:0<=y) (h1:x<2^256) (k1:y<2^256):
    ((List.range 32).all fun i=>(x/2^(8*i)%256==y/2^(8*i)%256))=decide (x=y):=by
  rw[Bool.eq_iff_iff,List.all_eq_true,decide_eq_true_iff]
  constructor
  . intro h
    exact yL 32 x y h0 k0 h1 k1 fun i hi=>by simpa using h i (List.mem_range.2 hi)
  . rintro rfl i _;simp
theorem lu (x:Int) (i:Nat) (h:i<32):(dh x)[i]?=some (qZ x i):=by
  unfold dh;rw[List.getElem?_map,List.getElem?_range h];rfl
theorem qz:∃i,Tryz.prog.info? 5=some i:=by
  cases h:Tryz.prog.info? 5 with
  | none=>exact absurd h (by
                               have:(Tryz.prog.info? 5).isSome=true:=by kernel_rfl
                               intro e;rw[e]at this;cases this)
  | some i=>exact⟨i,rfl⟩
theorem OD (x y:Int) (h0:0<=x) (k0:0<=y) (h1:x<2^256) (k1:y<2^256) (w:World):
    (binOp .eql 166 (.agg (dh x).toArray) (.agg (dh y).toArray)).run Tryz.prog w=.ok (.bool (decide (x=y))) w:=by
  obtain⟨j,hj⟩:=qz
  have hc:Tryz.prog.cellsOf 5=1:=by kernel_rfl
  rw[run_eql_struct,run_equalIn_array w 9999 _ _ Tryz.underlying166 hj,hc,
    xM w 9998 (by kernel_rfl) Tryz.underlying5 (fun i=>x/2^(8*i)%256) (fun i=>y/2^(8*i)%256) _ _ _
      (fun i hi=>by rw[Nat.mul_one,List.getElem?_toArray];exact lu x i (List.mem_range.1 hi)) (fun i hi=>by rw[Nat.mul_one,List.getElem?_toArray];exact lu y i (List.mem_range.1 hi)),
    J7 x y h0 k0 h1 k1]
  rfl
theorem Mf (a:Fe):(Fe.m a:Int)<2^256:=by
  have:=(OC a).2
  have e:(2:Int)^256=115792089237316195423570985008687907853269984665640564039457584007913129639936:=by decide
  omega
abbrev RD (w:World) (a b:Fe) (w':World):Prop:=aG w' w.heap.size 66 [.int .u64 a.x0,.int .u64 a.x1,.int .u64 a.x2,.int .u64 a.x3,.int .u64 a.x4]/\aG w' (w.heap.size+1) 66 [.int .u64 b.x0,.int .u64 b.x1,.int .u64 b.x2,.int .u64 b.x3,.int .u64 b.x4]/\w.grownBy w' none/\w'.cell? ⟨w.heap.size,0,none⟩=some (.int .u64 a.x0)/\w'.cell? ⟨w.heap.size,1,none⟩=some (.int .u64 a.x1)/\w'.cell? ⟨w.heap.size,2,none⟩=some (.int .u64 a.x2)/\w'.cell? ⟨w.heap.size,3,none⟩=some (.int .u64 a.x3)/\w'.cell? ⟨w.heap.size,4,none⟩=some (.int .u64 a.x4)/\w'.cell? ⟨w.heap.size+1,0,none⟩=some (.int .u64 b.x0)/\w'.cell? ⟨w.heap.size+1,1,none⟩=some (.int .u64 b.x1)/\w'.cell? ⟨w.heap.size+1,2,none⟩=some (.int .u64 b.x2)/\w'.cell? ⟨w.heap.size+1,3,none⟩=some (.int .u64 b.x3)/\w'.cell? ⟨w.heap.size+1,4,none⟩=some (.int .u64 b.x4)
theorem Mg {w w':World} {a b:Fe} (hA:aG w' w.heap.size 66 [.int .u64 a.x0,.int .u64 a.x1,.int .u64 a.x2,.int .u64 a.x3,.int .u64 a.x4]) (hB:aG w' (w.heap.size+1) 66 [.int .u64 b.x0,.int .u64 b.x1,.int .u64 b.x2,.int .u64 b.x3,.int .u64 b.x4]) (hg:w.grownBy w' none):RD w a b w':=
  ⟨hA,hB,hg,hA.cell (i:=0) rfl,hA.cell (i:=1) rfl,hA.cell (i:=2) rfl,hA.cell (i:=3) rfl,hA.cell (i:=4) rfl,hB.cell (i:=0) rfl,hB.cell (i:=1) rfl,hB.cell (i:=2) rfl,hB.cell (i:=3) rfl,hB.cell (i:=4) rfl⟩
theorem OE {w w1 w2:World} {a b:Fe} (hg:w1.grownBy w2 none) (h:RD w a b w1):RD w a b w2:=
  Mg (h.1.grown hg (by simp)) (h.2.1.grown hg (by simp)) (aj h.2.2.1 hg)
set_option maxRecDepth 100000 in
set_option maxHeartbeats 1600000 in
theorem Ab (a b:Fe) (w:World) (ha:a.Ok) (hb:b.Ok):
    Calls Tryz.prog 118 #[.agg #[.int .u64 a.x0,.int .u64 a.x1,.int .u64 a.x2,.int .u64 a.x3,.int .u64 a.x4],.agg #[.int .u64 b.x0,.int .u64 b.x1,.int .u64 b.x2,.int .u64 b.x3,.int .u64 b.x4]] w fun e w'=>e=.returned (.bool (decide (Fe.m a=Fe.m b)))/\w.grownBy w' none:=by
  have hE:=OD (Fe.m a) (Fe.m b) (OC a).1 (OC b).1 (Mf a) (Mf b)
  have hq:decide ((Fe.m a:Int)=(Fe.m b:Int))=decide (Fe.m a=Fe.m b):=by
    rw[Bool.eq_iff_iff,decide_eq_true_iff,decide_eq_true_iff];omega
  rw[hq]at hE
  clear hq
  go_enter Tryz.func118,Tryz.ntmps118
  go_wp2
  have hS0:RD w a b ((w.alloc (.cells #[.int .u64 a.x0,.int .u64 a.x1,.int .u64 a.x2,.int .u64 a.x3,.int .u64 a.x4] 66)).alloc (.cells #[.int .u64 b.x0,.int .u64 b.x1,.int .u64 b.x2,.int .u64 b.x3,.int .u64 b.x4] 66)).drew:=
    Mg ((aG.new w [.int .u64 a.x0,.int .u64 a.x1,.int .u64 a.x2,.int .u64 a.x3,.int .u64 a.x4] _).alloc _).drew (aG.newAt (w.alloc _) [.int .u64 b.x0,.int .u64 b.x1,.int .u64 b.x2,.int .u64 b.x3,.int .u64 b.x4] _ (by simp)).drew (aZ (au (au (ah _ _) _) _))
  revert hS0
  generalize (w.alloc (.cells #[.int .u64 a.x0,.int .u64 a.x1,.int .u64 a.x2,.int .u64 a.x3,.int .u64 a.x4] 66)).alloc (.cells #[.int .u64 b.x0,.int .u64 b.x1,.int .u64 b.x2,.int .u64 b.x3,.int .u64 b.x4] 66)=W0
  intro hS0
  go_region_held3 (fun w'=>aG w' w.heap.size 66 [.int .u64 a.x0,.int .u64 a.x1,.int .u64 a.x2,.int .u64 a.x3,.int .u64 a.x4]/\aG w' (w.heap.size+1) 66 [.int .u64 b.x0,.int .u64 b.x1,.int .u64 b.x2,.int .u64 b.x3,.int .u64 b.x4]/\w.grownBy w' none/\w'.cell? ⟨w.heap.size,0,none⟩=some (.int .u64 a.x0)/\w'.cell? ⟨w.heap.size,1,none⟩=some (.int .u64 a.x1)/\w'.cell? ⟨w.heap.size,2,none⟩=some (.int .u64 a.x2)/\w'.cell? ⟨w.heap.size,3,none⟩=some (.int .u64 a.x3)/\w'.cell? ⟨w.heap.size,4,none⟩=some (.int .u64 a.x4)/\w'.cell? ⟨w.heap.size+1,0,none⟩=some (.int .u64 b.x0)/\w'.cell? ⟨w.heap.size+1,1,none⟩=some (.int .u64 b.x1)/\w'.cell? ⟨w.heap.size+1,2,none⟩=some (.int .u64 b.x2)/\w'.cell? ⟨w.heap.size+1,3,none⟩=some (.int .u64 b.x3)/\w'.cell? ⟨w.heap.size+1,4,none⟩=some (.int .u64 b.x4))
    (first|(with_reducible exact hS0)|(with_reducible exact OE (by assumption) (by assumption)))
    (first|(go_simp;go_at_call 107;refine (rM _ _ ?_).mono ?_;assumption;rintro e w1 ⟨rfl,hg1⟩))
  go_wp2
  clear hE
  go_ret
  refine⟨rfl,?_⟩
  with_reducible exact (show RD w a b _ from (by assumption)).2.2.1
theorem YR:Fe.m ⟨0,0,0,0,0⟩=0:=by decide +kernel
theorem VD:Fe.Ok ⟨0,0,0,0,0⟩:=by constructor<;>decide
set_option maxHeartbeats 400000 in
theorem RF (a:Fe) (w:World) (ha:a.Ok):
    Calls Tryz.prog 154 #[.agg #[.int .u64 a.x0,.int .u64 a.x1,.int .u64 a.x2,.int .u64 a.x3,.int .u64 a.x4]] w fun e w'=>e=.returned (.bool (decide (Fe.m a=0)))/\w.grownBy w' none:=by
  have hg0:∀c0,w.grownBy (w.alloc c0) none:=fun c0=>au (ah _ _) _
  go_enter Tryz.func154,Tryz.ntmps154
  go_wp2_with (go_at_call 118;refine (Ab a ⟨0,0,0,0,0⟩ _ ha VD).mono ?_;rintro e w1 ⟨rfl,hg1⟩)
  go_ret
  exact⟨by rw[YR];rfl,aj (hg0 _) hg1⟩
theorem RG (x:Int) (_:0<=x):(bits .and .u8 (x%256) 1==1)=decide (x%2=1):=by
  have all:∀j:Fin 256,(bits .and .u8 (j.val:Int) 1==1)=decide ((j.val:Int)%2=1):=by decide +kernel
  obtain⟨n,hn⟩:=Int.eq_ofNat_of_zero_le (show 0<=x%256 by omega)
  have h1:(bits .and .u8 (n:Int) 1==1)=decide ((n:Int)%2=1):=all ⟨n,by omega⟩
  have e:(n:Int)%2=x%2:=by omega
  rw[hn,h1,e]
set_option maxHeartbeats 400000 in
theorem VE (a:Fe) (w:World) (ha:a.Ok):
    Calls Tryz.prog 83 #[.agg #[.int .u64 a.x0,.int .u64 a.x1,.int .u64 a.x2,.int .u64 a.x3,.int .u64 a.x4]] w fun e w'=>e=.returned (.bool (decide (Fe.m a%2=1)))/\w.grownBy w' none:=by
  have hg0:∀c0,w.grownBy (w.alloc c0) none:=fun c0=>au (ah _ _) _
  have hi:∀w,(Instr.index 166 (.agg (dh (Fe.m a)).toArray) (.int .i64 0)).run Tryz.prog w=.ok (.int .u8 ((Fe.m a:Int)/1%256)) w:=fun _=>by kernel_rfl
  simp only[Int.ediv_one]at hi
  have ho:=RG (Fe.m a) (OC a).1
  go_enter Tryz.func83,Tryz.ntmps83
  go_wp2_with (go_at_call 107;refine (rM a _ ha).mono ?_;rintro e w1 ⟨rfl,hg1⟩)
  clear ho hi
  go_ret
  refine⟨?_,aj (hg0 _) hg1⟩
  have e:decide ((Fe.m a:Int)%2=1)=decide (Fe.m a%2=1):=by
    rw[Bool.eq_iff_iff,decide_eq_true_iff,decide_eq_true_iff];omega
  rw[<- e];rfl
set_option maxHeartbeats 400000 in
theorem zo (a:Fe) (w:World) (ha:a.Ok):
    Calls Tryz.prog 81 #[.agg #[.int .u64 a.x0,.int .u64 a.x1,.int .u64 a.x2,.int .u64 a.x3,.int .u64 a.x4]] w fun e w'=>∃NB,e=.returned (.slice (some ⟨NB,0,none⟩) 32 32)/\w.grownBy w' none/\w.heap.size<=NB/\aG w' NB 166 (dh (Fe.m a)):=by
  have hg0:∀c0,w.grownBy (w.alloc c0) none:=fun c0=>au (ah _ _) _
  obtain⟨X,hX⟩:∃X,X=dh (Fe.m a):=⟨_,rfl⟩
  have hXl:X.length=32:=by rw[hX];rfl
  have hX1:X.toArray.all (·.oneCell')=true:=by rw[hX];exact Aa _
  have HX:=Lib.hid (And.intro hX (And.intro hXl hX1));clear hX hXl hX1
  go_enter Tryz.func81,Tryz.ntmps81
  go_wp2_with fail
  refine (rM a _ ha).mono ?_
  rintro e w1 ⟨rfl,hg1⟩
  rw[<- HX.out.1]
  go_wp2_with (refine wpList_store_row rfl 166 (.tmp 3) (.tmp 5) rfl w1.heap.size X.toArray rfl rfl 166 lK.toArray (aG.new w1 lK 166) (by rw[List.size_toArray,HX.out.2.1];exact vW) (by rw[List.size_toArray,List.size_toArray,HX.out.2.1];rfl) HX.out.2.2 ?_)
  have hb:=(aG.new w1 lK 166).row X
  rw[HX.out.1]at hb
  go_ret
  exact⟨w1.heap.size,rfl,pW (au (aj (hg0 _) hg1) _) (Nat.le_trans (hg0 (.cells #[] 0)).size (Nat.le_trans (by simp) hg1.size)) _,by have:=hg1.size;simp at this;omega,by rw[HX.out.1];exact hb⟩
end
section
open Go.RowKit
theorem lC (a b:Fe) (w:World) (ha:a.Ok) (hb:b.Ok):Calls Tryz.prog 82 #[.agg #[.int .u64 a.x0,.int .u64 a.x1,.int .u64 a.x2,.int .u64 a.x3,.int .u64 a.x4],.agg #[.int .u64 b.x0,.int .u64 b.x1,.int .u64 b.x2,.int .u64 b.x3,.int .u64 b.x4]] w (nN (Fe.aM a b) w):=
 Vx a.x0 a.x1 a.x2 a.x3 a.x4 b.x0 b.x1 b.x2 b.x3 b.x4 w ha.n0 ha.l0 ha.n1 ha.l1 ha.n2 ha.l2 ha.n3 ha.l3 ha.n4 ha.l4 hb.n0 hb.l0 hb.n1 hb.l1 hb.n2 hb.l2 hb.n3 hb.l3 hb.n4 hb.l4
theorem vY (a:Fe) (w:World) (ha:a.Ok):Calls Tryz.prog 105 #[.agg #[.int .u64 a.x0,.int .u64 a.x1,.int .u64 a.x2,.int .u64 a.x3,.int .u64 a.x4]] w (nN (Fe.bZ a) w):=
 YN a.x0 a.x1 a.x2 a.x3 a.x4 w ha.n0 ha.l0 ha.n1 ha.l1 ha.n2 ha.l2 ha.n3 ha.l3 ha.n4 ha.l4
def RH:Nat->Fe->Fe
 | 0,p=>p
 | n+1,p=>Fe.bZ (RH n p)
theorem YS {p:Fe} (h:p.Ok) (n:Nat):(RH n p).Ok:=by
 cases n with
 | zero=>exact h
 | succ n=>exact (Fe.dO _).ok
def lU (n:Nat) (p b:Fe):Fe:=Fe.aM (RH n p) b
def aQ (a:Fe):List Value:=[.int .u64 a.x0,.int .u64 a.x1,.int .u64 a.x2,.int .u64 a.x3,.int .u64 a.x4]
set_option maxHeartbeats 400000 in
theorem J8 (a:Fe) (w:World):
  Calls Tryz.prog 134 #[.agg #[.int .u64 a.x0,.int .u64 a.x1,.int .u64 a.x2,.int .u64 a.x3,.int .u64 a.x4]] w fun e w'=>e=.returned (.func (.func 150) #[] #[.pointer (some ⟨w.heap.size+1,0,none⟩)])/\w.grownBy w' none/\aG w' (w.heap.size+1) 66 (aQ a):=by
 have hmf:∀(fn:Fn) (first cap:Array Value) (w:World),(Instr.makeFunc fn first cap).run Tryz.prog w=.ok (.func fn first cap) w:=fun _ _ _ _=>rfl
 go_enter Tryz.func134,Tryz.ntmps134
 go_wp2
 go_ret
 exact⟨rfl,au (au (ah _ _) _) _,aG.newAt (w.alloc _) (aQ a) _ (by simp)⟩
set_option maxHeartbeats 1600000 in
theorem ji (C n:Nat) (p b:Fe) (w:World) (hn:n<=1000) (hp:p.Ok) (hb:b.Ok) (hC:aG w C 66 (aQ p)):
  Calls Tryz.prog 150 #[.int .i64 n,.agg #[.int .u64 b.x0,.int .u64 b.x1,.int .u64 b.x2,.int .u64 b.x3,.int .u64 b.x4],.pointer (some ⟨C,0,none⟩)] w fun e w'=>∃r:Fe,Hid (r=lU n p b)/\e=.returned (.agg #[.int .u64 r.x0,.int .u64 r.x1,.int .u64 r.x2,.int .u64 r.x3,.int .u64 r.x4])/\w.grownBy w' (some C)/\aG w' C 66 (aQ r):=by
 have hlt:=hC.lt
 go_enter Tryz.func150,Tryz.ntmps150
 go_wp2
 go_loopw [7] (fun i wr=>∃k:Nat,k<=n/\i=.int .i64 k/\w.grownBy wr (some C)/\aG wr C 66 (aQ (RH k p))/\aG wr w.heap.size 66 (aQ b)/\fK wr (w.heap.size+1) 66) (fun i _=>n-(intOf i).toNat)
 case atStart=>exact⟨0,by omega,rfl,au (au (ah _ _) _) _,(hC.alloc _).alloc _,(aG.new w (aQ b) _).alloc _,⟨_,_,_,_,_,aG.newAt _ [.int .u64 0,.int .u64 0,.int .u64 0,.int .u64 0,.int .u64 0] _ (by simp)⟩⟩
 case round=>
  obtain⟨k,hk,rfl,hg,hP,hB,hR⟩:=hrel
  have hok:=YS hp k
  by_cases hlt2:k<n
  .have hs:Hid (RH (k+1) p=Fe.bZ (RH k p)):=Lib.hid rfl
   obtain⟨q,hq⟩:∃q,q=RH k p:=⟨_,rfl⟩
   rw[<- hq]at hP hok
   have HQ:=Lib.hid hq;clear hq
   have z0:=hP.cell (i:=0) rfl;have z1:=hP.cell (i:=1) rfl;have z2:=hP.cell (i:=2) rfl;have z3:=hP.cell (i:=3) rfl;have z4:=hP.cell (i:=4) rfl
   go_wp2_with (go_at_call 105;refine (vY q _ hok).mono ?_;rintro e w1 ⟨r,hr,rfl,hg1⟩;have hP1:=hP.grown hg1 (by simp);have y0:=hP1.cell (i:=0) rfl;have y1:=hP1.cell (i:=1) rfl;have y2:=hP1.cell (i:=2) rfl;have y3:=hP1.cell (i:=3) rfl;have y4:=hP1.cell (i:=4) rfl;have f0:=hP1.free 0;have f1:=hP1.free 1;have f2:=hP1.free 2;have f3:=hP1.free 3;have f4:=hP1.free 4)
   go_roundw
   case rel=>
    refine⟨k+1,by omega,by go_num,aS (aS (aS (aS (aS (aj hg (fP hg1 _)) _ _) _ _) _ _) _ _) _ _,?_,?_,?_⟩
    .have:=fK.rJ ⟨_,_,_,_,_,hP1⟩ (.int .u64 r.x0) (.int .u64 r.x1) (.int .u64 r.x2) (.int .u64 r.x3) (.int .u64 r.x4)
     rw[hs.out,<- HQ.out,<- hr.out]
     exact this
    .exact (((((hB.grown hg1 (by simp)).other (by simp;omega) _).other (by simp;omega) _).other (by simp;omega) _).other (by simp;omega) _).other (by simp;omega) _
    .exact bU (bU (bU (bU (bU (hR.grown hg1 (by simp)) (by simp;omega) _) (by simp;omega) _) (by simp;omega) _) (by simp;omega) _) (by simp;omega) _
   case measure=>simp[intOf];omega
  .obtain rfl:k=n:=by omega
   obtain⟨q,hq⟩:∃q,q=RH k p:=⟨_,rfl⟩
   rw[<- hq]at hP hok
   have HQ:=Lib.hid hq;clear hq
   have z0:=hP.cell (i:=0) rfl;have z1:=hP.cell (i:=1) rfl;have z2:=hP.cell (i:=2) rfl;have z3:=hP.cell (i:=3) rfl;have z4:=hP.cell (i:=4) rfl
   have v0:=hB.cell (i:=0) rfl;have v1:=hB.cell (i:=1) rfl;have v2:=hB.cell (i:=2) rfl;have v3:=hB.cell (i:=3) rfl;have v4:=hB.cell (i:=4) rfl
   go_wp2_with (go_at_call 82;refine (lC q b _ hok hb).mono ?_;rintro e w1 ⟨r,hr,rfl,hg1⟩;have hP1:=hP.grown hg1 (by simp);have y0:=hP1.cell (i:=0) rfl;have y1:=hP1.cell (i:=1) rfl;have y2:=hP1.cell (i:=2) rfl;have y3:=hP1.cell (i:=3) rfl;have y4:=hP1.cell (i:=4) rfl;have f0:=hP1.free 0;have f1:=hP1.free 1;have f2:=hP1.free 2;have f3:=hP1.free 3;have f4:=hP1.free 4;obtain⟨u0,u1,u2,u3,u4,kC⟩:=hR.grown hg1 (by simp);have t0:=kC.cell (i:=0) rfl;have t1:=kC.cell (i:=1) rfl;have t2:=kC.cell (i:=2) rfl;have t3:=kC.cell (i:=3) rfl;have t4:=kC.cell (i:=4) rfl;have g0:=kC.free 0;have g1:=kC.free 1;have g2:=kC.free 2;have g3:=kC.free 3;have g4:=kC.free 4)
   refine bodyPost_ret (v:=.agg #[.int .u64 r.x0,.int .u64 r.x1,.int .u64 r.x2,.int .u64 r.x3,.int .u64 r.x4]) ?_ rfl ⟨r,?_,rfl,?_,?_⟩
   .simp[results,Tryz.results150,go_sem,t0,t1,t2,t3,t4]
   .have e:=hr.out
    rw[HQ.out]at e
    exact e
   .exact aJ (aJ (aJ (aJ (aJ (aS (aS (aS (aS (aS (aj hg (fP hg1 _)) _ _) _ _) _ _) _ _) _ _) (by simp) _) (by simp) _) (by simp) _) (by simp) _) (by simp) _
   .exact (((((fK.rJ ⟨_,_,_,_,_,hP1⟩ (.int .u64 r.x0) (.int .u64 r.x1) (.int .u64 r.x2) (.int .u64 r.x3) (.int .u64 r.x4)).other (by simp;omega) _).other (by simp;omega) _).other (by simp;omega) _).other (by simp;omega) _).other (by simp;omega) _
end
section
open Go.RowKit
def Mh (a:Fe):Fe:=lU 1 a a
def RI (a:Fe):Fe:=lU 2 (Mh a) (Mh a)
def Mi (a:Fe):Fe:=lU 1 (RI a) a
def Ga (a:Fe):Fe:=lU 5 (Mi a) (Mi a)
def Mj (a:Fe):Fe:=lU 10 (Ga a) (Ga a)
def RJ (a:Fe):Fe:=lU 20 (Mj a) (Mj a)
def Gb (a:Fe):Fe:=lU 10 (RJ a) (Ga a)
def Mk (a:Fe):Fe:=lU 50 (Gb a) (Gb a)
def RL (a:Fe):Fe:=lU 100 (Mk a) (Mk a)
def xO (a:Fe):Fe:=lU 50 (RL a) (Gb a)
theorem iO (n:Nat) (p b:Fe):(lU n p b).Ok:=(Fe.mul_right _ _).ok
set_option maxRecDepth 100000 in
set_option maxHeartbeats 1600000 in
theorem vZ (a:Fe) (w:World) (ha:a.Ok):
  Calls Tryz.prog 106 #[.agg #[.int .u64 a.x0,.int .u64 a.x1,.int .u64 a.x2,.int .u64 a.x3,.int .u64 a.x4]] w fun e w'=>∃(C:Nat) (r:Fe),Hid (r=xO a)/\e=.returned (.func (.func 150) #[] #[.pointer (some ⟨C,0,none⟩)])/\w.grownBy w' none/\w.heap.size<=C/\aG w' C 66 (aQ r):=by
 go_enter Tryz.func106,Tryz.ntmps106
 have Vf:aG (w.alloc (.cells #[.int .u64 a.x0,.int .u64 a.x1,.int .u64 a.x2,.int .u64 a.x3,.int .u64 a.x4] 66)) w.heap.size 66 (aQ a):=aG.new w (aQ a) _
 go_wp2_with fail
 refine (J8 a _).mono ?_
 rintro e v0 ⟨rfl,hg0,Vg⟩
 have hsz:(w.alloc (.cells #[.int .u64 a.x0,.int .u64 a.x1,.int .u64 a.x2,.int .u64 a.x3,.int .u64 a.x4] 66)).heap.size=w.heap.size+1:=by simp
 rw[hsz]at Vg
 clear hsz
 have G0:=aj (au (ah w none) _) hg0
 have J9:=Vf.grown hg0 (by simp)
 have lt0:=Vg.lt
 clear Vf hg0
 have cA0:=J9.cell (i:=0) rfl
 have cA1:=J9.cell (i:=1) rfl
 have cA2:=J9.cell (i:=2) rfl
 have cA3:=J9.cell (i:=3) rfl
 have cA4:=J9.cell (i:=4) rfl
 go_wp2_with fail
 refine (ji (w.heap.size+1+1) 1 a a _ (by decide) ha ha Vg).mono ?_
 rintro e v1 ⟨r1,hr1,rfl,hg1,hP1⟩
 have G1:=aX G0 hg1 (by omega)
 have lt1:=hP1.lt
 have ok1:r1.Ok:=by rw[hr1.out];exact iO _ _ _
 have XU:=J9.grown hg1 (bJ (by omega))
 clear hg1 G0 Vg J9
 clear cA0 cA1 cA2 cA3 cA4
 have VF:aG (v1.alloc (.cells #[.int .u64 r1.x0,.int .u64 r1.x1,.int .u64 r1.x2,.int .u64 r1.x3,.int .u64 r1.x4] 66)) v1.heap.size 66 (aQ r1):=aG.new v1 (aQ r1) _
 go_wp2_with fail
 refine (ji (w.heap.size+1+1) 2 r1 r1 _ (by decide) ok1 ok1 (hP1.alloc _)).mono ?_
 rintro e v2 ⟨r2,hr2,rfl,hg2,hP2⟩
 have G2:=aX (au G1 _) hg2 (by omega)
 have lt2:=hP2.lt
 have ok2:r2.Ok:=by rw[hr2.out];exact iO _ _ _
 have CY:=(XU.alloc _).grown hg2 (bJ (by omega))
 clear hg2 G1 hP1 XU VF
 skip
 have afU:=CY.cell (i:=0) rfl
 have afV:=CY.cell (i:=1) rfl
 have afW:=CY.cell (i:=2) rfl
 have afX:=CY.cell (i:=3) rfl
 have afY:=CY.cell (i:=4) rfl
 go_wp2_with fail
 refine (ji (w.heap.size+1+1) 1 r2 a _ (by decide) ok2 ha hP2).mono ?_
 rintro e v3 ⟨r3,hr3,rfl,hg3,hP3⟩
 have G3:=aX G2 hg3 (by omega)
 have lt3:=hP3.lt
 have ok3:r3.Ok:=by rw[hr3.out];exact iO _ _ _
 clear hg3 G2 hP2 CY
 clear afU afV afW afX afY
 have RN:aG (v3.alloc (.cells #[.int .u64 r3.x0,.int .u64 r3.x1,.int .u64 r3.x2,.int .u64 r3.x3,.int .u64 r3.x4] 66)) v3.heap.size 66 (aQ r3):=aG.new v3 (aQ r3) _
 go_wp2_with fail
 refine (ji (w.heap.size+1+1) 5 r3 r3 _ (by decide) ok3 ok3 (hP3.alloc _)).mono ?_
 rintro e v4 ⟨r4,hr4,rfl,hg4,hP4⟩
 have G4:=aX (au G3 _) hg4 (by omega)
 have lt4:=hP4.lt
 have ok4:r4.Ok:=by rw[hr4.out];exact iO _ _ _
 clear hg4 G3 hP3 RN
 skip
 have Ml:aG (v4.alloc (.cells #[.int .u64 r4.x0,.int .u64 r4.x1,.int .u64 r4.x2,.int .u64 r4.x3,.int .u64 r4.x4] 66)) v4.heap.size 66 (aQ r4):=aG.new v4 (aQ r4) _
 go_wp2_with fail
 refine (ji (w.heap.size+1+1) 10 r4 r4 _ (by decide) ok4 ok4 (hP4.alloc _)).mono ?_
 rintro e v5 ⟨r5,Cj,rfl,hg5,hP5⟩
 have G5:=aX (au G4 _) hg5 (by omega)
 have lt5:=hP5.lt
 have ok5:r5.Ok:=by rw[Cj.out];exact iO _ _ _
 have Mq:=Ml.grown hg5 (bJ (by omega))
 clear hg5 G4 hP4 Ml
 skip
 have Ka:aG (v5.alloc (.cells #[.int .u64 r5.x0,.int .u64 r5.x1,.int .u64 r5.x2,.int .u64 r5.x3,.int .u64 r5.x4] 66)) v5.heap.size 66 (aQ r5):=aG.new v5 (aQ r5) _
 go_wp2_with fail
 refine (ji (w.heap.size+1+1) 20 r5 r5 _ (by decide) ok5 ok5 (hP5.alloc _)).mono ?_
 rintro e v6 ⟨r6,hr6,rfl,uD,hP6⟩
 have G6:=aX (au G5 _) uD (by omega)
 have lt6:=hP6.lt
 have ok6:r6.Ok:=by rw[hr6.out];exact iO _ _ _
 have tC:=(Mq.alloc _).grown uD (bJ (by omega))
 clear uD G5 hP5 Mq Ka
 skip
 have af2:=tC.cell (i:=0) rfl
 have af3:=tC.cell (i:=1) rfl
 have af4:=tC.cell (i:=2) rfl
 have af5:=tC.cell (i:=3) rfl
 have af6:=tC.cell (i:=4) rfl
 go_wp2_with fail
 refine (ji (w.heap.size+1+1) 10 r6 r4 _ (by decide) ok6 ok4 hP6).mono ?_
 rintro e v7 ⟨r7,hr7,rfl,J6,hP7⟩
 have G7:=aX G6 J6 (by omega)
 have lt7:=hP7.lt
 have ok7:r7.Ok:=by rw[hr7.out];exact iO _ _ _
 clear J6 G6 hP6 tC
 clear af2 af3 af4 af5 af6
 have CZ:aG (v7.alloc (.cells #[.int .u64 r7.x0,.int .u64 r7.x1,.int .u64 r7.x2,.int .u64 r7.x3,.int .u64 r7.x4] 66)) v7.heap.size 66 (aQ r7):=aG.new v7 (aQ r7) _
 go_wp2_with fail
 refine (ji (w.heap.size+1+1) 50 r7 r7 _ (by decide) ok7 ok7 (hP7.alloc _)).mono ?_
 rintro e v8 ⟨r8,hr8,rfl,hg8,hP8⟩
 have G8:=aX (au G7 _) hg8 (by omega)
 have lt8:=hP8.lt
 have ok8:r8.Ok:=by rw[hr8.out];exact iO _ _ _
 have C8:=CZ.grown hg8 (bJ (by omega))
 clear hg8 G7 hP7 CZ
 skip
 have Gc:aG (v8.alloc (.cells #[.int .u64 r8.x0,.int .u64 r8.x1,.int .u64 r8.x2,.int .u64 r8.x3,.int .u64 r8.x4] 66)) v8.heap.size 66 (aQ r8):=aG.new v8 (aQ r8) _
 go_wp2_with fail
 refine (ji (w.heap.size+1+1) 100 r8 r8 _ (by decide) ok8 ok8 (hP8.alloc _)).mono ?_
 rintro e v9 ⟨r9,hr9,rfl,hg9,hP9⟩
 have G9:=aX (au G8 _) hg9 (by omega)
 have lt9:=hP9.lt
 have ok9:r9.Ok:=by rw[hr9.out];exact iO _ _ _
 have nA:=(C8.alloc _).grown hg9 (bJ (by omega))
 clear hg9 G8 hP8 C8 Gc
 skip
 have agc:=nA.cell (i:=0) rfl
 have agd:=nA.cell (i:=1) rfl
 have agf:=nA.cell (i:=2) rfl
 have agh:=nA.cell (i:=3) rfl
 have agi:=nA.cell (i:=4) rfl
 go_wp2_with fail
 refine (ji (w.heap.size+1+1) 50 r9 r7 _ (by decide) ok9 ok7 hP9).mono ?_
 rintro e v10 ⟨r10,abx,rfl,Gf,aby⟩
 have G10:=aX G9 Gf (by omega)
 have alp:=aby.lt
 have alq:r10.Ok:=by rw[abx.out];exact iO _ _ _
 clear Gf G9 hP9 nA
 clear agc agd agf agh agi
 go_wp2_with fail
 skip
 go_ret
 have e1:r1=Mh a:=hr1.out
 have e2:r2=RI a:=by rw[hr2.out,e1];rfl
 have e3:r3=Mi a:=by rw[hr3.out,e2];rfl
 have e4:r4=Ga a:=by rw[hr4.out,e3];rfl
 have e5:r5=Mj a:=by rw[Cj.out,e4];rfl
 have e6:r6=RJ a:=by rw[hr6.out,e5];rfl
 have e7:r7=Gb a:=by rw[hr7.out,e6,e4];rfl
 have e8:r8=Mk a:=by rw[hr8.out,e7];rfl
 have e9:r9=RL a:=by rw[hr9.out,e8];rfl
 have e10:r10=xO a:=by rw[abx.out,e9,e7];rfl
 exact⟨_,r10,Lib.hid e10,rfl,G10,by omega,aby⟩
end
section
open Go.RowKit
inductive Item where
 | any
 | val (x:Value)
 | ptr
def Cm (w0:World) (env:List (Nat×Fe)) (B:Nat):Prop:=w0.heap.size<=B/\∀p∈env,p.1≠B
def Item.holds (K:Nat->Prop):Item->Value->World->Prop
 | .any,_,_=>True
 | .val x,v,_=>v=x
 | .ptr,v,w=>∃Bn,v=.pointer (some ⟨Bn,0,none⟩)/\fK w Bn 66/\K Bn
def rO (K:Nat->Prop) (L:List Item) (d:Nat) (v:Value) (w:World):Prop:=(L.getD d .any).holds K v w
def jO (w:World) (B:Nat) (r:Fe):World:=
 ((((w.setCell ⟨B,0,none⟩ (.int .u64 r.x0)).setCell ⟨B,1,none⟩ (.int .u64 r.x1)).setCell ⟨B,2,none⟩ (.int .u64 r.x2)).setCell ⟨B,3,none⟩ (.int .u64 r.x3)).setCell ⟨B,4,none⟩ (.int .u64 r.x4)
def Gg (r:Fe) (w w':World):Prop:=w.grownBy w' none\/∃Bn,w'=jO w Bn r/\fK w Bn 66
theorem gI (r:Fe) (w:World):Gg r w w:=Or.inl (ah _ _)
theorem Ac {w:World} {B:Nat} {r:Fe} {T:TypeId} (h:fK w B T) (C:Nat):fK (jO w C r) B T:=by
 by_cases e:C=B
 .subst e;exact⟨_,_,_,_,_,h.rJ _ _ _ _ _⟩
 .exact bU (bU (bU (bU (bU h e _) e _) e _) e _) e _
theorem yM {w:World} {B C:Nat} {r:Fe} {T:TypeId} {L:List Value} (h:aG w B T L) (e:C≠B):aG (jO w C r) B T L:=
 ((((h.other e _).other e _).other e _).other e _).other e _
theorem jF {w:World} {B:Nat} {r:Fe} {T:TypeId} (h:fK w B T):aG (jO w B r) B T (aQ r):=h.rJ _ _ _ _ _
theorem nP (K:Nat->Prop) (L:List Item) (r:Fe) (d:Nat) (v:Value) (w w':World) (hR:Gg r w w') (h:rO K L d v w):rO K L d v w':=by
 unfold rO at *
 cases hx:L.getD d .any with
 | any=>trivial
 | val x=>rw[hx]at h;exact h
 | ptr=>
  rw[hx]at h
  obtain⟨Bn,hv,hr,hN⟩:=h
  refine⟨Bn,hv,?_,hN⟩
  rcases hR with hg |⟨C,rfl,_⟩
  .exact hr.grown hg (by simp)
  .exact Ac hr C
def Stored (K:Nat->Prop) (r:Fe) (_:Nat) (u:Value) (w:World):Prop:=∃Bn,u=.pointer (some ⟨Bn,0,none⟩)/\K Bn/\aG w Bn 66 (aQ r)
theorem lV (K:Nat->Prop) (r:Fe) (j:Nat) (u:Value) (w w':World) (hR:Gg r w w') (h:Stored K r j u w):Stored K r j u w':=by
 obtain⟨Bn,hu,hN,hb⟩:=h
 refine⟨Bn,hu,hN,?_⟩
 rcases hR with hg |⟨C,rfl,hr⟩
 .exact hb.grown hg (by simp)
 .by_cases e:C=Bn
  .subst e;exact jF hr
  .exact yM hb e
structure mJ (w0:World) (N:Nat) (env:List (Nat×Fe)) (wh:List Nat) (w:World):Prop where
 g:w0.grownBy w none
 e:∀p∈env,aG w p.1 66 (aQ p.2)
 r:∀B∈wh,fK w B 66
 n:∀p∈env,p.1<N
 l:N<=w.heap.size
 m:w0.heap.size<=N
theorem mJ.grown {w0:World} {N:Nat} {env:List (Nat×Fe)} {wh:List Nat} {w w':World} (h:mJ w0 N env wh w) (hg:w.grownBy w' none):mJ w0 N env wh w':=
 ⟨aj h.g hg,fun p hp=>(h.e p hp).grown hg (by simp),fun B hB=>(h.r B hB).grown hg (by simp),h.n,Nat.le_trans h.l hg.size,h.m⟩
theorem mJ.set {w0:World} {N:Nat} {env:List (Nat×Fe)} {wh:List Nat} {w:World} (h:mJ w0 N env wh w) {B:Nat} (hB:Cm w0 env B) (r:Fe):mJ w0 N env wh (jO w B r):=
 ⟨jv h.g hB.1 _ _ _ _ _,fun p hp=>yM (h.e p hp) (Ne.symm (hB.2 p hp)),fun C hC=>Ac (h.r C hC) B,h.n,by show N<=_;have:=h.l;simpa[jO,World.setCell] using this,h.m⟩
theorem mJ.fresh {w0:World} {N:Nat} {env:List (Nat×Fe)} {wh:List Nat} {w:World} (h:mJ w0 N env wh w):Cm w0 env w.heap.size:=
 ⟨Nat.le_trans h.m h.l,fun p hp=>by have:=h.n p hp;have:=h.l;omega⟩
def yG (a:Act):Nat->List Value->Prop
 | _,[]=>True
 | i,v:: r=>a.tmps.getD i undef=v/\yG a (i+1) r
theorem xE {a:Act}:∀(vs:List Value) (i k:Nat) (v:Value),yG a i vs->vs[k]?=some v->a.tmps.getD (i+k) undef=v:=by
 intro vs
 induction vs with
 | nil=>intro i k v _ h;simp at h
 | cons x r ih=>
  intro i k v h hk
  cases k with
  | zero=>simp at hk;subst hk;exact h.1
  | succ k=>have:=ih (i+1) k v h.2 (by simpa using hk);rwa [show i+(k+1)=i+1+k by omega]
theorem gZ {a:Act} {vs:List Value} (hs:a.tmps.size=vs.length) (h:yG a 0 vs) (hd:a.defers=[]):a={tmps:=vs.toArray,defers:=[]}:=by
 have ht:a.tmps=vs.toArray:=by
  apply Array.ext_getElem?
  intro i
  by_cases hi:i<a.tmps.size
  .have h2:i<vs.length:=by omega
   have:=xE vs 0 i vs[i] h (List.getElem?_eq_getElem h2)
   rw[Nat.zero_add]at this
   simp[hi]at this
   rw[Array.getElem?_eq_getElem hi,this]
   simp[h2]
  .rw[Array.getElem?_eq_none (by omega),Array.getElem?_eq_none (by simp;omega)]
 cases a
 simp at ht hd
 rw[ht,hd]
theorem rQ (w:World):w.grownBy w.drew none:=aZ (ah _ _)
end
section
open Go.RowKit
set_option maxRecDepth 100000 in
set_option maxHeartbeats 1600000 in
theorem zT (p q s:Fe) (w0:World) (iP:p.Ok) (kG:q.Ok) (oks:s.Ok):
  Calls Tryz.prog 158 #[.agg #[.int .u64 p.x0,.int .u64 p.x1,.int .u64 p.x2,.int .u64 p.x3,.int .u64 p.x4],.agg #[.int .u64 q.x0,.int .u64 q.x1,.int .u64 q.x2,.int .u64 q.x3,.int .u64 q.x4],.agg #[.int .u64 s.x0,.int .u64 s.x1,.int .u64 s.x2,.int .u64 s.x3,.int .u64 s.x4]] w0 fun e w'=>e=.returned (.bool (decide (Fe.m (Fe.aM (Fe.bZ p) s)=Fe.m q)))/\w0.grownBy w' none:=by
 go_enter Tryz.func158,Tryz.ntmps158
 go_wp2
 have hB0:mJ w0 (w0.heap.size+3) [(w0.heap.size,p),((w0.heap.size+1),q),((w0.heap.size+1+1),s)] [] (((w0.alloc (.cells #[.int .u64 p.x0,.int .u64 p.x1,.int .u64 p.x2,.int .u64 p.x3,.int .u64 p.x4] 66)).alloc (.cells #[.int .u64 q.x0,.int .u64 q.x1,.int .u64 q.x2,.int .u64 q.x3,.int .u64 q.x4] 66)).alloc (.cells #[.int .u64 s.x0,.int .u64 s.x1,.int .u64 s.x2,.int .u64 s.x3,.int .u64 s.x4] 66)):=
  ⟨au (au (au (ah _ _) _) _) _,by
   intro p hp
   simp only[List.mem_cons,List.not_mem_nil,or_false]at hp
   rcases hp with rfl|rfl|rfl
   .exact ((aG.new w0 (aQ _) _).alloc _).alloc _
   .exact (aG.newAt (w0.alloc _) (aQ _) _ (by simp)).alloc _
   .exact aG.newAt _ (aQ _) _ (by simp),by simp,by intro p hp;simp only[List.mem_cons,List.not_mem_nil,or_false]at hp;rcases hp with rfl|rfl|rfl<;>simp only[]<;>omega,by simp,by omega⟩
 refine jh (rO (Cm w0 [(w0.heap.size,p),((w0.heap.size+1),q),((w0.heap.size+1+1),s)]) [.any,.any,.any,.any,.any,.any,.val (.bool (decide (Fe.m (Fe.aM (Fe.bZ p) s)=Fe.m q))),.val p.v,.val (Fe.bZ p).v,.val s.v,.val (Fe.aM (Fe.bZ p) s).v,.val q.v,.val (.bool (decide (Fe.m (Fe.aM (Fe.bZ p) s)=Fe.m q)))]) (fun j=>0) (Stored (Cm w0 [(w0.heap.size,p),((w0.heap.size+1),q),((w0.heap.size+1+1),s)]) (Fe.bL)) (mJ w0 (w0.heap.size+3) [(w0.heap.size,p),((w0.heap.size+1),q),((w0.heap.size+1+1),s)] []) (Gg (Fe.bL)) (by kernel_rfl) (by kernel_rfl) (by kernel_rfl) (hB0.grown (rQ _)) (fun d u w1 w2 hR h=>nP _ _ _ d u w1 w2 hR h) (fun j u w1 w2 hR h=>lV _ _ j u w1 w2 hR h) (by kernel_rfl) ?_ ?_
 .refine⟨cK rfl rfl fun a w h=>?_,?_⟩
  .have e3:_=Value.pointer (some ⟨w0.heap.size,0,none⟩):=h.r 3
   have hb:=h.base.e (w0.heap.size,p) (by simp)
   have c0:w.cell? ⟨w0.heap.size,0,none⟩=some (.int .u64 p.x0):=hb.cell (i:=0) rfl
   have c1:w.cell? ⟨w0.heap.size,1,none⟩=some (.int .u64 p.x1):=hb.cell (i:=1) rfl
   have c2:w.cell? ⟨w0.heap.size,2,none⟩=some (.int .u64 p.x2):=hb.cell (i:=2) rfl
   have c3:w.cell? ⟨w0.heap.size,3,none⟩=some (.int .u64 p.x3):=hb.cell (i:=3) rfl
   have c4:w.cell? ⟨w0.heap.size,4,none⟩=some (.int .u64 p.x4):=hb.cell (i:=4) rfl
   refine⟨.agg #[.int .u64 p.x0,.int .u64 p.x1,.int .u64 p.x2,.int .u64 p.x3,.int .u64 p.x4],w,?_,h.base,gI _ _,rfl⟩
   clear h hb
   simp only[execOp,Act.eval,e3]
   go_simp
  refine⟨gJ rfl rfl fun a w h=>?_,?_⟩
  .have e7:_=p.v:=h.d 7
   have e7x:a.tmps[7]?.getD undef=p.v:=by simpa using e7
   have hb:=h.base
   refine⟨105,#[p.v],?_,?_⟩
   .clear h hb e7
    go_simp
   .refine (vY p w iP).mono ?_
    intro e w1 hp
    obtain⟨rfl,hg⟩:=eH hp
    exact⟨_,rfl,hb.grown hg,Or.inl hg,rfl⟩
  refine⟨cK rfl rfl fun a w h=>?_,?_⟩
  .have e5:_=Value.pointer (some ⟨(w0.heap.size+1+1),0,none⟩):=h.r 5
   have hb:=h.base.e ((w0.heap.size+1+1),s) (by simp)
   have c0:w.cell? ⟨(w0.heap.size+1+1),0,none⟩=some (.int .u64 s.x0):=hb.cell (i:=0) rfl
   have c1:w.cell? ⟨(w0.heap.size+1+1),1,none⟩=some (.int .u64 s.x1):=hb.cell (i:=1) rfl
   have c2:w.cell? ⟨(w0.heap.size+1+1),2,none⟩=some (.int .u64 s.x2):=hb.cell (i:=2) rfl
   have c3:w.cell? ⟨(w0.heap.size+1+1),3,none⟩=some (.int .u64 s.x3):=hb.cell (i:=3) rfl
   have c4:w.cell? ⟨(w0.heap.size+1+1),4,none⟩=some (.int .u64 s.x4):=hb.cell (i:=4) rfl
   refine⟨.agg #[.int .u64 s.x0,.int .u64 s.x1,.int .u64 s.x2,.int .u64 s.x3,.int .u64 s.x4],w,?_,h.base,gI _ _,rfl⟩
   clear h hb
   simp only[execOp,Act.eval,e5]
   go_simp
  refine⟨gJ rfl rfl fun a w h=>?_,?_⟩
  .have e8:_=(Fe.bZ p).v:=h.d 8
   have e9:_=s.v:=h.d 9
   have e8x:a.tmps[8]?.getD undef=(Fe.bZ p).v:=by simpa using e8
   have e9x:a.tmps[9]?.getD undef=s.v:=by simpa using e9
   have hb:=h.base
   refine⟨82,#[(Fe.bZ p).v,s.v],?_,?_⟩
   .clear h hb e8 e9
    go_simp
   .refine (lC (Fe.bZ p) s w (Fe.dO _).ok oks).mono ?_
    intro e w1 hp
    obtain⟨rfl,hg⟩:=eH hp
    exact⟨_,rfl,hb.grown hg,Or.inl hg,rfl⟩
  refine⟨cK rfl rfl fun a w h=>?_,?_⟩
  .have e4:_=Value.pointer (some ⟨(w0.heap.size+1),0,none⟩):=h.r 4
   have hb:=h.base.e ((w0.heap.size+1),q) (by simp)
   have c0:w.cell? ⟨(w0.heap.size+1),0,none⟩=some (.int .u64 q.x0):=hb.cell (i:=0) rfl
   have c1:w.cell? ⟨(w0.heap.size+1),1,none⟩=some (.int .u64 q.x1):=hb.cell (i:=1) rfl
   have c2:w.cell? ⟨(w0.heap.size+1),2,none⟩=some (.int .u64 q.x2):=hb.cell (i:=2) rfl
   have c3:w.cell? ⟨(w0.heap.size+1),3,none⟩=some (.int .u64 q.x3):=hb.cell (i:=3) rfl
   have c4:w.cell? ⟨(w0.heap.size+1),4,none⟩=some (.int .u64 q.x4):=hb.cell (i:=4) rfl
   refine⟨.agg #[.int .u64 q.x0,.int .u64 q.x1,.int .u64 q.x2,.int .u64 q.x3,.int .u64 q.x4],w,?_,h.base,gI _ _,rfl⟩
   clear h hb
   simp only[execOp,Act.eval,e4]
   go_simp
  refine⟨gJ rfl rfl fun a w h=>?_,?_⟩
  .have e10:_=(Fe.aM (Fe.bZ p) s).v:=h.d 10
   have e11:_=q.v:=h.d 11
   have abz:a.tmps[10]?.getD undef=(Fe.aM (Fe.bZ p) s).v:=by simpa using e10
   have abA:a.tmps[11]?.getD undef=q.v:=by simpa using e11
   have hb:=h.base
   refine⟨118,#[(Fe.aM (Fe.bZ p) s).v,q.v],?_,?_⟩
   .clear h hb e10 e11
    go_simp
   .refine (Ab (Fe.aM (Fe.bZ p) s) q w (Fe.mul_right _ _).ok kG).mono ?_
    intro e w1 hp
    obtain⟨rfl,hg⟩:=hp
    exact⟨_,rfl,hb.grown hg,Or.inl hg,rfl⟩
  refine⟨cK rfl rfl fun a w h=>?_,?_⟩
  .have e12:_=Value.bool (decide (Fe.m (Fe.aM (Fe.bZ p) s)=Fe.m q)):=h.d 12
   refine⟨.bool (decide (Fe.m (Fe.aM (Fe.bZ p) s)=Fe.m q)),w,?_,h.base,gI _ _,rfl⟩
   clear h
   simp only[execOp,Act.eval,e12]
   go_simp
  trivial
 .intro a w1 hB hsz hdf hrest aC jN
  have hg:=hB.g
  obtain rfl:=gZ (a:=a) (vs:=[.agg #[.int .u64 p.x0,.int .u64 p.x1,.int .u64 p.x2,.int .u64 p.x3,.int .u64 p.x4],.agg #[.int .u64 q.x0,.int .u64 q.x1,.int .u64 q.x2,.int .u64 q.x3,.int .u64 q.x4],.agg #[.int .u64 s.x0,.int .u64 s.x1,.int .u64 s.x2,.int .u64 s.x3,.int .u64 s.x4],.pointer (some ⟨w0.heap.size,0,none⟩),.pointer (some ⟨w0.heap.size+1,0,none⟩),.pointer (some ⟨w0.heap.size+1+1,0,none⟩),.bool (decide (Fe.m (Fe.aM (Fe.bZ p) s)=Fe.m q)),p.v,(Fe.bZ p).v,s.v,(Fe.aM (Fe.bZ p) s).v,q.v,.bool (decide (Fe.m (Fe.aM (Fe.bZ p) s)=Fe.m q))]) hsz ⟨hrest 0 (by kernel_rfl),hrest 1 (by kernel_rfl),hrest 2 (by kernel_rfl),hrest 3 (by kernel_rfl),hrest 4 (by kernel_rfl),hrest 5 (by kernel_rfl),aC 6 (by kernel_rfl),aC 7 (by kernel_rfl),aC 8 (by kernel_rfl),aC 9 (by kernel_rfl),aC 10 (by kernel_rfl),aC 11 (by kernel_rfl),aC 12 (by kernel_rfl),trivial⟩ hdf
  clear hB hsz hdf hrest aC jN
  go_wp2
  go_ret
  exact⟨rfl,hg⟩
end
section
open Go.RowKit
def Ae (a:Fe):Fe:=lU 5 (xO a) (Fe.aM (Fe.bZ (Fe.bZ (Fe.bZ a))) (Fe.aM (Fe.bZ a) a))
set_option maxRecDepth 100000 in
set_option maxHeartbeats 1600000 in
theorem Kc (p:Fe) (w0:World) (iP:p.Ok):
  Calls Tryz.prog 80 #[.agg #[.int .u64 p.x0,.int .u64 p.x1,.int .u64 p.x2,.int .u64 p.x3,.int .u64 p.x4]] w0 (nN (Ae p) w0):=by
 have Vf:∀o,aG ((w0.alloc (.cells #[.int .u64 p.x0,.int .u64 p.x1,.int .u64 p.x2,.int .u64 p.x3,.int .u64 p.x4] 66)).alloc o) w0.heap.size 66 (aQ p):=fun o=>(aG.new w0 (aQ p) _).alloc o
 have hR0:fK ((w0.alloc (.cells #[.int .u64 p.x0,.int .u64 p.x1,.int .u64 p.x2,.int .u64 p.x3,.int .u64 p.x4] 66)).alloc (.cells #[.int .u64 0,.int .u64 0,.int .u64 0,.int .u64 0,.int .u64 0] 66)) (w0.heap.size+1) 66:=⟨_,_,_,_,_,aG.newAt _ [.int .u64 0,.int .u64 0,.int .u64 0,.int .u64 0,.int .u64 0] _ (by simp)⟩
 have hg0:∀c0 c1,w0.grownBy ((w0.alloc c0).alloc c1) none:=fun c0 c1=>au (au (ah _ _) _) _
 go_enter Tryz.func80,Tryz.ntmps80
 go_wp2_with fail
 refine (vY p _ iP).mono ?_
 rintro e v1 ⟨q1,hq1,rfl,hg1⟩
 have ok1:q1.Ok:=by rw[hq1.out];exact (Fe.dO _).ok
 have hA1:=(Vf _).grown hg1 (by simp)
 have kC:=hR0.grown hg1 (by simp)
 have G1:=aj (hg0 _ _) hg1
 clear Vf hR0 hg0 hg1
 go_wp2_with fail
 refine (vY q1 _ ok1).mono ?_
 rintro e v2 ⟨q2,hq2,rfl,hg2⟩
 have ok2:q2.Ok:=by rw[hq2.out];exact (Fe.dO _).ok
 have hA2:=hA1.grown hg2 (by simp)
 have hR2:=kC.grown hg2 (by simp)
 have G2:=aj G1 hg2
 clear hA1 kC G1 hg2
 go_wp2_with fail
 refine (vY q2 _ ok2).mono ?_
 rintro e v3 ⟨q3,hq3,rfl,hg3⟩
 have agk:q3.Ok:=by rw[hq3.out];exact (Fe.dO _).ok
 have hA3:=hA2.grown hg3 (by simp)
 have Me:=hR2.grown hg3 (by simp)
 have G3:=aj G2 hg3
 have hlt:=Me
 obtain⟨_,_,_,_,_,hlt⟩:=hlt
 have hlt:=hlt.lt
 clear hA2 hR2 G2 hg3
 have hB0:mJ w0 (v3.heap.size+1) [(w0.heap.size,p),(v3.heap.size,q3)] [(w0.heap.size+1)] (v3.alloc (.cells #[.int .u64 q3.x0,.int .u64 q3.x1,.int .u64 q3.x2,.int .u64 q3.x3,.int .u64 q3.x4] 66)):=
  ⟨au G3 _,by
   intro z hz
   simp only[List.mem_cons,List.not_mem_nil,or_false]at hz
   rcases hz with rfl|rfl
   .exact hA3.alloc _
   .exact aG.new v3 (aQ _) _,by
   intro B hB
   simp only[List.mem_cons,List.not_mem_nil,or_false]at hB
   subst hB
   exact Me.grown (World.grownBy_alloc _ _ none) (by simp),by intro z hz;simp only[List.mem_cons,List.not_mem_nil,or_false]at hz;rcases hz with rfl|rfl<;>simp only[]<;>omega,by simp,by omega⟩
 clear hA3 Me G3
 go_wp2_with fail
 refine jh (rO (Cm w0 [(w0.heap.size,p),(v3.heap.size,q3)]) [.any,.any,.any,.any,.ptr,.any,.any,.any,.any,.any,.val q3.v,.val p.v,.val (Fe.bZ p).v,.val p.v,.val (Fe.aM (Fe.bZ p) p).v,.val (Fe.aM q3 (Fe.aM (Fe.bZ p) p)).v,.any,.any,.any,.any,.any]) (fun j=>if j=7 then 4 else 0) (Stored (Cm w0 [(w0.heap.size,p),(v3.heap.size,q3)]) (Fe.aM q3 (Fe.aM (Fe.bZ p) p))) (mJ w0 (v3.heap.size+1) [(w0.heap.size,p),(v3.heap.size,q3)] [(w0.heap.size+1)]) (Gg (Fe.aM q3 (Fe.aM (Fe.bZ p) p))) (by kernel_rfl) (by kernel_rfl) (by kernel_rfl) (hB0.grown (rQ _)) (fun d u w1 w2 hR h=>nP _ _ _ d u w1 w2 hR h) (fun j u w1 w2 hR h=>lV _ _ j u w1 w2 hR h) (by kernel_rfl) ?_ ?_
 .refine⟨cK rfl rfl fun a w h=>?_,?_⟩
  .have e3:_=Value.pointer (some ⟨v3.heap.size,0,none⟩):=h.r 3
   have hb:=h.base.e (v3.heap.size,q3) (by simp)
   have c0:w.cell? ⟨v3.heap.size,0,none⟩=some (.int .u64 q3.x0):=hb.cell (i:=0) rfl
   have c1:w.cell? ⟨v3.heap.size,1,none⟩=some (.int .u64 q3.x1):=hb.cell (i:=1) rfl
   have c2:w.cell? ⟨v3.heap.size,2,none⟩=some (.int .u64 q3.x2):=hb.cell (i:=2) rfl
   have c3:w.cell? ⟨v3.heap.size,3,none⟩=some (.int .u64 q3.x3):=hb.cell (i:=3) rfl
   have c4:w.cell? ⟨v3.heap.size,4,none⟩=some (.int .u64 q3.x4):=hb.cell (i:=4) rfl
   refine⟨.agg #[.int .u64 q3.x0,.int .u64 q3.x1,.int .u64 q3.x2,.int .u64 q3.x3,.int .u64 q3.x4],w,?_,h.base,gI _ _,rfl⟩
   clear h hb
   simp only[execOp,Act.eval,e3]
   go_simp
  refine⟨cK rfl rfl fun a w h=>?_,?_⟩
  .have e1:_=Value.pointer (some ⟨w0.heap.size,0,none⟩):=h.r 1
   have hb:=h.base.e (w0.heap.size,p) (by simp)
   have c0:w.cell? ⟨w0.heap.size,0,none⟩=some (.int .u64 p.x0):=hb.cell (i:=0) rfl
   have c1:w.cell? ⟨w0.heap.size,1,none⟩=some (.int .u64 p.x1):=hb.cell (i:=1) rfl
   have c2:w.cell? ⟨w0.heap.size,2,none⟩=some (.int .u64 p.x2):=hb.cell (i:=2) rfl
   have c3:w.cell? ⟨w0.heap.size,3,none⟩=some (.int .u64 p.x3):=hb.cell (i:=3) rfl
   have c4:w.cell? ⟨w0.heap.size,4,none⟩=some (.int .u64 p.x4):=hb.cell (i:=4) rfl
   refine⟨.agg #[.int .u64 p.x0,.int .u64 p.x1,.int .u64 p.x2,.int .u64 p.x3,.int .u64 p.x4],w,?_,h.base,gI _ _,rfl⟩
   clear h hb
   simp only[execOp,Act.eval,e1]
   go_simp
  refine⟨gJ rfl rfl fun a w h=>?_,?_⟩
  .have e11:_=p.v:=h.d 11
   have abA:a.tmps[11]?.getD undef=p.v:=by simpa using e11
   have hb:=h.base
   refine⟨105,#[p.v],?_,?_⟩
   .clear h hb e11
    go_simp
   .refine (vY p w iP).mono ?_
    intro e w1 hp
    obtain⟨rfl,hg⟩:=eH hp
    exact⟨_,rfl,hb.grown hg,Or.inl hg,rfl⟩
  refine⟨cK rfl rfl fun a w h=>?_,?_⟩
  .have e1:_=Value.pointer (some ⟨w0.heap.size,0,none⟩):=h.r 1
   have hb:=h.base.e (w0.heap.size,p) (by simp)
   have c0:w.cell? ⟨w0.heap.size,0,none⟩=some (.int .u64 p.x0):=hb.cell (i:=0) rfl
   have c1:w.cell? ⟨w0.heap.size,1,none⟩=some (.int .u64 p.x1):=hb.cell (i:=1) rfl
   have c2:w.cell? ⟨w0.heap.size,2,none⟩=some (.int .u64 p.x2):=hb.cell (i:=2) rfl
   have c3:w.cell? ⟨w0.heap.size,3,none⟩=some (.int .u64 p.x3):=hb.cell (i:=3) rfl
   have c4:w.cell? ⟨w0.heap.size,4,none⟩=some (.int .u64 p.x4):=hb.cell (i:=4) rfl
   refine⟨.agg #[.int .u64 p.x0,.int .u64 p.x1,.int .u64 p.x2,.int .u64 p.x3,.int .u64 p.x4],w,?_,h.base,gI _ _,rfl⟩
   clear h hb
   simp only[execOp,Act.eval,e1]
   go_simp
  refine⟨gJ rfl rfl fun a w h=>?_,?_⟩
  .have e12:_=(Fe.bZ p).v:=h.d 12
   have e13:_=p.v:=h.d 13
   have agl:a.tmps[12]?.getD undef=(Fe.bZ p).v:=by simpa using e12
   have alr:a.tmps[13]?.getD undef=p.v:=by simpa using e13
   have hb:=h.base
   refine⟨82,#[(Fe.bZ p).v,p.v],?_,?_⟩
   .clear h hb e12 e13
    go_simp
   .refine (lC (Fe.bZ p) p w (Fe.dO _).ok iP).mono ?_
    intro e w1 hp
    obtain⟨rfl,hg⟩:=eH hp
    exact⟨_,rfl,hb.grown hg,Or.inl hg,rfl⟩
  refine⟨gJ rfl rfl fun a w h=>?_,?_⟩
  .have e10:_=q3.v:=h.d 10
   have e14:_=(Fe.aM (Fe.bZ p) p).v:=h.d 14
   have abz:a.tmps[10]?.getD undef=q3.v:=by simpa using e10
   have agm:a.tmps[14]?.getD undef=(Fe.aM (Fe.bZ p) p).v:=by simpa using e14
   have hb:=h.base
   refine⟨82,#[q3.v,(Fe.aM (Fe.bZ p) p).v],?_,?_⟩
   .clear h hb e10 e14
    go_simp
   .refine (lC q3 (Fe.aM (Fe.bZ p) p) w agk (Fe.mul_right _ _).ok).mono ?_
    intro e w1 hp
    obtain⟨rfl,hg⟩:=eH hp
    exact⟨_,rfl,hb.grown hg,Or.inl hg,rfl⟩
  refine⟨cK rfl rfl fun a w h=>?_,?_⟩
  .refine⟨.pointer (some ⟨w.heap.size,0,none⟩),w.alloc (.cells #[.int .u64 0,.int .u64 0,.int .u64 0,.int .u64 0,.int .u64 0] 66),?_,h.base.grown (World.grownBy_alloc _ _ _),Or.inl (World.grownBy_alloc _ _ _),⟨w.heap.size,rfl,⟨_,_,_,_,_,aG.new w [.int .u64 0,.int .u64 0,.int .u64 0,.int .u64 0,.int .u64 0] _⟩,h.base.fresh⟩⟩
   clear h
   go_simp
  refine⟨qx rfl rfl fun a w h=>?_,?_⟩
  .obtain⟨Bn,ep,hroom,hK⟩:∃Bn,a.tmps.getD 4 undef=.pointer (some ⟨Bn,0,none⟩)/\fK w Bn 66/\(Cm w0 [(w0.heap.size,p),(v3.heap.size,q3)]) Bn:=h.dep 4 (by kernel_rfl)
   have e15:_=Value.agg #[.int .u64 (Fe.aM q3 (Fe.aM (Fe.bZ p) p)).x0,.int .u64 (Fe.aM q3 (Fe.aM (Fe.bZ p) p)).x1,.int .u64 (Fe.aM q3 (Fe.aM (Fe.bZ p) p)).x2,.int .u64 (Fe.aM q3 (Fe.aM (Fe.bZ p) p)).x3,.int .u64 (Fe.aM q3 (Fe.aM (Fe.bZ p) p)).x4]:=h.d 15
   refine⟨jO w Bn (Fe.aM q3 (Fe.aM (Fe.bZ p) p)),?_,h.base.set hK _,Or.inr ⟨Bn,rfl,hroom⟩,⟨Bn,ep,hK,jF hroom⟩⟩
   obtain⟨u0,u1,u2,u3,u4,hR⟩:=hroom
   have c0r:=hR.cell (i:=0) rfl;have f0r:=hR.free 0
   have c1r:=hR.cell (i:=1) rfl;have f1r:=hR.free 1
   have c2r:=hR.cell (i:=2) rfl;have f2r:=hR.free 2
   have c3r:=hR.cell (i:=3) rfl;have f3r:=hR.free 3
   have c4r:=hR.cell (i:=4) rfl;have f4r:=hR.free 4
   clear h hK hR
   unfold jO
   simp only[execOp,Act.eval,ep,e15]
   go_simp
  trivial
 .intro a' w1 hB hsz hdf hrest aC jN
  obtain⟨Bn,xP,hK,hb⟩:=jN 7 _ rfl rfl
  obtain rfl:=gZ (a:=a') (vs:=[.agg #[.int .u64 p.x0,.int .u64 p.x1,.int .u64 p.x2,.int .u64 p.x3,.int .u64 p.x4],.pointer (some ⟨w0.heap.size,0,none⟩),.pointer (some ⟨w0.heap.size+1,0,none⟩),.pointer (some ⟨v3.heap.size,0,none⟩),.pointer (some ⟨Bn,0,none⟩),undef,.agg #[.int .u64 p.x0,.int .u64 p.x1,.int .u64 p.x2,.int .u64 p.x3,.int .u64 p.x4],.agg #[.int .u64 q1.x0,.int .u64 q1.x1,.int .u64 q1.x2,.int .u64 q1.x3,.int .u64 q1.x4],.agg #[.int .u64 q2.x0,.int .u64 q2.x1,.int .u64 q2.x2,.int .u64 q2.x3,.int .u64 q2.x4],.agg #[.int .u64 q3.x0,.int .u64 q3.x1,.int .u64 q3.x2,.int .u64 q3.x3,.int .u64 q3.x4],q3.v,p.v,(Fe.bZ p).v,p.v,(Fe.aM (Fe.bZ p) p).v,(Fe.aM q3 (Fe.aM (Fe.bZ p) p)).v,undef,undef,undef,undef,undef]) hsz ⟨hrest 0 (by kernel_rfl),hrest 1 (by kernel_rfl),hrest 2 (by kernel_rfl),hrest 3 (by kernel_rfl),xP,hrest 5 (by kernel_rfl),hrest 6 (by kernel_rfl),hrest 7 (by kernel_rfl),hrest 8 (by kernel_rfl),hrest 9 (by kernel_rfl),aC 10 (by kernel_rfl),aC 11 (by kernel_rfl),aC 12 (by kernel_rfl),aC 13 (by kernel_rfl),aC 14 (by kernel_rfl),aC 15 (by kernel_rfl),hrest 16 (by kernel_rfl),hrest 17 (by kernel_rfl),hrest 18 (by kernel_rfl),hrest 19 (by kernel_rfl),hrest 20 (by kernel_rfl),trivial⟩ hdf
  clear xP hsz hdf hrest aC jN hB0
  obtain⟨f,hf⟩:∃f,f=Fe.aM q3 (Fe.aM (Fe.bZ p) p):=⟨_,rfl⟩
  have okf:f.Ok:=by rw[hf];exact (Fe.mul_right _ _).ok
  rw[<- hf]at hb
  have Hf:=Lib.hid hf;clear hf
  have hAx:=hB.e (w0.heap.size,p) (by simp)
  have hRx:=hB.r _ (List.mem_singleton.2 rfl)
  have G4:=hB.g
  have agn:=hb.lt
  have hKn:=hK.1
  have hKa:=hK.2 (w0.heap.size,p) (by simp)
  clear hK hB
  have c0:=hAx.cell (i:=0) rfl
  have c1:=hAx.cell (i:=1) rfl
  have c2:=hAx.cell (i:=2) rfl
  have c3:=hAx.cell (i:=3) rfl
  have c4:=hAx.cell (i:=4) rfl
  go_wp2_with fail
  refine (vZ p _ iP).mono ?_
  rintro e w2 ⟨C,q,hq,rfl,hg5,hC,hP⟩
  have kG:q.Ok:=by rw[hq.out];exact iO _ _ _
  have hb2:=hb.grown hg5 (by simp)
  have JG:=hRx.grown hg5 (by simp)
  have G5:=aj G4 hg5
  have hs5:=hg5.size
  clear hAx hRx hb G4 hg5 c0 c1 c2 c3 c4
  have c0:=hb2.cell (i:=0) rfl
  have c1:=hb2.cell (i:=1) rfl
  have c2:=hb2.cell (i:=2) rfl
  have c3:=hb2.cell (i:=3) rfl
  have c4:=hb2.cell (i:=4) rfl
  go_wp2_with fail
  refine (ji C 5 q f _ (by decide) kG okf hP).mono ?_
  rintro e w3 ⟨g,hgg,rfl,uD,hP6⟩
  have hR6:=JG.grown uD (bJ (by omega))
  have G6:=aX G5 uD (by omega)
  obtain⟨u0,u1,u2,u3,u4,JH⟩:=hR6
  clear JG hb2 G5 uD c0 c1 c2 c3 c4
  have t0:=JH.cell (i:=0) rfl
  have t1:=JH.cell (i:=1) rfl
  have t2:=JH.cell (i:=2) rfl
  have t3:=JH.cell (i:=3) rfl
  have t4:=JH.cell (i:=4) rfl
  have y0:=JH.free 0
  have y1:=JH.free 1
  have y2:=JH.free 2
  have y3:=JH.free 3
  have y4:=JH.free 4
  go_wp2_with fail
  refine bodyPost_ret (v:=.agg #[.int .u64 g.x0,.int .u64 g.x1,.int .u64 g.x2,.int .u64 g.x3,.int .u64 g.x4]) ?_ rfl ⟨g,Lib.hid ?_,rfl,jv G6 (by omega) _ _ _ _ _⟩
  .simp[results,Tryz.results80,go_sem,t0,t1,t2,t3,t4]
  .rw[hgg.out,hq.out,Hf.out,hq3.out,hq2.out,hq1.out];rfl
end
section
open Go.RowKit
def dR (u v:Fe):Fe:=Fe.aM (Fe.aM u (Fe.aM (Fe.bZ v) v)) (lU 2 (xO (Fe.aM u (Fe.aM (Fe.bZ (Fe.aM (Fe.bZ v) v)) v))) (Fe.aM u (Fe.aM (Fe.bZ (Fe.aM (Fe.bZ v) v)) v)))
set_option maxRecDepth 100000 in
set_option maxHeartbeats 1600000 in
theorem pY (p q:Fe) (w0:World) (iP:p.Ok) (kG:q.Ok):
  Calls Tryz.prog 157 #[.agg #[.int .u64 p.x0,.int .u64 p.x1,.int .u64 p.x2,.int .u64 p.x3,.int .u64 p.x4],.agg #[.int .u64 q.x0,.int .u64 q.x1,.int .u64 q.x2,.int .u64 q.x3,.int .u64 q.x4]] w0 (nN (dR p q) w0):=by
 go_enter Tryz.func157,Tryz.ntmps157
 go_wp2_with fail
 have Vf:aG (((w0.alloc (.cells #[.int .u64 p.x0,.int .u64 p.x1,.int .u64 p.x2,.int .u64 p.x3,.int .u64 p.x4] 66)).alloc (.cells #[.int .u64 q.x0,.int .u64 q.x1,.int .u64 q.x2,.int .u64 q.x3,.int .u64 q.x4] 66)).alloc (.cells #[.int .u64 0,.int .u64 0,.int .u64 0,.int .u64 0,.int .u64 0] 66)) w0.heap.size 66 (aQ p):=((aG.new w0 (aQ p) _).alloc _).alloc _
 have hB0:mJ w0 (w0.heap.size+3) [((w0.heap.size+1),q)] [(w0.heap.size+1+1)] (((w0.alloc (.cells #[.int .u64 p.x0,.int .u64 p.x1,.int .u64 p.x2,.int .u64 p.x3,.int .u64 p.x4] 66)).alloc (.cells #[.int .u64 q.x0,.int .u64 q.x1,.int .u64 q.x2,.int .u64 q.x3,.int .u64 q.x4] 66)).alloc (.cells #[.int .u64 0,.int .u64 0,.int .u64 0,.int .u64 0,.int .u64 0] 66)):=
  ⟨au (au (au (ah _ _) _) _) _,by
   intro z hz
   simp only[List.mem_cons,List.not_mem_nil,or_false]at hz
   rcases hz with rfl
   .exact (aG.newAt (w0.alloc _) (aQ _) _ (by simp)).alloc _,by
   intro B hB
   simp only[List.mem_cons,List.not_mem_nil,or_false]at hB
   subst hB
   exact⟨_,_,_,_,_,aG.newAt _ [.int .u64 0,.int .u64 0,.int .u64 0,.int .u64 0,.int .u64 0] _ (by simp)⟩,by intro z hz;simp only[List.mem_cons,List.not_mem_nil,or_false]at hz;rcases hz with rfl<;>simp only[]<;>omega,by simp,by omega⟩
 have hA1:∀w1,w0.grownBy w1 none->True:=fun _ _=>trivial
 clear hA1
 have hB0:mJ w0 (w0.heap.size+3) [(w0.heap.size,p),(w0.heap.size+1,q),(w0.heap.size+1+1,Fe.bL)] [(w0.heap.size+1+1)] (((w0.alloc (.cells #[.int .u64 p.x0,.int .u64 p.x1,.int .u64 p.x2,.int .u64 p.x3,.int .u64 p.x4] 66)).alloc (.cells #[.int .u64 q.x0,.int .u64 q.x1,.int .u64 q.x2,.int .u64 q.x3,.int .u64 q.x4] 66)).alloc (.cells #[.int .u64 0,.int .u64 0,.int .u64 0,.int .u64 0,.int .u64 0] 66)):=
  ⟨hB0.g,by
   intro z hz
   simp only[List.mem_cons,List.not_mem_nil,or_false]at hz
   rcases hz with rfl|rfl|rfl
   .exact Vf
   .exact hB0.e _ (by simp)
   .exact aG.newAt _ (aQ Fe.bL) _ (by simp),hB0.r,by intro z hz;simp only[List.mem_cons,List.not_mem_nil,or_false]at hz;rcases hz with rfl|rfl|rfl<;>simp only[]<;>omega,hB0.l,hB0.m⟩
 clear Vf
 refine jh (rO (Cm w0 [(w0.heap.size,p),((w0.heap.size+1),q),((w0.heap.size+1+1),Fe.bL)]) [.any,.any,.any,.any,.any,.ptr,.any,.any,.any,.any,.val q.v,.val (Fe.bZ q).v,.val q.v,.val (Fe.aM (Fe.bZ q) q).v,.any,.any,.any,.any,.any,.any,.any,.any,.any,.any,.any,.any,.any,.any,.any,.any,.any]) (fun j=>if j=5 then 5 else 0) (Stored (Cm w0 [(w0.heap.size,p),((w0.heap.size+1),q),((w0.heap.size+1+1),Fe.bL)]) (Fe.aM (Fe.bZ q) q)) (mJ w0 (w0.heap.size+3) [(w0.heap.size,p),((w0.heap.size+1),q),((w0.heap.size+1+1),Fe.bL)] [(w0.heap.size+1+1)]) (Gg (Fe.aM (Fe.bZ q) q)) (by kernel_rfl) (by kernel_rfl) (by kernel_rfl) (hB0.grown (rQ _)) (fun d u w1 w2 hR h=>nP _ _ _ d u w1 w2 hR h) (fun j u w1 w2 hR h=>lV _ _ j u w1 w2 hR h) (by kernel_rfl) ?_ ?_
 .refine⟨cK rfl rfl fun a w h=>?_,?_⟩
  .have e3:_=Value.pointer (some ⟨(w0.heap.size+1),0,none⟩):=h.r 3
   have hb:=h.base.e ((w0.heap.size+1),q) (by simp)
   have c0:w.cell? ⟨(w0.heap.size+1),0,none⟩=some (.int .u64 q.x0):=hb.cell (i:=0) rfl
   have c1:w.cell? ⟨(w0.heap.size+1),1,none⟩=some (.int .u64 q.x1):=hb.cell (i:=1) rfl
   have c2:w.cell? ⟨(w0.heap.size+1),2,none⟩=some (.int .u64 q.x2):=hb.cell (i:=2) rfl
   have c3:w.cell? ⟨(w0.heap.size+1),3,none⟩=some (.int .u64 q.x3):=hb.cell (i:=3) rfl
   have c4:w.cell? ⟨(w0.heap.size+1),4,none⟩=some (.int .u64 q.x4):=hb.cell (i:=4) rfl
   refine⟨.agg #[.int .u64 q.x0,.int .u64 q.x1,.int .u64 q.x2,.int .u64 q.x3,.int .u64 q.x4],w,?_,h.base,gI _ _,rfl⟩
   clear h hb
   simp only[execOp,Act.eval,e3]
   go_simp
  refine⟨gJ rfl rfl fun a w h=>?_,?_⟩
  .have e10:_=q.v:=h.d 10
   have abz:a.tmps[10]?.getD undef=q.v:=by simpa using e10
   have hb:=h.base
   refine⟨105,#[q.v],?_,?_⟩
   .clear h hb e10
    go_simp
   .refine (vY q w kG).mono ?_
    intro e w1 hp
    obtain⟨rfl,hg⟩:=eH hp
    exact⟨_,rfl,hb.grown hg,Or.inl hg,rfl⟩
  refine⟨cK rfl rfl fun a w h=>?_,?_⟩
  .have e3:_=Value.pointer (some ⟨(w0.heap.size+1),0,none⟩):=h.r 3
   have hb:=h.base.e ((w0.heap.size+1),q) (by simp)
   have c0:w.cell? ⟨(w0.heap.size+1),0,none⟩=some (.int .u64 q.x0):=hb.cell (i:=0) rfl
   have c1:w.cell? ⟨(w0.heap.size+1),1,none⟩=some (.int .u64 q.x1):=hb.cell (i:=1) rfl
   have c2:w.cell? ⟨(w0.heap.size+1),2,none⟩=some (.int .u64 q.x2):=hb.cell (i:=2) rfl
   have c3:w.cell? ⟨(w0.heap.size+1),3,none⟩=some (.int .u64 q.x3):=hb.cell (i:=3) rfl
   have c4:w.cell? ⟨(w0.heap.size+1),4,none⟩=some (.int .u64 q.x4):=hb.cell (i:=4) rfl
   refine⟨.agg #[.int .u64 q.x0,.int .u64 q.x1,.int .u64 q.x2,.int .u64 q.x3,.int .u64 q.x4],w,?_,h.base,gI _ _,rfl⟩
   clear h hb
   simp only[execOp,Act.eval,e3]
   go_simp
  refine⟨gJ rfl rfl fun a w h=>?_,?_⟩
  .have e11:_=(Fe.bZ q).v:=h.d 11
   have e12:_=q.v:=h.d 12
   have abA:a.tmps[11]?.getD undef=(Fe.bZ q).v:=by simpa using e11
   have agl:a.tmps[12]?.getD undef=q.v:=by simpa using e12
   have hb:=h.base
   refine⟨82,#[(Fe.bZ q).v,q.v],?_,?_⟩
   .clear h hb e11 e12
    go_simp
   .refine (lC (Fe.bZ q) q w (Fe.dO _).ok kG).mono ?_
    intro e w1 hp
    obtain⟨rfl,hg⟩:=eH hp
    exact⟨_,rfl,hb.grown hg,Or.inl hg,rfl⟩
  refine⟨cK rfl rfl fun a w h=>?_,?_⟩
  .refine⟨.pointer (some ⟨w.heap.size,0,none⟩),w.alloc (.cells #[.int .u64 0,.int .u64 0,.int .u64 0,.int .u64 0,.int .u64 0] 66),?_,h.base.grown (World.grownBy_alloc _ _ _),Or.inl (World.grownBy_alloc _ _ _),⟨w.heap.size,rfl,⟨_,_,_,_,_,aG.new w [.int .u64 0,.int .u64 0,.int .u64 0,.int .u64 0,.int .u64 0] _⟩,h.base.fresh⟩⟩
   clear h
   go_simp
  refine⟨qx rfl rfl fun a w h=>?_,?_⟩
  .obtain⟨Bn,ep,hroom,hK⟩:∃Bn,a.tmps.getD 5 undef=.pointer (some ⟨Bn,0,none⟩)/\fK w Bn 66/\(Cm w0 [(w0.heap.size,p),((w0.heap.size+1),q),((w0.heap.size+1+1),Fe.bL)]) Bn:=h.dep 5 (by kernel_rfl)
   have e13:_=Value.agg #[.int .u64 (Fe.aM (Fe.bZ q) q).x0,.int .u64 (Fe.aM (Fe.bZ q) q).x1,.int .u64 (Fe.aM (Fe.bZ q) q).x2,.int .u64 (Fe.aM (Fe.bZ q) q).x3,.int .u64 (Fe.aM (Fe.bZ q) q).x4]:=h.d 13
   refine⟨jO w Bn (Fe.aM (Fe.bZ q) q),?_,h.base.set hK _,Or.inr ⟨Bn,rfl,hroom⟩,⟨Bn,ep,hK,jF hroom⟩⟩
   obtain⟨u0,u1,u2,u3,u4,hR⟩:=hroom
   have c0r:=hR.cell (i:=0) rfl;have f0r:=hR.free 0
   have c1r:=hR.cell (i:=1) rfl;have f1r:=hR.free 1
   have c2r:=hR.cell (i:=2) rfl;have f2r:=hR.free 2
   have c3r:=hR.cell (i:=3) rfl;have f3r:=hR.free 3
   have c4r:=hR.cell (i:=4) rfl;have f4r:=hR.free 4
   clear h hK hR
   unfold jO
   simp only[execOp,Act.eval,ep,e13]
   go_simp
  trivial
 .intro a' w1 hB hsz hdf hrest aC jN
  obtain⟨B1,xP,hK,hb⟩:=jN 5 _ rfl rfl
  obtain rfl:=gZ (a:=a') (vs:=[.agg #[.int .u64 p.x0,.int .u64 p.x1,.int .u64 p.x2,.int .u64 p.x3,.int .u64 p.x4],.agg #[.int .u64 q.x0,.int .u64 q.x1,.int .u64 q.x2,.int .u64 q.x3,.int .u64 q.x4],.pointer (some ⟨w0.heap.size,0,none⟩),.pointer (some ⟨w0.heap.size+1,0,none⟩),.pointer (some ⟨w0.heap.size+1+1,0,none⟩),.pointer (some ⟨B1,0,none⟩),undef,undef,undef,undef,q.v,(Fe.bZ q).v,q.v,(Fe.aM (Fe.bZ q) q).v,undef,undef,undef,undef,undef,undef,undef,undef,undef,undef,undef,undef,undef,undef,undef,undef,undef]) hsz ⟨hrest 0 (by kernel_rfl),hrest 1 (by kernel_rfl),hrest 2 (by kernel_rfl),hrest 3 (by kernel_rfl),hrest 4 (by kernel_rfl),xP,hrest 6 (by kernel_rfl),hrest 7 (by kernel_rfl),hrest 8 (by kernel_rfl),hrest 9 (by kernel_rfl),aC 10 (by kernel_rfl),aC 11 (by kernel_rfl),aC 12 (by kernel_rfl),aC 13 (by kernel_rfl),hrest 14 (by kernel_rfl),hrest 15 (by kernel_rfl),hrest 16 (by kernel_rfl),hrest 17 (by kernel_rfl),hrest 18 (by kernel_rfl),hrest 19 (by kernel_rfl),hrest 20 (by kernel_rfl),hrest 21 (by kernel_rfl),hrest 22 (by kernel_rfl),hrest 23 (by kernel_rfl),hrest 24 (by kernel_rfl),hrest 25 (by kernel_rfl),hrest 26 (by kernel_rfl),hrest 27 (by kernel_rfl),hrest 28 (by kernel_rfl),hrest 29 (by kernel_rfl),hrest 30 (by kernel_rfl),trivial⟩ hdf
  clear xP hsz hdf hrest aC jN hB0
  obtain⟨cube,hf⟩:∃f,f=Fe.aM (Fe.bZ q) q:=⟨_,rfl⟩
  have RO:cube.Ok:=by rw[hf];exact (Fe.mul_right _ _).ok
  rw[<- hf]at hb
  have abB:=Lib.hid hf;clear hf
  have agn:=hb.lt
  have hK1:=hK.1
  have hKp:=hK.2 (w0.heap.size,p) (by simp)
  have hKq:=hK.2 (w0.heap.size+1,q) (by simp)
  have hKr:w0.heap.size+1+1≠B1:=hK.2 (w0.heap.size+1+1,Fe.bL) (by simp)
  have hBl:=hB.l
  have hB1:mJ w0 w1.heap.size [(w0.heap.size,p),(w0.heap.size+1,q),(B1,cube)] [(w0.heap.size+1+1)] w1:=
   ⟨hB.g,by
    intro z hz
    simp only[List.mem_cons,List.not_mem_nil,or_false]at hz
    rcases hz with rfl|rfl|rfl
    .exact hB.e _ (by simp)
    .exact hB.e _ (by simp)
    .exact hb,hB.r,by intro z hz;simp only[List.mem_cons,List.not_mem_nil,or_false]at hz;rcases hz with rfl|rfl|rfl<;>simp only[]<;>omega,Nat.le_refl _,hB.g.size⟩
  clear hB hb hK
  go_wp2_with fail
  refine jh (rO (Cm w0 [(w0.heap.size,p),((w0.heap.size+1),q),(B1,cube)]) [.any,.any,.any,.any,.any,.any,.ptr,.any,.any,.any,.any,.any,.any,.any,.val cube.v,.val (Fe.bZ cube).v,.val q.v,.val (Fe.aM (Fe.bZ cube) q).v,.any,.any,.any,.any,.any,.any,.any,.any,.any,.any,.any,.any,.any]) (fun j=>if j=5 then 6 else 0) (Stored (Cm w0 [(w0.heap.size,p),((w0.heap.size+1),q),(B1,cube)]) (Fe.aM (Fe.bZ cube) q)) (mJ w0 w1.heap.size [(w0.heap.size,p),((w0.heap.size+1),q),(B1,cube)] [(w0.heap.size+1+1)]) (Gg (Fe.aM (Fe.bZ cube) q)) (by kernel_rfl) (by kernel_rfl) (by kernel_rfl) (hB1.grown (rQ _)) (fun d u w1 w2 hR h=>nP _ _ _ d u w1 w2 hR h) (fun j u w1 w2 hR h=>lV _ _ j u w1 w2 hR h) (by kernel_rfl) ?_ ?_
  .refine⟨cK rfl rfl fun a w h=>?_,?_⟩
   .have e5:_=Value.pointer (some ⟨B1,0,none⟩):=h.r 5
    have hb:=h.base.e (B1,cube) (by simp)
    have c0:w.cell? ⟨B1,0,none⟩=some (.int .u64 cube.x0):=hb.cell (i:=0) rfl
    have c1:w.cell? ⟨B1,1,none⟩=some (.int .u64 cube.x1):=hb.cell (i:=1) rfl
    have c2:w.cell? ⟨B1,2,none⟩=some (.int .u64 cube.x2):=hb.cell (i:=2) rfl
    have c3:w.cell? ⟨B1,3,none⟩=some (.int .u64 cube.x3):=hb.cell (i:=3) rfl
    have c4:w.cell? ⟨B1,4,none⟩=some (.int .u64 cube.x4):=hb.cell (i:=4) rfl
    refine⟨.agg #[.int .u64 cube.x0,.int .u64 cube.x1,.int .u64 cube.x2,.int .u64 cube.x3,.int .u64 cube.x4],w,?_,h.base,gI _ _,rfl⟩
    clear h hb
    simp only[execOp,Act.eval,e5]
    go_simp
   refine⟨gJ rfl rfl fun a w h=>?_,?_⟩
   .have e14:_=cube.v:=h.d 14
    have agm:a.tmps[14]?.getD undef=cube.v:=by simpa using e14
    have hb:=h.base
    refine⟨105,#[cube.v],?_,?_⟩
    .clear h hb e14
     go_simp
    .refine (vY cube w RO).mono ?_
     intro e w1 hp
     obtain⟨rfl,hg⟩:=eH hp
     exact⟨_,rfl,hb.grown hg,Or.inl hg,rfl⟩
   refine⟨cK rfl rfl fun a w h=>?_,?_⟩
   .have e3:_=Value.pointer (some ⟨(w0.heap.size+1),0,none⟩):=h.r 3
    have hb:=h.base.e ((w0.heap.size+1),q) (by simp)
    have c0:w.cell? ⟨(w0.heap.size+1),0,none⟩=some (.int .u64 q.x0):=hb.cell (i:=0) rfl
    have c1:w.cell? ⟨(w0.heap.size+1),1,none⟩=some (.int .u64 q.x1):=hb.cell (i:=1) rfl
    have c2:w.cell? ⟨(w0.heap.size+1),2,none⟩=some (.int .u64 q.x2):=hb.cell (i:=2) rfl
    have c3:w.cell? ⟨(w0.heap.size+1),3,none⟩=some (.int .u64 q.x3):=hb.cell (i:=3) rfl
    have c4:w.cell? ⟨(w0.heap.size+1),4,none⟩=some (.int .u64 q.x4):=hb.cell (i:=4) rfl
    refine⟨.agg #[.int .u64 q.x0,.int .u64 q.x1,.int .u64 q.x2,.int .u64 q.x3,.int .u64 q.x4],w,?_,h.base,gI _ _,rfl⟩
    clear h hb
    simp only[execOp,Act.eval,e3]
    go_simp
   refine⟨gJ rfl rfl fun a w h=>?_,?_⟩
   .have e15:_=(Fe.bZ cube).v:=h.d 15
    have e16:_=q.v:=h.d 16
    have alu:a.tmps[15]?.getD undef=(Fe.bZ cube).v:=by simpa using e15
    have alv:a.tmps[16]?.getD undef=q.v:=by simpa using e16
    have hb:=h.base
    refine⟨82,#[(Fe.bZ cube).v,q.v],?_,?_⟩
    .clear h hb e15 e16
     go_simp
    .refine (lC (Fe.bZ cube) q w (Fe.dO _).ok kG).mono ?_
     intro e w1 hp
     obtain⟨rfl,hg⟩:=eH hp
     exact⟨_,rfl,hb.grown hg,Or.inl hg,rfl⟩
   refine⟨cK rfl rfl fun a w h=>?_,?_⟩
   .refine⟨.pointer (some ⟨w.heap.size,0,none⟩),w.alloc (.cells #[.int .u64 0,.int .u64 0,.int .u64 0,.int .u64 0,.int .u64 0] 66),?_,h.base.grown (World.grownBy_alloc _ _ _),Or.inl (World.grownBy_alloc _ _ _),⟨w.heap.size,rfl,⟨_,_,_,_,_,aG.new w [.int .u64 0,.int .u64 0,.int .u64 0,.int .u64 0,.int .u64 0] _⟩,h.base.fresh⟩⟩
    clear h
    go_simp
   refine⟨qx rfl rfl fun a w h=>?_,?_⟩
   .obtain⟨Bn,ep,hroom,hK⟩:∃Bn,a.tmps.getD 6 undef=.pointer (some ⟨Bn,0,none⟩)/\fK w Bn 66/\(Cm w0 [(w0.heap.size,p),((w0.heap.size+1),q),(B1,cube)]) Bn:=h.dep 6 (by kernel_rfl)
    have e17:_=Value.agg #[.int .u64 (Fe.aM (Fe.bZ cube) q).x0,.int .u64 (Fe.aM (Fe.bZ cube) q).x1,.int .u64 (Fe.aM (Fe.bZ cube) q).x2,.int .u64 (Fe.aM (Fe.bZ cube) q).x3,.int .u64 (Fe.aM (Fe.bZ cube) q).x4]:=h.d 17
    refine⟨jO w Bn (Fe.aM (Fe.bZ cube) q),?_,h.base.set hK _,Or.inr ⟨Bn,rfl,hroom⟩,⟨Bn,ep,hK,jF hroom⟩⟩
    obtain⟨u0,u1,u2,u3,u4,hR⟩:=hroom
    have c0r:=hR.cell (i:=0) rfl;have f0r:=hR.free 0
    have c1r:=hR.cell (i:=1) rfl;have f1r:=hR.free 1
    have c2r:=hR.cell (i:=2) rfl;have f2r:=hR.free 2
    have c3r:=hR.cell (i:=3) rfl;have f3r:=hR.free 3
    have c4r:=hR.cell (i:=4) rfl;have f4r:=hR.free 4
    clear h hK hR
    unfold jO
    simp only[execOp,Act.eval,ep,e17]
    go_simp
   trivial
  .intro a' w2 hB hsz hdf hrest aC jN
   obtain⟨B2,xP,hK,hb⟩:=jN 5 _ rfl rfl
   obtain rfl:=gZ (a:=a') (vs:=[.agg #[.int .u64 p.x0,.int .u64 p.x1,.int .u64 p.x2,.int .u64 p.x3,.int .u64 p.x4],.agg #[.int .u64 q.x0,.int .u64 q.x1,.int .u64 q.x2,.int .u64 q.x3,.int .u64 q.x4],.pointer (some ⟨w0.heap.size,0,none⟩),.pointer (some ⟨w0.heap.size+1,0,none⟩),.pointer (some ⟨w0.heap.size+1+1,0,none⟩),.pointer (some ⟨B1,0,none⟩),.pointer (some ⟨B2,0,none⟩),undef,undef,undef,q.v,(Fe.bZ q).v,q.v,(Fe.aM (Fe.bZ q) q).v,cube.v,(Fe.bZ cube).v,q.v,(Fe.aM (Fe.bZ cube) q).v,undef,undef,undef,undef,undef,undef,undef,undef,undef,undef,undef,undef,undef]) hsz ⟨hrest 0 (by kernel_rfl),hrest 1 (by kernel_rfl),hrest 2 (by kernel_rfl),hrest 3 (by kernel_rfl),hrest 4 (by kernel_rfl),hrest 5 (by kernel_rfl),xP,hrest 7 (by kernel_rfl),hrest 8 (by kernel_rfl),hrest 9 (by kernel_rfl),hrest 10 (by kernel_rfl),hrest 11 (by kernel_rfl),hrest 12 (by kernel_rfl),hrest 13 (by kernel_rfl),aC 14 (by kernel_rfl),aC 15 (by kernel_rfl),aC 16 (by kernel_rfl),aC 17 (by kernel_rfl),hrest 18 (by kernel_rfl),hrest 19 (by kernel_rfl),hrest 20 (by kernel_rfl),hrest 21 (by kernel_rfl),hrest 22 (by kernel_rfl),hrest 23 (by kernel_rfl),hrest 24 (by kernel_rfl),hrest 25 (by kernel_rfl),hrest 26 (by kernel_rfl),hrest 27 (by kernel_rfl),hrest 28 (by kernel_rfl),hrest 29 (by kernel_rfl),hrest 30 (by kernel_rfl),trivial⟩ hdf
   clear xP hsz hdf hrest aC jN hB1
   obtain⟨sev,hf⟩:∃f,f=Fe.aM (Fe.bZ cube) q:=⟨_,rfl⟩
   have abC:sev.Ok:=by rw[hf];exact (Fe.mul_right _ _).ok
   rw[<- hf]at hb
   have agp:=Lib.hid hf;clear hf
   have gP:=hB.e (w0.heap.size,p) (by simp)
   have c0:=gP.cell (i:=0) rfl
   have c1:=gP.cell (i:=1) rfl
   have c2:=gP.cell (i:=2) rfl
   have c3:=gP.cell (i:=3) rfl
   have c4:=gP.cell (i:=4) rfl
   have d0:=hb.cell (i:=0) rfl
   have d1:=hb.cell (i:=1) rfl
   have d2:=hb.cell (i:=2) rfl
   have d3:=hb.cell (i:=3) rfl
   have d4:=hb.cell (i:=4) rfl
   go_wp2_with fail
   refine (lC p sev _ iP abC).mono ?_
   rintro e v3 ⟨base,hbase,rfl,hg3⟩
   have RP:base.Ok:=by rw[hbase.out];exact (Fe.mul_right _ _).ok
   have hE3:=(hB.grown hg3).grown (World.grownBy_alloc v3 (.cells #[.int .u64 base.x0,.int .u64 base.x1,.int .u64 base.x2,.int .u64 base.x3,.int .u64 base.x4] 66) none)
   have cZ:aG (v3.alloc (.cells #[.int .u64 base.x0,.int .u64 base.x1,.int .u64 base.x2,.int .u64 base.x3,.int .u64 base.x4] 66)) v3.heap.size 66 (aQ base):=aG.new v3 (aQ base) _
   clear gP hB hb hK hg3 c0 c1 c2 c3 c4 d0 d1 d2 d3 d4
   go_wp2_with fail
   refine (vZ base _ RP).mono ?_
   rintro e v4 ⟨C,on,hon,rfl,hg4,hC,hP⟩
   have agr:on.Ok:=by rw[hon.out];exact iO _ _ _
   have fT:=cZ.grown hg4 (by simp)
   have c0:=fT.cell (i:=0) rfl
   have c1:=fT.cell (i:=1) rfl
   have c2:=fT.cell (i:=2) rfl
   have c3:=fT.cell (i:=3) rfl
   have c4:=fT.cell (i:=4) rfl
   go_wp2_with fail
   refine (ji C 2 on base _ (by decide) agr RP hP).mono ?_
   rintro e v5 ⟨pw,hpw,rfl,hg5,hP5⟩
   have ags:pw.Ok:=by rw[hpw.out];exact iO _ _ _
   have zh:=(hE3.grown (aX hg4 hg5 hC)).grown (World.grownBy_alloc v5 (.cells #[.int .u64 pw.x0,.int .u64 pw.x1,.int .u64 pw.x2,.int .u64 pw.x3,.int .u64 pw.x4] 66) none)
   have hsz5:=(hE3.grown (aX hg4 hg5 hC)).l
   have VG:aG (v5.alloc (.cells #[.int .u64 pw.x0,.int .u64 pw.x1,.int .u64 pw.x2,.int .u64 pw.x3,.int .u64 pw.x4] 66)) v5.heap.size 66 (aQ pw):=aG.new v5 (aQ pw) _
   have hlt1:=(zh.e (B1,cube) (by simp)).lt
   have hB6:mJ w0 (v5.heap.size+1) [(w0.heap.size,p),(B1,cube),(v5.heap.size,pw)] [(w0.heap.size+1+1)] (v5.alloc (.cells #[.int .u64 pw.x0,.int .u64 pw.x1,.int .u64 pw.x2,.int .u64 pw.x3,.int .u64 pw.x4] 66)):=
    ⟨zh.g,by
     intro z hz
     simp only[List.mem_cons,List.not_mem_nil,or_false]at hz
     rcases hz with rfl|rfl|rfl
     .exact zh.e _ (by simp)
     .exact zh.e _ (by simp)
     .exact VG,zh.r,by
     intro z hz
     have h1:=zh.n (w0.heap.size,p) (by simp)
     have h2:=zh.n (B1,cube) (by simp)
     simp only[List.mem_cons,List.not_mem_nil,or_false]at hz
     rcases hz with rfl|rfl|rfl<;>simp only[]at *<;>omega,by simp,by have:=zh.g.size;simp at this;have:=zh.m;omega⟩
   clear hE3 zh cZ fT VG hg4 hg5 hP hP5 c0 c1 c2 c3 c4
   go_wp2_with fail
   refine jh (rO (Cm w0 [(w0.heap.size,p),(B1,cube),(v5.heap.size,pw)]) [.any,.any,.any,.any,.any,.any,.any,.any,.any,.any,.any,.any,.any,.any,.any,.any,.any,.any,.any,.any,.any,.any,.any,.any,.any,.any,.val p.v,.val cube.v,.val (Fe.aM p cube).v,.val pw.v,.val (Fe.aM (Fe.aM p cube) pw).v]) (fun j=>if j=5 then 4 else 0) (Stored (Cm w0 [(w0.heap.size,p),(B1,cube),(v5.heap.size,pw)]) (Fe.aM (Fe.aM p cube) pw)) (mJ w0 (v5.heap.size+1) [(w0.heap.size,p),(B1,cube),(v5.heap.size,pw)] [(w0.heap.size+1+1)]) (Gg (Fe.aM (Fe.aM p cube) pw)) (by kernel_rfl) (by kernel_rfl) (by kernel_rfl) (hB6.grown (rQ _)) (fun d u w1 w2 hR h=>nP _ _ _ d u w1 w2 hR h) (fun j u w1 w2 hR h=>lV _ _ j u w1 w2 hR h) (by kernel_rfl) ?_ ?_
   .refine⟨cK rfl rfl fun a w h=>?_,?_⟩
    .have e2:_=Value.pointer (some ⟨w0.heap.size,0,none⟩):=h.r 2
     have hb:=h.base.e (w0.heap.size,p) (by simp)
     have c0:w.cell? ⟨w0.heap.size,0,none⟩=some (.int .u64 p.x0):=hb.cell (i:=0) rfl
     have c1:w.cell? ⟨w0.heap.size,1,none⟩=some (.int .u64 p.x1):=hb.cell (i:=1) rfl
     have c2:w.cell? ⟨w0.heap.size,2,none⟩=some (.int .u64 p.x2):=hb.cell (i:=2) rfl
     have c3:w.cell? ⟨w0.heap.size,3,none⟩=some (.int .u64 p.x3):=hb.cell (i:=3) rfl
     have c4:w.cell? ⟨w0.heap.size,4,none⟩=some (.int .u64 p.x4):=hb.cell (i:=4) rfl
     refine⟨.agg #[.int .u64 p.x0,.int .u64 p.x1,.int .u64 p.x2,.int .u64 p.x3,.int .u64 p.x4],w,?_,h.base,gI _ _,rfl⟩
     clear h hb
     simp only[execOp,Act.eval,e2]
     go_simp
    refine⟨cK rfl rfl fun a w h=>?_,?_⟩
    .have e5:_=Value.pointer (some ⟨B1,0,none⟩):=h.r 5
     have hb:=h.base.e (B1,cube) (by simp)
     have c0:w.cell? ⟨B1,0,none⟩=some (.int .u64 cube.x0):=hb.cell (i:=0) rfl
     have c1:w.cell? ⟨B1,1,none⟩=some (.int .u64 cube.x1):=hb.cell (i:=1) rfl
     have c2:w.cell? ⟨B1,2,none⟩=some (.int .u64 cube.x2):=hb.cell (i:=2) rfl
     have c3:w.cell? ⟨B1,3,none⟩=some (.int .u64 cube.x3):=hb.cell (i:=3) rfl
     have c4:w.cell? ⟨B1,4,none⟩=some (.int .u64 cube.x4):=hb.cell (i:=4) rfl
     refine⟨.agg #[.int .u64 cube.x0,.int .u64 cube.x1,.int .u64 cube.x2,.int .u64 cube.x3,.int .u64 cube.x4],w,?_,h.base,gI _ _,rfl⟩
     clear h hb
     simp only[execOp,Act.eval,e5]
     go_simp
    refine⟨gJ rfl rfl fun a w h=>?_,?_⟩
    .have e26:_=p.v:=h.d 26
     have e27:_=cube.v:=h.d 27
     have alx:a.tmps[26]?.getD undef=p.v:=by simpa using e26
     have aly:a.tmps[27]?.getD undef=cube.v:=by simpa using e27
     have hb:=h.base
     refine⟨82,#[p.v,cube.v],?_,?_⟩
     .clear h hb e26 e27
      go_simp
     .refine (lC p cube w iP RO).mono ?_
      intro e w1 hp
      obtain⟨rfl,hg⟩:=eH hp
      exact⟨_,rfl,hb.grown hg,Or.inl hg,rfl⟩
    refine⟨cK rfl rfl fun a w h=>?_,?_⟩
    .have e9:_=Value.pointer (some ⟨v5.heap.size,0,none⟩):=h.r 9
     have hb:=h.base.e (v5.heap.size,pw) (by simp)
     have c0:w.cell? ⟨v5.heap.size,0,none⟩=some (.int .u64 pw.x0):=hb.cell (i:=0) rfl
     have c1:w.cell? ⟨v5.heap.size,1,none⟩=some (.int .u64 pw.x1):=hb.cell (i:=1) rfl
     have c2:w.cell? ⟨v5.heap.size,2,none⟩=some (.int .u64 pw.x2):=hb.cell (i:=2) rfl
     have c3:w.cell? ⟨v5.heap.size,3,none⟩=some (.int .u64 pw.x3):=hb.cell (i:=3) rfl
     have c4:w.cell? ⟨v5.heap.size,4,none⟩=some (.int .u64 pw.x4):=hb.cell (i:=4) rfl
     refine⟨.agg #[.int .u64 pw.x0,.int .u64 pw.x1,.int .u64 pw.x2,.int .u64 pw.x3,.int .u64 pw.x4],w,?_,h.base,gI _ _,rfl⟩
     clear h hb
     simp only[execOp,Act.eval,e9]
     go_simp
    refine⟨gJ rfl rfl fun a w h=>?_,?_⟩
    .have e28:_=(Fe.aM p cube).v:=h.d 28
     have e29:_=pw.v:=h.d 29
     have alz:a.tmps[28]?.getD undef=(Fe.aM p cube).v:=by simpa using e28
     have alA:a.tmps[29]?.getD undef=pw.v:=by simpa using e29
     have hb:=h.base
     refine⟨82,#[(Fe.aM p cube).v,pw.v],?_,?_⟩
     .clear h hb e28 e29
      go_simp
     .refine (lC (Fe.aM p cube) pw w (Fe.mul_right _ _).ok ags).mono ?_
      intro e w1 hp
      obtain⟨rfl,hg⟩:=eH hp
      exact⟨_,rfl,hb.grown hg,Or.inl hg,rfl⟩
    refine⟨qx rfl rfl fun a w h=>?_,?_⟩
    .obtain⟨Bn,hBn⟩:∃Bn,Bn=(w0.heap.size+1+1):=⟨_,rfl⟩
     have ep:a.tmps.getD 4 undef=.pointer (some ⟨Bn,0,none⟩):=by rw[hBn];exact h.rest 4 (by kernel_rfl)
     have hroom:fK w Bn 66:=by rw[hBn];exact h.base.r _ (by simp)
     have hK:(Cm w0 [(w0.heap.size,p),(B1,cube),(v5.heap.size,pw)]) Bn:=by rw[hBn];exact⟨by omega,by intro z hz;simp only[List.mem_cons,List.not_mem_nil,or_false]at hz;rcases hz with rfl|rfl|rfl<;>simp only[]<;>omega⟩
     clear hBn
     have e30:_=Value.agg #[.int .u64 (Fe.aM (Fe.aM p cube) pw).x0,.int .u64 (Fe.aM (Fe.aM p cube) pw).x1,.int .u64 (Fe.aM (Fe.aM p cube) pw).x2,.int .u64 (Fe.aM (Fe.aM p cube) pw).x3,.int .u64 (Fe.aM (Fe.aM p cube) pw).x4]:=h.d 30
     refine⟨jO w Bn (Fe.aM (Fe.aM p cube) pw),?_,h.base.set hK _,Or.inr ⟨Bn,rfl,hroom⟩,⟨Bn,ep,hK,jF hroom⟩⟩
     obtain⟨u0,u1,u2,u3,u4,hR⟩:=hroom
     have c0r:=hR.cell (i:=0) rfl;have f0r:=hR.free 0
     have c1r:=hR.cell (i:=1) rfl;have f1r:=hR.free 1
     have c2r:=hR.cell (i:=2) rfl;have f2r:=hR.free 2
     have c3r:=hR.cell (i:=3) rfl;have f3r:=hR.free 3
     have c4r:=hR.cell (i:=4) rfl;have f4r:=hR.free 4
     clear h hK hR
     unfold jO
     simp only[execOp,Act.eval,ep,e30]
     go_simp
    trivial
   .intro a' w6 hB hsz hdf hrest aC jN
    obtain⟨B6,xP,hK,hb⟩:=jN 5 _ rfl rfl
    have J5:a'.tmps.getD 4 undef=.pointer (some ⟨w0.heap.size+1+1,0,none⟩):=hrest 4 (by kernel_rfl)
    have RQ:a'.tmps.getD 4 undef=.pointer (some ⟨B6,0,none⟩):=xP
    rw[J5]at RQ
    obtain rfl:w0.heap.size+1+1=B6:=by simpa using RQ
    obtain rfl:=gZ (a:=a') (vs:=[.agg #[.int .u64 p.x0,.int .u64 p.x1,.int .u64 p.x2,.int .u64 p.x3,.int .u64 p.x4],.agg #[.int .u64 q.x0,.int .u64 q.x1,.int .u64 q.x2,.int .u64 q.x3,.int .u64 q.x4],.pointer (some ⟨w0.heap.size,0,none⟩),.pointer (some ⟨w0.heap.size+1,0,none⟩),.pointer (some ⟨w0.heap.size+1+1,0,none⟩),.pointer (some ⟨B1,0,none⟩),.pointer (some ⟨B2,0,none⟩),.pointer (some ⟨v3.heap.size,0,none⟩),.func (.func 150) #[] #[.pointer (some ⟨C,0,none⟩)],.pointer (some ⟨v5.heap.size,0,none⟩),q.v,(Fe.bZ q).v,q.v,(Fe.aM (Fe.bZ q) q).v,cube.v,(Fe.bZ cube).v,q.v,(Fe.aM (Fe.bZ cube) q).v,.agg #[.int .u64 p.x0,.int .u64 p.x1,.int .u64 p.x2,.int .u64 p.x3,.int .u64 p.x4],.agg #[.int .u64 sev.x0,.int .u64 sev.x1,.int .u64 sev.x2,.int .u64 sev.x3,.int .u64 sev.x4],.agg #[.int .u64 base.x0,.int .u64 base.x1,.int .u64 base.x2,.int .u64 base.x3,.int .u64 base.x4],.agg #[.int .u64 base.x0,.int .u64 base.x1,.int .u64 base.x2,.int .u64 base.x3,.int .u64 base.x4],.func (.func 150) #[] #[.pointer (some ⟨C,0,none⟩)],.func (.func 150) #[] #[.pointer (some ⟨C,0,none⟩)],.agg #[.int .u64 base.x0,.int .u64 base.x1,.int .u64 base.x2,.int .u64 base.x3,.int .u64 base.x4],.agg #[.int .u64 pw.x0,.int .u64 pw.x1,.int .u64 pw.x2,.int .u64 pw.x3,.int .u64 pw.x4],p.v,cube.v,(Fe.aM p cube).v,pw.v,(Fe.aM (Fe.aM p cube) pw).v]) hsz ⟨hrest 0 (by kernel_rfl),hrest 1 (by kernel_rfl),hrest 2 (by kernel_rfl),hrest 3 (by kernel_rfl),hrest 4 (by kernel_rfl),hrest 5 (by kernel_rfl),hrest 6 (by kernel_rfl),hrest 7 (by kernel_rfl),hrest 8 (by kernel_rfl),hrest 9 (by kernel_rfl),hrest 10 (by kernel_rfl),hrest 11 (by kernel_rfl),hrest 12 (by kernel_rfl),hrest 13 (by kernel_rfl),hrest 14 (by kernel_rfl),hrest 15 (by kernel_rfl),hrest 16 (by kernel_rfl),hrest 17 (by kernel_rfl),hrest 18 (by kernel_rfl),hrest 19 (by kernel_rfl),hrest 20 (by kernel_rfl),hrest 21 (by kernel_rfl),hrest 22 (by kernel_rfl),hrest 23 (by kernel_rfl),hrest 24 (by kernel_rfl),hrest 25 (by kernel_rfl),aC 26 (by kernel_rfl),aC 27 (by kernel_rfl),aC 28 (by kernel_rfl),aC 29 (by kernel_rfl),aC 30 (by kernel_rfl),trivial⟩ hdf
    have G6:=hB.g
    clear xP RQ hsz hdf hrest aC jN hB6 J5 hB
    obtain⟨g,hf⟩:∃f,f=Fe.aM (Fe.aM p cube) pw:=⟨_,rfl⟩
    rw[<- hf]at hb
    have Hg:=Lib.hid hf;clear hf
    have c0:=hb.cell (i:=0) rfl
    have c1:=hb.cell (i:=1) rfl
    have c2:=hb.cell (i:=2) rfl
    have c3:=hb.cell (i:=3) rfl
    have c4:=hb.cell (i:=4) rfl
    go_wp2_with fail
    refine bodyPost_ret (v:=.agg #[.int .u64 g.x0,.int .u64 g.x1,.int .u64 g.x2,.int .u64 g.x3,.int .u64 g.x4]) ?_ rfl ⟨g,Lib.hid ?_,rfl,G6⟩
    .simp[results,Tryz.results157,go_sem,c0,c1,c2,c3,c4]
    .rw[Hg.out,hpw.out,hon.out,hbase.out,agp.out,abB.out];rfl
end
section
open Go.RowKit
def tF (F:Fe) (b:Bool) (w:World) (e:Ending) (w':World):Prop:=
 ∃r:Fe,Hid (r=F)/\e=.returned (.tuple #[.agg #[.int .u64 r.x0,.int .u64 r.x1,.int .u64 r.x2,.int .u64 r.x3,.int .u64 r.x4],.bool b])/\w.grownBy w' none
theorem Af:fQ.Ok:=by constructor<;>decide
theorem jS (p q s:Fe) (b:Bool) (w:World) (iP:p.Ok) (kG:q.Ok) (oks:s.Ok) (hb:decide (Fe.m (Fe.aM (Fe.bZ p) s)=Fe.m q)=b):
  Calls Tryz.prog 158 #[.agg #[.int .u64 p.x0,.int .u64 p.x1,.int .u64 p.x2,.int .u64 p.x3,.int .u64 p.x4],.agg #[.int .u64 q.x0,.int .u64 q.x1,.int .u64 q.x2,.int .u64 q.x3,.int .u64 q.x4],.agg #[.int .u64 s.x0,.int .u64 s.x1,.int .u64 s.x2,.int .u64 s.x3,.int .u64 s.x4]] w fun e w'=>e=.returned (.bool b)/\w.grownBy w' none:=by
 rw[<- hb];exact zT p q s w iP kG oks
theorem wm (p:Fe) (b:Bool) (w:World) (iP:p.Ok) (hb:decide (Fe.m p%2=1)=b):Calls Tryz.prog 83 #[.agg #[.int .u64 p.x0,.int .u64 p.x1,.int .u64 p.x2,.int .u64 p.x3,.int .u64 p.x4]] w fun e w'=>e=.returned (.bool b)/\w.grownBy w' none:=by
 rw[<- hb];exact VE p w iP
theorem rR (p q:Fe) (w0:World):mJ w0 (w0.heap.size+3) [(w0.heap.size,p),(w0.heap.size+1,q)] [w0.heap.size+1+1] (((w0.alloc (.cells #[.int .u64 p.x0,.int .u64 p.x1,.int .u64 p.x2,.int .u64 p.x3,.int .u64 p.x4] 66)).alloc (.cells #[.int .u64 q.x0,.int .u64 q.x1,.int .u64 q.x2,.int .u64 q.x3,.int .u64 q.x4] 66)).alloc (.cells #[.int .u64 0,.int .u64 0,.int .u64 0,.int .u64 0,.int .u64 0] 66)):=
 ⟨au (au (au (ah _ _) _) _) _,by
  intro z hz
  simp only[List.mem_cons,List.not_mem_nil,or_false]at hz
  rcases hz with rfl|rfl
  .exact ((aG.new w0 (aQ _) _).alloc _).alloc _
  .exact (aG.newAt (w0.alloc _) (aQ _) _ (by simp)).alloc _,by
  intro B hB
  simp only[List.mem_cons,List.not_mem_nil,or_false]at hB
  subst hB
  exact⟨_,_,_,_,_,aG.newAt _ [.int .u64 0,.int .u64 0,.int .u64 0,.int .u64 0,.int .u64 0] _ (by simp)⟩,by intro z hz;simp only[List.mem_cons,List.not_mem_nil,or_false]at hz;rcases hz with rfl|rfl<;>simp only[]<;>omega,by simp,by omega⟩
set_option maxRecDepth 100000 in
set_option maxHeartbeats 1600000 in
theorem VH (p q:Fe) (w0:World) (hT:qY w0) (iP:p.Ok) (kG:q.Ok) (h1:decide (Fe.m (Fe.aM (Fe.bZ (dR p q)) q)=Fe.m p)=true) (h3:decide (Fe.m (dR p q)%2=1)=false):
  Calls Tryz.prog 153 #[.agg #[.int .u64 p.x0,.int .u64 p.x1,.int .u64 p.x2,.int .u64 p.x3,.int .u64 p.x4],.agg #[.int .u64 q.x0,.int .u64 q.x1,.int .u64 q.x2,.int .u64 q.x3,.int .u64 q.x4]] w0 (tF (dR p q) true w0):=by
 have HT:=Lib.hid hT;clear hT
 have H1:=Lib.hid h1;clear h1
 have H3:=Lib.hid h3;clear h3
 have hE0:mJ w0 (w0.heap.size+3) [(w0.heap.size,p),(w0.heap.size+1,q)] [w0.heap.size+1+1] (((w0.alloc (.cells #[.int .u64 p.x0,.int .u64 p.x1,.int .u64 p.x2,.int .u64 p.x3,.int .u64 p.x4] 66)).alloc (.cells #[.int .u64 q.x0,.int .u64 q.x1,.int .u64 q.x2,.int .u64 q.x3,.int .u64 q.x4] 66)).alloc (.cells #[.int .u64 0,.int .u64 0,.int .u64 0,.int .u64 0,.int .u64 0] 66)):=rR p q w0
 go_enter Tryz.func153,Tryz.ntmps153
 go_wp2_with fail
 refine (pY p q _ iP kG).mono ?_
 rintro e v1 ⟨g,hg,rfl,hg1⟩
 have Gh:g.Ok:=by rw[hg.out];exact (Fe.mul_right _ _).ok
 have hE1:=(hE0.grown hg1).grown (World.grownBy_alloc v1 (.cells #[.int .u64 g.x0,.int .u64 g.x1,.int .u64 g.x2,.int .u64 g.x3,.int .u64 g.x4] 66) none)
 have hl1:=(hE0.grown hg1).l
 have hG1:aG (v1.alloc (.cells #[.int .u64 g.x0,.int .u64 g.x1,.int .u64 g.x2,.int .u64 g.x3,.int .u64 g.x4] 66)) v1.heap.size 66 (aQ g):=aG.new v1 (aQ g) _
 clear hE0 hg1
 have gP:=hE1.e (w0.heap.size,p) (by simp)
 have iC:=hE1.e (w0.heap.size+1,q) (by simp)
 have c0:=gP.cell (i:=0) rfl
 have c1:=gP.cell (i:=1) rfl
 have c2:=gP.cell (i:=2) rfl
 have c3:=gP.cell (i:=3) rfl
 have c4:=gP.cell (i:=4) rfl
 have d0:=iC.cell (i:=0) rfl
 have d1:=iC.cell (i:=1) rfl
 have d2:=iC.cell (i:=2) rfl
 have d3:=iC.cell (i:=3) rfl
 have d4:=iC.cell (i:=4) rfl
 go_wp2_with fail
 refine (jS g p q true _ Gh iP kG (by rw[hg.out];exact H1.out)).mono ?_
 rintro e v2 ⟨rfl,hg2⟩
 have hE2:=hE1.grown hg2
 have hG2:=hG1.grown hg2 (by simp)
 clear hE1 hG1 hg2 gP iC c0 c1 c2 c3 c4 d0 d1 d2 d3 d4
 have gP:=hE2.e (w0.heap.size,p) (by simp)
 have iC:=hE2.e (w0.heap.size+1,q) (by simp)
 have c0:=gP.cell (i:=0) rfl
 have c1:=gP.cell (i:=1) rfl
 have c2:=gP.cell (i:=2) rfl
 have c3:=gP.cell (i:=3) rfl
 have c4:=gP.cell (i:=4) rfl
 have d0:=iC.cell (i:=0) rfl
 have d1:=iC.cell (i:=1) rfl
 have d2:=iC.cell (i:=2) rfl
 have d3:=iC.cell (i:=3) rfl
 have d4:=iC.cell (i:=4) rfl
 have x0:=hG2.cell (i:=0) rfl
 have x1:=hG2.cell (i:=1) rfl
 have x2:=hG2.cell (i:=2) rfl
 have x3:=hG2.cell (i:=3) rfl
 have x4:=hG2.cell (i:=4) rfl
 have y0:=hG2.free 0
 have y1:=hG2.free 1
 have y2:=hG2.free 2
 have y3:=hG2.free 3
 have y4:=hG2.free 4
 go_wp2_with fail
 refine (jS g p q true _ Gh iP kG (by rw[hg.out];exact H1.out)).mono ?_
 rintro e v5 ⟨rfl,hg5⟩
 have zh:=hE2.grown hg5
 have mF:=hG2.grown hg5 (by simp)
 clear hE2 hG2 hg5 gP iC c0 c1 c2 c3 c4 d0 d1 d2 d3 d4 x0 x1 x2 x3 x4 y0 y1 y2 y3 y4
 have x0:=mF.cell (i:=0) rfl
 have x1:=mF.cell (i:=1) rfl
 have x2:=mF.cell (i:=2) rfl
 have x3:=mF.cell (i:=3) rfl
 have x4:=mF.cell (i:=4) rfl
 have y0:=mF.free 0
 have y1:=mF.free 1
 have y2:=mF.free 2
 have y3:=mF.free 3
 have y4:=mF.free 4
 go_wp2_with fail
 refine (wm g false _ Gh (by rw[hg.out];exact H3.out)).mono ?_
 rintro e v6 ⟨rfl,uD⟩
 have OG:=zh.grown uD
 have nQ:=mF.grown uD (by simp)
 clear zh mF uD x0 x1 x2 x3 x4 y0 y1 y2 y3 y4
 have x0:=nQ.cell (i:=0) rfl
 have x1:=nQ.cell (i:=1) rfl
 have x2:=nQ.cell (i:=2) rfl
 have x3:=nQ.cell (i:=3) rfl
 have x4:=nQ.cell (i:=4) rfl
 have y0:=nQ.free 0
 have y1:=nQ.free 1
 have y2:=nQ.free 2
 have y3:=nQ.free 3
 have y4:=nQ.free 4
 obtain⟨u0,u1,u2,u3,u4,hR⟩:=OG.r _ (List.mem_singleton.2 rfl)
 have s0:=hR.cell (i:=0) rfl
 have s1:=hR.cell (i:=1) rfl
 have s2:=hR.cell (i:=2) rfl
 have s3:=hR.cell (i:=3) rfl
 have s4:=hR.cell (i:=4) rfl
 have z0:=hR.free 0
 have z1:=hR.free 1
 have z2:=hR.free 2
 have z3:=hR.free 3
 have z4:=hR.free 4
 go_wp2_with fail
 refine bodyPost_ret (v:=.tuple #[.agg #[.int .u64 g.x0,.int .u64 g.x1,.int .u64 g.x2,.int .u64 g.x3,.int .u64 g.x4],.bool true]) ?_ rfl ⟨g,Lib.hid (by rw[hg.out]),rfl,jv OG.g (by omega) _ _ _ _ _⟩
 simp[results,Tryz.results153,go_sem,s0,s1,s2,s3,s4]
set_option maxRecDepth 100000 in
set_option maxHeartbeats 1600000 in
theorem VI (p q:Fe) (w0:World) (hT:qY w0) (iP:p.Ok) (kG:q.Ok) (h1:decide (Fe.m (Fe.aM (Fe.bZ (dR p q)) q)=Fe.m p)=true) (h3:decide (Fe.m (dR p q)%2=1)=true):
  Calls Tryz.prog 153 #[.agg #[.int .u64 p.x0,.int .u64 p.x1,.int .u64 p.x2,.int .u64 p.x3,.int .u64 p.x4],.agg #[.int .u64 q.x0,.int .u64 q.x1,.int .u64 q.x2,.int .u64 q.x3,.int .u64 q.x4]] w0 (tF (Fe.kF (dR p q)) true w0):=by
 have HT:=Lib.hid hT;clear hT
 have H1:=Lib.hid h1;clear h1
 have H3:=Lib.hid h3;clear h3
 have hE0:mJ w0 (w0.heap.size+3) [(w0.heap.size,p),(w0.heap.size+1,q)] [w0.heap.size+1+1] (((w0.alloc (.cells #[.int .u64 p.x0,.int .u64 p.x1,.int .u64 p.x2,.int .u64 p.x3,.int .u64 p.x4] 66)).alloc (.cells #[.int .u64 q.x0,.int .u64 q.x1,.int .u64 q.x2,.int .u64 q.x3,.int .u64 q.x4] 66)).alloc (.cells #[.int .u64 0,.int .u64 0,.int .u64 0,.int .u64 0,.int .u64 0] 66)):=rR p q w0
 go_enter Tryz.func153,Tryz.ntmps153
 go_wp2_with fail
 refine (pY p q _ iP kG).mono ?_
 rintro e v1 ⟨g,hg,rfl,hg1⟩
 have Gh:g.Ok:=by rw[hg.out];exact (Fe.mul_right _ _).ok
 have hE1:=(hE0.grown hg1).grown (World.grownBy_alloc v1 (.cells #[.int .u64 g.x0,.int .u64 g.x1,.int .u64 g.x2,.int .u64 g.x3,.int .u64 g.x4] 66) none)
 have hl1:=(hE0.grown hg1).l
 have hG1:aG (v1.alloc (.cells #[.int .u64 g.x0,.int .u64 g.x1,.int .u64 g.x2,.int .u64 g.x3,.int .u64 g.x4] 66)) v1.heap.size 66 (aQ g):=aG.new v1 (aQ g) _
 clear hE0 hg1
 have gP:=hE1.e (w0.heap.size,p) (by simp)
 have iC:=hE1.e (w0.heap.size+1,q) (by simp)
 have c0:=gP.cell (i:=0) rfl
 have c1:=gP.cell (i:=1) rfl
 have c2:=gP.cell (i:=2) rfl
 have c3:=gP.cell (i:=3) rfl
 have c4:=gP.cell (i:=4) rfl
 have d0:=iC.cell (i:=0) rfl
 have d1:=iC.cell (i:=1) rfl
 have d2:=iC.cell (i:=2) rfl
 have d3:=iC.cell (i:=3) rfl
 have d4:=iC.cell (i:=4) rfl
 go_wp2_with fail
 refine (jS g p q true _ Gh iP kG (by rw[hg.out];exact H1.out)).mono ?_
 rintro e v2 ⟨rfl,hg2⟩
 have hE2:=hE1.grown hg2
 have hG2:=hG1.grown hg2 (by simp)
 clear hE1 hG1 hg2 gP iC c0 c1 c2 c3 c4 d0 d1 d2 d3 d4
 have gP:=hE2.e (w0.heap.size,p) (by simp)
 have iC:=hE2.e (w0.heap.size+1,q) (by simp)
 have c0:=gP.cell (i:=0) rfl
 have c1:=gP.cell (i:=1) rfl
 have c2:=gP.cell (i:=2) rfl
 have c3:=gP.cell (i:=3) rfl
 have c4:=gP.cell (i:=4) rfl
 have d0:=iC.cell (i:=0) rfl
 have d1:=iC.cell (i:=1) rfl
 have d2:=iC.cell (i:=2) rfl
 have d3:=iC.cell (i:=3) rfl
 have d4:=iC.cell (i:=4) rfl
 have x0:=hG2.cell (i:=0) rfl
 have x1:=hG2.cell (i:=1) rfl
 have x2:=hG2.cell (i:=2) rfl
 have x3:=hG2.cell (i:=3) rfl
 have x4:=hG2.cell (i:=4) rfl
 have y0:=hG2.free 0
 have y1:=hG2.free 1
 have y2:=hG2.free 2
 have y3:=hG2.free 3
 have y4:=hG2.free 4
 go_wp2_with fail
 refine (jS g p q true _ Gh iP kG (by rw[hg.out];exact H1.out)).mono ?_
 rintro e v5 ⟨rfl,hg5⟩
 have zh:=hE2.grown hg5
 have mF:=hG2.grown hg5 (by simp)
 clear hE2 hG2 hg5 gP iC c0 c1 c2 c3 c4 d0 d1 d2 d3 d4 x0 x1 x2 x3 x4 y0 y1 y2 y3 y4
 have x0:=mF.cell (i:=0) rfl
 have x1:=mF.cell (i:=1) rfl
 have x2:=mF.cell (i:=2) rfl
 have x3:=mF.cell (i:=3) rfl
 have x4:=mF.cell (i:=4) rfl
 have y0:=mF.free 0
 have y1:=mF.free 1
 have y2:=mF.free 2
 have y3:=mF.free 3
 have y4:=mF.free 4
 go_wp2_with fail
 refine (wm g true _ Gh (by rw[hg.out];exact H3.out)).mono ?_
 rintro e v6 ⟨rfl,uD⟩
 have OG:=zh.grown uD
 have nQ:=mF.grown uD (by simp)
 clear zh mF uD x0 x1 x2 x3 x4 y0 y1 y2 y3 y4
 have x0:=nQ.cell (i:=0) rfl
 have x1:=nQ.cell (i:=1) rfl
 have x2:=nQ.cell (i:=2) rfl
 have x3:=nQ.cell (i:=3) rfl
 have x4:=nQ.cell (i:=4) rfl
 have y0:=nQ.free 0
 have y1:=nQ.free 1
 have y2:=nQ.free 2
 have y3:=nQ.free 3
 have y4:=nQ.free 4
 go_wp2_with fail
 refine (Ee g _ (HT.out.grown OG.g) Gh).mono ?_
 rintro e v7 ⟨n,hn,rfl,J6⟩
 have hK2:Cm w0 [(w0.heap.size,p),(w0.heap.size+1,q)] v1.heap.size:=by
  refine⟨by omega,?_⟩
  intro z hz
  simp only[List.mem_cons,List.not_mem_nil,or_false]at hz
  rcases hz with rfl|rfl<;>simp only[]<;>omega
 have YT:=(OG.grown J6).set hK2 n
 have Cn:=nQ.grown J6 (by simp)
 clear OG nQ J6 x0 x1 x2 x3 x4 y0 y1 y2 y3 y4
 have x0:=Cn.cell (i:=0) rfl
 have x1:=Cn.cell (i:=1) rfl
 have x2:=Cn.cell (i:=2) rfl
 have x3:=Cn.cell (i:=3) rfl
 have x4:=Cn.cell (i:=4) rfl
 have y0:=Cn.free 0
 have y1:=Cn.free 1
 have y2:=Cn.free 2
 have y3:=Cn.free 3
 have y4:=Cn.free 4
 obtain⟨u0,u1,u2,u3,u4,hR⟩:=YT.r _ (List.mem_singleton.2 rfl)
 unfold jO at YT hR
 have s0:=hR.cell (i:=0) rfl
 have s1:=hR.cell (i:=1) rfl
 have s2:=hR.cell (i:=2) rfl
 have s3:=hR.cell (i:=3) rfl
 have s4:=hR.cell (i:=4) rfl
 have z0:=hR.free 0
 have z1:=hR.free 1
 have z2:=hR.free 2
 have z3:=hR.free 3
 have z4:=hR.free 4
 go_wp2_with fail
 refine bodyPost_ret (v:=.tuple #[.agg #[.int .u64 n.x0,.int .u64 n.x1,.int .u64 n.x2,.int .u64 n.x3,.int .u64 n.x4],.bool true]) ?_ rfl ⟨n,Lib.hid (by rw[hn.out,hg.out]),rfl,jv YT.g (by omega) _ _ _ _ _⟩
 simp[results,Tryz.results153,go_sem,s0,s1,s2,s3,s4]
set_option maxRecDepth 100000 in
set_option maxHeartbeats 1600000 in
theorem VJ (p q:Fe) (w0:World) (hT:qY w0) (iP:p.Ok) (kG:q.Ok) (h1:decide (Fe.m (Fe.aM (Fe.bZ (dR p q)) q)=Fe.m p)=false) (h2:decide (Fe.m (Fe.aM (Fe.bZ (Fe.aM (dR p q) fQ)) q)=Fe.m p)=true) (h3:decide (Fe.m (Fe.aM (dR p q) fQ)%2=1)=false):
  Calls Tryz.prog 153 #[.agg #[.int .u64 p.x0,.int .u64 p.x1,.int .u64 p.x2,.int .u64 p.x3,.int .u64 p.x4],.agg #[.int .u64 q.x0,.int .u64 q.x1,.int .u64 q.x2,.int .u64 q.x3,.int .u64 q.x4]] w0 (tF (Fe.aM (dR p q) fQ) true w0):=by
 have HT:=Lib.hid hT;clear hT
 have H1:=Lib.hid h1;clear h1
 have H2:=Lib.hid h2;clear h2
 have H3:=Lib.hid h3;clear h3
 have hE0:mJ w0 (w0.heap.size+3) [(w0.heap.size,p),(w0.heap.size+1,q)] [w0.heap.size+1+1] (((w0.alloc (.cells #[.int .u64 p.x0,.int .u64 p.x1,.int .u64 p.x2,.int .u64 p.x3,.int .u64 p.x4] 66)).alloc (.cells #[.int .u64 q.x0,.int .u64 q.x1,.int .u64 q.x2,.int .u64 q.x3,.int .u64 q.x4] 66)).alloc (.cells #[.int .u64 0,.int .u64 0,.int .u64 0,.int .u64 0,.int .u64 0] 66)):=rR p q w0
 go_enter Tryz.func153,Tryz.ntmps153
 go_wp2_with fail
 refine (pY p q _ iP kG).mono ?_
 rintro e v1 ⟨g,hg,rfl,hg1⟩
 have Gh:g.Ok:=by rw[hg.out];exact (Fe.mul_right _ _).ok
 have hE1:=(hE0.grown hg1).grown (World.grownBy_alloc v1 (.cells #[.int .u64 g.x0,.int .u64 g.x1,.int .u64 g.x2,.int .u64 g.x3,.int .u64 g.x4] 66) none)
 have hl1:=(hE0.grown hg1).l
 have hG1:aG (v1.alloc (.cells #[.int .u64 g.x0,.int .u64 g.x1,.int .u64 g.x2,.int .u64 g.x3,.int .u64 g.x4] 66)) v1.heap.size 66 (aQ g):=aG.new v1 (aQ g) _
 clear hE0 hg1
 have gP:=hE1.e (w0.heap.size,p) (by simp)
 have iC:=hE1.e (w0.heap.size+1,q) (by simp)
 have c0:=gP.cell (i:=0) rfl
 have c1:=gP.cell (i:=1) rfl
 have c2:=gP.cell (i:=2) rfl
 have c3:=gP.cell (i:=3) rfl
 have c4:=gP.cell (i:=4) rfl
 have d0:=iC.cell (i:=0) rfl
 have d1:=iC.cell (i:=1) rfl
 have d2:=iC.cell (i:=2) rfl
 have d3:=iC.cell (i:=3) rfl
 have d4:=iC.cell (i:=4) rfl
 go_wp2_with fail
 refine (jS g p q false _ Gh iP kG (by rw[hg.out];exact H1.out)).mono ?_
 rintro e v2 ⟨rfl,hg2⟩
 have hE2:=hE1.grown hg2
 have hG2:=hG1.grown hg2 (by simp)
 clear hE1 hG1 hg2 gP iC c0 c1 c2 c3 c4 d0 d1 d2 d3 d4
 have gP:=hE2.e (w0.heap.size,p) (by simp)
 have iC:=hE2.e (w0.heap.size+1,q) (by simp)
 have c0:=gP.cell (i:=0) rfl
 have c1:=gP.cell (i:=1) rfl
 have c2:=gP.cell (i:=2) rfl
 have c3:=gP.cell (i:=3) rfl
 have c4:=gP.cell (i:=4) rfl
 have d0:=iC.cell (i:=0) rfl
 have d1:=iC.cell (i:=1) rfl
 have d2:=iC.cell (i:=2) rfl
 have d3:=iC.cell (i:=3) rfl
 have d4:=iC.cell (i:=4) rfl
 have x0:=hG2.cell (i:=0) rfl
 have x1:=hG2.cell (i:=1) rfl
 have x2:=hG2.cell (i:=2) rfl
 have x3:=hG2.cell (i:=3) rfl
 have x4:=hG2.cell (i:=4) rfl
 have y0:=hG2.free 0
 have y1:=hG2.free 1
 have y2:=hG2.free 2
 have y3:=hG2.free 3
 have y4:=hG2.free 4
 have Da:=HT.out.grown hE2.g
 have t0:v2.cell? ⟨6,0,none⟩=some (.int .u64 fQ.x0):=Da.q 0 (by decide)
 have t1:v2.cell? ⟨6,1,none⟩=some (.int .u64 fQ.x1):=Da.q 1 (by decide)
 have t2:v2.cell? ⟨6,2,none⟩=some (.int .u64 fQ.x2):=Da.q 2 (by decide)
 have t3:v2.cell? ⟨6,3,none⟩=some (.int .u64 fQ.x3):=Da.q 3 (by decide)
 have t4:v2.cell? ⟨6,4,none⟩=some (.int .u64 fQ.x4):=Da.q 4 (by decide)
 clear Da
 go_wp2_with fail
 refine (lC g fQ _ Gh Af).mono ?_
 rintro e v3 ⟨gi,hgi,rfl,hg3⟩
 have Gi:gi.Ok:=by rw[hgi.out];exact (Fe.mul_right _ _).ok
 have hK:Cm w0 [(w0.heap.size,p),(w0.heap.size+1,q)] v1.heap.size:=by
  refine⟨by omega,?_⟩
  intro z hz
  simp only[List.mem_cons,List.not_mem_nil,or_false]at hz
  rcases hz with rfl|rfl<;>simp only[]<;>omega
 have Gj:=(hE2.grown hg3).set hK gi
 have hG4:aG (jO v3 v1.heap.size gi) v1.heap.size 66 (aQ gi):=jF ⟨_,_,_,_,_,hG2.grown hg3 (by simp)⟩
 have hG3:=hG2.grown hg3 (by simp)
 clear hE2 hG2 hg3 gP iC c0 c1 c2 c3 c4 d0 d1 d2 d3 d4 x0 x1 x2 x3 x4 y0 y1 y2 y3 y4 t0 t1 t2 t3 t4
 have x0:=hG3.cell (i:=0) rfl
 have x1:=hG3.cell (i:=1) rfl
 have x2:=hG3.cell (i:=2) rfl
 have x3:=hG3.cell (i:=3) rfl
 have x4:=hG3.cell (i:=4) rfl
 have y0:=hG3.free 0
 have y1:=hG3.free 1
 have y2:=hG3.free 2
 have y3:=hG3.free 3
 have y4:=hG3.free 4
 have gP:=Gj.e (w0.heap.size,p) (by simp)
 have iC:=Gj.e (w0.heap.size+1,q) (by simp)
 unfold jO at Gj hG4 gP iC
 have c0:=gP.cell (i:=0) rfl
 have c1:=gP.cell (i:=1) rfl
 have c2:=gP.cell (i:=2) rfl
 have c3:=gP.cell (i:=3) rfl
 have c4:=gP.cell (i:=4) rfl
 have d0:=iC.cell (i:=0) rfl
 have d1:=iC.cell (i:=1) rfl
 have d2:=iC.cell (i:=2) rfl
 have d3:=iC.cell (i:=3) rfl
 have d4:=iC.cell (i:=4) rfl
 go_wp2_with fail
 refine (jS gi p q true _ Gi iP kG (by rw[hgi.out,hg.out];exact H2.out)).mono ?_
 rintro e v5 ⟨rfl,hg5⟩
 have zh:=Gj.grown hg5
 have mF:=hG4.grown hg5 (by simp)
 clear Gj hG4 hG3 hg5 gP iC c0 c1 c2 c3 c4 d0 d1 d2 d3 d4 x0 x1 x2 x3 x4 y0 y1 y2 y3 y4
 have x0:=mF.cell (i:=0) rfl
 have x1:=mF.cell (i:=1) rfl
 have x2:=mF.cell (i:=2) rfl
 have x3:=mF.cell (i:=3) rfl
 have x4:=mF.cell (i:=4) rfl
 have y0:=mF.free 0
 have y1:=mF.free 1
 have y2:=mF.free 2
 have y3:=mF.free 3
 have y4:=mF.free 4
 go_wp2_with fail
 refine (wm gi false _ Gi (by rw[hgi.out,hg.out];exact H3.out)).mono ?_
 rintro e v6 ⟨rfl,uD⟩
 have OG:=zh.grown uD
 have nQ:=mF.grown uD (by simp)
 clear zh mF uD x0 x1 x2 x3 x4 y0 y1 y2 y3 y4
 have x0:=nQ.cell (i:=0) rfl
 have x1:=nQ.cell (i:=1) rfl
 have x2:=nQ.cell (i:=2) rfl
 have x3:=nQ.cell (i:=3) rfl
 have x4:=nQ.cell (i:=4) rfl
 have y0:=nQ.free 0
 have y1:=nQ.free 1
 have y2:=nQ.free 2
 have y3:=nQ.free 3
 have y4:=nQ.free 4
 obtain⟨u0,u1,u2,u3,u4,hR⟩:=OG.r _ (List.mem_singleton.2 rfl)
 have s0:=hR.cell (i:=0) rfl
 have s1:=hR.cell (i:=1) rfl
 have s2:=hR.cell (i:=2) rfl
 have s3:=hR.cell (i:=3) rfl
 have s4:=hR.cell (i:=4) rfl
 have z0:=hR.free 0
 have z1:=hR.free 1
 have z2:=hR.free 2
 have z3:=hR.free 3
 have z4:=hR.free 4
 go_wp2_with fail
 refine bodyPost_ret (v:=.tuple #[.agg #[.int .u64 gi.x0,.int .u64 gi.x1,.int .u64 gi.x2,.int .u64 gi.x3,.int .u64 gi.x4],.bool true]) ?_ rfl ⟨gi,Lib.hid (by rw[hgi.out,hg.out]),rfl,jv OG.g (by omega) _ _ _ _ _⟩
 simp[results,Tryz.results153,go_sem,s0,s1,s2,s3,s4]
set_option maxRecDepth 100000 in
set_option maxHeartbeats 1600000 in
theorem VK (p q:Fe) (w0:World) (hT:qY w0) (iP:p.Ok) (kG:q.Ok) (h1:decide (Fe.m (Fe.aM (Fe.bZ (dR p q)) q)=Fe.m p)=false) (h2:decide (Fe.m (Fe.aM (Fe.bZ (Fe.aM (dR p q) fQ)) q)=Fe.m p)=true) (h3:decide (Fe.m (Fe.aM (dR p q) fQ)%2=1)=true):
  Calls Tryz.prog 153 #[.agg #[.int .u64 p.x0,.int .u64 p.x1,.int .u64 p.x2,.int .u64 p.x3,.int .u64 p.x4],.agg #[.int .u64 q.x0,.int .u64 q.x1,.int .u64 q.x2,.int .u64 q.x3,.int .u64 q.x4]] w0 (tF (Fe.kF (Fe.aM (dR p q) fQ)) true w0):=by
 have HT:=Lib.hid hT;clear hT
 have H1:=Lib.hid h1;clear h1
 have H2:=Lib.hid h2;clear h2
 have H3:=Lib.hid h3;clear h3
 have hE0:mJ w0 (w0.heap.size+3) [(w0.heap.size,p),(w0.heap.size+1,q)] [w0.heap.size+1+1] (((w0.alloc (.cells #[.int .u64 p.x0,.int .u64 p.x1,.int .u64 p.x2,.int .u64 p.x3,.int .u64 p.x4] 66)).alloc (.cells #[.int .u64 q.x0,.int .u64 q.x1,.int .u64 q.x2,.int .u64 q.x3,.int .u64 q.x4] 66)).alloc (.cells #[.int .u64 0,.int .u64 0,.int .u64 0,.int .u64 0,.int .u64 0] 66)):=rR p q w0
 go_enter Tryz.func153,Tryz.ntmps153
 go_wp2_with fail
 refine (pY p q _ iP kG).mono ?_
 rintro e v1 ⟨g,hg,rfl,hg1⟩
 have Gh:g.Ok:=by rw[hg.out];exact (Fe.mul_right _ _).ok
 have hE1:=(hE0.grown hg1).grown (World.grownBy_alloc v1 (.cells #[.int .u64 g.x0,.int .u64 g.x1,.int .u64 g.x2,.int .u64 g.x3,.int .u64 g.x4] 66) none)
 have hl1:=(hE0.grown hg1).l
 have hG1:aG (v1.alloc (.cells #[.int .u64 g.x0,.int .u64 g.x1,.int .u64 g.x2,.int .u64 g.x3,.int .u64 g.x4] 66)) v1.heap.size 66 (aQ g):=aG.new v1 (aQ g) _
 clear hE0 hg1
 have gP:=hE1.e (w0.heap.size,p) (by simp)
 have iC:=hE1.e (w0.heap.size+1,q) (by simp)
 have c0:=gP.cell (i:=0) rfl
 have c1:=gP.cell (i:=1) rfl
 have c2:=gP.cell (i:=2) rfl
 have c3:=gP.cell (i:=3) rfl
 have c4:=gP.cell (i:=4) rfl
 have d0:=iC.cell (i:=0) rfl
 have d1:=iC.cell (i:=1) rfl
 have d2:=iC.cell (i:=2) rfl
 have d3:=iC.cell (i:=3) rfl
 have d4:=iC.cell (i:=4) rfl
 go_wp2_with fail
 refine (jS g p q false _ Gh iP kG (by rw[hg.out];exact H1.out)).mono ?_
 rintro e v2 ⟨rfl,hg2⟩
 have hE2:=hE1.grown hg2
 have hG2:=hG1.grown hg2 (by simp)
 clear hE1 hG1 hg2 gP iC c0 c1 c2 c3 c4 d0 d1 d2 d3 d4
 have gP:=hE2.e (w0.heap.size,p) (by simp)
 have iC:=hE2.e (w0.heap.size+1,q) (by simp)
 have c0:=gP.cell (i:=0) rfl
 have c1:=gP.cell (i:=1) rfl
 have c2:=gP.cell (i:=2) rfl
 have c3:=gP.cell (i:=3) rfl
 have c4:=gP.cell (i:=4) rfl
 have d0:=iC.cell (i:=0) rfl
 have d1:=iC.cell (i:=1) rfl
 have d2:=iC.cell (i:=2) rfl
 have d3:=iC.cell (i:=3) rfl
 have d4:=iC.cell (i:=4) rfl
 have x0:=hG2.cell (i:=0) rfl
 have x1:=hG2.cell (i:=1) rfl
 have x2:=hG2.cell (i:=2) rfl
 have x3:=hG2.cell (i:=3) rfl
 have x4:=hG2.cell (i:=4) rfl
 have y0:=hG2.free 0
 have y1:=hG2.free 1
 have y2:=hG2.free 2
 have y3:=hG2.free 3
 have y4:=hG2.free 4
 have Da:=HT.out.grown hE2.g
 have t0:v2.cell? ⟨6,0,none⟩=some (.int .u64 fQ.x0):=Da.q 0 (by decide)
 have t1:v2.cell? ⟨6,1,none⟩=some (.int .u64 fQ.x1):=Da.q 1 (by decide)
 have t2:v2.cell? ⟨6,2,none⟩=some (.int .u64 fQ.x2):=Da.q 2 (by decide)
 have t3:v2.cell? ⟨6,3,none⟩=some (.int .u64 fQ.x3):=Da.q 3 (by decide)
 have t4:v2.cell? ⟨6,4,none⟩=some (.int .u64 fQ.x4):=Da.q 4 (by decide)
 clear Da
 go_wp2_with fail
 refine (lC g fQ _ Gh Af).mono ?_
 rintro e v3 ⟨gi,hgi,rfl,hg3⟩
 have Gi:gi.Ok:=by rw[hgi.out];exact (Fe.mul_right _ _).ok
 have hK:Cm w0 [(w0.heap.size,p),(w0.heap.size+1,q)] v1.heap.size:=by
  refine⟨by omega,?_⟩
  intro z hz
  simp only[List.mem_cons,List.not_mem_nil,or_false]at hz
  rcases hz with rfl|rfl<;>simp only[]<;>omega
 have Gj:=(hE2.grown hg3).set hK gi
 have hG4:aG (jO v3 v1.heap.size gi) v1.heap.size 66 (aQ gi):=jF ⟨_,_,_,_,_,hG2.grown hg3 (by simp)⟩
 have hG3:=hG2.grown hg3 (by simp)
 clear hE2 hG2 hg3 gP iC c0 c1 c2 c3 c4 d0 d1 d2 d3 d4 x0 x1 x2 x3 x4 y0 y1 y2 y3 y4 t0 t1 t2 t3 t4
 have x0:=hG3.cell (i:=0) rfl
 have x1:=hG3.cell (i:=1) rfl
 have x2:=hG3.cell (i:=2) rfl
 have x3:=hG3.cell (i:=3) rfl
 have x4:=hG3.cell (i:=4) rfl
 have y0:=hG3.free 0
 have y1:=hG3.free 1
 have y2:=hG3.free 2
 have y3:=hG3.free 3
 have y4:=hG3.free 4
 have gP:=Gj.e (w0.heap.size,p) (by simp)
 have iC:=Gj.e (w0.heap.size+1,q) (by simp)
 unfold jO at Gj hG4 gP iC
 have c0:=gP.cell (i:=0) rfl
 have c1:=gP.cell (i:=1) rfl
 have c2:=gP.cell (i:=2) rfl
 have c3:=gP.cell (i:=3) rfl
 have c4:=gP.cell (i:=4) rfl
 have d0:=iC.cell (i:=0) rfl
 have d1:=iC.cell (i:=1) rfl
 have d2:=iC.cell (i:=2) rfl
 have d3:=iC.cell (i:=3) rfl
 have d4:=iC.cell (i:=4) rfl
 go_wp2_with fail
 refine (jS gi p q true _ Gi iP kG (by rw[hgi.out,hg.out];exact H2.out)).mono ?_
 rintro e v5 ⟨rfl,hg5⟩
 have zh:=Gj.grown hg5
 have mF:=hG4.grown hg5 (by simp)
 clear Gj hG4 hG3 hg5 gP iC c0 c1 c2 c3 c4 d0 d1 d2 d3 d4 x0 x1 x2 x3 x4 y0 y1 y2 y3 y4
 have x0:=mF.cell (i:=0) rfl
 have x1:=mF.cell (i:=1) rfl
 have x2:=mF.cell (i:=2) rfl
 have x3:=mF.cell (i:=3) rfl
 have x4:=mF.cell (i:=4) rfl
 have y0:=mF.free 0
 have y1:=mF.free 1
 have y2:=mF.free 2
 have y3:=mF.free 3
 have y4:=mF.free 4
 go_wp2_with fail
 refine (wm gi true _ Gi (by rw[hgi.out,hg.out];exact H3.out)).mono ?_
 rintro e v6 ⟨rfl,uD⟩
 have OG:=zh.grown uD
 have nQ:=mF.grown uD (by simp)
 clear zh mF uD x0 x1 x2 x3 x4 y0 y1 y2 y3 y4
 have x0:=nQ.cell (i:=0) rfl
 have x1:=nQ.cell (i:=1) rfl
 have x2:=nQ.cell (i:=2) rfl
 have x3:=nQ.cell (i:=3) rfl
 have x4:=nQ.cell (i:=4) rfl
 have y0:=nQ.free 0
 have y1:=nQ.free 1
 have y2:=nQ.free 2
 have y3:=nQ.free 3
 have y4:=nQ.free 4
 go_wp2_with fail
 refine (Ee gi _ (HT.out.grown OG.g) Gi).mono ?_
 rintro e v7 ⟨n,hn,rfl,J6⟩
 have hK2:Cm w0 [(w0.heap.size,p),(w0.heap.size+1,q)] v1.heap.size:=by
  refine⟨by omega,?_⟩
  intro z hz
  simp only[List.mem_cons,List.not_mem_nil,or_false]at hz
  rcases hz with rfl|rfl<;>simp only[]<;>omega
 have YT:=(OG.grown J6).set hK2 n
 have Cn:=nQ.grown J6 (by simp)
 clear OG nQ J6 x0 x1 x2 x3 x4 y0 y1 y2 y3 y4
 have x0:=Cn.cell (i:=0) rfl
 have x1:=Cn.cell (i:=1) rfl
 have x2:=Cn.cell (i:=2) rfl
 have x3:=Cn.cell (i:=3) rfl
 have x4:=Cn.cell (i:=4) rfl
 have y0:=Cn.free 0
 have y1:=Cn.free 1
 have y2:=Cn.free 2
 have y3:=Cn.free 3
 have y4:=Cn.free 4
 obtain⟨u0,u1,u2,u3,u4,hR⟩:=YT.r _ (List.mem_singleton.2 rfl)
 unfold jO at YT hR
 have s0:=hR.cell (i:=0) rfl
 have s1:=hR.cell (i:=1) rfl
 have s2:=hR.cell (i:=2) rfl
 have s3:=hR.cell (i:=3) rfl
 have s4:=hR.cell (i:=4) rfl
 have z0:=hR.free 0
 have z1:=hR.free 1
 have z2:=hR.free 2
 have z3:=hR.free 3
 have z4:=hR.free 4
 go_wp2_with fail
 refine bodyPost_ret (v:=.tuple #[.agg #[.int .u64 n.x0,.int .u64 n.x1,.int .u64 n.x2,.int .u64 n.x3,.int .u64 n.x4],.bool true]) ?_ rfl ⟨n,Lib.hid (by rw[hn.out,hgi.out,hg.out]),rfl,jv YT.g (by omega) _ _ _ _ _⟩
 simp[results,Tryz.results153,go_sem,s0,s1,s2,s3,s4]
set_option maxRecDepth 100000 in
set_option maxHeartbeats 1600000 in
theorem VL (p q:Fe) (w0:World) (hT:qY w0) (iP:p.Ok) (kG:q.Ok) (h1:decide (Fe.m (Fe.aM (Fe.bZ (dR p q)) q)=Fe.m p)=false) (h2:decide (Fe.m (Fe.aM (Fe.bZ (Fe.aM (dR p q) fQ)) q)=Fe.m p)=false):
  Calls Tryz.prog 153 #[.agg #[.int .u64 p.x0,.int .u64 p.x1,.int .u64 p.x2,.int .u64 p.x3,.int .u64 p.x4],.agg #[.int .u64 q.x0,.int .u64 q.x1,.int .u64 q.x2,.int .u64 q.x3,.int .u64 q.x4]] w0 (tF Fe.bL false w0):=by
 have HT:=Lib.hid hT;clear hT
 have H1:=Lib.hid h1;clear h1
 have H2:=Lib.hid h2;clear h2
 have hE0:mJ w0 (w0.heap.size+3) [(w0.heap.size,p),(w0.heap.size+1,q)] [w0.heap.size+1+1] (((w0.alloc (.cells #[.int .u64 p.x0,.int .u64 p.x1,.int .u64 p.x2,.int .u64 p.x3,.int .u64 p.x4] 66)).alloc (.cells #[.int .u64 q.x0,.int .u64 q.x1,.int .u64 q.x2,.int .u64 q.x3,.int .u64 q.x4] 66)).alloc (.cells #[.int .u64 0,.int .u64 0,.int .u64 0,.int .u64 0,.int .u64 0] 66)):=rR p q w0
 go_enter Tryz.func153,Tryz.ntmps153
 go_wp2_with fail
 refine (pY p q _ iP kG).mono ?_
 rintro e v1 ⟨g,hg,rfl,hg1⟩
 have Gh:g.Ok:=by rw[hg.out];exact (Fe.mul_right _ _).ok
 have hE1:=(hE0.grown hg1).grown (World.grownBy_alloc v1 (.cells #[.int .u64 g.x0,.int .u64 g.x1,.int .u64 g.x2,.int .u64 g.x3,.int .u64 g.x4] 66) none)
 have hl1:=(hE0.grown hg1).l
 have hG1:aG (v1.alloc (.cells #[.int .u64 g.x0,.int .u64 g.x1,.int .u64 g.x2,.int .u64 g.x3,.int .u64 g.x4] 66)) v1.heap.size 66 (aQ g):=aG.new v1 (aQ g) _
 clear hE0 hg1
 have gP:=hE1.e (w0.heap.size,p) (by simp)
 have iC:=hE1.e (w0.heap.size+1,q) (by simp)
 have c0:=gP.cell (i:=0) rfl
 have c1:=gP.cell (i:=1) rfl
 have c2:=gP.cell (i:=2) rfl
 have c3:=gP.cell (i:=3) rfl
 have c4:=gP.cell (i:=4) rfl
 have d0:=iC.cell (i:=0) rfl
 have d1:=iC.cell (i:=1) rfl
 have d2:=iC.cell (i:=2) rfl
 have d3:=iC.cell (i:=3) rfl
 have d4:=iC.cell (i:=4) rfl
 go_wp2_with fail
 refine (jS g p q false _ Gh iP kG (by rw[hg.out];exact H1.out)).mono ?_
 rintro e v2 ⟨rfl,hg2⟩
 have hE2:=hE1.grown hg2
 have hG2:=hG1.grown hg2 (by simp)
 clear hE1 hG1 hg2 gP iC c0 c1 c2 c3 c4 d0 d1 d2 d3 d4
 have gP:=hE2.e (w0.heap.size,p) (by simp)
 have iC:=hE2.e (w0.heap.size+1,q) (by simp)
 have c0:=gP.cell (i:=0) rfl
 have c1:=gP.cell (i:=1) rfl
 have c2:=gP.cell (i:=2) rfl
 have c3:=gP.cell (i:=3) rfl
 have c4:=gP.cell (i:=4) rfl
 have d0:=iC.cell (i:=0) rfl
 have d1:=iC.cell (i:=1) rfl
 have d2:=iC.cell (i:=2) rfl
 have d3:=iC.cell (i:=3) rfl
 have d4:=iC.cell (i:=4) rfl
 have x0:=hG2.cell (i:=0) rfl
 have x1:=hG2.cell (i:=1) rfl
 have x2:=hG2.cell (i:=2) rfl
 have x3:=hG2.cell (i:=3) rfl
 have x4:=hG2.cell (i:=4) rfl
 have y0:=hG2.free 0
 have y1:=hG2.free 1
 have y2:=hG2.free 2
 have y3:=hG2.free 3
 have y4:=hG2.free 4
 have Da:=HT.out.grown hE2.g
 have t0:v2.cell? ⟨6,0,none⟩=some (.int .u64 fQ.x0):=Da.q 0 (by decide)
 have t1:v2.cell? ⟨6,1,none⟩=some (.int .u64 fQ.x1):=Da.q 1 (by decide)
 have t2:v2.cell? ⟨6,2,none⟩=some (.int .u64 fQ.x2):=Da.q 2 (by decide)
 have t3:v2.cell? ⟨6,3,none⟩=some (.int .u64 fQ.x3):=Da.q 3 (by decide)
 have t4:v2.cell? ⟨6,4,none⟩=some (.int .u64 fQ.x4):=Da.q 4 (by decide)
 clear Da
 go_wp2_with fail
 refine (lC g fQ _ Gh Af).mono ?_
 rintro e v3 ⟨gi,hgi,rfl,hg3⟩
 have Gi:gi.Ok:=by rw[hgi.out];exact (Fe.mul_right _ _).ok
 have hK:Cm w0 [(w0.heap.size,p),(w0.heap.size+1,q)] v1.heap.size:=by
  refine⟨by omega,?_⟩
  intro z hz
  simp only[List.mem_cons,List.not_mem_nil,or_false]at hz
  rcases hz with rfl|rfl<;>simp only[]<;>omega
 have Gj:=(hE2.grown hg3).set hK gi
 have hG4:aG (jO v3 v1.heap.size gi) v1.heap.size 66 (aQ gi):=jF ⟨_,_,_,_,_,hG2.grown hg3 (by simp)⟩
 have hG3:=hG2.grown hg3 (by simp)
 clear hE2 hG2 hg3 gP iC c0 c1 c2 c3 c4 d0 d1 d2 d3 d4 x0 x1 x2 x3 x4 y0 y1 y2 y3 y4 t0 t1 t2 t3 t4
 have x0:=hG3.cell (i:=0) rfl
 have x1:=hG3.cell (i:=1) rfl
 have x2:=hG3.cell (i:=2) rfl
 have x3:=hG3.cell (i:=3) rfl
 have x4:=hG3.cell (i:=4) rfl
 have y0:=hG3.free 0
 have y1:=hG3.free 1
 have y2:=hG3.free 2
 have y3:=hG3.free 3
 have y4:=hG3.free 4
 have gP:=Gj.e (w0.heap.size,p) (by simp)
 have iC:=Gj.e (w0.heap.size+1,q) (by simp)
 unfold jO at Gj hG4 gP iC
 have c0:=gP.cell (i:=0) rfl
 have c1:=gP.cell (i:=1) rfl
 have c2:=gP.cell (i:=2) rfl
 have c3:=gP.cell (i:=3) rfl
 have c4:=gP.cell (i:=4) rfl
 have d0:=iC.cell (i:=0) rfl
 have d1:=iC.cell (i:=1) rfl
 have d2:=iC.cell (i:=2) rfl
 have d3:=iC.cell (i:=3) rfl
 have d4:=iC.cell (i:=4) rfl
 go_wp2_with fail
 refine (jS gi p q false _ Gi iP kG (by rw[hgi.out,hg.out];exact H2.out)).mono ?_
 rintro e v5 ⟨rfl,hg5⟩
 have zh:=Gj.grown hg5
 have mF:=hG4.grown hg5 (by simp)
 clear Gj hG4 hG3 hg5 gP iC c0 c1 c2 c3 c4 d0 d1 d2 d3 d4 x0 x1 x2 x3 x4 y0 y1 y2 y3 y4
 obtain⟨u0,u1,u2,u3,u4,hR⟩:=zh.r _ (List.mem_singleton.2 rfl)
 have s0:=hR.cell (i:=0) rfl
 have s1:=hR.cell (i:=1) rfl
 have s2:=hR.cell (i:=2) rfl
 have s3:=hR.cell (i:=3) rfl
 have s4:=hR.cell (i:=4) rfl
 have z0:=hR.free 0
 have z1:=hR.free 1
 have z2:=hR.free 2
 have z3:=hR.free 3
 have z4:=hR.free 4
 go_wp2_with fail
 refine bodyPost_ret (v:=.tuple #[.agg #[.int .u64 0,.int .u64 0,.int .u64 0,.int .u64 0,.int .u64 0],.bool false]) ?_ rfl ⟨Fe.bL,Lib.hid rfl,rfl,jv zh.g (by omega) _ _ _ _ _⟩
 simp[results,Tryz.results153,go_sem,s0,s1,s2,s3,s4]
end
section
open Fe Num
structure Pw (a r:Fe) (k:Nat):Prop where
 ri:Right r
 mi:Fe.m r=Fe.m a^k%P
theorem Pw.one {a:Fe} (h:Right a):Pw a a 1:=⟨h,by rw[Nat.pow_one,Nat.mod_eq_of_lt (xK a)]⟩
theorem Pw.mul {a r s:Fe} {k j:Nat} (h:Pw a r k) (g:Pw a s j):Pw a (aM r s) (k+j):=
 ⟨mul_right _ _,by rw[yI h.ri g.ri,h.mi,g.mi,<- Nat.mul_mod,Nat.pow_add]⟩
theorem Pw.sq {a r:Fe} {k:Nat} (h:Pw a r k):Pw a (bZ r) (2*k):=
 ⟨dO _,by rw[YE h.ri,h.mi,<- Nat.mul_mod,<- Nat.pow_add,show k+k=2*k by omega]⟩
theorem Pw.RH {a r:Fe} {k:Nat} (h:Pw a r k) (n:Nat):Pw a (RH n r) (2^n*k):=by
 induction n with
 | zero=>rw[Nat.pow_zero,Nat.one_mul];exact h
 | succ n ih=>have:=ih.sq;rw[<- Nat.mul_assoc,<- Nat.pow_succ']at this;exact this
theorem Pw.step {a r s:Fe} {k j:Nat} (h:Pw a r k) (g:Pw a s j) (n:Nat):Pw a (lU n r s) (2^n*k+j):=(h.RH n).mul g
theorem Pw.to {a r:Fe} {k j:Nat} (h:Pw a r k) (e:k=j):Pw a r j:=e▸h
theorem Mr {a:Fe} (h:Right a):Pw a (xO a) (2^250-1):=by
 have p1:Pw a (Mh a) 3:=((Pw.one h).step (Pw.one h) 1).to (by decide)
 have p2:Pw a (RI a) 15:=(p1.step p1 2).to (by decide)
 have p3:Pw a (Mi a) 31:=(p2.step (Pw.one h) 1).to (by decide)
 have p4:Pw a (Ga a) 1023:=(p3.step p3 5).to (by decide)
 have p5:Pw a (Mj a) (2^20-1):=(p4.step p4 10).to (by decide)
 have p6:Pw a (RJ a) (2^40-1):=(p5.step p5 20).to (by decide)
 have p7:Pw a (Gb a) (2^50-1):=(p6.step p4 10).to (by decide)
 have p8:Pw a (Mk a) (2^100-1):=(p7.step p7 50).to (by decide)
 have p9:Pw a (RL a) (2^200-1):=(p8.step p8 100).to (by decide)
 exact (p9.step p7 50).to (by decide)
theorem YU {a:Fe} (h:Right a):Pw a (Ae a) eInv:=by
 have p:=Pw.one h
 have e8:Pw a (bZ (bZ (bZ a))) 8:=p.sq.sq.sq
 have e11:Pw a (aM (bZ (bZ (bZ a))) (aM (bZ a) a)) 11:=e8.mul (p.sq.mul p)
 exact ((Mr h).step e11 5).to (by decide +kernel)
theorem tH (a:Fe):Right (Ae a):=mul_right _ _
theorem Ke (n:Nat) (p b:Fe):Right (lU n p b):=mul_right _ _
theorem Ms {u v:Fe} (hu:Right u) (hv:Right v):Fe.m (dR u v)=gN (Fe.m u) (Fe.m v)%P:=by
 have hc:Fe.m (aM (bZ v) v)=Fe.m v^3%P:=((Pw.one hv).sq.mul (Pw.one hv)).mi
 have h7:Fe.m (aM (bZ (aM (bZ v) v)) v)=Fe.m v^7%P:=((((Pw.one hv).sq.mul (Pw.one hv)).sq).mul (Pw.one hv)).mi
 have hb:Fe.m (aM u (aM (bZ (aM (bZ v) v)) v))=Fe.m u*Fe.m v^7%P:=by rw[yI hu (mul_right _ _),h7,Nat.mul_mod_mod]
 have hr:=mul_right u (aM (bZ (aM (bZ v) v)) v)
 have hpw:Fe.m (lU 2 (xO (aM u (aM (bZ (aM (bZ v) v)) v))) (aM u (aM (bZ (aM (bZ v) v)) v)))=(Fe.m u*Fe.m v^7)^oJ%P:=by
  rw[(((Mr hr).step (Pw.one hr) 2).to (show 2^2*(2^250-1)+1=oJ by decide +kernel)).mi,hb,<- Nat.pow_mod]
 unfold dR
 rw[yI (mul_right _ _) (Ke _ _ _),yI hu (mul_right _ _),hc,hpw]
 unfold gN
 rw[Nat.mul_mod_mod,Nat.mod_mul_mod]
 exact vR (by rw[Nat.mul_mod_mod]) rfl
theorem oM (u v:Fe):Right (dR u v):=mul_right _ _
theorem Gl:Right fQ:=by constructor<;>decide
theorem VN:Fe.m fQ=i0:=by decide +kernel
def uE (r u v:Fe):Bool:=decide (Fe.m (aM (bZ r) v)=Fe.m u)
theorem wo {r u v:Fe} (hr:Right r) (hv:Right v):uE r u v=true↔Fe.m r*Fe.m r*Fe.m v%P=Fe.m u:=by
 unfold uE
 rw[decide_eq_true_iff,yI (dO _) hv,YE hr,Nat.mod_mul_mod]
def uG (r:Fe):Fe:=if Fe.m r%2=1 then kF r else r
def fM (u v:Fe):Fe×Bool:=
 if uE (dR u v) u v=true then (uG (dR u v),true)
 else if uE (aM (dR u v) fQ) u v=true then (uG (aM (dR u v) fQ),true)
 else (bL,false)
theorem abD {a:Fe} (h:Right a):Fe.m (kF a)=(P-Fe.m a)%P:=by
 have hz:Right bL:=by constructor<;>decide
 have e:Fe.m bL=0:=by decide +kernel
 unfold kF
 rw[XM hz h,e,Nat.zero_add]
theorem Kg {r:Fe} (h:Right r):Right (uG r)/\Fe.m (uG r)%2=0/\∀v:Nat,Fe.m (uG r)*Fe.m (uG r)*v%P=Fe.m r*Fe.m r*v%P:=by
 unfold uG
 have hl:=xK r
 by_cases ho:Fe.m r%2=1
 .rw[if_pos ho]
  have hm:=abD h
  rw[Nat.mod_eq_of_lt (by omega)]at hm
  refine⟨ku _,?_,fun v=>?_⟩
  .rw[hm];unfold P at *;omega
  .rw[hm]
   obtain⟨d,hd⟩:∃d,P=Fe.m r+d:=⟨P-Fe.m r,by omega⟩
   have e:(P-Fe.m r)*(P-Fe.m r)*v+P*(2*Fe.m r*v)=Fe.m r*Fe.m r*v+P*(P*v):=by
    rw[hd,Nat.add_sub_cancel_left];grind
   have:=congrArg (· % P) e
   simpa[Nat.add_mul_mod_self_left] using this
 .rw[if_neg ho]
  exact⟨h,by omega,fun _=>rfl⟩
theorem Db {u v:Fe} (hv:Right v) (h:(fM u v).2=true):Right (fM u v).1/\Fe.m (fM u v).1%2=0/\Fe.m (fM u v).1*Fe.m (fM u v).1*Fe.m v%P=Fe.m u:=by
 unfold fM at *
 by_cases h1:uE (dR u v) u v=true
 .rw[if_pos h1]at h ⊢
  have:=Kg (oM u v)
  exact⟨this.1,this.2.1,(this.2.2 _).trans ((wo (oM u v) hv).1 h1)⟩
 .rw[if_neg h1]at h ⊢
  by_cases h2:uE (aM (dR u v) fQ) u v=true
  .rw[if_pos h2]at h ⊢
   have:=Kg (mul_right _ _:Right (aM (dR u v) fQ))
   exact⟨this.1,this.2.1,(this.2.2 _).trans ((wo (mul_right _ _) hv).1 h2)⟩
  .rw[if_neg h2]at h;cases h
theorem Dc {r u v:Nat}:mP (r%P) u v↔mP r u v:=by
 unfold mP
 rw[show r%P*(r%P)*v%P=r*r*v%P from by rw[Nat.mul_mod,<- Nat.mul_mod r r,<- Nat.mul_mod]]
theorem OH {u v:Fe} (hu:Right u) (hv:Right v) (h:mP (gN (Fe.m u) (Fe.m v)) (Fe.m u) (Fe.m v)\/mP (gN (Fe.m u) (Fe.m v)*i0) (Fe.m u) (Fe.m v)):(fM u v).2=true:=by
 have hul:=Nat.mod_eq_of_lt (xK u)
 unfold fM
 by_cases h1:uE (dR u v) u v=true
 .rw[if_pos h1]
 .rw[if_neg h1]
  by_cases h2:uE (aM (dR u v) fQ) u v=true
  .rw[if_pos h2]
  .exfalso
   rcases h with h|h
   .apply h1
    rw[wo (oM u v) hv,Ms hu hv]
    have h2:=Dc.2 h
    unfold mP at h2
    rw[hul]at h2
    exact h2
   .apply h2
    rw[wo (mul_right _ _) hv,yI (oM u v) Gl,Ms hu hv,VN,Nat.mod_mul_mod]
    have h3:=Dc.2 h
    unfold mP at h3
    rw[hul]at h3
    exact h3
theorem Co {u v:Fe} {t:Nat} (hu:Right u) (hv:Right v) (h:t*t*Fe.m v%P=Fe.m u):(fM u v).2=true:=
 OH hu hv (Fe.zT (by rw[h,Nat.mod_eq_of_lt (xK u)]))
end
section
open Go.RowKit
theorem RS (p q:Fe) (w0:World) (hT:qY w0) (iP:p.Ok) (kG:q.Ok):Calls Tryz.prog 153 #[.agg #[.int .u64 p.x0,.int .u64 p.x1,.int .u64 p.x2,.int .u64 p.x3,.int .u64 p.x4],.agg #[.int .u64 q.x0,.int .u64 q.x1,.int .u64 q.x2,.int .u64 q.x3,.int .u64 q.x4]] w0 (tF (fM p q).1 (fM p q).2 w0):=by
 unfold fM
 by_cases h1:uE (dR p q) p q=true
 .rw[if_pos h1]
  unfold uG
  by_cases h3:Fe.m (dR p q)%2=1
  .rw[if_pos h3];exact VI p q w0 hT iP kG h1 (decide_eq_true h3)
  .rw[if_neg h3];exact VH p q w0 hT iP kG h1 (decide_eq_false h3)
 .rw[if_neg h1]
  have h1':=(Bool.eq_false_iff).2 h1
  by_cases h2:uE (Fe.aM (dR p q) fQ) p q=true
  .rw[if_pos h2]
   unfold uG
   by_cases h3:Fe.m (Fe.aM (dR p q) fQ)%2=1
   .rw[if_pos h3];exact VK p q w0 hT iP kG h1' h2 (decide_eq_true h3)
   .rw[if_neg h3];exact VJ p q w0 hT iP kG h1' h2 (decide_eq_false h3)
  .rw[if_neg h2];exact VL p q w0 hT iP kG h1' ((Bool.eq_false_iff).2 h2)
theorem RU (p q:Fe) (b:Bool) (w:World) (iP:p.Ok) (kG:q.Ok) (hb:decide (Fe.m p=Fe.m q)=b):Calls Tryz.prog 118 #[.agg #[.int .u64 p.x0,.int .u64 p.x1,.int .u64 p.x2,.int .u64 p.x3,.int .u64 p.x4],.agg #[.int .u64 q.x0,.int .u64 q.x1,.int .u64 q.x2,.int .u64 q.x3,.int .u64 q.x4]] w fun e w'=>e=.returned (.bool b)/\w.grownBy w' none:=by
 rw[<- hb];exact Ab p q w iP kG
theorem jT (p:Fe) (b:Bool) (w:World) (iP:p.Ok) (hb:decide (Fe.m p=0)=b):Calls Tryz.prog 154 #[.agg #[.int .u64 p.x0,.int .u64 p.x1,.int .u64 p.x2,.int .u64 p.x3,.int .u64 p.x4]] w fun e w'=>e=.returned (.bool b)/\w.grownBy w' none:=by
 rw[<- hb];exact RF p w iP
end
namespace Ed
open Num
abbrev F:=Fin Fe.P
theorem YV:Fe.P≠0:=by have:=Fe.P_2;omega
instance nzP:NeZero Fe.P:=⟨YV⟩
section
variable {n:Nat} [NeZero n] (d x1 y1 x2 y2 x3 y3 i e:Fin n)
theorem OI
  (e1:y1*y1-x1*x1=1+d*(x1*x1*(y1*y1))) (e2:y2*y2-x2*x2=1+d*(x2*x2*(y2*y2))) (e3:y3*y3-x3*x3=1+d*(x3*x3*(y3*y3))):
  ((x1*y2+x2*y1)*(1-d*(x1*x2*y1*y2))*y3+(1+d*(x1*x2*y1*y2))*(y1*y2+x1*x2)*x3)*((1+d*(x3*x2*y3*y2))*(1-d*(x3*x2*y3*y2))+d*(x3*y2+x2*y3)*(y3*y2+x3*x2)*(x1*y1))=
  ((x3*y2+x2*y3)*(1-d*(x3*x2*y3*y2))*y1+(1+d*(x3*x2*y3*y2))*(y3*y2+x3*x2)*x1)*((1+d*(x1*x2*y1*y2))*(1-d*(x1*x2*y1*y2))+d*(x1*y2+x2*y1)*(y1*y2+x1*x2)*(x3*y3)):=by
 grind
theorem OJ
  (e1:y1*y1-x1*x1=1+d*(x1*x1*(y1*y1))) (e2:y2*y2-x2*x2=1+d*(x2*x2*(y2*y2))) (e3:y3*y3-x3*x3=1+d*(x3*x3*(y3*y3))):
  ((1+d*(x1*x2*y1*y2))*(y1*y2+x1*x2)*y3+(x1*y2+x2*y1)*(1-d*(x1*x2*y1*y2))*x3)*((1+d*(x3*x2*y3*y2))*(1-d*(x3*x2*y3*y2))-d*(x3*y2+x2*y3)*(y3*y2+x3*x2)*(x1*y1))=
  ((1+d*(x3*x2*y3*y2))*(y3*y2+x3*x2)*y1+(x3*y2+x2*y3)*(1-d*(x3*x2*y3*y2))*x1)*((1+d*(x1*x2*y1*y2))*(1-d*(x1*x2*y1*y2))-d*(x1*y2+x2*y1)*(y1*y2+x1*x2)*(x3*y3)):=by
 grind
theorem abE
  (e1:y1*y1-x1*x1=1+d*(x1*x1*(y1*y1))) (e2:y2*y2-x2*x2=1+d*(x2*x2*(y2*y2))):
  (y1*y2+x1*x2)*(y1*y2+x1*x2)*((1+d*(x1*x2*y1*y2))*(1+d*(x1*x2*y1*y2)))-(x1*y2+x2*y1)*(x1*y2+x2*y1)*((1-d*(x1*x2*y1*y2))*(1-d*(x1*x2*y1*y2)))=(1-d*(x1*x2*y1*y2))*(1-d*(x1*x2*y1*y2))*((1+d*(x1*x2*y1*y2))*(1+d*(x1*x2*y1*y2)))+d*((x1*y2+x2*y1)*(x1*y2+x2*y1)*((y1*y2+x1*x2)*(y1*y2+x1*x2))):=by
 grind
theorem YW (hi:i*i=-1) (he:e=d*(x1*x2*y1*y2)) (h1:e*e=1)
  (e1:y1*y1-x1*x1=1+d*(x1*x1*(y1*y1))) (e2:y2*y2-x2*x2=1+d*(x2*x2*(y2*y2))):
  (i*x1+e*y1)*(i*x1+e*y1)=d*((x1*y1*(i*x2+y2))*(x1*y1*(i*x2+y2))):=by
 grind
theorem YX (hi:i*i=-1) (he:e=d*(x1*x2*y1*y2)) (h1:e*e=1)
  (e1:y1*y1-x1*x1=1+d*(x1*x1*(y1*y1))) (e2:y2*y2-x2*x2=1+d*(x2*x2*(y2*y2))):
  (i*x1-e*y1)*(i*x1-e*y1)=d*((x1*y1*(i*x2-y2))*(x1*y1*(i*x2-y2))):=by
 grind
end
theorem id1:∀{n:Nat} [NeZero n] (a c:Fin n),(a*c)*(a*c)=a*a*(c*c):=by intros;grind
theorem id2:∀{n:Nat} [NeZero n] (d b c:Fin n),b*c=1->d*(b*b)*(c*c)=d:=by intros;grind
theorem id3:∀{n:Nat} [NeZero n] (d i a b c e:Fin n),i*i=-1->a*b*(i*c)=0->d*(a*c*b*e)=0:=by intros;grind
theorem id4:∀{n:Nat} [NeZero n] (e:Fin n),1+e=0->e*e=1:=by intros;grind
theorem id5:∀{n:Nat} [NeZero n] (e:Fin n),1-e=0->e*e=1:=by intros;grind
theorem id6:∀{n:Nat} [NeZero n] (f g a b x y t:Fin n),g*a=x->f*b=y->y*y*(g*g)-x*x*(f*f)=f*f*(g*g)+t*(x*x*(y*y))->(f*f*(g*g))*(b*b-a*a)=(f*f*(g*g))*(1+t*(a*a*(b*b))):=by intros;grind
theorem id7:∀{n:Nat} [NeZero n] (d:Fin n),(1:Fin n)*1-0*0=1+d*(0*0*(1*1)):=by intros;grind
theorem id8:∀{n:Nat} [NeZero n] (d x y:Fin n),y*y-x*x=1+d*(x*x*(y*y))->y*y - -x* -x=1+d*(-x * -x*(y*y)):=by intros;grind
theorem id9:∀{n:Nat} [NeZero n] (d a b c e:Fin n),d*(a*b*c*e)=d*(b*a*e*c):=by intros;grind
theorem agt:∀{n:Nat} [NeZero n] (a b c e:Fin n),a*b+c*e=c*e+a*b:=by intros;grind
theorem agu:∀{n:Nat} [NeZero n] (a b c e:Fin n),a*b+c*e=b*a+e*c:=by intros;grind
theorem agv:∀{n:Nat} [NeZero n] (d b c e:Fin n),d*(0*b*c*e)=0:=by intros;grind
theorem agw:∀{n:Nat} [NeZero n] (a x y:Fin n),(1+0)*a=0*y+x*1->a=x:=by intros;grind
theorem agx:∀{n:Nat} [NeZero n] (a x y:Fin n),(1-0)*a=1*y+0*x->a=y:=by intros;grind
theorem agy:∀{n:Nat} [NeZero n] (t x y:Fin n),x*y + -x*y=(1+t)*0:=by intros;grind
theorem agz:∀{n:Nat} [NeZero n] (d x y:Fin n),y*y-x*x=1+d*(x*x*(y*y))->y*y+x* -x=(1-d*(x* -x*y*y))*1:=by intros;grind
theorem mul_zero {x y:F} (h:x*y=0):x=0\/y=0:=by
 have h1:x.val*y.val%Fe.P=0:=by have:=congrArg Fin.val h;rwa [Fin.val_mul]at this
 rcases Fe.vQ.dvd_mul (Nat.dvd_of_mod_eq_zero h1) with k|k
 .exact Or.inl (Fin.ext (by have:=Nat.mod_eq_zero_of_dvd k;rwa [Nat.mod_eq_of_lt x.isLt]at this))
 .exact Or.inr (Fin.ext (by have:=Nat.mod_eq_zero_of_dvd k;rwa [Nat.mod_eq_of_lt y.isLt]at this))
theorem eG {x y:F} (hx:x≠0) (hy:y≠0):x*y≠0:=fun h=>(mul_zero h).elim hx hy
theorem OL {n:Nat} [NeZero n] {a x y:Fin n} (h:a*x=a*y):a*(x-y)=0:=by grind
theorem yN {n:Nat} [NeZero n] {x y:Fin n} (h:x-y=0):x=y:=by grind
theorem cancel {a x y:F} (ha:a≠0) (h:a*x=a*y):x=y:=
 yN ((mul_zero (OL h)).resolve_left ha)
def inv (x:F):F:=⟨x.val^Fe.eInv%Fe.P,Nat.mod_lt _ (Nat.pos_of_ne_zero YV)⟩
theorem inv_mul {x:F} (h:x≠0):x*inv x=1:=by
 apply Fin.ext
 rw[Fin.val_mul]
 have h1:=Fe.YG x.val
 rw[if_neg (by rw[Nat.mod_eq_of_lt x.isLt];exact fun e=>h (Fin.ext e))]at h1
 exact h1
theorem VO (x:F):(inv x).val=x.val^Fe.eInv%Fe.P:=rfl
theorem jT:(0:F).val=0:=by decide +kernel
theorem RX {x a:F} (hx:x≠0):x*(a*inv x)=a:=by
 have:=inv_mul hx
 rw[Fin.mul_comm a,<- Fin.mul_assoc,this,Fin.one_mul]
theorem rU:(1:F)≠0:=fun h=>absurd (congrArg Fin.val h) (by decide +kernel)
theorem Kh:(2:F)≠0:=fun h=>absurd (congrArg Fin.val h) (by decide +kernel)
def dN:Nat:=37095705934669439343138083508754565189542113879843219016388785533085940283555
def d:F:=⟨dN,by decide +kernel⟩
theorem YZ:dN^Fe.uz%Fe.P=Fe.P-1:=JW 256 (by decide +kernel) (by decide +kernel)
theorem Y0 {a b:F} (h:a*a=d*(b*b)):b=0:=by
 by_cases hb:b=0
 .exact hb
 exfalso
 have hc:(a*inv b)*(a*inv b)=d:=by
  have h1:=inv_mul hb
  have e:(a*inv b)*(a*inv b)=a*a*(inv b*inv b):=by
   exact id1 a (inv b)
  rw[e,h]
  have g:=@id2
  exact g d b (inv b) h1
 have h1:(a*inv b).val*(a*inv b).val%Fe.P=dN%Fe.P:=by
  have:=congrArg Fin.val hc
  rw[Fin.val_mul]at this
  rw[this]
  exact (Nat.mod_eq_of_lt d.isLt).symm
 have h2:=Fe.FY (x:=dN) (s:=(a*inv b).val) (by decide +kernel) h1
 rw[YZ]at h2
 exact absurd h2 (by decide +kernel)
def im:F:=⟨Fe.i0,by decide +kernel⟩
theorem Mt:im*im=-1:=by decide +kernel
structure Pr where
 x:F
 y:F
def On (p:Pr):Prop:=p.y*p.y-p.x*p.x=1+d*(p.x*p.x*(p.y*p.y))
def tt (p q:Pr):F:=d*(p.x*q.x*p.y*q.y)
def add (p q:Pr):Pr:=⟨(p.x*q.y+q.x*p.y)*inv (1+tt p q),(p.y*q.y+p.x*q.x)*inv (1-tt p q)⟩
def zero:Pr:=⟨0,1⟩
def neg (p:Pr):Pr:=⟨-p.x,p.y⟩
theorem ext {p q:Pr} (hx:p.x=q.x) (hy:p.y=q.y):p=q:=by cases p;cases q;simp_all
theorem g_b {n:Nat} [NeZero n] {c u v:Fin n} (h1:c*(u+v)=0) (h2:c*(u-v)=0):2*(c*u)=0:=by grind
theorem Mv {p q:Pr} (hp:On p) (hq:On q) (h:tt p q*tt p q=1):False:=by
 have s1:=Y0 (YW d p.x p.y q.x q.y im (tt p q) Mt rfl h hp hq)
 have s2:=Y0 (YX d p.x p.y q.x q.y im (tt p q) Mt rfl h hp hq)
 have s3:=(mul_zero (g_b s1 s2)).resolve_left Kh
 have z:tt p q=0:=by
  have g:=@id3
  exact g d im p.x p.y q.x q.y Mt s3
 rw[z,Fin.zero_mul]at h
 exact rU h.symm
theorem oN {p q:Pr} (hp:On p) (hq:On q):1+tt p q≠0:=fun h=>by
 have g:=@id4
 exact Mv hp hq (g _ h)
theorem lW {p q:Pr} (hp:On p) (hq:On q):1-tt p q≠0:=fun h=>by
 have g:=@id5
 exact Mv hp hq (g _ h)
theorem yO {p q:Pr} (hp:On p) (hq:On q):(1+tt p q)*(add p q).x=p.x*q.y+q.x*p.y:=RX (oN hp hq)
theorem yP {p q:Pr} (hp:On p) (hq:On q):(1-tt p q)*(add p q).y=p.y*q.y+p.x*q.x:=RX (lW hp hq)
theorem rV {p q:Pr} (hp:On p) (hq:On q):On (add p q):=by
 have h1:=yO hp hq
 have h2:=yP hp hq
 have h3:=abE d p.x p.y q.x q.y hp hq
 have n1:=oN hp hq
 have n2:=lW hp hq
 unfold On
 generalize (add p q).x=a at *
 generalize (add p q).y=b at *
 have g:=@id6
 exact cancel (eG (eG n2 n2) (eG n1 n1)) (g (1-tt p q) (1+tt p q) a b _ _ d h1 h2 h3)
theorem oO:On zero:=by
 have g:=@id7
 exact g d
theorem uO {p:Pr} (hp:On p):On (neg p):=by
 have g:=@id8
 exact g d p.x p.y hp
theorem Mw (p q:Pr):tt p q=tt q p:=by
 have g:=@id9
 exact g d p.x q.x p.y q.y
theorem add_comm (p q:Pr):add p q=add q p:=by
 have g:=@agt
 have g2:=@agu
 apply ext
 .unfold add;dsimp only;rw[Mw p q,g]
 .unfold add;dsimp only;rw[Mw p q,g2]
theorem VP (p:Pr):tt zero p=0:=by
 have g:=@agv
 exact g d p.x 1 p.y
theorem zero_add {p:Pr} (hp:On p):add zero p=p:=by
 have h1:=yO oO hp
 have h2:=yP oO hp
 rw[VP]at h1 h2
 have g1:=@agw
 have g2:=@agx
 exact ext (g1 _ _ _ h1) (g2 _ _ _ h2)
theorem add_zero {p:Pr} (hp:On p):add p zero=p:=by rw[add_comm,zero_add hp]
theorem add_neg {p:Pr} (hp:On p):add p (neg p)=zero:=by
 have h1:=yO hp (uO hp)
 have h2:=yP hp (uO hp)
 have n1:=oN hp (uO hp)
 have n2:=lW hp (uO hp)
 have hp':p.y*p.y-p.x*p.x=1+d*(p.x*p.x*(p.y*p.y)):=hp
 apply ext
 .apply cancel n1
  rw[h1]
  have g:=@agy
  exact g _ _ _
 .apply cancel n2
  rw[h2]
  have g:=@agz
  exact g d p.x p.y hp'
theorem agA {n:Nat} [NeZero n] (d f g a b A H x3 y3 u:Fin n) (ha:g*a=A) (hb:f*b=H) (hu:(1+d*(a*x3*b*y3))*u=a*y3+x3*b):(g*f+d*A*H*(x3*y3))*u=A*f*y3+g*H*x3:=by grind
theorem agB {n:Nat} [NeZero n] (d f g a b A H x3 y3 u:Fin n) (ha:g*a=A) (hb:f*b=H) (hu:(1-d*(a*x3*b*y3))*u=b*y3+a*x3):(g*f-d*A*H*(x3*y3))*u=g*H*y3+A*f*x3:=by grind
theorem abF {n:Nat} [NeZero n] (d f g a b A H x3 y3:Fin n) (ha:g*a=A) (hb:f*b=H):g*f+d*A*H*(x3*y3)=g*f*(1+d*(a*x3*b*y3)):=by grind
theorem abG {n:Nat} [NeZero n] (d f g a b A H x3 y3:Fin n) (ha:g*a=A) (hb:f*b=H):g*f-d*A*H*(x3*y3)=g*f*(1-d*(a*x3*b*y3)):=by grind
theorem RY {n:Nat} [NeZero n] {G1 G2 A1 A2 u v:Fin n} (h1:G1*u=A1) (h2:G2*v=A2) (h:A1*G2=A2*G1):(G1*G2)*u=(G1*G2)*v:=by grind
theorem abH {p q r:Pr} (hp:On p) (hq:On q) (hr:On r):
  ((1+tt p q)*(1-tt p q)+d*(p.x*q.y+q.x*p.y)*(p.y*q.y+p.x*q.x)*(r.x*r.y))*(add (add p q) r).x=(p.x*q.y+q.x*p.y)*(1-tt p q)*r.y+(1+tt p q)*(p.y*q.y+p.x*q.x)*r.x/\
  ((1+tt p q)*(1-tt p q)-d*(p.x*q.y+q.x*p.y)*(p.y*q.y+p.x*q.x)*(r.x*r.y))*(add (add p q) r).y=(1+tt p q)*(p.y*q.y+p.x*q.x)*r.y+(p.x*q.y+q.x*p.y)*(1-tt p q)*r.x/\
  (1+tt p q)*(1-tt p q)+d*(p.x*q.y+q.x*p.y)*(p.y*q.y+p.x*q.x)*(r.x*r.y)≠0/\(1+tt p q)*(1-tt p q)-d*(p.x*q.y+q.x*p.y)*(p.y*q.y+p.x*q.x)*(r.x*r.y)≠0:=by
 have hs:=rV hp hq
 have h1:=yO hp hq
 have h2:=yP hp hq
 have n1:=oN hp hq
 have n2:=lW hp hq
 refine⟨agA d _ _ _ _ _ _ r.x r.y _ h1 h2 (yO hs hr),agB d _ _ _ _ _ _ r.x r.y _ h1 h2 (yP hs hr),?_,?_⟩
 .rw[abF d _ _ _ _ _ _ r.x r.y h1 h2]
  exact eG (eG n1 n2) (oN hs hr)
 .rw[abG d _ _ _ _ _ _ r.x r.y h1 h2]
  exact eG (eG n1 n2) (lW hs hr)
theorem add_assoc {p q r:Pr} (hp:On p) (hq:On q) (hr:On r):add (add p q) r=add p (add q r):=by
 rw[add_comm p (add q r),add_comm q r]
 obtain⟨a1,a2,a3,a4⟩:=abH hp hq hr
 obtain⟨b1,b2,b3,b4⟩:=abH hr hq hp
 apply ext
 .exact cancel (eG a3 b3) (RY a1 b1 (OI d p.x p.y q.x q.y r.x r.y hp hq hr))
 .exact cancel (eG a4 b4) (RY a2 b2 (OJ d p.x p.y q.x q.y r.x r.y hp hq hr))
def bq:Nat->Pr->Pr
 | 0,_=>zero
 | k+1,p=>add (bq k p) p
theorem bX {p:Pr} (hp:On p):∀k,On (bq k p)
 | 0=>oO
 | k+1=>rV (bX hp k) hp
theorem wu {p:Pr} (hp:On p):bq 1 p=p:=zero_add hp
theorem iq {p:Pr} (hp:On p) (a:Nat):∀b,bq (a+b) p=add (bq a p) (bq b p)
 | 0=>(add_zero (bX hp a)).symm
 | b+1=>by
  show add (bq (a+b) p) p=add (bq a p) (add (bq b p) p)
  rw[iq hp a b,add_assoc (bX hp a) (bX hp b) hp]
theorem Ag {p:Pr} (hp:On p):bq 2 p=add p p:=by
 show add (bq 1 p) p=_
 rw[wu hp]
theorem nR {p:Pr} (hp:On p) (a:Nat):∀b,bq (a*b) p=bq b (bq a p)
 | 0=>rfl
 | b+1=>by
  rw[Nat.mul_succ,iq hp,nR hp a b]
  rfl
theorem tJ:∀k,bq k zero=zero
 | 0=>rfl
 | k+1=>by
  show add (bq k zero) zero=_
  rw[tJ k,zero_add oO]
theorem abI {a b c e:Pr} (ha:On a) (hb:On b) (hc:On c) (he:On e):add (add a b) (add c e)=add (add a c) (add b e):=by
 rw[add_assoc ha hb (rV hc he),<- add_assoc hb hc he,add_comm b c,add_assoc hc hb he,<- add_assoc ha hc (rV hb he)]
theorem wB {p q:Pr} (hp:On p) (hq:On q):∀k,bq k (add p q)=add (bq k p) (bq k q)
 | 0=>(zero_add oO).symm
 | k+1=>by
  show add (bq k (add p q)) (add p q)=add (add (bq k p) p) (add (bq k q) q)
  rw[wB hp hq k,abI (bX hp k) (bX hq k) hp hq]
end Ed
namespace Ed
open Num
def phi (a:Fe):F:=⟨Fe.m a,Fe.xK a⟩
section
variable {a b:Fe}
theorem eU (ha:a.Right) (hb:b.Right):phi (Fe.aM a b)=phi a*phi b:=Fin.ext (by rw[Fin.val_mul];exact Fe.yI ha hb)
theorem uP (ha:a.Right):phi (Fe.bZ a)=phi a*phi a:=Fin.ext (by rw[Fin.val_mul];exact Fe.YE ha)
theorem lM (ha:a.Right) (hb:b.Right):phi (Fe.fA a b)=phi a+phi b:=Fin.ext (by rw[Fin.val_add];exact Fe.aa7 ha hb)
theorem oP:Fe.Right Fe.bL:=by constructor<;>decide
theorem jG:Fe.Right Fe.dM:=by constructor<;>decide
theorem Ah:phi Fe.bL=0:=by apply Fin.ext;rw[jT];show Fe.m Fe.bL=0;decide +kernel
theorem jw:phi Fe.dM=1:=by decide +kernel
theorem Y1 {n:Nat} [NeZero n] {x y z:Fin n} (h:x+y=z):x=z-y:=by grind
theorem mW (ha:a.Right) (hb:b.Right):phi (Fe.gQ a b)=phi a-phi b:=by
 apply Y1
 apply Fin.ext
 rw[Fin.val_add]
 show (Fe.m (Fe.gQ a b)+Fe.m b)%Fe.P=Fe.m a
 have h1:=Fe.xK a
 have h2:=Fe.xK b
 rw[Fe.XM ha hb,Nat.add_mod,Nat.mod_mod,<- Nat.add_mod,show Fe.m a+(Fe.P-Fe.m b)+Fe.m b=Fe.m a+Fe.P by omega,Nat.add_mod_right,Nat.mod_eq_of_lt h1]
theorem zq (ha:a.Right):phi (Fe.kF a)=- phi a:=by
 unfold Fe.kF
 rw[mW oP ha,Ah]
 exact abJ _
where abJ {n:Nat} [NeZero n] (x:Fin n):0-x=- x:=by grind
theorem Gm:Fe.m a=Fe.m b↔phi a=phi b:=⟨fun h=>Fin.ext h,fun h=>congrArg Fin.val h⟩
end
structure Pt where
 X:Fe
 Y:Fe
 Z:Fe
 T:Fe
structure Sm where
 X:Fe
 Y:Fe
 Z:Fe
 T:Fe
 A:Fe
 B:Fe
structure Ad where
 m:Fe
 l:Fe
 z:Fe
 t:Fe
structure iI (s:Pt) (p:Pr):Prop where
 rX:s.X.Right
 rY:s.Y.Right
 rZ:s.Z.Right
 rT:s.T.Right
 on:On p
 z:phi s.Z≠0
 x:phi s.X=phi s.Z*p.x
 y:phi s.Y=phi s.Z*p.y
 t:phi s.T=phi s.Z*(p.x*p.y)
structure lX (s:Sm) (p:Pr):Prop where
 rX:s.X.Right
 rY:s.Y.Right
 rZ:s.Z.Right
 rT:s.T.Right
 rA:s.A.Right
 rB:s.B.Right
 on:On p
 z:phi s.Z≠0
 x:phi s.X=phi s.Z*p.x
 y:phi s.Y=phi s.Z*p.y
 t:phi s.A*phi s.B=phi s.Z*(p.x*p.y)
structure Ki (s:Ad) (p:Pr):Prop where
 rm:s.m.Right
 rl:s.l.Right
 rz:s.z.Right
 rt:s.t.Right
 on:On p
 is:∃z:F,z≠0/\phi s.m=z*(p.y+p.x)/\phi s.l=z*(p.y-p.x)/\phi s.z=z+z/\phi s.t=d*(z*(p.x*p.y)+z*(p.x*p.y))
def nS (s:Pt):Sm:=⟨s.X,s.Y,s.Z,s.T,s.T,Fe.dM⟩
def lD (s:Sm):Pt:=⟨s.X,s.Y,s.Z,Fe.aM s.A s.B⟩
def dF:Fe:=⟨0x34dca135978a3,0x1a8283b156ebd,0x5e7a26001c029,0x739c663a03cbb,0x52036cee2b6ff⟩
theorem wC:dF.Right:=by constructor<;>decide
theorem XV:phi dF=d:=by decide +kernel
def zi (s:Pt):Ad:=⟨Fe.fA s.Y s.X,Fe.gQ s.Y s.X,Fe.fA s.Z s.Z,Fe.aM dF (Fe.fA s.T s.T)⟩
def bF (T a u b v:Fe):Sm:=⟨Fe.aM a v,Fe.aM b u,Fe.aM u v,T,a,b⟩
def abK (s:Sm) (q:Ad):Sm:=
 bF (Fe.aM s.A s.B) (Fe.gQ (Fe.aM (Fe.fA s.Y s.X) q.m) (Fe.aM (Fe.gQ s.Y s.X) q.l)) (Fe.fA (Fe.aM s.Z q.z) (Fe.aM (Fe.aM s.A s.B) q.t))
  (Fe.fA (Fe.aM (Fe.fA s.Y s.X) q.m) (Fe.aM (Fe.gQ s.Y s.X) q.l)) (Fe.gQ (Fe.aM s.Z q.z) (Fe.aM (Fe.aM s.A s.B) q.t))
def Kj (s:Sm):Sm:=
 bF s.T (Fe.fA (Fe.aM s.X s.Y) (Fe.aM s.X s.Y)) (Fe.gQ (Fe.bZ s.Y) (Fe.bZ s.X)) (Fe.fA (Fe.bZ s.Y) (Fe.bZ s.X)) (Fe.gQ (Fe.fA (Fe.bZ s.Z) (Fe.bZ s.Z)) (Fe.gQ (Fe.bZ s.Y) (Fe.bZ s.X)))
def agC (s:Pt):Pt:=⟨Fe.kF s.X,s.Y,s.Z,Fe.kF s.T⟩
def bQ:Pt:=⟨Fe.bL,Fe.dM,Fe.dM,Fe.bL⟩
section
variable {n:Nat} [NeZero n]
theorem e_t (Z A:Fin n) (x y o:Fin n) (h:A=Z*(x*y)) (ho:o=1):A*o=Z*(x*y):=by grind
theorem e_b (a b u v x y:Fin n) (ha:u*x=a) (hb:v*y=b):a*v=u*v*x/\b*u=u*v*y/\a*b=u*v*(x*y):=by grind
theorem e_1 (X Y Z T x y m l z' t d x' y' k:Fin n) (hX:X=Z*x) (hY:Y=Z*y) (hT:T=Z*(x*y)) (hm:m=k*(y'+x')) (hl:l=k*(y'-x')) (hz:z'=k+k) (ht:t=d*(k*(x'*y')+k*(x'*y'))) (X3:Fin n) (h:(1+d*(x*x'*y*y'))*X3=x*y'+x'*y):
  (Z*z'+T*t)*X3=(Y+X)*m-(Y-X)*l:=by grind
theorem e_2 (X Y Z T x y m l z' t d x' y' k:Fin n) (hX:X=Z*x) (hY:Y=Z*y) (hT:T=Z*(x*y)) (hm:m=k*(y'+x')) (hl:l=k*(y'-x')) (hz:z'=k+k) (ht:t=d*(k*(x'*y')+k*(x'*y'))) (Y3:Fin n) (h:(1-d*(x*x'*y*y'))*Y3=y*y'+x*x'):
  (Z*z'-T*t)*Y3=(Y+X)*m+(Y-X)*l:=by grind
theorem e_3 (Z T x y z' t d x' y' k:Fin n) (hT:T=Z*(x*y)) (hz:z'=k+k) (ht:t=d*(k*(x'*y')+k*(x'*y'))):
  Z*z'+T*t=2*(Z*(k*(1+d*(x*x'*y*y'))))/\Z*z'-T*t=2*(Z*(k*(1-d*(x*x'*y*y')))):=by grind
theorem agD (X Y Z x y d:Fin n) (hX:X=Z*x) (hY:Y=Z*y) (on:y*y-x*x=1+d*(x*x*(y*y))):Y*Y-X*X=Z*(Z*(1+d*(x*x*y*y)))/\Z*Z+Z*Z-(Y*Y-X*X)=Z*(Z*(1-d*(x*x*y*y))):=by grind
theorem agE (X Y Z x y u X3:Fin n) (hX:X=Z*x) (hY:Y=Z*y) (h:u*X3=x*y+x*y):(Z*(Z*u))*X3=X*Y+X*Y:=by grind
theorem agF (X Y Z x y u X3:Fin n) (hX:X=Z*x) (hY:Y=Z*y) (h:u*X3=y*y+x*x):(Z*(Z*u))*X3=Y*Y+X*X:=by grind
theorem e_4 (X Y Z x y d X3 Y3:Fin n) (hX:X=Z*x) (hY:Y=Z*y) (on:y*y-x*x=1+d*(x*x*(y*y))) (h:(1+d*(x*x*y*y))*X3=x*y+x*y) (h':(1-d*(x*x*y*y))*Y3=y*y+x*x):
  (Y*Y-X*X)*X3=X*Y+X*Y/\(Z*Z+Z*Z-(Y*Y-X*X))*Y3=Y*Y+X*X/\Y*Y-X*X=Z*(Z*(1+d*(x*x*y*y)))/\Z*Z+Z*Z-(Y*Y-X*X)=Z*(Z*(1-d*(x*x*y*y))):=by
 obtain⟨a,b⟩:=agD X Y Z x y d hX hY on
 refine⟨?_,?_,a,b⟩
 .rw[a];exact agE _ _ _ _ _ _ _ hX hY h
 .rw[b];exact agF _ _ _ _ _ _ _ hX hY h'
theorem e_5 (X Z x:Fin n) (h:X=Z*x): - X=Z * - x:=by grind
theorem e_6 (X Z x y:Fin n) (h:X=Z*(x*y)): - X=Z*(- x*y):=by grind
theorem e_7:(0:Fin n)=1*0/\(1:Fin n)=1*1/\(0:Fin n)=1*(0*1):=by grind
theorem e_8 (Y X z x y:Fin n) (hY:Y=z*y) (hX:X=z*x):Y+X=z*(y+x)/\Y-X=z*(y-x):=by grind
theorem e_9 {X Z x Z' x' X':Fin n} (hX:X=Z*x) (hX':X'=Z'*x'):X*Z'=X'*Z↔(Z*Z')*x=(Z*Z')*x':=by constructor<;>intro h<;>grind
end
theorem Mx {s:Pt} {p:Pr} (h:iI s p):lX (nS s) p:=
 ⟨h.rX,h.rY,h.rZ,h.rT,h.rT,jG,h.on,h.z,h.x,h.y,e_t (phi s.Z) _ _ _ _ h.t jw⟩
theorem Ef {s:Sm} {p:Pr} (h:lX s p):iI (lD s) p:=
 ⟨h.rX,h.rY,h.rZ,Fe.mul_right _ _,h.on,h.z,h.x,h.y,by show phi (Fe.aM s.A s.B)=_;rw[eU h.rA h.rB];exact h.t⟩
theorem abM {s:Pt} {p:Pr} (h:iI s p):Ki (zi s) p:=by
 refine⟨Fe.dH _ _,Fe.fI _ _,Fe.dH _ _,Fe.mul_right _ _,h.on,phi s.Z,h.z,?_,?_,?_,?_⟩
 .show phi (Fe.fA s.Y s.X)=_
  rw[lM h.rY h.rX];exact (e_8 _ _ _ _ _ h.y h.x).1
 .show phi (Fe.gQ s.Y s.X)=_
  rw[mW h.rY h.rX];exact (e_8 _ _ _ _ _ h.y h.x).2
 .show phi (Fe.fA s.Z s.Z)=_
  rw[lM h.rZ h.rZ]
 .show phi (Fe.aM dF (Fe.fA s.T s.T))=_
  rw[eU wC (Fe.dH _ _),lM h.rT h.rT,XV,h.t]
theorem bIs {T a u b v:Fe} {p:Pr} (rT:T.Right) (ra:a.Right) (ru:u.Right) (rb:b.Right) (rv:v.Right) (on:On p) (nu:phi u≠0) (nv:phi v≠0) (ha:phi u*p.x=phi a) (hb:phi v*p.y=phi b):lX (bF T a u b v) p:=by
 obtain⟨h1,h2,h3⟩:=e_b _ _ _ _ _ _ ha hb
 refine⟨Fe.mul_right _ _,Fe.mul_right _ _,Fe.mul_right _ _,rT,ra,rb,on,?_,?_,?_,?_⟩
 .show phi (Fe.aM u v)≠0
  rw[eU ru rv];exact eG nu nv
 .show phi (Fe.aM a v)=phi (Fe.aM u v)*_
  rw[eU ru rv,eU ra rv];exact h1
 .show phi (Fe.aM b u)=phi (Fe.aM u v)*_
  rw[eU ru rv,eU rb ru];exact h2
 .show phi a*phi b=phi (Fe.aM u v)*_
  rw[eU ru rv];exact h3
theorem Y2 {s:Sm} {q:Ad} {p r:Pr} (h:lX s p) (k:Ki q r):lX (abK s q) (add p r):=by
 obtain⟨z,hz,hm,hl,hzz,ht⟩:=k.is
 have rT:=Fe.mul_right s.A s.B
 have hT:phi (Fe.aM s.A s.B)=phi s.Z*(p.x*p.y):=by rw[eU h.rA h.rB];exact h.t
 have n3:=e_3 (phi s.Z) _ _ _ _ _ d _ _ _ hT hzz ht
 have pu:phi (Fe.fA (Fe.aM s.Z q.z) (Fe.aM (Fe.aM s.A s.B) q.t))=phi s.Z*phi q.z+phi (Fe.aM s.A s.B)*phi q.t:=by
  rw[lM (Fe.mul_right _ _) (Fe.mul_right _ _),eU h.rZ k.rz,eU rT k.rt]
 have pv:phi (Fe.gQ (Fe.aM s.Z q.z) (Fe.aM (Fe.aM s.A s.B) q.t))=phi s.Z*phi q.z-phi (Fe.aM s.A s.B)*phi q.t:=by
  rw[mW (Fe.mul_right _ _) (Fe.mul_right _ _),eU h.rZ k.rz,eU rT k.rt]
 have pm:phi (Fe.aM (Fe.fA s.Y s.X) q.m)=(phi s.Y+phi s.X)*phi q.m:=by rw[eU (Fe.dH _ _) k.rm,lM h.rY h.rX]
 have pl:phi (Fe.aM (Fe.gQ s.Y s.X) q.l)=(phi s.Y-phi s.X)*phi q.l:=by rw[eU (Fe.fI _ _) k.rl,mW h.rY h.rX]
 refine bIs rT (Fe.fI _ _) (Fe.dH _ _) (Fe.dH _ _) (Fe.fI _ _) (rV h.on k.on) ?_ ?_ ?_ ?_
 .rw[pu,n3.1];exact eG Kh (eG h.z (eG hz (oN h.on k.on)))
 .rw[pv,n3.2];exact eG Kh (eG h.z (eG hz (lW h.on k.on)))
 .rw[pu,mW (Fe.mul_right _ _) (Fe.mul_right _ _),pm,pl]
  exact e_1 _ _ _ _ _ _ _ _ _ _ d _ _ _ h.x h.y hT hm hl hzz ht _ (yO h.on k.on)
 .rw[pv,lM (Fe.mul_right _ _) (Fe.mul_right _ _),pm,pl]
  exact e_2 _ _ _ _ _ _ _ _ _ _ d _ _ _ h.x h.y hT hm hl hzz ht _ (yP h.on k.on)
theorem MB {s:Sm} {p:Pr} (h:lX s p):lX (Kj s) (add p p):=by
 have a1:(1+d*(p.x*p.x*p.y*p.y))*(add p p).x=p.x*p.y+p.x*p.y:=yO h.on h.on
 have a2:(1-d*(p.x*p.x*p.y*p.y))*(add p p).y=p.y*p.y+p.x*p.x:=yP h.on h.on
 obtain⟨h1,h2,h3,h4⟩:=e_4 _ _ _ _ _ d _ _ h.x h.y h.on a1 a2
 have pu:phi (Fe.gQ (Fe.bZ s.Y) (Fe.bZ s.X))=phi s.Y*phi s.Y-phi s.X*phi s.X:=by
  rw[mW (Fe.dO _) (Fe.dO _),uP h.rY,uP h.rX]
 have pz:phi (Fe.fA (Fe.bZ s.Z) (Fe.bZ s.Z))=phi s.Z*phi s.Z+phi s.Z*phi s.Z:=by
  rw[lM (Fe.dO _) (Fe.dO _),uP h.rZ]
 refine bIs h.rT (Fe.dH _ _) (Fe.fI _ _) (Fe.dH _ _) (Fe.fI _ _) (rV h.on h.on) ?_ ?_ ?_ ?_
 .rw[pu,h3];exact eG h.z (eG h.z (oN h.on h.on))
 .rw[mW (Fe.dH _ _) (Fe.fI _ _),pu,pz,h4];exact eG h.z (eG h.z (lW h.on h.on))
 .rw[pu,lM (Fe.mul_right _ _) (Fe.mul_right _ _),eU h.rX h.rY];exact h1
 .rw[mW (Fe.dH _ _) (Fe.fI _ _),pu,pz,lM (Fe.dO _) (Fe.dO _),uP h.rY,uP h.rX];exact h2
theorem abN {s:Pt} {p:Pr} (h:iI s p):iI (agC s) (neg p):=
 ⟨Fe.ku _,h.rY,h.rZ,Fe.ku _,uO h.on,h.z,by show phi (Fe.kF s.X)=_;rw[zq h.rX];exact e_5 _ _ _ h.x,h.y,by show phi (Fe.kF s.T)=_;rw[zq h.rT];exact e_6 _ _ _ _ h.t⟩
theorem RZ:iI bQ zero:=by
 refine⟨oP,jG,jG,oP,oO,?_,?_,?_,?_⟩
 .show phi Fe.dM≠0
  rw[jw];exact rU
 .show phi Fe.bL=phi Fe.dM*0
  rw[jw,Ah];exact e_7.1
 .show phi Fe.dM=phi Fe.dM*1
  rw[jw];exact e_7.2.1
 .show phi Fe.bL=phi Fe.dM*(0*1)
  rw[jw,Ah];exact e_7.2.2
theorem Y4 {s t:Pt} {p q:Pr} (h:iI s p) (k:iI t q):(Fe.m (Fe.aM s.X t.Z)=Fe.m (Fe.aM t.X s.Z)/\Fe.m (Fe.aM s.Y t.Z)=Fe.m (Fe.aM t.Y s.Z))↔p=q:=by
 rw[Gm,Gm,eU h.rX k.rZ,eU k.rX h.rZ,eU h.rY k.rZ,eU k.rY h.rZ,e_9 h.x k.x,e_9 h.y k.y]
 have hz:=eG h.z k.z
 exact⟨fun⟨h1,h2⟩=>ext (cancel hz h1) (cancel hz h2),fun e=>by rw[e];exact⟨rfl,rfl⟩⟩
def fq:Pt:=⟨⟨0x62d608f25d51a,0x412a4b4f6592a,0x75b7171a4b31d,0x1ff60527118fe,0x216936d3cd6e5⟩,⟨0x6666666666658,0x4cccccccccccc,0x1999999999999,0x3333333333333,0x6666666666666⟩,Fe.dM,⟨0x68ab3a5b7dda3,0xeea2a5eadbb,0x2af8df483c27e,0x332b375274732,0x67875f0fd78b7⟩⟩
def bS:Pr:=⟨phi fq.X,phi fq.Y⟩
theorem gT:On bS:=by
 show bS.y*bS.y-bS.x*bS.x=1+d*(bS.x*bS.x*(bS.y*bS.y))
 decide +kernel
theorem Eh {n:Nat} [NeZero n] (o x:Fin n) (h:o=1):x=o*x:=by grind
theorem Ei:iI fq bS:=by
 refine⟨by constructor<;>decide,by constructor<;>decide,jG,by constructor<;>decide,gT,?_,Eh _ _ jw,Eh _ _ jw,?_⟩
 .show phi Fe.dM≠0
  rw[jw];exact rU
 .show phi fq.T=phi fq.Z*(bS.x*bS.y)
  decide +kernel
end Ed
section
open Go Go.RowKit
namespace Ed
def aY (p:Pt):List Value:=aQ p.X++aQ p.Y++aQ p.Z++aQ p.T
def kU (s:Sm):List Value:=aQ s.X++aQ s.Y++aQ s.Z++aQ s.T++aQ s.A++aQ s.B
def xQ (a:Ad):List Value:=aQ a.m++aQ a.l++aQ a.z++aQ a.t
def Pt.v (p:Pt):Value:=.agg (aY p).toArray
def Sm.v (s:Sm):Value:=.agg (kU s).toArray
def Ad.v (a:Ad):Value:=.agg (xQ a).toArray
theorem cB (a:Fe):(aQ a).all (·.oneCell')=true:=rfl
theorem gy (p:Pt):(aY p).all (·.oneCell')=true:=rfl
theorem zu (s:Sm):(kU s).all (·.oneCell')=true:=rfl
theorem VQ (a:Ad):(xQ a).all (·.oneCell')=true:=rfl
def iQ (L:List Pt):List Value:=L.flatMap aY
def qb (L:List Ad):List Value:=L.flatMap xQ
structure Pt.Ok (p:Pt):Prop where
 X:p.X.Ok
 Y:p.Y.Ok
 Z:p.Z.Ok
 T:p.T.Ok
structure Sm.Ok (p:Sm):Prop where
 X:p.X.Ok
 Y:p.Y.Ok
 Z:p.Z.Ok
 T:p.T.Ok
 A:p.A.Ok
 B:p.B.Ok
structure Ad.Ok (p:Ad):Prop where
 m:p.m.Ok
 l:p.l.Ok
 z:p.z.Ok
 t:p.t.Ok
theorem R3:Fe.dM.Ok:=jG.ok
theorem MC:Fe.bL.Ok:=oP.ok
theorem iI.ok {s:Pt} {p:Pr} (h:iI s p):s.Ok:=⟨h.rX.ok,h.rY.ok,h.rZ.ok,h.rT.ok⟩
theorem lX.ok {s:Sm} {p:Pr} (h:lX s p):s.Ok:=⟨h.rX.ok,h.rY.ok,h.rZ.ok,h.rT.ok,h.rA.ok,h.rB.ok⟩
end Ed
open Ed
theorem aD:(Tryz.prog.info? 66).map (·.size)=some 5:=by kernel_rfl
theorem aO:(Tryz.prog.info? 68).map (·.size)=some 20:=by kernel_rfl
theorem rW:(Tryz.prog.info? 149).map (·.size)=some 30:=by kernel_rfl
theorem sj:(Tryz.prog.info? 160).map (·.size)=some 20:=by kernel_rfl
theorem fB {w w':World} {b o:Nat} {cs:List Value} {row:Option Nat} (h:w.rangeAt b o cs) (hg:w.grownBy w' row) (hb:b<w.heap.size) (hr:some b≠row):w'.rangeAt b o cs:=fun j v hv=>by
 rw[aW hg (p:=⟨b,o+j,none⟩) hb hr]
 exact h j v hv
structure dB (w:World):Prop where
 f:qY w
 ld:5<w.heap.size
 lb:1<w.heap.size
 d:w.rangeAt 5 0 (aQ dF)
 b:w.rangeAt 1 0 (aY fq)
theorem dB.grown {w w':World} (h:dB w) (hg:w.grownBy w' none):dB w':=
 ⟨h.f.grown hg,Nat.lt_of_lt_of_le h.ld hg.size,Nat.lt_of_lt_of_le h.lb hg.size,fB h.d hg h.ld (by simp),fB h.b hg h.lb (by simp)⟩
theorem qY.keep {w w':World} {S:Nat} (h:qY w) (hg:w.grownBy w' (some S)) (h1:4≠S) (h2:6≠S):qY w':=
 ⟨⟨Nat.lt_of_lt_of_le h.lt.1 hg.size,Nat.lt_of_lt_of_le h.lt.2 hg.size⟩,fun i hi=>by rw[aW hg (p:=⟨4,i,none⟩) h.lt.1 (bJ h1)];exact h.p i hi,
  fun i hi=>by rw[aW hg (p:=⟨6,i,none⟩) h.lt.2 (bJ h2)];exact h.q i hi⟩
def Y5 (S:Nat):Prop:=4≠S/\6≠S/\5≠S/\1≠S
theorem dB.keep {w w':World} {S:Nat} (h:dB w) (hg:w.grownBy w' (some S)) (hS:Y5 S):dB w':=
 ⟨h.f.keep hg hS.1 hS.2.1,Nat.lt_of_lt_of_le h.ld hg.size,Nat.lt_of_lt_of_le h.lb hg.size,fB h.d hg h.ld (bJ hS.2.2.1),fB h.b hg h.lb (bJ hS.2.2.2)⟩
theorem dB.jM {w:World} (h:dB w) {S:Nat} (hS:w.heap.size<=S):Y5 S:=
 ⟨by have:=h.f.lt.1;omega,by have:=h.f.lt.2;omega,by have:=h.ld;omega,by have:=h.lb;omega⟩
theorem eO (b o:Nat) (w:World):(Instr.fieldAt 68 (.pointer (some ⟨b,o,none⟩)) 0).run Tryz.prog w=.ok (.pointer (some ⟨b,o,none⟩)) w:=by go_simp
theorem gY (b o:Nat) (w:World):(Instr.fieldAt 68 (.pointer (some ⟨b,o,none⟩)) 1).run Tryz.prog w=.ok (.pointer (some ⟨b,o+5,none⟩)) w:=by go_simp
theorem eP (b o:Nat) (w:World):(Instr.fieldAt 68 (.pointer (some ⟨b,o,none⟩)) 2).run Tryz.prog w=.ok (.pointer (some ⟨b,o+10,none⟩)) w:=by go_simp
theorem nC (b o:Nat) (w:World):(Instr.fieldAt 68 (.pointer (some ⟨b,o,none⟩)) 3).run Tryz.prog w=.ok (.pointer (some ⟨b,o+15,none⟩)) w:=by go_simp
theorem Kk (b o:Nat) (w:World):(Instr.fieldAt 160 (.pointer (some ⟨b,o,none⟩)) 0).run Tryz.prog w=.ok (.pointer (some ⟨b,o,none⟩)) w:=by go_simp
theorem Kl (b o:Nat) (w:World):(Instr.fieldAt 160 (.pointer (some ⟨b,o,none⟩)) 1).run Tryz.prog w=.ok (.pointer (some ⟨b,o+5,none⟩)) w:=by go_simp
theorem Km (b o:Nat) (w:World):(Instr.fieldAt 160 (.pointer (some ⟨b,o,none⟩)) 2).run Tryz.prog w=.ok (.pointer (some ⟨b,o+10,none⟩)) w:=by go_simp
theorem Kn (b o:Nat) (w:World):(Instr.fieldAt 160 (.pointer (some ⟨b,o,none⟩)) 3).run Tryz.prog w=.ok (.pointer (some ⟨b,o+15,none⟩)) w:=by go_simp
theorem je (b o:Nat) (w:World):(Instr.fieldAt 149 (.pointer (some ⟨b,o,none⟩)) 0).run Tryz.prog w=.ok (.pointer (some ⟨b,o,none⟩)) w:=by go_simp
theorem VR (b o:Nat) (w:World):(Instr.fieldAt 149 (.pointer (some ⟨b,o,none⟩)) 1).run Tryz.prog w=.ok (.pointer (some ⟨b,o+20,none⟩)) w:=by go_simp
theorem VT (b o:Nat) (w:World):(Instr.fieldAt 149 (.pointer (some ⟨b,o,none⟩)) 2).run Tryz.prog w=.ok (.pointer (some ⟨b,o+25,none⟩)) w:=by go_simp
section
variable {a b:Fe} {w:World}
abbrev kY (f:Nat) (args:Array Value) (w:World) (v:Value):Prop:=Calls Tryz.prog f args w fun e w'=>e=.returned v/\w.grownBy w' none
theorem jd (ha:a.Ok) (hb:b.Ok):kY 82 #[a.v,b.v] w (Fe.aM a b).v:=(lC a b w ha hb).mono fun _ _ h=>eH h
theorem VU (ha:a.Ok):kY 105 #[a.v] w (Fe.bZ a).v:=(vY a w ha).mono fun _ _ h=>eH h
theorem uH (ha:a.Ok) (hb:b.Ok):kY 129 #[a.v,b.v] w (Fe.fA a b).v:=(Vy a b w ha hb).mono fun _ _ h=>eH h
theorem Ai (hT:qY w) (ha:a.Ok) (hb:b.Ok):kY 127 #[a.v,b.v] w (Fe.gQ a b).v:=(Md a b w hT ha hb).mono fun _ _ h=>eH h
theorem R4 (hT:qY w) (ha:a.Ok):kY 120 #[a.v] w (Fe.kF a).v:=(Ee a w hT ha).mono fun _ _ h=>eH h
theorem Df:kY 97 #[] w Fe.dM.v:=(Vz w).mono fun _ _ h=>eH h
theorem XW (ha:a.Ok):kY 80 #[a.v] w (Ae a).v:=(Kc a w ha).mono fun _ _ h=>eH h
theorem Aj (ha:a.Ok) (hb:b.Ok) {x:Bool} (h:decide (Fe.m a=Fe.m b)=x):kY 118 #[a.v,b.v] w (.bool x):=RU a b x w ha hb h
theorem R5 (ha:a.Ok) {x:Bool} (h:decide (Fe.m a=0)=x):kY 154 #[a.v] w (.bool x):=jT a x w ha h
theorem XY (ha:a.Ok) {x:Bool} (h:decide (Fe.m a%2=1)=x):kY 83 #[a.v] w (.bool x):=wm a x w ha h
end
theorem Y6 {u v r:Fe} {b:Bool} {w:World} (hT:qY w) (hu:u.Ok) (hv:v.Ok) (h:fM u v=(r,b)):kY 153 #[u.v,v.v] w (.tuple #[r.v,.bool b]):=(RS u v w hT hu hv).mono fun e w' h'=>by
 obtain⟨r',hr,he,hg⟩:=h'
 have e1:=hr.out
 subst e1
 rw[h]at he
 exact⟨he,hg⟩
theorem dn {P:Program} {fn:Func} {p u:Tmp} {ty:TypeId} (h:fn.results=#[.cell p ty,.tmp u]) (tmps:Array Value) (w:World) (g:Nat) (t:TypeId) (cs:Array Value) (fr:Nat×Nat) (d:TypeDesc)
  (hp:tmps.getD p undef=.pointer (some ⟨g,0,none⟩)) (hg:w.heap[g]?=some (.cells cs t fr))
  (hu:P.underlying ty=some d) (hd:(match d with | .struct _ | .array _ _=>true|_=>false)=true) (hi:(P.info? ty).map (·.size)=some cs.size) {v:Value} (hv:tmps.getD u undef=v):
  (results fn tmps).run P w=.ok (.tuple #[.agg cs,v]) w:=by
 rw[results_cell_tmp h,hp,hv]
 simp[asAddr,run_loadVar_row w g t ty cs fr d hg hu hd hi,Result.andThen]
def ME (p:Pr) (w:World) (e:Ending) (w':World):Prop:=∃t:Pt,iI t p/\e=.returned t.v/\w.grownBy w' none
end
end Go.Proofs.YtjgnjhgdmdmebaaGreatDoor
