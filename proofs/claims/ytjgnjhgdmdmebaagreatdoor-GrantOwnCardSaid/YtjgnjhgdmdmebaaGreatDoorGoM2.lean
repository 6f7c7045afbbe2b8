/- texts merged -/
import Derived.Test.YtjgnjhgdmdmebaaGreatDoorGoM1
import Derived.RegionTactic
import Derived.ChangeAlike
import Derived.BigRegion
import Derived.ChangeKeysEq
import Derived.Deep.Cut
import Derived.Laws.ResultCell
namespace Go.Proofs.YtjgnjhgdmdmebaaGreatDoor
section
open Go.RowKit
def sqG (A R:Nat) (x0 x1 x2 x3 x4 z0 z1 z2 z3 z4 z5 S0 S1 S2 S3 S4:Int) (r:Fe):List (Value->World->Prop):=[
 fun _ _=>True,
 fun _ _=>True,
 fun _ _=>True,
 fun _ _=>True,
 fun _ _=>True,
 fun _ _=>True,
 fun _ _=>True,
 fun _ _=>True,
 fun _ _=>True,
 fun _ _=>True,
 fun _ _=>True,
 fun _ _=>True,
 fun _ _=>True,
 fun _ _=>True,
 fun _ _=>True,
 fun _ _=>True,
 fun _ _=>True,
 fun _ _=>True,
 fun _ _=>True,
 fun v _=>v=.pointer (some ⟨A,0,none⟩),
 fun v _=>v=.int .u64 x0,
 fun v _=>v=.pointer (some ⟨A,0,none⟩),
 fun v _=>v=.int .u64 x0,
 fun v _=>v=.agg #[.int .u64 x0,.int .u64 x0],
 fun v _=>v=.int .u64 z1,
 fun v _=>v=.int .u64 z3,
 fun v _=>v=.agg #[.int .u64 z1,.int .u64 z3],
 fun v _=>v=.pointer (some ⟨A,2,none⟩),
 fun v _=>v=.int .u64 x2,
 fun v _=>v=.int .u64 z4,
 fun v _=>v=.int .u64 z2,
 fun v _=>v=.agg #[.int .u64 z4,.int .u64 z2],
 fun v w=>∃PB,PB≠R/\v=.slice (some ⟨PB,0,none⟩) 3 3/\aF w PB 175 (flat [(x0,x0),(z1,z3),(z4,z2)]),
 fun v _=>v=.agg #[.int .u64 (S0/18446744073709551616),.int .u64 (S0%18446744073709551616)],
 fun v _=>v=.int .u64 z0,
 fun v _=>v=.pointer (some ⟨A,1,none⟩),
 fun v _=>v=.int .u64 x1,
 fun v _=>v=.agg #[.int .u64 z0,.int .u64 x1],
 fun v _=>v=.pointer (some ⟨A,2,none⟩),
 fun v _=>v=.int .u64 x2,
 fun v _=>v=.int .u64 z4,
 fun v _=>v=.int .u64 z3,
 fun v _=>v=.agg #[.int .u64 z4,.int .u64 z3],
 fun v _=>v=.pointer (some ⟨A,3,none⟩),
 fun v _=>v=.int .u64 x3,
 fun v _=>v=.int .u64 z2,
 fun v _=>v=.agg #[.int .u64 x3,.int .u64 z2],
 fun v w=>∃PB,PB≠R/\v=.slice (some ⟨PB,0,none⟩) 3 3/\aF w PB 175 (flat [(z0,x1),(z4,z3),(x3,z2)]),
 fun v _=>v=.agg #[.int .u64 (S1/18446744073709551616),.int .u64 (S1%18446744073709551616)],
 fun v _=>v=.int .u64 z0,
 fun v _=>v=.pointer (some ⟨A,2,none⟩),
 fun v _=>v=.int .u64 x2,
 fun v _=>v=.agg #[.int .u64 z0,.int .u64 x2],
 fun v _=>v=.pointer (some ⟨A,1,none⟩),
 fun v _=>v=.int .u64 x1,
 fun v _=>v=.pointer (some ⟨A,1,none⟩),
 fun v _=>v=.int .u64 x1,
 fun v _=>v=.agg #[.int .u64 x1,.int .u64 x1],
 fun v _=>v=.pointer (some ⟨A,3,none⟩),
 fun v _=>v=.int .u64 x3,
 fun v _=>v=.int .u64 z5,
 fun v _=>v=.int .u64 z3,
 fun v _=>v=.agg #[.int .u64 z5,.int .u64 z3],
 fun v w=>∃PB,PB≠R/\v=.slice (some ⟨PB,0,none⟩) 3 3/\aF w PB 175 (flat [(z0,x2),(x1,x1),(z5,z3)]),
 fun v _=>v=.agg #[.int .u64 (S2/18446744073709551616),.int .u64 (S2%18446744073709551616)],
 fun v _=>v=.int .u64 z0,
 fun v _=>v=.pointer (some ⟨A,3,none⟩),
 fun v _=>v=.int .u64 x3,
 fun v _=>v=.agg #[.int .u64 z0,.int .u64 x3],
 fun v _=>v=.int .u64 z1,
 fun v _=>v=.pointer (some ⟨A,2,none⟩),
 fun v _=>v=.int .u64 x2,
 fun v _=>v=.agg #[.int .u64 z1,.int .u64 x2],
 fun v _=>v=.pointer (some ⟨A,4,none⟩),
 fun v _=>v=.int .u64 x4,
 fun v _=>v=.int .u64 z3,
 fun v _=>v=.agg #[.int .u64 x4,.int .u64 z3],
 fun v w=>∃PB,PB≠R/\v=.slice (some ⟨PB,0,none⟩) 3 3/\aF w PB 175 (flat [(z0,x3),(z1,x2),(x4,z3)]),
 fun v _=>v=.agg #[.int .u64 (S3/18446744073709551616),.int .u64 (S3%18446744073709551616)],
 fun v _=>v=.int .u64 z0,
 fun v _=>v=.pointer (some ⟨A,4,none⟩),
 fun v _=>v=.int .u64 x4,
 fun v _=>v=.agg #[.int .u64 z0,.int .u64 x4],
 fun v _=>v=.int .u64 z1,
 fun v _=>v=.pointer (some ⟨A,3,none⟩),
 fun v _=>v=.int .u64 x3,
 fun v _=>v=.agg #[.int .u64 z1,.int .u64 x3],
 fun v _=>v=.pointer (some ⟨A,2,none⟩),
 fun v _=>v=.int .u64 x2,
 fun v _=>v=.pointer (some ⟨A,2,none⟩),
 fun v _=>v=.int .u64 x2,
 fun v _=>v=.agg #[.int .u64 x2,.int .u64 x2],
 fun v w=>∃PB,PB≠R/\v=.slice (some ⟨PB,0,none⟩) 3 3/\aF w PB 175 (flat [(z0,x4),(z1,x3),(x2,x2)]),
 fun v _=>v=.agg #[.int .u64 (S4/18446744073709551616),.int .u64 (S4%18446744073709551616)],
 fun v _=>v=.agg #[.int .u64 (S0/18446744073709551616),.int .u64 (S0%18446744073709551616),.int .u64 (S1/18446744073709551616),.int .u64 (S1%18446744073709551616),.int .u64 (S2/18446744073709551616),.int .u64 (S2%18446744073709551616),.int .u64 (S3/18446744073709551616),.int .u64 (S3%18446744073709551616),.int .u64 (S4/18446744073709551616),.int .u64 (S4%18446744073709551616)],
 fun v _=>v=r.v]
def X4 (A R:Nat) (x0 x1 x2 x3 x4 z0 z1 z2 z3 z4 z5 S0 S1 S2 S3 S4:Int) (r:Fe) (d:Nat) (v:Value) (w:World):Prop:=((sqG A R x0 x1 x2 x3 x4 z0 z1 z2 z3 z4 z5 S0 S1 S2 S3 S4 r).getD d (fun _ _=>True)) v w
structure QS (w0:World) (A R:Nat) (x0 x1 x2 x3 x4:Int) (w:World):Prop where
 a:aF w A 66 [.int .u64 x0,.int .u64 x1,.int .u64 x2,.int .u64 x3,.int .u64 x4]
 r:fQ w R 66
 g:w0.grownBy w none
 ra:A≠R
 rn:w0.heap.size<=R
theorem QS.grown {w0:World} {A R:Nat} {x0 x1 x2 x3 x4:Int} {w w':World} (h:QS w0 A R x0 x1 x2 x3 x4 w) (hg:w.grownBy w' none):QS w0 A R x0 x1 x2 x3 x4 w':=
 ⟨h.a.grown hg (by simp),h.r.grown hg (by simp),aj h.g hg,h.ra,h.rn⟩
theorem QS.alloc {w0:World} {A R:Nat} {x0 x1 x2 x3 x4:Int} {w:World} (h:QS w0 A R x0 x1 x2 x3 x4 w) (o:Obj):QS w0 A R x0 x1 x2 x3 x4 (w.alloc o):=h.grown (World.grownBy_alloc _ _ _)
theorem QS.sw {w0:World} {A R:Nat} {x0 x1 x2 x3 x4:Int} {w:World} (h:QS w0 A R x0 x1 x2 x3 x4 w) (v0 v1 v2 v3 v4:Value):
  QS w0 A R x0 x1 x2 x3 x4 (((((w.setCell ⟨R,0,none⟩ v0).setCell ⟨R,1,none⟩ v1).setCell ⟨R,2,none⟩ v2).setCell ⟨R,3,none⟩ v3).setCell ⟨R,4,none⟩ v4):=
 ⟨((((h.a.other (Ne.symm h.ra) _).other (Ne.symm h.ra) _).other (Ne.symm h.ra) _).other (Ne.symm h.ra) _).other (Ne.symm h.ra) _,
  ⟨_,_,_,_,_,h.r.sw v0 v1 v2 v3 v4⟩,aJ (aJ (aJ (aJ (aJ h.g h.rn _) h.rn _) h.rn _) h.rn _) h.rn _,h.ra,h.rn⟩
theorem NU (A R:Nat) (x0 x1 x2 x3 x4 z0 z1 z2 z3 z4 z5 S0 S1 S2 S3 S4:Int) (r:Fe) (d:Nat) (u:Value) (w w':World) (hR:w.grownBy w' (some R)) (h:X4 A R x0 x1 x2 x3 x4 z0 z1 z2 z3 z4 z5 S0 S1 S2 S3 S4 r d u w):X4 A R x0 x1 x2 x3 x4 z0 z1 z2 z3 z4 z5 S0 S1 S2 S3 S4 r d u w':=
 Aj (R:=R) _ (show Stable R (sqG A R x0 x1 x2 x3 x4 z0 z1 z2 z3 z4 z5 S0 S1 S2 S3 S4 r) from⟨fun _ _ _ _ h=>h,fun _ _ _ _ h=>h,fun _ _ _ _ h=>h,fun _ _ _ _ h=>h,fun _ _ _ _ h=>h,fun _ _ _ _ h=>h,fun _ _ _ _ h=>h,fun _ _ _ _ h=>h,fun _ _ _ _ h=>h,fun _ _ _ _ h=>h,fun _ _ _ _ h=>h,fun _ _ _ _ h=>h,fun _ _ _ _ h=>h,fun _ _ _ _ h=>h,fun _ _ _ _ h=>h,fun _ _ _ _ h=>h,fun _ _ _ _ h=>h,fun _ _ _ _ h=>h,fun _ _ _ _ h=>h,fun _ _ _ _ h=>h,fun _ _ _ _ h=>h,fun _ _ _ _ h=>h,fun _ _ _ _ h=>h,fun _ _ _ _ h=>h,fun _ _ _ _ h=>h,fun _ _ _ _ h=>h,fun _ _ _ _ h=>h,fun _ _ _ _ h=>h,fun _ _ _ _ h=>h,fun _ _ _ _ h=>h,fun _ _ _ _ h=>h,fun _ _ _ _ h=>h,fun _ _ _ hR ⟨PB,hne,hv,hb⟩=>⟨PB,hne,hv,hb.grown hR (bJ hne)⟩,fun _ _ _ _ h=>h,fun _ _ _ _ h=>h,fun _ _ _ _ h=>h,fun _ _ _ _ h=>h,fun _ _ _ _ h=>h,fun _ _ _ _ h=>h,fun _ _ _ _ h=>h,fun _ _ _ _ h=>h,fun _ _ _ _ h=>h,fun _ _ _ _ h=>h,fun _ _ _ _ h=>h,fun _ _ _ _ h=>h,fun _ _ _ _ h=>h,fun _ _ _ _ h=>h,fun _ _ _ hR ⟨PB,hne,hv,hb⟩=>⟨PB,hne,hv,hb.grown hR (bJ hne)⟩,fun _ _ _ _ h=>h,fun _ _ _ _ h=>h,fun _ _ _ _ h=>h,fun _ _ _ _ h=>h,fun _ _ _ _ h=>h,fun _ _ _ _ h=>h,fun _ _ _ _ h=>h,fun _ _ _ _ h=>h,fun _ _ _ _ h=>h,fun _ _ _ _ h=>h,fun _ _ _ _ h=>h,fun _ _ _ _ h=>h,fun _ _ _ _ h=>h,fun _ _ _ _ h=>h,fun _ _ _ _ h=>h,fun _ _ _ hR ⟨PB,hne,hv,hb⟩=>⟨PB,hne,hv,hb.grown hR (bJ hne)⟩,fun _ _ _ _ h=>h,fun _ _ _ _ h=>h,fun _ _ _ _ h=>h,fun _ _ _ _ h=>h,fun _ _ _ _ h=>h,fun _ _ _ _ h=>h,fun _ _ _ _ h=>h,fun _ _ _ _ h=>h,fun _ _ _ _ h=>h,fun _ _ _ _ h=>h,fun _ _ _ _ h=>h,fun _ _ _ _ h=>h,fun _ _ _ _ h=>h,fun _ _ _ hR ⟨PB,hne,hv,hb⟩=>⟨PB,hne,hv,hb.grown hR (bJ hne)⟩,fun _ _ _ _ h=>h,fun _ _ _ _ h=>h,fun _ _ _ _ h=>h,fun _ _ _ _ h=>h,fun _ _ _ _ h=>h,fun _ _ _ _ h=>h,fun _ _ _ _ h=>h,fun _ _ _ _ h=>h,fun _ _ _ _ h=>h,fun _ _ _ _ h=>h,fun _ _ _ _ h=>h,fun _ _ _ _ h=>h,fun _ _ _ _ h=>h,fun _ _ _ _ h=>h,fun _ _ _ hR ⟨PB,hne,hv,hb⟩=>⟨PB,hne,hv,hb.grown hR (bJ hne)⟩,fun _ _ _ _ h=>h,fun _ _ _ _ h=>h,fun _ _ _ _ h=>h,trivial⟩) d u w w' hR h
set_option maxRecDepth 100000 in
set_option maxHeartbeats 4000000 in
theorem X5 (x0 x1 x2 x3 x4:Int) (w:World) (a0:0<=x0) (c0:x0<18446744073709551616) (a1:0<=x1) (c1:x1<18446744073709551616) (a2:0<=x2) (c2:x2<18446744073709551616) (a3:0<=x3) (c3:x3<18446744073709551616) (a4:0<=x4) (c4:x4<18446744073709551616):
  Calls Tryz.prog 105 #[.agg #[.int .u64 x0,.int .u64 x1,.int .u64 x2,.int .u64 x3,.int .u64 x4]] w (nU (Fe.cZ ⟨x0,x1,x2,x3,x4⟩) w):=by
 obtain⟨z0,hz0⟩:∃z,IntKind.u64.wrap (2*x0)=z:=⟨_,rfl⟩
 have pz0:0<=z0:=by rw[<- hz0,iC];unfold Fe.dJ;omega
 have qz0:z0<18446744073709551616:=by rw[<- hz0,iC];unfold Fe.dJ;omega
 obtain⟨z1,hz1⟩:∃z,IntKind.u64.wrap (2*x1)=z:=⟨_,rfl⟩
 have pz1:0<=z1:=by rw[<- hz1,iC];unfold Fe.dJ;omega
 have qz1:z1<18446744073709551616:=by rw[<- hz1,iC];unfold Fe.dJ;omega
 obtain⟨z2,hz2⟩:∃z,IntKind.u64.wrap (19*x3)=z:=⟨_,rfl⟩
 have pz2:0<=z2:=by rw[<- hz2,iC];unfold Fe.dJ;omega
 have qz2:z2<18446744073709551616:=by rw[<- hz2,iC];unfold Fe.dJ;omega
 obtain⟨z3,hz3⟩:∃z,IntKind.u64.wrap (19*x4)=z:=⟨_,rfl⟩
 have pz3:0<=z3:=by rw[<- hz3,iC];unfold Fe.dJ;omega
 have qz3:z3<18446744073709551616:=by rw[<- hz3,iC];unfold Fe.dJ;omega
 obtain⟨z4,X6⟩:∃z,IntKind.u64.wrap (2*x2)=z:=⟨_,rfl⟩
 have pz4:0<=z4:=by rw[<- X6,iC];unfold Fe.dJ;omega
 have qz4:z4<18446744073709551616:=by rw[<- X6,iC];unfold Fe.dJ;omega
 obtain⟨z5,hz5⟩:∃z,IntKind.u64.wrap (2*x3)=z:=⟨_,rfl⟩
 have pz5:0<=z5:=by rw[<- hz5,iC];unfold Fe.dJ;omega
 have qz5:z5<18446744073709551616:=by rw[<- hz5,iC];unfold Fe.dJ;omega
 obtain⟨S0,hS0⟩:∃S,nT [(x0,x0),(z1,z3),(z4,z2)]=S:=⟨_,rfl⟩
 obtain⟨S1,hS1⟩:∃S,nT [(z0,x1),(z4,z3),(x3,z2)]=S:=⟨_,rfl⟩
 obtain⟨S2,hS2⟩:∃S,nT [(z0,x2),(x1,x1),(z5,z3)]=S:=⟨_,rfl⟩
 obtain⟨S3,Xc⟩:∃S,nT [(z0,x3),(z1,x2),(x4,z3)]=S:=⟨_,rfl⟩
 obtain⟨S4,hS4⟩:∃S,nT [(z0,x4),(z1,x3),(x2,x2)]=S:=⟨_,rfl⟩
 obtain⟨r,hr⟩:∃r,r=Fe.uO S0 S1 S2 S3 S4:=⟨_,rfl⟩
 have vR:=Lib.hid hS0;clear hS0
 have NT:=Lib.hid hS1;clear hS1
 have HS2:=Lib.hid hS2;clear hS2
 have XY:=Lib.hid Xc;clear Xc
 have X0:=Lib.hid hS4;clear hS4
 have Hr:=Lib.hid hr;clear hr
 have iS0:nS S0:=by rw[<- vR.out];exact⟨(gG _).1,(gG _).2⟩
 have iS1:nS S1:=by rw[<- NT.out];exact⟨(gG _).1,(gG _).2⟩
 have iS2:nS S2:=by rw[<- HS2.out];exact⟨(gG _).1,(gG _).2⟩
 have iS3:nS S3:=by rw[<- XY.out];exact⟨(gG _).1,(gG _).2⟩
 have iS4:nS S4:=by rw[<- X0.out];exact⟨(gG _).1,(gG _).2⟩
 have Xd:=Lib.hid hz0;clear hz0
 have Xe:=Lib.hid hz1;clear hz1
 have Xf:=Lib.hid hz2;clear hz2
 have QO:=Lib.hid hz3;clear hz3
 have Hz4:=Lib.hid X6;clear X6
 have Hz5:=Lib.hid hz5;clear hz5
 go_enter Tryz.func105,Tryz.ntmps105
 have hB0:QS w w.heap.size (w.heap.size+1) x0 x1 x2 x3 x4 ((w.alloc (.cells #[.int .u64 x0,.int .u64 x1,.int .u64 x2,.int .u64 x3,.int .u64 x4] 66)).alloc (.cells #[.int .u64 0,.int .u64 0,.int .u64 0,.int .u64 0,.int .u64 0] 66)):=
  ⟨(aF.new w [.int .u64 x0,.int .u64 x1,.int .u64 x2,.int .u64 x3,.int .u64 x4] _).alloc _,⟨_,_,_,_,_,aF.newAt _ [.int .u64 0,.int .u64 0,.int .u64 0,.int .u64 0,.int .u64 0] _ (by simp)⟩,au (au (ah _ _) _) _,by omega,by omega⟩
 go_wp2
 go_quiet (fail)
 go_wp2
 go_quiet (fail)
 go_wp2
 refine rU (X4 w.heap.size (w.heap.size+1) x0 x1 x2 x3 x4 z0 z1 z2 z3 z4 z5 S0 S1 S2 S3 S4 r) (fun _ w'=>aF w' (w.heap.size+1) 66 [.int .u64 r.x0,.int .u64 r.x1,.int .u64 r.x2,.int .u64 r.x3,.int .u64 r.x4])
  (QS w w.heap.size (w.heap.size+1) x0 x1 x2 x3 x4) (fun w' w''=>w'.grownBy w'' none\/(w'.grownBy w'' (some (w.heap.size+1))/\aF w'' (w.heap.size+1) 66 [.int .u64 r.x0,.int .u64 r.x1,.int .u64 r.x2,.int .u64 r.x3,.int .u64 r.x4])) (by kernel_rfl) (by kernel_rfl) (by kernel_rfl) (((hB0.grown (jq (ah _ none) _)).grown (jq (ah _ none) _)).grown (aX (ah _ none))) ?_ ?_ ?_ ?_
 .exact fun d u w1 w2 hR h=>NU _ _ _ _ _ _ _ _ _ _ _ _ _ _ _ _ _ _ r d u w1 w2 (hR.elim (fun h=>fZ h _) (fun h=>h.1)) h
 .exact fun j w1 w2 hR h=>hR.elim (fun hg=>h.grown hg (by simp)) (fun h=>h.2)
 .clear hB0
  generalize w.heap.size=A
  generalize eR:A+1=R
  refine⟨aA rfl rfl fun a w h=>?_,?_⟩
  .have e1:_=Value.pointer (some ⟨A,0,none⟩):=h.r 1
   refine⟨.pointer (some ⟨A,0,none⟩),w,?_,h.base,Or.inl (ah _ _),rfl⟩
   clear h
   simp only[execOp,Act.eval,e1]
   go_simp
  refine⟨aA rfl rfl fun a w h=>?_,?_⟩
  .have e19:_=Value.pointer (some ⟨A,0,none⟩):=h.d 19
   have c:=h.base.a.cell (i:=0) rfl
   refine⟨.int .u64 x0,w,?_,h.base,Or.inl (ah _ _),rfl⟩
   clear h
   simp only[execOp,Act.eval,e19]
   go_simp
  refine⟨aA rfl rfl fun a w h=>?_,?_⟩
  .have e1:_=Value.pointer (some ⟨A,0,none⟩):=h.r 1
   refine⟨.pointer (some ⟨A,0,none⟩),w,?_,h.base,Or.inl (ah _ _),rfl⟩
   clear h
   simp only[execOp,Act.eval,e1]
   go_simp
  refine⟨aA rfl rfl fun a w h=>?_,?_⟩
  .have e21:_=Value.pointer (some ⟨A,0,none⟩):=h.d 21
   have c:=h.base.a.cell (i:=0) rfl
   refine⟨.int .u64 x0,w,?_,h.base,Or.inl (ah _ _),rfl⟩
   clear h
   simp only[execOp,Act.eval,e21]
   go_simp
  refine⟨aA rfl rfl fun a w h=>?_,?_⟩
  .have e20:_=Value.int .u64 x0:=h.d 20
   have e22:_=Value.int .u64 x0:=h.d 22
   refine⟨.agg #[.int .u64 x0,.int .u64 x0],w,?_,h.base,Or.inl (ah _ _),rfl⟩
   clear h
   simp only[execOp,List.map_toArray,List.map_cons,List.map_nil,Act.eval,e20,e22]
   go_simp
  refine⟨aA rfl rfl fun a w h=>?_,?_⟩
  .have e4:a.tmps.getD 4 undef=.int .u64 z1:=(h.rest 4 (by kernel_rfl)).trans (congrArg (Value.int .u64) Xe.out)
   refine⟨.int .u64 z1,w,?_,h.base,Or.inl (ah _ _),rfl⟩
   clear h
   simp only[execOp,Act.eval,e4]
   go_simp
  refine⟨aA rfl rfl fun a w h=>?_,?_⟩
  .have e6:a.tmps.getD 6 undef=.int .u64 z3:=(h.rest 6 (by kernel_rfl)).trans (congrArg (Value.int .u64) QO.out)
   refine⟨.int .u64 z3,w,?_,h.base,Or.inl (ah _ _),rfl⟩
   clear h
   simp only[execOp,Act.eval,e6]
   go_simp
  refine⟨aA rfl rfl fun a w h=>?_,?_⟩
  .have e24:_=Value.int .u64 z1:=h.d 24
   have e25:_=Value.int .u64 z3:=h.d 25
   refine⟨.agg #[.int .u64 z1,.int .u64 z3],w,?_,h.base,Or.inl (ah _ _),rfl⟩
   clear h
   simp only[execOp,List.map_toArray,List.map_cons,List.map_nil,Act.eval,e24,e25]
   go_simp
  refine⟨aA rfl rfl fun a w h=>?_,?_⟩
  .have e1:_=Value.pointer (some ⟨A,0,none⟩):=h.r 1
   refine⟨.pointer (some ⟨A,2,none⟩),w,?_,h.base,Or.inl (ah _ _),rfl⟩
   clear h
   simp only[execOp,Act.eval,e1]
   go_simp
  refine⟨aA rfl rfl fun a w h=>?_,?_⟩
  .have e27:_=Value.pointer (some ⟨A,2,none⟩):=h.d 27
   have c:=h.base.a.cell (i:=2) rfl
   refine⟨.int .u64 x2,w,?_,h.base,Or.inl (ah _ _),rfl⟩
   clear h
   simp only[execOp,Act.eval,e27]
   go_simp
  refine⟨aA rfl rfl fun a w h=>?_,?_⟩
  .have e28:_=Value.int .u64 x2:=h.d 28
   refine⟨.int .u64 (IntKind.u64.wrap (2*x2)),w,?_,h.base,Or.inl (ah _ _),congrArg (Value.int .u64) Hz4.out⟩
   clear h
   simp only[execOp,Act.eval,e28]
   go_simp
  refine⟨aA rfl rfl fun a w h=>?_,?_⟩
  .have e5:a.tmps.getD 5 undef=.int .u64 z2:=(h.rest 5 (by kernel_rfl)).trans (congrArg (Value.int .u64) Xf.out)
   refine⟨.int .u64 z2,w,?_,h.base,Or.inl (ah _ _),rfl⟩
   clear h
   simp only[execOp,Act.eval,e5]
   go_simp
  refine⟨aA rfl rfl fun a w h=>?_,?_⟩
  .have e29:_=Value.int .u64 z4:=h.d 29
   have e30:_=Value.int .u64 z2:=h.d 30
   refine⟨.agg #[.int .u64 z4,.int .u64 z2],w,?_,h.base,Or.inl (ah _ _),rfl⟩
   clear h
   simp only[execOp,List.map_toArray,List.map_cons,List.map_nil,Act.eval,e29,e30]
   go_simp
  refine⟨aA rfl rfl fun a w h=>?_,?_⟩
  .have e23:_=Value.agg #[.int .u64 x0,.int .u64 x0]:=h.d 23
   have e26:_=Value.agg #[.int .u64 z1,.int .u64 z3]:=h.d 26
   have e31:_=Value.agg #[.int .u64 z4,.int .u64 z2]:=h.d 31
   obtain⟨_,_,_,_,_,Co⟩:=h.base.r
   have hs:=Co.lt
   refine⟨.slice (some ⟨w.heap.size,0,none⟩) 3 3,w.alloc (.cells #[.int .u64 x0,.int .u64 x0,.int .u64 z1,.int .u64 z3,.int .u64 z4,.int .u64 z2] 175),?_,h.base.alloc _,Or.inl (World.grownBy_alloc _ _ _),⟨w.heap.size,by omega,rfl,aF.new w _ _⟩⟩
   clear h
   simp only[execOp,List.map_toArray,List.map_cons,List.map_nil,Act.eval,e23,e26,e31]
   go_simp
  refine⟨iM rfl rfl fun a w h=>?_,?_⟩
  .obtain⟨PB,hne,e32,hP⟩:∃PB,PB≠R/\a.tmps.getD 32 undef=.slice (some ⟨PB,0,none⟩) 3 3/\aF w PB 175 (flat [(x0,x0),(z1,z3),(z4,z2)]):=h.dep 32 (by kernel_rfl)
   have hb:=h.base
   refine⟨109,#[.slice (some ⟨PB,0,none⟩) 3 3],?_,?_⟩
   .clear h hb hP
    have akd:a.tmps[32]?.getD undef=.slice (some ⟨PB,0,none⟩) 3 3:=by simpa using e32
    clear e32
    go_simp
   .refine (jy PB 3 _ w _ rfl (by decide) hP ?_).mono ?_
    .intro p hp;simp only[List.mem_cons,List.not_mem_nil,or_false]at hp;rcases hp with rfl|rfl|rfl<;>exact⟨by assumption,by assumption,by assumption,by assumption⟩
    .rintro e w1 ⟨rfl,hg⟩;exact⟨_,rfl,hb.grown hg,Or.inl hg,by show Af _=_;rw[vR.out];rfl⟩
  refine⟨aA rfl rfl fun a w h=>?_,?_⟩
  .have e3:a.tmps.getD 3 undef=.int .u64 z0:=(h.rest 3 (by kernel_rfl)).trans (congrArg (Value.int .u64) Xd.out)
   refine⟨.int .u64 z0,w,?_,h.base,Or.inl (ah _ _),rfl⟩
   clear h
   simp only[execOp,Act.eval,e3]
   go_simp
  refine⟨aA rfl rfl fun a w h=>?_,?_⟩
  .have e1:_=Value.pointer (some ⟨A,0,none⟩):=h.r 1
   refine⟨.pointer (some ⟨A,1,none⟩),w,?_,h.base,Or.inl (ah _ _),rfl⟩
   clear h
   simp only[execOp,Act.eval,e1]
   go_simp
  refine⟨aA rfl rfl fun a w h=>?_,?_⟩
  .have e35:_=Value.pointer (some ⟨A,1,none⟩):=h.d 35
   have c:=h.base.a.cell (i:=1) rfl
   refine⟨.int .u64 x1,w,?_,h.base,Or.inl (ah _ _),rfl⟩
   clear h
   simp only[execOp,Act.eval,e35]
   go_simp
  refine⟨aA rfl rfl fun a w h=>?_,?_⟩
  .have e34:_=Value.int .u64 z0:=h.d 34
   have e36:_=Value.int .u64 x1:=h.d 36
   refine⟨.agg #[.int .u64 z0,.int .u64 x1],w,?_,h.base,Or.inl (ah _ _),rfl⟩
   clear h
   simp only[execOp,List.map_toArray,List.map_cons,List.map_nil,Act.eval,e34,e36]
   go_simp
  refine⟨aA rfl rfl fun a w h=>?_,?_⟩
  .have e1:_=Value.pointer (some ⟨A,0,none⟩):=h.r 1
   refine⟨.pointer (some ⟨A,2,none⟩),w,?_,h.base,Or.inl (ah _ _),rfl⟩
   clear h
   simp only[execOp,Act.eval,e1]
   go_simp
  refine⟨aA rfl rfl fun a w h=>?_,?_⟩
  .have e38:_=Value.pointer (some ⟨A,2,none⟩):=h.d 38
   have c:=h.base.a.cell (i:=2) rfl
   refine⟨.int .u64 x2,w,?_,h.base,Or.inl (ah _ _),rfl⟩
   clear h
   simp only[execOp,Act.eval,e38]
   go_simp
  refine⟨aA rfl rfl fun a w h=>?_,?_⟩
  .have e39:_=Value.int .u64 x2:=h.d 39
   refine⟨.int .u64 (IntKind.u64.wrap (2*x2)),w,?_,h.base,Or.inl (ah _ _),congrArg (Value.int .u64) Hz4.out⟩
   clear h
   simp only[execOp,Act.eval,e39]
   go_simp
  refine⟨aA rfl rfl fun a w h=>?_,?_⟩
  .have e6:a.tmps.getD 6 undef=.int .u64 z3:=(h.rest 6 (by kernel_rfl)).trans (congrArg (Value.int .u64) QO.out)
   refine⟨.int .u64 z3,w,?_,h.base,Or.inl (ah _ _),rfl⟩
   clear h
   simp only[execOp,Act.eval,e6]
   go_simp
  refine⟨aA rfl rfl fun a w h=>?_,?_⟩
  .have e40:_=Value.int .u64 z4:=h.d 40
   have e41:_=Value.int .u64 z3:=h.d 41
   refine⟨.agg #[.int .u64 z4,.int .u64 z3],w,?_,h.base,Or.inl (ah _ _),rfl⟩
   clear h
   simp only[execOp,List.map_toArray,List.map_cons,List.map_nil,Act.eval,e40,e41]
   go_simp
  refine⟨aA rfl rfl fun a w h=>?_,?_⟩
  .have e1:_=Value.pointer (some ⟨A,0,none⟩):=h.r 1
   refine⟨.pointer (some ⟨A,3,none⟩),w,?_,h.base,Or.inl (ah _ _),rfl⟩
   clear h
   simp only[execOp,Act.eval,e1]
   go_simp
  refine⟨aA rfl rfl fun a w h=>?_,?_⟩
  .have e43:_=Value.pointer (some ⟨A,3,none⟩):=h.d 43
   have c:=h.base.a.cell (i:=3) rfl
   refine⟨.int .u64 x3,w,?_,h.base,Or.inl (ah _ _),rfl⟩
   clear h
   simp only[execOp,Act.eval,e43]
   go_simp
  refine⟨aA rfl rfl fun a w h=>?_,?_⟩
  .have e5:a.tmps.getD 5 undef=.int .u64 z2:=(h.rest 5 (by kernel_rfl)).trans (congrArg (Value.int .u64) Xf.out)
   refine⟨.int .u64 z2,w,?_,h.base,Or.inl (ah _ _),rfl⟩
   clear h
   simp only[execOp,Act.eval,e5]
   go_simp
  refine⟨aA rfl rfl fun a w h=>?_,?_⟩
  .have e44:_=Value.int .u64 x3:=h.d 44
   have e45:_=Value.int .u64 z2:=h.d 45
   refine⟨.agg #[.int .u64 x3,.int .u64 z2],w,?_,h.base,Or.inl (ah _ _),rfl⟩
   clear h
   simp only[execOp,List.map_toArray,List.map_cons,List.map_nil,Act.eval,e44,e45]
   go_simp
  refine⟨aA rfl rfl fun a w h=>?_,?_⟩
  .have e37:_=Value.agg #[.int .u64 z0,.int .u64 x1]:=h.d 37
   have e42:_=Value.agg #[.int .u64 z4,.int .u64 z3]:=h.d 42
   have e46:_=Value.agg #[.int .u64 x3,.int .u64 z2]:=h.d 46
   obtain⟨_,_,_,_,_,Co⟩:=h.base.r
   have hs:=Co.lt
   refine⟨.slice (some ⟨w.heap.size,0,none⟩) 3 3,w.alloc (.cells #[.int .u64 z0,.int .u64 x1,.int .u64 z4,.int .u64 z3,.int .u64 x3,.int .u64 z2] 175),?_,h.base.alloc _,Or.inl (World.grownBy_alloc _ _ _),⟨w.heap.size,by omega,rfl,aF.new w _ _⟩⟩
   clear h
   simp only[execOp,List.map_toArray,List.map_cons,List.map_nil,Act.eval,e37,e42,e46]
   go_simp
  refine⟨iM rfl rfl fun a w h=>?_,?_⟩
  .obtain⟨PB,hne,e47,hP⟩:∃PB,PB≠R/\a.tmps.getD 47 undef=.slice (some ⟨PB,0,none⟩) 3 3/\aF w PB 175 (flat [(z0,x1),(z4,z3),(x3,z2)]):=h.dep 47 (by kernel_rfl)
   have hb:=h.base
   refine⟨109,#[.slice (some ⟨PB,0,none⟩) 3 3],?_,?_⟩
   .clear h hb hP
    have ake:a.tmps[47]?.getD undef=.slice (some ⟨PB,0,none⟩) 3 3:=by simpa using e47
    clear e47
    go_simp
   .refine (jy PB 3 _ w _ rfl (by decide) hP ?_).mono ?_
    .intro p hp;simp only[List.mem_cons,List.not_mem_nil,or_false]at hp;rcases hp with rfl|rfl|rfl<;>exact⟨by assumption,by assumption,by assumption,by assumption⟩
    .rintro e w1 ⟨rfl,hg⟩;exact⟨_,rfl,hb.grown hg,Or.inl hg,by show Af _=_;rw[NT.out];rfl⟩
  refine⟨aA rfl rfl fun a w h=>?_,?_⟩
  .have e3:a.tmps.getD 3 undef=.int .u64 z0:=(h.rest 3 (by kernel_rfl)).trans (congrArg (Value.int .u64) Xd.out)
   refine⟨.int .u64 z0,w,?_,h.base,Or.inl (ah _ _),rfl⟩
   clear h
   simp only[execOp,Act.eval,e3]
   go_simp
  refine⟨aA rfl rfl fun a w h=>?_,?_⟩
  .have e1:_=Value.pointer (some ⟨A,0,none⟩):=h.r 1
   refine⟨.pointer (some ⟨A,2,none⟩),w,?_,h.base,Or.inl (ah _ _),rfl⟩
   clear h
   simp only[execOp,Act.eval,e1]
   go_simp
  refine⟨aA rfl rfl fun a w h=>?_,?_⟩
  .have e50:_=Value.pointer (some ⟨A,2,none⟩):=h.d 50
   have c:=h.base.a.cell (i:=2) rfl
   refine⟨.int .u64 x2,w,?_,h.base,Or.inl (ah _ _),rfl⟩
   clear h
   simp only[execOp,Act.eval,e50]
   go_simp
  refine⟨aA rfl rfl fun a w h=>?_,?_⟩
  .have e49:_=Value.int .u64 z0:=h.d 49
   have e51:_=Value.int .u64 x2:=h.d 51
   refine⟨.agg #[.int .u64 z0,.int .u64 x2],w,?_,h.base,Or.inl (ah _ _),rfl⟩
   clear h
   simp only[execOp,List.map_toArray,List.map_cons,List.map_nil,Act.eval,e49,e51]
   go_simp
  refine⟨aA rfl rfl fun a w h=>?_,?_⟩
  .have e1:_=Value.pointer (some ⟨A,0,none⟩):=h.r 1
   refine⟨.pointer (some ⟨A,1,none⟩),w,?_,h.base,Or.inl (ah _ _),rfl⟩
   clear h
   simp only[execOp,Act.eval,e1]
   go_simp
  refine⟨aA rfl rfl fun a w h=>?_,?_⟩
  .have e53:_=Value.pointer (some ⟨A,1,none⟩):=h.d 53
   have c:=h.base.a.cell (i:=1) rfl
   refine⟨.int .u64 x1,w,?_,h.base,Or.inl (ah _ _),rfl⟩
   clear h
   simp only[execOp,Act.eval,e53]
   go_simp
  refine⟨aA rfl rfl fun a w h=>?_,?_⟩
  .have e1:_=Value.pointer (some ⟨A,0,none⟩):=h.r 1
   refine⟨.pointer (some ⟨A,1,none⟩),w,?_,h.base,Or.inl (ah _ _),rfl⟩
   clear h
   simp only[execOp,Act.eval,e1]
   go_simp
  refine⟨aA rfl rfl fun a w h=>?_,?_⟩
  .have e55:_=Value.pointer (some ⟨A,1,none⟩):=h.d 55
   have c:=h.base.a.cell (i:=1) rfl
   refine⟨.int .u64 x1,w,?_,h.base,Or.inl (ah _ _),rfl⟩
   clear h
   simp only[execOp,Act.eval,e55]
   go_simp
  refine⟨aA rfl rfl fun a w h=>?_,?_⟩
  .have e54:_=Value.int .u64 x1:=h.d 54
   have e56:_=Value.int .u64 x1:=h.d 56
   refine⟨.agg #[.int .u64 x1,.int .u64 x1],w,?_,h.base,Or.inl (ah _ _),rfl⟩
   clear h
   simp only[execOp,List.map_toArray,List.map_cons,List.map_nil,Act.eval,e54,e56]
   go_simp
  refine⟨aA rfl rfl fun a w h=>?_,?_⟩
  .have e1:_=Value.pointer (some ⟨A,0,none⟩):=h.r 1
   refine⟨.pointer (some ⟨A,3,none⟩),w,?_,h.base,Or.inl (ah _ _),rfl⟩
   clear h
   simp only[execOp,Act.eval,e1]
   go_simp
  refine⟨aA rfl rfl fun a w h=>?_,?_⟩
  .have e58:_=Value.pointer (some ⟨A,3,none⟩):=h.d 58
   have c:=h.base.a.cell (i:=3) rfl
   refine⟨.int .u64 x3,w,?_,h.base,Or.inl (ah _ _),rfl⟩
   clear h
   simp only[execOp,Act.eval,e58]
   go_simp
  refine⟨aA rfl rfl fun a w h=>?_,?_⟩
  .have e59:_=Value.int .u64 x3:=h.d 59
   refine⟨.int .u64 (IntKind.u64.wrap (2*x3)),w,?_,h.base,Or.inl (ah _ _),congrArg (Value.int .u64) Hz5.out⟩
   clear h
   simp only[execOp,Act.eval,e59]
   go_simp
  refine⟨aA rfl rfl fun a w h=>?_,?_⟩
  .have e6:a.tmps.getD 6 undef=.int .u64 z3:=(h.rest 6 (by kernel_rfl)).trans (congrArg (Value.int .u64) QO.out)
   refine⟨.int .u64 z3,w,?_,h.base,Or.inl (ah _ _),rfl⟩
   clear h
   simp only[execOp,Act.eval,e6]
   go_simp
  refine⟨aA rfl rfl fun a w h=>?_,?_⟩
  .have e60:_=Value.int .u64 z5:=h.d 60
   have e61:_=Value.int .u64 z3:=h.d 61
   refine⟨.agg #[.int .u64 z5,.int .u64 z3],w,?_,h.base,Or.inl (ah _ _),rfl⟩
   clear h
   simp only[execOp,List.map_toArray,List.map_cons,List.map_nil,Act.eval,e60,e61]
   go_simp
  refine⟨aA rfl rfl fun a w h=>?_,?_⟩
  .have e52:_=Value.agg #[.int .u64 z0,.int .u64 x2]:=h.d 52
   have e57:_=Value.agg #[.int .u64 x1,.int .u64 x1]:=h.d 57
   have e62:_=Value.agg #[.int .u64 z5,.int .u64 z3]:=h.d 62
   obtain⟨_,_,_,_,_,Co⟩:=h.base.r
   have hs:=Co.lt
   refine⟨.slice (some ⟨w.heap.size,0,none⟩) 3 3,w.alloc (.cells #[.int .u64 z0,.int .u64 x2,.int .u64 x1,.int .u64 x1,.int .u64 z5,.int .u64 z3] 175),?_,h.base.alloc _,Or.inl (World.grownBy_alloc _ _ _),⟨w.heap.size,by omega,rfl,aF.new w _ _⟩⟩
   clear h
   simp only[execOp,List.map_toArray,List.map_cons,List.map_nil,Act.eval,e52,e57,e62]
   go_simp
  refine⟨iM rfl rfl fun a w h=>?_,?_⟩
  .obtain⟨PB,hne,e63,hP⟩:∃PB,PB≠R/\a.tmps.getD 63 undef=.slice (some ⟨PB,0,none⟩) 3 3/\aF w PB 175 (flat [(z0,x2),(x1,x1),(z5,z3)]):=h.dep 63 (by kernel_rfl)
   have hb:=h.base
   refine⟨109,#[.slice (some ⟨PB,0,none⟩) 3 3],?_,?_⟩
   .clear h hb hP
    have akf:a.tmps[63]?.getD undef=.slice (some ⟨PB,0,none⟩) 3 3:=by simpa using e63
    clear e63
    go_simp
   .refine (jy PB 3 _ w _ rfl (by decide) hP ?_).mono ?_
    .intro p hp;simp only[List.mem_cons,List.not_mem_nil,or_false]at hp;rcases hp with rfl|rfl|rfl<;>exact⟨by assumption,by assumption,by assumption,by assumption⟩
    .rintro e w1 ⟨rfl,hg⟩;exact⟨_,rfl,hb.grown hg,Or.inl hg,by show Af _=_;rw[HS2.out];rfl⟩
  refine⟨aA rfl rfl fun a w h=>?_,?_⟩
  .have e3:a.tmps.getD 3 undef=.int .u64 z0:=(h.rest 3 (by kernel_rfl)).trans (congrArg (Value.int .u64) Xd.out)
   refine⟨.int .u64 z0,w,?_,h.base,Or.inl (ah _ _),rfl⟩
   clear h
   simp only[execOp,Act.eval,e3]
   go_simp
  refine⟨aA rfl rfl fun a w h=>?_,?_⟩
  .have e1:_=Value.pointer (some ⟨A,0,none⟩):=h.r 1
   refine⟨.pointer (some ⟨A,3,none⟩),w,?_,h.base,Or.inl (ah _ _),rfl⟩
   clear h
   simp only[execOp,Act.eval,e1]
   go_simp
  refine⟨aA rfl rfl fun a w h=>?_,?_⟩
  .have e66:_=Value.pointer (some ⟨A,3,none⟩):=h.d 66
   have c:=h.base.a.cell (i:=3) rfl
   refine⟨.int .u64 x3,w,?_,h.base,Or.inl (ah _ _),rfl⟩
   clear h
   simp only[execOp,Act.eval,e66]
   go_simp
  refine⟨aA rfl rfl fun a w h=>?_,?_⟩
  .have e65:_=Value.int .u64 z0:=h.d 65
   have e67:_=Value.int .u64 x3:=h.d 67
   refine⟨.agg #[.int .u64 z0,.int .u64 x3],w,?_,h.base,Or.inl (ah _ _),rfl⟩
   clear h
   simp only[execOp,List.map_toArray,List.map_cons,List.map_nil,Act.eval,e65,e67]
   go_simp
  refine⟨aA rfl rfl fun a w h=>?_,?_⟩
  .have e4:a.tmps.getD 4 undef=.int .u64 z1:=(h.rest 4 (by kernel_rfl)).trans (congrArg (Value.int .u64) Xe.out)
   refine⟨.int .u64 z1,w,?_,h.base,Or.inl (ah _ _),rfl⟩
   clear h
   simp only[execOp,Act.eval,e4]
   go_simp
  refine⟨aA rfl rfl fun a w h=>?_,?_⟩
  .have e1:_=Value.pointer (some ⟨A,0,none⟩):=h.r 1
   refine⟨.pointer (some ⟨A,2,none⟩),w,?_,h.base,Or.inl (ah _ _),rfl⟩
   clear h
   simp only[execOp,Act.eval,e1]
   go_simp
  refine⟨aA rfl rfl fun a w h=>?_,?_⟩
  .have e70:_=Value.pointer (some ⟨A,2,none⟩):=h.d 70
   have c:=h.base.a.cell (i:=2) rfl
   refine⟨.int .u64 x2,w,?_,h.base,Or.inl (ah _ _),rfl⟩
   clear h
   simp only[execOp,Act.eval,e70]
   go_simp
  refine⟨aA rfl rfl fun a w h=>?_,?_⟩
  .have e69:_=Value.int .u64 z1:=h.d 69
   have e71:_=Value.int .u64 x2:=h.d 71
   refine⟨.agg #[.int .u64 z1,.int .u64 x2],w,?_,h.base,Or.inl (ah _ _),rfl⟩
   clear h
   simp only[execOp,List.map_toArray,List.map_cons,List.map_nil,Act.eval,e69,e71]
   go_simp
  refine⟨aA rfl rfl fun a w h=>?_,?_⟩
  .have e1:_=Value.pointer (some ⟨A,0,none⟩):=h.r 1
   refine⟨.pointer (some ⟨A,4,none⟩),w,?_,h.base,Or.inl (ah _ _),rfl⟩
   clear h
   simp only[execOp,Act.eval,e1]
   go_simp
  refine⟨aA rfl rfl fun a w h=>?_,?_⟩
  .have e73:_=Value.pointer (some ⟨A,4,none⟩):=h.d 73
   have c:=h.base.a.cell (i:=4) rfl
   refine⟨.int .u64 x4,w,?_,h.base,Or.inl (ah _ _),rfl⟩
   clear h
   simp only[execOp,Act.eval,e73]
   go_simp
  refine⟨aA rfl rfl fun a w h=>?_,?_⟩
  .have e6:a.tmps.getD 6 undef=.int .u64 z3:=(h.rest 6 (by kernel_rfl)).trans (congrArg (Value.int .u64) QO.out)
   refine⟨.int .u64 z3,w,?_,h.base,Or.inl (ah _ _),rfl⟩
   clear h
   simp only[execOp,Act.eval,e6]
   go_simp
  refine⟨aA rfl rfl fun a w h=>?_,?_⟩
  .have e74:_=Value.int .u64 x4:=h.d 74
   have e75:_=Value.int .u64 z3:=h.d 75
   refine⟨.agg #[.int .u64 x4,.int .u64 z3],w,?_,h.base,Or.inl (ah _ _),rfl⟩
   clear h
   simp only[execOp,List.map_toArray,List.map_cons,List.map_nil,Act.eval,e74,e75]
   go_simp
  refine⟨aA rfl rfl fun a w h=>?_,?_⟩
  .have e68:_=Value.agg #[.int .u64 z0,.int .u64 x3]:=h.d 68
   have e72:_=Value.agg #[.int .u64 z1,.int .u64 x2]:=h.d 72
   have e76:_=Value.agg #[.int .u64 x4,.int .u64 z3]:=h.d 76
   obtain⟨_,_,_,_,_,Co⟩:=h.base.r
   have hs:=Co.lt
   refine⟨.slice (some ⟨w.heap.size,0,none⟩) 3 3,w.alloc (.cells #[.int .u64 z0,.int .u64 x3,.int .u64 z1,.int .u64 x2,.int .u64 x4,.int .u64 z3] 175),?_,h.base.alloc _,Or.inl (World.grownBy_alloc _ _ _),⟨w.heap.size,by omega,rfl,aF.new w _ _⟩⟩
   clear h
   simp only[execOp,List.map_toArray,List.map_cons,List.map_nil,Act.eval,e68,e72,e76]
   go_simp
  refine⟨iM rfl rfl fun a w h=>?_,?_⟩
  .obtain⟨PB,hne,e77,hP⟩:∃PB,PB≠R/\a.tmps.getD 77 undef=.slice (some ⟨PB,0,none⟩) 3 3/\aF w PB 175 (flat [(z0,x3),(z1,x2),(x4,z3)]):=h.dep 77 (by kernel_rfl)
   have hb:=h.base
   refine⟨109,#[.slice (some ⟨PB,0,none⟩) 3 3],?_,?_⟩
   .clear h hb hP
    have akg:a.tmps[77]?.getD undef=.slice (some ⟨PB,0,none⟩) 3 3:=by simpa using e77
    clear e77
    go_simp
   .refine (jy PB 3 _ w _ rfl (by decide) hP ?_).mono ?_
    .intro p hp;simp only[List.mem_cons,List.not_mem_nil,or_false]at hp;rcases hp with rfl|rfl|rfl<;>exact⟨by assumption,by assumption,by assumption,by assumption⟩
    .rintro e w1 ⟨rfl,hg⟩;exact⟨_,rfl,hb.grown hg,Or.inl hg,by show Af _=_;rw[XY.out];rfl⟩
  refine⟨aA rfl rfl fun a w h=>?_,?_⟩
  .have e3:a.tmps.getD 3 undef=.int .u64 z0:=(h.rest 3 (by kernel_rfl)).trans (congrArg (Value.int .u64) Xd.out)
   refine⟨.int .u64 z0,w,?_,h.base,Or.inl (ah _ _),rfl⟩
   clear h
   simp only[execOp,Act.eval,e3]
   go_simp
  refine⟨aA rfl rfl fun a w h=>?_,?_⟩
  .have e1:_=Value.pointer (some ⟨A,0,none⟩):=h.r 1
   refine⟨.pointer (some ⟨A,4,none⟩),w,?_,h.base,Or.inl (ah _ _),rfl⟩
   clear h
   simp only[execOp,Act.eval,e1]
   go_simp
  refine⟨aA rfl rfl fun a w h=>?_,?_⟩
  .have e80:_=Value.pointer (some ⟨A,4,none⟩):=h.d 80
   have c:=h.base.a.cell (i:=4) rfl
   refine⟨.int .u64 x4,w,?_,h.base,Or.inl (ah _ _),rfl⟩
   clear h
   simp only[execOp,Act.eval,e80]
   go_simp
  refine⟨aA rfl rfl fun a w h=>?_,?_⟩
  .have e79:_=Value.int .u64 z0:=h.d 79
   have e81:_=Value.int .u64 x4:=h.d 81
   refine⟨.agg #[.int .u64 z0,.int .u64 x4],w,?_,h.base,Or.inl (ah _ _),rfl⟩
   clear h
   simp only[execOp,List.map_toArray,List.map_cons,List.map_nil,Act.eval,e79,e81]
   go_simp
  refine⟨aA rfl rfl fun a w h=>?_,?_⟩
  .have e4:a.tmps.getD 4 undef=.int .u64 z1:=(h.rest 4 (by kernel_rfl)).trans (congrArg (Value.int .u64) Xe.out)
   refine⟨.int .u64 z1,w,?_,h.base,Or.inl (ah _ _),rfl⟩
   clear h
   simp only[execOp,Act.eval,e4]
   go_simp
  refine⟨aA rfl rfl fun a w h=>?_,?_⟩
  .have e1:_=Value.pointer (some ⟨A,0,none⟩):=h.r 1
   refine⟨.pointer (some ⟨A,3,none⟩),w,?_,h.base,Or.inl (ah _ _),rfl⟩
   clear h
   simp only[execOp,Act.eval,e1]
   go_simp
  refine⟨aA rfl rfl fun a w h=>?_,?_⟩
  .have e84:_=Value.pointer (some ⟨A,3,none⟩):=h.d 84
   have c:=h.base.a.cell (i:=3) rfl
   refine⟨.int .u64 x3,w,?_,h.base,Or.inl (ah _ _),rfl⟩
   clear h
   simp only[execOp,Act.eval,e84]
   go_simp
  refine⟨aA rfl rfl fun a w h=>?_,?_⟩
  .have e83:_=Value.int .u64 z1:=h.d 83
   have e85:_=Value.int .u64 x3:=h.d 85
   refine⟨.agg #[.int .u64 z1,.int .u64 x3],w,?_,h.base,Or.inl (ah _ _),rfl⟩
   clear h
   simp only[execOp,List.map_toArray,List.map_cons,List.map_nil,Act.eval,e83,e85]
   go_simp
  refine⟨aA rfl rfl fun a w h=>?_,?_⟩
  .have e1:_=Value.pointer (some ⟨A,0,none⟩):=h.r 1
   refine⟨.pointer (some ⟨A,2,none⟩),w,?_,h.base,Or.inl (ah _ _),rfl⟩
   clear h
   simp only[execOp,Act.eval,e1]
   go_simp
  refine⟨aA rfl rfl fun a w h=>?_,?_⟩
  .have e87:_=Value.pointer (some ⟨A,2,none⟩):=h.d 87
   have c:=h.base.a.cell (i:=2) rfl
   refine⟨.int .u64 x2,w,?_,h.base,Or.inl (ah _ _),rfl⟩
   clear h
   simp only[execOp,Act.eval,e87]
   go_simp
  refine⟨aA rfl rfl fun a w h=>?_,?_⟩
  .have e1:_=Value.pointer (some ⟨A,0,none⟩):=h.r 1
   refine⟨.pointer (some ⟨A,2,none⟩),w,?_,h.base,Or.inl (ah _ _),rfl⟩
   clear h
   simp only[execOp,Act.eval,e1]
   go_simp
  refine⟨aA rfl rfl fun a w h=>?_,?_⟩
  .have e89:_=Value.pointer (some ⟨A,2,none⟩):=h.d 89
   have c:=h.base.a.cell (i:=2) rfl
   refine⟨.int .u64 x2,w,?_,h.base,Or.inl (ah _ _),rfl⟩
   clear h
   simp only[execOp,Act.eval,e89]
   go_simp
  refine⟨aA rfl rfl fun a w h=>?_,?_⟩
  .have e88:_=Value.int .u64 x2:=h.d 88
   have e90:_=Value.int .u64 x2:=h.d 90
   refine⟨.agg #[.int .u64 x2,.int .u64 x2],w,?_,h.base,Or.inl (ah _ _),rfl⟩
   clear h
   simp only[execOp,List.map_toArray,List.map_cons,List.map_nil,Act.eval,e88,e90]
   go_simp
  refine⟨aA rfl rfl fun a w h=>?_,?_⟩
  .have e82:_=Value.agg #[.int .u64 z0,.int .u64 x4]:=h.d 82
   have e86:_=Value.agg #[.int .u64 z1,.int .u64 x3]:=h.d 86
   have e91:_=Value.agg #[.int .u64 x2,.int .u64 x2]:=h.d 91
   obtain⟨_,_,_,_,_,Co⟩:=h.base.r
   have hs:=Co.lt
   refine⟨.slice (some ⟨w.heap.size,0,none⟩) 3 3,w.alloc (.cells #[.int .u64 z0,.int .u64 x4,.int .u64 z1,.int .u64 x3,.int .u64 x2,.int .u64 x2] 175),?_,h.base.alloc _,Or.inl (World.grownBy_alloc _ _ _),⟨w.heap.size,by omega,rfl,aF.new w _ _⟩⟩
   clear h
   simp only[execOp,List.map_toArray,List.map_cons,List.map_nil,Act.eval,e82,e86,e91]
   go_simp
  refine⟨iM rfl rfl fun a w h=>?_,?_⟩
  .obtain⟨PB,hne,e92,hP⟩:∃PB,PB≠R/\a.tmps.getD 92 undef=.slice (some ⟨PB,0,none⟩) 3 3/\aF w PB 175 (flat [(z0,x4),(z1,x3),(x2,x2)]):=h.dep 92 (by kernel_rfl)
   have hb:=h.base
   refine⟨109,#[.slice (some ⟨PB,0,none⟩) 3 3],?_,?_⟩
   .clear h hb hP
    have akh:a.tmps[92]?.getD undef=.slice (some ⟨PB,0,none⟩) 3 3:=by simpa using e92
    clear e92
    go_simp
   .refine (jy PB 3 _ w _ rfl (by decide) hP ?_).mono ?_
    .intro p hp;simp only[List.mem_cons,List.not_mem_nil,or_false]at hp;rcases hp with rfl|rfl|rfl<;>exact⟨by assumption,by assumption,by assumption,by assumption⟩
    .rintro e w1 ⟨rfl,hg⟩;exact⟨_,rfl,hb.grown hg,Or.inl hg,by show Af _=_;rw[X0.out];rfl⟩
  refine⟨aA rfl rfl fun a w h=>?_,?_⟩
  .have e33:_=Value.agg #[.int .u64 (S0/18446744073709551616),.int .u64 (S0%18446744073709551616)]:=h.d 33
   have e48:_=Value.agg #[.int .u64 (S1/18446744073709551616),.int .u64 (S1%18446744073709551616)]:=h.d 48
   have e64:_=Value.agg #[.int .u64 (S2/18446744073709551616),.int .u64 (S2%18446744073709551616)]:=h.d 64
   have e78:_=Value.agg #[.int .u64 (S3/18446744073709551616),.int .u64 (S3%18446744073709551616)]:=h.d 78
   have e93:_=Value.agg #[.int .u64 (S4/18446744073709551616),.int .u64 (S4%18446744073709551616)]:=h.d 93
   refine⟨.agg #[.int .u64 (S0/18446744073709551616),.int .u64 (S0%18446744073709551616),.int .u64 (S1/18446744073709551616),.int .u64 (S1%18446744073709551616),.int .u64 (S2/18446744073709551616),.int .u64 (S2%18446744073709551616),.int .u64 (S3/18446744073709551616),.int .u64 (S3%18446744073709551616),.int .u64 (S4/18446744073709551616),.int .u64 (S4%18446744073709551616)],w,?_,h.base,Or.inl (ah _ _),rfl⟩
   clear h
   simp only[execOp,List.map_toArray,List.map_cons,List.map_nil,Act.eval,e33,e48,e64,e78,e93]
   go_simp
  refine⟨iM rfl rfl fun a w h=>?_,?_⟩
  .have e94:_=Value.agg #[.int .u64 (S0/18446744073709551616),.int .u64 (S0%18446744073709551616),.int .u64 (S1/18446744073709551616),.int .u64 (S1%18446744073709551616),.int .u64 (S2/18446744073709551616),.int .u64 (S2%18446744073709551616),.int .u64 (S3/18446744073709551616),.int .u64 (S3%18446744073709551616),.int .u64 (S4/18446744073709551616),.int .u64 (S4%18446744073709551616)]:=h.d 94
   have hb:=h.base
   refine⟨108,#[.agg #[.int .u64 (S0/18446744073709551616),.int .u64 (S0%18446744073709551616),.int .u64 (S1/18446744073709551616),.int .u64 (S1%18446744073709551616),.int .u64 (S2/18446744073709551616),.int .u64 (S2%18446744073709551616),.int .u64 (S3/18446744073709551616),.int .u64 (S3%18446744073709551616),.int .u64 (S4/18446744073709551616),.int .u64 (S4%18446744073709551616)]],?_,?_⟩
   .clear h hb
    have aki:a.tmps[94]?.getD undef=.agg #[.int .u64 (S0/18446744073709551616),.int .u64 (S0%18446744073709551616),.int .u64 (S1/18446744073709551616),.int .u64 (S1%18446744073709551616),.int .u64 (S2/18446744073709551616),.int .u64 (S2%18446744073709551616),.int .u64 (S3/18446744073709551616),.int .u64 (S3%18446744073709551616),.int .u64 (S4/18446744073709551616),.int .u64 (S4%18446744073709551616)]:=by simpa using e94
    clear e94
    go_simp
   .refine (CY S0 S1 S2 S3 S4 w (by assumption) (by assumption) (by assumption) (by assumption) (by assumption)).mono ?_
    rintro e w1 ⟨rfl,hg⟩
    exact⟨_,rfl,hb.grown hg,Or.inl hg,by show Fe.v _=Fe.v _;rw[Hr.out]⟩
  refine⟨CS rfl rfl fun a w h=>?_,?_⟩
  .have e95:_=Value.agg #[.int .u64 r.x0,.int .u64 r.x1,.int .u64 r.x2,.int .u64 r.x3,.int .u64 r.x4]:=h.d 95
   have e2:_=Value.pointer (some ⟨R,0,none⟩):=h.r 2
   obtain⟨u0,u1,u2,u3,u4,hR⟩:=h.base.r
   have c0r:=hR.cell (i:=0) rfl;have f0r:=hR.free 0
   have c1r:=hR.cell (i:=1) rfl;have f1r:=hR.free 1
   have c2r:=hR.cell (i:=2) rfl;have f2r:=hR.free 2
   have c3r:=hR.cell (i:=3) rfl;have f3r:=hR.free 3
   have c4r:=hR.cell (i:=4) rfl;have f4r:=hR.free 4
   refine⟨_,?_,h.base.sw _ _ _ _ _,Or.inr ⟨aQ (aQ (aQ (aQ (aQ (ah _ _) _ _) _ _) _ _) _ _) _ _,h.base.r.sw _ _ _ _ _⟩,h.base.r.sw _ _ _ _ _⟩
   clear h
   simp only[execOp,Act.eval,e95,e2]
   go_simp
  trivial
 .intro a w1 hB hsz hdf hrest aC jT
  have hM:=jT 77 _ rfl rfl
  have eR0:a.tmps.getD 2 undef=.pointer (some ⟨(w.heap.size+1),0,none⟩):=hrest 2 (by kernel_rfl)
  have hg:=hB.g
  clear jT aC hrest hB
  have eR1:a.tmps[2]?.getD undef=.pointer (some ⟨(w.heap.size+1),0,none⟩):=by simpa using eR0
  have z0:=hM.cell (i:=0) rfl
  have z1:=hM.cell (i:=1) rfl
  have z2:=hM.cell (i:=2) rfl
  have z3:=hM.cell (i:=3) rfl
  have z4:=hM.cell (i:=4) rfl
  clear hM
  go_wp2
  refine bodyPost_ret (v:=.agg #[.int .u64 r.x0,.int .u64 r.x1,.int .u64 r.x2,.int .u64 r.x3,.int .u64 r.x4]) ?_ (by rw[hdf]) ⟨r,?_,rfl,hg⟩
  .simp[results,Tryz.results105,go_sem,eR1,z0,z1,z2,z3,z4]
  .rw[Hr.out,<- vR.out,<- NT.out,<- HS2.out,<- XY.out,<- X0.out,<- Xd.out,<- Xe.out,<- Xf.out,<- QO.out,<- Hz4.out,<- Hz5.out]
   simp only[iC]
   rfl
end
section
open Go.RowKit
def Fe.at (a:Fe):Nat->Int
 | 0=>a.x0
 | 1=>a.x1
 | 2=>a.x2
 | 3=>a.x3
 | _=>a.x4
theorem Fe.Ok.at {a:Fe} (h:a.Ok) (i:Nat):0<=a.at i/\a.at i<18446744073709551616:=by
 obtain⟨n0,n1,n2,n3,n4,l0,l1,l2,l3,l4⟩:=h
 match i with
 | 0=>exact⟨n0,l0⟩
 | 1=>exact⟨n1,l1⟩
 | 2=>exact⟨n2,l2⟩
 | 3=>exact⟨n3,l3⟩
 | n+4=>exact⟨n4,l4⟩
def wD (f g:Nat->Int) (k:Nat):List Value:=(List.range 5).map fun i=>.int .u64 (if i<k then g i else f i)
theorem oQ (f g:Nat->Int) (k:Nat):(wD f g k).length=5:=by simp[wD]
theorem gU (f g:Nat->Int) (k i:Nat) (h:i<5):(wD f g k)[i]?=some (.int .u64 (if i<k then g i else f i)):=by
 unfold wD
 rw[List.getElem?_map,List.getElem?_range h]
 rfl
theorem FX (f g:Nat->Int) (k:Nat) (h:k<5):(wD f g k).set k (.int .u64 (g k))=wD f g (k+1):=by
 apply List.ext_getElem?
 intro i
 rw[List.getElem?_set]
 by_cases hi:i<5
 .rw[gU f g (k+1) i hi]
  by_cases e:k=i
  .subst e;simp[oQ,h]
  .rw[if_neg e,gU f g k i hi]
   congr 2
   by_cases hk:i<k
   .rw[if_pos hk,if_pos (by omega)]
   .rw[if_neg hk,if_neg (by omega)]
 .rw[List.getElem?_eq_none (by rw[oQ];omega),List.getElem?_eq_none (by rw[oQ];omega)]
  split
  .rw[oQ];simp;omega
  .rfl
theorem jD {w0 w:World} {B:Nat} (h:w0.grownBy w none) (hB:w0.heap.size<=B) (v0 v1 v2 v3 v4:Value):
  w0.grownBy (((((w.setCell ⟨B,0,none⟩ v0).setCell ⟨B,1,none⟩ v1).setCell ⟨B,2,none⟩ v2).setCell ⟨B,3,none⟩ v3).setCell ⟨B,4,none⟩ v4) none:=
 aJ (aJ (aJ (aJ (aJ h hB _) hB _) hB _) hB _) hB _
theorem bY {w:World} {B:Nat} {T:TypeId} (h:fQ w B T) {p:Addr} (hp:p.block≠B) (v:Value):fQ (w.setCell p v) B T:=
 let ⟨_,_,_,_,_,hb⟩:=h;⟨_,_,_,_,_,hb.other hp v⟩
set_option maxHeartbeats 800000 in
theorem UQ (a b:Fe) (w:World) (ha:a.Ok) (hb:b.Ok):
  Calls Tryz.prog 129 #[.agg #[.int .u64 a.x0,.int .u64 a.x1,.int .u64 a.x2,.int .u64 a.x3,.int .u64 a.x4],.agg #[.int .u64 b.x0,.int .u64 b.x1,.int .u64 b.x2,.int .u64 b.x3,.int .u64 b.x4]] w (nU (Fe.fD a b) w):=by
 have hA:=ha.at
 have hB:=hb.at
 clear ha hb
 go_enter Tryz.func129,Tryz.ntmps129
 go_wp2
 go_loopw [6] (fun i wr=>∃k:Nat,k<=5/\i=.int .i64 k/\w.grownBy wr none/\aF wr w.heap.size 66 (wD a.at (fun i=>IntKind.u64.wrap (a.at i+b.at i)) k)/\aF wr (w.heap.size+1) 66 (wD b.at b.at 0)/\fQ wr (w.heap.size+2) 66) (fun i _=>5-(intOf i).toNat)
 case atStart=>
  exact⟨0,by omega,rfl,au (au (au (ah _ _) _) _) _,((aF.new w (wD a.at (fun i=>IntKind.u64.wrap (a.at i+b.at i)) 0) _).alloc _).alloc _,(aF.newAt (w.alloc _) (wD b.at b.at 0) _ (by simp)).alloc _,⟨_,_,_,_,_,aF.newAt _ [.int .u64 0,.int .u64 0,.int .u64 0,.int .u64 0,.int .u64 0] _ (by simp)⟩⟩
 case round=>
  obtain⟨k,hk,rfl,hg,hBa,hBb,hR⟩:=hrel
  by_cases hlt:k<5
  .have c0:=hBa.cell (gU a.at (fun i=>IntKind.u64.wrap (a.at i+b.at i)) k k hlt)
   have c1:=hBb.cell (gU b.at b.at 0 k hlt)
   rw[if_neg (by omega)]at c0 c1
   have f0:=hBa.free k
   have hset:=hBa.set k (.int .u64 (IntKind.u64.wrap (a.at k+b.at k)))
   have X7:=Lib.hid (FX a.at (fun i=>IntKind.u64.wrap (a.at i+b.at i)) k hlt)
   have i0:(0:Int)<=(k:Int):=by omega
   have i1:(k:Int)<5:=by omega
   go_wp2
   go_region
   go_wp2
   go_roundw
   case rel=>exact⟨k+1,by omega,by go_num,aJ (aX hg) (Nat.le_refl _) _,X7.out▸hset,(hBb.drew).other (by simp) _,bY (hR.grown (aX (ah _ none)) (by simp)) (by simp) _⟩
   case measure=>simp[intOf];omega
  .obtain rfl:k=5:=by omega
   have c0:=hBa.cell (gU a.at (fun i=>IntKind.u64.wrap (a.at i+b.at i)) 5 0 (by decide))
   have c1:=hBa.cell (gU a.at (fun i=>IntKind.u64.wrap (a.at i+b.at i)) 5 1 (by decide))
   have c2:=hBa.cell (gU a.at (fun i=>IntKind.u64.wrap (a.at i+b.at i)) 5 2 (by decide))
   have c3:=hBa.cell (gU a.at (fun i=>IntKind.u64.wrap (a.at i+b.at i)) 5 3 (by decide))
   have c4:=hBa.cell (gU a.at (fun i=>IntKind.u64.wrap (a.at i+b.at i)) 5 4 (by decide))
   rw[if_pos (by decide)]at c0 c1 c2 c3 c4
   clear hBa hBb
   go_wp2_with (go_at_call 137;refine (Ee _ _ _ _ _ _).mono ?_;rintro e w1 ⟨r,hr,rfl,hg1⟩;obtain⟨u0,u1,u2,u3,u4,kI⟩:=hR.grown hg1 (by simp);have z0:=kI.cell (i:=0) rfl;have z1:=kI.cell (i:=1) rfl;have z2:=kI.cell (i:=2) rfl;have z3:=kI.cell (i:=3) rfl;have z4:=kI.cell (i:=4) rfl;have y0:=kI.free 0;have y1:=kI.free 1;have y2:=kI.free 2;have y3:=kI.free 3;have y4:=kI.free 4)
   refine bodyPost_ret (v:=.agg #[.int .u64 r.x0,.int .u64 r.x1,.int .u64 r.x2,.int .u64 r.x3,.int .u64 r.x4]) ?_ rfl ⟨r,?_,rfl,?_⟩
   .simp[results,Tryz.results129,go_sem,z0,z1,z2,z3,z4]
   .have e:=hr.out
    rw[e]
    unfold Fe.fD
    exact Lib.hid rfl
   .exact jD (aj hg hg1) (by omega) _ _ _ _ _
def nV:Nat->Int
 | 0=>9007199254740916
 | _=>9007199254740988
def gq:Fe:=⟨1718705420411056,234908883556509,2233514472574048,2117202627021982,765476049583133⟩
theorem QT (i:Nat):0<=nV i/\nV i<18446744073709551616:=by
 cases i<;>simp[nV]
structure rJ (w:World):Prop where
 lt:4<w.heap.size/\6<w.heap.size
 p:∀i,i<5->w.cell? ⟨4,i,none⟩=some (.int .u64 (nV i))
 q:∀i,i<5->w.cell? ⟨6,i,none⟩=some (.int .u64 (gq.at i))
theorem rJ.grown {w w':World} (h:rJ w) (hg:w.grownBy w' none):rJ w':=
 ⟨⟨Nat.lt_of_lt_of_le h.lt.1 hg.size,Nat.lt_of_lt_of_le h.lt.2 hg.size⟩,fun i hi=>by rw[aZ hg (p:=⟨4,i,none⟩) h.lt.1 (by simp)];exact h.p i hi,
  fun i hi=>by rw[aZ hg (p:=⟨6,i,none⟩) h.lt.2 (by simp)];exact h.q i hi⟩
set_option maxHeartbeats 800000 in
theorem LM (a b:Fe) (w:World) (hT:rJ w) (ha:a.Ok) (hb:b.Ok):
  Calls Tryz.prog 127 #[.agg #[.int .u64 a.x0,.int .u64 a.x1,.int .u64 a.x2,.int .u64 a.x3,.int .u64 a.x4],.agg #[.int .u64 b.x0,.int .u64 b.x1,.int .u64 b.x2,.int .u64 b.x3,.int .u64 b.x4]] w (nU (Fe.gZ a b) w):=by
 have hA:=ha.at
 have hB:=hb.at
 clear ha hb
 go_enter Tryz.func127,Tryz.ntmps127
 go_wp2
 go_loopw [6] (fun i wr=>∃k:Nat,k<=5/\i=.int .i64 k/\w.grownBy wr none/\aF wr w.heap.size 66 (wD a.at (fun i=>IntKind.u64.wrap (a.at i+IntKind.u64.wrap (nV i-b.at i))) k)/\aF wr (w.heap.size+1) 66 (wD b.at b.at 0)/\fQ wr (w.heap.size+2) 66) (fun i _=>5-(intOf i).toNat)
 case atStart=>
  exact⟨0,by omega,rfl,au (au (au (ah _ _) _) _) _,((aF.new w (wD a.at (fun i=>IntKind.u64.wrap (a.at i+IntKind.u64.wrap (nV i-b.at i))) 0) _).alloc _).alloc _,(aF.newAt (w.alloc _) (wD b.at b.at 0) _ (by simp)).alloc _,⟨_,_,_,_,_,aF.newAt _ [.int .u64 0,.int .u64 0,.int .u64 0,.int .u64 0,.int .u64 0] _ (by simp)⟩⟩
 case round=>
  obtain⟨k,hk,rfl,hg,hBa,hBb,hR⟩:=hrel
  by_cases hlt:k<5
  .have c0:=hBa.cell (gU a.at (fun i=>IntKind.u64.wrap (a.at i+IntKind.u64.wrap (nV i-b.at i))) k k hlt)
   have c1:=hBb.cell (gU b.at b.at 0 k hlt)
   rw[if_neg (by omega)]at c0 c1
   have f0:=hBa.free k
   have ct:=(hT.grown hg).p k hlt
   have hf:=QT k
   have hset:=hBa.set k (.int .u64 (IntKind.u64.wrap (a.at k+IntKind.u64.wrap (nV k-b.at k))))
   have X7:=Lib.hid (FX a.at (fun i=>IntKind.u64.wrap (a.at i+IntKind.u64.wrap (nV i-b.at i))) k hlt)
   have i0:(0:Int)<=(k:Int):=by omega
   have i1:(k:Int)<5:=by omega
   go_wp2
   go_region
   go_wp2
   go_roundw
   case rel=>exact⟨k+1,by omega,by go_num,aJ (aX hg) (Nat.le_refl _) _,X7.out▸hset,(hBb.drew).other (by simp) _,bY (hR.grown (aX (ah _ none)) (by simp)) (by simp) _⟩
   case measure=>simp[intOf];omega
  .obtain rfl:k=5:=by omega
   have c0:=hBa.cell (gU a.at (fun i=>IntKind.u64.wrap (a.at i+IntKind.u64.wrap (nV i-b.at i))) 5 0 (by decide))
   have c1:=hBa.cell (gU a.at (fun i=>IntKind.u64.wrap (a.at i+IntKind.u64.wrap (nV i-b.at i))) 5 1 (by decide))
   have c2:=hBa.cell (gU a.at (fun i=>IntKind.u64.wrap (a.at i+IntKind.u64.wrap (nV i-b.at i))) 5 2 (by decide))
   have c3:=hBa.cell (gU a.at (fun i=>IntKind.u64.wrap (a.at i+IntKind.u64.wrap (nV i-b.at i))) 5 3 (by decide))
   have c4:=hBa.cell (gU a.at (fun i=>IntKind.u64.wrap (a.at i+IntKind.u64.wrap (nV i-b.at i))) 5 4 (by decide))
   rw[if_pos (by decide)]at c0 c1 c2 c3 c4
   clear hBa hBb
   clear hT
   go_wp2_with (go_at_call 137;refine (Ee _ _ _ _ _ _).mono ?_;rintro e w1 ⟨r,hr,rfl,hg1⟩;obtain⟨u0,u1,u2,u3,u4,kI⟩:=hR.grown hg1 (by simp);have z0:=kI.cell (i:=0) rfl;have z1:=kI.cell (i:=1) rfl;have z2:=kI.cell (i:=2) rfl;have z3:=kI.cell (i:=3) rfl;have z4:=kI.cell (i:=4) rfl;have y0:=kI.free 0;have y1:=kI.free 1;have y2:=kI.free 2;have y3:=kI.free 3;have y4:=kI.free 4)
   refine bodyPost_ret (v:=.agg #[.int .u64 r.x0,.int .u64 r.x1,.int .u64 r.x2,.int .u64 r.x3,.int .u64 r.x4]) ?_ rfl ⟨r,?_,rfl,?_⟩
   .simp[results,Tryz.results127,go_sem,z0,z1,z2,z3,z4]
   .have e:=hr.out
    rw[e]
    unfold Fe.gZ
    exact Lib.hid rfl
   .exact jD (aj hg hg1) (by omega) _ _ _ _ _
set_option maxHeartbeats 400000 in
theorem Ef (a:Fe) (w:World) (hT:rJ w) (ha:a.Ok):
  Calls Tryz.prog 120 #[.agg #[.int .u64 a.x0,.int .u64 a.x1,.int .u64 a.x2,.int .u64 a.x3,.int .u64 a.x4]] w (nU (Fe.kL a) w):=by
 have hg0:∀c0 c1,w.grownBy ((w.alloc c0).alloc c1) none:=fun c0 c1=>au (au (ah _ _) _) _
 have hz:Fe.Ok ⟨0,0,0,0,0⟩:=by constructor<;>decide
 go_enter Tryz.func120,Tryz.ntmps120
 go_wp2_with (go_at_call 127;refine (LM ⟨0,0,0,0,0⟩ a _ (hT.grown (hg0 _ _)) hz ha).mono ?_;rintro e w1 ⟨r,hr,rfl,hg1⟩;have hg2:=aj (hg0 _ _) hg1;obtain⟨u0,u1,u2,u3,u4,kI⟩:fQ w1 (w.heap.size+1) 66:=fQ.grown ⟨_,_,_,_,_,aF.newAt _ [.int .u64 0,.int .u64 0,.int .u64 0,.int .u64 0,.int .u64 0] _ (by simp)⟩ hg1 (by simp);have z0:=kI.cell (i:=0) rfl;have z1:=kI.cell (i:=1) rfl;have z2:=kI.cell (i:=2) rfl;have z3:=kI.cell (i:=3) rfl;have z4:=kI.cell (i:=4) rfl;have y0:=kI.free 0;have y1:=kI.free 1;have y2:=kI.free 2;have y3:=kI.free 3;have y4:=kI.free 4)
 refine bodyPost_ret (v:=.agg #[.int .u64 r.x0,.int .u64 r.x1,.int .u64 r.x2,.int .u64 r.x3,.int .u64 r.x4]) ?_ rfl ⟨r,hr,rfl,jD hg2 (by omega) _ _ _ _ _⟩
 simp[results,Tryz.results120,go_sem,z0,z1,z2,z3,z4]
set_option maxHeartbeats 400000 in
theorem UR (w:World):Calls Tryz.prog 97 #[] w (nU Fe.dQ w):=by
 go_enter Tryz.func97,Tryz.ntmps97
 go_wp2
 refine bodyPost_ret (v:=.agg #[.int .u64 1,.int .u64 0,.int .u64 0,.int .u64 0,.int .u64 0]) ?_ rfl ⟨Fe.dQ,Lib.hid rfl,rfl,au (ah _ _) _⟩
 simp[results,Tryz.results97,go_sem]
end
section
open Go.RowKit
def ov (c:Fe):Nat->Int
 | 0=>19
 | 1=>Fe.yQ c
 | 2=>Fe.Ab c
 | 3=>Fe.CX c
 | 4=>Fe.FL c
 | _=>Fe.uQ c
theorem rC {c:Fe} (h:Fe.Low c) (k:Nat):0<=ov c k/\ov c k<=19:=by
 obtain⟨n0,n1,n2,n3,n4,l0,l1,l2,l3,l4⟩:=h
 match k with
 | 0=>simp[ov]
 | 1=>simp only[ov,Fe.yQ];omega
 | 2=>simp only[ov,Fe.Ab,Fe.yQ];omega
 | 3=>simp only[ov,Fe.CX,Fe.Ab,Fe.yQ];omega
 | 4=>simp only[ov,Fe.FL,Fe.CX,Fe.Ab,Fe.yQ];omega
 | n+5=>simp only[ov,Fe.uQ,Fe.FL,Fe.CX,Fe.Ab,Fe.yQ];omega
def xX (l0 l1 l2 l3 l4 x1 x2 x3 x4:Int):Nat->List Value
 | 0=>[.int .u64 l0,.int .u64 x1,.int .u64 x2,.int .u64 x3,.int .u64 x4]
 | 1=>[.int .u64 (l0%2251799813685248),.int .u64 l1,.int .u64 x2,.int .u64 x3,.int .u64 x4]
 | 2=>[.int .u64 (l0%2251799813685248),.int .u64 (l1%2251799813685248),.int .u64 l2,.int .u64 x3,.int .u64 x4]
 | 3=>[.int .u64 (l0%2251799813685248),.int .u64 (l1%2251799813685248),.int .u64 (l2%2251799813685248),.int .u64 l3,.int .u64 x4]
 | _=>[.int .u64 (l0%2251799813685248),.int .u64 (l1%2251799813685248),.int .u64 (l2%2251799813685248),.int .u64 (l3%2251799813685248),.int .u64 l4]
set_option maxHeartbeats 1600000 in
theorem NV (a:Fe) (w:World) (ha:a.Ok):
  Calls Tryz.prog 135 #[.agg #[.int .u64 a.x0,.int .u64 a.x1,.int .u64 a.x2,.int .u64 a.x3,.int .u64 a.x4]] w (nU (Fe.gI a) w):=by
 have hg0:∀c0 c1,w.grownBy ((w.alloc c0).alloc c1) none:=fun c0 c1=>au (au (ah _ _) _) _
 go_enter Tryz.func135,Tryz.ntmps135
 go_wp2_with (go_at_call 137;refine ((FW a _ ha).mono fun _ _=>Ag).mono ?_;rintro e w1 ⟨c,hc,rfl,hg1⟩;have hg2:=aj (hg0 _ _) hg1;have kI:fQ w1 (w.heap.size+1) 66:=fQ.grown ⟨_,_,_,_,_,aF.newAt _ [.int .u64 0,.int .u64 0,.int .u64 0,.int .u64 0,.int .u64 0] _ (by simp)⟩ hg1 (by simp);have hA1:=aF.grown (aF.alloc (aF.new w [.int .u64 a.x0,.int .u64 a.x1,.int .u64 a.x2,.int .u64 a.x3,.int .u64 a.x4] 66) _) hg1 (by simp);have z0:=hA1.cell (i:=0) rfl;have z1:=hA1.cell (i:=1) rfl;have z2:=hA1.cell (i:=2) rfl;have z3:=hA1.cell (i:=3) rfl;have z4:=hA1.cell (i:=4) rfl;have y0:=hA1.free 0;have y1:=hA1.free 1;have y2:=hA1.free 2;have y3:=hA1.free 3;have y4:=hA1.free 4)
 have hA2:aF (((((w1.setCell ⟨w.heap.size,0,none⟩ (.int .u64 c.x0)).setCell ⟨w.heap.size,1,none⟩ (.int .u64 c.x1)).setCell ⟨w.heap.size,2,none⟩ (.int .u64 c.x2)).setCell ⟨w.heap.size,3,none⟩ (.int .u64 c.x3)).setCell ⟨w.heap.size,4,none⟩ (.int .u64 c.x4)) w.heap.size 66 [.int .u64 c.x0,.int .u64 c.x1,.int .u64 c.x2,.int .u64 c.x3,.int .u64 c.x4]:=fQ.sw ⟨_,_,_,_,_,hA1⟩ _ _ _ _ _
 have hR2:fQ (((((w1.setCell ⟨w.heap.size,0,none⟩ (.int .u64 c.x0)).setCell ⟨w.heap.size,1,none⟩ (.int .u64 c.x1)).setCell ⟨w.heap.size,2,none⟩ (.int .u64 c.x2)).setCell ⟨w.heap.size,3,none⟩ (.int .u64 c.x3)).setCell ⟨w.heap.size,4,none⟩ (.int .u64 c.x4)) (w.heap.size+1) 66:=bY (bY (bY (bY (bY kI (by simp) _) (by simp) _) (by simp) _) (by simp) _) (by simp) _
 have hg3:w.grownBy (((((w1.setCell ⟨w.heap.size,0,none⟩ (.int .u64 c.x0)).setCell ⟨w.heap.size,1,none⟩ (.int .u64 c.x1)).setCell ⟨w.heap.size,2,none⟩ (.int .u64 c.x2)).setCell ⟨w.heap.size,3,none⟩ (.int .u64 c.x3)).setCell ⟨w.heap.size,4,none⟩ (.int .u64 c.x4)) none:=jD hg2 (Nat.le_refl _) _ _ _ _ _
 revert hA2 hR2 hg3
 clear kI hA1 z0 z1 z2 z3 z4 y0 y1 y2 y3 y4 hg1 hg2
 generalize (((((w1.setCell ⟨w.heap.size,0,none⟩ (.int .u64 c.x0)).setCell ⟨w.heap.size,1,none⟩ (.int .u64 c.x1)).setCell ⟨w.heap.size,2,none⟩ (.int .u64 c.x2)).setCell ⟨w.heap.size,3,none⟩ (.int .u64 c.x3)).setCell ⟨w.heap.size,4,none⟩ (.int .u64 c.x4))=W2
 intro hA2 hR2 hg3
 have hlow:Fe.Low c:=by have e:=hc.out;rw[e];exact Fe.NH ha
 have hcr:Fe.Low c:=hlow
 obtain⟨n0,n1,n2,n3,n4,m0,m1,m2,m3,m4⟩:=hcr
 go_loop [10,3] (fun i o=>∃k:Nat,k<=5/\i=.int .i64 k/\o=.int .u64 (ov c k)) (fun i _=>5-(intOf i).toNat)
 case atStart=>exact⟨0,by omega,rfl,rfl⟩
 case round=>
  obtain⟨k,hk,rfl,rfl⟩:=hrel
  rcases (show k=0\/k=1\/k=2\/k=3\/k=4\/k=5 by omega) with rfl|rfl|rfl|rfl|rfl|rfl
  .have b0:=(rC hlow 0).1
   have b1:=(rC hlow 0).2
   have e0:=Lib.hid (show ov c 1=(c.x0+ov c 0)/2251799813685248 from rfl)
   generalize ov c 0=o at *
   have i0:∀w,(Instr.index 66 (.agg #[.int .u64 c.x0,.int .u64 c.x1,.int .u64 c.x2,.int .u64 c.x3,.int .u64 c.x4]) (.int .i64 0)).run Tryz.prog w=.ok (.int .u64 c.x0) w:=fun _=>by kernel_rfl
   go_wp2
   go_round
   case rel=>exact⟨1,by omega,rfl,by rw[e0.out]⟩
   case measure=>simp[intOf]
  .have b0:=(rC hlow 1).1
   have b1:=(rC hlow 1).2
   have e0:=Lib.hid (show ov c 2=(c.x1+ov c 1)/2251799813685248 from rfl)
   generalize ov c 1=o at *
   have i0:∀w,(Instr.index 66 (.agg #[.int .u64 c.x0,.int .u64 c.x1,.int .u64 c.x2,.int .u64 c.x3,.int .u64 c.x4]) (.int .i64 1)).run Tryz.prog w=.ok (.int .u64 c.x1) w:=fun _=>by kernel_rfl
   go_wp2
   go_round
   case rel=>exact⟨2,by omega,rfl,by rw[e0.out]⟩
   case measure=>simp[intOf]
  .have b0:=(rC hlow 2).1
   have b1:=(rC hlow 2).2
   have e0:=Lib.hid (show ov c 3=(c.x2+ov c 2)/2251799813685248 from rfl)
   generalize ov c 2=o at *
   have i0:∀w,(Instr.index 66 (.agg #[.int .u64 c.x0,.int .u64 c.x1,.int .u64 c.x2,.int .u64 c.x3,.int .u64 c.x4]) (.int .i64 2)).run Tryz.prog w=.ok (.int .u64 c.x2) w:=fun _=>by kernel_rfl
   go_wp2
   go_round
   case rel=>exact⟨3,by omega,rfl,by rw[e0.out]⟩
   case measure=>simp[intOf]
  .have b0:=(rC hlow 3).1
   have b1:=(rC hlow 3).2
   have e0:=Lib.hid (show ov c 4=(c.x3+ov c 3)/2251799813685248 from rfl)
   generalize ov c 3=o at *
   have i0:∀w,(Instr.index 66 (.agg #[.int .u64 c.x0,.int .u64 c.x1,.int .u64 c.x2,.int .u64 c.x3,.int .u64 c.x4]) (.int .i64 3)).run Tryz.prog w=.ok (.int .u64 c.x3) w:=fun _=>by kernel_rfl
   go_wp2
   go_round
   case rel=>exact⟨4,by omega,rfl,by rw[e0.out]⟩
   case measure=>simp[intOf]
  .have b0:=(rC hlow 4).1
   have b1:=(rC hlow 4).2
   have e0:=Lib.hid (show ov c 5=(c.x4+ov c 4)/2251799813685248 from rfl)
   generalize ov c 4=o at *
   have i0:∀w,(Instr.index 66 (.agg #[.int .u64 c.x0,.int .u64 c.x1,.int .u64 c.x2,.int .u64 c.x3,.int .u64 c.x4]) (.int .i64 4)).run Tryz.prog w=.ok (.int .u64 c.x4) w:=fun _=>by kernel_rfl
   go_wp2
   go_round
   case rel=>exact⟨5,by omega,rfl,by rw[e0.out]⟩
   case measure=>simp[intOf]
  .have b0:=(rC hlow 5).1
   have b1:=(rC hlow 5).2
   have HO:Hid (ov c 5=Fe.uQ c):=Lib.hid rfl
   generalize ov c 5=o at *
   have z0:=hA2.cell (i:=0) rfl
   have y0:=hA2.free 0
   go_wp2
   have hA3:=hA2.set 0 (.int .u64 (c.x0+19*o))
   have LP:=bY hR2 (p:=⟨w.heap.size,0,none⟩) (by simp) (.int .u64 (c.x0+19*o))
   have hg4:=aJ hg3 (p:=⟨w.heap.size,0,none⟩) (Nat.le_refl _) (.int .u64 (c.x0+19*o))
   have q0:0<=c.x0+19*o/\c.x0+19*o<4503599627370496:=by omega
   have HL0:Hid (Fe.Qz c=c.x0+19*o):=Lib.hid (by unfold Fe.Qz;rw[<- HO.out])
   clear hA2 hR2 hg3 z0 y0
   revert hA3 LP hg4
   generalize W2.setCell ⟨w.heap.size,0,none⟩ (.int .u64 (c.x0+19*o))=W3
   generalize c.x0+19*o=l0 at *
   obtain⟨q00,q01⟩:=q0
   intro hA3 LP hg4
   obtain⟨l1,h1⟩:∃l,c.x1+l0/2251799813685248=l:=⟨_,rfl⟩
   have q10:0<=l1:=by omega
   have q11:l1<4503599627370496:=by omega
   have H1:=Lib.hid h1;clear h1
   obtain⟨l2,h2⟩:∃l,c.x2+l1/2251799813685248=l:=⟨_,rfl⟩
   have q20:0<=l2:=by omega
   have q21:l2<4503599627370496:=by omega
   have H2:=Lib.hid h2;clear h2
   obtain⟨l3,h3⟩:∃l,c.x3+l2/2251799813685248=l:=⟨_,rfl⟩
   have q30:0<=l3:=by omega
   have q31:l3<4503599627370496:=by omega
   have H3:=Lib.hid h3;clear h3
   obtain⟨l4,h4⟩:∃l,c.x4+l3/2251799813685248=l:=⟨_,rfl⟩
   have q40:0<=l4:=by omega
   have q41:l4<4503599627370496:=by omega
   have H4:=Lib.hid h4;clear h4
   go_loopw [24] (fun i wr=>∃k:Nat,k<=4/\i=.int .i64 k/\w.grownBy wr none/\aF wr w.heap.size 66 (xX l0 l1 l2 l3 l4 c.x1 c.x2 c.x3 c.x4 k)/\fQ wr (w.heap.size+1) 66) (fun i _=>4-(intOf i).toNat)
   case atStart=>exact⟨0,by omega,rfl,hg4,hA3,LP⟩
   case round=>
    obtain⟨k,hk,rfl,hg,hA,hR⟩:=hrel
    clear hA3 LP hg4
    rcases (show k=0\/k=1\/k=2\/k=3\/k=4 by omega) with rfl|rfl|rfl|rfl|rfl
    .have hB:=hA
     unfold xX at hB
     have z0:=hB.cell (i:=0) rfl
     have z1:=hB.cell (i:=1) rfl
     have f0:=hB.free 0
     have f1:=hB.free 1
     go_wp2
     go_region
     go_wp2
     rw[mQ l0 (by omega) (by omega),H1.out]
     go_roundw
     case rel=>exact⟨1,by omega,rfl,aJ (aJ (aX hg) (Nat.le_refl _) _) (Nat.le_refl _) _,((hB.drew).set 1 (.int .u64 l1)).set 0 (.int .u64 (l0%2251799813685248)),bY (bY (hR.grown (aX (ah _ none)) (by simp)) (by simp) _) (by simp) _⟩
     case measure=>simp[intOf]
    .have hB:=hA
     unfold xX at hB
     have z0:=hB.cell (i:=1) rfl
     have z1:=hB.cell (i:=2) rfl
     have f0:=hB.free 1
     have f1:=hB.free 2
     go_wp2
     go_region
     go_wp2
     rw[mQ l1 (by omega) (by omega),H2.out]
     go_roundw
     case rel=>exact⟨2,by omega,rfl,aJ (aJ (aX hg) (Nat.le_refl _) _) (Nat.le_refl _) _,((hB.drew).set 2 (.int .u64 l2)).set 1 (.int .u64 (l1%2251799813685248)),bY (bY (hR.grown (aX (ah _ none)) (by simp)) (by simp) _) (by simp) _⟩
     case measure=>simp[intOf]
    .have hB:=hA
     unfold xX at hB
     have z0:=hB.cell (i:=2) rfl
     have z1:=hB.cell (i:=3) rfl
     have f0:=hB.free 2
     have f1:=hB.free 3
     go_wp2
     go_region
     go_wp2
     rw[mQ l2 (by omega) (by omega),H3.out]
     go_roundw
     case rel=>exact⟨3,by omega,rfl,aJ (aJ (aX hg) (Nat.le_refl _) _) (Nat.le_refl _) _,((hB.drew).set 3 (.int .u64 l3)).set 2 (.int .u64 (l2%2251799813685248)),bY (bY (hR.grown (aX (ah _ none)) (by simp)) (by simp) _) (by simp) _⟩
     case measure=>simp[intOf]
    .have hB:=hA
     unfold xX at hB
     have z0:=hB.cell (i:=3) rfl
     have z1:=hB.cell (i:=4) rfl
     have f0:=hB.free 3
     have f1:=hB.free 4
     go_wp2
     go_region
     go_wp2
     rw[mQ l3 (by omega) (by omega),H4.out]
     go_roundw
     case rel=>exact⟨4,by omega,rfl,aJ (aJ (aX hg) (Nat.le_refl _) _) (Nat.le_refl _) _,((hB.drew).set 4 (.int .u64 l4)).set 3 (.int .u64 (l3%2251799813685248)),bY (bY (hR.grown (aX (ah _ none)) (by simp)) (by simp) _) (by simp) _⟩
     case measure=>simp[intOf]
    .have hB:=hA
     unfold xX at hB
     have z0:=hB.cell (i:=0) rfl
     have z1:=hB.cell (i:=1) rfl
     have z2:=hB.cell (i:=2) rfl
     have z3:=hB.cell (i:=3) rfl
     have z4:=hB.cell (i:=4) rfl
     have y4:=hB.free 4
     obtain⟨u0,u1,u2,u3,u4,kI⟩:=hR
     have t0:=kI.cell (i:=0) rfl
     have t1:=kI.cell (i:=1) rfl
     have t2:=kI.cell (i:=2) rfl
     have t3:=kI.cell (i:=3) rfl
     have t4:=kI.cell (i:=4) rfl
     have v0:=kI.free 0
     have v1:=kI.free 1
     have v2:=kI.free 2
     have v3:=kI.free 3
     have v4:=kI.free 4
     go_wp2
     rw[mQ l4 (by omega) (by omega)]
     refine bodyPost_ret (v:=.agg #[.int .u64 (l0%2251799813685248),.int .u64 (l1%2251799813685248),.int .u64 (l2%2251799813685248),.int .u64 (l3%2251799813685248),.int .u64 (l4%2251799813685248)]) ?_ rfl ⟨⟨l0%2251799813685248,l1%2251799813685248,l2%2251799813685248,l3%2251799813685248,l4%2251799813685248⟩,Lib.hid ?_,rfl,jD (aJ hg (Nat.le_refl _) _) (by omega) _ _ _ _ _⟩
     .simp[results,Tryz.results135,go_sem,t0,t1,t2,t3,t4]
     .have e:=hc.out
      have e1:Fe.QA c=l1:=by unfold Fe.QA;rw[HL0.out,H1.out]
      have e2:Fe.QB c=l2:=by unfold Fe.QB;rw[e1,H2.out]
      have e3:Fe.QC c=l3:=by unfold Fe.QC;rw[e2,H3.out]
      have e4:Fe.UF c=l4:=by unfold Fe.UF;rw[e3,H4.out]
      rw[<- Fe.FM,<- e,Fe.QD hlow,HL0.out,e1,e2,e3,e4]
end
section
open Go.RowKit
def rM (x:Int) (i:Nat):Value:=.int .u8 (x/2^(8*i)%256)
set_option maxHeartbeats 400000 in
theorem oU (B off n c:Nat) (T:TypeId) (L:List Value) (x:Int) (w:World) (hn:8<=n) (hL:off+8<=L.length) (hb:aF w B T L):
  Calls Tryz.prog 136 #[.slice (some ⟨B,off,none⟩) n c,.int .u64 x] w fun e w'=>e=.returned (.tuple #[])/\w.grownBy w' (some B)/\aF w' B T (oO L off (rM x) 8):=by
 go_enter Tryz.func136,Tryz.ntmps136
 go_wp2
 go_loopw [5] (fun i wr=>∃k:Nat,k<=8/\i=.int .i64 k/\w.grownBy wr (some B)/\aF wr B T (oO L off (rM x) k)) (fun i _=>8-(intOf i).toNat)
 case atStart=>exact⟨0,by omega,rfl,ah _ _,hb⟩
 case round=>
  obtain⟨k,hk,rfl,hg,hB⟩:=hrel
  by_cases hlt:k<8
  .have hi:(k:Int)<(n:Int):=by omega
   have hs:0<=8*(k:Int):=by omega
   have hs2:8*(k:Int)<64:=by omega
   have hfr:=hB.free (off+k)
   obtain⟨v0,hv0⟩:∃v,wr.cell? ⟨B,off+k,none⟩=some v:=⟨_,hB.cell (List.getElem?_eq_getElem (by rw[fP];omega))⟩
   go_wp2
   go_roundw
   case rel=>exact⟨k+1,by omega,by go_num,aQ hg _ _,hB.set _ _⟩
   case measure=>simp[intOf];omega
  .obtain rfl:k=8:=by omega
   go_wp2
   go_end0
   exact⟨rfl,hg,hB⟩
def aS (f:Nat->Int):Nat->Int
 | 0=>0
 | k+1=>aS f k+f k*2^(8*k)
theorem Ak {a b:Nat} (h:a<=b):(2:Int)^a<=2^b:=by
 have h1:=Int.ofNat_le.2 (Nat.pow_le_pow_right (n:=2) (by decide) h)
 simpa[Int.natCast_pow] using h1
theorem gM (f:Nat->Int) (hf:∀i,0<=f i/\f i<256) (k:Nat):0<=aS f k/\aS f k<2^(8*k):=by
 induction k with
 | zero=>simp[aS]
 | succ k ih=>
  have h:=hf k
  have e:(2:Int)^(8*(k+1))=256*2^(8*k):=by rw[show 8*(k+1)=8*k+8 by omega,Int.pow_add];omega
  rw[aS,e]
  generalize (2:Int)^(8*k)=p at *
  have h1:f k*p<=255*p:=Int.mul_le_mul_of_nonneg_right (by omega) (by omega)
  have h2:0<=f k*p:=Int.mul_nonneg h.1 (by omega)
  omega
theorem QU (a b:Int) (s:Nat) (h0:0<=a) (h1:a<2^s) (h2:a<18446744073709551616) (k0:0<=b) (k1:b*2^s<18446744073709551616):bits .or .u64 a (b*2^s)=a+b*2^s:=by
 obtain⟨a,rfl⟩:=Int.eq_ofNat_of_zero_le h0
 obtain⟨b,rfl⟩:=Int.eq_ofNat_of_zero_le k0
 have e:(b:Int)*2^s=((2^s*b:Nat):Int):=by rw[Int.natCast_mul,Int.natCast_pow,Int.mul_comm];rfl
 have ha:a<2^s:=by
  have:((2^s:Nat):Int)=(2:Int)^s:=by rw[Int.natCast_pow];rfl
  omega
 rw[e]at k1 ⊢
 rw[u64_or_nat _ _ (by omega) (by omega),Nat.or_comm,<- Nat.two_pow_add_eq_or_of_lt ha]
 omega
set_option maxHeartbeats 400000 in
theorem FY (B off n c:Nat) (f:Nat->Int) (w:World) (hn:8<=n) (hf:∀i,0<=f i/\f i<256) (hc:∀i,i<8->w.cell? ⟨B,off+i,none⟩=some (.int .u8 (f i))):
  Calls Tryz.prog 156 #[.slice (some ⟨B,off,none⟩) n c] w fun e w'=>e=.returned (.int .u64 (aS f 8))/\w=w':=by
 go_enter Tryz.func156,Tryz.ntmps156
 go_wp2
 go_loop [3,5] (fun v i=>∃k:Nat,k<=8/\i=.int .i64 k/\v=.int .u64 (aS f k)) (fun _ i=>8-(intOf i).toNat)
 case atStart=>exact⟨0,by omega,rfl,rfl⟩
 case round=>
  obtain⟨k,hk,rfl,rfl⟩:=hrel
  by_cases hlt:k<8
  .have hi:(k:Int)<(n:Int):=by omega
   have hs:0<=8*(k:Int):=by omega
   have hs2:8*(k:Int)<64:=by omega
   have c0:=hc k hlt
   have b0:=(hf k).1
   have b1:=(hf k).2
   have Hw:Hid (bits .or .u64 (aS f k) (IntKind.u64.wrap (f k*2^(8*k)))=aS f (k+1)):=by
    apply Lib.hid
    have hb:=gM f hf k
    have hb1:=gM f hf (k+1)
    have hp:(2:Int)^(8*(k+1))<=2^64:=Ak (by omega)
    have hp2:(2:Int)^(8*k)<=2^64:=Ak (by omega)
    have h64:(2:Int)^64=18446744073709551616:=by decide
    have hm:0<=f k*2^(8*k):=Int.mul_nonneg b0 (by omega)
    rw[aS]at hb1
    rw[iC,Fe.kD hm (by omega),aS]
    exact QU _ _ _ hb.1 hb.2 (by omega) b0 (by omega)
   go_wp2
   go_round
   case rel=>exact⟨k+1,by omega,by go_num,by rw[Hw.out]⟩
   case measure=>simp[intOf];omega
  .obtain rfl:k=8:=by omega
   go_wp2
   go_ret
   exact⟨rfl,rfl⟩
theorem vk (a b:Int) (s:Nat) (p q:Int) (hp:(2:Int)^s=p) (hq:p*q=18446744073709551616) (h0:0<=a) (h1:a<p) (hq0:0<q):bits .or .u64 a (IntKind.u64.wrap (b*p))=a+(b%q)*p:=by
 have hp0:0<p:=by omega
 have hpp:p<=18446744073709551616:=by
  have:p*1<=p*q:=Int.mul_le_mul_of_nonneg_left (by omega) (by omega)
  omega
 have e:IntKind.u64.wrap (b*p)=(b%q)*2^s:=by
  rw[iC,hp]
  unfold Fe.dJ
  rw[<- hq,Int.mul_comm b p,Int.mul_comm (b%q) p,Int.mul_emod_mul_of_pos _ _ hp0]
 have hb0:0<=b%q:=Int.emod_nonneg _ (by omega)
 have hb1:b%q<q:=Int.emod_lt_of_pos _ hq0
 have hb2:(b%q)*p<18446744073709551616:=by
  have h:(b%q)*p<=(q-1)*p:=Int.mul_le_mul_of_nonneg_right (by omega) (by omega)
  have e2:(q-1)*p=18446744073709551616-p:=by rw[Int.sub_mul,Int.mul_comm q p,hq,Int.one_mul]
  omega
 rw[e,QU a _ s h0 (by rw[hp];exact h1) (by omega) hb0 (by rw[hp];exact hb2),hp]
def dz (x:Int):List Value:=(List.range 32).map (rM x)
theorem tV (x:Int) (k i:Nat) (h:i<8):rM (x/2^(64*k)%18446744073709551616) i=rM x (8*k+i):=by
 unfold rM
 have e:x/2^(8*(8*k+i))=x/2^(64*k)/2^(8*i):=by
  rw[show 8*(8*k+i)=64*k+8*i by omega,Int.pow_add,Int.ediv_ediv_of_nonneg (Int.le_of_lt (Int.pow_pos (by decide)))]
 rw[e]
 generalize x/2^(64*k)=y
 congr 1
 obtain rfl|rfl|rfl|rfl|rfl|rfl|rfl|rfl:i=0\/i=1\/i=2\/i=3\/i=4\/i=5\/i=6\/i=7:=by omega
 all_goals simp only[Nat.mul_zero,Nat.mul_one,Int.reducePow,Nat.reduceMul];omega
def lT:List Value:=List.replicate 32 (.int .u8 0)
theorem JN (x:Int):oO (oO (oO (oO lT 0 (rM (x/2^(64*0)%18446744073709551616)) 8) 8 (rM (x/2^(64*1)%18446744073709551616)) 8) 16 (rM (x/2^(64*2)%18446744073709551616)) 8) 24 (rM (x/2^(64*3)%18446744073709551616)) 8=dz x:=by
 apply List.ext_getElem?
 intro i
 have l0:lT.length=32:=rfl
 rw[rV _ _ _ _ _ (by simp only[fP,l0];omega),rV _ _ _ _ _ (by simp only[fP,l0];omega),rV _ _ _ _ _ (by simp only[fP,l0];omega),rV _ _ _ _ _ (by rw[l0];omega)]
 by_cases h:i<32
 .have e:(dz x)[i]?=some (rM x i):=by unfold dz;rw[List.getElem?_map,List.getElem?_range h];rfl
  rw[e]
  by_cases h3:24<=i
  .rw[if_pos (by omega),tV x 3 (i-24) (by omega),show 8*3+(i-24)=i by omega]
  .rw[if_neg (by omega)]
   by_cases h2:16<=i
   .rw[if_pos (by omega),tV x 2 (i-16) (by omega),show 8*2+(i-16)=i by omega]
   .rw[if_neg (by omega)]
    by_cases h1:8<=i
    .rw[if_pos (by omega),tV x 1 (i-8) (by omega),show 8*1+(i-8)=i by omega]
    .rw[if_neg (by omega),if_pos (by omega),tV x 0 (i-0) (by omega),show 8*0+(i-0)=i by omega]
 .rw[if_neg (by omega),if_neg (by omega),if_neg (by omega),if_neg (by omega),List.getElem?_eq_none (by rw[l0];omega),List.getElem?_eq_none (by simp[dz];omega)]
theorem NW (a:Fe):0<=(Fe.m a:Int)/\(Fe.m a:Int)<57896044618658097711785492504343953926634992332820282019728792003956564819949:=by
 have:=Fe.xW a
 unfold Fe.P at this
 omega
theorem FZ (a:Fe):
  (Fe.gI a).x0+(Fe.gI a).x1%8192*2251799813685248=(Fe.m a:Int)/2^(64*0)%18446744073709551616/\
  (Fe.gI a).x1/8192+(Fe.gI a).x2%67108864*274877906944=(Fe.m a:Int)/2^(64*1)%18446744073709551616/\
  (Fe.gI a).x2/67108864+(Fe.gI a).x3%549755813888*33554432=(Fe.m a:Int)/2^(64*2)%18446744073709551616/\
  (Fe.gI a).x3/549755813888+(Fe.gI a).x4%4503599627370496*4096=(Fe.m a:Int)/2^(64*3)%18446744073709551616:=by
 have hl:=NW a
 unfold Fe.gI
 generalize (Fe.m a:Int)=x at *
 have e2:x/5070602400912917605986812821504=x/2251799813685248/2251799813685248:=by rw[Int.ediv_ediv_of_nonneg (by decide)];rfl
 have e3:x/11417981541647679048466287755595961091061972992=x/2251799813685248/2251799813685248/2251799813685248:=by rw[Int.ediv_ediv_of_nonneg (by decide),Int.ediv_ediv_of_nonneg (by decide)];rfl
 have e4:x/25711008708143844408671393477458601640355247900524685364822016=x/2251799813685248/2251799813685248/2251799813685248/2251799813685248:=by rw[Int.ediv_ediv_of_nonneg (by decide),Int.ediv_ediv_of_nonneg (by decide),Int.ediv_ediv_of_nonneg (by decide)];rfl
 rw[e2,e3,e4]
 have p1:(2:Int)^(64*1)=18446744073709551616:=by decide
 have p2:(2:Int)^(64*2)=340282366920938463463374607431768211456:=by decide
 have p3:(2:Int)^(64*3)=6277101735386680763835789423207666416102355444464034512896:=by decide
 rw[p1,p2,p3]
 obtain⟨d0,q1,b0,b0',f0⟩:∃d q:Int,0<=d/\d<2251799813685248/\x=2251799813685248*q+d:=⟨x%2251799813685248,x/2251799813685248,by omega,by omega,by omega⟩
 obtain⟨d1,q2,b1,b1',f1⟩:∃d q:Int,0<=d/\d<2251799813685248/\q1=2251799813685248*q+d:=⟨q1%2251799813685248,q1/2251799813685248,by omega,by omega,by omega⟩
 obtain⟨d2,q3,b2,b2',f2⟩:∃d q:Int,0<=d/\d<2251799813685248/\q2=2251799813685248*q+d:=⟨q2%2251799813685248,q2/2251799813685248,by omega,by omega,by omega⟩
 obtain⟨d3,q4,b3,b3',f3⟩:∃d q:Int,0<=d/\d<2251799813685248/\q3=2251799813685248*q+d:=⟨q3%2251799813685248,q3/2251799813685248,by omega,by omega,by omega⟩
 have g1:x/2251799813685248=q1:=by omega
 have g2:q1/2251799813685248=q2:=by omega
 have g3:q2/2251799813685248=q3:=by omega
 have g4:q3/2251799813685248=q4:=by omega
 have m0:x%2251799813685248=d0:=by omega
 have m1:q1%2251799813685248=d1:=by omega
 have m2:q2%2251799813685248=d2:=by omega
 have m3:q3%2251799813685248=d3:=by omega
 simp only[g1,g2,g3,g4,m0,m1,m2,m3]
 have b4:0<=q4:=by omega
 have b4':q4<2251799813685248:=by omega
 have m4:q4%2251799813685248=q4:=by omega
 rw[m4]
 have w1:x/18446744073709551616=d1/8192+274877906944*q2:=by omega
 have w2:x/340282366920938463463374607431768211456=d2/67108864+33554432*q3:=by omega
 have w3:x/6277101735386680763835789423207666416102355444464034512896=d3/549755813888+4096*q4:=by omega
 rw[w1,w2,w3]
 refine⟨?_,?_,?_,?_⟩<;>omega
end
section
open Go.RowKit
theorem QV (a:Fe):(0<=(Fe.gI a).x0/\(Fe.gI a).x0<2251799813685248)/\(0<=(Fe.gI a).x1/\(Fe.gI a).x1<2251799813685248)/\(0<=(Fe.gI a).x2/\(Fe.gI a).x2<2251799813685248)/\
  (0<=(Fe.gI a).x3/\(Fe.gI a).x3<2251799813685248)/\(0<=(Fe.gI a).x4/\(Fe.gI a).x4<2251799813685248):=by
 unfold Fe.gI
 refine⟨⟨?_,?_⟩,⟨?_,?_⟩,⟨?_,?_⟩,⟨?_,?_⟩,?_,?_⟩<;>dsimp only<;>omega
theorem wE:(Tryz.prog.info? 166).map (·.size)=some 32:=by kernel_rfl
theorem Al (x:Int):(dz x).toArray.all (·.oneCell')=true:=by
 simp[dz,rM,Value.oneCell']
abbrev JO (w:World) (r:Fe) (w':World):Prop:=aF w' w.heap.size 66 [.int .u64 r.x0,.int .u64 r.x1,.int .u64 r.x2,.int .u64 r.x3,.int .u64 r.x4]/\w'.cell? ⟨w.heap.size,0,none⟩=some (.int .u64 r.x0)/\w'.cell? ⟨w.heap.size,1,none⟩=some (.int .u64 r.x1)/\w'.cell? ⟨w.heap.size,2,none⟩=some (.int .u64 r.x2)/\w'.cell? ⟨w.heap.size,3,none⟩=some (.int .u64 r.x3)/\w'.cell? ⟨w.heap.size,4,none⟩=some (.int .u64 r.x4)
theorem wF {w w':World} {r:Fe} (h:aF w' w.heap.size 66 [.int .u64 r.x0,.int .u64 r.x1,.int .u64 r.x2,.int .u64 r.x3,.int .u64 r.x4]):JO w r w':=⟨h,h.cell (i:=0) rfl,h.cell (i:=1) rfl,h.cell (i:=2) rfl,h.cell (i:=3) rfl,h.cell (i:=4) rfl⟩
theorem tX {w w1 w2:World} {r:Fe} {B:Nat} (hg:w1.grownBy w2 (some B)) (hne:w.heap.size≠B) (h:JO w r w1):JO w r w2:=wF (h.1.grown hg (bJ hne))
set_option maxRecDepth 100000 in
set_option maxHeartbeats 1600000 in
theorem sD (a:Fe) (w:World) (ha:a.Ok):
  Calls Tryz.prog 107 #[.agg #[.int .u64 a.x0,.int .u64 a.x1,.int .u64 a.x2,.int .u64 a.x3,.int .u64 a.x4]] w fun e w'=>e=.returned (.agg (dz (Fe.m a)).toArray)/\w.grownBy w' none:=by
 have hg0:∀c0 c1,w.grownBy ((w.alloc c0).alloc c1) none:=fun c0 c1=>au (au (ah _ _) _) _
 go_enter Tryz.func107,Tryz.ntmps107
 go_wp2_with (go_at_call 135;refine (NV a _ ha).mono ?_;rintro e w1 ⟨r,hr,rfl,hg1⟩;have hg2:=aj (hg0 _ _) hg1;have hA1:=aF.grown (aF.alloc (aF.new w [.int .u64 a.x0,.int .u64 a.x1,.int .u64 a.x2,.int .u64 a.x3,.int .u64 a.x4] 66) _) hg1 (by simp);have z0:=hA1.cell (i:=0) rfl;have z1:=hA1.cell (i:=1) rfl;have z2:=hA1.cell (i:=2) rfl;have z3:=hA1.cell (i:=3) rfl;have z4:=hA1.cell (i:=4) rfl;have y0:=hA1.free 0;have y1:=hA1.free 1;have y2:=hA1.free 2;have y3:=hA1.free 3;have y4:=hA1.free 4)
 have hlt1:w.heap.size+1<w1.heap.size:=by have:=hg1.size;simp at this;omega
 have hA2:aF ((((((w1.setCell ⟨w.heap.size,0,none⟩ (.int .u64 r.x0)).setCell ⟨w.heap.size,1,none⟩ (.int .u64 r.x1)).setCell ⟨w.heap.size,2,none⟩ (.int .u64 r.x2)).setCell ⟨w.heap.size,3,none⟩ (.int .u64 r.x3)).setCell ⟨w.heap.size,4,none⟩ (.int .u64 r.x4)).alloc (.cells #[.int .u8 0,.int .u8 0,.int .u8 0,.int .u8 0,.int .u8 0,.int .u8 0,.int .u8 0,.int .u8 0,.int .u8 0,.int .u8 0,.int .u8 0,.int .u8 0,.int .u8 0,.int .u8 0,.int .u8 0,.int .u8 0,.int .u8 0,.int .u8 0,.int .u8 0,.int .u8 0,.int .u8 0,.int .u8 0,.int .u8 0,.int .u8 0,.int .u8 0,.int .u8 0,.int .u8 0,.int .u8 0,.int .u8 0,.int .u8 0,.int .u8 0,.int .u8 0] 166)) w.heap.size 66 [.int .u64 r.x0,.int .u64 r.x1,.int .u64 r.x2,.int .u64 r.x3,.int .u64 r.x4]:=aF.alloc (fQ.sw ⟨_,_,_,_,_,hA1⟩ _ _ _ _ _) _
 have hC2:aF ((((((w1.setCell ⟨w.heap.size,0,none⟩ (.int .u64 r.x0)).setCell ⟨w.heap.size,1,none⟩ (.int .u64 r.x1)).setCell ⟨w.heap.size,2,none⟩ (.int .u64 r.x2)).setCell ⟨w.heap.size,3,none⟩ (.int .u64 r.x3)).setCell ⟨w.heap.size,4,none⟩ (.int .u64 r.x4)).alloc (.cells #[.int .u8 0,.int .u8 0,.int .u8 0,.int .u8 0,.int .u8 0,.int .u8 0,.int .u8 0,.int .u8 0,.int .u8 0,.int .u8 0,.int .u8 0,.int .u8 0,.int .u8 0,.int .u8 0,.int .u8 0,.int .u8 0,.int .u8 0,.int .u8 0,.int .u8 0,.int .u8 0,.int .u8 0,.int .u8 0,.int .u8 0,.int .u8 0,.int .u8 0,.int .u8 0,.int .u8 0,.int .u8 0,.int .u8 0,.int .u8 0,.int .u8 0,.int .u8 0] 166)) w1.heap.size 166 lT:=aF.newAt _ lT _ (by simp)
 have hR2:aF ((((((w1.setCell ⟨w.heap.size,0,none⟩ (.int .u64 r.x0)).setCell ⟨w.heap.size,1,none⟩ (.int .u64 r.x1)).setCell ⟨w.heap.size,2,none⟩ (.int .u64 r.x2)).setCell ⟨w.heap.size,3,none⟩ (.int .u64 r.x3)).setCell ⟨w.heap.size,4,none⟩ (.int .u64 r.x4)).alloc (.cells #[.int .u8 0,.int .u8 0,.int .u8 0,.int .u8 0,.int .u8 0,.int .u8 0,.int .u8 0,.int .u8 0,.int .u8 0,.int .u8 0,.int .u8 0,.int .u8 0,.int .u8 0,.int .u8 0,.int .u8 0,.int .u8 0,.int .u8 0,.int .u8 0,.int .u8 0,.int .u8 0,.int .u8 0,.int .u8 0,.int .u8 0,.int .u8 0,.int .u8 0,.int .u8 0,.int .u8 0,.int .u8 0,.int .u8 0,.int .u8 0,.int .u8 0,.int .u8 0] 166)) (w.heap.size+1) 166 lT:=aF.alloc ((((((aF.grown (aF.newAt (w.alloc _) lT _ (by simp)) hg1 (by simp)).other (by simp) _).other (by simp) _).other (by simp) _).other (by simp) _).other (by simp) _) _
 have hg3:w.grownBy ((((((w1.setCell ⟨w.heap.size,0,none⟩ (.int .u64 r.x0)).setCell ⟨w.heap.size,1,none⟩ (.int .u64 r.x1)).setCell ⟨w.heap.size,2,none⟩ (.int .u64 r.x2)).setCell ⟨w.heap.size,3,none⟩ (.int .u64 r.x3)).setCell ⟨w.heap.size,4,none⟩ (.int .u64 r.x4)).alloc (.cells #[.int .u8 0,.int .u8 0,.int .u8 0,.int .u8 0,.int .u8 0,.int .u8 0,.int .u8 0,.int .u8 0,.int .u8 0,.int .u8 0,.int .u8 0,.int .u8 0,.int .u8 0,.int .u8 0,.int .u8 0,.int .u8 0,.int .u8 0,.int .u8 0,.int .u8 0,.int .u8 0,.int .u8 0,.int .u8 0,.int .u8 0,.int .u8 0,.int .u8 0,.int .u8 0,.int .u8 0,.int .u8 0,.int .u8 0,.int .u8 0,.int .u8 0,.int .u8 0] 166)) none:=au (jD hg2 (Nat.le_refl _) _ _ _ _ _) _
 revert hA2 hC2 hR2 hg3
 clear hA1 z0 z1 z2 z3 z4 y0 y1 y2 y3 y4
 generalize ((((((w1.setCell ⟨w.heap.size,0,none⟩ (.int .u64 r.x0)).setCell ⟨w.heap.size,1,none⟩ (.int .u64 r.x1)).setCell ⟨w.heap.size,2,none⟩ (.int .u64 r.x2)).setCell ⟨w.heap.size,3,none⟩ (.int .u64 r.x3)).setCell ⟨w.heap.size,4,none⟩ (.int .u64 r.x4)).alloc (.cells #[.int .u8 0,.int .u8 0,.int .u8 0,.int .u8 0,.int .u8 0,.int .u8 0,.int .u8 0,.int .u8 0,.int .u8 0,.int .u8 0,.int .u8 0,.int .u8 0,.int .u8 0,.int .u8 0,.int .u8 0,.int .u8 0,.int .u8 0,.int .u8 0,.int .u8 0,.int .u8 0,.int .u8 0,.int .u8 0,.int .u8 0,.int .u8 0,.int .u8 0,.int .u8 0,.int .u8 0,.int .u8 0,.int .u8 0,.int .u8 0,.int .u8 0,.int .u8 0] 166))=W2
 obtain⟨C,hC⟩:∃C,C=w1.heap.size:=⟨_,rfl⟩
 rw[<- hC]at hlt1
 rw[<- hC]
 clear hg1 hg2 hC
 intro hA2 hC2 hR2 hg3
 obtain⟨⟨p00,p01⟩,⟨p10,p11⟩,⟨p20,p21⟩,⟨p30,p31⟩,p40,p41⟩:=QV a
 have X8:=FZ a
 rw[<- hr.out]at p00 p01 p10 p11 p20 p21 p30 p31 p40 p41 X8
 have HW:=Lib.hid X8;clear X8
 have JQ:w.heap.size≠C:=by omega
 have UU:w.heap.size+1≠C:=by omega
 have hS0:JO w r W2.drew:=wF hA2.drew
 have K0:=Lib.hid (vk r.x0 r.x1 51 2251799813685248 8192 (by decide) (by decide) p00 p01 (by decide))
 have K1:=Lib.hid (vk (r.x1/8192) r.x2 38 274877906944 67108864 (by decide) (by decide) (by omega) (by omega) (by decide))
 have K2:=Lib.hid (vk (r.x2/67108864) r.x3 25 33554432 549755813888 (by decide) (by decide) (by omega) (by omega) (by decide))
 have K3:=Lib.hid (vk (r.x3/549755813888) r.x4 12 4096 4503599627370496 (by decide) (by decide) (by omega) (by omega) (by decide))
 go_region_held3 (fun w'=>aF w' w.heap.size 66 [.int .u64 r.x0,.int .u64 r.x1,.int .u64 r.x2,.int .u64 r.x3,.int .u64 r.x4]/\w'.cell? ⟨w.heap.size,0,none⟩=some (.int .u64 r.x0)/\w'.cell? ⟨w.heap.size,1,none⟩=some (.int .u64 r.x1)/\w'.cell? ⟨w.heap.size,2,none⟩=some (.int .u64 r.x2)/\w'.cell? ⟨w.heap.size,3,none⟩=some (.int .u64 r.x3)/\w'.cell? ⟨w.heap.size,4,none⟩=some (.int .u64 r.x4))
  (first|(with_reducible exact hS0)|(with_reducible exact tX (by assumption) JQ (by assumption)))
  (first|(go_simp;go_at_call 136;refine (oU C 0 32 32 166 _ _ _ (by decide) (by decide) hC2.drew).mono ?_;rintro e v1 ⟨rfl,ge1,hd1⟩))
 rw[K0.out,HW.out.1]at hd1
 have hA3:=(hA2.drew).grown ge1 (bJ JQ)
 have LP:=(hR2.drew).grown ge1 (bJ UU)
 have hg4:=aW (aX hg3) ge1 (by omega)
 have hS1:JO w r v1.drew:=wF hA3.drew
 clear ge1 hS0 hA2 hR2 hg3 hC2
 go_wp2
 go_region_held3 (fun w'=>aF w' w.heap.size 66 [.int .u64 r.x0,.int .u64 r.x1,.int .u64 r.x2,.int .u64 r.x3,.int .u64 r.x4]/\w'.cell? ⟨w.heap.size,0,none⟩=some (.int .u64 r.x0)/\w'.cell? ⟨w.heap.size,1,none⟩=some (.int .u64 r.x1)/\w'.cell? ⟨w.heap.size,2,none⟩=some (.int .u64 r.x2)/\w'.cell? ⟨w.heap.size,3,none⟩=some (.int .u64 r.x3)/\w'.cell? ⟨w.heap.size,4,none⟩=some (.int .u64 r.x4))
  (first|(with_reducible exact hS1)|(with_reducible exact tX (by assumption) JQ (by assumption)))
  (first|(go_simp;go_at_call 136;refine (oU C 8 24 24 166 _ _ _ (by decide) (by simp only[fP];decide) hd1.drew).mono ?_;rintro e v2 ⟨rfl,ge2,hd2⟩))
 rw[K1.out,HW.out.2.1]at hd2
 have UW:=(hA3.drew).grown ge2 (bJ JQ)
 have JR:=(LP.drew).grown ge2 (bJ UU)
 have hg5:=aW (aX hg4) ge2 (by omega)
 have hS2:JO w r v2.drew:=wF UW.drew
 clear ge2 hS1 hA3 LP hg4 hd1
 go_wp2
 go_region_held3 (fun w'=>aF w' w.heap.size 66 [.int .u64 r.x0,.int .u64 r.x1,.int .u64 r.x2,.int .u64 r.x3,.int .u64 r.x4]/\w'.cell? ⟨w.heap.size,0,none⟩=some (.int .u64 r.x0)/\w'.cell? ⟨w.heap.size,1,none⟩=some (.int .u64 r.x1)/\w'.cell? ⟨w.heap.size,2,none⟩=some (.int .u64 r.x2)/\w'.cell? ⟨w.heap.size,3,none⟩=some (.int .u64 r.x3)/\w'.cell? ⟨w.heap.size,4,none⟩=some (.int .u64 r.x4))
  (first|(with_reducible exact hS2)|(with_reducible exact tX (by assumption) JQ (by assumption)))
  (first|(go_simp;go_at_call 136;refine (oU C 16 16 16 166 _ _ _ (by decide) (by simp only[fP];decide) hd2.drew).mono ?_;rintro e v3 ⟨rfl,ge3,hd3⟩))
 rw[K2.out,HW.out.2.2.1]at hd3
 have hA5:=(UW.drew).grown ge3 (bJ JQ)
 have Jw:=(JR.drew).grown ge3 (bJ UU)
 have uS:=aW (aX hg5) ge3 (by omega)
 have Xc:JO w r v3.drew:=wF hA5.drew
 clear ge3 hS2 UW JR hg5 hd2
 go_wp2
 go_region_held3 (fun w'=>aF w' w.heap.size 66 [.int .u64 r.x0,.int .u64 r.x1,.int .u64 r.x2,.int .u64 r.x3,.int .u64 r.x4]/\w'.cell? ⟨w.heap.size,0,none⟩=some (.int .u64 r.x0)/\w'.cell? ⟨w.heap.size,1,none⟩=some (.int .u64 r.x1)/\w'.cell? ⟨w.heap.size,2,none⟩=some (.int .u64 r.x2)/\w'.cell? ⟨w.heap.size,3,none⟩=some (.int .u64 r.x3)/\w'.cell? ⟨w.heap.size,4,none⟩=some (.int .u64 r.x4))
  (first|(with_reducible exact Xc)|(with_reducible exact tX (by assumption) JQ (by assumption)))
  (first|(go_simp;go_at_call 136;refine (oU C 24 8 8 166 _ _ _ (by decide) (by simp only[fP];decide) hd3.drew).mono ?_;rintro e v4 ⟨rfl,ge4,hd4⟩))
 rw[K3.out,HW.out.2.2.2,JN]at hd4
 have hR6:=(Jw.drew).grown ge4 (bJ UU)
 have JU:=aW (aX uS) ge4 (by omega)
 clear ge4 Xc hA5 Jw uS hd3 K0 K1 K2 K3
 obtain⟨X,hX⟩:∃X,X=dz (Fe.m a):=⟨_,rfl⟩
 rw[<- hX]at hd4
 have hXl:X.length=32:=by rw[hX];rfl
 have hX1:X.toArray.all (·.oneCell')=true:=by rw[hX];exact Al _
 have HX:=Lib.hid (And.intro hX (And.intro hXl hX1));clear hX hXl hX1
 have HM:=Lib.hid (And.intro hd4 hR6);clear hd4 hR6
 go_wp2_with (first
  | (refine wpList_load_row rfl 166 (.tmp 3) rfl C rfl 166 X.toArray (0,0) _ HM.out.1 Tryz.underlying166 rfl (by rw[List.size_toArray,HX.out.2.1];exact wE) ?_)
  | (refine wpList_store_row rfl 166 (.tmp 2) (.tmp 41) rfl (w.heap.size+1) X.toArray rfl rfl 166 lT.toArray HM.out.2 (by rw[List.size_toArray,HX.out.2.1];exact wE) (by rw[List.size_toArray,List.size_toArray,HX.out.2.1];rfl) HX.out.2.2 ?_))
 refine bodyPost_ret (v:=.agg X.toArray) ?_ rfl ⟨by rw[HX.out.1],qd JU (by omega) _⟩
 exact results_cell_row Tryz.results107 _ _ (w.heap.size+1) 166 X.toArray (0,0) _ rfl (HM.out.2.row X) Tryz.underlying166 rfl (by rw[List.size_toArray,HX.out.2.1];exact wE)
end
section
open Go.RowKit
theorem xY {P:Program} (w:World) (d:Nat) {e:TypeId} {k:IntKind} (he:P.plainKey e=true) (hu:P.underlying e=some (.int k)) (f g:Nat->Int) (xs ys:Array Value) (is:List Nat)
    (hx:∀i∈is,xs[i*1]?=some (.int k (f i))) (hy:∀i∈is,ys[i*1]?=some (.int k (g i))):(Op.eqItems (d+1) e 1 xs ys is).run P w=.ok (is.all fun i=>f i==g i) w:=by
  induction is with
  | nil=>simp[Op.eqItems]
  | cons i r ih=>
    have h1:=run_part_plain w he (hx i (List.mem_cons_self ..))
    have h2:=run_part_plain w he (hy i (List.mem_cons_self ..))
    simp only[Op.eqItems,Sem.run_bind,h1,h2,Result.andThen_ok,run_equalIn_int w d e k k (f i) (g i) hu,List.all_cons]
    cases hfg:f i==g i
    . simp
    . simpa using ih (fun j hj=>hx j (List.mem_cons_of_mem _ hj)) (fun j hj=>hy j (List.mem_cons_of_mem _ hj))
theorem yS (n:Nat):∀x y:Int,0<=x->0<=y->x<2^(8*n)->y<2^(8*n)->(∀i,i<n->x/2^(8*i)%256=y/2^(8*i)%256)->x=y:=by
  induction n with
  | zero=>intro x y h0 k0 h1 k1 _;simp at h1 k1;omega
  | succ n ih=>
    intro x y h0 k0 h1 k1 h
    have e:(2:Int)^(8*(n+1))=256*2^(8*n):=by rw[show 8*(n+1)=8*n+8 by omega,Int.pow_add];omega
    rw[e]at h1 k1
    have hd:x/256=y/256:=ih _ _ (by omega) (by omega) (by omega) (by omega) fun i hi=>by
      have:=h (i+1) (by omega)
      have e2:(2:Int)^(8*(i+1))=256*2^(8*i):=by rw[show 8*(i+1)=8*i+8 by omega,Int.pow_add];omega
      rw[e2,<- Int.ediv_ediv_of_nonneg (by decide),<- Int.ediv_ediv_of_nonneg (by decide)]at this
      exact this
    have hm:=h 0 (by omega)
    simp at hm
    omega
theorem JV (x y:Int) (h0:0<=x) (k0:0<=y) (h1:x<2^256) (k1:y<2^256):
    ((List.range 32).all fun i=>(x/2^(8*i)%256==y/2^(8*i)%256))=decide (x=y):=by
  rw[Bool.eq_iff_iff,List.all_eq_true,decide_eq_true_iff]
  constructor
  . intro h
    exact yS 32 x y h0 k0 h1 k1 fun i hi=>by simpa using h i (List.mem_range.2 hi)
  . rintro rfl i _;simp
theorem lI (x:Int) (i:Nat) (h:i<32):(dz x)[i]?=some (rM x i):=by
  unfold dz;rw[List.getElem?_map,List.getElem?_range h];rfl
theorem qF:∃i,Tryz.prog.info? 5=some i:=by
  cases h:Tryz.prog.info? 5 with
  | none=>exact absurd h (by
                               have:(Tryz.prog.info? 5).isSome=true:=by kernel_rfl
                               intro e;rw[e]at this;cases this)
  | some i=>exact⟨i,rfl⟩
theorem NY (x y:Int) (h0:0<=x) (k0:0<=y) (h1:x<2^256) (k1:y<2^256) (w:World):
    (binOp .eql 166 (.agg (dz x).toArray) (.agg (dz y).toArray)).run Tryz.prog w=.ok (.bool (decide (x=y))) w:=by
  obtain⟨j,hj⟩:=qF
  have hc:Tryz.prog.cellsOf 5=1:=by kernel_rfl
  rw[run_eql_struct,run_equalIn_array w 9999 _ _ Tryz.underlying166 hj,hc,
    xY w 9998 (by kernel_rfl) Tryz.underlying5 (fun i=>x/2^(8*i)%256) (fun i=>y/2^(8*i)%256) _ _ _
      (fun i hi=>by rw[Nat.mul_one,List.getElem?_toArray];exact lI x i (List.mem_range.1 hi)) (fun i hi=>by rw[Nat.mul_one,List.getElem?_toArray];exact lI y i (List.mem_range.1 hi)),
    JV x y h0 k0 h1 k1]
  rfl
theorem LQ (a:Fe):(Fe.m a:Int)<2^256:=by
  have:=(NW a).2
  have e:(2:Int)^256=115792089237316195423570985008687907853269984665640564039457584007913129639936:=by decide
  omega
abbrev QW (w:World) (a b:Fe) (w':World):Prop:=aF w' w.heap.size 66 [.int .u64 a.x0,.int .u64 a.x1,.int .u64 a.x2,.int .u64 a.x3,.int .u64 a.x4]/\aF w' (w.heap.size+1) 66 [.int .u64 b.x0,.int .u64 b.x1,.int .u64 b.x2,.int .u64 b.x3,.int .u64 b.x4]/\w.grownBy w' none/\w'.cell? ⟨w.heap.size,0,none⟩=some (.int .u64 a.x0)/\w'.cell? ⟨w.heap.size,1,none⟩=some (.int .u64 a.x1)/\w'.cell? ⟨w.heap.size,2,none⟩=some (.int .u64 a.x2)/\w'.cell? ⟨w.heap.size,3,none⟩=some (.int .u64 a.x3)/\w'.cell? ⟨w.heap.size,4,none⟩=some (.int .u64 a.x4)/\w'.cell? ⟨w.heap.size+1,0,none⟩=some (.int .u64 b.x0)/\w'.cell? ⟨w.heap.size+1,1,none⟩=some (.int .u64 b.x1)/\w'.cell? ⟨w.heap.size+1,2,none⟩=some (.int .u64 b.x2)/\w'.cell? ⟨w.heap.size+1,3,none⟩=some (.int .u64 b.x3)/\w'.cell? ⟨w.heap.size+1,4,none⟩=some (.int .u64 b.x4)
theorem LU {w w':World} {a b:Fe} (hA:aF w' w.heap.size 66 [.int .u64 a.x0,.int .u64 a.x1,.int .u64 a.x2,.int .u64 a.x3,.int .u64 a.x4]) (hB:aF w' (w.heap.size+1) 66 [.int .u64 b.x0,.int .u64 b.x1,.int .u64 b.x2,.int .u64 b.x3,.int .u64 b.x4]) (hg:w.grownBy w' none):QW w a b w':=
  ⟨hA,hB,hg,hA.cell (i:=0) rfl,hA.cell (i:=1) rfl,hA.cell (i:=2) rfl,hA.cell (i:=3) rfl,hA.cell (i:=4) rfl,hB.cell (i:=0) rfl,hB.cell (i:=1) rfl,hB.cell (i:=2) rfl,hB.cell (i:=3) rfl,hB.cell (i:=4) rfl⟩
theorem NZ {w w1 w2:World} {a b:Fe} (hg:w1.grownBy w2 none) (h:QW w a b w1):QW w a b w2:=
  LU (h.1.grown hg (by simp)) (h.2.1.grown hg (by simp)) (aj h.2.2.1 hg)
set_option maxRecDepth 100000 in
set_option maxHeartbeats 1600000 in
theorem Am (a b:Fe) (w:World) (ha:a.Ok) (hb:b.Ok):
    Calls Tryz.prog 118 #[.agg #[.int .u64 a.x0,.int .u64 a.x1,.int .u64 a.x2,.int .u64 a.x3,.int .u64 a.x4],.agg #[.int .u64 b.x0,.int .u64 b.x1,.int .u64 b.x2,.int .u64 b.x3,.int .u64 b.x4]] w fun e w'=>e=.returned (.bool (decide (Fe.m a=Fe.m b)))/\w.grownBy w' none:=by
  have hE:=NY (Fe.m a) (Fe.m b) (NW a).1 (NW b).1 (LQ a) (LQ b)
  have hq:decide ((Fe.m a:Int)=(Fe.m b:Int))=decide (Fe.m a=Fe.m b):=by
    rw[Bool.eq_iff_iff,decide_eq_true_iff,decide_eq_true_iff];omega
  rw[hq]at hE
  clear hq
  go_enter Tryz.func118,Tryz.ntmps118
  go_wp2
  have hS0:QW w a b ((w.alloc (.cells #[.int .u64 a.x0,.int .u64 a.x1,.int .u64 a.x2,.int .u64 a.x3,.int .u64 a.x4] 66)).alloc (.cells #[.int .u64 b.x0,.int .u64 b.x1,.int .u64 b.x2,.int .u64 b.x3,.int .u64 b.x4] 66)).drew:=
    LU ((aF.new w [.int .u64 a.x0,.int .u64 a.x1,.int .u64 a.x2,.int .u64 a.x3,.int .u64 a.x4] _).alloc _).drew (aF.newAt (w.alloc _) [.int .u64 b.x0,.int .u64 b.x1,.int .u64 b.x2,.int .u64 b.x3,.int .u64 b.x4] _ (by simp)).drew (aX (au (au (ah _ _) _) _))
  revert hS0
  generalize (w.alloc (.cells #[.int .u64 a.x0,.int .u64 a.x1,.int .u64 a.x2,.int .u64 a.x3,.int .u64 a.x4] 66)).alloc (.cells #[.int .u64 b.x0,.int .u64 b.x1,.int .u64 b.x2,.int .u64 b.x3,.int .u64 b.x4] 66)=W0
  intro hS0
  go_region_held3 (fun w'=>aF w' w.heap.size 66 [.int .u64 a.x0,.int .u64 a.x1,.int .u64 a.x2,.int .u64 a.x3,.int .u64 a.x4]/\aF w' (w.heap.size+1) 66 [.int .u64 b.x0,.int .u64 b.x1,.int .u64 b.x2,.int .u64 b.x3,.int .u64 b.x4]/\w.grownBy w' none/\w'.cell? ⟨w.heap.size,0,none⟩=some (.int .u64 a.x0)/\w'.cell? ⟨w.heap.size,1,none⟩=some (.int .u64 a.x1)/\w'.cell? ⟨w.heap.size,2,none⟩=some (.int .u64 a.x2)/\w'.cell? ⟨w.heap.size,3,none⟩=some (.int .u64 a.x3)/\w'.cell? ⟨w.heap.size,4,none⟩=some (.int .u64 a.x4)/\w'.cell? ⟨w.heap.size+1,0,none⟩=some (.int .u64 b.x0)/\w'.cell? ⟨w.heap.size+1,1,none⟩=some (.int .u64 b.x1)/\w'.cell? ⟨w.heap.size+1,2,none⟩=some (.int .u64 b.x2)/\w'.cell? ⟨w.heap.size+1,3,none⟩=some (.int .u64 b.x3)/\w'.cell? ⟨w.heap.size+1,4,none⟩=some (.int .u64 b.x4))
    (first|(with_reducible exact hS0)|(with_reducible exact NZ (by assumption) (by assumption)))
    (first|(go_simp;go_at_call 107;refine (sD _ _ ?_).mono ?_;assumption;rintro e w1 ⟨rfl,hg1⟩))
  go_wp2
  clear hE
  go_ret
  refine⟨rfl,?_⟩
  with_reducible exact (show QW w a b _ from (by assumption)).2.2.1
theorem X9:Fe.m ⟨0,0,0,0,0⟩=0:=by decide +kernel
theorem UY:Fe.Ok ⟨0,0,0,0,0⟩:=by constructor<;>decide
set_option maxHeartbeats 400000 in
theorem QX (a:Fe) (w:World) (ha:a.Ok):
    Calls Tryz.prog 154 #[.agg #[.int .u64 a.x0,.int .u64 a.x1,.int .u64 a.x2,.int .u64 a.x3,.int .u64 a.x4]] w fun e w'=>e=.returned (.bool (decide (Fe.m a=0)))/\w.grownBy w' none:=by
  have hg0:∀c0,w.grownBy (w.alloc c0) none:=fun c0=>au (ah _ _) _
  go_enter Tryz.func154,Tryz.ntmps154
  go_wp2_with (go_at_call 118;refine (Am a ⟨0,0,0,0,0⟩ _ ha UY).mono ?_;rintro e w1 ⟨rfl,hg1⟩)
  go_ret
  exact⟨by rw[X9];rfl,aj (hg0 _) hg1⟩
theorem QY (x:Int) (_:0<=x):(bits .and .u8 (x%256) 1==1)=decide (x%2=1):=by
  have all:∀j:Fin 256,(bits .and .u8 (j.val:Int) 1==1)=decide ((j.val:Int)%2=1):=by decide +kernel
  obtain⟨n,hn⟩:=Int.eq_ofNat_of_zero_le (show 0<=x%256 by omega)
  have h1:(bits .and .u8 (n:Int) 1==1)=decide ((n:Int)%2=1):=all ⟨n,by omega⟩
  have e:(n:Int)%2=x%2:=by omega
  rw[hn,h1,e]
set_option maxHeartbeats 400000 in
theorem UZ (a:Fe) (w:World) (ha:a.Ok):
    Calls Tryz.prog 83 #[.agg #[.int .u64 a.x0,.int .u64 a.x1,.int .u64 a.x2,.int .u64 a.x3,.int .u64 a.x4]] w fun e w'=>e=.returned (.bool (decide (Fe.m a%2=1)))/\w.grownBy w' none:=by
  have hg0:∀c0,w.grownBy (w.alloc c0) none:=fun c0=>au (ah _ _) _
  have hi:∀w,(Instr.index 166 (.agg (dz (Fe.m a)).toArray) (.int .i64 0)).run Tryz.prog w=.ok (.int .u8 ((Fe.m a:Int)/1%256)) w:=fun _=>by kernel_rfl
  simp only[Int.ediv_one]at hi
  have ho:=QY (Fe.m a) (NW a).1
  go_enter Tryz.func83,Tryz.ntmps83
  go_wp2_with (go_at_call 107;refine (sD a _ ha).mono ?_;rintro e w1 ⟨rfl,hg1⟩)
  clear ho hi
  go_ret
  refine⟨?_,aj (hg0 _) hg1⟩
  have e:decide ((Fe.m a:Int)%2=1)=decide (Fe.m a%2=1):=by
    rw[Bool.eq_iff_iff,decide_eq_true_iff,decide_eq_true_iff];omega
  rw[<- e];rfl
set_option maxHeartbeats 400000 in
theorem zH (a:Fe) (w:World) (ha:a.Ok):
    Calls Tryz.prog 81 #[.agg #[.int .u64 a.x0,.int .u64 a.x1,.int .u64 a.x2,.int .u64 a.x3,.int .u64 a.x4]] w fun e w'=>∃NB,e=.returned (.slice (some ⟨NB,0,none⟩) 32 32)/\w.grownBy w' none/\w.heap.size<=NB/\aF w' NB 166 (dz (Fe.m a)):=by
  have hg0:∀c0,w.grownBy (w.alloc c0) none:=fun c0=>au (ah _ _) _
  obtain⟨X,hX⟩:∃X,X=dz (Fe.m a):=⟨_,rfl⟩
  have hXl:X.length=32:=by rw[hX];rfl
  have hX1:X.toArray.all (·.oneCell')=true:=by rw[hX];exact Al _
  have HX:=Lib.hid (And.intro hX (And.intro hXl hX1));clear hX hXl hX1
  go_enter Tryz.func81,Tryz.ntmps81
  go_wp2_with fail
  refine (sD a _ ha).mono ?_
  rintro e w1 ⟨rfl,hg1⟩
  rw[<- HX.out.1]
  go_wp2_with (refine wpList_store_row rfl 166 (.tmp 3) (.tmp 5) rfl w1.heap.size X.toArray rfl rfl 166 lT.toArray (aF.new w1 lT 166) (by rw[List.size_toArray,HX.out.2.1];exact wE) (by rw[List.size_toArray,List.size_toArray,HX.out.2.1];rfl) HX.out.2.2 ?_)
  have hb:=(aF.new w1 lT 166).row X
  rw[HX.out.1]at hb
  go_ret
  exact⟨w1.heap.size,rfl,qd (au (aj (hg0 _) hg1) _) (Nat.le_trans (hg0 (.cells #[] 0)).size (Nat.le_trans (by simp) hg1.size)) _,by have:=hg1.size;simp at this;omega,by rw[HX.out.1];exact hb⟩
end
section
open Go.RowKit
theorem lJ (a b:Fe) (w:World) (ha:a.Ok) (hb:b.Ok):Calls Tryz.prog 82 #[.agg #[.int .u64 a.x0,.int .u64 a.x1,.int .u64 a.x2,.int .u64 a.x3,.int .u64 a.x4],.agg #[.int .u64 b.x0,.int .u64 b.x1,.int .u64 b.x2,.int .u64 b.x3,.int .u64 b.x4]] w (nU (Fe.aM a b) w):=
 UO a.x0 a.x1 a.x2 a.x3 a.x4 b.x0 b.x1 b.x2 b.x3 b.x4 w ha.n0 ha.l0 ha.n1 ha.l1 ha.n2 ha.l2 ha.n3 ha.l3 ha.n4 ha.l4 hb.n0 hb.l0 hb.n1 hb.l1 hb.n2 hb.l2 hb.n3 hb.l3 hb.n4 hb.l4
theorem wG (a:Fe) (w:World) (ha:a.Ok):Calls Tryz.prog 105 #[.agg #[.int .u64 a.x0,.int .u64 a.x1,.int .u64 a.x2,.int .u64 a.x3,.int .u64 a.x4]] w (nU (Fe.cZ a) w):=
 X5 a.x0 a.x1 a.x2 a.x3 a.x4 w ha.n0 ha.l0 ha.n1 ha.l1 ha.n2 ha.l2 ha.n3 ha.l3 ha.n4 ha.l4
def QZ:Nat->Fe->Fe
 | 0,p=>p
 | n+1,p=>Fe.cZ (QZ n p)
theorem Ya {p:Fe} (h:p.Ok) (n:Nat):(QZ n p).Ok:=by
 cases n with
 | zero=>exact h
 | succ n=>exact (Fe.dR _).ok
def lZ (n:Nat) (p b:Fe):Fe:=Fe.aM (QZ n p) b
def aR (a:Fe):List Value:=[.int .u64 a.x0,.int .u64 a.x1,.int .u64 a.x2,.int .u64 a.x3,.int .u64 a.x4]
set_option maxHeartbeats 400000 in
theorem JW (a:Fe) (w:World):
  Calls Tryz.prog 134 #[.agg #[.int .u64 a.x0,.int .u64 a.x1,.int .u64 a.x2,.int .u64 a.x3,.int .u64 a.x4]] w fun e w'=>e=.returned (.func (.func 150) #[] #[.pointer (some ⟨w.heap.size+1,0,none⟩)])/\w.grownBy w' none/\aF w' (w.heap.size+1) 66 (aR a):=by
 have hmf:∀(fn:Fn) (first cap:Array Value) (w:World),(Instr.makeFunc fn first cap).run Tryz.prog w=.ok (.func fn first cap) w:=fun _ _ _ _=>rfl
 go_enter Tryz.func134,Tryz.ntmps134
 go_wp2
 go_ret
 exact⟨rfl,au (au (ah _ _) _) _,aF.newAt (w.alloc _) (aR a) _ (by simp)⟩
set_option maxHeartbeats 1600000 in
theorem jr (C n:Nat) (p b:Fe) (w:World) (hn:n<=1000) (hp:p.Ok) (hb:b.Ok) (hC:aF w C 66 (aR p)):
  Calls Tryz.prog 150 #[.int .i64 n,.agg #[.int .u64 b.x0,.int .u64 b.x1,.int .u64 b.x2,.int .u64 b.x3,.int .u64 b.x4],.pointer (some ⟨C,0,none⟩)] w fun e w'=>∃r:Fe,Hid (r=lZ n p b)/\e=.returned (.agg #[.int .u64 r.x0,.int .u64 r.x1,.int .u64 r.x2,.int .u64 r.x3,.int .u64 r.x4])/\w.grownBy w' (some C)/\aF w' C 66 (aR r):=by
 have hlt:=hC.lt
 go_enter Tryz.func150,Tryz.ntmps150
 go_wp2
 go_loopw [7] (fun i wr=>∃k:Nat,k<=n/\i=.int .i64 k/\w.grownBy wr (some C)/\aF wr C 66 (aR (QZ k p))/\aF wr w.heap.size 66 (aR b)/\fQ wr (w.heap.size+1) 66) (fun i _=>n-(intOf i).toNat)
 case atStart=>exact⟨0,by omega,rfl,au (au (ah _ _) _) _,(hC.alloc _).alloc _,(aF.new w (aR b) _).alloc _,⟨_,_,_,_,_,aF.newAt _ [.int .u64 0,.int .u64 0,.int .u64 0,.int .u64 0,.int .u64 0] _ (by simp)⟩⟩
 case round=>
  obtain⟨k,hk,rfl,hg,hP,hB,hR⟩:=hrel
  have hok:=Ya hp k
  by_cases hlt2:k<n
  .have hs:Hid (QZ (k+1) p=Fe.cZ (QZ k p)):=Lib.hid rfl
   obtain⟨q,hq⟩:∃q,q=QZ k p:=⟨_,rfl⟩
   rw[<- hq]at hP hok
   have HQ:=Lib.hid hq;clear hq
   have z0:=hP.cell (i:=0) rfl;have z1:=hP.cell (i:=1) rfl;have z2:=hP.cell (i:=2) rfl;have z3:=hP.cell (i:=3) rfl;have z4:=hP.cell (i:=4) rfl
   go_wp2_with (go_at_call 105;refine (wG q _ hok).mono ?_;rintro e w1 ⟨r,hr,rfl,hg1⟩;have hP1:=hP.grown hg1 (by simp);have y0:=hP1.cell (i:=0) rfl;have y1:=hP1.cell (i:=1) rfl;have y2:=hP1.cell (i:=2) rfl;have y3:=hP1.cell (i:=3) rfl;have y4:=hP1.cell (i:=4) rfl;have f0:=hP1.free 0;have f1:=hP1.free 1;have f2:=hP1.free 2;have f3:=hP1.free 3;have f4:=hP1.free 4)
   go_roundw
   case rel=>
    refine⟨k+1,by omega,by go_num,aQ (aQ (aQ (aQ (aQ (aj hg (fZ hg1 _)) _ _) _ _) _ _) _ _) _ _,?_,?_,?_⟩
    .have:=fQ.sw ⟨_,_,_,_,_,hP1⟩ (.int .u64 r.x0) (.int .u64 r.x1) (.int .u64 r.x2) (.int .u64 r.x3) (.int .u64 r.x4)
     rw[hs.out,<- HQ.out,<- hr.out]
     exact this
    .exact (((((hB.grown hg1 (by simp)).other (by simp;omega) _).other (by simp;omega) _).other (by simp;omega) _).other (by simp;omega) _).other (by simp;omega) _
    .exact bY (bY (bY (bY (bY (hR.grown hg1 (by simp)) (by simp;omega) _) (by simp;omega) _) (by simp;omega) _) (by simp;omega) _) (by simp;omega) _
   case measure=>simp[intOf];omega
  .obtain rfl:k=n:=by omega
   obtain⟨q,hq⟩:∃q,q=QZ k p:=⟨_,rfl⟩
   rw[<- hq]at hP hok
   have HQ:=Lib.hid hq;clear hq
   have z0:=hP.cell (i:=0) rfl;have z1:=hP.cell (i:=1) rfl;have z2:=hP.cell (i:=2) rfl;have z3:=hP.cell (i:=3) rfl;have z4:=hP.cell (i:=4) rfl
   have v0:=hB.cell (i:=0) rfl;have v1:=hB.cell (i:=1) rfl;have v2:=hB.cell (i:=2) rfl;have v3:=hB.cell (i:=3) rfl;have v4:=hB.cell (i:=4) rfl
   go_wp2_with (go_at_call 82;refine (lJ q b _ hok hb).mono ?_;rintro e w1 ⟨r,hr,rfl,hg1⟩;have hP1:=hP.grown hg1 (by simp);have y0:=hP1.cell (i:=0) rfl;have y1:=hP1.cell (i:=1) rfl;have y2:=hP1.cell (i:=2) rfl;have y3:=hP1.cell (i:=3) rfl;have y4:=hP1.cell (i:=4) rfl;have f0:=hP1.free 0;have f1:=hP1.free 1;have f2:=hP1.free 2;have f3:=hP1.free 3;have f4:=hP1.free 4;obtain⟨u0,u1,u2,u3,u4,kI⟩:=hR.grown hg1 (by simp);have t0:=kI.cell (i:=0) rfl;have t1:=kI.cell (i:=1) rfl;have t2:=kI.cell (i:=2) rfl;have t3:=kI.cell (i:=3) rfl;have t4:=kI.cell (i:=4) rfl;have g0:=kI.free 0;have g1:=kI.free 1;have g2:=kI.free 2;have g3:=kI.free 3;have g4:=kI.free 4)
   refine bodyPost_ret (v:=.agg #[.int .u64 r.x0,.int .u64 r.x1,.int .u64 r.x2,.int .u64 r.x3,.int .u64 r.x4]) ?_ rfl ⟨r,?_,rfl,?_,?_⟩
   .simp[results,Tryz.results150,go_sem,t0,t1,t2,t3,t4]
   .have e:=hr.out
    rw[HQ.out]at e
    exact e
   .exact aJ (aJ (aJ (aJ (aJ (aQ (aQ (aQ (aQ (aQ (aj hg (fZ hg1 _)) _ _) _ _) _ _) _ _) _ _) (by simp) _) (by simp) _) (by simp) _) (by simp) _) (by simp) _
   .exact (((((fQ.sw ⟨_,_,_,_,_,hP1⟩ (.int .u64 r.x0) (.int .u64 r.x1) (.int .u64 r.x2) (.int .u64 r.x3) (.int .u64 r.x4)).other (by simp;omega) _).other (by simp;omega) _).other (by simp;omega) _).other (by simp;omega) _).other (by simp;omega) _
end
section
open Go.RowKit
def LV (a:Fe):Fe:=lZ 1 a a
def Q0 (a:Fe):Fe:=lZ 2 (LV a) (LV a)
def LW (a:Fe):Fe:=lZ 1 (Q0 a) a
def F3 (a:Fe):Fe:=lZ 5 (LW a) (LW a)
def LX (a:Fe):Fe:=lZ 10 (F3 a) (F3 a)
def Q5 (a:Fe):Fe:=lZ 20 (LX a) (LX a)
def F4 (a:Fe):Fe:=lZ 10 (Q5 a) (F3 a)
def LY (a:Fe):Fe:=lZ 50 (F4 a) (F4 a)
def Q6 (a:Fe):Fe:=lZ 100 (LY a) (LY a)
def xZ (a:Fe):Fe:=lZ 50 (Q6 a) (F4 a)
theorem iU (n:Nat) (p b:Fe):(lZ n p b).Ok:=(Fe.mul_right _ _).ok
set_option maxRecDepth 100000 in
set_option maxHeartbeats 1600000 in
theorem wH (a:Fe) (w:World) (ha:a.Ok):
  Calls Tryz.prog 106 #[.agg #[.int .u64 a.x0,.int .u64 a.x1,.int .u64 a.x2,.int .u64 a.x3,.int .u64 a.x4]] w fun e w'=>∃(C:Nat) (r:Fe),Hid (r=xZ a)/\e=.returned (.func (.func 150) #[] #[.pointer (some ⟨C,0,none⟩)])/\w.grownBy w' none/\w.heap.size<=C/\aF w' C 66 (aR r):=by
 go_enter Tryz.func106,Tryz.ntmps106
 have Uv:aF (w.alloc (.cells #[.int .u64 a.x0,.int .u64 a.x1,.int .u64 a.x2,.int .u64 a.x3,.int .u64 a.x4] 66)) w.heap.size 66 (aR a):=aF.new w (aR a) _
 go_wp2_with fail
 refine (JW a _).mono ?_
 rintro e v0 ⟨rfl,hg0,P7⟩
 have hsz:(w.alloc (.cells #[.int .u64 a.x0,.int .u64 a.x1,.int .u64 a.x2,.int .u64 a.x3,.int .u64 a.x4] 66)).heap.size=w.heap.size+1:=by simp
 rw[hsz]at P7
 clear hsz
 have G0:=aj (au (ah w none) _) hg0
 have JX:=Uv.grown hg0 (by simp)
 have lt0:=P7.lt
 clear Uv hg0
 have cA0:=JX.cell (i:=0) rfl
 have cA1:=JX.cell (i:=1) rfl
 have cA2:=JX.cell (i:=2) rfl
 have cA3:=JX.cell (i:=3) rfl
 have cA4:=JX.cell (i:=4) rfl
 go_wp2_with fail
 refine (jr (w.heap.size+1+1) 1 a a _ (by decide) ha ha P7).mono ?_
 rintro e v1 ⟨r1,hr1,rfl,hg1,hP1⟩
 have G1:=aW G0 hg1 (by omega)
 have lt1:=hP1.lt
 have ok1:r1.Ok:=by rw[hr1.out];exact iU _ _ _
 have Xg:=JX.grown hg1 (bJ (by omega))
 clear hg1 G0 P7 JX
 clear cA0 cA1 cA2 cA3 cA4
 have U0:aF (v1.alloc (.cells #[.int .u64 r1.x0,.int .u64 r1.x1,.int .u64 r1.x2,.int .u64 r1.x3,.int .u64 r1.x4] 66)) v1.heap.size 66 (aR r1):=aF.new v1 (aR r1) _
 go_wp2_with fail
 refine (jr (w.heap.size+1+1) 2 r1 r1 _ (by decide) ok1 ok1 (hP1.alloc _)).mono ?_
 rintro e v2 ⟨r2,hr2,rfl,hg2,hP2⟩
 have G2:=aW (au G1 _) hg2 (by omega)
 have lt2:=hP2.lt
 have ok2:r2.Ok:=by rw[hr2.out];exact iU _ _ _
 have CZ:=(Xg.alloc _).grown hg2 (bJ (by omega))
 clear hg2 G1 hP1 Xg U0
 skip
 have afm:=CZ.cell (i:=0) rfl
 have afn:=CZ.cell (i:=1) rfl
 have afo:=CZ.cell (i:=2) rfl
 have afp:=CZ.cell (i:=3) rfl
 have afq:=CZ.cell (i:=4) rfl
 go_wp2_with fail
 refine (jr (w.heap.size+1+1) 1 r2 a _ (by decide) ok2 ha hP2).mono ?_
 rintro e v3 ⟨r3,hr3,rfl,hg3,hP3⟩
 have G3:=aW G2 hg3 (by omega)
 have lt3:=hP3.lt
 have ok3:r3.Ok:=by rw[hr3.out];exact iU _ _ _
 clear hg3 G2 hP2 CZ
 clear afm afn afo afp afq
 have Q7:aF (v3.alloc (.cells #[.int .u64 r3.x0,.int .u64 r3.x1,.int .u64 r3.x2,.int .u64 r3.x3,.int .u64 r3.x4] 66)) v3.heap.size 66 (aR r3):=aF.new v3 (aR r3) _
 go_wp2_with fail
 refine (jr (w.heap.size+1+1) 5 r3 r3 _ (by decide) ok3 ok3 (hP3.alloc _)).mono ?_
 rintro e v4 ⟨r4,hr4,rfl,hg4,hP4⟩
 have G4:=aW (au G3 _) hg4 (by omega)
 have lt4:=hP4.lt
 have ok4:r4.Ok:=by rw[hr4.out];exact iU _ _ _
 clear hg4 G3 hP3 Q7
 skip
 have LZ:aF (v4.alloc (.cells #[.int .u64 r4.x0,.int .u64 r4.x1,.int .u64 r4.x2,.int .u64 r4.x3,.int .u64 r4.x4] 66)) v4.heap.size 66 (aR r4):=aF.new v4 (aR r4) _
 go_wp2_with fail
 refine (jr (w.heap.size+1+1) 10 r4 r4 _ (by decide) ok4 ok4 (hP4.alloc _)).mono ?_
 rintro e v5 ⟨r5,Co,rfl,hg5,hP5⟩
 have G5:=aW (au G4 _) hg5 (by omega)
 have lt5:=hP5.lt
 have ok5:r5.Ok:=by rw[Co.out];exact iU _ _ _
 have L6:=LZ.grown hg5 (bJ (by omega))
 clear hg5 G4 hP4 LZ
 skip
 have JY:aF (v5.alloc (.cells #[.int .u64 r5.x0,.int .u64 r5.x1,.int .u64 r5.x2,.int .u64 r5.x3,.int .u64 r5.x4] 66)) v5.heap.size 66 (aR r5):=aF.new v5 (aR r5) _
 go_wp2_with fail
 refine (jr (w.heap.size+1+1) 20 r5 r5 _ (by decide) ok5 ok5 (hP5.alloc _)).mono ?_
 rintro e v6 ⟨r6,hr6,rfl,uS,hP6⟩
 have G6:=aW (au G5 _) uS (by omega)
 have lt6:=hP6.lt
 have ok6:r6.Ok:=by rw[hr6.out];exact iU _ _ _
 have tY:=(L6.alloc _).grown uS (bJ (by omega))
 clear uS G5 hP5 L6 JY
 skip
 have aft:=tY.cell (i:=0) rfl
 have afu:=tY.cell (i:=1) rfl
 have afv:=tY.cell (i:=2) rfl
 have afw:=tY.cell (i:=3) rfl
 have afx:=tY.cell (i:=4) rfl
 go_wp2_with fail
 refine (jr (w.heap.size+1+1) 10 r6 r4 _ (by decide) ok6 ok4 hP6).mono ?_
 rintro e v7 ⟨r7,hr7,rfl,JU,hP7⟩
 have G7:=aW G6 JU (by omega)
 have lt7:=hP7.lt
 have ok7:r7.Ok:=by rw[hr7.out];exact iU _ _ _
 clear JU G6 hP6 tY
 clear aft afu afv afw afx
 have C8:aF (v7.alloc (.cells #[.int .u64 r7.x0,.int .u64 r7.x1,.int .u64 r7.x2,.int .u64 r7.x3,.int .u64 r7.x4] 66)) v7.heap.size 66 (aR r7):=aF.new v7 (aR r7) _
 go_wp2_with fail
 refine (jr (w.heap.size+1+1) 50 r7 r7 _ (by decide) ok7 ok7 (hP7.alloc _)).mono ?_
 rintro e v8 ⟨r8,hr8,rfl,hg8,hP8⟩
 have G8:=aW (au G7 _) hg8 (by omega)
 have lt8:=hP8.lt
 have ok8:r8.Ok:=by rw[hr8.out];exact iU _ _ _
 have Da:=C8.grown hg8 (bJ (by omega))
 clear hg8 G7 hP7 C8
 skip
 have F5:aF (v8.alloc (.cells #[.int .u64 r8.x0,.int .u64 r8.x1,.int .u64 r8.x2,.int .u64 r8.x3,.int .u64 r8.x4] 66)) v8.heap.size 66 (aR r8):=aF.new v8 (aR r8) _
 go_wp2_with fail
 refine (jr (w.heap.size+1+1) 100 r8 r8 _ (by decide) ok8 ok8 (hP8.alloc _)).mono ?_
 rintro e v9 ⟨r9,hr9,rfl,hg9,hP9⟩
 have G9:=aW (au G8 _) hg9 (by omega)
 have lt9:=hP9.lt
 have ok9:r9.Ok:=by rw[hr9.out];exact iU _ _ _
 have nI:=(Da.alloc _).grown hg9 (bJ (by omega))
 clear hg9 G8 hP8 Da F5
 skip
 have afD:=nI.cell (i:=0) rfl
 have afE:=nI.cell (i:=1) rfl
 have afF:=nI.cell (i:=2) rfl
 have afG:=nI.cell (i:=3) rfl
 have afH:=nI.cell (i:=4) rfl
 go_wp2_with fail
 refine (jr (w.heap.size+1+1) 50 r9 r7 _ (by decide) ok9 ok7 hP9).mono ?_
 rintro e v10 ⟨r10,aaO,rfl,aaP,aaQ⟩
 have G10:=aW G9 aaP (by omega)
 have akr:=aaQ.lt
 have aks:r10.Ok:=by rw[aaO.out];exact iU _ _ _
 clear aaP G9 hP9 nI
 clear afD afE afF afG afH
 go_wp2_with fail
 skip
 go_ret
 have e1:r1=LV a:=hr1.out
 have e2:r2=Q0 a:=by rw[hr2.out,e1];rfl
 have e3:r3=LW a:=by rw[hr3.out,e2];rfl
 have e4:r4=F3 a:=by rw[hr4.out,e3];rfl
 have e5:r5=LX a:=by rw[Co.out,e4];rfl
 have e6:r6=Q5 a:=by rw[hr6.out,e5];rfl
 have e7:r7=F4 a:=by rw[hr7.out,e6,e4];rfl
 have e8:r8=LY a:=by rw[hr8.out,e7];rfl
 have e9:r9=Q6 a:=by rw[hr9.out,e8];rfl
 have e10:r10=xZ a:=by rw[aaO.out,e9,e7];rfl
 exact⟨_,r10,Lib.hid e10,rfl,G10,by omega,aaQ⟩
end
section
open Go.RowKit
inductive Item where
 | any
 | val (x:Value)
 | ptr
def Ct (w0:World) (env:List (Nat×Fe)) (B:Nat):Prop:=w0.heap.size<=B/\∀p∈env,p.1≠B
def Item.holds (K:Nat->Prop):Item->Value->World->Prop
 | .any,_,_=>True
 | .val x,v,_=>v=x
 | .ptr,v,w=>∃Bn,v=.pointer (some ⟨Bn,0,none⟩)/\fQ w Bn 66/\K Bn
def sG (K:Nat->Prop) (L:List Item) (d:Nat) (v:Value) (w:World):Prop:=(L.getD d .any).holds K v w
def jU (w:World) (B:Nat) (r:Fe):World:=
 ((((w.setCell ⟨B,0,none⟩ (.int .u64 r.x0)).setCell ⟨B,1,none⟩ (.int .u64 r.x1)).setCell ⟨B,2,none⟩ (.int .u64 r.x2)).setCell ⟨B,3,none⟩ (.int .u64 r.x3)).setCell ⟨B,4,none⟩ (.int .u64 r.x4)
def F6 (r:Fe) (w w':World):Prop:=w.grownBy w' none\/∃Bn,w'=jU w Bn r/\fQ w Bn 66
theorem gP (r:Fe) (w:World):F6 r w w:=Or.inl (ah _ _)
theorem Ao {w:World} {B:Nat} {r:Fe} {T:TypeId} (h:fQ w B T) (C:Nat):fQ (jU w C r) B T:=by
 by_cases e:C=B
 .subst e;exact⟨_,_,_,_,_,h.sw _ _ _ _ _⟩
 .exact bY (bY (bY (bY (bY h e _) e _) e _) e _) e _
theorem yT {w:World} {B C:Nat} {r:Fe} {T:TypeId} {L:List Value} (h:aF w B T L) (e:C≠B):aF (jU w C r) B T L:=
 ((((h.other e _).other e _).other e _).other e _).other e _
theorem jL {w:World} {B:Nat} {r:Fe} {T:TypeId} (h:fQ w B T):aF (jU w B r) B T (aR r):=h.sw _ _ _ _ _
theorem nW (K:Nat->Prop) (L:List Item) (r:Fe) (d:Nat) (v:Value) (w w':World) (hR:F6 r w w') (h:sG K L d v w):sG K L d v w':=by
 unfold sG at *
 cases hx:L.getD d .any with
 | any=>trivial
 | val x=>rw[hx]at h;exact h
 | ptr=>
  rw[hx]at h
  obtain⟨Bn,hv,hr,hN⟩:=h
  refine⟨Bn,hv,?_,hN⟩
  rcases hR with hg |⟨C,rfl,_⟩
  .exact hr.grown hg (by simp)
  .exact Ao hr C
def Stored (K:Nat->Prop) (r:Fe) (_:Nat) (u:Value) (w:World):Prop:=∃Bn,u=.pointer (some ⟨Bn,0,none⟩)/\K Bn/\aF w Bn 66 (aR r)
theorem l7 (K:Nat->Prop) (r:Fe) (j:Nat) (u:Value) (w w':World) (hR:F6 r w w') (h:Stored K r j u w):Stored K r j u w':=by
 obtain⟨Bn,hu,hN,hb⟩:=h
 refine⟨Bn,hu,hN,?_⟩
 rcases hR with hg |⟨C,rfl,hr⟩
 .exact hb.grown hg (by simp)
 .by_cases e:C=Bn
  .subst e;exact jL hr
  .exact yT hb e
structure mR (w0:World) (N:Nat) (env:List (Nat×Fe)) (wI:List Nat) (w:World):Prop where
 g:w0.grownBy w none
 e:∀p∈env,aF w p.1 66 (aR p.2)
 r:∀B∈wI,fQ w B 66
 n:∀p∈env,p.1<N
 l:N<=w.heap.size
 m:w0.heap.size<=N
theorem mR.grown {w0:World} {N:Nat} {env:List (Nat×Fe)} {wI:List Nat} {w w':World} (h:mR w0 N env wI w) (hg:w.grownBy w' none):mR w0 N env wI w':=
 ⟨aj h.g hg,fun p hp=>(h.e p hp).grown hg (by simp),fun B hB=>(h.r B hB).grown hg (by simp),h.n,Nat.le_trans h.l hg.size,h.m⟩
theorem mR.set {w0:World} {N:Nat} {env:List (Nat×Fe)} {wI:List Nat} {w:World} (h:mR w0 N env wI w) {B:Nat} (hB:Ct w0 env B) (r:Fe):mR w0 N env wI (jU w B r):=
 ⟨jD h.g hB.1 _ _ _ _ _,fun p hp=>yT (h.e p hp) (Ne.symm (hB.2 p hp)),fun C hC=>Ao (h.r C hC) B,h.n,by show N<=_;have:=h.l;simpa[jU,World.setCell] using this,h.m⟩
theorem mR.fresh {w0:World} {N:Nat} {env:List (Nat×Fe)} {wI:List Nat} {w:World} (h:mR w0 N env wI w):Ct w0 env w.heap.size:=
 ⟨Nat.le_trans h.m h.l,fun p hp=>by have:=h.n p hp;have:=h.l;omega⟩
def yN (a:Act):Nat->List Value->Prop
 | _,[]=>True
 | i,v:: r=>a.tmps.getD i undef=v/\yN a (i+1) r
theorem xQ {a:Act}:∀(vs:List Value) (i k:Nat) (v:Value),yN a i vs->vs[k]?=some v->a.tmps.getD (i+k) undef=v:=by
 intro vs
 induction vs with
 | nil=>intro i k v _ h;simp at h
 | cons x r ih=>
  intro i k v h hk
  cases k with
  | zero=>simp at hk;subst hk;exact h.1
  | succ k=>have:=ih (i+1) k v h.2 (by simpa using hk);rwa [show i+(k+1)=i+1+k by omega]
theorem iB {a:Act} {vs:List Value} (hs:a.tmps.size=vs.length) (h:yN a 0 vs) (hd:a.defers=[]):a={tmps:=vs.toArray,defers:=[]}:=by
 have ht:a.tmps=vs.toArray:=by
  apply Array.ext_getElem?
  intro i
  by_cases hi:i<a.tmps.size
  .have h2:i<vs.length:=by omega
   have:=xQ vs 0 i vs[i] h (List.getElem?_eq_getElem h2)
   rw[Nat.zero_add]at this
   simp[hi]at this
   rw[Array.getElem?_eq_getElem hi,this]
   simp[h2]
  .rw[Array.getElem?_eq_none (by omega),Array.getElem?_eq_none (by simp;omega)]
 cases a
 simp at ht hd
 rw[ht,hd]
theorem sH (w:World):w.grownBy w.drew none:=aX (ah _ _)
end
section
open Go.RowKit
set_option maxRecDepth 100000 in
set_option maxHeartbeats 1600000 in
theorem Ae (p q s:Fe) (w0:World) (iW:p.Ok) (kM:q.Ok) (oks:s.Ok):
  Calls Tryz.prog 158 #[.agg #[.int .u64 p.x0,.int .u64 p.x1,.int .u64 p.x2,.int .u64 p.x3,.int .u64 p.x4],.agg #[.int .u64 q.x0,.int .u64 q.x1,.int .u64 q.x2,.int .u64 q.x3,.int .u64 q.x4],.agg #[.int .u64 s.x0,.int .u64 s.x1,.int .u64 s.x2,.int .u64 s.x3,.int .u64 s.x4]] w0 fun e w'=>e=.returned (.bool (decide (Fe.m (Fe.aM (Fe.cZ p) s)=Fe.m q)))/\w0.grownBy w' none:=by
 go_enter Tryz.func158,Tryz.ntmps158
 go_wp2
 have hB0:mR w0 (w0.heap.size+3) [(w0.heap.size,p),((w0.heap.size+1),q),((w0.heap.size+1+1),s)] [] (((w0.alloc (.cells #[.int .u64 p.x0,.int .u64 p.x1,.int .u64 p.x2,.int .u64 p.x3,.int .u64 p.x4] 66)).alloc (.cells #[.int .u64 q.x0,.int .u64 q.x1,.int .u64 q.x2,.int .u64 q.x3,.int .u64 q.x4] 66)).alloc (.cells #[.int .u64 s.x0,.int .u64 s.x1,.int .u64 s.x2,.int .u64 s.x3,.int .u64 s.x4] 66)):=
  ⟨au (au (au (ah _ _) _) _) _,by
   intro p hp
   simp only[List.mem_cons,List.not_mem_nil,or_false]at hp
   rcases hp with rfl|rfl|rfl
   .exact ((aF.new w0 (aR _) _).alloc _).alloc _
   .exact (aF.newAt (w0.alloc _) (aR _) _ (by simp)).alloc _
   .exact aF.newAt _ (aR _) _ (by simp),by simp,by intro p hp;simp only[List.mem_cons,List.not_mem_nil,or_false]at hp;rcases hp with rfl|rfl|rfl<;>simp only[]<;>omega,by simp,by omega⟩
 refine jo (sG (Ct w0 [(w0.heap.size,p),((w0.heap.size+1),q),((w0.heap.size+1+1),s)]) [.any,.any,.any,.any,.any,.any,.val (.bool (decide (Fe.m (Fe.aM (Fe.cZ p) s)=Fe.m q))),.val p.v,.val (Fe.cZ p).v,.val s.v,.val (Fe.aM (Fe.cZ p) s).v,.val q.v,.val (.bool (decide (Fe.m (Fe.aM (Fe.cZ p) s)=Fe.m q)))]) (fun j=>0) (Stored (Ct w0 [(w0.heap.size,p),((w0.heap.size+1),q),((w0.heap.size+1+1),s)]) (Fe.bL)) (mR w0 (w0.heap.size+3) [(w0.heap.size,p),((w0.heap.size+1),q),((w0.heap.size+1+1),s)] []) (F6 (Fe.bL)) (by kernel_rfl) (by kernel_rfl) (by kernel_rfl) (hB0.grown (sH _)) (fun d u w1 w2 hR h=>nW _ _ _ d u w1 w2 hR h) (fun j u w1 w2 hR h=>l7 _ _ j u w1 w2 hR h) (by kernel_rfl) ?_ ?_
 .refine⟨dw rfl rfl fun a w h=>?_,?_⟩
  .have e3:_=Value.pointer (some ⟨w0.heap.size,0,none⟩):=h.r 3
   have hb:=h.base.e (w0.heap.size,p) (by simp)
   have c0:w.cell? ⟨w0.heap.size,0,none⟩=some (.int .u64 p.x0):=hb.cell (i:=0) rfl
   have c1:w.cell? ⟨w0.heap.size,1,none⟩=some (.int .u64 p.x1):=hb.cell (i:=1) rfl
   have c2:w.cell? ⟨w0.heap.size,2,none⟩=some (.int .u64 p.x2):=hb.cell (i:=2) rfl
   have c3:w.cell? ⟨w0.heap.size,3,none⟩=some (.int .u64 p.x3):=hb.cell (i:=3) rfl
   have c4:w.cell? ⟨w0.heap.size,4,none⟩=some (.int .u64 p.x4):=hb.cell (i:=4) rfl
   refine⟨.agg #[.int .u64 p.x0,.int .u64 p.x1,.int .u64 p.x2,.int .u64 p.x3,.int .u64 p.x4],w,?_,h.base,gP _ _,rfl⟩
   clear h hb
   simp only[execOp,Act.eval,e3]
   go_simp
  refine⟨gQ rfl rfl fun a w h=>?_,?_⟩
  .have e7:_=p.v:=h.d 7
   have e7x:a.tmps[7]?.getD undef=p.v:=by simpa using e7
   have hb:=h.base
   refine⟨105,#[p.v],?_,?_⟩
   .clear h hb e7
    go_simp
   .refine (wG p w iW).mono ?_
    intro e w1 hp
    obtain⟨rfl,hg⟩:=eX hp
    exact⟨_,rfl,hb.grown hg,Or.inl hg,rfl⟩
  refine⟨dw rfl rfl fun a w h=>?_,?_⟩
  .have e5:_=Value.pointer (some ⟨(w0.heap.size+1+1),0,none⟩):=h.r 5
   have hb:=h.base.e ((w0.heap.size+1+1),s) (by simp)
   have c0:w.cell? ⟨(w0.heap.size+1+1),0,none⟩=some (.int .u64 s.x0):=hb.cell (i:=0) rfl
   have c1:w.cell? ⟨(w0.heap.size+1+1),1,none⟩=some (.int .u64 s.x1):=hb.cell (i:=1) rfl
   have c2:w.cell? ⟨(w0.heap.size+1+1),2,none⟩=some (.int .u64 s.x2):=hb.cell (i:=2) rfl
   have c3:w.cell? ⟨(w0.heap.size+1+1),3,none⟩=some (.int .u64 s.x3):=hb.cell (i:=3) rfl
   have c4:w.cell? ⟨(w0.heap.size+1+1),4,none⟩=some (.int .u64 s.x4):=hb.cell (i:=4) rfl
   refine⟨.agg #[.int .u64 s.x0,.int .u64 s.x1,.int .u64 s.x2,.int .u64 s.x3,.int .u64 s.x4],w,?_,h.base,gP _ _,rfl⟩
   clear h hb
   simp only[execOp,Act.eval,e5]
   go_simp
  refine⟨gQ rfl rfl fun a w h=>?_,?_⟩
  .have e8:_=(Fe.cZ p).v:=h.d 8
   have e9:_=s.v:=h.d 9
   have e8x:a.tmps[8]?.getD undef=(Fe.cZ p).v:=by simpa using e8
   have e9x:a.tmps[9]?.getD undef=s.v:=by simpa using e9
   have hb:=h.base
   refine⟨82,#[(Fe.cZ p).v,s.v],?_,?_⟩
   .clear h hb e8 e9
    go_simp
   .refine (lJ (Fe.cZ p) s w (Fe.dR _).ok oks).mono ?_
    intro e w1 hp
    obtain⟨rfl,hg⟩:=eX hp
    exact⟨_,rfl,hb.grown hg,Or.inl hg,rfl⟩
  refine⟨dw rfl rfl fun a w h=>?_,?_⟩
  .have e4:_=Value.pointer (some ⟨(w0.heap.size+1),0,none⟩):=h.r 4
   have hb:=h.base.e ((w0.heap.size+1),q) (by simp)
   have c0:w.cell? ⟨(w0.heap.size+1),0,none⟩=some (.int .u64 q.x0):=hb.cell (i:=0) rfl
   have c1:w.cell? ⟨(w0.heap.size+1),1,none⟩=some (.int .u64 q.x1):=hb.cell (i:=1) rfl
   have c2:w.cell? ⟨(w0.heap.size+1),2,none⟩=some (.int .u64 q.x2):=hb.cell (i:=2) rfl
   have c3:w.cell? ⟨(w0.heap.size+1),3,none⟩=some (.int .u64 q.x3):=hb.cell (i:=3) rfl
   have c4:w.cell? ⟨(w0.heap.size+1),4,none⟩=some (.int .u64 q.x4):=hb.cell (i:=4) rfl
   refine⟨.agg #[.int .u64 q.x0,.int .u64 q.x1,.int .u64 q.x2,.int .u64 q.x3,.int .u64 q.x4],w,?_,h.base,gP _ _,rfl⟩
   clear h hb
   simp only[execOp,Act.eval,e4]
   go_simp
  refine⟨gQ rfl rfl fun a w h=>?_,?_⟩
  .have e10:_=(Fe.aM (Fe.cZ p) s).v:=h.d 10
   have e11:_=q.v:=h.d 11
   have aaR:a.tmps[10]?.getD undef=(Fe.aM (Fe.cZ p) s).v:=by simpa using e10
   have aaS:a.tmps[11]?.getD undef=q.v:=by simpa using e11
   have hb:=h.base
   refine⟨118,#[(Fe.aM (Fe.cZ p) s).v,q.v],?_,?_⟩
   .clear h hb e10 e11
    go_simp
   .refine (Am (Fe.aM (Fe.cZ p) s) q w (Fe.mul_right _ _).ok kM).mono ?_
    intro e w1 hp
    obtain⟨rfl,hg⟩:=hp
    exact⟨_,rfl,hb.grown hg,Or.inl hg,rfl⟩
  refine⟨dw rfl rfl fun a w h=>?_,?_⟩
  .have e12:_=Value.bool (decide (Fe.m (Fe.aM (Fe.cZ p) s)=Fe.m q)):=h.d 12
   refine⟨.bool (decide (Fe.m (Fe.aM (Fe.cZ p) s)=Fe.m q)),w,?_,h.base,gP _ _,rfl⟩
   clear h
   simp only[execOp,Act.eval,e12]
   go_simp
  trivial
 .intro a w1 hB hsz hdf hrest aC jT
  have hg:=hB.g
  obtain rfl:=iB (a:=a) (vs:=[.agg #[.int .u64 p.x0,.int .u64 p.x1,.int .u64 p.x2,.int .u64 p.x3,.int .u64 p.x4],.agg #[.int .u64 q.x0,.int .u64 q.x1,.int .u64 q.x2,.int .u64 q.x3,.int .u64 q.x4],.agg #[.int .u64 s.x0,.int .u64 s.x1,.int .u64 s.x2,.int .u64 s.x3,.int .u64 s.x4],.pointer (some ⟨w0.heap.size,0,none⟩),.pointer (some ⟨w0.heap.size+1,0,none⟩),.pointer (some ⟨w0.heap.size+1+1,0,none⟩),.bool (decide (Fe.m (Fe.aM (Fe.cZ p) s)=Fe.m q)),p.v,(Fe.cZ p).v,s.v,(Fe.aM (Fe.cZ p) s).v,q.v,.bool (decide (Fe.m (Fe.aM (Fe.cZ p) s)=Fe.m q))]) hsz ⟨hrest 0 (by kernel_rfl),hrest 1 (by kernel_rfl),hrest 2 (by kernel_rfl),hrest 3 (by kernel_rfl),hrest 4 (by kernel_rfl),hrest 5 (by kernel_rfl),aC 6 (by kernel_rfl),aC 7 (by kernel_rfl),aC 8 (by kernel_rfl),aC 9 (by kernel_rfl),aC 10 (by kernel_rfl),aC 11 (by kernel_rfl),aC 12 (by kernel_rfl),trivial⟩ hdf
  clear hB hsz hdf hrest aC jT
  go_wp2
  go_ret
  exact⟨rfl,hg⟩
end
section
open Go.RowKit
def Ap (a:Fe):Fe:=lZ 5 (xZ a) (Fe.aM (Fe.cZ (Fe.cZ (Fe.cZ a))) (Fe.aM (Fe.cZ a) a))
set_option maxRecDepth 100000 in
set_option maxHeartbeats 1600000 in
theorem JZ (p:Fe) (w0:World) (iW:p.Ok):
  Calls Tryz.prog 80 #[.agg #[.int .u64 p.x0,.int .u64 p.x1,.int .u64 p.x2,.int .u64 p.x3,.int .u64 p.x4]] w0 (nU (Ap p) w0):=by
 have Uv:∀o,aF ((w0.alloc (.cells #[.int .u64 p.x0,.int .u64 p.x1,.int .u64 p.x2,.int .u64 p.x3,.int .u64 p.x4] 66)).alloc o) w0.heap.size 66 (aR p):=fun o=>(aF.new w0 (aR p) _).alloc o
 have hR0:fQ ((w0.alloc (.cells #[.int .u64 p.x0,.int .u64 p.x1,.int .u64 p.x2,.int .u64 p.x3,.int .u64 p.x4] 66)).alloc (.cells #[.int .u64 0,.int .u64 0,.int .u64 0,.int .u64 0,.int .u64 0] 66)) (w0.heap.size+1) 66:=⟨_,_,_,_,_,aF.newAt _ [.int .u64 0,.int .u64 0,.int .u64 0,.int .u64 0,.int .u64 0] _ (by simp)⟩
 have hg0:∀c0 c1,w0.grownBy ((w0.alloc c0).alloc c1) none:=fun c0 c1=>au (au (ah _ _) _) _
 go_enter Tryz.func80,Tryz.ntmps80
 go_wp2_with fail
 refine (wG p _ iW).mono ?_
 rintro e v1 ⟨q1,hq1,rfl,hg1⟩
 have ok1:q1.Ok:=by rw[hq1.out];exact (Fe.dR _).ok
 have hA1:=(Uv _).grown hg1 (by simp)
 have kI:=hR0.grown hg1 (by simp)
 have G1:=aj (hg0 _ _) hg1
 clear Uv hR0 hg0 hg1
 go_wp2_with fail
 refine (wG q1 _ ok1).mono ?_
 rintro e v2 ⟨q2,hq2,rfl,hg2⟩
 have ok2:q2.Ok:=by rw[hq2.out];exact (Fe.dR _).ok
 have hA2:=hA1.grown hg2 (by simp)
 have hR2:=kI.grown hg2 (by simp)
 have G2:=aj G1 hg2
 clear hA1 kI G1 hg2
 go_wp2_with fail
 refine (wG q2 _ ok2).mono ?_
 rintro e v3 ⟨q3,hq3,rfl,hg3⟩
 have afJ:q3.Ok:=by rw[hq3.out];exact (Fe.dR _).ok
 have hA3:=hA2.grown hg3 (by simp)
 have LP:=hR2.grown hg3 (by simp)
 have G3:=aj G2 hg3
 have hlt:=LP
 obtain⟨_,_,_,_,_,hlt⟩:=hlt
 have hlt:=hlt.lt
 clear hA2 hR2 G2 hg3
 have hB0:mR w0 (v3.heap.size+1) [(w0.heap.size,p),(v3.heap.size,q3)] [(w0.heap.size+1)] (v3.alloc (.cells #[.int .u64 q3.x0,.int .u64 q3.x1,.int .u64 q3.x2,.int .u64 q3.x3,.int .u64 q3.x4] 66)):=
  ⟨au G3 _,by
   intro z hz
   simp only[List.mem_cons,List.not_mem_nil,or_false]at hz
   rcases hz with rfl|rfl
   .exact hA3.alloc _
   .exact aF.new v3 (aR _) _,by
   intro B hB
   simp only[List.mem_cons,List.not_mem_nil,or_false]at hB
   subst hB
   exact LP.grown (World.grownBy_alloc _ _ none) (by simp),by intro z hz;simp only[List.mem_cons,List.not_mem_nil,or_false]at hz;rcases hz with rfl|rfl<;>simp only[]<;>omega,by simp,by omega⟩
 clear hA3 LP G3
 go_wp2_with fail
 refine jo (sG (Ct w0 [(w0.heap.size,p),(v3.heap.size,q3)]) [.any,.any,.any,.any,.ptr,.any,.any,.any,.any,.any,.val q3.v,.val p.v,.val (Fe.cZ p).v,.val p.v,.val (Fe.aM (Fe.cZ p) p).v,.val (Fe.aM q3 (Fe.aM (Fe.cZ p) p)).v,.any,.any,.any,.any,.any]) (fun j=>if j=7 then 4 else 0) (Stored (Ct w0 [(w0.heap.size,p),(v3.heap.size,q3)]) (Fe.aM q3 (Fe.aM (Fe.cZ p) p))) (mR w0 (v3.heap.size+1) [(w0.heap.size,p),(v3.heap.size,q3)] [(w0.heap.size+1)]) (F6 (Fe.aM q3 (Fe.aM (Fe.cZ p) p))) (by kernel_rfl) (by kernel_rfl) (by kernel_rfl) (hB0.grown (sH _)) (fun d u w1 w2 hR h=>nW _ _ _ d u w1 w2 hR h) (fun j u w1 w2 hR h=>l7 _ _ j u w1 w2 hR h) (by kernel_rfl) ?_ ?_
 .refine⟨dw rfl rfl fun a w h=>?_,?_⟩
  .have e3:_=Value.pointer (some ⟨v3.heap.size,0,none⟩):=h.r 3
   have hb:=h.base.e (v3.heap.size,q3) (by simp)
   have c0:w.cell? ⟨v3.heap.size,0,none⟩=some (.int .u64 q3.x0):=hb.cell (i:=0) rfl
   have c1:w.cell? ⟨v3.heap.size,1,none⟩=some (.int .u64 q3.x1):=hb.cell (i:=1) rfl
   have c2:w.cell? ⟨v3.heap.size,2,none⟩=some (.int .u64 q3.x2):=hb.cell (i:=2) rfl
   have c3:w.cell? ⟨v3.heap.size,3,none⟩=some (.int .u64 q3.x3):=hb.cell (i:=3) rfl
   have c4:w.cell? ⟨v3.heap.size,4,none⟩=some (.int .u64 q3.x4):=hb.cell (i:=4) rfl
   refine⟨.agg #[.int .u64 q3.x0,.int .u64 q3.x1,.int .u64 q3.x2,.int .u64 q3.x3,.int .u64 q3.x4],w,?_,h.base,gP _ _,rfl⟩
   clear h hb
   simp only[execOp,Act.eval,e3]
   go_simp
  refine⟨dw rfl rfl fun a w h=>?_,?_⟩
  .have e1:_=Value.pointer (some ⟨w0.heap.size,0,none⟩):=h.r 1
   have hb:=h.base.e (w0.heap.size,p) (by simp)
   have c0:w.cell? ⟨w0.heap.size,0,none⟩=some (.int .u64 p.x0):=hb.cell (i:=0) rfl
   have c1:w.cell? ⟨w0.heap.size,1,none⟩=some (.int .u64 p.x1):=hb.cell (i:=1) rfl
   have c2:w.cell? ⟨w0.heap.size,2,none⟩=some (.int .u64 p.x2):=hb.cell (i:=2) rfl
   have c3:w.cell? ⟨w0.heap.size,3,none⟩=some (.int .u64 p.x3):=hb.cell (i:=3) rfl
   have c4:w.cell? ⟨w0.heap.size,4,none⟩=some (.int .u64 p.x4):=hb.cell (i:=4) rfl
   refine⟨.agg #[.int .u64 p.x0,.int .u64 p.x1,.int .u64 p.x2,.int .u64 p.x3,.int .u64 p.x4],w,?_,h.base,gP _ _,rfl⟩
   clear h hb
   simp only[execOp,Act.eval,e1]
   go_simp
  refine⟨gQ rfl rfl fun a w h=>?_,?_⟩
  .have e11:_=p.v:=h.d 11
   have aaS:a.tmps[11]?.getD undef=p.v:=by simpa using e11
   have hb:=h.base
   refine⟨105,#[p.v],?_,?_⟩
   .clear h hb e11
    go_simp
   .refine (wG p w iW).mono ?_
    intro e w1 hp
    obtain⟨rfl,hg⟩:=eX hp
    exact⟨_,rfl,hb.grown hg,Or.inl hg,rfl⟩
  refine⟨dw rfl rfl fun a w h=>?_,?_⟩
  .have e1:_=Value.pointer (some ⟨w0.heap.size,0,none⟩):=h.r 1
   have hb:=h.base.e (w0.heap.size,p) (by simp)
   have c0:w.cell? ⟨w0.heap.size,0,none⟩=some (.int .u64 p.x0):=hb.cell (i:=0) rfl
   have c1:w.cell? ⟨w0.heap.size,1,none⟩=some (.int .u64 p.x1):=hb.cell (i:=1) rfl
   have c2:w.cell? ⟨w0.heap.size,2,none⟩=some (.int .u64 p.x2):=hb.cell (i:=2) rfl
   have c3:w.cell? ⟨w0.heap.size,3,none⟩=some (.int .u64 p.x3):=hb.cell (i:=3) rfl
   have c4:w.cell? ⟨w0.heap.size,4,none⟩=some (.int .u64 p.x4):=hb.cell (i:=4) rfl
   refine⟨.agg #[.int .u64 p.x0,.int .u64 p.x1,.int .u64 p.x2,.int .u64 p.x3,.int .u64 p.x4],w,?_,h.base,gP _ _,rfl⟩
   clear h hb
   simp only[execOp,Act.eval,e1]
   go_simp
  refine⟨gQ rfl rfl fun a w h=>?_,?_⟩
  .have e12:_=(Fe.cZ p).v:=h.d 12
   have e13:_=p.v:=h.d 13
   have afK:a.tmps[12]?.getD undef=(Fe.cZ p).v:=by simpa using e12
   have akt:a.tmps[13]?.getD undef=p.v:=by simpa using e13
   have hb:=h.base
   refine⟨82,#[(Fe.cZ p).v,p.v],?_,?_⟩
   .clear h hb e12 e13
    go_simp
   .refine (lJ (Fe.cZ p) p w (Fe.dR _).ok iW).mono ?_
    intro e w1 hp
    obtain⟨rfl,hg⟩:=eX hp
    exact⟨_,rfl,hb.grown hg,Or.inl hg,rfl⟩
  refine⟨gQ rfl rfl fun a w h=>?_,?_⟩
  .have e10:_=q3.v:=h.d 10
   have e14:_=(Fe.aM (Fe.cZ p) p).v:=h.d 14
   have aaR:a.tmps[10]?.getD undef=q3.v:=by simpa using e10
   have afL:a.tmps[14]?.getD undef=(Fe.aM (Fe.cZ p) p).v:=by simpa using e14
   have hb:=h.base
   refine⟨82,#[q3.v,(Fe.aM (Fe.cZ p) p).v],?_,?_⟩
   .clear h hb e10 e14
    go_simp
   .refine (lJ q3 (Fe.aM (Fe.cZ p) p) w afJ (Fe.mul_right _ _).ok).mono ?_
    intro e w1 hp
    obtain⟨rfl,hg⟩:=eX hp
    exact⟨_,rfl,hb.grown hg,Or.inl hg,rfl⟩
  refine⟨dw rfl rfl fun a w h=>?_,?_⟩
  .refine⟨.pointer (some ⟨w.heap.size,0,none⟩),w.alloc (.cells #[.int .u64 0,.int .u64 0,.int .u64 0,.int .u64 0,.int .u64 0] 66),?_,h.base.grown (World.grownBy_alloc _ _ _),Or.inl (World.grownBy_alloc _ _ _),⟨w.heap.size,rfl,⟨_,_,_,_,_,aF.new w [.int .u64 0,.int .u64 0,.int .u64 0,.int .u64 0,.int .u64 0] _⟩,h.base.fresh⟩⟩
   clear h
   go_simp
  refine⟨qD rfl rfl fun a w h=>?_,?_⟩
  .obtain⟨Bn,ep,hroom,hK⟩:∃Bn,a.tmps.getD 4 undef=.pointer (some ⟨Bn,0,none⟩)/\fQ w Bn 66/\(Ct w0 [(w0.heap.size,p),(v3.heap.size,q3)]) Bn:=h.dep 4 (by kernel_rfl)
   have e15:_=Value.agg #[.int .u64 (Fe.aM q3 (Fe.aM (Fe.cZ p) p)).x0,.int .u64 (Fe.aM q3 (Fe.aM (Fe.cZ p) p)).x1,.int .u64 (Fe.aM q3 (Fe.aM (Fe.cZ p) p)).x2,.int .u64 (Fe.aM q3 (Fe.aM (Fe.cZ p) p)).x3,.int .u64 (Fe.aM q3 (Fe.aM (Fe.cZ p) p)).x4]:=h.d 15
   refine⟨jU w Bn (Fe.aM q3 (Fe.aM (Fe.cZ p) p)),?_,h.base.set hK _,Or.inr ⟨Bn,rfl,hroom⟩,⟨Bn,ep,hK,jL hroom⟩⟩
   obtain⟨u0,u1,u2,u3,u4,hR⟩:=hroom
   have c0r:=hR.cell (i:=0) rfl;have f0r:=hR.free 0
   have c1r:=hR.cell (i:=1) rfl;have f1r:=hR.free 1
   have c2r:=hR.cell (i:=2) rfl;have f2r:=hR.free 2
   have c3r:=hR.cell (i:=3) rfl;have f3r:=hR.free 3
   have c4r:=hR.cell (i:=4) rfl;have f4r:=hR.free 4
   clear h hK hR
   unfold jU
   simp only[execOp,Act.eval,ep,e15]
   go_simp
  trivial
 .intro a' w1 hB hsz hdf hrest aC jT
  obtain⟨Bn,x9,hK,hb⟩:=jT 7 _ rfl rfl
  obtain rfl:=iB (a:=a') (vs:=[.agg #[.int .u64 p.x0,.int .u64 p.x1,.int .u64 p.x2,.int .u64 p.x3,.int .u64 p.x4],.pointer (some ⟨w0.heap.size,0,none⟩),.pointer (some ⟨w0.heap.size+1,0,none⟩),.pointer (some ⟨v3.heap.size,0,none⟩),.pointer (some ⟨Bn,0,none⟩),undef,.agg #[.int .u64 p.x0,.int .u64 p.x1,.int .u64 p.x2,.int .u64 p.x3,.int .u64 p.x4],.agg #[.int .u64 q1.x0,.int .u64 q1.x1,.int .u64 q1.x2,.int .u64 q1.x3,.int .u64 q1.x4],.agg #[.int .u64 q2.x0,.int .u64 q2.x1,.int .u64 q2.x2,.int .u64 q2.x3,.int .u64 q2.x4],.agg #[.int .u64 q3.x0,.int .u64 q3.x1,.int .u64 q3.x2,.int .u64 q3.x3,.int .u64 q3.x4],q3.v,p.v,(Fe.cZ p).v,p.v,(Fe.aM (Fe.cZ p) p).v,(Fe.aM q3 (Fe.aM (Fe.cZ p) p)).v,undef,undef,undef,undef,undef]) hsz ⟨hrest 0 (by kernel_rfl),hrest 1 (by kernel_rfl),hrest 2 (by kernel_rfl),hrest 3 (by kernel_rfl),x9,hrest 5 (by kernel_rfl),hrest 6 (by kernel_rfl),hrest 7 (by kernel_rfl),hrest 8 (by kernel_rfl),hrest 9 (by kernel_rfl),aC 10 (by kernel_rfl),aC 11 (by kernel_rfl),aC 12 (by kernel_rfl),aC 13 (by kernel_rfl),aC 14 (by kernel_rfl),aC 15 (by kernel_rfl),hrest 16 (by kernel_rfl),hrest 17 (by kernel_rfl),hrest 18 (by kernel_rfl),hrest 19 (by kernel_rfl),hrest 20 (by kernel_rfl),trivial⟩ hdf
  clear x9 hsz hdf hrest aC jT hB0
  obtain⟨f,hf⟩:∃f,f=Fe.aM q3 (Fe.aM (Fe.cZ p) p):=⟨_,rfl⟩
  have okf:f.Ok:=by rw[hf];exact (Fe.mul_right _ _).ok
  rw[<- hf]at hb
  have Hf:=Lib.hid hf;clear hf
  have hAx:=hB.e (w0.heap.size,p) (by simp)
  have hRx:=hB.r _ (List.mem_singleton.2 rfl)
  have G4:=hB.g
  have afM:=hb.lt
  have hKn:=hK.1
  have hKa:=hK.2 (w0.heap.size,p) (by simp)
  clear hK hB
  have c0:=hAx.cell (i:=0) rfl
  have c1:=hAx.cell (i:=1) rfl
  have c2:=hAx.cell (i:=2) rfl
  have c3:=hAx.cell (i:=3) rfl
  have c4:=hAx.cell (i:=4) rfl
  go_wp2_with fail
  refine (wH p _ iW).mono ?_
  rintro e w2 ⟨C,q,hq,rfl,hg5,hC,hP⟩
  have kM:q.Ok:=by rw[hq.out];exact iU _ _ _
  have hb2:=hb.grown hg5 (by simp)
  have Jw:=hRx.grown hg5 (by simp)
  have G5:=aj G4 hg5
  have hs5:=hg5.size
  clear hAx hRx hb G4 hg5 c0 c1 c2 c3 c4
  have c0:=hb2.cell (i:=0) rfl
  have c1:=hb2.cell (i:=1) rfl
  have c2:=hb2.cell (i:=2) rfl
  have c3:=hb2.cell (i:=3) rfl
  have c4:=hb2.cell (i:=4) rfl
  go_wp2_with fail
  refine (jr C 5 q f _ (by decide) kM okf hP).mono ?_
  rintro e w3 ⟨g,hgg,rfl,uS,hP6⟩
  have hR6:=Jw.grown uS (bJ (by omega))
  have G6:=aW G5 uS (by omega)
  obtain⟨u0,u1,u2,u3,u4,Fq⟩:=hR6
  clear Jw hb2 G5 uS c0 c1 c2 c3 c4
  have t0:=Fq.cell (i:=0) rfl
  have t1:=Fq.cell (i:=1) rfl
  have t2:=Fq.cell (i:=2) rfl
  have t3:=Fq.cell (i:=3) rfl
  have t4:=Fq.cell (i:=4) rfl
  have y0:=Fq.free 0
  have y1:=Fq.free 1
  have y2:=Fq.free 2
  have y3:=Fq.free 3
  have y4:=Fq.free 4
  go_wp2_with fail
  refine bodyPost_ret (v:=.agg #[.int .u64 g.x0,.int .u64 g.x1,.int .u64 g.x2,.int .u64 g.x3,.int .u64 g.x4]) ?_ rfl ⟨g,Lib.hid ?_,rfl,jD G6 (by omega) _ _ _ _ _⟩
  .simp[results,Tryz.results80,go_sem,t0,t1,t2,t3,t4]
  .rw[hgg.out,hq.out,Hf.out,hq3.out,hq2.out,hq1.out];rfl
end
section
open Go.RowKit
def dV (u v:Fe):Fe:=Fe.aM (Fe.aM u (Fe.aM (Fe.cZ v) v)) (lZ 2 (xZ (Fe.aM u (Fe.aM (Fe.cZ (Fe.aM (Fe.cZ v) v)) v))) (Fe.aM u (Fe.aM (Fe.cZ (Fe.aM (Fe.cZ v) v)) v)))
set_option maxRecDepth 100000 in
set_option maxHeartbeats 1600000 in
theorem qh (p q:Fe) (w0:World) (iW:p.Ok) (kM:q.Ok):
  Calls Tryz.prog 157 #[.agg #[.int .u64 p.x0,.int .u64 p.x1,.int .u64 p.x2,.int .u64 p.x3,.int .u64 p.x4],.agg #[.int .u64 q.x0,.int .u64 q.x1,.int .u64 q.x2,.int .u64 q.x3,.int .u64 q.x4]] w0 (nU (dV p q) w0):=by
 go_enter Tryz.func157,Tryz.ntmps157
 go_wp2_with fail
 have Uv:aF (((w0.alloc (.cells #[.int .u64 p.x0,.int .u64 p.x1,.int .u64 p.x2,.int .u64 p.x3,.int .u64 p.x4] 66)).alloc (.cells #[.int .u64 q.x0,.int .u64 q.x1,.int .u64 q.x2,.int .u64 q.x3,.int .u64 q.x4] 66)).alloc (.cells #[.int .u64 0,.int .u64 0,.int .u64 0,.int .u64 0,.int .u64 0] 66)) w0.heap.size 66 (aR p):=((aF.new w0 (aR p) _).alloc _).alloc _
 have hB0:mR w0 (w0.heap.size+3) [((w0.heap.size+1),q)] [(w0.heap.size+1+1)] (((w0.alloc (.cells #[.int .u64 p.x0,.int .u64 p.x1,.int .u64 p.x2,.int .u64 p.x3,.int .u64 p.x4] 66)).alloc (.cells #[.int .u64 q.x0,.int .u64 q.x1,.int .u64 q.x2,.int .u64 q.x3,.int .u64 q.x4] 66)).alloc (.cells #[.int .u64 0,.int .u64 0,.int .u64 0,.int .u64 0,.int .u64 0] 66)):=
  ⟨au (au (au (ah _ _) _) _) _,by
   intro z hz
   simp only[List.mem_cons,List.not_mem_nil,or_false]at hz
   rcases hz with rfl
   .exact (aF.newAt (w0.alloc _) (aR _) _ (by simp)).alloc _,by
   intro B hB
   simp only[List.mem_cons,List.not_mem_nil,or_false]at hB
   subst hB
   exact⟨_,_,_,_,_,aF.newAt _ [.int .u64 0,.int .u64 0,.int .u64 0,.int .u64 0,.int .u64 0] _ (by simp)⟩,by intro z hz;simp only[List.mem_cons,List.not_mem_nil,or_false]at hz;rcases hz with rfl<;>simp only[]<;>omega,by simp,by omega⟩
 have hA1:∀w1,w0.grownBy w1 none->True:=fun _ _=>trivial
 clear hA1
 have hB0:mR w0 (w0.heap.size+3) [(w0.heap.size,p),(w0.heap.size+1,q),(w0.heap.size+1+1,Fe.bL)] [(w0.heap.size+1+1)] (((w0.alloc (.cells #[.int .u64 p.x0,.int .u64 p.x1,.int .u64 p.x2,.int .u64 p.x3,.int .u64 p.x4] 66)).alloc (.cells #[.int .u64 q.x0,.int .u64 q.x1,.int .u64 q.x2,.int .u64 q.x3,.int .u64 q.x4] 66)).alloc (.cells #[.int .u64 0,.int .u64 0,.int .u64 0,.int .u64 0,.int .u64 0] 66)):=
  ⟨hB0.g,by
   intro z hz
   simp only[List.mem_cons,List.not_mem_nil,or_false]at hz
   rcases hz with rfl|rfl|rfl
   .exact Uv
   .exact hB0.e _ (by simp)
   .exact aF.newAt _ (aR Fe.bL) _ (by simp),hB0.r,by intro z hz;simp only[List.mem_cons,List.not_mem_nil,or_false]at hz;rcases hz with rfl|rfl|rfl<;>simp only[]<;>omega,hB0.l,hB0.m⟩
 clear Uv
 refine jo (sG (Ct w0 [(w0.heap.size,p),((w0.heap.size+1),q),((w0.heap.size+1+1),Fe.bL)]) [.any,.any,.any,.any,.any,.ptr,.any,.any,.any,.any,.val q.v,.val (Fe.cZ q).v,.val q.v,.val (Fe.aM (Fe.cZ q) q).v,.any,.any,.any,.any,.any,.any,.any,.any,.any,.any,.any,.any,.any,.any,.any,.any,.any]) (fun j=>if j=5 then 5 else 0) (Stored (Ct w0 [(w0.heap.size,p),((w0.heap.size+1),q),((w0.heap.size+1+1),Fe.bL)]) (Fe.aM (Fe.cZ q) q)) (mR w0 (w0.heap.size+3) [(w0.heap.size,p),((w0.heap.size+1),q),((w0.heap.size+1+1),Fe.bL)] [(w0.heap.size+1+1)]) (F6 (Fe.aM (Fe.cZ q) q)) (by kernel_rfl) (by kernel_rfl) (by kernel_rfl) (hB0.grown (sH _)) (fun d u w1 w2 hR h=>nW _ _ _ d u w1 w2 hR h) (fun j u w1 w2 hR h=>l7 _ _ j u w1 w2 hR h) (by kernel_rfl) ?_ ?_
 .refine⟨dw rfl rfl fun a w h=>?_,?_⟩
  .have e3:_=Value.pointer (some ⟨(w0.heap.size+1),0,none⟩):=h.r 3
   have hb:=h.base.e ((w0.heap.size+1),q) (by simp)
   have c0:w.cell? ⟨(w0.heap.size+1),0,none⟩=some (.int .u64 q.x0):=hb.cell (i:=0) rfl
   have c1:w.cell? ⟨(w0.heap.size+1),1,none⟩=some (.int .u64 q.x1):=hb.cell (i:=1) rfl
   have c2:w.cell? ⟨(w0.heap.size+1),2,none⟩=some (.int .u64 q.x2):=hb.cell (i:=2) rfl
   have c3:w.cell? ⟨(w0.heap.size+1),3,none⟩=some (.int .u64 q.x3):=hb.cell (i:=3) rfl
   have c4:w.cell? ⟨(w0.heap.size+1),4,none⟩=some (.int .u64 q.x4):=hb.cell (i:=4) rfl
   refine⟨.agg #[.int .u64 q.x0,.int .u64 q.x1,.int .u64 q.x2,.int .u64 q.x3,.int .u64 q.x4],w,?_,h.base,gP _ _,rfl⟩
   clear h hb
   simp only[execOp,Act.eval,e3]
   go_simp
  refine⟨gQ rfl rfl fun a w h=>?_,?_⟩
  .have e10:_=q.v:=h.d 10
   have aaR:a.tmps[10]?.getD undef=q.v:=by simpa using e10
   have hb:=h.base
   refine⟨105,#[q.v],?_,?_⟩
   .clear h hb e10
    go_simp
   .refine (wG q w kM).mono ?_
    intro e w1 hp
    obtain⟨rfl,hg⟩:=eX hp
    exact⟨_,rfl,hb.grown hg,Or.inl hg,rfl⟩
  refine⟨dw rfl rfl fun a w h=>?_,?_⟩
  .have e3:_=Value.pointer (some ⟨(w0.heap.size+1),0,none⟩):=h.r 3
   have hb:=h.base.e ((w0.heap.size+1),q) (by simp)
   have c0:w.cell? ⟨(w0.heap.size+1),0,none⟩=some (.int .u64 q.x0):=hb.cell (i:=0) rfl
   have c1:w.cell? ⟨(w0.heap.size+1),1,none⟩=some (.int .u64 q.x1):=hb.cell (i:=1) rfl
   have c2:w.cell? ⟨(w0.heap.size+1),2,none⟩=some (.int .u64 q.x2):=hb.cell (i:=2) rfl
   have c3:w.cell? ⟨(w0.heap.size+1),3,none⟩=some (.int .u64 q.x3):=hb.cell (i:=3) rfl
   have c4:w.cell? ⟨(w0.heap.size+1),4,none⟩=some (.int .u64 q.x4):=hb.cell (i:=4) rfl
   refine⟨.agg #[.int .u64 q.x0,.int .u64 q.x1,.int .u64 q.x2,.int .u64 q.x3,.int .u64 q.x4],w,?_,h.base,gP _ _,rfl⟩
   clear h hb
   simp only[execOp,Act.eval,e3]
   go_simp
  refine⟨gQ rfl rfl fun a w h=>?_,?_⟩
  .have e11:_=(Fe.cZ q).v:=h.d 11
   have e12:_=q.v:=h.d 12
   have aaS:a.tmps[11]?.getD undef=(Fe.cZ q).v:=by simpa using e11
   have afK:a.tmps[12]?.getD undef=q.v:=by simpa using e12
   have hb:=h.base
   refine⟨82,#[(Fe.cZ q).v,q.v],?_,?_⟩
   .clear h hb e11 e12
    go_simp
   .refine (lJ (Fe.cZ q) q w (Fe.dR _).ok kM).mono ?_
    intro e w1 hp
    obtain⟨rfl,hg⟩:=eX hp
    exact⟨_,rfl,hb.grown hg,Or.inl hg,rfl⟩
  refine⟨dw rfl rfl fun a w h=>?_,?_⟩
  .refine⟨.pointer (some ⟨w.heap.size,0,none⟩),w.alloc (.cells #[.int .u64 0,.int .u64 0,.int .u64 0,.int .u64 0,.int .u64 0] 66),?_,h.base.grown (World.grownBy_alloc _ _ _),Or.inl (World.grownBy_alloc _ _ _),⟨w.heap.size,rfl,⟨_,_,_,_,_,aF.new w [.int .u64 0,.int .u64 0,.int .u64 0,.int .u64 0,.int .u64 0] _⟩,h.base.fresh⟩⟩
   clear h
   go_simp
  refine⟨qD rfl rfl fun a w h=>?_,?_⟩
  .obtain⟨Bn,ep,hroom,hK⟩:∃Bn,a.tmps.getD 5 undef=.pointer (some ⟨Bn,0,none⟩)/\fQ w Bn 66/\(Ct w0 [(w0.heap.size,p),((w0.heap.size+1),q),((w0.heap.size+1+1),Fe.bL)]) Bn:=h.dep 5 (by kernel_rfl)
   have e13:_=Value.agg #[.int .u64 (Fe.aM (Fe.cZ q) q).x0,.int .u64 (Fe.aM (Fe.cZ q) q).x1,.int .u64 (Fe.aM (Fe.cZ q) q).x2,.int .u64 (Fe.aM (Fe.cZ q) q).x3,.int .u64 (Fe.aM (Fe.cZ q) q).x4]:=h.d 13
   refine⟨jU w Bn (Fe.aM (Fe.cZ q) q),?_,h.base.set hK _,Or.inr ⟨Bn,rfl,hroom⟩,⟨Bn,ep,hK,jL hroom⟩⟩
   obtain⟨u0,u1,u2,u3,u4,hR⟩:=hroom
   have c0r:=hR.cell (i:=0) rfl;have f0r:=hR.free 0
   have c1r:=hR.cell (i:=1) rfl;have f1r:=hR.free 1
   have c2r:=hR.cell (i:=2) rfl;have f2r:=hR.free 2
   have c3r:=hR.cell (i:=3) rfl;have f3r:=hR.free 3
   have c4r:=hR.cell (i:=4) rfl;have f4r:=hR.free 4
   clear h hK hR
   unfold jU
   simp only[execOp,Act.eval,ep,e13]
   go_simp
  trivial
 .intro a' w1 hB hsz hdf hrest aC jT
  obtain⟨B1,x9,hK,hb⟩:=jT 5 _ rfl rfl
  obtain rfl:=iB (a:=a') (vs:=[.agg #[.int .u64 p.x0,.int .u64 p.x1,.int .u64 p.x2,.int .u64 p.x3,.int .u64 p.x4],.agg #[.int .u64 q.x0,.int .u64 q.x1,.int .u64 q.x2,.int .u64 q.x3,.int .u64 q.x4],.pointer (some ⟨w0.heap.size,0,none⟩),.pointer (some ⟨w0.heap.size+1,0,none⟩),.pointer (some ⟨w0.heap.size+1+1,0,none⟩),.pointer (some ⟨B1,0,none⟩),undef,undef,undef,undef,q.v,(Fe.cZ q).v,q.v,(Fe.aM (Fe.cZ q) q).v,undef,undef,undef,undef,undef,undef,undef,undef,undef,undef,undef,undef,undef,undef,undef,undef,undef]) hsz ⟨hrest 0 (by kernel_rfl),hrest 1 (by kernel_rfl),hrest 2 (by kernel_rfl),hrest 3 (by kernel_rfl),hrest 4 (by kernel_rfl),x9,hrest 6 (by kernel_rfl),hrest 7 (by kernel_rfl),hrest 8 (by kernel_rfl),hrest 9 (by kernel_rfl),aC 10 (by kernel_rfl),aC 11 (by kernel_rfl),aC 12 (by kernel_rfl),aC 13 (by kernel_rfl),hrest 14 (by kernel_rfl),hrest 15 (by kernel_rfl),hrest 16 (by kernel_rfl),hrest 17 (by kernel_rfl),hrest 18 (by kernel_rfl),hrest 19 (by kernel_rfl),hrest 20 (by kernel_rfl),hrest 21 (by kernel_rfl),hrest 22 (by kernel_rfl),hrest 23 (by kernel_rfl),hrest 24 (by kernel_rfl),hrest 25 (by kernel_rfl),hrest 26 (by kernel_rfl),hrest 27 (by kernel_rfl),hrest 28 (by kernel_rfl),hrest 29 (by kernel_rfl),hrest 30 (by kernel_rfl),trivial⟩ hdf
  clear x9 hsz hdf hrest aC jT hB0
  obtain⟨cube,hf⟩:∃f,f=Fe.aM (Fe.cZ q) q:=⟨_,rfl⟩
  have Q8:cube.Ok:=by rw[hf];exact (Fe.mul_right _ _).ok
  rw[<- hf]at hb
  have aaT:=Lib.hid hf;clear hf
  have afM:=hb.lt
  have hK1:=hK.1
  have hKp:=hK.2 (w0.heap.size,p) (by simp)
  have hKq:=hK.2 (w0.heap.size+1,q) (by simp)
  have hKr:w0.heap.size+1+1≠B1:=hK.2 (w0.heap.size+1+1,Fe.bL) (by simp)
  have hBl:=hB.l
  have hB1:mR w0 w1.heap.size [(w0.heap.size,p),(w0.heap.size+1,q),(B1,cube)] [(w0.heap.size+1+1)] w1:=
   ⟨hB.g,by
    intro z hz
    simp only[List.mem_cons,List.not_mem_nil,or_false]at hz
    rcases hz with rfl|rfl|rfl
    .exact hB.e _ (by simp)
    .exact hB.e _ (by simp)
    .exact hb,hB.r,by intro z hz;simp only[List.mem_cons,List.not_mem_nil,or_false]at hz;rcases hz with rfl|rfl|rfl<;>simp only[]<;>omega,Nat.le_refl _,hB.g.size⟩
  clear hB hb hK
  go_wp2_with fail
  refine jo (sG (Ct w0 [(w0.heap.size,p),((w0.heap.size+1),q),(B1,cube)]) [.any,.any,.any,.any,.any,.any,.ptr,.any,.any,.any,.any,.any,.any,.any,.val cube.v,.val (Fe.cZ cube).v,.val q.v,.val (Fe.aM (Fe.cZ cube) q).v,.any,.any,.any,.any,.any,.any,.any,.any,.any,.any,.any,.any,.any]) (fun j=>if j=5 then 6 else 0) (Stored (Ct w0 [(w0.heap.size,p),((w0.heap.size+1),q),(B1,cube)]) (Fe.aM (Fe.cZ cube) q)) (mR w0 w1.heap.size [(w0.heap.size,p),((w0.heap.size+1),q),(B1,cube)] [(w0.heap.size+1+1)]) (F6 (Fe.aM (Fe.cZ cube) q)) (by kernel_rfl) (by kernel_rfl) (by kernel_rfl) (hB1.grown (sH _)) (fun d u w1 w2 hR h=>nW _ _ _ d u w1 w2 hR h) (fun j u w1 w2 hR h=>l7 _ _ j u w1 w2 hR h) (by kernel_rfl) ?_ ?_
  .refine⟨dw rfl rfl fun a w h=>?_,?_⟩
   .have e5:_=Value.pointer (some ⟨B1,0,none⟩):=h.r 5
    have hb:=h.base.e (B1,cube) (by simp)
    have c0:w.cell? ⟨B1,0,none⟩=some (.int .u64 cube.x0):=hb.cell (i:=0) rfl
    have c1:w.cell? ⟨B1,1,none⟩=some (.int .u64 cube.x1):=hb.cell (i:=1) rfl
    have c2:w.cell? ⟨B1,2,none⟩=some (.int .u64 cube.x2):=hb.cell (i:=2) rfl
    have c3:w.cell? ⟨B1,3,none⟩=some (.int .u64 cube.x3):=hb.cell (i:=3) rfl
    have c4:w.cell? ⟨B1,4,none⟩=some (.int .u64 cube.x4):=hb.cell (i:=4) rfl
    refine⟨.agg #[.int .u64 cube.x0,.int .u64 cube.x1,.int .u64 cube.x2,.int .u64 cube.x3,.int .u64 cube.x4],w,?_,h.base,gP _ _,rfl⟩
    clear h hb
    simp only[execOp,Act.eval,e5]
    go_simp
   refine⟨gQ rfl rfl fun a w h=>?_,?_⟩
   .have e14:_=cube.v:=h.d 14
    have afL:a.tmps[14]?.getD undef=cube.v:=by simpa using e14
    have hb:=h.base
    refine⟨105,#[cube.v],?_,?_⟩
    .clear h hb e14
     go_simp
    .refine (wG cube w Q8).mono ?_
     intro e w1 hp
     obtain⟨rfl,hg⟩:=eX hp
     exact⟨_,rfl,hb.grown hg,Or.inl hg,rfl⟩
   refine⟨dw rfl rfl fun a w h=>?_,?_⟩
   .have e3:_=Value.pointer (some ⟨(w0.heap.size+1),0,none⟩):=h.r 3
    have hb:=h.base.e ((w0.heap.size+1),q) (by simp)
    have c0:w.cell? ⟨(w0.heap.size+1),0,none⟩=some (.int .u64 q.x0):=hb.cell (i:=0) rfl
    have c1:w.cell? ⟨(w0.heap.size+1),1,none⟩=some (.int .u64 q.x1):=hb.cell (i:=1) rfl
    have c2:w.cell? ⟨(w0.heap.size+1),2,none⟩=some (.int .u64 q.x2):=hb.cell (i:=2) rfl
    have c3:w.cell? ⟨(w0.heap.size+1),3,none⟩=some (.int .u64 q.x3):=hb.cell (i:=3) rfl
    have c4:w.cell? ⟨(w0.heap.size+1),4,none⟩=some (.int .u64 q.x4):=hb.cell (i:=4) rfl
    refine⟨.agg #[.int .u64 q.x0,.int .u64 q.x1,.int .u64 q.x2,.int .u64 q.x3,.int .u64 q.x4],w,?_,h.base,gP _ _,rfl⟩
    clear h hb
    simp only[execOp,Act.eval,e3]
    go_simp
   refine⟨gQ rfl rfl fun a w h=>?_,?_⟩
   .have e15:_=(Fe.cZ cube).v:=h.d 15
    have e16:_=q.v:=h.d 16
    have akv:a.tmps[15]?.getD undef=(Fe.cZ cube).v:=by simpa using e15
    have akw:a.tmps[16]?.getD undef=q.v:=by simpa using e16
    have hb:=h.base
    refine⟨82,#[(Fe.cZ cube).v,q.v],?_,?_⟩
    .clear h hb e15 e16
     go_simp
    .refine (lJ (Fe.cZ cube) q w (Fe.dR _).ok kM).mono ?_
     intro e w1 hp
     obtain⟨rfl,hg⟩:=eX hp
     exact⟨_,rfl,hb.grown hg,Or.inl hg,rfl⟩
   refine⟨dw rfl rfl fun a w h=>?_,?_⟩
   .refine⟨.pointer (some ⟨w.heap.size,0,none⟩),w.alloc (.cells #[.int .u64 0,.int .u64 0,.int .u64 0,.int .u64 0,.int .u64 0] 66),?_,h.base.grown (World.grownBy_alloc _ _ _),Or.inl (World.grownBy_alloc _ _ _),⟨w.heap.size,rfl,⟨_,_,_,_,_,aF.new w [.int .u64 0,.int .u64 0,.int .u64 0,.int .u64 0,.int .u64 0] _⟩,h.base.fresh⟩⟩
    clear h
    go_simp
   refine⟨qD rfl rfl fun a w h=>?_,?_⟩
   .obtain⟨Bn,ep,hroom,hK⟩:∃Bn,a.tmps.getD 6 undef=.pointer (some ⟨Bn,0,none⟩)/\fQ w Bn 66/\(Ct w0 [(w0.heap.size,p),((w0.heap.size+1),q),(B1,cube)]) Bn:=h.dep 6 (by kernel_rfl)
    have e17:_=Value.agg #[.int .u64 (Fe.aM (Fe.cZ cube) q).x0,.int .u64 (Fe.aM (Fe.cZ cube) q).x1,.int .u64 (Fe.aM (Fe.cZ cube) q).x2,.int .u64 (Fe.aM (Fe.cZ cube) q).x3,.int .u64 (Fe.aM (Fe.cZ cube) q).x4]:=h.d 17
    refine⟨jU w Bn (Fe.aM (Fe.cZ cube) q),?_,h.base.set hK _,Or.inr ⟨Bn,rfl,hroom⟩,⟨Bn,ep,hK,jL hroom⟩⟩
    obtain⟨u0,u1,u2,u3,u4,hR⟩:=hroom
    have c0r:=hR.cell (i:=0) rfl;have f0r:=hR.free 0
    have c1r:=hR.cell (i:=1) rfl;have f1r:=hR.free 1
    have c2r:=hR.cell (i:=2) rfl;have f2r:=hR.free 2
    have c3r:=hR.cell (i:=3) rfl;have f3r:=hR.free 3
    have c4r:=hR.cell (i:=4) rfl;have f4r:=hR.free 4
    clear h hK hR
    unfold jU
    simp only[execOp,Act.eval,ep,e17]
    go_simp
   trivial
  .intro a' w2 hB hsz hdf hrest aC jT
   obtain⟨B2,x9,hK,hb⟩:=jT 5 _ rfl rfl
   obtain rfl:=iB (a:=a') (vs:=[.agg #[.int .u64 p.x0,.int .u64 p.x1,.int .u64 p.x2,.int .u64 p.x3,.int .u64 p.x4],.agg #[.int .u64 q.x0,.int .u64 q.x1,.int .u64 q.x2,.int .u64 q.x3,.int .u64 q.x4],.pointer (some ⟨w0.heap.size,0,none⟩),.pointer (some ⟨w0.heap.size+1,0,none⟩),.pointer (some ⟨w0.heap.size+1+1,0,none⟩),.pointer (some ⟨B1,0,none⟩),.pointer (some ⟨B2,0,none⟩),undef,undef,undef,q.v,(Fe.cZ q).v,q.v,(Fe.aM (Fe.cZ q) q).v,cube.v,(Fe.cZ cube).v,q.v,(Fe.aM (Fe.cZ cube) q).v,undef,undef,undef,undef,undef,undef,undef,undef,undef,undef,undef,undef,undef]) hsz ⟨hrest 0 (by kernel_rfl),hrest 1 (by kernel_rfl),hrest 2 (by kernel_rfl),hrest 3 (by kernel_rfl),hrest 4 (by kernel_rfl),hrest 5 (by kernel_rfl),x9,hrest 7 (by kernel_rfl),hrest 8 (by kernel_rfl),hrest 9 (by kernel_rfl),hrest 10 (by kernel_rfl),hrest 11 (by kernel_rfl),hrest 12 (by kernel_rfl),hrest 13 (by kernel_rfl),aC 14 (by kernel_rfl),aC 15 (by kernel_rfl),aC 16 (by kernel_rfl),aC 17 (by kernel_rfl),hrest 18 (by kernel_rfl),hrest 19 (by kernel_rfl),hrest 20 (by kernel_rfl),hrest 21 (by kernel_rfl),hrest 22 (by kernel_rfl),hrest 23 (by kernel_rfl),hrest 24 (by kernel_rfl),hrest 25 (by kernel_rfl),hrest 26 (by kernel_rfl),hrest 27 (by kernel_rfl),hrest 28 (by kernel_rfl),hrest 29 (by kernel_rfl),hrest 30 (by kernel_rfl),trivial⟩ hdf
   clear x9 hsz hdf hrest aC jT hB1
   obtain⟨sev,hf⟩:∃f,f=Fe.aM (Fe.cZ cube) q:=⟨_,rfl⟩
   have aaU:sev.Ok:=by rw[hf];exact (Fe.mul_right _ _).ok
   rw[<- hf]at hb
   have afN:=Lib.hid hf;clear hf
   have gY:=hB.e (w0.heap.size,p) (by simp)
   have c0:=gY.cell (i:=0) rfl
   have c1:=gY.cell (i:=1) rfl
   have c2:=gY.cell (i:=2) rfl
   have c3:=gY.cell (i:=3) rfl
   have c4:=gY.cell (i:=4) rfl
   have d0:=hb.cell (i:=0) rfl
   have d1:=hb.cell (i:=1) rfl
   have d2:=hb.cell (i:=2) rfl
   have d3:=hb.cell (i:=3) rfl
   have d4:=hb.cell (i:=4) rfl
   go_wp2_with fail
   refine (lJ p sev _ iW aaU).mono ?_
   rintro e v3 ⟨base,hbase,rfl,hg3⟩
   have Q9:base.Ok:=by rw[hbase.out];exact (Fe.mul_right _ _).ok
   have hE3:=(hB.grown hg3).grown (World.grownBy_alloc v3 (.cells #[.int .u64 base.x0,.int .u64 base.x1,.int .u64 base.x2,.int .u64 base.x3,.int .u64 base.x4] 66) none)
   have dx:aF (v3.alloc (.cells #[.int .u64 base.x0,.int .u64 base.x1,.int .u64 base.x2,.int .u64 base.x3,.int .u64 base.x4] 66)) v3.heap.size 66 (aR base):=aF.new v3 (aR base) _
   clear gY hB hb hK hg3 c0 c1 c2 c3 c4 d0 d1 d2 d3 d4
   go_wp2_with fail
   refine (wH base _ Q9).mono ?_
   rintro e v4 ⟨C,on,hon,rfl,hg4,hC,hP⟩
   have afP:on.Ok:=by rw[hon.out];exact iU _ _ _
   have gu:=dx.grown hg4 (by simp)
   have c0:=gu.cell (i:=0) rfl
   have c1:=gu.cell (i:=1) rfl
   have c2:=gu.cell (i:=2) rfl
   have c3:=gu.cell (i:=3) rfl
   have c4:=gu.cell (i:=4) rfl
   go_wp2_with fail
   refine (jr C 2 on base _ (by decide) afP Q9 hP).mono ?_
   rintro e v5 ⟨pw,hpw,rfl,hg5,hP5⟩
   have afQ:pw.Ok:=by rw[hpw.out];exact iU _ _ _
   have zu:=(hE3.grown (aW hg4 hg5 hC)).grown (World.grownBy_alloc v5 (.cells #[.int .u64 pw.x0,.int .u64 pw.x1,.int .u64 pw.x2,.int .u64 pw.x3,.int .u64 pw.x4] 66) none)
   have hsz5:=(hE3.grown (aW hg4 hg5 hC)).l
   have U1:aF (v5.alloc (.cells #[.int .u64 pw.x0,.int .u64 pw.x1,.int .u64 pw.x2,.int .u64 pw.x3,.int .u64 pw.x4] 66)) v5.heap.size 66 (aR pw):=aF.new v5 (aR pw) _
   have hlt1:=(zu.e (B1,cube) (by simp)).lt
   have hB6:mR w0 (v5.heap.size+1) [(w0.heap.size,p),(B1,cube),(v5.heap.size,pw)] [(w0.heap.size+1+1)] (v5.alloc (.cells #[.int .u64 pw.x0,.int .u64 pw.x1,.int .u64 pw.x2,.int .u64 pw.x3,.int .u64 pw.x4] 66)):=
    ⟨zu.g,by
     intro z hz
     simp only[List.mem_cons,List.not_mem_nil,or_false]at hz
     rcases hz with rfl|rfl|rfl
     .exact zu.e _ (by simp)
     .exact zu.e _ (by simp)
     .exact U1,zu.r,by
     intro z hz
     have h1:=zu.n (w0.heap.size,p) (by simp)
     have h2:=zu.n (B1,cube) (by simp)
     simp only[List.mem_cons,List.not_mem_nil,or_false]at hz
     rcases hz with rfl|rfl|rfl<;>simp only[]at *<;>omega,by simp,by have:=zu.g.size;simp at this;have:=zu.m;omega⟩
   clear hE3 zu dx gu U1 hg4 hg5 hP hP5 c0 c1 c2 c3 c4
   go_wp2_with fail
   refine jo (sG (Ct w0 [(w0.heap.size,p),(B1,cube),(v5.heap.size,pw)]) [.any,.any,.any,.any,.any,.any,.any,.any,.any,.any,.any,.any,.any,.any,.any,.any,.any,.any,.any,.any,.any,.any,.any,.any,.any,.any,.val p.v,.val cube.v,.val (Fe.aM p cube).v,.val pw.v,.val (Fe.aM (Fe.aM p cube) pw).v]) (fun j=>if j=5 then 4 else 0) (Stored (Ct w0 [(w0.heap.size,p),(B1,cube),(v5.heap.size,pw)]) (Fe.aM (Fe.aM p cube) pw)) (mR w0 (v5.heap.size+1) [(w0.heap.size,p),(B1,cube),(v5.heap.size,pw)] [(w0.heap.size+1+1)]) (F6 (Fe.aM (Fe.aM p cube) pw)) (by kernel_rfl) (by kernel_rfl) (by kernel_rfl) (hB6.grown (sH _)) (fun d u w1 w2 hR h=>nW _ _ _ d u w1 w2 hR h) (fun j u w1 w2 hR h=>l7 _ _ j u w1 w2 hR h) (by kernel_rfl) ?_ ?_
   .refine⟨dw rfl rfl fun a w h=>?_,?_⟩
    .have e2:_=Value.pointer (some ⟨w0.heap.size,0,none⟩):=h.r 2
     have hb:=h.base.e (w0.heap.size,p) (by simp)
     have c0:w.cell? ⟨w0.heap.size,0,none⟩=some (.int .u64 p.x0):=hb.cell (i:=0) rfl
     have c1:w.cell? ⟨w0.heap.size,1,none⟩=some (.int .u64 p.x1):=hb.cell (i:=1) rfl
     have c2:w.cell? ⟨w0.heap.size,2,none⟩=some (.int .u64 p.x2):=hb.cell (i:=2) rfl
     have c3:w.cell? ⟨w0.heap.size,3,none⟩=some (.int .u64 p.x3):=hb.cell (i:=3) rfl
     have c4:w.cell? ⟨w0.heap.size,4,none⟩=some (.int .u64 p.x4):=hb.cell (i:=4) rfl
     refine⟨.agg #[.int .u64 p.x0,.int .u64 p.x1,.int .u64 p.x2,.int .u64 p.x3,.int .u64 p.x4],w,?_,h.base,gP _ _,rfl⟩
     clear h hb
     simp only[execOp,Act.eval,e2]
     go_simp
    refine⟨dw rfl rfl fun a w h=>?_,?_⟩
    .have e5:_=Value.pointer (some ⟨B1,0,none⟩):=h.r 5
     have hb:=h.base.e (B1,cube) (by simp)
     have c0:w.cell? ⟨B1,0,none⟩=some (.int .u64 cube.x0):=hb.cell (i:=0) rfl
     have c1:w.cell? ⟨B1,1,none⟩=some (.int .u64 cube.x1):=hb.cell (i:=1) rfl
     have c2:w.cell? ⟨B1,2,none⟩=some (.int .u64 cube.x2):=hb.cell (i:=2) rfl
     have c3:w.cell? ⟨B1,3,none⟩=some (.int .u64 cube.x3):=hb.cell (i:=3) rfl
     have c4:w.cell? ⟨B1,4,none⟩=some (.int .u64 cube.x4):=hb.cell (i:=4) rfl
     refine⟨.agg #[.int .u64 cube.x0,.int .u64 cube.x1,.int .u64 cube.x2,.int .u64 cube.x3,.int .u64 cube.x4],w,?_,h.base,gP _ _,rfl⟩
     clear h hb
     simp only[execOp,Act.eval,e5]
     go_simp
    refine⟨gQ rfl rfl fun a w h=>?_,?_⟩
    .have e26:_=p.v:=h.d 26
     have e27:_=cube.v:=h.d 27
     have akx:a.tmps[26]?.getD undef=p.v:=by simpa using e26
     have aky:a.tmps[27]?.getD undef=cube.v:=by simpa using e27
     have hb:=h.base
     refine⟨82,#[p.v,cube.v],?_,?_⟩
     .clear h hb e26 e27
      go_simp
     .refine (lJ p cube w iW Q8).mono ?_
      intro e w1 hp
      obtain⟨rfl,hg⟩:=eX hp
      exact⟨_,rfl,hb.grown hg,Or.inl hg,rfl⟩
    refine⟨dw rfl rfl fun a w h=>?_,?_⟩
    .have e9:_=Value.pointer (some ⟨v5.heap.size,0,none⟩):=h.r 9
     have hb:=h.base.e (v5.heap.size,pw) (by simp)
     have c0:w.cell? ⟨v5.heap.size,0,none⟩=some (.int .u64 pw.x0):=hb.cell (i:=0) rfl
     have c1:w.cell? ⟨v5.heap.size,1,none⟩=some (.int .u64 pw.x1):=hb.cell (i:=1) rfl
     have c2:w.cell? ⟨v5.heap.size,2,none⟩=some (.int .u64 pw.x2):=hb.cell (i:=2) rfl
     have c3:w.cell? ⟨v5.heap.size,3,none⟩=some (.int .u64 pw.x3):=hb.cell (i:=3) rfl
     have c4:w.cell? ⟨v5.heap.size,4,none⟩=some (.int .u64 pw.x4):=hb.cell (i:=4) rfl
     refine⟨.agg #[.int .u64 pw.x0,.int .u64 pw.x1,.int .u64 pw.x2,.int .u64 pw.x3,.int .u64 pw.x4],w,?_,h.base,gP _ _,rfl⟩
     clear h hb
     simp only[execOp,Act.eval,e9]
     go_simp
    refine⟨gQ rfl rfl fun a w h=>?_,?_⟩
    .have e28:_=(Fe.aM p cube).v:=h.d 28
     have e29:_=pw.v:=h.d 29
     have akz:a.tmps[28]?.getD undef=(Fe.aM p cube).v:=by simpa using e28
     have akA:a.tmps[29]?.getD undef=pw.v:=by simpa using e29
     have hb:=h.base
     refine⟨82,#[(Fe.aM p cube).v,pw.v],?_,?_⟩
     .clear h hb e28 e29
      go_simp
     .refine (lJ (Fe.aM p cube) pw w (Fe.mul_right _ _).ok afQ).mono ?_
      intro e w1 hp
      obtain⟨rfl,hg⟩:=eX hp
      exact⟨_,rfl,hb.grown hg,Or.inl hg,rfl⟩
    refine⟨qD rfl rfl fun a w h=>?_,?_⟩
    .obtain⟨Bn,hBn⟩:∃Bn,Bn=(w0.heap.size+1+1):=⟨_,rfl⟩
     have ep:a.tmps.getD 4 undef=.pointer (some ⟨Bn,0,none⟩):=by rw[hBn];exact h.rest 4 (by kernel_rfl)
     have hroom:fQ w Bn 66:=by rw[hBn];exact h.base.r _ (by simp)
     have hK:(Ct w0 [(w0.heap.size,p),(B1,cube),(v5.heap.size,pw)]) Bn:=by rw[hBn];exact⟨by omega,by intro z hz;simp only[List.mem_cons,List.not_mem_nil,or_false]at hz;rcases hz with rfl|rfl|rfl<;>simp only[]<;>omega⟩
     clear hBn
     have e30:_=Value.agg #[.int .u64 (Fe.aM (Fe.aM p cube) pw).x0,.int .u64 (Fe.aM (Fe.aM p cube) pw).x1,.int .u64 (Fe.aM (Fe.aM p cube) pw).x2,.int .u64 (Fe.aM (Fe.aM p cube) pw).x3,.int .u64 (Fe.aM (Fe.aM p cube) pw).x4]:=h.d 30
     refine⟨jU w Bn (Fe.aM (Fe.aM p cube) pw),?_,h.base.set hK _,Or.inr ⟨Bn,rfl,hroom⟩,⟨Bn,ep,hK,jL hroom⟩⟩
     obtain⟨u0,u1,u2,u3,u4,hR⟩:=hroom
     have c0r:=hR.cell (i:=0) rfl;have f0r:=hR.free 0
     have c1r:=hR.cell (i:=1) rfl;have f1r:=hR.free 1
     have c2r:=hR.cell (i:=2) rfl;have f2r:=hR.free 2
     have c3r:=hR.cell (i:=3) rfl;have f3r:=hR.free 3
     have c4r:=hR.cell (i:=4) rfl;have f4r:=hR.free 4
     clear h hK hR
     unfold jU
     simp only[execOp,Act.eval,ep,e30]
     go_simp
    trivial
   .intro a' w6 hB hsz hdf hrest aC jT
    obtain⟨B6,x9,hK,hb⟩:=jT 5 _ rfl rfl
    have JR:a'.tmps.getD 4 undef=.pointer (some ⟨w0.heap.size+1+1,0,none⟩):=hrest 4 (by kernel_rfl)
    have Ra:a'.tmps.getD 4 undef=.pointer (some ⟨B6,0,none⟩):=x9
    rw[JR]at Ra
    obtain rfl:w0.heap.size+1+1=B6:=by simpa using Ra
    obtain rfl:=iB (a:=a') (vs:=[.agg #[.int .u64 p.x0,.int .u64 p.x1,.int .u64 p.x2,.int .u64 p.x3,.int .u64 p.x4],.agg #[.int .u64 q.x0,.int .u64 q.x1,.int .u64 q.x2,.int .u64 q.x3,.int .u64 q.x4],.pointer (some ⟨w0.heap.size,0,none⟩),.pointer (some ⟨w0.heap.size+1,0,none⟩),.pointer (some ⟨w0.heap.size+1+1,0,none⟩),.pointer (some ⟨B1,0,none⟩),.pointer (some ⟨B2,0,none⟩),.pointer (some ⟨v3.heap.size,0,none⟩),.func (.func 150) #[] #[.pointer (some ⟨C,0,none⟩)],.pointer (some ⟨v5.heap.size,0,none⟩),q.v,(Fe.cZ q).v,q.v,(Fe.aM (Fe.cZ q) q).v,cube.v,(Fe.cZ cube).v,q.v,(Fe.aM (Fe.cZ cube) q).v,.agg #[.int .u64 p.x0,.int .u64 p.x1,.int .u64 p.x2,.int .u64 p.x3,.int .u64 p.x4],.agg #[.int .u64 sev.x0,.int .u64 sev.x1,.int .u64 sev.x2,.int .u64 sev.x3,.int .u64 sev.x4],.agg #[.int .u64 base.x0,.int .u64 base.x1,.int .u64 base.x2,.int .u64 base.x3,.int .u64 base.x4],.agg #[.int .u64 base.x0,.int .u64 base.x1,.int .u64 base.x2,.int .u64 base.x3,.int .u64 base.x4],.func (.func 150) #[] #[.pointer (some ⟨C,0,none⟩)],.func (.func 150) #[] #[.pointer (some ⟨C,0,none⟩)],.agg #[.int .u64 base.x0,.int .u64 base.x1,.int .u64 base.x2,.int .u64 base.x3,.int .u64 base.x4],.agg #[.int .u64 pw.x0,.int .u64 pw.x1,.int .u64 pw.x2,.int .u64 pw.x3,.int .u64 pw.x4],p.v,cube.v,(Fe.aM p cube).v,pw.v,(Fe.aM (Fe.aM p cube) pw).v]) hsz ⟨hrest 0 (by kernel_rfl),hrest 1 (by kernel_rfl),hrest 2 (by kernel_rfl),hrest 3 (by kernel_rfl),hrest 4 (by kernel_rfl),hrest 5 (by kernel_rfl),hrest 6 (by kernel_rfl),hrest 7 (by kernel_rfl),hrest 8 (by kernel_rfl),hrest 9 (by kernel_rfl),hrest 10 (by kernel_rfl),hrest 11 (by kernel_rfl),hrest 12 (by kernel_rfl),hrest 13 (by kernel_rfl),hrest 14 (by kernel_rfl),hrest 15 (by kernel_rfl),hrest 16 (by kernel_rfl),hrest 17 (by kernel_rfl),hrest 18 (by kernel_rfl),hrest 19 (by kernel_rfl),hrest 20 (by kernel_rfl),hrest 21 (by kernel_rfl),hrest 22 (by kernel_rfl),hrest 23 (by kernel_rfl),hrest 24 (by kernel_rfl),hrest 25 (by kernel_rfl),aC 26 (by kernel_rfl),aC 27 (by kernel_rfl),aC 28 (by kernel_rfl),aC 29 (by kernel_rfl),aC 30 (by kernel_rfl),trivial⟩ hdf
    have G6:=hB.g
    clear x9 Ra hsz hdf hrest aC jT hB6 JR hB
    obtain⟨g,hf⟩:∃f,f=Fe.aM (Fe.aM p cube) pw:=⟨_,rfl⟩
    rw[<- hf]at hb
    have Hg:=Lib.hid hf;clear hf
    have c0:=hb.cell (i:=0) rfl
    have c1:=hb.cell (i:=1) rfl
    have c2:=hb.cell (i:=2) rfl
    have c3:=hb.cell (i:=3) rfl
    have c4:=hb.cell (i:=4) rfl
    go_wp2_with fail
    refine bodyPost_ret (v:=.agg #[.int .u64 g.x0,.int .u64 g.x1,.int .u64 g.x2,.int .u64 g.x3,.int .u64 g.x4]) ?_ rfl ⟨g,Lib.hid ?_,rfl,G6⟩
    .simp[results,Tryz.results157,go_sem,c0,c1,c2,c3,c4]
    .rw[Hg.out,hpw.out,hon.out,hbase.out,afN.out,aaT.out];rfl
end
section
open Go.RowKit
def tZ (F:Fe) (b:Bool) (w:World) (e:Ending) (w':World):Prop:=
 ∃r:Fe,Hid (r=F)/\e=.returned (.tuple #[.agg #[.int .u64 r.x0,.int .u64 r.x1,.int .u64 r.x2,.int .u64 r.x3,.int .u64 r.x4],.bool b])/\w.grownBy w' none
theorem Aq:gq.Ok:=by constructor<;>decide
theorem jZ (p q s:Fe) (b:Bool) (w:World) (iW:p.Ok) (kM:q.Ok) (oks:s.Ok) (hb:decide (Fe.m (Fe.aM (Fe.cZ p) s)=Fe.m q)=b):
  Calls Tryz.prog 158 #[.agg #[.int .u64 p.x0,.int .u64 p.x1,.int .u64 p.x2,.int .u64 p.x3,.int .u64 p.x4],.agg #[.int .u64 q.x0,.int .u64 q.x1,.int .u64 q.x2,.int .u64 q.x3,.int .u64 q.x4],.agg #[.int .u64 s.x0,.int .u64 s.x1,.int .u64 s.x2,.int .u64 s.x3,.int .u64 s.x4]] w fun e w'=>e=.returned (.bool b)/\w.grownBy w' none:=by
 rw[<- hb];exact Ae p q s w iW kM oks
theorem wJ (p:Fe) (b:Bool) (w:World) (iW:p.Ok) (hb:decide (Fe.m p%2=1)=b):Calls Tryz.prog 83 #[.agg #[.int .u64 p.x0,.int .u64 p.x1,.int .u64 p.x2,.int .u64 p.x3,.int .u64 p.x4]] w fun e w'=>e=.returned (.bool b)/\w.grownBy w' none:=by
 rw[<- hb];exact UZ p w iW
theorem sI (p q:Fe) (w0:World):mR w0 (w0.heap.size+3) [(w0.heap.size,p),(w0.heap.size+1,q)] [w0.heap.size+1+1] (((w0.alloc (.cells #[.int .u64 p.x0,.int .u64 p.x1,.int .u64 p.x2,.int .u64 p.x3,.int .u64 p.x4] 66)).alloc (.cells #[.int .u64 q.x0,.int .u64 q.x1,.int .u64 q.x2,.int .u64 q.x3,.int .u64 q.x4] 66)).alloc (.cells #[.int .u64 0,.int .u64 0,.int .u64 0,.int .u64 0,.int .u64 0] 66)):=
 ⟨au (au (au (ah _ _) _) _) _,by
  intro z hz
  simp only[List.mem_cons,List.not_mem_nil,or_false]at hz
  rcases hz with rfl|rfl
  .exact ((aF.new w0 (aR _) _).alloc _).alloc _
  .exact (aF.newAt (w0.alloc _) (aR _) _ (by simp)).alloc _,by
  intro B hB
  simp only[List.mem_cons,List.not_mem_nil,or_false]at hB
  subst hB
  exact⟨_,_,_,_,_,aF.newAt _ [.int .u64 0,.int .u64 0,.int .u64 0,.int .u64 0,.int .u64 0] _ (by simp)⟩,by intro z hz;simp only[List.mem_cons,List.not_mem_nil,or_false]at hz;rcases hz with rfl|rfl<;>simp only[]<;>omega,by simp,by omega⟩
set_option maxRecDepth 100000 in
set_option maxHeartbeats 1600000 in
theorem U5 (p q:Fe) (w0:World) (hT:rJ w0) (iW:p.Ok) (kM:q.Ok) (h1:decide (Fe.m (Fe.aM (Fe.cZ (dV p q)) q)=Fe.m p)=true) (h3:decide (Fe.m (dV p q)%2=1)=false):
  Calls Tryz.prog 153 #[.agg #[.int .u64 p.x0,.int .u64 p.x1,.int .u64 p.x2,.int .u64 p.x3,.int .u64 p.x4],.agg #[.int .u64 q.x0,.int .u64 q.x1,.int .u64 q.x2,.int .u64 q.x3,.int .u64 q.x4]] w0 (tZ (dV p q) true w0):=by
 have HT:=Lib.hid hT;clear hT
 have H1:=Lib.hid h1;clear h1
 have H3:=Lib.hid h3;clear h3
 have hE0:mR w0 (w0.heap.size+3) [(w0.heap.size,p),(w0.heap.size+1,q)] [w0.heap.size+1+1] (((w0.alloc (.cells #[.int .u64 p.x0,.int .u64 p.x1,.int .u64 p.x2,.int .u64 p.x3,.int .u64 p.x4] 66)).alloc (.cells #[.int .u64 q.x0,.int .u64 q.x1,.int .u64 q.x2,.int .u64 q.x3,.int .u64 q.x4] 66)).alloc (.cells #[.int .u64 0,.int .u64 0,.int .u64 0,.int .u64 0,.int .u64 0] 66)):=sI p q w0
 go_enter Tryz.func153,Tryz.ntmps153
 go_wp2_with fail
 refine (qh p q _ iW kM).mono ?_
 rintro e v1 ⟨g,hg,rfl,hg1⟩
 have F7:g.Ok:=by rw[hg.out];exact (Fe.mul_right _ _).ok
 have hE1:=(hE0.grown hg1).grown (World.grownBy_alloc v1 (.cells #[.int .u64 g.x0,.int .u64 g.x1,.int .u64 g.x2,.int .u64 g.x3,.int .u64 g.x4] 66) none)
 have hl1:=(hE0.grown hg1).l
 have hG1:aF (v1.alloc (.cells #[.int .u64 g.x0,.int .u64 g.x1,.int .u64 g.x2,.int .u64 g.x3,.int .u64 g.x4] 66)) v1.heap.size 66 (aR g):=aF.new v1 (aR g) _
 clear hE0 hg1
 have gY:=hE1.e (w0.heap.size,p) (by simp)
 have iI:=hE1.e (w0.heap.size+1,q) (by simp)
 have c0:=gY.cell (i:=0) rfl
 have c1:=gY.cell (i:=1) rfl
 have c2:=gY.cell (i:=2) rfl
 have c3:=gY.cell (i:=3) rfl
 have c4:=gY.cell (i:=4) rfl
 have d0:=iI.cell (i:=0) rfl
 have d1:=iI.cell (i:=1) rfl
 have d2:=iI.cell (i:=2) rfl
 have d3:=iI.cell (i:=3) rfl
 have d4:=iI.cell (i:=4) rfl
 go_wp2_with fail
 refine (jZ g p q true _ F7 iW kM (by rw[hg.out];exact H1.out)).mono ?_
 rintro e v2 ⟨rfl,hg2⟩
 have hE2:=hE1.grown hg2
 have hG2:=hG1.grown hg2 (by simp)
 clear hE1 hG1 hg2 gY iI c0 c1 c2 c3 c4 d0 d1 d2 d3 d4
 have gY:=hE2.e (w0.heap.size,p) (by simp)
 have iI:=hE2.e (w0.heap.size+1,q) (by simp)
 have c0:=gY.cell (i:=0) rfl
 have c1:=gY.cell (i:=1) rfl
 have c2:=gY.cell (i:=2) rfl
 have c3:=gY.cell (i:=3) rfl
 have c4:=gY.cell (i:=4) rfl
 have d0:=iI.cell (i:=0) rfl
 have d1:=iI.cell (i:=1) rfl
 have d2:=iI.cell (i:=2) rfl
 have d3:=iI.cell (i:=3) rfl
 have d4:=iI.cell (i:=4) rfl
 have x0:=hG2.cell (i:=0) rfl
 have x1:=hG2.cell (i:=1) rfl
 have x2:=hG2.cell (i:=2) rfl
 have x3:=hG2.cell (i:=3) rfl
 have x4:=hG2.cell (i:=4) rfl
 have y0:=hG2.free 0
 have y1:=hG2.free 1
 have y2:=hG2.free 2
 have y3:=hG2.free 3
 have y4:=hG2.free 4
 go_wp2_with fail
 refine (jZ g p q true _ F7 iW kM (by rw[hg.out];exact H1.out)).mono ?_
 rintro e v5 ⟨rfl,hg5⟩
 have zu:=hE2.grown hg5
 have mK:=hG2.grown hg5 (by simp)
 clear hE2 hG2 hg5 gY iI c0 c1 c2 c3 c4 d0 d1 d2 d3 d4 x0 x1 x2 x3 x4 y0 y1 y2 y3 y4
 have x0:=mK.cell (i:=0) rfl
 have x1:=mK.cell (i:=1) rfl
 have x2:=mK.cell (i:=2) rfl
 have x3:=mK.cell (i:=3) rfl
 have x4:=mK.cell (i:=4) rfl
 have y0:=mK.free 0
 have y1:=mK.free 1
 have y2:=mK.free 2
 have y3:=mK.free 3
 have y4:=mK.free 4
 go_wp2_with fail
 refine (wJ g false _ F7 (by rw[hg.out];exact H3.out)).mono ?_
 rintro e v6 ⟨rfl,uS⟩
 have Oa:=zu.grown uS
 have nX:=mK.grown uS (by simp)
 clear zu mK uS x0 x1 x2 x3 x4 y0 y1 y2 y3 y4
 have x0:=nX.cell (i:=0) rfl
 have x1:=nX.cell (i:=1) rfl
 have x2:=nX.cell (i:=2) rfl
 have x3:=nX.cell (i:=3) rfl
 have x4:=nX.cell (i:=4) rfl
 have y0:=nX.free 0
 have y1:=nX.free 1
 have y2:=nX.free 2
 have y3:=nX.free 3
 have y4:=nX.free 4
 obtain⟨u0,u1,u2,u3,u4,hR⟩:=Oa.r _ (List.mem_singleton.2 rfl)
 have s0:=hR.cell (i:=0) rfl
 have s1:=hR.cell (i:=1) rfl
 have s2:=hR.cell (i:=2) rfl
 have s3:=hR.cell (i:=3) rfl
 have s4:=hR.cell (i:=4) rfl
 have z0:=hR.free 0
 have z1:=hR.free 1
 have z2:=hR.free 2
 have z3:=hR.free 3
 have z4:=hR.free 4
 go_wp2_with fail
 refine bodyPost_ret (v:=.tuple #[.agg #[.int .u64 g.x0,.int .u64 g.x1,.int .u64 g.x2,.int .u64 g.x3,.int .u64 g.x4],.bool true]) ?_ rfl ⟨g,Lib.hid (by rw[hg.out]),rfl,jD Oa.g (by omega) _ _ _ _ _⟩
 simp[results,Tryz.results153,go_sem,s0,s1,s2,s3,s4]
set_option maxRecDepth 100000 in
set_option maxHeartbeats 1600000 in
theorem U6 (p q:Fe) (w0:World) (hT:rJ w0) (iW:p.Ok) (kM:q.Ok) (h1:decide (Fe.m (Fe.aM (Fe.cZ (dV p q)) q)=Fe.m p)=true) (h3:decide (Fe.m (dV p q)%2=1)=true):
  Calls Tryz.prog 153 #[.agg #[.int .u64 p.x0,.int .u64 p.x1,.int .u64 p.x2,.int .u64 p.x3,.int .u64 p.x4],.agg #[.int .u64 q.x0,.int .u64 q.x1,.int .u64 q.x2,.int .u64 q.x3,.int .u64 q.x4]] w0 (tZ (Fe.kL (dV p q)) true w0):=by
 have HT:=Lib.hid hT;clear hT
 have H1:=Lib.hid h1;clear h1
 have H3:=Lib.hid h3;clear h3
 have hE0:mR w0 (w0.heap.size+3) [(w0.heap.size,p),(w0.heap.size+1,q)] [w0.heap.size+1+1] (((w0.alloc (.cells #[.int .u64 p.x0,.int .u64 p.x1,.int .u64 p.x2,.int .u64 p.x3,.int .u64 p.x4] 66)).alloc (.cells #[.int .u64 q.x0,.int .u64 q.x1,.int .u64 q.x2,.int .u64 q.x3,.int .u64 q.x4] 66)).alloc (.cells #[.int .u64 0,.int .u64 0,.int .u64 0,.int .u64 0,.int .u64 0] 66)):=sI p q w0
 go_enter Tryz.func153,Tryz.ntmps153
 go_wp2_with fail
 refine (qh p q _ iW kM).mono ?_
 rintro e v1 ⟨g,hg,rfl,hg1⟩
 have F7:g.Ok:=by rw[hg.out];exact (Fe.mul_right _ _).ok
 have hE1:=(hE0.grown hg1).grown (World.grownBy_alloc v1 (.cells #[.int .u64 g.x0,.int .u64 g.x1,.int .u64 g.x2,.int .u64 g.x3,.int .u64 g.x4] 66) none)
 have hl1:=(hE0.grown hg1).l
 have hG1:aF (v1.alloc (.cells #[.int .u64 g.x0,.int .u64 g.x1,.int .u64 g.x2,.int .u64 g.x3,.int .u64 g.x4] 66)) v1.heap.size 66 (aR g):=aF.new v1 (aR g) _
 clear hE0 hg1
 have gY:=hE1.e (w0.heap.size,p) (by simp)
 have iI:=hE1.e (w0.heap.size+1,q) (by simp)
 have c0:=gY.cell (i:=0) rfl
 have c1:=gY.cell (i:=1) rfl
 have c2:=gY.cell (i:=2) rfl
 have c3:=gY.cell (i:=3) rfl
 have c4:=gY.cell (i:=4) rfl
 have d0:=iI.cell (i:=0) rfl
 have d1:=iI.cell (i:=1) rfl
 have d2:=iI.cell (i:=2) rfl
 have d3:=iI.cell (i:=3) rfl
 have d4:=iI.cell (i:=4) rfl
 go_wp2_with fail
 refine (jZ g p q true _ F7 iW kM (by rw[hg.out];exact H1.out)).mono ?_
 rintro e v2 ⟨rfl,hg2⟩
 have hE2:=hE1.grown hg2
 have hG2:=hG1.grown hg2 (by simp)
 clear hE1 hG1 hg2 gY iI c0 c1 c2 c3 c4 d0 d1 d2 d3 d4
 have gY:=hE2.e (w0.heap.size,p) (by simp)
 have iI:=hE2.e (w0.heap.size+1,q) (by simp)
 have c0:=gY.cell (i:=0) rfl
 have c1:=gY.cell (i:=1) rfl
 have c2:=gY.cell (i:=2) rfl
 have c3:=gY.cell (i:=3) rfl
 have c4:=gY.cell (i:=4) rfl
 have d0:=iI.cell (i:=0) rfl
 have d1:=iI.cell (i:=1) rfl
 have d2:=iI.cell (i:=2) rfl
 have d3:=iI.cell (i:=3) rfl
 have d4:=iI.cell (i:=4) rfl
 have x0:=hG2.cell (i:=0) rfl
 have x1:=hG2.cell (i:=1) rfl
 have x2:=hG2.cell (i:=2) rfl
 have x3:=hG2.cell (i:=3) rfl
 have x4:=hG2.cell (i:=4) rfl
 have y0:=hG2.free 0
 have y1:=hG2.free 1
 have y2:=hG2.free 2
 have y3:=hG2.free 3
 have y4:=hG2.free 4
 go_wp2_with fail
 refine (jZ g p q true _ F7 iW kM (by rw[hg.out];exact H1.out)).mono ?_
 rintro e v5 ⟨rfl,hg5⟩
 have zu:=hE2.grown hg5
 have mK:=hG2.grown hg5 (by simp)
 clear hE2 hG2 hg5 gY iI c0 c1 c2 c3 c4 d0 d1 d2 d3 d4 x0 x1 x2 x3 x4 y0 y1 y2 y3 y4
 have x0:=mK.cell (i:=0) rfl
 have x1:=mK.cell (i:=1) rfl
 have x2:=mK.cell (i:=2) rfl
 have x3:=mK.cell (i:=3) rfl
 have x4:=mK.cell (i:=4) rfl
 have y0:=mK.free 0
 have y1:=mK.free 1
 have y2:=mK.free 2
 have y3:=mK.free 3
 have y4:=mK.free 4
 go_wp2_with fail
 refine (wJ g true _ F7 (by rw[hg.out];exact H3.out)).mono ?_
 rintro e v6 ⟨rfl,uS⟩
 have Oa:=zu.grown uS
 have nX:=mK.grown uS (by simp)
 clear zu mK uS x0 x1 x2 x3 x4 y0 y1 y2 y3 y4
 have x0:=nX.cell (i:=0) rfl
 have x1:=nX.cell (i:=1) rfl
 have x2:=nX.cell (i:=2) rfl
 have x3:=nX.cell (i:=3) rfl
 have x4:=nX.cell (i:=4) rfl
 have y0:=nX.free 0
 have y1:=nX.free 1
 have y2:=nX.free 2
 have y3:=nX.free 3
 have y4:=nX.free 4
 go_wp2_with fail
 refine (Ef g _ (HT.out.grown Oa.g) F7).mono ?_
 rintro e v7 ⟨n,hn,rfl,JU⟩
 have hK2:Ct w0 [(w0.heap.size,p),(w0.heap.size+1,q)] v1.heap.size:=by
  refine⟨by omega,?_⟩
  intro z hz
  simp only[List.mem_cons,List.not_mem_nil,or_false]at hz
  rcases hz with rfl|rfl<;>simp only[]<;>omega
 have Yb:=(Oa.grown JU).set hK2 n
 have Cu:=nX.grown JU (by simp)
 clear Oa nX JU x0 x1 x2 x3 x4 y0 y1 y2 y3 y4
 have x0:=Cu.cell (i:=0) rfl
 have x1:=Cu.cell (i:=1) rfl
 have x2:=Cu.cell (i:=2) rfl
 have x3:=Cu.cell (i:=3) rfl
 have x4:=Cu.cell (i:=4) rfl
 have y0:=Cu.free 0
 have y1:=Cu.free 1
 have y2:=Cu.free 2
 have y3:=Cu.free 3
 have y4:=Cu.free 4
 obtain⟨u0,u1,u2,u3,u4,hR⟩:=Yb.r _ (List.mem_singleton.2 rfl)
 unfold jU at Yb hR
 have s0:=hR.cell (i:=0) rfl
 have s1:=hR.cell (i:=1) rfl
 have s2:=hR.cell (i:=2) rfl
 have s3:=hR.cell (i:=3) rfl
 have s4:=hR.cell (i:=4) rfl
 have z0:=hR.free 0
 have z1:=hR.free 1
 have z2:=hR.free 2
 have z3:=hR.free 3
 have z4:=hR.free 4
 go_wp2_with fail
 refine bodyPost_ret (v:=.tuple #[.agg #[.int .u64 n.x0,.int .u64 n.x1,.int .u64 n.x2,.int .u64 n.x3,.int .u64 n.x4],.bool true]) ?_ rfl ⟨n,Lib.hid (by rw[hn.out,hg.out]),rfl,jD Yb.g (by omega) _ _ _ _ _⟩
 simp[results,Tryz.results153,go_sem,s0,s1,s2,s3,s4]
set_option maxRecDepth 100000 in
set_option maxHeartbeats 1600000 in
theorem U7 (p q:Fe) (w0:World) (hT:rJ w0) (iW:p.Ok) (kM:q.Ok) (h1:decide (Fe.m (Fe.aM (Fe.cZ (dV p q)) q)=Fe.m p)=false) (h2:decide (Fe.m (Fe.aM (Fe.cZ (Fe.aM (dV p q) gq)) q)=Fe.m p)=true) (h3:decide (Fe.m (Fe.aM (dV p q) gq)%2=1)=false):
  Calls Tryz.prog 153 #[.agg #[.int .u64 p.x0,.int .u64 p.x1,.int .u64 p.x2,.int .u64 p.x3,.int .u64 p.x4],.agg #[.int .u64 q.x0,.int .u64 q.x1,.int .u64 q.x2,.int .u64 q.x3,.int .u64 q.x4]] w0 (tZ (Fe.aM (dV p q) gq) true w0):=by
 have HT:=Lib.hid hT;clear hT
 have H1:=Lib.hid h1;clear h1
 have H2:=Lib.hid h2;clear h2
 have H3:=Lib.hid h3;clear h3
 have hE0:mR w0 (w0.heap.size+3) [(w0.heap.size,p),(w0.heap.size+1,q)] [w0.heap.size+1+1] (((w0.alloc (.cells #[.int .u64 p.x0,.int .u64 p.x1,.int .u64 p.x2,.int .u64 p.x3,.int .u64 p.x4] 66)).alloc (.cells #[.int .u64 q.x0,.int .u64 q.x1,.int .u64 q.x2,.int .u64 q.x3,.int .u64 q.x4] 66)).alloc (.cells #[.int .u64 0,.int .u64 0,.int .u64 0,.int .u64 0,.int .u64 0] 66)):=sI p q w0
 go_enter Tryz.func153,Tryz.ntmps153
 go_wp2_with fail
 refine (qh p q _ iW kM).mono ?_
 rintro e v1 ⟨g,hg,rfl,hg1⟩
 have F7:g.Ok:=by rw[hg.out];exact (Fe.mul_right _ _).ok
 have hE1:=(hE0.grown hg1).grown (World.grownBy_alloc v1 (.cells #[.int .u64 g.x0,.int .u64 g.x1,.int .u64 g.x2,.int .u64 g.x3,.int .u64 g.x4] 66) none)
 have hl1:=(hE0.grown hg1).l
 have hG1:aF (v1.alloc (.cells #[.int .u64 g.x0,.int .u64 g.x1,.int .u64 g.x2,.int .u64 g.x3,.int .u64 g.x4] 66)) v1.heap.size 66 (aR g):=aF.new v1 (aR g) _
 clear hE0 hg1
 have gY:=hE1.e (w0.heap.size,p) (by simp)
 have iI:=hE1.e (w0.heap.size+1,q) (by simp)
 have c0:=gY.cell (i:=0) rfl
 have c1:=gY.cell (i:=1) rfl
 have c2:=gY.cell (i:=2) rfl
 have c3:=gY.cell (i:=3) rfl
 have c4:=gY.cell (i:=4) rfl
 have d0:=iI.cell (i:=0) rfl
 have d1:=iI.cell (i:=1) rfl
 have d2:=iI.cell (i:=2) rfl
 have d3:=iI.cell (i:=3) rfl
 have d4:=iI.cell (i:=4) rfl
 go_wp2_with fail
 refine (jZ g p q false _ F7 iW kM (by rw[hg.out];exact H1.out)).mono ?_
 rintro e v2 ⟨rfl,hg2⟩
 have hE2:=hE1.grown hg2
 have hG2:=hG1.grown hg2 (by simp)
 clear hE1 hG1 hg2 gY iI c0 c1 c2 c3 c4 d0 d1 d2 d3 d4
 have gY:=hE2.e (w0.heap.size,p) (by simp)
 have iI:=hE2.e (w0.heap.size+1,q) (by simp)
 have c0:=gY.cell (i:=0) rfl
 have c1:=gY.cell (i:=1) rfl
 have c2:=gY.cell (i:=2) rfl
 have c3:=gY.cell (i:=3) rfl
 have c4:=gY.cell (i:=4) rfl
 have d0:=iI.cell (i:=0) rfl
 have d1:=iI.cell (i:=1) rfl
 have d2:=iI.cell (i:=2) rfl
 have d3:=iI.cell (i:=3) rfl
 have d4:=iI.cell (i:=4) rfl
 have x0:=hG2.cell (i:=0) rfl
 have x1:=hG2.cell (i:=1) rfl
 have x2:=hG2.cell (i:=2) rfl
 have x3:=hG2.cell (i:=3) rfl
 have x4:=hG2.cell (i:=4) rfl
 have y0:=hG2.free 0
 have y1:=hG2.free 1
 have y2:=hG2.free 2
 have y3:=hG2.free 3
 have y4:=hG2.free 4
 have Db:=HT.out.grown hE2.g
 have t0:v2.cell? ⟨6,0,none⟩=some (.int .u64 gq.x0):=Db.q 0 (by decide)
 have t1:v2.cell? ⟨6,1,none⟩=some (.int .u64 gq.x1):=Db.q 1 (by decide)
 have t2:v2.cell? ⟨6,2,none⟩=some (.int .u64 gq.x2):=Db.q 2 (by decide)
 have t3:v2.cell? ⟨6,3,none⟩=some (.int .u64 gq.x3):=Db.q 3 (by decide)
 have t4:v2.cell? ⟨6,4,none⟩=some (.int .u64 gq.x4):=Db.q 4 (by decide)
 clear Db
 go_wp2_with fail
 refine (lJ g gq _ F7 Aq).mono ?_
 rintro e v3 ⟨gi,hgi,rfl,hg3⟩
 have F8:gi.Ok:=by rw[hgi.out];exact (Fe.mul_right _ _).ok
 have hK:Ct w0 [(w0.heap.size,p),(w0.heap.size+1,q)] v1.heap.size:=by
  refine⟨by omega,?_⟩
  intro z hz
  simp only[List.mem_cons,List.not_mem_nil,or_false]at hz
  rcases hz with rfl|rfl<;>simp only[]<;>omega
 have F9:=(hE2.grown hg3).set hK gi
 have hG4:aF (jU v3 v1.heap.size gi) v1.heap.size 66 (aR gi):=jL ⟨_,_,_,_,_,hG2.grown hg3 (by simp)⟩
 have hG3:=hG2.grown hg3 (by simp)
 clear hE2 hG2 hg3 gY iI c0 c1 c2 c3 c4 d0 d1 d2 d3 d4 x0 x1 x2 x3 x4 y0 y1 y2 y3 y4 t0 t1 t2 t3 t4
 have x0:=hG3.cell (i:=0) rfl
 have x1:=hG3.cell (i:=1) rfl
 have x2:=hG3.cell (i:=2) rfl
 have x3:=hG3.cell (i:=3) rfl
 have x4:=hG3.cell (i:=4) rfl
 have y0:=hG3.free 0
 have y1:=hG3.free 1
 have y2:=hG3.free 2
 have y3:=hG3.free 3
 have y4:=hG3.free 4
 have gY:=F9.e (w0.heap.size,p) (by simp)
 have iI:=F9.e (w0.heap.size+1,q) (by simp)
 unfold jU at F9 hG4 gY iI
 have c0:=gY.cell (i:=0) rfl
 have c1:=gY.cell (i:=1) rfl
 have c2:=gY.cell (i:=2) rfl
 have c3:=gY.cell (i:=3) rfl
 have c4:=gY.cell (i:=4) rfl
 have d0:=iI.cell (i:=0) rfl
 have d1:=iI.cell (i:=1) rfl
 have d2:=iI.cell (i:=2) rfl
 have d3:=iI.cell (i:=3) rfl
 have d4:=iI.cell (i:=4) rfl
 go_wp2_with fail
 refine (jZ gi p q true _ F8 iW kM (by rw[hgi.out,hg.out];exact H2.out)).mono ?_
 rintro e v5 ⟨rfl,hg5⟩
 have zu:=F9.grown hg5
 have mK:=hG4.grown hg5 (by simp)
 clear F9 hG4 hG3 hg5 gY iI c0 c1 c2 c3 c4 d0 d1 d2 d3 d4 x0 x1 x2 x3 x4 y0 y1 y2 y3 y4
 have x0:=mK.cell (i:=0) rfl
 have x1:=mK.cell (i:=1) rfl
 have x2:=mK.cell (i:=2) rfl
 have x3:=mK.cell (i:=3) rfl
 have x4:=mK.cell (i:=4) rfl
 have y0:=mK.free 0
 have y1:=mK.free 1
 have y2:=mK.free 2
 have y3:=mK.free 3
 have y4:=mK.free 4
 go_wp2_with fail
 refine (wJ gi false _ F8 (by rw[hgi.out,hg.out];exact H3.out)).mono ?_
 rintro e v6 ⟨rfl,uS⟩
 have Oa:=zu.grown uS
 have nX:=mK.grown uS (by simp)
 clear zu mK uS x0 x1 x2 x3 x4 y0 y1 y2 y3 y4
 have x0:=nX.cell (i:=0) rfl
 have x1:=nX.cell (i:=1) rfl
 have x2:=nX.cell (i:=2) rfl
 have x3:=nX.cell (i:=3) rfl
 have x4:=nX.cell (i:=4) rfl
 have y0:=nX.free 0
 have y1:=nX.free 1
 have y2:=nX.free 2
 have y3:=nX.free 3
 have y4:=nX.free 4
 obtain⟨u0,u1,u2,u3,u4,hR⟩:=Oa.r _ (List.mem_singleton.2 rfl)
 have s0:=hR.cell (i:=0) rfl
 have s1:=hR.cell (i:=1) rfl
 have s2:=hR.cell (i:=2) rfl
 have s3:=hR.cell (i:=3) rfl
 have s4:=hR.cell (i:=4) rfl
 have z0:=hR.free 0
 have z1:=hR.free 1
 have z2:=hR.free 2
 have z3:=hR.free 3
 have z4:=hR.free 4
 go_wp2_with fail
 refine bodyPost_ret (v:=.tuple #[.agg #[.int .u64 gi.x0,.int .u64 gi.x1,.int .u64 gi.x2,.int .u64 gi.x3,.int .u64 gi.x4],.bool true]) ?_ rfl ⟨gi,Lib.hid (by rw[hgi.out,hg.out]),rfl,jD Oa.g (by omega) _ _ _ _ _⟩
 simp[results,Tryz.results153,go_sem,s0,s1,s2,s3,s4]
set_option maxRecDepth 100000 in
set_option maxHeartbeats 1600000 in
theorem U8 (p q:Fe) (w0:World) (hT:rJ w0) (iW:p.Ok) (kM:q.Ok) (h1:decide (Fe.m (Fe.aM (Fe.cZ (dV p q)) q)=Fe.m p)=false) (h2:decide (Fe.m (Fe.aM (Fe.cZ (Fe.aM (dV p q) gq)) q)=Fe.m p)=true) (h3:decide (Fe.m (Fe.aM (dV p q) gq)%2=1)=true):
  Calls Tryz.prog 153 #[.agg #[.int .u64 p.x0,.int .u64 p.x1,.int .u64 p.x2,.int .u64 p.x3,.int .u64 p.x4],.agg #[.int .u64 q.x0,.int .u64 q.x1,.int .u64 q.x2,.int .u64 q.x3,.int .u64 q.x4]] w0 (tZ (Fe.kL (Fe.aM (dV p q) gq)) true w0):=by
 have HT:=Lib.hid hT;clear hT
 have H1:=Lib.hid h1;clear h1
 have H2:=Lib.hid h2;clear h2
 have H3:=Lib.hid h3;clear h3
 have hE0:mR w0 (w0.heap.size+3) [(w0.heap.size,p),(w0.heap.size+1,q)] [w0.heap.size+1+1] (((w0.alloc (.cells #[.int .u64 p.x0,.int .u64 p.x1,.int .u64 p.x2,.int .u64 p.x3,.int .u64 p.x4] 66)).alloc (.cells #[.int .u64 q.x0,.int .u64 q.x1,.int .u64 q.x2,.int .u64 q.x3,.int .u64 q.x4] 66)).alloc (.cells #[.int .u64 0,.int .u64 0,.int .u64 0,.int .u64 0,.int .u64 0] 66)):=sI p q w0
 go_enter Tryz.func153,Tryz.ntmps153
 go_wp2_with fail
 refine (qh p q _ iW kM).mono ?_
 rintro e v1 ⟨g,hg,rfl,hg1⟩
 have F7:g.Ok:=by rw[hg.out];exact (Fe.mul_right _ _).ok
 have hE1:=(hE0.grown hg1).grown (World.grownBy_alloc v1 (.cells #[.int .u64 g.x0,.int .u64 g.x1,.int .u64 g.x2,.int .u64 g.x3,.int .u64 g.x4] 66) none)
 have hl1:=(hE0.grown hg1).l
 have hG1:aF (v1.alloc (.cells #[.int .u64 g.x0,.int .u64 g.x1,.int .u64 g.x2,.int .u64 g.x3,.int .u64 g.x4] 66)) v1.heap.size 66 (aR g):=aF.new v1 (aR g) _
 clear hE0 hg1
 have gY:=hE1.e (w0.heap.size,p) (by simp)
 have iI:=hE1.e (w0.heap.size+1,q) (by simp)
 have c0:=gY.cell (i:=0) rfl
 have c1:=gY.cell (i:=1) rfl
 have c2:=gY.cell (i:=2) rfl
 have c3:=gY.cell (i:=3) rfl
 have c4:=gY.cell (i:=4) rfl
 have d0:=iI.cell (i:=0) rfl
 have d1:=iI.cell (i:=1) rfl
 have d2:=iI.cell (i:=2) rfl
 have d3:=iI.cell (i:=3) rfl
 have d4:=iI.cell (i:=4) rfl
 go_wp2_with fail
 refine (jZ g p q false _ F7 iW kM (by rw[hg.out];exact H1.out)).mono ?_
 rintro e v2 ⟨rfl,hg2⟩
 have hE2:=hE1.grown hg2
 have hG2:=hG1.grown hg2 (by simp)
 clear hE1 hG1 hg2 gY iI c0 c1 c2 c3 c4 d0 d1 d2 d3 d4
 have gY:=hE2.e (w0.heap.size,p) (by simp)
 have iI:=hE2.e (w0.heap.size+1,q) (by simp)
 have c0:=gY.cell (i:=0) rfl
 have c1:=gY.cell (i:=1) rfl
 have c2:=gY.cell (i:=2) rfl
 have c3:=gY.cell (i:=3) rfl
 have c4:=gY.cell (i:=4) rfl
 have d0:=iI.cell (i:=0) rfl
 have d1:=iI.cell (i:=1) rfl
 have d2:=iI.cell (i:=2) rfl
 have d3:=iI.cell (i:=3) rfl
 have d4:=iI.cell (i:=4) rfl
 have x0:=hG2.cell (i:=0) rfl
 have x1:=hG2.cell (i:=1) rfl
 have x2:=hG2.cell (i:=2) rfl
 have x3:=hG2.cell (i:=3) rfl
 have x4:=hG2.cell (i:=4) rfl
 have y0:=hG2.free 0
 have y1:=hG2.free 1
 have y2:=hG2.free 2
 have y3:=hG2.free 3
 have y4:=hG2.free 4
 have Db:=HT.out.grown hE2.g
 have t0:v2.cell? ⟨6,0,none⟩=some (.int .u64 gq.x0):=Db.q 0 (by decide)
 have t1:v2.cell? ⟨6,1,none⟩=some (.int .u64 gq.x1):=Db.q 1 (by decide)
 have t2:v2.cell? ⟨6,2,none⟩=some (.int .u64 gq.x2):=Db.q 2 (by decide)
 have t3:v2.cell? ⟨6,3,none⟩=some (.int .u64 gq.x3):=Db.q 3 (by decide)
 have t4:v2.cell? ⟨6,4,none⟩=some (.int .u64 gq.x4):=Db.q 4 (by decide)
 clear Db
 go_wp2_with fail
 refine (lJ g gq _ F7 Aq).mono ?_
 rintro e v3 ⟨gi,hgi,rfl,hg3⟩
 have F8:gi.Ok:=by rw[hgi.out];exact (Fe.mul_right _ _).ok
 have hK:Ct w0 [(w0.heap.size,p),(w0.heap.size+1,q)] v1.heap.size:=by
  refine⟨by omega,?_⟩
  intro z hz
  simp only[List.mem_cons,List.not_mem_nil,or_false]at hz
  rcases hz with rfl|rfl<;>simp only[]<;>omega
 have F9:=(hE2.grown hg3).set hK gi
 have hG4:aF (jU v3 v1.heap.size gi) v1.heap.size 66 (aR gi):=jL ⟨_,_,_,_,_,hG2.grown hg3 (by simp)⟩
 have hG3:=hG2.grown hg3 (by simp)
 clear hE2 hG2 hg3 gY iI c0 c1 c2 c3 c4 d0 d1 d2 d3 d4 x0 x1 x2 x3 x4 y0 y1 y2 y3 y4 t0 t1 t2 t3 t4
 have x0:=hG3.cell (i:=0) rfl
 have x1:=hG3.cell (i:=1) rfl
 have x2:=hG3.cell (i:=2) rfl
 have x3:=hG3.cell (i:=3) rfl
 have x4:=hG3.cell (i:=4) rfl
 have y0:=hG3.free 0
 have y1:=hG3.free 1
 have y2:=hG3.free 2
 have y3:=hG3.free 3
 have y4:=hG3.free 4
 have gY:=F9.e (w0.heap.size,p) (by simp)
 have iI:=F9.e (w0.heap.size+1,q) (by simp)
 unfold jU at F9 hG4 gY iI
 have c0:=gY.cell (i:=0) rfl
 have c1:=gY.cell (i:=1) rfl
 have c2:=gY.cell (i:=2) rfl
 have c3:=gY.cell (i:=3) rfl
 have c4:=gY.cell (i:=4) rfl
 have d0:=iI.cell (i:=0) rfl
 have d1:=iI.cell (i:=1) rfl
 have d2:=iI.cell (i:=2) rfl
 have d3:=iI.cell (i:=3) rfl
 have d4:=iI.cell (i:=4) rfl
 go_wp2_with fail
 refine (jZ gi p q true _ F8 iW kM (by rw[hgi.out,hg.out];exact H2.out)).mono ?_
 rintro e v5 ⟨rfl,hg5⟩
 have zu:=F9.grown hg5
 have mK:=hG4.grown hg5 (by simp)
 clear F9 hG4 hG3 hg5 gY iI c0 c1 c2 c3 c4 d0 d1 d2 d3 d4 x0 x1 x2 x3 x4 y0 y1 y2 y3 y4
 have x0:=mK.cell (i:=0) rfl
 have x1:=mK.cell (i:=1) rfl
 have x2:=mK.cell (i:=2) rfl
 have x3:=mK.cell (i:=3) rfl
 have x4:=mK.cell (i:=4) rfl
 have y0:=mK.free 0
 have y1:=mK.free 1
 have y2:=mK.free 2
 have y3:=mK.free 3
 have y4:=mK.free 4
 go_wp2_with fail
 refine (wJ gi true _ F8 (by rw[hgi.out,hg.out];exact H3.out)).mono ?_
 rintro e v6 ⟨rfl,uS⟩
 have Oa:=zu.grown uS
 have nX:=mK.grown uS (by simp)
 clear zu mK uS x0 x1 x2 x3 x4 y0 y1 y2 y3 y4
 have x0:=nX.cell (i:=0) rfl
 have x1:=nX.cell (i:=1) rfl
 have x2:=nX.cell (i:=2) rfl
 have x3:=nX.cell (i:=3) rfl
 have x4:=nX.cell (i:=4) rfl
 have y0:=nX.free 0
 have y1:=nX.free 1
 have y2:=nX.free 2
 have y3:=nX.free 3
 have y4:=nX.free 4
 go_wp2_with fail
 refine (Ef gi _ (HT.out.grown Oa.g) F8).mono ?_
 rintro e v7 ⟨n,hn,rfl,JU⟩
 have hK2:Ct w0 [(w0.heap.size,p),(w0.heap.size+1,q)] v1.heap.size:=by
  refine⟨by omega,?_⟩
  intro z hz
  simp only[List.mem_cons,List.not_mem_nil,or_false]at hz
  rcases hz with rfl|rfl<;>simp only[]<;>omega
 have Yb:=(Oa.grown JU).set hK2 n
 have Cu:=nX.grown JU (by simp)
 clear Oa nX JU x0 x1 x2 x3 x4 y0 y1 y2 y3 y4
 have x0:=Cu.cell (i:=0) rfl
 have x1:=Cu.cell (i:=1) rfl
 have x2:=Cu.cell (i:=2) rfl
 have x3:=Cu.cell (i:=3) rfl
 have x4:=Cu.cell (i:=4) rfl
 have y0:=Cu.free 0
 have y1:=Cu.free 1
 have y2:=Cu.free 2
 have y3:=Cu.free 3
 have y4:=Cu.free 4
 obtain⟨u0,u1,u2,u3,u4,hR⟩:=Yb.r _ (List.mem_singleton.2 rfl)
 unfold jU at Yb hR
 have s0:=hR.cell (i:=0) rfl
 have s1:=hR.cell (i:=1) rfl
 have s2:=hR.cell (i:=2) rfl
 have s3:=hR.cell (i:=3) rfl
 have s4:=hR.cell (i:=4) rfl
 have z0:=hR.free 0
 have z1:=hR.free 1
 have z2:=hR.free 2
 have z3:=hR.free 3
 have z4:=hR.free 4
 go_wp2_with fail
 refine bodyPost_ret (v:=.tuple #[.agg #[.int .u64 n.x0,.int .u64 n.x1,.int .u64 n.x2,.int .u64 n.x3,.int .u64 n.x4],.bool true]) ?_ rfl ⟨n,Lib.hid (by rw[hn.out,hgi.out,hg.out]),rfl,jD Yb.g (by omega) _ _ _ _ _⟩
 simp[results,Tryz.results153,go_sem,s0,s1,s2,s3,s4]
set_option maxRecDepth 100000 in
set_option maxHeartbeats 1600000 in
theorem U9 (p q:Fe) (w0:World) (hT:rJ w0) (iW:p.Ok) (kM:q.Ok) (h1:decide (Fe.m (Fe.aM (Fe.cZ (dV p q)) q)=Fe.m p)=false) (h2:decide (Fe.m (Fe.aM (Fe.cZ (Fe.aM (dV p q) gq)) q)=Fe.m p)=false):
  Calls Tryz.prog 153 #[.agg #[.int .u64 p.x0,.int .u64 p.x1,.int .u64 p.x2,.int .u64 p.x3,.int .u64 p.x4],.agg #[.int .u64 q.x0,.int .u64 q.x1,.int .u64 q.x2,.int .u64 q.x3,.int .u64 q.x4]] w0 (tZ Fe.bL false w0):=by
 have HT:=Lib.hid hT;clear hT
 have H1:=Lib.hid h1;clear h1
 have H2:=Lib.hid h2;clear h2
 have hE0:mR w0 (w0.heap.size+3) [(w0.heap.size,p),(w0.heap.size+1,q)] [w0.heap.size+1+1] (((w0.alloc (.cells #[.int .u64 p.x0,.int .u64 p.x1,.int .u64 p.x2,.int .u64 p.x3,.int .u64 p.x4] 66)).alloc (.cells #[.int .u64 q.x0,.int .u64 q.x1,.int .u64 q.x2,.int .u64 q.x3,.int .u64 q.x4] 66)).alloc (.cells #[.int .u64 0,.int .u64 0,.int .u64 0,.int .u64 0,.int .u64 0] 66)):=sI p q w0
 go_enter Tryz.func153,Tryz.ntmps153
 go_wp2_with fail
 refine (qh p q _ iW kM).mono ?_
 rintro e v1 ⟨g,hg,rfl,hg1⟩
 have F7:g.Ok:=by rw[hg.out];exact (Fe.mul_right _ _).ok
 have hE1:=(hE0.grown hg1).grown (World.grownBy_alloc v1 (.cells #[.int .u64 g.x0,.int .u64 g.x1,.int .u64 g.x2,.int .u64 g.x3,.int .u64 g.x4] 66) none)
 have hl1:=(hE0.grown hg1).l
 have hG1:aF (v1.alloc (.cells #[.int .u64 g.x0,.int .u64 g.x1,.int .u64 g.x2,.int .u64 g.x3,.int .u64 g.x4] 66)) v1.heap.size 66 (aR g):=aF.new v1 (aR g) _
 clear hE0 hg1
 have gY:=hE1.e (w0.heap.size,p) (by simp)
 have iI:=hE1.e (w0.heap.size+1,q) (by simp)
 have c0:=gY.cell (i:=0) rfl
 have c1:=gY.cell (i:=1) rfl
 have c2:=gY.cell (i:=2) rfl
 have c3:=gY.cell (i:=3) rfl
 have c4:=gY.cell (i:=4) rfl
 have d0:=iI.cell (i:=0) rfl
 have d1:=iI.cell (i:=1) rfl
 have d2:=iI.cell (i:=2) rfl
 have d3:=iI.cell (i:=3) rfl
 have d4:=iI.cell (i:=4) rfl
 go_wp2_with fail
 refine (jZ g p q false _ F7 iW kM (by rw[hg.out];exact H1.out)).mono ?_
 rintro e v2 ⟨rfl,hg2⟩
 have hE2:=hE1.grown hg2
 have hG2:=hG1.grown hg2 (by simp)
 clear hE1 hG1 hg2 gY iI c0 c1 c2 c3 c4 d0 d1 d2 d3 d4
 have gY:=hE2.e (w0.heap.size,p) (by simp)
 have iI:=hE2.e (w0.heap.size+1,q) (by simp)
 have c0:=gY.cell (i:=0) rfl
 have c1:=gY.cell (i:=1) rfl
 have c2:=gY.cell (i:=2) rfl
 have c3:=gY.cell (i:=3) rfl
 have c4:=gY.cell (i:=4) rfl
 have d0:=iI.cell (i:=0) rfl
 have d1:=iI.cell (i:=1) rfl
 have d2:=iI.cell (i:=2) rfl
 have d3:=iI.cell (i:=3) rfl
 have d4:=iI.cell (i:=4) rfl
 have x0:=hG2.cell (i:=0) rfl
 have x1:=hG2.cell (i:=1) rfl
 have x2:=hG2.cell (i:=2) rfl
 have x3:=hG2.cell (i:=3) rfl
 have x4:=hG2.cell (i:=4) rfl
 have y0:=hG2.free 0
 have y1:=hG2.free 1
 have y2:=hG2.free 2
 have y3:=hG2.free 3
 have y4:=hG2.free 4
 have Db:=HT.out.grown hE2.g
 have t0:v2.cell? ⟨6,0,none⟩=some (.int .u64 gq.x0):=Db.q 0 (by decide)
 have t1:v2.cell? ⟨6,1,none⟩=some (.int .u64 gq.x1):=Db.q 1 (by decide)
 have t2:v2.cell? ⟨6,2,none⟩=some (.int .u64 gq.x2):=Db.q 2 (by decide)
 have t3:v2.cell? ⟨6,3,none⟩=some (.int .u64 gq.x3):=Db.q 3 (by decide)
 have t4:v2.cell? ⟨6,4,none⟩=some (.int .u64 gq.x4):=Db.q 4 (by decide)
 clear Db
 go_wp2_with fail
 refine (lJ g gq _ F7 Aq).mono ?_
 rintro e v3 ⟨gi,hgi,rfl,hg3⟩
 have F8:gi.Ok:=by rw[hgi.out];exact (Fe.mul_right _ _).ok
 have hK:Ct w0 [(w0.heap.size,p),(w0.heap.size+1,q)] v1.heap.size:=by
  refine⟨by omega,?_⟩
  intro z hz
  simp only[List.mem_cons,List.not_mem_nil,or_false]at hz
  rcases hz with rfl|rfl<;>simp only[]<;>omega
 have F9:=(hE2.grown hg3).set hK gi
 have hG4:aF (jU v3 v1.heap.size gi) v1.heap.size 66 (aR gi):=jL ⟨_,_,_,_,_,hG2.grown hg3 (by simp)⟩
 have hG3:=hG2.grown hg3 (by simp)
 clear hE2 hG2 hg3 gY iI c0 c1 c2 c3 c4 d0 d1 d2 d3 d4 x0 x1 x2 x3 x4 y0 y1 y2 y3 y4 t0 t1 t2 t3 t4
 have x0:=hG3.cell (i:=0) rfl
 have x1:=hG3.cell (i:=1) rfl
 have x2:=hG3.cell (i:=2) rfl
 have x3:=hG3.cell (i:=3) rfl
 have x4:=hG3.cell (i:=4) rfl
 have y0:=hG3.free 0
 have y1:=hG3.free 1
 have y2:=hG3.free 2
 have y3:=hG3.free 3
 have y4:=hG3.free 4
 have gY:=F9.e (w0.heap.size,p) (by simp)
 have iI:=F9.e (w0.heap.size+1,q) (by simp)
 unfold jU at F9 hG4 gY iI
 have c0:=gY.cell (i:=0) rfl
 have c1:=gY.cell (i:=1) rfl
 have c2:=gY.cell (i:=2) rfl
 have c3:=gY.cell (i:=3) rfl
 have c4:=gY.cell (i:=4) rfl
 have d0:=iI.cell (i:=0) rfl
 have d1:=iI.cell (i:=1) rfl
 have d2:=iI.cell (i:=2) rfl
 have d3:=iI.cell (i:=3) rfl
 have d4:=iI.cell (i:=4) rfl
 go_wp2_with fail
 refine (jZ gi p q false _ F8 iW kM (by rw[hgi.out,hg.out];exact H2.out)).mono ?_
 rintro e v5 ⟨rfl,hg5⟩
 have zu:=F9.grown hg5
 have mK:=hG4.grown hg5 (by simp)
 clear F9 hG4 hG3 hg5 gY iI c0 c1 c2 c3 c4 d0 d1 d2 d3 d4 x0 x1 x2 x3 x4 y0 y1 y2 y3 y4
 obtain⟨u0,u1,u2,u3,u4,hR⟩:=zu.r _ (List.mem_singleton.2 rfl)
 have s0:=hR.cell (i:=0) rfl
 have s1:=hR.cell (i:=1) rfl
 have s2:=hR.cell (i:=2) rfl
 have s3:=hR.cell (i:=3) rfl
 have s4:=hR.cell (i:=4) rfl
 have z0:=hR.free 0
 have z1:=hR.free 1
 have z2:=hR.free 2
 have z3:=hR.free 3
 have z4:=hR.free 4
 go_wp2_with fail
 refine bodyPost_ret (v:=.tuple #[.agg #[.int .u64 0,.int .u64 0,.int .u64 0,.int .u64 0,.int .u64 0],.bool false]) ?_ rfl ⟨Fe.bL,Lib.hid rfl,rfl,jD zu.g (by omega) _ _ _ _ _⟩
 simp[results,Tryz.results153,go_sem,s0,s1,s2,s3,s4]
end
section
open Fe Num
structure Pw (a r:Fe) (k:Nat):Prop where
 ri:Right r
 mi:Fe.m r=Fe.m a^k%P
theorem Pw.one {a:Fe} (h:Right a):Pw a a 1:=⟨h,by rw[Nat.pow_one,Nat.mod_eq_of_lt (xW a)]⟩
theorem Pw.mul {a r s:Fe} {k j:Nat} (h:Pw a r k) (g:Pw a s j):Pw a (aM r s) (k+j):=
 ⟨mul_right _ _,by rw[yP h.ri g.ri,h.mi,g.mi,<- Nat.mul_mod,Nat.pow_add]⟩
theorem Pw.sq {a r:Fe} {k:Nat} (h:Pw a r k):Pw a (cZ r) (2*k):=
 ⟨dR _,by rw[XR h.ri,h.mi,<- Nat.mul_mod,<- Nat.pow_add,show k+k=2*k by omega]⟩
theorem Pw.QZ {a r:Fe} {k:Nat} (h:Pw a r k) (n:Nat):Pw a (QZ n r) (2^n*k):=by
 induction n with
 | zero=>rw[Nat.pow_zero,Nat.one_mul];exact h
 | succ n ih=>have:=ih.sq;rw[<- Nat.mul_assoc,<- Nat.pow_succ']at this;exact this
theorem Pw.step {a r s:Fe} {k j:Nat} (h:Pw a r k) (g:Pw a s j) (n:Nat):Pw a (lZ n r s) (2^n*k+j):=(h.QZ n).mul g
theorem Pw.to {a r:Fe} {k j:Nat} (h:Pw a r k) (e:k=j):Pw a r j:=e▸h
theorem L8 {a:Fe} (h:Right a):Pw a (xZ a) (2^250-1):=by
 have p1:Pw a (LV a) 3:=((Pw.one h).step (Pw.one h) 1).to (by decide)
 have p2:Pw a (Q0 a) 15:=(p1.step p1 2).to (by decide)
 have p3:Pw a (LW a) 31:=(p2.step (Pw.one h) 1).to (by decide)
 have p4:Pw a (F3 a) 1023:=(p3.step p3 5).to (by decide)
 have p5:Pw a (LX a) (2^20-1):=(p4.step p4 10).to (by decide)
 have p6:Pw a (Q5 a) (2^40-1):=(p5.step p5 20).to (by decide)
 have p7:Pw a (F4 a) (2^50-1):=(p6.step p4 10).to (by decide)
 have p8:Pw a (LY a) (2^100-1):=(p7.step p7 50).to (by decide)
 have p9:Pw a (Q6 a) (2^200-1):=(p8.step p8 100).to (by decide)
 exact (p9.step p7 50).to (by decide)
theorem Yc {a:Fe} (h:Right a):Pw a (Ap a) eInv:=by
 have p:=Pw.one h
 have e8:Pw a (cZ (cZ (cZ a))) 8:=p.sq.sq.sq
 have e11:Pw a (aM (cZ (cZ (cZ a))) (aM (cZ a) a)) 11:=e8.mul (p.sq.mul p)
 exact ((L8 h).step e11 5).to (by decide +kernel)
theorem uf (a:Fe):Right (Ap a):=mul_right _ _
theorem J2 (n:Nat) (p b:Fe):Right (lZ n p b):=mul_right _ _
theorem L9 {u v:Fe} (hu:Right u) (hv:Right v):Fe.m (dV u v)=gN (Fe.m u) (Fe.m v)%P:=by
 have hc:Fe.m (aM (cZ v) v)=Fe.m v^3%P:=((Pw.one hv).sq.mul (Pw.one hv)).mi
 have h7:Fe.m (aM (cZ (aM (cZ v) v)) v)=Fe.m v^7%P:=((((Pw.one hv).sq.mul (Pw.one hv)).sq).mul (Pw.one hv)).mi
 have hb:Fe.m (aM u (aM (cZ (aM (cZ v) v)) v))=Fe.m u*Fe.m v^7%P:=by rw[yP hu (mul_right _ _),h7,Nat.mul_mod_mod]
 have hr:=mul_right u (aM (cZ (aM (cZ v) v)) v)
 have hpw:Fe.m (lZ 2 (xZ (aM u (aM (cZ (aM (cZ v) v)) v))) (aM u (aM (cZ (aM (cZ v) v)) v)))=(Fe.m u*Fe.m v^7)^oP%P:=by
  rw[(((L8 hr).step (Pw.one hr) 2).to (show 2^2*(2^250-1)+1=oP by decide +kernel)).mi,hb,<- Nat.pow_mod]
 unfold dV
 rw[yP (mul_right _ _) (J2 _ _ _),yP hu (mul_right _ _),hc,hpw]
 unfold gN
 rw[Nat.mul_mod_mod,Nat.mod_mul_mod]
 exact wC (by rw[Nat.mul_mod_mod]) rfl
theorem oV (u v:Fe):Right (dV u v):=mul_right _ _
theorem Ga:Right gq:=by constructor<;>decide
theorem Va:Fe.m gq=i0:=by decide +kernel
def uT (r u v:Fe):Bool:=decide (Fe.m (aM (cZ r) v)=Fe.m u)
theorem wK {r u v:Fe} (hr:Right r) (hv:Right v):uT r u v=true↔Fe.m r*Fe.m r*Fe.m v%P=Fe.m u:=by
 unfold uT
 rw[decide_eq_true_iff,yP (dR _) hv,XR hr,Nat.mod_mul_mod]
def uU (r:Fe):Fe:=if Fe.m r%2=1 then kL r else r
def fT (u v:Fe):Fe×Bool:=
 if uT (dV u v) u v=true then (uU (dV u v),true)
 else if uT (aM (dV u v) gq) u v=true then (uU (aM (dV u v) gq),true)
 else (bL,false)
theorem aaV {a:Fe} (h:Right a):Fe.m (kL a)=(P-Fe.m a)%P:=by
 have hz:Right bL:=by constructor<;>decide
 have e:Fe.m bL=0:=by decide +kernel
 unfold kL
 rw[Xa hz h,e,Nat.zero_add]
theorem J3 {r:Fe} (h:Right r):Right (uU r)/\Fe.m (uU r)%2=0/\∀v:Nat,Fe.m (uU r)*Fe.m (uU r)*v%P=Fe.m r*Fe.m r*v%P:=by
 unfold uU
 have hl:=xW r
 by_cases ho:Fe.m r%2=1
 .rw[if_pos ho]
  have hm:=aaV h
  rw[Nat.mod_eq_of_lt (by omega)]at hm
  refine⟨kG _,?_,fun v=>?_⟩
  .rw[hm];unfold P at *;omega
  .rw[hm]
   obtain⟨d,hd⟩:∃d,P=Fe.m r+d:=⟨P-Fe.m r,by omega⟩
   have e:(P-Fe.m r)*(P-Fe.m r)*v+P*(2*Fe.m r*v)=Fe.m r*Fe.m r*v+P*(P*v):=by
    rw[hd,Nat.add_sub_cancel_left];grind
   have:=congrArg (· % P) e
   simpa[Nat.add_mul_mod_self_left] using this
 .rw[if_neg ho]
  exact⟨h,by omega,fun _=>rfl⟩
theorem Dc {u v:Fe} (hv:Right v) (h:(fT u v).2=true):Right (fT u v).1/\Fe.m (fT u v).1%2=0/\Fe.m (fT u v).1*Fe.m (fT u v).1*Fe.m v%P=Fe.m u:=by
 unfold fT at *
 by_cases h1:uT (dV u v) u v=true
 .rw[if_pos h1]at h ⊢
  have:=J3 (oV u v)
  exact⟨this.1,this.2.1,(this.2.2 _).trans ((wK (oV u v) hv).1 h1)⟩
 .rw[if_neg h1]at h ⊢
  by_cases h2:uT (aM (dV u v) gq) u v=true
  .rw[if_pos h2]at h ⊢
   have:=J3 (mul_right _ _:Right (aM (dV u v) gq))
   exact⟨this.1,this.2.1,(this.2.2 _).trans ((wK (mul_right _ _) hv).1 h2)⟩
  .rw[if_neg h2]at h;cases h
theorem Df {r u v:Nat}:mX (r%P) u v↔mX r u v:=by
 unfold mX
 rw[show r%P*(r%P)*v%P=r*r*v%P from by rw[Nat.mul_mod,<- Nat.mul_mod r r,<- Nat.mul_mod]]
theorem Ob {u v:Fe} (hu:Right u) (hv:Right v) (h:mX (gN (Fe.m u) (Fe.m v)) (Fe.m u) (Fe.m v)\/mX (gN (Fe.m u) (Fe.m v)*i0) (Fe.m u) (Fe.m v)):(fT u v).2=true:=by
 have hul:=Nat.mod_eq_of_lt (xW u)
 unfold fT
 by_cases h1:uT (dV u v) u v=true
 .rw[if_pos h1]
 .rw[if_neg h1]
  by_cases h2:uT (aM (dV u v) gq) u v=true
  .rw[if_pos h2]
  .exfalso
   rcases h with h|h
   .apply h1
    rw[wK (oV u v) hv,L9 hu hv]
    have h2:=Df.2 h
    unfold mX at h2
    rw[hul]at h2
    exact h2
   .apply h2
    rw[wK (mul_right _ _) hv,yP (oV u v) Ga,L9 hu hv,Va,Nat.mod_mul_mod]
    have h3:=Df.2 h
    unfold mX at h3
    rw[hul]at h3
    exact h3
theorem Cv {u v:Fe} {t:Nat} (hu:Right u) (hv:Right v) (h:t*t*Fe.m v%P=Fe.m u):(fT u v).2=true:=
 Ob hu hv (Fe.Ae (by rw[h,Nat.mod_eq_of_lt (xW u)]))
end
section
open Go.RowKit
theorem Rb (p q:Fe) (w0:World) (hT:rJ w0) (iW:p.Ok) (kM:q.Ok):Calls Tryz.prog 153 #[.agg #[.int .u64 p.x0,.int .u64 p.x1,.int .u64 p.x2,.int .u64 p.x3,.int .u64 p.x4],.agg #[.int .u64 q.x0,.int .u64 q.x1,.int .u64 q.x2,.int .u64 q.x3,.int .u64 q.x4]] w0 (tZ (fT p q).1 (fT p q).2 w0):=by
 unfold fT
 by_cases h1:uT (dV p q) p q=true
 .rw[if_pos h1]
  unfold uU
  by_cases h3:Fe.m (dV p q)%2=1
  .rw[if_pos h3];exact U6 p q w0 hT iW kM h1 (decide_eq_true h3)
  .rw[if_neg h3];exact U5 p q w0 hT iW kM h1 (decide_eq_false h3)
 .rw[if_neg h1]
  have h1':=(Bool.eq_false_iff).2 h1
  by_cases h2:uT (Fe.aM (dV p q) gq) p q=true
  .rw[if_pos h2]
   unfold uU
   by_cases h3:Fe.m (Fe.aM (dV p q) gq)%2=1
   .rw[if_pos h3];exact U8 p q w0 hT iW kM h1' h2 (decide_eq_true h3)
   .rw[if_neg h3];exact U7 p q w0 hT iW kM h1' h2 (decide_eq_false h3)
  .rw[if_neg h2];exact U9 p q w0 hT iW kM h1' ((Bool.eq_false_iff).2 h2)
theorem Rf (p q:Fe) (b:Bool) (w:World) (iW:p.Ok) (kM:q.Ok) (hb:decide (Fe.m p=Fe.m q)=b):Calls Tryz.prog 118 #[.agg #[.int .u64 p.x0,.int .u64 p.x1,.int .u64 p.x2,.int .u64 p.x3,.int .u64 p.x4],.agg #[.int .u64 q.x0,.int .u64 q.x1,.int .u64 q.x2,.int .u64 q.x3,.int .u64 q.x4]] w fun e w'=>e=.returned (.bool b)/\w.grownBy w' none:=by
 rw[<- hb];exact Am p q w iW kM
theorem j5 (p:Fe) (b:Bool) (w:World) (iW:p.Ok) (hb:decide (Fe.m p=0)=b):Calls Tryz.prog 154 #[.agg #[.int .u64 p.x0,.int .u64 p.x1,.int .u64 p.x2,.int .u64 p.x3,.int .u64 p.x4]] w fun e w'=>e=.returned (.bool b)/\w.grownBy w' none:=by
 rw[<- hb];exact QX p w iW
end
namespace Ed
open Num
abbrev F:=Fin Fe.P
theorem Yd:Fe.P≠0:=by have:=Fe.P_2;omega
instance nzP:NeZero Fe.P:=⟨Yd⟩
section
variable {n:Nat} [NeZero n] (d x1 y1 x2 y2 x3 y3 i e:Fin n)
theorem Oc
  (e1:y1*y1-x1*x1=1+d*(x1*x1*(y1*y1))) (e2:y2*y2-x2*x2=1+d*(x2*x2*(y2*y2))) (e3:y3*y3-x3*x3=1+d*(x3*x3*(y3*y3))):
  ((x1*y2+x2*y1)*(1-d*(x1*x2*y1*y2))*y3+(1+d*(x1*x2*y1*y2))*(y1*y2+x1*x2)*x3)*((1+d*(x3*x2*y3*y2))*(1-d*(x3*x2*y3*y2))+d*(x3*y2+x2*y3)*(y3*y2+x3*x2)*(x1*y1))=
  ((x3*y2+x2*y3)*(1-d*(x3*x2*y3*y2))*y1+(1+d*(x3*x2*y3*y2))*(y3*y2+x3*x2)*x1)*((1+d*(x1*x2*y1*y2))*(1-d*(x1*x2*y1*y2))+d*(x1*y2+x2*y1)*(y1*y2+x1*x2)*(x3*y3)):=by
 grind
theorem Od
  (e1:y1*y1-x1*x1=1+d*(x1*x1*(y1*y1))) (e2:y2*y2-x2*x2=1+d*(x2*x2*(y2*y2))) (e3:y3*y3-x3*x3=1+d*(x3*x3*(y3*y3))):
  ((1+d*(x1*x2*y1*y2))*(y1*y2+x1*x2)*y3+(x1*y2+x2*y1)*(1-d*(x1*x2*y1*y2))*x3)*((1+d*(x3*x2*y3*y2))*(1-d*(x3*x2*y3*y2))-d*(x3*y2+x2*y3)*(y3*y2+x3*x2)*(x1*y1))=
  ((1+d*(x3*x2*y3*y2))*(y3*y2+x3*x2)*y1+(x3*y2+x2*y3)*(1-d*(x3*x2*y3*y2))*x1)*((1+d*(x1*x2*y1*y2))*(1-d*(x1*x2*y1*y2))-d*(x1*y2+x2*y1)*(y1*y2+x1*x2)*(x3*y3)):=by
 grind
theorem aaW
  (e1:y1*y1-x1*x1=1+d*(x1*x1*(y1*y1))) (e2:y2*y2-x2*x2=1+d*(x2*x2*(y2*y2))):
  (y1*y2+x1*x2)*(y1*y2+x1*x2)*((1+d*(x1*x2*y1*y2))*(1+d*(x1*x2*y1*y2)))-(x1*y2+x2*y1)*(x1*y2+x2*y1)*((1-d*(x1*x2*y1*y2))*(1-d*(x1*x2*y1*y2)))=(1-d*(x1*x2*y1*y2))*(1-d*(x1*x2*y1*y2))*((1+d*(x1*x2*y1*y2))*(1+d*(x1*x2*y1*y2)))+d*((x1*y2+x2*y1)*(x1*y2+x2*y1)*((y1*y2+x1*x2)*(y1*y2+x1*x2))):=by
 grind
theorem Ye (hi:i*i=-1) (he:e=d*(x1*x2*y1*y2)) (h1:e*e=1)
  (e1:y1*y1-x1*x1=1+d*(x1*x1*(y1*y1))) (e2:y2*y2-x2*x2=1+d*(x2*x2*(y2*y2))):
  (i*x1+e*y1)*(i*x1+e*y1)=d*((x1*y1*(i*x2+y2))*(x1*y1*(i*x2+y2))):=by
 grind
theorem Yf (hi:i*i=-1) (he:e=d*(x1*x2*y1*y2)) (h1:e*e=1)
  (e1:y1*y1-x1*x1=1+d*(x1*x1*(y1*y1))) (e2:y2*y2-x2*x2=1+d*(x2*x2*(y2*y2))):
  (i*x1-e*y1)*(i*x1-e*y1)=d*((x1*y1*(i*x2-y2))*(x1*y1*(i*x2-y2))):=by
 grind
end
theorem id1:∀{n:Nat} [NeZero n] (a c:Fin n),(a*c)*(a*c)=a*a*(c*c):=by intros;grind
theorem id2:∀{n:Nat} [NeZero n] (d b c:Fin n),b*c=1->d*(b*b)*(c*c)=d:=by intros;grind
theorem id3:∀{n:Nat} [NeZero n] (d i a b c e:Fin n),i*i=-1->a*b*(i*c)=0->d*(a*c*b*e)=0:=by intros;grind
theorem id4:∀{n:Nat} [NeZero n] (e:Fin n),1+e=0->e*e=1:=by intros;grind
theorem id5:∀{n:Nat} [NeZero n] (e:Fin n),1-e=0->e*e=1:=by intros;grind
theorem id6:∀{n:Nat} [NeZero n] (f g a b x y t:Fin n),g*a=x->f*b=y->y*y*(g*g)-x*x*(f*f)=f*f*(g*g)+t*(x*x*(y*y))->(f*f*(g*g))*(b*b-a*a)=(f*f*(g*g))*(1+t*(a*a*(b*b))):=by intros;grind
theorem id7:∀{n:Nat} [NeZero n] (d:Fin n),(1:Fin n)*1-0*0=1+d*(0*0*(1*1)):=by intros;grind
theorem id8:∀{n:Nat} [NeZero n] (d x y:Fin n),y*y-x*x=1+d*(x*x*(y*y))->y*y - -x* -x=1+d*(-x * -x*(y*y)):=by intros;grind
theorem id9:∀{n:Nat} [NeZero n] (d a b c e:Fin n),d*(a*b*c*e)=d*(b*a*e*c):=by intros;grind
theorem afR:∀{n:Nat} [NeZero n] (a b c e:Fin n),a*b+c*e=c*e+a*b:=by intros;grind
theorem afS:∀{n:Nat} [NeZero n] (a b c e:Fin n),a*b+c*e=b*a+e*c:=by intros;grind
theorem afT:∀{n:Nat} [NeZero n] (d b c e:Fin n),d*(0*b*c*e)=0:=by intros;grind
theorem afU:∀{n:Nat} [NeZero n] (a x y:Fin n),(1+0)*a=0*y+x*1->a=x:=by intros;grind
theorem afV:∀{n:Nat} [NeZero n] (a x y:Fin n),(1-0)*a=1*y+0*x->a=y:=by intros;grind
theorem afW:∀{n:Nat} [NeZero n] (t x y:Fin n),x*y + -x*y=(1+t)*0:=by intros;grind
theorem afX:∀{n:Nat} [NeZero n] (d x y:Fin n),y*y-x*x=1+d*(x*x*(y*y))->y*y+x* -x=(1-d*(x* -x*y*y))*1:=by intros;grind
theorem mul_zero {x y:F} (h:x*y=0):x=0\/y=0:=by
 have h1:x.val*y.val%Fe.P=0:=by have:=congrArg Fin.val h;rwa [Fin.val_mul]at this
 rcases Fe.wB.dvd_mul (Nat.dvd_of_mod_eq_zero h1) with k|k
 .exact Or.inl (Fin.ext (by have:=Nat.mod_eq_zero_of_dvd k;rwa [Nat.mod_eq_of_lt x.isLt]at this))
 .exact Or.inr (Fin.ext (by have:=Nat.mod_eq_zero_of_dvd k;rwa [Nat.mod_eq_of_lt y.isLt]at this))
theorem eU {x y:F} (hx:x≠0) (hy:y≠0):x*y≠0:=fun h=>(mul_zero h).elim hx hy
theorem Oe {n:Nat} [NeZero n] {a x y:Fin n} (h:a*x=a*y):a*(x-y)=0:=by grind
theorem yU {n:Nat} [NeZero n] {x y:Fin n} (h:x-y=0):x=y:=by grind
theorem cancel {a x y:F} (ha:a≠0) (h:a*x=a*y):x=y:=
 yU ((mul_zero (Oe h)).resolve_left ha)
def inv (x:F):F:=⟨x.val^Fe.eInv%Fe.P,Nat.mod_lt _ (Nat.pos_of_ne_zero Yd)⟩
theorem inv_mul {x:F} (h:x≠0):x*inv x=1:=by
 apply Fin.ext
 rw[Fin.val_mul]
 have h1:=Fe.XU x.val
 rw[if_neg (by rw[Nat.mod_eq_of_lt x.isLt];exact fun e=>h (Fin.ext e))]at h1
 exact h1
theorem Vb (x:F):(inv x).val=x.val^Fe.eInv%Fe.P:=rfl
theorem j5:(0:F).val=0:=by decide +kernel
theorem Rh {x a:F} (hx:x≠0):x*(a*inv x)=a:=by
 have:=inv_mul hx
 rw[Fin.mul_comm a,<- Fin.mul_assoc,this,Fin.one_mul]
theorem sJ:(1:F)≠0:=fun h=>absurd (congrArg Fin.val h) (by decide +kernel)
theorem J4:(2:F)≠0:=fun h=>absurd (congrArg Fin.val h) (by decide +kernel)
def dN:Nat:=37095705934669439343138083508754565189542113879843219016388785533085940283555
def d:F:=⟨dN,by decide +kernel⟩
theorem Yg:dN^Fe.uR%Fe.P=Fe.P-1:=JJ 256 (by decide +kernel) (by decide +kernel)
theorem Yh {a b:F} (h:a*a=d*(b*b)):b=0:=by
 by_cases hb:b=0
 .exact hb
 exfalso
 have hc:(a*inv b)*(a*inv b)=d:=by
  have h1:=inv_mul hb
  have e:(a*inv b)*(a*inv b)=a*a*(inv b*inv b):=by
   exact id1 a (inv b)
  rw[e,h]
  have g:=@id2
  exact g d b (inv b) h1
 have h1:(a*inv b).val*(a*inv b).val%Fe.P=dN%Fe.P:=by
  have:=congrArg Fin.val hc
  rw[Fin.val_mul]at this
  rw[this]
  exact (Nat.mod_eq_of_lt d.isLt).symm
 have h2:=Fe.FQ (x:=dN) (s:=(a*inv b).val) (by decide +kernel) h1
 rw[Yg]at h2
 exact absurd h2 (by decide +kernel)
def im:F:=⟨Fe.i0,by decide +kernel⟩
theorem Ma:im*im=-1:=by decide +kernel
structure Pr where
 x:F
 y:F
def On (p:Pr):Prop:=p.y*p.y-p.x*p.x=1+d*(p.x*p.x*(p.y*p.y))
def tt (p q:Pr):F:=d*(p.x*q.x*p.y*q.y)
def add (p q:Pr):Pr:=⟨(p.x*q.y+q.x*p.y)*inv (1+tt p q),(p.y*q.y+p.x*q.x)*inv (1-tt p q)⟩
def zero:Pr:=⟨0,1⟩
def neg (p:Pr):Pr:=⟨-p.x,p.y⟩
theorem ext {p q:Pr} (hx:p.x=q.x) (hy:p.y=q.y):p=q:=by cases p;cases q;simp_all
theorem g_b {n:Nat} [NeZero n] {c u v:Fin n} (h1:c*(u+v)=0) (h2:c*(u-v)=0):2*(c*u)=0:=by grind
theorem Mc {p q:Pr} (hp:On p) (hq:On q) (h:tt p q*tt p q=1):False:=by
 have s1:=Yh (Ye d p.x p.y q.x q.y im (tt p q) Ma rfl h hp hq)
 have s2:=Yh (Yf d p.x p.y q.x q.y im (tt p q) Ma rfl h hp hq)
 have s3:=(mul_zero (g_b s1 s2)).resolve_left J4
 have z:tt p q=0:=by
  have g:=@id3
  exact g d im p.x p.y q.x q.y Ma s3
 rw[z,Fin.zero_mul]at h
 exact sJ h.symm
theorem oW {p q:Pr} (hp:On p) (hq:On q):1+tt p q≠0:=fun h=>by
 have g:=@id4
 exact Mc hp hq (g _ h)
theorem l8 {p q:Pr} (hp:On p) (hq:On q):1-tt p q≠0:=fun h=>by
 have g:=@id5
 exact Mc hp hq (g _ h)
theorem yV {p q:Pr} (hp:On p) (hq:On q):(1+tt p q)*(add p q).x=p.x*q.y+q.x*p.y:=Rh (oW hp hq)
theorem yX {p q:Pr} (hp:On p) (hq:On q):(1-tt p q)*(add p q).y=p.y*q.y+p.x*q.x:=Rh (l8 hp hq)
theorem sK {p q:Pr} (hp:On p) (hq:On q):On (add p q):=by
 have h1:=yV hp hq
 have h2:=yX hp hq
 have h3:=aaW d p.x p.y q.x q.y hp hq
 have n1:=oW hp hq
 have n2:=l8 hp hq
 unfold On
 generalize (add p q).x=a at *
 generalize (add p q).y=b at *
 have g:=@id6
 exact cancel (eU (eU n2 n2) (eU n1 n1)) (g (1-tt p q) (1+tt p q) a b _ _ d h1 h2 h3)
theorem oZ:On zero:=by
 have g:=@id7
 exact g d
theorem vo {p:Pr} (hp:On p):On (neg p):=by
 have g:=@id8
 exact g d p.x p.y hp
theorem Md (p q:Pr):tt p q=tt q p:=by
 have g:=@id9
 exact g d p.x q.x p.y q.y
theorem add_comm (p q:Pr):add p q=add q p:=by
 have g:=@afR
 have g2:=@afS
 apply ext
 .unfold add;dsimp only;rw[Md p q,g]
 .unfold add;dsimp only;rw[Md p q,g2]
theorem Vd (p:Pr):tt zero p=0:=by
 have g:=@afT
 exact g d p.x 1 p.y
theorem zero_add {p:Pr} (hp:On p):add zero p=p:=by
 have h1:=yV oZ hp
 have h2:=yX oZ hp
 rw[Vd]at h1 h2
 have g1:=@afU
 have g2:=@afV
 exact ext (g1 _ _ _ h1) (g2 _ _ _ h2)
theorem add_zero {p:Pr} (hp:On p):add p zero=p:=by rw[add_comm,zero_add hp]
theorem add_neg {p:Pr} (hp:On p):add p (neg p)=zero:=by
 have h1:=yV hp (vo hp)
 have h2:=yX hp (vo hp)
 have n1:=oW hp (vo hp)
 have n2:=l8 hp (vo hp)
 have hp':p.y*p.y-p.x*p.x=1+d*(p.x*p.x*(p.y*p.y)):=hp
 apply ext
 .apply cancel n1
  rw[h1]
  have g:=@afW
  exact g _ _ _
 .apply cancel n2
  rw[h2]
  have g:=@afX
  exact g d p.x p.y hp'
theorem afY {n:Nat} [NeZero n] (d f g a b A H x3 y3 u:Fin n) (ha:g*a=A) (hb:f*b=H) (hu:(1+d*(a*x3*b*y3))*u=a*y3+x3*b):(g*f+d*A*H*(x3*y3))*u=A*f*y3+g*H*x3:=by grind
theorem afZ {n:Nat} [NeZero n] (d f g a b A H x3 y3 u:Fin n) (ha:g*a=A) (hb:f*b=H) (hu:(1-d*(a*x3*b*y3))*u=b*y3+a*x3):(g*f-d*A*H*(x3*y3))*u=g*H*y3+A*f*x3:=by grind
theorem aaX {n:Nat} [NeZero n] (d f g a b A H x3 y3:Fin n) (ha:g*a=A) (hb:f*b=H):g*f+d*A*H*(x3*y3)=g*f*(1+d*(a*x3*b*y3)):=by grind
theorem aaY {n:Nat} [NeZero n] (d f g a b A H x3 y3:Fin n) (ha:g*a=A) (hb:f*b=H):g*f-d*A*H*(x3*y3)=g*f*(1-d*(a*x3*b*y3)):=by grind
theorem Ri {n:Nat} [NeZero n] {G1 G2 A1 A2 u v:Fin n} (h1:G1*u=A1) (h2:G2*v=A2) (h:A1*G2=A2*G1):(G1*G2)*u=(G1*G2)*v:=by grind
theorem aaZ {p q r:Pr} (hp:On p) (hq:On q) (hr:On r):
  ((1+tt p q)*(1-tt p q)+d*(p.x*q.y+q.x*p.y)*(p.y*q.y+p.x*q.x)*(r.x*r.y))*(add (add p q) r).x=(p.x*q.y+q.x*p.y)*(1-tt p q)*r.y+(1+tt p q)*(p.y*q.y+p.x*q.x)*r.x/\
  ((1+tt p q)*(1-tt p q)-d*(p.x*q.y+q.x*p.y)*(p.y*q.y+p.x*q.x)*(r.x*r.y))*(add (add p q) r).y=(1+tt p q)*(p.y*q.y+p.x*q.x)*r.y+(p.x*q.y+q.x*p.y)*(1-tt p q)*r.x/\
  (1+tt p q)*(1-tt p q)+d*(p.x*q.y+q.x*p.y)*(p.y*q.y+p.x*q.x)*(r.x*r.y)≠0/\(1+tt p q)*(1-tt p q)-d*(p.x*q.y+q.x*p.y)*(p.y*q.y+p.x*q.x)*(r.x*r.y)≠0:=by
 have hs:=sK hp hq
 have h1:=yV hp hq
 have h2:=yX hp hq
 have n1:=oW hp hq
 have n2:=l8 hp hq
 refine⟨afY d _ _ _ _ _ _ r.x r.y _ h1 h2 (yV hs hr),afZ d _ _ _ _ _ _ r.x r.y _ h1 h2 (yX hs hr),?_,?_⟩
 .rw[aaX d _ _ _ _ _ _ r.x r.y h1 h2]
  exact eU (eU n1 n2) (oW hs hr)
 .rw[aaY d _ _ _ _ _ _ r.x r.y h1 h2]
  exact eU (eU n1 n2) (l8 hs hr)
theorem add_assoc {p q r:Pr} (hp:On p) (hq:On q) (hr:On r):add (add p q) r=add p (add q r):=by
 rw[add_comm p (add q r),add_comm q r]
 obtain⟨a1,a2,a3,a4⟩:=aaZ hp hq hr
 obtain⟨b1,b2,b3,b4⟩:=aaZ hr hq hp
 apply ext
 .exact cancel (eU a3 b3) (Ri a1 b1 (Oc d p.x p.y q.x q.y r.x r.y hp hq hr))
 .exact cancel (eU a4 b4) (Ri a2 b2 (Od d p.x p.y q.x q.y r.x r.y hp hq hr))
def bq:Nat->Pr->Pr
 | 0,_=>zero
 | k+1,p=>add (bq k p) p
theorem cK {p:Pr} (hp:On p):∀k,On (bq k p)
 | 0=>oZ
 | k+1=>sK (cK hp k) hp
theorem wL {p:Pr} (hp:On p):bq 1 p=p:=zero_add hp
theorem iD {p:Pr} (hp:On p) (a:Nat):∀b,bq (a+b) p=add (bq a p) (bq b p)
 | 0=>(add_zero (cK hp a)).symm
 | b+1=>by
  show add (bq (a+b) p) p=add (bq a p) (add (bq b p) p)
  rw[iD hp a b,add_assoc (cK hp a) (cK hp b) hp]
theorem Ar {p:Pr} (hp:On p):bq 2 p=add p p:=by
 show add (bq 1 p) p=_
 rw[wL hp]
theorem nY {p:Pr} (hp:On p) (a:Nat):∀b,bq (a*b) p=bq b (bq a p)
 | 0=>rfl
 | b+1=>by
  rw[Nat.mul_succ,iD hp,nY hp a b]
  rfl
theorem ug:∀k,bq k zero=zero
 | 0=>rfl
 | k+1=>by
  show add (bq k zero) zero=_
  rw[ug k,zero_add oZ]
theorem aa0 {a b c e:Pr} (ha:On a) (hb:On b) (hc:On c) (he:On e):add (add a b) (add c e)=add (add a c) (add b e):=by
 rw[add_assoc ha hb (sK hc he),<- add_assoc hb hc he,add_comm b c,add_assoc hc hb he,<- add_assoc ha hc (sK hb he)]
theorem wM {p q:Pr} (hp:On p) (hq:On q):∀k,bq k (add p q)=add (bq k p) (bq k q)
 | 0=>(zero_add oZ).symm
 | k+1=>by
  show add (bq k (add p q)) (add p q)=add (add (bq k p) p) (add (bq k q) q)
  rw[wM hp hq k,aa0 (cK hp k) (cK hq k) hp hq]
end Ed
namespace Ed
open Num
def phi (a:Fe):F:=⟨Fe.m a,Fe.xW a⟩
section
variable {a b:Fe}
theorem fu (ha:a.Right) (hb:b.Right):phi (Fe.aM a b)=phi a*phi b:=Fin.ext (by rw[Fin.val_mul];exact Fe.yP ha hb)
theorem vv (ha:a.Right):phi (Fe.cZ a)=phi a*phi a:=Fin.ext (by rw[Fin.val_mul];exact Fe.XR ha)
theorem lU (ha:a.Right) (hb:b.Right):phi (Fe.fD a b)=phi a+phi b:=Fin.ext (by rw[Fin.val_add];exact Fe.aas ha hb)
theorem o7:Fe.Right Fe.bL:=by constructor<;>decide
theorem jM:Fe.Right Fe.dQ:=by constructor<;>decide
theorem Au:phi Fe.bL=0:=by apply Fin.ext;rw[j5];show Fe.m Fe.bL=0;decide +kernel
theorem jE:phi Fe.dQ=1:=by decide +kernel
theorem Yi {n:Nat} [NeZero n] {x y z:Fin n} (h:x+y=z):x=z-y:=by grind
theorem nk (ha:a.Right) (hb:b.Right):phi (Fe.gZ a b)=phi a-phi b:=by
 apply Yi
 apply Fin.ext
 rw[Fin.val_add]
 show (Fe.m (Fe.gZ a b)+Fe.m b)%Fe.P=Fe.m a
 have h1:=Fe.xW a
 have h2:=Fe.xW b
 rw[Fe.Xa ha hb,Nat.add_mod,Nat.mod_mod,<- Nat.add_mod,show Fe.m a+(Fe.P-Fe.m b)+Fe.m b=Fe.m a+Fe.P by omega,Nat.add_mod_right,Nat.mod_eq_of_lt h1]
theorem zI (ha:a.Right):phi (Fe.kL a)=- phi a:=by
 unfold Fe.kL
 rw[nk o7 ha,Au]
 exact aa1 _
where aa1 {n:Nat} [NeZero n] (x:Fin n):0-x=- x:=by grind
theorem Gb:Fe.m a=Fe.m b↔phi a=phi b:=⟨fun h=>Fin.ext h,fun h=>congrArg Fin.val h⟩
end
structure Pt where
 X:Fe
 Y:Fe
 Z:Fe
 T:Fe
structure Sm where
 X:Fe
 Y:Fe
 Z:Fe
 T:Fe
 A:Fe
 B:Fe
structure Ad where
 m:Fe
 l:Fe
 z:Fe
 t:Fe
structure iP (s:Pt) (p:Pr):Prop where
 rX:s.X.Right
 rY:s.Y.Right
 rZ:s.Z.Right
 rT:s.T.Right
 on:On p
 z:phi s.Z≠0
 x:phi s.X=phi s.Z*p.x
 y:phi s.Y=phi s.Z*p.y
 t:phi s.T=phi s.Z*(p.x*p.y)
structure l9 (s:Sm) (p:Pr):Prop where
 rX:s.X.Right
 rY:s.Y.Right
 rZ:s.Z.Right
 rT:s.T.Right
 rA:s.A.Right
 rB:s.B.Right
 on:On p
 z:phi s.Z≠0
 x:phi s.X=phi s.Z*p.x
 y:phi s.Y=phi s.Z*p.y
 t:phi s.A*phi s.B=phi s.Z*(p.x*p.y)
structure J5 (s:Ad) (p:Pr):Prop where
 rm:s.m.Right
 rl:s.l.Right
 rz:s.z.Right
 rt:s.t.Right
 on:On p
 is:∃z:F,z≠0/\phi s.m=z*(p.y+p.x)/\phi s.l=z*(p.y-p.x)/\phi s.z=z+z/\phi s.t=d*(z*(p.x*p.y)+z*(p.x*p.y))
def nZ (s:Pt):Sm:=⟨s.X,s.Y,s.Z,s.T,s.T,Fe.dQ⟩
def lK (s:Sm):Pt:=⟨s.X,s.Y,s.Z,Fe.aM s.A s.B⟩
def dF:Fe:=⟨0x34dca135978a3,0x1a8283b156ebd,0x5e7a26001c029,0x739c663a03cbb,0x52036cee2b6ff⟩
theorem wN:dF.Right:=by constructor<;>decide
theorem Xh:phi dF=d:=by decide +kernel
def zw (s:Pt):Ad:=⟨Fe.fD s.Y s.X,Fe.gZ s.Y s.X,Fe.fD s.Z s.Z,Fe.aM dF (Fe.fD s.T s.T)⟩
def bF (T a u b v:Fe):Sm:=⟨Fe.aM a v,Fe.aM b u,Fe.aM u v,T,a,b⟩
def aa2 (s:Sm) (q:Ad):Sm:=
 bF (Fe.aM s.A s.B) (Fe.gZ (Fe.aM (Fe.fD s.Y s.X) q.m) (Fe.aM (Fe.gZ s.Y s.X) q.l)) (Fe.fD (Fe.aM s.Z q.z) (Fe.aM (Fe.aM s.A s.B) q.t))
  (Fe.fD (Fe.aM (Fe.fD s.Y s.X) q.m) (Fe.aM (Fe.gZ s.Y s.X) q.l)) (Fe.gZ (Fe.aM s.Z q.z) (Fe.aM (Fe.aM s.A s.B) q.t))
def J6 (s:Sm):Sm:=
 bF s.T (Fe.fD (Fe.aM s.X s.Y) (Fe.aM s.X s.Y)) (Fe.gZ (Fe.cZ s.Y) (Fe.cZ s.X)) (Fe.fD (Fe.cZ s.Y) (Fe.cZ s.X)) (Fe.gZ (Fe.fD (Fe.cZ s.Z) (Fe.cZ s.Z)) (Fe.gZ (Fe.cZ s.Y) (Fe.cZ s.X)))
def af0 (s:Pt):Pt:=⟨Fe.kL s.X,s.Y,s.Z,Fe.kL s.T⟩
def bV:Pt:=⟨Fe.bL,Fe.dQ,Fe.dQ,Fe.bL⟩
section
variable {n:Nat} [NeZero n]
theorem e_t (Z A:Fin n) (x y o:Fin n) (h:A=Z*(x*y)) (ho:o=1):A*o=Z*(x*y):=by grind
theorem e_b (a b u v x y:Fin n) (ha:u*x=a) (hb:v*y=b):a*v=u*v*x/\b*u=u*v*y/\a*b=u*v*(x*y):=by grind
theorem e_1 (X Y Z T x y m l z' t d x' y' k:Fin n) (hX:X=Z*x) (hY:Y=Z*y) (hT:T=Z*(x*y)) (hm:m=k*(y'+x')) (hl:l=k*(y'-x')) (hz:z'=k+k) (ht:t=d*(k*(x'*y')+k*(x'*y'))) (X3:Fin n) (h:(1+d*(x*x'*y*y'))*X3=x*y'+x'*y):
  (Z*z'+T*t)*X3=(Y+X)*m-(Y-X)*l:=by grind
theorem e_2 (X Y Z T x y m l z' t d x' y' k:Fin n) (hX:X=Z*x) (hY:Y=Z*y) (hT:T=Z*(x*y)) (hm:m=k*(y'+x')) (hl:l=k*(y'-x')) (hz:z'=k+k) (ht:t=d*(k*(x'*y')+k*(x'*y'))) (Y3:Fin n) (h:(1-d*(x*x'*y*y'))*Y3=y*y'+x*x'):
  (Z*z'-T*t)*Y3=(Y+X)*m+(Y-X)*l:=by grind
theorem e_3 (Z T x y z' t d x' y' k:Fin n) (hT:T=Z*(x*y)) (hz:z'=k+k) (ht:t=d*(k*(x'*y')+k*(x'*y'))):
  Z*z'+T*t=2*(Z*(k*(1+d*(x*x'*y*y'))))/\Z*z'-T*t=2*(Z*(k*(1-d*(x*x'*y*y')))):=by grind
theorem af2 (X Y Z x y d:Fin n) (hX:X=Z*x) (hY:Y=Z*y) (on:y*y-x*x=1+d*(x*x*(y*y))):Y*Y-X*X=Z*(Z*(1+d*(x*x*y*y)))/\Z*Z+Z*Z-(Y*Y-X*X)=Z*(Z*(1-d*(x*x*y*y))):=by grind
theorem af3 (X Y Z x y u X3:Fin n) (hX:X=Z*x) (hY:Y=Z*y) (h:u*X3=x*y+x*y):(Z*(Z*u))*X3=X*Y+X*Y:=by grind
theorem af4 (X Y Z x y u X3:Fin n) (hX:X=Z*x) (hY:Y=Z*y) (h:u*X3=y*y+x*x):(Z*(Z*u))*X3=Y*Y+X*X:=by grind
theorem e_4 (X Y Z x y d X3 Y3:Fin n) (hX:X=Z*x) (hY:Y=Z*y) (on:y*y-x*x=1+d*(x*x*(y*y))) (h:(1+d*(x*x*y*y))*X3=x*y+x*y) (h':(1-d*(x*x*y*y))*Y3=y*y+x*x):
  (Y*Y-X*X)*X3=X*Y+X*Y/\(Z*Z+Z*Z-(Y*Y-X*X))*Y3=Y*Y+X*X/\Y*Y-X*X=Z*(Z*(1+d*(x*x*y*y)))/\Z*Z+Z*Z-(Y*Y-X*X)=Z*(Z*(1-d*(x*x*y*y))):=by
 obtain⟨a,b⟩:=af2 X Y Z x y d hX hY on
 refine⟨?_,?_,a,b⟩
 .rw[a];exact af3 _ _ _ _ _ _ _ hX hY h
 .rw[b];exact af4 _ _ _ _ _ _ _ hX hY h'
theorem e_5 (X Z x:Fin n) (h:X=Z*x): - X=Z * - x:=by grind
theorem e_6 (X Z x y:Fin n) (h:X=Z*(x*y)): - X=Z*(- x*y):=by grind
theorem e_7:(0:Fin n)=1*0/\(1:Fin n)=1*1/\(0:Fin n)=1*(0*1):=by grind
theorem e_8 (Y X z x y:Fin n) (hY:Y=z*y) (hX:X=z*x):Y+X=z*(y+x)/\Y-X=z*(y-x):=by grind
theorem e_9 {X Z x Z' x' X':Fin n} (hX:X=Z*x) (hX':X'=Z'*x'):X*Z'=X'*Z↔(Z*Z')*x=(Z*Z')*x':=by constructor<;>intro h<;>grind
end
theorem Me {s:Pt} {p:Pr} (h:iP s p):l9 (nZ s) p:=
 ⟨h.rX,h.rY,h.rZ,h.rT,h.rT,jM,h.on,h.z,h.x,h.y,e_t (phi s.Z) _ _ _ _ h.t jE⟩
theorem Eh {s:Sm} {p:Pr} (h:l9 s p):iP (lK s) p:=
 ⟨h.rX,h.rY,h.rZ,Fe.mul_right _ _,h.on,h.z,h.x,h.y,by show phi (Fe.aM s.A s.B)=_;rw[fu h.rA h.rB];exact h.t⟩
theorem aa4 {s:Pt} {p:Pr} (h:iP s p):J5 (zw s) p:=by
 refine⟨Fe.dK _ _,Fe.fO _ _,Fe.dK _ _,Fe.mul_right _ _,h.on,phi s.Z,h.z,?_,?_,?_,?_⟩
 .show phi (Fe.fD s.Y s.X)=_
  rw[lU h.rY h.rX];exact (e_8 _ _ _ _ _ h.y h.x).1
 .show phi (Fe.gZ s.Y s.X)=_
  rw[nk h.rY h.rX];exact (e_8 _ _ _ _ _ h.y h.x).2
 .show phi (Fe.fD s.Z s.Z)=_
  rw[lU h.rZ h.rZ]
 .show phi (Fe.aM dF (Fe.fD s.T s.T))=_
  rw[fu wN (Fe.dK _ _),lU h.rT h.rT,Xh,h.t]
theorem bIs {T a u b v:Fe} {p:Pr} (rT:T.Right) (ra:a.Right) (ru:u.Right) (rb:b.Right) (rv:v.Right) (on:On p) (nu:phi u≠0) (nv:phi v≠0) (ha:phi u*p.x=phi a) (hb:phi v*p.y=phi b):l9 (bF T a u b v) p:=by
 obtain⟨h1,h2,h3⟩:=e_b _ _ _ _ _ _ ha hb
 refine⟨Fe.mul_right _ _,Fe.mul_right _ _,Fe.mul_right _ _,rT,ra,rb,on,?_,?_,?_,?_⟩
 .show phi (Fe.aM u v)≠0
  rw[fu ru rv];exact eU nu nv
 .show phi (Fe.aM a v)=phi (Fe.aM u v)*_
  rw[fu ru rv,fu ra rv];exact h1
 .show phi (Fe.aM b u)=phi (Fe.aM u v)*_
  rw[fu ru rv,fu rb ru];exact h2
 .show phi a*phi b=phi (Fe.aM u v)*_
  rw[fu ru rv];exact h3
theorem Yj {s:Sm} {q:Ad} {p r:Pr} (h:l9 s p) (k:J5 q r):l9 (aa2 s q) (add p r):=by
 obtain⟨z,hz,hm,hl,hzz,ht⟩:=k.is
 have rT:=Fe.mul_right s.A s.B
 have hT:phi (Fe.aM s.A s.B)=phi s.Z*(p.x*p.y):=by rw[fu h.rA h.rB];exact h.t
 have n3:=e_3 (phi s.Z) _ _ _ _ _ d _ _ _ hT hzz ht
 have pu:phi (Fe.fD (Fe.aM s.Z q.z) (Fe.aM (Fe.aM s.A s.B) q.t))=phi s.Z*phi q.z+phi (Fe.aM s.A s.B)*phi q.t:=by
  rw[lU (Fe.mul_right _ _) (Fe.mul_right _ _),fu h.rZ k.rz,fu rT k.rt]
 have pv:phi (Fe.gZ (Fe.aM s.Z q.z) (Fe.aM (Fe.aM s.A s.B) q.t))=phi s.Z*phi q.z-phi (Fe.aM s.A s.B)*phi q.t:=by
  rw[nk (Fe.mul_right _ _) (Fe.mul_right _ _),fu h.rZ k.rz,fu rT k.rt]
 have pm:phi (Fe.aM (Fe.fD s.Y s.X) q.m)=(phi s.Y+phi s.X)*phi q.m:=by rw[fu (Fe.dK _ _) k.rm,lU h.rY h.rX]
 have pl:phi (Fe.aM (Fe.gZ s.Y s.X) q.l)=(phi s.Y-phi s.X)*phi q.l:=by rw[fu (Fe.fO _ _) k.rl,nk h.rY h.rX]
 refine bIs rT (Fe.fO _ _) (Fe.dK _ _) (Fe.dK _ _) (Fe.fO _ _) (sK h.on k.on) ?_ ?_ ?_ ?_
 .rw[pu,n3.1];exact eU J4 (eU h.z (eU hz (oW h.on k.on)))
 .rw[pv,n3.2];exact eU J4 (eU h.z (eU hz (l8 h.on k.on)))
 .rw[pu,nk (Fe.mul_right _ _) (Fe.mul_right _ _),pm,pl]
  exact e_1 _ _ _ _ _ _ _ _ _ _ d _ _ _ h.x h.y hT hm hl hzz ht _ (yV h.on k.on)
 .rw[pv,lU (Fe.mul_right _ _) (Fe.mul_right _ _),pm,pl]
  exact e_2 _ _ _ _ _ _ _ _ _ _ d _ _ _ h.x h.y hT hm hl hzz ht _ (yX h.on k.on)
theorem Mf {s:Sm} {p:Pr} (h:l9 s p):l9 (J6 s) (add p p):=by
 have a1:(1+d*(p.x*p.x*p.y*p.y))*(add p p).x=p.x*p.y+p.x*p.y:=yV h.on h.on
 have a2:(1-d*(p.x*p.x*p.y*p.y))*(add p p).y=p.y*p.y+p.x*p.x:=yX h.on h.on
 obtain⟨h1,h2,h3,h4⟩:=e_4 _ _ _ _ _ d _ _ h.x h.y h.on a1 a2
 have pu:phi (Fe.gZ (Fe.cZ s.Y) (Fe.cZ s.X))=phi s.Y*phi s.Y-phi s.X*phi s.X:=by
  rw[nk (Fe.dR _) (Fe.dR _),vv h.rY,vv h.rX]
 have pz:phi (Fe.fD (Fe.cZ s.Z) (Fe.cZ s.Z))=phi s.Z*phi s.Z+phi s.Z*phi s.Z:=by
  rw[lU (Fe.dR _) (Fe.dR _),vv h.rZ]
 refine bIs h.rT (Fe.dK _ _) (Fe.fO _ _) (Fe.dK _ _) (Fe.fO _ _) (sK h.on h.on) ?_ ?_ ?_ ?_
 .rw[pu,h3];exact eU h.z (eU h.z (oW h.on h.on))
 .rw[nk (Fe.dK _ _) (Fe.fO _ _),pu,pz,h4];exact eU h.z (eU h.z (l8 h.on h.on))
 .rw[pu,lU (Fe.mul_right _ _) (Fe.mul_right _ _),fu h.rX h.rY];exact h1
 .rw[nk (Fe.dK _ _) (Fe.fO _ _),pu,pz,lU (Fe.dR _) (Fe.dR _),vv h.rY,vv h.rX];exact h2
theorem aa5 {s:Pt} {p:Pr} (h:iP s p):iP (af0 s) (neg p):=
 ⟨Fe.kG _,h.rY,h.rZ,Fe.kG _,vo h.on,h.z,by show phi (Fe.kL s.X)=_;rw[zI h.rX];exact e_5 _ _ _ h.x,h.y,by show phi (Fe.kL s.T)=_;rw[zI h.rT];exact e_6 _ _ _ _ h.t⟩
theorem Rj:iP bV zero:=by
 refine⟨o7,jM,jM,o7,oZ,?_,?_,?_,?_⟩
 .show phi Fe.dQ≠0
  rw[jE];exact sJ
 .show phi Fe.bL=phi Fe.dQ*0
  rw[jE,Au];exact e_7.1
 .show phi Fe.dQ=phi Fe.dQ*1
  rw[jE];exact e_7.2.1
 .show phi Fe.bL=phi Fe.dQ*(0*1)
  rw[jE,Au];exact e_7.2.2
theorem Yl {s t:Pt} {p q:Pr} (h:iP s p) (k:iP t q):(Fe.m (Fe.aM s.X t.Z)=Fe.m (Fe.aM t.X s.Z)/\Fe.m (Fe.aM s.Y t.Z)=Fe.m (Fe.aM t.Y s.Z))↔p=q:=by
 rw[Gb,Gb,fu h.rX k.rZ,fu k.rX h.rZ,fu h.rY k.rZ,fu k.rY h.rZ,e_9 h.x k.x,e_9 h.y k.y]
 have hz:=eU h.z k.z
 exact⟨fun⟨h1,h2⟩=>ext (cancel hz h1) (cancel hz h2),fun e=>by rw[e];exact⟨rfl,rfl⟩⟩
def fB:Pt:=⟨⟨0x62d608f25d51a,0x412a4b4f6592a,0x75b7171a4b31d,0x1ff60527118fe,0x216936d3cd6e5⟩,⟨0x6666666666658,0x4cccccccccccc,0x1999999999999,0x3333333333333,0x6666666666666⟩,Fe.dQ,⟨0x68ab3a5b7dda3,0xeea2a5eadbb,0x2af8df483c27e,0x332b375274732,0x67875f0fd78b7⟩⟩
def bW:Pr:=⟨phi fB.X,phi fB.Y⟩
theorem ig:On bW:=by
 show bW.y*bW.y-bW.x*bW.x=1+d*(bW.x*bW.x*(bW.y*bW.y))
 decide +kernel
theorem Ei {n:Nat} [NeZero n] (o x:Fin n) (h:o=1):x=o*x:=by grind
theorem Ej:iP fB bW:=by
 refine⟨by constructor<;>decide,by constructor<;>decide,jM,by constructor<;>decide,ig,?_,Ei _ _ jE,Ei _ _ jE,?_⟩
 .show phi Fe.dQ≠0
  rw[jE];exact sJ
 .show phi fB.T=phi fB.Z*(bW.x*bW.y)
  decide +kernel
end Ed
section
open Go Go.RowKit
namespace Ed
def aY (p:Pt):List Value:=aR p.X++aR p.Y++aR p.Z++aR p.T
def lg (s:Sm):List Value:=aR s.X++aR s.Y++aR s.Z++aR s.T++aR s.A++aR s.B
def yc (a:Ad):List Value:=aR a.m++aR a.l++aR a.z++aR a.t
def Pt.v (p:Pt):Value:=.agg (aY p).toArray
def Sm.v (s:Sm):Value:=.agg (lg s).toArray
def Ad.v (a:Ad):Value:=.agg (yc a).toArray
theorem dn (a:Fe):(aR a).all (·.oneCell')=true:=rfl
theorem gH (p:Pt):(aY p).all (·.oneCell')=true:=rfl
theorem zJ (s:Sm):(lg s).all (·.oneCell')=true:=rfl
theorem Vf (a:Ad):(yc a).all (·.oneCell')=true:=rfl
def iX (L:List Pt):List Value:=L.flatMap aY
def qj (L:List Ad):List Value:=L.flatMap yc
structure Pt.Ok (p:Pt):Prop where
 X:p.X.Ok
 Y:p.Y.Ok
 Z:p.Z.Ok
 T:p.T.Ok
structure Sm.Ok (p:Sm):Prop where
 X:p.X.Ok
 Y:p.Y.Ok
 Z:p.Z.Ok
 T:p.T.Ok
 A:p.A.Ok
 B:p.B.Ok
structure Ad.Ok (p:Ad):Prop where
 m:p.m.Ok
 l:p.l.Ok
 z:p.z.Ok
 t:p.t.Ok
theorem Rk:Fe.dQ.Ok:=jM.ok
theorem Mg:Fe.bL.Ok:=o7.ok
theorem iP.ok {s:Pt} {p:Pr} (h:iP s p):s.Ok:=⟨h.rX.ok,h.rY.ok,h.rZ.ok,h.rT.ok⟩
theorem l9.ok {s:Sm} {p:Pr} (h:l9 s p):s.Ok:=⟨h.rX.ok,h.rY.ok,h.rZ.ok,h.rT.ok,h.rA.ok,h.rB.ok⟩
end Ed
open Ed
theorem aD:(Tryz.prog.info? 66).map (·.size)=some 5:=by kernel_rfl
theorem aO:(Tryz.prog.info? 68).map (·.size)=some 20:=by kernel_rfl
theorem sM:(Tryz.prog.info? 149).map (·.size)=some 30:=by kernel_rfl
theorem sN:(Tryz.prog.info? 160).map (·.size)=some 20:=by kernel_rfl
theorem fE {w w':World} {b o:Nat} {cs:List Value} {row:Option Nat} (h:w.rangeAt b o cs) (hg:w.grownBy w' row) (hb:b<w.heap.size) (hr:some b≠row):w'.rangeAt b o cs:=fun j v hv=>by
 rw[aZ hg (p:=⟨b,o+j,none⟩) hb hr]
 exact h j v hv
structure dH (w:World):Prop where
 f:rJ w
 ld:5<w.heap.size
 lb:1<w.heap.size
 d:w.rangeAt 5 0 (aR dF)
 b:w.rangeAt 1 0 (aY fB)
theorem dH.grown {w w':World} (h:dH w) (hg:w.grownBy w' none):dH w':=
 ⟨h.f.grown hg,Nat.lt_of_lt_of_le h.ld hg.size,Nat.lt_of_lt_of_le h.lb hg.size,fE h.d hg h.ld (by simp),fE h.b hg h.lb (by simp)⟩
theorem rJ.keep {w w':World} {S:Nat} (h:rJ w) (hg:w.grownBy w' (some S)) (h1:4≠S) (h2:6≠S):rJ w':=
 ⟨⟨Nat.lt_of_lt_of_le h.lt.1 hg.size,Nat.lt_of_lt_of_le h.lt.2 hg.size⟩,fun i hi=>by rw[aZ hg (p:=⟨4,i,none⟩) h.lt.1 (bJ h1)];exact h.p i hi,
  fun i hi=>by rw[aZ hg (p:=⟨6,i,none⟩) h.lt.2 (bJ h2)];exact h.q i hi⟩
def Ym (S:Nat):Prop:=4≠S/\6≠S/\5≠S/\1≠S
theorem dH.keep {w w':World} {S:Nat} (h:dH w) (hg:w.grownBy w' (some S)) (hS:Ym S):dH w':=
 ⟨h.f.keep hg hS.1 hS.2.1,Nat.lt_of_lt_of_le h.ld hg.size,Nat.lt_of_lt_of_le h.lb hg.size,fE h.d hg h.ld (bJ hS.2.2.1),fE h.b hg h.lb (bJ hS.2.2.2)⟩
theorem dH.jS {w:World} (h:dH w) {S:Nat} (hS:w.heap.size<=S):Ym S:=
 ⟨by have:=h.f.lt.1;omega,by have:=h.f.lt.2;omega,by have:=h.ld;omega,by have:=h.lb;omega⟩
theorem eY (b o:Nat) (w:World):(Instr.fieldAt 68 (.pointer (some ⟨b,o,none⟩)) 0).run Tryz.prog w=.ok (.pointer (some ⟨b,o,none⟩)) w:=by go_simp
theorem iy (b o:Nat) (w:World):(Instr.fieldAt 68 (.pointer (some ⟨b,o,none⟩)) 1).run Tryz.prog w=.ok (.pointer (some ⟨b,o+5,none⟩)) w:=by go_simp
theorem fq (b o:Nat) (w:World):(Instr.fieldAt 68 (.pointer (some ⟨b,o,none⟩)) 2).run Tryz.prog w=.ok (.pointer (some ⟨b,o+10,none⟩)) w:=by go_simp
theorem nJ (b o:Nat) (w:World):(Instr.fieldAt 68 (.pointer (some ⟨b,o,none⟩)) 3).run Tryz.prog w=.ok (.pointer (some ⟨b,o+15,none⟩)) w:=by go_simp
theorem J7 (b o:Nat) (w:World):(Instr.fieldAt 160 (.pointer (some ⟨b,o,none⟩)) 0).run Tryz.prog w=.ok (.pointer (some ⟨b,o,none⟩)) w:=by go_simp
theorem J8 (b o:Nat) (w:World):(Instr.fieldAt 160 (.pointer (some ⟨b,o,none⟩)) 1).run Tryz.prog w=.ok (.pointer (some ⟨b,o+5,none⟩)) w:=by go_simp
theorem J9 (b o:Nat) (w:World):(Instr.fieldAt 160 (.pointer (some ⟨b,o,none⟩)) 2).run Tryz.prog w=.ok (.pointer (some ⟨b,o+10,none⟩)) w:=by go_simp
theorem Ka (b o:Nat) (w:World):(Instr.fieldAt 160 (.pointer (some ⟨b,o,none⟩)) 3).run Tryz.prog w=.ok (.pointer (some ⟨b,o+15,none⟩)) w:=by go_simp
theorem ji (b o:Nat) (w:World):(Instr.fieldAt 149 (.pointer (some ⟨b,o,none⟩)) 0).run Tryz.prog w=.ok (.pointer (some ⟨b,o,none⟩)) w:=by go_simp
theorem Vg (b o:Nat) (w:World):(Instr.fieldAt 149 (.pointer (some ⟨b,o,none⟩)) 1).run Tryz.prog w=.ok (.pointer (some ⟨b,o+20,none⟩)) w:=by go_simp
theorem Vh (b o:Nat) (w:World):(Instr.fieldAt 149 (.pointer (some ⟨b,o,none⟩)) 2).run Tryz.prog w=.ok (.pointer (some ⟨b,o+25,none⟩)) w:=by go_simp
section
variable {a b:Fe} {w:World}
abbrev lu (f:Nat) (args:Array Value) (w:World) (v:Value):Prop:=Calls Tryz.prog f args w fun e w'=>e=.returned v/\w.grownBy w' none
theorem jg (ha:a.Ok) (hb:b.Ok):lu 82 #[a.v,b.v] w (Fe.aM a b).v:=(lJ a b w ha hb).mono fun _ _ h=>eX h
theorem Vi (ha:a.Ok):lu 105 #[a.v] w (Fe.cZ a).v:=(wG a w ha).mono fun _ _ h=>eX h
theorem uV (ha:a.Ok) (hb:b.Ok):lu 129 #[a.v,b.v] w (Fe.fD a b).v:=(UQ a b w ha hb).mono fun _ _ h=>eX h
theorem Av (hT:rJ w) (ha:a.Ok) (hb:b.Ok):lu 127 #[a.v,b.v] w (Fe.gZ a b).v:=(LM a b w hT ha hb).mono fun _ _ h=>eX h
theorem Rl (hT:rJ w) (ha:a.Ok):lu 120 #[a.v] w (Fe.kL a).v:=(Ef a w hT ha).mono fun _ _ h=>eX h
theorem Dh:lu 97 #[] w Fe.dQ.v:=(UR w).mono fun _ _ h=>eX h
theorem Xi (ha:a.Ok):lu 80 #[a.v] w (Ap a).v:=(JZ a w ha).mono fun _ _ h=>eX h
theorem Aw (ha:a.Ok) (hb:b.Ok) {x:Bool} (h:decide (Fe.m a=Fe.m b)=x):lu 118 #[a.v,b.v] w (.bool x):=Rf a b x w ha hb h
theorem Rm (ha:a.Ok) {x:Bool} (h:decide (Fe.m a=0)=x):lu 154 #[a.v] w (.bool x):=j5 a x w ha h
theorem Xj (ha:a.Ok) {x:Bool} (h:decide (Fe.m a%2=1)=x):lu 83 #[a.v] w (.bool x):=wJ a x w ha h
end
theorem Yn {u v r:Fe} {b:Bool} {w:World} (hT:rJ w) (hu:u.Ok) (hv:v.Ok) (h:fT u v=(r,b)):lu 153 #[u.v,v.v] w (.tuple #[r.v,.bool b]):=(Rb u v w hT hu hv).mono fun e w' h'=>by
 obtain⟨r',hr,he,hg⟩:=h'
 have e1:=hr.out
 subst e1
 rw[h]at he
 exact⟨he,hg⟩
theorem dA {P:Program} {fn:Func} {p u:Tmp} {ty:TypeId} (h:fn.results=#[.cell p ty,.tmp u]) (tmps:Array Value) (w:World) (g:Nat) (t:TypeId) (cs:Array Value) (fr:Nat×Nat) (d:TypeDesc)
  (hp:tmps.getD p undef=.pointer (some ⟨g,0,none⟩)) (hg:w.heap[g]?=some (.cells cs t fr))
  (hu:P.underlying ty=some d) (hd:(match d with | .struct _ | .array _ _=>true|_=>false)=true) (hi:(P.info? ty).map (·.size)=some cs.size) {v:Value} (hv:tmps.getD u undef=v):
  (results fn tmps).run P w=.ok (.tuple #[.agg cs,v]) w:=by
 rw[results_cell_tmp h,hp,hv]
 simp[asAddr,run_loadVar_row w g t ty cs fr d hg hu hd hi,Result.andThen]
def Mh (p:Pr) (w:World) (e:Ending) (w':World):Prop:=∃t:Pt,iP t p/\e=.returned t.v/\w.grownBy w' none
end
end Go.Proofs.YtjgnjhgdmdmebaaGreatDoor
