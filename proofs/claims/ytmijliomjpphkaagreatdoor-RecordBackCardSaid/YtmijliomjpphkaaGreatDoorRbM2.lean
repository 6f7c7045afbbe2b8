/- texts merged -/
import Derived.Test.YtmijliomjpphkaaGreatDoorRbM1
import Derived.Laws.IdiomCopy
import Derived.Lib.AppendZerosOnto
import Derived.Lib.AppendZeros
import Derived.Deep.RegionLaw
import Derived.Laws.ResultCell
import Derived.Deep.RegionWith
import Derived.Lib.SliceRun
import Derived.Shelf.Bits.Mul64
import Derived.Shelf.Spec.BitsCarry
import Derived.Test.YtmijliomjpphkaaGreatDoorProg
import Derived.WalkKit
import Derived.Lib.Hide
import Derived.WalkSpells
import Derived.WalkLawsBesides
import Derived.BigQuiet
import Derived.Deep.QuietTactic
import Derived.Deep.RegionHeld3
import Derived.StillTailTactics
import Derived.Outline
import Derived.RegionTactic
import Derived.ChangeAlike
import Derived.BigRegion
namespace Go.Proofs.YtmijliomjpphkaaGreatDoor
section
open Go.RowKit Ow Wi Ve
namespace Rc
theorem uX (g:Bool) (i:Nat):([gY g]:List Nat).getD i 0<256:=by
 rcases i with _|i
 .cases g<;>decide
 .simp
theorem tO {l:List Nat} (h:∀i,l.getD i 0<256):∀i,(gu l).getD i 0<256:=kr (nO _) h
theorem F4 (l:List Nat):(gu l).length=8+l.length:=by unfold gu;rw[List.length_append,cO]
theorem qQ (l:List D):∀i,(bN l).getD i 0<256:=by rw[<- xJ];exact Di (Dr l)
set_option maxHeartbeats 4000000 in
set_option maxRecDepth 100000 in
theorem F5 (r:R) (B:Nat) (w:World) (q:L) (h:mV w B q r) (hb:gV r=true):
  Calls Tryz.prog 23 #[q.v r] w (fun e w'=>∃v,e=.returned v/\w.grownBy w' none/\w'.ownsRow w.heap.size 5 1 v (dZ r).length ((dZ r).map dD)):=by
 obtain⟨_,h2,_,h4,h5,_⟩:=sG hb
 have hcx:(r.cx.length:Int)<=8:=by have:=h4.len (by decide);omega
 have hk:=h.Ka
 clear hb h4
 obtain⟨s,a1,n1,c1,a2,n2,c2,a3,n3,c3⟩:=q
 obtain⟨key,cl,sq,cx,g,val,sig⟩:=r
 have hs:iF s=key:=h.str
 subst hs
 have l1:cx.length=n1:=h.l1
 have l2:val.length=n2:=h.l2
 simp only at h2 h5 hk hcx
 rw[hk]at h2
 have HK:Hid (s.size<=64):=h2
 have HD:Hid (dK w B a1 cx/\cx.length=n1/\n1<=8):=⟨h.dots,l1,by omega⟩
 have HV:Hid (BytesAt w B a2 c2 val/\val.length=n2/\val.length<=1024):=⟨h.val,l2,h5⟩
 obtain⟨gl,hgl⟩:∃gl,gl=g:=⟨_,rfl⟩
 have HT:Hid ([[1],gu (iF s),bN [(cl,sq)],dR (n1:Int),bN cx,[gY gl],gu val].flatten=dZ ⟨iF s,cl,sq,cx,g,val,sig⟩/\[[1],gu (iF s),bN [(cl,sq)],dR (n1:Int),bN cx,[gY gl],gu val].flatten.length<=1000000/\∀l∈[[1],gu (iF s),bN [(cl,sq)],dR (n1:Int),bN cx,[gY gl],gu val],∀i,l.getD i 0<256):=by
  refine⟨?_,?_,fun l hl=>?_⟩
  .rw[hgl,<- l1]
   simp[dZ,bN,R.dot]
  .simp only[List.flatten_cons,List.flatten_nil,List.length_append,List.length_cons,List.length_nil,F4,xK,cO,qw]
   omega
  .simp only[List.mem_cons,List.not_mem_nil,or_false]at hl
   rcases hl with rfl|rfl|rfl|rfl|rfl|rfl|rfl
   .intro i;rcases i with _|i<;>simp
   .exact tO (xI s)
   .exact qQ _
   .exact nO _
   .exact qQ _
   .exact uX _
   .exact tO h.val.byte
 clear h l1 l2 h2 h5 hk hcx
 show Calls _ _ #[vV s cl sq a1 n1 c1 g a2 n2 c2 a3 n3 c3] w _
 rw[<- HT.out.1]
 obtain⟨Q,hQ⟩:∃Q:Ending->World->Prop,Q=(fun e w'=>∃v,e=.returned v/\w.grownBy w' none/\w'.ownsRow w.heap.size 5 1 v [[1],gu (iF s),bN [(cl,sq)],dR (n1:Int),bN cx,[gY gl],gu val].flatten.length ([[1],gu (iF s),bN [(cl,sq)],dR (n1:Int),bN cx,[gY gl],gu val].flatten.map dD)):=⟨_,rfl⟩
 rw[<- hQ]
 have HQ:=Lib.hid hQ;clear hQ
 obtain⟨N,hN⟩:∃N,N=w.heap.size:=⟨_,rfl⟩
 obtain⟨W0,hW0⟩:∃W0,W0=w.alloc (.cells #[.string s,iV cl,iV sq,.slice a1 n1 c1,.bool g,.slice a2 n2 c2,.slice a3 n3 c3] 46):=⟨_,rfl⟩
 have hG0:w.grownBy W0 none:=by rw[hW0];exact av (ah _ _) _
 have hB0:aH W0 N 46 [.string s,iV cl,iV sq,.slice a1 n1 c1,.bool gl,.slice a2 n2 c2,.slice a3 n3 c3]:=by rw[hW0,hN,hgl];exact aH.new w _ _
 have jg:=Lib.hid (And.intro hG0 hB0);clear hG0 hB0
 go_enter Tryz.func23,Tryz.ntmps23
 cases g
 all_goals
  have HGL:=Lib.hid hgl;clear hgl
  go_wp2_with fail
  rw[<- hW0,<- hN]
  clear hW0 hN
  have hgl:=HGL.out
  refine Fg.sD [] [.any,.any,Fg.It.ow W0.heap.size [[1],gu (iF s),bN [(cl,sq)],dR (n1:Int),bN cx,[gY gl],gu val].flatten,.any,.any,.any,.any,Fg.It.by [1],.val (Value.pointer (some ⟨N,0,none⟩)),.val (Value.pointer (some ⟨N,0,none⟩)),.val (Value.string s),Fg.It.by (iF s),Fg.It.by (gu (iF s)),.val (vV s cl sq a1 n1 c1 gl a2 n2 c2 a3 n3 c3),.val (Value.agg #[iV cl,iV sq]),.dts [(cl,sq)],Fg.It.by (bN [(cl,sq)]),.val (Value.pointer (some ⟨N,0,none⟩)),.val (Value.pointer (some ⟨N,3,none⟩)),.val (Value.slice a1 n1 c1),.val (Value.int .i64 n1),Fg.It.by (dR (n1:Int)),.val (Value.pointer (some ⟨N,0,none⟩)),.val (Value.pointer (some ⟨N,3,none⟩)),.val (Value.slice a1 n1 c1),Fg.It.by (bN cx),.val (Value.int .u8 (gY gl:Nat)),Fg.It.by [gY gl],.val (Value.pointer (some ⟨N,0,none⟩)),.val (Value.pointer (some ⟨N,5,none⟩)),.val (Value.slice a2 n2 c2),Fg.It.by (gu val),Fg.It.rws [[1],gu (iF s),bN [(cl,sq)],dR (n1:Int),bN cx,[gY gl],gu val],Fg.It.ow W0.heap.size [[1],gu (iF s),bN [(cl,sq)],dR (n1:Int),bN cx,[gY gl],gu val].flatten] W0 28 (ah _ _) (by kernel_rfl) (by kernel_rfl) (by kernel_rfl) (by kernel_rfl) (by decide) (by kernel_rfl) ?_ ?_
  .refine⟨Fg.vT rfl (by decide) fun ac w h=>?_,?_⟩
   .refine⟨.slice (some ⟨w.heap.size,0,none⟩) 1 1,w.alloc (.cells #[.int .u8 1] 5),aB rfl,?_,av (ah _ _) _,⟨_,1,_,rfl,Dk [1] (fun i=>by rcases i with _|i<;>simp) (by decide)⟩⟩
    clear h
    simp only[execOp,Act.eval,List.map_toArray,List.map_cons,List.map_nil]
    go_simp
   refine⟨Fg.vT rfl (by decide) fun ac w h=>?_,?_⟩
   .have e1:_=Value.pointer (some ⟨N,0,none⟩):=h.r 1
    refine⟨Value.pointer (some ⟨N,0,none⟩),w,aB rfl,?_,ah _ _,rfl⟩
    clear h
    simp only[execOp,Act.eval,e1]
    go_simp
   refine⟨Fg.vT rfl (by decide) fun ac w h=>?_,?_⟩
   .have e8:_=Value.pointer (some ⟨N,0,none⟩):=h.d 8
    refine⟨Value.pointer (some ⟨N,0,none⟩),w,aB rfl,?_,ah _ _,rfl⟩
    clear h
    simp only[execOp,Act.eval,e8]
    go_simp
   refine⟨Fg.vT rfl (by decide) fun ac w h=>?_,?_⟩
   .have e9:_=Value.pointer (some ⟨N,0,none⟩):=h.d 9
    have c:=(jg.out.2.gn h.base).cell (i:=0) rfl
    refine⟨Value.string s,w,aB rfl,?_,ah _ _,rfl⟩
    clear h
    simp only[execOp,Act.eval,e9]
    go_simp
   refine⟨Fg.vT rfl (by decide) fun ac w h=>?_,?_⟩
   .have e10:_=Value.string s:=h.d 10
    obtain⟨c11,y9,afi,abJ,abK⟩:=Ob s w (by have:=HK.out;omega)
    refine⟨.slice (some ⟨w.heap.size,0,none⟩) s.size c11,y9,aB rfl,?_,abJ,⟨_,_,_,by rw[qw],abK⟩⟩
    clear h abK abJ
    simp only[execOp,Act.eval,e10]
    simp[afi,Result.andThen]
   refine⟨Fg.cT rfl (by decide) fun ac w h=>?_,?_⟩
   .obtain⟨a11,k11,B11,e11,b11⟩:∃x c B,ac.tmps.getD 11 undef=.slice x (iF s).length c/\BytesAt w B x c (iF s):=h.dep 11 (by kernel_rfl)
    refine⟨39,#[Value.slice a11 (iF s).length k11],aB rfl,Fg.aN rfl rfl (by simp only[List.map_toArray,List.map_cons,List.map_nil,Act.eval,e11]) (Fg.aI Tryz.func39 (by kernel_rfl) (by kernel_rfl)),?_⟩
    exact (Dj _ (iF s) a11 k11 B11 w rfl b11 (by rw[qw];have:=HK.out;omega)).mono fun _ _ ⟨_,_,he,hg,hb⟩=>⟨_,he,hg,_,_,_,rfl,hb⟩
   refine⟨Fg.vT rfl (by decide) fun ac w h=>?_,?_⟩
   .have e1:_=Value.pointer (some ⟨N,0,none⟩):=h.r 1
    have m0:=(jg.out.2.gn h.base).cell (i:=0) rfl
    have m1:=(jg.out.2.gn h.base).cell (i:=1) rfl
    have m2:=(jg.out.2.gn h.base).cell (i:=2) rfl
    have m3:=(jg.out.2.gn h.base).cell (i:=3) rfl
    have m4:=(jg.out.2.gn h.base).cell (i:=4) rfl
    have m5:=(jg.out.2.gn h.base).cell (i:=5) rfl
    have m6:=(jg.out.2.gn h.base).cell (i:=6) rfl
    refine⟨vV s cl sq a1 n1 c1 gl a2 n2 c2 a3 n3 c3,w,aB rfl,?_,ah _ _,rfl⟩
    clear h
    simp only[execOp,Act.eval,e1]
    go_simp
   refine⟨Fg.cT rfl (by decide) fun ac w h=>?_,?_⟩
   .have e13:_=vV s cl sq a1 n1 c1 gl a2 n2 c2 a3 n3 c3:=h.d 13
    refine⟨41,#[vV s cl sq a1 n1 c1 gl a2 n2 c2 a3 n3 c3],aB rfl,Fg.aN rfl rfl (by simp only[List.map_toArray,List.map_cons,List.map_nil,Act.eval,e13]) (Fg.aI Tryz.func41 (by kernel_rfl) (by kernel_rfl)),?_⟩
    exact (Mi s cl sq a1 n1 c1 gl a2 n2 c2 a3 n3 c3 w).mono fun _ _ ⟨he,hg⟩=>⟨_,he,hg,rfl⟩
   refine⟨Fg.vT rfl (by decide) fun ac w h=>?_,?_⟩
   .have e14:_=Value.agg #[iV cl,iV sq]:=h.d 14
    refine⟨.slice (some ⟨w.heap.size,0,none⟩) 1 1,w.alloc (.cells #[iV cl,iV sq] 42),aB rfl,?_,av (ah _ _) _,⟨_,1,_,rfl,wz w cl sq _⟩⟩
    clear h
    simp only[execOp,Act.eval,e14,List.map_toArray,List.map_cons,List.map_nil]
    go_simp
   refine⟨Fg.cT rfl (by decide) fun ac w h=>?_,?_⟩
   .obtain⟨a15,k15,B15,e15,b15⟩:∃x c B,ac.tmps.getD 15 undef=.slice x [(cl,sq)].length c/\dK w B x [(cl,sq)]:=h.dep 15 (by kernel_rfl)
    refine⟨40,#[Value.slice a15 [(cl,sq)].length k15],aB rfl,Fg.aN rfl rfl (by simp only[List.map_toArray,List.map_cons,List.map_nil,Act.eval,e15]) (Fg.aI Tryz.func40 (by kernel_rfl) (by kernel_rfl)),?_⟩
    exact (F3 1 k15 B15 [(cl,sq)] a15 w rfl b15 (by decide)).mono fun _ _ ⟨_,_,he,hg,hb⟩=>⟨_,he,hg,_,_,_,rfl,hb⟩
   refine⟨Fg.vT rfl (by decide) fun ac w h=>?_,?_⟩
   .have e1:_=Value.pointer (some ⟨N,0,none⟩):=h.r 1
    refine⟨Value.pointer (some ⟨N,0,none⟩),w,aB rfl,?_,ah _ _,rfl⟩
    clear h
    simp only[execOp,Act.eval,e1]
    go_simp
   refine⟨Fg.vT rfl (by decide) fun ac w h=>?_,?_⟩
   .have e17:_=Value.pointer (some ⟨N,0,none⟩):=h.d 17
    refine⟨Value.pointer (some ⟨N,3,none⟩),w,aB rfl,?_,ah _ _,rfl⟩
    clear h
    simp only[execOp,Act.eval,e17]
    go_simp
   refine⟨Fg.vT rfl (by decide) fun ac w h=>?_,?_⟩
   .have e18:_=Value.pointer (some ⟨N,3,none⟩):=h.d 18
    have c:=(jg.out.2.gn h.base).cell (i:=3) rfl
    refine⟨Value.slice a1 n1 c1,w,aB rfl,?_,ah _ _,rfl⟩
    clear h
    simp only[execOp,Act.eval,e18]
    go_simp
   refine⟨Fg.vT rfl (by decide) fun ac w h=>?_,?_⟩
   .have e19:_=Value.slice a1 n1 c1:=h.d 19
    have x19:ac.tmps[19]?.getD undef=Value.slice a1 n1 c1:=by simpa using e19
    refine⟨.int .i64 n1,w,aB rfl,?_,ah _ _,rfl⟩
    clear h e19
    go_simp
   refine⟨Fg.cT rfl (by decide) fun ac w h=>?_,?_⟩
   .have e20:_=Value.int .i64 n1:=h.d 20
    refine⟨42,#[Value.int .i64 n1],aB rfl,Fg.aN rfl rfl (by simp only[List.map_toArray,List.map_cons,List.map_nil,Act.eval,e20]) (Fg.aI Tryz.func42 (by kernel_rfl) (by kernel_rfl)),?_⟩
    exact (J6 (n1:Int) w).mono fun _ _ ⟨_,_,he,hg,hb⟩=>⟨_,he,hg,_,_,_,rfl,hb⟩
   refine⟨Fg.vT rfl (by decide) fun ac w h=>?_,?_⟩
   .have e1:_=Value.pointer (some ⟨N,0,none⟩):=h.r 1
    refine⟨Value.pointer (some ⟨N,0,none⟩),w,aB rfl,?_,ah _ _,rfl⟩
    clear h
    simp only[execOp,Act.eval,e1]
    go_simp
   refine⟨Fg.vT rfl (by decide) fun ac w h=>?_,?_⟩
   .have e22:_=Value.pointer (some ⟨N,0,none⟩):=h.d 22
    refine⟨Value.pointer (some ⟨N,3,none⟩),w,aB rfl,?_,ah _ _,rfl⟩
    clear h
    simp only[execOp,Act.eval,e22]
    go_simp
   refine⟨Fg.vT rfl (by decide) fun ac w h=>?_,?_⟩
   .have e23:_=Value.pointer (some ⟨N,3,none⟩):=h.d 23
    have c:=(jg.out.2.gn h.base).cell (i:=3) rfl
    refine⟨Value.slice a1 n1 c1,w,aB rfl,?_,ah _ _,rfl⟩
    clear h
    simp only[execOp,Act.eval,e23]
    go_simp
   refine⟨Fg.cT rfl (by decide) fun ac w h=>?_,?_⟩
   .have e24:_=Value.slice a1 n1 c1:=h.d 24
    refine⟨40,#[Value.slice a1 n1 c1],aB rfl,Fg.aN rfl rfl (by simp only[List.map_toArray,List.map_cons,List.map_nil,Act.eval,e24]) (Fg.aI Tryz.func40 (by kernel_rfl) (by kernel_rfl)),?_⟩
    exact (F3 n1 c1 B cx a1 w HD.out.2.1 (HD.out.1.stay (aj jg.out.1 h.base)) HD.out.2.2).mono fun _ _ ⟨_,_,he,hg,hb⟩=>⟨_,he,hg,_,_,_,rfl,hb⟩
   refine⟨Fg.vT rfl (by decide) fun ac w h=>?_,?_⟩
   .have e3:ac.tmps.getD 3 undef=Value.int .u8 (gY gl:Nat):=(h.rest 3 (by kernel_rfl)).trans (by rw[hgl];rfl)
    exact⟨_,w,aB rfl,Fg.run_move rfl e3,ah _ _,rfl⟩
   refine⟨Fg.vT rfl (by decide) fun ac w h=>?_,?_⟩
   .have e26:_=Value.int .u8 (gY gl:Nat):=h.d 26
    refine⟨.slice (some ⟨w.heap.size,0,none⟩) 1 1,w.alloc (.cells #[.int .u8 (gY gl:Nat)] 5),aB rfl,?_,av (ah _ _) _,⟨_,1,_,rfl,Dk [gY gl] (uX gl) (by simp)⟩⟩
    clear h
    simp only[execOp,Act.eval,e26,List.map_toArray,List.map_cons,List.map_nil]
    go_simp
   refine⟨Fg.vT rfl (by decide) fun ac w h=>?_,?_⟩
   .have e1:_=Value.pointer (some ⟨N,0,none⟩):=h.r 1
    refine⟨Value.pointer (some ⟨N,0,none⟩),w,aB rfl,?_,ah _ _,rfl⟩
    clear h
    simp only[execOp,Act.eval,e1]
    go_simp
   refine⟨Fg.vT rfl (by decide) fun ac w h=>?_,?_⟩
   .have e28:_=Value.pointer (some ⟨N,0,none⟩):=h.d 28
    refine⟨Value.pointer (some ⟨N,5,none⟩),w,aB rfl,?_,ah _ _,rfl⟩
    clear h
    simp only[execOp,Act.eval,e28]
    go_simp
   refine⟨Fg.vT rfl (by decide) fun ac w h=>?_,?_⟩
   .have e29:_=Value.pointer (some ⟨N,5,none⟩):=h.d 29
    have c:=(jg.out.2.gn h.base).cell (i:=5) rfl
    refine⟨Value.slice a2 n2 c2,w,aB rfl,?_,ah _ _,rfl⟩
    clear h
    simp only[execOp,Act.eval,e29]
    go_simp
   refine⟨Fg.cT rfl (by decide) fun ac w h=>?_,?_⟩
   .have e30:_=Value.slice a2 n2 c2:=h.d 30
    refine⟨39,#[Value.slice a2 n2 c2],aB rfl,Fg.aN rfl rfl (by simp only[List.map_toArray,List.map_cons,List.map_nil,Act.eval,e30]) (Fg.aI Tryz.func39 (by kernel_rfl) (by kernel_rfl)),?_⟩
    exact (Dj n2 val a2 c2 B w HV.out.2.1 (HV.out.1.stay (aj jg.out.1 h.base)) (by have:=HV.out.2.2;omega)).mono fun _ _ ⟨_,_,he,hg,hb⟩=>⟨_,he,hg,_,_,_,rfl,hb⟩
   refine⟨Fg.vT rfl (by decide) fun ac w h=>?_,?_⟩
   .obtain⟨a7,k7,B7,e7,b7⟩:∃x c B,ac.tmps.getD 7 undef=.slice x [1].length c/\BytesAt w B x c [1]:=h.dep 7 (by kernel_rfl)
    obtain⟨a12,k12,Yc,e12,b12⟩:∃x c B,ac.tmps.getD 12 undef=.slice x (gu (iF s)).length c/\BytesAt w B x c (gu (iF s)):=h.dep 12 (by kernel_rfl)
    obtain⟨a16,k16,B16,e16,b16⟩:∃x c B,ac.tmps.getD 16 undef=.slice x (bN [(cl,sq)]).length c/\BytesAt w B x c (bN [(cl,sq)]):=h.dep 16 (by kernel_rfl)
    obtain⟨a21,k21,B21,e21,b21⟩:∃x c B,ac.tmps.getD 21 undef=.slice x (dR (n1:Int)).length c/\BytesAt w B x c (dR (n1:Int)):=h.dep 21 (by kernel_rfl)
    obtain⟨a25,k25,B25,e25,b25⟩:∃x c B,ac.tmps.getD 25 undef=.slice x (bN cx).length c/\BytesAt w B x c (bN cx):=h.dep 25 (by kernel_rfl)
    obtain⟨a27,k27,B27,e27,b27⟩:∃x c B,ac.tmps.getD 27 undef=.slice x [gY gl].length c/\BytesAt w B x c [gY gl]:=h.dep 27 (by kernel_rfl)
    obtain⟨a31,Yd,B31,e31,b31⟩:∃x c B,ac.tmps.getD 31 undef=.slice x (gu val).length c/\BytesAt w B x c (gu val):=h.dep 31 (by kernel_rfl)
    refine⟨.slice (some ⟨w.heap.size,0,none⟩) 7 7,w.alloc (.cells #[.slice a7 [1].length k7,.slice a12 (gu (iF s)).length k12,.slice a16 (bN [(cl,sq)]).length k16,.slice a21 (dR (n1:Int)).length k21,.slice a25 (bN cx).length k25,.slice a27 [gY gl].length k27,.slice a31 (gu val).length Yd] 22),aB rfl,?_,av (ah _ _) _,⟨_,7,_,rfl,FU _ [(a7,k7,[1]),(a12,k12,gu (iF s)),(a16,k16,bN [(cl,sq)]),(a21,k21,dR (n1:Int)),(a25,k25,bN cx),(a27,k27,[gY gl]),(a31,Yd,gu val)] (fun p hp=>by
      simp only[List.mem_cons,List.not_mem_nil,or_false]at hp
      rcases hp with rfl|rfl|rfl|rfl|rfl|rfl|rfl
      .exact⟨_,b7⟩
      .exact⟨_,b12⟩
      .exact⟨_,b16⟩
      .exact⟨_,b21⟩
      .exact⟨_,b25⟩
      .exact⟨_,b27⟩
      .exact⟨_,b31⟩)⟩⟩
    clear h
    simp only[execOp,Act.eval,e7,e12,e16,e21,e25,e27,e31,List.map_toArray,List.map_cons,List.map_nil]
    go_simp
   refine⟨Fg.cT rfl (by decide) fun ac w h=>?_,?_⟩
   .obtain⟨a32,k32,B32,e32,b32⟩:∃x c B,ac.tmps.getD 32 undef=.slice x [[1],gu (iF s),bN [(cl,sq)],dR (n1:Int),bN cx,[gY gl],gu val].length c/\jl w B x [[1],gu (iF s),bN [(cl,sq)],dR (n1:Int),bN cx,[gY gl],gu val]:=h.dep 32 (by kernel_rfl)
    refine⟨18,#[Value.slice a32 [[1],gu (iF s),bN [(cl,sq)],dR (n1:Int),bN cx,[gY gl],gu val].length k32],aB rfl,Fg.aN rfl rfl (by simp only[List.map_toArray,List.map_cons,List.map_nil,Act.eval,e32]) (Fg.aI Tryz.func18 (by kernel_rfl) (by kernel_rfl)),?_⟩
    exact (qp 7 k32 B32 [[1],gu (iF s),bN [(cl,sq)],dR (n1:Int),bN cx,[gY gl],gu val] a32 w rfl b32 (by simp) HT.out.2.1).mono fun _ _ ⟨_,he,hg,ho⟩=>⟨_,he,hg,jv ho h.base.size⟩
   refine⟨Fg.vT rfl (by decide) fun ac w h=>?_,?_⟩
   .obtain⟨v33,e33,b33⟩:∃v,ac.tmps.getD 33 undef=v/\w.ownsRow W0.heap.size 5 1 v [[1],gu (iF s),bN [(cl,sq)],dR (n1:Int),bN cx,[gY gl],gu val].flatten.length ([[1],gu (iF s),bN [(cl,sq)],dR (n1:Int),bN cx,[gY gl],gu val].flatten.map dD):=⟨_,rfl,h.dep 33 (by kernel_rfl)⟩
    exact⟨_,w,aB rfl,Fg.run_assign rfl e33,ah _ _,b33⟩
   trivial
  .intro aq wq hB hsz hdf hrest aC hpt
   obtain⟨u0,e0⟩:=Fg.bL aq 0
   obtain⟨v2,e2,b2⟩:∃v,aq.tmps.getD 2 undef=v/\wq.ownsRow W0.heap.size 5 1 v [[1],gu (iF s),bN [(cl,sq)],dR (n1:Int),bN cx,[gY gl],gu val].flatten.length ([[1],gu (iF s),bN [(cl,sq)],dR (n1:Int),bN cx,[gY gl],gu val].flatten.map dD):=⟨_,rfl,aC 2 (by kernel_rfl)⟩
   obtain⟨⟨u3,e3⟩,⟨u6,e6⟩,⟨u7,e7⟩,⟨u8,e8⟩,⟨u9,e9⟩,⟨u10,e10⟩,⟨u11,e11⟩,⟨u12,e12⟩,⟨u13,e13⟩,⟨u14,e14⟩,⟨u15,e15⟩,⟨u16,e16⟩,⟨u17,e17⟩,⟨u18,e18⟩,⟨u19,e19⟩,⟨u20,e20⟩,⟨u21,e21⟩,⟨u22,e22⟩,⟨u23,e23⟩,⟨u24,e24⟩,⟨u25,e25⟩,⟨u26,e26⟩,⟨u27,e27⟩,⟨u28,e28⟩,⟨u29,e29⟩,⟨u30,e30⟩,⟨u31,e31⟩,⟨u32,e32⟩,⟨u33,e33⟩,_⟩:=Fg.bn aq [3,6,7,8,9,10,11,12,13,14,15,16,17,18,19,20,21,22,23,24,25,26,27,28,29,30,31,32,33]
   obtain rfl:=Fg.gW (a:=aq) (vs:=[u0,Value.pointer (some ⟨N,0,none⟩),v2,u3,Value.pointer (some ⟨N,0,none⟩),Value.pointer (some ⟨N,4,none⟩),u6,u7,u8,u9,u10,u11,u12,u13,u14,u15,u16,u17,u18,u19,u20,u21,u22,u23,u24,u25,u26,u27,u28,u29,u30,u31,u32,u33]) hsz ⟨e0,hrest 1 (by kernel_rfl),e2,e3,hrest 4 (by kernel_rfl),hrest 5 (by kernel_rfl),e6,e7,e8,e9,e10,e11,e12,e13,e14,e15,e16,e17,e18,e19,e20,e21,e22,e23,e24,e25,e26,e27,e28,e29,e30,e31,e32,e33,trivial⟩ hdf
   clear hsz hdf hrest aC hpt e0 e2 e3 e6 e7 e8 e9 e10 e11 e12 e13 e14 e15 e16 e17 e18 e19 e20 e21 e22 e23 e24 e25 e26 e27 e28 e29 e30 e31 e32 e33
   have HR:Hid (Q (.returned v2) wq):=by rw[HQ.out];exact⟨_,rfl,aj jg.out.1 hB,jv b2 jg.out.1.size⟩
   clear b2 hB
   refine wpList_nil ?_
   go_wp2
   exact HR.out
end Rc
end
section
open Go.RowKit Ow Wi Ve
namespace Rc
def oZ (r:R):List Nat:=if gV r then dZ r else []
def kN (r:R):List Nat:=if dY r then uV r else []
def F6 (b:Bool) (n:Int):Int:=if b then 0 else n
theorem lK {w:World} {B:Nat} {q:L} {r:R} (h:mV w B q r) (hs:gV r=true):(dZ r).length<=2000/\∀i,(dZ r).getD i 0<256:=by
 obtain⟨_,h2,_,h4,h5,_⟩:=sG hs
 have hcx:(r.cx.length:Int)<=8:=by have:=h4.len (by decide);omega
 have hk:∀i,r.key.getD i 0<256:=by rw[<- h.str];exact xI _
 have e:dZ r=[1]++(gu r.key++(bN [r.dot]++(dR (r.cx.length:Int)++(bN r.cx++([gY r.gone]++gu r.val))))):=by simp[dZ,bN]
 rw[e]
 refine⟨?_,kr (fun i=>by rcases i with _|i<;>simp) (kr (tO hk) (kr (qQ _) (kr (nO _) (kr (qQ _) (kr (uX _) (tO h.val.byte))))))⟩
 simp only[List.length_append,List.length_cons,List.length_nil,F4,xK,cO]
 omega
def Kg (w:World) (l:List Nat) (e:Ending) (w':World):Prop:=∃v,e=.returned v/\w.grownBy w' none/\w'.ownsRow w.heap.size 5 1 v l.length (l.map dD)
theorem Ra (w w':World) (hg:w.grownBy w' none):Kg w [] (.returned (.slice none 0 0)) w':=⟨_,rfl,hg,World.ownsRow_nil _ _ _ _⟩
theorem Og {w0 w w':World} {l:List Nat} {e:Ending} (h:Kg w l e w') (hg:w0.grownBy w none):Kg w0 l e w':=by
 obtain⟨v,he,hg2,hb⟩:=h
 exact⟨v,he,aj hg hg2,jv hb hg.size⟩
def Rb (w:World) (l:List Nat) (n:Int) (e:Ending) (w':World):Prop:=∃v,e=.returned (.tuple #[v,.int .i64 n])/\w.grownBy w' none/\w'.ownsRow w.heap.size 5 1 v l.length (l.map dD)
set_option maxHeartbeats 1000000 in
theorem Oh (r:R) (B:Nat) (w:World) (q:L) (h:mV w B q r):Calls Tryz.prog 11 #[q.v r] w (Kg w (oZ r)):=by
 have HS:=Lib.hid (fun w' (hg:w.grownBy w' none)=>qP (gV r) r B w' q (h.stay hg) rfl)
 have HT:=Lib.hid (fun (hs:gV r=true) w' (hg:w.grownBy w' none)=>F5 r B w' q (h.stay hg) hs)
 clear h
 obtain⟨Q,hQ⟩:∃Q,Q=Kg w (oZ r):=⟨_,rfl⟩
 rw[<- hQ]
 unfold oZ at hQ
 generalize dZ r=T at HT hQ
 cases hb:gV r with
 | false=>
  rw[hb]at HS hQ
  clear HT
  have HQ:Hid (∀w',w.grownBy w' none->Q (.returned (.slice none 0 0)) w'):=fun w' hg=>by rw[hQ];exact Ra w w' hg
  clear hQ hb
  obtain⟨s,a1,n1,c1,a2,n2,c2,a3,n3,c3⟩:=q
  obtain⟨key,cl,sq,cx,g,val,sig⟩:=r
  replace HS:Hid (∀w' (_:w.grownBy w' none),Calls Tryz.prog 19 #[vV s cl sq a1 n1 c1 g a2 n2 c2 a3 n3 c3] w' fun e w''=>e=.returned (.bool false)/\w'.grownBy w'' none):=HS
  show Calls _ _ #[vV s cl sq a1 n1 c1 g a2 n2 c2 a3 n3 c3] w _
  go_enter Tryz.func11,Tryz.ntmps11
  go_wp2_with fail
  refine (HS.out _ (av (av (ah _ _) _) _)).mono ?_
  rintro e w1 ⟨rfl,hg⟩
  have HG:=Lib.hid (aj (av (av (ah _ _) _) _) hg);clear hg
  go_wp2
  exact HQ.out _ HG.out
 | true=>
  rw[hb]at HS
  replace HT:=Lib.hid (HT.out hb)
  rw[hb,if_pos rfl]at hQ
  clear hb
  have HQ:Hid (∀w' e w'',w.grownBy w' none->Kg w' T e w''->Q e w''):=fun w' e w'' hg ho=>by rw[hQ];exact Og ho hg
  clear hQ
  obtain⟨s,a1,n1,c1,a2,n2,c2,a3,n3,c3⟩:=q
  obtain⟨key,cl,sq,cx,g,val,sig⟩:=r
  replace HS:Hid (∀w' (_:w.grownBy w' none),Calls Tryz.prog 19 #[vV s cl sq a1 n1 c1 g a2 n2 c2 a3 n3 c3] w' fun e w''=>e=.returned (.bool true)/\w'.grownBy w'' none):=HS
  replace HT:Hid (∀w' (_:w.grownBy w' none),Calls Tryz.prog 23 #[vV s cl sq a1 n1 c1 g a2 n2 c2 a3 n3 c3] w' (Kg w' T)):=HT
  show Calls _ _ #[vV s cl sq a1 n1 c1 g a2 n2 c2 a3 n3 c3] w _
  obtain⟨N,hN⟩:∃N,N=w.heap.size+1:=⟨_,rfl⟩
  obtain⟨W0,hW0⟩:∃W0,W0=(w.alloc (.cells #[.string s,iV cl,iV sq,.slice a1 n1 c1,.bool g,.slice a2 n2 c2,.slice a3 n3 c3] 25)).alloc (.cells #[.string s,iV cl,iV sq,.slice a1 n1 c1,.bool g,.slice a2 n2 c2,.slice a3 n3 c3] 46):=⟨_,rfl⟩
  have hG0:w.grownBy W0 none:=by rw[hW0];exact av (av (ah _ _) _) _
  have hB0:aH W0 N 46 [.string s,iV cl,iV sq,.slice a1 n1 c1,.bool g,.slice a2 n2 c2,.slice a3 n3 c3]:=by rw[hW0,hN,<- World.size_alloc];exact aH.new _ _ _
  have jg:=Lib.hid (And.intro hG0 hB0);clear hG0 hB0
  go_enter Tryz.func11,Tryz.ntmps11
  go_wp2_with fail
  rw[<- hW0,<- hN]
  clear hW0 hN
  refine (HS.out _ jg.out.1).mono ?_
  rintro e w1 ⟨rfl,hg⟩
  have hB1:=jg.out.2.grown hg (by simp)
  have m0:=hB1.cell (i:=0) rfl
  have m1:=hB1.cell (i:=1) rfl
  have m2:=hB1.cell (i:=2) rfl
  have m3:=hB1.cell (i:=3) rfl
  have m4:=hB1.cell (i:=4) rfl
  have m5:=hB1.cell (i:=5) rfl
  have m6:=hB1.cell (i:=6) rfl
  have HG:=Lib.hid (aj jg.out.1 hg);clear hg hB1
  go_wp2_with fail
  refine (HT.out _ HG.out).mono ?_
  rintro e w2 ho
  have HO:=Lib.hid (HQ.out _ _ _ HG.out ho)
  obtain⟨v,rfl,_⟩:=ho
  go_wp2
  exact HO.out
theorem Rf {w:World} {B:Nat} {q:L} {r:R} (h:mV w B q r):∀i,(oZ r).getD i 0<256:=by
 unfold oZ
 cases hs:gV r with
 | false=>simp
 | true=>exact (lK h hs).2
theorem qx (r:R) (B:Nat) (w:World) (q:L) (h:mV w B q r):Calls Tryz.prog 11 #[q.v r] w (Cq w (oZ r)):=
 (Oh r B w q h).mono fun _ _ ⟨_,he,hg,ho⟩=>he▸wo hg ho rfl (Rf h)
set_option maxHeartbeats 1000000 in
theorem lM (r:R) (B:Nat) (w:World) (q:L) (h:mV w B q r):Calls Tryz.prog 9 #[q.v r] w fun e w'=>e=.returned (.bool (dY r))/\w.grownBy w' none:=by
 have HS:=Lib.hid (fun w' (hg:w.grownBy w' none)=>qP (gV r) r B w' q (h.stay hg) rfl)
 have hl:=h.l3
 clear h
 obtain⟨b,hb⟩:∃b,b=dY r:=⟨_,rfl⟩
 rw[<- hb]
 unfold dY at hb
 rw[hl]at hb
 clear hl
 generalize gV r=x at HS hb
 obtain⟨s,a1,n1,c1,a2,n2,c2,a3,n3,c3⟩:=q
 obtain⟨key,cl,sq,cx,g,val,sig⟩:=r
 replace HS:Hid (∀w' (_:w.grownBy w' none),Calls Tryz.prog 19 #[vV s cl sq a1 n1 c1 g a2 n2 c2 a3 n3 c3] w' fun e w''=>e=.returned (.bool x)/\w'.grownBy w'' none):=HS
 show Calls _ _ #[vV s cl sq a1 n1 c1 g a2 n2 c2 a3 n3 c3] w _
 obtain⟨N,hN⟩:∃N,N=w.heap.size:=⟨_,rfl⟩
 obtain⟨W0,hW0⟩:∃W0,W0=w.alloc (.cells #[.string s,iV cl,iV sq,.slice a1 n1 c1,.bool g,.slice a2 n2 c2,.slice a3 n3 c3] 25):=⟨_,rfl⟩
 have hG0:w.grownBy W0 none:=by rw[hW0];exact av (ah _ _) _
 have hB0:aH W0 N 25 [.string s,iV cl,iV sq,.slice a1 n1 c1,.bool g,.slice a2 n2 c2,.slice a3 n3 c3]:=by rw[hW0,hN];exact aH.new _ _ _
 have jg:=Lib.hid (And.intro hG0 hB0);clear hG0 hB0
 have HB:=Lib.hid hb;clear hb
 go_enter Tryz.func9,Tryz.ntmps9
 go_wp2_with fail
 rw[<- hW0,<- hN]
 clear hW0 hN
 refine (HS.out _ jg.out.1).mono ?_
 rintro e w1 ⟨rfl,hg⟩
 have m6:=(jg.out.2.grown hg (by simp)).cell (i:=6) rfl
 have HG:=Lib.hid (aj jg.out.1 hg);clear hg
 cases x with
 | false=>
  go_wp2
  go_ret
  exact⟨by rw[HB.out];rfl,HG.out⟩
 | true=>
  by_cases h3:n3=64
  .subst h3
   go_wp2
   go_ret
   exact⟨by rw[HB.out];rfl,HG.out⟩
  .have i3:((n3:Int)==64)=false:=by rw[beq_eq_false_iff_ne];omega
   have HF:Hid (b=false):=by show _=_;rw[HB.out];simp[h3]
   clear h3
   go_wp2
   go_ret
   exact⟨by rw[HF.out];rfl,HG.out⟩
def afj (w:World) (l:List Nat) (n:Int) (e:Ending) (w':World):Prop:=∃a c,e=.returned (.tuple #[.slice a l.length c,.int .i64 n])/\w.grownBy w' none/\BytesAt w' w'.heap.size a c l
end Rc
end
section
open Go.RowKit Ow Wi Ve
namespace Rc
theorem Oi:(Tryz.prog.info? 42).map (·.size)=some 2:=by kernel_rfl
theorem lN:(Tryz.prog.info? 25).map (·.size)=some 7:=by kernel_rfl
end Rc
end
section
open Go.RowKit Ve
namespace Ve
def dC (d:D):List Value:=[iV d.1,iV d.2]
def jw (l:List D):List Value:=l.flatMap dC
theorem xL (l:List D):(jw l).length=l.length*2:=by
 induction l with
 | nil=>rfl
 | cons d r ih=>rw[jw,List.flatMap_cons,List.length_append,<- jw,ih];simp[dC];omega
theorem Oj (l m:List D):jw (l++m)=jw l++jw m:=by simp[jw]
theorem Kh (l:List D) (k:Nat):(jw l).drop (k*2)=jw (l.drop k):=by
 induction l generalizing k with
 | nil=>simp[jw]
 | cons d r ih=>
  cases k with
  | zero=>simp[jw]
  | succ k=>
   show ([iV d.1,iV d.2]++jw r).drop ((k+1)*2)=jw (r.drop k)
   rw[<- ih,show (k+1)*2=k*2+2 by omega]
   rfl
theorem F7 (l:List D) (i:Nat) (h:i<l.length):(jw l)[i*2]?=some (iV (l.getD i z0).1)/\(jw l)[i*2+1]?=some (iV (l.getD i z0).2):=by
 have hd:(jw l).drop (i*2)=iV (l.getD i z0).1:: iV (l.getD i z0).2:: jw (l.drop (i+1)):=by
  rw[Kh,drop_at l i h];rfl
 constructor
 .have:=congrArg (fun q=>q[0]?) hd
  simpa[List.getElem?_drop] using this
 .have:=congrArg (fun q=>q[1]?) hd
  simpa[List.getElem?_drop] using this
theorem Ki (l:List D):∀v∈jw l,v.oneCell'=true:=by
 intro v hv
 obtain⟨d,_,h⟩:=List.mem_flatMap.1 hv
 simp only[dC,List.mem_cons,List.not_mem_nil,or_false]at h
 rcases h with rfl|rfl<;>rfl
theorem F8:∃i,Tryz.prog.info? 42=some i/\i.zero=some (.agg #[iV 0,iV 0])/\i.size=2/\i.bytes=16:=by
 have h:(Tryz.prog.info? 42).map (fun i=>(i.zero,i.size,i.bytes))=some (some (.agg #[iV 0,iV 0]),2,16):=by kernel_rfl
 cases hi:Tryz.prog.info? 42 with
 | none=>rw[hi]at h;cases h
 | some i=>
  rw[hi]at h
  simp only[Option.map_some,Option.some.injEq,Prod.mk.injEq]at h
  exact⟨i,rfl,h.1,h.2.1,h.2.2⟩
theorem Aj {w:World} {base n:Nat} {v:Value} {l:List D} (h:w.ownsRow base 42 2 v n (jw l)):∃a c,v=.slice a n c/\l.length=n/\n<=c/\dK w w.heap.size a l:=by
 have hl:l.length=n:=by have:=h.1;rw[xL]at this;omega
 rcases h.2 with⟨rfl,rfl⟩ |⟨g,c,cur,rfl,hb,hg,hnc,hcm,hcs,ht⟩
 .exact⟨none,0,rfl,hl,Nat.le_refl _,Nat.le_refl _,Or.inl hl⟩
 .refine⟨_,c,rfl,hl,hnc,Nat.le_refl _,Or.inr ⟨g,0,rfl,lt_of_block hg,fun i hi=>?_⟩⟩
  obtain⟨e1,e2⟩:=F7 l i hi
  rw[Nat.zero_add]
  have key:∀j u,(jw l)[j]?=some u->w.cell? ⟨g,j,none⟩=some u:=fun j u hu=>by
   have:=h.cells (g:=g) rfl j u hu
   rwa [Addr.add_lit,Nat.zero_add]at this
  exact⟨key _ _ e1,key _ _ e2⟩
end Ve
end
section
open Go.RowKit Ve
namespace Ve
abbrev ji (w:World) (base:Nat) (v:Value) (n:Nat) (l:List D):Prop:=w.ownsRow base 42 2 v n (jw l)
theorem sH (w:World) (base B:Nat) (v:Value) (n0:Nat) (l0:List D) (a:Option Addr) (m c:Nat) (p:List D) (hown:ji w base v n0 l0) (hm:p.length=m) (hp:dK w B a p) (ha:a=none->c=0) (hn:n0+m<=1000000000) (hbase:base<=w.heap.size):
  ∃v' w',(Builtin.append_ #[23,23] 23 #[v,.slice a m c]).run Tryz.prog w=.ok v' w'/\ji w' base v' (n0+m) (l0++p)/\w.grownBy w' v.ownBlock:=by
 obtain⟨i,hi,hz,hs,hb⟩:=F8
 rcases a with _|ad
 .have h0:p.length=0:=by
   rcases hp.cells with h |⟨_,_,h,_⟩
   .exact h
   .cases h
  obtain rfl:p=[]:=List.eq_nil_of_length_eq_zero h0
  obtain rfl:m=0:=by rw[<- hm];rfl
  obtain rfl:=ha rfl
  exact⟨v,w,run_append_owned_none (P:=Tryz.prog) w base 23 23 42 i 2 Tryz.underlying23 hi v n0 _ hown,by simpa using hown,ah _ _⟩
 .obtain⟨v',w',hr,ho,hg,_⟩:=run_append_own (P:=Tryz.prog) w base 23 23 42 i (.agg #[iV 0,iV 0]) 2 16 Tryz.underlying23 hi hz hs hb rfl (by decide) v n0 (jw l0) hown ad m c (jw p) (by rw[xL,hm])
   (fun j u hu=>by
    have hj:j<p.length*2:=by have:=(List.getElem?_eq_some_iff.1 hu).1;rwa [xL]at this
    obtain⟨pb,po,e,_,hc⟩:=hp.cells.resolve_left (by omega)
    cases e
    obtain⟨q,hq⟩:∃q,j=q*2\/j=q*2+1:=⟨j/2,by omega⟩
    have hql:q<p.length:=by omega
    obtain⟨e1,e2⟩:=F7 p q hql
    obtain⟨f1,f2⟩:=hc q hql
    rw[Addr.add_lit]
    rcases hq with rfl|rfl
    .rw[e1]at hu;rw[f1];exact hu
    .rw[e2]at hu;rw[<- Nat.add_assoc,f2];exact hu) (Ki p) (by unfold maxLen;omega) (by omega) hbase
  exact⟨v',w',hr,by unfold ji;rw[Oj];exact ho,hg⟩
theorem nZ {w:World} {base n:Nat} {v:Value} {l:List D} (h:ji w base v n l):∃a c,v=.slice a n c:=by
 rcases h.2 with⟨rfl,h0⟩ |⟨g,c,_,rfl,_⟩
 .exact⟨none,0,by rw[h0]⟩
 .exact⟨_,_,rfl⟩
theorem Rh {w0 w w':World} {base n:Nat} {v:Value} {l:List D} (h:w0.grownBy w none) (ho:ji w base v n l) (hb:w0.heap.size<=base) (hg:w.grownBy w' v.ownBlock):w0.grownBy w' none:=
 ⟨hg.os.trans h.os,hg.tape.trans h.tape,hg.output.trans h.output,Nat.le_trans h.size hg.size,fun k hk _=>(hg.block k (Nat.lt_of_lt_of_le hk h.size) (fun e=>by have:=(ho.lt k e.symm).1;omega)).trans (h.block k hk (by simp))⟩
end Ve
end
section
open Go
namespace Fg
theorem step_append {P:Program} {ops:Array Oper} {o:Oper} {a:Act} {w:World} {K:Act->World->Prop} {Q:Exit->Act->World->Prop} {E:Prop} (hg:o.guard=none) (s x:Operand) (t:TypeId)
  (ho:o.op=.call {callee:=.builtin .append,args:=#[s,x],argTypes:=#[t,t]}) (ht:o.type=t) (v y:Value) (hs:a.eval s=v) (hx:a.eval x=y) (v':Value) (w':World)
  (hr:(Builtin.append_ #[t,t] t #[v,y]).run P w=.ok v' w') (hK:K (a.put o.dst v') w'):if Region.wanted o (yielded ops a.tmps)=true then Oper.wp P o a w K Q else E:=by
 have hw:Region.wanted o (yielded ops a.tmps)=true:=by simp[Region.wanted,hg]
 rw[if_pos hw]
 rw[<- ht]at hr
 unfold Oper.wp
 simp[execOp,ho,resolve,invoke,builtin,hs,hx,<- ht,hr,Result.andThen]
 exact hK
theorem tQ {P:Program} {ops:Array Oper} {o:Oper} {a:Act} {w:World} {K:Act->World->Prop} {Q:Exit->Act->World->Prop} {E:Prop} (hg:o.guard=none) {f:FuncId} {args:Array Value}
  (hr:(execOp a.eval o).run P w=.ok (.enter f args) w) (hc:Calls P f args w fun e w'=>∃v,e=.returned v/\K (a.put o.dst v) w'):if Region.wanted o (yielded ops a.tmps)=true then Oper.wp P o a w K Q else E:=by
 have hw:Region.wanted o (yielded ops a.tmps)=true:=by simp[Region.wanted,hg]
 rw[if_pos hw]
 unfold Oper.wp
 rw[hr]
 exact Calls.mono hc fun e w' ⟨v,he,hK⟩=>by subst he;exact hK
theorem mh {P:Program} {fn:Func} {p u:Tmp} {ty:TypeId} (h:fn.results=#[.cell p ty,.tmp u]) (tmps:Array Value) (w:World) (g:Nat) (t:TypeId) (cs:Array Value) (fr:Nat×Nat) (d:TypeDesc)
  (hp:tmps.getD p undef=.pointer (some ⟨g,0,none⟩)) (hg:w.heap[g]?=some (.cells cs t fr))
  (hu:P.underlying ty=some d) (hd:(match d with | .struct _ | .array _ _=>true|_=>false)=true) (hi:(P.info? ty).map (·.size)=some cs.size) {v:Value} (hv:tmps.getD u undef=v):
  (results fn tmps).run P w=.ok (.tuple #[.agg cs,v]) w:=by
 rw[results_cell_tmp h,hp,hv]
 simp[asAddr,run_loadVar_row w g t ty cs fr d hg hu hd hi,Result.andThen]
end Fg
end
section
open Go.RowKit Ow Wi Ve
namespace Rc
theorem mo {w:World} {base b' e sz n:Nat} {v:Value} {xs:List Value} (h:w.ownsRow base e sz v n xs) (hb:b'<=base):w.ownsRow b' e sz v n xs:=by
 refine⟨h.1,?_⟩
 rcases h.2 with h0 |⟨g,c,cur,e1,hg,rest⟩
 .exact Or.inl h0
 .exact Or.inr ⟨g,c,cur,e1,Nat.le_trans hb hg,rest⟩
theorem dQ {w w':World} {base e sz n T Tt:Nat} {v:Value} {xs:List Value} {L:List Value} (h:w.ownsRow base e sz v n xs) (hb:aH w T Tt L) (hne:Tt≠e) (hg:w.grownBy w' (some T)):w'.ownsRow base e sz v n xs:=by
 refine h.kept hg ?_
 rcases h.2 with⟨rfl,_⟩ |⟨g,c,cur,rfl,_,hh,_⟩
 .exact Or.inl rfl
 .refine Or.inr fun e2=>?_
  simp only[Value.ownBlock,Option.some.injEq]at e2
  subst e2
  unfold aH at hb
  rw[hb]at hh
  simp only[Option.some.injEq,Obj.cells.injEq]at hh
  exact hne hh.2.1
end Rc
end
section
open Go.RowKit Ow Wi Ve
namespace Rc
theorem Ep (w:World) (base n c:Nat) (v:Value) (xs:List Value) (hown:w.ownsRow base 42 2 v n xs):
  (Builtin.append_ #[23,23] 23 #[v,.slice none 0 c]).run Tryz.prog w=.ok v w:=by
 obtain⟨i,hi,hz,hs,hb⟩:=F8
 rcases hown.2 with⟨rfl,rfl⟩ |⟨g,cap,cur,rfl,_,_,hnc,_⟩
 .simp[Builtin.append_,run_underlying Tryz.underlying23,sizeOf,typeInfo,hi,Builtin.lenOf,Builtin.firstCells]
 .simp[Builtin.append_,run_underlying Tryz.underlying23,sizeOf,typeInfo,hi,Builtin.lenOf,Builtin.firstCells,hnc,storeCells]
structure Vi (w:World) (base:Nat) (q:L) (r:R):Prop where
 str:iF q.s=r.key
 dots:ji w base (.slice q.a1 q.n1 q.c1) q.n1 r.cx
 val:w.ownsRow base 5 1 (.slice q.a2 q.n2 q.c2) q.n2 (r.val.map dD)
 sig:w.ownsRow base 5 1 (.slice q.a3 q.n3 q.c3) q.n3 (r.sig.map dD)
 vb:∀i,r.val.getD i 0<256
 sb:∀i,r.sig.getD i 0<256
 top:q.n1<9223372036854775808
theorem Vi.at {w:World} {base:Nat} {q:L} {r:R} (h:Vi w base q r):mV w w.heap.size q r:=by
 obtain⟨a',c',e3,hl1,_,hd⟩:=Aj h.dots
 simp only[Value.slice.injEq,true_and]at e3
 obtain⟨a5,c5,e5,_,hv,_⟩:=jB h.val h.vb
 simp only[Value.slice.injEq,true_and]at e5
 obtain⟨a6,c6,e6,_,hs,_⟩:=jB h.sig h.sb
 simp only[Value.slice.injEq,true_and]at e6
 have l2:r.val.length=q.n2:=by have:=h.val.1;simpa using this
 have l3:r.sig.length=q.n3:=by have:=h.sig.1;simpa using this
 rw[<- e3.1]at hd
 rw[<- e5.1,<- e5.2]at hv
 rw[<- e6.1,<- e6.2]at hs
 exact⟨h.str,hl1,l2,l3,hd,hv,hs,h.top⟩
theorem sI {w:World} {base n:Nat} {v:Value} {xs:List Value} (h:w.ownsRow base 5 1 v n xs):∃a c,v=.slice a n c:=by
 rcases h.2 with⟨rfl,h0⟩ |⟨g,c,_,rfl,_⟩
 .exact⟨none,0,by rw[h0]⟩
 .exact⟨_,_,rfl⟩
def Ri (w:World) (r:R) (e:Ending) (w':World):Prop:=∃q:L,e=.returned (q.v r)/\w.grownBy w' none/\Vi w' w.heap.size q r
end Rc
end
section
open Go.RowKit Ow Wi Ve Rc
namespace Sb
set_option maxHeartbeats 1000000 in
set_option maxRecDepth 100000 in
theorem Kj (B n cap:Nat) (a:Option Addr) (l:List D) (w:World) (hl:l.length=n) (hn:n<=1000000) (hP:dK w B a l):
  Calls Tryz.prog 20 #[.slice a n cap] w fun e w'=>∃v,e=.returned v/\w.grownBy w' none/\ji w' w.heap.size v n l:=by
 cases a with
 | none=>
  obtain rfl:l=[]:=by
   rcases hP.cells with h |⟨_,_,h,_⟩
   .exact List.eq_nil_of_length_eq_zero h
   .cases h
  obtain rfl:n=0:=hl.symm
  have heq:=fun w:World=>Lib.run_eql_slice_nil (P:=Tryz.prog) w 23 42 none 0 cap 0 0 Tryz.underlying23
  go_enter Tryz.func20,Tryz.ntmps20
  go_wp2
  go_ret
  exact⟨_,rfl,ah _ _,World.ownsRow_nil w _ 42 2⟩
 | some ad=>
  have g0:=av (ah w none) (.cells #[] 42)
  have hown:ji (w.alloc (.cells #[] 42)) w.heap.size (.slice (some ⟨w.heap.size,0,none⟩) 0 0) 0 []:=World.ownsRow_made w #[] 0 (Nat.le_refl _) (by decide) rfl
  obtain⟨v',w',hap,h2,h3⟩:=sH (w.alloc (.cells #[] 42)) w.heap.size B _ 0 [] (some ad) n cap l hown hl (hP.stay g0) (fun e=>by cases e) (by omega) (by simp)
  rw[Nat.zero_add,List.nil_append]at h2
  have HX:=Lib.hid (And.intro h2 (aW (aj g0 (ah _ none)) h3 (Nat.le_refl _) (row:=none)))
  clear h2 h3 hown g0 hP
  have heq:=fun w:World=>Lib.run_eql_slice_nil (P:=Tryz.prog) w 23 42 (some ad) n cap 0 0 Tryz.underlying23
  go_enter Tryz.func20,Tryz.ntmps20
  go_wp2_with (at_builtin;refine Lib.wpList_append_run _ rfl _ _ _ _ rfl _ _ rfl rfl _ _ hap ?_)
  go_ret
  exact⟨_,rfl,HX.out.2,HX.out.1⟩
set_option maxHeartbeats 1000000 in
set_option maxRecDepth 100000 in
theorem Kk (B n cap:Nat) (a:Option Addr) (l:List Nat) (w:World) (hl:l.length=n) (hn:n<=1000000) (hP:BytesAt w B a cap l):
  Calls Tryz.prog 21 #[.slice a n cap] w fun e w'=>∃v,e=.returned v/\w.grownBy w' none/\w'.ownsRow w.heap.size 5 1 v n (l.map dD):=by
 cases a with
 | none=>
  obtain rfl:l=[]:=by
   rcases hP.cells with h |⟨_,_,h,_⟩
   .exact List.eq_nil_of_length_eq_zero h
   .cases h
  obtain rfl:n=0:=hl.symm
  have heq:=fun w:World=>Lib.run_eql_slice_nil (P:=Tryz.prog) w 22 5 none 0 cap 0 0 Tryz.underlying22
  go_enter Tryz.func21,Tryz.ntmps21
  go_wp2
  go_ret
  exact⟨_,rfl,ah _ _,World.ownsRow_nil w _ 5 1⟩
 | some ad=>
  have g0:=av (ah w none) (.cells #[] 5)
  have hown:(w.alloc (.cells #[] 5)).ownsRow w.heap.size 5 1 (.slice (some ⟨w.heap.size,0,none⟩) 0 0) 0 []:=World.ownsRow_made w #[] 0 (Nat.le_refl _) (by decide) rfl
  obtain⟨v',w',hap,h2,h3⟩:=nD (w.alloc (.cells #[] 5)) w.heap.size 0 B cap n _ [] (some ad) l hown hl (hP.stay g0) (by omega) (by simp)
  rw[Nat.zero_add,List.nil_append]at h2
  have HX:=Lib.hid (And.intro h2 (aW (aj g0 (ah _ none)) h3 (Nat.le_refl _) (row:=none)))
  clear h2 h3 hown g0 hP
  have heq:=fun w:World=>Lib.run_eql_slice_nil (P:=Tryz.prog) w 22 5 (some ad) n cap 0 0 Tryz.underlying22
  go_enter Tryz.func21,Tryz.ntmps21
  go_wp2_with (at_builtin;refine Lib.wpList_append_run _ rfl _ _ _ _ rfl _ _ rfl rfl _ _ hap ?_)
  go_ret
  exact⟨_,rfl,HX.out.2,HX.out.1⟩
theorem F9 {f:Nat} {args:Array Value} {w:World} {b e sz n:Nat} {xs:List Value} (h:Calls Tryz.prog f args w fun e' w'=>∃v,e'=.returned v/\w.grownBy w' none/\w'.ownsRow w.heap.size e sz v n xs) (hb:b<=w.heap.size):
  Calls Tryz.prog f args w fun e' w'=>∃v,e'=.returned v/\w.grownBy w' none/\∃u,v=u/\w'.ownsRow b e sz u n xs:=
 h.mono fun _ _ ⟨v,he,hg,ho⟩=>⟨v,he,hg,v,rfl,mo ho hb⟩
def _root_.Go.Proofs.YtmijliomjpphkaaGreatDoor.Fg.It.own (b e sz n:Nat) (xs:List Value):Fg.It:=⟨fun v w=>∃u,v=u/\w.ownsRow b e sz u n xs,fun _ _ _ ⟨u,e1,h⟩ hg=>⟨u,e1,h.kept hg (by cases u.ownBlock<;>simp)⟩⟩
end Sb
end
namespace Num
def Prime (p:Nat):Prop:=2<=p/\∀m,m ∣ p->m=1\/m=p
theorem Prime.coprime {p a:Nat} (h:Prime p) (ha:¬p ∣ a):Nat.Coprime p a:=by
 rcases h.2 (Nat.gcd p a) (Nat.gcd_dvd_left p a) with e|e
 .exact e
 .exact absurd (e▸Nat.gcd_dvd_right p a) ha
theorem Prime.dvd_mul {p a b:Nat} (h:Prime p) (hd:p ∣ a*b):p ∣ a\/p ∣ b:=by
 by_cases ha:p ∣ a
 .exact Or.inl ha
 .exact Or.inr ((h.coprime ha).dvd_of_dvd_mul_left hd)
theorem Er:∀n:Nat,2<=n->∃r,Prime r/\r ∣ n:=by
 intro n
 induction n using Nat.strongRecOn with
 | _ n ih=>
  intro h2
  by_cases hp:Prime n
  .exact⟨n,hp,Nat.dvd_refl n⟩
  .have:∃m,m ∣ n/\m≠1/\m≠n:=by
    by_cases hm:∃m,m ∣ n/\m≠1/\m≠n
    .exact hm
    .refine absurd ⟨h2,fun m hd=>?_⟩ hp
     by_cases e1:m=1
     .exact Or.inl e1
     .by_cases e2:m=n
      .exact Or.inr e2
      .exact absurd ⟨m,hd,e1,e2⟩ hm
   obtain⟨m,hd,h1,hn⟩:=this
   have hle:=Nat.le_of_dvd (by omega) hd
   have h0:m≠0:=by rintro rfl;have:=Nat.eq_zero_of_zero_dvd hd;omega
   obtain⟨r,hr,hrd⟩:=ih m (by omega) (by omega)
   exact⟨r,hr,Nat.dvd_trans hrd hd⟩
theorem Ak {n:Nat} (h2:2<=n) (hp:¬Prime n):∃r,Prime r/\r ∣ n/\r*r<=n:=by
 have:∃m,m ∣ n/\m≠1/\m≠n:=by
  by_cases hm:∃m,m ∣ n/\m≠1/\m≠n
  .exact hm
  .refine absurd ⟨h2,fun m hd=>?_⟩ hp
   by_cases e1:m=1
   .exact Or.inl e1
   .by_cases e2:m=n
    .exact Or.inr e2
    .exact absurd ⟨m,hd,e1,e2⟩ hm
 obtain⟨m,⟨k,hk⟩,h1,hn⟩:=this
 have hm0:m≠0:=by rintro rfl;omega
 have hk0:k≠0:=by rintro rfl;omega
 have hk1:k≠1:=by rintro rfl;omega
 have go:∀x y:Nat,n=x*y->2<=x->x<=y->∃r,Prime r/\r ∣ n/\r*r<=n:=by
  intro x y e hx hxy
  obtain⟨r,hr,hd⟩:=Er x hx
  have hrx:=Nat.le_of_dvd (by omega) hd
  exact⟨r,hr,e▸Nat.dvd_trans hd (Nat.dvd_mul_right x y),e▸Nat.mul_le_mul hrx (Nat.le_trans hrx hxy)⟩
 rcases Nat.le_total m k with h|h
 .exact go m k hk (by omega) h
 .exact go k m (by rw[hk,Nat.mul_comm]) (by omega) h
def prod (l:List Nat):Nat:=l.foldr (· * ·) 1
theorem prod_cons (x:Nat) (l:List Nat):prod (x:: l)=x*prod l:=rfl
theorem Ol {l l':List Nat} (h:l.Perm l'):prod l=prod l':=by
 induction h with
 | nil=>rfl
 | cons x _ ih=>rw[prod_cons,prod_cons,ih]
 | swap x y l=>simp only[prod_cons];rw[Nat.mul_left_comm]
 | trans _ _ h1 h2=>exact h1.trans h2
theorem Vj {l l':List Nat} (hn:l.Nodup) (hs:∀x∈l,x∈l') (hl:l.length=l'.length):l.Perm l':=by
 induction l generalizing l' with
 | nil=>rw[List.eq_nil_of_length_eq_zero hl.symm]
 | cons x t ih=>
  have hx:=hs x (List.mem_cons_self ..)
  have hn':=List.nodup_cons.1 hn
  have hp:=List.perm_cons_erase hx
  refine List.Perm.trans (List.Perm.cons x (ih hn'.2 (fun y hy=>?_) ?_)) hp.symm
  .have hne:y≠x:=fun e=>hn'.1 (e▸hy)
   exact (List.mem_erase_of_ne hne).2 (hs y (List.mem_cons_of_mem _ hy))
  .have:=hp.length_eq
   simp only[List.length_cons]at this hl
   omega
theorem Rj (p a:Nat) (l:List Nat):prod (l.map fun i=>a*i%p)%p=a^l.length*prod l%p:=by
 induction l with
 | nil=>simp[prod]
 | cons x t ih=>
  rw[List.map_cons,prod_cons,Nat.mul_mod,ih,Nat.mod_mod,<- Nat.mul_mod,prod_cons,List.length_cons,Nat.pow_succ]
  congr 1
  simp only[Nat.mul_assoc,Nat.mul_left_comm,Nat.mul_comm]
theorem Es {p:Nat} (h:Prime p) (l:List Nat) (hl:∀x∈l,¬p ∣ x):¬p ∣ prod l:=by
 induction l with
 | nil=>intro hd;have:=Nat.le_of_dvd (by decide) hd;have:=h.1;simp[prod]at *;omega
 | cons x t ih=>
  intro hd
  rcases h.dvd_mul hd with e|e
  .exact hl x (List.mem_cons_self ..) e
  .exact ih (fun y hy=>hl y (List.mem_cons_of_mem _ hy)) e
theorem cancel {p x y P:Nat} (h:Prime p) (hP:¬p ∣ P) (_:y<=x) (e:x*P%p=y*P%p):p ∣ x-y:=by
 have h1:=Nat.sub_mod_eq_zero_of_mod_eq e
 rw[<- Nat.sub_mul]at h1
 rcases h.dvd_mul (Nat.dvd_of_mod_eq_zero h1) with k|k
 .exact k
 .exact absurd k hP
theorem mod_one {p x:Nat} (hx:1<=x) (h:p ∣ x-1):x%p=1%p:=by
 obtain⟨k,hk⟩:=h
 have:x=1+p*k:=by omega
 rw[this,Nat.add_mul_mod_self_left]
theorem Rk {p a:Nat} (h:Prime p) (ha:¬p ∣ a):a^(p-1)%p=1:=by
 have h2:=h.1
 have hz:1<=a:=by
  rcases Nat.eq_zero_or_pos a with e|e
  .exact absurd (e▸Nat.dvd_zero p) ha
  .exact e
 have mem:∀x,x∈List.range' 1 (p-1)↔1<=x/\x<p:=by
  intro x;rw[List.mem_range'_1];omega
 have low:∀x∈List.range' 1 (p-1),¬p ∣ x:=fun x hx hd=>by
  have:=(mem x).1 hx;have:=Nat.le_of_dvd (by omega) hd;omega
 have perm:((List.range' 1 (p-1)).map fun i=>a*i%p).Perm (List.range' 1 (p-1)):=by
  apply Vj
  .rw[List.nodup_iff_pairwise_ne,List.pairwise_map]
   refine List.Pairwise.imp_of_mem ?_ (List.nodup_iff_pairwise_ne.1 (List.nodup_range' ..))
   intro x y hx hy hne e
   have bx:=(mem x).1 hx
   have b_y:=(mem y).1 hy
   apply hne
   rw[Nat.mul_comm a x,Nat.mul_comm a y]at e
   rcases Nat.le_total x y with l|l
   .obtain⟨k,hk⟩:=cancel h ha l e.symm
    rcases Nat.eq_zero_or_pos k with z|z
    .subst z;omega
    .have:=Nat.le_mul_of_pos_right p z;omega
   .obtain⟨k,hk⟩:=cancel h ha l e
    rcases Nat.eq_zero_or_pos k with z|z
    .subst z;omega
    .have:=Nat.le_mul_of_pos_right p z;omega
  .intro x hx
   obtain⟨i,hi,rfl⟩:=List.mem_map.1 hx
   rw[mem]
   refine⟨?_,Nat.mod_lt _ (by omega)⟩
   rcases Nat.eq_zero_or_pos (a*i%p) with z|z
   .rcases h.dvd_mul (Nat.dvd_of_mod_eq_zero z) with k|k
    .exact absurd k ha
    .exact absurd k (low i hi)
   .exact z
  .simp
 have e:=Rj p a (List.range' 1 (p-1))
 rw[Ol perm,List.length_range']at e
 have hd:=cancel (x:=a^(p-1)) (y:=1) h (Es h _ low) (Nat.one_le_pow _ _ hz) (by rw[Nat.one_mul];exact e.symm)
 rw[mod_one (Nat.one_le_pow _ _ hz) hd,Nat.mod_eq_of_lt h2]
theorem Ga {r b x:Nat} (k:Nat) (h:b^x%r=1%r):b^(x*k)%r=1%r:=by
 rw[Nat.pow_mul,Nat.pow_mod,h,<- Nat.pow_mod,Nat.one_pow]
theorem Vk (r b x y:Nat) (hx:b^x%r=1%r) (hy:b^y%r=1%r):b^Nat.gcd x y%r=1%r:=by
 induction x,y using Nat.gcd.induction with
 | H0 y=>rwa [Nat.gcd_zero_left]
 | H1 x y _ ih=>
  rw[Nat.gcd_rec]
  refine ih ?_ hx
  have e:b^y=b^(x*(y/x))*b^(y%x):=by rw[<- Nat.pow_add,Nat.div_add_mod]
  rw[e,Nat.mul_mod,Ga _ hx,<- Nat.mul_mod,Nat.one_mul]at hy
  exact hy
theorem step {N q m a:Nat} (hq:Prime q) (hN:N-1=m*q) (h2:2<=N) (h1:a^(N-1)%N=1) (hg:Nat.gcd (a^m%N+(N-1)) N=1):
  ∀r,Prime r->r ∣ N->q ∣ r-1:=by
 intro r hr hd
 have hr2:=hr.1
 by_cases hn:q ∣ r-1
 .exact hn
 have hc:Nat.gcd q (r-1)=1:=hq.coprime hn
 have hb:(a^m)^q%r=1%r:=by
  rw[<- Nat.pow_mul,<- hN,<- Nat.mod_mod_of_dvd _ hd,h1]
 have ha:¬r ∣ a^m:=by
  intro k
  have hq0:q≠0:=by have:=hq.1;omega
  have:=Nat.mod_eq_zero_of_dvd (Nat.dvd_trans k ⟨(a^m)^(q-1),by rw[<- Nat.pow_succ',show (q-1).succ=q by omega]⟩)
  rw[hb,Nat.mod_eq_of_lt hr2]at this
  omega
 have hf:=Rk hr ha
 have h3:=Vk r (a^m) q (r-1) hb (by rw[hf,Nat.mod_eq_of_lt hr2])
 rw[hc,Nat.pow_one]at h3
 have h4:r ∣ Nat.gcd (a^m%N+(N-1)) N:=by
  refine Nat.dvd_gcd (Nat.dvd_of_mod_eq_zero ?_) hd
  rw[Nat.add_mod,Nat.mod_mod_of_dvd _ hd,h3,<- Nat.add_mod,Nat.add_sub_cancel' (by omega:1<=N)]
  exact Nat.mod_eq_zero_of_dvd hd
 rw[hg]at h4
 have:=Nat.le_of_dvd (by decide) h4
 omega
theorem og {N F:Nat} (h2:2<=N) (hF:N<F*F) (h:∀r,Prime r->r ∣ N->F ∣ r-1):Prime N:=by
 by_cases hp:Prime N
 .exact hp
 obtain⟨r,hr,hd,hle⟩:=Ak h2 hp
 have hr2:=hr.1
 have:=Nat.le_of_dvd (by omega) (h r hr hd)
 have:F*F<=r*r:=Nat.mul_le_mul (by omega) (by omega)
 omega
theorem both {x q q':Nat} (hq:Prime q) (hn:¬q ∣ q') (h:q ∣ x) (h':q' ∣ x):q*q' ∣ x:=
 Nat.Coprime.mul_dvd_of_dvd_of_dvd (hq.coprime hn) h h'
def trial (n:Nat):Nat->Nat->Bool
 | 0,_=>true
 | f+1,d=>n%d !=0&&trial n f (d+1)
theorem Kl {n:Nat}:∀f d,trial n f d=true->∀m,d<=m->m<d+f->n%m≠0:=by
 intro f
 induction f with
 | zero=>intro d _ m h1 h2;omega
 | succ f ih=>
  intro d h m h1 h2
  simp only[trial,Bool.and_eq_true,bne_iff_ne]at h
  by_cases e:m=d
  .subst e;exact h.1
  .exact ih (d+1) h.2 m (by omega) (by omega)
theorem mq {n:Nat} (f:Nat) (h2:2<=n) (hf:n<(f+2)*(f+2)) (h:trial n f 2=true):Prime n:=by
 by_cases hp:Prime n
 .exact hp
 obtain⟨r,hr,hd,hle⟩:=Ak h2 hp
 have hr2:=hr.1
 by_cases hlt:r<2+f
 .exact absurd (Nat.mod_eq_zero_of_dvd hd) (Kl f 2 h r hr2 hlt)
 .have:(f+2)*(f+2)<=r*r:=Nat.mul_le_mul (by omega) (by omega)
  omega
def pm (n a:Nat):Nat->Nat->Nat
 | 0,_=>1%n
 | f+1,e=>if e%2=0 then pm n a f (e/2)*pm n a f (e/2)%n else pm n a f (e/2)*pm n a f (e/2)%n*a%n
theorem abM (n a:Nat):∀f e,e<2^f->pm n a f e=a^e%n:=by
 intro f
 induction f with
 | zero=>
  intro e h
  have:e=0:=by simpa using h
  subst this
  simp[pm]
 | succ f ih=>
  intro e h
  have h':e/2<2^f:=by rw[Nat.pow_succ]at h;omega
  have sq:pm n a f (e/2)*pm n a f (e/2)%n=a^(e/2+e/2)%n:=by
   rw[ih _ h',<- Nat.mul_mod,<- Nat.pow_add]
  rw[pm,sq]
  by_cases h2:e%2=0
  .rw[if_pos h2,show e/2+e/2=e by omega]
  .rw[if_neg h2,Nat.mod_mul_mod,<- Nat.pow_succ,show (e/2+e/2).succ=e by omega]
theorem Km {n a e v:Nat} (f:Nat) (he:e<2^f) (h:pm n a f e=v):a^e%n=v:=by rw[<- abM n a f e he];exact h
theorem step' {N q:Nat} (m a f b:Nat) (hq:Prime q) (hN:N-1=m*q) (h2:2<=N) (hf:N<2^f) (h1:pm N a f (N-1)=1) (hb:pm N a f m=b) (hg:Nat.gcd (b+(N-1)) N=1):
  ∀r,Prime r->r ∣ N->q ∣ r-1:=by
 have hm:m<2^f:=by
  have h1:=hq.1
  have:m*1<=m*q:=Nat.mul_le_mul_left m (by omega)
  omega
 refine step (a:=a) hq hN h2 (Km f (by omega) h1) ?_
 rw[Km f hm hb];exact hg
end Num
namespace Num
theorem Om:Prime 127:=mq 11 (by decide) (by decide) (by decide +kernel)
theorem Rl:Prime 4153:=mq 64 (by decide) (by decide) (by decide +kernel)
theorem Gb:Prime 430751:=mq 656 (by decide) (by decide) (by decide +kernel)
theorem Gc:Prime 8574133:=mq 2928 (by decide) (by decide) (by decide +kernel)
theorem Oo:Prime 569003:=mq 754 (by decide) (by decide) (by decide +kernel)
theorem Rm:Prime 2773320623:=og (F:=569003) (by decide) (by decide +kernel) fun r hr hd=>(step' 4874 2 32 2039232613 Oo (by decide +kernel) (by decide) (by decide +kernel) (by decide +kernel) (by decide +kernel) (by decide +kernel) r hr hd)
theorem Ro:Prime 72106336199:=og (F:=2773320623) (by decide) (by decide +kernel) fun r hr hd=>(step' 26 2 37 67108864 Rm (by decide +kernel) (by decide) (by decide +kernel) (by decide +kernel) (by decide +kernel) (by decide +kernel) r hr hd)
theorem Gd:Prime 1919519569386763:=og (F:=8574133*127) (by decide) (by decide +kernel) fun r hr hd=>both Gc (by decide +kernel) (step' 223873314 2 51 1059928654987441 Gc (by decide +kernel) (by decide) (by decide +kernel) (by decide +kernel) (by decide +kernel) (by decide +kernel) r hr hd) (step' 15114327318006 2 51 576774792492622 Om (by decide +kernel) (by decide) (by decide +kernel) (by decide +kernel) (by decide +kernel) (by decide +kernel) r hr hd)
theorem Rp:Prime 31757755568855353:=og (F:=430751*4153) (by decide) (by decide +kernel) fun r hr hd=>both Gb (by decide +kernel) (step' 73726481352 2 55 15280470251845350 Gb (by decide +kernel) (by decide) (by decide +kernel) (by decide +kernel) (by decide +kernel) (by decide +kernel) r hr hd) (step' 7646943310584 2 55 28256283979054930 Rl (by decide +kernel) (by decide) (by decide +kernel) (by decide +kernel) (by decide +kernel) (by decide +kernel) r hr hd)
theorem Gf:Prime 75445702479781427272750846543864801:=og (F:=1919519569386763*72106336199) (by decide) (by decide +kernel) fun r hr hd=>both Gd (by decide +kernel) (step' 39304471641247389600 2 116 56747016255153332959347766392083459 Gd (by decide +kernel) (by decide) (by decide +kernel) (by decide +kernel) (by decide +kernel) (by decide +kernel) r hr hd) (step' 1046311689884858398375200 2 116 71619851993489548214160924360205394 Ro (by decide +kernel) (by decide) (by decide +kernel) (by decide +kernel) (by decide +kernel) (by decide +kernel) r hr hd)
theorem Rq:Prime 74058212732561358302231226437062788676166966415465897661863160754340907:=og (F:=75445702479781427272750846543864801*31757755568855353) (by decide) (by decide +kernel) fun r hr hd=>both Gf (by decide +kernel) (step' 981609426360740691344999861639072106 2 236 69490809710348678725736597923071784769591275419387514694139338586948360 Gf (by decide +kernel) (by decide) (by decide +kernel) (by decide +kernel) (by decide +kernel) (by decide +kernel) r hr hd) (step' 2331972502653487852620185443007392165117953542933313402 2 236 50366660687963342066214195241331738400016478712605795091965648721912165 Rp (by decide +kernel) (by decide) (by decide +kernel) (by decide +kernel) (by decide +kernel) (by decide +kernel) r hr hd)
theorem Vl:Prime 57896044618658097711785492504343953926634992332820282019728792003956564819949:=og (F:=74058212732561358302231226437062788676166966415465897661863160754340907) (by decide) (by decide +kernel) fun r hr hd=>(step' 781764 2 255 427094198651976259540344842774561673889945192655078505504941250475370961481 Rq (by decide +kernel) (by decide) (by decide +kernel) (by decide +kernel) (by decide +kernel) (by decide +kernel) r hr hd)
end Num
section
structure Fe where
 x0:Int
 x1:Int
 x2:Int
 x3:Int
 x4:Int
deriving DecidableEq
namespace Fe
structure Ok (a:Fe):Prop where
 n0:0<=a.x0
 n1:0<=a.x1
 n2:0<=a.x2
 n3:0<=a.x3
 n4:0<=a.x4
 l0:a.x0<18446744073709551616
 l1:a.x1<18446744073709551616
 l2:a.x2<18446744073709551616
 l3:a.x3<18446744073709551616
 l4:a.x4<18446744073709551616
structure Right (a:Fe):Prop where
 n0:0<=a.x0
 n1:0<=a.x1
 n2:0<=a.x2
 n3:0<=a.x3
 n4:0<=a.x4
 l0:a.x0<4503599627370496
 l1:a.x1<4503599627370496
 l2:a.x2<4503599627370496
 l3:a.x3<4503599627370496
 l4:a.x4<4503599627370496
theorem Right.ok {a:Fe} (h:Right a):Ok a:=by
 obtain⟨n0,n1,n2,n3,n4,l0,l1,l2,l3,l4⟩:=h
 constructor<;>omega
def V (a:Fe):Int:=a.x0+2251799813685248*a.x1+5070602400912917605986812821504*a.x2+11417981541647679048466287755595961091061972992*a.x3+25711008708143844408671393477458601640355247900524685364822016*a.x4
def P:Nat:=57896044618658097711785492504343953926634992332820282019728792003956564819949
def m (a:Fe):Nat:=(a.V%(P:Int)).toNat
def kI (a:Fe):Fe:=
 ⟨a.x0%2251799813685248+19*(a.x4/2251799813685248),a.x1%2251799813685248+a.x0/2251799813685248,a.x2%2251799813685248+a.x1/2251799813685248,
  a.x3%2251799813685248+a.x2/2251799813685248,a.x4%2251799813685248+a.x3/2251799813685248⟩
theorem sJ {a:Fe} (h:Ok a):Right (kI a):=by
 obtain⟨n0,n1,n2,n3,n4,l0,l1,l2,l3,l4⟩:=h
 constructor<;>simp only[kI]<;>omega
theorem Mj (a:Fe):V (kI a)=V a-(P:Int)*(a.x4/2251799813685248):=by
 simp only[V,kI,P]
 omega
theorem afk {a b:Fe} (h:∃k:Int,V a=V b+(P:Int)*k):m a=m b:=by
 obtain⟨k,hk⟩:=h
 unfold m
 rw[hk,Int.add_mul_emod_self_left]
theorem Et (a:Fe):m (kI a)=m a:=afk ⟨-(a.x4/2251799813685248),by rw[Mj,Int.mul_neg];omega⟩
def dH (x:Int):Int:=x%18446744073709551616
def fF (a b:Fe):Fe:=kI ⟨dH (a.x0+b.x0),dH (a.x1+b.x1),dH (a.x2+b.x2),dH (a.x3+b.x3),dH (a.x4+b.x4)⟩
def iw (a b:Fe):Fe:=
 kI ⟨dH (a.x0+dH (9007199254740916-b.x0)),dH (a.x1+dH (9007199254740988-b.x1)),dH (a.x2+dH (9007199254740988-b.x2)),dH (a.x3+dH (9007199254740988-b.x3)),dH (a.x4+dH (9007199254740988-b.x4))⟩
def bI:Fe:=⟨0,0,0,0,0⟩
def dP:Fe:=⟨1,0,0,0,0⟩
def kR (a:Fe):Fe:=iw bI a
theorem Eu (x0 x1 x2 x3 x4:Int):Ok ⟨dH x0,dH x1,dH x2,dH x3,dH x4⟩:=by
 constructor<;>simp only[dH]<;>omega
theorem dI (a b:Fe):Right (fF a b):=sJ (Eu ..)
theorem fQ (a b:Fe):Right (iw a b):=sJ (Eu ..)
theorem kM (a:Fe):Right (kR a):=fQ ..
theorem xM (a:Fe):m a<P:=by
 unfold m P
 omega
theorem mW (a:Fe):((m a:Nat):Int)=V a%(P:Int):=by
 unfold m P
 omega
theorem Mk {x y:Nat} (hx:x<P) (h:((x:Nat):Int)%(P:Int)=((y:Nat):Int)%(P:Int)):x=y%P:=by
 unfold P at *
 omega
theorem abN {a b:Fe} (ha:Right a) (hb:Right b):m (fF a b)=(m a+m b)%P:=by
 have e:V (⟨dH (a.x0+b.x0),dH (a.x1+b.x1),dH (a.x2+b.x2),dH (a.x3+b.x3),dH (a.x4+b.x4)⟩:Fe)=V a+V b:=by
  obtain⟨n0,n1,n2,n3,n4,l0,l1,l2,l3,l4⟩:=ha
  obtain⟨k0,k1,k2,k3,k4,j0,j1,j2,j3,j4⟩:=hb
  simp only[V,dH]
  omega
 unfold fF
 rw[Et]
 apply Mk (xM _)
 rw[mW,e,Int.natCast_add,mW,mW,Int.emod_emod,<- Int.add_emod]
theorem Ye {a b:Fe} (ha:Right a) (hb:Right b):m (iw a b)=(m a+(P-m b))%P:=by
 have e:V (⟨dH (a.x0+dH (9007199254740916-b.x0)),dH (a.x1+dH (9007199254740988-b.x1)),dH (a.x2+dH (9007199254740988-b.x2)),dH (a.x3+dH (9007199254740988-b.x3)),dH (a.x4+dH (9007199254740988-b.x4))⟩:Fe)
   =V a-V b+(P:Int)*4:=by
  obtain⟨n0,n1,n2,n3,n4,l0,l1,l2,l3,l4⟩:=ha
  obtain⟨k0,k1,k2,k3,k4,j0,j1,j2,j3,j4⟩:=hb
  simp only[V,dH,P]
  omega
 have hb:=xM b
 have ca:=mW a
 have cb:=mW b
 have h:=mW (iw a b)
 rw[show m (iw a b)=_ from Et _]at h ⊢
 have hl:=xM (⟨dH (a.x0+dH (9007199254740916-b.x0)),dH (a.x1+dH (9007199254740988-b.x1)),dH (a.x2+dH (9007199254740988-b.x2)),dH (a.x3+dH (9007199254740988-b.x3)),dH (a.x4+dH (9007199254740988-b.x4))⟩:Fe)
 have h2:=mW (⟨dH (a.x0+dH (9007199254740916-b.x0)),dH (a.x1+dH (9007199254740988-b.x1)),dH (a.x2+dH (9007199254740988-b.x2)),dH (a.x3+dH (9007199254740988-b.x3)),dH (a.x4+dH (9007199254740988-b.x4))⟩:Fe)
 rw[e,Int.add_mul_emod_self_left]at h2
 generalize m (⟨dH (a.x0+dH (9007199254740916-b.x0)),dH (a.x1+dH (9007199254740988-b.x1)),dH (a.x2+dH (9007199254740988-b.x2)),dH (a.x3+dH (9007199254740988-b.x3)),dH (a.x4+dH (9007199254740988-b.x4))⟩:Fe)=M at *
 clear h e
 generalize V a=A at *
 generalize V b=B at *
 unfold P at *
 omega
def qy (S a b:Int):Int:=(S+a*b)%340282366920938463463374607431768211456
def ng (S:Int):Int:=S%2251799813685248
def ni (S:Int):Int:=dH (S/2251799813685248)
def uH (s0 s1 s2 s3 s4:Int):Fe:=
 kI ⟨dH (ng s0+dH (19*ni s4)),dH (ng s1+ni s0),dH (ng s2+ni s1),dH (ng s3+ni s2),dH (ng s4+ni s3)⟩
def s5 (a0 b0 a1 b1 a2 b2 a3 b3 a4 b4:Int):Int:=qy (qy (qy (qy (qy 0 a0 b0) a1 b1) a2 b2) a3 b3) a4 b4
def s3 (a0 b0 a1 b1 a2 b2:Int):Int:=qy (qy (qy 0 a0 b0) a1 b1) a2 b2
def aM (a b:Fe):Fe:=
 uH (s5 a.x0 b.x0 a.x1 (dH (19*b.x4)) a.x2 (dH (19*b.x3)) a.x3 (dH (19*b.x2)) a.x4 (dH (19*b.x1)))
  (s5 a.x0 b.x1 a.x1 b.x0 a.x2 (dH (19*b.x4)) a.x3 (dH (19*b.x3)) a.x4 (dH (19*b.x2)))
  (s5 a.x0 b.x2 a.x1 b.x1 a.x2 b.x0 a.x3 (dH (19*b.x4)) a.x4 (dH (19*b.x3)))
  (s5 a.x0 b.x3 a.x1 b.x2 a.x2 b.x1 a.x3 b.x0 a.x4 (dH (19*b.x4)))
  (s5 a.x0 b.x4 a.x1 b.x3 a.x2 b.x2 a.x3 b.x1 a.x4 b.x0)
def cu (a:Fe):Fe:=
 uH (s3 a.x0 a.x0 (dH (2*a.x1)) (dH (19*a.x4)) (dH (2*a.x2)) (dH (19*a.x3)))
  (s3 (dH (2*a.x0)) a.x1 (dH (2*a.x2)) (dH (19*a.x4)) a.x3 (dH (19*a.x3)))
  (s3 (dH (2*a.x0)) a.x2 a.x1 a.x1 (dH (2*a.x3)) (dH (19*a.x4)))
  (s3 (dH (2*a.x0)) a.x3 (dH (2*a.x1)) a.x2 a.x4 (dH (19*a.x4)))
  (s3 (dH (2*a.x0)) a.x4 (dH (2*a.x1)) a.x3 a.x2 a.x2)
theorem Al (s0 s1 s2 s3 s4:Int):Right (uH s0 s1 s2 s3 s4):=sJ (Eu ..)
theorem mul_right (a b:Fe):Right (aM a b):=Al ..
theorem dS (a:Fe):Right (cu a):=Al ..
theorem Y7 {s0 s1 s2 s3 s4:Int} (h0:0<=s0) (h1:0<=s1) (h2:0<=s2) (h3:0<=s3) (h4:0<=s4)
  (l0:s0<2596148429267413814265248164610048) (l1:s1<2596148429267413814265248164610048) (l2:s2<2596148429267413814265248164610048) (l3:s3<2596148429267413814265248164610048) (l4:s4<162259276829213363391578010288128):
  ∃k:Int,V (uH s0 s1 s2 s3 s4)=V ⟨s0,s1,s2,s3,s4⟩+(P:Int)*k:=by
 have e:V (⟨dH (ng s0+dH (19*ni s4)),dH (ng s1+ni s0),dH (ng s2+ni s1),dH (ng s3+ni s2),dH (ng s4+ni s3)⟩:Fe)=V ⟨s0,s1,s2,s3,s4⟩-(P:Int)*(s4/2251799813685248):=by
  simp only[V,dH,ng,ni,P]
  omega
 unfold uH
 rw[Mj,e]
 exact⟨-(s4/2251799813685248)-dH (ng s4+ni s3)/2251799813685248,by simp only[Int.mul_sub,Int.mul_neg];omega⟩
theorem bq {x y:Int} (h0:0<=x) (h1:x<4503599627370496) (k0:0<=y) (k1:y<4503599627370496):0<=x*y/\x*y<20282409603651670423947251286016:=by
 refine⟨Int.mul_nonneg h0 k0,?_⟩
 have a:x*y<=4503599627370495*y:=Int.mul_le_mul_of_nonneg_right (by omega) k0
 omega
theorem kJ {x:Int} (h0:0<=x) (h1:x<18446744073709551616):dH x=x:=by unfold dH;omega
theorem uI {a0 b0 a1 b1 a2 b2 a3 b3 a4 b4:Int} (h0:0<=a0*b0) (h1:0<=a1*b1) (h2:0<=a2*b2) (h3:0<=a3*b3) (h4:0<=a4*b4)
  (h:a0*b0+a1*b1+a2*b2+a3*b3+a4*b4<340282366920938463463374607431768211456):
  s5 a0 b0 a1 b1 a2 b2 a3 b3 a4 b4=a0*b0+a1*b1+a2*b2+a3*b3+a4*b4:=by
 unfold s5 qy
 omega
theorem Gg {a0 b0 a1 b1 a2 b2:Int} (h0:0<=a0*b0) (h1:0<=a1*b1) (h2:0<=a2*b2)
  (h:a0*b0+a1*b1+a2*b2<340282366920938463463374607431768211456):
  s3 a0 b0 a1 b1 a2 b2=a0*b0+a1*b1+a2*b2:=by
 unfold s3 qy
 omega
theorem poly (a0 a1 a2 a3 a4 b0 b1 b2 b3 b4:Int):
  (a0+2251799813685248*a1+5070602400912917605986812821504*a2+11417981541647679048466287755595961091061972992*a3+25711008708143844408671393477458601640355247900524685364822016*a4) *
   (b0+2251799813685248*b1+5070602400912917605986812821504*b2+11417981541647679048466287755595961091061972992*b3+25711008708143844408671393477458601640355247900524685364822016*b4)
  =(a0*b0+a1*(19*b4)+a2*(19*b3)+a3*(19*b2)+a4*(19*b1))+2251799813685248*(a0*b1+a1*b0+a2*(19*b4)+a3*(19*b3)+a4*(19*b2))
   + 5070602400912917605986812821504*(a0*b2+a1*b1+a2*b0+a3*(19*b4)+a4*(19*b3))+11417981541647679048466287755595961091061972992*(a0*b3+a1*b2+a2*b1+a3*b0+a4*(19*b4))
   + 25711008708143844408671393477458601640355247900524685364822016*(a0*b4+a1*b3+a2*b2+a3*b1+a4*b0)
   + 57896044618658097711785492504343953926634992332820282019728792003956564819949*((a1*b4+a2*b3+a3*b2+a4*b1)+2251799813685248*(a2*b4+a3*b3+a4*b2)+5070602400912917605986812821504*(a3*b4+a4*b3)+11417981541647679048466287755595961091061972992*(a4*b4)):=by
 grind
theorem yF {a b:Fe} (ha:Right a) (hb:Right b):m (aM a b)=m a*m b%P:=by
 have key:∃k:Int,V (aM a b)=V a*V b+(P:Int)*k:=by
  obtain⟨n0,n1,n2,n3,n4,l0,l1,l2,l3,l4⟩:=ha
  obtain⟨k0,k1,k2,k3,k4,j0,j1,j2,j3,j4⟩:=hb
  unfold aM
  rw[kJ (x:=19*b.x1) (by omega) (by omega)]
  rw[kJ (x:=19*b.x2) (by omega) (by omega)]
  rw[kJ (x:=19*b.x3) (by omega) (by omega)]
  rw[kJ (x:=19*b.x4) (by omega) (by omega)]
  obtain⟨p00,q00⟩:=bq n0 l0 k0 j0
  obtain⟨p01,q01⟩:=bq n0 l0 k1 j1
  obtain⟨p02,q02⟩:=bq n0 l0 k2 j2
  obtain⟨p03,q03⟩:=bq n0 l0 k3 j3
  obtain⟨p04,q04⟩:=bq n0 l0 k4 j4
  obtain⟨p10,q10⟩:=bq n1 l1 k0 j0
  obtain⟨p11,q11⟩:=bq n1 l1 k1 j1
  obtain⟨p12,q12⟩:=bq n1 l1 k2 j2
  obtain⟨p13,q13⟩:=bq n1 l1 k3 j3
  obtain⟨p14,q14⟩:=bq n1 l1 k4 j4
  obtain⟨p20,q20⟩:=bq n2 l2 k0 j0
  obtain⟨p21,q21⟩:=bq n2 l2 k1 j1
  obtain⟨p22,q22⟩:=bq n2 l2 k2 j2
  obtain⟨p23,q23⟩:=bq n2 l2 k3 j3
  obtain⟨p24,q24⟩:=bq n2 l2 k4 j4
  obtain⟨p30,q30⟩:=bq n3 l3 k0 j0
  obtain⟨p31,q31⟩:=bq n3 l3 k1 j1
  obtain⟨p32,q32⟩:=bq n3 l3 k2 j2
  obtain⟨p33,q33⟩:=bq n3 l3 k3 j3
  obtain⟨p34,q34⟩:=bq n3 l3 k4 j4
  obtain⟨p40,q40⟩:=bq n4 l4 k0 j0
  obtain⟨p41,q41⟩:=bq n4 l4 k1 j1
  obtain⟨p42,q42⟩:=bq n4 l4 k2 j2
  obtain⟨p43,q43⟩:=bq n4 l4 k3 j3
  obtain⟨p44,q44⟩:=bq n4 l4 k4 j4
  have e14:a.x1*(19*b.x4)=19*(a.x1*b.x4):=by rw[Int.mul_left_comm]
  have e23:a.x2*(19*b.x3)=19*(a.x2*b.x3):=by rw[Int.mul_left_comm]
  have e24:a.x2*(19*b.x4)=19*(a.x2*b.x4):=by rw[Int.mul_left_comm]
  have e32:a.x3*(19*b.x2)=19*(a.x3*b.x2):=by rw[Int.mul_left_comm]
  have e33:a.x3*(19*b.x3)=19*(a.x3*b.x3):=by rw[Int.mul_left_comm]
  have e34:a.x3*(19*b.x4)=19*(a.x3*b.x4):=by rw[Int.mul_left_comm]
  have e41:a.x4*(19*b.x1)=19*(a.x4*b.x1):=by rw[Int.mul_left_comm]
  have e42:a.x4*(19*b.x2)=19*(a.x4*b.x2):=by rw[Int.mul_left_comm]
  have e43:a.x4*(19*b.x3)=19*(a.x4*b.x3):=by rw[Int.mul_left_comm]
  have e44:a.x4*(19*b.x4)=19*(a.x4*b.x4):=by rw[Int.mul_left_comm]
  rw[uI (by omega) (by omega) (by omega) (by omega) (by omega) (by omega)]
  rw[uI (by omega) (by omega) (by omega) (by omega) (by omega) (by omega)]
  rw[uI (by omega) (by omega) (by omega) (by omega) (by omega) (by omega)]
  rw[uI (by omega) (by omega) (by omega) (by omega) (by omega) (by omega)]
  rw[uI (by omega) (by omega) (by omega) (by omega) (by omega) (by omega)]
  have hp:=poly a.x0 a.x1 a.x2 a.x3 a.x4 b.x0 b.x1 b.x2 b.x3 b.x4
  obtain⟨k,hk⟩:=Y7 (s0:=a.x0*b.x0+a.x1*(19*b.x4)+a.x2*(19*b.x3)+a.x3*(19*b.x2)+a.x4*(19*b.x1)) (s1:=a.x0*b.x1+a.x1*b.x0+a.x2*(19*b.x4)+a.x3*(19*b.x3)+a.x4*(19*b.x2)) (s2:=a.x0*b.x2+a.x1*b.x1+a.x2*b.x0+a.x3*(19*b.x4)+a.x4*(19*b.x3)) (s3:=a.x0*b.x3+a.x1*b.x2+a.x2*b.x1+a.x3*b.x0+a.x4*(19*b.x4)) (s4:=a.x0*b.x4+a.x1*b.x3+a.x2*b.x2+a.x3*b.x1+a.x4*b.x0)
   (by omega) (by omega) (by omega) (by omega) (by omega) (by omega) (by omega) (by omega) (by omega) (by omega)
  rw[hk]
  refine⟨k-((a.x1*b.x4+a.x2*b.x3+a.x3*b.x2+a.x4*b.x1)+2251799813685248*(a.x2*b.x4+a.x3*b.x3+a.x4*b.x2)+5070602400912917605986812821504*(a.x3*b.x4+a.x4*b.x3)+11417981541647679048466287755595961091061972992*(a.x4*b.x4)),?_⟩
  simp only[V,P]at hp ⊢
  rw[hp]
  omega
 obtain⟨k,hk⟩:=key
 apply Mk (xM _)
 rw[mW,hk,Int.add_mul_emod_self_left,Int.natCast_mul,mW,mW,Int.emod_emod,<- Int.mul_emod]
theorem abO {a:Fe} (ha:Right a):cu a=aM a a:=by
 obtain⟨n0,n1,n2,n3,n4,l0,l1,l2,l3,l4⟩:=ha
 unfold cu aM
 rw[kJ (x:=19*a.x1) (by omega) (by omega)]
 rw[kJ (x:=19*a.x2) (by omega) (by omega)]
 rw[kJ (x:=19*a.x3) (by omega) (by omega)]
 rw[kJ (x:=19*a.x4) (by omega) (by omega)]
 rw[kJ (x:=2*a.x0) (by omega) (by omega)]
 rw[kJ (x:=2*a.x1) (by omega) (by omega)]
 rw[kJ (x:=2*a.x2) (by omega) (by omega)]
 rw[kJ (x:=2*a.x3) (by omega) (by omega)]
 obtain⟨p00,q00⟩:=bq n0 l0 n0 l0
 obtain⟨p01,q01⟩:=bq n0 l0 n1 l1
 obtain⟨p02,q02⟩:=bq n0 l0 n2 l2
 obtain⟨p03,q03⟩:=bq n0 l0 n3 l3
 obtain⟨p04,q04⟩:=bq n0 l0 n4 l4
 obtain⟨p10,q10⟩:=bq n1 l1 n0 l0
 obtain⟨p11,q11⟩:=bq n1 l1 n1 l1
 obtain⟨p12,q12⟩:=bq n1 l1 n2 l2
 obtain⟨p13,q13⟩:=bq n1 l1 n3 l3
 obtain⟨p14,q14⟩:=bq n1 l1 n4 l4
 obtain⟨p20,q20⟩:=bq n2 l2 n0 l0
 obtain⟨p21,q21⟩:=bq n2 l2 n1 l1
 obtain⟨p22,q22⟩:=bq n2 l2 n2 l2
 obtain⟨p23,q23⟩:=bq n2 l2 n3 l3
 obtain⟨p24,q24⟩:=bq n2 l2 n4 l4
 obtain⟨p30,q30⟩:=bq n3 l3 n0 l0
 obtain⟨p31,q31⟩:=bq n3 l3 n1 l1
 obtain⟨p32,q32⟩:=bq n3 l3 n2 l2
 obtain⟨p33,q33⟩:=bq n3 l3 n3 l3
 obtain⟨p34,q34⟩:=bq n3 l3 n4 l4
 obtain⟨p40,q40⟩:=bq n4 l4 n0 l0
 obtain⟨p41,q41⟩:=bq n4 l4 n1 l1
 obtain⟨p42,q42⟩:=bq n4 l4 n2 l2
 obtain⟨p43,q43⟩:=bq n4 l4 n3 l3
 obtain⟨p44,q44⟩:=bq n4 l4 n4 l4
 have c10:a.x1*a.x0=a.x0*a.x1:=Int.mul_comm ..
 have e14:a.x1*(19*a.x4)=19*(a.x1*a.x4):=by rw[Int.mul_left_comm]
 have c20:a.x2*a.x0=a.x0*a.x2:=Int.mul_comm ..
 have c21:a.x2*a.x1=a.x1*a.x2:=Int.mul_comm ..
 have e23:a.x2*(19*a.x3)=19*(a.x2*a.x3):=by rw[Int.mul_left_comm]
 have e24:a.x2*(19*a.x4)=19*(a.x2*a.x4):=by rw[Int.mul_left_comm]
 have c30:a.x3*a.x0=a.x0*a.x3:=Int.mul_comm ..
 have c31:a.x3*a.x1=a.x1*a.x3:=Int.mul_comm ..
 have c32:a.x3*a.x2=a.x2*a.x3:=Int.mul_comm ..
 have e32:a.x3*(19*a.x2)=19*(a.x3*a.x2):=by rw[Int.mul_left_comm]
 have e33:a.x3*(19*a.x3)=19*(a.x3*a.x3):=by rw[Int.mul_left_comm]
 have e34:a.x3*(19*a.x4)=19*(a.x3*a.x4):=by rw[Int.mul_left_comm]
 have c40:a.x4*a.x0=a.x0*a.x4:=Int.mul_comm ..
 have c41:a.x4*a.x1=a.x1*a.x4:=Int.mul_comm ..
 have e41:a.x4*(19*a.x1)=19*(a.x4*a.x1):=by rw[Int.mul_left_comm]
 have c42:a.x4*a.x2=a.x2*a.x4:=Int.mul_comm ..
 have e42:a.x4*(19*a.x2)=19*(a.x4*a.x2):=by rw[Int.mul_left_comm]
 have c43:a.x4*a.x3=a.x3*a.x4:=Int.mul_comm ..
 have e43:a.x4*(19*a.x3)=19*(a.x4*a.x3):=by rw[Int.mul_left_comm]
 have e44:a.x4*(19*a.x4)=19*(a.x4*a.x4):=by rw[Int.mul_left_comm]
 have f14:2*a.x1*(19*a.x4)=38*(a.x1*a.x4):=by grind
 have f23:2*a.x2*(19*a.x3)=38*(a.x2*a.x3):=by grind
 have f24:2*a.x2*(19*a.x4)=38*(a.x2*a.x4):=by grind
 have f34:2*a.x3*(19*a.x4)=38*(a.x3*a.x4):=by grind
 have g01:2*a.x0*a.x1=2*(a.x0*a.x1):=Int.mul_assoc ..
 have g02:2*a.x0*a.x2=2*(a.x0*a.x2):=Int.mul_assoc ..
 have g03:2*a.x0*a.x3=2*(a.x0*a.x3):=Int.mul_assoc ..
 have g12:2*a.x1*a.x2=2*(a.x1*a.x2):=Int.mul_assoc ..
 have g04:2*a.x0*a.x4=2*(a.x0*a.x4):=Int.mul_assoc ..
 have g13:2*a.x1*a.x3=2*(a.x1*a.x3):=Int.mul_assoc ..
 rw[Gg (by omega) (by omega) (by omega) (by omega)]
 rw[Gg (by omega) (by omega) (by omega) (by omega)]
 rw[Gg (by omega) (by omega) (by omega) (by omega)]
 rw[Gg (by omega) (by omega) (by omega) (by omega)]
 rw[Gg (by omega) (by omega) (by omega) (by omega)]
 rw[uI (by omega) (by omega) (by omega) (by omega) (by omega) (by omega)]
 rw[uI (by omega) (by omega) (by omega) (by omega) (by omega) (by omega)]
 rw[uI (by omega) (by omega) (by omega) (by omega) (by omega) (by omega)]
 rw[uI (by omega) (by omega) (by omega) (by omega) (by omega) (by omega)]
 rw[uI (by omega) (by omega) (by omega) (by omega) (by omega) (by omega)]
 congr 1<;>omega
theorem Y8 {a:Fe} (ha:Right a):m (cu a)=m a*m a%P:=by rw[abO ha,yF ha ha]
def gK (a:Fe):Fe:=
 ⟨(m a:Int)%2251799813685248,(m a:Int)/2251799813685248%2251799813685248,(m a:Int)/5070602400912917605986812821504%2251799813685248,
  (m a:Int)/11417981541647679048466287755595961091061972992%2251799813685248,(m a:Int)/25711008708143844408671393477458601640355247900524685364822016%2251799813685248⟩
def yG (a:Fe):Int:=(a.x0+19)/2251799813685248
def Am (a:Fe):Int:=(a.x1+yG a)/2251799813685248
def Dt (a:Fe):Int:=(a.x2+Am a)/2251799813685248
def Gh (a:Fe):Int:=(a.x3+Dt a)/2251799813685248
def uJ (a:Fe):Int:=(a.x4+Gh a)/2251799813685248
def Ru (a:Fe):Int:=a.x0+19*uJ a
def Rv (a:Fe):Int:=a.x1+Ru a/2251799813685248
def Rw (a:Fe):Int:=a.x2+Rv a/2251799813685248
def Rx (a:Fe):Int:=a.x3+Rw a/2251799813685248
def Vm (a:Fe):Int:=a.x4+Rx a/2251799813685248
structure Low (a:Fe):Prop where
 n0:0<=a.x0
 n1:0<=a.x1
 n2:0<=a.x2
 n3:0<=a.x3
 n4:0<=a.x4
 l0:a.x0<2251799813840896
 l1:a.x1<2251799813693440
 l2:a.x2<2251799813693440
 l3:a.x3<2251799813693440
 l4:a.x4<2251799813693440
theorem Oq {a:Fe} (h:Ok a):Low (kI a):=by
 obtain⟨n0,n1,n2,n3,n4,l0,l1,l2,l3,l4⟩:=h
 constructor<;>simp only[kI]<;>omega
theorem Ml {a:Fe} (h:Low a):uJ a=(V a+19)/57896044618658097711785492504343953926634992332820282019728792003956564819968:=by
 obtain⟨n0,n1,n2,n3,n4,l0,l1,l2,l3,l4⟩:=h
 simp only[uJ,Gh,Dt,Am,yG,V]
 omega
theorem Vn {a:Fe} (h:Low a):0<=uJ a/\uJ a<=1:=by
 rw[Ml h]
 obtain⟨n0,n1,n2,n3,n4,l0,l1,l2,l3,l4⟩:=h
 simp only[V]
 omega
theorem abP {a:Fe} (h:Low a):(m a:Int)=V a-(P:Int)*uJ a:=by
 have e:=Ml h
 rw[mW]
 obtain⟨n0,n1,n2,n3,n4,l0,l1,l2,l3,l4⟩:=h
 simp only[V,P]at e ⊢
 omega
theorem digits {M d0 d1 d2 d3 d4:Int} (n0:0<=d0) (n1:0<=d1) (n2:0<=d2) (n3:0<=d3) (n4:0<=d4)
  (l0:d0<2251799813685248) (l1:d1<2251799813685248) (l2:d2<2251799813685248) (l3:d3<2251799813685248) (l4:d4<2251799813685248)
  (h:M=d0+2251799813685248*d1+5070602400912917605986812821504*d2+11417981541647679048466287755595961091061972992*d3+25711008708143844408671393477458601640355247900524685364822016*d4):
  (⟨M%2251799813685248,M/2251799813685248%2251799813685248,M/5070602400912917605986812821504%2251799813685248,M/11417981541647679048466287755595961091061972992%2251799813685248,M/25711008708143844408671393477458601640355247900524685364822016%2251799813685248⟩:Fe)=⟨d0,d1,d2,d3,d4⟩:=by
 have e1:M/2251799813685248=d1+2251799813685248*d2+5070602400912917605986812821504*d3+11417981541647679048466287755595961091061972992*d4:=by omega
 have e2:M/5070602400912917605986812821504=d2+2251799813685248*d3+5070602400912917605986812821504*d4:=by omega
 have e3:M/11417981541647679048466287755595961091061972992=d3+2251799813685248*d4:=by omega
 have e4:M/25711008708143844408671393477458601640355247900524685364822016=d4:=by omega
 rw[e1,e2,e3,e4]
 congr 1<;>omega
theorem Ry {a:Fe} (h:Low a):gK a=⟨Ru a%2251799813685248,Rv a%2251799813685248,Rw a%2251799813685248,Rx a%2251799813685248,Vm a%2251799813685248⟩:=by
 have e:=abP h
 have o:=Vn h
 have hl:=xM a
 obtain⟨n0,n1,n2,n3,n4,l0,l1,l2,l3,l4⟩:=h
 unfold gK
 refine digits (by omega) (by omega) (by omega) (by omega) (by omega) (by omega) (by omega) (by omega) (by omega) (by omega) ?_
 have hn:(0:Int)<=(m a:Int):=by omega
 have hl':(m a:Int)<57896044618658097711785492504343953926634992332820282019728792003956564819949:=by unfold P at hl;omega
 clear hl
 rw[e]at hn hl' ⊢
 simp only[V,P]at hn hl' ⊢
 simp only[Vm,Rx,Rw,Rv,Ru]
 generalize uJ a=o5 at *
 omega
theorem Gi (a:Fe):gK (kI a)=gK a:=by unfold gK;rw[Et]
end Fe
end
namespace Fe
open Num
def Ao:Nat:=57896044618658097711785492504343953926634992332820282019728792003956564819948
def eInv:Nat:=57896044618658097711785492504343953926634992332820282019728792003956564819947
def uK:Nat:=28948022309329048855892746252171976963317496166410141009864396001978282409974
def o7:Nat:=7237005577332262213973186563042994240829374041602535252466099000494570602493
def Ev:Nat:=14474011154664524427946373126085988481658748083205070504932198000989141204987
theorem Rz:Ao=P-1:=by decide +kernel
theorem Vo:eInv+1=Ao:=by decide +kernel
theorem RA:uK+uK=Ao:=by decide +kernel
theorem Ot:2*uK=Ao:=by decide +kernel
theorem Gj:2*Ev=uK:=by decide +kernel
theorem Kn:o7+o7+1=Ev:=by decide +kernel
theorem wB:Prime P:=Vl
theorem P_2:2<=P:=wB.1
theorem Vp {x:Nat} (h:x%P≠0):¬P ∣ x:=fun k=>h (Nat.mod_eq_zero_of_dvd k)
theorem Ew {x:Nat} (h:x%P≠0):x^Ao%P=1:=by rw[Rz];exact Rk wB (Vp h)
theorem eX {x y:Nat} (hx:x%P≠0) (hy:y%P≠0):x*y%P≠0:=fun h=>by
 rcases wB.dvd_mul (Nat.dvd_of_mod_eq_zero h) with k|k
 .exact hx (Nat.mod_eq_zero_of_dvd k)
 .exact hy (Nat.mod_eq_zero_of_dvd k)
theorem Y9 {x:Nat} (hx:x%P≠0) (n:Nat):x^n%P≠0:=by
 induction n with
 | zero=>rw[Nat.pow_zero,Nat.mod_eq_of_lt P_2];omega
 | succ n ih=>rw[Nat.pow_succ];exact eX ih hx
theorem wC {a b c d:Nat} (h:a%P=b%P) (k:c%P=d%P):a*c%P=b*d%P:=by rw[Nat.mul_mod,h,k,<- Nat.mul_mod]
theorem Gl {a b:Nat} (n:Nat) (h:a%P=b%P):a^n%P=b^n%P:=by rw[Nat.pow_mod,h,<- Nat.pow_mod]
theorem Za (x:Nat):x*(x^eInv%P)%P=if x%P=0 then 0 else 1:=by
 by_cases h:x%P=0
 .rw[if_pos h,Nat.mul_mod,h,Nat.zero_mul,Nat.zero_mod]
 .rw[if_neg h,Nat.mul_mod_mod,<- Nat.pow_succ',show eInv.succ=Ao from Vo,Ew h]
theorem Zb {y:Nat} (h:y*y%P=1):y%P=1\/y%P=P-1:=by
 have h2:=P_2
 rcases Nat.eq_zero_or_pos y with e|e
 .subst e;rw[Nat.zero_mul,Nat.zero_mod]at h;omega
 .obtain⟨z,rfl⟩:∃z,y=z+1:=⟨y-1,by omega⟩
  have e1:(z+1)*(z+1)=z*(z+2)+1:=by grind
  have hd:P ∣ z*(z+2):=by
   have:=Nat.sub_mod_eq_zero_of_mod_eq (m:=(z+1)*(z+1)) (n:=1) (k:=P) (by rw[h,Nat.mod_eq_of_lt h2])
   rw[e1,Nat.add_sub_cancel]at this
   exact Nat.dvd_of_mod_eq_zero this
  rcases wB.dvd_mul hd with⟨k,hk⟩ |⟨k,hk⟩
  .left;rw[hk,Nat.mul_add_mod,Nat.mod_eq_of_lt h2]
  .right
   have:z+1=P*k-1:=by omega
   unfold P at *
   omega
theorem RD {x:Nat} (h:x%P≠0):x^uK%P=1\/x^uK%P=P-1:=by
 apply Zb
 rw[<- Nat.pow_add,RA]
 exact Ew h
theorem Gm {x s:Nat} (hx:x%P≠0) (h:s*s%P=x%P):x^uK%P=1:=by
 have hs:s%P≠0:=fun e=>hx (by rw[<- h,Nat.mul_mod,e,Nat.zero_mul,Nat.zero_mod])
 have e:(s*s)^uK=s^Ao:=by
  rw[show s*s=s^2 from by rw[Nat.pow_succ,Nat.pow_one],<- Nat.pow_mul,Ot]
 rw[<- Gl _ h,e,Ew hs]
def i0:Nat:=19681161376707505956807079304988542015446066515923890162744021073123829784752
theorem abR:i0*i0%P=P-1:=by decide +kernel
def gN (u v:Nat):Nat:=u*v^3*(u*v^7)^o7
def Gp (u v:Nat):Nat:=(u*v^7)^Ev
theorem Zc (u v:Nat):gN u v*gN u v*v=u*Gp u v:=by
 have e:Gp u v=(u*v^7)^o7*(u*v^7)^o7*(u*v^7):=by
  unfold Gp
  rw[<- Nat.pow_add,<- Nat.pow_succ,<- Kn]
 rw[e]
 unfold gN
 generalize (u*v^7)^o7=Y
 grind
def nk (r u v:Nat):Prop:=r*r*v%P=u%P
instance (r u v:Nat):Decidable (nk r u v):=inferInstanceAs (Decidable (_=_))
theorem Gq (x:Nat):x*(P-1)*(P-1)%P=x%P:=by
 have e:x*(P-1)*(P-1)=x+P*(x*(P-2)):=by
  obtain⟨q,hq⟩:∃q,P=q+2:=⟨P-2,by have:=P_2;omega⟩
  rw[hq,show q+2-1=q+1 by omega,show q+2-2=q by omega]
  grind
 rw[e,Nat.add_mul_mod_self_left]
theorem RF {u v:Nat} (h:Gp u v%P=1\/Gp u v%P=P-1):nk (gN u v) u v\/nk (gN u v*i0) u v:=by
 have h2:=P_2
 rcases h with h|h
 .left
  unfold nk
  rw[Zc,Nat.mul_mod,h,Nat.mul_one,Nat.mod_mod]
 .right
  unfold nk
  have e:gN u v*i0*(gN u v*i0)*v=(gN u v*gN u v*v)*(i0*i0):=by generalize gN u v=g;grind
  have c1:Gp u v%P=(P-1)%P:=by rw[h,Nat.mod_eq_of_lt (by omega)]
  have c2:i0*i0%P=(P-1)%P:=by rw[abR,Nat.mod_eq_of_lt (by omega)]
  rw[e,Zc,wC (wC (rfl:u%P=u%P) c1) c2,Gq]
theorem Ou {u v:Nat} (h:u%P=0):nk (gN u v) u v:=by
 unfold nk
 rw[Zc,Nat.mul_mod,h,Nat.zero_mul,Nat.zero_mod]
theorem Ap {u v t:Nat} (h:t*t*v%P=u%P):nk (gN u v) u v\/nk (gN u v*i0) u v:=by
 by_cases hu:u%P=0
 .exact Or.inl (Ou hu)
 have hv:v%P≠0:=fun e=>hu (by rw[<- h,Nat.mul_mod,e,Nat.mul_zero,Nat.zero_mod])
 have ht:t%P≠0:=fun e=>hu (by rw[<- h,Nat.mul_assoc,Nat.mul_mod,e,Nat.zero_mul,Nat.zero_mod])
 have hw:=eX ht (Y9 hv 4)
 apply RF
 have e:Gp u v%P=(t*v^4)^uK%P:=by
  have c:u*v^7%P=(t*v^4)^2%P:=by
   rw[wC h.symm (rfl:v^7%P=v^7%P)]
   congr 1
   grind
  unfold Gp
  rw[Gl _ c,<- Nat.pow_mul,Gj]
 rw[e]
 exact RD hw
end Fe
section
open Go.Shelf
def Gt:Go.Shelf.Ren:=⟨fun|264=>119|n=>n,fun|53=>52|46=>116|n=>n,fun|n=>n⟩
theorem Vq:Go.Proofs.Lays.n264 Tryz.prog Gt:={
 mixed:=by kernel_rfl
 f264:=Tryz.func119.trans (congrArg some (by kernel_rfl))
 t46:=Tryz.underlying116
 a46:=Tryz.isAgg116
 z46:=Tryz.sizeOf116
 v46:=Tryz.zeroValue116
 t53:=Tryz.underlying52
 a53:=Tryz.isAgg52
 z53:=Tryz.sizeOf52
 v53:=Tryz.zeroValue52}
theorem Yf (x y:Int) (hx0:0<=x) (hy0:0<=y) (hx:x<18446744073709551616) (hy:y<18446744073709551616) (w:World):
  Calls Tryz.prog 119 #[.int .u64 x,.int .u64 y] w fun e w'=>e=.returned (.tuple #[.int .u64 (x*y/18446744073709551616),.int .u64 (x*y%18446744073709551616)])/\w=w':=by
 obtain⟨x,rfl⟩:=Int.eq_ofNat_of_zero_le hx0
 obtain⟨y,rfl⟩:=Int.eq_ofNat_of_zero_le hy0
 refine (Any.bits_Mul64 Vq x y (by omega) (by omega) w).mono ?_
 rintro e w' ⟨rfl,rfl⟩
 refine⟨?_,rfl⟩
 rw[Int.natCast_ediv,Int.natCast_emod,Int.natCast_mul]
 rfl
theorem RG (x y:Int) (hx0:0<=x) (hy0:0<=y) (w:World):(callFunc 120 #[.int .u64 x,.int .u64 y,.int .u64 0]).run Tryz.prog w=
  .ok (.value (.tuple #[.int .u64 ((x+y)%18446744073709551616),.int .u64 ((x+y)/18446744073709551616)])) w:=by
 have h:=run_add64 (P:=Tryz.prog) x y 0 (by omega) (by omega) (by omega) (by omega) (w:=w)
 rw[run_callFunc_extern Tryz.func120 (by kernel_rfl) (by kernel_rfl) (by kernel_rfl) (e:=add64Entry) (by kernel_rfl),h]
 simp only[Result.andThen,Int.add_zero]
end
section
open Go.RowKit
def Fe.v (a:Fe):Value:=.agg #[.int .u64 a.x0,.int .u64 a.x1,.int .u64 a.x2,.int .u64 a.x3,.int .u64 a.x4]
theorem mX (x:Int) (h0:0<=x) (h1:x<18446744073709551616):bits .and .u64 x 2251799813685247=x%2251799813685248:=by
 obtain⟨x,rfl⟩:=Int.eq_ofNat_of_zero_le h0
 have e:(2251799813685247:Int)=((2251799813685247:Nat):Int):=rfl
 rw[e,u64_and_nat _ _ (by omega) (by decide),show (2251799813685247:Nat)=2^51-1 from rfl,Nat.and_two_pow_sub_one_eq_mod]
 omega
theorem iB (x:Int):IntKind.u64.wrap x=Fe.dH x:=IntKind.wrap_u64 x
theorem qR (x y:Int) (h0:0<=x) (h1:x<18446744073709551616) (k0:0<=y) (k1:y<18446744073709551616):
  IntKind.u64.wrap (bits .and .u64 x 2251799813685247+y/2251799813685248)=x%2251799813685248+y/2251799813685248:=by
 rw[mX x h0 h1,iB,Fe.kJ]<;>omega
theorem Gu (x y:Int) (h0:0<=x) (h1:x<18446744073709551616) (k0:0<=y) (k1:y<18446744073709551616):
  IntKind.u64.wrap (bits .and .u64 x 2251799813685247+19*(y/2251799813685248))=x%2251799813685248+19*(y/2251799813685248):=by
 rw[mX x h0 h1,iB,Fe.kJ]<;>omega
set_option maxHeartbeats 400000 in
theorem Ov (x0 x1 x2 x3 x4:Int) (w:World) (n0:0<=x0) (n1:0<=x1) (n2:0<=x2) (n3:0<=x3) (n4:0<=x4)
  (l0:x0<18446744073709551616) (l1:x1<18446744073709551616) (l2:x2<18446744073709551616) (l3:x3<18446744073709551616) (l4:x4<18446744073709551616):
  Calls Tryz.prog 131 #[.agg #[.int .u64 x0,.int .u64 x1,.int .u64 x2,.int .u64 x3,.int .u64 x4]] w fun e w'=>e=.returned (Fe.kI ⟨x0,x1,x2,x3,x4⟩).v/\w.grownBy w' none:=by
 have H0:=Lib.hid (Gu x0 x4 n0 l0 n4 l4)
 have H1:=Lib.hid (qR x1 x0 n1 l1 n0 l0)
 have H2:=Lib.hid (qR x2 x1 n2 l2 n1 l1)
 have H3:=Lib.hid (qR x3 x2 n3 l3 n2 l2)
 have H4:=Lib.hid (qR x4 x3 n4 l4 n3 l3)
 go_enter Tryz.func131,Tryz.ntmps131
 go_wp2
 refine bodyPost_ret (v:=(Fe.kI ⟨x0,x1,x2,x3,x4⟩).v) ?_ rfl ⟨rfl,av (av (ah _ _) _) _⟩
 simp[results,Tryz.results131,go_sem]
 rw[H0.out,H1.out,H2.out,H3.out,H4.out]
 rfl
theorem Gv (a:Fe) (w:World) (h:a.Ok):Calls Tryz.prog 131 #[a.v] w fun e w'=>e=.returned (Fe.kI a).v/\w.grownBy w' none:=
 Ov a.x0 a.x1 a.x2 a.x3 a.x4 w h.n0 h.n1 h.n2 h.n3 h.n4 h.l0 h.l1 h.l2 h.l3 h.l4
def Aq (S:Int):Value:=.agg #[.int .u64 (S/18446744073709551616),.int .u64 (S%18446744073709551616)]
structure oh (S:Int):Prop where
 n:0<=S
 l:S<340282366920938463463374607431768211456
theorem Ox (h l:Int) (h0:0<=h) (h1:h<18446744073709551616) (l0:0<=l) (l1:l<18446744073709551616):
  bits .or .u64 (IntKind.u64.wrap (h*8192)) (l/2251799813685248)=Fe.ni (h*18446744073709551616+l):=by
 obtain⟨h,rfl⟩:=Int.eq_ofNat_of_zero_le h0
 obtain⟨l,rfl⟩:=Int.eq_ofNat_of_zero_le l0
 have e1:IntKind.u64.wrap ((h:Int)*8192)=((2^13*(h%2251799813685248):Nat):Int):=by rw[iB];unfold Fe.dH;omega
 have e2:(l:Int)/2251799813685248=((l/2251799813685248:Nat):Int):=by omega
 rw[e1,e2,u64_or_nat _ _ (by omega) (by omega),<- Nat.two_pow_add_eq_or_of_lt (by omega)]
 unfold Fe.ni Fe.dH
 omega
theorem Oy (h l:Int) (l0:0<=l) (l1:l<18446744073709551616):bits .and .u64 l 2251799813685247=Fe.ng (h*18446744073709551616+l):=by
 rw[mX l l0 l1];unfold Fe.ng;omega
set_option maxHeartbeats 400000 in
theorem RH (h l:Int) (w:World) (l0:0<=l) (l1:l<18446744073709551616):
  Calls Tryz.prog 132 #[.agg #[.int .u64 h,.int .u64 l]] w fun e w'=>e=.returned (.int .u64 (Fe.ng (h*18446744073709551616+l)))/\w'=w.alloc (.cells #[.int .u64 h,.int .u64 l] 147):=by
 have H0:=Lib.hid (Oy h l l0 l1)
 go_enter Tryz.func132,Tryz.ntmps132
 go_wp2
 go_ret
 exact⟨by rw[H0.out];rfl,rfl⟩
set_option maxHeartbeats 400000 in
theorem RI (h l:Int) (w:World) (h0:0<=h) (h1:h<18446744073709551616) (l0:0<=l) (l1:l<18446744073709551616):
  Calls Tryz.prog 133 #[.agg #[.int .u64 h,.int .u64 l]] w fun e w'=>e=.returned (.int .u64 (Fe.ni (h*18446744073709551616+l)))/\w'=w.alloc (.cells #[.int .u64 h,.int .u64 l] 147):=by
 have H0:=Lib.hid (Ox h l h0 h1 l0 l1)
 go_enter Tryz.func133,Tryz.ntmps133
 go_wp2
 go_ret
 exact⟨by rw[H0.out];rfl,rfl⟩
theorem RJ (h l a b:Int):
  (l+a*b)%18446744073709551616=Fe.qy (h*18446744073709551616+l) a b%18446744073709551616/\
  IntKind.u64.wrap (h+IntKind.u64.wrap (a*b/18446744073709551616+(l+a*b%18446744073709551616)/18446744073709551616))=Fe.qy (h*18446744073709551616+l) a b/18446744073709551616:=by
 rw[iB,iB]
 unfold Fe.qy Fe.dH
 generalize a*b=p at *
 omega
set_option maxHeartbeats 400000 in
theorem RL (B:Nat) (h l a b:Int) (w:World) (T:TypeId) (l0:0<=l)
  (a0:0<=a) (a1:a<18446744073709551616) (b0:0<=b) (b1:b<18446744073709551616) (hb:aH w B T [.int .u64 h,.int .u64 l]):
  Calls Tryz.prog 134 #[.pointer (some ⟨B,0,none⟩),.int .u64 a,.int .u64 b] w fun e w'=>e=.returned (.tuple #[])/\w.grownBy w' (some B)/\
   aH w' B T [.int .u64 (Fe.qy (h*18446744073709551616+l) a b/18446744073709551616),.int .u64 (Fe.qy (h*18446744073709551616+l) a b%18446744073709551616)]:=by
 have H:=Lib.hid (RJ h l a b)
 have q0:0<=a*b%18446744073709551616:=by omega
 have c0:=hb.cell (i:=0) rfl
 have c1:=hb.cell (i:=1) rfl
 have f0:=hb.free 0
 have f1:=hb.free 1
 go_enter Tryz.func134,Tryz.ntmps134
 go_wp2_with (first|(go_at_call 119;refine (Yf _ _ a0 b0 a1 b1 _).mono ?_;rintro e w' ⟨rfl,rfl⟩)|simp only[RG _ _ l0 q0])
 go_end0
 refine⟨rfl,aJ (aJ (ah _ _) _ _) _ _,?_⟩
 rw[H.out.1,H.out.2]
 exact (hb.set 1 _).set 0 _
def flat:List (Int×Int)->List Value
 | []=>[]
 | p:: r=>.int .u64 p.1:: .int .u64 p.2:: flat r
theorem flat_get (ps:List (Int×Int)) (k:Nat) (h:k<ps.length):(flat ps)[k*2]?=some (.int .u64 (ps.getD k (0,0)).1)/\(flat ps)[k*2+1]?=some (.int .u64 (ps.getD k (0,0)).2):=by
 induction ps generalizing k with
 | nil=>simp at h
 | cons p r ih=>
  cases k with
  | zero=>exact⟨rfl,rfl⟩
  | succ k=>
   have:=ih k (by simpa using h)
   rw[show (k+1)*2=k*2+1+1 by omega]
   simpa[flat] using this
def oo (ps:List (Int×Int)):Int:=ps.foldl (fun S p=>Fe.qy S p.1 p.2) 0
theorem Oz (ps:List (Int×Int)) (k:Nat) (h:k<ps.length):oo (ps.take (k+1))=Fe.qy (oo (ps.take k)) (ps.getD k (0,0)).1 (ps.getD k (0,0)).2:=by
 have e:ps.getD k (0,0)=ps[k]:=by rw[List.getD_eq_getElem?_getD,List.getElem?_eq_getElem h];rfl
 unfold oo
 rw[List.take_succ_eq_append_getElem h,List.foldl_append,e]
 rfl
theorem Vr (S a b:Int):0<=Fe.qy S a b/\Fe.qy S a b<340282366920938463463374607431768211456:=by unfold Fe.qy;omega
theorem gI (ps:List (Int×Int)):0<=oo ps/\oo ps<340282366920938463463374607431768211456:=by
 rcases List.eq_nil_or_concat ps with rfl |⟨l,x,rfl⟩
 .unfold oo;simp
 .unfold oo;rw[List.concat_eq_append,List.foldl_append];exact Vr ..
theorem bH {a b:Nat} (h:a≠b):some a≠some b:=fun e=>h (Option.some.inj e)
theorem halves (S:Int):S/18446744073709551616*18446744073709551616+S%18446744073709551616=S:=by omega
set_option maxHeartbeats 800000 in
theorem jC (PB n:Nat) (ps:List (Int×Int)) (w:World) (T:TypeId) (hn:ps.length=n) (hn2:n<=1000) (hb:aH w PB T (flat ps))
  (hp:∀p∈ps,0<=p.1/\p.1<18446744073709551616/\0<=p.2/\p.2<18446744073709551616):
  Calls Tryz.prog 105 #[.slice (some ⟨PB,0,none⟩) n n] w fun e w'=>e=.returned (Aq (oo ps))/\w.grownBy w' none:=by
 have hlt:=hb.lt
 have Hn:=Lib.hid hn;clear hn
 go_enter Tryz.func105,Tryz.ntmps105
 go_wp2
 go_loopw [8] (fun i wr=>∃k:Nat,k<=n/\i=.int .i64 k/\w.grownBy wr none/\aH wr PB T (flat ps)/\w.heap.size+1<wr.heap.size/\
   aH wr w.heap.size 147 [.int .u64 0,.int .u64 0]/\
   aH wr (w.heap.size+1) 147 [.int .u64 (oo (ps.take k)/18446744073709551616),.int .u64 (oo (ps.take k)%18446744073709551616)]) (fun i _=>n-(intOf i).toNat)
 case atStart=>
  refine⟨0,by omega,rfl,av (av (ah _ _) _) _,(hb.alloc _).alloc _,by simp,?_,?_⟩
  .exact (aH.new w [.int .u64 0,.int .u64 0] 147).alloc _
  .have:=aH.new (w.alloc (.cells #[.int .u64 0,.int .u64 0] 147)) [.int .u64 0,.int .u64 0] 147
   simpa[oo] using this
 case round=>
  obtain⟨k,hk,rfl,hg,hB,hsz,hR,hS⟩:=hrel
  by_cases hkn:k<n
  .have hkl:k<ps.length:=by rw[Hn.out];exact hkn
   have hsb:=gI (ps.take k)
   have Hs:=Lib.hid (Oz ps k hkl)
   have hget:=flat_get ps k hkl
   have hmem:ps.getD k (0,0)∈ps:=by rw[List.getD_eq_getElem?_getD,List.getElem?_eq_getElem hkl];exact List.getElem_mem hkl
   obtain⟨p0,p1,p2,p3⟩:=hp _ hmem
   obtain⟨S,hS0⟩:∃S,S=oo (ps.take k):=⟨_,rfl⟩
   rw[<- hS0]at hsb hS
   have vN:=Lib.hid hS0;clear hS0
   obtain⟨a,ha⟩:∃a,a=(ps.getD k (0,0)).1:=⟨_,rfl⟩
   obtain⟨b,hbb⟩:∃b,b=(ps.getD k (0,0)).2:=⟨_,rfl⟩
   rw[<- ha,<- hbb]at hget
   rw[<- ha]at p0 p1
   rw[<- hbb]at p2 p3
   have Ha:=Lib.hid ha;clear ha
   have Hb:=Lib.hid hbb;clear hbb
   have c0:=hB.cell hget.1
   have c1:=hB.cell hget.2
   clear hget hmem hkl
   have s0:0<=S/18446744073709551616:=by omega
   have s1:S/18446744073709551616<18446744073709551616:=by omega
   have s2:0<=S%18446744073709551616:=by omega
   go_wp2_with (go_at_call 134;refine (RL (w.heap.size+1) _ _ a b _ 147 s2 p0 p1 p2 p3 (hS.alloc _)).mono ?_;rintro e w1 ⟨rfl,hg1,hS1⟩)
   have hsz1:w.heap.size+1<w1.heap.size:=by have:=hg1.size;simp at this;omega
   go_roundw
   case rel=>
    refine⟨k+1,by omega,by go_num,aW (av hg _) hg1 (by omega),(hB.alloc _).grown hg1 (bH (by omega)),hsz1,(hR.alloc _).grown hg1 (bH (by omega)),?_⟩
    rw[Hs.out,<- vN.out,<- Ha.out,<- Hb.out]
    rw[halves]at hS1
    exact hS1
   case measure=>simp[intOf];omega
  .obtain rfl:k=n:=by omega
   have e:ps.take k=ps:=by rw[List.take_of_length_le];rw[Hn.out];omega
   rw[e]at hS
   clear e
   obtain⟨S,hS0⟩:∃S,S=oo ps:=⟨_,rfl⟩
   rw[<- hS0]at hS
   have vN:=Lib.hid hS0;clear hS0
   have c0:=hS.cell (i:=0) rfl
   have c1:=hS.cell (i:=1) rfl
   have r0:=hR.cell (i:=0) rfl
   have r1:=hR.cell (i:=1) rfl
   have z0:=hR.free 0
   have z1:=hR.free 1
   go_wp2
   refine bodyPost_ret (v:=.agg #[.int .u64 (S/18446744073709551616),.int .u64 (S%18446744073709551616)]) ?_ rfl ⟨by rw[<- vN.out];rfl,?_⟩
   .simp[results,Tryz.results105,go_sem,r0,r1]
   .exact aO (aO hg (Nat.le_refl _) _) (Nat.le_refl _) _
end
section
open Go.RowKit
theorem Vs (h l:Int) (w:World) (l0:0<=l) (l1:l<18446744073709551616):
  Calls Tryz.prog 132 #[.agg #[.int .u64 h,.int .u64 l]] w fun e w'=>e=.returned (.int .u64 (Fe.ng (h*18446744073709551616+l)))/\w.grownBy w' none:=
 (RH h l w l0 l1).mono fun _ _ ⟨he,hw⟩=>⟨he,hw▸av (ah _ _) _⟩
theorem Vt (h l:Int) (w:World) (h0:0<=h) (h1:h<18446744073709551616) (l0:0<=l) (l1:l<18446744073709551616):
  Calls Tryz.prog 133 #[.agg #[.int .u64 h,.int .u64 l]] w fun e w'=>e=.returned (.int .u64 (Fe.ni (h*18446744073709551616+l)))/\w.grownBy w' none:=
 (RI h l w h0 h1 l0 l1).mono fun _ _ ⟨he,hw⟩=>⟨he,hw▸av (ah _ _) _⟩
theorem aH.newAt (w:World) {B:Nat} (L:List Value) (T:TypeId) (h:w.heap.size=B):aH (w.alloc (.cells L.toArray T)) B T L:=h▸aH.new w L T
def fU (w:World) (B:Nat) (T:TypeId):Prop:=∃u0 u1 u2 u3 u4:Value,aH w B T [u0,u1,u2,u3,u4]
theorem fU.grown {w w':World} {B:Nat} {T:TypeId} {row:Option Nat} (h:fU w B T) (hg:w.grownBy w' row) (hr:some B≠row):fU w' B T:=
 let ⟨_,_,_,_,_,hb⟩:=h;⟨_,_,_,_,_,hb.grown hg hr⟩
theorem fU.sK {w:World} {B:Nat} {T:TypeId} (h:fU w B T) (v0 v1 v2 v3 v4:Value):
  aH (((((w.setCell ⟨B,0,none⟩ v0).setCell ⟨B,1,none⟩ v1).setCell ⟨B,2,none⟩ v2).setCell ⟨B,3,none⟩ v3).setCell ⟨B,4,none⟩ v4) B T [v0,v1,v2,v3,v4]:=
 let ⟨_,_,_,_,_,hb⟩:=h;((((hb.set 0 v0).set 1 v1).set 2 v2).set 3 v3).set 4 v4
def oq (F:Fe) (w:World) (e:Ending) (w':World):Prop:=
 ∃r:Fe,Hid (r=F)/\e=.returned (.agg #[.int .u64 r.x0,.int .u64 r.x1,.int .u64 r.x2,.int .u64 r.x3,.int .u64 r.x4])/\w.grownBy w' none
theorem Ar {F:Fe} {w:World} {e:Ending} {w':World} (h:e=.returned F.v/\w.grownBy w' none):oq F w e w':=⟨F,Lib.hid rfl,h.1,h.2⟩
theorem fq {F:Fe} {w:World} {e:Ending} {w':World} (h:oq F w e w'):e=.returned F.v/\w.grownBy w' none:=by
 obtain⟨r,hr,he,hg⟩:=h
 have:=hr.out
 subst this
 exact⟨he,hg⟩
theorem Ey (y0 y1 y2 y3 y4:Int) (w:World):
  Calls Tryz.prog 131 #[.agg #[.int .u64 (IntKind.u64.wrap y0),.int .u64 (IntKind.u64.wrap y1),.int .u64 (IntKind.u64.wrap y2),.int .u64 (IntKind.u64.wrap y3),.int .u64 (IntKind.u64.wrap y4)]] w (oq (Fe.kI ⟨Fe.dH y0,Fe.dH y1,Fe.dH y2,Fe.dH y3,Fe.dH y4⟩) w):=by
 simp only[iB]
 exact (Gv ⟨Fe.dH y0,Fe.dH y1,Fe.dH y2,Fe.dH y3,Fe.dH y4⟩ w (Fe.Eu ..)).mono fun _ _=>Ar
abbrev yH (h0 l0 h1 l1 h2 l2 h3 l3 h4 l4:Int) (w w':World):Prop:=aH w' w.heap.size 151 [.int .u64 h0,.int .u64 l0,.int .u64 h1,.int .u64 l1,.int .u64 h2,.int .u64 l2,.int .u64 h3,.int .u64 l3,.int .u64 h4,.int .u64 l4]/\fU w' (w.heap.size+1) 54/\w.grownBy w' none/\w'.cell? ⟨w.heap.size,0,none⟩=some (.int .u64 h0)/\w'.cell? ⟨w.heap.size,1,none⟩=some (.int .u64 l0)/\w'.cell? ⟨w.heap.size,2,none⟩=some (.int .u64 h1)/\w'.cell? ⟨w.heap.size,3,none⟩=some (.int .u64 l1)/\w'.cell? ⟨w.heap.size,4,none⟩=some (.int .u64 h2)/\w'.cell? ⟨w.heap.size,5,none⟩=some (.int .u64 l2)/\w'.cell? ⟨w.heap.size,6,none⟩=some (.int .u64 h3)/\w'.cell? ⟨w.heap.size,7,none⟩=some (.int .u64 l3)/\w'.cell? ⟨w.heap.size,8,none⟩=some (.int .u64 h4)/\w'.cell? ⟨w.heap.size,9,none⟩=some (.int .u64 l4)
theorem Au {h0 l0 h1 l1 h2 l2 h3 l3 h4 l4:Int} {w w':World} (hA:aH w' w.heap.size 151 [.int .u64 h0,.int .u64 l0,.int .u64 h1,.int .u64 l1,.int .u64 h2,.int .u64 l2,.int .u64 h3,.int .u64 l3,.int .u64 h4,.int .u64 l4]) (hB:fU w' (w.heap.size+1) 54) (hG:w.grownBy w' none):yH h0 l0 h1 l1 h2 l2 h3 l3 h4 l4 w w':=
 ⟨hA,hB,hG,hA.cell (i:=0) rfl,hA.cell (i:=1) rfl,hA.cell (i:=2) rfl,hA.cell (i:=3) rfl,hA.cell (i:=4) rfl,hA.cell (i:=5) rfl,hA.cell (i:=6) rfl,hA.cell (i:=7) rfl,hA.cell (i:=8) rfl,hA.cell (i:=9) rfl⟩
theorem Ko {h0 l0 h1 l1 h2 l2 h3 l3 h4 l4:Int} {w w1 w2:World} (hg:w1.grownBy w2 none) (hS:yH h0 l0 h1 l1 h2 l2 h3 l3 h4 l4 w w1):yH h0 l0 h1 l1 h2 l2 h3 l3 h4 l4 w w2:=
 Au (hS.1.grown hg (by simp)) (hS.2.1.grown hg (by simp)) (aj hS.2.2.1 hg)
theorem OA {h0 l0 h1 l1 h2 l2 h3 l3 h4 l4:Int} {w w1:World} (hS:yH h0 l0 h1 l1 h2 l2 h3 l3 h4 l4 w w1) (v0 v1 v2 v3 v4:Value):
  yH h0 l0 h1 l1 h2 l2 h3 l3 h4 l4 w (((((w1.setCell ⟨w.heap.size+1,0,none⟩ v0).setCell ⟨w.heap.size+1,1,none⟩ v1).setCell ⟨w.heap.size+1,2,none⟩ v2).setCell ⟨w.heap.size+1,3,none⟩ v3).setCell ⟨w.heap.size+1,4,none⟩ v4):=
 Au (((((hS.1.other (by simp) v0).other (by simp) v1).other (by simp) v2).other (by simp) v3).other (by simp) v4) ⟨_,_,_,_,_,hS.2.1.sK v0 v1 v2 v3 v4⟩
  (aO (aO (aO (aO (aO hS.2.2.1 (by simp) _) (by simp) _) (by simp) _) (by simp) _) (by simp) _)
set_option maxRecDepth 100000 in
set_option maxHeartbeats 1600000 in
theorem OB (h0 l0 h1 l1 h2 l2 h3 l3 h4 l4:Int) (w:World)
  (a0:0<=h0) (a1:0<=h1) (a2:0<=h2) (a3:0<=h3) (a4:0<=h4) (b0:0<=l0) (b1:0<=l1) (b2:0<=l2) (b3:0<=l3) (b4:0<=l4)
  (c0:h0<18446744073709551616) (c1:h1<18446744073709551616) (c2:h2<18446744073709551616) (c3:h3<18446744073709551616) (c4:h4<18446744073709551616)
  (d0:l0<18446744073709551616) (d1:l1<18446744073709551616) (d2:l2<18446744073709551616) (d3:l3<18446744073709551616) (d4:l4<18446744073709551616):
  Calls Tryz.prog 104 #[.agg #[.int .u64 h0,.int .u64 l0,.int .u64 h1,.int .u64 l1,.int .u64 h2,.int .u64 l2,.int .u64 h3,.int .u64 l3,.int .u64 h4,.int .u64 l4]] w fun e w'=>
   e=.returned (Fe.uH (h0*18446744073709551616+l0) (h1*18446744073709551616+l1) (h2*18446744073709551616+l2) (h3*18446744073709551616+l3) (h4*18446744073709551616+l4)).v/\w.grownBy w' none:=by
 go_enter Tryz.func104,Tryz.ntmps104
 go_wp2
 have hS0:yH h0 l0 h1 l1 h2 l2 h3 l3 h4 l4 w ((w.alloc (.cells #[.int .u64 h0,.int .u64 l0,.int .u64 h1,.int .u64 l1,.int .u64 h2,.int .u64 l2,.int .u64 h3,.int .u64 l3,.int .u64 h4,.int .u64 l4] 151)).alloc (.cells #[.int .u64 0,.int .u64 0,.int .u64 0,.int .u64 0,.int .u64 0] 54)).drew:=
  Au ((aH.new w _ _).alloc _).drew ⟨_,_,_,_,_,(aH.newAt (w.alloc _) [.int .u64 0,.int .u64 0,.int .u64 0,.int .u64 0,.int .u64 0] _ (by simp)).drew⟩ (aX (av (av (ah _ _) _) _))
 revert hS0
 generalize (w.alloc (.cells #[.int .u64 h0,.int .u64 l0,.int .u64 h1,.int .u64 l1,.int .u64 h2,.int .u64 l2,.int .u64 h3,.int .u64 l3,.int .u64 h4,.int .u64 l4] 151)).alloc (.cells #[.int .u64 0,.int .u64 0,.int .u64 0,.int .u64 0,.int .u64 0] 54)=W0
 intro hS0
 go_region_held3 (fun w'=>aH w' w.heap.size 151 [.int .u64 h0,.int .u64 l0,.int .u64 h1,.int .u64 l1,.int .u64 h2,.int .u64 l2,.int .u64 h3,.int .u64 l3,.int .u64 h4,.int .u64 l4]/\fU w' (w.heap.size+1) 54/\w.grownBy w' none/\w'.cell? ⟨w.heap.size,0,none⟩=some (.int .u64 h0)/\w'.cell? ⟨w.heap.size,1,none⟩=some (.int .u64 l0)/\w'.cell? ⟨w.heap.size,2,none⟩=some (.int .u64 h1)/\w'.cell? ⟨w.heap.size,3,none⟩=some (.int .u64 l1)/\w'.cell? ⟨w.heap.size,4,none⟩=some (.int .u64 h2)/\w'.cell? ⟨w.heap.size,5,none⟩=some (.int .u64 l2)/\w'.cell? ⟨w.heap.size,6,none⟩=some (.int .u64 h3)/\w'.cell? ⟨w.heap.size,7,none⟩=some (.int .u64 l3)/\w'.cell? ⟨w.heap.size,8,none⟩=some (.int .u64 h4)/\w'.cell? ⟨w.heap.size,9,none⟩=some (.int .u64 l4))
  (first|(with_reducible exact hS0)|(with_reducible exact Ko (by assumption) (by assumption))|(with_reducible exact OA (by assumption) _ _ _ _ _))
  (first|(go_simp;go_at_call 132;refine (Vs _ _ _ ?_ ?_).mono ?_;assumption;assumption;rintro e w1 ⟨rfl,hg1⟩)|(go_simp;go_at_call 133;refine (Vt _ _ _ ?_ ?_ ?_ ?_).mono ?_;assumption;assumption;assumption;assumption;rintro e w1 ⟨rfl,hg1⟩)|(go_simp;go_at_call 131;refine (Ey _ _ _ _ _ _).mono ?_;rintro e w1 ⟨r,hr,rfl,hg1⟩;obtain⟨u0,u1,u2,u3,u4,hR⟩:fU w1 (w.heap.size+1) 54:=fU.grown (And.left (And.right (by assumption:yH h0 l0 h1 l1 h2 l2 h3 l3 h4 l4 w _))) hg1 (by simp);have z0:=hR.cell (i:=0) rfl;have z1:=hR.cell (i:=1) rfl;have z2:=hR.cell (i:=2) rfl;have z3:=hR.cell (i:=3) rfl;have z4:=hR.cell (i:=4) rfl;have y0:=hR.free 0;have y1:=hR.free 1;have y2:=hR.free 2;have y3:=hR.free 3;have y4:=hR.free 4))
 go_wp2
 refine bodyPost_ret (v:=.agg #[.int .u64 r.x0,.int .u64 r.x1,.int .u64 r.x2,.int .u64 r.x3,.int .u64 r.x4]) ?_ rfl ⟨?_,?_⟩
 .simp[results,Tryz.results104,go_sem,z0,z1,z2,z3,z4]
 .unfold Fe.uH
  have e:=hr.out
  rw[iB]at e
  rw[<- e];rfl
 .with_reducible exact (show yH h0 l0 h1 l1 h2 l2 h3 l3 h4 l4 w _ from (by assumption)).2.2.1
end
section
open Go.RowKit
def abS (A B R:Nat) (x0 x1 x2 x3 x4 y0 y1 y2 y3 y4 z0 z1 z2 z3 S0 S1 S2 S3 S4:Int) (r:Fe):List (Value->World->Prop):=[
 fun _ _=>True,
 fun _ _=>True,
 fun _ _=>True,
 fun _ _=>True,
 fun _ _=>True,
 fun _ _=>True,
 fun _ _=>True,
 fun _ _=>True,
 fun _ _=>True,
 fun _ _=>True,
 fun _ _=>True,
 fun _ _=>True,
 fun _ _=>True,
 fun _ _=>True,
 fun _ _=>True,
 fun _ _=>True,
 fun _ _=>True,
 fun _ _=>True,
 fun _ _=>True,
 fun _ _=>True,
 fun _ _=>True,
 fun v _=>v=.pointer (some ⟨A,0,none⟩),
 fun v _=>v=.int .u64 x0,
 fun v _=>v=.pointer (some ⟨B,0,none⟩),
 fun v _=>v=.int .u64 y0,
 fun v _=>v=.agg #[.int .u64 x0,.int .u64 y0],
 fun v _=>v=.pointer (some ⟨A,1,none⟩),
 fun v _=>v=.int .u64 x1,
 fun v _=>v=.int .u64 z3,
 fun v _=>v=.agg #[.int .u64 x1,.int .u64 z3],
 fun v _=>v=.pointer (some ⟨A,2,none⟩),
 fun v _=>v=.int .u64 x2,
 fun v _=>v=.int .u64 z2,
 fun v _=>v=.agg #[.int .u64 x2,.int .u64 z2],
 fun v _=>v=.pointer (some ⟨A,3,none⟩),
 fun v _=>v=.int .u64 x3,
 fun v _=>v=.int .u64 z1,
 fun v _=>v=.agg #[.int .u64 x3,.int .u64 z1],
 fun v _=>v=.pointer (some ⟨A,4,none⟩),
 fun v _=>v=.int .u64 x4,
 fun v _=>v=.int .u64 z0,
 fun v _=>v=.agg #[.int .u64 x4,.int .u64 z0],
 fun v w=>∃PB,PB≠R/\v=.slice (some ⟨PB,0,none⟩) 5 5/\aH w PB 150 (flat [(x0,y0),(x1,z3),(x2,z2),(x3,z1),(x4,z0)]),
 fun v _=>v=.agg #[.int .u64 (S0/18446744073709551616),.int .u64 (S0%18446744073709551616)],
 fun v _=>v=.pointer (some ⟨A,0,none⟩),
 fun v _=>v=.int .u64 x0,
 fun v _=>v=.pointer (some ⟨B,1,none⟩),
 fun v _=>v=.int .u64 y1,
 fun v _=>v=.agg #[.int .u64 x0,.int .u64 y1],
 fun v _=>v=.pointer (some ⟨A,1,none⟩),
 fun v _=>v=.int .u64 x1,
 fun v _=>v=.pointer (some ⟨B,0,none⟩),
 fun v _=>v=.int .u64 y0,
 fun v _=>v=.agg #[.int .u64 x1,.int .u64 y0],
 fun v _=>v=.pointer (some ⟨A,2,none⟩),
 fun v _=>v=.int .u64 x2,
 fun v _=>v=.int .u64 z3,
 fun v _=>v=.agg #[.int .u64 x2,.int .u64 z3],
 fun v _=>v=.pointer (some ⟨A,3,none⟩),
 fun v _=>v=.int .u64 x3,
 fun v _=>v=.int .u64 z2,
 fun v _=>v=.agg #[.int .u64 x3,.int .u64 z2],
 fun v _=>v=.pointer (some ⟨A,4,none⟩),
 fun v _=>v=.int .u64 x4,
 fun v _=>v=.int .u64 z1,
 fun v _=>v=.agg #[.int .u64 x4,.int .u64 z1],
 fun v w=>∃PB,PB≠R/\v=.slice (some ⟨PB,0,none⟩) 5 5/\aH w PB 150 (flat [(x0,y1),(x1,y0),(x2,z3),(x3,z2),(x4,z1)]),
 fun v _=>v=.agg #[.int .u64 (S1/18446744073709551616),.int .u64 (S1%18446744073709551616)],
 fun v _=>v=.pointer (some ⟨A,0,none⟩),
 fun v _=>v=.int .u64 x0,
 fun v _=>v=.pointer (some ⟨B,2,none⟩),
 fun v _=>v=.int .u64 y2,
 fun v _=>v=.agg #[.int .u64 x0,.int .u64 y2],
 fun v _=>v=.pointer (some ⟨A,1,none⟩),
 fun v _=>v=.int .u64 x1,
 fun v _=>v=.pointer (some ⟨B,1,none⟩),
 fun v _=>v=.int .u64 y1,
 fun v _=>v=.agg #[.int .u64 x1,.int .u64 y1],
 fun v _=>v=.pointer (some ⟨A,2,none⟩),
 fun v _=>v=.int .u64 x2,
 fun v _=>v=.pointer (some ⟨B,0,none⟩),
 fun v _=>v=.int .u64 y0,
 fun v _=>v=.agg #[.int .u64 x2,.int .u64 y0],
 fun v _=>v=.pointer (some ⟨A,3,none⟩),
 fun v _=>v=.int .u64 x3,
 fun v _=>v=.int .u64 z3,
 fun v _=>v=.agg #[.int .u64 x3,.int .u64 z3],
 fun v _=>v=.pointer (some ⟨A,4,none⟩),
 fun v _=>v=.int .u64 x4,
 fun v _=>v=.int .u64 z2,
 fun v _=>v=.agg #[.int .u64 x4,.int .u64 z2],
 fun v w=>∃PB,PB≠R/\v=.slice (some ⟨PB,0,none⟩) 5 5/\aH w PB 150 (flat [(x0,y2),(x1,y1),(x2,y0),(x3,z3),(x4,z2)]),
 fun v _=>v=.agg #[.int .u64 (S2/18446744073709551616),.int .u64 (S2%18446744073709551616)],
 fun v _=>v=.pointer (some ⟨A,0,none⟩),
 fun v _=>v=.int .u64 x0,
 fun v _=>v=.pointer (some ⟨B,3,none⟩),
 fun v _=>v=.int .u64 y3,
 fun v _=>v=.agg #[.int .u64 x0,.int .u64 y3],
 fun v _=>v=.pointer (some ⟨A,1,none⟩),
 fun v _=>v=.int .u64 x1,
 fun v _=>v=.pointer (some ⟨B,2,none⟩),
 fun v _=>v=.int .u64 y2,
 fun v _=>v=.agg #[.int .u64 x1,.int .u64 y2],
 fun v _=>v=.pointer (some ⟨A,2,none⟩),
 fun v _=>v=.int .u64 x2,
 fun v _=>v=.pointer (some ⟨B,1,none⟩),
 fun v _=>v=.int .u64 y1,
 fun v _=>v=.agg #[.int .u64 x2,.int .u64 y1],
 fun v _=>v=.pointer (some ⟨A,3,none⟩),
 fun v _=>v=.int .u64 x3,
 fun v _=>v=.pointer (some ⟨B,0,none⟩),
 fun v _=>v=.int .u64 y0,
 fun v _=>v=.agg #[.int .u64 x3,.int .u64 y0],
 fun v _=>v=.pointer (some ⟨A,4,none⟩),
 fun v _=>v=.int .u64 x4,
 fun v _=>v=.int .u64 z3,
 fun v _=>v=.agg #[.int .u64 x4,.int .u64 z3],
 fun v w=>∃PB,PB≠R/\v=.slice (some ⟨PB,0,none⟩) 5 5/\aH w PB 150 (flat [(x0,y3),(x1,y2),(x2,y1),(x3,y0),(x4,z3)]),
 fun v _=>v=.agg #[.int .u64 (S3/18446744073709551616),.int .u64 (S3%18446744073709551616)],
 fun v _=>v=.pointer (some ⟨A,0,none⟩),
 fun v _=>v=.int .u64 x0,
 fun v _=>v=.pointer (some ⟨B,4,none⟩),
 fun v _=>v=.int .u64 y4,
 fun v _=>v=.agg #[.int .u64 x0,.int .u64 y4],
 fun v _=>v=.pointer (some ⟨A,1,none⟩),
 fun v _=>v=.int .u64 x1,
 fun v _=>v=.pointer (some ⟨B,3,none⟩),
 fun v _=>v=.int .u64 y3,
 fun v _=>v=.agg #[.int .u64 x1,.int .u64 y3],
 fun v _=>v=.pointer (some ⟨A,2,none⟩),
 fun v _=>v=.int .u64 x2,
 fun v _=>v=.pointer (some ⟨B,2,none⟩),
 fun v _=>v=.int .u64 y2,
 fun v _=>v=.agg #[.int .u64 x2,.int .u64 y2],
 fun v _=>v=.pointer (some ⟨A,3,none⟩),
 fun v _=>v=.int .u64 x3,
 fun v _=>v=.pointer (some ⟨B,1,none⟩),
 fun v _=>v=.int .u64 y1,
 fun v _=>v=.agg #[.int .u64 x3,.int .u64 y1],
 fun v _=>v=.pointer (some ⟨A,4,none⟩),
 fun v _=>v=.int .u64 x4,
 fun v _=>v=.pointer (some ⟨B,0,none⟩),
 fun v _=>v=.int .u64 y0,
 fun v _=>v=.agg #[.int .u64 x4,.int .u64 y0],
 fun v w=>∃PB,PB≠R/\v=.slice (some ⟨PB,0,none⟩) 5 5/\aH w PB 150 (flat [(x0,y4),(x1,y3),(x2,y2),(x3,y1),(x4,y0)]),
 fun v _=>v=.agg #[.int .u64 (S4/18446744073709551616),.int .u64 (S4%18446744073709551616)],
 fun v _=>v=.agg #[.int .u64 (S0/18446744073709551616),.int .u64 (S0%18446744073709551616),.int .u64 (S1/18446744073709551616),.int .u64 (S1%18446744073709551616),.int .u64 (S2/18446744073709551616),.int .u64 (S2%18446744073709551616),.int .u64 (S3/18446744073709551616),.int .u64 (S3%18446744073709551616),.int .u64 (S4/18446744073709551616),.int .u64 (S4%18446744073709551616)],
 fun v _=>v=r.v]
def RN (A B R:Nat) (x0 x1 x2 x3 x4 y0 y1 y2 y3 y4 z0 z1 z2 z3 S0 S1 S2 S3 S4:Int) (r:Fe) (d:Nat) (v:Value) (w:World):Prop:=((abS A B R x0 x1 x2 x3 x4 y0 y1 y2 y3 y4 z0 z1 z2 z3 S0 S1 S2 S3 S4 r).getD d (fun _ _=>True)) v w
structure Av (w0:World) (A B R:Nat) (x0 x1 x2 x3 x4 y0 y1 y2 y3 y4:Int) (w:World):Prop where
 a:aH w A 54 [.int .u64 x0,.int .u64 x1,.int .u64 x2,.int .u64 x3,.int .u64 x4]
 b:aH w B 54 [.int .u64 y0,.int .u64 y1,.int .u64 y2,.int .u64 y3,.int .u64 y4]
 r:fU w R 54
 g:w0.grownBy w none
 ra:A≠R
 rb:B≠R
 rn:w0.heap.size<=R
theorem Av.grown {w0:World} {A B R:Nat} {x0 x1 x2 x3 x4 y0 y1 y2 y3 y4:Int} {w w':World} (h:Av w0 A B R x0 x1 x2 x3 x4 y0 y1 y2 y3 y4 w) (hg:w.grownBy w' none):Av w0 A B R x0 x1 x2 x3 x4 y0 y1 y2 y3 y4 w':=
 ⟨h.a.grown hg (by simp),h.b.grown hg (by simp),h.r.grown hg (by simp),aj h.g hg,h.ra,h.rb,h.rn⟩
theorem Av.alloc {w0:World} {A B R:Nat} {x0 x1 x2 x3 x4 y0 y1 y2 y3 y4:Int} {w:World} (h:Av w0 A B R x0 x1 x2 x3 x4 y0 y1 y2 y3 y4 w) (o:Obj):Av w0 A B R x0 x1 x2 x3 x4 y0 y1 y2 y3 y4 (w.alloc o):=h.grown (World.grownBy_alloc _ _ _)
theorem Av.sK {w0:World} {A B R:Nat} {x0 x1 x2 x3 x4 y0 y1 y2 y3 y4:Int} {w:World} (h:Av w0 A B R x0 x1 x2 x3 x4 y0 y1 y2 y3 y4 w) (v0 v1 v2 v3 v4:Value):
  Av w0 A B R x0 x1 x2 x3 x4 y0 y1 y2 y3 y4 (((((w.setCell ⟨R,0,none⟩ v0).setCell ⟨R,1,none⟩ v1).setCell ⟨R,2,none⟩ v2).setCell ⟨R,3,none⟩ v3).setCell ⟨R,4,none⟩ v4):=
 ⟨((((h.a.other (Ne.symm h.ra) _).other (Ne.symm h.ra) _).other (Ne.symm h.ra) _).other (Ne.symm h.ra) _).other (Ne.symm h.ra) _,
  ((((h.b.other (Ne.symm h.rb) _).other (Ne.symm h.rb) _).other (Ne.symm h.rb) _).other (Ne.symm h.rb) _).other (Ne.symm h.rb) _,
  ⟨_,_,_,_,_,h.r.sK v0 v1 v2 v3 v4⟩,aO (aO (aO (aO (aO h.g h.rn _) h.rn _) h.rn _) h.rn _) h.rn _,h.ra,h.rb,h.rn⟩
def Stable (R:Nat):List (Value->World->Prop)->Prop
 | []=>True
 | p:: r=>(∀v w w',World.grownBy w w' (some R)->p v w->p v w')/\Stable R r
theorem Aw {R:Nat} (L:List (Value->World->Prop)) (h:Stable R L) (d:Nat) (u:Value) (w w':World) (hR:w.grownBy w' (some R)) (hu:(L.getD d (fun _ _=>True)) u w):(L.getD d (fun _ _=>True)) u w':=by
 induction L generalizing d with
 | nil=>simp at hu ⊢
 | cons p r ih=>
  cases d with
  | zero=>exact h.1 u w w' hR hu
  | succ d=>exact ih h.2 d hu
theorem Kq (A B R:Nat) (x0 x1 x2 x3 x4 y0 y1 y2 y3 y4 z0 z1 z2 z3 S0 S1 S2 S3 S4:Int) (r:Fe) (d:Nat) (u:Value) (w w':World) (hR:w.grownBy w' (some R)) (h:RN A B R x0 x1 x2 x3 x4 y0 y1 y2 y3 y4 z0 z1 z2 z3 S0 S1 S2 S3 S4 r d u w):RN A B R x0 x1 x2 x3 x4 y0 y1 y2 y3 y4 z0 z1 z2 z3 S0 S1 S2 S3 S4 r d u w':=
 Aw (R:=R) _ (show Stable R (abS A B R x0 x1 x2 x3 x4 y0 y1 y2 y3 y4 z0 z1 z2 z3 S0 S1 S2 S3 S4 r) from⟨fun _ _ _ _ h=>h,fun _ _ _ _ h=>h,fun _ _ _ _ h=>h,fun _ _ _ _ h=>h,fun _ _ _ _ h=>h,fun _ _ _ _ h=>h,fun _ _ _ _ h=>h,fun _ _ _ _ h=>h,fun _ _ _ _ h=>h,fun _ _ _ _ h=>h,fun _ _ _ _ h=>h,fun _ _ _ _ h=>h,fun _ _ _ _ h=>h,fun _ _ _ _ h=>h,fun _ _ _ _ h=>h,fun _ _ _ _ h=>h,fun _ _ _ _ h=>h,fun _ _ _ _ h=>h,fun _ _ _ _ h=>h,fun _ _ _ _ h=>h,fun _ _ _ _ h=>h,fun _ _ _ _ h=>h,fun _ _ _ _ h=>h,fun _ _ _ _ h=>h,fun _ _ _ _ h=>h,fun _ _ _ _ h=>h,fun _ _ _ _ h=>h,fun _ _ _ _ h=>h,fun _ _ _ _ h=>h,fun _ _ _ _ h=>h,fun _ _ _ _ h=>h,fun _ _ _ _ h=>h,fun _ _ _ _ h=>h,fun _ _ _ _ h=>h,fun _ _ _ _ h=>h,fun _ _ _ _ h=>h,fun _ _ _ _ h=>h,fun _ _ _ _ h=>h,fun _ _ _ _ h=>h,fun _ _ _ _ h=>h,fun _ _ _ _ h=>h,fun _ _ _ _ h=>h,fun _ _ _ hR ⟨PB,hne,hv,hb⟩=>⟨PB,hne,hv,hb.grown hR (bH hne)⟩,fun _ _ _ _ h=>h,fun _ _ _ _ h=>h,fun _ _ _ _ h=>h,fun _ _ _ _ h=>h,fun _ _ _ _ h=>h,fun _ _ _ _ h=>h,fun _ _ _ _ h=>h,fun _ _ _ _ h=>h,fun _ _ _ _ h=>h,fun _ _ _ _ h=>h,fun _ _ _ _ h=>h,fun _ _ _ _ h=>h,fun _ _ _ _ h=>h,fun _ _ _ _ h=>h,fun _ _ _ _ h=>h,fun _ _ _ _ h=>h,fun _ _ _ _ h=>h,fun _ _ _ _ h=>h,fun _ _ _ _ h=>h,fun _ _ _ _ h=>h,fun _ _ _ _ h=>h,fun _ _ _ _ h=>h,fun _ _ _ _ h=>h,fun _ _ _ hR ⟨PB,hne,hv,hb⟩=>⟨PB,hne,hv,hb.grown hR (bH hne)⟩,fun _ _ _ _ h=>h,fun _ _ _ _ h=>h,fun _ _ _ _ h=>h,fun _ _ _ _ h=>h,fun _ _ _ _ h=>h,fun _ _ _ _ h=>h,fun _ _ _ _ h=>h,fun _ _ _ _ h=>h,fun _ _ _ _ h=>h,fun _ _ _ _ h=>h,fun _ _ _ _ h=>h,fun _ _ _ _ h=>h,fun _ _ _ _ h=>h,fun _ _ _ _ h=>h,fun _ _ _ _ h=>h,fun _ _ _ _ h=>h,fun _ _ _ _ h=>h,fun _ _ _ _ h=>h,fun _ _ _ _ h=>h,fun _ _ _ _ h=>h,fun _ _ _ _ h=>h,fun _ _ _ _ h=>h,fun _ _ _ _ h=>h,fun _ _ _ _ h=>h,fun _ _ _ hR ⟨PB,hne,hv,hb⟩=>⟨PB,hne,hv,hb.grown hR (bH hne)⟩,fun _ _ _ _ h=>h,fun _ _ _ _ h=>h,fun _ _ _ _ h=>h,fun _ _ _ _ h=>h,fun _ _ _ _ h=>h,fun _ _ _ _ h=>h,fun _ _ _ _ h=>h,fun _ _ _ _ h=>h,fun _ _ _ _ h=>h,fun _ _ _ _ h=>h,fun _ _ _ _ h=>h,fun _ _ _ _ h=>h,fun _ _ _ _ h=>h,fun _ _ _ _ h=>h,fun _ _ _ _ h=>h,fun _ _ _ _ h=>h,fun _ _ _ _ h=>h,fun _ _ _ _ h=>h,fun _ _ _ _ h=>h,fun _ _ _ _ h=>h,fun _ _ _ _ h=>h,fun _ _ _ _ h=>h,fun _ _ _ _ h=>h,fun _ _ _ _ h=>h,fun _ _ _ _ h=>h,fun _ _ _ hR ⟨PB,hne,hv,hb⟩=>⟨PB,hne,hv,hb.grown hR (bH hne)⟩,fun _ _ _ _ h=>h,fun _ _ _ _ h=>h,fun _ _ _ _ h=>h,fun _ _ _ _ h=>h,fun _ _ _ _ h=>h,fun _ _ _ _ h=>h,fun _ _ _ _ h=>h,fun _ _ _ _ h=>h,fun _ _ _ _ h=>h,fun _ _ _ _ h=>h,fun _ _ _ _ h=>h,fun _ _ _ _ h=>h,fun _ _ _ _ h=>h,fun _ _ _ _ h=>h,fun _ _ _ _ h=>h,fun _ _ _ _ h=>h,fun _ _ _ _ h=>h,fun _ _ _ _ h=>h,fun _ _ _ _ h=>h,fun _ _ _ _ h=>h,fun _ _ _ _ h=>h,fun _ _ _ _ h=>h,fun _ _ _ _ h=>h,fun _ _ _ _ h=>h,fun _ _ _ _ h=>h,fun _ _ _ _ h=>h,fun _ _ _ hR ⟨PB,hne,hv,hb⟩=>⟨PB,hne,hv,hb.grown hR (bH hne)⟩,fun _ _ _ _ h=>h,fun _ _ _ _ h=>h,fun _ _ _ _ h=>h,trivial⟩) d u w w' hR h
theorem Du (S0 S1 S2 S3 S4:Int) (w:World) (h0:oh S0) (h1:oh S1) (h2:oh S2) (h3:oh S3) (h4:oh S4):
  Calls Tryz.prog 104 #[.agg #[.int .u64 (S0/18446744073709551616),.int .u64 (S0%18446744073709551616),.int .u64 (S1/18446744073709551616),.int .u64 (S1%18446744073709551616),.int .u64 (S2/18446744073709551616),.int .u64 (S2%18446744073709551616),.int .u64 (S3/18446744073709551616),.int .u64 (S3%18446744073709551616),.int .u64 (S4/18446744073709551616),.int .u64 (S4%18446744073709551616)]] w fun e w'=>e=.returned (Fe.uH S0 S1 S2 S3 S4).v/\w.grownBy w' none:=by
 obtain⟨n0,l0⟩:=h0
 obtain⟨n1,l1⟩:=h1
 obtain⟨n2,l2⟩:=h2
 obtain⟨n3,l3⟩:=h3
 obtain⟨n4,l4⟩:=h4
 have:=OB (S0/18446744073709551616) (S0%18446744073709551616) (S1/18446744073709551616) (S1%18446744073709551616) (S2/18446744073709551616) (S2%18446744073709551616) (S3/18446744073709551616) (S3%18446744073709551616) (S4/18446744073709551616) (S4%18446744073709551616) w
  (by omega) (by omega) (by omega) (by omega) (by omega) (by omega) (by omega) (by omega) (by omega) (by omega) (by omega) (by omega) (by omega) (by omega) (by omega) (by omega) (by omega) (by omega) (by omega) (by omega)
 simpa only[halves] using this
set_option maxRecDepth 100000 in
set_option maxHeartbeats 4000000 in
theorem Vu (x0 x1 x2 x3 x4 y0 y1 y2 y3 y4:Int) (w:World) (a0:0<=x0) (c0:x0<18446744073709551616) (a1:0<=x1) (c1:x1<18446744073709551616) (a2:0<=x2) (c2:x2<18446744073709551616) (a3:0<=x3) (c3:x3<18446744073709551616) (a4:0<=x4) (c4:x4<18446744073709551616) (b0:0<=y0) (d0:y0<18446744073709551616) (b1:0<=y1) (d1:y1<18446744073709551616) (b2:0<=y2) (d2:y2<18446744073709551616) (b3:0<=y3) (d3:y3<18446744073709551616) (b4:0<=y4) (d4:y4<18446744073709551616):
  Calls Tryz.prog 74 #[.agg #[.int .u64 x0,.int .u64 x1,.int .u64 x2,.int .u64 x3,.int .u64 x4],.agg #[.int .u64 y0,.int .u64 y1,.int .u64 y2,.int .u64 y3,.int .u64 y4]] w (oq (Fe.aM ⟨x0,x1,x2,x3,x4⟩ ⟨y0,y1,y2,y3,y4⟩) w):=by
 obtain⟨z0,hz0⟩:∃z,IntKind.u64.wrap (19*y1)=z:=⟨_,rfl⟩
 have pz0:0<=z0:=by rw[<- hz0,iB];unfold Fe.dH;omega
 have qz0:z0<18446744073709551616:=by rw[<- hz0,iB];unfold Fe.dH;omega
 obtain⟨z1,hz1⟩:∃z,IntKind.u64.wrap (19*y2)=z:=⟨_,rfl⟩
 have pz1:0<=z1:=by rw[<- hz1,iB];unfold Fe.dH;omega
 have qz1:z1<18446744073709551616:=by rw[<- hz1,iB];unfold Fe.dH;omega
 obtain⟨z2,hz2⟩:∃z,IntKind.u64.wrap (19*y3)=z:=⟨_,rfl⟩
 have pz2:0<=z2:=by rw[<- hz2,iB];unfold Fe.dH;omega
 have qz2:z2<18446744073709551616:=by rw[<- hz2,iB];unfold Fe.dH;omega
 obtain⟨z3,hz3⟩:∃z,IntKind.u64.wrap (19*y4)=z:=⟨_,rfl⟩
 have pz3:0<=z3:=by rw[<- hz3,iB];unfold Fe.dH;omega
 have qz3:z3<18446744073709551616:=by rw[<- hz3,iB];unfold Fe.dH;omega
 obtain⟨S0,hS0⟩:∃S,oo [(x0,y0),(x1,z3),(x2,z2),(x3,z1),(x4,z0)]=S:=⟨_,rfl⟩
 obtain⟨S1,hS1⟩:∃S,oo [(x0,y1),(x1,y0),(x2,z3),(x3,z2),(x4,z1)]=S:=⟨_,rfl⟩
 obtain⟨S2,hS2⟩:∃S,oo [(x0,y2),(x1,y1),(x2,y0),(x3,z3),(x4,z2)]=S:=⟨_,rfl⟩
 obtain⟨S3,Yg⟩:∃S,oo [(x0,y3),(x1,y2),(x2,y1),(x3,y0),(x4,z3)]=S:=⟨_,rfl⟩
 obtain⟨S4,hS4⟩:∃S,oo [(x0,y4),(x1,y3),(x2,y2),(x3,y1),(x4,y0)]=S:=⟨_,rfl⟩
 obtain⟨r,hr⟩:∃r,r=Fe.uH S0 S1 S2 S3 S4:=⟨_,rfl⟩
 have vN:=Lib.hid hS0;clear hS0
 have Kr:=Lib.hid hS1;clear hS1
 have HS2:=Lib.hid hS2;clear hS2
 have Zd:=Lib.hid Yg;clear Yg
 have Ze:=Lib.hid hS4;clear hS4
 have Hr:=Lib.hid hr;clear hr
 have iS0:oh S0:=by rw[<- vN.out];exact⟨(gI _).1,(gI _).2⟩
 have iS1:oh S1:=by rw[<- Kr.out];exact⟨(gI _).1,(gI _).2⟩
 have iS2:oh S2:=by rw[<- HS2.out];exact⟨(gI _).1,(gI _).2⟩
 have iS3:oh S3:=by rw[<- Zd.out];exact⟨(gI _).1,(gI _).2⟩
 have iS4:oh S4:=by rw[<- Ze.out];exact⟨(gI _).1,(gI _).2⟩
 have Yh:=Lib.hid hz0;clear hz0
 have Yi:=Lib.hid hz1;clear hz1
 have Yj:=Lib.hid hz2;clear hz2
 have RO:=Lib.hid hz3;clear hz3
 go_enter Tryz.func74,Tryz.ntmps74
 have hB0:Av w w.heap.size (w.heap.size+1) (w.heap.size+1+1) x0 x1 x2 x3 x4 y0 y1 y2 y3 y4 (((w.alloc (.cells #[.int .u64 x0,.int .u64 x1,.int .u64 x2,.int .u64 x3,.int .u64 x4] 54)).alloc (.cells #[.int .u64 y0,.int .u64 y1,.int .u64 y2,.int .u64 y3,.int .u64 y4] 54)).alloc (.cells #[.int .u64 0,.int .u64 0,.int .u64 0,.int .u64 0,.int .u64 0] 54)):=
  ⟨((aH.new w [.int .u64 x0,.int .u64 x1,.int .u64 x2,.int .u64 x3,.int .u64 x4] _).alloc _).alloc _,(aH.newAt (w.alloc _) [.int .u64 y0,.int .u64 y1,.int .u64 y2,.int .u64 y3,.int .u64 y4] _ (by simp)).alloc _,⟨_,_,_,_,_,aH.newAt _ [.int .u64 0,.int .u64 0,.int .u64 0,.int .u64 0,.int .u64 0] _ (by simp)⟩,av (av (av (ah _ _) _) _) _,by omega,by omega,by omega⟩
 go_wp2
 go_quiet (fail)
 go_wp2
 have hB1:=(hB0.grown (iM (ah _ none) nq)).grown (aX (ah _ none))
 clear hB0
 refine sj (RN w.heap.size (w.heap.size+1) (w.heap.size+1+1) x0 x1 x2 x3 x4 y0 y1 y2 y3 y4 z0 z1 z2 z3 S0 S1 S2 S3 S4 r) (fun _ w'=>aH w' (w.heap.size+1+1) 54 [.int .u64 r.x0,.int .u64 r.x1,.int .u64 r.x2,.int .u64 r.x3,.int .u64 r.x4])
  (Av w w.heap.size (w.heap.size+1) (w.heap.size+1+1) x0 x1 x2 x3 x4 y0 y1 y2 y3 y4) (fun w' w''=>w'.grownBy w'' none\/(w'.grownBy w'' (some (w.heap.size+1+1))/\aH w'' (w.heap.size+1+1) 54 [.int .u64 r.x0,.int .u64 r.x1,.int .u64 r.x2,.int .u64 r.x3,.int .u64 r.x4])) (by kernel_rfl) (by kernel_rfl) (by kernel_rfl) hB1 ?_ ?_ ?_ ?_
 .exact fun d u w1 w2 hR h=>Kq _ _ _ _ _ _ _ _ _ _ _ _ _ _ _ _ _ _ _ _ _ _ r d u w1 w2 (hR.elim (fun h=>dB h _) (fun h=>h.1)) h
 .exact fun j w1 w2 hR h=>hR.elim (fun hg=>h.grown hg (by simp)) (fun h=>h.2)
 .clear hB1
  generalize w.heap.size=A
  generalize eB:A+1=B
  generalize eR:B+1=R
  refine⟨aA rfl rfl fun a w h=>?_,?_⟩
  .have e2:_=Value.pointer (some ⟨A,0,none⟩):=h.r 2
   refine⟨.pointer (some ⟨A,0,none⟩),w,?_,h.base,Or.inl (ah _ _),rfl⟩
   clear h
   simp only[execOp,Act.eval,e2]
   go_simp
  refine⟨aA rfl rfl fun a w h=>?_,?_⟩
  .have e21:_=Value.pointer (some ⟨A,0,none⟩):=h.d 21
   have c:=h.base.a.cell (i:=0) rfl
   refine⟨.int .u64 x0,w,?_,h.base,Or.inl (ah _ _),rfl⟩
   clear h
   simp only[execOp,Act.eval,e21]
   go_simp
  refine⟨aA rfl rfl fun a w h=>?_,?_⟩
  .have e3:_=Value.pointer (some ⟨B,0,none⟩):=h.r 3
   refine⟨.pointer (some ⟨B,0,none⟩),w,?_,h.base,Or.inl (ah _ _),rfl⟩
   clear h
   simp only[execOp,Act.eval,e3]
   go_simp
  refine⟨aA rfl rfl fun a w h=>?_,?_⟩
  .have e23:_=Value.pointer (some ⟨B,0,none⟩):=h.d 23
   have c:=h.base.b.cell (i:=0) rfl
   refine⟨.int .u64 y0,w,?_,h.base,Or.inl (ah _ _),rfl⟩
   clear h
   simp only[execOp,Act.eval,e23]
   go_simp
  refine⟨aA rfl rfl fun a w h=>?_,?_⟩
  .have e22:_=Value.int .u64 x0:=h.d 22
   have e24:_=Value.int .u64 y0:=h.d 24
   refine⟨.agg #[.int .u64 x0,.int .u64 y0],w,?_,h.base,Or.inl (ah _ _),rfl⟩
   clear h
   simp only[execOp,List.map_toArray,List.map_cons,List.map_nil,Act.eval,e22,e24]
   go_simp
  refine⟨aA rfl rfl fun a w h=>?_,?_⟩
  .have e2:_=Value.pointer (some ⟨A,0,none⟩):=h.r 2
   refine⟨.pointer (some ⟨A,1,none⟩),w,?_,h.base,Or.inl (ah _ _),rfl⟩
   clear h
   simp only[execOp,Act.eval,e2]
   go_simp
  refine⟨aA rfl rfl fun a w h=>?_,?_⟩
  .have e26:_=Value.pointer (some ⟨A,1,none⟩):=h.d 26
   have c:=h.base.a.cell (i:=1) rfl
   refine⟨.int .u64 x1,w,?_,h.base,Or.inl (ah _ _),rfl⟩
   clear h
   simp only[execOp,Act.eval,e26]
   go_simp
  refine⟨aA rfl rfl fun a w h=>?_,?_⟩
  .have e8:a.tmps.getD 8 undef=.int .u64 z3:=(h.rest 8 (by kernel_rfl)).trans (congrArg (Value.int .u64) RO.out)
   refine⟨.int .u64 z3,w,?_,h.base,Or.inl (ah _ _),rfl⟩
   clear h
   simp only[execOp,Act.eval,e8]
   go_simp
  refine⟨aA rfl rfl fun a w h=>?_,?_⟩
  .have e27:_=Value.int .u64 x1:=h.d 27
   have e28:_=Value.int .u64 z3:=h.d 28
   refine⟨.agg #[.int .u64 x1,.int .u64 z3],w,?_,h.base,Or.inl (ah _ _),rfl⟩
   clear h
   simp only[execOp,List.map_toArray,List.map_cons,List.map_nil,Act.eval,e27,e28]
   go_simp
  refine⟨aA rfl rfl fun a w h=>?_,?_⟩
  .have e2:_=Value.pointer (some ⟨A,0,none⟩):=h.r 2
   refine⟨.pointer (some ⟨A,2,none⟩),w,?_,h.base,Or.inl (ah _ _),rfl⟩
   clear h
   simp only[execOp,Act.eval,e2]
   go_simp
  refine⟨aA rfl rfl fun a w h=>?_,?_⟩
  .have e30:_=Value.pointer (some ⟨A,2,none⟩):=h.d 30
   have c:=h.base.a.cell (i:=2) rfl
   refine⟨.int .u64 x2,w,?_,h.base,Or.inl (ah _ _),rfl⟩
   clear h
   simp only[execOp,Act.eval,e30]
   go_simp
  refine⟨aA rfl rfl fun a w h=>?_,?_⟩
  .have e7:a.tmps.getD 7 undef=.int .u64 z2:=(h.rest 7 (by kernel_rfl)).trans (congrArg (Value.int .u64) Yj.out)
   refine⟨.int .u64 z2,w,?_,h.base,Or.inl (ah _ _),rfl⟩
   clear h
   simp only[execOp,Act.eval,e7]
   go_simp
  refine⟨aA rfl rfl fun a w h=>?_,?_⟩
  .have e31:_=Value.int .u64 x2:=h.d 31
   have e32:_=Value.int .u64 z2:=h.d 32
   refine⟨.agg #[.int .u64 x2,.int .u64 z2],w,?_,h.base,Or.inl (ah _ _),rfl⟩
   clear h
   simp only[execOp,List.map_toArray,List.map_cons,List.map_nil,Act.eval,e31,e32]
   go_simp
  refine⟨aA rfl rfl fun a w h=>?_,?_⟩
  .have e2:_=Value.pointer (some ⟨A,0,none⟩):=h.r 2
   refine⟨.pointer (some ⟨A,3,none⟩),w,?_,h.base,Or.inl (ah _ _),rfl⟩
   clear h
   simp only[execOp,Act.eval,e2]
   go_simp
  refine⟨aA rfl rfl fun a w h=>?_,?_⟩
  .have e34:_=Value.pointer (some ⟨A,3,none⟩):=h.d 34
   have c:=h.base.a.cell (i:=3) rfl
   refine⟨.int .u64 x3,w,?_,h.base,Or.inl (ah _ _),rfl⟩
   clear h
   simp only[execOp,Act.eval,e34]
   go_simp
  refine⟨aA rfl rfl fun a w h=>?_,?_⟩
  .have e6:a.tmps.getD 6 undef=.int .u64 z1:=(h.rest 6 (by kernel_rfl)).trans (congrArg (Value.int .u64) Yi.out)
   refine⟨.int .u64 z1,w,?_,h.base,Or.inl (ah _ _),rfl⟩
   clear h
   simp only[execOp,Act.eval,e6]
   go_simp
  refine⟨aA rfl rfl fun a w h=>?_,?_⟩
  .have e35:_=Value.int .u64 x3:=h.d 35
   have e36:_=Value.int .u64 z1:=h.d 36
   refine⟨.agg #[.int .u64 x3,.int .u64 z1],w,?_,h.base,Or.inl (ah _ _),rfl⟩
   clear h
   simp only[execOp,List.map_toArray,List.map_cons,List.map_nil,Act.eval,e35,e36]
   go_simp
  refine⟨aA rfl rfl fun a w h=>?_,?_⟩
  .have e2:_=Value.pointer (some ⟨A,0,none⟩):=h.r 2
   refine⟨.pointer (some ⟨A,4,none⟩),w,?_,h.base,Or.inl (ah _ _),rfl⟩
   clear h
   simp only[execOp,Act.eval,e2]
   go_simp
  refine⟨aA rfl rfl fun a w h=>?_,?_⟩
  .have e38:_=Value.pointer (some ⟨A,4,none⟩):=h.d 38
   have c:=h.base.a.cell (i:=4) rfl
   refine⟨.int .u64 x4,w,?_,h.base,Or.inl (ah _ _),rfl⟩
   clear h
   simp only[execOp,Act.eval,e38]
   go_simp
  refine⟨aA rfl rfl fun a w h=>?_,?_⟩
  .have e5:a.tmps.getD 5 undef=.int .u64 z0:=(h.rest 5 (by kernel_rfl)).trans (congrArg (Value.int .u64) Yh.out)
   refine⟨.int .u64 z0,w,?_,h.base,Or.inl (ah _ _),rfl⟩
   clear h
   simp only[execOp,Act.eval,e5]
   go_simp
  refine⟨aA rfl rfl fun a w h=>?_,?_⟩
  .have e39:_=Value.int .u64 x4:=h.d 39
   have e40:_=Value.int .u64 z0:=h.d 40
   refine⟨.agg #[.int .u64 x4,.int .u64 z0],w,?_,h.base,Or.inl (ah _ _),rfl⟩
   clear h
   simp only[execOp,List.map_toArray,List.map_cons,List.map_nil,Act.eval,e39,e40]
   go_simp
  refine⟨aA rfl rfl fun a w h=>?_,?_⟩
  .have e25:_=Value.agg #[.int .u64 x0,.int .u64 y0]:=h.d 25
   have e29:_=Value.agg #[.int .u64 x1,.int .u64 z3]:=h.d 29
   have e33:_=Value.agg #[.int .u64 x2,.int .u64 z2]:=h.d 33
   have e37:_=Value.agg #[.int .u64 x3,.int .u64 z1]:=h.d 37
   have e41:_=Value.agg #[.int .u64 x4,.int .u64 z0]:=h.d 41
   obtain⟨_,_,_,_,_,Cm⟩:=h.base.r
   have hs:=Cm.lt
   refine⟨.slice (some ⟨w.heap.size,0,none⟩) 5 5,w.alloc (.cells #[.int .u64 x0,.int .u64 y0,.int .u64 x1,.int .u64 z3,.int .u64 x2,.int .u64 z2,.int .u64 x3,.int .u64 z1,.int .u64 x4,.int .u64 z0] 150),?_,h.base.alloc _,Or.inl (World.grownBy_alloc _ _ _),⟨w.heap.size,by omega,rfl,aH.new w _ _⟩⟩
   clear h
   simp only[execOp,List.map_toArray,List.map_cons,List.map_nil,Act.eval,e25,e29,e33,e37,e41]
   go_simp
  refine⟨iJ rfl rfl fun a w h=>?_,?_⟩
  .obtain⟨PB,hne,e42,hP⟩:∃PB,PB≠R/\a.tmps.getD 42 undef=.slice (some ⟨PB,0,none⟩) 5 5/\aH w PB 150 (flat [(x0,y0),(x1,z3),(x2,z2),(x3,z1),(x4,z0)]):=h.dep 42 (by kernel_rfl)
   have hb:=h.base
   refine⟨105,#[.slice (some ⟨PB,0,none⟩) 5 5],?_,?_⟩
   .clear h hb hP
    have alm:a.tmps[42]?.getD undef=.slice (some ⟨PB,0,none⟩) 5 5:=by simpa using e42
    clear e42
    go_simp
   .refine (jC PB 5 _ w _ rfl (by decide) hP ?_).mono ?_
    .intro p hp;simp only[List.mem_cons,List.not_mem_nil,or_false]at hp;rcases hp with rfl|rfl|rfl|rfl|rfl<;>exact⟨by assumption,by assumption,by assumption,by assumption⟩
    .rintro e w1 ⟨rfl,hg⟩;exact⟨_,rfl,hb.grown hg,Or.inl hg,by show Aq _=_;rw[vN.out];rfl⟩
  refine⟨aA rfl rfl fun a w h=>?_,?_⟩
  .have e2:_=Value.pointer (some ⟨A,0,none⟩):=h.r 2
   refine⟨.pointer (some ⟨A,0,none⟩),w,?_,h.base,Or.inl (ah _ _),rfl⟩
   clear h
   simp only[execOp,Act.eval,e2]
   go_simp
  refine⟨aA rfl rfl fun a w h=>?_,?_⟩
  .have e44:_=Value.pointer (some ⟨A,0,none⟩):=h.d 44
   have c:=h.base.a.cell (i:=0) rfl
   refine⟨.int .u64 x0,w,?_,h.base,Or.inl (ah _ _),rfl⟩
   clear h
   simp only[execOp,Act.eval,e44]
   go_simp
  refine⟨aA rfl rfl fun a w h=>?_,?_⟩
  .have e3:_=Value.pointer (some ⟨B,0,none⟩):=h.r 3
   refine⟨.pointer (some ⟨B,1,none⟩),w,?_,h.base,Or.inl (ah _ _),rfl⟩
   clear h
   simp only[execOp,Act.eval,e3]
   go_simp
  refine⟨aA rfl rfl fun a w h=>?_,?_⟩
  .have e46:_=Value.pointer (some ⟨B,1,none⟩):=h.d 46
   have c:=h.base.b.cell (i:=1) rfl
   refine⟨.int .u64 y1,w,?_,h.base,Or.inl (ah _ _),rfl⟩
   clear h
   simp only[execOp,Act.eval,e46]
   go_simp
  refine⟨aA rfl rfl fun a w h=>?_,?_⟩
  .have e45:_=Value.int .u64 x0:=h.d 45
   have e47:_=Value.int .u64 y1:=h.d 47
   refine⟨.agg #[.int .u64 x0,.int .u64 y1],w,?_,h.base,Or.inl (ah _ _),rfl⟩
   clear h
   simp only[execOp,List.map_toArray,List.map_cons,List.map_nil,Act.eval,e45,e47]
   go_simp
  refine⟨aA rfl rfl fun a w h=>?_,?_⟩
  .have e2:_=Value.pointer (some ⟨A,0,none⟩):=h.r 2
   refine⟨.pointer (some ⟨A,1,none⟩),w,?_,h.base,Or.inl (ah _ _),rfl⟩
   clear h
   simp only[execOp,Act.eval,e2]
   go_simp
  refine⟨aA rfl rfl fun a w h=>?_,?_⟩
  .have e49:_=Value.pointer (some ⟨A,1,none⟩):=h.d 49
   have c:=h.base.a.cell (i:=1) rfl
   refine⟨.int .u64 x1,w,?_,h.base,Or.inl (ah _ _),rfl⟩
   clear h
   simp only[execOp,Act.eval,e49]
   go_simp
  refine⟨aA rfl rfl fun a w h=>?_,?_⟩
  .have e3:_=Value.pointer (some ⟨B,0,none⟩):=h.r 3
   refine⟨.pointer (some ⟨B,0,none⟩),w,?_,h.base,Or.inl (ah _ _),rfl⟩
   clear h
   simp only[execOp,Act.eval,e3]
   go_simp
  refine⟨aA rfl rfl fun a w h=>?_,?_⟩
  .have e51:_=Value.pointer (some ⟨B,0,none⟩):=h.d 51
   have c:=h.base.b.cell (i:=0) rfl
   refine⟨.int .u64 y0,w,?_,h.base,Or.inl (ah _ _),rfl⟩
   clear h
   simp only[execOp,Act.eval,e51]
   go_simp
  refine⟨aA rfl rfl fun a w h=>?_,?_⟩
  .have e50:_=Value.int .u64 x1:=h.d 50
   have e52:_=Value.int .u64 y0:=h.d 52
   refine⟨.agg #[.int .u64 x1,.int .u64 y0],w,?_,h.base,Or.inl (ah _ _),rfl⟩
   clear h
   simp only[execOp,List.map_toArray,List.map_cons,List.map_nil,Act.eval,e50,e52]
   go_simp
  refine⟨aA rfl rfl fun a w h=>?_,?_⟩
  .have e2:_=Value.pointer (some ⟨A,0,none⟩):=h.r 2
   refine⟨.pointer (some ⟨A,2,none⟩),w,?_,h.base,Or.inl (ah _ _),rfl⟩
   clear h
   simp only[execOp,Act.eval,e2]
   go_simp
  refine⟨aA rfl rfl fun a w h=>?_,?_⟩
  .have e54:_=Value.pointer (some ⟨A,2,none⟩):=h.d 54
   have c:=h.base.a.cell (i:=2) rfl
   refine⟨.int .u64 x2,w,?_,h.base,Or.inl (ah _ _),rfl⟩
   clear h
   simp only[execOp,Act.eval,e54]
   go_simp
  refine⟨aA rfl rfl fun a w h=>?_,?_⟩
  .have e8:a.tmps.getD 8 undef=.int .u64 z3:=(h.rest 8 (by kernel_rfl)).trans (congrArg (Value.int .u64) RO.out)
   refine⟨.int .u64 z3,w,?_,h.base,Or.inl (ah _ _),rfl⟩
   clear h
   simp only[execOp,Act.eval,e8]
   go_simp
  refine⟨aA rfl rfl fun a w h=>?_,?_⟩
  .have e55:_=Value.int .u64 x2:=h.d 55
   have e56:_=Value.int .u64 z3:=h.d 56
   refine⟨.agg #[.int .u64 x2,.int .u64 z3],w,?_,h.base,Or.inl (ah _ _),rfl⟩
   clear h
   simp only[execOp,List.map_toArray,List.map_cons,List.map_nil,Act.eval,e55,e56]
   go_simp
  refine⟨aA rfl rfl fun a w h=>?_,?_⟩
  .have e2:_=Value.pointer (some ⟨A,0,none⟩):=h.r 2
   refine⟨.pointer (some ⟨A,3,none⟩),w,?_,h.base,Or.inl (ah _ _),rfl⟩
   clear h
   simp only[execOp,Act.eval,e2]
   go_simp
  refine⟨aA rfl rfl fun a w h=>?_,?_⟩
  .have e58:_=Value.pointer (some ⟨A,3,none⟩):=h.d 58
   have c:=h.base.a.cell (i:=3) rfl
   refine⟨.int .u64 x3,w,?_,h.base,Or.inl (ah _ _),rfl⟩
   clear h
   simp only[execOp,Act.eval,e58]
   go_simp
  refine⟨aA rfl rfl fun a w h=>?_,?_⟩
  .have e7:a.tmps.getD 7 undef=.int .u64 z2:=(h.rest 7 (by kernel_rfl)).trans (congrArg (Value.int .u64) Yj.out)
   refine⟨.int .u64 z2,w,?_,h.base,Or.inl (ah _ _),rfl⟩
   clear h
   simp only[execOp,Act.eval,e7]
   go_simp
  refine⟨aA rfl rfl fun a w h=>?_,?_⟩
  .have e59:_=Value.int .u64 x3:=h.d 59
   have e60:_=Value.int .u64 z2:=h.d 60
   refine⟨.agg #[.int .u64 x3,.int .u64 z2],w,?_,h.base,Or.inl (ah _ _),rfl⟩
   clear h
   simp only[execOp,List.map_toArray,List.map_cons,List.map_nil,Act.eval,e59,e60]
   go_simp
  refine⟨aA rfl rfl fun a w h=>?_,?_⟩
  .have e2:_=Value.pointer (some ⟨A,0,none⟩):=h.r 2
   refine⟨.pointer (some ⟨A,4,none⟩),w,?_,h.base,Or.inl (ah _ _),rfl⟩
   clear h
   simp only[execOp,Act.eval,e2]
   go_simp
  refine⟨aA rfl rfl fun a w h=>?_,?_⟩
  .have e62:_=Value.pointer (some ⟨A,4,none⟩):=h.d 62
   have c:=h.base.a.cell (i:=4) rfl
   refine⟨.int .u64 x4,w,?_,h.base,Or.inl (ah _ _),rfl⟩
   clear h
   simp only[execOp,Act.eval,e62]
   go_simp
  refine⟨aA rfl rfl fun a w h=>?_,?_⟩
  .have e6:a.tmps.getD 6 undef=.int .u64 z1:=(h.rest 6 (by kernel_rfl)).trans (congrArg (Value.int .u64) Yi.out)
   refine⟨.int .u64 z1,w,?_,h.base,Or.inl (ah _ _),rfl⟩
   clear h
   simp only[execOp,Act.eval,e6]
   go_simp
  refine⟨aA rfl rfl fun a w h=>?_,?_⟩
  .have e63:_=Value.int .u64 x4:=h.d 63
   have e64:_=Value.int .u64 z1:=h.d 64
   refine⟨.agg #[.int .u64 x4,.int .u64 z1],w,?_,h.base,Or.inl (ah _ _),rfl⟩
   clear h
   simp only[execOp,List.map_toArray,List.map_cons,List.map_nil,Act.eval,e63,e64]
   go_simp
  refine⟨aA rfl rfl fun a w h=>?_,?_⟩
  .have e48:_=Value.agg #[.int .u64 x0,.int .u64 y1]:=h.d 48
   have e53:_=Value.agg #[.int .u64 x1,.int .u64 y0]:=h.d 53
   have e57:_=Value.agg #[.int .u64 x2,.int .u64 z3]:=h.d 57
   have e61:_=Value.agg #[.int .u64 x3,.int .u64 z2]:=h.d 61
   have e65:_=Value.agg #[.int .u64 x4,.int .u64 z1]:=h.d 65
   obtain⟨_,_,_,_,_,Cm⟩:=h.base.r
   have hs:=Cm.lt
   refine⟨.slice (some ⟨w.heap.size,0,none⟩) 5 5,w.alloc (.cells #[.int .u64 x0,.int .u64 y1,.int .u64 x1,.int .u64 y0,.int .u64 x2,.int .u64 z3,.int .u64 x3,.int .u64 z2,.int .u64 x4,.int .u64 z1] 150),?_,h.base.alloc _,Or.inl (World.grownBy_alloc _ _ _),⟨w.heap.size,by omega,rfl,aH.new w _ _⟩⟩
   clear h
   simp only[execOp,List.map_toArray,List.map_cons,List.map_nil,Act.eval,e48,e53,e57,e61,e65]
   go_simp
  refine⟨iJ rfl rfl fun a w h=>?_,?_⟩
  .obtain⟨PB,hne,e66,hP⟩:∃PB,PB≠R/\a.tmps.getD 66 undef=.slice (some ⟨PB,0,none⟩) 5 5/\aH w PB 150 (flat [(x0,y1),(x1,y0),(x2,z3),(x3,z2),(x4,z1)]):=h.dep 66 (by kernel_rfl)
   have hb:=h.base
   refine⟨105,#[.slice (some ⟨PB,0,none⟩) 5 5],?_,?_⟩
   .clear h hb hP
    have aln:a.tmps[66]?.getD undef=.slice (some ⟨PB,0,none⟩) 5 5:=by simpa using e66
    clear e66
    go_simp
   .refine (jC PB 5 _ w _ rfl (by decide) hP ?_).mono ?_
    .intro p hp;simp only[List.mem_cons,List.not_mem_nil,or_false]at hp;rcases hp with rfl|rfl|rfl|rfl|rfl<;>exact⟨by assumption,by assumption,by assumption,by assumption⟩
    .rintro e w1 ⟨rfl,hg⟩;exact⟨_,rfl,hb.grown hg,Or.inl hg,by show Aq _=_;rw[Kr.out];rfl⟩
  refine⟨aA rfl rfl fun a w h=>?_,?_⟩
  .have e2:_=Value.pointer (some ⟨A,0,none⟩):=h.r 2
   refine⟨.pointer (some ⟨A,0,none⟩),w,?_,h.base,Or.inl (ah _ _),rfl⟩
   clear h
   simp only[execOp,Act.eval,e2]
   go_simp
  refine⟨aA rfl rfl fun a w h=>?_,?_⟩
  .have e68:_=Value.pointer (some ⟨A,0,none⟩):=h.d 68
   have c:=h.base.a.cell (i:=0) rfl
   refine⟨.int .u64 x0,w,?_,h.base,Or.inl (ah _ _),rfl⟩
   clear h
   simp only[execOp,Act.eval,e68]
   go_simp
  refine⟨aA rfl rfl fun a w h=>?_,?_⟩
  .have e3:_=Value.pointer (some ⟨B,0,none⟩):=h.r 3
   refine⟨.pointer (some ⟨B,2,none⟩),w,?_,h.base,Or.inl (ah _ _),rfl⟩
   clear h
   simp only[execOp,Act.eval,e3]
   go_simp
  refine⟨aA rfl rfl fun a w h=>?_,?_⟩
  .have e70:_=Value.pointer (some ⟨B,2,none⟩):=h.d 70
   have c:=h.base.b.cell (i:=2) rfl
   refine⟨.int .u64 y2,w,?_,h.base,Or.inl (ah _ _),rfl⟩
   clear h
   simp only[execOp,Act.eval,e70]
   go_simp
  refine⟨aA rfl rfl fun a w h=>?_,?_⟩
  .have e69:_=Value.int .u64 x0:=h.d 69
   have e71:_=Value.int .u64 y2:=h.d 71
   refine⟨.agg #[.int .u64 x0,.int .u64 y2],w,?_,h.base,Or.inl (ah _ _),rfl⟩
   clear h
   simp only[execOp,List.map_toArray,List.map_cons,List.map_nil,Act.eval,e69,e71]
   go_simp
  refine⟨aA rfl rfl fun a w h=>?_,?_⟩
  .have e2:_=Value.pointer (some ⟨A,0,none⟩):=h.r 2
   refine⟨.pointer (some ⟨A,1,none⟩),w,?_,h.base,Or.inl (ah _ _),rfl⟩
   clear h
   simp only[execOp,Act.eval,e2]
   go_simp
  refine⟨aA rfl rfl fun a w h=>?_,?_⟩
  .have e73:_=Value.pointer (some ⟨A,1,none⟩):=h.d 73
   have c:=h.base.a.cell (i:=1) rfl
   refine⟨.int .u64 x1,w,?_,h.base,Or.inl (ah _ _),rfl⟩
   clear h
   simp only[execOp,Act.eval,e73]
   go_simp
  refine⟨aA rfl rfl fun a w h=>?_,?_⟩
  .have e3:_=Value.pointer (some ⟨B,0,none⟩):=h.r 3
   refine⟨.pointer (some ⟨B,1,none⟩),w,?_,h.base,Or.inl (ah _ _),rfl⟩
   clear h
   simp only[execOp,Act.eval,e3]
   go_simp
  refine⟨aA rfl rfl fun a w h=>?_,?_⟩
  .have e75:_=Value.pointer (some ⟨B,1,none⟩):=h.d 75
   have c:=h.base.b.cell (i:=1) rfl
   refine⟨.int .u64 y1,w,?_,h.base,Or.inl (ah _ _),rfl⟩
   clear h
   simp only[execOp,Act.eval,e75]
   go_simp
  refine⟨aA rfl rfl fun a w h=>?_,?_⟩
  .have e74:_=Value.int .u64 x1:=h.d 74
   have e76:_=Value.int .u64 y1:=h.d 76
   refine⟨.agg #[.int .u64 x1,.int .u64 y1],w,?_,h.base,Or.inl (ah _ _),rfl⟩
   clear h
   simp only[execOp,List.map_toArray,List.map_cons,List.map_nil,Act.eval,e74,e76]
   go_simp
  refine⟨aA rfl rfl fun a w h=>?_,?_⟩
  .have e2:_=Value.pointer (some ⟨A,0,none⟩):=h.r 2
   refine⟨.pointer (some ⟨A,2,none⟩),w,?_,h.base,Or.inl (ah _ _),rfl⟩
   clear h
   simp only[execOp,Act.eval,e2]
   go_simp
  refine⟨aA rfl rfl fun a w h=>?_,?_⟩
  .have e78:_=Value.pointer (some ⟨A,2,none⟩):=h.d 78
   have c:=h.base.a.cell (i:=2) rfl
   refine⟨.int .u64 x2,w,?_,h.base,Or.inl (ah _ _),rfl⟩
   clear h
   simp only[execOp,Act.eval,e78]
   go_simp
  refine⟨aA rfl rfl fun a w h=>?_,?_⟩
  .have e3:_=Value.pointer (some ⟨B,0,none⟩):=h.r 3
   refine⟨.pointer (some ⟨B,0,none⟩),w,?_,h.base,Or.inl (ah _ _),rfl⟩
   clear h
   simp only[execOp,Act.eval,e3]
   go_simp
  refine⟨aA rfl rfl fun a w h=>?_,?_⟩
  .have e80:_=Value.pointer (some ⟨B,0,none⟩):=h.d 80
   have c:=h.base.b.cell (i:=0) rfl
   refine⟨.int .u64 y0,w,?_,h.base,Or.inl (ah _ _),rfl⟩
   clear h
   simp only[execOp,Act.eval,e80]
   go_simp
  refine⟨aA rfl rfl fun a w h=>?_,?_⟩
  .have e79:_=Value.int .u64 x2:=h.d 79
   have e81:_=Value.int .u64 y0:=h.d 81
   refine⟨.agg #[.int .u64 x2,.int .u64 y0],w,?_,h.base,Or.inl (ah _ _),rfl⟩
   clear h
   simp only[execOp,List.map_toArray,List.map_cons,List.map_nil,Act.eval,e79,e81]
   go_simp
  refine⟨aA rfl rfl fun a w h=>?_,?_⟩
  .have e2:_=Value.pointer (some ⟨A,0,none⟩):=h.r 2
   refine⟨.pointer (some ⟨A,3,none⟩),w,?_,h.base,Or.inl (ah _ _),rfl⟩
   clear h
   simp only[execOp,Act.eval,e2]
   go_simp
  refine⟨aA rfl rfl fun a w h=>?_,?_⟩
  .have e83:_=Value.pointer (some ⟨A,3,none⟩):=h.d 83
   have c:=h.base.a.cell (i:=3) rfl
   refine⟨.int .u64 x3,w,?_,h.base,Or.inl (ah _ _),rfl⟩
   clear h
   simp only[execOp,Act.eval,e83]
   go_simp
  refine⟨aA rfl rfl fun a w h=>?_,?_⟩
  .have e8:a.tmps.getD 8 undef=.int .u64 z3:=(h.rest 8 (by kernel_rfl)).trans (congrArg (Value.int .u64) RO.out)
   refine⟨.int .u64 z3,w,?_,h.base,Or.inl (ah _ _),rfl⟩
   clear h
   simp only[execOp,Act.eval,e8]
   go_simp
  refine⟨aA rfl rfl fun a w h=>?_,?_⟩
  .have e84:_=Value.int .u64 x3:=h.d 84
   have e85:_=Value.int .u64 z3:=h.d 85
   refine⟨.agg #[.int .u64 x3,.int .u64 z3],w,?_,h.base,Or.inl (ah _ _),rfl⟩
   clear h
   simp only[execOp,List.map_toArray,List.map_cons,List.map_nil,Act.eval,e84,e85]
   go_simp
  refine⟨aA rfl rfl fun a w h=>?_,?_⟩
  .have e2:_=Value.pointer (some ⟨A,0,none⟩):=h.r 2
   refine⟨.pointer (some ⟨A,4,none⟩),w,?_,h.base,Or.inl (ah _ _),rfl⟩
   clear h
   simp only[execOp,Act.eval,e2]
   go_simp
  refine⟨aA rfl rfl fun a w h=>?_,?_⟩
  .have e87:_=Value.pointer (some ⟨A,4,none⟩):=h.d 87
   have c:=h.base.a.cell (i:=4) rfl
   refine⟨.int .u64 x4,w,?_,h.base,Or.inl (ah _ _),rfl⟩
   clear h
   simp only[execOp,Act.eval,e87]
   go_simp
  refine⟨aA rfl rfl fun a w h=>?_,?_⟩
  .have e7:a.tmps.getD 7 undef=.int .u64 z2:=(h.rest 7 (by kernel_rfl)).trans (congrArg (Value.int .u64) Yj.out)
   refine⟨.int .u64 z2,w,?_,h.base,Or.inl (ah _ _),rfl⟩
   clear h
   simp only[execOp,Act.eval,e7]
   go_simp
  refine⟨aA rfl rfl fun a w h=>?_,?_⟩
  .have Yl:_=Value.int .u64 x4:=h.d 88
   have Ym:_=Value.int .u64 z2:=h.d 89
   refine⟨.agg #[.int .u64 x4,.int .u64 z2],w,?_,h.base,Or.inl (ah _ _),rfl⟩
   clear h
   simp only[execOp,List.map_toArray,List.map_cons,List.map_nil,Act.eval,Yl,Ym]
   go_simp
  refine⟨aA rfl rfl fun a w h=>?_,?_⟩
  .have e72:_=Value.agg #[.int .u64 x0,.int .u64 y2]:=h.d 72
   have e77:_=Value.agg #[.int .u64 x1,.int .u64 y1]:=h.d 77
   have e82:_=Value.agg #[.int .u64 x2,.int .u64 y0]:=h.d 82
   have e86:_=Value.agg #[.int .u64 x3,.int .u64 z3]:=h.d 86
   have Mq:_=Value.agg #[.int .u64 x4,.int .u64 z2]:=h.d 90
   obtain⟨_,_,_,_,_,Cm⟩:=h.base.r
   have hs:=Cm.lt
   refine⟨.slice (some ⟨w.heap.size,0,none⟩) 5 5,w.alloc (.cells #[.int .u64 x0,.int .u64 y2,.int .u64 x1,.int .u64 y1,.int .u64 x2,.int .u64 y0,.int .u64 x3,.int .u64 z3,.int .u64 x4,.int .u64 z2] 150),?_,h.base.alloc _,Or.inl (World.grownBy_alloc _ _ _),⟨w.heap.size,by omega,rfl,aH.new w _ _⟩⟩
   clear h
   simp only[execOp,List.map_toArray,List.map_cons,List.map_nil,Act.eval,e72,e77,e82,e86,Mq]
   go_simp
  refine⟨iJ rfl rfl fun a w h=>?_,?_⟩
  .obtain⟨PB,hne,Vv,hP⟩:∃PB,PB≠R/\a.tmps.getD 91 undef=.slice (some ⟨PB,0,none⟩) 5 5/\aH w PB 150 (flat [(x0,y2),(x1,y1),(x2,y0),(x3,z3),(x4,z2)]):=h.dep 91 (by kernel_rfl)
   have hb:=h.base
   refine⟨105,#[.slice (some ⟨PB,0,none⟩) 5 5],?_,?_⟩
   .clear h hb hP
    have alo:a.tmps[91]?.getD undef=.slice (some ⟨PB,0,none⟩) 5 5:=by simpa using Vv
    clear Vv
    go_simp
   .refine (jC PB 5 _ w _ rfl (by decide) hP ?_).mono ?_
    .intro p hp;simp only[List.mem_cons,List.not_mem_nil,or_false]at hp;rcases hp with rfl|rfl|rfl|rfl|rfl<;>exact⟨by assumption,by assumption,by assumption,by assumption⟩
    .rintro e w1 ⟨rfl,hg⟩;exact⟨_,rfl,hb.grown hg,Or.inl hg,by show Aq _=_;rw[HS2.out];rfl⟩
  refine⟨aA rfl rfl fun a w h=>?_,?_⟩
  .have e2:_=Value.pointer (some ⟨A,0,none⟩):=h.r 2
   refine⟨.pointer (some ⟨A,0,none⟩),w,?_,h.base,Or.inl (ah _ _),rfl⟩
   clear h
   simp only[execOp,Act.eval,e2]
   go_simp
  refine⟨aA rfl rfl fun a w h=>?_,?_⟩
  .have Yn:_=Value.pointer (some ⟨A,0,none⟩):=h.d 93
   have c:=h.base.a.cell (i:=0) rfl
   refine⟨.int .u64 x0,w,?_,h.base,Or.inl (ah _ _),rfl⟩
   clear h
   simp only[execOp,Act.eval,Yn]
   go_simp
  refine⟨aA rfl rfl fun a w h=>?_,?_⟩
  .have e3:_=Value.pointer (some ⟨B,0,none⟩):=h.r 3
   refine⟨.pointer (some ⟨B,3,none⟩),w,?_,h.base,Or.inl (ah _ _),rfl⟩
   clear h
   simp only[execOp,Act.eval,e3]
   go_simp
  refine⟨aA rfl rfl fun a w h=>?_,?_⟩
  .have FC:_=Value.pointer (some ⟨B,3,none⟩):=h.d 95
   have c:=h.base.b.cell (i:=3) rfl
   refine⟨.int .u64 y3,w,?_,h.base,Or.inl (ah _ _),rfl⟩
   clear h
   simp only[execOp,Act.eval,FC]
   go_simp
  refine⟨aA rfl rfl fun a w h=>?_,?_⟩
  .have Vw:_=Value.int .u64 x0:=h.d 94
   have e96:_=Value.int .u64 y3:=h.d 96
   refine⟨.agg #[.int .u64 x0,.int .u64 y3],w,?_,h.base,Or.inl (ah _ _),rfl⟩
   clear h
   simp only[execOp,List.map_toArray,List.map_cons,List.map_nil,Act.eval,Vw,e96]
   go_simp
  refine⟨aA rfl rfl fun a w h=>?_,?_⟩
  .have e2:_=Value.pointer (some ⟨A,0,none⟩):=h.r 2
   refine⟨.pointer (some ⟨A,1,none⟩),w,?_,h.base,Or.inl (ah _ _),rfl⟩
   clear h
   simp only[execOp,Act.eval,e2]
   go_simp
  refine⟨aA rfl rfl fun a w h=>?_,?_⟩
  .have e98:_=Value.pointer (some ⟨A,1,none⟩):=h.d 98
   have c:=h.base.a.cell (i:=1) rfl
   refine⟨.int .u64 x1,w,?_,h.base,Or.inl (ah _ _),rfl⟩
   clear h
   simp only[execOp,Act.eval,e98]
   go_simp
  refine⟨aA rfl rfl fun a w h=>?_,?_⟩
  .have e3:_=Value.pointer (some ⟨B,0,none⟩):=h.r 3
   refine⟨.pointer (some ⟨B,2,none⟩),w,?_,h.base,Or.inl (ah _ _),rfl⟩
   clear h
   simp only[execOp,Act.eval,e3]
   go_simp
  refine⟨aA rfl rfl fun a w h=>?_,?_⟩
  .have e100:_=Value.pointer (some ⟨B,2,none⟩):=h.d 100
   have c:=h.base.b.cell (i:=2) rfl
   refine⟨.int .u64 y2,w,?_,h.base,Or.inl (ah _ _),rfl⟩
   clear h
   simp only[execOp,Act.eval,e100]
   go_simp
  refine⟨aA rfl rfl fun a w h=>?_,?_⟩
  .have e99:_=Value.int .u64 x1:=h.d 99
   have OC:_=Value.int .u64 y2:=h.d 101
   refine⟨.agg #[.int .u64 x1,.int .u64 y2],w,?_,h.base,Or.inl (ah _ _),rfl⟩
   clear h
   simp only[execOp,List.map_toArray,List.map_cons,List.map_nil,Act.eval,e99,OC]
   go_simp
  refine⟨aA rfl rfl fun a w h=>?_,?_⟩
  .have e2:_=Value.pointer (some ⟨A,0,none⟩):=h.r 2
   refine⟨.pointer (some ⟨A,2,none⟩),w,?_,h.base,Or.inl (ah _ _),rfl⟩
   clear h
   simp only[execOp,Act.eval,e2]
   go_simp
  refine⟨aA rfl rfl fun a w h=>?_,?_⟩
  .have OD:_=Value.pointer (some ⟨A,2,none⟩):=h.d 103
   have c:=h.base.a.cell (i:=2) rfl
   refine⟨.int .u64 x2,w,?_,h.base,Or.inl (ah _ _),rfl⟩
   clear h
   simp only[execOp,Act.eval,OD]
   go_simp
  refine⟨aA rfl rfl fun a w h=>?_,?_⟩
  .have e3:_=Value.pointer (some ⟨B,0,none⟩):=h.r 3
   refine⟨.pointer (some ⟨B,1,none⟩),w,?_,h.base,Or.inl (ah _ _),rfl⟩
   clear h
   simp only[execOp,Act.eval,e3]
   go_simp
  refine⟨aA rfl rfl fun a w h=>?_,?_⟩
  .have OE:_=Value.pointer (some ⟨B,1,none⟩):=h.d 105
   have c:=h.base.b.cell (i:=1) rfl
   refine⟨.int .u64 y1,w,?_,h.base,Or.inl (ah _ _),rfl⟩
   clear h
   simp only[execOp,Act.eval,OE]
   go_simp
  refine⟨aA rfl rfl fun a w h=>?_,?_⟩
  .have OG:_=Value.int .u64 x2:=h.d 104
   have Cu:_=Value.int .u64 y1:=h.d 106
   refine⟨.agg #[.int .u64 x2,.int .u64 y1],w,?_,h.base,Or.inl (ah _ _),rfl⟩
   clear h
   simp only[execOp,List.map_toArray,List.map_cons,List.map_nil,Act.eval,OG,Cu]
   go_simp
  refine⟨aA rfl rfl fun a w h=>?_,?_⟩
  .have e2:_=Value.pointer (some ⟨A,0,none⟩):=h.r 2
   refine⟨.pointer (some ⟨A,3,none⟩),w,?_,h.base,Or.inl (ah _ _),rfl⟩
   clear h
   simp only[execOp,Act.eval,e2]
   go_simp
  refine⟨aA rfl rfl fun a w h=>?_,?_⟩
  .have e108:_=Value.pointer (some ⟨A,3,none⟩):=h.d 108
   have c:=h.base.a.cell (i:=3) rfl
   refine⟨.int .u64 x3,w,?_,h.base,Or.inl (ah _ _),rfl⟩
   clear h
   simp only[execOp,Act.eval,e108]
   go_simp
  refine⟨aA rfl rfl fun a w h=>?_,?_⟩
  .have e3:_=Value.pointer (some ⟨B,0,none⟩):=h.r 3
   refine⟨.pointer (some ⟨B,0,none⟩),w,?_,h.base,Or.inl (ah _ _),rfl⟩
   clear h
   simp only[execOp,Act.eval,e3]
   go_simp
  refine⟨aA rfl rfl fun a w h=>?_,?_⟩
  .have za:_=Value.pointer (some ⟨B,0,none⟩):=h.d 110
   have c:=h.base.b.cell (i:=0) rfl
   refine⟨.int .u64 y0,w,?_,h.base,Or.inl (ah _ _),rfl⟩
   clear h
   simp only[execOp,Act.eval,za]
   go_simp
  refine⟨aA rfl rfl fun a w h=>?_,?_⟩
  .have e109:_=Value.int .u64 x3:=h.d 109
   have OH:_=Value.int .u64 y0:=h.d 111
   refine⟨.agg #[.int .u64 x3,.int .u64 y0],w,?_,h.base,Or.inl (ah _ _),rfl⟩
   clear h
   simp only[execOp,List.map_toArray,List.map_cons,List.map_nil,Act.eval,e109,OH]
   go_simp
  refine⟨aA rfl rfl fun a w h=>?_,?_⟩
  .have e2:_=Value.pointer (some ⟨A,0,none⟩):=h.r 2
   refine⟨.pointer (some ⟨A,4,none⟩),w,?_,h.base,Or.inl (ah _ _),rfl⟩
   clear h
   simp only[execOp,Act.eval,e2]
   go_simp
  refine⟨aA rfl rfl fun a w h=>?_,?_⟩
  .have OI:_=Value.pointer (some ⟨A,4,none⟩):=h.d 113
   have c:=h.base.a.cell (i:=4) rfl
   refine⟨.int .u64 x4,w,?_,h.base,Or.inl (ah _ _),rfl⟩
   clear h
   simp only[execOp,Act.eval,OI]
   go_simp
  refine⟨aA rfl rfl fun a w h=>?_,?_⟩
  .have e8:a.tmps.getD 8 undef=.int .u64 z3:=(h.rest 8 (by kernel_rfl)).trans (congrArg (Value.int .u64) RO.out)
   refine⟨.int .u64 z3,w,?_,h.base,Or.inl (ah _ _),rfl⟩
   clear h
   simp only[execOp,Act.eval,e8]
   go_simp
  refine⟨aA rfl rfl fun a w h=>?_,?_⟩
  .have Vx:_=Value.int .u64 x4:=h.d 114
   have e115:_=Value.int .u64 z3:=h.d 115
   refine⟨.agg #[.int .u64 x4,.int .u64 z3],w,?_,h.base,Or.inl (ah _ _),rfl⟩
   clear h
   simp only[execOp,List.map_toArray,List.map_cons,List.map_nil,Act.eval,Vx,e115]
   go_simp
  refine⟨aA rfl rfl fun a w h=>?_,?_⟩
  .have e97:_=Value.agg #[.int .u64 x0,.int .u64 y3]:=h.d 97
   have Cv:_=Value.agg #[.int .u64 x1,.int .u64 y2]:=h.d 102
   have OJ:_=Value.agg #[.int .u64 x2,.int .u64 y1]:=h.d 107
   have OL:_=Value.agg #[.int .u64 x3,.int .u64 y0]:=h.d 112
   have e116:_=Value.agg #[.int .u64 x4,.int .u64 z3]:=h.d 116
   obtain⟨_,_,_,_,_,Cm⟩:=h.base.r
   have hs:=Cm.lt
   refine⟨.slice (some ⟨w.heap.size,0,none⟩) 5 5,w.alloc (.cells #[.int .u64 x0,.int .u64 y3,.int .u64 x1,.int .u64 y2,.int .u64 x2,.int .u64 y1,.int .u64 x3,.int .u64 y0,.int .u64 x4,.int .u64 z3] 150),?_,h.base.alloc _,Or.inl (World.grownBy_alloc _ _ _),⟨w.heap.size,by omega,rfl,aH.new w _ _⟩⟩
   clear h
   simp only[execOp,List.map_toArray,List.map_cons,List.map_nil,Act.eval,e97,Cv,OJ,OL,e116]
   go_simp
  refine⟨iJ rfl rfl fun a w h=>?_,?_⟩
  .obtain⟨PB,hne,e117,hP⟩:∃PB,PB≠R/\a.tmps.getD 117 undef=.slice (some ⟨PB,0,none⟩) 5 5/\aH w PB 150 (flat [(x0,y3),(x1,y2),(x2,y1),(x3,y0),(x4,z3)]):=h.dep 117 (by kernel_rfl)
   have hb:=h.base
   refine⟨105,#[.slice (some ⟨PB,0,none⟩) 5 5],?_,?_⟩
   .clear h hb hP
    have aiR:a.tmps[117]?.getD undef=.slice (some ⟨PB,0,none⟩) 5 5:=by simpa using e117
    clear e117
    go_simp
   .refine (jC PB 5 _ w _ rfl (by decide) hP ?_).mono ?_
    .intro p hp;simp only[List.mem_cons,List.not_mem_nil,or_false]at hp;rcases hp with rfl|rfl|rfl|rfl|rfl<;>exact⟨by assumption,by assumption,by assumption,by assumption⟩
    .rintro e w1 ⟨rfl,hg⟩;exact⟨_,rfl,hb.grown hg,Or.inl hg,by show Aq _=_;rw[Zd.out];rfl⟩
  refine⟨aA rfl rfl fun a w h=>?_,?_⟩
  .have e2:_=Value.pointer (some ⟨A,0,none⟩):=h.r 2
   refine⟨.pointer (some ⟨A,0,none⟩),w,?_,h.base,Or.inl (ah _ _),rfl⟩
   clear h
   simp only[execOp,Act.eval,e2]
   go_simp
  refine⟨aA rfl rfl fun a w h=>?_,?_⟩
  .have e119:_=Value.pointer (some ⟨A,0,none⟩):=h.d 119
   have c:=h.base.a.cell (i:=0) rfl
   refine⟨.int .u64 x0,w,?_,h.base,Or.inl (ah _ _),rfl⟩
   clear h
   simp only[execOp,Act.eval,e119]
   go_simp
  refine⟨aA rfl rfl fun a w h=>?_,?_⟩
  .have e3:_=Value.pointer (some ⟨B,0,none⟩):=h.r 3
   refine⟨.pointer (some ⟨B,4,none⟩),w,?_,h.base,Or.inl (ah _ _),rfl⟩
   clear h
   simp only[execOp,Act.eval,e3]
   go_simp
  refine⟨aA rfl rfl fun a w h=>?_,?_⟩
  .have afI:_=Value.pointer (some ⟨B,4,none⟩):=h.d 121
   have c:=h.base.b.cell (i:=4) rfl
   refine⟨.int .u64 y4,w,?_,h.base,Or.inl (ah _ _),rfl⟩
   clear h
   simp only[execOp,Act.eval,afI]
   go_simp
  refine⟨aA rfl rfl fun a w h=>?_,?_⟩
  .have e120:_=Value.int .u64 x0:=h.d 120
   have afJ:_=Value.int .u64 y4:=h.d 122
   refine⟨.agg #[.int .u64 x0,.int .u64 y4],w,?_,h.base,Or.inl (ah _ _),rfl⟩
   clear h
   simp only[execOp,List.map_toArray,List.map_cons,List.map_nil,Act.eval,e120,afJ]
   go_simp
  refine⟨aA rfl rfl fun a w h=>?_,?_⟩
  .have e2:_=Value.pointer (some ⟨A,0,none⟩):=h.r 2
   refine⟨.pointer (some ⟨A,1,none⟩),w,?_,h.base,Or.inl (ah _ _),rfl⟩
   clear h
   simp only[execOp,Act.eval,e2]
   go_simp
  refine⟨aA rfl rfl fun a w h=>?_,?_⟩
  .have afK:_=Value.pointer (some ⟨A,1,none⟩):=h.d 124
   have c:=h.base.a.cell (i:=1) rfl
   refine⟨.int .u64 x1,w,?_,h.base,Or.inl (ah _ _),rfl⟩
   clear h
   simp only[execOp,Act.eval,afK]
   go_simp
  refine⟨aA rfl rfl fun a w h=>?_,?_⟩
  .have e3:_=Value.pointer (some ⟨B,0,none⟩):=h.r 3
   refine⟨.pointer (some ⟨B,3,none⟩),w,?_,h.base,Or.inl (ah _ _),rfl⟩
   clear h
   simp only[execOp,Act.eval,e3]
   go_simp
  refine⟨aA rfl rfl fun a w h=>?_,?_⟩
  .have e126:_=Value.pointer (some ⟨B,3,none⟩):=h.d 126
   have c:=h.base.b.cell (i:=3) rfl
   refine⟨.int .u64 y3,w,?_,h.base,Or.inl (ah _ _),rfl⟩
   clear h
   simp only[execOp,Act.eval,e126]
   go_simp
  refine⟨aA rfl rfl fun a w h=>?_,?_⟩
  .have e125:_=Value.int .u64 x1:=h.d 125
   have e127:_=Value.int .u64 y3:=h.d 127
   refine⟨.agg #[.int .u64 x1,.int .u64 y3],w,?_,h.base,Or.inl (ah _ _),rfl⟩
   clear h
   simp only[execOp,List.map_toArray,List.map_cons,List.map_nil,Act.eval,e125,e127]
   go_simp
  refine⟨aA rfl rfl fun a w h=>?_,?_⟩
  .have e2:_=Value.pointer (some ⟨A,0,none⟩):=h.r 2
   refine⟨.pointer (some ⟨A,2,none⟩),w,?_,h.base,Or.inl (ah _ _),rfl⟩
   clear h
   simp only[execOp,Act.eval,e2]
   go_simp
  refine⟨aA rfl rfl fun a w h=>?_,?_⟩
  .have e129:_=Value.pointer (some ⟨A,2,none⟩):=h.d 129
   have c:=h.base.a.cell (i:=2) rfl
   refine⟨.int .u64 x2,w,?_,h.base,Or.inl (ah _ _),rfl⟩
   clear h
   simp only[execOp,Act.eval,e129]
   go_simp
  refine⟨aA rfl rfl fun a w h=>?_,?_⟩
  .have e3:_=Value.pointer (some ⟨B,0,none⟩):=h.r 3
   refine⟨.pointer (some ⟨B,2,none⟩),w,?_,h.base,Or.inl (ah _ _),rfl⟩
   clear h
   simp only[execOp,Act.eval,e3]
   go_simp
  refine⟨aA rfl rfl fun a w h=>?_,?_⟩
  .have afL:_=Value.pointer (some ⟨B,2,none⟩):=h.d 131
   have c:=h.base.b.cell (i:=2) rfl
   refine⟨.int .u64 y2,w,?_,h.base,Or.inl (ah _ _),rfl⟩
   clear h
   simp only[execOp,Act.eval,afL]
   go_simp
  refine⟨aA rfl rfl fun a w h=>?_,?_⟩
  .have afM:_=Value.int .u64 x2:=h.d 130
   have afN:_=Value.int .u64 y2:=h.d 132
   refine⟨.agg #[.int .u64 x2,.int .u64 y2],w,?_,h.base,Or.inl (ah _ _),rfl⟩
   clear h
   simp only[execOp,List.map_toArray,List.map_cons,List.map_nil,Act.eval,afM,afN]
   go_simp
  refine⟨aA rfl rfl fun a w h=>?_,?_⟩
  .have e2:_=Value.pointer (some ⟨A,0,none⟩):=h.r 2
   refine⟨.pointer (some ⟨A,3,none⟩),w,?_,h.base,Or.inl (ah _ _),rfl⟩
   clear h
   simp only[execOp,Act.eval,e2]
   go_simp
  refine⟨aA rfl rfl fun a w h=>?_,?_⟩
  .have afO:_=Value.pointer (some ⟨A,3,none⟩):=h.d 134
   have c:=h.base.a.cell (i:=3) rfl
   refine⟨.int .u64 x3,w,?_,h.base,Or.inl (ah _ _),rfl⟩
   clear h
   simp only[execOp,Act.eval,afO]
   go_simp
  refine⟨aA rfl rfl fun a w h=>?_,?_⟩
  .have e3:_=Value.pointer (some ⟨B,0,none⟩):=h.r 3
   refine⟨.pointer (some ⟨B,1,none⟩),w,?_,h.base,Or.inl (ah _ _),rfl⟩
   clear h
   simp only[execOp,Act.eval,e3]
   go_simp
  refine⟨aA rfl rfl fun a w h=>?_,?_⟩
  .have afP:_=Value.pointer (some ⟨B,1,none⟩):=h.d 136
   have c:=h.base.b.cell (i:=1) rfl
   refine⟨.int .u64 y1,w,?_,h.base,Or.inl (ah _ _),rfl⟩
   clear h
   simp only[execOp,Act.eval,afP]
   go_simp
  refine⟨aA rfl rfl fun a w h=>?_,?_⟩
  .have afQ:_=Value.int .u64 x3:=h.d 135
   have e137:_=Value.int .u64 y1:=h.d 137
   refine⟨.agg #[.int .u64 x3,.int .u64 y1],w,?_,h.base,Or.inl (ah _ _),rfl⟩
   clear h
   simp only[execOp,List.map_toArray,List.map_cons,List.map_nil,Act.eval,afQ,e137]
   go_simp
  refine⟨aA rfl rfl fun a w h=>?_,?_⟩
  .have e2:_=Value.pointer (some ⟨A,0,none⟩):=h.r 2
   refine⟨.pointer (some ⟨A,4,none⟩),w,?_,h.base,Or.inl (ah _ _),rfl⟩
   clear h
   simp only[execOp,Act.eval,e2]
   go_simp
  refine⟨aA rfl rfl fun a w h=>?_,?_⟩
  .have afR:_=Value.pointer (some ⟨A,4,none⟩):=h.d 139
   have c:=h.base.a.cell (i:=4) rfl
   refine⟨.int .u64 x4,w,?_,h.base,Or.inl (ah _ _),rfl⟩
   clear h
   simp only[execOp,Act.eval,afR]
   go_simp
  refine⟨aA rfl rfl fun a w h=>?_,?_⟩
  .have e3:_=Value.pointer (some ⟨B,0,none⟩):=h.r 3
   refine⟨.pointer (some ⟨B,0,none⟩),w,?_,h.base,Or.inl (ah _ _),rfl⟩
   clear h
   simp only[execOp,Act.eval,e3]
   go_simp
  refine⟨aA rfl rfl fun a w h=>?_,?_⟩
  .have afS:_=Value.pointer (some ⟨B,0,none⟩):=h.d 141
   have c:=h.base.b.cell (i:=0) rfl
   refine⟨.int .u64 y0,w,?_,h.base,Or.inl (ah _ _),rfl⟩
   clear h
   simp only[execOp,Act.eval,afS]
   go_simp
  refine⟨aA rfl rfl fun a w h=>?_,?_⟩
  .have afT:_=Value.int .u64 x4:=h.d 140
   have afU:_=Value.int .u64 y0:=h.d 142
   refine⟨.agg #[.int .u64 x4,.int .u64 y0],w,?_,h.base,Or.inl (ah _ _),rfl⟩
   clear h
   simp only[execOp,List.map_toArray,List.map_cons,List.map_nil,Act.eval,afT,afU]
   go_simp
  refine⟨aA rfl rfl fun a w h=>?_,?_⟩
  .have afV:_=Value.agg #[.int .u64 x0,.int .u64 y4]:=h.d 123
   have e128:_=Value.agg #[.int .u64 x1,.int .u64 y3]:=h.d 128
   have afW:_=Value.agg #[.int .u64 x2,.int .u64 y2]:=h.d 133
   have e138:_=Value.agg #[.int .u64 x3,.int .u64 y1]:=h.d 138
   have e143:_=Value.agg #[.int .u64 x4,.int .u64 y0]:=h.d 143
   obtain⟨_,_,_,_,_,Cm⟩:=h.base.r
   have hs:=Cm.lt
   refine⟨.slice (some ⟨w.heap.size,0,none⟩) 5 5,w.alloc (.cells #[.int .u64 x0,.int .u64 y4,.int .u64 x1,.int .u64 y3,.int .u64 x2,.int .u64 y2,.int .u64 x3,.int .u64 y1,.int .u64 x4,.int .u64 y0] 150),?_,h.base.alloc _,Or.inl (World.grownBy_alloc _ _ _),⟨w.heap.size,by omega,rfl,aH.new w _ _⟩⟩
   clear h
   simp only[execOp,List.map_toArray,List.map_cons,List.map_nil,Act.eval,afV,e128,afW,e138,e143]
   go_simp
  refine⟨iJ rfl rfl fun a w h=>?_,?_⟩
  .obtain⟨PB,hne,abU,hP⟩:∃PB,PB≠R/\a.tmps.getD 144 undef=.slice (some ⟨PB,0,none⟩) 5 5/\aH w PB 150 (flat [(x0,y4),(x1,y3),(x2,y2),(x3,y1),(x4,y0)]):=h.dep 144 (by kernel_rfl)
   have hb:=h.base
   refine⟨105,#[.slice (some ⟨PB,0,none⟩) 5 5],?_,?_⟩
   .clear h hb hP
    have aiS:a.tmps[144]?.getD undef=.slice (some ⟨PB,0,none⟩) 5 5:=by simpa using abU
    clear abU
    go_simp
   .refine (jC PB 5 _ w _ rfl (by decide) hP ?_).mono ?_
    .intro p hp;simp only[List.mem_cons,List.not_mem_nil,or_false]at hp;rcases hp with rfl|rfl|rfl|rfl|rfl<;>exact⟨by assumption,by assumption,by assumption,by assumption⟩
    .rintro e w1 ⟨rfl,hg⟩;exact⟨_,rfl,hb.grown hg,Or.inl hg,by show Aq _=_;rw[Ze.out];rfl⟩
  refine⟨aA rfl rfl fun a w h=>?_,?_⟩
  .have e43:_=Value.agg #[.int .u64 (S0/18446744073709551616),.int .u64 (S0%18446744073709551616)]:=h.d 43
   have e67:_=Value.agg #[.int .u64 (S1/18446744073709551616),.int .u64 (S1%18446744073709551616)]:=h.d 67
   have Vy:_=Value.agg #[.int .u64 (S2/18446744073709551616),.int .u64 (S2%18446744073709551616)]:=h.d 92
   have e118:_=Value.agg #[.int .u64 (S3/18446744073709551616),.int .u64 (S3%18446744073709551616)]:=h.d 118
   have afY:_=Value.agg #[.int .u64 (S4/18446744073709551616),.int .u64 (S4%18446744073709551616)]:=h.d 145
   refine⟨.agg #[.int .u64 (S0/18446744073709551616),.int .u64 (S0%18446744073709551616),.int .u64 (S1/18446744073709551616),.int .u64 (S1%18446744073709551616),.int .u64 (S2/18446744073709551616),.int .u64 (S2%18446744073709551616),.int .u64 (S3/18446744073709551616),.int .u64 (S3%18446744073709551616),.int .u64 (S4/18446744073709551616),.int .u64 (S4%18446744073709551616)],w,?_,h.base,Or.inl (ah _ _),rfl⟩
   clear h
   simp only[execOp,List.map_toArray,List.map_cons,List.map_nil,Act.eval,e43,e67,Vy,e118,afY]
   go_simp
  refine⟨iJ rfl rfl fun a w h=>?_,?_⟩
  .have abV:_=Value.agg #[.int .u64 (S0/18446744073709551616),.int .u64 (S0%18446744073709551616),.int .u64 (S1/18446744073709551616),.int .u64 (S1%18446744073709551616),.int .u64 (S2/18446744073709551616),.int .u64 (S2%18446744073709551616),.int .u64 (S3/18446744073709551616),.int .u64 (S3%18446744073709551616),.int .u64 (S4/18446744073709551616),.int .u64 (S4%18446744073709551616)]:=h.d 146
   have hb:=h.base
   refine⟨104,#[.agg #[.int .u64 (S0/18446744073709551616),.int .u64 (S0%18446744073709551616),.int .u64 (S1/18446744073709551616),.int .u64 (S1%18446744073709551616),.int .u64 (S2/18446744073709551616),.int .u64 (S2%18446744073709551616),.int .u64 (S3/18446744073709551616),.int .u64 (S3%18446744073709551616),.int .u64 (S4/18446744073709551616),.int .u64 (S4%18446744073709551616)]],?_,?_⟩
   .clear h hb
    have aiT:a.tmps[146]?.getD undef=.agg #[.int .u64 (S0/18446744073709551616),.int .u64 (S0%18446744073709551616),.int .u64 (S1/18446744073709551616),.int .u64 (S1%18446744073709551616),.int .u64 (S2/18446744073709551616),.int .u64 (S2%18446744073709551616),.int .u64 (S3/18446744073709551616),.int .u64 (S3%18446744073709551616),.int .u64 (S4/18446744073709551616),.int .u64 (S4%18446744073709551616)]:=by simpa using abV
    clear abV
    go_simp
   .refine (Du S0 S1 S2 S3 S4 w (by assumption) (by assumption) (by assumption) (by assumption) (by assumption)).mono ?_
    rintro e w1 ⟨rfl,hg⟩
    exact⟨_,rfl,hb.grown hg,Or.inl hg,by show Fe.v _=Fe.v _;rw[Hr.out]⟩
  refine⟨CY rfl rfl fun a w h=>?_,?_⟩
  .have afZ:_=Value.agg #[.int .u64 r.x0,.int .u64 r.x1,.int .u64 r.x2,.int .u64 r.x3,.int .u64 r.x4]:=h.d 147
   have e4:_=Value.pointer (some ⟨R,0,none⟩):=h.r 4
   obtain⟨u0,u1,u2,u3,u4,hR⟩:=h.base.r
   have c0r:=hR.cell (i:=0) rfl;have f0r:=hR.free 0
   have c1r:=hR.cell (i:=1) rfl;have f1r:=hR.free 1
   have c2r:=hR.cell (i:=2) rfl;have f2r:=hR.free 2
   have c3r:=hR.cell (i:=3) rfl;have f3r:=hR.free 3
   have c4r:=hR.cell (i:=4) rfl;have f4r:=hR.free 4
   refine⟨_,?_,h.base.sK _ _ _ _ _,Or.inr ⟨aJ (aJ (aJ (aJ (aJ (ah _ _) _ _) _ _) _ _) _ _) _ _,h.base.r.sK _ _ _ _ _⟩,h.base.r.sK _ _ _ _ _⟩
   clear h
   simp only[execOp,Act.eval,afZ,e4]
   go_simp
  trivial
 .intro a w1 hB hsz hdf hrest aC jX
  have hM:=jX 127 _ rfl rfl
  have eR0:a.tmps.getD 4 undef=.pointer (some ⟨(w.heap.size+1+1),0,none⟩):=hrest 4 (by kernel_rfl)
  have hg:=hB.g
  clear jX aC hrest hB
  have eR1:a.tmps[4]?.getD undef=.pointer (some ⟨(w.heap.size+1+1),0,none⟩):=by simpa using eR0
  have z0:=hM.cell (i:=0) rfl
  have z1:=hM.cell (i:=1) rfl
  have z2:=hM.cell (i:=2) rfl
  have z3:=hM.cell (i:=3) rfl
  have z4:=hM.cell (i:=4) rfl
  clear hM
  go_wp2
  refine bodyPost_ret (v:=.agg #[.int .u64 r.x0,.int .u64 r.x1,.int .u64 r.x2,.int .u64 r.x3,.int .u64 r.x4]) ?_ (by rw[hdf]) ⟨r,?_,rfl,hg⟩
  .simp[results,Tryz.results74,go_sem,eR1,z0,z1,z2,z3,z4]
  .rw[Hr.out,<- vN.out,<- Kr.out,<- HS2.out,<- Zd.out,<- Ze.out,<- Yh.out,<- Yi.out,<- Yj.out,<- RO.out]
   simp only[iB]
   rfl
end
section
open Go.RowKit
def sqG (A R:Nat) (x0 x1 x2 x3 x4 z0 z1 z2 z3 z4 z5 S0 S1 S2 S3 S4:Int) (r:Fe):List (Value->World->Prop):=[
 fun _ _=>True,
 fun _ _=>True,
 fun _ _=>True,
 fun _ _=>True,
 fun _ _=>True,
 fun _ _=>True,
 fun _ _=>True,
 fun _ _=>True,
 fun _ _=>True,
 fun _ _=>True,
 fun _ _=>True,
 fun _ _=>True,
 fun _ _=>True,
 fun _ _=>True,
 fun _ _=>True,
 fun _ _=>True,
 fun _ _=>True,
 fun _ _=>True,
 fun _ _=>True,
 fun v _=>v=.pointer (some ⟨A,0,none⟩),
 fun v _=>v=.int .u64 x0,
 fun v _=>v=.pointer (some ⟨A,0,none⟩),
 fun v _=>v=.int .u64 x0,
 fun v _=>v=.agg #[.int .u64 x0,.int .u64 x0],
 fun v _=>v=.int .u64 z1,
 fun v _=>v=.int .u64 z3,
 fun v _=>v=.agg #[.int .u64 z1,.int .u64 z3],
 fun v _=>v=.pointer (some ⟨A,2,none⟩),
 fun v _=>v=.int .u64 x2,
 fun v _=>v=.int .u64 z4,
 fun v _=>v=.int .u64 z2,
 fun v _=>v=.agg #[.int .u64 z4,.int .u64 z2],
 fun v w=>∃PB,PB≠R/\v=.slice (some ⟨PB,0,none⟩) 3 3/\aH w PB 150 (flat [(x0,x0),(z1,z3),(z4,z2)]),
 fun v _=>v=.agg #[.int .u64 (S0/18446744073709551616),.int .u64 (S0%18446744073709551616)],
 fun v _=>v=.int .u64 z0,
 fun v _=>v=.pointer (some ⟨A,1,none⟩),
 fun v _=>v=.int .u64 x1,
 fun v _=>v=.agg #[.int .u64 z0,.int .u64 x1],
 fun v _=>v=.pointer (some ⟨A,2,none⟩),
 fun v _=>v=.int .u64 x2,
 fun v _=>v=.int .u64 z4,
 fun v _=>v=.int .u64 z3,
 fun v _=>v=.agg #[.int .u64 z4,.int .u64 z3],
 fun v _=>v=.pointer (some ⟨A,3,none⟩),
 fun v _=>v=.int .u64 x3,
 fun v _=>v=.int .u64 z2,
 fun v _=>v=.agg #[.int .u64 x3,.int .u64 z2],
 fun v w=>∃PB,PB≠R/\v=.slice (some ⟨PB,0,none⟩) 3 3/\aH w PB 150 (flat [(z0,x1),(z4,z3),(x3,z2)]),
 fun v _=>v=.agg #[.int .u64 (S1/18446744073709551616),.int .u64 (S1%18446744073709551616)],
 fun v _=>v=.int .u64 z0,
 fun v _=>v=.pointer (some ⟨A,2,none⟩),
 fun v _=>v=.int .u64 x2,
 fun v _=>v=.agg #[.int .u64 z0,.int .u64 x2],
 fun v _=>v=.pointer (some ⟨A,1,none⟩),
 fun v _=>v=.int .u64 x1,
 fun v _=>v=.pointer (some ⟨A,1,none⟩),
 fun v _=>v=.int .u64 x1,
 fun v _=>v=.agg #[.int .u64 x1,.int .u64 x1],
 fun v _=>v=.pointer (some ⟨A,3,none⟩),
 fun v _=>v=.int .u64 x3,
 fun v _=>v=.int .u64 z5,
 fun v _=>v=.int .u64 z3,
 fun v _=>v=.agg #[.int .u64 z5,.int .u64 z3],
 fun v w=>∃PB,PB≠R/\v=.slice (some ⟨PB,0,none⟩) 3 3/\aH w PB 150 (flat [(z0,x2),(x1,x1),(z5,z3)]),
 fun v _=>v=.agg #[.int .u64 (S2/18446744073709551616),.int .u64 (S2%18446744073709551616)],
 fun v _=>v=.int .u64 z0,
 fun v _=>v=.pointer (some ⟨A,3,none⟩),
 fun v _=>v=.int .u64 x3,
 fun v _=>v=.agg #[.int .u64 z0,.int .u64 x3],
 fun v _=>v=.int .u64 z1,
 fun v _=>v=.pointer (some ⟨A,2,none⟩),
 fun v _=>v=.int .u64 x2,
 fun v _=>v=.agg #[.int .u64 z1,.int .u64 x2],
 fun v _=>v=.pointer (some ⟨A,4,none⟩),
 fun v _=>v=.int .u64 x4,
 fun v _=>v=.int .u64 z3,
 fun v _=>v=.agg #[.int .u64 x4,.int .u64 z3],
 fun v w=>∃PB,PB≠R/\v=.slice (some ⟨PB,0,none⟩) 3 3/\aH w PB 150 (flat [(z0,x3),(z1,x2),(x4,z3)]),
 fun v _=>v=.agg #[.int .u64 (S3/18446744073709551616),.int .u64 (S3%18446744073709551616)],
 fun v _=>v=.int .u64 z0,
 fun v _=>v=.pointer (some ⟨A,4,none⟩),
 fun v _=>v=.int .u64 x4,
 fun v _=>v=.agg #[.int .u64 z0,.int .u64 x4],
 fun v _=>v=.int .u64 z1,
 fun v _=>v=.pointer (some ⟨A,3,none⟩),
 fun v _=>v=.int .u64 x3,
 fun v _=>v=.agg #[.int .u64 z1,.int .u64 x3],
 fun v _=>v=.pointer (some ⟨A,2,none⟩),
 fun v _=>v=.int .u64 x2,
 fun v _=>v=.pointer (some ⟨A,2,none⟩),
 fun v _=>v=.int .u64 x2,
 fun v _=>v=.agg #[.int .u64 x2,.int .u64 x2],
 fun v w=>∃PB,PB≠R/\v=.slice (some ⟨PB,0,none⟩) 3 3/\aH w PB 150 (flat [(z0,x4),(z1,x3),(x2,x2)]),
 fun v _=>v=.agg #[.int .u64 (S4/18446744073709551616),.int .u64 (S4%18446744073709551616)],
 fun v _=>v=.agg #[.int .u64 (S0/18446744073709551616),.int .u64 (S0%18446744073709551616),.int .u64 (S1/18446744073709551616),.int .u64 (S1%18446744073709551616),.int .u64 (S2/18446744073709551616),.int .u64 (S2%18446744073709551616),.int .u64 (S3/18446744073709551616),.int .u64 (S3%18446744073709551616),.int .u64 (S4/18446744073709551616),.int .u64 (S4%18446744073709551616)],
 fun v _=>v=r.v]
def Zf (A R:Nat) (x0 x1 x2 x3 x4 z0 z1 z2 z3 z4 z5 S0 S1 S2 S3 S4:Int) (r:Fe) (d:Nat) (v:Value) (w:World):Prop:=((sqG A R x0 x1 x2 x3 x4 z0 z1 z2 z3 z4 z5 S0 S1 S2 S3 S4 r).getD d (fun _ _=>True)) v w
structure RP (w0:World) (A R:Nat) (x0 x1 x2 x3 x4:Int) (w:World):Prop where
 a:aH w A 54 [.int .u64 x0,.int .u64 x1,.int .u64 x2,.int .u64 x3,.int .u64 x4]
 r:fU w R 54
 g:w0.grownBy w none
 ra:A≠R
 rn:w0.heap.size<=R
theorem RP.grown {w0:World} {A R:Nat} {x0 x1 x2 x3 x4:Int} {w w':World} (h:RP w0 A R x0 x1 x2 x3 x4 w) (hg:w.grownBy w' none):RP w0 A R x0 x1 x2 x3 x4 w':=
 ⟨h.a.grown hg (by simp),h.r.grown hg (by simp),aj h.g hg,h.ra,h.rn⟩
theorem RP.alloc {w0:World} {A R:Nat} {x0 x1 x2 x3 x4:Int} {w:World} (h:RP w0 A R x0 x1 x2 x3 x4 w) (o:Obj):RP w0 A R x0 x1 x2 x3 x4 (w.alloc o):=h.grown (World.grownBy_alloc _ _ _)
theorem RP.sK {w0:World} {A R:Nat} {x0 x1 x2 x3 x4:Int} {w:World} (h:RP w0 A R x0 x1 x2 x3 x4 w) (v0 v1 v2 v3 v4:Value):
  RP w0 A R x0 x1 x2 x3 x4 (((((w.setCell ⟨R,0,none⟩ v0).setCell ⟨R,1,none⟩ v1).setCell ⟨R,2,none⟩ v2).setCell ⟨R,3,none⟩ v3).setCell ⟨R,4,none⟩ v4):=
 ⟨((((h.a.other (Ne.symm h.ra) _).other (Ne.symm h.ra) _).other (Ne.symm h.ra) _).other (Ne.symm h.ra) _).other (Ne.symm h.ra) _,
  ⟨_,_,_,_,_,h.r.sK v0 v1 v2 v3 v4⟩,aO (aO (aO (aO (aO h.g h.rn _) h.rn _) h.rn _) h.rn _) h.rn _,h.ra,h.rn⟩
theorem OM (A R:Nat) (x0 x1 x2 x3 x4 z0 z1 z2 z3 z4 z5 S0 S1 S2 S3 S4:Int) (r:Fe) (d:Nat) (u:Value) (w w':World) (hR:w.grownBy w' (some R)) (h:Zf A R x0 x1 x2 x3 x4 z0 z1 z2 z3 z4 z5 S0 S1 S2 S3 S4 r d u w):Zf A R x0 x1 x2 x3 x4 z0 z1 z2 z3 z4 z5 S0 S1 S2 S3 S4 r d u w':=
 Aw (R:=R) _ (show Stable R (sqG A R x0 x1 x2 x3 x4 z0 z1 z2 z3 z4 z5 S0 S1 S2 S3 S4 r) from⟨fun _ _ _ _ h=>h,fun _ _ _ _ h=>h,fun _ _ _ _ h=>h,fun _ _ _ _ h=>h,fun _ _ _ _ h=>h,fun _ _ _ _ h=>h,fun _ _ _ _ h=>h,fun _ _ _ _ h=>h,fun _ _ _ _ h=>h,fun _ _ _ _ h=>h,fun _ _ _ _ h=>h,fun _ _ _ _ h=>h,fun _ _ _ _ h=>h,fun _ _ _ _ h=>h,fun _ _ _ _ h=>h,fun _ _ _ _ h=>h,fun _ _ _ _ h=>h,fun _ _ _ _ h=>h,fun _ _ _ _ h=>h,fun _ _ _ _ h=>h,fun _ _ _ _ h=>h,fun _ _ _ _ h=>h,fun _ _ _ _ h=>h,fun _ _ _ _ h=>h,fun _ _ _ _ h=>h,fun _ _ _ _ h=>h,fun _ _ _ _ h=>h,fun _ _ _ _ h=>h,fun _ _ _ _ h=>h,fun _ _ _ _ h=>h,fun _ _ _ _ h=>h,fun _ _ _ _ h=>h,fun _ _ _ hR ⟨PB,hne,hv,hb⟩=>⟨PB,hne,hv,hb.grown hR (bH hne)⟩,fun _ _ _ _ h=>h,fun _ _ _ _ h=>h,fun _ _ _ _ h=>h,fun _ _ _ _ h=>h,fun _ _ _ _ h=>h,fun _ _ _ _ h=>h,fun _ _ _ _ h=>h,fun _ _ _ _ h=>h,fun _ _ _ _ h=>h,fun _ _ _ _ h=>h,fun _ _ _ _ h=>h,fun _ _ _ _ h=>h,fun _ _ _ _ h=>h,fun _ _ _ _ h=>h,fun _ _ _ hR ⟨PB,hne,hv,hb⟩=>⟨PB,hne,hv,hb.grown hR (bH hne)⟩,fun _ _ _ _ h=>h,fun _ _ _ _ h=>h,fun _ _ _ _ h=>h,fun _ _ _ _ h=>h,fun _ _ _ _ h=>h,fun _ _ _ _ h=>h,fun _ _ _ _ h=>h,fun _ _ _ _ h=>h,fun _ _ _ _ h=>h,fun _ _ _ _ h=>h,fun _ _ _ _ h=>h,fun _ _ _ _ h=>h,fun _ _ _ _ h=>h,fun _ _ _ _ h=>h,fun _ _ _ _ h=>h,fun _ _ _ hR ⟨PB,hne,hv,hb⟩=>⟨PB,hne,hv,hb.grown hR (bH hne)⟩,fun _ _ _ _ h=>h,fun _ _ _ _ h=>h,fun _ _ _ _ h=>h,fun _ _ _ _ h=>h,fun _ _ _ _ h=>h,fun _ _ _ _ h=>h,fun _ _ _ _ h=>h,fun _ _ _ _ h=>h,fun _ _ _ _ h=>h,fun _ _ _ _ h=>h,fun _ _ _ _ h=>h,fun _ _ _ _ h=>h,fun _ _ _ _ h=>h,fun _ _ _ hR ⟨PB,hne,hv,hb⟩=>⟨PB,hne,hv,hb.grown hR (bH hne)⟩,fun _ _ _ _ h=>h,fun _ _ _ _ h=>h,fun _ _ _ _ h=>h,fun _ _ _ _ h=>h,fun _ _ _ _ h=>h,fun _ _ _ _ h=>h,fun _ _ _ _ h=>h,fun _ _ _ _ h=>h,fun _ _ _ _ h=>h,fun _ _ _ _ h=>h,fun _ _ _ _ h=>h,fun _ _ _ _ h=>h,fun _ _ _ _ h=>h,fun _ _ _ _ h=>h,fun _ _ _ hR ⟨PB,hne,hv,hb⟩=>⟨PB,hne,hv,hb.grown hR (bH hne)⟩,fun _ _ _ _ h=>h,fun _ _ _ _ h=>h,fun _ _ _ _ h=>h,trivial⟩) d u w w' hR h
set_option maxRecDepth 100000 in
set_option maxHeartbeats 4000000 in
theorem Zg (x0 x1 x2 x3 x4:Int) (w:World) (a0:0<=x0) (c0:x0<18446744073709551616) (a1:0<=x1) (c1:x1<18446744073709551616) (a2:0<=x2) (c2:x2<18446744073709551616) (a3:0<=x3) (c3:x3<18446744073709551616) (a4:0<=x4) (c4:x4<18446744073709551616):
  Calls Tryz.prog 117 #[.agg #[.int .u64 x0,.int .u64 x1,.int .u64 x2,.int .u64 x3,.int .u64 x4]] w (oq (Fe.cu ⟨x0,x1,x2,x3,x4⟩) w):=by
 obtain⟨z0,hz0⟩:∃z,IntKind.u64.wrap (2*x0)=z:=⟨_,rfl⟩
 have pz0:0<=z0:=by rw[<- hz0,iB];unfold Fe.dH;omega
 have qz0:z0<18446744073709551616:=by rw[<- hz0,iB];unfold Fe.dH;omega
 obtain⟨z1,hz1⟩:∃z,IntKind.u64.wrap (2*x1)=z:=⟨_,rfl⟩
 have pz1:0<=z1:=by rw[<- hz1,iB];unfold Fe.dH;omega
 have qz1:z1<18446744073709551616:=by rw[<- hz1,iB];unfold Fe.dH;omega
 obtain⟨z2,hz2⟩:∃z,IntKind.u64.wrap (19*x3)=z:=⟨_,rfl⟩
 have pz2:0<=z2:=by rw[<- hz2,iB];unfold Fe.dH;omega
 have qz2:z2<18446744073709551616:=by rw[<- hz2,iB];unfold Fe.dH;omega
 obtain⟨z3,hz3⟩:∃z,IntKind.u64.wrap (19*x4)=z:=⟨_,rfl⟩
 have pz3:0<=z3:=by rw[<- hz3,iB];unfold Fe.dH;omega
 have qz3:z3<18446744073709551616:=by rw[<- hz3,iB];unfold Fe.dH;omega
 obtain⟨z4,Vz⟩:∃z,IntKind.u64.wrap (2*x2)=z:=⟨_,rfl⟩
 have pz4:0<=z4:=by rw[<- Vz,iB];unfold Fe.dH;omega
 have qz4:z4<18446744073709551616:=by rw[<- Vz,iB];unfold Fe.dH;omega
 obtain⟨z5,hz5⟩:∃z,IntKind.u64.wrap (2*x3)=z:=⟨_,rfl⟩
 have pz5:0<=z5:=by rw[<- hz5,iB];unfold Fe.dH;omega
 have qz5:z5<18446744073709551616:=by rw[<- hz5,iB];unfold Fe.dH;omega
 obtain⟨S0,hS0⟩:∃S,oo [(x0,x0),(z1,z3),(z4,z2)]=S:=⟨_,rfl⟩
 obtain⟨S1,hS1⟩:∃S,oo [(z0,x1),(z4,z3),(x3,z2)]=S:=⟨_,rfl⟩
 obtain⟨S2,hS2⟩:∃S,oo [(z0,x2),(x1,x1),(z5,z3)]=S:=⟨_,rfl⟩
 obtain⟨S3,Yg⟩:∃S,oo [(z0,x3),(z1,x2),(x4,z3)]=S:=⟨_,rfl⟩
 obtain⟨S4,hS4⟩:∃S,oo [(z0,x4),(z1,x3),(x2,x2)]=S:=⟨_,rfl⟩
 obtain⟨r,hr⟩:∃r,r=Fe.uH S0 S1 S2 S3 S4:=⟨_,rfl⟩
 have vN:=Lib.hid hS0;clear hS0
 have Kr:=Lib.hid hS1;clear hS1
 have HS2:=Lib.hid hS2;clear hS2
 have Zd:=Lib.hid Yg;clear Yg
 have Ze:=Lib.hid hS4;clear hS4
 have Hr:=Lib.hid hr;clear hr
 have iS0:oh S0:=by rw[<- vN.out];exact⟨(gI _).1,(gI _).2⟩
 have iS1:oh S1:=by rw[<- Kr.out];exact⟨(gI _).1,(gI _).2⟩
 have iS2:oh S2:=by rw[<- HS2.out];exact⟨(gI _).1,(gI _).2⟩
 have iS3:oh S3:=by rw[<- Zd.out];exact⟨(gI _).1,(gI _).2⟩
 have iS4:oh S4:=by rw[<- Ze.out];exact⟨(gI _).1,(gI _).2⟩
 have Yh:=Lib.hid hz0;clear hz0
 have Yi:=Lib.hid hz1;clear hz1
 have Yj:=Lib.hid hz2;clear hz2
 have RO:=Lib.hid hz3;clear hz3
 have Hz4:=Lib.hid Vz;clear Vz
 have Hz5:=Lib.hid hz5;clear hz5
 go_enter Tryz.func117,Tryz.ntmps117
 have hB0:RP w w.heap.size (w.heap.size+1) x0 x1 x2 x3 x4 ((w.alloc (.cells #[.int .u64 x0,.int .u64 x1,.int .u64 x2,.int .u64 x3,.int .u64 x4] 54)).alloc (.cells #[.int .u64 0,.int .u64 0,.int .u64 0,.int .u64 0,.int .u64 0] 54)):=
  ⟨(aH.new w [.int .u64 x0,.int .u64 x1,.int .u64 x2,.int .u64 x3,.int .u64 x4] _).alloc _,⟨_,_,_,_,_,aH.newAt _ [.int .u64 0,.int .u64 0,.int .u64 0,.int .u64 0,.int .u64 0] _ (by simp)⟩,av (av (ah _ _) _) _,by omega,by omega⟩
 go_wp2
 go_quiet (fail)
 go_wp2
 go_quiet (fail)
 go_wp2
 refine sj (Zf w.heap.size (w.heap.size+1) x0 x1 x2 x3 x4 z0 z1 z2 z3 z4 z5 S0 S1 S2 S3 S4 r) (fun _ w'=>aH w' (w.heap.size+1) 54 [.int .u64 r.x0,.int .u64 r.x1,.int .u64 r.x2,.int .u64 r.x3,.int .u64 r.x4])
  (RP w w.heap.size (w.heap.size+1) x0 x1 x2 x3 x4) (fun w' w''=>w'.grownBy w'' none\/(w'.grownBy w'' (some (w.heap.size+1))/\aH w'' (w.heap.size+1) 54 [.int .u64 r.x0,.int .u64 r.x1,.int .u64 r.x2,.int .u64 r.x3,.int .u64 r.x4])) (by kernel_rfl) (by kernel_rfl) (by kernel_rfl) (((hB0.grown (iM (ah _ none) _)).grown (iM (ah _ none) _)).grown (aX (ah _ none))) ?_ ?_ ?_ ?_
 .exact fun d u w1 w2 hR h=>OM _ _ _ _ _ _ _ _ _ _ _ _ _ _ _ _ _ _ r d u w1 w2 (hR.elim (fun h=>dB h _) (fun h=>h.1)) h
 .exact fun j w1 w2 hR h=>hR.elim (fun hg=>h.grown hg (by simp)) (fun h=>h.2)
 .clear hB0
  generalize w.heap.size=A
  generalize eR:A+1=R
  refine⟨aA rfl rfl fun a w h=>?_,?_⟩
  .have e1:_=Value.pointer (some ⟨A,0,none⟩):=h.r 1
   refine⟨.pointer (some ⟨A,0,none⟩),w,?_,h.base,Or.inl (ah _ _),rfl⟩
   clear h
   simp only[execOp,Act.eval,e1]
   go_simp
  refine⟨aA rfl rfl fun a w h=>?_,?_⟩
  .have e19:_=Value.pointer (some ⟨A,0,none⟩):=h.d 19
   have c:=h.base.a.cell (i:=0) rfl
   refine⟨.int .u64 x0,w,?_,h.base,Or.inl (ah _ _),rfl⟩
   clear h
   simp only[execOp,Act.eval,e19]
   go_simp
  refine⟨aA rfl rfl fun a w h=>?_,?_⟩
  .have e1:_=Value.pointer (some ⟨A,0,none⟩):=h.r 1
   refine⟨.pointer (some ⟨A,0,none⟩),w,?_,h.base,Or.inl (ah _ _),rfl⟩
   clear h
   simp only[execOp,Act.eval,e1]
   go_simp
  refine⟨aA rfl rfl fun a w h=>?_,?_⟩
  .have e21:_=Value.pointer (some ⟨A,0,none⟩):=h.d 21
   have c:=h.base.a.cell (i:=0) rfl
   refine⟨.int .u64 x0,w,?_,h.base,Or.inl (ah _ _),rfl⟩
   clear h
   simp only[execOp,Act.eval,e21]
   go_simp
  refine⟨aA rfl rfl fun a w h=>?_,?_⟩
  .have e20:_=Value.int .u64 x0:=h.d 20
   have e22:_=Value.int .u64 x0:=h.d 22
   refine⟨.agg #[.int .u64 x0,.int .u64 x0],w,?_,h.base,Or.inl (ah _ _),rfl⟩
   clear h
   simp only[execOp,List.map_toArray,List.map_cons,List.map_nil,Act.eval,e20,e22]
   go_simp
  refine⟨aA rfl rfl fun a w h=>?_,?_⟩
  .have e4:a.tmps.getD 4 undef=.int .u64 z1:=(h.rest 4 (by kernel_rfl)).trans (congrArg (Value.int .u64) Yi.out)
   refine⟨.int .u64 z1,w,?_,h.base,Or.inl (ah _ _),rfl⟩
   clear h
   simp only[execOp,Act.eval,e4]
   go_simp
  refine⟨aA rfl rfl fun a w h=>?_,?_⟩
  .have e6:a.tmps.getD 6 undef=.int .u64 z3:=(h.rest 6 (by kernel_rfl)).trans (congrArg (Value.int .u64) RO.out)
   refine⟨.int .u64 z3,w,?_,h.base,Or.inl (ah _ _),rfl⟩
   clear h
   simp only[execOp,Act.eval,e6]
   go_simp
  refine⟨aA rfl rfl fun a w h=>?_,?_⟩
  .have e24:_=Value.int .u64 z1:=h.d 24
   have e25:_=Value.int .u64 z3:=h.d 25
   refine⟨.agg #[.int .u64 z1,.int .u64 z3],w,?_,h.base,Or.inl (ah _ _),rfl⟩
   clear h
   simp only[execOp,List.map_toArray,List.map_cons,List.map_nil,Act.eval,e24,e25]
   go_simp
  refine⟨aA rfl rfl fun a w h=>?_,?_⟩
  .have e1:_=Value.pointer (some ⟨A,0,none⟩):=h.r 1
   refine⟨.pointer (some ⟨A,2,none⟩),w,?_,h.base,Or.inl (ah _ _),rfl⟩
   clear h
   simp only[execOp,Act.eval,e1]
   go_simp
  refine⟨aA rfl rfl fun a w h=>?_,?_⟩
  .have e27:_=Value.pointer (some ⟨A,2,none⟩):=h.d 27
   have c:=h.base.a.cell (i:=2) rfl
   refine⟨.int .u64 x2,w,?_,h.base,Or.inl (ah _ _),rfl⟩
   clear h
   simp only[execOp,Act.eval,e27]
   go_simp
  refine⟨aA rfl rfl fun a w h=>?_,?_⟩
  .have e28:_=Value.int .u64 x2:=h.d 28
   refine⟨.int .u64 (IntKind.u64.wrap (2*x2)),w,?_,h.base,Or.inl (ah _ _),congrArg (Value.int .u64) Hz4.out⟩
   clear h
   simp only[execOp,Act.eval,e28]
   go_simp
  refine⟨aA rfl rfl fun a w h=>?_,?_⟩
  .have e5:a.tmps.getD 5 undef=.int .u64 z2:=(h.rest 5 (by kernel_rfl)).trans (congrArg (Value.int .u64) Yj.out)
   refine⟨.int .u64 z2,w,?_,h.base,Or.inl (ah _ _),rfl⟩
   clear h
   simp only[execOp,Act.eval,e5]
   go_simp
  refine⟨aA rfl rfl fun a w h=>?_,?_⟩
  .have e29:_=Value.int .u64 z4:=h.d 29
   have e30:_=Value.int .u64 z2:=h.d 30
   refine⟨.agg #[.int .u64 z4,.int .u64 z2],w,?_,h.base,Or.inl (ah _ _),rfl⟩
   clear h
   simp only[execOp,List.map_toArray,List.map_cons,List.map_nil,Act.eval,e29,e30]
   go_simp
  refine⟨aA rfl rfl fun a w h=>?_,?_⟩
  .have e23:_=Value.agg #[.int .u64 x0,.int .u64 x0]:=h.d 23
   have e26:_=Value.agg #[.int .u64 z1,.int .u64 z3]:=h.d 26
   have e31:_=Value.agg #[.int .u64 z4,.int .u64 z2]:=h.d 31
   obtain⟨_,_,_,_,_,Cm⟩:=h.base.r
   have hs:=Cm.lt
   refine⟨.slice (some ⟨w.heap.size,0,none⟩) 3 3,w.alloc (.cells #[.int .u64 x0,.int .u64 x0,.int .u64 z1,.int .u64 z3,.int .u64 z4,.int .u64 z2] 150),?_,h.base.alloc _,Or.inl (World.grownBy_alloc _ _ _),⟨w.heap.size,by omega,rfl,aH.new w _ _⟩⟩
   clear h
   simp only[execOp,List.map_toArray,List.map_cons,List.map_nil,Act.eval,e23,e26,e31]
   go_simp
  refine⟨iJ rfl rfl fun a w h=>?_,?_⟩
  .obtain⟨PB,hne,e32,hP⟩:∃PB,PB≠R/\a.tmps.getD 32 undef=.slice (some ⟨PB,0,none⟩) 3 3/\aH w PB 150 (flat [(x0,x0),(z1,z3),(z4,z2)]):=h.dep 32 (by kernel_rfl)
   have hb:=h.base
   refine⟨105,#[.slice (some ⟨PB,0,none⟩) 3 3],?_,?_⟩
   .clear h hb hP
    have alp:a.tmps[32]?.getD undef=.slice (some ⟨PB,0,none⟩) 3 3:=by simpa using e32
    clear e32
    go_simp
   .refine (jC PB 3 _ w _ rfl (by decide) hP ?_).mono ?_
    .intro p hp;simp only[List.mem_cons,List.not_mem_nil,or_false]at hp;rcases hp with rfl|rfl|rfl<;>exact⟨by assumption,by assumption,by assumption,by assumption⟩
    .rintro e w1 ⟨rfl,hg⟩;exact⟨_,rfl,hb.grown hg,Or.inl hg,by show Aq _=_;rw[vN.out];rfl⟩
  refine⟨aA rfl rfl fun a w h=>?_,?_⟩
  .have e3:a.tmps.getD 3 undef=.int .u64 z0:=(h.rest 3 (by kernel_rfl)).trans (congrArg (Value.int .u64) Yh.out)
   refine⟨.int .u64 z0,w,?_,h.base,Or.inl (ah _ _),rfl⟩
   clear h
   simp only[execOp,Act.eval,e3]
   go_simp
  refine⟨aA rfl rfl fun a w h=>?_,?_⟩
  .have e1:_=Value.pointer (some ⟨A,0,none⟩):=h.r 1
   refine⟨.pointer (some ⟨A,1,none⟩),w,?_,h.base,Or.inl (ah _ _),rfl⟩
   clear h
   simp only[execOp,Act.eval,e1]
   go_simp
  refine⟨aA rfl rfl fun a w h=>?_,?_⟩
  .have e35:_=Value.pointer (some ⟨A,1,none⟩):=h.d 35
   have c:=h.base.a.cell (i:=1) rfl
   refine⟨.int .u64 x1,w,?_,h.base,Or.inl (ah _ _),rfl⟩
   clear h
   simp only[execOp,Act.eval,e35]
   go_simp
  refine⟨aA rfl rfl fun a w h=>?_,?_⟩
  .have e34:_=Value.int .u64 z0:=h.d 34
   have e36:_=Value.int .u64 x1:=h.d 36
   refine⟨.agg #[.int .u64 z0,.int .u64 x1],w,?_,h.base,Or.inl (ah _ _),rfl⟩
   clear h
   simp only[execOp,List.map_toArray,List.map_cons,List.map_nil,Act.eval,e34,e36]
   go_simp
  refine⟨aA rfl rfl fun a w h=>?_,?_⟩
  .have e1:_=Value.pointer (some ⟨A,0,none⟩):=h.r 1
   refine⟨.pointer (some ⟨A,2,none⟩),w,?_,h.base,Or.inl (ah _ _),rfl⟩
   clear h
   simp only[execOp,Act.eval,e1]
   go_simp
  refine⟨aA rfl rfl fun a w h=>?_,?_⟩
  .have e38:_=Value.pointer (some ⟨A,2,none⟩):=h.d 38
   have c:=h.base.a.cell (i:=2) rfl
   refine⟨.int .u64 x2,w,?_,h.base,Or.inl (ah _ _),rfl⟩
   clear h
   simp only[execOp,Act.eval,e38]
   go_simp
  refine⟨aA rfl rfl fun a w h=>?_,?_⟩
  .have e39:_=Value.int .u64 x2:=h.d 39
   refine⟨.int .u64 (IntKind.u64.wrap (2*x2)),w,?_,h.base,Or.inl (ah _ _),congrArg (Value.int .u64) Hz4.out⟩
   clear h
   simp only[execOp,Act.eval,e39]
   go_simp
  refine⟨aA rfl rfl fun a w h=>?_,?_⟩
  .have e6:a.tmps.getD 6 undef=.int .u64 z3:=(h.rest 6 (by kernel_rfl)).trans (congrArg (Value.int .u64) RO.out)
   refine⟨.int .u64 z3,w,?_,h.base,Or.inl (ah _ _),rfl⟩
   clear h
   simp only[execOp,Act.eval,e6]
   go_simp
  refine⟨aA rfl rfl fun a w h=>?_,?_⟩
  .have e40:_=Value.int .u64 z4:=h.d 40
   have e41:_=Value.int .u64 z3:=h.d 41
   refine⟨.agg #[.int .u64 z4,.int .u64 z3],w,?_,h.base,Or.inl (ah _ _),rfl⟩
   clear h
   simp only[execOp,List.map_toArray,List.map_cons,List.map_nil,Act.eval,e40,e41]
   go_simp
  refine⟨aA rfl rfl fun a w h=>?_,?_⟩
  .have e1:_=Value.pointer (some ⟨A,0,none⟩):=h.r 1
   refine⟨.pointer (some ⟨A,3,none⟩),w,?_,h.base,Or.inl (ah _ _),rfl⟩
   clear h
   simp only[execOp,Act.eval,e1]
   go_simp
  refine⟨aA rfl rfl fun a w h=>?_,?_⟩
  .have e43:_=Value.pointer (some ⟨A,3,none⟩):=h.d 43
   have c:=h.base.a.cell (i:=3) rfl
   refine⟨.int .u64 x3,w,?_,h.base,Or.inl (ah _ _),rfl⟩
   clear h
   simp only[execOp,Act.eval,e43]
   go_simp
  refine⟨aA rfl rfl fun a w h=>?_,?_⟩
  .have e5:a.tmps.getD 5 undef=.int .u64 z2:=(h.rest 5 (by kernel_rfl)).trans (congrArg (Value.int .u64) Yj.out)
   refine⟨.int .u64 z2,w,?_,h.base,Or.inl (ah _ _),rfl⟩
   clear h
   simp only[execOp,Act.eval,e5]
   go_simp
  refine⟨aA rfl rfl fun a w h=>?_,?_⟩
  .have e44:_=Value.int .u64 x3:=h.d 44
   have e45:_=Value.int .u64 z2:=h.d 45
   refine⟨.agg #[.int .u64 x3,.int .u64 z2],w,?_,h.base,Or.inl (ah _ _),rfl⟩
   clear h
   simp only[execOp,List.map_toArray,List.map_cons,List.map_nil,Act.eval,e44,e45]
   go_simp
  refine⟨aA rfl rfl fun a w h=>?_,?_⟩
  .have e37:_=Value.agg #[.int .u64 z0,.int .u64 x1]:=h.d 37
   have e42:_=Value.agg #[.int .u64 z4,.int .u64 z3]:=h.d 42
   have e46:_=Value.agg #[.int .u64 x3,.int .u64 z2]:=h.d 46
   obtain⟨_,_,_,_,_,Cm⟩:=h.base.r
   have hs:=Cm.lt
   refine⟨.slice (some ⟨w.heap.size,0,none⟩) 3 3,w.alloc (.cells #[.int .u64 z0,.int .u64 x1,.int .u64 z4,.int .u64 z3,.int .u64 x3,.int .u64 z2] 150),?_,h.base.alloc _,Or.inl (World.grownBy_alloc _ _ _),⟨w.heap.size,by omega,rfl,aH.new w _ _⟩⟩
   clear h
   simp only[execOp,List.map_toArray,List.map_cons,List.map_nil,Act.eval,e37,e42,e46]
   go_simp
  refine⟨iJ rfl rfl fun a w h=>?_,?_⟩
  .obtain⟨PB,hne,e47,hP⟩:∃PB,PB≠R/\a.tmps.getD 47 undef=.slice (some ⟨PB,0,none⟩) 3 3/\aH w PB 150 (flat [(z0,x1),(z4,z3),(x3,z2)]):=h.dep 47 (by kernel_rfl)
   have hb:=h.base
   refine⟨105,#[.slice (some ⟨PB,0,none⟩) 3 3],?_,?_⟩
   .clear h hb hP
    have alq:a.tmps[47]?.getD undef=.slice (some ⟨PB,0,none⟩) 3 3:=by simpa using e47
    clear e47
    go_simp
   .refine (jC PB 3 _ w _ rfl (by decide) hP ?_).mono ?_
    .intro p hp;simp only[List.mem_cons,List.not_mem_nil,or_false]at hp;rcases hp with rfl|rfl|rfl<;>exact⟨by assumption,by assumption,by assumption,by assumption⟩
    .rintro e w1 ⟨rfl,hg⟩;exact⟨_,rfl,hb.grown hg,Or.inl hg,by show Aq _=_;rw[Kr.out];rfl⟩
  refine⟨aA rfl rfl fun a w h=>?_,?_⟩
  .have e3:a.tmps.getD 3 undef=.int .u64 z0:=(h.rest 3 (by kernel_rfl)).trans (congrArg (Value.int .u64) Yh.out)
   refine⟨.int .u64 z0,w,?_,h.base,Or.inl (ah _ _),rfl⟩
   clear h
   simp only[execOp,Act.eval,e3]
   go_simp
  refine⟨aA rfl rfl fun a w h=>?_,?_⟩
  .have e1:_=Value.pointer (some ⟨A,0,none⟩):=h.r 1
   refine⟨.pointer (some ⟨A,2,none⟩),w,?_,h.base,Or.inl (ah _ _),rfl⟩
   clear h
   simp only[execOp,Act.eval,e1]
   go_simp
  refine⟨aA rfl rfl fun a w h=>?_,?_⟩
  .have e50:_=Value.pointer (some ⟨A,2,none⟩):=h.d 50
   have c:=h.base.a.cell (i:=2) rfl
   refine⟨.int .u64 x2,w,?_,h.base,Or.inl (ah _ _),rfl⟩
   clear h
   simp only[execOp,Act.eval,e50]
   go_simp
  refine⟨aA rfl rfl fun a w h=>?_,?_⟩
  .have e49:_=Value.int .u64 z0:=h.d 49
   have e51:_=Value.int .u64 x2:=h.d 51
   refine⟨.agg #[.int .u64 z0,.int .u64 x2],w,?_,h.base,Or.inl (ah _ _),rfl⟩
   clear h
   simp only[execOp,List.map_toArray,List.map_cons,List.map_nil,Act.eval,e49,e51]
   go_simp
  refine⟨aA rfl rfl fun a w h=>?_,?_⟩
  .have e1:_=Value.pointer (some ⟨A,0,none⟩):=h.r 1
   refine⟨.pointer (some ⟨A,1,none⟩),w,?_,h.base,Or.inl (ah _ _),rfl⟩
   clear h
   simp only[execOp,Act.eval,e1]
   go_simp
  refine⟨aA rfl rfl fun a w h=>?_,?_⟩
  .have e53:_=Value.pointer (some ⟨A,1,none⟩):=h.d 53
   have c:=h.base.a.cell (i:=1) rfl
   refine⟨.int .u64 x1,w,?_,h.base,Or.inl (ah _ _),rfl⟩
   clear h
   simp only[execOp,Act.eval,e53]
   go_simp
  refine⟨aA rfl rfl fun a w h=>?_,?_⟩
  .have e1:_=Value.pointer (some ⟨A,0,none⟩):=h.r 1
   refine⟨.pointer (some ⟨A,1,none⟩),w,?_,h.base,Or.inl (ah _ _),rfl⟩
   clear h
   simp only[execOp,Act.eval,e1]
   go_simp
  refine⟨aA rfl rfl fun a w h=>?_,?_⟩
  .have e55:_=Value.pointer (some ⟨A,1,none⟩):=h.d 55
   have c:=h.base.a.cell (i:=1) rfl
   refine⟨.int .u64 x1,w,?_,h.base,Or.inl (ah _ _),rfl⟩
   clear h
   simp only[execOp,Act.eval,e55]
   go_simp
  refine⟨aA rfl rfl fun a w h=>?_,?_⟩
  .have e54:_=Value.int .u64 x1:=h.d 54
   have e56:_=Value.int .u64 x1:=h.d 56
   refine⟨.agg #[.int .u64 x1,.int .u64 x1],w,?_,h.base,Or.inl (ah _ _),rfl⟩
   clear h
   simp only[execOp,List.map_toArray,List.map_cons,List.map_nil,Act.eval,e54,e56]
   go_simp
  refine⟨aA rfl rfl fun a w h=>?_,?_⟩
  .have e1:_=Value.pointer (some ⟨A,0,none⟩):=h.r 1
   refine⟨.pointer (some ⟨A,3,none⟩),w,?_,h.base,Or.inl (ah _ _),rfl⟩
   clear h
   simp only[execOp,Act.eval,e1]
   go_simp
  refine⟨aA rfl rfl fun a w h=>?_,?_⟩
  .have e58:_=Value.pointer (some ⟨A,3,none⟩):=h.d 58
   have c:=h.base.a.cell (i:=3) rfl
   refine⟨.int .u64 x3,w,?_,h.base,Or.inl (ah _ _),rfl⟩
   clear h
   simp only[execOp,Act.eval,e58]
   go_simp
  refine⟨aA rfl rfl fun a w h=>?_,?_⟩
  .have e59:_=Value.int .u64 x3:=h.d 59
   refine⟨.int .u64 (IntKind.u64.wrap (2*x3)),w,?_,h.base,Or.inl (ah _ _),congrArg (Value.int .u64) Hz5.out⟩
   clear h
   simp only[execOp,Act.eval,e59]
   go_simp
  refine⟨aA rfl rfl fun a w h=>?_,?_⟩
  .have e6:a.tmps.getD 6 undef=.int .u64 z3:=(h.rest 6 (by kernel_rfl)).trans (congrArg (Value.int .u64) RO.out)
   refine⟨.int .u64 z3,w,?_,h.base,Or.inl (ah _ _),rfl⟩
   clear h
   simp only[execOp,Act.eval,e6]
   go_simp
  refine⟨aA rfl rfl fun a w h=>?_,?_⟩
  .have e60:_=Value.int .u64 z5:=h.d 60
   have e61:_=Value.int .u64 z3:=h.d 61
   refine⟨.agg #[.int .u64 z5,.int .u64 z3],w,?_,h.base,Or.inl (ah _ _),rfl⟩
   clear h
   simp only[execOp,List.map_toArray,List.map_cons,List.map_nil,Act.eval,e60,e61]
   go_simp
  refine⟨aA rfl rfl fun a w h=>?_,?_⟩
  .have e52:_=Value.agg #[.int .u64 z0,.int .u64 x2]:=h.d 52
   have e57:_=Value.agg #[.int .u64 x1,.int .u64 x1]:=h.d 57
   have e62:_=Value.agg #[.int .u64 z5,.int .u64 z3]:=h.d 62
   obtain⟨_,_,_,_,_,Cm⟩:=h.base.r
   have hs:=Cm.lt
   refine⟨.slice (some ⟨w.heap.size,0,none⟩) 3 3,w.alloc (.cells #[.int .u64 z0,.int .u64 x2,.int .u64 x1,.int .u64 x1,.int .u64 z5,.int .u64 z3] 150),?_,h.base.alloc _,Or.inl (World.grownBy_alloc _ _ _),⟨w.heap.size,by omega,rfl,aH.new w _ _⟩⟩
   clear h
   simp only[execOp,List.map_toArray,List.map_cons,List.map_nil,Act.eval,e52,e57,e62]
   go_simp
  refine⟨iJ rfl rfl fun a w h=>?_,?_⟩
  .obtain⟨PB,hne,e63,hP⟩:∃PB,PB≠R/\a.tmps.getD 63 undef=.slice (some ⟨PB,0,none⟩) 3 3/\aH w PB 150 (flat [(z0,x2),(x1,x1),(z5,z3)]):=h.dep 63 (by kernel_rfl)
   have hb:=h.base
   refine⟨105,#[.slice (some ⟨PB,0,none⟩) 3 3],?_,?_⟩
   .clear h hb hP
    have alr:a.tmps[63]?.getD undef=.slice (some ⟨PB,0,none⟩) 3 3:=by simpa using e63
    clear e63
    go_simp
   .refine (jC PB 3 _ w _ rfl (by decide) hP ?_).mono ?_
    .intro p hp;simp only[List.mem_cons,List.not_mem_nil,or_false]at hp;rcases hp with rfl|rfl|rfl<;>exact⟨by assumption,by assumption,by assumption,by assumption⟩
    .rintro e w1 ⟨rfl,hg⟩;exact⟨_,rfl,hb.grown hg,Or.inl hg,by show Aq _=_;rw[HS2.out];rfl⟩
  refine⟨aA rfl rfl fun a w h=>?_,?_⟩
  .have e3:a.tmps.getD 3 undef=.int .u64 z0:=(h.rest 3 (by kernel_rfl)).trans (congrArg (Value.int .u64) Yh.out)
   refine⟨.int .u64 z0,w,?_,h.base,Or.inl (ah _ _),rfl⟩
   clear h
   simp only[execOp,Act.eval,e3]
   go_simp
  refine⟨aA rfl rfl fun a w h=>?_,?_⟩
  .have e1:_=Value.pointer (some ⟨A,0,none⟩):=h.r 1
   refine⟨.pointer (some ⟨A,3,none⟩),w,?_,h.base,Or.inl (ah _ _),rfl⟩
   clear h
   simp only[execOp,Act.eval,e1]
   go_simp
  refine⟨aA rfl rfl fun a w h=>?_,?_⟩
  .have e66:_=Value.pointer (some ⟨A,3,none⟩):=h.d 66
   have c:=h.base.a.cell (i:=3) rfl
   refine⟨.int .u64 x3,w,?_,h.base,Or.inl (ah _ _),rfl⟩
   clear h
   simp only[execOp,Act.eval,e66]
   go_simp
  refine⟨aA rfl rfl fun a w h=>?_,?_⟩
  .have e65:_=Value.int .u64 z0:=h.d 65
   have e67:_=Value.int .u64 x3:=h.d 67
   refine⟨.agg #[.int .u64 z0,.int .u64 x3],w,?_,h.base,Or.inl (ah _ _),rfl⟩
   clear h
   simp only[execOp,List.map_toArray,List.map_cons,List.map_nil,Act.eval,e65,e67]
   go_simp
  refine⟨aA rfl rfl fun a w h=>?_,?_⟩
  .have e4:a.tmps.getD 4 undef=.int .u64 z1:=(h.rest 4 (by kernel_rfl)).trans (congrArg (Value.int .u64) Yi.out)
   refine⟨.int .u64 z1,w,?_,h.base,Or.inl (ah _ _),rfl⟩
   clear h
   simp only[execOp,Act.eval,e4]
   go_simp
  refine⟨aA rfl rfl fun a w h=>?_,?_⟩
  .have e1:_=Value.pointer (some ⟨A,0,none⟩):=h.r 1
   refine⟨.pointer (some ⟨A,2,none⟩),w,?_,h.base,Or.inl (ah _ _),rfl⟩
   clear h
   simp only[execOp,Act.eval,e1]
   go_simp
  refine⟨aA rfl rfl fun a w h=>?_,?_⟩
  .have e70:_=Value.pointer (some ⟨A,2,none⟩):=h.d 70
   have c:=h.base.a.cell (i:=2) rfl
   refine⟨.int .u64 x2,w,?_,h.base,Or.inl (ah _ _),rfl⟩
   clear h
   simp only[execOp,Act.eval,e70]
   go_simp
  refine⟨aA rfl rfl fun a w h=>?_,?_⟩
  .have e69:_=Value.int .u64 z1:=h.d 69
   have e71:_=Value.int .u64 x2:=h.d 71
   refine⟨.agg #[.int .u64 z1,.int .u64 x2],w,?_,h.base,Or.inl (ah _ _),rfl⟩
   clear h
   simp only[execOp,List.map_toArray,List.map_cons,List.map_nil,Act.eval,e69,e71]
   go_simp
  refine⟨aA rfl rfl fun a w h=>?_,?_⟩
  .have e1:_=Value.pointer (some ⟨A,0,none⟩):=h.r 1
   refine⟨.pointer (some ⟨A,4,none⟩),w,?_,h.base,Or.inl (ah _ _),rfl⟩
   clear h
   simp only[execOp,Act.eval,e1]
   go_simp
  refine⟨aA rfl rfl fun a w h=>?_,?_⟩
  .have e73:_=Value.pointer (some ⟨A,4,none⟩):=h.d 73
   have c:=h.base.a.cell (i:=4) rfl
   refine⟨.int .u64 x4,w,?_,h.base,Or.inl (ah _ _),rfl⟩
   clear h
   simp only[execOp,Act.eval,e73]
   go_simp
  refine⟨aA rfl rfl fun a w h=>?_,?_⟩
  .have e6:a.tmps.getD 6 undef=.int .u64 z3:=(h.rest 6 (by kernel_rfl)).trans (congrArg (Value.int .u64) RO.out)
   refine⟨.int .u64 z3,w,?_,h.base,Or.inl (ah _ _),rfl⟩
   clear h
   simp only[execOp,Act.eval,e6]
   go_simp
  refine⟨aA rfl rfl fun a w h=>?_,?_⟩
  .have e74:_=Value.int .u64 x4:=h.d 74
   have e75:_=Value.int .u64 z3:=h.d 75
   refine⟨.agg #[.int .u64 x4,.int .u64 z3],w,?_,h.base,Or.inl (ah _ _),rfl⟩
   clear h
   simp only[execOp,List.map_toArray,List.map_cons,List.map_nil,Act.eval,e74,e75]
   go_simp
  refine⟨aA rfl rfl fun a w h=>?_,?_⟩
  .have e68:_=Value.agg #[.int .u64 z0,.int .u64 x3]:=h.d 68
   have e72:_=Value.agg #[.int .u64 z1,.int .u64 x2]:=h.d 72
   have e76:_=Value.agg #[.int .u64 x4,.int .u64 z3]:=h.d 76
   obtain⟨_,_,_,_,_,Cm⟩:=h.base.r
   have hs:=Cm.lt
   refine⟨.slice (some ⟨w.heap.size,0,none⟩) 3 3,w.alloc (.cells #[.int .u64 z0,.int .u64 x3,.int .u64 z1,.int .u64 x2,.int .u64 x4,.int .u64 z3] 150),?_,h.base.alloc _,Or.inl (World.grownBy_alloc _ _ _),⟨w.heap.size,by omega,rfl,aH.new w _ _⟩⟩
   clear h
   simp only[execOp,List.map_toArray,List.map_cons,List.map_nil,Act.eval,e68,e72,e76]
   go_simp
  refine⟨iJ rfl rfl fun a w h=>?_,?_⟩
  .obtain⟨PB,hne,e77,hP⟩:∃PB,PB≠R/\a.tmps.getD 77 undef=.slice (some ⟨PB,0,none⟩) 3 3/\aH w PB 150 (flat [(z0,x3),(z1,x2),(x4,z3)]):=h.dep 77 (by kernel_rfl)
   have hb:=h.base
   refine⟨105,#[.slice (some ⟨PB,0,none⟩) 3 3],?_,?_⟩
   .clear h hb hP
    have als:a.tmps[77]?.getD undef=.slice (some ⟨PB,0,none⟩) 3 3:=by simpa using e77
    clear e77
    go_simp
   .refine (jC PB 3 _ w _ rfl (by decide) hP ?_).mono ?_
    .intro p hp;simp only[List.mem_cons,List.not_mem_nil,or_false]at hp;rcases hp with rfl|rfl|rfl<;>exact⟨by assumption,by assumption,by assumption,by assumption⟩
    .rintro e w1 ⟨rfl,hg⟩;exact⟨_,rfl,hb.grown hg,Or.inl hg,by show Aq _=_;rw[Zd.out];rfl⟩
  refine⟨aA rfl rfl fun a w h=>?_,?_⟩
  .have e3:a.tmps.getD 3 undef=.int .u64 z0:=(h.rest 3 (by kernel_rfl)).trans (congrArg (Value.int .u64) Yh.out)
   refine⟨.int .u64 z0,w,?_,h.base,Or.inl (ah _ _),rfl⟩
   clear h
   simp only[execOp,Act.eval,e3]
   go_simp
  refine⟨aA rfl rfl fun a w h=>?_,?_⟩
  .have e1:_=Value.pointer (some ⟨A,0,none⟩):=h.r 1
   refine⟨.pointer (some ⟨A,4,none⟩),w,?_,h.base,Or.inl (ah _ _),rfl⟩
   clear h
   simp only[execOp,Act.eval,e1]
   go_simp
  refine⟨aA rfl rfl fun a w h=>?_,?_⟩
  .have e80:_=Value.pointer (some ⟨A,4,none⟩):=h.d 80
   have c:=h.base.a.cell (i:=4) rfl
   refine⟨.int .u64 x4,w,?_,h.base,Or.inl (ah _ _),rfl⟩
   clear h
   simp only[execOp,Act.eval,e80]
   go_simp
  refine⟨aA rfl rfl fun a w h=>?_,?_⟩
  .have e79:_=Value.int .u64 z0:=h.d 79
   have e81:_=Value.int .u64 x4:=h.d 81
   refine⟨.agg #[.int .u64 z0,.int .u64 x4],w,?_,h.base,Or.inl (ah _ _),rfl⟩
   clear h
   simp only[execOp,List.map_toArray,List.map_cons,List.map_nil,Act.eval,e79,e81]
   go_simp
  refine⟨aA rfl rfl fun a w h=>?_,?_⟩
  .have e4:a.tmps.getD 4 undef=.int .u64 z1:=(h.rest 4 (by kernel_rfl)).trans (congrArg (Value.int .u64) Yi.out)
   refine⟨.int .u64 z1,w,?_,h.base,Or.inl (ah _ _),rfl⟩
   clear h
   simp only[execOp,Act.eval,e4]
   go_simp
  refine⟨aA rfl rfl fun a w h=>?_,?_⟩
  .have e1:_=Value.pointer (some ⟨A,0,none⟩):=h.r 1
   refine⟨.pointer (some ⟨A,3,none⟩),w,?_,h.base,Or.inl (ah _ _),rfl⟩
   clear h
   simp only[execOp,Act.eval,e1]
   go_simp
  refine⟨aA rfl rfl fun a w h=>?_,?_⟩
  .have e84:_=Value.pointer (some ⟨A,3,none⟩):=h.d 84
   have c:=h.base.a.cell (i:=3) rfl
   refine⟨.int .u64 x3,w,?_,h.base,Or.inl (ah _ _),rfl⟩
   clear h
   simp only[execOp,Act.eval,e84]
   go_simp
  refine⟨aA rfl rfl fun a w h=>?_,?_⟩
  .have e83:_=Value.int .u64 z1:=h.d 83
   have e85:_=Value.int .u64 x3:=h.d 85
   refine⟨.agg #[.int .u64 z1,.int .u64 x3],w,?_,h.base,Or.inl (ah _ _),rfl⟩
   clear h
   simp only[execOp,List.map_toArray,List.map_cons,List.map_nil,Act.eval,e83,e85]
   go_simp
  refine⟨aA rfl rfl fun a w h=>?_,?_⟩
  .have e1:_=Value.pointer (some ⟨A,0,none⟩):=h.r 1
   refine⟨.pointer (some ⟨A,2,none⟩),w,?_,h.base,Or.inl (ah _ _),rfl⟩
   clear h
   simp only[execOp,Act.eval,e1]
   go_simp
  refine⟨aA rfl rfl fun a w h=>?_,?_⟩
  .have e87:_=Value.pointer (some ⟨A,2,none⟩):=h.d 87
   have c:=h.base.a.cell (i:=2) rfl
   refine⟨.int .u64 x2,w,?_,h.base,Or.inl (ah _ _),rfl⟩
   clear h
   simp only[execOp,Act.eval,e87]
   go_simp
  refine⟨aA rfl rfl fun a w h=>?_,?_⟩
  .have e1:_=Value.pointer (some ⟨A,0,none⟩):=h.r 1
   refine⟨.pointer (some ⟨A,2,none⟩),w,?_,h.base,Or.inl (ah _ _),rfl⟩
   clear h
   simp only[execOp,Act.eval,e1]
   go_simp
  refine⟨aA rfl rfl fun a w h=>?_,?_⟩
  .have Ym:_=Value.pointer (some ⟨A,2,none⟩):=h.d 89
   have c:=h.base.a.cell (i:=2) rfl
   refine⟨.int .u64 x2,w,?_,h.base,Or.inl (ah _ _),rfl⟩
   clear h
   simp only[execOp,Act.eval,Ym]
   go_simp
  refine⟨aA rfl rfl fun a w h=>?_,?_⟩
  .have Yl:_=Value.int .u64 x2:=h.d 88
   have Mq:_=Value.int .u64 x2:=h.d 90
   refine⟨.agg #[.int .u64 x2,.int .u64 x2],w,?_,h.base,Or.inl (ah _ _),rfl⟩
   clear h
   simp only[execOp,List.map_toArray,List.map_cons,List.map_nil,Act.eval,Yl,Mq]
   go_simp
  refine⟨aA rfl rfl fun a w h=>?_,?_⟩
  .have e82:_=Value.agg #[.int .u64 z0,.int .u64 x4]:=h.d 82
   have e86:_=Value.agg #[.int .u64 z1,.int .u64 x3]:=h.d 86
   have Vv:_=Value.agg #[.int .u64 x2,.int .u64 x2]:=h.d 91
   obtain⟨_,_,_,_,_,Cm⟩:=h.base.r
   have hs:=Cm.lt
   refine⟨.slice (some ⟨w.heap.size,0,none⟩) 3 3,w.alloc (.cells #[.int .u64 z0,.int .u64 x4,.int .u64 z1,.int .u64 x3,.int .u64 x2,.int .u64 x2] 150),?_,h.base.alloc _,Or.inl (World.grownBy_alloc _ _ _),⟨w.heap.size,by omega,rfl,aH.new w _ _⟩⟩
   clear h
   simp only[execOp,List.map_toArray,List.map_cons,List.map_nil,Act.eval,e82,e86,Vv]
   go_simp
  refine⟨iJ rfl rfl fun a w h=>?_,?_⟩
  .obtain⟨PB,hne,Vy,hP⟩:∃PB,PB≠R/\a.tmps.getD 92 undef=.slice (some ⟨PB,0,none⟩) 3 3/\aH w PB 150 (flat [(z0,x4),(z1,x3),(x2,x2)]):=h.dep 92 (by kernel_rfl)
   have hb:=h.base
   refine⟨105,#[.slice (some ⟨PB,0,none⟩) 3 3],?_,?_⟩
   .clear h hb hP
    have alu:a.tmps[92]?.getD undef=.slice (some ⟨PB,0,none⟩) 3 3:=by simpa using Vy
    clear Vy
    go_simp
   .refine (jC PB 3 _ w _ rfl (by decide) hP ?_).mono ?_
    .intro p hp;simp only[List.mem_cons,List.not_mem_nil,or_false]at hp;rcases hp with rfl|rfl|rfl<;>exact⟨by assumption,by assumption,by assumption,by assumption⟩
    .rintro e w1 ⟨rfl,hg⟩;exact⟨_,rfl,hb.grown hg,Or.inl hg,by show Aq _=_;rw[Ze.out];rfl⟩
  refine⟨aA rfl rfl fun a w h=>?_,?_⟩
  .have e33:_=Value.agg #[.int .u64 (S0/18446744073709551616),.int .u64 (S0%18446744073709551616)]:=h.d 33
   have e48:_=Value.agg #[.int .u64 (S1/18446744073709551616),.int .u64 (S1%18446744073709551616)]:=h.d 48
   have e64:_=Value.agg #[.int .u64 (S2/18446744073709551616),.int .u64 (S2%18446744073709551616)]:=h.d 64
   have e78:_=Value.agg #[.int .u64 (S3/18446744073709551616),.int .u64 (S3%18446744073709551616)]:=h.d 78
   have Yn:_=Value.agg #[.int .u64 (S4/18446744073709551616),.int .u64 (S4%18446744073709551616)]:=h.d 93
   refine⟨.agg #[.int .u64 (S0/18446744073709551616),.int .u64 (S0%18446744073709551616),.int .u64 (S1/18446744073709551616),.int .u64 (S1%18446744073709551616),.int .u64 (S2/18446744073709551616),.int .u64 (S2%18446744073709551616),.int .u64 (S3/18446744073709551616),.int .u64 (S3%18446744073709551616),.int .u64 (S4/18446744073709551616),.int .u64 (S4%18446744073709551616)],w,?_,h.base,Or.inl (ah _ _),rfl⟩
   clear h
   simp only[execOp,List.map_toArray,List.map_cons,List.map_nil,Act.eval,e33,e48,e64,e78,Yn]
   go_simp
  refine⟨iJ rfl rfl fun a w h=>?_,?_⟩
  .have Vw:_=Value.agg #[.int .u64 (S0/18446744073709551616),.int .u64 (S0%18446744073709551616),.int .u64 (S1/18446744073709551616),.int .u64 (S1%18446744073709551616),.int .u64 (S2/18446744073709551616),.int .u64 (S2%18446744073709551616),.int .u64 (S3/18446744073709551616),.int .u64 (S3%18446744073709551616),.int .u64 (S4/18446744073709551616),.int .u64 (S4%18446744073709551616)]:=h.d 94
   have hb:=h.base
   refine⟨104,#[.agg #[.int .u64 (S0/18446744073709551616),.int .u64 (S0%18446744073709551616),.int .u64 (S1/18446744073709551616),.int .u64 (S1%18446744073709551616),.int .u64 (S2/18446744073709551616),.int .u64 (S2%18446744073709551616),.int .u64 (S3/18446744073709551616),.int .u64 (S3%18446744073709551616),.int .u64 (S4/18446744073709551616),.int .u64 (S4%18446744073709551616)]],?_,?_⟩
   .clear h hb
    have alv:a.tmps[94]?.getD undef=.agg #[.int .u64 (S0/18446744073709551616),.int .u64 (S0%18446744073709551616),.int .u64 (S1/18446744073709551616),.int .u64 (S1%18446744073709551616),.int .u64 (S2/18446744073709551616),.int .u64 (S2%18446744073709551616),.int .u64 (S3/18446744073709551616),.int .u64 (S3%18446744073709551616),.int .u64 (S4/18446744073709551616),.int .u64 (S4%18446744073709551616)]:=by simpa using Vw
    clear Vw
    go_simp
   .refine (Du S0 S1 S2 S3 S4 w (by assumption) (by assumption) (by assumption) (by assumption) (by assumption)).mono ?_
    rintro e w1 ⟨rfl,hg⟩
    exact⟨_,rfl,hb.grown hg,Or.inl hg,by show Fe.v _=Fe.v _;rw[Hr.out]⟩
  refine⟨CY rfl rfl fun a w h=>?_,?_⟩
  .have FC:_=Value.agg #[.int .u64 r.x0,.int .u64 r.x1,.int .u64 r.x2,.int .u64 r.x3,.int .u64 r.x4]:=h.d 95
   have e2:_=Value.pointer (some ⟨R,0,none⟩):=h.r 2
   obtain⟨u0,u1,u2,u3,u4,hR⟩:=h.base.r
   have c0r:=hR.cell (i:=0) rfl;have f0r:=hR.free 0
   have c1r:=hR.cell (i:=1) rfl;have f1r:=hR.free 1
   have c2r:=hR.cell (i:=2) rfl;have f2r:=hR.free 2
   have c3r:=hR.cell (i:=3) rfl;have f3r:=hR.free 3
   have c4r:=hR.cell (i:=4) rfl;have f4r:=hR.free 4
   refine⟨_,?_,h.base.sK _ _ _ _ _,Or.inr ⟨aJ (aJ (aJ (aJ (aJ (ah _ _) _ _) _ _) _ _) _ _) _ _,h.base.r.sK _ _ _ _ _⟩,h.base.r.sK _ _ _ _ _⟩
   clear h
   simp only[execOp,Act.eval,FC,e2]
   go_simp
  trivial
 .intro a w1 hB hsz hdf hrest aC jX
  have hM:=jX 77 _ rfl rfl
  have eR0:a.tmps.getD 2 undef=.pointer (some ⟨(w.heap.size+1),0,none⟩):=hrest 2 (by kernel_rfl)
  have hg:=hB.g
  clear jX aC hrest hB
  have eR1:a.tmps[2]?.getD undef=.pointer (some ⟨(w.heap.size+1),0,none⟩):=by simpa using eR0
  have z0:=hM.cell (i:=0) rfl
  have z1:=hM.cell (i:=1) rfl
  have z2:=hM.cell (i:=2) rfl
  have z3:=hM.cell (i:=3) rfl
  have z4:=hM.cell (i:=4) rfl
  clear hM
  go_wp2
  refine bodyPost_ret (v:=.agg #[.int .u64 r.x0,.int .u64 r.x1,.int .u64 r.x2,.int .u64 r.x3,.int .u64 r.x4]) ?_ (by rw[hdf]) ⟨r,?_,rfl,hg⟩
  .simp[results,Tryz.results117,go_sem,eR1,z0,z1,z2,z3,z4]
  .rw[Hr.out,<- vN.out,<- Kr.out,<- HS2.out,<- Zd.out,<- Ze.out,<- Yh.out,<- Yi.out,<- Yj.out,<- RO.out,<- Hz4.out,<- Hz5.out]
   simp only[iB]
   rfl
end
section
open Go.RowKit
def Fe.at (a:Fe):Nat->Int
 | 0=>a.x0
 | 1=>a.x1
 | 2=>a.x2
 | 3=>a.x3
 | _=>a.x4
theorem Fe.Ok.at {a:Fe} (h:a.Ok) (i:Nat):0<=a.at i/\a.at i<18446744073709551616:=by
 obtain⟨n0,n1,n2,n3,n4,l0,l1,l2,l3,l4⟩:=h
 match i with
 | 0=>exact⟨n0,l0⟩
 | 1=>exact⟨n1,l1⟩
 | 2=>exact⟨n2,l2⟩
 | 3=>exact⟨n3,l3⟩
 | n+4=>exact⟨n4,l4⟩
def wD (f g:Nat->Int) (k:Nat):List Value:=(List.range 5).map fun i=>.int .u64 (if i<k then g i else f i)
theorem o8 (f g:Nat->Int) (k:Nat):(wD f g k).length=5:=by simp[wD]
theorem gZ (f g:Nat->Int) (k i:Nat) (h:i<5):(wD f g k)[i]?=some (.int .u64 (if i<k then g i else f i)):=by
 unfold wD
 rw[List.getElem?_map,List.getElem?_range h]
 rfl
theorem Gw (f g:Nat->Int) (k:Nat) (h:k<5):(wD f g k).set k (.int .u64 (g k))=wD f g (k+1):=by
 apply List.ext_getElem?
 intro i
 rw[List.getElem?_set]
 by_cases hi:i<5
 .rw[gZ f g (k+1) i hi]
  by_cases e:k=i
  .subst e;simp[o8,h]
  .rw[if_neg e,gZ f g k i hi]
   congr 2
   by_cases hk:i<k
   .rw[if_pos hk,if_pos (by omega)]
   .rw[if_neg hk,if_neg (by omega)]
 .rw[List.getElem?_eq_none (by rw[o8];omega),List.getElem?_eq_none (by rw[o8];omega)]
  split
  .rw[o8];simp;omega
  .rfl
theorem jH {w0 w:World} {B:Nat} (h:w0.grownBy w none) (hB:w0.heap.size<=B) (v0 v1 v2 v3 v4:Value):
  w0.grownBy (((((w.setCell ⟨B,0,none⟩ v0).setCell ⟨B,1,none⟩ v1).setCell ⟨B,2,none⟩ v2).setCell ⟨B,3,none⟩ v3).setCell ⟨B,4,none⟩ v4) none:=
 aO (aO (aO (aO (aO h hB _) hB _) hB _) hB _) hB _
theorem bS {w:World} {B:Nat} {T:TypeId} (h:fU w B T) {p:Addr} (hp:p.block≠B) (v:Value):fU (w.setCell p v) B T:=
 let ⟨_,_,_,_,_,hb⟩:=h;⟨_,_,_,_,_,hb.other hp v⟩
set_option maxHeartbeats 800000 in
theorem VA (a b:Fe) (w:World) (ha:a.Ok) (hb:b.Ok):
  Calls Tryz.prog 127 #[.agg #[.int .u64 a.x0,.int .u64 a.x1,.int .u64 a.x2,.int .u64 a.x3,.int .u64 a.x4],.agg #[.int .u64 b.x0,.int .u64 b.x1,.int .u64 b.x2,.int .u64 b.x3,.int .u64 b.x4]] w (oq (Fe.fF a b) w):=by
 have hA:=ha.at
 have hB:=hb.at
 clear ha hb
 go_enter Tryz.func127,Tryz.ntmps127
 go_wp2
 go_loopw [6] (fun i wr=>∃k:Nat,k<=5/\i=.int .i64 k/\w.grownBy wr none/\aH wr w.heap.size 54 (wD a.at (fun i=>IntKind.u64.wrap (a.at i+b.at i)) k)/\aH wr (w.heap.size+1) 54 (wD b.at b.at 0)/\fU wr (w.heap.size+2) 54) (fun i _=>5-(intOf i).toNat)
 case atStart=>
  exact⟨0,by omega,rfl,av (av (av (ah _ _) _) _) _,((aH.new w (wD a.at (fun i=>IntKind.u64.wrap (a.at i+b.at i)) 0) _).alloc _).alloc _,(aH.newAt (w.alloc _) (wD b.at b.at 0) _ (by simp)).alloc _,⟨_,_,_,_,_,aH.newAt _ [.int .u64 0,.int .u64 0,.int .u64 0,.int .u64 0,.int .u64 0] _ (by simp)⟩⟩
 case round=>
  obtain⟨k,hk,rfl,hg,hBa,hBb,hR⟩:=hrel
  by_cases hlt:k<5
  .have c0:=hBa.cell (gZ a.at (fun i=>IntKind.u64.wrap (a.at i+b.at i)) k k hlt)
   have c1:=hBb.cell (gZ b.at b.at 0 k hlt)
   rw[if_neg (by omega)]at c0 c1
   have f0:=hBa.free k
   have hset:=hBa.set k (.int .u64 (IntKind.u64.wrap (a.at k+b.at k)))
   have Zh:=Lib.hid (Gw a.at (fun i=>IntKind.u64.wrap (a.at i+b.at i)) k hlt)
   have i0:(0:Int)<=(k:Int):=by omega
   have i1:(k:Int)<5:=by omega
   go_wp2
   go_region
   go_wp2
   go_roundw
   case rel=>exact⟨k+1,by omega,by go_num,aO (aX hg) (Nat.le_refl _) _,Zh.out▸hset,(hBb.drew).other (by simp) _,bS (hR.grown (aX (ah _ none)) (by simp)) (by simp) _⟩
   case measure=>simp[intOf];omega
  .obtain rfl:k=5:=by omega
   have c0:=hBa.cell (gZ a.at (fun i=>IntKind.u64.wrap (a.at i+b.at i)) 5 0 (by decide))
   have c1:=hBa.cell (gZ a.at (fun i=>IntKind.u64.wrap (a.at i+b.at i)) 5 1 (by decide))
   have c2:=hBa.cell (gZ a.at (fun i=>IntKind.u64.wrap (a.at i+b.at i)) 5 2 (by decide))
   have c3:=hBa.cell (gZ a.at (fun i=>IntKind.u64.wrap (a.at i+b.at i)) 5 3 (by decide))
   have c4:=hBa.cell (gZ a.at (fun i=>IntKind.u64.wrap (a.at i+b.at i)) 5 4 (by decide))
   rw[if_pos (by decide)]at c0 c1 c2 c3 c4
   clear hBa hBb
   go_wp2_with (go_at_call 131;refine (Ey _ _ _ _ _ _).mono ?_;rintro e w1 ⟨r,hr,rfl,hg1⟩;obtain⟨u0,u1,u2,u3,u4,kG⟩:=hR.grown hg1 (by simp);have z0:=kG.cell (i:=0) rfl;have z1:=kG.cell (i:=1) rfl;have z2:=kG.cell (i:=2) rfl;have z3:=kG.cell (i:=3) rfl;have z4:=kG.cell (i:=4) rfl;have y0:=kG.free 0;have y1:=kG.free 1;have y2:=kG.free 2;have y3:=kG.free 3;have y4:=kG.free 4)
   refine bodyPost_ret (v:=.agg #[.int .u64 r.x0,.int .u64 r.x1,.int .u64 r.x2,.int .u64 r.x3,.int .u64 r.x4]) ?_ rfl ⟨r,?_,rfl,?_⟩
   .simp[results,Tryz.results127,go_sem,z0,z1,z2,z3,z4]
   .have e:=hr.out
    rw[e]
    unfold Fe.fF
    exact Lib.hid rfl
   .exact jH (aj hg hg1) (by omega) _ _ _ _ _
def ou:Nat->Int
 | 0=>9007199254740916
 | _=>9007199254740988
def gB:Fe:=⟨1718705420411056,234908883556509,2233514472574048,2117202627021982,765476049583133⟩
theorem RQ (i:Nat):0<=ou i/\ou i<18446744073709551616:=by
 cases i<;>simp[ou]
structure rM (w:World):Prop where
 lt:3<w.heap.size/\6<w.heap.size
 p:∀i,i<5->w.cell? ⟨3,i,none⟩=some (.int .u64 (ou i))
 q:∀i,i<5->w.cell? ⟨6,i,none⟩=some (.int .u64 (gB.at i))
theorem rM.grown {w w':World} (h:rM w) (hg:w.grownBy w' none):rM w':=
 ⟨⟨Nat.lt_of_lt_of_le h.lt.1 hg.size,Nat.lt_of_lt_of_le h.lt.2 hg.size⟩,fun i hi=>by rw[bf hg (p:=⟨3,i,none⟩) h.lt.1 (by simp)];exact h.p i hi,
  fun i hi=>by rw[bf hg (p:=⟨6,i,none⟩) h.lt.2 (by simp)];exact h.q i hi⟩
set_option maxHeartbeats 800000 in
theorem Mr (a b:Fe) (w:World) (hT:rM w) (ha:a.Ok) (hb:b.Ok):
  Calls Tryz.prog 113 #[.agg #[.int .u64 a.x0,.int .u64 a.x1,.int .u64 a.x2,.int .u64 a.x3,.int .u64 a.x4],.agg #[.int .u64 b.x0,.int .u64 b.x1,.int .u64 b.x2,.int .u64 b.x3,.int .u64 b.x4]] w (oq (Fe.iw a b) w):=by
 have hA:=ha.at
 have hB:=hb.at
 clear ha hb
 go_enter Tryz.func113,Tryz.ntmps113
 go_wp2
 go_loopw [6] (fun i wr=>∃k:Nat,k<=5/\i=.int .i64 k/\w.grownBy wr none/\aH wr w.heap.size 54 (wD a.at (fun i=>IntKind.u64.wrap (a.at i+IntKind.u64.wrap (ou i-b.at i))) k)/\aH wr (w.heap.size+1) 54 (wD b.at b.at 0)/\fU wr (w.heap.size+2) 54) (fun i _=>5-(intOf i).toNat)
 case atStart=>
  exact⟨0,by omega,rfl,av (av (av (ah _ _) _) _) _,((aH.new w (wD a.at (fun i=>IntKind.u64.wrap (a.at i+IntKind.u64.wrap (ou i-b.at i))) 0) _).alloc _).alloc _,(aH.newAt (w.alloc _) (wD b.at b.at 0) _ (by simp)).alloc _,⟨_,_,_,_,_,aH.newAt _ [.int .u64 0,.int .u64 0,.int .u64 0,.int .u64 0,.int .u64 0] _ (by simp)⟩⟩
 case round=>
  obtain⟨k,hk,rfl,hg,hBa,hBb,hR⟩:=hrel
  by_cases hlt:k<5
  .have c0:=hBa.cell (gZ a.at (fun i=>IntKind.u64.wrap (a.at i+IntKind.u64.wrap (ou i-b.at i))) k k hlt)
   have c1:=hBb.cell (gZ b.at b.at 0 k hlt)
   rw[if_neg (by omega)]at c0 c1
   have f0:=hBa.free k
   have ct:=(hT.grown hg).p k hlt
   have hf:=RQ k
   have hset:=hBa.set k (.int .u64 (IntKind.u64.wrap (a.at k+IntKind.u64.wrap (ou k-b.at k))))
   have Zh:=Lib.hid (Gw a.at (fun i=>IntKind.u64.wrap (a.at i+IntKind.u64.wrap (ou i-b.at i))) k hlt)
   have i0:(0:Int)<=(k:Int):=by omega
   have i1:(k:Int)<5:=by omega
   go_wp2
   go_region
   go_wp2
   go_roundw
   case rel=>exact⟨k+1,by omega,by go_num,aO (aX hg) (Nat.le_refl _) _,Zh.out▸hset,(hBb.drew).other (by simp) _,bS (hR.grown (aX (ah _ none)) (by simp)) (by simp) _⟩
   case measure=>simp[intOf];omega
  .obtain rfl:k=5:=by omega
   have c0:=hBa.cell (gZ a.at (fun i=>IntKind.u64.wrap (a.at i+IntKind.u64.wrap (ou i-b.at i))) 5 0 (by decide))
   have c1:=hBa.cell (gZ a.at (fun i=>IntKind.u64.wrap (a.at i+IntKind.u64.wrap (ou i-b.at i))) 5 1 (by decide))
   have c2:=hBa.cell (gZ a.at (fun i=>IntKind.u64.wrap (a.at i+IntKind.u64.wrap (ou i-b.at i))) 5 2 (by decide))
   have c3:=hBa.cell (gZ a.at (fun i=>IntKind.u64.wrap (a.at i+IntKind.u64.wrap (ou i-b.at i))) 5 3 (by decide))
   have c4:=hBa.cell (gZ a.at (fun i=>IntKind.u64.wrap (a.at i+IntKind.u64.wrap (ou i-b.at i))) 5 4 (by decide))
   rw[if_pos (by decide)]at c0 c1 c2 c3 c4
   clear hBa hBb
   clear hT
   go_wp2_with (go_at_call 131;refine (Ey _ _ _ _ _ _).mono ?_;rintro e w1 ⟨r,hr,rfl,hg1⟩;obtain⟨u0,u1,u2,u3,u4,kG⟩:=hR.grown hg1 (by simp);have z0:=kG.cell (i:=0) rfl;have z1:=kG.cell (i:=1) rfl;have z2:=kG.cell (i:=2) rfl;have z3:=kG.cell (i:=3) rfl;have z4:=kG.cell (i:=4) rfl;have y0:=kG.free 0;have y1:=kG.free 1;have y2:=kG.free 2;have y3:=kG.free 3;have y4:=kG.free 4)
   refine bodyPost_ret (v:=.agg #[.int .u64 r.x0,.int .u64 r.x1,.int .u64 r.x2,.int .u64 r.x3,.int .u64 r.x4]) ?_ rfl ⟨r,?_,rfl,?_⟩
   .simp[results,Tryz.results113,go_sem,z0,z1,z2,z3,z4]
   .have e:=hr.out
    rw[e]
    unfold Fe.iw
    exact Lib.hid rfl
   .exact jH (aj hg hg1) (by omega) _ _ _ _ _
set_option maxHeartbeats 400000 in
theorem Ez (a:Fe) (w:World) (hT:rM w) (ha:a.Ok):
  Calls Tryz.prog 79 #[.agg #[.int .u64 a.x0,.int .u64 a.x1,.int .u64 a.x2,.int .u64 a.x3,.int .u64 a.x4]] w (oq (Fe.kR a) w):=by
 have hg0:∀c0 c1,w.grownBy ((w.alloc c0).alloc c1) none:=fun c0 c1=>av (av (ah _ _) _) _
 have hz:Fe.Ok ⟨0,0,0,0,0⟩:=by constructor<;>decide
 go_enter Tryz.func79,Tryz.ntmps79
 go_wp2_with (go_at_call 113;refine (Mr ⟨0,0,0,0,0⟩ a _ (hT.grown (hg0 _ _)) hz ha).mono ?_;rintro e w1 ⟨r,hr,rfl,hg1⟩;have hg2:=aj (hg0 _ _) hg1;obtain⟨u0,u1,u2,u3,u4,kG⟩:fU w1 (w.heap.size+1) 54:=fU.grown ⟨_,_,_,_,_,aH.newAt _ [.int .u64 0,.int .u64 0,.int .u64 0,.int .u64 0,.int .u64 0] _ (by simp)⟩ hg1 (by simp);have z0:=kG.cell (i:=0) rfl;have z1:=kG.cell (i:=1) rfl;have z2:=kG.cell (i:=2) rfl;have z3:=kG.cell (i:=3) rfl;have z4:=kG.cell (i:=4) rfl;have y0:=kG.free 0;have y1:=kG.free 1;have y2:=kG.free 2;have y3:=kG.free 3;have y4:=kG.free 4)
 refine bodyPost_ret (v:=.agg #[.int .u64 r.x0,.int .u64 r.x1,.int .u64 r.x2,.int .u64 r.x3,.int .u64 r.x4]) ?_ rfl ⟨r,hr,rfl,jH hg2 (by omega) _ _ _ _ _⟩
 simp[results,Tryz.results79,go_sem,z0,z1,z2,z3,z4]
set_option maxHeartbeats 400000 in
theorem VB (w:World):Calls Tryz.prog 102 #[] w (oq Fe.dP w):=by
 go_enter Tryz.func102,Tryz.ntmps102
 go_wp2
 refine bodyPost_ret (v:=.agg #[.int .u64 1,.int .u64 0,.int .u64 0,.int .u64 0,.int .u64 0]) ?_ rfl ⟨Fe.dP,Lib.hid rfl,rfl,av (ah _ _) _⟩
 simp[results,Tryz.results102,go_sem]
end
section
open Go.RowKit
def ov (c:Fe):Nat->Int
 | 0=>19
 | 1=>Fe.yG c
 | 2=>Fe.Am c
 | 3=>Fe.Dt c
 | 4=>Fe.Gh c
 | _=>Fe.uJ c
theorem rE {c:Fe} (h:Fe.Low c) (k:Nat):0<=ov c k/\ov c k<=19:=by
 obtain⟨n0,n1,n2,n3,n4,l0,l1,l2,l3,l4⟩:=h
 match k with
 | 0=>simp[ov]
 | 1=>simp only[ov,Fe.yG];omega
 | 2=>simp only[ov,Fe.Am,Fe.yG];omega
 | 3=>simp only[ov,Fe.Dt,Fe.Am,Fe.yG];omega
 | 4=>simp only[ov,Fe.Gh,Fe.Dt,Fe.Am,Fe.yG];omega
 | n+5=>simp only[ov,Fe.uJ,Fe.Gh,Fe.Dt,Fe.Am,Fe.yG];omega
def xO (l0 l1 l2 l3 l4 x1 x2 x3 x4:Int):Nat->List Value
 | 0=>[.int .u64 l0,.int .u64 x1,.int .u64 x2,.int .u64 x3,.int .u64 x4]
 | 1=>[.int .u64 (l0%2251799813685248),.int .u64 l1,.int .u64 x2,.int .u64 x3,.int .u64 x4]
 | 2=>[.int .u64 (l0%2251799813685248),.int .u64 (l1%2251799813685248),.int .u64 l2,.int .u64 x3,.int .u64 x4]
 | 3=>[.int .u64 (l0%2251799813685248),.int .u64 (l1%2251799813685248),.int .u64 (l2%2251799813685248),.int .u64 l3,.int .u64 x4]
 | _=>[.int .u64 (l0%2251799813685248),.int .u64 (l1%2251799813685248),.int .u64 (l2%2251799813685248),.int .u64 (l3%2251799813685248),.int .u64 l4]
set_option maxHeartbeats 1600000 in
theorem OO (a:Fe) (w:World) (ha:a.Ok):
  Calls Tryz.prog 129 #[.agg #[.int .u64 a.x0,.int .u64 a.x1,.int .u64 a.x2,.int .u64 a.x3,.int .u64 a.x4]] w (oq (Fe.gK a) w):=by
 have hg0:∀c0 c1,w.grownBy ((w.alloc c0).alloc c1) none:=fun c0 c1=>av (av (ah _ _) _) _
 go_enter Tryz.func129,Tryz.ntmps129
 go_wp2_with (go_at_call 131;refine ((Gv a _ ha).mono fun _ _=>Ar).mono ?_;rintro e w1 ⟨c,hc,rfl,hg1⟩;have hg2:=aj (hg0 _ _) hg1;have kG:fU w1 (w.heap.size+1) 54:=fU.grown ⟨_,_,_,_,_,aH.newAt _ [.int .u64 0,.int .u64 0,.int .u64 0,.int .u64 0,.int .u64 0] _ (by simp)⟩ hg1 (by simp);have hA1:=aH.grown (aH.alloc (aH.new w [.int .u64 a.x0,.int .u64 a.x1,.int .u64 a.x2,.int .u64 a.x3,.int .u64 a.x4] 54) _) hg1 (by simp);have z0:=hA1.cell (i:=0) rfl;have z1:=hA1.cell (i:=1) rfl;have z2:=hA1.cell (i:=2) rfl;have z3:=hA1.cell (i:=3) rfl;have z4:=hA1.cell (i:=4) rfl;have y0:=hA1.free 0;have y1:=hA1.free 1;have y2:=hA1.free 2;have y3:=hA1.free 3;have y4:=hA1.free 4)
 have hA2:aH (((((w1.setCell ⟨w.heap.size,0,none⟩ (.int .u64 c.x0)).setCell ⟨w.heap.size,1,none⟩ (.int .u64 c.x1)).setCell ⟨w.heap.size,2,none⟩ (.int .u64 c.x2)).setCell ⟨w.heap.size,3,none⟩ (.int .u64 c.x3)).setCell ⟨w.heap.size,4,none⟩ (.int .u64 c.x4)) w.heap.size 54 [.int .u64 c.x0,.int .u64 c.x1,.int .u64 c.x2,.int .u64 c.x3,.int .u64 c.x4]:=fU.sK ⟨_,_,_,_,_,hA1⟩ _ _ _ _ _
 have hR2:fU (((((w1.setCell ⟨w.heap.size,0,none⟩ (.int .u64 c.x0)).setCell ⟨w.heap.size,1,none⟩ (.int .u64 c.x1)).setCell ⟨w.heap.size,2,none⟩ (.int .u64 c.x2)).setCell ⟨w.heap.size,3,none⟩ (.int .u64 c.x3)).setCell ⟨w.heap.size,4,none⟩ (.int .u64 c.x4)) (w.heap.size+1) 54:=bS (bS (bS (bS (bS kG (by simp) _) (by simp) _) (by simp) _) (by simp) _) (by simp) _
 have hg3:w.grownBy (((((w1.setCell ⟨w.heap.size,0,none⟩ (.int .u64 c.x0)).setCell ⟨w.heap.size,1,none⟩ (.int .u64 c.x1)).setCell ⟨w.heap.size,2,none⟩ (.int .u64 c.x2)).setCell ⟨w.heap.size,3,none⟩ (.int .u64 c.x3)).setCell ⟨w.heap.size,4,none⟩ (.int .u64 c.x4)) none:=jH hg2 (Nat.le_refl _) _ _ _ _ _
 revert hA2 hR2 hg3
 clear kG hA1 z0 z1 z2 z3 z4 y0 y1 y2 y3 y4 hg1 hg2
 generalize (((((w1.setCell ⟨w.heap.size,0,none⟩ (.int .u64 c.x0)).setCell ⟨w.heap.size,1,none⟩ (.int .u64 c.x1)).setCell ⟨w.heap.size,2,none⟩ (.int .u64 c.x2)).setCell ⟨w.heap.size,3,none⟩ (.int .u64 c.x3)).setCell ⟨w.heap.size,4,none⟩ (.int .u64 c.x4))=W2
 intro hA2 hR2 hg3
 have hlow:Fe.Low c:=by have e:=hc.out;rw[e];exact Fe.Oq ha
 have hcr:Fe.Low c:=hlow
 obtain⟨n0,n1,n2,n3,n4,m0,m1,m2,m3,m4⟩:=hcr
 go_loop [10,3] (fun i o=>∃k:Nat,k<=5/\i=.int .i64 k/\o=.int .u64 (ov c k)) (fun i _=>5-(intOf i).toNat)
 case atStart=>exact⟨0,by omega,rfl,rfl⟩
 case round=>
  obtain⟨k,hk,rfl,rfl⟩:=hrel
  rcases (show k=0\/k=1\/k=2\/k=3\/k=4\/k=5 by omega) with rfl|rfl|rfl|rfl|rfl|rfl
  .have b0:=(rE hlow 0).1
   have b1:=(rE hlow 0).2
   have e0:=Lib.hid (show ov c 1=(c.x0+ov c 0)/2251799813685248 from rfl)
   generalize ov c 0=o at *
   have i0:∀w,(Instr.index 54 (.agg #[.int .u64 c.x0,.int .u64 c.x1,.int .u64 c.x2,.int .u64 c.x3,.int .u64 c.x4]) (.int .i64 0)).run Tryz.prog w=.ok (.int .u64 c.x0) w:=fun _=>by kernel_rfl
   go_wp2
   go_round
   case rel=>exact⟨1,by omega,rfl,by rw[e0.out]⟩
   case measure=>simp[intOf]
  .have b0:=(rE hlow 1).1
   have b1:=(rE hlow 1).2
   have e0:=Lib.hid (show ov c 2=(c.x1+ov c 1)/2251799813685248 from rfl)
   generalize ov c 1=o at *
   have i0:∀w,(Instr.index 54 (.agg #[.int .u64 c.x0,.int .u64 c.x1,.int .u64 c.x2,.int .u64 c.x3,.int .u64 c.x4]) (.int .i64 1)).run Tryz.prog w=.ok (.int .u64 c.x1) w:=fun _=>by kernel_rfl
   go_wp2
   go_round
   case rel=>exact⟨2,by omega,rfl,by rw[e0.out]⟩
   case measure=>simp[intOf]
  .have b0:=(rE hlow 2).1
   have b1:=(rE hlow 2).2
   have e0:=Lib.hid (show ov c 3=(c.x2+ov c 2)/2251799813685248 from rfl)
   generalize ov c 2=o at *
   have i0:∀w,(Instr.index 54 (.agg #[.int .u64 c.x0,.int .u64 c.x1,.int .u64 c.x2,.int .u64 c.x3,.int .u64 c.x4]) (.int .i64 2)).run Tryz.prog w=.ok (.int .u64 c.x2) w:=fun _=>by kernel_rfl
   go_wp2
   go_round
   case rel=>exact⟨3,by omega,rfl,by rw[e0.out]⟩
   case measure=>simp[intOf]
  .have b0:=(rE hlow 3).1
   have b1:=(rE hlow 3).2
   have e0:=Lib.hid (show ov c 4=(c.x3+ov c 3)/2251799813685248 from rfl)
   generalize ov c 3=o at *
   have i0:∀w,(Instr.index 54 (.agg #[.int .u64 c.x0,.int .u64 c.x1,.int .u64 c.x2,.int .u64 c.x3,.int .u64 c.x4]) (.int .i64 3)).run Tryz.prog w=.ok (.int .u64 c.x3) w:=fun _=>by kernel_rfl
   go_wp2
   go_round
   case rel=>exact⟨4,by omega,rfl,by rw[e0.out]⟩
   case measure=>simp[intOf]
  .have b0:=(rE hlow 4).1
   have b1:=(rE hlow 4).2
   have e0:=Lib.hid (show ov c 5=(c.x4+ov c 4)/2251799813685248 from rfl)
   generalize ov c 4=o at *
   have i0:∀w,(Instr.index 54 (.agg #[.int .u64 c.x0,.int .u64 c.x1,.int .u64 c.x2,.int .u64 c.x3,.int .u64 c.x4]) (.int .i64 4)).run Tryz.prog w=.ok (.int .u64 c.x4) w:=fun _=>by kernel_rfl
   go_wp2
   go_round
   case rel=>exact⟨5,by omega,rfl,by rw[e0.out]⟩
   case measure=>simp[intOf]
  .have b0:=(rE hlow 5).1
   have b1:=(rE hlow 5).2
   have HO:Hid (ov c 5=Fe.uJ c):=Lib.hid rfl
   generalize ov c 5=o at *
   have z0:=hA2.cell (i:=0) rfl
   have y0:=hA2.free 0
   go_wp2
   have hA3:=hA2.set 0 (.int .u64 (c.x0+19*o))
   have Ms:=bS hR2 (p:=⟨w.heap.size,0,none⟩) (by simp) (.int .u64 (c.x0+19*o))
   have hg4:=aO hg3 (p:=⟨w.heap.size,0,none⟩) (Nat.le_refl _) (.int .u64 (c.x0+19*o))
   have q0:0<=c.x0+19*o/\c.x0+19*o<4503599627370496:=by omega
   have HL0:Hid (Fe.Ru c=c.x0+19*o):=Lib.hid (by unfold Fe.Ru;rw[<- HO.out])
   clear hA2 hR2 hg3 z0 y0
   revert hA3 Ms hg4
   generalize W2.setCell ⟨w.heap.size,0,none⟩ (.int .u64 (c.x0+19*o))=W3
   generalize c.x0+19*o=l0 at *
   obtain⟨q00,q01⟩:=q0
   intro hA3 Ms hg4
   obtain⟨l1,h1⟩:∃l,c.x1+l0/2251799813685248=l:=⟨_,rfl⟩
   have q10:0<=l1:=by omega
   have q11:l1<4503599627370496:=by omega
   have H1:=Lib.hid h1;clear h1
   obtain⟨l2,h2⟩:∃l,c.x2+l1/2251799813685248=l:=⟨_,rfl⟩
   have q20:0<=l2:=by omega
   have q21:l2<4503599627370496:=by omega
   have H2:=Lib.hid h2;clear h2
   obtain⟨l3,h3⟩:∃l,c.x3+l2/2251799813685248=l:=⟨_,rfl⟩
   have q30:0<=l3:=by omega
   have q31:l3<4503599627370496:=by omega
   have H3:=Lib.hid h3;clear h3
   obtain⟨l4,h4⟩:∃l,c.x4+l3/2251799813685248=l:=⟨_,rfl⟩
   have q40:0<=l4:=by omega
   have q41:l4<4503599627370496:=by omega
   have H4:=Lib.hid h4;clear h4
   go_loopw [24] (fun i wr=>∃k:Nat,k<=4/\i=.int .i64 k/\w.grownBy wr none/\aH wr w.heap.size 54 (xO l0 l1 l2 l3 l4 c.x1 c.x2 c.x3 c.x4 k)/\fU wr (w.heap.size+1) 54) (fun i _=>4-(intOf i).toNat)
   case atStart=>exact⟨0,by omega,rfl,hg4,hA3,Ms⟩
   case round=>
    obtain⟨k,hk,rfl,hg,hA,hR⟩:=hrel
    clear hA3 Ms hg4
    rcases (show k=0\/k=1\/k=2\/k=3\/k=4 by omega) with rfl|rfl|rfl|rfl|rfl
    .have hB:=hA
     unfold xO at hB
     have z0:=hB.cell (i:=0) rfl
     have z1:=hB.cell (i:=1) rfl
     have f0:=hB.free 0
     have f1:=hB.free 1
     go_wp2
     go_region
     go_wp2
     rw[mX l0 (by omega) (by omega),H1.out]
     go_roundw
     case rel=>exact⟨1,by omega,rfl,aO (aO (aX hg) (Nat.le_refl _) _) (Nat.le_refl _) _,((hB.drew).set 1 (.int .u64 l1)).set 0 (.int .u64 (l0%2251799813685248)),bS (bS (hR.grown (aX (ah _ none)) (by simp)) (by simp) _) (by simp) _⟩
     case measure=>simp[intOf]
    .have hB:=hA
     unfold xO at hB
     have z0:=hB.cell (i:=1) rfl
     have z1:=hB.cell (i:=2) rfl
     have f0:=hB.free 1
     have f1:=hB.free 2
     go_wp2
     go_region
     go_wp2
     rw[mX l1 (by omega) (by omega),H2.out]
     go_roundw
     case rel=>exact⟨2,by omega,rfl,aO (aO (aX hg) (Nat.le_refl _) _) (Nat.le_refl _) _,((hB.drew).set 2 (.int .u64 l2)).set 1 (.int .u64 (l1%2251799813685248)),bS (bS (hR.grown (aX (ah _ none)) (by simp)) (by simp) _) (by simp) _⟩
     case measure=>simp[intOf]
    .have hB:=hA
     unfold xO at hB
     have z0:=hB.cell (i:=2) rfl
     have z1:=hB.cell (i:=3) rfl
     have f0:=hB.free 2
     have f1:=hB.free 3
     go_wp2
     go_region
     go_wp2
     rw[mX l2 (by omega) (by omega),H3.out]
     go_roundw
     case rel=>exact⟨3,by omega,rfl,aO (aO (aX hg) (Nat.le_refl _) _) (Nat.le_refl _) _,((hB.drew).set 3 (.int .u64 l3)).set 2 (.int .u64 (l2%2251799813685248)),bS (bS (hR.grown (aX (ah _ none)) (by simp)) (by simp) _) (by simp) _⟩
     case measure=>simp[intOf]
    .have hB:=hA
     unfold xO at hB
     have z0:=hB.cell (i:=3) rfl
     have z1:=hB.cell (i:=4) rfl
     have f0:=hB.free 3
     have f1:=hB.free 4
     go_wp2
     go_region
     go_wp2
     rw[mX l3 (by omega) (by omega),H4.out]
     go_roundw
     case rel=>exact⟨4,by omega,rfl,aO (aO (aX hg) (Nat.le_refl _) _) (Nat.le_refl _) _,((hB.drew).set 4 (.int .u64 l4)).set 3 (.int .u64 (l3%2251799813685248)),bS (bS (hR.grown (aX (ah _ none)) (by simp)) (by simp) _) (by simp) _⟩
     case measure=>simp[intOf]
    .have hB:=hA
     unfold xO at hB
     have z0:=hB.cell (i:=0) rfl
     have z1:=hB.cell (i:=1) rfl
     have z2:=hB.cell (i:=2) rfl
     have z3:=hB.cell (i:=3) rfl
     have z4:=hB.cell (i:=4) rfl
     have y4:=hB.free 4
     obtain⟨u0,u1,u2,u3,u4,kG⟩:=hR
     have t0:=kG.cell (i:=0) rfl
     have t1:=kG.cell (i:=1) rfl
     have t2:=kG.cell (i:=2) rfl
     have t3:=kG.cell (i:=3) rfl
     have t4:=kG.cell (i:=4) rfl
     have v0:=kG.free 0
     have v1:=kG.free 1
     have v2:=kG.free 2
     have v3:=kG.free 3
     have v4:=kG.free 4
     go_wp2
     rw[mX l4 (by omega) (by omega)]
     refine bodyPost_ret (v:=.agg #[.int .u64 (l0%2251799813685248),.int .u64 (l1%2251799813685248),.int .u64 (l2%2251799813685248),.int .u64 (l3%2251799813685248),.int .u64 (l4%2251799813685248)]) ?_ rfl ⟨⟨l0%2251799813685248,l1%2251799813685248,l2%2251799813685248,l3%2251799813685248,l4%2251799813685248⟩,Lib.hid ?_,rfl,jH (aO hg (Nat.le_refl _) _) (by omega) _ _ _ _ _⟩
     .simp[results,Tryz.results129,go_sem,t0,t1,t2,t3,t4]
     .have e:=hc.out
      have e1:Fe.Rv c=l1:=by unfold Fe.Rv;rw[HL0.out,H1.out]
      have e2:Fe.Rw c=l2:=by unfold Fe.Rw;rw[e1,H2.out]
      have e3:Fe.Rx c=l3:=by unfold Fe.Rx;rw[e2,H3.out]
      have e4:Fe.Vm c=l4:=by unfold Fe.Vm;rw[e3,H4.out]
      rw[<- Fe.Gi,<- e,Fe.Ry hlow,HL0.out,e1,e2,e3,e4]
end
section
open Go.RowKit
def rO (x:Int) (i:Nat):Value:=.int .u8 (x/2^(8*i)%256)
set_option maxHeartbeats 400000 in
theorem o9 (B off n c:Nat) (T:TypeId) (L:List Value) (x:Int) (w:World) (hn:8<=n) (hL:off+8<=L.length) (hb:aH w B T L):
  Calls Tryz.prog 130 #[.slice (some ⟨B,off,none⟩) n c,.int .u64 x] w fun e w'=>e=.returned (.tuple #[])/\w.grownBy w' (some B)/\aH w' B T (oV L off (rO x) 8):=by
 go_enter Tryz.func130,Tryz.ntmps130
 go_wp2
 go_loopw [5] (fun i wr=>∃k:Nat,k<=8/\i=.int .i64 k/\w.grownBy wr (some B)/\aH wr B T (oV L off (rO x) k)) (fun i _=>8-(intOf i).toNat)
 case atStart=>exact⟨0,by omega,rfl,ah _ _,hb⟩
 case round=>
  obtain⟨k,hk,rfl,hg,hB⟩:=hrel
  by_cases hlt:k<8
  .have hi:(k:Int)<(n:Int):=by omega
   have hs:0<=8*(k:Int):=by omega
   have hs2:8*(k:Int)<64:=by omega
   have hfr:=hB.free (off+k)
   obtain⟨v0,hv0⟩:∃v,wr.cell? ⟨B,off+k,none⟩=some v:=⟨_,hB.cell (List.getElem?_eq_getElem (by rw[fT];omega))⟩
   go_wp2
   go_roundw
   case rel=>exact⟨k+1,by omega,by go_num,aJ hg _ _,hB.set _ _⟩
   case measure=>simp[intOf];omega
  .obtain rfl:k=8:=by omega
   go_wp2
   go_end0
   exact⟨rfl,hg,hB⟩
def aU (f:Nat->Int):Nat->Int
 | 0=>0
 | k+1=>aU f k+f k*2^(8*k)
theorem Ay {a b:Nat} (h:a<=b):(2:Int)^a<=2^b:=by
 have h1:=Int.ofNat_le.2 (Nat.pow_le_pow_right (n:=2) (by decide) h)
 simpa[Int.natCast_pow] using h1
theorem gM (f:Nat->Int) (hf:∀i,0<=f i/\f i<256) (k:Nat):0<=aU f k/\aU f k<2^(8*k):=by
 induction k with
 | zero=>simp[aU]
 | succ k ih=>
  have h:=hf k
  have e:(2:Int)^(8*(k+1))=256*2^(8*k):=by rw[show 8*(k+1)=8*k+8 by omega,Int.pow_add];omega
  rw[aU,e]
  generalize (2:Int)^(8*k)=p at *
  have h1:f k*p<=255*p:=Int.mul_le_mul_of_nonneg_right (by omega) (by omega)
  have h2:0<=f k*p:=Int.mul_nonneg h.1 (by omega)
  omega
theorem RS (a b:Int) (s:Nat) (h0:0<=a) (h1:a<2^s) (h2:a<18446744073709551616) (k0:0<=b) (k1:b*2^s<18446744073709551616):bits .or .u64 a (b*2^s)=a+b*2^s:=by
 obtain⟨a,rfl⟩:=Int.eq_ofNat_of_zero_le h0
 obtain⟨b,rfl⟩:=Int.eq_ofNat_of_zero_le k0
 have e:(b:Int)*2^s=((2^s*b:Nat):Int):=by rw[Int.natCast_mul,Int.natCast_pow,Int.mul_comm];rfl
 have ha:a<2^s:=by
  have:((2^s:Nat):Int)=(2:Int)^s:=by rw[Int.natCast_pow];rfl
  omega
 rw[e]at k1 ⊢
 rw[u64_or_nat _ _ (by omega) (by omega),Nat.or_comm,<- Nat.two_pow_add_eq_or_of_lt ha]
 omega
set_option maxHeartbeats 400000 in
theorem Gx (B off n c:Nat) (f:Nat->Int) (w:World) (hn:8<=n) (hf:∀i,0<=f i/\f i<256) (hc:∀i,i<8->w.cell? ⟨B,off+i,none⟩=some (.int .u8 (f i))):
  Calls Tryz.prog 148 #[.slice (some ⟨B,off,none⟩) n c] w fun e w'=>e=.returned (.int .u64 (aU f 8))/\w=w':=by
 go_enter Tryz.func148,Tryz.ntmps148
 go_wp2
 go_loop [3,5] (fun v i=>∃k:Nat,k<=8/\i=.int .i64 k/\v=.int .u64 (aU f k)) (fun _ i=>8-(intOf i).toNat)
 case atStart=>exact⟨0,by omega,rfl,rfl⟩
 case round=>
  obtain⟨k,hk,rfl,rfl⟩:=hrel
  by_cases hlt:k<8
  .have hi:(k:Int)<(n:Int):=by omega
   have hs:0<=8*(k:Int):=by omega
   have hs2:8*(k:Int)<64:=by omega
   have c0:=hc k hlt
   have b0:=(hf k).1
   have b1:=(hf k).2
   have Hw:Hid (bits .or .u64 (aU f k) (IntKind.u64.wrap (f k*2^(8*k)))=aU f (k+1)):=by
    apply Lib.hid
    have hb:=gM f hf k
    have hb1:=gM f hf (k+1)
    have hp:(2:Int)^(8*(k+1))<=2^64:=Ay (by omega)
    have hp2:(2:Int)^(8*k)<=2^64:=Ay (by omega)
    have h64:(2:Int)^64=18446744073709551616:=by decide
    have hm:0<=f k*2^(8*k):=Int.mul_nonneg b0 (by omega)
    rw[aU]at hb1
    rw[iB,Fe.kJ hm (by omega),aU]
    exact RS _ _ _ hb.1 hb.2 (by omega) b0 (by omega)
   go_wp2
   go_round
   case rel=>exact⟨k+1,by omega,by go_num,by rw[Hw.out]⟩
   case measure=>simp[intOf];omega
  .obtain rfl:k=8:=by omega
   go_wp2
   go_ret
   exact⟨rfl,rfl⟩
theorem uY (a b:Int) (s:Nat) (p q:Int) (hp:(2:Int)^s=p) (hq:p*q=18446744073709551616) (h0:0<=a) (h1:a<p) (hq0:0<q):bits .or .u64 a (IntKind.u64.wrap (b*p))=a+(b%q)*p:=by
 have hp0:0<p:=by omega
 have hpp:p<=18446744073709551616:=by
  have:p*1<=p*q:=Int.mul_le_mul_of_nonneg_left (by omega) (by omega)
  omega
 have e:IntKind.u64.wrap (b*p)=(b%q)*2^s:=by
  rw[iB,hp]
  unfold Fe.dH
  rw[<- hq,Int.mul_comm b p,Int.mul_comm (b%q) p,Int.mul_emod_mul_of_pos _ _ hp0]
 have hb0:0<=b%q:=Int.emod_nonneg _ (by omega)
 have hb1:b%q<q:=Int.emod_lt_of_pos _ hq0
 have hb2:(b%q)*p<18446744073709551616:=by
  have h:(b%q)*p<=(q-1)*p:=Int.mul_le_mul_of_nonneg_right (by omega) (by omega)
  have e2:(q-1)*p=18446744073709551616-p:=by rw[Int.sub_mul,Int.mul_comm q p,hq,Int.one_mul]
  omega
 rw[e,RS a _ s h0 (by rw[hp];exact h1) (by omega) hb0 (by rw[hp];exact hb2),hp]
def dh (x:Int):List Value:=(List.range 32).map (rO x)
theorem tT (x:Int) (k i:Nat) (h:i<8):rO (x/2^(64*k)%18446744073709551616) i=rO x (8*k+i):=by
 unfold rO
 have e:x/2^(8*(8*k+i))=x/2^(64*k)/2^(8*i):=by
  rw[show 8*(8*k+i)=64*k+8*i by omega,Int.pow_add,Int.ediv_ediv_of_nonneg (Int.le_of_lt (Int.pow_pos (by decide)))]
 rw[e]
 generalize x/2^(64*k)=y
 congr 1
 obtain rfl|rfl|rfl|rfl|rfl|rfl|rfl|rfl:i=0\/i=1\/i=2\/i=3\/i=4\/i=5\/i=6\/i=7:=by omega
 all_goals simp only[Nat.mul_zero,Nat.mul_one,Int.reducePow,Nat.reduceMul];omega
def lZ:List Value:=List.replicate 32 (.int .u8 0)
theorem Kt (x:Int):oV (oV (oV (oV lZ 0 (rO (x/2^(64*0)%18446744073709551616)) 8) 8 (rO (x/2^(64*1)%18446744073709551616)) 8) 16 (rO (x/2^(64*2)%18446744073709551616)) 8) 24 (rO (x/2^(64*3)%18446744073709551616)) 8=dh x:=by
 apply List.ext_getElem?
 intro i
 have l0:lZ.length=32:=rfl
 rw[su _ _ _ _ _ (by simp only[fT,l0];omega),su _ _ _ _ _ (by simp only[fT,l0];omega),su _ _ _ _ _ (by simp only[fT,l0];omega),su _ _ _ _ _ (by rw[l0];omega)]
 by_cases h:i<32
 .have e:(dh x)[i]?=some (rO x i):=by unfold dh;rw[List.getElem?_map,List.getElem?_range h];rfl
  rw[e]
  by_cases h3:24<=i
  .rw[if_pos (by omega),tT x 3 (i-24) (by omega),show 8*3+(i-24)=i by omega]
  .rw[if_neg (by omega)]
   by_cases h2:16<=i
   .rw[if_pos (by omega),tT x 2 (i-16) (by omega),show 8*2+(i-16)=i by omega]
   .rw[if_neg (by omega)]
    by_cases h1:8<=i
    .rw[if_pos (by omega),tT x 1 (i-8) (by omega),show 8*1+(i-8)=i by omega]
    .rw[if_neg (by omega),if_pos (by omega),tT x 0 (i-0) (by omega),show 8*0+(i-0)=i by omega]
 .rw[if_neg (by omega),if_neg (by omega),if_neg (by omega),if_neg (by omega),List.getElem?_eq_none (by rw[l0];omega),List.getElem?_eq_none (by simp[dh];omega)]
theorem OP (a:Fe):0<=(Fe.m a:Int)/\(Fe.m a:Int)<57896044618658097711785492504343953926634992332820282019728792003956564819949:=by
 have:=Fe.xM a
 unfold Fe.P at this
 omega
theorem Gy (a:Fe):
  (Fe.gK a).x0+(Fe.gK a).x1%8192*2251799813685248=(Fe.m a:Int)/2^(64*0)%18446744073709551616/\
  (Fe.gK a).x1/8192+(Fe.gK a).x2%67108864*274877906944=(Fe.m a:Int)/2^(64*1)%18446744073709551616/\
  (Fe.gK a).x2/67108864+(Fe.gK a).x3%549755813888*33554432=(Fe.m a:Int)/2^(64*2)%18446744073709551616/\
  (Fe.gK a).x3/549755813888+(Fe.gK a).x4%4503599627370496*4096=(Fe.m a:Int)/2^(64*3)%18446744073709551616:=by
 have hl:=OP a
 unfold Fe.gK
 generalize (Fe.m a:Int)=x at *
 have e2:x/5070602400912917605986812821504=x/2251799813685248/2251799813685248:=by rw[Int.ediv_ediv_of_nonneg (by decide)];rfl
 have e3:x/11417981541647679048466287755595961091061972992=x/2251799813685248/2251799813685248/2251799813685248:=by rw[Int.ediv_ediv_of_nonneg (by decide),Int.ediv_ediv_of_nonneg (by decide)];rfl
 have e4:x/25711008708143844408671393477458601640355247900524685364822016=x/2251799813685248/2251799813685248/2251799813685248/2251799813685248:=by rw[Int.ediv_ediv_of_nonneg (by decide),Int.ediv_ediv_of_nonneg (by decide),Int.ediv_ediv_of_nonneg (by decide)];rfl
 rw[e2,e3,e4]
 have p1:(2:Int)^(64*1)=18446744073709551616:=by decide
 have p2:(2:Int)^(64*2)=340282366920938463463374607431768211456:=by decide
 have p3:(2:Int)^(64*3)=6277101735386680763835789423207666416102355444464034512896:=by decide
 rw[p1,p2,p3]
 obtain⟨d0,q1,b0,b0',f0⟩:∃d q:Int,0<=d/\d<2251799813685248/\x=2251799813685248*q+d:=⟨x%2251799813685248,x/2251799813685248,by omega,by omega,by omega⟩
 obtain⟨d1,q2,b1,b1',f1⟩:∃d q:Int,0<=d/\d<2251799813685248/\q1=2251799813685248*q+d:=⟨q1%2251799813685248,q1/2251799813685248,by omega,by omega,by omega⟩
 obtain⟨d2,q3,b2,b2',f2⟩:∃d q:Int,0<=d/\d<2251799813685248/\q2=2251799813685248*q+d:=⟨q2%2251799813685248,q2/2251799813685248,by omega,by omega,by omega⟩
 obtain⟨d3,q4,b3,b3',f3⟩:∃d q:Int,0<=d/\d<2251799813685248/\q3=2251799813685248*q+d:=⟨q3%2251799813685248,q3/2251799813685248,by omega,by omega,by omega⟩
 have g1:x/2251799813685248=q1:=by omega
 have g2:q1/2251799813685248=q2:=by omega
 have g3:q2/2251799813685248=q3:=by omega
 have g4:q3/2251799813685248=q4:=by omega
 have m0:x%2251799813685248=d0:=by omega
 have m1:q1%2251799813685248=d1:=by omega
 have m2:q2%2251799813685248=d2:=by omega
 have m3:q3%2251799813685248=d3:=by omega
 simp only[g1,g2,g3,g4,m0,m1,m2,m3]
 have b4:0<=q4:=by omega
 have b4':q4<2251799813685248:=by omega
 have m4:q4%2251799813685248=q4:=by omega
 rw[m4]
 have w1:x/18446744073709551616=d1/8192+274877906944*q2:=by omega
 have w2:x/340282366920938463463374607431768211456=d2/67108864+33554432*q3:=by omega
 have w3:x/6277101735386680763835789423207666416102355444464034512896=d3/549755813888+4096*q4:=by omega
 rw[w1,w2,w3]
 refine⟨?_,?_,?_,?_⟩<;>omega
end
end Go.Proofs.YtmijliomjpphkaaGreatDoor
