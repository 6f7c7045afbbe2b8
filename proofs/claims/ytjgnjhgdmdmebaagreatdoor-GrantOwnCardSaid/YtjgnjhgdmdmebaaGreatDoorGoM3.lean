/- texts merged -/
import Derived.Test.YtjgnjhgdmdmebaaGreatDoorGoM2
import Derived.Test.YtjgnjhgdmdmebaaGreatDoorGoM1
import Derived.Shelf.Bytes.SlEqualAll
import Derived.WalkKit
import Derived.WalkSpells
import Derived.WalkLawsBesides
import Derived.Lib.Hide
import Derived.Lib.SliceRun
import Derived.Outline
import Derived.BigQuiet
import Derived.Deep.QuietTactic
import Derived.BigRegion
import Derived.RegionTactic
import Derived.Deep.RegionWith
import Derived.RangeFuncNested
import Derived.RangeFuncBound
import Derived.RangeFuncCalls
import Derived.RangeFuncLeaves
import Derived.RangeFuncBox
import Derived.Shelf.Abstract
import Derived.Shelf.RegionOpen
import Derived.OwnWalkIn
import Derived.TacticsInMore
import Derived.LoopNIn
import Derived.LoopIn
namespace Go.Proofs.YtjgnjhgdmdmebaaGreatDoor
section
open Go.RowKit Ed
def jF (y:Fe) (odd:Bool):Fe×Bool:=
 if (fT (Fe.gZ (Fe.cZ y) Fe.dQ) (Fe.fD (Fe.aM dF (Fe.cZ y)) Fe.dQ)).2=false then ((fT (Fe.gZ (Fe.cZ y) Fe.dQ) (Fe.fD (Fe.aM dF (Fe.cZ y)) Fe.dQ)).1,false)
 else if odd=false then ((fT (Fe.gZ (Fe.cZ y) Fe.dQ) (Fe.fD (Fe.aM dF (Fe.cZ y)) Fe.dQ)).1,true)
 else if Fe.m (fT (Fe.gZ (Fe.cZ y) Fe.dQ) (Fe.fD (Fe.aM dF (Fe.cZ y)) Fe.dQ)).1=0 then (Fe.bL,false)
 else (Fe.kL (fT (Fe.gZ (Fe.cZ y) Fe.dQ) (Fe.fD (Fe.aM dF (Fe.cZ y)) Fe.dQ)).1,true)
def ZW (r:Fe) (b odd:Bool):Fe×Bool:=if b=false then (r,false) else if odd=false then (r,true) else if Fe.m r=0 then (Fe.bL,false) else (Fe.kL r,true)
theorem aa6 {r:Fe} (h:Fe.m r=0):ZW r true true=(Fe.bL,false):=by simp[ZW,h]
theorem aa7 {r:Fe} (h:¬Fe.m r=0):ZW r true true=(Fe.kL r,true):=by simp[ZW,h]
set_option maxRecDepth 100000 in
set_option maxHeartbeats 3200000 in
theorem Kc (y:Fe) (odd:Bool) (w0:World) (HT0:dH w0) (ZX:y.Ok) (r:Fe) (b:Bool) (ZY:r.Ok) (hr:fT (Fe.gZ (Fe.cZ y) Fe.dQ) (Fe.fD (Fe.aM dF (Fe.cZ y)) Fe.dQ)=(r,b)):
  Calls Tryz.prog 143 #[y.v,.bool odd] w0 fun e w'=>e=.returned (.tuple #[(ZW r b odd).1.v,.bool (ZW r b odd).2])/\w0.grownBy w' none:=by
 show Calls Tryz.prog 143 #[.agg (aR y).toArray,.bool odd] w0 _
 go_enter Tryz.func143,Tryz.ntmps143
 go_upto_region 1 with (fail)
 have G:w0.grownBy ((w0.alloc (.cells (aR y).toArray 66)).alloc (.cells gT.toArray 66)) none:=au (au (ah _ _) _) _
 have HT:dH ((w0.alloc (.cells (aR y).toArray 66)).alloc (.cells gT.toArray 66)):=HT0.grown (au (au (ah _ _) _) _)
 have hY:aF ((w0.alloc (.cells (aR y).toArray 66)).alloc (.cells gT.toArray 66)) (w0.heap.size) 66 (aR y):=(aF.new w0 (aR y) _).alloc _
 have hR:aF ((w0.alloc (.cells (aR y).toArray 66)).alloc (.cells gT.toArray 66)) (w0.heap.size+1) 66 gT:=aF.newAt (w0.alloc _) gT _ (by simp)
 revert G HT hY hR
 generalize (w0.alloc (.cells (aR y).toArray 66)).alloc (.cells gT.toArray 66)=W0
 intro G HT hY hR
 have Gs:=G.size
 have lC:=G.size
 have akQ:=hY.lt
 have lq:=hR.lt
 refine Fg.rP [6] [.any,.any,.any,.any,.any,.any,.fresh 66 gT W0.heap.size,.any,.any,.val (y.v),.val ((Fe.cZ y).v)] 3 ?_ ?_
 .refine Fg.vS rfl (by decide) (fun _ _ h=>Fg.vn y.v (Fg.run_load rfl (h.r 2) ((hY.gn h.base).range 0 (aR y) rfl) Tryz.underlying66 rfl aD)) ?_
  refine Fg.cS rfl (by decide) (fun _ w h=>Fg.cq rfl (Vi ZX) ⟨h.d 9,trivial⟩ Tryz.func105) ?_
  refine⟨⟨⟨_,rfl⟩,Fg.gD (fun _ _ h k=>aj h k) rfl (by show 6<36;decide) fun ac w h=>?_⟩,?_⟩
  .refine⟨aB rfl,w.alloc (.cells gT.toArray 66),?_,World.grownBy_alloc _ _ _,by simp,⟨w.heap.size,rfl,h.base.size,aF.new w gT _⟩⟩
   clear h
   go_simp
  trivial
 .intro qa V1 g1 hsz hdf hrest aC hpt
  obtain⟨N6,hs6,Og,hb6⟩:∃N,qa.tmps.getD 6 undef=.pointer (some ⟨N,0,none⟩)/\W0.heap.size<=N/\aF V1 N 66 gT:=aC 6 (by kernel_rfl)
  obtain⟨u9,jA⟩:=Fg.bP qa 9
  obtain⟨x1,hx1⟩:∃x:Fe,x=Fe.cZ y:=⟨_,rfl⟩
  obtain rfl:=Fg.aP [6,9,10] (vs:=[_,_,_,_,_,_,Value.pointer (some ⟨N6,0,none⟩),_,_,u9,x1.v,_,_,_,_,_,_,_,_,_,_,_,_,_,_,_,_,_,_,_,_,_,_,_,_,_]) hsz hrest (by kernel_rfl) rfl rfl ⟨hs6,jA,(show qa.tmps.getD 10 undef=x1.v by rw[hx1];exact aC 10 (by kernel_rfl)),trivial⟩ hdf
  clear hsz hdf hrest aC hpt hs6 jA
  have mU:=Lib.hid hx1;clear hx1
  replace hY:=hY.gn g1
  replace hR:=hR.gn g1
  replace G:=aj G g1
  replace HT:=HT.grown g1
  have mg:x1.Ok:=by rw[mU.out];exact (Fe.dR _).ok
  have Di:w0.heap.size<=N6:=Nat.le_trans lC Og
  clear g1
  refine Fg.aU rfl rfl (Fg.run_store (cs:=aR x1) rfl rfl rfl (hb6.there 0 5 (by show 0+5<=5;decide)) aD (dn _)) ?_
  replace hY:=hY.ak (C:=N6) (cs:=aR x1) 0 (by omega)
  replace hR:=hR.ak (C:=N6) (cs:=aR x1) 0 (by omega)
  replace hb6:aF (V1.setCells N6 0 (aR x1)) N6 66 (aR x1):=hb6.bG rfl
  replace G:=aH (cs:=aR x1) G (B:=N6) (Di) 0
  replace HT:=HT.keep (aK (cs:=aR x1) (ah _ (some N6)) 0) (HT0.jS (Di))
  revert hY hR hb6 G HT
  generalize V1.setCells N6 0 (aR x1)=W2
  intro hY hR hb6 G HT
  go_upto_region 2 with (fail)
  have vU:=G.size
  have akR:=hY.lt
  have qI:=hR.lt
  have Gc:=hb6.lt
  have HOV:∀it∈([.any,.any,.any,.any,.any,.any,.any,.room 66 5 W2.heap.size,.val (Value.bool b),.any,.any,.val (Value.tuple #[r.v,.bool b]),.val (x1.v),.val (Fe.dQ.v),.val ((Fe.gZ x1 Fe.dQ).v),.val (dF.v),.val (x1.v),.val ((Fe.aM dF x1).v),.val (Fe.dQ.v),.val ((Fe.fD (Fe.aM dF x1) Fe.dQ).v),.val (Value.tuple #[r.v,.bool b]),.val (r.v),.val (Value.bool b)]:List Fg.It),it.Over:=by
   intro it hit
   simp only[List.mem_cons,List.not_mem_nil,or_false]at hit
   rcases hit with rfl|rfl|rfl|rfl|rfl|rfl|rfl|rfl|rfl|rfl|rfl|rfl|rfl|rfl|rfl|rfl|rfl|rfl|rfl|rfl|rfl|rfl|rfl
   all_goals first|exact Fg.Qo|exact Fg.Qp _|exact Fg.NA _ _ _
  refine zo (Fg.its [.any,.any,.any,.any,.any,.any,.any,.room 66 5 W2.heap.size,.val (Value.bool b),.any,.any,.val (Value.tuple #[r.v,.bool b]),.val (x1.v),.val (Fe.dQ.v),.val ((Fe.gZ x1 Fe.dQ).v),.val (dF.v),.val (x1.v),.val ((Fe.aM dF x1).v),.val (Fe.dQ.v),.val ((Fe.fD (Fe.aM dF x1) Fe.dQ).v),.val (Value.tuple #[r.v,.bool b]),.val (r.v),.val (Value.bool b)]) (fun _=>7) (Fg.wu 66 (aR r)) (fun w=>World.grownBy W2 w none) [7] (by kernel_rfl) (by kernel_rfl) (by kernel_rfl) (aX (ah _ _)) (Fg.nP (by kernel_rfl)) (by kernel_rfl) ?_ ?_
  .refine⟨Fg.vg rfl (by decide) fun ac w h=>?_,?_⟩
   .have e6:_=Value.pointer (some ⟨N6,0,none⟩):=h.r 6
    exact Fg.vn x1.v (Fg.run_load rfl e6 ((hb6.gn h.base).range 0 (aR x1) rfl) Tryz.underlying66 rfl aD)
   refine⟨Fg.CV rfl (by decide) fun ac w h=>?_,?_⟩
   .refine⟨aB rfl,97,#[],Fg.aN rfl rfl (by simp) (Fg.aI Tryz.func97 (by kernel_rfl) (by kernel_rfl)),?_⟩
    exact (Dh).mono fun _ _ ⟨he,hg⟩=>⟨_,he,hg,rfl⟩
   refine⟨Fg.CV rfl (by decide) fun ac w h=>?_,?_⟩
   .have e12:_=x1.v:=h.d 12
    have e13:_=Fe.dQ.v:=h.d 13
    refine⟨aB rfl,127,#[x1.v,Fe.dQ.v],Fg.aN rfl rfl (by simp only[List.map_toArray,List.map_cons,List.map_nil,Act.eval,e12,e13]) (Fg.aI Tryz.func127 (by kernel_rfl) (by kernel_rfl)),?_⟩
    exact (Av (HT.f.grown h.base) mg Rk).mono fun _ _ ⟨he,hg⟩=>⟨_,he,hg,rfl⟩
   refine⟨Fg.vg rfl (by decide) fun ac w h=>?_,?_⟩
   .exact Fg.vn dF.v (Fg.run_load rfl rfl (HT.grown h.base).d Tryz.underlying66 rfl aD)
   refine⟨Fg.vg rfl (by decide) fun ac w h=>?_,?_⟩
   .have e6:_=Value.pointer (some ⟨N6,0,none⟩):=h.r 6
    exact Fg.vn x1.v (Fg.run_load rfl e6 ((hb6.gn h.base).range 0 (aR x1) rfl) Tryz.underlying66 rfl aD)
   refine⟨Fg.CV rfl (by decide) fun ac w h=>?_,?_⟩
   .have e15:_=dF.v:=h.d 15
    have e16:_=x1.v:=h.d 16
    refine⟨aB rfl,82,#[dF.v,x1.v],Fg.aN rfl rfl (by simp only[List.map_toArray,List.map_cons,List.map_nil,Act.eval,e15,e16]) (Fg.aI Tryz.func82 (by kernel_rfl) (by kernel_rfl)),?_⟩
    exact (jg wN.ok mg).mono fun _ _ ⟨he,hg⟩=>⟨_,he,hg,rfl⟩
   refine⟨Fg.CV rfl (by decide) fun ac w h=>?_,?_⟩
   .refine⟨aB rfl,97,#[],Fg.aN rfl rfl (by simp) (Fg.aI Tryz.func97 (by kernel_rfl) (by kernel_rfl)),?_⟩
    exact (Dh).mono fun _ _ ⟨he,hg⟩=>⟨_,he,hg,rfl⟩
   refine⟨Fg.CV rfl (by decide) fun ac w h=>?_,?_⟩
   .have e17:_=(Fe.aM dF x1).v:=h.d 17
    have e18:_=Fe.dQ.v:=h.d 18
    refine⟨aB rfl,129,#[(Fe.aM dF x1).v,Fe.dQ.v],Fg.aN rfl rfl (by simp only[List.map_toArray,List.map_cons,List.map_nil,Act.eval,e17,e18]) (Fg.aI Tryz.func129 (by kernel_rfl) (by kernel_rfl)),?_⟩
    exact (uV (Fe.mul_right _ _).ok Rk).mono fun _ _ ⟨he,hg⟩=>⟨_,he,hg,rfl⟩
   refine⟨Fg.CV rfl (by decide) fun ac w h=>?_,?_⟩
   .have e14:_=(Fe.gZ x1 Fe.dQ).v:=h.d 14
    have e19:_=(Fe.fD (Fe.aM dF x1) Fe.dQ).v:=h.d 19
    refine⟨aB rfl,153,#[(Fe.gZ x1 Fe.dQ).v,(Fe.fD (Fe.aM dF x1) Fe.dQ).v],Fg.aN rfl rfl (by simp only[List.map_toArray,List.map_cons,List.map_nil,Act.eval,e14,e19]) (Fg.aI Tryz.func153 (by kernel_rfl) (by kernel_rfl)),?_⟩
    exact (Yn (HT.f.grown h.base) (Fe.fO _ _).ok (Fe.dK _ _).ok (by rw[mU.out];exact hr)).mono fun _ _ ⟨he,hg⟩=>⟨_,he,hg,rfl⟩
   refine⟨Fg.vg rfl (by decide) fun ac w h=>?_,?_⟩
   .have e20:_=Value.tuple #[r.v,.bool b]:=h.d 20
    exact Fg.vn (Value.tuple #[r.v,.bool b]) (Fg.run_move rfl e20)
   refine⟨Fg.vg rfl (by decide) fun ac w h=>?_,?_⟩
   .have e11:_=Value.tuple #[r.v,.bool b]:=h.d 11
    exact Fg.vn r.v (Fg.cO rfl e11 rfl)
   refine⟨Fg.vg rfl (by decide) fun ac w h=>?_,?_⟩
   .have e11:_=Value.tuple #[r.v,.bool b]:=h.d 11
    exact Fg.vn (Value.bool b) (Fg.cO rfl e11 rfl)
   refine⟨Fg.XO rfl (by show 7<36;decide) fun ac w h=>?_,?_⟩
   .refine⟨aB rfl,w.alloc (.cells gT.toArray 66),?_,World.grownBy_alloc _ _ _,by simp,⟨w.heap.size,rfl,h.base.size,_,rfl,aF.new w gT _⟩⟩
    clear h
    go_simp
   refine⟨Fg.XP rfl rfl HOV aD (dn r) fun ac w h=>?_,?_⟩
   .obtain⟨N,ep,hn,V,hl,hb⟩:∃N,ac.tmps.getD 7 undef=.pointer (some ⟨N,0,none⟩)/\W2.heap.size<=N/\∃V:List Value,V.length=5/\aF w N 66 V:=h.dep 7 (by kernel_rfl)
    have e21:_=r.v:=h.d 21
    exact⟨aB rfl,N,ep,ep,e21,hn,V,hl,hb⟩
   refine⟨Fg.vg rfl (by decide) fun ac w h=>?_,?_⟩
   .have e22:_=Value.bool b:=h.d 22
    exact Fg.vn (Value.bool b) (Fg.run_assign rfl e22)
   trivial
  .intro qa V3 g3 hsz hdf hrest aC jT
   obtain⟨N7,hs7,dx⟩:∃N,qa.tmps.getD 7 undef=.pointer (some ⟨N,0,none⟩)/\aF V3 N 66 (aR r):=jT 13 _ rfl rfl
   have Vj:W2.heap.size<=N7:=by
    obtain⟨N,e,hn,_⟩:∃N,qa.tmps.getD 7 undef=.pointer (some ⟨N,0,none⟩)/\W2.heap.size<=N/\∃V:List Value,V.length=5/\aF V3 N 66 V:=aC 7 (by kernel_rfl)
    rw[hs7]at e;cases e;exact hn
   obtain⟨⟨u11,dX⟩,⟨u12,fG⟩,⟨u13,dM⟩,⟨u14,dB⟩,⟨u15,dO⟩,⟨u16,dI⟩,⟨u17,dY⟩,⟨u18,dZ⟩,⟨u19,d9⟩,⟨u20,dS⟩,_⟩:=Fg.bn qa [11,12,13,14,15,16,17,18,19,20]
   obtain rfl:=Fg.iB (a:=qa) (vs:=[y.v,Value.bool odd,Value.pointer (some ⟨w0.heap.size,0,none⟩),undef,Value.pointer (some ⟨w0.heap.size+1,0,none⟩),Value.bool false,Value.pointer (some ⟨N6,0,none⟩),Value.pointer (some ⟨N7,0,none⟩),Value.bool b,u9,x1.v,u11,u12,u13,u14,u15,u16,u17,u18,u19,u20,r.v,Value.bool b,undef,undef,undef,undef,undef,undef,undef,undef,undef,undef,undef,undef,undef]) hsz ⟨hrest 0 (by kernel_rfl),hrest 1 (by kernel_rfl),hrest 2 (by kernel_rfl),hrest 3 (by kernel_rfl),hrest 4 (by kernel_rfl),hrest 5 (by kernel_rfl),hrest 6 (by kernel_rfl),hs7,(show qa.tmps.getD 8 undef=Value.bool b from aC 8 (by kernel_rfl)),hrest 9 (by kernel_rfl),hrest 10 (by kernel_rfl),dX,fG,dM,dB,dO,dI,dY,dZ,d9,dS,(show qa.tmps.getD 21 undef=r.v from aC 21 (by kernel_rfl)),(show qa.tmps.getD 22 undef=Value.bool b from aC 22 (by kernel_rfl)),hrest 23 (by kernel_rfl),hrest 24 (by kernel_rfl),hrest 25 (by kernel_rfl),hrest 26 (by kernel_rfl),hrest 27 (by kernel_rfl),hrest 28 (by kernel_rfl),hrest 29 (by kernel_rfl),hrest 30 (by kernel_rfl),hrest 31 (by kernel_rfl),hrest 32 (by kernel_rfl),hrest 33 (by kernel_rfl),hrest 34 (by kernel_rfl),hrest 35 (by kernel_rfl),trivial⟩ hdf
   clear hsz hdf hrest aC jT hs7 dX fG dM dB dO dI dY dZ d9 dS
   replace hY:=hY.gn g3
   replace hR:=hR.gn g3
   replace hb6:=hb6.gn g3
   replace G:=aj G g3
   replace HT:=HT.grown g3
   have hw7:w0.heap.size<=N7:=Nat.le_trans vU Vj
   clear g3
   cases b with
   | false=>
    go_upto_region 3 with (fail)
    have Uw:=G.size
    have Yo:=hY.lt
    have uJ:=hR.lt
    have yY:=hb6.lt
    have yZ:=dx.lt
    refine Fg.rP [] [.any,.any,.any,.any,.any,.any,.any,.any,.any,.any,.any,.any,.any,.any,.any,.any,.any,.any,.any,.any,.any,.any,.any,.val (Value.bool false),.val (Value.bool true),.val (Value.bool true),.val undef,.val undef,.val (Value.bool true)] 6 ?_ ?_
    .refine Fg.vS rfl (by decide) (fun _ _ h=>Fg.vn _ (Fg.run_move rfl (h.r 8))) ?_
     refine Fg.vS rfl (by decide) (fun ac w h=>?_) ?_
     .have e23:_=Value.bool false:=h.d 23
      refine⟨aB rfl,Value.bool true,w,?_,ah _ _,rfl⟩
      clear h
      simp only[execOp,Act.eval,e23]
      go_simp
     refine Fg.vS rfl (by decide) (fun _ _ h=>Fg.vn _ (Fg.run_move rfl (h.d 24))) ?_
     refine⟨⟨⟨_,rfl⟩,Fg.dW rfl (by decide) (fun _=>rfl) fun ac w h=>?_⟩,?_⟩
     .have e25:_=Value.bool true:=h.d 25
      exact dD (d:=25) rfl rfl (by rw[h.size];show 25<36;decide) e25 (by decide)
     refine⟨⟨⟨_,rfl⟩,Fg.dW rfl (by decide) (fun _=>rfl) fun ac w h=>?_⟩,?_⟩
     .have e25:_=Value.bool true:=h.d 25
      exact dD (d:=25) rfl rfl (by rw[h.size];show 25<36;decide) e25 (by decide)
     refine Fg.vS rfl (by decide) (fun ac w h=>?_) ?_
     .have e25:_=Value.bool true:=h.d 25
      refine⟨aB rfl,Value.bool true,w,?_,ah _ _,rfl⟩
      clear h
      simp only[execOp,Act.eval,e25]
      go_simp
     trivial
    .intro qa V4 g4 hsz hdf hrest aC hpt
     obtain⟨⟨u23,dU⟩,⟨u24,dP⟩,⟨u25,eD⟩,⟨u26,eF⟩,⟨u27,fH⟩,_⟩:=Fg.bn qa [23,24,25,26,27]
     obtain rfl:=Fg.aP [23,24,25,26,27,28] (vs:=[_,_,_,_,_,_,_,_,_,_,_,_,_,_,_,_,_,_,_,_,_,_,_,u23,u24,u25,u26,u27,Value.bool true,_,_,_,_,_,_,_]) hsz hrest (by kernel_rfl) rfl rfl ⟨dU,dP,eD,eF,fH,(show qa.tmps.getD 28 undef=Value.bool true from aC 28 (by kernel_rfl)),trivial⟩ hdf
     clear hsz hdf hrest aC hpt dU dP eD eF fH
     replace hY:=hY.gn g4
     replace hR:=hR.gn g4
     replace hb6:=hb6.gn g4
     replace dx:=dx.gn g4
     replace G:=aj G g4
     replace HT:=HT.grown g4
     clear g4
     go_upto_region 4 with (fail)
     have Oh:=G.size
     have Yp:=hY.lt
     have Ke:=hR.lt
     have Ay:=hb6.lt
     have Dj:=dx.lt
     refine Fg.rP [] [.any,.any,.any,.any,.any,.any,.any,.any,.any,.any,.any,.any,.any,.any,.any,.any,.any,.any,.any,.any,.any,.any,.any,.any,.any,.any,.any,.any,.any,.val (r.v),.val (Value.bool false)] 2 ?_ ?_
     .refine Fg.vS rfl (by decide) (fun _ _ h=>Fg.vn r.v (Fg.run_load rfl (h.r 7) ((dx.gn h.base).range 0 (aR r) rfl) Tryz.underlying66 rfl aD)) ?_
      refine Fg.vS rfl (by decide) (fun _ _ h=>Fg.vn _ (Fg.run_move rfl (h.r 8))) ?_
      trivial
     .intro qa V5 g5 hsz hdf hrest aC hpt
      obtain rfl:=Fg.aP [29,30] (vs:=[_,_,_,_,_,_,_,_,_,_,_,_,_,_,_,_,_,_,_,_,_,_,_,_,_,_,_,_,_,r.v,Value.bool false,_,_,_,_,_]) hsz hrest (by kernel_rfl) rfl rfl ⟨(show qa.tmps.getD 29 undef=r.v from aC 29 (by kernel_rfl)),(show qa.tmps.getD 30 undef=Value.bool false from aC 30 (by kernel_rfl)),trivial⟩ hdf
      clear hsz hdf hrest aC hpt
      replace hY:=hY.gn g5
      replace hR:=hR.gn g5
      replace hb6:=hb6.gn g5
      replace dx:=dx.gn g5
      replace G:=aj G g5
      replace HT:=HT.grown g5
      clear g5
      refine Fg.aU rfl rfl (Fg.run_store (cs:=aR r) rfl rfl rfl (hR.there 0 5 (by show 0+5<=5;decide)) aD (dn _)) ?_
      replace hY:=hY.ak (C:=(w0.heap.size+1)) (cs:=aR r) 0 (by omega)
      replace hR:aF (V5.setCells (w0.heap.size+1) 0 (aR r)) (w0.heap.size+1) 66 (aR r):=hR.bG rfl
      replace hb6:=hb6.ak (C:=(w0.heap.size+1)) (cs:=aR r) 0 (by omega)
      replace dx:=dx.ak (C:=(w0.heap.size+1)) (cs:=aR r) 0 (by omega)
      replace G:=aH (cs:=aR r) G (B:=(w0.heap.size+1)) (by omega) 0
      replace HT:=HT.keep (aK (cs:=aR r) (ah _ (some (w0.heap.size+1))) 0) (HT0.jS (by omega))
      revert hY hR hb6 dx G HT
      generalize V5.setCells (w0.heap.size+1) 0 (aR r)=W6
      intro hY hR hb6 dx G HT
      go_wp2_with fail
      exact bodyPost_ret (v:=.tuple #[r.v,.bool false]) (dA Tryz.results143 _ _ (w0.heap.size+1) 66 (aR r).toArray (0,0) _ rfl hR Tryz.underlying66 rfl aD rfl) rfl ⟨rfl,G⟩
   | true=>
    cases odd with
    | false=>
     go_upto_region 3 with (fail)
     have Uw:=G.size
     have Yo:=hY.lt
     have uJ:=hR.lt
     have yY:=hb6.lt
     have yZ:=dx.lt
     refine Fg.rP [] [.any,.any,.any,.any,.any,.any,.any,.any,.any,.any,.any,.any,.any,.any,.any,.any,.any,.any,.any,.any,.any,.any,.any,.val (Value.bool true),.val (Value.bool false),.val (Value.bool false),.val (Value.bool false),.val (Value.bool true),.val (Value.bool true)] 6 ?_ ?_
     .refine Fg.vS rfl (by decide) (fun _ _ h=>Fg.vn _ (Fg.run_move rfl (h.r 8))) ?_
      refine Fg.vS rfl (by decide) (fun ac w h=>?_) ?_
      .have e23:_=Value.bool true:=h.d 23
       refine⟨aB rfl,Value.bool false,w,?_,ah _ _,rfl⟩
       clear h
       simp only[execOp,Act.eval,e23]
       go_simp
      refine Fg.vS rfl (by decide) (fun _ _ h=>Fg.vn _ (Fg.run_move rfl (h.d 24))) ?_
      refine Fg.vS rfl (by decide) (fun ac w h=>?_) ?_
      .have e25:_=Value.bool false:=h.d 25
       have e1:_=Value.bool false:=h.r 1
       exact Fg.vx (Value.bool false) (aV (d:=25) rfl rfl (by rw[h.size];show 25<36;decide) e25) (Fg.run_move rfl e1)
      refine Fg.vS rfl (by decide) (fun ac w h=>?_) ?_
      .have e25:_=Value.bool false:=h.d 25
       have e26:_=Value.bool false:=h.d 26
       refine⟨aV (d:=25) rfl rfl (by rw[h.size];show 25<36;decide) e25,Value.bool true,w,?_,ah _ _,rfl⟩
       clear h
       simp only[execOp,Act.eval,e26]
       go_simp
      refine Fg.vS rfl (by decide) (fun ac w h=>?_) ?_
      .have e25:_=Value.bool false:=h.d 25
       have e27:_=Value.bool true:=h.d 27
       refine⟨aB rfl,Value.bool true,w,?_,ah _ _,rfl⟩
       clear h
       simp only[execOp,Act.eval,e25,e27]
       go_simp
      trivial
     .intro qa V4 g4 hsz hdf hrest aC hpt
      obtain⟨⟨u23,dU⟩,⟨u24,dP⟩,⟨u25,eD⟩,⟨u26,eF⟩,⟨u27,fH⟩,_⟩:=Fg.bn qa [23,24,25,26,27]
      obtain rfl:=Fg.aP [23,24,25,26,27,28] (vs:=[_,_,_,_,_,_,_,_,_,_,_,_,_,_,_,_,_,_,_,_,_,_,_,u23,u24,u25,u26,u27,Value.bool true,_,_,_,_,_,_,_]) hsz hrest (by kernel_rfl) rfl rfl ⟨dU,dP,eD,eF,fH,(show qa.tmps.getD 28 undef=Value.bool true from aC 28 (by kernel_rfl)),trivial⟩ hdf
      clear hsz hdf hrest aC hpt dU dP eD eF fH
      replace hY:=hY.gn g4
      replace hR:=hR.gn g4
      replace hb6:=hb6.gn g4
      replace dx:=dx.gn g4
      replace G:=aj G g4
      replace HT:=HT.grown g4
      clear g4
      go_upto_region 4 with (fail)
      have Oh:=G.size
      have Yp:=hY.lt
      have Ke:=hR.lt
      have Ay:=hb6.lt
      have Dj:=dx.lt
      refine Fg.rP [] [.any,.any,.any,.any,.any,.any,.any,.any,.any,.any,.any,.any,.any,.any,.any,.any,.any,.any,.any,.any,.any,.any,.any,.any,.any,.any,.any,.any,.any,.val (r.v),.val (Value.bool true)] 2 ?_ ?_
      .refine Fg.vS rfl (by decide) (fun _ _ h=>Fg.vn r.v (Fg.run_load rfl (h.r 7) ((dx.gn h.base).range 0 (aR r) rfl) Tryz.underlying66 rfl aD)) ?_
       refine Fg.vS rfl (by decide) (fun _ _ h=>Fg.vn _ (Fg.run_move rfl (h.r 8))) ?_
       trivial
      .intro qa V5 g5 hsz hdf hrest aC hpt
       obtain rfl:=Fg.aP [29,30] (vs:=[_,_,_,_,_,_,_,_,_,_,_,_,_,_,_,_,_,_,_,_,_,_,_,_,_,_,_,_,_,r.v,Value.bool true,_,_,_,_,_]) hsz hrest (by kernel_rfl) rfl rfl ⟨(show qa.tmps.getD 29 undef=r.v from aC 29 (by kernel_rfl)),(show qa.tmps.getD 30 undef=Value.bool true from aC 30 (by kernel_rfl)),trivial⟩ hdf
       clear hsz hdf hrest aC hpt
       replace hY:=hY.gn g5
       replace hR:=hR.gn g5
       replace hb6:=hb6.gn g5
       replace dx:=dx.gn g5
       replace G:=aj G g5
       replace HT:=HT.grown g5
       clear g5
       refine Fg.aU rfl rfl (Fg.run_store (cs:=aR r) rfl rfl rfl (hR.there 0 5 (by show 0+5<=5;decide)) aD (dn _)) ?_
       replace hY:=hY.ak (C:=(w0.heap.size+1)) (cs:=aR r) 0 (by omega)
       replace hR:aF (V5.setCells (w0.heap.size+1) 0 (aR r)) (w0.heap.size+1) 66 (aR r):=hR.bG rfl
       replace hb6:=hb6.ak (C:=(w0.heap.size+1)) (cs:=aR r) 0 (by omega)
       replace dx:=dx.ak (C:=(w0.heap.size+1)) (cs:=aR r) 0 (by omega)
       replace G:=aH (cs:=aR r) G (B:=(w0.heap.size+1)) (by omega) 0
       replace HT:=HT.keep (aK (cs:=aR r) (ah _ (some (w0.heap.size+1))) 0) (HT0.jS (by omega))
       revert hY hR hb6 dx G HT
       generalize V5.setCells (w0.heap.size+1) 0 (aR r)=W6
       intro hY hR hb6 dx G HT
       go_wp2_with fail
       exact bodyPost_ret (v:=.tuple #[r.v,.bool true]) (dA Tryz.results143 _ _ (w0.heap.size+1) 66 (aR r).toArray (0,0) _ rfl hR Tryz.underlying66 rfl aD rfl) rfl ⟨rfl,G⟩
    | true=>
     cases hz:decide (Fe.m r=0) with
     | true=>
      go_upto_region 3 with (fail)
      have Uw:=G.size
      have Yo:=hY.lt
      have uJ:=hR.lt
      have yY:=hb6.lt
      have yZ:=dx.lt
      refine Fg.rP [] [.any,.any,.any,.any,.any,.any,.any,.any,.any,.any,.any,.any,.any,.any,.any,.any,.any,.any,.any,.any,.any,.any,.any,.val (Value.bool true),.val (Value.bool false),.val (Value.bool false),.val (Value.bool true),.val (Value.bool false),.val (Value.bool false)] 6 ?_ ?_
      .refine Fg.vS rfl (by decide) (fun _ _ h=>Fg.vn _ (Fg.run_move rfl (h.r 8))) ?_
       refine Fg.vS rfl (by decide) (fun ac w h=>?_) ?_
       .have e23:_=Value.bool true:=h.d 23
        refine⟨aB rfl,Value.bool false,w,?_,ah _ _,rfl⟩
        clear h
        simp only[execOp,Act.eval,e23]
        go_simp
       refine Fg.vS rfl (by decide) (fun _ _ h=>Fg.vn _ (Fg.run_move rfl (h.d 24))) ?_
       refine Fg.vS rfl (by decide) (fun ac w h=>?_) ?_
       .have e25:_=Value.bool false:=h.d 25
        have e1:_=Value.bool true:=h.r 1
        exact Fg.vx (Value.bool true) (aV (d:=25) rfl rfl (by rw[h.size];show 25<36;decide) e25) (Fg.run_move rfl e1)
       refine Fg.vS rfl (by decide) (fun ac w h=>?_) ?_
       .have e25:_=Value.bool false:=h.d 25
        have e26:_=Value.bool true:=h.d 26
        refine⟨aV (d:=25) rfl rfl (by rw[h.size];show 25<36;decide) e25,Value.bool false,w,?_,ah _ _,rfl⟩
        clear h
        simp only[execOp,Act.eval,e26]
        go_simp
       refine Fg.vS rfl (by decide) (fun ac w h=>?_) ?_
       .have e25:_=Value.bool false:=h.d 25
        have e27:_=Value.bool false:=h.d 27
        refine⟨aB rfl,Value.bool false,w,?_,ah _ _,rfl⟩
        clear h
        simp only[execOp,Act.eval,e25,e27]
        go_simp
       trivial
      .intro qa V4 g4 hsz hdf hrest aC hpt
       obtain⟨⟨u23,dU⟩,⟨u24,dP⟩,⟨u25,eD⟩,⟨u26,eF⟩,⟨u27,fH⟩,_⟩:=Fg.bn qa [23,24,25,26,27]
       obtain rfl:=Fg.aP [23,24,25,26,27,28] (vs:=[_,_,_,_,_,_,_,_,_,_,_,_,_,_,_,_,_,_,_,_,_,_,_,u23,u24,u25,u26,u27,Value.bool false,_,_,_,_,_,_,_]) hsz hrest (by kernel_rfl) rfl rfl ⟨dU,dP,eD,eF,fH,(show qa.tmps.getD 28 undef=Value.bool false from aC 28 (by kernel_rfl)),trivial⟩ hdf
       clear hsz hdf hrest aC hpt dU dP eD eF fH
       replace hY:=hY.gn g4
       replace hR:=hR.gn g4
       replace hb6:=hb6.gn g4
       replace dx:=dx.gn g4
       replace G:=aj G g4
       replace HT:=HT.grown g4
       clear g4
       go_upto_region 5 with (fail)
       have Oh:=G.size
       have Yp:=hY.lt
       have Ke:=hR.lt
       have Ay:=hb6.lt
       have Dj:=dx.lt
       refine Fg.rP [] [.any,.any,.any,.any,.any,.any,.any,.any,.any,.any,.any,.any,.any,.any,.any,.any,.any,.any,.any,.any,.any,.any,.any,.any,.any,.any,.any,.any,.any,.any,.any,.val (r.v),.val (Value.bool true)] 2 ?_ ?_
       .refine Fg.vS rfl (by decide) (fun _ _ h=>Fg.vn r.v (Fg.run_load rfl (h.r 7) ((dx.gn h.base).range 0 (aR r) rfl) Tryz.underlying66 rfl aD)) ?_
        refine Fg.cS rfl (by decide) (fun _ w h=>Fg.cq rfl (Rm ZY hz) ⟨h.d 31,trivial⟩ Tryz.func154) ?_
        trivial
       .intro qa V5 g5 hsz hdf hrest aC hpt
        obtain⟨u31,gJ⟩:=Fg.bP qa 31
        obtain rfl:=Fg.aP [31,32] (vs:=[_,_,_,_,_,_,_,_,_,_,_,_,_,_,_,_,_,_,_,_,_,_,_,_,_,_,_,_,_,_,_,u31,Value.bool true,_,_,_]) hsz hrest (by kernel_rfl) rfl rfl ⟨gJ,(show qa.tmps.getD 32 undef=Value.bool true from aC 32 (by kernel_rfl)),trivial⟩ hdf
        clear hsz hdf hrest aC hpt gJ
        replace hY:=hY.gn g5
        replace hR:=hR.gn g5
        replace hb6:=hb6.gn g5
        replace dx:=dx.gn g5
        replace G:=aj G g5
        replace HT:=HT.grown g5
        clear g5
        go_upto_region 6 with (fail)
        have Gs5:=G.size
        have af5:=hY.lt
        have Yq:=hR.lt
        have Mi:=hb6.lt
        have Mj:=dx.lt
        refine Fg.rP [] [.any,.any,.any,.any,.any,.any,.any,.any,.any,.any,.any,.any,.any,.any,.any,.any,.any,.any,.any,.any,.any,.any,.any,.any,.any,.any,.any,.any,.any,.any,.any,.any,.any,.val (Fe.bL.v)] 1 ?_ ?_
        .refine Fg.vS rfl (by decide) (fun ac w h=>?_) ?_
         .exact Fg.vn Fe.bL.v (Fg.run_build (vs:=#[]) rfl (by simp) (by kernel_rfl))
         trivial
        .intro qa V6 g6 hsz hdf hrest aC hpt
         obtain rfl:=Fg.aP [33] (vs:=[_,_,_,_,_,_,_,_,_,_,_,_,_,_,_,_,_,_,_,_,_,_,_,_,_,_,_,_,_,_,_,_,_,Fe.bL.v,_,_]) hsz hrest (by kernel_rfl) rfl rfl ⟨(show qa.tmps.getD 33 undef=Fe.bL.v from aC 33 (by kernel_rfl)),trivial⟩ hdf
         clear hsz hdf hrest aC hpt
         replace hY:=hY.gn g6
         replace hR:=hR.gn g6
         replace hb6:=hb6.gn g6
         replace dx:=dx.gn g6
         replace G:=aj G g6
         replace HT:=HT.grown g6
         clear g6
         refine Fg.aU rfl rfl (Fg.run_store (cs:=aR Fe.bL) rfl rfl rfl (hR.there 0 5 (by show 0+5<=5;decide)) aD (dn _)) ?_
         replace hY:=hY.ak (C:=(w0.heap.size+1)) (cs:=aR Fe.bL) 0 (by omega)
         replace hR:aF (V6.setCells (w0.heap.size+1) 0 (aR Fe.bL)) (w0.heap.size+1) 66 (aR Fe.bL):=hR.bG rfl
         replace hb6:=hb6.ak (C:=(w0.heap.size+1)) (cs:=aR Fe.bL) 0 (by omega)
         replace dx:=dx.ak (C:=(w0.heap.size+1)) (cs:=aR Fe.bL) 0 (by omega)
         replace G:=aH (cs:=aR Fe.bL) G (B:=(w0.heap.size+1)) (by omega) 0
         replace HT:=HT.keep (aK (cs:=aR Fe.bL) (ah _ (some (w0.heap.size+1))) 0) (HT0.jS (by omega))
         revert hY hR hb6 dx G HT
         generalize V6.setCells (w0.heap.size+1) 0 (aR Fe.bL)=W7
         intro hY hR hb6 dx G HT
         go_wp2_with fail
         rw[aa6 (of_decide_eq_true hz)]
         exact bodyPost_ret (v:=.tuple #[Fe.bL.v,.bool false]) (dA Tryz.results143 _ _ (w0.heap.size+1) 66 (aR Fe.bL).toArray (0,0) _ rfl hR Tryz.underlying66 rfl aD rfl) rfl ⟨rfl,G⟩
     | false=>
      go_upto_region 3 with (fail)
      have Uw:=G.size
      have Yo:=hY.lt
      have uJ:=hR.lt
      have yY:=hb6.lt
      have yZ:=dx.lt
      refine Fg.rP [] [.any,.any,.any,.any,.any,.any,.any,.any,.any,.any,.any,.any,.any,.any,.any,.any,.any,.any,.any,.any,.any,.any,.any,.val (Value.bool true),.val (Value.bool false),.val (Value.bool false),.val (Value.bool true),.val (Value.bool false),.val (Value.bool false)] 6 ?_ ?_
      .refine Fg.vS rfl (by decide) (fun _ _ h=>Fg.vn _ (Fg.run_move rfl (h.r 8))) ?_
       refine Fg.vS rfl (by decide) (fun ac w h=>?_) ?_
       .have e23:_=Value.bool true:=h.d 23
        refine⟨aB rfl,Value.bool false,w,?_,ah _ _,rfl⟩
        clear h
        simp only[execOp,Act.eval,e23]
        go_simp
       refine Fg.vS rfl (by decide) (fun _ _ h=>Fg.vn _ (Fg.run_move rfl (h.d 24))) ?_
       refine Fg.vS rfl (by decide) (fun ac w h=>?_) ?_
       .have e25:_=Value.bool false:=h.d 25
        have e1:_=Value.bool true:=h.r 1
        exact Fg.vx (Value.bool true) (aV (d:=25) rfl rfl (by rw[h.size];show 25<36;decide) e25) (Fg.run_move rfl e1)
       refine Fg.vS rfl (by decide) (fun ac w h=>?_) ?_
       .have e25:_=Value.bool false:=h.d 25
        have e26:_=Value.bool true:=h.d 26
        refine⟨aV (d:=25) rfl rfl (by rw[h.size];show 25<36;decide) e25,Value.bool false,w,?_,ah _ _,rfl⟩
        clear h
        simp only[execOp,Act.eval,e26]
        go_simp
       refine Fg.vS rfl (by decide) (fun ac w h=>?_) ?_
       .have e25:_=Value.bool false:=h.d 25
        have e27:_=Value.bool false:=h.d 27
        refine⟨aB rfl,Value.bool false,w,?_,ah _ _,rfl⟩
        clear h
        simp only[execOp,Act.eval,e25,e27]
        go_simp
       trivial
      .intro qa V4 g4 hsz hdf hrest aC hpt
       obtain⟨⟨u23,dU⟩,⟨u24,dP⟩,⟨u25,eD⟩,⟨u26,eF⟩,⟨u27,fH⟩,_⟩:=Fg.bn qa [23,24,25,26,27]
       obtain rfl:=Fg.aP [23,24,25,26,27,28] (vs:=[_,_,_,_,_,_,_,_,_,_,_,_,_,_,_,_,_,_,_,_,_,_,_,u23,u24,u25,u26,u27,Value.bool false,_,_,_,_,_,_,_]) hsz hrest (by kernel_rfl) rfl rfl ⟨dU,dP,eD,eF,fH,(show qa.tmps.getD 28 undef=Value.bool false from aC 28 (by kernel_rfl)),trivial⟩ hdf
       clear hsz hdf hrest aC hpt dU dP eD eF fH
       replace hY:=hY.gn g4
       replace hR:=hR.gn g4
       replace hb6:=hb6.gn g4
       replace dx:=dx.gn g4
       replace G:=aj G g4
       replace HT:=HT.grown g4
       clear g4
       go_upto_region 5 with (fail)
       have Oh:=G.size
       have Yp:=hY.lt
       have Ke:=hR.lt
       have Ay:=hb6.lt
       have Dj:=dx.lt
       refine Fg.rP [] [.any,.any,.any,.any,.any,.any,.any,.any,.any,.any,.any,.any,.any,.any,.any,.any,.any,.any,.any,.any,.any,.any,.any,.any,.any,.any,.any,.any,.any,.any,.any,.val (r.v),.val (Value.bool false)] 2 ?_ ?_
       .refine Fg.vS rfl (by decide) (fun _ _ h=>Fg.vn r.v (Fg.run_load rfl (h.r 7) ((dx.gn h.base).range 0 (aR r) rfl) Tryz.underlying66 rfl aD)) ?_
        refine Fg.cS rfl (by decide) (fun _ w h=>Fg.cq rfl (Rm ZY hz) ⟨h.d 31,trivial⟩ Tryz.func154) ?_
        trivial
       .intro qa V5 g5 hsz hdf hrest aC hpt
        obtain⟨u31,gJ⟩:=Fg.bP qa 31
        obtain rfl:=Fg.aP [31,32] (vs:=[_,_,_,_,_,_,_,_,_,_,_,_,_,_,_,_,_,_,_,_,_,_,_,_,_,_,_,_,_,_,_,u31,Value.bool false,_,_,_]) hsz hrest (by kernel_rfl) rfl rfl ⟨gJ,(show qa.tmps.getD 32 undef=Value.bool false from aC 32 (by kernel_rfl)),trivial⟩ hdf
        clear hsz hdf hrest aC hpt gJ
        replace hY:=hY.gn g5
        replace hR:=hR.gn g5
        replace hb6:=hb6.gn g5
        replace dx:=dx.gn g5
        replace G:=aj G g5
        replace HT:=HT.grown g5
        clear g5
        go_upto_region 7 with (fail)
        have Gs5:=G.size
        have af5:=hY.lt
        have Yq:=hR.lt
        have Mi:=hb6.lt
        have Mj:=dx.lt
        refine Fg.rP [] [.any,.any,.any,.any,.any,.any,.any,.any,.any,.any,.any,.any,.any,.any,.any,.any,.any,.any,.any,.any,.any,.any,.any,.any,.any,.any,.any,.any,.any,.any,.any,.any,.any,.any,.val (r.v),.val ((Fe.kL r).v)] 2 ?_ ?_
        .refine Fg.vS rfl (by decide) (fun _ _ h=>Fg.vn r.v (Fg.run_load rfl (h.r 7) ((dx.gn h.base).range 0 (aR r) rfl) Tryz.underlying66 rfl aD)) ?_
         refine Fg.cS rfl (by decide) (fun _ w h=>Fg.cq rfl (Rl (HT.f.grown h.base) ZY) ⟨h.d 34,trivial⟩ Tryz.func120) ?_
         trivial
        .intro qa V6 g6 hsz hdf hrest aC hpt
         obtain⟨u34,iY⟩:=Fg.bP qa 34
         obtain⟨x6,hx6⟩:∃x:Fe,x=Fe.kL r:=⟨_,rfl⟩
         obtain rfl:=Fg.aP [34,35] (vs:=[_,_,_,_,_,_,_,_,_,_,_,_,_,_,_,_,_,_,_,_,_,_,_,_,_,_,_,_,_,_,_,_,_,_,u34,x6.v]) hsz hrest (by kernel_rfl) rfl rfl ⟨iY,(show qa.tmps.getD 35 undef=x6.v by rw[hx6];exact aC 35 (by kernel_rfl)),trivial⟩ hdf
         clear hsz hdf hrest aC hpt iY
         have Vk:=Lib.hid hx6;clear hx6
         replace hY:=hY.gn g6
         replace hR:=hR.gn g6
         replace hb6:=hb6.gn g6
         replace dx:=dx.gn g6
         replace G:=aj G g6
         replace HT:=HT.grown g6
         have Vl:x6.Ok:=by rw[Vk.out];exact (Fe.kG _).ok
         clear g6
         refine Fg.aU rfl rfl (Fg.run_store (cs:=aR x6) rfl rfl rfl (hR.there 0 5 (by show 0+5<=5;decide)) aD (dn _)) ?_
         replace hY:=hY.ak (C:=(w0.heap.size+1)) (cs:=aR x6) 0 (by omega)
         replace hR:aF (V6.setCells (w0.heap.size+1) 0 (aR x6)) (w0.heap.size+1) 66 (aR x6):=hR.bG rfl
         replace hb6:=hb6.ak (C:=(w0.heap.size+1)) (cs:=aR x6) 0 (by omega)
         replace dx:=dx.ak (C:=(w0.heap.size+1)) (cs:=aR x6) 0 (by omega)
         replace G:=aH (cs:=aR x6) G (B:=(w0.heap.size+1)) (by omega) 0
         replace HT:=HT.keep (aK (cs:=aR x6) (ah _ (some (w0.heap.size+1))) 0) (HT0.jS (by omega))
         revert hY hR hb6 dx G HT
         generalize V6.setCells (w0.heap.size+1) 0 (aR x6)=W7
         intro hY hR hb6 dx G HT
         go_wp2_with fail
         have hx6:=Vk.out;subst hx6
         rw[aa7 (of_decide_eq_false hz)]
         exact bodyPost_ret (v:=.tuple #[(Fe.kL r).v,.bool true]) (dA Tryz.results143 _ _ (w0.heap.size+1) 66 (aR (Fe.kL r)).toArray (0,0) _ rfl hR Tryz.underlying66 rfl aD rfl) rfl ⟨rfl,G⟩
theorem El (u v:Fe):(fT u v).1.Ok:=by
 unfold fT
 have ev:∀r:Fe,r.Right->(uU r).Ok:=fun r hr=>(J3 hr).1.ok
 split
 .exact ev _ (Fe.mul_right _ _)
 .split
  .exact ev _ (Fe.mul_right _ _)
  .exact Mg
theorem Gf (y:Fe) (odd:Bool) (w0:World) (HT0:dH w0) (ZX:y.Ok):lu 143 #[y.v,.bool odd] w0 (.tuple #[(jF y odd).1.v,.bool (jF y odd).2]):=by
 unfold jF
 have ZY:=El (Fe.gZ (Fe.cZ y) Fe.dQ) (Fe.fD (Fe.aM dF (Fe.cZ y)) Fe.dQ)
 cases h:fT (Fe.gZ (Fe.cZ y) Fe.dQ) (Fe.fD (Fe.aM dF (Fe.cZ y)) Fe.dQ) with
 | mk r b=>
  rw[h]at ZY
  exact Kc y odd w0 HT0 ZX r b ZY h
end
section
open Go.RowKit
def fC (x:Int):Fe:=⟨x%2251799813685248,x/2251799813685248%2251799813685248,x/5070602400912917605986812821504%2251799813685248,x/11417981541647679048466287755595961091061972992%2251799813685248,x/25711008708143844408671393477458601640355247900524685364822016⟩
theorem Mk (x:Int):Fe.V (fC x)=x:=by
 unfold fC
 simp only[Fe.V]
 have e2:x/5070602400912917605986812821504=x/2251799813685248/2251799813685248:=by rw[Int.ediv_ediv_of_nonneg (by decide)];rfl
 have e3:x/11417981541647679048466287755595961091061972992=x/2251799813685248/2251799813685248/2251799813685248:=by rw[Int.ediv_ediv_of_nonneg (by decide),Int.ediv_ediv_of_nonneg (by decide)];rfl
 have e4:x/25711008708143844408671393477458601640355247900524685364822016=x/2251799813685248/2251799813685248/2251799813685248/2251799813685248:=by rw[Int.ediv_ediv_of_nonneg (by decide),Int.ediv_ediv_of_nonneg (by decide),Int.ediv_ediv_of_nonneg (by decide)];rfl
 rw[e2,e3,e4]
 omega
theorem mh {x:Int} (h0:0<=x) (h1:x<2^256):(fC x).Right:=by
 have e:(2:Int)^256=115792089237316195423570985008687907853269984665640564039457584007913129639936:=by decide
 rw[e]at h1
 unfold fC
 constructor<;>dsimp only<;>omega
theorem Em {x:Int}:(Fe.m (fC x):Int)=x%57896044618658097711785492504343953926634992332820282019728792003956564819949:=by
 rw[Fe.mP,Mk];rfl
theorem kN (F:Nat->Int) (s:Nat):∀k,aS F (s+k)=aS F s+aS (fun i=>F (s+i)) k*2^(8*s):=by
 intro k
 induction k with
 | zero=>simp[aS]
 | succ k ih=>
  rw[show s+(k+1)=s+k+1 by omega,aS,ih,aS,Int.add_mul,show 8*(s+k)=8*k+8*s by omega,Int.pow_add]
  rw[Int.mul_assoc (F (s+k)),<- Int.add_assoc]
theorem aa8 (F:Nat->Int):aS F 32=aS F 8+18446744073709551616*aS (fun i=>F (8+i)) 8+340282366920938463463374607431768211456*aS (fun i=>F (16+i)) 8+6277101735386680763835789423207666416102355444464034512896*aS (fun i=>F (24+i)) 8:=by
 have h1:=kN F 24 8
 have h2:=kN F 16 8
 have h3:=kN F 8 8
 have p1:(2:Int)^(8*24)=6277101735386680763835789423207666416102355444464034512896:=by decide
 have p2:(2:Int)^(8*16)=340282366920938463463374607431768211456:=by decide
 have p3:(2:Int)^(8*8)=18446744073709551616:=by decide
 rw[p1]at h1
 rw[p2]at h2
 rw[p3]at h3
 have e1:aS F (24+8)=aS F 32:=rfl
 have e2:aS F (16+8)=aS F 24:=rfl
 have e3:aS F (8+8)=aS F 16:=rfl
 omega
theorem Rn (w0 w1 w2 w3:Int) (a0:0<=w0) (a1:0<=w1) (a2:0<=w2) (b0:w0<18446744073709551616) (b1:w1<18446744073709551616) (b2:w2<18446744073709551616):
  (⟨bits .and .u64 w0 2251799813685247,bits .and .u64 (bits .or .u64 (w0/2251799813685248) (IntKind.u64.wrap (w1*8192))) 2251799813685247,bits .and .u64 (bits .or .u64 (w1/274877906944) (IntKind.u64.wrap (w2*67108864))) 2251799813685247,
   bits .and .u64 (bits .or .u64 (w2/33554432) (IntKind.u64.wrap (w3*549755813888))) 2251799813685247,w3/4096⟩:Fe)=fC (w0+18446744073709551616*w1+340282366920938463463374607431768211456*w2+6277101735386680763835789423207666416102355444464034512896*w3):=by
 rw[vk (w0/2251799813685248) w1 13 8192 2251799813685248 (by decide) (by decide) (by omega) (by omega) (by decide),
  vk (w1/274877906944) w2 26 67108864 274877906944 (by decide) (by decide) (by omega) (by omega) (by decide),
  vk (w2/33554432) w3 39 549755813888 33554432 (by decide) (by decide) (by omega) (by omega) (by decide),
  mQ w0 a0 b0,mQ _ (by omega) (by omega),mQ _ (by omega) (by omega),mQ _ (by omega) (by omega)]
 have hV:=Mk (w0+18446744073709551616*w1+340282366920938463463374607431768211456*w2+6277101735386680763835789423207666416102355444464034512896*w3)
 generalize hX:w0+18446744073709551616*w1+340282366920938463463374607431768211456*w2+6277101735386680763835789423207666416102355444464034512896*w3=X at *
 unfold fC
 have e1:X/2251799813685248=w0/2251799813685248+8192*w1+151115727451828646838272*w2+2787593149816327892691964784081045188247552*w3:=by omega
 have e2:X/5070602400912917605986812821504=w1/274877906944+67108864*w2+1237940039285380274899124224*w3:=by omega
 have e3:X/11417981541647679048466287755595961091061972992=w2/33554432+549755813888*w3:=by omega
 have e4:X/25711008708143844408671393477458601640355247900524685364822016=w3/4096:=by omega
 rw[e1,e2,e3,e4]
 congr 1<;>omega
end
section
open Go.RowKit Ow Ed
theorem Ml (B o c k:Nat) (hk:k<=32) (hc:k<c) (w:World):(Instr.slice 24 (.slice (some ⟨B,o,none⟩) 32 c) (some (.int .i64 (k:Int))) none none).run Tryz.prog w=.ok (.slice (some ⟨B,o+k,none⟩) (32-k) (c-k)) w:=by
 obtain⟨a',h1,h2⟩:=zV (some ⟨B,o,none⟩) 32 c k hk
 rw[h1 w,h2 hc B o rfl]
set_option maxRecDepth 100000 in
set_option maxHeartbeats 1600000 in
theorem Az (B o c:Nat) (F:Nat->Int) (w0:World) (h32:32<=c) (hf:∀i,0<=F i/\F i<256) (hc:∀i,i<32->w0.cell? ⟨B,o+i,none⟩=some (.int .u8 (F i))) (hB:B<w0.heap.size):
  Calls Tryz.prog 151 #[.slice (some ⟨B,o,none⟩) 32 c] w0 (nU (fC (aS F 32)) w0):=by
 have HC:=Lib.hid hc;clear hc
 have HF:=Lib.hid hf;clear hf
 have Z0:∀s,0<=aS (fun i=>F (s+i)) 8/\aS (fun i=>F (s+i)) 8<18446744073709551616:=fun s=>by
  have h:=gM (fun i=>F (s+i)) (fun i=>HF.out _) 8
  have h64:(2:Int)^(8*8)=18446744073709551616:=by decide
  rw[h64]at h
  exact h
 have hN:=aa8 F
 have h0:aS F 8=aS (fun i=>F (0+i)) 8:=by simp
 rw[h0]at hN
 clear h0
 have g0:∀s n c' W,8<=n->s+8<=32->(∀i,i<32->W.cell? ⟨B,o+i,none⟩=some (.int .u8 (F i)))->lu 156 #[.slice (some ⟨B,o+s,none⟩) n c'] W (.int .u64 (aS (fun i=>F (s+i)) 8)):=
  fun s n c' W hn hs h=>(FY B (o+s) n c' (fun i=>F (s+i)) W hn (fun i=>HF.out _) (fun i hi=>by rw[Nat.add_assoc];exact h (s+i) (by omega))).mono fun e w' ⟨h1,h2⟩=>⟨h1,by subst h2;exact ah _ _⟩
 obtain⟨X,hX⟩:∃X:Nat->Int,∀s,X s=aS (fun i=>F (s+i)) 8:=⟨_,fun _=>rfl⟩
 simp only[<- hX]at Z0 hN g0
 clear hX
 have G:=Lib.hid g0;clear g0
 have HN:=Lib.hid hN;clear hN
 obtain⟨p0,q0⟩:=Z0 0
 obtain⟨p1,q1⟩:=Z0 8
 obtain⟨p2,q2⟩:=Z0 16
 obtain⟨p3,q3⟩:=Z0 24
 clear Z0
 have HL:=Lib.hid (Rn (X 0) (X 8) (X 16) (X 24) p0 p1 p2 q0 q1 q2)
 have S0:Hid (∀w,(Instr.slice 24 (.slice (some ⟨B,o,none⟩) 32 c) (some (.int .i64 0)) none none).run Tryz.prog w=.ok (.slice (some ⟨B,o+0,none⟩) 32 (c-0)) w):=Lib.hid (Ml B o c 0 (by decide) (by omega))
 have S8:Hid (∀w,(Instr.slice 24 (.slice (some ⟨B,o,none⟩) 32 c) (some (.int .i64 8)) none none).run Tryz.prog w=.ok (.slice (some ⟨B,o+8,none⟩) 24 (c-8)) w):=Lib.hid (Ml B o c 8 (by decide) (by omega))
 have S16:Hid (∀w,(Instr.slice 24 (.slice (some ⟨B,o,none⟩) 32 c) (some (.int .i64 16)) none none).run Tryz.prog w=.ok (.slice (some ⟨B,o+16,none⟩) 16 (c-16)) w):=Lib.hid (Ml B o c 16 (by decide) (by omega))
 have S24:Hid (∀w,(Instr.slice 24 (.slice (some ⟨B,o,none⟩) 32 c) (some (.int .i64 24)) none none).run Tryz.prog w=.ok (.slice (some ⟨B,o+24,none⟩) 8 (c-24)) w):=Lib.hid (Ml B o c 24 (by decide) (by omega))
 have HH:=Lib.hid h32;clear h32
 go_enter Tryz.func151,Tryz.ntmps151
 go_upto_region 1 with (fail)
 have GG:w0.grownBy (w0.alloc (.cells gT.toArray 66)) none:=au (ah _ _) _
 have hR:aF (w0.alloc (.cells gT.toArray 66)) (w0.heap.size) 66 gT:=aF.new w0 gT _
 revert GG hR
 generalize w0.alloc (.cells gT.toArray 66)=W0
 intro GG hR
 have Gs:=GG.size
 have HG:=Lib.hid GG
 have lC:=GG.size
 have lq:=hR.lt
 refine Fg.rT [] [.any,.any,.any,.val (Value.int .u64 (X 0)),.val (Value.int .u64 (X 8)),.val (Value.int .u64 (X 16)),.val (Value.int .u64 (X 24)),.val (Value.slice (some ⟨B,o,none⟩) 32 c),.val (Value.slice (some ⟨B,o+0,none⟩) 32 (c-0)),.val (Value.int .u64 (X 0)),.val (Value.slice (some ⟨B,o,none⟩) 32 c),.val (Value.slice (some ⟨B,o+8,none⟩) 24 (c-8)),.val (Value.int .u64 (X 8)),.val (Value.slice (some ⟨B,o,none⟩) 32 c),.val (Value.slice (some ⟨B,o+16,none⟩) 16 (c-16)),.val (Value.int .u64 (X 16)),.val (Value.slice (some ⟨B,o,none⟩) 32 c),.val (Value.slice (some ⟨B,o+24,none⟩) 8 (c-24)),.val (Value.int .u64 (X 24))] 16 ?_ ?_
 .refine Fg.vS rfl (by decide) (fun _ _ h=>Fg.vn _ (Fg.run_move rfl (h.r 0))) ?_
  refine Fg.vS rfl (by decide) (fun ac w h=>?_) ?_
  .have e7:_=Value.slice (some ⟨B,o,none⟩) 32 c:=h.d 7
   refine⟨aB rfl,Value.slice (some ⟨B,o+0,none⟩) 32 (c-0),w,?_,ah _ _,rfl⟩
   clear h
   have hrun:=S0.out w
   simp only[execOp,Act.eval,e7,Option.map_some,Option.map_none]
   go_simp
  refine Fg.cS rfl (by decide) (fun ac w h=>?_) ?_
  .have e8:_=Value.slice (some ⟨B,o+0,none⟩) 32 (c-0):=h.d 8
   refine⟨aB rfl,156,#[Value.slice (some ⟨B,o+0,none⟩) 32 (c-0)],Fg.aN rfl rfl (by simp only[List.map_toArray,List.map_cons,List.map_nil,Act.eval,e8]) (Fg.aI Tryz.func156 (by kernel_rfl) (by kernel_rfl)),?_⟩
   exact (G.out 0 32 (c-0) _ (by decide) (by decide) (fun i hi=>by rw[aZ (aj HG.out h.base) (p:=⟨B,o+i,none⟩) hB (by simp)];exact HC.out i hi)).mono fun _ _ ⟨he,hg⟩=>⟨_,he,hg,rfl⟩
  refine Fg.vS rfl (by decide) (fun _ _ h=>Fg.vn _ (Fg.run_move rfl (h.r 0))) ?_
  refine Fg.vS rfl (by decide) (fun ac w h=>?_) ?_
  .have e10:_=Value.slice (some ⟨B,o,none⟩) 32 c:=h.d 10
   refine⟨aB rfl,Value.slice (some ⟨B,o+8,none⟩) 24 (c-8),w,?_,ah _ _,rfl⟩
   clear h
   have hrun:=S8.out w
   simp only[execOp,Act.eval,e10,Option.map_some,Option.map_none]
   go_simp
  refine Fg.cS rfl (by decide) (fun ac w h=>?_) ?_
  .have e11:_=Value.slice (some ⟨B,o+8,none⟩) 24 (c-8):=h.d 11
   refine⟨aB rfl,156,#[Value.slice (some ⟨B,o+8,none⟩) 24 (c-8)],Fg.aN rfl rfl (by simp only[List.map_toArray,List.map_cons,List.map_nil,Act.eval,e11]) (Fg.aI Tryz.func156 (by kernel_rfl) (by kernel_rfl)),?_⟩
   exact (G.out 8 24 (c-8) _ (by decide) (by decide) (fun i hi=>by rw[aZ (aj HG.out h.base) (p:=⟨B,o+i,none⟩) hB (by simp)];exact HC.out i hi)).mono fun _ _ ⟨he,hg⟩=>⟨_,he,hg,rfl⟩
  refine Fg.vS rfl (by decide) (fun _ _ h=>Fg.vn _ (Fg.run_move rfl (h.r 0))) ?_
  refine Fg.vS rfl (by decide) (fun ac w h=>?_) ?_
  .have e13:_=Value.slice (some ⟨B,o,none⟩) 32 c:=h.d 13
   refine⟨aB rfl,Value.slice (some ⟨B,o+16,none⟩) 16 (c-16),w,?_,ah _ _,rfl⟩
   clear h
   have hrun:=S16.out w
   simp only[execOp,Act.eval,e13,Option.map_some,Option.map_none]
   go_simp
  refine Fg.cS rfl (by decide) (fun ac w h=>?_) ?_
  .have e14:_=Value.slice (some ⟨B,o+16,none⟩) 16 (c-16):=h.d 14
   refine⟨aB rfl,156,#[Value.slice (some ⟨B,o+16,none⟩) 16 (c-16)],Fg.aN rfl rfl (by simp only[List.map_toArray,List.map_cons,List.map_nil,Act.eval,e14]) (Fg.aI Tryz.func156 (by kernel_rfl) (by kernel_rfl)),?_⟩
   exact (G.out 16 16 (c-16) _ (by decide) (by decide) (fun i hi=>by rw[aZ (aj HG.out h.base) (p:=⟨B,o+i,none⟩) hB (by simp)];exact HC.out i hi)).mono fun _ _ ⟨he,hg⟩=>⟨_,he,hg,rfl⟩
  refine Fg.vS rfl (by decide) (fun _ _ h=>Fg.vn _ (Fg.run_move rfl (h.r 0))) ?_
  refine Fg.vS rfl (by decide) (fun ac w h=>?_) ?_
  .have e16:_=Value.slice (some ⟨B,o,none⟩) 32 c:=h.d 16
   refine⟨aB rfl,Value.slice (some ⟨B,o+24,none⟩) 8 (c-24),w,?_,ah _ _,rfl⟩
   clear h
   have hrun:=S24.out w
   simp only[execOp,Act.eval,e16,Option.map_some,Option.map_none]
   go_simp
  refine Fg.cS rfl (by decide) (fun ac w h=>?_) ?_
  .have e17:_=Value.slice (some ⟨B,o+24,none⟩) 8 (c-24):=h.d 17
   refine⟨aB rfl,156,#[Value.slice (some ⟨B,o+24,none⟩) 8 (c-24)],Fg.aN rfl rfl (by simp only[List.map_toArray,List.map_cons,List.map_nil,Act.eval,e17]) (Fg.aI Tryz.func156 (by kernel_rfl) (by kernel_rfl)),?_⟩
   exact (G.out 24 8 (c-24) _ (by decide) (by decide) (fun i hi=>by rw[aZ (aj HG.out h.base) (p:=⟨B,o+i,none⟩) hB (by simp)];exact HC.out i hi)).mono fun _ _ ⟨he,hg⟩=>⟨_,he,hg,rfl⟩
  refine Fg.vS rfl (by decide) (fun _ _ h=>Fg.vn _ (Fg.run_assign rfl (h.d 9))) ?_
  refine Fg.vS rfl (by decide) (fun _ _ h=>Fg.vn _ (Fg.run_assign rfl (h.d 12))) ?_
  refine Fg.vS rfl (by decide) (fun _ _ h=>Fg.vn _ (Fg.run_assign rfl (h.d 15))) ?_
  refine Fg.vS rfl (by decide) (fun _ _ h=>Fg.vn _ (Fg.run_assign rfl (h.d 18))) ?_
  trivial
 .intro qa V1 g1 hsz hdf hrest aC hpt
  obtain⟨⟨u7,hs7⟩,⟨u8,kZ⟩,⟨u9,jA⟩,⟨u10,fI⟩,⟨u11,dX⟩,⟨u12,fG⟩,⟨u13,dM⟩,⟨u14,dB⟩,⟨u15,dO⟩,⟨u16,dI⟩,⟨u17,dY⟩,⟨u18,dZ⟩,_⟩:=Fg.bn qa [7,8,9,10,11,12,13,14,15,16,17,18]
  obtain rfl:=Fg.aP [3,4,5,6,7,8,9,10,11,12,13,14,15,16,17,18] (vs:=[_,_,_,Value.int .u64 (X 0),Value.int .u64 (X 8),Value.int .u64 (X 16),Value.int .u64 (X 24),u7,u8,u9,u10,u11,u12,u13,u14,u15,u16,u17,u18,_,_,_,_,_,_,_,_,_,_,_,_,_,_,_,_,_,_,_,_,_,_,_]) hsz hrest (by kernel_rfl) rfl rfl ⟨(show qa.tmps.getD 3 undef=Value.int .u64 (X 0) from aC 3 (by kernel_rfl)),(show qa.tmps.getD 4 undef=Value.int .u64 (X 8) from aC 4 (by kernel_rfl)),(show qa.tmps.getD 5 undef=Value.int .u64 (X 16) from aC 5 (by kernel_rfl)),(show qa.tmps.getD 6 undef=Value.int .u64 (X 24) from aC 6 (by kernel_rfl)),hs7,kZ,jA,fI,dX,fG,dM,dB,dO,dI,dY,dZ,trivial⟩ hdf
  clear hsz hdf hrest aC hpt hs7 kZ jA fI dX fG dM dB dO dI dY dZ
  replace hR:=hR.gn g1
  replace GG:=aj GG g1
  clear g1
  have z0:=hR.cell (i:=0) rfl
  have z1:=hR.cell (i:=1) rfl
  have z2:=hR.cell (i:=2) rfl
  have z3:=hR.cell (i:=3) rfl
  have z4:=hR.cell (i:=4) rfl
  have y0:=hR.free 0
  have y1:=hR.free 1
  have y2:=hR.free 2
  have y3:=hR.free 3
  have y4:=hR.free 4
  clear hR
  go_wp2
  refine bodyPost_ret (v:=(fC (aS F 32)).v) ?_ rfl (Ag ⟨rfl,jD GG (Nat.le_refl _) _ _ _ _ _⟩)
  rw[HN.out,<- HL.out]
  simp[results,Tryz.results151,go_sem,z0,z1,z2,z3,z4,Fe.v]
end
section
open Go.RowKit Go.Shelf
def Cw:Go.Shelf.Ren:=⟨fun|115=>152|n=>n,fun|37=>24|4=>4|9=>9|5=>5|n=>n,fun|n=>n⟩
theorem Oi:Go.Proofs.Lays.nb115 Tryz.prog Cw:={
 mixed:=by kernel_rfl
 f115:=Tryz.func152.trans (congrArg some (by kernel_rfl))
 t4:=Tryz.underlying4
 a4:=Tryz.isAgg4
 z4:=Tryz.sizeOf4
 v4:=Tryz.zeroValue4
 t9:=Tryz.underlying9
 a9:=Tryz.isAgg9
 z9:=Tryz.sizeOf9
 v9:=Tryz.zeroValue9
 t37:=Tryz.underlying24
 a37:=Tryz.isAgg24
 z37:=Tryz.sizeOf24
 v37:=Tryz.zeroValue24
 t5:=Tryz.underlying5
 a5:=Tryz.isAgg5
 z5:=Tryz.sizeOf5
 v5:=Tryz.zeroValue5}
def kE (x:Int):List Int:=(List.range 32).map fun i=>x/2^(8*i)%256
theorem qJ (x:Int) (i:Nat) (h:i<32):(kE x)[i]?=some (x/2^(8*i)%256):=by
 unfold kE;rw[List.getElem?_map,List.getElem?_range h];rfl
theorem Ro {w:World} {B:Nat} {T:TypeId} {x:Int} (h:aF w B T (dz x)):Lib.BytesIn w (some ⟨B,0,none⟩) 32 (kE x):=
 Lib.BytesIn.of_cells fun i hi=>by
  have hadd:(⟨B,0,none⟩:Addr).add i=⟨B,i,none⟩:=by unfold Addr.add;split<;>simp_all
  have hi2:i<32:=by simpa[kE] using hi
  rw[hadd,h.cell (lI x i hi2)]
  have:=qJ x i hi2
  simp[List.getD,this,rM]
theorem Mq (x:Int) (i:Nat):0<=x/2^(8*i)%256/\x/2^(8*i)%256<256:=⟨Int.emod_nonneg _ (by decide),Int.emod_lt_of_pos _ (by decide)⟩
theorem En (x y:Int) (h0:0<=x) (k0:0<=y) (h1:x<2^256) (k1:y<2^256):(Lib.bytesOf (kE x)==Lib.bytesOf (kE y))=decide (x=y):=by
 rw[Bool.eq_iff_iff,beq_iff_eq,decide_eq_true_iff]
 constructor
 .intro h
  refine yS 32 x y h0 k0 h1 k1 fun i hi=>?_
  have e:(Lib.bytesOf (kE x))[i]?=(Lib.bytesOf (kE y))[i]?:=by rw[h]
  unfold Lib.bytesOf at e
  rw[List.getElem?_map,List.getElem?_map,qJ x i hi,qJ y i hi]at e
  simp only[Option.map_some,Option.some.injEq]at e
  have e2:=congrArg UInt8.toNat e
  have bx:=Mq x i
  have b_y:=Mq y i
  generalize x/2^(8*i)%256=p at *
  generalize y/2^(8*i)%256=q at *
  rw[UInt8.toNat_ofNat',UInt8.toNat_ofNat']at e2
  omega
 .rintro rfl;rfl
theorem Eo (x:Int):∀k,aS (fun i=>x/2^(8*i)%256) k=x%2^(8*k):=by
 intro k
 induction k with
 | zero=>simp[aS]
 | succ k ih=>
  rw[aS,ih]
  have e:(2:Int)^(8*(k+1))=2^(8*k)*256:=by rw[show 8*(k+1)=8*k+8 by omega,Int.pow_add];rfl
  have hp:(0:Int)<2^(8*k):=Int.pow_pos (by decide)
  rw[e]
  generalize (2:Int)^(8*k)=p at *
  have h1:=Int.mul_ediv_add_emod x p
  have h2:=Int.mul_ediv_add_emod x (p*256)
  have h3:x/(p*256)=x/p/256:=by rw[Int.ediv_ediv_of_nonneg (by omega)]
  have h4:=Int.mul_ediv_add_emod (x/p) 256
  rw[h3]at h2
  have h5:p*(x/p)=p*(256*(x/p/256)+x/p%256):=by rw[h4]
  rw[Int.mul_add,<- Int.mul_assoc]at h5
  have h6:x/p%256*p=p*(x/p%256):=Int.mul_comm ..
  omega
end
section
open Go.RowKit Go.Shelf Ow Ed
theorem Ep (F:Nat->Int) (hf:∀i,0<=F i/\F i<256) (n i:Nat) (hi:i<n):aS F n/2^(8*i)%256=F i:=by
 obtain⟨k,rfl⟩:∃k,n=i+(1+k):=⟨n-i-1,by omega⟩
 rw[kN F i (1+k),kN (fun j=>F (i+j)) 1 k]
 obtain⟨b0,b1⟩:=gM F hf i
 have hp:(2:Int)^(8*i)≠0:=Int.ne_of_gt (Int.pow_pos (by decide))
 rw[Int.add_mul_ediv_right _ _ hp,Int.ediv_eq_zero_of_lt b0 b1,Int.zero_add]
 have e1:aS (fun j=>F (i+j)) 1=F i:=by simp[aS]
 have e2:(2:Int)^(8*1)=256:=by decide
 rw[e1,e2,Int.add_mul_emod_self_right]
 have:=hf i
 omega
theorem Oj (F:Nat->Int) (hf:∀i,0<=F i/\F i<256) (i:Nat) (hi:i<32):(kE (aS F 32)).getD i 0=F i:=by
 rw[List.getD_eq_getElem?_getD,qJ _ i hi,Option.getD_some,Ep F hf 32 i hi]
theorem bytes_at (w:World) (pb po:Nat) (F:Nat->Int) (hf:∀i,0<=F i/\F i<256) (hc:∀i,i<32->w.cell? ⟨pb,po+i,none⟩=some (.int .u8 (F i))):Lib.BytesIn w (some ⟨pb,po,none⟩) 32 (kE (aS F 32)):=
 Lib.BytesIn.of_cells fun i hi=>by
  have hadd:(⟨pb,po,none⟩:Addr).add i=⟨pb,po+i,none⟩:=by unfold Addr.add;split<;>simp_all
  have hi2:i<32:=by simpa[kE] using hi
  rw[hadd,hc i hi2,Oj F hf i hi2]
theorem Mr (A pb po c:Nat) (T:TypeId) (x:Int) (F:Nat->Int) (w:World) (hf:∀i,0<=F i/\F i<256) (h0:0<=x) (h1:x<2^256) (hA:aF w A T (dz x)) (hc:∀i,i<32->w.cell? ⟨pb,po+i,none⟩=some (.int .u8 (F i))) {b:Bool} (hb:decide (x=aS F 32)=b):
  lu 152 #[.slice (some ⟨A,0,none⟩) 32 32,.slice (some ⟨pb,po,none⟩) 32 c] w (.bool b):=by
 have hw:=gM F hf 32
 have h2:(2:Int)^(8*32)=2^256:=by decide
 rw[h2]at hw
 refine (Any.bytes_Equal_all Oi _ _ 32 32 32 c (kE x) (kE (aS F 32)) w (by simp[kE]) (by simp[kE]) (Ro hA) (bytes_at w pb po F hf hc)).mono ?_
 rintro e w' ⟨rfl,rfl⟩
 exact⟨by rw[En x _ h0 hw.1 h1 hw.2,hb],ah _ _⟩
set_option maxRecDepth 100000 in
set_option maxHeartbeats 3200000 in
theorem Gg (pb po c:Nat) (F:Nat->Int) (w0:World) (h32:32<=c) (hf:∀i,0<=F i/\F i<256) (hc:∀i,i<32->w0.cell? ⟨pb,po+i,none⟩=some (.int .u8 (F i))) (hB:pb<w0.heap.size) (hlt:aS F 32<57896044618658097711785492504343953926634992332820282019728792003956564819949):
  Calls Tryz.prog 142 #[.slice (some ⟨pb,po,none⟩) 32 c] w0 fun e w'=>e=.returned (.tuple #[(fC (aS F 32)).v,.bool true])/\w0.grownBy w' none:=by
 have HC:=Lib.hid hc;clear hc
 have HF:=Lib.hid hf;clear hf
 have hw:=gM F HF.out 32
 have h2:(2:Int)^(8*32)=2^256:=by decide
 rw[h2]at hw
 have okN:(fC (aS F 32)).Ok:=(mh hw.1 hw.2).ok
 have hD:decide ((Fe.m (fC (aS F 32)):Int)=aS F 32)=true:=by
  rw[Em,decide_eq_true_iff]
  have:=hw.1
  omega
 have HD:=Lib.hid hD;clear hD hw h2 hlt
 go_enter Tryz.func142,Tryz.ntmps142
 go_upto_region 1 with (fail)
 have G:w0.grownBy (w0.alloc (.cells gT.toArray 66)) none:=au (ah _ _) _
 have hR:aF (w0.alloc (.cells gT.toArray 66)) (w0.heap.size) 66 gT:=aF.new w0 gT _
 revert G hR
 generalize w0.alloc (.cells gT.toArray 66)=W0
 intro G hR
 have Gs:=G.size
 have HCW:Hid (∀i,i<32->W0.cell? ⟨pb,po+i,none⟩=some (.int .u8 (F i))):=Lib.hid (fun i hi=>by rw[aZ G (p:=⟨pb,po+i,none⟩) hB (by simp)];exact HC.out i hi)
 have G0x:=G
 go_upto_region 3 with (fail)
 have lC:=G.size
 have lq:=hR.lt
 refine Fg.rP [4] [.any,.any,.any,.any,.fresh 66 gT W0.heap.size,.any,.any,.any,.any,.val (Value.slice (some ⟨pb,po,none⟩) 32 c),.val ((fC (aS F 32)).v)] 3 ?_ ?_
 .refine Fg.vS rfl (by decide) (fun _ _ h=>Fg.vn _ (Fg.run_move rfl (h.r 0))) ?_
  refine Fg.cS rfl (by decide) (fun ac w h=>?_) ?_
  .have e9:_=Value.slice (some ⟨pb,po,none⟩) 32 c:=h.d 9
   refine⟨aB rfl,151,#[Value.slice (some ⟨pb,po,none⟩) 32 c],Fg.aN rfl rfl (by simp only[List.map_toArray,List.map_cons,List.map_nil,Act.eval,e9]) (Fg.aI Tryz.func151 (by kernel_rfl) (by kernel_rfl)),?_⟩
   exact ((Az pb po c F _ h32 HF.out (fun i hi=>by rw[aZ (aj G0x h.base) (p:=⟨pb,po+i,none⟩) hB (by simp)];exact HC.out i hi) (Nat.lt_of_lt_of_le hB (aj G0x h.base).size)).mono fun _ _ h=>eX h).mono fun _ _ ⟨he,hg⟩=>⟨_,he,hg,rfl⟩
  refine⟨⟨⟨_,rfl⟩,Fg.gD (fun _ _ h k=>aj h k) rfl (by show 4<18;decide) fun ac w h=>?_⟩,?_⟩
  .refine⟨aB rfl,w.alloc (.cells gT.toArray 66),?_,World.grownBy_alloc _ _ _,by simp,⟨w.heap.size,rfl,h.base.size,aF.new w gT _⟩⟩
   clear h
   go_simp
  trivial
 .intro qa V1 g1 hsz hdf hrest aC hpt
  obtain⟨N4,hs4,Ms,hb4⟩:∃N,qa.tmps.getD 4 undef=.pointer (some ⟨N,0,none⟩)/\W0.heap.size<=N/\aF V1 N 66 gT:=aC 4 (by kernel_rfl)
  obtain⟨u9,jA⟩:=Fg.bP qa 9
  obtain⟨x1,hx1⟩:∃x:Fe,x=fC (aS F 32):=⟨_,rfl⟩
  obtain rfl:=Fg.aP [4,9,10] (vs:=[_,_,_,_,Value.pointer (some ⟨N4,0,none⟩),_,_,_,_,u9,x1.v,_,_,_,_,_,_,_]) hsz hrest (by kernel_rfl) rfl rfl ⟨hs4,jA,(show qa.tmps.getD 10 undef=x1.v by rw[hx1];exact aC 10 (by kernel_rfl)),trivial⟩ hdf
  clear hsz hdf hrest aC hpt hs4 jA
  have mU:=Lib.hid hx1;clear hx1
  replace hR:=hR.gn g1
  replace G:=aj G g1
  have mg:x1.Ok:=by rw[mU.out];exact okN
  have hw4:w0.heap.size<=N4:=Nat.le_trans lC Ms
  clear g1
  refine Fg.aU rfl rfl (Fg.run_store (cs:=aR x1) rfl rfl rfl (hb4.there 0 5 (by show 0+5<=5;decide)) aD (dn _)) ?_
  replace hR:=hR.ak (C:=N4) (cs:=aR x1) 0 (by omega)
  replace hb4:aF (V1.setCells N4 0 (aR x1)) N4 66 (aR x1):=hb4.bG rfl
  replace G:=aH (cs:=aR x1) G (B:=N4) (hw4) 0
  revert hR hb4 G
  generalize V1.setCells N4 0 (aR x1)=W2
  intro hR hb4 G
  have G1x:=G
  go_upto_region 4 with (fail)
  have vU:=G.size
  have qI:=hR.lt
  have Gh:=hb4.lt
  refine Fg.rP [] [.any,.any,.any,.any,.any,.any,.any,.any,.any,.any,.any,.val (x1.v),.row 166 (dz (Fe.m (x1))) 32 W2.heap.size,.val (Value.slice (some ⟨pb,po,none⟩) 32 c),.val (Value.bool true),.val (Value.bool false)] 5 ?_ ?_
  .refine Fg.vS rfl (by decide) (fun _ _ h=>Fg.vn x1.v (Fg.run_load rfl (h.r 4) ((hb4.gn h.base).range 0 (aR x1) rfl) Tryz.underlying66 rfl aD)) ?_
   refine Fg.cS rfl (by decide) (fun ac w h=>?_) ?_
   .have e11:_=x1.v:=h.d 11
    refine⟨aB rfl,81,#[x1.v],Fg.aN rfl rfl (by simp only[List.map_toArray,List.map_cons,List.map_nil,Act.eval,e11]) (Fg.aI Tryz.func81 (by kernel_rfl) (by kernel_rfl)),?_⟩
    exact (zH _ _ mg).mono fun _ _ ⟨NB,he,hg,hn,hb⟩=>⟨_,he,hg,⟨NB,rfl,Nat.le_trans h.base.size hn,hb⟩⟩
   refine Fg.vS rfl (by decide) (fun _ _ h=>Fg.vn _ (Fg.run_move rfl (h.r 0))) ?_
   refine Fg.cS rfl (by decide) (fun ac w h=>?_) ?_
   .obtain⟨Xk,e12,Rp,b12⟩:∃N,ac.tmps.getD 12 undef=.slice (some ⟨N,0,none⟩) 32 32/\W2.heap.size<=N/\aF w N 166 (dz (Fe.m (x1))):=h.dep 12 (by kernel_rfl)
    have e13:_=Value.slice (some ⟨pb,po,none⟩) 32 c:=h.d 13
    refine⟨aB rfl,152,#[Value.slice (some ⟨Xk,0,none⟩) 32 32,Value.slice (some ⟨pb,po,none⟩) 32 c],Fg.aN rfl rfl (by simp only[List.map_toArray,List.map_cons,List.map_nil,Act.eval,e12,e13]) (Fg.aI Tryz.func152 (by kernel_rfl) (by kernel_rfl)),?_⟩
    exact (Mr _ pb po c _ _ F _ HF.out (Int.natCast_nonneg _) (LQ _) b12 (fun i hi=>by rw[aZ (aj G1x h.base) (p:=⟨pb,po+i,none⟩) hB (by simp)];exact HC.out i hi) (by rw[mU.out];exact HD.out)).mono fun _ _ ⟨he,hg⟩=>⟨_,he,hg,rfl⟩
   refine Fg.vS rfl (by decide) (fun ac w h=>?_) ?_
   .have e14:_=Value.bool true:=h.d 14
    refine⟨aB rfl,Value.bool false,w,?_,ah _ _,rfl⟩
    clear h
    simp only[execOp,Act.eval,e14]
    go_simp
   trivial
  .intro qa V3 g3 hsz hdf hrest aC hpt
   obtain⟨⟨u11,dX⟩,⟨u12,fG⟩,⟨u13,dM⟩,⟨u14,dB⟩,_⟩:=Fg.bn qa [11,12,13,14]
   obtain rfl:=Fg.aP [11,12,13,14,15] (vs:=[_,_,_,_,_,_,_,_,_,_,_,u11,u12,u13,u14,Value.bool false,_,_]) hsz hrest (by kernel_rfl) rfl rfl ⟨dX,fG,dM,dB,(show qa.tmps.getD 15 undef=Value.bool false from aC 15 (by kernel_rfl)),trivial⟩ hdf
   clear hsz hdf hrest aC hpt dX fG dM dB
   replace hR:=hR.gn g3
   replace hb4:=hb4.gn g3
   replace G:=aj G g3
   clear g3
   go_upto_region 6 with (fail)
   have Uw:=G.size
   have uJ:=hR.lt
   have Dk:=hb4.lt
   refine Fg.rP [] [.any,.any,.any,.any,.any,.any,.any,.any,.any,.any,.any,.any,.any,.any,.any,.any,.any,.val (x1.v)] 1 ?_ ?_
   .refine Fg.vS rfl (by decide) (fun _ _ h=>Fg.vn x1.v (Fg.run_load rfl (h.r 4) ((hb4.gn h.base).range 0 (aR x1) rfl) Tryz.underlying66 rfl aD)) ?_
    trivial
   .intro qa V4 g4 hsz hdf hrest aC hpt
    obtain rfl:=Fg.aP [17] (vs:=[_,_,_,_,_,_,_,_,_,_,_,_,_,_,_,_,_,x1.v]) hsz hrest (by kernel_rfl) rfl rfl ⟨(show qa.tmps.getD 17 undef=x1.v from aC 17 (by kernel_rfl)),trivial⟩ hdf
    clear hsz hdf hrest aC hpt
    replace hR:=hR.gn g4
    replace hb4:=hb4.gn g4
    replace G:=aj G g4
    clear g4
    refine Fg.aU rfl rfl (Fg.run_store (cs:=aR x1) rfl rfl rfl (hR.there 0 5 (by show 0+5<=5;decide)) aD (dn _)) ?_
    replace hR:aF (V4.setCells w0.heap.size 0 (aR x1)) w0.heap.size 66 (aR x1):=hR.bG rfl
    replace hb4:=hb4.ak (C:=w0.heap.size) (cs:=aR x1) 0 (by omega)
    replace G:=aH (cs:=aR x1) G (B:=w0.heap.size) (by omega) 0
    revert hR hb4 G
    generalize V4.setCells w0.heap.size 0 (aR x1)=W5
    intro hR hb4 G
    go_wp2_with fail
    have hx1:=mU.out;subst hx1
    exact bodyPost_ret (v:=.tuple #[(fC (aS F 32)).v,.bool true]) (dA Tryz.results142 _ _ w0.heap.size 66 (aR (fC (aS F 32))).toArray (0,0) _ rfl hR Tryz.underlying66 rfl aD rfl) rfl ⟨rfl,G⟩
set_option maxRecDepth 100000 in
set_option maxHeartbeats 3200000 in
theorem Vm (pb po c:Nat) (F:Nat->Int) (w0:World) (h32:32<=c) (hf:∀i,0<=F i/\F i<256) (hc:∀i,i<32->w0.cell? ⟨pb,po+i,none⟩=some (.int .u8 (F i))) (hB:pb<w0.heap.size) (hlt:57896044618658097711785492504343953926634992332820282019728792003956564819949<=aS F 32):
  Calls Tryz.prog 142 #[.slice (some ⟨pb,po,none⟩) 32 c] w0 fun e w'=>e=.returned (.tuple #[(Fe.bL).v,.bool false])/\w0.grownBy w' none:=by
 have HC:=Lib.hid hc;clear hc
 have HF:=Lib.hid hf;clear hf
 have hw:=gM F HF.out 32
 have h2:(2:Int)^(8*32)=2^256:=by decide
 rw[h2]at hw
 have okN:(fC (aS F 32)).Ok:=(mh hw.1 hw.2).ok
 have hD:decide ((Fe.m (fC (aS F 32)):Int)=aS F 32)=false:=by
  rw[Em,decide_eq_false_iff_not]
  have:=hw.1
  omega
 have HD:=Lib.hid hD;clear hD hw h2 hlt
 go_enter Tryz.func142,Tryz.ntmps142
 go_upto_region 1 with (fail)
 have G:w0.grownBy (w0.alloc (.cells gT.toArray 66)) none:=au (ah _ _) _
 have hR:aF (w0.alloc (.cells gT.toArray 66)) (w0.heap.size) 66 gT:=aF.new w0 gT _
 revert G hR
 generalize w0.alloc (.cells gT.toArray 66)=W0
 intro G hR
 have Gs:=G.size
 have HCW:Hid (∀i,i<32->W0.cell? ⟨pb,po+i,none⟩=some (.int .u8 (F i))):=Lib.hid (fun i hi=>by rw[aZ G (p:=⟨pb,po+i,none⟩) hB (by simp)];exact HC.out i hi)
 have G0x:=G
 go_upto_region 3 with (fail)
 have lC:=G.size
 have lq:=hR.lt
 refine Fg.rP [4] [.any,.any,.any,.any,.fresh 66 gT W0.heap.size,.any,.any,.any,.any,.val (Value.slice (some ⟨pb,po,none⟩) 32 c),.val ((fC (aS F 32)).v)] 3 ?_ ?_
 .refine Fg.vS rfl (by decide) (fun _ _ h=>Fg.vn _ (Fg.run_move rfl (h.r 0))) ?_
  refine Fg.cS rfl (by decide) (fun ac w h=>?_) ?_
  .have e9:_=Value.slice (some ⟨pb,po,none⟩) 32 c:=h.d 9
   refine⟨aB rfl,151,#[Value.slice (some ⟨pb,po,none⟩) 32 c],Fg.aN rfl rfl (by simp only[List.map_toArray,List.map_cons,List.map_nil,Act.eval,e9]) (Fg.aI Tryz.func151 (by kernel_rfl) (by kernel_rfl)),?_⟩
   exact ((Az pb po c F _ h32 HF.out (fun i hi=>by rw[aZ (aj G0x h.base) (p:=⟨pb,po+i,none⟩) hB (by simp)];exact HC.out i hi) (Nat.lt_of_lt_of_le hB (aj G0x h.base).size)).mono fun _ _ h=>eX h).mono fun _ _ ⟨he,hg⟩=>⟨_,he,hg,rfl⟩
  refine⟨⟨⟨_,rfl⟩,Fg.gD (fun _ _ h k=>aj h k) rfl (by show 4<18;decide) fun ac w h=>?_⟩,?_⟩
  .refine⟨aB rfl,w.alloc (.cells gT.toArray 66),?_,World.grownBy_alloc _ _ _,by simp,⟨w.heap.size,rfl,h.base.size,aF.new w gT _⟩⟩
   clear h
   go_simp
  trivial
 .intro qa V1 g1 hsz hdf hrest aC hpt
  obtain⟨N4,hs4,Ms,hb4⟩:∃N,qa.tmps.getD 4 undef=.pointer (some ⟨N,0,none⟩)/\W0.heap.size<=N/\aF V1 N 66 gT:=aC 4 (by kernel_rfl)
  obtain⟨u9,jA⟩:=Fg.bP qa 9
  obtain⟨x1,hx1⟩:∃x:Fe,x=fC (aS F 32):=⟨_,rfl⟩
  obtain rfl:=Fg.aP [4,9,10] (vs:=[_,_,_,_,Value.pointer (some ⟨N4,0,none⟩),_,_,_,_,u9,x1.v,_,_,_,_,_,_,_]) hsz hrest (by kernel_rfl) rfl rfl ⟨hs4,jA,(show qa.tmps.getD 10 undef=x1.v by rw[hx1];exact aC 10 (by kernel_rfl)),trivial⟩ hdf
  clear hsz hdf hrest aC hpt hs4 jA
  have mU:=Lib.hid hx1;clear hx1
  replace hR:=hR.gn g1
  replace G:=aj G g1
  have mg:x1.Ok:=by rw[mU.out];exact okN
  have hw4:w0.heap.size<=N4:=Nat.le_trans lC Ms
  clear g1
  refine Fg.aU rfl rfl (Fg.run_store (cs:=aR x1) rfl rfl rfl (hb4.there 0 5 (by show 0+5<=5;decide)) aD (dn _)) ?_
  replace hR:=hR.ak (C:=N4) (cs:=aR x1) 0 (by omega)
  replace hb4:aF (V1.setCells N4 0 (aR x1)) N4 66 (aR x1):=hb4.bG rfl
  replace G:=aH (cs:=aR x1) G (B:=N4) (hw4) 0
  revert hR hb4 G
  generalize V1.setCells N4 0 (aR x1)=W2
  intro hR hb4 G
  have G1x:=G
  go_upto_region 4 with (fail)
  have vU:=G.size
  have qI:=hR.lt
  have Gh:=hb4.lt
  refine Fg.rP [] [.any,.any,.any,.any,.any,.any,.any,.any,.any,.any,.any,.val (x1.v),.row 166 (dz (Fe.m (x1))) 32 W2.heap.size,.val (Value.slice (some ⟨pb,po,none⟩) 32 c),.val (Value.bool false),.val (Value.bool true)] 5 ?_ ?_
  .refine Fg.vS rfl (by decide) (fun _ _ h=>Fg.vn x1.v (Fg.run_load rfl (h.r 4) ((hb4.gn h.base).range 0 (aR x1) rfl) Tryz.underlying66 rfl aD)) ?_
   refine Fg.cS rfl (by decide) (fun ac w h=>?_) ?_
   .have e11:_=x1.v:=h.d 11
    refine⟨aB rfl,81,#[x1.v],Fg.aN rfl rfl (by simp only[List.map_toArray,List.map_cons,List.map_nil,Act.eval,e11]) (Fg.aI Tryz.func81 (by kernel_rfl) (by kernel_rfl)),?_⟩
    exact (zH _ _ mg).mono fun _ _ ⟨NB,he,hg,hn,hb⟩=>⟨_,he,hg,⟨NB,rfl,Nat.le_trans h.base.size hn,hb⟩⟩
   refine Fg.vS rfl (by decide) (fun _ _ h=>Fg.vn _ (Fg.run_move rfl (h.r 0))) ?_
   refine Fg.cS rfl (by decide) (fun ac w h=>?_) ?_
   .obtain⟨Xk,e12,Rp,b12⟩:∃N,ac.tmps.getD 12 undef=.slice (some ⟨N,0,none⟩) 32 32/\W2.heap.size<=N/\aF w N 166 (dz (Fe.m (x1))):=h.dep 12 (by kernel_rfl)
    have e13:_=Value.slice (some ⟨pb,po,none⟩) 32 c:=h.d 13
    refine⟨aB rfl,152,#[Value.slice (some ⟨Xk,0,none⟩) 32 32,Value.slice (some ⟨pb,po,none⟩) 32 c],Fg.aN rfl rfl (by simp only[List.map_toArray,List.map_cons,List.map_nil,Act.eval,e12,e13]) (Fg.aI Tryz.func152 (by kernel_rfl) (by kernel_rfl)),?_⟩
    exact (Mr _ pb po c _ _ F _ HF.out (Int.natCast_nonneg _) (LQ _) b12 (fun i hi=>by rw[aZ (aj G1x h.base) (p:=⟨pb,po+i,none⟩) hB (by simp)];exact HC.out i hi) (by rw[mU.out];exact HD.out)).mono fun _ _ ⟨he,hg⟩=>⟨_,he,hg,rfl⟩
   refine Fg.vS rfl (by decide) (fun ac w h=>?_) ?_
   .have e14:_=Value.bool false:=h.d 14
    refine⟨aB rfl,Value.bool true,w,?_,ah _ _,rfl⟩
    clear h
    simp only[execOp,Act.eval,e14]
    go_simp
   trivial
  .intro qa V3 g3 hsz hdf hrest aC hpt
   obtain⟨⟨u11,dX⟩,⟨u12,fG⟩,⟨u13,dM⟩,⟨u14,dB⟩,_⟩:=Fg.bn qa [11,12,13,14]
   obtain rfl:=Fg.aP [11,12,13,14,15] (vs:=[_,_,_,_,_,_,_,_,_,_,_,u11,u12,u13,u14,Value.bool true,_,_]) hsz hrest (by kernel_rfl) rfl rfl ⟨dX,fG,dM,dB,(show qa.tmps.getD 15 undef=Value.bool true from aC 15 (by kernel_rfl)),trivial⟩ hdf
   clear hsz hdf hrest aC hpt dX fG dM dB
   replace hR:=hR.gn g3
   replace hb4:=hb4.gn g3
   replace G:=aj G g3
   clear g3
   go_upto_region 5 with (fail)
   have Uw:=G.size
   have uJ:=hR.lt
   have Dk:=hb4.lt
   refine Fg.rP [] [.any,.any,.any,.any,.any,.any,.any,.any,.any,.any,.any,.any,.any,.any,.any,.any,.val (Fe.bL.v)] 1 ?_ ?_
   .refine Fg.vS rfl (by decide) (fun ac w h=>?_) ?_
    .exact Fg.vn Fe.bL.v (Fg.run_build (vs:=#[]) rfl (by simp) (by kernel_rfl))
    trivial
   .intro qa V4 g4 hsz hdf hrest aC hpt
    obtain rfl:=Fg.aP [16] (vs:=[_,_,_,_,_,_,_,_,_,_,_,_,_,_,_,_,Fe.bL.v,_]) hsz hrest (by kernel_rfl) rfl rfl ⟨(show qa.tmps.getD 16 undef=Fe.bL.v from aC 16 (by kernel_rfl)),trivial⟩ hdf
    clear hsz hdf hrest aC hpt
    replace hR:=hR.gn g4
    replace hb4:=hb4.gn g4
    replace G:=aj G g4
    clear g4
    refine Fg.aU rfl rfl (Fg.run_store (cs:=aR Fe.bL) rfl rfl rfl (hR.there 0 5 (by show 0+5<=5;decide)) aD (dn _)) ?_
    replace hR:aF (V4.setCells w0.heap.size 0 (aR Fe.bL)) w0.heap.size 66 (aR Fe.bL):=hR.bG rfl
    replace hb4:=hb4.ak (C:=w0.heap.size) (cs:=aR Fe.bL) 0 (by omega)
    replace G:=aH (cs:=aR Fe.bL) G (B:=w0.heap.size) (by omega) 0
    revert hR hb4 G
    generalize V4.setCells w0.heap.size 0 (aR Fe.bL)=W5
    intro hR hb4 G
    go_wp2_with fail
    exact bodyPost_ret (v:=.tuple #[Fe.bL.v,.bool false]) (dA Tryz.results142 _ _ w0.heap.size 66 (aR Fe.bL).toArray (0,0) _ rfl hR Tryz.underlying66 rfl aD rfl) rfl ⟨rfl,G⟩
end
section
open Go.RowKit Ow
theorem AA:∃i,Tryz.prog.info? 5=some i/\i.zero=some (.int .u8 0)/\i.size=1/\i.bytes=1:=by
 have h:(Tryz.prog.info? 5).map (fun i=>(i.zero,i.size,i.bytes))=some (some (.int .u8 0),1,1):=by kernel_rfl
 cases hi:Tryz.prog.info? 5 with
 | none=>rw[hi]at h;cases h
 | some i=>
  rw[hi]at h
  simp only[Option.map_some,Option.some.injEq,Prod.mk.injEq]at h
  exact⟨i,rfl,h.1,h.2.1,h.2.2⟩
theorem Kg (n:Nat):madeCells (Value.int .u8 0).cells n=(List.replicate n (dG 0)).toArray:=by
 unfold madeCells dG
 apply Array.ext
 .simp
 .intro i h1 h2
  simp[Value.cells,Nat.mod_one]
theorem AB (n c:Nat) (w:World) (h:n<=c) (hc:c<=140737488355328):∃w',(Instr.makeSlice 24 (.int .i64 n) (.int .i64 c)).run Tryz.prog w=.ok (.slice (some ⟨w.heap.size,0,none⟩) n c) w'/\
  w.grownBy w' none/\w'.heap.size=w.heap.size+1/\aF w' w.heap.size 5 (List.replicate c (dG 0)):=by
 obtain⟨i,hi,hz,hs,hb⟩:=AA
 have h2:=run_make (P:=Tryz.prog) w 24 5 i (.int .u8 0) Tryz.underlying24 hi hz .i64 .i64 n c (by omega) (by omega) (by rw[hb];omega) (by omega)
 rw[hs,Nat.mul_one,Int.toNat_natCast,Int.toNat_natCast,Kg]at h2
 exact⟨_,h2,au (ah _ _) _,by simp,aF.new w _ _⟩
end
section
open Go.RowKit Ow
theorem getD_drop (l:List Nat) (k i:Nat):(l.drop k).getD i 0=l.getD (k+i) 0:=by
 rw[List.getD_eq_getElem?_getD,List.getElem?_drop,List.getD_eq_getElem?_getD]
theorem getD_take_lt (l:List Nat) (k:Nat) (h:∀i,l.getD i 0<256) (i:Nat):(l.take k).getD i 0<256:=by
 rw[List.getD_eq_getElem?_getD,List.getElem?_take]
 split
 .rw[<- List.getD_eq_getElem?_getD];exact h i
 .decide
theorem getD_take (l:List Nat) (k i:Nat) (h:i<k):(l.take k).getD i 0=l.getD i 0:=by
 rw[List.getD_eq_getElem?_getD,List.getElem?_take,if_pos h,List.getD_eq_getElem?_getD]
theorem Kh {w:World} {B cap k:Nat} {a a':Option Addr} {l:List Nat} (h:BytesAt w B a cap l) (ha:k<cap->∀pb po,a=some ⟨pb,po,none⟩->a'=some ⟨pb,po+k,none⟩):BytesAt w B a' (cap-k) (l.drop k):=by
 have hf:=h.fits
 have ht:=h.top
 refine⟨h.lim,by rw[List.length_drop];omega,by omega,fun i=>by rw[getD_drop];exact h.byte _,?_⟩
 by_cases h0:l.length<=k
 .exact Or.inl (by rw[List.length_drop];omega)
 .obtain⟨pb,po,e,hlt,hc⟩:=h.cells.resolve_left (by omega)
  refine Or.inr ⟨pb,po+k,ha (by omega) pb po e,hlt,fun i hi=>?_⟩
  rw[List.length_drop]at hi
  rw[getD_drop,Nat.add_assoc]
  exact hc _ (by omega)
theorem Ki {w:World} {B cap k:Nat} {a a':Option Addr} {l:List Nat} (h:BytesAt w B a cap l) (ha:∀pb po,a=some ⟨pb,po,none⟩->a'=some ⟨pb,po,none⟩):BytesAt w B a' cap (l.take k):=by
 have hl:(l.take k).length<=l.length:=by rw[List.length_take];omega
 refine⟨h.lim,Nat.le_trans hl h.fits,h.top,getD_take_lt _ _ h.byte,?_⟩
 rcases h.cells with h0 |⟨pb,po,e,hlt,hc⟩
 .exact Or.inl (by omega)
 .refine Or.inr ⟨pb,po,ha pb po e,hlt,fun i hi=>?_⟩
  rw[List.length_take]at hi
  rw[getD_take _ _ _ (by omega)]
  exact hc _ (by omega)
set_option maxRecDepth 100000 in
theorem AJ (a:Option Addr) (n cap k:Nat) (h:k<=cap):
  ∃a',(∀w,(Instr.slice 24 (.slice a n cap) none (some (.int .i64 (k:Int))) none).run Tryz.prog w=.ok (.slice a' k cap) w)/\(∀pb po,a=some ⟨pb,po,none⟩->a'=some ⟨pb,po,none⟩):=by
 obtain⟨j,hj,hs⟩:∃j,Tryz.prog.info? (Tryz.prog.elem 24)=some j/\j.size=1:=by
  have h1:(Tryz.prog.info? (Tryz.prog.elem 24)).map (·.size)=some 1:=by kernel_rfl
  cases hq:Tryz.prog.info? (Tryz.prog.elem 24) with
  | none=>rw[hq]at h1;cases h1
  | some j=>rw[hq]at h1;exact⟨j,rfl,by simpa using h1⟩
 refine⟨if cap=0 then a else a.map (·.add 0),fun w=>?_,fun pb po e=>?_⟩
 .rw[run_slice_h w 24 a n cap Tryz.underlying24 .i64 _ (by omega) (by omega),Int.toNat_natCast]
  simp[sizeOf,typeInfo,hj,hs,sliced]
 .rw[e]
  split
  .rfl
  .simp[Addr.add]
theorem Kj {w:World} {g n base e:Nat} {xs:List Value} (h:aF w g e xs) (hn:xs.length=n) (hb:base<=g) (hm:n<=140737488355328):w.ownsRow base e 1 (.slice (some ⟨g,0,none⟩) n n) n xs:=
 ⟨by omega,Or.inr ⟨g,n,xs.toArray,rfl,hb,h,Nat.le_refl _,by unfold maxLen;omega,by simp[hn],by simp[<- hn]⟩⟩
theorem Gi {w:World} {base n:Nat} {v:Value} {l:List Nat} (h:w.ownsRow base 5 1 v n (l.map dG)) (hl:l.length=n) (hn:0<n) (hb:∀i,l.getD i 0<256):
  ∃g c,v=.slice (some ⟨g,0,none⟩) n c/\base<=g/\n<=c/\BytesAt w w.heap.size (some ⟨g,0,none⟩) c l:=by
 subst hl
 obtain⟨g,c,rfl,hbg,hnc,hcm,hlt⟩:=rW h hn
 refine⟨g,c,rfl,hbg,hnc,Nat.le_refl _,hnc,by unfold maxLen at hcm;omega,hb,Or.inr ⟨g,0,rfl,hlt,fun i hi=>?_⟩⟩
 rw[Nat.zero_add]
 exact nO h (wh hi)
theorem _root_.Go.Proofs.YtjgnjhgdmdmebaaGreatDoor.Ow.BytesAt.full {w:World} {B cap:Nat} {a:Option Addr} {l:List Nat} (h:BytesAt w B a cap l):BytesAt w w.heap.size a cap l:=h.up h.lim (Nat.le_refl _)
theorem _root_.Go.Proofs.YtjgnjhgdmdmebaaGreatDoor.Ow.BytesAt.apart {w w':World} {B cap rb:Nat} {a:Option Addr} {l:List Nat} (h:BytesAt w B a cap l) (hg:w.grownBy w' (some rb)) (hne:l.length=0\/∀pb po,a=some ⟨pb,po,none⟩->pb≠rb):BytesAt w' B a cap l:=by
 refine⟨Nat.le_trans h.lim hg.size,h.fits,h.top,h.byte,?_⟩
 rcases hne with h0|hne
 .exact Or.inl h0
 rcases h.cells with h0 |⟨pb,po,ha,hlt,hc⟩
 .exact Or.inl h0
 .exact Or.inr ⟨pb,po,ha,hlt,fun i hi=>by rw[aZ hg (p:=⟨pb,po+i,none⟩) (Nat.lt_of_lt_of_le hlt h.lim) (fun e=>hne pb po ha (by simpa using e))];exact hc i hi⟩
end
section
open Go.RowKit Ow Ed
set_option maxRecDepth 100000 in
set_option maxHeartbeats 1600000 in
theorem sO (B pb po n c:Nat) (l:List Nat) (w:World) (hn:l.length=n) (hn0:0<n) (hn1:n<=1000000) (hP:BytesAt w B (some ⟨pb,po,none⟩) c l):
  Calls Tryz.prog 23 #[.slice (some ⟨pb,po,none⟩) n c] w fun e w'=>∃g c',e=.returned (.slice (some ⟨g,0,none⟩) n c')/\w'.ownsRow w.heap.size 5 1 (.slice (some ⟨g,0,none⟩) n c') n (l.map dG)/\w.grownBy w' none:=by
 have hb0:=aF.new w [] 5
 have ho0:=Kj (base:=w.heap.size) hb0 rfl (Nat.le_refl _) (by decide)
 have hP1:=hP.kept (World.grownBy_alloc w (.cells #[] 5) none) (by simp)
 obtain⟨v',w',hap,ho,hg⟩:=ni (w.alloc (.cells #[] 5)) w.heap.size 0 B c n (.slice (some ⟨w.heap.size,0,none⟩) 0 0) [] (some ⟨pb,po,none⟩) l ho0 hn hP1 (by omega) (by simp)
 have hg1:=aW (au (ah w none) (.cells #[] 5)) hg (Nat.le_refl _)
 rw[Nat.zero_add,List.nil_append]at ho
 obtain⟨g,c',rfl,_⟩:=rW ho hn0
 have H:=Lib.hid (And.intro hap (And.intro ho hg1));clear hap ho hg hg1 hb0 ho0 hP1 hP hn
 have hq:=fun wx=>Lib.run_eql_slice_nil (P:=Tryz.prog) wx 24 5 (some ⟨pb,po,none⟩) n c 0 0 Tryz.underlying24
 go_enter Tryz.func23,Tryz.ntmps23
 go_wp2_with (at_builtin;refine wpList_append_run rfl (.tmp 5) (.tmp 6) 24 rfl rfl _ _ rfl rfl _ _ H.out.1 ?_)
 go_ret
 exact⟨g,c',rfl,H.out.2.1,H.out.2.2⟩
end
section
open Go.RowKit Ow
theorem og {w:World} {base e n g c:Nat} {xs:List Value} (h:w.ownsRow base e 1 (.slice (some ⟨g,0,none⟩) n c) n xs):g<w.heap.size/\base<=g/\n<=c:=by
 rcases h.2 with⟨h0,_⟩ |⟨g',c',cur,e1,hb,hg,hnc,_⟩
 .cases h0
 .cases e1
  exact⟨(Array.getElem?_eq_some_iff.1 hg).1,hb,hnc⟩
theorem Dl {w:World} {base e n:Nat} {v:Value} {xs:List Value} (h:w.ownsRow base e 1 v n xs):(v=.slice none 0 0/\n=0)\/∃g c,v=.slice (some ⟨g,0,none⟩) n c:=by
 rcases h.2 with h0 |⟨g',c',cur,e1,_⟩
 .exact Or.inl h0
 .exact Or.inr ⟨g',c',e1⟩
theorem Er {w:World} {base e n g c i:Nat} {xs:List Value} (h:w.ownsRow base e 1 (.slice (some ⟨g,0,none⟩) n c) n xs) (v:Value):(w.setCell ⟨g,i,none⟩ v).ownsRow base e 1 (.slice (some ⟨g,0,none⟩) n c) n (xs.set i v):=by
 refine⟨by rw[List.length_set];exact h.1,?_⟩
 rcases h.2 with⟨h0,_⟩ |⟨g',c',cur,e1,hb,hg,hnc,hcm,hs,ht⟩
 .cases h0
 .cases e1
  have hblk:aF w g e cur.toList:=by unfold aF;rw[hg]
  have h2:=hblk.set i v
  refine Or.inr ⟨g,c,(cur.toList.set i v).toArray,rfl,hb,h2,hnc,hcm,by simpa using hs,?_⟩
  rw[<- ht,List.take_set]
theorem AL {w:World} {base e n g c:Nat} {xs:List Value} (h:w.ownsRow base e 1 (.slice (some ⟨g,0,none⟩) n c) n xs) (i:Nat):w.frozen? ⟨g,i,none⟩=false:=by
 rcases h.2 with⟨h0,_⟩ |⟨g',c',cur,e1,hb,hg,hnc,hcm,hs,ht⟩
 .cases h0
 .cases e1
  have hblk:aF w g e cur.toList:=by unfold aF;rw[hg]
  exact hblk.free i
theorem Rq {w:World} {base e n n' g c:Nat} {xs:List Value} (h:w.ownsRow base e 1 (.slice (some ⟨g,0,none⟩) n' c) n' xs) (hn:n<=n'):w.ownsRow base e 1 (.slice (some ⟨g,0,none⟩) n c) n (xs.take n):=by
 have hl:xs.length=n':=by have:=h.1;omega
 refine⟨by rw[List.length_take];omega,?_⟩
 rcases h.2 with⟨h0,_⟩ |⟨g',c',cur,e1,hb,hg,hnc,hcm,hs,ht⟩
 .cases h0
 .cases e1
  refine Or.inr ⟨g,c,cur,rfl,hb,hg,by omega,hcm,hs,?_⟩
  rw[<- ht,List.take_take];congr 1;omega
structure Elt (e st:TypeId) (bt:Nat) (z:Value):Prop where
 sl:Tryz.prog.underlying st=some (.slice e)
 info:∃i,Tryz.prog.info? e=some i/\i.zero=some z/\i.size=1/\i.bytes=bt/\z.cells.size=1
theorem wO {e st:TypeId} {bt:Nat} {z:Value} (hE:Elt e st bt z) (w:World) (base g n c:Nat) (xs:List Value) (hown:w.ownsRow base e 1 (.slice (some ⟨g,0,none⟩) n c) n xs)
  (ad:Addr) (m cc:Nat) (news:List Value) (hl:news.length=m) (hnews:∀j u,news[j]?=some u->w.cell? (ad.add j)=some u) (h1:∀u∈news,u.oneCell'=true) (hb:(n+m)*bt<=140737488355328) (hb2:n+m<=140737488355328):
  (n+m<=c/\∃w',(Builtin.append_ #[st,st] st #[.slice (some ⟨g,0,none⟩) n c,.slice (some ad) m cc]).run Tryz.prog w=.ok (.slice (some ⟨g,0,none⟩) (n+m) c) w'/\w'.ownsRow base e 1 (.slice (some ⟨g,0,none⟩) (n+m) c) (n+m) (xs++news)/\w.grownBy w' (some g))\/
  (c<n+m/\∃c' w',(Builtin.append_ #[st,st] st #[.slice (some ⟨g,0,none⟩) n c,.slice (some ad) m cc]).run Tryz.prog w=.ok (.slice (some ⟨w.heap.size,0,none⟩) (n+m) c') w'/\w'.ownsRow w.heap.size e 1 (.slice (some ⟨w.heap.size,0,none⟩) (n+m) c') (n+m) (xs++news)/\w.grownBy w' none):=by
 obtain⟨i,hi,hz,hs,hby,hzc⟩:=hE.info
 by_cases h:n+m<=c
 .obtain⟨w',hr,ho,hg⟩:=run_append_fits w base st st e i 1 (P:=Tryz.prog) hE.sl hi hs g n c xs hown ad m cc news (by omega) hnews h1 h
  exact Or.inl ⟨h,w',hr,ho,hg⟩
 .refine Or.inr ⟨by omega,?_⟩
  have hxl:xs.length=n:=by have:=hown.1;omega
  have hold:∀j v,xs[j]?=some v->w.cell? ((⟨g,0,none⟩:Addr).add j)=some v:=fun j v hv=>by
   have hadd:(⟨g,0,none⟩:Addr).add j=⟨g,j,none⟩:=by unfold Addr.add;split<;>simp_all
   rw[hadd];exact nO hown hv
  have hnc:Builtin.nextslicecap (n+m) c*i.bytes<=281474976710656:=growslice_fits (by omega) (by rw[hby];exact hb)
  have hr:=run_append_grow (P:=Tryz.prog) w st st e i z hE.sl hi hz ⟨g,0,none⟩ n c xs (by rw[hs];omega) hold ad m cc news (by rw[hs];omega) hnews (by omega) (by omega) hnc
  have hge:=grownCap_ge w (n+m) c e
  have hcm:grownCap w (n+m) c e<=maxLen:=grownCap_le_maxLen w (n+m) c e (by unfold maxLen;omega)
  refine⟨_,_,hr,⟨by rw[List.length_append];omega,Or.inr ⟨w.heap.size,_,_,rfl,Nat.le_refl _,heap_alloc_new w.drew _,hge,hcm,?_,?_⟩⟩,⟨rfl,rfl,rfl,by simp,fun k hk _=>heap_alloc_old w.drew _ hk⟩⟩
  .simp only[Array.size_append,List.size_toArray,size_zeroCells,hzc]
   omega
  .simp only[Array.toList_append,List.append_assoc]
   rw[<- List.append_assoc,List.take_left' (by rw[List.length_append];omega)]
theorem AO {e st:TypeId} {bt:Nat} {z:Value} (hE:Elt e st bt z) (w:World) (ad:Addr) (m cc:Nat) (news:List Value) (hm:0<m) (hl:news.length=m) (hnews:∀j u,news[j]?=some u->w.cell? (ad.add j)=some u) (h1:∀u∈news,u.oneCell'=true) (hb:m*bt<=140737488355328) (hb2:m<=140737488355328):
  ∃g c' w',(Builtin.append_ #[st,st] st #[.slice none 0 0,.slice (some ad) m cc]).run Tryz.prog w=.ok (.slice (some ⟨g,0,none⟩) m c') w'/\w'.ownsRow w.heap.size e 1 (.slice (some ⟨g,0,none⟩) m c') m news/\w.grownBy w' none:=by
 obtain⟨i,hi,hz,hs,hby,hzc⟩:=hE.info
 obtain⟨v',w',hr,ho,hg,_⟩:=run_append_own w w.heap.size st st e i z 1 bt (P:=Tryz.prog) hE.sl hi hz hs hby hzc (by decide) (.slice none 0 0) 0 [] (World.ownsRow_nil w _ e 1) ad m cc news (by omega) hnews h1 (by unfold maxLen;omega) (by rw[Nat.zero_add];exact hb) (Nat.le_refl _)
 rw[Nat.zero_add,List.nil_append]at ho
 obtain⟨g,c,rfl,_⟩:=rW ho hm
 exact⟨g,c,w',hr,ho,hg⟩
end
section
open Go.RowKit Ow Ed
def Es (l:List Nat):List Nat:=l.set 31 (l.getD 31 0%128)
def iE (l:List Nat) (i:Nat):Int:=((Es l).getD i 0:Nat)
def AP (l:List Nat):Bool:=decide (128<=l.getD 31 0)
theorem o8 (l:List Nat) (h:∀i,l.getD i 0<256) (i:Nat):0<=iE l i/\iE l i<256:=by
 unfold iE Es
 refine⟨Int.natCast_nonneg _,?_⟩
 have h1:=h i
 have h2:=h 31
 rw[List.getD_eq_getElem?_getD,List.getElem?_set]
 rw[List.getD_eq_getElem?_getD]at h1 h2
 split
 .split
  .rw[Option.getD_some];omega
  .simp
 .omega
theorem Et (x:Nat) (h:x<256):(bits .and .u8 (x:Int) 128 !=0)=decide (128<=x):=by
 have all:∀j:Fin 256,(bits .and .u8 (j.val:Int) 128 !=0)=decide (128<=j.val):=by decide +kernel
 exact all ⟨x,h⟩
theorem Eu (x:Nat) (h:x<256):bits .andNot .u8 (x:Int) 128=(x:Int)%128:=by
 have all:∀j:Fin 256,bits .andNot .u8 (j.val:Int) 128=(j.val:Int)%128:=by decide +kernel
 exact all ⟨x,h⟩
theorem Ev (l:List Nat):(l.map dG).set 31 (.int .u8 (((l.getD 31 0:Nat):Int)%128))=(Es l).map dG:=by
 unfold Es
 rw[List.map_set]
 have e:(((l.getD 31 0%128:Nat):Int))=((l.getD 31 0:Nat):Int)%128:=by omega
 unfold dG
 rw[e]
theorem AQ {w:World} {base g c:Nat} {l:List Nat} (hl:l.length=32) (h:w.ownsRow base 5 1 (.slice (some ⟨g,0,none⟩) 32 c) 32 ((Es l).map dG)) (i:Nat) (hi:i<32):w.cell? ⟨g,0+i,none⟩=some (.int .u8 (iE l i)):=by
 rw[Nat.zero_add]
 have hlen:(Es l).length=32:=by unfold Es;rw[List.length_set,hl]
 refine nO h (j:=i) ?_
 rw[List.getElem?_map,List.getElem?_eq_getElem (by omega)]
 unfold iE
 rw[List.getD_eq_getElem?_getD,List.getElem?_eq_getElem (by omega)]
 rfl
def cB:Pt:=⟨Fe.bL,Fe.bL,Fe.bL,Fe.bL⟩
theorem Dm (y:Fe) (odd:Bool):(jF y odd).1.Ok:=by
 unfold jF
 split
 .exact El _ _
 .split
  .exact El _ _
  .split
   .exact Mg
   .exact (Fe.kG _).ok
set_option maxRecDepth 100000 in
set_option maxHeartbeats 3200000 in
theorem abb (B:Nat) (a:Option Addr) (c:Nat) (l:List Nat) (w0:World) (HT0:dH w0) (hl:l.length=32) (hP:BytesAt w0 B a c l) (hyp:57896044618658097711785492504343953926634992332820282019728792003956564819949<=aS (iE l) 32):
  Calls Tryz.prog 116 #[.slice a 32 c] w0 fun e w'=>e=.returned (.tuple #[(cB).v,.bool false])/\w0.grownBy w' none:=by
 have hc32:=hP.fits
 have P7:=hP
 obtain⟨pb,po,rfl,hpb,hcells⟩:=hP.cells.resolve_left (by omega)
 have hx:=hP.byte 31
 have c31:w0.cell? ⟨pb,po+31,none⟩=some (.int .u8 ((l.getD 31 0:Nat):Int)):=hcells 31 (by omega)
 have hBl:=hP.lim
 have hand:=Et _ hx
 have hnot:=Eu _ hx
 have HD:=Lib.hid (And.intro hP (And.intro hl hc32));clear hP P7 hcells hl hc32
 obtain⟨x,hxe⟩:∃x,x=l.getD 31 0:=⟨_,rfl⟩
 rw[<- hxe]at hx c31 hand hnot
 have hodd:AP l=decide (128<=x):=by unfold AP;rw[hxe]
 obtain⟨odd,hoe⟩:∃b,b=decide (128<=x):=⟨_,rfl⟩
 rw[<- hoe]at hand hodd
 have HX:=Lib.hid hxe;clear hxe
 have HO:=Lib.hid hodd;clear hodd hoe
 go_enter Tryz.func116,Tryz.ntmps116
 have Gj:=c31
 replace c31:(w0.alloc (.cells bE.toArray 68)).cell? ⟨pb,po+31,none⟩=some (.int .u8 (x:Int)):=by rw[aZ (au (ah w0 none) _) (p:=⟨pb,po+31,none⟩) (by show pb<_;omega) (by simp)];exact Gj
 go_upto_region 4 with (fail)
 clear c31 Gj
 have G:w0.grownBy (w0.alloc (.cells bE.toArray 68)) none:=au (ah _ _) _
 have HT:dH (w0.alloc (.cells bE.toArray 68)):=HT0.grown (au (ah _ _) _)
 have hR:aF (w0.alloc (.cells bE.toArray 68)) (w0.heap.size) 68 bE:=aF.new w0 bE _
 have Mt:=HD.out.1.kept G (by simp)
 revert G HT hR Mt
 generalize w0.alloc (.cells bE.toArray 68)=W0
 intro G HT hR Mt
 have lR:=hR.lt
 go_wp2_with fail
 refine (sO B pb po 32 c l _ HD.out.2.1 (by decide) (by decide) Mt).mono ?_
 rintro e W1 ⟨g,c',rfl,ho,hg⟩
 obtain⟨gl,gb_,hc'⟩:=og ho
 have hlen:(l.map dG).length=32:=by rw[List.length_map];exact HD.out.2.1
 have Xl:W1.cell? ⟨g,31,none⟩=some (.int .u8 (x:Int)):=nO ho (j:=31) (by rw[List.getElem?_map,List.getElem?_eq_getElem (by have:=HD.out.2.1;omega),HX.out,List.getD_eq_getElem?_getD,List.getElem?_eq_getElem (by have:=HD.out.2.1;omega)];rfl)
 have f31:=AL ho 31
 have wP:=Er (i:=31) ho (.int .u8 ((x:Int)%128))
 rw[HX.out,Ev,<- HX.out]at wP
 replace G:=aJ (aj G hg) (p:=⟨g,31,none⟩) (by show _<=g;have:=G.size;omega) (.int .u8 ((x:Int)%128))
 replace hR:=(hR.gn hg).other (a:=⟨g,31,none⟩) (by show g≠_;omega) (.int .u8 ((x:Int)%128))
 replace HT:=(HT.grown hg).keep (aQ (ah _ (some g)) 31 (.int .u8 ((x:Int)%128))) (HT0.jS (by omega))
 have HS:=Lib.hid (And.intro wP (And.intro G (And.intro hR HT)));clear ho wP G hR HT hg Mt hlen
 go_upto_region 6 with (fail)
 obtain⟨wP,G,hR,HT⟩:=HS.out
 clear HS Xl f31 hand hnot
 revert wP G hR HT
 generalize W1.setCell ⟨g,31,none⟩ (.int .u8 ((x:Int)%128))=W5
 intro wP G hR HT
 have hcg:∀i,i<32->W5.cell? ⟨g,0+i,none⟩=some (.int .u8 (iE l i)):=fun i hi=>AQ HD.out.2.1 wP i hi
 have hgl:g<W5.heap.size:=(og wP).1
 have Rs:=Lib.hid (And.intro hcg hgl);clear hcg wP hgl
 have GX:=G
 have lC:=G.size
 have lq:=hR.lt
 refine Fg.rP [6] [.any,.any,.any,.any,.any,.any,.fresh 66 gT W5.heap.size,.any,.any,.any,.any,.any,.any,.any,.any,.any,.any,.any,.any,.any,.any,.any,.any,.any,.any,.val (Value.tuple #[Fe.bL.v,.bool false]),.val (Value.slice (some ⟨g,0,none⟩) 32 c'),.val (Value.tuple #[Fe.bL.v,.bool false]),.val (Fe.bL.v),.val (Value.bool false)] 6 ?_ ?_
 .refine Fg.vS rfl (by decide) (fun _ _ h=>Fg.vn _ (Fg.run_move rfl (h.r 5))) ?_
  refine Fg.cS rfl (by decide) (fun ac w h=>?_) ?_
  .have e26:_=Value.slice (some ⟨g,0,none⟩) 32 c':=h.d 26
   refine⟨aB rfl,142,#[Value.slice (some ⟨g,0,none⟩) 32 c'],Fg.aN rfl rfl (by simp only[List.map_toArray,List.map_cons,List.map_nil,Act.eval,e26]) (Fg.aI Tryz.func142 (by kernel_rfl) (by kernel_rfl)),?_⟩
   exact (Vm g 0 c' (iE l) _ hc' (o8 l HD.out.1.byte) (fun i hi=>by rw[aZ h.base (p:=⟨g,0+i,none⟩) Rs.out.2 (by simp)];exact Rs.out.1 i hi) (Nat.lt_of_lt_of_le Rs.out.2 h.base.size) hyp).mono fun _ _ ⟨he,hg⟩=>⟨_,he,hg,rfl⟩
  refine Fg.vS rfl (by decide) (fun _ _ h=>Fg.vn _ (Fg.run_move rfl (h.d 27))) ?_
  refine Fg.vS rfl (by decide) (fun _ _ h=>Fg.vn Fe.bL.v (Fg.cO rfl (h.d 25) rfl)) ?_
  refine Fg.vS rfl (by decide) (fun _ _ h=>Fg.vn _ (Fg.cO rfl (h.d 25) rfl)) ?_
  refine⟨⟨⟨_,rfl⟩,Fg.gD (fun _ _ h k=>aj h k) rfl (by show 6<49;decide) fun ac w h=>?_⟩,?_⟩
  .refine⟨aB rfl,w.alloc (.cells gT.toArray 66),?_,World.grownBy_alloc _ _ _,by simp,⟨w.heap.size,rfl,h.base.size,aF.new w gT _⟩⟩
   clear h
   go_simp
  trivial
 .intro qa V1 g1 hsz hdf hrest aC hpt
  obtain⟨u0,hs0⟩:=Fg.bP qa 0
  obtain⟨u1,hs1⟩:=Fg.bP qa 1
  obtain⟨N6,hs6,Og,hb6⟩:∃N,qa.tmps.getD 6 undef=.pointer (some ⟨N,0,none⟩)/\W5.heap.size<=N/\aF V1 N 66 gT:=aC 6 (by kernel_rfl)
  obtain⟨⟨u7,hs7⟩,⟨u9,jA⟩,⟨u10,fI⟩,⟨u11,dX⟩,⟨u12,fG⟩,⟨u13,dM⟩,⟨u14,dB⟩,⟨u15,dO⟩,⟨u16,dI⟩,⟨u17,dY⟩,⟨u18,dZ⟩,⟨u19,d9⟩,⟨u20,dS⟩,⟨u21,eG⟩,⟨u22,eH⟩,⟨u23,dU⟩,⟨u24,dP⟩,⟨u25,eD⟩,⟨u26,eF⟩,⟨u27,fH⟩,⟨u30,iQ⟩,⟨u31,gJ⟩,⟨u32,jN⟩,⟨u33,jv⟩,⟨u34,iY⟩,⟨u35,jO⟩,⟨u36,jP⟩,⟨u37,kP⟩,⟨u38,kQ⟩,⟨u39,oh⟩,⟨u40,oo⟩,⟨u41,ql⟩,⟨u42,mo⟩,⟨u43,sP⟩,⟨u44,qm⟩,⟨u45,mq⟩,⟨u46,mD⟩,⟨u47,oq⟩,⟨u48,sQ⟩,_⟩:=Fg.bn qa [7,9,10,11,12,13,14,15,16,17,18,19,20,21,22,23,24,25,26,27,30,31,32,33,34,35,36,37,38,39,40,41,42,43,44,45,46,47,48]
  obtain rfl:=Fg.aP [0,1,6,7,9,10,11,12,13,14,15,16,17,18,19,20,21,22,23,24,25,26,27,28,29,30,31,32,33,34,35,36,37,38,39,40,41,42,43,44,45,46,47,48] (vs:=[u0,u1,_,_,_,_,Value.pointer (some ⟨N6,0,none⟩),u7,_,u9,u10,u11,u12,u13,u14,u15,u16,u17,u18,u19,u20,u21,u22,u23,u24,u25,u26,u27,Fe.bL.v,Value.bool false,u30,u31,u32,u33,u34,u35,u36,u37,u38,u39,u40,u41,u42,u43,u44,u45,u46,u47,u48]) hsz hrest (by kernel_rfl) rfl rfl ⟨hs0,hs1,hs6,hs7,jA,fI,dX,fG,dM,dB,dO,dI,dY,dZ,d9,dS,eG,eH,dU,dP,eD,eF,fH,(show qa.tmps.getD 28 undef=Fe.bL.v from aC 28 (by kernel_rfl)),(show qa.tmps.getD 29 undef=Value.bool false from aC 29 (by kernel_rfl)),iQ,gJ,jN,jv,iY,jO,jP,kP,kQ,oh,oo,ql,mo,sP,qm,mq,mD,oq,sQ,trivial⟩ hdf
  clear hsz hdf hrest aC hpt hs0 hs1 hs6 hs7 jA fI dX fG dM dB dO dI dY dZ d9 dS eG eH dU dP eD eF fH iQ gJ jN jv iY jO jP kP kQ oh oo ql mo sP qm mq mD oq sQ
  replace hR:=hR.gn g1
  replace G:=aj G g1
  replace HT:=HT.grown g1
  have Di:w0.heap.size<=N6:=Nat.le_trans lC Og
  clear g1
  refine Fg.aU rfl rfl (Fg.run_store (cs:=aR Fe.bL) rfl rfl rfl (hb6.there 0 5 (by show 0+5<=5;decide)) aD (dn _)) ?_
  replace hR:=hR.ak (C:=N6) (cs:=aR Fe.bL) 0 (by omega)
  replace hb6:aF (V1.setCells N6 0 (aR Fe.bL)) N6 66 (aR Fe.bL):=hb6.bG rfl
  replace G:=aH (cs:=aR Fe.bL) G (B:=N6) (Di) 0
  replace HT:=HT.keep (aK (cs:=aR Fe.bL) (ah _ (some N6)) 0) (HT0.jS (Di))
  revert hR hb6 G HT
  generalize V1.setCells N6 0 (aR Fe.bL)=W2
  intro hR hb6 G HT
  go_upto_region 8 with (fail)
  have vU:=G.size
  have qI:=hR.lt
  have Gc:=hb6.lt
  refine Fg.rP [] [.any,.any,.any,.any,.any,.any,.any,.any,.any,.any,.any,.any,.any,.any,.any,.any,.any,.any,.any,.any,.any,.any,.any,.any,.any,.any,.any,.any,.any,.any,.any,.any,.val (cB.v)] 1 ?_ ?_
  .refine Fg.vS rfl (by decide) (fun ac w h=>?_) ?_
   .exact Fg.vn cB.v (Fg.run_build (vs:=#[]) rfl (by simp) (by kernel_rfl))
   trivial
  .intro qa V3 g3 hsz hdf hrest aC hpt
   obtain⟨u30,iQ⟩:=Fg.bP qa 30
   obtain⟨u31,gJ⟩:=Fg.bP qa 31
   obtain rfl:=Fg.aP [30,31,32] (vs:=[_,_,_,_,_,_,_,_,_,_,_,_,_,_,_,_,_,_,_,_,_,_,_,_,_,_,_,_,_,_,u30,u31,cB.v,_,_,_,_,_,_,_,_,_,_,_,_,_,_,_,_]) hsz hrest (by kernel_rfl) rfl rfl ⟨iQ,gJ,(show qa.tmps.getD 32 undef=cB.v from aC 32 (by kernel_rfl)),trivial⟩ hdf
   clear hsz hdf hrest aC hpt iQ gJ
   replace hR:=hR.gn g3
   replace hb6:=hb6.gn g3
   replace G:=aj G g3
   replace HT:=HT.grown g3
   clear g3
   refine Fg.aU rfl rfl (Fg.run_store (cs:=aY cB) rfl rfl rfl (hR.there 0 20 (by show 0+20<=20;decide)) aO (gH _)) ?_
   replace hR:aF (V3.setCells w0.heap.size 0 (aY cB)) w0.heap.size 68 (aY cB):=hR.bG rfl
   replace hb6:=hb6.ak (C:=w0.heap.size) (cs:=aY cB) 0 (by omega)
   replace G:=aH (cs:=aY cB) G (B:=w0.heap.size) (by omega) 0
   replace HT:=HT.keep (aK (cs:=aY cB) (ah _ (some w0.heap.size)) 0) (HT0.jS (by omega))
   revert hR hb6 G HT
   generalize V3.setCells w0.heap.size 0 (aY cB)=W4
   intro hR hb6 G HT
   go_wp2_with fail
   exact bodyPost_ret (v:=.tuple #[cB.v,.bool false]) (dA Tryz.results116 _ _ w0.heap.size 68 (aY cB).toArray (0,0) _ rfl hR Tryz.underlying68 rfl aO rfl) rfl ⟨rfl,G⟩
set_option maxRecDepth 100000 in
set_option maxHeartbeats 3200000 in
theorem abd (B:Nat) (a:Option Addr) (c:Nat) (l:List Nat) (w0:World) (HT0:dH w0) (hl:l.length=32) (hP:BytesAt w0 B a c l) (hyp:aS (iE l) 32<57896044618658097711785492504343953926634992332820282019728792003956564819949) (xa:Fe) (Yt:jF (fC (aS (iE l) 32)) (AP l)=(xa,false)):
  Calls Tryz.prog 116 #[.slice a 32 c] w0 fun e w'=>e=.returned (.tuple #[(cB).v,.bool false])/\w0.grownBy w' none:=by
 have hc32:=hP.fits
 have P7:=hP
 obtain⟨pb,po,rfl,hpb,hcells⟩:=hP.cells.resolve_left (by omega)
 have hx:=hP.byte 31
 have c31:w0.cell? ⟨pb,po+31,none⟩=some (.int .u8 ((l.getD 31 0:Nat):Int)):=hcells 31 (by omega)
 have hBl:=hP.lim
 have hand:=Et _ hx
 have hnot:=Eu _ hx
 have HD:=Lib.hid (And.intro hP (And.intro hl hc32));clear hP P7 hcells hl hc32
 obtain⟨x,hxe⟩:∃x,x=l.getD 31 0:=⟨_,rfl⟩
 rw[<- hxe]at hx c31 hand hnot
 have hodd:AP l=decide (128<=x):=by unfold AP;rw[hxe]
 obtain⟨odd,hoe⟩:∃b,b=decide (128<=x):=⟨_,rfl⟩
 rw[<- hoe]at hand hodd
 have HX:=Lib.hid hxe;clear hxe
 have HO:=Lib.hid hodd;clear hodd hoe
 go_enter Tryz.func116,Tryz.ntmps116
 have Gj:=c31
 replace c31:(w0.alloc (.cells bE.toArray 68)).cell? ⟨pb,po+31,none⟩=some (.int .u8 (x:Int)):=by rw[aZ (au (ah w0 none) _) (p:=⟨pb,po+31,none⟩) (by show pb<_;omega) (by simp)];exact Gj
 go_upto_region 4 with (fail)
 clear c31 Gj
 have G:w0.grownBy (w0.alloc (.cells bE.toArray 68)) none:=au (ah _ _) _
 have HT:dH (w0.alloc (.cells bE.toArray 68)):=HT0.grown (au (ah _ _) _)
 have hR:aF (w0.alloc (.cells bE.toArray 68)) (w0.heap.size) 68 bE:=aF.new w0 bE _
 have Mt:=HD.out.1.kept G (by simp)
 revert G HT hR Mt
 generalize w0.alloc (.cells bE.toArray 68)=W0
 intro G HT hR Mt
 have lR:=hR.lt
 go_wp2_with fail
 refine (sO B pb po 32 c l _ HD.out.2.1 (by decide) (by decide) Mt).mono ?_
 rintro e W1 ⟨g,c',rfl,ho,hg⟩
 obtain⟨gl,gb_,hc'⟩:=og ho
 have hlen:(l.map dG).length=32:=by rw[List.length_map];exact HD.out.2.1
 have Xl:W1.cell? ⟨g,31,none⟩=some (.int .u8 (x:Int)):=nO ho (j:=31) (by rw[List.getElem?_map,List.getElem?_eq_getElem (by have:=HD.out.2.1;omega),HX.out,List.getD_eq_getElem?_getD,List.getElem?_eq_getElem (by have:=HD.out.2.1;omega)];rfl)
 have f31:=AL ho 31
 have wP:=Er (i:=31) ho (.int .u8 ((x:Int)%128))
 rw[HX.out,Ev,<- HX.out]at wP
 replace G:=aJ (aj G hg) (p:=⟨g,31,none⟩) (by show _<=g;have:=G.size;omega) (.int .u8 ((x:Int)%128))
 replace hR:=(hR.gn hg).other (a:=⟨g,31,none⟩) (by show g≠_;omega) (.int .u8 ((x:Int)%128))
 replace HT:=(HT.grown hg).keep (aQ (ah _ (some g)) 31 (.int .u8 ((x:Int)%128))) (HT0.jS (by omega))
 have HS:=Lib.hid (And.intro wP (And.intro G (And.intro hR HT)));clear ho wP G hR HT hg Mt hlen
 go_upto_region 6 with (fail)
 obtain⟨wP,G,hR,HT⟩:=HS.out
 clear HS Xl f31 hand hnot
 revert wP G hR HT
 generalize W1.setCell ⟨g,31,none⟩ (.int .u8 ((x:Int)%128))=W5
 intro wP G hR HT
 have hcg:∀i,i<32->W5.cell? ⟨g,0+i,none⟩=some (.int .u8 (iE l i)):=fun i hi=>AQ HD.out.2.1 wP i hi
 have hgl:g<W5.heap.size:=(og wP).1
 have Rs:=Lib.hid (And.intro hcg hgl);clear hcg wP hgl
 have GX:=G
 have lC:=G.size
 have lq:=hR.lt
 refine Fg.rP [6] [.any,.any,.any,.any,.any,.any,.fresh 66 gT W5.heap.size,.any,.any,.any,.any,.any,.any,.any,.any,.any,.any,.any,.any,.any,.any,.any,.any,.any,.any,.val (Value.tuple #[(fC (aS (iE l) 32)).v,.bool true]),.val (Value.slice (some ⟨g,0,none⟩) 32 c'),.val (Value.tuple #[(fC (aS (iE l) 32)).v,.bool true]),.val ((fC (aS (iE l) 32)).v),.val (Value.bool true)] 6 ?_ ?_
 .refine Fg.vS rfl (by decide) (fun _ _ h=>Fg.vn _ (Fg.run_move rfl (h.r 5))) ?_
  refine Fg.cS rfl (by decide) (fun ac w h=>?_) ?_
  .have e26:_=Value.slice (some ⟨g,0,none⟩) 32 c':=h.d 26
   refine⟨aB rfl,142,#[Value.slice (some ⟨g,0,none⟩) 32 c'],Fg.aN rfl rfl (by simp only[List.map_toArray,List.map_cons,List.map_nil,Act.eval,e26]) (Fg.aI Tryz.func142 (by kernel_rfl) (by kernel_rfl)),?_⟩
   exact (Gg g 0 c' (iE l) _ hc' (o8 l HD.out.1.byte) (fun i hi=>by rw[aZ h.base (p:=⟨g,0+i,none⟩) Rs.out.2 (by simp)];exact Rs.out.1 i hi) (Nat.lt_of_lt_of_le Rs.out.2 h.base.size) hyp).mono fun _ _ ⟨he,hg⟩=>⟨_,he,hg,rfl⟩
  refine Fg.vS rfl (by decide) (fun _ _ h=>Fg.vn _ (Fg.run_move rfl (h.d 27))) ?_
  refine Fg.vS rfl (by decide) (fun _ _ h=>Fg.vn _ (Fg.cO rfl (h.d 25) rfl)) ?_
  refine Fg.vS rfl (by decide) (fun _ _ h=>Fg.vn _ (Fg.cO rfl (h.d 25) rfl)) ?_
  refine⟨⟨⟨_,rfl⟩,Fg.gD (fun _ _ h k=>aj h k) rfl (by show 6<49;decide) fun ac w h=>?_⟩,?_⟩
  .refine⟨aB rfl,w.alloc (.cells gT.toArray 66),?_,World.grownBy_alloc _ _ _,by simp,⟨w.heap.size,rfl,h.base.size,aF.new w gT _⟩⟩
   clear h
   go_simp
  trivial
 .intro qa V1 g1 hsz hdf hrest aC hpt
  obtain⟨u0,hs0⟩:=Fg.bP qa 0
  obtain⟨u1,hs1⟩:=Fg.bP qa 1
  obtain⟨N6,hs6,Og,hb6⟩:∃N,qa.tmps.getD 6 undef=.pointer (some ⟨N,0,none⟩)/\W5.heap.size<=N/\aF V1 N 66 gT:=aC 6 (by kernel_rfl)
  obtain⟨⟨u7,hs7⟩,⟨u9,jA⟩,⟨u10,fI⟩,⟨u11,dX⟩,⟨u12,fG⟩,⟨u13,dM⟩,⟨u14,dB⟩,⟨u15,dO⟩,⟨u16,dI⟩,⟨u17,dY⟩,⟨u18,dZ⟩,⟨u19,d9⟩,⟨u20,dS⟩,⟨u21,eG⟩,⟨u22,eH⟩,⟨u23,dU⟩,⟨u24,dP⟩,⟨u25,eD⟩,⟨u26,eF⟩,⟨u27,fH⟩,_⟩:=Fg.bn qa [7,9,10,11,12,13,14,15,16,17,18,19,20,21,22,23,24,25,26,27]
  obtain⟨x1,hx1⟩:∃x:Fe,x=fC (aS (iE l) 32):=⟨_,rfl⟩
  obtain⟨⟨u30,iQ⟩,⟨u31,gJ⟩,⟨u32,jN⟩,⟨u33,jv⟩,⟨u34,iY⟩,⟨u35,jO⟩,⟨u36,jP⟩,⟨u37,kP⟩,⟨u38,kQ⟩,⟨u39,oh⟩,⟨u40,oo⟩,⟨u41,ql⟩,⟨u42,mo⟩,⟨u43,sP⟩,⟨u44,qm⟩,⟨u45,mq⟩,⟨u46,mD⟩,⟨u47,oq⟩,⟨u48,sQ⟩,_⟩:=Fg.bn qa [30,31,32,33,34,35,36,37,38,39,40,41,42,43,44,45,46,47,48]
  obtain rfl:=Fg.aP [0,1,6,7,9,10,11,12,13,14,15,16,17,18,19,20,21,22,23,24,25,26,27,28,29,30,31,32,33,34,35,36,37,38,39,40,41,42,43,44,45,46,47,48] (vs:=[u0,u1,_,_,_,_,Value.pointer (some ⟨N6,0,none⟩),u7,_,u9,u10,u11,u12,u13,u14,u15,u16,u17,u18,u19,u20,u21,u22,u23,u24,u25,u26,u27,x1.v,Value.bool true,u30,u31,u32,u33,u34,u35,u36,u37,u38,u39,u40,u41,u42,u43,u44,u45,u46,u47,u48]) hsz hrest (by kernel_rfl) rfl rfl ⟨hs0,hs1,hs6,hs7,jA,fI,dX,fG,dM,dB,dO,dI,dY,dZ,d9,dS,eG,eH,dU,dP,eD,eF,fH,(show qa.tmps.getD 28 undef=x1.v by rw[hx1];exact aC 28 (by kernel_rfl)),(show qa.tmps.getD 29 undef=Value.bool true from aC 29 (by kernel_rfl)),iQ,gJ,jN,jv,iY,jO,jP,kP,kQ,oh,oo,ql,mo,sP,qm,mq,mD,oq,sQ,trivial⟩ hdf
  clear hsz hdf hrest aC hpt hs0 hs1 hs6 hs7 jA fI dX fG dM dB dO dI dY dZ d9 dS eG eH dU dP eD eF fH iQ gJ jN jv iY jO jP kP kQ oh oo ql mo sP qm mq mD oq sQ
  have mU:=Lib.hid hx1;clear hx1
  replace hR:=hR.gn g1
  replace G:=aj G g1
  replace HT:=HT.grown g1
  have mg:x1.Ok:=by rw[mU.out];exact (mh (gM (iE l) (o8 l HD.out.1.byte) 32).1 (gM (iE l) (o8 l HD.out.1.byte) 32).2).ok
  have Di:w0.heap.size<=N6:=Nat.le_trans lC Og
  clear g1
  refine Fg.aU rfl rfl (Fg.run_store (cs:=aR x1) rfl rfl rfl (hb6.there 0 5 (by show 0+5<=5;decide)) aD (dn _)) ?_
  replace hR:=hR.ak (C:=N6) (cs:=aR x1) 0 (by omega)
  replace hb6:aF (V1.setCells N6 0 (aR x1)) N6 66 (aR x1):=hb6.bG rfl
  replace G:=aH (cs:=aR x1) G (B:=N6) (Di) 0
  replace HT:=HT.keep (aK (cs:=aR x1) (ah _ (some N6)) 0) (HT0.jS (Di))
  revert hR hb6 G HT
  generalize V1.setCells N6 0 (aR x1)=W2
  intro hR hb6 G HT
  have hac:jF x1 odd=(xa,false):=by rw[mU.out,<- HO.out];exact Yt
  have hxa:xa.Ok:=by have:=Dm x1 odd;rw[hac]at this;exact this
  have HAC:=Lib.hid hac;clear hac
  go_upto_region 9 with (fail)
  have vU:=G.size
  have qI:=hR.lt
  have Gc:=hb6.lt
  refine Fg.rP [8] [.any,.any,.any,.any,.any,.any,.any,.any,.fresh 66 gT W2.heap.size,.any,.any,.any,.any,.any,.any,.any,.any,.any,.any,.any,.any,.any,.any,.any,.any,.any,.any,.any,.any,.any,.any,.any,.any,.val (Value.tuple #[xa.v,.bool false]),.val (x1.v),.val (Value.bool odd),.val (Value.tuple #[xa.v,.bool false]),.val (xa.v),.val (Value.bool false)] 7 ?_ ?_
  .refine Fg.vS rfl (by decide) (fun _ _ h=>Fg.vn x1.v (Fg.run_load rfl (h.r 6) ((hb6.gn h.base).range 0 (aR x1) rfl) Tryz.underlying66 rfl aD)) ?_
   refine Fg.vS rfl (by decide) (fun _ _ h=>Fg.vn _ (Fg.run_move rfl (h.r 4))) ?_
   refine Fg.cS rfl (by decide) (fun _ w h=>Fg.cq rfl ((show lu 143 #[x1.v,.bool odd] w (.tuple #[xa.v,.bool false]) from by have hh:=Gf x1 odd w (HT.grown h.base) mg;rw[HAC.out]at hh;exact hh)) ⟨h.d 34,h.d 35,trivial⟩ Tryz.func143) ?_
   refine Fg.vS rfl (by decide) (fun _ _ h=>Fg.vn _ (Fg.run_move rfl (h.d 36))) ?_
   refine Fg.vS rfl (by decide) (fun _ _ h=>Fg.vn xa.v (Fg.cO rfl (h.d 33) rfl)) ?_
   refine Fg.vS rfl (by decide) (fun _ _ h=>Fg.vn _ (Fg.cO rfl (h.d 33) rfl)) ?_
   refine⟨⟨⟨_,rfl⟩,Fg.gD (fun _ _ h k=>aj h k) rfl (by show 8<49;decide) fun ac w h=>?_⟩,?_⟩
   .refine⟨aB rfl,w.alloc (.cells gT.toArray 66),?_,World.grownBy_alloc _ _ _,by simp,⟨w.heap.size,rfl,h.base.size,aF.new w gT _⟩⟩
    clear h
    go_simp
   trivial
  .intro qa V3 g3 hsz hdf hrest aC hpt
   obtain⟨N8,kZ,hn8,gu⟩:∃N,qa.tmps.getD 8 undef=.pointer (some ⟨N,0,none⟩)/\W2.heap.size<=N/\aF V3 N 66 gT:=aC 8 (by kernel_rfl)
   obtain⟨⟨u30,iQ⟩,⟨u31,gJ⟩,⟨u33,jv⟩,⟨u34,iY⟩,⟨u35,jO⟩,⟨u36,jP⟩,_⟩:=Fg.bn qa [30,31,33,34,35,36]
   obtain rfl:=Fg.aP [8,30,31,33,34,35,36,37,38] (vs:=[_,_,_,_,_,_,_,_,Value.pointer (some ⟨N8,0,none⟩),_,_,_,_,_,_,_,_,_,_,_,_,_,_,_,_,_,_,_,_,_,u30,u31,_,u33,u34,u35,u36,xa.v,Value.bool false,_,_,_,_,_,_,_,_,_,_]) hsz hrest (by kernel_rfl) rfl rfl ⟨kZ,iQ,gJ,jv,iY,jO,jP,(show qa.tmps.getD 37 undef=xa.v from aC 37 (by kernel_rfl)),(show qa.tmps.getD 38 undef=Value.bool false from aC 38 (by kernel_rfl)),trivial⟩ hdf
   clear hsz hdf hrest aC hpt kZ iQ gJ jv iY jO jP
   replace hR:=hR.gn g3
   replace hb6:=hb6.gn g3
   replace G:=aj G g3
   replace HT:=HT.grown g3
   have hw8:w0.heap.size<=N8:=Nat.le_trans vU hn8
   clear g3
   refine Fg.aU rfl rfl (Fg.run_store (cs:=aR xa) rfl rfl rfl (gu.there 0 5 (by show 0+5<=5;decide)) aD (dn _)) ?_
   replace hR:=hR.ak (C:=N8) (cs:=aR xa) 0 (by omega)
   replace hb6:=hb6.ak (C:=N8) (cs:=aR xa) 0 (by omega)
   replace gu:aF (V3.setCells N8 0 (aR xa)) N8 66 (aR xa):=gu.bG rfl
   replace G:=aH (cs:=aR xa) G (B:=N8) (hw8) 0
   replace HT:=HT.keep (aK (cs:=aR xa) (ah _ (some N8)) 0) (HT0.jS (hw8))
   revert hR hb6 gu G HT
   generalize V3.setCells N8 0 (aR xa)=W4
   intro hR hb6 gu G HT
   go_upto_region 11 with (fail)
   have Oh:=G.size
   have uJ:=hR.lt
   have yY:=hb6.lt
   have Xm:=gu.lt
   refine Fg.rP [] [.any,.any,.any,.any,.any,.any,.any,.any,.any,.any,.any,.any,.any,.any,.any,.any,.any,.any,.any,.any,.any,.any,.any,.any,.any,.any,.any,.any,.any,.any,.any,.any,.any,.any,.any,.any,.any,.any,.any,.any,.any,.val (cB.v)] 1 ?_ ?_
   .refine Fg.vS rfl (by decide) (fun ac w h=>?_) ?_
    .exact Fg.vn cB.v (Fg.run_build (vs:=#[]) rfl (by simp) (by kernel_rfl))
    trivial
   .intro qa V5 g5 hsz hdf hrest aC hpt
    obtain⟨u39,oh⟩:=Fg.bP qa 39
    obtain⟨u40,oo⟩:=Fg.bP qa 40
    obtain rfl:=Fg.aP [39,40,41] (vs:=[_,_,_,_,_,_,_,_,_,_,_,_,_,_,_,_,_,_,_,_,_,_,_,_,_,_,_,_,_,_,_,_,_,_,_,_,_,_,_,u39,u40,cB.v,_,_,_,_,_,_,_]) hsz hrest (by kernel_rfl) rfl rfl ⟨oh,oo,(show qa.tmps.getD 41 undef=cB.v from aC 41 (by kernel_rfl)),trivial⟩ hdf
    clear hsz hdf hrest aC hpt oh oo
    replace hR:=hR.gn g5
    replace hb6:=hb6.gn g5
    replace gu:=gu.gn g5
    replace G:=aj G g5
    replace HT:=HT.grown g5
    clear g5
    refine Fg.aU rfl rfl (Fg.run_store (cs:=aY cB) rfl rfl rfl (hR.there 0 20 (by show 0+20<=20;decide)) aO (gH _)) ?_
    replace hR:aF (V5.setCells w0.heap.size 0 (aY cB)) w0.heap.size 68 (aY cB):=hR.bG rfl
    replace hb6:=hb6.ak (C:=w0.heap.size) (cs:=aY cB) 0 (by omega)
    replace gu:=gu.ak (C:=w0.heap.size) (cs:=aY cB) 0 (by omega)
    replace G:=aH (cs:=aY cB) G (B:=w0.heap.size) (by omega) 0
    replace HT:=HT.keep (aK (cs:=aY cB) (ah _ (some w0.heap.size)) 0) (HT0.jS (by omega))
    revert hR hb6 gu G HT
    generalize V5.setCells w0.heap.size 0 (aY cB)=W6
    intro hR hb6 gu G HT
    go_wp2_with fail
    exact bodyPost_ret (v:=.tuple #[cB.v,.bool false]) (dA Tryz.results116 _ _ w0.heap.size 68 (aY cB).toArray (0,0) _ rfl hR Tryz.underlying68 rfl aO rfl) rfl ⟨rfl,G⟩
set_option maxRecDepth 100000 in
set_option maxHeartbeats 3200000 in
theorem abf (B:Nat) (a:Option Addr) (c:Nat) (l:List Nat) (w0:World) (HT0:dH w0) (hl:l.length=32) (hP:BytesAt w0 B a c l) (hyp:aS (iE l) 32<57896044618658097711785492504343953926634992332820282019728792003956564819949) (xa:Fe) (Yt:jF (fC (aS (iE l) 32)) (AP l)=(xa,true)):
  Calls Tryz.prog 116 #[.slice a 32 c] w0 fun e w'=>e=.returned (.tuple #[((Pt.mk xa (fC (aS (iE l) 32)) Fe.dQ (Fe.aM xa (fC (aS (iE l) 32))))).v,.bool true])/\w0.grownBy w' none:=by
 have hc32:=hP.fits
 have P7:=hP
 obtain⟨pb,po,rfl,hpb,hcells⟩:=hP.cells.resolve_left (by omega)
 have hx:=hP.byte 31
 have c31:w0.cell? ⟨pb,po+31,none⟩=some (.int .u8 ((l.getD 31 0:Nat):Int)):=hcells 31 (by omega)
 have hBl:=hP.lim
 have hand:=Et _ hx
 have hnot:=Eu _ hx
 have HD:=Lib.hid (And.intro hP (And.intro hl hc32));clear hP P7 hcells hl hc32
 obtain⟨x,hxe⟩:∃x,x=l.getD 31 0:=⟨_,rfl⟩
 rw[<- hxe]at hx c31 hand hnot
 have hodd:AP l=decide (128<=x):=by unfold AP;rw[hxe]
 obtain⟨odd,hoe⟩:∃b,b=decide (128<=x):=⟨_,rfl⟩
 rw[<- hoe]at hand hodd
 have HX:=Lib.hid hxe;clear hxe
 have HO:=Lib.hid hodd;clear hodd hoe
 go_enter Tryz.func116,Tryz.ntmps116
 have Gj:=c31
 replace c31:(w0.alloc (.cells bE.toArray 68)).cell? ⟨pb,po+31,none⟩=some (.int .u8 (x:Int)):=by rw[aZ (au (ah w0 none) _) (p:=⟨pb,po+31,none⟩) (by show pb<_;omega) (by simp)];exact Gj
 go_upto_region 4 with (fail)
 clear c31 Gj
 have G:w0.grownBy (w0.alloc (.cells bE.toArray 68)) none:=au (ah _ _) _
 have HT:dH (w0.alloc (.cells bE.toArray 68)):=HT0.grown (au (ah _ _) _)
 have hR:aF (w0.alloc (.cells bE.toArray 68)) (w0.heap.size) 68 bE:=aF.new w0 bE _
 have Mt:=HD.out.1.kept G (by simp)
 revert G HT hR Mt
 generalize w0.alloc (.cells bE.toArray 68)=W0
 intro G HT hR Mt
 have lR:=hR.lt
 go_wp2_with fail
 refine (sO B pb po 32 c l _ HD.out.2.1 (by decide) (by decide) Mt).mono ?_
 rintro e W1 ⟨g,c',rfl,ho,hg⟩
 obtain⟨gl,gb_,hc'⟩:=og ho
 have hlen:(l.map dG).length=32:=by rw[List.length_map];exact HD.out.2.1
 have Xl:W1.cell? ⟨g,31,none⟩=some (.int .u8 (x:Int)):=nO ho (j:=31) (by rw[List.getElem?_map,List.getElem?_eq_getElem (by have:=HD.out.2.1;omega),HX.out,List.getD_eq_getElem?_getD,List.getElem?_eq_getElem (by have:=HD.out.2.1;omega)];rfl)
 have f31:=AL ho 31
 have wP:=Er (i:=31) ho (.int .u8 ((x:Int)%128))
 rw[HX.out,Ev,<- HX.out]at wP
 replace G:=aJ (aj G hg) (p:=⟨g,31,none⟩) (by show _<=g;have:=G.size;omega) (.int .u8 ((x:Int)%128))
 replace hR:=(hR.gn hg).other (a:=⟨g,31,none⟩) (by show g≠_;omega) (.int .u8 ((x:Int)%128))
 replace HT:=(HT.grown hg).keep (aQ (ah _ (some g)) 31 (.int .u8 ((x:Int)%128))) (HT0.jS (by omega))
 have HS:=Lib.hid (And.intro wP (And.intro G (And.intro hR HT)));clear ho wP G hR HT hg Mt hlen
 go_upto_region 6 with (fail)
 obtain⟨wP,G,hR,HT⟩:=HS.out
 clear HS Xl f31 hand hnot
 revert wP G hR HT
 generalize W1.setCell ⟨g,31,none⟩ (.int .u8 ((x:Int)%128))=W5
 intro wP G hR HT
 have hcg:∀i,i<32->W5.cell? ⟨g,0+i,none⟩=some (.int .u8 (iE l i)):=fun i hi=>AQ HD.out.2.1 wP i hi
 have hgl:g<W5.heap.size:=(og wP).1
 have Rs:=Lib.hid (And.intro hcg hgl);clear hcg wP hgl
 have GX:=G
 have lC:=G.size
 have lq:=hR.lt
 refine Fg.rP [6] [.any,.any,.any,.any,.any,.any,.fresh 66 gT W5.heap.size,.any,.any,.any,.any,.any,.any,.any,.any,.any,.any,.any,.any,.any,.any,.any,.any,.any,.any,.val (Value.tuple #[(fC (aS (iE l) 32)).v,.bool true]),.val (Value.slice (some ⟨g,0,none⟩) 32 c'),.val (Value.tuple #[(fC (aS (iE l) 32)).v,.bool true]),.val ((fC (aS (iE l) 32)).v),.val (Value.bool true)] 6 ?_ ?_
 .refine Fg.vS rfl (by decide) (fun _ _ h=>Fg.vn _ (Fg.run_move rfl (h.r 5))) ?_
  refine Fg.cS rfl (by decide) (fun ac w h=>?_) ?_
  .have e26:_=Value.slice (some ⟨g,0,none⟩) 32 c':=h.d 26
   refine⟨aB rfl,142,#[Value.slice (some ⟨g,0,none⟩) 32 c'],Fg.aN rfl rfl (by simp only[List.map_toArray,List.map_cons,List.map_nil,Act.eval,e26]) (Fg.aI Tryz.func142 (by kernel_rfl) (by kernel_rfl)),?_⟩
   exact (Gg g 0 c' (iE l) _ hc' (o8 l HD.out.1.byte) (fun i hi=>by rw[aZ h.base (p:=⟨g,0+i,none⟩) Rs.out.2 (by simp)];exact Rs.out.1 i hi) (Nat.lt_of_lt_of_le Rs.out.2 h.base.size) hyp).mono fun _ _ ⟨he,hg⟩=>⟨_,he,hg,rfl⟩
  refine Fg.vS rfl (by decide) (fun _ _ h=>Fg.vn _ (Fg.run_move rfl (h.d 27))) ?_
  refine Fg.vS rfl (by decide) (fun _ _ h=>Fg.vn _ (Fg.cO rfl (h.d 25) rfl)) ?_
  refine Fg.vS rfl (by decide) (fun _ _ h=>Fg.vn _ (Fg.cO rfl (h.d 25) rfl)) ?_
  refine⟨⟨⟨_,rfl⟩,Fg.gD (fun _ _ h k=>aj h k) rfl (by show 6<49;decide) fun ac w h=>?_⟩,?_⟩
  .refine⟨aB rfl,w.alloc (.cells gT.toArray 66),?_,World.grownBy_alloc _ _ _,by simp,⟨w.heap.size,rfl,h.base.size,aF.new w gT _⟩⟩
   clear h
   go_simp
  trivial
 .intro qa V1 g1 hsz hdf hrest aC hpt
  obtain⟨u0,hs0⟩:=Fg.bP qa 0
  obtain⟨u1,hs1⟩:=Fg.bP qa 1
  obtain⟨N6,hs6,Og,hb6⟩:∃N,qa.tmps.getD 6 undef=.pointer (some ⟨N,0,none⟩)/\W5.heap.size<=N/\aF V1 N 66 gT:=aC 6 (by kernel_rfl)
  obtain⟨⟨u7,hs7⟩,⟨u9,jA⟩,⟨u10,fI⟩,⟨u11,dX⟩,⟨u12,fG⟩,⟨u13,dM⟩,⟨u14,dB⟩,⟨u15,dO⟩,⟨u16,dI⟩,⟨u17,dY⟩,⟨u18,dZ⟩,⟨u19,d9⟩,⟨u20,dS⟩,⟨u21,eG⟩,⟨u22,eH⟩,⟨u23,dU⟩,⟨u24,dP⟩,⟨u25,eD⟩,⟨u26,eF⟩,⟨u27,fH⟩,_⟩:=Fg.bn qa [7,9,10,11,12,13,14,15,16,17,18,19,20,21,22,23,24,25,26,27]
  obtain⟨x1,hx1⟩:∃x:Fe,x=fC (aS (iE l) 32):=⟨_,rfl⟩
  obtain⟨⟨u30,iQ⟩,⟨u31,gJ⟩,⟨u32,jN⟩,⟨u33,jv⟩,⟨u34,iY⟩,⟨u35,jO⟩,⟨u36,jP⟩,⟨u37,kP⟩,⟨u38,kQ⟩,⟨u39,oh⟩,⟨u40,oo⟩,⟨u41,ql⟩,⟨u42,mo⟩,⟨u43,sP⟩,⟨u44,qm⟩,⟨u45,mq⟩,⟨u46,mD⟩,⟨u47,oq⟩,⟨u48,sQ⟩,_⟩:=Fg.bn qa [30,31,32,33,34,35,36,37,38,39,40,41,42,43,44,45,46,47,48]
  obtain rfl:=Fg.aP [0,1,6,7,9,10,11,12,13,14,15,16,17,18,19,20,21,22,23,24,25,26,27,28,29,30,31,32,33,34,35,36,37,38,39,40,41,42,43,44,45,46,47,48] (vs:=[u0,u1,_,_,_,_,Value.pointer (some ⟨N6,0,none⟩),u7,_,u9,u10,u11,u12,u13,u14,u15,u16,u17,u18,u19,u20,u21,u22,u23,u24,u25,u26,u27,x1.v,Value.bool true,u30,u31,u32,u33,u34,u35,u36,u37,u38,u39,u40,u41,u42,u43,u44,u45,u46,u47,u48]) hsz hrest (by kernel_rfl) rfl rfl ⟨hs0,hs1,hs6,hs7,jA,fI,dX,fG,dM,dB,dO,dI,dY,dZ,d9,dS,eG,eH,dU,dP,eD,eF,fH,(show qa.tmps.getD 28 undef=x1.v by rw[hx1];exact aC 28 (by kernel_rfl)),(show qa.tmps.getD 29 undef=Value.bool true from aC 29 (by kernel_rfl)),iQ,gJ,jN,jv,iY,jO,jP,kP,kQ,oh,oo,ql,mo,sP,qm,mq,mD,oq,sQ,trivial⟩ hdf
  clear hsz hdf hrest aC hpt hs0 hs1 hs6 hs7 jA fI dX fG dM dB dO dI dY dZ d9 dS eG eH dU dP eD eF fH iQ gJ jN jv iY jO jP kP kQ oh oo ql mo sP qm mq mD oq sQ
  have mU:=Lib.hid hx1;clear hx1
  replace hR:=hR.gn g1
  replace G:=aj G g1
  replace HT:=HT.grown g1
  have mg:x1.Ok:=by rw[mU.out];exact (mh (gM (iE l) (o8 l HD.out.1.byte) 32).1 (gM (iE l) (o8 l HD.out.1.byte) 32).2).ok
  have Di:w0.heap.size<=N6:=Nat.le_trans lC Og
  clear g1
  refine Fg.aU rfl rfl (Fg.run_store (cs:=aR x1) rfl rfl rfl (hb6.there 0 5 (by show 0+5<=5;decide)) aD (dn _)) ?_
  replace hR:=hR.ak (C:=N6) (cs:=aR x1) 0 (by omega)
  replace hb6:aF (V1.setCells N6 0 (aR x1)) N6 66 (aR x1):=hb6.bG rfl
  replace G:=aH (cs:=aR x1) G (B:=N6) (Di) 0
  replace HT:=HT.keep (aK (cs:=aR x1) (ah _ (some N6)) 0) (HT0.jS (Di))
  revert hR hb6 G HT
  generalize V1.setCells N6 0 (aR x1)=W2
  intro hR hb6 G HT
  have hac:jF x1 odd=(xa,true):=by rw[mU.out,<- HO.out];exact Yt
  have hxa:xa.Ok:=by have:=Dm x1 odd;rw[hac]at this;exact this
  have HAC:=Lib.hid hac;clear hac
  go_upto_region 9 with (fail)
  have vU:=G.size
  have qI:=hR.lt
  have Gc:=hb6.lt
  refine Fg.rP [8] [.any,.any,.any,.any,.any,.any,.any,.any,.fresh 66 gT W2.heap.size,.any,.any,.any,.any,.any,.any,.any,.any,.any,.any,.any,.any,.any,.any,.any,.any,.any,.any,.any,.any,.any,.any,.any,.any,.val (Value.tuple #[xa.v,.bool true]),.val (x1.v),.val (Value.bool odd),.val (Value.tuple #[xa.v,.bool true]),.val (xa.v),.val (Value.bool true)] 7 ?_ ?_
  .refine Fg.vS rfl (by decide) (fun _ _ h=>Fg.vn x1.v (Fg.run_load rfl (h.r 6) ((hb6.gn h.base).range 0 (aR x1) rfl) Tryz.underlying66 rfl aD)) ?_
   refine Fg.vS rfl (by decide) (fun _ _ h=>Fg.vn _ (Fg.run_move rfl (h.r 4))) ?_
   refine Fg.cS rfl (by decide) (fun _ w h=>Fg.cq rfl ((show lu 143 #[x1.v,.bool odd] w (.tuple #[xa.v,.bool true]) from by have hh:=Gf x1 odd w (HT.grown h.base) mg;rw[HAC.out]at hh;exact hh)) ⟨h.d 34,h.d 35,trivial⟩ Tryz.func143) ?_
   refine Fg.vS rfl (by decide) (fun _ _ h=>Fg.vn _ (Fg.run_move rfl (h.d 36))) ?_
   refine Fg.vS rfl (by decide) (fun _ _ h=>Fg.vn xa.v (Fg.cO rfl (h.d 33) rfl)) ?_
   refine Fg.vS rfl (by decide) (fun _ _ h=>Fg.vn _ (Fg.cO rfl (h.d 33) rfl)) ?_
   refine⟨⟨⟨_,rfl⟩,Fg.gD (fun _ _ h k=>aj h k) rfl (by show 8<49;decide) fun ac w h=>?_⟩,?_⟩
   .refine⟨aB rfl,w.alloc (.cells gT.toArray 66),?_,World.grownBy_alloc _ _ _,by simp,⟨w.heap.size,rfl,h.base.size,aF.new w gT _⟩⟩
    clear h
    go_simp
   trivial
  .intro qa V3 g3 hsz hdf hrest aC hpt
   obtain⟨N8,kZ,hn8,gu⟩:∃N,qa.tmps.getD 8 undef=.pointer (some ⟨N,0,none⟩)/\W2.heap.size<=N/\aF V3 N 66 gT:=aC 8 (by kernel_rfl)
   obtain⟨⟨u30,iQ⟩,⟨u31,gJ⟩,⟨u33,jv⟩,⟨u34,iY⟩,⟨u35,jO⟩,⟨u36,jP⟩,_⟩:=Fg.bn qa [30,31,33,34,35,36]
   obtain rfl:=Fg.aP [8,30,31,33,34,35,36,37,38] (vs:=[_,_,_,_,_,_,_,_,Value.pointer (some ⟨N8,0,none⟩),_,_,_,_,_,_,_,_,_,_,_,_,_,_,_,_,_,_,_,_,_,u30,u31,_,u33,u34,u35,u36,xa.v,Value.bool true,_,_,_,_,_,_,_,_,_,_]) hsz hrest (by kernel_rfl) rfl rfl ⟨kZ,iQ,gJ,jv,iY,jO,jP,(show qa.tmps.getD 37 undef=xa.v from aC 37 (by kernel_rfl)),(show qa.tmps.getD 38 undef=Value.bool true from aC 38 (by kernel_rfl)),trivial⟩ hdf
   clear hsz hdf hrest aC hpt kZ iQ gJ jv iY jO jP
   replace hR:=hR.gn g3
   replace hb6:=hb6.gn g3
   replace G:=aj G g3
   replace HT:=HT.grown g3
   have hw8:w0.heap.size<=N8:=Nat.le_trans vU hn8
   clear g3
   refine Fg.aU rfl rfl (Fg.run_store (cs:=aR xa) rfl rfl rfl (gu.there 0 5 (by show 0+5<=5;decide)) aD (dn _)) ?_
   replace hR:=hR.ak (C:=N8) (cs:=aR xa) 0 (by omega)
   replace hb6:=hb6.ak (C:=N8) (cs:=aR xa) 0 (by omega)
   replace gu:aF (V3.setCells N8 0 (aR xa)) N8 66 (aR xa):=gu.bG rfl
   replace G:=aH (cs:=aR xa) G (B:=N8) (hw8) 0
   replace HT:=HT.keep (aK (cs:=aR xa) (ah _ (some N8)) 0) (HT0.jS (hw8))
   revert hR hb6 gu G HT
   generalize V3.setCells N8 0 (aR xa)=W4
   intro hR hb6 gu G HT
   go_upto_region 12 with (fail)
   have Oh:=G.size
   have uJ:=hR.lt
   have yY:=hb6.lt
   have Xm:=gu.lt
   refine Fg.rT [] [.any,.any,.any,.any,.any,.any,.any,.any,.any,.any,.any,.any,.any,.any,.any,.any,.any,.any,.any,.any,.any,.any,.any,.any,.any,.any,.any,.any,.any,.any,.any,.any,.any,.any,.any,.any,.any,.any,.any,.any,.any,.any,.val (xa.v),.val (x1.v),.val (Fe.dQ.v),.val (xa.v),.val (x1.v),.val ((Fe.aM xa x1).v),.val (((Pt.mk xa x1 Fe.dQ (Fe.aM xa x1))).v)] 7 ?_ ?_
   .refine Fg.vS rfl (by decide) (fun _ _ h=>Fg.vn xa.v (Fg.run_load rfl (h.r 8) ((gu.gn h.base).range 0 (aR xa) rfl) Tryz.underlying66 rfl aD)) ?_
    refine Fg.vS rfl (by decide) (fun _ _ h=>Fg.vn x1.v (Fg.run_load rfl (h.r 6) ((hb6.gn h.base).range 0 (aR x1) rfl) Tryz.underlying66 rfl aD)) ?_
    refine Fg.cS rfl (by decide) (fun ac w h=>?_) ?_
    .refine⟨aB rfl,97,#[],Fg.aN rfl rfl (by simp) (Fg.aI Tryz.func97 (by kernel_rfl) (by kernel_rfl)),?_⟩
     exact (Dh).mono fun _ _ ⟨he,hg⟩=>⟨_,he,hg,rfl⟩
    refine Fg.vS rfl (by decide) (fun _ _ h=>Fg.vn xa.v (Fg.run_load rfl (h.r 8) ((gu.gn h.base).range 0 (aR xa) rfl) Tryz.underlying66 rfl aD)) ?_
    refine Fg.vS rfl (by decide) (fun _ _ h=>Fg.vn x1.v (Fg.run_load rfl (h.r 6) ((hb6.gn h.base).range 0 (aR x1) rfl) Tryz.underlying66 rfl aD)) ?_
    refine Fg.cS rfl (by decide) (fun _ w h=>Fg.cq rfl (jg hxa mg) ⟨h.d 45,h.d 46,trivial⟩ Tryz.func82) ?_
    refine Fg.vS rfl (by decide) (fun ac w h=>?_) ?_
    .have e42:_=xa.v:=h.d 42
     have e43:_=x1.v:=h.d 43
     have e44:_=Fe.dQ.v:=h.d 44
     have e47:_=(Fe.aM xa x1).v:=h.d 47
     exact Fg.vn (((Pt.mk xa x1 Fe.dQ (Fe.aM xa x1))).v) (Fg.run_build (vs:=#[(0,xa.v),(1,x1.v),(2,Fe.dQ.v),(3,(Fe.aM xa x1).v)]) rfl (by simp only[List.map_toArray,List.map_cons,List.map_nil,Act.eval,e42,e43,e44,e47]) (by kernel_rfl))
    trivial
   .intro qa V5 g5 hsz hdf hrest aC hpt
    obtain⟨⟨u39,oh⟩,⟨u40,oo⟩,⟨u42,mo⟩,⟨u43,sP⟩,⟨u44,qm⟩,⟨u45,mq⟩,⟨u46,mD⟩,⟨u47,oq⟩,_⟩:=Fg.bn qa [39,40,42,43,44,45,46,47]
    obtain⟨x2,hx2⟩:∃x:Pt,x=(Pt.mk xa x1 Fe.dQ (Fe.aM xa x1)):=⟨_,rfl⟩
    obtain rfl:=Fg.aP [39,40,42,43,44,45,46,47,48] (vs:=[_,_,_,_,_,_,_,_,_,_,_,_,_,_,_,_,_,_,_,_,_,_,_,_,_,_,_,_,_,_,_,_,_,_,_,_,_,_,_,u39,u40,_,u42,u43,u44,u45,u46,u47,x2.v]) hsz hrest (by kernel_rfl) rfl rfl ⟨oh,oo,mo,sP,qm,mq,mD,oq,(show qa.tmps.getD 48 undef=x2.v by rw[hx2];exact aC 48 (by kernel_rfl)),trivial⟩ hdf
    clear hsz hdf hrest aC hpt oh oo mo sP qm mq mD oq
    have Fu:=Lib.hid hx2;clear hx2
    replace hR:=hR.gn g5
    replace hb6:=hb6.gn g5
    replace gu:=gu.gn g5
    replace G:=aj G g5
    replace HT:=HT.grown g5
    clear g5
    refine Fg.aU rfl rfl (Fg.run_store (cs:=aY x2) rfl rfl rfl (hR.there 0 20 (by show 0+20<=20;decide)) aO (gH _)) ?_
    replace hR:aF (V5.setCells w0.heap.size 0 (aY x2)) w0.heap.size 68 (aY x2):=hR.bG rfl
    replace hb6:=hb6.ak (C:=w0.heap.size) (cs:=aY x2) 0 (by omega)
    replace gu:=gu.ak (C:=w0.heap.size) (cs:=aY x2) 0 (by omega)
    replace G:=aH (cs:=aY x2) G (B:=w0.heap.size) (by omega) 0
    replace HT:=HT.keep (aK (cs:=aY x2) (ah _ (some w0.heap.size)) 0) (HT0.jS (by omega))
    revert hR hb6 gu G HT
    generalize V5.setCells w0.heap.size 0 (aY x2)=W6
    intro hR hb6 gu G HT
    go_wp2_with fail
    have hx2:=Fu.out;subst hx2
    have hx1:=mU.out;subst hx1
    exact bodyPost_ret (v:=.tuple #[((Pt.mk xa (fC (aS (iE l) 32)) Fe.dQ (Fe.aM xa (fC (aS (iE l) 32))))).v,.bool true]) (dA Tryz.results116 _ _ w0.heap.size 68 (aY ((Pt.mk xa (fC (aS (iE l) 32)) Fe.dQ (Fe.aM xa (fC (aS (iE l) 32)))))).toArray (0,0) _ rfl hR Tryz.underlying68 rfl aO rfl) rfl ⟨rfl,G⟩
set_option maxRecDepth 100000 in
set_option maxHeartbeats 3200000 in
theorem Vn (a:Option Addr) (n c:Nat) (w0:World) (h2:((n:Int) !=32)=true):
  Calls Tryz.prog 116 #[.slice a n c] w0 fun e w'=>e=.returned (.tuple #[cB.v,.bool false])/\w0.grownBy w' none:=by
 go_enter Tryz.func116,Tryz.ntmps116
 go_upto_region 1 with (fail)
 have G:w0.grownBy (w0.alloc (.cells bE.toArray 68)) none:=au (ah _ _) _
 have hR:aF (w0.alloc (.cells bE.toArray 68)) (w0.heap.size) 68 bE:=aF.new w0 bE _
 revert G hR
 generalize w0.alloc (.cells bE.toArray 68)=W0
 intro G hR
 have Gs:=G.size
 go_upto_region 2 with (fail)
 have lC:=G.size
 have lq:=hR.lt
 refine Fg.rP [] [.any,.any,.any,.any,.any,.any,.any,.any,.any,.any,.any,.any,.val (cB.v)] 1 ?_ ?_
 .refine Fg.vS rfl (by decide) (fun ac w h=>?_) ?_
  .exact Fg.vn cB.v (Fg.run_build (vs:=#[]) rfl (by simp) (by kernel_rfl))
  trivial
 .intro qa V1 g1 hsz hdf hrest aC hpt
  obtain rfl:=Fg.aP [12] (vs:=[_,_,_,_,_,_,_,_,_,_,_,_,cB.v,_,_,_,_,_,_,_,_,_,_,_,_,_,_,_,_,_,_,_,_,_,_,_,_,_,_,_,_,_,_,_,_,_,_,_,_]) hsz hrest (by kernel_rfl) rfl rfl ⟨(show qa.tmps.getD 12 undef=cB.v from aC 12 (by kernel_rfl)),trivial⟩ hdf
  clear hsz hdf hrest aC hpt
  replace hR:=hR.gn g1
  replace G:=aj G g1
  clear g1
  refine Fg.aU rfl rfl (Fg.run_store (cs:=aY cB) rfl rfl rfl (hR.there 0 20 (by show 0+20<=20;decide)) aO (gH _)) ?_
  replace hR:aF (V1.setCells w0.heap.size 0 (aY cB)) w0.heap.size 68 (aY cB):=hR.bG rfl
  replace G:=aH (cs:=aY cB) G (B:=w0.heap.size) (by omega) 0
  revert hR G
  generalize V1.setCells w0.heap.size 0 (aY cB)=W2
  intro hR G
  go_wp2_with fail
  exact bodyPost_ret (v:=.tuple #[cB.v,.bool false]) (dA Tryz.results116 _ _ w0.heap.size 68 (aY cB).toArray (0,0) _ rfl hR Tryz.underlying68 rfl aO rfl) rfl ⟨rfl,G⟩
end
section
open Go.RowKit Ed
def zx (p:Pt):Fe:=Fe.aM p.Y (Ap p.Z)
def Gl (p:Pt):Fe:=Fe.aM p.X (Ap p.Z)
def qK (p:Pt):Int:=(Fe.m (zx p):Int)+57896044618658097711785492504343953926634992332820282019728792003956564819968*((Fe.m (Gl p)%2:Nat):Int)
theorem Vo (x:Int) (h0:0<=x) (h1:x<57896044618658097711785492504343953926634992332820282019728792003956564819968):0<=x/2^(8*31)%256/\x/2^(8*31)%256<128:=by
 have e:(2:Int)^(8*31)=452312848583266388373324160190187140051835877600158453279131187530910662656:=by decide
 rw[e];omega
theorem Yu (v:Int) (h0:0<=v) (h1:v<128):bits .or .u8 v 128=v+128:=by
 have all:∀j:Fin 128,bits .or .u8 (j.val:Int) 128=(j.val:Int)+128:=by decide +kernel
 have:=all ⟨v.toNat,by omega⟩
 simp only[]at this
 rwa [show ((v.toNat:Nat):Int)=v by omega]at this
theorem Vp (x:Int) (h0:0<=x) (h1:x<57896044618658097711785492504343953926634992332820282019728792003956564819968):(dz x).set 31 (.int .u8 (x/2^(8*31)%256+128))=dz (x+57896044618658097711785492504343953926634992332820282019728792003956564819968):=by
 have hl:∀y:Int,(dz y).length=32:=fun y=>by simp[dz]
 apply List.ext_getElem?
 intro i
 by_cases hi:i<32
 .rw[lI _ i hi,List.getElem?_set,hl]
  by_cases he:31=i
  .subst he
   rw[if_pos rfl,if_pos (by decide)]
   unfold rM
   have e:(2:Int)^(8*31)=452312848583266388373324160190187140051835877600158453279131187530910662656:=by decide
   rw[e]
   congr 2
   omega
  .rw[if_neg he,lI _ i hi]
   unfold rM
   congr 2
   have e:(57896044618658097711785492504343953926634992332820282019728792003956564819968:Int)=2^(8*i)*(2^(8*(30-i))*32768):=by
    rw[<- Int.mul_assoc,<- Int.pow_add,show 8*i+8*(30-i)=240 by omega]
    decide
   have hp:(2:Int)^(8*i)≠0:=Int.ne_of_gt (Int.pow_pos (by decide))
   rw[e,Int.add_mul_ediv_left _ _ hp,show (2:Int)^(8*(30-i))*32768=256*(2^(8*(30-i))*128) by omega,Int.add_mul_emod_self_left]
 .rw[List.getElem?_eq_none (by rw[List.length_set,hl];omega),List.getElem?_eq_none (by rw[hl];omega)]
set_option maxRecDepth 100000 in
set_option maxHeartbeats 3200000 in
theorem Vq (p:Pt) (w0:World) (iW:p.Ok) (hx:decide (Fe.m (Gl p)%2=1)=true):
  Calls Tryz.prog 60 #[p.v] w0 fun e w'=>∃NB,e=.returned (.slice (some ⟨NB,0,none⟩) 32 32)/\w0.grownBy w' none/\w0.heap.size<=NB/\aF w' NB 166 (dz (qK p)):=by
 show Calls Tryz.prog 60 #[.agg (aY p).toArray] w0 _
 go_enter Tryz.func60,Tryz.ntmps60
 go_upto_region 1 with (fail)
 have G:w0.grownBy (w0.alloc (.cells (aY p).toArray 68)) none:=au (ah _ _) _
 have hP:aF (w0.alloc (.cells (aY p).toArray 68)) (w0.heap.size) 68 (aY p):=aF.new w0 (aY p) _
 revert G hP
 generalize w0.alloc (.cells (aY p).toArray 68)=W0
 intro G hP
 have Gs:=G.size
 have lC:=G.size
 have uK:=hP.lt
 refine Fg.rP [3] [.any,.any,.any,.fresh 66 gT W0.heap.size,.any,.val (Value.pointer (some ⟨w0.heap.size,10,none⟩)),.val (p.Z.v),.val ((Ap p.Z).v)] 4 ?_ ?_
 .refine Fg.vS rfl (by decide) (fun _ _ h=>Fg.vn _ (Fg.aG rfl (h.r 1) (fq _ _ _))) ?_
  refine Fg.vS rfl (by decide) (fun _ _ h=>Fg.vn p.Z.v (Fg.run_load rfl (h.d 5) ((hP.gn h.base).range 10 (aR p.Z) rfl) Tryz.underlying66 rfl aD)) ?_
  refine Fg.cS rfl (by decide) (fun _ w h=>Fg.cq rfl (Xi iW.Z) ⟨h.d 6,trivial⟩ Tryz.func80) ?_
  refine⟨⟨⟨_,rfl⟩,Fg.gD (fun _ _ h k=>aj h k) rfl (by show 3<24;decide) fun ac w h=>?_⟩,?_⟩
  .refine⟨aB rfl,w.alloc (.cells gT.toArray 66),?_,World.grownBy_alloc _ _ _,by simp,⟨w.heap.size,rfl,h.base.size,aF.new w gT _⟩⟩
   clear h
   go_simp
  trivial
 .intro qa V1 g1 hsz hdf hrest aC hpt
  obtain⟨N3,hs3,Xn,hb3⟩:∃N,qa.tmps.getD 3 undef=.pointer (some ⟨N,0,none⟩)/\W0.heap.size<=N/\aF V1 N 66 gT:=aC 3 (by kernel_rfl)
  obtain⟨u5,hs5⟩:=Fg.bP qa 5
  obtain⟨u6,hs6⟩:=Fg.bP qa 6
  obtain⟨x1,hx1⟩:∃x:Fe,x=Ap p.Z:=⟨_,rfl⟩
  obtain rfl:=Fg.aP [3,5,6,7] (vs:=[_,_,_,Value.pointer (some ⟨N3,0,none⟩),_,u5,u6,x1.v,_,_,_,_,_,_,_,_,_,_,_,_,_,_,_,_]) hsz hrest (by kernel_rfl) rfl rfl ⟨hs3,hs5,hs6,(show qa.tmps.getD 7 undef=x1.v by rw[hx1];exact aC 7 (by kernel_rfl)),trivial⟩ hdf
  clear hsz hdf hrest aC hpt hs3 hs5 hs6
  have mU:=Lib.hid hx1;clear hx1
  replace hP:=hP.gn g1
  replace G:=aj G g1
  have mg:x1.Ok:=by rw[mU.out];exact (uf _).ok
  have hw3:w0.heap.size<=N3:=Nat.le_trans lC Xn
  clear g1
  refine Fg.aU rfl rfl (Fg.run_store (cs:=aR x1) rfl rfl rfl (hb3.there 0 5 (by show 0+5<=5;decide)) aD (dn _)) ?_
  replace hP:=hP.ak (C:=N3) (cs:=aR x1) 0 (by omega)
  replace hb3:aF (V1.setCells N3 0 (aR x1)) N3 66 (aR x1):=hb3.bG rfl
  replace G:=aH (cs:=aR x1) G (B:=N3) (hw3) 0
  revert hP hb3 G
  generalize V1.setCells N3 0 (aR x1)=W2
  intro hP hb3 G
  go_upto_region 2 with (fail)
  have vU:=G.size
  have Cx:=hP.lt
  have AU:=hb3.lt
  refine Fg.rP [] [.any,.any,.any,.any,.row 166 (dz (Fe.m (Fe.aM p.Y x1))) 32 W2.heap.size,.any,.any,.any,.val (Value.pointer (some ⟨w0.heap.size,5,none⟩)),.val (p.Y.v),.val (x1.v),.val ((Fe.aM p.Y x1).v),.row 166 (dz (Fe.m (Fe.aM p.Y x1))) 32 W2.heap.size] 6 ?_ ?_
  .refine Fg.vS rfl (by decide) (fun _ _ h=>Fg.vn _ (Fg.aG rfl (h.r 1) (iy _ _ _))) ?_
   refine Fg.vS rfl (by decide) (fun _ _ h=>Fg.vn p.Y.v (Fg.run_load rfl (h.d 8) ((hP.gn h.base).range 5 (aR p.Y) rfl) Tryz.underlying66 rfl aD)) ?_
   refine Fg.vS rfl (by decide) (fun _ _ h=>Fg.vn x1.v (Fg.run_load rfl (h.r 3) ((hb3.gn h.base).range 0 (aR x1) rfl) Tryz.underlying66 rfl aD)) ?_
   refine Fg.cS rfl (by decide) (fun _ w h=>Fg.cq rfl (jg iW.Y mg) ⟨h.d 9,h.d 10,trivial⟩ Tryz.func82) ?_
   refine Fg.cS rfl (by decide) (fun ac w h=>?_) ?_
   .have e11:_=(Fe.aM p.Y x1).v:=h.d 11
    refine⟨aB rfl,81,#[(Fe.aM p.Y x1).v],Fg.aN rfl rfl (by simp only[List.map_toArray,List.map_cons,List.map_nil,Act.eval,e11]) (Fg.aI Tryz.func81 (by kernel_rfl) (by kernel_rfl)),?_⟩
    exact (zH _ _ (Fe.mul_right _ _).ok).mono fun _ _ ⟨NB,he,hg,hn,hb⟩=>⟨_,he,hg,⟨NB,rfl,Nat.le_trans h.base.size hn,hb⟩⟩
   refine Fg.vS rfl (by decide) (fun ac w h=>?_) ?_
   .obtain⟨Xk,e12,Rp,b12⟩:∃N,ac.tmps.getD 12 undef=.slice (some ⟨N,0,none⟩) 32 32/\W2.heap.size<=N/\aF w N 166 (dz (Fe.m (Fe.aM p.Y x1))):=h.dep 12 (by kernel_rfl)
    exact⟨aB rfl,Value.slice (some ⟨Xk,0,none⟩) 32 32,w,Fg.run_assign rfl e12,ah _ _,⟨_,rfl,Rp,b12⟩⟩
   trivial
  .intro qa V3 g3 hsz hdf hrest aC hpt
   obtain⟨N4,hs4,Ms,hb4⟩:∃N,qa.tmps.getD 4 undef=.slice (some ⟨N,0,none⟩) 32 32/\W2.heap.size<=N/\aF V3 N 166 (dz (Fe.m (Fe.aM p.Y x1))):=aC 4 (by kernel_rfl)
   obtain⟨⟨u8,kZ⟩,⟨u9,jA⟩,⟨u10,fI⟩,⟨u11,dX⟩,⟨u12,fG⟩,_⟩:=Fg.bn qa [8,9,10,11,12]
   obtain rfl:=Fg.aP [4,8,9,10,11,12] (vs:=[_,_,_,_,Value.slice (some ⟨N4,0,none⟩) 32 32,_,_,_,u8,u9,u10,u11,u12,_,_,_,_,_,_,_,_,_,_,_]) hsz hrest (by kernel_rfl) rfl rfl ⟨hs4,kZ,jA,fI,dX,fG,trivial⟩ hdf
   clear hsz hdf hrest aC hpt hs4 kZ jA fI dX fG
   replace hP:=hP.gn g3
   replace hb3:=hb3.gn g3
   replace G:=aj G g3
   have hw4:w0.heap.size<=N4:=Nat.le_trans vU Ms
   clear g3
   go_upto_region 3 with (fail)
   have Uw:=G.size
   have Gm:=hP.lt
   have Gq:=hb3.lt
   have Dk:=hb4.lt
   refine Fg.rP [] [.any,.any,.any,.any,.any,.any,.any,.any,.any,.any,.any,.any,.any,.val (Value.pointer (some ⟨w0.heap.size,0,none⟩)),.val (p.X.v),.val (x1.v),.val ((Fe.aM p.X x1).v),.val (Value.bool true)] 5 ?_ ?_
   .refine Fg.vS rfl (by decide) (fun _ _ h=>Fg.vn _ (Fg.aG rfl (h.r 1) (eY _ _ _))) ?_
    refine Fg.vS rfl (by decide) (fun _ _ h=>Fg.vn p.X.v (Fg.run_load rfl (h.d 13) ((hP.gn h.base).range 0 (aR p.X) rfl) Tryz.underlying66 rfl aD)) ?_
    refine Fg.vS rfl (by decide) (fun _ _ h=>Fg.vn x1.v (Fg.run_load rfl (h.r 3) ((hb3.gn h.base).range 0 (aR x1) rfl) Tryz.underlying66 rfl aD)) ?_
    refine Fg.cS rfl (by decide) (fun _ w h=>Fg.cq rfl (jg iW.X mg) ⟨h.d 14,h.d 15,trivial⟩ Tryz.func82) ?_
    refine Fg.cS rfl (by decide) (fun ac w h=>?_) ?_
    .have e16:_=(Fe.aM p.X x1).v:=h.d 16
     refine⟨aB rfl,83,#[(Fe.aM p.X x1).v],Fg.aN rfl rfl (by simp only[List.map_toArray,List.map_cons,List.map_nil,Act.eval,e16]) (Fg.aI Tryz.func83 (by kernel_rfl) (by kernel_rfl)),?_⟩
     exact (Xj (Fe.mul_right _ _).ok (by rw[mU.out];exact hx)).mono fun _ _ ⟨he,hg⟩=>⟨_,he,hg,rfl⟩
    trivial
   .intro qa V4 g4 hsz hdf hrest aC hpt
    obtain⟨⟨u13,dM⟩,⟨u14,dB⟩,⟨u15,dO⟩,⟨u16,dI⟩,_⟩:=Fg.bn qa [13,14,15,16]
    obtain rfl:=Fg.aP [13,14,15,16,17] (vs:=[_,_,_,_,_,_,_,_,_,_,_,_,_,u13,u14,u15,u16,Value.bool true,_,_,_,_,_,_]) hsz hrest (by kernel_rfl) rfl rfl ⟨dM,dB,dO,dI,(show qa.tmps.getD 17 undef=Value.bool true from aC 17 (by kernel_rfl)),trivial⟩ hdf
    clear hsz hdf hrest aC hpt dM dB dO dI
    replace hP:=hP.gn g4
    replace hb3:=hb3.gn g4
    replace hb4:=hb4.gn g4
    replace G:=aj G g4
    clear g4
    have hY:Fe.m (Fe.aM p.Y x1)=Fe.m (zx p):=by rw[mU.out];rfl
    rw[hY]at hb4
    clear hY
    have hm0:0<=(Fe.m (zx p):Int):=Int.natCast_nonneg _
    have hm1:(Fe.m (zx p):Int)<57896044618658097711785492504343953926634992332820282019728792003956564819968:=by have:=(NW (zx p)).2;omega
    have hN:qK p=(Fe.m (zx p):Int)+57896044618658097711785492504343953926634992332820282019728792003956564819968:=by unfold qK;rw[decide_eq_true_iff.1 hx];rfl
    have HN2:=Lib.hid hN;clear hN
    generalize (Fe.m (zx p):Int)=y at *
    have c31:=hb4.cell (lI y 31 (by decide))
    have f31:=hb4.free 31
    have hl:=Vo y hm0 hm1
    have ho:=Yu _ hl.1 hl.2
    have hset:=hb4.set 31 (.int .u8 (y/2^(8*31)%256+128))
    rw[Vp y hm0 hm1,<- HN2.out]at hset
    have G2:=aJ G (p:=⟨N4,31,none⟩) hw4 (.int .u8 (y/2^(8*31)%256+128))
    unfold rM at c31
    clear hl
    generalize y/2^(8*31)%256=v at *
    have HR:=Lib.hid (And.intro hset G2)
    clear hset G2 hb4 hb3 hP G
    go_wp2
    go_ret
    exact⟨N4,rfl,HR.out.2,hw4,HR.out.1⟩
set_option maxRecDepth 100000 in
set_option maxHeartbeats 3200000 in
theorem Ru (p:Pt) (w0:World) (iW:p.Ok) (hx:decide (Fe.m (Gl p)%2=1)=false):
  Calls Tryz.prog 60 #[p.v] w0 fun e w'=>∃NB,e=.returned (.slice (some ⟨NB,0,none⟩) 32 32)/\w0.grownBy w' none/\w0.heap.size<=NB/\aF w' NB 166 (dz (qK p)):=by
 show Calls Tryz.prog 60 #[.agg (aY p).toArray] w0 _
 go_enter Tryz.func60,Tryz.ntmps60
 go_upto_region 1 with (fail)
 have G:w0.grownBy (w0.alloc (.cells (aY p).toArray 68)) none:=au (ah _ _) _
 have hP:aF (w0.alloc (.cells (aY p).toArray 68)) (w0.heap.size) 68 (aY p):=aF.new w0 (aY p) _
 revert G hP
 generalize w0.alloc (.cells (aY p).toArray 68)=W0
 intro G hP
 have Gs:=G.size
 have lC:=G.size
 have uK:=hP.lt
 refine Fg.rP [3] [.any,.any,.any,.fresh 66 gT W0.heap.size,.any,.val (Value.pointer (some ⟨w0.heap.size,10,none⟩)),.val (p.Z.v),.val ((Ap p.Z).v)] 4 ?_ ?_
 .refine Fg.vS rfl (by decide) (fun _ _ h=>Fg.vn _ (Fg.aG rfl (h.r 1) (fq _ _ _))) ?_
  refine Fg.vS rfl (by decide) (fun _ _ h=>Fg.vn p.Z.v (Fg.run_load rfl (h.d 5) ((hP.gn h.base).range 10 (aR p.Z) rfl) Tryz.underlying66 rfl aD)) ?_
  refine Fg.cS rfl (by decide) (fun _ w h=>Fg.cq rfl (Xi iW.Z) ⟨h.d 6,trivial⟩ Tryz.func80) ?_
  refine⟨⟨⟨_,rfl⟩,Fg.gD (fun _ _ h k=>aj h k) rfl (by show 3<24;decide) fun ac w h=>?_⟩,?_⟩
  .refine⟨aB rfl,w.alloc (.cells gT.toArray 66),?_,World.grownBy_alloc _ _ _,by simp,⟨w.heap.size,rfl,h.base.size,aF.new w gT _⟩⟩
   clear h
   go_simp
  trivial
 .intro qa V1 g1 hsz hdf hrest aC hpt
  obtain⟨N3,hs3,Xn,hb3⟩:∃N,qa.tmps.getD 3 undef=.pointer (some ⟨N,0,none⟩)/\W0.heap.size<=N/\aF V1 N 66 gT:=aC 3 (by kernel_rfl)
  obtain⟨u5,hs5⟩:=Fg.bP qa 5
  obtain⟨u6,hs6⟩:=Fg.bP qa 6
  obtain⟨x1,hx1⟩:∃x:Fe,x=Ap p.Z:=⟨_,rfl⟩
  obtain rfl:=Fg.aP [3,5,6,7] (vs:=[_,_,_,Value.pointer (some ⟨N3,0,none⟩),_,u5,u6,x1.v,_,_,_,_,_,_,_,_,_,_,_,_,_,_,_,_]) hsz hrest (by kernel_rfl) rfl rfl ⟨hs3,hs5,hs6,(show qa.tmps.getD 7 undef=x1.v by rw[hx1];exact aC 7 (by kernel_rfl)),trivial⟩ hdf
  clear hsz hdf hrest aC hpt hs3 hs5 hs6
  have mU:=Lib.hid hx1;clear hx1
  replace hP:=hP.gn g1
  replace G:=aj G g1
  have mg:x1.Ok:=by rw[mU.out];exact (uf _).ok
  have hw3:w0.heap.size<=N3:=Nat.le_trans lC Xn
  clear g1
  refine Fg.aU rfl rfl (Fg.run_store (cs:=aR x1) rfl rfl rfl (hb3.there 0 5 (by show 0+5<=5;decide)) aD (dn _)) ?_
  replace hP:=hP.ak (C:=N3) (cs:=aR x1) 0 (by omega)
  replace hb3:aF (V1.setCells N3 0 (aR x1)) N3 66 (aR x1):=hb3.bG rfl
  replace G:=aH (cs:=aR x1) G (B:=N3) (hw3) 0
  revert hP hb3 G
  generalize V1.setCells N3 0 (aR x1)=W2
  intro hP hb3 G
  go_upto_region 2 with (fail)
  have vU:=G.size
  have Cx:=hP.lt
  have AU:=hb3.lt
  refine Fg.rP [] [.any,.any,.any,.any,.row 166 (dz (Fe.m (Fe.aM p.Y x1))) 32 W2.heap.size,.any,.any,.any,.val (Value.pointer (some ⟨w0.heap.size,5,none⟩)),.val (p.Y.v),.val (x1.v),.val ((Fe.aM p.Y x1).v),.row 166 (dz (Fe.m (Fe.aM p.Y x1))) 32 W2.heap.size] 6 ?_ ?_
  .refine Fg.vS rfl (by decide) (fun _ _ h=>Fg.vn _ (Fg.aG rfl (h.r 1) (iy _ _ _))) ?_
   refine Fg.vS rfl (by decide) (fun _ _ h=>Fg.vn p.Y.v (Fg.run_load rfl (h.d 8) ((hP.gn h.base).range 5 (aR p.Y) rfl) Tryz.underlying66 rfl aD)) ?_
   refine Fg.vS rfl (by decide) (fun _ _ h=>Fg.vn x1.v (Fg.run_load rfl (h.r 3) ((hb3.gn h.base).range 0 (aR x1) rfl) Tryz.underlying66 rfl aD)) ?_
   refine Fg.cS rfl (by decide) (fun _ w h=>Fg.cq rfl (jg iW.Y mg) ⟨h.d 9,h.d 10,trivial⟩ Tryz.func82) ?_
   refine Fg.cS rfl (by decide) (fun ac w h=>?_) ?_
   .have e11:_=(Fe.aM p.Y x1).v:=h.d 11
    refine⟨aB rfl,81,#[(Fe.aM p.Y x1).v],Fg.aN rfl rfl (by simp only[List.map_toArray,List.map_cons,List.map_nil,Act.eval,e11]) (Fg.aI Tryz.func81 (by kernel_rfl) (by kernel_rfl)),?_⟩
    exact (zH _ _ (Fe.mul_right _ _).ok).mono fun _ _ ⟨NB,he,hg,hn,hb⟩=>⟨_,he,hg,⟨NB,rfl,Nat.le_trans h.base.size hn,hb⟩⟩
   refine Fg.vS rfl (by decide) (fun ac w h=>?_) ?_
   .obtain⟨Xk,e12,Rp,b12⟩:∃N,ac.tmps.getD 12 undef=.slice (some ⟨N,0,none⟩) 32 32/\W2.heap.size<=N/\aF w N 166 (dz (Fe.m (Fe.aM p.Y x1))):=h.dep 12 (by kernel_rfl)
    exact⟨aB rfl,Value.slice (some ⟨Xk,0,none⟩) 32 32,w,Fg.run_assign rfl e12,ah _ _,⟨_,rfl,Rp,b12⟩⟩
   trivial
  .intro qa V3 g3 hsz hdf hrest aC hpt
   obtain⟨N4,hs4,Ms,hb4⟩:∃N,qa.tmps.getD 4 undef=.slice (some ⟨N,0,none⟩) 32 32/\W2.heap.size<=N/\aF V3 N 166 (dz (Fe.m (Fe.aM p.Y x1))):=aC 4 (by kernel_rfl)
   obtain⟨⟨u8,kZ⟩,⟨u9,jA⟩,⟨u10,fI⟩,⟨u11,dX⟩,⟨u12,fG⟩,_⟩:=Fg.bn qa [8,9,10,11,12]
   obtain rfl:=Fg.aP [4,8,9,10,11,12] (vs:=[_,_,_,_,Value.slice (some ⟨N4,0,none⟩) 32 32,_,_,_,u8,u9,u10,u11,u12,_,_,_,_,_,_,_,_,_,_,_]) hsz hrest (by kernel_rfl) rfl rfl ⟨hs4,kZ,jA,fI,dX,fG,trivial⟩ hdf
   clear hsz hdf hrest aC hpt hs4 kZ jA fI dX fG
   replace hP:=hP.gn g3
   replace hb3:=hb3.gn g3
   replace G:=aj G g3
   have hw4:w0.heap.size<=N4:=Nat.le_trans vU Ms
   clear g3
   go_upto_region 3 with (fail)
   have Uw:=G.size
   have Gm:=hP.lt
   have Gq:=hb3.lt
   have Dk:=hb4.lt
   refine Fg.rP [] [.any,.any,.any,.any,.any,.any,.any,.any,.any,.any,.any,.any,.any,.val (Value.pointer (some ⟨w0.heap.size,0,none⟩)),.val (p.X.v),.val (x1.v),.val ((Fe.aM p.X x1).v),.val (Value.bool false)] 5 ?_ ?_
   .refine Fg.vS rfl (by decide) (fun _ _ h=>Fg.vn _ (Fg.aG rfl (h.r 1) (eY _ _ _))) ?_
    refine Fg.vS rfl (by decide) (fun _ _ h=>Fg.vn p.X.v (Fg.run_load rfl (h.d 13) ((hP.gn h.base).range 0 (aR p.X) rfl) Tryz.underlying66 rfl aD)) ?_
    refine Fg.vS rfl (by decide) (fun _ _ h=>Fg.vn x1.v (Fg.run_load rfl (h.r 3) ((hb3.gn h.base).range 0 (aR x1) rfl) Tryz.underlying66 rfl aD)) ?_
    refine Fg.cS rfl (by decide) (fun _ w h=>Fg.cq rfl (jg iW.X mg) ⟨h.d 14,h.d 15,trivial⟩ Tryz.func82) ?_
    refine Fg.cS rfl (by decide) (fun ac w h=>?_) ?_
    .have e16:_=(Fe.aM p.X x1).v:=h.d 16
     refine⟨aB rfl,83,#[(Fe.aM p.X x1).v],Fg.aN rfl rfl (by simp only[List.map_toArray,List.map_cons,List.map_nil,Act.eval,e16]) (Fg.aI Tryz.func83 (by kernel_rfl) (by kernel_rfl)),?_⟩
     exact (Xj (Fe.mul_right _ _).ok (by rw[mU.out];exact hx)).mono fun _ _ ⟨he,hg⟩=>⟨_,he,hg,rfl⟩
    trivial
   .intro qa V4 g4 hsz hdf hrest aC hpt
    obtain⟨⟨u13,dM⟩,⟨u14,dB⟩,⟨u15,dO⟩,⟨u16,dI⟩,_⟩:=Fg.bn qa [13,14,15,16]
    obtain rfl:=Fg.aP [13,14,15,16,17] (vs:=[_,_,_,_,_,_,_,_,_,_,_,_,_,u13,u14,u15,u16,Value.bool false,_,_,_,_,_,_]) hsz hrest (by kernel_rfl) rfl rfl ⟨dM,dB,dO,dI,(show qa.tmps.getD 17 undef=Value.bool false from aC 17 (by kernel_rfl)),trivial⟩ hdf
    clear hsz hdf hrest aC hpt dM dB dO dI
    replace hP:=hP.gn g4
    replace hb3:=hb3.gn g4
    replace hb4:=hb4.gn g4
    replace G:=aj G g4
    clear g4
    have hY:Fe.m (Fe.aM p.Y x1)=Fe.m (zx p):=by rw[mU.out];rfl
    rw[hY]at hb4
    clear hY
    have hN:(Fe.m (zx p):Int)=qK p:=by
     unfold qK
     have:Fe.m (Gl p)%2=0:=by have:=of_decide_eq_false hx;omega
     rw[this];simp
    rw[hN]at hb4
    have HR:=Lib.hid (And.intro hb4 G)
    clear hN hb4 hb3 hP G
    go_wp2
    go_ret
    exact⟨N4,rfl,HR.out.2,hw4,HR.out.1⟩
theorem abg (p:Pt) (w0:World) (iW:p.Ok):Calls Tryz.prog 60 #[p.v] w0 fun e w'=>∃NB,e=.returned (.slice (some ⟨NB,0,none⟩) 32 32)/\w0.grownBy w' none/\w0.heap.size<=NB/\aF w' NB 166 (dz (qK p)):=by
 by_cases hx:Fe.m (Gl p)%2=1
 .exact Vq p w0 iW (decide_eq_true hx)
 .exact Ru p w0 iW (decide_eq_false hx)
end
section
open Go.RowKit Ow Ed
def enc (p:Pr):Int:=(p.y.val:Int)+57896044618658097711785492504343953926634992332820282019728792003956564819968*((p.x.val%2:Nat):Int)
theorem ny (a:Fe):(phi a).val=Fe.m a:=rfl
theorem AX (x:F):x.val<57896044618658097711785492504343953926634992332820282019728792003956564819949:=x.isLt
theorem aga:Fe.P=57896044618658097711785492504343953926634992332820282019728792003956564819949:=rfl
theorem Mv (p:Pr):enc p%57896044618658097711785492504343953926634992332820282019728792003956564819968=(p.y.val:Int):=by
 unfold enc
 have h:=AX p.y
 omega
theorem Rv (p:Pr):decide (57896044618658097711785492504343953926634992332820282019728792003956564819968<=enc p)=decide (p.x.val%2=1):=by
 unfold enc
 have h:=AX p.y
 rw[decide_eq_decide]
 omega
theorem agb {n:Nat} [NeZero n] (d y i:Fin n) (hi:i*i=-1) (h:d*(y*y)+1=0):i*i=d*(y*y):=by grind
theorem abh {n:Nat} [NeZero n] (d:Fin n) (h:d*(0*0)+1=0):(1:Fin n)=0:=by grind
theorem abj (y:F):d*(y*y)+1≠0:=fun h=>by
 have h0:=Yh (agb d y im Ma h)
 subst h0
 exact sJ (abh d h)
theorem Kk {n:Nat} [NeZero n] {d x y:Fin n} (h:y*y-x*x=1+d*(x*x*(y*y))):x*x*(d*(y*y)+1)=y*y-1:=by grind
theorem Rw {n:Nat} [NeZero n] {d x y:Fin n} (h:x*x*(d*(y*y)+1)=y*y-1):y*y-x*x=1+d*(x*x*(y*y)):=by grind
theorem abk {n:Nat} [NeZero n] {x z v:Fin n} (h:x*x*v=z*z*v):v*((x-z)*(x+z))=0:=by grind
theorem Yv {n:Nat} [NeZero n] {x z:Fin n} (h:x+z=0):x=- z:=by grind
theorem abl {n:Nat} [NeZero n] (x:Fin n): - x * - x=x*x:=by grind
theorem Mw {x z v:F} (hv:v≠0) (h:x*x*v=z*z*v):x=z\/x=- z:=by
 rcases mul_zero ((mul_zero (abk h)).resolve_left hv) with h1|h1
 .exact Or.inl (yU h1)
 .exact Or.inr (Yv h1)
def uF (y:Fe):Fe:=Fe.gZ (Fe.cZ y) Fe.dQ
def vF (y:Fe):Fe:=Fe.fD (Fe.aM dF (Fe.cZ y)) Fe.dQ
theorem Xo {y:Fe} (h:y.Right):phi (uF y)=phi y*phi y-1:=by
 unfold uF
 rw[nk (Fe.dR _) jM,vv h,jE]
theorem Rx {y:Fe} (h:y.Right):phi (vF y)=d*(phi y*phi y)+1:=by
 unfold vF
 rw[lU (Fe.mul_right _ _) jM,fu wN (Fe.dR _),vv h,jE,Xh]
theorem Gt {r u v:Fe}:Fe.m r*Fe.m r*Fe.m v%Fe.P=Fe.m u↔phi r*phi r*phi v=phi u:=by
 constructor
 .intro h
  apply Fin.ext
  rw[Fin.val_mul,Fin.val_mul,Nat.mod_mul_mod]
  exact h
 .intro h
  have:=congrArg Fin.val h
  rw[Fin.val_mul,Fin.val_mul,Nat.mod_mul_mod]at this
  exact this
theorem Mx {x:F} (h:x≠0):(- x).val%2=1-x.val%2:=by
 have h1:(- x).val=Fe.P-x.val:=by
  have h2:x.val≠0:=fun e=>h (Fin.ext (e.trans Ed.j5.symm))
  have hl:=x.isLt
  rw[Fin.val_neg]
  split
  .exact absurd (by assumption) h
  .rfl
 have hl:=x.isLt
 have h2:x.val≠0:=fun e=>h (Fin.ext (e.trans Ed.j5.symm))
 have h3:=AX x
 have hP:=aga
 rw[h1]
 omega
theorem Dn: - (0:F)=0:=by decide +kernel
theorem Kl {y xa:Fe} {odd:Bool} (hy:y.Right) (h:jF y odd=(xa,true)):xa.Right/\On ⟨phi xa,phi y⟩/\decide ((phi xa).val%2=1)=odd:=by
 unfold jF at h
 change (if (fT (uF y) (vF y)).2=false then ((fT (uF y) (vF y)).1,false) else if odd=false then ((fT (uF y) (vF y)).1,true) else if Fe.m (fT (uF y) (vF y)).1=0 then (Fe.bL,false) else (Fe.kL (fT (uF y) (vF y)).1,true))=(xa,true) at h
 have hvr:(vF y).Right:=Fe.dK _ _
 by_cases hb:(fT (uF y) (vF y)).2=true
 .obtain⟨hr,he,hm⟩:=Dc hvr hb
  have hm':=Gt.1 hm
  rw[Xo hy,Rx hy]at hm'
  rw[if_neg (by rw[hb];decide)]at h
  cases odd with
  | false=>
   rw[if_pos rfl]at h
   obtain rfl:=(Prod.mk.inj h).1
   refine⟨hr,Rw hm',?_⟩
   rw[decide_eq_false_iff_not]
   rw[ny]
   omega
  | true=>
   rw[if_neg (by decide)]at h
   by_cases hz:Fe.m (fT (uF y) (vF y)).1=0
   .rw[if_pos hz]at h;exact absurd (Prod.mk.inj h).2 (by decide)
   .rw[if_neg hz]at h
    obtain rfl:=(Prod.mk.inj h).1
    have hne:phi (fT (uF y) (vF y)).1≠0:=fun e=>hz (by have:=congrArg Fin.val e;rw[Ed.j5,ny]at this;exact this)
    refine⟨Fe.kG _,?_,?_⟩
    .apply Rw
     show phi (Fe.kL _)*phi (Fe.kL _)*_=_
     rw[zI hr,abl];exact hm'
    .rw[decide_eq_true_iff,zI hr,Mx hne]
     rw[ny]
     omega
 .rw[if_pos (by simpa using hb)]at h
  exact absurd (Prod.mk.inj h).2 (by decide)
theorem Ol {y xa:Fe} {odd:Bool} (hy:y.Right) (h:jF y odd=(xa,false)) (p:Pr) (hp:On p) (hpy:p.y=phi y):decide (p.x.val%2=1)≠odd:=by
 intro hodd
 unfold jF at h
 change (if (fT (uF y) (vF y)).2=false then ((fT (uF y) (vF y)).1,false) else if odd=false then ((fT (uF y) (vF y)).1,true) else if Fe.m (fT (uF y) (vF y)).1=0 then (Fe.bL,false) else (Fe.kL (fT (uF y) (vF y)).1,true))=(xa,false) at h
 have hvr:(vF y).Right:=Fe.dK _ _
 have hur:(uF y).Right:=Fe.fO _ _
 have hx:=Kk hp
 rw[hpy,<- Rx hy,<- Xo hy]at hx
 have hb:(fT (uF y) (vF y)).2=true:=by
  refine Cv (t:=p.x.val) hur hvr ?_
  have:=congrArg Fin.val hx
  rw[Fin.val_mul,Fin.val_mul,Nat.mod_mul_mod]at this
  exact this
 obtain⟨hr,he,hm⟩:=Dc hvr hb
 have hm':=Gt.1 hm
 rw[if_neg (by rw[hb];decide)]at h
 cases odd with
 | false=>rw[if_pos rfl]at h;exact absurd (Prod.mk.inj h).2 (by decide)
 | true=>
  rw[if_neg (by decide)]at h
  by_cases hz:Fe.m (fT (uF y) (vF y)).1=0
  .have hv:phi (vF y)≠0:=by rw[Rx hy];exact abj _
   have hz':phi (fT (uF y) (vF y)).1=0:=Fin.ext ((ny _).trans (hz.trans Ed.j5.symm))
   rcases Mw hv (hx.trans hm'.symm) with e|e
   .rw[e,hz',Ed.j5]at hodd;cases hodd
   .rw[e,hz',Dn,Ed.j5]at hodd;cases hodd
  .rw[if_neg hz]at h;exact absurd (Prod.mk.inj h).2 (by decide)
theorem Ew {p q:Pr} (hp:On p) (hq:On q) (h:enc p=enc q):p=q:=by
 have hy:p.y=q.y:=Fin.ext (by have h1:=Mv p;have h2:=Mv q;rw[h]at h1;omega)
 have hxp:=Kk hp
 have hxq:=Kk hq
 rw[hy]at hxp
 have hpar:p.x.val%2=q.x.val%2:=by
  have h1:=Rv p
  have h2:=Rv q
  rw[h,h2]at h1
  have:=decide_eq_decide.1 h1
  omega
 apply Ed.ext _ hy
 rcases Mw (abj q.y) (hxp.trans hxq.symm) with e|e
 .exact e
 .by_cases hz:q.x=0
  .rw[e,hz,Dn]
  .have:=Mx hz
   rw[<- e]at this
   omega
theorem MB {a:Fe} (h:a.Right):phi (Ap a)=Ed.inv (phi a):=Fin.ext (by rw[ny,Ed.Vb,ny];exact (Yc h).mi)
theorem abm {n:Nat} [NeZero n] {z x i:Fin n} (h:z*i=1):z*x*i=x:=by grind
theorem Yw {s:Pt} {p:Pr} (h:iP s p):qK s=enc p:=by
 have hi:=Ed.inv_mul h.z
 have ey:phi (zx s)=p.y:=by
  unfold zx
  rw[fu h.rY (uf _),MB h.rZ,h.y];exact abm hi
 have ex:phi (Gl s)=p.x:=by
  unfold Gl
  rw[fu h.rX (uf _),MB h.rZ,h.x];exact abm hi
 have ey':Fe.m (zx s)=p.y.val:=(ny _).symm.trans (congrArg Fin.val ey)
 have ex':Fe.m (Gl s)=p.x.val:=(ny _).symm.trans (congrArg Fin.val ex)
 unfold qK enc
 rw[ey',ex']
def sS (l:List Nat):Int:=aS (fun i=>((l.getD i 0:Nat):Int)) 32
theorem vw {F G:Nat->Int}:∀n,(∀i,i<n->F i=G i)->aS F n=aS G n
 | 0,_=>rfl
 | n+1,h=>by rw[aS,aS,vw n (fun i hi=>h i (by omega)),h n (by omega)]
theorem Vr (l:List Nat) (hl:l.length=32) (hb:∀i,l.getD i 0<256):aS (iE l) 32=sS l%57896044618658097711785492504343953926634992332820282019728792003956564819968/\AP l=decide (57896044618658097711785492504343953926634992332820282019728792003956564819968<=sS l):=by
 have e31:(2:Int)^(8*31)=452312848583266388373324160190187140051835877600158453279131187530910662656:=by decide
 have hlo:∀i,i<31->iE l i=((l.getD i 0:Nat):Int):=fun i hi=>by
  unfold iE Es
  rw[List.getD_eq_getElem?_getD,List.getElem?_set_ne (by omega),<- List.getD_eq_getElem?_getD]
 have h31:iE l 31=((l.getD 31 0%128:Nat):Int):=by
  unfold iE Es
  rw[List.getD_eq_getElem?_getD,List.getElem?_set_self (by omega),Option.getD_some]
 have hbd:=gM (fun i=>((l.getD i 0:Nat):Int)) (fun i=>⟨Int.natCast_nonneg _,by have:=hb i;omega⟩) 31
 rw[e31]at hbd
 have hx:=hb 31
 unfold sS AP
 have ew:aS (iE l) 32=aS (fun i=>((l.getD i 0:Nat):Int)) 31+iE l 31*2^(8*31):=by
  rw[aS,vw 31 hlo]
 have ew2:aS (fun i=>((l.getD i 0:Nat):Int)) 32=aS (fun i=>((l.getD i 0:Nat):Int)) 31+((l.getD 31 0:Nat):Int)*2^(8*31):=rfl
 rw[ew,ew2,h31,e31]
 generalize aS (fun i=>((l.getD i 0:Nat):Int)) 31=a at *
 generalize l.getD 31 0=x at *
 refine⟨by omega,?_⟩
 rw[decide_eq_decide]
 omega
def Yx (l:List Nat) (w:World) (e:Ending) (w':World):Prop:=
 ∃(t:Pt) (b:Bool),e=.returned (.tuple #[t.v,.bool b])/\w.grownBy w' none/\(b=true->∃p,iP t p/\l.length=32/\enc p=sS l)/\(b=false->t=cB/\¬(l.length=32/\∃p,On p/\enc p=sS l))
theorem Om {x:Int} (h0:0<=x) (h1:x<57896044618658097711785492504343953926634992332820282019728792003956564819949):((phi (fC x)).val:Int)=x:=by
 rw[ny,Em]
 omega
theorem abn (B n c:Nat) (a:Option Addr) (l:List Nat) (w0:World) (HT0:dH w0) (hl:l.length=n) (hn:n<9223372036854775808) (hP:BytesAt w0 B a c l):
  Calls Tryz.prog 116 #[.slice a n c] w0 (Yx l w0):=by
 by_cases h32:n=32
 .subst h32
  obtain⟨hlow,htop⟩:=Vr l hl hP.byte
  have hbd:=gM (iE l) (o8 l hP.byte) 32
  have agc:aS (iE l) 32<2^256:=hbd.2
  by_cases hlt:aS (iE l) 32<57896044618658097711785492504343953926634992332820282019728792003956564819949
  .have hyr:=mh hbd.1 agc
   have hyv:=Om hbd.1 hlt
   cases hac:jF (fC (aS (iE l) 32)) (AP l) with
   | mk xa b=>
    cases b
    .refine (abd B a c l w0 HT0 hl hP hlt xa hac).mono ?_
     rintro e w' ⟨rfl,hg⟩
     refine⟨_,_,rfl,hg,(by intro h;cases h),fun _=>⟨rfl,?_⟩⟩
     rintro⟨_,p,hp,hN⟩
     refine Ol hyr hac p hp (Fin.ext ?_) ?_
     .have h1:=Mv p
      rw[hN,<- hlow]at h1
      omega
     .rw[<- Rv,hN,htop]
    .refine (abf B a c l w0 HT0 hl hP hlt xa hac).mono ?_
     rintro e w' ⟨rfl,hg⟩
     refine⟨_,_,rfl,hg,fun _=>?_,(by intro h;cases h)⟩
     obtain⟨hxr,hon,hpar⟩:=Kl hyr hac
     refine⟨⟨phi xa,phi (fC (aS (iE l) 32))⟩,⟨hxr,hyr,jM,Fe.mul_right _ _,hon,by show phi Fe.dQ≠0;rw[jE];exact sJ,Ei _ _ jE,Ei _ _ jE,?_⟩,hl,?_⟩
     .show phi (Fe.aM xa _)=phi Fe.dQ*_
      rw[fu hxr hyr];exact Ei _ _ jE
     .rw[htop]at hpar
      have h2:=decide_eq_decide.1 hpar
      unfold enc
      show ((phi (fC (aS (iE l) 32))).val:Int)+_=_
      rw[hyv,hlow]
      have hb2:=gM (fun i=>((l.getD i 0:Nat):Int)) (fun i=>⟨Int.natCast_nonneg _,by have:=hP.byte i;omega⟩) 32
      have Yy:(2:Int)^(8*32)=115792089237316195423570985008687907853269984665640564039457584007913129639936:=by decide
      rw[Yy]at hb2
      change 0<=sS l/\sS l<_ at hb2
      show _+_*(((phi xa).val%2:Nat):Int)=_
      generalize sS l=N at *
      generalize (phi xa).val=X at *
      omega
  .refine (abb B a c l w0 HT0 hl hP (by omega)).mono ?_
   rintro e w' ⟨rfl,hg⟩
   refine⟨_,_,rfl,hg,(by intro h;cases h),fun _=>⟨rfl,?_⟩⟩
   rintro⟨_,p,hp,hN⟩
   have h1:=Mv p
   rw[hN,<- hlow]at h1
   have h2:=AX p.y
   omega
 .refine (Vn a n c w0 (by simpa using (show ¬(n:Int)=32 by omega))).mono ?_
  rintro e w' ⟨rfl,hg⟩
  exact⟨_,_,rfl,hg,(by intro h;cases h),fun _=>⟨rfl,fun h=>h32 (hl▸h.1)⟩⟩
end
section
open Go.RowKit Ow Ed
def jk (x:Int):List Nat:=(List.range 32).map fun i=>(x/2^(8*i)%256).toNat
theorem gy (x:Int):(jk x).length=32:=by simp[jk]
theorem Gu (x:Int) (i:Nat) (h:i<32):(jk x).getD i 0=(x/2^(8*i)%256).toNat:=by
 simp[jk,List.getD_eq_getElem?_getD,List.getElem?_map,List.getElem?_range h]
theorem Yz (x:Int):(jk x).map dG=dz x:=by
 unfold jk dz
 rw[List.map_map]
 apply List.map_congr_left
 intro i _
 show Value.int .u8 (((x/2^(8*i)%256).toNat:Nat):Int)=rM x i
 rw[Int.toNat_of_nonneg (Int.emod_nonneg _ (by decide))]
 rfl
theorem qL (x:Int) (i:Nat):(jk x).getD i 0<256:=by
 by_cases h:i<32
 .rw[Gu x i h]
  have h1:=Int.emod_nonneg (x/2^(8*i)) (show (256:Int)≠0 by decide)
  have h2:=Int.emod_lt_of_pos (x/2^(8*i)) (show (0:Int)<256 by decide)
  omega
 .rw[List.getD_eq_getElem?_getD,List.getElem?_eq_none (by rw[gy];omega)]
  decide
theorem AY {x:Int} (h0:0<=x) (h1:x<115792089237316195423570985008687907853269984665640564039457584007913129639936):sS (jk x)=x:=by
 unfold sS
 rw[vw (G:=fun i=>x/2^(8*i)%256) 32 (fun i hi=>by
  rw[Gu x i hi,Int.toNat_of_nonneg (Int.emod_nonneg _ (by decide))]),Eo]
 have Yy:(2:Int)^(8*32)=115792089237316195423570985008687907853269984665640564039457584007913129639936:=by decide
 rw[Yy]
 exact Int.emod_eq_of_lt h0 h1
theorem yg (p:Pr):0<=enc p/\enc p<115792089237316195423570985008687907853269984665640564039457584007913129639936:=by
 unfold enc
 have h:=AX p.y
 have h2:=Nat.mod_lt p.x.val (show 0<2 by decide)
 omega
theorem YA {s:Pt} {p:Pr} (w:World) (hs:iP s p):Calls Tryz.prog 60 #[s.v] w fun e w'=>∃NB,e=.returned (.slice (some ⟨NB,0,none⟩) 32 32)/\w.grownBy w' none/\w.heap.size<=NB/\aF w' NB 166 ((jk (enc p)).map dG):=by
 refine (abg s w hs.ok).mono ?_
 rintro e w' ⟨NB,rfl,hg,hn,hb⟩
 rw[Yw hs,<- Yz]at hb
 exact⟨NB,rfl,hg,hn,hb⟩
end
section
namespace Sc
def L:Nat:=7237005577332262213973186563042994240857116359379907606001950938285454250989
def bC (n j:Nat):Nat:=n/2^(64*j)%18446744073709551616
def P8 (n i:Nat):Nat:=n/2^(8*i)%256
theorem iF (n j:Nat):bC n j<18446744073709551616:=Nat.mod_lt _ (by decide)
theorem Ry (n i:Nat):P8 n i<256:=Nat.mod_lt _ (by decide)
theorem YB (n:Nat):bC n 0=n%18446744073709551616:=by unfold bC;simp
theorem YC (n:Nat):bC n 1=n/18446744073709551616%18446744073709551616:=by unfold bC;rfl
theorem YD (n:Nat):bC n 2=n/340282366920938463463374607431768211456%18446744073709551616:=by unfold bC;rfl
theorem abo (n:Nat):bC n 3=n/6277101735386680763835789423207666416102355444464034512896%18446744073709551616:=by unfold bC;rfl
theorem Z4 (n:Nat) (h:n<2^256):n=bC n 0+bC n 1*18446744073709551616+bC n 2*340282366920938463463374607431768211456+bC n 3*6277101735386680763835789423207666416102355444464034512896:=by
 have e:(2:Nat)^256=115792089237316195423570985008687907853269984665640564039457584007913129639936:=by decide
 rw[e]at h
 rw[YB,YC,YD,abo]
 have h1:n/340282366920938463463374607431768211456=n/18446744073709551616/18446744073709551616:=by rw[Nat.div_div_eq_div_mul]
 have h2:n/6277101735386680763835789423207666416102355444464034512896=n/18446744073709551616/18446744073709551616/18446744073709551616:=by rw[Nat.div_div_eq_div_mul,Nat.div_div_eq_div_mul]
 rw[h1,h2]
 omega
theorem mk4 (a b c d:Nat) (ha:a<18446744073709551616) (hb:b<18446744073709551616) (hc:c<18446744073709551616) (hd:d<18446744073709551616) (n:Nat)
  (hn:n=a+b*18446744073709551616+c*340282366920938463463374607431768211456+d*6277101735386680763835789423207666416102355444464034512896):
  bC n 0=a/\bC n 1=b/\bC n 2=c/\bC n 3=d/\n<2^256:=by
 have e:(2:Nat)^256=115792089237316195423570985008687907853269984665640564039457584007913129639936:=by decide
 rw[e,YB,YC,YD,abo]
 have h1:n/18446744073709551616=b+c*18446744073709551616+d*340282366920938463463374607431768211456:=by omega
 have h2:n/340282366920938463463374607431768211456=c+d*18446744073709551616:=by
  have:n/340282366920938463463374607431768211456=n/18446744073709551616/18446744073709551616:=by rw[Nat.div_div_eq_div_mul]
  rw[this,h1];omega
 have h3:n/6277101735386680763835789423207666416102355444464034512896=d:=by
  have:n/6277101735386680763835789423207666416102355444464034512896=n/340282366920938463463374607431768211456/18446744073709551616:=by rw[Nat.div_div_eq_div_mul]
  rw[this,h2];omega
 rw[h1,h2,h3]
 omega
def lw:Nat->Nat
 | 0=>6346243789798364141
 | 1=>1503914060200516822
 | 2=>0
 | 3=>1152921504606846976
 | _=>0
theorem abp:L=6346243789798364141+1503914060200516822*18446744073709551616+0*340282366920938463463374607431768211456+1152921504606846976*6277101735386680763835789423207666416102355444464034512896:=by decide
def ov (q:Nat):Nat->Nat
 | 0=>0
 | k+1=>(q*lw k+ov q k)/18446744073709551616
def lo (q k:Nat):Nat:=(q*lw k+ov q k)%18446744073709551616
def bl (n q:Nat):Nat->Nat
 | 0=>0
 | k+1=>if bC n k<lo q k+bl n q k then 1 else 0
def rs (n q k:Nat):Nat:=(bC n k+36893488147419103232-lo q k-bl n q k)%18446744073709551616
theorem Xp (q k:Nat):lo q k<18446744073709551616:=Nat.mod_lt _ (by decide)
theorem MC (n q k:Nat):rs n q k<18446744073709551616:=Nat.mod_lt _ (by decide)
theorem Rz (n q k:Nat):bl n q k<=1:=by
 cases k with
 | zero=>exact Nat.zero_le _
 | succ k=>unfold bl;split<;>omega
theorem RA (k:Nat):lw k<18446744073709551616:=by unfold lw;split<;>decide
theorem abq (q k:Nat) (hq:q<18446744073709551616):ov q k<18446744073709551616:=by
 induction k with
 | zero=>exact Nat.zero_lt_succ _
 | succ k ih=>
  unfold ov
  have h:=Nat.mul_le_mul (Nat.le_pred_of_lt hq) (Nat.le_pred_of_lt (RA k))
  simp only[Nat.pred_eq_sub_one]at h
  omega
def rO (n q:Nat):Nat:=rs n q 0+rs n q 1*18446744073709551616+rs n q 2*340282366920938463463374607431768211456+rs n q 3*6277101735386680763835789423207666416102355444464034512896
def Ey (n q:Nat):Nat:=ov q 4+bl n q 4
theorem wQ (n q k:Nat):bC n k+bl n q (k+1)*18446744073709551616=rs n q k+lo q k+bl n q k:=by
 have h1:=iF n k
 have h2:=Xp q k
 have h3:=Rz n q k
 have e:bl n q (k+1)=if bC n k<lo q k+bl n q k then 1 else 0:=rfl
 rw[e]
 unfold rs
 generalize bl n q k=b at *
 generalize lo q k=l at *
 generalize bC n k=x at *
 split<;>omega
theorem zK (q k:Nat):q*lw k+ov q k=ov q (k+1)*18446744073709551616+lo q k:=by
 have e:ov q (k+1)=(q*lw k+ov q k)/18446744073709551616:=rfl
 rw[e];unfold lo;omega
theorem RD (n q:Nat) (h:n<2^256):n+Ey n q*115792089237316195423570985008687907853269984665640564039457584007913129639936=q*L+rO n q:=by
 have e:=Z4 n h
 have s0:=wQ n q 0
 have s1:=wQ n q 1
 have s2:=wQ n q 2
 have s3:=wQ n q 3
 have o0:=zK q 0
 have o1:=zK q 1
 have o2:=zK q 2
 have o3:=zK q 3
 have z0:ov q 0=0:=rfl
 have z1:bl n q 0=0:=rfl
 simp only[lw]at o0 o1 o2 o3
 unfold Ey rO
 rw[abp]
 simp only[Nat.reduceAdd]at *
 omega
theorem yh (n q:Nat):bC (rO n q) 0=rs n q 0/\bC (rO n q) 1=rs n q 1/\bC (rO n q) 2=rs n q 2/\bC (rO n q) 3=rs n q 3/\rO n q<2^256:=
 mk4 _ _ _ _ (MC ..) (MC ..) (MC ..) (MC ..) _ rfl
def ca (n:Nat):Nat->Nat
 | 0=>0
 | k+1=>(bC n k+lw k+ca n k)/18446744073709551616
def ps (n k:Nat):Nat:=(bC n k+lw k+ca n k)%18446744073709551616
theorem ME (n k:Nat):ps n k<18446744073709551616:=Nat.mod_lt _ (by decide)
theorem abr (n k:Nat):ca n k<=1:=by
 induction k with
 | zero=>exact Nat.zero_le _
 | succ k ih=>have h1:=iF n k;have h2:=RA k;unfold ca;omega
def rD (n:Nat):Nat:=ps n 0+ps n 1*18446744073709551616+ps n 2*340282366920938463463374607431768211456+ps n 3*6277101735386680763835789423207666416102355444464034512896
theorem zL (n k:Nat):bC n k+lw k+ca n k=ca n (k+1)*18446744073709551616+ps n k:=by
 have e:ca n (k+1)=(bC n k+lw k+ca n k)/18446744073709551616:=rfl
 rw[e];unfold ps;omega
theorem back_eq (n:Nat) (h:n<2^256):n+L=ca n 4*115792089237316195423570985008687907853269984665640564039457584007913129639936+rD n:=by
 have e:=Z4 n h
 have s0:=zL n 0
 have s1:=zL n 1
 have s2:=zL n 2
 have s3:=zL n 3
 have z0:ca n 0=0:=rfl
 simp only[lw]at s0 s1 s2 s3
 unfold rD
 rw[abp]
 simp only[Nat.reduceAdd]at *
 omega
theorem AZ (n:Nat):bC (rD n) 0=ps n 0/\bC (rD n) 1=ps n 1/\bC (rD n) 2=ps n 2/\bC (rD n) 3=ps n 3/\rD n<2^256:=
 mk4 _ _ _ _ (ME ..) (ME ..) (ME ..) (ME ..) _ rfl
def iZ (top next:Nat):Nat:=if top/1152921504606846976>0 then 18446744073709551615 else top*16+next/1152921504606846976
theorem RF (top next:Nat) (h:next<18446744073709551616):iZ top next<18446744073709551616:=by unfold iZ;split<;>omega
def down (n x:Nat):Nat:=x+n%6277101735386680763835789423207666416102355444464034512896*18446744073709551616
theorem vB (n x:Nat) (hx:x<18446744073709551616):bC (down n x) 0=x/\bC (down n x) 1=bC n 0/\bC (down n x) 2=bC n 1/\bC (down n x) 3=bC n 2/\down n x<2^256:=by
 apply mk4 _ _ _ _ hx (iF ..) (iF ..) (iF ..)
 unfold down
 have h1:n/340282366920938463463374607431768211456=n/18446744073709551616/18446744073709551616:=by rw[Nat.div_div_eq_div_mul]
 rw[YB,YC,YD,h1]
 omega
def y8 (n x:Nat):Nat:=
 let d:=down n x
 let q:=iZ (bC n 3) (bC n 2)
 if bC n 3<Ey d q then rD (rO d q) else rO d q
theorem RG (n q:Nat) (n0 n1 n2 n3 x:Nat) (hn:n<L) (hx:x<18446744073709551616) (w0:n0<18446744073709551616) (w1:n1<18446744073709551616) (w2:n2<18446744073709551616)
  (e4:n=n0+n1*18446744073709551616+n2*340282366920938463463374607431768211456+n3*6277101735386680763835789423207666416102355444464034512896) (hq:iZ n3 n2=q):
  q*L<n*18446744073709551616+x+L/\n*18446744073709551616+x<q*L+L:=by
 unfold iZ at hq
 unfold L at *
 split at hq
 .subst hq;omega
 .have hk:n2=n2/1152921504606846976*1152921504606846976+n2%1152921504606846976:=by omega
  have hl:n2%1152921504606846976<1152921504606846976:=by omega
  have hm:n2/1152921504606846976<16:=by omega
  generalize n2/1152921504606846976=a at *
  generalize n2%1152921504606846976=b at *
  have Xn:n3<1152921504606846976:=by omega
  subst hk
  subst hq
  subst e4
  clear hn
  omega
theorem Vs (n x:Nat) (hn:n<L) (hx:x<18446744073709551616):y8 n x=(n*18446744073709551616+x)%L:=by
 have Gv:n<2^256:=Nat.lt_trans hn (by decide)
 have e4:=Z4 n Gv
 obtain⟨d0,d1,d2,d3,dl⟩:=vB n x hx
 have eq:=RD (down n x) (iZ (bC n 3) (bC n 2)) dl
 obtain⟨_,_,_,_,ol⟩:=yh (down n x) (iZ (bC n 3) (bC n 2))
 have eb:=back_eq (rO (down n x) (iZ (bC n 3) (bC n 2))) ol
 obtain⟨_,_,_,_,bl'⟩:=AZ (rO (down n x) (iZ (bC n 3) (bC n 2)))
 have ed:=Z4 _ dl
 rw[d0,d1,d2,d3]at ed
 have tn:=RG n _ _ _ _ _ x hn hx (iF n 0) (iF n 1) (iF n 2) e4 rfl
 have abt:(2:Nat)^256=115792089237316195423570985008687907853269984665640564039457584007913129639936:=by decide
 have hN:n*18446744073709551616+x=bC n 3*115792089237316195423570985008687907853269984665640564039457584007913129639936+down n x:=by omega
 rw[abt]at ol bl'
 obtain⟨N,hNe⟩:∃N,N=n*18446744073709551616+x:=⟨_,rfl⟩
 rw[<- hNe]at hN tn ⊢
 clear hNe
 unfold y8
 simp only[]
 generalize hq:iZ (bC n 3) (bC n 2)=q at *
 generalize rO (down n x) q=r at *
 generalize Ey (down n x) q=o at *
 generalize rD r=b at *
 generalize ca r 4=cc at *
 generalize down n x=d at *
 generalize bC n 3=n3 at *
 clear abt d0 d1 d2 d3 dl Gv ed e4 hn hx hq
 have hL:L=7237005577332262213973186563042994240857116359379907606001950938285454250989:=rfl
 obtain⟨t1,t2⟩:=tn
 generalize hP:q*L=P at *
 split
 .rename_i hlt
  have h1:o=n3+1:=by omega
  have h2:cc=1:=by omega
  have h3:N+L=P+b:=by omega
  have h4:b<L:=by omega
  have h5:1<=q:=by
   rcases Nat.eq_zero_or_pos q with h0|h0
   .rw[h0,Nat.zero_mul]at hP;omega
   .exact h0
  obtain⟨k,rfl⟩:∃k,q=k+1:=⟨q-1,by omega⟩
  rw[Nat.add_mul,Nat.one_mul]at hP
  have h6:N=L*k+b:=by rw[Nat.mul_comm];omega
  rw[h6,Nat.mul_add_mod,Nat.mod_eq_of_lt h4]
 .rename_i hlt
  have h1:o=n3:=by omega
  have h3:N=P+r:=by omega
  have h4:r<L:=by omega
  rw[h3,<- hP,Nat.mul_comm,Nat.mul_add_mod,Nat.mod_eq_of_lt h4]
theorem mod_lt (n:Nat):n%L<L:=Nat.mod_lt _ (by decide)
theorem Xq (n:Nat) (h:n<L):n<2^256:=Nat.lt_trans h (by decide)
theorem Oo (n j:Nat):n/2^(64*j)=n/2^(64*(j+1))*18446744073709551616+bC n j:=by
 have e:(2:Nat)^(64*(j+1))=2^(64*j)*18446744073709551616:=by rw[show 64*(j+1)=64*j+64 by omega,Nat.pow_add]
 rw[e,<- Nat.div_div_eq_div_mul]
 unfold bC
 omega
theorem rest_step (n j:Nat):y8 (n/2^(64*(j+1))%L) (bC n j)=n/2^(64*j)%L:=by
 rw[Vs _ _ (mod_lt _) (iF _ _),Oo n j]
 generalize n/2^(64*(j+1))=a
 rw[Nat.add_mod,Nat.mul_mod,Nat.mod_mod,<- Nat.mul_mod,<- Nat.add_mod]
def uL (f:Nat->Nat):Nat->Nat
 | 0=>0
 | k+1=>uL f k+f k*2^(8*k)
theorem A8 (f:Nat->Nat) (hf:∀i,f i<256) (k:Nat):uL f k<2^(8*k):=by
 induction k with
 | zero=>exact Nat.zero_lt_one
 | succ k ih=>
  have e:(2:Nat)^(8*(k+1))=2^(8*k)*256:=by rw[show 8*(k+1)=8*k+8 by omega,Nat.pow_add]
  have h:=hf k
  have:=Nat.mul_le_mul_right (2^(8*k)) (show f k+1<=256 by omega)
  rw[Nat.add_mul,Nat.one_mul]at this
  rw[uL,e];omega
theorem Vt (n k:Nat):uL (P8 n) k=n%2^(8*k):=by
 induction k with
 | zero=>rw[uL,show 8*0=0 by rfl,Nat.pow_zero,Nat.mod_one]
 | succ k ih=>
  have e:(2:Nat)^(8*(k+1))=2^(8*k)*256:=by rw[show 8*(k+1)=8*k+8 by omega,Nat.pow_add]
  rw[uL,ih,e,Nat.mod_mul]
  unfold P8
  rw[Nat.mul_comm (2^(8*k))]
theorem Oq (f g:Nat->Nat) (k:Nat) (h:∀i,i<k->f i=g i):uL f k=uL g k:=by
 induction k with
 | zero=>rfl
 | succ k ih=>rw[uL,uL,ih (fun i hi=>h i (by omega)),h k (by omega)]
theorem Vu (f:Nat->Nat) (hf:∀i,f i<256) (k i:Nat) (h:i<k):P8 (uL f k) i=f i:=by
 induction k with
 | zero=>omega
 | succ k ih=>
  rw[uL]
  unfold P8 at *
  by_cases hik:i=k
  .subst hik
   rw[Nat.add_mul_div_right _ _ (Nat.pow_pos (by decide)),Nat.div_eq_of_lt (A8 f hf i),Nat.zero_add,Nat.mod_eq_of_lt (hf i)]
  .have hlt:i<k:=by omega
   have e:(2:Nat)^(8*k)=2^(8*i)*(2^(8*(k-i-1))*256):=by
    rw[Nat.mul_comm (2^(8*(k-i-1))),show (256:Nat)=2^8 by rfl,<- Nat.pow_add,<- Nat.pow_add];congr 1;omega
   rw[e,<- Nat.mul_assoc,Nat.mul_comm (f k),Nat.mul_assoc,Nat.add_mul_div_left _ _ (Nat.pow_pos (by decide)),<- Nat.mul_assoc,Nat.add_mul_mod_self_right]
   exact ih hlt
theorem Ot (f:Nat->Nat) (hf:∀i,f i<256) (k:Nat):bC (uL f (k+1)) (k/8)=bC (uL f k) (k/8)+f k*2^(8*(k%8))/\bC (uL f k) (k/8)<2^(8*(k%8)):=by
 have hl:=A8 f hf k
 have hk:=hf k
 have e:(2:Nat)^(8*k)=2^(64*(k/8))*2^(8*(k%8)):=by rw[<- Nat.pow_add];congr 1;omega
 have hd:uL f k/2^(64*(k/8))<2^(8*(k%8)):=by rw[Nat.div_lt_iff_lt_mul (Nat.pow_pos (by decide)),Nat.mul_comm,<- e];exact hl
 have hb:(2:Nat)^(8*(k%8))*256<=18446744073709551616:=by
  have:(2:Nat)^(8*(k%8))*256=2^(8*(k%8)+8):=by rw[Nat.pow_add]
  rw[this,show (18446744073709551616:Nat)=2^64 by rfl]
  exact Nat.pow_le_pow_right (by decide) (by omega)
 have hw:bC (uL f k) (k/8)=uL f k/2^(64*(k/8)):=by unfold bC;exact Nat.mod_eq_of_lt (by omega)
 refine⟨?_,by rw[hw];exact hd⟩
 have h2:uL f (k+1)/2^(64*(k/8))=uL f k/2^(64*(k/8))+f k*2^(8*(k%8)):=by
  rw[uL,e,<- Nat.mul_assoc,Nat.mul_comm (f k),Nat.mul_assoc,Nat.add_mul_div_left _ _ (Nat.pow_pos (by decide))]
 rw[hw]
 unfold bC
 rw[h2]
 apply Nat.mod_eq_of_lt
 have:=Nat.mul_le_mul_right (2^(8*(k%8))) (show f k+1<=256 by omega)
 rw[Nat.add_mul,Nat.one_mul,Nat.mul_comm 256]at this
 omega
theorem Km (f:Nat->Nat) (hf:∀i,f i<256) (k j:Nat) (h:j≠k/8):bC (uL f (k+1)) j=bC (uL f k) j:=by
 have hl:=A8 f hf k
 have hl1:=A8 f hf (k+1)
 unfold bC
 by_cases hj:j<k/8
 .have e:(2:Nat)^(8*k)=2^(64*j)*(2^(8*k-64*j-64)*18446744073709551616):=by
   rw[show (18446744073709551616:Nat)=2^64 by rfl,<- Nat.pow_add,<- Nat.pow_add];congr 1;omega
  rw[uL,e,<- Nat.mul_assoc,Nat.mul_comm (f k),Nat.mul_assoc,Nat.add_mul_div_left _ _ (Nat.pow_pos (by decide)),<- Nat.mul_assoc,Nat.add_mul_mod_self_right]
 .have h1:(2:Nat)^(8*k)<=2^(64*j):=Nat.pow_le_pow_right (by decide) (by omega)
  have h2:(2:Nat)^(8*(k+1))<=2^(64*j):=Nat.pow_le_pow_right (by decide) (by omega)
  rw[Nat.div_eq_of_lt (by omega),Nat.div_eq_of_lt (by omega)]
end Sc
end
section
open Go.RowKit
theorem YE (x y c:Int) (hx0:0<=x) (hy0:0<=y) (hc0:0<=c) (hc:c<=1) (w:World):(callFunc 111 #[.int .u64 x,.int .u64 y,.int .u64 c]).run Tryz.prog w=
  .ok (.value (.tuple #[.int .u64 ((x+y+c)%18446744073709551616),.int .u64 ((x+y+c)/18446744073709551616)])) w:=by
 have h:=run_add64 (P:=Tryz.prog) x y c (by omega) (by omega) (by omega) (by omega) (w:=w)
 rw[run_callFunc_extern Tryz.func111 (by kernel_rfl) (by kernel_rfl) (by kernel_rfl) (e:=add64Entry) (by kernel_rfl),h]
 simp only[Result.andThen]
theorem YF (x y b:Nat) (hb:b<=1) (w:World):(callFunc 141 #[.int .u64 x,.int .u64 y,.int .u64 b]).run Tryz.prog w=
  .ok (.value (.tuple #[.int .u64 (((x+18446744073709551616-y-b)%18446744073709551616:Nat):Int),.int .u64 ((if x<y+b then 1 else 0:Nat):Int)])) w:=by
 rw[run_callFunc_extern Tryz.func141 (by kernel_rfl) (by kernel_rfl) (by kernel_rfl) (e:=sub64Entry) (by kernel_rfl),run_sub64 x y b hb]
 rfl
theorem abu (p a b:Int) (p0:0<=p) (p1:p<=340282366920938463426481119284349108225) (a0:0<=a) (a1:a<18446744073709551616) (b0:0<=b) (b1:b<18446744073709551616):
  IntKind.u64.wrap (IntKind.u64.wrap (p/18446744073709551616+(p%18446744073709551616+a)/18446744073709551616)+((p%18446744073709551616+a)%18446744073709551616+b)/18446744073709551616)=(p+a+b)/18446744073709551616/\
  (p%18446744073709551616+a+b)%18446744073709551616=(p+a+b)%18446744073709551616:=by
 rw[IntKind.wrap_u64,IntKind.wrap_u64]
 omega
theorem YG (x y:Int) (hx0:0<=x) (hy0:0<=y) (hx:x<18446744073709551616) (hy:y<18446744073709551616):0<=x*y/\x*y<=340282366920938463426481119284349108225:=by
 refine⟨Int.mul_nonneg hx0 hy0,?_⟩
 have h1:x*y<=18446744073709551615*y:=Int.mul_le_mul_of_nonneg_right (by omega) hy0
 omega
set_option maxHeartbeats 400000 in
theorem Vv (x y a b:Int) (w:World) (x0:0<=x) (y0:0<=y) (x1:x<18446744073709551616) (y1:y<18446744073709551616) (a0:0<=a) (a1:a<18446744073709551616) (b0:0<=b) (b1:b<18446744073709551616):
  Calls Tryz.prog 84 #[.int .u64 x,.int .u64 y,.int .u64 a,.int .u64 b] w fun e w'=>e=.returned (.tuple #[.int .u64 ((x*y+a+b)/18446744073709551616),.int .u64 ((x*y+a+b)%18446744073709551616)])/\w=w':=by
 obtain⟨p0,p1⟩:=YG x y x0 y0 x1 y1
 have H:=Lib.hid (abu (x*y) a b p0 p1 a0 a1 b0 b1)
 have M:=Lib.hid (Xb x y x0 y0 x1 y1)
 have c0:0<=x*y%18446744073709551616:=by omega
 have c1:0<=(x*y%18446744073709551616+a)%18446744073709551616:=by omega
 have q0:0<=x*y/18446744073709551616:=by omega
 generalize x*y=p at *
 obtain⟨hi,hhi⟩:∃hi,hi=p/18446744073709551616:=⟨_,rfl⟩
 obtain⟨lo,hlo⟩:∃lo,lo=p%18446744073709551616:=⟨_,rfl⟩
 rw[<- hhi,<- hlo]at H M
 rw[<- hlo]at c0 c1
 rw[<- hhi]at q0
 clear hhi hlo p1 p0 x0 x1 y0 y1
 go_enter Tryz.func84,Tryz.ntmps84
 go_wp2_with (first|(go_at_call 110;refine (M.out _).mono ?_;rintro e w' ⟨rfl,rfl⟩)|simp only[QI _ _ c0 a0,QI _ _ c1 b0])
 go_ret2
 rw[<- H.out.1,<- H.out.2]
 exact⟨rfl,rfl⟩
theorem MF (x y a b:Nat) (w:World) (x1:x<18446744073709551616) (y1:y<18446744073709551616) (a1:a<18446744073709551616) (b1:b<18446744073709551616):
  Calls Tryz.prog 84 #[.int .u64 x,.int .u64 y,.int .u64 a,.int .u64 b] w fun e w'=>e=.returned (.tuple #[.int .u64 (((x*y+a+b)/18446744073709551616:Nat):Int),.int .u64 (((x*y+a+b)%18446744073709551616:Nat):Int)])/\w=w':=by
 refine (Vv x y a b w (by omega) (by omega) (by omega) (by omega) (by omega) (by omega) (by omega) (by omega)).mono ?_
 rintro e w' ⟨rfl,rfl⟩
 refine⟨?_,rfl⟩
 have e1:((x:Int)*y+a+b)=((x*y+a+b:Nat):Int):=by push_cast;rfl
 rw[e1]
 rfl
theorem Kn (t n:Nat) (ht:t<1152921504606846976) (hn:n<18446744073709551616):bits .or .u64 ((t:Int)*16) ((n:Int)/1152921504606846976)=((t*16+n/1152921504606846976:Nat):Int):=by
 have e1:(t:Int)*16=((2^4*t:Nat):Int):=by omega
 have e2:(n:Int)/1152921504606846976=((n/1152921504606846976:Nat):Int):=by omega
 rw[e1,e2,u64_or_nat _ _ (by omega) (by omega),<- Nat.two_pow_add_eq_or_of_lt (by omega)]
 omega
set_option maxHeartbeats 400000 in
theorem Ko (t n:Nat) (w:World) (ht:t<18446744073709551616) (hn:n<18446744073709551616):
  Calls Tryz.prog 114 #[.int .u64 t,.int .u64 n] w fun e w'=>e=.returned (.int .u64 (Sc.iZ t n:Int))/\w=w':=by
 by_cases h:0<(t:Int)/1152921504606846976
 .have e:Sc.iZ t n=18446744073709551615:=by unfold Sc.iZ;rw[if_pos (by omega)]
  have E:=Lib.hid e;clear e
  go_enter Tryz.func114,Tryz.ntmps114
  go_wp2
  go_ret
  exact⟨by rw[E.out];rfl,rfl⟩
 .have e:Sc.iZ t n=t*16+n/1152921504606846976:=by unfold Sc.iZ;rw[if_neg (by omega)]
  have H:=Lib.hid (Kn t n (by omega) hn)
  have E:=Lib.hid e;clear e
  go_enter Tryz.func114,Tryz.ntmps114
  go_wp2
  go_ret
  exact⟨by rw[E.out,<- H.out];rfl,rfl⟩
end
section
open Go.RowKit
def jB (n:Nat):Value:=.int .u64 (n:Int)
def wV (n j:Nat):Value:=jB (Sc.bC n j)
structure ko (w:World):Prop where
 lt:3<w.heap.size
 Vw:∀i,i<4->w.cell? ⟨3,i,none⟩=some (jB (Sc.lw i))
theorem ko.kept {w w':World} (h:ko w) {row:Option Nat} (hg:w.grownBy w' row) (hr:∀r,row=some r->3<r):ko w':=
 ⟨Nat.lt_of_lt_of_le h.lt hg.size,fun i hi=>by rw[aZ hg (p:=⟨3,i,none⟩) h.lt (fun e=>by have:=hr _ e.symm;simp at this)];exact h.Vw i hi⟩
def nA (X:List Value) (n:Nat):List Value:=X++[wV n 0,wV n 1,wV n 2,wV n 3]
def yj (X:List Value) (f g:Nat->Nat) (k:Nat):List Value:=X++(List.range 4).map fun j=>jB (if j<k then f j else g j)
theorem Gw (X:List Value) (hX:X.length=8) (f g:Nat->Nat) (k:Nat) (hk:k<4):(yj X f g k).set (8+k) (jB (f k))=yj X f g (k+1):=by
 unfold yj
 rw[List.set_append_right _ _ (by omega),show 8+k-X.length=k by omega]
 congr 1
 apply List.ext_getElem?
 intro i
 rw[List.getElem?_set,List.length_map,List.length_range]
 by_cases hi:i<4
 .rw[List.getElem?_map,List.getElem?_map,List.getElem?_range hi]
  by_cases h:k=i
  .subst h;simp[hk]
  .simp[h,show i<k+1↔i<k by omega]
 .rw[if_neg (by omega),List.getElem?_eq_none (by simp;omega),List.getElem?_eq_none (by simp;omega)]
theorem Gx (X:List Value) (hX:X.length=8) (f g:Nat->Nat) (k:Nat) (hk:k<4):(yj X f g k)[8+k]?=some (jB (g k)):=by
 unfold yj
 rw[List.getElem?_append_right (by omega),show 8+k-X.length=k by omega,List.getElem?_map,List.getElem?_range hk]
 simp
theorem A9 (X:List Value) (f:Nat->Nat) (n:Nat):yj X f (Sc.bC n) 0=nA X n:=by
 simp[yj,nA,List.range,List.range.loop,wV]
theorem Gy (X:List Value) (f g:Nat->Nat) (n:Nat) (h0:Sc.bC n 0=f 0) (h1:Sc.bC n 1=f 1) (h2:Sc.bC n 2=f 2) (h3:Sc.bC n 3=f 3):yj X f g 4=nA X n:=by
 simp[yj,nA,List.range,List.range.loop,wV,h0,h1,h2,h3]
theorem Vx (X:List Value) (n q:Nat):yj X (Sc.rs n q) (Sc.bC n) 4=nA X (Sc.rO n q):=by
 obtain⟨h0,h1,h2,h3,_⟩:=Sc.yh n q
 exact Gy X _ _ _ h0 h1 h2 h3
theorem RH (X:List Value) (n:Nat):yj X (Sc.ps n) (Sc.bC n) 4=nA X (Sc.rD n):=by
 obtain⟨h0,h1,h2,h3,_⟩:=Sc.AZ n
 exact Gy X _ _ _ h0 h1 h2 h3
theorem RI (n q k:Nat):(Sc.bC n k+18446744073709551616-Sc.lo q k-Sc.bl n q k)%18446744073709551616=Sc.rs n q k/\(if Sc.bC n k<Sc.lo q k+Sc.bl n q k then 1 else 0)=Sc.bl n q (k+1):=by
 have h1:=Sc.iF n k
 have h2:=Sc.Xp q k
 have h3:=Sc.Rz n q k
 refine⟨?_,rfl⟩
 unfold Sc.rs
 omega
theorem y9 (k:Nat) (hk:k<4):∀w,(Instr.index 102 (.agg #[.int .u64 6346243789798364141,.int .u64 1503914060200516822,.int .u64 0,.int .u64 1152921504606846976]) (.int .i64 k)).run Tryz.prog w=.ok (.int .u64 (Sc.lw k:Int)) w:=by
 intro w
 obtain rfl|rfl|rfl|rfl:k=0\/k=1\/k=2\/k=3:=by omega
 all_goals kernel_rfl
theorem Vy (n q:Nat) (hn:n<2^256) (hq:q<18446744073709551616):(Sc.ov q 4:Int)+(Sc.bl n q 4:Int)<=18446744073709551615:=by
 have h:=Sc.RD n q hn
 have h2:=(Sc.yh n q).2.2.2.2
 have e:(2:Nat)^256=115792089237316195423570985008687907853269984665640564039457584007913129639936:=by decide
 rw[e]at h2
 have hE:Sc.Ey n q=Sc.ov q 4+Sc.bl n q 4:=rfl
 rw[hE]at h
 unfold Sc.L at h
 generalize Sc.ov q 4=o4 at *
 generalize Sc.bl n q 4=b4 at *
 generalize Sc.rO n q=r at *
 clear e hn hE
 omega
set_option maxHeartbeats 1600000 in
theorem Gz (R n q:Nat) (T:TypeId) (X:List Value) (w:World) (hX:X.length=8) (hn:n<2^256) (hq:q<18446744073709551616) (hT:ko w) (hb:aF w R T (nA X n)):
  Calls Tryz.prog 113 #[.pointer (some ⟨R,0,none⟩),.int .u64 q] w fun e w'=>e=.returned (.int .u64 (Sc.Ey n q:Int))/\w.grownBy w' (some R)/\aF w' R T (nA X (Sc.rO n q)):=by
 have t0:=hT.Vw 0 (by decide)
 have t1:=hT.Vw 1 (by decide)
 have t2:=hT.Vw 2 (by decide)
 have t3:=hT.Vw 3 (by decide)
 have HT:=Lib.hid hT;clear hT
 have HX:=Lib.hid hX;clear hX
 rw[<- A9 X (Sc.rs n q) n]at hb
 have HB:=Lib.hid hb;clear hb
 unfold jB at t0 t1 t2 t3
 simp only[Sc.lw]at t0 t1 t2 t3
 go_enter Tryz.func113,Tryz.ntmps113
 go_wp2
 go_loopw [5,6,11] (fun o b i wr=>∃k:Nat,k<=4/\i=.int .i64 k/\o=.int .u64 (Sc.ov q k:Int)/\b=.int .u64 (Sc.bl n q k:Int)/\w.grownBy wr (some R)/\aF wr R T (yj X (Sc.rs n q) (Sc.bC n) k)) (fun _ _ i _=>4-(intOf i).toNat)
 case atStart=>exact⟨0,by omega,rfl,rfl,rfl,ah _ _,HB.out⟩
 case round=>
  obtain⟨k,hk,rfl,rfl,rfl,hg,hb⟩:=hrel
  by_cases hlt:k<4
  .have hs:=RI n q k
   have hset:=Gw X HX.out (Sc.rs n q) (Sc.bC n) k hlt
   have c0:=hb.cell (Gx X HX.out (Sc.rs n q) (Sc.bC n) k hlt)
   have f0:=hb.free (8+k)
   have hi:=y9 k hlt
   have b1:=Sc.Rz n q k
   have l1:=Sc.RA k
   have o1:=Sc.abq q k hq
   have hm:=MF q (Sc.lw k) (Sc.ov q k) 0
   have he:(q*Sc.lw k+Sc.ov q k+0)/18446744073709551616=Sc.ov q (k+1):=rfl
   have hl:(q*Sc.lw k+Sc.ov q k+0)%18446744073709551616=Sc.lo q k:=rfl
   rw[he,hl]at hm
   clear he hl
   have HM:=Lib.hid (fun W=>hm W hq l1 o1 (by decide));clear hm
   have hsub:=YF (Sc.bC n k) (Sc.lo q k) (Sc.bl n q k) b1
   rw[hs.1,hs.2]at hsub
   have HS:=Lib.hid hset;clear hset hs l1 o1 b1
   have HB1:=Lib.hid hb;clear hb
   have HG:=Lib.hid hg;clear hg
   unfold jB at c0
   generalize Sc.lw k=lk at *
   go_wp2_with (go_at_call 84;refine (HM.out _).mono ?_;rintro e w' ⟨rfl,rfl⟩)
   go_region_with (simp only[hsub])
   all_goals go_wp2
   go_roundw
   case rel=>
    exact⟨k+1,by omega,by go_num,rfl,rfl,aX (aQ HG.out _ _),by
     have h:=HB1.out.set (8+k) (jB (Sc.rs n q k))
     rw[HS.out]at h
     exact h.drew⟩
   case measure=>simp[intOf];omega
  .obtain rfl:k=4:=by omega
   have hO:=Vy n q hn hq
   rw[Vx]at hb
   have HB1:=Lib.hid hb;clear hb
   have HG:=Lib.hid hg;clear hg
   have hE:Hid (Sc.Ey n q=Sc.ov q 4+Sc.bl n q 4):=rfl
   generalize Sc.ov q 4=o4 at *
   generalize Sc.bl n q 4=b4 at *
   go_wp2
   go_ret
   exact⟨by rw[hE.out];simp,HG.out,HB1.out⟩
theorem Ou (n k:Nat):((Sc.bC n k:Int)+(Sc.lw k:Int)+(Sc.ca n k:Int))%18446744073709551616=(Sc.ps n k:Int)/\((Sc.bC n k:Int)+(Sc.lw k:Int)+(Sc.ca n k:Int))/18446744073709551616=(Sc.ca n (k+1):Int):=by
 have e:Sc.ca n (k+1)=(Sc.bC n k+Sc.lw k+Sc.ca n k)/18446744073709551616:=rfl
 rw[e]
 unfold Sc.ps
 omega
set_option maxHeartbeats 1600000 in
theorem GA (R n:Nat) (T:TypeId) (X:List Value) (w:World) (hX:X.length=8) (hT:ko w) (hb:aF w R T (nA X n)):
  Calls Tryz.prog 115 #[.pointer (some ⟨R,0,none⟩)] w fun e w'=>e=.returned (.tuple #[])/\w.grownBy w' (some R)/\aF w' R T (nA X (Sc.rD n)):=by
 have t0:=hT.Vw 0 (by decide)
 have t1:=hT.Vw 1 (by decide)
 have t2:=hT.Vw 2 (by decide)
 have t3:=hT.Vw 3 (by decide)
 have HT:=Lib.hid hT;clear hT
 have HX:=Lib.hid hX;clear hX
 rw[<- A9 X (Sc.ps n) n]at hb
 have HB:=Lib.hid hb;clear hb
 unfold jB at t0 t1 t2 t3
 simp only[Sc.lw]at t0 t1 t2 t3
 go_enter Tryz.func115,Tryz.ntmps115
 go_wp2
 go_loopw [2,6] (fun o i wr=>∃k:Nat,k<=4/\i=.int .i64 k/\o=.int .u64 (Sc.ca n k:Int)/\w.grownBy wr (some R)/\aF wr R T (yj X (Sc.ps n) (Sc.bC n) k)) (fun _ i _=>4-(intOf i).toNat)
 case atStart=>exact⟨0,by omega,rfl,rfl,ah _ _,HB.out⟩
 case round=>
  obtain⟨k,hk,rfl,rfl,hg,hb⟩:=hrel
  by_cases hlt:k<4
  .have hs:=Ou n k
   have hset:=Gw X HX.out (Sc.ps n) (Sc.bC n) k hlt
   have c0:=hb.cell (Gx X HX.out (Sc.ps n) (Sc.bC n) k hlt)
   have f0:=hb.free (8+k)
   have hi:=y9 k hlt
   have b1:=Sc.abr n k
   have hsub:=YE (Sc.bC n k) (Sc.lw k) (Sc.ca n k) (by omega) (by omega) (by omega) (by omega)
   rw[hs.1,hs.2]at hsub
   have HS:=Lib.hid hset;clear hset hs b1
   have HB1:=Lib.hid hb;clear hb
   have HG:=Lib.hid hg;clear hg
   unfold jB at c0
   generalize Sc.lw k=lk at *
   go_wp2
   go_region_with (simp only[hsub])
   all_goals go_wp2
   go_roundw
   case rel=>
    exact⟨k+1,by omega,by go_num,rfl,aX (aQ HG.out _ _),by
     have h:=HB1.out.set (8+k) (jB (Sc.ps n k))
     rw[HS.out]at h
     exact h.drew⟩
   case measure=>simp[intOf];omega
  .obtain rfl:k=4:=by omega
   rw[RH]at hb
   have HB1:=Lib.hid hb;clear hb
   have HG:=Lib.hid hg;clear hg
   go_wp2
   go_end0
   exact⟨rfl,HG.out,HB1.out⟩
end
section
open Go.RowKit
theorem GD (X:List Value) (hX:X.length=8) (n:Nat):(nA X n)[8]?=some (wV n 0)/\(nA X n)[9]?=some (wV n 1)/\(nA X n)[10]?=some (wV n 2)/\(nA X n)[11]?=some (wV n 3):=by
 unfold nA
 refine⟨?_,?_,?_,?_⟩<;>(rw[List.getElem?_append_right (by omega),hX];rfl)
theorem RJ (X:List Value) (hX:X.length=8) (n x:Nat) (hx:x<18446744073709551616):
  ((((nA X n).set 8 (jB x)).set 9 (wV n 0)).set 10 (wV n 1)).set 11 (wV n 2)=nA X (Sc.down n x):=by
 obtain⟨h0,h1,h2,h3,_⟩:=Sc.vB n x hx
 unfold nA wV
 rw[h0,h1,h2,h3]
 rw[List.set_append_right _ _ (by omega),List.set_append_right _ _ (by omega),List.set_append_right _ _ (by omega),List.set_append_right _ _ (by omega),hX]
 rfl
set_option maxHeartbeats 1600000 in
theorem Cy (R n x:Nat) (T:TypeId) (X:List Value) (w:World) (hX:X.length=8) (hx:x<18446744073709551616) (hT:ko w) (hR:3<R) (hb:aF w R T (nA X n)):
  Calls Tryz.prog 87 #[.pointer (some ⟨R,0,none⟩),.int .u64 x] w fun e w'=>e=.returned (.tuple #[])/\w.grownBy w' (some R)/\aF w' R T (nA X (Sc.y8 n x)):=by
 obtain⟨g0,g1,g2,g3⟩:=GD X hX n
 have c0:=hb.cell g0
 have c1:=hb.cell g1
 have c2:=hb.cell g2
 have c3:=hb.cell g3
 have f0:=hb.free 8
 have f1:=hb.free 9
 have f2:=hb.free 10
 have f3:=hb.free 11
 clear g0 g1 g2 g3
 have HS:=Lib.hid (RJ X hX n x hx)
 have HX:=Lib.hid hX;clear hX
 have HT:=Lib.hid hT;clear hT
 have HB:=Lib.hid hb;clear hb
 unfold wV jB at c0 c1 c2 c3
 go_enter Tryz.func87,Tryz.ntmps87
 go_wp2
 go_region
 all_goals go_wp2_with fail
 have hb1:=(((((HB.out.set 8 (jB x)).set 9 (wV n 0)).set 10 (wV n 1)).set 11 (wV n 2))).drew
 have hg1:=aX (aQ (aQ (aQ (aQ (ah w (some R)) 8 (jB x)) 9 (wV n 0)) 10 (wV n 1)) 11 (wV n 2))
 rw[HS.out]at hb1
 unfold wV jB at hb1 hg1
 revert hb1 hg1
 generalize ((((w.setCell ⟨R,8,none⟩ (Value.int IntKind.u64 (x:Int))).setCell ⟨R,9,none⟩ (Value.int IntKind.u64 (Sc.bC n 0:Int))).setCell ⟨R,10,none⟩ (Value.int IntKind.u64 (Sc.bC n 1:Int))).setCell ⟨R,11,none⟩ (Value.int IntKind.u64 (Sc.bC n 2:Int))).drew=w1
 intro hb1 hg1
 have HB1:=Lib.hid hb1;clear hb1 HB
 have iw:=Lib.hid hg1;clear hg1
 clear c0 c1 c2 c3 f0 f1 f2 f3
 refine (Ko (Sc.bC n 3) (Sc.bC n 2) w1 (Sc.iF n 3) (Sc.iF n 2)).mono ?_
 rintro e w' ⟨rfl,rfl⟩
 have hgl:=Sc.RF (Sc.bC n 3) (Sc.bC n 2) (Sc.iF n 2)
 have hT1:=HT.out.kept iw.out (fun r e=>by cases e;exact hR)
 have ht:=Gz R (Sc.down n x) (Sc.iZ (Sc.bC n 3) (Sc.bC n 2)) T X w1 HX.out (Sc.vB n x hx).2.2.2.2 hgl hT1 HB1.out
 have hr:Hid (Sc.y8 n x=if Sc.bC n 3<Sc.Ey (Sc.down n x) (Sc.iZ (Sc.bC n 3) (Sc.bC n 2)) then Sc.rD (Sc.rO (Sc.down n x) (Sc.iZ (Sc.bC n 3) (Sc.bC n 2))) else Sc.rO (Sc.down n x) (Sc.iZ (Sc.bC n 3) (Sc.bC n 2))):=rfl
 clear hgl hT1
 generalize Sc.iZ (Sc.bC n 3) (Sc.bC n 2)=q at *
 generalize Sc.Ey (Sc.down n x) q=o at *
 generalize Sc.rO (Sc.down n x) q=m at *
 generalize Sc.bC n 3=top at *
 have HTO:=Lib.hid ht;clear ht
 by_cases hlt:top<o
 .have hlt':decide ((top:Int)<(o:Int))=true:=by simpa using hlt
  go_wp2_with fail
  refine HTO.out.mono ?_
  rintro e w2 ⟨rfl,hg2,hb2⟩
  have HG2:=Lib.hid (aj iw.out hg2);clear hg2
  have HB2:=Lib.hid hb2;clear hb2
  go_wp2_with fail
  refine (GA R m T X w2 HX.out (HT.out.kept HG2.out (fun r e=>by cases e;exact hR)) HB2.out).mono ?_
  rintro e w3 ⟨rfl,hg3,hb3⟩
  have mM:=Lib.hid (aj HG2.out hg3);clear hg3
  have HB3:=Lib.hid hb3;clear hb3
  go_wp2
  go_end0
  exact⟨rfl,mM.out,by rw[hr.out,if_pos hlt];exact HB3.out⟩
 .have hlt':decide ((top:Int)<(o:Int))=false:=by simpa using hlt
  go_wp2_with fail
  refine HTO.out.mono ?_
  rintro e w2 ⟨rfl,hg2,hb2⟩
  have HG2:=Lib.hid (aj iw.out hg2);clear hg2
  have HB2:=Lib.hid hb2;clear hb2
  go_wp2
  go_end0
  exact⟨rfl,HG2.out,by rw[hr.out,if_neg hlt];exact HB2.out⟩
end
section
open Go.RowKit Ow
theorem bI {a b:Nat} (h:a≠b):some a≠some b:=fun e=>h (Option.some.inj e)
def uh (n m:Nat):List Value:=(List.range m).map (wV n)
theorem uj (n m j:Nat) (h:j<m) (tl:List Value):(uh n m++tl)[j]?=some (wV n j):=by
 unfold uh
 rw[List.getElem?_append_left (by simpa using h),List.getElem?_map,List.getElem?_range h];rfl
theorem Ez (n n' m j:Nat) (h:j<m) (tl:List Value) (v:Nat) (hj:Sc.bC n' j=v) (ho:∀i,i≠j->Sc.bC n' i=Sc.bC n i):(uh n m++tl).set j (jB v)=uh n' m++tl:=by
 unfold uh
 rw[List.set_append_left _ _ (by simpa using h)]
 congr 1
 apply List.ext_getElem?
 intro i
 rw[List.getElem?_set,List.length_map,List.length_range]
 by_cases hi:i<m
 .rw[List.getElem?_map,List.getElem?_map,List.getElem?_range hi]
  by_cases e:j=i
  .subst e;simp[hi,wV,hj]
  .simp[e,wV,ho i (fun h=>e h.symm)]
 .rw[if_neg (by omega),List.getElem?_eq_none (by simp;omega),List.getElem?_eq_none (by simp;omega)]
theorem Ov (o x r:Nat) (hx:x<256) (hr:r<8) (ho:o<2^(8*r)):bits .or .u64 (o:Int) (IntKind.u64.wrap ((x:Int)*2^(8*r)))=((o+x*2^(8*r):Nat):Int):=by
 have hb:(2:Nat)^(8*r)*256<=18446744073709551616:=by
  have:(2:Nat)^(8*r)*256=2^(8*r+8):=by rw[Nat.pow_add]
  rw[this,show (18446744073709551616:Nat)=2^64 by rfl]
  exact Nat.pow_le_pow_right (by decide) (by omega)
 have h1:x*2^(8*r)+2^(8*r)<=2^(8*r)*256:=by
  have:=Nat.mul_le_mul_right (2^(8*r)) (show x+1<=256 by omega)
  rw[Nat.add_mul,Nat.one_mul,Nat.mul_comm 256]at this;exact this
 have e1:(x:Int)*2^(8*r)=((2^(8*r)*x:Nat):Int):=by rw[Int.natCast_mul,Int.natCast_pow,Int.mul_comm];rfl
 rw[Nat.mul_comm]at h1
 have e2:IntKind.u64.wrap ((x:Int)*2^(8*r))=((2^(8*r)*x:Nat):Int):=by
  rw[e1,IntKind.wrap_u64]
  generalize 2^(8*r)*x=y at *
  generalize 2^(8*r)=z at *
  omega
 rw[e2,u64_or_nat _ _ (by omega) (by omega),Nat.or_comm,<- Nat.two_pow_add_eq_or_of_lt ho,Nat.mul_comm x,Nat.add_comm]
set_option maxHeartbeats 1600000 in
theorem Ox (WB m len cap pb po:Nat) (T:TypeId) (tl:List Value) (f:Nat->Nat) (w:World) (hf:∀i,f i<256) (hm:len<=8*m) (hm2:m<=8) (hne:pb≠WB) (hlt:pb<w.heap.size) (hlc:len<=cap)
  (hc:∀i,i<len->w.cell? ⟨pb,po+i,none⟩=some (.int .u8 (f i))) (hb:aF w WB T (uh 0 m++tl)):
  Calls Tryz.prog 85 #[.slice (some ⟨WB,0,none⟩) m m,.slice (some ⟨pb,po,none⟩) len cap] w fun e w'=>e=.returned (.tuple #[])/\w.grownBy w' (some WB)/\aF w' WB T (uh (Sc.uL f len) m++tl):=by
 have HC:=Lib.hid hc;clear hc
 have HF:=Lib.hid hf;clear hf
 have HB:=Lib.hid hb;clear hb
 go_enter Tryz.func85,Tryz.ntmps85
 go_wp2
 go_loopw [8] (fun i wr=>∃k:Nat,k<=len/\i=.int .i64 k/\w.grownBy wr (some WB)/\aF wr WB T (uh (Sc.uL f k) m++tl)) (fun i _=>len-(intOf i).toNat)
 case atStart=>exact⟨0,by omega,rfl,ah _ _,HB.out⟩
 case round=>
  obtain⟨k,hk,rfl,hg,hb⟩:=hrel
  by_cases hkl:k<len
  .obtain⟨d,hd⟩:∃d,d=k/8:=⟨_,rfl⟩
   obtain⟨r,hr⟩:∃r,r=k%8:=⟨_,rfl⟩
   have hd2:(k:Int)/8=(d:Int):=by omega
   have hr2:(k:Int)%8=(r:Int):=by omega
   have dm:d<m:=by omega
   have r8:r<8:=by omega
   have hs:=Sc.Ot f HF.out k
   rw[<- hd,<- hr]at hs
   have hso:=Sc.Km f HF.out k
   rw[<- hd]at hso
   have hv:=Ov (Sc.bC (Sc.uL f k) d) (f k) r (HF.out k) r8 hs.2
   have hset:=Ez (Sc.uL f k) (Sc.uL f (k+1)) m d dm tl _ hs.1 hso
   have HS:=Lib.hid (And.intro hv hset);clear hv hset hs hso hd hr
   have c0:=hb.cell (uj (Sc.uL f k) m d dm tl)
   have f0:=hb.free d
   have c1:wr.cell? ⟨pb,po+k,none⟩=some (.int .u8 (f k)):=by rw[aZ hg (p:=⟨pb,po+k,none⟩) hlt (bI hne)];exact HC.out k hkl
   have fk:=HF.out k
   have HB1:=Lib.hid hb;clear hb
   have HG:=Lib.hid hg;clear hg
   unfold wV jB at c0
   go_wp2
   go_region
   all_goals go_wp2
   go_roundw
   case rel=>
    refine⟨k+1,by omega,by go_num,aX (aQ HG.out _ _),?_⟩
    have h:=HB1.out.set d (jB (Sc.bC (Sc.uL f k) d+f k*2^(8*r)))
    rw[HS.out.2]at h
    unfold jB at h
    rw[<- HS.out.1]at h
    exact h.drew
   case measure=>simp[intOf];omega
  .obtain rfl:k=len:=by omega
   have HB1:=Lib.hid hb;clear hb
   have HG:=Lib.hid hg;clear hg
   go_wp2
   go_end0
   exact⟨rfl,HG.out,HB1.out⟩
theorem Oy (WB m cap:Nat) (a:Option Addr) (w:World):
  Calls Tryz.prog 85 #[.slice (some ⟨WB,0,none⟩) m m,.slice a 0 cap] w fun e w'=>e=.returned (.tuple #[])/\w'=w:=by
 go_enter Tryz.func85,Tryz.ntmps85
 go_wp2
 go_loopw [8] (fun i wr=>i=.int .i64 0/\wr=w) (fun _ _=>0)
 case atStart=>exact⟨rfl,rfl⟩
 case round=>
  obtain⟨rfl,rfl⟩:=hrel
  go_wp2
  go_end0
  exact⟨rfl,rfl⟩
def num (l:List Nat):Nat:=Sc.uL (fun i=>l.getD i 0) l.length
theorem GH (WB m len cap B:Nat) (T:TypeId) (tl:List Value) (a:Option Addr) (l:List Nat) (w:World) (hl:l.length=len) (hm:len<=8*m) (hm2:m<=8) (hP:BytesAt w B a cap l) (hB:B<=WB) (hb:aF w WB T (uh 0 m++tl)):
  Calls Tryz.prog 85 #[.slice (some ⟨WB,0,none⟩) m m,.slice a len cap] w fun e w'=>e=.returned (.tuple #[])/\w.grownBy w' (some WB)/\aF w' WB T (uh (num l) m++tl):=by
 subst hl
 rcases hP.cells with h0 |⟨pb,po,rfl,hlt,hc⟩
 .have hz:num l=0:=by unfold num;rw[h0];rfl
  rw[h0,hz]
  refine (Oy WB m cap a w).mono ?_
  rintro e w' ⟨rfl,rfl⟩
  exact⟨rfl,ah _ _,hb⟩
 .exact Ox WB m l.length cap pb po T tl _ w hP.byte hm hm2 (by omega) (Nat.lt_of_lt_of_le hlt hP.lim) hP.fits hc hb
theorem abv (n:Nat):uh n 4=[wV n 0,wV n 1,wV n 2,wV n 3]:=rfl
theorem YH (n:Nat):uh n 8=[wV n 0,wV n 1,wV n 2,wV n 3,wV n 4,wV n 5,wV n 6,wV n 7]:=rfl
theorem Ux (j:Nat):wV 0 j=.int .u64 0:=by unfold wV Sc.bC jB;simp
def jG (n:Nat):Value:=.agg #[wV n 0,wV n 1,wV n 2,wV n 3]
set_option maxHeartbeats 1600000 in
theorem qM (len cap B:Nat) (a:Option Addr) (l:List Nat) (w:World) (hl:l.length=len) (hm:len<=32) (hP:BytesAt w B a cap l):
  Calls Tryz.prog 62 #[.slice a len cap] w fun e w'=>e=.returned (jG (num l))/\w.grownBy w' none:=by
 have HP:=Lib.hid hP;clear hP
 have hlen:=Lib.hid hl;clear hl
 go_enter Tryz.func62,Tryz.ntmps62
 go_wp2_with fail
 have hb:aF ((w.alloc (.cells #[.int .u64 0,.int .u64 0,.int .u64 0,.int .u64 0] 102)).alloc (.cells #[.int .u64 0,.int .u64 0,.int .u64 0,.int .u64 0] 102)) (w.heap.size+1) 102 (uh 0 4++[]):=by
  rw[abv,Ux,Ux,Ux,Ux]
  exact kJ (w.alloc _) [.int .u64 0,.int .u64 0,.int .u64 0,.int .u64 0] _ (by simp)
 have hr:aF ((w.alloc (.cells #[.int .u64 0,.int .u64 0,.int .u64 0,.int .u64 0] 102)).alloc (.cells #[.int .u64 0,.int .u64 0,.int .u64 0,.int .u64 0] 102)) w.heap.size 102 [.int .u64 0,.int .u64 0,.int .u64 0,.int .u64 0]:=(aF.new w [.int .u64 0,.int .u64 0,.int .u64 0,.int .u64 0] _).alloc _
 have hg:=au (au (ah w none) (.cells #[.int .u64 0,.int .u64 0,.int .u64 0,.int .u64 0] 102)) (.cells #[.int .u64 0,.int .u64 0,.int .u64 0,.int .u64 0] 102)
 revert hb hr hg
 generalize (w.alloc (.cells #[.int .u64 0,.int .u64 0,.int .u64 0,.int .u64 0] 102)).alloc (.cells #[.int .u64 0,.int .u64 0,.int .u64 0,.int .u64 0] 102)=w1
 intro hb hr hg
 refine (GH (w.heap.size+1) 4 len cap B _ [] a l w1 hlen.out hm (by omega) (HP.out.stay hg) (by have:=HP.out.lim;omega) hb).mono ?_
 rintro e w2 ⟨rfl,hg2,hb2⟩
 have hg3:=aW hg hg2 (by omega)
 have hr2:=hr.grown hg2 (bI (by omega))
 have HG:=Lib.hid hg3;clear hg3 hg2 hg hr hb
 rw[abv]at hb2
 have c0:=hb2.cell (i:=0) rfl
 have c1:=hb2.cell (i:=1) rfl
 have c2:=hb2.cell (i:=2) rfl
 have c3:=hb2.cell (i:=3) rfl
 have r0:=hr2.cell (i:=0) rfl
 have r1:=hr2.cell (i:=1) rfl
 have r2:=hr2.cell (i:=2) rfl
 have r3:=hr2.cell (i:=3) rfl
 have f0:=hr2.free 0
 have f1:=hr2.free 1
 have f2:=hr2.free 2
 have f3:=hr2.free 3
 clear hr2 hb2
 unfold wV jB at c0 c1 c2 c3
 go_wp2
 refine bodyPost_ret (v:=jG (num l)) ?_ rfl ⟨rfl,?_⟩
 .simp[results,Tryz.results62,go_sem,r0,r1,r2,r3,jG,wV,jB]
 .exact aJ (aJ (aJ (aJ HG.out (Nat.le_refl _) _) (Nat.le_refl _) _) (Nat.le_refl _) _) (Nat.le_refl _) _
end
section
open Go.RowKit Ow Go.Shelf
attribute [local go_sem] Oper.semAt_some
abbrev PW:={x:Nat×Nat // x.2<18446744073709551616}
def pwE (x:PW):Array Value:=#[.int .i64 (x.1.1:Int),.int .u64 (x.1.2:Int)]
def ou (N k:Nat):List PW:=(List.range k).map fun p=>⟨(7-p,Sc.bC N (7-p)),Sc.iF _ _⟩
theorem za (N k:Nat):ou N (k+1)=ou N k++[⟨(7-k,Sc.bC N (7-k)),Sc.iF _ _⟩]:=by simp[ou,List.range_succ]
theorem Cz (N k:Nat):(ou N k).length=k:=by simp[ou]
def vC (R Bs:Nat) (W W':World):Prop:=(∀j,j<8->W'.cell? ⟨R,j,none⟩=W.cell? ⟨R,j,none⟩)/\W'.cell? ⟨Bs,0,none⟩=W.cell? ⟨Bs,0,none⟩
theorem GI {R Bs:Nat} {A B C:World} (h:vC R Bs A B) (k:vC R Bs B C):vC R Bs A C:=⟨fun j hj=>(k.1 j hj).trans (h.1 j hj),k.2.trans h.2⟩
theorem RL {R Bs n:Nat} (hR:R<n) (hB:Bs<n) (W:World) (l:Nat) (o o':Obj) (hl:n<=l) (h:W.heap[l]?=some o):vC R Bs W (W.putObj l o'):=by
 have hlt:l<W.heap.size:=(Array.getElem?_eq_some_iff.1 h).1
 exact⟨fun j _=>aZ (grownBy_putObj' W l o') (p:=⟨R,j,none⟩) (show R<_ by omega) (bI (by show R≠l;omega)),aZ (grownBy_putObj' W l o') (p:=⟨Bs,0,none⟩) (show Bs<_ by omega) (bI (by show Bs≠l;omega))⟩
set_option maxHeartbeats 1000000 in
theorem GJ (F:Fence) (n:Nat) (hf:F.fn 86) (hro:F.round=none) (a:Option Addr) (len cap:Nat) (w:World):
  CallsIn F n Tryz.prog 86 #[.slice a len cap] w fun e w'=>e=.returned (.func (.func 112) #[] #[.pointer (some ⟨w.heap.size,0,none⟩)])/\w'=w.alloc (.cells #[.slice a len cap] 127):=by
 refine callsIn_of_wp Tryz.func86 rfl hf ?_ hro
 simp only[Tryz.ntmps86,List.size_toArray,List.length_cons,List.length_nil,Nat.reduceAdd,Nat.reduceSub,Array.replicate_succ,Array.replicate_zero,List.push_toArray,List.append_toArray,List.nil_append,List.cons_append]
 gi_wp2
 go_ret
 exact⟨rfl,rfl⟩
set_option maxRecDepth 100000 in
set_option maxHeartbeats 2000000 in
theorem EA (F:Fence) (n:Nat) (hf:F.fn 112) (hro:F.round=none) (hn:1<=n) (l Bs R N:Nat) (J Jx:List PW->World->Prop)
  (hY:∀pre x W,J pre W->pre.length<8->YieldAt F (n-1) Tryz.prog l (pwE x) W fun e W'=>
   (e=.returned (.bool true)/\J (pre++[x]) W'/\vC R Bs W W')\/(e=.returned (.bool false)/\Jx (pre++[x]) W'))
  (W:World) (zq:W.cell? ⟨Bs,0,none⟩=some (.slice (some ⟨R,0,none⟩) 8 8)) (hc:∀j,j<8->W.cell? ⟨R,j,none⟩=some (.int .u64 (Sc.bC N j:Int))) (h0:J [] W):
  CallsIn F n Tryz.prog 112 #[.func (.yield l) #[] #[],.pointer (some ⟨Bs,0,none⟩)] W fun e W'=>(∃v,e=.returned v)/\
   ((∃ys,ys=ou N 8/\J ys W')\/(∃pre,True/\Jx pre W')):=by
 refine callsIn_of_wp Tryz.func112 rfl hf ?_ hro
 simp only[Tryz.ntmps112,List.size_toArray,List.length_cons,List.length_nil,Nat.reduceAdd,Nat.reduceSub,Array.replicate_succ,Array.replicate_zero,List.push_toArray,List.append_toArray,List.nil_append,List.cons_append]
 gi_wp2
 gi_loopw [3] (fun i wr=>((∃m:Nat,m<8/\i=.int .i64 m/\J (ou N (7-m)) wr)\/(i=.int .i64 (-1)/\J (ou N 8) wr))/\vC R Bs W wr)
  (fun i _=>(intOf i+1).toNat)
 case atStart=>exact⟨Or.inl ⟨7,by omega,rfl,h0⟩,⟨fun _ _=>rfl,rfl⟩⟩
 case round=>
  obtain⟨⟨m,hm,rfl,hJs⟩ |⟨rfl,hJs⟩,hnx⟩:=hrel
  .have hb1:wr.cell? ⟨Bs,0,none⟩=some (.slice (some ⟨R,0,none⟩) 8 8):=hnx.2.trans zq
   have hcx:wr.cell? ⟨R,m,none⟩=some (.int .u64 (Sc.bC N m:Int)):=(hnx.1 m hm).trans (hc m hm)
   obtain⟨fn,tmps,assign,body,hy,hR⟩:=hY _ ⟨(m,Sc.bC N m),Sc.iF _ _⟩ wr hJs (by rw[Cz];omega)
   unfold pwE at hy
   dsimp only at hy
   gi_wp2
   refine hR.mono ?_
   rintro e W3 (⟨rfl,hJ3,hk3⟩ |⟨rfl,hJx3⟩)
   .have hJ4:J (ou N (7-m+1)) W3:=by
     rw[za]
     have e7:7-(7-m)=m:=by omega
     simp only[e7]
     exact hJ3
    gi_wp2
    go_roundw
    case rel=>
     refine⟨?_,GI hnx hk3⟩
     rcases Nat.eq_zero_or_pos m with h|h
     .subst h;exact Or.inr ⟨rfl,hJ4⟩
     .obtain⟨d,rfl⟩:∃d,m=d+1:=⟨m-1,by omega⟩
      have e:7-(d+1)+1=7-d:=by omega
      rw[e]at hJ4
      exact Or.inl ⟨d,by omega,by go_num,hJ4⟩
    case measure=>simp[intOf]
   .gi_wp2
    refine bodyPost_ret (results_none rfl _ _ _) rfl ?_
    exact⟨⟨_,rfl⟩,.inr ⟨_,trivial,hJx3⟩⟩
  .gi_wp2
   go_end0
   exact⟨⟨_,rfl⟩,.inl ⟨_,rfl,hJs⟩⟩
theorem Bd (F:Fence) (n:Nat) (hf:F.fn 112) (hro:F.round=none) (hn:1<=n) (Bs R N:Nat) (w:World) (zq:Bs<w.heap.size) (hR:R<w.heap.size)
  (hb:w.cell? ⟨Bs,0,none⟩=some (.slice (some ⟨R,0,none⟩) 8 8)) (hc:∀j,j<8->w.cell? ⟨R,j,none⟩=some (.int .u64 (Sc.bC N j:Int))):
  SeqStopsK F n Tryz.prog 112 #[.pointer (some ⟨Bs,0,none⟩)] pwE (vC R Bs) (fun ys=>ys=ou N 8) (fun _=>True) 8 w:=fun l J Jx W hW _ _ hY h0=>
 EA F n hf hro hn l Bs R N J Jx hY W ((hW.cell (p:=⟨Bs,0,none⟩) zq).trans hb) (fun j hj=>(hW.cell (p:=⟨R,j,none⟩) hR).trans (hc j hj)) h0
def MG (g:Nat->Nat->Nat) (pre:List PW):Nat:=pre.foldl (fun r x=>g r x.1.2) 0
theorem Kq (g:Nat->Nat->Nat) (pre:List PW) (x:PW):MG g (pre++[x])=g (MG g pre) x.1.2:=by
 unfold MG
 rw[List.foldl_append]
 rfl
abbrev fold (pre:List PW):Nat:=MG Sc.y8 pre
theorem Dp (pre:List PW) (x:PW):fold (pre++[x])=Sc.y8 (fold pre) x.1.2:=Kq Sc.y8 pre x
theorem Oz (N k:Nat) (hN:N/2^(64*8)=0) (hk:k<=8):fold (ou N k)=N/2^(64*(8-k))%Sc.L:=by
 induction k with
 | zero=>rw[show 8-0=8 from rfl,hN,Nat.zero_mod];rfl
 | succ k ih=>
  rw[za,Dp,ih (by omega)]
  have h:=Sc.rest_step N (7-k)
  rw[show 7-k+1=8-k by omega]at h
  rw[show 8-(k+1)=7-k by omega]
  exact h
theorem kR {w w':World} {B:Nat} {T:TypeId} {L:List Value} {row:Option Nat} {n:Nat} (h:aF w B T L) (hg:w.grownBy w' row) (hr:∀r,row=some r->n<=r/\∃o:Obj,w.heap[r]?=some o/\o.isCells=false):aF w' B T L:=by
 refine h.grown hg ?_
 intro e
 obtain⟨_,o,ho,hc⟩:=hr B e.symm
 unfold aF at h
 rw[h]at ho
 cases ho
 simp[Obj.isCells]at hc
theorem EB {a b c:World} {row row':Option Nat} (h:a.grownBy b row) (k:b.grownBy c row') (hr:∀r,row'=some r->a.heap.size<=r):a.grownBy c row:=by
 cases row' with
 | none=>exact aj h (fZ k _)
 | some r=>exact aW h k (hr r rfl)
structure YI (w:World) (R N:Nat) (T:TypeId) (pre:List PW) (W:World):Prop where
 rest:aF W R T (nA (uh N 8) (fold pre))
 tab:ko W
 box:aF W w.heap.size 131 [.pointer (some ⟨R,0,none⟩)]
 res:aF W (w.heap.size+1) 102 [.int .u64 0,.int .u64 0,.int .u64 0,.int .u64 0]
 grown:w.grownBy W (some R)
 size:w.heap.size+3<=W.heap.size
theorem RN (w:World) (R N:Nat) (T:TypeId) (n:Nat) (hn:w.heap.size<=n) (ht:3<w.heap.size):OwnFrom n (YI w R N T):=fun s A B row h hg hr=>
 ⟨kR h.rest hg hr,h.tab.kept hg (fun r e=>by have:=(hr r e).1;omega),kR h.box hg hr,kR h.res hg hr,EB h.grown hg (fun r e=>by have:=(hr r e).1;omega),Nat.le_trans h.size hg.size⟩
theorem RO (X:List Value) (hX:X.length=8) (a b c d:Value):((((X++[a,b,c,d]).set 8 (.int .u64 0)).set 9 (.int .u64 0)).set 10 (.int .u64 0)).set 11 (.int .u64 0)=nA X 0:=by
 unfold nA
 rw[Ux,Ux,Ux,Ux,List.set_append_right _ _ (by omega),List.set_append_right _ _ (by omega),List.set_append_right _ _ (by omega),List.set_append_right _ _ (by omega),hX]
 rfl
set_option maxRecDepth 100000 in
set_option maxHeartbeats 2000000 in
theorem vD (R N:Nat) (T:TypeId) (a b c d:Value) (w:World) (hN:N/2^(64*8)=0) (hT:ko w) (hR:3<R) (hb:aF w R T (uh N 8++[a,b,c,d])):
  Calls Tryz.prog 63 #[.pointer (some ⟨R,0,none⟩)] w fun e w'=>e=.returned (jG (N%Sc.L))/\w.grownBy w' (some R)/\aF w' R T (nA (uh N 8) (N%Sc.L)):=by
 have hRl:=hb.lt
 have k0:=hb.cell (i:=8) rfl
 have k1:=hb.cell (i:=9) rfl
 have k2:=hb.cell (i:=10) rfl
 have k3:=hb.cell (i:=11) rfl
 have f0:=hb.free 8
 have f1:=hb.free 9
 have f2:=hb.free 10
 have f3:=hb.free 11
 have HB:=Lib.hid hb;clear hb
 have HT:=Lib.hid hT;clear hT
 have HN:=Lib.hid hN;clear hN
 refine (callsIn_wide (n:=9)).1 ?_
 refine callsIn_of_wp_marks Tryz.func63 rfl trivial ?_ rfl
 simp only[Tryz.ntmps63,List.size_toArray,List.length_cons,List.length_nil,Nat.reduceAdd,Nat.reduceSub,Array.replicate_succ,Array.replicate_zero,List.push_toArray,List.append_toArray,List.nil_append,List.cons_append]
 gi_wp2_with fail
 refine⟨trivial,?_⟩
 have hb1:=((((HB.out.set 8 (.int .u64 0)).set 9 (.int .u64 0)).set 10 (.int .u64 0)).set 11 (.int .u64 0))
 have hg1:=aQ (aQ (aQ (aQ (ah w (some R)) 8 (.int .u64 0)) 9 (.int .u64 0)) 10 (.int .u64 0)) 11 (.int .u64 0)
 rw[RO (uh N 8) rfl a b c d]at hb1
 have hs1:((((w.setCell ⟨R,8,none⟩ (.int .u64 0)).setCell ⟨R,9,none⟩ (.int .u64 0)).setCell ⟨R,10,none⟩ (.int .u64 0)).setCell ⟨R,11,none⟩ (.int .u64 0)).heap.size=w.heap.size:=by simp[World.setCell]
 clear k0 k1 k2 k3 f0 f1 f2 f3 HB
 revert hb1 hg1 hs1
 generalize (((w.setCell ⟨R,8,none⟩ (.int .u64 0)).setCell ⟨R,9,none⟩ (.int .u64 0)).setCell ⟨R,10,none⟩ (.int .u64 0)).setCell ⟨R,11,none⟩ (.int .u64 0)=w1
 intro hb1 hg1 hs1
 have hX:=kJ w1 (B:=w.heap.size) [.pointer (some ⟨R,0,none⟩)] 131 hs1
 have hY:=kJ (w1.alloc (.cells #[.pointer (some ⟨R,0,none⟩)] 131)) (B:=w.heap.size+1) [.int .u64 0,.int .u64 0,.int .u64 0,.int .u64 0] 102 (by simp[hs1])
 have hX2:=hX.alloc (.cells #[.int .u64 0,.int .u64 0,.int .u64 0,.int .u64 0] 102)
 have hb2:=(hb1.alloc (.cells #[.pointer (some ⟨R,0,none⟩)] 131)).alloc (.cells #[.int .u64 0,.int .u64 0,.int .u64 0,.int .u64 0] 102)
 have hg2:=au (au hg1 (.cells #[.pointer (some ⟨R,0,none⟩)] 131)) (.cells #[.int .u64 0,.int .u64 0,.int .u64 0,.int .u64 0] 102)
 have hs2:((w1.alloc (.cells #[.pointer (some ⟨R,0,none⟩)] 131)).alloc (.cells #[.int .u64 0,.int .u64 0,.int .u64 0,.int .u64 0] 102)).heap.size=w.heap.size+2:=by simp[hs1]
 clear hX hb1 hg1 hs1
 revert hX2 hY hb2 hg2 hs2
 generalize (w1.alloc (.cells #[.pointer (some ⟨R,0,none⟩)] 131)).alloc (.cells #[.int .u64 0,.int .u64 0,.int .u64 0,.int .u64 0] 102)=w2
 intro hY hX2 hb2 hg2 hs2
 refine (GJ Fence.wide 8 trivial rfl _ _ _ _).mono ?_
 rintro e w3 ⟨rfl,hw3⟩
 have hI:YI w R N T [] w3:=by
  subst hw3
  exact⟨hb2.alloc _,HT.out.kept (au hg2 _) (fun r e=>by cases e;exact hR),hX2.alloc _,hY.alloc _,au hg2 _,by simp[hs2]⟩
 have zq:aF w3 (w.heap.size+2) 127 [.slice (some ⟨R,0,none⟩) 8 8]:=by
  subst hw3
  exact kJ w2 [.slice (some ⟨R,0,none⟩) 8 8] _ hs2
 have hs3:w3.heap.size=w.heap.size+3:=by subst hw3;simp[hs2]
 rw[hs2]
 clear hw3 hX2 hY hb2 hg2 hs2
 have HI:=Lib.hid hI;clear hI
 gi_wp2_with fail
 have hRN:∀j,j<8->w3.cell? ⟨R,j,none⟩=some (.int .u64 (Sc.bC N j:Int)):=fun j hj=>HI.out.rest.cell (uj N 8 j hj _)
 have hO:3<w.heap.size:=by omega
 refine wpIn_rangeFunc_ownG (F:=Fence.wide) (n:=9) rfl (by decide) (gf:=112) (lb:=#[.pointer (some ⟨w.heap.size+2,0,none⟩)]) rfl trivial (enters_of Tryz.func112 (by kernel_rfl) rfl)
  (w0:=w3) (Bd Fence.wide 8 trivial rfl (by decide) (w.heap.size+2) R N w3 (by omega) (by omega) (zq.cell (i:=0) rfl) hRN)
  (fun h k=>GI h k) (fun W l o o' hl h _ _=>RL (n:=w3.heap.size) (by omega) (by omega) W l o o' hl h) (Below.refl _ _) (fun _=>rfl)
  (YI w R N T) (fun _ _ _=>False) (RN w R N T _ (by omega) hO) (fun _ _ _ _ _ h _ _=>h) HI.out
  (fun x=>{tmps:=#[.pointer (some ⟨R,0,none⟩),.pointer (some ⟨w.heap.size,0,none⟩),.pointer (some ⟨w.heap.size+1,0,none⟩),undef,.int .u64 (x.1.2:Int),.pointer (some ⟨R,0,none⟩),.agg #[.int .u64 0,.int .u64 0,.int .u64 0,.int .u64 0],.pointer (some ⟨R,0,none⟩),.pointer (some ⟨R,8,none⟩),.pointer (some ⟨R,0,none⟩),.pointer (some ⟨R,0,none⟩),.pointer (some ⟨R,0,none⟩),.slice (some ⟨R,0,none⟩) 8 8,.func (.func 112) #[] #[.pointer (some ⟨w.heap.size+2,0,none⟩)],.int .i64 (x.1.1:Int),.int .u64 (x.1.2:Int),undef,undef,undef,undef,undef,undef,undef],defers:=[]}) ?assign ?body ?done ?stop
 case assign=>
  intro l x W K hK
  unfold pwE
  gi_wp2
  exact hK
 case body=>
  rintro l pre x W hI _
  have Vz:=hI.box.cell (i:=0) rfl
  have hgW:=hI.grown
  have HJ:=Lib.hid hI;clear hI
  gi_wp2_with (refine⟨trivial,?_⟩;gi_at_call 87;refine (CallsIn.inRound l (callsIn_wide.2 (Cy R (fold pre) x.1.2 T (uh N 8) W rfl x.2 HJ.out.tab hR HJ.out.rest))).mono ?_;rintro e W' ⟨rfl,hg',hb'⟩)
  rw[<- Dp]at hb'
  refine⟨KeepsFrom.of_grownBy hg' (fun j e=>by cases e;omega),⟨fun j hj=>?_,?_⟩,?_⟩
  .rw[hb'.cell (uj N 8 j hj _),HJ.out.rest.cell (uj N 8 j hj _)]
  .exact aZ hg' (p:=⟨w.heap.size+2,0,none⟩) (show w.heap.size+2<W.heap.size by have:=HJ.out.size;omega) (bI (by show w.heap.size+2≠R;omega))
  .exact⟨hb',HJ.out.tab.kept hg' (fun r e=>by cases e;exact hR),HJ.out.box.grown hg' (bI (by omega)),HJ.out.res.grown hg' (bI (by omega)),aj HJ.out.grown hg',Nat.le_trans HJ.out.size hg'.size⟩
 case done=>
  rintro D ys W hD rfl hI hK
  have hf:=Oz N 8 HN.out (Nat.le_refl _)
  rw[show 64*(8-8)=0 from rfl,Nat.pow_zero,Nat.div_one]at hf
  have hrest:=hI.rest
  rw[hf]at hrest
  have hres:=hI.res
  have Vz:=hI.box.cell (i:=0) rfl
  obtain⟨q0,q1,q2,q3⟩:=GD (uh N 8) rfl (N%Sc.L)
  have k0:=hrest.cell q0
  have k1:=hrest.cell q1
  have k2:=hrest.cell q2
  have k3:=hrest.cell q3
  have r0:=hres.cell (i:=0) rfl
  have r1:=hres.cell (i:=1) rfl
  have r2:=hres.cell (i:=2) rfl
  have r3:=hres.cell (i:=3) rfl
  have f0:=hres.free 0
  have f1:=hres.free 1
  have f2:=hres.free 2
  have f3:=hres.free 3
  unfold wV jB at k0 k1 k2 k3
  have HRe:=Lib.hid hrest;clear hrest hres q0 q1 q2 q3 hf
  have HJ:=Lib.hid hI;clear hI
  gi_wp2
  have JR:=(((((HJ.out.res.set 0 (.int .u64 (Sc.bC (N%Sc.L) 0:Int))).set 1 (.int .u64 (Sc.bC (N%Sc.L) 1:Int))).set 2 (.int .u64 (Sc.bC (N%Sc.L) 2:Int))).set 3 (.int .u64 (Sc.bC (N%Sc.L) 3:Int))))
  have hB4:=(((HRe.out.other (a:=⟨w.heap.size+1,0,none⟩) (by show w.heap.size+1≠R;omega) (.int .u64 (Sc.bC (N%Sc.L) 0:Int))).other (a:=⟨w.heap.size+1,1,none⟩) (by show w.heap.size+1≠R;omega) (.int .u64 (Sc.bC (N%Sc.L) 1:Int))).other (a:=⟨w.heap.size+1,2,none⟩) (by show w.heap.size+1≠R;omega) (.int .u64 (Sc.bC (N%Sc.L) 2:Int))).other (a:=⟨w.heap.size+1,3,none⟩) (by show w.heap.size+1≠R;omega) (.int .u64 (Sc.bC (N%Sc.L) 3:Int))
  have hg4:=aJ (aJ (aJ (aJ HJ.out.grown (p:=⟨w.heap.size+1,0,none⟩) (Nat.le_succ _) (.int .u64 (Sc.bC (N%Sc.L) 0:Int))) (p:=⟨w.heap.size+1,1,none⟩) (Nat.le_succ _) (.int .u64 (Sc.bC (N%Sc.L) 1:Int))) (p:=⟨w.heap.size+1,2,none⟩) (Nat.le_succ _) (.int .u64 (Sc.bC (N%Sc.L) 2:Int))) (p:=⟨w.heap.size+1,3,none⟩) (Nat.le_succ _) (.int .u64 (Sc.bC (N%Sc.L) 3:Int))
  have hK4:=(((KeepsOthers.setCell W ⟨w.heap.size+1,0,none⟩ (.int .u64 (Sc.bC (N%Sc.L) 0:Int))).trans (KeepsOthers.setCell _ ⟨w.heap.size+1,1,none⟩ (.int .u64 (Sc.bC (N%Sc.L) 1:Int)))).trans (KeepsOthers.setCell _ ⟨w.heap.size+1,2,none⟩ (.int .u64 (Sc.bC (N%Sc.L) 2:Int)))).trans (KeepsOthers.setCell _ ⟨w.heap.size+1,3,none⟩ (.int .u64 (Sc.bC (N%Sc.L) 3:Int)))
  have hK5:=hK4.same D _ hK rfl
  clear hK4 r0 r1 r2 r3 f0 f1 f2 f3 k0 k1 k2 k3 Vz hK HRe HI
  have hs4:w3.heap.size<=D:=hD
  revert JR hB4 hg4 hK5
  generalize (((W.setCell ⟨w.heap.size+1,0,none⟩ (.int .u64 (Sc.bC (N%Sc.L) 0:Int))).setCell ⟨w.heap.size+1,1,none⟩ (.int .u64 (Sc.bC (N%Sc.L) 1:Int))).setCell ⟨w.heap.size+1,2,none⟩ (.int .u64 (Sc.bC (N%Sc.L) 2:Int))).setCell ⟨w.heap.size+1,3,none⟩ (.int .u64 (Sc.bC (N%Sc.L) 3:Int))=W4
  intro JR hB4 hg4 hK5
  have hp:=grownBy_putObj' W4 D (.deferred none)
  have Jw:=JR.grown hp (bI (by omega))
  have hB5:=hB4.grown hp (bI (by omega))
  have hg5:=aW hg4 hp (by omega)
  have r0:=Jw.cell (i:=0) rfl
  have r1:=Jw.cell (i:=1) rfl
  have r2:=Jw.cell (i:=2) rfl
  have r3:=Jw.cell (i:=3) rfl
  refine⟨by simp,.inl ⟨_,_,rfl,run_takeDeferred hK5,?_⟩⟩
  refine⟨jG (N%Sc.L),?_,rfl,hg5,hB5⟩
  simp[results,Tryz.results63,go_sem,r0,r1,r2,r3,jG,wV,jB]
 case stop=>
  rintro D c pre W _ _ h _
  exact h.elim
end
section
open Go.RowKit Ed
set_option maxRecDepth 100000 in
set_option maxHeartbeats 3200000 in
theorem Bf (S:Nat) (s:Sm) (a u b v:Fe) (w0:World) (hS:aF w0 S 149 (lg s)) (oka:a.Ok) (oku:u.Ok) (okb:b.Ok) (okv:v.Ok):
  Calls Tryz.prog 128 #[.pointer (some ⟨S,0,none⟩),a.v,u.v,b.v,v.v] w0 fun e w'=>e=.returned (.tuple #[])/\w0.grownBy w' (some S)/\aF w' S 149 (lg (bF s.T a u b v)):=by
 show Calls Tryz.prog 128 #[.pointer (some ⟨S,0,none⟩),.agg (aR a).toArray,.agg (aR u).toArray,.agg (aR b).toArray,.agg (aR v).toArray] w0 _
 go_enter Tryz.func128,Tryz.ntmps128
 go_upto_region 1 with (fail)
 have hlt:=hS.lt
 have G:w0.grownBy ((((w0.alloc (.cells (aR a).toArray 66)).alloc (.cells (aR u).toArray 66)).alloc (.cells (aR b).toArray 66)).alloc (.cells (aR v).toArray 66)) (some S):=au (au (au (au (ah _ _) _) _) _) _
 have ha:aF ((((w0.alloc (.cells (aR a).toArray 66)).alloc (.cells (aR u).toArray 66)).alloc (.cells (aR b).toArray 66)).alloc (.cells (aR v).toArray 66)) (w0.heap.size) 66 (aR a):=(((aF.new w0 (aR a) _).alloc _).alloc _).alloc _
 have hu:aF ((((w0.alloc (.cells (aR a).toArray 66)).alloc (.cells (aR u).toArray 66)).alloc (.cells (aR b).toArray 66)).alloc (.cells (aR v).toArray 66)) (w0.heap.size+1) 66 (aR u):=((aF.newAt (w0.alloc _) (aR u) _ (by simp)).alloc _).alloc _
 have hb:aF ((((w0.alloc (.cells (aR a).toArray 66)).alloc (.cells (aR u).toArray 66)).alloc (.cells (aR b).toArray 66)).alloc (.cells (aR v).toArray 66)) (w0.heap.size+1+1) 66 (aR b):=(aF.newAt ((w0.alloc _).alloc _) (aR b) _ (by simp)).alloc _
 have hv:aF ((((w0.alloc (.cells (aR a).toArray 66)).alloc (.cells (aR u).toArray 66)).alloc (.cells (aR b).toArray 66)).alloc (.cells (aR v).toArray 66)) (w0.heap.size+1+1+1) 66 (aR v):=aF.newAt (((w0.alloc _).alloc _).alloc _) (aR v) _ (by simp)
 replace hS:aF ((((w0.alloc (.cells (aR a).toArray 66)).alloc (.cells (aR u).toArray 66)).alloc (.cells (aR b).toArray 66)).alloc (.cells (aR v).toArray 66)) S 149 (lg s):=(((hS.alloc _).alloc _).alloc _).alloc _
 revert G ha hu hb hv hS
 generalize (((w0.alloc (.cells (aR a).toArray 66)).alloc (.cells (aR u).toArray 66)).alloc (.cells (aR b).toArray 66)).alloc (.cells (aR v).toArray 66)=W0
 intro G ha hu hb hv hS
 have lC:=G.size
 have ak4:=ha.lt
 have ak5:=hu.lt
 have ak6:=hb.lt
 have ak7:=hv.lt
 have VA:=hS.lt
 refine Fg.rP [] [.any,.any,.any,.any,.any,.any,.any,.any,.any,.any,.val (Value.pointer (some ⟨S,0,none⟩)),.val (a.v),.val (v.v),.val ((Fe.aM a v).v),.val (Value.pointer (some ⟨S,0,none⟩)),.val (Value.pointer (some ⟨S,0,none⟩)),.val (Value.pointer (some ⟨S,0,none⟩))] 7 ?_ ?_
 .refine Fg.vS rfl (by decide) (fun _ _ h=>Fg.vn _ (Fg.run_move rfl (h.r 0))) ?_
  refine Fg.vS rfl (by decide) (fun _ _ h=>Fg.vn a.v (Fg.run_load rfl (h.r 6) ((ha.gn h.base).range 0 (aR a) rfl) Tryz.underlying66 rfl aD)) ?_
  refine Fg.vS rfl (by decide) (fun _ _ h=>Fg.vn v.v (Fg.run_load rfl (h.r 9) ((hv.gn h.base).range 0 (aR v) rfl) Tryz.underlying66 rfl aD)) ?_
  refine Fg.cS rfl (by decide) (fun _ w h=>Fg.cq rfl (jg oka okv) ⟨h.d 11,h.d 12,trivial⟩ Tryz.func82) ?_
  refine Fg.vS rfl (by decide) (fun _ _ h=>Fg.vn _ (Fg.cu rfl (h.d 10))) ?_
  refine Fg.vS rfl (by decide) (fun _ _ h=>Fg.vn _ (Fg.aG rfl (h.d 14) (ji _ _ _))) ?_
  refine Fg.vS rfl (by decide) (fun _ _ h=>Fg.vn _ (Fg.aG rfl (h.d 15) (eY _ _ _))) ?_
  trivial
 .intro qa V1 g1 hsz hdf hrest aC hpt
  obtain⟨⟨u10,fI⟩,⟨u11,dX⟩,⟨u12,fG⟩,_⟩:=Fg.bn qa [10,11,12]
  obtain⟨x1,hx1⟩:∃x:Fe,x=Fe.aM a v:=⟨_,rfl⟩
  obtain⟨u14,dB⟩:=Fg.bP qa 14
  obtain⟨u15,dO⟩:=Fg.bP qa 15
  obtain rfl:=Fg.aP [10,11,12,13,14,15,16] (vs:=[_,_,_,_,_,_,_,_,_,_,u10,u11,u12,x1.v,u14,u15,Value.pointer (some ⟨S,0,none⟩),_,_,_,_,_,_,_,_,_,_,_,_,_,_,_,_,_,_,_,_,_,_]) hsz hrest (by kernel_rfl) rfl rfl ⟨fI,dX,fG,(show qa.tmps.getD 13 undef=x1.v by rw[hx1];exact aC 13 (by kernel_rfl)),dB,dO,(show qa.tmps.getD 16 undef=Value.pointer (some ⟨S,0,none⟩) from aC 16 (by kernel_rfl)),trivial⟩ hdf
  clear hsz hdf hrest aC hpt fI dX fG dB dO
  have mU:=Lib.hid hx1;clear hx1
  replace ha:=ha.gn g1
  replace hu:=hu.gn g1
  replace hb:=hb.gn g1
  replace hv:=hv.gn g1
  replace hS:=hS.gn g1
  replace G:=aj G (fZ g1 _)
  have mg:x1.Ok:=by rw[mU.out];exact (Fe.mul_right _ _).ok
  clear g1
  refine Fg.aU rfl rfl (Fg.run_store (cs:=aR x1) rfl rfl rfl (hS.there 0 5 (by show 0+5<=30;decide)) aD (dn _)) ?_
  replace ha:=ha.ak (C:=S) (cs:=aR x1) 0 (by omega)
  replace hu:=hu.ak (C:=S) (cs:=aR x1) 0 (by omega)
  replace hb:=hb.ak (C:=S) (cs:=aR x1) 0 (by omega)
  replace hv:=hv.ak (C:=S) (cs:=aR x1) 0 (by omega)
  replace hS:aF (V1.setCells S 0 (aR x1)) S 149 (lg ((Sm.mk x1 s.Y s.Z s.T s.A s.B))):=hS.setCells 0
  replace G:=aK (cs:=aR x1) G 0
  revert ha hu hb hv hS G
  generalize V1.setCells S 0 (aR x1)=W2
  intro ha hu hb hv hS G
  go_upto_region 2 with (fail)
  have vU:=G.size
  have ak8:=ha.lt
  have ak9:=hu.lt
  have ala:=hb.lt
  have alb:=hv.lt
  have VB:=hS.lt
  refine Fg.rP [] [.any,.any,.any,.any,.any,.any,.any,.any,.any,.any,.any,.any,.any,.any,.any,.any,.any,.val (Value.pointer (some ⟨S,0,none⟩)),.val (b.v),.val (u.v),.val ((Fe.aM b u).v),.val (Value.pointer (some ⟨S,0,none⟩)),.val (Value.pointer (some ⟨S,0,none⟩)),.val (Value.pointer (some ⟨S,5,none⟩))] 7 ?_ ?_
  .refine Fg.vS rfl (by decide) (fun _ _ h=>Fg.vn _ (Fg.run_move rfl (h.r 0))) ?_
   refine Fg.vS rfl (by decide) (fun _ _ h=>Fg.vn b.v (Fg.run_load rfl (h.r 8) ((hb.gn h.base).range 0 (aR b) rfl) Tryz.underlying66 rfl aD)) ?_
   refine Fg.vS rfl (by decide) (fun _ _ h=>Fg.vn u.v (Fg.run_load rfl (h.r 7) ((hu.gn h.base).range 0 (aR u) rfl) Tryz.underlying66 rfl aD)) ?_
   refine Fg.cS rfl (by decide) (fun _ w h=>Fg.cq rfl (jg okb oku) ⟨h.d 18,h.d 19,trivial⟩ Tryz.func82) ?_
   refine Fg.vS rfl (by decide) (fun _ _ h=>Fg.vn _ (Fg.cu rfl (h.d 17))) ?_
   refine Fg.vS rfl (by decide) (fun _ _ h=>Fg.vn _ (Fg.aG rfl (h.d 21) (ji _ _ _))) ?_
   refine Fg.vS rfl (by decide) (fun _ _ h=>Fg.vn _ (Fg.aG rfl (h.d 22) (iy _ _ _))) ?_
   trivial
  .intro qa V3 g3 hsz hdf hrest aC hpt
   obtain⟨⟨u17,dY⟩,⟨u18,dZ⟩,⟨u19,d9⟩,_⟩:=Fg.bn qa [17,18,19]
   obtain⟨x2,hx2⟩:∃x:Fe,x=Fe.aM b u:=⟨_,rfl⟩
   obtain⟨u21,eG⟩:=Fg.bP qa 21
   obtain⟨u22,eH⟩:=Fg.bP qa 22
   obtain rfl:=Fg.aP [17,18,19,20,21,22,23] (vs:=[_,_,_,_,_,_,_,_,_,_,_,_,_,_,_,_,_,u17,u18,u19,x2.v,u21,u22,Value.pointer (some ⟨S,5,none⟩),_,_,_,_,_,_,_,_,_,_,_,_,_,_,_]) hsz hrest (by kernel_rfl) rfl rfl ⟨dY,dZ,d9,(show qa.tmps.getD 20 undef=x2.v by rw[hx2];exact aC 20 (by kernel_rfl)),eG,eH,(show qa.tmps.getD 23 undef=Value.pointer (some ⟨S,5,none⟩) from aC 23 (by kernel_rfl)),trivial⟩ hdf
   clear hsz hdf hrest aC hpt dY dZ d9 eG eH
   have Fu:=Lib.hid hx2;clear hx2
   replace ha:=ha.gn g3
   replace hu:=hu.gn g3
   replace hb:=hb.gn g3
   replace hv:=hv.gn g3
   replace hS:=hS.gn g3
   replace G:=aj G (fZ g3 _)
   have Kr:x2.Ok:=by rw[Fu.out];exact (Fe.mul_right _ _).ok
   clear g3
   refine Fg.aU rfl rfl (Fg.run_store (cs:=aR x2) rfl rfl rfl (hS.there 5 5 (by show 5+5<=30;decide)) aD (dn _)) ?_
   replace ha:=ha.ak (C:=S) (cs:=aR x2) 5 (by omega)
   replace hu:=hu.ak (C:=S) (cs:=aR x2) 5 (by omega)
   replace hb:=hb.ak (C:=S) (cs:=aR x2) 5 (by omega)
   replace hv:=hv.ak (C:=S) (cs:=aR x2) 5 (by omega)
   replace hS:aF (V3.setCells S 5 (aR x2)) S 149 (lg ((Sm.mk x1 x2 s.Z s.T s.A s.B))):=hS.setCells 5
   replace G:=aK (cs:=aR x2) G 5
   revert ha hu hb hv hS G
   generalize V3.setCells S 5 (aR x2)=W4
   intro ha hu hb hv hS G
   go_upto_region 3 with (fail)
   have Oh:=G.size
   have alc:=ha.lt
   have ald:=hu.lt
   have ale:=hb.lt
   have alf:=hv.lt
   have YJ:=hS.lt
   refine Fg.rP [] [.any,.any,.any,.any,.any,.any,.any,.any,.any,.any,.any,.any,.any,.any,.any,.any,.any,.any,.any,.any,.any,.any,.any,.any,.val (Value.pointer (some ⟨S,0,none⟩)),.val (u.v),.val (v.v),.val ((Fe.aM u v).v),.val (Value.pointer (some ⟨S,0,none⟩)),.val (Value.pointer (some ⟨S,0,none⟩)),.val (Value.pointer (some ⟨S,10,none⟩))] 7 ?_ ?_
   .refine Fg.vS rfl (by decide) (fun _ _ h=>Fg.vn _ (Fg.run_move rfl (h.r 0))) ?_
    refine Fg.vS rfl (by decide) (fun _ _ h=>Fg.vn u.v (Fg.run_load rfl (h.r 7) ((hu.gn h.base).range 0 (aR u) rfl) Tryz.underlying66 rfl aD)) ?_
    refine Fg.vS rfl (by decide) (fun _ _ h=>Fg.vn v.v (Fg.run_load rfl (h.r 9) ((hv.gn h.base).range 0 (aR v) rfl) Tryz.underlying66 rfl aD)) ?_
    refine Fg.cS rfl (by decide) (fun _ w h=>Fg.cq rfl (jg oku okv) ⟨h.d 25,h.d 26,trivial⟩ Tryz.func82) ?_
    refine Fg.vS rfl (by decide) (fun _ _ h=>Fg.vn _ (Fg.cu rfl (h.d 24))) ?_
    refine Fg.vS rfl (by decide) (fun _ _ h=>Fg.vn _ (Fg.aG rfl (h.d 28) (ji _ _ _))) ?_
    refine Fg.vS rfl (by decide) (fun _ _ h=>Fg.vn _ (Fg.aG rfl (h.d 29) (fq _ _ _))) ?_
    trivial
   .intro qa V5 g5 hsz hdf hrest aC hpt
    obtain⟨⟨u24,dP⟩,⟨u25,eD⟩,⟨u26,eF⟩,_⟩:=Fg.bn qa [24,25,26]
    obtain⟨x3,hx3⟩:∃x:Fe,x=Fe.aM u v:=⟨_,rfl⟩
    obtain⟨u28,jc⟩:=Fg.bP qa 28
    obtain⟨u29,kr⟩:=Fg.bP qa 29
    obtain rfl:=Fg.aP [24,25,26,27,28,29,30] (vs:=[_,_,_,_,_,_,_,_,_,_,_,_,_,_,_,_,_,_,_,_,_,_,_,_,u24,u25,u26,x3.v,u28,u29,Value.pointer (some ⟨S,10,none⟩),_,_,_,_,_,_,_,_]) hsz hrest (by kernel_rfl) rfl rfl ⟨dP,eD,eF,(show qa.tmps.getD 27 undef=x3.v by rw[hx3];exact aC 27 (by kernel_rfl)),jc,kr,(show qa.tmps.getD 30 undef=Value.pointer (some ⟨S,10,none⟩) from aC 30 (by kernel_rfl)),trivial⟩ hdf
    clear hsz hdf hrest aC hpt dP eD eF jc kr
    have RP:=Lib.hid hx3;clear hx3
    replace ha:=ha.gn g5
    replace hu:=hu.gn g5
    replace hb:=hb.gn g5
    replace hv:=hv.gn g5
    replace hS:=hS.gn g5
    replace G:=aj G (fZ g5 _)
    have OA:x3.Ok:=by rw[RP.out];exact (Fe.mul_right _ _).ok
    clear g5
    refine Fg.aU rfl rfl (Fg.run_store (cs:=aR x3) rfl rfl rfl (hS.there 10 5 (by show 10+5<=30;decide)) aD (dn _)) ?_
    replace ha:=ha.ak (C:=S) (cs:=aR x3) 10 (by omega)
    replace hu:=hu.ak (C:=S) (cs:=aR x3) 10 (by omega)
    replace hb:=hb.ak (C:=S) (cs:=aR x3) 10 (by omega)
    replace hv:=hv.ak (C:=S) (cs:=aR x3) 10 (by omega)
    replace hS:aF (V5.setCells S 10 (aR x3)) S 149 (lg ((Sm.mk x1 x2 x3 s.T s.A s.B))):=hS.setCells 10
    replace G:=aK (cs:=aR x3) G 10
    revert ha hu hb hv hS G
    generalize V5.setCells S 10 (aR x3)=W6
    intro ha hu hb hv hS G
    go_upto_region 4 with (fail)
    have c0:=ha.cell (i:=0) rfl;have c1:=ha.cell (i:=1) rfl;have c2:=ha.cell (i:=2) rfl;have c3:=ha.cell (i:=3) rfl;have c4:=ha.cell (i:=4) rfl
    have d0:=hb.cell (i:=0) rfl;have d1:=hb.cell (i:=1) rfl;have d2:=hb.cell (i:=2) rfl;have d3:=hb.cell (i:=3) rfl;have d4:=hb.cell (i:=4) rfl
    have s20:=hS.cell (i:=20) rfl;have f20:=hS.free 20
    have s21:=hS.cell (i:=21) rfl;have f21:=hS.free 21
    have s22:=hS.cell (i:=22) rfl;have f22:=hS.free 22
    have s23:=hS.cell (i:=23) rfl;have f23:=hS.free 23
    have s24:=hS.cell (i:=24) rfl;have f24:=hS.free 24
    have s25:=hS.cell (i:=25) rfl;have f25:=hS.free 25
    have s26:=hS.cell (i:=26) rfl;have f26:=hS.free 26
    have s27:=hS.cell (i:=27) rfl;have f27:=hS.free 27
    have s28:=hS.cell (i:=28) rfl;have f28:=hS.free 28
    have s29:=hS.cell (i:=29) rfl;have f29:=hS.free 29
    have NT:aF (((((W6.setCells S 20 (aR a)).setCells S 25 (aR b))))) S 149 (lg (bF s.T a u b v)):=by
        have hx3:=RP.out;subst hx3
        have hx2:=Fu.out;subst hx2
        have hx1:=mU.out;subst hx1
        exact (hS.setCells 20).setCells 25
    have G1:=aK (cs:=aR b) (aK (cs:=aR a) G 20) 25
    have HS2:=NT.drew
    have G2:=aX G1
    clear NT G1
    have HR:=Lib.hid (And.intro HS2 G2)
    clear ha hu hb hv hS G HS2 G2
    go_region
    all_goals
     go_wp2
     go_end0
     exact⟨rfl,HR.out.2,HR.out.1⟩
end
section
open Go.RowKit Ed
set_option maxRecDepth 100000 in
set_option maxHeartbeats 3200000 in
theorem um (S:Nat) (s:Sm) (w0:World) (hS:aF w0 S 149 (lg s)) (oks:s.Ok):
  Calls Tryz.prog 100 #[.pointer (some ⟨S,0,none⟩)] w0 fun e w'=>e=.returned (lK s).v/\w0.grownBy w' (some S)/\aF w' S 149 (lg (Sm.mk s.X s.Y s.Z (Fe.aM s.A s.B) s.A s.B)):=by
 go_enter Tryz.func100,Tryz.ntmps100
 go_upto_region 1 with (fail)
 have agi:=hS.lt
 have G:w0.grownBy (w0.alloc (.cells bE.toArray 68)) (some S):=au (ah _ _) _
 have hR:aF (w0.alloc (.cells bE.toArray 68)) (w0.heap.size) 68 bE:=aF.new w0 bE _
 replace hS:aF (w0.alloc (.cells bE.toArray 68)) S 149 (lg s):=hS.alloc _
 revert G hR hS
 generalize w0.alloc (.cells bE.toArray 68)=W0
 intro G hR hS
 have Gs:=G.size
 have lC:=G.size
 have VA:=hS.lt
 have lq:=hR.lt
 refine Fg.rT [] [.any,.any,.any,.val (Value.pointer (some ⟨S,0,none⟩)),.val (Value.pointer (some ⟨S,0,none⟩)),.val (Value.pointer (some ⟨S,0,none⟩)),.val (Value.pointer (some ⟨S,20,none⟩)),.val (s.A.v),.val (Value.pointer (some ⟨S,0,none⟩)),.val (Value.pointer (some ⟨S,0,none⟩)),.val (Value.pointer (some ⟨S,25,none⟩)),.val (s.B.v),.val ((Fe.aM s.A s.B).v),.val (Value.pointer (some ⟨S,0,none⟩)),.val (Value.pointer (some ⟨S,0,none⟩)),.val (Value.pointer (some ⟨S,15,none⟩))] 13 ?_ ?_
 .refine Fg.vS rfl (by decide) (fun _ _ h=>Fg.vn _ (Fg.run_move rfl (h.r 0))) ?_
  refine Fg.vS rfl (by decide) (fun _ _ h=>Fg.vn _ (Fg.run_move rfl (h.r 0))) ?_
  refine Fg.vS rfl (by decide) (fun _ _ h=>Fg.vn _ (Fg.cu rfl (h.d 4))) ?_
  refine Fg.vS rfl (by decide) (fun _ _ h=>Fg.vn _ (Fg.aG rfl (h.d 5) (Vg _ _ _))) ?_
  refine Fg.vS rfl (by decide) (fun _ _ h=>Fg.vn s.A.v (Fg.run_load rfl (h.d 6) ((hS.gn h.base).range 20 (aR s.A) rfl) Tryz.underlying66 rfl aD)) ?_
  refine Fg.vS rfl (by decide) (fun _ _ h=>Fg.vn _ (Fg.run_move rfl (h.r 0))) ?_
  refine Fg.vS rfl (by decide) (fun _ _ h=>Fg.vn _ (Fg.cu rfl (h.d 8))) ?_
  refine Fg.vS rfl (by decide) (fun _ _ h=>Fg.vn _ (Fg.aG rfl (h.d 9) (Vh _ _ _))) ?_
  refine Fg.vS rfl (by decide) (fun _ _ h=>Fg.vn s.B.v (Fg.run_load rfl (h.d 10) ((hS.gn h.base).range 25 (aR s.B) rfl) Tryz.underlying66 rfl aD)) ?_
  refine Fg.cS rfl (by decide) (fun _ w h=>Fg.cq rfl (jg oks.A oks.B) ⟨h.d 7,h.d 11,trivial⟩ Tryz.func82) ?_
  refine Fg.vS rfl (by decide) (fun _ _ h=>Fg.vn _ (Fg.cu rfl (h.d 3))) ?_
  refine Fg.vS rfl (by decide) (fun _ _ h=>Fg.vn _ (Fg.aG rfl (h.d 13) (ji _ _ _))) ?_
  refine Fg.vS rfl (by decide) (fun _ _ h=>Fg.vn _ (Fg.aG rfl (h.d 14) (nJ _ _ _))) ?_
  trivial
 .intro qa V1 g1 hsz hdf hrest aC hpt
  obtain⟨⟨u3,hs3⟩,⟨u4,hs4⟩,⟨u5,hs5⟩,⟨u6,hs6⟩,⟨u7,hs7⟩,⟨u8,kZ⟩,⟨u9,jA⟩,⟨u10,fI⟩,⟨u11,dX⟩,_⟩:=Fg.bn qa [3,4,5,6,7,8,9,10,11]
  obtain⟨x1,hx1⟩:∃x:Fe,x=Fe.aM s.A s.B:=⟨_,rfl⟩
  obtain⟨u13,dM⟩:=Fg.bP qa 13
  obtain⟨u14,dB⟩:=Fg.bP qa 14
  obtain rfl:=Fg.aP [3,4,5,6,7,8,9,10,11,12,13,14,15] (vs:=[_,_,_,u3,u4,u5,u6,u7,u8,u9,u10,u11,x1.v,u13,u14,Value.pointer (some ⟨S,15,none⟩),_,_,_,_]) hsz hrest (by kernel_rfl) rfl rfl ⟨hs3,hs4,hs5,hs6,hs7,kZ,jA,fI,dX,(show qa.tmps.getD 12 undef=x1.v by rw[hx1];exact aC 12 (by kernel_rfl)),dM,dB,(show qa.tmps.getD 15 undef=Value.pointer (some ⟨S,15,none⟩) from aC 15 (by kernel_rfl)),trivial⟩ hdf
  clear hsz hdf hrest aC hpt hs3 hs4 hs5 hs6 hs7 kZ jA fI dX dM dB
  have mU:=Lib.hid hx1;clear hx1
  replace hS:=hS.gn g1
  replace hR:=hR.gn g1
  replace G:=aj G (fZ g1 _)
  have mg:x1.Ok:=by rw[mU.out];exact (Fe.mul_right _ _).ok
  clear g1
  refine Fg.aU rfl rfl (Fg.run_store (cs:=aR x1) rfl rfl rfl (hS.there 15 5 (by show 15+5<=30;decide)) aD (dn _)) ?_
  replace hS:aF (V1.setCells S 15 (aR x1)) S 149 (lg ((Sm.mk s.X s.Y s.Z x1 s.A s.B))):=hS.setCells 15
  replace hR:=hR.ak (C:=S) (cs:=aR x1) 15 (by omega)
  replace G:=aK (cs:=aR x1) G 15
  revert hS hR G
  generalize V1.setCells S 15 (aR x1)=W2
  intro hS hR G
  go_upto_region 2 with (fail)
  have vU:=G.size
  have VB:=hS.lt
  have qI:=hR.lt
  refine Fg.rP [] [.any,.any,.any,.any,.any,.any,.any,.any,.any,.any,.any,.any,.any,.any,.any,.any,.val (Value.pointer (some ⟨S,0,none⟩)),.val (Value.pointer (some ⟨S,0,none⟩)),.val (Value.pointer (some ⟨S,0,none⟩)),.val (((Pt.mk s.X s.Y s.Z x1)).v)] 4 ?_ ?_
  .refine Fg.vS rfl (by decide) (fun _ _ h=>Fg.vn _ (Fg.run_move rfl (h.r 0))) ?_
   refine Fg.vS rfl (by decide) (fun _ _ h=>Fg.vn _ (Fg.cu rfl (h.d 16))) ?_
   refine Fg.vS rfl (by decide) (fun _ _ h=>Fg.vn _ (Fg.aG rfl (h.d 17) (ji _ _ _))) ?_
   refine Fg.vS rfl (by decide) (fun _ _ h=>Fg.vn _ (Fg.run_load rfl (h.d 18) ((hS.gn h.base).range 0 (aY ((Pt.mk s.X s.Y s.Z x1))) rfl) Tryz.underlying68 rfl aO)) ?_
   trivial
  .intro qa V3 g3 hsz hdf hrest aC hpt
   obtain⟨⟨u16,dI⟩,⟨u17,dY⟩,⟨u18,dZ⟩,_⟩:=Fg.bn qa [16,17,18]
   obtain⟨x2,hx2⟩:∃x:Pt,x=(Pt.mk s.X s.Y s.Z x1):=⟨_,rfl⟩
   obtain rfl:=Fg.aP [16,17,18,19] (vs:=[_,_,_,_,_,_,_,_,_,_,_,_,_,_,_,_,u16,u17,u18,x2.v]) hsz hrest (by kernel_rfl) rfl rfl ⟨dI,dY,dZ,(show qa.tmps.getD 19 undef=x2.v by rw[hx2];exact aC 19 (by kernel_rfl)),trivial⟩ hdf
   clear hsz hdf hrest aC hpt dI dY dZ
   have Fu:=Lib.hid hx2;clear hx2
   replace hS:=hS.gn g3
   replace hR:=hR.gn g3
   replace G:=aj G (fZ g3 _)
   clear g3
   refine Fg.aU rfl rfl (Fg.run_store (cs:=aY x2) rfl rfl rfl (hR.there 0 20 (by show 0+20<=20;decide)) aO (gH _)) ?_
   replace hS:=hS.ak (C:=w0.heap.size) (cs:=aY x2) 0 (by omega)
   replace hR:aF (V3.setCells w0.heap.size 0 (aY x2)) w0.heap.size 68 (aY x2):=hR.bG rfl
   replace G:=aH (cs:=aY x2) G (B:=w0.heap.size) (by omega) 0
   revert hS hR G
   generalize V3.setCells w0.heap.size 0 (aY x2)=W4
   intro hS hR G
   go_wp2_with fail
   have hx2:=Fu.out;subst hx2
   have hx1:=mU.out;subst hx1
   exact bodyPost_ret (v:=(lK s).v) (results_cell_row Tryz.results100 _ _ w0.heap.size 68 (aY (lK s)).toArray (0,0) _ rfl hR Tryz.underlying68 rfl aO) rfl ⟨rfl,G,hS⟩
end
end Go.Proofs.YtjgnjhgdmdmebaaGreatDoor
