/- texts merged -/
import Derived.Test.YtmijliomjpphkaaGreatDoorRbM3
import Derived.Test.YtmijliomjpphkaaGreatDoorRbM1
import Derived.Lib.Hide
import Derived.Test.YtmijliomjpphkaaGreatDoorRbM2
import Derived.WalkKit
import Derived.WalkSpells
import Derived.WalkLawsBesides
import Derived.Outline
import Derived.BigQuiet
import Derived.Deep.QuietTactic
import Derived.BigRegion
import Derived.RegionTactic
import Derived.Deep.RegionWith
import Derived.RangeFuncNested
import Derived.RangeFuncBound
import Derived.RangeFuncCalls
import Derived.RangeFuncLeaves
import Derived.RangeFuncBox
import Derived.Shelf.Abstract
import Derived.Shelf.RegionOpen
import Derived.OwnWalkIn
import Derived.TacticsInMore
import Derived.LoopNIn
import Derived.LoopIn
namespace Go.Proofs.YtmijliomjpphkaaGreatDoor
section
open Go.RowKit Ow Ed
def EI (l:List Nat):List Nat:=l.set 31 (l.getD 31 0%128)
def iC (l:List Nat) (i:Nat):Int:=((EI l).getD i 0:Nat)
def A8 (l:List Nat):Bool:=decide (128<=l.getD 31 0)
theorem pI (l:List Nat) (h:∀i,l.getD i 0<256) (i:Nat):0<=iC l i/\iC l i<256:=by
 unfold iC EI
 refine⟨Int.natCast_nonneg _,?_⟩
 have h1:=h i
 have h2:=h 31
 rw[List.getD_eq_getElem?_getD,List.getElem?_set]
 rw[List.getD_eq_getElem?_getD]at h1 h2
 split
 .split
  .rw[Option.getD_some];omega
  .simp
 .omega
theorem EJ (x:Nat) (h:x<256):(bits .and .u8 (x:Int) 128 !=0)=decide (128<=x):=by
 have all:∀j:Fin 256,(bits .and .u8 (j.val:Int) 128 !=0)=decide (128<=j.val):=by decide +kernel
 exact all ⟨x,h⟩
theorem EK (x:Nat) (h:x<256):bits .andNot .u8 (x:Int) 128=(x:Int)%128:=by
 have all:∀j:Fin 256,bits .andNot .u8 (j.val:Int) 128=(j.val:Int)%128:=by decide +kernel
 exact all ⟨x,h⟩
theorem EL (l:List Nat):(l.map dD).set 31 (.int .u8 (((l.getD 31 0:Nat):Int)%128))=(EI l).map dD:=by
 unfold EI
 rw[List.map_set]
 have e:(((l.getD 31 0%128:Nat):Int))=((l.getD 31 0:Nat):Int)%128:=by omega
 unfold dD
 rw[e]
theorem A9 {w:World} {base g c:Nat} {l:List Nat} (hl:l.length=32) (h:w.ownsRow base 5 1 (.slice (some ⟨g,0,none⟩) 32 c) 32 ((EI l).map dD)) (i:Nat) (hi:i<32):w.cell? ⟨g,0+i,none⟩=some (.int .u8 (iC l i)):=by
 rw[Nat.zero_add]
 have hlen:(EI l).length=32:=by unfold EI;rw[List.length_set,hl]
 refine nV h (j:=i) ?_
 rw[List.getElem?_map,List.getElem?_eq_getElem (by omega)]
 unfold iC
 rw[List.getD_eq_getElem?_getD,List.getElem?_eq_getElem (by omega)]
 rfl
def bV:Pt:=⟨Fe.bI,Fe.bI,Fe.bI,Fe.bI⟩
theorem DL (y:Fe) (odd:Bool):(jJ y odd).1.Ok:=by
 unfold jJ
 split
 .exact EC _ _
 .split
  .exact EC _ _
  .split
   .exact MO
   .exact (Fe.kM _).ok
set_option maxRecDepth 100000 in
set_option maxHeartbeats 3200000 in
theorem acC (B:Nat) (a:Option Addr) (c:Nat) (l:List Nat) (w0:World) (HT0:eY w0) (hl:l.length=32) (hP:BytesAt w0 B a c l) (hyp:57896044618658097711785492504343953926634992332820282019728792003956564819949<=aU (iC l) 32):
  Calls Tryz.prog 70 #[.slice a 32 c] w0 fun e w'=>e=.returned (.tuple #[(bV).v,.bool false])/\w0.grownBy w' none:=by
 have hc32:=hP.fits
 have Qt:=hP
 obtain⟨pb,po,rfl,hpb,hcells⟩:=hP.cells.resolve_left (by omega)
 have hx:=hP.byte 31
 have c31:w0.cell? ⟨pb,po+31,none⟩=some (.int .u8 ((l.getD 31 0:Nat):Int)):=hcells 31 (by omega)
 have hBl:=hP.lim
 have hand:=EJ _ hx
 have hnot:=EK _ hx
 have HD:=Lib.hid (And.intro hP (And.intro hl hc32));clear hP Qt hcells hl hc32
 obtain⟨x,hxe⟩:∃x,x=l.getD 31 0:=⟨_,rfl⟩
 rw[<- hxe]at hx c31 hand hnot
 have hodd:A8 l=decide (128<=x):=by unfold A8;rw[hxe]
 obtain⟨odd,hoe⟩:∃b,b=decide (128<=x):=⟨_,rfl⟩
 rw[<- hoe]at hand hodd
 have HX:=Lib.hid hxe;clear hxe
 have HO:=Lib.hid hodd;clear hodd hoe
 go_enter Tryz.func70,Tryz.ntmps70
 have GY:=c31
 replace c31:(w0.alloc (.cells bB.toArray 56)).cell? ⟨pb,po+31,none⟩=some (.int .u8 (x:Int)):=by rw[bf (av (ah w0 none) _) (p:=⟨pb,po+31,none⟩) (by show pb<_;omega) (by simp)];exact GY
 go_upto_region 4 with (fail)
 clear c31 GY
 have G:w0.grownBy (w0.alloc (.cells bB.toArray 56)) none:=av (ah _ _) _
 have HT:eY (w0.alloc (.cells bB.toArray 56)):=HT0.grown (av (ah _ _) _)
 have hR:aH (w0.alloc (.cells bB.toArray 56)) (w0.heap.size) 56 bB:=aH.new w0 bB _
 have MZ:=HD.out.1.kept G (by simp)
 revert G HT hR MZ
 generalize w0.alloc (.cells bB.toArray 56)=W0
 intro G HT hR MZ
 have lR:=hR.lt
 go_wp2_with fail
 refine (sW B pb po 32 c l _ HD.out.2.1 (by decide) (by decide) MZ).mono ?_
 rintro e W1 ⟨g,c',rfl,ho,hg⟩
 obtain⟨gl,gb_,hc'⟩:=nY ho
 have hlen:(l.map dD).length=32:=by rw[List.length_map];exact HD.out.2.1
 have Yd:W1.cell? ⟨g,31,none⟩=some (.int .u8 (x:Int)):=nV ho (j:=31) (by rw[List.getElem?_map,List.getElem?_eq_getElem (by have:=HD.out.2.1;omega),HX.out,List.getD_eq_getElem?_getD,List.getElem?_eq_getElem (by have:=HD.out.2.1;omega)];rfl)
 have f31:=zT ho 31
 have wO:=Eh (i:=31) ho (.int .u8 ((x:Int)%128))
 rw[HX.out,EL,<- HX.out]at wO
 replace G:=aO (aj G hg) (p:=⟨g,31,none⟩) (by show _<=g;have:=G.size;omega) (.int .u8 ((x:Int)%128))
 replace hR:=(hR.gn hg).other (a:=⟨g,31,none⟩) (by show g≠_;omega) (.int .u8 ((x:Int)%128))
 replace HT:=(HT.grown hg).keep (aJ (ah _ (some g)) 31 (.int .u8 ((x:Int)%128))) (HT0.jW (by omega))
 have HS:=Lib.hid (And.intro wO (And.intro G (And.intro hR HT)));clear ho wO G hR HT hg MZ hlen
 go_upto_region 6 with (fail)
 obtain⟨wO,G,hR,HT⟩:=HS.out
 clear HS Yd f31 hand hnot
 revert wO G hR HT
 generalize W1.setCell ⟨g,31,none⟩ (.int .u8 ((x:Int)%128))=W5
 intro wO G hR HT
 have hcg:∀i,i<32->W5.cell? ⟨g,0+i,none⟩=some (.int .u8 (iC l i)):=fun i hi=>A9 HD.out.2.1 wO i hi
 have hgl:g<W5.heap.size:=(nY wO).1
 have Sy:=Lib.hid (And.intro hcg hgl);clear hcg wO hgl
 have GX:=G
 have lI:=G.size
 have lG:=hR.lt
 refine Fg.rP [6] [.any,.any,.any,.any,.any,.any,.fresh 54 gX W5.heap.size,.any,.any,.any,.any,.any,.any,.any,.any,.any,.any,.any,.any,.any,.any,.any,.any,.any,.any,.val (Value.tuple #[Fe.bI.v,.bool false]),.val (Value.slice (some ⟨g,0,none⟩) 32 c'),.val (Value.tuple #[Fe.bI.v,.bool false]),.val (Fe.bI.v),.val (Value.bool false)] 6 ?_ ?_
 .refine Fg.vS rfl (by decide) (fun _ _ h=>Fg.vn _ (Fg.run_move rfl (h.r 5))) ?_
  refine Fg.cS rfl (by decide) (fun ac w h=>?_) ?_
  .have e26:_=Value.slice (some ⟨g,0,none⟩) 32 c':=h.d 26
   refine⟨aB rfl,100,#[Value.slice (some ⟨g,0,none⟩) 32 c'],Fg.aN rfl rfl (by simp only[List.map_toArray,List.map_cons,List.map_nil,Act.eval,e26]) (Fg.aI Tryz.func100 (by kernel_rfl) (by kernel_rfl)),?_⟩
   exact (Wd g 0 c' (iC l) _ hc' (pI l HD.out.1.byte) (fun i hi=>by rw[bf h.base (p:=⟨g,0+i,none⟩) Sy.out.2 (by simp)];exact Sy.out.1 i hi) (Nat.lt_of_lt_of_le Sy.out.2 h.base.size) hyp).mono fun _ _ ⟨he,hg⟩=>⟨_,he,hg,rfl⟩
  refine Fg.vS rfl (by decide) (fun _ _ h=>Fg.vn _ (Fg.run_move rfl (h.d 27))) ?_
  refine Fg.vS rfl (by decide) (fun _ _ h=>Fg.vn Fe.bI.v (Fg.bW rfl (h.d 25) rfl)) ?_
  refine Fg.vS rfl (by decide) (fun _ _ h=>Fg.vn _ (Fg.bW rfl (h.d 25) rfl)) ?_
  refine⟨⟨⟨_,rfl⟩,Fg.gF (fun _ _ h k=>aj h k) rfl (by show 6<49;decide) fun ac w h=>?_⟩,?_⟩
  .refine⟨aB rfl,w.alloc (.cells gX.toArray 54),?_,World.grownBy_alloc _ _ _,by simp,⟨w.heap.size,rfl,h.base.size,aH.new w gX _⟩⟩
   clear h
   go_simp
  trivial
 .intro qa V1 g1 hsz hdf hrest aC hpt
  obtain⟨u0,hs0⟩:=Fg.bL qa 0
  obtain⟨u1,hs1⟩:=Fg.bL qa 1
  obtain⟨N6,hs6,OZ,hb6⟩:∃N,qa.tmps.getD 6 undef=.pointer (some ⟨N,0,none⟩)/\W5.heap.size<=N/\aH V1 N 54 gX:=aC 6 (by kernel_rfl)
  obtain⟨⟨u7,hs7⟩,⟨u9,jD⟩,⟨u10,fM⟩,⟨u11,d9⟩,⟨u12,fJ⟩,⟨u13,dL⟩,⟨u14,dw⟩,⟨u15,dM⟩,⟨u16,dG⟩,⟨u17,eD⟩,⟨u18,eF⟩,⟨u19,eG⟩,⟨u20,dU⟩,⟨u21,eP⟩,⟨u22,eT⟩,⟨u23,dV⟩,⟨u24,dO⟩,⟨u25,eH⟩,⟨u26,eO⟩,⟨u27,fK⟩,⟨u30,iP⟩,⟨u31,gL⟩,⟨u32,jR⟩,⟨u33,jA⟩,⟨u34,iZ⟩,⟨u35,jS⟩,⟨u36,jT⟩,⟨u37,kU⟩,⟨u38,kV⟩,⟨u39,oF⟩,⟨u40,oG⟩,⟨u41,qC⟩,⟨u42,mJ⟩,⟨u43,sZ⟩,⟨u44,qD⟩,⟨u45,mK⟩,⟨u46,mM⟩,⟨u47,oH⟩,⟨u48,tq⟩,_⟩:=Fg.bn qa [7,9,10,11,12,13,14,15,16,17,18,19,20,21,22,23,24,25,26,27,30,31,32,33,34,35,36,37,38,39,40,41,42,43,44,45,46,47,48]
  obtain rfl:=Fg.aQ [0,1,6,7,9,10,11,12,13,14,15,16,17,18,19,20,21,22,23,24,25,26,27,28,29,30,31,32,33,34,35,36,37,38,39,40,41,42,43,44,45,46,47,48] (vs:=[u0,u1,_,_,_,_,Value.pointer (some ⟨N6,0,none⟩),u7,_,u9,u10,u11,u12,u13,u14,u15,u16,u17,u18,u19,u20,u21,u22,u23,u24,u25,u26,u27,Fe.bI.v,Value.bool false,u30,u31,u32,u33,u34,u35,u36,u37,u38,u39,u40,u41,u42,u43,u44,u45,u46,u47,u48]) hsz hrest (by kernel_rfl) rfl rfl ⟨hs0,hs1,hs6,hs7,jD,fM,d9,fJ,dL,dw,dM,dG,eD,eF,eG,dU,eP,eT,dV,dO,eH,eO,fK,(show qa.tmps.getD 28 undef=Fe.bI.v from aC 28 (by kernel_rfl)),(show qa.tmps.getD 29 undef=Value.bool false from aC 29 (by kernel_rfl)),iP,gL,jR,jA,iZ,jS,jT,kU,kV,oF,oG,qC,mJ,sZ,qD,mK,mM,oH,tq,trivial⟩ hdf
  clear hsz hdf hrest aC hpt hs0 hs1 hs6 hs7 jD fM d9 fJ dL dw dM dG eD eF eG dU eP eT dV dO eH eO fK iP gL jR jA iZ jS jT kU kV oF oG qC mJ sZ qD mK mM oH tq
  replace hR:=hR.gn g1
  replace G:=aj G g1
  replace HT:=HT.grown g1
  have DI:w0.heap.size<=N6:=Nat.le_trans lI OZ
  clear g1
  refine Fg.aV rfl rfl (Fg.run_store (cs:=aR Fe.bI) rfl rfl rfl (hb6.there 0 5 (by show 0+5<=5;decide)) aD (cB _)) ?_
  replace hR:=hR.au (C:=N6) (cs:=aR Fe.bI) 0 (by omega)
  replace hb6:aH (V1.setCells N6 0 (aR Fe.bI)) N6 54 (aR Fe.bI):=hb6.bC rfl
  replace G:=aG (cs:=aR Fe.bI) G (B:=N6) (DI) 0
  replace HT:=HT.keep (aK (cs:=aR Fe.bI) (ah _ (some N6)) 0) (HT0.jW (DI))
  revert hR hb6 G HT
  generalize V1.setCells N6 0 (aR Fe.bI)=W2
  intro hR hb6 G HT
  go_upto_region 8 with (fail)
  have vO:=G.size
  have qU:=hR.lt
  have GQ:=hb6.lt
  refine Fg.rP [] [.any,.any,.any,.any,.any,.any,.any,.any,.any,.any,.any,.any,.any,.any,.any,.any,.any,.any,.any,.any,.any,.any,.any,.any,.any,.any,.any,.any,.any,.any,.any,.any,.val (bV.v)] 1 ?_ ?_
  .refine Fg.vS rfl (by decide) (fun ac w h=>?_) ?_
   .exact Fg.vn bV.v (Fg.run_build (vs:=#[]) rfl (by simp) (by kernel_rfl))
   trivial
  .intro qa V3 g3 hsz hdf hrest aC hpt
   obtain⟨u30,iP⟩:=Fg.bL qa 30
   obtain⟨u31,gL⟩:=Fg.bL qa 31
   obtain rfl:=Fg.aQ [30,31,32] (vs:=[_,_,_,_,_,_,_,_,_,_,_,_,_,_,_,_,_,_,_,_,_,_,_,_,_,_,_,_,_,_,u30,u31,bV.v,_,_,_,_,_,_,_,_,_,_,_,_,_,_,_,_]) hsz hrest (by kernel_rfl) rfl rfl ⟨iP,gL,(show qa.tmps.getD 32 undef=bV.v from aC 32 (by kernel_rfl)),trivial⟩ hdf
   clear hsz hdf hrest aC hpt iP gL
   replace hR:=hR.gn g3
   replace hb6:=hb6.gn g3
   replace G:=aj G g3
   replace HT:=HT.grown g3
   clear g3
   refine Fg.aV rfl rfl (Fg.run_store (cs:=aY bV) rfl rfl rfl (hR.there 0 20 (by show 0+20<=20;decide)) aP (gJ _)) ?_
   replace hR:aH (V3.setCells w0.heap.size 0 (aY bV)) w0.heap.size 56 (aY bV):=hR.bC rfl
   replace hb6:=hb6.au (C:=w0.heap.size) (cs:=aY bV) 0 (by omega)
   replace G:=aG (cs:=aY bV) G (B:=w0.heap.size) (by omega) 0
   replace HT:=HT.keep (aK (cs:=aY bV) (ah _ (some w0.heap.size)) 0) (HT0.jW (by omega))
   revert hR hb6 G HT
   generalize V3.setCells w0.heap.size 0 (aY bV)=W4
   intro hR hb6 G HT
   go_wp2_with fail
   exact bodyPost_ret (v:=.tuple #[bV.v,.bool false]) (dn Tryz.results70 _ _ w0.heap.size 56 (aY bV).toArray (0,0) _ rfl hR Tryz.underlying56 rfl aP rfl) rfl ⟨rfl,G⟩
set_option maxRecDepth 100000 in
set_option maxHeartbeats 3200000 in
theorem acD (B:Nat) (a:Option Addr) (c:Nat) (l:List Nat) (w0:World) (HT0:eY w0) (hl:l.length=32) (hP:BytesAt w0 B a c l) (hyp:aU (iC l) 32<57896044618658097711785492504343953926634992332820282019728792003956564819949) (xa:Fe) (ZB:jJ (fE (aU (iC l) 32)) (A8 l)=(xa,false)):
  Calls Tryz.prog 70 #[.slice a 32 c] w0 fun e w'=>e=.returned (.tuple #[(bV).v,.bool false])/\w0.grownBy w' none:=by
 have hc32:=hP.fits
 have Qt:=hP
 obtain⟨pb,po,rfl,hpb,hcells⟩:=hP.cells.resolve_left (by omega)
 have hx:=hP.byte 31
 have c31:w0.cell? ⟨pb,po+31,none⟩=some (.int .u8 ((l.getD 31 0:Nat):Int)):=hcells 31 (by omega)
 have hBl:=hP.lim
 have hand:=EJ _ hx
 have hnot:=EK _ hx
 have HD:=Lib.hid (And.intro hP (And.intro hl hc32));clear hP Qt hcells hl hc32
 obtain⟨x,hxe⟩:∃x,x=l.getD 31 0:=⟨_,rfl⟩
 rw[<- hxe]at hx c31 hand hnot
 have hodd:A8 l=decide (128<=x):=by unfold A8;rw[hxe]
 obtain⟨odd,hoe⟩:∃b,b=decide (128<=x):=⟨_,rfl⟩
 rw[<- hoe]at hand hodd
 have HX:=Lib.hid hxe;clear hxe
 have HO:=Lib.hid hodd;clear hodd hoe
 go_enter Tryz.func70,Tryz.ntmps70
 have GY:=c31
 replace c31:(w0.alloc (.cells bB.toArray 56)).cell? ⟨pb,po+31,none⟩=some (.int .u8 (x:Int)):=by rw[bf (av (ah w0 none) _) (p:=⟨pb,po+31,none⟩) (by show pb<_;omega) (by simp)];exact GY
 go_upto_region 4 with (fail)
 clear c31 GY
 have G:w0.grownBy (w0.alloc (.cells bB.toArray 56)) none:=av (ah _ _) _
 have HT:eY (w0.alloc (.cells bB.toArray 56)):=HT0.grown (av (ah _ _) _)
 have hR:aH (w0.alloc (.cells bB.toArray 56)) (w0.heap.size) 56 bB:=aH.new w0 bB _
 have MZ:=HD.out.1.kept G (by simp)
 revert G HT hR MZ
 generalize w0.alloc (.cells bB.toArray 56)=W0
 intro G HT hR MZ
 have lR:=hR.lt
 go_wp2_with fail
 refine (sW B pb po 32 c l _ HD.out.2.1 (by decide) (by decide) MZ).mono ?_
 rintro e W1 ⟨g,c',rfl,ho,hg⟩
 obtain⟨gl,gb_,hc'⟩:=nY ho
 have hlen:(l.map dD).length=32:=by rw[List.length_map];exact HD.out.2.1
 have Yd:W1.cell? ⟨g,31,none⟩=some (.int .u8 (x:Int)):=nV ho (j:=31) (by rw[List.getElem?_map,List.getElem?_eq_getElem (by have:=HD.out.2.1;omega),HX.out,List.getD_eq_getElem?_getD,List.getElem?_eq_getElem (by have:=HD.out.2.1;omega)];rfl)
 have f31:=zT ho 31
 have wO:=Eh (i:=31) ho (.int .u8 ((x:Int)%128))
 rw[HX.out,EL,<- HX.out]at wO
 replace G:=aO (aj G hg) (p:=⟨g,31,none⟩) (by show _<=g;have:=G.size;omega) (.int .u8 ((x:Int)%128))
 replace hR:=(hR.gn hg).other (a:=⟨g,31,none⟩) (by show g≠_;omega) (.int .u8 ((x:Int)%128))
 replace HT:=(HT.grown hg).keep (aJ (ah _ (some g)) 31 (.int .u8 ((x:Int)%128))) (HT0.jW (by omega))
 have HS:=Lib.hid (And.intro wO (And.intro G (And.intro hR HT)));clear ho wO G hR HT hg MZ hlen
 go_upto_region 6 with (fail)
 obtain⟨wO,G,hR,HT⟩:=HS.out
 clear HS Yd f31 hand hnot
 revert wO G hR HT
 generalize W1.setCell ⟨g,31,none⟩ (.int .u8 ((x:Int)%128))=W5
 intro wO G hR HT
 have hcg:∀i,i<32->W5.cell? ⟨g,0+i,none⟩=some (.int .u8 (iC l i)):=fun i hi=>A9 HD.out.2.1 wO i hi
 have hgl:g<W5.heap.size:=(nY wO).1
 have Sy:=Lib.hid (And.intro hcg hgl);clear hcg wO hgl
 have GX:=G
 have lI:=G.size
 have lG:=hR.lt
 refine Fg.rP [6] [.any,.any,.any,.any,.any,.any,.fresh 54 gX W5.heap.size,.any,.any,.any,.any,.any,.any,.any,.any,.any,.any,.any,.any,.any,.any,.any,.any,.any,.any,.val (Value.tuple #[(fE (aU (iC l) 32)).v,.bool true]),.val (Value.slice (some ⟨g,0,none⟩) 32 c'),.val (Value.tuple #[(fE (aU (iC l) 32)).v,.bool true]),.val ((fE (aU (iC l) 32)).v),.val (Value.bool true)] 6 ?_ ?_
 .refine Fg.vS rfl (by decide) (fun _ _ h=>Fg.vn _ (Fg.run_move rfl (h.r 5))) ?_
  refine Fg.cS rfl (by decide) (fun ac w h=>?_) ?_
  .have e26:_=Value.slice (some ⟨g,0,none⟩) 32 c':=h.d 26
   refine⟨aB rfl,100,#[Value.slice (some ⟨g,0,none⟩) 32 c'],Fg.aN rfl rfl (by simp only[List.map_toArray,List.map_cons,List.map_nil,Act.eval,e26]) (Fg.aI Tryz.func100 (by kernel_rfl) (by kernel_rfl)),?_⟩
   exact (GU g 0 c' (iC l) _ hc' (pI l HD.out.1.byte) (fun i hi=>by rw[bf h.base (p:=⟨g,0+i,none⟩) Sy.out.2 (by simp)];exact Sy.out.1 i hi) (Nat.lt_of_lt_of_le Sy.out.2 h.base.size) hyp).mono fun _ _ ⟨he,hg⟩=>⟨_,he,hg,rfl⟩
  refine Fg.vS rfl (by decide) (fun _ _ h=>Fg.vn _ (Fg.run_move rfl (h.d 27))) ?_
  refine Fg.vS rfl (by decide) (fun _ _ h=>Fg.vn _ (Fg.bW rfl (h.d 25) rfl)) ?_
  refine Fg.vS rfl (by decide) (fun _ _ h=>Fg.vn _ (Fg.bW rfl (h.d 25) rfl)) ?_
  refine⟨⟨⟨_,rfl⟩,Fg.gF (fun _ _ h k=>aj h k) rfl (by show 6<49;decide) fun ac w h=>?_⟩,?_⟩
  .refine⟨aB rfl,w.alloc (.cells gX.toArray 54),?_,World.grownBy_alloc _ _ _,by simp,⟨w.heap.size,rfl,h.base.size,aH.new w gX _⟩⟩
   clear h
   go_simp
  trivial
 .intro qa V1 g1 hsz hdf hrest aC hpt
  obtain⟨u0,hs0⟩:=Fg.bL qa 0
  obtain⟨u1,hs1⟩:=Fg.bL qa 1
  obtain⟨N6,hs6,OZ,hb6⟩:∃N,qa.tmps.getD 6 undef=.pointer (some ⟨N,0,none⟩)/\W5.heap.size<=N/\aH V1 N 54 gX:=aC 6 (by kernel_rfl)
  obtain⟨⟨u7,hs7⟩,⟨u9,jD⟩,⟨u10,fM⟩,⟨u11,d9⟩,⟨u12,fJ⟩,⟨u13,dL⟩,⟨u14,dw⟩,⟨u15,dM⟩,⟨u16,dG⟩,⟨u17,eD⟩,⟨u18,eF⟩,⟨u19,eG⟩,⟨u20,dU⟩,⟨u21,eP⟩,⟨u22,eT⟩,⟨u23,dV⟩,⟨u24,dO⟩,⟨u25,eH⟩,⟨u26,eO⟩,⟨u27,fK⟩,_⟩:=Fg.bn qa [7,9,10,11,12,13,14,15,16,17,18,19,20,21,22,23,24,25,26,27]
  obtain⟨x1,hx1⟩:∃x:Fe,x=fE (aU (iC l) 32):=⟨_,rfl⟩
  obtain⟨⟨u30,iP⟩,⟨u31,gL⟩,⟨u32,jR⟩,⟨u33,jA⟩,⟨u34,iZ⟩,⟨u35,jS⟩,⟨u36,jT⟩,⟨u37,kU⟩,⟨u38,kV⟩,⟨u39,oF⟩,⟨u40,oG⟩,⟨u41,qC⟩,⟨u42,mJ⟩,⟨u43,sZ⟩,⟨u44,qD⟩,⟨u45,mK⟩,⟨u46,mM⟩,⟨u47,oH⟩,⟨u48,tq⟩,_⟩:=Fg.bn qa [30,31,32,33,34,35,36,37,38,39,40,41,42,43,44,45,46,47,48]
  obtain rfl:=Fg.aQ [0,1,6,7,9,10,11,12,13,14,15,16,17,18,19,20,21,22,23,24,25,26,27,28,29,30,31,32,33,34,35,36,37,38,39,40,41,42,43,44,45,46,47,48] (vs:=[u0,u1,_,_,_,_,Value.pointer (some ⟨N6,0,none⟩),u7,_,u9,u10,u11,u12,u13,u14,u15,u16,u17,u18,u19,u20,u21,u22,u23,u24,u25,u26,u27,x1.v,Value.bool true,u30,u31,u32,u33,u34,u35,u36,u37,u38,u39,u40,u41,u42,u43,u44,u45,u46,u47,u48]) hsz hrest (by kernel_rfl) rfl rfl ⟨hs0,hs1,hs6,hs7,jD,fM,d9,fJ,dL,dw,dM,dG,eD,eF,eG,dU,eP,eT,dV,dO,eH,eO,fK,(show qa.tmps.getD 28 undef=x1.v by rw[hx1];exact aC 28 (by kernel_rfl)),(show qa.tmps.getD 29 undef=Value.bool true from aC 29 (by kernel_rfl)),iP,gL,jR,jA,iZ,jS,jT,kU,kV,oF,oG,qC,mJ,sZ,qD,mK,mM,oH,tq,trivial⟩ hdf
  clear hsz hdf hrest aC hpt hs0 hs1 hs6 hs7 jD fM d9 fJ dL dw dM dG eD eF eG dU eP eT dV dO eH eO fK iP gL jR jA iZ jS jT kU kV oF oG qC mJ sZ qD mK mM oH tq
  have mZ:=Lib.hid hx1;clear hx1
  replace hR:=hR.gn g1
  replace G:=aj G g1
  replace HT:=HT.grown g1
  have mH:x1.Ok:=by rw[mZ.out];exact (mI (gM (iC l) (pI l HD.out.1.byte) 32).1 (gM (iC l) (pI l HD.out.1.byte) 32).2).ok
  have DI:w0.heap.size<=N6:=Nat.le_trans lI OZ
  clear g1
  refine Fg.aV rfl rfl (Fg.run_store (cs:=aR x1) rfl rfl rfl (hb6.there 0 5 (by show 0+5<=5;decide)) aD (cB _)) ?_
  replace hR:=hR.au (C:=N6) (cs:=aR x1) 0 (by omega)
  replace hb6:aH (V1.setCells N6 0 (aR x1)) N6 54 (aR x1):=hb6.bC rfl
  replace G:=aG (cs:=aR x1) G (B:=N6) (DI) 0
  replace HT:=HT.keep (aK (cs:=aR x1) (ah _ (some N6)) 0) (HT0.jW (DI))
  revert hR hb6 G HT
  generalize V1.setCells N6 0 (aR x1)=W2
  intro hR hb6 G HT
  have hac:jJ x1 odd=(xa,false):=by rw[mZ.out,<- HO.out];exact ZB
  have hxa:xa.Ok:=by have:=DL x1 odd;rw[hac]at this;exact this
  have HAC:=Lib.hid hac;clear hac
  go_upto_region 9 with (fail)
  have vO:=G.size
  have qU:=hR.lt
  have GQ:=hb6.lt
  refine Fg.rP [8] [.any,.any,.any,.any,.any,.any,.any,.any,.fresh 54 gX W2.heap.size,.any,.any,.any,.any,.any,.any,.any,.any,.any,.any,.any,.any,.any,.any,.any,.any,.any,.any,.any,.any,.any,.any,.any,.any,.val (Value.tuple #[xa.v,.bool false]),.val (x1.v),.val (Value.bool odd),.val (Value.tuple #[xa.v,.bool false]),.val (xa.v),.val (Value.bool false)] 7 ?_ ?_
  .refine Fg.vS rfl (by decide) (fun _ _ h=>Fg.vn x1.v (Fg.run_load rfl (h.r 6) ((hb6.gn h.base).range 0 (aR x1) rfl) Tryz.underlying54 rfl aD)) ?_
   refine Fg.vS rfl (by decide) (fun _ _ h=>Fg.vn _ (Fg.run_move rfl (h.r 4))) ?_
   refine Fg.cS rfl (by decide) (fun _ w h=>Fg.cq rfl ((show lH 101 #[x1.v,.bool odd] w (.tuple #[xa.v,.bool false]) from by have hh:=GR x1 odd w (HT.grown h.base) mH;rw[HAC.out]at hh;exact hh)) ⟨h.d 34,h.d 35,trivial⟩ Tryz.func101) ?_
   refine Fg.vS rfl (by decide) (fun _ _ h=>Fg.vn _ (Fg.run_move rfl (h.d 36))) ?_
   refine Fg.vS rfl (by decide) (fun _ _ h=>Fg.vn xa.v (Fg.bW rfl (h.d 33) rfl)) ?_
   refine Fg.vS rfl (by decide) (fun _ _ h=>Fg.vn _ (Fg.bW rfl (h.d 33) rfl)) ?_
   refine⟨⟨⟨_,rfl⟩,Fg.gF (fun _ _ h k=>aj h k) rfl (by show 8<49;decide) fun ac w h=>?_⟩,?_⟩
   .refine⟨aB rfl,w.alloc (.cells gX.toArray 54),?_,World.grownBy_alloc _ _ _,by simp,⟨w.heap.size,rfl,h.base.size,aH.new w gX _⟩⟩
    clear h
    go_simp
   trivial
  .intro qa V3 g3 hsz hdf hrest aC hpt
   obtain⟨N8,lC,hn8,gD⟩:∃N,qa.tmps.getD 8 undef=.pointer (some ⟨N,0,none⟩)/\W2.heap.size<=N/\aH V3 N 54 gX:=aC 8 (by kernel_rfl)
   obtain⟨⟨u30,iP⟩,⟨u31,gL⟩,⟨u33,jA⟩,⟨u34,iZ⟩,⟨u35,jS⟩,⟨u36,jT⟩,_⟩:=Fg.bn qa [30,31,33,34,35,36]
   obtain rfl:=Fg.aQ [8,30,31,33,34,35,36,37,38] (vs:=[_,_,_,_,_,_,_,_,Value.pointer (some ⟨N8,0,none⟩),_,_,_,_,_,_,_,_,_,_,_,_,_,_,_,_,_,_,_,_,_,u30,u31,_,u33,u34,u35,u36,xa.v,Value.bool false,_,_,_,_,_,_,_,_,_,_]) hsz hrest (by kernel_rfl) rfl rfl ⟨lC,iP,gL,jA,iZ,jS,jT,(show qa.tmps.getD 37 undef=xa.v from aC 37 (by kernel_rfl)),(show qa.tmps.getD 38 undef=Value.bool false from aC 38 (by kernel_rfl)),trivial⟩ hdf
   clear hsz hdf hrest aC hpt lC iP gL jA iZ jS jT
   replace hR:=hR.gn g3
   replace hb6:=hb6.gn g3
   replace G:=aj G g3
   replace HT:=HT.grown g3
   have hw8:w0.heap.size<=N8:=Nat.le_trans vO hn8
   clear g3
   refine Fg.aV rfl rfl (Fg.run_store (cs:=aR xa) rfl rfl rfl (gD.there 0 5 (by show 0+5<=5;decide)) aD (cB _)) ?_
   replace hR:=hR.au (C:=N8) (cs:=aR xa) 0 (by omega)
   replace hb6:=hb6.au (C:=N8) (cs:=aR xa) 0 (by omega)
   replace gD:aH (V3.setCells N8 0 (aR xa)) N8 54 (aR xa):=gD.bC rfl
   replace G:=aG (cs:=aR xa) G (B:=N8) (hw8) 0
   replace HT:=HT.keep (aK (cs:=aR xa) (ah _ (some N8)) 0) (HT0.jW (hw8))
   revert hR hb6 gD G HT
   generalize V3.setCells N8 0 (aR xa)=W4
   intro hR hb6 gD G HT
   go_upto_region 11 with (fail)
   have O1:=G.size
   have uy:=hR.lt
   have yN:=hb6.lt
   have Yu:=gD.lt
   refine Fg.rP [] [.any,.any,.any,.any,.any,.any,.any,.any,.any,.any,.any,.any,.any,.any,.any,.any,.any,.any,.any,.any,.any,.any,.any,.any,.any,.any,.any,.any,.any,.any,.any,.any,.any,.any,.any,.any,.any,.any,.any,.any,.any,.val (bV.v)] 1 ?_ ?_
   .refine Fg.vS rfl (by decide) (fun ac w h=>?_) ?_
    .exact Fg.vn bV.v (Fg.run_build (vs:=#[]) rfl (by simp) (by kernel_rfl))
    trivial
   .intro qa V5 g5 hsz hdf hrest aC hpt
    obtain⟨u39,oF⟩:=Fg.bL qa 39
    obtain⟨u40,oG⟩:=Fg.bL qa 40
    obtain rfl:=Fg.aQ [39,40,41] (vs:=[_,_,_,_,_,_,_,_,_,_,_,_,_,_,_,_,_,_,_,_,_,_,_,_,_,_,_,_,_,_,_,_,_,_,_,_,_,_,_,u39,u40,bV.v,_,_,_,_,_,_,_]) hsz hrest (by kernel_rfl) rfl rfl ⟨oF,oG,(show qa.tmps.getD 41 undef=bV.v from aC 41 (by kernel_rfl)),trivial⟩ hdf
    clear hsz hdf hrest aC hpt oF oG
    replace hR:=hR.gn g5
    replace hb6:=hb6.gn g5
    replace gD:=gD.gn g5
    replace G:=aj G g5
    replace HT:=HT.grown g5
    clear g5
    refine Fg.aV rfl rfl (Fg.run_store (cs:=aY bV) rfl rfl rfl (hR.there 0 20 (by show 0+20<=20;decide)) aP (gJ _)) ?_
    replace hR:aH (V5.setCells w0.heap.size 0 (aY bV)) w0.heap.size 56 (aY bV):=hR.bC rfl
    replace hb6:=hb6.au (C:=w0.heap.size) (cs:=aY bV) 0 (by omega)
    replace gD:=gD.au (C:=w0.heap.size) (cs:=aY bV) 0 (by omega)
    replace G:=aG (cs:=aY bV) G (B:=w0.heap.size) (by omega) 0
    replace HT:=HT.keep (aK (cs:=aY bV) (ah _ (some w0.heap.size)) 0) (HT0.jW (by omega))
    revert hR hb6 gD G HT
    generalize V5.setCells w0.heap.size 0 (aY bV)=W6
    intro hR hb6 gD G HT
    go_wp2_with fail
    exact bodyPost_ret (v:=.tuple #[bV.v,.bool false]) (dn Tryz.results70 _ _ w0.heap.size 56 (aY bV).toArray (0,0) _ rfl hR Tryz.underlying56 rfl aP rfl) rfl ⟨rfl,G⟩
set_option maxRecDepth 100000 in
set_option maxHeartbeats 3200000 in
theorem acF (B:Nat) (a:Option Addr) (c:Nat) (l:List Nat) (w0:World) (HT0:eY w0) (hl:l.length=32) (hP:BytesAt w0 B a c l) (hyp:aU (iC l) 32<57896044618658097711785492504343953926634992332820282019728792003956564819949) (xa:Fe) (ZB:jJ (fE (aU (iC l) 32)) (A8 l)=(xa,true)):
  Calls Tryz.prog 70 #[.slice a 32 c] w0 fun e w'=>e=.returned (.tuple #[((Pt.mk xa (fE (aU (iC l) 32)) Fe.dP (Fe.aM xa (fE (aU (iC l) 32))))).v,.bool true])/\w0.grownBy w' none:=by
 have hc32:=hP.fits
 have Qt:=hP
 obtain⟨pb,po,rfl,hpb,hcells⟩:=hP.cells.resolve_left (by omega)
 have hx:=hP.byte 31
 have c31:w0.cell? ⟨pb,po+31,none⟩=some (.int .u8 ((l.getD 31 0:Nat):Int)):=hcells 31 (by omega)
 have hBl:=hP.lim
 have hand:=EJ _ hx
 have hnot:=EK _ hx
 have HD:=Lib.hid (And.intro hP (And.intro hl hc32));clear hP Qt hcells hl hc32
 obtain⟨x,hxe⟩:∃x,x=l.getD 31 0:=⟨_,rfl⟩
 rw[<- hxe]at hx c31 hand hnot
 have hodd:A8 l=decide (128<=x):=by unfold A8;rw[hxe]
 obtain⟨odd,hoe⟩:∃b,b=decide (128<=x):=⟨_,rfl⟩
 rw[<- hoe]at hand hodd
 have HX:=Lib.hid hxe;clear hxe
 have HO:=Lib.hid hodd;clear hodd hoe
 go_enter Tryz.func70,Tryz.ntmps70
 have GY:=c31
 replace c31:(w0.alloc (.cells bB.toArray 56)).cell? ⟨pb,po+31,none⟩=some (.int .u8 (x:Int)):=by rw[bf (av (ah w0 none) _) (p:=⟨pb,po+31,none⟩) (by show pb<_;omega) (by simp)];exact GY
 go_upto_region 4 with (fail)
 clear c31 GY
 have G:w0.grownBy (w0.alloc (.cells bB.toArray 56)) none:=av (ah _ _) _
 have HT:eY (w0.alloc (.cells bB.toArray 56)):=HT0.grown (av (ah _ _) _)
 have hR:aH (w0.alloc (.cells bB.toArray 56)) (w0.heap.size) 56 bB:=aH.new w0 bB _
 have MZ:=HD.out.1.kept G (by simp)
 revert G HT hR MZ
 generalize w0.alloc (.cells bB.toArray 56)=W0
 intro G HT hR MZ
 have lR:=hR.lt
 go_wp2_with fail
 refine (sW B pb po 32 c l _ HD.out.2.1 (by decide) (by decide) MZ).mono ?_
 rintro e W1 ⟨g,c',rfl,ho,hg⟩
 obtain⟨gl,gb_,hc'⟩:=nY ho
 have hlen:(l.map dD).length=32:=by rw[List.length_map];exact HD.out.2.1
 have Yd:W1.cell? ⟨g,31,none⟩=some (.int .u8 (x:Int)):=nV ho (j:=31) (by rw[List.getElem?_map,List.getElem?_eq_getElem (by have:=HD.out.2.1;omega),HX.out,List.getD_eq_getElem?_getD,List.getElem?_eq_getElem (by have:=HD.out.2.1;omega)];rfl)
 have f31:=zT ho 31
 have wO:=Eh (i:=31) ho (.int .u8 ((x:Int)%128))
 rw[HX.out,EL,<- HX.out]at wO
 replace G:=aO (aj G hg) (p:=⟨g,31,none⟩) (by show _<=g;have:=G.size;omega) (.int .u8 ((x:Int)%128))
 replace hR:=(hR.gn hg).other (a:=⟨g,31,none⟩) (by show g≠_;omega) (.int .u8 ((x:Int)%128))
 replace HT:=(HT.grown hg).keep (aJ (ah _ (some g)) 31 (.int .u8 ((x:Int)%128))) (HT0.jW (by omega))
 have HS:=Lib.hid (And.intro wO (And.intro G (And.intro hR HT)));clear ho wO G hR HT hg MZ hlen
 go_upto_region 6 with (fail)
 obtain⟨wO,G,hR,HT⟩:=HS.out
 clear HS Yd f31 hand hnot
 revert wO G hR HT
 generalize W1.setCell ⟨g,31,none⟩ (.int .u8 ((x:Int)%128))=W5
 intro wO G hR HT
 have hcg:∀i,i<32->W5.cell? ⟨g,0+i,none⟩=some (.int .u8 (iC l i)):=fun i hi=>A9 HD.out.2.1 wO i hi
 have hgl:g<W5.heap.size:=(nY wO).1
 have Sy:=Lib.hid (And.intro hcg hgl);clear hcg wO hgl
 have GX:=G
 have lI:=G.size
 have lG:=hR.lt
 refine Fg.rP [6] [.any,.any,.any,.any,.any,.any,.fresh 54 gX W5.heap.size,.any,.any,.any,.any,.any,.any,.any,.any,.any,.any,.any,.any,.any,.any,.any,.any,.any,.any,.val (Value.tuple #[(fE (aU (iC l) 32)).v,.bool true]),.val (Value.slice (some ⟨g,0,none⟩) 32 c'),.val (Value.tuple #[(fE (aU (iC l) 32)).v,.bool true]),.val ((fE (aU (iC l) 32)).v),.val (Value.bool true)] 6 ?_ ?_
 .refine Fg.vS rfl (by decide) (fun _ _ h=>Fg.vn _ (Fg.run_move rfl (h.r 5))) ?_
  refine Fg.cS rfl (by decide) (fun ac w h=>?_) ?_
  .have e26:_=Value.slice (some ⟨g,0,none⟩) 32 c':=h.d 26
   refine⟨aB rfl,100,#[Value.slice (some ⟨g,0,none⟩) 32 c'],Fg.aN rfl rfl (by simp only[List.map_toArray,List.map_cons,List.map_nil,Act.eval,e26]) (Fg.aI Tryz.func100 (by kernel_rfl) (by kernel_rfl)),?_⟩
   exact (GU g 0 c' (iC l) _ hc' (pI l HD.out.1.byte) (fun i hi=>by rw[bf h.base (p:=⟨g,0+i,none⟩) Sy.out.2 (by simp)];exact Sy.out.1 i hi) (Nat.lt_of_lt_of_le Sy.out.2 h.base.size) hyp).mono fun _ _ ⟨he,hg⟩=>⟨_,he,hg,rfl⟩
  refine Fg.vS rfl (by decide) (fun _ _ h=>Fg.vn _ (Fg.run_move rfl (h.d 27))) ?_
  refine Fg.vS rfl (by decide) (fun _ _ h=>Fg.vn _ (Fg.bW rfl (h.d 25) rfl)) ?_
  refine Fg.vS rfl (by decide) (fun _ _ h=>Fg.vn _ (Fg.bW rfl (h.d 25) rfl)) ?_
  refine⟨⟨⟨_,rfl⟩,Fg.gF (fun _ _ h k=>aj h k) rfl (by show 6<49;decide) fun ac w h=>?_⟩,?_⟩
  .refine⟨aB rfl,w.alloc (.cells gX.toArray 54),?_,World.grownBy_alloc _ _ _,by simp,⟨w.heap.size,rfl,h.base.size,aH.new w gX _⟩⟩
   clear h
   go_simp
  trivial
 .intro qa V1 g1 hsz hdf hrest aC hpt
  obtain⟨u0,hs0⟩:=Fg.bL qa 0
  obtain⟨u1,hs1⟩:=Fg.bL qa 1
  obtain⟨N6,hs6,OZ,hb6⟩:∃N,qa.tmps.getD 6 undef=.pointer (some ⟨N,0,none⟩)/\W5.heap.size<=N/\aH V1 N 54 gX:=aC 6 (by kernel_rfl)
  obtain⟨⟨u7,hs7⟩,⟨u9,jD⟩,⟨u10,fM⟩,⟨u11,d9⟩,⟨u12,fJ⟩,⟨u13,dL⟩,⟨u14,dw⟩,⟨u15,dM⟩,⟨u16,dG⟩,⟨u17,eD⟩,⟨u18,eF⟩,⟨u19,eG⟩,⟨u20,dU⟩,⟨u21,eP⟩,⟨u22,eT⟩,⟨u23,dV⟩,⟨u24,dO⟩,⟨u25,eH⟩,⟨u26,eO⟩,⟨u27,fK⟩,_⟩:=Fg.bn qa [7,9,10,11,12,13,14,15,16,17,18,19,20,21,22,23,24,25,26,27]
  obtain⟨x1,hx1⟩:∃x:Fe,x=fE (aU (iC l) 32):=⟨_,rfl⟩
  obtain⟨⟨u30,iP⟩,⟨u31,gL⟩,⟨u32,jR⟩,⟨u33,jA⟩,⟨u34,iZ⟩,⟨u35,jS⟩,⟨u36,jT⟩,⟨u37,kU⟩,⟨u38,kV⟩,⟨u39,oF⟩,⟨u40,oG⟩,⟨u41,qC⟩,⟨u42,mJ⟩,⟨u43,sZ⟩,⟨u44,qD⟩,⟨u45,mK⟩,⟨u46,mM⟩,⟨u47,oH⟩,⟨u48,tq⟩,_⟩:=Fg.bn qa [30,31,32,33,34,35,36,37,38,39,40,41,42,43,44,45,46,47,48]
  obtain rfl:=Fg.aQ [0,1,6,7,9,10,11,12,13,14,15,16,17,18,19,20,21,22,23,24,25,26,27,28,29,30,31,32,33,34,35,36,37,38,39,40,41,42,43,44,45,46,47,48] (vs:=[u0,u1,_,_,_,_,Value.pointer (some ⟨N6,0,none⟩),u7,_,u9,u10,u11,u12,u13,u14,u15,u16,u17,u18,u19,u20,u21,u22,u23,u24,u25,u26,u27,x1.v,Value.bool true,u30,u31,u32,u33,u34,u35,u36,u37,u38,u39,u40,u41,u42,u43,u44,u45,u46,u47,u48]) hsz hrest (by kernel_rfl) rfl rfl ⟨hs0,hs1,hs6,hs7,jD,fM,d9,fJ,dL,dw,dM,dG,eD,eF,eG,dU,eP,eT,dV,dO,eH,eO,fK,(show qa.tmps.getD 28 undef=x1.v by rw[hx1];exact aC 28 (by kernel_rfl)),(show qa.tmps.getD 29 undef=Value.bool true from aC 29 (by kernel_rfl)),iP,gL,jR,jA,iZ,jS,jT,kU,kV,oF,oG,qC,mJ,sZ,qD,mK,mM,oH,tq,trivial⟩ hdf
  clear hsz hdf hrest aC hpt hs0 hs1 hs6 hs7 jD fM d9 fJ dL dw dM dG eD eF eG dU eP eT dV dO eH eO fK iP gL jR jA iZ jS jT kU kV oF oG qC mJ sZ qD mK mM oH tq
  have mZ:=Lib.hid hx1;clear hx1
  replace hR:=hR.gn g1
  replace G:=aj G g1
  replace HT:=HT.grown g1
  have mH:x1.Ok:=by rw[mZ.out];exact (mI (gM (iC l) (pI l HD.out.1.byte) 32).1 (gM (iC l) (pI l HD.out.1.byte) 32).2).ok
  have DI:w0.heap.size<=N6:=Nat.le_trans lI OZ
  clear g1
  refine Fg.aV rfl rfl (Fg.run_store (cs:=aR x1) rfl rfl rfl (hb6.there 0 5 (by show 0+5<=5;decide)) aD (cB _)) ?_
  replace hR:=hR.au (C:=N6) (cs:=aR x1) 0 (by omega)
  replace hb6:aH (V1.setCells N6 0 (aR x1)) N6 54 (aR x1):=hb6.bC rfl
  replace G:=aG (cs:=aR x1) G (B:=N6) (DI) 0
  replace HT:=HT.keep (aK (cs:=aR x1) (ah _ (some N6)) 0) (HT0.jW (DI))
  revert hR hb6 G HT
  generalize V1.setCells N6 0 (aR x1)=W2
  intro hR hb6 G HT
  have hac:jJ x1 odd=(xa,true):=by rw[mZ.out,<- HO.out];exact ZB
  have hxa:xa.Ok:=by have:=DL x1 odd;rw[hac]at this;exact this
  have HAC:=Lib.hid hac;clear hac
  go_upto_region 9 with (fail)
  have vO:=G.size
  have qU:=hR.lt
  have GQ:=hb6.lt
  refine Fg.rP [8] [.any,.any,.any,.any,.any,.any,.any,.any,.fresh 54 gX W2.heap.size,.any,.any,.any,.any,.any,.any,.any,.any,.any,.any,.any,.any,.any,.any,.any,.any,.any,.any,.any,.any,.any,.any,.any,.any,.val (Value.tuple #[xa.v,.bool true]),.val (x1.v),.val (Value.bool odd),.val (Value.tuple #[xa.v,.bool true]),.val (xa.v),.val (Value.bool true)] 7 ?_ ?_
  .refine Fg.vS rfl (by decide) (fun _ _ h=>Fg.vn x1.v (Fg.run_load rfl (h.r 6) ((hb6.gn h.base).range 0 (aR x1) rfl) Tryz.underlying54 rfl aD)) ?_
   refine Fg.vS rfl (by decide) (fun _ _ h=>Fg.vn _ (Fg.run_move rfl (h.r 4))) ?_
   refine Fg.cS rfl (by decide) (fun _ w h=>Fg.cq rfl ((show lH 101 #[x1.v,.bool odd] w (.tuple #[xa.v,.bool true]) from by have hh:=GR x1 odd w (HT.grown h.base) mH;rw[HAC.out]at hh;exact hh)) ⟨h.d 34,h.d 35,trivial⟩ Tryz.func101) ?_
   refine Fg.vS rfl (by decide) (fun _ _ h=>Fg.vn _ (Fg.run_move rfl (h.d 36))) ?_
   refine Fg.vS rfl (by decide) (fun _ _ h=>Fg.vn xa.v (Fg.bW rfl (h.d 33) rfl)) ?_
   refine Fg.vS rfl (by decide) (fun _ _ h=>Fg.vn _ (Fg.bW rfl (h.d 33) rfl)) ?_
   refine⟨⟨⟨_,rfl⟩,Fg.gF (fun _ _ h k=>aj h k) rfl (by show 8<49;decide) fun ac w h=>?_⟩,?_⟩
   .refine⟨aB rfl,w.alloc (.cells gX.toArray 54),?_,World.grownBy_alloc _ _ _,by simp,⟨w.heap.size,rfl,h.base.size,aH.new w gX _⟩⟩
    clear h
    go_simp
   trivial
  .intro qa V3 g3 hsz hdf hrest aC hpt
   obtain⟨N8,lC,hn8,gD⟩:∃N,qa.tmps.getD 8 undef=.pointer (some ⟨N,0,none⟩)/\W2.heap.size<=N/\aH V3 N 54 gX:=aC 8 (by kernel_rfl)
   obtain⟨⟨u30,iP⟩,⟨u31,gL⟩,⟨u33,jA⟩,⟨u34,iZ⟩,⟨u35,jS⟩,⟨u36,jT⟩,_⟩:=Fg.bn qa [30,31,33,34,35,36]
   obtain rfl:=Fg.aQ [8,30,31,33,34,35,36,37,38] (vs:=[_,_,_,_,_,_,_,_,Value.pointer (some ⟨N8,0,none⟩),_,_,_,_,_,_,_,_,_,_,_,_,_,_,_,_,_,_,_,_,_,u30,u31,_,u33,u34,u35,u36,xa.v,Value.bool true,_,_,_,_,_,_,_,_,_,_]) hsz hrest (by kernel_rfl) rfl rfl ⟨lC,iP,gL,jA,iZ,jS,jT,(show qa.tmps.getD 37 undef=xa.v from aC 37 (by kernel_rfl)),(show qa.tmps.getD 38 undef=Value.bool true from aC 38 (by kernel_rfl)),trivial⟩ hdf
   clear hsz hdf hrest aC hpt lC iP gL jA iZ jS jT
   replace hR:=hR.gn g3
   replace hb6:=hb6.gn g3
   replace G:=aj G g3
   replace HT:=HT.grown g3
   have hw8:w0.heap.size<=N8:=Nat.le_trans vO hn8
   clear g3
   refine Fg.aV rfl rfl (Fg.run_store (cs:=aR xa) rfl rfl rfl (gD.there 0 5 (by show 0+5<=5;decide)) aD (cB _)) ?_
   replace hR:=hR.au (C:=N8) (cs:=aR xa) 0 (by omega)
   replace hb6:=hb6.au (C:=N8) (cs:=aR xa) 0 (by omega)
   replace gD:aH (V3.setCells N8 0 (aR xa)) N8 54 (aR xa):=gD.bC rfl
   replace G:=aG (cs:=aR xa) G (B:=N8) (hw8) 0
   replace HT:=HT.keep (aK (cs:=aR xa) (ah _ (some N8)) 0) (HT0.jW (hw8))
   revert hR hb6 gD G HT
   generalize V3.setCells N8 0 (aR xa)=W4
   intro hR hb6 gD G HT
   go_upto_region 12 with (fail)
   have O1:=G.size
   have uy:=hR.lt
   have yN:=hb6.lt
   have Yu:=gD.lt
   refine Fg.rT [] [.any,.any,.any,.any,.any,.any,.any,.any,.any,.any,.any,.any,.any,.any,.any,.any,.any,.any,.any,.any,.any,.any,.any,.any,.any,.any,.any,.any,.any,.any,.any,.any,.any,.any,.any,.any,.any,.any,.any,.any,.any,.any,.val (xa.v),.val (x1.v),.val (Fe.dP.v),.val (xa.v),.val (x1.v),.val ((Fe.aM xa x1).v),.val (((Pt.mk xa x1 Fe.dP (Fe.aM xa x1))).v)] 7 ?_ ?_
   .refine Fg.vS rfl (by decide) (fun _ _ h=>Fg.vn xa.v (Fg.run_load rfl (h.r 8) ((gD.gn h.base).range 0 (aR xa) rfl) Tryz.underlying54 rfl aD)) ?_
    refine Fg.vS rfl (by decide) (fun _ _ h=>Fg.vn x1.v (Fg.run_load rfl (h.r 6) ((hb6.gn h.base).range 0 (aR x1) rfl) Tryz.underlying54 rfl aD)) ?_
    refine Fg.cS rfl (by decide) (fun ac w h=>?_) ?_
    .refine⟨aB rfl,102,#[],Fg.aN rfl rfl (by simp) (Fg.aI Tryz.func102 (by kernel_rfl) (by kernel_rfl)),?_⟩
     exact (DF).mono fun _ _ ⟨he,hg⟩=>⟨_,he,hg,rfl⟩
    refine Fg.vS rfl (by decide) (fun _ _ h=>Fg.vn xa.v (Fg.run_load rfl (h.r 8) ((gD.gn h.base).range 0 (aR xa) rfl) Tryz.underlying54 rfl aD)) ?_
    refine Fg.vS rfl (by decide) (fun _ _ h=>Fg.vn x1.v (Fg.run_load rfl (h.r 6) ((hb6.gn h.base).range 0 (aR x1) rfl) Tryz.underlying54 rfl aD)) ?_
    refine Fg.cS rfl (by decide) (fun _ w h=>Fg.cq rfl (jk hxa mH) ⟨h.d 45,h.d 46,trivial⟩ Tryz.func74) ?_
    refine Fg.vS rfl (by decide) (fun ac w h=>?_) ?_
    .have e42:_=xa.v:=h.d 42
     have e43:_=x1.v:=h.d 43
     have e44:_=Fe.dP.v:=h.d 44
     have e47:_=(Fe.aM xa x1).v:=h.d 47
     exact Fg.vn (((Pt.mk xa x1 Fe.dP (Fe.aM xa x1))).v) (Fg.run_build (vs:=#[(0,xa.v),(1,x1.v),(2,Fe.dP.v),(3,(Fe.aM xa x1).v)]) rfl (by simp only[List.map_toArray,List.map_cons,List.map_nil,Act.eval,e42,e43,e44,e47]) (by kernel_rfl))
    trivial
   .intro qa V5 g5 hsz hdf hrest aC hpt
    obtain⟨⟨u39,oF⟩,⟨u40,oG⟩,⟨u42,mJ⟩,⟨u43,sZ⟩,⟨u44,qD⟩,⟨u45,mK⟩,⟨u46,mM⟩,⟨u47,oH⟩,_⟩:=Fg.bn qa [39,40,42,43,44,45,46,47]
    obtain⟨x2,hx2⟩:∃x:Pt,x=(Pt.mk xa x1 Fe.dP (Fe.aM xa x1)):=⟨_,rfl⟩
    obtain rfl:=Fg.aQ [39,40,42,43,44,45,46,47,48] (vs:=[_,_,_,_,_,_,_,_,_,_,_,_,_,_,_,_,_,_,_,_,_,_,_,_,_,_,_,_,_,_,_,_,_,_,_,_,_,_,_,u39,u40,_,u42,u43,u44,u45,u46,u47,x2.v]) hsz hrest (by kernel_rfl) rfl rfl ⟨oF,oG,mJ,sZ,qD,mK,mM,oH,(show qa.tmps.getD 48 undef=x2.v by rw[hx2];exact aC 48 (by kernel_rfl)),trivial⟩ hdf
    clear hsz hdf hrest aC hpt oF oG mJ sZ qD mK mM oH
    have FE:=Lib.hid hx2;clear hx2
    replace hR:=hR.gn g5
    replace hb6:=hb6.gn g5
    replace gD:=gD.gn g5
    replace G:=aj G g5
    replace HT:=HT.grown g5
    clear g5
    refine Fg.aV rfl rfl (Fg.run_store (cs:=aY x2) rfl rfl rfl (hR.there 0 20 (by show 0+20<=20;decide)) aP (gJ _)) ?_
    replace hR:aH (V5.setCells w0.heap.size 0 (aY x2)) w0.heap.size 56 (aY x2):=hR.bC rfl
    replace hb6:=hb6.au (C:=w0.heap.size) (cs:=aY x2) 0 (by omega)
    replace gD:=gD.au (C:=w0.heap.size) (cs:=aY x2) 0 (by omega)
    replace G:=aG (cs:=aY x2) G (B:=w0.heap.size) (by omega) 0
    replace HT:=HT.keep (aK (cs:=aY x2) (ah _ (some w0.heap.size)) 0) (HT0.jW (by omega))
    revert hR hb6 gD G HT
    generalize V5.setCells w0.heap.size 0 (aY x2)=W6
    intro hR hb6 gD G HT
    go_wp2_with fail
    have hx2:=FE.out;subst hx2
    have hx1:=mZ.out;subst hx1
    exact bodyPost_ret (v:=.tuple #[((Pt.mk xa (fE (aU (iC l) 32)) Fe.dP (Fe.aM xa (fE (aU (iC l) 32))))).v,.bool true]) (dn Tryz.results70 _ _ w0.heap.size 56 (aY ((Pt.mk xa (fE (aU (iC l) 32)) Fe.dP (Fe.aM xa (fE (aU (iC l) 32)))))).toArray (0,0) _ rfl hR Tryz.underlying56 rfl aP rfl) rfl ⟨rfl,G⟩
set_option maxRecDepth 100000 in
set_option maxHeartbeats 3200000 in
theorem Wh (a:Option Addr) (n c:Nat) (w0:World) (h2:((n:Int) !=32)=true):
  Calls Tryz.prog 70 #[.slice a n c] w0 fun e w'=>e=.returned (.tuple #[bV.v,.bool false])/\w0.grownBy w' none:=by
 go_enter Tryz.func70,Tryz.ntmps70
 go_upto_region 1 with (fail)
 have G:w0.grownBy (w0.alloc (.cells bB.toArray 56)) none:=av (ah _ _) _
 have hR:aH (w0.alloc (.cells bB.toArray 56)) (w0.heap.size) 56 bB:=aH.new w0 bB _
 revert G hR
 generalize w0.alloc (.cells bB.toArray 56)=W0
 intro G hR
 have Gs:=G.size
 go_upto_region 2 with (fail)
 have lI:=G.size
 have lG:=hR.lt
 refine Fg.rP [] [.any,.any,.any,.any,.any,.any,.any,.any,.any,.any,.any,.any,.val (bV.v)] 1 ?_ ?_
 .refine Fg.vS rfl (by decide) (fun ac w h=>?_) ?_
  .exact Fg.vn bV.v (Fg.run_build (vs:=#[]) rfl (by simp) (by kernel_rfl))
  trivial
 .intro qa V1 g1 hsz hdf hrest aC hpt
  obtain rfl:=Fg.aQ [12] (vs:=[_,_,_,_,_,_,_,_,_,_,_,_,bV.v,_,_,_,_,_,_,_,_,_,_,_,_,_,_,_,_,_,_,_,_,_,_,_,_,_,_,_,_,_,_,_,_,_,_,_,_]) hsz hrest (by kernel_rfl) rfl rfl ⟨(show qa.tmps.getD 12 undef=bV.v from aC 12 (by kernel_rfl)),trivial⟩ hdf
  clear hsz hdf hrest aC hpt
  replace hR:=hR.gn g1
  replace G:=aj G g1
  clear g1
  refine Fg.aV rfl rfl (Fg.run_store (cs:=aY bV) rfl rfl rfl (hR.there 0 20 (by show 0+20<=20;decide)) aP (gJ _)) ?_
  replace hR:aH (V1.setCells w0.heap.size 0 (aY bV)) w0.heap.size 56 (aY bV):=hR.bC rfl
  replace G:=aG (cs:=aY bV) G (B:=w0.heap.size) (by omega) 0
  revert hR G
  generalize V1.setCells w0.heap.size 0 (aY bV)=W2
  intro hR G
  go_wp2_with fail
  exact bodyPost_ret (v:=.tuple #[bV.v,.bool false]) (dn Tryz.results70 _ _ w0.heap.size 56 (aY bV).toArray (0,0) _ rfl hR Tryz.underlying56 rfl aP rfl) rfl ⟨rfl,G⟩
end
section
open Go.RowKit Ed
def zh (p:Pt):Fe:=Fe.aM p.Y (AJ p.Z)
def GZ (p:Pt):Fe:=Fe.aM p.X (AJ p.Z)
def qW (p:Pt):Int:=(Fe.m (zh p):Int)+57896044618658097711785492504343953926634992332820282019728792003956564819968*((Fe.m (GZ p)%2:Nat):Int)
theorem Wj (x:Int) (h0:0<=x) (h1:x<57896044618658097711785492504343953926634992332820282019728792003956564819968):0<=x/2^(8*31)%256/\x/2^(8*31)%256<128:=by
 have e:(2:Int)^(8*31)=452312848583266388373324160190187140051835877600158453279131187530910662656:=by decide
 rw[e];omega
theorem ZC (v:Int) (h0:0<=v) (h1:v<128):bits .or .u8 v 128=v+128:=by
 have all:∀j:Fin 128,bits .or .u8 (j.val:Int) 128=(j.val:Int)+128:=by decide +kernel
 have:=all ⟨v.toNat,by omega⟩
 simp only[]at this
 rwa [show ((v.toNat:Nat):Int)=v by omega]at this
theorem Wm (x:Int) (h0:0<=x) (h1:x<57896044618658097711785492504343953926634992332820282019728792003956564819968):(dh x).set 31 (.int .u8 (x/2^(8*31)%256+128))=dh (x+57896044618658097711785492504343953926634992332820282019728792003956564819968):=by
 have hl:∀y:Int,(dh y).length=32:=fun y=>by simp[dh]
 apply List.ext_getElem?
 intro i
 by_cases hi:i<32
 .rw[lQ _ i hi,List.getElem?_set,hl]
  by_cases he:31=i
  .subst he
   rw[if_pos rfl,if_pos (by decide)]
   unfold rO
   have e:(2:Int)^(8*31)=452312848583266388373324160190187140051835877600158453279131187530910662656:=by decide
   rw[e]
   congr 2
   omega
  .rw[if_neg he,lQ _ i hi]
   unfold rO
   congr 2
   have e:(57896044618658097711785492504343953926634992332820282019728792003956564819968:Int)=2^(8*i)*(2^(8*(30-i))*32768):=by
    rw[<- Int.mul_assoc,<- Int.pow_add,show 8*i+8*(30-i)=240 by omega]
    decide
   have hp:(2:Int)^(8*i)≠0:=Int.ne_of_gt (Int.pow_pos (by decide))
   rw[e,Int.add_mul_ediv_left _ _ hp,show (2:Int)^(8*(30-i))*32768=256*(2^(8*(30-i))*128) by omega,Int.add_mul_emod_self_left]
 .rw[List.getElem?_eq_none (by rw[List.length_set,hl];omega),List.getElem?_eq_none (by rw[hl];omega)]
set_option maxRecDepth 100000 in
set_option maxHeartbeats 3200000 in
theorem Wn (p:Pt) (w0:World) (iW:p.Ok) (hx:decide (Fe.m (GZ p)%2=1)=true):
  Calls Tryz.prog 65 #[p.v] w0 fun e w'=>∃NB,e=.returned (.slice (some ⟨NB,0,none⟩) 32 32)/\w0.grownBy w' none/\w0.heap.size<=NB/\aH w' NB 141 (dh (qW p)):=by
 show Calls Tryz.prog 65 #[.agg (aY p).toArray] w0 _
 go_enter Tryz.func65,Tryz.ntmps65
 go_upto_region 1 with (fail)
 have G:w0.grownBy (w0.alloc (.cells (aY p).toArray 56)) none:=av (ah _ _) _
 have hP:aH (w0.alloc (.cells (aY p).toArray 56)) (w0.heap.size) 56 (aY p):=aH.new w0 (aY p) _
 revert G hP
 generalize w0.alloc (.cells (aY p).toArray 56)=W0
 intro G hP
 have Gs:=G.size
 have lI:=G.size
 have uz:=hP.lt
 refine Fg.rP [3] [.any,.any,.any,.fresh 54 gX W0.heap.size,.any,.val (Value.pointer (some ⟨w0.heap.size,10,none⟩)),.val (p.Z.v),.val ((AJ p.Z).v)] 4 ?_ ?_
 .refine Fg.vS rfl (by decide) (fun _ _ h=>Fg.vn _ (Fg.aF rfl (h.r 1) (fA _ _ _))) ?_
  refine Fg.vS rfl (by decide) (fun _ _ h=>Fg.vn p.Z.v (Fg.run_load rfl (h.d 5) ((hP.gn h.base).range 10 (aR p.Z) rfl) Tryz.underlying54 rfl aD)) ?_
  refine Fg.cS rfl (by decide) (fun _ w h=>Fg.cq rfl (Yq iW.Z) ⟨h.d 6,trivial⟩ Tryz.func93) ?_
  refine⟨⟨⟨_,rfl⟩,Fg.gF (fun _ _ h k=>aj h k) rfl (by show 3<24;decide) fun ac w h=>?_⟩,?_⟩
  .refine⟨aB rfl,w.alloc (.cells gX.toArray 54),?_,World.grownBy_alloc _ _ _,by simp,⟨w.heap.size,rfl,h.base.size,aH.new w gX _⟩⟩
   clear h
   go_simp
  trivial
 .intro qa V1 g1 hsz hdf hrest aC hpt
  obtain⟨N3,hs3,Yv,hb3⟩:∃N,qa.tmps.getD 3 undef=.pointer (some ⟨N,0,none⟩)/\W0.heap.size<=N/\aH V1 N 54 gX:=aC 3 (by kernel_rfl)
  obtain⟨u5,hs5⟩:=Fg.bL qa 5
  obtain⟨u6,hs6⟩:=Fg.bL qa 6
  obtain⟨x1,hx1⟩:∃x:Fe,x=AJ p.Z:=⟨_,rfl⟩
  obtain rfl:=Fg.aQ [3,5,6,7] (vs:=[_,_,_,Value.pointer (some ⟨N3,0,none⟩),_,u5,u6,x1.v,_,_,_,_,_,_,_,_,_,_,_,_,_,_,_,_]) hsz hrest (by kernel_rfl) rfl rfl ⟨hs3,hs5,hs6,(show qa.tmps.getD 7 undef=x1.v by rw[hx1];exact aC 7 (by kernel_rfl)),trivial⟩ hdf
  clear hsz hdf hrest aC hpt hs3 hs5 hs6
  have mZ:=Lib.hid hx1;clear hx1
  replace hP:=hP.gn g1
  replace G:=aj G g1
  have mH:x1.Ok:=by rw[mZ.out];exact (tZ _).ok
  have hw3:w0.heap.size<=N3:=Nat.le_trans lI Yv
  clear g1
  refine Fg.aV rfl rfl (Fg.run_store (cs:=aR x1) rfl rfl rfl (hb3.there 0 5 (by show 0+5<=5;decide)) aD (cB _)) ?_
  replace hP:=hP.au (C:=N3) (cs:=aR x1) 0 (by omega)
  replace hb3:aH (V1.setCells N3 0 (aR x1)) N3 54 (aR x1):=hb3.bC rfl
  replace G:=aG (cs:=aR x1) G (B:=N3) (hw3) 0
  revert hP hb3 G
  generalize V1.setCells N3 0 (aR x1)=W2
  intro hP hb3 G
  go_upto_region 2 with (fail)
  have vO:=G.size
  have CB:=hP.lt
  have Bd:=hb3.lt
  refine Fg.rP [] [.any,.any,.any,.any,.row 141 (dh (Fe.m (Fe.aM p.Y x1))) 32 W2.heap.size,.any,.any,.any,.val (Value.pointer (some ⟨w0.heap.size,5,none⟩)),.val (p.Y.v),.val (x1.v),.val ((Fe.aM p.Y x1).v),.row 141 (dh (Fe.m (Fe.aM p.Y x1))) 32 W2.heap.size] 6 ?_ ?_
  .refine Fg.vS rfl (by decide) (fun _ _ h=>Fg.vn _ (Fg.aF rfl (h.r 1) (iy _ _ _))) ?_
   refine Fg.vS rfl (by decide) (fun _ _ h=>Fg.vn p.Y.v (Fg.run_load rfl (h.d 8) ((hP.gn h.base).range 5 (aR p.Y) rfl) Tryz.underlying54 rfl aD)) ?_
   refine Fg.vS rfl (by decide) (fun _ _ h=>Fg.vn x1.v (Fg.run_load rfl (h.r 3) ((hb3.gn h.base).range 0 (aR x1) rfl) Tryz.underlying54 rfl aD)) ?_
   refine Fg.cS rfl (by decide) (fun _ w h=>Fg.cq rfl (jk iW.Y mH) ⟨h.d 9,h.d 10,trivial⟩ Tryz.func74) ?_
   refine Fg.cS rfl (by decide) (fun ac w h=>?_) ?_
   .have e11:_=(Fe.aM p.Y x1).v:=h.d 11
    refine⟨aB rfl,94,#[(Fe.aM p.Y x1).v],Fg.aN rfl rfl (by simp only[List.map_toArray,List.map_cons,List.map_nil,Act.eval,e11]) (Fg.aI Tryz.func94 (by kernel_rfl) (by kernel_rfl)),?_⟩
    exact (zu _ _ (Fe.mul_right _ _).ok).mono fun _ _ ⟨NB,he,hg,hn,hb⟩=>⟨_,he,hg,⟨NB,rfl,Nat.le_trans h.base.size hn,hb⟩⟩
   refine Fg.vS rfl (by decide) (fun ac w h=>?_) ?_
   .obtain⟨Yc,e12,Sw,b12⟩:∃N,ac.tmps.getD 12 undef=.slice (some ⟨N,0,none⟩) 32 32/\W2.heap.size<=N/\aH w N 141 (dh (Fe.m (Fe.aM p.Y x1))):=h.dep 12 (by kernel_rfl)
    exact⟨aB rfl,Value.slice (some ⟨Yc,0,none⟩) 32 32,w,Fg.run_assign rfl e12,ah _ _,⟨_,rfl,Sw,b12⟩⟩
   trivial
  .intro qa V3 g3 hsz hdf hrest aC hpt
   obtain⟨N4,hs4,MX,hb4⟩:∃N,qa.tmps.getD 4 undef=.slice (some ⟨N,0,none⟩) 32 32/\W2.heap.size<=N/\aH V3 N 141 (dh (Fe.m (Fe.aM p.Y x1))):=aC 4 (by kernel_rfl)
   obtain⟨⟨u8,lC⟩,⟨u9,jD⟩,⟨u10,fM⟩,⟨u11,d9⟩,⟨u12,fJ⟩,_⟩:=Fg.bn qa [8,9,10,11,12]
   obtain rfl:=Fg.aQ [4,8,9,10,11,12] (vs:=[_,_,_,_,Value.slice (some ⟨N4,0,none⟩) 32 32,_,_,_,u8,u9,u10,u11,u12,_,_,_,_,_,_,_,_,_,_,_]) hsz hrest (by kernel_rfl) rfl rfl ⟨hs4,lC,jD,fM,d9,fJ,trivial⟩ hdf
   clear hsz hdf hrest aC hpt hs4 lC jD fM d9 fJ
   replace hP:=hP.gn g3
   replace hb3:=hb3.gn g3
   replace G:=aj G g3
   have hw4:w0.heap.size<=N4:=Nat.le_trans vO MX
   clear g3
   go_upto_region 3 with (fail)
   have UZ:=G.size
   have He:=hP.lt
   have Hl:=hb3.lt
   have DK:=hb4.lt
   refine Fg.rP [] [.any,.any,.any,.any,.any,.any,.any,.any,.any,.any,.any,.any,.any,.val (Value.pointer (some ⟨w0.heap.size,0,none⟩)),.val (p.X.v),.val (x1.v),.val ((Fe.aM p.X x1).v),.val (Value.bool true)] 5 ?_ ?_
   .refine Fg.vS rfl (by decide) (fun _ _ h=>Fg.vn _ (Fg.aF rfl (h.r 1) (fu _ _ _))) ?_
    refine Fg.vS rfl (by decide) (fun _ _ h=>Fg.vn p.X.v (Fg.run_load rfl (h.d 13) ((hP.gn h.base).range 0 (aR p.X) rfl) Tryz.underlying54 rfl aD)) ?_
    refine Fg.vS rfl (by decide) (fun _ _ h=>Fg.vn x1.v (Fg.run_load rfl (h.r 3) ((hb3.gn h.base).range 0 (aR x1) rfl) Tryz.underlying54 rfl aD)) ?_
    refine Fg.cS rfl (by decide) (fun _ w h=>Fg.cq rfl (jk iW.X mH) ⟨h.d 14,h.d 15,trivial⟩ Tryz.func74) ?_
    refine Fg.cS rfl (by decide) (fun ac w h=>?_) ?_
    .have e16:_=(Fe.aM p.X x1).v:=h.d 16
     refine⟨aB rfl,95,#[(Fe.aM p.X x1).v],Fg.aN rfl rfl (by simp only[List.map_toArray,List.map_cons,List.map_nil,Act.eval,e16]) (Fg.aI Tryz.func95 (by kernel_rfl) (by kernel_rfl)),?_⟩
     exact (Yt (Fe.mul_right _ _).ok (by rw[mZ.out];exact hx)).mono fun _ _ ⟨he,hg⟩=>⟨_,he,hg,rfl⟩
    trivial
   .intro qa V4 g4 hsz hdf hrest aC hpt
    obtain⟨⟨u13,dL⟩,⟨u14,dw⟩,⟨u15,dM⟩,⟨u16,dG⟩,_⟩:=Fg.bn qa [13,14,15,16]
    obtain rfl:=Fg.aQ [13,14,15,16,17] (vs:=[_,_,_,_,_,_,_,_,_,_,_,_,_,u13,u14,u15,u16,Value.bool true,_,_,_,_,_,_]) hsz hrest (by kernel_rfl) rfl rfl ⟨dL,dw,dM,dG,(show qa.tmps.getD 17 undef=Value.bool true from aC 17 (by kernel_rfl)),trivial⟩ hdf
    clear hsz hdf hrest aC hpt dL dw dM dG
    replace hP:=hP.gn g4
    replace hb3:=hb3.gn g4
    replace hb4:=hb4.gn g4
    replace G:=aj G g4
    clear g4
    have hY:Fe.m (Fe.aM p.Y x1)=Fe.m (zh p):=by rw[mZ.out];rfl
    rw[hY]at hb4
    clear hY
    have hm0:0<=(Fe.m (zh p):Int):=Int.natCast_nonneg _
    have hm1:(Fe.m (zh p):Int)<57896044618658097711785492504343953926634992332820282019728792003956564819968:=by have:=(OP (zh p)).2;omega
    have hN:qW p=(Fe.m (zh p):Int)+57896044618658097711785492504343953926634992332820282019728792003956564819968:=by unfold qW;rw[decide_eq_true_iff.1 hx];rfl
    have HN2:=Lib.hid hN;clear hN
    generalize (Fe.m (zh p):Int)=y at *
    have c31:=hb4.cell (lQ y 31 (by decide))
    have f31:=hb4.free 31
    have hl:=Wj y hm0 hm1
    have ho:=ZC _ hl.1 hl.2
    have hset:=hb4.set 31 (.int .u8 (y/2^(8*31)%256+128))
    rw[Wm y hm0 hm1,<- HN2.out]at hset
    have G2:=aO G (p:=⟨N4,31,none⟩) hw4 (.int .u8 (y/2^(8*31)%256+128))
    unfold rO at c31
    clear hl
    generalize y/2^(8*31)%256=v at *
    have HR:=Lib.hid (And.intro hset G2)
    clear hset G2 hb4 hb3 hP G
    go_wp2
    go_ret
    exact⟨N4,rfl,HR.out.2,hw4,HR.out.1⟩
set_option maxRecDepth 100000 in
set_option maxHeartbeats 3200000 in
theorem Sz (p:Pt) (w0:World) (iW:p.Ok) (hx:decide (Fe.m (GZ p)%2=1)=false):
  Calls Tryz.prog 65 #[p.v] w0 fun e w'=>∃NB,e=.returned (.slice (some ⟨NB,0,none⟩) 32 32)/\w0.grownBy w' none/\w0.heap.size<=NB/\aH w' NB 141 (dh (qW p)):=by
 show Calls Tryz.prog 65 #[.agg (aY p).toArray] w0 _
 go_enter Tryz.func65,Tryz.ntmps65
 go_upto_region 1 with (fail)
 have G:w0.grownBy (w0.alloc (.cells (aY p).toArray 56)) none:=av (ah _ _) _
 have hP:aH (w0.alloc (.cells (aY p).toArray 56)) (w0.heap.size) 56 (aY p):=aH.new w0 (aY p) _
 revert G hP
 generalize w0.alloc (.cells (aY p).toArray 56)=W0
 intro G hP
 have Gs:=G.size
 have lI:=G.size
 have uz:=hP.lt
 refine Fg.rP [3] [.any,.any,.any,.fresh 54 gX W0.heap.size,.any,.val (Value.pointer (some ⟨w0.heap.size,10,none⟩)),.val (p.Z.v),.val ((AJ p.Z).v)] 4 ?_ ?_
 .refine Fg.vS rfl (by decide) (fun _ _ h=>Fg.vn _ (Fg.aF rfl (h.r 1) (fA _ _ _))) ?_
  refine Fg.vS rfl (by decide) (fun _ _ h=>Fg.vn p.Z.v (Fg.run_load rfl (h.d 5) ((hP.gn h.base).range 10 (aR p.Z) rfl) Tryz.underlying54 rfl aD)) ?_
  refine Fg.cS rfl (by decide) (fun _ w h=>Fg.cq rfl (Yq iW.Z) ⟨h.d 6,trivial⟩ Tryz.func93) ?_
  refine⟨⟨⟨_,rfl⟩,Fg.gF (fun _ _ h k=>aj h k) rfl (by show 3<24;decide) fun ac w h=>?_⟩,?_⟩
  .refine⟨aB rfl,w.alloc (.cells gX.toArray 54),?_,World.grownBy_alloc _ _ _,by simp,⟨w.heap.size,rfl,h.base.size,aH.new w gX _⟩⟩
   clear h
   go_simp
  trivial
 .intro qa V1 g1 hsz hdf hrest aC hpt
  obtain⟨N3,hs3,Yv,hb3⟩:∃N,qa.tmps.getD 3 undef=.pointer (some ⟨N,0,none⟩)/\W0.heap.size<=N/\aH V1 N 54 gX:=aC 3 (by kernel_rfl)
  obtain⟨u5,hs5⟩:=Fg.bL qa 5
  obtain⟨u6,hs6⟩:=Fg.bL qa 6
  obtain⟨x1,hx1⟩:∃x:Fe,x=AJ p.Z:=⟨_,rfl⟩
  obtain rfl:=Fg.aQ [3,5,6,7] (vs:=[_,_,_,Value.pointer (some ⟨N3,0,none⟩),_,u5,u6,x1.v,_,_,_,_,_,_,_,_,_,_,_,_,_,_,_,_]) hsz hrest (by kernel_rfl) rfl rfl ⟨hs3,hs5,hs6,(show qa.tmps.getD 7 undef=x1.v by rw[hx1];exact aC 7 (by kernel_rfl)),trivial⟩ hdf
  clear hsz hdf hrest aC hpt hs3 hs5 hs6
  have mZ:=Lib.hid hx1;clear hx1
  replace hP:=hP.gn g1
  replace G:=aj G g1
  have mH:x1.Ok:=by rw[mZ.out];exact (tZ _).ok
  have hw3:w0.heap.size<=N3:=Nat.le_trans lI Yv
  clear g1
  refine Fg.aV rfl rfl (Fg.run_store (cs:=aR x1) rfl rfl rfl (hb3.there 0 5 (by show 0+5<=5;decide)) aD (cB _)) ?_
  replace hP:=hP.au (C:=N3) (cs:=aR x1) 0 (by omega)
  replace hb3:aH (V1.setCells N3 0 (aR x1)) N3 54 (aR x1):=hb3.bC rfl
  replace G:=aG (cs:=aR x1) G (B:=N3) (hw3) 0
  revert hP hb3 G
  generalize V1.setCells N3 0 (aR x1)=W2
  intro hP hb3 G
  go_upto_region 2 with (fail)
  have vO:=G.size
  have CB:=hP.lt
  have Bd:=hb3.lt
  refine Fg.rP [] [.any,.any,.any,.any,.row 141 (dh (Fe.m (Fe.aM p.Y x1))) 32 W2.heap.size,.any,.any,.any,.val (Value.pointer (some ⟨w0.heap.size,5,none⟩)),.val (p.Y.v),.val (x1.v),.val ((Fe.aM p.Y x1).v),.row 141 (dh (Fe.m (Fe.aM p.Y x1))) 32 W2.heap.size] 6 ?_ ?_
  .refine Fg.vS rfl (by decide) (fun _ _ h=>Fg.vn _ (Fg.aF rfl (h.r 1) (iy _ _ _))) ?_
   refine Fg.vS rfl (by decide) (fun _ _ h=>Fg.vn p.Y.v (Fg.run_load rfl (h.d 8) ((hP.gn h.base).range 5 (aR p.Y) rfl) Tryz.underlying54 rfl aD)) ?_
   refine Fg.vS rfl (by decide) (fun _ _ h=>Fg.vn x1.v (Fg.run_load rfl (h.r 3) ((hb3.gn h.base).range 0 (aR x1) rfl) Tryz.underlying54 rfl aD)) ?_
   refine Fg.cS rfl (by decide) (fun _ w h=>Fg.cq rfl (jk iW.Y mH) ⟨h.d 9,h.d 10,trivial⟩ Tryz.func74) ?_
   refine Fg.cS rfl (by decide) (fun ac w h=>?_) ?_
   .have e11:_=(Fe.aM p.Y x1).v:=h.d 11
    refine⟨aB rfl,94,#[(Fe.aM p.Y x1).v],Fg.aN rfl rfl (by simp only[List.map_toArray,List.map_cons,List.map_nil,Act.eval,e11]) (Fg.aI Tryz.func94 (by kernel_rfl) (by kernel_rfl)),?_⟩
    exact (zu _ _ (Fe.mul_right _ _).ok).mono fun _ _ ⟨NB,he,hg,hn,hb⟩=>⟨_,he,hg,⟨NB,rfl,Nat.le_trans h.base.size hn,hb⟩⟩
   refine Fg.vS rfl (by decide) (fun ac w h=>?_) ?_
   .obtain⟨Yc,e12,Sw,b12⟩:∃N,ac.tmps.getD 12 undef=.slice (some ⟨N,0,none⟩) 32 32/\W2.heap.size<=N/\aH w N 141 (dh (Fe.m (Fe.aM p.Y x1))):=h.dep 12 (by kernel_rfl)
    exact⟨aB rfl,Value.slice (some ⟨Yc,0,none⟩) 32 32,w,Fg.run_assign rfl e12,ah _ _,⟨_,rfl,Sw,b12⟩⟩
   trivial
  .intro qa V3 g3 hsz hdf hrest aC hpt
   obtain⟨N4,hs4,MX,hb4⟩:∃N,qa.tmps.getD 4 undef=.slice (some ⟨N,0,none⟩) 32 32/\W2.heap.size<=N/\aH V3 N 141 (dh (Fe.m (Fe.aM p.Y x1))):=aC 4 (by kernel_rfl)
   obtain⟨⟨u8,lC⟩,⟨u9,jD⟩,⟨u10,fM⟩,⟨u11,d9⟩,⟨u12,fJ⟩,_⟩:=Fg.bn qa [8,9,10,11,12]
   obtain rfl:=Fg.aQ [4,8,9,10,11,12] (vs:=[_,_,_,_,Value.slice (some ⟨N4,0,none⟩) 32 32,_,_,_,u8,u9,u10,u11,u12,_,_,_,_,_,_,_,_,_,_,_]) hsz hrest (by kernel_rfl) rfl rfl ⟨hs4,lC,jD,fM,d9,fJ,trivial⟩ hdf
   clear hsz hdf hrest aC hpt hs4 lC jD fM d9 fJ
   replace hP:=hP.gn g3
   replace hb3:=hb3.gn g3
   replace G:=aj G g3
   have hw4:w0.heap.size<=N4:=Nat.le_trans vO MX
   clear g3
   go_upto_region 3 with (fail)
   have UZ:=G.size
   have He:=hP.lt
   have Hl:=hb3.lt
   have DK:=hb4.lt
   refine Fg.rP [] [.any,.any,.any,.any,.any,.any,.any,.any,.any,.any,.any,.any,.any,.val (Value.pointer (some ⟨w0.heap.size,0,none⟩)),.val (p.X.v),.val (x1.v),.val ((Fe.aM p.X x1).v),.val (Value.bool false)] 5 ?_ ?_
   .refine Fg.vS rfl (by decide) (fun _ _ h=>Fg.vn _ (Fg.aF rfl (h.r 1) (fu _ _ _))) ?_
    refine Fg.vS rfl (by decide) (fun _ _ h=>Fg.vn p.X.v (Fg.run_load rfl (h.d 13) ((hP.gn h.base).range 0 (aR p.X) rfl) Tryz.underlying54 rfl aD)) ?_
    refine Fg.vS rfl (by decide) (fun _ _ h=>Fg.vn x1.v (Fg.run_load rfl (h.r 3) ((hb3.gn h.base).range 0 (aR x1) rfl) Tryz.underlying54 rfl aD)) ?_
    refine Fg.cS rfl (by decide) (fun _ w h=>Fg.cq rfl (jk iW.X mH) ⟨h.d 14,h.d 15,trivial⟩ Tryz.func74) ?_
    refine Fg.cS rfl (by decide) (fun ac w h=>?_) ?_
    .have e16:_=(Fe.aM p.X x1).v:=h.d 16
     refine⟨aB rfl,95,#[(Fe.aM p.X x1).v],Fg.aN rfl rfl (by simp only[List.map_toArray,List.map_cons,List.map_nil,Act.eval,e16]) (Fg.aI Tryz.func95 (by kernel_rfl) (by kernel_rfl)),?_⟩
     exact (Yt (Fe.mul_right _ _).ok (by rw[mZ.out];exact hx)).mono fun _ _ ⟨he,hg⟩=>⟨_,he,hg,rfl⟩
    trivial
   .intro qa V4 g4 hsz hdf hrest aC hpt
    obtain⟨⟨u13,dL⟩,⟨u14,dw⟩,⟨u15,dM⟩,⟨u16,dG⟩,_⟩:=Fg.bn qa [13,14,15,16]
    obtain rfl:=Fg.aQ [13,14,15,16,17] (vs:=[_,_,_,_,_,_,_,_,_,_,_,_,_,u13,u14,u15,u16,Value.bool false,_,_,_,_,_,_]) hsz hrest (by kernel_rfl) rfl rfl ⟨dL,dw,dM,dG,(show qa.tmps.getD 17 undef=Value.bool false from aC 17 (by kernel_rfl)),trivial⟩ hdf
    clear hsz hdf hrest aC hpt dL dw dM dG
    replace hP:=hP.gn g4
    replace hb3:=hb3.gn g4
    replace hb4:=hb4.gn g4
    replace G:=aj G g4
    clear g4
    have hY:Fe.m (Fe.aM p.Y x1)=Fe.m (zh p):=by rw[mZ.out];rfl
    rw[hY]at hb4
    clear hY
    have hN:(Fe.m (zh p):Int)=qW p:=by
     unfold qW
     have:Fe.m (GZ p)%2=0:=by have:=of_decide_eq_false hx;omega
     rw[this];simp
    rw[hN]at hb4
    have HR:=Lib.hid (And.intro hb4 G)
    clear hN hb4 hb3 hP G
    go_wp2
    go_ret
    exact⟨N4,rfl,HR.out.2,hw4,HR.out.1⟩
theorem acG (p:Pt) (w0:World) (iW:p.Ok):Calls Tryz.prog 65 #[p.v] w0 fun e w'=>∃NB,e=.returned (.slice (some ⟨NB,0,none⟩) 32 32)/\w0.grownBy w' none/\w0.heap.size<=NB/\aH w' NB 141 (dh (qW p)):=by
 by_cases hx:Fe.m (GZ p)%2=1
 .exact Wn p w0 iW (decide_eq_true hx)
 .exact Sz p w0 iW (decide_eq_false hx)
end
section
open Go.RowKit Ow Ed
def enc (p:Pr):Int:=(p.y.val:Int)+57896044618658097711785492504343953926634992332820282019728792003956564819968*((p.x.val%2:Nat):Int)
theorem nG (a:Fe):(phi a).val=Fe.m a:=rfl
theorem Bf (x:F):x.val<57896044618658097711785492504343953926634992332820282019728792003956564819949:=x.isLt
theorem agW:Fe.P=57896044618658097711785492504343953926634992332820282019728792003956564819949:=rfl
theorem M0 (p:Pr):enc p%57896044618658097711785492504343953926634992332820282019728792003956564819968=(p.y.val:Int):=by
 unfold enc
 have h:=Bf p.y
 omega
theorem SA (p:Pr):decide (57896044618658097711785492504343953926634992332820282019728792003956564819968<=enc p)=decide (p.x.val%2=1):=by
 unfold enc
 have h:=Bf p.y
 rw[decide_eq_decide]
 omega
theorem agX {n:Nat} [NeZero n] (d y i:Fin n) (hi:i*i=-1) (h:d*(y*y)+1=0):i*i=d*(y*y):=by grind
theorem acH {n:Nat} [NeZero n] (d:Fin n) (h:d*(0*0)+1=0):(1:Fin n)=0:=by grind
theorem acI (y:F):d*(y*y)+1≠0:=fun h=>by
 have h0:=Zr (agX d y im MI h)
 subst h0
 exact uZ (acH d h)
theorem KS {n:Nat} [NeZero n] {d x y:Fin n} (h:y*y-x*x=1+d*(x*x*(y*y))):x*x*(d*(y*y)+1)=y*y-1:=by grind
theorem SC {n:Nat} [NeZero n] {d x y:Fin n} (h:x*x*(d*(y*y)+1)=y*y-1):y*y-x*x=1+d*(x*x*(y*y)):=by grind
theorem acJ {n:Nat} [NeZero n] {x z v:Fin n} (h:x*x*v=z*z*v):v*((x-z)*(x+z))=0:=by grind
theorem ZE {n:Nat} [NeZero n] {x z:Fin n} (h:x+z=0):x=- z:=by grind
theorem acK {n:Nat} [NeZero n] (x:Fin n): - x * - x=x*x:=by grind
theorem M4 {x z v:F} (hv:v≠0) (h:x*x*v=z*z*v):x=z\/x=- z:=by
 rcases mul_zero ((mul_zero (acJ h)).resolve_left hv) with h1|h1
 .exact Or.inl (yK h1)
 .exact Or.inr (ZE h1)
def uF (y:Fe):Fe:=Fe.iw (Fe.cu y) Fe.dP
def vF (y:Fe):Fe:=Fe.fF (Fe.aM dF (Fe.cu y)) Fe.dP
theorem Yw {y:Fe} (h:y.Right):phi (uF y)=phi y*phi y-1:=by
 unfold uF
 rw[nE (Fe.dS _) jQ,vg h,jI]
theorem SE {y:Fe} (h:y.Right):phi (vF y)=d*(phi y*phi y)+1:=by
 unfold vF
 rw[l7 (Fe.mul_right _ _) jQ,fB wM (Fe.dS _),vg h,jI,Yp]
theorem Ho {r u v:Fe}:Fe.m r*Fe.m r*Fe.m v%Fe.P=Fe.m u↔phi r*phi r*phi v=phi u:=by
 constructor
 .intro h
  apply Fin.ext
  rw[Fin.val_mul,Fin.val_mul,Nat.mod_mul_mod]
  exact h
 .intro h
  have:=congrArg Fin.val h
  rw[Fin.val_mul,Fin.val_mul,Nat.mod_mul_mod]at this
  exact this
theorem M5 {x:F} (h:x≠0):(- x).val%2=1-x.val%2:=by
 have h1:(- x).val=Fe.P-x.val:=by
  have h2:x.val≠0:=fun e=>h (Fin.ext (e.trans Ed.kC.symm))
  have hl:=x.isLt
  rw[Fin.val_neg]
  split
  .exact absurd (by assumption) h
  .rfl
 have hl:=x.isLt
 have h2:x.val≠0:=fun e=>h (Fin.ext (e.trans Ed.kC.symm))
 have h3:=Bf x
 have hP:=agW
 rw[h1]
 omega
theorem DN: - (0:F)=0:=by decide +kernel
theorem KT {y xa:Fe} {odd:Bool} (hy:y.Right) (h:jJ y odd=(xa,true)):xa.Right/\On ⟨phi xa,phi y⟩/\decide ((phi xa).val%2=1)=odd:=by
 unfold jJ at h
 change (if (fV (uF y) (vF y)).2=false then ((fV (uF y) (vF y)).1,false) else if odd=false then ((fV (uF y) (vF y)).1,true) else if Fe.m (fV (uF y) (vF y)).1=0 then (Fe.bI,false) else (Fe.kR (fV (uF y) (vF y)).1,true))=(xa,true) at h
 have hvr:(vF y).Right:=Fe.dI _ _
 by_cases hb:(fV (uF y) (vF y)).2=true
 .obtain⟨hr,he,hm⟩:=Dz hvr hb
  have hm':=Ho.1 hm
  rw[Yw hy,SE hy]at hm'
  rw[if_neg (by rw[hb];decide)]at h
  cases odd with
  | false=>
   rw[if_pos rfl]at h
   obtain rfl:=(Prod.mk.inj h).1
   refine⟨hr,SC hm',?_⟩
   rw[decide_eq_false_iff_not]
   rw[nG]
   omega
  | true=>
   rw[if_neg (by decide)]at h
   by_cases hz:Fe.m (fV (uF y) (vF y)).1=0
   .rw[if_pos hz]at h;exact absurd (Prod.mk.inj h).2 (by decide)
   .rw[if_neg hz]at h
    obtain rfl:=(Prod.mk.inj h).1
    have hne:phi (fV (uF y) (vF y)).1≠0:=fun e=>hz (by have:=congrArg Fin.val e;rw[Ed.kC,nG]at this;exact this)
    refine⟨Fe.kM _,?_,?_⟩
    .apply SC
     show phi (Fe.kR _)*phi (Fe.kR _)*_=_
     rw[zx hr,acK];exact hm'
    .rw[decide_eq_true_iff,zx hr,M5 hne]
     rw[nG]
     omega
 .rw[if_pos (by simpa using hb)]at h
  exact absurd (Prod.mk.inj h).2 (by decide)
theorem O6 {y xa:Fe} {odd:Bool} (hy:y.Right) (h:jJ y odd=(xa,false)) (p:Pr) (hp:On p) (hpy:p.y=phi y):decide (p.x.val%2=1)≠odd:=by
 intro hodd
 unfold jJ at h
 change (if (fV (uF y) (vF y)).2=false then ((fV (uF y) (vF y)).1,false) else if odd=false then ((fV (uF y) (vF y)).1,true) else if Fe.m (fV (uF y) (vF y)).1=0 then (Fe.bI,false) else (Fe.kR (fV (uF y) (vF y)).1,true))=(xa,false) at h
 have hvr:(vF y).Right:=Fe.dI _ _
 have hur:(uF y).Right:=Fe.fQ _ _
 have hx:=KS hp
 rw[hpy,<- SE hy,<- Yw hy]at hx
 have hb:(fV (uF y) (vF y)).2=true:=by
  refine Cy (t:=p.x.val) hur hvr ?_
  have:=congrArg Fin.val hx
  rw[Fin.val_mul,Fin.val_mul,Nat.mod_mul_mod]at this
  exact this
 obtain⟨hr,he,hm⟩:=Dz hvr hb
 have hm':=Ho.1 hm
 rw[if_neg (by rw[hb];decide)]at h
 cases odd with
 | false=>rw[if_pos rfl]at h;exact absurd (Prod.mk.inj h).2 (by decide)
 | true=>
  rw[if_neg (by decide)]at h
  by_cases hz:Fe.m (fV (uF y) (vF y)).1=0
  .have hv:phi (vF y)≠0:=by rw[SE hy];exact acI _
   have hz':phi (fV (uF y) (vF y)).1=0:=Fin.ext ((nG _).trans (hz.trans Ed.kC.symm))
   rcases M4 hv (hx.trans hm'.symm) with e|e
   .rw[e,hz',Ed.kC]at hodd;cases hodd
   .rw[e,hz',DN,Ed.kC]at hodd;cases hodd
  .rw[if_neg hz]at h;exact absurd (Prod.mk.inj h).2 (by decide)
theorem M6 {p q:Pr} (hp:On p) (hq:On q) (h:enc p=enc q):p=q:=by
 have hy:p.y=q.y:=Fin.ext (by have h1:=M0 p;have h2:=M0 q;rw[h]at h1;omega)
 have hxp:=KS hp
 have hxq:=KS hq
 rw[hy]at hxp
 have hpar:p.x.val%2=q.x.val%2:=by
  have h1:=SA p
  have h2:=SA q
  rw[h,h2]at h1
  have:=decide_eq_decide.1 h1
  omega
 apply Ed.ext _ hy
 rcases M4 (acI q.y) (hxp.trans hxq.symm) with e|e
 .exact e
 .by_cases hz:q.x=0
  .rw[e,hz,DN]
  .have:=M5 hz
   rw[<- e]at this
   omega
theorem M7 {a:Fe} (h:a.Right):phi (AJ a)=Ed.inv (phi a):=Fin.ext (by rw[nG,Ed.VQ,nG];exact (Zm h).mi)
theorem acL {n:Nat} [NeZero n] {z x i:Fin n} (h:z*i=1):z*x*i=x:=by grind
theorem ZF {s:Pt} {p:Pr} (h:iO s p):qW s=enc p:=by
 have hi:=Ed.inv_mul h.z
 have ey:phi (zh s)=p.y:=by
  unfold zh
  rw[fB h.rY (tZ _),M7 h.rZ,h.y];exact acL hi
 have ex:phi (GZ s)=p.x:=by
  unfold GZ
  rw[fB h.rX (tZ _),M7 h.rZ,h.x];exact acL hi
 have ey':Fe.m (zh s)=p.y.val:=(nG _).symm.trans (congrArg Fin.val ey)
 have ex':Fe.m (GZ s)=p.x.val:=(nG _).symm.trans (congrArg Fin.val ex)
 unfold qW enc
 rw[ey',ex']
def uD (l:List Nat):Int:=aU (fun i=>((l.getD i 0:Nat):Int)) 32
theorem vk {F G:Nat->Int}:∀n,(∀i,i<n->F i=G i)->aU F n=aU G n
 | 0,_=>rfl
 | n+1,h=>by rw[aU,aU,vk n (fun i hi=>h i (by omega)),h n (by omega)]
theorem Wo (l:List Nat) (hl:l.length=32) (hb:∀i,l.getD i 0<256):aU (iC l) 32=uD l%57896044618658097711785492504343953926634992332820282019728792003956564819968/\A8 l=decide (57896044618658097711785492504343953926634992332820282019728792003956564819968<=uD l):=by
 have e31:(2:Int)^(8*31)=452312848583266388373324160190187140051835877600158453279131187530910662656:=by decide
 have hlo:∀i,i<31->iC l i=((l.getD i 0:Nat):Int):=fun i hi=>by
  unfold iC EI
  rw[List.getD_eq_getElem?_getD,List.getElem?_set_ne (by omega),<- List.getD_eq_getElem?_getD]
 have h31:iC l 31=((l.getD 31 0%128:Nat):Int):=by
  unfold iC EI
  rw[List.getD_eq_getElem?_getD,List.getElem?_set_self (by omega),Option.getD_some]
 have hbd:=gM (fun i=>((l.getD i 0:Nat):Int)) (fun i=>⟨Int.natCast_nonneg _,by have:=hb i;omega⟩) 31
 rw[e31]at hbd
 have hx:=hb 31
 unfold uD A8
 have ew:aU (iC l) 32=aU (fun i=>((l.getD i 0:Nat):Int)) 31+iC l 31*2^(8*31):=by
  rw[aU,vk 31 hlo]
 have ew2:aU (fun i=>((l.getD i 0:Nat):Int)) 32=aU (fun i=>((l.getD i 0:Nat):Int)) 31+((l.getD 31 0:Nat):Int)*2^(8*31):=rfl
 rw[ew,ew2,h31,e31]
 generalize aU (fun i=>((l.getD i 0:Nat):Int)) 31=a at *
 generalize l.getD 31 0=x at *
 refine⟨by omega,?_⟩
 rw[decide_eq_decide]
 omega
def ZG (l:List Nat) (w:World) (e:Ending) (w':World):Prop:=
 ∃(t:Pt) (b:Bool),e=.returned (.tuple #[t.v,.bool b])/\w.grownBy w' none/\(b=true->∃p,iO t p/\l.length=32/\enc p=uD l)/\(b=false->t=bV/\¬(l.length=32/\∃p,On p/\enc p=uD l))
theorem O7 {x:Int} (h0:0<=x) (h1:x<57896044618658097711785492504343953926634992332820282019728792003956564819949):((phi (fE x)).val:Int)=x:=by
 rw[nG,ED]
 omega
theorem acM (B n c:Nat) (a:Option Addr) (l:List Nat) (w0:World) (HT0:eY w0) (hl:l.length=n) (hn:n<9223372036854775808) (hP:BytesAt w0 B a c l):
  Calls Tryz.prog 70 #[.slice a n c] w0 (ZG l w0):=by
 by_cases h32:n=32
 .subst h32
  obtain⟨hlow,htop⟩:=Wo l hl hP.byte
  have hbd:=gM (iC l) (pI l hP.byte) 32
  have agY:aU (iC l) 32<2^256:=hbd.2
  by_cases hlt:aU (iC l) 32<57896044618658097711785492504343953926634992332820282019728792003956564819949
  .have Yx:=mI hbd.1 agY
   have hyv:=O7 hbd.1 hlt
   cases hac:jJ (fE (aU (iC l) 32)) (A8 l) with
   | mk xa b=>
    cases b
    .refine (acD B a c l w0 HT0 hl hP hlt xa hac).mono ?_
     rintro e w' ⟨rfl,hg⟩
     refine⟨_,_,rfl,hg,(by intro h;cases h),fun _=>⟨rfl,?_⟩⟩
     rintro⟨_,p,hp,hN⟩
     refine O6 Yx hac p hp (Fin.ext ?_) ?_
     .have h1:=M0 p
      rw[hN,<- hlow]at h1
      omega
     .rw[<- SA,hN,htop]
    .refine (acF B a c l w0 HT0 hl hP hlt xa hac).mono ?_
     rintro e w' ⟨rfl,hg⟩
     refine⟨_,_,rfl,hg,fun _=>?_,(by intro h;cases h)⟩
     obtain⟨hxr,hon,hpar⟩:=KT Yx hac
     refine⟨⟨phi xa,phi (fE (aU (iC l) 32))⟩,⟨hxr,Yx,jQ,Fe.mul_right _ _,hon,by show phi Fe.dP≠0;rw[jI];exact uZ,KL _ _ jI,KL _ _ jI,?_⟩,hl,?_⟩
     .show phi (Fe.aM xa _)=phi Fe.dP*_
      rw[fB hxr Yx];exact KL _ _ jI
     .rw[htop]at hpar
      have h2:=decide_eq_decide.1 hpar
      unfold enc
      show ((phi (fE (aU (iC l) 32))).val:Int)+_=_
      rw[hyv,hlow]
      have hb2:=gM (fun i=>((l.getD i 0:Nat):Int)) (fun i=>⟨Int.natCast_nonneg _,by have:=hP.byte i;omega⟩) 32
      have ZH:(2:Int)^(8*32)=115792089237316195423570985008687907853269984665640564039457584007913129639936:=by decide
      rw[ZH]at hb2
      change 0<=uD l/\uD l<_ at hb2
      show _+_*(((phi xa).val%2:Nat):Int)=_
      generalize uD l=N at *
      generalize (phi xa).val=X at *
      omega
  .refine (acC B a c l w0 HT0 hl hP (by omega)).mono ?_
   rintro e w' ⟨rfl,hg⟩
   refine⟨_,_,rfl,hg,(by intro h;cases h),fun _=>⟨rfl,?_⟩⟩
   rintro⟨_,p,hp,hN⟩
   have h1:=M0 p
   rw[hN,<- hlow]at h1
   have h2:=Bf p.y
   omega
 .refine (Wh a n c w0 (by simpa using (show ¬(n:Int)=32 by omega))).mono ?_
  rintro e w' ⟨rfl,hg⟩
  exact⟨_,_,rfl,hg,(by intro h;cases h),fun _=>⟨rfl,fun h=>h32 (hl▸h.1)⟩⟩
end
section
open Go.RowKit Ow Ed
def j5 (x:Int):List Nat:=(List.range 32).map fun i=>(x/2^(8*i)%256).toNat
theorem iQ (x:Int):(j5 x).length=32:=by simp[j5]
theorem Hq (x:Int) (i:Nat) (h:i<32):(j5 x).getD i 0=(x/2^(8*i)%256).toNat:=by
 simp[j5,List.getD_eq_getElem?_getD,List.getElem?_map,List.getElem?_range h]
theorem ZI (x:Int):(j5 x).map dD=dh x:=by
 unfold j5 dh
 rw[List.map_map]
 apply List.map_congr_left
 intro i _
 show Value.int .u8 (((x/2^(8*i)%256).toNat:Nat):Int)=rO x i
 rw[Int.toNat_of_nonneg (Int.emod_nonneg _ (by decide))]
 rfl
theorem EM (x:Int) (i:Nat):(j5 x).getD i 0<256:=by
 by_cases h:i<32
 .rw[Hq x i h]
  have h1:=Int.emod_nonneg (x/2^(8*i)) (show (256:Int)≠0 by decide)
  have h2:=Int.emod_lt_of_pos (x/2^(8*i)) (show (0:Int)<256 by decide)
  omega
 .rw[List.getD_eq_getElem?_getD,List.getElem?_eq_none (by rw[iQ];omega)]
  decide
theorem Ht {x:Int} (h0:0<=x) (h1:x<115792089237316195423570985008687907853269984665640564039457584007913129639936):uD (j5 x)=x:=by
 unfold uD
 rw[vk (G:=fun i=>x/2^(8*i)%256) 32 (fun i hi=>by
  rw[Hq x i hi,Int.toNat_of_nonneg (Int.emod_nonneg _ (by decide))]),EG]
 have ZH:(2:Int)^(8*32)=115792089237316195423570985008687907853269984665640564039457584007913129639936:=by decide
 rw[ZH]
 exact Int.emod_eq_of_lt h0 h1
theorem EN (p:Pr):0<=enc p/\enc p<115792089237316195423570985008687907853269984665640564039457584007913129639936:=by
 unfold enc
 have h:=Bf p.y
 have h2:=Nat.mod_lt p.x.val (show 0<2 by decide)
 omega
theorem ZJ {s:Pt} {p:Pr} (w:World) (hs:iO s p):Calls Tryz.prog 65 #[s.v] w fun e w'=>∃NB,e=.returned (.slice (some ⟨NB,0,none⟩) 32 32)/\w.grownBy w' none/\w.heap.size<=NB/\aH w' NB 141 ((j5 (enc p)).map dD):=by
 refine (acG s w hs.ok).mono ?_
 rintro e w' ⟨NB,rfl,hg,hn,hb⟩
 rw[ZF hs,<- ZI]at hb
 exact⟨NB,rfl,hg,hn,hb⟩
end
section
namespace Sc
def L:Nat:=7237005577332262213973186563042994240857116359379907606001950938285454250989
def bg (n j:Nat):Nat:=n/2^(64*j)%18446744073709551616
def Qu (n i:Nat):Nat:=n/2^(8*i)%256
theorem iD (n j:Nat):bg n j<18446744073709551616:=Nat.mod_lt _ (by decide)
theorem SF (n i:Nat):Qu n i<256:=Nat.mod_lt _ (by decide)
theorem ZK (n:Nat):bg n 0=n%18446744073709551616:=by unfold bg;simp
theorem ZL (n:Nat):bg n 1=n/18446744073709551616%18446744073709551616:=by unfold bg;rfl
theorem ZM (n:Nat):bg n 2=n/340282366920938463463374607431768211456%18446744073709551616:=by unfold bg;rfl
theorem acN (n:Nat):bg n 3=n/6277101735386680763835789423207666416102355444464034512896%18446744073709551616:=by unfold bg;rfl
theorem of4 (n:Nat) (h:n<2^256):n=bg n 0+bg n 1*18446744073709551616+bg n 2*340282366920938463463374607431768211456+bg n 3*6277101735386680763835789423207666416102355444464034512896:=by
 have e:(2:Nat)^256=115792089237316195423570985008687907853269984665640564039457584007913129639936:=by decide
 rw[e]at h
 rw[ZK,ZL,ZM,acN]
 have h1:n/340282366920938463463374607431768211456=n/18446744073709551616/18446744073709551616:=by rw[Nat.div_div_eq_div_mul]
 have h2:n/6277101735386680763835789423207666416102355444464034512896=n/18446744073709551616/18446744073709551616/18446744073709551616:=by rw[Nat.div_div_eq_div_mul,Nat.div_div_eq_div_mul]
 rw[h1,h2]
 omega
theorem mk4 (a b c d:Nat) (ha:a<18446744073709551616) (hb:b<18446744073709551616) (hc:c<18446744073709551616) (hd:d<18446744073709551616) (n:Nat)
  (hn:n=a+b*18446744073709551616+c*340282366920938463463374607431768211456+d*6277101735386680763835789423207666416102355444464034512896):
  bg n 0=a/\bg n 1=b/\bg n 2=c/\bg n 3=d/\n<2^256:=by
 have e:(2:Nat)^256=115792089237316195423570985008687907853269984665640564039457584007913129639936:=by decide
 rw[e,ZK,ZL,ZM,acN]
 have h1:n/18446744073709551616=b+c*18446744073709551616+d*340282366920938463463374607431768211456:=by omega
 have h2:n/340282366920938463463374607431768211456=c+d*18446744073709551616:=by
  have:n/340282366920938463463374607431768211456=n/18446744073709551616/18446744073709551616:=by rw[Nat.div_div_eq_div_mul]
  rw[this,h1];omega
 have h3:n/6277101735386680763835789423207666416102355444464034512896=d:=by
  have:n/6277101735386680763835789423207666416102355444464034512896=n/340282366920938463463374607431768211456/18446744073709551616:=by rw[Nat.div_div_eq_div_mul]
  rw[this,h2];omega
 rw[h1,h2,h3]
 omega
def lw:Nat->Nat
 | 0=>6346243789798364141
 | 1=>1503914060200516822
 | 2=>0
 | 3=>1152921504606846976
 | _=>0
theorem acO:L=6346243789798364141+1503914060200516822*18446744073709551616+0*340282366920938463463374607431768211456+1152921504606846976*6277101735386680763835789423207666416102355444464034512896:=by decide
def ov (q:Nat):Nat->Nat
 | 0=>0
 | k+1=>(q*lw k+ov q k)/18446744073709551616
def lo (q k:Nat):Nat:=(q*lw k+ov q k)%18446744073709551616
def bl (n q:Nat):Nat->Nat
 | 0=>0
 | k+1=>if bg n k<lo q k+bl n q k then 1 else 0
def rs (n q k:Nat):Nat:=(bg n k+36893488147419103232-lo q k-bl n q k)%18446744073709551616
theorem Yy (q k:Nat):lo q k<18446744073709551616:=Nat.mod_lt _ (by decide)
theorem M8 (n q k:Nat):rs n q k<18446744073709551616:=Nat.mod_lt _ (by decide)
theorem SG (n q k:Nat):bl n q k<=1:=by
 cases k with
 | zero=>exact Nat.zero_le _
 | succ k=>unfold bl;split<;>omega
theorem SH (k:Nat):lw k<18446744073709551616:=by unfold lw;split<;>decide
theorem acP (q k:Nat) (hq:q<18446744073709551616):ov q k<18446744073709551616:=by
 induction k with
 | zero=>exact Nat.zero_lt_succ _
 | succ k ih=>
  unfold ov
  have h:=Nat.mul_le_mul (Nat.le_pred_of_lt hq) (Nat.le_pred_of_lt (SH k))
  simp only[Nat.pred_eq_sub_one]at h
  omega
def rQ (n q:Nat):Nat:=rs n q 0+rs n q 1*18446744073709551616+rs n q 2*340282366920938463463374607431768211456+rs n q 3*6277101735386680763835789423207666416102355444464034512896
def EO (n q:Nat):Nat:=ov q 4+bl n q 4
theorem wP (n q k:Nat):bg n k+bl n q (k+1)*18446744073709551616=rs n q k+lo q k+bl n q k:=by
 have h1:=iD n k
 have h2:=Yy q k
 have h3:=SG n q k
 have e:bl n q (k+1)=if bg n k<lo q k+bl n q k then 1 else 0:=rfl
 rw[e]
 unfold rs
 generalize bl n q k=b at *
 generalize lo q k=l at *
 generalize bg n k=x at *
 split<;>omega
theorem zA (q k:Nat):q*lw k+ov q k=ov q (k+1)*18446744073709551616+lo q k:=by
 have e:ov q (k+1)=(q*lw k+ov q k)/18446744073709551616:=rfl
 rw[e];unfold lo;omega
theorem SI (n q:Nat) (h:n<2^256):n+EO n q*115792089237316195423570985008687907853269984665640564039457584007913129639936=q*L+rQ n q:=by
 have e:=of4 n h
 have s0:=wP n q 0
 have s1:=wP n q 1
 have s2:=wP n q 2
 have s3:=wP n q 3
 have o0:=zA q 0
 have o1:=zA q 1
 have o2:=zA q 2
 have o3:=zA q 3
 have z0:ov q 0=0:=rfl
 have z1:bl n q 0=0:=rfl
 simp only[lw]at o0 o1 o2 o3
 unfold EO rQ
 rw[acO]
 simp only[Nat.reduceAdd]at *
 omega
theorem xW (n q:Nat):bg (rQ n q) 0=rs n q 0/\bg (rQ n q) 1=rs n q 1/\bg (rQ n q) 2=rs n q 2/\bg (rQ n q) 3=rs n q 3/\rQ n q<2^256:=
 mk4 _ _ _ _ (M8 ..) (M8 ..) (M8 ..) (M8 ..) _ rfl
def ca (n:Nat):Nat->Nat
 | 0=>0
 | k+1=>(bg n k+lw k+ca n k)/18446744073709551616
def ps (n k:Nat):Nat:=(bg n k+lw k+ca n k)%18446744073709551616
theorem M9 (n k:Nat):ps n k<18446744073709551616:=Nat.mod_lt _ (by decide)
theorem acQ (n k:Nat):ca n k<=1:=by
 induction k with
 | zero=>exact Nat.zero_le _
 | succ k ih=>have h1:=iD n k;have h2:=SH k;unfold ca;omega
def rF (n:Nat):Nat:=ps n 0+ps n 1*18446744073709551616+ps n 2*340282366920938463463374607431768211456+ps n 3*6277101735386680763835789423207666416102355444464034512896
theorem zC (n k:Nat):bg n k+lw k+ca n k=ca n (k+1)*18446744073709551616+ps n k:=by
 have e:ca n (k+1)=(bg n k+lw k+ca n k)/18446744073709551616:=rfl
 rw[e];unfold ps;omega
theorem back_eq (n:Nat) (h:n<2^256):n+L=ca n 4*115792089237316195423570985008687907853269984665640564039457584007913129639936+rF n:=by
 have e:=of4 n h
 have s0:=zC n 0
 have s1:=zC n 1
 have s2:=zC n 2
 have s3:=zC n 3
 have z0:ca n 0=0:=rfl
 simp only[lw]at s0 s1 s2 s3
 unfold rF
 rw[acO]
 simp only[Nat.reduceAdd]at *
 omega
theorem Bg (n:Nat):bg (rF n) 0=ps n 0/\bg (rF n) 1=ps n 1/\bg (rF n) 2=ps n 2/\bg (rF n) 3=ps n 3/\rF n<2^256:=
 mk4 _ _ _ _ (M9 ..) (M9 ..) (M9 ..) (M9 ..) _ rfl
def jc (top next:Nat):Nat:=if top/1152921504606846976>0 then 18446744073709551615 else top*16+next/1152921504606846976
theorem SK (top next:Nat) (h:next<18446744073709551616):jc top next<18446744073709551616:=by unfold jc;split<;>omega
def down (n x:Nat):Nat:=x+n%6277101735386680763835789423207666416102355444464034512896*18446744073709551616
theorem vo (n x:Nat) (hx:x<18446744073709551616):bg (down n x) 0=x/\bg (down n x) 1=bg n 0/\bg (down n x) 2=bg n 1/\bg (down n x) 3=bg n 2/\down n x<2^256:=by
 apply mk4 _ _ _ _ hx (iD ..) (iD ..) (iD ..)
 unfold down
 have h1:n/340282366920938463463374607431768211456=n/18446744073709551616/18446744073709551616:=by rw[Nat.div_div_eq_div_mul]
 rw[ZK,ZL,ZM,h1]
 omega
def yP (n x:Nat):Nat:=
 let d:=down n x
 let q:=jc (bg n 3) (bg n 2)
 if bg n 3<EO d q then rF (rQ d q) else rQ d q
theorem SL (n q:Nat) (n0 n1 n2 n3 x:Nat) (hn:n<L) (hx:x<18446744073709551616) (w0:n0<18446744073709551616) (w1:n1<18446744073709551616) (w2:n2<18446744073709551616)
  (e4:n=n0+n1*18446744073709551616+n2*340282366920938463463374607431768211456+n3*6277101735386680763835789423207666416102355444464034512896) (hq:jc n3 n2=q):
  q*L<n*18446744073709551616+x+L/\n*18446744073709551616+x<q*L+L:=by
 unfold jc at hq
 unfold L at *
 split at hq
 .subst hq;omega
 .have hk:n2=n2/1152921504606846976*1152921504606846976+n2%1152921504606846976:=by omega
  have hl:n2%1152921504606846976<1152921504606846976:=by omega
  have hm:n2/1152921504606846976<16:=by omega
  generalize n2/1152921504606846976=a at *
  generalize n2%1152921504606846976=b at *
  have Yv:n3<1152921504606846976:=by omega
  subst hk
  subst hq
  subst e4
  clear hn
  omega
theorem Wp (n x:Nat) (hn:n<L) (hx:x<18446744073709551616):yP n x=(n*18446744073709551616+x)%L:=by
 have Hu:n<2^256:=Nat.lt_trans hn (by decide)
 have e4:=of4 n Hu
 obtain⟨d0,d1,d2,d3,dl⟩:=vo n x hx
 have eq:=SI (down n x) (jc (bg n 3) (bg n 2)) dl
 obtain⟨_,_,_,_,ol⟩:=xW (down n x) (jc (bg n 3) (bg n 2))
 have eb:=back_eq (rQ (down n x) (jc (bg n 3) (bg n 2))) ol
 obtain⟨_,_,_,_,bl'⟩:=Bg (rQ (down n x) (jc (bg n 3) (bg n 2)))
 have ed:=of4 _ dl
 rw[d0,d1,d2,d3]at ed
 have tn:=SL n _ _ _ _ _ x hn hx (iD n 0) (iD n 1) (iD n 2) e4 rfl
 have acS:(2:Nat)^256=115792089237316195423570985008687907853269984665640564039457584007913129639936:=by decide
 have hN:n*18446744073709551616+x=bg n 3*115792089237316195423570985008687907853269984665640564039457584007913129639936+down n x:=by omega
 rw[acS]at ol bl'
 obtain⟨N,hNe⟩:∃N,N=n*18446744073709551616+x:=⟨_,rfl⟩
 rw[<- hNe]at hN tn ⊢
 clear hNe
 unfold yP
 simp only[]
 generalize hq:jc (bg n 3) (bg n 2)=q at *
 generalize rQ (down n x) q=r at *
 generalize EO (down n x) q=o at *
 generalize rF r=b at *
 generalize ca r 4=cc at *
 generalize down n x=d at *
 generalize bg n 3=n3 at *
 clear acS d0 d1 d2 d3 dl Hu ed e4 hn hx hq
 have hL:L=7237005577332262213973186563042994240857116359379907606001950938285454250989:=rfl
 obtain⟨t1,t2⟩:=tn
 generalize hP:q*L=P at *
 split
 .rename_i hlt
  have h1:o=n3+1:=by omega
  have h2:cc=1:=by omega
  have h3:N+L=P+b:=by omega
  have h4:b<L:=by omega
  have h5:1<=q:=by
   rcases Nat.eq_zero_or_pos q with h0|h0
   .rw[h0,Nat.zero_mul]at hP;omega
   .exact h0
  obtain⟨k,rfl⟩:∃k,q=k+1:=⟨q-1,by omega⟩
  rw[Nat.add_mul,Nat.one_mul]at hP
  have h6:N=L*k+b:=by rw[Nat.mul_comm];omega
  rw[h6,Nat.mul_add_mod,Nat.mod_eq_of_lt h4]
 .rename_i hlt
  have h1:o=n3:=by omega
  have h3:N=P+r:=by omega
  have h4:r<L:=by omega
  rw[h3,<- hP,Nat.mul_comm,Nat.mul_add_mod,Nat.mod_eq_of_lt h4]
theorem mod_lt (n:Nat):n%L<L:=Nat.mod_lt _ (by decide)
theorem Yz (n:Nat) (h:n<L):n<2^256:=Nat.lt_trans h (by decide)
theorem O8 (n j:Nat):n/2^(64*j)=n/2^(64*(j+1))*18446744073709551616+bg n j:=by
 have e:(2:Nat)^(64*(j+1))=2^(64*j)*18446744073709551616:=by rw[show 64*(j+1)=64*j+64 by omega,Nat.pow_add]
 rw[e,<- Nat.div_div_eq_div_mul]
 unfold bg
 omega
theorem rest_step (n j:Nat):yP (n/2^(64*(j+1))%L) (bg n j)=n/2^(64*j)%L:=by
 rw[Wp _ _ (mod_lt _) (iD _ _),O8 n j]
 generalize n/2^(64*(j+1))=a
 rw[Nat.add_mod,Nat.mul_mod,Nat.mod_mod,<- Nat.mul_mod,<- Nat.add_mod]
def uE (f:Nat->Nat):Nat->Nat
 | 0=>0
 | k+1=>uE f k+f k*2^(8*k)
theorem Bh (f:Nat->Nat) (hf:∀i,f i<256) (k:Nat):uE f k<2^(8*k):=by
 induction k with
 | zero=>exact Nat.zero_lt_one
 | succ k ih=>
  have e:(2:Nat)^(8*(k+1))=2^(8*k)*256:=by rw[show 8*(k+1)=8*k+8 by omega,Nat.pow_add]
  have h:=hf k
  have:=Nat.mul_le_mul_right (2^(8*k)) (show f k+1<=256 by omega)
  rw[Nat.add_mul,Nat.one_mul]at this
  rw[uE,e];omega
theorem Wq (n k:Nat):uE (Qu n) k=n%2^(8*k):=by
 induction k with
 | zero=>rw[uE,show 8*0=0 by rfl,Nat.pow_zero,Nat.mod_one]
 | succ k ih=>
  have e:(2:Nat)^(8*(k+1))=2^(8*k)*256:=by rw[show 8*(k+1)=8*k+8 by omega,Nat.pow_add]
  rw[uE,ih,e,Nat.mod_mul]
  unfold Qu
  rw[Nat.mul_comm (2^(8*k))]
theorem O9 (f g:Nat->Nat) (k:Nat) (h:∀i,i<k->f i=g i):uE f k=uE g k:=by
 induction k with
 | zero=>rfl
 | succ k ih=>rw[uE,uE,ih (fun i hi=>h i (by omega)),h k (by omega)]
theorem Ws (f:Nat->Nat) (hf:∀i,f i<256) (k i:Nat) (h:i<k):Qu (uE f k) i=f i:=by
 induction k with
 | zero=>omega
 | succ k ih=>
  rw[uE]
  unfold Qu at *
  by_cases hik:i=k
  .subst hik
   rw[Nat.add_mul_div_right _ _ (Nat.pow_pos (by decide)),Nat.div_eq_of_lt (Bh f hf i),Nat.zero_add,Nat.mod_eq_of_lt (hf i)]
  .have hlt:i<k:=by omega
   have e:(2:Nat)^(8*k)=2^(8*i)*(2^(8*(k-i-1))*256):=by
    rw[Nat.mul_comm (2^(8*(k-i-1))),show (256:Nat)=2^8 by rfl,<- Nat.pow_add,<- Nat.pow_add];congr 1;omega
   rw[e,<- Nat.mul_assoc,Nat.mul_comm (f k),Nat.mul_assoc,Nat.add_mul_div_left _ _ (Nat.pow_pos (by decide)),<- Nat.mul_assoc,Nat.add_mul_mod_self_right]
   exact ih hlt
theorem Pb (f:Nat->Nat) (hf:∀i,f i<256) (k:Nat):bg (uE f (k+1)) (k/8)=bg (uE f k) (k/8)+f k*2^(8*(k%8))/\bg (uE f k) (k/8)<2^(8*(k%8)):=by
 have hl:=Bh f hf k
 have hk:=hf k
 have e:(2:Nat)^(8*k)=2^(64*(k/8))*2^(8*(k%8)):=by rw[<- Nat.pow_add];congr 1;omega
 have hd:uE f k/2^(64*(k/8))<2^(8*(k%8)):=by rw[Nat.div_lt_iff_lt_mul (Nat.pow_pos (by decide)),Nat.mul_comm,<- e];exact hl
 have hb:(2:Nat)^(8*(k%8))*256<=18446744073709551616:=by
  have:(2:Nat)^(8*(k%8))*256=2^(8*(k%8)+8):=by rw[Nat.pow_add]
  rw[this,show (18446744073709551616:Nat)=2^64 by rfl]
  exact Nat.pow_le_pow_right (by decide) (by omega)
 have hw:bg (uE f k) (k/8)=uE f k/2^(64*(k/8)):=by unfold bg;exact Nat.mod_eq_of_lt (by omega)
 refine⟨?_,by rw[hw];exact hd⟩
 have h2:uE f (k+1)/2^(64*(k/8))=uE f k/2^(64*(k/8))+f k*2^(8*(k%8)):=by
  rw[uE,e,<- Nat.mul_assoc,Nat.mul_comm (f k),Nat.mul_assoc,Nat.add_mul_div_left _ _ (Nat.pow_pos (by decide))]
 rw[hw]
 unfold bg
 rw[h2]
 apply Nat.mod_eq_of_lt
 have:=Nat.mul_le_mul_right (2^(8*(k%8))) (show f k+1<=256 by omega)
 rw[Nat.add_mul,Nat.one_mul,Nat.mul_comm 256]at this
 omega
theorem KU (f:Nat->Nat) (hf:∀i,f i<256) (k j:Nat) (h:j≠k/8):bg (uE f (k+1)) j=bg (uE f k) j:=by
 have hl:=Bh f hf k
 have hl1:=Bh f hf (k+1)
 unfold bg
 by_cases hj:j<k/8
 .have e:(2:Nat)^(8*k)=2^(64*j)*(2^(8*k-64*j-64)*18446744073709551616):=by
   rw[show (18446744073709551616:Nat)=2^64 by rfl,<- Nat.pow_add,<- Nat.pow_add];congr 1;omega
  rw[uE,e,<- Nat.mul_assoc,Nat.mul_comm (f k),Nat.mul_assoc,Nat.add_mul_div_left _ _ (Nat.pow_pos (by decide)),<- Nat.mul_assoc,Nat.add_mul_mod_self_right]
 .have h1:(2:Nat)^(8*k)<=2^(64*j):=Nat.pow_le_pow_right (by decide) (by omega)
  have h2:(2:Nat)^(8*(k+1))<=2^(64*j):=Nat.pow_le_pow_right (by decide) (by omega)
  rw[Nat.div_eq_of_lt (by omega),Nat.div_eq_of_lt (by omega)]
end Sc
end
section
open Go.RowKit
theorem ZN (x y c:Int) (hx0:0<=x) (hy0:0<=y) (hc0:0<=c) (hc:c<=1) (w:World):(callFunc 120 #[.int .u64 x,.int .u64 y,.int .u64 c]).run Tryz.prog w=
  .ok (.value (.tuple #[.int .u64 ((x+y+c)%18446744073709551616),.int .u64 ((x+y+c)/18446744073709551616)])) w:=by
 have h:=run_add64 (P:=Tryz.prog) x y c (by omega) (by omega) (by omega) (by omega) (w:=w)
 rw[run_callFunc_extern Tryz.func120 (by kernel_rfl) (by kernel_rfl) (by kernel_rfl) (e:=add64Entry) (by kernel_rfl),h]
 simp only[Result.andThen]
theorem ZO (x y b:Nat) (hb:b<=1) (w:World):(callFunc 147 #[.int .u64 x,.int .u64 y,.int .u64 b]).run Tryz.prog w=
  .ok (.value (.tuple #[.int .u64 (((x+18446744073709551616-y-b)%18446744073709551616:Nat):Int),.int .u64 ((if x<y+b then 1 else 0:Nat):Int)])) w:=by
 rw[run_callFunc_extern Tryz.func147 (by kernel_rfl) (by kernel_rfl) (by kernel_rfl) (e:=sub64Entry) (by kernel_rfl),run_sub64 x y b hb]
 rfl
theorem acT (p a b:Int) (p0:0<=p) (p1:p<=340282366920938463426481119284349108225) (a0:0<=a) (a1:a<18446744073709551616) (b0:0<=b) (b1:b<18446744073709551616):
  IntKind.u64.wrap (IntKind.u64.wrap (p/18446744073709551616+(p%18446744073709551616+a)/18446744073709551616)+((p%18446744073709551616+a)%18446744073709551616+b)/18446744073709551616)=(p+a+b)/18446744073709551616/\
  (p%18446744073709551616+a+b)%18446744073709551616=(p+a+b)%18446744073709551616:=by
 rw[IntKind.wrap_u64,IntKind.wrap_u64]
 omega
theorem ZP (x y:Int) (hx0:0<=x) (hy0:0<=y) (hx:x<18446744073709551616) (hy:y<18446744073709551616):0<=x*y/\x*y<=340282366920938463426481119284349108225:=by
 refine⟨Int.mul_nonneg hx0 hy0,?_⟩
 have h1:x*y<=18446744073709551615*y:=Int.mul_le_mul_of_nonneg_right (by omega) hy0
 omega
set_option maxHeartbeats 400000 in
theorem Wt (x y a b:Int) (w:World) (x0:0<=x) (y0:0<=y) (x1:x<18446744073709551616) (y1:y<18446744073709551616) (a0:0<=a) (a1:a<18446744073709551616) (b0:0<=b) (b1:b<18446744073709551616):
  Calls Tryz.prog 96 #[.int .u64 x,.int .u64 y,.int .u64 a,.int .u64 b] w fun e w'=>e=.returned (.tuple #[.int .u64 ((x*y+a+b)/18446744073709551616),.int .u64 ((x*y+a+b)%18446744073709551616)])/\w=w':=by
 obtain⟨p0,p1⟩:=ZP x y x0 y0 x1 y1
 have H:=Lib.hid (acT (x*y) a b p0 p1 a0 a1 b0 b1)
 have M:=Lib.hid (Yf x y x0 y0 x1 y1)
 have c0:0<=x*y%18446744073709551616:=by omega
 have c1:0<=(x*y%18446744073709551616+a)%18446744073709551616:=by omega
 have q0:0<=x*y/18446744073709551616:=by omega
 generalize x*y=p at *
 obtain⟨hi,hhi⟩:∃hi,hi=p/18446744073709551616:=⟨_,rfl⟩
 obtain⟨lo,hlo⟩:∃lo,lo=p%18446744073709551616:=⟨_,rfl⟩
 rw[<- hhi,<- hlo]at H M
 rw[<- hlo]at c0 c1
 rw[<- hhi]at q0
 clear hhi hlo p1 p0 x0 x1 y0 y1
 go_enter Tryz.func96,Tryz.ntmps96
 go_wp2_with (first|(go_at_call 119;refine (M.out _).mono ?_;rintro e w' ⟨rfl,rfl⟩)|simp only[RG _ _ c0 a0,RG _ _ c1 b0])
 go_ret2
 rw[<- H.out.1,<- H.out.2]
 exact⟨rfl,rfl⟩
theorem Na (x y a b:Nat) (w:World) (x1:x<18446744073709551616) (y1:y<18446744073709551616) (a1:a<18446744073709551616) (b1:b<18446744073709551616):
  Calls Tryz.prog 96 #[.int .u64 x,.int .u64 y,.int .u64 a,.int .u64 b] w fun e w'=>e=.returned (.tuple #[.int .u64 (((x*y+a+b)/18446744073709551616:Nat):Int),.int .u64 (((x*y+a+b)%18446744073709551616:Nat):Int)])/\w=w':=by
 refine (Wt x y a b w (by omega) (by omega) (by omega) (by omega) (by omega) (by omega) (by omega) (by omega)).mono ?_
 rintro e w' ⟨rfl,rfl⟩
 refine⟨?_,rfl⟩
 have e1:((x:Int)*y+a+b)=((x*y+a+b:Nat):Int):=by push_cast;rfl
 rw[e1]
 rfl
theorem KV (t n:Nat) (ht:t<1152921504606846976) (hn:n<18446744073709551616):bits .or .u64 ((t:Int)*16) ((n:Int)/1152921504606846976)=((t*16+n/1152921504606846976:Nat):Int):=by
 have e1:(t:Int)*16=((2^4*t:Nat):Int):=by omega
 have e2:(n:Int)/1152921504606846976=((n/1152921504606846976:Nat):Int):=by omega
 rw[e1,e2,u64_or_nat _ _ (by omega) (by omega),<- Nat.two_pow_add_eq_or_of_lt (by omega)]
 omega
set_option maxHeartbeats 400000 in
theorem KW (t n:Nat) (w:World) (ht:t<18446744073709551616) (hn:n<18446744073709551616):
  Calls Tryz.prog 123 #[.int .u64 t,.int .u64 n] w fun e w'=>e=.returned (.int .u64 (Sc.jc t n:Int))/\w=w':=by
 by_cases h:0<(t:Int)/1152921504606846976
 .have e:Sc.jc t n=18446744073709551615:=by unfold Sc.jc;rw[if_pos (by omega)]
  have E:=Lib.hid e;clear e
  go_enter Tryz.func123,Tryz.ntmps123
  go_wp2
  go_ret
  exact⟨by rw[E.out];rfl,rfl⟩
 .have e:Sc.jc t n=t*16+n/1152921504606846976:=by unfold Sc.jc;rw[if_neg (by omega)]
  have H:=Lib.hid (KV t n (by omega) hn)
  have E:=Lib.hid e;clear e
  go_enter Tryz.func123,Tryz.ntmps123
  go_wp2
  go_ret
  exact⟨by rw[E.out,<- H.out];rfl,rfl⟩
end
section
open Go.RowKit
def jE (n:Nat):Value:=.int .u64 (n:Int)
def wV (n j:Nat):Value:=jE (Sc.bg n j)
structure oI (w:World):Prop where
 lt:5<w.heap.size
 Wu:∀i,i<4->w.cell? ⟨5,i,none⟩=some (jE (Sc.lw i))
theorem oI.kept {w w':World} (h:oI w) {row:Option Nat} (hg:w.grownBy w' row) (hr:∀r,row=some r->5<r):oI w':=
 ⟨Nat.lt_of_lt_of_le h.lt hg.size,fun i hi=>by rw[bf hg (p:=⟨5,i,none⟩) h.lt (fun e=>by have:=hr _ e.symm;simp at this)];exact h.Wu i hi⟩
def nH (X:List Value) (n:Nat):List Value:=X++[wV n 0,wV n 1,wV n 2,wV n 3]
def xX (X:List Value) (f g:Nat->Nat) (k:Nat):List Value:=X++(List.range 4).map fun j=>jE (if j<k then f j else g j)
theorem Hy (X:List Value) (hX:X.length=8) (f g:Nat->Nat) (k:Nat) (hk:k<4):(xX X f g k).set (8+k) (jE (f k))=xX X f g (k+1):=by
 unfold xX
 rw[List.set_append_right _ _ (by omega),show 8+k-X.length=k by omega]
 congr 1
 apply List.ext_getElem?
 intro i
 rw[List.getElem?_set,List.length_map,List.length_range]
 by_cases hi:i<4
 .rw[List.getElem?_map,List.getElem?_map,List.getElem?_range hi]
  by_cases h:k=i
  .subst h;simp[hk]
  .simp[h,show i<k+1↔i<k by omega]
 .rw[if_neg (by omega),List.getElem?_eq_none (by simp;omega),List.getElem?_eq_none (by simp;omega)]
theorem Hz (X:List Value) (hX:X.length=8) (f g:Nat->Nat) (k:Nat) (hk:k<4):(xX X f g k)[8+k]?=some (jE (g k)):=by
 unfold xX
 rw[List.getElem?_append_right (by omega),show 8+k-X.length=k by omega,List.getElem?_map,List.getElem?_range hk]
 simp
theorem Bj (X:List Value) (f:Nat->Nat) (n:Nat):xX X f (Sc.bg n) 0=nH X n:=by
 simp[xX,nH,List.range,List.range.loop,wV]
theorem H6 (X:List Value) (f g:Nat->Nat) (n:Nat) (h0:Sc.bg n 0=f 0) (h1:Sc.bg n 1=f 1) (h2:Sc.bg n 2=f 2) (h3:Sc.bg n 3=f 3):xX X f g 4=nH X n:=by
 simp[xX,nH,List.range,List.range.loop,wV,h0,h1,h2,h3]
theorem Wv (X:List Value) (n q:Nat):xX X (Sc.rs n q) (Sc.bg n) 4=nH X (Sc.rQ n q):=by
 obtain⟨h0,h1,h2,h3,_⟩:=Sc.xW n q
 exact H6 X _ _ _ h0 h1 h2 h3
theorem SN (X:List Value) (n:Nat):xX X (Sc.ps n) (Sc.bg n) 4=nH X (Sc.rF n):=by
 obtain⟨h0,h1,h2,h3,_⟩:=Sc.Bg n
 exact H6 X _ _ _ h0 h1 h2 h3
theorem SQ (n q k:Nat):(Sc.bg n k+18446744073709551616-Sc.lo q k-Sc.bl n q k)%18446744073709551616=Sc.rs n q k/\(if Sc.bg n k<Sc.lo q k+Sc.bl n q k then 1 else 0)=Sc.bl n q (k+1):=by
 have h1:=Sc.iD n k
 have h2:=Sc.Yy q k
 have h3:=Sc.SG n q k
 refine⟨?_,rfl⟩
 unfold Sc.rs
 omega
theorem yQ (k:Nat) (hk:k<4):∀w,(Instr.index 99 (.agg #[.int .u64 6346243789798364141,.int .u64 1503914060200516822,.int .u64 0,.int .u64 1152921504606846976]) (.int .i64 k)).run Tryz.prog w=.ok (.int .u64 (Sc.lw k:Int)) w:=by
 intro w
 obtain rfl|rfl|rfl|rfl:k=0\/k=1\/k=2\/k=3:=by omega
 all_goals kernel_rfl
theorem Ww (n q:Nat) (hn:n<2^256) (hq:q<18446744073709551616):(Sc.ov q 4:Int)+(Sc.bl n q 4:Int)<=18446744073709551615:=by
 have h:=Sc.SI n q hn
 have h2:=(Sc.xW n q).2.2.2.2
 have e:(2:Nat)^256=115792089237316195423570985008687907853269984665640564039457584007913129639936:=by decide
 rw[e]at h2
 have hE:Sc.EO n q=Sc.ov q 4+Sc.bl n q 4:=rfl
 rw[hE]at h
 unfold Sc.L at h
 generalize Sc.ov q 4=o4 at *
 generalize Sc.bl n q 4=b4 at *
 generalize Sc.rQ n q=r at *
 clear e hn hE
 omega
set_option maxHeartbeats 1600000 in
theorem H8 (R n q:Nat) (T:TypeId) (X:List Value) (w:World) (hX:X.length=8) (hn:n<2^256) (hq:q<18446744073709551616) (hT:oI w) (hb:aH w R T (nH X n)):
  Calls Tryz.prog 122 #[.pointer (some ⟨R,0,none⟩),.int .u64 q] w fun e w'=>e=.returned (.int .u64 (Sc.EO n q:Int))/\w.grownBy w' (some R)/\aH w' R T (nH X (Sc.rQ n q)):=by
 have t0:=hT.Wu 0 (by decide)
 have t1:=hT.Wu 1 (by decide)
 have t2:=hT.Wu 2 (by decide)
 have t3:=hT.Wu 3 (by decide)
 have HT:=Lib.hid hT;clear hT
 have HX:=Lib.hid hX;clear hX
 rw[<- Bj X (Sc.rs n q) n]at hb
 have HB:=Lib.hid hb;clear hb
 unfold jE at t0 t1 t2 t3
 simp only[Sc.lw]at t0 t1 t2 t3
 go_enter Tryz.func122,Tryz.ntmps122
 go_wp2
 go_loopw [5,6,11] (fun o b i wr=>∃k:Nat,k<=4/\i=.int .i64 k/\o=.int .u64 (Sc.ov q k:Int)/\b=.int .u64 (Sc.bl n q k:Int)/\w.grownBy wr (some R)/\aH wr R T (xX X (Sc.rs n q) (Sc.bg n) k)) (fun _ _ i _=>4-(intOf i).toNat)
 case atStart=>exact⟨0,by omega,rfl,rfl,rfl,ah _ _,HB.out⟩
 case round=>
  obtain⟨k,hk,rfl,rfl,rfl,hg,hb⟩:=hrel
  by_cases hlt:k<4
  .have hs:=SQ n q k
   have hset:=Hy X HX.out (Sc.rs n q) (Sc.bg n) k hlt
   have c0:=hb.cell (Hz X HX.out (Sc.rs n q) (Sc.bg n) k hlt)
   have f0:=hb.free (8+k)
   have hi:=yQ k hlt
   have b1:=Sc.SG n q k
   have l1:=Sc.SH k
   have o1:=Sc.acP q k hq
   have hm:=Na q (Sc.lw k) (Sc.ov q k) 0
   have he:(q*Sc.lw k+Sc.ov q k+0)/18446744073709551616=Sc.ov q (k+1):=rfl
   have hl:(q*Sc.lw k+Sc.ov q k+0)%18446744073709551616=Sc.lo q k:=rfl
   rw[he,hl]at hm
   clear he hl
   have HM:=Lib.hid (fun W=>hm W hq l1 o1 (by decide));clear hm
   have hsub:=ZO (Sc.bg n k) (Sc.lo q k) (Sc.bl n q k) b1
   rw[hs.1,hs.2]at hsub
   have HS:=Lib.hid hset;clear hset hs l1 o1 b1
   have HB1:=Lib.hid hb;clear hb
   have HG:=Lib.hid hg;clear hg
   unfold jE at c0
   generalize Sc.lw k=lk at *
   go_wp2_with (go_at_call 96;refine (HM.out _).mono ?_;rintro e w' ⟨rfl,rfl⟩)
   go_region_with (simp only[hsub])
   all_goals go_wp2
   go_roundw
   case rel=>
    exact⟨k+1,by omega,by go_num,rfl,rfl,aX (aJ HG.out _ _),by
     have h:=HB1.out.set (8+k) (jE (Sc.rs n q k))
     rw[HS.out]at h
     exact h.drew⟩
   case measure=>simp[intOf];omega
  .obtain rfl:k=4:=by omega
   have hO:=Ww n q hn hq
   rw[Wv]at hb
   have HB1:=Lib.hid hb;clear hb
   have HG:=Lib.hid hg;clear hg
   have hE:Hid (Sc.EO n q=Sc.ov q 4+Sc.bl n q 4):=rfl
   generalize Sc.ov q 4=o4 at *
   generalize Sc.bl n q 4=b4 at *
   go_wp2
   go_ret
   exact⟨by rw[hE.out];simp,HG.out,HB1.out⟩
theorem Pd (n k:Nat):((Sc.bg n k:Int)+(Sc.lw k:Int)+(Sc.ca n k:Int))%18446744073709551616=(Sc.ps n k:Int)/\((Sc.bg n k:Int)+(Sc.lw k:Int)+(Sc.ca n k:Int))/18446744073709551616=(Sc.ca n (k+1):Int):=by
 have e:Sc.ca n (k+1)=(Sc.bg n k+Sc.lw k+Sc.ca n k)/18446744073709551616:=rfl
 rw[e]
 unfold Sc.ps
 omega
set_option maxHeartbeats 1600000 in
theorem Ia (R n:Nat) (T:TypeId) (X:List Value) (w:World) (hX:X.length=8) (hT:oI w) (hb:aH w R T (nH X n)):
  Calls Tryz.prog 124 #[.pointer (some ⟨R,0,none⟩)] w fun e w'=>e=.returned (.tuple #[])/\w.grownBy w' (some R)/\aH w' R T (nH X (Sc.rF n)):=by
 have t0:=hT.Wu 0 (by decide)
 have t1:=hT.Wu 1 (by decide)
 have t2:=hT.Wu 2 (by decide)
 have t3:=hT.Wu 3 (by decide)
 have HT:=Lib.hid hT;clear hT
 have HX:=Lib.hid hX;clear hX
 rw[<- Bj X (Sc.ps n) n]at hb
 have HB:=Lib.hid hb;clear hb
 unfold jE at t0 t1 t2 t3
 simp only[Sc.lw]at t0 t1 t2 t3
 go_enter Tryz.func124,Tryz.ntmps124
 go_wp2
 go_loopw [2,6] (fun o i wr=>∃k:Nat,k<=4/\i=.int .i64 k/\o=.int .u64 (Sc.ca n k:Int)/\w.grownBy wr (some R)/\aH wr R T (xX X (Sc.ps n) (Sc.bg n) k)) (fun _ i _=>4-(intOf i).toNat)
 case atStart=>exact⟨0,by omega,rfl,rfl,ah _ _,HB.out⟩
 case round=>
  obtain⟨k,hk,rfl,rfl,hg,hb⟩:=hrel
  by_cases hlt:k<4
  .have hs:=Pd n k
   have hset:=Hy X HX.out (Sc.ps n) (Sc.bg n) k hlt
   have c0:=hb.cell (Hz X HX.out (Sc.ps n) (Sc.bg n) k hlt)
   have f0:=hb.free (8+k)
   have hi:=yQ k hlt
   have b1:=Sc.acQ n k
   have hsub:=ZN (Sc.bg n k) (Sc.lw k) (Sc.ca n k) (by omega) (by omega) (by omega) (by omega)
   rw[hs.1,hs.2]at hsub
   have HS:=Lib.hid hset;clear hset hs b1
   have HB1:=Lib.hid hb;clear hb
   have HG:=Lib.hid hg;clear hg
   unfold jE at c0
   generalize Sc.lw k=lk at *
   go_wp2
   go_region_with (simp only[hsub])
   all_goals go_wp2
   go_roundw
   case rel=>
    exact⟨k+1,by omega,by go_num,rfl,aX (aJ HG.out _ _),by
     have h:=HB1.out.set (8+k) (jE (Sc.ps n k))
     rw[HS.out]at h
     exact h.drew⟩
   case measure=>simp[intOf];omega
  .obtain rfl:k=4:=by omega
   rw[SN]at hb
   have HB1:=Lib.hid hb;clear hb
   have HG:=Lib.hid hg;clear hg
   go_wp2
   go_end0
   exact⟨rfl,HG.out,HB1.out⟩
end
section
open Go.RowKit
theorem Ib (X:List Value) (hX:X.length=8) (n:Nat):(nH X n)[8]?=some (wV n 0)/\(nH X n)[9]?=some (wV n 1)/\(nH X n)[10]?=some (wV n 2)/\(nH X n)[11]?=some (wV n 3):=by
 unfold nH
 refine⟨?_,?_,?_,?_⟩<;>(rw[List.getElem?_append_right (by omega),hX];rfl)
theorem SS (X:List Value) (hX:X.length=8) (n x:Nat) (hx:x<18446744073709551616):
  ((((nH X n).set 8 (jE x)).set 9 (wV n 0)).set 10 (wV n 1)).set 11 (wV n 2)=nH X (Sc.down n x):=by
 obtain⟨h0,h1,h2,h3,_⟩:=Sc.vo n x hx
 unfold nH wV
 rw[h0,h1,h2,h3]
 rw[List.set_append_right _ _ (by omega),List.set_append_right _ _ (by omega),List.set_append_right _ _ (by omega),List.set_append_right _ _ (by omega),hX]
 rfl
set_option maxHeartbeats 1600000 in
theorem CF (R n x:Nat) (T:TypeId) (X:List Value) (w:World) (hX:X.length=8) (hx:x<18446744073709551616) (hT:oI w) (hR:5<R) (hb:aH w R T (nH X n)):
  Calls Tryz.prog 99 #[.pointer (some ⟨R,0,none⟩),.int .u64 x] w fun e w'=>e=.returned (.tuple #[])/\w.grownBy w' (some R)/\aH w' R T (nH X (Sc.yP n x)):=by
 obtain⟨g0,g1,g2,g3⟩:=Ib X hX n
 have c0:=hb.cell g0
 have c1:=hb.cell g1
 have c2:=hb.cell g2
 have c3:=hb.cell g3
 have f0:=hb.free 8
 have f1:=hb.free 9
 have f2:=hb.free 10
 have f3:=hb.free 11
 clear g0 g1 g2 g3
 have HS:=Lib.hid (SS X hX n x hx)
 have HX:=Lib.hid hX;clear hX
 have HT:=Lib.hid hT;clear hT
 have HB:=Lib.hid hb;clear hb
 unfold wV jE at c0 c1 c2 c3
 go_enter Tryz.func99,Tryz.ntmps99
 go_wp2
 go_region
 all_goals go_wp2_with fail
 have hb1:=(((((HB.out.set 8 (jE x)).set 9 (wV n 0)).set 10 (wV n 1)).set 11 (wV n 2))).drew
 have hg1:=aX (aJ (aJ (aJ (aJ (ah w (some R)) 8 (jE x)) 9 (wV n 0)) 10 (wV n 1)) 11 (wV n 2))
 rw[HS.out]at hb1
 unfold wV jE at hb1 hg1
 revert hb1 hg1
 generalize ((((w.setCell ⟨R,8,none⟩ (Value.int IntKind.u64 (x:Int))).setCell ⟨R,9,none⟩ (Value.int IntKind.u64 (Sc.bg n 0:Int))).setCell ⟨R,10,none⟩ (Value.int IntKind.u64 (Sc.bg n 1:Int))).setCell ⟨R,11,none⟩ (Value.int IntKind.u64 (Sc.bg n 2:Int))).drew=w1
 intro hb1 hg1
 have HB1:=Lib.hid hb1;clear hb1 HB
 have iA:=Lib.hid hg1;clear hg1
 clear c0 c1 c2 c3 f0 f1 f2 f3
 refine (KW (Sc.bg n 3) (Sc.bg n 2) w1 (Sc.iD n 3) (Sc.iD n 2)).mono ?_
 rintro e w' ⟨rfl,rfl⟩
 have hgl:=Sc.SK (Sc.bg n 3) (Sc.bg n 2) (Sc.iD n 2)
 have hT1:=HT.out.kept iA.out (fun r e=>by cases e;exact hR)
 have ht:=H8 R (Sc.down n x) (Sc.jc (Sc.bg n 3) (Sc.bg n 2)) T X w1 HX.out (Sc.vo n x hx).2.2.2.2 hgl hT1 HB1.out
 have hr:Hid (Sc.yP n x=if Sc.bg n 3<Sc.EO (Sc.down n x) (Sc.jc (Sc.bg n 3) (Sc.bg n 2)) then Sc.rF (Sc.rQ (Sc.down n x) (Sc.jc (Sc.bg n 3) (Sc.bg n 2))) else Sc.rQ (Sc.down n x) (Sc.jc (Sc.bg n 3) (Sc.bg n 2))):=rfl
 clear hgl hT1
 generalize Sc.jc (Sc.bg n 3) (Sc.bg n 2)=q at *
 generalize Sc.EO (Sc.down n x) q=o at *
 generalize Sc.rQ (Sc.down n x) q=m at *
 generalize Sc.bg n 3=top at *
 have HTO:=Lib.hid ht;clear ht
 by_cases hlt:top<o
 .have hlt':decide ((top:Int)<(o:Int))=true:=by simpa using hlt
  go_wp2_with fail
  refine HTO.out.mono ?_
  rintro e w2 ⟨rfl,hg2,hb2⟩
  have HG2:=Lib.hid (aj iA.out hg2);clear hg2
  have HB2:=Lib.hid hb2;clear hb2
  go_wp2_with fail
  refine (Ia R m T X w2 HX.out (HT.out.kept HG2.out (fun r e=>by cases e;exact hR)) HB2.out).mono ?_
  rintro e w3 ⟨rfl,hg3,hb3⟩
  have gq:=Lib.hid (aj HG2.out hg3);clear hg3
  have HB3:=Lib.hid hb3;clear hb3
  go_wp2
  go_end0
  exact⟨rfl,gq.out,by rw[hr.out,if_pos hlt];exact HB3.out⟩
 .have hlt':decide ((top:Int)<(o:Int))=false:=by simpa using hlt
  go_wp2_with fail
  refine HTO.out.mono ?_
  rintro e w2 ⟨rfl,hg2,hb2⟩
  have HG2:=Lib.hid (aj iA.out hg2);clear hg2
  have HB2:=Lib.hid hb2;clear hb2
  go_wp2
  go_end0
  exact⟨rfl,HG2.out,by rw[hr.out,if_neg hlt];exact HB2.out⟩
end
section
open Go.RowKit Ow
theorem bG {a b:Nat} (h:a≠b):some a≠some b:=fun e=>h (Option.some.inj e)
def uf (n m:Nat):List Value:=(List.range m).map (wV n)
theorem ug (n m j:Nat) (h:j<m) (tl:List Value):(uf n m++tl)[j]?=some (wV n j):=by
 unfold uf
 rw[List.getElem?_append_left (by simpa using h),List.getElem?_map,List.getElem?_range h];rfl
theorem EP (n n' m j:Nat) (h:j<m) (tl:List Value) (v:Nat) (hj:Sc.bg n' j=v) (ho:∀i,i≠j->Sc.bg n' i=Sc.bg n i):(uf n m++tl).set j (jE v)=uf n' m++tl:=by
 unfold uf
 rw[List.set_append_left _ _ (by simpa using h)]
 congr 1
 apply List.ext_getElem?
 intro i
 rw[List.getElem?_set,List.length_map,List.length_range]
 by_cases hi:i<m
 .rw[List.getElem?_map,List.getElem?_map,List.getElem?_range hi]
  by_cases e:j=i
  .subst e;simp[hi,wV,hj]
  .simp[e,wV,ho i (fun h=>e h.symm)]
 .rw[if_neg (by omega),List.getElem?_eq_none (by simp;omega),List.getElem?_eq_none (by simp;omega)]
theorem Pe (o x r:Nat) (hx:x<256) (hr:r<8) (ho:o<2^(8*r)):bits .or .u64 (o:Int) (IntKind.u64.wrap ((x:Int)*2^(8*r)))=((o+x*2^(8*r):Nat):Int):=by
 have hb:(2:Nat)^(8*r)*256<=18446744073709551616:=by
  have:(2:Nat)^(8*r)*256=2^(8*r+8):=by rw[Nat.pow_add]
  rw[this,show (18446744073709551616:Nat)=2^64 by rfl]
  exact Nat.pow_le_pow_right (by decide) (by omega)
 have h1:x*2^(8*r)+2^(8*r)<=2^(8*r)*256:=by
  have:=Nat.mul_le_mul_right (2^(8*r)) (show x+1<=256 by omega)
  rw[Nat.add_mul,Nat.one_mul,Nat.mul_comm 256]at this;exact this
 have e1:(x:Int)*2^(8*r)=((2^(8*r)*x:Nat):Int):=by rw[Int.natCast_mul,Int.natCast_pow,Int.mul_comm];rfl
 rw[Nat.mul_comm]at h1
 have e2:IntKind.u64.wrap ((x:Int)*2^(8*r))=((2^(8*r)*x:Nat):Int):=by
  rw[e1,IntKind.wrap_u64]
  generalize 2^(8*r)*x=y at *
  generalize 2^(8*r)=z at *
  omega
 rw[e2,u64_or_nat _ _ (by omega) (by omega),Nat.or_comm,<- Nat.two_pow_add_eq_or_of_lt ho,Nat.mul_comm x,Nat.add_comm]
set_option maxHeartbeats 1600000 in
theorem Pf (WB m len cap pb po:Nat) (T:TypeId) (tl:List Value) (f:Nat->Nat) (w:World) (hf:∀i,f i<256) (hm:len<=8*m) (hm2:m<=8) (hne:pb≠WB) (hlt:pb<w.heap.size) (hlc:len<=cap)
  (hc:∀i,i<len->w.cell? ⟨pb,po+i,none⟩=some (.int .u8 (f i))) (hb:aH w WB T (uf 0 m++tl)):
  Calls Tryz.prog 97 #[.slice (some ⟨WB,0,none⟩) m m,.slice (some ⟨pb,po,none⟩) len cap] w fun e w'=>e=.returned (.tuple #[])/\w.grownBy w' (some WB)/\aH w' WB T (uf (Sc.uE f len) m++tl):=by
 have HC:=Lib.hid hc;clear hc
 have HF:=Lib.hid hf;clear hf
 have HB:=Lib.hid hb;clear hb
 go_enter Tryz.func97,Tryz.ntmps97
 go_wp2
 go_loopw [8] (fun i wr=>∃k:Nat,k<=len/\i=.int .i64 k/\w.grownBy wr (some WB)/\aH wr WB T (uf (Sc.uE f k) m++tl)) (fun i _=>len-(intOf i).toNat)
 case atStart=>exact⟨0,by omega,rfl,ah _ _,HB.out⟩
 case round=>
  obtain⟨k,hk,rfl,hg,hb⟩:=hrel
  by_cases hkl:k<len
  .obtain⟨d,hd⟩:∃d,d=k/8:=⟨_,rfl⟩
   obtain⟨r,hr⟩:∃r,r=k%8:=⟨_,rfl⟩
   have hd2:(k:Int)/8=(d:Int):=by omega
   have hr2:(k:Int)%8=(r:Int):=by omega
   have dm:d<m:=by omega
   have r8:r<8:=by omega
   have hs:=Sc.Pb f HF.out k
   rw[<- hd,<- hr]at hs
   have hso:=Sc.KU f HF.out k
   rw[<- hd]at hso
   have hv:=Pe (Sc.bg (Sc.uE f k) d) (f k) r (HF.out k) r8 hs.2
   have hset:=EP (Sc.uE f k) (Sc.uE f (k+1)) m d dm tl _ hs.1 hso
   have HS:=Lib.hid (And.intro hv hset);clear hv hset hs hso hd hr
   have c0:=hb.cell (ug (Sc.uE f k) m d dm tl)
   have f0:=hb.free d
   have c1:wr.cell? ⟨pb,po+k,none⟩=some (.int .u8 (f k)):=by rw[bf hg (p:=⟨pb,po+k,none⟩) hlt (bG hne)];exact HC.out k hkl
   have fk:=HF.out k
   have HB1:=Lib.hid hb;clear hb
   have HG:=Lib.hid hg;clear hg
   unfold wV jE at c0
   go_wp2
   go_region
   all_goals go_wp2
   go_roundw
   case rel=>
    refine⟨k+1,by omega,by go_num,aX (aJ HG.out _ _),?_⟩
    have h:=HB1.out.set d (jE (Sc.bg (Sc.uE f k) d+f k*2^(8*r)))
    rw[HS.out.2]at h
    unfold jE at h
    rw[<- HS.out.1]at h
    exact h.drew
   case measure=>simp[intOf];omega
  .obtain rfl:k=len:=by omega
   have HB1:=Lib.hid hb;clear hb
   have HG:=Lib.hid hg;clear hg
   go_wp2
   go_end0
   exact⟨rfl,HG.out,HB1.out⟩
theorem Pg (WB m cap:Nat) (a:Option Addr) (w:World):
  Calls Tryz.prog 97 #[.slice (some ⟨WB,0,none⟩) m m,.slice a 0 cap] w fun e w'=>e=.returned (.tuple #[])/\w'=w:=by
 go_enter Tryz.func97,Tryz.ntmps97
 go_wp2
 go_loopw [8] (fun i wr=>i=.int .i64 0/\wr=w) (fun _ _=>0)
 case atStart=>exact⟨rfl,rfl⟩
 case round=>
  obtain⟨rfl,rfl⟩:=hrel
  go_wp2
  go_end0
  exact⟨rfl,rfl⟩
def num (l:List Nat):Nat:=Sc.uE (fun i=>l.getD i 0) l.length
theorem Ic (WB m len cap B:Nat) (T:TypeId) (tl:List Value) (a:Option Addr) (l:List Nat) (w:World) (hl:l.length=len) (hm:len<=8*m) (hm2:m<=8) (hP:BytesAt w B a cap l) (hB:B<=WB) (hb:aH w WB T (uf 0 m++tl)):
  Calls Tryz.prog 97 #[.slice (some ⟨WB,0,none⟩) m m,.slice a len cap] w fun e w'=>e=.returned (.tuple #[])/\w.grownBy w' (some WB)/\aH w' WB T (uf (num l) m++tl):=by
 subst hl
 rcases hP.cells with h0 |⟨pb,po,rfl,hlt,hc⟩
 .have hz:num l=0:=by unfold num;rw[h0];rfl
  rw[h0,hz]
  refine (Pg WB m cap a w).mono ?_
  rintro e w' ⟨rfl,rfl⟩
  exact⟨rfl,ah _ _,hb⟩
 .exact Pf WB m l.length cap pb po T tl _ w hP.byte hm hm2 (by omega) (Nat.lt_of_lt_of_le hlt hP.lim) hP.fits hc hb
theorem acU (n:Nat):uf n 4=[wV n 0,wV n 1,wV n 2,wV n 3]:=rfl
theorem ZQ (n:Nat):uf n 8=[wV n 0,wV n 1,wV n 2,wV n 3,wV n 4,wV n 5,wV n 6,wV n 7]:=rfl
theorem U0 (j:Nat):wV 0 j=.int .u64 0:=by unfold wV Sc.bg jE;simp
def jK (n:Nat):Value:=.agg #[wV n 0,wV n 1,wV n 2,wV n 3]
set_option maxHeartbeats 1600000 in
theorem qX (len cap B:Nat) (a:Option Addr) (l:List Nat) (w:World) (hl:l.length=len) (hm:len<=32) (hP:BytesAt w B a cap l):
  Calls Tryz.prog 67 #[.slice a len cap] w fun e w'=>e=.returned (jK (num l))/\w.grownBy w' none:=by
 have HP:=Lib.hid hP;clear hP
 have hlen:=Lib.hid hl;clear hl
 go_enter Tryz.func67,Tryz.ntmps67
 go_wp2_with fail
 have hb:aH ((w.alloc (.cells #[.int .u64 0,.int .u64 0,.int .u64 0,.int .u64 0] 99)).alloc (.cells #[.int .u64 0,.int .u64 0,.int .u64 0,.int .u64 0] 99)) (w.heap.size+1) 99 (uf 0 4++[]):=by
  rw[acU,U0,U0,U0,U0]
  exact kQ (w.alloc _) [.int .u64 0,.int .u64 0,.int .u64 0,.int .u64 0] _ (by simp)
 have hr:aH ((w.alloc (.cells #[.int .u64 0,.int .u64 0,.int .u64 0,.int .u64 0] 99)).alloc (.cells #[.int .u64 0,.int .u64 0,.int .u64 0,.int .u64 0] 99)) w.heap.size 99 [.int .u64 0,.int .u64 0,.int .u64 0,.int .u64 0]:=(aH.new w [.int .u64 0,.int .u64 0,.int .u64 0,.int .u64 0] _).alloc _
 have hg:=av (av (ah w none) (.cells #[.int .u64 0,.int .u64 0,.int .u64 0,.int .u64 0] 99)) (.cells #[.int .u64 0,.int .u64 0,.int .u64 0,.int .u64 0] 99)
 revert hb hr hg
 generalize (w.alloc (.cells #[.int .u64 0,.int .u64 0,.int .u64 0,.int .u64 0] 99)).alloc (.cells #[.int .u64 0,.int .u64 0,.int .u64 0,.int .u64 0] 99)=w1
 intro hb hr hg
 refine (Ic (w.heap.size+1) 4 len cap B _ [] a l w1 hlen.out hm (by omega) (HP.out.stay hg) (by have:=HP.out.lim;omega) hb).mono ?_
 rintro e w2 ⟨rfl,hg2,hb2⟩
 have hg3:=aW hg hg2 (by omega)
 have hr2:=hr.grown hg2 (bG (by omega))
 have HG:=Lib.hid hg3;clear hg3 hg2 hg hr hb
 rw[acU]at hb2
 have c0:=hb2.cell (i:=0) rfl
 have c1:=hb2.cell (i:=1) rfl
 have c2:=hb2.cell (i:=2) rfl
 have c3:=hb2.cell (i:=3) rfl
 have r0:=hr2.cell (i:=0) rfl
 have r1:=hr2.cell (i:=1) rfl
 have r2:=hr2.cell (i:=2) rfl
 have r3:=hr2.cell (i:=3) rfl
 have f0:=hr2.free 0
 have f1:=hr2.free 1
 have f2:=hr2.free 2
 have f3:=hr2.free 3
 clear hr2 hb2
 unfold wV jE at c0 c1 c2 c3
 go_wp2
 refine bodyPost_ret (v:=jK (num l)) ?_ rfl ⟨rfl,?_⟩
 .simp[results,Tryz.results67,go_sem,r0,r1,r2,r3,jK,wV,jE]
 .exact aO (aO (aO (aO HG.out (Nat.le_refl _) _) (Nat.le_refl _) _) (Nat.le_refl _) _) (Nat.le_refl _) _
end
section
open Go.RowKit Ow Go.Shelf
attribute [local go_sem] Oper.semAt_some
abbrev PW:={x:Nat×Nat // x.2<18446744073709551616}
def pwE (x:PW):Array Value:=#[.int .i64 (x.1.1:Int),.int .u64 (x.1.2:Int)]
def oJ (N k:Nat):List PW:=(List.range k).map fun p=>⟨(7-p,Sc.bg N (7-p)),Sc.iD _ _⟩
theorem yR (N k:Nat):oJ N (k+1)=oJ N k++[⟨(7-k,Sc.bg N (7-k)),Sc.iD _ _⟩]:=by simp[oJ,List.range_succ]
theorem CG (N k:Nat):(oJ N k).length=k:=by simp[oJ]
def vv (R Bs:Nat) (W W':World):Prop:=(∀j,j<8->W'.cell? ⟨R,j,none⟩=W.cell? ⟨R,j,none⟩)/\W'.cell? ⟨Bs,0,none⟩=W.cell? ⟨Bs,0,none⟩
theorem Ie {R Bs:Nat} {A B C:World} (h:vv R Bs A B) (k:vv R Bs B C):vv R Bs A C:=⟨fun j hj=>(k.1 j hj).trans (h.1 j hj),k.2.trans h.2⟩
theorem SV {R Bs n:Nat} (hR:R<n) (hB:Bs<n) (W:World) (l:Nat) (o o':Obj) (hl:n<=l) (h:W.heap[l]?=some o):vv R Bs W (W.putObj l o'):=by
 have hlt:l<W.heap.size:=(Array.getElem?_eq_some_iff.1 h).1
 exact⟨fun j _=>bf (grownBy_putObj' W l o') (p:=⟨R,j,none⟩) (show R<_ by omega) (bG (by show R≠l;omega)),bf (grownBy_putObj' W l o') (p:=⟨Bs,0,none⟩) (show Bs<_ by omega) (bG (by show Bs≠l;omega))⟩
set_option maxHeartbeats 1000000 in
theorem Ig (F:Fence) (n:Nat) (hf:F.fn 98) (hro:F.round=none) (a:Option Addr) (len cap:Nat) (w:World):
  CallsIn F n Tryz.prog 98 #[.slice a len cap] w fun e w'=>e=.returned (.func (.func 121) #[] #[.pointer (some ⟨w.heap.size,0,none⟩)])/\w'=w.alloc (.cells #[.slice a len cap] 128):=by
 refine callsIn_of_wp Tryz.func98 rfl hf ?_ hro
 simp only[Tryz.ntmps98,List.size_toArray,List.length_cons,List.length_nil,Nat.reduceAdd,Nat.reduceSub,Array.replicate_succ,Array.replicate_zero,List.push_toArray,List.append_toArray,List.nil_append,List.cons_append]
 gi_wp2
 go_ret
 exact⟨rfl,rfl⟩
set_option maxRecDepth 100000 in
set_option maxHeartbeats 2000000 in
theorem ER (F:Fence) (n:Nat) (hf:F.fn 121) (hro:F.round=none) (hn:1<=n) (l Bs R N:Nat) (J Jx:List PW->World->Prop)
  (hY:∀pre x W,J pre W->pre.length<8->YieldAt F (n-1) Tryz.prog l (pwE x) W fun e W'=>
   (e=.returned (.bool true)/\J (pre++[x]) W'/\vv R Bs W W')\/(e=.returned (.bool false)/\Jx (pre++[x]) W'))
  (W:World) (vM:W.cell? ⟨Bs,0,none⟩=some (.slice (some ⟨R,0,none⟩) 8 8)) (hc:∀j,j<8->W.cell? ⟨R,j,none⟩=some (.int .u64 (Sc.bg N j:Int))) (h0:J [] W):
  CallsIn F n Tryz.prog 121 #[.func (.yield l) #[] #[],.pointer (some ⟨Bs,0,none⟩)] W fun e W'=>(∃v,e=.returned v)/\
   ((∃ys,ys=oJ N 8/\J ys W')\/(∃pre,True/\Jx pre W')):=by
 refine callsIn_of_wp Tryz.func121 rfl hf ?_ hro
 simp only[Tryz.ntmps121,List.size_toArray,List.length_cons,List.length_nil,Nat.reduceAdd,Nat.reduceSub,Array.replicate_succ,Array.replicate_zero,List.push_toArray,List.append_toArray,List.nil_append,List.cons_append]
 gi_wp2
 gi_loopw [3] (fun i wr=>((∃m:Nat,m<8/\i=.int .i64 m/\J (oJ N (7-m)) wr)\/(i=.int .i64 (-1)/\J (oJ N 8) wr))/\vv R Bs W wr)
  (fun i _=>(intOf i+1).toNat)
 case atStart=>exact⟨Or.inl ⟨7,by omega,rfl,h0⟩,⟨fun _ _=>rfl,rfl⟩⟩
 case round=>
  obtain⟨⟨m,hm,rfl,hJs⟩ |⟨rfl,hJs⟩,hnx⟩:=hrel
  .have hb1:wr.cell? ⟨Bs,0,none⟩=some (.slice (some ⟨R,0,none⟩) 8 8):=hnx.2.trans vM
   have hcx:wr.cell? ⟨R,m,none⟩=some (.int .u64 (Sc.bg N m:Int)):=(hnx.1 m hm).trans (hc m hm)
   obtain⟨fn,tmps,assign,body,hy,hR⟩:=hY _ ⟨(m,Sc.bg N m),Sc.iD _ _⟩ wr hJs (by rw[CG];omega)
   unfold pwE at hy
   dsimp only at hy
   gi_wp2
   refine hR.mono ?_
   rintro e W3 (⟨rfl,hJ3,hk3⟩ |⟨rfl,hJx3⟩)
   .have hJ4:J (oJ N (7-m+1)) W3:=by
     rw[yR]
     have e7:7-(7-m)=m:=by omega
     simp only[e7]
     exact hJ3
    gi_wp2
    go_roundw
    case rel=>
     refine⟨?_,Ie hnx hk3⟩
     rcases Nat.eq_zero_or_pos m with h|h
     .subst h;exact Or.inr ⟨rfl,hJ4⟩
     .obtain⟨d,rfl⟩:∃d,m=d+1:=⟨m-1,by omega⟩
      have e:7-(d+1)+1=7-d:=by omega
      rw[e]at hJ4
      exact Or.inl ⟨d,by omega,by go_num,hJ4⟩
    case measure=>simp[intOf]
   .gi_wp2
    refine bodyPost_ret (results_none rfl _ _ _) rfl ?_
    exact⟨⟨_,rfl⟩,.inr ⟨_,trivial,hJx3⟩⟩
  .gi_wp2
   go_end0
   exact⟨⟨_,rfl⟩,.inl ⟨_,rfl,hJs⟩⟩
theorem Bl (F:Fence) (n:Nat) (hf:F.fn 121) (hro:F.round=none) (hn:1<=n) (Bs R N:Nat) (w:World) (vM:Bs<w.heap.size) (hR:R<w.heap.size)
  (hb:w.cell? ⟨Bs,0,none⟩=some (.slice (some ⟨R,0,none⟩) 8 8)) (hc:∀j,j<8->w.cell? ⟨R,j,none⟩=some (.int .u64 (Sc.bg N j:Int))):
  SeqStopsK F n Tryz.prog 121 #[.pointer (some ⟨Bs,0,none⟩)] pwE (vv R Bs) (fun ys=>ys=oJ N 8) (fun _=>True) 8 w:=fun l J Jx W hW _ _ hY h0=>
 ER F n hf hro hn l Bs R N J Jx hY W ((hW.cell (p:=⟨Bs,0,none⟩) vM).trans hb) (fun j hj=>(hW.cell (p:=⟨R,j,none⟩) hR).trans (hc j hj)) h0
def Nb (g:Nat->Nat->Nat) (pre:List PW):Nat:=pre.foldl (fun r x=>g r x.1.2) 0
theorem KX (g:Nat->Nat->Nat) (pre:List PW) (x:PW):Nb g (pre++[x])=g (Nb g pre) x.1.2:=by
 unfold Nb
 rw[List.foldl_append]
 rfl
abbrev fold (pre:List PW):Nat:=Nb Sc.yP pre
theorem DR (pre:List PW) (x:PW):fold (pre++[x])=Sc.yP (fold pre) x.1.2:=KX Sc.yP pre x
theorem Ph (N k:Nat) (hN:N/2^(64*8)=0) (hk:k<=8):fold (oJ N k)=N/2^(64*(8-k))%Sc.L:=by
 induction k with
 | zero=>rw[show 8-0=8 from rfl,hN,Nat.zero_mod];rfl
 | succ k ih=>
  rw[yR,DR,ih (by omega)]
  have h:=Sc.rest_step N (7-k)
  rw[show 7-k+1=8-k by omega]at h
  rw[show 8-(k+1)=7-k by omega]
  exact h
theorem kX {w w':World} {B:Nat} {T:TypeId} {L:List Value} {row:Option Nat} {n:Nat} (h:aH w B T L) (hg:w.grownBy w' row) (hr:∀r,row=some r->n<=r/\∃o:Obj,w.heap[r]?=some o/\o.isCells=false):aH w' B T L:=by
 refine h.grown hg ?_
 intro e
 obtain⟨_,o,ho,hc⟩:=hr B e.symm
 unfold aH at h
 rw[h]at ho
 cases ho
 simp[Obj.isCells]at hc
theorem ES {a b c:World} {row row':Option Nat} (h:a.grownBy b row) (k:b.grownBy c row') (hr:∀r,row'=some r->a.heap.size<=r):a.grownBy c row:=by
 cases row' with
 | none=>exact aj h (dB k _)
 | some r=>exact aW h k (hr r rfl)
structure ZR (w:World) (R N:Nat) (T:TypeId) (pre:List PW) (W:World):Prop where
 rest:aH W R T (nH (uf N 8) (fold pre))
 tab:oI W
 box:aH W w.heap.size 132 [.pointer (some ⟨R,0,none⟩)]
 res:aH W (w.heap.size+1) 99 [.int .u64 0,.int .u64 0,.int .u64 0,.int .u64 0]
 grown:w.grownBy W (some R)
 size:w.heap.size+3<=W.heap.size
theorem SX (w:World) (R N:Nat) (T:TypeId) (n:Nat) (hn:w.heap.size<=n) (ht:5<w.heap.size):OwnFrom n (ZR w R N T):=fun s A B row h hg hr=>
 ⟨kX h.rest hg hr,h.tab.kept hg (fun r e=>by have:=(hr r e).1;omega),kX h.box hg hr,kX h.res hg hr,ES h.grown hg (fun r e=>by have:=(hr r e).1;omega),Nat.le_trans h.size hg.size⟩
theorem SY (X:List Value) (hX:X.length=8) (a b c d:Value):((((X++[a,b,c,d]).set 8 (.int .u64 0)).set 9 (.int .u64 0)).set 10 (.int .u64 0)).set 11 (.int .u64 0)=nH X 0:=by
 unfold nH
 rw[U0,U0,U0,U0,List.set_append_right _ _ (by omega),List.set_append_right _ _ (by omega),List.set_append_right _ _ (by omega),List.set_append_right _ _ (by omega),hX]
 rfl
set_option maxRecDepth 100000 in
set_option maxHeartbeats 2000000 in
theorem vw (R N:Nat) (T:TypeId) (a b c d:Value) (w:World) (hN:N/2^(64*8)=0) (hT:oI w) (hR:5<R) (hb:aH w R T (uf N 8++[a,b,c,d])):
  Calls Tryz.prog 68 #[.pointer (some ⟨R,0,none⟩)] w fun e w'=>e=.returned (jK (N%Sc.L))/\w.grownBy w' (some R)/\aH w' R T (nH (uf N 8) (N%Sc.L)):=by
 have hRl:=hb.lt
 have k0:=hb.cell (i:=8) rfl
 have k1:=hb.cell (i:=9) rfl
 have k2:=hb.cell (i:=10) rfl
 have k3:=hb.cell (i:=11) rfl
 have f0:=hb.free 8
 have f1:=hb.free 9
 have f2:=hb.free 10
 have f3:=hb.free 11
 have HB:=Lib.hid hb;clear hb
 have HT:=Lib.hid hT;clear hT
 have HN:=Lib.hid hN;clear hN
 refine (callsIn_wide (n:=9)).1 ?_
 refine callsIn_of_wp_marks Tryz.func68 rfl trivial ?_ rfl
 simp only[Tryz.ntmps68,List.size_toArray,List.length_cons,List.length_nil,Nat.reduceAdd,Nat.reduceSub,Array.replicate_succ,Array.replicate_zero,List.push_toArray,List.append_toArray,List.nil_append,List.cons_append]
 gi_wp2_with fail
 refine⟨trivial,?_⟩
 have hb1:=((((HB.out.set 8 (.int .u64 0)).set 9 (.int .u64 0)).set 10 (.int .u64 0)).set 11 (.int .u64 0))
 have hg1:=aJ (aJ (aJ (aJ (ah w (some R)) 8 (.int .u64 0)) 9 (.int .u64 0)) 10 (.int .u64 0)) 11 (.int .u64 0)
 rw[SY (uf N 8) rfl a b c d]at hb1
 have hs1:((((w.setCell ⟨R,8,none⟩ (.int .u64 0)).setCell ⟨R,9,none⟩ (.int .u64 0)).setCell ⟨R,10,none⟩ (.int .u64 0)).setCell ⟨R,11,none⟩ (.int .u64 0)).heap.size=w.heap.size:=by simp[World.setCell]
 clear k0 k1 k2 k3 f0 f1 f2 f3 HB
 revert hb1 hg1 hs1
 generalize (((w.setCell ⟨R,8,none⟩ (.int .u64 0)).setCell ⟨R,9,none⟩ (.int .u64 0)).setCell ⟨R,10,none⟩ (.int .u64 0)).setCell ⟨R,11,none⟩ (.int .u64 0)=w1
 intro hb1 hg1 hs1
 have hX:=kQ w1 (B:=w.heap.size) [.pointer (some ⟨R,0,none⟩)] 132 hs1
 have hY:=kQ (w1.alloc (.cells #[.pointer (some ⟨R,0,none⟩)] 132)) (B:=w.heap.size+1) [.int .u64 0,.int .u64 0,.int .u64 0,.int .u64 0] 99 (by simp[hs1])
 have hX2:=hX.alloc (.cells #[.int .u64 0,.int .u64 0,.int .u64 0,.int .u64 0] 99)
 have hb2:=(hb1.alloc (.cells #[.pointer (some ⟨R,0,none⟩)] 132)).alloc (.cells #[.int .u64 0,.int .u64 0,.int .u64 0,.int .u64 0] 99)
 have hg2:=av (av hg1 (.cells #[.pointer (some ⟨R,0,none⟩)] 132)) (.cells #[.int .u64 0,.int .u64 0,.int .u64 0,.int .u64 0] 99)
 have hs2:((w1.alloc (.cells #[.pointer (some ⟨R,0,none⟩)] 132)).alloc (.cells #[.int .u64 0,.int .u64 0,.int .u64 0,.int .u64 0] 99)).heap.size=w.heap.size+2:=by simp[hs1]
 clear hX hb1 hg1 hs1
 revert hX2 hY hb2 hg2 hs2
 generalize (w1.alloc (.cells #[.pointer (some ⟨R,0,none⟩)] 132)).alloc (.cells #[.int .u64 0,.int .u64 0,.int .u64 0,.int .u64 0] 99)=w2
 intro hY hX2 hb2 hg2 hs2
 refine (Ig Fence.wide 8 trivial rfl _ _ _ _).mono ?_
 rintro e w3 ⟨rfl,hw3⟩
 have hI:ZR w R N T [] w3:=by
  subst hw3
  exact⟨hb2.alloc _,HT.out.kept (av hg2 _) (fun r e=>by cases e;exact hR),hX2.alloc _,hY.alloc _,av hg2 _,by simp[hs2]⟩
 have vM:aH w3 (w.heap.size+2) 128 [.slice (some ⟨R,0,none⟩) 8 8]:=by
  subst hw3
  exact kQ w2 [.slice (some ⟨R,0,none⟩) 8 8] _ hs2
 have hs3:w3.heap.size=w.heap.size+3:=by subst hw3;simp[hs2]
 rw[hs2]
 clear hw3 hX2 hY hb2 hg2 hs2
 have HI:=Lib.hid hI;clear hI
 gi_wp2_with fail
 have hRN:∀j,j<8->w3.cell? ⟨R,j,none⟩=some (.int .u64 (Sc.bg N j:Int)):=fun j hj=>HI.out.rest.cell (ug N 8 j hj _)
 have hO:5<w.heap.size:=by omega
 refine wpIn_rangeFunc_ownG (F:=Fence.wide) (n:=9) rfl (by decide) (gf:=121) (lb:=#[.pointer (some ⟨w.heap.size+2,0,none⟩)]) rfl trivial (enters_of Tryz.func121 (by kernel_rfl) rfl)
  (w0:=w3) (Bl Fence.wide 8 trivial rfl (by decide) (w.heap.size+2) R N w3 (by omega) (by omega) (vM.cell (i:=0) rfl) hRN)
  (fun h k=>Ie h k) (fun W l o o' hl h _ _=>SV (n:=w3.heap.size) (by omega) (by omega) W l o o' hl h) (Below.refl _ _) (fun _=>rfl)
  (ZR w R N T) (fun _ _ _=>False) (SX w R N T _ (by omega) hO) (fun _ _ _ _ _ h _ _=>h) HI.out
  (fun x=>{tmps:=#[.pointer (some ⟨R,0,none⟩),.pointer (some ⟨w.heap.size,0,none⟩),.pointer (some ⟨w.heap.size+1,0,none⟩),undef,.int .u64 (x.1.2:Int),.pointer (some ⟨R,0,none⟩),.agg #[.int .u64 0,.int .u64 0,.int .u64 0,.int .u64 0],.pointer (some ⟨R,0,none⟩),.pointer (some ⟨R,8,none⟩),.pointer (some ⟨R,0,none⟩),.pointer (some ⟨R,0,none⟩),.pointer (some ⟨R,0,none⟩),.slice (some ⟨R,0,none⟩) 8 8,.func (.func 121) #[] #[.pointer (some ⟨w.heap.size+2,0,none⟩)],.int .i64 (x.1.1:Int),.int .u64 (x.1.2:Int),undef,undef,undef,undef,undef,undef,undef],defers:=[]}) ?assign ?body ?done ?stop
 case assign=>
  intro l x W K hK
  unfold pwE
  gi_wp2
  exact hK
 case body=>
  rintro l pre x W hI _
  have CJ:=hI.box.cell (i:=0) rfl
  have hgW:=hI.grown
  have HJ:=Lib.hid hI;clear hI
  gi_wp2_with (refine⟨trivial,?_⟩;gi_at_call 99;refine (CallsIn.inRound l (callsIn_wide.2 (CF R (fold pre) x.1.2 T (uf N 8) W rfl x.2 HJ.out.tab hR HJ.out.rest))).mono ?_;rintro e W' ⟨rfl,hg',hb'⟩)
  rw[<- DR]at hb'
  refine⟨KeepsFrom.of_grownBy hg' (fun j e=>by cases e;omega),⟨fun j hj=>?_,?_⟩,?_⟩
  .rw[hb'.cell (ug N 8 j hj _),HJ.out.rest.cell (ug N 8 j hj _)]
  .exact bf hg' (p:=⟨w.heap.size+2,0,none⟩) (show w.heap.size+2<W.heap.size by have:=HJ.out.size;omega) (bG (by show w.heap.size+2≠R;omega))
  .exact⟨hb',HJ.out.tab.kept hg' (fun r e=>by cases e;exact hR),HJ.out.box.grown hg' (bG (by omega)),HJ.out.res.grown hg' (bG (by omega)),aj HJ.out.grown hg',Nat.le_trans HJ.out.size hg'.size⟩
 case done=>
  rintro D ys W hD rfl hI hK
  have hf:=Ph N 8 HN.out (Nat.le_refl _)
  rw[show 64*(8-8)=0 from rfl,Nat.pow_zero,Nat.div_one]at hf
  have hrest:=hI.rest
  rw[hf]at hrest
  have hres:=hI.res
  have CJ:=hI.box.cell (i:=0) rfl
  obtain⟨q0,q1,q2,q3⟩:=Ib (uf N 8) rfl (N%Sc.L)
  have k0:=hrest.cell q0
  have k1:=hrest.cell q1
  have k2:=hrest.cell q2
  have k3:=hrest.cell q3
  have r0:=hres.cell (i:=0) rfl
  have r1:=hres.cell (i:=1) rfl
  have r2:=hres.cell (i:=2) rfl
  have r3:=hres.cell (i:=3) rfl
  have f0:=hres.free 0
  have f1:=hres.free 1
  have f2:=hres.free 2
  have f3:=hres.free 3
  unfold wV jE at k0 k1 k2 k3
  have HRe:=Lib.hid hrest;clear hrest hres q0 q1 q2 q3 hf
  have HJ:=Lib.hid hI;clear hI
  gi_wp2
  have Qs:=(((((HJ.out.res.set 0 (.int .u64 (Sc.bg (N%Sc.L) 0:Int))).set 1 (.int .u64 (Sc.bg (N%Sc.L) 1:Int))).set 2 (.int .u64 (Sc.bg (N%Sc.L) 2:Int))).set 3 (.int .u64 (Sc.bg (N%Sc.L) 3:Int))))
  have hB4:=(((HRe.out.other (a:=⟨w.heap.size+1,0,none⟩) (by show w.heap.size+1≠R;omega) (.int .u64 (Sc.bg (N%Sc.L) 0:Int))).other (a:=⟨w.heap.size+1,1,none⟩) (by show w.heap.size+1≠R;omega) (.int .u64 (Sc.bg (N%Sc.L) 1:Int))).other (a:=⟨w.heap.size+1,2,none⟩) (by show w.heap.size+1≠R;omega) (.int .u64 (Sc.bg (N%Sc.L) 2:Int))).other (a:=⟨w.heap.size+1,3,none⟩) (by show w.heap.size+1≠R;omega) (.int .u64 (Sc.bg (N%Sc.L) 3:Int))
  have hg4:=aO (aO (aO (aO HJ.out.grown (p:=⟨w.heap.size+1,0,none⟩) (Nat.le_succ _) (.int .u64 (Sc.bg (N%Sc.L) 0:Int))) (p:=⟨w.heap.size+1,1,none⟩) (Nat.le_succ _) (.int .u64 (Sc.bg (N%Sc.L) 1:Int))) (p:=⟨w.heap.size+1,2,none⟩) (Nat.le_succ _) (.int .u64 (Sc.bg (N%Sc.L) 2:Int))) (p:=⟨w.heap.size+1,3,none⟩) (Nat.le_succ _) (.int .u64 (Sc.bg (N%Sc.L) 3:Int))
  have hK4:=(((KeepsOthers.setCell W ⟨w.heap.size+1,0,none⟩ (.int .u64 (Sc.bg (N%Sc.L) 0:Int))).trans (KeepsOthers.setCell _ ⟨w.heap.size+1,1,none⟩ (.int .u64 (Sc.bg (N%Sc.L) 1:Int)))).trans (KeepsOthers.setCell _ ⟨w.heap.size+1,2,none⟩ (.int .u64 (Sc.bg (N%Sc.L) 2:Int)))).trans (KeepsOthers.setCell _ ⟨w.heap.size+1,3,none⟩ (.int .u64 (Sc.bg (N%Sc.L) 3:Int)))
  have hK5:=hK4.same D _ hK rfl
  clear hK4 r0 r1 r2 r3 f0 f1 f2 f3 k0 k1 k2 k3 CJ hK HRe HI
  have hs4:w3.heap.size<=D:=hD
  revert Qs hB4 hg4 hK5
  generalize (((W.setCell ⟨w.heap.size+1,0,none⟩ (.int .u64 (Sc.bg (N%Sc.L) 0:Int))).setCell ⟨w.heap.size+1,1,none⟩ (.int .u64 (Sc.bg (N%Sc.L) 1:Int))).setCell ⟨w.heap.size+1,2,none⟩ (.int .u64 (Sc.bg (N%Sc.L) 2:Int))).setCell ⟨w.heap.size+1,3,none⟩ (.int .u64 (Sc.bg (N%Sc.L) 3:Int))=W4
  intro Qs hB4 hg4 hK5
  have hp:=grownBy_putObj' W4 D (.deferred none)
  have JK:=Qs.grown hp (bG (by omega))
  have hB5:=hB4.grown hp (bG (by omega))
  have hg5:=aW hg4 hp (by omega)
  have r0:=JK.cell (i:=0) rfl
  have r1:=JK.cell (i:=1) rfl
  have r2:=JK.cell (i:=2) rfl
  have r3:=JK.cell (i:=3) rfl
  refine⟨by simp,.inl ⟨_,_,rfl,run_takeDeferred hK5,?_⟩⟩
  refine⟨jK (N%Sc.L),?_,rfl,hg5,hB5⟩
  simp[results,Tryz.results68,go_sem,r0,r1,r2,r3,jK,wV,jE]
 case stop=>
  rintro D c pre W _ _ h _
  exact h.elim
end
section
open Go.RowKit Ed
set_option maxRecDepth 100000 in
set_option maxHeartbeats 3200000 in
theorem Bo (S:Nat) (s:Sm) (a u b v:Fe) (w0:World) (hS:aH w0 S 159 (lF s)) (oka:a.Ok) (oku:u.Ok) (okb:b.Ok) (okv:v.Ok):
  Calls Tryz.prog 139 #[.pointer (some ⟨S,0,none⟩),a.v,u.v,b.v,v.v] w0 fun e w'=>e=.returned (.tuple #[])/\w0.grownBy w' (some S)/\aH w' S 159 (lF (bF s.T a u b v)):=by
 show Calls Tryz.prog 139 #[.pointer (some ⟨S,0,none⟩),.agg (aR a).toArray,.agg (aR u).toArray,.agg (aR b).toArray,.agg (aR v).toArray] w0 _
 go_enter Tryz.func139,Tryz.ntmps139
 go_upto_region 1 with (fail)
 have hlt:=hS.lt
 have G:w0.grownBy ((((w0.alloc (.cells (aR a).toArray 54)).alloc (.cells (aR u).toArray 54)).alloc (.cells (aR b).toArray 54)).alloc (.cells (aR v).toArray 54)) (some S):=av (av (av (av (ah _ _) _) _) _) _
 have ha:aH ((((w0.alloc (.cells (aR a).toArray 54)).alloc (.cells (aR u).toArray 54)).alloc (.cells (aR b).toArray 54)).alloc (.cells (aR v).toArray 54)) (w0.heap.size) 54 (aR a):=(((aH.new w0 (aR a) _).alloc _).alloc _).alloc _
 have hu:aH ((((w0.alloc (.cells (aR a).toArray 54)).alloc (.cells (aR u).toArray 54)).alloc (.cells (aR b).toArray 54)).alloc (.cells (aR v).toArray 54)) (w0.heap.size+1) 54 (aR u):=((aH.newAt (w0.alloc _) (aR u) _ (by simp)).alloc _).alloc _
 have hb:aH ((((w0.alloc (.cells (aR a).toArray 54)).alloc (.cells (aR u).toArray 54)).alloc (.cells (aR b).toArray 54)).alloc (.cells (aR v).toArray 54)) (w0.heap.size+1+1) 54 (aR b):=(aH.newAt ((w0.alloc _).alloc _) (aR b) _ (by simp)).alloc _
 have hv:aH ((((w0.alloc (.cells (aR a).toArray 54)).alloc (.cells (aR u).toArray 54)).alloc (.cells (aR b).toArray 54)).alloc (.cells (aR v).toArray 54)) (w0.heap.size+1+1+1) 54 (aR v):=aH.newAt (((w0.alloc _).alloc _).alloc _) (aR v) _ (by simp)
 replace hS:aH ((((w0.alloc (.cells (aR a).toArray 54)).alloc (.cells (aR u).toArray 54)).alloc (.cells (aR b).toArray 54)).alloc (.cells (aR v).toArray 54)) S 159 (lF s):=(((hS.alloc _).alloc _).alloc _).alloc _
 revert G ha hu hb hv hS
 generalize (((w0.alloc (.cells (aR a).toArray 54)).alloc (.cells (aR u).toArray 54)).alloc (.cells (aR b).toArray 54)).alloc (.cells (aR v).toArray 54)=W0
 intro G ha hu hb hv hS
 have lI:=G.size
 have amh:=ha.lt
 have ami:=hu.lt
 have amj:=hb.lt
 have amk:=hv.lt
 have Wx:=hS.lt
 refine Fg.rP [] [.any,.any,.any,.any,.any,.any,.any,.any,.any,.any,.val (Value.pointer (some ⟨S,0,none⟩)),.val (a.v),.val (v.v),.val ((Fe.aM a v).v),.val (Value.pointer (some ⟨S,0,none⟩)),.val (Value.pointer (some ⟨S,0,none⟩)),.val (Value.pointer (some ⟨S,0,none⟩))] 7 ?_ ?_
 .refine Fg.vS rfl (by decide) (fun _ _ h=>Fg.vn _ (Fg.run_move rfl (h.r 0))) ?_
  refine Fg.vS rfl (by decide) (fun _ _ h=>Fg.vn a.v (Fg.run_load rfl (h.r 6) ((ha.gn h.base).range 0 (aR a) rfl) Tryz.underlying54 rfl aD)) ?_
  refine Fg.vS rfl (by decide) (fun _ _ h=>Fg.vn v.v (Fg.run_load rfl (h.r 9) ((hv.gn h.base).range 0 (aR v) rfl) Tryz.underlying54 rfl aD)) ?_
  refine Fg.cS rfl (by decide) (fun _ w h=>Fg.cq rfl (jk oka okv) ⟨h.d 11,h.d 12,trivial⟩ Tryz.func74) ?_
  refine Fg.vS rfl (by decide) (fun _ _ h=>Fg.vn _ (Fg.bU rfl (h.d 10))) ?_
  refine Fg.vS rfl (by decide) (fun _ _ h=>Fg.vn _ (Fg.aF rfl (h.d 14) (jm _ _ _))) ?_
  refine Fg.vS rfl (by decide) (fun _ _ h=>Fg.vn _ (Fg.aF rfl (h.d 15) (fu _ _ _))) ?_
  trivial
 .intro qa V1 g1 hsz hdf hrest aC hpt
  obtain⟨⟨u10,fM⟩,⟨u11,d9⟩,⟨u12,fJ⟩,_⟩:=Fg.bn qa [10,11,12]
  obtain⟨x1,hx1⟩:∃x:Fe,x=Fe.aM a v:=⟨_,rfl⟩
  obtain⟨u14,dw⟩:=Fg.bL qa 14
  obtain⟨u15,dM⟩:=Fg.bL qa 15
  obtain rfl:=Fg.aQ [10,11,12,13,14,15,16] (vs:=[_,_,_,_,_,_,_,_,_,_,u10,u11,u12,x1.v,u14,u15,Value.pointer (some ⟨S,0,none⟩),_,_,_,_,_,_,_,_,_,_,_,_,_,_,_,_,_,_,_,_,_,_]) hsz hrest (by kernel_rfl) rfl rfl ⟨fM,d9,fJ,(show qa.tmps.getD 13 undef=x1.v by rw[hx1];exact aC 13 (by kernel_rfl)),dw,dM,(show qa.tmps.getD 16 undef=Value.pointer (some ⟨S,0,none⟩) from aC 16 (by kernel_rfl)),trivial⟩ hdf
  clear hsz hdf hrest aC hpt fM d9 fJ dw dM
  have mZ:=Lib.hid hx1;clear hx1
  replace ha:=ha.gn g1
  replace hu:=hu.gn g1
  replace hb:=hb.gn g1
  replace hv:=hv.gn g1
  replace hS:=hS.gn g1
  replace G:=aj G (dB g1 _)
  have mH:x1.Ok:=by rw[mZ.out];exact (Fe.mul_right _ _).ok
  clear g1
  refine Fg.aV rfl rfl (Fg.run_store (cs:=aR x1) rfl rfl rfl (hS.there 0 5 (by show 0+5<=30;decide)) aD (cB _)) ?_
  replace ha:=ha.au (C:=S) (cs:=aR x1) 0 (by omega)
  replace hu:=hu.au (C:=S) (cs:=aR x1) 0 (by omega)
  replace hb:=hb.au (C:=S) (cs:=aR x1) 0 (by omega)
  replace hv:=hv.au (C:=S) (cs:=aR x1) 0 (by omega)
  replace hS:aH (V1.setCells S 0 (aR x1)) S 159 (lF ((Sm.mk x1 s.Y s.Z s.T s.A s.B))):=hS.setCells 0
  replace G:=aK (cs:=aR x1) G 0
  revert ha hu hb hv hS G
  generalize V1.setCells S 0 (aR x1)=W2
  intro ha hu hb hv hS G
  go_upto_region 2 with (fail)
  have vO:=G.size
  have aml:=ha.lt
  have amm:=hu.lt
  have amn:=hb.lt
  have amo:=hv.lt
  have Wy:=hS.lt
  refine Fg.rP [] [.any,.any,.any,.any,.any,.any,.any,.any,.any,.any,.any,.any,.any,.any,.any,.any,.any,.val (Value.pointer (some ⟨S,0,none⟩)),.val (b.v),.val (u.v),.val ((Fe.aM b u).v),.val (Value.pointer (some ⟨S,0,none⟩)),.val (Value.pointer (some ⟨S,0,none⟩)),.val (Value.pointer (some ⟨S,5,none⟩))] 7 ?_ ?_
  .refine Fg.vS rfl (by decide) (fun _ _ h=>Fg.vn _ (Fg.run_move rfl (h.r 0))) ?_
   refine Fg.vS rfl (by decide) (fun _ _ h=>Fg.vn b.v (Fg.run_load rfl (h.r 8) ((hb.gn h.base).range 0 (aR b) rfl) Tryz.underlying54 rfl aD)) ?_
   refine Fg.vS rfl (by decide) (fun _ _ h=>Fg.vn u.v (Fg.run_load rfl (h.r 7) ((hu.gn h.base).range 0 (aR u) rfl) Tryz.underlying54 rfl aD)) ?_
   refine Fg.cS rfl (by decide) (fun _ w h=>Fg.cq rfl (jk okb oku) ⟨h.d 18,h.d 19,trivial⟩ Tryz.func74) ?_
   refine Fg.vS rfl (by decide) (fun _ _ h=>Fg.vn _ (Fg.bU rfl (h.d 17))) ?_
   refine Fg.vS rfl (by decide) (fun _ _ h=>Fg.vn _ (Fg.aF rfl (h.d 21) (jm _ _ _))) ?_
   refine Fg.vS rfl (by decide) (fun _ _ h=>Fg.vn _ (Fg.aF rfl (h.d 22) (iy _ _ _))) ?_
   trivial
  .intro qa V3 g3 hsz hdf hrest aC hpt
   obtain⟨⟨u17,eD⟩,⟨u18,eF⟩,⟨u19,eG⟩,_⟩:=Fg.bn qa [17,18,19]
   obtain⟨x2,hx2⟩:∃x:Fe,x=Fe.aM b u:=⟨_,rfl⟩
   obtain⟨u21,eP⟩:=Fg.bL qa 21
   obtain⟨u22,eT⟩:=Fg.bL qa 22
   obtain rfl:=Fg.aQ [17,18,19,20,21,22,23] (vs:=[_,_,_,_,_,_,_,_,_,_,_,_,_,_,_,_,_,u17,u18,u19,x2.v,u21,u22,Value.pointer (some ⟨S,5,none⟩),_,_,_,_,_,_,_,_,_,_,_,_,_,_,_]) hsz hrest (by kernel_rfl) rfl rfl ⟨eD,eF,eG,(show qa.tmps.getD 20 undef=x2.v by rw[hx2];exact aC 20 (by kernel_rfl)),eP,eT,(show qa.tmps.getD 23 undef=Value.pointer (some ⟨S,5,none⟩) from aC 23 (by kernel_rfl)),trivial⟩ hdf
   clear hsz hdf hrest aC hpt eD eF eG eP eT
   have FE:=Lib.hid hx2;clear hx2
   replace ha:=ha.gn g3
   replace hu:=hu.gn g3
   replace hb:=hb.gn g3
   replace hv:=hv.gn g3
   replace hS:=hS.gn g3
   replace G:=aj G (dB g3 _)
   have KY:x2.Ok:=by rw[FE.out];exact (Fe.mul_right _ _).ok
   clear g3
   refine Fg.aV rfl rfl (Fg.run_store (cs:=aR x2) rfl rfl rfl (hS.there 5 5 (by show 5+5<=30;decide)) aD (cB _)) ?_
   replace ha:=ha.au (C:=S) (cs:=aR x2) 5 (by omega)
   replace hu:=hu.au (C:=S) (cs:=aR x2) 5 (by omega)
   replace hb:=hb.au (C:=S) (cs:=aR x2) 5 (by omega)
   replace hv:=hv.au (C:=S) (cs:=aR x2) 5 (by omega)
   replace hS:aH (V3.setCells S 5 (aR x2)) S 159 (lF ((Sm.mk x1 x2 s.Z s.T s.A s.B))):=hS.setCells 5
   replace G:=aK (cs:=aR x2) G 5
   revert ha hu hb hv hS G
   generalize V3.setCells S 5 (aR x2)=W4
   intro ha hu hb hv hS G
   go_upto_region 3 with (fail)
   have O1:=G.size
   have amq:=ha.lt
   have amr:=hu.lt
   have ams:=hb.lt
   have amt:=hv.lt
   have ZT:=hS.lt
   refine Fg.rP [] [.any,.any,.any,.any,.any,.any,.any,.any,.any,.any,.any,.any,.any,.any,.any,.any,.any,.any,.any,.any,.any,.any,.any,.any,.val (Value.pointer (some ⟨S,0,none⟩)),.val (u.v),.val (v.v),.val ((Fe.aM u v).v),.val (Value.pointer (some ⟨S,0,none⟩)),.val (Value.pointer (some ⟨S,0,none⟩)),.val (Value.pointer (some ⟨S,10,none⟩))] 7 ?_ ?_
   .refine Fg.vS rfl (by decide) (fun _ _ h=>Fg.vn _ (Fg.run_move rfl (h.r 0))) ?_
    refine Fg.vS rfl (by decide) (fun _ _ h=>Fg.vn u.v (Fg.run_load rfl (h.r 7) ((hu.gn h.base).range 0 (aR u) rfl) Tryz.underlying54 rfl aD)) ?_
    refine Fg.vS rfl (by decide) (fun _ _ h=>Fg.vn v.v (Fg.run_load rfl (h.r 9) ((hv.gn h.base).range 0 (aR v) rfl) Tryz.underlying54 rfl aD)) ?_
    refine Fg.cS rfl (by decide) (fun _ w h=>Fg.cq rfl (jk oku okv) ⟨h.d 25,h.d 26,trivial⟩ Tryz.func74) ?_
    refine Fg.vS rfl (by decide) (fun _ _ h=>Fg.vn _ (Fg.bU rfl (h.d 24))) ?_
    refine Fg.vS rfl (by decide) (fun _ _ h=>Fg.vn _ (Fg.aF rfl (h.d 28) (jm _ _ _))) ?_
    refine Fg.vS rfl (by decide) (fun _ _ h=>Fg.vn _ (Fg.aF rfl (h.d 29) (fA _ _ _))) ?_
    trivial
   .intro qa V5 g5 hsz hdf hrest aC hpt
    obtain⟨⟨u24,dO⟩,⟨u25,eH⟩,⟨u26,eO⟩,_⟩:=Fg.bn qa [24,25,26]
    obtain⟨x3,hx3⟩:∃x:Fe,x=Fe.aM u v:=⟨_,rfl⟩
    obtain⟨u28,jd⟩:=Fg.bL qa 28
    obtain⟨u29,kD⟩:=Fg.bL qa 29
    obtain rfl:=Fg.aQ [24,25,26,27,28,29,30] (vs:=[_,_,_,_,_,_,_,_,_,_,_,_,_,_,_,_,_,_,_,_,_,_,_,_,u24,u25,u26,x3.v,u28,u29,Value.pointer (some ⟨S,10,none⟩),_,_,_,_,_,_,_,_]) hsz hrest (by kernel_rfl) rfl rfl ⟨dO,eH,eO,(show qa.tmps.getD 27 undef=x3.v by rw[hx3];exact aC 27 (by kernel_rfl)),jd,kD,(show qa.tmps.getD 30 undef=Value.pointer (some ⟨S,10,none⟩) from aC 30 (by kernel_rfl)),trivial⟩ hdf
    clear hsz hdf hrest aC hpt dO eH eO jd kD
    have S9:=Lib.hid hx3;clear hx3
    replace ha:=ha.gn g5
    replace hu:=hu.gn g5
    replace hb:=hb.gn g5
    replace hv:=hv.gn g5
    replace hS:=hS.gn g5
    replace G:=aj G (dB g5 _)
    have Pj:x3.Ok:=by rw[S9.out];exact (Fe.mul_right _ _).ok
    clear g5
    refine Fg.aV rfl rfl (Fg.run_store (cs:=aR x3) rfl rfl rfl (hS.there 10 5 (by show 10+5<=30;decide)) aD (cB _)) ?_
    replace ha:=ha.au (C:=S) (cs:=aR x3) 10 (by omega)
    replace hu:=hu.au (C:=S) (cs:=aR x3) 10 (by omega)
    replace hb:=hb.au (C:=S) (cs:=aR x3) 10 (by omega)
    replace hv:=hv.au (C:=S) (cs:=aR x3) 10 (by omega)
    replace hS:aH (V5.setCells S 10 (aR x3)) S 159 (lF ((Sm.mk x1 x2 x3 s.T s.A s.B))):=hS.setCells 10
    replace G:=aK (cs:=aR x3) G 10
    revert ha hu hb hv hS G
    generalize V5.setCells S 10 (aR x3)=W6
    intro ha hu hb hv hS G
    go_upto_region 4 with (fail)
    have c0:=ha.cell (i:=0) rfl;have c1:=ha.cell (i:=1) rfl;have c2:=ha.cell (i:=2) rfl;have c3:=ha.cell (i:=3) rfl;have c4:=ha.cell (i:=4) rfl
    have d0:=hb.cell (i:=0) rfl;have d1:=hb.cell (i:=1) rfl;have d2:=hb.cell (i:=2) rfl;have d3:=hb.cell (i:=3) rfl;have d4:=hb.cell (i:=4) rfl
    have s20:=hS.cell (i:=20) rfl;have f20:=hS.free 20
    have s21:=hS.cell (i:=21) rfl;have f21:=hS.free 21
    have s22:=hS.cell (i:=22) rfl;have f22:=hS.free 22
    have s23:=hS.cell (i:=23) rfl;have f23:=hS.free 23
    have s24:=hS.cell (i:=24) rfl;have f24:=hS.free 24
    have s25:=hS.cell (i:=25) rfl;have f25:=hS.free 25
    have s26:=hS.cell (i:=26) rfl;have f26:=hS.free 26
    have s27:=hS.cell (i:=27) rfl;have f27:=hS.free 27
    have s28:=hS.cell (i:=28) rfl;have f28:=hS.free 28
    have s29:=hS.cell (i:=29) rfl;have f29:=hS.free 29
    have Kr:aH (((((W6.setCells S 20 (aR a)).setCells S 25 (aR b))))) S 159 (lF (bF s.T a u b v)):=by
        have hx3:=S9.out;subst hx3
        have hx2:=FE.out;subst hx2
        have hx1:=mZ.out;subst hx1
        exact (hS.setCells 20).setCells 25
    have G1:=aK (cs:=aR b) (aK (cs:=aR a) G 20) 25
    have HS2:=Kr.drew
    have G2:=aX G1
    clear Kr G1
    have HR:=Lib.hid (And.intro HS2 G2)
    clear ha hu hb hv hS G HS2 G2
    go_region
    all_goals
     go_wp2
     go_end0
     exact⟨rfl,HR.out.2,HR.out.1⟩
end
section
open Go.RowKit Ed
set_option maxRecDepth 100000 in
set_option maxHeartbeats 3200000 in
theorem uh (S:Nat) (s:Sm) (w0:World) (hS:aH w0 S 159 (lF s)) (oks:s.Ok):
  Calls Tryz.prog 112 #[.pointer (some ⟨S,0,none⟩)] w0 fun e w'=>e=.returned (lT s).v/\w0.grownBy w' (some S)/\aH w' S 159 (lF (Sm.mk s.X s.Y s.Z (Fe.aM s.A s.B) s.A s.B)):=by
 go_enter Tryz.func112,Tryz.ntmps112
 go_upto_region 1 with (fail)
 have ag2:=hS.lt
 have G:w0.grownBy (w0.alloc (.cells bB.toArray 56)) (some S):=av (ah _ _) _
 have hR:aH (w0.alloc (.cells bB.toArray 56)) (w0.heap.size) 56 bB:=aH.new w0 bB _
 replace hS:aH (w0.alloc (.cells bB.toArray 56)) S 159 (lF s):=hS.alloc _
 revert G hR hS
 generalize w0.alloc (.cells bB.toArray 56)=W0
 intro G hR hS
 have Gs:=G.size
 have lI:=G.size
 have Wx:=hS.lt
 have lG:=hR.lt
 refine Fg.rT [] [.any,.any,.any,.val (Value.pointer (some ⟨S,0,none⟩)),.val (Value.pointer (some ⟨S,0,none⟩)),.val (Value.pointer (some ⟨S,0,none⟩)),.val (Value.pointer (some ⟨S,20,none⟩)),.val (s.A.v),.val (Value.pointer (some ⟨S,0,none⟩)),.val (Value.pointer (some ⟨S,0,none⟩)),.val (Value.pointer (some ⟨S,25,none⟩)),.val (s.B.v),.val ((Fe.aM s.A s.B).v),.val (Value.pointer (some ⟨S,0,none⟩)),.val (Value.pointer (some ⟨S,0,none⟩)),.val (Value.pointer (some ⟨S,15,none⟩))] 13 ?_ ?_
 .refine Fg.vS rfl (by decide) (fun _ _ h=>Fg.vn _ (Fg.run_move rfl (h.r 0))) ?_
  refine Fg.vS rfl (by decide) (fun _ _ h=>Fg.vn _ (Fg.run_move rfl (h.r 0))) ?_
  refine Fg.vS rfl (by decide) (fun _ _ h=>Fg.vn _ (Fg.bU rfl (h.d 4))) ?_
  refine Fg.vS rfl (by decide) (fun _ _ h=>Fg.vn _ (Fg.aF rfl (h.d 5) (VU _ _ _))) ?_
  refine Fg.vS rfl (by decide) (fun _ _ h=>Fg.vn s.A.v (Fg.run_load rfl (h.d 6) ((hS.gn h.base).range 20 (aR s.A) rfl) Tryz.underlying54 rfl aD)) ?_
  refine Fg.vS rfl (by decide) (fun _ _ h=>Fg.vn _ (Fg.run_move rfl (h.r 0))) ?_
  refine Fg.vS rfl (by decide) (fun _ _ h=>Fg.vn _ (Fg.bU rfl (h.d 8))) ?_
  refine Fg.vS rfl (by decide) (fun _ _ h=>Fg.vn _ (Fg.aF rfl (h.d 9) (VW _ _ _))) ?_
  refine Fg.vS rfl (by decide) (fun _ _ h=>Fg.vn s.B.v (Fg.run_load rfl (h.d 10) ((hS.gn h.base).range 25 (aR s.B) rfl) Tryz.underlying54 rfl aD)) ?_
  refine Fg.cS rfl (by decide) (fun _ w h=>Fg.cq rfl (jk oks.A oks.B) ⟨h.d 7,h.d 11,trivial⟩ Tryz.func74) ?_
  refine Fg.vS rfl (by decide) (fun _ _ h=>Fg.vn _ (Fg.bU rfl (h.d 3))) ?_
  refine Fg.vS rfl (by decide) (fun _ _ h=>Fg.vn _ (Fg.aF rfl (h.d 13) (jm _ _ _))) ?_
  refine Fg.vS rfl (by decide) (fun _ _ h=>Fg.vn _ (Fg.aF rfl (h.d 14) (nR _ _ _))) ?_
  trivial
 .intro qa V1 g1 hsz hdf hrest aC hpt
  obtain⟨⟨u3,hs3⟩,⟨u4,hs4⟩,⟨u5,hs5⟩,⟨u6,hs6⟩,⟨u7,hs7⟩,⟨u8,lC⟩,⟨u9,jD⟩,⟨u10,fM⟩,⟨u11,d9⟩,_⟩:=Fg.bn qa [3,4,5,6,7,8,9,10,11]
  obtain⟨x1,hx1⟩:∃x:Fe,x=Fe.aM s.A s.B:=⟨_,rfl⟩
  obtain⟨u13,dL⟩:=Fg.bL qa 13
  obtain⟨u14,dw⟩:=Fg.bL qa 14
  obtain rfl:=Fg.aQ [3,4,5,6,7,8,9,10,11,12,13,14,15] (vs:=[_,_,_,u3,u4,u5,u6,u7,u8,u9,u10,u11,x1.v,u13,u14,Value.pointer (some ⟨S,15,none⟩),_,_,_,_]) hsz hrest (by kernel_rfl) rfl rfl ⟨hs3,hs4,hs5,hs6,hs7,lC,jD,fM,d9,(show qa.tmps.getD 12 undef=x1.v by rw[hx1];exact aC 12 (by kernel_rfl)),dL,dw,(show qa.tmps.getD 15 undef=Value.pointer (some ⟨S,15,none⟩) from aC 15 (by kernel_rfl)),trivial⟩ hdf
  clear hsz hdf hrest aC hpt hs3 hs4 hs5 hs6 hs7 lC jD fM d9 dL dw
  have mZ:=Lib.hid hx1;clear hx1
  replace hS:=hS.gn g1
  replace hR:=hR.gn g1
  replace G:=aj G (dB g1 _)
  have mH:x1.Ok:=by rw[mZ.out];exact (Fe.mul_right _ _).ok
  clear g1
  refine Fg.aV rfl rfl (Fg.run_store (cs:=aR x1) rfl rfl rfl (hS.there 15 5 (by show 15+5<=30;decide)) aD (cB _)) ?_
  replace hS:aH (V1.setCells S 15 (aR x1)) S 159 (lF ((Sm.mk s.X s.Y s.Z x1 s.A s.B))):=hS.setCells 15
  replace hR:=hR.au (C:=S) (cs:=aR x1) 15 (by omega)
  replace G:=aK (cs:=aR x1) G 15
  revert hS hR G
  generalize V1.setCells S 15 (aR x1)=W2
  intro hS hR G
  go_upto_region 2 with (fail)
  have vO:=G.size
  have Wy:=hS.lt
  have qU:=hR.lt
  refine Fg.rP [] [.any,.any,.any,.any,.any,.any,.any,.any,.any,.any,.any,.any,.any,.any,.any,.any,.val (Value.pointer (some ⟨S,0,none⟩)),.val (Value.pointer (some ⟨S,0,none⟩)),.val (Value.pointer (some ⟨S,0,none⟩)),.val (((Pt.mk s.X s.Y s.Z x1)).v)] 4 ?_ ?_
  .refine Fg.vS rfl (by decide) (fun _ _ h=>Fg.vn _ (Fg.run_move rfl (h.r 0))) ?_
   refine Fg.vS rfl (by decide) (fun _ _ h=>Fg.vn _ (Fg.bU rfl (h.d 16))) ?_
   refine Fg.vS rfl (by decide) (fun _ _ h=>Fg.vn _ (Fg.aF rfl (h.d 17) (jm _ _ _))) ?_
   refine Fg.vS rfl (by decide) (fun _ _ h=>Fg.vn _ (Fg.run_load rfl (h.d 18) ((hS.gn h.base).range 0 (aY ((Pt.mk s.X s.Y s.Z x1))) rfl) Tryz.underlying56 rfl aP)) ?_
   trivial
  .intro qa V3 g3 hsz hdf hrest aC hpt
   obtain⟨⟨u16,dG⟩,⟨u17,eD⟩,⟨u18,eF⟩,_⟩:=Fg.bn qa [16,17,18]
   obtain⟨x2,hx2⟩:∃x:Pt,x=(Pt.mk s.X s.Y s.Z x1):=⟨_,rfl⟩
   obtain rfl:=Fg.aQ [16,17,18,19] (vs:=[_,_,_,_,_,_,_,_,_,_,_,_,_,_,_,_,u16,u17,u18,x2.v]) hsz hrest (by kernel_rfl) rfl rfl ⟨dG,eD,eF,(show qa.tmps.getD 19 undef=x2.v by rw[hx2];exact aC 19 (by kernel_rfl)),trivial⟩ hdf
   clear hsz hdf hrest aC hpt dG eD eF
   have FE:=Lib.hid hx2;clear hx2
   replace hS:=hS.gn g3
   replace hR:=hR.gn g3
   replace G:=aj G (dB g3 _)
   clear g3
   refine Fg.aV rfl rfl (Fg.run_store (cs:=aY x2) rfl rfl rfl (hR.there 0 20 (by show 0+20<=20;decide)) aP (gJ _)) ?_
   replace hS:=hS.au (C:=w0.heap.size) (cs:=aY x2) 0 (by omega)
   replace hR:aH (V3.setCells w0.heap.size 0 (aY x2)) w0.heap.size 56 (aY x2):=hR.bC rfl
   replace G:=aG (cs:=aY x2) G (B:=w0.heap.size) (by omega) 0
   revert hS hR G
   generalize V3.setCells w0.heap.size 0 (aY x2)=W4
   intro hS hR G
   go_wp2_with fail
   have hx2:=FE.out;subst hx2
   have hx1:=mZ.out;subst hx1
   exact bodyPost_ret (v:=(lT s).v) (results_cell_row Tryz.results112 _ _ w0.heap.size 56 (aY (lT s)).toArray (0,0) _ rfl hR Tryz.underlying56 rfl aP) rfl ⟨rfl,G,hS⟩
end
section
open Go.RowKit Ed
theorem Ed.KI.ok {s:Ad} {p:Pr} (h:KI s p):s.Ok:=⟨h.rm.ok,h.rl.ok,h.rz.ok,h.rt.ok⟩
theorem Ed.mG.ag3 {s:Sm} {p:Pr} {t:Fe} (h:mG s p) (rt:t.Right):mG (Sm.mk s.X s.Y s.Z t s.A s.B) p:=⟨h.rX,h.rY,h.rZ,rt,h.rA,h.rB,h.on,h.z,h.x,h.y,h.t⟩
set_option maxRecDepth 100000 in
set_option maxHeartbeats 3200000 in
theorem Ih (S:Nat) (s:Sm) (q:Ad) (p r:Pr) (w0:World) (HT0:eY w0) (HN:Zw S) (hS:aH w0 S 159 (lF s)) (hs:mG s p) (hq:KI q r):
  Calls Tryz.prog 111 #[.pointer (some ⟨S,0,none⟩),q.v] w0 fun e w'=>e=.returned (.tuple #[])/\w0.grownBy w' (some S)/\∃s',mG s' (Ed.add p r)/\aH w' S 159 (lF s'):=by
 have oks:=hs.ok
 have rsT:=hs.rT
 have kS:=hq.ok
 show Calls Tryz.prog 111 #[.pointer (some ⟨S,0,none⟩),.agg (xV q).toArray] w0 _
 go_enter Tryz.func111,Tryz.ntmps111
 go_upto_region 1 with (fail)
 have ag2:=hS.lt
 have G:w0.grownBy (w0.alloc (.cells (xV q).toArray 167)) (some S):=av (ah _ _) _
 have HT:eY (w0.alloc (.cells (xV q).toArray 167)):=HT0.grown (av (ah _ _) _)
 have hQ:aH (w0.alloc (.cells (xV q).toArray 167)) (w0.heap.size) 167 (xV q):=aH.new w0 (xV q) _
 replace hS:aH (w0.alloc (.cells (xV q).toArray 167)) S 159 (lF s):=hS.alloc _
 revert G HT hQ hS
 generalize w0.alloc (.cells (xV q).toArray 167)=W0
 intro G HT hQ hS
 have Gs:=G.size
 have HS:Zw S:=HN
 have lI:=G.size
 have Wx:=hS.lt
 have ZU:=hQ.lt
 refine Fg.rT [4] [.any,.any,.any,.any,.fresh 54 gX W0.heap.size,.any,.any,.any,.val (Value.pointer (some ⟨S,0,none⟩)),.val (Value.pointer (some ⟨S,0,none⟩)),.val (Value.pointer (some ⟨S,0,none⟩)),.val (Value.pointer (some ⟨S,5,none⟩)),.val (s.Y.v),.val (Value.pointer (some ⟨S,0,none⟩)),.val (Value.pointer (some ⟨S,0,none⟩)),.val (Value.pointer (some ⟨S,0,none⟩)),.val (Value.pointer (some ⟨S,0,none⟩)),.val (s.X.v),.val ((Fe.fF s.Y s.X).v),.val (Value.pointer (some ⟨w0.heap.size,0,none⟩)),.val (q.m.v),.val ((Fe.aM (Fe.fF s.Y s.X) q.m).v)] 15 ?_ ?_
 .refine Fg.vS rfl (by decide) (fun _ _ h=>Fg.vn _ (Fg.run_move rfl (h.r 0))) ?_
  refine Fg.vS rfl (by decide) (fun _ _ h=>Fg.vn _ (Fg.bU rfl (h.d 8))) ?_
  refine Fg.vS rfl (by decide) (fun _ _ h=>Fg.vn _ (Fg.aF rfl (h.d 9) (jm _ _ _))) ?_
  refine Fg.vS rfl (by decide) (fun _ _ h=>Fg.vn _ (Fg.aF rfl (h.d 10) (iy _ _ _))) ?_
  refine Fg.vS rfl (by decide) (fun _ _ h=>Fg.vn s.Y.v (Fg.run_load rfl (h.d 11) ((hS.gn h.base).range 5 (aR s.Y) rfl) Tryz.underlying54 rfl aD)) ?_
  refine Fg.vS rfl (by decide) (fun _ _ h=>Fg.vn _ (Fg.run_move rfl (h.r 0))) ?_
  refine Fg.vS rfl (by decide) (fun _ _ h=>Fg.vn _ (Fg.bU rfl (h.d 13))) ?_
  refine Fg.vS rfl (by decide) (fun _ _ h=>Fg.vn _ (Fg.aF rfl (h.d 14) (jm _ _ _))) ?_
  refine Fg.vS rfl (by decide) (fun _ _ h=>Fg.vn _ (Fg.aF rfl (h.d 15) (fu _ _ _))) ?_
  refine Fg.vS rfl (by decide) (fun _ _ h=>Fg.vn s.X.v (Fg.run_load rfl (h.d 16) ((hS.gn h.base).range 0 (aR s.X) rfl) Tryz.underlying54 rfl aD)) ?_
  refine Fg.cS rfl (by decide) (fun _ w h=>Fg.cq rfl (uO oks.Y oks.X) ⟨h.d 12,h.d 17,trivial⟩ Tryz.func127) ?_
  refine Fg.vS rfl (by decide) (fun _ _ h=>Fg.vn _ (Fg.aF rfl (h.r 3) (KM _ _ _))) ?_
  refine Fg.vS rfl (by decide) (fun _ _ h=>Fg.vn q.m.v (Fg.run_load rfl (h.d 19) ((hQ.gn h.base).range 0 (aR q.m) rfl) Tryz.underlying54 rfl aD)) ?_
  refine Fg.cS rfl (by decide) (fun _ w h=>Fg.cq rfl (jk (Fe.dI _ _).ok kS.m) ⟨h.d 18,h.d 20,trivial⟩ Tryz.func74) ?_
  refine⟨⟨⟨_,rfl⟩,Fg.gF (fun _ _ h k=>aj h k) rfl (by show 4<64;decide) fun ac w h=>?_⟩,?_⟩
  .refine⟨aB rfl,w.alloc (.cells gX.toArray 54),?_,World.grownBy_alloc _ _ _,by simp,⟨w.heap.size,rfl,h.base.size,aH.new w gX _⟩⟩
   clear h
   go_simp
  trivial
 .intro qa V1 g1 hsz hdf hrest aC hpt
  obtain⟨N4,hs4,MX,hb4⟩:∃N,qa.tmps.getD 4 undef=.pointer (some ⟨N,0,none⟩)/\W0.heap.size<=N/\aH V1 N 54 gX:=aC 4 (by kernel_rfl)
  obtain⟨⟨u8,lC⟩,⟨u9,jD⟩,⟨u10,fM⟩,⟨u11,d9⟩,⟨u12,fJ⟩,⟨u13,dL⟩,⟨u14,dw⟩,⟨u15,dM⟩,⟨u16,dG⟩,⟨u17,eD⟩,⟨u18,eF⟩,⟨u19,eG⟩,⟨u20,dU⟩,_⟩:=Fg.bn qa [8,9,10,11,12,13,14,15,16,17,18,19,20]
  obtain⟨x1,hx1⟩:∃x:Fe,x=Fe.aM (Fe.fF s.Y s.X) q.m:=⟨_,rfl⟩
  obtain rfl:=Fg.aQ [4,8,9,10,11,12,13,14,15,16,17,18,19,20,21] (vs:=[_,_,_,_,Value.pointer (some ⟨N4,0,none⟩),_,_,_,u8,u9,u10,u11,u12,u13,u14,u15,u16,u17,u18,u19,u20,x1.v,_,_,_,_,_,_,_,_,_,_,_,_,_,_,_,_,_,_,_,_,_,_,_,_,_,_,_,_,_,_,_,_,_,_,_,_,_,_,_,_,_,_]) hsz hrest (by kernel_rfl) rfl rfl ⟨hs4,lC,jD,fM,d9,fJ,dL,dw,dM,dG,eD,eF,eG,dU,(show qa.tmps.getD 21 undef=x1.v by rw[hx1];exact aC 21 (by kernel_rfl)),trivial⟩ hdf
  clear hsz hdf hrest aC hpt hs4 lC jD fM d9 fJ dL dw dM dG eD eF eG dU
  have mZ:=Lib.hid hx1;clear hx1
  replace hS:=hS.gn g1
  replace hQ:=hQ.gn g1
  replace G:=aj G (dB g1 _)
  replace HT:=HT.grown g1
  have mH:x1.Ok:=by rw[mZ.out];exact (Fe.mul_right _ _).ok
  have hw4:w0.heap.size<=N4:=Nat.le_trans lI MX
  clear g1
  refine Fg.aV rfl rfl (Fg.run_store (cs:=aR x1) rfl rfl rfl (hb4.there 0 5 (by show 0+5<=5;decide)) aD (cB _)) ?_
  replace hS:=hS.au (C:=N4) (cs:=aR x1) 0 (by omega)
  replace hQ:=hQ.au (C:=N4) (cs:=aR x1) 0 (by omega)
  replace hb4:aH (V1.setCells N4 0 (aR x1)) N4 54 (aR x1):=hb4.bC rfl
  replace G:=aG (cs:=aR x1) G (B:=N4) (hw4) 0
  replace HT:=HT.keep (aK (cs:=aR x1) (ah _ (some N4)) 0) (HT0.jW (hw4))
  revert hS hQ hb4 G HT
  generalize V1.setCells N4 0 (aR x1)=W2
  intro hS hQ hb4 G HT
  go_upto_region 2 with (fail)
  have vO:=G.size
  have Wy:=hS.lt
  have amv:=hQ.lt
  have GV:=hb4.lt
  refine Fg.rT [5] [.any,.any,.any,.any,.any,.fresh 54 gX W2.heap.size,.any,.any,.any,.any,.any,.any,.any,.any,.any,.any,.any,.any,.any,.any,.any,.any,.val (Value.pointer (some ⟨S,0,none⟩)),.val (Value.pointer (some ⟨S,0,none⟩)),.val (Value.pointer (some ⟨S,0,none⟩)),.val (Value.pointer (some ⟨S,5,none⟩)),.val (s.Y.v),.val (Value.pointer (some ⟨S,0,none⟩)),.val (Value.pointer (some ⟨S,0,none⟩)),.val (Value.pointer (some ⟨S,0,none⟩)),.val (Value.pointer (some ⟨S,0,none⟩)),.val (s.X.v),.val ((Fe.iw s.Y s.X).v),.val (Value.pointer (some ⟨w0.heap.size,5,none⟩)),.val (q.l.v),.val ((Fe.aM (Fe.iw s.Y s.X) q.l).v)] 15 ?_ ?_
  .refine Fg.vS rfl (by decide) (fun _ _ h=>Fg.vn _ (Fg.run_move rfl (h.r 0))) ?_
   refine Fg.vS rfl (by decide) (fun _ _ h=>Fg.vn _ (Fg.bU rfl (h.d 22))) ?_
   refine Fg.vS rfl (by decide) (fun _ _ h=>Fg.vn _ (Fg.aF rfl (h.d 23) (jm _ _ _))) ?_
   refine Fg.vS rfl (by decide) (fun _ _ h=>Fg.vn _ (Fg.aF rfl (h.d 24) (iy _ _ _))) ?_
   refine Fg.vS rfl (by decide) (fun _ _ h=>Fg.vn s.Y.v (Fg.run_load rfl (h.d 25) ((hS.gn h.base).range 5 (aR s.Y) rfl) Tryz.underlying54 rfl aD)) ?_
   refine Fg.vS rfl (by decide) (fun _ _ h=>Fg.vn _ (Fg.run_move rfl (h.r 0))) ?_
   refine Fg.vS rfl (by decide) (fun _ _ h=>Fg.vn _ (Fg.bU rfl (h.d 27))) ?_
   refine Fg.vS rfl (by decide) (fun _ _ h=>Fg.vn _ (Fg.aF rfl (h.d 28) (jm _ _ _))) ?_
   refine Fg.vS rfl (by decide) (fun _ _ h=>Fg.vn _ (Fg.aF rfl (h.d 29) (fu _ _ _))) ?_
   refine Fg.vS rfl (by decide) (fun _ _ h=>Fg.vn s.X.v (Fg.run_load rfl (h.d 30) ((hS.gn h.base).range 0 (aR s.X) rfl) Tryz.underlying54 rfl aD)) ?_
   refine Fg.cS rfl (by decide) (fun _ w h=>Fg.cq rfl (AU (HT.f.grown h.base) oks.Y oks.X) ⟨h.d 26,h.d 31,trivial⟩ Tryz.func113) ?_
   refine Fg.vS rfl (by decide) (fun _ _ h=>Fg.vn _ (Fg.aF rfl (h.r 3) (KN _ _ _))) ?_
   refine Fg.vS rfl (by decide) (fun _ _ h=>Fg.vn q.l.v (Fg.run_load rfl (h.d 33) ((hQ.gn h.base).range 5 (aR q.l) rfl) Tryz.underlying54 rfl aD)) ?_
   refine Fg.cS rfl (by decide) (fun _ w h=>Fg.cq rfl (jk (Fe.fQ _ _).ok kS.l) ⟨h.d 32,h.d 34,trivial⟩ Tryz.func74) ?_
   refine⟨⟨⟨_,rfl⟩,Fg.gF (fun _ _ h k=>aj h k) rfl (by show 5<64;decide) fun ac w h=>?_⟩,?_⟩
   .refine⟨aB rfl,w.alloc (.cells gX.toArray 54),?_,World.grownBy_alloc _ _ _,by simp,⟨w.heap.size,rfl,h.base.size,aH.new w gX _⟩⟩
    clear h
    go_simp
   trivial
  .intro qa V3 g3 hsz hdf hrest aC hpt
   obtain⟨N5,hs5,Qv,hb5⟩:∃N,qa.tmps.getD 5 undef=.pointer (some ⟨N,0,none⟩)/\W2.heap.size<=N/\aH V3 N 54 gX:=aC 5 (by kernel_rfl)
   obtain⟨⟨u22,eT⟩,⟨u23,dV⟩,⟨u24,dO⟩,⟨u25,eH⟩,⟨u26,eO⟩,⟨u27,fK⟩,⟨u28,jd⟩,⟨u29,kD⟩,⟨u30,iP⟩,⟨u31,gL⟩,⟨u32,jR⟩,⟨u33,jA⟩,⟨u34,iZ⟩,_⟩:=Fg.bn qa [22,23,24,25,26,27,28,29,30,31,32,33,34]
   obtain⟨x2,hx2⟩:∃x:Fe,x=Fe.aM (Fe.iw s.Y s.X) q.l:=⟨_,rfl⟩
   obtain rfl:=Fg.aQ [5,22,23,24,25,26,27,28,29,30,31,32,33,34,35] (vs:=[_,_,_,_,_,Value.pointer (some ⟨N5,0,none⟩),_,_,_,_,_,_,_,_,_,_,_,_,_,_,_,_,u22,u23,u24,u25,u26,u27,u28,u29,u30,u31,u32,u33,u34,x2.v,_,_,_,_,_,_,_,_,_,_,_,_,_,_,_,_,_,_,_,_,_,_,_,_,_,_,_,_]) hsz hrest (by kernel_rfl) rfl rfl ⟨hs5,eT,dV,dO,eH,eO,fK,jd,kD,iP,gL,jR,jA,iZ,(show qa.tmps.getD 35 undef=x2.v by rw[hx2];exact aC 35 (by kernel_rfl)),trivial⟩ hdf
   clear hsz hdf hrest aC hpt hs5 eT dV dO eH eO fK jd kD iP gL jR jA iZ
   have FE:=Lib.hid hx2;clear hx2
   replace hS:=hS.gn g3
   replace hQ:=hQ.gn g3
   replace hb4:=hb4.gn g3
   replace G:=aj G (dB g3 _)
   replace HT:=HT.grown g3
   have KY:x2.Ok:=by rw[FE.out];exact (Fe.mul_right _ _).ok
   have FH:w0.heap.size<=N5:=Nat.le_trans vO Qv
   clear g3
   refine Fg.aV rfl rfl (Fg.run_store (cs:=aR x2) rfl rfl rfl (hb5.there 0 5 (by show 0+5<=5;decide)) aD (cB _)) ?_
   replace hS:=hS.au (C:=N5) (cs:=aR x2) 0 (by omega)
   replace hQ:=hQ.au (C:=N5) (cs:=aR x2) 0 (by omega)
   replace hb4:=hb4.au (C:=N5) (cs:=aR x2) 0 (by omega)
   replace hb5:aH (V3.setCells N5 0 (aR x2)) N5 54 (aR x2):=hb5.bC rfl
   replace G:=aG (cs:=aR x2) G (B:=N5) (FH) 0
   replace HT:=HT.keep (aK (cs:=aR x2) (ah _ (some N5)) 0) (HT0.jW (FH))
   revert hS hQ hb4 hb5 G HT
   generalize V3.setCells N5 0 (aR x2)=W4
   intro hS hQ hb4 hb5 G HT
   go_upto_region 3 with (fail)
   have O1:=G.size
   have ZT:=hS.lt
   have amw:=hQ.lt
   have DK:=hb4.lt
   have yS:=hb5.lt
   refine Fg.rT [6] [.any,.any,.any,.any,.any,.any,.fresh 54 gX W4.heap.size,.any,.any,.any,.any,.any,.any,.any,.any,.any,.any,.any,.any,.any,.any,.any,.any,.any,.any,.any,.any,.any,.any,.any,.any,.any,.any,.any,.any,.any,.val (Value.pointer (some ⟨S,0,none⟩)),.val (Value.pointer (some ⟨S,0,none⟩)),.val (Value.pointer (some ⟨S,0,none⟩)),.val (Value.pointer (some ⟨S,10,none⟩)),.val (s.Z.v),.val (Value.pointer (some ⟨w0.heap.size,10,none⟩)),.val (q.z.v),.val ((Fe.aM s.Z q.z).v)] 9 ?_ ?_
   .refine Fg.vS rfl (by decide) (fun _ _ h=>Fg.vn _ (Fg.run_move rfl (h.r 0))) ?_
    refine Fg.vS rfl (by decide) (fun _ _ h=>Fg.vn _ (Fg.bU rfl (h.d 36))) ?_
    refine Fg.vS rfl (by decide) (fun _ _ h=>Fg.vn _ (Fg.aF rfl (h.d 37) (jm _ _ _))) ?_
    refine Fg.vS rfl (by decide) (fun _ _ h=>Fg.vn _ (Fg.aF rfl (h.d 38) (fA _ _ _))) ?_
    refine Fg.vS rfl (by decide) (fun _ _ h=>Fg.vn s.Z.v (Fg.run_load rfl (h.d 39) ((hS.gn h.base).range 10 (aR s.Z) rfl) Tryz.underlying54 rfl aD)) ?_
    refine Fg.vS rfl (by decide) (fun _ _ h=>Fg.vn _ (Fg.aF rfl (h.r 3) (KO _ _ _))) ?_
    refine Fg.vS rfl (by decide) (fun _ _ h=>Fg.vn q.z.v (Fg.run_load rfl (h.d 41) ((hQ.gn h.base).range 10 (aR q.z) rfl) Tryz.underlying54 rfl aD)) ?_
    refine Fg.cS rfl (by decide) (fun _ w h=>Fg.cq rfl (jk oks.Z kS.z) ⟨h.d 40,h.d 42,trivial⟩ Tryz.func74) ?_
    refine⟨⟨⟨_,rfl⟩,Fg.gF (fun _ _ h k=>aj h k) rfl (by show 6<64;decide) fun ac w h=>?_⟩,?_⟩
    .refine⟨aB rfl,w.alloc (.cells gX.toArray 54),?_,World.grownBy_alloc _ _ _,by simp,⟨w.heap.size,rfl,h.base.size,aH.new w gX _⟩⟩
     clear h
     go_simp
    trivial
   .intro qa V5 g5 hsz hdf hrest aC hpt
    obtain⟨N6,hs6,OZ,hb6⟩:∃N,qa.tmps.getD 6 undef=.pointer (some ⟨N,0,none⟩)/\W4.heap.size<=N/\aH V5 N 54 gX:=aC 6 (by kernel_rfl)
    obtain⟨⟨u36,jT⟩,⟨u37,kU⟩,⟨u38,kV⟩,⟨u39,oF⟩,⟨u40,oG⟩,⟨u41,qC⟩,⟨u42,mJ⟩,_⟩:=Fg.bn qa [36,37,38,39,40,41,42]
    obtain⟨x3,hx3⟩:∃x:Fe,x=Fe.aM s.Z q.z:=⟨_,rfl⟩
    obtain rfl:=Fg.aQ [6,36,37,38,39,40,41,42,43] (vs:=[_,_,_,_,_,_,Value.pointer (some ⟨N6,0,none⟩),_,_,_,_,_,_,_,_,_,_,_,_,_,_,_,_,_,_,_,_,_,_,_,_,_,_,_,_,_,u36,u37,u38,u39,u40,u41,u42,x3.v,_,_,_,_,_,_,_,_,_,_,_,_,_,_,_,_,_,_,_,_]) hsz hrest (by kernel_rfl) rfl rfl ⟨hs6,jT,kU,kV,oF,oG,qC,mJ,(show qa.tmps.getD 43 undef=x3.v by rw[hx3];exact aC 43 (by kernel_rfl)),trivial⟩ hdf
    clear hsz hdf hrest aC hpt hs6 jT kU kV oF oG qC mJ
    have S9:=Lib.hid hx3;clear hx3
    replace hS:=hS.gn g5
    replace hQ:=hQ.gn g5
    replace hb4:=hb4.gn g5
    replace hb5:=hb5.gn g5
    replace G:=aj G (dB g5 _)
    replace HT:=HT.grown g5
    have Pj:x3.Ok:=by rw[S9.out];exact (Fe.mul_right _ _).ok
    have DI:w0.heap.size<=N6:=Nat.le_trans O1 OZ
    clear g5
    refine Fg.aV rfl rfl (Fg.run_store (cs:=aR x3) rfl rfl rfl (hb6.there 0 5 (by show 0+5<=5;decide)) aD (cB _)) ?_
    replace hS:=hS.au (C:=N6) (cs:=aR x3) 0 (by omega)
    replace hQ:=hQ.au (C:=N6) (cs:=aR x3) 0 (by omega)
    replace hb4:=hb4.au (C:=N6) (cs:=aR x3) 0 (by omega)
    replace hb5:=hb5.au (C:=N6) (cs:=aR x3) 0 (by omega)
    replace hb6:aH (V5.setCells N6 0 (aR x3)) N6 54 (aR x3):=hb6.bC rfl
    replace G:=aG (cs:=aR x3) G (B:=N6) (DI) 0
    replace HT:=HT.keep (aK (cs:=aR x3) (ah _ (some N6)) 0) (HT0.jW (DI))
    revert hS hQ hb4 hb5 hb6 G HT
    generalize V5.setCells N6 0 (aR x3)=W6
    intro hS hQ hb4 hb5 hb6 G HT
    go_upto_region 4 with (fail)
    have ag4:=G.size
    have acV:=hS.lt
    have amx:=hQ.lt
    have YA:=hb4.lt
    have Nc:=hb5.lt
    have AY:=hb6.lt
    have HST:∀it∈([.any,.any,.any,.any,.any,.any,.any,.fresh 54 gX W6.heap.size,.any,.any,.any,.any,.any,.any,.any,.any,.any,.any,.any,.any,.any,.any,.any,.any,.any,.any,.any,.any,.any,.any,.any,.any,.any,.any,.any,.any,.any,.any,.any,.any,.any,.any,.any,.any,.val (Value.pointer (some ⟨S,0,none⟩)),.val (((Pt.mk s.X s.Y s.Z (Fe.aM s.A s.B))).v),.val ((Fe.aM s.A s.B).v),.val (Value.pointer (some ⟨w0.heap.size,15,none⟩)),.val (q.t.v),.val ((Fe.aM (Fe.aM s.A s.B) q.t).v)]:List Fg.It),it.zN S:=by
     intro it hit
     simp only[List.mem_cons,List.not_mem_nil,or_false]at hit
     have hlW:S<W6.heap.size:=hS.lt
     rcases hit with rfl|rfl|rfl|rfl|rfl|rfl|rfl|rfl|rfl|rfl|rfl|rfl|rfl|rfl|rfl|rfl|rfl|rfl|rfl|rfl|rfl|rfl|rfl|rfl|rfl|rfl|rfl|rfl|rfl|rfl|rfl|rfl|rfl|rfl|rfl|rfl|rfl|rfl|rfl|rfl|rfl|rfl|rfl|rfl|rfl|rfl|rfl|rfl|rfl|rfl
     all_goals first|exact Fg.JU S|exact Fg.JV S _|exact Fg.Eb _ _ hlW
    refine Fg.jM (ps:=[7]) [.any,.any,.any,.any,.any,.any,.any,.fresh 54 gX W6.heap.size,.any,.any,.any,.any,.any,.any,.any,.any,.any,.any,.any,.any,.any,.any,.any,.any,.any,.any,.any,.any,.any,.any,.any,.any,.any,.any,.any,.any,.any,.any,.any,.any,.any,.any,.any,.any,.val (Value.pointer (some ⟨S,0,none⟩)),.val (((Pt.mk s.X s.Y s.Z (Fe.aM s.A s.B))).v),.val ((Fe.aM s.A s.B).v),.val (Value.pointer (some ⟨w0.heap.size,15,none⟩)),.val (q.t.v),.val ((Fe.aM (Fe.aM s.A s.B) q.t).v)] (fun w=>World.grownBy W6 w (some S)/\∃t:Fe,t.Right/\aH w S 159 (lF (Sm.mk s.X s.Y s.Z t s.A s.B))) 7 ⟨aX (ah _ _),s.T,rsT,hS.drew⟩ (by kernel_rfl) (by kernel_rfl) (by kernel_rfl) (by kernel_rfl) (by decide) (Fg.nW (by kernel_rfl)) ?_ ?_
    .refine⟨⟨⟨_,rfl⟩,Fg.xE (fun _ _ h k=>⟨aj h.1 (dB k _),let ⟨t,r,b⟩:=h.2;⟨t,r,b.gn k⟩⟩) rfl (by decide) fun ac w h=>?_⟩,?_⟩
     .have e0:_=Value.pointer (some ⟨S,0,none⟩):=h.r 0
      exact Fg.vn (Value.pointer (some ⟨S,0,none⟩)) (Fg.run_move rfl e0)
     refine⟨⟨⟨_,rfl⟩,Fg.FL rfl fun ac w h=>?_⟩,?_⟩
     .have e44:_=Value.pointer (some ⟨S,0,none⟩):=h.d 44
      obtain⟨hb1,t,rt,hb2⟩:=h.base
      have xR:=h.ptrs
      refine⟨aB rfl,112,#[Value.pointer (some ⟨S,0,none⟩)],Fg.aN rfl rfl (by simp only[List.map_toArray,List.map_cons,List.map_nil,Act.eval,e44]) (Fg.aI Tryz.func112 (by kernel_rfl) (by kernel_rfl)),?_⟩
      exact (uh S (Sm.mk s.X s.Y s.Z t s.A s.B) w hb2 ⟨oks.X,oks.Y,oks.Z,rt.ok,oks.A,oks.B⟩).mono fun _ w' ⟨he,hg,hb3⟩=>⟨_,he,⟨aj hb1 hg,_,Fe.mul_right _ _,hb3⟩,Fg.JW HST hg,ql xR hg.size (Fg.xD (by decide)),rfl⟩
     refine⟨⟨⟨_,rfl⟩,Fg.xE (fun _ _ h k=>⟨aj h.1 (dB k _),let ⟨t,r,b⟩:=h.2;⟨t,r,b.gn k⟩⟩) rfl (by decide) fun ac w h=>?_⟩,?_⟩
     .have e45:_=((Pt.mk s.X s.Y s.Z (Fe.aM s.A s.B))).v:=h.d 45
      exact Fg.vn ((Fe.aM s.A s.B).v) (Fg.xG rfl e45 (by kernel_rfl))
     refine⟨⟨⟨_,rfl⟩,Fg.xE (fun _ _ h k=>⟨aj h.1 (dB k _),let ⟨t,r,b⟩:=h.2;⟨t,r,b.gn k⟩⟩) rfl (by decide) fun ac w h=>?_⟩,?_⟩
     .have e3:_=Value.pointer (some ⟨w0.heap.size,0,none⟩):=h.r 3
      exact Fg.vn (Value.pointer (some ⟨w0.heap.size,15,none⟩)) (Fg.aF rfl e3 (KP _ _ _))
     refine⟨⟨⟨_,rfl⟩,Fg.xE (fun _ _ h k=>⟨aj h.1 (dB k _),let ⟨t,r,b⟩:=h.2;⟨t,r,b.gn k⟩⟩) rfl (by decide) fun ac w h=>?_⟩,?_⟩
     .have e47:_=Value.pointer (some ⟨w0.heap.size,15,none⟩):=h.d 47
      exact Fg.vn q.t.v (Fg.run_load rfl e47 ((hQ.grown h.base.1 (bH (by omega))).range 15 (aR q.t) rfl) Tryz.underlying54 rfl aD)
     refine⟨⟨⟨_,rfl⟩,Fg.QG (fun _ _ h k=>⟨aj h.1 (dB k _),let ⟨t,r,b⟩:=h.2;⟨t,r,b.gn k⟩⟩) rfl (by decide) fun ac w h=>?_⟩,?_⟩
     .have e46:_=(Fe.aM s.A s.B).v:=h.d 46
      have e48:_=q.t.v:=h.d 48
      refine⟨aB rfl,74,#[(Fe.aM s.A s.B).v,q.t.v],Fg.aN rfl rfl (by simp only[List.map_toArray,List.map_cons,List.map_nil,Act.eval,e46,e48]) (Fg.aI Tryz.func74 (by kernel_rfl) (by kernel_rfl)),?_⟩
      exact (jk (Fe.mul_right _ _).ok kS.t).mono fun _ _ ⟨he,hg⟩=>⟨_,he,hg,rfl⟩
     refine⟨⟨⟨_,rfl⟩,Fg.gF (fun _ _ h k=>⟨aj h.1 (dB k _),let ⟨t,r,b⟩:=h.2;⟨t,r,b.gn k⟩⟩) rfl (by show 7<64;decide) fun ac w h=>?_⟩,?_⟩
     .refine⟨aB rfl,w.alloc (.cells gX.toArray 54),?_,World.grownBy_alloc _ _ _,by simp,⟨w.heap.size,rfl,h.base.1.size,aH.new w gX _⟩⟩
      clear h
      go_simp
     trivial
    .intro qa V7 g7 hsz hdf hrest aC hpt
     obtain⟨N7,hs7,VY,cZ⟩:∃N,qa.tmps.getD 7 undef=.pointer (some ⟨N,0,none⟩)/\W6.heap.size<=N/\aH V7 N 54 gX:=aC 7 (by kernel_rfl)
     obtain⟨⟨u44,qD⟩,⟨u45,mK⟩,⟨u46,mM⟩,⟨u47,oH⟩,⟨u48,tq⟩,_⟩:=Fg.bn qa [44,45,46,47,48]
     obtain⟨x4,hx4⟩:∃x:Fe,x=Fe.aM (Fe.aM s.A s.B) q.t:=⟨_,rfl⟩
     obtain rfl:=Fg.aQ [7,44,45,46,47,48,49] (vs:=[_,_,_,_,_,_,_,Value.pointer (some ⟨N7,0,none⟩),_,_,_,_,_,_,_,_,_,_,_,_,_,_,_,_,_,_,_,_,_,_,_,_,_,_,_,_,_,_,_,_,_,_,_,_,u44,u45,u46,u47,u48,x4.v,_,_,_,_,_,_,_,_,_,_,_,_,_,_]) hsz hrest (by kernel_rfl) rfl rfl ⟨hs7,qD,mK,mM,oH,tq,(show qa.tmps.getD 49 undef=x4.v by rw[hx4];exact aC 49 (by kernel_rfl)),trivial⟩ hdf
     clear hsz hdf hrest aC hpt hs7 qD mK mM oH tq
     have Hx4:=Lib.hid hx4;clear hx4
     clear hS
     obtain⟨g7,t,rt,hS⟩:=g7
     replace hQ:=hQ.grown g7 (bH (by omega))
     replace hb4:=hb4.grown g7 (bH (by omega))
     replace hb5:=hb5.grown g7 (bH (by omega))
     replace hb6:=hb6.grown g7 (bH (by omega))
     replace G:=aj G g7
     replace HT:=HT.keep g7 HS
     have Ta:x4.Ok:=by rw[Hx4.out];exact (Fe.mul_right _ _).ok
     have hw7:w0.heap.size<=N7:=Nat.le_trans ag4 VY
     clear g7 HST
     refine Fg.aV rfl rfl (Fg.run_store (cs:=aR x4) rfl rfl rfl (cZ.there 0 5 (by show 0+5<=5;decide)) aD (cB _)) ?_
     replace hS:=hS.au (C:=N7) (cs:=aR x4) 0 (by omega)
     replace hQ:=hQ.au (C:=N7) (cs:=aR x4) 0 (by omega)
     replace hb4:=hb4.au (C:=N7) (cs:=aR x4) 0 (by omega)
     replace hb5:=hb5.au (C:=N7) (cs:=aR x4) 0 (by omega)
     replace hb6:=hb6.au (C:=N7) (cs:=aR x4) 0 (by omega)
     replace cZ:aH (V7.setCells N7 0 (aR x4)) N7 54 (aR x4):=cZ.bC rfl
     replace G:=aG (cs:=aR x4) G (B:=N7) (hw7) 0
     replace HT:=HT.keep (aK (cs:=aR x4) (ah _ (some N7)) 0) (HT0.jW (hw7))
     revert hS hQ hb4 hb5 hb6 cZ G HT
     generalize V7.setCells N7 0 (aR x4)=W8
     intro hS hQ hb4 hb5 hb6 cZ G HT
     go_upto_region 5 with (fail)
     have Gs8:=G.size
     have acW:=hS.lt
     have amB:=hQ.lt
     have YB:=hb4.lt
     have Nf:=hb5.lt
     have MQ:=hb6.lt
     have MR:=cZ.lt
     refine Fg.rT [] [.any,.any,.any,.any,.any,.any,.any,.any,.any,.any,.any,.any,.any,.any,.any,.any,.any,.any,.any,.any,.any,.any,.any,.any,.any,.any,.any,.any,.any,.any,.any,.any,.any,.any,.any,.any,.any,.any,.any,.any,.any,.any,.any,.any,.any,.any,.any,.any,.any,.any,.val (Value.pointer (some ⟨S,0,none⟩)),.val (x1.v),.val (x2.v),.val ((Fe.iw x1 x2).v),.val (x3.v),.val (x4.v),.val ((Fe.fF x3 x4).v),.val (x1.v),.val (x2.v),.val ((Fe.fF x1 x2).v),.val (x3.v),.val (x4.v),.val ((Fe.iw x3 x4).v)] 13 ?_ ?_
     .refine Fg.vS rfl (by decide) (fun _ _ h=>Fg.vn _ (Fg.run_move rfl (h.r 0))) ?_
      refine Fg.vS rfl (by decide) (fun _ _ h=>Fg.vn x1.v (Fg.run_load rfl (h.r 4) ((hb4.gn h.base).range 0 (aR x1) rfl) Tryz.underlying54 rfl aD)) ?_
      refine Fg.vS rfl (by decide) (fun _ _ h=>Fg.vn x2.v (Fg.run_load rfl (h.r 5) ((hb5.gn h.base).range 0 (aR x2) rfl) Tryz.underlying54 rfl aD)) ?_
      refine Fg.cS rfl (by decide) (fun _ w h=>Fg.cq rfl (AU (HT.f.grown h.base) mH KY) ⟨h.d 51,h.d 52,trivial⟩ Tryz.func113) ?_
      refine Fg.vS rfl (by decide) (fun _ _ h=>Fg.vn x3.v (Fg.run_load rfl (h.r 6) ((hb6.gn h.base).range 0 (aR x3) rfl) Tryz.underlying54 rfl aD)) ?_
      refine Fg.vS rfl (by decide) (fun _ _ h=>Fg.vn x4.v (Fg.run_load rfl (h.r 7) ((cZ.gn h.base).range 0 (aR x4) rfl) Tryz.underlying54 rfl aD)) ?_
      refine Fg.cS rfl (by decide) (fun _ w h=>Fg.cq rfl (uO Pj Ta) ⟨h.d 54,h.d 55,trivial⟩ Tryz.func127) ?_
      refine Fg.vS rfl (by decide) (fun _ _ h=>Fg.vn x1.v (Fg.run_load rfl (h.r 4) ((hb4.gn h.base).range 0 (aR x1) rfl) Tryz.underlying54 rfl aD)) ?_
      refine Fg.vS rfl (by decide) (fun _ _ h=>Fg.vn x2.v (Fg.run_load rfl (h.r 5) ((hb5.gn h.base).range 0 (aR x2) rfl) Tryz.underlying54 rfl aD)) ?_
      refine Fg.cS rfl (by decide) (fun _ w h=>Fg.cq rfl (uO mH KY) ⟨h.d 57,h.d 58,trivial⟩ Tryz.func127) ?_
      refine Fg.vS rfl (by decide) (fun _ _ h=>Fg.vn x3.v (Fg.run_load rfl (h.r 6) ((hb6.gn h.base).range 0 (aR x3) rfl) Tryz.underlying54 rfl aD)) ?_
      refine Fg.vS rfl (by decide) (fun _ _ h=>Fg.vn x4.v (Fg.run_load rfl (h.r 7) ((cZ.gn h.base).range 0 (aR x4) rfl) Tryz.underlying54 rfl aD)) ?_
      refine Fg.cS rfl (by decide) (fun _ w h=>Fg.cq rfl (AU (HT.f.grown h.base) Pj Ta) ⟨h.d 60,h.d 61,trivial⟩ Tryz.func113) ?_
      trivial
     .intro qa V9 g9 hsz hdf hrest aC hpt
      obtain⟨u51,Tc⟩:=Fg.bL qa 51
      obtain⟨u52,Ii⟩:=Fg.bL qa 52
      obtain⟨x5,hx5⟩:∃x:Fe,x=Fe.iw x1 x2:=⟨_,rfl⟩
      obtain⟨u54,Ij⟩:=Fg.bL qa 54
      obtain⟨u55,Ik⟩:=Fg.bL qa 55
      obtain⟨x6,hx6⟩:∃x:Fe,x=Fe.fF x3 x4:=⟨_,rfl⟩
      obtain⟨u57,acX⟩:=Fg.bL qa 57
      obtain⟨u58,acY⟩:=Fg.bL qa 58
      obtain⟨x7,hx7⟩:∃x:Fe,x=Fe.fF x1 x2:=⟨_,rfl⟩
      obtain⟨u60,acZ⟩:=Fg.bL qa 60
      obtain⟨u61,ac0⟩:=Fg.bL qa 61
      obtain⟨x8,Pk⟩:∃x:Fe,x=Fe.iw x3 x4:=⟨_,rfl⟩
      obtain rfl:=Fg.aQ [50,51,52,53,54,55,56,57,58,59,60,61,62] (vs:=[_,_,_,_,_,_,_,_,_,_,_,_,_,_,_,_,_,_,_,_,_,_,_,_,_,_,_,_,_,_,_,_,_,_,_,_,_,_,_,_,_,_,_,_,_,_,_,_,_,_,Value.pointer (some ⟨S,0,none⟩),u51,u52,x5.v,u54,u55,x6.v,u57,u58,x7.v,u60,u61,x8.v,_]) hsz hrest (by kernel_rfl) rfl rfl ⟨(show qa.tmps.getD 50 undef=Value.pointer (some ⟨S,0,none⟩) from aC 50 (by kernel_rfl)),Tc,Ii,(show qa.tmps.getD 53 undef=x5.v by rw[hx5];exact aC 53 (by kernel_rfl)),Ij,Ik,(show qa.tmps.getD 56 undef=x6.v by rw[hx6];exact aC 56 (by kernel_rfl)),acX,acY,(show qa.tmps.getD 59 undef=x7.v by rw[hx7];exact aC 59 (by kernel_rfl)),acZ,ac0,(show qa.tmps.getD 62 undef=x8.v by rw[Pk];exact aC 62 (by kernel_rfl)),trivial⟩ hdf
      clear hsz hdf hrest aC hpt Tc Ii Ij Ik acX acY acZ ac0
      have Hx5:=Lib.hid hx5;clear hx5
      have VZ:=Lib.hid hx6;clear hx6
      have Hx7:=Lib.hid hx7;clear hx7
      have Hx8:=Lib.hid Pk;clear Pk
      replace hS:=hS.gn g9
      replace hQ:=hQ.gn g9
      replace hb4:=hb4.gn g9
      replace hb5:=hb5.gn g9
      replace hb6:=hb6.gn g9
      replace cZ:=cZ.gn g9
      replace G:=aj G (dB g9 _)
      replace HT:=HT.grown g9
      have Wz:x5.Ok:=by rw[Hx5.out];exact (Fe.fQ _ _).ok
      have V8:x6.Ok:=by rw[VZ.out];exact (Fe.dI _ _).ok
      have ZV:x7.Ok:=by rw[Hx7.out];exact (Fe.dI _ _).ok
      have ZW:x8.Ok:=by rw[Hx8.out];exact (Fe.fQ _ _).ok
      clear g9
      refine Fg.bP rfl (Fg.aN (vs:=#[Value.pointer (some ⟨S,0,none⟩),x5.v,x6.v,x7.v,x8.v]) rfl rfl (by simp only[List.map_toArray,List.map_cons,List.map_nil,Act.eval];rfl) (Fg.aI Tryz.func139 (by kernel_rfl) (by kernel_rfl))) ?_
      refine (Bo S _ x5 x6 x7 x8 _ hS Wz V8 ZV ZW).mono ?_
      rintro e w9 ⟨rfl,g9,h9⟩
      replace G:=aj G g9
      refine⟨_,rfl,?_⟩
      clear hQ hS hb4 hb5 hb6 cZ
      go_wp2
      go_end0
      refine⟨rfl,G,_,?_,h9⟩
      have Pk:=Hx8.out;subst Pk
      have hx7:=Hx7.out;subst hx7
      have hx6:=VZ.out;subst hx6
      have hx5:=Hx5.out;subst hx5
      have hx4:=Hx4.out;subst hx4
      have hx3:=S9.out;subst hx3
      have hx2:=FE.out;subst hx2
      have hx1:=mZ.out;subst hx1
      exact (Zu hs hq).ag3 rt
end
section
open Go.RowKit Ed
set_option maxRecDepth 100000 in
set_option maxHeartbeats 3200000 in
theorem wQ (p:Pt) (w0:World) (HT0:eY w0) (iW:p.Ok):
  Calls Tryz.prog 137 #[p.v] w0 fun e w'=>e=.returned (zf p).v/\w0.grownBy w' none:=by
 show Calls Tryz.prog 137 #[.agg (aY p).toArray] w0 _
 go_enter Tryz.func137,Tryz.ntmps137
 go_upto_region 1 with (fail)
 have G:w0.grownBy ((w0.alloc (.cells (aY p).toArray 56)).alloc (.cells bB.toArray 167)) none:=av (av (ah _ _) _) _
 have HT:eY ((w0.alloc (.cells (aY p).toArray 56)).alloc (.cells bB.toArray 167)):=HT0.grown (av (av (ah _ _) _) _)
 have hP:aH ((w0.alloc (.cells (aY p).toArray 56)).alloc (.cells bB.toArray 167)) (w0.heap.size) 56 (aY p):=(aH.new w0 (aY p) _).alloc _
 have hR:aH ((w0.alloc (.cells (aY p).toArray 56)).alloc (.cells bB.toArray 167)) (w0.heap.size+1) 167 bB:=aH.newAt (w0.alloc _) bB _ (by simp)
 revert G HT hP hR
 generalize (w0.alloc (.cells (aY p).toArray 56)).alloc (.cells bB.toArray 167)=W0
 intro G HT hP hR
 have Gs:=G.size
 have lI:=G.size
 have uz:=hP.lt
 have lG:=hR.lt
 refine Fg.rT [] [.any,.any,.any,.val (Value.pointer (some ⟨w0.heap.size,5,none⟩)),.val (p.Y.v),.val (Value.pointer (some ⟨w0.heap.size,0,none⟩)),.val (p.X.v),.val ((Fe.fF p.Y p.X).v),.val (Value.pointer (some ⟨w0.heap.size,5,none⟩)),.val (p.Y.v),.val (Value.pointer (some ⟨w0.heap.size,0,none⟩)),.val (p.X.v),.val ((Fe.iw p.Y p.X).v),.val (Value.pointer (some ⟨w0.heap.size,10,none⟩)),.val (p.Z.v),.val (Value.pointer (some ⟨w0.heap.size,10,none⟩)),.val (p.Z.v),.val ((Fe.fF p.Z p.Z).v),.val (dF.v),.val (Value.pointer (some ⟨w0.heap.size,15,none⟩)),.val (p.T.v),.val (Value.pointer (some ⟨w0.heap.size,15,none⟩)),.val (p.T.v),.val ((Fe.fF p.T p.T).v),.val ((Fe.aM dF (Fe.fF p.T p.T)).v),.val ((zf p).v)] 23 ?_ ?_
 .refine Fg.vS rfl (by decide) (fun _ _ h=>Fg.vn _ (Fg.aF rfl (h.r 1) (iy _ _ _))) ?_
  refine Fg.vS rfl (by decide) (fun _ _ h=>Fg.vn p.Y.v (Fg.run_load rfl (h.d 3) ((hP.gn h.base).range 5 (aR p.Y) rfl) Tryz.underlying54 rfl aD)) ?_
  refine Fg.vS rfl (by decide) (fun _ _ h=>Fg.vn _ (Fg.aF rfl (h.r 1) (fu _ _ _))) ?_
  refine Fg.vS rfl (by decide) (fun _ _ h=>Fg.vn p.X.v (Fg.run_load rfl (h.d 5) ((hP.gn h.base).range 0 (aR p.X) rfl) Tryz.underlying54 rfl aD)) ?_
  refine Fg.cS rfl (by decide) (fun _ w h=>Fg.cq rfl (uO iW.Y iW.X) ⟨h.d 4,h.d 6,trivial⟩ Tryz.func127) ?_
  refine Fg.vS rfl (by decide) (fun _ _ h=>Fg.vn _ (Fg.aF rfl (h.r 1) (iy _ _ _))) ?_
  refine Fg.vS rfl (by decide) (fun _ _ h=>Fg.vn p.Y.v (Fg.run_load rfl (h.d 8) ((hP.gn h.base).range 5 (aR p.Y) rfl) Tryz.underlying54 rfl aD)) ?_
  refine Fg.vS rfl (by decide) (fun _ _ h=>Fg.vn _ (Fg.aF rfl (h.r 1) (fu _ _ _))) ?_
  refine Fg.vS rfl (by decide) (fun _ _ h=>Fg.vn p.X.v (Fg.run_load rfl (h.d 10) ((hP.gn h.base).range 0 (aR p.X) rfl) Tryz.underlying54 rfl aD)) ?_
  refine Fg.cS rfl (by decide) (fun _ w h=>Fg.cq rfl (AU (HT.f.grown h.base) iW.Y iW.X) ⟨h.d 9,h.d 11,trivial⟩ Tryz.func113) ?_
  refine Fg.vS rfl (by decide) (fun _ _ h=>Fg.vn _ (Fg.aF rfl (h.r 1) (fA _ _ _))) ?_
  refine Fg.vS rfl (by decide) (fun _ _ h=>Fg.vn p.Z.v (Fg.run_load rfl (h.d 13) ((hP.gn h.base).range 10 (aR p.Z) rfl) Tryz.underlying54 rfl aD)) ?_
  refine Fg.vS rfl (by decide) (fun _ _ h=>Fg.vn _ (Fg.aF rfl (h.r 1) (fA _ _ _))) ?_
  refine Fg.vS rfl (by decide) (fun _ _ h=>Fg.vn p.Z.v (Fg.run_load rfl (h.d 15) ((hP.gn h.base).range 10 (aR p.Z) rfl) Tryz.underlying54 rfl aD)) ?_
  refine Fg.cS rfl (by decide) (fun _ w h=>Fg.cq rfl (uO iW.Z iW.Z) ⟨h.d 14,h.d 16,trivial⟩ Tryz.func127) ?_
  refine Fg.vS rfl (by decide) (fun ac w h=>?_) ?_
  .exact Fg.vn dF.v (Fg.run_load rfl rfl (HT.grown h.base).d Tryz.underlying54 rfl aD)
  refine Fg.vS rfl (by decide) (fun _ _ h=>Fg.vn _ (Fg.aF rfl (h.r 1) (nR _ _ _))) ?_
  refine Fg.vS rfl (by decide) (fun _ _ h=>Fg.vn p.T.v (Fg.run_load rfl (h.d 19) ((hP.gn h.base).range 15 (aR p.T) rfl) Tryz.underlying54 rfl aD)) ?_
  refine Fg.vS rfl (by decide) (fun _ _ h=>Fg.vn _ (Fg.aF rfl (h.r 1) (nR _ _ _))) ?_
  refine Fg.vS rfl (by decide) (fun _ _ h=>Fg.vn p.T.v (Fg.run_load rfl (h.d 21) ((hP.gn h.base).range 15 (aR p.T) rfl) Tryz.underlying54 rfl aD)) ?_
  refine Fg.cS rfl (by decide) (fun _ w h=>Fg.cq rfl (uO iW.T iW.T) ⟨h.d 20,h.d 22,trivial⟩ Tryz.func127) ?_
  refine Fg.cS rfl (by decide) (fun _ w h=>Fg.cq rfl (jk wM.ok (Fe.dI _ _).ok) ⟨h.d 18,h.d 23,trivial⟩ Tryz.func74) ?_
  refine Fg.vS rfl (by decide) (fun ac w h=>?_) ?_
  .have e7:_=(Fe.fF p.Y p.X).v:=h.d 7
   have e12:_=(Fe.iw p.Y p.X).v:=h.d 12
   have e17:_=(Fe.fF p.Z p.Z).v:=h.d 17
   have e24:_=(Fe.aM dF (Fe.fF p.T p.T)).v:=h.d 24
   exact Fg.vn ((zf p).v) (Fg.run_build (vs:=#[(0,(Fe.fF p.Y p.X).v),(1,(Fe.iw p.Y p.X).v),(2,(Fe.fF p.Z p.Z).v),(3,(Fe.aM dF (Fe.fF p.T p.T)).v)]) rfl (by simp only[List.map_toArray,List.map_cons,List.map_nil,Act.eval,e7,e12,e17,e24]) (by kernel_rfl))
  trivial
 .intro qa V1 g1 hsz hdf hrest aC hpt
  obtain⟨⟨u3,hs3⟩,⟨u4,hs4⟩,⟨u5,hs5⟩,⟨u6,hs6⟩,⟨u7,hs7⟩,⟨u8,lC⟩,⟨u9,jD⟩,⟨u10,fM⟩,⟨u11,d9⟩,⟨u12,fJ⟩,⟨u13,dL⟩,⟨u14,dw⟩,⟨u15,dM⟩,⟨u16,dG⟩,⟨u17,eD⟩,⟨u18,eF⟩,⟨u19,eG⟩,⟨u20,dU⟩,⟨u21,eP⟩,⟨u22,eT⟩,⟨u23,dV⟩,⟨u24,dO⟩,_⟩:=Fg.bn qa [3,4,5,6,7,8,9,10,11,12,13,14,15,16,17,18,19,20,21,22,23,24]
  obtain⟨x1,hx1⟩:∃x:Ad,x=zf p:=⟨_,rfl⟩
  obtain rfl:=Fg.gW (a:=qa) (vs:=[p.v,Value.pointer (some ⟨w0.heap.size,0,none⟩),Value.pointer (some ⟨w0.heap.size+1,0,none⟩),u3,u4,u5,u6,u7,u8,u9,u10,u11,u12,u13,u14,u15,u16,u17,u18,u19,u20,u21,u22,u23,u24,x1.v]) hsz ⟨hrest 0 (by kernel_rfl),hrest 1 (by kernel_rfl),hrest 2 (by kernel_rfl),hs3,hs4,hs5,hs6,hs7,lC,jD,fM,d9,fJ,dL,dw,dM,dG,eD,eF,eG,dU,eP,eT,dV,dO,(show qa.tmps.getD 25 undef=x1.v by rw[hx1];exact aC 25 (by kernel_rfl)),trivial⟩ hdf
  clear hsz hdf hrest aC hpt hs3 hs4 hs5 hs6 hs7 lC jD fM d9 fJ dL dw dM dG eD eF eG dU eP eT dV dO
  have mZ:=Lib.hid hx1;clear hx1
  replace hP:=hP.gn g1
  replace hR:=hR.gn g1
  replace G:=aj G g1
  replace HT:=HT.grown g1
  clear g1
  refine Fg.aV rfl rfl (Fg.run_store (cs:=xV x1) rfl rfl rfl (hR.there 0 20 (by show 0+20<=20;decide)) sV (VT _)) ?_
  replace hP:=hP.au (C:=(w0.heap.size+1)) (cs:=xV x1) 0 (by omega)
  replace hR:aH (V1.setCells (w0.heap.size+1) 0 (xV x1)) (w0.heap.size+1) 167 (xV x1):=hR.bC rfl
  replace G:=aG (cs:=xV x1) G (B:=(w0.heap.size+1)) (by omega) 0
  replace HT:=HT.keep (aK (cs:=xV x1) (ah _ (some (w0.heap.size+1))) 0) (HT0.jW (by omega))
  revert hP hR G HT
  generalize V1.setCells (w0.heap.size+1) 0 (xV x1)=W2
  intro hP hR G HT
  go_wp2_with fail
  have hx1:=mZ.out;subst hx1
  exact bodyPost_ret (v:=(zf p).v) (results_cell_row Tryz.results137 _ _ (w0.heap.size+1) 167 (xV (zf p)).toArray (0,0) _ rfl hR Tryz.underlying167 rfl sV) rfl ⟨rfl,G⟩
end
section
open Go.RowKit Ed
set_option maxRecDepth 100000 in
set_option maxHeartbeats 3200000 in
theorem xY (p:Pt) (w0:World):
  Calls Tryz.prog 108 #[p.v] w0 fun e w'=>e=.returned (oD p).v/\w0.grownBy w' none:=by
 show Calls Tryz.prog 108 #[.agg (aY p).toArray] w0 _
 go_enter Tryz.func108,Tryz.ntmps108
 go_upto_region 1 with (fail)
 have G:w0.grownBy ((w0.alloc (.cells (aY p).toArray 56)).alloc (.cells nX.toArray 159)) none:=av (av (ah _ _) _) _
 have hP:aH ((w0.alloc (.cells (aY p).toArray 56)).alloc (.cells nX.toArray 159)) (w0.heap.size) 56 (aY p):=(aH.new w0 (aY p) _).alloc _
 have hR:aH ((w0.alloc (.cells (aY p).toArray 56)).alloc (.cells nX.toArray 159)) (w0.heap.size+1) 159 nX:=aH.newAt (w0.alloc _) nX _ (by simp)
 revert G hP hR
 generalize (w0.alloc (.cells (aY p).toArray 56)).alloc (.cells nX.toArray 159)=W0
 intro G hP hR
 have Gs:=G.size
 have lI:=G.size
 have uz:=hP.lt
 have lG:=hR.lt
 refine Fg.rT [] [.any,.any,.any,.val (p.v),.val (Value.pointer (some ⟨w0.heap.size,15,none⟩)),.val (p.T.v),.val (Fe.dP.v),.val ((oD p).v)] 5 ?_ ?_
 .refine Fg.vS rfl (by decide) (fun _ _ h=>Fg.vn p.v (Fg.run_load rfl (h.r 1) ((hP.gn h.base).range 0 (aY p) rfl) Tryz.underlying56 rfl aP)) ?_
  refine Fg.vS rfl (by decide) (fun _ _ h=>Fg.vn _ (Fg.aF rfl (h.r 1) (nR _ _ _))) ?_
  refine Fg.vS rfl (by decide) (fun _ _ h=>Fg.vn p.T.v (Fg.run_load rfl (h.d 4) ((hP.gn h.base).range 15 (aR p.T) rfl) Tryz.underlying54 rfl aD)) ?_
  refine Fg.cS rfl (by decide) (fun ac w h=>?_) ?_
  .refine⟨aB rfl,102,#[],Fg.aN rfl rfl (by simp) (Fg.aI Tryz.func102 (by kernel_rfl) (by kernel_rfl)),?_⟩
   exact (DF).mono fun _ _ ⟨he,hg⟩=>⟨_,he,hg,rfl⟩
  refine Fg.vS rfl (by decide) (fun ac w h=>?_) ?_
  .have e3:_=p.v:=h.d 3
   have e5:_=p.T.v:=h.d 5
   have e6:_=Fe.dP.v:=h.d 6
   exact Fg.vn ((oD p).v) (Fg.run_build (vs:=#[(0,p.v),(1,p.T.v),(2,Fe.dP.v)]) rfl (by simp only[List.map_toArray,List.map_cons,List.map_nil,Act.eval,e3,e5,e6]) (by kernel_rfl))
  trivial
 .intro qa V1 g1 hsz hdf hrest aC hpt
  obtain⟨⟨u3,hs3⟩,⟨u4,hs4⟩,⟨u5,hs5⟩,⟨u6,hs6⟩,_⟩:=Fg.bn qa [3,4,5,6]
  obtain⟨x1,hx1⟩:∃x:Sm,x=oD p:=⟨_,rfl⟩
  obtain rfl:=Fg.gW (a:=qa) (vs:=[p.v,Value.pointer (some ⟨w0.heap.size,0,none⟩),Value.pointer (some ⟨w0.heap.size+1,0,none⟩),u3,u4,u5,u6,x1.v]) hsz ⟨hrest 0 (by kernel_rfl),hrest 1 (by kernel_rfl),hrest 2 (by kernel_rfl),hs3,hs4,hs5,hs6,(show qa.tmps.getD 7 undef=x1.v by rw[hx1];exact aC 7 (by kernel_rfl)),trivial⟩ hdf
  clear hsz hdf hrest aC hpt hs3 hs4 hs5 hs6
  have mZ:=Lib.hid hx1;clear hx1
  replace hP:=hP.gn g1
  replace hR:=hR.gn g1
  replace G:=aj G g1
  clear g1
  refine Fg.aV rfl rfl (Fg.run_store (cs:=lF x1) rfl rfl rfl (hR.there 0 30 (by show 0+30<=30;decide)) sU (zy _)) ?_
  replace hP:=hP.au (C:=(w0.heap.size+1)) (cs:=lF x1) 0 (by omega)
  replace hR:aH (V1.setCells (w0.heap.size+1) 0 (lF x1)) (w0.heap.size+1) 159 (lF x1):=hR.bC rfl
  replace G:=aG (cs:=lF x1) G (B:=(w0.heap.size+1)) (by omega) 0
  revert hP hR G
  generalize V1.setCells (w0.heap.size+1) 0 (lF x1)=W2
  intro hP hR G
  go_wp2_with fail
  have hx1:=mZ.out;subst hx1
  exact bodyPost_ret (v:=(oD p).v) (results_cell_row Tryz.results108 _ _ (w0.heap.size+1) 159 (lF (oD p)).toArray (0,0) _ rfl hR Tryz.underlying159 rfl sU) rfl ⟨rfl,G⟩
end
section
open Go.RowKit Ed
theorem Ed.Pm {p:Pr} (hp:On p) (k:Nat):Ed.add (bD k p) (bD k p)=bD (2*k) p:=by rw[Nat.two_mul,iX hp]
def itF:Nat->Sm->Sm
 | 0,s=>s
 | k+1,s=>KJ (itF k s)
set_option maxRecDepth 100000 in
set_option maxHeartbeats 6400000 in
theorem yT (S n:Nat) (s:Sm) (p:Pr) (w0:World) (hn:n<=100) (HT0:eY w0) (HN:Zw S) (hS:aH w0 S 159 (lF s)) (hs:mG s p):
  Calls Tryz.prog 110 #[.pointer (some ⟨S,0,none⟩),.int .i64 n] w0 fun e w'=>e=.returned (.tuple #[])/\w0.grownBy w' (some S)/\∃s',mG s' (bD (2^n) p)/\aH w' S 159 (lF s')/\s'=itF n s:=by
 have hlt:=hS.lt
 go_enter Tryz.func110,Tryz.ntmps110
 go_wp2
 go_loopw [4,5,6,7,8,10] (fun v4 v5 v6 v7 v8 i wr=>∃k:Nat,k<=n/\i=.int .i64 k/\w0.grownBy wr (some S)/\eY wr/\Hid (Fg.jN [v4,v5,v6] wr/\Fg.jN [v7] wr/\Fg.jN [v8] wr)/\∃s',mG s' (bD (2^k) p)/\aH wr S 159 (lF s')/\s'=itF k s) (fun _ _ _ _ _ i _=>n-(intOf i).toNat)
 case atStart=>exact⟨0,by omega,rfl,ah _ _,HT0,Lib.hid ⟨Fg.jO _ _ rfl,Fg.jO _ _ rfl,Fg.jO _ _ rfl⟩,s,by rw[Nat.pow_zero,wL hs.on];exact hs,hS,rfl⟩
 case round=>
  clear hS
  obtain⟨k,hk,rfl,G,HT,HA,s',hs',hS,hd⟩:=hrel
  have HD:=Lib.hid hd;clear hd
  by_cases hkn:k<n
  .have i0:(k:Int)<n:=by omega
   have oks:=hs'.ok
   have HS:Zw S:=HN
   have hz:wr.heap.size<=wr.heap.size:=Nat.le_refl _
   have hwr:=G.size
   go_upto_region 2 with (fail)
   have lI:=G.size
   have Wx:=hS.lt
   refine Fg.jM (ps:=[4,5,6]) [.any,.any,.any,.any,.fresh 54 gX wr.heap.size,.fresh 54 gX wr.heap.size,.fresh 54 gX wr.heap.size,.any,.any,.any,.any,.any,.val (Value.pointer (some ⟨S,0,none⟩)),.val (Value.pointer (some ⟨S,0,none⟩)),.val (Value.pointer (some ⟨S,0,none⟩)),.val (Value.pointer (some ⟨S,0,none⟩)),.val (s'.X.v),.val ((Fe.cu s'.X).v),.val (Value.pointer (some ⟨S,0,none⟩)),.val (Value.pointer (some ⟨S,0,none⟩)),.val (Value.pointer (some ⟨S,0,none⟩)),.val (Value.pointer (some ⟨S,5,none⟩)),.val (s'.Y.v),.val ((Fe.cu s'.Y).v),.val (Value.pointer (some ⟨S,0,none⟩)),.val (Value.pointer (some ⟨S,0,none⟩)),.val (Value.pointer (some ⟨S,0,none⟩)),.val (Value.pointer (some ⟨S,10,none⟩)),.val (s'.Z.v),.val ((Fe.cu s'.Z).v)] (fun w=>World.grownBy wr w none) 21 (aX (ah _ _)) (by kernel_rfl) (by kernel_rfl) (by kernel_rfl) (by kernel_rfl) (by decide) (Fg.qM (l:=[u4,u5,u6]) rfl (Fg.zP HA.out.1)) ?_ ?_
   .refine Fg.vS rfl (by decide) (fun _ _ h=>Fg.vn _ (Fg.run_move rfl (h.r 0))) ?_
    refine Fg.vS rfl (by decide) (fun _ _ h=>Fg.vn _ (Fg.bU rfl (h.d 12))) ?_
    refine Fg.vS rfl (by decide) (fun _ _ h=>Fg.vn _ (Fg.aF rfl (h.d 13) (jm _ _ _))) ?_
    refine Fg.vS rfl (by decide) (fun _ _ h=>Fg.vn _ (Fg.aF rfl (h.d 14) (fu _ _ _))) ?_
    refine Fg.vS rfl (by decide) (fun _ _ h=>Fg.vn (s'.X.v) (Fg.run_load rfl (h.d 15) ((hS.gn h.base).range 0 (aR s'.X) rfl) Tryz.underlying54 rfl aD)) ?_
    refine Fg.cS rfl (by decide) (fun _ w h=>Fg.cq rfl (VX oks.X) ⟨h.d 16,trivial⟩ Tryz.func117) ?_
    refine Fg.vS rfl (by decide) (fun _ _ h=>Fg.vn _ (Fg.run_move rfl (h.r 0))) ?_
    refine Fg.vS rfl (by decide) (fun _ _ h=>Fg.vn _ (Fg.bU rfl (h.d 18))) ?_
    refine Fg.vS rfl (by decide) (fun _ _ h=>Fg.vn _ (Fg.aF rfl (h.d 19) (jm _ _ _))) ?_
    refine Fg.vS rfl (by decide) (fun _ _ h=>Fg.vn _ (Fg.aF rfl (h.d 20) (iy _ _ _))) ?_
    refine Fg.vS rfl (by decide) (fun _ _ h=>Fg.vn (s'.Y.v) (Fg.run_load rfl (h.d 21) ((hS.gn h.base).range 5 (aR s'.Y) rfl) Tryz.underlying54 rfl aD)) ?_
    refine Fg.cS rfl (by decide) (fun _ w h=>Fg.cq rfl (VX oks.Y) ⟨h.d 22,trivial⟩ Tryz.func117) ?_
    refine Fg.vS rfl (by decide) (fun _ _ h=>Fg.vn _ (Fg.run_move rfl (h.r 0))) ?_
    refine Fg.vS rfl (by decide) (fun _ _ h=>Fg.vn _ (Fg.bU rfl (h.d 24))) ?_
    refine Fg.vS rfl (by decide) (fun _ _ h=>Fg.vn _ (Fg.aF rfl (h.d 25) (jm _ _ _))) ?_
    refine Fg.vS rfl (by decide) (fun _ _ h=>Fg.vn _ (Fg.aF rfl (h.d 26) (fA _ _ _))) ?_
    refine Fg.vS rfl (by decide) (fun _ _ h=>Fg.vn (s'.Z.v) (Fg.run_load rfl (h.d 27) ((hS.gn h.base).range 10 (aR s'.Z) rfl) Tryz.underlying54 rfl aD)) ?_
    refine Fg.cS rfl (by decide) (fun _ w h=>Fg.cq rfl (VX oks.Z) ⟨h.d 28,trivial⟩ Tryz.func117) ?_
    refine⟨⟨⟨_,rfl⟩,Fg.gF (fun _ _ h k=>aj h k) rfl (by show 4<59;decide) fun ac w h=>?_⟩,?_⟩
    .refine⟨aB rfl,w.alloc (.cells gX.toArray 54),?_,World.grownBy_alloc _ _ _,by simp,⟨w.heap.size,rfl,h.base.size,aH.new w gX _⟩⟩
     clear h
     go_simp
    refine⟨⟨⟨_,rfl⟩,Fg.gF (fun _ _ h k=>aj h k) rfl (by show 5<59;decide) fun ac w h=>?_⟩,?_⟩
    .refine⟨aB rfl,w.alloc (.cells gX.toArray 54),?_,World.grownBy_alloc _ _ _,by simp,⟨w.heap.size,rfl,h.base.size,aH.new w gX _⟩⟩
     clear h
     go_simp
    refine⟨⟨⟨_,rfl⟩,Fg.gF (fun _ _ h k=>aj h k) rfl (by show 6<59;decide) fun ac w h=>?_⟩,?_⟩
    .refine⟨aB rfl,w.alloc (.cells gX.toArray 54),?_,World.grownBy_alloc _ _ _,by simp,⟨w.heap.size,rfl,h.base.size,aH.new w gX _⟩⟩
     clear h
     go_simp
    trivial
   .intro qa V1 g1 hsz hdf hrest aC hpt
    obtain⟨N4,hs4,MX,hb4⟩:∃N,qa.tmps.getD 4 undef=.pointer (some ⟨N,0,none⟩)/\wr.heap.size<=N/\aH V1 N 54 gX:=aC 4 (by kernel_rfl)
    obtain⟨N5,hs5,Qv,hb5⟩:∃N,qa.tmps.getD 5 undef=.pointer (some ⟨N,0,none⟩)/\wr.heap.size<=N/\aH V1 N 54 gX:=aC 5 (by kernel_rfl)
    obtain⟨N6,hs6,OZ,hb6⟩:∃N,qa.tmps.getD 6 undef=.pointer (some ⟨N,0,none⟩)/\wr.heap.size<=N/\aH V1 N 54 gX:=aC 6 (by kernel_rfl)
    obtain⟨⟨u12,fJ⟩,⟨u13,dL⟩,⟨u14,dw⟩,⟨u15,dM⟩,⟨u16,dG⟩,_⟩:=Fg.bn qa [12,13,14,15,16]
    obtain⟨x1,hx1⟩:∃x:Fe,x=Fe.cu s'.X:=⟨_,rfl⟩
    obtain⟨⟨u18,eF⟩,⟨u19,eG⟩,⟨u20,dU⟩,⟨u21,eP⟩,⟨u22,eT⟩,_⟩:=Fg.bn qa [18,19,20,21,22]
    obtain⟨x2,hx2⟩:∃x:Fe,x=Fe.cu s'.Y:=⟨_,rfl⟩
    obtain⟨⟨u24,dO⟩,⟨u25,eH⟩,⟨u26,eO⟩,⟨u27,fK⟩,⟨u28,jd⟩,_⟩:=Fg.bn qa [24,25,26,27,28]
    obtain⟨x3,hx3⟩:∃x:Fe,x=Fe.cu s'.Z:=⟨_,rfl⟩
    have amC:N4≠N5:=fun e=>(hpt 4 (by simp) N4 hs4).2 5 (by simp) (by decide) (by rw[hs5,e])
    have amD:N4≠N6:=fun e=>(hpt 4 (by simp) N4 hs4).2 6 (by simp) (by decide) (by rw[hs6,e])
    have amE:N5≠N6:=fun e=>(hpt 5 (by simp) N5 hs5).2 6 (by simp) (by decide) (by rw[hs6,e])
    obtain rfl:=Fg.aQ [4,5,6,12,13,14,15,16,17,18,19,20,21,22,23,24,25,26,27,28,29] (vs:=[_,_,_,_,Value.pointer (some ⟨N4,0,none⟩),Value.pointer (some ⟨N5,0,none⟩),Value.pointer (some ⟨N6,0,none⟩),_,_,_,_,_,u12,u13,u14,u15,u16,x1.v,u18,u19,u20,u21,u22,x2.v,u24,u25,u26,u27,u28,x3.v,_,_,_,_,_,_,_,_,_,_,_,_,_,_,_,_,_,_,_,_,_,_,_,_,_,_,_,_,_]) hsz hrest (by kernel_rfl) rfl rfl ⟨hs4,hs5,hs6,fJ,dL,dw,dM,dG,(show qa.tmps.getD 17 undef=x1.v by rw[hx1];exact aC 17 (by kernel_rfl)),eF,eG,dU,eP,eT,(show qa.tmps.getD 23 undef=x2.v by rw[hx2];exact aC 23 (by kernel_rfl)),dO,eH,eO,fK,jd,(show qa.tmps.getD 29 undef=x3.v by rw[hx3];exact aC 29 (by kernel_rfl)),trivial⟩ hdf
    clear hsz hdf hrest aC hpt hs4 hs5 hs6 fJ dL dw dM dG eF eG dU eP eT dO eH eO fK jd
    have mZ:=Lib.hid hx1;clear hx1
    have FE:=Lib.hid hx2;clear hx2
    have S9:=Lib.hid hx3;clear hx3
    replace hS:=hS.gn g1
    replace G:=aj G (dB g1 _)
    replace HT:=HT.grown g1
    replace hz:=Nat.le_trans hz g1.size
    have mH:x1.Ok:=by rw[mZ.out];exact (Fe.dS _).ok
    have KY:x2.Ok:=by rw[FE.out];exact (Fe.dS _).ok
    have Pj:x3.Ok:=by rw[S9.out];exact (Fe.dS _).ok
    have hw4:w0.heap.size<=N4:=Nat.le_trans lI MX
    have FH:w0.heap.size<=N5:=Nat.le_trans lI Qv
    have DI:w0.heap.size<=N6:=Nat.le_trans lI OZ
    clear g1
    refine Fg.aV rfl rfl (Fg.run_store (cs:=aR x1) rfl rfl rfl (hb4.there 0 5 (by show 0+5<=5;decide)) aD (cB _)) ?_
    replace hS:=hS.au (C:=N4) (cs:=aR x1) 0 (by omega)
    replace hb4:aH (V1.setCells N4 0 (aR x1)) N4 54 (aR x1):=hb4.bC rfl
    replace hb5:=hb5.au (C:=N4) (cs:=aR x1) 0 (by omega)
    replace hb6:=hb6.au (C:=N4) (cs:=aR x1) 0 (by omega)
    replace hz:=Nat.le_trans hz (aK (cs:=aR x1) (ah V1 (some N4)) 0).size
    replace G:=aG (cs:=aR x1) G (B:=N4) (hw4) 0
    replace HT:=HT.keep (aK (cs:=aR x1) (ah _ (some N4)) 0) (HT0.jW (hw4))
    revert hS hb4 hb5 hb6 hz G HT
    generalize V1.setCells N4 0 (aR x1)=W2
    intro hS hb4 hb5 hb6 hz G HT
    refine Fg.aV rfl rfl (Fg.run_store (cs:=aR x2) rfl rfl rfl (hb5.there 0 5 (by show 0+5<=5;decide)) aD (cB _)) ?_
    replace hS:=hS.au (C:=N5) (cs:=aR x2) 0 (by omega)
    replace hb4:=hb4.au (C:=N5) (cs:=aR x2) 0 (by omega)
    replace hb5:aH (W2.setCells N5 0 (aR x2)) N5 54 (aR x2):=hb5.bC rfl
    replace hb6:=hb6.au (C:=N5) (cs:=aR x2) 0 (by omega)
    replace hz:=Nat.le_trans hz (aK (cs:=aR x2) (ah W2 (some N5)) 0).size
    replace G:=aG (cs:=aR x2) G (B:=N5) (FH) 0
    replace HT:=HT.keep (aK (cs:=aR x2) (ah _ (some N5)) 0) (HT0.jW (FH))
    revert hS hb4 hb5 hb6 hz G HT
    generalize W2.setCells N5 0 (aR x2)=W3
    intro hS hb4 hb5 hb6 hz G HT
    refine Fg.aV rfl rfl (Fg.run_store (cs:=aR x3) rfl rfl rfl (hb6.there 0 5 (by show 0+5<=5;decide)) aD (cB _)) ?_
    replace hS:=hS.au (C:=N6) (cs:=aR x3) 0 (by omega)
    replace hb4:=hb4.au (C:=N6) (cs:=aR x3) 0 (by omega)
    replace hb5:=hb5.au (C:=N6) (cs:=aR x3) 0 (by omega)
    replace hb6:aH (W3.setCells N6 0 (aR x3)) N6 54 (aR x3):=hb6.bC rfl
    replace hz:=Nat.le_trans hz (aK (cs:=aR x3) (ah W3 (some N6)) 0).size
    replace G:=aG (cs:=aR x3) G (B:=N6) (DI) 0
    replace HT:=HT.keep (aK (cs:=aR x3) (ah _ (some N6)) 0) (HT0.jW (DI))
    revert hS hb4 hb5 hb6 hz G HT
    generalize W3.setCells N6 0 (aR x3)=W4
    intro hS hb4 hb5 hb6 hz G HT
    go_upto_region 3 with (fail)
    have O1:=G.size
    have Wy:=hS.lt
    have GV:=hb4.lt
    have wR:=hb5.lt
    have GQ:=hb6.lt
    refine Fg.jM (ps:=[7]) [.any,.any,.any,.any,.any,.any,.any,.fresh 54 gX W4.heap.size,.any,.any,.any,.any,.any,.any,.any,.any,.any,.any,.any,.any,.any,.any,.any,.any,.any,.any,.any,.any,.any,.any,.val (Value.pointer (some ⟨S,0,none⟩)),.val (Value.pointer (some ⟨S,0,none⟩)),.val (Value.pointer (some ⟨S,0,none⟩)),.val (Value.pointer (some ⟨S,0,none⟩)),.val (s'.X.v),.val (Value.pointer (some ⟨S,0,none⟩)),.val (Value.pointer (some ⟨S,0,none⟩)),.val (Value.pointer (some ⟨S,0,none⟩)),.val (Value.pointer (some ⟨S,5,none⟩)),.val (s'.Y.v),.val ((Fe.aM s'.X s'.Y).v)] (fun w=>World.grownBy W4 w none) 12 (aX (ah _ _)) (by kernel_rfl) (by kernel_rfl) (by kernel_rfl) (by kernel_rfl) (by decide) (Fg.qM (l:=[u7]) rfl (Fg.zP (HA.out.2.1.mono hz))) ?_ ?_
    .refine Fg.vS rfl (by decide) (fun _ _ h=>Fg.vn _ (Fg.run_move rfl (h.r 0))) ?_
     refine Fg.vS rfl (by decide) (fun _ _ h=>Fg.vn _ (Fg.bU rfl (h.d 30))) ?_
     refine Fg.vS rfl (by decide) (fun _ _ h=>Fg.vn _ (Fg.aF rfl (h.d 31) (jm _ _ _))) ?_
     refine Fg.vS rfl (by decide) (fun _ _ h=>Fg.vn _ (Fg.aF rfl (h.d 32) (fu _ _ _))) ?_
     refine Fg.vS rfl (by decide) (fun _ _ h=>Fg.vn (s'.X.v) (Fg.run_load rfl (h.d 33) ((hS.gn h.base).range 0 (aR s'.X) rfl) Tryz.underlying54 rfl aD)) ?_
     refine Fg.vS rfl (by decide) (fun _ _ h=>Fg.vn _ (Fg.run_move rfl (h.r 0))) ?_
     refine Fg.vS rfl (by decide) (fun _ _ h=>Fg.vn _ (Fg.bU rfl (h.d 35))) ?_
     refine Fg.vS rfl (by decide) (fun _ _ h=>Fg.vn _ (Fg.aF rfl (h.d 36) (jm _ _ _))) ?_
     refine Fg.vS rfl (by decide) (fun _ _ h=>Fg.vn _ (Fg.aF rfl (h.d 37) (iy _ _ _))) ?_
     refine Fg.vS rfl (by decide) (fun _ _ h=>Fg.vn (s'.Y.v) (Fg.run_load rfl (h.d 38) ((hS.gn h.base).range 5 (aR s'.Y) rfl) Tryz.underlying54 rfl aD)) ?_
     refine Fg.cS rfl (by decide) (fun _ w h=>Fg.cq rfl (jk oks.X oks.Y) ⟨h.d 34,h.d 39,trivial⟩ Tryz.func74) ?_
     refine⟨⟨⟨_,rfl⟩,Fg.gF (fun _ _ h k=>aj h k) rfl (by show 7<59;decide) fun ac w h=>?_⟩,?_⟩
     .refine⟨aB rfl,w.alloc (.cells gX.toArray 54),?_,World.grownBy_alloc _ _ _,by simp,⟨w.heap.size,rfl,h.base.size,aH.new w gX _⟩⟩
      clear h
      go_simp
     trivial
    .intro qa V5 g5 hsz hdf hrest aC hpt
     obtain⟨N7,hs7,VY,cZ⟩:∃N,qa.tmps.getD 7 undef=.pointer (some ⟨N,0,none⟩)/\W4.heap.size<=N/\aH V5 N 54 gX:=aC 7 (by kernel_rfl)
     obtain⟨⟨u30,iP⟩,⟨u31,gL⟩,⟨u32,jR⟩,⟨u33,jA⟩,⟨u34,iZ⟩,⟨u35,jS⟩,⟨u36,jT⟩,⟨u37,kU⟩,⟨u38,kV⟩,⟨u39,oF⟩,_⟩:=Fg.bn qa [30,31,32,33,34,35,36,37,38,39]
     obtain⟨x4,hx4⟩:∃x:Fe,x=Fe.aM s'.X s'.Y:=⟨_,rfl⟩
     obtain rfl:=Fg.aQ [7,30,31,32,33,34,35,36,37,38,39,40] (vs:=[_,_,_,_,_,_,_,Value.pointer (some ⟨N7,0,none⟩),_,_,_,_,_,_,_,_,_,_,_,_,_,_,_,_,_,_,_,_,_,_,u30,u31,u32,u33,u34,u35,u36,u37,u38,u39,x4.v,_,_,_,_,_,_,_,_,_,_,_,_,_,_,_,_,_,_]) hsz hrest (by kernel_rfl) rfl rfl ⟨hs7,iP,gL,jR,jA,iZ,jS,jT,kU,kV,oF,(show qa.tmps.getD 40 undef=x4.v by rw[hx4];exact aC 40 (by kernel_rfl)),trivial⟩ hdf
     clear hsz hdf hrest aC hpt hs7 iP gL jR jA iZ jS jT kU kV oF
     have Hx4:=Lib.hid hx4;clear hx4
     replace hS:=hS.gn g5
     replace hb4:=hb4.gn g5
     replace hb5:=hb5.gn g5
     replace hb6:=hb6.gn g5
     replace G:=aj G (dB g5 _)
     replace HT:=HT.grown g5
     replace hz:=Nat.le_trans hz g5.size
     have Ta:x4.Ok:=by rw[Hx4.out];exact (Fe.mul_right _ _).ok
     have hw7:w0.heap.size<=N7:=Nat.le_trans O1 VY
     clear g5
     refine Fg.aV rfl rfl (Fg.run_store (cs:=aR x4) rfl rfl rfl (cZ.there 0 5 (by show 0+5<=5;decide)) aD (cB _)) ?_
     replace hS:=hS.au (C:=N7) (cs:=aR x4) 0 (by omega)
     replace hb4:=hb4.au (C:=N7) (cs:=aR x4) 0 (by omega)
     replace hb5:=hb5.au (C:=N7) (cs:=aR x4) 0 (by omega)
     replace hb6:=hb6.au (C:=N7) (cs:=aR x4) 0 (by omega)
     replace cZ:aH (V5.setCells N7 0 (aR x4)) N7 54 (aR x4):=cZ.bC rfl
     replace hz:=Nat.le_trans hz (aK (cs:=aR x4) (ah V5 (some N7)) 0).size
     replace G:=aG (cs:=aR x4) G (B:=N7) (hw7) 0
     replace HT:=HT.keep (aK (cs:=aR x4) (ah _ (some N7)) 0) (HT0.jW (hw7))
     revert hS hb4 hb5 hb6 cZ hz G HT
     generalize V5.setCells N7 0 (aR x4)=W6
     intro hS hb4 hb5 hb6 cZ hz G HT
     go_upto_region 4 with (fail)
     have Gs6:=G.size
     have ZT:=hS.lt
     have DK:=hb4.lt
     have yS:=hb5.lt
     have yN:=hb6.lt
     have yO:=cZ.lt
     refine Fg.iK (ps:=[8]) [.any,.any,.any,.any,.any,.any,.any,.any,.fresh 54 gX W6.heap.size,.any,.any,.any,.any,.any,.any,.any,.any,.any,.any,.any,.any,.any,.any,.any,.any,.any,.any,.any,.any,.any,.any,.any,.any,.any,.any,.any,.any,.any,.any,.any,.any,.val (x2.v),.val (x1.v),.val ((Fe.iw x2 x1).v)] (fun w=>World.grownBy W6 w none) 4 (ah _ _) (by kernel_rfl) (by kernel_rfl) (by decide) (Fg.qM (l:=[u8]) rfl (HA.out.2.2.mono hz)) ?_ ?_
     .refine Fg.vS rfl (by decide) (fun _ _ h=>Fg.vn x2.v (Fg.run_load rfl (h.r 5) ((hb5.gn h.base).range 0 (aR x2) rfl) Tryz.underlying54 rfl aD)) ?_
      refine Fg.vS rfl (by decide) (fun _ _ h=>Fg.vn x1.v (Fg.run_load rfl (h.r 4) ((hb4.gn h.base).range 0 (aR x1) rfl) Tryz.underlying54 rfl aD)) ?_
      refine Fg.cS rfl (by decide) (fun _ w h=>Fg.cq rfl (AU (HT.f.grown h.base) KY mH) ⟨h.d 41,h.d 42,trivial⟩ Tryz.func113) ?_
      refine⟨⟨⟨_,rfl⟩,Fg.gF (fun _ _ h k=>aj h k) rfl (by show 8<59;decide) fun ac w h=>?_⟩,?_⟩
      .refine⟨aB rfl,w.alloc (.cells gX.toArray 54),?_,World.grownBy_alloc _ _ _,by simp,⟨w.heap.size,rfl,h.base.size,aH.new w gX _⟩⟩
       clear h
       go_simp
      trivial
     .intro qa V7 g7 hsz hdf hrest aC hpt
      obtain⟨N8,lC,hn8,gD⟩:∃N,qa.tmps.getD 8 undef=.pointer (some ⟨N,0,none⟩)/\W6.heap.size<=N/\aH V7 N 54 gX:=aC 8 (by kernel_rfl)
      obtain⟨u41,qC⟩:=Fg.bL qa 41
      obtain⟨u42,mJ⟩:=Fg.bL qa 42
      obtain⟨x5,hx5⟩:∃x:Fe,x=Fe.iw x2 x1:=⟨_,rfl⟩
      obtain rfl:=Fg.aQ [8,41,42,43] (vs:=[_,_,_,_,_,_,_,_,Value.pointer (some ⟨N8,0,none⟩),_,_,_,_,_,_,_,_,_,_,_,_,_,_,_,_,_,_,_,_,_,_,_,_,_,_,_,_,_,_,_,_,u41,u42,x5.v,_,_,_,_,_,_,_,_,_,_,_,_,_,_,_]) hsz hrest (by kernel_rfl) rfl rfl ⟨lC,qC,mJ,(show qa.tmps.getD 43 undef=x5.v by rw[hx5];exact aC 43 (by kernel_rfl)),trivial⟩ hdf
      clear hsz hdf hrest aC hpt lC qC mJ
      have Hx5:=Lib.hid hx5;clear hx5
      replace hS:=hS.gn g7
      replace hb4:=hb4.gn g7
      replace hb5:=hb5.gn g7
      replace hb6:=hb6.gn g7
      replace cZ:=cZ.gn g7
      replace G:=aj G (dB g7 _)
      replace HT:=HT.grown g7
      replace hz:=Nat.le_trans hz g7.size
      have Wz:x5.Ok:=by rw[Hx5.out];exact (Fe.fQ _ _).ok
      have hw8:w0.heap.size<=N8:=Nat.le_trans Gs6 hn8
      clear g7
      refine Fg.aV rfl rfl (Fg.run_store (cs:=aR x5) rfl rfl rfl (gD.there 0 5 (by show 0+5<=5;decide)) aD (cB _)) ?_
      replace hS:=hS.au (C:=N8) (cs:=aR x5) 0 (by omega)
      replace hb4:=hb4.au (C:=N8) (cs:=aR x5) 0 (by omega)
      replace hb5:=hb5.au (C:=N8) (cs:=aR x5) 0 (by omega)
      replace hb6:=hb6.au (C:=N8) (cs:=aR x5) 0 (by omega)
      replace cZ:=cZ.au (C:=N8) (cs:=aR x5) 0 (by omega)
      replace gD:aH (V7.setCells N8 0 (aR x5)) N8 54 (aR x5):=gD.bC rfl
      replace hz:=Nat.le_trans hz (aK (cs:=aR x5) (ah V7 (some N8)) 0).size
      replace G:=aG (cs:=aR x5) G (B:=N8) (hw8) 0
      replace HT:=HT.keep (aK (cs:=aR x5) (ah _ (some N8)) 0) (HT0.jW (hw8))
      revert hS hb4 hb5 hb6 cZ gD hz G HT
      generalize V7.setCells N8 0 (aR x5)=W8
      intro hS hb4 hb5 hb6 cZ gD hz G HT
      go_upto_region 5 with (fail)
      have Gs8:=G.size
      have acV:=hS.lt
      have YA:=hb4.lt
      have Nc:=hb5.lt
      have AY:=hb6.lt
      have DJ:=cZ.lt
      have Td:=gD.lt
      refine Fg.rT [] [.any,.any,.any,.any,.any,.any,.any,.any,.any,.any,.any,.any,.any,.any,.any,.any,.any,.any,.any,.any,.any,.any,.any,.any,.any,.any,.any,.any,.any,.any,.any,.any,.any,.any,.any,.any,.any,.any,.any,.any,.any,.any,.any,.any,.val (Value.pointer (some ⟨S,0,none⟩)),.val (x4.v),.val (x4.v),.val ((Fe.fF x4 x4).v),.val (x5.v),.val (x2.v),.val (x1.v),.val ((Fe.fF x2 x1).v),.val (x3.v),.val (x3.v),.val ((Fe.fF x3 x3).v),.val (x5.v),.val ((Fe.iw (Fe.fF x3 x3) x5).v)] 13 ?_ ?_
      .refine Fg.vS rfl (by decide) (fun _ _ h=>Fg.vn _ (Fg.run_move rfl (h.r 0))) ?_
       refine Fg.vS rfl (by decide) (fun _ _ h=>Fg.vn x4.v (Fg.run_load rfl (h.r 7) ((cZ.gn h.base).range 0 (aR x4) rfl) Tryz.underlying54 rfl aD)) ?_
       refine Fg.vS rfl (by decide) (fun _ _ h=>Fg.vn x4.v (Fg.run_load rfl (h.r 7) ((cZ.gn h.base).range 0 (aR x4) rfl) Tryz.underlying54 rfl aD)) ?_
       refine Fg.cS rfl (by decide) (fun _ w h=>Fg.cq rfl (uO Ta Ta) ⟨h.d 45,h.d 46,trivial⟩ Tryz.func127) ?_
       refine Fg.vS rfl (by decide) (fun _ _ h=>Fg.vn x5.v (Fg.run_load rfl (h.r 8) ((gD.gn h.base).range 0 (aR x5) rfl) Tryz.underlying54 rfl aD)) ?_
       refine Fg.vS rfl (by decide) (fun _ _ h=>Fg.vn x2.v (Fg.run_load rfl (h.r 5) ((hb5.gn h.base).range 0 (aR x2) rfl) Tryz.underlying54 rfl aD)) ?_
       refine Fg.vS rfl (by decide) (fun _ _ h=>Fg.vn x1.v (Fg.run_load rfl (h.r 4) ((hb4.gn h.base).range 0 (aR x1) rfl) Tryz.underlying54 rfl aD)) ?_
       refine Fg.cS rfl (by decide) (fun _ w h=>Fg.cq rfl (uO KY mH) ⟨h.d 49,h.d 50,trivial⟩ Tryz.func127) ?_
       refine Fg.vS rfl (by decide) (fun _ _ h=>Fg.vn x3.v (Fg.run_load rfl (h.r 6) ((hb6.gn h.base).range 0 (aR x3) rfl) Tryz.underlying54 rfl aD)) ?_
       refine Fg.vS rfl (by decide) (fun _ _ h=>Fg.vn x3.v (Fg.run_load rfl (h.r 6) ((hb6.gn h.base).range 0 (aR x3) rfl) Tryz.underlying54 rfl aD)) ?_
       refine Fg.cS rfl (by decide) (fun _ w h=>Fg.cq rfl (uO Pj Pj) ⟨h.d 52,h.d 53,trivial⟩ Tryz.func127) ?_
       refine Fg.vS rfl (by decide) (fun _ _ h=>Fg.vn x5.v (Fg.run_load rfl (h.r 8) ((gD.gn h.base).range 0 (aR x5) rfl) Tryz.underlying54 rfl aD)) ?_
       refine Fg.cS rfl (by decide) (fun _ w h=>Fg.cq rfl (AU (HT.f.grown h.base) (Fe.dI _ _).ok Wz) ⟨h.d 54,h.d 55,trivial⟩ Tryz.func113) ?_
       trivial
      .intro qa V9 g9 hsz hdf hrest aC hpt
       obtain⟨u45,mK⟩:=Fg.bL qa 45
       obtain⟨u46,mM⟩:=Fg.bL qa 46
       obtain⟨x6,hx6⟩:∃x:Fe,x=Fe.fF x4 x4:=⟨_,rfl⟩
       obtain⟨u49,Il⟩:=Fg.bL qa 49
       obtain⟨u50,Im⟩:=Fg.bL qa 50
       obtain⟨x7,hx7⟩:∃x:Fe,x=Fe.fF x2 x1:=⟨_,rfl⟩
       obtain⟨⟨u52,Ii⟩,⟨u53,Te⟩,⟨u54,Ij⟩,⟨u55,Ik⟩,_⟩:=Fg.bn qa [52,53,54,55]
       obtain⟨x8,Pk⟩:∃x:Fe,x=Fe.iw (Fe.fF x3 x3) x5:=⟨_,rfl⟩
       obtain rfl:=Fg.aQ [44,45,46,47,48,49,50,51,52,53,54,55,56] (vs:=[_,_,_,_,_,_,_,_,_,_,_,_,_,_,_,_,_,_,_,_,_,_,_,_,_,_,_,_,_,_,_,_,_,_,_,_,_,_,_,_,_,_,_,_,Value.pointer (some ⟨S,0,none⟩),u45,u46,x6.v,x5.v,u49,u50,x7.v,u52,u53,u54,u55,x8.v,_,_]) hsz hrest (by kernel_rfl) rfl rfl ⟨(show qa.tmps.getD 44 undef=Value.pointer (some ⟨S,0,none⟩) from aC 44 (by kernel_rfl)),mK,mM,(show qa.tmps.getD 47 undef=x6.v by rw[hx6];exact aC 47 (by kernel_rfl)),(show qa.tmps.getD 48 undef=x5.v from aC 48 (by kernel_rfl)),Il,Im,(show qa.tmps.getD 51 undef=x7.v by rw[hx7];exact aC 51 (by kernel_rfl)),Ii,Te,Ij,Ik,(show qa.tmps.getD 56 undef=x8.v by rw[Pk];exact aC 56 (by kernel_rfl)),trivial⟩ hdf
       clear hsz hdf hrest aC hpt mK mM Il Im Ii Te Ij Ik
       have VZ:=Lib.hid hx6;clear hx6
       have Hx7:=Lib.hid hx7;clear hx7
       have Hx8:=Lib.hid Pk;clear Pk
       replace hS:=hS.gn g9
       replace hb4:=hb4.gn g9
       replace hb5:=hb5.gn g9
       replace hb6:=hb6.gn g9
       replace cZ:=cZ.gn g9
       replace gD:=gD.gn g9
       replace G:=aj G (dB g9 _)
       replace HT:=HT.grown g9
       replace hz:=Nat.le_trans hz g9.size
       have V8:x6.Ok:=by rw[VZ.out];exact (Fe.dI _ _).ok
       have ZV:x7.Ok:=by rw[Hx7.out];exact (Fe.dI _ _).ok
       have ZW:x8.Ok:=by rw[Hx8.out];exact (Fe.fQ _ _).ok
       clear g9
       have acW:=hS.lt
       have YB:=hb4.lt
       have Nf:=hb5.lt
       have MQ:=hb6.lt
       have MR:=cZ.lt
       have Io:=gD.lt
       refine Fg.bP rfl (Fg.aN (vs:=#[Value.pointer (some ⟨S,0,none⟩),x6.v,x5.v,x7.v,x8.v]) rfl rfl (by simp only[List.map_toArray,List.map_cons,List.map_nil,Act.eval];rfl) (Fg.aI Tryz.func139 (by kernel_rfl) (by kernel_rfl))) ?_
       refine (Bo S _ x6 x5 x7 x8 _ hS V8 Wz ZV ZW).mono ?_
       rintro e w9 ⟨rfl,g9,h9⟩
       replace G:=aj G g9
       replace HT:=HT.keep g9 HS
       have z9:=g9.size
       refine⟨_,rfl,?_⟩
       have WA:=Lib.hid (And.intro (Fg.FN (A:=N4) (B:=N5) (C:=N6) (w:=w9) (by omega) (by omega) (by omega) (by omega) (by omega) (by omega)) (And.intro (Fg.nN (N:=N7) (w:=w9) (by omega)) (Fg.nN (N:=N8) (w:=w9) (by omega))))
       have jD:mG (bF s'.T x6 x5 x7 x8) (bD (2^(k+1)) p):=by
        have Pk:=Hx8.out;subst Pk
        have hx7:=Hx7.out;subst hx7
        have hx6:=VZ.out;subst hx6
        have hx5:=Hx5.out;subst hx5
        have hx4:=Hx4.out;subst hx4
        have hx3:=S9.out;subst hx3
        have hx2:=FE.out;subst hx2
        have hx1:=mZ.out;subst hx1
        rw[Nat.pow_succ,Nat.mul_comm,<- Pm hs.on]
        exact MN hs'
       have hd9:bF s'.T x6 x5 x7 x8=itF (k+1) s:=by
        have Pk:=Hx8.out;subst Pk
        have hx7:=Hx7.out;subst hx7
        have hx6:=VZ.out;subst hx6
        have hx5:=Hx5.out;subst hx5
        have hx4:=Hx4.out;subst hx4
        have hx3:=S9.out;subst hx3
        have hx2:=FE.out;subst hx2
        have hx1:=mZ.out;subst hx1
        rw[HD.out]
        rfl
       have H9:=Lib.hid (And.intro jD (And.intro h9 hd9))
       clear hS hb4 hb5 hb6 cZ gD jD h9 hd9
       clear Wx Wy GV wR GQ ZT DK yS yN yO acV YA Nc AY DJ Td acW YB Nf MQ MR Io
       go_wp2
       go_roundw
       case rel=>exact⟨k+1,by omega,by go_num,G,HT,WA,_,H9.out.1,H9.out.2.1,H9.out.2.2⟩
       case measure=>simp[intOf];omega
  .obtain rfl:k=n:=by omega
   have H9:=Lib.hid (And.intro hs' (And.intro hS HD.out));clear hs' hS HD
   go_wp2
   go_end0
   exact⟨rfl,G,_,H9.out.1,H9.out.2.1,H9.out.2.2⟩
theorem yU (S n:Nat) (s:Sm) (p:Pr) (w0:World) (hn:n<=100) (HT0:eY w0) (HN:Zw S) (hS:aH w0 S 159 (lF s)) (hs:mG s p):
  Calls Tryz.prog 110 #[.pointer (some ⟨S,0,none⟩),.int .i64 n] w0 fun e w'=>e=.returned (.tuple #[])/\w0.grownBy w' (some S)/\∃s',mG s' (bD (2^n) p)/\aH w' S 159 (lF s'):=
 (yT S n s p w0 hn HT0 HN hS hs).mono fun _ _ ⟨he,hg,s',h1,h2,_⟩=>⟨he,hg,s',h1,h2⟩
end
section
open Go.RowKit Ed
set_option maxRecDepth 100000 in
set_option maxHeartbeats 3200000 in
theorem Tf (w0:World):
  Calls Tryz.prog 92 #[] w0 fun e w'=>e=.returned bQ.v/\w0.grownBy w' none:=by
 go_enter Tryz.func92,Tryz.ntmps92
 go_upto_region 1 with (fail)
 have G:w0.grownBy (w0.alloc (.cells bB.toArray 56)) none:=av (ah _ _) _
 have hR:aH (w0.alloc (.cells bB.toArray 56)) (w0.heap.size) 56 bB:=aH.new w0 bB _
 revert G hR
 generalize w0.alloc (.cells bB.toArray 56)=W0
 intro G hR
 have Gs:=G.size
 have lI:=G.size
 have lG:=hR.lt
 refine Fg.rP [] [.any,.val (Fe.dP.v),.val (Fe.dP.v),.val (bQ.v)] 3 ?_ ?_
 .refine Fg.cS rfl (by decide) (fun ac w h=>?_) ?_
  .refine⟨aB rfl,102,#[],Fg.aN rfl rfl (by simp) (Fg.aI Tryz.func102 (by kernel_rfl) (by kernel_rfl)),?_⟩
   exact (DF).mono fun _ _ ⟨he,hg⟩=>⟨_,he,hg,rfl⟩
  refine Fg.cS rfl (by decide) (fun ac w h=>?_) ?_
  .refine⟨aB rfl,102,#[],Fg.aN rfl rfl (by simp) (Fg.aI Tryz.func102 (by kernel_rfl) (by kernel_rfl)),?_⟩
   exact (DF).mono fun _ _ ⟨he,hg⟩=>⟨_,he,hg,rfl⟩
  refine Fg.vS rfl (by decide) (fun ac w h=>?_) ?_
  .have e1:_=Fe.dP.v:=h.d 1
   have e2:_=Fe.dP.v:=h.d 2
   exact Fg.vn bQ.v (Fg.run_build (vs:=#[(1,Fe.dP.v),(2,Fe.dP.v)]) rfl (by simp only[List.map_toArray,List.map_cons,List.map_nil,Act.eval,e1,e2]) (by kernel_rfl))
  trivial
 .intro qa V1 g1 hsz hdf hrest aC hpt
  obtain⟨u1,hs1⟩:=Fg.bL qa 1
  obtain⟨u2,hs2⟩:=Fg.bL qa 2
  obtain rfl:=Fg.gW (a:=qa) (vs:=[Value.pointer (some ⟨w0.heap.size,0,none⟩),u1,u2,bQ.v]) hsz ⟨hrest 0 (by kernel_rfl),hs1,hs2,(show qa.tmps.getD 3 undef=bQ.v from aC 3 (by kernel_rfl)),trivial⟩ hdf
  clear hsz hdf hrest aC hpt hs1 hs2
  replace hR:=hR.gn g1
  replace G:=aj G g1
  clear g1
  refine Fg.aV rfl rfl (Fg.run_store (cs:=aY bQ) rfl rfl rfl (hR.there 0 20 (by show 0+20<=20;decide)) aP (gJ _)) ?_
  replace hR:aH (V1.setCells w0.heap.size 0 (aY bQ)) w0.heap.size 56 (aY bQ):=hR.bC rfl
  replace G:=aG (cs:=aY bQ) G (B:=w0.heap.size) (by omega) 0
  revert hR G
  generalize V1.setCells w0.heap.size 0 (aY bQ)=W2
  intro hR G
  go_wp2_with fail
  exact bodyPost_ret (v:=bQ.v) (results_cell_row Tryz.results92 _ _ w0.heap.size 56 (aY bQ).toArray (0,0) _ rfl hR Tryz.underlying56 rfl aP) rfl ⟨rfl,G⟩
set_option maxRecDepth 100000 in
set_option maxHeartbeats 3200000 in
theorem KZ (w0:World) (HT0:eY w0):
  Calls Tryz.prog 64 #[] w0 fun e w'=>e=.returned fD.v/\w0.grownBy w' none:=by
 go_enter Tryz.func64,Tryz.ntmps64
 go_upto_region 1 with (fail)
 have G:w0.grownBy (w0.alloc (.cells bB.toArray 56)) none:=av (ah _ _) _
 have HT:eY (w0.alloc (.cells bB.toArray 56)):=HT0.grown (av (ah _ _) _)
 have hR:aH (w0.alloc (.cells bB.toArray 56)) (w0.heap.size) 56 bB:=aH.new w0 bB _
 revert G HT hR
 generalize w0.alloc (.cells bB.toArray 56)=W0
 intro G HT hR
 have Gs:=G.size
 have lI:=G.size
 have lG:=hR.lt
 refine Fg.rP [] [.any,.val (fD.v)] 1 ?_ ?_
 .refine Fg.vS rfl (by decide) (fun ac w h=>?_) ?_
  .exact Fg.vn fD.v (Fg.run_load rfl rfl (HT.grown h.base).b Tryz.underlying56 rfl aP)
  trivial
 .intro qa V1 g1 hsz hdf hrest aC hpt
  obtain rfl:=Fg.gW (a:=qa) (vs:=[Value.pointer (some ⟨w0.heap.size,0,none⟩),fD.v]) hsz ⟨hrest 0 (by kernel_rfl),(show qa.tmps.getD 1 undef=fD.v from aC 1 (by kernel_rfl)),trivial⟩ hdf
  clear hsz hdf hrest aC hpt
  replace hR:=hR.gn g1
  replace G:=aj G g1
  replace HT:=HT.grown g1
  clear g1
  refine Fg.aV rfl rfl (Fg.run_store (cs:=aY fD) rfl rfl rfl (hR.there 0 20 (by show 0+20<=20;decide)) aP (gJ _)) ?_
  replace hR:aH (V1.setCells w0.heap.size 0 (aY fD)) w0.heap.size 56 (aY fD):=hR.bC rfl
  replace G:=aG (cs:=aY fD) G (B:=w0.heap.size) (by omega) 0
  replace HT:=HT.keep (aK (cs:=aY fD) (ah _ (some w0.heap.size)) 0) (HT0.jW (by omega))
  revert hR G HT
  generalize V1.setCells w0.heap.size 0 (aY fD)=W2
  intro hR G HT
  go_wp2_with fail
  exact bodyPost_ret (v:=fD.v) (results_cell_row Tryz.results64 _ _ w0.heap.size 56 (aY fD).toArray (0,0) _ rfl hR Tryz.underlying56 rfl aP) rfl ⟨rfl,G⟩
def kP (p:Pt):Pt:=lT (KJ (oD p))
theorem Ip {p:Pt} {r:Pr} (h:iO p r):iO (kP p) (Ed.add r r):=EA (MN (ML h))
set_option maxRecDepth 100000 in
set_option maxHeartbeats 3200000 in
theorem Iq (p:Pt) (r:Pr) (w0:World) (HT0:eY w0) (hp:iO p r):
  Calls Tryz.prog 78 #[p.v] w0 fun e w'=>e=.returned (kP p).v/\w0.grownBy w' none:=by
 show Calls Tryz.prog 78 #[.agg (aY p).toArray] w0 _
 go_enter Tryz.func78,Tryz.ntmps78
 go_upto_region 1 with (fail)
 have G:w0.grownBy ((w0.alloc (.cells (aY p).toArray 56)).alloc (.cells bB.toArray 56)) none:=av (av (ah _ _) _) _
 have HT:eY ((w0.alloc (.cells (aY p).toArray 56)).alloc (.cells bB.toArray 56)):=HT0.grown (av (av (ah _ _) _) _)
 have hP:aH ((w0.alloc (.cells (aY p).toArray 56)).alloc (.cells bB.toArray 56)) (w0.heap.size) 56 (aY p):=(aH.new w0 (aY p) _).alloc _
 have hR:aH ((w0.alloc (.cells (aY p).toArray 56)).alloc (.cells bB.toArray 56)) (w0.heap.size+1) 56 bB:=aH.newAt (w0.alloc _) bB _ (by simp)
 revert G HT hP hR
 generalize (w0.alloc (.cells (aY p).toArray 56)).alloc (.cells bB.toArray 56)=W0
 intro G HT hP hR
 have Gs:=G.size
 have lI:=G.size
 have uz:=hP.lt
 have lG:=hR.lt
 refine Fg.rP [3] [.any,.any,.any,.fresh 159 nX W0.heap.size,.val (p.v),.val ((oD p).v)] 3 ?_ ?_
 .refine Fg.vS rfl (by decide) (fun _ _ h=>Fg.vn p.v (Fg.run_load rfl (h.r 1) ((hP.gn h.base).range 0 (aY p) rfl) Tryz.underlying56 rfl aP)) ?_
  refine Fg.cS rfl (by decide) (fun _ w h=>Fg.cq rfl (xY _ _) ⟨h.d 4,trivial⟩ Tryz.func108) ?_
  refine⟨⟨⟨_,rfl⟩,Fg.gF (fun _ _ h k=>aj h k) rfl (by show 3<8;decide) fun ac w h=>?_⟩,?_⟩
  .refine⟨aB rfl,w.alloc (.cells nX.toArray 159),?_,World.grownBy_alloc _ _ _,by simp,⟨w.heap.size,rfl,h.base.size,aH.new w nX _⟩⟩
   clear h
   go_simp
  trivial
 .intro qa V1 g1 hsz hdf hrest aC hpt
  obtain⟨N3,hs3,Yv,hb3⟩:∃N,qa.tmps.getD 3 undef=.pointer (some ⟨N,0,none⟩)/\W0.heap.size<=N/\aH V1 N 159 nX:=aC 3 (by kernel_rfl)
  obtain⟨u4,hs4⟩:=Fg.bL qa 4
  obtain⟨x1,hx1⟩:∃x:Sm,x=oD p:=⟨_,rfl⟩
  obtain rfl:=Fg.aQ [3,4,5] (vs:=[_,_,_,Value.pointer (some ⟨N3,0,none⟩),u4,x1.v,_,_]) hsz hrest (by kernel_rfl) rfl rfl ⟨hs3,hs4,(show qa.tmps.getD 5 undef=x1.v by rw[hx1];exact aC 5 (by kernel_rfl)),trivial⟩ hdf
  clear hsz hdf hrest aC hpt hs3 hs4
  have mZ:=Lib.hid hx1;clear hx1
  replace hP:=hP.gn g1
  replace hR:=hR.gn g1
  replace G:=aj G g1
  replace HT:=HT.grown g1
  have hw3:w0.heap.size<=N3:=Nat.le_trans lI Yv
  clear g1
  refine Fg.aV rfl rfl (Fg.run_store (cs:=lF x1) rfl rfl rfl (hb3.there 0 30 (by show 0+30<=30;decide)) sU (zy _)) ?_
  replace hP:=hP.au (C:=N3) (cs:=lF x1) 0 (by omega)
  replace hR:=hR.au (C:=N3) (cs:=lF x1) 0 (by omega)
  replace hb3:aH (V1.setCells N3 0 (lF x1)) N3 159 (lF x1):=hb3.bC rfl
  replace G:=aG (cs:=lF x1) G (B:=N3) (hw3) 0
  replace HT:=HT.keep (aK (cs:=lF x1) (ah _ (some N3)) 0) (HT0.jW (hw3))
  revert hP hR hb3 G HT
  generalize V1.setCells N3 0 (lF x1)=W2
  intro hP hR hb3 G HT
  go_upto_region 2 with (fail)
  have vO:=G.size
  have CB:=hP.lt
  have qU:=hR.lt
  have Bd:=hb3.lt
  refine Fg.rP [] [] 0 ?_ ?_
  .trivial
  .intro qa V3 g3 hsz hdf hrest aC hpt
   obtain rfl:=Fg.aQ [] (vs:=[_,_,_,_,_,_,_,_]) hsz hrest (by kernel_rfl) rfl rfl trivial hdf
   clear hsz hdf hrest aC hpt
   replace hP:=hP.gn g3
   replace hR:=hR.gn g3
   replace hb3:=hb3.gn g3
   replace G:=aj G g3
   replace HT:=HT.grown g3
   clear g3
   have He:=hP.lt
   have uy:=hR.lt
   have Hl:=hb3.lt
   refine Fg.bP rfl (Fg.aN (vs:=#[Value.pointer (some ⟨N3,0,none⟩),Value.int IntKind.i64 1]) rfl rfl (by simp only[List.map_toArray,List.map_cons,List.map_nil,Act.eval];rfl) (Fg.aI Tryz.func110 (by kernel_rfl) (by kernel_rfl))) ?_
   refine (yT N3 1 x1 r _ (by decide) HT (HT0.jW hw3) hb3 (by rw[mZ.out];exact ML hp)).mono ?_
   rintro e C2 ⟨rfl,gc,s9,jD,hc,hd9⟩
   refine⟨_,rfl,?_⟩
   replace hP:=hP.grown gc (bH (by omega))
   replace hR:=hR.grown gc (bH (by omega))
   replace hb3:=hc
   replace G:=aW G gc (hw3)
   replace HT:=HT.keep gc (HT0.jW (hw3))
   clear gc
   have Hd9:=Lib.hid hd9;clear hd9
   go_upto_region 3 with (fail)
   have UZ:=G.size
   have ac2:=hP.lt
   have KR:=hR.lt
   have aji:=hb3.lt
   refine Fg.rP [] [] 0 ?_ ?_
   .trivial
   .intro qa V4 g4 hsz hdf hrest aC hpt
    obtain rfl:=Fg.aQ [] (vs:=[_,_,_,_,_,_,_,_]) hsz hrest (by kernel_rfl) rfl rfl trivial hdf
    clear hsz hdf hrest aC hpt
    replace hP:=hP.gn g4
    replace hR:=hR.gn g4
    replace hb3:=hb3.gn g4
    replace G:=aj G g4
    replace HT:=HT.grown g4
    clear g4
    have amH:=hP.lt
    have ZA:=hR.lt
    have ajj:=hb3.lt
    refine Fg.bP rfl (Fg.aN (vs:=#[Value.pointer (some ⟨N3,0,none⟩)]) rfl rfl (by simp only[List.map_toArray,List.map_cons,List.map_nil,Act.eval];rfl) (Fg.aI Tryz.func112 (by kernel_rfl) (by kernel_rfl))) ?_
    refine (uh N3 s9 _ hb3 jD.ok).mono ?_
    rintro e C3 ⟨rfl,gc,hc⟩
    refine⟨_,rfl,?_⟩
    replace hP:=hP.grown gc (bH (by omega))
    replace hR:=hR.grown gc (bH (by omega))
    replace hb3:=hc
    replace G:=aW G gc (hw3)
    replace HT:=HT.keep gc (HT0.jW (hw3))
    clear gc
    obtain⟨t9,FI⟩:∃t,t=lT s9:=⟨_,rfl⟩
    rw[<- FI]
    have ZX:=Lib.hid FI;clear FI
    refine Fg.aV rfl rfl (Fg.run_store (cs:=aY t9) rfl rfl rfl (hR.there 0 20 (by show 0+20<=20;decide)) aP (gJ _)) ?_
    replace hP:=hP.au (C:=(w0.heap.size+1)) (cs:=aY t9) 0 (by omega)
    replace hR:aH (C3.setCells (w0.heap.size+1) 0 (aY t9)) (w0.heap.size+1) 56 (aY t9):=hR.bC rfl
    replace hb3:=hb3.au (C:=(w0.heap.size+1)) (cs:=aY t9) 0 (by omega)
    replace G:=aG (cs:=aY t9) G (B:=(w0.heap.size+1)) (by omega) 0
    replace HT:=HT.keep (aK (cs:=aY t9) (ah _ (some (w0.heap.size+1))) 0) (HT0.jW (by omega))
    revert hP hR hb3 G HT
    generalize C3.setCells (w0.heap.size+1) 0 (aY t9)=W5
    intro hP hR hb3 G HT
    go_wp2_with fail
    exact bodyPost_ret (v:=t9.v) (results_cell_row Tryz.results78 _ _ (w0.heap.size+1) 56 (aY t9).toArray (0,0) _ rfl hR Tryz.underlying56 rfl aP) rfl ⟨by rw[ZX.out,Hd9.out,mZ.out];rfl,G⟩
set_option maxRecDepth 100000 in
set_option maxHeartbeats 3200000 in
theorem ac3 (p:Pt) (r:Pr) (w0:World) (HT0:eY w0) (hp:iO p r):
  Calls Tryz.prog 47 #[p.v] w0 fun e w'=>MP (Ed.neg r) w0 e w':=by
 have iW:=hp.ok
 show Calls Tryz.prog 47 #[.agg (aY p).toArray] w0 _
 go_enter Tryz.func47,Tryz.ntmps47
 go_upto_region 1 with (fail)
 have G:w0.grownBy ((w0.alloc (.cells (aY p).toArray 56)).alloc (.cells bB.toArray 56)) none:=av (av (ah _ _) _) _
 have HT:eY ((w0.alloc (.cells (aY p).toArray 56)).alloc (.cells bB.toArray 56)):=HT0.grown (av (av (ah _ _) _) _)
 have hP:aH ((w0.alloc (.cells (aY p).toArray 56)).alloc (.cells bB.toArray 56)) (w0.heap.size) 56 (aY p):=(aH.new w0 (aY p) _).alloc _
 have hR:aH ((w0.alloc (.cells (aY p).toArray 56)).alloc (.cells bB.toArray 56)) (w0.heap.size+1) 56 bB:=aH.newAt (w0.alloc _) bB _ (by simp)
 revert G HT hP hR
 generalize (w0.alloc (.cells (aY p).toArray 56)).alloc (.cells bB.toArray 56)=W0
 intro G HT hP hR
 have Gs:=G.size
 have lI:=G.size
 have uz:=hP.lt
 have lG:=hR.lt
 refine Fg.rT [] [.any,.any,.any,.val (Value.pointer (some ⟨w0.heap.size,0,none⟩)),.val (p.X.v),.val ((Fe.kR p.X).v),.val (Value.pointer (some ⟨w0.heap.size,15,none⟩)),.val (p.T.v),.val ((Fe.kR p.T).v),.val (Value.pointer (some ⟨w0.heap.size,0,none⟩))] 7 ?_ ?_
 .refine Fg.vS rfl (by decide) (fun _ _ h=>Fg.vn _ (Fg.aF rfl (h.r 1) (fu _ _ _))) ?_
  refine Fg.vS rfl (by decide) (fun _ _ h=>Fg.vn p.X.v (Fg.run_load rfl (h.d 3) ((hP.gn h.base).range 0 (aR p.X) rfl) Tryz.underlying54 rfl aD)) ?_
  refine Fg.cS rfl (by decide) (fun _ w h=>Fg.cq rfl (Sn (HT.f.grown h.base) iW.X) ⟨h.d 4,trivial⟩ Tryz.func79) ?_
  refine Fg.vS rfl (by decide) (fun _ _ h=>Fg.vn _ (Fg.aF rfl (h.r 1) (nR _ _ _))) ?_
  refine Fg.vS rfl (by decide) (fun _ _ h=>Fg.vn p.T.v (Fg.run_load rfl (h.d 6) ((hP.gn h.base).range 15 (aR p.T) rfl) Tryz.underlying54 rfl aD)) ?_
  refine Fg.cS rfl (by decide) (fun _ w h=>Fg.cq rfl (Sn (HT.f.grown h.base) iW.T) ⟨h.d 7,trivial⟩ Tryz.func79) ?_
  refine Fg.vS rfl (by decide) (fun _ _ h=>Fg.vn _ (Fg.aF rfl (h.r 1) (fu _ _ _))) ?_
  trivial
 .intro qa V1 g1 hsz hdf hrest aC hpt
  obtain⟨u3,hs3⟩:=Fg.bL qa 3
  obtain⟨u4,hs4⟩:=Fg.bL qa 4
  obtain⟨x1,hx1⟩:∃x:Fe,x=Fe.kR p.X:=⟨_,rfl⟩
  obtain⟨u6,hs6⟩:=Fg.bL qa 6
  obtain⟨u7,hs7⟩:=Fg.bL qa 7
  obtain⟨x2,hx2⟩:∃x:Fe,x=Fe.kR p.T:=⟨_,rfl⟩
  obtain rfl:=Fg.aQ [3,4,5,6,7,8,9] (vs:=[_,_,_,u3,u4,x1.v,u6,u7,x2.v,Value.pointer (some ⟨w0.heap.size,0,none⟩),_,_]) hsz hrest (by kernel_rfl) rfl rfl ⟨hs3,hs4,(show qa.tmps.getD 5 undef=x1.v by rw[hx1];exact aC 5 (by kernel_rfl)),hs6,hs7,(show qa.tmps.getD 8 undef=x2.v by rw[hx2];exact aC 8 (by kernel_rfl)),(show qa.tmps.getD 9 undef=Value.pointer (some ⟨w0.heap.size,0,none⟩) from aC 9 (by kernel_rfl)),trivial⟩ hdf
  clear hsz hdf hrest aC hpt hs3 hs4 hs6 hs7
  have mZ:=Lib.hid hx1;clear hx1
  have FE:=Lib.hid hx2;clear hx2
  replace hP:=hP.gn g1
  replace hR:=hR.gn g1
  replace G:=aj G g1
  replace HT:=HT.grown g1
  have mH:x1.Ok:=by rw[mZ.out];exact (Fe.kM _).ok
  have KY:x2.Ok:=by rw[FE.out];exact (Fe.kM _).ok
  clear g1
  refine Fg.aV rfl rfl (Fg.run_store (cs:=aR x1) rfl rfl rfl (hP.there 0 5 (by show 0+5<=20;decide)) aD (cB _)) ?_
  replace hP:aH (V1.setCells w0.heap.size 0 (aR x1)) w0.heap.size 56 (aY ((Pt.mk x1 p.Y p.Z p.T))):=hP.setCells 0
  replace hR:=hR.au (C:=w0.heap.size) (cs:=aR x1) 0 (by omega)
  replace G:=aG (cs:=aR x1) G (B:=w0.heap.size) (by omega) 0
  replace HT:=HT.keep (aK (cs:=aR x1) (ah _ (some w0.heap.size)) 0) (HT0.jW (by omega))
  revert hP hR G HT
  generalize V1.setCells w0.heap.size 0 (aR x1)=W2
  intro hP hR G HT
  refine Fg.aL rfl (Fg.aF rfl rfl (nR w0.heap.size 0 _)) ?_
  refine Fg.aV rfl rfl (Fg.run_store (cs:=aR x2) rfl rfl rfl (hP.there 15 5 (by show 15+5<=20;decide)) aD (cB _)) ?_
  replace hP:aH (W2.setCells w0.heap.size 15 (aR x2)) w0.heap.size 56 (aY ((Pt.mk x1 p.Y p.Z x2))):=hP.setCells 15
  replace hR:=hR.au (C:=w0.heap.size) (cs:=aR x2) 15 (by omega)
  replace G:=aG (cs:=aR x2) G (B:=w0.heap.size) (by omega) 15
  replace HT:=HT.keep (aK (cs:=aR x2) (ah _ (some w0.heap.size)) 15) (HT0.jW (by omega))
  revert hP hR G HT
  generalize W2.setCells w0.heap.size 15 (aR x2)=W3
  intro hP hR G HT
  go_upto_region 2 with (fail)
  have UZ:=G.size
  have CB:=hP.lt
  have qU:=hR.lt
  refine Fg.rP [] [.any,.any,.any,.any,.any,.any,.any,.any,.any,.any,.any,.val (((Pt.mk x1 p.Y p.Z x2)).v)] 1 ?_ ?_
  .refine Fg.vS rfl (by decide) (fun _ _ h=>Fg.vn _ (Fg.run_load rfl (h.r 1) ((hP.gn h.base).range 0 (aY ((Pt.mk x1 p.Y p.Z x2))) rfl) Tryz.underlying56 rfl aP)) ?_
   trivial
  .intro qa V4 g4 hsz hdf hrest aC hpt
   obtain⟨x3,hx3⟩:∃x:Pt,x=(Pt.mk x1 p.Y p.Z x2):=⟨_,rfl⟩
   obtain rfl:=Fg.aQ [11] (vs:=[_,_,_,_,_,_,_,_,_,_,_,x3.v]) hsz hrest (by kernel_rfl) rfl rfl ⟨(show qa.tmps.getD 11 undef=x3.v by rw[hx3];exact aC 11 (by kernel_rfl)),trivial⟩ hdf
   clear hsz hdf hrest aC hpt
   have S9:=Lib.hid hx3;clear hx3
   replace hP:=hP.gn g4
   replace hR:=hR.gn g4
   replace G:=aj G g4
   replace HT:=HT.grown g4
   clear g4
   refine Fg.aV rfl rfl (Fg.run_store (cs:=aY x3) rfl rfl rfl (hR.there 0 20 (by show 0+20<=20;decide)) aP (gJ _)) ?_
   replace hP:=hP.au (C:=(w0.heap.size+1)) (cs:=aY x3) 0 (by omega)
   replace hR:aH (V4.setCells (w0.heap.size+1) 0 (aY x3)) (w0.heap.size+1) 56 (aY x3):=hR.bC rfl
   replace G:=aG (cs:=aY x3) G (B:=(w0.heap.size+1)) (by omega) 0
   replace HT:=HT.keep (aK (cs:=aY x3) (ah _ (some (w0.heap.size+1))) 0) (HT0.jW (by omega))
   revert hP hR G HT
   generalize V4.setCells (w0.heap.size+1) 0 (aY x3)=W5
   intro hP hR G HT
   go_wp2_with fail
   exact bodyPost_ret (v:=x3.v) (results_cell_row Tryz.results47 _ _ (w0.heap.size+1) 56 (aY x3).toArray (0,0) _ rfl hR Tryz.underlying56 rfl aP) rfl ⟨_,by rw[S9.out];rw[mZ.out,FE.out];exact acw hp,rfl,G⟩
end
end Go.Proofs.YtmijliomjpphkaaGreatDoor
