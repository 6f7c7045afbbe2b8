/- texts merged -/
import Derived.Test.YtjgnjhgdmdmebaaGreatDoorGoM3
import Derived.Test.YtjgnjhgdmdmebaaGreatDoorGoM2
import Derived.Test.YtjgnjhgdmdmebaaGreatDoorGoM1
import Derived.Laws.AppendOwn
import Derived.Laws.MakeOwn
import Derived.Sort.CutIn
import Derived.Laws.CopyOwn
import Derived.IntWalk
namespace Go.Proofs.YtjgnjhgdmdmebaaGreatDoor
section
open Go.RowKit Ed
theorem Ed.J5.ok {s:Ad} {p:Pr} (h:J5 s p):s.Ok:=⟨h.rm.ok,h.rl.ok,h.rz.ok,h.rt.ok⟩
theorem Ed.l9.agj {s:Sm} {p:Pr} {t:Fe} (h:l9 s p) (rt:t.Right):l9 (Sm.mk s.X s.Y s.Z t s.A s.B) p:=⟨h.rX,h.rY,h.rZ,rt,h.rA,h.rB,h.on,h.z,h.x,h.y,h.t⟩
set_option maxRecDepth 100000 in
set_option maxHeartbeats 3200000 in
theorem GK (S:Nat) (s:Sm) (q:Ad) (p r:Pr) (w0:World) (HT0:dH w0) (HN:Ym S) (hS:aF w0 S 149 (lg s)) (hs:l9 s p) (hq:J5 q r):
  Calls Tryz.prog 103 #[.pointer (some ⟨S,0,none⟩),q.v] w0 fun e w'=>e=.returned (.tuple #[])/\w0.grownBy w' (some S)/\∃s',l9 s' (Ed.add p r)/\aF w' S 149 (lg s'):=by
 have oks:=hs.ok
 have rsT:=hs.rT
 have kM:=hq.ok
 show Calls Tryz.prog 103 #[.pointer (some ⟨S,0,none⟩),.agg (yc q).toArray] w0 _
 go_enter Tryz.func103,Tryz.ntmps103
 go_upto_region 1 with (fail)
 have agi:=hS.lt
 have G:w0.grownBy (w0.alloc (.cells (yc q).toArray 160)) (some S):=au (ah _ _) _
 have HT:dH (w0.alloc (.cells (yc q).toArray 160)):=HT0.grown (au (ah _ _) _)
 have hQ:aF (w0.alloc (.cells (yc q).toArray 160)) (w0.heap.size) 160 (yc q):=aF.new w0 (yc q) _
 replace hS:aF (w0.alloc (.cells (yc q).toArray 160)) S 149 (lg s):=hS.alloc _
 revert G HT hQ hS
 generalize w0.alloc (.cells (yc q).toArray 160)=W0
 intro G HT hQ hS
 have Gs:=G.size
 have HS:Ym S:=HN
 have lC:=G.size
 have VA:=hS.lt
 have YL:=hQ.lt
 refine Fg.rT [4] [.any,.any,.any,.any,.fresh 66 gT W0.heap.size,.any,.any,.any,.val (Value.pointer (some ⟨S,0,none⟩)),.val (Value.pointer (some ⟨S,0,none⟩)),.val (Value.pointer (some ⟨S,0,none⟩)),.val (Value.pointer (some ⟨S,5,none⟩)),.val (s.Y.v),.val (Value.pointer (some ⟨S,0,none⟩)),.val (Value.pointer (some ⟨S,0,none⟩)),.val (Value.pointer (some ⟨S,0,none⟩)),.val (Value.pointer (some ⟨S,0,none⟩)),.val (s.X.v),.val ((Fe.fD s.Y s.X).v),.val (Value.pointer (some ⟨w0.heap.size,0,none⟩)),.val (q.m.v),.val ((Fe.aM (Fe.fD s.Y s.X) q.m).v)] 15 ?_ ?_
 .refine Fg.vS rfl (by decide) (fun _ _ h=>Fg.vn _ (Fg.run_move rfl (h.r 0))) ?_
  refine Fg.vS rfl (by decide) (fun _ _ h=>Fg.vn _ (Fg.cu rfl (h.d 8))) ?_
  refine Fg.vS rfl (by decide) (fun _ _ h=>Fg.vn _ (Fg.aG rfl (h.d 9) (ji _ _ _))) ?_
  refine Fg.vS rfl (by decide) (fun _ _ h=>Fg.vn _ (Fg.aG rfl (h.d 10) (iy _ _ _))) ?_
  refine Fg.vS rfl (by decide) (fun _ _ h=>Fg.vn s.Y.v (Fg.run_load rfl (h.d 11) ((hS.gn h.base).range 5 (aR s.Y) rfl) Tryz.underlying66 rfl aD)) ?_
  refine Fg.vS rfl (by decide) (fun _ _ h=>Fg.vn _ (Fg.run_move rfl (h.r 0))) ?_
  refine Fg.vS rfl (by decide) (fun _ _ h=>Fg.vn _ (Fg.cu rfl (h.d 13))) ?_
  refine Fg.vS rfl (by decide) (fun _ _ h=>Fg.vn _ (Fg.aG rfl (h.d 14) (ji _ _ _))) ?_
  refine Fg.vS rfl (by decide) (fun _ _ h=>Fg.vn _ (Fg.aG rfl (h.d 15) (eY _ _ _))) ?_
  refine Fg.vS rfl (by decide) (fun _ _ h=>Fg.vn s.X.v (Fg.run_load rfl (h.d 16) ((hS.gn h.base).range 0 (aR s.X) rfl) Tryz.underlying66 rfl aD)) ?_
  refine Fg.cS rfl (by decide) (fun _ w h=>Fg.cq rfl (uV oks.Y oks.X) ⟨h.d 12,h.d 17,trivial⟩ Tryz.func129) ?_
  refine Fg.vS rfl (by decide) (fun _ _ h=>Fg.vn _ (Fg.aG rfl (h.r 3) (J7 _ _ _))) ?_
  refine Fg.vS rfl (by decide) (fun _ _ h=>Fg.vn q.m.v (Fg.run_load rfl (h.d 19) ((hQ.gn h.base).range 0 (aR q.m) rfl) Tryz.underlying66 rfl aD)) ?_
  refine Fg.cS rfl (by decide) (fun _ w h=>Fg.cq rfl (jg (Fe.dK _ _).ok kM.m) ⟨h.d 18,h.d 20,trivial⟩ Tryz.func82) ?_
  refine⟨⟨⟨_,rfl⟩,Fg.gD (fun _ _ h k=>aj h k) rfl (by show 4<64;decide) fun ac w h=>?_⟩,?_⟩
  .refine⟨aB rfl,w.alloc (.cells gT.toArray 66),?_,World.grownBy_alloc _ _ _,by simp,⟨w.heap.size,rfl,h.base.size,aF.new w gT _⟩⟩
   clear h
   go_simp
  trivial
 .intro qa V1 g1 hsz hdf hrest aC hpt
  obtain⟨N4,hs4,Ms,hb4⟩:∃N,qa.tmps.getD 4 undef=.pointer (some ⟨N,0,none⟩)/\W0.heap.size<=N/\aF V1 N 66 gT:=aC 4 (by kernel_rfl)
  obtain⟨⟨u8,kZ⟩,⟨u9,jA⟩,⟨u10,fI⟩,⟨u11,dX⟩,⟨u12,fG⟩,⟨u13,dM⟩,⟨u14,dB⟩,⟨u15,dO⟩,⟨u16,dI⟩,⟨u17,dY⟩,⟨u18,dZ⟩,⟨u19,d9⟩,⟨u20,dS⟩,_⟩:=Fg.bn qa [8,9,10,11,12,13,14,15,16,17,18,19,20]
  obtain⟨x1,hx1⟩:∃x:Fe,x=Fe.aM (Fe.fD s.Y s.X) q.m:=⟨_,rfl⟩
  obtain rfl:=Fg.aP [4,8,9,10,11,12,13,14,15,16,17,18,19,20,21] (vs:=[_,_,_,_,Value.pointer (some ⟨N4,0,none⟩),_,_,_,u8,u9,u10,u11,u12,u13,u14,u15,u16,u17,u18,u19,u20,x1.v,_,_,_,_,_,_,_,_,_,_,_,_,_,_,_,_,_,_,_,_,_,_,_,_,_,_,_,_,_,_,_,_,_,_,_,_,_,_,_,_,_,_]) hsz hrest (by kernel_rfl) rfl rfl ⟨hs4,kZ,jA,fI,dX,fG,dM,dB,dO,dI,dY,dZ,d9,dS,(show qa.tmps.getD 21 undef=x1.v by rw[hx1];exact aC 21 (by kernel_rfl)),trivial⟩ hdf
  clear hsz hdf hrest aC hpt hs4 kZ jA fI dX fG dM dB dO dI dY dZ d9 dS
  have mU:=Lib.hid hx1;clear hx1
  replace hS:=hS.gn g1
  replace hQ:=hQ.gn g1
  replace G:=aj G (fZ g1 _)
  replace HT:=HT.grown g1
  have mg:x1.Ok:=by rw[mU.out];exact (Fe.mul_right _ _).ok
  have hw4:w0.heap.size<=N4:=Nat.le_trans lC Ms
  clear g1
  refine Fg.aU rfl rfl (Fg.run_store (cs:=aR x1) rfl rfl rfl (hb4.there 0 5 (by show 0+5<=5;decide)) aD (dn _)) ?_
  replace hS:=hS.ak (C:=N4) (cs:=aR x1) 0 (by omega)
  replace hQ:=hQ.ak (C:=N4) (cs:=aR x1) 0 (by omega)
  replace hb4:aF (V1.setCells N4 0 (aR x1)) N4 66 (aR x1):=hb4.bG rfl
  replace G:=aH (cs:=aR x1) G (B:=N4) (hw4) 0
  replace HT:=HT.keep (aK (cs:=aR x1) (ah _ (some N4)) 0) (HT0.jS (hw4))
  revert hS hQ hb4 G HT
  generalize V1.setCells N4 0 (aR x1)=W2
  intro hS hQ hb4 G HT
  go_upto_region 2 with (fail)
  have vU:=G.size
  have VB:=hS.lt
  have alh:=hQ.lt
  have Gh:=hb4.lt
  refine Fg.rT [5] [.any,.any,.any,.any,.any,.fresh 66 gT W2.heap.size,.any,.any,.any,.any,.any,.any,.any,.any,.any,.any,.any,.any,.any,.any,.any,.any,.val (Value.pointer (some ⟨S,0,none⟩)),.val (Value.pointer (some ⟨S,0,none⟩)),.val (Value.pointer (some ⟨S,0,none⟩)),.val (Value.pointer (some ⟨S,5,none⟩)),.val (s.Y.v),.val (Value.pointer (some ⟨S,0,none⟩)),.val (Value.pointer (some ⟨S,0,none⟩)),.val (Value.pointer (some ⟨S,0,none⟩)),.val (Value.pointer (some ⟨S,0,none⟩)),.val (s.X.v),.val ((Fe.gZ s.Y s.X).v),.val (Value.pointer (some ⟨w0.heap.size,5,none⟩)),.val (q.l.v),.val ((Fe.aM (Fe.gZ s.Y s.X) q.l).v)] 15 ?_ ?_
  .refine Fg.vS rfl (by decide) (fun _ _ h=>Fg.vn _ (Fg.run_move rfl (h.r 0))) ?_
   refine Fg.vS rfl (by decide) (fun _ _ h=>Fg.vn _ (Fg.cu rfl (h.d 22))) ?_
   refine Fg.vS rfl (by decide) (fun _ _ h=>Fg.vn _ (Fg.aG rfl (h.d 23) (ji _ _ _))) ?_
   refine Fg.vS rfl (by decide) (fun _ _ h=>Fg.vn _ (Fg.aG rfl (h.d 24) (iy _ _ _))) ?_
   refine Fg.vS rfl (by decide) (fun _ _ h=>Fg.vn s.Y.v (Fg.run_load rfl (h.d 25) ((hS.gn h.base).range 5 (aR s.Y) rfl) Tryz.underlying66 rfl aD)) ?_
   refine Fg.vS rfl (by decide) (fun _ _ h=>Fg.vn _ (Fg.run_move rfl (h.r 0))) ?_
   refine Fg.vS rfl (by decide) (fun _ _ h=>Fg.vn _ (Fg.cu rfl (h.d 27))) ?_
   refine Fg.vS rfl (by decide) (fun _ _ h=>Fg.vn _ (Fg.aG rfl (h.d 28) (ji _ _ _))) ?_
   refine Fg.vS rfl (by decide) (fun _ _ h=>Fg.vn _ (Fg.aG rfl (h.d 29) (eY _ _ _))) ?_
   refine Fg.vS rfl (by decide) (fun _ _ h=>Fg.vn s.X.v (Fg.run_load rfl (h.d 30) ((hS.gn h.base).range 0 (aR s.X) rfl) Tryz.underlying66 rfl aD)) ?_
   refine Fg.cS rfl (by decide) (fun _ w h=>Fg.cq rfl (Av (HT.f.grown h.base) oks.Y oks.X) ⟨h.d 26,h.d 31,trivial⟩ Tryz.func127) ?_
   refine Fg.vS rfl (by decide) (fun _ _ h=>Fg.vn _ (Fg.aG rfl (h.r 3) (J8 _ _ _))) ?_
   refine Fg.vS rfl (by decide) (fun _ _ h=>Fg.vn q.l.v (Fg.run_load rfl (h.d 33) ((hQ.gn h.base).range 5 (aR q.l) rfl) Tryz.underlying66 rfl aD)) ?_
   refine Fg.cS rfl (by decide) (fun _ w h=>Fg.cq rfl (jg (Fe.fO _ _).ok kM.l) ⟨h.d 32,h.d 34,trivial⟩ Tryz.func82) ?_
   refine⟨⟨⟨_,rfl⟩,Fg.gD (fun _ _ h k=>aj h k) rfl (by show 5<64;decide) fun ac w h=>?_⟩,?_⟩
   .refine⟨aB rfl,w.alloc (.cells gT.toArray 66),?_,World.grownBy_alloc _ _ _,by simp,⟨w.heap.size,rfl,h.base.size,aF.new w gT _⟩⟩
    clear h
    go_simp
   trivial
  .intro qa V3 g3 hsz hdf hrest aC hpt
   obtain⟨N5,hs5,P9,hb5⟩:∃N,qa.tmps.getD 5 undef=.pointer (some ⟨N,0,none⟩)/\W2.heap.size<=N/\aF V3 N 66 gT:=aC 5 (by kernel_rfl)
   obtain⟨⟨u22,eH⟩,⟨u23,dU⟩,⟨u24,dP⟩,⟨u25,eD⟩,⟨u26,eF⟩,⟨u27,fH⟩,⟨u28,jc⟩,⟨u29,kr⟩,⟨u30,iQ⟩,⟨u31,gJ⟩,⟨u32,jN⟩,⟨u33,jv⟩,⟨u34,iY⟩,_⟩:=Fg.bn qa [22,23,24,25,26,27,28,29,30,31,32,33,34]
   obtain⟨x2,hx2⟩:∃x:Fe,x=Fe.aM (Fe.gZ s.Y s.X) q.l:=⟨_,rfl⟩
   obtain rfl:=Fg.aP [5,22,23,24,25,26,27,28,29,30,31,32,33,34,35] (vs:=[_,_,_,_,_,Value.pointer (some ⟨N5,0,none⟩),_,_,_,_,_,_,_,_,_,_,_,_,_,_,_,_,u22,u23,u24,u25,u26,u27,u28,u29,u30,u31,u32,u33,u34,x2.v,_,_,_,_,_,_,_,_,_,_,_,_,_,_,_,_,_,_,_,_,_,_,_,_,_,_,_,_]) hsz hrest (by kernel_rfl) rfl rfl ⟨hs5,eH,dU,dP,eD,eF,fH,jc,kr,iQ,gJ,jN,jv,iY,(show qa.tmps.getD 35 undef=x2.v by rw[hx2];exact aC 35 (by kernel_rfl)),trivial⟩ hdf
   clear hsz hdf hrest aC hpt hs5 eH dU dP eD eF fH jc kr iQ gJ jN jv iY
   have Fu:=Lib.hid hx2;clear hx2
   replace hS:=hS.gn g3
   replace hQ:=hQ.gn g3
   replace hb4:=hb4.gn g3
   replace G:=aj G (fZ g3 _)
   replace HT:=HT.grown g3
   have Kr:x2.Ok:=by rw[Fu.out];exact (Fe.mul_right _ _).ok
   have Fv:w0.heap.size<=N5:=Nat.le_trans vU P9
   clear g3
   refine Fg.aU rfl rfl (Fg.run_store (cs:=aR x2) rfl rfl rfl (hb5.there 0 5 (by show 0+5<=5;decide)) aD (dn _)) ?_
   replace hS:=hS.ak (C:=N5) (cs:=aR x2) 0 (by omega)
   replace hQ:=hQ.ak (C:=N5) (cs:=aR x2) 0 (by omega)
   replace hb4:=hb4.ak (C:=N5) (cs:=aR x2) 0 (by omega)
   replace hb5:aF (V3.setCells N5 0 (aR x2)) N5 66 (aR x2):=hb5.bG rfl
   replace G:=aH (cs:=aR x2) G (B:=N5) (Fv) 0
   replace HT:=HT.keep (aK (cs:=aR x2) (ah _ (some N5)) 0) (HT0.jS (Fv))
   revert hS hQ hb4 hb5 G HT
   generalize V3.setCells N5 0 (aR x2)=W4
   intro hS hQ hb4 hb5 G HT
   go_upto_region 3 with (fail)
   have Oh:=G.size
   have YJ:=hS.lt
   have ali:=hQ.lt
   have Dk:=hb4.lt
   have ze:=hb5.lt
   refine Fg.rT [6] [.any,.any,.any,.any,.any,.any,.fresh 66 gT W4.heap.size,.any,.any,.any,.any,.any,.any,.any,.any,.any,.any,.any,.any,.any,.any,.any,.any,.any,.any,.any,.any,.any,.any,.any,.any,.any,.any,.any,.any,.any,.val (Value.pointer (some ⟨S,0,none⟩)),.val (Value.pointer (some ⟨S,0,none⟩)),.val (Value.pointer (some ⟨S,0,none⟩)),.val (Value.pointer (some ⟨S,10,none⟩)),.val (s.Z.v),.val (Value.pointer (some ⟨w0.heap.size,10,none⟩)),.val (q.z.v),.val ((Fe.aM s.Z q.z).v)] 9 ?_ ?_
   .refine Fg.vS rfl (by decide) (fun _ _ h=>Fg.vn _ (Fg.run_move rfl (h.r 0))) ?_
    refine Fg.vS rfl (by decide) (fun _ _ h=>Fg.vn _ (Fg.cu rfl (h.d 36))) ?_
    refine Fg.vS rfl (by decide) (fun _ _ h=>Fg.vn _ (Fg.aG rfl (h.d 37) (ji _ _ _))) ?_
    refine Fg.vS rfl (by decide) (fun _ _ h=>Fg.vn _ (Fg.aG rfl (h.d 38) (fq _ _ _))) ?_
    refine Fg.vS rfl (by decide) (fun _ _ h=>Fg.vn s.Z.v (Fg.run_load rfl (h.d 39) ((hS.gn h.base).range 10 (aR s.Z) rfl) Tryz.underlying66 rfl aD)) ?_
    refine Fg.vS rfl (by decide) (fun _ _ h=>Fg.vn _ (Fg.aG rfl (h.r 3) (J9 _ _ _))) ?_
    refine Fg.vS rfl (by decide) (fun _ _ h=>Fg.vn q.z.v (Fg.run_load rfl (h.d 41) ((hQ.gn h.base).range 10 (aR q.z) rfl) Tryz.underlying66 rfl aD)) ?_
    refine Fg.cS rfl (by decide) (fun _ w h=>Fg.cq rfl (jg oks.Z kM.z) ⟨h.d 40,h.d 42,trivial⟩ Tryz.func82) ?_
    refine⟨⟨⟨_,rfl⟩,Fg.gD (fun _ _ h k=>aj h k) rfl (by show 6<64;decide) fun ac w h=>?_⟩,?_⟩
    .refine⟨aB rfl,w.alloc (.cells gT.toArray 66),?_,World.grownBy_alloc _ _ _,by simp,⟨w.heap.size,rfl,h.base.size,aF.new w gT _⟩⟩
     clear h
     go_simp
    trivial
   .intro qa V5 g5 hsz hdf hrest aC hpt
    obtain⟨N6,hs6,Og,hb6⟩:∃N,qa.tmps.getD 6 undef=.pointer (some ⟨N,0,none⟩)/\W4.heap.size<=N/\aF V5 N 66 gT:=aC 6 (by kernel_rfl)
    obtain⟨⟨u36,jP⟩,⟨u37,kP⟩,⟨u38,kQ⟩,⟨u39,oh⟩,⟨u40,oo⟩,⟨u41,ql⟩,⟨u42,mo⟩,_⟩:=Fg.bn qa [36,37,38,39,40,41,42]
    obtain⟨x3,hx3⟩:∃x:Fe,x=Fe.aM s.Z q.z:=⟨_,rfl⟩
    obtain rfl:=Fg.aP [6,36,37,38,39,40,41,42,43] (vs:=[_,_,_,_,_,_,Value.pointer (some ⟨N6,0,none⟩),_,_,_,_,_,_,_,_,_,_,_,_,_,_,_,_,_,_,_,_,_,_,_,_,_,_,_,_,_,u36,u37,u38,u39,u40,u41,u42,x3.v,_,_,_,_,_,_,_,_,_,_,_,_,_,_,_,_,_,_,_,_]) hsz hrest (by kernel_rfl) rfl rfl ⟨hs6,jP,kP,kQ,oh,oo,ql,mo,(show qa.tmps.getD 43 undef=x3.v by rw[hx3];exact aC 43 (by kernel_rfl)),trivial⟩ hdf
    clear hsz hdf hrest aC hpt hs6 jP kP kQ oh oo ql mo
    have RP:=Lib.hid hx3;clear hx3
    replace hS:=hS.gn g5
    replace hQ:=hQ.gn g5
    replace hb4:=hb4.gn g5
    replace hb5:=hb5.gn g5
    replace G:=aj G (fZ g5 _)
    replace HT:=HT.grown g5
    have OA:x3.Ok:=by rw[RP.out];exact (Fe.mul_right _ _).ok
    have Di:w0.heap.size<=N6:=Nat.le_trans Oh Og
    clear g5
    refine Fg.aU rfl rfl (Fg.run_store (cs:=aR x3) rfl rfl rfl (hb6.there 0 5 (by show 0+5<=5;decide)) aD (dn _)) ?_
    replace hS:=hS.ak (C:=N6) (cs:=aR x3) 0 (by omega)
    replace hQ:=hQ.ak (C:=N6) (cs:=aR x3) 0 (by omega)
    replace hb4:=hb4.ak (C:=N6) (cs:=aR x3) 0 (by omega)
    replace hb5:=hb5.ak (C:=N6) (cs:=aR x3) 0 (by omega)
    replace hb6:aF (V5.setCells N6 0 (aR x3)) N6 66 (aR x3):=hb6.bG rfl
    replace G:=aH (cs:=aR x3) G (B:=N6) (Di) 0
    replace HT:=HT.keep (aK (cs:=aR x3) (ah _ (some N6)) 0) (HT0.jS (Di))
    revert hS hQ hb4 hb5 hb6 G HT
    generalize V5.setCells N6 0 (aR x3)=W6
    intro hS hQ hb4 hb5 hb6 G HT
    go_upto_region 4 with (fail)
    have agk:=G.size
    have abw:=hS.lt
    have alj:=hQ.lt
    have Xr:=hb4.lt
    have MH:=hb5.lt
    have Ay:=hb6.lt
    have HST:∀it∈([.any,.any,.any,.any,.any,.any,.any,.fresh 66 gT W6.heap.size,.any,.any,.any,.any,.any,.any,.any,.any,.any,.any,.any,.any,.any,.any,.any,.any,.any,.any,.any,.any,.any,.any,.any,.any,.any,.any,.any,.any,.any,.any,.any,.any,.any,.any,.any,.any,.val (Value.pointer (some ⟨S,0,none⟩)),.val (((Pt.mk s.X s.Y s.Z (Fe.aM s.A s.B))).v),.val ((Fe.aM s.A s.B).v),.val (Value.pointer (some ⟨w0.heap.size,15,none⟩)),.val (q.t.v),.val ((Fe.aM (Fe.aM s.A s.B) q.t).v)]:List Fg.It),it.zX S:=by
     intro it hit
     simp only[List.mem_cons,List.not_mem_nil,or_false]at hit
     have hlW:S<W6.heap.size:=hS.lt
     rcases hit with rfl|rfl|rfl|rfl|rfl|rfl|rfl|rfl|rfl|rfl|rfl|rfl|rfl|rfl|rfl|rfl|rfl|rfl|rfl|rfl|rfl|rfl|rfl|rfl|rfl|rfl|rfl|rfl|rfl|rfl|rfl|rfl|rfl|rfl|rfl|rfl|rfl|rfl|rfl|rfl|rfl|rfl|rfl|rfl|rfl|rfl|rfl|rfl|rfl|rfl
     all_goals first|exact Fg.JE S|exact Fg.JF S _|exact Fg.DZ _ _ hlW
    refine Fg.jI (ps:=[7]) [.any,.any,.any,.any,.any,.any,.any,.fresh 66 gT W6.heap.size,.any,.any,.any,.any,.any,.any,.any,.any,.any,.any,.any,.any,.any,.any,.any,.any,.any,.any,.any,.any,.any,.any,.any,.any,.any,.any,.any,.any,.any,.any,.any,.any,.any,.any,.any,.any,.val (Value.pointer (some ⟨S,0,none⟩)),.val (((Pt.mk s.X s.Y s.Z (Fe.aM s.A s.B))).v),.val ((Fe.aM s.A s.B).v),.val (Value.pointer (some ⟨w0.heap.size,15,none⟩)),.val (q.t.v),.val ((Fe.aM (Fe.aM s.A s.B) q.t).v)] (fun w=>World.grownBy W6 w (some S)/\∃t:Fe,t.Right/\aF w S 149 (lg (Sm.mk s.X s.Y s.Z t s.A s.B))) 7 ⟨aX (ah _ _),s.T,rsT,hS.drew⟩ (by kernel_rfl) (by kernel_rfl) (by kernel_rfl) (by kernel_rfl) (by decide) (Fg.nP (by kernel_rfl)) ?_ ?_
    .refine⟨⟨⟨_,rfl⟩,Fg.xU (fun _ _ h k=>⟨aj h.1 (fZ k _),let ⟨t,r,b⟩:=h.2;⟨t,r,b.gn k⟩⟩) rfl (by decide) fun ac w h=>?_⟩,?_⟩
     .have e0:_=Value.pointer (some ⟨S,0,none⟩):=h.r 0
      exact Fg.vn (Value.pointer (some ⟨S,0,none⟩)) (Fg.run_move rfl e0)
     refine⟨⟨⟨_,rfl⟩,Fg.Fz rfl fun ac w h=>?_⟩,?_⟩
     .have e44:_=Value.pointer (some ⟨S,0,none⟩):=h.d 44
      obtain⟨hb1,t,rt,hb2⟩:=h.base
      have x9:=h.ptrs
      refine⟨aB rfl,100,#[Value.pointer (some ⟨S,0,none⟩)],Fg.aN rfl rfl (by simp only[List.map_toArray,List.map_cons,List.map_nil,Act.eval,e44]) (Fg.aI Tryz.func100 (by kernel_rfl) (by kernel_rfl)),?_⟩
      exact (um S (Sm.mk s.X s.Y s.Z t s.A s.B) w hb2 ⟨oks.X,oks.Y,oks.Z,rt.ok,oks.A,oks.B⟩).mono fun _ w' ⟨he,hg,hb3⟩=>⟨_,he,⟨aj hb1 hg,_,Fe.mul_right _ _,hb3⟩,Fg.JG HST hg,qc x9 hg.size (Fg.xS (by decide)),rfl⟩
     refine⟨⟨⟨_,rfl⟩,Fg.xU (fun _ _ h k=>⟨aj h.1 (fZ k _),let ⟨t,r,b⟩:=h.2;⟨t,r,b.gn k⟩⟩) rfl (by decide) fun ac w h=>?_⟩,?_⟩
     .have e45:_=((Pt.mk s.X s.Y s.Z (Fe.aM s.A s.B))).v:=h.d 45
      exact Fg.vn ((Fe.aM s.A s.B).v) (Fg.xV rfl e45 (by kernel_rfl))
     refine⟨⟨⟨_,rfl⟩,Fg.xU (fun _ _ h k=>⟨aj h.1 (fZ k _),let ⟨t,r,b⟩:=h.2;⟨t,r,b.gn k⟩⟩) rfl (by decide) fun ac w h=>?_⟩,?_⟩
     .have e3:_=Value.pointer (some ⟨w0.heap.size,0,none⟩):=h.r 3
      exact Fg.vn (Value.pointer (some ⟨w0.heap.size,15,none⟩)) (Fg.aG rfl e3 (Ka _ _ _))
     refine⟨⟨⟨_,rfl⟩,Fg.xU (fun _ _ h k=>⟨aj h.1 (fZ k _),let ⟨t,r,b⟩:=h.2;⟨t,r,b.gn k⟩⟩) rfl (by decide) fun ac w h=>?_⟩,?_⟩
     .have e47:_=Value.pointer (some ⟨w0.heap.size,15,none⟩):=h.d 47
      exact Fg.vn q.t.v (Fg.run_load rfl e47 ((hQ.grown h.base.1 (bJ (by omega))).range 15 (aR q.t) rfl) Tryz.underlying66 rfl aD)
     refine⟨⟨⟨_,rfl⟩,Fg.Qk (fun _ _ h k=>⟨aj h.1 (fZ k _),let ⟨t,r,b⟩:=h.2;⟨t,r,b.gn k⟩⟩) rfl (by decide) fun ac w h=>?_⟩,?_⟩
     .have e46:_=(Fe.aM s.A s.B).v:=h.d 46
      have e48:_=q.t.v:=h.d 48
      refine⟨aB rfl,82,#[(Fe.aM s.A s.B).v,q.t.v],Fg.aN rfl rfl (by simp only[List.map_toArray,List.map_cons,List.map_nil,Act.eval,e46,e48]) (Fg.aI Tryz.func82 (by kernel_rfl) (by kernel_rfl)),?_⟩
      exact (jg (Fe.mul_right _ _).ok kM.t).mono fun _ _ ⟨he,hg⟩=>⟨_,he,hg,rfl⟩
     refine⟨⟨⟨_,rfl⟩,Fg.gD (fun _ _ h k=>⟨aj h.1 (fZ k _),let ⟨t,r,b⟩:=h.2;⟨t,r,b.gn k⟩⟩) rfl (by show 7<64;decide) fun ac w h=>?_⟩,?_⟩
     .refine⟨aB rfl,w.alloc (.cells gT.toArray 66),?_,World.grownBy_alloc _ _ _,by simp,⟨w.heap.size,rfl,h.base.1.size,aF.new w gT _⟩⟩
      clear h
      go_simp
     trivial
    .intro qa V7 g7 hsz hdf hrest aC hpt
     obtain⟨N7,hs7,Vj,dx⟩:∃N,qa.tmps.getD 7 undef=.pointer (some ⟨N,0,none⟩)/\W6.heap.size<=N/\aF V7 N 66 gT:=aC 7 (by kernel_rfl)
     obtain⟨⟨u44,qm⟩,⟨u45,mq⟩,⟨u46,mD⟩,⟨u47,oq⟩,⟨u48,sQ⟩,_⟩:=Fg.bn qa [44,45,46,47,48]
     obtain⟨x4,hx4⟩:∃x:Fe,x=Fe.aM (Fe.aM s.A s.B) q.t:=⟨_,rfl⟩
     obtain rfl:=Fg.aP [7,44,45,46,47,48,49] (vs:=[_,_,_,_,_,_,_,Value.pointer (some ⟨N7,0,none⟩),_,_,_,_,_,_,_,_,_,_,_,_,_,_,_,_,_,_,_,_,_,_,_,_,_,_,_,_,_,_,_,_,_,_,_,_,u44,u45,u46,u47,u48,x4.v,_,_,_,_,_,_,_,_,_,_,_,_,_,_]) hsz hrest (by kernel_rfl) rfl rfl ⟨hs7,qm,mq,mD,oq,sQ,(show qa.tmps.getD 49 undef=x4.v by rw[hx4];exact aC 49 (by kernel_rfl)),trivial⟩ hdf
     clear hsz hdf hrest aC hpt hs7 qm mq mD oq sQ
     have Z5:=Lib.hid hx4;clear hx4
     clear hS
     obtain⟨g7,t,rt,hS⟩:=g7
     replace hQ:=hQ.grown g7 (bJ (by omega))
     replace hb4:=hb4.grown g7 (bJ (by omega))
     replace hb5:=hb5.grown g7 (bJ (by omega))
     replace hb6:=hb6.grown g7 (bJ (by omega))
     replace G:=aj G g7
     replace HT:=HT.keep g7 HS
     have RQ:x4.Ok:=by rw[Z5.out];exact (Fe.mul_right _ _).ok
     have hw7:w0.heap.size<=N7:=Nat.le_trans agk Vj
     clear g7 HST
     refine Fg.aU rfl rfl (Fg.run_store (cs:=aR x4) rfl rfl rfl (dx.there 0 5 (by show 0+5<=5;decide)) aD (dn _)) ?_
     replace hS:=hS.ak (C:=N7) (cs:=aR x4) 0 (by omega)
     replace hQ:=hQ.ak (C:=N7) (cs:=aR x4) 0 (by omega)
     replace hb4:=hb4.ak (C:=N7) (cs:=aR x4) 0 (by omega)
     replace hb5:=hb5.ak (C:=N7) (cs:=aR x4) 0 (by omega)
     replace hb6:=hb6.ak (C:=N7) (cs:=aR x4) 0 (by omega)
     replace dx:aF (V7.setCells N7 0 (aR x4)) N7 66 (aR x4):=dx.bG rfl
     replace G:=aH (cs:=aR x4) G (B:=N7) (hw7) 0
     replace HT:=HT.keep (aK (cs:=aR x4) (ah _ (some N7)) 0) (HT0.jS (hw7))
     revert hS hQ hb4 hb5 hb6 dx G HT
     generalize V7.setCells N7 0 (aR x4)=W8
     intro hS hQ hb4 hb5 hb6 dx G HT
     go_upto_region 5 with (fail)
     have Gs8:=G.size
     have abx:=hS.lt
     have aln:=hQ.lt
     have Xt:=hb4.lt
     have MI:=hb5.lt
     have Mi:=hb6.lt
     have Mj:=dx.lt
     refine Fg.rT [] [.any,.any,.any,.any,.any,.any,.any,.any,.any,.any,.any,.any,.any,.any,.any,.any,.any,.any,.any,.any,.any,.any,.any,.any,.any,.any,.any,.any,.any,.any,.any,.any,.any,.any,.any,.any,.any,.any,.any,.any,.any,.any,.any,.any,.any,.any,.any,.any,.any,.any,.val (Value.pointer (some ⟨S,0,none⟩)),.val (x1.v),.val (x2.v),.val ((Fe.gZ x1 x2).v),.val (x3.v),.val (x4.v),.val ((Fe.fD x3 x4).v),.val (x1.v),.val (x2.v),.val ((Fe.fD x1 x2).v),.val (x3.v),.val (x4.v),.val ((Fe.gZ x3 x4).v)] 13 ?_ ?_
     .refine Fg.vS rfl (by decide) (fun _ _ h=>Fg.vn _ (Fg.run_move rfl (h.r 0))) ?_
      refine Fg.vS rfl (by decide) (fun _ _ h=>Fg.vn x1.v (Fg.run_load rfl (h.r 4) ((hb4.gn h.base).range 0 (aR x1) rfl) Tryz.underlying66 rfl aD)) ?_
      refine Fg.vS rfl (by decide) (fun _ _ h=>Fg.vn x2.v (Fg.run_load rfl (h.r 5) ((hb5.gn h.base).range 0 (aR x2) rfl) Tryz.underlying66 rfl aD)) ?_
      refine Fg.cS rfl (by decide) (fun _ w h=>Fg.cq rfl (Av (HT.f.grown h.base) mg Kr) ⟨h.d 51,h.d 52,trivial⟩ Tryz.func127) ?_
      refine Fg.vS rfl (by decide) (fun _ _ h=>Fg.vn x3.v (Fg.run_load rfl (h.r 6) ((hb6.gn h.base).range 0 (aR x3) rfl) Tryz.underlying66 rfl aD)) ?_
      refine Fg.vS rfl (by decide) (fun _ _ h=>Fg.vn x4.v (Fg.run_load rfl (h.r 7) ((dx.gn h.base).range 0 (aR x4) rfl) Tryz.underlying66 rfl aD)) ?_
      refine Fg.cS rfl (by decide) (fun _ w h=>Fg.cq rfl (uV OA RQ) ⟨h.d 54,h.d 55,trivial⟩ Tryz.func129) ?_
      refine Fg.vS rfl (by decide) (fun _ _ h=>Fg.vn x1.v (Fg.run_load rfl (h.r 4) ((hb4.gn h.base).range 0 (aR x1) rfl) Tryz.underlying66 rfl aD)) ?_
      refine Fg.vS rfl (by decide) (fun _ _ h=>Fg.vn x2.v (Fg.run_load rfl (h.r 5) ((hb5.gn h.base).range 0 (aR x2) rfl) Tryz.underlying66 rfl aD)) ?_
      refine Fg.cS rfl (by decide) (fun _ w h=>Fg.cq rfl (uV mg Kr) ⟨h.d 57,h.d 58,trivial⟩ Tryz.func129) ?_
      refine Fg.vS rfl (by decide) (fun _ _ h=>Fg.vn x3.v (Fg.run_load rfl (h.r 6) ((hb6.gn h.base).range 0 (aR x3) rfl) Tryz.underlying66 rfl aD)) ?_
      refine Fg.vS rfl (by decide) (fun _ _ h=>Fg.vn x4.v (Fg.run_load rfl (h.r 7) ((dx.gn h.base).range 0 (aR x4) rfl) Tryz.underlying66 rfl aD)) ?_
      refine Fg.cS rfl (by decide) (fun _ w h=>Fg.cq rfl (Av (HT.f.grown h.base) OA RQ) ⟨h.d 60,h.d 61,trivial⟩ Tryz.func127) ?_
      trivial
     .intro qa V9 g9 hsz hdf hrest aC hpt
      obtain⟨u51,RS⟩:=Fg.bP qa 51
      obtain⟨u52,GN⟩:=Fg.bP qa 52
      obtain⟨x5,hx5⟩:∃x:Fe,x=Fe.gZ x1 x2:=⟨_,rfl⟩
      obtain⟨u54,GQ⟩:=Fg.bP qa 54
      obtain⟨u55,GR⟩:=Fg.bP qa 55
      obtain⟨x6,hx6⟩:∃x:Fe,x=Fe.fD x3 x4:=⟨_,rfl⟩
      obtain⟨u57,aby⟩:=Fg.bP qa 57
      obtain⟨u58,abz⟩:=Fg.bP qa 58
      obtain⟨x7,hx7⟩:∃x:Fe,x=Fe.fD x1 x2:=⟨_,rfl⟩
      obtain⟨u60,abA⟩:=Fg.bP qa 60
      obtain⟨u61,abB⟩:=Fg.bP qa 61
      obtain⟨x8,OB⟩:∃x:Fe,x=Fe.gZ x3 x4:=⟨_,rfl⟩
      obtain rfl:=Fg.aP [50,51,52,53,54,55,56,57,58,59,60,61,62] (vs:=[_,_,_,_,_,_,_,_,_,_,_,_,_,_,_,_,_,_,_,_,_,_,_,_,_,_,_,_,_,_,_,_,_,_,_,_,_,_,_,_,_,_,_,_,_,_,_,_,_,_,Value.pointer (some ⟨S,0,none⟩),u51,u52,x5.v,u54,u55,x6.v,u57,u58,x7.v,u60,u61,x8.v,_]) hsz hrest (by kernel_rfl) rfl rfl ⟨(show qa.tmps.getD 50 undef=Value.pointer (some ⟨S,0,none⟩) from aC 50 (by kernel_rfl)),RS,GN,(show qa.tmps.getD 53 undef=x5.v by rw[hx5];exact aC 53 (by kernel_rfl)),GQ,GR,(show qa.tmps.getD 56 undef=x6.v by rw[hx6];exact aC 56 (by kernel_rfl)),aby,abz,(show qa.tmps.getD 59 undef=x7.v by rw[hx7];exact aC 59 (by kernel_rfl)),abA,abB,(show qa.tmps.getD 62 undef=x8.v by rw[OB];exact aC 62 (by kernel_rfl)),trivial⟩ hdf
      clear hsz hdf hrest aC hpt RS GN GQ GR aby abz abA abB
      have Z6:=Lib.hid hx5;clear hx5
      have Vk:=Lib.hid hx6;clear hx6
      have Z7:=Lib.hid hx7;clear hx7
      have Z8:=Lib.hid OB;clear OB
      replace hS:=hS.gn g9
      replace hQ:=hQ.gn g9
      replace hb4:=hb4.gn g9
      replace hb5:=hb5.gn g9
      replace hb6:=hb6.gn g9
      replace dx:=dx.gn g9
      replace G:=aj G (fZ g9 _)
      replace HT:=HT.grown g9
      have VD:x5.Ok:=by rw[Z6.out];exact (Fe.fO _ _).ok
      have Vl:x6.Ok:=by rw[Vk.out];exact (Fe.dK _ _).ok
      have YM:x7.Ok:=by rw[Z7.out];exact (Fe.dK _ _).ok
      have YN:x8.Ok:=by rw[Z8.out];exact (Fe.fO _ _).ok
      clear g9
      refine Fg.bU rfl (Fg.aN (vs:=#[Value.pointer (some ⟨S,0,none⟩),x5.v,x6.v,x7.v,x8.v]) rfl rfl (by simp only[List.map_toArray,List.map_cons,List.map_nil,Act.eval];rfl) (Fg.aI Tryz.func128 (by kernel_rfl) (by kernel_rfl))) ?_
      refine (Bf S _ x5 x6 x7 x8 _ hS VD Vl YM YN).mono ?_
      rintro e w9 ⟨rfl,g9,h9⟩
      replace G:=aj G g9
      refine⟨_,rfl,?_⟩
      clear hQ hS hb4 hb5 hb6 dx
      go_wp2
      go_end0
      refine⟨rfl,G,_,?_,h9⟩
      have OB:=Z8.out;subst OB
      have hx7:=Z7.out;subst hx7
      have hx6:=Vk.out;subst hx6
      have hx5:=Z6.out;subst hx5
      have hx4:=Z5.out;subst hx4
      have hx3:=RP.out;subst hx3
      have hx2:=Fu.out;subst hx2
      have hx1:=mU.out;subst hx1
      exact (Yj hs hq).agj rt
end
section
open Go.RowKit Ed
set_option maxRecDepth 100000 in
set_option maxHeartbeats 3200000 in
theorem wR (p:Pt) (w0:World) (HT0:dH w0) (iW:p.Ok):
  Calls Tryz.prog 131 #[p.v] w0 fun e w'=>e=.returned (zw p).v/\w0.grownBy w' none:=by
 show Calls Tryz.prog 131 #[.agg (aY p).toArray] w0 _
 go_enter Tryz.func131,Tryz.ntmps131
 go_upto_region 1 with (fail)
 have G:w0.grownBy ((w0.alloc (.cells (aY p).toArray 68)).alloc (.cells bE.toArray 160)) none:=au (au (ah _ _) _) _
 have HT:dH ((w0.alloc (.cells (aY p).toArray 68)).alloc (.cells bE.toArray 160)):=HT0.grown (au (au (ah _ _) _) _)
 have hP:aF ((w0.alloc (.cells (aY p).toArray 68)).alloc (.cells bE.toArray 160)) (w0.heap.size) 68 (aY p):=(aF.new w0 (aY p) _).alloc _
 have hR:aF ((w0.alloc (.cells (aY p).toArray 68)).alloc (.cells bE.toArray 160)) (w0.heap.size+1) 160 bE:=aF.newAt (w0.alloc _) bE _ (by simp)
 revert G HT hP hR
 generalize (w0.alloc (.cells (aY p).toArray 68)).alloc (.cells bE.toArray 160)=W0
 intro G HT hP hR
 have Gs:=G.size
 have lC:=G.size
 have uK:=hP.lt
 have lq:=hR.lt
 refine Fg.rT [] [.any,.any,.any,.val (Value.pointer (some ⟨w0.heap.size,5,none⟩)),.val (p.Y.v),.val (Value.pointer (some ⟨w0.heap.size,0,none⟩)),.val (p.X.v),.val ((Fe.fD p.Y p.X).v),.val (Value.pointer (some ⟨w0.heap.size,5,none⟩)),.val (p.Y.v),.val (Value.pointer (some ⟨w0.heap.size,0,none⟩)),.val (p.X.v),.val ((Fe.gZ p.Y p.X).v),.val (Value.pointer (some ⟨w0.heap.size,10,none⟩)),.val (p.Z.v),.val (Value.pointer (some ⟨w0.heap.size,10,none⟩)),.val (p.Z.v),.val ((Fe.fD p.Z p.Z).v),.val (dF.v),.val (Value.pointer (some ⟨w0.heap.size,15,none⟩)),.val (p.T.v),.val (Value.pointer (some ⟨w0.heap.size,15,none⟩)),.val (p.T.v),.val ((Fe.fD p.T p.T).v),.val ((Fe.aM dF (Fe.fD p.T p.T)).v),.val ((zw p).v)] 23 ?_ ?_
 .refine Fg.vS rfl (by decide) (fun _ _ h=>Fg.vn _ (Fg.aG rfl (h.r 1) (iy _ _ _))) ?_
  refine Fg.vS rfl (by decide) (fun _ _ h=>Fg.vn p.Y.v (Fg.run_load rfl (h.d 3) ((hP.gn h.base).range 5 (aR p.Y) rfl) Tryz.underlying66 rfl aD)) ?_
  refine Fg.vS rfl (by decide) (fun _ _ h=>Fg.vn _ (Fg.aG rfl (h.r 1) (eY _ _ _))) ?_
  refine Fg.vS rfl (by decide) (fun _ _ h=>Fg.vn p.X.v (Fg.run_load rfl (h.d 5) ((hP.gn h.base).range 0 (aR p.X) rfl) Tryz.underlying66 rfl aD)) ?_
  refine Fg.cS rfl (by decide) (fun _ w h=>Fg.cq rfl (uV iW.Y iW.X) ⟨h.d 4,h.d 6,trivial⟩ Tryz.func129) ?_
  refine Fg.vS rfl (by decide) (fun _ _ h=>Fg.vn _ (Fg.aG rfl (h.r 1) (iy _ _ _))) ?_
  refine Fg.vS rfl (by decide) (fun _ _ h=>Fg.vn p.Y.v (Fg.run_load rfl (h.d 8) ((hP.gn h.base).range 5 (aR p.Y) rfl) Tryz.underlying66 rfl aD)) ?_
  refine Fg.vS rfl (by decide) (fun _ _ h=>Fg.vn _ (Fg.aG rfl (h.r 1) (eY _ _ _))) ?_
  refine Fg.vS rfl (by decide) (fun _ _ h=>Fg.vn p.X.v (Fg.run_load rfl (h.d 10) ((hP.gn h.base).range 0 (aR p.X) rfl) Tryz.underlying66 rfl aD)) ?_
  refine Fg.cS rfl (by decide) (fun _ w h=>Fg.cq rfl (Av (HT.f.grown h.base) iW.Y iW.X) ⟨h.d 9,h.d 11,trivial⟩ Tryz.func127) ?_
  refine Fg.vS rfl (by decide) (fun _ _ h=>Fg.vn _ (Fg.aG rfl (h.r 1) (fq _ _ _))) ?_
  refine Fg.vS rfl (by decide) (fun _ _ h=>Fg.vn p.Z.v (Fg.run_load rfl (h.d 13) ((hP.gn h.base).range 10 (aR p.Z) rfl) Tryz.underlying66 rfl aD)) ?_
  refine Fg.vS rfl (by decide) (fun _ _ h=>Fg.vn _ (Fg.aG rfl (h.r 1) (fq _ _ _))) ?_
  refine Fg.vS rfl (by decide) (fun _ _ h=>Fg.vn p.Z.v (Fg.run_load rfl (h.d 15) ((hP.gn h.base).range 10 (aR p.Z) rfl) Tryz.underlying66 rfl aD)) ?_
  refine Fg.cS rfl (by decide) (fun _ w h=>Fg.cq rfl (uV iW.Z iW.Z) ⟨h.d 14,h.d 16,trivial⟩ Tryz.func129) ?_
  refine Fg.vS rfl (by decide) (fun ac w h=>?_) ?_
  .exact Fg.vn dF.v (Fg.run_load rfl rfl (HT.grown h.base).d Tryz.underlying66 rfl aD)
  refine Fg.vS rfl (by decide) (fun _ _ h=>Fg.vn _ (Fg.aG rfl (h.r 1) (nJ _ _ _))) ?_
  refine Fg.vS rfl (by decide) (fun _ _ h=>Fg.vn p.T.v (Fg.run_load rfl (h.d 19) ((hP.gn h.base).range 15 (aR p.T) rfl) Tryz.underlying66 rfl aD)) ?_
  refine Fg.vS rfl (by decide) (fun _ _ h=>Fg.vn _ (Fg.aG rfl (h.r 1) (nJ _ _ _))) ?_
  refine Fg.vS rfl (by decide) (fun _ _ h=>Fg.vn p.T.v (Fg.run_load rfl (h.d 21) ((hP.gn h.base).range 15 (aR p.T) rfl) Tryz.underlying66 rfl aD)) ?_
  refine Fg.cS rfl (by decide) (fun _ w h=>Fg.cq rfl (uV iW.T iW.T) ⟨h.d 20,h.d 22,trivial⟩ Tryz.func129) ?_
  refine Fg.cS rfl (by decide) (fun _ w h=>Fg.cq rfl (jg wN.ok (Fe.dK _ _).ok) ⟨h.d 18,h.d 23,trivial⟩ Tryz.func82) ?_
  refine Fg.vS rfl (by decide) (fun ac w h=>?_) ?_
  .have e7:_=(Fe.fD p.Y p.X).v:=h.d 7
   have e12:_=(Fe.gZ p.Y p.X).v:=h.d 12
   have e17:_=(Fe.fD p.Z p.Z).v:=h.d 17
   have e24:_=(Fe.aM dF (Fe.fD p.T p.T)).v:=h.d 24
   exact Fg.vn ((zw p).v) (Fg.run_build (vs:=#[(0,(Fe.fD p.Y p.X).v),(1,(Fe.gZ p.Y p.X).v),(2,(Fe.fD p.Z p.Z).v),(3,(Fe.aM dF (Fe.fD p.T p.T)).v)]) rfl (by simp only[List.map_toArray,List.map_cons,List.map_nil,Act.eval,e7,e12,e17,e24]) (by kernel_rfl))
  trivial
 .intro qa V1 g1 hsz hdf hrest aC hpt
  obtain⟨⟨u3,hs3⟩,⟨u4,hs4⟩,⟨u5,hs5⟩,⟨u6,hs6⟩,⟨u7,hs7⟩,⟨u8,kZ⟩,⟨u9,jA⟩,⟨u10,fI⟩,⟨u11,dX⟩,⟨u12,fG⟩,⟨u13,dM⟩,⟨u14,dB⟩,⟨u15,dO⟩,⟨u16,dI⟩,⟨u17,dY⟩,⟨u18,dZ⟩,⟨u19,d9⟩,⟨u20,dS⟩,⟨u21,eG⟩,⟨u22,eH⟩,⟨u23,dU⟩,⟨u24,dP⟩,_⟩:=Fg.bn qa [3,4,5,6,7,8,9,10,11,12,13,14,15,16,17,18,19,20,21,22,23,24]
  obtain⟨x1,hx1⟩:∃x:Ad,x=zw p:=⟨_,rfl⟩
  obtain rfl:=Fg.iB (a:=qa) (vs:=[p.v,Value.pointer (some ⟨w0.heap.size,0,none⟩),Value.pointer (some ⟨w0.heap.size+1,0,none⟩),u3,u4,u5,u6,u7,u8,u9,u10,u11,u12,u13,u14,u15,u16,u17,u18,u19,u20,u21,u22,u23,u24,x1.v]) hsz ⟨hrest 0 (by kernel_rfl),hrest 1 (by kernel_rfl),hrest 2 (by kernel_rfl),hs3,hs4,hs5,hs6,hs7,kZ,jA,fI,dX,fG,dM,dB,dO,dI,dY,dZ,d9,dS,eG,eH,dU,dP,(show qa.tmps.getD 25 undef=x1.v by rw[hx1];exact aC 25 (by kernel_rfl)),trivial⟩ hdf
  clear hsz hdf hrest aC hpt hs3 hs4 hs5 hs6 hs7 kZ jA fI dX fG dM dB dO dI dY dZ d9 dS eG eH dU dP
  have mU:=Lib.hid hx1;clear hx1
  replace hP:=hP.gn g1
  replace hR:=hR.gn g1
  replace G:=aj G g1
  replace HT:=HT.grown g1
  clear g1
  refine Fg.aU rfl rfl (Fg.run_store (cs:=yc x1) rfl rfl rfl (hR.there 0 20 (by show 0+20<=20;decide)) sN (Vf _)) ?_
  replace hP:=hP.ak (C:=(w0.heap.size+1)) (cs:=yc x1) 0 (by omega)
  replace hR:aF (V1.setCells (w0.heap.size+1) 0 (yc x1)) (w0.heap.size+1) 160 (yc x1):=hR.bG rfl
  replace G:=aH (cs:=yc x1) G (B:=(w0.heap.size+1)) (by omega) 0
  replace HT:=HT.keep (aK (cs:=yc x1) (ah _ (some (w0.heap.size+1))) 0) (HT0.jS (by omega))
  revert hP hR G HT
  generalize V1.setCells (w0.heap.size+1) 0 (yc x1)=W2
  intro hP hR G HT
  go_wp2_with fail
  have hx1:=mU.out;subst hx1
  exact bodyPost_ret (v:=(zw p).v) (results_cell_row Tryz.results131 _ _ (w0.heap.size+1) 160 (yc (zw p)).toArray (0,0) _ rfl hR Tryz.underlying160 rfl sN) rfl ⟨rfl,G⟩
end
section
open Go.RowKit Ed
set_option maxRecDepth 100000 in
set_option maxHeartbeats 3200000 in
theorem yt (p:Pt) (w0:World):
  Calls Tryz.prog 98 #[p.v] w0 fun e w'=>e=.returned (nZ p).v/\w0.grownBy w' none:=by
 show Calls Tryz.prog 98 #[.agg (aY p).toArray] w0 _
 go_enter Tryz.func98,Tryz.ntmps98
 go_upto_region 1 with (fail)
 have G:w0.grownBy ((w0.alloc (.cells (aY p).toArray 68)).alloc (.cells nQ.toArray 149)) none:=au (au (ah _ _) _) _
 have hP:aF ((w0.alloc (.cells (aY p).toArray 68)).alloc (.cells nQ.toArray 149)) (w0.heap.size) 68 (aY p):=(aF.new w0 (aY p) _).alloc _
 have hR:aF ((w0.alloc (.cells (aY p).toArray 68)).alloc (.cells nQ.toArray 149)) (w0.heap.size+1) 149 nQ:=aF.newAt (w0.alloc _) nQ _ (by simp)
 revert G hP hR
 generalize (w0.alloc (.cells (aY p).toArray 68)).alloc (.cells nQ.toArray 149)=W0
 intro G hP hR
 have Gs:=G.size
 have lC:=G.size
 have uK:=hP.lt
 have lq:=hR.lt
 refine Fg.rT [] [.any,.any,.any,.val (p.v),.val (Value.pointer (some ⟨w0.heap.size,15,none⟩)),.val (p.T.v),.val (Fe.dQ.v),.val ((nZ p).v)] 5 ?_ ?_
 .refine Fg.vS rfl (by decide) (fun _ _ h=>Fg.vn p.v (Fg.run_load rfl (h.r 1) ((hP.gn h.base).range 0 (aY p) rfl) Tryz.underlying68 rfl aO)) ?_
  refine Fg.vS rfl (by decide) (fun _ _ h=>Fg.vn _ (Fg.aG rfl (h.r 1) (nJ _ _ _))) ?_
  refine Fg.vS rfl (by decide) (fun _ _ h=>Fg.vn p.T.v (Fg.run_load rfl (h.d 4) ((hP.gn h.base).range 15 (aR p.T) rfl) Tryz.underlying66 rfl aD)) ?_
  refine Fg.cS rfl (by decide) (fun ac w h=>?_) ?_
  .refine⟨aB rfl,97,#[],Fg.aN rfl rfl (by simp) (Fg.aI Tryz.func97 (by kernel_rfl) (by kernel_rfl)),?_⟩
   exact (Dh).mono fun _ _ ⟨he,hg⟩=>⟨_,he,hg,rfl⟩
  refine Fg.vS rfl (by decide) (fun ac w h=>?_) ?_
  .have e3:_=p.v:=h.d 3
   have e5:_=p.T.v:=h.d 5
   have e6:_=Fe.dQ.v:=h.d 6
   exact Fg.vn ((nZ p).v) (Fg.run_build (vs:=#[(0,p.v),(1,p.T.v),(2,Fe.dQ.v)]) rfl (by simp only[List.map_toArray,List.map_cons,List.map_nil,Act.eval,e3,e5,e6]) (by kernel_rfl))
  trivial
 .intro qa V1 g1 hsz hdf hrest aC hpt
  obtain⟨⟨u3,hs3⟩,⟨u4,hs4⟩,⟨u5,hs5⟩,⟨u6,hs6⟩,_⟩:=Fg.bn qa [3,4,5,6]
  obtain⟨x1,hx1⟩:∃x:Sm,x=nZ p:=⟨_,rfl⟩
  obtain rfl:=Fg.iB (a:=qa) (vs:=[p.v,Value.pointer (some ⟨w0.heap.size,0,none⟩),Value.pointer (some ⟨w0.heap.size+1,0,none⟩),u3,u4,u5,u6,x1.v]) hsz ⟨hrest 0 (by kernel_rfl),hrest 1 (by kernel_rfl),hrest 2 (by kernel_rfl),hs3,hs4,hs5,hs6,(show qa.tmps.getD 7 undef=x1.v by rw[hx1];exact aC 7 (by kernel_rfl)),trivial⟩ hdf
  clear hsz hdf hrest aC hpt hs3 hs4 hs5 hs6
  have mU:=Lib.hid hx1;clear hx1
  replace hP:=hP.gn g1
  replace hR:=hR.gn g1
  replace G:=aj G g1
  clear g1
  refine Fg.aU rfl rfl (Fg.run_store (cs:=lg x1) rfl rfl rfl (hR.there 0 30 (by show 0+30<=30;decide)) sM (zJ _)) ?_
  replace hP:=hP.ak (C:=(w0.heap.size+1)) (cs:=lg x1) 0 (by omega)
  replace hR:aF (V1.setCells (w0.heap.size+1) 0 (lg x1)) (w0.heap.size+1) 149 (lg x1):=hR.bG rfl
  replace G:=aH (cs:=lg x1) G (B:=(w0.heap.size+1)) (by omega) 0
  revert hP hR G
  generalize V1.setCells (w0.heap.size+1) 0 (lg x1)=W2
  intro hP hR G
  go_wp2_with fail
  have hx1:=mU.out;subst hx1
  exact bodyPost_ret (v:=(nZ p).v) (results_cell_row Tryz.results98 _ _ (w0.heap.size+1) 149 (lg (nZ p)).toArray (0,0) _ rfl hR Tryz.underlying149 rfl sM) rfl ⟨rfl,G⟩
end
section
open Go.RowKit Ed
theorem Ed.OC {p:Pr} (hp:On p) (k:Nat):Ed.add (bq k p) (bq k p)=bq (2*k) p:=by rw[Nat.two_mul,iD hp]
def itF:Nat->Sm->Sm
 | 0,s=>s
 | k+1,s=>J6 (itF k s)
set_option maxRecDepth 100000 in
set_option maxHeartbeats 6400000 in
theorem zf (S n:Nat) (s:Sm) (p:Pr) (w0:World) (hn:n<=100) (HT0:dH w0) (HN:Ym S) (hS:aF w0 S 149 (lg s)) (hs:l9 s p):
  Calls Tryz.prog 99 #[.pointer (some ⟨S,0,none⟩),.int .i64 n] w0 fun e w'=>e=.returned (.tuple #[])/\w0.grownBy w' (some S)/\∃s',l9 s' (bq (2^n) p)/\aF w' S 149 (lg s')/\s'=itF n s:=by
 have hlt:=hS.lt
 go_enter Tryz.func99,Tryz.ntmps99
 go_wp2
 go_loopw [4,5,6,7,8,10] (fun v4 v5 v6 v7 v8 i wr=>∃k:Nat,k<=n/\i=.int .i64 k/\w0.grownBy wr (some S)/\dH wr/\Hid (Fg.jJ [v4,v5,v6] wr/\Fg.jJ [v7] wr/\Fg.jJ [v8] wr)/\∃s',l9 s' (bq (2^k) p)/\aF wr S 149 (lg s')/\s'=itF k s) (fun _ _ _ _ _ i _=>n-(intOf i).toNat)
 case atStart=>exact⟨0,by omega,rfl,ah _ _,HT0,Lib.hid ⟨Fg.jK _ _ rfl,Fg.jK _ _ rfl,Fg.jK _ _ rfl⟩,s,by rw[Nat.pow_zero,wL hs.on];exact hs,hS,rfl⟩
 case round=>
  clear hS
  obtain⟨k,hk,rfl,G,HT,HA,s',hs',hS,hd⟩:=hrel
  have HD:=Lib.hid hd;clear hd
  by_cases hkn:k<n
  .have i0:(k:Int)<n:=by omega
   have oks:=hs'.ok
   have HS:Ym S:=HN
   have hz:wr.heap.size<=wr.heap.size:=Nat.le_refl _
   have hwr:=G.size
   go_upto_region 2 with (fail)
   have lC:=G.size
   have VA:=hS.lt
   refine Fg.jI (ps:=[4,5,6]) [.any,.any,.any,.any,.fresh 66 gT wr.heap.size,.fresh 66 gT wr.heap.size,.fresh 66 gT wr.heap.size,.any,.any,.any,.any,.any,.val (Value.pointer (some ⟨S,0,none⟩)),.val (Value.pointer (some ⟨S,0,none⟩)),.val (Value.pointer (some ⟨S,0,none⟩)),.val (Value.pointer (some ⟨S,0,none⟩)),.val (s'.X.v),.val ((Fe.cZ s'.X).v),.val (Value.pointer (some ⟨S,0,none⟩)),.val (Value.pointer (some ⟨S,0,none⟩)),.val (Value.pointer (some ⟨S,0,none⟩)),.val (Value.pointer (some ⟨S,5,none⟩)),.val (s'.Y.v),.val ((Fe.cZ s'.Y).v),.val (Value.pointer (some ⟨S,0,none⟩)),.val (Value.pointer (some ⟨S,0,none⟩)),.val (Value.pointer (some ⟨S,0,none⟩)),.val (Value.pointer (some ⟨S,10,none⟩)),.val (s'.Z.v),.val ((Fe.cZ s'.Z).v)] (fun w=>World.grownBy wr w none) 21 (aX (ah _ _)) (by kernel_rfl) (by kernel_rfl) (by kernel_rfl) (by kernel_rfl) (by decide) (Fg.qG (l:=[u4,u5,u6]) rfl (Fg.zZ HA.out.1)) ?_ ?_
   .refine Fg.vS rfl (by decide) (fun _ _ h=>Fg.vn _ (Fg.run_move rfl (h.r 0))) ?_
    refine Fg.vS rfl (by decide) (fun _ _ h=>Fg.vn _ (Fg.cu rfl (h.d 12))) ?_
    refine Fg.vS rfl (by decide) (fun _ _ h=>Fg.vn _ (Fg.aG rfl (h.d 13) (ji _ _ _))) ?_
    refine Fg.vS rfl (by decide) (fun _ _ h=>Fg.vn _ (Fg.aG rfl (h.d 14) (eY _ _ _))) ?_
    refine Fg.vS rfl (by decide) (fun _ _ h=>Fg.vn (s'.X.v) (Fg.run_load rfl (h.d 15) ((hS.gn h.base).range 0 (aR s'.X) rfl) Tryz.underlying66 rfl aD)) ?_
    refine Fg.cS rfl (by decide) (fun _ w h=>Fg.cq rfl (Vi oks.X) ⟨h.d 16,trivial⟩ Tryz.func105) ?_
    refine Fg.vS rfl (by decide) (fun _ _ h=>Fg.vn _ (Fg.run_move rfl (h.r 0))) ?_
    refine Fg.vS rfl (by decide) (fun _ _ h=>Fg.vn _ (Fg.cu rfl (h.d 18))) ?_
    refine Fg.vS rfl (by decide) (fun _ _ h=>Fg.vn _ (Fg.aG rfl (h.d 19) (ji _ _ _))) ?_
    refine Fg.vS rfl (by decide) (fun _ _ h=>Fg.vn _ (Fg.aG rfl (h.d 20) (iy _ _ _))) ?_
    refine Fg.vS rfl (by decide) (fun _ _ h=>Fg.vn (s'.Y.v) (Fg.run_load rfl (h.d 21) ((hS.gn h.base).range 5 (aR s'.Y) rfl) Tryz.underlying66 rfl aD)) ?_
    refine Fg.cS rfl (by decide) (fun _ w h=>Fg.cq rfl (Vi oks.Y) ⟨h.d 22,trivial⟩ Tryz.func105) ?_
    refine Fg.vS rfl (by decide) (fun _ _ h=>Fg.vn _ (Fg.run_move rfl (h.r 0))) ?_
    refine Fg.vS rfl (by decide) (fun _ _ h=>Fg.vn _ (Fg.cu rfl (h.d 24))) ?_
    refine Fg.vS rfl (by decide) (fun _ _ h=>Fg.vn _ (Fg.aG rfl (h.d 25) (ji _ _ _))) ?_
    refine Fg.vS rfl (by decide) (fun _ _ h=>Fg.vn _ (Fg.aG rfl (h.d 26) (fq _ _ _))) ?_
    refine Fg.vS rfl (by decide) (fun _ _ h=>Fg.vn (s'.Z.v) (Fg.run_load rfl (h.d 27) ((hS.gn h.base).range 10 (aR s'.Z) rfl) Tryz.underlying66 rfl aD)) ?_
    refine Fg.cS rfl (by decide) (fun _ w h=>Fg.cq rfl (Vi oks.Z) ⟨h.d 28,trivial⟩ Tryz.func105) ?_
    refine⟨⟨⟨_,rfl⟩,Fg.gD (fun _ _ h k=>aj h k) rfl (by show 4<59;decide) fun ac w h=>?_⟩,?_⟩
    .refine⟨aB rfl,w.alloc (.cells gT.toArray 66),?_,World.grownBy_alloc _ _ _,by simp,⟨w.heap.size,rfl,h.base.size,aF.new w gT _⟩⟩
     clear h
     go_simp
    refine⟨⟨⟨_,rfl⟩,Fg.gD (fun _ _ h k=>aj h k) rfl (by show 5<59;decide) fun ac w h=>?_⟩,?_⟩
    .refine⟨aB rfl,w.alloc (.cells gT.toArray 66),?_,World.grownBy_alloc _ _ _,by simp,⟨w.heap.size,rfl,h.base.size,aF.new w gT _⟩⟩
     clear h
     go_simp
    refine⟨⟨⟨_,rfl⟩,Fg.gD (fun _ _ h k=>aj h k) rfl (by show 6<59;decide) fun ac w h=>?_⟩,?_⟩
    .refine⟨aB rfl,w.alloc (.cells gT.toArray 66),?_,World.grownBy_alloc _ _ _,by simp,⟨w.heap.size,rfl,h.base.size,aF.new w gT _⟩⟩
     clear h
     go_simp
    trivial
   .intro qa V1 g1 hsz hdf hrest aC hpt
    obtain⟨N4,hs4,Ms,hb4⟩:∃N,qa.tmps.getD 4 undef=.pointer (some ⟨N,0,none⟩)/\wr.heap.size<=N/\aF V1 N 66 gT:=aC 4 (by kernel_rfl)
    obtain⟨N5,hs5,P9,hb5⟩:∃N,qa.tmps.getD 5 undef=.pointer (some ⟨N,0,none⟩)/\wr.heap.size<=N/\aF V1 N 66 gT:=aC 5 (by kernel_rfl)
    obtain⟨N6,hs6,Og,hb6⟩:∃N,qa.tmps.getD 6 undef=.pointer (some ⟨N,0,none⟩)/\wr.heap.size<=N/\aF V1 N 66 gT:=aC 6 (by kernel_rfl)
    obtain⟨⟨u12,fG⟩,⟨u13,dM⟩,⟨u14,dB⟩,⟨u15,dO⟩,⟨u16,dI⟩,_⟩:=Fg.bn qa [12,13,14,15,16]
    obtain⟨x1,hx1⟩:∃x:Fe,x=Fe.cZ s'.X:=⟨_,rfl⟩
    obtain⟨⟨u18,dZ⟩,⟨u19,d9⟩,⟨u20,dS⟩,⟨u21,eG⟩,⟨u22,eH⟩,_⟩:=Fg.bn qa [18,19,20,21,22]
    obtain⟨x2,hx2⟩:∃x:Fe,x=Fe.cZ s'.Y:=⟨_,rfl⟩
    obtain⟨⟨u24,dP⟩,⟨u25,eD⟩,⟨u26,eF⟩,⟨u27,fH⟩,⟨u28,jc⟩,_⟩:=Fg.bn qa [24,25,26,27,28]
    obtain⟨x3,hx3⟩:∃x:Fe,x=Fe.cZ s'.Z:=⟨_,rfl⟩
    have alo:N4≠N5:=fun e=>(hpt 4 (by simp) N4 hs4).2 5 (by simp) (by decide) (by rw[hs5,e])
    have alp:N4≠N6:=fun e=>(hpt 4 (by simp) N4 hs4).2 6 (by simp) (by decide) (by rw[hs6,e])
    have alq:N5≠N6:=fun e=>(hpt 5 (by simp) N5 hs5).2 6 (by simp) (by decide) (by rw[hs6,e])
    obtain rfl:=Fg.aP [4,5,6,12,13,14,15,16,17,18,19,20,21,22,23,24,25,26,27,28,29] (vs:=[_,_,_,_,Value.pointer (some ⟨N4,0,none⟩),Value.pointer (some ⟨N5,0,none⟩),Value.pointer (some ⟨N6,0,none⟩),_,_,_,_,_,u12,u13,u14,u15,u16,x1.v,u18,u19,u20,u21,u22,x2.v,u24,u25,u26,u27,u28,x3.v,_,_,_,_,_,_,_,_,_,_,_,_,_,_,_,_,_,_,_,_,_,_,_,_,_,_,_,_,_]) hsz hrest (by kernel_rfl) rfl rfl ⟨hs4,hs5,hs6,fG,dM,dB,dO,dI,(show qa.tmps.getD 17 undef=x1.v by rw[hx1];exact aC 17 (by kernel_rfl)),dZ,d9,dS,eG,eH,(show qa.tmps.getD 23 undef=x2.v by rw[hx2];exact aC 23 (by kernel_rfl)),dP,eD,eF,fH,jc,(show qa.tmps.getD 29 undef=x3.v by rw[hx3];exact aC 29 (by kernel_rfl)),trivial⟩ hdf
    clear hsz hdf hrest aC hpt hs4 hs5 hs6 fG dM dB dO dI dZ d9 dS eG eH dP eD eF fH jc
    have mU:=Lib.hid hx1;clear hx1
    have Fu:=Lib.hid hx2;clear hx2
    have RP:=Lib.hid hx3;clear hx3
    replace hS:=hS.gn g1
    replace G:=aj G (fZ g1 _)
    replace HT:=HT.grown g1
    replace hz:=Nat.le_trans hz g1.size
    have mg:x1.Ok:=by rw[mU.out];exact (Fe.dR _).ok
    have Kr:x2.Ok:=by rw[Fu.out];exact (Fe.dR _).ok
    have OA:x3.Ok:=by rw[RP.out];exact (Fe.dR _).ok
    have hw4:w0.heap.size<=N4:=Nat.le_trans lC Ms
    have Fv:w0.heap.size<=N5:=Nat.le_trans lC P9
    have Di:w0.heap.size<=N6:=Nat.le_trans lC Og
    clear g1
    refine Fg.aU rfl rfl (Fg.run_store (cs:=aR x1) rfl rfl rfl (hb4.there 0 5 (by show 0+5<=5;decide)) aD (dn _)) ?_
    replace hS:=hS.ak (C:=N4) (cs:=aR x1) 0 (by omega)
    replace hb4:aF (V1.setCells N4 0 (aR x1)) N4 66 (aR x1):=hb4.bG rfl
    replace hb5:=hb5.ak (C:=N4) (cs:=aR x1) 0 (by omega)
    replace hb6:=hb6.ak (C:=N4) (cs:=aR x1) 0 (by omega)
    replace hz:=Nat.le_trans hz (aK (cs:=aR x1) (ah V1 (some N4)) 0).size
    replace G:=aH (cs:=aR x1) G (B:=N4) (hw4) 0
    replace HT:=HT.keep (aK (cs:=aR x1) (ah _ (some N4)) 0) (HT0.jS (hw4))
    revert hS hb4 hb5 hb6 hz G HT
    generalize V1.setCells N4 0 (aR x1)=W2
    intro hS hb4 hb5 hb6 hz G HT
    refine Fg.aU rfl rfl (Fg.run_store (cs:=aR x2) rfl rfl rfl (hb5.there 0 5 (by show 0+5<=5;decide)) aD (dn _)) ?_
    replace hS:=hS.ak (C:=N5) (cs:=aR x2) 0 (by omega)
    replace hb4:=hb4.ak (C:=N5) (cs:=aR x2) 0 (by omega)
    replace hb5:aF (W2.setCells N5 0 (aR x2)) N5 66 (aR x2):=hb5.bG rfl
    replace hb6:=hb6.ak (C:=N5) (cs:=aR x2) 0 (by omega)
    replace hz:=Nat.le_trans hz (aK (cs:=aR x2) (ah W2 (some N5)) 0).size
    replace G:=aH (cs:=aR x2) G (B:=N5) (Fv) 0
    replace HT:=HT.keep (aK (cs:=aR x2) (ah _ (some N5)) 0) (HT0.jS (Fv))
    revert hS hb4 hb5 hb6 hz G HT
    generalize W2.setCells N5 0 (aR x2)=W3
    intro hS hb4 hb5 hb6 hz G HT
    refine Fg.aU rfl rfl (Fg.run_store (cs:=aR x3) rfl rfl rfl (hb6.there 0 5 (by show 0+5<=5;decide)) aD (dn _)) ?_
    replace hS:=hS.ak (C:=N6) (cs:=aR x3) 0 (by omega)
    replace hb4:=hb4.ak (C:=N6) (cs:=aR x3) 0 (by omega)
    replace hb5:=hb5.ak (C:=N6) (cs:=aR x3) 0 (by omega)
    replace hb6:aF (W3.setCells N6 0 (aR x3)) N6 66 (aR x3):=hb6.bG rfl
    replace hz:=Nat.le_trans hz (aK (cs:=aR x3) (ah W3 (some N6)) 0).size
    replace G:=aH (cs:=aR x3) G (B:=N6) (Di) 0
    replace HT:=HT.keep (aK (cs:=aR x3) (ah _ (some N6)) 0) (HT0.jS (Di))
    revert hS hb4 hb5 hb6 hz G HT
    generalize W3.setCells N6 0 (aR x3)=W4
    intro hS hb4 hb5 hb6 hz G HT
    go_upto_region 3 with (fail)
    have Oh:=G.size
    have VB:=hS.lt
    have Gh:=hb4.lt
    have wS:=hb5.lt
    have Gc:=hb6.lt
    refine Fg.jI (ps:=[7]) [.any,.any,.any,.any,.any,.any,.any,.fresh 66 gT W4.heap.size,.any,.any,.any,.any,.any,.any,.any,.any,.any,.any,.any,.any,.any,.any,.any,.any,.any,.any,.any,.any,.any,.any,.val (Value.pointer (some ⟨S,0,none⟩)),.val (Value.pointer (some ⟨S,0,none⟩)),.val (Value.pointer (some ⟨S,0,none⟩)),.val (Value.pointer (some ⟨S,0,none⟩)),.val (s'.X.v),.val (Value.pointer (some ⟨S,0,none⟩)),.val (Value.pointer (some ⟨S,0,none⟩)),.val (Value.pointer (some ⟨S,0,none⟩)),.val (Value.pointer (some ⟨S,5,none⟩)),.val (s'.Y.v),.val ((Fe.aM s'.X s'.Y).v)] (fun w=>World.grownBy W4 w none) 12 (aX (ah _ _)) (by kernel_rfl) (by kernel_rfl) (by kernel_rfl) (by kernel_rfl) (by decide) (Fg.qG (l:=[u7]) rfl (Fg.zZ (HA.out.2.1.mono hz))) ?_ ?_
    .refine Fg.vS rfl (by decide) (fun _ _ h=>Fg.vn _ (Fg.run_move rfl (h.r 0))) ?_
     refine Fg.vS rfl (by decide) (fun _ _ h=>Fg.vn _ (Fg.cu rfl (h.d 30))) ?_
     refine Fg.vS rfl (by decide) (fun _ _ h=>Fg.vn _ (Fg.aG rfl (h.d 31) (ji _ _ _))) ?_
     refine Fg.vS rfl (by decide) (fun _ _ h=>Fg.vn _ (Fg.aG rfl (h.d 32) (eY _ _ _))) ?_
     refine Fg.vS rfl (by decide) (fun _ _ h=>Fg.vn (s'.X.v) (Fg.run_load rfl (h.d 33) ((hS.gn h.base).range 0 (aR s'.X) rfl) Tryz.underlying66 rfl aD)) ?_
     refine Fg.vS rfl (by decide) (fun _ _ h=>Fg.vn _ (Fg.run_move rfl (h.r 0))) ?_
     refine Fg.vS rfl (by decide) (fun _ _ h=>Fg.vn _ (Fg.cu rfl (h.d 35))) ?_
     refine Fg.vS rfl (by decide) (fun _ _ h=>Fg.vn _ (Fg.aG rfl (h.d 36) (ji _ _ _))) ?_
     refine Fg.vS rfl (by decide) (fun _ _ h=>Fg.vn _ (Fg.aG rfl (h.d 37) (iy _ _ _))) ?_
     refine Fg.vS rfl (by decide) (fun _ _ h=>Fg.vn (s'.Y.v) (Fg.run_load rfl (h.d 38) ((hS.gn h.base).range 5 (aR s'.Y) rfl) Tryz.underlying66 rfl aD)) ?_
     refine Fg.cS rfl (by decide) (fun _ w h=>Fg.cq rfl (jg oks.X oks.Y) ⟨h.d 34,h.d 39,trivial⟩ Tryz.func82) ?_
     refine⟨⟨⟨_,rfl⟩,Fg.gD (fun _ _ h k=>aj h k) rfl (by show 7<59;decide) fun ac w h=>?_⟩,?_⟩
     .refine⟨aB rfl,w.alloc (.cells gT.toArray 66),?_,World.grownBy_alloc _ _ _,by simp,⟨w.heap.size,rfl,h.base.size,aF.new w gT _⟩⟩
      clear h
      go_simp
     trivial
    .intro qa V5 g5 hsz hdf hrest aC hpt
     obtain⟨N7,hs7,Vj,dx⟩:∃N,qa.tmps.getD 7 undef=.pointer (some ⟨N,0,none⟩)/\W4.heap.size<=N/\aF V5 N 66 gT:=aC 7 (by kernel_rfl)
     obtain⟨⟨u30,iQ⟩,⟨u31,gJ⟩,⟨u32,jN⟩,⟨u33,jv⟩,⟨u34,iY⟩,⟨u35,jO⟩,⟨u36,jP⟩,⟨u37,kP⟩,⟨u38,kQ⟩,⟨u39,oh⟩,_⟩:=Fg.bn qa [30,31,32,33,34,35,36,37,38,39]
     obtain⟨x4,hx4⟩:∃x:Fe,x=Fe.aM s'.X s'.Y:=⟨_,rfl⟩
     obtain rfl:=Fg.aP [7,30,31,32,33,34,35,36,37,38,39,40] (vs:=[_,_,_,_,_,_,_,Value.pointer (some ⟨N7,0,none⟩),_,_,_,_,_,_,_,_,_,_,_,_,_,_,_,_,_,_,_,_,_,_,u30,u31,u32,u33,u34,u35,u36,u37,u38,u39,x4.v,_,_,_,_,_,_,_,_,_,_,_,_,_,_,_,_,_,_]) hsz hrest (by kernel_rfl) rfl rfl ⟨hs7,iQ,gJ,jN,jv,iY,jO,jP,kP,kQ,oh,(show qa.tmps.getD 40 undef=x4.v by rw[hx4];exact aC 40 (by kernel_rfl)),trivial⟩ hdf
     clear hsz hdf hrest aC hpt hs7 iQ gJ jN jv iY jO jP kP kQ oh
     have Z5:=Lib.hid hx4;clear hx4
     replace hS:=hS.gn g5
     replace hb4:=hb4.gn g5
     replace hb5:=hb5.gn g5
     replace hb6:=hb6.gn g5
     replace G:=aj G (fZ g5 _)
     replace HT:=HT.grown g5
     replace hz:=Nat.le_trans hz g5.size
     have RQ:x4.Ok:=by rw[Z5.out];exact (Fe.mul_right _ _).ok
     have hw7:w0.heap.size<=N7:=Nat.le_trans Oh Vj
     clear g5
     refine Fg.aU rfl rfl (Fg.run_store (cs:=aR x4) rfl rfl rfl (dx.there 0 5 (by show 0+5<=5;decide)) aD (dn _)) ?_
     replace hS:=hS.ak (C:=N7) (cs:=aR x4) 0 (by omega)
     replace hb4:=hb4.ak (C:=N7) (cs:=aR x4) 0 (by omega)
     replace hb5:=hb5.ak (C:=N7) (cs:=aR x4) 0 (by omega)
     replace hb6:=hb6.ak (C:=N7) (cs:=aR x4) 0 (by omega)
     replace dx:aF (V5.setCells N7 0 (aR x4)) N7 66 (aR x4):=dx.bG rfl
     replace hz:=Nat.le_trans hz (aK (cs:=aR x4) (ah V5 (some N7)) 0).size
     replace G:=aH (cs:=aR x4) G (B:=N7) (hw7) 0
     replace HT:=HT.keep (aK (cs:=aR x4) (ah _ (some N7)) 0) (HT0.jS (hw7))
     revert hS hb4 hb5 hb6 dx hz G HT
     generalize V5.setCells N7 0 (aR x4)=W6
     intro hS hb4 hb5 hb6 dx hz G HT
     go_upto_region 4 with (fail)
     have Gs6:=G.size
     have YJ:=hS.lt
     have Dk:=hb4.lt
     have ze:=hb5.lt
     have yY:=hb6.lt
     have yZ:=dx.lt
     refine Fg.iN (ps:=[8]) [.any,.any,.any,.any,.any,.any,.any,.any,.fresh 66 gT W6.heap.size,.any,.any,.any,.any,.any,.any,.any,.any,.any,.any,.any,.any,.any,.any,.any,.any,.any,.any,.any,.any,.any,.any,.any,.any,.any,.any,.any,.any,.any,.any,.any,.any,.val (x2.v),.val (x1.v),.val ((Fe.gZ x2 x1).v)] (fun w=>World.grownBy W6 w none) 4 (ah _ _) (by kernel_rfl) (by kernel_rfl) (by decide) (Fg.qG (l:=[u8]) rfl (HA.out.2.2.mono hz)) ?_ ?_
     .refine Fg.vS rfl (by decide) (fun _ _ h=>Fg.vn x2.v (Fg.run_load rfl (h.r 5) ((hb5.gn h.base).range 0 (aR x2) rfl) Tryz.underlying66 rfl aD)) ?_
      refine Fg.vS rfl (by decide) (fun _ _ h=>Fg.vn x1.v (Fg.run_load rfl (h.r 4) ((hb4.gn h.base).range 0 (aR x1) rfl) Tryz.underlying66 rfl aD)) ?_
      refine Fg.cS rfl (by decide) (fun _ w h=>Fg.cq rfl (Av (HT.f.grown h.base) Kr mg) ⟨h.d 41,h.d 42,trivial⟩ Tryz.func127) ?_
      refine⟨⟨⟨_,rfl⟩,Fg.gD (fun _ _ h k=>aj h k) rfl (by show 8<59;decide) fun ac w h=>?_⟩,?_⟩
      .refine⟨aB rfl,w.alloc (.cells gT.toArray 66),?_,World.grownBy_alloc _ _ _,by simp,⟨w.heap.size,rfl,h.base.size,aF.new w gT _⟩⟩
       clear h
       go_simp
      trivial
     .intro qa V7 g7 hsz hdf hrest aC hpt
      obtain⟨N8,kZ,hn8,gu⟩:∃N,qa.tmps.getD 8 undef=.pointer (some ⟨N,0,none⟩)/\W6.heap.size<=N/\aF V7 N 66 gT:=aC 8 (by kernel_rfl)
      obtain⟨u41,ql⟩:=Fg.bP qa 41
      obtain⟨u42,mo⟩:=Fg.bP qa 42
      obtain⟨x5,hx5⟩:∃x:Fe,x=Fe.gZ x2 x1:=⟨_,rfl⟩
      obtain rfl:=Fg.aP [8,41,42,43] (vs:=[_,_,_,_,_,_,_,_,Value.pointer (some ⟨N8,0,none⟩),_,_,_,_,_,_,_,_,_,_,_,_,_,_,_,_,_,_,_,_,_,_,_,_,_,_,_,_,_,_,_,_,u41,u42,x5.v,_,_,_,_,_,_,_,_,_,_,_,_,_,_,_]) hsz hrest (by kernel_rfl) rfl rfl ⟨kZ,ql,mo,(show qa.tmps.getD 43 undef=x5.v by rw[hx5];exact aC 43 (by kernel_rfl)),trivial⟩ hdf
      clear hsz hdf hrest aC hpt kZ ql mo
      have Z6:=Lib.hid hx5;clear hx5
      replace hS:=hS.gn g7
      replace hb4:=hb4.gn g7
      replace hb5:=hb5.gn g7
      replace hb6:=hb6.gn g7
      replace dx:=dx.gn g7
      replace G:=aj G (fZ g7 _)
      replace HT:=HT.grown g7
      replace hz:=Nat.le_trans hz g7.size
      have VD:x5.Ok:=by rw[Z6.out];exact (Fe.fO _ _).ok
      have hw8:w0.heap.size<=N8:=Nat.le_trans Gs6 hn8
      clear g7
      refine Fg.aU rfl rfl (Fg.run_store (cs:=aR x5) rfl rfl rfl (gu.there 0 5 (by show 0+5<=5;decide)) aD (dn _)) ?_
      replace hS:=hS.ak (C:=N8) (cs:=aR x5) 0 (by omega)
      replace hb4:=hb4.ak (C:=N8) (cs:=aR x5) 0 (by omega)
      replace hb5:=hb5.ak (C:=N8) (cs:=aR x5) 0 (by omega)
      replace hb6:=hb6.ak (C:=N8) (cs:=aR x5) 0 (by omega)
      replace dx:=dx.ak (C:=N8) (cs:=aR x5) 0 (by omega)
      replace gu:aF (V7.setCells N8 0 (aR x5)) N8 66 (aR x5):=gu.bG rfl
      replace hz:=Nat.le_trans hz (aK (cs:=aR x5) (ah V7 (some N8)) 0).size
      replace G:=aH (cs:=aR x5) G (B:=N8) (hw8) 0
      replace HT:=HT.keep (aK (cs:=aR x5) (ah _ (some N8)) 0) (HT0.jS (hw8))
      revert hS hb4 hb5 hb6 dx gu hz G HT
      generalize V7.setCells N8 0 (aR x5)=W8
      intro hS hb4 hb5 hb6 dx gu hz G HT
      go_upto_region 5 with (fail)
      have Gs8:=G.size
      have abw:=hS.lt
      have Xr:=hb4.lt
      have MH:=hb5.lt
      have Ay:=hb6.lt
      have Dj:=dx.lt
      have RU:=gu.lt
      refine Fg.rT [] [.any,.any,.any,.any,.any,.any,.any,.any,.any,.any,.any,.any,.any,.any,.any,.any,.any,.any,.any,.any,.any,.any,.any,.any,.any,.any,.any,.any,.any,.any,.any,.any,.any,.any,.any,.any,.any,.any,.any,.any,.any,.any,.any,.any,.val (Value.pointer (some ⟨S,0,none⟩)),.val (x4.v),.val (x4.v),.val ((Fe.fD x4 x4).v),.val (x5.v),.val (x2.v),.val (x1.v),.val ((Fe.fD x2 x1).v),.val (x3.v),.val (x3.v),.val ((Fe.fD x3 x3).v),.val (x5.v),.val ((Fe.gZ (Fe.fD x3 x3) x5).v)] 13 ?_ ?_
      .refine Fg.vS rfl (by decide) (fun _ _ h=>Fg.vn _ (Fg.run_move rfl (h.r 0))) ?_
       refine Fg.vS rfl (by decide) (fun _ _ h=>Fg.vn x4.v (Fg.run_load rfl (h.r 7) ((dx.gn h.base).range 0 (aR x4) rfl) Tryz.underlying66 rfl aD)) ?_
       refine Fg.vS rfl (by decide) (fun _ _ h=>Fg.vn x4.v (Fg.run_load rfl (h.r 7) ((dx.gn h.base).range 0 (aR x4) rfl) Tryz.underlying66 rfl aD)) ?_
       refine Fg.cS rfl (by decide) (fun _ w h=>Fg.cq rfl (uV RQ RQ) ⟨h.d 45,h.d 46,trivial⟩ Tryz.func129) ?_
       refine Fg.vS rfl (by decide) (fun _ _ h=>Fg.vn x5.v (Fg.run_load rfl (h.r 8) ((gu.gn h.base).range 0 (aR x5) rfl) Tryz.underlying66 rfl aD)) ?_
       refine Fg.vS rfl (by decide) (fun _ _ h=>Fg.vn x2.v (Fg.run_load rfl (h.r 5) ((hb5.gn h.base).range 0 (aR x2) rfl) Tryz.underlying66 rfl aD)) ?_
       refine Fg.vS rfl (by decide) (fun _ _ h=>Fg.vn x1.v (Fg.run_load rfl (h.r 4) ((hb4.gn h.base).range 0 (aR x1) rfl) Tryz.underlying66 rfl aD)) ?_
       refine Fg.cS rfl (by decide) (fun _ w h=>Fg.cq rfl (uV Kr mg) ⟨h.d 49,h.d 50,trivial⟩ Tryz.func129) ?_
       refine Fg.vS rfl (by decide) (fun _ _ h=>Fg.vn x3.v (Fg.run_load rfl (h.r 6) ((hb6.gn h.base).range 0 (aR x3) rfl) Tryz.underlying66 rfl aD)) ?_
       refine Fg.vS rfl (by decide) (fun _ _ h=>Fg.vn x3.v (Fg.run_load rfl (h.r 6) ((hb6.gn h.base).range 0 (aR x3) rfl) Tryz.underlying66 rfl aD)) ?_
       refine Fg.cS rfl (by decide) (fun _ w h=>Fg.cq rfl (uV OA OA) ⟨h.d 52,h.d 53,trivial⟩ Tryz.func129) ?_
       refine Fg.vS rfl (by decide) (fun _ _ h=>Fg.vn x5.v (Fg.run_load rfl (h.r 8) ((gu.gn h.base).range 0 (aR x5) rfl) Tryz.underlying66 rfl aD)) ?_
       refine Fg.cS rfl (by decide) (fun _ w h=>Fg.cq rfl (Av (HT.f.grown h.base) (Fe.dK _ _).ok VD) ⟨h.d 54,h.d 55,trivial⟩ Tryz.func127) ?_
       trivial
      .intro qa V9 g9 hsz hdf hrest aC hpt
       obtain⟨u45,mq⟩:=Fg.bP qa 45
       obtain⟨u46,mD⟩:=Fg.bP qa 46
       obtain⟨x6,hx6⟩:∃x:Fe,x=Fe.fD x4 x4:=⟨_,rfl⟩
       obtain⟨u49,GU⟩:=Fg.bP qa 49
       obtain⟨u50,GV⟩:=Fg.bP qa 50
       obtain⟨x7,hx7⟩:∃x:Fe,x=Fe.fD x2 x1:=⟨_,rfl⟩
       obtain⟨⟨u52,GN⟩,⟨u53,RV⟩,⟨u54,GQ⟩,⟨u55,GR⟩,_⟩:=Fg.bn qa [52,53,54,55]
       obtain⟨x8,OB⟩:∃x:Fe,x=Fe.gZ (Fe.fD x3 x3) x5:=⟨_,rfl⟩
       obtain rfl:=Fg.aP [44,45,46,47,48,49,50,51,52,53,54,55,56] (vs:=[_,_,_,_,_,_,_,_,_,_,_,_,_,_,_,_,_,_,_,_,_,_,_,_,_,_,_,_,_,_,_,_,_,_,_,_,_,_,_,_,_,_,_,_,Value.pointer (some ⟨S,0,none⟩),u45,u46,x6.v,x5.v,u49,u50,x7.v,u52,u53,u54,u55,x8.v,_,_]) hsz hrest (by kernel_rfl) rfl rfl ⟨(show qa.tmps.getD 44 undef=Value.pointer (some ⟨S,0,none⟩) from aC 44 (by kernel_rfl)),mq,mD,(show qa.tmps.getD 47 undef=x6.v by rw[hx6];exact aC 47 (by kernel_rfl)),(show qa.tmps.getD 48 undef=x5.v from aC 48 (by kernel_rfl)),GU,GV,(show qa.tmps.getD 51 undef=x7.v by rw[hx7];exact aC 51 (by kernel_rfl)),GN,RV,GQ,GR,(show qa.tmps.getD 56 undef=x8.v by rw[OB];exact aC 56 (by kernel_rfl)),trivial⟩ hdf
       clear hsz hdf hrest aC hpt mq mD GU GV GN RV GQ GR
       have Vk:=Lib.hid hx6;clear hx6
       have Z7:=Lib.hid hx7;clear hx7
       have Z8:=Lib.hid OB;clear OB
       replace hS:=hS.gn g9
       replace hb4:=hb4.gn g9
       replace hb5:=hb5.gn g9
       replace hb6:=hb6.gn g9
       replace dx:=dx.gn g9
       replace gu:=gu.gn g9
       replace G:=aj G (fZ g9 _)
       replace HT:=HT.grown g9
       replace hz:=Nat.le_trans hz g9.size
       have Vl:x6.Ok:=by rw[Vk.out];exact (Fe.dK _ _).ok
       have YM:x7.Ok:=by rw[Z7.out];exact (Fe.dK _ _).ok
       have YN:x8.Ok:=by rw[Z8.out];exact (Fe.fO _ _).ok
       clear g9
       have abx:=hS.lt
       have Xt:=hb4.lt
       have MI:=hb5.lt
       have Mi:=hb6.lt
       have Mj:=dx.lt
       have GY:=gu.lt
       refine Fg.bU rfl (Fg.aN (vs:=#[Value.pointer (some ⟨S,0,none⟩),x6.v,x5.v,x7.v,x8.v]) rfl rfl (by simp only[List.map_toArray,List.map_cons,List.map_nil,Act.eval];rfl) (Fg.aI Tryz.func128 (by kernel_rfl) (by kernel_rfl))) ?_
       refine (Bf S _ x6 x5 x7 x8 _ hS Vl VD YM YN).mono ?_
       rintro e w9 ⟨rfl,g9,h9⟩
       replace G:=aj G g9
       replace HT:=HT.keep g9 HS
       have z9:=g9.size
       refine⟨_,rfl,?_⟩
       have VE:=Lib.hid (And.intro (Fg.FC (A:=N4) (B:=N5) (C:=N6) (w:=w9) (by omega) (by omega) (by omega) (by omega) (by omega) (by omega)) (And.intro (Fg.nH (N:=N7) (w:=w9) (by omega)) (Fg.nH (N:=N8) (w:=w9) (by omega))))
       have jA:l9 (bF s'.T x6 x5 x7 x8) (bq (2^(k+1)) p):=by
        have OB:=Z8.out;subst OB
        have hx7:=Z7.out;subst hx7
        have hx6:=Vk.out;subst hx6
        have hx5:=Z6.out;subst hx5
        have hx4:=Z5.out;subst hx4
        have hx3:=RP.out;subst hx3
        have hx2:=Fu.out;subst hx2
        have hx1:=mU.out;subst hx1
        rw[Nat.pow_succ,Nat.mul_comm,<- OC hs.on]
        exact Mf hs'
       have hd9:bF s'.T x6 x5 x7 x8=itF (k+1) s:=by
        have OB:=Z8.out;subst OB
        have hx7:=Z7.out;subst hx7
        have hx6:=Vk.out;subst hx6
        have hx5:=Z6.out;subst hx5
        have hx4:=Z5.out;subst hx4
        have hx3:=RP.out;subst hx3
        have hx2:=Fu.out;subst hx2
        have hx1:=mU.out;subst hx1
        rw[HD.out]
        rfl
       have H9:=Lib.hid (And.intro jA (And.intro h9 hd9))
       clear hS hb4 hb5 hb6 dx gu jA h9 hd9
       clear VA VB Gh wS Gc YJ Dk ze yY yZ abw Xr MH Ay Dj RU abx Xt MI Mi Mj GY
       go_wp2
       go_roundw
       case rel=>exact⟨k+1,by omega,by go_num,G,HT,VE,_,H9.out.1,H9.out.2.1,H9.out.2.2⟩
       case measure=>simp[intOf];omega
  .obtain rfl:k=n:=by omega
   have H9:=Lib.hid (And.intro hs' (And.intro hS HD.out));clear hs' hS HD
   go_wp2
   go_end0
   exact⟨rfl,G,_,H9.out.1,H9.out.2.1,H9.out.2.2⟩
theorem zh (S n:Nat) (s:Sm) (p:Pr) (w0:World) (hn:n<=100) (HT0:dH w0) (HN:Ym S) (hS:aF w0 S 149 (lg s)) (hs:l9 s p):
  Calls Tryz.prog 99 #[.pointer (some ⟨S,0,none⟩),.int .i64 n] w0 fun e w'=>e=.returned (.tuple #[])/\w0.grownBy w' (some S)/\∃s',l9 s' (bq (2^n) p)/\aF w' S 149 (lg s'):=
 (zf S n s p w0 hn HT0 HN hS hs).mono fun _ _ ⟨he,hg,s',h1,h2,_⟩=>⟨he,hg,s',h1,h2⟩
end
section
open Go.RowKit Ed
set_option maxRecDepth 100000 in
set_option maxHeartbeats 3200000 in
theorem RX (w0:World):
  Calls Tryz.prog 76 #[] w0 fun e w'=>e=.returned bV.v/\w0.grownBy w' none:=by
 go_enter Tryz.func76,Tryz.ntmps76
 go_upto_region 1 with (fail)
 have G:w0.grownBy (w0.alloc (.cells bE.toArray 68)) none:=au (ah _ _) _
 have hR:aF (w0.alloc (.cells bE.toArray 68)) (w0.heap.size) 68 bE:=aF.new w0 bE _
 revert G hR
 generalize w0.alloc (.cells bE.toArray 68)=W0
 intro G hR
 have Gs:=G.size
 have lC:=G.size
 have lq:=hR.lt
 refine Fg.rP [] [.any,.val (Fe.dQ.v),.val (Fe.dQ.v),.val (bV.v)] 3 ?_ ?_
 .refine Fg.cS rfl (by decide) (fun ac w h=>?_) ?_
  .refine⟨aB rfl,97,#[],Fg.aN rfl rfl (by simp) (Fg.aI Tryz.func97 (by kernel_rfl) (by kernel_rfl)),?_⟩
   exact (Dh).mono fun _ _ ⟨he,hg⟩=>⟨_,he,hg,rfl⟩
  refine Fg.cS rfl (by decide) (fun ac w h=>?_) ?_
  .refine⟨aB rfl,97,#[],Fg.aN rfl rfl (by simp) (Fg.aI Tryz.func97 (by kernel_rfl) (by kernel_rfl)),?_⟩
   exact (Dh).mono fun _ _ ⟨he,hg⟩=>⟨_,he,hg,rfl⟩
  refine Fg.vS rfl (by decide) (fun ac w h=>?_) ?_
  .have e1:_=Fe.dQ.v:=h.d 1
   have e2:_=Fe.dQ.v:=h.d 2
   exact Fg.vn bV.v (Fg.run_build (vs:=#[(1,Fe.dQ.v),(2,Fe.dQ.v)]) rfl (by simp only[List.map_toArray,List.map_cons,List.map_nil,Act.eval,e1,e2]) (by kernel_rfl))
  trivial
 .intro qa V1 g1 hsz hdf hrest aC hpt
  obtain⟨u1,hs1⟩:=Fg.bP qa 1
  obtain⟨u2,hs2⟩:=Fg.bP qa 2
  obtain rfl:=Fg.iB (a:=qa) (vs:=[Value.pointer (some ⟨w0.heap.size,0,none⟩),u1,u2,bV.v]) hsz ⟨hrest 0 (by kernel_rfl),hs1,hs2,(show qa.tmps.getD 3 undef=bV.v from aC 3 (by kernel_rfl)),trivial⟩ hdf
  clear hsz hdf hrest aC hpt hs1 hs2
  replace hR:=hR.gn g1
  replace G:=aj G g1
  clear g1
  refine Fg.aU rfl rfl (Fg.run_store (cs:=aY bV) rfl rfl rfl (hR.there 0 20 (by show 0+20<=20;decide)) aO (gH _)) ?_
  replace hR:aF (V1.setCells w0.heap.size 0 (aY bV)) w0.heap.size 68 (aY bV):=hR.bG rfl
  replace G:=aH (cs:=aY bV) G (B:=w0.heap.size) (by omega) 0
  revert hR G
  generalize V1.setCells w0.heap.size 0 (aY bV)=W2
  intro hR G
  go_wp2_with fail
  exact bodyPost_ret (v:=bV.v) (results_cell_row Tryz.results76 _ _ w0.heap.size 68 (aY bV).toArray (0,0) _ rfl hR Tryz.underlying68 rfl aO) rfl ⟨rfl,G⟩
set_option maxRecDepth 100000 in
set_option maxHeartbeats 3200000 in
theorem Kt (w0:World) (HT0:dH w0):
  Calls Tryz.prog 59 #[] w0 fun e w'=>e=.returned fB.v/\w0.grownBy w' none:=by
 go_enter Tryz.func59,Tryz.ntmps59
 go_upto_region 1 with (fail)
 have G:w0.grownBy (w0.alloc (.cells bE.toArray 68)) none:=au (ah _ _) _
 have HT:dH (w0.alloc (.cells bE.toArray 68)):=HT0.grown (au (ah _ _) _)
 have hR:aF (w0.alloc (.cells bE.toArray 68)) (w0.heap.size) 68 bE:=aF.new w0 bE _
 revert G HT hR
 generalize w0.alloc (.cells bE.toArray 68)=W0
 intro G HT hR
 have Gs:=G.size
 have lC:=G.size
 have lq:=hR.lt
 refine Fg.rP [] [.any,.val (fB.v)] 1 ?_ ?_
 .refine Fg.vS rfl (by decide) (fun ac w h=>?_) ?_
  .exact Fg.vn fB.v (Fg.run_load rfl rfl (HT.grown h.base).b Tryz.underlying68 rfl aO)
  trivial
 .intro qa V1 g1 hsz hdf hrest aC hpt
  obtain rfl:=Fg.iB (a:=qa) (vs:=[Value.pointer (some ⟨w0.heap.size,0,none⟩),fB.v]) hsz ⟨hrest 0 (by kernel_rfl),(show qa.tmps.getD 1 undef=fB.v from aC 1 (by kernel_rfl)),trivial⟩ hdf
  clear hsz hdf hrest aC hpt
  replace hR:=hR.gn g1
  replace G:=aj G g1
  replace HT:=HT.grown g1
  clear g1
  refine Fg.aU rfl rfl (Fg.run_store (cs:=aY fB) rfl rfl rfl (hR.there 0 20 (by show 0+20<=20;decide)) aO (gH _)) ?_
  replace hR:aF (V1.setCells w0.heap.size 0 (aY fB)) w0.heap.size 68 (aY fB):=hR.bG rfl
  replace G:=aH (cs:=aY fB) G (B:=w0.heap.size) (by omega) 0
  replace HT:=HT.keep (aK (cs:=aY fB) (ah _ (some w0.heap.size)) 0) (HT0.jS (by omega))
  revert hR G HT
  generalize V1.setCells w0.heap.size 0 (aY fB)=W2
  intro hR G HT
  go_wp2_with fail
  exact bodyPost_ret (v:=fB.v) (results_cell_row Tryz.results59 _ _ w0.heap.size 68 (aY fB).toArray (0,0) _ rfl hR Tryz.underlying68 rfl aO) rfl ⟨rfl,G⟩
def kH (p:Pt):Pt:=lK (J6 (nZ p))
theorem GZ {p:Pt} {r:Pr} (h:iP p r):iP (kH p) (Ed.add r r):=Eh (Mf (Me h))
set_option maxRecDepth 100000 in
set_option maxHeartbeats 3200000 in
theorem He (p:Pt) (r:Pr) (w0:World) (HT0:dH w0) (hp:iP p r):
  Calls Tryz.prog 77 #[p.v] w0 fun e w'=>e=.returned (kH p).v/\w0.grownBy w' none:=by
 show Calls Tryz.prog 77 #[.agg (aY p).toArray] w0 _
 go_enter Tryz.func77,Tryz.ntmps77
 go_upto_region 1 with (fail)
 have G:w0.grownBy ((w0.alloc (.cells (aY p).toArray 68)).alloc (.cells bE.toArray 68)) none:=au (au (ah _ _) _) _
 have HT:dH ((w0.alloc (.cells (aY p).toArray 68)).alloc (.cells bE.toArray 68)):=HT0.grown (au (au (ah _ _) _) _)
 have hP:aF ((w0.alloc (.cells (aY p).toArray 68)).alloc (.cells bE.toArray 68)) (w0.heap.size) 68 (aY p):=(aF.new w0 (aY p) _).alloc _
 have hR:aF ((w0.alloc (.cells (aY p).toArray 68)).alloc (.cells bE.toArray 68)) (w0.heap.size+1) 68 bE:=aF.newAt (w0.alloc _) bE _ (by simp)
 revert G HT hP hR
 generalize (w0.alloc (.cells (aY p).toArray 68)).alloc (.cells bE.toArray 68)=W0
 intro G HT hP hR
 have Gs:=G.size
 have lC:=G.size
 have uK:=hP.lt
 have lq:=hR.lt
 refine Fg.rP [3] [.any,.any,.any,.fresh 149 nQ W0.heap.size,.val (p.v),.val ((nZ p).v)] 3 ?_ ?_
 .refine Fg.vS rfl (by decide) (fun _ _ h=>Fg.vn p.v (Fg.run_load rfl (h.r 1) ((hP.gn h.base).range 0 (aY p) rfl) Tryz.underlying68 rfl aO)) ?_
  refine Fg.cS rfl (by decide) (fun _ w h=>Fg.cq rfl (yt _ _) ⟨h.d 4,trivial⟩ Tryz.func98) ?_
  refine⟨⟨⟨_,rfl⟩,Fg.gD (fun _ _ h k=>aj h k) rfl (by show 3<8;decide) fun ac w h=>?_⟩,?_⟩
  .refine⟨aB rfl,w.alloc (.cells nQ.toArray 149),?_,World.grownBy_alloc _ _ _,by simp,⟨w.heap.size,rfl,h.base.size,aF.new w nQ _⟩⟩
   clear h
   go_simp
  trivial
 .intro qa V1 g1 hsz hdf hrest aC hpt
  obtain⟨N3,hs3,Xn,hb3⟩:∃N,qa.tmps.getD 3 undef=.pointer (some ⟨N,0,none⟩)/\W0.heap.size<=N/\aF V1 N 149 nQ:=aC 3 (by kernel_rfl)
  obtain⟨u4,hs4⟩:=Fg.bP qa 4
  obtain⟨x1,hx1⟩:∃x:Sm,x=nZ p:=⟨_,rfl⟩
  obtain rfl:=Fg.aP [3,4,5] (vs:=[_,_,_,Value.pointer (some ⟨N3,0,none⟩),u4,x1.v,_,_]) hsz hrest (by kernel_rfl) rfl rfl ⟨hs3,hs4,(show qa.tmps.getD 5 undef=x1.v by rw[hx1];exact aC 5 (by kernel_rfl)),trivial⟩ hdf
  clear hsz hdf hrest aC hpt hs3 hs4
  have mU:=Lib.hid hx1;clear hx1
  replace hP:=hP.gn g1
  replace hR:=hR.gn g1
  replace G:=aj G g1
  replace HT:=HT.grown g1
  have hw3:w0.heap.size<=N3:=Nat.le_trans lC Xn
  clear g1
  refine Fg.aU rfl rfl (Fg.run_store (cs:=lg x1) rfl rfl rfl (hb3.there 0 30 (by show 0+30<=30;decide)) sM (zJ _)) ?_
  replace hP:=hP.ak (C:=N3) (cs:=lg x1) 0 (by omega)
  replace hR:=hR.ak (C:=N3) (cs:=lg x1) 0 (by omega)
  replace hb3:aF (V1.setCells N3 0 (lg x1)) N3 149 (lg x1):=hb3.bG rfl
  replace G:=aH (cs:=lg x1) G (B:=N3) (hw3) 0
  replace HT:=HT.keep (aK (cs:=lg x1) (ah _ (some N3)) 0) (HT0.jS (hw3))
  revert hP hR hb3 G HT
  generalize V1.setCells N3 0 (lg x1)=W2
  intro hP hR hb3 G HT
  go_upto_region 2 with (fail)
  have vU:=G.size
  have Cx:=hP.lt
  have qI:=hR.lt
  have AU:=hb3.lt
  refine Fg.rP [] [] 0 ?_ ?_
  .trivial
  .intro qa V3 g3 hsz hdf hrest aC hpt
   obtain rfl:=Fg.aP [] (vs:=[_,_,_,_,_,_,_,_]) hsz hrest (by kernel_rfl) rfl rfl trivial hdf
   clear hsz hdf hrest aC hpt
   replace hP:=hP.gn g3
   replace hR:=hR.gn g3
   replace hb3:=hb3.gn g3
   replace G:=aj G g3
   replace HT:=HT.grown g3
   clear g3
   have Gm:=hP.lt
   have uJ:=hR.lt
   have Gq:=hb3.lt
   refine Fg.bU rfl (Fg.aN (vs:=#[Value.pointer (some ⟨N3,0,none⟩),Value.int IntKind.i64 1]) rfl rfl (by simp only[List.map_toArray,List.map_cons,List.map_nil,Act.eval];rfl) (Fg.aI Tryz.func99 (by kernel_rfl) (by kernel_rfl))) ?_
   refine (zf N3 1 x1 r _ (by decide) HT (HT0.jS hw3) hb3 (by rw[mU.out];exact Me hp)).mono ?_
   rintro e C2 ⟨rfl,gc,s9,jA,hc,hd9⟩
   refine⟨_,rfl,?_⟩
   replace hP:=hP.grown gc (bJ (by omega))
   replace hR:=hR.grown gc (bJ (by omega))
   replace hb3:=hc
   replace G:=aW G gc (hw3)
   replace HT:=HT.keep gc (HT0.jS (hw3))
   clear gc
   have Hd9:=Lib.hid hd9;clear hd9
   go_upto_region 3 with (fail)
   have Uw:=G.size
   have abD:=hP.lt
   have Ke:=hR.lt
   have aii:=hb3.lt
   refine Fg.rP [] [] 0 ?_ ?_
   .trivial
   .intro qa V4 g4 hsz hdf hrest aC hpt
    obtain rfl:=Fg.aP [] (vs:=[_,_,_,_,_,_,_,_]) hsz hrest (by kernel_rfl) rfl rfl trivial hdf
    clear hsz hdf hrest aC hpt
    replace hP:=hP.gn g4
    replace hR:=hR.gn g4
    replace hb3:=hb3.gn g4
    replace G:=aj G g4
    replace HT:=HT.grown g4
    clear g4
    have alu:=hP.lt
    have Yq:=hR.lt
    have aij:=hb3.lt
    refine Fg.bU rfl (Fg.aN (vs:=#[Value.pointer (some ⟨N3,0,none⟩)]) rfl rfl (by simp only[List.map_toArray,List.map_cons,List.map_nil,Act.eval];rfl) (Fg.aI Tryz.func100 (by kernel_rfl) (by kernel_rfl))) ?_
    refine (um N3 s9 _ hb3 jA.ok).mono ?_
    rintro e C3 ⟨rfl,gc,hc⟩
    refine⟨_,rfl,?_⟩
    replace hP:=hP.grown gc (bJ (by omega))
    replace hR:=hR.grown gc (bJ (by omega))
    replace hb3:=hc
    replace G:=aW G gc (hw3)
    replace HT:=HT.keep gc (HT0.jS (hw3))
    clear gc
    obtain⟨t9,Fw⟩:∃t,t=lK s9:=⟨_,rfl⟩
    rw[<- Fw]
    have YO:=Lib.hid Fw;clear Fw
    refine Fg.aU rfl rfl (Fg.run_store (cs:=aY t9) rfl rfl rfl (hR.there 0 20 (by show 0+20<=20;decide)) aO (gH _)) ?_
    replace hP:=hP.ak (C:=(w0.heap.size+1)) (cs:=aY t9) 0 (by omega)
    replace hR:aF (C3.setCells (w0.heap.size+1) 0 (aY t9)) (w0.heap.size+1) 68 (aY t9):=hR.bG rfl
    replace hb3:=hb3.ak (C:=(w0.heap.size+1)) (cs:=aY t9) 0 (by omega)
    replace G:=aH (cs:=aY t9) G (B:=(w0.heap.size+1)) (by omega) 0
    replace HT:=HT.keep (aK (cs:=aY t9) (ah _ (some (w0.heap.size+1))) 0) (HT0.jS (by omega))
    revert hP hR hb3 G HT
    generalize C3.setCells (w0.heap.size+1) 0 (aY t9)=W5
    intro hP hR hb3 G HT
    go_wp2_with fail
    exact bodyPost_ret (v:=t9.v) (results_cell_row Tryz.results77 _ _ (w0.heap.size+1) 68 (aY t9).toArray (0,0) _ rfl hR Tryz.underlying68 rfl aO) rfl ⟨by rw[YO.out,Hd9.out,mU.out];rfl,G⟩
set_option maxRecDepth 100000 in
set_option maxHeartbeats 3200000 in
theorem abE (p:Pt) (r:Pr) (w0:World) (HT0:dH w0) (hp:iP p r):
  Calls Tryz.prog 93 #[p.v] w0 fun e w'=>Mh (Ed.neg r) w0 e w':=by
 have iW:=hp.ok
 show Calls Tryz.prog 93 #[.agg (aY p).toArray] w0 _
 go_enter Tryz.func93,Tryz.ntmps93
 go_upto_region 1 with (fail)
 have G:w0.grownBy ((w0.alloc (.cells (aY p).toArray 68)).alloc (.cells bE.toArray 68)) none:=au (au (ah _ _) _) _
 have HT:dH ((w0.alloc (.cells (aY p).toArray 68)).alloc (.cells bE.toArray 68)):=HT0.grown (au (au (ah _ _) _) _)
 have hP:aF ((w0.alloc (.cells (aY p).toArray 68)).alloc (.cells bE.toArray 68)) (w0.heap.size) 68 (aY p):=(aF.new w0 (aY p) _).alloc _
 have hR:aF ((w0.alloc (.cells (aY p).toArray 68)).alloc (.cells bE.toArray 68)) (w0.heap.size+1) 68 bE:=aF.newAt (w0.alloc _) bE _ (by simp)
 revert G HT hP hR
 generalize (w0.alloc (.cells (aY p).toArray 68)).alloc (.cells bE.toArray 68)=W0
 intro G HT hP hR
 have Gs:=G.size
 have lC:=G.size
 have uK:=hP.lt
 have lq:=hR.lt
 refine Fg.rT [] [.any,.any,.any,.val (Value.pointer (some ⟨w0.heap.size,0,none⟩)),.val (p.X.v),.val ((Fe.kL p.X).v),.val (Value.pointer (some ⟨w0.heap.size,15,none⟩)),.val (p.T.v),.val ((Fe.kL p.T).v),.val (Value.pointer (some ⟨w0.heap.size,0,none⟩))] 7 ?_ ?_
 .refine Fg.vS rfl (by decide) (fun _ _ h=>Fg.vn _ (Fg.aG rfl (h.r 1) (eY _ _ _))) ?_
  refine Fg.vS rfl (by decide) (fun _ _ h=>Fg.vn p.X.v (Fg.run_load rfl (h.d 3) ((hP.gn h.base).range 0 (aR p.X) rfl) Tryz.underlying66 rfl aD)) ?_
  refine Fg.cS rfl (by decide) (fun _ w h=>Fg.cq rfl (Rl (HT.f.grown h.base) iW.X) ⟨h.d 4,trivial⟩ Tryz.func120) ?_
  refine Fg.vS rfl (by decide) (fun _ _ h=>Fg.vn _ (Fg.aG rfl (h.r 1) (nJ _ _ _))) ?_
  refine Fg.vS rfl (by decide) (fun _ _ h=>Fg.vn p.T.v (Fg.run_load rfl (h.d 6) ((hP.gn h.base).range 15 (aR p.T) rfl) Tryz.underlying66 rfl aD)) ?_
  refine Fg.cS rfl (by decide) (fun _ w h=>Fg.cq rfl (Rl (HT.f.grown h.base) iW.T) ⟨h.d 7,trivial⟩ Tryz.func120) ?_
  refine Fg.vS rfl (by decide) (fun _ _ h=>Fg.vn _ (Fg.aG rfl (h.r 1) (eY _ _ _))) ?_
  trivial
 .intro qa V1 g1 hsz hdf hrest aC hpt
  obtain⟨u3,hs3⟩:=Fg.bP qa 3
  obtain⟨u4,hs4⟩:=Fg.bP qa 4
  obtain⟨x1,hx1⟩:∃x:Fe,x=Fe.kL p.X:=⟨_,rfl⟩
  obtain⟨u6,hs6⟩:=Fg.bP qa 6
  obtain⟨u7,hs7⟩:=Fg.bP qa 7
  obtain⟨x2,hx2⟩:∃x:Fe,x=Fe.kL p.T:=⟨_,rfl⟩
  obtain rfl:=Fg.aP [3,4,5,6,7,8,9] (vs:=[_,_,_,u3,u4,x1.v,u6,u7,x2.v,Value.pointer (some ⟨w0.heap.size,0,none⟩),_,_]) hsz hrest (by kernel_rfl) rfl rfl ⟨hs3,hs4,(show qa.tmps.getD 5 undef=x1.v by rw[hx1];exact aC 5 (by kernel_rfl)),hs6,hs7,(show qa.tmps.getD 8 undef=x2.v by rw[hx2];exact aC 8 (by kernel_rfl)),(show qa.tmps.getD 9 undef=Value.pointer (some ⟨w0.heap.size,0,none⟩) from aC 9 (by kernel_rfl)),trivial⟩ hdf
  clear hsz hdf hrest aC hpt hs3 hs4 hs6 hs7
  have mU:=Lib.hid hx1;clear hx1
  have Fu:=Lib.hid hx2;clear hx2
  replace hP:=hP.gn g1
  replace hR:=hR.gn g1
  replace G:=aj G g1
  replace HT:=HT.grown g1
  have mg:x1.Ok:=by rw[mU.out];exact (Fe.kG _).ok
  have Kr:x2.Ok:=by rw[Fu.out];exact (Fe.kG _).ok
  clear g1
  refine Fg.aU rfl rfl (Fg.run_store (cs:=aR x1) rfl rfl rfl (hP.there 0 5 (by show 0+5<=20;decide)) aD (dn _)) ?_
  replace hP:aF (V1.setCells w0.heap.size 0 (aR x1)) w0.heap.size 68 (aY ((Pt.mk x1 p.Y p.Z p.T))):=hP.setCells 0
  replace hR:=hR.ak (C:=w0.heap.size) (cs:=aR x1) 0 (by omega)
  replace G:=aH (cs:=aR x1) G (B:=w0.heap.size) (by omega) 0
  replace HT:=HT.keep (aK (cs:=aR x1) (ah _ (some w0.heap.size)) 0) (HT0.jS (by omega))
  revert hP hR G HT
  generalize V1.setCells w0.heap.size 0 (aR x1)=W2
  intro hP hR G HT
  refine Fg.aL rfl (Fg.aG rfl rfl (nJ w0.heap.size 0 _)) ?_
  refine Fg.aU rfl rfl (Fg.run_store (cs:=aR x2) rfl rfl rfl (hP.there 15 5 (by show 15+5<=20;decide)) aD (dn _)) ?_
  replace hP:aF (W2.setCells w0.heap.size 15 (aR x2)) w0.heap.size 68 (aY ((Pt.mk x1 p.Y p.Z x2))):=hP.setCells 15
  replace hR:=hR.ak (C:=w0.heap.size) (cs:=aR x2) 15 (by omega)
  replace G:=aH (cs:=aR x2) G (B:=w0.heap.size) (by omega) 15
  replace HT:=HT.keep (aK (cs:=aR x2) (ah _ (some w0.heap.size)) 15) (HT0.jS (by omega))
  revert hP hR G HT
  generalize W2.setCells w0.heap.size 15 (aR x2)=W3
  intro hP hR G HT
  go_upto_region 2 with (fail)
  have Uw:=G.size
  have Cx:=hP.lt
  have qI:=hR.lt
  refine Fg.rP [] [.any,.any,.any,.any,.any,.any,.any,.any,.any,.any,.any,.val (((Pt.mk x1 p.Y p.Z x2)).v)] 1 ?_ ?_
  .refine Fg.vS rfl (by decide) (fun _ _ h=>Fg.vn _ (Fg.run_load rfl (h.r 1) ((hP.gn h.base).range 0 (aY ((Pt.mk x1 p.Y p.Z x2))) rfl) Tryz.underlying68 rfl aO)) ?_
   trivial
  .intro qa V4 g4 hsz hdf hrest aC hpt
   obtain⟨x3,hx3⟩:∃x:Pt,x=(Pt.mk x1 p.Y p.Z x2):=⟨_,rfl⟩
   obtain rfl:=Fg.aP [11] (vs:=[_,_,_,_,_,_,_,_,_,_,_,x3.v]) hsz hrest (by kernel_rfl) rfl rfl ⟨(show qa.tmps.getD 11 undef=x3.v by rw[hx3];exact aC 11 (by kernel_rfl)),trivial⟩ hdf
   clear hsz hdf hrest aC hpt
   have RP:=Lib.hid hx3;clear hx3
   replace hP:=hP.gn g4
   replace hR:=hR.gn g4
   replace G:=aj G g4
   replace HT:=HT.grown g4
   clear g4
   refine Fg.aU rfl rfl (Fg.run_store (cs:=aY x3) rfl rfl rfl (hR.there 0 20 (by show 0+20<=20;decide)) aO (gH _)) ?_
   replace hP:=hP.ak (C:=(w0.heap.size+1)) (cs:=aY x3) 0 (by omega)
   replace hR:aF (V4.setCells (w0.heap.size+1) 0 (aY x3)) (w0.heap.size+1) 68 (aY x3):=hR.bG rfl
   replace G:=aH (cs:=aY x3) G (B:=(w0.heap.size+1)) (by omega) 0
   replace HT:=HT.keep (aK (cs:=aY x3) (ah _ (some (w0.heap.size+1))) 0) (HT0.jS (by omega))
   revert hP hR G HT
   generalize V4.setCells (w0.heap.size+1) 0 (aY x3)=W5
   intro hP hR G HT
   go_wp2_with fail
   exact bodyPost_ret (v:=x3.v) (results_cell_row Tryz.results93 _ _ (w0.heap.size+1) 68 (aY x3).toArray (0,0) _ rfl hR Tryz.underlying68 rfl aO) rfl ⟨_,by rw[RP.out];rw[mU.out,Fu.out];exact aa5 hp,rfl,G⟩
end
section
open Go.RowKit Ed
set_option maxRecDepth 100000 in
theorem Ku (PB n lo:Nat) (h:lo<=n):∃a',(∀w,(Instr.slice 152 (.slice (some ⟨PB,0,none⟩) n n) (some (.int .i64 (lo:Int))) none none).run Tryz.prog w=.ok (.slice a' (n-lo) (n-lo)) w)/\(lo<n->a'=some ⟨PB,lo*20,none⟩):=by
 obtain⟨j,hj,hs⟩:∃j,Tryz.prog.info? (Tryz.prog.elem 152)=some j/\j.size=20:=by
  have h1:(Tryz.prog.info? (Tryz.prog.elem 152)).map (·.size)=some 20:=by kernel_rfl
  cases hq:Tryz.prog.info? (Tryz.prog.elem 152) with
  | none=>rw[hq]at h1;cases h1
  | some j=>rw[hq]at h1;exact⟨j,rfl,by simpa using h1⟩
 refine⟨if n=lo then some ⟨PB,0,none⟩ else (some (⟨PB,0,none⟩:Addr)).map (·.add (lo*20)),fun w=>?_,?_⟩
 .rw[run_slice_l w 152 (some ⟨PB,0,none⟩) n n Tryz.underlying152 .i64 _ (by omega) (by omega),Int.toNat_natCast]
  simp[sizeOf,typeInfo,hj,hs,sliced]
 .intro hlt
  rw[if_neg (by omega)]
  simp[Addr.add]
  omega
theorem OD (PB n:Nat) (h:1<=n):∃a',(∀w,(Instr.slice 152 (.slice (some ⟨PB,0,none⟩) n n) (some (.int .i64 1)) none none).run Tryz.prog w=.ok (.slice a' (n-1) (n-1)) w)/\(1<n->a'=some ⟨PB,20,none⟩):=Ku PB n 1 h
def sU:List Pr->Pr
 | []=>zero
 | p:: r=>r.foldl Ed.add p
theorem Kv (p:Pr) (r:List Pr) (x:Pr):sU ((p:: r)++[x])=Ed.add (sU (p:: r)) x:=by simp[sU]
def lM (L:List Pt) (ps:List Pr):Prop:=L.length=ps.length/\∀i,i<L.length->iP (L.getD i bV) (ps.getD i zero)
theorem Hl (L:List Pt):(iX L).length=20*L.length:=by
 induction L with
 | nil=>rfl
 | cons x r ih=>simp only[iX,List.flatMap_cons,List.length_append,List.length_cons]at *;rw[ih];show 20+_=_;omega
theorem Kw (L:List Pt) (k:Nat) (hk:k<L.length) (V:List Value):((iX L++V).drop (20*k)).take 20=aY (L.getD k bV):=by
 induction L generalizing k with
 | nil=>simp at hk
 | cons x r ih=>
  cases k with
  | zero=>
   show ((aY x++iX r++V).drop 0).take 20=aY x
   rw[List.drop_zero,List.append_assoc,List.take_append_of_le_length (by show 20<=20;omega)]
   exact List.take_of_length_le (by show 20<=20;omega)
  | succ k=>
   have hx:(aY x).length=20:=rfl
   show ((aY x++iX r++V).drop (20*(k+1))).take 20=aY (r.getD k bV)
   rw[List.append_assoc,List.drop_append,List.drop_eq_nil_of_le (by rw[hx];omega),List.nil_append,hx,show 20*(k+1)-20=20*k by omega]
   exact ih k (by simpa using hk)
theorem Ky {w:World} {PB:Nat} {T:TypeId} {L:List Pt} {V:List Value} (h:aF w PB T (iX L++V)) (k:Nat) (hk:k<L.length):w.rangeAt PB (20*k) (aY (L.getD k bV)):=by
 refine h.range (20*k) _ ?_
 show List.take 20 _=_
 exact Kw L k hk V
theorem zM (ps:List Pr) (k:Nat) (h:k<ps.length):ps.take (k+1)=ps.take k++[ps.getD k zero]:=by
 rw[List.take_succ_eq_append_getElem h,List.getD_eq_getElem?_getD,List.getElem?_eq_getElem h];rfl
theorem Kz (ps:List Pr) (k:Nat) (h:k+1<ps.length):sU (ps.take (k+1)++[ps.getD (k+1) zero])=Ed.add (sU (ps.take (k+1))) (ps.getD (k+1) zero):=by
 cases ps with
 | nil=>simp at h
 | cons p r=>rw[List.take_succ_cons];exact Kv p _ _
set_option maxRecDepth 100000 in
set_option maxHeartbeats 6400000 in
theorem abF (PB n:Nat) (L:List Pt) (ps:List Pr) (V:List Value) (w0:World) (HT0:dH w0) (hn:L.length=n) (h1:1<=n) (hn2:n<=1000) (hI:lM L ps) (hP:aF w0 PB 68 (iX L++V)):
  Calls Tryz.prog 130 #[.slice (some ⟨PB,0,none⟩) n n] w0 (Mh (sU ps) w0):=by
 have YP:=hP.lt
 have HP:Hid (∀k,k<L.length->w0.rangeAt PB (20*k) (aY (L.getD k bV))):=Lib.hid (fun k hk=>Ky hP k hk)
 have hps:ps.length=n:=hI.1.symm.trans hn
 have HI:=Lib.hid hI;clear hI hP
 obtain⟨a',ha1,ha2⟩:=OD PB n h1
 have HA1:=Lib.hid (And.intro ha1 ha2);clear ha1 ha2
 have h1':0<n:=by omega
 have h2:((n:Int)==0)=false:=by simpa using (show ¬(n:Int)=0 by omega)
 go_enter Tryz.func130,Tryz.ntmps130
 go_upto_region 3 with (fail)
 have G:w0.grownBy (w0.alloc (.cells bE.toArray 68)) none:=au (ah _ _) _
 have HT:dH (w0.alloc (.cells bE.toArray 68)):=HT0.grown (au (ah _ _) _)
 have hR:aF (w0.alloc (.cells bE.toArray 68)) (w0.heap.size) 68 bE:=aF.new w0 bE _
 revert G HT hR
 generalize w0.alloc (.cells bE.toArray 68)=W0
 intro G HT hR
 have Gs:=G.size
 have HPW:Hid (∀k,k<L.length->W0.rangeAt PB (20*k) (aY (L.getD k bV))):=Lib.hid (fun k hk=>fE (HP.out k hk) G YP (by simp))
 have agl:PB<W0.heap.size:=Nat.lt_of_lt_of_le YP Gs
 have lC:=G.size
 have lq:=hR.lt
 refine Fg.rP [3] [.any,.any,.any,.fresh 149 nQ W0.heap.size,.any,.any,.any,.any,.any,.any,.val (Value.slice (some ⟨PB,0,none⟩) n n),.val (Value.pointer (some ⟨PB,0,none⟩)),.val (((L.getD 0 bV)).v),.val ((nZ ((L.getD 0 bV))).v)] 5 ?_ ?_
 .refine Fg.vS rfl (by decide) (fun _ _ h=>Fg.vn _ (Fg.run_move rfl (h.r 0))) ?_
  refine Fg.vS rfl (by decide) (fun ac w h=>?_) ?_
  .have e10:_=Value.slice (some ⟨PB,0,none⟩) n n:=h.d 10
   refine⟨aB rfl,Value.pointer (some ⟨PB,0,none⟩),w,?_,ah _ _,rfl⟩
   clear h
   simp only[execOp,Act.eval,e10]
   go_simp
  refine Fg.vS rfl (by decide) (fun _ _ h=>Fg.vn _ (Fg.run_load rfl (h.d 11) (fE (HPW.out 0 (by omega)) h.base agl (by simp)) Tryz.underlying68 rfl aO)) ?_
  refine Fg.cS rfl (by decide) (fun _ w h=>Fg.cq rfl (yt _ _) ⟨h.d 12,trivial⟩ Tryz.func98) ?_
  refine⟨⟨⟨_,rfl⟩,Fg.gD (fun _ _ h k=>aj h k) rfl (by show 3<26;decide) fun ac w h=>?_⟩,?_⟩
  .refine⟨aB rfl,w.alloc (.cells nQ.toArray 149),?_,World.grownBy_alloc _ _ _,by simp,⟨w.heap.size,rfl,h.base.size,aF.new w nQ _⟩⟩
   clear h
   go_simp
  trivial
 .intro qa V1 g1 hsz hdf hrest aC hpt
  obtain⟨u1,hs1⟩:=Fg.bP qa 1
  obtain⟨N3,hs3,Xn,hb3⟩:∃N,qa.tmps.getD 3 undef=.pointer (some ⟨N,0,none⟩)/\W0.heap.size<=N/\aF V1 N 149 nQ:=aC 3 (by kernel_rfl)
  obtain⟨⟨u4,hs4⟩,⟨u6,hs6⟩,⟨u7,hs7⟩,⟨u8,kZ⟩,⟨u9,jA⟩,⟨u10,fI⟩,⟨u11,dX⟩,⟨u12,fG⟩,_⟩:=Fg.bn qa [4,6,7,8,9,10,11,12]
  obtain⟨x1,hx1⟩:∃x:Sm,x=nZ ((L.getD 0 bV)):=⟨_,rfl⟩
  obtain⟨⟨u14,dB⟩,⟨u15,dO⟩,⟨u16,dI⟩,⟨u17,dY⟩,⟨u18,dZ⟩,⟨u19,d9⟩,⟨u20,dS⟩,⟨u21,eG⟩,⟨u22,eH⟩,⟨u23,dU⟩,⟨u24,dP⟩,⟨u25,eD⟩,_⟩:=Fg.bn qa [14,15,16,17,18,19,20,21,22,23,24,25]
  obtain rfl:=Fg.iB (a:=qa) (vs:=[Value.slice (some ⟨PB,0,none⟩) n n,u1,Value.pointer (some ⟨w0.heap.size,0,none⟩),Value.pointer (some ⟨N3,0,none⟩),u4,undef,u6,u7,u8,u9,u10,u11,u12,x1.v,u14,u15,u16,u17,u18,u19,u20,u21,u22,u23,u24,u25]) hsz ⟨hrest 0 (by kernel_rfl),hs1,hrest 2 (by kernel_rfl),hs3,hs4,hrest 5 (by kernel_rfl),hs6,hs7,kZ,jA,fI,dX,fG,(show qa.tmps.getD 13 undef=x1.v by rw[hx1];exact aC 13 (by kernel_rfl)),dB,dO,dI,dY,dZ,d9,dS,eG,eH,dU,dP,eD,trivial⟩ hdf
  clear hsz hdf hrest aC hpt hs1 hs3 hs4 hs6 hs7 kZ jA fI dX fG dB dO dI dY dZ d9 dS eG eH dU dP eD
  have mU:=Lib.hid hx1;clear hx1
  replace hR:=hR.gn g1
  replace G:=aj G g1
  replace HT:=HT.grown g1
  have hw3:w0.heap.size<=N3:=Nat.le_trans lC Xn
  clear g1
  refine Fg.aU rfl rfl (Fg.run_store (cs:=lg x1) rfl rfl rfl (hb3.there 0 30 (by show 0+30<=30;decide)) sM (zJ _)) ?_
  replace hR:=hR.ak (C:=N3) (cs:=lg x1) 0 (by omega)
  replace hb3:aF (V1.setCells N3 0 (lg x1)) N3 149 (lg x1):=hb3.bG rfl
  replace G:=aH (cs:=lg x1) G (B:=N3) (hw3) 0
  replace HT:=HT.keep (aK (cs:=lg x1) (ah _ (some N3)) 0) (HT0.jS (hw3))
  revert hR hb3 G HT
  generalize V1.setCells N3 0 (lg x1)=W2
  intro hR hb3 G HT
  have qI:=hR.lt
  have AU:=hb3.lt
  clear h2
  have hs0:l9 x1 (sU (ps.take 1)):=by
   rw[mU.out]
   have h0:=HI.out.2 0 (by omega)
   have e:sU (ps.take 1)=ps.getD 0 zero:=by
    cases ps with
    | nil=>simp at hps;omega
    | cons p r=>rfl
   rw[e]
   exact Me h0
  have hrun:=HA1.out.1
  have HS:=Lib.hid (And.intro hs0 (And.intro hb3 (And.intro hR (And.intro G HT))));clear hs0 hb3 hR G HT
  obtain⟨m,hm⟩:∃m,m=n-1:=⟨_,rfl⟩
  rw[<- hm]at hrun
  have hm1:m+1=n:=by omega
  have HM:=Lib.hid hm;clear hm
  go_wp2
  clear hrun
  go_loopw [5,17] (fun v5 i wr=>∃k:Nat,k+1<=n/\i=.int .i64 k/\w0.grownBy wr none/\dH wr/\Hid (Fg.jJ [v5] wr)/\aF wr w0.heap.size 68 bE/\∃s',l9 s' (sU (ps.take (k+1)))/\aF wr N3 149 (lg s')) (fun _ i _=>n-(intOf i).toNat)
  case atStart=>exact⟨0,by omega,rfl,HS.out.2.2.2.1,HS.out.2.2.2.2,Lib.hid (Fg.jK _ _ rfl),HS.out.2.2.1,_,HS.out.1,HS.out.2.1⟩
  case round=>
   clear HS
   obtain⟨k,hk,rfl,G,HT,HA,hR,s',hs',hb3⟩:=hrel
   by_cases hkn:k<m
   .have i0:(k:Int)<m:=by omega
    obtain rfl:=HA1.out.2 (by omega)
    have hz:wr.heap.size<=wr.heap.size:=Nat.le_refl _
    have hwr:=G.size
    have HPR:Hid (wr.rangeAt PB (20*(k+1)) (aY (L.getD (k+1) bV))):=Lib.hid (fE (HP.out (k+1) (by omega)) G YP (by simp))
    have YQ:PB<wr.heap.size:=Nat.lt_of_lt_of_le YP hwr
    go_upto_region 6 with (fail)
    have lC:=G.size
    have Xu:=hb3.lt
    have lq:=hR.lt
    refine Fg.iN (ps:=[5]) [.any,.any,.any,.any,.any,.fresh 68 bE wr.heap.size,.any,.any,.any,.any,.any,.any,.any,.any,.any,.any,.any,.any,.any,.val (Value.pointer (some ⟨PB,20+k*20,none⟩)),.val (((L.getD (k+1) bV)).v)] (fun w=>World.grownBy wr w none) 3 (ah _ _) (by kernel_rfl) (by kernel_rfl) (by decide) (Fg.qG (l:=[u5]) rfl HA.out) ?_ ?_
    .refine Fg.vS rfl (by decide) (fun ac w h=>?_) ?_
     .have e15:_=Value.slice (some ⟨PB,20,none⟩) m m:=h.r 15
      have e17:_=Value.int .i64 (k:Int):=h.r 17
      refine⟨aB rfl,Value.pointer (some ⟨PB,20+k*20,none⟩),w,?_,ah _ _,rfl⟩
      clear h
      simp only[execOp,Act.eval,e15,e17]
      go_simp
     refine Fg.vS rfl (by decide) (fun _ _ h=>Fg.vn (((L.getD (k+1) bV)).v) (Fg.run_load rfl (h.d 19) ((by rw[show 20+k*20=20*(k+1) by omega];exact fE HPR.out h.base YQ (by simp))) Tryz.underlying68 rfl aO)) ?_
     refine⟨⟨⟨_,rfl⟩,Fg.gD (fun _ _ h k=>aj h k) rfl (by show 5<26;decide) fun ac w h=>?_⟩,?_⟩
     .refine⟨aB rfl,w.alloc (.cells bE.toArray 68),?_,World.grownBy_alloc _ _ _,by simp,⟨w.heap.size,rfl,h.base.size,aF.new w bE _⟩⟩
      clear h
      go_simp
     trivial
    .intro qa V1 g1 hsz hdf hrest aC hpt
     obtain⟨N5,hs5,P9,hb5⟩:∃N,qa.tmps.getD 5 undef=.pointer (some ⟨N,0,none⟩)/\wr.heap.size<=N/\aF V1 N 68 bE:=aC 5 (by kernel_rfl)
     obtain⟨u19,d9⟩:=Fg.bP qa 19
     obtain⟨pX,KA⟩:∃x:Pt,x=(L.getD (k+1) bV):=⟨_,rfl⟩
     obtain rfl:=Fg.aP [5,19,20] (vs:=[_,_,_,_,_,Value.pointer (some ⟨N5,0,none⟩),_,_,_,_,_,_,_,_,_,_,_,_,_,u19,pX.v,_,_,_,_,_]) hsz hrest (by kernel_rfl) rfl rfl ⟨hs5,d9,(show qa.tmps.getD 20 undef=pX.v by rw[KA];exact aC 20 (by kernel_rfl)),trivial⟩ hdf
     clear hsz hdf hrest aC hpt hs5 d9
     have YR:=Lib.hid KA;clear KA
     replace hb3:=hb3.gn g1
     replace hR:=hR.gn g1
     replace G:=aj G g1
     replace HT:=HT.grown g1
     replace hz:=Nat.le_trans hz g1.size
     have Fv:w0.heap.size<=N5:=Nat.le_trans lC P9
     clear g1
     refine Fg.aU rfl rfl (Fg.run_store (cs:=aY pX) rfl rfl rfl (hb5.there 0 20 (by show 0+20<=20;decide)) aO (gH _)) ?_
     replace hb3:=hb3.ak (C:=N5) (cs:=aY pX) 0 (by omega)
     replace hR:=hR.ak (C:=N5) (cs:=aY pX) 0 (by omega)
     replace hb5:aF (V1.setCells N5 0 (aY pX)) N5 68 (aY pX):=hb5.bG rfl
     replace hz:=Nat.le_trans hz (aK (cs:=aY pX) (ah V1 (some N5)) 0).size
     replace G:=aH (cs:=aY pX) G (B:=N5) (Fv) 0
     replace HT:=HT.keep (aK (cs:=aY pX) (ah _ (some N5)) 0) (HT0.jS (Fv))
     revert hb3 hR hb5 hz G HT
     generalize V1.setCells N5 0 (aY pX)=W2
     intro hb3 hR hb5 hz G HT
     have abG:iP pX (ps.getD (k+1) zero):=by rw[YR.out];exact HI.out.2 (k+1) (by omega)
     have ok5:=abG.ok
     go_upto_region 7 with (fail)
     have vU:=G.size
     have AU:=hb3.lt
     have qI:=hR.lt
     have wS:=hb5.lt
     refine Fg.rP [] [.any,.any,.any,.any,.any,.any,.any,.any,.any,.any,.any,.any,.any,.any,.any,.any,.any,.any,.any,.any,.any,.val (pX.v),.val ((zw pX).v)] 2 ?_ ?_
     .refine Fg.vS rfl (by decide) (fun _ _ h=>Fg.vn pX.v (Fg.run_load rfl (h.r 5) ((hb5.gn h.base).range 0 (aY pX) rfl) Tryz.underlying68 rfl aO)) ?_
      refine Fg.cS rfl (by decide) (fun _ w h=>Fg.cq rfl (wR pX _ (HT.grown h.base) ok5) ⟨h.d 21,trivial⟩ Tryz.func131) ?_
      trivial
     .intro qa V3 g3 hsz hdf hrest aC hpt
      obtain⟨u21,eG⟩:=Fg.bP qa 21
      obtain⟨x12,YS⟩:∃x:Ad,x=zw pX:=⟨_,rfl⟩
      obtain rfl:=Fg.aP [21,22] (vs:=[_,_,_,_,_,_,_,_,_,_,_,_,_,_,_,_,_,_,_,_,_,u21,x12.v,_,_,_]) hsz hrest (by kernel_rfl) rfl rfl ⟨eG,(show qa.tmps.getD 22 undef=x12.v by rw[YS];exact aC 22 (by kernel_rfl)),trivial⟩ hdf
      clear hsz hdf hrest aC hpt eG
      have agn:=Lib.hid YS;clear YS
      replace hb3:=hb3.gn g3
      replace hR:=hR.gn g3
      replace hb5:=hb5.gn g3
      replace G:=aj G g3
      replace HT:=HT.grown g3
      replace hz:=Nat.le_trans hz g3.size
      clear g3
      have Gq:=hb3.lt
      have uJ:=hR.lt
      have ze:=hb5.lt
      refine Fg.bU rfl (Fg.aN (vs:=#[Value.pointer (some ⟨N3,0,none⟩),x12.v]) rfl rfl (by simp only[List.map_toArray,List.map_cons,List.map_nil,Act.eval];rfl) (Fg.aI Tryz.func103 (by kernel_rfl) (by kernel_rfl))) ?_
      refine (GK N3 s' x12 _ _ _ HT (HT0.jS hw3) hb3 hs' (by rw[agn.out];exact aa4 abG)).mono ?_
      rintro e C7 ⟨rfl,gc,s9,jA,hc⟩
      refine⟨_,rfl,?_⟩
      replace G:=aW G gc hw3
      replace HT:=HT.keep gc (HT0.jS hw3)
      replace hR:=hR.grown gc (bJ (by omega))
      have z9:=gc.size
      have VE:=Lib.hid (Fg.nH (N:=N5) (w:=C7) (by omega))
      have fI:l9 s9 (sU (ps.take (k+1+1))):=by rw[zM ps (k+1) (by omega),Kz ps k (by omega)];exact jA
      have H9:=Lib.hid (And.intro fI (And.intro hc (And.intro hR (And.intro G HT))))
      clear jA fI hc hR G HT gc hb5
      clear Xu lq AU qI wS Gq uJ ze
      go_wp2
      go_roundw
      case rel=>exact⟨k+1,by omega,by go_num,H9.out.2.2.2.1,H9.out.2.2.2.2,VE,H9.out.2.2.1,_,H9.out.1,H9.out.2.1⟩
      case measure=>simp[intOf];omega
   .have hkm:k=m:=by omega
    subst hkm
    have hsx:l9 s' (sU ps):=by rw[<- List.take_of_length_le (show ps.length<=k+1 by omega)];exact hs'
    clear hs'
    have hs':=hsx;clear hsx
    have hwr:=G.size
    go_upto_region 9 with (fail)
    have lC:=G.size
    have Xu:=hb3.lt
    have lq:=hR.lt
    refine Fg.rP [] [] 0 ?_ ?_
    .trivial
    .intro qa V1 g1 hsz hdf hrest aC hpt
     obtain⟨⟨u0,hs0⟩,⟨u1,hs1⟩,⟨u4,hs4⟩,⟨u5,hs5⟩,⟨u6,hs6⟩,⟨u7,hs7⟩,⟨u8,kZ⟩,⟨u9,jA⟩,⟨u10,fI⟩,⟨u11,dX⟩,⟨u12,fG⟩,⟨u13,dM⟩,⟨u14,dB⟩,⟨u15,dO⟩,⟨u16,dI⟩,⟨u17,dY⟩,⟨u18,dZ⟩,⟨u19,d9⟩,⟨u20,dS⟩,⟨u21,eG⟩,⟨u22,eH⟩,⟨u23,dU⟩,⟨u24,dP⟩,⟨u25,eD⟩,_⟩:=Fg.bn qa [0,1,4,5,6,7,8,9,10,11,12,13,14,15,16,17,18,19,20,21,22,23,24,25]
     obtain rfl:=Fg.iB (a:=qa) (vs:=[u0,u1,Value.pointer (some ⟨w0.heap.size,0,none⟩),Value.pointer (some ⟨N3,0,none⟩),u4,u5,u6,u7,u8,u9,u10,u11,u12,u13,u14,u15,u16,u17,u18,u19,u20,u21,u22,u23,u24,u25]) hsz ⟨hs0,hs1,hrest 2 (by kernel_rfl),hrest 3 (by kernel_rfl),hs4,hs5,hs6,hs7,kZ,jA,fI,dX,fG,dM,dB,dO,dI,dY,dZ,d9,dS,eG,eH,dU,dP,eD,trivial⟩ hdf
     clear hsz hdf hrest aC hpt hs0 hs1 hs4 hs5 hs6 hs7 kZ jA fI dX fG dM dB dO dI dY dZ d9 dS eG eH dU dP eD
     replace hb3:=hb3.gn g1
     replace hR:=hR.gn g1
     replace G:=aj G g1
     replace HT:=HT.grown g1
     clear g1
     have AU:=hb3.lt
     have qI:=hR.lt
     refine Fg.bU rfl (Fg.aN (vs:=#[Value.pointer (some ⟨N3,0,none⟩)]) rfl rfl (by simp only[List.map_toArray,List.map_cons,List.map_nil,Act.eval];rfl) (Fg.aI Tryz.func100 (by kernel_rfl) (by kernel_rfl))) ?_
     refine (um N3 s' _ hb3 hs'.ok).mono ?_
     rintro e C9 ⟨rfl,gc,hc⟩
     refine⟨_,rfl,?_⟩
     replace hR:=hR.grown gc (bJ (by omega))
     replace hb3:=hc
     replace G:=aW G gc (hw3)
     replace HT:=HT.keep gc (HT0.jS (hw3))
     clear gc
     obtain⟨t9,Fw⟩:∃t,t=lK s':=⟨_,rfl⟩
     rw[<- Fw]
     have YO:=Lib.hid Fw;clear Fw
     refine Fg.aU rfl rfl (Fg.run_store (cs:=aY t9) rfl rfl rfl (hR.there 0 20 (by show 0+20<=20;decide)) aO (gH _)) ?_
     replace hb3:=hb3.ak (C:=w0.heap.size) (cs:=aY t9) 0 (by omega)
     replace hR:aF (C9.setCells w0.heap.size 0 (aY t9)) w0.heap.size 68 (aY t9):=hR.bG rfl
     replace G:=aH (cs:=aY t9) G (B:=w0.heap.size) (by omega) 0
     replace HT:=HT.keep (aK (cs:=aY t9) (ah _ (some w0.heap.size)) 0) (HT0.jS (by omega))
     revert hb3 hR G HT
     generalize C9.setCells w0.heap.size 0 (aY t9)=W2
     intro hb3 hR G HT
     go_wp2_with fail
     exact bodyPost_ret (v:=t9.v) (results_cell_row Tryz.results130 _ _ w0.heap.size 68 (aY t9).toArray (0,0) _ rfl hR Tryz.underlying68 rfl aO) rfl ⟨t9,by rw[YO.out];exact Eh hs',rfl,G⟩
end
section
open Go.RowKit Ow Ed
def pK (w:World) (B:Nat) (T:TypeId) (L:List Value):Prop:=∃rest:List Value,L.length+rest.length=320/\aF w B T (L++rest)
theorem pK.grown {w w':World} {B:Nat} {T:TypeId} {L:List Value} {row:Option Nat} (h:pK w B T L) (hg:w.grownBy w' row) (hr:some B≠row):pK w' B T L:=by
 obtain⟨r,hl,hb⟩:=h
 exact⟨r,hl,hb.grown hg hr⟩
theorem pK.lt {w:World} {B:Nat} {T:TypeId} {L:List Value} (h:pK w B T L):B<w.heap.size:=by
 obtain⟨r,hl,hb⟩:=h
 exact hb.lt
theorem pK.ak {w:World} {B C:Nat} {T:TypeId} {L cs:List Value} (h:pK w B T L) (o:Nat) (hne:C≠B):pK (w.setCells C o cs) B T L:=by
 obtain⟨r,hl,hb⟩:=h
 exact⟨r,hl,hb.ak o hne⟩
theorem pK.pts {w:World} {B:Nat} {T:TypeId} {L:List Pt} (h:pK w B T (iX L)) (k:Nat) (hk:k<L.length):w.rangeAt B (20*k) (aY (L.getD k bV)):=by
 obtain⟨r,_,hb⟩:=h
 exact Ky hb k hk
set_option maxRecDepth 100000 in
theorem vE:∃i z,Tryz.prog.info? 68=some i/\i.zero=some z/\i.size=20/\i.bytes=160/\z.cells.size=20:=by
 have h:(Tryz.prog.info? 68).map (fun i=>(i.zero.map (·.cells.size),i.size,i.bytes))=some (some 20,20,160):=by kernel_rfl
 cases hi:Tryz.prog.info? 68 with
 | none=>rw[hi]at h;cases h
 | some i=>
  rw[hi]at h
  simp only[Option.map_some,Option.some.injEq,Prod.mk.injEq]at h
  obtain⟨h1,h2,h3⟩:=h
  cases hz:i.zero with
  | none=>rw[hz]at h1;cases h1
  | some z=>rw[hz]at h1;exact⟨i,z,rfl,hz,h2,h3,by simpa using h1⟩
set_option maxRecDepth 100000 in
theorem zi:∃i z,Tryz.prog.info? 160=some i/\i.zero=some z/\i.size=20/\i.bytes=160/\z.cells.size=20:=by
 have h:(Tryz.prog.info? 160).map (fun i=>(i.zero.map (·.cells.size),i.size,i.bytes))=some (some 20,20,160):=by kernel_rfl
 cases hi:Tryz.prog.info? 160 with
 | none=>rw[hi]at h;cases h
 | some i=>
  rw[hi]at h
  simp only[Option.map_some,Option.some.injEq,Prod.mk.injEq]at h
  obtain⟨h1,h2,h3⟩:=h
  cases hz:i.zero with
  | none=>rw[hz]at h1;cases h1
  | some z=>rw[hz]at h1;exact⟨i,z,rfl,hz,h2,h3,by simpa using h1⟩
theorem OE (z:Array Value) (n:Nat):(madeCells z n).size=n:=by simp[madeCells]
theorem Dq (t e:TypeId) (ht:Tryz.prog.underlying t=some (.slice e)) (hi:∃i z,Tryz.prog.info? e=some i/\i.zero=some z/\i.size=20/\i.bytes=160/\z.cells.size=20) (w:World):
  ∃w',(Instr.makeSlice t (.int .i64 0) (.int .i64 16)).run Tryz.prog w=.ok (.slice (some ⟨w.heap.size,0,none⟩) 0 16) w'/\w.grownBy w' none/\w.heap.size<w'.heap.size/\pK w' w.heap.size e []:=by
 obtain⟨i,z,hi,hz,hs,hb,_⟩:=hi
 have h2:=run_make (P:=Tryz.prog) w t e i z ht hi hz .i64 .i64 0 16 (by omega) (by omega) (by rw[hb];omega) (by omega)
 refine⟨_,h2,au (ah _ _) _,by simp,(madeCells z.cells ((16:Int).toNat*i.size)).toList,?_,?_⟩
 .rw[List.length_nil,Array.length_toList,OE,hs];rfl
 .have:=aF.new w (madeCells z.cells ((16:Int).toNat*i.size)).toList e
  simpa using this
theorem sV (t e:TypeId) (ht:Tryz.prog.underlying t=some (.slice e)) (hi:∃i z,Tryz.prog.info? e=some i/\i.zero=some z/\i.size=20/\i.bytes=160/\z.cells.size=20) (w:World) (B N m:Nat) (L x:List Value) (T:TypeId)
  (hP:pK w B e L) (hL:L.length=20*m) (hm:m<16) (hN:aF w N T x) (hx:x.length=20) (h1:x.all (·.oneCell')=true):
  ∃w',(Builtin.append_ #[t,t] t #[.slice (some ⟨B,0,none⟩) m 16,.slice (some ⟨N,0,none⟩) 1 1]).run Tryz.prog w=.ok (.slice (some ⟨B,0,none⟩) (m+1) 16) w'/\w.grownBy w' (some B)/\pK w' B e (L++x):=by
 obtain⟨i,z,hi,hz,hs,_,_⟩:=hi
 obtain⟨r,hl,hb⟩:=hP
 have hr:=run_append_room w (P:=Tryz.prog) t t e i ht hi B m 16 (L++r).toArray hb ⟨N,0,none⟩ 1 1 x (by rw[hx,hs]) (fun j u hu=>by rw[Addr.add_mid,Nat.zero_add];exact hN.cell hu) (fun u hu=>(List.all_eq_true.1 h1) u hu) (by omega) (by simp;rw[hs,hx];omega)
 refine⟨_,hr,uZ (ah _ _) _,r.drop 20,?_,?_⟩
 .rw[List.length_append,List.length_drop,hx];omega
 .have e1:((L++r).toArray.toList.take (m*i.size)++x++(L++r).toArray.toList.drop (m*i.size+x.length))=(L++x)++r.drop 20:=by
   have em:m*i.size=L.length:=by rw[hs,hL];omega
   rw[em,hx]
   show (L++r).take L.length++x++(L++r).drop (L.length+20)=_
   rw[List.take_left,List.drop_append]
   simp
  rw[e1]
  exact hb.row _
theorem YT (k:Nat) (h:k<4):2^k+2^k<=16:=by
 obtain rfl|rfl|rfl|rfl:k=0\/k=1\/k=2\/k=3:=by omega
 all_goals decide
theorem RY {α:Type} (a b:List α) (d:α) (i:Nat) (h:i<a.length):(a++b).getD i d=a.getD i d:=by
 rw[List.getD_eq_getElem?_getD,List.getElem?_append_left h,<- List.getD_eq_getElem?_getD]
def qN (ps:List Pr):List Pr:=ps.foldl (fun L p=>L++L.map fun s=>Ed.add s p) [zero]
theorem RZ (ps:List Pr) (p:Pr):qN (ps++[p])=qN ps++(qN ps).map fun s=>Ed.add s p:=by simp[qN]
theorem vH (ps:List Pr):(qN ps).length=2^ps.length:=by
 have gen:∀(ps L:List Pr),(ps.foldl (fun L p=>L++L.map fun s=>Ed.add s p) L).length=L.length*2^ps.length:=by
  intro ps
  induction ps with
  | nil=>intro L;simp
  | cons p r ih=>
   intro L
   rw[List.foldl_cons,ih,List.length_append,List.length_map,List.length_cons,Nat.pow_succ]
   rw[<- Nat.mul_two,Nat.mul_assoc,Nat.mul_comm 2]
 have:=gen ps [zero]
 simpa[qN] using this
theorem Ho {L:List Pt} {ps:List Pr} {t:Pt} {p:Pr} (h:lM L ps) (ht:iP t p):lM (L++[t]) (ps++[p]):=by
 refine⟨by simp[h.1],fun i hi=>?_⟩
 by_cases hlt:i<L.length
 .rw[List.getD_eq_getElem?_getD,List.getD_eq_getElem?_getD,List.getElem?_append_left hlt,List.getElem?_append_left (h.1▸hlt),<- List.getD_eq_getElem?_getD,<- List.getD_eq_getElem?_getD]
  exact h.2 i hlt
 .have hi2:i=L.length:=by simp at hi;omega
  subst hi2
  rw[List.getD_eq_getElem?_getD,List.getD_eq_getElem?_getD,List.getElem?_append_right (Nat.le_refl _),List.getElem?_append_right (by rw[h.1];omega)]
  simpa[h.1] using ht
theorem OG (L:List Pt) (t:Pt):iX (L++[t])=iX L++aY t:=by simp[iX]
def yu (L:List Ad) (ps:List Pr):Prop:=L.length=ps.length/\∀i,i<L.length->J5 (L.getD i (zw bV)) (ps.getD i zero)
theorem Hq {L:List Ad} {ps:List Pr} {t:Ad} {p:Pr} (h:yu L ps) (ht:J5 t p):yu (L++[t]) (ps++[p]):=by
 refine⟨by simp[h.1],fun i hi=>?_⟩
 by_cases hlt:i<L.length
 .rw[List.getD_eq_getElem?_getD,List.getD_eq_getElem?_getD,List.getElem?_append_left hlt,List.getElem?_append_left (h.1▸hlt),<- List.getD_eq_getElem?_getD,<- List.getD_eq_getElem?_getD]
  exact h.2 i hlt
 .have hi2:i=L.length:=by simp at hi;omega
  subst hi2
  rw[List.getD_eq_getElem?_getD,List.getD_eq_getElem?_getD,List.getElem?_append_right (Nat.le_refl _),List.getElem?_append_right (by rw[h.1];omega)]
  simpa[h.1] using ht
theorem OH (L:List Ad) (t:Ad):qj (L++[t])=qj L++yc t:=by simp[qj]
theorem Ht (L:List Ad):(qj L).length=20*L.length:=by
 induction L with
 | nil=>rfl
 | cons x r ih=>simp only[qj,List.flatMap_cons,List.length_append,List.length_cons]at *;rw[ih];show 20+_=_;omega
theorem KC (L:List Ad) (k:Nat) (hk:k<L.length) (V:List Value):((qj L++V).drop (20*k)).take 20=yc (L.getD k (zw bV)):=by
 induction L generalizing k with
 | nil=>simp at hk
 | cons x r ih=>
  cases k with
  | zero=>
   show ((yc x++qj r++V).drop 0).take 20=yc x
   rw[List.drop_zero,List.append_assoc,List.take_append_of_le_length (by show 20<=20;omega)]
   exact List.take_of_length_le (by show 20<=20;omega)
  | succ k=>
   have hx:(yc x).length=20:=rfl
   show ((yc x++qj r++V).drop (20*(k+1))).take 20=yc (r.getD k (zw bV))
   rw[List.append_assoc,List.drop_append,List.drop_eq_nil_of_le (by rw[hx];omega),List.nil_append,hx,show 20*(k+1)-20=20*k by omega]
   exact ih k (by simpa using hk)
theorem YU {w:World} {B:Nat} {T:TypeId} {L:List Ad} {V:List Value} (h:aF w B T (qj L++V)) (k:Nat) (hk:k<L.length):w.rangeAt B (20*k) (yc (L.getD k (zw bV))):=by
 refine h.range (20*k) _ ?_
 show List.take 20 _=_
 exact KC L k hk V
end
section
open Go.RowKit Ow Ed
set_option maxRecDepth 100000 in
set_option maxHeartbeats 12800000 in
theorem Hu (PB n:Nat) (P4:List Pt) (ps:List Pr) (V:List Value) (w0:World) (HT0:dH w0) (hn:P4.length=n) (Ms:n<=4) (hI:lM P4 ps) (YV:aF w0 PB 68 (iX P4++V)):
  Calls Tryz.prog 101 #[.slice (some ⟨PB,0,none⟩) n n] w0 fun e w'=>∃(RB m:Nat) (R:List Ad),e=.returned (.slice (some ⟨RB,0,none⟩) m 16)/\m=2^n/\yu R (qN ps)/\pK w' RB 160 (qj R)/\w0.grownBy w' none/\w0.heap.size<=RB:=by
 have YP:=YV.lt
 have HP:Hid (∀k,k<P4.length->w0.rangeAt PB (20*k) (aY (P4.getD k bV))):=Lib.hid (fun k hk=>Ky YV k hk)
 have hps:ps.length=n:=hI.1.symm.trans hn
 have HI:=Lib.hid hI;clear hI YV
 obtain⟨W1,hmk,G,s1,hP⟩:=Dq 152 68 Tryz.underlying152 vE w0
 have HT:=HT0.grown G
 have NT:=Lib.hid (And.intro G (And.intro HT hP));clear G HT hP
 go_enter Tryz.func101,Tryz.ntmps101
 go_upto_region 2 with (fail)
 obtain⟨G,HT,hP⟩:=NT.out
 clear hmk NT
 have lC:=G.size
 have uK:=hP.lt
 refine Fg.rP [] [.any,.any,.any,.any,.any,.any,.any,.any,.any,.any,.any,.any,.val (Value.slice (some ⟨w0.heap.size,0,none⟩) 0 16),.val (bV.v),.row 68 (iX [bV]) 1 W1.heap.size] 3 ?_ ?_
 .refine Fg.vS rfl (by decide) (fun _ _ h=>Fg.vn _ (Fg.run_move rfl (h.r 3))) ?_
  refine Fg.cS rfl (by decide) (fun ac w h=>?_) ?_
  .refine⟨aB rfl,76,#[],Fg.aN rfl rfl (by simp) (Fg.aI Tryz.func76 (by kernel_rfl) (by kernel_rfl)),?_⟩
   exact (RX _).mono fun _ _ ⟨he,hg⟩=>⟨_,he,hg,rfl⟩
  refine Fg.vS rfl (by decide) (fun ac w h=>?_) ?_
  .have e13:_=bV.v:=h.d 13
   exact⟨aB rfl,.slice (some ⟨w.heap.size,0,none⟩) 1 1,w.alloc (.cells (iX [bV]).toArray 68),Fg.run_buildSlice (vs:=#[(0,bV.v)]) rfl (by simp only[List.map_toArray,List.map_cons,List.map_nil,Act.eval,e13]) (by kernel_rfl),World.grownBy_alloc _ _ _,⟨w.heap.size,rfl,h.base.size,aF.new w (iX [bV]) _⟩⟩
  trivial
 .intro qa V1 g1 hsz hdf hrest aC hpt
  obtain⟨⟨u1,hs1⟩,⟨u2,hs2⟩,⟨u4,hs4⟩,⟨u6,hs6⟩,⟨u8,kZ⟩,⟨u9,jA⟩,⟨u11,dX⟩,⟨u13,dM⟩,_⟩:=Fg.bn qa [1,2,4,6,8,9,11,13]
  obtain⟨N14,dB,agq,abH⟩:∃N,qa.tmps.getD 14 undef=.slice (some ⟨N,0,none⟩) 1 1/\W1.heap.size<=N/\aF V1 N 68 (iX [bV]):=aC 14 (by kernel_rfl)
  obtain⟨⟨u15,dO⟩,⟨u16,dI⟩,⟨u17,dY⟩,⟨u18,dZ⟩,⟨u19,d9⟩,⟨u20,dS⟩,⟨u21,eG⟩,⟨u22,eH⟩,⟨u23,dU⟩,⟨u24,dP⟩,⟨u25,eD⟩,⟨u26,eF⟩,⟨u27,fH⟩,⟨u28,jc⟩,⟨u29,kr⟩,⟨u30,iQ⟩,⟨u31,gJ⟩,⟨u32,jN⟩,⟨u33,jv⟩,⟨u34,iY⟩,⟨u35,jO⟩,⟨u36,jP⟩,⟨u37,kP⟩,⟨u38,kQ⟩,⟨u39,oh⟩,⟨u40,oo⟩,⟨u41,ql⟩,⟨u42,mo⟩,⟨u43,sP⟩,⟨u44,qm⟩,⟨u45,mq⟩,⟨u46,mD⟩,⟨u47,oq⟩,⟨u48,sQ⟩,⟨u49,GU⟩,⟨u50,GV⟩,_⟩:=Fg.bn qa [15,16,17,18,19,20,21,22,23,24,25,26,27,28,29,30,31,32,33,34,35,36,37,38,39,40,41,42,43,44,45,46,47,48,49,50]
  obtain rfl:=Fg.aP [1,2,4,6,8,9,11,12,13,14,15,16,17,18,19,20,21,22,23,24,25,26,27,28,29,30,31,32,33,34,35,36,37,38,39,40,41,42,43,44,45,46,47,48,49,50] (vs:=[_,u1,u2,_,u4,_,u6,_,u8,u9,_,u11,Value.slice (some ⟨w0.heap.size,0,none⟩) 0 16,u13,Value.slice (some ⟨N14,0,none⟩) 1 1,u15,u16,u17,u18,u19,u20,u21,u22,u23,u24,u25,u26,u27,u28,u29,u30,u31,u32,u33,u34,u35,u36,u37,u38,u39,u40,u41,u42,u43,u44,u45,u46,u47,u48,u49,u50]) hsz hrest (by kernel_rfl) rfl rfl ⟨hs1,hs2,hs4,hs6,kZ,jA,dX,(show qa.tmps.getD 12 undef=Value.slice (some ⟨w0.heap.size,0,none⟩) 0 16 from aC 12 (by kernel_rfl)),dM,dB,dO,dI,dY,dZ,d9,dS,eG,eH,dU,dP,eD,eF,fH,jc,kr,iQ,gJ,jN,jv,iY,jO,jP,kP,kQ,oh,oo,ql,mo,sP,qm,mq,mD,oq,sQ,GU,GV,trivial⟩ hdf
  clear hsz hdf hrest aC hpt hs1 hs2 hs4 hs6 kZ jA dX dM dB dO dI dY dZ d9 dS eG eH dU dP eD eF fH jc kr iQ gJ jN jv iY jO jP kP kQ oh oo ql mo sP qm mq mD oq sQ GU GV
  replace hP:=hP.grown g1 (by simp)
  replace G:=aj G g1
  replace HT:=HT.grown g1
  have alx:w0.heap.size<=N14:=Nat.le_trans lC agq
  clear g1
  have lp:=hP.lt
  obtain⟨w2,hap,g2,P2⟩:=sV 152 68 Tryz.underlying152 vE V1 w0.heap.size N14 0 [] (iX [bV]) 68 hP rfl (by decide) abH rfl rfl
  rw[List.nil_append]at P2
  replace G:=aW G g2 (Nat.le_refl _)
  replace HT:=HT.keep g2 (HT0.jS (Nat.le_refl _))
  refine wpList_append_run rfl (.tmp 12) (.tmp 14) 152 rfl rfl _ _ rfl rfl _ _ hap ?_
  have h0A:lM [bV] (qN (ps.take 0)):=⟨rfl,fun i hi=>by
   have:i=0:=by simp at hi;omega
   subst this
   exact Rj⟩
  have HS:=Lib.hid (And.intro h0A (And.intro P2 (And.intro G HT)));clear h0A P2 G HT hap g2 hP abH lp
  go_wp2
  go_loopw [3,5,7,18] (fun v3 v5 v7 i wr=>∃(k m:Nat) (L:List Pt),k<=n/\i=.int .i64 k/\v3=.slice (some ⟨w0.heap.size,0,none⟩) m 16/\lM L (qN (ps.take k))/\pK wr w0.heap.size 68 (iX L)/\w0.grownBy wr none/\dH wr/\Hid (Fg.jJ [v5] wr/\Fg.jJ [v7] wr)/\Hid (m=2^k)/\m<=16) (fun _ _ _ i _=>n-(intOf i).toNat)
  case atStart=>exact⟨0,1,[bV],by omega,rfl,rfl,HS.out.1,HS.out.2.1,HS.out.2.2.1,HS.out.2.2.2,Lib.hid ⟨Fg.jK _ _ rfl,Fg.jK _ _ rfl⟩,Lib.hid rfl,by decide⟩
  case round=>
   clear HS
   obtain⟨k,m,L,hk,rfl,rfl,hL,hP,G,HT,HA,HM,aly⟩:=hrel
   have HL:=Lib.hid hL;clear hL
   by_cases hkn:k<n
   .have i0:(k:Int)<n:=by omega
    have hz:wr.heap.size<=wr.heap.size:=Nat.le_refl _
    have hwr:=G.size
    have HPR:Hid (wr.rangeAt PB (20*k) (aY (P4.getD k bV))):=Lib.hid (fE (HP.out k (by omega)) G YP (by simp))
    have YQ:PB<wr.heap.size:=Nat.lt_of_lt_of_le YP hwr
    go_upto_region 5 with (fail)
    have lC:=G.size
    have uK:=hP.lt
    refine Fg.iN (ps:=[5]) [.any,.any,.any,.any,.any,.fresh 68 bE wr.heap.size,.any,.any,.any,.any,.any,.any,.any,.any,.any,.any,.any,.any,.any,.any,.val (Value.pointer (some ⟨PB,k*20,none⟩)),.val (((P4.getD k bV)).v)] (fun w=>World.grownBy wr w none) 3 (ah _ _) (by kernel_rfl) (by kernel_rfl) (by decide) (Fg.qG (l:=[u5]) rfl HA.out.1) ?_ ?_
    .refine Fg.vS rfl (by decide) (fun ac w h=>?_) ?_
     .have e16:_=Value.slice (some ⟨PB,0,none⟩) n n:=h.r 16
      have e18:_=Value.int .i64 (k:Int):=h.r 18
      refine⟨aB rfl,Value.pointer (some ⟨PB,k*20,none⟩),w,?_,ah _ _,rfl⟩
      clear h
      simp only[execOp,Act.eval,e16,e18]
      go_simp
     refine Fg.vS rfl (by decide) (fun _ _ h=>Fg.vn (((P4.getD k bV)).v) (Fg.run_load rfl (h.d 20) ((by rw[show k*20=20*k by omega];exact fE HPR.out h.base YQ (by simp))) Tryz.underlying68 rfl aO)) ?_
     refine⟨⟨⟨_,rfl⟩,Fg.gD (fun _ _ h k=>aj h k) rfl (by show 5<51;decide) fun ac w h=>?_⟩,?_⟩
     .refine⟨aB rfl,w.alloc (.cells bE.toArray 68),?_,World.grownBy_alloc _ _ _,by simp,⟨w.heap.size,rfl,h.base.size,aF.new w bE _⟩⟩
      clear h
      go_simp
     trivial
    .intro qa V1 g1 hsz hdf hrest aC hpt
     obtain⟨N5,hs5,P9,hb5⟩:∃N,qa.tmps.getD 5 undef=.pointer (some ⟨N,0,none⟩)/\wr.heap.size<=N/\aF V1 N 68 bE:=aC 5 (by kernel_rfl)
     obtain⟨u20,dS⟩:=Fg.bP qa 20
     obtain⟨pX,KA⟩:∃x:Pt,x=(P4.getD k bV):=⟨_,rfl⟩
     obtain rfl:=Fg.aP [5,20,21] (vs:=[_,_,_,_,_,Value.pointer (some ⟨N5,0,none⟩),_,_,_,_,_,_,_,_,_,_,_,_,_,_,u20,pX.v,_,_,_,_,_,_,_,_,_,_,_,_,_,_,_,_,_,_,_,_,_,_,_,_,_,_,_,_,_]) hsz hrest (by kernel_rfl) rfl rfl ⟨hs5,dS,(show qa.tmps.getD 21 undef=pX.v by rw[KA];exact aC 21 (by kernel_rfl)),trivial⟩ hdf
     clear hsz hdf hrest aC hpt hs5 dS
     have YR:=Lib.hid KA;clear KA
     replace hP:=hP.grown g1 (by simp)
     replace G:=aj G g1
     replace HT:=HT.grown g1
     replace hz:=Nat.le_trans hz g1.size
     have Fv:w0.heap.size<=N5:=Nat.le_trans lC P9
     clear g1
     refine Fg.aU rfl rfl (Fg.run_store (cs:=aY pX) rfl rfl rfl (hb5.there 0 20 (by show 0+20<=20;decide)) aO (gH _)) ?_
     replace hP:=hP.ak (C:=N5) (cs:=aY pX) 0 (by omega)
     replace hb5:aF (V1.setCells N5 0 (aY pX)) N5 68 (aY pX):=hb5.bG rfl
     replace hz:=Nat.le_trans hz (aK (cs:=aY pX) (ah V1 (some N5)) 0).size
     replace G:=aH (cs:=aY pX) G (B:=N5) (Fv) 0
     replace HT:=HT.keep (aK (cs:=aY pX) (ah _ (some N5)) 0) (HT0.jS (Fv))
     revert hP hb5 hz G HT
     generalize V1.setCells N5 0 (aY pX)=W2
     intro hP hb5 hz G HT
     have Cx:=hP.lt
     have wS:=hb5.lt
     have abI:iP pX (ps.getD k zero):=by rw[YR.out];exact HI.out.2 k (by omega)
     have HX:=Lib.hid abI;clear abI
     have m2:m+m<=16:=by have:=YT k (by omega);have:=HM.out;omega
     have HA7:=Lib.hid (HA.out.2.mono hz);clear HA
     have w5:=W2.heap.size
     have Z9:=Lib.hid (And.intro hP (And.intro hb5 (And.intro G HT)));clear hP G HT hb5
     go_wp2
     go_loopw [3,7,24] (fun v3 v7 i wr=>∃(j:Nat) (L':List Pt),j<=m/\i=.int .i64 j/\v3=.slice (some ⟨w0.heap.size,0,none⟩) (m+j) 16/\lM L' (qN (ps.take k)++((qN (ps.take k)).take j).map fun s=>Ed.add s (ps.getD k zero))/\pK wr w0.heap.size 68 (iX L')/\aF wr N5 68 (aY pX)/\w0.grownBy wr none/\dH wr/\Hid (Fg.jJ [v7] wr)/\N5<wr.heap.size) (fun _ _ i _=>m-(intOf i).toNat)
     case atStart=>exact⟨0,L,by omega,rfl,rfl,by simpa using HL.out,Z9.out.1,Z9.out.2.1,Z9.out.2.2.1,Z9.out.2.2.2,HA7,Z9.out.2.1.lt⟩
     case round=>
      clear Z9 HA7
      obtain⟨j,L',hj,rfl,rfl,hL',hP,hb5,G,HT,HA,l5⟩:=hrel
      have HL':=Lib.hid hL';clear hL'
      have YW:(qN (ps.take k)).length=m:=by rw[vH,List.length_take,Nat.min_eq_left (by have:=HI.out.1;omega)];exact HM.out.symm
      have Xv:L'.length=m+j:=by rw[HL'.out.1,List.length_append,List.length_map,List.length_take,YW,Nat.min_eq_left hj]
      have HC:=Lib.hid (And.intro YW Xv);clear YW Xv
      by_cases hjm:j<m
      .have i1:(j:Int)<m:=by omega
       have i2:m+j<16:=by omega
       have hz:wr.heap.size<=wr.heap.size:=Nat.le_refl _
       have hwq:=G.size
       go_upto_region 8 with (fail)
       have lC:=G.size
       have uK:=hP.lt
       have abJ:=hb5.lt
       refine Fg.iN (ps:=[7]) [.any,.any,.any,.any,.any,.any,.any,.fresh 68 bE wr.heap.size,.any,.any,.any,.any,.any,.any,.any,.any,.any,.any,.any,.any,.any,.any,.any,.any,.any,.any,.val (Value.pointer (some ⟨w0.heap.size,j*20,none⟩)),.val (((L'.getD j bV)).v)] (fun w=>World.grownBy wr w none) 3 (ah _ _) (by kernel_rfl) (by kernel_rfl) (by decide) (Fg.qG (l:=[u7]) rfl HA.out) ?_ ?_
       .refine Fg.vS rfl (by decide) (fun ac w h=>?_) ?_
        .have e22:_=Value.slice (some ⟨w0.heap.size,0,none⟩) m 16:=h.r 22
         have e24:_=Value.int .i64 (j:Int):=h.r 24
         refine⟨aB rfl,Value.pointer (some ⟨w0.heap.size,j*20,none⟩),w,?_,ah _ _,rfl⟩
         clear h
         simp only[execOp,Act.eval,e22,e24]
         go_simp
        refine Fg.vS rfl (by decide) (fun _ _ h=>Fg.vn (((L'.getD j bV)).v) (Fg.run_load rfl (h.d 26) ((by rw[show j*20=20*j by omega];exact (hP.grown h.base (by simp)).pts j (by have:=HC.out.2;omega))) Tryz.underlying68 rfl aO)) ?_
        refine⟨⟨⟨_,rfl⟩,Fg.gD (fun _ _ h k=>aj h k) rfl (by show 7<51;decide) fun ac w h=>?_⟩,?_⟩
        .refine⟨aB rfl,w.alloc (.cells bE.toArray 68),?_,World.grownBy_alloc _ _ _,by simp,⟨w.heap.size,rfl,h.base.size,aF.new w bE _⟩⟩
         clear h
         go_simp
        trivial
       .intro qa V1 g1 hsz hdf hrest aC hpt
        obtain⟨N7,hs7,Vj,dx⟩:∃N,qa.tmps.getD 7 undef=.pointer (some ⟨N,0,none⟩)/\wr.heap.size<=N/\aF V1 N 68 bE:=aC 7 (by kernel_rfl)
        obtain⟨u26,eF⟩:=Fg.bP qa 26
        obtain⟨x21,YX⟩:∃x:Pt,x=(L'.getD j bV):=⟨_,rfl⟩
        obtain rfl:=Fg.aP [7,26,27] (vs:=[_,_,_,_,_,_,_,Value.pointer (some ⟨N7,0,none⟩),_,_,_,_,_,_,_,_,_,_,_,_,_,_,_,_,_,_,u26,x21.v,_,_,_,_,_,_,_,_,_,_,_,_,_,_,_,_,_,_,_,_,_,_,_]) hsz hrest (by kernel_rfl) rfl rfl ⟨hs7,eF,(show qa.tmps.getD 27 undef=x21.v by rw[YX];exact aC 27 (by kernel_rfl)),trivial⟩ hdf
        clear hsz hdf hrest aC hpt hs7 eF
        have agr:=Lib.hid YX;clear YX
        replace hP:=hP.grown g1 (by simp)
        replace hb5:=hb5.grown g1 (by simp)
        replace G:=aj G g1
        replace HT:=HT.grown g1
        replace hz:=Nat.le_trans hz g1.size
        have hw7:w0.heap.size<=N7:=Nat.le_trans lC Vj
        clear g1
        refine Fg.aU rfl rfl (Fg.run_store (cs:=aY x21) rfl rfl rfl (dx.there 0 20 (by show 0+20<=20;decide)) aO (gH _)) ?_
        replace hP:=hP.ak (C:=N7) (cs:=aY x21) 0 (by omega)
        replace hb5:=hb5.ak (C:=N7) (cs:=aY x21) 0 (by omega)
        replace dx:aF (V1.setCells N7 0 (aY x21)) N7 68 (aY x21):=dx.bG rfl
        replace hz:=Nat.le_trans hz (aK (cs:=aY x21) (ah V1 (some N7)) 0).size
        replace G:=aH (cs:=aY x21) G (B:=N7) (hw7) 0
        replace HT:=HT.keep (aK (cs:=aY x21) (ah _ (some N7)) 0) (HT0.jS (hw7))
        revert hP hb5 dx hz G HT
        generalize V1.setCells N7 0 (aY x21)=W2
        intro hP hb5 dx hz G HT
        go_upto_region 9 with (fail)
        have vU:=G.size
        have Cx:=hP.lt
        have wS:=hb5.lt
        have abK:=dx.lt
        refine Fg.rP [] [.any,.any,.any,.any,.any,.any,.any,.any,.any,.any,.any,.any,.any,.any,.any,.any,.any,.any,.any,.any,.any,.any,.any,.any,.any,.any,.any,.any,.val (Value.slice (some ⟨w0.heap.size,0,none⟩) (m+j) 16),.val (x21.v),.val (pX.v),.row 68 (iX [x21,pX]) 2 W2.heap.size] 4 ?_ ?_
        .refine Fg.vS rfl (by decide) (fun _ _ h=>Fg.vn _ (Fg.run_move rfl (h.r 3))) ?_
         refine Fg.vS rfl (by decide) (fun _ _ h=>Fg.vn x21.v (Fg.run_load rfl (h.r 7) ((dx.grown h.base (by simp)).range 0 (aY x21) rfl) Tryz.underlying68 rfl aO)) ?_
         refine Fg.vS rfl (by decide) (fun _ _ h=>Fg.vn pX.v (Fg.run_load rfl (h.r 5) ((hb5.grown h.base (by simp)).range 0 (aY pX) rfl) Tryz.underlying68 rfl aO)) ?_
         refine Fg.vS rfl (by decide) (fun ac w h=>?_) ?_
         .have e29:_=x21.v:=h.d 29
          have e30:_=pX.v:=h.d 30
          exact⟨aB rfl,.slice (some ⟨w.heap.size,0,none⟩) 2 2,w.alloc (.cells (iX [x21,pX]).toArray 68),Fg.run_buildSlice (vs:=#[(0,x21.v),(1,pX.v)]) rfl (by simp only[List.map_toArray,List.map_cons,List.map_nil,Act.eval,e29,e30]) (by kernel_rfl),World.grownBy_alloc _ _ _,⟨w.heap.size,rfl,h.base.size,aF.new w (iX [x21,pX]) _⟩⟩
         trivial
        .intro qa V3 g3 hsz hdf hrest aC hpt
         obtain⟨u29,kr⟩:=Fg.bP qa 29
         obtain⟨u30,iQ⟩:=Fg.bP qa 30
         obtain⟨N31,gJ,ags,YZ⟩:∃N,qa.tmps.getD 31 undef=.slice (some ⟨N,0,none⟩) 2 2/\W2.heap.size<=N/\aF V3 N 68 (iX [x21,pX]):=aC 31 (by kernel_rfl)
         obtain rfl:=Fg.aP [28,29,30,31] (vs:=[_,_,_,_,_,_,_,_,_,_,_,_,_,_,_,_,_,_,_,_,_,_,_,_,_,_,_,_,Value.slice (some ⟨w0.heap.size,0,none⟩) (m+j) 16,u29,u30,Value.slice (some ⟨N31,0,none⟩) 2 2,_,_,_,_,_,_,_,_,_,_,_,_,_,_,_,_,_,_,_]) hsz hrest (by kernel_rfl) rfl rfl ⟨(show qa.tmps.getD 28 undef=Value.slice (some ⟨w0.heap.size,0,none⟩) (m+j) 16 from aC 28 (by kernel_rfl)),kr,iQ,gJ,trivial⟩ hdf
         clear hsz hdf hrest aC hpt kr iQ gJ
         replace hP:=hP.grown g3 (by simp)
         replace hb5:=hb5.grown g3 (by simp)
         replace dx:=dx.grown g3 (by simp)
         replace G:=aj G g3
         replace HT:=HT.grown g3
         replace hz:=Nat.le_trans hz g3.size
         have alz:w0.heap.size<=N31:=Nat.le_trans vU ags
         clear g3
         have Gm:=hP.lt
         have ze:=hb5.lt
         have yZ:=dx.lt
         have Y0:=YZ.lt
         have OI:iP x21 ((qN (ps.take k)).getD j zero):=by
          rw[agr.out]
          have:=HL'.out.2 j (by have:=HC.out.2;omega)
          rwa [RY _ _ _ _ (by rw[HC.out.1];exact hjm)]at this
         have abL:lM [x21,pX] [(qN (ps.take k)).getD j zero,ps.getD k zero]:=⟨rfl,fun i hi=>by
          have:i=0\/i=1:=by simp at hi;omega
          rcases this with rfl|rfl
          .exact OI
          .exact HX.out⟩
         refine Fg.bU rfl (Fg.aN (vs:=#[Value.slice (some ⟨N31,0,none⟩) 2 2]) rfl rfl (by simp only[List.map_toArray,List.map_cons,List.map_nil,Act.eval];rfl) (Fg.aI Tryz.func130 (by kernel_rfl) (by kernel_rfl))) ?_
         refine (abF N31 2 [x21,pX] _ [] V3 HT rfl (by decide) (by decide) abL (by rw[List.append_nil];exact YZ)).mono ?_
         rintro e C9 ⟨t9,Fw,rfl,g9⟩
         refine⟨_,rfl,?_⟩
         refine Fg.aL (v:=Value.slice (some ⟨C9.heap.size,0,none⟩) 1 1) (w':=C9.alloc (.cells (iX [t9]).toArray 68)) rfl (Fg.run_buildSlice (vs:=#[(0,t9.v)]) rfl (by simp only[List.map_toArray,List.map_cons,List.map_nil,Act.eval];rfl) (by kernel_rfl)) ?_
         have z9:=g9.size
         have g10:=au g9 (.cells (iX [t9]).toArray 68)
         obtain⟨Y1,hap,g11,P11⟩:=sV 152 68 Tryz.underlying152 vE (C9.alloc (.cells (iX [t9]).toArray 68)) w0.heap.size C9.heap.size (m+j) (iX L') (iX [t9]) 68 (hP.grown g10 (by simp)) (by rw[Hl,HC.out.2]) i2 (aF.new C9 (iX [t9]) _) rfl rfl
         refine wpList_append_run rfl (.tmp 28) (.tmp 33) 152 rfl rfl _ _ rfl rfl _ _ hap ?_
         have hL2:lM (L'++[t9]) (qN (ps.take k)++((qN (ps.take k)).take (j+1)).map fun s=>Ed.add s (ps.getD k zero)):=by
          have:=Ho HL'.out Fw
          rw[zM _ j (by rw[HC.out.1];exact hjm),List.map_append,<- List.append_assoc]
          exact this
         have P12:pK Y1 w0.heap.size 68 (iX (L'++[t9])):=by rw[OG];simpa[iX] using P11
         have z11:=g11.size
         rw[World.size_alloc]at z11
         have abO:=(hb5.grown g10 (by simp)).grown g11 (bJ (by omega))
         have Gn:=aW (aj G g10) g11 (Nat.le_refl _)
         have HTn:=(HT.grown g10).keep g11 (HT0.jS (Nat.le_refl _))
         have VE:=Lib.hid (Fg.nH (N:=N7) (w:=Y1) (by omega))
         have H9:=Lib.hid (And.intro hL2 (And.intro P12 (And.intro abO (And.intro Gn HTn))))
         clear hL2 P12 P11 abO Gn HTn g11 g10 g9 hap hP hb5 dx YZ G HT OI abL Fw HA
         clear uK abJ Cx wS abK Gm ze yZ Y0
         go_wp2
         go_roundw
         case rel=>exact⟨j+1,L'++[t9],by omega,by go_num,rfl,H9.out.1,H9.out.2.1,H9.out.2.2.1,H9.out.2.2.2.1,H9.out.2.2.2.2,VE,by omega⟩
         case measure=>simp[intOf];omega
      .obtain rfl:j=m:=by omega
       have hL2:lM L' (qN (ps.take (k+1))):=by
        rw[zM ps k (by have:=HI.out.1;omega),RZ]
        have:=HL'.out
        rwa [List.take_of_length_le (l:=qN (ps.take k)) (i:=j) (by rw[HC.out.1];omega)]at this
       have hm2:j+j=2^(k+1):=by rw[Nat.pow_succ,<- HM.out];omega
       have VE:=Lib.hid (And.intro (Fg.nH (N:=N5) (w:=wr) l5) HA.out)
       have H9:=Lib.hid (And.intro hL2 (And.intro hP (And.intro G (And.intro HT hm2))))
       clear hL2 hP G HT hm2 hb5 HA
       go_wp2
       go_roundw
       case rel=>exact⟨k+1,j+j,L',by omega,by go_num,rfl,H9.out.1,H9.out.2.1,H9.out.2.2.1,H9.out.2.2.2.1,VE,Lib.hid H9.out.2.2.2.2,m2⟩
       case measure=>simp[intOf];omega
   .obtain rfl:n=k:=by omega
    have hLf:lM L (qN ps):=by rw[<- List.take_of_length_le (show ps.length<=n by omega)];exact HL.out
    have YW:(qN ps).length=m:=by rw[vH,hps];exact HM.out.symm
    have Xv:L.length=m:=hLf.1.trans YW
    have HC:=Lib.hid (And.intro YW Xv);clear YW Xv HL
    have HL:=Lib.hid hLf;clear hLf
    obtain⟨W2,hmk,g2,s2,hR⟩:=Dq 153 160 Tryz.underlying153 zi wr
    have hwr:=G.size
    have lSB:=hP.lt
    have HS2:=Lib.hid (And.intro (aj G g2) (And.intro (HT.grown g2) (And.intro (hP.grown g2 (by simp)) hR)));clear G HT hP hR HA g2
    obtain⟨RB,hRB⟩:∃x,x=wr.heap.size:=⟨_,rfl⟩
    rw[<- hRB]at hmk hwr lSB s2 HS2
    clear hRB
    go_wp2
    clear hmk
    go_loopw [8,10,40] (fun v8 v10 i wr=>∃(j:Nat) (R:List Ad),j<=m/\i=.int .i64 j/\v8=.slice (some ⟨RB,0,none⟩) j 16/\yu R ((qN ps).take j)/\pK wr RB 160 (qj R)/\pK wr w0.heap.size 68 (iX L)/\w0.grownBy wr none/\dH wr/\Hid (Fg.jJ [v10] wr)/\RB<wr.heap.size) (fun _ _ i _=>m-(intOf i).toNat)
    case atStart=>exact⟨0,[],by omega,rfl,rfl,⟨rfl,fun i hi=>by simp at hi⟩,HS2.out.2.2.2,HS2.out.2.2.1,HS2.out.1,HS2.out.2.1,Lib.hid (Fg.jK _ _ rfl),s2⟩
    case round=>
     clear HS2
     obtain⟨j,R,hj,rfl,rfl,hAD,hR,hP,G,HT,HA,lR⟩:=hrel
     have HAD:=Lib.hid hAD;clear hAD
     by_cases hjm:j<m
     .have i1:(j:Int)<m:=by omega
      have hz:wr.heap.size<=wr.heap.size:=Nat.le_refl _
      have hwt:=G.size
      go_upto_region 15 with (fail)
      have lC:=G.size
      have uK:=hP.lt
      have lq:=hR.lt
      refine Fg.iN (ps:=[10]) [.any,.any,.any,.any,.any,.any,.any,.any,.any,.any,.fresh 68 bE wr.heap.size,.any,.any,.any,.any,.any,.any,.any,.any,.any,.any,.any,.any,.any,.any,.any,.any,.any,.any,.any,.any,.any,.any,.any,.any,.any,.any,.any,.any,.any,.any,.any,.val (Value.pointer (some ⟨w0.heap.size,j*20,none⟩)),.val (((L.getD j bV)).v)] (fun w=>World.grownBy wr w none) 3 (ah _ _) (by kernel_rfl) (by kernel_rfl) (by decide) (Fg.qG (l:=[u10]) rfl HA.out) ?_ ?_
      .refine Fg.vS rfl (by decide) (fun ac w h=>?_) ?_
       .have e38:_=Value.slice (some ⟨w0.heap.size,0,none⟩) m 16:=h.r 38
        have e40:_=Value.int .i64 (j:Int):=h.r 40
        refine⟨aB rfl,Value.pointer (some ⟨w0.heap.size,j*20,none⟩),w,?_,ah _ _,rfl⟩
        clear h
        simp only[execOp,Act.eval,e38,e40]
        go_simp
       refine Fg.vS rfl (by decide) (fun _ _ h=>Fg.vn (((L.getD j bV)).v) (Fg.run_load rfl (h.d 42) ((by rw[show j*20=20*j by omega];exact (hP.grown h.base (by simp)).pts j (by have:=HC.out.2;omega))) Tryz.underlying68 rfl aO)) ?_
       refine⟨⟨⟨_,rfl⟩,Fg.gD (fun _ _ h k=>aj h k) rfl (by show 10<51;decide) fun ac w h=>?_⟩,?_⟩
       .refine⟨aB rfl,w.alloc (.cells bE.toArray 68),?_,World.grownBy_alloc _ _ _,by simp,⟨w.heap.size,rfl,h.base.size,aF.new w bE _⟩⟩
        clear h
        go_simp
       trivial
      .intro qa V1 g1 hsz hdf hrest aC hpt
       obtain⟨Cq,fI,agv,iR⟩:∃N,qa.tmps.getD 10 undef=.pointer (some ⟨N,0,none⟩)/\wr.heap.size<=N/\aF V1 N 68 bE:=aC 10 (by kernel_rfl)
       obtain⟨u42,mo⟩:=Fg.bP qa 42
       obtain⟨x41,Y2⟩:∃x:Pt,x=(L.getD j bV):=⟨_,rfl⟩
       obtain rfl:=Fg.aP [10,42,43] (vs:=[_,_,_,_,_,_,_,_,_,_,Value.pointer (some ⟨Cq,0,none⟩),_,_,_,_,_,_,_,_,_,_,_,_,_,_,_,_,_,_,_,_,_,_,_,_,_,_,_,_,_,_,_,u42,x41.v,_,_,_,_,_,_,_]) hsz hrest (by kernel_rfl) rfl rfl ⟨fI,mo,(show qa.tmps.getD 43 undef=x41.v by rw[Y2];exact aC 43 (by kernel_rfl)),trivial⟩ hdf
       clear hsz hdf hrest aC hpt fI mo
       have agw:=Lib.hid Y2;clear Y2
       replace hP:=hP.grown g1 (by simp)
       replace hR:=hR.grown g1 (by simp)
       replace G:=aj G g1
       replace HT:=HT.grown g1
       replace hz:=Nat.le_trans hz g1.size
       have OJ:w0.heap.size<=Cq:=Nat.le_trans lC agv
       clear g1
       refine Fg.aU rfl rfl (Fg.run_store (cs:=aY x41) rfl rfl rfl (iR.there 0 20 (by show 0+20<=20;decide)) aO (gH _)) ?_
       replace hP:=hP.ak (C:=Cq) (cs:=aY x41) 0 (by omega)
       replace hR:=hR.ak (C:=Cq) (cs:=aY x41) 0 (by omega)
       replace iR:aF (V1.setCells Cq 0 (aY x41)) Cq 68 (aY x41):=iR.bG rfl
       replace hz:=Nat.le_trans hz (aK (cs:=aY x41) (ah V1 (some Cq)) 0).size
       replace G:=aH (cs:=aY x41) G (B:=Cq) (OJ) 0
       replace HT:=HT.keep (aK (cs:=aY x41) (ah _ (some Cq)) 0) (HT0.jS (OJ))
       revert hP hR iR hz G HT
       generalize V1.setCells Cq 0 (aY x41)=W2
       intro hP hR iR hz G HT
       have OI:iP x41 ((qN ps).getD j zero):=by rw[agw.out];exact HL.out.2 j (by have:=HC.out.2;omega)
       have ZX:=OI.ok
       go_upto_region 16 with (fail)
       have vU:=G.size
       have Cx:=hP.lt
       have qI:=hR.lt
       have Y4:=iR.lt
       refine Fg.rP [] [.any,.any,.any,.any,.any,.any,.any,.any,.any,.any,.any,.any,.any,.any,.any,.any,.any,.any,.any,.any,.any,.any,.any,.any,.any,.any,.any,.any,.any,.any,.any,.any,.any,.any,.any,.any,.any,.any,.any,.any,.any,.any,.any,.any,.val (Value.slice (some ⟨RB,0,none⟩) j 16),.val (x41.v),.val ((zw x41).v),.row 160 (qj [zw x41]) 1 W2.heap.size] 4 ?_ ?_
       .refine Fg.vS rfl (by decide) (fun _ _ h=>Fg.vn _ (Fg.run_move rfl (h.r 8))) ?_
        refine Fg.vS rfl (by decide) (fun _ _ h=>Fg.vn x41.v (Fg.run_load rfl (h.r 10) ((iR.grown h.base (by simp)).range 0 (aY x41) rfl) Tryz.underlying68 rfl aO)) ?_
        refine Fg.cS rfl (by decide) (fun _ w h=>Fg.cq rfl (wR x41 _ (HT.grown h.base) ZX) ⟨h.d 45,trivial⟩ Tryz.func131) ?_
        refine Fg.vS rfl (by decide) (fun ac w h=>?_) ?_
        .have e46:_=(zw x41).v:=h.d 46
         exact⟨aB rfl,.slice (some ⟨w.heap.size,0,none⟩) 1 1,w.alloc (.cells (qj [zw x41]).toArray 160),Fg.run_buildSlice (vs:=#[(0,(zw x41).v)]) rfl (by simp only[List.map_toArray,List.map_cons,List.map_nil,Act.eval,e46]) (by kernel_rfl),World.grownBy_alloc _ _ _,⟨w.heap.size,rfl,h.base.size,aF.new w (qj [zw x41]) _⟩⟩
        trivial
       .intro qa V3 g3 hsz hdf hrest aC hpt
        obtain⟨u45,mq⟩:=Fg.bP qa 45
        obtain⟨u46,mD⟩:=Fg.bP qa 46
        obtain⟨N47,oq,hn47,Y5⟩:∃N,qa.tmps.getD 47 undef=.slice (some ⟨N,0,none⟩) 1 1/\W2.heap.size<=N/\aF V3 N 160 (qj [zw x41]):=aC 47 (by kernel_rfl)
        obtain rfl:=Fg.aP [44,45,46,47] (vs:=[_,_,_,_,_,_,_,_,_,_,_,_,_,_,_,_,_,_,_,_,_,_,_,_,_,_,_,_,_,_,_,_,_,_,_,_,_,_,_,_,_,_,_,_,Value.slice (some ⟨RB,0,none⟩) j 16,u45,u46,Value.slice (some ⟨N47,0,none⟩) 1 1,_,_,_]) hsz hrest (by kernel_rfl) rfl rfl ⟨(show qa.tmps.getD 44 undef=Value.slice (some ⟨RB,0,none⟩) j 16 from aC 44 (by kernel_rfl)),mq,mD,oq,trivial⟩ hdf
        clear hsz hdf hrest aC hpt mq mD oq
        replace hP:=hP.grown g3 (by simp)
        replace hR:=hR.grown g3 (by simp)
        replace iR:=iR.grown g3 (by simp)
        replace G:=aj G g3
        replace HT:=HT.grown g3
        replace hz:=Nat.le_trans hz g3.size
        have alB:w0.heap.size<=N47:=Nat.le_trans vU hn47
        clear g3
        have Gm:=hP.lt
        have uJ:=hR.lt
        have Y6:=iR.lt
        have Y7:=Y5.lt
        obtain⟨Y1,hap,g11,P11⟩:=sV 153 160 Tryz.underlying153 zi V3 RB N47 j (qj R) (qj [zw x41]) 160 hR (by rw[Ht,HAD.out.1,List.length_take,HC.out.1];omega) (by omega) Y5 rfl rfl
        refine wpList_append_run rfl (.tmp 44) (.tmp 47) 153 rfl rfl _ _ rfl rfl _ _ hap ?_
        have hR2:yu (R++[zw x41]) ((qN ps).take (j+1)):=by
         rw[zM _ j (by rw[HC.out.1];exact hjm)]
         exact Hq HAD.out (aa4 OI)
        have P12:pK Y1 RB 160 (qj (R++[zw x41])):=by rw[OH];simpa[qj] using P11
        have z11:=g11.size
        have hPn:=hP.grown g11 (bJ (by omega))
        have Gn:=aW G g11 hwr
        have HTn:=HT.keep g11 (HT0.jS hwr)
        have VE:=Lib.hid (Fg.nH (N:=Cq) (w:=Y1) (by omega))
        have H9:=Lib.hid (And.intro hR2 (And.intro P12 (And.intro hPn (And.intro Gn HTn))))
        clear hR2 P12 P11 hPn Gn HTn g11 hap hP hR iR Y5 G HT OI ZX HA
        clear uK lq Cx qI Y4 Gm uJ Y6 Y7
        go_wp2
        go_roundw
        case rel=>exact⟨j+1,R++[zw x41],by omega,by go_num,rfl,H9.out.1,H9.out.2.1,H9.out.2.2.1,H9.out.2.2.2.1,H9.out.2.2.2.2,VE,by omega⟩
        case measure=>simp[intOf];omega
     .obtain rfl:j=m:=by omega
      have abQ:yu R (qN ps):=by rw[<- List.take_of_length_le (show (qN ps).length<=j by rw[HC.out.1];omega)];exact HAD.out
      have H9:=Lib.hid (And.intro abQ (And.intro hR G));clear abQ hR G HT hP HA
      go_wp2
      go_ret
      exact⟨_,j,R,rfl,HM.out,H9.out.1,H9.out.2.1,H9.out.2.2,hwr⟩
end
section
open Go.RowKit Ow Go.Shelf Ed
attribute [local go_sem] Oper.semAt_some
abbrev VF:={x:Nat // x<16}
def yw (b:Nat->Bool) (g:Nat):Nat:=8*(b (4*g+3)).toNat+4*(b (4*g+2)).toNat+2*(b (4*g+1)).toNat+(b (4*g)).toNat
theorem toNat_le (b:Bool):b.toNat<=1:=by cases b<;>decide
theorem KD (b:Nat->Bool) (g:Nat):yw b g<16:=by
  unfold yw
  have h0:=toNat_le (b (4*g))
  have h1:=toNat_le (b (4*g+1))
  have h2:=toNat_le (b (4*g+2))
  have h3:=toNat_le (b (4*g+3))
  omega
def part (b:Nat->Bool) (g:Nat):Nat->Nat
  | 0=>4*(b (4*g+3)).toNat+2*(b (4*g+2)).toNat+(b (4*g+1)).toNat
  | 1=>2*(b (4*g+3)).toNat+(b (4*g+2)).toNat
  | 2=>(b (4*g+3)).toNat
  | _=>0
theorem R3 (b:Nat->Bool) (g:Nat):part b g 0=4*(b (4*g+3)).toNat+2*(b (4*g+2)).toNat+(b (4*g+1)).toNat:=rfl
theorem R4 (b:Nat->Bool) (g:Nat):part b g 1=2*(b (4*g+3)).toNat+(b (4*g+2)).toNat:=rfl
theorem R5 (b:Nat->Bool) (g:Nat):part b g 2=(b (4*g+3)).toNat:=rfl
theorem Xw (b:Nat->Bool) (g:Nat):part b g 3=0:=rfl
theorem OL (b:Nat->Bool) (g:Nat):2*part b g 0+(b (4*g)).toNat=yw b g:=by rw[R3];unfold yw;omega
theorem OM (b:Nat->Bool) (g t:Nat) (ht:t<3):2*part b g (t+1)+(b (4*g+(t+1))).toNat=part b g t:=by
  match t,ht with
  | 0,_=>rw[R3,R4];show _+(b (4*g+1)).toNat=_;omega
  | 1,_=>rw[R4,R5]
  | 2,_=>rw[R5,Xw];show _+(b (4*g+3)).toNat=_;omega
theorem VG (b:Nat->Bool) (g t:Nat) (ht:t<4):part b g t<=7:=by
  have h1:=toNat_le (b (4*g+1))
  have h2:=toNat_le (b (4*g+2))
  have h3:=toNat_le (b (4*g+3))
  match t,ht with
  | 0,_=>rw[R3];omega
  | 1,_=>rw[R4];omega
  | 2,_=>rw[R5];omega
  | 3,_=>rw[Xw];omega
theorem agy (i t:Nat) (h:i%4=t):Int.tmod (i:Int) 4=(t:Int):=by
  rw[Int.tmod_eq_emod_of_nonneg (by omega)]
  omega
def gF (b:Nat->Bool) (G k:Nat):List VF:=(List.range k).map fun t=>⟨yw b (G-1-t),KD _ _⟩
theorem sW (b:Nat->Bool) (G k:Nat):gF b G (k+1)=gF b G k++[⟨yw b (G-1-k),KD _ _⟩]:=by simp[gF,List.range_succ]
theorem Dr (b:Nat->Bool) (G g:Nat) (h:g<G) (hl:yw b g<16):gF b G (G-1-g)++[⟨yw b g,hl⟩]=gF b G (G-g):=by
  rw[show G-g=(G-1-g)+1 by omega,sW]
  congr 2
  exact Subtype.ext (by show yw b g=yw b (G-1-(G-1-g));rw[show G-1-(G-1-g)=g by omega])
theorem CB (b:Nat->Bool) (G k:Nat):(gF b G k).length=k:=by simp[gF]
def VH (x:VF):Array Value:=#[.int .i64 (x.1:Int)]
def oz (bb N Bs:Nat) (W W':World):Prop:=(∀j,j<N->W'.cell? ⟨bb,j,none⟩=W.cell? ⟨bb,j,none⟩)/\W'.cell? ⟨Bs,0,none⟩=W.cell? ⟨Bs,0,none⟩
theorem Hy {bb N Bs:Nat} {A B C:World} (h:oz bb N Bs A B) (k:oz bb N Bs B C):oz bb N Bs A C:=⟨fun j hj=>(k.1 j hj).trans (h.1 j hj),k.2.trans h.2⟩
theorem R6 {bb N Bs n:Nat} (hR:bb<n) (hB:Bs<n) (W:World) (l:Nat) (o o':Obj) (hl:n<=l) (h:W.heap[l]?=some o):oz bb N Bs W (W.putObj l o'):=by
  have hlt:l<W.heap.size:=(Array.getElem?_eq_some_iff.1 h).1
  exact⟨fun j _=>aZ (grownBy_putObj' W l o') (p:=⟨bb,j,none⟩) (show bb<_ by omega) (bI (by show bb≠l;omega)),aZ (grownBy_putObj' W l o') (p:=⟨Bs,0,none⟩) (show Bs<_ by omega) (bI (by show Bs≠l;omega))⟩
set_option maxHeartbeats 1000000 in
theorem OO (F:Fence) (n:Nat) (hf:F.fn 102) (hro:F.round=none) (a:Option Addr) (len cap:Nat) (w:World):
    CallsIn F n Tryz.prog 102 #[.slice a len cap] w fun e w'=>e=.returned (.func (.func 132) #[] #[.pointer (some ⟨w.heap.size,0,none⟩)])/\w'=w.alloc (.cells #[.slice a len cap] 120):=by
  refine callsIn_of_wp Tryz.func102 rfl hf ?_ hro
  simp only[Tryz.ntmps102,List.size_toArray,List.length_cons,List.length_nil,Nat.reduceAdd,Nat.reduceSub,Array.replicate_succ,Array.replicate_zero,List.push_toArray,List.append_toArray,List.nil_append,List.cons_append]
  gi_wp2
  go_ret
  exact⟨rfl,rfl⟩
set_option maxRecDepth 100000 in
set_option maxHeartbeats 4000000 in
theorem KE (F:Fence) (n:Nat) (hf:F.fn 132) (hro:F.round=none) (hn:1<=n) (l Bs bb G N:Nat) (hN:N=4*G) (hG:G<=1000) (hG1:1<=G) (b:Nat->Bool) (J Jx:List VF->World->Prop)
    (hY:∀pre x W,J pre W->pre.length<G->YieldAt F (n-1) Tryz.prog l (VH x) W fun e W'=>
      (e=.returned (.bool true)/\J (pre++[x]) W'/\oz bb N Bs W W')\/(e=.returned (.bool false)/\Jx (pre++[x]) W'))
    (W:World) (zq:W.cell? ⟨Bs,0,none⟩=some (.slice (some ⟨bb,0,none⟩) N N)) (hc:∀j,j<N->W.cell? ⟨bb,j,none⟩=some (.bool (b j))) (h0:J [] W):
    CallsIn F n Tryz.prog 132 #[.func (.yield l) #[] #[],.pointer (some ⟨Bs,0,none⟩)] W fun e W'=>(∃v,e=.returned v)/\
      ((∃ys,ys=gF b G G/\J ys W')\/(∃pre,True/\Jx pre W')):=by
  have HC:=Lib.hid hc;clear hc
  have HN:=Lib.hid hN;clear hN
  have hN1:4<=N:=by have:=HN.out;omega
  have hN2:N<=4000:=by have:=HN.out;omega
  refine callsIn_of_wp Tryz.func132 rfl hf ?_ hro
  simp only[Tryz.ntmps132,List.size_toArray,List.length_cons,List.length_nil,Nat.reduceAdd,Nat.reduceSub,Array.replicate_succ,Array.replicate_zero,List.push_toArray,List.append_toArray,List.nil_append,List.cons_append]
  have HBs:=Lib.hid zq
  gi_wp2
  clear zq
  gi_loopw [3,4] (fun v3 v4 wr=>((∃g t i p:Nat,g<G/\t<4/\Hid (i=4*g+t)/\i<N/\Hid (p=part b g t)/\p<=7/\v4=.int .i64 i/\v3=.int .i64 p/\J (gF b G (G-1-g)) wr)\/(v4=.int .i64 (-1)/\v3=.int .i64 0/\J (gF b G G) wr))/\oz bb N Bs W wr)
    (fun _ i _=>(intOf i+1).toNat)
  case atStart=>
    refine⟨Or.inl ⟨G-1,3,N-1,0,by omega,by omega,Lib.hid (by have:=HN.out;omega),by omega,Lib.hid rfl,by omega,?_,rfl,by rw[show G-1-(G-1)=0 by omega];exact h0⟩,⟨fun _ _=>rfl,rfl⟩⟩
    have:(N:Int)-1=((N-1:Nat):Int):=by omega
    rw[this]
  case round=>
    obtain⟨⟨g,t,i,p,hg,ht,HI,hi,HP,hp,rfl,rfl,hJs⟩ |⟨rfl,rfl,hJs⟩,hnx⟩:=hrel
    . have hb1:wr.cell? ⟨Bs,0,none⟩=some (.slice (some ⟨bb,0,none⟩) N N):=hnx.2.trans HBs.out
      have hcx:wr.cell? ⟨bb,i,none⟩=some (.bool (b i)):=(hnx.1 i hi).trans (HC.out i hi)
      have hr:=agy i t (by have:=HI.out;omega)
      have HNX:=Lib.hid hnx;clear hnx
      have hbl:=toNat_le (b i)
      obtain⟨q,hq⟩:∃q,q=2*p+(b i).toNat:=⟨_,rfl⟩
      have HQ:=Lib.hid hq;clear hq
      by_cases ht0:t=0
      . subst ht0
        have hqg:q=yw b g:=by rw[HQ.out,HP.out,<- OL,HI.out,Nat.add_zero]
        obtain⟨fn,tmps,assign,body,hy,hR⟩:=hY _ ⟨yw b g,KD b g⟩ wr hJs (by rw[CB];omega)
        unfold VH at hy
        simp only[<- hqg]at hy
        have hnext:∀W3,J (gF b G (G-g)) W3->oz bb N Bs wr W3->((∃g t i' p:Nat,g<G/\t<4/\Hid (i'=4*g+t)/\i'<N/\Hid (p=part b g t)/\p<=7/\Value.int .i64 ((i:Int)-1)=.int .i64 i'/\Value.int .i64 0=.int .i64 p/\J (gF b G (G-1-g)) W3)\/(Value.int .i64 ((i:Int)-1)=.int .i64 (-1)/\Value.int .i64 0=.int .i64 0/\J (gF b G G) W3))/\oz bb N Bs W W3:=by
          intro W3 hJ3 hk3
          refine⟨?_,Hy HNX.out hk3⟩
          have hi0:=HI.out
          rcases Nat.eq_zero_or_pos g with h0|h0
          . subst h0
            exact .inr ⟨by rw[hi0];rfl,rfl,hJ3⟩
          . refine .inl ⟨g-1,3,i-1,0,by omega,by omega,Lib.hid (by omega),by omega,Lib.hid rfl,by omega,?_,rfl,?_⟩
            . rw[show ((i-1:Nat):Int)=(i:Int)-1 by omega]
            . rw[show G-1-(g-1)=G-g by omega];exact hJ3
        have Hz:=Lib.hid hnext;clear hnext
        cases hbi:b i with
        | true=>
          have hq2:(q:Int)=(p:Int)*2+1:=by rw[HQ.out,hbi];simp;omega
          rw[hq2]at hy
          rw[hbi]at hcx
          gi_wp2
          refine hR.mono ?_
          rintro e W3 (⟨rfl,hJ3,hk3⟩ |⟨rfl,hJx3⟩)
          . rw[Dr b G g hg]at hJ3
            gi_wp2
            go_roundw
            case rel=>
                        obtain⟨h |⟨h1,_,h3⟩,h4⟩:=Hz.out W3 hJ3 hk3
                        . exact⟨.inl h,h4⟩
                        . exact⟨.inr ⟨h1,rfl,h3⟩,h4⟩
            case measure=>simp[intOf]
          . gi_wp2
            refine bodyPost_ret (results_none rfl _ _ _) rfl ?_
            exact⟨⟨_,rfl⟩,.inr ⟨_,trivial,hJx3⟩⟩
        | false=>
          have hq2:(q:Int)=(p:Int)*2:=by rw[HQ.out,hbi];simp;omega
          rw[hq2]at hy
          rw[hbi]at hcx
          gi_wp2
          refine hR.mono ?_
          rintro e W3 (⟨rfl,hJ3,hk3⟩ |⟨rfl,hJx3⟩)
          . rw[Dr b G g hg]at hJ3
            gi_wp2
            go_roundw
            case rel=>
                        obtain⟨h |⟨h1,_,h3⟩,h4⟩:=Hz.out W3 hJ3 hk3
                        . exact⟨.inl h,h4⟩
                        . exact⟨.inr ⟨h1,rfl,h3⟩,h4⟩
            case measure=>simp[intOf]
          . gi_wp2
            refine bodyPost_ret (results_none rfl _ _ _) rfl ?_
            exact⟨⟨_,rfl⟩,.inr ⟨_,trivial,hJx3⟩⟩
      . obtain⟨t,rfl⟩:∃t',t=t'+1:=⟨t-1,by omega⟩
        have hqp:q=part b g t:=by rw[HQ.out,HP.out,HI.out,OM b g t (by omega)]
        have hnext:((∃g t i' p:Nat,g<G/\t<4/\Hid (i'=4*g+t)/\i'<N/\Hid (p=part b g t)/\p<=7/\Value.int .i64 ((i:Int)-1)=.int .i64 i'/\Value.int .i64 (q:Int)=.int .i64 p/\J (gF b G (G-1-g)) wr)\/(Value.int .i64 ((i:Int)-1)=.int .i64 (-1)/\Value.int .i64 (q:Int)=.int .i64 0/\J (gF b G G) wr))/\oz bb N Bs W wr:=by
          have hi0:=HI.out
          refine⟨.inl ⟨g,t,i-1,q,hg,by omega,Lib.hid (by omega),by omega,Lib.hid hqp,by rw[hqp];exact VG b g t (by omega),?_,rfl,hJs⟩,HNX.out⟩
          rw[show ((i-1:Nat):Int)=(i:Int)-1 by omega]
        have Hz:=Lib.hid hnext;clear hnext
        have hi1:1<=i:=by have:=HI.out;omega
        have hr0:¬((i:Int).tmod 4=0):=by rw[hr];omega
        cases hbi:b i with
        | true=>
          have hq2:(q:Int)=(p:Int)*2+1:=by rw[HQ.out,hbi];simp;omega
          rw[hbi]at hcx
          gi_wp2
          go_roundw
          case rel=>rw[<- hq2];exact Hz.out
          case measure=>simp[intOf]
        | false=>
          have hq2:(q:Int)=(p:Int)*2:=by rw[HQ.out,hbi];simp;omega
          rw[hbi]at hcx
          gi_wp2
          go_roundw
          case rel=>rw[<- hq2];exact Hz.out
          case measure=>simp[intOf]
    . gi_wp2
      go_end0
      exact⟨⟨_,rfl⟩,.inl ⟨_,rfl,hJs⟩⟩
theorem EC (F:Fence) (n:Nat) (hf:F.fn 132) (hro:F.round=none) (hn:1<=n) (Bs bb G N:Nat) (hN:N=4*G) (hG:G<=1000) (hG1:1<=G) (b:Nat->Bool) (w:World) (zq:Bs<w.heap.size) (hR:bb<w.heap.size)
    (hb:w.cell? ⟨Bs,0,none⟩=some (.slice (some ⟨bb,0,none⟩) N N)) (hc:∀j,j<N->w.cell? ⟨bb,j,none⟩=some (.bool (b j))):
    SeqStopsK F n Tryz.prog 132 #[.pointer (some ⟨Bs,0,none⟩)] VH (oz bb N Bs) (fun ys=>ys=gF b G G) (fun _=>True) G w:=fun l J Jx W hW _ _ hY h0=>
  KE F n hf hro hn l Bs bb G N hN hG hG1 b J Jx hY W ((hW.cell (p:=⟨Bs,0,none⟩) zq).trans hb) (fun j hj=>(hW.cell (p:=⟨bb,j,none⟩) hR).trans (hc j hj)) h0
end
section
open Go.RowKit Ow Go.Shelf Ed
attribute [local go_sem] Oper.semAt_some
def wT (T:Nat) (C:List Pr) (acc:Pr) (x:VF):Pr:=if x.1=0 then bq (2^T) acc else Ed.add (bq (2^T) acc) (C.getD x.1 zero)
def rE (T:Nat) (C:List Pr) (xs:List VF):Pr:=xs.foldl (wT T C) zero
theorem qO (T:Nat) (C:List Pr) (xs:List VF) (x:VF):rE T C (xs++[x])=wT T C (rE T C xs) x:=by simp[rE]
structure R7 (w0:World) (n T RB B3 B6 B7 B8 m:Nat) (C:List Pr) (R:List Ad) (pre:List VF) (W:World):Prop where
 t:aF W B3 3 [.int .i64 (T:Int)]
 r:aF W B6 68 bE
 box:aF W B7 153 [.slice (some ⟨RB,0,none⟩) m 16]
 pile:pK W RB 160 (qj R)
 tab:dH W
 sum:∃s,l9 s (rE T C pre)/\aF W B8 149 (lg s)
 grown:w0.grownBy W none
 size:n<=W.heap.size
theorem R8 (w0:World) (n T RB B3 B6 B7 B8 m:Nat) (C:List Pr) (R:List Ad) (k:Nat) (hk:w0.heap.size<=k) (HT0:dH w0):OwnFrom k (R7 w0 n T RB B3 B6 B7 B8 m C R):=fun s A B row h hg hr=>by
 obtain⟨q,hq,hs⟩:=h.sum
 refine⟨kR h.t hg hr,kR h.r hg hr,kR h.box hg hr,?_,?_,⟨q,hq,kR hs hg hr⟩,EB h.grown hg (fun r e=>by have:=(hr r e).1;omega),Nat.le_trans h.size hg.size⟩
 .obtain⟨rest,hl,hb⟩:=h.pile
  exact⟨rest,hl,kR hb hg hr⟩
 .cases row with
  | none=>exact h.tab.grown hg
  | some r=>exact h.tab.keep hg (HT0.jS (by have:=(hr r rfl).1;omega))
theorem o9 {F:Fence} {n:Nat} {P:Program} {ops:Array Oper} {Q:Exit->Act->World->Prop} {o:Oper} {r:List Oper} {a:Act} {w w':World} {v:Value} (hg:o.guard=none) (ha:o.about P w a.eval=none) (hc:∀c,o.op≠.defer c) (hr:(execOp a.eval o).run P w=.ok (.value v) w') (h:wpListIn F n P ops Q r (a.put o.dst v) w'):wpListIn F n P ops Q (o:: r) a w:=by
 refine wpListIn_plain hg fun K hK=>?_
 unfold Oper.wpIn
 refine⟨?_,?_⟩
 .rw[ha];intro f hf;cases hf
 .rw[Oper.semAt_plain F _ _ hc,hr]
  exact hK _ _ h
theorem Dt {w0 W W':World} {n T RB B7 B8 m:Nat} {C:List Pr} {R:List Ad} {pre pre':List VF} (h:R7 w0 n T RB w0.heap.size (w0.heap.size+1) B7 B8 m C R pre W) (hg:W.grownBy W' (some B8)) (h0:w0.heap.size+1<B8) (h7:B7<B8) (hR:RB<B8) (HT0:dH w0)
  (hs:∃s,l9 s (rE T C pre')/\aF W' B8 149 (lg s)):R7 w0 n T RB w0.heap.size (w0.heap.size+1) B7 B8 m C R pre' W':=
 ⟨h.t.grown hg (bI (by omega)),h.r.grown hg (bI (by omega)),h.box.grown hg (bI (by omega)),h.pile.grown hg (bI (by omega)),h.tab.keep hg (HT0.jS (by omega)),hs,aW h.grown hg (by omega),Nat.le_trans h.size hg.size⟩
theorem Ia {bb N Bs S:Nat} {W W':World} (hg:W.grownBy W' (some S)) (h1:bb<W.heap.size) (h2:Bs<W.heap.size) (n1:bb≠S) (n2:Bs≠S):oz bb N Bs W W':=
 ⟨fun j _=>aZ hg (p:=⟨bb,j,none⟩) h1 (bI n1),aZ hg (p:=⟨Bs,0,none⟩) h2 (bI n2)⟩
set_option maxRecDepth 100000 in
set_option maxHeartbeats 12800000 in
theorem Bh (T PB bb N G:Nat) (P4:List Pt) (ps:List Pr) (V:List Value) (b:Nat->Bool) (w0:World) (HT0:dH w0) (hT:T<=100) (hN:N=4*G) (hG:G<=1000) (hG1:1<=G) (hn:P4.length=4) (hI:lM P4 ps) (YV:aF w0 PB 68 (iX P4++V)) (hbb:bb<w0.heap.size) (hc:∀j,j<N->w0.cell? ⟨bb,j,none⟩=some (.bool (b j))):
  Calls Tryz.prog 78 #[.int .i64 (T:Int),.slice (some ⟨bb,0,none⟩) N N,.slice (some ⟨PB,0,none⟩) 4 4] w0 fun e w'=>∃t,iP t (rE T (qN ps) (gF b G G))/\e=.returned t.v/\w0.grownBy w' none:=by
 have HC:=Lib.hid hc;clear hc
 have HN:=Lib.hid hN;clear hN
 have hps:ps.length=4:=hI.1.symm.trans hn
 refine (callsIn_wide (n:=9)).1 ?_
 refine callsIn_of_wp_marks Tryz.func78 rfl trivial ?_ rfl
 simp only[Tryz.ntmps78,List.size_toArray,List.length_cons,List.length_nil,Nat.reduceAdd,Nat.reduceSub,Array.replicate_succ,Array.replicate_zero,List.push_toArray,List.append_toArray,List.nil_append,List.cons_append]
 refine wpIn_wide.2 ?_
 go_upto_region 1 with (fail)
 have hb3:=(kJ w0 (B:=w0.heap.size) [Value.int .i64 (T:Int)] 3 rfl).alloc (.cells bE.toArray 68)
 have hb6:=kJ (w0.alloc (.cells #[Value.int .i64 (T:Int)] 3)) (B:=w0.heap.size+1) bE 68 (by simp)
 have G1:=au (au (ah w0 none) (.cells #[Value.int .i64 (T:Int)] 3)) (.cells bE.toArray 68)
 have s1:((w0.alloc (.cells #[Value.int .i64 (T:Int)] 3)).alloc (.cells bE.toArray 68)).heap.size=w0.heap.size+2:=by simp
 have hP1:=(YV.alloc (.cells #[Value.int .i64 (T:Int)] 3)).alloc (.cells bE.toArray 68)
 have hPl:=YV.lt
 clear YV
 revert hb3 hb6 G1 s1 hP1
 generalize (w0.alloc (.cells #[Value.int .i64 (T:Int)] 3)).alloc (.cells bE.toArray 68)=W1
 intro hb3 hb6 G1 s1 hP1
 have HT1:=HT0.grown G1
 have HS:=Lib.hid (And.intro hb3 (And.intro hb6 G1));clear hb3 hb6 G1
 go_upto_region 2 with (go_at_call 101;refine (Hu PB 4 P4 ps V W1 HT1 hn (by decide) hI hP1).mono ?_;rintro e W2 ⟨RB,m,R,rfl,hm,hR,R9,g2,hRB⟩;obtain rfl:m=16:=hm)
 have hb3:=(HS.out.1.grown g2 (by simp)).alloc (.cells #[Value.slice (some ⟨RB,0,none⟩) 16 16] 153)
 have hb6:=(HS.out.2.1.grown g2 (by simp)).alloc (.cells #[Value.slice (some ⟨RB,0,none⟩) 16 16] 153)
 have dx:=kJ W2 (B:=W2.heap.size) [Value.slice (some ⟨RB,0,none⟩) 16 16] 153 rfl
 have hpl:=R9.grown (au (ah W2 none) (.cells #[Value.slice (some ⟨RB,0,none⟩) 16 16] 153)) (by simp)
 have G3:=au (aj HS.out.2.2 g2) (.cells #[Value.slice (some ⟨RB,0,none⟩) 16 16] 153)
 have s3:(W2.alloc (.cells #[Value.slice (some ⟨RB,0,none⟩) 16 16] 153)).heap.size=W2.heap.size+1:=by simp
 have agz:=R9.lt
 have z2:=g2.size
 obtain⟨B7,hB7⟩:∃x,x=W2.heap.size:=⟨_,rfl⟩
 rw[<- hB7]at dx s3 agz z2 ⊢
 clear R9 g2 HS hP1 HT1
 revert hb3 hb6 dx hpl G3 s3
 generalize W2.alloc (.cells #[Value.slice (some ⟨RB,0,none⟩) 16 16] 153)=W3
 intro hb3 hb6 hpl G3 s3 dx
 clear hB7
 refine wp_region_lit ?_
 refine Fg.bU rfl (Fg.aN (vs:=#[]) rfl rfl (by simp) (Fg.aI Tryz.func76 (by kernel_rfl) (by kernel_rfl))) ?_
 refine (RX _).mono ?_
 rintro e W4 ⟨rfl,g4⟩
 refine⟨_,rfl,?_⟩
 refine Fg.bU rfl (Fg.aN (vs:=#[bV.v]) rfl rfl (by simp only[List.map_toArray,List.map_cons,List.map_nil,Act.eval];rfl) (Fg.aI Tryz.func98 (by kernel_rfl) (by kernel_rfl))) ?_
 refine (yt bV _).mono ?_
 rintro e W5 ⟨rfl,g5⟩
 refine⟨_,rfl,?_⟩
 have g6:=aj g4 g5
 clear g4 g5
 refine Fg.aL (v:=.pointer (some ⟨W5.heap.size,0,none⟩)) (w':=W5.alloc (.cells nQ.toArray 149)) rfl (by go_simp) ?_
 have hb3:=(hb3.grown g6 (by simp)).alloc (.cells nQ.toArray 149)
 have hb6:=(hb6.grown g6 (by simp)).alloc (.cells nQ.toArray 149)
 have dx:=(dx.grown g6 (by simp)).alloc (.cells nQ.toArray 149)
 have gu:=kJ W5 (B:=W5.heap.size) nQ 149 rfl
 have hpl:=(hpl.grown g6 (by simp)).grown (au (ah W5 none) (.cells nQ.toArray 149)) (by simp)
 have G6:=au (aj G3 g6) (.cells nQ.toArray 149)
 have s6:(W5.alloc (.cells nQ.toArray 149)).heap.size=W5.heap.size+1:=by simp
 have z6:=g6.size
 obtain⟨B8,hB8⟩:∃x,x=W5.heap.size:=⟨_,rfl⟩
 rw[<- hB8]at gu s6 z6 ⊢
 revert hb3 hb6 dx gu hpl G6 s6
 generalize W5.alloc (.cells nQ.toArray 149)=W6
 intro hb3 hb6 dx hpl G6 s6 gu
 clear hB8
 refine Fg.aU rfl rfl (Fg.run_store (b:=B8) (off:=0) (cs:=lg (nZ bV)) rfl rfl rfl (gu.there 0 30 (by show 0+30<=30;decide)) sM (zJ _)) ?_
 refine wpList_nil ?_
 have hb3:=hb3.ak (C:=B8) (cs:=lg (nZ bV)) 0 (by omega)
 have hb6:=hb6.ak (C:=B8) (cs:=lg (nZ bV)) 0 (by omega)
 have dx:=dx.ak (C:=B8) (cs:=lg (nZ bV)) 0 (by omega)
 have hpl:=hpl.ak (C:=B8) (cs:=lg (nZ bV)) 0 (by omega)
 have gu:aF (W6.setCells B8 0 (lg (nZ bV))) B8 149 (lg (nZ bV)):=gu.bG rfl
 have G7:=aH (cs:=lg (nZ bV)) G6 (B:=B8) (by omega) 0
 have s7:=(aK (cs:=lg (nZ bV)) (ah W6 (some B8)) 0).size
 clear G6
 revert hb3 hb6 dx hpl gu G7 s7
 generalize W6.setCells B8 0 (lg (nZ bV))=W7
 intro hb3 hb6 dx hpl gu G7 s7
 have HT7:=HT0.grown G7
 have lB3:=hb3.lt
 have lB6:=hb6.lt
 have lB7:=dx.lt
 have lB8:=gu.lt
 have lRB:=hpl.lt
 have HS:=Lib.hid (And.intro hb3 (And.intro hb6 (And.intro dx (And.intro hpl (And.intro gu (And.intro G7 HT7))))))
 clear hb3 hb6 dx hpl gu G7 HT7
 generalize bV.v=vz
 generalize (nZ bV).v=vs
 go_wp2_with (go_at_call 102;refine ((callsIn_wide (n:=8)).1 (OO Fence.wide 8 trivial rfl (some ⟨bb,0,none⟩) N N W7)).mono ?_;rintro e W8 ⟨rfl,Y8⟩;have HW8:=Lib.hid Y8;clear Y8)
 have Y8:=HW8.out;clear HW8
 have hI0:R7 w0 (W7.heap.size+1) T RB w0.heap.size (w0.heap.size+1) B7 B8 16 (qN ps) R [] W8:=by
  obtain⟨hb3,hb6,dx,hpl,gu,G7,HT7⟩:=HS.out
  subst Y8
  exact⟨hb3.alloc _,hb6.alloc _,dx.alloc _,hpl.grown (au (ah W7 none) _) (by simp),HT7.grown (au (ah W7 none) _),⟨_,Me Rj,gu.alloc _⟩,au G7 _,by simp⟩
 have zq:aF W8 W7.heap.size 120 [.slice (some ⟨bb,0,none⟩) N N]:=by
  subst Y8
  exact kJ W7 [.slice (some ⟨bb,0,none⟩) N N] _ rfl
 have kZ:W8.heap.size=W7.heap.size+1:=by subst Y8;simp
 clear Y8 HS
 have g70:=hI0.grown.size
 have hcb:∀j,j<N->W8.cell? ⟨bb,j,none⟩=some (.bool (b j)):=fun j hj=>by rw[aZ hI0.grown (p:=⟨bb,j,none⟩) hbb (by simp)];exact HC.out j hj
 obtain⟨NB,Xx⟩:∃x,x=W7.heap.size:=⟨_,rfl⟩
 rw[<- Xx]at hI0 zq kZ lB3 lB6 lB7 lB8 lRB ⊢
 clear Xx
 refine (wpIn_wide (n:=9)).1 ?_
 refine wpIn_rangeFunc_ownG (F:=Fence.wide) (n:=9) rfl (by decide) (gf:=132) (lb:=#[.pointer (some ⟨NB,0,none⟩)]) rfl trivial (enters_of Tryz.func132 (by kernel_rfl) rfl)
  (w0:=W8) (EC Fence.wide 8 trivial rfl (by decide) NB bb G N HN.out hG hG1 b W8 (by omega) (by omega) (zq.cell (i:=0) rfl) hcb)
  (fun h k=>Hy h k) (fun W l o o' hl h _ _=>R6 (n:=W8.heap.size) (by omega) (by omega) W l o o' hl h) (Below.refl _ _) (fun _=>rfl)
  (R7 w0 (NB+1) T RB w0.heap.size (w0.heap.size+1) B7 B8 16 (qN ps) R) (fun _ _ _=>False) (R8 _ _ _ _ _ _ _ _ _ _ _ _ (by omega) HT0) (fun _ _ _ _ _ h _ _=>h) hI0
  (fun x=>{tmps:=#[.int .i64 (T:Int),.slice (some ⟨bb,0,none⟩) N N,.slice (some ⟨PB,0,none⟩) 4 4,.pointer (some ⟨w0.heap.size,0,none⟩),undef,undef,.pointer (some ⟨w0.heap.size+1,0,none⟩),.pointer (some ⟨B7,0,none⟩),.pointer (some ⟨B8,0,none⟩),.int .i64 (x.1:Int),.slice (some ⟨PB,0,none⟩) 4 4,.slice (some ⟨RB,0,none⟩) 16 16,vz,vs,.slice (some ⟨bb,0,none⟩) N N,.func (.func 132) #[] #[.pointer (some ⟨NB,0,none⟩)],.int .i64 (x.1:Int),undef,undef,undef,undef,undef,undef,undef,undef,undef,undef],defers:=[]}) ?assign ?body ?done ?stop
 case assign=>
  intro l x W K hK
  unfold VH
  gi_wp2
  exact hK
 case body=>
  rintro l pre x W hI hlen
  obtain⟨s,hs,gu⟩:=hI.sum
  have c3:=hI.t.cell (i:=0) rfl
  have HJ:=Lib.hid hI;clear hI
  obtain⟨x,hx16⟩:=x
  show Code.wpIn _ _ _ _ _ {tmps:=_,defers:=_} _
  have zW:=HJ.out.size
  by_cases hx0:x=0
  .subst hx0
   gi_wp2_with (refine⟨trivial,?_⟩;gi_at_call 99;refine (CallsIn.inRound l (callsIn_wide.2 (zh B8 T s _ W hT HJ.out.tab (HT0.jS (by omega)) gu hs))).mono ?_;rintro e W' ⟨rfl,hg',Y9⟩)
   exact⟨KeepsFrom.of_grownBy hg' (fun j e=>by cases e;omega),Ia hg' (by omega) (by omega) (by omega) (by omega),Dt HJ.out hg' (by omega) (by omega) (by omega) HT0 (by rw[qO];exact Y9)⟩
  .gi_upto_region 7 with (refine⟨trivial,?_⟩;gi_at_call 99;refine (CallsIn.inRound l (callsIn_wide.2 (zh B8 T s _ W hT HJ.out.tab (HT0.jS (by omega)) gu hs))).mono ?_;rintro e W' ⟨rfl,hg',Y9⟩)
   obtain⟨s',hs',agA⟩:=Y9
   have hT1:=HJ.out.tab.keep hg' (HT0.jS (S:=B8) (by omega))
   have c7:=(HJ.out.box.grown hg' (bI (by omega))).cell (i:=0) rfl
   obtain⟨rest,_,hrb⟩:=HJ.out.pile.grown hg' (bI (by omega))
   have hRl:R.length=16:=by rw[hR.1,vH,hps]
   have hrg:=YU hrb x (by omega)
   have hq:=hR.2 x (by omega)
   clear hrb
   generalize R.getD x (zw bV)=q at hrg hq
   have zW':=hg'.size
   refine wpIn_region_lit ?_
   refine o9 (v:=.slice (some ⟨RB,0,none⟩) 16 16) (w':=W') rfl (by simp[Oper.about]) (fun c h=>by cases h) (by go_simp) ?_
   refine o9 (v:=.int .i64 (x:Int)) (w':=W') rfl (by simp[Oper.about]) (fun c h=>by cases h) (Fg.run_move rfl rfl) ?_
   refine o9 (v:=.pointer (some ⟨RB,20*x,none⟩)) (w':=W') rfl (by simp[Oper.about]) (fun c h=>by cases h) (by go_simp;rw[if_pos (show (x:Int)<16 by omega),Nat.mul_comm]) ?_
   refine o9 (v:=q.v) (w':=W') rfl (by simp[Oper.about]) (fun c h=>by cases h) (Fg.run_load rfl rfl hrg Tryz.underlying160 rfl sN) ?_
   gi_wp2_with (refine⟨trivial,?_⟩;gi_at_call 103;refine (CallsIn.inRound l (callsIn_wide.2 (GK B8 s' q _ _ W' hT1 (HT0.jS (by omega)) agA hs' hq))).mono ?_;rintro e W2 ⟨rfl,hg2,agB⟩)
   have hx:rE T (qN ps) (pre++[⟨x,hx16⟩])=Ed.add (bq (2^T) (rE T (qN ps) pre)) ((qN ps).getD x zero):=by rw[qO];unfold wT;rw[if_neg hx0]
   have hI1:=Dt (pre':=pre++[⟨x,hx16⟩]) HJ.out (aj hg' hg2) (by omega) (by omega) (by omega) HT0 (by rw[hx];exact agB)
   exact⟨KeepsFrom.of_grownBy (aj hg' hg2) (fun j e=>by cases e;omega),Ia (aj hg' hg2) (by omega) (by omega) (by omega) (by omega),hI1⟩
 case done=>
  rintro D ys W hD rfl hI hK
  obtain⟨s,hs,gu⟩:=hI.sum
  have hDl:D<W.heap.size:=(Array.getElem?_eq_some_iff.1 hK).1
  have HK:=Lib.hid hK;clear hK
  go_upto_region 8 with (fail)
  refine wp_region_lit ?_
  refine Fg.bU rfl (Fg.aN (vs:=#[.pointer (some ⟨B8,0,none⟩)]) rfl rfl (by simp only[List.map_toArray,List.map_cons,List.map_nil,Act.eval];rfl) (Fg.aI Tryz.func100 (by kernel_rfl) (by kernel_rfl))) ?_
  refine (um B8 s W gu hs.ok).mono ?_
  rintro e W1 ⟨rfl,g1,_⟩
  refine⟨_,rfl,?_⟩
  have hb6:=hI.r.grown g1 (bI (by omega))
  have k1:=(g1.block D hDl (bI (by omega))).trans HK.out
  have z1:=g1.size
  refine Fg.aU rfl rfl (Fg.run_store (b:=w0.heap.size+1) (off:=0) (cs:=aY (lK s)) rfl rfl rfl (hb6.there 0 20 (by show 0+20<=20;decide)) aO (gH _)) ?_
  refine wpList_nil ?_
  have g2:=aK (cs:=aY (lK s)) (ah W1 (some (w0.heap.size+1))) 0
  have hb6:aF (W1.setCells (w0.heap.size+1) 0 (aY (lK s))) (w0.heap.size+1) 68 (aY (lK s)):=hb6.bG rfl
  have G2:=aW (aW hI.grown g1 (by omega)) g2 (by omega)
  have k2:=(g2.block D (by omega) (bI (by omega))).trans k1
  have z2:=g2.size
  clear g2 k1
  revert hb6 G2 k2 z2
  generalize W1.setCells (w0.heap.size+1) 0 (aY (lK s))=W2
  intro hb6 G2 k2 z2
  have hp:=Eh hs
  generalize lK s=tt at hb6 hp ⊢
  obtain⟨tv,htv⟩:∃v,v=tt.v:=⟨_,rfl⟩
  rw[<- htv]
  go_upto_region 9 with (fail)
  have hpo:=grownBy_putObj' W2 D (.deferred none)
  have hb6:=hb6.grown hpo (bI (by omega))
  have G3:=aW G2 hpo (by omega)
  refine⟨by simp,.inl ⟨_,_,rfl,run_takeDeferred k2,?_⟩⟩
  refine⟨tv,?_,tt,hp,by rw[htv],G3⟩
  rw[htv]
  exact results_cell_row Tryz.results78 _ _ (w0.heap.size+1) 68 (aY tt).toArray (0,0) _ rfl hb6 Tryz.underlying68 rfl aO
 case stop=>
  rintro D c pre W _ _ h _
  exact h.elim
end
section
open Go.RowKit Ow
def jW (n k:Nat):List Nat:=(List.range k).map (Sc.P8 n)
theorem pO (n k:Nat):(jW n k).length=k:=by simp[jW]
theorem Ib (n k:Nat):jW n (k+1)=jW n k++[Sc.P8 n k]:=by simp[jW,List.range_succ]
theorem Bj (n k i:Nat) (h:i<k):(jW n k).getD i 0=Sc.P8 n i:=by
 unfold jW;rw[List.getD_eq_getElem?_getD,List.getElem?_map,List.getElem?_range h];rfl
theorem OP (n k i:Nat):(jW n k).getD i 0<256:=by
 by_cases h:i<k
 .rw[Bj n k i h];exact Sc.Ry _ _
 .rw[List.getD_eq_getElem?_getD,List.getElem?_eq_none (by rw[pO];omega)];decide
theorem KF (n k:Nat):num (jW n k)=n%2^(8*k):=by
 unfold num
 rw[pO,<- Sc.Vt n k]
 exact Sc.Oq _ _ _ fun i hi=>Bj n k i hi
theorem OQ (n j i:Nat) (hi:i<8):Sc.bC n j/2^(8*i)%256=Sc.P8 n (8*j+i):=by
 have e:(18446744073709551616:Nat)=2^(8*i)*(256*2^(56-8*i)):=by
  rw[show (256:Nat)=2^8 by rfl,<- Nat.pow_add,<- Nat.pow_add,show (18446744073709551616:Nat)=2^64 by rfl];congr 1;omega
 unfold Sc.bC Sc.P8
 rw[e,Nat.mod_mul_right_div_self,Nat.mod_mul_right_mod,Nat.div_div_eq_div_mul,<- Nat.pow_add]
 congr 3;omega
set_option maxRecDepth 100000 in
set_option maxHeartbeats 1600000 in
theorem Bl (n:Nat) (w:World):
  Calls Tryz.prog 64 #[jG n] w fun e w'=>∃g,e=.returned (.slice (some ⟨g,0,none⟩) 32 32)/\w.grownBy w' none/\w'.ownsRow w.heap.size 5 1 (.slice (some ⟨g,0,none⟩) 32 32) 32 ((jW n 32).map dG):=by
 obtain⟨i,z,hi,hz,hs,hb,hc⟩:=Ow.qF
 obtain⟨w1,hmk,ho1,hg1⟩:=run_make_own (w.alloc (.cells #[wV n 0,wV n 1,wV n 2,wV n 3] 102)) w.heap.size 24 5 i z 1 (P:=Tryz.prog) Tryz.underlying24 hi hz hs .i64 .i64 32 (by rw[hb];omega) (by unfold maxLen;omega) (by simp)
 have hsz:(w.alloc (.cells #[wV n 0,wV n 1,wV n 2,wV n 3] 102)).heap.size=w.heap.size+1:=by simp
 rw[hsz]at hmk ho1
 have hmk':(Instr.makeSlice 24 (.int .i64 0) (.int .i64 32)).run Tryz.prog (w.alloc (.cells #[wV n 0,wV n 1,wV n 2,wV n 3] 102))=.ok (.slice (some ⟨w.heap.size+1,0,none⟩) 0 32) w1:=hmk
 clear hmk
 have abR:=aj (au (ah w none) _) hg1
 have hbx:=(aF.new w [wV n 0,wV n 1,wV n 2,wV n 3] 102).grown hg1 (by simp)
 have HO:=Lib.hid (And.intro ho1 abR);clear ho1 abR hg1 hi hz hs hb hc hsz
 have hidx:∀j:Nat,j<4->∀w,(Instr.index 102 (.agg #[wV n 0,wV n 1,wV n 2,wV n 3]) (.int .i64 j)).run Tryz.prog w=.ok (.int .u64 (Sc.bC n j:Int)) w:=by
  intro j hj w
  obtain rfl|rfl|rfl|rfl:j=0\/j=1\/j=2\/j=3:=by omega
  all_goals kernel_rfl
 unfold wV jB at hmk' hidx hbx
 have c0:=hbx.cell (i:=0) rfl
 have c1:=hbx.cell (i:=1) rfl
 have c2:=hbx.cell (i:=2) rfl
 have c3:=hbx.cell (i:=3) rfl
 have HIX:=Lib.hid hidx;clear hidx hbx
 unfold jG wV jB
 go_enter Tryz.func64,Tryz.ntmps64
 go_wp2
 go_loopw [3,8] (fun v i wr=>∃j m:Nat,j<=4/\m=8*j/\i=.int .i64 j/\v=.slice (some ⟨w.heap.size+1,0,none⟩) m 32/\wr.ownsRow w.heap.size 5 1 (.slice (some ⟨w.heap.size+1,0,none⟩) m 32) m ((jW n m).map dG)/\w.grownBy wr none) (fun _ i _=>4-(intOf i).toNat)
 case atStart=>exact⟨0,0,by omega,rfl,rfl,rfl,HO.out.1,HO.out.2⟩
 case round=>
  obtain⟨j,m,hj,hm,rfl,rfl,hown,hg⟩:=hrel
  by_cases hlt:j<4
  .have hix:=HIX.out j hlt
   have HI:=Lib.hid (And.intro hown (And.intro hg hm));clear hown hg hm
   obtain⟨y,hy⟩:∃y,y=Sc.bC n j:=⟨_,rfl⟩
   have hyl:y<18446744073709551616:=by rw[hy];exact Sc.iF n j
   rw[<- hy]at hix
   have HY:=Lib.hid hy;clear hy
   have i0:(j:Int)<4:=by omega
   go_wp2
   go_loopw [3,5,11] (fun v y i wr=>∃k m' x:Nat,k<=8/\m'=8*j+k/\x=Sc.bC n j/2^(8*k)/\i=.int .i64 k/\y=.int .u64 x/\v=.slice (some ⟨w.heap.size+1,0,none⟩) m' 32/\wr.ownsRow w.heap.size 5 1 (.slice (some ⟨w.heap.size+1,0,none⟩) m' 32) m' ((jW n m').map dG)/\w.grownBy wr none) (fun _ _ i _=>8-(intOf i).toNat)
   case atStart=>exact⟨0,m,y,by omega,by rw[HI.out.2.2];rfl,by rw[HY.out];simp,rfl,rfl,rfl,HI.out.1,HI.out.2.1⟩
   case round=>
    clear HI hix HY hyl
    obtain⟨k,m',x,hk,hm',hx,rfl,rfl,rfl,hown,hg⟩:=hrel
    by_cases hkl:k<8
    .obtain⟨b,hb⟩:∃b,b=Sc.P8 n m':=⟨_,rfl⟩
     have hbl:b<256:=by rw[hb];exact Sc.Ry _ _
     have he:(x:Int)%256=(b:Int):=by
      have:=OQ n j k hkl
      rw[<- hm',<- hx,<- hb]at this
      omega
     have hxl:x<18446744073709551616:=by rw[hx];exact Nat.lt_of_le_of_lt (Nat.div_le_self _ _) (Sc.iF n j)
     obtain⟨w3,hap,ho3,hg3⟩:=xP wr w.heap.size (w.heap.size+1) m' 32 b _ hbl hown (by omega)
     have hg4:=aW hg hg3 (by omega)
     have hq:((jW n m').map dG)++[dG b]=(jW n (m'+1)).map dG:=by rw[Ib,hb,List.map_append];rfl
     rw[hq]at ho3
     have hx2:((x/256:Nat):Int)=(x:Int)/256:=by omega
     have hx3:x/256=Sc.bC n j/2^(8*(k+1)):=by
      rw[hx,Nat.div_div_eq_div_mul,show 8*(k+1)=8*k+8 by omega,Nat.pow_add]
     unfold dG at hap
     have HI:=Lib.hid (And.intro hap (And.intro ho3 (And.intro hg4 (And.intro hm' (And.intro hx2 hx3)))));clear hap ho3 hg4 hg3 hm' hx2 hx3 hx hb hown hg hq
     have i0:(k:Int)<8:=by omega
     go_wp2_with (at_builtin;refine wpList_append_run rfl (.tmp 13) (.tmp 16) 24 rfl rfl _ _ rfl rfl _ _ HI.out.1 ?_)
     go_roundw
     case rel=>exact⟨k+1,m'+1,x/256,by omega,by have:=HI.out.2.2.2.1;omega,HI.out.2.2.2.2.2,by go_num,by rw[HI.out.2.2.2.2.1],rfl,HI.out.2.1,HI.out.2.2.1⟩
     case measure=>simp[intOf];omega
    .obtain rfl:k=8:=by omega
     have HI:=Lib.hid (And.intro hown (And.intro hg hm'));clear hown hg hm' hx
     go_wp2
     go_roundw
     case rel=>exact⟨j+1,m',by omega,by have:=HI.out.2.2;omega,by go_num,rfl,HI.out.1,HI.out.2.1⟩
     case measure=>simp[intOf];omega
  .obtain rfl:j=4:=by omega
   obtain rfl:m=32:=by omega
   have HI:=Lib.hid (And.intro hown hg);clear hown hg hm
   go_wp2
   go_ret
   exact⟨_,rfl,HI.out.2,HI.out.1⟩
end
section
namespace Sc
theorem Sd (j:Nat):(2:Nat)^(64*(j+1))=2^(64*j)*18446744073709551616:=by rw[show 64*(j+1)=64*j+64 by omega,Nat.pow_add]
theorem MJ (n i j:Nat) (h:i<j):bC (n%2^(64*j)) i=bC n i:=by
 have e:(2:Nat)^(64*j)=2^(64*i)*(18446744073709551616*2^(64*(j-i-1))):=by
  rw[show (18446744073709551616:Nat)=2^64 by rfl,<- Nat.pow_add,<- Nat.pow_add];congr 1;omega
 unfold bC
 rw[e,Nat.mod_mul_right_div_self,Nat.mod_mul_right_mod]
theorem Ic (n i j:Nat):bC n (j+i)=bC (n/2^(64*j)) i:=by
 unfold bC
 rw[Nat.div_div_eq_div_mul,<- Nat.pow_add]
 congr 3;omega
theorem abS (M j v:Nat) (hv:v<18446744073709551616):∃M',bC M' j=v/\(∀i,i≠j->bC M' i=bC M i)/\M'+bC M j*2^(64*j)=M+v*2^(64*j):=by
 have hp:0<2^(64*j):=Nat.pow_pos (by decide)
 have e1:=Nat.div_add_mod M (2^(64*j))
 have hl:=Nat.mod_lt M hp
 refine⟨(M/2^(64*j)/18446744073709551616*18446744073709551616+v)*2^(64*j)+M%2^(64*j),?_,?_,?_⟩
 .unfold bC
  rw[Nat.mul_comm _ (2^(64*j)),Nat.mul_add_div hp,Nat.div_eq_of_lt hl]
  omega
 .intro i hi
  rcases Nat.lt_or_ge i j with h|h
  .rw[<- MJ _ i j h,<- MJ M i j h,Nat.mul_comm _ (2^(64*j)),Nat.mul_add_mod,Nat.mod_mod]
  .obtain⟨d,rfl⟩:∃d,i=(j+1)+d:=⟨i-(j+1),by omega⟩
   rw[Ic,Ic M,Sd,<- Nat.div_div_eq_div_mul,<- Nat.div_div_eq_div_mul,Nat.mul_comm _ (2^(64*j)),Nat.mul_add_div hp,Nat.div_eq_of_lt hl]
   congr 1;omega
 .have e2:bC M j=M/2^(64*j)%18446744073709551616:=rfl
  have e3:=Nat.div_add_mod (M/2^(64*j)) 18446744073709551616
  rw[e2]
  generalize M/2^(64*j)=q at *
  generalize M%2^(64*j)=r at *
  generalize 2^(64*j)=p at *
  have e4:(q/18446744073709551616*18446744073709551616+v)*p+q%18446744073709551616*p=(q+v)*p:=by rw[<- Nat.add_mul];congr 1;omega
  rw[Nat.add_mul q]at e4
  rw[Nat.mul_comm]at e1
  omega
theorem Ie (n k:Nat):n%2^(64*(k+1))=n%2^(64*k)+bC n k*2^(64*k):=by
 rw[Sd,Nat.mod_mul,Nat.mul_comm (2^(64*k))];rfl
theorem Za (M N x b i k o:Nat) (h:M+o*2^(64*(i+k))=N+x*(b%2^(64*k))*2^(64*i)):
  ∃M',bC M' (i+k)=(x*bC b k+bC M (i+k)+o)%18446744073709551616/\(∀j,j≠i+k->bC M' j=bC M j)/\
   M'+(x*bC b k+bC M (i+k)+o)/18446744073709551616*2^(64*(i+k+1))=N+x*(b%2^(64*(k+1)))*2^(64*i):=by
 obtain⟨M',h1,h2,h3⟩:=abS M (i+k) ((x*bC b k+bC M (i+k)+o)%18446744073709551616) (Nat.mod_lt _ (by decide))
 refine⟨M',h1,h2,?_⟩
 rw[Sd,Ie,Nat.mul_add x,Nat.add_mul]
 have e1:x*(bC b k*2^(64*k))*2^(64*i)=x*bC b k*2^(64*(i+k)):=by
  rw[show 64*(i+k)=64*k+64*i by omega,Nat.pow_add];simp[Nat.mul_assoc]
 rw[e1,<- Nat.add_assoc,<- h]
 generalize x*bC b k=y at *
 generalize 2^(64*(i+k))=p at *
 generalize bC M (i+k)=m at *
 have e2:=Nat.div_add_mod (y+m+o) 18446744073709551616
 have e3:(18446744073709551616*((y+m+o)/18446744073709551616)+(y+m+o)%18446744073709551616)*p=(y+m+o)*p:=by rw[e2]
 rw[Nat.add_mul,Nat.add_mul,Nat.add_mul]at e3
 have e4:(y+m+o)/18446744073709551616*(p*18446744073709551616)=18446744073709551616*((y+m+o)/18446744073709551616)*p:=by
  rw[Nat.mul_comm p,<- Nat.mul_assoc,Nat.mul_comm 18446744073709551616]
 rw[e4]
 omega
def part (a b c i:Nat):Nat:=c+a%2^(64*i)*b
theorem MK (a b c i:Nat) (hb:b<2^256) (hc:c<2^256):part a b c i<2^(64*(i+4)):=by
 have e:(2:Nat)^(64*(i+4))=2^(64*i)*2^256:=by rw[<- Nat.pow_add];congr 1
 have hp:0<2^(64*i):=Nat.pow_pos (by decide)
 have h1:=Nat.mod_lt a hp
 unfold part
 rw[e]
 have h2:=Nat.mul_le_mul (show a%2^(64*i)<=2^(64*i)-1 by omega) (show b<=2^256-1 by omega)
 have h3:(2^(64*i)-1)*(2^256-1)+(2^256-1)=2^(64*i)*(2^256-1):=by
  obtain⟨p,hp2⟩:∃p,2^(64*i)=p+1:=⟨2^(64*i)-1,by omega⟩
  rw[hp2,Nat.add_sub_cancel,Nat.add_mul,Nat.one_mul]
 have h4:2^(64*i)*(2^256-1)<2^(64*i)*2^256:=Nat.mul_lt_mul_of_pos_left (by decide) hp
 omega
theorem Sg (a b c i j:Nat) (hb:b<2^256) (hc:c<2^256) (hj:i+4<=j):bC (part a b c i) j=0:=by
 have h:=MK a b c i hb hc
 have h2:(2:Nat)^(64*(i+4))<=2^(64*j):=Nat.pow_le_pow_right (by decide) (by omega)
 unfold bC
 rw[Nat.div_eq_of_lt (by omega)]
theorem OT (a b c i:Nat):part a b c (i+1)=part a b c i+bC a i*b*2^(64*i):=by
 unfold part
 rw[Ie,Nat.add_mul,Nat.mul_assoc (bC a i),Nat.mul_assoc (bC a i),Nat.mul_comm b,Nat.add_assoc]
theorem Ig (a b c:Nat) (ha:a<2^256):part a b c 4=a*b+c:=by
 unfold part
 rw[Nat.mod_eq_of_lt ha,Nat.add_comm]
theorem VI (M N x b i o:Nat) (hb:b<2^256) (h:M+o*2^(64*(i+4))=N+x*(b%2^(64*4))*2^(64*i)) (hz:bC M (i+4)=0) (ho:o<18446744073709551616):
  ∃M',bC M' (i+4)=o/\(∀j,j≠i+4->bC M' j=bC M j)/\M'=N+x*b*2^(64*i):=by
 obtain⟨M',h1,h2,h3⟩:=abS M (i+4) o ho
 refine⟨M',h1,h2,?_⟩
 rw[hz,Nat.zero_mul,Nat.add_zero,h,Nat.mod_eq_of_lt hb]at h3
 exact h3
theorem VJ (x y m o:Nat) (hx:x<18446744073709551616) (hy:y<18446744073709551616) (hm:m<18446744073709551616) (ho:o<18446744073709551616):(x*y+m+o)/18446744073709551616<18446744073709551616:=by
 have h:=Nat.mul_le_mul (show x<=18446744073709551615 by omega) (show y<=18446744073709551615 by omega)
 omega
end Sc
end
section
open Go.RowKit Ow
theorem Si:(Tryz.prog.info? 64).map (·.size)=some 1:=by kernel_rfl
theorem KG (R C c:Nat) (T S:TypeId) (tl:List Value) (w:World) (hR:aF w R T (uh 0 8++tl)) (hC:aF w C S [wV c 0,wV c 1,wV c 2,wV c 3]) (hc:c<2^256):
  ∃w',(Builtin.copy_ #[127,127] 3 #[.slice (some ⟨R,0,none⟩) 8 8,.slice (some ⟨C,0,none⟩) 4 4]).run Tryz.prog w=.ok (.int .i64 4) w'/\w.grownBy w' (some R)/\aF w' R T (uh c 8++tl):=by
 have h:=run_copy_row (P:=Tryz.prog) w 127 127 3 64 R 0 8 8 ⟨C,0,none⟩ 4 4 (uh 0 8++tl).toArray T [wV c 0,wV c 1,wV c 2,wV c 3] Tryz.underlying127 Si hR rfl
  (fun j v hv=>by
   have hj:j<4:=by
    rcases Nat.lt_or_ge j 4 with h|h
    .exact h
    .rw[List.getElem?_eq_none (by simpa using h)]at hv;cases hv
   have hadd:(⟨C,0,none⟩:Addr).add j=⟨C,j,none⟩:=by unfold Addr.add;split<;>simp_all
   rw[hadd];exact hC.cell hv) (by simp[uh];omega) (by intro v hv;simp at hv;rcases hv with rfl|rfl|rfl|rfl<;>rfl)
 refine⟨_,h,uZ (ah _ _) _,?_⟩
 have e:((uh 0 8++tl).toArray.toList.take 0++([wV c 0,wV c 1,wV c 2,wV c 3]++(uh 0 8++tl).toArray.toList.drop (0+4)))=uh c 8++tl:=by
  have z:∀j,4<=j->wV c j=wV 0 j:=fun j hj=>by
   have hp:(2:Nat)^256<=2^(64*j):=Nat.pow_le_pow_right (by decide) (by omega)
   unfold wV Sc.bC
   rw[Nat.div_eq_of_lt (by omega),Nat.zero_div]
  rw[YH,YH,z 4 (by decide),z 5 (by decide),z 6 (by decide),z 7 (by decide)]
  rfl
 rw[<- e]
 exact hR.row _
theorem wU (n j:Nat) (hj:j<4):∀w,(Instr.index 102 (.agg #[.int .u64 (Sc.bC n 0:Int),.int .u64 (Sc.bC n 1:Int),.int .u64 (Sc.bC n 2:Int),.int .u64 (Sc.bC n 3:Int)]) (.int .i64 j)).run Tryz.prog w=.ok (.int .u64 (Sc.bC n j:Int)) w:=by
 intro w
 obtain rfl|rfl|rfl|rfl:j=0\/j=1\/j=2\/j=3:=by omega
 all_goals kernel_rfl
set_option maxRecDepth 100000 in
set_option maxHeartbeats 1600000 in
theorem KH (R a b c:Nat) (T:TypeId) (Y tl:List Value) (w:World) (hY:Y.length=8) (ha:a<2^256) (hbb:b<2^256) (hc:c<2^256) (hb:aF w R T (Y++tl)):
  Calls Tryz.prog 61 #[.pointer (some ⟨R,0,none⟩),jG a,jG b,jG c] w fun e w'=>e=.returned (.tuple #[])/\w.grownBy w' (some R)/\aF w' R T (uh (a*b+c) 8++tl):=by
 have HB:=Lib.hid hb;clear hb
 match Y,hY with
 | [y0,y1,y2,y3,y4,y5,y6,y7],_=>
  have hR:=HB.out.lt
  have hb3:=((HB.out.alloc (.cells #[wV a 0,wV a 1,wV a 2,wV a 3] 102)).alloc (.cells #[wV b 0,wV b 1,wV b 2,wV b 3] 102)).alloc (.cells #[wV c 0,wV c 1,wV c 2,wV c 3] 102)
  unfold wV jB at hb3
  have c0:=hb3.cell (i:=0) rfl
  have c1:=hb3.cell (i:=1) rfl
  have c2:=hb3.cell (i:=2) rfl
  have c3:=hb3.cell (i:=3) rfl
  have c4:=hb3.cell (i:=4) rfl
  have c5:=hb3.cell (i:=5) rfl
  have c6:=hb3.cell (i:=6) rfl
  have c7:=hb3.cell (i:=7) rfl
  have f0:=hb3.free 0
  have f1:=hb3.free 1
  have f2:=hb3.free 2
  have f3:=hb3.free 3
  have f4:=hb3.free 4
  have f5:=hb3.free 5
  have f6:=hb3.free 6
  have f7:=hb3.free 7
  have HB3:=Lib.hid hb3;clear hb3
  unfold jG wV jB
  go_enter Tryz.func61,Tryz.ntmps61
  go_wp2
  have hA:=(((aF.new w [wV a 0,wV a 1,wV a 2,wV a 3] 102).alloc (.cells #[wV b 0,wV b 1,wV b 2,wV b 3] 102)).alloc (.cells #[wV c 0,wV c 1,wV c 2,wV c 3] 102))
  have hBB:=((kJ (w.alloc (.cells #[wV a 0,wV a 1,wV a 2,wV a 3] 102)) (B:=w.heap.size+1) [wV b 0,wV b 1,wV b 2,wV b 3] 102 (by simp)).alloc (.cells #[wV c 0,wV c 1,wV c 2,wV c 3] 102))
  have hC:=(kJ ((w.alloc (.cells #[wV a 0,wV a 1,wV a 2,wV a 3] 102)).alloc (.cells #[wV b 0,wV b 1,wV b 2,wV b 3] 102)) (B:=w.heap.size+1+1) [wV c 0,wV c 1,wV c 2,wV c 3] 102 (by simp))
  have hg3:=au (au (au (ah w (some R)) (.cells #[wV a 0,wV a 1,wV a 2,wV a 3] 102)) (.cells #[wV b 0,wV b 1,wV b 2,wV b 3] 102)) (.cells #[wV c 0,wV c 1,wV c 2,wV c 3] 102)
  unfold wV jB at hA hBB hC hg3
  have agD:=HB3.out
  clear c0 c1 c2 c3 c4 c5 c6 c7 f0 f1 f2 f3 f4 f5 f6 f7 HB3 HB
  revert hA hBB hC hg3 agD
  have hs0:w.heap.size+3<=(((w.alloc (.cells #[.int .u64 (Sc.bC a 0:Int),.int .u64 (Sc.bC a 1:Int),.int .u64 (Sc.bC a 2:Int),.int .u64 (Sc.bC a 3:Int)] 102)).alloc (.cells #[.int .u64 (Sc.bC b 0:Int),.int .u64 (Sc.bC b 1:Int),.int .u64 (Sc.bC b 2:Int),.int .u64 (Sc.bC b 3:Int)] 102)).alloc (.cells #[.int .u64 (Sc.bC c 0:Int),.int .u64 (Sc.bC c 1:Int),.int .u64 (Sc.bC c 2:Int),.int .u64 (Sc.bC c 3:Int)] 102)).heap.size:=by simp
  revert hs0
  generalize ((w.alloc (.cells #[.int .u64 (Sc.bC a 0:Int),.int .u64 (Sc.bC a 1:Int),.int .u64 (Sc.bC a 2:Int),.int .u64 (Sc.bC a 3:Int)] 102)).alloc (.cells #[.int .u64 (Sc.bC b 0:Int),.int .u64 (Sc.bC b 1:Int),.int .u64 (Sc.bC b 2:Int),.int .u64 (Sc.bC b 3:Int)] 102)).alloc (.cells #[.int .u64 (Sc.bC c 0:Int),.int .u64 (Sc.bC c 1:Int),.int .u64 (Sc.bC c 2:Int),.int .u64 (Sc.bC c 3:Int)] 102)=W3
  intro hs0 hA hBB hC hg3 LP
  have JR:=(((((((LP.set 0 (wV 0 0)).set 1 (wV 0 1)).set 2 (wV 0 2)).set 3 (wV 0 3)).set 4 (wV 0 4)).set 5 (wV 0 5)).set 6 (wV 0 6)).set 7 (wV 0 7)
  have hG4:=aQ (aQ (aQ (aQ (aQ (aQ (aQ (aQ hg3 0 (wV 0 0)) 1 (wV 0 1)) 2 (wV 0 2)) 3 (wV 0 3)) 4 (wV 0 4)) 5 (wV 0 5)) 6 (wV 0 6)) 7 (wV 0 7)
  have hgA:=aQ (aQ (aQ (aQ (aQ (aQ (aQ (aQ (ah W3 (some R)) 0 (wV 0 0)) 1 (wV 0 1)) 2 (wV 0 2)) 3 (wV 0 3)) 4 (wV 0 4)) 5 (wV 0 5)) 6 (wV 0 6)) 7 (wV 0 7)
  have Jw:aF _ R T (uh 0 8++tl):=JR
  have UW:=hA.grown hgA (bI (by omega))
  have hB4:=hBB.grown hgA (bI (by omega))
  have hC4:=hC.grown hgA (bI (by omega))
  simp only[Ux]at Jw hG4 UW hB4 hC4
  clear JR hgA hA hBB hC hg3 LP hs0
  revert Jw hG4 UW hB4 hC4
  generalize (((((((W3.setCell ⟨R,0,none⟩ (.int .u64 0)).setCell ⟨R,1,none⟩ (.int .u64 0)).setCell ⟨R,2,none⟩ (.int .u64 0)).setCell ⟨R,3,none⟩ (.int .u64 0)).setCell ⟨R,4,none⟩ (.int .u64 0)).setCell ⟨R,5,none⟩ (.int .u64 0)).setCell ⟨R,6,none⟩ (.int .u64 0)).setCell ⟨R,7,none⟩ (.int .u64 0)=W4
  intro Jw hG4 UW hB4 hC4
  obtain⟨w5,hcp,hg5,hb5⟩:=KG R (w.heap.size+1+1) c T _ tl W4.drew Jw.drew hC4.drew hc
  have hGG:=Lib.hid (aj (aX hG4) hg5)
  have HA:=Lib.hid (UW.drew.grown hg5 (bI (by omega)))
  have VK:=Lib.hid (hB4.drew.grown hg5 (bI (by omega)))
  have HR:=Lib.hid hb5
  clear hb5 hg5 Jw hG4 UW hB4 hC4
  have hcA:=HA.out
  have a0:=hcA.cell (i:=0) rfl
  have a1:=hcA.cell (i:=1) rfl
  have a2:=hcA.cell (i:=2) rfl
  have a3:=hcA.cell (i:=3) rfl
  clear hcA
  go_region
  all_goals go_wp2
  have hz:Sc.part a b c 0=c:=by unfold Sc.part;rw[Nat.mul_zero,Nat.pow_zero,Nat.mod_one,Nat.zero_mul,Nat.add_zero]
  have KI:Hid (aF w5 R T (uh (Sc.part a b c 0) 8++tl)):=by rw[hz];exact HR
  clear hz a0 a1 a2 a3
  go_loopw [22] (fun t wr=>∃i:Nat,i<=4/\t=.int .i64 i/\w.grownBy wr (some R)/\aF wr R T (uh (Sc.part a b c i) 8++tl)/\aF wr (w.heap.size+1) 102 [.int .u64 (Sc.bC b 0:Int),.int .u64 (Sc.bC b 1:Int),.int .u64 (Sc.bC b 2:Int),.int .u64 (Sc.bC b 3:Int)]) (fun t _=>4-(intOf t).toNat)
  case atStart=>exact⟨0,by omega,rfl,hGG.out,KI.out,VK.out⟩
  case round=>
   clear hGG KI VK HR HA hcp
   obtain⟨i,hi,rfl,hg,hbR,Qa⟩:=hrel
   by_cases hlt:i<4
   .have hix:=wU a i hlt
    have b0:=Qa.cell (i:=0) rfl
    have b1:=Qa.cell (i:=1) rfl
    have b2:=Qa.cell (i:=2) rfl
    have b3:=Qa.cell (i:=3) rfl
    have HG:=Lib.hid hg;clear hg
    have HR:=Lib.hid hbR;clear hbR
    have VK:=Lib.hid Qa;clear Qa
    obtain⟨x,hx⟩:∃x,x=Sc.bC a i:=⟨_,rfl⟩
    have hxl:x<18446744073709551616:=by rw[hx];exact Sc.iF a i
    rw[<- hx]at hix
    have HX:=Lib.hid hx;clear hx
    have i0:(i:Int)<4:=by omega
    go_wp2
    clear b0 b1 b2 b3
    go_loopw [10,27] (fun ot kt wr=>∃k o M:Nat,k<=4/\o<18446744073709551616/\ot=.int .u64 o/\kt=.int .i64 k/\M+o*2^(64*(i+k))=Sc.part a b c i+x*(b%2^(64*k))*2^(64*i)/\(∀j,i+4<=j->Sc.bC M j=Sc.bC (Sc.part a b c i) j)/\w.grownBy wr (some R)/\aF wr R T (uh M 8++tl)/\aF wr (w.heap.size+1) 102 [.int .u64 (Sc.bC b 0:Int),.int .u64 (Sc.bC b 1:Int),.int .u64 (Sc.bC b 2:Int),.int .u64 (Sc.bC b 3:Int)]) (fun _ kt _=>4-(intOf kt).toNat)
    case atStart=>exact⟨0,0,Sc.part a b c i,by omega,by decide,rfl,rfl,by simp[Nat.mod_one],fun _ _=>rfl,HG.out,HR.out,VK.out⟩
    case round=>
     clear HG HR VK hix
     obtain⟨k,o,M,hk,hol,rfl,rfl,hM,hT,hg,hbR,Qa⟩:=hrel
     by_cases hkl:k<4
     .have hix:=wU b k hkl
      obtain⟨j,hj⟩:∃j,j=i+k:=⟨_,rfl⟩
      have hji:(i:Int)+(k:Int)=(j:Int):=by omega
      have j7:j<8:=by omega
      obtain⟨M',m1,m2,m3⟩:=Sc.Za M _ x b i k o hM
      rw[<- hj]at m1 m2 m3
      have abV:=Sc.VJ x (Sc.bC b k) (Sc.bC M j) o hxl (Sc.iF _ _) (Sc.iF _ _) hol
      have hset:=Ez M M' 8 j j7 tl _ m1 m2
      have r0:=hbR.cell (uj M 8 j j7 tl)
      have f0:=hbR.free j
      have hmw:=fun W=>MF x (Sc.bC b k) (Sc.bC M j) o W hxl (Sc.iF _ _) (Sc.iF _ _) hol
      have hT2:∀j',i+4<=j'->Sc.bC M' j'=Sc.bC (Sc.part a b c i) j':=fun j' hj'=>by rw[m2 j' (by omega)];exact hT j' hj'
      have m4:M'+(x*Sc.bC b k+Sc.bC M j+o)/18446744073709551616*2^(64*(i+(k+1)))=Sc.part a b c i+x*(b%2^(64*(k+1)))*2^(64*i):=by
       have e:i+(k+1)=j+1:=by omega
       rw[e];exact m3
      have HS:=Lib.hid (And.intro hset (And.intro m4 (And.intro hT2 abV)));clear hset m1 m2 m3 m4 hT hT2 hM abV
      have HMW:=Lib.hid hmw;clear hmw
      have HG:=Lib.hid hg;clear hg
      have HR:=Lib.hid hbR;clear hbR
      have VK:=Lib.hid Qa;clear Qa
      have HJ:=Lib.hid hj;clear hj
      unfold wV jB at r0
      generalize (x*Sc.bC b k+Sc.bC M j+o)/18446744073709551616=o' at *
      generalize (x*Sc.bC b k+Sc.bC M j+o)%18446744073709551616=v' at *
      have k0:(k:Int)<4:=by omega
      go_wp2
      have hwr:IntKind.i64.wrap ((i:Int)+(k:Int))=(j:Int):=by rw[hji];exact IntWalk.i64_in _ (by omega)
      clear hji
      go_region_with (go_at_call 84;refine (HMW.out _).mono ?_;rintro e w' ⟨rfl,rfl⟩)
      clear hwr
      all_goals go_wp2
      go_roundw
      case rel=>
       refine⟨k+1,o',M',by omega,HS.out.2.2.2,rfl,by go_num,HS.out.2.1,HS.out.2.2.1,aX (aQ HG.out _ _),?_,(VK.out.other (by show ¬R=w.heap.size+1;omega) _).drew⟩
       have h:=HR.out.set j (jB v')
       rw[HS.out.1]at h
       exact h.drew
      case measure=>simp[intOf];omega
     .obtain rfl:k=4:=by omega
      have X6:Sc.bC M (i+4)=0:=by rw[hT (i+4) (by omega)];exact Sc.Sg a b c i (i+4) hbb hc (by omega)
      obtain⟨M',m1,m2,m3⟩:=Sc.VI M _ x b i o hbb hM X6 hol
      have m4:M'=Sc.part a b c (i+1):=by rw[m3,Sc.OT,HX.out]
      subst m4
      obtain⟨j,hj⟩:∃j,j=i+4:=⟨_,rfl⟩
      have hji:(i:Int)+4=(j:Int):=by omega
      have j7:j<8:=by omega
      rw[<- hj]at m1 m2
      have hset:=Ez M (Sc.part a b c (i+1)) 8 j j7 tl _ m1 m2
      have r0:=hbR.cell (uj M 8 j j7 tl)
      have f0:=hbR.free j
      have HS:=Lib.hid hset;clear hset m1 m2 m3 hT hM X6
      have HG:=Lib.hid hg;clear hg
      have HR:=Lib.hid hbR;clear hbR
      have VK:=Lib.hid Qa;clear Qa
      have HJ:=Lib.hid hj;clear hj
      unfold wV jB at r0
      go_wp2
      go_roundw
      case rel=>
       refine⟨i+1,by omega,by go_num,aQ HG.out _ _,?_,VK.out.other (by show ¬R=w.heap.size+1;omega) _⟩
       have h:=HR.out.set j (jB o)
       rw[HS.out]at h
       exact h
      case measure=>simp[intOf];omega
   .obtain rfl:i=4:=by omega
    rw[Sc.Ig a b c ha]at hbR
    have HG:=Lib.hid hg;clear hg
    have HR:=Lib.hid hbR;clear hbR Qa
    go_wp2
    go_end0
    exact⟨rfl,HG.out,HR.out⟩
end
section
open Go.RowKit Ow
theorem ED {w:World} {base e n g:Nat} {xs:List Value} (h:w.ownsRow base e 1 (.slice (some ⟨g,0,none⟩) n n) n xs):aF w g e xs/\base<=g:=by
 rcases h.2 with⟨h0,_⟩ |⟨g',cap,cur,e1,hb,hg,_,_,hs,ht⟩
 .cases h0
 .cases e1
  refine⟨?_,hb⟩
  have:cur.toList=xs:=by rw[<- ht,List.take_of_length_le];rw[Array.length_toList];omega
  unfold aF
  rw[hg,<- this,Array.toArray_toList]
def OU (l:List Nat) (w:World) (e:Ending) (w':World):Prop:=∃g,e=.returned (.slice (some ⟨g,0,none⟩) l.length l.length)/\w.grownBy w' none/\w.heap.size<=g/\aF w' g 5 (l.map dG)
def Bo (n:Nat):List Nat:=jW (n%Sc.L) 32
theorem fJ (n:Nat):(Bo n).length=32:=pO _ _
theorem Bq (n i:Nat):(Bo n).getD i 0<256:=OP _ _ _
theorem zN (n:Nat):num (Bo n)=n%Sc.L:=by
 unfold Bo
 rw[KF]
 exact Nat.mod_eq_of_lt (Sc.Xq _ (Sc.mod_lt n))
theorem Br (l:List Nat) (hl:∀i,l.getD i 0<256):num l<2^(8*l.length):=Sc.A8 _ hl _
theorem ML (n j k:Nat) (h:n<2^j) (hk:j<=k):n/2^k=0:=Nat.div_eq_of_lt (Nat.lt_of_lt_of_le h (Nat.pow_le_pow_right (by decide) hk))
theorem MN (l:List Nat) (hl:∀i,l.getD i 0<256) (h:l.length<=64):num l/2^(64*8)=0:=by
 have h2:=ML (num l) (8*l.length) (64*8) (Br l hl) (by omega)
 exact h2
theorem zO (l:List Nat) (hl:∀i,l.getD i 0<256) (h:l.length<=32):num l<2^256:=
 Nat.lt_of_lt_of_le (Br l hl) (Nat.pow_le_pow_right (by decide) (by omega))
def nC:List Value:=[.int .u64 0,.int .u64 0,.int .u64 0,.int .u64 0,.int .u64 0,.int .u64 0,.int .u64 0,.int .u64 0,.int .u64 0,.int .u64 0,.int .u64 0,.int .u64 0]
theorem Sj {n:Nat} {w w1 w2:World} {g:Nat} (hg:w.grownBy w1 none) (hg2:w1.grownBy w2 none) (ho:w2.ownsRow w1.heap.size 5 1 (.slice (some ⟨g,0,none⟩) 32 32) 32 ((jW n 32).map dG)):
  ∀m,n=m%Sc.L->OU (Bo m) w (.returned (.slice (some ⟨g,0,none⟩) 32 32)) w2:=by
 rintro m rfl
 obtain⟨hb,hge⟩:=ED ho
 exact⟨g,by rw[fJ],aj hg hg2,Nat.le_trans hg.size hge,hb⟩
end
section
open Go.RowKit Ow Go.Shelf
attribute [local go_sem] Oper.semAt_some
def mY (f:Nat->Nat) (j:Nat):Bool:=decide (f (j/8)/2^(j%8)%2=1)
def jd (f:Nat->Nat) (k:Nat):List Bool:=(List.range k).map (mY f)
theorem Ih (f:Nat->Nat) (k:Nat):jd f (k+1)=jd f k++[mY f k]:=by simp[jd,List.range_succ]
theorem lV (f:Nat->Nat) (k:Nat):(jd f k).length=k:=by simp[jd]
theorem Zb (x j:Nat) (hx:x<256):(bits .and .u8 ((x:Int)/2^j) 1==1)=decide (x/2^j%2=1):=by
 have all:∀j:Fin 256,(bits .and .u8 (j.val:Int) 1==1)=decide (j.val%2=1):=by decide +kernel
 have hl:x/2^j<256:=Nat.lt_of_le_of_lt (Nat.div_le_self _ _) hx
 have e:(x:Int)/2^j=((x/2^j:Nat):Int):=by rw[Int.natCast_ediv,Int.natCast_pow];rfl
 rw[e]
 exact all ⟨x/2^j,hl⟩
def sZ (pb po Bs:Nat) (W W':World):Prop:=(∀j,j<32->W'.cell? ⟨pb,po+j,none⟩=W.cell? ⟨pb,po+j,none⟩)/\W'.cell? ⟨Bs,0,none⟩=W.cell? ⟨Bs,0,none⟩
theorem Ii {pb po Bs:Nat} {A B C:World} (h:sZ pb po Bs A B) (k:sZ pb po Bs B C):sZ pb po Bs A C:=⟨fun j hj=>(k.1 j hj).trans (h.1 j hj),k.2.trans h.2⟩
theorem Sk {pb po Bs n:Nat} (hR:pb<n) (hB:Bs<n) (W:World) (l:Nat) (o o':Obj) (hl:n<=l) (h:W.heap[l]?=some o):sZ pb po Bs W (W.putObj l o'):=by
 have hlt:l<W.heap.size:=(Array.getElem?_eq_some_iff.1 h).1
 exact⟨fun j _=>aZ (grownBy_putObj' W l o') (p:=⟨pb,po+j,none⟩) (show pb<_ by omega) (bI (by show pb≠l;omega)),aZ (grownBy_putObj' W l o') (p:=⟨Bs,0,none⟩) (show Bs<_ by omega) (bI (by show Bs≠l;omega))⟩
set_option maxHeartbeats 1000000 in
theorem KJ (F:Fence) (n:Nat) (hf:F.fn 104) (hro:F.round=none) (a:Option Addr) (len cap:Nat) (w:World):
  CallsIn F n Tryz.prog 104 #[.slice a len cap] w fun e w'=>e=.returned (.func (.func 133) #[] #[.pointer (some ⟨w.heap.size,0,none⟩)])/\w'=w.alloc (.cells #[.slice a len cap] 24):=by
 refine callsIn_of_wp Tryz.func104 rfl hf ?_ hro
 simp only[Tryz.ntmps104,List.size_toArray,List.length_cons,List.length_nil,Nat.reduceAdd,Nat.reduceSub,Array.replicate_succ,Array.replicate_zero,List.push_toArray,List.append_toArray,List.nil_append,List.cons_append]
 gi_wp2
 go_ret
 exact⟨rfl,rfl⟩
set_option maxRecDepth 100000 in
set_option maxHeartbeats 2000000 in
theorem Ij (F:Fence) (n:Nat) (hf:F.fn 133) (hro:F.round=none) (hn:1<=n) (l Bs pb po cap:Nat) (f:Nat->Nat) (hfb:∀i,f i<256) (J Jx:List Bool->World->Prop)
  (hY:∀pre x W,J pre W->pre.length<256->YieldAt F (n-1) Tryz.prog l #[.bool x] W fun e W'=>
   (e=.returned (.bool true)/\J (pre++[x]) W'/\sZ pb po Bs W W')\/(e=.returned (.bool false)/\Jx (pre++[x]) W'))
  (W:World) (zq:W.cell? ⟨Bs,0,none⟩=some (.slice (some ⟨pb,po,none⟩) 32 cap)) (hc:∀j,j<32->W.cell? ⟨pb,po+j,none⟩=some (.int .u8 (f j:Int))) (h0:J [] W):
  CallsIn F n Tryz.prog 133 #[.func (.yield l) #[] #[],.pointer (some ⟨Bs,0,none⟩)] W fun e W'=>(∃v,e=.returned v)/\
   ((∃ys,ys=jd f 256/\J ys W')\/(∃pre,True/\Jx pre W')):=by
 have HC:=Lib.hid hc;clear hc
 have HF:=Lib.hid hfb;clear hfb
 refine callsIn_of_wp Tryz.func133 rfl hf ?_ hro
 simp only[Tryz.ntmps133,List.size_toArray,List.length_cons,List.length_nil,Nat.reduceAdd,Nat.reduceSub,Array.replicate_succ,Array.replicate_zero,List.push_toArray,List.append_toArray,List.nil_append,List.cons_append]
 gi_wp2
 clear zq
 gi_loopw [8] (fun i wr=>∃k:Nat,k<=32/\i=.int .i64 k/\J (jd f (8*k)) wr/\sZ pb po Bs W wr) (fun i _=>32-(intOf i).toNat)
 case atStart=>exact⟨0,by omega,rfl,h0,⟨fun _ _=>rfl,rfl⟩⟩
 case round=>
  obtain⟨k,hk,rfl,hJs,hnx⟩:=hrel
  by_cases hkl:k<32
  .have hcx:wr.cell? ⟨pb,po+k,none⟩=some (.int .u8 (f k:Int)):=(hnx.1 k hkl).trans (HC.out k hkl)
   obtain⟨x,hx⟩:∃x,x=f k:=⟨_,rfl⟩
   have hxl:x<256:=by rw[hx];exact HF.out k
   rw[<- hx]at hcx
   have HX:=Lib.hid hx;clear hx
   have i0:(k:Int)<32:=by omega
   gi_wp2
   clear hcx
   gi_loopw [12] (fun t wr'=>∃j:Nat,j<=8/\t=.int .i64 j/\J (jd f (8*k+j)) wr'/\sZ pb po Bs W wr') (fun t _=>8-(intOf t).toNat)
   case atStart=>exact⟨0,by omega,rfl,hJs,hnx⟩
   case round=>
    clear hJs hnx
    obtain⟨j,hj,rfl,hJs,hnx⟩:=hrel
    by_cases hjl:j<8
    .obtain⟨fn,tmps,assign,body,hy,hR⟩:=hY _ (mY f (8*k+j)) wr hJs (by rw[lV];omega)
     have hb:mY f (8*k+j)=(bits .and .u8 ((x:Int)/2^j) 1==1):=by
      rw[Zb x j hxl,HX.out]
      unfold mY
      rw[show (8*k+j)/8=k by omega,show (8*k+j)%8=j by omega]
     rw[hb]at hy
     have HBI:=Lib.hid hb;clear hb
     gi_wp2
     refine hR.mono ?_
     rintro e W3 (⟨rfl,hJ3,hk3⟩ |⟨rfl,hJx3⟩)
     .rw[<- Ih]at hJ3
      gi_wp2
      go_roundw
      case rel=>exact⟨j+1,by omega,by go_num,hJ3,Ii hnx hk3⟩
      case measure=>simp[intOf];omega
     .gi_wp2
      refine bodyPost_ret (results_none rfl _ _ _) rfl ?_
      exact⟨⟨_,rfl⟩,.inr ⟨_,trivial,hJx3⟩⟩
    .obtain rfl:j=8:=by omega
     gi_wp2
     go_roundw
     case rel=>exact⟨k+1,by omega,by go_num,by rw[show 8*(k+1)=8*k+8 by omega];exact hJs,hnx⟩
     case measure=>simp[intOf];omega
  .obtain rfl:k=32:=by omega
   gi_wp2
   go_end0
   exact⟨⟨_,rfl⟩,.inl ⟨_,rfl,hJs⟩⟩
theorem CF (F:Fence) (n:Nat) (hf:F.fn 133) (hro:F.round=none) (hn:1<=n) (Bs pb po cap:Nat) (f:Nat->Nat) (hfb:∀i,f i<256) (w:World) (zq:Bs<w.heap.size) (hR:pb<w.heap.size)
  (hb:w.cell? ⟨Bs,0,none⟩=some (.slice (some ⟨pb,po,none⟩) 32 cap)) (hc:∀j,j<32->w.cell? ⟨pb,po+j,none⟩=some (.int .u8 (f j:Int))):
  SeqStopsK F n Tryz.prog 133 #[.pointer (some ⟨Bs,0,none⟩)] (fun x=>#[.bool x]) (sZ pb po Bs) (fun ys=>ys=jd f 256) (fun _=>True) 256 w:=fun l J Jx W hW _ _ hY h0=>
 Ij F n hf hro hn l Bs pb po cap f hfb J Jx hY W ((hW.cell (p:=⟨Bs,0,none⟩) zq).trans hb) (fun j hj=>(hW.cell (p:=⟨pb,po+j,none⟩) hR).trans (hc j hj)) h0
end
section
open Go.RowKit Ow
theorem uo (l:List Nat) (hl:l.length=32) (hb:∀i,l.getD i 0<256) (m:Nat) (hm:m<256):mY (fun i=>l.getD i 0) m=decide (num l/2^m%2=1):=by
 have h:=Sc.Vu (fun i=>l.getD i 0) hb 32 (m/8) (by omega)
 have hn:num l=Sc.uL (fun i=>l.getD i 0) 32:=by unfold num;rw[hl]
 unfold mY
 have e:(fun i=>l.getD i 0) (m/8)/2^(m%8)%2=num l/2^m%2:=by
  show l.getD (m/8) 0/2^(m%8)%2=_
  rw[<- h,<- hn]
  unfold Sc.P8
  have e1:(2:Nat)^m=2^(8*(m/8))*2^(m%8):=by rw[<- Nat.pow_add];congr 1;omega
  rw[e1,<- Nat.div_div_eq_div_mul]
  generalize num l/2^(8*(m/8))=x
  have e2:(256:Nat)=2^(m%8)*(2*2^(7-m%8)):=by
   rw[show (2:Nat)*2^(7-m%8)=2^(7-m%8+1) by rw[Nat.pow_succ,Nat.mul_comm],<- Nat.pow_add,show m%8+(7-m%8+1)=8 by omega]
  rw[e2,Nat.mod_mul_right_div_self,Nat.mod_mul_right_mod]
 rw[e]
end
section
open Go.RowKit Ow Ed
def sel (b:Bool) (p acc:Pr):Pr:=if b then Ed.add acc p else acc
theorem agE (p0 p1 p2 p3:Pr) (a b c d:Bool):(qN [p0,p1,p2,p3]).getD (8*d.toNat+4*c.toNat+2*b.toNat+a.toNat) zero=sel d p3 (sel c p2 (sel b p1 (sel a p0 zero))):=by
 cases a<;>cases b<;>cases c<;>cases d<;>rfl
theorem Bu (T:Nat) (p0 p1 p2 p3 acc:Pr) (b:Nat->Bool) (g:Nat) (h:yw b g<16) (ha:On acc):
  wT T (qN [p0,p1,p2,p3]) acc ⟨yw b g,h⟩=Ed.add (bq (2^T) acc) (sel (b (4*g+3)) p3 (sel (b (4*g+2)) p2 (sel (b (4*g+1)) p1 (sel (b (4*g)) p0 zero)))):=by
 unfold wT
 rw[<- agE]
 show (if yw b g=0 then _ else Ed.add _ ((qN [p0,p1,p2,p3]).getD (yw b g) zero))=Ed.add _ ((qN [p0,p1,p2,p3]).getD (yw b g) zero)
 by_cases h0:yw b g=0
 .rw[if_pos h0,h0]
  exact (add_zero (cK ha _)).symm
 .rw[if_neg h0]
theorem Bv {p:Pr} (hp:On p) (b:Bool) (k m:Nat):sel b (bq k p) (bq m p)=bq (m+k*b.toNat) p:=by
 cases b with
 | false=>rw[show m+k*false.toNat=m by simp];rfl
 | true=>rw[show m+k*true.toNat=m+k by simp,iD hp];rfl
theorem Ik {p:Pr} (hp:On p) (b:Bool):sel b p zero=bq b.toNat p:=by
 cases b with
 | false=>rfl
 | true=>show Ed.add zero p=bq 1 p;rw[wL hp,zero_add hp]
theorem agF {p:Pr} (hp:On p) (a b c d:Bool):sel d (bq 8 p) (sel c (bq 4 p) (sel b (bq 2 p) (sel a p zero)))=bq (8*d.toNat+4*c.toNat+2*b.toNat+a.toNat) p:=by
 rw[Ik hp,Bv hp,Bv hp,Bv hp]
 congr 1
 omega
theorem VL (n g:Nat):yw (fun j=>decide (n/2^j%2=1)) g=n/2^(4*g)%16:=by
 have hd:∀x:Nat,(decide (x%2=1)).toNat=x%2:=fun x=>by
  rcases Nat.mod_two_eq_zero_or_one x with h|h<;>rw[h]<;>rfl
 unfold yw
 simp only[hd,Nat.pow_add,<- Nat.div_div_eq_div_mul]
 generalize n/2^(4*g)=x
 omega
theorem VN (n G k:Nat) (hk:k<G):n/2^(4*(G-(k+1)))=16*(n/2^(4*(G-k)))+n/2^(4*(G-1-k))%16:=by
 rw[show G-(k+1)=G-1-k by omega,show 4*(G-k)=4*(G-1-k)+4 by omega,Nat.pow_add,<- Nat.div_div_eq_div_mul]
 generalize n/2^(4*(G-1-k))=x
 omega
theorem MO {p:Pr} (hp:On p) (n G:Nat) (hn:n<2^(4*G)):∀k,k<=G->
  rE 4 (qN [p,bq 2 p,bq 4 p,bq 8 p]) (gF (fun j=>decide (n/2^j%2=1)) G k)=bq (n/2^(4*(G-k))) p
 | 0,_=>by
  rw[Nat.sub_zero,Nat.div_eq_of_lt hn]
  rfl
 | k+1,hk=>by
  have ih:=MO hp n G hn k (by omega)
  rw[sW,qO,ih,Bu 4 _ _ _ _ _ _ _ _ (cK hp _),agF hp,VN n G k (by omega),iD hp (16*_),Nat.mul_comm 16,nY hp]
  have e:=VL n (G-1-k)
  unfold yw at e
  rw[e]
end
section
open Go.RowKit Ow Go.Shelf
attribute [local go_sem] Oper.semAt_some
theorem uq:∃i z,Tryz.prog.info? 4=some i/\i.zero=some z/\i.size=1/\i.bytes=1/\z.cells.size=1:=by
 have h:(Tryz.prog.info? 4).map (fun i=>(i.zero.map (·.cells.size),i.size,i.bytes))=some (some 1,1,1):=by kernel_rfl
 cases hi:Tryz.prog.info? 4 with
 | none=>rw[hi]at h;cases h
 | some i=>
  rw[hi]at h
  simp only[Option.map_some,Option.some.injEq,Prod.mk.injEq]at h
  cases hz:i.zero with
  | none=>rw[hz]at h;cases h.1
  | some z=>rw[hz]at h;exact⟨i,z,rfl,hz,h.2.1,h.2.2,by simpa using h.1⟩
theorem yx (w:World) (base g n0 c:Nat) (x:Bool) (xs:List Value) (hown:w.ownsRow base 4 1 (.slice (some ⟨g,0,none⟩) n0 c) n0 xs) (hroom:n0+1<=c):
  ∃w',(Builtin.append_ #[120,120] 120 #[.slice (some ⟨g,0,none⟩) n0 c,.slice (some ⟨w.heap.size,0,none⟩) 1 1]).run Tryz.prog (w.alloc (.cells #[.bool x] 4))=.ok (.slice (some ⟨g,0,none⟩) (n0+1) c) w'/\w'.ownsRow base 4 1 (.slice (some ⟨g,0,none⟩) (n0+1) c) (n0+1) (xs++[.bool x])/\w.grownBy w' (some g):=by
 obtain⟨i,z,hi,hz,hs,hb,hc⟩:=uq
 obtain⟨w',hr,ho,hg⟩:=run_append_fits (w.alloc (.cells #[.bool x] 4)) base 120 120 4 i 1 (P:=Tryz.prog) Tryz.underlying120 hi hs g n0 c xs (hown.alloc _) ⟨w.heap.size,0,none⟩ 1 1 [.bool x] rfl (fun j u hu=>by
   have hj:j=0:=by
    rcases Nat.eq_zero_or_pos j with h|h
    .exact h
    .rw[List.getElem?_eq_none (by simp;omega)]at hu;cases hu
   subst hj
   rw[show Value.bool x=u by simpa using hu]
   exact (aF.new w [u] 4).cell (i:=0) rfl) (fun u hu=>by rw[List.mem_singleton.1 hu];rfl) hroom
 exact⟨w',hr,ho,aj (au (ah _ _) _) hg⟩
theorem uM {F:Fence} {n:Nat} {P:Program} (w:World) {ops:Array Oper} {rest:List Oper} {o:Oper} {a:Act} {Q:Exit->Act->World->Prop}
  (hg:o.guard=none) (s x:Operand) (t:TypeId) (hop:o.op=Op.call {callee:=Callee.builtin Builtin.append,args:=#[s,x],argTypes:=#[t,t]}) (ht:o.type=t) (v y:Value) (hs:a.eval s=v) (hx:a.eval x=y) (v':Value) (w':World)
  (hrun:(Builtin.append_ #[t,t] t #[v,y]).run P w=.ok v' w') (hK:wpListIn F n P ops Q rest (a.put o.dst v') w'):wpListIn F n P ops Q (o:: rest) a w:=by
 refine wpListIn_plain hg fun K hK'=>?_
 rw[<- ht]at hrun
 unfold Oper.wpIn
 refine⟨?_,?_⟩
 .simp[Oper.about,hop,resolve,Target.leads,Sem.run_pure]
 .rw[Oper.semAt_plain F _ _ (by rw[hop];intro c hc';cases hc')]
  simp[execOp,hop,resolve,invoke,builtin,hs,hx,<- ht,hrun,Result.andThen]
  exact hK' _ _ hK
structure Zc (w:World) (pb po cap:Nat) (f:Nat->Nat) (pre:List Bool) (W:World):Prop where
 row:W.ownsRow w.heap.size 4 1 (.slice (some ⟨w.heap.size,0,none⟩) pre.length 256) pre.length (pre.map .bool)
 box:aF W (w.heap.size+1) 120 [.slice (some ⟨w.heap.size,0,none⟩) pre.length 256]
 grown:w.grownBy W none
 size:w.heap.size+3<=W.heap.size
theorem Sl (w:World) (pb po cap:Nat) (f:Nat->Nat) (n:Nat) (hn:w.heap.size<n):OwnFrom n (Zc w pb po cap f):=fun s A B row h hg hr=>
 ⟨h.row.kept hg (Or.inr (fun e=>by have:=(hr _ e.symm).1;simp at this;omega)),kR h.box hg hr,EB h.grown hg (fun r e=>by have:=(hr r e).1;omega),Nat.le_trans h.size hg.size⟩
def abW (l:List Bool) (w:World) (e:Ending) (w':World):Prop:=∃g,e=.returned (.slice (some ⟨g,0,none⟩) l.length l.length)/\w.grownBy w' none/\w.heap.size<=g/\aF w' g 4 (l.map .bool)
set_option maxRecDepth 100000 in
set_option maxHeartbeats 2000000 in
theorem VO (cap pb po:Nat) (f:Nat->Nat) (w:World) (hf:∀i,f i<256) (hpb:pb<w.heap.size) (hc:∀j,j<32->w.cell? ⟨pb,po+j,none⟩=some (.int .u8 (f j:Int))):
  Calls Tryz.prog 79 #[.slice (some ⟨pb,po,none⟩) 32 cap] w (abW (jd f 256) w):=by
 have HF:=Lib.hid hf;clear hf
 have HC:=Lib.hid hc;clear hc
 obtain⟨i,z,hi,hz,hs,hb,hcc⟩:=uq
 obtain⟨w1,hmk,ho1,hg1⟩:=run_make_own w w.heap.size 120 4 i z 1 (P:=Tryz.prog) Tryz.underlying120 hi hz hs .i64 .i64 256 (by rw[hb];omega) (by unfold maxLen;omega) (Nat.le_refl _)
 have hmk':(Instr.makeSlice 120 (.int .i64 0) (.int .i64 256)).run Tryz.prog w=.ok (.slice (some ⟨w.heap.size,0,none⟩) 0 256) w1:=hmk
 have hs1:w1.heap.size=w.heap.size+1:=by
  have h2:=run_make (P:=Tryz.prog) w 120 4 i z Tryz.underlying120 hi hz .i64 .i64 0 256 (by omega) (by omega) (by rw[hb];omega) (by omega)
  rw[hmk']at h2
  injection h2 with _ h3
  rw[h3];simp
 clear hmk hi hz hs hb hcc
 refine (callsIn_wide (n:=9)).1 ?_
 refine callsIn_of_wp_marks Tryz.func79 rfl trivial ?_ rfl
 simp only[Tryz.ntmps79,List.size_toArray,List.length_cons,List.length_nil,Nat.reduceAdd,Nat.reduceSub,Array.replicate_succ,Array.replicate_zero,List.push_toArray,List.append_toArray,List.nil_append,List.cons_append]
 gi_wp2_with fail
 refine⟨trivial,?_⟩
 have hX:=kJ w1 (B:=w.heap.size+1) [.slice (some ⟨w.heap.size,0,none⟩) 0 256] 120 hs1
 have ho2:=ho1.alloc (.cells #[.slice (some ⟨w.heap.size,0,none⟩) 0 256] 120)
 have hg2:=au hg1 (.cells #[.slice (some ⟨w.heap.size,0,none⟩) 0 256] 120)
 have hs2:(w1.alloc (.cells #[.slice (some ⟨w.heap.size,0,none⟩) 0 256] 120)).heap.size=w.heap.size+2:=by simp[hs1]
 clear ho1 hg1 hs1 hmk'
 revert hX ho2 hg2 hs2
 generalize w1.alloc (.cells #[.slice (some ⟨w.heap.size,0,none⟩) 0 256] 120)=w2
 intro hX ho2 hg2 hs2
 refine (KJ Fence.wide 8 trivial rfl _ _ _ _).mono ?_
 rintro e w3 ⟨rfl,hw3⟩
 have hI:Zc w pb po cap f [] w3:=by
  subst hw3
  exact⟨ho2.alloc _,hX.alloc _,au hg2 _,by simp[hs2]⟩
 have zq:aF w3 (w.heap.size+2) 24 [.slice (some ⟨pb,po,none⟩) 32 cap]:=by
  subst hw3
  exact kJ w2 [.slice (some ⟨pb,po,none⟩) 32 cap] _ hs2
 have hs3:w3.heap.size=w.heap.size+3:=by subst hw3;simp[hs2]
 rw[hs2]
 clear hw3 hX ho2 hg2 hs2
 have HI:=Lib.hid hI;clear hI
 gi_wp2_with fail
 have hRN:∀j,j<32->w3.cell? ⟨pb,po+j,none⟩=some (.int .u8 (f j:Int)):=fun j hj=>by rw[aZ HI.out.grown (p:=⟨pb,po+j,none⟩) hpb (by simp)];exact HC.out j hj
 refine wpIn_rangeFunc_ownG (F:=Fence.wide) (n:=9) rfl (by decide) (gf:=133) (lb:=#[.pointer (some ⟨w.heap.size+2,0,none⟩)]) rfl trivial (enters_of Tryz.func133 (by kernel_rfl) rfl)
  (w0:=w3) (CF Fence.wide 8 trivial rfl (by decide) (w.heap.size+2) pb po cap f HF.out w3 (by omega) (by omega) (zq.cell (i:=0) rfl) hRN)
  (fun h k=>Ii h k) (fun W l o o' hl h _ _=>Sk (n:=w3.heap.size) (by omega) (by omega) W l o o' hl h) (Below.refl _ _) (fun _=>rfl)
  (Zc w pb po cap f) (fun _ _ _=>False) (Sl w pb po cap f _ (by omega)) (fun _ _ _ _ _ h _ _=>h) HI.out
  (fun x=>{tmps:=#[.slice (some ⟨pb,po,none⟩) 32 cap,undef,.slice none 0 0,.pointer (some ⟨w.heap.size+1,0,none⟩),.bool x,.slice (some ⟨pb,po,none⟩) 32 cap,.int .i64 32,.bool false,.slice (some ⟨w.heap.size,0,none⟩) 0 256,.slice (some ⟨pb,po,none⟩) 32 cap,.func (.func 133) #[] #[.pointer (some ⟨w.heap.size+2,0,none⟩)],.bool x,undef,undef,undef,undef,undef],defers:=[]}) ?assign ?body ?done ?stop
 case assign=>
  intro l x W K hK
  gi_wp2
  exact hK
 case body=>
  rintro l pre x W hI hlen
  obtain⟨w4,hap,ho4,hg4⟩:=yx W w.heap.size w.heap.size pre.length 256 x _ hI.row (by omega)
  have hb4:=hI.box.grown hg4 (bI (by omega))
  have c0:=hI.box.cell (i:=0) rfl
  have c4:=hb4.cell (i:=0) rfl
  have f4:=hb4.free 0
  have HAP:=Lib.hid hap;clear hap
  have HJ:=Lib.hid (And.intro hI (And.intro ho4 (And.intro hg4 hb4)));clear hI ho4 hg4 hb4
  gi_wp2_with (gi_at_builtin;refine uM _ rfl (.tmp 12) (.tmp 14) 120 rfl rfl _ _ rfl rfl _ _ HAP.out ?_)
  obtain⟨hI,ho4,hg4,hb4⟩:=HJ.out
  have hg5:=aQ (ah w4 (some (w.heap.size+1))) 0 (Value.slice (some ⟨w.heap.size,0,none⟩) (pre.length+1) 256)
  have hb5:=hb4.set 0 (Value.slice (some ⟨w.heap.size,0,none⟩) (pre.length+1) 256)
  have hk5:=(KeepsFrom.of_grownBy (B:=w3.heap.size) hg4 (fun j e=>by cases e;omega)).trans (KeepsFrom.of_grownBy (B:=w3.heap.size) hg5 (fun j e=>by cases e;omega))
  have hpW:pb<W.heap.size:=by have:=hI.size;omega
  have hp4:pb<w4.heap.size:=Nat.lt_of_lt_of_le hpW hg4.size
  have hqW:w.heap.size+2<W.heap.size:=by have:=hI.size;omega
  have hq4:w.heap.size+2<w4.heap.size:=Nat.lt_of_lt_of_le hqW hg4.size
  have e1:(pre++[x]).length=pre.length+1:=by simp
  have e2:(pre++[x]).map Value.bool=pre.map Value.bool++[Value.bool x]:=by simp
  refine⟨hk5,⟨fun j hj=>?_,?_⟩,?_⟩
  .rw[aZ hg5 (p:=⟨pb,po+j,none⟩) hp4 (bI (by show pb≠w.heap.size+1;omega)),aZ hg4 (p:=⟨pb,po+j,none⟩) hpW (bI (by show pb≠w.heap.size;omega))]
  .rw[aZ hg5 (p:=⟨w.heap.size+2,0,none⟩) hq4 (bI (by show w.heap.size+2≠w.heap.size+1;omega)),aZ hg4 (p:=⟨w.heap.size+2,0,none⟩) hqW (bI (by show w.heap.size+2≠w.heap.size;omega))]
  .refine⟨?_,?_,aW (aW hI.grown hg4 (Nat.le_refl _)) hg5 (by omega),Nat.le_trans hI.size (Nat.le_trans hg4.size hg5.size)⟩
   .rw[e1,e2]
    exact ho4.kept hg5 (Or.inr (bI (by show w.heap.size≠w.heap.size+1;omega)))
   .rw[e1];exact hb5
 case done=>
  rintro D ys W hD rfl hI hK
  have hl:=lV f 256
  have hrow:=hI.row
  have Vz:=hI.box.cell (i:=0) rfl
  rw[hl]at hrow Vz
  obtain⟨hbk,hge⟩:=ED hrow
  have HJ:=Lib.hid (And.intro hI.grown hbk);clear hI hrow hbk hl
  gi_wp2
  have hp:=grownBy_putObj' W D (.deferred none)
  have hb5:=HJ.out.2.grown hp (bI (by omega))
  have hg5:=aW HJ.out.1 hp (by omega)
  refine⟨by simp,.inl ⟨_,_,rfl,run_takeDeferred hK,?_⟩⟩
  refine⟨.slice (some ⟨w.heap.size,0,none⟩) 256 256,?_,w.heap.size,by rw[lV],hg5,hge,hb5⟩
  simp[results,Tryz.results79,go_sem]
 case stop=>
  rintro D c pre W _ _ h _
  exact h.elim
theorem Sn (cap B:Nat) (a:Option Addr) (l:List Nat) (w:World) (hl:l.length=32) (hP:BytesAt w B a cap l):
  Calls Tryz.prog 79 #[.slice a 32 cap] w (abW (jd (fun i=>l.getD i 0) 256) w):=by
 obtain⟨pb,po,rfl,hpb,hpc⟩:=hP.cells.resolve_left (by omega)
 exact VO cap pb po _ w hP.byte (Nat.lt_of_lt_of_le hpb hP.lim) fun j hj=>hpc j (by omega)
end
section
open Go.RowKit Ow Go.Shelf Ed
theorem Bw (cap B:Nat) (a:Option Addr) (l:List Nat) (w:World) (hl:l.length=32) (hP:BytesAt w B a cap l):
  Calls Tryz.prog 79 #[.slice a 32 cap] w fun e w'=>∃g,e=.returned (.slice (some ⟨g,0,none⟩) 256 256)/\w.grownBy w' none/\w.heap.size<=g/\aF w' g 4 ((jd (fun i=>l.getD i 0) 256).map Value.bool):=
 (Sn cap B a l w hl hP).mono fun _ _ ⟨g,he,hg,hn,hb⟩=>⟨g,by rw[he,lV],hg,hn,hb⟩
theorem yA {w:World} {g:Nat} {f:Nat->Nat} (h:aF w g 4 ((jd f 256).map Value.bool)) (j:Nat) (hj:j<256):w.cell? ⟨g,j,none⟩=some (.bool (mY f j)):=
 h.cell (i:=j) (by simp[jd,hj])
theorem MP {a b c d:Pt} {p q r s:Pr} (ha:iP a p) (hb:iP b q) (hc:iP c r) (hd:iP d s):lM [a,b,c,d] [p,q,r,s]:=⟨rfl,fun i hi=>by
 have:i=0\/i=1\/i=2\/i=3:=by simp at hi;omega
 rcases this with rfl|rfl|rfl|rfl
 .exact ha
 .exact hb
 .exact hc
 .exact hd⟩
theorem Sq (l:List Nat) (hl:l.length=32) (hb:∀i,l.getD i 0<256):gF (mY fun i=>l.getD i 0) 64 64=gF (fun j=>decide (num l/2^j%2=1)) 64 64:=by
 unfold gF
 apply List.map_congr_left
 intro t ht
 have ht2:t<64:=List.mem_range.1 ht
 apply Subtype.ext
 show yw (mY fun i=>l.getD i 0) (64-1-t)=yw (fun j=>decide (num l/2^j%2=1)) (64-1-t)
 unfold yw
 simp only[uo l hl hb (4*(64-1-t)+3) (by omega),uo l hl hb (4*(64-1-t)+2) (by omega),uo l hl hb (4*(64-1-t)+1) (by omega),uo l hl hb (4*(64-1-t)) (by omega)]
theorem Zd {r:Pr} (hr:On r) (l:List Nat) (hl:l.length=32) (hb:∀i,l.getD i 0<256):
  rE 4 (qN [r,Ed.add r r,Ed.add (Ed.add r r) (Ed.add r r),Ed.add (Ed.add (Ed.add r r) (Ed.add r r)) (Ed.add (Ed.add r r) (Ed.add r r))]) (gF (mY fun i=>l.getD i 0) 64 64)=bq (num l) r:=by
 have h2:Ed.add r r=bq 2 r:=(Ar hr).symm
 have h4:Ed.add (bq 2 r) (bq 2 r)=bq 4 r:=(iD hr 2 2).symm
 have h8:Ed.add (bq 4 r) (bq 4 r)=bq 8 r:=(iD hr 4 4).symm
 have hn:num l<2^(4*64):=by have:=Br l hb;rwa [hl]at this
 rw[h2,h4,h8,Sq l hl hb,MO hr (num l) 64 hn 64 (Nat.le_refl _),Nat.sub_self,Nat.mul_zero,Nat.pow_zero,Nat.div_one]
set_option maxRecDepth 100000 in
set_option maxHeartbeats 12800000 in
theorem abX (p:Pt) (r:Pr) (l:List Nat) (cap B:Nat) (a:Option Addr) (w0:World) (HT0:dH w0) (hp:iP p r) (hl:l.length=32) (Jy:Hid (BytesAt w0 B a cap l)):
  Calls Tryz.prog 58 #[.slice a 32 cap,p.v] w0 fun e w'=>Mh (bq (num l) r) w0 e w':=by
 show Calls Tryz.prog 58 #[.slice a 32 cap,.agg (aY p).toArray] w0 _
 go_enter Tryz.func58,Tryz.ntmps58
 go_upto_region 1 with (fail)
 have G:w0.grownBy ((w0.alloc (.cells (aY p).toArray 68)).alloc (.cells bE.toArray 68)) none:=au (au (ah _ _) _) _
 have HT:dH ((w0.alloc (.cells (aY p).toArray 68)).alloc (.cells bE.toArray 68)):=HT0.grown (au (au (ah _ _) _) _)
 have hP:aF ((w0.alloc (.cells (aY p).toArray 68)).alloc (.cells bE.toArray 68)) (w0.heap.size) 68 (aY p):=(aF.new w0 (aY p) _).alloc _
 have hR:aF ((w0.alloc (.cells (aY p).toArray 68)).alloc (.cells bE.toArray 68)) (w0.heap.size+1) 68 bE:=aF.newAt (w0.alloc _) bE _ (by simp)
 revert G HT hP hR
 generalize (w0.alloc (.cells (aY p).toArray 68)).alloc (.cells bE.toArray 68)=W0
 intro G HT hP hR
 have Gs:=G.size
 go_upto_region 3 with (fail)
 have lC:=G.size
 have uK:=hP.lt
 have lq:=hR.lt
 refine Fg.rP [5] [.any,.any,.any,.any,.any,.fresh 68 bE W0.heap.size,.any,.any,.any,.any,.any,.val (p.v),.val ((kH p).v)] 3 ?_ ?_
 .refine Fg.vS rfl (by decide) (fun _ _ h=>Fg.vn p.v (Fg.run_load rfl (h.r 3) ((hP.gn h.base).range 0 (aY p) rfl) Tryz.underlying68 rfl aO)) ?_
  refine Fg.cS rfl (by decide) (fun _ w h=>Fg.cq rfl (He p _ _ (HT.grown h.base) hp) ⟨h.d 11,trivial⟩ Tryz.func77) ?_
  refine⟨⟨⟨_,rfl⟩,Fg.gD (fun _ _ h k=>aj h k) rfl (by show 5<24;decide) fun ac w h=>?_⟩,?_⟩
  .refine⟨aB rfl,w.alloc (.cells bE.toArray 68),?_,World.grownBy_alloc _ _ _,by simp,⟨w.heap.size,rfl,h.base.size,aF.new w bE _⟩⟩
   clear h
   go_simp
  trivial
 .intro qa V1 g1 hsz hdf hrest aC hpt
  obtain⟨N5,hs5,P9,hb5⟩:∃N,qa.tmps.getD 5 undef=.pointer (some ⟨N,0,none⟩)/\W0.heap.size<=N/\aF V1 N 68 bE:=aC 5 (by kernel_rfl)
  obtain⟨⟨u7,hs7⟩,⟨u8,kZ⟩,⟨u9,jA⟩,⟨u11,dX⟩,_⟩:=Fg.bn qa [7,8,9,11]
  obtain⟨x1,hx1⟩:∃x:Pt,x=kH p:=⟨_,rfl⟩
  obtain rfl:=Fg.aP [5,7,8,9,11,12] (vs:=[_,_,_,_,_,Value.pointer (some ⟨N5,0,none⟩),_,u7,u8,u9,_,u11,x1.v,_,_,_,_,_,_,_,_,_,_,_]) hsz hrest (by kernel_rfl) rfl rfl ⟨hs5,hs7,kZ,jA,dX,(show qa.tmps.getD 12 undef=x1.v by rw[hx1];exact aC 12 (by kernel_rfl)),trivial⟩ hdf
  clear hsz hdf hrest aC hpt hs5 hs7 kZ jA dX
  have mU:=Lib.hid hx1;clear hx1
  replace hP:=hP.gn g1
  replace hR:=hR.gn g1
  replace G:=aj G g1
  replace HT:=HT.grown g1
  have Fv:w0.heap.size<=N5:=Nat.le_trans lC P9
  clear g1
  refine Fg.aU rfl rfl (Fg.run_store (cs:=aY x1) rfl rfl rfl (hb5.there 0 20 (by show 0+20<=20;decide)) aO (gH _)) ?_
  replace hP:=hP.ak (C:=N5) (cs:=aY x1) 0 (by omega)
  replace hR:=hR.ak (C:=N5) (cs:=aY x1) 0 (by omega)
  replace hb5:aF (V1.setCells N5 0 (aY x1)) N5 68 (aY x1):=hb5.bG rfl
  replace G:=aH (cs:=aY x1) G (B:=N5) (Fv) 0
  replace HT:=HT.keep (aK (cs:=aY x1) (ah _ (some N5)) 0) (HT0.jS (Fv))
  revert hP hR hb5 G HT
  generalize V1.setCells N5 0 (aY x1)=W2
  intro hP hR hb5 G HT
  have is1:iP x1 (Ed.add r r):=by rw[mU.out];exact GZ hp
  go_upto_region 4 with (fail)
  have vU:=G.size
  have Cx:=hP.lt
  have qI:=hR.lt
  have wS:=hb5.lt
  refine Fg.rP [6] [.any,.any,.any,.any,.any,.any,.fresh 68 bE W2.heap.size,.any,.any,.any,.any,.any,.any,.val (x1.v),.val ((kH x1).v)] 3 ?_ ?_
  .refine Fg.vS rfl (by decide) (fun _ _ h=>Fg.vn x1.v (Fg.run_load rfl (h.r 5) ((hb5.gn h.base).range 0 (aY x1) rfl) Tryz.underlying68 rfl aO)) ?_
   refine Fg.cS rfl (by decide) (fun _ w h=>Fg.cq rfl (He x1 _ _ (HT.grown h.base) is1) ⟨h.d 13,trivial⟩ Tryz.func77) ?_
   refine⟨⟨⟨_,rfl⟩,Fg.gD (fun _ _ h k=>aj h k) rfl (by show 6<24;decide) fun ac w h=>?_⟩,?_⟩
   .refine⟨aB rfl,w.alloc (.cells bE.toArray 68),?_,World.grownBy_alloc _ _ _,by simp,⟨w.heap.size,rfl,h.base.size,aF.new w bE _⟩⟩
    clear h
    go_simp
   trivial
  .intro qa V3 g3 hsz hdf hrest aC hpt
   obtain⟨N6,hs6,Og,hb6⟩:∃N,qa.tmps.getD 6 undef=.pointer (some ⟨N,0,none⟩)/\W2.heap.size<=N/\aF V3 N 68 bE:=aC 6 (by kernel_rfl)
   obtain⟨u13,dM⟩:=Fg.bP qa 13
   obtain⟨x2,hx2⟩:∃x:Pt,x=kH x1:=⟨_,rfl⟩
   obtain rfl:=Fg.aP [6,13,14] (vs:=[_,_,_,_,_,_,Value.pointer (some ⟨N6,0,none⟩),_,_,_,_,_,_,u13,x2.v,_,_,_,_,_,_,_,_,_]) hsz hrest (by kernel_rfl) rfl rfl ⟨hs6,dM,(show qa.tmps.getD 14 undef=x2.v by rw[hx2];exact aC 14 (by kernel_rfl)),trivial⟩ hdf
   clear hsz hdf hrest aC hpt hs6 dM
   have Fu:=Lib.hid hx2;clear hx2
   replace hP:=hP.gn g3
   replace hR:=hR.gn g3
   replace hb5:=hb5.gn g3
   replace G:=aj G g3
   replace HT:=HT.grown g3
   have Di:w0.heap.size<=N6:=Nat.le_trans vU Og
   clear g3
   refine Fg.aU rfl rfl (Fg.run_store (cs:=aY x2) rfl rfl rfl (hb6.there 0 20 (by show 0+20<=20;decide)) aO (gH _)) ?_
   replace hP:=hP.ak (C:=N6) (cs:=aY x2) 0 (by omega)
   replace hR:=hR.ak (C:=N6) (cs:=aY x2) 0 (by omega)
   replace hb5:=hb5.ak (C:=N6) (cs:=aY x2) 0 (by omega)
   replace hb6:aF (V3.setCells N6 0 (aY x2)) N6 68 (aY x2):=hb6.bG rfl
   replace G:=aH (cs:=aY x2) G (B:=N6) (Di) 0
   replace HT:=HT.keep (aK (cs:=aY x2) (ah _ (some N6)) 0) (HT0.jS (Di))
   revert hP hR hb5 hb6 G HT
   generalize V3.setCells N6 0 (aY x2)=W4
   intro hP hR hb5 hb6 G HT
   have is2:iP x2 (Ed.add (Ed.add r r) (Ed.add r r)):=by rw[Fu.out];exact GZ is1
   go_upto_region 5 with (fail)
   have Oh:=G.size
   have Gm:=hP.lt
   have uJ:=hR.lt
   have ze:=hb5.lt
   have yY:=hb6.lt
   refine Fg.rT [] [.any,.any,.any,.any,.any,.any,.any,.any,.any,.any,.any,.any,.any,.any,.any,.val (Value.slice a 32 cap),.row 4 ((jd (fun i=>l.getD i 0) 256).map Value.bool) 256 W4.heap.size,.val (p.v),.val (x1.v),.val (x2.v),.val (x2.v),.val ((kH x2).v),.row 68 (iX [p,x1,x2,kH x2]) 4 W4.heap.size] 8 ?_ ?_
   .refine Fg.vS rfl (by decide) (fun _ _ h=>Fg.vn _ (Fg.run_move rfl (h.r 0))) ?_
    refine Fg.cS rfl (by decide) (fun ac w h=>?_) ?_
    .have e15:_=Value.slice a 32 cap:=h.d 15
     refine⟨aB rfl,79,#[Value.slice a 32 cap],Fg.aN rfl rfl (by simp only[List.map_toArray,List.map_cons,List.map_nil,Act.eval,e15]) (Fg.aI Tryz.func79 (by kernel_rfl) (by kernel_rfl)),?_⟩
     exact (Bw cap B a l _ hl (Jy.out.stay (aj G h.base))).mono fun _ _ ⟨NB,he,hg,hn,hb⟩=>⟨_,he,hg,⟨NB,rfl,Nat.le_trans h.base.size hn,hb⟩⟩
    refine Fg.vS rfl (by decide) (fun _ _ h=>Fg.vn p.v (Fg.run_load rfl (h.r 3) ((hP.gn h.base).range 0 (aY p) rfl) Tryz.underlying68 rfl aO)) ?_
    refine Fg.vS rfl (by decide) (fun _ _ h=>Fg.vn x1.v (Fg.run_load rfl (h.r 5) ((hb5.gn h.base).range 0 (aY x1) rfl) Tryz.underlying68 rfl aO)) ?_
    refine Fg.vS rfl (by decide) (fun _ _ h=>Fg.vn x2.v (Fg.run_load rfl (h.r 6) ((hb6.gn h.base).range 0 (aY x2) rfl) Tryz.underlying68 rfl aO)) ?_
    refine Fg.vS rfl (by decide) (fun _ _ h=>Fg.vn x2.v (Fg.run_load rfl (h.r 6) ((hb6.gn h.base).range 0 (aY x2) rfl) Tryz.underlying68 rfl aO)) ?_
    refine Fg.cS rfl (by decide) (fun _ w h=>Fg.cq rfl (He x2 _ _ (HT.grown h.base) is2) ⟨h.d 20,trivial⟩ Tryz.func77) ?_
    refine Fg.vS rfl (by decide) (fun ac w h=>?_) ?_
    .have e17:_=p.v:=h.d 17
     have e18:_=x1.v:=h.d 18
     have e19:_=x2.v:=h.d 19
     have e21:_=(kH x2).v:=h.d 21
     exact⟨aB rfl,.slice (some ⟨w.heap.size,0,none⟩) 4 4,w.alloc (.cells (iX [p,x1,x2,kH x2]).toArray 68),Fg.run_buildSlice (vs:=#[(0,p.v),(1,x1.v),(2,x2.v),(3,(kH x2).v)]) rfl (by simp only[List.map_toArray,List.map_cons,List.map_nil,Act.eval,e17,e18,e19,e21]) (by kernel_rfl),World.grownBy_alloc _ _ _,⟨w.heap.size,rfl,h.base.size,aF.new w (iX [p,x1,x2,kH x2]) _⟩⟩
    trivial
   .intro qa V5 g5 hsz hdf hrest aC hpt
    obtain⟨u15,dO⟩:=Fg.bP qa 15
    obtain⟨N16,dI,hn16,EF⟩:∃N,qa.tmps.getD 16 undef=.slice (some ⟨N,0,none⟩) 256 256/\W4.heap.size<=N/\aF V5 N 4 ((jd (fun i=>l.getD i 0) 256).map Value.bool):=aC 16 (by kernel_rfl)
    obtain⟨⟨u17,dY⟩,⟨u18,dZ⟩,⟨u19,d9⟩,⟨u20,dS⟩,⟨u21,eG⟩,_⟩:=Fg.bn qa [17,18,19,20,21]
    obtain⟨N22,eH,agH,Il⟩:∃N,qa.tmps.getD 22 undef=.slice (some ⟨N,0,none⟩) 4 4/\W4.heap.size<=N/\aF V5 N 68 (iX [p,x1,x2,kH x2]):=aC 22 (by kernel_rfl)
    obtain rfl:=Fg.aP [15,16,17,18,19,20,21,22] (vs:=[_,_,_,_,_,_,_,_,_,_,_,_,_,_,_,u15,Value.slice (some ⟨N16,0,none⟩) 256 256,u17,u18,u19,u20,u21,Value.slice (some ⟨N22,0,none⟩) 4 4,_]) hsz hrest (by kernel_rfl) rfl rfl ⟨dO,dI,dY,dZ,d9,dS,eG,eH,trivial⟩ hdf
    clear hsz hdf hrest aC hpt dO dI dY dZ d9 dS eG eH
    replace hP:=hP.gn g5
    replace hR:=hR.gn g5
    replace hb5:=hb5.gn g5
    replace hb6:=hb6.gn g5
    replace G:=aj G g5
    replace HT:=HT.grown g5
    have hw16:w0.heap.size<=N16:=Nat.le_trans Oh hn16
    have alL:w0.heap.size<=N22:=Nat.le_trans Oh agH
    clear g5
    have abD:=hP.lt
    have Ke:=hR.lt
    have MH:=hb5.lt
    have Ay:=hb6.lt
    have agI:=EF.lt
    have agJ:=Il.lt
    have zB:B<=w0.heap.size:=Jy.out.lim
    refine Fg.bU rfl (Fg.aN (vs:=#[.int .i64 4,.slice (some ⟨N16,0,none⟩) 256 256,.slice (some ⟨N22,0,none⟩) 4 4]) rfl rfl (by simp only[List.map_toArray,List.map_cons,List.map_nil,Act.eval];rfl) (Fg.aI Tryz.func78 (by kernel_rfl) (by kernel_rfl))) ?_
    refine (Bh 4 N22 N16 256 64 [p,x1,x2,kH x2] [r,Ed.add r r,Ed.add (Ed.add r r) (Ed.add r r),Ed.add (Ed.add (Ed.add r r) (Ed.add r r)) (Ed.add (Ed.add r r) (Ed.add r r))] [] (mY fun i=>l.getD i 0) _ HT (by decide) rfl (by decide) (by decide) rfl (MP hp is1 is2 (GZ is2)) (by rw[List.append_nil];exact Il) EF.lt (fun j hj=>yA EF j hj)).mono ?_
    rintro e C5 ⟨t9,Fw,rfl,gc⟩
    refine⟨_,rfl,?_⟩
    rw[Zd hp.on l hl Jy.out.byte]at Fw
    have YO:=Lib.hid Fw;clear Fw
    replace hP:=hP.gn gc
    replace hR:=hR.gn gc
    replace hb5:=hb5.gn gc
    replace hb6:=hb6.gn gc
    replace EF:=EF.gn gc
    replace Il:=Il.gn gc
    replace G:=aj G gc
    replace HT:=HT.grown gc
    clear gc
    refine Fg.aU rfl rfl (Fg.run_store (cs:=aY t9) rfl rfl rfl (hR.there 0 20 (by show 0+20<=20;decide)) aO (gH _)) ?_
    replace hP:=hP.ak (C:=(w0.heap.size+1)) (cs:=aY t9) 0 (by omega)
    replace hR:aF (C5.setCells (w0.heap.size+1) 0 (aY t9)) (w0.heap.size+1) 68 (aY t9):=hR.bG rfl
    replace hb5:=hb5.ak (C:=(w0.heap.size+1)) (cs:=aY t9) 0 (by omega)
    replace hb6:=hb6.ak (C:=(w0.heap.size+1)) (cs:=aY t9) 0 (by omega)
    replace EF:=EF.ak (C:=(w0.heap.size+1)) (cs:=aY t9) 0 (by omega)
    replace Il:=Il.ak (C:=(w0.heap.size+1)) (cs:=aY t9) 0 (by omega)
    replace G:=aH (cs:=aY t9) G (B:=(w0.heap.size+1)) (by omega) 0
    replace HT:=HT.keep (aK (cs:=aY t9) (ah _ (some (w0.heap.size+1))) 0) (HT0.jS (by omega))
    revert hP hR hb5 hb6 EF Il G HT
    generalize C5.setCells (w0.heap.size+1) 0 (aY t9)=W6
    intro hP hR hb5 hb6 EF Il G HT
    go_wp2_with fail
    exact bodyPost_ret (v:=t9.v) (results_cell_row Tryz.results58 _ _ (w0.heap.size+1) 68 (aY t9).toArray (0,0) _ rfl hR Tryz.underlying68 rfl aO) rfl ⟨t9,YO.out,rfl,G⟩
end
section
open Go.RowKit Ow Ed
def pq (t:Pt) (b:Value):List Value:=aY t++[b]
def Du (t:Pt) (b s p:Value):List Value:=aY t++[b,s,p]
def Qb (t:Pt) (b:Value):Value:=.agg (pq t b).toArray
def soV (t:Pt) (b s p:Value):Value:=.agg (Du t b s p).toArray
theorem qP:(Tryz.prog.info? 70).map (·.size)=some 21:=by kernel_rfl
theorem EG:(Tryz.prog.info? 72).map (·.size)=some 23:=by kernel_rfl
theorem wW (t:Pt) (a:Option Addr) (n c:Nat):(pq t (.slice a n c)).all (·.oneCell')=true:=rfl
theorem MQ (t:Pt) (a a' a'':Option Addr) (n c n' c' n'' c'':Nat):(Du t (.slice a n c) (.slice a' n' c') (.slice a'' n'' c'')).all (·.oneCell')=true:=rfl
theorem oC {ρ:Operand->Value} {o:Oper} {w:World} {x:Operand} {b off:Nat} {v:Value} (ho:o.op=.load 24 x) (hx:ρ x=.pointer (some ⟨b,off,none⟩)) (hc:w.cell? ⟨b,off,none⟩=some v):
  (execOp ρ o).run Tryz.prog w=.ok (.value v) w:=by
 unfold execOp
 simp only[ho,hx]
 go_simp
theorem abY {w:World} {g:Nat} {p:Pr} (h:aF w g 166 ((jk (enc p)).map dG)):BytesAt w w.heap.size (some ⟨g,0,none⟩) 32 (jk (enc p)):=
 lH (tl:=[]) (by rw[List.append_nil];exact h) (gy _) (Nat.le_refl _) (by decide) (qL _) h.lt (Nat.le_refl _)
end
section
open Go.RowKit Ow Go.Shelf Ed
set_option maxRecDepth 100000 in
set_option maxHeartbeats 12800000 in
theorem Sr (l:List Nat) (cap B:Nat) (a:Option Addr) (w0:World) (HT0:dH w0) (hl:l.length=32) (Jy:Hid (BytesAt w0 B a cap l)):
  Calls Tryz.prog 41 #[.slice a 32 cap] w0 fun e w'=>∃(t:Pt) (g:Nat),iP t (bq (num l) bW)/\e=.returned (Qb t (.slice (some ⟨g,0,none⟩) 32 32))/\w0.grownBy w' none/\w0.heap.size<=g/\aF w' g 166 ((jk (enc (bq (num l) bW))).map dG):=by
 go_enter Tryz.func41,Tryz.ntmps41
 go_upto_region 1 with (fail)
 have G:w0.grownBy (w0.alloc (.cells [Value.int IntKind.u64 0,Value.int IntKind.u64 0,Value.int IntKind.u64 0,Value.int IntKind.u64 0,Value.int IntKind.u64 0,Value.int IntKind.u64 0,Value.int IntKind.u64 0,Value.int IntKind.u64 0,Value.int IntKind.u64 0,Value.int IntKind.u64 0,Value.int IntKind.u64 0,Value.int IntKind.u64 0,Value.int IntKind.u64 0,Value.int IntKind.u64 0,Value.int IntKind.u64 0,Value.int IntKind.u64 0,Value.int IntKind.u64 0,Value.int IntKind.u64 0,Value.int IntKind.u64 0,Value.int IntKind.u64 0,Value.slice none 0 0].toArray 70)) none:=au (ah _ _) _
 have HT:dH (w0.alloc (.cells [Value.int IntKind.u64 0,Value.int IntKind.u64 0,Value.int IntKind.u64 0,Value.int IntKind.u64 0,Value.int IntKind.u64 0,Value.int IntKind.u64 0,Value.int IntKind.u64 0,Value.int IntKind.u64 0,Value.int IntKind.u64 0,Value.int IntKind.u64 0,Value.int IntKind.u64 0,Value.int IntKind.u64 0,Value.int IntKind.u64 0,Value.int IntKind.u64 0,Value.int IntKind.u64 0,Value.int IntKind.u64 0,Value.int IntKind.u64 0,Value.int IntKind.u64 0,Value.int IntKind.u64 0,Value.int IntKind.u64 0,Value.slice none 0 0].toArray 70)):=HT0.grown (au (ah _ _) _)
 have hR:aF (w0.alloc (.cells [Value.int IntKind.u64 0,Value.int IntKind.u64 0,Value.int IntKind.u64 0,Value.int IntKind.u64 0,Value.int IntKind.u64 0,Value.int IntKind.u64 0,Value.int IntKind.u64 0,Value.int IntKind.u64 0,Value.int IntKind.u64 0,Value.int IntKind.u64 0,Value.int IntKind.u64 0,Value.int IntKind.u64 0,Value.int IntKind.u64 0,Value.int IntKind.u64 0,Value.int IntKind.u64 0,Value.int IntKind.u64 0,Value.int IntKind.u64 0,Value.int IntKind.u64 0,Value.int IntKind.u64 0,Value.int IntKind.u64 0,Value.slice none 0 0].toArray 70)) w0.heap.size 70 [Value.int IntKind.u64 0,Value.int IntKind.u64 0,Value.int IntKind.u64 0,Value.int IntKind.u64 0,Value.int IntKind.u64 0,Value.int IntKind.u64 0,Value.int IntKind.u64 0,Value.int IntKind.u64 0,Value.int IntKind.u64 0,Value.int IntKind.u64 0,Value.int IntKind.u64 0,Value.int IntKind.u64 0,Value.int IntKind.u64 0,Value.int IntKind.u64 0,Value.int IntKind.u64 0,Value.int IntKind.u64 0,Value.int IntKind.u64 0,Value.int IntKind.u64 0,Value.int IntKind.u64 0,Value.int IntKind.u64 0,Value.slice none 0 0]:=aF.new w0 [Value.int IntKind.u64 0,Value.int IntKind.u64 0,Value.int IntKind.u64 0,Value.int IntKind.u64 0,Value.int IntKind.u64 0,Value.int IntKind.u64 0,Value.int IntKind.u64 0,Value.int IntKind.u64 0,Value.int IntKind.u64 0,Value.int IntKind.u64 0,Value.int IntKind.u64 0,Value.int IntKind.u64 0,Value.int IntKind.u64 0,Value.int IntKind.u64 0,Value.int IntKind.u64 0,Value.int IntKind.u64 0,Value.int IntKind.u64 0,Value.int IntKind.u64 0,Value.int IntKind.u64 0,Value.int IntKind.u64 0,Value.slice none 0 0] _
 revert G HT hR
 generalize w0.alloc (.cells [Value.int IntKind.u64 0,Value.int IntKind.u64 0,Value.int IntKind.u64 0,Value.int IntKind.u64 0,Value.int IntKind.u64 0,Value.int IntKind.u64 0,Value.int IntKind.u64 0,Value.int IntKind.u64 0,Value.int IntKind.u64 0,Value.int IntKind.u64 0,Value.int IntKind.u64 0,Value.int IntKind.u64 0,Value.int IntKind.u64 0,Value.int IntKind.u64 0,Value.int IntKind.u64 0,Value.int IntKind.u64 0,Value.int IntKind.u64 0,Value.int IntKind.u64 0,Value.int IntKind.u64 0,Value.int IntKind.u64 0,Value.slice none 0 0].toArray 70)=W0
 intro G HT hR
 have Gs:=G.size
 refine wp_region_lit ?_
 refine Fg.aL (v:=.slice a 32 cap) (w':=W0) rfl (Fg.run_move rfl rfl) ?_
 simp only[Act.put,List.setIfInBounds_toArray,List.set_cons_succ,List.set_cons_zero]
 refine Fg.bU rfl (Fg.aN (vs:=#[]) rfl rfl (by simp) (Fg.aI Tryz.func59 (by kernel_rfl) (by kernel_rfl))) ?_
 refine (Kt W0 HT).mono ?_
 rintro e A1 ⟨rfl,ga⟩
 refine⟨_,rfl,?_⟩
 replace hR:=hR.gn ga
 replace G:=aj G ga
 replace HT:=HT.grown ga
 clear ga
 simp only[Act.put,List.setIfInBounds_toArray,List.set_cons_succ,List.set_cons_zero]
 refine Fg.bU rfl (Fg.aN (vs:=#[.slice a 32 cap,fB.v]) rfl rfl (by simp only[List.map_toArray,List.map_cons,List.map_nil,Act.eval];rfl) (Fg.aI Tryz.func58 (by kernel_rfl) (by kernel_rfl))) ?_
 refine (abX fB bW l cap B a A1 HT Ej hl (Lib.hid (Jy.out.stay G))).mono ?_
 rintro e A2 ⟨t,ht,rfl,ga⟩
 refine⟨_,rfl,?_⟩
 replace hR:=hR.gn ga
 replace G:=aj G ga
 replace HT:=HT.grown ga
 clear ga
 simp only[Act.put,List.setIfInBounds_toArray,List.set_cons_succ,List.set_cons_zero]
 refine Fg.aL (v:=.pointer (some ⟨A2.heap.size,0,none⟩)) (w':=A2.alloc (.cells bE.toArray 68)) rfl (by go_simp) ?_
 simp only[Act.put,List.setIfInBounds_toArray,List.set_cons_succ,List.set_cons_zero]
 have hw3:w0.heap.size<=A2.heap.size:=G.size
 have hb3:=aF.new A2 bE 68
 have lq:=hR.lt
 have ga3:=au (ah A2 none) (.cells bE.toArray 68)
 replace hR:=hR.gn ga3
 replace G:=aj G ga3
 replace HT:=HT.grown ga3
 clear ga3
 obtain⟨N3,VP⟩:∃x,x=A2.heap.size:=⟨_,rfl⟩
 rw[<- VP]at hb3 hw3 ⊢
 rw[<- VP]at lq
 revert hR G HT hb3
 generalize (A2.alloc (.cells bE.toArray 68))=A3
 intro hR G HT hb3
 clear VP
 refine Fg.aU rfl rfl (Fg.run_store (cs:=aY t) rfl rfl rfl (hb3.there 0 20 (by show 0+20<=20;decide)) aO (gH _)) ?_
 replace hR:=hR.ak (C:=N3) (cs:=aY t) 0 (by omega)
 replace hb3:aF (A3.setCells N3 0 (aY t)) N3 68 (aY t):=hb3.bG rfl
 replace G:=aH (cs:=aY t) G (B:=N3) (hw3) 0
 replace HT:=HT.keep (aK (cs:=aY t) (ah _ (some N3)) 0) (HT0.jS (hw3))
 revert hR hb3 G HT
 generalize A3.setCells N3 0 (aY t)=W1
 intro hR hb3 G HT
 refine wpList_nil ?_
 go_upto_region 2 with (fail)
 have Gs1:=G.size
 have qI:=hR.lt
 have AU:=hb3.lt
 refine Fg.rT [] [.any,.any,.any,.any,.any,.any,.any,.val (t.v),.val (t.v),.row 166 ((jk (enc (bq (num l) bW))).map dG) 32 W1.heap.size] 3 ?_ ?_
 .refine Fg.vS rfl (by decide) (fun _ _ h=>Fg.vn t.v (Fg.run_load rfl (h.r 3) ((hb3.gn h.base).range 0 (aY t) rfl) Tryz.underlying68 rfl aO)) ?_
  refine Fg.vS rfl (by decide) (fun _ _ h=>Fg.vn t.v (Fg.run_load rfl (h.r 3) ((hb3.gn h.base).range 0 (aY t) rfl) Tryz.underlying68 rfl aO)) ?_
  refine Fg.cS rfl (by decide) (fun ac w h=>?_) ?_
  .have e8:_=t.v:=h.d 8
   refine⟨aB rfl,60,#[t.v],Fg.aN rfl rfl (by simp only[List.map_toArray,List.map_cons,List.map_nil,Act.eval,e8]) (Fg.aI Tryz.func60 (by kernel_rfl) (by kernel_rfl)),?_⟩
   exact (YA _ ht).mono fun _ _ ⟨NB,he,hg,hn,hb⟩=>⟨_,he,hg,⟨NB,rfl,Nat.le_trans h.base.size hn,hb⟩⟩
  trivial
 .intro qa V2 g2 hsz hdf hrest aC hpt
  obtain⟨⟨u4,hs4⟩,⟨u5,hs5⟩,⟨u6,hs6⟩,⟨u8,kZ⟩,_⟩:=Fg.bn qa [4,5,6,8]
  obtain⟨N9,jA,hn9,U1⟩:∃N,qa.tmps.getD 9 undef=.slice (some ⟨N,0,none⟩) 32 32/\W1.heap.size<=N/\aF V2 N 166 ((jk (enc (bq (num l) bW))).map dG):=aC 9 (by kernel_rfl)
  obtain rfl:=Fg.aP [4,5,6,7,8,9] (vs:=[_,_,_,_,u4,u5,u6,t.v,u8,Value.slice (some ⟨N9,0,none⟩) 32 32,_]) hsz hrest (by kernel_rfl) rfl rfl ⟨hs4,hs5,hs6,(show qa.tmps.getD 7 undef=t.v from aC 7 (by kernel_rfl)),kZ,jA,trivial⟩ hdf
  clear hsz hdf hrest aC hpt hs4 hs5 hs6 kZ jA
  replace hR:=hR.gn g2
  replace hb3:=hb3.gn g2
  replace G:=aj G g2
  replace HT:=HT.grown g2
  have hw9:w0.heap.size<=N9:=Nat.le_trans Gs1 hn9
  clear g2
  have uJ:=hR.lt
  have Gq:=hb3.lt
  have aiy:=U1.lt
  refine Fg.aL (v:=Qb t (.slice (some ⟨N9,0,none⟩) 32 32)) (w':=V2) rfl (Fg.run_build (vs:=#[(0,t.v),(1,Value.slice (some ⟨N9,0,none⟩) 32 32)]) rfl (by simp only[List.map_toArray,List.map_cons,List.map_nil,Act.eval];rfl) (by kernel_rfl)) ?_
  simp only[Act.put,List.setIfInBounds_toArray,List.set_cons_succ,List.set_cons_zero]
  refine Fg.aU rfl rfl (Fg.run_store (cs:=pq t (.slice (some ⟨N9,0,none⟩) 32 32)) rfl rfl rfl (hR.there 0 21 (by show 0+21<=21;decide)) qP (wW _ _ _ _)) ?_
  replace hR:aF (V2.setCells w0.heap.size 0 (pq t (.slice (some ⟨N9,0,none⟩) 32 32))) w0.heap.size 70 (pq t (.slice (some ⟨N9,0,none⟩) 32 32)):=hR.bG rfl
  replace hb3:=hb3.ak (C:=w0.heap.size) (cs:=pq t (.slice (some ⟨N9,0,none⟩) 32 32)) 0 (by omega)
  replace U1:=U1.ak (C:=w0.heap.size) (cs:=pq t (.slice (some ⟨N9,0,none⟩) 32 32)) 0 (by omega)
  replace G:=aH (cs:=pq t (.slice (some ⟨N9,0,none⟩) 32 32)) G (B:=w0.heap.size) (Nat.le_refl _) 0
  replace HT:=HT.keep (aK (cs:=pq t (.slice (some ⟨N9,0,none⟩) 32 32)) (ah _ (some w0.heap.size)) 0) (HT0.jS (Nat.le_refl _))
  revert hR hb3 U1 G HT
  generalize V2.setCells w0.heap.size 0 (pq t (.slice (some ⟨N9,0,none⟩) 32 32))=W3
  intro hR hb3 U1 G HT
  go_wp2_with fail
  exact bodyPost_ret (v:=Qb t (.slice (some ⟨N9,0,none⟩) 32 32)) (results_cell_row Tryz.results41 _ _ w0.heap.size 70 (pq t (.slice (some ⟨N9,0,none⟩) 32 32)).toArray (0,0) _ rfl hR Tryz.underlying70 rfl qP) rfl ⟨t,N9,ht,rfl,G,hw9,U1⟩
set_option maxRecDepth 100000 in
set_option maxHeartbeats 12800000 in
theorem Sv (B n cap:Nat) (a:Option Addr) (l:List Nat) (w0:World) (HT0:dH w0) (hl:l.length=n) (hn:n<9223372036854775808) (Jy:Hid (BytesAt w0 B a cap l)):
  Calls Tryz.prog 89 #[.slice a n cap] w0 fun e w'=>∃(t:Pt) (b:Bool),e=.returned (.tuple #[Qb t (.slice a n cap),.bool b])/\w0.grownBy w' none/\(b=true->∃p,iP t p/\l.length=32/\enc p=sS l)/\(b=false->t=cB/\¬(l.length=32/\∃p,On p/\enc p=sS l)):=by
 go_enter Tryz.func89,Tryz.ntmps89
 go_upto_region 1 with (fail)
 have G:w0.grownBy (w0.alloc (.cells [Value.int IntKind.u64 0,Value.int IntKind.u64 0,Value.int IntKind.u64 0,Value.int IntKind.u64 0,Value.int IntKind.u64 0,Value.int IntKind.u64 0,Value.int IntKind.u64 0,Value.int IntKind.u64 0,Value.int IntKind.u64 0,Value.int IntKind.u64 0,Value.int IntKind.u64 0,Value.int IntKind.u64 0,Value.int IntKind.u64 0,Value.int IntKind.u64 0,Value.int IntKind.u64 0,Value.int IntKind.u64 0,Value.int IntKind.u64 0,Value.int IntKind.u64 0,Value.int IntKind.u64 0,Value.int IntKind.u64 0,Value.slice none 0 0].toArray 70)) none:=au (ah _ _) _
 have HT:dH (w0.alloc (.cells [Value.int IntKind.u64 0,Value.int IntKind.u64 0,Value.int IntKind.u64 0,Value.int IntKind.u64 0,Value.int IntKind.u64 0,Value.int IntKind.u64 0,Value.int IntKind.u64 0,Value.int IntKind.u64 0,Value.int IntKind.u64 0,Value.int IntKind.u64 0,Value.int IntKind.u64 0,Value.int IntKind.u64 0,Value.int IntKind.u64 0,Value.int IntKind.u64 0,Value.int IntKind.u64 0,Value.int IntKind.u64 0,Value.int IntKind.u64 0,Value.int IntKind.u64 0,Value.int IntKind.u64 0,Value.int IntKind.u64 0,Value.slice none 0 0].toArray 70)):=HT0.grown (au (ah _ _) _)
 have hR:aF (w0.alloc (.cells [Value.int IntKind.u64 0,Value.int IntKind.u64 0,Value.int IntKind.u64 0,Value.int IntKind.u64 0,Value.int IntKind.u64 0,Value.int IntKind.u64 0,Value.int IntKind.u64 0,Value.int IntKind.u64 0,Value.int IntKind.u64 0,Value.int IntKind.u64 0,Value.int IntKind.u64 0,Value.int IntKind.u64 0,Value.int IntKind.u64 0,Value.int IntKind.u64 0,Value.int IntKind.u64 0,Value.int IntKind.u64 0,Value.int IntKind.u64 0,Value.int IntKind.u64 0,Value.int IntKind.u64 0,Value.int IntKind.u64 0,Value.slice none 0 0].toArray 70)) w0.heap.size 70 [Value.int IntKind.u64 0,Value.int IntKind.u64 0,Value.int IntKind.u64 0,Value.int IntKind.u64 0,Value.int IntKind.u64 0,Value.int IntKind.u64 0,Value.int IntKind.u64 0,Value.int IntKind.u64 0,Value.int IntKind.u64 0,Value.int IntKind.u64 0,Value.int IntKind.u64 0,Value.int IntKind.u64 0,Value.int IntKind.u64 0,Value.int IntKind.u64 0,Value.int IntKind.u64 0,Value.int IntKind.u64 0,Value.int IntKind.u64 0,Value.int IntKind.u64 0,Value.int IntKind.u64 0,Value.int IntKind.u64 0,Value.slice none 0 0]:=aF.new w0 [Value.int IntKind.u64 0,Value.int IntKind.u64 0,Value.int IntKind.u64 0,Value.int IntKind.u64 0,Value.int IntKind.u64 0,Value.int IntKind.u64 0,Value.int IntKind.u64 0,Value.int IntKind.u64 0,Value.int IntKind.u64 0,Value.int IntKind.u64 0,Value.int IntKind.u64 0,Value.int IntKind.u64 0,Value.int IntKind.u64 0,Value.int IntKind.u64 0,Value.int IntKind.u64 0,Value.int IntKind.u64 0,Value.int IntKind.u64 0,Value.int IntKind.u64 0,Value.int IntKind.u64 0,Value.int IntKind.u64 0,Value.slice none 0 0] _
 revert G HT hR
 generalize w0.alloc (.cells [Value.int IntKind.u64 0,Value.int IntKind.u64 0,Value.int IntKind.u64 0,Value.int IntKind.u64 0,Value.int IntKind.u64 0,Value.int IntKind.u64 0,Value.int IntKind.u64 0,Value.int IntKind.u64 0,Value.int IntKind.u64 0,Value.int IntKind.u64 0,Value.int IntKind.u64 0,Value.int IntKind.u64 0,Value.int IntKind.u64 0,Value.int IntKind.u64 0,Value.int IntKind.u64 0,Value.int IntKind.u64 0,Value.int IntKind.u64 0,Value.int IntKind.u64 0,Value.int IntKind.u64 0,Value.int IntKind.u64 0,Value.slice none 0 0].toArray 70)=W0
 intro G HT hR
 have Gs:=G.size
 refine wp_region_lit ?_
 refine Fg.aL (v:=.slice a n cap) (w':=W0) rfl (Fg.run_move rfl rfl) ?_
 simp only[Act.put,List.setIfInBounds_toArray,List.set_cons_succ,List.set_cons_zero]
 refine Fg.bU rfl (Fg.aN (vs:=#[.slice a n cap]) rfl rfl (by simp only[List.map_toArray,List.map_cons,List.map_nil,Act.eval];rfl) (Fg.aI Tryz.func116 (by kernel_rfl) (by kernel_rfl))) ?_
 refine (abn B n cap a l W0 HT hl hn (Jy.out.stay G)).mono ?_
 rintro e A1 ⟨t,b,rfl,ga,hyes,hno⟩
 refine⟨_,rfl,?_⟩
 have HY:=Lib.hid (And.intro hyes hno);clear hyes hno
 replace hR:=hR.gn ga
 replace G:=aj G ga
 replace HT:=HT.grown ga
 clear ga
 simp only[Act.put,List.setIfInBounds_toArray,List.set_cons_succ,List.set_cons_zero]
 refine Fg.aL (v:=.tuple #[t.v,.bool b]) (w':=A1) rfl (Fg.run_move rfl rfl) ?_
 simp only[Act.put,List.setIfInBounds_toArray,List.set_cons_succ,List.set_cons_zero]
 refine Fg.aL (v:=t.v) (w':=A1) rfl (Fg.cO rfl rfl rfl) ?_
 simp only[Act.put,List.setIfInBounds_toArray,List.set_cons_succ,List.set_cons_zero]
 refine Fg.aL (v:=.bool b) (w':=A1) rfl (Fg.cO rfl rfl rfl) ?_
 simp only[Act.put,List.setIfInBounds_toArray,List.set_cons_succ,List.set_cons_zero]
 refine Fg.aL (v:=.pointer (some ⟨A1.heap.size,0,none⟩)) (w':=A1.alloc (.cells bE.toArray 68)) rfl (by go_simp) ?_
 simp only[Act.put,List.setIfInBounds_toArray,List.set_cons_succ,List.set_cons_zero]
 have hw4:w0.heap.size<=A1.heap.size:=G.size
 have hb4:=aF.new A1 bE 68
 have lq:=hR.lt
 have ga4:=au (ah A1 none) (.cells bE.toArray 68)
 replace hR:=hR.gn ga4
 replace G:=aj G ga4
 replace HT:=HT.grown ga4
 clear ga4
 obtain⟨N4,hN4⟩:∃x,x=A1.heap.size:=⟨_,rfl⟩
 rw[<- hN4]at hb4 hw4 ⊢
 rw[<- hN4]at lq
 revert hR G HT hb4
 generalize (A1.alloc (.cells bE.toArray 68))=A3
 intro hR G HT hb4
 clear hN4
 refine Fg.aU rfl rfl (Fg.run_store (cs:=aY t) rfl rfl rfl (hb4.there 0 20 (by show 0+20<=20;decide)) aO (gH _)) ?_
 replace hR:=hR.ak (C:=N4) (cs:=aY t) 0 (by omega)
 replace hb4:aF (A3.setCells N4 0 (aY t)) N4 68 (aY t):=hb4.bG rfl
 replace G:=aH (cs:=aY t) G (B:=N4) (hw4) 0
 replace HT:=HT.keep (aK (cs:=aY t) (ah _ (some N4)) 0) (HT0.jS (hw4))
 revert hR hb4 G HT
 generalize A3.setCells N4 0 (aY t)=W1
 intro hR hb4 G HT
 refine Fg.aL (v:=.bool b) (w':=W1) rfl (Fg.run_assign rfl rfl) ?_
 refine wpList_nil ?_
 simp only[Act.put,List.setIfInBounds_toArray,List.set_cons_succ,List.set_cons_zero]
 go_upto_region 2 with (fail)
 refine wp_region_lit ?_
 refine Fg.aL (v:=t.v) (w':=W1) rfl (Fg.run_load rfl rfl (hb4.range 0 (aY t) rfl) Tryz.underlying68 rfl aO) ?_
 simp only[Act.put,List.setIfInBounds_toArray,List.set_cons_succ,List.set_cons_zero]
 refine Fg.aL (v:=.slice a n cap) (w':=W1) rfl (Fg.run_move rfl rfl) ?_
 simp only[Act.put,List.setIfInBounds_toArray,List.set_cons_succ,List.set_cons_zero]
 have qI:=hR.lt
 have Gh:=hb4.lt
 refine Fg.aL (v:=Qb t (.slice a n cap)) (w':=W1) rfl (Fg.run_build (vs:=#[(0,t.v),(1,Value.slice a n cap)]) rfl (by simp only[List.map_toArray,List.map_cons,List.map_nil,Act.eval];rfl) (by kernel_rfl)) ?_
 simp only[Act.put,List.setIfInBounds_toArray,List.set_cons_succ,List.set_cons_zero]
 refine Fg.aL (v:=.bool b) (w':=W1) rfl (Fg.run_move rfl rfl) ?_
 simp only[Act.put,List.setIfInBounds_toArray,List.set_cons_succ,List.set_cons_zero]
 refine Fg.aU rfl rfl (Fg.run_store (cs:=pq t (.slice a n cap)) rfl rfl rfl (hR.there 0 21 (by show 0+21<=21;decide)) qP (wW _ _ _ _)) ?_
 replace hR:aF (W1.setCells w0.heap.size 0 (pq t (.slice a n cap))) w0.heap.size 70 (pq t (.slice a n cap)):=hR.bG rfl
 replace hb4:=hb4.ak (C:=w0.heap.size) (cs:=pq t (.slice a n cap)) 0 (by omega)
 replace G:=aH (cs:=pq t (.slice a n cap)) G (B:=w0.heap.size) (Nat.le_refl _) 0
 replace HT:=HT.keep (aK (cs:=pq t (.slice a n cap)) (ah _ (some w0.heap.size)) 0) (HT0.jS (Nat.le_refl _))
 revert hR hb4 G HT
 generalize W1.setCells w0.heap.size 0 (pq t (.slice a n cap))=W2
 intro hR hb4 G HT
 refine Fg.aL (v:=.bool b) (w':=W2) rfl (Fg.run_assign rfl rfl) ?_
 refine wpList_nil ?_
 simp only[Act.put,List.setIfInBounds_toArray,List.set_cons_succ,List.set_cons_zero]
 go_wp2_with fail
 exact bodyPost_ret (v:=.tuple #[Qb t (.slice a n cap),.bool b]) (dA Tryz.results89 _ _ w0.heap.size 70 (pq t (.slice a n cap)).toArray (0,0) _ rfl hR Tryz.underlying70 rfl qP rfl) rfl ⟨t,b,rfl,G,HY.out⟩
end
end Go.Proofs.YtjgnjhgdmdmebaaGreatDoor
