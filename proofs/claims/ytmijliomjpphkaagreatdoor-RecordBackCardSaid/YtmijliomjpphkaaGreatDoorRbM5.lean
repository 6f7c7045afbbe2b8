/- texts merged -/
import Derived.Test.YtmijliomjpphkaaGreatDoorRbM4
import Derived.Test.YtmijliomjpphkaaGreatDoorRbM1
import Derived.Laws.AppendOwn
import Derived.Laws.MakeOwn
import Derived.Sort.CutIn
import Derived.Laws.CopyOwn
import Derived.IntWalk
import Derived.Test.YtmijliomjpphkaaGreatDoorProg
import Derived.WalkKit
import Derived.Lib.Hide
import Derived.WalkSpells
import Derived.WalkLawsBesides
import Derived.BigQuiet
import Derived.Deep.QuietTactic
import Derived.Laws.Rows
import Derived.Deep.MidRow
import Derived.Deep.RegionWith
import Derived.StillTailTactics
import Derived.Deep.LoopGhost
namespace Go.Proofs.YtmijliomjpphkaaGreatDoor
section
open Go.RowKit Ed
set_option maxRecDepth 100000 in
theorem K4 (PB n lo:Nat) (h:lo<=n):∃a',(∀w,(Instr.slice 155 (.slice (some ⟨PB,0,none⟩) n n) (some (.int .i64 (lo:Int))) none none).run Tryz.prog w=.ok (.slice a' (n-lo) (n-lo)) w)/\(lo<n->a'=some ⟨PB,lo*20,none⟩):=by
 obtain⟨j,hj,hs⟩:∃j,Tryz.prog.info? (Tryz.prog.elem 155)=some j/\j.size=20:=by
  have h1:(Tryz.prog.info? (Tryz.prog.elem 155)).map (·.size)=some 20:=by kernel_rfl
  cases hq:Tryz.prog.info? (Tryz.prog.elem 155) with
  | none=>rw[hq]at h1;cases h1
  | some j=>rw[hq]at h1;exact⟨j,rfl,by simpa using h1⟩
 refine⟨if n=lo then some ⟨PB,0,none⟩ else (some (⟨PB,0,none⟩:Addr)).map (·.add (lo*20)),fun w=>?_,?_⟩
 .rw[run_slice_l w 155 (some ⟨PB,0,none⟩) n n Tryz.underlying155 .i64 _ (by omega) (by omega),Int.toNat_natCast]
  simp[sizeOf,typeInfo,hj,hs,sliced]
 .intro hlt
  rw[if_neg (by omega)]
  simp[Addr.add]
  omega
theorem Pn (PB n:Nat) (h:1<=n):∃a',(∀w,(Instr.slice 155 (.slice (some ⟨PB,0,none⟩) n n) (some (.int .i64 1)) none none).run Tryz.prog w=.ok (.slice a' (n-1) (n-1)) w)/\(1<n->a'=some ⟨PB,20,none⟩):=K4 PB n 1 h
def tu:List Pr->Pr
 | []=>zero
 | p:: r=>r.foldl Ed.add p
theorem K5 (p:Pr) (r:List Pr) (x:Pr):tu ((p:: r)++[x])=Ed.add (tu (p:: r)) x:=by simp[tu]
def lU (L:List Pt) (ps:List Pr):Prop:=L.length=ps.length/\∀i,i<L.length->iO (L.getD i bQ) (ps.getD i zero)
theorem Ir (L:List Pt):(iY L).length=20*L.length:=by
 induction L with
 | nil=>rfl
 | cons x r ih=>simp only[iY,List.flatMap_cons,List.length_append,List.length_cons]at *;rw[ih];show 20+_=_;omega
theorem K6 (L:List Pt) (k:Nat) (hk:k<L.length) (V:List Value):((iY L++V).drop (20*k)).take 20=aY (L.getD k bQ):=by
 induction L generalizing k with
 | nil=>simp at hk
 | cons x r ih=>
  cases k with
  | zero=>
   show ((aY x++iY r++V).drop 0).take 20=aY x
   rw[List.drop_zero,List.append_assoc,List.take_append_of_le_length (by show 20<=20;omega)]
   exact List.take_of_length_le (by show 20<=20;omega)
  | succ k=>
   have hx:(aY x).length=20:=rfl
   show ((aY x++iY r++V).drop (20*(k+1))).take 20=aY (r.getD k bQ)
   rw[List.append_assoc,List.drop_append,List.drop_eq_nil_of_le (by rw[hx];omega),List.nil_append,hx,show 20*(k+1)-20=20*k by omega]
   exact ih k (by simpa using hk)
theorem K7 {w:World} {PB:Nat} {T:TypeId} {L:List Pt} {V:List Value} (h:aH w PB T (iY L++V)) (k:Nat) (hk:k<L.length):w.rangeAt PB (20*k) (aY (L.getD k bQ)):=by
 refine h.range (20*k) _ ?_
 show List.take 20 _=_
 exact K6 L k hk V
theorem zD (ps:List Pr) (k:Nat) (h:k<ps.length):ps.take (k+1)=ps.take k++[ps.getD k zero]:=by
 rw[List.take_succ_eq_append_getElem h,List.getD_eq_getElem?_getD,List.getElem?_eq_getElem h];rfl
theorem K8 (ps:List Pr) (k:Nat) (h:k+1<ps.length):tu (ps.take (k+1)++[ps.getD (k+1) zero])=Ed.add (tu (ps.take (k+1))) (ps.getD (k+1) zero):=by
 cases ps with
 | nil=>simp at h
 | cons p r=>rw[List.take_succ_cons];exact K5 p _ _
set_option maxRecDepth 100000 in
set_option maxHeartbeats 6400000 in
theorem ac4 (PB n:Nat) (L:List Pt) (ps:List Pr) (V:List Value) (w0:World) (HT0:eY w0) (hn:L.length=n) (h1:1<=n) (hn2:n<=1000) (hI:lU L ps) (hP:aH w0 PB 56 (iY L++V)):
  Calls Tryz.prog 136 #[.slice (some ⟨PB,0,none⟩) n n] w0 (MP (tu ps) w0):=by
 have ZY:=hP.lt
 have HP:Hid (∀k,k<L.length->w0.rangeAt PB (20*k) (aY (L.getD k bQ))):=Lib.hid (fun k hk=>K7 hP k hk)
 have hps:ps.length=n:=hI.1.symm.trans hn
 have HI:=Lib.hid hI;clear hI hP
 obtain⟨a',ha1,ha2⟩:=Pn PB n h1
 have HA1:=Lib.hid (And.intro ha1 ha2);clear ha1 ha2
 have h1':0<n:=by omega
 have h2:((n:Int)==0)=false:=by simpa using (show ¬(n:Int)=0 by omega)
 go_enter Tryz.func136,Tryz.ntmps136
 go_upto_region 3 with (fail)
 have G:w0.grownBy (w0.alloc (.cells bB.toArray 56)) none:=av (ah _ _) _
 have HT:eY (w0.alloc (.cells bB.toArray 56)):=HT0.grown (av (ah _ _) _)
 have hR:aH (w0.alloc (.cells bB.toArray 56)) (w0.heap.size) 56 bB:=aH.new w0 bB _
 revert G HT hR
 generalize w0.alloc (.cells bB.toArray 56)=W0
 intro G HT hR
 have Gs:=G.size
 have HPW:Hid (∀k,k<L.length->W0.rangeAt PB (20*k) (aY (L.getD k bQ))):=Lib.hid (fun k hk=>fG (HP.out k hk) G ZY (by simp))
 have ag5:PB<W0.heap.size:=Nat.lt_of_lt_of_le ZY Gs
 have lI:=G.size
 have lG:=hR.lt
 refine Fg.rP [3] [.any,.any,.any,.fresh 159 nX W0.heap.size,.any,.any,.any,.any,.any,.any,.val (Value.slice (some ⟨PB,0,none⟩) n n),.val (Value.pointer (some ⟨PB,0,none⟩)),.val (((L.getD 0 bQ)).v),.val ((oD ((L.getD 0 bQ))).v)] 5 ?_ ?_
 .refine Fg.vS rfl (by decide) (fun _ _ h=>Fg.vn _ (Fg.run_move rfl (h.r 0))) ?_
  refine Fg.vS rfl (by decide) (fun ac w h=>?_) ?_
  .have e10:_=Value.slice (some ⟨PB,0,none⟩) n n:=h.d 10
   refine⟨aB rfl,Value.pointer (some ⟨PB,0,none⟩),w,?_,ah _ _,rfl⟩
   clear h
   simp only[execOp,Act.eval,e10]
   go_simp
  refine Fg.vS rfl (by decide) (fun _ _ h=>Fg.vn _ (Fg.run_load rfl (h.d 11) (fG (HPW.out 0 (by omega)) h.base ag5 (by simp)) Tryz.underlying56 rfl aP)) ?_
  refine Fg.cS rfl (by decide) (fun _ w h=>Fg.cq rfl (xY _ _) ⟨h.d 12,trivial⟩ Tryz.func108) ?_
  refine⟨⟨⟨_,rfl⟩,Fg.gF (fun _ _ h k=>aj h k) rfl (by show 3<26;decide) fun ac w h=>?_⟩,?_⟩
  .refine⟨aB rfl,w.alloc (.cells nX.toArray 159),?_,World.grownBy_alloc _ _ _,by simp,⟨w.heap.size,rfl,h.base.size,aH.new w nX _⟩⟩
   clear h
   go_simp
  trivial
 .intro qa V1 g1 hsz hdf hrest aC hpt
  obtain⟨u1,hs1⟩:=Fg.bL qa 1
  obtain⟨N3,hs3,Yv,hb3⟩:∃N,qa.tmps.getD 3 undef=.pointer (some ⟨N,0,none⟩)/\W0.heap.size<=N/\aH V1 N 159 nX:=aC 3 (by kernel_rfl)
  obtain⟨⟨u4,hs4⟩,⟨u6,hs6⟩,⟨u7,hs7⟩,⟨u8,lC⟩,⟨u9,jD⟩,⟨u10,fM⟩,⟨u11,d9⟩,⟨u12,fJ⟩,_⟩:=Fg.bn qa [4,6,7,8,9,10,11,12]
  obtain⟨x1,hx1⟩:∃x:Sm,x=oD ((L.getD 0 bQ)):=⟨_,rfl⟩
  obtain⟨⟨u14,dw⟩,⟨u15,dM⟩,⟨u16,dG⟩,⟨u17,eD⟩,⟨u18,eF⟩,⟨u19,eG⟩,⟨u20,dU⟩,⟨u21,eP⟩,⟨u22,eT⟩,⟨u23,dV⟩,⟨u24,dO⟩,⟨u25,eH⟩,_⟩:=Fg.bn qa [14,15,16,17,18,19,20,21,22,23,24,25]
  obtain rfl:=Fg.gW (a:=qa) (vs:=[Value.slice (some ⟨PB,0,none⟩) n n,u1,Value.pointer (some ⟨w0.heap.size,0,none⟩),Value.pointer (some ⟨N3,0,none⟩),u4,undef,u6,u7,u8,u9,u10,u11,u12,x1.v,u14,u15,u16,u17,u18,u19,u20,u21,u22,u23,u24,u25]) hsz ⟨hrest 0 (by kernel_rfl),hs1,hrest 2 (by kernel_rfl),hs3,hs4,hrest 5 (by kernel_rfl),hs6,hs7,lC,jD,fM,d9,fJ,(show qa.tmps.getD 13 undef=x1.v by rw[hx1];exact aC 13 (by kernel_rfl)),dw,dM,dG,eD,eF,eG,dU,eP,eT,dV,dO,eH,trivial⟩ hdf
  clear hsz hdf hrest aC hpt hs1 hs3 hs4 hs6 hs7 lC jD fM d9 fJ dw dM dG eD eF eG dU eP eT dV dO eH
  have mZ:=Lib.hid hx1;clear hx1
  replace hR:=hR.gn g1
  replace G:=aj G g1
  replace HT:=HT.grown g1
  have hw3:w0.heap.size<=N3:=Nat.le_trans lI Yv
  clear g1
  refine Fg.aV rfl rfl (Fg.run_store (cs:=lF x1) rfl rfl rfl (hb3.there 0 30 (by show 0+30<=30;decide)) sU (zy _)) ?_
  replace hR:=hR.au (C:=N3) (cs:=lF x1) 0 (by omega)
  replace hb3:aH (V1.setCells N3 0 (lF x1)) N3 159 (lF x1):=hb3.bC rfl
  replace G:=aG (cs:=lF x1) G (B:=N3) (hw3) 0
  replace HT:=HT.keep (aK (cs:=lF x1) (ah _ (some N3)) 0) (HT0.jW (hw3))
  revert hR hb3 G HT
  generalize V1.setCells N3 0 (lF x1)=W2
  intro hR hb3 G HT
  have qU:=hR.lt
  have Bd:=hb3.lt
  clear h2
  have hs0:mG x1 (tu (ps.take 1)):=by
   rw[mZ.out]
   have h0:=HI.out.2 0 (by omega)
   have e:tu (ps.take 1)=ps.getD 0 zero:=by
    cases ps with
    | nil=>simp at hps;omega
    | cons p r=>rfl
   rw[e]
   exact ML h0
  have hrun:=HA1.out.1
  have HS:=Lib.hid (And.intro hs0 (And.intro hb3 (And.intro hR (And.intro G HT))));clear hs0 hb3 hR G HT
  obtain⟨m,hm⟩:∃m,m=n-1:=⟨_,rfl⟩
  rw[<- hm]at hrun
  have hm1:m+1=n:=by omega
  have HM:=Lib.hid hm;clear hm
  go_wp2
  clear hrun
  go_loopw [5,17] (fun v5 i wr=>∃k:Nat,k+1<=n/\i=.int .i64 k/\w0.grownBy wr none/\eY wr/\Hid (Fg.jN [v5] wr)/\aH wr w0.heap.size 56 bB/\∃s',mG s' (tu (ps.take (k+1)))/\aH wr N3 159 (lF s')) (fun _ i _=>n-(intOf i).toNat)
  case atStart=>exact⟨0,by omega,rfl,HS.out.2.2.2.1,HS.out.2.2.2.2,Lib.hid (Fg.jO _ _ rfl),HS.out.2.2.1,_,HS.out.1,HS.out.2.1⟩
  case round=>
   clear HS
   obtain⟨k,hk,rfl,G,HT,HA,hR,s',hs',hb3⟩:=hrel
   by_cases hkn:k<m
   .have i0:(k:Int)<m:=by omega
    obtain rfl:=HA1.out.2 (by omega)
    have hz:wr.heap.size<=wr.heap.size:=Nat.le_refl _
    have hwr:=G.size
    have HPR:Hid (wr.rangeAt PB (20*(k+1)) (aY (L.getD (k+1) bQ))):=Lib.hid (fG (HP.out (k+1) (by omega)) G ZY (by simp))
    have Z0:PB<wr.heap.size:=Nat.lt_of_lt_of_le ZY hwr
    go_upto_region 6 with (fail)
    have lI:=G.size
    have YC:=hb3.lt
    have lG:=hR.lt
    refine Fg.iK (ps:=[5]) [.any,.any,.any,.any,.any,.fresh 56 bB wr.heap.size,.any,.any,.any,.any,.any,.any,.any,.any,.any,.any,.any,.any,.any,.val (Value.pointer (some ⟨PB,20+k*20,none⟩)),.val (((L.getD (k+1) bQ)).v)] (fun w=>World.grownBy wr w none) 3 (ah _ _) (by kernel_rfl) (by kernel_rfl) (by decide) (Fg.qM (l:=[u5]) rfl HA.out) ?_ ?_
    .refine Fg.vS rfl (by decide) (fun ac w h=>?_) ?_
     .have e15:_=Value.slice (some ⟨PB,20,none⟩) m m:=h.r 15
      have e17:_=Value.int .i64 (k:Int):=h.r 17
      refine⟨aB rfl,Value.pointer (some ⟨PB,20+k*20,none⟩),w,?_,ah _ _,rfl⟩
      clear h
      simp only[execOp,Act.eval,e15,e17]
      go_simp
     refine Fg.vS rfl (by decide) (fun _ _ h=>Fg.vn (((L.getD (k+1) bQ)).v) (Fg.run_load rfl (h.d 19) ((by rw[show 20+k*20=20*(k+1) by omega];exact fG HPR.out h.base Z0 (by simp))) Tryz.underlying56 rfl aP)) ?_
     refine⟨⟨⟨_,rfl⟩,Fg.gF (fun _ _ h k=>aj h k) rfl (by show 5<26;decide) fun ac w h=>?_⟩,?_⟩
     .refine⟨aB rfl,w.alloc (.cells bB.toArray 56),?_,World.grownBy_alloc _ _ _,by simp,⟨w.heap.size,rfl,h.base.size,aH.new w bB _⟩⟩
      clear h
      go_simp
     trivial
    .intro qa V1 g1 hsz hdf hrest aC hpt
     obtain⟨N5,hs5,Qv,hb5⟩:∃N,qa.tmps.getD 5 undef=.pointer (some ⟨N,0,none⟩)/\wr.heap.size<=N/\aH V1 N 56 bB:=aC 5 (by kernel_rfl)
     obtain⟨u19,eG⟩:=Fg.bL qa 19
     obtain⟨qg,K9⟩:∃x:Pt,x=(L.getD (k+1) bQ):=⟨_,rfl⟩
     obtain rfl:=Fg.aQ [5,19,20] (vs:=[_,_,_,_,_,Value.pointer (some ⟨N5,0,none⟩),_,_,_,_,_,_,_,_,_,_,_,_,_,u19,qg.v,_,_,_,_,_]) hsz hrest (by kernel_rfl) rfl rfl ⟨hs5,eG,(show qa.tmps.getD 20 undef=qg.v by rw[K9];exact aC 20 (by kernel_rfl)),trivial⟩ hdf
     clear hsz hdf hrest aC hpt hs5 eG
     have Z4:=Lib.hid K9;clear K9
     replace hb3:=hb3.gn g1
     replace hR:=hR.gn g1
     replace G:=aj G g1
     replace HT:=HT.grown g1
     replace hz:=Nat.le_trans hz g1.size
     have FH:w0.heap.size<=N5:=Nat.le_trans lI Qv
     clear g1
     refine Fg.aV rfl rfl (Fg.run_store (cs:=aY qg) rfl rfl rfl (hb5.there 0 20 (by show 0+20<=20;decide)) aP (gJ _)) ?_
     replace hb3:=hb3.au (C:=N5) (cs:=aY qg) 0 (by omega)
     replace hR:=hR.au (C:=N5) (cs:=aY qg) 0 (by omega)
     replace hb5:aH (V1.setCells N5 0 (aY qg)) N5 56 (aY qg):=hb5.bC rfl
     replace hz:=Nat.le_trans hz (aK (cs:=aY qg) (ah V1 (some N5)) 0).size
     replace G:=aG (cs:=aY qg) G (B:=N5) (FH) 0
     replace HT:=HT.keep (aK (cs:=aY qg) (ah _ (some N5)) 0) (HT0.jW (FH))
     revert hb3 hR hb5 hz G HT
     generalize V1.setCells N5 0 (aY qg)=W2
     intro hb3 hR hb5 hz G HT
     have ac5:iO qg (ps.getD (k+1) zero):=by rw[Z4.out];exact HI.out.2 (k+1) (by omega)
     have ok5:=ac5.ok
     go_upto_region 7 with (fail)
     have vO:=G.size
     have Bd:=hb3.lt
     have qU:=hR.lt
     have wR:=hb5.lt
     refine Fg.rP [] [.any,.any,.any,.any,.any,.any,.any,.any,.any,.any,.any,.any,.any,.any,.any,.any,.any,.any,.any,.any,.any,.val (qg.v),.val ((zf qg).v)] 2 ?_ ?_
     .refine Fg.vS rfl (by decide) (fun _ _ h=>Fg.vn qg.v (Fg.run_load rfl (h.r 5) ((hb5.gn h.base).range 0 (aY qg) rfl) Tryz.underlying56 rfl aP)) ?_
      refine Fg.cS rfl (by decide) (fun _ w h=>Fg.cq rfl (wQ qg _ (HT.grown h.base) ok5) ⟨h.d 21,trivial⟩ Tryz.func137) ?_
      trivial
     .intro qa V3 g3 hsz hdf hrest aC hpt
      obtain⟨u21,eP⟩:=Fg.bL qa 21
      obtain⟨x12,Z5⟩:∃x:Ad,x=zf qg:=⟨_,rfl⟩
      obtain rfl:=Fg.aQ [21,22] (vs:=[_,_,_,_,_,_,_,_,_,_,_,_,_,_,_,_,_,_,_,_,_,u21,x12.v,_,_,_]) hsz hrest (by kernel_rfl) rfl rfl ⟨eP,(show qa.tmps.getD 22 undef=x12.v by rw[Z5];exact aC 22 (by kernel_rfl)),trivial⟩ hdf
      clear hsz hdf hrest aC hpt eP
      have ag7:=Lib.hid Z5;clear Z5
      replace hb3:=hb3.gn g3
      replace hR:=hR.gn g3
      replace hb5:=hb5.gn g3
      replace G:=aj G g3
      replace HT:=HT.grown g3
      replace hz:=Nat.le_trans hz g3.size
      clear g3
      have Hl:=hb3.lt
      have uy:=hR.lt
      have yS:=hb5.lt
      refine Fg.bP rfl (Fg.aN (vs:=#[Value.pointer (some ⟨N3,0,none⟩),x12.v]) rfl rfl (by simp only[List.map_toArray,List.map_cons,List.map_nil,Act.eval];rfl) (Fg.aI Tryz.func111 (by kernel_rfl) (by kernel_rfl))) ?_
      refine (Ih N3 s' x12 _ _ _ HT (HT0.jW hw3) hb3 hs' (by rw[ag7.out];exact acv ac5)).mono ?_
      rintro e C7 ⟨rfl,gc,s9,jD,hc⟩
      refine⟨_,rfl,?_⟩
      replace G:=aW G gc hw3
      replace HT:=HT.keep gc (HT0.jW hw3)
      replace hR:=hR.grown gc (bH (by omega))
      have z9:=gc.size
      have WA:=Lib.hid (Fg.nN (N:=N5) (w:=C7) (by omega))
      have fM:mG s9 (tu (ps.take (k+1+1))):=by rw[zD ps (k+1) (by omega),K8 ps k (by omega)];exact jD
      have H9:=Lib.hid (And.intro fM (And.intro hc (And.intro hR (And.intro G HT))))
      clear jD fM hc hR G HT gc hb5
      clear YC lG Bd qU wR Hl uy yS
      go_wp2
      go_roundw
      case rel=>exact⟨k+1,by omega,by go_num,H9.out.2.2.2.1,H9.out.2.2.2.2,WA,H9.out.2.2.1,_,H9.out.1,H9.out.2.1⟩
      case measure=>simp[intOf];omega
   .have hkm:k=m:=by omega
    subst hkm
    have hsx:mG s' (tu ps):=by rw[<- List.take_of_length_le (show ps.length<=k+1 by omega)];exact hs'
    clear hs'
    have hs':=hsx;clear hsx
    have hwr:=G.size
    go_upto_region 9 with (fail)
    have lI:=G.size
    have YC:=hb3.lt
    have lG:=hR.lt
    refine Fg.rP [] [] 0 ?_ ?_
    .trivial
    .intro qa V1 g1 hsz hdf hrest aC hpt
     obtain⟨⟨u0,hs0⟩,⟨u1,hs1⟩,⟨u4,hs4⟩,⟨u5,hs5⟩,⟨u6,hs6⟩,⟨u7,hs7⟩,⟨u8,lC⟩,⟨u9,jD⟩,⟨u10,fM⟩,⟨u11,d9⟩,⟨u12,fJ⟩,⟨u13,dL⟩,⟨u14,dw⟩,⟨u15,dM⟩,⟨u16,dG⟩,⟨u17,eD⟩,⟨u18,eF⟩,⟨u19,eG⟩,⟨u20,dU⟩,⟨u21,eP⟩,⟨u22,eT⟩,⟨u23,dV⟩,⟨u24,dO⟩,⟨u25,eH⟩,_⟩:=Fg.bn qa [0,1,4,5,6,7,8,9,10,11,12,13,14,15,16,17,18,19,20,21,22,23,24,25]
     obtain rfl:=Fg.gW (a:=qa) (vs:=[u0,u1,Value.pointer (some ⟨w0.heap.size,0,none⟩),Value.pointer (some ⟨N3,0,none⟩),u4,u5,u6,u7,u8,u9,u10,u11,u12,u13,u14,u15,u16,u17,u18,u19,u20,u21,u22,u23,u24,u25]) hsz ⟨hs0,hs1,hrest 2 (by kernel_rfl),hrest 3 (by kernel_rfl),hs4,hs5,hs6,hs7,lC,jD,fM,d9,fJ,dL,dw,dM,dG,eD,eF,eG,dU,eP,eT,dV,dO,eH,trivial⟩ hdf
     clear hsz hdf hrest aC hpt hs0 hs1 hs4 hs5 hs6 hs7 lC jD fM d9 fJ dL dw dM dG eD eF eG dU eP eT dV dO eH
     replace hb3:=hb3.gn g1
     replace hR:=hR.gn g1
     replace G:=aj G g1
     replace HT:=HT.grown g1
     clear g1
     have Bd:=hb3.lt
     have qU:=hR.lt
     refine Fg.bP rfl (Fg.aN (vs:=#[Value.pointer (some ⟨N3,0,none⟩)]) rfl rfl (by simp only[List.map_toArray,List.map_cons,List.map_nil,Act.eval];rfl) (Fg.aI Tryz.func112 (by kernel_rfl) (by kernel_rfl))) ?_
     refine (uh N3 s' _ hb3 hs'.ok).mono ?_
     rintro e C9 ⟨rfl,gc,hc⟩
     refine⟨_,rfl,?_⟩
     replace hR:=hR.grown gc (bH (by omega))
     replace hb3:=hc
     replace G:=aW G gc (hw3)
     replace HT:=HT.keep gc (HT0.jW (hw3))
     clear gc
     obtain⟨t9,FI⟩:∃t,t=lT s':=⟨_,rfl⟩
     rw[<- FI]
     have ZX:=Lib.hid FI;clear FI
     refine Fg.aV rfl rfl (Fg.run_store (cs:=aY t9) rfl rfl rfl (hR.there 0 20 (by show 0+20<=20;decide)) aP (gJ _)) ?_
     replace hb3:=hb3.au (C:=w0.heap.size) (cs:=aY t9) 0 (by omega)
     replace hR:aH (C9.setCells w0.heap.size 0 (aY t9)) w0.heap.size 56 (aY t9):=hR.bC rfl
     replace G:=aG (cs:=aY t9) G (B:=w0.heap.size) (by omega) 0
     replace HT:=HT.keep (aK (cs:=aY t9) (ah _ (some w0.heap.size)) 0) (HT0.jW (by omega))
     revert hb3 hR G HT
     generalize C9.setCells w0.heap.size 0 (aY t9)=W2
     intro hb3 hR G HT
     go_wp2_with fail
     exact bodyPost_ret (v:=t9.v) (results_cell_row Tryz.results136 _ _ w0.heap.size 56 (aY t9).toArray (0,0) _ rfl hR Tryz.underlying56 rfl aP) rfl ⟨t9,by rw[ZX.out];exact EA hs',rfl,G⟩
end
section
open Go.RowKit Ow Ed
def pV (w:World) (B:Nat) (T:TypeId) (L:List Value):Prop:=∃rest:List Value,L.length+rest.length=320/\aH w B T (L++rest)
theorem pV.grown {w w':World} {B:Nat} {T:TypeId} {L:List Value} {row:Option Nat} (h:pV w B T L) (hg:w.grownBy w' row) (hr:some B≠row):pV w' B T L:=by
 obtain⟨r,hl,hb⟩:=h
 exact⟨r,hl,hb.grown hg hr⟩
theorem pV.lt {w:World} {B:Nat} {T:TypeId} {L:List Value} (h:pV w B T L):B<w.heap.size:=by
 obtain⟨r,hl,hb⟩:=h
 exact hb.lt
theorem pV.au {w:World} {B C:Nat} {T:TypeId} {L cs:List Value} (h:pV w B T L) (o:Nat) (hne:C≠B):pV (w.setCells C o cs) B T L:=by
 obtain⟨r,hl,hb⟩:=h
 exact⟨r,hl,hb.au o hne⟩
theorem pV.pts {w:World} {B:Nat} {T:TypeId} {L:List Pt} (h:pV w B T (iY L)) (k:Nat) (hk:k<L.length):w.rangeAt B (20*k) (aY (L.getD k bQ)):=by
 obtain⟨r,_,hb⟩:=h
 exact K7 hb k hk
set_option maxRecDepth 100000 in
theorem vB:∃i z,Tryz.prog.info? 56=some i/\i.zero=some z/\i.size=20/\i.bytes=160/\z.cells.size=20:=by
 have h:(Tryz.prog.info? 56).map (fun i=>(i.zero.map (·.cells.size),i.size,i.bytes))=some (some 20,20,160):=by kernel_rfl
 cases hi:Tryz.prog.info? 56 with
 | none=>rw[hi]at h;cases h
 | some i=>
  rw[hi]at h
  simp only[Option.map_some,Option.some.injEq,Prod.mk.injEq]at h
  obtain⟨h1,h2,h3⟩:=h
  cases hz:i.zero with
  | none=>rw[hz]at h1;cases h1
  | some z=>rw[hz]at h1;exact⟨i,z,rfl,hz,h2,h3,by simpa using h1⟩
set_option maxRecDepth 100000 in
theorem yV:∃i z,Tryz.prog.info? 167=some i/\i.zero=some z/\i.size=20/\i.bytes=160/\z.cells.size=20:=by
 have h:(Tryz.prog.info? 167).map (fun i=>(i.zero.map (·.cells.size),i.size,i.bytes))=some (some 20,20,160):=by kernel_rfl
 cases hi:Tryz.prog.info? 167 with
 | none=>rw[hi]at h;cases h
 | some i=>
  rw[hi]at h
  simp only[Option.map_some,Option.some.injEq,Prod.mk.injEq]at h
  obtain⟨h1,h2,h3⟩:=h
  cases hz:i.zero with
  | none=>rw[hz]at h1;cases h1
  | some z=>rw[hz]at h1;exact⟨i,z,rfl,hz,h2,h3,by simpa using h1⟩
theorem Po (z:Array Value) (n:Nat):(madeCells z n).size=n:=by simp[madeCells]
theorem DT (t e:TypeId) (ht:Tryz.prog.underlying t=some (.slice e)) (hi:∃i z,Tryz.prog.info? e=some i/\i.zero=some z/\i.size=20/\i.bytes=160/\z.cells.size=20) (w:World):
  ∃w',(Instr.makeSlice t (.int .i64 0) (.int .i64 16)).run Tryz.prog w=.ok (.slice (some ⟨w.heap.size,0,none⟩) 0 16) w'/\w.grownBy w' none/\w.heap.size<w'.heap.size/\pV w' w.heap.size e []:=by
 obtain⟨i,z,hi,hz,hs,hb,_⟩:=hi
 have h2:=run_make (P:=Tryz.prog) w t e i z ht hi hz .i64 .i64 0 16 (by omega) (by omega) (by rw[hb];omega) (by omega)
 refine⟨_,h2,av (ah _ _) _,by simp,(madeCells z.cells ((16:Int).toNat*i.size)).toList,?_,?_⟩
 .rw[List.length_nil,Array.length_toList,Po,hs];rfl
 .have:=aH.new w (madeCells z.cells ((16:Int).toNat*i.size)).toList e
  simpa using this
theorem tC (t e:TypeId) (ht:Tryz.prog.underlying t=some (.slice e)) (hi:∃i z,Tryz.prog.info? e=some i/\i.zero=some z/\i.size=20/\i.bytes=160/\z.cells.size=20) (w:World) (B N m:Nat) (L x:List Value) (T:TypeId)
  (hP:pV w B e L) (hL:L.length=20*m) (hm:m<16) (hN:aH w N T x) (hx:x.length=20) (h1:x.all (·.oneCell')=true):
  ∃w',(Builtin.append_ #[t,t] t #[.slice (some ⟨B,0,none⟩) m 16,.slice (some ⟨N,0,none⟩) 1 1]).run Tryz.prog w=.ok (.slice (some ⟨B,0,none⟩) (m+1) 16) w'/\w.grownBy w' (some B)/\pV w' B e (L++x):=by
 obtain⟨i,z,hi,hz,hs,_,_⟩:=hi
 obtain⟨r,hl,hb⟩:=hP
 have hr:=run_append_room w (P:=Tryz.prog) t t e i ht hi B m 16 (L++r).toArray hb ⟨N,0,none⟩ 1 1 x (by rw[hx,hs]) (fun j u hu=>by rw[Addr.add_mid,Nat.zero_add];exact hN.cell hu) (fun u hu=>(List.all_eq_true.1 h1) u hu) (by omega) (by simp;rw[hs,hx];omega)
 refine⟨_,hr,uS (ah _ _) _,r.drop 20,?_,?_⟩
 .rw[List.length_append,List.length_drop,hx];omega
 .have e1:((L++r).toArray.toList.take (m*i.size)++x++(L++r).toArray.toList.drop (m*i.size+x.length))=(L++x)++r.drop 20:=by
   have em:m*i.size=L.length:=by rw[hs,hL];omega
   rw[em,hx]
   show (L++r).take L.length++x++(L++r).drop (L.length+20)=_
   rw[List.take_left,List.drop_append]
   simp
  rw[e1]
  exact hb.row _
theorem Z6 (k:Nat) (h:k<4):2^k+2^k<=16:=by
 obtain rfl|rfl|rfl|rfl:k=0\/k=1\/k=2\/k=3:=by omega
 all_goals decide
theorem Tg {α:Type} (a b:List α) (d:α) (i:Nat) (h:i<a.length):(a++b).getD i d=a.getD i d:=by
 rw[List.getD_eq_getElem?_getD,List.getElem?_append_left h,<- List.getD_eq_getElem?_getD]
def qY (ps:List Pr):List Pr:=ps.foldl (fun L p=>L++L.map fun s=>Ed.add s p) [zero]
theorem Ti (ps:List Pr) (p:Pr):qY (ps++[p])=qY ps++(qY ps).map fun s=>Ed.add s p:=by simp[qY]
theorem vC (ps:List Pr):(qY ps).length=2^ps.length:=by
 have gen:∀(ps L:List Pr),(ps.foldl (fun L p=>L++L.map fun s=>Ed.add s p) L).length=L.length*2^ps.length:=by
  intro ps
  induction ps with
  | nil=>intro L;simp
  | cons p r ih=>
   intro L
   rw[List.foldl_cons,ih,List.length_append,List.length_map,List.length_cons,Nat.pow_succ]
   rw[<- Nat.mul_two,Nat.mul_assoc,Nat.mul_comm 2]
 have:=gen ps [zero]
 simpa[qY] using this
theorem Iu {L:List Pt} {ps:List Pr} {t:Pt} {p:Pr} (h:lU L ps) (ht:iO t p):lU (L++[t]) (ps++[p]):=by
 refine⟨by simp[h.1],fun i hi=>?_⟩
 by_cases hlt:i<L.length
 .rw[List.getD_eq_getElem?_getD,List.getD_eq_getElem?_getD,List.getElem?_append_left hlt,List.getElem?_append_left (h.1▸hlt),<- List.getD_eq_getElem?_getD,<- List.getD_eq_getElem?_getD]
  exact h.2 i hlt
 .have hi2:i=L.length:=by simp at hi;omega
  subst hi2
  rw[List.getD_eq_getElem?_getD,List.getD_eq_getElem?_getD,List.getElem?_append_right (Nat.le_refl _),List.getElem?_append_right (by rw[h.1];omega)]
  simpa[h.1] using ht
theorem Pp (L:List Pt) (t:Pt):iY (L++[t])=iY L++aY t:=by simp[iY]
def xZ (L:List Ad) (ps:List Pr):Prop:=L.length=ps.length/\∀i,i<L.length->KI (L.getD i (zf bQ)) (ps.getD i zero)
theorem Iw {L:List Ad} {ps:List Pr} {t:Ad} {p:Pr} (h:xZ L ps) (ht:KI t p):xZ (L++[t]) (ps++[p]):=by
 refine⟨by simp[h.1],fun i hi=>?_⟩
 by_cases hlt:i<L.length
 .rw[List.getD_eq_getElem?_getD,List.getD_eq_getElem?_getD,List.getElem?_append_left hlt,List.getElem?_append_left (h.1▸hlt),<- List.getD_eq_getElem?_getD,<- List.getD_eq_getElem?_getD]
  exact h.2 i hlt
 .have hi2:i=L.length:=by simp at hi;omega
  subst hi2
  rw[List.getD_eq_getElem?_getD,List.getD_eq_getElem?_getD,List.getElem?_append_right (Nat.le_refl _),List.getElem?_append_right (by rw[h.1];omega)]
  simpa[h.1] using ht
theorem Pq (L:List Ad) (t:Ad):qB (L++[t])=qB L++xV t:=by simp[qB]
theorem Iy (L:List Ad):(qB L).length=20*L.length:=by
 induction L with
 | nil=>rfl
 | cons x r ih=>simp only[qB,List.flatMap_cons,List.length_append,List.length_cons]at *;rw[ih];show 20+_=_;omega
theorem La (L:List Ad) (k:Nat) (hk:k<L.length) (V:List Value):((qB L++V).drop (20*k)).take 20=xV (L.getD k (zf bQ)):=by
 induction L generalizing k with
 | nil=>simp at hk
 | cons x r ih=>
  cases k with
  | zero=>
   show ((xV x++qB r++V).drop 0).take 20=xV x
   rw[List.drop_zero,List.append_assoc,List.take_append_of_le_length (by show 20<=20;omega)]
   exact List.take_of_length_le (by show 20<=20;omega)
  | succ k=>
   have hx:(xV x).length=20:=rfl
   show ((xV x++qB r++V).drop (20*(k+1))).take 20=xV (r.getD k (zf bQ))
   rw[List.append_assoc,List.drop_append,List.drop_eq_nil_of_le (by rw[hx];omega),List.nil_append,hx,show 20*(k+1)-20=20*k by omega]
   exact ih k (by simpa using hk)
theorem Z7 {w:World} {B:Nat} {T:TypeId} {L:List Ad} {V:List Value} (h:aH w B T (qB L++V)) (k:Nat) (hk:k<L.length):w.rangeAt B (20*k) (xV (L.getD k (zf bQ))):=by
 refine h.range (20*k) _ ?_
 show List.take 20 _=_
 exact La L k hk V
end
section
open Go.RowKit Ow Ed
set_option maxRecDepth 100000 in
set_option maxHeartbeats 12800000 in
theorem Iz (PB n:Nat) (P4:List Pt) (ps:List Pr) (V:List Value) (w0:World) (HT0:eY w0) (hn:P4.length=n) (MX:n<=4) (hI:lU P4 ps) (Z8:aH w0 PB 56 (iY P4++V)):
  Calls Tryz.prog 107 #[.slice (some ⟨PB,0,none⟩) n n] w0 fun e w'=>∃(RB m:Nat) (R:List Ad),e=.returned (.slice (some ⟨RB,0,none⟩) m 16)/\m=2^n/\xZ R (qY ps)/\pV w' RB 167 (qB R)/\w0.grownBy w' none/\w0.heap.size<=RB:=by
 have ZY:=Z8.lt
 have HP:Hid (∀k,k<P4.length->w0.rangeAt PB (20*k) (aY (P4.getD k bQ))):=Lib.hid (fun k hk=>K7 Z8 k hk)
 have hps:ps.length=n:=hI.1.symm.trans hn
 have HI:=Lib.hid hI;clear hI Z8
 obtain⟨W1,hmk,G,s1,hP⟩:=DT 155 56 Tryz.underlying155 vB w0
 have HT:=HT0.grown G
 have Kr:=Lib.hid (And.intro G (And.intro HT hP));clear G HT hP
 go_enter Tryz.func107,Tryz.ntmps107
 go_upto_region 2 with (fail)
 obtain⟨G,HT,hP⟩:=Kr.out
 clear hmk Kr
 have lI:=G.size
 have uz:=hP.lt
 refine Fg.rP [] [.any,.any,.any,.any,.any,.any,.any,.any,.any,.any,.any,.any,.val (Value.slice (some ⟨w0.heap.size,0,none⟩) 0 16),.val (bQ.v),.row 56 (iY [bQ]) 1 W1.heap.size] 3 ?_ ?_
 .refine Fg.vS rfl (by decide) (fun _ _ h=>Fg.vn _ (Fg.run_move rfl (h.r 3))) ?_
  refine Fg.cS rfl (by decide) (fun ac w h=>?_) ?_
  .refine⟨aB rfl,92,#[],Fg.aN rfl rfl (by simp) (Fg.aI Tryz.func92 (by kernel_rfl) (by kernel_rfl)),?_⟩
   exact (Tf _).mono fun _ _ ⟨he,hg⟩=>⟨_,he,hg,rfl⟩
  refine Fg.vS rfl (by decide) (fun ac w h=>?_) ?_
  .have e13:_=bQ.v:=h.d 13
   exact⟨aB rfl,.slice (some ⟨w.heap.size,0,none⟩) 1 1,w.alloc (.cells (iY [bQ]).toArray 56),Fg.run_buildSlice (vs:=#[(0,bQ.v)]) rfl (by simp only[List.map_toArray,List.map_cons,List.map_nil,Act.eval,e13]) (by kernel_rfl),World.grownBy_alloc _ _ _,⟨w.heap.size,rfl,h.base.size,aH.new w (iY [bQ]) _⟩⟩
  trivial
 .intro qa V1 g1 hsz hdf hrest aC hpt
  obtain⟨⟨u1,hs1⟩,⟨u2,hs2⟩,⟨u4,hs4⟩,⟨u6,hs6⟩,⟨u8,lC⟩,⟨u9,jD⟩,⟨u11,d9⟩,⟨u13,dL⟩,_⟩:=Fg.bn qa [1,2,4,6,8,9,11,13]
  obtain⟨N14,dw,ag9,ac6⟩:∃N,qa.tmps.getD 14 undef=.slice (some ⟨N,0,none⟩) 1 1/\W1.heap.size<=N/\aH V1 N 56 (iY [bQ]):=aC 14 (by kernel_rfl)
  obtain⟨⟨u15,dM⟩,⟨u16,dG⟩,⟨u17,eD⟩,⟨u18,eF⟩,⟨u19,eG⟩,⟨u20,dU⟩,⟨u21,eP⟩,⟨u22,eT⟩,⟨u23,dV⟩,⟨u24,dO⟩,⟨u25,eH⟩,⟨u26,eO⟩,⟨u27,fK⟩,⟨u28,jd⟩,⟨u29,kD⟩,⟨u30,iP⟩,⟨u31,gL⟩,⟨u32,jR⟩,⟨u33,jA⟩,⟨u34,iZ⟩,⟨u35,jS⟩,⟨u36,jT⟩,⟨u37,kU⟩,⟨u38,kV⟩,⟨u39,oF⟩,⟨u40,oG⟩,⟨u41,qC⟩,⟨u42,mJ⟩,⟨u43,sZ⟩,⟨u44,qD⟩,⟨u45,mK⟩,⟨u46,mM⟩,⟨u47,oH⟩,⟨u48,tq⟩,⟨u49,Il⟩,⟨u50,Im⟩,_⟩:=Fg.bn qa [15,16,17,18,19,20,21,22,23,24,25,26,27,28,29,30,31,32,33,34,35,36,37,38,39,40,41,42,43,44,45,46,47,48,49,50]
  obtain rfl:=Fg.aQ [1,2,4,6,8,9,11,12,13,14,15,16,17,18,19,20,21,22,23,24,25,26,27,28,29,30,31,32,33,34,35,36,37,38,39,40,41,42,43,44,45,46,47,48,49,50] (vs:=[_,u1,u2,_,u4,_,u6,_,u8,u9,_,u11,Value.slice (some ⟨w0.heap.size,0,none⟩) 0 16,u13,Value.slice (some ⟨N14,0,none⟩) 1 1,u15,u16,u17,u18,u19,u20,u21,u22,u23,u24,u25,u26,u27,u28,u29,u30,u31,u32,u33,u34,u35,u36,u37,u38,u39,u40,u41,u42,u43,u44,u45,u46,u47,u48,u49,u50]) hsz hrest (by kernel_rfl) rfl rfl ⟨hs1,hs2,hs4,hs6,lC,jD,d9,(show qa.tmps.getD 12 undef=Value.slice (some ⟨w0.heap.size,0,none⟩) 0 16 from aC 12 (by kernel_rfl)),dL,dw,dM,dG,eD,eF,eG,dU,eP,eT,dV,dO,eH,eO,fK,jd,kD,iP,gL,jR,jA,iZ,jS,jT,kU,kV,oF,oG,qC,mJ,sZ,qD,mK,mM,oH,tq,Il,Im,trivial⟩ hdf
  clear hsz hdf hrest aC hpt hs1 hs2 hs4 hs6 lC jD d9 dL dw dM dG eD eF eG dU eP eT dV dO eH eO fK jd kD iP gL jR jA iZ jS jT kU kV oF oG qC mJ sZ qD mK mM oH tq Il Im
  replace hP:=hP.grown g1 (by simp)
  replace G:=aj G g1
  replace HT:=HT.grown g1
  have amJ:w0.heap.size<=N14:=Nat.le_trans lI ag9
  clear g1
  have lp:=hP.lt
  obtain⟨w2,hap,g2,P2⟩:=tC 155 56 Tryz.underlying155 vB V1 w0.heap.size N14 0 [] (iY [bQ]) 56 hP rfl (by decide) ac6 rfl rfl
  rw[List.nil_append]at P2
  replace G:=aW G g2 (Nat.le_refl _)
  replace HT:=HT.keep g2 (HT0.jW (Nat.le_refl _))
  refine wpList_append_run rfl (.tmp 12) (.tmp 14) 155 rfl rfl _ _ rfl rfl _ _ hap ?_
  have h0A:lU [bQ] (qY (ps.take 0)):=⟨rfl,fun i hi=>by
   have:i=0:=by simp at hi;omega
   subst this
   exact Sk⟩
  have HS:=Lib.hid (And.intro h0A (And.intro P2 (And.intro G HT)));clear h0A P2 G HT hap g2 hP ac6 lp
  go_wp2
  go_loopw [3,5,7,18] (fun v3 v5 v7 i wr=>∃(k m:Nat) (L:List Pt),k<=n/\i=.int .i64 k/\v3=.slice (some ⟨w0.heap.size,0,none⟩) m 16/\lU L (qY (ps.take k))/\pV wr w0.heap.size 56 (iY L)/\w0.grownBy wr none/\eY wr/\Hid (Fg.jN [v5] wr/\Fg.jN [v7] wr)/\Hid (m=2^k)/\m<=16) (fun _ _ _ i _=>n-(intOf i).toNat)
  case atStart=>exact⟨0,1,[bQ],by omega,rfl,rfl,HS.out.1,HS.out.2.1,HS.out.2.2.1,HS.out.2.2.2,Lib.hid ⟨Fg.jO _ _ rfl,Fg.jO _ _ rfl⟩,Lib.hid rfl,by decide⟩
  case round=>
   clear HS
   obtain⟨k,m,L,hk,rfl,rfl,hL,hP,G,HT,HA,HM,amK⟩:=hrel
   have HL:=Lib.hid hL;clear hL
   by_cases hkn:k<n
   .have i0:(k:Int)<n:=by omega
    have hz:wr.heap.size<=wr.heap.size:=Nat.le_refl _
    have hwr:=G.size
    have HPR:Hid (wr.rangeAt PB (20*k) (aY (P4.getD k bQ))):=Lib.hid (fG (HP.out k (by omega)) G ZY (by simp))
    have Z0:PB<wr.heap.size:=Nat.lt_of_lt_of_le ZY hwr
    go_upto_region 5 with (fail)
    have lI:=G.size
    have uz:=hP.lt
    refine Fg.iK (ps:=[5]) [.any,.any,.any,.any,.any,.fresh 56 bB wr.heap.size,.any,.any,.any,.any,.any,.any,.any,.any,.any,.any,.any,.any,.any,.any,.val (Value.pointer (some ⟨PB,k*20,none⟩)),.val (((P4.getD k bQ)).v)] (fun w=>World.grownBy wr w none) 3 (ah _ _) (by kernel_rfl) (by kernel_rfl) (by decide) (Fg.qM (l:=[u5]) rfl HA.out.1) ?_ ?_
    .refine Fg.vS rfl (by decide) (fun ac w h=>?_) ?_
     .have e16:_=Value.slice (some ⟨PB,0,none⟩) n n:=h.r 16
      have e18:_=Value.int .i64 (k:Int):=h.r 18
      refine⟨aB rfl,Value.pointer (some ⟨PB,k*20,none⟩),w,?_,ah _ _,rfl⟩
      clear h
      simp only[execOp,Act.eval,e16,e18]
      go_simp
     refine Fg.vS rfl (by decide) (fun _ _ h=>Fg.vn (((P4.getD k bQ)).v) (Fg.run_load rfl (h.d 20) ((by rw[show k*20=20*k by omega];exact fG HPR.out h.base Z0 (by simp))) Tryz.underlying56 rfl aP)) ?_
     refine⟨⟨⟨_,rfl⟩,Fg.gF (fun _ _ h k=>aj h k) rfl (by show 5<51;decide) fun ac w h=>?_⟩,?_⟩
     .refine⟨aB rfl,w.alloc (.cells bB.toArray 56),?_,World.grownBy_alloc _ _ _,by simp,⟨w.heap.size,rfl,h.base.size,aH.new w bB _⟩⟩
      clear h
      go_simp
     trivial
    .intro qa V1 g1 hsz hdf hrest aC hpt
     obtain⟨N5,hs5,Qv,hb5⟩:∃N,qa.tmps.getD 5 undef=.pointer (some ⟨N,0,none⟩)/\wr.heap.size<=N/\aH V1 N 56 bB:=aC 5 (by kernel_rfl)
     obtain⟨u20,dU⟩:=Fg.bL qa 20
     obtain⟨qg,K9⟩:∃x:Pt,x=(P4.getD k bQ):=⟨_,rfl⟩
     obtain rfl:=Fg.aQ [5,20,21] (vs:=[_,_,_,_,_,Value.pointer (some ⟨N5,0,none⟩),_,_,_,_,_,_,_,_,_,_,_,_,_,_,u20,qg.v,_,_,_,_,_,_,_,_,_,_,_,_,_,_,_,_,_,_,_,_,_,_,_,_,_,_,_,_,_]) hsz hrest (by kernel_rfl) rfl rfl ⟨hs5,dU,(show qa.tmps.getD 21 undef=qg.v by rw[K9];exact aC 21 (by kernel_rfl)),trivial⟩ hdf
     clear hsz hdf hrest aC hpt hs5 dU
     have Z4:=Lib.hid K9;clear K9
     replace hP:=hP.grown g1 (by simp)
     replace G:=aj G g1
     replace HT:=HT.grown g1
     replace hz:=Nat.le_trans hz g1.size
     have FH:w0.heap.size<=N5:=Nat.le_trans lI Qv
     clear g1
     refine Fg.aV rfl rfl (Fg.run_store (cs:=aY qg) rfl rfl rfl (hb5.there 0 20 (by show 0+20<=20;decide)) aP (gJ _)) ?_
     replace hP:=hP.au (C:=N5) (cs:=aY qg) 0 (by omega)
     replace hb5:aH (V1.setCells N5 0 (aY qg)) N5 56 (aY qg):=hb5.bC rfl
     replace hz:=Nat.le_trans hz (aK (cs:=aY qg) (ah V1 (some N5)) 0).size
     replace G:=aG (cs:=aY qg) G (B:=N5) (FH) 0
     replace HT:=HT.keep (aK (cs:=aY qg) (ah _ (some N5)) 0) (HT0.jW (FH))
     revert hP hb5 hz G HT
     generalize V1.setCells N5 0 (aY qg)=W2
     intro hP hb5 hz G HT
     have CB:=hP.lt
     have wR:=hb5.lt
     have ac7:iO qg (ps.getD k zero):=by rw[Z4.out];exact HI.out.2 k (by omega)
     have HX:=Lib.hid ac7;clear ac7
     have m2:m+m<=16:=by have:=Z6 k (by omega);have:=HM.out;omega
     have HA7:=Lib.hid (HA.out.2.mono hz);clear HA
     have w5:=W2.heap.size
     have HS5:=Lib.hid (And.intro hP (And.intro hb5 (And.intro G HT)));clear hP G HT hb5
     go_wp2
     go_loopw [3,7,24] (fun v3 v7 i wr=>∃(j:Nat) (L':List Pt),j<=m/\i=.int .i64 j/\v3=.slice (some ⟨w0.heap.size,0,none⟩) (m+j) 16/\lU L' (qY (ps.take k)++((qY (ps.take k)).take j).map fun s=>Ed.add s (ps.getD k zero))/\pV wr w0.heap.size 56 (iY L')/\aH wr N5 56 (aY qg)/\w0.grownBy wr none/\eY wr/\Hid (Fg.jN [v7] wr)/\N5<wr.heap.size) (fun _ _ i _=>m-(intOf i).toNat)
     case atStart=>exact⟨0,L,by omega,rfl,rfl,by simpa using HL.out,HS5.out.1,HS5.out.2.1,HS5.out.2.2.1,HS5.out.2.2.2,HA7,HS5.out.2.1.lt⟩
     case round=>
      clear HS5 HA7
      obtain⟨j,L',hj,rfl,rfl,hL',hP,hb5,G,HT,HA,l5⟩:=hrel
      have HL':=Lib.hid hL';clear hL'
      have Z9:(qY (ps.take k)).length=m:=by rw[vC,List.length_take,Nat.min_eq_left (by have:=HI.out.1;omega)];exact HM.out.symm
      have YD:L'.length=m+j:=by rw[HL'.out.1,List.length_append,List.length_map,List.length_take,Z9,Nat.min_eq_left hj]
      have HC:=Lib.hid (And.intro Z9 YD);clear Z9 YD
      by_cases hjm:j<m
      .have i1:(j:Int)<m:=by omega
       have i2:m+j<16:=by omega
       have hz:wr.heap.size<=wr.heap.size:=Nat.le_refl _
       have hwq:=G.size
       go_upto_region 8 with (fail)
       have lI:=G.size
       have uz:=hP.lt
       have ac8:=hb5.lt
       refine Fg.iK (ps:=[7]) [.any,.any,.any,.any,.any,.any,.any,.fresh 56 bB wr.heap.size,.any,.any,.any,.any,.any,.any,.any,.any,.any,.any,.any,.any,.any,.any,.any,.any,.any,.any,.val (Value.pointer (some ⟨w0.heap.size,j*20,none⟩)),.val (((L'.getD j bQ)).v)] (fun w=>World.grownBy wr w none) 3 (ah _ _) (by kernel_rfl) (by kernel_rfl) (by decide) (Fg.qM (l:=[u7]) rfl HA.out) ?_ ?_
       .refine Fg.vS rfl (by decide) (fun ac w h=>?_) ?_
        .have e22:_=Value.slice (some ⟨w0.heap.size,0,none⟩) m 16:=h.r 22
         have e24:_=Value.int .i64 (j:Int):=h.r 24
         refine⟨aB rfl,Value.pointer (some ⟨w0.heap.size,j*20,none⟩),w,?_,ah _ _,rfl⟩
         clear h
         simp only[execOp,Act.eval,e22,e24]
         go_simp
        refine Fg.vS rfl (by decide) (fun _ _ h=>Fg.vn (((L'.getD j bQ)).v) (Fg.run_load rfl (h.d 26) ((by rw[show j*20=20*j by omega];exact (hP.grown h.base (by simp)).pts j (by have:=HC.out.2;omega))) Tryz.underlying56 rfl aP)) ?_
        refine⟨⟨⟨_,rfl⟩,Fg.gF (fun _ _ h k=>aj h k) rfl (by show 7<51;decide) fun ac w h=>?_⟩,?_⟩
        .refine⟨aB rfl,w.alloc (.cells bB.toArray 56),?_,World.grownBy_alloc _ _ _,by simp,⟨w.heap.size,rfl,h.base.size,aH.new w bB _⟩⟩
         clear h
         go_simp
        trivial
       .intro qa V1 g1 hsz hdf hrest aC hpt
        obtain⟨N7,hs7,VY,cZ⟩:∃N,qa.tmps.getD 7 undef=.pointer (some ⟨N,0,none⟩)/\wr.heap.size<=N/\aH V1 N 56 bB:=aC 7 (by kernel_rfl)
        obtain⟨u26,eO⟩:=Fg.bL qa 26
        obtain⟨x21,aac⟩:∃x:Pt,x=(L'.getD j bQ):=⟨_,rfl⟩
        obtain rfl:=Fg.aQ [7,26,27] (vs:=[_,_,_,_,_,_,_,Value.pointer (some ⟨N7,0,none⟩),_,_,_,_,_,_,_,_,_,_,_,_,_,_,_,_,_,_,u26,x21.v,_,_,_,_,_,_,_,_,_,_,_,_,_,_,_,_,_,_,_,_,_,_,_]) hsz hrest (by kernel_rfl) rfl rfl ⟨hs7,eO,(show qa.tmps.getD 27 undef=x21.v by rw[aac];exact aC 27 (by kernel_rfl)),trivial⟩ hdf
        clear hsz hdf hrest aC hpt hs7 eO
        have aha:=Lib.hid aac;clear aac
        replace hP:=hP.grown g1 (by simp)
        replace hb5:=hb5.grown g1 (by simp)
        replace G:=aj G g1
        replace HT:=HT.grown g1
        replace hz:=Nat.le_trans hz g1.size
        have hw7:w0.heap.size<=N7:=Nat.le_trans lI VY
        clear g1
        refine Fg.aV rfl rfl (Fg.run_store (cs:=aY x21) rfl rfl rfl (cZ.there 0 20 (by show 0+20<=20;decide)) aP (gJ _)) ?_
        replace hP:=hP.au (C:=N7) (cs:=aY x21) 0 (by omega)
        replace hb5:=hb5.au (C:=N7) (cs:=aY x21) 0 (by omega)
        replace cZ:aH (V1.setCells N7 0 (aY x21)) N7 56 (aY x21):=cZ.bC rfl
        replace hz:=Nat.le_trans hz (aK (cs:=aY x21) (ah V1 (some N7)) 0).size
        replace G:=aG (cs:=aY x21) G (B:=N7) (hw7) 0
        replace HT:=HT.keep (aK (cs:=aY x21) (ah _ (some N7)) 0) (HT0.jW (hw7))
        revert hP hb5 cZ hz G HT
        generalize V1.setCells N7 0 (aY x21)=W2
        intro hP hb5 cZ hz G HT
        go_upto_region 9 with (fail)
        have vO:=G.size
        have CB:=hP.lt
        have wR:=hb5.lt
        have ac9:=cZ.lt
        refine Fg.rP [] [.any,.any,.any,.any,.any,.any,.any,.any,.any,.any,.any,.any,.any,.any,.any,.any,.any,.any,.any,.any,.any,.any,.any,.any,.any,.any,.any,.any,.val (Value.slice (some ⟨w0.heap.size,0,none⟩) (m+j) 16),.val (x21.v),.val (qg.v),.row 56 (iY [x21,qg]) 2 W2.heap.size] 4 ?_ ?_
        .refine Fg.vS rfl (by decide) (fun _ _ h=>Fg.vn _ (Fg.run_move rfl (h.r 3))) ?_
         refine Fg.vS rfl (by decide) (fun _ _ h=>Fg.vn x21.v (Fg.run_load rfl (h.r 7) ((cZ.grown h.base (by simp)).range 0 (aY x21) rfl) Tryz.underlying56 rfl aP)) ?_
         refine Fg.vS rfl (by decide) (fun _ _ h=>Fg.vn qg.v (Fg.run_load rfl (h.r 5) ((hb5.grown h.base (by simp)).range 0 (aY qg) rfl) Tryz.underlying56 rfl aP)) ?_
         refine Fg.vS rfl (by decide) (fun ac w h=>?_) ?_
         .have e29:_=x21.v:=h.d 29
          have e30:_=qg.v:=h.d 30
          exact⟨aB rfl,.slice (some ⟨w.heap.size,0,none⟩) 2 2,w.alloc (.cells (iY [x21,qg]).toArray 56),Fg.run_buildSlice (vs:=#[(0,x21.v),(1,qg.v)]) rfl (by simp only[List.map_toArray,List.map_cons,List.map_nil,Act.eval,e29,e30]) (by kernel_rfl),World.grownBy_alloc _ _ _,⟨w.heap.size,rfl,h.base.size,aH.new w (iY [x21,qg]) _⟩⟩
         trivial
        .intro qa V3 g3 hsz hdf hrest aC hpt
         obtain⟨u29,kD⟩:=Fg.bL qa 29
         obtain⟨u30,iP⟩:=Fg.bL qa 30
         obtain⟨N31,gL,ahb,aad⟩:∃N,qa.tmps.getD 31 undef=.slice (some ⟨N,0,none⟩) 2 2/\W2.heap.size<=N/\aH V3 N 56 (iY [x21,qg]):=aC 31 (by kernel_rfl)
         obtain rfl:=Fg.aQ [28,29,30,31] (vs:=[_,_,_,_,_,_,_,_,_,_,_,_,_,_,_,_,_,_,_,_,_,_,_,_,_,_,_,_,Value.slice (some ⟨w0.heap.size,0,none⟩) (m+j) 16,u29,u30,Value.slice (some ⟨N31,0,none⟩) 2 2,_,_,_,_,_,_,_,_,_,_,_,_,_,_,_,_,_,_,_]) hsz hrest (by kernel_rfl) rfl rfl ⟨(show qa.tmps.getD 28 undef=Value.slice (some ⟨w0.heap.size,0,none⟩) (m+j) 16 from aC 28 (by kernel_rfl)),kD,iP,gL,trivial⟩ hdf
         clear hsz hdf hrest aC hpt kD iP gL
         replace hP:=hP.grown g3 (by simp)
         replace hb5:=hb5.grown g3 (by simp)
         replace cZ:=cZ.grown g3 (by simp)
         replace G:=aj G g3
         replace HT:=HT.grown g3
         replace hz:=Nat.le_trans hz g3.size
         have amL:w0.heap.size<=N31:=Nat.le_trans vO ahb
         clear g3
         have He:=hP.lt
         have yS:=hb5.lt
         have yO:=cZ.lt
         have aae:=aad.lt
         have Pv:iO x21 ((qY (ps.take k)).getD j zero):=by
          rw[aha.out]
          have:=HL'.out.2 j (by have:=HC.out.2;omega)
          rwa [Tg _ _ _ _ (by rw[HC.out.1];exact hjm)]at this
         have ada:lU [x21,qg] [(qY (ps.take k)).getD j zero,ps.getD k zero]:=⟨rfl,fun i hi=>by
          have:i=0\/i=1:=by simp at hi;omega
          rcases this with rfl|rfl
          .exact Pv
          .exact HX.out⟩
         refine Fg.bP rfl (Fg.aN (vs:=#[Value.slice (some ⟨N31,0,none⟩) 2 2]) rfl rfl (by simp only[List.map_toArray,List.map_cons,List.map_nil,Act.eval];rfl) (Fg.aI Tryz.func136 (by kernel_rfl) (by kernel_rfl))) ?_
         refine (ac4 N31 2 [x21,qg] _ [] V3 HT rfl (by decide) (by decide) ada (by rw[List.append_nil];exact aad)).mono ?_
         rintro e C9 ⟨t9,FI,rfl,g9⟩
         refine⟨_,rfl,?_⟩
         refine Fg.aL (v:=Value.slice (some ⟨C9.heap.size,0,none⟩) 1 1) (w':=C9.alloc (.cells (iY [t9]).toArray 56)) rfl (Fg.run_buildSlice (vs:=#[(0,t9.v)]) rfl (by simp only[List.map_toArray,List.map_cons,List.map_nil,Act.eval];rfl) (by kernel_rfl)) ?_
         have z9:=g9.size
         have g10:=av g9 (.cells (iY [t9]).toArray 56)
         obtain⟨y9,hap,g11,P11⟩:=tC 155 56 Tryz.underlying155 vB (C9.alloc (.cells (iY [t9]).toArray 56)) w0.heap.size C9.heap.size (m+j) (iY L') (iY [t9]) 56 (hP.grown g10 (by simp)) (by rw[Ir,HC.out.2]) i2 (aH.new C9 (iY [t9]) _) rfl rfl
         refine wpList_append_run rfl (.tmp 28) (.tmp 33) 155 rfl rfl _ _ rfl rfl _ _ hap ?_
         have hL2:lU (L'++[t9]) (qY (ps.take k)++((qY (ps.take k)).take (j+1)).map fun s=>Ed.add s (ps.getD k zero)):=by
          have:=Iu HL'.out FI
          rw[zD _ j (by rw[HC.out.1];exact hjm),List.map_append,<- List.append_assoc]
          exact this
         have P12:pV y9 w0.heap.size 56 (iY (L'++[t9])):=by rw[Pp];simpa[iY] using P11
         have z11:=g11.size
         rw[World.size_alloc]at z11
         have adf:=(hb5.grown g10 (by simp)).grown g11 (bH (by omega))
         have Gn:=aW (aj G g10) g11 (Nat.le_refl _)
         have HTn:=(HT.grown g10).keep g11 (HT0.jW (Nat.le_refl _))
         have WA:=Lib.hid (Fg.nN (N:=N7) (w:=y9) (by omega))
         have H9:=Lib.hid (And.intro hL2 (And.intro P12 (And.intro adf (And.intro Gn HTn))))
         clear hL2 P12 P11 adf Gn HTn g11 g10 g9 hap hP hb5 cZ aad G HT Pv ada FI HA
         clear uz ac8 CB wR ac9 He yS yO aae
         go_wp2
         go_roundw
         case rel=>exact⟨j+1,L'++[t9],by omega,by go_num,rfl,H9.out.1,H9.out.2.1,H9.out.2.2.1,H9.out.2.2.2.1,H9.out.2.2.2.2,WA,by omega⟩
         case measure=>simp[intOf];omega
      .obtain rfl:j=m:=by omega
       have hL2:lU L' (qY (ps.take (k+1))):=by
        rw[zD ps k (by have:=HI.out.1;omega),Ti]
        have:=HL'.out
        rwa [List.take_of_length_le (l:=qY (ps.take k)) (i:=j) (by rw[HC.out.1];omega)]at this
       have hm2:j+j=2^(k+1):=by rw[Nat.pow_succ,<- HM.out];omega
       have WA:=Lib.hid (And.intro (Fg.nN (N:=N5) (w:=wr) l5) HA.out)
       have H9:=Lib.hid (And.intro hL2 (And.intro hP (And.intro G (And.intro HT hm2))))
       clear hL2 hP G HT hm2 hb5 HA
       go_wp2
       go_roundw
       case rel=>exact⟨k+1,j+j,L',by omega,by go_num,rfl,H9.out.1,H9.out.2.1,H9.out.2.2.1,H9.out.2.2.2.1,WA,Lib.hid H9.out.2.2.2.2,m2⟩
       case measure=>simp[intOf];omega
   .obtain rfl:n=k:=by omega
    have hLf:lU L (qY ps):=by rw[<- List.take_of_length_le (show ps.length<=n by omega)];exact HL.out
    have Z9:(qY ps).length=m:=by rw[vC,hps];exact HM.out.symm
    have YD:L.length=m:=hLf.1.trans Z9
    have HC:=Lib.hid (And.intro Z9 YD);clear Z9 YD HL
    have HL:=Lib.hid hLf;clear hLf
    obtain⟨W2,hmk,g2,s2,hR⟩:=DT 156 167 Tryz.underlying156 yV wr
    have hwr:=G.size
    have lSB:=hP.lt
    have HS2:=Lib.hid (And.intro (aj G g2) (And.intro (HT.grown g2) (And.intro (hP.grown g2 (by simp)) hR)));clear G HT hP hR HA g2
    obtain⟨RB,hRB⟩:∃x,x=wr.heap.size:=⟨_,rfl⟩
    rw[<- hRB]at hmk hwr lSB s2 HS2
    clear hRB
    go_wp2
    clear hmk
    go_loopw [8,10,40] (fun v8 v10 i wr=>∃(j:Nat) (R:List Ad),j<=m/\i=.int .i64 j/\v8=.slice (some ⟨RB,0,none⟩) j 16/\xZ R ((qY ps).take j)/\pV wr RB 167 (qB R)/\pV wr w0.heap.size 56 (iY L)/\w0.grownBy wr none/\eY wr/\Hid (Fg.jN [v10] wr)/\RB<wr.heap.size) (fun _ _ i _=>m-(intOf i).toNat)
    case atStart=>exact⟨0,[],by omega,rfl,rfl,⟨rfl,fun i hi=>by simp at hi⟩,HS2.out.2.2.2,HS2.out.2.2.1,HS2.out.1,HS2.out.2.1,Lib.hid (Fg.jO _ _ rfl),s2⟩
    case round=>
     clear HS2
     obtain⟨j,R,hj,rfl,rfl,hAD,hR,hP,G,HT,HA,lR⟩:=hrel
     have HAD:=Lib.hid hAD;clear hAD
     by_cases hjm:j<m
     .have i1:(j:Int)<m:=by omega
      have hz:wr.heap.size<=wr.heap.size:=Nat.le_refl _
      have hwt:=G.size
      go_upto_region 15 with (fail)
      have lI:=G.size
      have uz:=hP.lt
      have lG:=hR.lt
      refine Fg.iK (ps:=[10]) [.any,.any,.any,.any,.any,.any,.any,.any,.any,.any,.fresh 56 bB wr.heap.size,.any,.any,.any,.any,.any,.any,.any,.any,.any,.any,.any,.any,.any,.any,.any,.any,.any,.any,.any,.any,.any,.any,.any,.any,.any,.any,.any,.any,.any,.any,.any,.val (Value.pointer (some ⟨w0.heap.size,j*20,none⟩)),.val (((L.getD j bQ)).v)] (fun w=>World.grownBy wr w none) 3 (ah _ _) (by kernel_rfl) (by kernel_rfl) (by decide) (Fg.qM (l:=[u10]) rfl HA.out) ?_ ?_
      .refine Fg.vS rfl (by decide) (fun ac w h=>?_) ?_
       .have e38:_=Value.slice (some ⟨w0.heap.size,0,none⟩) m 16:=h.r 38
        have e40:_=Value.int .i64 (j:Int):=h.r 40
        refine⟨aB rfl,Value.pointer (some ⟨w0.heap.size,j*20,none⟩),w,?_,ah _ _,rfl⟩
        clear h
        simp only[execOp,Act.eval,e38,e40]
        go_simp
       refine Fg.vS rfl (by decide) (fun _ _ h=>Fg.vn (((L.getD j bQ)).v) (Fg.run_load rfl (h.d 42) ((by rw[show j*20=20*j by omega];exact (hP.grown h.base (by simp)).pts j (by have:=HC.out.2;omega))) Tryz.underlying56 rfl aP)) ?_
       refine⟨⟨⟨_,rfl⟩,Fg.gF (fun _ _ h k=>aj h k) rfl (by show 10<51;decide) fun ac w h=>?_⟩,?_⟩
       .refine⟨aB rfl,w.alloc (.cells bB.toArray 56),?_,World.grownBy_alloc _ _ _,by simp,⟨w.heap.size,rfl,h.base.size,aH.new w bB _⟩⟩
        clear h
        go_simp
       trivial
      .intro qa V1 g1 hsz hdf hrest aC hpt
       obtain⟨Cn,fM,ahe,iR⟩:∃N,qa.tmps.getD 10 undef=.pointer (some ⟨N,0,none⟩)/\wr.heap.size<=N/\aH V1 N 56 bB:=aC 10 (by kernel_rfl)
       obtain⟨u42,mJ⟩:=Fg.bL qa 42
       obtain⟨x41,aaf⟩:∃x:Pt,x=(L.getD j bQ):=⟨_,rfl⟩
       obtain rfl:=Fg.aQ [10,42,43] (vs:=[_,_,_,_,_,_,_,_,_,_,Value.pointer (some ⟨Cn,0,none⟩),_,_,_,_,_,_,_,_,_,_,_,_,_,_,_,_,_,_,_,_,_,_,_,_,_,_,_,_,_,_,_,u42,x41.v,_,_,_,_,_,_,_]) hsz hrest (by kernel_rfl) rfl rfl ⟨fM,mJ,(show qa.tmps.getD 43 undef=x41.v by rw[aaf];exact aC 43 (by kernel_rfl)),trivial⟩ hdf
       clear hsz hdf hrest aC hpt fM mJ
       have ahf:=Lib.hid aaf;clear aaf
       replace hP:=hP.grown g1 (by simp)
       replace hR:=hR.grown g1 (by simp)
       replace G:=aj G g1
       replace HT:=HT.grown g1
       replace hz:=Nat.le_trans hz g1.size
       have Px:w0.heap.size<=Cn:=Nat.le_trans lI ahe
       clear g1
       refine Fg.aV rfl rfl (Fg.run_store (cs:=aY x41) rfl rfl rfl (iR.there 0 20 (by show 0+20<=20;decide)) aP (gJ _)) ?_
       replace hP:=hP.au (C:=Cn) (cs:=aY x41) 0 (by omega)
       replace hR:=hR.au (C:=Cn) (cs:=aY x41) 0 (by omega)
       replace iR:aH (V1.setCells Cn 0 (aY x41)) Cn 56 (aY x41):=iR.bC rfl
       replace hz:=Nat.le_trans hz (aK (cs:=aY x41) (ah V1 (some Cn)) 0).size
       replace G:=aG (cs:=aY x41) G (B:=Cn) (Px) 0
       replace HT:=HT.keep (aK (cs:=aY x41) (ah _ (some Cn)) 0) (HT0.jW (Px))
       revert hP hR iR hz G HT
       generalize V1.setCells Cn 0 (aY x41)=W2
       intro hP hR iR hz G HT
       have Pv:iO x41 ((qY ps).getD j zero):=by rw[ahf.out];exact HL.out.2 j (by have:=HC.out.2;omega)
       have oky:=Pv.ok
       go_upto_region 16 with (fail)
       have vO:=G.size
       have CB:=hP.lt
       have qU:=hR.lt
       have aag:=iR.lt
       refine Fg.rP [] [.any,.any,.any,.any,.any,.any,.any,.any,.any,.any,.any,.any,.any,.any,.any,.any,.any,.any,.any,.any,.any,.any,.any,.any,.any,.any,.any,.any,.any,.any,.any,.any,.any,.any,.any,.any,.any,.any,.any,.any,.any,.any,.any,.any,.val (Value.slice (some ⟨RB,0,none⟩) j 16),.val (x41.v),.val ((zf x41).v),.row 167 (qB [zf x41]) 1 W2.heap.size] 4 ?_ ?_
       .refine Fg.vS rfl (by decide) (fun _ _ h=>Fg.vn _ (Fg.run_move rfl (h.r 8))) ?_
        refine Fg.vS rfl (by decide) (fun _ _ h=>Fg.vn x41.v (Fg.run_load rfl (h.r 10) ((iR.grown h.base (by simp)).range 0 (aY x41) rfl) Tryz.underlying56 rfl aP)) ?_
        refine Fg.cS rfl (by decide) (fun _ w h=>Fg.cq rfl (wQ x41 _ (HT.grown h.base) oky) ⟨h.d 45,trivial⟩ Tryz.func137) ?_
        refine Fg.vS rfl (by decide) (fun ac w h=>?_) ?_
        .have e46:_=(zf x41).v:=h.d 46
         exact⟨aB rfl,.slice (some ⟨w.heap.size,0,none⟩) 1 1,w.alloc (.cells (qB [zf x41]).toArray 167),Fg.run_buildSlice (vs:=#[(0,(zf x41).v)]) rfl (by simp only[List.map_toArray,List.map_cons,List.map_nil,Act.eval,e46]) (by kernel_rfl),World.grownBy_alloc _ _ _,⟨w.heap.size,rfl,h.base.size,aH.new w (qB [zf x41]) _⟩⟩
        trivial
       .intro qa V3 g3 hsz hdf hrest aC hpt
        obtain⟨u45,mK⟩:=Fg.bL qa 45
        obtain⟨u46,mM⟩:=Fg.bL qa 46
        obtain⟨N47,oH,hn47,aah⟩:∃N,qa.tmps.getD 47 undef=.slice (some ⟨N,0,none⟩) 1 1/\W2.heap.size<=N/\aH V3 N 167 (qB [zf x41]):=aC 47 (by kernel_rfl)
        obtain rfl:=Fg.aQ [44,45,46,47] (vs:=[_,_,_,_,_,_,_,_,_,_,_,_,_,_,_,_,_,_,_,_,_,_,_,_,_,_,_,_,_,_,_,_,_,_,_,_,_,_,_,_,_,_,_,_,Value.slice (some ⟨RB,0,none⟩) j 16,u45,u46,Value.slice (some ⟨N47,0,none⟩) 1 1,_,_,_]) hsz hrest (by kernel_rfl) rfl rfl ⟨(show qa.tmps.getD 44 undef=Value.slice (some ⟨RB,0,none⟩) j 16 from aC 44 (by kernel_rfl)),mK,mM,oH,trivial⟩ hdf
        clear hsz hdf hrest aC hpt mK mM oH
        replace hP:=hP.grown g3 (by simp)
        replace hR:=hR.grown g3 (by simp)
        replace iR:=iR.grown g3 (by simp)
        replace G:=aj G g3
        replace HT:=HT.grown g3
        replace hz:=Nat.le_trans hz g3.size
        have amN:w0.heap.size<=N47:=Nat.le_trans vO hn47
        clear g3
        have He:=hP.lt
        have uy:=hR.lt
        have aai:=iR.lt
        have aaj:=aah.lt
        obtain⟨y9,hap,g11,P11⟩:=tC 156 167 Tryz.underlying156 yV V3 RB N47 j (qB R) (qB [zf x41]) 167 hR (by rw[Iy,HAD.out.1,List.length_take,HC.out.1];omega) (by omega) aah rfl rfl
        refine wpList_append_run rfl (.tmp 44) (.tmp 47) 156 rfl rfl _ _ rfl rfl _ _ hap ?_
        have hR2:xZ (R++[zf x41]) ((qY ps).take (j+1)):=by
         rw[zD _ j (by rw[HC.out.1];exact hjm)]
         exact Iw HAD.out (acv Pv)
        have P12:pV y9 RB 167 (qB (R++[zf x41])):=by rw[Pq];simpa[qB] using P11
        have z11:=g11.size
        have hPn:=hP.grown g11 (bH (by omega))
        have Gn:=aW G g11 hwr
        have HTn:=HT.keep g11 (HT0.jW hwr)
        have WA:=Lib.hid (Fg.nN (N:=Cn) (w:=y9) (by omega))
        have H9:=Lib.hid (And.intro hR2 (And.intro P12 (And.intro hPn (And.intro Gn HTn))))
        clear hR2 P12 P11 hPn Gn HTn g11 hap hP hR iR aah G HT Pv oky HA
        clear uz lG CB qU aag He uy aai aaj
        go_wp2
        go_roundw
        case rel=>exact⟨j+1,R++[zf x41],by omega,by go_num,rfl,H9.out.1,H9.out.2.1,H9.out.2.2.1,H9.out.2.2.2.1,H9.out.2.2.2.2,WA,by omega⟩
        case measure=>simp[intOf];omega
     .obtain rfl:j=m:=by omega
      have adh:xZ R (qY ps):=by rw[<- List.take_of_length_le (show (qY ps).length<=j by rw[HC.out.1];omega)];exact HAD.out
      have H9:=Lib.hid (And.intro adh (And.intro hR G));clear adh hR G HT hP HA
      go_wp2
      go_ret
      exact⟨_,j,R,rfl,HM.out,H9.out.1,H9.out.2.1,H9.out.2.2,hwr⟩
end
section
open Go.RowKit Ow Go.Shelf Ed
attribute [local go_sem] Oper.semAt_some
abbrev WC:={x:Nat // x<16}
def x9 (b:Nat->Bool) (g:Nat):Nat:=8*(b (4*g+3)).toNat+4*(b (4*g+2)).toNat+2*(b (4*g+1)).toNat+(b (4*g)).toNat
theorem toNat_le (b:Bool):b.toNat<=1:=by cases b<;>decide
theorem Lb (b:Nat->Bool) (g:Nat):x9 b g<16:=by
  unfold x9
  have h0:=toNat_le (b (4*g))
  have h1:=toNat_le (b (4*g+1))
  have h2:=toNat_le (b (4*g+2))
  have h3:=toNat_le (b (4*g+3))
  omega
def part (b:Nat->Bool) (g:Nat):Nat->Nat
  | 0=>4*(b (4*g+3)).toNat+2*(b (4*g+2)).toNat+(b (4*g+1)).toNat
  | 1=>2*(b (4*g+3)).toNat+(b (4*g+2)).toNat
  | 2=>(b (4*g+3)).toNat
  | _=>0
theorem Tj (b:Nat->Bool) (g:Nat):part b g 0=4*(b (4*g+3)).toNat+2*(b (4*g+2)).toNat+(b (4*g+1)).toNat:=rfl
theorem Tk (b:Nat->Bool) (g:Nat):part b g 1=2*(b (4*g+3)).toNat+(b (4*g+2)).toNat:=rfl
theorem Tm (b:Nat->Bool) (g:Nat):part b g 2=(b (4*g+3)).toNat:=rfl
theorem YE (b:Nat->Bool) (g:Nat):part b g 3=0:=rfl
theorem Py (b:Nat->Bool) (g:Nat):2*part b g 0+(b (4*g)).toNat=x9 b g:=by rw[Tj];unfold x9;omega
theorem Pz (b:Nat->Bool) (g t:Nat) (ht:t<3):2*part b g (t+1)+(b (4*g+(t+1))).toNat=part b g t:=by
  match t,ht with
  | 0,_=>rw[Tj,Tk];show _+(b (4*g+1)).toNat=_;omega
  | 1,_=>rw[Tk,Tm]
  | 2,_=>rw[Tm,YE];show _+(b (4*g+3)).toNat=_;omega
theorem WE (b:Nat->Bool) (g t:Nat) (ht:t<4):part b g t<=7:=by
  have h1:=toNat_le (b (4*g+1))
  have h2:=toNat_le (b (4*g+2))
  have h3:=toNat_le (b (4*g+3))
  match t,ht with
  | 0,_=>rw[Tj];omega
  | 1,_=>rw[Tk];omega
  | 2,_=>rw[Tm];omega
  | 3,_=>rw[YE];omega
theorem ahh (i t:Nat) (h:i%4=t):Int.tmod (i:Int) 4=(t:Int):=by
  rw[Int.tmod_eq_emod_of_nonneg (by omega)]
  omega
def gG (b:Nat->Bool) (G k:Nat):List WC:=(List.range k).map fun t=>⟨x9 b (G-1-t),Lb _ _⟩
theorem tF (b:Nat->Bool) (G k:Nat):gG b G (k+1)=gG b G k++[⟨x9 b (G-1-k),Lb _ _⟩]:=by simp[gG,List.range_succ]
theorem DU (b:Nat->Bool) (G g:Nat) (h:g<G) (hl:x9 b g<16):gG b G (G-1-g)++[⟨x9 b g,hl⟩]=gG b G (G-g):=by
  rw[show G-g=(G-1-g)+1 by omega,tF]
  congr 2
  exact Subtype.ext (by show x9 b g=x9 b (G-1-(G-1-g));rw[show G-1-(G-1-g)=g by omega])
theorem CK (b:Nat->Bool) (G k:Nat):(gG b G k).length=k:=by simp[gG]
def WG (x:WC):Array Value:=#[.int .i64 (x.1:Int)]
def oK (bb N Bs:Nat) (W W':World):Prop:=(∀j,j<N->W'.cell? ⟨bb,j,none⟩=W.cell? ⟨bb,j,none⟩)/\W'.cell? ⟨Bs,0,none⟩=W.cell? ⟨Bs,0,none⟩
theorem IB {bb N Bs:Nat} {A B C:World} (h:oK bb N Bs A B) (k:oK bb N Bs B C):oK bb N Bs A C:=⟨fun j hj=>(k.1 j hj).trans (h.1 j hj),k.2.trans h.2⟩
theorem Tn {bb N Bs n:Nat} (hR:bb<n) (hB:Bs<n) (W:World) (l:Nat) (o o':Obj) (hl:n<=l) (h:W.heap[l]?=some o):oK bb N Bs W (W.putObj l o'):=by
  have hlt:l<W.heap.size:=(Array.getElem?_eq_some_iff.1 h).1
  exact⟨fun j _=>bf (grownBy_putObj' W l o') (p:=⟨bb,j,none⟩) (show bb<_ by omega) (bG (by show bb≠l;omega)),bf (grownBy_putObj' W l o') (p:=⟨Bs,0,none⟩) (show Bs<_ by omega) (bG (by show Bs≠l;omega))⟩
set_option maxHeartbeats 1000000 in
theorem PD (F:Fence) (n:Nat) (hf:F.fn 109) (hro:F.round=none) (a:Option Addr) (len cap:Nat) (w:World):
    CallsIn F n Tryz.prog 109 #[.slice a len cap] w fun e w'=>e=.returned (.func (.func 138) #[] #[.pointer (some ⟨w.heap.size,0,none⟩)])/\w'=w.alloc (.cells #[.slice a len cap] 111):=by
  refine callsIn_of_wp Tryz.func109 rfl hf ?_ hro
  simp only[Tryz.ntmps109,List.size_toArray,List.length_cons,List.length_nil,Nat.reduceAdd,Nat.reduceSub,Array.replicate_succ,Array.replicate_zero,List.push_toArray,List.append_toArray,List.nil_append,List.cons_append]
  gi_wp2
  go_ret
  exact⟨rfl,rfl⟩
set_option maxRecDepth 100000 in
set_option maxHeartbeats 4000000 in
theorem Lc (F:Fence) (n:Nat) (hf:F.fn 138) (hro:F.round=none) (hn:1<=n) (l Bs bb G N:Nat) (hN:N=4*G) (hG:G<=1000) (hG1:1<=G) (b:Nat->Bool) (J Jx:List WC->World->Prop)
    (hY:∀pre x W,J pre W->pre.length<G->YieldAt F (n-1) Tryz.prog l (WG x) W fun e W'=>
      (e=.returned (.bool true)/\J (pre++[x]) W'/\oK bb N Bs W W')\/(e=.returned (.bool false)/\Jx (pre++[x]) W'))
    (W:World) (vM:W.cell? ⟨Bs,0,none⟩=some (.slice (some ⟨bb,0,none⟩) N N)) (hc:∀j,j<N->W.cell? ⟨bb,j,none⟩=some (.bool (b j))) (h0:J [] W):
    CallsIn F n Tryz.prog 138 #[.func (.yield l) #[] #[],.pointer (some ⟨Bs,0,none⟩)] W fun e W'=>(∃v,e=.returned v)/\
      ((∃ys,ys=gG b G G/\J ys W')\/(∃pre,True/\Jx pre W')):=by
  have HC:=Lib.hid hc;clear hc
  have HN:=Lib.hid hN;clear hN
  have hN1:4<=N:=by have:=HN.out;omega
  have hN2:N<=4000:=by have:=HN.out;omega
  refine callsIn_of_wp Tryz.func138 rfl hf ?_ hro
  simp only[Tryz.ntmps138,List.size_toArray,List.length_cons,List.length_nil,Nat.reduceAdd,Nat.reduceSub,Array.replicate_succ,Array.replicate_zero,List.push_toArray,List.append_toArray,List.nil_append,List.cons_append]
  have HBs:=Lib.hid vM
  gi_wp2
  clear vM
  gi_loopw [3,4] (fun v3 v4 wr=>((∃g t i p:Nat,g<G/\t<4/\Hid (i=4*g+t)/\i<N/\Hid (p=part b g t)/\p<=7/\v4=.int .i64 i/\v3=.int .i64 p/\J (gG b G (G-1-g)) wr)\/(v4=.int .i64 (-1)/\v3=.int .i64 0/\J (gG b G G) wr))/\oK bb N Bs W wr)
    (fun _ i _=>(intOf i+1).toNat)
  case atStart=>
    refine⟨Or.inl ⟨G-1,3,N-1,0,by omega,by omega,Lib.hid (by have:=HN.out;omega),by omega,Lib.hid rfl,by omega,?_,rfl,by rw[show G-1-(G-1)=0 by omega];exact h0⟩,⟨fun _ _=>rfl,rfl⟩⟩
    have:(N:Int)-1=((N-1:Nat):Int):=by omega
    rw[this]
  case round=>
    obtain⟨⟨g,t,i,p,hg,ht,HI,hi,HP,hp,rfl,rfl,hJs⟩ |⟨rfl,rfl,hJs⟩,hnx⟩:=hrel
    . have hb1:wr.cell? ⟨Bs,0,none⟩=some (.slice (some ⟨bb,0,none⟩) N N):=hnx.2.trans HBs.out
      have hcx:wr.cell? ⟨bb,i,none⟩=some (.bool (b i)):=(hnx.1 i hi).trans (HC.out i hi)
      have hr:=ahh i t (by have:=HI.out;omega)
      have HNX:=Lib.hid hnx;clear hnx
      have hbl:=toNat_le (b i)
      obtain⟨q,hq⟩:∃q,q=2*p+(b i).toNat:=⟨_,rfl⟩
      have HQ:=Lib.hid hq;clear hq
      by_cases ht0:t=0
      . subst ht0
        have hqg:q=x9 b g:=by rw[HQ.out,HP.out,<- Py,HI.out,Nat.add_zero]
        obtain⟨fn,tmps,assign,body,hy,hR⟩:=hY _ ⟨x9 b g,Lb b g⟩ wr hJs (by rw[CK];omega)
        unfold WG at hy
        simp only[<- hqg]at hy
        have hnext:∀W3,J (gG b G (G-g)) W3->oK bb N Bs wr W3->((∃g t i' p:Nat,g<G/\t<4/\Hid (i'=4*g+t)/\i'<N/\Hid (p=part b g t)/\p<=7/\Value.int .i64 ((i:Int)-1)=.int .i64 i'/\Value.int .i64 0=.int .i64 p/\J (gG b G (G-1-g)) W3)\/(Value.int .i64 ((i:Int)-1)=.int .i64 (-1)/\Value.int .i64 0=.int .i64 0/\J (gG b G G) W3))/\oK bb N Bs W W3:=by
          intro W3 hJ3 hk3
          refine⟨?_,IB HNX.out hk3⟩
          have hi0:=HI.out
          rcases Nat.eq_zero_or_pos g with h0|h0
          . subst h0
            exact .inr ⟨by rw[hi0];rfl,rfl,hJ3⟩
          . refine .inl ⟨g-1,3,i-1,0,by omega,by omega,Lib.hid (by omega),by omega,Lib.hid rfl,by omega,?_,rfl,?_⟩
            . rw[show ((i-1:Nat):Int)=(i:Int)-1 by omega]
            . rw[show G-1-(g-1)=G-g by omega];exact hJ3
        have IC:=Lib.hid hnext;clear hnext
        cases hbi:b i with
        | true=>
          have hq2:(q:Int)=(p:Int)*2+1:=by rw[HQ.out,hbi];simp;omega
          rw[hq2]at hy
          rw[hbi]at hcx
          gi_wp2
          refine hR.mono ?_
          rintro e W3 (⟨rfl,hJ3,hk3⟩ |⟨rfl,hJx3⟩)
          . rw[DU b G g hg]at hJ3
            gi_wp2
            go_roundw
            case rel=>
                        obtain⟨h |⟨h1,_,h3⟩,h4⟩:=IC.out W3 hJ3 hk3
                        . exact⟨.inl h,h4⟩
                        . exact⟨.inr ⟨h1,rfl,h3⟩,h4⟩
            case measure=>simp[intOf]
          . gi_wp2
            refine bodyPost_ret (results_none rfl _ _ _) rfl ?_
            exact⟨⟨_,rfl⟩,.inr ⟨_,trivial,hJx3⟩⟩
        | false=>
          have hq2:(q:Int)=(p:Int)*2:=by rw[HQ.out,hbi];simp;omega
          rw[hq2]at hy
          rw[hbi]at hcx
          gi_wp2
          refine hR.mono ?_
          rintro e W3 (⟨rfl,hJ3,hk3⟩ |⟨rfl,hJx3⟩)
          . rw[DU b G g hg]at hJ3
            gi_wp2
            go_roundw
            case rel=>
                        obtain⟨h |⟨h1,_,h3⟩,h4⟩:=IC.out W3 hJ3 hk3
                        . exact⟨.inl h,h4⟩
                        . exact⟨.inr ⟨h1,rfl,h3⟩,h4⟩
            case measure=>simp[intOf]
          . gi_wp2
            refine bodyPost_ret (results_none rfl _ _ _) rfl ?_
            exact⟨⟨_,rfl⟩,.inr ⟨_,trivial,hJx3⟩⟩
      . obtain⟨t,rfl⟩:∃t',t=t'+1:=⟨t-1,by omega⟩
        have hqp:q=part b g t:=by rw[HQ.out,HP.out,HI.out,Pz b g t (by omega)]
        have hnext:((∃g t i' p:Nat,g<G/\t<4/\Hid (i'=4*g+t)/\i'<N/\Hid (p=part b g t)/\p<=7/\Value.int .i64 ((i:Int)-1)=.int .i64 i'/\Value.int .i64 (q:Int)=.int .i64 p/\J (gG b G (G-1-g)) wr)\/(Value.int .i64 ((i:Int)-1)=.int .i64 (-1)/\Value.int .i64 (q:Int)=.int .i64 0/\J (gG b G G) wr))/\oK bb N Bs W wr:=by
          have hi0:=HI.out
          refine⟨.inl ⟨g,t,i-1,q,hg,by omega,Lib.hid (by omega),by omega,Lib.hid hqp,by rw[hqp];exact WE b g t (by omega),?_,rfl,hJs⟩,HNX.out⟩
          rw[show ((i-1:Nat):Int)=(i:Int)-1 by omega]
        have IC:=Lib.hid hnext;clear hnext
        have hi1:1<=i:=by have:=HI.out;omega
        have hr0:¬((i:Int).tmod 4=0):=by rw[hr];omega
        cases hbi:b i with
        | true=>
          have hq2:(q:Int)=(p:Int)*2+1:=by rw[HQ.out,hbi];simp;omega
          rw[hbi]at hcx
          gi_wp2
          go_roundw
          case rel=>rw[<- hq2];exact IC.out
          case measure=>simp[intOf]
        | false=>
          have hq2:(q:Int)=(p:Int)*2:=by rw[HQ.out,hbi];simp;omega
          rw[hbi]at hcx
          gi_wp2
          go_roundw
          case rel=>rw[<- hq2];exact IC.out
          case measure=>simp[intOf]
    . gi_wp2
      go_end0
      exact⟨⟨_,rfl⟩,.inl ⟨_,rfl,hJs⟩⟩
theorem ET (F:Fence) (n:Nat) (hf:F.fn 138) (hro:F.round=none) (hn:1<=n) (Bs bb G N:Nat) (hN:N=4*G) (hG:G<=1000) (hG1:1<=G) (b:Nat->Bool) (w:World) (vM:Bs<w.heap.size) (hR:bb<w.heap.size)
    (hb:w.cell? ⟨Bs,0,none⟩=some (.slice (some ⟨bb,0,none⟩) N N)) (hc:∀j,j<N->w.cell? ⟨bb,j,none⟩=some (.bool (b j))):
    SeqStopsK F n Tryz.prog 138 #[.pointer (some ⟨Bs,0,none⟩)] WG (oK bb N Bs) (fun ys=>ys=gG b G G) (fun _=>True) G w:=fun l J Jx W hW _ _ hY h0=>
  Lc F n hf hro hn l Bs bb G N hN hG hG1 b J Jx hY W ((hW.cell (p:=⟨Bs,0,none⟩) vM).trans hb) (fun j hj=>(hW.cell (p:=⟨bb,j,none⟩) hR).trans (hc j hj)) h0
end
section
open Go.RowKit Ow Go.Shelf Ed
attribute [local go_sem] Oper.semAt_some
def wS (T:Nat) (C:List Pr) (acc:Pr) (x:WC):Pr:=if x.1=0 then bD (2^T) acc else Ed.add (bD (2^T) acc) (C.getD x.1 zero)
def rG (T:Nat) (C:List Pr) (xs:List WC):Pr:=xs.foldl (wS T C) zero
theorem qZ (T:Nat) (C:List Pr) (xs:List WC) (x:WC):rG T C (xs++[x])=wS T C (rG T C xs) x:=by simp[rG]
structure Tp (w0:World) (n T RB B3 B6 B7 B8 m:Nat) (C:List Pr) (R:List Ad) (pre:List WC) (W:World):Prop where
 t:aH W B3 3 [.int .i64 (T:Int)]
 r:aH W B6 56 bB
 box:aH W B7 156 [.slice (some ⟨RB,0,none⟩) m 16]
 pile:pV W RB 167 (qB R)
 tab:eY W
 sum:∃s,mG s (rG T C pre)/\aH W B8 159 (lF s)
 grown:w0.grownBy W none
 size:n<=W.heap.size
theorem Tq (w0:World) (n T RB B3 B6 B7 B8 m:Nat) (C:List Pr) (R:List Ad) (k:Nat) (hk:w0.heap.size<=k) (HT0:eY w0):OwnFrom k (Tp w0 n T RB B3 B6 B7 B8 m C R):=fun s A B row h hg hr=>by
 obtain⟨q,hq,hs⟩:=h.sum
 refine⟨kX h.t hg hr,kX h.r hg hr,kX h.box hg hr,?_,?_,⟨q,hq,kX hs hg hr⟩,ES h.grown hg (fun r e=>by have:=(hr r e).1;omega),Nat.le_trans h.size hg.size⟩
 .obtain⟨rest,hl,hb⟩:=h.pile
  exact⟨rest,hl,kX hb hg hr⟩
 .cases row with
  | none=>exact h.tab.grown hg
  | some r=>exact h.tab.keep hg (HT0.jW (by have:=(hr r rfl).1;omega))
theorem pJ {F:Fence} {n:Nat} {P:Program} {ops:Array Oper} {Q:Exit->Act->World->Prop} {o:Oper} {r:List Oper} {a:Act} {w w':World} {v:Value} (hg:o.guard=none) (ha:o.about P w a.eval=none) (hc:∀c,o.op≠.defer c) (hr:(execOp a.eval o).run P w=.ok (.value v) w') (h:wpListIn F n P ops Q r (a.put o.dst v) w'):wpListIn F n P ops Q (o:: r) a w:=by
 refine wpListIn_plain hg fun K hK=>?_
 unfold Oper.wpIn
 refine⟨?_,?_⟩
 .rw[ha];intro f hf;cases hf
 .rw[Oper.semAt_plain F _ _ hc,hr]
  exact hK _ _ h
theorem DV {w0 W W':World} {n T RB B7 B8 m:Nat} {C:List Pr} {R:List Ad} {pre pre':List WC} (h:Tp w0 n T RB w0.heap.size (w0.heap.size+1) B7 B8 m C R pre W) (hg:W.grownBy W' (some B8)) (h0:w0.heap.size+1<B8) (h7:B7<B8) (hR:RB<B8) (HT0:eY w0)
  (hs:∃s,mG s (rG T C pre')/\aH W' B8 159 (lF s)):Tp w0 n T RB w0.heap.size (w0.heap.size+1) B7 B8 m C R pre' W':=
 ⟨h.t.grown hg (bG (by omega)),h.r.grown hg (bG (by omega)),h.box.grown hg (bG (by omega)),h.pile.grown hg (bG (by omega)),h.tab.keep hg (HT0.jW (by omega)),hs,aW h.grown hg (by omega),Nat.le_trans h.size hg.size⟩
theorem IE {bb N Bs S:Nat} {W W':World} (hg:W.grownBy W' (some S)) (h1:bb<W.heap.size) (h2:Bs<W.heap.size) (n1:bb≠S) (n2:Bs≠S):oK bb N Bs W W':=
 ⟨fun j _=>bf hg (p:=⟨bb,j,none⟩) h1 (bG n1),bf hg (p:=⟨Bs,0,none⟩) h2 (bG n2)⟩
set_option maxRecDepth 100000 in
set_option maxHeartbeats 12800000 in
theorem Bq (T PB bb N G:Nat) (P4:List Pt) (ps:List Pr) (V:List Value) (b:Nat->Bool) (w0:World) (HT0:eY w0) (hT:T<=100) (hN:N=4*G) (hG:G<=1000) (hG1:1<=G) (hn:P4.length=4) (hI:lU P4 ps) (Z8:aH w0 PB 56 (iY P4++V)) (hbb:bb<w0.heap.size) (hc:∀j,j<N->w0.cell? ⟨bb,j,none⟩=some (.bool (b j))):
  Calls Tryz.prog 77 #[.int .i64 (T:Int),.slice (some ⟨bb,0,none⟩) N N,.slice (some ⟨PB,0,none⟩) 4 4] w0 fun e w'=>∃t,iO t (rG T (qY ps) (gG b G G))/\e=.returned t.v/\w0.grownBy w' none:=by
 have HC:=Lib.hid hc;clear hc
 have HN:=Lib.hid hN;clear hN
 have hps:ps.length=4:=hI.1.symm.trans hn
 refine (callsIn_wide (n:=9)).1 ?_
 refine callsIn_of_wp_marks Tryz.func77 rfl trivial ?_ rfl
 simp only[Tryz.ntmps77,List.size_toArray,List.length_cons,List.length_nil,Nat.reduceAdd,Nat.reduceSub,Array.replicate_succ,Array.replicate_zero,List.push_toArray,List.append_toArray,List.nil_append,List.cons_append]
 refine wpIn_wide.2 ?_
 go_upto_region 1 with (fail)
 have hb3:=(kQ w0 (B:=w0.heap.size) [Value.int .i64 (T:Int)] 3 rfl).alloc (.cells bB.toArray 56)
 have hb6:=kQ (w0.alloc (.cells #[Value.int .i64 (T:Int)] 3)) (B:=w0.heap.size+1) bB 56 (by simp)
 have G1:=av (av (ah w0 none) (.cells #[Value.int .i64 (T:Int)] 3)) (.cells bB.toArray 56)
 have s1:((w0.alloc (.cells #[Value.int .i64 (T:Int)] 3)).alloc (.cells bB.toArray 56)).heap.size=w0.heap.size+2:=by simp
 have hP1:=(Z8.alloc (.cells #[Value.int .i64 (T:Int)] 3)).alloc (.cells bB.toArray 56)
 have hPl:=Z8.lt
 clear Z8
 revert hb3 hb6 G1 s1 hP1
 generalize (w0.alloc (.cells #[Value.int .i64 (T:Int)] 3)).alloc (.cells bB.toArray 56)=W1
 intro hb3 hb6 G1 s1 hP1
 have HT1:=HT0.grown G1
 have HS:=Lib.hid (And.intro hb3 (And.intro hb6 G1));clear hb3 hb6 G1
 go_upto_region 2 with (go_at_call 107;refine (Iz PB 4 P4 ps V W1 HT1 hn (by decide) hI hP1).mono ?_;rintro e W2 ⟨RB,m,R,rfl,hm,hR,Tv,g2,hRB⟩;obtain rfl:m=16:=hm)
 have hb3:=(HS.out.1.grown g2 (by simp)).alloc (.cells #[Value.slice (some ⟨RB,0,none⟩) 16 16] 156)
 have hb6:=(HS.out.2.1.grown g2 (by simp)).alloc (.cells #[Value.slice (some ⟨RB,0,none⟩) 16 16] 156)
 have cZ:=kQ W2 (B:=W2.heap.size) [Value.slice (some ⟨RB,0,none⟩) 16 16] 156 rfl
 have hpl:=Tv.grown (av (ah W2 none) (.cells #[Value.slice (some ⟨RB,0,none⟩) 16 16] 156)) (by simp)
 have G3:=av (aj HS.out.2.2 g2) (.cells #[Value.slice (some ⟨RB,0,none⟩) 16 16] 156)
 have s3:(W2.alloc (.cells #[Value.slice (some ⟨RB,0,none⟩) 16 16] 156)).heap.size=W2.heap.size+1:=by simp
 have ahi:=Tv.lt
 have z2:=g2.size
 obtain⟨B7,hB7⟩:∃x,x=W2.heap.size:=⟨_,rfl⟩
 rw[<- hB7]at cZ s3 ahi z2 ⊢
 clear Tv g2 HS hP1 HT1
 revert hb3 hb6 cZ hpl G3 s3
 generalize W2.alloc (.cells #[Value.slice (some ⟨RB,0,none⟩) 16 16] 156)=W3
 intro hb3 hb6 hpl G3 s3 cZ
 clear hB7
 refine wp_region_lit ?_
 refine Fg.bP rfl (Fg.aN (vs:=#[]) rfl rfl (by simp) (Fg.aI Tryz.func92 (by kernel_rfl) (by kernel_rfl))) ?_
 refine (Tf _).mono ?_
 rintro e W4 ⟨rfl,g4⟩
 refine⟨_,rfl,?_⟩
 refine Fg.bP rfl (Fg.aN (vs:=#[bQ.v]) rfl rfl (by simp only[List.map_toArray,List.map_cons,List.map_nil,Act.eval];rfl) (Fg.aI Tryz.func108 (by kernel_rfl) (by kernel_rfl))) ?_
 refine (xY bQ _).mono ?_
 rintro e W5 ⟨rfl,g5⟩
 refine⟨_,rfl,?_⟩
 have g6:=aj g4 g5
 clear g4 g5
 refine Fg.aL (v:=.pointer (some ⟨W5.heap.size,0,none⟩)) (w':=W5.alloc (.cells nX.toArray 159)) rfl (by go_simp) ?_
 have hb3:=(hb3.grown g6 (by simp)).alloc (.cells nX.toArray 159)
 have hb6:=(hb6.grown g6 (by simp)).alloc (.cells nX.toArray 159)
 have cZ:=(cZ.grown g6 (by simp)).alloc (.cells nX.toArray 159)
 have gD:=kQ W5 (B:=W5.heap.size) nX 159 rfl
 have hpl:=(hpl.grown g6 (by simp)).grown (av (ah W5 none) (.cells nX.toArray 159)) (by simp)
 have G6:=av (aj G3 g6) (.cells nX.toArray 159)
 have s6:(W5.alloc (.cells nX.toArray 159)).heap.size=W5.heap.size+1:=by simp
 have z6:=g6.size
 obtain⟨B8,hB8⟩:∃x,x=W5.heap.size:=⟨_,rfl⟩
 rw[<- hB8]at gD s6 z6 ⊢
 revert hb3 hb6 cZ gD hpl G6 s6
 generalize W5.alloc (.cells nX.toArray 159)=W6
 intro hb3 hb6 cZ hpl G6 s6 gD
 clear hB8
 refine Fg.aV rfl rfl (Fg.run_store (b:=B8) (off:=0) (cs:=lF (oD bQ)) rfl rfl rfl (gD.there 0 30 (by show 0+30<=30;decide)) sU (zy _)) ?_
 refine wpList_nil ?_
 have hb3:=hb3.au (C:=B8) (cs:=lF (oD bQ)) 0 (by omega)
 have hb6:=hb6.au (C:=B8) (cs:=lF (oD bQ)) 0 (by omega)
 have cZ:=cZ.au (C:=B8) (cs:=lF (oD bQ)) 0 (by omega)
 have hpl:=hpl.au (C:=B8) (cs:=lF (oD bQ)) 0 (by omega)
 have gD:aH (W6.setCells B8 0 (lF (oD bQ))) B8 159 (lF (oD bQ)):=gD.bC rfl
 have G7:=aG (cs:=lF (oD bQ)) G6 (B:=B8) (by omega) 0
 have s7:=(aK (cs:=lF (oD bQ)) (ah W6 (some B8)) 0).size
 clear G6
 revert hb3 hb6 cZ hpl gD G7 s7
 generalize W6.setCells B8 0 (lF (oD bQ))=W7
 intro hb3 hb6 cZ hpl gD G7 s7
 have HT7:=HT0.grown G7
 have lB3:=hb3.lt
 have lB6:=hb6.lt
 have lB7:=cZ.lt
 have lB8:=gD.lt
 have lRB:=hpl.lt
 have HS:=Lib.hid (And.intro hb3 (And.intro hb6 (And.intro cZ (And.intro hpl (And.intro gD (And.intro G7 HT7))))))
 clear hb3 hb6 cZ hpl gD G7 HT7
 generalize bQ.v=vz
 generalize (oD bQ).v=vs
 go_wp2_with (go_at_call 109;refine ((callsIn_wide (n:=8)).1 (PD Fence.wide 8 trivial rfl (some ⟨bb,0,none⟩) N N W7)).mono ?_;rintro e W8 ⟨rfl,Qw⟩;have HW8:=Lib.hid Qw;clear Qw)
 have Qw:=HW8.out;clear HW8
 have hI0:Tp w0 (W7.heap.size+1) T RB w0.heap.size (w0.heap.size+1) B7 B8 16 (qY ps) R [] W8:=by
  obtain⟨hb3,hb6,cZ,hpl,gD,G7,HT7⟩:=HS.out
  subst Qw
  exact⟨hb3.alloc _,hb6.alloc _,cZ.alloc _,hpl.grown (av (ah W7 none) _) (by simp),HT7.grown (av (ah W7 none) _),⟨_,ML Sk,gD.alloc _⟩,av G7 _,by simp⟩
 have vM:aH W8 W7.heap.size 111 [.slice (some ⟨bb,0,none⟩) N N]:=by
  subst Qw
  exact kQ W7 [.slice (some ⟨bb,0,none⟩) N N] _ rfl
 have lC:W8.heap.size=W7.heap.size+1:=by subst Qw;simp
 clear Qw HS
 have g70:=hI0.grown.size
 have hcb:∀j,j<N->W8.cell? ⟨bb,j,none⟩=some (.bool (b j)):=fun j hj=>by rw[bf hI0.grown (p:=⟨bb,j,none⟩) hbb (by simp)];exact HC.out j hj
 obtain⟨NB,YF⟩:∃x,x=W7.heap.size:=⟨_,rfl⟩
 rw[<- YF]at hI0 vM lC lB3 lB6 lB7 lB8 lRB ⊢
 clear YF
 refine (wpIn_wide (n:=9)).1 ?_
 refine wpIn_rangeFunc_ownG (F:=Fence.wide) (n:=9) rfl (by decide) (gf:=138) (lb:=#[.pointer (some ⟨NB,0,none⟩)]) rfl trivial (enters_of Tryz.func138 (by kernel_rfl) rfl)
  (w0:=W8) (ET Fence.wide 8 trivial rfl (by decide) NB bb G N HN.out hG hG1 b W8 (by omega) (by omega) (vM.cell (i:=0) rfl) hcb)
  (fun h k=>IB h k) (fun W l o o' hl h _ _=>Tn (n:=W8.heap.size) (by omega) (by omega) W l o o' hl h) (Below.refl _ _) (fun _=>rfl)
  (Tp w0 (NB+1) T RB w0.heap.size (w0.heap.size+1) B7 B8 16 (qY ps) R) (fun _ _ _=>False) (Tq _ _ _ _ _ _ _ _ _ _ _ _ (by omega) HT0) (fun _ _ _ _ _ h _ _=>h) hI0
  (fun x=>{tmps:=#[.int .i64 (T:Int),.slice (some ⟨bb,0,none⟩) N N,.slice (some ⟨PB,0,none⟩) 4 4,.pointer (some ⟨w0.heap.size,0,none⟩),undef,undef,.pointer (some ⟨w0.heap.size+1,0,none⟩),.pointer (some ⟨B7,0,none⟩),.pointer (some ⟨B8,0,none⟩),.int .i64 (x.1:Int),.slice (some ⟨PB,0,none⟩) 4 4,.slice (some ⟨RB,0,none⟩) 16 16,vz,vs,.slice (some ⟨bb,0,none⟩) N N,.func (.func 138) #[] #[.pointer (some ⟨NB,0,none⟩)],.int .i64 (x.1:Int),undef,undef,undef,undef,undef,undef,undef,undef,undef,undef],defers:=[]}) ?assign ?body ?done ?stop
 case assign=>
  intro l x W K hK
  unfold WG
  gi_wp2
  exact hK
 case body=>
  rintro l pre x W hI hlen
  obtain⟨s,hs,gD⟩:=hI.sum
  have c3:=hI.t.cell (i:=0) rfl
  have HJ:=Lib.hid hI;clear hI
  obtain⟨x,hx16⟩:=x
  show Code.wpIn _ _ _ _ _ {tmps:=_,defers:=_} _
  have zW:=HJ.out.size
  by_cases hx0:x=0
  .subst hx0
   gi_wp2_with (refine⟨trivial,?_⟩;gi_at_call 110;refine (CallsIn.inRound l (callsIn_wide.2 (yU B8 T s _ W hT HJ.out.tab (HT0.jW (by omega)) gD hs))).mono ?_;rintro e W' ⟨rfl,hg',aak⟩)
   exact⟨KeepsFrom.of_grownBy hg' (fun j e=>by cases e;omega),IE hg' (by omega) (by omega) (by omega) (by omega),DV HJ.out hg' (by omega) (by omega) (by omega) HT0 (by rw[qZ];exact aak)⟩
  .gi_upto_region 7 with (refine⟨trivial,?_⟩;gi_at_call 110;refine (CallsIn.inRound l (callsIn_wide.2 (yU B8 T s _ W hT HJ.out.tab (HT0.jW (by omega)) gD hs))).mono ?_;rintro e W' ⟨rfl,hg',aak⟩)
   obtain⟨s',hs',ahj⟩:=aak
   have hT1:=HJ.out.tab.keep hg' (HT0.jW (S:=B8) (by omega))
   have c7:=(HJ.out.box.grown hg' (bG (by omega))).cell (i:=0) rfl
   obtain⟨rest,_,hrb⟩:=HJ.out.pile.grown hg' (bG (by omega))
   have hRl:R.length=16:=by rw[hR.1,vC,hps]
   have hrg:=Z7 hrb x (by omega)
   have hq:=hR.2 x (by omega)
   clear hrb
   generalize R.getD x (zf bQ)=q at hrg hq
   have zW':=hg'.size
   refine wpIn_region_lit ?_
   refine pJ (v:=.slice (some ⟨RB,0,none⟩) 16 16) (w':=W') rfl (by simp[Oper.about]) (fun c h=>by cases h) (by go_simp) ?_
   refine pJ (v:=.int .i64 (x:Int)) (w':=W') rfl (by simp[Oper.about]) (fun c h=>by cases h) (Fg.run_move rfl rfl) ?_
   refine pJ (v:=.pointer (some ⟨RB,20*x,none⟩)) (w':=W') rfl (by simp[Oper.about]) (fun c h=>by cases h) (by go_simp;rw[if_pos (show (x:Int)<16 by omega),Nat.mul_comm]) ?_
   refine pJ (v:=q.v) (w':=W') rfl (by simp[Oper.about]) (fun c h=>by cases h) (Fg.run_load rfl rfl hrg Tryz.underlying167 rfl sV) ?_
   gi_wp2_with (refine⟨trivial,?_⟩;gi_at_call 111;refine (CallsIn.inRound l (callsIn_wide.2 (Ih B8 s' q _ _ W' hT1 (HT0.jW (by omega)) ahj hs' hq))).mono ?_;rintro e W2 ⟨rfl,hg2,ahk⟩)
   have hx:rG T (qY ps) (pre++[⟨x,hx16⟩])=Ed.add (bD (2^T) (rG T (qY ps) pre)) ((qY ps).getD x zero):=by rw[qZ];unfold wS;rw[if_neg hx0]
   have hI1:=DV (pre':=pre++[⟨x,hx16⟩]) HJ.out (aj hg' hg2) (by omega) (by omega) (by omega) HT0 (by rw[hx];exact ahk)
   exact⟨KeepsFrom.of_grownBy (aj hg' hg2) (fun j e=>by cases e;omega),IE (aj hg' hg2) (by omega) (by omega) (by omega) (by omega),hI1⟩
 case done=>
  rintro D ys W hD rfl hI hK
  obtain⟨s,hs,gD⟩:=hI.sum
  have hDl:D<W.heap.size:=(Array.getElem?_eq_some_iff.1 hK).1
  have HK:=Lib.hid hK;clear hK
  go_upto_region 8 with (fail)
  refine wp_region_lit ?_
  refine Fg.bP rfl (Fg.aN (vs:=#[.pointer (some ⟨B8,0,none⟩)]) rfl rfl (by simp only[List.map_toArray,List.map_cons,List.map_nil,Act.eval];rfl) (Fg.aI Tryz.func112 (by kernel_rfl) (by kernel_rfl))) ?_
  refine (uh B8 s W gD hs.ok).mono ?_
  rintro e W1 ⟨rfl,g1,_⟩
  refine⟨_,rfl,?_⟩
  have hb6:=hI.r.grown g1 (bG (by omega))
  have k1:=(g1.block D hDl (bG (by omega))).trans HK.out
  have z1:=g1.size
  refine Fg.aV rfl rfl (Fg.run_store (b:=w0.heap.size+1) (off:=0) (cs:=aY (lT s)) rfl rfl rfl (hb6.there 0 20 (by show 0+20<=20;decide)) aP (gJ _)) ?_
  refine wpList_nil ?_
  have g2:=aK (cs:=aY (lT s)) (ah W1 (some (w0.heap.size+1))) 0
  have hb6:aH (W1.setCells (w0.heap.size+1) 0 (aY (lT s))) (w0.heap.size+1) 56 (aY (lT s)):=hb6.bC rfl
  have G2:=aW (aW hI.grown g1 (by omega)) g2 (by omega)
  have k2:=(g2.block D (by omega) (bG (by omega))).trans k1
  have z2:=g2.size
  clear g2 k1
  revert hb6 G2 k2 z2
  generalize W1.setCells (w0.heap.size+1) 0 (aY (lT s))=W2
  intro hb6 G2 k2 z2
  have hp:=EA hs
  generalize lT s=tt at hb6 hp ⊢
  obtain⟨tv,htv⟩:∃v,v=tt.v:=⟨_,rfl⟩
  rw[<- htv]
  go_upto_region 9 with (fail)
  have hpo:=grownBy_putObj' W2 D (.deferred none)
  have hb6:=hb6.grown hpo (bG (by omega))
  have G3:=aW G2 hpo (by omega)
  refine⟨by simp,.inl ⟨_,_,rfl,run_takeDeferred k2,?_⟩⟩
  refine⟨tv,?_,tt,hp,by rw[htv],G3⟩
  rw[htv]
  exact results_cell_row Tryz.results77 _ _ (w0.heap.size+1) 56 (aY tt).toArray (0,0) _ rfl hb6 Tryz.underlying56 rfl aP
 case stop=>
  rintro D c pre W _ _ h _
  exact h.elim
end
section
open Go.RowKit Ow
def ko (n k:Nat):List Nat:=(List.range k).map (Sc.Qu n)
theorem pW (n k:Nat):(ko n k).length=k:=by simp[ko]
theorem IG (n k:Nat):ko n (k+1)=ko n k++[Sc.Qu n k]:=by simp[ko,List.range_succ]
theorem Br (n k i:Nat) (h:i<k):(ko n k).getD i 0=Sc.Qu n i:=by
 unfold ko;rw[List.getD_eq_getElem?_getD,List.getElem?_map,List.getElem?_range h];rfl
theorem PE (n k i:Nat):(ko n k).getD i 0<256:=by
 by_cases h:i<k
 .rw[Br n k i h];exact Sc.SF _ _
 .rw[List.getD_eq_getElem?_getD,List.getElem?_eq_none (by rw[pW];omega)];decide
theorem Ld (n k:Nat):num (ko n k)=n%2^(8*k):=by
 unfold num
 rw[pW,<- Sc.Wq n k]
 exact Sc.O9 _ _ _ fun i hi=>Br n k i hi
theorem PG (n j i:Nat) (hi:i<8):Sc.bg n j/2^(8*i)%256=Sc.Qu n (8*j+i):=by
 have e:(18446744073709551616:Nat)=2^(8*i)*(256*2^(56-8*i)):=by
  rw[show (256:Nat)=2^8 by rfl,<- Nat.pow_add,<- Nat.pow_add,show (18446744073709551616:Nat)=2^64 by rfl];congr 1;omega
 unfold Sc.bg Sc.Qu
 rw[e,Nat.mod_mul_right_div_self,Nat.mod_mul_right_mod,Nat.div_div_eq_div_mul,<- Nat.pow_add]
 congr 3;omega
set_option maxRecDepth 100000 in
set_option maxHeartbeats 1600000 in
theorem Bu (n:Nat) (w:World):
  Calls Tryz.prog 69 #[jK n] w fun e w'=>∃g,e=.returned (.slice (some ⟨g,0,none⟩) 32 32)/\w.grownBy w' none/\w'.ownsRow w.heap.size 5 1 (.slice (some ⟨g,0,none⟩) 32 32) 32 ((ko n 32).map dD):=by
 obtain⟨i,z,hi,hz,hs,hb,hc⟩:=Ow.qL
 obtain⟨w1,hmk,ho1,hg1⟩:=run_make_own (w.alloc (.cells #[wV n 0,wV n 1,wV n 2,wV n 3] 99)) w.heap.size 22 5 i z 1 (P:=Tryz.prog) Tryz.underlying22 hi hz hs .i64 .i64 32 (by rw[hb];omega) (by unfold maxLen;omega) (by simp)
 have hsz:(w.alloc (.cells #[wV n 0,wV n 1,wV n 2,wV n 3] 99)).heap.size=w.heap.size+1:=by simp
 rw[hsz]at hmk ho1
 have hmk':(Instr.makeSlice 22 (.int .i64 0) (.int .i64 32)).run Tryz.prog (w.alloc (.cells #[wV n 0,wV n 1,wV n 2,wV n 3] 99))=.ok (.slice (some ⟨w.heap.size+1,0,none⟩) 0 32) w1:=hmk
 clear hmk
 have adi:=aj (av (ah w none) _) hg1
 have hbx:=(aH.new w [wV n 0,wV n 1,wV n 2,wV n 3] 99).grown hg1 (by simp)
 have HO:=Lib.hid (And.intro ho1 adi);clear ho1 adi hg1 hi hz hs hb hc hsz
 have hidx:∀j:Nat,j<4->∀w,(Instr.index 99 (.agg #[wV n 0,wV n 1,wV n 2,wV n 3]) (.int .i64 j)).run Tryz.prog w=.ok (.int .u64 (Sc.bg n j:Int)) w:=by
  intro j hj w
  obtain rfl|rfl|rfl|rfl:j=0\/j=1\/j=2\/j=3:=by omega
  all_goals kernel_rfl
 unfold wV jE at hmk' hidx hbx
 have c0:=hbx.cell (i:=0) rfl
 have c1:=hbx.cell (i:=1) rfl
 have c2:=hbx.cell (i:=2) rfl
 have c3:=hbx.cell (i:=3) rfl
 have HIX:=Lib.hid hidx;clear hidx hbx
 unfold jK wV jE
 go_enter Tryz.func69,Tryz.ntmps69
 go_wp2
 go_loopw [3,8] (fun v i wr=>∃j m:Nat,j<=4/\m=8*j/\i=.int .i64 j/\v=.slice (some ⟨w.heap.size+1,0,none⟩) m 32/\wr.ownsRow w.heap.size 5 1 (.slice (some ⟨w.heap.size+1,0,none⟩) m 32) m ((ko n m).map dD)/\w.grownBy wr none) (fun _ i _=>4-(intOf i).toNat)
 case atStart=>exact⟨0,0,by omega,rfl,rfl,rfl,HO.out.1,HO.out.2⟩
 case round=>
  obtain⟨j,m,hj,hm,rfl,rfl,hown,hg⟩:=hrel
  by_cases hlt:j<4
  .have hix:=HIX.out j hlt
   have HI:=Lib.hid (And.intro hown (And.intro hg hm));clear hown hg hm
   obtain⟨y,hy⟩:∃y,y=Sc.bg n j:=⟨_,rfl⟩
   have hyl:y<18446744073709551616:=by rw[hy];exact Sc.iD n j
   rw[<- hy]at hix
   have HY:=Lib.hid hy;clear hy
   have i0:(j:Int)<4:=by omega
   go_wp2
   go_loopw [3,5,11] (fun v y i wr=>∃k m' x:Nat,k<=8/\m'=8*j+k/\x=Sc.bg n j/2^(8*k)/\i=.int .i64 k/\y=.int .u64 x/\v=.slice (some ⟨w.heap.size+1,0,none⟩) m' 32/\wr.ownsRow w.heap.size 5 1 (.slice (some ⟨w.heap.size+1,0,none⟩) m' 32) m' ((ko n m').map dD)/\w.grownBy wr none) (fun _ _ i _=>8-(intOf i).toNat)
   case atStart=>exact⟨0,m,y,by omega,by rw[HI.out.2.2];rfl,by rw[HY.out];simp,rfl,rfl,rfl,HI.out.1,HI.out.2.1⟩
   case round=>
    clear HI hix HY hyl
    obtain⟨k,m',x,hk,hm',hx,rfl,rfl,rfl,hown,hg⟩:=hrel
    by_cases hkl:k<8
    .obtain⟨b,hb⟩:∃b,b=Sc.Qu n m':=⟨_,rfl⟩
     have hbl:b<256:=by rw[hb];exact Sc.SF _ _
     have he:(x:Int)%256=(b:Int):=by
      have:=PG n j k hkl
      rw[<- hm',<- hx,<- hb]at this
      omega
     have hxl:x<18446744073709551616:=by rw[hx];exact Nat.lt_of_le_of_lt (Nat.div_le_self _ _) (Sc.iD n j)
     obtain⟨w3,hap,ho3,hg3⟩:=xA wr w.heap.size (w.heap.size+1) m' 32 b _ hbl hown (by omega)
     have hg4:=aW hg hg3 (by omega)
     have hq:((ko n m').map dD)++[dD b]=(ko n (m'+1)).map dD:=by rw[IG,hb,List.map_append];rfl
     rw[hq]at ho3
     have hx2:((x/256:Nat):Int)=(x:Int)/256:=by omega
     have hx3:x/256=Sc.bg n j/2^(8*(k+1)):=by
      rw[hx,Nat.div_div_eq_div_mul,show 8*(k+1)=8*k+8 by omega,Nat.pow_add]
     unfold dD at hap
     have HI:=Lib.hid (And.intro hap (And.intro ho3 (And.intro hg4 (And.intro hm' (And.intro hx2 hx3)))));clear hap ho3 hg4 hg3 hm' hx2 hx3 hx hb hown hg hq
     have i0:(k:Int)<8:=by omega
     go_wp2_with (at_builtin;refine wpList_append_run rfl (.tmp 13) (.tmp 16) 22 rfl rfl _ _ rfl rfl _ _ HI.out.1 ?_)
     go_roundw
     case rel=>exact⟨k+1,m'+1,x/256,by omega,by have:=HI.out.2.2.2.1;omega,HI.out.2.2.2.2.2,by go_num,by rw[HI.out.2.2.2.2.1],rfl,HI.out.2.1,HI.out.2.2.1⟩
     case measure=>simp[intOf];omega
    .obtain rfl:k=8:=by omega
     have HI:=Lib.hid (And.intro hown (And.intro hg hm'));clear hown hg hm' hx
     go_wp2
     go_roundw
     case rel=>exact⟨j+1,m',by omega,by have:=HI.out.2.2;omega,by go_num,rfl,HI.out.1,HI.out.2.1⟩
     case measure=>simp[intOf];omega
  .obtain rfl:j=4:=by omega
   obtain rfl:m=32:=by omega
   have HI:=Lib.hid (And.intro hown hg);clear hown hg hm
   go_wp2
   go_ret
   exact⟨_,rfl,HI.out.2,HI.out.1⟩
end
section
namespace Sc
theorem Tw (j:Nat):(2:Nat)^(64*(j+1))=2^(64*j)*18446744073709551616:=by rw[show 64*(j+1)=64*j+64 by omega,Nat.pow_add]
theorem Ng (n i j:Nat) (h:i<j):bg (n%2^(64*j)) i=bg n i:=by
 have e:(2:Nat)^(64*j)=2^(64*i)*(18446744073709551616*2^(64*(j-i-1))):=by
  rw[show (18446744073709551616:Nat)=2^64 by rfl,<- Nat.pow_add,<- Nat.pow_add];congr 1;omega
 unfold bg
 rw[e,Nat.mod_mul_right_div_self,Nat.mod_mul_right_mod]
theorem II (n i j:Nat):bg n (j+i)=bg (n/2^(64*j)) i:=by
 unfold bg
 rw[Nat.div_div_eq_div_mul,<- Nat.pow_add]
 congr 3;omega
theorem adj (M j v:Nat) (hv:v<18446744073709551616):∃M',bg M' j=v/\(∀i,i≠j->bg M' i=bg M i)/\M'+bg M j*2^(64*j)=M+v*2^(64*j):=by
 have hp:0<2^(64*j):=Nat.pow_pos (by decide)
 have e1:=Nat.div_add_mod M (2^(64*j))
 have hl:=Nat.mod_lt M hp
 refine⟨(M/2^(64*j)/18446744073709551616*18446744073709551616+v)*2^(64*j)+M%2^(64*j),?_,?_,?_⟩
 .unfold bg
  rw[Nat.mul_comm _ (2^(64*j)),Nat.mul_add_div hp,Nat.div_eq_of_lt hl]
  omega
 .intro i hi
  rcases Nat.lt_or_ge i j with h|h
  .rw[<- Ng _ i j h,<- Ng M i j h,Nat.mul_comm _ (2^(64*j)),Nat.mul_add_mod,Nat.mod_mod]
  .obtain⟨d,rfl⟩:∃d,i=(j+1)+d:=⟨i-(j+1),by omega⟩
   rw[II,II M,Tw,<- Nat.div_div_eq_div_mul,<- Nat.div_div_eq_div_mul,Nat.mul_comm _ (2^(64*j)),Nat.mul_add_div hp,Nat.div_eq_of_lt hl]
   congr 1;omega
 .have e2:bg M j=M/2^(64*j)%18446744073709551616:=rfl
  have e3:=Nat.div_add_mod (M/2^(64*j)) 18446744073709551616
  rw[e2]
  generalize M/2^(64*j)=q at *
  generalize M%2^(64*j)=r at *
  generalize 2^(64*j)=p at *
  have e4:(q/18446744073709551616*18446744073709551616+v)*p+q%18446744073709551616*p=(q+v)*p:=by rw[<- Nat.add_mul];congr 1;omega
  rw[Nat.add_mul q]at e4
  rw[Nat.mul_comm]at e1
  omega
theorem IJ (n k:Nat):n%2^(64*(k+1))=n%2^(64*k)+bg n k*2^(64*k):=by
 rw[Tw,Nat.mod_mul,Nat.mul_comm (2^(64*k))];rfl
theorem aal (M N x b i k o:Nat) (h:M+o*2^(64*(i+k))=N+x*(b%2^(64*k))*2^(64*i)):
  ∃M',bg M' (i+k)=(x*bg b k+bg M (i+k)+o)%18446744073709551616/\(∀j,j≠i+k->bg M' j=bg M j)/\
   M'+(x*bg b k+bg M (i+k)+o)/18446744073709551616*2^(64*(i+k+1))=N+x*(b%2^(64*(k+1)))*2^(64*i):=by
 obtain⟨M',h1,h2,h3⟩:=adj M (i+k) ((x*bg b k+bg M (i+k)+o)%18446744073709551616) (Nat.mod_lt _ (by decide))
 refine⟨M',h1,h2,?_⟩
 rw[Tw,IJ,Nat.mul_add x,Nat.add_mul]
 have e1:x*(bg b k*2^(64*k))*2^(64*i)=x*bg b k*2^(64*(i+k)):=by
  rw[show 64*(i+k)=64*k+64*i by omega,Nat.pow_add];simp[Nat.mul_assoc]
 rw[e1,<- Nat.add_assoc,<- h]
 generalize x*bg b k=y at *
 generalize 2^(64*(i+k))=p at *
 generalize bg M (i+k)=m at *
 have e2:=Nat.div_add_mod (y+m+o) 18446744073709551616
 have e3:(18446744073709551616*((y+m+o)/18446744073709551616)+(y+m+o)%18446744073709551616)*p=(y+m+o)*p:=by rw[e2]
 rw[Nat.add_mul,Nat.add_mul,Nat.add_mul]at e3
 have e4:(y+m+o)/18446744073709551616*(p*18446744073709551616)=18446744073709551616*((y+m+o)/18446744073709551616)*p:=by
  rw[Nat.mul_comm p,<- Nat.mul_assoc,Nat.mul_comm 18446744073709551616]
 rw[e4]
 omega
def part (a b c i:Nat):Nat:=c+a%2^(64*i)*b
theorem Nh (a b c i:Nat) (hb:b<2^256) (hc:c<2^256):part a b c i<2^(64*(i+4)):=by
 have e:(2:Nat)^(64*(i+4))=2^(64*i)*2^256:=by rw[<- Nat.pow_add];congr 1
 have hp:0<2^(64*i):=Nat.pow_pos (by decide)
 have h1:=Nat.mod_lt a hp
 unfold part
 rw[e]
 have h2:=Nat.mul_le_mul (show a%2^(64*i)<=2^(64*i)-1 by omega) (show b<=2^256-1 by omega)
 have h3:(2^(64*i)-1)*(2^256-1)+(2^256-1)=2^(64*i)*(2^256-1):=by
  obtain⟨p,hp2⟩:∃p,2^(64*i)=p+1:=⟨2^(64*i)-1,by omega⟩
  rw[hp2,Nat.add_sub_cancel,Nat.add_mul,Nat.one_mul]
 have h4:2^(64*i)*(2^256-1)<2^(64*i)*2^256:=Nat.mul_lt_mul_of_pos_left (by decide) hp
 omega
theorem Tx (a b c i j:Nat) (hb:b<2^256) (hc:c<2^256) (hj:i+4<=j):bg (part a b c i) j=0:=by
 have h:=Nh a b c i hb hc
 have h2:(2:Nat)^(64*(i+4))<=2^(64*j):=Nat.pow_le_pow_right (by decide) (by omega)
 unfold bg
 rw[Nat.div_eq_of_lt (by omega)]
theorem PI (a b c i:Nat):part a b c (i+1)=part a b c i+bg a i*b*2^(64*i):=by
 unfold part
 rw[IJ,Nat.add_mul,Nat.mul_assoc (bg a i),Nat.mul_assoc (bg a i),Nat.mul_comm b,Nat.add_assoc]
theorem IK (a b c:Nat) (ha:a<2^256):part a b c 4=a*b+c:=by
 unfold part
 rw[Nat.mod_eq_of_lt ha,Nat.add_comm]
theorem WH (M N x b i o:Nat) (hb:b<2^256) (h:M+o*2^(64*(i+4))=N+x*(b%2^(64*4))*2^(64*i)) (hz:bg M (i+4)=0) (ho:o<18446744073709551616):
  ∃M',bg M' (i+4)=o/\(∀j,j≠i+4->bg M' j=bg M j)/\M'=N+x*b*2^(64*i):=by
 obtain⟨M',h1,h2,h3⟩:=adj M (i+4) o ho
 refine⟨M',h1,h2,?_⟩
 rw[hz,Nat.zero_mul,Nat.add_zero,h,Nat.mod_eq_of_lt hb]at h3
 exact h3
theorem WI (x y m o:Nat) (hx:x<18446744073709551616) (hy:y<18446744073709551616) (hm:m<18446744073709551616) (ho:o<18446744073709551616):(x*y+m+o)/18446744073709551616<18446744073709551616:=by
 have h:=Nat.mul_le_mul (show x<=18446744073709551615 by omega) (show y<=18446744073709551615 by omega)
 omega
end Sc
end
section
open Go.RowKit Ow
theorem Tz:(Tryz.prog.info? 52).map (·.size)=some 1:=by kernel_rfl
theorem Le (R C c:Nat) (T S:TypeId) (tl:List Value) (w:World) (hR:aH w R T (uf 0 8++tl)) (hC:aH w C S [wV c 0,wV c 1,wV c 2,wV c 3]) (hc:c<2^256):
  ∃w',(Builtin.copy_ #[128,128] 3 #[.slice (some ⟨R,0,none⟩) 8 8,.slice (some ⟨C,0,none⟩) 4 4]).run Tryz.prog w=.ok (.int .i64 4) w'/\w.grownBy w' (some R)/\aH w' R T (uf c 8++tl):=by
 have h:=run_copy_row (P:=Tryz.prog) w 128 128 3 52 R 0 8 8 ⟨C,0,none⟩ 4 4 (uf 0 8++tl).toArray T [wV c 0,wV c 1,wV c 2,wV c 3] Tryz.underlying128 Tz hR rfl
  (fun j v hv=>by
   have hj:j<4:=by
    rcases Nat.lt_or_ge j 4 with h|h
    .exact h
    .rw[List.getElem?_eq_none (by simpa using h)]at hv;cases hv
   have hadd:(⟨C,0,none⟩:Addr).add j=⟨C,j,none⟩:=by unfold Addr.add;split<;>simp_all
   rw[hadd];exact hC.cell hv) (by simp[uf];omega) (by intro v hv;simp at hv;rcases hv with rfl|rfl|rfl|rfl<;>rfl)
 refine⟨_,h,uS (ah _ _) _,?_⟩
 have e:((uf 0 8++tl).toArray.toList.take 0++([wV c 0,wV c 1,wV c 2,wV c 3]++(uf 0 8++tl).toArray.toList.drop (0+4)))=uf c 8++tl:=by
  have z:∀j,4<=j->wV c j=wV 0 j:=fun j hj=>by
   have hp:(2:Nat)^256<=2^(64*j):=Nat.pow_le_pow_right (by decide) (by omega)
   unfold wV Sc.bg
   rw[Nat.div_eq_of_lt (by omega),Nat.zero_div]
  rw[ZQ,ZQ,z 4 (by decide),z 5 (by decide),z 6 (by decide),z 7 (by decide)]
  rfl
 rw[<- e]
 exact hR.row _
theorem wT (n j:Nat) (hj:j<4):∀w,(Instr.index 99 (.agg #[.int .u64 (Sc.bg n 0:Int),.int .u64 (Sc.bg n 1:Int),.int .u64 (Sc.bg n 2:Int),.int .u64 (Sc.bg n 3:Int)]) (.int .i64 j)).run Tryz.prog w=.ok (.int .u64 (Sc.bg n j:Int)) w:=by
 intro w
 obtain rfl|rfl|rfl|rfl:j=0\/j=1\/j=2\/j=3:=by omega
 all_goals kernel_rfl
set_option maxRecDepth 100000 in
set_option maxHeartbeats 1600000 in
theorem Lf (R a b c:Nat) (T:TypeId) (Y tl:List Value) (w:World) (hY:Y.length=8) (ha:a<2^256) (hbb:b<2^256) (hc:c<2^256) (hb:aH w R T (Y++tl)):
  Calls Tryz.prog 66 #[.pointer (some ⟨R,0,none⟩),jK a,jK b,jK c] w fun e w'=>e=.returned (.tuple #[])/\w.grownBy w' (some R)/\aH w' R T (uf (a*b+c) 8++tl):=by
 have HB:=Lib.hid hb;clear hb
 match Y,hY with
 | [y0,y1,y2,y3,y4,y5,y6,y7],_=>
  have hR:=HB.out.lt
  have hb3:=((HB.out.alloc (.cells #[wV a 0,wV a 1,wV a 2,wV a 3] 99)).alloc (.cells #[wV b 0,wV b 1,wV b 2,wV b 3] 99)).alloc (.cells #[wV c 0,wV c 1,wV c 2,wV c 3] 99)
  unfold wV jE at hb3
  have c0:=hb3.cell (i:=0) rfl
  have c1:=hb3.cell (i:=1) rfl
  have c2:=hb3.cell (i:=2) rfl
  have c3:=hb3.cell (i:=3) rfl
  have c4:=hb3.cell (i:=4) rfl
  have c5:=hb3.cell (i:=5) rfl
  have c6:=hb3.cell (i:=6) rfl
  have c7:=hb3.cell (i:=7) rfl
  have f0:=hb3.free 0
  have f1:=hb3.free 1
  have f2:=hb3.free 2
  have f3:=hb3.free 3
  have f4:=hb3.free 4
  have f5:=hb3.free 5
  have f6:=hb3.free 6
  have f7:=hb3.free 7
  have HB3:=Lib.hid hb3;clear hb3
  unfold jK wV jE
  go_enter Tryz.func66,Tryz.ntmps66
  go_wp2
  have hA:=(((aH.new w [wV a 0,wV a 1,wV a 2,wV a 3] 99).alloc (.cells #[wV b 0,wV b 1,wV b 2,wV b 3] 99)).alloc (.cells #[wV c 0,wV c 1,wV c 2,wV c 3] 99))
  have hBB:=((kQ (w.alloc (.cells #[wV a 0,wV a 1,wV a 2,wV a 3] 99)) (B:=w.heap.size+1) [wV b 0,wV b 1,wV b 2,wV b 3] 99 (by simp)).alloc (.cells #[wV c 0,wV c 1,wV c 2,wV c 3] 99))
  have hC:=(kQ ((w.alloc (.cells #[wV a 0,wV a 1,wV a 2,wV a 3] 99)).alloc (.cells #[wV b 0,wV b 1,wV b 2,wV b 3] 99)) (B:=w.heap.size+1+1) [wV c 0,wV c 1,wV c 2,wV c 3] 99 (by simp))
  have hg3:=av (av (av (ah w (some R)) (.cells #[wV a 0,wV a 1,wV a 2,wV a 3] 99)) (.cells #[wV b 0,wV b 1,wV b 2,wV b 3] 99)) (.cells #[wV c 0,wV c 1,wV c 2,wV c 3] 99)
  unfold wV jE at hA hBB hC hg3
  have ahm:=HB3.out
  clear c0 c1 c2 c3 c4 c5 c6 c7 f0 f1 f2 f3 f4 f5 f6 f7 HB3 HB
  revert hA hBB hC hg3 ahm
  have hs0:w.heap.size+3<=(((w.alloc (.cells #[.int .u64 (Sc.bg a 0:Int),.int .u64 (Sc.bg a 1:Int),.int .u64 (Sc.bg a 2:Int),.int .u64 (Sc.bg a 3:Int)] 99)).alloc (.cells #[.int .u64 (Sc.bg b 0:Int),.int .u64 (Sc.bg b 1:Int),.int .u64 (Sc.bg b 2:Int),.int .u64 (Sc.bg b 3:Int)] 99)).alloc (.cells #[.int .u64 (Sc.bg c 0:Int),.int .u64 (Sc.bg c 1:Int),.int .u64 (Sc.bg c 2:Int),.int .u64 (Sc.bg c 3:Int)] 99)).heap.size:=by simp
  revert hs0
  generalize ((w.alloc (.cells #[.int .u64 (Sc.bg a 0:Int),.int .u64 (Sc.bg a 1:Int),.int .u64 (Sc.bg a 2:Int),.int .u64 (Sc.bg a 3:Int)] 99)).alloc (.cells #[.int .u64 (Sc.bg b 0:Int),.int .u64 (Sc.bg b 1:Int),.int .u64 (Sc.bg b 2:Int),.int .u64 (Sc.bg b 3:Int)] 99)).alloc (.cells #[.int .u64 (Sc.bg c 0:Int),.int .u64 (Sc.bg c 1:Int),.int .u64 (Sc.bg c 2:Int),.int .u64 (Sc.bg c 3:Int)] 99)=W3
  intro hs0 hA hBB hC hg3 Ms
  have Qs:=(((((((Ms.set 0 (wV 0 0)).set 1 (wV 0 1)).set 2 (wV 0 2)).set 3 (wV 0 3)).set 4 (wV 0 4)).set 5 (wV 0 5)).set 6 (wV 0 6)).set 7 (wV 0 7)
  have hG4:=aJ (aJ (aJ (aJ (aJ (aJ (aJ (aJ hg3 0 (wV 0 0)) 1 (wV 0 1)) 2 (wV 0 2)) 3 (wV 0 3)) 4 (wV 0 4)) 5 (wV 0 5)) 6 (wV 0 6)) 7 (wV 0 7)
  have hgA:=aJ (aJ (aJ (aJ (aJ (aJ (aJ (aJ (ah W3 (some R)) 0 (wV 0 0)) 1 (wV 0 1)) 2 (wV 0 2)) 3 (wV 0 3)) 4 (wV 0 4)) 5 (wV 0 5)) 6 (wV 0 6)) 7 (wV 0 7)
  have JK:aH _ R T (uf 0 8++tl):=Qs
  have VE:=hA.grown hgA (bG (by omega))
  have hB4:=hBB.grown hgA (bG (by omega))
  have hC4:=hC.grown hgA (bG (by omega))
  simp only[U0]at JK hG4 VE hB4 hC4
  clear Qs hgA hA hBB hC hg3 Ms hs0
  revert JK hG4 VE hB4 hC4
  generalize (((((((W3.setCell ⟨R,0,none⟩ (.int .u64 0)).setCell ⟨R,1,none⟩ (.int .u64 0)).setCell ⟨R,2,none⟩ (.int .u64 0)).setCell ⟨R,3,none⟩ (.int .u64 0)).setCell ⟨R,4,none⟩ (.int .u64 0)).setCell ⟨R,5,none⟩ (.int .u64 0)).setCell ⟨R,6,none⟩ (.int .u64 0)).setCell ⟨R,7,none⟩ (.int .u64 0)=W4
  intro JK hG4 VE hB4 hC4
  obtain⟨w5,hcp,hg5,hb5⟩:=Le R (w.heap.size+1+1) c T _ tl W4.drew JK.drew hC4.drew hc
  have hGG:=Lib.hid (aj (aX hG4) hg5)
  have HA:=Lib.hid (VE.drew.grown hg5 (bG (by omega)))
  have WJ:=Lib.hid (hB4.drew.grown hg5 (bG (by omega)))
  have HR:=Lib.hid hb5
  clear hb5 hg5 JK hG4 VE hB4 hC4
  have hcA:=HA.out
  have a0:=hcA.cell (i:=0) rfl
  have a1:=hcA.cell (i:=1) rfl
  have a2:=hcA.cell (i:=2) rfl
  have a3:=hcA.cell (i:=3) rfl
  clear hcA
  go_region
  all_goals go_wp2
  have hz:Sc.part a b c 0=c:=by unfold Sc.part;rw[Nat.mul_zero,Nat.pow_zero,Nat.mod_one,Nat.zero_mul,Nat.add_zero]
  have HR0:Hid (aH w5 R T (uf (Sc.part a b c 0) 8++tl)):=by rw[hz];exact HR
  clear hz a0 a1 a2 a3
  go_loopw [22] (fun t wr=>∃i:Nat,i<=4/\t=.int .i64 i/\w.grownBy wr (some R)/\aH wr R T (uf (Sc.part a b c i) 8++tl)/\aH wr (w.heap.size+1) 99 [.int .u64 (Sc.bg b 0:Int),.int .u64 (Sc.bg b 1:Int),.int .u64 (Sc.bg b 2:Int),.int .u64 (Sc.bg b 3:Int)]) (fun t _=>4-(intOf t).toNat)
  case atStart=>exact⟨0,by omega,rfl,hGG.out,HR0.out,WJ.out⟩
  case round=>
   clear hGG HR0 WJ HR HA hcp
   obtain⟨i,hi,rfl,hg,hbR,Qx⟩:=hrel
   by_cases hlt:i<4
   .have hix:=wT a i hlt
    have b0:=Qx.cell (i:=0) rfl
    have b1:=Qx.cell (i:=1) rfl
    have b2:=Qx.cell (i:=2) rfl
    have b3:=Qx.cell (i:=3) rfl
    have HG:=Lib.hid hg;clear hg
    have HR:=Lib.hid hbR;clear hbR
    have WJ:=Lib.hid Qx;clear Qx
    obtain⟨x,hx⟩:∃x,x=Sc.bg a i:=⟨_,rfl⟩
    have hxl:x<18446744073709551616:=by rw[hx];exact Sc.iD a i
    rw[<- hx]at hix
    have HX:=Lib.hid hx;clear hx
    have i0:(i:Int)<4:=by omega
    go_wp2
    clear b0 b1 b2 b3
    go_loopw [10,27] (fun ot kt wr=>∃k o M:Nat,k<=4/\o<18446744073709551616/\ot=.int .u64 o/\kt=.int .i64 k/\M+o*2^(64*(i+k))=Sc.part a b c i+x*(b%2^(64*k))*2^(64*i)/\(∀j,i+4<=j->Sc.bg M j=Sc.bg (Sc.part a b c i) j)/\w.grownBy wr (some R)/\aH wr R T (uf M 8++tl)/\aH wr (w.heap.size+1) 99 [.int .u64 (Sc.bg b 0:Int),.int .u64 (Sc.bg b 1:Int),.int .u64 (Sc.bg b 2:Int),.int .u64 (Sc.bg b 3:Int)]) (fun _ kt _=>4-(intOf kt).toNat)
    case atStart=>exact⟨0,0,Sc.part a b c i,by omega,by decide,rfl,rfl,by simp[Nat.mod_one],fun _ _=>rfl,HG.out,HR.out,WJ.out⟩
    case round=>
     clear HG HR WJ hix
     obtain⟨k,o,M,hk,hol,rfl,rfl,hM,hT,hg,hbR,Qx⟩:=hrel
     by_cases hkl:k<4
     .have hix:=wT b k hkl
      obtain⟨j,hj⟩:∃j,j=i+k:=⟨_,rfl⟩
      have hji:(i:Int)+(k:Int)=(j:Int):=by omega
      have j7:j<8:=by omega
      obtain⟨M',m1,m2,m3⟩:=Sc.aal M _ x b i k o hM
      rw[<- hj]at m1 m2 m3
      have adn:=Sc.WI x (Sc.bg b k) (Sc.bg M j) o hxl (Sc.iD _ _) (Sc.iD _ _) hol
      have hset:=EP M M' 8 j j7 tl _ m1 m2
      have r0:=hbR.cell (ug M 8 j j7 tl)
      have f0:=hbR.free j
      have hmw:=fun W=>Na x (Sc.bg b k) (Sc.bg M j) o W hxl (Sc.iD _ _) (Sc.iD _ _) hol
      have hT2:∀j',i+4<=j'->Sc.bg M' j'=Sc.bg (Sc.part a b c i) j':=fun j' hj'=>by rw[m2 j' (by omega)];exact hT j' hj'
      have m4:M'+(x*Sc.bg b k+Sc.bg M j+o)/18446744073709551616*2^(64*(i+(k+1)))=Sc.part a b c i+x*(b%2^(64*(k+1)))*2^(64*i):=by
       have e:i+(k+1)=j+1:=by omega
       rw[e];exact m3
      have HS:=Lib.hid (And.intro hset (And.intro m4 (And.intro hT2 adn)));clear hset m1 m2 m3 m4 hT hT2 hM adn
      have HMW:=Lib.hid hmw;clear hmw
      have HG:=Lib.hid hg;clear hg
      have HR:=Lib.hid hbR;clear hbR
      have WJ:=Lib.hid Qx;clear Qx
      have HJ:=Lib.hid hj;clear hj
      unfold wV jE at r0
      generalize (x*Sc.bg b k+Sc.bg M j+o)/18446744073709551616=o' at *
      generalize (x*Sc.bg b k+Sc.bg M j+o)%18446744073709551616=v' at *
      have k0:(k:Int)<4:=by omega
      go_wp2
      have hwr:IntKind.i64.wrap ((i:Int)+(k:Int))=(j:Int):=by rw[hji];exact IntWalk.i64_in _ (by omega)
      clear hji
      go_region_with (go_at_call 96;refine (HMW.out _).mono ?_;rintro e w' ⟨rfl,rfl⟩)
      clear hwr
      all_goals go_wp2
      go_roundw
      case rel=>
       refine⟨k+1,o',M',by omega,HS.out.2.2.2,rfl,by go_num,HS.out.2.1,HS.out.2.2.1,aX (aJ HG.out _ _),?_,(WJ.out.other (by show ¬R=w.heap.size+1;omega) _).drew⟩
       have h:=HR.out.set j (jE v')
       rw[HS.out.1]at h
       exact h.drew
      case measure=>simp[intOf];omega
     .obtain rfl:k=4:=by omega
      have Vz:Sc.bg M (i+4)=0:=by rw[hT (i+4) (by omega)];exact Sc.Tx a b c i (i+4) hbb hc (by omega)
      obtain⟨M',m1,m2,m3⟩:=Sc.WH M _ x b i o hbb hM Vz hol
      have m4:M'=Sc.part a b c (i+1):=by rw[m3,Sc.PI,HX.out]
      subst m4
      obtain⟨j,hj⟩:∃j,j=i+4:=⟨_,rfl⟩
      have hji:(i:Int)+4=(j:Int):=by omega
      have j7:j<8:=by omega
      rw[<- hj]at m1 m2
      have hset:=EP M (Sc.part a b c (i+1)) 8 j j7 tl _ m1 m2
      have r0:=hbR.cell (ug M 8 j j7 tl)
      have f0:=hbR.free j
      have HS:=Lib.hid hset;clear hset m1 m2 m3 hT hM Vz
      have HG:=Lib.hid hg;clear hg
      have HR:=Lib.hid hbR;clear hbR
      have WJ:=Lib.hid Qx;clear Qx
      have HJ:=Lib.hid hj;clear hj
      unfold wV jE at r0
      go_wp2
      go_roundw
      case rel=>
       refine⟨i+1,by omega,by go_num,aJ HG.out _ _,?_,WJ.out.other (by show ¬R=w.heap.size+1;omega) _⟩
       have h:=HR.out.set j (jE o)
       rw[HS.out]at h
       exact h
      case measure=>simp[intOf];omega
   .obtain rfl:i=4:=by omega
    rw[Sc.IK a b c ha]at hbR
    have HG:=Lib.hid hg;clear hg
    have HR:=Lib.hid hbR;clear hbR Qx
    go_wp2
    go_end0
    exact⟨rfl,HG.out,HR.out⟩
end
section
open Go.RowKit Ow
theorem EU {w:World} {base e n g:Nat} {xs:List Value} (h:w.ownsRow base e 1 (.slice (some ⟨g,0,none⟩) n n) n xs):aH w g e xs/\base<=g:=by
 rcases h.2 with⟨h0,_⟩ |⟨g',cap,cur,e1,hb,hg,_,_,hs,ht⟩
 .cases h0
 .cases e1
  refine⟨?_,hb⟩
  have:cur.toList=xs:=by rw[<- ht,List.take_of_length_le];rw[Array.length_toList];omega
  unfold aH
  rw[hg,<- this,Array.toArray_toList]
def PK (l:List Nat) (w:World) (e:Ending) (w':World):Prop:=∃g,e=.returned (.slice (some ⟨g,0,none⟩) l.length l.length)/\w.grownBy w' none/\w.heap.size<=g/\aH w' g 5 (l.map dD)
def DW (n:Nat):List Nat:=ko (n%Sc.L) 32
theorem fO (n:Nat):(DW n).length=32:=pW _ _
theorem Bv (n i:Nat):(DW n).getD i 0<256:=PE _ _ _
theorem WK (n:Nat):num (DW n)=n%Sc.L:=by
 unfold DW
 rw[Ld]
 exact Nat.mod_eq_of_lt (Sc.Yz _ (Sc.mod_lt n))
theorem Bw (l:List Nat) (hl:∀i,l.getD i 0<256):num l<2^(8*l.length):=Sc.Bh _ hl _
theorem Ni (n j k:Nat) (h:n<2^j) (hk:j<=k):n/2^k=0:=Nat.div_eq_of_lt (Nat.lt_of_lt_of_le h (Nat.pow_le_pow_right (by decide) hk))
theorem Nj (l:List Nat) (hl:∀i,l.getD i 0<256) (h:l.length<=64):num l/2^(64*8)=0:=by
 have h2:=Ni (num l) (8*l.length) (64*8) (Bw l hl) (by omega)
 exact h2
theorem zF (l:List Nat) (hl:∀i,l.getD i 0<256) (h:l.length<=32):num l<2^256:=
 Nat.lt_of_lt_of_le (Bw l hl) (Nat.pow_le_pow_right (by decide) (by omega))
def nI:List Value:=[.int .u64 0,.int .u64 0,.int .u64 0,.int .u64 0,.int .u64 0,.int .u64 0,.int .u64 0,.int .u64 0,.int .u64 0,.int .u64 0,.int .u64 0,.int .u64 0]
theorem TA {n:Nat} {w w1 w2:World} {g:Nat} (hg:w.grownBy w1 none) (hg2:w1.grownBy w2 none) (ho:w2.ownsRow w1.heap.size 5 1 (.slice (some ⟨g,0,none⟩) 32 32) 32 ((ko n 32).map dD)):
  ∀m,n=m%Sc.L->PK (DW m) w (.returned (.slice (some ⟨g,0,none⟩) 32 32)) w2:=by
 rintro m rfl
 obtain⟨hb,hge⟩:=EU ho
 exact⟨g,by rw[fO],aj hg hg2,Nat.le_trans hg.size hge,hb⟩
end
section
open Go.RowKit Ow Go.Shelf
attribute [local go_sem] Oper.semAt_some
def ny (f:Nat->Nat) (j:Nat):Bool:=decide (f (j/8)/2^(j%8)%2=1)
def je (f:Nat->Nat) (k:Nat):List Bool:=(List.range k).map (ny f)
theorem IL (f:Nat->Nat) (k:Nat):je f (k+1)=je f k++[ny f k]:=by simp[je,List.range_succ]
theorem l8 (f:Nat->Nat) (k:Nat):(je f k).length=k:=by simp[je]
theorem aam (x j:Nat) (hx:x<256):(bits .and .u8 ((x:Int)/2^j) 1==1)=decide (x/2^j%2=1):=by
 have all:∀j:Fin 256,(bits .and .u8 (j.val:Int) 1==1)=decide (j.val%2=1):=by decide +kernel
 have hl:x/2^j<256:=Nat.lt_of_le_of_lt (Nat.div_le_self _ _) hx
 have e:(x:Int)/2^j=((x/2^j:Nat):Int):=by rw[Int.natCast_ediv,Int.natCast_pow];rfl
 rw[e]
 exact all ⟨x/2^j,hl⟩
def tH (pb po Bs:Nat) (W W':World):Prop:=(∀j,j<32->W'.cell? ⟨pb,po+j,none⟩=W.cell? ⟨pb,po+j,none⟩)/\W'.cell? ⟨Bs,0,none⟩=W.cell? ⟨Bs,0,none⟩
theorem IQ {pb po Bs:Nat} {A B C:World} (h:tH pb po Bs A B) (k:tH pb po Bs B C):tH pb po Bs A C:=⟨fun j hj=>(k.1 j hj).trans (h.1 j hj),k.2.trans h.2⟩
theorem TB {pb po Bs n:Nat} (hR:pb<n) (hB:Bs<n) (W:World) (l:Nat) (o o':Obj) (hl:n<=l) (h:W.heap[l]?=some o):tH pb po Bs W (W.putObj l o'):=by
 have hlt:l<W.heap.size:=(Array.getElem?_eq_some_iff.1 h).1
 exact⟨fun j _=>bf (grownBy_putObj' W l o') (p:=⟨pb,po+j,none⟩) (show pb<_ by omega) (bG (by show pb≠l;omega)),bf (grownBy_putObj' W l o') (p:=⟨Bs,0,none⟩) (show Bs<_ by omega) (bG (by show Bs≠l;omega))⟩
set_option maxHeartbeats 1000000 in
theorem Lg (F:Fence) (n:Nat) (hf:F.fn 106) (hro:F.round=none) (a:Option Addr) (len cap:Nat) (w:World):
  CallsIn F n Tryz.prog 106 #[.slice a len cap] w fun e w'=>e=.returned (.func (.func 135) #[] #[.pointer (some ⟨w.heap.size,0,none⟩)])/\w'=w.alloc (.cells #[.slice a len cap] 22):=by
 refine callsIn_of_wp Tryz.func106 rfl hf ?_ hro
 simp only[Tryz.ntmps106,List.size_toArray,List.length_cons,List.length_nil,Nat.reduceAdd,Nat.reduceSub,Array.replicate_succ,Array.replicate_zero,List.push_toArray,List.append_toArray,List.nil_append,List.cons_append]
 gi_wp2
 go_ret
 exact⟨rfl,rfl⟩
set_option maxRecDepth 100000 in
set_option maxHeartbeats 2000000 in
theorem IU (F:Fence) (n:Nat) (hf:F.fn 135) (hro:F.round=none) (hn:1<=n) (l Bs pb po cap:Nat) (f:Nat->Nat) (hfb:∀i,f i<256) (J Jx:List Bool->World->Prop)
  (hY:∀pre x W,J pre W->pre.length<256->YieldAt F (n-1) Tryz.prog l #[.bool x] W fun e W'=>
   (e=.returned (.bool true)/\J (pre++[x]) W'/\tH pb po Bs W W')\/(e=.returned (.bool false)/\Jx (pre++[x]) W'))
  (W:World) (vM:W.cell? ⟨Bs,0,none⟩=some (.slice (some ⟨pb,po,none⟩) 32 cap)) (hc:∀j,j<32->W.cell? ⟨pb,po+j,none⟩=some (.int .u8 (f j:Int))) (h0:J [] W):
  CallsIn F n Tryz.prog 135 #[.func (.yield l) #[] #[],.pointer (some ⟨Bs,0,none⟩)] W fun e W'=>(∃v,e=.returned v)/\
   ((∃ys,ys=je f 256/\J ys W')\/(∃pre,True/\Jx pre W')):=by
 have HC:=Lib.hid hc;clear hc
 have HF:=Lib.hid hfb;clear hfb
 refine callsIn_of_wp Tryz.func135 rfl hf ?_ hro
 simp only[Tryz.ntmps135,List.size_toArray,List.length_cons,List.length_nil,Nat.reduceAdd,Nat.reduceSub,Array.replicate_succ,Array.replicate_zero,List.push_toArray,List.append_toArray,List.nil_append,List.cons_append]
 gi_wp2
 clear vM
 gi_loopw [8] (fun i wr=>∃k:Nat,k<=32/\i=.int .i64 k/\J (je f (8*k)) wr/\tH pb po Bs W wr) (fun i _=>32-(intOf i).toNat)
 case atStart=>exact⟨0,by omega,rfl,h0,⟨fun _ _=>rfl,rfl⟩⟩
 case round=>
  obtain⟨k,hk,rfl,hJs,hnx⟩:=hrel
  by_cases hkl:k<32
  .have hcx:wr.cell? ⟨pb,po+k,none⟩=some (.int .u8 (f k:Int)):=(hnx.1 k hkl).trans (HC.out k hkl)
   obtain⟨x,hx⟩:∃x,x=f k:=⟨_,rfl⟩
   have hxl:x<256:=by rw[hx];exact HF.out k
   rw[<- hx]at hcx
   have HX:=Lib.hid hx;clear hx
   have i0:(k:Int)<32:=by omega
   gi_wp2
   clear hcx
   gi_loopw [12] (fun t wr'=>∃j:Nat,j<=8/\t=.int .i64 j/\J (je f (8*k+j)) wr'/\tH pb po Bs W wr') (fun t _=>8-(intOf t).toNat)
   case atStart=>exact⟨0,by omega,rfl,hJs,hnx⟩
   case round=>
    clear hJs hnx
    obtain⟨j,hj,rfl,hJs,hnx⟩:=hrel
    by_cases hjl:j<8
    .obtain⟨fn,tmps,assign,body,hy,hR⟩:=hY _ (ny f (8*k+j)) wr hJs (by rw[l8];omega)
     have hb:ny f (8*k+j)=(bits .and .u8 ((x:Int)/2^j) 1==1):=by
      rw[aam x j hxl,HX.out]
      unfold ny
      rw[show (8*k+j)/8=k by omega,show (8*k+j)%8=j by omega]
     rw[hb]at hy
     have HBI:=Lib.hid hb;clear hb
     gi_wp2
     refine hR.mono ?_
     rintro e W3 (⟨rfl,hJ3,hk3⟩ |⟨rfl,hJx3⟩)
     .rw[<- IL]at hJ3
      gi_wp2
      go_roundw
      case rel=>exact⟨j+1,by omega,by go_num,hJ3,IQ hnx hk3⟩
      case measure=>simp[intOf];omega
     .gi_wp2
      refine bodyPost_ret (results_none rfl _ _ _) rfl ?_
      exact⟨⟨_,rfl⟩,.inr ⟨_,trivial,hJx3⟩⟩
    .obtain rfl:j=8:=by omega
     gi_wp2
     go_roundw
     case rel=>exact⟨k+1,by omega,by go_num,by rw[show 8*(k+1)=8*k+8 by omega];exact hJs,hnx⟩
     case measure=>simp[intOf];omega
  .obtain rfl:k=32:=by omega
   gi_wp2
   go_end0
   exact⟨⟨_,rfl⟩,.inl ⟨_,rfl,hJs⟩⟩
theorem CO (F:Fence) (n:Nat) (hf:F.fn 135) (hro:F.round=none) (hn:1<=n) (Bs pb po cap:Nat) (f:Nat->Nat) (hfb:∀i,f i<256) (w:World) (vM:Bs<w.heap.size) (hR:pb<w.heap.size)
  (hb:w.cell? ⟨Bs,0,none⟩=some (.slice (some ⟨pb,po,none⟩) 32 cap)) (hc:∀j,j<32->w.cell? ⟨pb,po+j,none⟩=some (.int .u8 (f j:Int))):
  SeqStopsK F n Tryz.prog 135 #[.pointer (some ⟨Bs,0,none⟩)] (fun x=>#[.bool x]) (tH pb po Bs) (fun ys=>ys=je f 256) (fun _=>True) 256 w:=fun l J Jx W hW _ _ hY h0=>
 IU F n hf hro hn l Bs pb po cap f hfb J Jx hY W ((hW.cell (p:=⟨Bs,0,none⟩) vM).trans hb) (fun j hj=>(hW.cell (p:=⟨pb,po+j,none⟩) hR).trans (hc j hj)) h0
end
section
open Go.RowKit Ow
theorem uj (l:List Nat) (hl:l.length=32) (hb:∀i,l.getD i 0<256) (m:Nat) (hm:m<256):ny (fun i=>l.getD i 0) m=decide (num l/2^m%2=1):=by
 have h:=Sc.Ws (fun i=>l.getD i 0) hb 32 (m/8) (by omega)
 have hn:num l=Sc.uE (fun i=>l.getD i 0) 32:=by unfold num;rw[hl]
 unfold ny
 have e:(fun i=>l.getD i 0) (m/8)/2^(m%8)%2=num l/2^m%2:=by
  show l.getD (m/8) 0/2^(m%8)%2=_
  rw[<- h,<- hn]
  unfold Sc.Qu
  have e1:(2:Nat)^m=2^(8*(m/8))*2^(m%8):=by rw[<- Nat.pow_add];congr 1;omega
  rw[e1,<- Nat.div_div_eq_div_mul]
  generalize num l/2^(8*(m/8))=x
  have e2:(256:Nat)=2^(m%8)*(2*2^(7-m%8)):=by
   rw[show (2:Nat)*2^(7-m%8)=2^(7-m%8+1) by rw[Nat.pow_succ,Nat.mul_comm],<- Nat.pow_add,show m%8+(7-m%8+1)=8 by omega]
  rw[e2,Nat.mod_mul_right_div_self,Nat.mod_mul_right_mod]
 rw[e]
end
section
open Go.RowKit Ow Ed
def sel (b:Bool) (p acc:Pr):Pr:=if b then Ed.add acc p else acc
theorem ahn (p0 p1 p2 p3:Pr) (a b c d:Bool):(qY [p0,p1,p2,p3]).getD (8*d.toNat+4*c.toNat+2*b.toNat+a.toNat) zero=sel d p3 (sel c p2 (sel b p1 (sel a p0 zero))):=by
 cases a<;>cases b<;>cases c<;>cases d<;>rfl
theorem Bz (T:Nat) (p0 p1 p2 p3 acc:Pr) (b:Nat->Bool) (g:Nat) (h:x9 b g<16) (ha:On acc):
  wS T (qY [p0,p1,p2,p3]) acc ⟨x9 b g,h⟩=Ed.add (bD (2^T) acc) (sel (b (4*g+3)) p3 (sel (b (4*g+2)) p2 (sel (b (4*g+1)) p1 (sel (b (4*g)) p0 zero)))):=by
 unfold wS
 rw[<- ahn]
 show (if x9 b g=0 then _ else Ed.add _ ((qY [p0,p1,p2,p3]).getD (x9 b g) zero))=Ed.add _ ((qY [p0,p1,p2,p3]).getD (x9 b g) zero)
 by_cases h0:x9 b g=0
 .rw[if_pos h0,h0]
  exact (add_zero (dx ha _)).symm
 .rw[if_neg h0]
theorem BA {p:Pr} (hp:On p) (b:Bool) (k m:Nat):sel b (bD k p) (bD m p)=bD (m+k*b.toNat) p:=by
 cases b with
 | false=>rw[show m+k*false.toNat=m by simp];rfl
 | true=>rw[show m+k*true.toNat=m+k by simp,iX hp];rfl
theorem IV {p:Pr} (hp:On p) (b:Bool):sel b p zero=bD b.toNat p:=by
 cases b with
 | false=>rfl
 | true=>show Ed.add zero p=bD 1 p;rw[wL hp,zero_add hp]
theorem aho {p:Pr} (hp:On p) (a b c d:Bool):sel d (bD 8 p) (sel c (bD 4 p) (sel b (bD 2 p) (sel a p zero)))=bD (8*d.toNat+4*c.toNat+2*b.toNat+a.toNat) p:=by
 rw[IV hp,BA hp,BA hp,BA hp]
 congr 1
 omega
theorem WL (n g:Nat):x9 (fun j=>decide (n/2^j%2=1)) g=n/2^(4*g)%16:=by
 have hd:∀x:Nat,(decide (x%2=1)).toNat=x%2:=fun x=>by
  rcases Nat.mod_two_eq_zero_or_one x with h|h<;>rw[h]<;>rfl
 unfold x9
 simp only[hd,Nat.pow_add,<- Nat.div_div_eq_div_mul]
 generalize n/2^(4*g)=x
 omega
theorem WM (n G k:Nat) (hk:k<G):n/2^(4*(G-(k+1)))=16*(n/2^(4*(G-k)))+n/2^(4*(G-1-k))%16:=by
 rw[show G-(k+1)=G-1-k by omega,show 4*(G-k)=4*(G-1-k)+4 by omega,Nat.pow_add,<- Nat.div_div_eq_div_mul]
 generalize n/2^(4*(G-1-k))=x
 omega
theorem Nk {p:Pr} (hp:On p) (n G:Nat) (hn:n<2^(4*G)):∀k,k<=G->
  rG 4 (qY [p,bD 2 p,bD 4 p,bD 8 p]) (gG (fun j=>decide (n/2^j%2=1)) G k)=bD (n/2^(4*(G-k))) p
 | 0,_=>by
  rw[Nat.sub_zero,Nat.div_eq_of_lt hn]
  rfl
 | k+1,hk=>by
  have ih:=Nk hp n G hn k (by omega)
  rw[tF,qZ,ih,Bz 4 _ _ _ _ _ _ _ _ (dx hp _),aho hp,WM n G k (by omega),iX hp (16*_),Nat.mul_comm 16,qA hp]
  have e:=WL n (G-1-k)
  unfold x9 at e
  rw[e]
end
section
open Go.RowKit Ow Go.Shelf
attribute [local go_sem] Oper.semAt_some
theorem um:∃i z,Tryz.prog.info? 4=some i/\i.zero=some z/\i.size=1/\i.bytes=1/\z.cells.size=1:=by
 have h:(Tryz.prog.info? 4).map (fun i=>(i.zero.map (·.cells.size),i.size,i.bytes))=some (some 1,1,1):=by kernel_rfl
 cases hi:Tryz.prog.info? 4 with
 | none=>rw[hi]at h;cases h
 | some i=>
  rw[hi]at h
  simp only[Option.map_some,Option.some.injEq,Prod.mk.injEq]at h
  cases hz:i.zero with
  | none=>rw[hz]at h;cases h.1
  | some z=>rw[hz]at h;exact⟨i,z,rfl,hz,h.2.1,h.2.2,by simpa using h.1⟩
theorem yc (w:World) (base g n0 c:Nat) (x:Bool) (xs:List Value) (hown:w.ownsRow base 4 1 (.slice (some ⟨g,0,none⟩) n0 c) n0 xs) (hroom:n0+1<=c):
  ∃w',(Builtin.append_ #[111,111] 111 #[.slice (some ⟨g,0,none⟩) n0 c,.slice (some ⟨w.heap.size,0,none⟩) 1 1]).run Tryz.prog (w.alloc (.cells #[.bool x] 4))=.ok (.slice (some ⟨g,0,none⟩) (n0+1) c) w'/\w'.ownsRow base 4 1 (.slice (some ⟨g,0,none⟩) (n0+1) c) (n0+1) (xs++[.bool x])/\w.grownBy w' (some g):=by
 obtain⟨i,z,hi,hz,hs,hb,hc⟩:=um
 obtain⟨w',hr,ho,hg⟩:=run_append_fits (w.alloc (.cells #[.bool x] 4)) base 111 111 4 i 1 (P:=Tryz.prog) Tryz.underlying111 hi hs g n0 c xs (hown.alloc _) ⟨w.heap.size,0,none⟩ 1 1 [.bool x] rfl (fun j u hu=>by
   have hj:j=0:=by
    rcases Nat.eq_zero_or_pos j with h|h
    .exact h
    .rw[List.getElem?_eq_none (by simp;omega)]at hu;cases hu
   subst hj
   rw[show Value.bool x=u by simpa using hu]
   exact (aH.new w [u] 4).cell (i:=0) rfl) (fun u hu=>by rw[List.mem_singleton.1 hu];rfl) hroom
 exact⟨w',hr,ho,aj (av (ah _ _) _) hg⟩
theorem uG {F:Fence} {n:Nat} {P:Program} (w:World) {ops:Array Oper} {rest:List Oper} {o:Oper} {a:Act} {Q:Exit->Act->World->Prop}
  (hg:o.guard=none) (s x:Operand) (t:TypeId) (hop:o.op=Op.call {callee:=Callee.builtin Builtin.append,args:=#[s,x],argTypes:=#[t,t]}) (ht:o.type=t) (v y:Value) (hs:a.eval s=v) (hx:a.eval x=y) (v':Value) (w':World)
  (hrun:(Builtin.append_ #[t,t] t #[v,y]).run P w=.ok v' w') (hK:wpListIn F n P ops Q rest (a.put o.dst v') w'):wpListIn F n P ops Q (o:: rest) a w:=by
 refine wpListIn_plain hg fun K hK'=>?_
 rw[<- ht]at hrun
 unfold Oper.wpIn
 refine⟨?_,?_⟩
 .simp[Oper.about,hop,resolve,Target.leads,Sem.run_pure]
 .rw[Oper.semAt_plain F _ _ (by rw[hop];intro c hc';cases hc')]
  simp[execOp,hop,resolve,invoke,builtin,hs,hx,<- ht,hrun,Result.andThen]
  exact hK' _ _ hK
structure aan (w:World) (pb po cap:Nat) (f:Nat->Nat) (pre:List Bool) (W:World):Prop where
 row:W.ownsRow w.heap.size 4 1 (.slice (some ⟨w.heap.size,0,none⟩) pre.length 256) pre.length (pre.map .bool)
 box:aH W (w.heap.size+1) 111 [.slice (some ⟨w.heap.size,0,none⟩) pre.length 256]
 grown:w.grownBy W none
 size:w.heap.size+3<=W.heap.size
theorem TD (w:World) (pb po cap:Nat) (f:Nat->Nat) (n:Nat) (hn:w.heap.size<n):OwnFrom n (aan w pb po cap f):=fun s A B row h hg hr=>
 ⟨h.row.kept hg (Or.inr (fun e=>by have:=(hr _ e.symm).1;simp at this;omega)),kX h.box hg hr,ES h.grown hg (fun r e=>by have:=(hr r e).1;omega),Nat.le_trans h.size hg.size⟩
def ado (l:List Bool) (w:World) (e:Ending) (w':World):Prop:=∃g,e=.returned (.slice (some ⟨g,0,none⟩) l.length l.length)/\w.grownBy w' none/\w.heap.size<=g/\aH w' g 4 (l.map .bool)
set_option maxRecDepth 100000 in
set_option maxHeartbeats 2000000 in
theorem WO (cap pb po:Nat) (f:Nat->Nat) (w:World) (hf:∀i,f i<256) (hpb:pb<w.heap.size) (hc:∀j,j<32->w.cell? ⟨pb,po+j,none⟩=some (.int .u8 (f j:Int))):
  Calls Tryz.prog 76 #[.slice (some ⟨pb,po,none⟩) 32 cap] w (ado (je f 256) w):=by
 have HF:=Lib.hid hf;clear hf
 have HC:=Lib.hid hc;clear hc
 obtain⟨i,z,hi,hz,hs,hb,hcc⟩:=um
 obtain⟨w1,hmk,ho1,hg1⟩:=run_make_own w w.heap.size 111 4 i z 1 (P:=Tryz.prog) Tryz.underlying111 hi hz hs .i64 .i64 256 (by rw[hb];omega) (by unfold maxLen;omega) (Nat.le_refl _)
 have hmk':(Instr.makeSlice 111 (.int .i64 0) (.int .i64 256)).run Tryz.prog w=.ok (.slice (some ⟨w.heap.size,0,none⟩) 0 256) w1:=hmk
 have hs1:w1.heap.size=w.heap.size+1:=by
  have h2:=run_make (P:=Tryz.prog) w 111 4 i z Tryz.underlying111 hi hz .i64 .i64 0 256 (by omega) (by omega) (by rw[hb];omega) (by omega)
  rw[hmk']at h2
  injection h2 with _ h3
  rw[h3];simp
 clear hmk hi hz hs hb hcc
 refine (callsIn_wide (n:=9)).1 ?_
 refine callsIn_of_wp_marks Tryz.func76 rfl trivial ?_ rfl
 simp only[Tryz.ntmps76,List.size_toArray,List.length_cons,List.length_nil,Nat.reduceAdd,Nat.reduceSub,Array.replicate_succ,Array.replicate_zero,List.push_toArray,List.append_toArray,List.nil_append,List.cons_append]
 gi_wp2_with fail
 refine⟨trivial,?_⟩
 have hX:=kQ w1 (B:=w.heap.size+1) [.slice (some ⟨w.heap.size,0,none⟩) 0 256] 111 hs1
 have ho2:=ho1.alloc (.cells #[.slice (some ⟨w.heap.size,0,none⟩) 0 256] 111)
 have hg2:=av hg1 (.cells #[.slice (some ⟨w.heap.size,0,none⟩) 0 256] 111)
 have hs2:(w1.alloc (.cells #[.slice (some ⟨w.heap.size,0,none⟩) 0 256] 111)).heap.size=w.heap.size+2:=by simp[hs1]
 clear ho1 hg1 hs1 hmk'
 revert hX ho2 hg2 hs2
 generalize w1.alloc (.cells #[.slice (some ⟨w.heap.size,0,none⟩) 0 256] 111)=w2
 intro hX ho2 hg2 hs2
 refine (Lg Fence.wide 8 trivial rfl _ _ _ _).mono ?_
 rintro e w3 ⟨rfl,hw3⟩
 have hI:aan w pb po cap f [] w3:=by
  subst hw3
  exact⟨ho2.alloc _,hX.alloc _,av hg2 _,by simp[hs2]⟩
 have vM:aH w3 (w.heap.size+2) 22 [.slice (some ⟨pb,po,none⟩) 32 cap]:=by
  subst hw3
  exact kQ w2 [.slice (some ⟨pb,po,none⟩) 32 cap] _ hs2
 have hs3:w3.heap.size=w.heap.size+3:=by subst hw3;simp[hs2]
 rw[hs2]
 clear hw3 hX ho2 hg2 hs2
 have HI:=Lib.hid hI;clear hI
 gi_wp2_with fail
 have hRN:∀j,j<32->w3.cell? ⟨pb,po+j,none⟩=some (.int .u8 (f j:Int)):=fun j hj=>by rw[bf HI.out.grown (p:=⟨pb,po+j,none⟩) hpb (by simp)];exact HC.out j hj
 refine wpIn_rangeFunc_ownG (F:=Fence.wide) (n:=9) rfl (by decide) (gf:=135) (lb:=#[.pointer (some ⟨w.heap.size+2,0,none⟩)]) rfl trivial (enters_of Tryz.func135 (by kernel_rfl) rfl)
  (w0:=w3) (CO Fence.wide 8 trivial rfl (by decide) (w.heap.size+2) pb po cap f HF.out w3 (by omega) (by omega) (vM.cell (i:=0) rfl) hRN)
  (fun h k=>IQ h k) (fun W l o o' hl h _ _=>TB (n:=w3.heap.size) (by omega) (by omega) W l o o' hl h) (Below.refl _ _) (fun _=>rfl)
  (aan w pb po cap f) (fun _ _ _=>False) (TD w pb po cap f _ (by omega)) (fun _ _ _ _ _ h _ _=>h) HI.out
  (fun x=>{tmps:=#[.slice (some ⟨pb,po,none⟩) 32 cap,undef,.slice none 0 0,.pointer (some ⟨w.heap.size+1,0,none⟩),.bool x,.slice (some ⟨pb,po,none⟩) 32 cap,.int .i64 32,.bool false,.slice (some ⟨w.heap.size,0,none⟩) 0 256,.slice (some ⟨pb,po,none⟩) 32 cap,.func (.func 135) #[] #[.pointer (some ⟨w.heap.size+2,0,none⟩)],.bool x,undef,undef,undef,undef,undef],defers:=[]}) ?assign ?body ?done ?stop
 case assign=>
  intro l x W K hK
  gi_wp2
  exact hK
 case body=>
  rintro l pre x W hI hlen
  obtain⟨w4,hap,ho4,hg4⟩:=yc W w.heap.size w.heap.size pre.length 256 x _ hI.row (by omega)
  have hb4:=hI.box.grown hg4 (bG (by omega))
  have c0:=hI.box.cell (i:=0) rfl
  have c4:=hb4.cell (i:=0) rfl
  have f4:=hb4.free 0
  have HAP:=Lib.hid hap;clear hap
  have HJ:=Lib.hid (And.intro hI (And.intro ho4 (And.intro hg4 hb4)));clear hI ho4 hg4 hb4
  gi_wp2_with (gi_at_builtin;refine uG _ rfl (.tmp 12) (.tmp 14) 111 rfl rfl _ _ rfl rfl _ _ HAP.out ?_)
  obtain⟨hI,ho4,hg4,hb4⟩:=HJ.out
  have hg5:=aJ (ah w4 (some (w.heap.size+1))) 0 (Value.slice (some ⟨w.heap.size,0,none⟩) (pre.length+1) 256)
  have hb5:=hb4.set 0 (Value.slice (some ⟨w.heap.size,0,none⟩) (pre.length+1) 256)
  have hk5:=(KeepsFrom.of_grownBy (B:=w3.heap.size) hg4 (fun j e=>by cases e;omega)).trans (KeepsFrom.of_grownBy (B:=w3.heap.size) hg5 (fun j e=>by cases e;omega))
  have hpW:pb<W.heap.size:=by have:=hI.size;omega
  have hp4:pb<w4.heap.size:=Nat.lt_of_lt_of_le hpW hg4.size
  have hqW:w.heap.size+2<W.heap.size:=by have:=hI.size;omega
  have hq4:w.heap.size+2<w4.heap.size:=Nat.lt_of_lt_of_le hqW hg4.size
  have e1:(pre++[x]).length=pre.length+1:=by simp
  have e2:(pre++[x]).map Value.bool=pre.map Value.bool++[Value.bool x]:=by simp
  refine⟨hk5,⟨fun j hj=>?_,?_⟩,?_⟩
  .rw[bf hg5 (p:=⟨pb,po+j,none⟩) hp4 (bG (by show pb≠w.heap.size+1;omega)),bf hg4 (p:=⟨pb,po+j,none⟩) hpW (bG (by show pb≠w.heap.size;omega))]
  .rw[bf hg5 (p:=⟨w.heap.size+2,0,none⟩) hq4 (bG (by show w.heap.size+2≠w.heap.size+1;omega)),bf hg4 (p:=⟨w.heap.size+2,0,none⟩) hqW (bG (by show w.heap.size+2≠w.heap.size;omega))]
  .refine⟨?_,?_,aW (aW hI.grown hg4 (Nat.le_refl _)) hg5 (by omega),Nat.le_trans hI.size (Nat.le_trans hg4.size hg5.size)⟩
   .rw[e1,e2]
    exact ho4.kept hg5 (Or.inr (bG (by show w.heap.size≠w.heap.size+1;omega)))
   .rw[e1];exact hb5
 case done=>
  rintro D ys W hD rfl hI hK
  have hl:=l8 f 256
  have hrow:=hI.row
  have CJ:=hI.box.cell (i:=0) rfl
  rw[hl]at hrow CJ
  obtain⟨hbk,hge⟩:=EU hrow
  have HJ:=Lib.hid (And.intro hI.grown hbk);clear hI hrow hbk hl
  gi_wp2
  have hp:=grownBy_putObj' W D (.deferred none)
  have hb5:=HJ.out.2.grown hp (bG (by omega))
  have hg5:=aW HJ.out.1 hp (by omega)
  refine⟨by simp,.inl ⟨_,_,rfl,run_takeDeferred hK,?_⟩⟩
  refine⟨.slice (some ⟨w.heap.size,0,none⟩) 256 256,?_,w.heap.size,by rw[l8],hg5,hge,hb5⟩
  simp[results,Tryz.results76,go_sem]
 case stop=>
  rintro D c pre W _ _ h _
  exact h.elim
theorem TF (cap B:Nat) (a:Option Addr) (l:List Nat) (w:World) (hl:l.length=32) (hP:BytesAt w B a cap l):
  Calls Tryz.prog 76 #[.slice a 32 cap] w (ado (je (fun i=>l.getD i 0) 256) w):=by
 obtain⟨pb,po,rfl,hpb,hpc⟩:=hP.cells.resolve_left (by omega)
 exact WO cap pb po _ w hP.byte (Nat.lt_of_lt_of_le hpb hP.lim) fun j hj=>hpc j (by omega)
end
section
open Go.RowKit Ow Go.Shelf Ed
theorem BD (cap B:Nat) (a:Option Addr) (l:List Nat) (w:World) (hl:l.length=32) (hP:BytesAt w B a cap l):
  Calls Tryz.prog 76 #[.slice a 32 cap] w fun e w'=>∃g,e=.returned (.slice (some ⟨g,0,none⟩) 256 256)/\w.grownBy w' none/\w.heap.size<=g/\aH w' g 4 ((je (fun i=>l.getD i 0) 256).map Value.bool):=
 (TF cap B a l w hl hP).mono fun _ _ ⟨g,he,hg,hn,hb⟩=>⟨g,by rw[he,l8],hg,hn,hb⟩
theorem yh {w:World} {g:Nat} {f:Nat->Nat} (h:aH w g 4 ((je f 256).map Value.bool)) (j:Nat) (hj:j<256):w.cell? ⟨g,j,none⟩=some (.bool (ny f j)):=
 h.cell (i:=j) (by simp[je,hj])
theorem Nl {a b c d:Pt} {p q r s:Pr} (ha:iO a p) (hb:iO b q) (hc:iO c r) (hd:iO d s):lU [a,b,c,d] [p,q,r,s]:=⟨rfl,fun i hi=>by
 have:i=0\/i=1\/i=2\/i=3:=by simp at hi;omega
 rcases this with rfl|rfl|rfl|rfl
 .exact ha
 .exact hb
 .exact hc
 .exact hd⟩
theorem TG (l:List Nat) (hl:l.length=32) (hb:∀i,l.getD i 0<256):gG (ny fun i=>l.getD i 0) 64 64=gG (fun j=>decide (num l/2^j%2=1)) 64 64:=by
 unfold gG
 apply List.map_congr_left
 intro t ht
 have ht2:t<64:=List.mem_range.1 ht
 apply Subtype.ext
 show x9 (ny fun i=>l.getD i 0) (64-1-t)=x9 (fun j=>decide (num l/2^j%2=1)) (64-1-t)
 unfold x9
 simp only[uj l hl hb (4*(64-1-t)+3) (by omega),uj l hl hb (4*(64-1-t)+2) (by omega),uj l hl hb (4*(64-1-t)+1) (by omega),uj l hl hb (4*(64-1-t)) (by omega)]
theorem aao {r:Pr} (hr:On r) (l:List Nat) (hl:l.length=32) (hb:∀i,l.getD i 0<256):
  rG 4 (qY [r,Ed.add r r,Ed.add (Ed.add r r) (Ed.add r r),Ed.add (Ed.add (Ed.add r r) (Ed.add r r)) (Ed.add (Ed.add r r) (Ed.add r r))]) (gG (ny fun i=>l.getD i 0) 64 64)=bD (num l) r:=by
 have h2:Ed.add r r=bD 2 r:=(AO hr).symm
 have h4:Ed.add (bD 2 r) (bD 2 r)=bD 4 r:=(iX hr 2 2).symm
 have h8:Ed.add (bD 4 r) (bD 4 r)=bD 8 r:=(iX hr 4 4).symm
 have hn:num l<2^(4*64):=by have:=Bw l hb;rwa [hl]at this
 rw[h2,h4,h8,TG l hl hb,Nk hr (num l) 64 hn 64 (Nat.le_refl _),Nat.sub_self,Nat.mul_zero,Nat.pow_zero,Nat.div_one]
set_option maxRecDepth 100000 in
set_option maxHeartbeats 12800000 in
theorem adq (p:Pt) (r:Pr) (l:List Nat) (cap B:Nat) (a:Option Addr) (w0:World) (HT0:eY w0) (hp:iO p r) (hl:l.length=32) (EW:Hid (BytesAt w0 B a cap l)):
  Calls Tryz.prog 63 #[.slice a 32 cap,p.v] w0 fun e w'=>MP (bD (num l) r) w0 e w':=by
 show Calls Tryz.prog 63 #[.slice a 32 cap,.agg (aY p).toArray] w0 _
 go_enter Tryz.func63,Tryz.ntmps63
 go_upto_region 1 with (fail)
 have G:w0.grownBy ((w0.alloc (.cells (aY p).toArray 56)).alloc (.cells bB.toArray 56)) none:=av (av (ah _ _) _) _
 have HT:eY ((w0.alloc (.cells (aY p).toArray 56)).alloc (.cells bB.toArray 56)):=HT0.grown (av (av (ah _ _) _) _)
 have hP:aH ((w0.alloc (.cells (aY p).toArray 56)).alloc (.cells bB.toArray 56)) (w0.heap.size) 56 (aY p):=(aH.new w0 (aY p) _).alloc _
 have hR:aH ((w0.alloc (.cells (aY p).toArray 56)).alloc (.cells bB.toArray 56)) (w0.heap.size+1) 56 bB:=aH.newAt (w0.alloc _) bB _ (by simp)
 revert G HT hP hR
 generalize (w0.alloc (.cells (aY p).toArray 56)).alloc (.cells bB.toArray 56)=W0
 intro G HT hP hR
 have Gs:=G.size
 go_upto_region 3 with (fail)
 have lI:=G.size
 have uz:=hP.lt
 have lG:=hR.lt
 refine Fg.rP [5] [.any,.any,.any,.any,.any,.fresh 56 bB W0.heap.size,.any,.any,.any,.any,.any,.val (p.v),.val ((kP p).v)] 3 ?_ ?_
 .refine Fg.vS rfl (by decide) (fun _ _ h=>Fg.vn p.v (Fg.run_load rfl (h.r 3) ((hP.gn h.base).range 0 (aY p) rfl) Tryz.underlying56 rfl aP)) ?_
  refine Fg.cS rfl (by decide) (fun _ w h=>Fg.cq rfl (Iq p _ _ (HT.grown h.base) hp) ⟨h.d 11,trivial⟩ Tryz.func78) ?_
  refine⟨⟨⟨_,rfl⟩,Fg.gF (fun _ _ h k=>aj h k) rfl (by show 5<24;decide) fun ac w h=>?_⟩,?_⟩
  .refine⟨aB rfl,w.alloc (.cells bB.toArray 56),?_,World.grownBy_alloc _ _ _,by simp,⟨w.heap.size,rfl,h.base.size,aH.new w bB _⟩⟩
   clear h
   go_simp
  trivial
 .intro qa V1 g1 hsz hdf hrest aC hpt
  obtain⟨N5,hs5,Qv,hb5⟩:∃N,qa.tmps.getD 5 undef=.pointer (some ⟨N,0,none⟩)/\W0.heap.size<=N/\aH V1 N 56 bB:=aC 5 (by kernel_rfl)
  obtain⟨⟨u7,hs7⟩,⟨u8,lC⟩,⟨u9,jD⟩,⟨u11,d9⟩,_⟩:=Fg.bn qa [7,8,9,11]
  obtain⟨x1,hx1⟩:∃x:Pt,x=kP p:=⟨_,rfl⟩
  obtain rfl:=Fg.aQ [5,7,8,9,11,12] (vs:=[_,_,_,_,_,Value.pointer (some ⟨N5,0,none⟩),_,u7,u8,u9,_,u11,x1.v,_,_,_,_,_,_,_,_,_,_,_]) hsz hrest (by kernel_rfl) rfl rfl ⟨hs5,hs7,lC,jD,d9,(show qa.tmps.getD 12 undef=x1.v by rw[hx1];exact aC 12 (by kernel_rfl)),trivial⟩ hdf
  clear hsz hdf hrest aC hpt hs5 hs7 lC jD d9
  have mZ:=Lib.hid hx1;clear hx1
  replace hP:=hP.gn g1
  replace hR:=hR.gn g1
  replace G:=aj G g1
  replace HT:=HT.grown g1
  have FH:w0.heap.size<=N5:=Nat.le_trans lI Qv
  clear g1
  refine Fg.aV rfl rfl (Fg.run_store (cs:=aY x1) rfl rfl rfl (hb5.there 0 20 (by show 0+20<=20;decide)) aP (gJ _)) ?_
  replace hP:=hP.au (C:=N5) (cs:=aY x1) 0 (by omega)
  replace hR:=hR.au (C:=N5) (cs:=aY x1) 0 (by omega)
  replace hb5:aH (V1.setCells N5 0 (aY x1)) N5 56 (aY x1):=hb5.bC rfl
  replace G:=aG (cs:=aY x1) G (B:=N5) (FH) 0
  replace HT:=HT.keep (aK (cs:=aY x1) (ah _ (some N5)) 0) (HT0.jW (FH))
  revert hP hR hb5 G HT
  generalize V1.setCells N5 0 (aY x1)=W2
  intro hP hR hb5 G HT
  have is1:iO x1 (Ed.add r r):=by rw[mZ.out];exact Ip hp
  go_upto_region 4 with (fail)
  have vO:=G.size
  have CB:=hP.lt
  have qU:=hR.lt
  have wR:=hb5.lt
  refine Fg.rP [6] [.any,.any,.any,.any,.any,.any,.fresh 56 bB W2.heap.size,.any,.any,.any,.any,.any,.any,.val (x1.v),.val ((kP x1).v)] 3 ?_ ?_
  .refine Fg.vS rfl (by decide) (fun _ _ h=>Fg.vn x1.v (Fg.run_load rfl (h.r 5) ((hb5.gn h.base).range 0 (aY x1) rfl) Tryz.underlying56 rfl aP)) ?_
   refine Fg.cS rfl (by decide) (fun _ w h=>Fg.cq rfl (Iq x1 _ _ (HT.grown h.base) is1) ⟨h.d 13,trivial⟩ Tryz.func78) ?_
   refine⟨⟨⟨_,rfl⟩,Fg.gF (fun _ _ h k=>aj h k) rfl (by show 6<24;decide) fun ac w h=>?_⟩,?_⟩
   .refine⟨aB rfl,w.alloc (.cells bB.toArray 56),?_,World.grownBy_alloc _ _ _,by simp,⟨w.heap.size,rfl,h.base.size,aH.new w bB _⟩⟩
    clear h
    go_simp
   trivial
  .intro qa V3 g3 hsz hdf hrest aC hpt
   obtain⟨N6,hs6,OZ,hb6⟩:∃N,qa.tmps.getD 6 undef=.pointer (some ⟨N,0,none⟩)/\W2.heap.size<=N/\aH V3 N 56 bB:=aC 6 (by kernel_rfl)
   obtain⟨u13,dL⟩:=Fg.bL qa 13
   obtain⟨x2,hx2⟩:∃x:Pt,x=kP x1:=⟨_,rfl⟩
   obtain rfl:=Fg.aQ [6,13,14] (vs:=[_,_,_,_,_,_,Value.pointer (some ⟨N6,0,none⟩),_,_,_,_,_,_,u13,x2.v,_,_,_,_,_,_,_,_,_]) hsz hrest (by kernel_rfl) rfl rfl ⟨hs6,dL,(show qa.tmps.getD 14 undef=x2.v by rw[hx2];exact aC 14 (by kernel_rfl)),trivial⟩ hdf
   clear hsz hdf hrest aC hpt hs6 dL
   have FE:=Lib.hid hx2;clear hx2
   replace hP:=hP.gn g3
   replace hR:=hR.gn g3
   replace hb5:=hb5.gn g3
   replace G:=aj G g3
   replace HT:=HT.grown g3
   have DI:w0.heap.size<=N6:=Nat.le_trans vO OZ
   clear g3
   refine Fg.aV rfl rfl (Fg.run_store (cs:=aY x2) rfl rfl rfl (hb6.there 0 20 (by show 0+20<=20;decide)) aP (gJ _)) ?_
   replace hP:=hP.au (C:=N6) (cs:=aY x2) 0 (by omega)
   replace hR:=hR.au (C:=N6) (cs:=aY x2) 0 (by omega)
   replace hb5:=hb5.au (C:=N6) (cs:=aY x2) 0 (by omega)
   replace hb6:aH (V3.setCells N6 0 (aY x2)) N6 56 (aY x2):=hb6.bC rfl
   replace G:=aG (cs:=aY x2) G (B:=N6) (DI) 0
   replace HT:=HT.keep (aK (cs:=aY x2) (ah _ (some N6)) 0) (HT0.jW (DI))
   revert hP hR hb5 hb6 G HT
   generalize V3.setCells N6 0 (aY x2)=W4
   intro hP hR hb5 hb6 G HT
   have is2:iO x2 (Ed.add (Ed.add r r) (Ed.add r r)):=by rw[FE.out];exact Ip is1
   go_upto_region 5 with (fail)
   have O1:=G.size
   have He:=hP.lt
   have uy:=hR.lt
   have yS:=hb5.lt
   have yN:=hb6.lt
   refine Fg.rT [] [.any,.any,.any,.any,.any,.any,.any,.any,.any,.any,.any,.any,.any,.any,.any,.val (Value.slice a 32 cap),.row 4 ((je (fun i=>l.getD i 0) 256).map Value.bool) 256 W4.heap.size,.val (p.v),.val (x1.v),.val (x2.v),.val (x2.v),.val ((kP x2).v),.row 56 (iY [p,x1,x2,kP x2]) 4 W4.heap.size] 8 ?_ ?_
   .refine Fg.vS rfl (by decide) (fun _ _ h=>Fg.vn _ (Fg.run_move rfl (h.r 0))) ?_
    refine Fg.cS rfl (by decide) (fun ac w h=>?_) ?_
    .have e15:_=Value.slice a 32 cap:=h.d 15
     refine⟨aB rfl,76,#[Value.slice a 32 cap],Fg.aN rfl rfl (by simp only[List.map_toArray,List.map_cons,List.map_nil,Act.eval,e15]) (Fg.aI Tryz.func76 (by kernel_rfl) (by kernel_rfl)),?_⟩
     exact (BD cap B a l _ hl (EW.out.stay (aj G h.base))).mono fun _ _ ⟨NB,he,hg,hn,hb⟩=>⟨_,he,hg,⟨NB,rfl,Nat.le_trans h.base.size hn,hb⟩⟩
    refine Fg.vS rfl (by decide) (fun _ _ h=>Fg.vn p.v (Fg.run_load rfl (h.r 3) ((hP.gn h.base).range 0 (aY p) rfl) Tryz.underlying56 rfl aP)) ?_
    refine Fg.vS rfl (by decide) (fun _ _ h=>Fg.vn x1.v (Fg.run_load rfl (h.r 5) ((hb5.gn h.base).range 0 (aY x1) rfl) Tryz.underlying56 rfl aP)) ?_
    refine Fg.vS rfl (by decide) (fun _ _ h=>Fg.vn x2.v (Fg.run_load rfl (h.r 6) ((hb6.gn h.base).range 0 (aY x2) rfl) Tryz.underlying56 rfl aP)) ?_
    refine Fg.vS rfl (by decide) (fun _ _ h=>Fg.vn x2.v (Fg.run_load rfl (h.r 6) ((hb6.gn h.base).range 0 (aY x2) rfl) Tryz.underlying56 rfl aP)) ?_
    refine Fg.cS rfl (by decide) (fun _ w h=>Fg.cq rfl (Iq x2 _ _ (HT.grown h.base) is2) ⟨h.d 20,trivial⟩ Tryz.func78) ?_
    refine Fg.vS rfl (by decide) (fun ac w h=>?_) ?_
    .have e17:_=p.v:=h.d 17
     have e18:_=x1.v:=h.d 18
     have e19:_=x2.v:=h.d 19
     have e21:_=(kP x2).v:=h.d 21
     exact⟨aB rfl,.slice (some ⟨w.heap.size,0,none⟩) 4 4,w.alloc (.cells (iY [p,x1,x2,kP x2]).toArray 56),Fg.run_buildSlice (vs:=#[(0,p.v),(1,x1.v),(2,x2.v),(3,(kP x2).v)]) rfl (by simp only[List.map_toArray,List.map_cons,List.map_nil,Act.eval,e17,e18,e19,e21]) (by kernel_rfl),World.grownBy_alloc _ _ _,⟨w.heap.size,rfl,h.base.size,aH.new w (iY [p,x1,x2,kP x2]) _⟩⟩
    trivial
   .intro qa V5 g5 hsz hdf hrest aC hpt
    obtain⟨u15,dM⟩:=Fg.bL qa 15
    obtain⟨N16,dG,hn16,EX⟩:∃N,qa.tmps.getD 16 undef=.slice (some ⟨N,0,none⟩) 256 256/\W4.heap.size<=N/\aH V5 N 4 ((je (fun i=>l.getD i 0) 256).map Value.bool):=aC 16 (by kernel_rfl)
    obtain⟨⟨u17,eD⟩,⟨u18,eF⟩,⟨u19,eG⟩,⟨u20,dU⟩,⟨u21,eP⟩,_⟩:=Fg.bn qa [17,18,19,20,21]
    obtain⟨N22,eT,ahp,IW⟩:∃N,qa.tmps.getD 22 undef=.slice (some ⟨N,0,none⟩) 4 4/\W4.heap.size<=N/\aH V5 N 56 (iY [p,x1,x2,kP x2]):=aC 22 (by kernel_rfl)
    obtain rfl:=Fg.aQ [15,16,17,18,19,20,21,22] (vs:=[_,_,_,_,_,_,_,_,_,_,_,_,_,_,_,u15,Value.slice (some ⟨N16,0,none⟩) 256 256,u17,u18,u19,u20,u21,Value.slice (some ⟨N22,0,none⟩) 4 4,_]) hsz hrest (by kernel_rfl) rfl rfl ⟨dM,dG,eD,eF,eG,dU,eP,eT,trivial⟩ hdf
    clear hsz hdf hrest aC hpt dM dG eD eF eG dU eP eT
    replace hP:=hP.gn g5
    replace hR:=hR.gn g5
    replace hb5:=hb5.gn g5
    replace hb6:=hb6.gn g5
    replace G:=aj G g5
    replace HT:=HT.grown g5
    have hw16:w0.heap.size<=N16:=Nat.le_trans O1 hn16
    have amW:w0.heap.size<=N22:=Nat.le_trans O1 ahp
    clear g5
    have ac2:=hP.lt
    have KR:=hR.lt
    have Nc:=hb5.lt
    have AY:=hb6.lt
    have ahq:=EX.lt
    have ahr:=IW.lt
    have zB:B<=w0.heap.size:=EW.out.lim
    refine Fg.bP rfl (Fg.aN (vs:=#[.int .i64 4,.slice (some ⟨N16,0,none⟩) 256 256,.slice (some ⟨N22,0,none⟩) 4 4]) rfl rfl (by simp only[List.map_toArray,List.map_cons,List.map_nil,Act.eval];rfl) (Fg.aI Tryz.func77 (by kernel_rfl) (by kernel_rfl))) ?_
    refine (Bq 4 N22 N16 256 64 [p,x1,x2,kP x2] [r,Ed.add r r,Ed.add (Ed.add r r) (Ed.add r r),Ed.add (Ed.add (Ed.add r r) (Ed.add r r)) (Ed.add (Ed.add r r) (Ed.add r r))] [] (ny fun i=>l.getD i 0) _ HT (by decide) rfl (by decide) (by decide) rfl (Nl hp is1 is2 (Ip is2)) (by rw[List.append_nil];exact IW) EX.lt (fun j hj=>yh EX j hj)).mono ?_
    rintro e C5 ⟨t9,FI,rfl,gc⟩
    refine⟨_,rfl,?_⟩
    rw[aao hp.on l hl EW.out.byte]at FI
    have ZX:=Lib.hid FI;clear FI
    replace hP:=hP.gn gc
    replace hR:=hR.gn gc
    replace hb5:=hb5.gn gc
    replace hb6:=hb6.gn gc
    replace EX:=EX.gn gc
    replace IW:=IW.gn gc
    replace G:=aj G gc
    replace HT:=HT.grown gc
    clear gc
    refine Fg.aV rfl rfl (Fg.run_store (cs:=aY t9) rfl rfl rfl (hR.there 0 20 (by show 0+20<=20;decide)) aP (gJ _)) ?_
    replace hP:=hP.au (C:=(w0.heap.size+1)) (cs:=aY t9) 0 (by omega)
    replace hR:aH (C5.setCells (w0.heap.size+1) 0 (aY t9)) (w0.heap.size+1) 56 (aY t9):=hR.bC rfl
    replace hb5:=hb5.au (C:=(w0.heap.size+1)) (cs:=aY t9) 0 (by omega)
    replace hb6:=hb6.au (C:=(w0.heap.size+1)) (cs:=aY t9) 0 (by omega)
    replace EX:=EX.au (C:=(w0.heap.size+1)) (cs:=aY t9) 0 (by omega)
    replace IW:=IW.au (C:=(w0.heap.size+1)) (cs:=aY t9) 0 (by omega)
    replace G:=aG (cs:=aY t9) G (B:=(w0.heap.size+1)) (by omega) 0
    replace HT:=HT.keep (aK (cs:=aY t9) (ah _ (some (w0.heap.size+1))) 0) (HT0.jW (by omega))
    revert hP hR hb5 hb6 EX IW G HT
    generalize C5.setCells (w0.heap.size+1) 0 (aY t9)=W6
    intro hP hR hb5 hb6 EX IW G HT
    go_wp2_with fail
    exact bodyPost_ret (v:=t9.v) (results_cell_row Tryz.results63 _ _ (w0.heap.size+1) 56 (aY t9).toArray (0,0) _ rfl hR Tryz.underlying56 rfl aP) rfl ⟨t9,ZX.out,rfl,G⟩
end
section
open Go.RowKit Ow Ed
def pK (t:Pt) (b:Value):List Value:=aY t++[b]
def DX (t:Pt) (b s p:Value):List Value:=aY t++[b,s,p]
def Qy (t:Pt) (b:Value):Value:=.agg (pK t b).toArray
def soV (t:Pt) (b s p:Value):Value:=.agg (DX t b s p).toArray
theorem q9:(Tryz.prog.info? 58).map (·.size)=some 21:=by kernel_rfl
theorem EY:(Tryz.prog.info? 60).map (·.size)=some 23:=by kernel_rfl
theorem wU (t:Pt) (a:Option Addr) (n c:Nat):(pK t (.slice a n c)).all (·.oneCell')=true:=rfl
theorem Nn (t:Pt) (a a' a'':Option Addr) (n c n' c' n'' c'':Nat):(DX t (.slice a n c) (.slice a' n' c') (.slice a'' n'' c'')).all (·.oneCell')=true:=rfl
theorem oL {ρ:Operand->Value} {o:Oper} {w:World} {x:Operand} {b off:Nat} {v:Value} (ho:o.op=.load 22 x) (hx:ρ x=.pointer (some ⟨b,off,none⟩)) (hc:w.cell? ⟨b,off,none⟩=some v):
  (execOp ρ o).run Tryz.prog w=.ok (.value v) w:=by
 unfold execOp
 simp only[ho,hx]
 go_simp
theorem adr {w:World} {g:Nat} {p:Pr} (h:aH w g 141 ((j5 (enc p)).map dD)):BytesAt w w.heap.size (some ⟨g,0,none⟩) 32 (j5 (enc p)):=
 nL (tl:=[]) (by rw[List.append_nil];exact h) (iQ _) (Nat.le_refl _) (by decide) (EM _) h.lt (Nat.le_refl _)
end
section
open Go.RowKit Ow Go.Shelf Ed
set_option maxRecDepth 100000 in
set_option maxHeartbeats 12800000 in
theorem TH (l:List Nat) (cap B:Nat) (a:Option Addr) (w0:World) (HT0:eY w0) (hl:l.length=32) (EW:Hid (BytesAt w0 B a cap l)):
  Calls Tryz.prog 37 #[.slice a 32 cap] w0 fun e w'=>∃(t:Pt) (g:Nat),iO t (bD (num l) dA)/\e=.returned (Qy t (.slice (some ⟨g,0,none⟩) 32 32))/\w0.grownBy w' none/\w0.heap.size<=g/\aH w' g 141 ((j5 (enc (bD (num l) dA))).map dD):=by
 go_enter Tryz.func37,Tryz.ntmps37
 go_upto_region 1 with (fail)
 have G:w0.grownBy (w0.alloc (.cells [Value.int IntKind.u64 0,Value.int IntKind.u64 0,Value.int IntKind.u64 0,Value.int IntKind.u64 0,Value.int IntKind.u64 0,Value.int IntKind.u64 0,Value.int IntKind.u64 0,Value.int IntKind.u64 0,Value.int IntKind.u64 0,Value.int IntKind.u64 0,Value.int IntKind.u64 0,Value.int IntKind.u64 0,Value.int IntKind.u64 0,Value.int IntKind.u64 0,Value.int IntKind.u64 0,Value.int IntKind.u64 0,Value.int IntKind.u64 0,Value.int IntKind.u64 0,Value.int IntKind.u64 0,Value.int IntKind.u64 0,Value.slice none 0 0].toArray 58)) none:=av (ah _ _) _
 have HT:eY (w0.alloc (.cells [Value.int IntKind.u64 0,Value.int IntKind.u64 0,Value.int IntKind.u64 0,Value.int IntKind.u64 0,Value.int IntKind.u64 0,Value.int IntKind.u64 0,Value.int IntKind.u64 0,Value.int IntKind.u64 0,Value.int IntKind.u64 0,Value.int IntKind.u64 0,Value.int IntKind.u64 0,Value.int IntKind.u64 0,Value.int IntKind.u64 0,Value.int IntKind.u64 0,Value.int IntKind.u64 0,Value.int IntKind.u64 0,Value.int IntKind.u64 0,Value.int IntKind.u64 0,Value.int IntKind.u64 0,Value.int IntKind.u64 0,Value.slice none 0 0].toArray 58)):=HT0.grown (av (ah _ _) _)
 have hR:aH (w0.alloc (.cells [Value.int IntKind.u64 0,Value.int IntKind.u64 0,Value.int IntKind.u64 0,Value.int IntKind.u64 0,Value.int IntKind.u64 0,Value.int IntKind.u64 0,Value.int IntKind.u64 0,Value.int IntKind.u64 0,Value.int IntKind.u64 0,Value.int IntKind.u64 0,Value.int IntKind.u64 0,Value.int IntKind.u64 0,Value.int IntKind.u64 0,Value.int IntKind.u64 0,Value.int IntKind.u64 0,Value.int IntKind.u64 0,Value.int IntKind.u64 0,Value.int IntKind.u64 0,Value.int IntKind.u64 0,Value.int IntKind.u64 0,Value.slice none 0 0].toArray 58)) w0.heap.size 58 [Value.int IntKind.u64 0,Value.int IntKind.u64 0,Value.int IntKind.u64 0,Value.int IntKind.u64 0,Value.int IntKind.u64 0,Value.int IntKind.u64 0,Value.int IntKind.u64 0,Value.int IntKind.u64 0,Value.int IntKind.u64 0,Value.int IntKind.u64 0,Value.int IntKind.u64 0,Value.int IntKind.u64 0,Value.int IntKind.u64 0,Value.int IntKind.u64 0,Value.int IntKind.u64 0,Value.int IntKind.u64 0,Value.int IntKind.u64 0,Value.int IntKind.u64 0,Value.int IntKind.u64 0,Value.int IntKind.u64 0,Value.slice none 0 0]:=aH.new w0 [Value.int IntKind.u64 0,Value.int IntKind.u64 0,Value.int IntKind.u64 0,Value.int IntKind.u64 0,Value.int IntKind.u64 0,Value.int IntKind.u64 0,Value.int IntKind.u64 0,Value.int IntKind.u64 0,Value.int IntKind.u64 0,Value.int IntKind.u64 0,Value.int IntKind.u64 0,Value.int IntKind.u64 0,Value.int IntKind.u64 0,Value.int IntKind.u64 0,Value.int IntKind.u64 0,Value.int IntKind.u64 0,Value.int IntKind.u64 0,Value.int IntKind.u64 0,Value.int IntKind.u64 0,Value.int IntKind.u64 0,Value.slice none 0 0] _
 revert G HT hR
 generalize w0.alloc (.cells [Value.int IntKind.u64 0,Value.int IntKind.u64 0,Value.int IntKind.u64 0,Value.int IntKind.u64 0,Value.int IntKind.u64 0,Value.int IntKind.u64 0,Value.int IntKind.u64 0,Value.int IntKind.u64 0,Value.int IntKind.u64 0,Value.int IntKind.u64 0,Value.int IntKind.u64 0,Value.int IntKind.u64 0,Value.int IntKind.u64 0,Value.int IntKind.u64 0,Value.int IntKind.u64 0,Value.int IntKind.u64 0,Value.int IntKind.u64 0,Value.int IntKind.u64 0,Value.int IntKind.u64 0,Value.int IntKind.u64 0,Value.slice none 0 0].toArray 58)=W0
 intro G HT hR
 have Gs:=G.size
 refine wp_region_lit ?_
 refine Fg.aL (v:=.slice a 32 cap) (w':=W0) rfl (Fg.run_move rfl rfl) ?_
 simp only[Act.put,List.setIfInBounds_toArray,List.set_cons_succ,List.set_cons_zero]
 refine Fg.bP rfl (Fg.aN (vs:=#[]) rfl rfl (by simp) (Fg.aI Tryz.func64 (by kernel_rfl) (by kernel_rfl))) ?_
 refine (KZ W0 HT).mono ?_
 rintro e A1 ⟨rfl,ga⟩
 refine⟨_,rfl,?_⟩
 replace hR:=hR.gn ga
 replace G:=aj G ga
 replace HT:=HT.grown ga
 clear ga
 simp only[Act.put,List.setIfInBounds_toArray,List.set_cons_succ,List.set_cons_zero]
 refine Fg.bP rfl (Fg.aN (vs:=#[.slice a 32 cap,fD.v]) rfl rfl (by simp only[List.map_toArray,List.map_cons,List.map_nil,Act.eval];rfl) (Fg.aI Tryz.func63 (by kernel_rfl) (by kernel_rfl))) ?_
 refine (adq fD dA l cap B a A1 HT EB hl (Lib.hid (EW.out.stay G))).mono ?_
 rintro e A2 ⟨t,ht,rfl,ga⟩
 refine⟨_,rfl,?_⟩
 replace hR:=hR.gn ga
 replace G:=aj G ga
 replace HT:=HT.grown ga
 clear ga
 simp only[Act.put,List.setIfInBounds_toArray,List.set_cons_succ,List.set_cons_zero]
 refine Fg.aL (v:=.pointer (some ⟨A2.heap.size,0,none⟩)) (w':=A2.alloc (.cells bB.toArray 56)) rfl (by go_simp) ?_
 simp only[Act.put,List.setIfInBounds_toArray,List.set_cons_succ,List.set_cons_zero]
 have hw3:w0.heap.size<=A2.heap.size:=G.size
 have hb3:=aH.new A2 bB 56
 have lG:=hR.lt
 have ga3:=av (ah A2 none) (.cells bB.toArray 56)
 replace hR:=hR.gn ga3
 replace G:=aj G ga3
 replace HT:=HT.grown ga3
 clear ga3
 obtain⟨N3,WQ⟩:∃x,x=A2.heap.size:=⟨_,rfl⟩
 rw[<- WQ]at hb3 hw3 ⊢
 rw[<- WQ]at lG
 revert hR G HT hb3
 generalize (A2.alloc (.cells bB.toArray 56))=A3
 intro hR G HT hb3
 clear WQ
 refine Fg.aV rfl rfl (Fg.run_store (cs:=aY t) rfl rfl rfl (hb3.there 0 20 (by show 0+20<=20;decide)) aP (gJ _)) ?_
 replace hR:=hR.au (C:=N3) (cs:=aY t) 0 (by omega)
 replace hb3:aH (A3.setCells N3 0 (aY t)) N3 56 (aY t):=hb3.bC rfl
 replace G:=aG (cs:=aY t) G (B:=N3) (hw3) 0
 replace HT:=HT.keep (aK (cs:=aY t) (ah _ (some N3)) 0) (HT0.jW (hw3))
 revert hR hb3 G HT
 generalize A3.setCells N3 0 (aY t)=W1
 intro hR hb3 G HT
 refine wpList_nil ?_
 go_upto_region 2 with (fail)
 have Gs1:=G.size
 have qU:=hR.lt
 have Bd:=hb3.lt
 refine Fg.rT [] [.any,.any,.any,.any,.any,.any,.any,.val (t.v),.val (t.v),.row 141 ((j5 (enc (bD (num l) dA))).map dD) 32 W1.heap.size] 3 ?_ ?_
 .refine Fg.vS rfl (by decide) (fun _ _ h=>Fg.vn t.v (Fg.run_load rfl (h.r 3) ((hb3.gn h.base).range 0 (aY t) rfl) Tryz.underlying56 rfl aP)) ?_
  refine Fg.vS rfl (by decide) (fun _ _ h=>Fg.vn t.v (Fg.run_load rfl (h.r 3) ((hb3.gn h.base).range 0 (aY t) rfl) Tryz.underlying56 rfl aP)) ?_
  refine Fg.cS rfl (by decide) (fun ac w h=>?_) ?_
  .have e8:_=t.v:=h.d 8
   refine⟨aB rfl,65,#[t.v],Fg.aN rfl rfl (by simp only[List.map_toArray,List.map_cons,List.map_nil,Act.eval,e8]) (Fg.aI Tryz.func65 (by kernel_rfl) (by kernel_rfl)),?_⟩
   exact (ZJ _ ht).mono fun _ _ ⟨NB,he,hg,hn,hb⟩=>⟨_,he,hg,⟨NB,rfl,Nat.le_trans h.base.size hn,hb⟩⟩
  trivial
 .intro qa V2 g2 hsz hdf hrest aC hpt
  obtain⟨⟨u4,hs4⟩,⟨u5,hs5⟩,⟨u6,hs6⟩,⟨u8,lC⟩,_⟩:=Fg.bn qa [4,5,6,8]
  obtain⟨N9,jD,hn9,VI⟩:∃N,qa.tmps.getD 9 undef=.slice (some ⟨N,0,none⟩) 32 32/\W1.heap.size<=N/\aH V2 N 141 ((j5 (enc (bD (num l) dA))).map dD):=aC 9 (by kernel_rfl)
  obtain rfl:=Fg.aQ [4,5,6,7,8,9] (vs:=[_,_,_,_,u4,u5,u6,t.v,u8,Value.slice (some ⟨N9,0,none⟩) 32 32,_]) hsz hrest (by kernel_rfl) rfl rfl ⟨hs4,hs5,hs6,(show qa.tmps.getD 7 undef=t.v from aC 7 (by kernel_rfl)),lC,jD,trivial⟩ hdf
  clear hsz hdf hrest aC hpt hs4 hs5 hs6 lC jD
  replace hR:=hR.gn g2
  replace hb3:=hb3.gn g2
  replace G:=aj G g2
  replace HT:=HT.grown g2
  have hw9:w0.heap.size<=N9:=Nat.le_trans Gs1 hn9
  clear g2
  have uy:=hR.lt
  have Hl:=hb3.lt
  have ajy:=VI.lt
  refine Fg.aL (v:=Qy t (.slice (some ⟨N9,0,none⟩) 32 32)) (w':=V2) rfl (Fg.run_build (vs:=#[(0,t.v),(1,Value.slice (some ⟨N9,0,none⟩) 32 32)]) rfl (by simp only[List.map_toArray,List.map_cons,List.map_nil,Act.eval];rfl) (by kernel_rfl)) ?_
  simp only[Act.put,List.setIfInBounds_toArray,List.set_cons_succ,List.set_cons_zero]
  refine Fg.aV rfl rfl (Fg.run_store (cs:=pK t (.slice (some ⟨N9,0,none⟩) 32 32)) rfl rfl rfl (hR.there 0 21 (by show 0+21<=21;decide)) q9 (wU _ _ _ _)) ?_
  replace hR:aH (V2.setCells w0.heap.size 0 (pK t (.slice (some ⟨N9,0,none⟩) 32 32))) w0.heap.size 58 (pK t (.slice (some ⟨N9,0,none⟩) 32 32)):=hR.bC rfl
  replace hb3:=hb3.au (C:=w0.heap.size) (cs:=pK t (.slice (some ⟨N9,0,none⟩) 32 32)) 0 (by omega)
  replace VI:=VI.au (C:=w0.heap.size) (cs:=pK t (.slice (some ⟨N9,0,none⟩) 32 32)) 0 (by omega)
  replace G:=aG (cs:=pK t (.slice (some ⟨N9,0,none⟩) 32 32)) G (B:=w0.heap.size) (Nat.le_refl _) 0
  replace HT:=HT.keep (aK (cs:=pK t (.slice (some ⟨N9,0,none⟩) 32 32)) (ah _ (some w0.heap.size)) 0) (HT0.jW (Nat.le_refl _))
  revert hR hb3 VI G HT
  generalize V2.setCells w0.heap.size 0 (pK t (.slice (some ⟨N9,0,none⟩) 32 32))=W3
  intro hR hb3 VI G HT
  go_wp2_with fail
  exact bodyPost_ret (v:=Qy t (.slice (some ⟨N9,0,none⟩) 32 32)) (results_cell_row Tryz.results37 _ _ w0.heap.size 58 (pK t (.slice (some ⟨N9,0,none⟩) 32 32)).toArray (0,0) _ rfl hR Tryz.underlying58 rfl q9) rfl ⟨t,N9,ht,rfl,G,hw9,VI⟩
set_option maxRecDepth 100000 in
set_option maxHeartbeats 12800000 in
theorem TI (B n cap:Nat) (a:Option Addr) (l:List Nat) (w0:World) (HT0:eY w0) (hl:l.length=n) (hn:n<9223372036854775808) (EW:Hid (BytesAt w0 B a cap l)):
  Calls Tryz.prog 43 #[.slice a n cap] w0 fun e w'=>∃(t:Pt) (b:Bool),e=.returned (.tuple #[Qy t (.slice a n cap),.bool b])/\w0.grownBy w' none/\(b=true->∃p,iO t p/\l.length=32/\enc p=uD l)/\(b=false->t=bV/\¬(l.length=32/\∃p,On p/\enc p=uD l)):=by
 go_enter Tryz.func43,Tryz.ntmps43
 go_upto_region 1 with (fail)
 have G:w0.grownBy (w0.alloc (.cells [Value.int IntKind.u64 0,Value.int IntKind.u64 0,Value.int IntKind.u64 0,Value.int IntKind.u64 0,Value.int IntKind.u64 0,Value.int IntKind.u64 0,Value.int IntKind.u64 0,Value.int IntKind.u64 0,Value.int IntKind.u64 0,Value.int IntKind.u64 0,Value.int IntKind.u64 0,Value.int IntKind.u64 0,Value.int IntKind.u64 0,Value.int IntKind.u64 0,Value.int IntKind.u64 0,Value.int IntKind.u64 0,Value.int IntKind.u64 0,Value.int IntKind.u64 0,Value.int IntKind.u64 0,Value.int IntKind.u64 0,Value.slice none 0 0].toArray 58)) none:=av (ah _ _) _
 have HT:eY (w0.alloc (.cells [Value.int IntKind.u64 0,Value.int IntKind.u64 0,Value.int IntKind.u64 0,Value.int IntKind.u64 0,Value.int IntKind.u64 0,Value.int IntKind.u64 0,Value.int IntKind.u64 0,Value.int IntKind.u64 0,Value.int IntKind.u64 0,Value.int IntKind.u64 0,Value.int IntKind.u64 0,Value.int IntKind.u64 0,Value.int IntKind.u64 0,Value.int IntKind.u64 0,Value.int IntKind.u64 0,Value.int IntKind.u64 0,Value.int IntKind.u64 0,Value.int IntKind.u64 0,Value.int IntKind.u64 0,Value.int IntKind.u64 0,Value.slice none 0 0].toArray 58)):=HT0.grown (av (ah _ _) _)
 have hR:aH (w0.alloc (.cells [Value.int IntKind.u64 0,Value.int IntKind.u64 0,Value.int IntKind.u64 0,Value.int IntKind.u64 0,Value.int IntKind.u64 0,Value.int IntKind.u64 0,Value.int IntKind.u64 0,Value.int IntKind.u64 0,Value.int IntKind.u64 0,Value.int IntKind.u64 0,Value.int IntKind.u64 0,Value.int IntKind.u64 0,Value.int IntKind.u64 0,Value.int IntKind.u64 0,Value.int IntKind.u64 0,Value.int IntKind.u64 0,Value.int IntKind.u64 0,Value.int IntKind.u64 0,Value.int IntKind.u64 0,Value.int IntKind.u64 0,Value.slice none 0 0].toArray 58)) w0.heap.size 58 [Value.int IntKind.u64 0,Value.int IntKind.u64 0,Value.int IntKind.u64 0,Value.int IntKind.u64 0,Value.int IntKind.u64 0,Value.int IntKind.u64 0,Value.int IntKind.u64 0,Value.int IntKind.u64 0,Value.int IntKind.u64 0,Value.int IntKind.u64 0,Value.int IntKind.u64 0,Value.int IntKind.u64 0,Value.int IntKind.u64 0,Value.int IntKind.u64 0,Value.int IntKind.u64 0,Value.int IntKind.u64 0,Value.int IntKind.u64 0,Value.int IntKind.u64 0,Value.int IntKind.u64 0,Value.int IntKind.u64 0,Value.slice none 0 0]:=aH.new w0 [Value.int IntKind.u64 0,Value.int IntKind.u64 0,Value.int IntKind.u64 0,Value.int IntKind.u64 0,Value.int IntKind.u64 0,Value.int IntKind.u64 0,Value.int IntKind.u64 0,Value.int IntKind.u64 0,Value.int IntKind.u64 0,Value.int IntKind.u64 0,Value.int IntKind.u64 0,Value.int IntKind.u64 0,Value.int IntKind.u64 0,Value.int IntKind.u64 0,Value.int IntKind.u64 0,Value.int IntKind.u64 0,Value.int IntKind.u64 0,Value.int IntKind.u64 0,Value.int IntKind.u64 0,Value.int IntKind.u64 0,Value.slice none 0 0] _
 revert G HT hR
 generalize w0.alloc (.cells [Value.int IntKind.u64 0,Value.int IntKind.u64 0,Value.int IntKind.u64 0,Value.int IntKind.u64 0,Value.int IntKind.u64 0,Value.int IntKind.u64 0,Value.int IntKind.u64 0,Value.int IntKind.u64 0,Value.int IntKind.u64 0,Value.int IntKind.u64 0,Value.int IntKind.u64 0,Value.int IntKind.u64 0,Value.int IntKind.u64 0,Value.int IntKind.u64 0,Value.int IntKind.u64 0,Value.int IntKind.u64 0,Value.int IntKind.u64 0,Value.int IntKind.u64 0,Value.int IntKind.u64 0,Value.int IntKind.u64 0,Value.slice none 0 0].toArray 58)=W0
 intro G HT hR
 have Gs:=G.size
 refine wp_region_lit ?_
 refine Fg.aL (v:=.slice a n cap) (w':=W0) rfl (Fg.run_move rfl rfl) ?_
 simp only[Act.put,List.setIfInBounds_toArray,List.set_cons_succ,List.set_cons_zero]
 refine Fg.bP rfl (Fg.aN (vs:=#[.slice a n cap]) rfl rfl (by simp only[List.map_toArray,List.map_cons,List.map_nil,Act.eval];rfl) (Fg.aI Tryz.func70 (by kernel_rfl) (by kernel_rfl))) ?_
 refine (acM B n cap a l W0 HT hl hn (EW.out.stay G)).mono ?_
 rintro e A1 ⟨t,b,rfl,ga,hyes,hno⟩
 refine⟨_,rfl,?_⟩
 have HY:=Lib.hid (And.intro hyes hno);clear hyes hno
 replace hR:=hR.gn ga
 replace G:=aj G ga
 replace HT:=HT.grown ga
 clear ga
 simp only[Act.put,List.setIfInBounds_toArray,List.set_cons_succ,List.set_cons_zero]
 refine Fg.aL (v:=.tuple #[t.v,.bool b]) (w':=A1) rfl (Fg.run_move rfl rfl) ?_
 simp only[Act.put,List.setIfInBounds_toArray,List.set_cons_succ,List.set_cons_zero]
 refine Fg.aL (v:=t.v) (w':=A1) rfl (Fg.bW rfl rfl rfl) ?_
 simp only[Act.put,List.setIfInBounds_toArray,List.set_cons_succ,List.set_cons_zero]
 refine Fg.aL (v:=.bool b) (w':=A1) rfl (Fg.bW rfl rfl rfl) ?_
 simp only[Act.put,List.setIfInBounds_toArray,List.set_cons_succ,List.set_cons_zero]
 refine Fg.aL (v:=.pointer (some ⟨A1.heap.size,0,none⟩)) (w':=A1.alloc (.cells bB.toArray 56)) rfl (by go_simp) ?_
 simp only[Act.put,List.setIfInBounds_toArray,List.set_cons_succ,List.set_cons_zero]
 have hw4:w0.heap.size<=A1.heap.size:=G.size
 have hb4:=aH.new A1 bB 56
 have lG:=hR.lt
 have ga4:=av (ah A1 none) (.cells bB.toArray 56)
 replace hR:=hR.gn ga4
 replace G:=aj G ga4
 replace HT:=HT.grown ga4
 clear ga4
 obtain⟨N4,hN4⟩:∃x,x=A1.heap.size:=⟨_,rfl⟩
 rw[<- hN4]at hb4 hw4 ⊢
 rw[<- hN4]at lG
 revert hR G HT hb4
 generalize (A1.alloc (.cells bB.toArray 56))=A3
 intro hR G HT hb4
 clear hN4
 refine Fg.aV rfl rfl (Fg.run_store (cs:=aY t) rfl rfl rfl (hb4.there 0 20 (by show 0+20<=20;decide)) aP (gJ _)) ?_
 replace hR:=hR.au (C:=N4) (cs:=aY t) 0 (by omega)
 replace hb4:aH (A3.setCells N4 0 (aY t)) N4 56 (aY t):=hb4.bC rfl
 replace G:=aG (cs:=aY t) G (B:=N4) (hw4) 0
 replace HT:=HT.keep (aK (cs:=aY t) (ah _ (some N4)) 0) (HT0.jW (hw4))
 revert hR hb4 G HT
 generalize A3.setCells N4 0 (aY t)=W1
 intro hR hb4 G HT
 refine Fg.aL (v:=.bool b) (w':=W1) rfl (Fg.run_assign rfl rfl) ?_
 refine wpList_nil ?_
 simp only[Act.put,List.setIfInBounds_toArray,List.set_cons_succ,List.set_cons_zero]
 go_upto_region 2 with (fail)
 refine wp_region_lit ?_
 refine Fg.aL (v:=t.v) (w':=W1) rfl (Fg.run_load rfl rfl (hb4.range 0 (aY t) rfl) Tryz.underlying56 rfl aP) ?_
 simp only[Act.put,List.setIfInBounds_toArray,List.set_cons_succ,List.set_cons_zero]
 refine Fg.aL (v:=.slice a n cap) (w':=W1) rfl (Fg.run_move rfl rfl) ?_
 simp only[Act.put,List.setIfInBounds_toArray,List.set_cons_succ,List.set_cons_zero]
 have qU:=hR.lt
 have GV:=hb4.lt
 refine Fg.aL (v:=Qy t (.slice a n cap)) (w':=W1) rfl (Fg.run_build (vs:=#[(0,t.v),(1,Value.slice a n cap)]) rfl (by simp only[List.map_toArray,List.map_cons,List.map_nil,Act.eval];rfl) (by kernel_rfl)) ?_
 simp only[Act.put,List.setIfInBounds_toArray,List.set_cons_succ,List.set_cons_zero]
 refine Fg.aL (v:=.bool b) (w':=W1) rfl (Fg.run_move rfl rfl) ?_
 simp only[Act.put,List.setIfInBounds_toArray,List.set_cons_succ,List.set_cons_zero]
 refine Fg.aV rfl rfl (Fg.run_store (cs:=pK t (.slice a n cap)) rfl rfl rfl (hR.there 0 21 (by show 0+21<=21;decide)) q9 (wU _ _ _ _)) ?_
 replace hR:aH (W1.setCells w0.heap.size 0 (pK t (.slice a n cap))) w0.heap.size 58 (pK t (.slice a n cap)):=hR.bC rfl
 replace hb4:=hb4.au (C:=w0.heap.size) (cs:=pK t (.slice a n cap)) 0 (by omega)
 replace G:=aG (cs:=pK t (.slice a n cap)) G (B:=w0.heap.size) (Nat.le_refl _) 0
 replace HT:=HT.keep (aK (cs:=pK t (.slice a n cap)) (ah _ (some w0.heap.size)) 0) (HT0.jW (Nat.le_refl _))
 revert hR hb4 G HT
 generalize W1.setCells w0.heap.size 0 (pK t (.slice a n cap))=W2
 intro hR hb4 G HT
 refine Fg.aL (v:=.bool b) (w':=W2) rfl (Fg.run_assign rfl rfl) ?_
 refine wpList_nil ?_
 simp only[Act.put,List.setIfInBounds_toArray,List.set_cons_succ,List.set_cons_zero]
 go_wp2_with fail
 exact bodyPost_ret (v:=.tuple #[Qy t (.slice a n cap),.bool b]) (dn Tryz.results43 _ _ w0.heap.size 58 (pK t (.slice a n cap)).toArray (0,0) _ rfl hR Tryz.underlying58 rfl q9 rfl) rfl ⟨t,b,rfl,G,HY.out⟩
end
namespace bE
def rr (x n:Nat):Nat:=(x <<< (64-n))%18446744073709551616 ||| x >>> n
def bs1 (e:Nat):Nat:=rr e 14^^^rr e 18^^^rr e 41
def bs0 (a:Nat):Nat:=rr a 28^^^rr a 34^^^rr a 39
def ss0 (x:Nat):Nat:=rr x 1^^^rr x 8^^^x >>> 7
def ss1 (x:Nat):Nat:=rr x 19^^^rr x 61^^^x >>> 6
def ch (x y z:Nat):Nat:=(x &&& y)^^^((18446744073709551615-x) &&& z)
def mj (x y z:Nat):Nat:=((x &&& y)^^^(x &&& z))^^^(y &&& z)
def H0:List Nat:=[7640891576956012808,13503953896175478587,4354685564936845355,11912009170470909681,
  5840696475078001361,11170449401992604703,2270897969802886507,6620516959819538809]
def K:List Nat:=[4794697086780616226,8158064640168781261,13096744586834688815,16840607885511220156,
  4131703408338449720,6480981068601479193,10538285296894168987,12329834152419229976,
  15566598209576043074,1334009975649890238,2608012711638119052,6128411473006802146,
  8268148722764581231,9286055187155687089,11230858885718282805,13951009754708518548,
  16472876342353939154,17275323862435702243,1135362057144423861,2597628984639134821,
  3308224258029322869,5365058923640841347,6679025012923562964,8573033837759648693,
  10970295158949994411,12119686244451234320,12683024718118986047,13788192230050041572,
  14330467153632333762,15395433587784984357,489312712824947311,1452737877330783856,
  2861767655752347644,3322285676063803686,5560940570517711597,5996557281743188959,
  7280758554555802590,8532644243296465576,9350256976987008742,10552545826968843579,
  11727347734174303076,12113106623233404929,14000437183269869457,14369950271660146224,
  15101387698204529176,15463397548674623760,17586052441742319658,1182934255886127544,
  1847814050463011016,2177327727835720531,2830643537854262169,3796741975233480872,
  4115178125766777443,5681478168544905931,6601373596472566643,7507060721942968483,
  8399075790359081724,8693463985226723168,9568029438360202098,10144078919501101548,
  10430055236837252648,11840083180663258601,13761210420658862357,14299343276471374635,
  14566680578165727644,15097957966210449927,16922976911328602910,17689382322260857208,
  500013540394364858,748580250866718886,1242879168328830382,1977374033974150939,
  2944078676154940804,3659926193048069267,4368137639120453308,4836135668995329356,
  5532061633213252278,6448918945643986474,6902733635092675308,7801388544844847127]
structure S where
 a:Nat
 b:Nat
 c:Nat
 d:Nat
 e:Nat
 f:Nat
 g:Nat
 h:Nat
def word (b0 b1 b2 b3 b4 b5 b6 b7:Nat):Nat:=
 (((((((b0 <<< 56) ||| (b1 <<< 48)) ||| (b2 <<< 40)) ||| (b3 <<< 32)) ||| (b4 <<< 24)) ||| (b5 <<< 16)) ||| (b6 <<< 8)) ||| b7
def vD (l:List Nat) (i:Nat):Nat:=
 word (l.getD i 0) (l.getD (i+1) 0) (l.getD (i+2) 0) (l.getD (i+3) 0) (l.getD (i+4) 0) (l.getD (i+5) 0) (l.getD (i+6) 0) (l.getD (i+7) 0)
def more (r:List Nat) (t:Nat):Nat:=
 (ss1 (r.getD (t-2) 0)+r.getD (t-7) 0+ss0 (r.getD (t-15) 0)+r.getD (t-16) 0)%18446744073709551616
def row (blk:List Nat):Nat->List Nat
 | 0=>[]
 | t+1=>row blk t++[if t<16 then vD blk (8*t) else more (row blk t) t]
def rnd (k w:Nat) (s:S):S:=
 ⟨((s.h+bs1 s.e+ch s.e s.f s.g+k+w)%18446744073709551616+(bs0 s.a+mj s.a s.b s.c)%18446744073709551616)%18446744073709551616,s.a,s.b,s.c,
  (s.d+(s.h+bs1 s.e+ch s.e s.f s.g+k+w)%18446744073709551616)%18446744073709551616,s.e,s.f,s.g⟩
def rR (ws:List Nat) (s:S):Nat->S
 | 0=>s
 | t+1=>rnd (K.getD t 0) (ws.getD t 0) (rR ws s t)
def plus (s t:S):S:=
 ⟨(s.a+t.a)%18446744073709551616,(s.b+t.b)%18446744073709551616,(s.c+t.c)%18446744073709551616,(s.d+t.d)%18446744073709551616,
  (s.e+t.e)%18446744073709551616,(s.f+t.f)%18446744073709551616,(s.g+t.g)%18446744073709551616,(s.h+t.h)%18446744073709551616⟩
def turn (s:S) (blk:List Nat):S:=plus s (rR (row blk 80) s 80)
def first:S:=⟨7640891576956012808,13503953896175478587,4354685564936845355,11912009170470909681,5840696475078001361,11170449401992604703,2270897969802886507,6620516959819538809⟩
def blocks (l:List Nat):Nat->S
 | 0=>first
 | n+1=>turn (blocks l n) ((l.drop (128*n)).take 128)
def byte (w i:Nat):Nat:=(w >>> (56-8*i))%256
def rC (w:Nat):List Nat:=[byte w 0,byte w 1,byte w 2,byte w 3,byte w 4,byte w 5,byte w 6,byte w 7]
def S.list (s:S):List Nat:=[s.a,s.b,s.c,s.d,s.e,s.f,s.g,s.h]
def S.bytes (s:S):List Nat:=s.list.flatMap rC
def kY (n:Nat):Nat:=if 128-n%128<17 then 256-n%128 else 128-n%128
def tail (n:Nat):List Nat:=
 128:: List.replicate (kY n-17) 0++rC (n >>> 61)++rC ((n <<< 3)%18446744073709551616)
def whole (l:List Nat):List Nat:=l++tail l.length
def sum (l:List Nat):List Nat:=(blocks (whole l) ((whole l).length/128)).bytes
end bE
section
open Go.RowKit
theorem TJ (n:Nat) (h1:1<=n) (h2:n<=63):bits .and .u64 (IntKind.u64.wrap (-(n:Int))) 63=((64-n:Nat):Int):=by
 have all:∀j:Fin 64,1<=j.val->bits .and .u64 (IntKind.u64.wrap (-(j.val:Int))) 63=((64-j.val:Nat):Int):=by decide +kernel
 exact all ⟨n,by omega⟩ h1
theorem wW {a b:Int} (h:a=b):Ending.returned (.int .u64 a)=.returned (.int .u64 b):=by rw[h]
def rrI (x n:Int):Int:=((bE.rr x.toNat n.toNat:Nat):Int)
def aap (x:Int):Int:=((bE.bs1 x.toNat:Nat):Int)
def aaq (x:Int):Int:=((bE.bs0 x.toNat:Nat):Int)
def aar (x:Int):Int:=((bE.ss1 x.toNat:Nat):Int)
def aas (x:Int):Int:=((bE.ss0 x.toNat:Nat):Int)
def chI (x y z:Int):Int:=((bE.ch x.toNat y.toNat z.toNat:Nat):Int)
def mjI (x y z:Int):Int:=((bE.mj x.toNat y.toNat z.toNat:Nat):Int)
theorem uP (x n:Nat) (h:x<18446744073709551616):bE.rr x n<18446744073709551616:=by
 unfold bE.rr
 have a:x <<< (64-n)%18446744073709551616<2^64:=Nat.mod_lt _ (by decide)
 have b:x >>> n<2^64:=by rw[Nat.shiftRight_eq_div_pow];exact Nat.lt_of_le_of_lt (Nat.div_le_self _ _) h
 exact Nat.or_lt_two_pow a b
theorem TK {x y:Nat} (a:x<18446744073709551616) (b:y<18446744073709551616):x^^^y<18446744073709551616:=Nat.xor_lt_two_pow (n:=64) a b
theorem tJ {x y:Nat} (b:y<18446744073709551616):x &&& y<18446744073709551616:=Nat.and_lt_two_pow (n:=64) x b
theorem BF {x:Nat} (n:Nat) (h:x<18446744073709551616):x >>> n<18446744073709551616:=by
 rw[Nat.shiftRight_eq_div_pow];exact Nat.lt_of_le_of_lt (Nat.div_le_self _ _) h
theorem adu (x n m:Nat) (hx:x<18446744073709551616) (hm:m=64-n) (hn:n<=64):
  bits .or .u64 (IntKind.u64.wrap ((x:Int)*2^m)) ((x:Int)/2^(64-m))=((bE.rr x n:Nat):Int):=by
 have e:64-m=n:=by omega
 have a:IntKind.u64.wrap ((x:Int)*2^m)=((x <<< m%18446744073709551616:Nat):Int):=by
  rw[IntKind.wrap_u64,Nat.shiftLeft_eq,Int.natCast_emod,Int.natCast_mul,Int.natCast_pow];rfl
 have b:(x:Int)/2^n=((x >>> n:Nat):Int):=by
  rw[Nat.shiftRight_eq_div_pow,Int.natCast_ediv,Int.natCast_pow];rfl
 rw[e,a,b,u64_or_nat _ _ (Nat.mod_lt _ (by decide)) (BF _ hx),hm]
 rfl
theorem TL (a b c:Nat) (ha:a<18446744073709551616) (hb:b<18446744073709551616) (hc:c<18446744073709551616):
  bits .xor .u64 (bits .xor .u64 (a:Int) (b:Int)) (c:Int)=((a^^^b^^^c:Nat):Int):=by
 rw[u64_xor_nat _ _ ha hb,u64_xor_nat _ _ (TK ha hb) hc]
set_option maxHeartbeats 400000 in
theorem nP (x n:Int) (w:World) (h0:0<=x) (h1:x<18446744073709551616) (hn1:1<=n) (hn2:n<=63):
  Calls Tryz.prog 156 #[.int .u64 x,.int .i64 n] w fun e w'=>e=.returned (.int .u64 (rrI x n))/\w=w':=by
 obtain⟨n,rfl⟩:=Int.eq_ofNat_of_zero_le (show 0<=n by omega)
 obtain⟨x,rfl⟩:=Int.eq_ofNat_of_zero_le h0
 have hn1':1<=n:=by omega
 have ahx:n<=63:=by omega
 have hx':x<18446744073709551616:=by omega
 have e1:=TJ n hn1' ahx
 obtain⟨m,hm⟩:∃m:Nat,m=64-n:=⟨_,rfl⟩
 rw[<- hm]at e1
 have hm1:1<=m:=by omega
 have hm2:m<=63:=by omega
 have Hf:=Lib.hid (adu x n m hx' hm (by omega));clear hm
 go_enter Tryz.func156,Tryz.ntmps156
 go_wp2
 go_ret
 refine⟨wW ?_,rfl⟩
 exact Hf.out
set_option maxHeartbeats 400000 in
theorem Lh (x:Int) (w:World) (h0:0<=x) (h1:x<18446744073709551616):
  Calls Tryz.prog 142 #[.int .u64 x] w fun e w'=>e=.returned (.int .u64 (aap x))/\w=w':=by
 have Hf:=Lib.hid (TL (bE.rr x.toNat 14) (bE.rr x.toNat 18) (bE.rr x.toNat 41) (uP _ _ (by omega)) (uP _ _ (by omega)) (uP _ _ (by omega)))
 go_enter Tryz.func142,Tryz.ntmps142
 go_wp2_with (go_at_call 156;refine (nP _ _ _ h0 h1 (by decide) (by decide)).mono ?_;rintro e w' ⟨rfl,rfl⟩)
 go_ret
 exact⟨wW Hf.out,rfl⟩
set_option maxHeartbeats 400000 in
theorem IX (x:Int) (w:World) (h0:0<=x) (h1:x<18446744073709551616):
  Calls Tryz.prog 144 #[.int .u64 x] w fun e w'=>e=.returned (.int .u64 (aaq x))/\w=w':=by
 have Hf:=Lib.hid (TL (bE.rr x.toNat 28) (bE.rr x.toNat 34) (bE.rr x.toNat 39) (uP _ _ (by omega)) (uP _ _ (by omega)) (uP _ _ (by omega)))
 go_enter Tryz.func144,Tryz.ntmps144
 go_wp2_with (go_at_call 156;refine (nP _ _ _ h0 h1 (by decide) (by decide)).mono ?_;rintro e w' ⟨rfl,rfl⟩)
 go_ret
 exact⟨wW Hf.out,rfl⟩
theorem adv (x:Int) (n:Nat) (h0:0<=x):x/2^n=((x.toNat >>> n:Nat):Int):=by
 obtain⟨x,rfl⟩:=Int.eq_ofNat_of_zero_le h0
 rw[Nat.shiftRight_eq_div_pow,Int.natCast_ediv,Int.natCast_pow];rfl
set_option maxHeartbeats 400000 in
theorem EZ (x:Int) (w:World) (h0:0<=x) (h1:x<18446744073709551616):
  Calls Tryz.prog 154 #[.int .u64 x] w fun e w'=>e=.returned (.int .u64 (aar x))/\w=w':=by
 have Hf:=Lib.hid (TL (bE.rr x.toNat 19) (bE.rr x.toNat 61) (x.toNat >>> 6) (uP _ _ (by omega)) (uP _ _ (by omega)) (BF _ (by omega)))
 have Hs:=Lib.hid (adv x 6 h0)
 go_enter Tryz.func154,Tryz.ntmps154
 go_wp2_with (go_at_call 156;refine (nP _ _ _ h0 h1 (by decide) (by decide)).mono ?_;rintro e w' ⟨rfl,rfl⟩)
 go_ret
 refine⟨wW ?_,rfl⟩
 refine Eq.trans ?_ Hf.out
 rw[<- Hs.out];rfl
set_option maxHeartbeats 400000 in
theorem CP (x:Int) (w:World) (h0:0<=x) (h1:x<18446744073709551616):
  Calls Tryz.prog 155 #[.int .u64 x] w fun e w'=>e=.returned (.int .u64 (aas x))/\w=w':=by
 have Hf:=Lib.hid (TL (bE.rr x.toNat 1) (bE.rr x.toNat 8) (x.toNat >>> 7) (uP _ _ (by omega)) (uP _ _ (by omega)) (BF _ (by omega)))
 have Hs:=Lib.hid (adv x 7 h0)
 go_enter Tryz.func155,Tryz.ntmps155
 go_wp2_with (go_at_call 156;refine (nP _ _ _ h0 h1 (by decide) (by decide)).mono ?_;rintro e w' ⟨rfl,rfl⟩)
 go_ret
 refine⟨wW ?_,rfl⟩
 refine Eq.trans ?_ Hf.out
 rw[<- Hs.out];rfl
theorem adw (x:Nat) (h:x<18446744073709551616):bits .xor .u64 IntKind.u64.max (x:Int)=((18446744073709551615-x:Nat):Int):=by
 have e:IntKind.u64.max=((18446744073709551615:Nat):Int):=by decide
 rw[e,u64_xor_nat _ _ (by decide) h]
 have:18446744073709551615^^^x=18446744073709551615-x:=by
  have h2:x<2^64:=h
  apply Nat.eq_of_testBit_eq
  intro i
  rw[Nat.testBit_xor,show 18446744073709551615-x=2^64-(x+1) from by omega,Nat.testBit_two_pow_sub_succ h2,show 18446744073709551615=2^64-1 from rfl,Nat.testBit_two_pow_sub_one]
  by_cases hi:i<64
  .simp[hi]
  .simp only[hi,decide_false,Bool.false_and,Bool.false_bne]
   exact Nat.testBit_lt_two_pow (Nat.lt_of_lt_of_le h2 (Nat.pow_le_pow_right (by decide) (by omega)))
 rw[this]
theorem adx (x y z:Int) (h0:0<=x) (h1:x<18446744073709551616) (k0:0<=y) (k1:y<18446744073709551616) (l0:0<=z) (l1:z<18446744073709551616):
  bits .xor .u64 (bits .and .u64 x y) (bits .and .u64 (bits .xor .u64 IntKind.u64.max x) z)=chI x y z:=by
 obtain⟨x,rfl⟩:=Int.eq_ofNat_of_zero_le h0
 obtain⟨y,rfl⟩:=Int.eq_ofNat_of_zero_le k0
 obtain⟨z,rfl⟩:=Int.eq_ofNat_of_zero_le l0
 rw[adw _ (by omega),u64_and_nat _ _ (by omega) (by omega),u64_and_nat _ _ (by omega) (by omega),u64_xor_nat _ _ (tJ (by omega)) (tJ (by omega))]
 rfl
theorem ady (x y z:Int) (h0:0<=x) (h1:x<18446744073709551616) (k0:0<=y) (k1:y<18446744073709551616) (l0:0<=z) (l1:z<18446744073709551616):
  bits .xor .u64 (bits .xor .u64 (bits .and .u64 x y) (bits .and .u64 x z)) (bits .and .u64 y z)=mjI x y z:=by
 obtain⟨x,rfl⟩:=Int.eq_ofNat_of_zero_le h0
 obtain⟨y,rfl⟩:=Int.eq_ofNat_of_zero_le k0
 obtain⟨z,rfl⟩:=Int.eq_ofNat_of_zero_le l0
 rw[u64_and_nat _ _ (by omega) (by omega),u64_and_nat _ _ (by omega) (by omega),u64_and_nat _ _ (by omega) (by omega),TL _ _ _ (tJ (by omega)) (tJ (by omega)) (tJ (by omega))]
 rfl
set_option maxHeartbeats 400000 in
theorem Li (x y z:Int) (w:World) (h0:0<=x) (h1:x<18446744073709551616) (k0:0<=y) (k1:y<18446744073709551616) (l0:0<=z) (l1:z<18446744073709551616):
  Calls Tryz.prog 143 #[.int .u64 x,.int .u64 y,.int .u64 z] w fun e w'=>e=.returned (.int .u64 (chI x y z))/\w=w':=by
 have Hf:=Lib.hid (adx x y z h0 h1 k0 k1 l0 l1)
 go_enter Tryz.func143,Tryz.ntmps143
 go_wp2
 go_ret
 exact⟨wW Hf.out,rfl⟩
set_option maxHeartbeats 400000 in
theorem E5 (x y z:Int) (w:World) (h0:0<=x) (h1:x<18446744073709551616) (k0:0<=y) (k1:y<18446744073709551616) (l0:0<=z) (l1:z<18446744073709551616):
  Calls Tryz.prog 145 #[.int .u64 x,.int .u64 y,.int .u64 z] w fun e w'=>e=.returned (.int .u64 (mjI x y z))/\w=w':=by
 have Hf:=Lib.hid (ady x y z h0 h1 k0 k1 l0 l1)
 go_enter Tryz.func145,Tryz.ntmps145
 go_wp2
 go_ret
 exact⟨wW Hf.out,rfl⟩
theorem PL (n:Nat) (h:n<18446744073709551616):0<=(n:Int)/\(n:Int)<18446744073709551616:=by omega
end
section
open Go.RowKit
def TM (x0 x1 x2 x3 x4 x5 x6 x7:Int):Int:=((bE.word x0.toNat x1.toNat x2.toNat x3.toNat x4.toNat x5.toNat x6.toNat x7.toNat:Nat):Int)
theorem dJ {x y:Nat} (a:x<18446744073709551616) (b:y<18446744073709551616):x ||| y<18446744073709551616:=Nat.or_lt_two_pow (n:=64) a b
theorem kZ (x k:Nat) (h:x<256) (hk:k<=56):x <<< k<18446744073709551616:=by
 rw[Nat.shiftLeft_eq]
 calc x*2^k<256*2^k:=Nat.mul_lt_mul_of_pos_right h (Nat.two_pow_pos k)
  _<=256*2^56:=Nat.mul_le_mul_left _ (Nat.pow_le_pow_right (by decide) hk)
  _=18446744073709551616:=by decide
theorem word_lt (x0 x1 x2 x3 x4 x5 x6 x7:Nat) (g0:x0<256) (g1:x1<256) (g2:x2<256) (g3:x3<256) (g4:x4<256) (g5:x5<256) (g6:x6<256) (g7:x7<256):
  bE.word x0 x1 x2 x3 x4 x5 x6 x7<18446744073709551616:=by
 unfold bE.word
 exact dJ (dJ (dJ (dJ (dJ (dJ (dJ (kZ _ _ g0 (by decide)) (kZ _ _ g1 (by decide))) (kZ _ _ g2 (by decide))) (kZ _ _ g3 (by decide))) (kZ _ _ g4 (by decide))) (kZ _ _ g5 (by decide))) (kZ _ _ g6 (by decide))) (by omega)
theorem Lj (x k:Nat):((x <<< k:Nat):Int)=(x:Int)*((2^k:Nat):Int):=by rw[Nat.shiftLeft_eq,Int.natCast_mul]
theorem adz (x:Nat):(x:Int)*(72057594037927936:Int)=((x <<< 56:Nat):Int):=by rw[Lj,show ((2^56:Nat):Int)=72057594037927936 from by decide]
theorem adA (x:Nat):(x:Int)*(281474976710656:Int)=((x <<< 48:Nat):Int):=by rw[Lj,show ((2^48:Nat):Int)=281474976710656 from by decide]
theorem adB (x:Nat):(x:Int)*(1099511627776:Int)=((x <<< 40:Nat):Int):=by rw[Lj,show ((2^40:Nat):Int)=1099511627776 from by decide]
theorem adC (x:Nat):(x:Int)*(4294967296:Int)=((x <<< 32:Nat):Int):=by rw[Lj,show ((2^32:Nat):Int)=4294967296 from by decide]
theorem adD (x:Nat):(x:Int)*(16777216:Int)=((x <<< 24:Nat):Int):=by rw[Lj,show ((2^24:Nat):Int)=16777216 from by decide]
theorem adE (x:Nat):(x:Int)*(65536:Int)=((x <<< 16:Nat):Int):=by rw[Lj,show ((2^16:Nat):Int)=65536 from by decide]
theorem ahy (x:Nat):(x:Int)*(256:Int)=((x <<< 8:Nat):Int):=by rw[Lj,show ((2^8:Nat):Int)=256 from by decide]
theorem WR (x0 x1 x2 x3 x4 x5 x6 x7:Int) (g0:0<=x0) (g0':x0<256) (g1:0<=x1) (g1':x1<256) (g2:0<=x2) (g2':x2<256) (g3:0<=x3) (g3':x3<256)
  (g4:0<=x4) (g4':x4<256) (g5:0<=x5) (g5':x5<256) (g6:0<=x6) (g6':x6<256) (g7:0<=x7) (g7':x7<256):
  bits .or .u64 (bits .or .u64 (bits .or .u64 (bits .or .u64 (bits .or .u64 (bits .or .u64 (bits .or .u64 (x0*72057594037927936) (x1*281474976710656)) (x2*1099511627776)) (x3*4294967296)) (x4*16777216)) (x5*65536)) (x6*256)) x7
   =TM x0 x1 x2 x3 x4 x5 x6 x7:=by
 obtain⟨x0,rfl⟩:=Int.eq_ofNat_of_zero_le g0
 obtain⟨x1,rfl⟩:=Int.eq_ofNat_of_zero_le g1
 obtain⟨x2,rfl⟩:=Int.eq_ofNat_of_zero_le g2
 obtain⟨x3,rfl⟩:=Int.eq_ofNat_of_zero_le g3
 obtain⟨x4,rfl⟩:=Int.eq_ofNat_of_zero_le g4
 obtain⟨x5,rfl⟩:=Int.eq_ofNat_of_zero_le g5
 obtain⟨x6,rfl⟩:=Int.eq_ofNat_of_zero_le g6
 obtain⟨x7,rfl⟩:=Int.eq_ofNat_of_zero_le g7
 have k0:x0<256:=by omega
 have k1:x1<256:=by omega
 have k2:x2<256:=by omega
 have k3:x3<256:=by omega
 have k4:x4<256:=by omega
 have k5:x5<256:=by omega
 have k6:x6<256:=by omega
 rw[adz,adA,adB,adC,adD,adE,ahy]
 have l0:=kZ x0 56 k0 (by decide)
 have l1:=kZ x1 48 k1 (by decide)
 have l2:=kZ x2 40 k2 (by decide)
 have l3:=kZ x3 32 k3 (by decide)
 have l4:=kZ x4 24 k4 (by decide)
 have l5:=kZ x5 16 k5 (by decide)
 have l6:=kZ x6 8 k6 (by decide)
 rw[u64_or_nat _ _ l0 l1,u64_or_nat _ _ (dJ l0 l1) l2,u64_or_nat _ _ (dJ (dJ l0 l1) l2) l3,u64_or_nat _ _ (dJ (dJ (dJ l0 l1) l2) l3) l4,
  u64_or_nat _ _ (dJ (dJ (dJ (dJ l0 l1) l2) l3) l4) l5,u64_or_nat _ _ (dJ (dJ (dJ (dJ (dJ l0 l1) l2) l3) l4) l5) l6,
  u64_or_nat _ _ (dJ (dJ (dJ (dJ (dJ (dJ l0 l1) l2) l3) l4) l5) l6) (by omega)]
 rfl
set_option maxHeartbeats 400000 in
theorem BG (b off n c:Nat) (x0 x1 x2 x3 x4 x5 x6 x7:Int) (w:World) (hn:8<=n)
  (g0:0<=x0) (g0':x0<256) (g1:0<=x1) (g1':x1<256) (g2:0<=x2) (g2':x2<256) (g3:0<=x3) (g3':x3<256)
  (g4:0<=x4) (g4':x4<256) (g5:0<=x5) (g5':x5<256) (g6:0<=x6) (g6':x6<256) (g7:0<=x7) (g7':x7<256)
  (c0:w.cell? ⟨b,off,none⟩=some (.int .u8 x0)) (c1:w.cell? ⟨b,off+1,none⟩=some (.int .u8 x1)) (c2:w.cell? ⟨b,off+2,none⟩=some (.int .u8 x2)) (c3:w.cell? ⟨b,off+3,none⟩=some (.int .u8 x3))
  (c4:w.cell? ⟨b,off+4,none⟩=some (.int .u8 x4)) (c5:w.cell? ⟨b,off+5,none⟩=some (.int .u8 x5)) (c6:w.cell? ⟨b,off+6,none⟩=some (.int .u8 x6)) (c7:w.cell? ⟨b,off+7,none⟩=some (.int .u8 x7)):
  Calls Tryz.prog 153 #[.slice (some ⟨b,off,none⟩) n c] w fun e w'=>e=.returned (.int .u64 (TM x0 x1 x2 x3 x4 x5 x6 x7))/\∃k,w'=w.drewN k:=by
 have i0:(0:Int)<(n:Int):=by omega
 have i1:(1:Int)<(n:Int):=by omega
 have i2:(2:Int)<(n:Int):=by omega
 have i3:(3:Int)<(n:Int):=by omega
 have i4:(4:Int)<(n:Int):=by omega
 have i5:(5:Int)<(n:Int):=by omega
 have i6:(6:Int)<(n:Int):=by omega
 have i7:(7:Int)<(n:Int):=by omega
 have Hf:=Lib.hid (WR x0 x1 x2 x3 x4 x5 x6 x7 g0 g0' g1 g1' g2 g2' g3 g3' g4 g4' g5 g5' g6 g6' g7 g7')
 go_enter Tryz.func153,Tryz.ntmps153
 go_wp2
 go_quiet (fail)
 go_wp2
 go_ret
 exact⟨wW Hf.out,_,rfl⟩
def Np (x:Int) (i:Nat):Int:=((bE.byte x.toNat i:Nat):Int)
def tK (x:Int) (i:Nat):Value:=.int .u8 (Np x i)
theorem WS (x:Int) (k:Nat) (h0:0<=x):x/2^(56-8*k)%256=Np x k:=by
 obtain⟨x,rfl⟩:=Int.eq_ofNat_of_zero_le h0
 unfold Np bE.byte
 rw[Nat.shiftRight_eq_div_pow,Int.natCast_emod,Int.natCast_ediv,Int.natCast_pow];rfl
set_option maxHeartbeats 400000 in
theorem jU (B T off n c:Nat) (L:List Value) (x:Int) (w:World) (hn:8<=n) (h0:0<=x) (hL:off+8<=L.length) (hb:aH w B T L):
  Calls Tryz.prog 116 #[.slice (some ⟨B,off,none⟩) n c,.int .u64 x] w fun e w'=>e=.returned (.tuple #[])/\w.grownBy w' (some B)/\aH w' B T (oV L off (tK x) 8):=by
 go_enter Tryz.func116,Tryz.ntmps116
 go_wp2
 go_loopw [5] (fun i wr=>∃k:Nat,k<=8/\i=.int .i64 k/\w.grownBy wr (some B)/\aH wr B T (oV L off (tK x) k)) (fun i _=>8-(intOf i).toNat)
 case atStart=>exact⟨0,by omega,rfl,ah _ _,hb⟩
 case round=>
  obtain⟨k,hk,rfl,hg,hB⟩:=hrel
  by_cases hlt:k<8
  .have hi:(k:Int)<(n:Int):=by omega
   have hs:0<=56-8*(k:Int):=by omega
   have hfr:=hB.free (off+k)
   obtain⟨v0,hv0⟩:∃v,wr.cell? ⟨B,off+k,none⟩=some v:=⟨_,hB.cell (List.getElem?_eq_getElem (by rw[fT];omega))⟩
   have Hb:=Lib.hid (WS x k h0)
   go_wp2
   rw[Hb.out]
   go_roundw
   case rel=>exact⟨k+1,by omega,by go_num,aJ hg _ _,hB.set _ _⟩
   case measure=>simp[intOf];omega
  .obtain rfl:k=8:=by omega
   go_wp2
   go_end0
   exact⟨rfl,hg,hB⟩
end
section
open Go.RowKit
def aZ (n:Nat):Value:=.int .u64 (n:Int)
def eU (l:List Nat) (t:Nat):List Value:=(bE.row l t).map aZ++List.replicate (80-t) (aZ 0)
theorem oM (l:List Nat) (t:Nat):(bE.row l t).length=t:=by
 induction t with
 | zero=>rfl
 | succ t ih=>simp[bE.row,ih]
theorem fZ (l:List Nat) (t:Nat) (h:t<=80):(eU l t).length=80:=by simp[eU,oM];omega
theorem wX (l:List Nat) (t:Nat) (h:t<80):(eU l t).set t (aZ (if t<16 then bE.vD l (8*t) else bE.more (bE.row l t) t))=eU l (t+1):=by
 have hl:((bE.row l t).map aZ).length=t:=by simp[oM]
 unfold eU
 rw[List.set_append_right _ _ (by omega),hl,Nat.sub_self,show 80-t=(80-(t+1))+1 by omega,List.replicate_succ,List.set_cons_zero,bE.row]
 simp
theorem lg (l:List Nat) (t i:Nat) (h:i<t):(eU l t)[i]?=some (aZ ((bE.row l t).getD i 0)):=by
 unfold eU
 rw[List.getElem?_append_left (by simp[oM];exact h),List.getElem?_map]
 have hr:=oM l t
 rw[List.getElem?_eq_getElem (by omega)]
 simp[List.getElem?_eq_getElem (show i<(bE.row l t).length by omega)]
def zeros:List Value:=List.replicate 80 (aZ 0)
def E8:Array Value:=zeros.toArray
theorem z67 (w:World):(zeroValue 190).run Tryz.prog w=.ok (.agg E8) w:=by kernel_rfl
theorem wY (l:List Nat) (t:Nat):(eU l t).toArray.all (·.oneCell')=true:=by
 rw[Array.all_eq_true_iff_forall_mem]
 intro v hv
 unfold eU at hv
 rw[List.mem_toArray,List.mem_append]at hv
 rcases hv with hv|hv
 .obtain⟨x,_,rfl⟩:=List.mem_map.1 hv;rfl
 .rw[(List.mem_replicate.1 hv).2];rfl
theorem Ll (b off n c j:Nat) (l:List Nat) (w:World) (hn:8<=n) (hl:∀i,l.getD i 0<256)
  (hc:∀i,i<8->w.cell? ⟨b,off+i,none⟩=some (.int .u8 ((l.getD (j+i) 0:Nat):Int))):
  Calls Tryz.prog 153 #[.slice (some ⟨b,off,none⟩) n c] w fun e w'=>e=.returned (.int .u64 ((bE.vD l j:Nat):Int))/\∃k,w'=w.drewN k:=by
 have bd:∀i,0<=((l.getD i 0:Nat):Int)/\((l.getD i 0:Nat):Int)<256:=fun i=>by have:=hl i;omega
 refine (BG b off n c ((l.getD j 0:Nat):Int) ((l.getD (j+1) 0:Nat):Int) ((l.getD (j+2) 0:Nat):Int) ((l.getD (j+3) 0:Nat):Int) ((l.getD (j+4) 0:Nat):Int) ((l.getD (j+5) 0:Nat):Int) ((l.getD (j+6) 0:Nat):Int) ((l.getD (j+7) 0:Nat):Int) w hn (bd j).1 (bd j).2 (bd (j+1)).1 (bd (j+1)).2 (bd (j+2)).1 (bd (j+2)).2 (bd (j+3)).1 (bd (j+3)).2
  (bd (j+4)).1 (bd (j+4)).2 (bd (j+5)).1 (bd (j+5)).2 (bd (j+6)).1 (bd (j+6)).2 (bd (j+7)).1 (bd (j+7)).2
  (hc 0 (by decide)) (hc 1 (by decide)) (hc 2 (by decide)) (hc 3 (by decide)) (hc 4 (by decide)) (hc 5 (by decide)) (hc 6 (by decide)) (hc 7 (by decide))).mono fun e w' h=>⟨h.1.trans (wW ?_),h.2⟩
 unfold TM bE.vD
 simp only[Int.toNat_natCast]
theorem PN (l:List Nat) (j:Nat) (hl:∀i,l.getD i 0<256):bE.vD l j<18446744073709551616:=
 word_lt _ _ _ _ _ _ _ _ (hl _) (hl _) (hl _) (hl _) (hl _) (hl _) (hl _) (hl _)
theorem E9 (l:List Nat) (hl:∀i,l.getD i 0<256) (t:Nat):∀i,(bE.row l t).getD i 0<18446744073709551616:=by
 induction t with
 | zero=>intro i;simp[bE.row]
 | succ t ih=>
  intro i
  have hr:=oM l t
  rw[List.getD_eq_getElem?_getD]at *
  by_cases h:i<t
  .rw[bE.row,List.getElem?_append_left (by omega),<- List.getD_eq_getElem?_getD];exact ih i
  .rw[bE.row,List.getElem?_append_right (by omega),hr]
   by_cases h2:i=t
   .subst h2
    rw[Nat.sub_self]
    simp only[List.getElem?_cons_zero,Option.getD_some]
    split
    .exact PN _ _ hl
    .exact Nat.mod_lt _ (by decide)
   .obtain⟨m,hm⟩:∃m,i-t=m+1:=⟨i-t-1,by omega⟩
    rw[hm];simp
def uQ (w wr:World) (l:List Nat) (k:Nat):Prop:=
 w.grownBy wr none/\aH wr (w.heap.size+1) 190 (eU l k)/\aH wr w.heap.size 190 zeros
theorem uQ.step1 {w wr:World} {l:List Nat} {k:Nat} (h:uQ w wr l k) (n:Nat) (hk:k<16):
  uQ w ((wr.drewN n).setCell ⟨w.heap.size+1,k,none⟩ (.int .u64 ((bE.vD l (8*k):Nat):Int))) l (k+1):=by
 obtain⟨h1,h2,h3⟩:=h
 refine⟨aO (iM h1 n) (by simp) _,?_,(h3.drewN n).other (by simp) _⟩
 have:=(h2.drewN n).set k (aZ (bE.vD l (8*k)))
 rw[<- wX l k (by omega),if_pos hk];exact this
theorem WT (l:List Nat) (k:Nat) (x2 x7 x15 x16:Int) (h2:x2=(((bE.row l k).getD (k-2) 0:Nat):Int)) (h7:x7=(((bE.row l k).getD (k-7) 0:Nat):Int))
  (h15:x15=(((bE.row l k).getD (k-15) 0:Nat):Int)) (h16:x16=(((bE.row l k).getD (k-16) 0:Nat):Int)):
  IntKind.u64.wrap (IntKind.u64.wrap (IntKind.u64.wrap (aar x2+x7)+aas x15)+x16)=((bE.more (bE.row l k) k:Nat):Int):=by
 subst h2 h7 h15 h16
 unfold aar aas bE.more
 simp only[IntKind.wrap_u64,Int.toNat_natCast]
 generalize bE.ss1 ((bE.row l k).getD (k-2) 0)=a
 generalize (bE.row l k).getD (k-7) 0=b
 generalize bE.ss0 ((bE.row l k).getD (k-15) 0)=c
 generalize (bE.row l k).getD (k-16) 0=d
 omega
theorem uQ.step2 {w wr:World} {l:List Nat} {k:Nat} (h:uQ w wr l k) (hk:16<=k) (hk2:k<80) (x:Int) (hx:x=((bE.more (bE.row l k) k:Nat):Int)):
  uQ w ((wr.drew).setCell ⟨w.heap.size+1,k,none⟩ (.int .u64 x)) l (k+1):=by
 subst hx
 obtain⟨h1,h2,h3⟩:=h
 refine⟨aO (aX h1) (by simp) _,?_,(h3.drew).other (by simp) _⟩
 have:=(h2.drew).set k (aZ (bE.more (bE.row l k) k))
 rw[<- wX l k hk2,if_neg (by omega)];exact this
set_option maxRecDepth 10000 in
set_option maxHeartbeats 1600000 in
theorem Lm (b off c:Nat) (l:List Nat) (w:World) (hcap:128<=c) (hl:∀i,l.getD i 0<256)
  (hc:∀i,i<128->w.cell? ⟨b,off+i,none⟩=some (.int .u8 ((l.getD i 0:Nat):Int))):
  Calls Tryz.prog 141 #[.slice (some ⟨b,off,none⟩) 128 c] w fun e w'=>e=.returned (.agg (eU l 80).toArray)/\w.grownBy w' none:=by
 have hz:=z67
 have hbw:b<w.heap.size:=block_lt_of_cell (hc 0 (by decide))
 have HC:=Lib.hid hc;clear hc
 have HL:=Lib.hid hl;clear hl
 go_enter Tryz.func141,Tryz.ntmps141
 go_wp2
 clear hz
 go_loopw [6] (fun i wr=>∃k:Nat,k<=16/\i=.int .i64 k/\uQ w wr l k) (fun i _=>16-(intOf i).toNat)
 case atStart=>exact⟨0,by omega,rfl,av (av (ah _ _) _) _,by
   have h2:=aH.new (w.alloc (.cells E8 190)) zeros 190
   rw[World.size_alloc]at h2;exact h2,(aH.new w zeros 190).alloc _⟩
 case round=>
  obtain⟨k,hk,rfl,hR⟩:=hrel
  by_cases hlt:k<16
  .have h8:8*(k:Int)<=128:=by omega
   have h8c:8*(k:Int)<(c:Int):=by omega
   have hB:=hR.2.1
   have hfr:=hB.free k
   obtain⟨v0,hv0⟩:∃v,wr.cell? ⟨w.heap.size+1,k,none⟩=some v:=⟨_,hB.cell (List.getElem?_eq_getElem (by rw[fZ l k (by omega)];omega))⟩
   have HR:=Lib.hid hR;clear hR hB
   have hcw:∀i,i<8->wr.cell? ⟨b,off+8*k+i,none⟩=some (.int .u8 ((l.getD (8*k+i) 0:Nat):Int)):=fun i hi=>by
    rw[bf HR.out.1 (p:=⟨b,off+8*k+i,none⟩) hbw (by simp),Nat.add_assoc];exact HC.out _ (by omega)
   have HCW:=Lib.hid hcw;clear hcw
   go_wp2_with fail
   refine (Ll b (off+8*k) _ _ (8*k) l wr (by omega) HL.out HCW.out).mono ?_
   rintro e w' ⟨rfl,n1,rfl⟩
   go_wp2
   go_roundw
   case rel=>exact⟨k+1,by omega,by go_num,uQ.step1 HR.out n1 hlt⟩
   case measure=>simp[intOf];omega
  .obtain rfl:k=16:=by omega
   clear hlt hk
   go_wp2
   go_loopw [5] (fun i ws=>∃k:Nat,16<=k/\k<=80/\i=.int .i64 k/\uQ w ws l k) (fun i _=>80-(intOf i).toNat)
   case atStart=>exact⟨16,by omega,by omega,rfl,hR⟩
   case round=>
    obtain⟨k,hk1,hk2,rfl,hS⟩:=hrel
    clear hR
    by_cases hlt:k<80
    .have hB:=hS.2.1
     have hfr:=hB.free k
     obtain⟨v0,hv0⟩:∃v,wr.cell? ⟨w.heap.size+1,k,none⟩=some v:=⟨_,hB.cell (List.getElem?_eq_getElem (by rw[fZ l k (by omega)];omega))⟩
     have c2:=hB.cell (lg l k (k-2) (by omega))
     have c7:=hB.cell (lg l k (k-7) (by omega))
     have c15:=hB.cell (lg l k (k-15) (by omega))
     have c16:=hB.cell (lg l k (k-16) (by omega))
     obtain⟨x2,h2⟩:∃x:Int,x=(((bE.row l k).getD (k-2) 0:Nat):Int):=⟨_,rfl⟩
     obtain⟨x7,h7⟩:∃x:Int,x=(((bE.row l k).getD (k-7) 0:Nat):Int):=⟨_,rfl⟩
     obtain⟨x15,h15⟩:∃x:Int,x=(((bE.row l k).getD (k-15) 0:Nat):Int):=⟨_,rfl⟩
     obtain⟨x16,h16⟩:∃x:Int,x=(((bE.row l k).getD (k-16) 0:Nat):Int):=⟨_,rfl⟩
     unfold aZ at c2 c7 c15 c16
     rw[<- h2]at c2;rw[<- h7]at c7;rw[<- h15]at c15;rw[<- h16]at c16
     have b2:0<=x2/\x2<18446744073709551616:=by have:=E9 l HL.out k (k-2);omega
     have b7:0<=x7/\x7<18446744073709551616:=by have:=E9 l HL.out k (k-7);omega
     have b15:0<=x15/\x15<18446744073709551616:=by have:=E9 l HL.out k (k-15);omega
     have b16:0<=x16/\x16<18446744073709551616:=by have:=E9 l HL.out k (k-16);omega
     obtain⟨b2,b2'⟩:=b2;obtain⟨b7,b7'⟩:=b7;obtain⟨b15,ahz⟩:=b15;obtain⟨b16,am1⟩:=b16
     have HS:=Lib.hid hS;clear hS hB
     have H2:=Lib.hid h2;clear h2
     have H7:=Lib.hid h7;clear h7
     have H15:=Lib.hid h15;clear h15
     have H16:=Lib.hid h16;clear h16
     have w2:IntKind.i64.wrap ((k:Int)-2)=(k:Int)-2:=IntWalk.i64_in _ (by omega)
     have p2:(2:Int)<=(k:Int):=by omega
     have q2:(k:Int)-2<80:=by omega
     have t2:((k:Int)-2).toNat=k-2:=by omega
     have w7:IntKind.i64.wrap ((k:Int)-7)=(k:Int)-7:=IntWalk.i64_in _ (by omega)
     have p7:(7:Int)<=(k:Int):=by omega
     have q7:(k:Int)-7<80:=by omega
     have t7:((k:Int)-7).toNat=k-7:=by omega
     have w15:IntKind.i64.wrap ((k:Int)-15)=(k:Int)-15:=IntWalk.i64_in _ (by omega)
     have p15:(15:Int)<=(k:Int):=by omega
     have q15:(k:Int)-15<80:=by omega
     have t15:((k:Int)-15).toNat=k-15:=by omega
     have w16:IntKind.i64.wrap ((k:Int)-16)=(k:Int)-16:=IntWalk.i64_in _ (by omega)
     have p16:(16:Int)<=(k:Int):=by omega
     have q16:(k:Int)-16<80:=by omega
     have t16:((k:Int)-16).toNat=k-16:=by omega
     have p0:0<=(k:Int):=by omega
     have q0:(k:Int)<80:=by omega
     go_wp2_with fail
     refine wp_region_still_tail 23 (by kernel_rfl) (by kernel_rfl) ?_
     change wpStill _ _ wr.drew _ _ _
     simp only[List.take_succ_cons,List.take_zero,List.drop_succ_cons,List.drop_zero]
     iterate 5 still_step
     still_call ((EZ x2 _ b2 b2').mono fun e w' h=>⟨h.1,h.2.symm⟩)
     iterate 9 still_step
     still_call ((CP x15 _ b15 ahz).mono fun e w' h=>⟨h.1,h.2.symm⟩)
     repeat still_step
     refine wpStill_nil ?_
     go_wp2
     go_roundw
     case rel=>(repeat apply Exists.intro);exact⟨⟨k+1,by omega,by omega,by go_num,uQ.step2 HS.out (by omega) hlt _ (WT l k _ _ _ _ H2.out H7.out H15.out H16.out)⟩,rfl⟩
     case measure=>simp[intOf];omega
    .obtain rfl:k=80:=by omega
     clear hlt hk1 hk2
     have HS:=Lib.hid hS;clear hS
     go_wp2_with (first|(refine wpList_load_row rfl 190 _ rfl (w.heap.size+1) rfl 190 (eU l 80).toArray (0,0) _ HS.out.2.1 Tryz.underlying190 rfl (by rw[List.size_toArray,fZ l 80 (by omega)];kernel_rfl) ?_)|(refine wpList_store_row rfl 190 _ _ rfl w.heap.size (eU l 80).toArray rfl rfl 190 zeros.toArray HS.out.2.2 (by rw[List.size_toArray,fZ l 80 (by omega)];kernel_rfl) (by rw[List.size_toArray,List.size_toArray,fZ l 80 (by omega)];rfl) (wY l 80) ?_))
     refine bodyPost_ret (v:=.agg (eU l 80).toArray) (results_cell_row Tryz.results141 _ _ w.heap.size 190 (eU l 80).toArray (0,0) _ rfl (HS.out.2.2.row (eU l 80)) Tryz.underlying190 rfl (by rw[List.size_toArray,fZ l 80 (by omega)];kernel_rfl)) rfl ⟨rfl,qm HS.out.1 (Nat.le_refl _) _⟩
end
section
open Go.RowKit
structure SB (s:bE.S):Prop where
 a:s.a<18446744073709551616
 b:s.b<18446744073709551616
 c:s.c<18446744073709551616
 d:s.d<18446744073709551616
 e:s.e<18446744073709551616
 f:s.f<18446744073709551616
 g:s.g<18446744073709551616
 h:s.h<18446744073709551616
theorem SB.rnd {s:bE.S} (h:SB s) (k w:Nat):SB (bE.rnd k w s):=
 ⟨Nat.mod_lt _ (by decide),h.a,h.b,h.c,Nat.mod_lt _ (by decide),h.e,h.f,h.g⟩
theorem SB.rR {s:bE.S} (h:SB s) (ws:List Nat) (t:Nat):SB (bE.rR ws s t):=by
 induction t with
 | zero=>exact h
 | succ t ih=>exact ih.rnd _ _
theorem SB.plus (s t:bE.S):SB (bE.plus s t):=
 ⟨Nat.mod_lt _ (by decide),Nat.mod_lt _ (by decide),Nat.mod_lt _ (by decide),Nat.mod_lt _ (by decide),Nat.mod_lt _ (by decide),Nat.mod_lt _ (by decide),Nat.mod_lt _ (by decide),Nat.mod_lt _ (by decide)⟩
theorem SB.turn (s:bE.S) (l:List Nat):SB (bE.turn s l):=SB.plus _ _
theorem SB.first:SB bE.first:=⟨by decide,by decide,by decide,by decide,by decide,by decide,by decide,by decide⟩
structure Tables (w:World):Prop where
 k:∀t,t<80->w.cell? ⟨4,t,none⟩=some (aZ (bE.K.getD t 0))
 h:∀t,t<8->w.cell? ⟨0,t,none⟩=some (aZ (bE.H0.getD t 0))
theorem Tables.lt {w:World} (h:Tables w):0+4<w.heap.size:=block_lt_of_cell (h.k 0 (by decide))
theorem Tables.kept {w w':World} {row:Option Nat} (h:Tables w) (hg:w.grownBy w' row) (hr:∀b,row=some b->0+4+1<=b):Tables w':=by
 have hl:=h.lt
 refine⟨fun t ht=>?_,fun t ht=>?_⟩
 .rw[bf hg (p:=⟨4,t,none⟩) hl (by intro e;have:=hr 4 e.symm;omega)];exact h.k t ht
 .rw[bf hg (p:=⟨0,t,none⟩) (by show 0<_;omega) (by intro e;have:=hr 0 e.symm;omega)];exact h.h t ht
theorem Tables.drew {w:World} (h:Tables w):Tables w.drew:=⟨h.k,h.h⟩
def fC (s:bE.S):List Value:=[aZ s.a,aZ s.b,aZ s.c,aZ s.d,aZ s.e,aZ s.f,aZ s.g,aZ s.h]
theorem adI (h e f g k w:Nat):
  IntKind.u64.wrap (IntKind.u64.wrap (IntKind.u64.wrap (IntKind.u64.wrap ((h:Int)+aap (e:Int))+chI (e:Int) (f:Int) (g:Int))+(k:Int))+(w:Int))=(((h+bE.bs1 e+bE.ch e f g+k+w)%18446744073709551616:Nat):Int):=by
 unfold aap chI
 simp only[IntKind.wrap_u64,Int.toNat_natCast]
 generalize bE.bs1 e=x
 generalize bE.ch e f g=y
 omega
theorem adJ (a b c:Nat):
  IntKind.u64.wrap (aaq (a:Int)+mjI (a:Int) (b:Int) (c:Int))=(((bE.bs0 a+bE.mj a b c)%18446744073709551616:Nat):Int):=by
 unfold aaq mjI
 simp only[IntKind.wrap_u64,Int.toNat_natCast]
 omega
theorem pX (a b:Nat):IntKind.u64.wrap ((a:Int)+(b:Int))=(((a+b)%18446744073709551616:Nat):Int):=by
 simp only[IntKind.wrap_u64]
 omega
structure Next (ws:List Nat) (s:bE.S) (k kk ww:Nat) (r:bE.S):Prop where
 h:bE.rR ws s (k+1)=bE.rnd kk ww r
theorem PO (ws:List Nat) (s:bE.S) (k:Nat):Next ws s k (bE.K.getD k 0) (ws.getD k 0) (bE.rR ws s k):=⟨rfl⟩
structure ahA (w wr:World) (NB B T:Nat) (l:List Nat) (s:bE.S) (R:List Value):Prop where
 g:w.grownBy wr none
 row:aH wr NB 190 (eU l 80)
 b:aH wr B T (fC s++R)
set_option maxRecDepth 100000 in
set_option maxHeartbeats 1000000 in
theorem mO (B T b off c:Nat) (s:bE.S) (R:List Value) (l:List Nat) (w:World) (hT:Tables w) (hs:SB s) (hcap:128<=c) (hl:∀i,l.getD i 0<256)
  (hb:aH w B T (fC s++R))
  (hc:∀i,i<128->w.cell? ⟨b,off+i,none⟩=some (.int .u8 ((l.getD i 0:Nat):Int))):
  Calls Tryz.prog 115 #[.pointer (some ⟨B,0,none⟩),.slice (some ⟨b,off,none⟩) 128 c] w fun e w'=>e=.returned (.tuple #[])/\w.grownBy w' (some B)/\aH w' B T (fC (bE.turn s l)++R):=by
 have hz:=z67
 have HT:=Lib.hid hT;clear hT
 have HS:=Lib.hid hs;clear hs
 go_enter Tryz.func115,Tryz.ntmps115
 go_wp2_with fail
 refine (Lm b off c l w hcap hl hc).mono ?_
 rintro e w1 ⟨rfl,hg1⟩
 have hb1:=hb.grown hg1 (by simp)
 have iA:=Lib.hid hg1;clear hg1 hb hc
 have HL:=Lib.hid hl;clear hl
 go_wp2_with (refine wpList_store_row rfl 190 _ _ rfl w1.heap.size (eU l 80).toArray rfl rfl 190 zeros.toArray (aH.new w1 zeros 190) (by rw[List.size_toArray,fZ l 80 (by omega)];kernel_rfl) (by rw[List.size_toArray,List.size_toArray,fZ l 80 (by omega)];rfl) (wY l 80) ?_)
 clear hz
 obtain⟨wq,hwq⟩:∃wq,wq=(w1.alloc (.cells E8 190)).setRow w1.heap.size (eU l 80).toArray:=⟨_,rfl⟩
 have hgq:w.grownBy wq none:=by rw[hwq];exact qm (av iA.out _) iA.out.size _
 have hrq:aH wq w1.heap.size 190 (eU l 80):=by rw[hwq];exact (aH.new w1 zeros 190).row _
 have hbq:aH wq B T (fC s++R):=by rw[hwq];exact (hb1.alloc _).QE (by have:=hb1.lt;omega) _
 have hne:w1.heap.size≠B:=by have:=hb1.lt;omega
 have e:(w1.alloc (.cells E8 190)).setRow w1.heap.size (eU l 80).toArray=wq:=hwq.symm
 rw[e]
 clear e hwq hb1
 generalize w1.heap.size=NB at *
 have k0:=hbq.cell (i:=0) (v:=aZ s.a) rfl
 have k1:=hbq.cell (i:=1) (v:=aZ s.b) rfl
 have k2:=hbq.cell (i:=2) (v:=aZ s.c) rfl
 have k3:=hbq.cell (i:=3) (v:=aZ s.d) rfl
 have k4:=hbq.cell (i:=4) (v:=aZ s.e) rfl
 have k5:=hbq.cell (i:=5) (v:=aZ s.f) rfl
 have k6:=hbq.cell (i:=6) (v:=aZ s.g) rfl
 have k7:=hbq.cell (i:=7) (v:=aZ s.h) rfl
 unfold aZ at k0 k1 k2 k3 k4 k5 k6 k7
 have HQ:=Lib.hid (And.intro hgq (And.intro hrq hbq));clear hgq hrq hbq
 go_quiet (fail)
 clear k0 k1 k2 k3 k4 k5 k6 k7
 go_wp2
 go_loopw [5,6,7,8,9,10,11,12,50] (fun a b' c' d e f g h i wr=>∃k:Nat,k<=80/\i=.int .i64 k/\a=.int .u64 (((bE.rR (bE.row l 80) s k).a:Nat):Int)/\b'=.int .u64 (((bE.rR (bE.row l 80) s k).b:Nat):Int)/\c'=.int .u64 (((bE.rR (bE.row l 80) s k).c:Nat):Int)/\d=.int .u64 (((bE.rR (bE.row l 80) s k).d:Nat):Int)/\e=.int .u64 (((bE.rR (bE.row l 80) s k).e:Nat):Int)/\f=.int .u64 (((bE.rR (bE.row l 80) s k).f:Nat):Int)/\g=.int .u64 (((bE.rR (bE.row l 80) s k).g:Nat):Int)/\h=.int .u64 (((bE.rR (bE.row l 80) s k).h:Nat):Int)/\ahA w wr NB B T l s R) (fun _ _ _ _ _ _ _ _ i _=>80-(intOf i).toNat)
 case atStart=>exact⟨0,by omega,rfl,rfl,rfl,rfl,rfl,rfl,rfl,rfl,rfl,⟨iM HQ.out.1 _,HQ.out.2.1.drewN _,HQ.out.2.2.drewN _⟩⟩
 case round=>
  obtain⟨k,hk,rfl,rfl,rfl,rfl,rfl,rfl,rfl,rfl,rfl,hI⟩:=hrel
  have HSB:=Lib.hid (HS.out.rR (bE.row l 80) k)
  by_cases hlt:k<80
  .have kK:=((HT.out.kept hI.g (by simp)).k k hlt)
   have kW:=hI.row.cell (lg l 80 k hlt)
   unfold aZ at kK kW
   have HI:=Lib.hid hI;clear hI
   have HN:=PO (bE.row l 80) s k
   generalize bE.rR (bE.row l 80) s k=r at *
   generalize bE.K.getD k 0=kk at *
   generalize (bE.row l 80).getD k 0=ww at *
   have p0:0<=(k:Int):=by omega
   have q0:(k:Int)<80:=by omega
   have ea:=PL _ HSB.out.a
   have eb:=PL _ HSB.out.b
   have ec:=PL _ HSB.out.c
   have ee:=PL _ HSB.out.e
   have ef:=PL _ HSB.out.f
   have eg:=PL _ HSB.out.g
   go_wp2_with fail
   go_quiet ((first|(go_at_call 142;exact Calls.quiet_of_same ((Lh _ _ ee.1 ee.2).mono fun e w' h=>⟨h.1,h.2.symm⟩))|(go_at_call 143;exact Calls.quiet_of_same ((Li _ _ _ _ ee.1 ee.2 ef.1 ef.2 eg.1 eg.2).mono fun e w' h=>⟨h.1,h.2.symm⟩))))
   go_wp2_with (first|(go_at_call 144;refine (IX _ _ ea.1 ea.2).mono ?_;rintro e w' ⟨rfl,rfl⟩)|(go_at_call 145;refine (E5 _ _ _ _ ea.1 ea.2 eb.1 eb.2 ec.1 ec.2).mono ?_;rintro e w' ⟨rfl,rfl⟩))
   rw[adI,adJ,pX,pX]
   go_roundw
   case rel=>exact⟨k+1,by omega,by go_num,by rw[HN.h];rfl,by rw[HN.h];rfl,by rw[HN.h];rfl,by rw[HN.h];rfl,by rw[HN.h];rfl,by rw[HN.h];rfl,by rw[HN.h];rfl,by rw[HN.h];rfl,⟨iM HI.out.g _,HI.out.row.drewN _,HI.out.b.drewN _⟩⟩
   case measure=>simp[intOf];omega
  .obtain rfl:k=80:=by omega
   clear hlt hk HSB
   have hb0:=hI.b
   have hg0:=dB hI.g (some B)
   clear hI
   generalize hr:bE.rR (bE.row l 80) s 80=r at *
   have HR:=Lib.hid hr;clear hr
   have c0:=hb0.cell (i:=0) (v:=aZ s.a) rfl
   have f0:=hb0.free 0
   unfold aZ at c0
   have HB0:=Lib.hid (And.intro hg0 hb0);clear hb0 hg0
   go_wp2_with fail
   refine wp_region_still_tail 8 (by kernel_rfl) (by kernel_rfl) ?_
   change wpStill _ _ (World.drew wr) _ _ _
   simp only[List.take_succ_cons,List.take_zero,List.drop_succ_cons,List.drop_zero]
   repeat still_step
   refine wpStill_nil ?_
   go_wp2_with fail
   rw[pX]
   obtain⟨v1,hv1⟩:∃v,v=World.drew (World.setCell wr ⟨B,0,none⟩ (.int .u64 (((s.a+r.a)%18446744073709551616:Nat):Int))):=⟨_,rfl⟩
   have hg1:w.grownBy v1 (some B):=by rw[hv1];exact aX (aJ HB0.out.1 _ _)
   have hb1:aH v1 B T ([aZ ((s.a+r.a)%18446744073709551616),aZ s.b,aZ s.c,aZ s.d,aZ s.e,aZ s.f,aZ s.g,aZ s.h]++R):=by rw[hv1];exact (HB0.out.2.set 0 (aZ _)).drew
   rw[<- hv1]
   clear hv1 c0 f0
   have c1:=hb1.cell (i:=1) (v:=aZ s.b) rfl
   have f1:=hb1.free 1
   unfold aZ at c1
   have HB1:=Lib.hid (And.intro hg1 hb1);clear hb1 hg1
   go_wp2_with fail
   refine wp_region_still_tail 8 (by kernel_rfl) (by kernel_rfl) ?_
   change wpStill _ _ (World.drew v1) _ _ _
   simp only[List.take_succ_cons,List.take_zero,List.drop_succ_cons,List.drop_zero]
   repeat still_step
   refine wpStill_nil ?_
   go_wp2_with fail
   rw[pX]
   obtain⟨v2,hv2⟩:∃v,v=World.drew (World.setCell v1 ⟨B,1,none⟩ (.int .u64 (((s.b+r.b)%18446744073709551616:Nat):Int))):=⟨_,rfl⟩
   have hg2:w.grownBy v2 (some B):=by rw[hv2];exact aX (aJ HB1.out.1 _ _)
   have hb2:aH v2 B T ([aZ ((s.a+r.a)%18446744073709551616),aZ ((s.b+r.b)%18446744073709551616),aZ s.c,aZ s.d,aZ s.e,aZ s.f,aZ s.g,aZ s.h]++R):=by rw[hv2];exact (HB1.out.2.set 1 (aZ _)).drew
   rw[<- hv2]
   clear hv2 c1 f1
   have c2:=hb2.cell (i:=2) (v:=aZ s.c) rfl
   have f2:=hb2.free 2
   unfold aZ at c2
   have HB2:=Lib.hid (And.intro hg2 hb2);clear hb2 hg2
   go_wp2_with fail
   refine wp_region_still_tail 8 (by kernel_rfl) (by kernel_rfl) ?_
   change wpStill _ _ (World.drew v2) _ _ _
   simp only[List.take_succ_cons,List.take_zero,List.drop_succ_cons,List.drop_zero]
   repeat still_step
   refine wpStill_nil ?_
   go_wp2_with fail
   rw[pX]
   obtain⟨v3,hv3⟩:∃v,v=World.drew (World.setCell v2 ⟨B,2,none⟩ (.int .u64 (((s.c+r.c)%18446744073709551616:Nat):Int))):=⟨_,rfl⟩
   have hg3:w.grownBy v3 (some B):=by rw[hv3];exact aX (aJ HB2.out.1 _ _)
   have hb3:aH v3 B T ([aZ ((s.a+r.a)%18446744073709551616),aZ ((s.b+r.b)%18446744073709551616),aZ ((s.c+r.c)%18446744073709551616),aZ s.d,aZ s.e,aZ s.f,aZ s.g,aZ s.h]++R):=by rw[hv3];exact (HB2.out.2.set 2 (aZ _)).drew
   rw[<- hv3]
   clear hv3 c2 f2
   have c3:=hb3.cell (i:=3) (v:=aZ s.d) rfl
   have f3:=hb3.free 3
   unfold aZ at c3
   have HB3:=Lib.hid (And.intro hg3 hb3);clear hb3 hg3
   go_wp2_with fail
   refine wp_region_still_tail 8 (by kernel_rfl) (by kernel_rfl) ?_
   change wpStill _ _ (World.drew v3) _ _ _
   simp only[List.take_succ_cons,List.take_zero,List.drop_succ_cons,List.drop_zero]
   repeat still_step
   refine wpStill_nil ?_
   go_wp2_with fail
   rw[pX]
   obtain⟨v4,hv4⟩:∃v,v=World.drew (World.setCell v3 ⟨B,3,none⟩ (.int .u64 (((s.d+r.d)%18446744073709551616:Nat):Int))):=⟨_,rfl⟩
   have hg4:w.grownBy v4 (some B):=by rw[hv4];exact aX (aJ HB3.out.1 _ _)
   have hb4:aH v4 B T ([aZ ((s.a+r.a)%18446744073709551616),aZ ((s.b+r.b)%18446744073709551616),aZ ((s.c+r.c)%18446744073709551616),aZ ((s.d+r.d)%18446744073709551616),aZ s.e,aZ s.f,aZ s.g,aZ s.h]++R):=by rw[hv4];exact (HB3.out.2.set 3 (aZ _)).drew
   rw[<- hv4]
   clear hv4 c3 f3
   have c4:=hb4.cell (i:=4) (v:=aZ s.e) rfl
   have f4:=hb4.free 4
   unfold aZ at c4
   have HB4:=Lib.hid (And.intro hg4 hb4);clear hb4 hg4
   go_wp2_with fail
   refine wp_region_still_tail 8 (by kernel_rfl) (by kernel_rfl) ?_
   change wpStill _ _ (World.drew v4) _ _ _
   simp only[List.take_succ_cons,List.take_zero,List.drop_succ_cons,List.drop_zero]
   repeat still_step
   refine wpStill_nil ?_
   go_wp2_with fail
   rw[pX]
   obtain⟨v5,hv5⟩:∃v,v=World.drew (World.setCell v4 ⟨B,4,none⟩ (.int .u64 (((s.e+r.e)%18446744073709551616:Nat):Int))):=⟨_,rfl⟩
   have hg5:w.grownBy v5 (some B):=by rw[hv5];exact aX (aJ HB4.out.1 _ _)
   have hb5:aH v5 B T ([aZ ((s.a+r.a)%18446744073709551616),aZ ((s.b+r.b)%18446744073709551616),aZ ((s.c+r.c)%18446744073709551616),aZ ((s.d+r.d)%18446744073709551616),aZ ((s.e+r.e)%18446744073709551616),aZ s.f,aZ s.g,aZ s.h]++R):=by rw[hv5];exact (HB4.out.2.set 4 (aZ _)).drew
   rw[<- hv5]
   clear hv5 c4 f4
   have c5:=hb5.cell (i:=5) (v:=aZ s.f) rfl
   have f5:=hb5.free 5
   unfold aZ at c5
   have HB5:=Lib.hid (And.intro hg5 hb5);clear hb5 hg5
   go_wp2_with fail
   refine wp_region_still_tail 8 (by kernel_rfl) (by kernel_rfl) ?_
   change wpStill _ _ (World.drew v5) _ _ _
   simp only[List.take_succ_cons,List.take_zero,List.drop_succ_cons,List.drop_zero]
   repeat still_step
   refine wpStill_nil ?_
   go_wp2_with fail
   rw[pX]
   obtain⟨v6,hv6⟩:∃v,v=World.drew (World.setCell v5 ⟨B,5,none⟩ (.int .u64 (((s.f+r.f)%18446744073709551616:Nat):Int))):=⟨_,rfl⟩
   have uL:w.grownBy v6 (some B):=by rw[hv6];exact aX (aJ HB5.out.1 _ _)
   have hb6:aH v6 B T ([aZ ((s.a+r.a)%18446744073709551616),aZ ((s.b+r.b)%18446744073709551616),aZ ((s.c+r.c)%18446744073709551616),aZ ((s.d+r.d)%18446744073709551616),aZ ((s.e+r.e)%18446744073709551616),aZ ((s.f+r.f)%18446744073709551616),aZ s.g,aZ s.h]++R):=by rw[hv6];exact (HB5.out.2.set 5 (aZ _)).drew
   rw[<- hv6]
   clear hv6 c5 f5
   have c6:=hb6.cell (i:=6) (v:=aZ s.g) rfl
   have f6:=hb6.free 6
   unfold aZ at c6
   have HB6:=Lib.hid (And.intro uL hb6);clear hb6 uL
   go_wp2_with fail
   refine wp_region_still_tail 8 (by kernel_rfl) (by kernel_rfl) ?_
   change wpStill _ _ (World.drew v6) _ _ _
   simp only[List.take_succ_cons,List.take_zero,List.drop_succ_cons,List.drop_zero]
   repeat still_step
   refine wpStill_nil ?_
   go_wp2_with fail
   rw[pX]
   obtain⟨v7,hv7⟩:∃v,v=World.drew (World.setCell v6 ⟨B,6,none⟩ (.int .u64 (((s.g+r.g)%18446744073709551616:Nat):Int))):=⟨_,rfl⟩
   have FD:w.grownBy v7 (some B):=by rw[hv7];exact aX (aJ HB6.out.1 _ _)
   have cZ:aH v7 B T ([aZ ((s.a+r.a)%18446744073709551616),aZ ((s.b+r.b)%18446744073709551616),aZ ((s.c+r.c)%18446744073709551616),aZ ((s.d+r.d)%18446744073709551616),aZ ((s.e+r.e)%18446744073709551616),aZ ((s.f+r.f)%18446744073709551616),aZ ((s.g+r.g)%18446744073709551616),aZ s.h]++R):=by rw[hv7];exact (HB6.out.2.set 6 (aZ _)).drew
   rw[<- hv7]
   clear hv7 c6 f6
   have c7:=cZ.cell (i:=7) (v:=aZ s.h) rfl
   have f7:=cZ.free 7
   unfold aZ at c7
   have HB7:=Lib.hid (And.intro FD cZ);clear cZ FD
   go_wp2_with fail
   refine wp_region_still_tail 8 (by kernel_rfl) (by kernel_rfl) ?_
   change wpStill _ _ (World.drew v7) _ _ _
   simp only[List.take_succ_cons,List.take_zero,List.drop_succ_cons,List.drop_zero]
   repeat still_step
   refine wpStill_nil ?_
   go_wp2_with fail
   rw[pX]
   obtain⟨v8,hv8⟩:∃v,v=World.drew (World.setCell v7 ⟨B,7,none⟩ (.int .u64 (((s.h+r.h)%18446744073709551616:Nat):Int))):=⟨_,rfl⟩
   have hg8:w.grownBy v8 (some B):=by rw[hv8];exact aX (aJ HB7.out.1 _ _)
   have gD:aH v8 B T ([aZ ((s.a+r.a)%18446744073709551616),aZ ((s.b+r.b)%18446744073709551616),aZ ((s.c+r.c)%18446744073709551616),aZ ((s.d+r.d)%18446744073709551616),aZ ((s.e+r.e)%18446744073709551616),aZ ((s.f+r.f)%18446744073709551616),aZ ((s.g+r.g)%18446744073709551616),aZ ((s.h+r.h)%18446744073709551616)]++R):=by rw[hv8];exact (HB7.out.2.set 7 (aZ _)).drew
   rw[<- hv8]
   clear hv8 c7 f7
   go_end0
   refine⟨rfl,hg8,?_⟩
   show aH v8 B T (fC (bE.plus s (bE.rR (bE.row l 80) s 80))++R)
   rw[HR.out]
   exact gD
end
section
open Go.RowKit
def rU (n:Nat):Value:=.int .u8 (n:Int)
def Nq:List Value:=List.replicate 64 (rU 0)
def zero64:Array Value:=Nq.toArray
theorem ahB (w:World):(Instr.makeSlice 22 (.int .i64 64) (.int .i64 64)).run Tryz.prog w=.ok (.slice (some ⟨w.heap.size,0,none⟩) 64 64) (w.alloc (.cells zero64 5)):=by kernel_rfl
def YG (x:Nat):List Value:=(bE.rC x).map rU
theorem rD (x:Nat):(YG x).length=8:=rfl
theorem Lp (x:Nat):(List.range 8).map (tK (x:Int))=YG x:=by
 simp[List.range_succ,YG,bE.rC,tK,Np,rU]
def lq (l:List Nat) (k:Nat):List Value:=(l.take k).flatMap YG++List.replicate (64-8*k) (rU 0)
theorem yX (l:List Nat):(l.flatMap YG).length=8*l.length:=by
 induction l with
 | nil=>rfl
 | cons x xs ih=>rw[List.flatMap_cons,List.length_append,ih,rD,List.length_cons];omega
theorem rH (l:List Nat) (k:Nat) (hk:k<=8) (hl:l.length=8):(lq l k).length=64:=by
 unfold lq;rw[List.length_append,yX,List.length_replicate,List.length_take];omega
theorem CQ (l:List Nat) (k:Nat) (hk:k<8) (hl:l.length=8):oV (lq l k) (8*k) (tK ((l.getD k 0:Nat):Int)) 8=lq l (k+1):=by
 have ha:((l.take k).flatMap YG).length=8*k:=by rw[yX,List.length_take];omega
 have hx:l.take (k+1)=l.take k++[l.getD k 0]:=by
  rw[List.take_succ_eq_append_getElem (by omega)];simp[List.getElem?_eq_getElem (show k<l.length by omega)]
 rw[Ea _ _ _ _ (by rw[rH l k (by omega) hl];omega),Lp]
 unfold lq
 rw[hx,List.flatMap_append,List.take_append_of_le_length (by omega),List.take_of_length_le (by omega),List.drop_append,List.drop_of_length_le (by omega),ha]
 rw[List.nil_append,List.drop_replicate,show 64-8*k-(8*k+8-8*k)=64-8*(k+1) by omega]
 simp
set_option maxRecDepth 100000 in
set_option maxHeartbeats 1000000 in
theorem Lr (B T:Nat) (s:bE.S) (R:List Value) (w:World) (hs:SB s) (hb:aH w B T (fC s++R)):
  Calls Tryz.prog 91 #[.pointer (some ⟨B,0,none⟩)] w fun e w'=>∃NB,e=.returned (.slice (some ⟨NB,0,none⟩) 64 64)/\w.grownBy w' none/\w.heap.size<=NB/\aH w' NB 5 (s.bytes.map rU):=by
 have hmk:=ahB
 have HS:=Lib.hid hs;clear hs
 have hlt:=hb.lt
 go_enter Tryz.func91,Tryz.ntmps91
 go_wp2
 clear hmk
 go_loopw [8] (fun i wr=>∃k:Nat,k<=8/\i=.int .i64 k/\w.grownBy wr none/\aH wr w.heap.size 5 (lq s.list k)) (fun i _=>8-(intOf i).toNat)
 case atStart=>exact⟨0,by omega,rfl,av (ah _ _) _,aH.new w Nq 5⟩
 case round=>
  obtain⟨k,hk,rfl,hg,hd⟩:=hrel
  by_cases hlt:k<8
  .have hw:(fC s++R)[k]?=some (aZ (s.list.getD k 0)):=by
    obtain rfl|rfl|rfl|rfl|rfl|rfl|rfl|rfl:k=0\/k=1\/k=2\/k=3\/k=4\/k=5\/k=6\/k=7:=by omega
    all_goals rfl
   have hx:s.list.getD k 0<18446744073709551616:=by
    have h:=HS.out
    obtain rfl|rfl|rfl|rfl|rfl|rfl|rfl|rfl:k=0\/k=1\/k=2\/k=3\/k=4\/k=5\/k=6\/k=7:=by omega
    .exact h.a
    .exact h.b
    .exact h.c
    .exact h.d
    .exact h.e
    .exact h.f
    .exact h.g
    .exact h.h
   have kc:=(hb.grown hg (by simp)).cell hw
   have hN:=CQ s.list k hlt rfl
   unfold aZ at kc
   clear hw
   generalize s.list.getD k 0=x at *
   have p0:0<=(k:Int):=by omega
   have q0:(k:Int)<8:=by omega
   have h8:8*(k:Int)<=64:=by omega
   have h8c:8*(k:Int)<64:=by omega
   have HD:=Lib.hid (And.intro hg (And.intro hd hN));clear hg hd hN
   have hdl:=rH s.list k (by omega) rfl
   have HDL:=Lib.hid hdl;clear hdl
   go_wp2_with fail
   go_quiet (fail)
   go_wp2_with fail
   refine (jU w.heap.size 5 _ _ _ (lq s.list k) x _ (by omega) (by omega) (by rw[HDL.out];omega) (HD.out.2.1.drewN _)).mono ?_
   rintro e w2 ⟨rfl,hg2,hd2⟩
   have hg3:=aW (iM HD.out.1 _) hg2 (Nat.le_refl _)
   clear hg2
   rw[HD.out.2.2]at hd2
   go_wp2
   go_roundw
   case rel=>exact⟨k+1,by omega,by go_num,hg3,hd2⟩
   case measure=>simp[intOf];omega
  .obtain rfl:k=8:=by omega
   go_wp2
   go_ret
   refine⟨w.heap.size,rfl,hg,Nat.le_refl _,?_⟩
   have:lq s.list 8=s.bytes.map rU:=by unfold lq bE.S.bytes;rw[List.map_flatMap];rfl
   rw[<- this];exact hd
end
section
open Go.RowKit
def jf (s:bE.S) (r:List Nat) (n M:Nat):List Value:=fC s++(r.map rU++[aZ n,.pointer (some ⟨M,0,none⟩)])
structure jo (w:World) (B:Nat) (a:Option Addr) (cap:Nat) (p:List Nat):Prop where
 cap:p.length<=cap
 byte:∀i,p.getD i 0<256
 cells:p.length=0\/∃pb po,a=some ⟨pb,po,none⟩/\pb≠B/\pb<w.heap.size/\∀i,i<p.length->w.cell? ⟨pb,po+i,none⟩=some (rU (p.getD i 0))
theorem jo.kept {w w':World} {B cap:Nat} {a:Option Addr} {p:List Nat} (h:jo w B a cap p) (hg:w.grownBy w' (some B)):jo w' B a cap p:=by
 refine⟨h.cap,h.byte,?_⟩
 rcases h.cells with h0 |⟨pb,po,ha,hne,hlt,hc⟩
 .exact Or.inl h0
 .exact Or.inr ⟨pb,po,ha,hne,Nat.lt_of_lt_of_le hlt hg.size,fun i hi=>by rw[bf hg (p:=⟨pb,po+i,none⟩) hlt (by intro e;cases e;exact hne rfl)];exact hc i hi⟩
structure jF (w:World) (B M:Nat) (l:List Nat) (r:List Nat):Prop where
 len:r.length=128
 byte:∀i,r.getD i 0<256
 waits:r.take (l.length%128)=l.drop (128*(l.length/128))
 blk:aH w B 123 (jf (bE.blocks l (l.length/128)) r l.length M)
theorem SB.blocks (l:List Nat) (n:Nat):SB (bE.blocks l n):=by cases n;exact SB.first;exact SB.turn _ _
theorem pY (l p:List Nat) (n:Nat) (h:128*n<=l.length):bE.blocks (l++p) n=bE.blocks l n:=by
 induction n with
 | zero=>rfl
 | succ n ih=>
  rw[bE.blocks,bE.blocks,ih (by omega),List.drop_append_of_le_length (by omega),List.take_append_of_le_length (by rw[List.length_drop];omega)]
theorem wZ (s:bE.S) (r:List Nat) (n M:Nat) (hr:r.length=128):(jf s r n M).length=138:=by simp[jf,fC,hr]
theorem lV (s:bE.S) (r:List Nat) (n M:Nat) (hr:r.length=128):(jf s r n M)[136]?=some (aZ n):=by
 unfold jf
 rw[List.getElem?_append_right (by simp[fC]),List.getElem?_append_right (by simp[hr,fC])]
 simp[hr,fC]
theorem Ls (s:bE.S) (r:List Nat) (n M:Nat) (hr:r.length=128):(jf s r n M)[137]?=some (.pointer (some ⟨M,0,none⟩)):=by
 unfold jf
 rw[List.getElem?_append_right (by simp[fC]),List.getElem?_append_right (by simp[hr,fC])]
 simp[hr,fC]
theorem BH (s:bE.S) (r:List Nat) (n M i:Nat) (hr:r.length=128) (hi:i<128):(jf s r n M)[8+i]?=some (rU (r.getD i 0)):=by
 unfold jf
 rw[List.getElem?_append_right (by simp[fC]),List.getElem?_append_left (by simp[hr,fC];omega),List.getElem?_map]
 rw[show 8+i-(fC s).length=i by simp[fC],List.getElem?_eq_getElem (by omega)]
 simp[List.getElem?_eq_getElem (show i<r.length by omega)]
theorem l9 (s:bE.S) (r:List Nat) (n n' M:Nat) (hr:r.length=128):(jf s r n M).set 136 (aZ n')=jf s r n' M:=by
 unfold jf
 rw[List.set_append_right _ _ (by simp[fC]),List.set_append_right _ _ (by simp[hr,fC])]
 simp[hr,fC]
def fP (r q:List Nat) (o:Nat):List Nat:=r.take o++(q.take (128-o)++r.drop (o+min q.length (128-o)))
theorem kE (r q:List Nat) (o:Nat) (hr:r.length=128) (ho:o<=128):(fP r q o).length=128:=by
 simp[fP,hr];omega
theorem mP (r q:List Nat) (o:Nat) (hr:∀i,r.getD i 0<256) (hq:∀i,q.getD i 0<256):∀i,(fP r q o).getD i 0<256:=by
 have of:∀l:List Nat,(∀i,l.getD i 0<256)->∀x∈l,x<256:=fun l h x hx=>by
  obtain⟨i,hi,rfl⟩:=List.mem_iff_getElem.1 hx
  have:=h i
  rwa [List.getD_eq_getElem?_getD,List.getElem?_eq_getElem hi]at this
 have all:∀x∈fP r q o,x<256:=by
  intro x hx
  unfold fP at hx
  rcases List.mem_append.1 hx with hx|hx
  .exact of r hr x (List.mem_of_mem_take hx)
  .rcases List.mem_append.1 hx with hx|hx
   .exact of q hq x (List.mem_of_mem_take hx)
   .exact of r hr x (List.mem_of_mem_drop hx)
 intro i
 by_cases h:i<(fP r q o).length
 .rw[List.getD_eq_getElem?_getD,List.getElem?_eq_getElem h];exact all _ (List.getElem_mem h)
 .rw[List.getD_eq_getElem?_getD,List.getElem?_eq_none (by omega)];decide
theorem qE (B M o nn cap:Nat) (s:bE.S) (r q:List Nat) (a:Option Addr) (w:World) (hr:r.length=128) (ho:o<=128) (hb:aH w B 123 (jf s r nn M)) (hP:jo w B a cap q):
  ∃w',(Builtin.copy_ #[22,22] 3 #[.slice (some ⟨B,8+o,none⟩) (128-o) (128-o),.slice a q.length cap]).run Tryz.prog w=.ok (.int .i64 ((min q.length (128-o):Nat):Int)) w'/\w.grownBy w' (some B)/\
   aH w' B 123 (jf s (fP r q o) nn M):=by
 by_cases h0:min q.length (128-o)=0
 .refine⟨w,?_,ah _ _,?_⟩
  .rw[run_copy_none (P:=Tryz.prog) w 22 22 3 5 _ _ _ _ _ _ Tryz.underlying22 (by kernel_rfl) h0,h0];rfl
  .have e:fP r q o=r:=by
    unfold fP
    rw[h0]
    have:q.take (128-o)=[]:=by
     apply List.eq_nil_of_length_eq_zero;rw[List.length_take];omega
    rw[this,List.nil_append,Nat.add_zero,List.take_append_drop]
   rw[e];exact hb
 .have hq0:¬q.length=0:=by omega
  obtain⟨pb,po,rfl,hne,hlt,hc⟩:=hP.cells.resolve_left hq0
  have hlen:=wZ s r nn M hr
  have e:(jf s r nn M).take (8+o)++(q.take (128-o)).map rU++(jf s r nn M).drop (8+o+((q.take (128-o)).map rU).length)=jf s (fP r q o) nn M:=by
   have hw8:(fC s).length=8:=rfl
   unfold jf fP
   rw[List.take_append,List.drop_append,hw8,List.take_of_length_le (by rw[hw8];omega),List.drop_of_length_le (by rw[hw8];omega)]
   rw[List.take_append_of_le_length (by simp[hr];omega),List.drop_append_of_le_length (by simp[hr];omega)]
   simp only[List.map_append,List.append_assoc,List.nil_append,List.map_take,List.map_drop,List.length_take,List.length_map]
   rw[show 8+o-8=o by omega,show 8+o+min (128-o) q.length-8=o+min q.length (128-o) by omega]
  have hrun:=run_copy_row (P:=Tryz.prog) w 22 22 3 5 B (8+o) (128-o) (128-o) ⟨pb,po,none⟩ q.length cap (jf s r nn M).toArray 123 ((q.take (128-o)).map rU) Tryz.underlying22 (by kernel_rfl) hb
   (by show _=min q.length (128-o);rw[List.length_map,List.length_take,Nat.min_comm])
   (by
    intro j v hv
    rw[List.getElem?_map]at hv
    have hj:j<(q.take (128-o)).length:=by
     rcases Nat.lt_or_ge j (q.take (128-o)).length with h|h
     .exact h
     .rw[List.getElem?_eq_none h]at hv;simp at hv
    have hj':=hj
    rw[List.length_take]at hj'
    rw[List.getElem?_take,if_pos (by omega),List.getElem?_eq_getElem (by omega)]at hv
    have hv':v=rU (q.getD j 0):=by
     rw[List.getD_eq_getElem?_getD,List.getElem?_eq_getElem (by omega)];simpa using hv.symm
    subst hv'
    have hadd:(⟨pb,po,none⟩:Addr).add j=⟨pb,po+j,none⟩:=by unfold Addr.add;split<;>simp_all
    rw[hadd];exact hc j (by omega))
   (by rw[List.size_toArray,hlen,List.length_map,List.length_take];omega)
   (by intro v hv;obtain⟨x,_,rfl⟩:=List.mem_map.1 hv;rfl)
  have el:((q.take (128-o)).map rU).length=min q.length (128-o):=by rw[List.length_map,List.length_take,Nat.min_comm]
  simp only at hrun
  rw[e,el]at hrun
  exact⟨_,hrun,uS (ah _ _) _,hb.row _⟩
theorem Lu (l p r:List Nat) {w w2:World} {B M cap:Nat} {a:Option Addr} (hH:jF w B M l r) (hP:jo w B a cap p) (hw:0<l.length%128) (hs:l.length%128+p.length<128)
  (hb:aH w2 B 123 (jf (bE.blocks l (l.length/128)) (fP r p (l.length%128)) (l.length+p.length) M)):jF w2 B M (l++p) (fP r p (l.length%128)):=by
 have e1:(l++p).length/128=l.length/128:=by rw[List.length_append];omega
 have e2:(l++p).length%128=l.length%128+p.length:=by rw[List.length_append];omega
 refine⟨kE _ _ _ hH.len (by omega),mP _ _ _ hH.byte hP.byte,?_,?_⟩
 .rw[e1,e2,List.drop_append_of_le_length (by omega),<- hH.waits]
  unfold fP
  rw[List.take_append,List.take_of_length_le (l:=List.take (l.length%128) r) (by rw[List.length_take];omega),List.length_take,hH.len,Nat.min_eq_left (by omega)]
  rw[List.take_of_length_le (l:=p) (by omega),List.take_append_of_le_length (by omega),show l.length%128+p.length-l.length%128=p.length by omega,List.take_length]
 .rw[e1,pY _ _ _ (by omega),List.length_append];exact hb
set_option maxRecDepth 100000 in
set_option maxHeartbeats 1000000 in
theorem PS (B M:Nat) (l r p:List Nat) (a:Option Addr) (cap:Nat) (w:World) (hH:jF w B M l r) (hP:jo w B a cap p)
  (hlen:l.length+p.length<2147483648) (hw:0<l.length%128) (hs:l.length%128+p.length<128):
  Calls Tryz.prog 89 #[.pointer (some ⟨B,0,none⟩),.slice a p.length cap] w fun e w'=>e=.returned (.tuple #[])/\w.grownBy w' (some B)/\∃r',jF w' B M (l++p) r':=by
 have hb:=hH.blk
 have kz:=hb.cell (lV _ _ _ _ hH.len)
 have fz:=hb.free 136
 unfold aZ at kz
 have hb1:=hb.set 136 (aZ (l.length+p.length))
 rw[l9 _ _ _ _ _ hH.len]at hb1
 have hg1:=aJ (ah w (some B)) 136 (aZ (l.length+p.length))
 obtain⟨w2,hcp,hg2,hb2⟩:=qE B M (l.length%128) (l.length+p.length) cap _ r p a _ hH.len (by omega) hb1 (hP.kept hg1)
 have hg3:=aj hg1 hg2
 have BI:jF w2 B M (l++p) (fP r p (l.length%128)):=Lu l p r hH hP hw hs hb2
 rw[Nat.min_eq_left (by omega)]at hcp
 unfold aZ at hcp
 have adK:=Lib.hid (And.intro hg3 BI);clear hg3 BI hg1 hg2 hb1 hb2 hb hH hP
 generalize hn:l.length=n at *
 obtain⟨u,hu⟩:∃u:Nat,u=n%128:=⟨_,rfl⟩
 have eu:(n:Int)%128=(u:Int):=by omega
 rw[<- hu]at hw hs hcp
 have u0:(0:Int)<(u:Int):=by omega
 have u1:(u:Int)<=128:=by omega
 have u2:¬128=u:=by omega
 have ec:((n+p.length:Nat):Int)=(n:Int)+(p.length:Int):=by omega
 rw[ec]at hcp
 clear ec
 have HN:=Lib.hid hu;clear hn hu
 go_enter Tryz.func89,Tryz.ntmps89
 go_wp2
 exact bodyPost_ret (v:=.tuple #[]) (by simp[results,Tryz.results89,go_sem]) rfl ⟨rfl,adK.out.1,_,adK.out.2⟩
end
section
open Go.RowKit
def lenOf:Value->Nat
 | .slice _ n _=>n
 | _=>0
structure vE (w wr:World) (B M:Nat) (full:List Nat) (k:Nat) (a:Option Addr) (cap:Nat) (q r:List Nat):Prop where
 g:w.grownBy wr (some B)
 fits:128*k<=full.length
 rest:q=full.drop (128*k)
 part:jo wr B a cap q
 len:r.length=128
 byte:∀i,r.getD i 0<256
 blk:aH wr B 123 (jf (bE.blocks full k) r full.length M)
theorem xg (l:List Nat) (d i:Nat):(l.drop d).getD i 0=l.getD (d+i) 0:=by simp[List.getD_eq_getElem?_getD]
theorem nJ (l:List Nat) (d i:Nat) (h:i<d):(l.take d).getD i 0=l.getD i 0:=by simp[List.getD_eq_getElem?_getD,h]
theorem iL (l:List Nat) (d:Nat) (h:∀i,l.getD i 0<256) (i:Nat):(l.take d).getD i 0<256:=by
 by_cases hi:i<d
 .rw[nJ _ _ _ hi];exact h i
 .rw[List.getD_eq_getElem?_getD,List.getElem?_take,if_neg hi];decide
theorem jo.from {w:World} {B cap d:Nat} {a a':Option Addr} {p:List Nat} (h:jo w B a cap p) (hd:d<=p.length) (ha:d<p.length->∀pb po,a=some ⟨pb,po,none⟩->a'=some ⟨pb,po+d,none⟩):jo w B a' (cap-d) (p.drop d):=by
 have hl:(p.drop d).length=p.length-d:=by simp
 refine⟨by have:=h.cap;omega,fun i=>by rw[xg];exact h.byte _,?_⟩
 by_cases h0:(p.drop d).length=0
 .exact Or.inl h0
 .obtain⟨pb,po,e,hne,hlt,hc⟩:=h.cells.resolve_left (by omega)
  refine Or.inr ⟨pb,po+d,ha (by omega) pb po e,hne,hlt,fun i hi=>?_⟩
  rw[xg,Nat.add_assoc];exact hc _ (by omega)
theorem vE.next {w wr w3:World} {B M k cap:Nat} {full q r:List Nat} {a a':Option Addr} (h:vE w wr B M full k a cap q r) (hq:128<=q.length) (hg:wr.grownBy w3 (some B))
  (hb:aH w3 B 123 (fC (bE.turn (bE.blocks full k) (q.take 128))++(r.map rU++[aZ full.length,.pointer (some ⟨M,0,none⟩)])))
  (ha:128<q.length->∀pb po,a=some ⟨pb,po,none⟩->a'=some ⟨pb,po+128,none⟩):vE w w3 B M full (k+1) a' (cap-128) (q.drop 128) r:=by
 have hl:q.length=full.length-128*k:=by rw[h.rest,List.length_drop]
 refine⟨aj h.g hg,by omega,by rw[h.rest,List.drop_drop,Nat.mul_succ],(h.part.kept hg).from (by omega) ha,h.len,h.byte,?_⟩
 have e:bE.blocks full (k+1)=bE.turn (bE.blocks full k) (q.take 128):=by rw[h.rest];rfl
 unfold jf;rw[e];exact hb
theorem vE.last {w wr w4:World} {B M k cap:Nat} {full q r:List Nat} {a:Option Addr} (h:vE w wr B M full k a cap q r) (hq:q.length<128) (hg:wr.grownBy w4 (some B))
  (hb:aH w4 B 123 (jf (bE.blocks full k) (fP r q 0) full.length M)):w.grownBy w4 (some B)/\jF w4 B M full (fP r q 0):=by
 have hl:q.length=full.length-128*k:=by rw[h.rest,List.length_drop]
 have hk:=h.fits
 have e1:full.length/128=k:=by omega
 have e2:full.length%128=q.length:=by omega
 refine⟨aj h.g hg,kE _ _ _ h.len (by omega),mP _ _ _ h.byte h.part.byte,?_,by rw[e1];exact hb⟩
 rw[e1,e2,<- h.rest]
 unfold fP
 simp only[List.take_zero,List.nil_append,Nat.sub_zero]
 rw[List.take_of_length_le (l:=q) (by omega),List.take_append_of_le_length (by omega),List.take_length]
theorem vE.start {w:World} {B M cap:Nat} {l p r:List Nat} {a:Option Addr} (hH:jF w B M l r) (hP:jo w B a cap p) (h0:l.length%128=0):
  vE w (w.setCell ⟨B,136,none⟩ (aZ (l.length+p.length))) B M (l++p) (l.length/128) a cap p r:=by
 have hg1:=aJ (ah w (some B)) 136 (aZ (l.length+p.length))
 have hb1:=hH.blk.set 136 (aZ (l.length+p.length))
 rw[l9 _ _ _ _ _ hH.len]at hb1
 refine⟨hg1,by rw[List.length_append];omega,?_,hP.kept hg1,hH.len,hH.byte,?_⟩
 .rw[List.drop_append,List.drop_of_length_le (by omega),show 128*(l.length/128)-l.length=0 by omega];rfl
 .rw[pY _ _ _ (by omega),List.length_append];exact hb1
theorem vE.fill {w w2 w3:World} {B M cap:Nat} {l p r:List Nat} {a a':Option Addr} (hH:jF w B M l r) (hP:jo w B a cap p) (hs:128<=l.length%128+p.length) (hg2:w.grownBy w2 (some B)) (hg:w2.grownBy w3 (some B))
  (hb:aH w3 B 123 (fC (bE.turn (bE.blocks l (l.length/128)) (fP r p (l.length%128)))++((fP r p (l.length%128)).map rU++[aZ (l.length+p.length),.pointer (some ⟨M,0,none⟩)])))
  (ha:128-l.length%128<p.length->∀pb po,a=some ⟨pb,po,none⟩->a'=some ⟨pb,po+(128-l.length%128),none⟩):
  vE w w3 B M (l++p) (l.length/128+1) a' (cap-(128-l.length%128)) (p.drop (128-l.length%128)) (fP r p (l.length%128)):=by
 have hm:128*(l.length/128+1)=l.length+(128-l.length%128):=by omega
 refine⟨aj hg2 hg,by rw[List.length_append];omega,?_,((hP.kept hg2).kept hg).from (by omega) ha,kE _ _ _ hH.len (by omega),mP _ _ _ hH.byte hP.byte,?_⟩
 .rw[hm,List.drop_append,List.drop_of_length_le (l:=l) (by omega),show l.length+(128-l.length%128)-l.length=128-l.length%128 by omega];rfl
 .have e:bE.blocks (l++p) (l.length/128+1)=bE.turn (bE.blocks l (l.length/128)) (fP r p (l.length%128)):=by
   rw[bE.blocks,pY _ _ _ (by omega)]
   congr 1
   rw[List.drop_append_of_le_length (by omega),<- hH.waits]
   unfold fP
   rw[List.take_append,List.take_of_length_le (l:=List.take (l.length%128) r) (by rw[List.length_take];omega),List.length_take,hH.len,Nat.min_eq_left (by omega)]
   congr 1
   rw[Nat.min_eq_right (by omega),show l.length%128+(128-l.length%128)=128 by omega,List.drop_of_length_le (l:=r) (by rw[hH.len];exact Nat.le_refl _),List.append_nil]
  unfold jf;rw[e,List.length_append];exact hb
set_option maxRecDepth 100000 in
set_option maxHeartbeats 2000000 in
theorem IY (B M:Nat) (l r p:List Nat) (a:Option Addr) (cap:Nat) (w:World) (hT:Tables w) (hH:jF w B M l r) (hP:jo w B a cap p) (hB2:0+4+1<=B)
  (hlen:l.length+p.length<2147483648) (hcap:cap<9223372036854775808) (h0:l.length%128=0):
  Calls Tryz.prog 89 #[.pointer (some ⟨B,0,none⟩),.slice a p.length cap] w fun e w'=>e=.returned (.tuple #[])/\w.grownBy w' (some B)/\∃r',jF w' B M (l++p) r':=by
 have kz:=hH.blk.cell (lV _ _ _ _ hH.len)
 have fz:=hH.blk.free 136
 unfold aZ at kz
 have hS:=vE.start hH hP h0
 have ec:aZ (l.length+p.length)=.int .u64 ((l.length:Int)+(p.length:Int)):=by unfold aZ;congr 1
 rw[ec]at hS
 have HT:=Lib.hid hT;clear hT ec
 have HS:=Lib.hid hS;clear hS hH hP
 have eu:(l.length:Int)%128=0:=by omega
 clear h0
 go_enter Tryz.func89,Tryz.ntmps89
 go_wp2
 clear kz fz eu
 go_loopw [1] (fun v wr=>∃k cap' a' q r',v=.slice a' q.length cap'/\cap'<9223372036854775808/\vE w wr B M (l++p) k a' cap' q r') (fun v _=>lenOf v)
 case atStart=>exact⟨_,cap,a,p,r,rfl,hcap,HS.out⟩
 case round=>
  obtain⟨k,cap',a',q,r',rfl,adM,hI⟩:=hrel
  have hqc:=hI.part.cap
  by_cases hlt:128<=q.length
  .obtain⟨pb,po,rfl,hne,hpl,hc⟩:=hI.part.cells.resolve_left (by omega)
   have hc1:∀i,i<128->wr.cell? ⟨pb,po+i,none⟩=some (.int .u8 (((q.take 128).getD i 0:Nat):Int)):=fun i hi=>by rw[nJ _ _ _ hi];exact hc i (by omega)
   have HT2:=Lib.hid (HT.out.kept hI.g (fun b e=>by cases e;exact hB2))
   have HC:=Lib.hid hc1;clear hc hc1
   have HI:=Lib.hid hI;clear hI
   have i1:(128:Int)<=(q.length:Int):=by omega
   have i2:(128:Int)<=(cap':Int):=by omega
   have i3:(q.length:Int)<=(cap':Int):=by omega
   by_cases hce:cap'=128
   .have tL:q.length=128:=by omega
    subst hce
    rw[tL]at i1 i3 hqc ⊢
    have TN:=Lib.hid tL;clear tL hlt
    go_wp2_with fail
    refine wp_region_still_tail 5 (by kernel_rfl) (by kernel_rfl) ?_
    change wpStill _ _ (World.drew wr) _ _ _
    simp only[List.take_succ_cons,List.take_zero,List.drop_succ_cons,List.drop_zero]
    repeat still_step
    refine wpStill_nil ?_
    go_wp2_with fail
    refine (mO B _ pb po _ (bE.blocks (l++p) k) _ (q.take 128) _ (by exact HT2.out.drew) (SB.blocks _ _) (by omega) (iL _ _ HI.out.part.byte) (HI.out.blk.drew) (by exact HC.out)).mono ?_
    rintro e w3 ⟨rfl,hg3,hb3⟩
    have hN:=HI.out.next (a':=some ⟨pb,po,none⟩) (by rw[TN.out];omega) (aj (aX (ah _ _)) hg3) hb3 (fun h=>by rw[TN.out]at h;omega)
    have HN:=Lib.hid hN;clear hN hb3 hg3
    go_wp2
    go_roundw
    case rel=>exact⟨k+1,0,some ⟨pb,po,none⟩,q.drop 128,r',by rw[List.length_drop,TN.out],by omega,HN.out⟩
    case measure=>simp[lenOf]
   .have i4:(128:Int)<(cap':Int):=by omega
    go_wp2_with fail
    refine wp_region_still_tail 5 (by kernel_rfl) (by kernel_rfl) ?_
    change wpStill _ _ (World.drew wr) _ _ _
    simp only[List.take_succ_cons,List.take_zero,List.drop_succ_cons,List.drop_zero]
    repeat still_step
    refine wpStill_nil ?_
    go_wp2_with fail
    refine (mO B _ pb po _ (bE.blocks (l++p) k) _ (q.take 128) _ (by exact HT2.out.drew) (SB.blocks _ _) (by omega) (iL _ _ HI.out.part.byte) (HI.out.blk.drew) (by exact HC.out)).mono ?_
    rintro e w3 ⟨rfl,hg3,hb3⟩
    have hN:=HI.out.next (a':=some ⟨pb,po+128,none⟩) hlt (aj (aX (ah _ _)) hg3) hb3 (fun _ pb' po' e=>by cases e;rfl)
    have HN:=Lib.hid hN;clear hN hb3 hg3
    go_wp2
    go_roundw
    case rel=>exact⟨k+1,cap'-128,some ⟨pb,po+128,none⟩,q.drop 128,r',by rw[List.length_drop],by omega,HN.out⟩
    case measure=>simp[lenOf];omega
  .obtain⟨w4,hcp,hg4,hb4⟩:=qE B M 0 (l++p).length cap' _ r' q a' wr hI.len (by omega) hI.blk hI.part
   have BI:=Lib.hid (hI.last (by omega) hg4 hb4)
   rw[Nat.min_eq_left (by omega)]at hcp
   simp only[Nat.add_zero,Nat.sub_zero]at hcp
   clear hg4 hb4 hI
   have i1:¬(128:Int)<=(q.length:Int):=by omega
   go_wp2
   go_end0
   exact⟨rfl,BI.out.1,_,BI.out.2⟩
end
end Go.Proofs.YtmijliomjpphkaaGreatDoor
