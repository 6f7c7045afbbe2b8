/- texts merged -/
import Derived.Test.YtjgnjhgdmdmebaaGreatDoorGeM6
import Derived.WalkKit
import Derived.WalkSpells
import Derived.WalkLawsBesides
import Derived.Outline
import Derived.Deep.RegionLaw
import Derived.Deep.RegionLawGrows
import Derived.Defers
import Derived.Recover
import Derived.Test.YtjgnjhgdmdmebaaGreatDoorGeM1
import Derived.Deep.Cut
import Derived.Test.YtjgnjhgdmdmebaaGreatDoorGeM3
import Derived.Laws.BitsAllLaws
import Derived.Deep.RegionWith
import Derived.Deep.CutBlock
import Derived.BigQuiet
import Derived.Test.YtjgnjhgdmdmebaaGreatDoorChecked
import Derived.ProofKit
import Derived.OpenShut
import Derived.Deep.SlicePairs
import Derived.Deep.Slices
import Derived.Lib.SmallJoins
import Derived.SizedLaws
import Derived.ChangeArms
import Derived.Test.YtjgnjhgdmdmebaaGreatDoorGeM2
import Derived.Test.YtjgnjhgdmdmebaaGreatDoorCards
import Derived.Test.YtjgnjhgdmdmebaaGreatDoorTie
import Derived.Test.YtjgnjhgdmdmebaaGreatDoorGeM5
namespace Go.Proofs.YtjgnjhgdmdmebaaGreatDoor
section
open Go.RowKit Ow Wi Ve Rc
namespace Gr
def UJ (c:Int) (e:Ending):Prop:=e=.panicked [{v:=.iface 29 (.int .i64 c),recovered:=false}]
theorem tZ (c:Int) (w:World):Calls Tryz.prog 35 #[.bool true,.int .i64 c] w fun e w'=>e=.returned (.tuple #[])/\w'=w:=by
 go_enter Tryz.func35,Tryz.ntmps35
 go_wp2
 go_end0
 exact⟨rfl,rfl⟩
theorem xu (c:Int) (w:World):Calls Tryz.prog 35 #[.bool false,.int .i64 c] w fun e w'=>UJ c e/\w'=w:=by
 go_enter Tryz.func35,Tryz.ntmps35
 go_wp2
 exact⟨rfl,rfl,rfl⟩
theorem Xx (s p:ByteArray) (b:Bool) (hb:b=CJ (dA p) (dA s)):(((s.extract 0 p.size).toList==p.toList)=b):=by
 rw[str_eq,hb]
 unfold CJ
 have e:dA (s.extract 0 p.size)=(dA s).take (dA p).length:=by
  rw[jX]
  unfold dA
  rw[ByteArray.data_extract]
  simp[List.map_take]
 rw[e]
theorem aaw (s p:ByteArray) (h:¬p.size<=s.size):CJ (dA p) (dA s)=false:=by
 unfold CJ
 rw[decide_eq_false_iff_not]
 intro e
 have:=congrArg List.length e
 rw[List.length_take,jX,jX]at this
 omega
set_option maxHeartbeats 1000000 in
theorem Fq (s p:ByteArray) (w:World):Calls Tryz.prog 66 #[.string s,.string p] w fun e w'=>e=.returned (.bool (CJ (dA p) (dA s)))/\w'=w:=by
 by_cases h:p.size<=s.size
 .have i0:(s.size:Int)>=(p.size:Int):=by omega
  have i1:¬((p.size:Int)>(s.size:Int)):=by omega
  obtain⟨b,hb⟩:∃b,b=CJ (dA p) (dA s):=⟨_,rfl⟩
  have he:=Xx s p b hb
  rw[<- hb]
  go_enter Tryz.func66,Tryz.ntmps66
  go_wp2
  go_ret
  exact⟨rfl,rfl⟩
 .have i0:¬(s.size:Int)>=(p.size:Int):=by omega
  rw[aaw s p h]
  go_enter Tryz.func66,Tryz.ntmps66
  go_wp2
  go_ret
  exact⟨rfl,rfl⟩
theorem LG (s p:ByteArray) (w:World):Calls Tryz.prog 50 #[.string s,.string p] w fun e w'=>e=.returned (.bool (CJ (dA p) (dA s)))/\w'=w:=by
 have HP:=Lib.hid (Fq s p)
 go_enter Tryz.func50,Tryz.ntmps50
 go_wp2_with fail
 refine (HP.out w).mono ?_
 rintro e w' ⟨rfl,rfl⟩
 go_wp2
 go_ret
 exact⟨rfl,rfl⟩
end Gr
end
section
open Go.RowKit Ow Wi Ve Rc
namespace Gr
theorem Jq {r:R} (h:iE r=true):iN r=true/\r.sig.length=64:=by
 unfold iE at h
 simpa using h
set_option maxHeartbeats 2000000 in
theorem UK (r:R) (B n cap:Nat) (a:Option Addr) (w:World) (q:L) (h:qm w B q r) (hr:iE r=false):
  Calls Tryz.prog 51 #[.slice a n cap,q.v r] w fun e w'=>e=.returned (.int .i64 4)/\w.grownBy w' none:=by
 have HS:=Lib.hid (fun w' (hg:w.grownBy w' none)=>oF r B w' q (h.stay hg))
 rw[hr]at HS
 clear h hr
 obtain⟨s,a1,n1,c1,a2,n2,c2,a3,n3,c3⟩:=q
 obtain⟨key,cl,sq,cx,g,val,sig⟩:=r
 replace HS:Hid (∀w' (_:w.grownBy w' none),Calls Tryz.prog 49 #[vV s cl sq a1 n1 c1 g a2 n2 c2 a3 n3 c3] w' fun e w''=>e=.returned (.bool false)/\w'.grownBy w'' none):=HS
 show Calls _ _ #[.slice a n cap,vV s cl sq a1 n1 c1 g a2 n2 c2 a3 n3 c3] w _
 go_enter Tryz.func51,Tryz.ntmps51
 go_wp2_with fail
 refine (HS.out _ (au (ah _ _) _)).mono ?_
 rintro e w1 ⟨rfl,hg⟩
 have HG:=Lib.hid (aj (au (ah _ _) _) hg);clear hg
 go_wp2
 go_ret
 exact⟨rfl,HG.out⟩
set_option maxHeartbeats 4000000 in
set_option maxRecDepth 100000 in
theorem Qe (r:R) (B n cap Bp:Nat) (a:Option Addr) (p:List Nat) (w:World) (q:L) (hO:kr w) (hT:dB w) (hS:Tables w) (hp:p.length=n) (hn:n<9223372036854775808) (hP:BytesAt w Bp a cap p) (h:qm w B q r) (hr:iE r=true):
  Calls Tryz.prog 51 #[.slice a n cap,q.v r] w fun e w'=>e=.returned (.int .i64 (if CK p r.sig (gq r) then 0 else 20))/\w.grownBy w' none:=by
 obtain⟨hsh,h64⟩:=Jq hr
 have HS:=Lib.hid (fun w' (hg:w.grownBy w' none)=>oF r B w' q (h.stay hg))
 rw[hr]at HS
 have HX:=Lib.hid (fun w' (hg:w.grownBy w' none)=>P8 r B w' q (h.stay hg))
 have e1:BN r=gq r:=if_pos hsh
 rw[e1]at HX
 have HTS:=Lib.hid (vB h hsh)
 have HV:Hid (∀(w':World) (N aT:Nat) (bT:Option Addr),w.grownBy w' none->aG w' N 24 [.slice bT (gq r).length aT]->BytesAt w' w'.heap.size bT aT (gq r)->Calls Tryz.prog 67 #[.slice a n cap,.slice q.a3 64 q.c3,.slice (some ⟨N,0,none⟩) 1 1] w' fun e w''=>e=.returned (.bool (CK p r.sig (gq r)))/\w'.grownBy w'' none):=fun w' N aT bT hg hb hB=>by
  have hs3:BytesAt w' B q.a3 q.c3 r.sig:=h.sig.stay hg
  have hj:joined [⟨bT,aT,gq r⟩]=gq r:=by simp[joined]
  have hv:=Le p r.sig n cap Bp q.c3 B 1 1 w'.heap.size a q.a3 (some ⟨N,0,none⟩) [⟨bT,aT,gq r⟩] w' (hO.kept hg (fun b e=>by cases e)) (hT.grown hg) (hS.kept hg (fun b e=>by cases e)) hp hn (Lib.hid (hP.stay hg)) h64 (Lib.hid hs3) rfl (Lib.hid (ES rfl hb hB)) (by decide) (by rw[hj];have:=HTS.out.1;omega)
  rw[hj]at hv
  refine hv.mono fun e w'' h2=>?_
  obtain⟨b,rfl,hg2,hbv⟩:=h2
  exact⟨by rw[Lh hbv],hg2⟩
 have hl3:q.n3=64:=by rw[<- h.l3];exact h64
 clear h hr hsh h64 e1 hO hT hS hp hn hP HTS
 generalize gq r=T at *
 generalize CK p r.sig T=bv at *
 obtain⟨s,a1,n1,c1,a2,n2,c2,a3,n3,c3⟩:=q
 obtain⟨key,cl,sq,cx,g,val,sig⟩:=r
 obtain rfl:n3=64:=hl3
 replace HS:Hid (∀w' (_:w.grownBy w' none),Calls Tryz.prog 49 #[vV s cl sq a1 n1 c1 g a2 n2 c2 a3 64 c3] w' fun e w''=>e=.returned (.bool true)/\w'.grownBy w'' none):=HS
 replace HX:Hid (∀w' (_:w.grownBy w' none),Calls Tryz.prog 68 #[vV s cl sq a1 n1 c1 g a2 n2 c2 a3 64 c3] w' (Fa w' T)):=HX
 replace HV:Hid (∀(w':World) (N aT:Nat) (bT:Option Addr),w.grownBy w' none->aG w' N 24 [.slice bT T.length aT]->BytesAt w' w'.heap.size bT aT T->Calls Tryz.prog 67 #[.slice a n cap,.slice a3 64 c3,.slice (some ⟨N,0,none⟩) 1 1] w' fun e w''=>e=.returned (.bool bv)/\w'.grownBy w'' none):=HV
 show Calls _ _ #[.slice a n cap,vV s cl sq a1 n1 c1 g a2 n2 c2 a3 64 c3] w _
 obtain⟨N,hN⟩:∃N,N=w.heap.size:=⟨_,rfl⟩
 obtain⟨W0,hW0⟩:∃W0,W0=w.alloc (.cells #[.string s,iV cl,iV sq,.slice a1 n1 c1,.bool g,.slice a2 n2 c2,.slice a3 64 c3] 34):=⟨_,rfl⟩
 have hG0:w.grownBy W0 none:=by rw[hW0];exact au (ah _ _) _
 have hB0:aG W0 N 34 [.string s,iV cl,iV sq,.slice a1 n1 c1,.bool g,.slice a2 n2 c2,.slice a3 64 c3]:=by rw[hW0,hN];exact aG.new w _ _
 have iM:=Lib.hid (And.intro hG0 hB0);clear hG0 hB0
 go_enter Tryz.func51,Tryz.ntmps51
 go_wp2_with fail
 rw[<- hW0,<- hN]
 clear hW0 hN
 refine (HS.out _ iM.out.1).mono ?_
 rintro e w1 ⟨rfl,hg⟩
 have hB1:=(iM.out.2.grown hg (by simp)).grown (aZ (ah w1 none)) (by simp)
 have m0:=hB1.cell (i:=0) rfl
 have m1:=hB1.cell (i:=1) rfl
 have m2:=hB1.cell (i:=2) rfl
 have m3:=hB1.cell (i:=3) rfl
 have m4:=hB1.cell (i:=4) rfl
 have m5:=hB1.cell (i:=5) rfl
 have m6:=hB1.cell (i:=6) rfl
 have HG:=Lib.hid (And.intro (aj iM.out.1 (aZ hg)) hB1);clear hg hB1
 go_wp2_with fail
 go_region_law (first
  | (
    refine Fg.DL rfl (f:=68) (args:=#[vV s cl sq a1 n1 c1 g a2 n2 c2 a3 64 c3]) (Fg.aN rfl rfl (by simp only[List.map_toArray,List.map_cons,List.map_nil,Act.eval];rfl) (Fg.aI Tryz.func68 (by kernel_rfl) (by kernel_rfl))) ?_
    refine (HX.out _ HG.out.1).mono ?_
    intro e w2 h2
    obtain⟨aT,cT,rfl,hg2,hBT⟩:=h2
    have hB2:=HG.out.2.grown hg2 (by simp)
    have k6:=hB2.cell (i:=6) rfl
    have ga:=au (ah w2 none) (.cells #[.slice aT T.length cT] 24)
    have j6:=(hB2.grown ga (by simp)).cell (i:=6) rfl
    have H2:=Lib.hid (And.intro (aj (aj HG.out.1 hg2) ga) (And.intro (aG.new w2 [.slice aT T.length cT] 24) (hBT.stay ga).full));clear hg2 hBT hB2 ga HX
    refine⟨_,rfl,?_⟩)
  | (
    refine Fg.DL rfl (f:=67) (args:=#[.slice a n cap,.slice a3 64 c3,.slice (some ⟨w2.heap.size,0,none⟩) 1 1]) (Fg.aN rfl rfl (by simp only[List.map_toArray,List.map_cons,List.map_nil,Act.eval];rfl) (Fg.aI Tryz.func67 (by kernel_rfl) (by kernel_rfl))) ?_
    refine (HV.out _ w2.heap.size cT aT H2.out.1 H2.out.2.1 H2.out.2.2).mono ?_
    rintro e w3 ⟨rfl,hg3⟩
    have H3:=Lib.hid (aj H2.out.1 hg3);clear hg3 HV
    refine⟨_,rfl,?_⟩))
 all_goals
  cases bv with
  | true=>
   go_wp2
   go_ret
   exact⟨rfl,H3.out⟩
  | false=>
   go_wp2
   go_ret
   exact⟨rfl,H3.out⟩
theorem Qf (r:R) (B n cap Bp:Nat) (a:Option Addr) (p:List Nat) (w:World) (q:L) (hO:kr w) (hT:dB w) (hS:Tables w) (hp:p.length=n) (hn:n<9223372036854775808) (hP:BytesAt w Bp a cap p) (h:qm w B q r):
  Calls Tryz.prog 51 #[.slice a n cap,q.v r] w fun e w'=>e=.returned (.int .i64 (E5 p r))/\w.grownBy w' none:=by
 unfold E5
 cases hr:iE r with
 | false=>exact UK r B n cap a w q h hr
 | true=>exact Qe r B n cap Bp a p w q hO hT hS hp hn hP h hr
end Gr
end
section
open Go.RowKit Ow Wi Ve Rc
namespace Gr
def uf (w:World) (x:Int) (e:Ending) (w':World):Prop:=w.grownBy w' none/\((x=0/\e=.returned (.tuple #[]))\/(x≠0/\UJ x e))
theorem Qg (b:Bool) (c:Int) (w:World):Calls Tryz.prog 35 #[.bool b,.int .i64 c] w fun e w'=>(if b then e=.returned (.tuple #[]) else UJ c e)/\w'=w:=by
 cases b with
 | true=>exact tZ c w
 | false=>exact xu c w
set_option maxHeartbeats 2000000 in
set_option maxRecDepth 100000 in
theorem LH (n cap:Nat) (a:Option Addr) (r:R) (B:Nat) (w:World) (q:L) (h:qm w B q r) (hr:iE r=false):
  Calls Tryz.prog 36 #[.agg #[.slice a n cap],q.v r] w (uf w 4):=by
 have HS:=Lib.hid (fun w' (hg:w.grownBy w' none)=>oF r B w' q (h.stay hg))
 rw[hr]at HS
 have HM:=Lib.hid (fun w=>xu 4 w)
 clear h hr
 obtain⟨s,a1,n1,c1,a2,n2,c2,a3,n3,c3⟩:=q
 obtain⟨key,cl,sq,cx,g,val,sig⟩:=r
 replace HS:Hid (∀w' (_:w.grownBy w' none),Calls Tryz.prog 49 #[vV s cl sq a1 n1 c1 g a2 n2 c2 a3 n3 c3] w' fun e w''=>e=.returned (.bool false)/\w'.grownBy w'' none):=HS
 show Calls _ _ #[.agg #[.slice a n cap],vV s cl sq a1 n1 c1 g a2 n2 c2 a3 n3 c3] w _
 go_enter Tryz.func36,Tryz.ntmps36
 go_wp2_with fail
 refine (HS.out _ (au (au (ah _ _) _) _)).mono ?_
 rintro e w1 ⟨rfl,hg⟩
 have HG:=Lib.hid (aj (au (au (ah _ _) _) _) hg);clear hg
 go_wp2_with fail
 refine (HM.out _).mono ?_
 rintro e w2 ⟨he,rfl⟩
 obtain rfl:=he
 exact⟨rfl,HG.out,Or.inr ⟨by decide,rfl⟩⟩
set_option maxHeartbeats 2000000 in
set_option maxRecDepth 100000 in
theorem Qh (n cap Bg:Nat) (a:Option Addr) (l:List GE) (r:R) (B:Nat) (w:World) (q:L) (h:qm w B q r) (hr:iE r=true) (hl:l.length=n) (hn:n<=1000000) (hL:iZ w Bg a l) (hf:jY l r.cl=none):
  Calls Tryz.prog 36 #[.agg #[.slice a n cap],q.v r] w (uf w 21):=by
 have HS:=Lib.hid (fun w' (hg:w.grownBy w' none)=>oF r B w' q (h.stay hg))
 rw[hr]at HS
 have HF:=Lib.hid (fun w' (hg:w.grownBy w' none)=>yC n cap Bg a r.cl l w' hl hn (hL.stay hg))
 rw[hf]at HF
 have HM:=Lib.hid (fun w=>xu 21 w)
 have HY:=Lib.hid tZ
 clear h hr hl hL hf
 obtain⟨s,a1,n1,c1,a2,n2,c2,a3,n3,c3⟩:=q
 obtain⟨key,cl,sq,cx,g,val,sig⟩:=r
 replace HS:Hid (∀w' (_:w.grownBy w' none),Calls Tryz.prog 49 #[vV s cl sq a1 n1 c1 g a2 n2 c2 a3 n3 c3] w' fun e w''=>e=.returned (.bool true)/\w'.grownBy w'' none):=HS
 replace HF:Hid (∀w' (_:w.grownBy w' none),Calls Tryz.prog 22 #[.slice a n cap,.int .i64 cl] w' fun e w''=>e=.returned (.tuple #[zG,.bool false])/\w'.grownBy w'' none):=HF
 show Calls _ _ #[.agg #[.slice a n cap],vV s cl sq a1 n1 c1 g a2 n2 c2 a3 n3 c3] w _
 obtain⟨N,hN⟩:∃N,N=w.heap.size:=⟨_,rfl⟩
 obtain⟨M,hM⟩:∃M,M=w.heap.size+1:=⟨_,rfl⟩
 obtain⟨W0,hW0⟩:∃W0,W0=(w.alloc (.cells #[.slice a n cap] 52)).alloc (.cells #[.string s,iV cl,iV sq,.slice a1 n1 c1,.bool g,.slice a2 n2 c2,.slice a3 n3 c3] 34):=⟨_,rfl⟩
 have hG0:w.grownBy W0 none:=by rw[hW0];exact au (au (ah _ _) _) _
 have hB0:aG W0 N 52 [.slice a n cap]:=by rw[hW0,hN];exact (aG.new _ [.slice a n cap] _).alloc _
 have hB1:aG W0 M 34 [.string s,iV cl,iV sq,.slice a1 n1 c1,.bool g,.slice a2 n2 c2,.slice a3 n3 c3]:=by rw[hW0,hM,<- World.size_alloc w (.cells #[.slice a n cap] 52)];exact aG.new _ _ _
 have iM:=Lib.hid (And.intro hG0 (And.intro hB0 hB1));clear hG0 hB0 hB1
 go_enter Tryz.func36,Tryz.ntmps36
 go_wp2_with fail
 rw[<- hW0,<- hM,<- hN]
 clear hW0 hN hM
 refine (HS.out _ iM.out.1).mono ?_
 rintro e w1 ⟨rfl,hg⟩
 have gU:=Lib.hid (And.intro (aj iM.out.1 hg) (And.intro (iM.out.2.1.grown hg (by simp)) (iM.out.2.2.grown hg (by simp))));clear hg iM HS
 go_wp2_with fail
 refine (HY.out 4 _).mono ?_
 rintro e w2 ⟨rfl,rfl⟩
 have d0:=gU.out.2.1.cell (i:=0) rfl
 have r1:=gU.out.2.2.cell (i:=1) rfl
 unfold iV at r1
 go_wp2_with fail
 clear d0 r1
 refine (HF.out _ gU.out.1).mono ?_
 rintro e w3 ⟨rfl,hg⟩
 have HG2:=Lib.hid (And.intro (aj gU.out.1 hg) (gU.out.2.2.grown hg (by simp)));clear hg gU HF
 go_wp2_with fail
 refine (HM.out _).mono ?_
 rintro e w4 ⟨he,rfl⟩
 obtain rfl:=he
 exact⟨rfl,au HG2.out.1 _,Or.inr ⟨by decide,rfl⟩⟩
set_option maxHeartbeats 4000000 in
set_option maxRecDepth 100000 in
theorem Qi (n cap Bg:Nat) (a:Option Addr) (l:List GE) (r:R) (B:Nat) (w:World) (q:L) (x:GE) (hO:kr w) (hT:dB w) (QI:Tables w) (h:qm w B q r) (hr:iE r=true) (hl:l.length=n) (hn:n<=1000000) (hL:iZ w Bg a l) (hf:jY l r.cl=some x):
  Calls Tryz.prog 36 #[.agg #[.slice a n cap],q.v r] w (uf w (if CJ x.2.pre r.key then E5 x.2.pub r else 21)):=by
 have HS:=Lib.hid (fun w' (hg:w.grownBy w' none)=>oF r B w' q (h.stay hg))
 rw[hr]at HS
 have HF:=Lib.hid (fun w' (hg:w.grownBy w' none)=>yC n cap Bg a r.cl l w' hl hn (hL.stay hg))
 rw[hf]at HF
 have hx:=hL.each x (Jm hf).1
 have HC:=Lib.hid (fun w' (hg:w.grownBy w' none)=>Qf r B x.1.n x.1.c Bg x.1.a x.2.pub w' q (hO.kept hg (fun b e=>by cases e)) (hT.grown hg) (QI.kept hg (fun b e=>by cases e)) hx.len (by have:=hx.pub.top;have:=hx.pub.fits;have:=hx.len;omega) (hx.pub.stay hg) (h.stay hg))
 have HM:=Lib.hid (fun b c w=>Qg b c w)
 have HY:=Lib.hid tZ
 have HP:=Lib.hid (LG q.s x.1.s)
 rw[h.str,hx.str]at HP
 clear h hr hl hL hf hx hO hT QI
 generalize E5 x.2.pub r=ck at *
 generalize CJ x.2.pre r.key=bg at *
 obtain⟨X,hX⟩:∃X,X=if bg then ck else 21:=⟨_,rfl⟩
 rw[<- hX]
 have HX:=Lib.hid hX;clear hX
 obtain⟨⟨ga,gn,gp,gs⟩,⟨gc,pub,pre⟩⟩:=x
 obtain⟨s,a1,n1,c1,a2,n2,c2,a3,n3,c3⟩:=q
 obtain⟨key,cl,sq,cx,g,val,sig⟩:=r
 replace HS:Hid (∀w' (_:w.grownBy w' none),Calls Tryz.prog 49 #[vV s cl sq a1 n1 c1 g a2 n2 c2 a3 n3 c3] w' fun e w''=>e=.returned (.bool true)/\w'.grownBy w'' none):=HS
 replace HF:Hid (∀w' (_:w.grownBy w' none),Calls Tryz.prog 22 #[.slice a n cap,.int .i64 cl] w' fun e w''=>e=.returned (.tuple #[vG gc ga gn gp gs,.bool true])/\w'.grownBy w'' none):=HF
 replace HC:Hid (∀w' (_:w.grownBy w' none),Calls Tryz.prog 51 #[.slice ga gn gp,vV s cl sq a1 n1 c1 g a2 n2 c2 a3 n3 c3] w' fun e w''=>e=.returned (.int .i64 ck)/\w'.grownBy w'' none):=HC
 replace HP:Hid (∀w,Calls Tryz.prog 50 #[.string s,.string gs] w fun e w'=>e=.returned (.bool bg)/\w'=w):=HP
 show Calls _ _ #[.agg #[.slice a n cap],vV s cl sq a1 n1 c1 g a2 n2 c2 a3 n3 c3] w _
 obtain⟨N,hN⟩:∃N,N=w.heap.size:=⟨_,rfl⟩
 obtain⟨M,hM⟩:∃M,M=w.heap.size+1:=⟨_,rfl⟩
 obtain⟨W0,hW0⟩:∃W0,W0=(w.alloc (.cells #[.slice a n cap] 52)).alloc (.cells #[.string s,iV cl,iV sq,.slice a1 n1 c1,.bool g,.slice a2 n2 c2,.slice a3 n3 c3] 34):=⟨_,rfl⟩
 have hG0:w.grownBy W0 none:=by rw[hW0];exact au (au (ah _ _) _) _
 have hB0:aG W0 N 52 [.slice a n cap]:=by rw[hW0,hN];exact (aG.new _ [.slice a n cap] _).alloc _
 have hB1:aG W0 M 34 [.string s,iV cl,iV sq,.slice a1 n1 c1,.bool g,.slice a2 n2 c2,.slice a3 n3 c3]:=by rw[hW0,hM,<- World.size_alloc w (.cells #[.slice a n cap] 52)];exact aG.new _ _ _
 have iM:=Lib.hid (And.intro hG0 (And.intro hB0 hB1));clear hG0 hB0 hB1
 go_enter Tryz.func36,Tryz.ntmps36
 go_wp2_with fail
 rw[<- hW0,<- hM,<- hN]
 clear hW0 hN hM
 refine (HS.out _ iM.out.1).mono ?_
 rintro e w1 ⟨rfl,hg⟩
 have gU:=Lib.hid (And.intro (aj iM.out.1 hg) (And.intro (iM.out.2.1.grown hg (by simp)) (iM.out.2.2.grown hg (by simp))));clear hg iM HS
 go_wp2_with fail
 refine (HY.out 4 _).mono ?_
 rintro e w2 ⟨rfl,rfl⟩
 have d0:=gU.out.2.1.cell (i:=0) rfl
 have r1:=gU.out.2.2.cell (i:=1) rfl
 unfold iV at r1
 go_wp2_with fail
 clear d0 r1
 refine (HF.out _ gU.out.1).mono ?_
 rintro e w3 ⟨rfl,hg⟩
 have HG2:=Lib.hid (And.intro (aj gU.out.1 hg) (gU.out.2.2.grown hg (by simp)));clear hg gU HF
 have r0:=(HG2.out.2.alloc (.cells #[.int .i64 gc,.slice ga gn gp,.string gs] 26)).cell (i:=0) rfl
 go_wp2_with fail
 refine (HP.out _).mono ?_
 rintro e w4 ⟨rfl,rfl⟩
 clear r0 HP
 cases bg with
 | false=>
  go_wp2_with fail
  refine (HM.out false 21 _).mono ?_
  rintro e w5 ⟨he,rfl⟩
  obtain rfl:=he
  have hX:X=21:=HX.out
  exact⟨rfl,au HG2.out.1 _,Or.inr ⟨by omega,by rw[hX];rfl⟩⟩
 | true=>
  go_wp2_with fail
  refine (HY.out 21 _).mono ?_
  rintro e w5 ⟨rfl,rfl⟩
  obtain⟨W3,hW3⟩:∃W3,W3=w3.alloc (.cells #[.int .i64 gc,.slice ga gn gp,.string gs] 26):=⟨_,rfl⟩
  have hb:aG W3 w3.heap.size 26 [.int .i64 gc,.slice ga gn gp,.string gs]:=by rw[hW3];exact aG.new _ _ _
  have hk:aG W3 M 34 [.string s,iV cl,iV sq,.slice a1 n1 c1,.bool g,.slice a2 n2 c2,.slice a3 n3 c3]:=by rw[hW3];exact HG2.out.2.alloc _
  have hg3:w.grownBy W3 none:=by rw[hW3];exact au HG2.out.1 _
  have oU:=Lib.hid hg3
  rw[<- hW3]
  have r0:=hk.cell (i:=0) rfl
  have r1:=hk.cell (i:=1) rfl
  have r2:=hk.cell (i:=2) rfl
  have r3:=hk.cell (i:=3) rfl
  have r4:=hk.cell (i:=4) rfl
  have r5:=hk.cell (i:=5) rfl
  have r6:=hk.cell (i:=6) rfl
  have g1:=hb.cell (i:=1) rfl
  clear hb hk hg3 hW3
  go_wp2_with fail
  refine (HC.out _ oU.out).mono ?_
  rintro e w6 ⟨rfl,hg⟩
  have CF:=Lib.hid (aj oU.out hg);clear hg r0 r1 r2 r3 r4 r5 r6 g1
  have hX:X=ck:=HX.out
  subst hX
  by_cases hz:X=0
  .go_wp2_with fail
   refine (HY.out 0 _).mono ?_
   rintro e w7 ⟨rfl,rfl⟩
   go_wp2
   go_end0
   exact⟨CF.out,Or.inl ⟨hz,rfl⟩⟩
  .have hz2:(X==0)=false:=by simpa using hz
   go_wp2_with fail
   refine (HM.out false X _).mono ?_
   rintro e w7 ⟨he,rfl⟩
   obtain rfl:=he
   exact⟨rfl,CF.out,Or.inr ⟨hz,rfl⟩⟩
theorem UL (n cap Bg:Nat) (a:Option Addr) (l:List GE) (r:R) (B:Nat) (w:World) (q:L) (hO:kr w) (hT:dB w) (QI:Tables w) (h:qm w B q r) (hl:l.length=n) (hn:n<=1000000) (hL:iZ w Bg a l):
  Calls Tryz.prog 36 #[.agg #[.slice a n cap],q.v r] w (uf w (mq (l.map (·.2)) r)):=by
 unfold mq
 rw[UF]
 cases hr:iE r with
 | false=>exact LH n cap a r B w q h hr
 | true=>
  cases hf:jY l r.cl with
  | none=>exact Qh n cap Bg a l r B w q h hr hl hn hL hf
  | some x=>exact Qi n cap Bg a l r B w q x hO hT QI h hr hl hn hL hf
end Gr
end
section
open Go.RowKit Ow Wi Ve Rc
namespace Gr
theorem Qj (last:Int) (l:List GE) (k:Nat) (h:k<l.length):wX last ((l.drop k).map (·.2))=((decide (last<(l.getD k g0).2.cl)&&decide ((l.getD k g0).2.cl<=8)&&decide ((l.getD k g0).2.pub.length=32)&&decide ((l.getD k g0).2.pre.length<=64))&&wX (l.getD k g0).2.cl ((l.drop (k+1)).map (·.2))):=by
 rw[List.drop_eq_getElem_cons h,List.getD_eq_getElem?_getD,List.getElem?_eq_getElem h]
 rfl
set_option maxHeartbeats 4000000 in
set_option maxRecDepth 100000 in
theorem vD (n cap B:Nat) (a:Option Addr) (l:List GE) (w:World) (hl:l.length=n) (hn:n<=1000000) (hL:iZ w B a l):
  Calls Tryz.prog 21 #[.slice a n cap] w fun e w'=>e=.returned (.bool (rightG (l.map (·.2))))/\w.grownBy w' none:=by
 obtain⟨b,hb⟩:∃b,b=rightG (l.map (·.2)):=⟨_,rfl⟩
 rw[<- hb]
 have HL:Hid (b=wX 0 ((l.drop 0).map (·.2))/\l.length=n/\∀w',w.grownBy w' none->iZ w' B a l):=⟨hb,hl,fun w' hg=>hL.stay hg⟩
 clear hb hl hL
 go_enter Tryz.func21,Tryz.ntmps21
 go_wp2_with fail
 go_loopw [3,8] (fun last i wr=>∃(k:Nat) (z:Int),k<=n/\last=.int .i64 z/\i=.int .i64 k/\w.grownBy wr none/\b=wX z ((l.drop k).map (·.2))) (fun _ i _=>n-(intOf i).toNat)
 case atStart=>exact⟨0,0,by omega,rfl,rfl,ah _ _,HL.out.1⟩
 case round=>
  obtain⟨k,z,hk,rfl,rfl,hg,hb⟩:=hrel
  by_cases hlt:k<n
  .have hR:=HL.out.2.2 wr hg
   obtain⟨pb,po,rfl,hpb,hc⟩:=hR.at (by have:=HL.out.2.1;omega)
   obtain⟨c0,c1,c2⟩:=hc k (by have:=HL.out.2.1;omega)
   have hx:=hR.mem k (by have:=HL.out.2.1;omega)
   rw[Qj z l k (by have:=HL.out.2.1;omega)]at hb
   rw[hx.len,<- hx.str,jX]at hb
   have i0:(k:Int)<(n:Int):=by omega
   have hpw:pb≠wr.heap.size:=by omega
   have HI:=Lib.hid hg
   clear hg hR hc hx
   generalize (l.getD k g0).2.cl=gc at *
   generalize (l.getD k g0).1.a=ga at *
   generalize (l.getD k g0).1.n=gn at *
   generalize (l.getD k g0).1.c=gp at *
   generalize (l.getD k g0).1.s=gs at *
   unfold iV at c0
   by_cases h1:z<gc
   .have j1:¬gc<=z:=by omega
    by_cases h2:gc<=8
    .have j2:¬gc>8:=by omega
     by_cases h3:gn=32
     .have j3:(gn:Int)=32:=by omega
      by_cases h4:gs.size<=64
      .have j4:¬(gs.size:Int)>64:=by omega
       have hb2:b=wX gc ((l.drop (k+1)).map (·.2)):=by simpa[h1,h2,h3,h4] using hb
       have HB:=Lib.hid hb2
       clear hb hb2 h1 h2 h3 h4
       go_wp2
       go_roundw
       case rel=>exact⟨k+1,gc,by omega,rfl,by go_num,au HI.out _,HB.out⟩
       case measure=>simp[intOf];omega
      .have j4:(gs.size:Int)>64:=by omega
       have hb2:b=false:=by simpa[h4] using hb
       clear hb h1 h2 h3 h4
       subst hb2
       go_wp2
       go_ret
       exact⟨rfl,au HI.out _⟩
     .have j3:¬(gn:Int)=32:=by omega
      have hb2:b=false:=by simpa[h3] using hb
      clear hb h1 h2 h3
      subst hb2
      go_wp2
      go_ret
      exact⟨rfl,au HI.out _⟩
    .have j2:gc>8:=by omega
     have hb2:b=false:=by simpa[h2] using hb
     clear hb h1 h2
     subst hb2
     go_wp2
     go_ret
     exact⟨rfl,au HI.out _⟩
   .have j1:gc<=z:=by omega
    have hb2:b=false:=by simpa[h1] using hb
    clear hb h1
    subst hb2
    go_wp2
    go_ret
    exact⟨rfl,au HI.out _⟩
  .obtain rfl:k=n:=by omega
   have hb2:b=true:=by rw[hb,List.drop_eq_nil_of_le (by have:=HL.out.2.1;omega)];rfl
   clear hb
   subst hb2
   have HI:=Lib.hid hg;clear hg
   go_wp2
   go_ret
   exact⟨rfl,HI.out⟩
end Gr
end
section
open Wi Ve Rc
namespace Sb
end Sb
end
section
open Go.RowKit Ow Wi Ve Rc
namespace Sb
abbrev E:=L×R
abbrev e0:E:=(⟨⟨#[]⟩,none,0,0,none,0,0,none,0,0⟩,⟨[],0,0,[],false,[],[]⟩)
instance:Inhabited E:=⟨e0⟩
def recC (x:E):List Value:=x.1.cells x.2
def adO (x:E):Value:=x.1.v x.2
theorem UM (x:E):(recC x).length=7:=rfl
theorem aax (l:List E) (k:Nat) (h:k<l.length):l.drop k=l.getD k e0:: l.drop (k+1):=by
 rw[List.drop_eq_getElem_cons h,List.getD_eq_getElem?_getD,List.getElem?_eq_getElem h];rfl
structure qR (w:World) (B:Nat) (a:Option Addr) (l:List E):Prop where
 lim:B<=w.heap.size
 recs:∀x∈l,qm w B x.1 x.2
 cells:l.length=0\/∃pb po,a=some ⟨pb,po,none⟩/\pb<B/\∀i,i<l.length->∀j v,(recC (l.getD i e0))[j]?=some v->w.cell? ⟨pb,po+i*7+j,none⟩=some v
theorem qm.kept {w w':World} {B:Nat} {q:L} {r:R} (h:qm w B q r) {row:Option Nat} (hg:w.grownBy w' row) (hr:∀x,row=some x->B<=x):qm w' B q r:=
 ⟨h.str,h.l1,h.l2,h.l3,h.dots.kept hg hr,h.val.kept hg hr,h.sig.kept hg hr,h.top⟩
theorem qR.kept {w w':World} {B:Nat} {a:Option Addr} {l:List E} (h:qR w B a l) {row:Option Nat} (hg:w.grownBy w' row) (hr:∀x,row=some x->B<=x):qR w' B a l:=by
 refine⟨Nat.le_trans h.lim hg.size,fun x hx=>qm.kept (h.recs x hx) hg hr,?_⟩
 rcases h.cells with h0 |⟨pb,po,ha,hlt,hc⟩
 .exact Or.inl h0
 .exact Or.inr ⟨pb,po,ha,hlt,fun i hi j v hv=>by
   rw[aW hg (p:=⟨pb,po+i*7+j,none⟩) (Nat.lt_of_lt_of_le hlt h.lim) (fun e=>by have:=hr _ e.symm;simp at this;omega)]
   exact hc i hi j v hv⟩
theorem qR.stay {w w':World} {B:Nat} {a:Option Addr} {l:List E} (h:qR w B a l) (hg:w.grownBy w' none):qR w' B a l:=h.kept hg (fun r e=>by cases e)
theorem Jr (w:World) (B:Nat) (a:Option Addr) (h:B<=w.heap.size):qR w B a []:=⟨h,fun x hx=>(by cases hx),Or.inl rfl⟩
theorem xw {l:List E} {i:Nat} (h:i<l.length):l.getD i e0∈l:=by
 rw[List.getD_eq_getElem?_getD,List.getElem?_eq_getElem h];exact List.getElem_mem _
structure LJ (w:World) (pb o:Nat) (x:E):Prop where
 c0:w.cell? ⟨pb,o+0,none⟩=some (.string x.1.s)
 c1:w.cell? ⟨pb,o+1,none⟩=some (iV x.2.cl)
 c2:w.cell? ⟨pb,o+2,none⟩=some (iV x.2.sq)
 c3:w.cell? ⟨pb,o+3,none⟩=some (.slice x.1.a1 x.1.n1 x.1.c1)
 c4:w.cell? ⟨pb,o+4,none⟩=some (.bool x.2.gone)
 c5:w.cell? ⟨pb,o+5,none⟩=some (.slice x.1.a2 x.1.n2 x.1.c2)
 c6:w.cell? ⟨pb,o+6,none⟩=some (.slice x.1.a3 x.1.n3 x.1.c3)
theorem aay {w:World} {pb o:Nat} {x:E} (h:∀j v,(recC x)[j]?=some v->w.cell? ⟨pb,o+j,none⟩=some v):LJ w pb o x:=
 ⟨h 0 _ rfl,h 1 _ rfl,h 2 _ rfl,h 3 _ rfl,h 4 _ rfl,h 5 _ rfl,h 6 _ rfl⟩
theorem qR.at {w:World} {B:Nat} {a:Option Addr} {l:List E} (h:qR w B a l) (h0:0<l.length):∃pb po,a=some ⟨pb,po,none⟩/\pb<B/\∀i,i<l.length->LJ w pb (po+i*7) (l.getD i e0):=by
 obtain⟨pb,po,e,hl,hc⟩:=h.cells.resolve_left (by omega)
 exact⟨pb,po,e,hl,fun i hi=>aay (hc i hi)⟩
theorem Xy {w:World} {N:Nat} {T:TypeId} {x:E} (h:aG w N T (recC x)):∀j u,(recC x)[j]?=some u->w.cell? ⟨N,0+j,none⟩=some u:=fun j u hu=>by
 rw[Nat.zero_add];exact h.cell hu
end Sb
end
section
open Go.RowKit Ow Wi Ve Rc Sb
namespace Gr
theorem aaz (t:TypeId) (v:Value) (w:World):(Instr.typeAssert (.iface 29 v) t 29 true).run Tryz.prog w=.ok (.tuple #[v,.bool true]) w:=by kernel_rfl
theorem adP (t:TypeId) (w:World):(Instr.typeAssert .nilIface t 29 true).run Tryz.prog w=.ok (.tuple #[.int .i64 0,.bool false]) w:=by kernel_rfl
set_option maxRecDepth 100000 in
theorem NA (N:Nat) (x:Value) (c:Int) (older:List PanicEntry) (w:World) (hb:aG w N 29 [x]):
  CallsD Tryz.prog 34 #[.pointer (some ⟨N,0,none⟩)] (.panicking ({v:=.iface 29 (.int .i64 c),recovered:=false}:: older)) w fun e u' w'=>
   e=.returned (.tuple #[])/\u'=.panicking ({v:=.iface 29 (.int .i64 c),recovered:=true}:: older)/\w.grownBy w' (some N)/\aG w' N 29 [.int .i64 c]:=by
 have c0:=hb.cell (i:=0) rfl
 have f0:=hb.free 0
 refine callsD_of_wpS Tryz.func34 rfl fun c₀ cs hu=>?_
 apply wpS_seq
 apply wpS_region
 simp[wpOpsS,go_sem,recoverD,hu,aaz,Array.replicate,Tryz.ntmps34,Exit.thenS]
 refine wpS_of_wp ?_
 go_wp2
 exact⟨rfl,_,rfl,.tuple #[],results_none rfl _ _ _,rfl,rfl,aS (ah _ _) 0 _,hb.set 0 _⟩
set_option maxRecDepth 100000 in
theorem adQ (p:Addr) (w:World):
  CallsD Tryz.prog 34 #[.pointer (some p)] .returning w fun e u' w'=>e=.returned (.tuple #[])/\u'=.returning/\w'=w:=by
 refine callsD_of_wpS Tryz.func34 rfl fun c₀ cs hu=>?_
 apply wpS_seq
 apply wpS_region
 simp[wpOpsS,go_sem,recoverD,hu,adP,Array.replicate,Tryz.ntmps34,Exit.thenS]
 refine wpS_of_wp ?_
 go_wp2
 cases c₀
 simp_all[bodyPostS,results,Tryz.results34]
theorem UN:∀(fn:Fn) (first cap:Array Value) (w:World),(Instr.makeFunc fn first cap).run Tryz.prog w=.ok (.func fn first cap) w:=fun _ _ _ _=>rfl
theorem Qk (gs:List G) (l:List E) (k:Nat) (h:k<l.length):o9 gs ((l.drop k).map (·.2))=if mq gs (l.getD k e0).2=0 then o9 gs ((l.drop (k+1)).map (·.2)) else mq gs (l.getD k e0).2:=by
 rw[aax l k h];rfl
set_option maxHeartbeats 4000000 in
set_option maxRecDepth 100000 in
theorem LK (n cap Bg m mc:Nat) (a am:Option Addr) (l:List GE) (w:World) (hl:l.length=n) (hn:n<=1000000) (hL:iZ w Bg a l) (hg:rightG (l.map (·.2))=false):
  Calls Tryz.prog 20 #[.agg #[.slice a n cap],.slice am m mc] w fun e w'=>e=.returned (.int .i64 2)/\w.grownBy w' none:=by
 have HR:=Lib.hid (fun w' (hg:w.grownBy w' none)=>vD n cap Bg a l w' hl hn (hL.stay hg))
 rw[hg]at HR
 have HM:=Lib.hid (fun w=>xu 2 w)
 clear hl hL hg
 have hmf:=UN
 obtain⟨N,hN⟩:∃N,N=w.heap.size+1:=⟨_,rfl⟩
 obtain⟨W0,hW0⟩:∃W0,W0=(w.alloc (.cells #[.slice a n cap] 52)).alloc (.cells #[.int .i64 2] 29):=⟨_,rfl⟩
 have hG0:w.grownBy W0 none:=by rw[hW0];exact au (au (ah _ _) _) _
 have hB1:aG W0 N 29 [.int .i64 2]:=by rw[hW0,hN,<- World.size_alloc w (.cells #[.slice a n cap] 52)];exact aG.new _ _ _
 have iM:=Lib.hid (And.intro hG0 (And.intro hB1 (show w.heap.size<=N by omega)));clear hG0 hB1
 go_enter_defers Tryz.func20,Tryz.ntmps20
 go_wp2_with (fail)
 rw[<- hW0,<- hN]
 clear hW0 hN
 refine (HR.out _ iM.out.1).mono ?_
 rintro e w1 ⟨rfl,hg⟩
 have gU:=Lib.hid (And.intro (aj iM.out.1 hg) (And.intro (iM.out.2.1.grown hg (by simp)) iM.out.2.2));clear hg iM HR
 go_wp2_with fail
 refine (HM.out _).mono ?_
 rintro e w2 ⟨he,rfl⟩
 obtain rfl:=he
 refine leaves_cons (f:=34) (args:=#[.pointer (some ⟨N,0,none⟩)]) (by simp) (by simp[go_sem]) ?_
 refine (NA N _ 2 [] _ gU.out.2.1).mono ?_
 rintro e u' w'' ⟨rfl,rfl,hg3,hb3⟩
 have c1:=hb3.cell (i:=0) rfl
 simp[Leaves,settle,results,Tryz.results20,go_sem,loadVar,c1]
 exact aX gU.out.1 hg3 gU.out.2.2
set_option maxHeartbeats 4000000 in
set_option maxRecDepth 100000 in
theorem LM (n cap Bg m mc Bm:Nat) (a am:Option Addr) (l:List GE) (rs:List E) (w:World) (hO:kr w) (hT:dB w) (QI:Tables w) (hl:l.length=n) (hn:n<=1000000) (hL:iZ w Bg a l) (hm:rs.length=m) (hm2:m<=1000000) (hR:qR w Bm am rs) (hg:rightG (l.map (·.2))=true):
  Calls Tryz.prog 20 #[.agg #[.slice a n cap],.slice am m mc] w fun e w'=>e=.returned (.int .i64 (o9 (l.map (·.2)) (rs.map (·.2))))/\w.grownBy w' none:=by
 have HR:=Lib.hid (fun w' (hg:w.grownBy w' none)=>vD n cap Bg a l w' hl hn (hL.stay hg))
 rw[hg]at HR
 have HP:Hid (∀(w':World) (x:E),w.grownBy w' none->x∈rs->Calls Tryz.prog 36 #[.agg #[.slice a n cap],adO x] w' (uf w' (mq (l.map (·.2)) x.2))):=fun w' x hg hx=>
  UL n cap Bg a l x.2 Bm w' x.1 (hO.kept hg (fun b e=>by cases e)) (hT.grown hg) (QI.kept hg (fun b e=>by cases e)) ((hR.recs x hx).stay hg) hl hn (hL.stay hg)
 have HY:=Lib.hid tZ
 have HL:Hid (rs.length=m/\∀w',w.grownBy w' none->qR w' Bm am rs):=⟨hm,fun w' hg=>hR.stay hg⟩
 obtain⟨gs,hgs⟩:∃gs,gs=l.map (·.2):=⟨_,rfl⟩
 rw[<- hgs]at HP ⊢
 clear hl hL hg hO hT QI hm hR hgs
 obtain⟨X,hX⟩:∃X,X=o9 gs (rs.map (·.2)):=⟨_,rfl⟩
 rw[<- hX]
 have HX:Hid (X=o9 gs ((rs.drop 0).map (·.2))):=hX
 clear hX
 have hmf:=UN
 obtain⟨N,hN⟩:∃N,N=w.heap.size+1:=⟨_,rfl⟩
 obtain⟨D,hD⟩:∃D,D=w.heap.size:=⟨_,rfl⟩
 obtain⟨W0,hW0⟩:∃W0,W0=(w.alloc (.cells #[.slice a n cap] 52)).alloc (.cells #[.int .i64 2] 29):=⟨_,rfl⟩
 have hG0:w.grownBy W0 none:=by rw[hW0];exact au (au (ah _ _) _) _
 have hB0:aG W0 D 52 [.slice a n cap]:=by rw[hW0,hD];exact (aG.new _ [.slice a n cap] _).alloc _
 have hB1:aG W0 N 29 [.int .i64 2]:=by rw[hW0,hN,<- World.size_alloc w (.cells #[.slice a n cap] 52)];exact aG.new _ _ _
 have iM:=Lib.hid (And.intro hG0 (And.intro hB0 (And.intro hB1 (show w.heap.size<=N by omega))));clear hG0 hB0 hB1
 go_enter_defers Tryz.func20,Tryz.ntmps20
 go_wp2_with (fail)
 rw[<- hW0,<- hN,<- hD]
 clear hW0 hN hD
 refine (HR.out _ iM.out.1).mono ?_
 rintro e w1 ⟨rfl,hg⟩
 have gU:=Lib.hid (And.intro (aj iM.out.1 hg) (And.intro (iM.out.2.1.grown hg (by simp)) (And.intro (iM.out.2.2.1.grown hg (by simp)) iM.out.2.2.2)));clear hg iM HR
 go_wp2_with fail
 refine (HY.out 2 _).mono ?_
 rintro e w2 ⟨rfl,rfl⟩
 go_wp2_with fail
 go_loopw [14] (fun i wr=>∃(k:Nat),k<=m/\i=.int .i64 k/\Hid (w.grownBy wr none/\aG wr D 52 [.slice a n cap]/\aG wr N 29 [.int .i64 2]/\w.heap.size<=N/\X=o9 gs ((rs.drop k).map (·.2)))) (fun i _=>m-(intOf i).toNat)
 case atStart=>exact⟨0,by omega,rfl,gU.out.1,gU.out.2.1,gU.out.2.2.1,gU.out.2.2.2,HX.out⟩
 case round=>
  obtain⟨k,hk,rfl,HI⟩:=hrel
  by_cases hlt:k<m
  .obtain⟨pb,po,rfl,hpb,hcs⟩:=(HL.out.2 _ HI.out.1).at (by rw[HL.out.1];omega)
   have hx:=hcs k (by rw[HL.out.1];exact hlt)
   have HT:Hid (X=if mq gs (rs.getD k e0).2=0 then o9 gs ((rs.drop (k+1)).map (·.2)) else mq gs (rs.getD k e0).2):=by
    rw[HI.out.2.2.2.2];exact Qk gs rs k (by rw[HL.out.1];exact hlt)
   have hpk:=fun w' hg=>HP.out w' (rs.getD k e0) hg (Sb.xw (by rw[HL.out.1];exact hlt))
   generalize rs.getD k e0=x at *
   obtain⟨y,hy⟩:∃y,y=mq gs x.2:=⟨_,rfl⟩
   rw[<- hy]at HT
   rw[<- hy]at hpk
   clear hy
   obtain⟨⟨s,a1,n1,c1',a2,n2,c2',a3,n3,c3'⟩,⟨key,cl,sq,cx,g,val,sig⟩⟩:=x
   obtain⟨c0,c1,c2,c3,c4,c5,c6⟩:wr.cell? ⟨pb,po+k*7,none⟩=some (.string s)/\wr.cell? ⟨pb,po+k*7+1,none⟩=some (iV cl)/\wr.cell? ⟨pb,po+k*7+2,none⟩=some (iV sq)/\wr.cell? ⟨pb,po+k*7+3,none⟩=some (.slice a1 n1 c1')/\wr.cell? ⟨pb,po+k*7+4,none⟩=some (.bool g)/\wr.cell? ⟨pb,po+k*7+5,none⟩=some (.slice a2 n2 c2')/\wr.cell? ⟨pb,po+k*7+6,none⟩=some (.slice a3 n3 c3'):=⟨hx.c0,hx.c1,hx.c2,hx.c3,hx.c4,hx.c5,hx.c6⟩
   unfold iV at c1 c2
   have HK:Hid (∀w',w.grownBy w' none->Calls Tryz.prog 36 #[.agg #[.slice a n cap],vV s cl sq a1 n1 c1' g a2 n2 c2' a3 n3 c3'] w' (uf w' y)):=hpk
   clear hpk hx hcs
   have hi:(k:Int)<(m:Int):=by omega
   obtain⟨W1,hW1⟩:∃W1,W1=wr.alloc (.cells #[.string s,.int .i64 cl,.int .i64 sq,.slice a1 n1 c1',.bool g,.slice a2 n2 c2',.slice a3 n3 c3'] 34):=⟨_,rfl⟩
   have hd:aG W1 D 52 [.slice a n cap]:=by rw[hW1];exact HI.out.2.1.alloc _
   have HJ:Hid (w.grownBy W1 none/\aG W1 D 52 [.slice a n cap]/\aG W1 N 29 [.int .i64 2]/\w.heap.size<=N):=by
    rw[hW1];exact⟨au HI.out.1 _,HI.out.2.1.alloc _,HI.out.2.2.1.alloc _,HI.out.2.2.2.1⟩
   have hr:aG W1 wr.heap.size 34 [.string s,.int .i64 cl,.int .i64 sq,.slice a1 n1 c1',.bool g,.slice a2 n2 c2',.slice a3 n3 c3']:=by rw[hW1];exact aG.new _ _ _
   clear HI
   go_upto_region 7 with fail
   rw[<- hW1]
   clear hW1 c0 c1 c2 c3 c4 c5 c6
   have d0:=hd.cell (i:=0) rfl
   have r0:=hr.cell (i:=0) rfl
   have r1:=hr.cell (i:=1) rfl
   have r2:=hr.cell (i:=2) rfl
   have r3:=hr.cell (i:=3) rfl
   have r4:=hr.cell (i:=4) rfl
   have r5:=hr.cell (i:=5) rfl
   have r6:=hr.cell (i:=6) rfl
   clear hd hr
   go_wp2_with fail
   clear d0 r0 r1 r2 r3 r4 r5 r6
   refine (HK.out _ HJ.out.1).mono ?_
   rintro e w3 ⟨hg,hc⟩
   have oU:=Lib.hid (And.intro (aj HJ.out.1 hg) (And.intro (HJ.out.2.1.grown hg (by simp)) (And.intro (HJ.out.2.2.1.grown hg (by simp)) HJ.out.2.2.2)));clear hg HJ HK
   rcases hc with⟨rfl,rfl⟩ |⟨hy,he⟩
   .have HT2:Hid (X=o9 gs ((rs.drop (k+1)).map (·.2))):=by have:=HT.out;rwa [if_pos rfl]at this
    go_wp2
    go_roundw
    case rel=>exact⟨k+1,by omega,by go_num,oU.out.1,oU.out.2.1,oU.out.2.2.1,oU.out.2.2.2,HT2.out⟩
    case measure=>simp[intOf];omega
   .obtain rfl:=he
    have hX:X=y:=by have:=HT.out;rwa [if_neg hy]at this
    subst hX
    refine leaves_cons (f:=34) (args:=#[.pointer (some ⟨N,0,none⟩)]) (by simp) (by simp[go_sem]) ?_
    refine (NA N _ X [] _ oU.out.2.2.1).mono ?_
    rintro e u' w'' ⟨rfl,rfl,hg3,hb3⟩
    have c1:=hb3.cell (i:=0) rfl
    simp[Leaves,settle,results,Tryz.results20,go_sem,loadVar,c1]
    exact aX oU.out.1 hg3 oU.out.2.2.2
  .obtain rfl:k=m:=by omega
   have hX:X=0:=by rw[HI.out.2.2.2.2,List.drop_eq_nil_of_le (by rw[HL.out.1];omega)];rfl
   have c0:=HI.out.2.2.1.cell (i:=0) rfl
   have f0:=HI.out.2.2.1.free 0
   have HB:=Lib.hid (HI.out.2.2.1.set 0 (.int .i64 0))
   subst hX
   go_wp2_with (fail)
   refine leaves_cons (f:=34) (args:=#[.pointer (some ⟨N,0,none⟩)]) (by simp) (by simp[go_sem]) ?_
   refine (adQ _ _).mono ?_
   rintro e u' w'' ⟨rfl,rfl,rfl⟩
   have c1:=HB.out.cell (i:=0) rfl
   simp[Leaves,settle,results,Tryz.results20,go_sem,loadVar,c1]
   exact aX HI.out.1 (aS (ah _ (some N)) 0 (.int .i64 0)) HI.out.2.2.2.1
theorem UO (n cap Bg m mc Bm:Nat) (a am:Option Addr) (l:List GE) (rs:List E) (w:World) (hO:kr w) (hT:dB w) (QI:Tables w) (hl:l.length=n) (hn:n<=1000000) (hL:iZ w Bg a l) (hm:rs.length=m) (hm2:m<=1000000) (hR:qR w Bm am rs):
  Calls Tryz.prog 20 #[.agg #[.slice a n cap],.slice am m mc] w fun e w'=>e=.returned (.int .i64 (kX (l.map (·.2)) (rs.map (·.2))))/\w.grownBy w' none:=by
 unfold kX
 cases hg:rightG (l.map (·.2)) with
 | false=>exact LK n cap Bg m mc a am l w hl hn hL hg
 | true=>exact LM n cap Bg m mc Bm a am l rs w hO hT QI hl hn hL hm hm2 hR hg
theorem xA (n cap Bg m mc Bm:Nat) (a am:Option Addr) (l:List GE) (rs:List E) (w:World) (hO:kr w) (hT:dB w) (QI:Tables w) (hl:l.length=n) (hn:n<=1000000) (hL:iZ w Bg a l) (hm:rs.length=m) (hm2:m<=1000000) (hR:qR w Bm am rs):
  Calls Tryz.prog 7 #[.slice a n cap,.slice am m mc] w fun e w'=>e=.returned (.int .i64 (kX (l.map (·.2)) (rs.map (·.2))))/\w.grownBy w' none:=by
 have HK:=Lib.hid (UO n cap Bg m mc Bm a am l rs w hO hT QI hl hn hL hm hm2 hR)
 generalize kX (l.map (·.2)) (rs.map (·.2))=x at *
 clear hO hT QI hl hL hm hR
 go_enter Tryz.func7,Tryz.ntmps7
 go_wp2_with fail
 refine HK.out.mono ?_
 rintro e w1 ⟨rfl,hg⟩
 have HG:=Lib.hid hg;clear hg
 go_wp2
 go_ret
 exact⟨rfl,HG.out⟩
theorem BS (n cap B:Nat) (a:Option Addr) (l:List GE) (w:World) (hl:l.length=n) (hn:n<=1000000) (hL:iZ w B a l):
  Calls Tryz.prog 8 #[.slice a n cap] w fun e w'=>e=.returned (.bool (rightG (l.map (·.2))))/\w.grownBy w' none:=by
 have HK:=Lib.hid (vD n cap B a l w hl hn hL)
 generalize rightG (l.map (·.2))=x at *
 clear hl hL
 go_enter Tryz.func8,Tryz.ntmps8
 go_wp2_with fail
 refine HK.out.mono ?_
 rintro e w1 ⟨rfl,hg⟩
 have HG:=Lib.hid hg;clear hg
 go_wp2
 go_ret
 exact⟨rfl,HG.out⟩
end Gr
end
section
open Go.RowKit Ow
set_option maxHeartbeats 2000000 in
theorem DR (B n cap:Nat) (a:Option Addr) (l:List Nat) (w:World) (hl:l.length=n) (hn:n<=1000000) (hP:BytesAt w B a cap l):
  Calls Tryz.prog 33 #[.slice a n cap] w fun e w'=>∃v,e=.returned v/\w.grownBy w' none/\w'.ownsRow w.heap.size 5 1 v n (l.map dD):=by
 obtain⟨v2,w2,hr2,ho2,hg2⟩:=mV w w.heap.size 0 B cap n (.slice none 0 0) [] a l (World.ownsRow_nil w _ 5 1) hl hP (by omega) (Nat.le_refl _)
 rw[Nat.zero_add,List.nil_append]at ho2
 have HS:=Lib.hid (And.intro ho2 hg2);clear ho2 hg2
 have HR:=Lib.hid hr2;clear hr2
 go_enter Tryz.func33,Tryz.ntmps33
 go_upto_region 2 with (fail)
 refine wp_region_lit ?_
 refine Fg.aL (v:=.slice none 0 0) (w':=w) rfl (Fg.run_move rfl rfl) ?_
 refine Fg.aL (v:=.slice a n cap) (w':=w) rfl (Fg.run_move rfl rfl) ?_
 refine wpList_append_run rfl (.tmp 4) (.tmp 5) 24 rfl rfl _ _ rfl rfl _ _ HR.out ?_
 refine Fg.aL (v:=v2) (w':=w2) rfl (Fg.run_assign rfl rfl) ?_
 refine wpList_nil ?_
 simp only[Act.put,List.setIfInBounds_toArray,List.set_cons_succ,List.set_cons_zero]
 go_wp2
 go_ret
 exact⟨v2,rfl,HS.out.2,HS.out.1⟩
end
section
open Go.RowKit Ow Wi Ve
namespace Rc
set_option maxHeartbeats 2000000 in
theorem Ql (B n cap:Nat) (a:Option Addr) (l:List D) (w:World) (hl:l.length=n) (hn:n<=1000000) (hP:eY w B a l):
  Calls Tryz.prog 32 #[.slice a n cap] w fun e w'=>∃v,e=.returned v/\w.grownBy w' none/\mD w' w.heap.size v n l:=by
 obtain⟨v2,w2,hr2,ho2,hg2⟩:∃v' w',(Builtin.append_ #[32,32] 32 #[.slice none 0 0,.slice a n cap]).run Tryz.prog w=.ok v' w'/\mD w' w.heap.size v' n l/\w.grownBy w' none:=by
  have hown:mD w w.heap.size (.slice none 0 0) 0 []:=World.ownsRow_nil w _ 59 2
  cases a with
  | none=>
   obtain rfl:l=[]:=by
    rcases hP.cells with h |⟨_,_,h,_⟩
    .exact List.eq_nil_of_length_eq_zero h
    .cases h
   obtain rfl:n=0:=hl.symm
   exact⟨_,w,Fh w w.heap.size 0 cap _ _ hown,hown,ah _ _⟩
  | some ad=>
   obtain⟨v',w',h1,h2,h3⟩:=y9 w w.heap.size B (.slice none 0 0) 0 [] (some ad) n cap l hown hl hP (fun e=>by cases e) (by omega) (Nat.le_refl _)
   rw[Nat.zero_add,List.nil_append]at h2
   exact⟨v',w',h1,h2,h3⟩
 have HS:=Lib.hid (And.intro ho2 hg2);clear ho2 hg2
 have HR:=Lib.hid hr2;clear hr2
 go_enter Tryz.func32,Tryz.ntmps32
 go_upto_region 2 with (fail)
 refine wp_region_lit ?_
 refine Fg.aL (v:=.slice none 0 0) (w':=w) rfl (Fg.run_move rfl rfl) ?_
 refine Fg.aL (v:=.slice a n cap) (w':=w) rfl (Fg.run_move rfl rfl) ?_
 refine Lib.wpList_append_run _ rfl _ _ _ _ rfl _ _ rfl rfl _ _ HR.out ?_
 refine Fg.aL (v:=v2) (w':=w2) rfl (Fg.run_assign rfl rfl) ?_
 refine wpList_nil ?_
 simp only[Act.put,List.setIfInBounds_toArray,List.set_cons_succ,List.set_cons_zero]
 go_wp2
 go_ret
 exact⟨v2,rfl,HS.out.2,HS.out.1⟩
set_option maxHeartbeats 4000000 in
theorem Js (r:R) (B:Nat) (w:World) (q:L) (h:qm w B q r) (hs:q.n1<=1000000/\q.n2<=1000000/\q.n3<=1000000):Calls Tryz.prog 17 #[q.v r] w (Ux w r):=by
 have HD:=Lib.hid (fun w' (hg:w.grownBy w' none)=>Ql B q.n1 q.c1 q.a1 r.cx w' h.l1 hs.1 (h.dots.stay hg))
 have HV:=Lib.hid (fun w' (hg:w.grownBy w' none)=>DR B q.n2 q.c2 q.a2 r.val w' h.l2 hs.2.1 (h.val.stay hg))
 have HS:=Lib.hid (fun w' (hg:w.grownBy w' none)=>DR B q.n3 q.c3 q.a3 r.sig w' h.l3 hs.2.2 (h.sig.stay hg))
 have HK:=Lib.hid (And.intro h.str (And.intro h.val.byte (And.intro h.sig.byte h.top)))
 obtain⟨Q,hQ⟩:∃Q,Q=Ux w r:=⟨_,rfl⟩
 rw[<- hQ]
 have HQ:=Lib.hid hQ;clear hQ h hs
 obtain⟨s,a1,n1,c1,a2,n2,c2,a3,n3,c3⟩:=q
 obtain⟨key,cl,sq,cx,g,val,sig⟩:=r
 show Calls _ _ #[.agg #[.string s,iV cl,iV sq,.slice a1 n1 c1,.bool g,.slice a2 n2 c2,.slice a3 n3 c3]] w _
 simp only at HD HV HS HK
 obtain⟨N,hN⟩:∃N,N=w.heap.size:=⟨_,rfl⟩
 obtain⟨M,hM⟩:∃M,M=w.heap.size+1:=⟨_,rfl⟩
 obtain⟨W0,hW0⟩:∃W0,W0=(w.alloc (.cells #[.string s,iV cl,iV sq,.slice a1 n1 c1,.bool g,.slice a2 n2 c2,.slice a3 n3 c3] 34)).alloc (.cells z7.toArray 34):=⟨_,rfl⟩
 have HG:Hid (aG W0 N 34 [.string s,iV cl,iV sq,.slice a1 n1 c1,.bool g,.slice a2 n2 c2,.slice a3 n3 c3]/\aG W0 M 34 z7/\w.grownBy W0 none):=by
  refine⟨?_,?_,?_⟩
  .rw[hW0,hN];exact (aG.new _ _ _).alloc _
  .rw[hW0,hM,<- World.size_alloc];exact aG.new _ _ _
  .rw[hW0];exact au (au (ah _ _) _) _
 have HNM:Hid (w.heap.size<=N/\w.heap.size<=M/\N≠M):=⟨by omega,by omega,by omega⟩
 have x3:=HG.out.1.cell (i:=3) rfl
 have f3:=HG.out.1.free 3
 go_enter Tryz.func17,Tryz.ntmps17
 go_wp2_with fail
 rw[show (w.alloc (.cells #[.string s,iV cl,iV sq,.slice a1 n1 c1,.bool g,.slice a2 n2 c2,.slice a3 n3 c3] 34)).alloc (.cells #[.string ⟨#[]⟩,iV 0,iV 0,.slice none 0 0,.bool false,.slice none 0 0,.slice none 0 0] 34)=W0 from hW0.symm,<- hM,<- hN]
 clear hW0 hN hM
 refine (HD.out W0 HG.out.2.2).mono ?_
 rintro e w1 ⟨v1,rfl,hg,ho⟩
 obtain⟨b1,d1,rfl⟩:=BO ho
 have gU:Hid ((aG w1 N 34 [.string s,iV cl,iV sq,.slice a1 n1 c1,.bool g,.slice a2 n2 c2,.slice a3 n3 c3]/\aG w1 M 34 z7/\w.grownBy w1 none)/\mD w1 w.heap.size (.slice b1 n1 d1) n1 cx):=⟨⟨HG.out.1.grown hg (by simp),HG.out.2.1.grown hg (by simp),aj HG.out.2.2 hg⟩,jL ho HG.out.2.2.size⟩
 clear hg ho HG x3 f3
 have x3:=gU.out.1.1.cell (i:=3) rfl
 have f3:=gU.out.1.1.free 3
 have x5:=gU.out.1.1.cell (i:=5) rfl
 go_wp2_with fail
 have HG2:Hid ((aG (w1.setCell ⟨N,3,none⟩ (.slice b1 n1 d1)) N 34 [.string s,iV cl,iV sq,.slice b1 n1 d1,.bool g,.slice a2 n2 c2,.slice a3 n3 c3]/\aG (w1.setCell ⟨N,3,none⟩ (.slice b1 n1 d1)) M 34 z7/\w.grownBy (w1.setCell ⟨N,3,none⟩ (.slice b1 n1 d1)) none)/\mD (w1.setCell ⟨N,3,none⟩ (.slice b1 n1 d1)) w.heap.size (.slice b1 n1 d1) n1 cx):=
  ⟨⟨gU.out.1.1.set 3 _,gU.out.1.2.1.other (a:=⟨N,3,none⟩) HNM.out.2.2 _,aJ gU.out.1.2.2 (p:=⟨N,3,none⟩) HNM.out.1 _⟩,cO gU.out.2 gU.out.1.1 (by decide) (aS (ah w1 (some N)) 3 _)⟩
 clear gU x3 f3 x5
 generalize w1.setCell ⟨N,3,none⟩ (.slice b1 n1 d1)=w2 at *
 refine (HV.out w2 HG2.out.1.2.2).mono ?_
 rintro e w3 ⟨v3,rfl,hg,ho⟩
 obtain⟨b2,d2,rfl⟩:=sU ho
 have oU:Hid ((aG w3 N 34 [.string s,iV cl,iV sq,.slice b1 n1 d1,.bool g,.slice a2 n2 c2,.slice a3 n3 c3]/\aG w3 M 34 z7/\w.grownBy w3 none)/\mD w3 w.heap.size (.slice b1 n1 d1) n1 cx/\w3.ownsRow w.heap.size 5 1 (.slice b2 n2 d2) n2 (val.map dD)):=
  ⟨⟨HG2.out.1.1.grown hg (by simp),HG2.out.1.2.1.grown hg (by simp),aj HG2.out.1.2.2 hg⟩,HG2.out.2.kept hg (by cases (Value.slice b1 n1 d1).ownBlock<;>simp),jL ho HG2.out.1.2.2.size⟩
 clear hg ho HG2
 have x5:=oU.out.1.1.cell (i:=5) rfl
 have f5:=oU.out.1.1.free 5
 have x6:=oU.out.1.1.cell (i:=6) rfl
 go_wp2_with fail
 have hgs:=aS (ah w3 (some N)) 5 (.slice b2 n2 d2)
 have CF:Hid ((aG (w3.setCell ⟨N,5,none⟩ (.slice b2 n2 d2)) N 34 [.string s,iV cl,iV sq,.slice b1 n1 d1,.bool g,.slice b2 n2 d2,.slice a3 n3 c3]/\aG (w3.setCell ⟨N,5,none⟩ (.slice b2 n2 d2)) M 34 z7/\w.grownBy (w3.setCell ⟨N,5,none⟩ (.slice b2 n2 d2)) none)/\mD (w3.setCell ⟨N,5,none⟩ (.slice b2 n2 d2)) w.heap.size (.slice b1 n1 d1) n1 cx/\(w3.setCell ⟨N,5,none⟩ (.slice b2 n2 d2)).ownsRow w.heap.size 5 1 (.slice b2 n2 d2) n2 (val.map dD)):=
  ⟨⟨oU.out.1.1.set 5 _,oU.out.1.2.1.other (a:=⟨N,5,none⟩) HNM.out.2.2 _,aJ oU.out.1.2.2 (p:=⟨N,5,none⟩) HNM.out.1 _⟩,cO oU.out.2.1 oU.out.1.1 (by decide) hgs,cO oU.out.2.2 oU.out.1.1 (by decide) hgs⟩
 clear oU x5 f5 x6 hgs
 generalize w3.setCell ⟨N,5,none⟩ (.slice b2 n2 d2)=w4 at *
 refine (HS.out w4 CF.out.1.2.2).mono ?_
 rintro e w5 ⟨v5,rfl,hg,ho⟩
 obtain⟨b3,d3,rfl⟩:=sU ho
 have uY:Hid ((aG w5 N 34 [.string s,iV cl,iV sq,.slice b1 n1 d1,.bool g,.slice b2 n2 d2,.slice a3 n3 c3]/\aG w5 M 34 z7/\w.grownBy w5 none)/\mD w5 w.heap.size (.slice b1 n1 d1) n1 cx/\w5.ownsRow w.heap.size 5 1 (.slice b2 n2 d2) n2 (val.map dD)/\w5.ownsRow w.heap.size 5 1 (.slice b3 n3 d3) n3 (sig.map dD)):=
  ⟨⟨CF.out.1.1.grown hg (by simp),CF.out.1.2.1.grown hg (by simp),aj CF.out.1.2.2 hg⟩,CF.out.2.1.kept hg (by cases (Value.slice b1 n1 d1).ownBlock<;>simp),rG CF.out.2.2 hg,jL ho CF.out.1.2.2.size⟩
 clear hg ho CF
 have x0:=uY.out.1.1.cell (i:=0) rfl
 have y0:=uY.out.1.2.1.cell (i:=0) rfl
 have g0:=uY.out.1.2.1.free 0
 have x1:=uY.out.1.1.cell (i:=1) rfl
 have y1:=uY.out.1.2.1.cell (i:=1) rfl
 have g1:=uY.out.1.2.1.free 1
 have x2:=uY.out.1.1.cell (i:=2) rfl
 have y2:=uY.out.1.2.1.cell (i:=2) rfl
 have g2:=uY.out.1.2.1.free 2
 have x3:=uY.out.1.1.cell (i:=3) rfl
 have y3:=uY.out.1.2.1.cell (i:=3) rfl
 have g3:=uY.out.1.2.1.free 3
 have x4:=uY.out.1.1.cell (i:=4) rfl
 have y4:=uY.out.1.2.1.cell (i:=4) rfl
 have g4:=uY.out.1.2.1.free 4
 have x5:=uY.out.1.1.cell (i:=5) rfl
 have y5:=uY.out.1.2.1.cell (i:=5) rfl
 have g5:=uY.out.1.2.1.free 5
 have x6:=uY.out.1.1.cell (i:=6) rfl
 have y6:=uY.out.1.2.1.cell (i:=6) rfl
 have g6:=uY.out.1.2.1.free 6
 have f6:=uY.out.1.1.free 6
 have hNM:=HNM.out.2.2
 have hMN:M≠N:=fun e=>hNM e.symm
 go_wp2_with fail
 obtain⟨⟨hb,hm,hg⟩,h1,h2,h3⟩:=uY.out
 have hgs:=aS (ah w5 (some N)) 6 (.slice b3 n3 d3)
 have k1:=cO h1 hb (by decide) hgs
 have k2:=cO h2 hb (by decide) hgs
 have k3:=cO h3 hb (by decide) hgs
 have km:=hm.other (a:=⟨N,6,none⟩) hNM (.slice b3 n3 d3)
 have kg:=aJ hg (p:=⟨N,6,none⟩) HNM.out.1 (.slice b3 n3 d3)
 generalize w5.setCell ⟨N,6,none⟩ (.slice b3 n3 d3)=w6 at *
 have QG:=aS (aS (aS (aS (aS (aS (aS (ah w6 (some M)) 0 (.string s)) 1 (.int .i64 cl)) 2 (.int .i64 sq)) 3 (.slice b1 n1 d1)) 4 (.bool g)) 5 (.slice b2 n2 d2)) 6 (.slice b3 n3 d3)
 have JH:=((((((km.set 0 (.string s)).set 1 (.int .i64 cl)).set 2 (.int .i64 sq)).set 3 (.slice b1 n1 d1)).set 4 (.bool g)).set 5 (.slice b2 n2 d2)).set 6 (.slice b3 n3 d3)
 refine bodyPost_ret (v:=.agg #[.string s,.int .i64 cl,.int .i64 sq,.slice b1 n1 d1,.bool g,.slice b2 n2 d2,.slice b3 n3 d3]) (results_cell_row Tryz.results17 _ _ M 34 _ (0,0) _ rfl JH Tryz.underlying34 rfl yx) rfl ?_
 rw[HQ.out]
 exact⟨⟨s,b1,n1,d1,b2,n2,d2,b3,n3,d3⟩,rfl,aX kg QG HNM.out.2.1,HK.out.1,cO k1 km (by decide) QG,cO k2 km (by decide) QG,cO k3 km (by decide) QG,HK.out.2.1,HK.out.2.2.1,HK.out.2.2.2⟩
end Rc
end
section
open Go.RowKit Ow
theorem Xz {w:World} {base e n g c:Nat} {xs:List Value} (h:w.ownsRow base e 1 (.slice (some ⟨g,0,none⟩) n c) n xs):∃tl,aG w g e (xs++tl)/\base<=g/\n<=c/\c<9223372036854775808:=by
 rcases h.2 with⟨h0,_⟩ |⟨g',c',cur,e1,hb,hg,hnc,hcm,hs,ht⟩
 .cases h0
 .cases e1
  refine⟨cur.toList.drop xs.length,?_,hb,hnc,by unfold maxLen at hcm;omega⟩
  have hl:xs.length=n:=by have:=h.1;omega
  have e:xs++cur.toList.drop xs.length=cur.toList:=by
   have h2:=List.take_append_drop n cur.toList
   rw[hl]
   rw[show cur.toList.take n=xs by simpa using ht]at h2
   exact h2
  rw[e]
  unfold aG
  rw[hg]
end
section
open Go.RowKit Ow Wi Ve Rc Ed Sb
namespace Gr
theorem BU {w:World} {N:Nat} {T:TypeId} {x:E} (hb:aG w N T (recC x)) (hr:qm w w.heap.size x.1 x.2):qR w w.heap.size (some ⟨N,0,none⟩) [x]:=
 ⟨Nat.le_refl _,fun y hy=>by obtain rfl:=List.mem_singleton.1 hy;exact hr,Or.inr ⟨N,0,rfl,hb.lt,fun i hi j v hv=>by
  obtain rfl:i=0:=by simpa using hi
  rw[Nat.zero_mul]
  exact Xy hb j v hv⟩⟩
theorem Qm {w:World} {base n c:Nat} {a:Option Addr} {xs:List Value} (h:w.ownsRow base 5 1 (.slice a n c) n xs) (hn:0<n):∃g c',Value.slice a n c=.slice (some ⟨g,0,none⟩) n c':=by
 rcases h.2 with⟨_,h0⟩ |⟨g,c',_,e,_⟩
 .omega
 .exact⟨g,c',e⟩
theorem Br (c:List Nat) (k x:Nat) (hc:∀i,c.getD i 0<256) (hx:x<256) (j:Nat):(c.set k x).getD j 0<256:=by
 rw[List.getD_eq_getElem?_getD,List.getElem?_set]
 split
 .split
  .exact hx
  .decide
 .have:=hc j
  rwa [List.getD_eq_getElem?_getD]at this
abbrev sx:ByteArray:=⟨#[97,47,120]⟩
abbrev sb:ByteArray:=⟨#[98]⟩
abbrev sp:ByteArray:=⟨#[97,47]⟩
set_option maxHeartbeats 8000000 in
set_option maxRecDepth 100000 in
theorem Jt (w:World) (hO:kr w) (hT:dB w) (hS:Tables w):Calls Tryz.prog 5 #[] w fun e w'=>e=.returned (.bool true)/\w.grownBy w' none:=by
 have HO:Hid (∀w',w.grownBy w' none->kr w'):=fun w' hg=>hO.kept hg (fun b e=>by cases e)
 have HT:Hid (∀w',w.grownBy w' none->dB w'):=fun w' hg=>hT.grown hg
 have HS:Hid (∀w',w.grownBy w' none->Tables w'):=fun w' hg=>hS.kept hg (fun b e=>by cases e)
 clear hO hT hS
 go_enter Tryz.func5,Tryz.ntmps5
 go_wp2_with fail
 have g0:=au (ah w none) (.cells #[.string sp] 9)
 have hc0:=(aG.new w [.string sp] 9).cell (i:=0) rfl
 refine (LD [sp] 1 1 w.heap.size 0 _ (HT.out _ g0) (HS.out _ g0) rfl (by decide) (by simp) (fun i hi=>by obtain rfl:i=0:=(by omega);exact hc0)).mono ?_
 rintro e w1 ⟨v,l,rfl,hg,hog,hpb,hgl⟩
 obtain⟨av,cv,rfl,hgr⟩:=UH hog hpb
 have hll:l.length=1:=by have:=congrArg List.length hgl;simpa[pE] using this
 have H1:=Lib.hid (And.intro (aj g0 hg) (And.intro hgr (And.intro hll hgl)));clear g0 hg hog hpb hgr hgl
 rw[hll]
 clear hll
 have H1s:=Lib.hid H1.out.1.size
 go_wp2_with fail
 refine (vC sx 1 w1 (HO.out _ H1.out.1) (HT.out _ H1.out.1) (HS.out _ H1.out.1) (by decide) (by decide +kernel)).mono ?_
 rintro e w2 ⟨⟨s,a1,n1,c1,a2,n2,c2,a3,n3,c3⟩,he,hg,ho⟩
 have he':e=.returned (vV s 1 1 a1 n1 c1 false a2 n2 c2 a3 n3 c3):=he
 subst he'
 clear he
 obtain⟨W2,hW2⟩:∃W2,W2=w2.alloc (.cells #[.string s,.int .i64 1,.int .i64 1,.slice a1 n1 c1,.bool false,.slice a2 n2 c2,.slice a3 n3 c3] 34):=⟨_,rfl⟩
 have ga:=au (ah w2 none) (.cells #[.string s,.int .i64 1,.int .i64 1,.slice a1 n1 c1,.bool false,.slice a2 n2 c2,.slice a3 n3 c3] 34)
 rw[<- hW2]at ga
 have bR:aG W2 w2.heap.size 34 [.string s,.int .i64 1,.int .i64 1,.slice a1 n1 c1,.bool false,.slice a2 n2 c2,.slice a3 n3 c3]:=by rw[hW2];exact aG.new _ _ _
 have hr:qm W2 W2.heap.size ⟨s,a1,n1,c1,a2,n2,c2,a3,n3,c3⟩ (iB kx 1):=(ho.at.stay ga).full
 have H2:=Lib.hid (And.intro (aj (aj H1.out.1 hg) ga) (And.intro (H1.out.2.1.stay (aj hg ga)) (And.intro H1.out.2.2.1 (And.intro H1.out.2.2.2 (And.intro hr (And.intro bR (And.intro bR.lt (aj hg ga).size)))))));clear hg ho H1 ga
 go_upto_region 3 with fail
 rw[<- hW2]
 generalize w2.heap.size=Nr at *
 clear hW2
 have r0:=bR.cell (i:=0) rfl
 have r1:=bR.cell (i:=1) rfl
 have r2:=bR.cell (i:=2) rfl
 have r3:=bR.cell (i:=3) rfl
 have r4:=bR.cell (i:=4) rfl
 have r5:=bR.cell (i:=5) rfl
 have r6:=bR.cell (i:=6) rfl
 clear bR hr
 go_wp2_with fail
 clear r0 r1 r2 r3 r4 r5 r6
 refine (Js (iB kx 1) W2.heap.size W2 ⟨s,a1,n1,c1,a2,n2,c2,a3,n3,c3⟩ H2.out.2.2.2.2.1 ⟨by rw[<- H2.out.2.2.2.2.1.l1];decide,by rw[<- H2.out.2.2.2.2.1.l2];decide,by rw[<- H2.out.2.2.2.2.1.l3];rw[show (iB kx 1).sig.length=64 from o8 _ _];decide⟩).mono ?_
 rintro e w3 ⟨⟨s',a1',n1',c1',Yo,n2',c2',a3',n3',c3'⟩,he,hg,ho⟩
 have he':e=.returned (vV s' 1 1 a1' n1' c1' false Yo n2' c2' a3' n3' c3'):=he
 subst he'
 clear he
 have hv3:=hg.size
 have l1':(0:Nat)=n1':=ho.at.l1
 have l2':(0:Nat)=n2':=ho.at.l2
 have l3':(64:Nat)=n3':=(o8 (Jl 1) (gq (LB kx 1))).symm.trans ho.at.l3
 subst l1' l2' l3'
 obtain⟨gs,cs,hse⟩:=Qm ho.sig (show 0<64 by decide)
 obtain⟨e3a,e3c⟩:a3'=some ⟨gs,0,none⟩/\c3'=cs:=by simpa using hse
 subst e3a e3c
 obtain⟨tl,hsb,hgs,h64,hc63⟩:=Xz ho.sig
 obtain⟨W3,hW3⟩:∃W3,W3=w3.alloc (.cells #[.string s',.int .i64 1,.int .i64 1,.slice a1' 0 c1',.bool false,.slice Yo 0 c2',.slice (some ⟨gs,0,none⟩) 64 c3'] 34):=⟨_,rfl⟩
 have ga:=au (ah w3 none) (.cells #[.string s',.int .i64 1,.int .i64 1,.slice a1' 0 c1',.bool false,.slice Yo 0 c2',.slice (some ⟨gs,0,none⟩) 64 c3'] 34)
 rw[<- hW3]at ga
 have bB:aG W3 w3.heap.size 34 [.string s',.int .i64 1,.int .i64 1,.slice a1' 0 c1',.bool false,.slice Yo 0 c2',.slice (some ⟨gs,0,none⟩) 64 c3']:=by rw[hW3];exact aG.new _ _ _
 have LP:=hsb.grown ga (by simp)
 have UQ:=aj hg ga
 have H3:=Lib.hid (And.intro (aj H2.out.1 UQ) (And.intro (H2.out.2.1.stay UQ) (And.intro H2.out.2.2.1 (And.intro H2.out.2.2.2.1 (And.intro (H2.out.2.2.2.2.1.stay UQ) (And.intro (H2.out.2.2.2.2.2.1.grown UQ (by simp)) (And.intro bB (And.intro LP (And.intro ho.str (And.intro hgs (And.intro h64 (And.intro hc63 (And.intro H2.out.2.2.2.2.2.2 (And.intro hsb.lt ho.at.val.top))))))))))))))
 have hb0:∃b:Nat,b<256/\(iB kx 1).sig.getD 0 0=b:=⟨_,EX _ _ 0,rfl⟩
 obtain⟨b0,adR,hb0⟩:=hb0
 have HB0:=Lib.hid hb0
 have kS:W3.cell? ⟨gs,0,none⟩=some (.int .u8 (b0:Int)):=by
  have h:=LP.cell (i:=0) (v:=dD b0) (by rw[List.getElem?_append_left (by rw[List.length_map,show (iB kx 1).sig.length=64 from o8 _ _];decide),vM (by rw[show (iB kx 1).sig.length=64 from o8 _ _];decide),hb0])
  exact h
 have fS:=LP.free 0
 have kB:=bB.cell (i:=6) rfl
 clear hg ho hsb hgs h64 hse ga bB LP UQ H2 hv3 hb0
 go_upto_region 4 with fail
 rw[<- hW3]
 generalize w3.heap.size=Nb at *
 clear hW3
 go_upto_region 6 with fail
 have hg0:¬((0:Int)<0):=by decide
 go_region
 obtain⟨hg3,hgr,hll,hgl,hr,bR,bB,LP,hs',hgs,h64,hc63,⟨hNr,hw1⟩,hgb,hc2⟩:=H3.out
 have ex:bits BinOp.xor IntKind.u8 (b0:Int) 1=((b0^^^1:Nat):Int):=u8_xor_nat b0 1 adR (by decide)
 rw[ex]
 have hgW:=aZ (aS (ah W3 (some gs)) 0 (.int .u8 ((b0^^^1:Nat):Int)))
 have hrN:=(bR.other (a:=⟨gs,0,none⟩) (show gs≠Nr by omega) (.int .u8 ((b0^^^1:Nat):Int))).drew
 have hbN:=(bB.other (a:=⟨gs,0,none⟩) (show gs≠Nb by omega) (.int .u8 ((b0^^^1:Nat):Int))).drew
 have hsN:aG (W3.setCell ⟨gs,0,none⟩ (.int .u8 ((b0^^^1:Nat):Int))).drew gs 5 (oG.sig.map dD++tl):=by
  have h:=(LP.set 0 (dD (b0^^^1))).drew
  rw[List.set_append_left _ _ (by rw[List.length_map,show (iB kx 1).sig.length=64 from o8 _ _];decide),<- List.map_set]at h
  rw[show oG.sig=(iB kx 1).sig.set 0 ((iB kx 1).sig.getD 0 0^^^1) from rfl,HB0.out]
  exact h
 generalize (W3.setCell ⟨gs,0,none⟩ (.int .u8 ((b0^^^1:Nat):Int))).drew=W4 at *
 have hw4:=hgW.size
 have kg:=aX hg3 hgW (show w.heap.size<=gs from Nat.le_trans (Nat.le_trans (Nat.le_trans H1s.out hw1) (Nat.le_refl _)) hgs)
 have hG4:=hgr.kept hgW (fun x e=>by cases e;exact Nat.le_trans hw1 hgs)
 have J5:=qm.kept hr hgW (fun x e=>by cases e;exact hgs)
 have hbl:oG.sig.length=64:=by rw[show oG.sig=(iB kx 1).sig.set 0 ((iB kx 1).sig.getD 0 0^^^1) from rfl,List.length_set];exact o8 _ _
 have hbb:∀i,oG.sig.getD i 0<256:=Br _ 0 _ (EX _ _) (Nat.xor_lt_two_pow (n:=8) (EX _ _ 0) (by decide))
 have hBS:qm W4 W4.heap.size ⟨s',a1',0,c1',Yo,0,c2',some ⟨gs,0,none⟩,64,c3'⟩ oG:=
  ⟨hs',rfl,rfl,hbl,⟨Nat.le_refl _,Or.inl rfl⟩,⟨Nat.le_refl _,Nat.zero_le _,hc2,fun i=>by simp[oG,iB,Jk],Or.inl rfl⟩,lq hsN hbl h64 hc63 hbb hsN.lt (Nat.le_refl _),(by decide:(0:Nat)<9223372036854775808)⟩
 have HM:Hid (∀(w':World) (N:Nat) (x:E),W4.grownBy w' none->aG w' N 34 (recC x)->qm w' w'.heap.size x.1 x.2->Calls Tryz.prog 7 #[.slice av 1 cv,.slice (some ⟨N,0,none⟩) 1 1] w' fun e w''=>e=.returned (.int .i64 (kX g1 [x.2]))/\w'.grownBy w'' none):=fun w' N x hg hb hx=>by
  have hgg:=aj kg hg
  have h:=xA 1 cv _ 1 1 _ av (some ⟨N,0,none⟩) l [x] w' (HO.out _ hgg) (HT.out _ hgg) (HS.out _ hgg) hll (by decide) (hG4.stay hg) rfl (by decide) (BU hb hx)
  rw[hgl]at h
  exact h
 have H4:=Lib.hid (And.intro kg (And.intro J5.full (And.intro hrN (And.intro hbN hBS))))
 clear hg3 hgr hll hgl hr bR bB LP hs' hgs h64 hc63 hNr hw1 hgb hc2 ex hgW hrN hbN hsN hw4 kg hG4 J5 hbl hbb hBS H3 HB0 kS fS kB hg0 adR
 go_upto_region 7 with fail
 have bR:=H4.out.2.2.1
 have r0:=bR.cell (i:=0) rfl
 have r1:=bR.cell (i:=1) rfl
 have r2:=bR.cell (i:=2) rfl
 have r3:=bR.cell (i:=3) rfl
 have r4:=bR.cell (i:=4) rfl
 have r5:=bR.cell (i:=5) rfl
 have r6:=bR.cell (i:=6) rfl
 clear bR
 go_wp2_with fail
 clear r0 r1 r2 r3 r4 r5 r6
 have ga:=au (ah W4 none) (.cells #[.string s,.int .i64 1,.int .i64 1,.slice a1 n1 c1,.bool false,.slice a2 n2 c2,.slice a3 n3 c3] 34)
 refine (HM.out _ W4.heap.size (⟨s,a1,n1,c1,a2,n2,c2,a3,n3,c3⟩,iB kx 1) ga (aG.new W4 [.string s,.int .i64 1,.int .i64 1,.slice a1 n1 c1,.bool false,.slice a2 n2 c2,.slice a3 n3 c3] 34) (H4.out.2.1.stay ga).full).mono ?_
 rintro e w5 ⟨he,hg⟩
 have he':e=.returned (.int .i64 0):=he.trans (congrArg (fun z:Int=>Ending.returned (.int .i64 z)) m1)
 subst he'
 have G5:=Lib.hid (aj ga hg)
 clear he hg ga
 go_wp2_with fail
 refine (vC sb 1 _ (HO.out _ (aj H4.out.1 G5.out)) (HT.out _ (aj H4.out.1 G5.out)) (HS.out _ (aj H4.out.1 G5.out)) (by decide) (by decide +kernel)).mono ?_
 rintro e w6 ⟨⟨ps,p1,pn1,pc1,p2,pn2,pc2,p3,pn3,pc3⟩,he,hg,ho⟩
 have he':e=.returned (vV ps 1 1 p1 pn1 pc1 false p2 pn2 pc2 p3 pn3 pc3):=he
 subst he'
 clear he
 have ga:=au (ah w6 none) (.cells #[.string ps,.int .i64 1,.int .i64 1,.slice p1 pn1 pc1,.bool false,.slice p2 pn2 pc2,.slice p3 pn3 pc3] 34)
 have Hp:=Lib.hid (And.intro (aj (aj G5.out hg) ga) (And.intro (ho.at.stay ga).full (aG.new w6 [.string ps,.int .i64 1,.int .i64 1,.slice p1 pn1 pc1,.bool false,.slice p2 pn2 pc2,.slice p3 pn3 pc3] 34)))
 clear hg ho ga
 go_wp2_with fail
 refine (HM.out _ _ (⟨ps,p1,pn1,pc1,p2,pn2,pc2,p3,pn3,pc3⟩,iB (dA sb) 1) Hp.out.1 Hp.out.2.2 Hp.out.2.1).mono ?_
 rintro e w6b ⟨he,hg⟩
 have he':e=.returned (.int .i64 21):=he.trans (congrArg (fun z:Int=>Ending.returned (.int .i64 z)) m2)
 subst he'
 have Gp:=Lib.hid (aj Hp.out.1 hg)
 clear he hg
 go_wp2_with fail
 refine (vC sx 2 _ (HO.out _ (aj H4.out.1 Gp.out)) (HT.out _ (aj H4.out.1 Gp.out)) (HS.out _ (aj H4.out.1 Gp.out)) (by decide) (by decide +kernel)).mono ?_
 rintro e w7 ⟨⟨ds,d1,dn1,dc1,d2,dn2,dc2,d3,dn3,dc3⟩,he,hg,ho⟩
 have he':e=.returned (vV ds 2 1 d1 dn1 dc1 false d2 dn2 dc2 d3 dn3 dc3):=he
 subst he'
 clear he
 have ga:=au (ah w7 none) (.cells #[.string ds,.int .i64 2,.int .i64 1,.slice d1 dn1 dc1,.bool false,.slice d2 dn2 dc2,.slice d3 dn3 dc3] 34)
 have Hd:=Lib.hid (And.intro (aj (aj Gp.out hg) ga) (And.intro (ho.at.stay ga).full (aG.new w7 [.string ds,.int .i64 2,.int .i64 1,.slice d1 dn1 dc1,.bool false,.slice d2 dn2 dc2,.slice d3 dn3 dc3] 34)))
 clear hg ho ga
 go_wp2_with fail
 refine (HM.out _ _ (⟨ds,d1,dn1,dc1,d2,dn2,dc2,d3,dn3,dc3⟩,iB (dA sx) 2) Hd.out.1 Hd.out.2.2 Hd.out.2.1).mono ?_
 rintro e w7b ⟨he,hg⟩
 have he':e=.returned (.int .i64 21):=he.trans (congrArg (fun z:Int=>Ending.returned (.int .i64 z)) m3)
 subst he'
 have Gd:=Lib.hid (aj Hd.out.1 hg)
 clear he hg
 have bB:=H4.out.2.2.2.1.grown Gd.out (by simp)
 have r0:=bB.cell (i:=0) rfl
 have r1:=bB.cell (i:=1) rfl
 have r2:=bB.cell (i:=2) rfl
 have r3:=bB.cell (i:=3) rfl
 have r4:=bB.cell (i:=4) rfl
 have r5:=bB.cell (i:=5) rfl
 have r6:=bB.cell (i:=6) rfl
 clear bB
 go_wp2_with fail
 clear r0 r1 r2 r3 r4 r5 r6
 have ga:=au (ah w7b none) (.cells #[.string s',.int .i64 1,.int .i64 1,.slice a1' 0 c1',.bool false,.slice Yo 0 c2',.slice (some ⟨gs,0,none⟩) 64 c3'] 34)
 refine (HM.out _ w7b.heap.size (⟨s',a1',0,c1',Yo,0,c2',some ⟨gs,0,none⟩,64,c3'⟩,oG) (aj Gd.out ga) (aG.new w7b [.string s',.int .i64 1,.int .i64 1,.slice a1' 0 c1',.bool false,.slice Yo 0 c2',.slice (some ⟨gs,0,none⟩) 64 c3'] 34) (H4.out.2.2.2.2.stay (aj Gd.out ga)).full).mono ?_
 rintro e w8 ⟨he,hg⟩
 have he':e=.returned (.int .i64 20):=he.trans (congrArg (fun z:Int=>Ending.returned (.int .i64 z)) m4)
 subst he'
 have G8:=Lib.hid (aj H4.out.1 (aj Gd.out (aj ga hg)))
 clear he hg ga
 go_wp2
 go_ret
 exact⟨rfl,G8.out⟩
end Gr
end
section
open Go.RowKit Ow Wi Ve Rc
namespace Sb
theorem yD {w:World} {pb o:Nat} {s:ByteArray} {cl sq:Int} {a1:Option Addr} {n1 c1:Nat} {g:Bool} {a2:Option Addr} {n2 c2:Nat} {a3:Option Addr} {n3 c3:Nat} {key:List Nat} {cx:List D} {val sig:List Nat}
  (h:LJ w pb o (⟨s,a1,n1,c1,a2,n2,c2,a3,n3,c3⟩,⟨key,cl,sq,cx,g,val,sig⟩)):w.cell? ⟨pb,o,none⟩=some (.string s)/\w.cell? ⟨pb,o+1,none⟩=some (iV cl)/\w.cell? ⟨pb,o+2,none⟩=some (iV sq)/\w.cell? ⟨pb,o+3,none⟩=some (.slice a1 n1 c1)/\w.cell? ⟨pb,o+4,none⟩=some (.bool g)/\w.cell? ⟨pb,o+5,none⟩=some (.slice a2 n2 c2)/\w.cell? ⟨pb,o+6,none⟩=some (.slice a3 n3 c3):=
 ⟨h.c0,h.c1,h.c2,h.c3,h.c4,h.c5,h.c6⟩
def LQ (x:E):Nat:=1+x.1.n1+(x.1.s.size+x.1.n2+x.1.n3)/8
def Fits (x:E):Prop:=x.1.n1<1000000000000000/\x.1.s.size+x.1.n2+x.1.n3<1000000000000000
theorem cnt_lt {x:E} (h:Fits x):LQ x<2000000000000000:=by unfold LQ;have:=h.1;have:=h.2;omega
set_option maxHeartbeats 1000000 in
theorem Fu (x:E) (w:World) (h:Fits x):Calls Tryz.prog 10 #[adO x] w fun e w'=>e=.returned (.int .i64 (LQ x))/\w.grownBy w' none:=by
 obtain⟨Q,hQ⟩:∃Q:Ending->World->Prop,Q=fun e w'=>e=.returned (.int .i64 (LQ x))/\w.grownBy w' none:=⟨_,rfl⟩
 rw[<- hQ]
 have HQ:=Lib.hid hQ;clear hQ
 obtain⟨⟨s,a1,n1,c1,a2,n2,c2,a3,n3,c3⟩,⟨key,cl,sq,cx,g,val,sig⟩⟩:=x
 have h1:n1<1000000000000000:=h.1
 have h2:s.size+n2+n3<1000000000000000:=h.2
 have hd:(((s.size+n2+n3:Nat):Int)).tdiv 8=(((s.size+n2+n3)/8:Nat):Int):=by rw[Int.tdiv_eq_ediv_of_nonneg (by omega)];rfl
 obtain⟨W1,hW1⟩:∃W1,W1=w.alloc (.cells #[.string s,iV cl,iV sq,.slice a1 n1 c1,.bool g,.slice a2 n2 c2,.slice a3 n3 c3] 34):=⟨_,rfl⟩
 obtain⟨N,hN⟩:∃N,N=w.heap.size:=⟨_,rfl⟩
 have hb:aG W1 N 34 [.string s,iV cl,iV sq,.slice a1 n1 c1,.bool g,.slice a2 n2 c2,.slice a3 n3 c3]:=by rw[hW1];exact kE _ _ _ hN.symm
 have x0:=hb.cell (i:=0) rfl
 have x3:=hb.cell (i:=3) rfl
 have x5:=hb.cell (i:=5) rfl
 have x6:=hb.cell (i:=6) rfl
 have HE:Hid (∀z:Int,z=1+(n1:Int)+((s.size+n2+n3)/8:Nat)->Q (.returned (.int .i64 z)) W1):=fun z hz=>by
  rw[HQ.out]
  refine⟨?_,by rw[hW1];exact au (ah _ _) _⟩
  show _=Ending.returned (.int .i64 ((1+n1+(s.size+n2+n3)/8:Nat):Int))
  rw[hz];congr 2
 show Calls _ _ #[vV s cl sq a1 n1 c1 g a2 n2 c2 a3 n3 c3] w Q
 clear hb h
 have w1:IntKind.i64.wrap ((s.size:Int)+n2)=((s.size+n2:Nat):Int):=by rw[IntKind.wrap_i64];omega
 have w2:IntKind.i64.wrap (((s.size+n2:Nat):Int)+n3)=((s.size+n2+n3:Nat):Int):=by rw[IntKind.wrap_i64];omega
 go_enter Tryz.func10,Tryz.ntmps10
 go_upto_region 1 with fail
 rw[<- hW1,<- hN]
 clear hW1 hN
 go_wp2
 exact HE.out _ (by omega)
def Qn (l:List E):Nat:=(l.map LQ).sum
theorem Qo (l:List E) (k:Nat) (h:k<l.length):Qn (l.take (k+1))=Qn (l.take k)+LQ (l.getD k e0):=by
 unfold Qn
 rw[List.take_add_one,List.getElem?_eq_getElem h,List.map_append,List.sum_append,List.getD_eq_getElem?_getD,List.getElem?_eq_getElem h]
 simp
def Ju (w:World) (most s:Nat) (e:Ending) (w':World):Prop:=∃z:Nat,e=.returned (.int .i64 z)/\z<3000000000000000/\(z<=most->z=s)/\w.grownBy w' none
set_option maxHeartbeats 1000000 in
theorem CP (B n c most:Nat) (a:Option Addr) (l:List E) (w:World) (hn:l.length=n) (h:qR w B a l) (hb:n<9223372036854775808) (hf:∀x∈l,Fits x) (hm:most<=1000000):
  Calls Tryz.prog 19 #[.slice a n c,.int .i64 most] w (Ju w most (Qn l)):=by
 have HN:=Lib.hid (And.intro hn (And.intro h hf))
 obtain⟨Q,hQ⟩:∃Q,Q=Ju w most (Qn l):=⟨_,rfl⟩
 rw[<- hQ]
 have HQ:=Lib.hid hQ;clear hQ h hn hf
 go_enter Tryz.func19,Tryz.ntmps19
 go_wp2_with fail
 go_loopw [5,6] (fun u i wr=>∃(k z:Nat),k<=n/\u=.int .i64 z/\i=.int .i64 k/\z<3000000000000000/\Hid (w.grownBy wr none/\z=Qn (l.take k))) (fun _ i _=>n-(intOf i).toNat)
 case atStart=>exact⟨0,0,by omega,rfl,rfl,by omega,ah _ _,rfl⟩
 case round=>
  obtain⟨k,z,hk,rfl,rfl,hz,HI⟩:=hrel
  by_cases hlt:k<n
  .have hi:(k:Int)<(n:Int):=by omega
   by_cases hzm:z<=most
   .have hi2:(z:Int)<=(most:Int):=by omega
    have hl:0<l.length:=by rw[HN.out.1];omega
    obtain⟨pb,po,rfl,hpb,hcs⟩:=(HN.out.2.1.stay HI.out.1).at hl
    have hx:=hcs k (by rw[HN.out.1];exact hlt)
    have hnx:=Qo l k (by rw[HN.out.1];exact hlt)
    have hfx:=HN.out.2.2 _ (xw (l:=l) (i:=k) (by rw[HN.out.1];exact hlt))
    have HR:=Lib.hid (fun w'=>Fu (l.getD k e0) w' hfx)
    have hcl:=cnt_lt hfx
    generalize l.getD k e0=x at *
    rw[<- HI.out.2]at hnx
    generalize LQ x=cv at *
    obtain⟨⟨s,a1,n1,c1',a2,n2,c2',a3,n3,c3'⟩,⟨key,cl,sq,cx,g,val,sig⟩⟩:=x
    obtain⟨c0,c1,c2,c3,c4,c5,c6⟩:=yD hx
    replace HR:Hid (∀w',Calls Tryz.prog 10 #[vV s cl sq a1 n1 c1' g a2 n2 c2' a3 n3 c3'] w' fun e w''=>e=.returned (.int .i64 cv)/\w'.grownBy w'' none):=HR
    have HNX:=Lib.hid hnx
    clear hx hcs hfx hnx
    go_wp2_with fail
    refine (HR.out _).mono ?_
    rintro e w2 ⟨rfl,hg⟩
    have HG2:=Lib.hid (aj HI.out.1 hg);clear hg
    go_wp2
    exact⟨⟨k+1,z+cv,by omega,rfl,rfl,by omega,HG2.out,HNX.out.symm⟩,by show n-((k:Int)+1).toNat<n-(k:Int).toNat;omega⟩
   .have hi2:¬(z:Int)<=(most:Int):=by omega
    have HE:Hid (Q (.returned (.int .i64 z)) wr):=by show Q _ _;rw[HQ.out];exact⟨z,rfl,hz,fun h=>absurd h hzm,HI.out.1⟩
    go_wp2
    exact HE.out
  .obtain rfl:k=n:=by omega
   have HE:Hid (Q (.returned (.int .i64 z)) wr):=by
    show Q _ _;rw[HQ.out]
    refine⟨z,rfl,hz,fun _=>?_,HI.out.1⟩
    rw[HI.out.2,List.take_of_length_le (by have:=HN.out.1;omega)]
   clear hlt
   go_wp2
   exact HE.out
end Sb
end
section
open Go.RowKit Ow Wi Ve Rc Sb
namespace Gr
def BX (x:GE):Prop:=x.1.n<1000000000000000/\x.1.s.size<1000000000000000
set_option maxHeartbeats 1000000 in
theorem Fv (B n c most:Nat) (a:Option Addr) (l:List GE) (w:World) (hn:l.length=n) (h:iZ w B a l) (hb:n<1000000000000000) (hf:∀x∈l,BX x) (hm:most<=2500):
  Calls Tryz.prog 18 #[.slice a n c,.int .i64 most] w fun e w'=>∃z:Nat,e=.returned (.int .i64 z)/\n<=z/\(z<=most->∀x∈l,(x.1.n+x.1.s.size)/8<=z)/\w.grownBy w' none:=by
 have HN:=Lib.hid (And.intro hn (And.intro h hf))
 obtain⟨Q,hQ⟩:∃Q:Ending->World->Prop,Q=fun e w'=>∃z:Nat,e=.returned (.int .i64 z)/\n<=z/\(z<=most->∀x∈l,(x.1.n+x.1.s.size)/8<=z)/\w.grownBy w' none:=⟨_,rfl⟩
 rw[<- hQ]
 have HQ:=Lib.hid hQ;clear hQ h hn hf
 go_enter Tryz.func18,Tryz.ntmps18
 go_wp2_with fail
 go_loopw [5,6] (fun u i wr=>∃(k z:Nat),k<=n/\u=.int .i64 z/\i=.int .i64 k/\n<=z/\z<3000000000000000/\Hid (w.grownBy wr none/\∀i,i<k->((l.getD i g0).1.n+(l.getD i g0).1.s.size)/8<=z)) (fun _ i _=>n-(intOf i).toNat)
 case atStart=>exact⟨0,n,by omega,rfl,rfl,by omega,by omega,ah _ _,fun i hi=>by omega⟩
 case round=>
  obtain⟨k,z,hk,rfl,rfl,hnz,hz,HI⟩:=hrel
  by_cases hlt:k<n
  .have hi:(k:Int)<(n:Int):=by omega
   by_cases hzm:z<=most
   .have hi2:(z:Int)<=(most:Int):=by omega
    obtain⟨pb,po,rfl,hpb,hcs⟩:=(HN.out.2.1.stay HI.out.1).at (by rw[HN.out.1];omega)
    obtain⟨c0,c1,c2⟩:=hcs k (by rw[HN.out.1];exact hlt)
    have hfx:=HN.out.2.2 (l.getD k g0) (by rw[List.getD_eq_getElem?_getD,List.getElem?_eq_getElem (by rw[HN.out.1];exact hlt)];exact List.getElem_mem _)
    obtain⟨x,hgx⟩:∃x,x=l.getD k g0:=⟨_,rfl⟩
    rw[<- hgx]at c0 c1 c2 hfx
    have hold:=HI.out.2
    obtain⟨⟨ga,gn,gp,gs⟩,⟨gc,pub,pre⟩⟩:=x
    have h1:gn<1000000000000000:=hfx.1
    have h2:gs.size<1000000000000000:=hfx.2
    have hd:(((gn+gs.size:Nat):Int)).tdiv 8=(((gn+gs.size)/8:Nat):Int):=by rw[Int.tdiv_eq_ediv_of_nonneg (by omega)];rfl
    have w1:IntKind.i64.wrap ((gn:Int)+gs.size)=((gn+gs.size:Nat):Int):=by rw[IntKind.wrap_i64];omega
    have hnew:∀i,i<k+1->((l.getD i g0).1.n+(l.getD i g0).1.s.size)/8<=z+(gn+gs.size)/8:=fun i hi=>by
     by_cases h:i=k
     .subst h;rw[<- hgx];exact Nat.le_add_left _ _
     .exact Nat.le_trans (hold i (by omega)) (Nat.le_add_right _ _)
    have HNW:=Lib.hid hnew
    clear hcs hfx hold hnew hgx
    go_upto_region 5 with fail
    go_region
    have e1:(z:Int)+((gn:Int)+gs.size)/8=((z+(gn+gs.size)/8:Nat):Int):=by omega
    rw[e1]
    have hzz:z+(gn+gs.size)/8<3000000000000000:=by omega
    have hnn:n<=z+(gn+gs.size)/8:=by omega
    generalize z+(gn+gs.size)/8=zz at *
    have HG:=Lib.hid (And.intro (aZ HI.out.1) HNW.out)
    clear HNW
    clear hd w1 e1 c0 c1 c2
    go_wp2
    exact⟨⟨k+1,zz,by omega,rfl,rfl,hnn,hzz,HG.out.1,HG.out.2⟩,by show n-((k:Int)+1).toNat<n-(k:Int).toNat;omega⟩
   .have hi2:¬(z:Int)<=(most:Int):=by omega
    have HE:Hid (Q (.returned (.int .i64 z)) wr):=by show Q _ _;rw[HQ.out];exact⟨z,rfl,hnz,fun h=>absurd h hzm,HI.out.1⟩
    go_wp2
    exact HE.out
  .obtain rfl:k=n:=by omega
   have HE:Hid (Q (.returned (.int .i64 z)) wr):=by
    show Q _ _;rw[HQ.out]
    exact⟨z,rfl,hnz,fun _ x hx=>by
     obtain⟨i,hi,rfl⟩:=List.getElem_of_mem hx
     have:=HI.out.2 i (by rw[<- HN.out.1];exact hi)
     rwa [List.getD_eq_getElem?_getD,List.getElem?_eq_getElem hi]at this,HI.out.1⟩
   clear hlt
   go_wp2
   exact HE.out
set_option maxHeartbeats 1000000 in
theorem LU (n cap B m mc Bm:Nat) (a am:Option Addr) (l:List GE) (rs:List E) (w:World) (hl:l.length=n) (hn:n<1000000000000000) (hf:∀x∈l,BX x) (hL:iZ w B a l) (hm:rs.length=m) (hm2:m<9223372036854775808) (hr:∀x∈rs,Fits x) (hR:qR w Bm am rs):
  Calls Tryz.prog 6 #[.slice a n cap,.slice am m mc] w fun e w'=>∃b:Bool,e=.returned (.bool b)/\(b=false->m<=6/\n<=1000/\∀x∈l,x.1.n<=10000)/\w.grownBy w' none:=by
 by_cases h6:m<=6
 .have i6:¬(m:Int)>6:=by omega
  have HG:=Lib.hid (Fv B n cap 1000 a l w hl hL hn hf (by decide))
  have HRs:=Lib.hid (fun w' (hg:w.grownBy w' none)=>CP Bm m mc 3000 am rs w' hm (hR.stay hg) hm2 hr (by decide))
  clear hl hf hL hm hr hR
  go_enter Tryz.func6,Tryz.ntmps6
  go_wp2_with fail
  refine HG.out.mono ?_
  rintro e w1 ⟨z,rfl,hz,hzl,hg⟩
  have H1:=Lib.hid hg;clear hg
  by_cases hz2:z<=1000
  .have j1:¬(z:Int)>1000:=by omega
   go_wp2_with fail
   refine (HRs.out _ H1.out).mono ?_
   intro e w2 h
   obtain⟨y,rfl,_,_,hg⟩:=h
   have H2:=Lib.hid (aj H1.out hg);clear hg
   go_wp2
   go_ret
   exact⟨_,rfl,fun _=>⟨h6,by omega,fun x hx=>by have:=hzl hz2 x hx;omega⟩,H2.out⟩
  .have j1:(z:Int)>1000:=by omega
   go_wp2
   go_ret
   exact⟨true,rfl,(fun e=>by cases e),H1.out⟩
 .have i6:(m:Int)>6:=by omega
  clear hl hf hL hm hr hR
  go_enter Tryz.func6,Tryz.ntmps6
  go_wp2
  go_ret
  exact⟨true,rfl,(fun e=>by cases e),ah _ _⟩
end Gr
end
section
open Go.RowKit Ow Wi Ve Rc
namespace Gr
theorem LV (l:List GE):(l.flatMap gC).length=l.length*3:=by
 induction l with
 | nil=>rfl
 | cons x l ih=>rw[List.flatMap_cons,List.length_append,ih];simp[gC];omega
theorem XA (l:List GE) (k:Nat):(l.flatMap gC).take (k*3)=(l.take k).flatMap gC:=by
 induction l generalizing k with
 | nil=>simp
 | cons x l ih=>
  cases k with
  | zero=>simp
  | succ k=>
   rw[List.take_succ_cons,List.flatMap_cons,List.flatMap_cons,<- ih,show (k+1)*3=(gC x).length+k*3 by simp[gC];omega,List.take_length_add_append]
theorem NC (l:List GE) (k:Nat):(l.flatMap gC).drop (k*3)=(l.drop k).flatMap gC:=by
 induction l generalizing k with
 | nil=>simp
 | cons x l ih=>
  cases k with
  | zero=>simp
  | succ k=>
   rw[List.drop_succ_cons,List.flatMap_cons,<- ih,show (k+1)*3=(gC x).length+k*3 by simp[gC];omega,List.drop_length_add_append]
theorem UR (l:List GE) (i j:Nat) (hi:i<l.length) (hj:j<3):(l.flatMap gC)[i*3+j]?=(gC (l.getD i g0))[j]?:=by
 have h:(l.flatMap gC).drop (i*3)=gC (l.getD i g0)++(l.drop (i+1)).flatMap gC:=by
  rw[NC,List.drop_eq_getElem_cons hi,List.flatMap_cons,List.getD_eq_getElem?_getD,List.getElem?_eq_getElem hi];rfl
 have:=congrArg (fun q=>q[j]?) h
 rw[List.getElem?_drop,List.getElem?_append_left (by simpa[gC] using hj)]at this
 exact this
theorem XB (l:List GE):∀v∈l.flatMap gC,v.oneCell'=true:=by
 intro v hv
 obtain⟨x,_,h⟩:=List.mem_flatMap.1 hv
 exact Nz x v h
theorem pF (w:World) (base:Nat) (v:Value) (l0:List GE) (a:Option Addr) (m c:Nat) (p:List GE) (hown:mE w base v l0) (hm:p.length=m) (hp:∀b,a=some b->∀j u,(p.flatMap gC)[j]?=some u->w.cell? (b.add j)=some u) (h0:a=none->m=0/\c=0) (hn:l0.length+m<=1000000000) (hbase:base<=w.heap.size):
  ∃v' w',(Builtin.append_ #[22,22] 22 #[v,.slice a m c]).run Tryz.prog w=.ok v' w'/\mE w' base v' (l0++p)/\w.grownBy w' v.ownBlock/\(v'=.slice none 0 0->v=.slice none 0 0):=by
 obtain⟨i,hi,hz,hs,hb⟩:=Jo
 rcases a with _|ad
 .obtain⟨rfl,rfl⟩:=h0 rfl
  obtain rfl:p=[]:=List.eq_nil_of_length_eq_zero hm
  exact⟨v,w,run_append_owned_none (P:=Tryz.prog) w base 22 22 26 i 3 Tryz.underlying22 hi v _ _ hown,by simpa using hown,ah _ _,id⟩
 .obtain⟨v',w',hr,ho,hg,hv⟩:=run_append_own (P:=Tryz.prog) w base 22 22 26 i zG 3 48 Tryz.underlying22 hi hz hs hb rfl (by decide) v l0.length (l0.flatMap gC) hown ad m c (p.flatMap gC) (by rw[LV,hm]) (hp ad rfl) (XB p) (by unfold maxLen;omega) (by omega) hbase
  refine⟨v',w',hr,?_,hg,fun e=>(hv.1 e).1⟩
  unfold mE
  rw[List.flatMap_append,List.length_append,hm]
  exact ho
theorem iZ.src {w:World} {B:Nat} {a:Option Addr} {l:List GE} (h:iZ w B a l):∀b,a=some b->∀j u,(l.flatMap gC)[j]?=some u->w.cell? (b.add j)=some u:=by
 intro b hb j u hu
 have hj:j<l.length*3:=by have:=(List.getElem?_eq_some_iff.1 hu).1;rwa [LV]at this
 obtain⟨pb,po,e,_,hc⟩:=h.cells.resolve_left (by omega)
 obtain rfl:b=⟨pb,po,none⟩:=Option.some.inj (hb.symm.trans e)
 have e2:j=j/3*3+j%3:=by omega
 rw[e2,UR l _ _ (by omega) (by omega)]at hu
 have:=hc (j/3) (by omega) (j%3) u hu
 rw[Addr.add_lit,e2,<- Nat.add_assoc];exact this
theorem iZ.UU {w:World} {B:Nat} {a:Option Addr} {l:List GE} (h:iZ w B a l):iZ w w.heap.size a l:=by
 refine⟨Nat.le_refl _,fun x hx=>⟨(h.each x hx).str,(h.each x hx).len,(h.each x hx).pub.full⟩,?_⟩
 rcases h.cells with h0 |⟨pb,po,ha,hlt,hc⟩
 .exact Or.inl h0
 .exact Or.inr ⟨pb,po,ha,Nat.lt_of_lt_of_le hlt h.lim,hc⟩
theorem iZ.UW {w:World} {B:Nat} {l:List GE} (h:iZ w B none l):l=[]:=by
 rcases h.cells with h |⟨_,_,h,_⟩
 .exact List.eq_nil_of_length_eq_zero h
 .cases h
theorem DT {w:World} {base g n c k:Nat} {l:List GE} (h:mE w base (.slice (some ⟨g,0,none⟩) n c) l) (hk:k<=l.length):mE w base (.slice (some ⟨g,0,none⟩) k c) (l.take k):=by
 refine⟨by rw[LV],?_⟩
 have hl:(l.take k).length=k:=by rw[List.length_take];omega
 rw[hl]
 rcases h.2 with⟨h0,_⟩ |⟨g',c',cur,e1,hb,hg,hnc,hcm,hs,ht⟩
 .cases h0
 .cases e1
  exact Or.inr ⟨g,c,cur,rfl,hb,hg,Nat.le_trans hk hnc,hcm,hs,by
   rw[<- XA,<- ht,List.take_take]
   congr 1
   omega⟩
theorem Jv {w:World} {base n c:Nat} {a:Option Addr} {l:List GE} (h:mE w base (.slice a n c) l):l.length=n/\n<=c:=by
 rcases h.2 with⟨e,h0⟩ |⟨g,c',_,e,_,_,hnc,_⟩
 .cases e;exact⟨h0,Nat.le_refl _⟩
 .cases e;exact⟨rfl,hnc⟩
theorem BZ {w:World} {base:Nat} {v:Value} {l:List GE} (h:mE w base v l):∃a c,v=.slice a l.length c:=by
 rcases h.2 with⟨rfl,h0⟩ |⟨g,c,_,rfl,_⟩
 .exact⟨none,0,by rw[h0]⟩
 .exact⟨_,c,rfl⟩
theorem DU {w:World} {base n c:Nat} {a:Option Addr} {l:List GE} (h:mE w base (.slice a n c) l) (hn:Value.slice a n c≠.slice none 0 0):∃g,a=some ⟨g,0,none⟩/\base<=g/\g<w.heap.size:=by
 rcases h.2 with⟨e,h0⟩ |⟨g,c',cur,e,hb,hg,_⟩
 .exact absurd e hn
 .cases e;exact⟨g,rfl,hb,lt_of_block hg⟩
theorem Qp {w:World} {base g n c k:Nat} {l:List GE} (h:mE w base (.slice (some ⟨g,0,none⟩) n c) l):∀b,some (⟨g,k*3,none⟩:Addr)=some b->∀j u,((l.drop k).flatMap gC)[j]?=some u->w.cell? (b.add j)=some u:=by
 intro b hb j u hu
 obtain rfl:=Option.some.inj hb
 rw[<- NC,List.getElem?_drop]at hu
 have:=h.cells (g:=g) rfl _ u hu
 rw[Addr.add_lit]at this ⊢
 simpa using this
set_option maxRecDepth 100000 in
theorem Jw:∃j,Tryz.prog.info? (Tryz.prog.elem 22)=some j/\j.size=3:=by
 have h1:(Tryz.prog.info? (Tryz.prog.elem 22)).map (·.size)=some 3:=by kernel_rfl
 cases hq:Tryz.prog.info? (Tryz.prog.elem 22) with
 | none=>rw[hq]at h1;cases h1
 | some j=>rw[hq]at h1;exact⟨j,rfl,by simpa using h1⟩
set_option maxRecDepth 100000 in
theorem Jy (g n cap lo:Nat) (h:lo<=n):
  ∃a':Addr,(∀w,(Instr.slice 22 (.slice (some ⟨g,0,none⟩) n cap) (some (.int .i64 (lo:Int))) none none).run Tryz.prog w=.ok (.slice (some a') (n-lo) (cap-lo)) w)/\(lo<cap->a'=⟨g,lo*3,none⟩):=by
 obtain⟨j,hj,hs⟩:=Jw
 refine⟨if cap=lo then⟨g,0,none⟩ else⟨g,lo*3,none⟩,fun w=>?_,fun hlt=>if_neg (by omega)⟩
 rw[run_slice_l w 22 (some ⟨g,0,none⟩) n cap Tryz.underlying22 .i64 _ (by omega) (by omega),Int.toNat_natCast]
 simp[sizeOf,typeInfo,hj,hs,sliced,Addr.add]
 split
 .rfl
 .split
  .next h2=>rw[h2]
  .rfl
set_option maxRecDepth 100000 in
theorem Qq (g n cap k:Nat) (h:k<=cap) (w:World):(Instr.slice 22 (.slice (some ⟨g,0,none⟩) n cap) none (some (.int .i64 (k:Int))) none).run Tryz.prog w=.ok (.slice (some ⟨g,0,none⟩) k cap) w:=by
 obtain⟨j,hj,hs⟩:=Jw
 rw[run_slice_h w 22 (some ⟨g,0,none⟩) n cap Tryz.underlying22 .i64 _ (by omega) (by omega),Int.toNat_natCast]
 simp[sizeOf,typeInfo,hj,hs,sliced,Addr.add]
theorem Qr {w:World} {base g n c k:Nat} {l:List GE} {a':Addr} (h:mE w base (.slice (some ⟨g,0,none⟩) n c) l) (hk:k<c->a'=⟨g,k*3,none⟩):∀b,some a'=some b->∀j u,((l.drop k).flatMap gC)[j]?=some u->w.cell? (b.add j)=some u:=by
 by_cases hc:k<c
 .rw[hk hc];exact Qp h
 .intro b _ j u hu
  have:=Jv h
  rw[List.drop_eq_nil_of_le (by omega)]at hu
  simp at hu
theorem UY {w:World} {base g n c:Nat} {l:List GE} (h:mE w base (.slice (some ⟨g,0,none⟩) n c) l):∀b,some (⟨g,0,none⟩:Addr)=some b->∀j u,(l.flatMap gC)[j]?=some u->w.cell? (b.add j)=some u:=by
 intro b hb j u hu
 obtain rfl:=Option.some.inj hb
 exact h.cells (g:=g) rfl _ u hu
theorem lI {w w':World} {base:Nat} {v:Value} {l:List GE} (h:mE w base v l) (hg:w.grownBy w' none):mE w' base v l:=World.ownsRow.kept h hg (by cases hv:v.ownBlock<;>simp)
theorem Qs {w:World} {base:Nat} {v:Value} {l:List GE} (h:mE w base v l) (hp:∀x∈l,QH w w.heap.size x):∃a c,v=.slice a l.length c/\iZ w w.heap.size a l:=by
 rcases h.2 with⟨rfl,h0⟩ |⟨g,c,cur,rfl,hb,hg,hnc,hcm,hcs,ht⟩
 .exact⟨none,0,by rw[h0],Nat.le_refl _,hp,Or.inl h0⟩
 .refine⟨_,c,rfl,Nat.le_refl _,hp,Or.inr ⟨g,0,rfl,lt_of_block hg,fun i hi j u hu=>?_⟩⟩
  have hj:j<3:=(List.getElem?_eq_some_iff.1 hu).1
  have:=h.cells (g:=g) rfl _ u ((UR l i j hi hj).trans hu)
  rw[Addr.add_lit]at this
  rw[Nat.add_assoc];exact this
end Gr
end
section
open Go.RowKit Ow Wi Ve Rc Ed Sb
namespace Gr
def _root_.Go.Proofs.YtjgnjhgdmdmebaaGreatDoor.Fg.It.adS (V:List Value):Fg.It:=⟨fun v w=>∃N,v=.slice (some ⟨N,0,none⟩) 1 1/\aG w N 34 V,fun _ _ _ ⟨N,e,h⟩ hg=>⟨N,e,h.grown hg (by simp)⟩⟩
theorem Jz (l:List G) (f:Int) (a b:List Rc.R):oC l f (a++b)=oC l (oC l f a) b:=by
 induction a generalizing f with
 | nil=>rfl
 | cons r t ih=>
  rw[List.cons_append]
  by_cases h:f=0
  .conv=>lhs;unfold oC
   conv=>rhs;arg 2;unfold oC
   rw[if_pos h,if_pos h,ih]
  .rw[ql l f h,ql l f h,ql l f h]
noncomputable def Yp (l:List G) (rs:List Rc.R) (k:Nat):Int:=oC l (kX l []) (rs.take k)
theorem XC (l:List G) (rs:List E) (k:Nat) (h:k<rs.length):Yp l (rs.map (·.2)) (k+1)=if Yp l (rs.map (·.2)) k=0 then kX l [(rs.getD k e0).2] else Yp l (rs.map (·.2)) k:=by
 unfold Yp
 rw[List.take_add_one,List.getElem?_map,List.getElem?_eq_getElem h,List.getD_eq_getElem?_getD,List.getElem?_eq_getElem h]
 show oC l (kX l []) (_++[rs[k].2])=_
 rw[Jz]
 rfl
theorem aaB (l:List G) (rs:List Rc.R) (k:Nat) (h:rs.length<=k\/Yp l rs k≠0):Yp l rs k=kX l rs:=by
 rw[Uh]
 unfold Yp at *
 rcases h with h|h
 .rw[List.take_of_length_le h]
 .conv=>rhs;rw[<- List.take_append_drop k rs,Jz]
  rw[ql l _ h]
theorem UZ (l:List G):decide (kX l []=0)=rightG l:=by
 rw[Nt]
 cases rightG l<;>simp
def LW (l:List GE) (x:GE) (k:Nat):List GE:=(l.take k++[x])++l.drop k
theorem LX (l:List GE) (x:GE) (k:Nat) (h:k<=l.length):(LW l x k).length=l.length+1:=by
 unfold LW
 simp only[List.length_append,List.length_take,List.length_drop,List.length_singleton]
 omega
theorem aaC (l:List GE) (x:GE) (k:Nat):∀y∈LW l x k,y=x\/y∈l:=by
 intro y hy
 unfold LW at hy
 rcases List.mem_append.1 hy with hy|hy
 .rcases List.mem_append.1 hy with hy|hy
  .exact Or.inr (List.mem_of_mem_take hy)
  .exact Or.inl (List.mem_singleton.1 hy)
 .exact Or.inr (List.mem_of_mem_drop hy)
theorem aaD (l:List GE) (x:GE) (k:Nat) (r:Rc.R) (h:r.cl≠x.2.cl) (h1:rightG (l.map (·.2))=true) (h2:rightG ((LW l x k).map (·.2))=true):kX ((LW l x k).map (·.2)) [r]=kX (l.map (·.2)) [r]:=by
 have e:l.map (·.2)=(l.take k).map (·.2)++(l.drop k).map (·.2):=by rw[<- List.map_append,List.take_append_drop]
 have e2:(LW l x k).map (·.2)=(l.take k).map (·.2)++x.2:: (l.drop k).map (·.2):=by unfold LW;simp
 rw[e]at h1 ⊢
 rw[e2]at h2 ⊢
 exact Ui _ _ _ r h h1 h2
set_option maxHeartbeats 2000000 in
set_option maxRecDepth 100000 in
theorem Qt (n cap B:Nat) (a:Option Addr) (c:Int) (l:List GE) (w:World) (hl:l.length=n) (hn:n<=1000000) (hL:iZ w B a l) (hp:∀x∈l,x.1.n<=1000000):
  Calls Tryz.prog 9 #[.slice a n cap,.int .i64 c] w fun e w'=>∃(cl:Int) (ga:Option Addr) (gn gp:Nat) (gs:ByteArray),e=.returned (.tuple #[vG cl ga gn gp gs,.bool (jY l c).isSome])/\w.grownBy w' none:=by
 obtain⟨W0,hW0⟩:∃W0,W0=w.alloc (.cells #[.int .i64 0,.slice none 0 0,.string ⟨#[]⟩] 26):=⟨_,rfl⟩
 obtain⟨N,hN⟩:∃N,N=w.heap.size:=⟨_,rfl⟩
 have hG0:w.grownBy W0 none:=by rw[hW0];exact au (ah _ _) _
 have hB0:aG W0 N 26 [.int .i64 0,.slice none 0 0,.string ⟨#[]⟩]:=by rw[hW0,hN];exact aG.new _ _ _
 have HF:=Lib.hid (yC n cap B a c l W0 hl hn (hL.stay hG0))
 have HP:Hid (∀x w',jY l c=some x->w.grownBy w' none->BytesAt w' B x.1.a x.1.c x.2.pub/\x.2.pub.length=x.1.n/\x.1.n<=1000000):=fun x w' hx hg=>by
  have hm:=(Jm hx).1
  have h:=(hL.stay hg).each x hm
  exact⟨h.pub,h.len,hp x hm⟩
 generalize jY l c=fo at *
 have iM:=Lib.hid (And.intro hG0 (And.intro hB0 (show w.heap.size<=N by omega)));clear hG0 hB0 hl hL hp
 go_enter Tryz.func9,Tryz.ntmps9
 go_wp2_with fail
 rw[<- hW0,<- hN]
 clear hW0 hN
 refine HF.out.mono ?_
 rintro e w1 ⟨rfl,hg⟩
 obtain⟨cl,ga,gn,gp,gs,pub,hv,hpb⟩:∃cl ga gn gp gs,∃pub:List Nat,fV fo=vG cl ga gn gp gs/\(∀w',w.grownBy w' none->BytesAt w' w'.heap.size ga gp pub/\pub.length=gn/\gn<=1000000):=by
  cases fo with
  | none=>exact⟨0,none,0,0,⟨#[]⟩,[],rfl,fun w' _=>⟨⟨Nat.le_refl _,Nat.zero_le _,by decide,fun i=>by simp,Or.inl rfl⟩,rfl,by decide⟩⟩
  | some x=>
   obtain⟨⟨ga,gn,gp,gs⟩,⟨cl,pub,pre⟩⟩:=x
   exact⟨cl,ga,gn,gp,gs,pub,rfl,fun w' hg=>by
    obtain⟨h1,h2,h3⟩:=HP.out _ w' rfl hg
    exact⟨h1.full,h2,h3⟩⟩
 rw[hv]
 have EF:=Lib.hid hpb;clear hpb hv HP HF
 have gU:=Lib.hid (And.intro (aj iM.out.1 hg) (And.intro (iM.out.2.1.grown hg (by simp)) iM.out.2.2));clear hg iM
 obtain⟨W2,hW2⟩:∃W2,W2=w1.alloc (.cells #[.int .i64 cl,.slice ga gn gp,.string gs] 26):=⟨_,rfl⟩
 obtain⟨M,hM⟩:∃M,M=w1.heap.size:=⟨_,rfl⟩
 have ga2:w1.grownBy W2 none:=by rw[hW2];exact au (ah _ _) _
 have bM:aG W2 M 26 [.int .i64 cl,.slice ga gn gp,.string gs]:=by rw[hW2,hM];exact aG.new _ _ _
 have hMN:N<M:=by have:=gU.out.2.1.lt;omega
 have HG2:=Lib.hid (And.intro (aj gU.out.1 ga2) (And.intro (gU.out.2.1.grown ga2 (by simp)) (And.intro gU.out.2.2 (And.intro bM hMN))))
 clear ga2 bM gU hMN
 go_upto_region 2 with fail
 rw[<- hW2,<- hM]
 clear hW2 hM
 have m1:=HG2.out.2.2.2.1.cell (i:=1) rfl
 obtain⟨q1,q2,q3⟩:=EF.out _ HG2.out.1
 have HC:=Lib.hid (BP _ gn gp ga pub W2 q2 q3 q1)
 clear q1 q2 q3 EF
 go_wp2_with fail
 refine HC.out.mono ?_
 rintro e w3 ⟨v,rfl,hg,ho⟩
 obtain⟨ca,cc,rfl⟩:∃ca cc,v=.slice ca gn cc:=by
  rcases xR ho with⟨rfl,h0⟩ |⟨g,c,rfl⟩
  .exact⟨none,0,by rw[h0]⟩
  .exact⟨_,_,rfl⟩
 have b3:=HG2.out.2.2.2.1.grown hg (by simp)
 have n3:=HG2.out.2.1.grown hg (by simp)
 have g3:=aj HG2.out.1 hg
 have hlt:=HG2.out.2.2.2.2
 have f1:=b3.free 1
 have c1:=b3.cell (i:=1) rfl
 have g4:=aJ g3 (p:=⟨M,1,none⟩) (show w.heap.size<=M by have:=HG2.out.2.2.1;omega) (.slice ca gn cc)
 have b4:=b3.set 1 (.slice ca gn cc)
 have n4:=n3.other (a:=⟨M,1,none⟩) (show M≠N by omega) (.slice ca gn cc)
 have x0:=b4.cell (i:=0) rfl
 have x1:=b4.cell (i:=1) rfl
 have x2:=b4.cell (i:=2) rfl
 have y0:=n4.cell (i:=0) rfl
 have y1:=n4.cell (i:=1) rfl
 have y2:=n4.cell (i:=2) rfl
 have z0:=n4.free 0
 have z1:=n4.free 1
 have z2:=n4.free 2
 have hlo:w.heap.size<=N:=HG2.out.2.2.1
 have h5:=((n4.set 0 (.int .i64 cl)).set 1 (.slice ca gn cc)).set 2 (.string gs)
 have g5:=aJ (aJ (aJ g4 (p:=⟨N,0,none⟩) hlo (.int .i64 cl)) (p:=⟨N,1,none⟩) hlo (.slice ca gn cc)) (p:=⟨N,2,none⟩) hlo (.string gs)
 have HE:=Lib.hid (And.intro h5 g5)
 clear hg ho b3 n3 g3 hlt g4 b4 n4 hlo h5 g5 HG2 HC
 go_wp2
 exact bodyPost_ret (v:=.tuple #[vG cl ca gn cc gs,.bool fo.isSome]) (Fg.pq Tryz.results9 _ _ N 26 _ (0,0) _ rfl HE.out.1 Tryz.underlying26 rfl yB rfl) rfl ⟨_,_,_,_,_,rfl,HE.out.2⟩
end Gr
end
section
open Go.RowKit Ow Wi Ve Rc Ed Sb
namespace Gr
set_option maxHeartbeats 8000000 in
set_option maxRecDepth 100000 in
theorem Qu (n cap m mc:Nat) (a am:Option Addr) (l:List GE) (rs:List E) (x:GE) (w:World) (hO:kr w) (hT:dB w) (hS:Tables w) (hl:l.length=n) (hn:n<1000000000000000) (hfl:∀y∈l,BX y) (hL:iZ w w.heap.size a l) (h0:a=none->cap=0) (hm:rs.length=m) (hm2:m<9223372036854775808) (hfr:∀y∈rs,Fits y) (hR:qR w w.heap.size am rs) (hx:QH w w.heap.size x):
  Calls Tryz.prog 3 #[.slice a n cap,.slice am m mc,gV x] w fun e w'=>e=.returned (.bool true)/\w.grownBy w' none:=by
 have JI:∀w',w.grownBy w' none->kr w'/\dB w'/\Tables w':=fun w' hg=>⟨hO.kept hg (fun b e=>by cases e),hT.grown hg,hS.kept hg (fun b e=>by cases e)⟩
 have HA:Hid (∀w',w.grownBy w' none->Calls Tryz.prog 5 #[] w' fun e w''=>e=.returned (.bool true)/\w'.grownBy w'' none):=fun w' hg=>Jt w' (JI w' hg).1 (JI w' hg).2.1 (JI w' hg).2.2
 have HGr:Hid (∀w',w.grownBy w' none->Calls Tryz.prog 6 #[.slice a n cap,.slice am m mc] w' fun e w''=>∃b:Bool,e=.returned (.bool b)/\(b=false->m<=6/\n<=1000/\∀x∈l,x.1.n<=10000)/\w'.grownBy w'' none):=fun w' hg=>LU n cap _ m mc _ a am l rs w' hl hn hfl (hL.stay hg) hm hm2 hfr (hR.stay hg)
 obtain⟨G,hG⟩:∃G,G=l.map (·.2):=⟨_,rfl⟩
 obtain⟨mr,hmr⟩:∃mr:Nat->Int,mr=fun i=>kX G [(rs.getD i e0).2]:=⟨_,rfl⟩
 obtain⟨ec,hec⟩:∃ec:Nat->Int,ec=Yp G (rs.map (·.2)):=⟨_,rfl⟩
 obtain⟨F,hF⟩:∃F,F=kX G (rs.map (·.2)):=⟨_,rfl⟩
 have HMs:Hid (∀w',w.grownBy w' none->m<=6->n<=1000->Calls Tryz.prog 7 #[.slice a n cap,.slice am m mc] w' fun e w''=>e=.returned (.int .i64 F)/\w'.grownBy w'' none):=fun w' hg h6 hk=>by
  rw[hF,hG];exact xA n cap _ m mc _ a am l rs w' (JI w' hg).1 (JI w' hg).2.1 (JI w' hg).2.2 hl (by omega) (hL.stay hg) hm (by omega) (hR.stay hg)
 have HM0:Hid (∀w',w.grownBy w' none->n<=1000->Calls Tryz.prog 7 #[.slice a n cap,.slice none 0 0] w' fun e w''=>e=.returned (.int .i64 (ec 0))/\w'.grownBy w'' none):=fun w' hg hk=>by
  rw[hec,hG];exact xA n cap _ 0 0 _ a none l [] w' (JI w' hg).1 (JI w' hg).2.1 (JI w' hg).2.2 hl (by omega) (hL.stay hg) rfl (by omega) (Jr _ _ _ (Nat.le_refl _))
 have HM1:Hid (∀w' N i,w.grownBy w' none->n<=1000->i<m->aG w' N 34 (recC (rs.getD i e0))->Calls Tryz.prog 7 #[.slice a n cap,.slice (some ⟨N,0,none⟩) 1 1] w' fun e w''=>e=.returned (.int .i64 (mr i))/\w'.grownBy w'' none):=fun w' N i hg hk hi hb=>by
  rw[hmr,hG]
  exact xA n cap _ 1 1 _ a (some ⟨N,0,none⟩) l [rs.getD i e0] w' (JI w' hg).1 (JI w' hg).2.1 (JI w' hg).2.2 hl (by omega) (hL.stay hg) rfl (by omega) (BU hb ((hR.stay hg).recs _ (Sb.xw (by omega))).full)
 have HM2:Hid (∀w' N i k av cv,w.grownBy w' none->n<=1000->i<m->k<=n->iZ w' w'.heap.size av (LW l x k)->aG w' N 34 (recC (rs.getD i e0))->rightG G=true->rightG ((LW l x k).map (·.2))=true->(rs.getD i e0).2.cl≠x.2.cl->Calls Tryz.prog 7 #[.slice av (n+1) cv,.slice (some ⟨N,0,none⟩) 1 1] w' fun e w''=>e=.returned (.int .i64 (mr i))/\w'.grownBy w'' none):=fun w' N i k av cv hg hk hi hkn hgr hb h1 h2 hc=>by
  rw[hG]at h1
  rw[hmr,hG]
  show Calls _ _ _ _ fun e w''=>e=.returned (.int .i64 (kX (l.map (·.2)) [(rs.getD i e0).2]))/\w'.grownBy w'' none
  rw[<- aaD l x k (rs.getD i e0).2 hc h1 h2]
  exact xA (n+1) cv _ 1 1 _ av (some ⟨N,0,none⟩) (LW l x k) [rs.getD i e0] w' (JI w' hg).1 (JI w' hg).2.1 (JI w' hg).2.2 (by rw[LX l x k (by omega),hl]) (by omega) hgr rfl (by omega) (BU hb ((hR.stay hg).recs _ (Sb.xw (by omega))).full)
 have HRt:Hid (∀w',w.grownBy w' none->n<=1000->Calls Tryz.prog 8 #[.slice a n cap] w' fun e w''=>e=.returned (.bool (rightG G))/\w'.grownBy w'' none):=fun w' hg hk=>by
  rw[hG];exact BS n cap _ a l w' hl (by omega) (hL.stay hg)
 have HRw:Hid (∀w' k av cv,n<=1000->k<=n->iZ w' w'.heap.size av (LW l x k)->Calls Tryz.prog 8 #[.slice av (n+1) cv] w' fun e w''=>e=.returned (.bool (rightG ((LW l x k).map (·.2))))/\w'.grownBy w'' none):=fun w' k av cv hk hkn hgr=>
  BS (n+1) cv _ av (LW l x k) w' (by rw[LX l x k (by omega),hl]) (by omega) hgr
 have HFd:Hid (∀w' c,w.grownBy w' none->n<=1000->(∀y∈l,y.1.n<=10000)->Calls Tryz.prog 9 #[.slice a n cap,.int .i64 c] w' fun e w''=>∃(cl:Int) (ga:Option Addr) (gn gp:Nat) (gs:ByteArray) (b:Bool),e=.returned (.tuple #[vG cl ga gn gp gs,.bool b])/\w'.grownBy w'' none):=fun w' c hg hk hgn=>
  (Qt n cap _ a c l w' hl (by omega) (hL.stay hg) (fun y hy=>by have:=hgn y hy;omega)).mono fun e w'' ⟨cl,ga,gn,gp,gs,he,hg⟩=>⟨cl,ga,gn,gp,gs,_,he,hg⟩
 have HE:Hid ((∀k,k<m->ec (k+1)=if ec k=0 then mr k else ec k)/\(∀k,m<=k\/ec k≠0->ec k=F)/\decide (ec 0=0)=rightG G):=by
  rw[hec,hmr,hF]
  exact⟨fun k hk=>XC G rs k (by omega),fun k h=>aaB G _ k (h.imp (fun h=>by rw[List.length_map];omega) id),UZ G⟩
 have HL:Hid (l.length=n/\(a=none->cap=0)/\rs.length=m/\∀w',w.grownBy w' none->iZ w' w.heap.size a l/\qR w' w.heap.size am rs/\QH w' w.heap.size x):=⟨hl,h0,hm,fun w' hg=>⟨hL.stay hg,hR.stay hg,hx.kept hg (fun r e=>by cases e)⟩⟩
 clear JI hO hT hS hl hn hfl hL h0 hm hfr hR hx hG hmr hec hF
 obtain⟨⟨xa,xn,xc,xs⟩,⟨DV,aii,aij⟩⟩:=x
 obtain⟨x,hx⟩:∃x:GE,x=(⟨xa,xn,xc,xs⟩,⟨DV,aii,aij⟩):=⟨_,rfl⟩
 rw[<- hx]at HM2 HRw HL
 show Calls _ _ #[.slice a n cap,.slice am m mc,.agg #[.int .i64 DV,.slice xa xn xc,.string xs]] w _
 obtain⟨N,hN⟩:∃N,N=w.heap.size:=⟨_,rfl⟩
 obtain⟨W0,hW0⟩:∃W0,W0=w.alloc (.cells #[.int .i64 DV,.slice xa xn xc,.string xs] 26):=⟨_,rfl⟩
 have hG0:w.grownBy W0 none:=by rw[hW0];exact au (ah _ _) _
 have hB0:aG W0 N 26 [.int .i64 DV,.slice xa xn xc,.string xs]:=by rw[hW0,hN];exact aG.new w _ _
 have HX:=Lib.hid hx;clear hx
 have iM:=Lib.hid (And.intro hG0 hB0);clear hG0 hB0
 go_enter Tryz.func3,Tryz.ntmps3
 go_wp2_with fail
 rw[<- hW0,<- hN]
 clear hW0 hN
 refine (HA.out _ iM.out.1).mono ?_
 rintro e w1 ⟨rfl,hg⟩
 have gU:=Lib.hid (And.intro (aj iM.out.1 hg) (iM.out.2.gn hg));clear hg iM HA
 go_wp2_with fail
 refine (HGr.out _ gU.out.1).mono ?_
 rintro e w2 ⟨b,rfl,hb6,hg⟩
 have HG2:=Lib.hid (And.intro (aj gU.out.1 hg) (gU.out.2.gn hg));clear hg gU HGr
 rcases b with _|_
 rotate_left
 .clear hb6
  go_wp2
  go_ret
  exact⟨rfl,HG2.out.1⟩
 obtain⟨h6,hk,hgn⟩:=hb6 rfl
 replace hgn:=Lib.hid hgn
 clear hb6
 have p1:=HG2.out.2.cell (i:=1) rfl
 have p2:=HG2.out.2.cell (i:=2) rfl
 by_cases hpl:xn>100
 .have i0:(xn:Int)>100:=by omega
  go_wp2
  go_ret
  exact⟨rfl,HG2.out.1⟩
 have i0:¬(xn:Int)>100:=by omega
 by_cases hps:xs.size>100
 .have i1:(xs.size:Int)>100:=by omega
  go_wp2
  go_ret
  exact⟨rfl,HG2.out.1⟩
 have i1:¬(xs.size:Int)>100:=by omega
 go_wp2_with fail
 clear p1 p2 i0 i1
 refine (HMs.out _ HG2.out.1 h6 hk).mono ?_
 rintro e w3 ⟨rfl,hg⟩
 have oU:=Lib.hid (And.intro (aj HG2.out.1 hg) (HG2.out.2.gn hg));clear hg HG2 HMs
 go_wp2_with fail
 refine (HM0.out _ oU.out.1 hk).mono ?_
 rintro e w4 ⟨rfl,hg⟩
 have CF:=Lib.hid (And.intro (aj oU.out.1 hg) (oU.out.2.gn hg));clear hg oU HM0
 go_wp2_with fail
 refine (HRt.out _ CF.out.1 hk).mono ?_
 rintro e w5 ⟨rfl,hg⟩
 have uY:=Lib.hid (And.intro (aj CF.out.1 hg) (CF.out.2.gn hg));clear hg CF
 obtain⟨rb,hrb⟩:∃rb,rb=rightG G:=⟨_,rfl⟩
 have hq:(ec 0==0)=rb:=by rw[hrb,<- HE.out.2.2];rfl
 rw[<- hrb,hq]
 clear hq
 replace hrb:=Lib.hid hrb
 go_upto_block 0 with fail
 go_cut [8,9] from 43 to 59 (fun f _ wx=>f=.int .i64 F/\w5.grownBy wx none)
 case first=>
  go_wp2_with fail
  go_loopw [8,9] (fun f i wr=>∃k:Nat,k<=m/\f=.int .i64 (ec k)/\i=.int .i64 k/\Hid (w5.grownBy wr none)) (fun _ i _=>m-(intOf i).toNat)
  case atStart=>exact⟨0,by omega,rfl,rfl,ah _ _⟩
  case round=>
   obtain⟨k,hkm,rfl,rfl,HI⟩:=hrel
   by_cases hlt:k<m
   .have j0:(k:Int)<(m:Int):=by omega
    by_cases hz:ec k=0
    .obtain⟨pb,po,rfl,hpb,hcs⟩:=(HL.out.2.2.2 _ (aj uY.out.1 HI.out)).2.1.at (by rw[HL.out.2.2.1];omega)
     have hx:=hcs k (by rw[HL.out.2.2.1];exact hlt)
     have HN:=Lib.hid ((HE.out.1 k hlt).trans (if_pos hz))
     have HK:Hid (∀w' N,w.grownBy w' none->aG w' N 34 (recC (rs.getD k e0))->Calls Tryz.prog 7 #[.slice a n cap,.slice (some ⟨N,0,none⟩) 1 1] w' fun e w''=>e=.returned (.int .i64 (mr k))/\w'.grownBy w'' none):=fun w' N hg hb=>HM1.out w' N k hg hk hlt hb
     generalize rs.getD k e0=y at *
     obtain⟨⟨s,a1,n1,c1',a2,n2,c2',a3,n3,c3'⟩,⟨key,cl,sq,cx,g,val,sig⟩⟩:=y
     obtain⟨c0,c1,c2,c3,c4,c5,c6⟩:=yD hx
     replace HK:Hid (∀w' N,w.grownBy w' none->aG w' N 34 [.string s,iV cl,iV sq,.slice a1 n1 c1',.bool g,.slice a2 n2 c2',.slice a3 n3 c3']->Calls Tryz.prog 7 #[.slice a n cap,.slice (some ⟨N,0,none⟩) 1 1] w' fun e w''=>e=.returned (.int .i64 (mr k))/\w'.grownBy w'' none):=HK
     obtain⟨vk,hvk⟩:∃vk,vk=mr k:=⟨_,rfl⟩
     rw[<- hvk]at HN HK
     clear hx hcs hvk
     unfold iV at c1 c2 HK
     go_wp2_with fail
     refine (HK.out _ _ (aj uY.out.1 (au HI.out _)) (aG.new _ _ _)).mono ?_
     rintro e w6 ⟨rfl,hg⟩
     have HI2:=Lib.hid (aj (au HI.out _) hg);clear hg c0 c1 c2 c3 c4 c5 c6
     go_wp2
     exact⟨⟨k+1,by omega,by rw[HN.out],rfl,HI2.out⟩,by show m-((k:Int)+1).toNat<m-(k:Int).toNat;omega⟩
    .have hend:=HE.out.2.1 k (Or.inr hz)
     have HI2:=Lib.hid (And.intro hend HI.out);clear hend HI
     go_wp2_with fail
     go_meet
     exact⟨by rw[HI2.out.1],HI2.out.2⟩
   .obtain rfl:k=m:=by omega
    have HI2:=Lib.hid (And.intro (HE.out.2.1 k (Or.inl (Nat.le_refl _))) HI.out);clear HI
    have j0:¬(k:Int)<(k:Int):=by omega
    go_wp2_with fail
    go_meet
    exact⟨by rw[HI2.out.1],HI2.out.2⟩
 case rest=>
  rename World=>w6
  obtain⟨rfl,hg⟩:=hcut
  have HG6:=Lib.hid (And.intro (aj uY.out.1 hg) (uY.out.2.gn hg));clear hg uY HE
  have p0:=HG6.out.2.cell (i:=0) rfl
  go_wp2_with fail
  clear p0
  refine (HFd.out _ DV HG6.out.1 hk hgn.out).mono ?_
  rintro e w7 ⟨cl',ga',gn',gp',gs',hb,rfl,hg⟩
  obtain⟨W8,Te⟩:∃W8,W8=w7.alloc (.cells #[.int .i64 cl',.slice ga' gn' gp',.string gs'] 26):=⟨_,rfl⟩
  have g8:=aj hg (au (ah w7 none) (.cells #[.int .i64 cl',.slice ga' gn' gp',.string gs'] 26))
  rw[<- Te]at g8
  have HG8:=Lib.hid (And.intro (aj HG6.out.1 g8) (HG6.out.2.gn g8));clear hg g8 HG6 HFd
  go_upto_region 16 with fail
  rw[<- Te]
  generalize w7.heap.size=AP
  clear Te
  have g9:=au (ah W8 none) (.cells #[] 26)
  have hown:mE (W8.alloc (.cells #[] 26)) W8.heap.size (.slice (some ⟨W8.heap.size,0,none⟩) 0 0) []:=World.ownsRow_made W8 #[] 0 (Nat.le_refl _) (by decide) rfl
  obtain⟨v',w9,hap,ho,hgr,hnn⟩:=pF (W8.alloc (.cells #[] 26)) W8.heap.size _ [] a n cap l hown HL.out.1 ((HL.out.2.2.2 _ (aj HG8.out.1 g9)).1.src) (fun e=>by
   refine⟨?_,HL.out.2.1 e⟩
   have h:=(HL.out.2.2.2 _ HG8.out.1).1
   rw[e]at h
   rw[<- HL.out.1,h.UW];rfl) (by rw[List.length_nil];omega) (by simp)
  rw[List.nil_append]at ho
  obtain⟨av,cv,rfl⟩:=BZ ho
  obtain⟨gw,rfl,hgl,hgu⟩:=DU ho (fun e=>by have:=hnn e;cases this)
  rw[HL.out.1]at ho hap
  have g9':=aX (aj g9 (ah _ none)) hgr (Nat.le_refl _) (row:=none)
  have Yq:=Lib.hid (And.intro (aj HG8.out.1 g9') (And.intro (HG8.out.2.gn g9') (And.intro ho (And.intro hgl hgu))));clear g9 g9' hown ho hgr hnn hgl hgu
  have HB:=Lib.hid (And.intro HG8.out.1.size HG8.out.2.lt);clear HG8
  go_upto_block 2 with (at_builtin;refine Lib.wpList_append_run _ rfl _ _ _ _ rfl _ _ rfl rfl _ _ hap ?_)
  generalize W8.heap.size=B8 at *
  clear hap
  go_cut [13] from 73 to 88 (fun i wx=>∃k:Nat,k<=n/\i=.int .i64 k/\w9.grownBy wx none)
  case first=>
   go_wp2_with fail
   go_loopw [13] (fun i wr=>∃k:Nat,k<=n/\i=.int .i64 k/\Hid (w9.grownBy wr none)) (fun i _=>n-(intOf i).toNat)
   case atStart=>exact⟨0,by omega,rfl,ah _ _⟩
   case round=>
    obtain⟨k,hkn,rfl,HI⟩:=hrel
    have p0:=(Yq.out.2.1.gn HI.out).cell (i:=0) rfl
    by_cases hlt:k<n
    .have j0:(k:Int)<(n:Int):=by omega
     have hc:=(lI Yq.out.2.2.1 HI.out).cells (g:=gw) rfl (k*3) (iV (l.getD k g0).2.cl) (by rw[show k*3=k*3+0 from rfl,UR l k 0 (by rw[HL.out.1];exact hlt) (by decide)];rfl)
     rw[Addr.add_lit,Nat.zero_add]at hc
     unfold iV at hc
     generalize (l.getD k g0).2.cl=ck at *
     have hd:decide ((k:Int)<(n:Int))=true:=decide_eq_true j0
     by_cases hck:ck<DV
     .have hd2:decide (ck<DV)=true:=decide_eq_true hck
      go_upto_region 18 with fail
      go_quiet (fail)
      go_wp2
      exact⟨⟨k+1,by omega,rfl,gK HI.out _⟩,by show n-((k:Int)+1).toNat<n-(k:Int).toNat;omega⟩
     .have hd2:decide (ck<DV)=false:=decide_eq_false hck
      go_upto_region 18 with fail
      go_quiet (fail)
      go_wp2_with fail
      go_meet
      exact⟨k,hkn,rfl,gK HI.out _⟩
    .obtain rfl:k=n:=by omega
     have j0:¬(k:Int)<(k:Int):=by omega
     have hd:decide ((k:Int)<(k:Int))=false:=decide_eq_false j0
     go_upto_region 18 with fail
     go_quiet (fail)
     go_wp2_with fail
     go_meet
     exact⟨k,hkn,rfl,gK HI.out _⟩
  case rest=>
   rename World=>Yt
   obtain⟨k,hkn,rfl,Gf⟩:=hcut
   have adU:=lI Yq.out.2.2.1 Gf
   have Fw:=Lib.hid (And.intro (aj Yq.out.1 Gf) (And.intro (Yq.out.2.1.gn Gf) (And.intro adU (And.intro Yq.out.2.2.2.1 (Nat.lt_of_lt_of_le Yq.out.2.2.2.2 Gf.size)))))
   clear Gf adU Yq
   have hcv:=(Jv Fw.out.2.2.1).2
   obtain⟨a',hsf,hsa⟩:=Jy gw n cv k hkn
   have hst:=Qq gw n cv k (by omega)
   have gE:=au (ah Yt none) (.cells #[] 26)
   have hown:mE (Yt.alloc (.cells #[] 26)) Yt.heap.size (.slice (some ⟨Yt.heap.size,0,none⟩) 0 0) []:=World.ownsRow_made Yt #[] 0 (Nat.le_refl _) (by decide) rfl
   obtain⟨v',FD,hap,ho,hgr,hnn⟩:=pF (Yt.alloc (.cells #[] 26)) Yt.heap.size _ [] (some a') (n-k) (cv-k) (l.drop k) hown (by rw[List.length_drop,HL.out.1]) (Qr (lI Fw.out.2.2.1 gE) hsa) (fun e=>by cases e) (by rw[List.length_nil];omega) (by simp)
   rw[List.nil_append]at ho
   obtain⟨ar,cr,rfl⟩:=BZ ho
   obtain⟨gr,rfl,hrl,hru⟩:=DU ho (fun e=>by have:=hnn e;cases this)
   have hln:(l.drop k).length=n-k:=by rw[List.length_drop,HL.out.1]
   rw[hln]at ho hap
   have gR:=aZ (aX (aj gE (ah _ none)) hgr (Nat.le_refl _) (row:=none))
   have Ca:=Lib.hid (And.intro (aj Fw.out.1 gR) (And.intro (Fw.out.2.1.gn gR) (And.intro (lI Fw.out.2.2.1 gR) (And.intro ho.drew (And.intro hrl gR.size)))))
   clear gE hown ho hgr hnn hrl hru gR hln
   go_upto_region 21 with (at_builtin;refine Lib.wpList_append_run _ rfl _ _ _ _ rfl _ _ rfl rfl _ _ hap ?_)
   clear hap hsf hsa
   have adV:aG (FD.drew.alloc (.cells #[.int .i64 DV,.slice xa xn xc,.string xs] 26)) FD.heap.size 26 ([x].flatMap gC):=by rw[HX.out];exact aG.new FD.drew [.int .i64 DV,.slice xa xn xc,.string xs] _
   have gX:=au (ah FD.drew none) (.cells #[.int .i64 DV,.slice xa xn xc,.string xs] 26)
   have ail:gw<FD.heap.size:=Nat.lt_of_lt_of_le Fw.out.2.2.2.2 Ca.out.2.2.2.2.2
   have hB8:B8<=gw:=Fw.out.2.2.2.1
   obtain⟨v3,w12,adW,XD,U0,_⟩:=pF _ B8 (.slice (some ⟨gw,0,none⟩) k cv) (l.take k) (some ⟨FD.heap.size,0,none⟩) 1 1 [x] (DT (lI Ca.out.2.2.1 gX) (by rw[HL.out.1];exact hkn)) rfl (fun b hb j u hu=>by cases hb;rw[Addr.add_lit,Nat.zero_add];exact adV.cell hu) (fun e=>by cases e) (by rw[List.length_take];omega) (by have:=gX.size;have:FD.drew.heap.size=FD.heap.size:=rfl;omega)
   have Yu:mE w12 Yt.heap.size (.slice (some ⟨gr,0,none⟩) (n-k) cr) (l.drop k):=World.ownsRow.kept (lI Ca.out.2.2.2.1 gX) U0 (Or.inr (fun e=>by
    have h1:=Ca.out.2.2.2.2.1
    have h2:=Fw.out.2.2.2.2
    simp only[Value.ownBlock,Option.some.injEq]at e
    omega))
   have hwB:w.heap.size<=B8:=HB.out.1
   have G12:=Fp (aj Ca.out.1 gX) (DT (k:=k) (lI Ca.out.2.2.1 gX) (by rw[HL.out.1];exact hkn)) hwB U0
   have eT:B8<=w12.heap.size:=by have:=U0.size;have:=gX.size;have:FD.drew.heap.size=FD.heap.size:=rfl;omega
   obtain⟨v4,w13,aaF,adX,aaG,_⟩:=pF w12 B8 v3 (l.take k++[x]) (some ⟨gr,0,none⟩) (n-k) cr (l.drop k) XD (by rw[List.length_drop,HL.out.1]) (UY Yu) (fun e=>by cases e) (by rw[List.length_append,List.length_take,List.length_singleton];omega) eT
   have G13:=Fp G12 XD hwB aaG
   have hN:aG w13 N 26 [.int .i64 DV,.slice xa xn xc,.string xs]:=by
    have h1:=HB.out.2
    refine ((Ca.out.2.1.gn gX).grown U0 ?_).grown aaG ?_
    .intro e;simp only[Value.ownBlock,Option.some.injEq]at e;omega
    .intro e;have:=(World.ownsRow.lt XD _ e.symm).1;omega
   obtain⟨av,Yv,rfl,hgw⟩:=Qs adX (fun y hy=>by
    have h:=HL.out.2.2.2 w13 G13
    rcases aaC l x k y hy with rfl|hy
    .exact⟨h.2.2.str,h.2.2.len,h.2.2.pub.full⟩
    .exact⟨(h.1.each y hy).str,(h.1.each y hy).len,(h.1.each y hy).pub.full⟩)
   have hwl:(l.take k++[x]++l.drop k).length=n+1:=by have h:=LX l x k (by rw[HL.out.1];exact hkn);rw[HL.out.1]at h;exact h
   rw[hwl]at aaF
   have aiq:=Lib.hid adW
   have air:=Lib.hid aaF
   have Qv:=Lib.hid (And.intro G13 (And.intro hN hgw))
   have p0:=Ca.out.2.1.cell (i:=0) rfl
   have p1:=Ca.out.2.1.cell (i:=1) rfl
   have p2:=Ca.out.2.1.cell (i:=2) rfl
   clear adV gX ail hB8 adW XD U0 Yu hwB G12 eT aaF adX aaG G13 hN hgw hwl Ca Fw
   go_region_law (first
    | (refine Fg.step_append rfl (.tmp 96) (.tmp 98) 22 rfl rfl _ _ rfl rfl _ _ aiq.out ?_)
    | (refine Fg.step_append rfl (.tmp 99) (.tmp 100) 22 rfl rfl _ _ rfl rfl _ _ air.out ?_))
   cases hb with
   | true=>
    go_wp2
    go_ret
    exact⟨rfl,Qv.out.1⟩
   | false=>
    go_wp2_with fail
    refine (HRt.out _ Qv.out.1 hk).mono ?_
    rintro e w14 ⟨rfl,hg⟩
    rw[<- hrb.out]
    have hN:=Qv.out.2.1.gn hg
    have hw:=(Qv.out.2.2.stay hg).UU
    have Qw:=Lib.hid (And.intro (aj Qv.out.1 hg) (And.intro hN hw));clear hN hw hg Qv
    cases rb with
    | false=>
     go_wp2
     go_ret
     exact⟨rfl,Qw.out.1⟩
    | true=>
     go_wp2_with fail
     refine (HRw.out _ k av Yv hk hkn Qw.out.2.2).mono ?_
     rintro e w15 ⟨rfl,hg⟩
     have hN:=Qw.out.2.1.gn hg
     have hw:=(Qw.out.2.2.stay hg).UU
     have LY:=Lib.hid (And.intro (aj Qw.out.1 hg) (And.intro hN hw));clear hN hw hg Qw
     obtain⟨rw',hrw⟩:∃b,b=rightG ((LW l x k).map (·.2)):=⟨_,rfl⟩
     rw[<- hrw]
     replace hrw:=Lib.hid hrw
     cases rw' with
     | false=>
      go_wp2
      go_ret
      exact⟨rfl,LY.out.1⟩
     | true=>
      go_wp2_with fail
      go_loopw [15] (fun i wr=>∃j:Nat,j<=m/\i=.int .i64 j/\Hid (w15.grownBy wr none)) (fun i _=>m-(intOf i).toNat)
      case atStart=>exact⟨0,by omega,rfl,ah _ _⟩
      case round=>
       obtain⟨j,hjm,rfl,HI⟩:=hrel
       by_cases hlt:j<m
       .have j0:(j:Int)<(m:Int):=by omega
        obtain⟨pb,po,rfl,hpb,hcs⟩:=(HL.out.2.2.2 _ (aj LY.out.1 HI.out)).2.1.at (by rw[HL.out.2.2.1];omega)
        have hx:=hcs j (by rw[HL.out.2.2.1];exact hlt)
        have hN:=LY.out.2.1.gn HI.out
        obtain⟨mj,hmj⟩:∃mj,mj=mr j:=⟨_,rfl⟩
        have HKa:Hid (∀w' N,w15.grownBy w' none->aG w' N 34 (recC (rs.getD j e0))->Calls Tryz.prog 7 #[.slice a n cap,.slice (some ⟨N,0,none⟩) 1 1] w' fun e w''=>e=.returned (.int .i64 mj)/\w'.grownBy w'' none):=fun w' N hg hb=>by
         rw[hmj];exact HM1.out w' N j (aj LY.out.1 hg) hk hlt hb
        have HKb:Hid ((rs.getD j e0).2.cl≠x.2.cl->∀w' N,w15.grownBy w' none->aG w' N 34 (recC (rs.getD j e0))->Calls Tryz.prog 7 #[.slice av (n+1) Yv,.slice (some ⟨N,0,none⟩) 1 1] w' fun e w''=>e=.returned (.int .i64 mj)/\w'.grownBy w'' none):=fun hc w' N hg hb=>by
         rw[hmj];exact HM2.out w' N j k av Yv (aj LY.out.1 hg) hk hlt hkn (LY.out.2.2.stay hg).UU hb hrb.out.symm hrw.out.symm hc
        rw[show x.2.cl=DV by rw[HX.out]]at HKb
        generalize rs.getD j e0=y at *
        obtain⟨⟨s,a1,n1,c1',a2,n2,c2',a3,n3,c3'⟩,⟨key,cl,sq,cx,g,val,sig⟩⟩:=y
        obtain⟨RV,hRV⟩:∃RV:List Value,RV=[.string s,.int .i64 cl,.int .i64 sq,.slice a1 n1 c1',.bool g,.slice a2 n2 c2',.slice a3 n3 c3']:=⟨_,rfl⟩
        replace HKa:Hid (∀w' N,w15.grownBy w' none->aG w' N 34 RV->Calls Tryz.prog 7 #[.slice a n cap,.slice (some ⟨N,0,none⟩) 1 1] w' fun e w''=>e=.returned (.int .i64 mj)/\w'.grownBy w'' none):=by rw[hRV];exact HKa
        replace HKb:Hid (cl≠DV->∀w' N,w15.grownBy w' none->aG w' N 34 RV->Calls Tryz.prog 7 #[.slice av (n+1) Yv,.slice (some ⟨N,0,none⟩) 1 1] w' fun e w''=>e=.returned (.int .i64 mj)/\w'.grownBy w'' none):=by rw[hRV];exact HKb
        have uK:=Lib.hid (yD hx)
        unfold iV at uK
        clear hx hcs hmj HM1 HM2 HRw HRt
        by_cases hc:cl=DV
        .have hb1:(cl !=DV)=false:=by simpa using hc
         have p0:=hN.cell (i:=0) rfl
         have c1:=uK.out.2.1
         go_upto_region 27 with fail
         go_quiet (fail)
         go_wp2
         exact⟨⟨j+1,by omega,rfl,gK HI.out _⟩,by show m-((j:Int)+1).toNat<m-(j:Int).toNat;omega⟩
        .have hb1:(cl !=DV)=true:=by simpa using hc
         have HKc:=Lib.hid (HKb.out hc)
         go_upto_region 27 with fail
         refine Fg.sS [] [.any,.any,.any,.any,.any,.any,.any,.any,.any,.any,.any,.any,.any,.any,.any,.any,.any,.any,.any,.any,.any,.any,.any,.any,.any,.any,.any,.any,.any,.any,.any,.any,.any,.any,.any,.any,.any,.any,.any,.any,.any,.any,.any,.any,.any,.any,.any,.any,.any,.any,.any,.any,.any,.any,.any,.any,.any,.any,.any,.any,.any,.any,.any,.any,.any,.any,.any,.any,.any,.any,.any,.any,.any,.any,.any,.any,.any,.any,.any,.any,.any,.any,.any,.any,.any,.any,.any,.any,.any,.any,.any,.any,.any,.any,.any,.any,.any,.any,.any,.any,.any,.any,.any,.any,.any,.any,.any,.any,.any,.any,.any,.any,.any,.any,.any,.any,.any,.any,.any,.val (Value.slice (some ⟨pb,po,none⟩) m mc),.val (Value.int .i64 (j:Int)),.val (Value.pointer (some ⟨pb,po+j*7,none⟩)),.val (Value.pointer (some ⟨pb,po+j*7+1,none⟩)),.val (Value.int .i64 cl),.val (Value.pointer (some ⟨N,0,none⟩)),.val (Value.int .i64 DV),.val (Value.bool true),.val (Value.bool true),.val (Value.slice av (n+1) Yv),.val (Value.slice (some ⟨pb,po,none⟩) m mc),.val (Value.int .i64 (j:Int)),.val (Value.pointer (some ⟨pb,po+j*7,none⟩)),.val (vV s cl sq a1 n1 c1' g a2 n2 c2' a3 n3 c3'),.adS RV,.val (Value.int .i64 mj),.val (Value.slice a n cap),.val (Value.slice (some ⟨pb,po,none⟩) m mc),.val (Value.int .i64 (j:Int)),.val (Value.pointer (some ⟨pb,po+j*7,none⟩)),.val (vV s cl sq a1 n1 c1' g a2 n2 c2' a3 n3 c3'),.adS RV,.val (Value.int .i64 mj),.val (Value.bool false),.val (Value.bool false)] wr 25 (ah _ _) (by kernel_rfl) (by kernel_rfl) (by kernel_rfl) (by kernel_rfl) (by decide) (by kernel_rfl) ?_ ?_
         .refine⟨Fg.vT rfl (by decide) fun ac w h=>?_,?_⟩
          .have e1:_=Value.slice (some ⟨pb,po,none⟩) m mc:=h.r 1
           exact⟨_,w,aA rfl,Fg.run_move rfl e1,ah _ _,rfl⟩
          refine⟨Fg.vT rfl (by decide) fun ac w h=>?_,?_⟩
          .have e15:_=Value.int .i64 (j:Int):=h.r 15
           exact⟨_,w,aA rfl,Fg.run_move rfl e15,ah _ _,rfl⟩
          refine⟨Fg.vT rfl (by decide) fun ac w h=>?_,?_⟩
          .have e119:_=Value.slice (some ⟨pb,po,none⟩) m mc:=h.d 119
           have e120:_=Value.int .i64 (j:Int):=h.d 120
           have i0:(j:Int)<(m:Int):=j0
           refine⟨.pointer (some ⟨pb,po+j*7,none⟩),w,aA rfl,?_,ah _ _,rfl⟩
           clear h
           simp only[execOp,Act.eval,e119,e120]
           go_simp
          refine⟨Fg.vT rfl (by decide) fun ac w h=>?_,?_⟩
          .have Oe:_=Value.pointer (some ⟨pb,po+j*7,none⟩):=h.d 121
           refine⟨Value.pointer (some ⟨pb,po+j*7+1,none⟩),w,aA rfl,?_,ah _ _,rfl⟩
           clear h
           simp only[execOp,Act.eval,Oe]
           go_simp
          refine⟨Fg.vT rfl (by decide) fun ac w h=>?_,?_⟩
          .have Og:_=Value.pointer (some ⟨pb,po+j*7+1,none⟩):=h.d 122
           have y0:w.cell? ⟨pb,po+j*7+1,none⟩=some (.int .i64 cl):=by rw[aW h.base (block_lt_of_cell (uK.out.2.1)) (by simp)];exact uK.out.2.1
           refine⟨Value.int .i64 cl,w,aA rfl,?_,ah _ _,rfl⟩
           clear h
           simp only[execOp,Act.eval,Og]
           go_simp
          refine⟨Fg.vT rfl (by decide) fun ac w h=>?_,?_⟩
          .have e5:_=Value.pointer (some ⟨N,0,none⟩):=h.r 5
           refine⟨Value.pointer (some ⟨N,0,none⟩),w,aA rfl,?_,ah _ _,rfl⟩
           clear h
           simp only[execOp,Act.eval,e5]
           go_simp
          refine⟨Fg.vT rfl (by decide) fun ac w h=>?_,?_⟩
          .have Oh:_=Value.pointer (some ⟨N,0,none⟩):=h.d 124
           have m0:=((hN).grown h.base (by simp)).cell (i:=0) rfl
           refine⟨Value.int .i64 DV,w,aA rfl,?_,ah _ _,rfl⟩
           clear h
           simp only[execOp,Act.eval,Oh]
           go_simp
          refine⟨Fg.vT rfl (by decide) fun ac w h=>?_,?_⟩
          .have Oy:_=Value.int .i64 cl:=h.d 123
           have e125:_=Value.int .i64 DV:=h.d 125
           refine⟨.bool true,w,aA rfl,?_,ah _ _,rfl⟩
           clear h
           simp only[execOp,Act.eval,Oy,e125]
           go_simp
          refine⟨Fg.vT rfl (by decide) fun ac w h=>?_,?_⟩
          .have e126:_=Value.bool true:=h.d 126
           exact⟨_,w,aA rfl,Fg.run_move rfl e126,ah _ _,rfl⟩
          refine⟨Fg.vT rfl (by decide) fun ac w h=>?_,?_⟩
          .have e127:_=Value.bool true:=h.d 127
           have e12:_=Value.slice av (n+1) Yv:=h.r 12
           exact⟨_,w,aR (d:=127) rfl rfl (by rw[h.size];show 127<144;decide) e127,Fg.run_move rfl e12,ah _ _,rfl⟩
          refine⟨Fg.vT rfl (by decide) fun ac w h=>?_,?_⟩
          .have e127:_=Value.bool true:=h.d 127
           have e1:_=Value.slice (some ⟨pb,po,none⟩) m mc:=h.r 1
           exact⟨_,w,aR (d:=127) rfl rfl (by rw[h.size];show 127<144;decide) e127,Fg.run_move rfl e1,ah _ _,rfl⟩
          refine⟨Fg.vT rfl (by decide) fun ac w h=>?_,?_⟩
          .have e127:_=Value.bool true:=h.d 127
           have e15:_=Value.int .i64 (j:Int):=h.r 15
           exact⟨_,w,aR (d:=127) rfl rfl (by rw[h.size];show 127<144;decide) e127,Fg.run_move rfl e15,ah _ _,rfl⟩
          refine⟨Fg.vT rfl (by decide) fun ac w h=>?_,?_⟩
          .have e127:_=Value.bool true:=h.d 127
           have e129:_=Value.slice (some ⟨pb,po,none⟩) m mc:=h.d 129
           have Oj:_=Value.int .i64 (j:Int):=h.d 130
           have i0:(j:Int)<(m:Int):=j0
           refine⟨.pointer (some ⟨pb,po+j*7,none⟩),w,aR (d:=127) rfl rfl (by rw[h.size];show 127<144;decide) e127,?_,ah _ _,rfl⟩
           clear h
           simp only[execOp,Act.eval,e129,Oj]
           go_simp
          refine⟨Fg.vT rfl (by decide) fun ac w h=>?_,?_⟩
          .have e127:_=Value.bool true:=h.d 127
           have Oi:_=Value.pointer (some ⟨pb,po+j*7,none⟩):=h.d 131
           have m0:w.cell? ⟨pb,po+j*7,none⟩=some (.string s):=by rw[aW h.base (block_lt_of_cell (uK.out.1)) (by simp)];exact uK.out.1
           have m1:w.cell? ⟨pb,po+j*7+1,none⟩=some (.int .i64 cl):=by rw[aW h.base (block_lt_of_cell (uK.out.2.1)) (by simp)];exact uK.out.2.1
           have m2:w.cell? ⟨pb,po+j*7+2,none⟩=some (.int .i64 sq):=by rw[aW h.base (block_lt_of_cell (uK.out.2.2.1)) (by simp)];exact uK.out.2.2.1
           have m3:w.cell? ⟨pb,po+j*7+3,none⟩=some (.slice a1 n1 c1'):=by rw[aW h.base (block_lt_of_cell (uK.out.2.2.2.1)) (by simp)];exact uK.out.2.2.2.1
           have m4:w.cell? ⟨pb,po+j*7+4,none⟩=some (.bool g):=by rw[aW h.base (block_lt_of_cell (uK.out.2.2.2.2.1)) (by simp)];exact uK.out.2.2.2.2.1
           have m5:w.cell? ⟨pb,po+j*7+5,none⟩=some (.slice a2 n2 c2'):=by rw[aW h.base (block_lt_of_cell (uK.out.2.2.2.2.2.1)) (by simp)];exact uK.out.2.2.2.2.2.1
           have m6:w.cell? ⟨pb,po+j*7+6,none⟩=some (.slice a3 n3 c3'):=by rw[aW h.base (block_lt_of_cell (uK.out.2.2.2.2.2.2)) (by simp)];exact uK.out.2.2.2.2.2.2
           refine⟨vV s cl sq a1 n1 c1' g a2 n2 c2' a3 n3 c3',w,aR (d:=127) rfl rfl (by rw[h.size];show 127<144;decide) e127,?_,ah _ _,rfl⟩
           clear h
           simp only[execOp,Act.eval,Oi]
           go_simp
          refine⟨Fg.vT rfl (by decide) fun ac w h=>?_,?_⟩
          .have e127:_=Value.bool true:=h.d 127
           have Ol:_=vV s cl sq a1 n1 c1' g a2 n2 c2' a3 n3 c3':=h.d 132
           refine⟨.slice (some ⟨w.heap.size,0,none⟩) 1 1,w.alloc (.cells #[.string s,.int .i64 cl,.int .i64 sq,.slice a1 n1 c1',.bool g,.slice a2 n2 c2',.slice a3 n3 c3'] 34),aR (d:=127) rfl rfl (by rw[h.size];show 127<144;decide) e127,?_,au (ah _ _) _,⟨_,rfl,by rw[hRV];exact aG.new w [.string s,.int .i64 cl,.int .i64 sq,.slice a1 n1 c1',.bool g,.slice a2 n2 c2',.slice a3 n3 c3'] _⟩⟩
           clear h
           simp only[execOp,Act.eval,Ol,List.map_toArray,List.map_cons,List.map_nil]
           go_simp
          refine⟨Fg.cT rfl (by decide) fun ac w h=>?_,?_⟩
          .have e127:_=Value.bool true:=h.d 127
           have e128:_=Value.slice av (n+1) Yv:=h.d 128
           obtain⟨adY,Oz,aiu⟩:∃N,ac.tmps.getD 133 undef=.slice (some ⟨N,0,none⟩) 1 1/\aG w N 34 RV:=h.dep 133 (by kernel_rfl)
           refine⟨7,#[Value.slice av (n+1) Yv,Value.slice (some ⟨adY,0,none⟩) 1 1],aR (d:=127) rfl rfl (by rw[h.size];show 127<144;decide) e127,Fg.aN rfl rfl (by simp only[List.map_toArray,List.map_cons,List.map_nil,Act.eval,e128,Oz]) (Fg.aI Tryz.func7 (by kernel_rfl) (by kernel_rfl)),?_⟩
           exact (HKc.out w adY (aj HI.out h.base) aiu).mono fun _ _ ⟨he,hg⟩=>⟨_,he,hg,rfl⟩
          refine⟨Fg.vT rfl (by decide) fun ac w h=>?_,?_⟩
          .have e127:_=Value.bool true:=h.d 127
           have e0:_=Value.slice a n cap:=h.r 0
           exact⟨_,w,aR (d:=127) rfl rfl (by rw[h.size];show 127<144;decide) e127,Fg.run_move rfl e0,ah _ _,rfl⟩
          refine⟨Fg.vT rfl (by decide) fun ac w h=>?_,?_⟩
          .have e127:_=Value.bool true:=h.d 127
           have e1:_=Value.slice (some ⟨pb,po,none⟩) m mc:=h.r 1
           exact⟨_,w,aR (d:=127) rfl rfl (by rw[h.size];show 127<144;decide) e127,Fg.run_move rfl e1,ah _ _,rfl⟩
          refine⟨Fg.vT rfl (by decide) fun ac w h=>?_,?_⟩
          .have e127:_=Value.bool true:=h.d 127
           have e15:_=Value.int .i64 (j:Int):=h.r 15
           exact⟨_,w,aR (d:=127) rfl rfl (by rw[h.size];show 127<144;decide) e127,Fg.run_move rfl e15,ah _ _,rfl⟩
          refine⟨Fg.vT rfl (by decide) fun ac w h=>?_,?_⟩
          .have e127:_=Value.bool true:=h.d 127
           have Oo:_=Value.slice (some ⟨pb,po,none⟩) m mc:=h.d 136
           have e137:_=Value.int .i64 (j:Int):=h.d 137
           have i0:(j:Int)<(m:Int):=j0
           refine⟨.pointer (some ⟨pb,po+j*7,none⟩),w,aR (d:=127) rfl rfl (by rw[h.size];show 127<144;decide) e127,?_,ah _ _,rfl⟩
           clear h
           simp only[execOp,Act.eval,Oo,e137]
           go_simp
          refine⟨Fg.vT rfl (by decide) fun ac w h=>?_,?_⟩
          .have e127:_=Value.bool true:=h.d 127
           have e138:_=Value.pointer (some ⟨pb,po+j*7,none⟩):=h.d 138
           have m0:w.cell? ⟨pb,po+j*7,none⟩=some (.string s):=by rw[aW h.base (block_lt_of_cell (uK.out.1)) (by simp)];exact uK.out.1
           have m1:w.cell? ⟨pb,po+j*7+1,none⟩=some (.int .i64 cl):=by rw[aW h.base (block_lt_of_cell (uK.out.2.1)) (by simp)];exact uK.out.2.1
           have m2:w.cell? ⟨pb,po+j*7+2,none⟩=some (.int .i64 sq):=by rw[aW h.base (block_lt_of_cell (uK.out.2.2.1)) (by simp)];exact uK.out.2.2.1
           have m3:w.cell? ⟨pb,po+j*7+3,none⟩=some (.slice a1 n1 c1'):=by rw[aW h.base (block_lt_of_cell (uK.out.2.2.2.1)) (by simp)];exact uK.out.2.2.2.1
           have m4:w.cell? ⟨pb,po+j*7+4,none⟩=some (.bool g):=by rw[aW h.base (block_lt_of_cell (uK.out.2.2.2.2.1)) (by simp)];exact uK.out.2.2.2.2.1
           have m5:w.cell? ⟨pb,po+j*7+5,none⟩=some (.slice a2 n2 c2'):=by rw[aW h.base (block_lt_of_cell (uK.out.2.2.2.2.2.1)) (by simp)];exact uK.out.2.2.2.2.2.1
           have m6:w.cell? ⟨pb,po+j*7+6,none⟩=some (.slice a3 n3 c3'):=by rw[aW h.base (block_lt_of_cell (uK.out.2.2.2.2.2.2)) (by simp)];exact uK.out.2.2.2.2.2.2
           refine⟨vV s cl sq a1 n1 c1' g a2 n2 c2' a3 n3 c3',w,aR (d:=127) rfl rfl (by rw[h.size];show 127<144;decide) e127,?_,ah _ _,rfl⟩
           clear h
           simp only[execOp,Act.eval,e138]
           go_simp
          refine⟨Fg.vT rfl (by decide) fun ac w h=>?_,?_⟩
          .have e127:_=Value.bool true:=h.d 127
           have Ot:_=vV s cl sq a1 n1 c1' g a2 n2 c2' a3 n3 c3':=h.d 139
           refine⟨.slice (some ⟨w.heap.size,0,none⟩) 1 1,w.alloc (.cells #[.string s,.int .i64 cl,.int .i64 sq,.slice a1 n1 c1',.bool g,.slice a2 n2 c2',.slice a3 n3 c3'] 34),aR (d:=127) rfl rfl (by rw[h.size];show 127<144;decide) e127,?_,au (ah _ _) _,⟨_,rfl,by rw[hRV];exact aG.new w [.string s,.int .i64 cl,.int .i64 sq,.slice a1 n1 c1',.bool g,.slice a2 n2 c2',.slice a3 n3 c3'] _⟩⟩
           clear h
           simp only[execOp,Act.eval,Ot,List.map_toArray,List.map_cons,List.map_nil]
           go_simp
          refine⟨Fg.cT rfl (by decide) fun ac w h=>?_,?_⟩
          .have e127:_=Value.bool true:=h.d 127
           have Oq:_=Value.slice a n cap:=h.d 135
           obtain⟨adZ,Ov,aiv⟩:∃N,ac.tmps.getD 140 undef=.slice (some ⟨N,0,none⟩) 1 1/\aG w N 34 RV:=h.dep 140 (by kernel_rfl)
           refine⟨7,#[Value.slice a n cap,Value.slice (some ⟨adZ,0,none⟩) 1 1],aR (d:=127) rfl rfl (by rw[h.size];show 127<144;decide) e127,Fg.aN rfl rfl (by simp only[List.map_toArray,List.map_cons,List.map_nil,Act.eval,Oq,Ov]) (Fg.aI Tryz.func7 (by kernel_rfl) (by kernel_rfl)),?_⟩
           exact (HKa.out w adZ (aj HI.out h.base) aiv).mono fun _ _ ⟨he,hg⟩=>⟨_,he,hg,rfl⟩
          refine⟨Fg.vT rfl (by decide) fun ac w h=>?_,?_⟩
          .have e127:_=Value.bool true:=h.d 127
           have Om:_=Value.int .i64 mj:=h.d 134
           have Ou:_=Value.int .i64 mj:=h.d 141
           refine⟨.bool false,w,aR (d:=127) rfl rfl (by rw[h.size];show 127<144;decide) e127,?_,ah _ _,rfl⟩
           clear h
           simp only[execOp,Act.eval,Om,Ou]
           go_simp
          refine⟨Fg.vT rfl (by decide) fun ac w h=>?_,?_⟩
          .have e127:_=Value.bool true:=h.d 127
           have Ox:_=Value.bool false:=h.d 142
           refine⟨Value.bool false,w,aA rfl,?_,ah _ _,rfl⟩
           clear h
           simp only[execOp,Act.eval,e127,Ox]
           go_simp
          trivial
         .intro aq wq hB hsz hdf hrest aC hpt
          obtain⟨⟨u119,e119⟩,⟨u120,e120⟩,⟨u121,Oe⟩,⟨u122,Og⟩,⟨u123,Oy⟩,⟨u124,Oh⟩,⟨u125,e125⟩,⟨u126,e126⟩,⟨u127,e127⟩,⟨u128,e128⟩,⟨u129,e129⟩,⟨u130,Oj⟩,⟨u131,Oi⟩,⟨u132,Ol⟩,⟨u133,Oz⟩,⟨u134,Om⟩,⟨u135,Oq⟩,⟨u136,Oo⟩,⟨u137,e137⟩,⟨u138,e138⟩,⟨u139,Ot⟩,⟨u140,Ov⟩,⟨u141,Ou⟩,⟨u142,Ox⟩,_⟩:=Fg.bn aq [119,120,121,122,123,124,125,126,127,128,129,130,131,132,133,134,135,136,137,138,139,140,141,142]
          have e143:aq.tmps.getD 143 undef=Value.bool false:=aC 143 (by kernel_rfl)
          obtain rfl:=Fg.aP [119,120,121,122,123,124,125,126,127,128,129,130,131,132,133,134,135,136,137,138,139,140,141,142,143] (vs:=[_,_,_,_,_,_,_,_,_,_,_,_,_,_,_,_,_,_,_,_,_,_,_,_,_,_,_,_,_,_,_,_,_,_,_,_,_,_,_,_,_,_,_,_,_,_,_,_,_,_,_,_,_,_,_,_,_,_,_,_,_,_,_,_,_,_,_,_,_,_,_,_,_,_,_,_,_,_,_,_,_,_,_,_,_,_,_,_,_,_,_,_,_,_,_,_,_,_,_,_,_,_,_,_,_,_,_,_,_,_,_,_,_,_,_,_,_,_,_,u119,u120,u121,u122,u123,u124,u125,u126,u127,u128,u129,u130,u131,u132,u133,u134,u135,u136,u137,u138,u139,u140,u141,u142,Value.bool false]) hsz hrest (by kernel_rfl) rfl rfl ⟨e119,e120,Oe,Og,Oy,Oh,e125,e126,e127,e128,e129,Oj,Oi,Ol,Oz,Om,Oq,Oo,e137,e138,Ot,Ov,Ou,Ox,e143,trivial⟩ hdf
          clear hsz hdf hrest aC hpt e119 e120 Oe Og Oy Oh e125 e126 e127 e128 e129 Oj Oi Ol Oz Om Oq Oo e137 e138 Ot Ov Ou Ox e143
          refine wpList_nil ?_
          dsimp only
          have HJ:=Lib.hid (aj HI.out hB);clear hB
          go_wp2
          exact⟨⟨j+1,by omega,rfl,HJ.out⟩,by show m-((j:Int)+1).toNat<m-(j:Int).toNat;omega⟩
       .obtain rfl:j=m:=by omega
        have j0:¬(j:Int)<(j:Int):=by omega
        go_wp2
        go_ret
        exact⟨rfl,aj LY.out.1 HI.out⟩
end Gr
end
section
open Go.ChangeShapes Go.WideShapes Go.ChangeAt Go.RowKit Go.Deep Go.Joins Ve
namespace Ve
theorem Cb {H:Type} {enc:TypeId×Value->H} {W:World} {base n:Nat} {sp:Nat->Bool} {hd:Bool} {v:Value} {x:DataW H×List MemPlace} (h:DataW.trod enc Tryz.prog W base sp hd n 3 [v]=some x):∃k,v=iV k:=by
 obtain⟨k,hk,_⟩:=DataW.trod_int Tryz.underlying3 h
 exact⟨k,by simpa using hk⟩
theorem U1 {W:World} {x:Addr} {v:Value} (h:W.cell? (x.add 0)=some v):∃b off,x=⟨b,off,none⟩/\b<W.heap.size:=by
 obtain⟨b,off,spot⟩:=x
 have hspot:spot=none:=by simpa[Addr.add] using World.cell?_spot h
 subst hspot
 exact⟨b,off,rfl,by simpa[Addr.add] using block_lt_of_cell h⟩
theorem sV {α:Type} (f:Nat->α) (n i:Nat) (z:α) (h:i<n):((List.range n).map f).getD i z=f i:=by
 rw[List.getD_eq_getElem?_getD,List.getElem?_map,List.getElem?_range h];rfl
theorem Qx {H:Type} {enc:TypeId×Value->H} {W:World} {a:Option Addr} {len cap:Nat} {x:DataW H×List MemPlace} {fuel:Nat} (hf:DataW.trod enc Tryz.prog W 0 (fun _=>true) true fuel 32 [.slice a len cap]=some x):
  ∃l:List D,l.length=len/\len<9223372036854775808/\eY W W.heap.size a l:=by
 rcases open_slice_pairs Tryz.underlying32 Tryz.underlying59 (by kernel_rfl) rfl rfl (by kernel_rfl) (by kernel_rfl) hf with⟨hcs,_⟩ |⟨b,l,c,m,k,V0,V1,D0,D1,P0,P1,hcs,_,hl,hm,hmm,_,hall⟩
 .simp only[List.cons.injEq,Value.slice.injEq,and_true]at hcs
  obtain⟨rfl,rfl,rfl⟩:=hcs
  exact⟨[],rfl,by decide,Nat.le_refl _,Or.inl rfl⟩
 .simp only[List.cons.injEq,Value.slice.injEq,and_true]at hcs
  obtain⟨rfl,rfl,rfl⟩:=hcs
  simp only[if_true]at hmm
  subst hmm
  have each:∀i,i<len->∃q:D,V0 i=iV q.1/\V1 i=iV q.2:=fun i hi=>by
   obtain⟨_,_,t0,t1⟩:=hall i (by omega)
   obtain⟨x0,e0⟩:=Cb t0
   obtain⟨x1,e1⟩:=Cb t1
   exact⟨(x0,x1),e0,e1⟩
  obtain⟨q,hq⟩:=choose_lt each
  refine⟨(List.range len).map q,by simp,by unfold maxLen at hm;omega,Nat.le_refl _,?_⟩
  by_cases h0:len=0
  .left;simp[h0]
  .have c0:=(hall 0 (by omega)).1
   rw[Nat.zero_mul]at c0
   obtain⟨pb,po,rfl,hlt⟩:=U1 c0
   refine Or.inr ⟨pb,po,rfl,hlt,fun i hi=>?_⟩
   simp only[List.length_map,List.length_range]at hi
   obtain⟨e0,e1,_⟩:=hall i (by omega)
   rw[Addr.add_lit]at e0 e1
   rw[sV _ _ _ _ hi,<- (hq i hi).1,<- (hq i hi).2]
   exact⟨e0,by rw[Nat.add_assoc];exact e1⟩
end Ve
end
section
open Go.ChangeShapes Go.WideShapes Go.ChangeAt Go.RowKit Go.Deep Go.Joins Ow Ve
namespace Rc
theorem xB {H:Type} {enc:TypeId×Value->H} {W:World} {n:Nat} {t e:TypeId} {v:Value} {y:DataW H×List MemPlace} (ht:Tryz.prog.underlying t=some (.slice e)) (h:DataW.trod enc Tryz.prog W 0 (fun _=>true) true n t [v]=some y):∃a l c,v=.slice a l c:=by
 rcases open_slice ht h with⟨hcs,_⟩ |⟨a,l,c,_,_,_,_,hcs,_⟩
 .exact⟨none,0,0,by simpa using hcs⟩
 .exact⟨some a,l,c,by simpa using hcs⟩
theorem vE {H:Type} {enc:TypeId×Value->H} {W:World} {n len cap:Nat} {a:Option Addr} {y:DataW H×List MemPlace} (h:DataW.trod enc Tryz.prog W 0 (fun _=>true) true n 24 [.slice a len cap]=some y):∃p,p.length=len/\BytesAt W W.heap.size a cap p:=
 Li (d:=y.1) (ps:=y.2) ⟨n,h⟩
end Rc
end
section
open Go.ChangeShapes Go.WideShapes Go.ChangeAt Go.RowKit Go.Deep Go.Joins Ow Ve Rc
namespace Sb
theorem za {H:Type} {enc:TypeId×Value->H} {P:Program} {w:World} {base:Nat} {spare:Nat->Bool} {held:Bool} {t:TypeId} {fs:Array Field} {fuel:Nat} {cs:List Value} {x:DataW H×List MemPlace} (hs:P.underlying t=some (.struct fs)) (hone:oneCellFields P fs=true)
  (h:DataW.trod enc P w base spare held fuel t cs=some x):
  ∃(xs:List (DataW H×List MemPlace)) (n:Nat),x.1=.agg (xs.map (·.1))/\cs.length=P.cellsOf t/\∀(i:Nat) (f:Field),fs[i]?=some f->∀u,cs[i]?=some u->∃y,xs[i]?=some y/\DataW.trod enc P w base spare held n f.type [u]=some y:=by
 obtain⟨xs,n,_,rfl,hlen,hx0,hx⟩:=DataW.trod_struct hs h
 refine⟨xs,n,rfl,hlen,fun i f hi u hu=>?_⟩
 have h1:=hx i f hi
 obtain⟨o,k⟩:=hone_of hone i f hi
 have hi2:i<xs.length:=by rw[hx0];exact (Array.getElem?_eq_some_iff.1 hi).1
 rw[List.getElem?_eq_getElem hi2]at h1
 refine⟨xs[i],List.getElem?_eq_getElem hi2,?_⟩
 rw[<- h1,o,k]
 congr 1
 have hi3:i<cs.length:=(List.getElem?_eq_some_iff.1 hu).1
 rw[List.drop_eq_getElem_cons hi3]
 rw[List.getElem?_eq_getElem hi3]at hu
 simp only[Option.some.injEq]at hu
 rw[hu];rfl
theorem add_add (b:Addr) (k j:Nat):(b.add k).add j=b.add (k+j):=by
 obtain⟨bb,bo,bs⟩:=b
 unfold Addr.add
 by_cases h1:k=0
 .subst h1;simp
 .by_cases h2:j=0
  .subst h2;simp
  .simp[h1,h2,Nat.add_assoc]
theorem ad1 {α:Type} {cs:List α} (h:cs.length=7):∃c0 c1 c2 c3 c4 c5 c6,cs=[c0,c1,c2,c3,c4,c5,c6]:=by
 match cs,h with
 | [c0,c1,c2,c3,c4,c5,c6],_=>exact⟨c0,c1,c2,c3,c4,c5,c6,rfl⟩
theorem sW {H:Type} {P:Program} {e:TypeId}:∀{ds:List (DataW H)} {d:DataW H},d∈ds->∀n∈d.weights P e,n∈DataW.weightsAll P e ds
 | d0:: ds,d,hd,n,hn=>by
  simp only[DataW.weightsAll,List.mem_append]
  rcases List.mem_cons.1 hd with rfl|hd
  .exact Or.inl hn
  .exact Or.inr (sW hd n hn)
 | [],_,hd,_,_=>by cases hd
theorem xC {H:Type} {enc:TypeId×Value->H} {P:Program} {w:World} {base:Nat} {spare:Nat->Bool} {held:Bool} {t e:TypeId} {fuel n c:Nat} {a:Option Addr} {y:DataW H×List MemPlace} (ht:P.underlying t=some (.slice e)) (he:1<=P.bytesOf e)
  (h:DataW.trod enc P w base spare held fuel t [.slice a n c]=some y) (hw:∀m∈y.1.weights P t,m<=reachBytes):n<=reachBytes:=by
 rcases open_slice ht h with⟨hcs,_⟩ |⟨b,l,c',m,k,D,Pl,hcs,_,_,_,_,hx,_⟩
 .simp only[List.cons.injEq,Value.slice.injEq,and_true]at hcs
  rw[hcs.2.1];exact Nat.zero_le _
 .simp only[List.cons.injEq,Value.slice.injEq,and_true]at hcs
  obtain⟨_,rfl,_⟩:=hcs
  rw[hx]at hw
  have:=hw _ (by simp only[DataW.weights,ht];exact List.mem_cons_self ..)
  simp only[List.length_map,List.length_range]at this
  have h2:(n+(m-n))*1<=(n+(m-n))*P.bytesOf e:=Nat.mul_le_mul_left _ he
  omega
theorem DW {H:Type} {enc:TypeId×Value->H} {P:Program} {w:World} {base:Nat} {spare:Nat->Bool} {held:Bool} {t e:TypeId} {fuel n c:Nat} {a:Option Addr} {y:DataW H×List MemPlace} (ht:P.underlying t=some (.slice e))
  (h:DataW.trod enc P w base spare held fuel t [.slice a n c]=some y):a=none->c=0:=by
 intro ha
 rcases open_slice ht h with⟨hcs,_⟩ |⟨b,l,c',m,k,D,Pl,hcs,_,_,_,_,hx,_⟩
 .simp only[List.cons.injEq,Value.slice.injEq,and_true]at hcs
  exact hcs.2.2
 .simp only[List.cons.injEq,Value.slice.injEq,and_true]at hcs
  rw[hcs.1]at ha;cases ha
set_option maxRecDepth 100000 in
theorem U5 {H:Type} {enc:TypeId×Value->H} {W:World} {fuel:Nat} {cs:List Value} {x:DataW H×List MemPlace} (h:DataW.trod enc Tryz.prog W 0 (fun _=>true) true fuel 34 cs=some x) (hw:∀m∈x.1.weights Tryz.prog 34,m<=reachBytes):
  ∃e:E,cs=recC e/\qm W W.heap.size e.1 e.2/\Fits e:=by
 obtain⟨xs,n,hx,hlen,hall⟩:=za Tryz.underlying34 (by kernel_rfl) h
 obtain⟨c0,c1,c2,c3,c4,c5,c6,rfl⟩:=ad1 (hlen.trans (by kernel_rfl))
 obtain⟨y0,s0,t0⟩:=hall 0 _ rfl c0 rfl
 obtain⟨y1,s1,t1⟩:=hall 1 _ rfl c1 rfl
 obtain⟨y2,s2,t2⟩:=hall 2 _ rfl c2 rfl
 obtain⟨y3,s3,t3⟩:=hall 3 _ rfl c3 rfl
 obtain⟨y4,s4,t4⟩:=hall 4 _ rfl c4 rfl
 obtain⟨y5,s5,t5⟩:=hall 5 _ rfl c5 rfl
 obtain⟨y6,s6,t6⟩:=hall 6 _ rfl c6 rfl
 rw[hx]at hw
 simp only[DataW.weights,Tryz.underlying34]at hw
 have at_:∀(j:Nat) (y:DataW H×List MemPlace) (t:TypeId),xs[j]?=some y->(_:List TypeId)[j]?=some t->∀m∈y.1.weights Tryz.prog t,m<=reachBytes:=fun j y t hj ht m hm=>hw m (DataW.weights_mem_each ht (by rw[List.getElem?_map,hj];rfl) m hm)
 have w0:=at_ 0 y0 _ s0 rfl
 have w3:=at_ 3 y3 _ s3 rfl
 have w5:=at_ 5 y5 _ s5 rfl
 have w6:=at_ 6 y6 _ s6 rfl
 clear at_ hw
 obtain⟨s,e0,hy0,_⟩:=DataW.trod_string Tryz.underlying9 t0
 obtain⟨cl,rfl⟩:=Cb t1
 obtain⟨sq,rfl⟩:=Cb t2
 obtain⟨g,e4,_⟩:=DataW.trod_bool Tryz.underlying4 t4
 obtain rfl:c0=.string s:=by simpa using e0
 obtain rfl:c4=.bool g:=by simpa using e4
 obtain⟨a1,n1,k1,rfl⟩:=xB Tryz.underlying32 t3
 obtain⟨a2,n2,k2,rfl⟩:=xB Tryz.underlying24 t5
 obtain⟨a3,n3,k3,rfl⟩:=xB Tryz.underlying24 t6
 obtain⟨cx,hl1,hm,hd⟩:=Qx t3
 obtain⟨val,hl2,hvb⟩:=vE t5
 obtain⟨sig,hl3,hsb⟩:=vE t6
 have q1:=xC Tryz.underlying32 (of_decide_eq_true (by kernel_rfl)) t3 w3
 have q2:=xC Tryz.underlying24 (of_decide_eq_true (by kernel_rfl)) t5 w5
 have q3:=xC Tryz.underlying24 (of_decide_eq_true (by kernel_rfl)) t6 w6
 have q0:s.size<=reachBytes:=by
  rw[hy0]at w0
  have:=w0 _ (by simp only[DataW.weights];exact List.mem_cons_self ..)
  simpa using this
 have hR:=reachBytes_lt
 exact⟨(⟨s,a1,n1,k1,a2,n2,k2,a3,n3,k3⟩,⟨dA s,cl,sq,cx,g,val,sig⟩),rfl,⟨rfl,hl1,hl2,hl3,hd,hvb,hsb,hm⟩,(by show n1<_;omega),(by show s.size+n2+n3<_;omega)⟩
set_option maxRecDepth 100000 in
theorem Qy {H:Type} {enc:TypeId×Value->H} {W:World} {a:Option Addr} {len cap:Nat} {d:DataW H} {ps:List MemPlace} (h:DataW.Trod enc Tryz.prog W 0 (fun _=>true) true 23 (.slice a len cap) d ps) (hw:∀m∈d.weights Tryz.prog 23,m<=reachBytes):
  ∃l:List E,l.length=len/\len<9223372036854775808/\qR W W.heap.size a l/\(a=none->cap=0)/\∀x∈l,Fits x:=by
 obtain⟨fuel,hf⟩:=h
 have hf:DataW.trod enc Tryz.prog W 0 (fun _=>true) true fuel 23 [.slice a len cap]=some (d,ps):=by simpa[Value.cells] using hf
 have hroom:=DW Tryz.underlying23 hf
 rcases open_slice Tryz.underlying23 hf with⟨hcs,_⟩ |⟨b,l,c,m,k,D,Pl,hcs,_,hl,hm,hmm,hx,hall⟩
 .simp only[List.cons.injEq,Value.slice.injEq,and_true]at hcs
  obtain⟨rfl,rfl,rfl⟩:=hcs
  exact⟨[],rfl,by decide,Jr _ _ _ (Nat.le_refl _),hroom,fun x hx=>by cases hx⟩
 .simp only[List.cons.injEq,Value.slice.injEq,and_true]at hcs
  obtain⟨rfl,rfl,rfl⟩:=hcs
  simp only[if_true]at hmm
  subst hmm
  simp only[Prod.mk.injEq]at hx
  rw[hx.1]at hw
  simp only[DataW.weights,Tryz.underlying23,List.mem_cons,List.mem_append]at hw
  have each:∀i,i<len->∃e:E,(∀j v,(recC e)[j]?=some v->W.cell? (b.add (i*7+j))=some v)/\qm W W.heap.size e.1 e.2/\Fits e:=fun i hi=>by
   obtain⟨cs',h1,h2⟩:=hall i (by omega)
   have hc7:Tryz.prog.cellsOf 34=7:=by kernel_rfl
   rw[hc7]at h1
   obtain⟨_,hlen,hcell⟩:=World.cells?_some h1
   obtain⟨e,rfl,hr,hfit⟩:=U5 h2 (fun n hn=>hw n (Or.inr (Or.inl (sW (List.mem_map.2 ⟨i,List.mem_range.2 hi,rfl⟩) n hn))))
   refine⟨e,fun j v hv=>?_,hr,hfit⟩
   have hj:j<7:=by have:=(List.getElem?_eq_some_iff.1 hv).1;rwa [UM]at this
   have:=hcell j hj
   rw[hv]at this
   rw[<- this,add_add]
  obtain⟨q,hq⟩:=choose_lt each
  refine⟨(List.range len).map q,by simp,by unfold maxLen at hm;omega,⟨Nat.le_refl _,fun x hx=>?_,?_⟩,hroom,fun x hx=>?_⟩
  .obtain⟨i,hi,rfl⟩:=List.mem_map.1 hx
   exact (hq i (List.mem_range.1 hi)).2.1
  .by_cases h0:len=0
   .left;simp[h0]
   .obtain⟨pb,po,rfl,hlt⟩:=U1 ((hq 0 (by omega)).1 0 _ rfl)
    refine Or.inr ⟨pb,po,rfl,hlt,fun i hi j v hv=>?_⟩
    simp only[List.length_map,List.length_range]at hi
    rw[sV _ _ _ _ hi]at hv
    have:=(hq i hi).1 j v hv
    rw[Addr.add_lit]at this
    rw[Nat.add_assoc];exact this
  .obtain⟨i,hi,rfl⟩:=List.mem_map.1 hx
   exact (hq i (List.mem_range.1 hi)).2.2
end Sb
end
section
open Go.ChangeShapes Go.WideShapes Go.ChangeAt Go.RowKit Go.Deep Go.Joins Ow Ve Rc Sb
namespace Gr
end Gr
end
section
open Go.ChangeShapes Go.WideShapes Go.ChangeAt Go.RowKit Go.Deep Go.Joins Ow Ve Rc Sb
namespace Gr
instance:Inhabited GE:=⟨g0⟩
theorem ad2 {α:Type} {cs:List α} (h:cs.length=3):∃c0 c1 c2,cs=[c0,c1,c2]:=by
 match cs,h with
 | [c0,c1,c2],_=>exact⟨c0,c1,c2,rfl⟩
set_option maxRecDepth 100000 in
theorem JA {H:Type} {enc:TypeId×Value->H} {W:World} {fuel:Nat} {cs:List Value} {x:DataW H×List MemPlace} (h:DataW.trod enc Tryz.prog W 0 (fun _=>true) true fuel 26 cs=some x) (hw:∀m∈x.1.weights Tryz.prog 26,m<=reachBytes):
  ∃e:GE,cs=gC e/\QH W W.heap.size e/\BX e:=by
 obtain⟨xs,n,hx,hlen,hall⟩:=za Tryz.underlying26 (by kernel_rfl) h
 obtain⟨c0,c1,c2,rfl⟩:=ad2 (hlen.trans (by kernel_rfl))
 obtain⟨y0,s0,t0⟩:=hall 0 _ rfl c0 rfl
 obtain⟨y1,s1,t1⟩:=hall 1 _ rfl c1 rfl
 obtain⟨y2,s2,t2⟩:=hall 2 _ rfl c2 rfl
 rw[hx]at hw
 simp only[DataW.weights,Tryz.underlying26]at hw
 have at_:∀(j:Nat) (y:DataW H×List MemPlace) (t:TypeId),xs[j]?=some y->(_:List TypeId)[j]?=some t->∀m∈y.1.weights Tryz.prog t,m<=reachBytes:=fun j y t hj ht m hm=>hw m (DataW.weights_mem_each ht (by rw[List.getElem?_map,hj];rfl) m hm)
 have w1:=at_ 1 y1 _ s1 rfl
 have w2:=at_ 2 y2 _ s2 rfl
 clear at_ hw
 obtain⟨s,e2,hy2,_⟩:=DataW.trod_string Tryz.underlying9 t2
 obtain⟨cl,rfl⟩:=Cb t0
 obtain rfl:c2=.string s:=by simpa using e2
 obtain⟨a1,n1,k1,rfl⟩:=xB Tryz.underlying24 t1
 obtain⟨pub,hl1,hpb⟩:=vE t1
 have q1:=xC Tryz.underlying24 (of_decide_eq_true (by kernel_rfl)) t1 w1
 have q2:s.size<=reachBytes:=by
  rw[hy2]at w2
  have:=w2 _ (by simp only[DataW.weights];exact List.mem_cons_self ..)
  simpa using this
 have hR:=reachBytes_lt
 exact⟨(⟨a1,n1,k1,s⟩,⟨cl,pub,dA s⟩),rfl,⟨rfl,hl1,hpb⟩,(by show n1<_;omega),(by show s.size<_;omega)⟩
set_option maxRecDepth 100000 in
theorem JB {H:Type} {enc:TypeId×Value->H} {W:World} {a:Option Addr} {len cap:Nat} {d:DataW H} {ps:List MemPlace} (h:DataW.Trod enc Tryz.prog W 0 (fun _=>true) true 22 (.slice a len cap) d ps) (hw:∀m∈d.weights Tryz.prog 22,m<=reachBytes):
  ∃l:List GE,l.length=len/\len<1000000000000000/\iZ W W.heap.size a l/\(a=none->cap=0)/\∀x∈l,BX x:=by
 obtain⟨fuel,hf⟩:=h
 have hf:DataW.trod enc Tryz.prog W 0 (fun _=>true) true fuel 22 [.slice a len cap]=some (d,ps):=by simpa[Value.cells] using hf
 have hq0:=xC Tryz.underlying22 (of_decide_eq_true (by kernel_rfl)) hf hw
 have hR:=reachBytes_lt
 have hroom:=DW Tryz.underlying22 hf
 rcases open_slice Tryz.underlying22 hf with⟨hcs,_⟩ |⟨b,l,c,m,k,D,Pl,hcs,_,hl,hm,hmm,hx,hall⟩
 .simp only[List.cons.injEq,Value.slice.injEq,and_true]at hcs
  obtain⟨rfl,rfl,rfl⟩:=hcs
  exact⟨[],rfl,by decide,⟨Nat.le_refl _,fun x hx=>(by cases hx),Or.inl rfl⟩,hroom,fun x hx=>by cases hx⟩
 .simp only[List.cons.injEq,Value.slice.injEq,and_true]at hcs
  obtain⟨rfl,rfl,rfl⟩:=hcs
  simp only[if_true]at hmm
  subst hmm
  simp only[Prod.mk.injEq]at hx
  rw[hx.1]at hw
  simp only[DataW.weights,Tryz.underlying22,List.mem_cons,List.mem_append]at hw
  have each:∀i,i<len->∃e:GE,(∀j v,(gC e)[j]?=some v->W.cell? (b.add (i*3+j))=some v)/\QH W W.heap.size e/\BX e:=fun i hi=>by
   obtain⟨cs',h1,h2⟩:=hall i (by omega)
   have hc3:Tryz.prog.cellsOf 26=3:=by kernel_rfl
   rw[hc3]at h1
   obtain⟨_,hlen,hcell⟩:=World.cells?_some h1
   obtain⟨e,rfl,hr,hfit⟩:=JA h2 (fun n hn=>hw n (Or.inr (Or.inl (sW (List.mem_map.2 ⟨i,List.mem_range.2 hi,rfl⟩) n hn))))
   refine⟨e,fun j v hv=>?_,hr,hfit⟩
   have hj:j<3:=(List.getElem?_eq_some_iff.1 hv).1
   have:=hcell j hj
   rw[hv]at this
   rw[<- this,Sb.add_add]
  obtain⟨q,hq⟩:=choose_lt each
  refine⟨(List.range len).map q,by simp,by omega,⟨Nat.le_refl _,fun x hx=>?_,?_⟩,hroom,fun x hx=>?_⟩
  .obtain⟨i,hi,rfl⟩:=List.mem_map.1 hx
   exact (hq i (List.mem_range.1 hi)).2.1
  .by_cases h0:len=0
   .left;simp[h0]
   .obtain⟨pb,po,rfl,hlt⟩:=U1 ((hq 0 (by omega)).1 0 _ rfl)
    refine Or.inr ⟨pb,po,rfl,hlt,fun i hi j v hv=>?_⟩
    simp only[List.length_map,List.length_range]at hi
    rw[sV _ _ _ _ hi]at hv
    have:=(hq i hi).1 j v hv
    rw[Addr.add_lit]at this
    rw[Nat.add_assoc];exact this
  .obtain⟨i,hi,rfl⟩:=List.mem_map.1 hx
   exact (hq i (List.mem_range.1 hi)).2.2
set_option maxRecDepth 100000 in
theorem U6 {H:Type} {enc:TypeId×Value->H} {W:World} {rr:Reach} {b0:Nat} {v:Value} {d:DataW H} {ps:List MemPlace} (hv:Value.okWide Tryz.prog W rr b0 26 v) (h:DataW.Trod enc Tryz.prog W 0 (fun _=>true) true 26 v d ps) (hw:∀m∈d.weights Tryz.prog 26,m<=reachBytes):
  ∃x:GE,v=gV x/\QH W W.heap.size x/\BX x:=by
 obtain⟨cs,rfl,_⟩:=okWide_struct Tryz.underlying26 hv
 obtain⟨fuel,hf⟩:=h
 obtain⟨e,he,hr,hfit⟩:=JA hf hw
 refine⟨e,?_,hr,hfit⟩
 have he:cs.toList=gC e:=he
 unfold gV
 rw[<- he]
end Gr
end
section
open Go.ChangeShapes Go.WideShapes Go.ChangeAt Go.RowKit Ow Ed
def Yw:List Int:=[9007199254740916,9007199254740988,9007199254740988,9007199254740988,9007199254740988]
def Yx:List Int:=[1718705420411056,234908883556509,2233514472574048,2117202627021982,765476049583133]
def Yy:List Int:=[929955233495203,466365720129213,1662059464998953,2033849074728123,1442794654840575]
def Cc:List Int:=[1738742601995546,1146398526822698,2070867633025821,562264141797630,587772402128613]
def Ce:List Int:=[1801439850948184,1351079888211148,450359962737049,900719925474099,1801439850948198]
def Cg:List Int:=[1,0,0,0,0]
def Ch:List Int:=[1841354044333475,16398895984059,755974180946558,900171276175154,1821297809914039]
def Yz:List Int:=[6346243789798364141,1503914060200516822,0,1152921504606846976]
def Ci:DataW Unit:=.agg [Lib.tabData .u64 Cc,Lib.tabData .u64 Ce,Lib.tabData .u64 Cg,Lib.tabData .u64 Ch]
theorem XE:[("buttress/field.fourTimesP",Rows.laid_buttress_field_fourTimesP),("buttress/field.rootOfMinusOne",Rows.laid_buttress_field_rootOfMinusOne),("buttress/edwards.d",Rows.laid_buttress_edwards_d),("buttress/edwards.base",Rows.laid_buttress_edwards_base)]=
  [("buttress/field.fourTimesP",Lib.tabData (H:=Unit) .u64 Yw),("buttress/field.rootOfMinusOne",Lib.tabData .u64 Yx),("buttress/edwards.d",Lib.tabData .u64 Yy),("buttress/edwards.base",Ci)]:=by kernel_rfl
theorem LZ:Rows.laid_buttress_scalar_order=Lib.tabData (H:=Unit) .u64 Yz:=by kernel_rfl
theorem Qz {P:Program} {W:World} {name:String} {d:DataW Unit} {rest:List (String×DataW Unit)} {g:Nat} {t:TypeId} (hg:P.globalNamed name=some g) (hty:(P.globals[g]?).map (·.type)=some t) (h:laidMet P ((name,d):: rest) W):
  ∃(enc:TypeId×Value->Unit) (base:Nat) (sp:Nat->Bool) (held:Bool) (cs:Array Value) (fuel:Nat) (p:List MemPlace),W.var? P name=some cs/\DataW.trod enc P W base sp held fuel t cs.toList=some (d,p):=by
 obtain⟨ps,⟨g',t',cs,fuel,p,q,hg',ht',hvar,hd,_,_⟩,_⟩:=h
 obtain rfl:=Option.some.inj (hg.symm.trans hg')
 obtain rfl:=Option.some.inj (hty.symm.trans ht')
 exact⟨_,_,_,_,_,fuel,p,hvar,by simpa using hd⟩
theorem oH:Tryz.prog.cellsOf 66=5:=by kernel_rfl
theorem ug:Tryz.prog.cellsOf 64=1:=by kernel_rfl
theorem U7:Tryz.prog.cellsOf 68=20:=by kernel_rfl
theorem XF {cs a b c e:List Value} (hl:cs.length=20) (h0:(cs.drop 0).take 5=a) (h1:(cs.drop 5).take 5=b) (h2:(cs.drop 10).take 5=c) (h3:(cs.drop 15).take 5=e):cs=a++b++c++e:=by
 subst h0 h1 h2 h3
 have e3:(cs.drop 15).take 5=cs.drop 15:=List.take_of_length_le (by rw[List.length_drop];omega)
 rw[e3,List.drop_zero,List.append_assoc,List.append_assoc]
 have k2:=List.take_append_drop 5 (cs.drop 10)
 rw[List.drop_drop]at k2
 have k1:=List.take_append_drop 5 (cs.drop 5)
 rw[List.drop_drop]at k1
 have k0:=List.take_append_drop 5 cs
 rw[k2,k1,k0]
theorem XG {enc:TypeId×Value->Unit} {W:World} {base fuel:Nat} {sp:Nat->Bool} {held:Bool} {cs:List Value} {p:List MemPlace} (h:DataW.trod enc Tryz.prog W base sp held fuel 68 cs=some (Ci,p)):
  cs=Cc.map (fun z=>Value.int .u64 z)++Ce.map (fun z=>Value.int .u64 z)++Cg.map (fun z=>Value.int .u64 z)++Ch.map (fun z=>Value.int .u64 z):=by
 cases fuel with
 | zero=>simp[DataW.trod]at h
 | succ fuel=>
  simp only[DataW.trod,Tryz.underlying68,U7]at h
  split at h
  .rename_i hl
   obtain⟨xs,hm,hx⟩:=Option.map_eq_some_iff.1 h
   have hxs:xs.map (·.1)=[Lib.tabData .u64 Cc,Lib.tabData .u64 Ce,Lib.tabData .u64 Cg,Lib.tabData .u64 Ch]:=by
    have:=congrArg Prod.fst hx
    simpa[Ci] using this
   obtain⟨b0,e0,f0⟩:=Lib.mapM_at hm 0 _ rfl
   obtain⟨b1,e1,f1⟩:=Lib.mapM_at hm 1 _ rfl
   obtain⟨b2,e2,f2⟩:=Lib.mapM_at hm 2 _ rfl
   obtain⟨b3,e3,f3⟩:=Lib.mapM_at hm 3 _ rfl
   have g0:b0.1=Lib.tabData .u64 Cc:=by
    have:=congrArg (·[0]?) hxs
    simpa[List.getElem?_map,e0] using this
   have g1:b1.1=Lib.tabData .u64 Ce:=by
    have:=congrArg (·[1]?) hxs
    simpa[List.getElem?_map,e1] using this
   have g2:b2.1=Lib.tabData .u64 Cg:=by
    have:=congrArg (·[2]?) hxs
    simpa[List.getElem?_map,e2] using this
   have g3:b3.1=Lib.tabData .u64 Ch:=by
    have:=congrArg (·[3]?) hxs
    simpa[List.getElem?_map,e3] using this
   obtain⟨x0,y0⟩:=b0
   obtain⟨x1,y1⟩:=b1
   obtain⟨x2,y2⟩:=b2
   obtain⟨x3,y3⟩:=b3
   simp only[]at g0 g1 g2 g3
   subst g0 g1 g2 g3
   dsimp only at f0 f1 f2 f3
   have c0:=Lib.cells_of_tab Tryz.underlying66 Tryz.underlying64 ug oH f0
   have c1:=Lib.cells_of_tab Tryz.underlying66 Tryz.underlying64 ug oH f1
   have c2:=Lib.cells_of_tab Tryz.underlying66 Tryz.underlying64 ug oH f2
   have c3:=Lib.cells_of_tab Tryz.underlying66 Tryz.underlying64 ug oH f3
   rw[oH]at c0 c1 c2 c3
   exact XF hl c0 c1 c2 c3
  .cases h
theorem JC {W:World} {name:String} {g:Nat} {cs L:List Value} (hg:Tryz.prog.globalNamed name=some g) (h:W.var? Tryz.prog name=some cs.toArray) (hL:cs=L):W.rangeAt g 0 L:=fun j v hv=>by
 have:=World.var?_cell hg h j
 subst hL
 rw[Nat.zero_add,this]
 simpa using hv
theorem tables {W:World} (h:laidMet Tryz.prog [("buttress/field.fourTimesP",Rows.laid_buttress_field_fourTimesP),("buttress/field.rootOfMinusOne",Rows.laid_buttress_field_rootOfMinusOne),("buttress/edwards.d",Rows.laid_buttress_edwards_d),("buttress/edwards.base",Rows.laid_buttress_edwards_base)] W):dB W:=by
 rw[XE]at h
 have g0:Tryz.prog.globalNamed "buttress/field.fourTimesP"=some 4:=by kernel_rfl
 have g1:Tryz.prog.globalNamed "buttress/field.rootOfMinusOne"=some 6:=by kernel_rfl
 have g2:Tryz.prog.globalNamed "buttress/edwards.d"=some 5:=by kernel_rfl
 have g3:Tryz.prog.globalNamed "buttress/edwards.base"=some 1:=by kernel_rfl
 have h0:=Lib.tabIs_of_head g0 (by kernel_rfl) Tryz.underlying66 Tryz.underlying64 (by kernel_rfl) (by kernel_rfl) h
 have h1:=Lib.tabIs_of_head g1 (by kernel_rfl) Tryz.underlying66 Tryz.underlying64 (by kernel_rfl) (by kernel_rfl) (fH h)
 have h2:=Lib.tabIs_of_head g2 (by kernel_rfl) Tryz.underlying66 Tryz.underlying64 (by kernel_rfl) (by kernel_rfl) (fH (fH h))
 obtain⟨_,_,_,_,cs,_,_,hvar,hd⟩:=Qz (t:=68) g3 (by kernel_rfl) (fH (fH (fH h)))
 have hp:∀i,i<5->W.cell? ⟨4,i,none⟩=some (.int .u64 (nO i)):=fun i hi=>by
  rw[h0.cell g0 i hi]
  obtain rfl|rfl|rfl|rfl|rfl:i=0\/i=1\/i=2\/i=3\/i=4:=by omega
  all_goals rfl
 have hq:∀i,i<5->W.cell? ⟨6,i,none⟩=some (.int .u64 (fQ.at i)):=fun i hi=>by
  rw[h1.cell g1 i hi]
  obtain rfl|rfl|rfl|rfl|rfl:i=0\/i=1\/i=2\/i=3\/i=4:=by omega
  all_goals rfl
 have hr2:W.rangeAt 5 0 (aQ dF):=JC g2 h2 rfl
 have hr3:W.rangeAt 1 0 (aY fq):=JC g3 (by rw[hvar,Array.toArray_toList]) (XG hd)
 have l0:=block_lt_of_cell (hp 0 (by decide))
 have l1:=block_lt_of_cell (hq 0 (by decide))
 have l2:=block_lt_of_cell (hr2 0 _ rfl)
 have l3:=block_lt_of_cell (hr3 0 _ rfl)
 simp only[]at l0 l1 l2 l3
 exact⟨⟨⟨l0,l1⟩,hp,hq⟩,l2,l3,hr2,hr3⟩
def putObj (l:List Int):Obj->Obj
 | .cells _ t frozen=>.cells (l.map (Value.int .u64)).toArray t frozen
 | o=>o
end
section
open Go.ChangeShapes Go.WideShapes Go.ChangeAt Go.RowKit Ow Ed
def U8:List Int:=bH.K.map fun (n:Nat)=>(n:Int)
def U9:List Int:=bH.H0.map fun (n:Nat)=>(n:Int)
theorem XH:Rows.laid_buttress_sha_squareRoots=Lib.tabData (H:=Unit) .u64 U9:=by kernel_rfl
theorem XI:Rows.laid_buttress_sha_cubeRoots=Lib.tabData (H:=Unit) .u64 U8:=by kernel_rfl
theorem Va {W:World} (h:laidMet Tryz.prog [("buttress/scalar.order",Rows.laid_buttress_scalar_order),("buttress/sha.squareRoots",Rows.laid_buttress_sha_squareRoots),("buttress/sha.cubeRoots",Rows.laid_buttress_sha_cubeRoots),("buttress/field.fourTimesP",Rows.laid_buttress_field_fourTimesP),("buttress/field.rootOfMinusOne",Rows.laid_buttress_field_rootOfMinusOne),("buttress/edwards.d",Rows.laid_buttress_edwards_d),("buttress/edwards.base",Rows.laid_buttress_edwards_base)] W):kr W/\dB W/\Tables W:=by
 refine⟨?_,tables (fH (fH (fH h))),?_⟩
 .rw[LZ]at h
  have g0:Tryz.prog.globalNamed "buttress/scalar.order"=some 3:=by kernel_rfl
  have h0:=Lib.tabIs_of_head g0 (by kernel_rfl) Tryz.underlying102 Tryz.underlying64 (by kernel_rfl) (by kernel_rfl) h
  have hp:∀i,i<4->W.cell? ⟨3,i,none⟩=some (jq (Sc.lw i)):=fun i hi=>by
   rw[h0.cell g0 i hi]
   obtain rfl|rfl|rfl|rfl:i=0\/i=1\/i=2\/i=3:=by omega
   all_goals rfl
  exact⟨block_lt_of_cell (hp 0 (by decide)),hp⟩
 .have k:=fH h
  rw[XH,XI]at k
  have g0:Tryz.prog.globalNamed "buttress/sha.squareRoots"=some 0:=by kernel_rfl
  have g1:Tryz.prog.globalNamed "buttress/sha.cubeRoots"=some 2:=by kernel_rfl
  have h0:=Lib.tabIs_of_head g0 (by kernel_rfl) Tryz.underlying112 Tryz.underlying64 (by kernel_rfl) (by kernel_rfl) k
  have h1:=Lib.tabIs_of_head g1 (by kernel_rfl) Tryz.underlying187 Tryz.underlying64 (by kernel_rfl) (by kernel_rfl) (fH k)
  have JD:∀(l:List Nat) (i:Nat),(l.map fun (n:Nat)=>(n:Int)).getD i 0=((l.getD i 0:Nat):Int):=fun l i=>by
   rw[List.getD_eq_getElem?_getD,List.getD_eq_getElem?_getD,List.getElem?_map]
   cases l[i]?<;>rfl
  refine⟨fun t ht=>?_,fun t ht=>?_⟩
  .rw[h1.cell g1 t ht];unfold U8;rw[JD];rfl
  .rw[h0.cell g0 t ht];unfold U9;rw[JD];rfl
noncomputable def Fx (os:Os):World:=
 {World.holding Tryz.prog os ⟨#[],#[],[]⟩ with heap:=(((((((World.holding Tryz.prog os ⟨#[],#[],[]⟩).heap.modify 4 (putObj Yw)).modify 6 (putObj Yx)).modify 5 (putObj Yy)).modify 1 (putObj (Cc++Ce++Cg++Ch))).modify 3 (putObj Yz)).modify 0 (putObj U9)).modify 2 (putObj U8)}
end
end Go.Proofs.YtjgnjhgdmdmebaaGreatDoor
