/- texts merged -/
import Derived.Test.YtjgnjhgdmdmebaaGreatDoorGoM6
import Derived.Deep.RegionWith
import Derived.WalkKit
import Derived.WalkSpells
import Derived.WalkLawsBesides
import Derived.Outline
import Derived.Deep.RegionLaw
import Derived.Deep.RegionLawGrows
import Derived.Defers
import Derived.Recover
import Derived.Test.YtjgnjhgdmdmebaaGreatDoorGoM1
import Derived.Deep.Cut
import Derived.Test.YtjgnjhgdmdmebaaGreatDoorGoM3
import Derived.Laws.BitsAllLaws
import Derived.Lib.Hide
import Derived.BigQuiet
import Derived.Deep.QuietTactic
import Derived.Test.YtjgnjhgdmdmebaaGreatDoorChecked
import Derived.ProofKit
import Derived.OpenShut
import Derived.Deep.SlicePairs
import Derived.Deep.Slices
import Derived.Lib.SmallJoins
import Derived.SizedLaws
import Derived.ChangeArms
import Derived.Test.YtjgnjhgdmdmebaaGreatDoorGoM2
import Derived.Test.YtjgnjhgdmdmebaaGreatDoorCards
import Derived.Test.YtjgnjhgdmdmebaaGreatDoorTie
import Derived.Test.YtjgnjhgdmdmebaaGreatDoorGoM5
namespace Go.Proofs.YtjgnjhgdmdmebaaGreatDoor
section
open Go.RowKit Ow Wi Ve Rc Ed
namespace Gr
theorem TW:∃i,Tryz.prog.info? 26=some i/\i.zero=some zG/\i.size=3/\i.bytes=48:=by
 have h:(Tryz.prog.info? 26).map (fun i=>(i.zero,i.size,i.bytes))=some (some zG,3,48):=by kernel_rfl
 cases hi:Tryz.prog.info? 26 with
 | none=>rw[hi]at h;cases h
 | some i=>
  rw[hi]at h
  simp only[Option.map_some,Option.some.injEq,Prod.mk.injEq]at h
  exact⟨i,rfl,h.1,h.2.1,h.2.2⟩
theorem WK (x:GE):∀v∈gC x,v.oneCell'=true:=by
 intro v hv
 simp only[gC,List.mem_cons,List.not_mem_nil,or_false]at hv
 rcases hv with rfl|rfl|rfl<;>rfl
abbrev Fa (w:World) (base:Nat) (v:Value) (l:List GE):Prop:=w.ownsRow base 26 3 v l.length (l.flatMap gC)
theorem Lp (w:World) (base:Nat) (v:Value) (l0:List GE) (N cc T:Nat) (x:GE) (hown:Fa w base v l0) (hx:aF w N T (gC x)) (hn:l0.length+1<=1000000000) (hbase:base<=w.heap.size):
  ∃v' w',(Builtin.append_ #[22,22] 22 #[v,.slice (some ⟨N,0,none⟩) 1 cc]).run Tryz.prog w=.ok v' w'/\Fa w' base v' (l0++[x])/\w.grownBy w' v.ownBlock:=by
 obtain⟨i,hi,hz,hs,hb⟩:=TW
 obtain⟨v',w',hr,ho,hg,_⟩:=run_append_own (P:=Tryz.prog) w base 22 22 26 i zG 3 48 Tryz.underlying22 hi hz hs hb rfl (by decide) v l0.length (l0.flatMap gC) hown ⟨N,0,none⟩ 1 cc (gC x) rfl
   (fun j u hu=>by rw[Addr.add_lit,Nat.zero_add];exact hx.cell hu) (WK x) (by unfold maxLen;omega) (by omega) hbase
 refine⟨v',w',hr,?_,hg⟩
 unfold Fa
 rw[List.flatMap_append,List.length_append]
 simpa using ho
def PB (w:World) (x:GE):Prop:=x.1.n=32/\x.1.c=32/\bQ x.1.s=x.2.pre/\x.2.pub.length=32/\(∀i,x.2.pub.getD i 0<256)/\∃gb,x.1.a=some ⟨gb,0,none⟩/\aF w gb 166 (x.2.pub.map dG)
theorem PB.stay {w w':World} {x:GE} (h:PB w x) (hg:w.grownBy w' none):PB w' x:=by
 obtain⟨h1,h2,h3,h4,h5,gb,h6,h7⟩:=h
 exact⟨h1,h2,h3,h4,h5,gb,h6,h7.gn hg⟩
theorem PB.own {w w':World} {x:GE} {base:Nat} {v:Value} {l:List GE} (h:PB w x) (ho:Fa w base v l) (hg:w.grownBy w' v.ownBlock):PB w' x:=by
 obtain⟨h1,h2,h3,h4,h5,gb,h6,h7⟩:=h
 refine⟨h1,h2,h3,h4,h5,gb,h6,h7.grown hg ?_⟩
 rcases ho.2 with⟨rfl,_⟩ |⟨g,c,cur,rfl,_,hh,_⟩
 .simp[Value.ownBlock]
 .intro e
  simp only[Value.ownBlock,Option.some.injEq]at e
  subst e
  unfold aF at h7
  rw[h7]at hh
  simp at hh
theorem PB.at {w:World} {x:GE} (h:PB w x):ZN w w.heap.size x:=by
 obtain⟨h1,h2,h3,h4,h5,gb,h6,h7⟩:=h
 refine⟨h3,h4.trans h1.symm,?_⟩
 rw[h6,h2]
 exact BJ h7 h4 h5
theorem TY {w:World} {base:Nat} {v:Value} {l:List GE} (h:Fa w base v l) (hp:∀x∈l,PB w x):∃a c,v=.slice a l.length c/\iJ w w.heap.size a l:=by
 rcases h.2 with⟨rfl,h0⟩ |⟨g,c,cur,rfl,hb,hg,hnc,hcm,hcs,ht⟩
 .exact⟨none,0,by rw[h0],Nat.le_refl _,fun x hx=>(hp x hx).at,Or.inl h0⟩
 .refine⟨_,c,rfl,Nat.le_refl _,fun x hx=>(hp x hx).at,Or.inr ⟨g,0,rfl,lt_of_block hg,fun i hi j u hu=>?_⟩⟩
  have hj:j<3:=by have:=(List.getElem?_eq_some_iff.1 hu).1;exact this
  have e:(l.flatMap gC)[i*3+j]?=some u:=by
   rw[<- hu]
   clear h hp hcs ht hg hb hnc hcm hu
   induction l generalizing i with
   | nil=>simp at hi
   | cons x l ih=>
    cases i with
    | zero=>
     rw[List.flatMap_cons,Nat.zero_mul,Nat.zero_add,List.getElem?_append_left (by exact hj)]
     rfl
    | succ i=>
     rw[List.flatMap_cons,List.getElem?_append_right (by simp[gC];omega)]
     have e:(i+1)*3+j-(gC x).length=i*3+j:=by simp[gC];omega
     rw[e]
     exact ih i (by simpa using hi)
  have:=h.cells (g:=g) rfl _ u e
  rw[Addr.add_lit]at this
  rw[Nat.add_assoc];exact this
def _root_.Go.Proofs.YtjgnjhgdmdmebaaGreatDoor.Fg.It.agG (c:Int) (l:List Nat) (s:ByteArray):Fg.It:=⟨fun v w=>∃g,v=vG c (some ⟨g,0,none⟩) 32 32 s/\aF w g 166 (l.map dG),fun _ _ _ ⟨g,e,h⟩ hg=>⟨g,e,h.gn hg⟩⟩
def _root_.Go.Proofs.YtjgnjhgdmdmebaaGreatDoor.Fg.It.ahv (c:Int) (l:List Nat) (s:ByteArray):Fg.It:=⟨fun v w=>∃N g,v=.slice (some ⟨N,0,none⟩) 1 1/\aF w N 26 [.int .i64 c,.slice (some ⟨g,0,none⟩) 32 32,.string s]/\aF w g 166 (l.map dG),fun _ _ _ ⟨N,g,e,h1,h2⟩ hg=>⟨N,g,e,h1.gn hg,h2.gn hg⟩⟩
def _root_.Go.Proofs.YtjgnjhgdmdmebaaGreatDoor.Fg.It.ZO (T:TypeId) (n:Nat) (l:List Nat):Fg.It:=⟨fun v w=>∃g,v=.slice (some ⟨g,0,none⟩) n n/\aF w g T (l.map dG),fun _ _ _ ⟨g,e,h⟩ hg=>⟨g,e,h.gn hg⟩⟩
theorem ac3 (c:Nat) (w:World):Calls Tryz.prog 31 #[.int .u8 (c:Int)] w fun e w'=>∃v,e=.returned v/\w.grownBy w' none/\∃g,v=.slice (some ⟨g,0,none⟩) 32 32/\aF w' g 5 ((Jf c).map dG):=
 (Cg c w).mono fun _ _ ⟨g,he,hg,_,hb⟩=>⟨_,he,hg,g,rfl,hb⟩
theorem ahw (c g:Nat) (w:World) (hc:c<256) (hT:dH w) (hS:Tables w) (hb:aF w g 5 ((Jf c).map dG)):Calls Tryz.prog 13 #[.slice (some ⟨g,0,none⟩) 32 32] w fun e w'=>∃v,e=.returned v/\w.grownBy w' none/\∃g,v=.slice (some ⟨g,0,none⟩) 32 32/\aF w' g 166 ((qZ c).map dG):=
 (MZ (Jf c) 32 w.heap.size (some ⟨g,0,none⟩) w hT hS rfl (Lib.hid (BJ hb rfl (TS hc)))).mono fun _ _ ⟨g,he,hg,_,hb⟩=>⟨_,he,hg,g,rfl,hb⟩
theorem Jh (ps:List (List Nat)) (q:List Nat) (c:Nat):pI (ps++[q]) c=pI ps c++[⟨((c+ps.length:Nat):Int),qZ (c+ps.length),q⟩]:=by
 induction ps generalizing c with
 | nil=>rfl
 | cons p t ih=>
  show _:: pI (t++[q]) (c+1)=_
  rw[ih]
  have e:c+1+t.length=c+(p:: t).length:=by simp;omega
  rw[e]
  rfl
theorem Py (ps:List ByteArray) (k:Nat) (h:k<ps.length):ps.take (k+1)=ps.take k++[ps.getD k ⟨#[]⟩]:=by
 rw[List.take_add_one,List.getD_eq_getElem?_getD,List.getElem?_eq_getElem h];rfl
theorem WL {w0 w w':World} {base:Nat} {v:Value} {l:List GE} (h:w0.grownBy w none) (ho:Fa w base v l) (hb:w0.heap.size<=base) (hg:w.grownBy w' v.ownBlock):w0.grownBy w' none:=
 ⟨hg.os.trans h.os,hg.tape.trans h.tape,hg.output.trans h.output,Nat.le_trans h.size hg.size,fun k hk _=>(hg.block k (Nat.lt_of_lt_of_le hk h.size) (fun e=>by have:=(ho.lt k e.symm).1;omega)).trans (h.block k hk (by simp))⟩
set_option maxHeartbeats 4000000 in
set_option maxRecDepth 100000 in
theorem Lr (ps:List ByteArray) (n cap pb po:Nat) (w:World) (hT:dH w) (hS:Tables w) (hn:ps.length=n) (hn2:n<=100) (hpb:pb<w.heap.size) (hc:∀i,i<n->w.cell? ⟨pb,po+i,none⟩=some (.string (ps.getD i ⟨#[]⟩))):
  Calls Tryz.prog 15 #[.slice (some ⟨pb,po,none⟩) n cap] w fun e w'=>∃(v:Value) (l:List GE),e=.returned v/\w.grownBy w' none/\Fa w' w.heap.size v l/\(∀x∈l,PB w' x)/\l.map (·.2)=pI (ps.map bQ) 1:=by
 have HC:Hid (∀w' i,w.grownBy w' none->i<n->w'.cell? ⟨pb,po+i,none⟩=some (.string (ps.getD i ⟨#[]⟩))):=fun w' i hg hi=>(aZ hg hpb (by simp)).trans (hc i hi)
 have HSe:=Lib.hid (fun c w=>ac3 c w)
 have HPu:Hid (∀(w':World) (c g:Nat),c<256->w.grownBy w' none->aF w' g 5 ((Jf c).map dG)->Calls Tryz.prog 13 #[.slice (some ⟨g,0,none⟩) 32 32] w' fun e w''=>∃v,e=.returned v/\w'.grownBy w'' none/\∃g,v=.slice (some ⟨g,0,none⟩) 32 32/\aF w'' g 166 ((qZ c).map dG)):=fun w' c g h hg hb=>
  ahw c g w' h (hT.grown hg) (hS.kept hg (fun b e=>by cases e)) hb
 clear hT hS hpb hc
 go_enter Tryz.func15,Tryz.ntmps15
 go_wp2_with fail
 go_loopw [3,4] (fun v i wr=>∃(k:Nat) (l:List GE),k<=n/\i=.int .i64 k/\Hid (l.length=k/\w.grownBy wr none/\Fa wr w.heap.size v l/\(∀x∈l,PB wr x)/\l.map (·.2)=pI ((ps.take k).map bQ) 1)) (fun _ i _=>n-(intOf i).toNat)
 case atStart=>exact⟨0,[],by omega,rfl,rfl,ah _ _,World.ownsRow_nil _ _ _ _,fun x hx=>(by cases hx),rfl⟩
 case round=>
  obtain⟨k,l,hk,rfl,HI⟩:=hrel
  by_cases hlt:k<n
  .have i0:(k:Int)<(n:Int):=by omega
   have i1:((k:Int)+1)%256=((k+1:Nat):Int):=by omega
   have c0:=HC.out wr k HI.out.2.1 hlt
   obtain⟨s,hs⟩:∃s,s=ps.getD k ⟨#[]⟩:=⟨_,rfl⟩
   rw[<- hs]at c0
   have HK:=Lib.hid hs;clear hs
   have HG:=Lib.hid HI.out.2.1
   obtain⟨av,cv,rfl⟩:∃av cv,u3=.slice av k cv:=by
    have h:=HI.out.2.2.1.2
    rw[HI.out.1]at h
    rcases h with⟨rfl,h0⟩ |⟨g,c,_,rfl,_⟩
    .exact⟨none,0,by rw[h0]⟩
    .exact⟨_,_,rfl⟩
   have q1:IntKind.i64.wrap ((k:Int)+1)=(k:Int)+1:=by simp[IntKind.wrap,IntKind.signed,IntKind.bits];omega
   have q2:IntKind.u8.wrap ((k:Int)+1)=(k:Int)+1:=by simp[IntKind.wrap,IntKind.signed,IntKind.bits];omega
   go_upto_region 5 with fail
   refine Fg.tN [] [.any,.any,.any,.any,.any,.any,.any,.any,.any,.any,.any,.val (Value.slice av k cv),.val (Value.int .i64 (k:Int)),.val (Value.int .i64 ((k:Int)+1)),.val (Value.int .i64 (k:Int)),.val (Value.int .i64 ((k:Int)+1)),.val (Value.int .u8 ((k+1:Nat):Int)),.ZO 5 32 (Jf (k+1)),.ZO 166 32 (qZ (k+1)),.val (Value.slice (some ⟨pb,po,none⟩) n cap),.val (Value.int .i64 (k:Int)),.val (Value.pointer (some ⟨pb,po+k,none⟩)),.val (Value.string s),.agG ((k:Int)+1) (qZ (k+1)) s,.ahv ((k:Int)+1) (qZ (k+1)) s] wr 14 (ah _ _) (by kernel_rfl) (by kernel_rfl) (by kernel_rfl) (by kernel_rfl) (by decide) (by kernel_rfl) ?_ ?_
   .refine⟨Fg.vT rfl (by decide) fun ac w h=>?_,?_⟩
    .have e3:_=Value.slice av k cv:=h.r 3
     exact⟨_,w,aB rfl,Fg.run_move rfl e3,ah _ _,rfl⟩
    refine⟨Fg.vT rfl (by decide) fun ac w h=>?_,?_⟩
    .have e4:_=Value.int .i64 (k:Int):=h.r 4
     exact⟨_,w,aB rfl,Fg.run_move rfl e4,ah _ _,rfl⟩
    refine⟨Fg.vT rfl (by decide) fun ac w h=>?_,?_⟩
    .have e12:_=Value.int .i64 (k:Int):=h.d 12
     refine⟨.int .i64 ((k:Int)+1),w,aB rfl,?_,ah _ _,rfl⟩
     clear h
     simp only[execOp,Act.eval,e12]
     go_simp
    refine⟨Fg.vT rfl (by decide) fun ac w h=>?_,?_⟩
    .have e4:_=Value.int .i64 (k:Int):=h.r 4
     exact⟨_,w,aB rfl,Fg.run_move rfl e4,ah _ _,rfl⟩
    refine⟨Fg.vT rfl (by decide) fun ac w h=>?_,?_⟩
    .have e14:_=Value.int .i64 (k:Int):=h.d 14
     refine⟨.int .i64 ((k:Int)+1),w,aB rfl,?_,ah _ _,rfl⟩
     clear h
     simp only[execOp,Act.eval,e14]
     go_simp
    refine⟨Fg.vT rfl (by decide) fun ac w h=>?_,?_⟩
    .have e15:_=Value.int .i64 ((k:Int)+1):=h.d 15
     refine⟨.int .u8 ((k+1:Nat):Int),w,aB rfl,?_,ah _ _,rfl⟩
     clear h
     simp only[execOp,Act.eval,e15]
     go_simp
    refine⟨Fg.cT rfl (by decide) fun ac w h=>?_,?_⟩
    .have e16:_=Value.int .u8 ((k+1:Nat):Int):=h.d 16
     refine⟨31,#[Value.int .u8 ((k+1:Nat):Int)],aB rfl,Fg.aN rfl rfl (by simp only[List.map_toArray,List.map_cons,List.map_nil,Act.eval,e16]) (Fg.aI Tryz.func31 (by kernel_rfl) (by kernel_rfl)),?_⟩
     exact (HSe.out (k+1) w).mono fun _ _ ⟨v,he,hg,hb⟩=>⟨v,he,hg,hb⟩
    refine⟨Fg.cT rfl (by decide) fun ac w h=>?_,?_⟩
    .obtain⟨g17,e17,b17⟩:∃g,ac.tmps.getD 17 undef=.slice (some ⟨g,0,none⟩) 32 32/\aF w g 5 ((Jf (k+1)).map dG):=h.dep 17 (by kernel_rfl)
     refine⟨13,#[Value.slice (some ⟨g17,0,none⟩) 32 32],aB rfl,Fg.aN rfl rfl (by simp only[List.map_toArray,List.map_cons,List.map_nil,Act.eval,e17]) (Fg.aI Tryz.func13 (by kernel_rfl) (by kernel_rfl)),?_⟩
     exact (HPu.out w (k+1) g17 (by omega) (aj HG.out h.base) b17).mono fun _ _ ⟨v,he,hg,hb⟩=>⟨v,he,hg,hb⟩
    refine⟨Fg.vT rfl (by decide) fun ac w h=>?_,?_⟩
    .have e0:_=Value.slice (some ⟨pb,po,none⟩) n cap:=h.r 0
     exact⟨_,w,aB rfl,Fg.run_move rfl e0,ah _ _,rfl⟩
    refine⟨Fg.vT rfl (by decide) fun ac w h=>?_,?_⟩
    .have e4:_=Value.int .i64 (k:Int):=h.r 4
     exact⟨_,w,aB rfl,Fg.run_move rfl e4,ah _ _,rfl⟩
    refine⟨Fg.vT rfl (by decide) fun ac w h=>?_,?_⟩
    .have e19:_=Value.slice (some ⟨pb,po,none⟩) n cap:=h.d 19
     have e20:_=Value.int .i64 (k:Int):=h.d 20
     refine⟨.pointer (some ⟨pb,po+k,none⟩),w,aB rfl,?_,ah _ _,rfl⟩
     clear h
     simp only[execOp,Act.eval,e19,e20]
     go_simp
    refine⟨Fg.vT rfl (by decide) fun ac w h=>?_,?_⟩
    .have e21:_=Value.pointer (some ⟨pb,po+k,none⟩):=h.d 21
     have c1:=HC.out w k (aj HG.out h.base) hlt
     rw[<- HK.out]at c1
     refine⟨Value.string s,w,aB rfl,?_,ah _ _,rfl⟩
     clear h
     simp only[execOp,Act.eval,e21]
     go_simp
    refine⟨Fg.vT rfl (by decide) fun ac w h=>?_,?_⟩
    .have e13:_=Value.int .i64 ((k:Int)+1):=h.d 13
     obtain⟨g18,e18,b18⟩:∃g,ac.tmps.getD 18 undef=.slice (some ⟨g,0,none⟩) 32 32/\aF w g 166 ((qZ (k+1)).map dG):=h.dep 18 (by kernel_rfl)
     have e22:_=Value.string s:=h.d 22
     refine⟨vG ((k:Int)+1) (some ⟨g18,0,none⟩) 32 32 s,w,aB rfl,?_,ah _ _,⟨g18,rfl,b18⟩⟩
     clear h
     simp only[execOp,Act.eval,e13,e18,e22,List.map_toArray,List.map_cons,List.map_nil]
     go_simp
    refine⟨Fg.vT rfl (by decide) fun ac w h=>?_,?_⟩
    .obtain⟨g23,e23,b23⟩:∃g,ac.tmps.getD 23 undef=vG ((k:Int)+1) (some ⟨g,0,none⟩) 32 32 s/\aF w g 166 ((qZ (k+1)).map dG):=h.dep 23 (by kernel_rfl)
     refine⟨.slice (some ⟨w.heap.size,0,none⟩) 1 1,w.alloc (.cells #[.int .i64 ((k:Int)+1),.slice (some ⟨g23,0,none⟩) 32 32,.string s] 26),aB rfl,?_,au (ah _ _) _,⟨_,g23,rfl,aF.new w [.int .i64 ((k:Int)+1),.slice (some ⟨g23,0,none⟩) 32 32,.string s] _,b23.alloc _⟩⟩
     clear h
     simp only[execOp,Act.eval,e23,List.map_toArray,List.map_cons,List.map_nil]
     go_simp
    trivial
   .intro aq wq hB hsz hdf hrest aC hpt
    obtain⟨⟨u5,e5⟩,⟨u6,e6⟩,⟨u7,e7⟩,⟨u8,e8⟩,⟨u9,e9⟩,⟨u10,e10⟩,_⟩:=Fg.bn aq [5,6,7,8,9,10]
    have e11:aq.tmps.getD 11 undef=Value.slice av k cv:=aC 11 (by kernel_rfl)
    obtain⟨⟨u12,e12⟩,⟨u13,e13⟩,⟨u14,e14⟩,⟨u15,e15⟩,⟨u16,e16⟩,⟨u17,e17⟩,⟨u18,e18⟩,⟨u19,e19⟩,⟨u20,e20⟩,⟨u21,e21⟩,⟨u22,e22⟩,⟨u23,e23⟩,_⟩:=Fg.bn aq [12,13,14,15,16,17,18,19,20,21,22,23]
    obtain⟨N24,g24,e24,b24,d24⟩:∃N g,aq.tmps.getD 24 undef=.slice (some ⟨N,0,none⟩) 1 1/\aF wq N 26 [.int .i64 ((k:Int)+1),.slice (some ⟨g,0,none⟩) 32 32,.string s]/\aF wq g 166 ((qZ (k+1)).map dG):=aC 24 (by kernel_rfl)
    obtain⟨u25,e25⟩:=Fg.bP aq 25
    obtain rfl:=Fg.aP [5,6,7,8,9,10,11,12,13,14,15,16,17,18,19,20,21,22,23,24,25] (vs:=[_,_,_,_,_,u5,u6,u7,u8,u9,u10,Value.slice av k cv,u12,u13,u14,u15,u16,u17,u18,u19,u20,u21,u22,u23,Value.slice (some ⟨N24,0,none⟩) 1 1,u25,_]) hsz hrest (by kernel_rfl) rfl rfl ⟨e5,e6,e7,e8,e9,e10,e11,e12,e13,e14,e15,e16,e17,e18,e19,e20,e21,e22,e23,e24,e25,trivial⟩ hdf
    clear hsz hdf hrest aC hpt e5 e6 e7 e8 e9 e10 e11 e12 e13 e14 e15 e16 e17 e18 e19 e20 e21 e22 e23 e24 e25
    have ho:=(HI.out.2.2.1).kept hB (by cases (Value.slice av k cv).ownBlock<;>simp)
    obtain⟨x,hx⟩:∃x:GE,x=(⟨some ⟨g24,0,none⟩,32,32,s⟩,⟨(k:Int)+1,qZ (k+1),bQ s⟩):=⟨_,rfl⟩
    have hb:aF wq N24 26 (gC x):=by rw[hx];exact b24
    have hpx:PB wq x:=by rw[hx];exact⟨rfl,rfl,rfl,Nj _,qL _,g24,rfl,d24⟩
    have hx2:x.2=⟨(k:Int)+1,qZ (k+1),bQ s⟩:=by rw[hx]
    obtain⟨v',wz,hap,ho2,hg2⟩:=Lp wq w.heap.size (.slice av k cv) l N24 1 _ x ho hb (by have:=HI.out.1;omega) (aj HI.out.2.1 hB).size
    have HZ:Hid ((l++[x]).length=k+1/\w.grownBy wz none/\Fa wz w.heap.size v' (l++[x])/\(∀y∈l++[x],PB wz y)/\(l++[x]).map (·.2)=pI ((ps.take (k+1)).map bQ) 1):=by
     refine⟨by rw[List.length_append,HI.out.1];rfl,WL (aj HI.out.2.1 hB) ho (Nat.le_refl _) hg2,ho2,fun y hx=>?_,?_⟩
     .rcases List.mem_append.1 hx with hx|hx
      .exact ((HI.out.2.2.2.1 y hx).stay hB).own ho hg2
      .have hxe:=List.mem_singleton.1 hx
       have hpz:PB wz x:=PB.own hpx ho hg2
       rw[hxe]
       exact hpz
     .rw[List.map_append,HI.out.2.2.2.2,Py ps k (by omega),List.map_append,show List.map bQ [ps.getD k ⟨#[]⟩]=[bQ (ps.getD k ⟨#[]⟩)] from rfl,Jh,<- HK.out,List.length_map,List.length_take,Nat.min_eq_left (by omega)]
      have e1:1+k=k+1:=by omega
      rw[e1,List.map_cons,List.map_nil,hx2]
      rfl
    clear ho b24 d24 hg2 ho2 hB HI hb hpx hx2 hx
    refine wpList_append_run rfl (.tmp 11) (.tmp 24) 22 rfl rfl _ _ rfl rfl _ _ hap ?_
    clear hap
    go_wp2
    go_roundw
    case rel=>exact⟨k+1,l++[x],by omega,by go_num,HZ⟩
    case measure=>simp[intOf];omega
  .obtain rfl:k=n:=by omega
   go_wp2
   go_ret
   refine⟨_,l,rfl,HI.out.2.1,HI.out.2.2.1,HI.out.2.2.2.1,?_⟩
   have:=HI.out.2.2.2.2
   rwa [List.take_of_length_le (by omega)]at this
end Gr
end
section
open Go.RowKit Ow Wi Ve Rc
namespace Gr
def T9 (c:Int) (e:Ending):Prop:=e=.panicked [{v:=.iface 29 (.int .i64 c),recovered:=false}]
theorem uG (c:Int) (w:World):Calls Tryz.prog 35 #[.bool true,.int .i64 c] w fun e w'=>e=.returned (.tuple #[])/\w'=w:=by
 go_enter Tryz.func35,Tryz.ntmps35
 go_wp2
 go_end0
 exact⟨rfl,rfl⟩
theorem xM (c:Int) (w:World):Calls Tryz.prog 35 #[.bool false,.int .i64 c] w fun e w'=>T9 c e/\w'=w:=by
 go_enter Tryz.func35,Tryz.ntmps35
 go_wp2
 exact⟨rfl,rfl,rfl⟩
theorem Nl (s p:ByteArray) (b:Bool) (hb:b=tK (bQ p) (bQ s)):(((s.extract 0 p.size).toList==p.toList)=b):=by
 rw[str_eq,hb]
 unfold tK
 have e:bQ (s.extract 0 p.size)=(bQ s).take (bQ p).length:=by
  rw[gW]
  unfold bQ
  rw[ByteArray.data_extract]
  simp[List.map_take]
 rw[e]
theorem Ua (s p:ByteArray) (h:¬p.size<=s.size):tK (bQ p) (bQ s)=false:=by
 unfold tK
 rw[decide_eq_false_iff_not]
 intro e
 have:=congrArg List.length e
 rw[List.length_take,gW,gW]at this
 omega
set_option maxHeartbeats 1000000 in
theorem Fb (s p:ByteArray) (w:World):Calls Tryz.prog 66 #[.string s,.string p] w fun e w'=>e=.returned (.bool (tK (bQ p) (bQ s)))/\w'=w:=by
 by_cases h:p.size<=s.size
 .have i0:(s.size:Int)>=(p.size:Int):=by omega
  have i1:¬((p.size:Int)>(s.size:Int)):=by omega
  obtain⟨b,hb⟩:∃b,b=tK (bQ p) (bQ s):=⟨_,rfl⟩
  have he:=Nl s p b hb
  rw[<- hb]
  go_enter Tryz.func66,Tryz.ntmps66
  go_wp2
  go_ret
  exact⟨rfl,rfl⟩
 .have i0:¬(s.size:Int)>=(p.size:Int):=by omega
  rw[Ua s p h]
  go_enter Tryz.func66,Tryz.ntmps66
  go_wp2
  go_ret
  exact⟨rfl,rfl⟩
theorem Ls (s p:ByteArray) (w:World):Calls Tryz.prog 50 #[.string s,.string p] w fun e w'=>e=.returned (.bool (tK (bQ p) (bQ s)))/\w'=w:=by
 have HP:=Lib.hid (Fb s p)
 go_enter Tryz.func50,Tryz.ntmps50
 go_wp2_with fail
 refine (HP.out w).mono ?_
 rintro e w' ⟨rfl,rfl⟩
 go_wp2
 go_ret
 exact⟨rfl,rfl⟩
end Gr
end
section
open Go.RowKit Ow Wi Ve Rc
namespace Gr
theorem Ji {r:R} (h:iL r=true):eP r=true/\r.sig.length=64:=by
 unfold iL at h
 simpa using h
set_option maxHeartbeats 2000000 in
theorem Ub (r:R) (B n cap:Nat) (a:Option Addr) (w:World) (q:L) (h:lD w B q r) (hr:iL r=false):
  Calls Tryz.prog 51 #[.slice a n cap,q.v r] w fun e w'=>e=.returned (.int .i64 4)/\w.grownBy w' none:=by
 have HS:=Lib.hid (fun w' (hg:w.grownBy w' none)=>oL r B w' q (h.stay hg))
 rw[hr]at HS
 clear h hr
 obtain⟨s,a1,n1,c1,a2,n2,c2,a3,n3,c3⟩:=q
 obtain⟨key,cl,sq,cx,g,val,sig⟩:=r
 replace HS:Hid (∀w' (_:w.grownBy w' none),Calls Tryz.prog 49 #[vV s cl sq a1 n1 c1 g a2 n2 c2 a3 n3 c3] w' fun e w''=>e=.returned (.bool false)/\w'.grownBy w'' none):=HS
 show Calls _ _ #[.slice a n cap,vV s cl sq a1 n1 c1 g a2 n2 c2 a3 n3 c3] w _
 go_enter Tryz.func51,Tryz.ntmps51
 go_wp2_with fail
 refine (HS.out _ (au (ah _ _) _)).mono ?_
 rintro e w1 ⟨rfl,hg⟩
 have HG:=Lib.hid (aj (au (ah _ _) _) hg);clear hg
 go_wp2
 go_ret
 exact⟨rfl,HG.out⟩
set_option maxHeartbeats 4000000 in
set_option maxRecDepth 100000 in
theorem Pz (r:R) (B n cap Bp:Nat) (a:Option Addr) (p:List Nat) (w:World) (q:L) (hO:ko w) (hT:dH w) (hS:Tables w) (hp:p.length=n) (hn:n<9223372036854775808) (hP:BytesAt w Bp a cap p) (h:lD w B q r) (hr:iL r=true):
  Calls Tryz.prog 51 #[.slice a n cap,q.v r] w fun e w'=>e=.returned (.int .i64 (if BO p r.sig (gB r) then 0 else 20))/\w.grownBy w' none:=by
 obtain⟨hsh,h64⟩:=Ji hr
 have HS:=Lib.hid (fun w' (hg:w.grownBy w' none)=>oL r B w' q (h.stay hg))
 rw[hr]at HS
 have HX:=Lib.hid (fun w' (hg:w.grownBy w' none)=>Pn r B w' q (h.stay hg))
 have e1:Cb r=gB r:=if_pos hsh
 rw[e1]at HX
 have HTS:=Lib.hid (vO h hsh)
 have HV:Hid (∀(w':World) (N aT:Nat) (bT:Option Addr),w.grownBy w' none->aF w' N 24 [.slice bT (gB r).length aT]->BytesAt w' w'.heap.size bT aT (gB r)->Calls Tryz.prog 67 #[.slice a n cap,.slice q.a3 64 q.c3,.slice (some ⟨N,0,none⟩) 1 1] w' fun e w''=>e=.returned (.bool (BO p r.sig (gB r)))/\w'.grownBy w'' none):=fun w' N aT bT hg hb hB=>by
  have hs3:BytesAt w' B q.a3 q.c3 r.sig:=h.sig.stay hg
  have hj:joined [⟨bT,aT,gB r⟩]=gB r:=by simp[joined]
  have hv:=K5 p r.sig n cap Bp q.c3 B 1 1 w'.heap.size a q.a3 (some ⟨N,0,none⟩) [⟨bT,aT,gB r⟩] w' (hO.kept hg (fun b e=>by cases e)) (hT.grown hg) (hS.kept hg (fun b e=>by cases e)) hp hn (Lib.hid (hP.stay hg)) h64 (Lib.hid hs3) rfl (Lib.hid (ER rfl hb hB)) (by decide) (by rw[hj];have:=HTS.out.1;omega)
  rw[hj]at hv
  refine hv.mono fun e w'' h2=>?_
  obtain⟨b,rfl,hg2,hbv⟩:=h2
  exact⟨by rw[K8 hbv],hg2⟩
 have hl3:q.n3=64:=by rw[<- h.l3];exact h64
 clear h hr hsh h64 e1 hO hT hS hp hn hP HTS
 generalize gB r=T at *
 generalize BO p r.sig T=bv at *
 obtain⟨s,a1,n1,c1,a2,n2,c2,a3,n3,c3⟩:=q
 obtain⟨key,cl,sq,cx,g,val,sig⟩:=r
 obtain rfl:n3=64:=hl3
 replace HS:Hid (∀w' (_:w.grownBy w' none),Calls Tryz.prog 49 #[vV s cl sq a1 n1 c1 g a2 n2 c2 a3 64 c3] w' fun e w''=>e=.returned (.bool true)/\w'.grownBy w'' none):=HS
 replace HX:Hid (∀w' (_:w.grownBy w' none),Calls Tryz.prog 68 #[vV s cl sq a1 n1 c1 g a2 n2 c2 a3 64 c3] w' (E8 w' T)):=HX
 replace HV:Hid (∀(w':World) (N aT:Nat) (bT:Option Addr),w.grownBy w' none->aF w' N 24 [.slice bT T.length aT]->BytesAt w' w'.heap.size bT aT T->Calls Tryz.prog 67 #[.slice a n cap,.slice a3 64 c3,.slice (some ⟨N,0,none⟩) 1 1] w' fun e w''=>e=.returned (.bool bv)/\w'.grownBy w'' none):=HV
 show Calls _ _ #[.slice a n cap,vV s cl sq a1 n1 c1 g a2 n2 c2 a3 64 c3] w _
 obtain⟨N,hN⟩:∃N,N=w.heap.size:=⟨_,rfl⟩
 obtain⟨W0,hW0⟩:∃W0,W0=w.alloc (.cells #[.string s,iV cl,iV sq,.slice a1 n1 c1,.bool g,.slice a2 n2 c2,.slice a3 64 c3] 34):=⟨_,rfl⟩
 have hG0:w.grownBy W0 none:=by rw[hW0];exact au (ah _ _) _
 have hB0:aF W0 N 34 [.string s,iV cl,iV sq,.slice a1 n1 c1,.bool g,.slice a2 n2 c2,.slice a3 64 c3]:=by rw[hW0,hN];exact aF.new w _ _
 have iA:=Lib.hid (And.intro hG0 hB0);clear hG0 hB0
 go_enter Tryz.func51,Tryz.ntmps51
 go_wp2_with fail
 rw[<- hW0,<- hN]
 clear hW0 hN
 refine (HS.out _ iA.out.1).mono ?_
 rintro e w1 ⟨rfl,hg⟩
 have hB1:=(iA.out.2.grown hg (by simp)).grown (aX (ah w1 none)) (by simp)
 have m0:=hB1.cell (i:=0) rfl
 have m1:=hB1.cell (i:=1) rfl
 have m2:=hB1.cell (i:=2) rfl
 have m3:=hB1.cell (i:=3) rfl
 have m4:=hB1.cell (i:=4) rfl
 have m5:=hB1.cell (i:=5) rfl
 have m6:=hB1.cell (i:=6) rfl
 have HG:=Lib.hid (And.intro (aj iA.out.1 (aX hg)) hB1);clear hg hB1
 go_wp2_with fail
 go_region_law (first
  | (
    refine Fg.DR rfl (f:=68) (args:=#[vV s cl sq a1 n1 c1 g a2 n2 c2 a3 64 c3]) (Fg.aN rfl rfl (by simp only[List.map_toArray,List.map_cons,List.map_nil,Act.eval];rfl) (Fg.aI Tryz.func68 (by kernel_rfl) (by kernel_rfl))) ?_
    refine (HX.out _ HG.out.1).mono ?_
    intro e w2 h2
    obtain⟨aT,cT,rfl,hg2,hBT⟩:=h2
    have hB2:=HG.out.2.grown hg2 (by simp)
    have k6:=hB2.cell (i:=6) rfl
    have ga:=au (ah w2 none) (.cells #[.slice aT T.length cT] 24)
    have j6:=(hB2.grown ga (by simp)).cell (i:=6) rfl
    have H2:=Lib.hid (And.intro (aj (aj HG.out.1 hg2) ga) (And.intro (aF.new w2 [.slice aT T.length cT] 24) (hBT.stay ga).full));clear hg2 hBT hB2 ga HX
    refine⟨_,rfl,?_⟩)
  | (
    refine Fg.DR rfl (f:=67) (args:=#[.slice a n cap,.slice a3 64 c3,.slice (some ⟨w2.heap.size,0,none⟩) 1 1]) (Fg.aN rfl rfl (by simp only[List.map_toArray,List.map_cons,List.map_nil,Act.eval];rfl) (Fg.aI Tryz.func67 (by kernel_rfl) (by kernel_rfl))) ?_
    refine (HV.out _ w2.heap.size cT aT H2.out.1 H2.out.2.1 H2.out.2.2).mono ?_
    rintro e w3 ⟨rfl,hg3⟩
    have H3:=Lib.hid (aj H2.out.1 hg3);clear hg3 HV
    refine⟨_,rfl,?_⟩))
 all_goals
  cases bv with
  | true=>
   go_wp2
   go_ret
   exact⟨rfl,H3.out⟩
  | false=>
   go_wp2
   go_ret
   exact⟨rfl,H3.out⟩
theorem PD (r:R) (B n cap Bp:Nat) (a:Option Addr) (p:List Nat) (w:World) (q:L) (hO:ko w) (hT:dH w) (hS:Tables w) (hp:p.length=n) (hn:n<9223372036854775808) (hP:BytesAt w Bp a cap p) (h:lD w B q r):
  Calls Tryz.prog 51 #[.slice a n cap,q.v r] w fun e w'=>e=.returned (.int .i64 (xE p r))/\w.grownBy w' none:=by
 unfold xE
 cases hr:iL r with
 | false=>exact Ub r B n cap a w q h hr
 | true=>exact Pz r B n cap Bp a p w q hO hT hS hp hn hP h hr
end Gr
end
section
open Go.RowKit Ow Wi Ve Rc
namespace Gr
def uH (w:World) (x:Int) (e:Ending) (w':World):Prop:=w.grownBy w' none/\((x=0/\e=.returned (.tuple #[]))\/(x≠0/\T9 x e))
theorem PE (b:Bool) (c:Int) (w:World):Calls Tryz.prog 35 #[.bool b,.int .i64 c] w fun e w'=>(if b then e=.returned (.tuple #[]) else T9 c e)/\w'=w:=by
 cases b with
 | true=>exact uG c w
 | false=>exact xM c w
set_option maxHeartbeats 2000000 in
set_option maxRecDepth 100000 in
theorem Lu (n cap:Nat) (a:Option Addr) (r:R) (B:Nat) (w:World) (q:L) (h:lD w B q r) (hr:iL r=false):
  Calls Tryz.prog 36 #[.agg #[.slice a n cap],q.v r] w (uH w 4):=by
 have HS:=Lib.hid (fun w' (hg:w.grownBy w' none)=>oL r B w' q (h.stay hg))
 rw[hr]at HS
 have HM:=Lib.hid (fun w=>xM 4 w)
 clear h hr
 obtain⟨s,a1,n1,c1,a2,n2,c2,a3,n3,c3⟩:=q
 obtain⟨key,cl,sq,cx,g,val,sig⟩:=r
 replace HS:Hid (∀w' (_:w.grownBy w' none),Calls Tryz.prog 49 #[vV s cl sq a1 n1 c1 g a2 n2 c2 a3 n3 c3] w' fun e w''=>e=.returned (.bool false)/\w'.grownBy w'' none):=HS
 show Calls _ _ #[.agg #[.slice a n cap],vV s cl sq a1 n1 c1 g a2 n2 c2 a3 n3 c3] w _
 go_enter Tryz.func36,Tryz.ntmps36
 go_wp2_with fail
 refine (HS.out _ (au (au (ah _ _) _) _)).mono ?_
 rintro e w1 ⟨rfl,hg⟩
 have HG:=Lib.hid (aj (au (au (ah _ _) _) _) hg);clear hg
 go_wp2_with fail
 refine (HM.out _).mono ?_
 rintro e w2 ⟨he,rfl⟩
 obtain rfl:=he
 exact⟨rfl,HG.out,Or.inr ⟨by decide,rfl⟩⟩
set_option maxHeartbeats 2000000 in
set_option maxRecDepth 100000 in
theorem PG (n cap Bg:Nat) (a:Option Addr) (l:List GE) (r:R) (B:Nat) (w:World) (q:L) (h:lD w B q r) (hr:iL r=true) (hl:l.length=n) (hn:n<=1000000) (hL:iJ w Bg a l) (hf:lF l r.cl=none):
  Calls Tryz.prog 36 #[.agg #[.slice a n cap],q.v r] w (uH w 21):=by
 have HS:=Lib.hid (fun w' (hg:w.grownBy w' none)=>oL r B w' q (h.stay hg))
 rw[hr]at HS
 have HF:=Lib.hid (fun w' (hg:w.grownBy w' none)=>DV n cap Bg a r.cl l w' hl hn (hL.stay hg))
 rw[hf]at HF
 have HM:=Lib.hid (fun w=>xM 21 w)
 have HY:=Lib.hid uG
 clear h hr hl hL hf
 obtain⟨s,a1,n1,c1,a2,n2,c2,a3,n3,c3⟩:=q
 obtain⟨key,cl,sq,cx,g,val,sig⟩:=r
 replace HS:Hid (∀w' (_:w.grownBy w' none),Calls Tryz.prog 49 #[vV s cl sq a1 n1 c1 g a2 n2 c2 a3 n3 c3] w' fun e w''=>e=.returned (.bool true)/\w'.grownBy w'' none):=HS
 replace HF:Hid (∀w' (_:w.grownBy w' none),Calls Tryz.prog 22 #[.slice a n cap,.int .i64 cl] w' fun e w''=>e=.returned (.tuple #[zG,.bool false])/\w'.grownBy w'' none):=HF
 show Calls _ _ #[.agg #[.slice a n cap],vV s cl sq a1 n1 c1 g a2 n2 c2 a3 n3 c3] w _
 obtain⟨N,hN⟩:∃N,N=w.heap.size:=⟨_,rfl⟩
 obtain⟨M,hM⟩:∃M,M=w.heap.size+1:=⟨_,rfl⟩
 obtain⟨W0,hW0⟩:∃W0,W0=(w.alloc (.cells #[.slice a n cap] 52)).alloc (.cells #[.string s,iV cl,iV sq,.slice a1 n1 c1,.bool g,.slice a2 n2 c2,.slice a3 n3 c3] 34):=⟨_,rfl⟩
 have hG0:w.grownBy W0 none:=by rw[hW0];exact au (au (ah _ _) _) _
 have hB0:aF W0 N 52 [.slice a n cap]:=by rw[hW0,hN];exact (aF.new _ [.slice a n cap] _).alloc _
 have hB1:aF W0 M 34 [.string s,iV cl,iV sq,.slice a1 n1 c1,.bool g,.slice a2 n2 c2,.slice a3 n3 c3]:=by rw[hW0,hM,<- World.size_alloc w (.cells #[.slice a n cap] 52)];exact aF.new _ _ _
 have iA:=Lib.hid (And.intro hG0 (And.intro hB0 hB1));clear hG0 hB0 hB1
 go_enter Tryz.func36,Tryz.ntmps36
 go_wp2_with fail
 rw[<- hW0,<- hM,<- hN]
 clear hW0 hN hM
 refine (HS.out _ iA.out.1).mono ?_
 rintro e w1 ⟨rfl,hg⟩
 have iw:=Lib.hid (And.intro (aj iA.out.1 hg) (And.intro (iA.out.2.1.grown hg (by simp)) (iA.out.2.2.grown hg (by simp))));clear hg iA HS
 go_wp2_with fail
 refine (HY.out 4 _).mono ?_
 rintro e w2 ⟨rfl,rfl⟩
 have d0:=iw.out.2.1.cell (i:=0) rfl
 have r1:=iw.out.2.2.cell (i:=1) rfl
 unfold iV at r1
 go_wp2_with fail
 clear d0 r1
 refine (HF.out _ iw.out.1).mono ?_
 rintro e w3 ⟨rfl,hg⟩
 have HG2:=Lib.hid (And.intro (aj iw.out.1 hg) (iw.out.2.2.grown hg (by simp)));clear hg iw HF
 go_wp2_with fail
 refine (HM.out _).mono ?_
 rintro e w4 ⟨he,rfl⟩
 obtain rfl:=he
 exact⟨rfl,au HG2.out.1 _,Or.inr ⟨by decide,rfl⟩⟩
set_option maxHeartbeats 4000000 in
set_option maxRecDepth 100000 in
theorem PI (n cap Bg:Nat) (a:Option Addr) (l:List GE) (r:R) (B:Nat) (w:World) (q:L) (x:GE) (hO:ko w) (hT:dH w) (Qd:Tables w) (h:lD w B q r) (hr:iL r=true) (hl:l.length=n) (hn:n<=1000000) (hL:iJ w Bg a l) (hf:lF l r.cl=some x):
  Calls Tryz.prog 36 #[.agg #[.slice a n cap],q.v r] w (uH w (if tK x.2.pre r.key then xE x.2.pub r else 21)):=by
 have HS:=Lib.hid (fun w' (hg:w.grownBy w' none)=>oL r B w' q (h.stay hg))
 rw[hr]at HS
 have HF:=Lib.hid (fun w' (hg:w.grownBy w' none)=>DV n cap Bg a r.cl l w' hl hn (hL.stay hg))
 rw[hf]at HF
 have hx:=hL.each x (TU hf).1
 have HC:=Lib.hid (fun w' (hg:w.grownBy w' none)=>PD r B x.1.n x.1.c Bg x.1.a x.2.pub w' q (hO.kept hg (fun b e=>by cases e)) (hT.grown hg) (Qd.kept hg (fun b e=>by cases e)) hx.len (by have:=hx.pub.top;have:=hx.pub.fits;have:=hx.len;omega) (hx.pub.stay hg) (h.stay hg))
 have HM:=Lib.hid (fun b c w=>PE b c w)
 have HY:=Lib.hid uG
 have HP:=Lib.hid (Ls q.s x.1.s)
 rw[h.str,hx.str]at HP
 clear h hr hl hL hf hx hO hT Qd
 generalize xE x.2.pub r=ck at *
 generalize tK x.2.pre r.key=bg at *
 obtain⟨X,hX⟩:∃X,X=if bg then ck else 21:=⟨_,rfl⟩
 rw[<- hX]
 have HX:=Lib.hid hX;clear hX
 obtain⟨⟨ga,gn,gp,gs⟩,⟨gc,pub,pre⟩⟩:=x
 obtain⟨s,a1,n1,c1,a2,n2,c2,a3,n3,c3⟩:=q
 obtain⟨key,cl,sq,cx,g,val,sig⟩:=r
 replace HS:Hid (∀w' (_:w.grownBy w' none),Calls Tryz.prog 49 #[vV s cl sq a1 n1 c1 g a2 n2 c2 a3 n3 c3] w' fun e w''=>e=.returned (.bool true)/\w'.grownBy w'' none):=HS
 replace HF:Hid (∀w' (_:w.grownBy w' none),Calls Tryz.prog 22 #[.slice a n cap,.int .i64 cl] w' fun e w''=>e=.returned (.tuple #[vG gc ga gn gp gs,.bool true])/\w'.grownBy w'' none):=HF
 replace HC:Hid (∀w' (_:w.grownBy w' none),Calls Tryz.prog 51 #[.slice ga gn gp,vV s cl sq a1 n1 c1 g a2 n2 c2 a3 n3 c3] w' fun e w''=>e=.returned (.int .i64 ck)/\w'.grownBy w'' none):=HC
 replace HP:Hid (∀w,Calls Tryz.prog 50 #[.string s,.string gs] w fun e w'=>e=.returned (.bool bg)/\w'=w):=HP
 show Calls _ _ #[.agg #[.slice a n cap],vV s cl sq a1 n1 c1 g a2 n2 c2 a3 n3 c3] w _
 obtain⟨N,hN⟩:∃N,N=w.heap.size:=⟨_,rfl⟩
 obtain⟨M,hM⟩:∃M,M=w.heap.size+1:=⟨_,rfl⟩
 obtain⟨W0,hW0⟩:∃W0,W0=(w.alloc (.cells #[.slice a n cap] 52)).alloc (.cells #[.string s,iV cl,iV sq,.slice a1 n1 c1,.bool g,.slice a2 n2 c2,.slice a3 n3 c3] 34):=⟨_,rfl⟩
 have hG0:w.grownBy W0 none:=by rw[hW0];exact au (au (ah _ _) _) _
 have hB0:aF W0 N 52 [.slice a n cap]:=by rw[hW0,hN];exact (aF.new _ [.slice a n cap] _).alloc _
 have hB1:aF W0 M 34 [.string s,iV cl,iV sq,.slice a1 n1 c1,.bool g,.slice a2 n2 c2,.slice a3 n3 c3]:=by rw[hW0,hM,<- World.size_alloc w (.cells #[.slice a n cap] 52)];exact aF.new _ _ _
 have iA:=Lib.hid (And.intro hG0 (And.intro hB0 hB1));clear hG0 hB0 hB1
 go_enter Tryz.func36,Tryz.ntmps36
 go_wp2_with fail
 rw[<- hW0,<- hM,<- hN]
 clear hW0 hN hM
 refine (HS.out _ iA.out.1).mono ?_
 rintro e w1 ⟨rfl,hg⟩
 have iw:=Lib.hid (And.intro (aj iA.out.1 hg) (And.intro (iA.out.2.1.grown hg (by simp)) (iA.out.2.2.grown hg (by simp))));clear hg iA HS
 go_wp2_with fail
 refine (HY.out 4 _).mono ?_
 rintro e w2 ⟨rfl,rfl⟩
 have d0:=iw.out.2.1.cell (i:=0) rfl
 have r1:=iw.out.2.2.cell (i:=1) rfl
 unfold iV at r1
 go_wp2_with fail
 clear d0 r1
 refine (HF.out _ iw.out.1).mono ?_
 rintro e w3 ⟨rfl,hg⟩
 have HG2:=Lib.hid (And.intro (aj iw.out.1 hg) (iw.out.2.2.grown hg (by simp)));clear hg iw HF
 have r0:=(HG2.out.2.alloc (.cells #[.int .i64 gc,.slice ga gn gp,.string gs] 26)).cell (i:=0) rfl
 go_wp2_with fail
 refine (HP.out _).mono ?_
 rintro e w4 ⟨rfl,rfl⟩
 clear r0 HP
 cases bg with
 | false=>
  go_wp2_with fail
  refine (HM.out false 21 _).mono ?_
  rintro e w5 ⟨he,rfl⟩
  obtain rfl:=he
  have hX:X=21:=HX.out
  exact⟨rfl,au HG2.out.1 _,Or.inr ⟨by omega,by rw[hX];rfl⟩⟩
 | true=>
  go_wp2_with fail
  refine (HY.out 21 _).mono ?_
  rintro e w5 ⟨rfl,rfl⟩
  obtain⟨W3,hW3⟩:∃W3,W3=w3.alloc (.cells #[.int .i64 gc,.slice ga gn gp,.string gs] 26):=⟨_,rfl⟩
  have hb:aF W3 w3.heap.size 26 [.int .i64 gc,.slice ga gn gp,.string gs]:=by rw[hW3];exact aF.new _ _ _
  have hk:aF W3 M 34 [.string s,iV cl,iV sq,.slice a1 n1 c1,.bool g,.slice a2 n2 c2,.slice a3 n3 c3]:=by rw[hW3];exact HG2.out.2.alloc _
  have hg3:w.grownBy W3 none:=by rw[hW3];exact au HG2.out.1 _
  have mM:=Lib.hid hg3
  rw[<- hW3]
  have r0:=hk.cell (i:=0) rfl
  have r1:=hk.cell (i:=1) rfl
  have r2:=hk.cell (i:=2) rfl
  have r3:=hk.cell (i:=3) rfl
  have r4:=hk.cell (i:=4) rfl
  have r5:=hk.cell (i:=5) rfl
  have r6:=hk.cell (i:=6) rfl
  have g1:=hb.cell (i:=1) rfl
  clear hb hk hg3 hW3
  go_wp2_with fail
  refine (HC.out _ mM.out).mono ?_
  rintro e w6 ⟨rfl,hg⟩
  have jX:=Lib.hid (aj mM.out hg);clear hg r0 r1 r2 r3 r4 r5 r6 g1
  have hX:X=ck:=HX.out
  subst hX
  by_cases hz:X=0
  .go_wp2_with fail
   refine (HY.out 0 _).mono ?_
   rintro e w7 ⟨rfl,rfl⟩
   go_wp2
   go_end0
   exact⟨jX.out,Or.inl ⟨hz,rfl⟩⟩
  .have hz2:(X==0)=false:=by simpa using hz
   go_wp2_with fail
   refine (HM.out false X _).mono ?_
   rintro e w7 ⟨he,rfl⟩
   obtain rfl:=he
   exact⟨rfl,jX.out,Or.inr ⟨hz,rfl⟩⟩
theorem Uc (n cap Bg:Nat) (a:Option Addr) (l:List GE) (r:R) (B:Nat) (w:World) (q:L) (hO:ko w) (hT:dH w) (Qd:Tables w) (h:lD w B q r) (hl:l.length=n) (hn:n<=1000000) (hL:iJ w Bg a l):
  Calls Tryz.prog 36 #[.agg #[.slice a n cap],q.v r] w (uH w (mH (l.map (·.2)) r)):=by
 unfold mH
 rw[TT]
 cases hr:iL r with
 | false=>exact Lu n cap a r B w q h hr
 | true=>
  cases hf:lF l r.cl with
  | none=>exact PG n cap Bg a l r B w q h hr hl hn hL hf
  | some x=>exact PI n cap Bg a l r B w q x hO hT Qd h hr hl hn hL hf
end Gr
end
section
open Go.RowKit Ow Wi Ve Rc
namespace Gr
theorem PK (last:Int) (l:List GE) (k:Nat) (h:k<l.length):tJ last ((l.drop k).map (·.2))=((decide (last<(l.getD k g0).2.cl)&&decide ((l.getD k g0).2.cl<=8)&&decide ((l.getD k g0).2.pub.length=32)&&decide ((l.getD k g0).2.pre.length<=64))&&tJ (l.getD k g0).2.cl ((l.drop (k+1)).map (·.2))):=by
 rw[List.drop_eq_getElem_cons h,List.getD_eq_getElem?_getD,List.getElem?_eq_getElem h]
 rfl
set_option maxHeartbeats 4000000 in
set_option maxRecDepth 100000 in
theorem vQ (n cap B:Nat) (a:Option Addr) (l:List GE) (w:World) (hl:l.length=n) (hn:n<=1000000) (hL:iJ w B a l):
  Calls Tryz.prog 21 #[.slice a n cap] w fun e w'=>e=.returned (.bool (rightG (l.map (·.2))))/\w.grownBy w' none:=by
 obtain⟨b,hb⟩:∃b,b=rightG (l.map (·.2)):=⟨_,rfl⟩
 rw[<- hb]
 have HL:Hid (b=tJ 0 ((l.drop 0).map (·.2))/\l.length=n/\∀w',w.grownBy w' none->iJ w' B a l):=⟨hb,hl,fun w' hg=>hL.stay hg⟩
 clear hb hl hL
 go_enter Tryz.func21,Tryz.ntmps21
 go_wp2_with fail
 go_loopw [3,8] (fun last i wr=>∃(k:Nat) (z:Int),k<=n/\last=.int .i64 z/\i=.int .i64 k/\w.grownBy wr none/\b=tJ z ((l.drop k).map (·.2))) (fun _ i _=>n-(intOf i).toNat)
 case atStart=>exact⟨0,0,by omega,rfl,rfl,ah _ _,HL.out.1⟩
 case round=>
  obtain⟨k,z,hk,rfl,rfl,hg,hb⟩:=hrel
  by_cases hlt:k<n
  .have hR:=HL.out.2.2 wr hg
   obtain⟨pb,po,rfl,hpb,hc⟩:=hR.at (by have:=HL.out.2.1;omega)
   obtain⟨c0,c1,c2⟩:=hc k (by have:=HL.out.2.1;omega)
   have hx:=hR.mem k (by have:=HL.out.2.1;omega)
   rw[PK z l k (by have:=HL.out.2.1;omega)]at hb
   rw[hx.len,<- hx.str,gW]at hb
   have i0:(k:Int)<(n:Int):=by omega
   have hpw:pb≠wr.heap.size:=by omega
   have HI:=Lib.hid hg
   clear hg hR hc hx
   generalize (l.getD k g0).2.cl=gc at *
   generalize (l.getD k g0).1.a=ga at *
   generalize (l.getD k g0).1.n=gn at *
   generalize (l.getD k g0).1.c=gp at *
   generalize (l.getD k g0).1.s=gs at *
   unfold iV at c0
   by_cases h1:z<gc
   .have j1:¬gc<=z:=by omega
    by_cases h2:gc<=8
    .have j2:¬gc>8:=by omega
     by_cases h3:gn=32
     .have j3:(gn:Int)=32:=by omega
      by_cases h4:gs.size<=64
      .have j4:¬(gs.size:Int)>64:=by omega
       have hb2:b=tJ gc ((l.drop (k+1)).map (·.2)):=by simpa[h1,h2,h3,h4] using hb
       have HB:=Lib.hid hb2
       clear hb hb2 h1 h2 h3 h4
       go_wp2
       go_roundw
       case rel=>exact⟨k+1,gc,by omega,rfl,by go_num,au HI.out _,HB.out⟩
       case measure=>simp[intOf];omega
      .have j4:(gs.size:Int)>64:=by omega
       have hb2:b=false:=by simpa[h4] using hb
       clear hb h1 h2 h3 h4
       subst hb2
       go_wp2
       go_ret
       exact⟨rfl,au HI.out _⟩
     .have j3:¬(gn:Int)=32:=by omega
      have hb2:b=false:=by simpa[h3] using hb
      clear hb h1 h2 h3
      subst hb2
      go_wp2
      go_ret
      exact⟨rfl,au HI.out _⟩
    .have j2:gc>8:=by omega
     have hb2:b=false:=by simpa[h2] using hb
     clear hb h1 h2
     subst hb2
     go_wp2
     go_ret
     exact⟨rfl,au HI.out _⟩
   .have j1:gc<=z:=by omega
    have hb2:b=false:=by simpa[h1] using hb
    clear hb h1
    subst hb2
    go_wp2
    go_ret
    exact⟨rfl,au HI.out _⟩
  .obtain rfl:k=n:=by omega
   have hb2:b=true:=by rw[hb,List.drop_eq_nil_of_le (by have:=HL.out.2.1;omega)];rfl
   clear hb
   subst hb2
   have HI:=Lib.hid hg;clear hg
   go_wp2
   go_ret
   exact⟨rfl,HI.out⟩
end Gr
end
section
open Wi Ve Rc
namespace Sb
end Sb
end
section
open Go.RowKit Ow Wi Ve Rc
namespace Sb
abbrev E:=L×R
abbrev e0:E:=(⟨⟨#[]⟩,none,0,0,none,0,0,none,0,0⟩,⟨[],0,0,[],false,[],[]⟩)
instance:Inhabited E:=⟨e0⟩
def recC (x:E):List Value:=x.1.cells x.2
def ac4 (x:E):Value:=x.1.v x.2
theorem ZP (l:List E) (k:Nat) (h:k<l.length):l.drop k=l.getD k e0:: l.drop (k+1):=by
 rw[List.drop_eq_getElem_cons h,List.getD_eq_getElem?_getD,List.getElem?_eq_getElem h];rfl
structure yJ (w:World) (B:Nat) (a:Option Addr) (l:List E):Prop where
 lim:B<=w.heap.size
 recs:∀x∈l,lD w B x.1 x.2
 cells:l.length=0\/∃pb po,a=some ⟨pb,po,none⟩/\pb<B/\∀i,i<l.length->∀j v,(recC (l.getD i e0))[j]?=some v->w.cell? ⟨pb,po+i*7+j,none⟩=some v
theorem lD.kept {w w':World} {B:Nat} {q:L} {r:R} (h:lD w B q r) {row:Option Nat} (hg:w.grownBy w' row) (hr:∀x,row=some x->B<=x):lD w' B q r:=
 ⟨h.str,h.l1,h.l2,h.l3,h.dots.kept hg hr,h.val.kept hg hr,h.sig.kept hg hr,h.top⟩
theorem yJ.kept {w w':World} {B:Nat} {a:Option Addr} {l:List E} (h:yJ w B a l) {row:Option Nat} (hg:w.grownBy w' row) (hr:∀x,row=some x->B<=x):yJ w' B a l:=by
 refine⟨Nat.le_trans h.lim hg.size,fun x hx=>lD.kept (h.recs x hx) hg hr,?_⟩
 rcases h.cells with h0 |⟨pb,po,ha,hlt,hc⟩
 .exact Or.inl h0
 .exact Or.inr ⟨pb,po,ha,hlt,fun i hi j v hv=>by
   rw[aZ hg (p:=⟨pb,po+i*7+j,none⟩) (Nat.lt_of_lt_of_le hlt h.lim) (fun e=>by have:=hr _ e.symm;simp at this;omega)]
   exact hc i hi j v hv⟩
theorem yJ.stay {w w':World} {B:Nat} {a:Option Addr} {l:List E} (h:yJ w B a l) (hg:w.grownBy w' none):yJ w' B a l:=h.kept hg (fun r e=>by cases e)
theorem Ud {l:List E} {i:Nat} (h:i<l.length):l.getD i e0∈l:=by
 rw[List.getD_eq_getElem?_getD,List.getElem?_eq_getElem h];exact List.getElem_mem _
structure Ue (w:World) (pb o:Nat) (x:E):Prop where
 c0:w.cell? ⟨pb,o+0,none⟩=some (.string x.1.s)
 c1:w.cell? ⟨pb,o+1,none⟩=some (iV x.2.cl)
 c2:w.cell? ⟨pb,o+2,none⟩=some (iV x.2.sq)
 c3:w.cell? ⟨pb,o+3,none⟩=some (.slice x.1.a1 x.1.n1 x.1.c1)
 c4:w.cell? ⟨pb,o+4,none⟩=some (.bool x.2.gone)
 c5:w.cell? ⟨pb,o+5,none⟩=some (.slice x.1.a2 x.1.n2 x.1.c2)
 c6:w.cell? ⟨pb,o+6,none⟩=some (.slice x.1.a3 x.1.n3 x.1.c3)
theorem ZQ {w:World} {pb o:Nat} {x:E} (h:∀j v,(recC x)[j]?=some v->w.cell? ⟨pb,o+j,none⟩=some v):Ue w pb o x:=
 ⟨h 0 _ rfl,h 1 _ rfl,h 2 _ rfl,h 3 _ rfl,h 4 _ rfl,h 5 _ rfl,h 6 _ rfl⟩
theorem yJ.at {w:World} {B:Nat} {a:Option Addr} {l:List E} (h:yJ w B a l) (h0:0<l.length):∃pb po,a=some ⟨pb,po,none⟩/\pb<B/\∀i,i<l.length->Ue w pb (po+i*7) (l.getD i e0):=by
 obtain⟨pb,po,e,hl,hc⟩:=h.cells.resolve_left (by omega)
 exact⟨pb,po,e,hl,fun i hi=>ZQ (hc i hi)⟩
theorem WM {w:World} {N:Nat} {T:TypeId} {x:E} (h:aF w N T (recC x)):∀j u,(recC x)[j]?=some u->w.cell? ⟨N,0+j,none⟩=some u:=fun j u hu=>by
 rw[Nat.zero_add];exact h.cell hu
end Sb
end
section
open Go.RowKit Ow Wi Ve Rc Sb
namespace Gr
theorem ZR (t:TypeId) (v:Value) (w:World):(Instr.typeAssert (.iface 29 v) t 29 true).run Tryz.prog w=.ok (.tuple #[v,.bool true]) w:=by kernel_rfl
theorem ac5 (t:TypeId) (w:World):(Instr.typeAssert .nilIface t 29 true).run Tryz.prog w=.ok (.tuple #[.int .i64 0,.bool false]) w:=by kernel_rfl
set_option maxRecDepth 100000 in
theorem Nn (N:Nat) (x:Value) (c:Int) (older:List PanicEntry) (w:World) (hb:aF w N 29 [x]):
  CallsD Tryz.prog 34 #[.pointer (some ⟨N,0,none⟩)] (.panicking ({v:=.iface 29 (.int .i64 c),recovered:=false}:: older)) w fun e u' w'=>
   e=.returned (.tuple #[])/\u'=.panicking ({v:=.iface 29 (.int .i64 c),recovered:=true}:: older)/\w.grownBy w' (some N)/\aF w' N 29 [.int .i64 c]:=by
 have c0:=hb.cell (i:=0) rfl
 have f0:=hb.free 0
 refine callsD_of_wpS Tryz.func34 rfl fun c₀ cs hu=>?_
 apply wpS_seq
 apply wpS_region
 simp[wpOpsS,go_sem,recoverD,hu,ZR,Array.replicate,Tryz.ntmps34,Exit.thenS]
 refine wpS_of_wp ?_
 go_wp2
 exact⟨rfl,_,rfl,.tuple #[],results_none rfl _ _ _,rfl,rfl,aQ (ah _ _) 0 _,hb.set 0 _⟩
set_option maxRecDepth 100000 in
theorem ac6 (p:Addr) (w:World):
  CallsD Tryz.prog 34 #[.pointer (some p)] .returning w fun e u' w'=>e=.returned (.tuple #[])/\u'=.returning/\w'=w:=by
 refine callsD_of_wpS Tryz.func34 rfl fun c₀ cs hu=>?_
 apply wpS_seq
 apply wpS_region
 simp[wpOpsS,go_sem,recoverD,hu,ac5,Array.replicate,Tryz.ntmps34,Exit.thenS]
 refine wpS_of_wp ?_
 go_wp2
 cases c₀
 simp_all[bodyPostS,results,Tryz.results34]
theorem Uf:∀(fn:Fn) (first cap:Array Value) (w:World),(Instr.makeFunc fn first cap).run Tryz.prog w=.ok (.func fn first cap) w:=fun _ _ _ _=>rfl
theorem PL (gs:List G) (l:List E) (k:Nat) (h:k<l.length):rG gs ((l.drop k).map (·.2))=if mH gs (l.getD k e0).2=0 then rG gs ((l.drop (k+1)).map (·.2)) else mH gs (l.getD k e0).2:=by
 rw[ZP l k h];rfl
set_option maxHeartbeats 4000000 in
set_option maxRecDepth 100000 in
theorem Lv (n cap Bg m mc:Nat) (a am:Option Addr) (l:List GE) (w:World) (hl:l.length=n) (hn:n<=1000000) (hL:iJ w Bg a l) (hg:rightG (l.map (·.2))=false):
  Calls Tryz.prog 20 #[.agg #[.slice a n cap],.slice am m mc] w fun e w'=>e=.returned (.int .i64 2)/\w.grownBy w' none:=by
 have HR:=Lib.hid (fun w' (hg:w.grownBy w' none)=>vQ n cap Bg a l w' hl hn (hL.stay hg))
 rw[hg]at HR
 have HM:=Lib.hid (fun w=>xM 2 w)
 clear hl hL hg
 have hmf:=Uf
 obtain⟨N,hN⟩:∃N,N=w.heap.size+1:=⟨_,rfl⟩
 obtain⟨W0,hW0⟩:∃W0,W0=(w.alloc (.cells #[.slice a n cap] 52)).alloc (.cells #[.int .i64 2] 29):=⟨_,rfl⟩
 have hG0:w.grownBy W0 none:=by rw[hW0];exact au (au (ah _ _) _) _
 have hB1:aF W0 N 29 [.int .i64 2]:=by rw[hW0,hN,<- World.size_alloc w (.cells #[.slice a n cap] 52)];exact aF.new _ _ _
 have iA:=Lib.hid (And.intro hG0 (And.intro hB1 (show w.heap.size<=N by omega)));clear hG0 hB1
 go_enter_defers Tryz.func20,Tryz.ntmps20
 go_wp2_with (fail)
 rw[<- hW0,<- hN]
 clear hW0 hN
 refine (HR.out _ iA.out.1).mono ?_
 rintro e w1 ⟨rfl,hg⟩
 have iw:=Lib.hid (And.intro (aj iA.out.1 hg) (And.intro (iA.out.2.1.grown hg (by simp)) iA.out.2.2));clear hg iA HR
 go_wp2_with fail
 refine (HM.out _).mono ?_
 rintro e w2 ⟨he,rfl⟩
 obtain rfl:=he
 refine leaves_cons (f:=34) (args:=#[.pointer (some ⟨N,0,none⟩)]) (by simp) (by simp[go_sem]) ?_
 refine (Nn N _ 2 [] _ iw.out.2.1).mono ?_
 rintro e u' w'' ⟨rfl,rfl,hg3,hb3⟩
 have c1:=hb3.cell (i:=0) rfl
 simp[Leaves,settle,results,Tryz.results20,go_sem,loadVar,c1]
 exact aW iw.out.1 hg3 iw.out.2.2
set_option maxHeartbeats 4000000 in
set_option maxRecDepth 100000 in
theorem Lx (n cap Bg m mc Bm:Nat) (a am:Option Addr) (l:List GE) (rs:List E) (w:World) (hO:ko w) (hT:dH w) (Qd:Tables w) (hl:l.length=n) (hn:n<=1000000) (hL:iJ w Bg a l) (hm:rs.length=m) (hm2:m<=1000000) (hR:yJ w Bm am rs) (hg:rightG (l.map (·.2))=true):
  Calls Tryz.prog 20 #[.agg #[.slice a n cap],.slice am m mc] w fun e w'=>e=.returned (.int .i64 (rG (l.map (·.2)) (rs.map (·.2))))/\w.grownBy w' none:=by
 have HR:=Lib.hid (fun w' (hg:w.grownBy w' none)=>vQ n cap Bg a l w' hl hn (hL.stay hg))
 rw[hg]at HR
 have HP:Hid (∀(w':World) (x:E),w.grownBy w' none->x∈rs->Calls Tryz.prog 36 #[.agg #[.slice a n cap],ac4 x] w' (uH w' (mH (l.map (·.2)) x.2))):=fun w' x hg hx=>
  Uc n cap Bg a l x.2 Bm w' x.1 (hO.kept hg (fun b e=>by cases e)) (hT.grown hg) (Qd.kept hg (fun b e=>by cases e)) ((hR.recs x hx).stay hg) hl hn (hL.stay hg)
 have HY:=Lib.hid uG
 have HL:Hid (rs.length=m/\∀w',w.grownBy w' none->yJ w' Bm am rs):=⟨hm,fun w' hg=>hR.stay hg⟩
 obtain⟨gs,hgs⟩:∃gs,gs=l.map (·.2):=⟨_,rfl⟩
 rw[<- hgs]at HP ⊢
 clear hl hL hg hO hT Qd hm hR hgs
 obtain⟨X,hX⟩:∃X,X=rG gs (rs.map (·.2)):=⟨_,rfl⟩
 rw[<- hX]
 have HX:Hid (X=rG gs ((rs.drop 0).map (·.2))):=hX
 clear hX
 have hmf:=Uf
 obtain⟨N,hN⟩:∃N,N=w.heap.size+1:=⟨_,rfl⟩
 obtain⟨D,hD⟩:∃D,D=w.heap.size:=⟨_,rfl⟩
 obtain⟨W0,hW0⟩:∃W0,W0=(w.alloc (.cells #[.slice a n cap] 52)).alloc (.cells #[.int .i64 2] 29):=⟨_,rfl⟩
 have hG0:w.grownBy W0 none:=by rw[hW0];exact au (au (ah _ _) _) _
 have hB0:aF W0 D 52 [.slice a n cap]:=by rw[hW0,hD];exact (aF.new _ [.slice a n cap] _).alloc _
 have hB1:aF W0 N 29 [.int .i64 2]:=by rw[hW0,hN,<- World.size_alloc w (.cells #[.slice a n cap] 52)];exact aF.new _ _ _
 have iA:=Lib.hid (And.intro hG0 (And.intro hB0 (And.intro hB1 (show w.heap.size<=N by omega))));clear hG0 hB0 hB1
 go_enter_defers Tryz.func20,Tryz.ntmps20
 go_wp2_with (fail)
 rw[<- hW0,<- hN,<- hD]
 clear hW0 hN hD
 refine (HR.out _ iA.out.1).mono ?_
 rintro e w1 ⟨rfl,hg⟩
 have iw:=Lib.hid (And.intro (aj iA.out.1 hg) (And.intro (iA.out.2.1.grown hg (by simp)) (And.intro (iA.out.2.2.1.grown hg (by simp)) iA.out.2.2.2)));clear hg iA HR
 go_wp2_with fail
 refine (HY.out 2 _).mono ?_
 rintro e w2 ⟨rfl,rfl⟩
 go_wp2_with fail
 go_loopw [14] (fun i wr=>∃(k:Nat),k<=m/\i=.int .i64 k/\Hid (w.grownBy wr none/\aF wr D 52 [.slice a n cap]/\aF wr N 29 [.int .i64 2]/\w.heap.size<=N/\X=rG gs ((rs.drop k).map (·.2)))) (fun i _=>m-(intOf i).toNat)
 case atStart=>exact⟨0,by omega,rfl,iw.out.1,iw.out.2.1,iw.out.2.2.1,iw.out.2.2.2,HX.out⟩
 case round=>
  obtain⟨k,hk,rfl,HI⟩:=hrel
  by_cases hlt:k<m
  .obtain⟨pb,po,rfl,hpb,hcs⟩:=(HL.out.2 _ HI.out.1).at (by rw[HL.out.1];omega)
   have hx:=hcs k (by rw[HL.out.1];exact hlt)
   have HT:Hid (X=if mH gs (rs.getD k e0).2=0 then rG gs ((rs.drop (k+1)).map (·.2)) else mH gs (rs.getD k e0).2):=by
    rw[HI.out.2.2.2.2];exact PL gs rs k (by rw[HL.out.1];exact hlt)
   have hpk:=fun w' hg=>HP.out w' (rs.getD k e0) hg (Sb.Ud (by rw[HL.out.1];exact hlt))
   generalize rs.getD k e0=x at *
   obtain⟨y,hy⟩:∃y,y=mH gs x.2:=⟨_,rfl⟩
   rw[<- hy]at HT
   rw[<- hy]at hpk
   clear hy
   obtain⟨⟨s,a1,n1,c1',a2,n2,c2',a3,n3,c3'⟩,⟨key,cl,sq,cx,g,val,sig⟩⟩:=x
   obtain⟨c0,c1,c2,c3,c4,c5,c6⟩:wr.cell? ⟨pb,po+k*7,none⟩=some (.string s)/\wr.cell? ⟨pb,po+k*7+1,none⟩=some (iV cl)/\wr.cell? ⟨pb,po+k*7+2,none⟩=some (iV sq)/\wr.cell? ⟨pb,po+k*7+3,none⟩=some (.slice a1 n1 c1')/\wr.cell? ⟨pb,po+k*7+4,none⟩=some (.bool g)/\wr.cell? ⟨pb,po+k*7+5,none⟩=some (.slice a2 n2 c2')/\wr.cell? ⟨pb,po+k*7+6,none⟩=some (.slice a3 n3 c3'):=⟨hx.c0,hx.c1,hx.c2,hx.c3,hx.c4,hx.c5,hx.c6⟩
   unfold iV at c1 c2
   have HK:Hid (∀w',w.grownBy w' none->Calls Tryz.prog 36 #[.agg #[.slice a n cap],vV s cl sq a1 n1 c1' g a2 n2 c2' a3 n3 c3'] w' (uH w' y)):=hpk
   clear hpk hx hcs
   have hi:(k:Int)<(m:Int):=by omega
   obtain⟨W1,hW1⟩:∃W1,W1=wr.alloc (.cells #[.string s,.int .i64 cl,.int .i64 sq,.slice a1 n1 c1',.bool g,.slice a2 n2 c2',.slice a3 n3 c3'] 34):=⟨_,rfl⟩
   have hd:aF W1 D 52 [.slice a n cap]:=by rw[hW1];exact HI.out.2.1.alloc _
   have HJ:Hid (w.grownBy W1 none/\aF W1 D 52 [.slice a n cap]/\aF W1 N 29 [.int .i64 2]/\w.heap.size<=N):=by
    rw[hW1];exact⟨au HI.out.1 _,HI.out.2.1.alloc _,HI.out.2.2.1.alloc _,HI.out.2.2.2.1⟩
   have hr:aF W1 wr.heap.size 34 [.string s,.int .i64 cl,.int .i64 sq,.slice a1 n1 c1',.bool g,.slice a2 n2 c2',.slice a3 n3 c3']:=by rw[hW1];exact aF.new _ _ _
   clear HI
   go_upto_region 7 with fail
   rw[<- hW1]
   clear hW1 c0 c1 c2 c3 c4 c5 c6
   have d0:=hd.cell (i:=0) rfl
   have r0:=hr.cell (i:=0) rfl
   have r1:=hr.cell (i:=1) rfl
   have r2:=hr.cell (i:=2) rfl
   have r3:=hr.cell (i:=3) rfl
   have r4:=hr.cell (i:=4) rfl
   have r5:=hr.cell (i:=5) rfl
   have r6:=hr.cell (i:=6) rfl
   clear hd hr
   go_wp2_with fail
   clear d0 r0 r1 r2 r3 r4 r5 r6
   refine (HK.out _ HJ.out.1).mono ?_
   rintro e w3 ⟨hg,hc⟩
   have mM:=Lib.hid (And.intro (aj HJ.out.1 hg) (And.intro (HJ.out.2.1.grown hg (by simp)) (And.intro (HJ.out.2.2.1.grown hg (by simp)) HJ.out.2.2.2)));clear hg HJ HK
   rcases hc with⟨rfl,rfl⟩ |⟨hy,he⟩
   .have HT2:Hid (X=rG gs ((rs.drop (k+1)).map (·.2))):=by have:=HT.out;rwa [if_pos rfl]at this
    go_wp2
    go_roundw
    case rel=>exact⟨k+1,by omega,by go_num,mM.out.1,mM.out.2.1,mM.out.2.2.1,mM.out.2.2.2,HT2.out⟩
    case measure=>simp[intOf];omega
   .obtain rfl:=he
    have hX:X=y:=by have:=HT.out;rwa [if_neg hy]at this
    subst hX
    refine leaves_cons (f:=34) (args:=#[.pointer (some ⟨N,0,none⟩)]) (by simp) (by simp[go_sem]) ?_
    refine (Nn N _ X [] _ mM.out.2.2.1).mono ?_
    rintro e u' w'' ⟨rfl,rfl,hg3,hb3⟩
    have c1:=hb3.cell (i:=0) rfl
    simp[Leaves,settle,results,Tryz.results20,go_sem,loadVar,c1]
    exact aW mM.out.1 hg3 mM.out.2.2.2
  .obtain rfl:k=m:=by omega
   have hX:X=0:=by rw[HI.out.2.2.2.2,List.drop_eq_nil_of_le (by rw[HL.out.1];omega)];rfl
   have c0:=HI.out.2.2.1.cell (i:=0) rfl
   have f0:=HI.out.2.2.1.free 0
   have HB:=Lib.hid (HI.out.2.2.1.set 0 (.int .i64 0))
   subst hX
   go_wp2_with (fail)
   refine leaves_cons (f:=34) (args:=#[.pointer (some ⟨N,0,none⟩)]) (by simp) (by simp[go_sem]) ?_
   refine (ac6 _ _).mono ?_
   rintro e u' w'' ⟨rfl,rfl,rfl⟩
   have c1:=HB.out.cell (i:=0) rfl
   simp[Leaves,settle,results,Tryz.results20,go_sem,loadVar,c1]
   exact aW HI.out.1 (aQ (ah _ (some N)) 0 (.int .i64 0)) HI.out.2.2.2.1
theorem Ug (n cap Bg m mc Bm:Nat) (a am:Option Addr) (l:List GE) (rs:List E) (w:World) (hO:ko w) (hT:dH w) (Qd:Tables w) (hl:l.length=n) (hn:n<=1000000) (hL:iJ w Bg a l) (hm:rs.length=m) (hm2:m<=1000000) (hR:yJ w Bm am rs):
  Calls Tryz.prog 20 #[.agg #[.slice a n cap],.slice am m mc] w fun e w'=>e=.returned (.int .i64 (tL (l.map (·.2)) (rs.map (·.2))))/\w.grownBy w' none:=by
 unfold tL
 cases hg:rightG (l.map (·.2)) with
 | false=>exact Lv n cap Bg m mc a am l w hl hn hL hg
 | true=>exact Lx n cap Bg m mc Bm a am l rs w hO hT Qd hl hn hL hm hm2 hR hg
theorem Np (n cap Bg m mc Bm:Nat) (a am:Option Addr) (l:List GE) (rs:List E) (w:World) (hO:ko w) (hT:dH w) (Qd:Tables w) (hl:l.length=n) (hn:n<=1000000) (hL:iJ w Bg a l) (hm:rs.length=m) (hm2:m<=1000000) (hR:yJ w Bm am rs):
  Calls Tryz.prog 7 #[.slice a n cap,.slice am m mc] w fun e w'=>e=.returned (.int .i64 (tL (l.map (·.2)) (rs.map (·.2))))/\w.grownBy w' none:=by
 have HK:=Lib.hid (Ug n cap Bg m mc Bm a am l rs w hO hT Qd hl hn hL hm hm2 hR)
 generalize tL (l.map (·.2)) (rs.map (·.2))=x at *
 clear hO hT Qd hl hL hm hR
 go_enter Tryz.func7,Tryz.ntmps7
 go_wp2_with fail
 refine HK.out.mono ?_
 rintro e w1 ⟨rfl,hg⟩
 have HG:=Lib.hid hg;clear hg
 go_wp2
 go_ret
 exact⟨rfl,HG.out⟩
theorem LA (n cap B:Nat) (a:Option Addr) (l:List GE) (w:World) (hl:l.length=n) (hn:n<=1000000) (hL:iJ w B a l):
  Calls Tryz.prog 8 #[.slice a n cap] w fun e w'=>e=.returned (.bool (rightG (l.map (·.2))))/\w.grownBy w' none:=by
 have HK:=Lib.hid (vQ n cap B a l w hl hn hL)
 generalize rightG (l.map (·.2))=x at *
 clear hl hL
 go_enter Tryz.func8,Tryz.ntmps8
 go_wp2_with fail
 refine HK.out.mono ?_
 rintro e w1 ⟨rfl,hg⟩
 have HG:=Lib.hid hg;clear hg
 go_wp2
 go_ret
 exact⟨rfl,HG.out⟩
end Gr
end
section
open Go.RowKit Ow
set_option maxHeartbeats 2000000 in
theorem DW (B n cap:Nat) (a:Option Addr) (l:List Nat) (w:World) (hl:l.length=n) (hn:n<=1000000) (hP:BytesAt w B a cap l):
  Calls Tryz.prog 33 #[.slice a n cap] w fun e w'=>∃v,e=.returned v/\w.grownBy w' none/\w'.ownsRow w.heap.size 5 1 v n (l.map dG):=by
 obtain⟨v2,w2,hr2,ho2,hg2⟩:=ni w w.heap.size 0 B cap n (.slice none 0 0) [] a l (World.ownsRow_nil w _ 5 1) hl hP (by omega) (Nat.le_refl _)
 rw[Nat.zero_add,List.nil_append]at ho2
 have HS:=Lib.hid (And.intro ho2 hg2);clear ho2 hg2
 have HR:=Lib.hid hr2;clear hr2
 go_enter Tryz.func33,Tryz.ntmps33
 go_upto_region 2 with (fail)
 refine wp_region_lit ?_
 refine Fg.aL (v:=.slice none 0 0) (w':=w) rfl (Fg.run_move rfl rfl) ?_
 refine Fg.aL (v:=.slice a n cap) (w':=w) rfl (Fg.run_move rfl rfl) ?_
 refine wpList_append_run rfl (.tmp 4) (.tmp 5) 24 rfl rfl _ _ rfl rfl _ _ HR.out ?_
 refine Fg.aL (v:=v2) (w':=w2) rfl (Fg.run_assign rfl rfl) ?_
 refine wpList_nil ?_
 simp only[Act.put,List.setIfInBounds_toArray,List.set_cons_succ,List.set_cons_zero]
 go_wp2
 go_ret
 exact⟨v2,rfl,HS.out.2,HS.out.1⟩
end
section
open Go.RowKit Ow Wi Ve
namespace Rc
set_option maxHeartbeats 2000000 in
theorem PN (B n cap:Nat) (a:Option Addr) (l:List D) (w:World) (hl:l.length=n) (hn:n<=1000000) (hP:eT w B a l):
  Calls Tryz.prog 32 #[.slice a n cap] w fun e w'=>∃v,e=.returned v/\w.grownBy w' none/\mI w' w.heap.size v n l:=by
 obtain⟨v2,w2,hr2,ho2,hg2⟩:∃v' w',(Builtin.append_ #[32,32] 32 #[.slice none 0 0,.slice a n cap]).run Tryz.prog w=.ok v' w'/\mI w' w.heap.size v' n l/\w.grownBy w' none:=by
  have hown:mI w w.heap.size (.slice none 0 0) 0 []:=World.ownsRow_nil w _ 59 2
  cases a with
  | none=>
   obtain rfl:l=[]:=by
    rcases hP.cells with h |⟨_,_,h,_⟩
    .exact List.eq_nil_of_length_eq_zero h
    .cases h
   obtain rfl:n=0:=hl.symm
   exact⟨_,w,E9 w w.heap.size 0 cap _ _ hown,hown,ah _ _⟩
  | some ad=>
   obtain⟨v',w',h1,h2,h3⟩:=zl w w.heap.size B (.slice none 0 0) 0 [] (some ad) n cap l hown hl hP (fun e=>by cases e) (by omega) (Nat.le_refl _)
   rw[Nat.zero_add,List.nil_append]at h2
   exact⟨v',w',h1,h2,h3⟩
 have HS:=Lib.hid (And.intro ho2 hg2);clear ho2 hg2
 have HR:=Lib.hid hr2;clear hr2
 go_enter Tryz.func32,Tryz.ntmps32
 go_upto_region 2 with (fail)
 refine wp_region_lit ?_
 refine Fg.aL (v:=.slice none 0 0) (w':=w) rfl (Fg.run_move rfl rfl) ?_
 refine Fg.aL (v:=.slice a n cap) (w':=w) rfl (Fg.run_move rfl rfl) ?_
 refine Lib.wpList_append_run _ rfl _ _ _ _ rfl _ _ rfl rfl _ _ HR.out ?_
 refine Fg.aL (v:=v2) (w':=w2) rfl (Fg.run_assign rfl rfl) ?_
 refine wpList_nil ?_
 simp only[Act.put,List.setIfInBounds_toArray,List.set_cons_succ,List.set_cons_zero]
 go_wp2
 go_ret
 exact⟨v2,rfl,HS.out.2,HS.out.1⟩
set_option maxHeartbeats 4000000 in
theorem Jj (r:R) (B:Nat) (w:World) (q:L) (h:lD w B q r) (hs:q.n1<=1000000/\q.n2<=1000000/\q.n3<=1000000):Calls Tryz.prog 17 #[q.v r] w (TL w r):=by
 have HD:=Lib.hid (fun w' (hg:w.grownBy w' none)=>PN B q.n1 q.c1 q.a1 r.cx w' h.l1 hs.1 (h.dots.stay hg))
 have HV:=Lib.hid (fun w' (hg:w.grownBy w' none)=>DW B q.n2 q.c2 q.a2 r.val w' h.l2 hs.2.1 (h.val.stay hg))
 have HS:=Lib.hid (fun w' (hg:w.grownBy w' none)=>DW B q.n3 q.c3 q.a3 r.sig w' h.l3 hs.2.2 (h.sig.stay hg))
 have HK:=Lib.hid (And.intro h.str (And.intro h.val.byte (And.intro h.sig.byte h.top)))
 obtain⟨Q,hQ⟩:∃Q,Q=TL w r:=⟨_,rfl⟩
 rw[<- hQ]
 have HQ:=Lib.hid hQ;clear hQ h hs
 obtain⟨s,a1,n1,c1,a2,n2,c2,a3,n3,c3⟩:=q
 obtain⟨key,cl,sq,cx,g,val,sig⟩:=r
 show Calls _ _ #[.agg #[.string s,iV cl,iV sq,.slice a1 n1 c1,.bool g,.slice a2 n2 c2,.slice a3 n3 c3]] w _
 simp only at HD HV HS HK
 obtain⟨N,hN⟩:∃N,N=w.heap.size:=⟨_,rfl⟩
 obtain⟨M,hM⟩:∃M,M=w.heap.size+1:=⟨_,rfl⟩
 obtain⟨W0,hW0⟩:∃W0,W0=(w.alloc (.cells #[.string s,iV cl,iV sq,.slice a1 n1 c1,.bool g,.slice a2 n2 c2,.slice a3 n3 c3] 34)).alloc (.cells z7.toArray 34):=⟨_,rfl⟩
 have HG:Hid (aF W0 N 34 [.string s,iV cl,iV sq,.slice a1 n1 c1,.bool g,.slice a2 n2 c2,.slice a3 n3 c3]/\aF W0 M 34 z7/\w.grownBy W0 none):=by
  refine⟨?_,?_,?_⟩
  .rw[hW0,hN];exact (aF.new _ _ _).alloc _
  .rw[hW0,hM,<- World.size_alloc];exact aF.new _ _ _
  .rw[hW0];exact au (au (ah _ _) _) _
 have ZT:Hid (w.heap.size<=N/\w.heap.size<=M/\N≠M):=⟨by omega,by omega,by omega⟩
 have x3:=HG.out.1.cell (i:=3) rfl
 have f3:=HG.out.1.free 3
 go_enter Tryz.func17,Tryz.ntmps17
 go_wp2_with fail
 rw[show (w.alloc (.cells #[.string s,iV cl,iV sq,.slice a1 n1 c1,.bool g,.slice a2 n2 c2,.slice a3 n3 c3] 34)).alloc (.cells #[.string ⟨#[]⟩,iV 0,iV 0,.slice none 0 0,.bool false,.slice none 0 0,.slice none 0 0] 34)=W0 from hW0.symm,<- hM,<- hN]
 clear hW0 hN hM
 refine (HD.out W0 HG.out.2.2).mono ?_
 rintro e w1 ⟨v1,rfl,hg,ho⟩
 obtain⟨b1,d1,rfl⟩:=Cc ho
 have iw:Hid ((aF w1 N 34 [.string s,iV cl,iV sq,.slice a1 n1 c1,.bool g,.slice a2 n2 c2,.slice a3 n3 c3]/\aF w1 M 34 z7/\w.grownBy w1 none)/\mI w1 w.heap.size (.slice b1 n1 d1) n1 cx):=⟨⟨HG.out.1.grown hg (by simp),HG.out.2.1.grown hg (by simp),aj HG.out.2.2 hg⟩,jR ho HG.out.2.2.size⟩
 clear hg ho HG x3 f3
 have x3:=iw.out.1.1.cell (i:=3) rfl
 have f3:=iw.out.1.1.free 3
 have x5:=iw.out.1.1.cell (i:=5) rfl
 go_wp2_with fail
 have HG2:Hid ((aF (w1.setCell ⟨N,3,none⟩ (.slice b1 n1 d1)) N 34 [.string s,iV cl,iV sq,.slice b1 n1 d1,.bool g,.slice a2 n2 c2,.slice a3 n3 c3]/\aF (w1.setCell ⟨N,3,none⟩ (.slice b1 n1 d1)) M 34 z7/\w.grownBy (w1.setCell ⟨N,3,none⟩ (.slice b1 n1 d1)) none)/\mI (w1.setCell ⟨N,3,none⟩ (.slice b1 n1 d1)) w.heap.size (.slice b1 n1 d1) n1 cx):=
  ⟨⟨iw.out.1.1.set 3 _,iw.out.1.2.1.other (a:=⟨N,3,none⟩) ZT.out.2.2 _,aJ iw.out.1.2.2 (p:=⟨N,3,none⟩) ZT.out.1 _⟩,bZ iw.out.2 iw.out.1.1 (by decide) (aQ (ah w1 (some N)) 3 _)⟩
 clear iw x3 f3 x5
 generalize w1.setCell ⟨N,3,none⟩ (.slice b1 n1 d1)=w2 at *
 refine (HV.out w2 HG2.out.1.2.2).mono ?_
 rintro e w3 ⟨v3,rfl,hg,ho⟩
 obtain⟨b2,d2,rfl⟩:=tQ ho
 have mM:Hid ((aF w3 N 34 [.string s,iV cl,iV sq,.slice b1 n1 d1,.bool g,.slice a2 n2 c2,.slice a3 n3 c3]/\aF w3 M 34 z7/\w.grownBy w3 none)/\mI w3 w.heap.size (.slice b1 n1 d1) n1 cx/\w3.ownsRow w.heap.size 5 1 (.slice b2 n2 d2) n2 (val.map dG)):=
  ⟨⟨HG2.out.1.1.grown hg (by simp),HG2.out.1.2.1.grown hg (by simp),aj HG2.out.1.2.2 hg⟩,HG2.out.2.kept hg (by cases (Value.slice b1 n1 d1).ownBlock<;>simp),jR ho HG2.out.1.2.2.size⟩
 clear hg ho HG2
 have x5:=mM.out.1.1.cell (i:=5) rfl
 have f5:=mM.out.1.1.free 5
 have x6:=mM.out.1.1.cell (i:=6) rfl
 go_wp2_with fail
 have hgs:=aQ (ah w3 (some N)) 5 (.slice b2 n2 d2)
 have jX:Hid ((aF (w3.setCell ⟨N,5,none⟩ (.slice b2 n2 d2)) N 34 [.string s,iV cl,iV sq,.slice b1 n1 d1,.bool g,.slice b2 n2 d2,.slice a3 n3 c3]/\aF (w3.setCell ⟨N,5,none⟩ (.slice b2 n2 d2)) M 34 z7/\w.grownBy (w3.setCell ⟨N,5,none⟩ (.slice b2 n2 d2)) none)/\mI (w3.setCell ⟨N,5,none⟩ (.slice b2 n2 d2)) w.heap.size (.slice b1 n1 d1) n1 cx/\(w3.setCell ⟨N,5,none⟩ (.slice b2 n2 d2)).ownsRow w.heap.size 5 1 (.slice b2 n2 d2) n2 (val.map dG)):=
  ⟨⟨mM.out.1.1.set 5 _,mM.out.1.2.1.other (a:=⟨N,5,none⟩) ZT.out.2.2 _,aJ mM.out.1.2.2 (p:=⟨N,5,none⟩) ZT.out.1 _⟩,bZ mM.out.2.1 mM.out.1.1 (by decide) hgs,bZ mM.out.2.2 mM.out.1.1 (by decide) hgs⟩
 clear mM x5 f5 x6 hgs
 generalize w3.setCell ⟨N,5,none⟩ (.slice b2 n2 d2)=w4 at *
 refine (HS.out w4 jX.out.1.2.2).mono ?_
 rintro e w5 ⟨v5,rfl,hg,ho⟩
 obtain⟨b3,d3,rfl⟩:=tQ ho
 have zA:Hid ((aF w5 N 34 [.string s,iV cl,iV sq,.slice b1 n1 d1,.bool g,.slice b2 n2 d2,.slice a3 n3 c3]/\aF w5 M 34 z7/\w.grownBy w5 none)/\mI w5 w.heap.size (.slice b1 n1 d1) n1 cx/\w5.ownsRow w.heap.size 5 1 (.slice b2 n2 d2) n2 (val.map dG)/\w5.ownsRow w.heap.size 5 1 (.slice b3 n3 d3) n3 (sig.map dG)):=
  ⟨⟨jX.out.1.1.grown hg (by simp),jX.out.1.2.1.grown hg (by simp),aj jX.out.1.2.2 hg⟩,jX.out.2.1.kept hg (by cases (Value.slice b1 n1 d1).ownBlock<;>simp),sj jX.out.2.2 hg,jR ho jX.out.1.2.2.size⟩
 clear hg ho jX
 have x0:=zA.out.1.1.cell (i:=0) rfl
 have y0:=zA.out.1.2.1.cell (i:=0) rfl
 have g0:=zA.out.1.2.1.free 0
 have x1:=zA.out.1.1.cell (i:=1) rfl
 have y1:=zA.out.1.2.1.cell (i:=1) rfl
 have g1:=zA.out.1.2.1.free 1
 have x2:=zA.out.1.1.cell (i:=2) rfl
 have y2:=zA.out.1.2.1.cell (i:=2) rfl
 have g2:=zA.out.1.2.1.free 2
 have x3:=zA.out.1.1.cell (i:=3) rfl
 have y3:=zA.out.1.2.1.cell (i:=3) rfl
 have g3:=zA.out.1.2.1.free 3
 have x4:=zA.out.1.1.cell (i:=4) rfl
 have y4:=zA.out.1.2.1.cell (i:=4) rfl
 have g4:=zA.out.1.2.1.free 4
 have x5:=zA.out.1.1.cell (i:=5) rfl
 have y5:=zA.out.1.2.1.cell (i:=5) rfl
 have g5:=zA.out.1.2.1.free 5
 have x6:=zA.out.1.1.cell (i:=6) rfl
 have y6:=zA.out.1.2.1.cell (i:=6) rfl
 have g6:=zA.out.1.2.1.free 6
 have f6:=zA.out.1.1.free 6
 have hNM:=ZT.out.2.2
 have hMN:M≠N:=fun e=>hNM e.symm
 go_wp2_with fail
 obtain⟨⟨hb,hm,hg⟩,h1,h2,h3⟩:=zA.out
 have hgs:=aQ (ah w5 (some N)) 6 (.slice b3 n3 d3)
 have k1:=bZ h1 hb (by decide) hgs
 have k2:=bZ h2 hb (by decide) hgs
 have k3:=bZ h3 hb (by decide) hgs
 have km:=hm.other (a:=⟨N,6,none⟩) hNM (.slice b3 n3 d3)
 have kg:=aJ hg (p:=⟨N,6,none⟩) ZT.out.1 (.slice b3 n3 d3)
 generalize w5.setCell ⟨N,6,none⟩ (.slice b3 n3 d3)=w6 at *
 have Ni:=aQ (aQ (aQ (aQ (aQ (aQ (aQ (ah w6 (some M)) 0 (.string s)) 1 (.int .i64 cl)) 2 (.int .i64 sq)) 3 (.slice b1 n1 d1)) 4 (.bool g)) 5 (.slice b2 n2 d2)) 6 (.slice b3 n3 d3)
 have Fq:=((((((km.set 0 (.string s)).set 1 (.int .i64 cl)).set 2 (.int .i64 sq)).set 3 (.slice b1 n1 d1)).set 4 (.bool g)).set 5 (.slice b2 n2 d2)).set 6 (.slice b3 n3 d3)
 refine bodyPost_ret (v:=.agg #[.string s,.int .i64 cl,.int .i64 sq,.slice b1 n1 d1,.bool g,.slice b2 n2 d2,.slice b3 n3 d3]) (results_cell_row Tryz.results17 _ _ M 34 _ (0,0) _ rfl Fq Tryz.underlying34 rfl qy) rfl ?_
 rw[HQ.out]
 exact⟨⟨s,b1,n1,d1,b2,n2,d2,b3,n3,d3⟩,rfl,aW kg Ni ZT.out.2.1,HK.out.1,bZ k1 km (by decide) Ni,bZ k2 km (by decide) Ni,bZ k3 km (by decide) Ni,HK.out.2.1,HK.out.2.2.1,HK.out.2.2.2⟩
end Rc
end
section
open Go.RowKit Ow
theorem WO {w:World} {base e n g c:Nat} {xs:List Value} (h:w.ownsRow base e 1 (.slice (some ⟨g,0,none⟩) n c) n xs):∃tl,aF w g e (xs++tl)/\base<=g/\n<=c/\c<9223372036854775808:=by
 rcases h.2 with⟨h0,_⟩ |⟨g',c',cur,e1,hb,hg,hnc,hcm,hs,ht⟩
 .cases h0
 .cases e1
  refine⟨cur.toList.drop xs.length,?_,hb,hnc,by unfold maxLen at hcm;omega⟩
  have hl:xs.length=n:=by have:=h.1;omega
  have e:xs++cur.toList.drop xs.length=cur.toList:=by
   have h2:=List.take_append_drop n cur.toList
   rw[hl]
   rw[show cur.toList.take n=xs by simpa using ht]at h2
   exact h2
  rw[e]
  unfold aF
  rw[hg]
end
section
open Go.RowKit Ow Wi Ve Rc Ed Sb
namespace Gr
theorem Jk {w:World} {N:Nat} {T:TypeId} {x:E} (hb:aF w N T (recC x)) (hr:lD w w.heap.size x.1 x.2):yJ w w.heap.size (some ⟨N,0,none⟩) [x]:=
 ⟨Nat.le_refl _,fun y hy=>by obtain rfl:=List.mem_singleton.1 hy;exact hr,Or.inr ⟨N,0,rfl,hb.lt,fun i hi j v hv=>by
  obtain rfl:i=0:=by simpa using hi
  rw[Nat.zero_mul]
  exact WM hb j v hv⟩⟩
theorem PO {w:World} {base n c:Nat} {a:Option Addr} {xs:List Value} (h:w.ownsRow base 5 1 (.slice a n c) n xs) (hn:0<n):∃g c',Value.slice a n c=.slice (some ⟨g,0,none⟩) n c':=by
 rcases h.2 with⟨_,h0⟩ |⟨g,c',_,e,_⟩
 .omega
 .exact⟨g,c',e⟩
theorem BH (c:List Nat) (k x:Nat) (hc:∀i,c.getD i 0<256) (hx:x<256) (j:Nat):(c.set k x).getD j 0<256:=by
 rw[List.getD_eq_getElem?_getD,List.getElem?_set]
 split
 .split
  .exact hx
  .decide
 .have:=hc j
  rwa [List.getD_eq_getElem?_getD]at this
abbrev sx:ByteArray:=⟨#[97,47,120]⟩
abbrev sb:ByteArray:=⟨#[98]⟩
abbrev sp:ByteArray:=⟨#[97,47]⟩
set_option maxHeartbeats 8000000 in
set_option maxRecDepth 100000 in
theorem zn (w:World) (hO:ko w) (hT:dH w) (hS:Tables w):Calls Tryz.prog 5 #[] w fun e w'=>e=.returned (.bool true)/\w.grownBy w' none:=by
 have HO:Hid (∀w',w.grownBy w' none->ko w'):=fun w' hg=>hO.kept hg (fun b e=>by cases e)
 have HT:Hid (∀w',w.grownBy w' none->dH w'):=fun w' hg=>hT.grown hg
 have HS:Hid (∀w',w.grownBy w' none->Tables w'):=fun w' hg=>hS.kept hg (fun b e=>by cases e)
 clear hO hT hS
 go_enter Tryz.func5,Tryz.ntmps5
 go_wp2_with fail
 have g0:=au (ah w none) (.cells #[.string sp] 9)
 have hc0:=(aF.new w [.string sp] 9).cell (i:=0) rfl
 refine (Lr [sp] 1 1 w.heap.size 0 _ (HT.out _ g0) (HS.out _ g0) rfl (by decide) (by simp) (fun i hi=>by obtain rfl:i=0:=(by omega);exact hc0)).mono ?_
 rintro e w1 ⟨v,l,rfl,hg,hog,hpb,hgl⟩
 obtain⟨av,cv,rfl,hgr⟩:=TY hog hpb
 have hll:l.length=1:=by have:=congrArg List.length hgl;simpa[pI] using this
 have H1:=Lib.hid (And.intro (aj g0 hg) (And.intro hgr (And.intro hll hgl)));clear g0 hg hog hpb hgr hgl
 rw[hll]
 clear hll
 have H1s:=Lib.hid H1.out.1.size
 go_wp2_with fail
 refine (vP sx 1 w1 (HO.out _ H1.out.1) (HT.out _ H1.out.1) (HS.out _ H1.out.1) (by decide) (by decide +kernel)).mono ?_
 rintro e w2 ⟨⟨s,a1,n1,c1,a2,n2,c2,a3,n3,c3⟩,he,hg,ho⟩
 have he':e=.returned (vV s 1 1 a1 n1 c1 false a2 n2 c2 a3 n3 c3):=he
 subst he'
 clear he
 obtain⟨W2,hW2⟩:∃W2,W2=w2.alloc (.cells #[.string s,.int .i64 1,.int .i64 1,.slice a1 n1 c1,.bool false,.slice a2 n2 c2,.slice a3 n3 c3] 34):=⟨_,rfl⟩
 have ga:=au (ah w2 none) (.cells #[.string s,.int .i64 1,.int .i64 1,.slice a1 n1 c1,.bool false,.slice a2 n2 c2,.slice a3 n3 c3] 34)
 rw[<- hW2]at ga
 have bR:aF W2 w2.heap.size 34 [.string s,.int .i64 1,.int .i64 1,.slice a1 n1 c1,.bool false,.slice a2 n2 c2,.slice a3 n3 c3]:=by rw[hW2];exact aF.new _ _ _
 have hr:lD W2 W2.heap.size ⟨s,a1,n1,c1,a2,n2,c2,a3,n3,c3⟩ (iH kx 1):=(ho.at.stay ga).full
 have H2:=Lib.hid (And.intro (aj (aj H1.out.1 hg) ga) (And.intro (H1.out.2.1.stay (aj hg ga)) (And.intro H1.out.2.2.1 (And.intro H1.out.2.2.2 (And.intro hr (And.intro bR (And.intro bR.lt (aj hg ga).size)))))));clear hg ho H1 ga
 go_upto_region 3 with fail
 rw[<- hW2]
 generalize w2.heap.size=Nr at *
 clear hW2
 have r0:=bR.cell (i:=0) rfl
 have r1:=bR.cell (i:=1) rfl
 have r2:=bR.cell (i:=2) rfl
 have r3:=bR.cell (i:=3) rfl
 have r4:=bR.cell (i:=4) rfl
 have r5:=bR.cell (i:=5) rfl
 have r6:=bR.cell (i:=6) rfl
 clear bR hr
 go_wp2_with fail
 clear r0 r1 r2 r3 r4 r5 r6
 refine (Jj (iH kx 1) W2.heap.size W2 ⟨s,a1,n1,c1,a2,n2,c2,a3,n3,c3⟩ H2.out.2.2.2.2.1 ⟨by rw[<- H2.out.2.2.2.2.1.l1];decide,by rw[<- H2.out.2.2.2.2.1.l2];decide,by rw[<- H2.out.2.2.2.2.1.l3];rw[show (iH kx 1).sig.length=64 from pG _ _];decide⟩).mono ?_
 rintro e w3 ⟨⟨s',a1',n1',c1',nM,pV,c2',a3',pW,c3'⟩,he,hg,ho⟩
 have he':e=.returned (vV s' 1 1 a1' n1' c1' false nM pV c2' a3' pW c3'):=he
 subst he'
 clear he
 have hv3:=hg.size
 have l1':(0:Nat)=n1':=ho.at.l1
 have l2':(0:Nat)=pV:=ho.at.l2
 have l3':(64:Nat)=pW:=(pG (Jf 1) (gB (Lm kx 1))).symm.trans ho.at.l3
 subst l1' l2' l3'
 obtain⟨gs,cs,hse⟩:=PO ho.sig (show 0<64 by decide)
 obtain⟨e3a,e3c⟩:a3'=some ⟨gs,0,none⟩/\c3'=cs:=by simpa using hse
 subst e3a e3c
 obtain⟨tl,hsb,hgs,h64,hc63⟩:=WO ho.sig
 obtain⟨W3,hW3⟩:∃W3,W3=w3.alloc (.cells #[.string s',.int .i64 1,.int .i64 1,.slice a1' 0 c1',.bool false,.slice nM 0 c2',.slice (some ⟨gs,0,none⟩) 64 c3'] 34):=⟨_,rfl⟩
 have ga:=au (ah w3 none) (.cells #[.string s',.int .i64 1,.int .i64 1,.slice a1' 0 c1',.bool false,.slice nM 0 c2',.slice (some ⟨gs,0,none⟩) 64 c3'] 34)
 rw[<- hW3]at ga
 have bB:aF W3 w3.heap.size 34 [.string s',.int .i64 1,.int .i64 1,.slice a1' 0 c1',.bool false,.slice nM 0 c2',.slice (some ⟨gs,0,none⟩) 64 c3']:=by rw[hW3];exact aF.new _ _ _
 have LB:=hsb.grown ga (by simp)
 have Uh:=aj hg ga
 have H3:=Lib.hid (And.intro (aj H2.out.1 Uh) (And.intro (H2.out.2.1.stay Uh) (And.intro H2.out.2.2.1 (And.intro H2.out.2.2.2.1 (And.intro (H2.out.2.2.2.2.1.stay Uh) (And.intro (H2.out.2.2.2.2.2.1.grown Uh (by simp)) (And.intro bB (And.intro LB (And.intro ho.str (And.intro hgs (And.intro h64 (And.intro hc63 (And.intro H2.out.2.2.2.2.2.2 (And.intro hsb.lt ho.at.val.top))))))))))))))
 have hb0:∃b:Nat,b<256/\(iH kx 1).sig.getD 0 0=b:=⟨_,EW _ _ 0,rfl⟩
 obtain⟨b0,ac7,hb0⟩:=hb0
 have HB0:=Lib.hid hb0
 have kS:W3.cell? ⟨gs,0,none⟩=some (.int .u8 (b0:Int)):=by
  have h:=LB.cell (i:=0) (v:=dG b0) (by rw[List.getElem?_append_left (by rw[List.length_map,show (iH kx 1).sig.length=64 from pG _ _];decide),wh (by rw[show (iH kx 1).sig.length=64 from pG _ _];decide),hb0])
  exact h
 have fS:=LB.free 0
 have kB:=bB.cell (i:=6) rfl
 clear hg ho hsb hgs h64 hse ga bB LB Uh H2 hv3 hb0
 go_upto_region 4 with fail
 rw[<- hW3]
 generalize w3.heap.size=Nb at *
 clear hW3
 go_upto_region 6 with fail
 have hg0:¬((0:Int)<0):=by decide
 go_region
 obtain⟨hg3,hgr,hll,hgl,hr,bR,bB,LB,hs',hgs,h64,hc63,⟨hNr,hw1⟩,hgb,hc2⟩:=H3.out
 have ex:bits BinOp.xor IntKind.u8 (b0:Int) 1=((b0^^^1:Nat):Int):=u8_xor_nat b0 1 ac7 (by decide)
 rw[ex]
 have hgW:=aX (aQ (ah W3 (some gs)) 0 (.int .u8 ((b0^^^1:Nat):Int)))
 have hrN:=(bR.other (a:=⟨gs,0,none⟩) (show gs≠Nr by omega) (.int .u8 ((b0^^^1:Nat):Int))).drew
 have hbN:=(bB.other (a:=⟨gs,0,none⟩) (show gs≠Nb by omega) (.int .u8 ((b0^^^1:Nat):Int))).drew
 have hsN:aF (W3.setCell ⟨gs,0,none⟩ (.int .u8 ((b0^^^1:Nat):Int))).drew gs 5 (oM.sig.map dG++tl):=by
  have h:=(LB.set 0 (dG (b0^^^1))).drew
  rw[List.set_append_left _ _ (by rw[List.length_map,show (iH kx 1).sig.length=64 from pG _ _];decide),<- List.map_set]at h
  rw[show oM.sig=(iH kx 1).sig.set 0 ((iH kx 1).sig.getD 0 0^^^1) from rfl,HB0.out]
  exact h
 generalize (W3.setCell ⟨gs,0,none⟩ (.int .u8 ((b0^^^1:Nat):Int))).drew=W4 at *
 have hw4:=hgW.size
 have kg:=aW hg3 hgW (show w.heap.size<=gs from Nat.le_trans (Nat.le_trans (Nat.le_trans H1s.out hw1) (Nat.le_refl _)) hgs)
 have hG4:=hgr.kept hgW (fun x e=>by cases e;exact Nat.le_trans hw1 hgs)
 have JR:=lD.kept hr hgW (fun x e=>by cases e;exact hgs)
 have hbl:oM.sig.length=64:=by rw[show oM.sig=(iH kx 1).sig.set 0 ((iH kx 1).sig.getD 0 0^^^1) from rfl,List.length_set];exact pG _ _
 have hbb:∀i,oM.sig.getD i 0<256:=BH _ 0 _ (EW _ _) (Nat.xor_lt_two_pow (n:=8) (EW _ _ 0) (by decide))
 have hBS:lD W4 W4.heap.size ⟨s',a1',0,c1',nM,0,c2',some ⟨gs,0,none⟩,64,c3'⟩ oM:=
  ⟨hs',rfl,rfl,hbl,⟨Nat.le_refl _,Or.inl rfl⟩,⟨Nat.le_refl _,Nat.zero_le _,hc2,fun i=>by simp[oM,iH,jh],Or.inl rfl⟩,lH hsN hbl h64 hc63 hbb hsN.lt (Nat.le_refl _),(by decide:(0:Nat)<9223372036854775808)⟩
 have HM:Hid (∀(w':World) (N:Nat) (x:E),W4.grownBy w' none->aF w' N 34 (recC x)->lD w' w'.heap.size x.1 x.2->Calls Tryz.prog 7 #[.slice av 1 cv,.slice (some ⟨N,0,none⟩) 1 1] w' fun e w''=>e=.returned (.int .i64 (tL g1 [x.2]))/\w'.grownBy w'' none):=fun w' N x hg hb hx=>by
  have hgg:=aj kg hg
  have h:=Np 1 cv _ 1 1 _ av (some ⟨N,0,none⟩) l [x] w' (HO.out _ hgg) (HT.out _ hgg) (HS.out _ hgg) hll (by decide) (hG4.stay hg) rfl (by decide) (Jk hb hx)
  rw[hgl]at h
  exact h
 have H4:=Lib.hid (And.intro kg (And.intro JR.full (And.intro hrN (And.intro hbN hBS))))
 clear hg3 hgr hll hgl hr bR bB LB hs' hgs h64 hc63 hNr hw1 hgb hc2 ex hgW hrN hbN hsN hw4 kg hG4 JR hbl hbb hBS H3 HB0 kS fS kB hg0 ac7
 go_upto_region 7 with fail
 have bR:=H4.out.2.2.1
 have r0:=bR.cell (i:=0) rfl
 have r1:=bR.cell (i:=1) rfl
 have r2:=bR.cell (i:=2) rfl
 have r3:=bR.cell (i:=3) rfl
 have r4:=bR.cell (i:=4) rfl
 have r5:=bR.cell (i:=5) rfl
 have r6:=bR.cell (i:=6) rfl
 clear bR
 go_wp2_with fail
 clear r0 r1 r2 r3 r4 r5 r6
 have ga:=au (ah W4 none) (.cells #[.string s,.int .i64 1,.int .i64 1,.slice a1 n1 c1,.bool false,.slice a2 n2 c2,.slice a3 n3 c3] 34)
 refine (HM.out _ W4.heap.size (⟨s,a1,n1,c1,a2,n2,c2,a3,n3,c3⟩,iH kx 1) ga (aF.new W4 [.string s,.int .i64 1,.int .i64 1,.slice a1 n1 c1,.bool false,.slice a2 n2 c2,.slice a3 n3 c3] 34) (H4.out.2.1.stay ga).full).mono ?_
 rintro e w5 ⟨he,hg⟩
 have he':e=.returned (.int .i64 0):=he.trans (congrArg (fun z:Int=>Ending.returned (.int .i64 z)) m1)
 subst he'
 have G5:=Lib.hid (aj ga hg)
 clear he hg ga
 go_wp2_with fail
 refine (vP sb 1 _ (HO.out _ (aj H4.out.1 G5.out)) (HT.out _ (aj H4.out.1 G5.out)) (HS.out _ (aj H4.out.1 G5.out)) (by decide) (by decide +kernel)).mono ?_
 rintro e w6 ⟨⟨ps,p1,pn1,pc1,p2,pn2,pc2,p3,pn3,pc3⟩,he,hg,ho⟩
 have he':e=.returned (vV ps 1 1 p1 pn1 pc1 false p2 pn2 pc2 p3 pn3 pc3):=he
 subst he'
 clear he
 have ga:=au (ah w6 none) (.cells #[.string ps,.int .i64 1,.int .i64 1,.slice p1 pn1 pc1,.bool false,.slice p2 pn2 pc2,.slice p3 pn3 pc3] 34)
 have Hp:=Lib.hid (And.intro (aj (aj G5.out hg) ga) (And.intro (ho.at.stay ga).full (aF.new w6 [.string ps,.int .i64 1,.int .i64 1,.slice p1 pn1 pc1,.bool false,.slice p2 pn2 pc2,.slice p3 pn3 pc3] 34)))
 clear hg ho ga
 go_wp2_with fail
 refine (HM.out _ _ (⟨ps,p1,pn1,pc1,p2,pn2,pc2,p3,pn3,pc3⟩,iH (bQ sb) 1) Hp.out.1 Hp.out.2.2 Hp.out.2.1).mono ?_
 rintro e w6b ⟨he,hg⟩
 have he':e=.returned (.int .i64 21):=he.trans (congrArg (fun z:Int=>Ending.returned (.int .i64 z)) m2)
 subst he'
 have Gp:=Lib.hid (aj Hp.out.1 hg)
 clear he hg
 go_wp2_with fail
 refine (vP sx 2 _ (HO.out _ (aj H4.out.1 Gp.out)) (HT.out _ (aj H4.out.1 Gp.out)) (HS.out _ (aj H4.out.1 Gp.out)) (by decide) (by decide +kernel)).mono ?_
 rintro e w7 ⟨⟨ds,d1,dn1,dc1,d2,dn2,dc2,d3,dn3,dc3⟩,he,hg,ho⟩
 have he':e=.returned (vV ds 2 1 d1 dn1 dc1 false d2 dn2 dc2 d3 dn3 dc3):=he
 subst he'
 clear he
 have ga:=au (ah w7 none) (.cells #[.string ds,.int .i64 2,.int .i64 1,.slice d1 dn1 dc1,.bool false,.slice d2 dn2 dc2,.slice d3 dn3 dc3] 34)
 have Hd:=Lib.hid (And.intro (aj (aj Gp.out hg) ga) (And.intro (ho.at.stay ga).full (aF.new w7 [.string ds,.int .i64 2,.int .i64 1,.slice d1 dn1 dc1,.bool false,.slice d2 dn2 dc2,.slice d3 dn3 dc3] 34)))
 clear hg ho ga
 go_wp2_with fail
 refine (HM.out _ _ (⟨ds,d1,dn1,dc1,d2,dn2,dc2,d3,dn3,dc3⟩,iH (bQ sx) 2) Hd.out.1 Hd.out.2.2 Hd.out.2.1).mono ?_
 rintro e w7b ⟨he,hg⟩
 have he':e=.returned (.int .i64 21):=he.trans (congrArg (fun z:Int=>Ending.returned (.int .i64 z)) m3)
 subst he'
 have Gd:=Lib.hid (aj Hd.out.1 hg)
 clear he hg
 have bB:=H4.out.2.2.2.1.grown Gd.out (by simp)
 have r0:=bB.cell (i:=0) rfl
 have r1:=bB.cell (i:=1) rfl
 have r2:=bB.cell (i:=2) rfl
 have r3:=bB.cell (i:=3) rfl
 have r4:=bB.cell (i:=4) rfl
 have r5:=bB.cell (i:=5) rfl
 have r6:=bB.cell (i:=6) rfl
 clear bB
 go_wp2_with fail
 clear r0 r1 r2 r3 r4 r5 r6
 have ga:=au (ah w7b none) (.cells #[.string s',.int .i64 1,.int .i64 1,.slice a1' 0 c1',.bool false,.slice nM 0 c2',.slice (some ⟨gs,0,none⟩) 64 c3'] 34)
 refine (HM.out _ w7b.heap.size (⟨s',a1',0,c1',nM,0,c2',some ⟨gs,0,none⟩,64,c3'⟩,oM) (aj Gd.out ga) (aF.new w7b [.string s',.int .i64 1,.int .i64 1,.slice a1' 0 c1',.bool false,.slice nM 0 c2',.slice (some ⟨gs,0,none⟩) 64 c3'] 34) (H4.out.2.2.2.2.stay (aj Gd.out ga)).full).mono ?_
 rintro e w8 ⟨he,hg⟩
 have he':e=.returned (.int .i64 20):=he.trans (congrArg (fun z:Int=>Ending.returned (.int .i64 z)) m4)
 subst he'
 have G8:=Lib.hid (aj H4.out.1 (aj Gd.out (aj ga hg)))
 clear he hg ga
 go_wp2
 go_ret
 exact⟨rfl,G8.out⟩
end Gr
end
section
open Go.RowKit Ow Wi Ve Rc
namespace Sb
def WQ (x:E):Nat:=1+x.1.n1+(x.1.s.size+x.1.n2+x.1.n3)/8
def Fits (x:E):Prop:=x.1.n1<1000000000000000/\x.1.s.size+x.1.n2+x.1.n3<1000000000000000
set_option maxHeartbeats 1000000 in
theorem xO (x:E) (w:World) (h:Fits x):Calls Tryz.prog 10 #[ac4 x] w fun e w'=>e=.returned (.int .i64 (WQ x))/\w.grownBy w' none:=by
 obtain⟨Q,hQ⟩:∃Q:Ending->World->Prop,Q=fun e w'=>e=.returned (.int .i64 (WQ x))/\w.grownBy w' none:=⟨_,rfl⟩
 rw[<- hQ]
 have HQ:=Lib.hid hQ;clear hQ
 obtain⟨⟨s,a1,n1,c1,a2,n2,c2,a3,n3,c3⟩,⟨key,cl,sq,cx,g,val,sig⟩⟩:=x
 have h1:n1<1000000000000000:=h.1
 have h2:s.size+n2+n3<1000000000000000:=h.2
 have hd:(((s.size+n2+n3:Nat):Int)).tdiv 8=(((s.size+n2+n3)/8:Nat):Int):=by rw[Int.tdiv_eq_ediv_of_nonneg (by omega)];rfl
 obtain⟨W1,hW1⟩:∃W1,W1=w.alloc (.cells #[.string s,iV cl,iV sq,.slice a1 n1 c1,.bool g,.slice a2 n2 c2,.slice a3 n3 c3] 34):=⟨_,rfl⟩
 obtain⟨N,hN⟩:∃N,N=w.heap.size:=⟨_,rfl⟩
 have hb:aF W1 N 34 [.string s,iV cl,iV sq,.slice a1 n1 c1,.bool g,.slice a2 n2 c2,.slice a3 n3 c3]:=by rw[hW1];exact kJ _ _ _ hN.symm
 have x0:=hb.cell (i:=0) rfl
 have x3:=hb.cell (i:=3) rfl
 have x5:=hb.cell (i:=5) rfl
 have x6:=hb.cell (i:=6) rfl
 have HE:Hid (∀z:Int,z=1+(n1:Int)+((s.size+n2+n3)/8:Nat)->Q (.returned (.int .i64 z)) W1):=fun z hz=>by
  rw[HQ.out]
  refine⟨?_,by rw[hW1];exact au (ah _ _) _⟩
  show _=Ending.returned (.int .i64 ((1+n1+(s.size+n2+n3)/8:Nat):Int))
  rw[hz];congr 2
 show Calls _ _ #[vV s cl sq a1 n1 c1 g a2 n2 c2 a3 n3 c3] w Q
 clear hb h
 have w1:IntKind.i64.wrap ((s.size:Int)+n2)=((s.size+n2:Nat):Int):=by rw[IntKind.wrap_i64];omega
 have w2:IntKind.i64.wrap (((s.size+n2:Nat):Int)+n3)=((s.size+n2+n3:Nat):Int):=by rw[IntKind.wrap_i64];omega
 go_enter Tryz.func10,Tryz.ntmps10
 go_upto_region 1 with fail
 rw[<- hW1,<- hN]
 clear hW1 hN
 go_wp2
 exact HE.out _ (by omega)
end Sb
end
section
open Go.RowKit Ow Wi Ve Rc Sb
namespace Gr
end Gr
end
section
open Go.RowKit Ow
theorem getD_at (l:List Nat) (i:Nat) (h:i<l.length):l.getD i 0=l[i]:=by rw[List.getD_eq_getElem?_getD,List.getElem?_eq_getElem h];rfl
theorem PS {p q:List Nat} (h:p.length=q.length) (hi:∀i,i<p.length->p.getD i 0=q.getD i 0):p=q:=by
 apply List.ext_getElem h
 intro i h1 h2
 rw[<- getD_at p i h1,<- getD_at q i h2]
 exact hi i h1
set_option maxHeartbeats 400000 in
theorem uY (B1 B2 n m c1 c2:Nat) (a1 a2:Option Addr) (p q:List Nat) (w:World) (hn:p.length=n) (hm:q.length=m) (h1:BytesAt w B1 a1 c1 p) (h2:BytesAt w B2 a2 c2 q):
  Calls Tryz.prog 29 #[.slice a1 n c1,.slice a2 m c2] w fun e w'=>e=.returned (.bool (decide (p=q)))/\w.grownBy w' none:=by
 have hn1:=h1.fits
 have hn2:=h2.fits
 have ht1:=h1.top
 have ht2:=h2.top
 rw[hn]at hn1
 rw[hm]at hn2
 have H1:=Lib.hid h1;clear h1
 have H2:=Lib.hid h2;clear h2
 have HN:=Lib.hid hn;clear hn
 have HM:=Lib.hid hm;clear hm
 by_cases hnm:n=m
 .subst hnm
  go_enter Tryz.func29,Tryz.ntmps29
  go_wp2
  go_loopw [5] (fun i wr=>∃k j:Nat,k<=n/\i=.int .i64 k/\wr=w.drewN j/\∀i,i<k->p.getD i 0=q.getD i 0) (fun i _=>n-(intOf i).toNat)
  case atStart=>exact⟨0,0,by omega,rfl,rfl,fun i hi=>absurd hi (by omega)⟩
  case round=>
   obtain⟨k,j,hk,rfl,rfl,heq⟩:=hrel
   have HE:=Lib.hid heq;clear heq
   by_cases hlt:k<n
   .obtain⟨pb,po,rfl,_,hc⟩:=H1.out.cells.resolve_left (by rw[HN.out];omega)
    obtain⟨qb,qo,rfl,_,hd⟩:=H2.out.cells.resolve_left (by rw[HM.out];omega)
    have k1:=hc k (by rw[HN.out];exact hlt)
    have k2:=hd k (by rw[HM.out];exact hlt)
    unfold dG at k1 k2
    clear hc hd
    have i0:(k:Int)<(n:Int):=by omega
    obtain⟨x,hx⟩:∃x,x=p.getD k 0:=⟨_,rfl⟩
    obtain⟨y,hy⟩:∃y,y=q.getD k 0:=⟨_,rfl⟩
    rw[<- hx]at k1
    rw[<- hy]at k2
    have WR:=Lib.hid (And.intro hx hy);clear hx hy
    by_cases hxy:x=y
    .subst hxy
     go_wp2_with fail
     go_quiet (fail)
     go_wp2
     go_roundw
     case rel=>exact⟨k+1,_,by omega,by go_num,rfl,fun i hi=>by
      rcases Nat.lt_or_ge i k with h|h
      .exact HE.out i h
      .obtain rfl:i=k:=by omega
       rw[<- WR.out.1,<- WR.out.2]⟩
     case measure=>simp[intOf];omega
    .have hne:¬(x:Int)=(y:Int):=by omega
     have hpq:p≠q:=fun e=>hxy (by rw[WR.out.1,WR.out.2,e])
     have HPQ:Hid (decide (p=q)=false):=decide_eq_false hpq
     clear hpq hxy
     go_wp2_with fail
     go_quiet (fail)
     go_wp2
     go_ret
     exact⟨by rw[HPQ.out];rfl,⟨rfl,rfl,rfl,Nat.le_refl _,fun _ _ _=>rfl⟩⟩
   .obtain rfl:k=n:=by omega
    have hpq:p=q:=PS (by rw[HN.out,HM.out]) (fun i hi=>HE.out i (by rw[HN.out]at hi;exact hi))
    have HPQ:Hid (decide (p=q)=true):=decide_eq_true hpq
    clear hlt hpq
    go_wp2
    go_ret
    exact⟨by rw[HPQ.out];rfl,⟨rfl,rfl,rfl,Nat.le_refl _,fun _ _ _=>rfl⟩⟩
 .have hne:¬(n:Int)=(m:Int):=by omega
  have hpq:p≠q:=fun e=>hnm (by rw[<- HN.out,<- HM.out,e])
  have HPQ:Hid (decide (p=q)=false):=decide_eq_false hpq
  clear hpq hnm
  go_enter Tryz.func29,Tryz.ntmps29
  go_wp2
  go_ret
  exact⟨by rw[HPQ.out];rfl,ah _ _⟩
end
section
open Go.RowKit Ve
namespace Ve
theorem PU {p q:List D} (h:p.length=q.length) (hi:∀i,i<p.length->p.getD i z0=q.getD i z0):p=q:=by
 apply List.ext_getElem h
 intro i h1 h2
 have:=hi i h1
 rwa [List.getD_eq_getElem?_getD,List.getD_eq_getElem?_getD,List.getElem?_eq_getElem h1,List.getElem?_eq_getElem h2]at this
theorem Ui (a b c d:Int) (w:World):(Op.equalIn 10000 59 (.agg #[.int .i64 a,.int .i64 b]) (.agg #[.int .i64 c,.int .i64 d])).run Tryz.prog w=.ok (a==c&&b==d) w:=by
 have u3:=Tryz.underlying3
 have a3:=Tryz.isAgg3
 have z3:=Tryz.sizeOf3
 have hS:Tryz.prog.underlying 59=some (.struct (Tryz.prog.fieldsOf 59)):=by kernel_rfl
 have hp:Tryz.prog.stoodInHeld 59=false:=by kernel_rfl
 rw[show (10000:Nat)=9999+1 from rfl,run_equalIn_agg w 9999 59 _ _ hS hp]
 simp only[Program.fieldsOf,Tryz.underlying59]
 go_simp
 by_cases h1:a=c<;>by_cases h2:b=d<;>simp[h1,h2]
set_option maxHeartbeats 400000 in
theorem Fh (B1 B2 n m c1 c2:Nat) (a1 a2:Option Addr) (p q:List D) (w:World) (hn:p.length=n) (hm:q.length=m) (h1:eT w B1 a1 p) (h2:eT w B2 a2 q) (hc:n<9223372036854775808):
  Calls Tryz.prog 28 #[.slice a1 n c1,.slice a2 m c2] w fun e w'=>e=.returned (.bool (decide (p=q)))/\w.grownBy w' none:=by
 have H1:=Lib.hid h1;clear h1
 have H2:=Lib.hid h2;clear h2
 have HN:=Lib.hid hn;clear hn
 have HM:=Lib.hid hm;clear hm
 by_cases hnm:n=m
 .subst hnm
  go_enter Tryz.func28,Tryz.ntmps28
  go_wp2
  go_loopw [5] (fun i wr=>∃k j:Nat,k<=n/\i=.int .i64 k/\wr=w.drewN j/\∀i,i<k->p.getD i z0=q.getD i z0) (fun i _=>n-(intOf i).toNat)
  case atStart=>exact⟨0,0,by omega,rfl,rfl,fun i hi=>absurd hi (by omega)⟩
  case round=>
   obtain⟨k,j,hk,rfl,rfl,heq⟩:=hrel
   have HE:=Lib.hid heq;clear heq
   by_cases hlt:k<n
   .obtain⟨pb,po,rfl,_,hcs⟩:=H1.out.cells.resolve_left (by rw[HN.out];omega)
    obtain⟨qb,qo,rfl,_,hds⟩:=H2.out.cells.resolve_left (by rw[HM.out];omega)
    obtain⟨k1,k2⟩:=hcs k (by rw[HN.out];exact hlt)
    obtain⟨k3,k4⟩:=hds k (by rw[HM.out];exact hlt)
    clear hcs hds
    have i0:(k:Int)<(n:Int):=by omega
    obtain⟨x,y,hx⟩:∃x y,p.getD k z0=(x,y):=⟨_,_,rfl⟩
    obtain⟨x2,y2,hy⟩:∃x y,q.getD k z0=(x,y):=⟨_,_,rfl⟩
    rw[hx]at k1 k2
    rw[hy]at k3 k4
    simp only at k1 k2 k3 k4
    have WR:=Lib.hid (And.intro hx hy);clear hx hy
    by_cases hxy:x=x2/\y=y2
    .obtain⟨rfl,rfl⟩:=hxy
     go_wp2_with fail
     go_region
     go_wp2
     go_roundw
     case rel=>exact⟨k+1,j+1,by omega,by go_num,rfl,fun i hi=>by
      rcases Nat.lt_or_ge i k with h|h
      .exact HE.out i h
      .obtain rfl:i=k:=by omega
       rw[WR.out.1,WR.out.2]⟩
     case measure=>simp[intOf];omega
    .have hpq:p≠q:=fun e=>hxy (by have h1:=WR.out.1;rw[e,WR.out.2]at h1;simpa using h1.symm)
     have HPQ:Hid (decide (p=q)=false):=decide_eq_false hpq
     clear hpq
     by_cases hx:x=x2
     .subst hx
      have hy:¬y=y2:=fun e=>hxy ⟨rfl,e⟩
      clear hxy
      go_wp2_with fail
      have he:∀w,(Op.equalIn 10000 59 (.agg #[.int .i64 x,.int .i64 y]) (.agg #[.int .i64 x,.int .i64 y2])).run Tryz.prog w=.ok false w:=fun w=>by rw[Ui];simp[hy]
      go_region
      clear he
      go_wp2
      go_ret
      exact⟨by rw[HPQ.out];rfl,⟨rfl,rfl,rfl,Nat.le_refl _,fun _ _ _=>rfl⟩⟩
     .clear hxy
      go_wp2_with fail
      have he:∀w,(Op.equalIn 10000 59 (.agg #[.int .i64 x,.int .i64 y]) (.agg #[.int .i64 x2,.int .i64 y2])).run Tryz.prog w=.ok false w:=fun w=>by rw[Ui];simp[hx]
      go_region
      clear he
      go_wp2
      go_ret
      exact⟨by rw[HPQ.out];rfl,⟨rfl,rfl,rfl,Nat.le_refl _,fun _ _ _=>rfl⟩⟩
   .obtain rfl:k=n:=by omega
    have hpq:p=q:=PU (by rw[HN.out,HM.out]) (fun i hi=>HE.out i (by rw[HN.out]at hi;exact hi))
    have HPQ:Hid (decide (p=q)=true):=decide_eq_true hpq
    clear hlt hpq
    go_wp2
    go_ret
    exact⟨by rw[HPQ.out];rfl,⟨rfl,rfl,rfl,Nat.le_refl _,fun _ _ _=>rfl⟩⟩
 .have hne:¬(n:Int)=(m:Int):=by omega
  have hpq:p≠q:=fun e=>hnm (by rw[<- HN.out,<- HM.out,e])
  have HPQ:Hid (decide (p=q)=false):=decide_eq_false hpq
  clear hpq hnm
  go_enter Tryz.func28,Tryz.ntmps28
  go_wp2
  go_ret
  exact⟨by rw[HPQ.out];rfl,ah _ _⟩
end Ve
end
section
open Go.RowKit Ow Wi Ve
namespace Rc
def Jl (a b:R):Bool:=decide (a.key=b.key)&&decide (a.cl=b.cl)&&decide (a.sq=b.sq)&&decide (a.cx=b.cx)&&decide (a.gone=b.gone)&&decide (a.val=b.val)&&decide (a.sig=b.sig)
theorem PV (a b:R):Jl a b=true↔a=b:=by
 cases a;cases b
 simp only[Jl,Bool.and_eq_true,decide_eq_true_eq,R.mk.injEq]
 constructor
 .rintro⟨⟨⟨⟨⟨⟨h1,h2⟩,h3⟩,h4⟩,h5⟩,h6⟩,h7⟩;exact⟨h1,h2,h3,h4,h5,h6,h7⟩
 .rintro⟨h1,h2,h3,h4,h5,h6,h7⟩;exact⟨⟨⟨⟨⟨⟨h1,h2⟩,h3⟩,h4⟩,h5⟩,h6⟩,h7⟩
set_option maxHeartbeats 2000000 in
theorem Jm (ra rb:R) (B1 B2:Nat) (w:World) (qa qb:L) (ha:lD w B1 qa ra) (hb:lD w B2 qb rb):Calls Tryz.prog 12 #[qa.v ra,qb.v rb] w fun e w'=>e=.returned (.bool (Jl ra rb))/\w.grownBy w' none:=by
 have HD:=Lib.hid (fun w' (hg:w.grownBy w' none)=>Fh B1 B2 qa.n1 qb.n1 qa.c1 qb.c1 qa.a1 qb.a1 ra.cx rb.cx w' ha.l1 hb.l1 (ha.dots.stay hg) (hb.dots.stay hg) ha.top)
 have HV:=Lib.hid (fun w' (hg:w.grownBy w' none)=>uY B1 B2 qa.n2 qb.n2 qa.c2 qb.c2 qa.a2 qb.a2 ra.val rb.val w' ha.l2 hb.l2 (ha.val.stay hg) (hb.val.stay hg))
 have HS:=Lib.hid (fun w' (hg:w.grownBy w' none)=>uY B1 B2 qa.n3 qb.n3 qa.c3 qb.c3 qa.a3 qb.a3 ra.sig rb.sig w' ha.l3 hb.l3 (ha.sig.stay hg) (hb.sig.stay hg))
 have hz:=str_eq qa.s qb.s
 rw[ha.str,hb.str]at hz
 obtain⟨o,ho⟩:∃o,o=Jl ra rb:=⟨_,rfl⟩
 rw[<- ho]
 unfold Jl at ho
 rw[<- hz]at ho
 clear ha hb hz
 generalize decide (ra.cx=rb.cx)=z4 at *
 generalize decide (ra.val=rb.val)=z6 at *
 generalize decide (ra.sig=rb.sig)=z7 at *
 obtain⟨s,a1,n1,c1,a2,n2,c2,a3,n3,c3⟩:=qa
 obtain⟨key,cl,sq,cx,g,val,sig⟩:=ra
 obtain⟨s',a1',n1',c1',nM,pV,c2',a3',pW,c3'⟩:=qb
 obtain⟨key',cl',sq',cx',g',val',ahB⟩:=rb
 simp only at ho HD HV HS
 obtain⟨z1,h1⟩:∃z,(s.toList==s'.toList)=z:=⟨_,rfl⟩
 obtain⟨z2,h2⟩:∃z,(cl==cl')=z:=⟨_,rfl⟩
 obtain⟨z3,h3⟩:∃z,(sq==sq')=z:=⟨_,rfl⟩
 obtain⟨z5,h5⟩:∃z,(g==g')=z:=⟨_,rfl⟩
 rw[h1,show decide (cl=cl')=(cl==cl') from by rw[Bool.eq_iff_iff];simp,show decide (sq=sq')=(sq==sq') from by rw[Bool.eq_iff_iff];simp,show decide (g=g')=(g==g') from by rw[Bool.eq_iff_iff];simp,h2,h3,h5]at ho
 have HO:=Lib.hid ho;clear ho
 replace h1:=Lib.hid h1
 replace h2:=Lib.hid h2
 replace h3:=Lib.hid h3
 replace h5:=Lib.hid h5
 show Calls _ _ #[vV s cl sq a1 n1 c1 g a2 n2 c2 a3 n3 c3,vV s' cl' sq' a1' n1' c1' g' nM pV c2' a3' pW c3'] w _
 obtain⟨N,hN⟩:∃N,N=w.heap.size:=⟨_,rfl⟩
 obtain⟨M,hM⟩:∃M,M=w.heap.size+1:=⟨_,rfl⟩
 obtain⟨W0,hW0⟩:∃W0,W0=(w.alloc (.cells #[.string s,iV cl,iV sq,.slice a1 n1 c1,.bool g,.slice a2 n2 c2,.slice a3 n3 c3] 34)).alloc (.cells #[.string s',iV cl',iV sq',.slice a1' n1' c1',.bool g',.slice nM pV c2',.slice a3' pW c3'] 34):=⟨_,rfl⟩
 have HG:Hid (w.grownBy W0 none/\aF W0 N 34 [.string s,iV cl,iV sq,.slice a1 n1 c1,.bool g,.slice a2 n2 c2,.slice a3 n3 c3]/\aF W0 M 34 [.string s',iV cl',iV sq',.slice a1' n1' c1',.bool g',.slice nM pV c2',.slice a3' pW c3']):=by
  refine⟨?_,?_,?_⟩
  .rw[hW0];exact au (au (ah _ _) _) _
  .rw[hW0,hN];exact (aF.new _ _ _).alloc _
  .rw[hW0,hM,<- World.size_alloc];exact aF.new _ _ _
 have x0:=HG.out.2.1.cell (i:=0) rfl
 have y0:=HG.out.2.2.cell (i:=0) rfl
 have x1:=HG.out.2.1.cell (i:=1) rfl
 have y1:=HG.out.2.2.cell (i:=1) rfl
 have x2:=HG.out.2.1.cell (i:=2) rfl
 have y2:=HG.out.2.2.cell (i:=2) rfl
 have x3:=HG.out.2.1.cell (i:=3) rfl
 have y3:=HG.out.2.2.cell (i:=3) rfl
 have x4:=HG.out.2.1.cell (i:=4) rfl
 have y4:=HG.out.2.2.cell (i:=4) rfl
 have x5:=HG.out.2.1.cell (i:=5) rfl
 have y5:=HG.out.2.2.cell (i:=5) rfl
 have x6:=HG.out.2.1.cell (i:=6) rfl
 have y6:=HG.out.2.2.cell (i:=6) rfl
 go_enter Tryz.func12,Tryz.ntmps12
 go_upto_region 1 with fail
 rw[<- hW0,<- hM,<- hN]
 clear hW0 hN hM
 cases z1 with
 | false=>
  have q:=h1.out
  go_wp2
  go_ret
  exact⟨by rw[HO.out];simp,HG.out.1⟩
 | true=>
  have q1:=h1.out
  cases z2 with
  | false=>
   have q:=h2.out
   go_wp2
   go_ret
   exact⟨by rw[HO.out];simp,HG.out.1⟩
  | true=>
   have q2:=h2.out
   cases z3 with
   | false=>
    have q:=h3.out
    go_wp2
    go_ret
    exact⟨by rw[HO.out];simp,HG.out.1⟩
   | true=>
    have q3:=h3.out
    go_wp2_with fail
    refine (HD.out _ HG.out.1).mono ?_
    rintro e w4 ⟨rfl,hg⟩
    have jX:Hid (w.grownBy w4 none/\aF w4 N 34 [.string s,iV cl,iV sq,.slice a1 n1 c1,.bool g,.slice a2 n2 c2,.slice a3 n3 c3]/\aF w4 M 34 [.string s',iV cl',iV sq',.slice a1' n1' c1',.bool g',.slice nM pV c2',.slice a3' pW c3']):=⟨aj HG.out.1 hg,HG.out.2.1.grown hg (by simp),HG.out.2.2.grown hg (by simp)⟩
    clear hg HG
    have HG:=jX;clear jX
    replace x4:=HG.out.2.1.cell (i:=4) rfl
    replace y4:=HG.out.2.2.cell (i:=4) rfl
    replace x5:=HG.out.2.1.cell (i:=5) rfl
    replace y5:=HG.out.2.2.cell (i:=5) rfl
    replace x6:=HG.out.2.1.cell (i:=6) rfl
    replace y6:=HG.out.2.2.cell (i:=6) rfl
    cases z4 with
    | false=>
     go_wp2
     go_ret
     exact⟨by rw[HO.out];simp,HG.out.1⟩
    | true=>
     cases z5 with
     | false=>
      have q:=h5.out
      go_wp2
      go_ret
      exact⟨by rw[HO.out];simp,HG.out.1⟩
     | true=>
      have q5:=h5.out
      go_wp2_with fail
      refine (HV.out _ HG.out.1).mono ?_
      rintro e w6 ⟨rfl,hg⟩
      have HG6:Hid (w.grownBy w6 none/\aF w6 N 34 [.string s,iV cl,iV sq,.slice a1 n1 c1,.bool g,.slice a2 n2 c2,.slice a3 n3 c3]/\aF w6 M 34 [.string s',iV cl',iV sq',.slice a1' n1' c1',.bool g',.slice nM pV c2',.slice a3' pW c3']):=⟨aj HG.out.1 hg,HG.out.2.1.grown hg (by simp),HG.out.2.2.grown hg (by simp)⟩
      clear hg HG
      have HG:=HG6;clear HG6
      replace x6:=HG.out.2.1.cell (i:=6) rfl
      replace y6:=HG.out.2.2.cell (i:=6) rfl
      cases z6 with
      | false=>
       go_wp2
       go_ret
       exact⟨by rw[HO.out];simp,HG.out.1⟩
      | true=>
       go_wp2_with fail
       refine (HS.out _ HG.out.1).mono ?_
       rintro e w7 ⟨rfl,hg⟩
       have HG7:Hid (w.grownBy w7 none/\aF w7 N 34 [.string s,iV cl,iV sq,.slice a1 n1 c1,.bool g,.slice a2 n2 c2,.slice a3 n3 c3]/\aF w7 M 34 [.string s',iV cl',iV sq',.slice a1' n1' c1',.bool g',.slice nM pV c2',.slice a3' pW c3']):=⟨aj HG.out.1 hg,HG.out.2.1.grown hg (by simp),HG.out.2.2.grown hg (by simp)⟩
       clear hg HG
       have HG:=HG7;clear HG7
       go_wp2
       go_ret
       exact⟨by rw[HO.out];simp,HG.out.1⟩
end Rc
end
section
open Go.RowKit Ow
def PX (n:Int) (w:World) (e:Ending) (w':World):Prop:=∃r:Nat,(r:Int)<n/\e=.returned (.int .i64 (r:Int))/\w=w'
set_option maxHeartbeats 400000 in
theorem Ch (x n:Int) (w:World) (hn:1<=n) (hn2:n<=4000) (hx1: -9223372036854775808<=x) (hx2:x<=9223372036854775807):
  Calls Tryz.prog 14 #[.int .i64 x,.int .i64 n] w (PX n w):=by
 have hn1:¬n<1:=by omega
 by_cases h0:0<=x
 .obtain⟨y,hy⟩:∃y,y=x%n:=⟨_,rfl⟩
  have y0:0<=y:=by rw[hy];exact Int.emod_nonneg _ (by omega)
  have y1:y<n:=by rw[hy];exact Int.emod_lt_of_pos _ (by omega)
  have ey:x%n=y:=hy.symm
  clear hy
  go_enter Tryz.func14,Tryz.ntmps14
  go_wp2
  go_ret
  exact⟨y.toNat,by omega,by rw[show ((y.toNat:Nat):Int)=y by omega];rfl,rfl⟩
 .obtain⟨y,hy⟩:∃y,y=x.tmod n:=⟨_,rfl⟩
  have y0:y<=0:=by rw[hy];have:=Int.tmod_nonneg (a:=-x) n (by omega);rw[Int.neg_tmod]at this;omega
  have y1: -n<y:=by rw[hy];have:=Int.tmod_lt_of_pos (-x) (show 0<n by omega);rw[Int.neg_tmod]at this;omega
  have ey:x.tmod n=y:=hy.symm
  clear hy
  by_cases hz:y<0
  .go_enter Tryz.func14,Tryz.ntmps14
   go_wp2
   go_ret
   exact⟨(y+n).toNat,by omega,by rw[show (((y+n).toNat:Nat):Int)=y+n by omega];rfl,rfl⟩
  .go_enter Tryz.func14,Tryz.ntmps14
   go_wp2
   go_ret
   exact⟨y.toNat,by omega,by rw[show ((y.toNat:Nat):Int)=y by omega];rfl,rfl⟩
end
section
open Go.RowKit Ow Wi Ve Rc Ed Sb
namespace Gr
theorem XF (w:World):lD w w.heap.size ⟨⟨#[]⟩,none,0,0,none,0,0,none,0,0⟩ ⟨[],0,0,[],false,[],[]⟩:=
 ⟨rfl,rfl,rfl,rfl,⟨Nat.le_refl _,Or.inl rfl⟩,q8 w,q8 w,show 0<9223372036854775808 by decide⟩
theorem ac8 (w:World):Calls Tryz.prog 12 #[.agg z7.toArray,.agg z7.toArray] w fun e w'=>e=.returned (.bool true)/\w.grownBy w' none:=by
 have h:=Jm _ _ _ _ w _ _ (XF w) (XF w)
 rw[(PV _ _).2 rfl]at h
 exact h
theorem PY (n cap B:Nat) (a:Option Addr) (l:List Nat) (r:R) (w:World) (q:L) (hn:l.length=n) (h:lD w B q r) (hz:¬(n=32/\eP r=true)):
  Calls Tryz.prog 11 #[.slice a n cap,q.v r] w fun e w'=>(∃x:Int,x≠0/\e=.returned (zm x))/\w.grownBy w' none:=by
 by_cases h32:n=32
 .subst h32
  have hs:eP r=false:=by
   cases hs:eP r with
   | false=>rfl
   | true=>exact absurd ⟨rfl,hs⟩ hz
  exact (Ll r B cap a w q h hs).mono fun e w' ⟨he,hg⟩=>⟨⟨4,by decide,he⟩,hg⟩
 .exact (Pp r n cap a w q h32).mono fun e w' ⟨he,hg⟩=>⟨⟨2,by decide,he⟩,hg⟩
set_option maxHeartbeats 4000000 in
set_option maxRecDepth 100000 in
theorem Uj (n cap B:Nat) (a:Option Addr) (l:List Nat) (r:R) (sp':ByteArray) (c:Int) (w:World) (q:L) (hO:ko w) (hT:dH w) (hS:Tables w) (hn:l.length=n) (h:lD w B q r) (hf:Fits (q,r)) (hz:¬(n=32/\eP r=true)):
  Calls Tryz.prog 4 #[.slice a n cap,q.v r,.string sp',.int .i64 c] w fun e w'=>e=.returned (.bool true)/\w.grownBy w' none:=by
 have HA:Hid (∀w',w.grownBy w' none->Calls Tryz.prog 5 #[] w' fun e w''=>e=.returned (.bool true)/\w'.grownBy w'' none):=fun w' hg=>zn w' (hO.kept hg (fun b e=>by cases e)) (hT.grown hg) (hS.kept hg (fun b e=>by cases e))
 have Nk:Hid (∀w',w.grownBy w' none->Calls Tryz.prog 11 #[.slice a n cap,q.v r] w' fun e w''=>(∃x:Int,x≠0/\e=.returned (zm x))/\w'.grownBy w'' none):=fun w' hg=>PY n cap B a l r w' q hn (h.stay hg) hz
 have HC:=Lib.hid (fun w=>xO (q,r) w hf)
 clear hO hT hS hn h hf hz
 generalize WQ (q,r)=z at HC
 obtain⟨s,a1,n1,c1,a2,n2,c2,a3,n3,c3⟩:=q
 obtain⟨key,cl,sq,cx,g,val,sig⟩:=r
 replace Nk:Hid (∀w',w.grownBy w' none->Calls Tryz.prog 11 #[.slice a n cap,vV s cl sq a1 n1 c1 g a2 n2 c2 a3 n3 c3] w' fun e w''=>(∃x:Int,x≠0/\e=.returned (zm x))/\w'.grownBy w'' none):=Nk
 replace HC:Hid (∀w,Calls Tryz.prog 10 #[vV s cl sq a1 n1 c1 g a2 n2 c2 a3 n3 c3] w fun e w'=>e=.returned (.int .i64 z)/\w.grownBy w' none):=HC
 show Calls _ _ #[.slice a n cap,vV s cl sq a1 n1 c1 g a2 n2 c2 a3 n3 c3,.string sp',.int .i64 c] w _
 obtain⟨N,hN⟩:∃N,N=w.heap.size:=⟨_,rfl⟩
 obtain⟨W0,hW0⟩:∃W0,W0=w.alloc (.cells #[.string s,iV cl,iV sq,.slice a1 n1 c1,.bool g,.slice a2 n2 c2,.slice a3 n3 c3] 34):=⟨_,rfl⟩
 have hG0:w.grownBy W0 none:=by rw[hW0];exact au (ah _ _) _
 have hB0:aF W0 N 34 [.string s,iV cl,iV sq,.slice a1 n1 c1,.bool g,.slice a2 n2 c2,.slice a3 n3 c3]:=by rw[hW0,hN];exact aF.new w _ _
 have iA:=Lib.hid (And.intro hG0 hB0);clear hG0 hB0
 go_enter Tryz.func4,Tryz.ntmps4
 go_wp2_with fail
 rw[<- hW0,<- hN]
 clear hW0 hN
 refine (HA.out _ iA.out.1).mono ?_
 rintro e w1 ⟨rfl,hg⟩
 have hB1:=iA.out.2.grown hg (by simp)
 have iw:=Lib.hid (And.intro (aj iA.out.1 hg) hB1);clear hg iA HA
 by_cases hp:sp'.size>100
 .have i0:(sp'.size:Int)>100:=by omega
  clear hB1
  go_wp2
  go_ret
  exact⟨rfl,iw.out.1⟩
 have i0:¬(sp'.size:Int)>100:=by omega
 have m0:=hB1.cell (i:=0) rfl
 have m1:=hB1.cell (i:=1) rfl
 have m2:=hB1.cell (i:=2) rfl
 have m3:=hB1.cell (i:=3) rfl
 have m4:=hB1.cell (i:=4) rfl
 have m5:=hB1.cell (i:=5) rfl
 have m6:=hB1.cell (i:=6) rfl
 clear hB1
 go_wp2_with fail
 clear m0 m1 m2 m3 m4 m5 m6
 refine (HC.out _).mono ?_
 rintro e w2 ⟨rfl,hg⟩
 have hB2:=iw.out.2.grown hg (by simp)
 have HG2:=Lib.hid (And.intro (aj iw.out.1 hg) hB2);clear hg iw HC
 by_cases hz:z>1000
 .have i1:(z:Int)>1000:=by omega
  clear hB2
  go_wp2
  go_ret
  exact⟨rfl,HG2.out.1⟩
 have i1:¬(z:Int)>1000:=by omega
 have m0:=hB2.cell (i:=0) rfl
 have m1:=hB2.cell (i:=1) rfl
 have m2:=hB2.cell (i:=2) rfl
 have m3:=hB2.cell (i:=3) rfl
 have m4:=hB2.cell (i:=4) rfl
 have m5:=hB2.cell (i:=5) rfl
 have m6:=hB2.cell (i:=6) rfl
 clear hB2
 go_wp2_with fail
 clear m0 m1 m2 m3 m4 m5 m6
 refine (Nk.out _ HG2.out.1).mono ?_
 rintro e w3 ⟨⟨x,hx,rfl⟩,hg⟩
 have mM:=Lib.hid (aj HG2.out.1 hg);clear hg HG2 Nk
 unfold zm z7 tO iV
 go_wp2_with fail
 refine (ac8 _).mono ?_
 rintro e w4 ⟨rfl,hg⟩
 have jX:=Lib.hid (aj (au mM.out _) hg);clear hg
 go_wp2
 go_ret
 exact⟨rfl,jX.out⟩
end Gr
end
section
open Go.RowKit Ow Wi Ve Rc Ed Sb
namespace Gr
theorem iJ.rH {w:World} {B:Nat} {a:Option Addr} {l:List GE} (h:iJ w B a l):iJ w w.heap.size a l:=by
 refine⟨Nat.le_refl _,fun x hx=>⟨(h.each x hx).str,(h.each x hx).len,(h.each x hx).pub.full⟩,?_⟩
 rcases h.cells with h0 |⟨pb,po,ha,hlt,hc⟩
 .exact Or.inl h0
 .exact Or.inr ⟨pb,po,ha,Nat.lt_of_lt_of_le hlt h.lim,hc⟩
set_option maxHeartbeats 8000000 in
set_option maxRecDepth 100000 in
theorem WS (cap B Bs:Nat) (a:Option Addr) (l:List Nat) (r:R) (sp':ByteArray) (c:Int) (w:World) (q:L) (hO:ko w) (hT:dH w) (hS:Tables w) (hn:l.length=32) (hP:BytesAt w Bs a cap l) (h:lD w B q r) (hf:Fits (q,r)) (hz:eP r=true) (hc1: -9223372036854775808<=c) (hc2:c<=9223372036854775807):
  Calls Tryz.prog 4 #[.slice a 32 cap,q.v r,.string sp',.int .i64 c] w fun e w'=>e=.returned (.bool true)/\w.grownBy w' none:=by
 have HA:Hid (∀w',w.grownBy w' none->Calls Tryz.prog 5 #[] w' fun e w''=>e=.returned (.bool true)/\w'.grownBy w'' none):=fun w' hg=>zn w' (hO.kept hg (fun b e=>by cases e)) (hT.grown hg) (hS.kept hg (fun b e=>by cases e))
 have Nk:Hid (∀w',w.grownBy w' none->Calls Tryz.prog 11 #[.slice a 32 cap,q.v r] w' (xK w' l r)):=fun w' hg=>Jg l r B cap Bs a w' q (hO.kept hg (fun b e=>by cases e)) (hT.grown hg) (hS.kept hg (fun b e=>by cases e)) hn (hP.stay hg) (h.stay hg) hz
 have HC:=Lib.hid (fun w=>xO (q,r) w hf)
 have HPu:Hid (∀w',w.grownBy w' none->Calls Tryz.prog 13 #[.slice a 32 cap] w' fun e w''=>∃v,e=.returned v/\w'.grownBy w'' none/\∃g,v=.slice (some ⟨g,0,none⟩) 32 32/\aF w'' g 166 ((jk (enc (zC l))).map dG)):=fun w' hg=>
  (MZ l cap Bs a w' (hT.grown hg) (hS.kept hg (fun b e=>by cases e)) hn (Lib.hid (hP.stay hg))).mono fun _ _ ⟨g,he,hg,_,hb⟩=>⟨_,he,hg,g,rfl,hb⟩
 have HM:Hid (∀(w':World) (X N:Nat) (gl:GE) (x:E),w.grownBy w' none->iJ w' w'.heap.size (some ⟨X,0,none⟩) [gl]->aF w' N 34 (recC x)->lD w' w'.heap.size x.1 x.2->Calls Tryz.prog 7 #[.slice (some ⟨X,0,none⟩) 1 1,.slice (some ⟨N,0,none⟩) 1 1] w' fun e w''=>e=.returned (.int .i64 (tL [gl.2] [x.2]))/\w'.grownBy w'' none):=fun w' X N gl x hg hgr hb hx=>
  Np 1 1 _ 1 1 _ (some ⟨X,0,none⟩) (some ⟨N,0,none⟩) [gl] [x] w' (hO.kept hg (fun b e=>by cases e)) (hT.grown hg) (hS.kept hg (fun b e=>by cases e)) rfl (by decide) hgr rfl (by decide) (Jk hb hx)
 have HRt:Hid (∀(w':World) (X:Nat) (gl:GE),iJ w' w'.heap.size (some ⟨X,0,none⟩) [gl]->Calls Tryz.prog 8 #[.slice (some ⟨X,0,none⟩) 1 1] w' fun e w''=>e=.returned (.bool (rightG [gl.2]))/\w'.grownBy w'' none):=fun w' X gl hgr=>LA 1 1 _ (some ⟨X,0,none⟩) [gl] w' rfl (by decide) hgr
 have HK:=Lib.hid (And.intro h.str (And.intro hz (And.intro hc1 hc2)))
 clear hO hT hS hn h hf hz hP hc1 hc2
 generalize WQ (q,r)=z at HC
 obtain⟨s,a1,n1,c1,a2,n2,c2,a3,n3,c3⟩:=q
 obtain⟨r0,hr0⟩:∃r0,r0=r:=⟨_,rfl⟩
 obtain⟨key,cl,sq,cx,g,val,sig⟩:=r
 rw[<- hr0]at Nk HK
 replace Nk:Hid (∀w',w.grownBy w' none->Calls Tryz.prog 11 #[.slice a 32 cap,vV s cl sq a1 n1 c1 g a2 n2 c2 a3 n3 c3] w' (xK w' l r0)):=by rw[hr0]at Nk ⊢;exact Nk
 replace HC:Hid (∀w,Calls Tryz.prog 10 #[vV s cl sq a1 n1 c1 g a2 n2 c2 a3 n3 c3] w fun e w'=>e=.returned (.int .i64 z)/\w.grownBy w' none):=HC
 have KI:Hid (r0.cl=cl/\r0.sq=sq/\r0.gone=g):=by rw[hr0];exact⟨rfl,rfl,rfl⟩
 clear hr0
 show Calls _ _ #[.slice a 32 cap,vV s cl sq a1 n1 c1 g a2 n2 c2 a3 n3 c3,.string sp',.int .i64 c] w _
 obtain⟨N,hN⟩:∃N,N=w.heap.size:=⟨_,rfl⟩
 obtain⟨W0,hW0⟩:∃W0,W0=w.alloc (.cells #[.string s,iV cl,iV sq,.slice a1 n1 c1,.bool g,.slice a2 n2 c2,.slice a3 n3 c3] 34):=⟨_,rfl⟩
 have hG0:w.grownBy W0 none:=by rw[hW0];exact au (ah _ _) _
 have hB0:aF W0 N 34 [.string s,iV cl,iV sq,.slice a1 n1 c1,.bool g,.slice a2 n2 c2,.slice a3 n3 c3]:=by rw[hW0,hN];exact aF.new w _ _
 have iA:=Lib.hid (And.intro hG0 hB0);clear hG0 hB0
 go_enter Tryz.func4,Tryz.ntmps4
 go_wp2_with fail
 rw[<- hW0,<- hN]
 clear hW0 hN
 refine (HA.out _ iA.out.1).mono ?_
 rintro e w1 ⟨rfl,hg⟩
 have hB1:=iA.out.2.gn hg
 have iw:=Lib.hid (And.intro (aj iA.out.1 hg) hB1);clear hg iA HA
 by_cases hp:sp'.size>100
 .have i0:(sp'.size:Int)>100:=by omega
  clear hB1
  go_wp2
  go_ret
  exact⟨rfl,iw.out.1⟩
 have i0:¬(sp'.size:Int)>100:=by omega
 have m0:=hB1.cell (i:=0) rfl
 have m1:=hB1.cell (i:=1) rfl
 have m2:=hB1.cell (i:=2) rfl
 have m3:=hB1.cell (i:=3) rfl
 have m4:=hB1.cell (i:=4) rfl
 have m5:=hB1.cell (i:=5) rfl
 have m6:=hB1.cell (i:=6) rfl
 clear hB1
 go_wp2_with fail
 clear m0 m1 m2 m3 m4 m5 m6
 refine (HC.out _).mono ?_
 rintro e w2 ⟨rfl,hg⟩
 have hB2:=iw.out.2.gn hg
 have HG2:=Lib.hid (And.intro (aj iw.out.1 hg) hB2);clear hg iw HC
 by_cases hz:z>1000
 .have i1:(z:Int)>1000:=by omega
  clear hB2
  go_wp2
  go_ret
  exact⟨rfl,HG2.out.1⟩
 have i1:¬(z:Int)>1000:=by omega
 have m0:=hB2.cell (i:=0) rfl
 have m1:=hB2.cell (i:=1) rfl
 have m2:=hB2.cell (i:=2) rfl
 have m3:=hB2.cell (i:=3) rfl
 have m4:=hB2.cell (i:=4) rfl
 have m5:=hB2.cell (i:=5) rfl
 have m6:=hB2.cell (i:=6) rfl
 clear hB2
 go_wp2_with fail
 clear m0 m1 m2 m3 m4 m5 m6
 refine (Nk.out _ HG2.out.1).mono ?_
 rintro e w3 ⟨⟨s',a1',n1',c1',nM,pV,c2',a3',pW,c3'⟩,he,hg,ho⟩
 have he':e=.returned (.tuple #[vV s' cl sq a1' n1' c1' g nM pV c2' a3' pW c3',.int .i64 0]):=by
  rw[<- KI.out.1,<- KI.out.2.1,<- KI.out.2.2];exact he
 subst he'
 clear he
 obtain⟨W3,hW3⟩:∃W3,W3=w3.alloc (.cells #[.string s',.int .i64 cl,.int .i64 sq,.slice a1' n1' c1',.bool g,.slice nM pV c2',.slice a3' pW c3'] 34):=⟨_,rfl⟩
 have ga:=au (ah w3 none) (.cells #[.string s',.int .i64 cl,.int .i64 sq,.slice a1' n1' c1',.bool g,.slice nM pV c2',.slice a3' pW c3'] 34)
 rw[<- hW3]at ga
 have bS:aF W3 w3.heap.size 34 [.string s',.int .i64 cl,.int .i64 sq,.slice a1' n1' c1',.bool g,.slice nM pV c2',.slice a3' pW c3']:=by rw[hW3];exact aF.new _ _ _
 have mM:=Lib.hid (And.intro (aj HG2.out.1 (aj hg ga)) (And.intro (HG2.out.2.grown (aj hg ga) (by simp)) (And.intro bS ((ho.at.stay ga).full))));clear hg ga ho bS HG2 Nk
 go_upto_region 6 with fail
 rw[<- hW3]
 generalize w3.heap.size=S at *
 clear hW3
 go_upto_region 8 with fail
 refine Fg.tN [] [.any,.any,.any,.any,.any,.any,.any,.any,.any,.any,.any,.any,.any,.any,.any,.any,.any,.any,.any,.any,.any,.any,.any,.any,.any,.any,.any,.any,.any,.any,.any,.any,.any,.any,.any,.any,.val (Value.pointer (some ⟨N,1,none⟩)),.val (Value.int .i64 cl),.val (Value.slice a 32 cap),.ZO 166 32 (jk (enc (zC l))),.val (Value.string sp')] W3 5 (ah _ _) (by kernel_rfl) (by kernel_rfl) (by kernel_rfl) (by kernel_rfl) (by decide) (by kernel_rfl) ?_ ?_
 .refine⟨Fg.vT rfl (by decide) fun ac w h=>?_,?_⟩
  .have e5:_=Value.pointer (some ⟨N,0,none⟩):=h.r 5
   refine⟨Value.pointer (some ⟨N,1,none⟩),w,aB rfl,?_,ah _ _,rfl⟩
   clear h
   simp only[execOp,Act.eval,e5]
   go_simp
  refine⟨Fg.vT rfl (by decide) fun ac w h=>?_,?_⟩
  .have e36:_=Value.pointer (some ⟨N,1,none⟩):=h.d 36
   have m1:=((mM.out.2.1).grown h.base (by simp)).cell (i:=1) rfl
   refine⟨Value.int .i64 cl,w,aB rfl,?_,ah _ _,rfl⟩
   clear h
   simp only[execOp,Act.eval,e36]
   go_simp
  refine⟨Fg.vT rfl (by decide) fun ac w h=>?_,?_⟩
  .have e0:_=Value.slice a 32 cap:=h.r 0
   exact⟨_,w,aB rfl,Fg.run_move rfl e0,ah _ _,rfl⟩
  refine⟨Fg.cT rfl (by decide) fun ac w h=>?_,?_⟩
  .have e38:_=Value.slice a 32 cap:=h.d 38
   refine⟨13,#[Value.slice a 32 cap],aB rfl,Fg.aN rfl rfl (by simp only[List.map_toArray,List.map_cons,List.map_nil,Act.eval,e38]) (Fg.aI Tryz.func13 (by kernel_rfl) (by kernel_rfl)),?_⟩
   exact (HPu.out w (aj mM.out.1 h.base)).mono fun _ _ ⟨v,he,hg,hb⟩=>⟨v,he,hg,hb⟩
  refine⟨Fg.vT rfl (by decide) fun ac w h=>?_,?_⟩
  .have e2:_=Value.string sp':=h.r 2
   exact⟨_,w,aB rfl,Fg.run_move rfl e2,ah _ _,rfl⟩
  trivial
 .intro aq wq hB hsz hdf hrest aC hpt
  obtain⟨⟨u1,e1⟩,⟨u15,e15⟩,⟨u16,e16⟩,⟨u17,e17⟩,⟨u18,e18⟩,⟨u19,e19⟩,⟨u20,e20⟩,⟨u21,e21⟩,⟨u22,e22⟩,⟨u23,e23⟩,⟨u24,e24⟩,⟨u25,e25⟩,⟨u26,e26⟩,⟨u27,e27⟩,⟨u28,e28⟩,⟨u29,e29⟩,⟨u30,e30⟩,⟨u31,e31⟩,⟨u32,e32⟩,⟨u36,e36⟩,_⟩:=Fg.bn aq [1,15,16,17,18,19,20,21,22,23,24,25,26,27,28,29,30,31,32,36]
  have e37:aq.tmps.getD 37 undef=Value.int .i64 cl:=aC 37 (by kernel_rfl)
  obtain⟨u38,e38⟩:=Fg.bP aq 38
  obtain⟨vW,e39,b39⟩:∃g,aq.tmps.getD 39 undef=.slice (some ⟨g,0,none⟩) 32 32/\aF wq g 166 ((jk (enc (zC l))).map dG):=aC 39 (by kernel_rfl)
  have e40:aq.tmps.getD 40 undef=Value.string sp':=aC 40 (by kernel_rfl)
  obtain rfl:=Fg.aP [1,15,16,17,18,19,20,21,22,23,24,25,26,27,28,29,30,31,32,36,37,38,39,40] (vs:=[_,u1,_,_,_,_,_,_,_,_,_,_,_,_,_,u15,u16,u17,u18,u19,u20,u21,u22,u23,u24,u25,u26,u27,u28,u29,u30,u31,u32,_,_,_,u36,Value.int .i64 cl,u38,Value.slice (some ⟨vW,0,none⟩) 32 32,Value.string sp',_,_,_,_,_,_,_,_,_,_,_,_,_,_,_,_,_,_,_,_,_,_,_,_,_,_,_,_,_,_,_,_,_,_,_,_,_,_,_,_,_,_,_,_,_,_,_,_,_,_,_,_,_,_,_,_,_,_,_,_,_,_,_,_]) hsz hrest (by kernel_rfl) rfl rfl ⟨e1,e15,e16,e17,e18,e19,e20,e21,e22,e23,e24,e25,e26,e27,e28,e29,e30,e31,e32,e36,e37,e38,e39,e40,trivial⟩ hdf
  clear hsz hdf hrest aC hpt e1 e15 e16 e17 e18 e19 e20 e21 e22 e23 e24 e25 e26 e27 e28 e29 e30 e31 e32 e36 e37 e38 e39 e40
  have gX:=au (ah wq none) (.cells #[.int .i64 cl,.slice (some ⟨vW,0,none⟩) 32 32,.string sp'] 26)
  obtain⟨Wg,hWg⟩:∃Wg,Wg=wq.alloc (.cells #[.int .i64 cl,.slice (some ⟨vW,0,none⟩) 32 32,.string sp'] 26):=⟨_,rfl⟩
  rw[<- hWg]at gX
  obtain⟨gl,hgl⟩:∃gl:GE,gl=(⟨some ⟨vW,0,none⟩,32,32,sp'⟩,uN l cl (bQ sp')):=⟨_,rfl⟩
  have bX:aF Wg wq.heap.size 26 ([gl].flatMap gC):=by rw[hWg,hgl];exact aF.new wq [.int .i64 cl,.slice (some ⟨vW,0,none⟩) 32 32,.string sp'] _
  have hpb:PB Wg gl:=by rw[hgl];exact⟨rfl,rfl,rfl,gy _,qL _,vW,rfl,b39.gn gX⟩
  have hgr:=xL bX (fun x hx=>by obtain rfl:=List.mem_singleton.1 hx;exact hpb.at)
  have kq:=aj hB gX
  have jX:=Lib.hid (And.intro (aj mM.out.1 kq) (And.intro (mM.out.2.1.gn kq) (And.intro (mM.out.2.2.1.gn kq) (And.intro (mM.out.2.2.2.stay kq) (And.intro bX (And.intro hpb (And.intro hgr (And.intro (Nat.lt_of_lt_of_le mM.out.2.1.lt hB.size) (And.intro (Nat.lt_of_lt_of_le mM.out.2.2.1.lt hB.size) (And.intro hB.size (And.intro b39.lt (Nat.le_trans mM.out.1.size hB.size))))))))))))
  generalize W3.heap.size=BW at *
  clear gX bX hpb hgr kq hB b39 mM
  go_upto_region 9 with fail
  rw[<- hWg]
  generalize wq.heap.size=X at *
  clear hWg
  have HT1:Hid (∀b,tK (bQ sp') (bQ s)=b->sp'.size<=64->tL [gl.2] [jh l r0]=if b then 0 else 21):=fun b hb hp=>by
   rw[hgl]
   have h:=WI l r0 (bQ sp') HK.out.2.1 (by rw[gW];exact hp)
   rw[<- HK.out.1,KI.out.1]at h
   rw[show tK (bQ sp') (bQ (L.mk s a1 n1 c1 a2 n2 c2 a3 n3 c3).s)=b from hb]at h
   exact h
  have HT2:Hid (¬sp'.size<=64->tL [gl.2] [jh l r0]=2):=fun hp=>by
   rw[hgl]
   have h:=TQ l r0 (bQ sp') HK.out.2.1 (by rw[gW];exact hp)
   rw[KI.out.1]at h
   exact h
  have HT3:Hid (rightG [gl.2]=decide (sp'.size<=64)):=by
   have hcl:=Ce HK.out.2.1
   rw[KI.out.1]at hcl
   rw[hgl]
   have h:=uE l cl (bQ sp') hcl.1 hcl.2
   rwa [gW]at h
  have HRC:Hid (∀(w':World) (Y:Nat),aF w' Y 34 [.string s',.int .i64 cl,.int .i64 sq,.slice a1' n1' c1',.bool g,.slice nM pV c2',.slice a3' pW c3']->aF w' Y 34 (recC (⟨s',a1',n1',c1',nM,pV,c2',a3',pW,c3'⟩,jh l r0))):=fun w' Y hb=>by
   show aF w' Y 34 [.string s',iV r0.cl,iV r0.sq,.slice a1' n1' c1',.bool r0.gone,.slice nM pV c2',.slice a3' pW c3']
   rw[KI.out.1,KI.out.2.1,KI.out.2.2]
   exact hb
  by_cases hle:sp'.size<=s.size
  .have i9:(s.size:Int)>=(sp'.size:Int):=by omega
   obtain⟨b,hb⟩:∃b,tK (bQ sp') (bQ s)=b:=⟨_,rfl⟩
   have he9:=Nl s sp' b hb.symm
   cases b with
   | false=>
    have m0:=jX.out.2.1.cell (i:=0) rfl
    have x0:=jX.out.2.2.1.cell (i:=0) rfl
    have x1:=jX.out.2.2.1.cell (i:=1) rfl
    have x2:=jX.out.2.2.1.cell (i:=2) rfl
    have x3:=jX.out.2.2.1.cell (i:=3) rfl
    have x4:=jX.out.2.2.1.cell (i:=4) rfl
    have x5:=jX.out.2.2.1.cell (i:=5) rfl
    have x6:=jX.out.2.2.1.cell (i:=6) rfl
    go_wp2_with fail
    clear m0
    clear x0 x1 x2 x3 x4 x5 x6
    have ga:=au (ah Wg none) (.cells #[.string s',.int .i64 cl,.int .i64 sq,.slice a1' n1' c1',.bool g,.slice nM pV c2',.slice a3' pW c3'] 34)
    refine (HM.out _ X Wg.heap.size gl (⟨s',a1',n1',c1',nM,pV,c2',a3',pW,c3'⟩,jh l r0) (aj jX.out.1 ga) (iJ.stay jX.out.2.2.2.2.2.2.1 ga |>.rH) (HRC.out _ _ (aF.new Wg [.string s',.int .i64 cl,.int .i64 sq,.slice a1' n1' c1',.bool g,.slice nM pV c2',.slice a3' pW c3'] 34)) (jX.out.2.2.2.1.stay ga).full).mono ?_
    rintro e w5 ⟨he,hg⟩
    have H5:=Lib.hid (aj ga hg);clear hg ga
    by_cases hp:sp'.size<=64
    .have he':e=.returned (.int .i64 21):=he.trans (congrArg (fun z:Int=>Ending.returned (.int .i64 z)) (HT1.out false hb hp))
     subst he'
     clear he
     go_wp2_with fail
     refine (HRt.out _ X gl (iJ.stay jX.out.2.2.2.2.2.2.1 H5.out |>.rH)).mono ?_
     rw[HT3.out,decide_eq_true hp]
     rintro e w6 ⟨rfl,hg⟩
     have H6:=Lib.hid (aj H5.out hg);clear hg H5
     go_wp2_with fail
     refine (Ch c 8 _ (by decide) (by decide) HK.out.2.2.1 HK.out.2.2.2).mono ?_
     rintro e w7 ⟨y,hy,rfl,rfl⟩
     obtain⟨kg,bN,bS,hS,bX,hpb,hgr,hNX,hSX,XG,hgX,XH⟩:=jX.out
     have Nq:aF w6 X 26 [.int .i64 cl,.slice (some ⟨vW,0,none⟩) 32 32,.string sp']:=by have h:=bX.gn H6.out;rw[hgl]at h;exact h
     have y0:=Nq.cell (i:=0) rfl
     have f0:=Nq.free 0
     have q1:IntKind.i64.wrap (1+(y:Int))=1+(y:Int):=by simp[IntKind.wrap,IntKind.signed,IntKind.bits];omega
     have H7:Hid (w.grownBy (w6.setCell ⟨X,0,none⟩ (.int .i64 (1+(y:Int)))) none/\aF (w6.setCell ⟨X,0,none⟩ (.int .i64 (1+(y:Int)))) N 34 [.string s,iV cl,iV sq,.slice a1 n1 c1,.bool g,.slice a2 n2 c2,.slice a3 n3 c3]/\aF (w6.setCell ⟨X,0,none⟩ (.int .i64 (1+(y:Int)))) S 34 [.string s',.int .i64 cl,.int .i64 sq,.slice a1' n1' c1',.bool g,.slice nM pV c2',.slice a3' pW c3']/\lD (w6.setCell ⟨X,0,none⟩ (.int .i64 (1+(y:Int)))) BW ⟨s',a1',n1',c1',nM,pV,c2',a3',pW,c3'⟩ (jh l r0)/\aF (w6.setCell ⟨X,0,none⟩ (.int .i64 (1+(y:Int)))) X 26 [.int .i64 (1+(y:Int)),.slice (some ⟨vW,0,none⟩) 32 32,.string sp']/\PB (w6.setCell ⟨X,0,none⟩ (.int .i64 (1+(y:Int)))) (⟨some ⟨vW,0,none⟩,32,32,sp'⟩,uN l (1+(y:Int)) (bQ sp'))):=by
      have hk:=aj kg H6.out
      refine⟨aJ hk (p:=⟨X,0,none⟩) XH _,(bN.gn H6.out).other (a:=⟨X,0,none⟩) (show X≠N by omega) _,(bS.gn H6.out).other (a:=⟨X,0,none⟩) (show X≠S by omega) _,lD.kept (hS.stay H6.out) (aQ (ah w6 (some X)) 0 _) (fun x e=>by cases e;exact XG),Nq.set 0 _,?_⟩
      obtain⟨_,_,_,_,_,gb,h6,h7⟩:=hpb
      rw[hgl]at h6 h7
      obtain rfl:vW=gb:=by simpa using h6
      exact⟨rfl,rfl,rfl,gy _,qL _,vW,rfl,(h7.gn H6.out).other (a:=⟨X,0,none⟩) (show X≠vW by omega) _⟩
     clear kg bN bS hS bX hpb hgr hNX hSX XG hgX XH Nq HT1 HT2 HT3
     go_upto_region 16 with fail
     clear y0 f0
     generalize w6.setCell ⟨X,0,none⟩ (.int .i64 (1+(y:Int)))=w8 at *
     have x0:=H7.out.2.2.1.cell (i:=0) rfl
     have x1:=H7.out.2.2.1.cell (i:=1) rfl
     have x2:=H7.out.2.2.1.cell (i:=2) rfl
     have x3:=H7.out.2.2.1.cell (i:=3) rfl
     have x4:=H7.out.2.2.1.cell (i:=4) rfl
     have x5:=H7.out.2.2.1.cell (i:=5) rfl
     have x6:=H7.out.2.2.1.cell (i:=6) rfl
     go_wp2_with fail
     clear x0 x1 x2 x3 x4 x5 x6
     have ga:=au (ah w8 none) (.cells #[.string s',.int .i64 cl,.int .i64 sq,.slice a1' n1' c1',.bool g,.slice nM pV c2',.slice a3' pW c3'] 34)
     have Jo:iJ w8 w8.heap.size (some ⟨X,0,none⟩) [(⟨some ⟨vW,0,none⟩,32,32,sp'⟩,uN l (1+(y:Int)) (bQ sp'))]:=xL H7.out.2.2.2.2.1 (fun x hx=>by obtain rfl:=List.mem_singleton.1 hx;exact H7.out.2.2.2.2.2.at)
     refine (HM.out _ X w8.heap.size (⟨some ⟨vW,0,none⟩,32,32,sp'⟩,uN l (1+(y:Int)) (bQ sp')) (⟨s',a1',n1',c1',nM,pV,c2',a3',pW,c3'⟩,jh l r0) (aj H7.out.1 ga) (iJ.stay Jo ga |>.rH) (HRC.out _ _ (aF.new w8 [.string s',.int .i64 cl,.int .i64 sq,.slice a1' n1' c1',.bool g,.slice nM pV c2',.slice a3' pW c3'] 34)) (H7.out.2.2.2.1.stay ga).full).mono ?_
     rintro e w9 ⟨he,hg⟩
     have H8:=Lib.hid (And.intro (aj H7.out.1 (aj ga hg)) (And.intro (H7.out.2.1.grown (aj ga hg) (by simp)) (H7.out.2.2.2.2.1.grown (aj ga hg) (by simp))))
     clear hg ga Jo H7
     by_cases hcy:1+(y:Int)=cl
     .obtain⟨ev,hev⟩:∃ev:Int,e=.returned (.int .i64 ev):=⟨_,he⟩
      clear he
      subst hev
      subst hcy
      have b9:=H8.out.2.1
      have z0:=H8.out.2.2.cell (i:=0) rfl
      have z1:=b9.cell (i:=1) rfl
      unfold iV at z1
      clear b9
      go_upto_region 17 with fail
      go_region
      go_wp2
      go_ret
      exact⟨rfl,aX H8.out.1⟩
     .have ho:=aac l r0 (1+(y:Int)) (bQ sp') HK.out.2.1 (by rw[gW];exact hp) (by omega) (by omega) (by rw[KI.out.1];exact hcy)
      have he':e=.returned (.int .i64 21):=he.trans (congrArg (fun z:Int=>Ending.returned (.int .i64 z)) ho)
      subst he'
      clear he ho
      have hq:((1+(y:Int))==cl)=false:=by simpa using hcy
      have b9:=H8.out.2.1
      have z0:=H8.out.2.2.cell (i:=0) rfl
      have z1:=b9.cell (i:=1) rfl
      unfold iV at z1
      clear b9
      go_upto_region 17 with fail
      go_region
      go_wp2
      go_ret
      exact⟨rfl,aX H8.out.1⟩
    .have he':e=.returned (.int .i64 2):=he.trans (congrArg (fun z:Int=>Ending.returned (.int .i64 z)) (HT2.out hp))
     subst he'
     clear he
     go_wp2_with fail
     refine (HRt.out _ X gl (iJ.stay jX.out.2.2.2.2.2.2.1 H5.out |>.rH)).mono ?_
     rw[HT3.out,decide_eq_false hp]
     rintro e w6 ⟨rfl,hg⟩
     have H6:=Lib.hid (aj jX.out.1 (aj H5.out hg));clear hg H5
     have j1:(sp'.size:Int)>64:=by omega
     go_wp2
     go_ret
     exact⟨rfl,H6.out⟩
   | true=>
    have m0:=jX.out.2.1.cell (i:=0) rfl
    have x0:=jX.out.2.2.1.cell (i:=0) rfl
    have x1:=jX.out.2.2.1.cell (i:=1) rfl
    have x2:=jX.out.2.2.1.cell (i:=2) rfl
    have x3:=jX.out.2.2.1.cell (i:=3) rfl
    have x4:=jX.out.2.2.1.cell (i:=4) rfl
    have x5:=jX.out.2.2.1.cell (i:=5) rfl
    have x6:=jX.out.2.2.1.cell (i:=6) rfl
    go_wp2_with fail
    clear m0
    clear x0 x1 x2 x3 x4 x5 x6
    have ga:=au (ah Wg none) (.cells #[.string s',.int .i64 cl,.int .i64 sq,.slice a1' n1' c1',.bool g,.slice nM pV c2',.slice a3' pW c3'] 34)
    refine (HM.out _ X Wg.heap.size gl (⟨s',a1',n1',c1',nM,pV,c2',a3',pW,c3'⟩,jh l r0) (aj jX.out.1 ga) (iJ.stay jX.out.2.2.2.2.2.2.1 ga |>.rH) (HRC.out _ _ (aF.new Wg [.string s',.int .i64 cl,.int .i64 sq,.slice a1' n1' c1',.bool g,.slice nM pV c2',.slice a3' pW c3'] 34)) (jX.out.2.2.2.1.stay ga).full).mono ?_
    rintro e w5 ⟨he,hg⟩
    have H5:=Lib.hid (aj ga hg);clear hg ga
    by_cases hp:sp'.size<=64
    .have he':e=.returned (.int .i64 0):=he.trans (congrArg (fun z:Int=>Ending.returned (.int .i64 z)) (HT1.out true hb hp))
     subst he'
     clear he
     go_wp2_with fail
     refine (HRt.out _ X gl (iJ.stay jX.out.2.2.2.2.2.2.1 H5.out |>.rH)).mono ?_
     rw[HT3.out,decide_eq_true hp]
     rintro e w6 ⟨rfl,hg⟩
     have H6:=Lib.hid (aj H5.out hg);clear hg H5
     go_wp2_with fail
     refine (Ch c 8 _ (by decide) (by decide) HK.out.2.2.1 HK.out.2.2.2).mono ?_
     rintro e w7 ⟨y,hy,rfl,rfl⟩
     obtain⟨kg,bN,bS,hS,bX,hpb,hgr,hNX,hSX,XG,hgX,XH⟩:=jX.out
     have Nq:aF w6 X 26 [.int .i64 cl,.slice (some ⟨vW,0,none⟩) 32 32,.string sp']:=by have h:=bX.gn H6.out;rw[hgl]at h;exact h
     have y0:=Nq.cell (i:=0) rfl
     have f0:=Nq.free 0
     have q1:IntKind.i64.wrap (1+(y:Int))=1+(y:Int):=by simp[IntKind.wrap,IntKind.signed,IntKind.bits];omega
     have H7:Hid (w.grownBy (w6.setCell ⟨X,0,none⟩ (.int .i64 (1+(y:Int)))) none/\aF (w6.setCell ⟨X,0,none⟩ (.int .i64 (1+(y:Int)))) N 34 [.string s,iV cl,iV sq,.slice a1 n1 c1,.bool g,.slice a2 n2 c2,.slice a3 n3 c3]/\aF (w6.setCell ⟨X,0,none⟩ (.int .i64 (1+(y:Int)))) S 34 [.string s',.int .i64 cl,.int .i64 sq,.slice a1' n1' c1',.bool g,.slice nM pV c2',.slice a3' pW c3']/\lD (w6.setCell ⟨X,0,none⟩ (.int .i64 (1+(y:Int)))) BW ⟨s',a1',n1',c1',nM,pV,c2',a3',pW,c3'⟩ (jh l r0)/\aF (w6.setCell ⟨X,0,none⟩ (.int .i64 (1+(y:Int)))) X 26 [.int .i64 (1+(y:Int)),.slice (some ⟨vW,0,none⟩) 32 32,.string sp']/\PB (w6.setCell ⟨X,0,none⟩ (.int .i64 (1+(y:Int)))) (⟨some ⟨vW,0,none⟩,32,32,sp'⟩,uN l (1+(y:Int)) (bQ sp'))):=by
      have hk:=aj kg H6.out
      refine⟨aJ hk (p:=⟨X,0,none⟩) XH _,(bN.gn H6.out).other (a:=⟨X,0,none⟩) (show X≠N by omega) _,(bS.gn H6.out).other (a:=⟨X,0,none⟩) (show X≠S by omega) _,lD.kept (hS.stay H6.out) (aQ (ah w6 (some X)) 0 _) (fun x e=>by cases e;exact XG),Nq.set 0 _,?_⟩
      obtain⟨_,_,_,_,_,gb,h6,h7⟩:=hpb
      rw[hgl]at h6 h7
      obtain rfl:vW=gb:=by simpa using h6
      exact⟨rfl,rfl,rfl,gy _,qL _,vW,rfl,(h7.gn H6.out).other (a:=⟨X,0,none⟩) (show X≠vW by omega) _⟩
     clear kg bN bS hS bX hpb hgr hNX hSX XG hgX XH Nq HT1 HT2 HT3
     go_upto_region 16 with fail
     clear y0 f0
     generalize w6.setCell ⟨X,0,none⟩ (.int .i64 (1+(y:Int)))=w8 at *
     have x0:=H7.out.2.2.1.cell (i:=0) rfl
     have x1:=H7.out.2.2.1.cell (i:=1) rfl
     have x2:=H7.out.2.2.1.cell (i:=2) rfl
     have x3:=H7.out.2.2.1.cell (i:=3) rfl
     have x4:=H7.out.2.2.1.cell (i:=4) rfl
     have x5:=H7.out.2.2.1.cell (i:=5) rfl
     have x6:=H7.out.2.2.1.cell (i:=6) rfl
     go_wp2_with fail
     clear x0 x1 x2 x3 x4 x5 x6
     have ga:=au (ah w8 none) (.cells #[.string s',.int .i64 cl,.int .i64 sq,.slice a1' n1' c1',.bool g,.slice nM pV c2',.slice a3' pW c3'] 34)
     have Jo:iJ w8 w8.heap.size (some ⟨X,0,none⟩) [(⟨some ⟨vW,0,none⟩,32,32,sp'⟩,uN l (1+(y:Int)) (bQ sp'))]:=xL H7.out.2.2.2.2.1 (fun x hx=>by obtain rfl:=List.mem_singleton.1 hx;exact H7.out.2.2.2.2.2.at)
     refine (HM.out _ X w8.heap.size (⟨some ⟨vW,0,none⟩,32,32,sp'⟩,uN l (1+(y:Int)) (bQ sp')) (⟨s',a1',n1',c1',nM,pV,c2',a3',pW,c3'⟩,jh l r0) (aj H7.out.1 ga) (iJ.stay Jo ga |>.rH) (HRC.out _ _ (aF.new w8 [.string s',.int .i64 cl,.int .i64 sq,.slice a1' n1' c1',.bool g,.slice nM pV c2',.slice a3' pW c3'] 34)) (H7.out.2.2.2.1.stay ga).full).mono ?_
     rintro e w9 ⟨he,hg⟩
     have H8:=Lib.hid (And.intro (aj H7.out.1 (aj ga hg)) (And.intro (H7.out.2.1.grown (aj ga hg) (by simp)) (H7.out.2.2.2.2.1.grown (aj ga hg) (by simp))))
     clear hg ga Jo H7
     by_cases hcy:1+(y:Int)=cl
     .obtain⟨ev,hev⟩:∃ev:Int,e=.returned (.int .i64 ev):=⟨_,he⟩
      clear he
      subst hev
      subst hcy
      have b9:=H8.out.2.1
      have z0:=H8.out.2.2.cell (i:=0) rfl
      have z1:=b9.cell (i:=1) rfl
      unfold iV at z1
      clear b9
      go_upto_region 17 with fail
      go_region
      go_wp2
      go_ret
      exact⟨rfl,aX H8.out.1⟩
     .have ho:=aac l r0 (1+(y:Int)) (bQ sp') HK.out.2.1 (by rw[gW];exact hp) (by omega) (by omega) (by rw[KI.out.1];exact hcy)
      have he':e=.returned (.int .i64 21):=he.trans (congrArg (fun z:Int=>Ending.returned (.int .i64 z)) ho)
      subst he'
      clear he ho
      have hq:((1+(y:Int))==cl)=false:=by simpa using hcy
      have b9:=H8.out.2.1
      have z0:=H8.out.2.2.cell (i:=0) rfl
      have z1:=b9.cell (i:=1) rfl
      unfold iV at z1
      clear b9
      go_upto_region 17 with fail
      go_region
      go_wp2
      go_ret
      exact⟨rfl,aX H8.out.1⟩
    .have he':e=.returned (.int .i64 2):=he.trans (congrArg (fun z:Int=>Ending.returned (.int .i64 z)) (HT2.out hp))
     subst he'
     clear he
     go_wp2_with fail
     refine (HRt.out _ X gl (iJ.stay jX.out.2.2.2.2.2.2.1 H5.out |>.rH)).mono ?_
     rw[HT3.out,decide_eq_false hp]
     rintro e w6 ⟨rfl,hg⟩
     have H6:=Lib.hid (aj jX.out.1 (aj H5.out hg));clear hg H5
     have j1:(sp'.size:Int)>64:=by omega
     go_wp2
     go_ret
     exact⟨rfl,H6.out⟩
  .have i9:¬(s.size:Int)>=(sp'.size:Int):=by omega
   have hb:=Ua s sp' hle
   have m0:=jX.out.2.1.cell (i:=0) rfl
   have x0:=jX.out.2.2.1.cell (i:=0) rfl
   have x1:=jX.out.2.2.1.cell (i:=1) rfl
   have x2:=jX.out.2.2.1.cell (i:=2) rfl
   have x3:=jX.out.2.2.1.cell (i:=3) rfl
   have x4:=jX.out.2.2.1.cell (i:=4) rfl
   have x5:=jX.out.2.2.1.cell (i:=5) rfl
   have x6:=jX.out.2.2.1.cell (i:=6) rfl
   go_wp2_with fail
   clear m0
   clear x0 x1 x2 x3 x4 x5 x6
   have ga:=au (ah Wg none) (.cells #[.string s',.int .i64 cl,.int .i64 sq,.slice a1' n1' c1',.bool g,.slice nM pV c2',.slice a3' pW c3'] 34)
   refine (HM.out _ X Wg.heap.size gl (⟨s',a1',n1',c1',nM,pV,c2',a3',pW,c3'⟩,jh l r0) (aj jX.out.1 ga) (iJ.stay jX.out.2.2.2.2.2.2.1 ga |>.rH) (HRC.out _ _ (aF.new Wg [.string s',.int .i64 cl,.int .i64 sq,.slice a1' n1' c1',.bool g,.slice nM pV c2',.slice a3' pW c3'] 34)) (jX.out.2.2.2.1.stay ga).full).mono ?_
   rintro e w5 ⟨he,hg⟩
   have H5:=Lib.hid (aj ga hg);clear hg ga
   by_cases hp:sp'.size<=64
   .have he':e=.returned (.int .i64 21):=he.trans (congrArg (fun z:Int=>Ending.returned (.int .i64 z)) (HT1.out false hb hp))
    subst he'
    clear he
    go_wp2_with fail
    refine (HRt.out _ X gl (iJ.stay jX.out.2.2.2.2.2.2.1 H5.out |>.rH)).mono ?_
    rw[HT3.out,decide_eq_true hp]
    rintro e w6 ⟨rfl,hg⟩
    have H6:=Lib.hid (aj H5.out hg);clear hg H5
    go_wp2_with fail
    refine (Ch c 8 _ (by decide) (by decide) HK.out.2.2.1 HK.out.2.2.2).mono ?_
    rintro e w7 ⟨y,hy,rfl,rfl⟩
    obtain⟨kg,bN,bS,hS,bX,hpb,hgr,hNX,hSX,XG,hgX,XH⟩:=jX.out
    have Nq:aF w6 X 26 [.int .i64 cl,.slice (some ⟨vW,0,none⟩) 32 32,.string sp']:=by have h:=bX.gn H6.out;rw[hgl]at h;exact h
    have y0:=Nq.cell (i:=0) rfl
    have f0:=Nq.free 0
    have q1:IntKind.i64.wrap (1+(y:Int))=1+(y:Int):=by simp[IntKind.wrap,IntKind.signed,IntKind.bits];omega
    have H7:Hid (w.grownBy (w6.setCell ⟨X,0,none⟩ (.int .i64 (1+(y:Int)))) none/\aF (w6.setCell ⟨X,0,none⟩ (.int .i64 (1+(y:Int)))) N 34 [.string s,iV cl,iV sq,.slice a1 n1 c1,.bool g,.slice a2 n2 c2,.slice a3 n3 c3]/\aF (w6.setCell ⟨X,0,none⟩ (.int .i64 (1+(y:Int)))) S 34 [.string s',.int .i64 cl,.int .i64 sq,.slice a1' n1' c1',.bool g,.slice nM pV c2',.slice a3' pW c3']/\lD (w6.setCell ⟨X,0,none⟩ (.int .i64 (1+(y:Int)))) BW ⟨s',a1',n1',c1',nM,pV,c2',a3',pW,c3'⟩ (jh l r0)/\aF (w6.setCell ⟨X,0,none⟩ (.int .i64 (1+(y:Int)))) X 26 [.int .i64 (1+(y:Int)),.slice (some ⟨vW,0,none⟩) 32 32,.string sp']/\PB (w6.setCell ⟨X,0,none⟩ (.int .i64 (1+(y:Int)))) (⟨some ⟨vW,0,none⟩,32,32,sp'⟩,uN l (1+(y:Int)) (bQ sp'))):=by
     have hk:=aj kg H6.out
     refine⟨aJ hk (p:=⟨X,0,none⟩) XH _,(bN.gn H6.out).other (a:=⟨X,0,none⟩) (show X≠N by omega) _,(bS.gn H6.out).other (a:=⟨X,0,none⟩) (show X≠S by omega) _,lD.kept (hS.stay H6.out) (aQ (ah w6 (some X)) 0 _) (fun x e=>by cases e;exact XG),Nq.set 0 _,?_⟩
     obtain⟨_,_,_,_,_,gb,h6,h7⟩:=hpb
     rw[hgl]at h6 h7
     obtain rfl:vW=gb:=by simpa using h6
     exact⟨rfl,rfl,rfl,gy _,qL _,vW,rfl,(h7.gn H6.out).other (a:=⟨X,0,none⟩) (show X≠vW by omega) _⟩
    clear kg bN bS hS bX hpb hgr hNX hSX XG hgX XH Nq HT1 HT2 HT3
    go_upto_region 16 with fail
    clear y0 f0
    generalize w6.setCell ⟨X,0,none⟩ (.int .i64 (1+(y:Int)))=w8 at *
    have x0:=H7.out.2.2.1.cell (i:=0) rfl
    have x1:=H7.out.2.2.1.cell (i:=1) rfl
    have x2:=H7.out.2.2.1.cell (i:=2) rfl
    have x3:=H7.out.2.2.1.cell (i:=3) rfl
    have x4:=H7.out.2.2.1.cell (i:=4) rfl
    have x5:=H7.out.2.2.1.cell (i:=5) rfl
    have x6:=H7.out.2.2.1.cell (i:=6) rfl
    go_wp2_with fail
    clear x0 x1 x2 x3 x4 x5 x6
    have ga:=au (ah w8 none) (.cells #[.string s',.int .i64 cl,.int .i64 sq,.slice a1' n1' c1',.bool g,.slice nM pV c2',.slice a3' pW c3'] 34)
    have Jo:iJ w8 w8.heap.size (some ⟨X,0,none⟩) [(⟨some ⟨vW,0,none⟩,32,32,sp'⟩,uN l (1+(y:Int)) (bQ sp'))]:=xL H7.out.2.2.2.2.1 (fun x hx=>by obtain rfl:=List.mem_singleton.1 hx;exact H7.out.2.2.2.2.2.at)
    refine (HM.out _ X w8.heap.size (⟨some ⟨vW,0,none⟩,32,32,sp'⟩,uN l (1+(y:Int)) (bQ sp')) (⟨s',a1',n1',c1',nM,pV,c2',a3',pW,c3'⟩,jh l r0) (aj H7.out.1 ga) (iJ.stay Jo ga |>.rH) (HRC.out _ _ (aF.new w8 [.string s',.int .i64 cl,.int .i64 sq,.slice a1' n1' c1',.bool g,.slice nM pV c2',.slice a3' pW c3'] 34)) (H7.out.2.2.2.1.stay ga).full).mono ?_
    rintro e w9 ⟨he,hg⟩
    have H8:=Lib.hid (And.intro (aj H7.out.1 (aj ga hg)) (And.intro (H7.out.2.1.grown (aj ga hg) (by simp)) (H7.out.2.2.2.2.1.grown (aj ga hg) (by simp))))
    clear hg ga Jo H7
    by_cases hcy:1+(y:Int)=cl
    .obtain⟨ev,hev⟩:∃ev:Int,e=.returned (.int .i64 ev):=⟨_,he⟩
     clear he
     subst hev
     subst hcy
     have b9:=H8.out.2.1
     have z0:=H8.out.2.2.cell (i:=0) rfl
     have z1:=b9.cell (i:=1) rfl
     unfold iV at z1
     clear b9
     go_upto_region 17 with fail
     go_region
     go_wp2
     go_ret
     exact⟨rfl,aX H8.out.1⟩
    .have ho:=aac l r0 (1+(y:Int)) (bQ sp') HK.out.2.1 (by rw[gW];exact hp) (by omega) (by omega) (by rw[KI.out.1];exact hcy)
     have he':e=.returned (.int .i64 21):=he.trans (congrArg (fun z:Int=>Ending.returned (.int .i64 z)) ho)
     subst he'
     clear he ho
     have hq:((1+(y:Int))==cl)=false:=by simpa using hcy
     have b9:=H8.out.2.1
     have z0:=H8.out.2.2.cell (i:=0) rfl
     have z1:=b9.cell (i:=1) rfl
     unfold iV at z1
     clear b9
     go_upto_region 17 with fail
     go_region
     go_wp2
     go_ret
     exact⟨rfl,aX H8.out.1⟩
   .have he':e=.returned (.int .i64 2):=he.trans (congrArg (fun z:Int=>Ending.returned (.int .i64 z)) (HT2.out hp))
    subst he'
    clear he
    go_wp2_with fail
    refine (HRt.out _ X gl (iJ.stay jX.out.2.2.2.2.2.2.1 H5.out |>.rH)).mono ?_
    rw[HT3.out,decide_eq_false hp]
    rintro e w6 ⟨rfl,hg⟩
    have H6:=Lib.hid (aj jX.out.1 (aj H5.out hg));clear hg H5
    have j1:(sp'.size:Int)>64:=by omega
    go_wp2
    go_ret
    exact⟨rfl,H6.out⟩
end Gr
end
section
open Go.ChangeShapes Go.WideShapes Go.ChangeAt Go.RowKit Go.Deep Go.Joins Ve
namespace Ve
theorem yK {H:Type} {enc:TypeId×Value->H} {W:World} {base n:Nat} {sp:Nat->Bool} {hd:Bool} {v:Value} {x:DataW H×List MemPlace} (h:DataW.trod enc Tryz.prog W base sp hd n 3 [v]=some x):∃k,v=iV k:=by
 obtain⟨k,hk,_⟩:=DataW.trod_int Tryz.underlying3 h
 exact⟨k,by simpa using hk⟩
theorem ade {W:World} {x:Addr} {v:Value} (h:W.cell? (x.add 0)=some v):∃b off,x=⟨b,off,none⟩/\b<W.heap.size:=by
 obtain⟨b,off,spot⟩:=x
 have hspot:spot=none:=by simpa[Addr.add] using World.cell?_spot h
 subst hspot
 exact⟨b,off,rfl,by simpa[Addr.add] using block_lt_of_cell h⟩
theorem Jp {α:Type} (f:Nat->α) (n i:Nat) (z:α) (h:i<n):((List.range n).map f).getD i z=f i:=by
 rw[List.getD_eq_getElem?_getD,List.getElem?_map,List.getElem?_range h];rfl
theorem DX {H:Type} {enc:TypeId×Value->H} {W:World} {a:Option Addr} {len cap:Nat} {x:DataW H×List MemPlace} {fuel:Nat} (hf:DataW.trod enc Tryz.prog W 0 (fun _=>true) true fuel 32 [.slice a len cap]=some x):
  ∃l:List D,l.length=len/\len<9223372036854775808/\eT W W.heap.size a l:=by
 rcases open_slice_pairs Tryz.underlying32 Tryz.underlying59 (by kernel_rfl) rfl rfl (by kernel_rfl) (by kernel_rfl) hf with⟨hcs,_⟩ |⟨b,l,c,m,k,V0,V1,D0,D1,P0,P1,hcs,_,hl,hm,hmm,_,hall⟩
 .simp only[List.cons.injEq,Value.slice.injEq,and_true]at hcs
  obtain⟨rfl,rfl,rfl⟩:=hcs
  exact⟨[],rfl,by decide,Nat.le_refl _,Or.inl rfl⟩
 .simp only[List.cons.injEq,Value.slice.injEq,and_true]at hcs
  obtain⟨rfl,rfl,rfl⟩:=hcs
  simp only[if_true]at hmm
  subst hmm
  have each:∀i,i<len->∃q:D,V0 i=iV q.1/\V1 i=iV q.2:=fun i hi=>by
   obtain⟨_,_,t0,t1⟩:=hall i (by omega)
   obtain⟨x0,e0⟩:=yK t0
   obtain⟨x1,e1⟩:=yK t1
   exact⟨(x0,x1),e0,e1⟩
  obtain⟨q,hq⟩:=choose_lt each
  refine⟨(List.range len).map q,by simp,by unfold maxLen at hm;omega,Nat.le_refl _,?_⟩
  by_cases h0:len=0
  .left;simp[h0]
  .have c0:=(hall 0 (by omega)).1
   rw[Nat.zero_mul]at c0
   obtain⟨pb,po,rfl,hlt⟩:=ade c0
   refine Or.inr ⟨pb,po,rfl,hlt,fun i hi=>?_⟩
   simp only[List.length_map,List.length_range]at hi
   obtain⟨e0,e1,_⟩:=hall i (by omega)
   rw[Addr.add_lit]at e0 e1
   rw[Jp _ _ _ _ hi,<- (hq i hi).1,<- (hq i hi).2]
   exact⟨e0,by rw[Nat.add_assoc];exact e1⟩
end Ve
end
section
open Go.ChangeShapes Go.WideShapes Go.ChangeAt Go.RowKit Go.Deep Go.Joins Ow Ve
namespace Rc
theorem ZU {α:Type} {cs:Array α} (h:cs.size=7):∃c0 c1 c2 c3 c4 c5 c6,cs=#[c0,c1,c2,c3,c4,c5,c6]:=by
 obtain⟨l⟩:=cs
 match l,h with
 | [c0,c1,c2,c3,c4,c5,c6],_=>exact⟨c0,c1,c2,c3,c4,c5,c6,rfl⟩
theorem PZ {H:Type} {enc:TypeId×Value->H} {P:Program} {w:World} {base:Nat} {spare:Nat->Bool} {held:Bool} {r:Reach} {b0:Nat} {t:TypeId} {fs:Array Field} {v:Value} {d:DataW H} {p:List MemPlace} (hs:P.underlying t=some (.struct fs)) (hone:oneCellFields P fs=true) (hC:P.cellsOf t=7)
  (hv:Value.okWide P w r b0 t v) (h:DataW.Trod enc P w base spare held t v d p):
  ∃(cs:Array Value) (n:Nat),v=.agg cs/\cs.size=7/\∀(i:Nat) (f:Field),fs[i]?=some f->∀u,cs.toList[i]?=some u->∃y,DataW.trod enc P w base spare held n f.type [u]=some y:=by
 obtain⟨cs,rfl,hsz⟩:=okWide_struct hs hv
 obtain⟨fuel,hf⟩:=h
 obtain⟨xs,n,_,_,_,hlen,hx⟩:=DataW.trod_struct hs hf
 refine⟨cs,n,rfl,hsz.trans hC,fun i f hi u hu=>?_⟩
 have h1:=hx i f hi
 obtain⟨o,k⟩:=hone_of hone i f hi
 have hi2:i<xs.length:=by rw[hlen];exact (Array.getElem?_eq_some_iff.1 hi).1
 rw[List.getElem?_eq_getElem hi2]at h1
 refine⟨xs[i],?_⟩
 rw[<- h1,o,k]
 congr 1
 have hi3:i<cs.toList.length:=(List.getElem?_eq_some_iff.1 hu).1
 rw[show (Value.agg cs).cells.toList=cs.toList from rfl,List.drop_eq_getElem_cons hi3]
 rw[List.getElem?_eq_getElem hi3]at hu
 simp only[Option.some.injEq]at hu
 rw[hu];rfl
theorem qz {H:Type} {enc:TypeId×Value->H} {W:World} {n:Nat} {t e:TypeId} {v:Value} {y:DataW H×List MemPlace} (ht:Tryz.prog.underlying t=some (.slice e)) (h:DataW.trod enc Tryz.prog W 0 (fun _=>true) true n t [v]=some y):∃a l c,v=.slice a l c:=by
 rcases open_slice ht h with⟨hcs,_⟩ |⟨a,l,c,_,_,_,_,hcs,_⟩
 .exact⟨none,0,0,by simpa using hcs⟩
 .exact⟨some a,l,c,by simpa using hcs⟩
theorem q9 {H:Type} {enc:TypeId×Value->H} {W:World} {n len cap:Nat} {a:Option Addr} {y:DataW H×List MemPlace} (h:DataW.trod enc Tryz.prog W 0 (fun _=>true) true n 24 [.slice a len cap]=some y):∃p,p.length=len/\BytesAt W W.heap.size a cap p:=
 BR (d:=y.1) (ps:=y.2) ⟨n,h⟩
set_option maxRecDepth 100000 in
theorem Uk {H:Type} {enc:TypeId×Value->H} {W:World} {rr:Reach} {b0:Nat} {v:Value} {d:DataW H} {ps:List MemPlace} (hv:Value.okWide Tryz.prog W rr b0 34 v) (h:DataW.Trod enc Tryz.prog W 0 (fun _=>true) true 34 v d ps):
  ∃(q:L) (r:R),v=q.v r/\lD W W.heap.size q r:=by
 obtain⟨cs,n,rfl,hsz,hall⟩:=PZ Tryz.underlying34 (by kernel_rfl) (by kernel_rfl) hv h
 obtain⟨c0,c1,c2,c3,c4,c5,c6,rfl⟩:=ZU hsz
 obtain⟨y0,t0⟩:=hall 0 _ rfl c0 rfl
 obtain⟨y1,t1⟩:=hall 1 _ rfl c1 rfl
 obtain⟨y2,t2⟩:=hall 2 _ rfl c2 rfl
 obtain⟨y3,t3⟩:=hall 3 _ rfl c3 rfl
 obtain⟨y4,t4⟩:=hall 4 _ rfl c4 rfl
 obtain⟨y5,t5⟩:=hall 5 _ rfl c5 rfl
 obtain⟨y6,t6⟩:=hall 6 _ rfl c6 rfl
 obtain⟨s,e0,_,_⟩:=DataW.trod_string Tryz.underlying9 t0
 obtain⟨cl,rfl⟩:=yK t1
 obtain⟨sq,rfl⟩:=yK t2
 obtain⟨g,e4,_⟩:=DataW.trod_bool Tryz.underlying4 t4
 obtain rfl:c0=.string s:=by simpa using e0
 obtain rfl:c4=.bool g:=by simpa using e4
 obtain⟨a1,n1,k1,rfl⟩:=qz Tryz.underlying32 t3
 obtain⟨a2,n2,k2,rfl⟩:=qz Tryz.underlying24 t5
 obtain⟨a3,n3,k3,rfl⟩:=qz Tryz.underlying24 t6
 obtain⟨cx,hl1,hm,hd⟩:=DX t3
 obtain⟨val,hl2,hvb⟩:=q9 t5
 obtain⟨sig,hl3,hsb⟩:=q9 t6
 exact⟨⟨s,a1,n1,k1,a2,n2,k2,a3,n3,k3⟩,⟨bQ s,cl,sq,cx,g,val,sig⟩,rfl,rfl,hl1,hl2,hl3,hd,hvb,hsb,hm⟩
end Rc
end
section
open Go.ChangeShapes Go.WideShapes Go.ChangeAt Go.RowKit Go.Deep Go.Joins Ow Ve Rc
namespace Sb
theorem Jq {H:Type} {enc:TypeId×Value->H} {P:Program} {w:World} {base:Nat} {spare:Nat->Bool} {held:Bool} {t:TypeId} {fs:Array Field} {fuel:Nat} {cs:List Value} {x:DataW H×List MemPlace} (hs:P.underlying t=some (.struct fs)) (hone:oneCellFields P fs=true)
  (h:DataW.trod enc P w base spare held fuel t cs=some x):
  ∃(xs:List (DataW H×List MemPlace)) (n:Nat),x.1=.agg (xs.map (·.1))/\cs.length=P.cellsOf t/\∀(i:Nat) (f:Field),fs[i]?=some f->∀u,cs[i]?=some u->∃y,xs[i]?=some y/\DataW.trod enc P w base spare held n f.type [u]=some y:=by
 obtain⟨xs,n,_,rfl,hlen,hx0,hx⟩:=DataW.trod_struct hs h
 refine⟨xs,n,rfl,hlen,fun i f hi u hu=>?_⟩
 have h1:=hx i f hi
 obtain⟨o,k⟩:=hone_of hone i f hi
 have hi2:i<xs.length:=by rw[hx0];exact (Array.getElem?_eq_some_iff.1 hi).1
 rw[List.getElem?_eq_getElem hi2]at h1
 refine⟨xs[i],List.getElem?_eq_getElem hi2,?_⟩
 rw[<- h1,o,k]
 congr 1
 have hi3:i<cs.length:=(List.getElem?_eq_some_iff.1 hu).1
 rw[List.drop_eq_getElem_cons hi3]
 rw[List.getElem?_eq_getElem hi3]at hu
 simp only[Option.some.injEq]at hu
 rw[hu];rfl
theorem adf {α:Type} {cs:List α} (h:cs.length=7):∃c0 c1 c2 c3 c4 c5 c6,cs=[c0,c1,c2,c3,c4,c5,c6]:=by
 match cs,h with
 | [c0,c1,c2,c3,c4,c5,c6],_=>exact⟨c0,c1,c2,c3,c4,c5,c6,rfl⟩
theorem Fj {H:Type} {enc:TypeId×Value->H} {P:Program} {w:World} {base:Nat} {spare:Nat->Bool} {held:Bool} {t e:TypeId} {fuel n c:Nat} {a:Option Addr} {y:DataW H×List MemPlace} (ht:P.underlying t=some (.slice e)) (he:1<=P.bytesOf e)
  (h:DataW.trod enc P w base spare held fuel t [.slice a n c]=some y) (hw:∀m∈y.1.weights P t,m<=reachBytes):n<=reachBytes:=by
 rcases open_slice ht h with⟨hcs,_⟩ |⟨b,l,c',m,k,D,Pl,hcs,_,_,_,_,hx,_⟩
 .simp only[List.cons.injEq,Value.slice.injEq,and_true]at hcs
  rw[hcs.2.1];exact Nat.zero_le _
 .simp only[List.cons.injEq,Value.slice.injEq,and_true]at hcs
  obtain⟨_,rfl,_⟩:=hcs
  rw[hx]at hw
  have:=hw _ (by simp only[DataW.weights,ht];exact List.mem_cons_self ..)
  simp only[List.length_map,List.length_range]at this
  have h2:(n+(m-n))*1<=(n+(m-n))*P.bytesOf e:=Nat.mul_le_mul_left _ he
  omega
set_option maxRecDepth 100000 in
theorem Ul {H:Type} {enc:TypeId×Value->H} {W:World} {fuel:Nat} {cs:List Value} {x:DataW H×List MemPlace} (h:DataW.trod enc Tryz.prog W 0 (fun _=>true) true fuel 34 cs=some x) (hw:∀m∈x.1.weights Tryz.prog 34,m<=reachBytes):
  ∃e:E,cs=recC e/\lD W W.heap.size e.1 e.2/\Fits e:=by
 obtain⟨xs,n,hx,hlen,hall⟩:=Jq Tryz.underlying34 (by kernel_rfl) h
 obtain⟨c0,c1,c2,c3,c4,c5,c6,rfl⟩:=adf (hlen.trans (by kernel_rfl))
 obtain⟨y0,s0,t0⟩:=hall 0 _ rfl c0 rfl
 obtain⟨y1,s1,t1⟩:=hall 1 _ rfl c1 rfl
 obtain⟨y2,s2,t2⟩:=hall 2 _ rfl c2 rfl
 obtain⟨y3,s3,t3⟩:=hall 3 _ rfl c3 rfl
 obtain⟨y4,s4,t4⟩:=hall 4 _ rfl c4 rfl
 obtain⟨y5,s5,t5⟩:=hall 5 _ rfl c5 rfl
 obtain⟨y6,s6,t6⟩:=hall 6 _ rfl c6 rfl
 rw[hx]at hw
 simp only[DataW.weights,Tryz.underlying34]at hw
 have at_:∀(j:Nat) (y:DataW H×List MemPlace) (t:TypeId),xs[j]?=some y->(_:List TypeId)[j]?=some t->∀m∈y.1.weights Tryz.prog t,m<=reachBytes:=fun j y t hj ht m hm=>hw m (DataW.weights_mem_each ht (by rw[List.getElem?_map,hj];rfl) m hm)
 have w0:=at_ 0 y0 _ s0 rfl
 have w3:=at_ 3 y3 _ s3 rfl
 have w5:=at_ 5 y5 _ s5 rfl
 have w6:=at_ 6 y6 _ s6 rfl
 clear at_ hw
 obtain⟨s,e0,hy0,_⟩:=DataW.trod_string Tryz.underlying9 t0
 obtain⟨cl,rfl⟩:=yK t1
 obtain⟨sq,rfl⟩:=yK t2
 obtain⟨g,e4,_⟩:=DataW.trod_bool Tryz.underlying4 t4
 obtain rfl:c0=.string s:=by simpa using e0
 obtain rfl:c4=.bool g:=by simpa using e4
 obtain⟨a1,n1,k1,rfl⟩:=qz Tryz.underlying32 t3
 obtain⟨a2,n2,k2,rfl⟩:=qz Tryz.underlying24 t5
 obtain⟨a3,n3,k3,rfl⟩:=qz Tryz.underlying24 t6
 obtain⟨cx,hl1,hm,hd⟩:=DX t3
 obtain⟨val,hl2,hvb⟩:=q9 t5
 obtain⟨sig,hl3,hsb⟩:=q9 t6
 have q1:=Fj Tryz.underlying32 (of_decide_eq_true (by kernel_rfl)) t3 w3
 have q2:=Fj Tryz.underlying24 (of_decide_eq_true (by kernel_rfl)) t5 w5
 have q3:=Fj Tryz.underlying24 (of_decide_eq_true (by kernel_rfl)) t6 w6
 have q0:s.size<=reachBytes:=by
  rw[hy0]at w0
  have:=w0 _ (by simp only[DataW.weights];exact List.mem_cons_self ..)
  simpa using this
 have hR:=reachBytes_lt
 exact⟨(⟨s,a1,n1,k1,a2,n2,k2,a3,n3,k3⟩,⟨bQ s,cl,sq,cx,g,val,sig⟩),rfl,⟨rfl,hl1,hl2,hl3,hd,hvb,hsb,hm⟩,(by show n1<_;omega),(by show s.size+n2+n3<_;omega)⟩
end Sb
end
section
open Go.ChangeShapes Go.WideShapes Go.ChangeAt Go.RowKit Go.Deep Go.Joins Ow Ve Rc Sb
namespace Gr
set_option maxRecDepth 100000 in
theorem Um {H:Type} {enc:TypeId×Value->H} {W:World} {Q:L} {R:Rc.R} {d:DataW H} {ps:List MemPlace} (h:DataW.Trod enc Tryz.prog W 0 (fun _=>true) true 34 (Q.v R) d ps) (hw:∀m∈d.weights Tryz.prog 34,m<=reachBytes):Fits (Q,R):=by
 obtain⟨fuel,hf⟩:=h
 have hf:DataW.trod enc Tryz.prog W 0 (fun _=>true) true fuel 34 (recC (Q,R))=some (d,ps):=hf
 obtain⟨e,he,_,hfit⟩:=Ul hf hw
 obtain⟨⟨s,a1,n1,c1,a2,n2,c2,a3,n3,c3⟩,⟨key,cl,sq,cx,g,val,sig⟩⟩:=e
 obtain⟨s',a1',n1',c1',nM,pV,c2',a3',pW,c3'⟩:=Q
 obtain⟨key',cl',sq',cx',g',val',ahB⟩:=R
 have h7:s'=s/\n1'=n1/\pV=n2/\pW=n3:=by
  simp only[recC,L.cells,tO,List.cons.injEq,Value.slice.injEq,Value.string.injEq]at he
  exact⟨he.1,he.2.2.2.1.2.1,he.2.2.2.2.2.1.2.1,he.2.2.2.2.2.2.1.2.1⟩
 obtain⟨rfl,rfl,rfl,rfl⟩:=h7
 exact hfit
end Gr
end
section
open Go.RowKit Ow Wi Ve Rc Ed Sb
namespace Gr
theorem Un (n cap:Nat) (a:Option Addr) (l:List Nat) (r:R) (s:ByteArray) (c:Int) (w:World) (q:L) (hO:ko w) (hT:dH w) (hS:Tables w) (hn:l.length=n) (hP:BytesAt w w.heap.size a cap l) (h:lD w w.heap.size q r) (hf:Fits (q,r)) (hc1: -9223372036854775808<=c) (hc2:c<=9223372036854775807):
  Calls Tryz.prog 4 #[.slice a n cap,q.v r,.string s,.int .i64 c] w fun e w'=>e=.returned (.bool true)/\w.grownBy w' none:=by
 by_cases hz:n=32/\eP r=true
 .obtain⟨rfl,hz⟩:=hz
  exact WS cap _ _ a l r s c w q hO hT hS hn hP h hf hz hc1 hc2
 .exact Uj n cap _ a l r s c w q hO hT hS hn h hf hz
end Gr
end
section
open Go.ChangeShapes Go.WideShapes Go.ChangeAt Go.RowKit Ow Ed
def XI:List Int:=[9007199254740916,9007199254740988,9007199254740988,9007199254740988,9007199254740988]
def XJ:List Int:=[1718705420411056,234908883556509,2233514472574048,2117202627021982,765476049583133]
def XK:List Int:=[929955233495203,466365720129213,1662059464998953,2033849074728123,1442794654840575]
def Ci:List Int:=[1738742601995546,1146398526822698,2070867633025821,562264141797630,587772402128613]
def Cj:List Int:=[1801439850948184,1351079888211148,450359962737049,900719925474099,1801439850948198]
def Ck:List Int:=[1,0,0,0,0]
def Cm:List Int:=[1841354044333475,16398895984059,755974180946558,900171276175154,1821297809914039]
def XL:List Int:=[6346243789798364141,1503914060200516822,0,1152921504606846976]
def Cn:DataW Unit:=.agg [Lib.tabData .u64 Ci,Lib.tabData .u64 Cj,Lib.tabData .u64 Ck,Lib.tabData .u64 Cm]
theorem WT:[("buttress/field.fourTimesP",Rows.laid_buttress_field_fourTimesP),("buttress/field.rootOfMinusOne",Rows.laid_buttress_field_rootOfMinusOne),("buttress/edwards.d",Rows.laid_buttress_edwards_d),("buttress/edwards.base",Rows.laid_buttress_edwards_base)]=
  [("buttress/field.fourTimesP",Lib.tabData (H:=Unit) .u64 XI),("buttress/field.rootOfMinusOne",Lib.tabData .u64 XJ),("buttress/edwards.d",Lib.tabData .u64 XK),("buttress/edwards.base",Cn)]:=by kernel_rfl
theorem LC:Rows.laid_buttress_scalar_order=Lib.tabData (H:=Unit) .u64 XL:=by kernel_rfl
theorem P5 {P:Program} {W:World} {name:String} {d:DataW Unit} {rest:List (String×DataW Unit)} {g:Nat} {t:TypeId} (hg:P.globalNamed name=some g) (hty:(P.globals[g]?).map (·.type)=some t) (h:laidMet P ((name,d):: rest) W):
  ∃(enc:TypeId×Value->Unit) (base:Nat) (sp:Nat->Bool) (held:Bool) (cs:Array Value) (fuel:Nat) (p:List MemPlace),W.var? P name=some cs/\DataW.trod enc P W base sp held fuel t cs.toList=some (d,p):=by
 obtain⟨ps,⟨g',t',cs,fuel,p,q,hg',ht',hvar,hd,_,_⟩,_⟩:=h
 obtain rfl:=Option.some.inj (hg.symm.trans hg')
 obtain rfl:=Option.some.inj (hty.symm.trans ht')
 exact⟨_,_,_,_,_,fuel,p,hvar,by simpa using hd⟩
theorem oN:Tryz.prog.cellsOf 66=5:=by kernel_rfl
theorem uI:Tryz.prog.cellsOf 64=1:=by kernel_rfl
theorem Uo:Tryz.prog.cellsOf 68=20:=by kernel_rfl
theorem WU {cs a b c e:List Value} (hl:cs.length=20) (h0:(cs.drop 0).take 5=a) (h1:(cs.drop 5).take 5=b) (h2:(cs.drop 10).take 5=c) (h3:(cs.drop 15).take 5=e):cs=a++b++c++e:=by
 subst h0 h1 h2 h3
 have e3:(cs.drop 15).take 5=cs.drop 15:=List.take_of_length_le (by rw[List.length_drop];omega)
 rw[e3,List.drop_zero,List.append_assoc,List.append_assoc]
 have k2:=List.take_append_drop 5 (cs.drop 10)
 rw[List.drop_drop]at k2
 have k1:=List.take_append_drop 5 (cs.drop 5)
 rw[List.drop_drop]at k1
 have k0:=List.take_append_drop 5 cs
 rw[k2,k1,k0]
theorem WV {enc:TypeId×Value->Unit} {W:World} {base fuel:Nat} {sp:Nat->Bool} {held:Bool} {cs:List Value} {p:List MemPlace} (h:DataW.trod enc Tryz.prog W base sp held fuel 68 cs=some (Cn,p)):
  cs=Ci.map (fun z=>Value.int .u64 z)++Cj.map (fun z=>Value.int .u64 z)++Ck.map (fun z=>Value.int .u64 z)++Cm.map (fun z=>Value.int .u64 z):=by
 cases fuel with
 | zero=>simp[DataW.trod]at h
 | succ fuel=>
  simp only[DataW.trod,Tryz.underlying68,Uo]at h
  split at h
  .rename_i hl
   obtain⟨xs,hm,hx⟩:=Option.map_eq_some_iff.1 h
   have hxs:xs.map (·.1)=[Lib.tabData .u64 Ci,Lib.tabData .u64 Cj,Lib.tabData .u64 Ck,Lib.tabData .u64 Cm]:=by
    have:=congrArg Prod.fst hx
    simpa[Cn] using this
   obtain⟨b0,e0,f0⟩:=Lib.mapM_at hm 0 _ rfl
   obtain⟨b1,e1,f1⟩:=Lib.mapM_at hm 1 _ rfl
   obtain⟨b2,e2,f2⟩:=Lib.mapM_at hm 2 _ rfl
   obtain⟨b3,e3,f3⟩:=Lib.mapM_at hm 3 _ rfl
   have g0:b0.1=Lib.tabData .u64 Ci:=by
    have:=congrArg (·[0]?) hxs
    simpa[List.getElem?_map,e0] using this
   have g1:b1.1=Lib.tabData .u64 Cj:=by
    have:=congrArg (·[1]?) hxs
    simpa[List.getElem?_map,e1] using this
   have g2:b2.1=Lib.tabData .u64 Ck:=by
    have:=congrArg (·[2]?) hxs
    simpa[List.getElem?_map,e2] using this
   have g3:b3.1=Lib.tabData .u64 Cm:=by
    have:=congrArg (·[3]?) hxs
    simpa[List.getElem?_map,e3] using this
   obtain⟨x0,y0⟩:=b0
   obtain⟨x1,y1⟩:=b1
   obtain⟨x2,y2⟩:=b2
   obtain⟨x3,y3⟩:=b3
   simp only[]at g0 g1 g2 g3
   subst g0 g1 g2 g3
   dsimp only at f0 f1 f2 f3
   have c0:=Lib.cells_of_tab Tryz.underlying66 Tryz.underlying64 uI oN f0
   have c1:=Lib.cells_of_tab Tryz.underlying66 Tryz.underlying64 uI oN f1
   have c2:=Lib.cells_of_tab Tryz.underlying66 Tryz.underlying64 uI oN f2
   have c3:=Lib.cells_of_tab Tryz.underlying66 Tryz.underlying64 uI oN f3
   rw[oN]at c0 c1 c2 c3
   exact WU hl c0 c1 c2 c3
  .cases h
theorem Jr {W:World} {name:String} {g:Nat} {cs L:List Value} (hg:Tryz.prog.globalNamed name=some g) (h:W.var? Tryz.prog name=some cs.toArray) (hL:cs=L):W.rangeAt g 0 L:=fun j v hv=>by
 have:=World.var?_cell hg h j
 subst hL
 rw[Nat.zero_add,this]
 simpa using hv
theorem tables {W:World} (h:laidMet Tryz.prog [("buttress/field.fourTimesP",Rows.laid_buttress_field_fourTimesP),("buttress/field.rootOfMinusOne",Rows.laid_buttress_field_rootOfMinusOne),("buttress/edwards.d",Rows.laid_buttress_edwards_d),("buttress/edwards.base",Rows.laid_buttress_edwards_base)] W):dH W:=by
 rw[WT]at h
 have g0:Tryz.prog.globalNamed "buttress/field.fourTimesP"=some 4:=by kernel_rfl
 have g1:Tryz.prog.globalNamed "buttress/field.rootOfMinusOne"=some 6:=by kernel_rfl
 have g2:Tryz.prog.globalNamed "buttress/edwards.d"=some 5:=by kernel_rfl
 have g3:Tryz.prog.globalNamed "buttress/edwards.base"=some 1:=by kernel_rfl
 have h0:=Lib.tabIs_of_head g0 (by kernel_rfl) Tryz.underlying66 Tryz.underlying64 (by kernel_rfl) (by kernel_rfl) h
 have h1:=Lib.tabIs_of_head g1 (by kernel_rfl) Tryz.underlying66 Tryz.underlying64 (by kernel_rfl) (by kernel_rfl) (fM h)
 have h2:=Lib.tabIs_of_head g2 (by kernel_rfl) Tryz.underlying66 Tryz.underlying64 (by kernel_rfl) (by kernel_rfl) (fM (fM h))
 obtain⟨_,_,_,_,cs,_,_,hvar,hd⟩:=P5 (t:=68) g3 (by kernel_rfl) (fM (fM (fM h)))
 have hp:∀i,i<5->W.cell? ⟨4,i,none⟩=some (.int .u64 (nV i)):=fun i hi=>by
  rw[h0.cell g0 i hi]
  obtain rfl|rfl|rfl|rfl|rfl:i=0\/i=1\/i=2\/i=3\/i=4:=by omega
  all_goals rfl
 have hq:∀i,i<5->W.cell? ⟨6,i,none⟩=some (.int .u64 (gq.at i)):=fun i hi=>by
  rw[h1.cell g1 i hi]
  obtain rfl|rfl|rfl|rfl|rfl:i=0\/i=1\/i=2\/i=3\/i=4:=by omega
  all_goals rfl
 have hr2:W.rangeAt 5 0 (aR dF):=Jr g2 h2 rfl
 have hr3:W.rangeAt 1 0 (aY fB):=Jr g3 (by rw[hvar,Array.toArray_toList]) (WV hd)
 have l0:=block_lt_of_cell (hp 0 (by decide))
 have l1:=block_lt_of_cell (hq 0 (by decide))
 have l2:=block_lt_of_cell (hr2 0 _ rfl)
 have l3:=block_lt_of_cell (hr3 0 _ rfl)
 simp only[]at l0 l1 l2 l3
 exact⟨⟨⟨l0,l1⟩,hp,hq⟩,l2,l3,hr2,hr3⟩
def putObj (l:List Int):Obj->Obj
 | .cells _ t frozen=>.cells (l.map (Value.int .u64)).toArray t frozen
 | o=>o
end
section
open Go.ChangeShapes Go.WideShapes Go.ChangeAt Go.RowKit Ow Ed
def Uq:List Int:=bH.K.map fun (n:Nat)=>(n:Int)
def Ur:List Int:=bH.H0.map fun (n:Nat)=>(n:Int)
theorem WW:Rows.laid_buttress_sha_squareRoots=Lib.tabData (H:=Unit) .u64 Ur:=by kernel_rfl
theorem WX:Rows.laid_buttress_sha_cubeRoots=Lib.tabData (H:=Unit) .u64 Uq:=by kernel_rfl
theorem Us {W:World} (h:laidMet Tryz.prog [("buttress/scalar.order",Rows.laid_buttress_scalar_order),("buttress/sha.squareRoots",Rows.laid_buttress_sha_squareRoots),("buttress/sha.cubeRoots",Rows.laid_buttress_sha_cubeRoots),("buttress/field.fourTimesP",Rows.laid_buttress_field_fourTimesP),("buttress/field.rootOfMinusOne",Rows.laid_buttress_field_rootOfMinusOne),("buttress/edwards.d",Rows.laid_buttress_edwards_d),("buttress/edwards.base",Rows.laid_buttress_edwards_base)] W):ko W/\dH W/\Tables W:=by
 refine⟨?_,tables (fM (fM (fM h))),?_⟩
 .rw[LC]at h
  have g0:Tryz.prog.globalNamed "buttress/scalar.order"=some 3:=by kernel_rfl
  have h0:=Lib.tabIs_of_head g0 (by kernel_rfl) Tryz.underlying102 Tryz.underlying64 (by kernel_rfl) (by kernel_rfl) h
  have hp:∀i,i<4->W.cell? ⟨3,i,none⟩=some (jB (Sc.lw i)):=fun i hi=>by
   rw[h0.cell g0 i hi]
   obtain rfl|rfl|rfl|rfl:i=0\/i=1\/i=2\/i=3:=by omega
   all_goals rfl
  exact⟨block_lt_of_cell (hp 0 (by decide)),hp⟩
 .have k:=fM h
  rw[WW,WX]at k
  have g0:Tryz.prog.globalNamed "buttress/sha.squareRoots"=some 0:=by kernel_rfl
  have g1:Tryz.prog.globalNamed "buttress/sha.cubeRoots"=some 2:=by kernel_rfl
  have h0:=Lib.tabIs_of_head g0 (by kernel_rfl) Tryz.underlying112 Tryz.underlying64 (by kernel_rfl) (by kernel_rfl) k
  have h1:=Lib.tabIs_of_head g1 (by kernel_rfl) Tryz.underlying187 Tryz.underlying64 (by kernel_rfl) (by kernel_rfl) (fM k)
  have Js:∀(l:List Nat) (i:Nat),(l.map fun (n:Nat)=>(n:Int)).getD i 0=((l.getD i 0:Nat):Int):=fun l i=>by
   rw[List.getD_eq_getElem?_getD,List.getD_eq_getElem?_getD,List.getElem?_map]
   cases l[i]?<;>rfl
  refine⟨fun t ht=>?_,fun t ht=>?_⟩
  .rw[h1.cell g1 t ht];unfold Uq;rw[Js];rfl
  .rw[h0.cell g0 t ht];unfold Ur;rw[Js];rfl
noncomputable def Fp (os:Os):World:=
 {World.holding Tryz.prog os ⟨#[],#[],[]⟩ with heap:=(((((((World.holding Tryz.prog os ⟨#[],#[],[]⟩).heap.modify 4 (putObj XI)).modify 6 (putObj XJ)).modify 5 (putObj XK)).modify 1 (putObj (Ci++Cj++Ck++Cm))).modify 3 (putObj XL)).modify 0 (putObj Ur)).modify 2 (putObj Uq)}
end
end Go.Proofs.YtjgnjhgdmdmebaaGreatDoor
