/- texts merged -/
import Derived.Test.YtmijliomjpphkaaGreatDoorRbM1
import Derived.Defers
import Derived.Recover
import Derived.LaidEqlPtr
import Derived.Deep.Cut
import Derived.Deep.RegionWith
import Derived.Test.YtmijliomjpphkaaGreatDoorRbM2
import Derived.Outline
import Derived.Shelf.Bytes.SlEqualAll
import Derived.Test.YtmijliomjpphkaaGreatDoorRbM6
import Derived.WalkKit
import Derived.Lib.Hide
import Derived.WalkSpells
import Derived.WalkLawsBesides
import Derived.BigQuiet
import Derived.Deep.QuietTactic
import Derived.Lib.SlBytesConst
import Derived.Laws.IdiomStrings
import Derived.Deep.CutBlock
import Derived.Test.YtmijliomjpphkaaGreatDoorRbM3
import Derived.Test.YtmijliomjpphkaaGreatDoorRbM4
import Derived.Test.YtmijliomjpphkaaGreatDoorCards
import Derived.Test.YtmijliomjpphkaaGreatDoorTie
import Derived.Test.YtmijliomjpphkaaGreatDoorRbM5
import Derived.Test.YtmijliomjpphkaaGreatDoorChecked
import Derived.ProofKit
import Derived.OpenShut
import Derived.Deep.SlicePairs
import Derived.Deep.Slices
import Derived.Lib.SmallJoins
import Derived.SizedLaws
import Derived.ChangeArms
namespace Go.Proofs.YtmijliomjpphkaaGreatDoor
section
open Go.RowKit Ow Wi
def Fv (e:Ending):Prop:=∃u pv,e=.panicked [{v:=.iface u pv,recovered:=false}]
theorem Jq (w:World):Calls Tryz.prog 85 #[.bool true] w fun e w'=>e=.returned (.tuple #[])/\w'=w:=by
 go_enter Tryz.func85,Tryz.ntmps85
 go_wp2
 go_end0
 exact⟨rfl,rfl⟩
theorem Fw (w:World):Calls Tryz.prog 85 #[.bool false] w fun e w'=>Fv e/\w'=w:=by
 go_enter Tryz.func85,Tryz.ntmps85
 go_wp2
 exact⟨rfl,⟨_,_,rfl⟩,rfl⟩
set_option maxRecDepth 100000 in
theorem Qb (a:Option Addr) (n cap lo:Nat) (h:lo<=n):
  ∃a',(∀w,(Instr.slice 80 (.slice a n cap) (some (.int .i64 (lo:Int))) none none).run Tryz.prog w=.ok (.slice a' (n-lo) (cap-lo)) w)/\(lo<cap->∀pb po,a=some ⟨pb,po,none⟩->a'=some ⟨pb,po+lo,none⟩):=by
 obtain⟨j,hj,hs⟩:∃j,Tryz.prog.info? (Tryz.prog.elem 80)=some j/\j.size=1:=by
  have h1:(Tryz.prog.info? (Tryz.prog.elem 80)).map (·.size)=some 1:=by kernel_rfl
  cases hq:Tryz.prog.info? (Tryz.prog.elem 80) with
  | none=>rw[hq]at h1;cases h1
  | some j=>rw[hq]at h1;exact⟨j,rfl,by simpa using h1⟩
 refine⟨if cap=lo then a else a.map (·.add lo),fun w=>?_,?_⟩
 .rw[run_slice_l w 80 a n cap Tryz.underlying80 .i64 _ (by omega) (by omega),Int.toNat_natCast]
  simp[sizeOf,typeInfo,hj,hs,sliced]
 .intro hlt pb po e
  rw[if_neg (by omega),e]
  simp[Addr.add]
set_option maxRecDepth 100000 in
theorem Xt (a:Option Addr) (n cap k:Nat) (h:k<=cap):
  ∃a',(∀w,(Instr.slice 80 (.slice a n cap) none (some (.int .i64 (k:Int))) none).run Tryz.prog w=.ok (.slice a' k cap) w)/\(∀pb po,a=some ⟨pb,po,none⟩->a'=some ⟨pb,po,none⟩):=by
 obtain⟨j,hj,hs⟩:∃j,Tryz.prog.info? (Tryz.prog.elem 80)=some j/\j.size=1:=by
  have h1:(Tryz.prog.info? (Tryz.prog.elem 80)).map (·.size)=some 1:=by kernel_rfl
  cases hq:Tryz.prog.info? (Tryz.prog.elem 80) with
  | none=>rw[hq]at h1;cases h1
  | some j=>rw[hq]at h1;exact⟨j,rfl,by simpa using h1⟩
 refine⟨if cap=0 then a else a.map (·.add 0),fun w=>?_,fun pb po e=>?_⟩
 .rw[run_slice_h w 80 a n cap Tryz.underlying80 .i64 _ (by omega) (by omega),Int.toNat_natCast]
  simp[sizeOf,typeInfo,hj,hs,sliced]
 .subst e
  split
  .rfl
  .simp[Addr.add]
theorem Uu (rb k n cap:Nat) (a:Option Addr) (g:Value) (w:World) (hb:aH w rb 82 [.slice a n cap,g]) (hk:k<=n) (hn:n<=cap):
  Calls Tryz.prog 82 #[.pointer (some ⟨rb,0,none⟩),.int .i64 k] w fun e w'=>∃a1 a2,e=.returned (.slice a1 k cap)/\w'=w.setCell ⟨rb,0,none⟩ (.slice a2 (n-k) (cap-k))/\
   (∀pb po,a=some ⟨pb,po,none⟩->a1=some ⟨pb,po,none⟩)/\(k<cap->∀pb po,a=some ⟨pb,po,none⟩->a2=some ⟨pb,po+k,none⟩):=by
 obtain⟨a1,h1,e1⟩:=Xt a n cap k (by omega)
 obtain⟨a2,h2,e2⟩:=Qb a n cap k hk
 have c0:=hb.cell (i:=0) rfl
 have f0:=hb.free 0
 have hle:((k:Int)<=(n:Int)):=by omega
 go_enter Tryz.func82,Tryz.ntmps82
 go_wp2_with (fail)
 refine (Jq w).mono ?_
 rintro e w' ⟨rfl,rfl⟩
 go_wp2
 go_ret
 exact⟨a1,a2,rfl,rfl,e1,e2⟩
theorem Xu (rb k n cap:Nat) (a:Option Addr) (g:Value) (w:World) (hb:aH w rb 82 [.slice a n cap,g]) (hk:n<k):
  Calls Tryz.prog 82 #[.pointer (some ⟨rb,0,none⟩),.int .i64 k] w fun e w'=>Fv e/\w'=w:=by
 have c0:=hb.cell (i:=0) rfl
 have hle:¬((k:Int)<=(n:Int)):=by omega
 go_enter Tryz.func82,Tryz.ntmps82
 go_wp2_with (fail)
 refine (Fw w).mono ?_
 rintro e w' ⟨⟨u,pv,rfl⟩,rfl⟩
 exact⟨rfl,⟨u,pv,rfl⟩,rfl⟩
end
section
open Go.RowKit Ow Wi
def kF (w:World) (rb:Nat) (a:Option Addr) (cap:Nat) (l:List Nat):Prop:=BytesAt w w.heap.size a cap l/\(l.length=0\/∀pb po,a=some ⟨pb,po,none⟩->pb<rb)
theorem kF.stay {w w':World} {rb cap:Nat} {a:Option Addr} {l:List Nat} (h:kF w rb a cap l) (hg:w.grownBy w' (some rb)):kF w' rb a cap l:=
 ⟨(h.1.apart hg (h.2.imp id fun f pb po e=>Nat.ne_of_lt (f pb po e))).full,h.2⟩
theorem kF.beside {w w':World} {rb cap T:Nat} {a:Option Addr} {l:List Nat} (h:kF w rb a cap l) (hg:w.grownBy w' (some T)) (hT:rb<T):kF w' rb a cap l:=
 ⟨(h.1.apart hg (h.2.imp id fun f pb po e=>by have:=f pb po e;omega)).full,h.2⟩
def qc (w:World) (rb:Nat) (g:Value) (l:List Nat):Prop:=
 ∃a n cap,aH w rb 82 [.slice a n cap,g]/\l.length=n/\kF w rb a cap l
theorem qc.stay {w w':World} {rb:Nat} {g:Value} {l:List Nat} (h:qc w rb g l) (hg:w.grownBy w' none):qc w' rb g l:=by
 obtain⟨a,n,cap,hb,hl,hP⟩:=h
 exact⟨a,n,cap,hb.grown hg (by simp),hl,hP.stay (dB hg _)⟩
theorem qc.beside {w w':World} {rb T:Nat} {g:Value} {l:List Nat} (h:qc w rb g l) (hg:w.grownBy w' (some T)) (hT:rb<T):qc w' rb g l:=by
 obtain⟨a,n,cap,hb,hl,hP⟩:=h
 exact⟨a,n,cap,hb.grown hg (by simp;omega),hl,hP.beside hg hT⟩
theorem NA (rb:Nat) (g:Value) (l:List Nat) (k:Nat) (w:World) (h:qc w rb g l) (hk:k<=l.length):
  Calls Tryz.prog 82 #[.pointer (some ⟨rb,0,none⟩),.int .i64 k] w fun e w'=>∃a1 c1,e=.returned (.slice a1 k c1)/\w.grownBy w' (some rb)/\qc w' rb g (l.drop k)/\kF w' rb a1 c1 (l.take k):=by
 obtain⟨a,n,cap,hb,hl,hP,hne⟩:=h
 have hf:=hP.fits
 refine (Uu rb k n cap a g w hb (by omega) (by omega)).mono ?_
 rintro e w' ⟨a1,a2,rfl,rfl,e1,e2⟩
 have hg:w.grownBy (w.setCell ⟨rb,0,none⟩ (.slice a2 (n-k) (cap-k))) (some rb):=aJ (ah _ _) _ _
 refine⟨a1,cap,rfl,hg,⟨a2,n-k,cap-k,hb.set 0 _,by rw[List.length_drop];omega,kF.stay ⟨zV hP e2,?_⟩ hg⟩,kF.stay ⟨zX hP e1,?_⟩ hg⟩
 .rcases hP.cells with h0 |⟨pb,po,ha,_,_⟩
  .left;rw[List.length_drop];omega
  .rcases hne with h0|hne
   .left;rw[List.length_drop];omega
   .rcases Nat.lt_or_ge k cap with h|h
    .right
     intro pb' po' hq
     rw[e2 h pb po ha]at hq
     cases hq
     exact hne pb po ha
    .left;rw[List.length_drop];omega
 .rcases hP.cells with h0 |⟨pb,po,ha,_,_⟩
  .left;rw[List.length_take];omega
  .rcases hne with h0|hne
   .left;rw[List.length_take];omega
   .right
    intro pb' po' hq
    rw[e1 pb po ha]at hq
    cases hq
    exact hne pb po ha
theorem Jr (rb:Nat) (g:Value) (l:List Nat) (k:Nat) (w:World) (h:qc w rb g l) (hk:l.length<k):
  Calls Tryz.prog 82 #[.pointer (some ⟨rb,0,none⟩),.int .i64 k] w fun e w'=>Fv e/\w'=w:=by
 obtain⟨a,n,cap,hb,hl,hP,hne⟩:=h
 exact Xu rb k n cap a g w hb (by omega)
theorem aee (l:List Nat) (k:Nat) (h:∀i,l.getD i 0<256) (hk:k<=7):wN (l.take k)<72057594037927936:=by
 have h1:=Mc (l.take k) (fun b hb=>by
  obtain⟨i,hi,rfl⟩:=List.getElem_of_mem (List.mem_of_mem_take hb)
  have:=h i
  rwa [List.getD_eq_getElem?_getD,List.getElem?_eq_getElem hi]at this)
 have h2:256^(l.take k).length<=256^7:=Nat.pow_le_pow_right (by decide) (by rw[List.length_take];omega)
 have h3:(256:Nat)^7=72057594037927936:=by decide
 omega
theorem Xv (l:List Nat) (k:Nat) (hk:k<l.length):wN (l.take (k+1))=wN (l.take k)*256+l.getD k 0:=by
 rw[List.take_succ_eq_append_getElem hk,NS,List.getD_eq_getElem?_getD,List.getElem?_eq_getElem hk]
 rfl
theorem Xw (n b:Nat) (hn:n<72057594037927936) (hb:b<256):bits .or .u64 ((n:Int)*256) (b:Int)=((n*256+b:Nat):Int):=by
 have e1:(n:Int)*256=((2^8*n:Nat):Int):=by omega
 rw[e1,u64_or_nat _ _ (by omega) (by omega),<- Nat.two_pow_add_eq_or_of_lt (by omega)]
 omega
set_option maxHeartbeats 800000 in
theorem BQ (rb:Nat) (g:Value) (l:List Nat) (k:Nat) (w:World) (h:qc w rb g l) (hk:k<=l.length) (h8:k<=8):
  Calls Tryz.prog 50 #[.pointer (some ⟨rb,0,none⟩),.int .i64 k] w fun e w'=>e=.returned (.int .u64 (wN (l.take k)))/\w.grownBy w' (some rb)/\qc w' rb g (l.drop k):=by
 have HT:=Lib.hid (NA rb g l k w h hk)
 clear h
 go_enter Tryz.func50,Tryz.ntmps50
 go_wp2_with (fail)
 refine HT.out.mono ?_
 rintro e w1 ⟨a1,c1,rfl,hg,hr,hP,_⟩
 have hlen:(l.take k).length=k:=by rw[List.length_take];omega
 have hfit:=hP.fits
 have htop:=hP.top
 rw[hlen]at hfit
 have H:=Lib.hid (And.intro hg hr);clear hg hr
 have HP:=Lib.hid hP;clear hP
 go_wp2
 go_loopw [5,14] (fun v i wr=>∃j q:Nat,j<=k/\i=.int .i64 j/\v=.int .u64 (wN (l.take j))/\wr=w1.drewN q) (fun _ i _=>k-(intOf i).toNat)
 case atStart=>exact⟨0,0,by omega,rfl,rfl,rfl⟩
 case round=>
  obtain⟨j,q,hj,rfl,rfl,rfl⟩:=hrel
  by_cases hlt:j<k
  .obtain⟨pb,po,rfl,_,hc⟩:=HP.out.cells.resolve_left (by rw[hlen];omega)
   have k1:=hc j (by rw[hlen];exact hlt)
   rw[getD_take _ _ _ hlt]at k1
   unfold dD at k1
   clear hc
   have i0:(j:Int)<(k:Int):=by omega
   have hb:(l.take k).getD j 0<256:=HP.out.byte j
   rw[getD_take _ _ _ hlt]at hb
   have hw:wN (l.take j)<72057594037927936:=by
    have:=aee (l.take k) j HP.out.byte (by omega)
    rwa [List.take_take,Nat.min_eq_left (by omega)]at this
   have HB:=Lib.hid (Xw _ _ hw hb)
   have HN:=Lib.hid (Xv l j (by omega))
   generalize wN (l.take j)=n at *
   generalize l.getD j 0=b at *
   have akg:=HB.out
   go_wp2_with fail
   exact⟨⟨j+1,q,by omega,rfl,by rw[HN.out,Int.natCast_add,Int.natCast_mul];rfl,rfl⟩,by show k-((j:Int)+1).toNat<k-(j:Int).toNat;omega⟩
  .obtain rfl:j=k:=by omega
   clear hlt
   go_wp2
   go_ret
   exact⟨rfl,iM H.out.1 q,H.out.2.stay (iM (ah _ _) q)⟩
theorem NC (rb:Nat) (g:Value) (l:List Nat) (k:Nat) (w:World) (h:qc w rb g l) (hk:l.length<k):
  Calls Tryz.prog 50 #[.pointer (some ⟨rb,0,none⟩),.int .i64 k] w fun e w'=>Fv e/\w'=w:=by
 have HT:=Lib.hid (Jr rb g l k w h hk)
 clear h
 go_enter Tryz.func50,Tryz.ntmps50
 go_wp2_with (fail)
 refine HT.out.mono ?_
 rintro e w' ⟨⟨u,pv,rfl⟩,rfl⟩
 exact⟨rfl,⟨u,pv,rfl⟩,rfl⟩
theorem BR (m:Nat) (h:m<18446744073709551616):IntKind.i64.wrap (m:Int)=lu m:=by
 rw[IntKind.wrap_i64]
 unfold lu
 split<;>omega
theorem ND (l:List Nat) (h:∀i,l.getD i 0<256) (k:Nat) (hk:k<=8):wN (l.take k)<18446744073709551616:=by
 have h1:=Mc (l.take k) (fun b hb=>by
  obtain⟨i,hi,rfl⟩:=List.getElem_of_mem (List.mem_of_mem_take hb)
  have:=h i
  rwa [List.getD_eq_getElem?_getD,List.getElem?_eq_getElem hi]at this)
 have h2:256^(l.take k).length<=256^8:=Nat.pow_le_pow_right (by decide) (by rw[List.length_take];omega)
 have h3:(256:Nat)^8=18446744073709551616:=by decide
 omega
theorem qc.byte {w:World} {rb:Nat} {g:Value} {l:List Nat} (h:qc w rb g l):∀i,l.getD i 0<256:=by
 obtain⟨_,_,_,_,_,hP,_⟩:=h
 exact hP.byte
theorem yw (rb:Nat) (g:Value) (l:List Nat) (most:Int) (w:World) (h:qc w rb g l) (hk:8<=l.length) (h0:0<=lu (wN (l.take 8))) (h1:lu (wN (l.take 8))<=most):
  Calls Tryz.prog 55 #[.pointer (some ⟨rb,0,none⟩),.int .i64 most] w fun e w'=>e=.returned (.int .i64 (lu (wN (l.take 8))))/\w.grownBy w' (some rb)/\qc w' rb g (l.drop 8):=by
 have HT:=Lib.hid (BQ rb g l 8 w h hk (by decide))
 have hc:=BR _ (ND l h.byte 8 (by decide))
 clear h
 go_enter Tryz.func55,Tryz.ntmps55
 go_wp2_with (fail)
 refine HT.out.mono ?_
 rintro e w1 ⟨rfl,hg,hr⟩
 have H:=Lib.hid (And.intro hg hr);clear hg hr
 obtain⟨t,ht⟩:∃t,t=lu (wN (l.take 8)):=⟨_,rfl⟩
 rw[<- ht]at h0 h1 hc
 have PV:=Lib.hid ht;clear ht
 go_wp2_with (fail)
 refine (Jq w1).mono ?_
 rintro e w' ⟨rfl,rfl⟩
 go_wp2
 go_ret
 exact⟨congrArg (fun z=>Ending.returned (.int .i64 z)) PV.out,H.out⟩
theorem Js (rb:Nat) (g:Value) (l:List Nat) (most:Int) (w:World) (h:qc w rb g l) (hn:¬(8<=l.length/\0<=lu (wN (l.take 8))/\lu (wN (l.take 8))<=most)):
  Calls Tryz.prog 55 #[.pointer (some ⟨rb,0,none⟩),.int .i64 most] w fun e w'=>Fv e/\w.grownBy w' (some rb)/\∃l',qc w' rb g l':=by
 by_cases h8:8<=l.length
 .have HT:=Lib.hid (BQ rb g l 8 w h h8 (by decide))
  have hc:=BR _ (ND l h.byte 8 (by decide))
  clear h
  have hn':0<=lu (wN (l.take 8))->¬lu (wN (l.take 8))<=most:=fun a b=>hn ⟨h8,a,b⟩
  clear hn
  go_enter Tryz.func55,Tryz.ntmps55
  go_wp2_with (fail)
  refine HT.out.mono ?_
  rintro e w1 ⟨rfl,hg,hr⟩
  have H:=Lib.hid (And.intro hg hr);clear hg hr
  generalize lu (wN (l.take 8))=t at *
  generalize wN (l.take 8)=m at *
  by_cases h0:0<=t
  .have h1:=hn' h0
   clear hn'
   go_wp2_with (fail)
   rw[decide_eq_false (show ¬t<=most by omega)]
   refine (Fw w1).mono ?_
   rintro e w' ⟨⟨u,pv,rfl⟩,rfl⟩
   exact⟨rfl,⟨u,pv,rfl⟩,H.out.1,_,H.out.2⟩
  .clear hn'
   go_wp2_with (fail)
   refine (Fw w1).mono ?_
   rintro e w' ⟨⟨u,pv,rfl⟩,rfl⟩
   exact⟨rfl,⟨u,pv,rfl⟩,H.out.1,_,H.out.2⟩
 .have HT:=Lib.hid (NC rb g l 8 w h (by omega))
  have HH:=Lib.hid h
  clear h hn
  go_enter Tryz.func55,Tryz.ntmps55
  go_wp2_with (fail)
  refine HT.out.mono ?_
  rintro e w' ⟨⟨u,pv,rfl⟩,rfl⟩
  exact⟨rfl,⟨u,pv,rfl⟩,ah _ _,_,HH.out⟩
end
section
open Go.RowKit Ow Wi
def gP (rb:Nat):Value:=.pointer (some ⟨rb,0,none⟩)
theorem Qc (a:Addr) (w:World):(binOp .eql 62 (.pointer (some a)) (.pointer (some a))).run Tryz.prog w=.ok (.bool true) w:=by
 obtain⟨j,hj⟩:∃j,Tryz.prog.info? 82=some j:=by
  have h1:(Tryz.prog.info? 82).isSome=true:=by kernel_rfl
  exact Option.isSome_iff_exists.1 h1
 exact run_eql_ptr_same w a Tryz.underlying62 hj
theorem Qd (a:Addr) (w:World):(binOp .eql 62 (.pointer none) (.pointer (some a))).run Tryz.prog w=.ok (.bool false) w:=by
 have h:∀d:Nat,(Op.equalIn (d+1) 62 (.pointer none) (.pointer (some a))).run Tryz.prog w=.ok false w:=fun d=>by
  simp[Op.equalIn,run_underlying Tryz.underlying62]
 simp only[binOp]
 simp[Op.equal,Op.maxDepth,h 9999]
theorem nT (rb:Nat) (s:Value) (w:World) (hb:aH w rb 82 [s,gP rb]):
  Calls Tryz.prog 80 #[.pointer (some ⟨rb,0,none⟩)] w fun e w'=>e=.returned (.bool true)/\w'=w:=by
 have c1:=hb.cell (i:=1) rfl
 unfold gP at c1
 have he:=Qc ⟨rb,0,none⟩ w
 go_enter Tryz.func80,Tryz.ntmps80
 go_wp2
 go_ret
 exact⟨rfl,rfl⟩
theorem BS (rb:Nat) (s:Value) (w:World) (hb:aH w rb 82 [s,.pointer none]):
  Calls Tryz.prog 80 #[.pointer (some ⟨rb,0,none⟩)] w fun e w'=>e=.returned (.bool false)/\w'=w:=by
 have c1:=hb.cell (i:=1) rfl
 have he:=Qd ⟨rb,0,none⟩ w
 go_enter Tryz.func80,Tryz.ntmps80
 go_wp2
 go_ret
 exact⟨rfl,rfl⟩
def Jt (w:World) (rb:Nat):Prop:=aH w rb 82 [.slice none 0 0,.pointer none]
end
section
open Go.RowKit Ow Wi
theorem uR:∀(fn:Fn) (first cap:Array Value) (w:World),(Instr.makeFunc fn first cap).run Tryz.prog w=.ok (.func fn first cap) w:=fun _ _ _ _=>rfl
theorem Xx (p:Addr) (rb:Nat) (s g:Value) (u:TypeId) (pv:Value) (older:List PanicEntry) (w:World) (hp:w.cell? p=some (.pointer (some ⟨rb,0,none⟩))) (hb:aH w rb 82 [s,g]):
  CallsD Tryz.prog 81 #[.pointer (some p)] (.panicking ({v:=.iface u pv,recovered:=false}:: older)) w fun e u' w'=>
   e=.returned (.tuple #[])/\u'=.panicking ({v:=.iface u pv,recovered:=true}:: older)/\w.grownBy w' (some rb)/\Jt w' rb:=by
 have c0:=hb.cell (i:=0) rfl
 have c1:=hb.cell (i:=1) rfl
 have f0:=hb.free 0
 have f1:=hb.free 1
 refine callsD_of_wpS Tryz.func81 rfl fun c₀ cs hu=>?_
 apply wpS_seq
 apply wpS_region
 simp[wpOpsS,go_sem,recoverD,hu,Tryz.ntmps81,Exit.thenS]
 refine wpS_cond (t:=true) (by simp[Act.eval,Array.replicate]) ?_
 simp only[if_true]
 refine wpS_of_wp ?_
 go_wp2
 exact⟨rfl,_,rfl,.tuple #[],results_none rfl _ _ _,rfl,rfl,aJ (aJ (ah _ _) 0 _) 1 _,(hb.set 0 _).set 1 _⟩
theorem aef (p:Addr) (w:World):
  CallsD Tryz.prog 81 #[.pointer (some p)] .returning w fun e u' w'=>e=.returned (.tuple #[])/\u'=.returning/\w'=w:=by
 refine callsD_of_wpS Tryz.func81 rfl fun c₀ cs hu=>?_
 apply wpS_seq
 apply wpS_region
 simp[wpOpsS,go_sem,recoverD,hu,Tryz.ntmps81,Exit.thenS]
 refine wpS_cond (t:=false) (by simp[Act.eval,Array.replicate]) ?_
 simp only[Bool.false_eq_true,if_false]
 refine wpS_of_wp (wp_skip ?_)
 cases c₀
 simp_all[bodyPostS,results,Tryz.results81]
theorem Uv (p:Option Addr) (n:Int) (f:Value) (w:World) (hg:∀w1,w.grownBy w1 none->Calls Tryz.prog 80 #[.pointer p] w1 fun e w'=>e=.returned (.bool false)/\w'=w1):
  Calls Tryz.prog 49 #[.pointer p,f,.int .i64 n] w fun e w'=>e=.returned (.int .u64 0)/\w.grownBy w' none:=by
 have HG:=Lib.hid (hg _ (av (ah w none) (.cells #[.pointer p] 62)));clear hg
 go_enter_defers Tryz.func49,Tryz.ntmps49
 go_wp2_with (fail)
 refine HG.out.mono ?_
 rintro e w' ⟨rfl,rfl⟩
 go_wp2
 simp[bodyPostD,Leaves,results,Tryz.results49,go_sem]
 exact av (ah w none) _
theorem Uw (rb:Nat) (n:Int) (s:Value) (w:World) (Q:Value->World->Prop) (hb:aH w rb 82 [s,gP rb])
  (hin:Calls Tryz.prog 50 #[.pointer (some ⟨rb,0,none⟩),.int .i64 n] (w.alloc (.cells #[.pointer (some ⟨rb,0,none⟩)] 62)) fun e w'=>∃x,e=.returned x/\Q x w'):
  Calls Tryz.prog 49 #[.pointer (some ⟨rb,0,none⟩),.func (.func 50) #[.pointer (some ⟨rb,0,none⟩)] #[],.int .i64 n] w fun e w'=>∃x,e=.returned x/\Q x w':=by
 have HG:=Lib.hid (nT rb s _ (hb.alloc (.cells #[.pointer (some ⟨rb,0,none⟩)] 62)))
 have HI:=Lib.hid hin;clear hin hb
 have UW:=uR
 go_enter_defers Tryz.func49,Tryz.ntmps49
 go_wp2_with (fail)
 refine HG.out.mono ?_
 rintro e w' ⟨rfl,rfl⟩
 go_wp2_with (fail)
 refine HI.out.mono ?_
 rintro e w2 ⟨x,rfl,hq⟩
 have HQ:=Lib.hid hq;clear hq
 go_wp2_with (fail)
 refine leaves_cons (f:=81) (args:=#[.pointer (some ⟨w.heap.size,0,none⟩)]) (by simp) (by simp[go_sem]) ?_
 refine (aef _ _).mono ?_
 rintro e u' w'' ⟨rfl,rfl,rfl⟩
 simp[Leaves,settle,results,Tryz.results49,go_sem]
 exact HQ.out
theorem Xy (rb:Nat) (n:Int) (s:Value) (w:World) (hb:aH w rb 82 [s,gP rb])
  (hin:Calls Tryz.prog 50 #[.pointer (some ⟨rb,0,none⟩),.int .i64 n] (w.alloc (.cells #[.pointer (some ⟨rb,0,none⟩)] 62)) fun e w'=>Fv e/\(w.alloc (.cells #[.pointer (some ⟨rb,0,none⟩)] 62)).grownBy w' (some rb)/\∃l,qc w' rb (gP rb) l):
  Calls Tryz.prog 49 #[.pointer (some ⟨rb,0,none⟩),.func (.func 50) #[.pointer (some ⟨rb,0,none⟩)] #[],.int .i64 n] w fun e w'=>e=.returned (.int .u64 0)/\w.grownBy w' (some rb)/\Jt w' rb:=by
 have HG:=Lib.hid (nT rb s _ (hb.alloc (.cells #[.pointer (some ⟨rb,0,none⟩)] 62)))
 have HL:=Lib.hid hb.lt
 have HI:=Lib.hid hin;clear hin hb
 have UW:=uR
 go_enter_defers Tryz.func49,Tryz.ntmps49
 go_wp2_with (fail)
 refine HG.out.mono ?_
 rintro e w' ⟨rfl,rfl⟩
 go_wp2_with (fail)
 refine HI.out.mono ?_
 rintro e w2 ⟨⟨u,pv,rfl⟩,hg,l,a,m,cap,hb2,_⟩
 have hlt:=HL.out
 have CJ:w2.cell? ⟨w.heap.size,0,none⟩=some (.pointer (some ⟨rb,0,none⟩)):=((aH.new w [.pointer (some ⟨rb,0,none⟩)] 62).grown hg (by intro h;cases h;omega)).cell (i:=0) rfl
 have HQ:=Lib.hid hg;clear hg
 refine leaves_cons (f:=81) (args:=#[.pointer (some ⟨w.heap.size,0,none⟩)]) (by simp) (by simp[go_sem]) ?_
 refine (Xx ⟨w.heap.size,0,none⟩ rb _ _ u pv [] w2 CJ hb2).mono ?_
 rintro e u' w'' ⟨rfl,rfl,hg3,hn⟩
 simp[Leaves,settle,results,Tryz.results49,go_sem]
 exact⟨aj (aj (av (ah w _) _) HQ.out) hg3,hn⟩
theorem Xz (p:Addr) (rb:Nat) (s g:Value) (u:TypeId) (pv:Value) (older:List PanicEntry) (w:World) (hp:w.cell? p=some (.pointer (some ⟨rb,0,none⟩))) (hb:aH w rb 82 [s,g]):
  CallsD Tryz.prog 83 #[.pointer (some p)] (.panicking ({v:=.iface u pv,recovered:=false}:: older)) w fun e u' w'=>
   e=.returned (.tuple #[])/\u'=.panicking ({v:=.iface u pv,recovered:=true}:: older)/\w.grownBy w' (some rb)/\Jt w' rb:=by
 have c0:=hb.cell (i:=0) rfl
 have c1:=hb.cell (i:=1) rfl
 have f0:=hb.free 0
 have f1:=hb.free 1
 refine callsD_of_wpS Tryz.func83 rfl fun c₀ cs hu=>?_
 apply wpS_seq
 apply wpS_region
 simp[wpOpsS,go_sem,recoverD,hu,Tryz.ntmps83,Exit.thenS]
 refine wpS_cond (t:=true) (by simp[Act.eval,Array.replicate]) ?_
 simp only[if_true]
 refine wpS_of_wp ?_
 go_wp2
 exact⟨rfl,_,rfl,.tuple #[],results_none rfl _ _ _,rfl,rfl,aJ (aJ (ah _ _) 0 _) 1 _,(hb.set 0 _).set 1 _⟩
theorem idleB (p:Addr) (w:World):
  CallsD Tryz.prog 83 #[.pointer (some p)] .returning w fun e u' w'=>e=.returned (.tuple #[])/\u'=.returning/\w'=w:=by
 refine callsD_of_wpS Tryz.func83 rfl fun c₀ cs hu=>?_
 apply wpS_seq
 apply wpS_region
 simp[wpOpsS,go_sem,recoverD,hu,Tryz.ntmps83,Exit.thenS]
 refine wpS_cond (t:=false) (by simp[Act.eval,Array.replicate]) ?_
 simp only[Bool.false_eq_true,if_false]
 refine wpS_of_wp (wp_skip ?_)
 cases c₀
 simp_all[bodyPostS,results,Tryz.results83]
theorem Ux (p:Option Addr) (n:Int) (f:Value) (w:World) (hg:∀w1,w.grownBy w1 none->Calls Tryz.prog 80 #[.pointer p] w1 fun e w'=>e=.returned (.bool false)/\w'=w1):
  Calls Tryz.prog 51 #[.pointer p,f,.int .i64 n] w fun e w'=>e=.returned (.slice none 0 0)/\w.grownBy w' none:=by
 have HG:=Lib.hid (hg _ (av (ah w none) (.cells #[.pointer p] 62)));clear hg
 go_enter_defers Tryz.func51,Tryz.ntmps51
 go_wp2_with (fail)
 refine HG.out.mono ?_
 rintro e w' ⟨rfl,rfl⟩
 go_wp2
 simp[bodyPostD,Leaves,results,Tryz.results51,go_sem]
 exact av (ah w none) _
theorem Uy (rb:Nat) (n:Int) (s:Value) (w:World) (Q:Value->World->Prop) (hb:aH w rb 82 [s,gP rb])
  (hin:Calls Tryz.prog 52 #[.pointer (some ⟨rb,0,none⟩),.int .i64 n] (w.alloc (.cells #[.pointer (some ⟨rb,0,none⟩)] 62)) fun e w'=>∃x,e=.returned x/\Q x w'):
  Calls Tryz.prog 51 #[.pointer (some ⟨rb,0,none⟩),.func (.func 52) #[.pointer (some ⟨rb,0,none⟩)] #[],.int .i64 n] w fun e w'=>∃x,e=.returned x/\Q x w':=by
 have HG:=Lib.hid (nT rb s _ (hb.alloc (.cells #[.pointer (some ⟨rb,0,none⟩)] 62)))
 have HI:=Lib.hid hin;clear hin hb
 have UW:=uR
 go_enter_defers Tryz.func51,Tryz.ntmps51
 go_wp2_with (fail)
 refine HG.out.mono ?_
 rintro e w' ⟨rfl,rfl⟩
 go_wp2_with (fail)
 refine HI.out.mono ?_
 rintro e w2 ⟨x,rfl,hq⟩
 have HQ:=Lib.hid hq;clear hq
 go_wp2_with (fail)
 refine leaves_cons (f:=83) (args:=#[.pointer (some ⟨w.heap.size,0,none⟩)]) (by simp) (by simp[go_sem]) ?_
 refine (idleB _ _).mono ?_
 rintro e u' w'' ⟨rfl,rfl,rfl⟩
 simp[Leaves,settle,results,Tryz.results51,go_sem]
 exact HQ.out
theorem XA (rb:Nat) (n:Int) (s:Value) (w:World) (hb:aH w rb 82 [s,gP rb])
  (hin:Calls Tryz.prog 52 #[.pointer (some ⟨rb,0,none⟩),.int .i64 n] (w.alloc (.cells #[.pointer (some ⟨rb,0,none⟩)] 62)) fun e w'=>Fv e/\(w.alloc (.cells #[.pointer (some ⟨rb,0,none⟩)] 62)).grownBy w' (some rb)/\∃l,qc w' rb (gP rb) l):
  Calls Tryz.prog 51 #[.pointer (some ⟨rb,0,none⟩),.func (.func 52) #[.pointer (some ⟨rb,0,none⟩)] #[],.int .i64 n] w fun e w'=>e=.returned (.slice none 0 0)/\w.grownBy w' (some rb)/\Jt w' rb:=by
 have HG:=Lib.hid (nT rb s _ (hb.alloc (.cells #[.pointer (some ⟨rb,0,none⟩)] 62)))
 have HL:=Lib.hid hb.lt
 have HI:=Lib.hid hin;clear hin hb
 have UW:=uR
 go_enter_defers Tryz.func51,Tryz.ntmps51
 go_wp2_with (fail)
 refine HG.out.mono ?_
 rintro e w' ⟨rfl,rfl⟩
 go_wp2_with (fail)
 refine HI.out.mono ?_
 rintro e w2 ⟨⟨u,pv,rfl⟩,hg,l,a,m,cap,hb2,_⟩
 have hlt:=HL.out
 have CJ:w2.cell? ⟨w.heap.size,0,none⟩=some (.pointer (some ⟨rb,0,none⟩)):=((aH.new w [.pointer (some ⟨rb,0,none⟩)] 62).grown hg (by intro h;cases h;omega)).cell (i:=0) rfl
 have HQ:=Lib.hid hg;clear hg
 refine leaves_cons (f:=83) (args:=#[.pointer (some ⟨w.heap.size,0,none⟩)]) (by simp) (by simp[go_sem]) ?_
 refine (Xz ⟨w.heap.size,0,none⟩ rb _ _ u pv [] w2 CJ hb2).mono ?_
 rintro e u' w'' ⟨rfl,rfl,hg3,hn⟩
 simp[Leaves,settle,results,Tryz.results51,go_sem]
 exact⟨aj (aj (av (ah w _) _) HQ.out) hg3,hn⟩
theorem XB (p:Addr) (rb:Nat) (s g:Value) (u:TypeId) (pv:Value) (older:List PanicEntry) (w:World) (hp:w.cell? p=some (.pointer (some ⟨rb,0,none⟩))) (hb:aH w rb 82 [s,g]):
  CallsD Tryz.prog 84 #[.pointer (some p)] (.panicking ({v:=.iface u pv,recovered:=false}:: older)) w fun e u' w'=>
   e=.returned (.tuple #[])/\u'=.panicking ({v:=.iface u pv,recovered:=true}:: older)/\w.grownBy w' (some rb)/\Jt w' rb:=by
 have c0:=hb.cell (i:=0) rfl
 have c1:=hb.cell (i:=1) rfl
 have f0:=hb.free 0
 have f1:=hb.free 1
 refine callsD_of_wpS Tryz.func84 rfl fun c₀ cs hu=>?_
 apply wpS_seq
 apply wpS_region
 simp[wpOpsS,go_sem,recoverD,hu,Tryz.ntmps84,Exit.thenS]
 refine wpS_cond (t:=true) (by simp[Act.eval,Array.replicate]) ?_
 simp only[if_true]
 refine wpS_of_wp ?_
 go_wp2
 exact⟨rfl,_,rfl,.tuple #[],results_none rfl _ _ _,rfl,rfl,aJ (aJ (ah _ _) 0 _) 1 _,(hb.set 0 _).set 1 _⟩
theorem aeg (p:Addr) (w:World):
  CallsD Tryz.prog 84 #[.pointer (some p)] .returning w fun e u' w'=>e=.returned (.tuple #[])/\u'=.returning/\w'=w:=by
 refine callsD_of_wpS Tryz.func84 rfl fun c₀ cs hu=>?_
 apply wpS_seq
 apply wpS_region
 simp[wpOpsS,go_sem,recoverD,hu,Tryz.ntmps84,Exit.thenS]
 refine wpS_cond (t:=false) (by simp[Act.eval,Array.replicate]) ?_
 simp only[Bool.false_eq_true,if_false]
 refine wpS_of_wp (wp_skip ?_)
 cases c₀
 simp_all[bodyPostS,results,Tryz.results84]
theorem Uz (p:Option Addr) (n:Int) (f:Value) (w:World) (hg:∀w1,w.grownBy w1 none->Calls Tryz.prog 80 #[.pointer p] w1 fun e w'=>e=.returned (.bool false)/\w'=w1):
  Calls Tryz.prog 54 #[.pointer p,f,.int .i64 n] w fun e w'=>e=.returned (.int .i64 0)/\w.grownBy w' none:=by
 have HG:=Lib.hid (hg _ (av (ah w none) (.cells #[.pointer p] 62)));clear hg
 go_enter_defers Tryz.func54,Tryz.ntmps54
 go_wp2_with (fail)
 refine HG.out.mono ?_
 rintro e w' ⟨rfl,rfl⟩
 go_wp2
 simp[bodyPostD,Leaves,results,Tryz.results54,go_sem]
 exact av (ah w none) _
theorem UA (rb:Nat) (n:Int) (s:Value) (w:World) (Q:Value->World->Prop) (hb:aH w rb 82 [s,gP rb])
  (hin:Calls Tryz.prog 55 #[.pointer (some ⟨rb,0,none⟩),.int .i64 n] (w.alloc (.cells #[.pointer (some ⟨rb,0,none⟩)] 62)) fun e w'=>∃x,e=.returned x/\Q x w'):
  Calls Tryz.prog 54 #[.pointer (some ⟨rb,0,none⟩),.func (.func 55) #[.pointer (some ⟨rb,0,none⟩)] #[],.int .i64 n] w fun e w'=>∃x,e=.returned x/\Q x w':=by
 have HG:=Lib.hid (nT rb s _ (hb.alloc (.cells #[.pointer (some ⟨rb,0,none⟩)] 62)))
 have HI:=Lib.hid hin;clear hin hb
 have UW:=uR
 go_enter_defers Tryz.func54,Tryz.ntmps54
 go_wp2_with (fail)
 refine HG.out.mono ?_
 rintro e w' ⟨rfl,rfl⟩
 go_wp2_with (fail)
 refine HI.out.mono ?_
 rintro e w2 ⟨x,rfl,hq⟩
 have HQ:=Lib.hid hq;clear hq
 go_wp2_with (fail)
 refine leaves_cons (f:=84) (args:=#[.pointer (some ⟨w.heap.size,0,none⟩)]) (by simp) (by simp[go_sem]) ?_
 refine (aeg _ _).mono ?_
 rintro e u' w'' ⟨rfl,rfl,rfl⟩
 simp[Leaves,settle,results,Tryz.results54,go_sem]
 exact HQ.out
theorem XC (rb:Nat) (n:Int) (s:Value) (w:World) (hb:aH w rb 82 [s,gP rb])
  (hin:Calls Tryz.prog 55 #[.pointer (some ⟨rb,0,none⟩),.int .i64 n] (w.alloc (.cells #[.pointer (some ⟨rb,0,none⟩)] 62)) fun e w'=>Fv e/\(w.alloc (.cells #[.pointer (some ⟨rb,0,none⟩)] 62)).grownBy w' (some rb)/\∃l,qc w' rb (gP rb) l):
  Calls Tryz.prog 54 #[.pointer (some ⟨rb,0,none⟩),.func (.func 55) #[.pointer (some ⟨rb,0,none⟩)] #[],.int .i64 n] w fun e w'=>e=.returned (.int .i64 0)/\w.grownBy w' (some rb)/\Jt w' rb:=by
 have HG:=Lib.hid (nT rb s _ (hb.alloc (.cells #[.pointer (some ⟨rb,0,none⟩)] 62)))
 have HL:=Lib.hid hb.lt
 have HI:=Lib.hid hin;clear hin hb
 have UW:=uR
 go_enter_defers Tryz.func54,Tryz.ntmps54
 go_wp2_with (fail)
 refine HG.out.mono ?_
 rintro e w' ⟨rfl,rfl⟩
 go_wp2_with (fail)
 refine HI.out.mono ?_
 rintro e w2 ⟨⟨u,pv,rfl⟩,hg,l,a,m,cap,hb2,_⟩
 have hlt:=HL.out
 have CJ:w2.cell? ⟨w.heap.size,0,none⟩=some (.pointer (some ⟨rb,0,none⟩)):=((aH.new w [.pointer (some ⟨rb,0,none⟩)] 62).grown hg (by intro h;cases h;omega)).cell (i:=0) rfl
 have HQ:=Lib.hid hg;clear hg
 refine leaves_cons (f:=84) (args:=#[.pointer (some ⟨w.heap.size,0,none⟩)]) (by simp) (by simp[go_sem]) ?_
 refine (XB ⟨w.heap.size,0,none⟩ rb _ _ u pv [] w2 CJ hb2).mono ?_
 rintro e u' w'' ⟨rfl,rfl,hg3,hn⟩
 simp[Leaves,settle,results,Tryz.results54,go_sem]
 exact⟨aj (aj (av (ah w _) _) HQ.out) hg3,hn⟩
end
section
open Go.RowKit Ow Wi
def rV (w:World) (rb:Nat):St->Prop
 | none=>Jt w rb
 | some l=>qc w rb (gP rb) l
theorem Jt.stay {w w':World} {rb:Nat} (h:Jt w rb) (hg:w.grownBy w' none):Jt w' rb:=aH.grown h hg (by simp)
theorem rV.stay {w w':World} {rb:Nat} {st:St} (h:rV w rb st) (hg:w.grownBy w' none):rV w' rb st:=by
 cases st with
 | none=>exact Jt.stay h hg
 | some l=>exact qc.stay h hg
theorem rV.beside {w w':World} {rb T:Nat} {st:St} (h:rV w rb st) (hg:w.grownBy w' (some T)) (hT:rb<T):rV w' rb st:=by
 cases st with
 | none=>exact aH.grown h hg (by simp;omega)
 | some l=>exact qc.beside h hg hT
theorem rV.lt {w:World} {rb:Nat} {st:St} (h:rV w rb st):rb<w.heap.size:=by
 cases st with
 | none=>exact aH.lt h
 | some l=>obtain⟨_,_,_,hb,_⟩:=h;exact hb.lt
theorem Ju (rb k:Nat) (st:St) (w:World) (h:rV w rb st) (h8:k<=8):
  Calls Tryz.prog 49 #[.pointer (some ⟨rb,0,none⟩),.func (.func 50) #[.pointer (some ⟨rb,0,none⟩)] #[],.int .i64 k] w fun e w'=>e=.returned (.int .u64 ((tells 0 (iq k) st).1:Nat))/\w.grownBy w' (some rb)/\rV w' rb (tells 0 (iq k) st).2:=by
 cases st with
 | none=>
  refine (Uv _ k _ w fun w1 hg=>BS rb _ w1 (Jt.stay h hg)).mono ?_
  rintro e w' ⟨rfl,hg⟩
  exact⟨rfl,dB hg _,Jt.stay h hg⟩
 | some l=>
  obtain⟨a,n,cap,hb,_⟩:=id h
  have gz:=av (ah w none) (.cells #[.pointer (some ⟨rb,0,none⟩)] 62)
  by_cases hk:k<=l.length
  .have e1:tells 0 (iq k) (some l)=(wN (l.take k),some (l.drop k)):=by unfold tells iq;simp only[if_pos hk]
   rw[e1]
   refine (Uw rb k _ w (fun x w'=>x=.int .u64 (wN (l.take k):Nat)/\w.grownBy w' (some rb)/\qc w' rb (gP rb) (l.drop k)) hb ((BQ rb (gP rb) l k _ (qc.stay h gz) hk h8).mono ?_)).mono ?_
   .rintro e w' ⟨rfl,hg,hr⟩
    exact⟨_,rfl,rfl,aj (dB gz _) hg,hr⟩
   .rintro e w' ⟨x,rfl,rfl,hg,hr⟩
    exact⟨rfl,hg,hr⟩
  .have e1:tells 0 (iq k) (some l)=(0,none):=by unfold tells iq;simp only[if_neg hk]
   rw[e1]
   refine (Xy rb k _ w hb ((NC rb (gP rb) l k _ (qc.stay h gz) (by omega)).mono ?_)).mono ?_
   .rintro e w' ⟨hd,rfl⟩
    exact⟨hd,ah _ _,l,qc.stay h gz⟩
   .rintro e w' ⟨rfl,hg,hn⟩
    exact⟨rfl,hg,hn⟩
theorem UC (rb:Nat) (most:Int) (st:St) (w:World) (h:rV w rb st):
  Calls Tryz.prog 54 #[.pointer (some ⟨rb,0,none⟩),.func (.func 55) #[.pointer (some ⟨rb,0,none⟩)] #[],.int .i64 most] w fun e w'=>e=.returned (.int .i64 (iI most st).1)/\w.grownBy w' (some rb)/\rV w' rb (iI most st).2:=by
 unfold iI
 cases st with
 | none=>
  refine (Uz _ most _ w fun w1 hg=>BS rb _ w1 (Jt.stay h hg)).mono ?_
  rintro e w' ⟨rfl,hg⟩
  exact⟨rfl,dB hg _,Jt.stay h hg⟩
 | some l=>
  obtain⟨a,n,cap,hb,_⟩:=id h
  have gz:=av (ah w none) (.cells #[.pointer (some ⟨rb,0,none⟩)] 62)
  by_cases hk:8<=l.length/\0<=lu (wN (l.take 8))/\lu (wN (l.take 8))<=most
  .have e1:tells 0 (iT most) (some l)=(lu (wN (l.take 8)),some (l.drop 8)):=by unfold tells iT;simp only[if_pos hk]
   rw[e1]
   refine (UA rb most _ w (fun x w'=>x=.int .i64 (lu (wN (l.take 8)))/\w.grownBy w' (some rb)/\qc w' rb (gP rb) (l.drop 8)) hb ((yw rb (gP rb) l most _ (qc.stay h gz) hk.1 hk.2.1 hk.2.2).mono ?_)).mono ?_
   .rintro e w' ⟨rfl,hg,hr⟩
    exact⟨_,rfl,rfl,aj (dB gz _) hg,hr⟩
   .rintro e w' ⟨x,rfl,rfl,hg,hr⟩
    exact⟨rfl,hg,hr⟩
  .have e1:tells 0 (iT most) (some l)=(0,none):=by unfold tells iT;simp only[if_neg hk]
   rw[e1]
   refine (XC rb most _ w hb (Js rb (gP rb) l most _ (qc.stay h gz) hk)).mono ?_
   rintro e w' ⟨rfl,hg,hn⟩
   exact⟨rfl,hg,hn⟩
set_option maxRecDepth 100000 in
set_option maxHeartbeats 800000 in
theorem LP (rb:Nat) (l x r:List Nat) (most:Int) (w:World) (h:qc w rb (gP rb) l) (hl:l.length<=1000000) (hx:iN most l=some (x,r)):
  Calls Tryz.prog 52 #[.pointer (some ⟨rb,0,none⟩),.int .i64 most] w fun e w'=>∃v,e=.returned v/\w.grownBy w' (some rb)/\qc w' rb (gP rb) r/\w'.ownsRow w.heap.size 5 1 v x.length (x.map dD):=by
 unfold iN iT at hx
 by_cases hk:8<=l.length/\0<=lu (wN (l.take 8))/\lu (wN (l.take 8))<=most
 .simp only[if_pos hk]at hx
  by_cases hm:(lu (wN (l.take 8))).toNat<=(l.drop 8).length
  .rw[if_pos hm]at hx
   simp only[Option.some.injEq,Prod.mk.injEq]at hx
   obtain⟨rfl,rfl⟩:=hx
   have HC:=Lib.hid (yw rb (gP rb) l most w.drew (qc.stay h (aX (ah _ _))) hk.1 hk.2.1 hk.2.2)
   obtain⟨m,hmm⟩:∃m:Nat,lu (wN (l.take 8))=m:=⟨_,(Int.toNat_of_nonneg hk.2.1).symm⟩
   rw[hmm]at HC hm ⊢
   rw[Int.toNat_natCast]at hm ⊢
   have hm1:m<=1000000:=by rw[List.length_drop]at hm;omega
   have HL:=Lib.hid (And.intro hm hl)
   have HL2:Hid (((l.drop 8).take m).length=m):=by show ((l.drop 8).take m).length=m;rw[List.length_take];omega
   have HL3:Hid ([(l.drop 8).take m].flatten.length<=1000000):=by show [(l.drop 8).take m].flatten.length<=1000000;simp only[List.flatten_cons,List.flatten_nil,List.append_nil];rw[HL2.out];exact hm1
   clear h hk hmm hm hl
   go_enter Tryz.func52,Tryz.ntmps52
   go_upto_region 1 with (fail)
   go_region_with (first|(go_at_call 55;refine HC.out.mono ?_;rintro e w1 ⟨rfl,hg,hr⟩;have H1:=Lib.hid (And.intro hg hr);clear hg hr HC)|(go_at_call 82;refine (NA rb (gP rb) (l.drop 8) m _ H1.out.2 HL.out.1).mono ?_;rintro e w2 ⟨a1,c1,rfl,hg,hr,hP,hQ⟩;have H2:=Lib.hid (And.intro (aj H1.out.1 hg) (And.intro hr hP));clear hg hr hP hQ H1)|(go_at_call 18;refine (qp 1 1 _ [(l.drop 8).take m] _ _ rfl (X8 (HL2.out) H2.out.2.2) (by decide) HL3.out).mono ?_;rintro e w3 ⟨v,rfl,hg,ho⟩;have H3:=Lib.hid (And.intro hg ho);clear hg ho))
   all_goals go_wp2
   all_goals go_ret
   all_goals (
    obtain⟨hg,ho⟩:=H3.out
    simp only[List.flatten_cons,List.flatten_nil,List.append_nil]at ho
    have gz:=av (ah w2 none) (.cells #[.slice a1 m c1] 22)
    have g0:w.grownBy w.drew (some rb):=aX (ah _ _)
    exact⟨v,rfl,aj g0 (aj H2.out.1 (dB (aj gz hg) _)),H2.out.2.1.stay (aj gz hg),jv ho (Nat.le_trans (aj g0 H2.out.1).size gz.size)⟩)
  .rw[if_neg hm]at hx;cases hx
 .simp only[if_neg hk]at hx;cases hx
set_option maxRecDepth 100000 in
set_option maxHeartbeats 800000 in
theorem Qe (rb:Nat) (l:List Nat) (most:Int) (w:World) (h:qc w rb (gP rb) l) (hx:iN most l=none):
  Calls Tryz.prog 52 #[.pointer (some ⟨rb,0,none⟩),.int .i64 most] w fun e w'=>Fv e/\w.grownBy w' (some rb)/\∃l',qc w' rb (gP rb) l':=by
 unfold iN iT at hx
 by_cases hk:8<=l.length/\0<=lu (wN (l.take 8))/\lu (wN (l.take 8))<=most
 .simp only[if_pos hk]at hx
  by_cases hm:(lu (wN (l.take 8))).toNat<=(l.drop 8).length
  .rw[if_pos hm]at hx;cases hx
  .have HC:=Lib.hid (yw rb (gP rb) l most w.drew (qc.stay h (aX (ah _ _))) hk.1 hk.2.1 hk.2.2)
   obtain⟨m,hmm⟩:∃m:Nat,lu (wN (l.take 8))=m:=⟨_,(Int.toNat_of_nonneg hk.2.1).symm⟩
   rw[hmm]at HC hm
   rw[Int.toNat_natCast]at hm
   have HL:Hid ((l.drop 8).length<m):=Nat.lt_of_not_le hm
   clear h hk hmm hm hx
   go_enter Tryz.func52,Tryz.ntmps52
   go_upto_region 1 with (fail)
   refine wp_region_any (by kernel_rfl) ?_
   change wpAny _ _ _ _ _ _ _ (World.drew _)
   refine wpAny_take (i:=0) (v:=?v0) rfl (by kernel_rfl) (by kernel_rfl) (by kernel_rfl) (fun _ _ _ h=>h) (Or.inl ⟨by rfl,?hy0⟩) ?akh
   case hy0=>intro w;go_simp;try rfl
   refine wpAny_take (i:=1) (v:=?v1) rfl (by kernel_rfl) (by kernel_rfl) (by kernel_rfl) (fun _ _ _ h=>h) (Or.inl ⟨by rfl,?hy1⟩) ?aki
   case hy1=>intro w;go_simp;try rfl
   refine wpAny_take (i:=2) (v:=?v2) rfl (by kernel_rfl) (by kernel_rfl) (by kernel_rfl) (fun _ _ _ h=>h) (Or.inl ⟨by rfl,?hy2⟩) ?akj
   case hy2=>intro w;go_simp;try rfl
   refine wpAny_take (i:=3) (v:=?v3) rfl (by kernel_rfl) (by kernel_rfl) (by kernel_rfl) (fun _ _ _ h=>h) (Or.inl ⟨by rfl,?hy3⟩) ?akk
   case hy3=>intro w;go_simp;try rfl
   refine wpAny_take (i:=4) (v:=?v4) rfl (by kernel_rfl) (by kernel_rfl) (by kernel_rfl) (fun _ _ _ h=>h) (Or.inl ⟨by rfl,?hy4⟩) ?akl
   case hy4=>intro w;go_simp;try rfl
   refine wpAny_ready (rs:=[5]) (by kernel_rfl) (by simp) ?_
   refine AllReady.cons rfl (fun K hK=>?_) AllReady.nil
   go_simp
   refine HC.out.mono ?_
   rintro e w1 ⟨rfl,hg,hr⟩
   have H1:=Lib.hid (And.intro hg hr);clear hg hr HC
   refine hK _ _ ?_
   clear hK K
   refine wpAny_ready (rs:=[6]) (by kernel_rfl) (by simp) ?_
   refine AllReady.cons rfl (fun K hK=>?_) AllReady.nil
   go_simp
   refine (Jr rb (gP rb) (l.drop 8) m _ H1.out.2 HL.out).mono ?_
   rintro e w2 ⟨⟨u,pv,rfl⟩,rfl⟩
   exact⟨rfl,⟨u,pv,rfl⟩,aj (aX (ah _ _)) H1.out.1,_,H1.out.2⟩
 .have HC:=Lib.hid (Js rb (gP rb) l most w.drew (qc.stay h (aX (ah _ _))) hk)
  clear h hk hx
  go_enter Tryz.func52,Tryz.ntmps52
  go_upto_region 1 with (fail)
  refine wp_region_any (by kernel_rfl) ?_
  change wpAny _ _ _ _ _ _ _ (World.drew _)
  refine wpAny_take (i:=0) (v:=?w0) rfl (by kernel_rfl) (by kernel_rfl) (by kernel_rfl) (fun _ _ _ h=>h) (Or.inl ⟨by rfl,?hz0⟩) ?akm
  case hz0=>intro w;go_simp;try rfl
  refine wpAny_take (i:=1) (v:=?w1) rfl (by kernel_rfl) (by kernel_rfl) (by kernel_rfl) (fun _ _ _ h=>h) (Or.inl ⟨by rfl,?hz1⟩) ?akn
  case hz1=>intro w;go_simp;try rfl
  refine wpAny_take (i:=2) (v:=?w2) rfl (by kernel_rfl) (by kernel_rfl) (by kernel_rfl) (fun _ _ _ h=>h) (Or.inl ⟨by rfl,?hz2⟩) ?ako
  case hz2=>intro w;go_simp;try rfl
  refine wpAny_take (i:=3) (v:=?w3) rfl (by kernel_rfl) (by kernel_rfl) (by kernel_rfl) (fun _ _ _ h=>h) (Or.inl ⟨by rfl,?hz3⟩) ?akp
  case hz3=>intro w;go_simp;try rfl
  refine wpAny_take (i:=4) (v:=?w4) rfl (by kernel_rfl) (by kernel_rfl) (by kernel_rfl) (fun _ _ _ h=>h) (Or.inl ⟨by rfl,?Vz⟩) ?akq
  case Vz=>intro w;go_simp;try rfl
  refine wpAny_ready (rs:=[5]) (by kernel_rfl) (by simp) ?_
  refine AllReady.cons rfl (fun K hK=>?_) AllReady.nil
  go_simp
  refine HC.out.mono ?_
  rintro e w1 ⟨⟨u,pv,rfl⟩,hr⟩
  exact⟨rfl,⟨u,pv,rfl⟩,aj (aX (ah _ _)) hr.1,hr.2⟩
theorem UD (rb:Nat) (most:Int) (st:St) (w:World) (h:rV w rb st) (hl:∀l,st=some l->l.length<=1000000):
  Calls Tryz.prog 51 #[.pointer (some ⟨rb,0,none⟩),.func (.func 52) #[.pointer (some ⟨rb,0,none⟩)] #[],.int .i64 most] w fun e w'=>∃v,e=.returned v/\w.grownBy w' (some rb)/\rV w' rb (gU most st).2/\w'.ownsRow w.heap.size 5 1 v (gU most st).1.length ((gU most st).1.map dD):=by
 unfold gU
 cases st with
 | none=>
  refine (Ux _ most _ w fun w1 hg=>BS rb _ w1 (Jt.stay h hg)).mono ?_
  rintro e w' ⟨rfl,hg⟩
  exact⟨_,rfl,dB hg _,Jt.stay h hg,World.ownsRow_nil w' _ 5 1⟩
 | some l=>
  obtain⟨a,n,cap,hb,_⟩:=id h
  have gz:=av (ah w none) (.cells #[.pointer (some ⟨rb,0,none⟩)] 62)
  cases hk:iN most l with
  | some p=>
   obtain⟨x,r⟩:=p
   have e1:tells [] (iN most) (some l)=(x,some r):=by unfold tells;simp only[hk]
   rw[e1]
   refine (Uy rb most _ w (fun v w'=>w.grownBy w' (some rb)/\qc w' rb (gP rb) r/\w'.ownsRow w.heap.size 5 1 v x.length (x.map dD)) hb ((LP rb l x r most _ (qc.stay h gz) (hl l rfl) hk).mono ?_))
   rintro e w' ⟨v,rfl,hg,hr,ho⟩
   exact⟨v,rfl,aj (dB gz _) hg,hr,jv ho gz.size⟩
  | none=>
   have e1:tells [] (iN most) (some l)=([],none):=by unfold tells;simp only[hk]
   rw[e1]
   refine (XA rb most _ w hb (Qe rb l most _ (qc.stay h gz) hk)).mono ?_
   rintro e w' ⟨rfl,hg,hn⟩
   exact⟨_,rfl,hg,hn,World.ownsRow_nil w' _ 5 1⟩
end
section
open Go.RowKit Ow Wi
theorem D5 (rb k:Nat) (st:St) (w:World) (h:rV w rb st):(tells 0 (iq k) st).1<256^k:=by
 have hp:0<256^k:=Nat.pow_pos (by decide)
 cases st with
 | none=>exact hp
 | some l=>
  have hb:=qc.byte h
  unfold tells iq
  by_cases hk:k<=l.length
  .simp only[if_pos hk]
   have h1:=Mc (l.take k) (fun b hm=>FT hb b (List.mem_of_mem_take hm))
   rwa [List.length_take,Nat.min_eq_left hk]at h1
  .simp only[if_neg hk];exact hp
theorem D6 {w:World} {rb:Nat} {st:St} (h:rV w rb st) (most:Int) (i:Nat):(gU most st).1.getD i 0<256:=by
 cases st with
 | none=>unfold gU tells;simp
 | some l=>
  have hb:=qc.byte h
  unfold gU
  cases hr:iN most l with
  | none=>
   have e1:tells [] (iN most) (some l)=([],none):=by unfold tells;simp only[hr]
   rw[e1];simp
  | some p=>
   obtain⟨x,r⟩:=p
   have e1:tells [] (iN most) (some l)=(x,some r):=by unfold tells;simp only[hr]
   rw[e1]
   unfold iN iT at hr
   split at hr
   .cases hr
   .rename_i n r' hc
    split at hc
    .cases hc
     split at hr
     .cases hr
      exact getD_take_lt _ _ (fun i=>by rw[getD_drop];exact hb _) i
     .cases hr
    .cases hc
theorem BU (rb:Nat) (st:St) (w:World) (h:rV w rb st):
  Calls Tryz.prog 30 #[.pointer (some ⟨rb,0,none⟩)] w fun e w'=>e=.returned (.int .u8 ((jG st).1:Nat))/\w.grownBy w' (some rb)/\rV w' rb (jG st).2:=by
 have hlt:=D5 rb 1 st w h
 have HT:=Lib.hid (Ju rb 1 st w h (by decide))
 unfold jG
 generalize tells 0 (iq 1) st=x at *
 obtain⟨n,st'⟩:=x
 have hw:IntKind.u8.wrap (n:Int)=n:=by
  rw[show IntKind.u8.wrap (n:Int)=(n:Int)%256 by simp[IntKind.wrap,IntKind.signed,IntKind.bits]]
  have:n<256:=hlt
  omega
 clear h hlt
 have UW:=uR
 go_enter Tryz.func30,Tryz.ntmps30
 go_wp2_with (fail)
 refine HT.out.mono ?_
 rintro e w' ⟨rfl,hg,hr⟩
 have H:=Lib.hid (And.intro hg hr);clear hg hr
 go_wp2
 go_ret
 exact⟨rfl,H.out⟩
theorem BX (rb:Nat) (st:St) (w:World) (h:rV w rb st):
  Calls Tryz.prog 53 #[.pointer (some ⟨rb,0,none⟩)] w fun e w'=>e=.returned (.int .i64 (lu (gH st).1))/\w.grownBy w' (some rb)/\rV w' rb (gH st).2:=by
 have hlt:=D5 rb 8 st w h
 have HT:=Lib.hid (Ju rb 8 st w h (by decide))
 unfold gH
 generalize tells 0 (iq 8) st=x at *
 obtain⟨n,st'⟩:=x
 have hw:IntKind.i64.wrap (n:Int)=lu n:=BR n (by
  have h1:(256:Nat)^8=18446744073709551616:=by decide
  have:n<256^8:=hlt
  omega)
 clear h hlt
 have UW:=uR
 go_enter Tryz.func53,Tryz.ntmps53
 go_wp2_with (fail)
 refine HT.out.mono ?_
 rintro e w' ⟨rfl,hg,hr⟩
 have H:=Lib.hid (And.intro hg hr);clear hg hr
 go_wp2
 go_ret
 exact⟨rfl,H.out⟩
theorem LQ (rb:Nat) (most:Int) (st:St) (w:World) (h:rV w rb st):
  Calls Tryz.prog 33 #[.pointer (some ⟨rb,0,none⟩),.int .i64 most] w fun e w'=>e=.returned (.int .i64 (iI most st).1)/\w.grownBy w' (some rb)/\rV w' rb (iI most st).2:=by
 have HT:=Lib.hid (UC rb most st w h)
 clear h
 have UW:=uR
 go_enter Tryz.func33,Tryz.ntmps33
 go_wp2_with (fail)
 refine HT.out.mono ?_
 rintro e w' ⟨rfl,hg,hr⟩
 have H:=Lib.hid (And.intro hg hr);clear hg hr
 go_wp2
 go_ret
 exact⟨rfl,H.out⟩
theorem BZ (rb:Nat) (most:Int) (st:St) (w:World) (h:rV w rb st) (hl:∀l,st=some l->l.length<=1000000):
  Calls Tryz.prog 31 #[.pointer (some ⟨rb,0,none⟩),.int .i64 most] w fun e w'=>∃v,e=.returned v/\w.grownBy w' (some rb)/\rV w' rb (gU most st).2/\w'.ownsRow w.heap.size 5 1 v (gU most st).1.length ((gU most st).1.map dD):=by
 have HT:=Lib.hid (UD rb most st w h hl)
 clear h hl
 have UW:=uR
 go_enter Tryz.func31,Tryz.ntmps31
 go_wp2_with (fail)
 refine HT.out.mono ?_
 rintro e w' ⟨v,rfl,hr⟩
 have H:=Lib.hid hr;clear hr
 go_wp2
 go_ret
 exact⟨v,rfl,H.out⟩
theorem UE (n cap B:Nat) (a:Option Addr) (l:List Nat) (w:World) (hl:l.length=n) (hn:n<=1000000) (hP:BytesAt w B a cap l):
  Calls Tryz.prog 29 #[.slice a n cap] w fun e w'=>∃rb,e=.returned (.pointer (some ⟨rb,0,none⟩))/\w.grownBy w' none/\w.heap.size<=rb/\rV w' rb (some l):=by
 have HP:=Lib.hid (And.intro hl (And.intro hn hP));clear hl hn hP
 go_enter Tryz.func29,Tryz.ntmps29
 go_wp2_with (fail)
 refine (qp 1 1 _ [l] _ _ rfl (X8 HP.out.1 HP.out.2.2.full) (by decide) (by simp only[List.flatten_cons,List.flatten_nil,List.append_nil];have h1:=HP.out.1;have h2:=HP.out.2.1;omega)).mono ?_
 rintro e w1 ⟨v,rfl,hg,ho⟩
 simp only[List.flatten_cons,List.flatten_nil,List.append_nil]at ho
 obtain⟨a1,c1,rfl,_,hB,_⟩:=jB ho HP.out.2.2.byte
 have H1:=Lib.hid (And.intro (aj (av (ah w none) _) hg) hB);clear hg ho hB
 go_wp2
 go_ret
 obtain⟨hg,hB⟩:=H1.out
 have hb:=aH.new w1 [.slice a1 l.length c1,.pointer (some ⟨w1.heap.size,0,none⟩)] 82
 have g2:=av (ah w1 none) (.cells #[.slice a1 l.length c1,.pointer (some ⟨w1.heap.size,0,none⟩)] 82)
 refine⟨w1.heap.size,rfl,aj hg g2,hg.size,a1,l.length,c1,hb,rfl,(hB.stay g2).full,?_⟩
 rcases hB.cells with h0 |⟨pb,po,rfl,hlt,_⟩
 .exact Or.inl h0
 .exact Or.inr fun pb' po' e=>by cases e;omega
end
section
open Go.RowKit Ow Wi Ve
namespace Rc
set_option maxHeartbeats 400000 in
theorem yZ (rb:Nat) (st:St) (w:World) (h:rV w rb st):
  Calls Tryz.prog 32 #[.pointer (some ⟨rb,0,none⟩)] w fun e w'=>e=.returned (.agg #[iV (lu (gH st).1),iV (lu (gH (gH st).2).1)])/\w.grownBy w' (some rb)/\rV w' rb (gH (gH st).2).2:=by
 have hlt:=h.lt
 obtain⟨Q,hQ⟩:∃Q:Ending->World->Prop,Q=fun e w'=>e=.returned (.agg #[iV (lu (gH st).1),iV (lu (gH (gH st).2).1)])/\w.grownBy w' (some rb)/\rV w' rb (gH (gH st).2).2:=⟨_,rfl⟩
 rw[<- hQ]
 have HQ:Hid (∀w',w.grownBy w' (some rb)->rV w' rb (gH (gH st).2).2->Q (.returned (.agg #[iV (lu (gH st).1),iV (lu (gH (gH st).2).1)])) w'):=fun w' h1 h2=>by rw[hQ];exact⟨rfl,h1,h2⟩
 clear hQ
 obtain⟨W0,hW0⟩:∃W0,W0=w.alloc (.cells #[iV 0,iV 0] 42):=⟨_,rfl⟩
 obtain⟨N,hN⟩:∃N,N=w.heap.size:=⟨_,rfl⟩
 have hg0:w.grownBy W0 none:=by rw[hW0];exact av (ah _ _) _
 have hb0:aH W0 N 42 [iV 0,iV 0]:=by rw[hW0,hN];exact aH.new _ _ _
 have H1:=Lib.hid (BX rb st W0 (h.stay hg0))
 have H2:=Lib.hid (fun w' (h:rV w' rb (gH st).2)=>BX rb (gH st).2 w' h)
 have jg:=Lib.hid (And.intro hg0 (And.intro hb0 (And.intro (show rb<N by omega) (show w.heap.size<=N by omega))));clear hg0 hb0 h hlt
 go_enter Tryz.func32,Tryz.ntmps32
 go_wp2_with fail
 rw[<- hW0,<- hN]
 clear hW0 hN
 refine H1.out.mono ?_
 rintro e w1 ⟨rfl,hg1,hr1⟩
 generalize lu (gH st).1=x at *
 generalize (gH st).2=st1 at *
 have iA:=Lib.hid (And.intro hg1 hr1);clear hg1 hr1
 go_wp2_with fail
 refine (H2.out w1 iA.out.2).mono ?_
 rintro e w2 ⟨rfl,hg2,hr2⟩
 have hb2:=((jg.out.2.1.grown iA.out.1 (by have:=jg.out.2.2.1;simp;omega)).grown hg2 (by have:=jg.out.2.2.1;simp;omega))
 have c0:=hb2.cell (i:=0) rfl
 have c1:=hb2.cell (i:=1) rfl
 have f0:=hb2.free 0
 have f1:=hb2.free 1
 generalize lu (gH st1).1=y at *
 have HG2:=Lib.hid (And.intro (aj (dB jg.out.1 _) (aj iA.out.1 hg2)) (And.intro hr2 (And.intro hb2 jg.out.2.2.1)));clear hg2 hr2 hb2
 go_wp2
 obtain⟨hg,hr,hb,hN⟩:=HG2.out
 have hR:=(hb.set 0 (.int .i64 x)).set 1 (.int .i64 y)
 refine bodyPost_ret (v:=.agg #[iV x,iV y]) (results_cell_row Tryz.results32 _ _ N 42 _ (0,0) _ rfl hR Tryz.underlying42 rfl Oi) rfl ?_
 exact HQ.out _ (aO (aO hg (p:=⟨N,0,none⟩) jg.out.2.2.2 _) (p:=⟨N,1,none⟩) jg.out.2.2.2 _) ((hr.beside (aJ (ah _ (some N)) 0 _) hN).beside (aJ (ah _ (some N)) 1 _) hN)
end Rc
end
section
open Go.RowKit Ow Wi Ve
namespace Rc
structure Rs (w0:World) (N rb M:Nat) (T:TypeId) (cells:List Value) (st:St) (w:World):Prop where
 gb:w0.grownBy w none
 rd:rV w rb st
 bx:aH w M T cells
 res:aH w N 25 z7
structure Rn (w0:World) (N rb M:Nat):Prop where
 n0:w0.heap.size<=N
 n1:N<rb
 n2:rb<M
theorem Rs.call {w0 w w':World} {N rb M:Nat} {T:TypeId} {cells:List Value} {st st':St} (h:Rs w0 N rb M T cells st w) (k:Rn w0 N rb M) (hg:w.grownBy w' (some rb)) (hr:rV w' rb st'):Rs w0 N rb M T cells st' w':=
 ⟨aW h.gb hg (by have:=k.n0;have:=k.n1;omega),hr,h.bx.grown hg (by have:=k.n2;simp;omega),h.res.grown hg (by have:=k.n1;simp;omega)⟩
theorem Rs.set {w0 w:World} {N rb M:Nat} {T:TypeId} {cells:List Value} {st:St} (h:Rs w0 N rb M T cells st w) (k:Rn w0 N rb M) (i:Nat) (v:Value):Rs w0 N rb M T (cells.set i v) st (w.setCell ⟨M,i,none⟩ v):=
 ⟨aO h.gb (p:=⟨M,i,none⟩) (by have:=k.n0;have:=k.n1;have:=k.n2;show _<=M;omega) v,h.rd.beside (aJ (ah w (some M)) i v) k.n2,h.bx.set i v,h.res.grown (aJ (ah w (some M)) i v) (by have:=k.n1;have:=k.n2;simp;omega)⟩
theorem Rs.stay {w0 w w':World} {N rb M:Nat} {T:TypeId} {cells:List Value} {st:St} (h:Rs w0 N rb M T cells st w) (hg:w.grownBy w' none):Rs w0 N rb M T cells st w':=
 ⟨aj h.gb hg,h.rd.stay hg,h.bx.grown hg (by simp),h.res.grown hg (by simp)⟩
theorem Rs.aeh {w0 w w':World} {N rb M:Nat} {T:TypeId} {c0 c1 c2 c4 c5 c6:Value} {a':Option Addr} {c' k:Nat} {st:St} {x y:Int} {st':St} {l:List D} (h:Rs w0 N rb M T [c0,c1,c2,.slice a' k c',c4,c5,c6] st w) (K:Rn w0 N rb M) (ho:ji w (M+1) (.slice a' k c') k l) (hk:k<=8) (hg:w.grownBy w' (some rb)) (hr:rV w' rb st'):
  ∃v2 y9,(Builtin.append_ #[23,23] 23 #[.slice a' k c',.slice (some ⟨w'.heap.size,0,none⟩) 1 1]).run Tryz.prog (w'.alloc (.cells #[iV x,iV y] 42))=.ok v2 y9/\Rs w0 N rb M T [c0,c1,c2,.slice a' k c',c4,c5,c6] st' y9/\ji y9 (M+1) v2 (k+1) (l++[(x,y)]):=by
 have hb:∀r,(Value.slice a' k c').ownBlock=some r->M<r:=fun r e=>by have:=(ho.lt r e).1;omega
 have h1:=h.call K hg hr
 have gA:w'.grownBy (w'.alloc (.cells #[iV x,iV y] 42)) none:=av (ah _ _) _
 have ho1:=(ho.kept hg (Or.inr fun e=>by have:=hb _ e;have:=K.n2;omega)).kept gA (by cases (Value.slice a' k c').ownBlock<;>simp)
 have h2:=h1.stay gA
 obtain⟨v2,y9,hap,ho2,hg2⟩:=sH _ (M+1) (w'.heap.size+1) _ k l (some ⟨w'.heap.size,0,none⟩) 1 1 [(x,y)] ho1 rfl (wz w' x y _) (by simp) (by omega) (by have:=h2.bx.lt;omega)
 refine⟨v2,y9,hap,?_,ho2⟩
 have hne:∀q,q<=M->(some q≠(Value.slice a' k c').ownBlock):=fun q hq e=>by have:=hb q e.symm;omega
 refine⟨Rh h2.gb ho1 (by have:=K.n0;have:=K.n1;have:=K.n2;omega) hg2,?_,h2.bx.grown hg2 (hne M (Nat.le_refl _)),h2.res.grown hg2 (hne N (by have:=K.n1;have:=K.n2;omega))⟩
 cases hb':(Value.slice a' k c').ownBlock with
 | none=>rw[hb']at hg2;exact h2.rd.stay hg2
 | some r=>rw[hb']at hg2;exact h2.rd.beside hg2 (by have:=hb r hb';have:=K.n2;omega)
structure Two (w:World) (M Bs:Nat) (v3 v5:Value) (n3 n5:Nat) (cx:List D) (val:List Nat):Prop where
 cx:ji w (M+1) v3 n3 cx
 val:w.ownsRow (M+1) 5 1 v5 n5 (val.map dD)
 l3:∀r,v3.ownBlock=some r->r<Bs
 l5:∀r,v5.ownBlock=some r->r<Bs
theorem Two.keep {w w':World} {M Bs n3 n5:Nat} {v3 v5:Value} {cx:List D} {val:List Nat} (h:Two w M Bs v3 v5 n3 n5 cx val) {row:Option Nat} (hg:w.grownBy w' row) (hr:∀r,row=some r->r<=M\/Bs<=r):Two w' M Bs v3 v5 n3 n5 cx val:=by
 refine⟨h.cx.kept hg ?_,h.val.kept hg ?_,h.l3,h.l5⟩
 .cases hb:v3.ownBlock with
  | none=>exact Or.inl rfl
  | some r=>refine Or.inr fun e=>?_;have:=hr r e.symm;have:=h.l3 r hb;have:=(h.cx.lt r hb).1;omega
 .cases hb:v5.ownBlock with
  | none=>exact Or.inl rfl
  | some r=>refine Or.inr fun e=>?_;have:=hr r e.symm;have:=h.l5 r hb;have:=(h.val.lt r hb).1;omega
theorem Rs.reads {w0 w w':World} {N rb M Bs:Nat} {T:TypeId} {c0 c1 c2 c4:Value} {a3 a5 a6:Option Addr} {n3 n5 k3 k5 k6 k:Nat} {st st':St} {x:Nat} {cx:List D} {val l:List Nat} (h:Rs w0 N rb M T [c0,c1,c2,.slice a3 n3 k3,c4,.slice a5 n5 k5,.slice a6 k k6] st w) (K:Rn w0 N rb M) (hB:M<Bs) (hBw:Bs<=w.heap.size)
  (ht:Two w M Bs (.slice a3 n3 k3) (.slice a5 n5 k5) n3 n5 cx val) (ho:w.ownsRow Bs 5 1 (.slice a6 k k6) k (l.map dD)) (hk:k<=64) (hg:w.grownBy w' (some rb)) (hr:rV w' rb st'):
  ∃v2 y9,(Builtin.append_ #[22,22] 22 #[.slice a6 k k6,.slice (some ⟨w'.heap.size,0,none⟩) 1 1]).run Tryz.prog (w'.alloc (.cells #[dD x] 5))=.ok v2 y9/\Rs w0 N rb M T [c0,c1,c2,.slice a3 n3 k3,c4,.slice a5 n5 k5,.slice a6 k k6] st' y9/\Two y9 M Bs (.slice a3 n3 k3) (.slice a5 n5 k5) n3 n5 cx val/\y9.ownsRow Bs 5 1 v2 (k+1) ((l++[x]).map dD)/\Bs<=y9.heap.size:=by
 have hb:∀r,(Value.slice a6 k k6).ownBlock=some r->Bs<=r:=fun r e=>(ho.lt r e).1
 have h1:=h.call K hg hr
 have ho1:=ho.kept hg (Or.inr fun e=>by have:=hb _ e;have:=K.n2;omega)
 have ht1:=ht.keep hg (fun r e=>by cases e;have:=K.n2;omega)
 obtain⟨v2,y9,hap,ho2,hg2⟩:=JR w' Bs k (.slice a6 k k6) (dD x) (l.map dD) ho1 rfl (by omega) (Nat.le_trans hBw hg.size)
 have hne:∀q,q<=M->(some q≠(Value.slice a6 k k6).ownBlock):=fun q hq e=>by have:=hb q e.symm;omega
 refine⟨v2,y9,hap,⟨?_,?_,h1.bx.grown hg2 (hne M (Nat.le_refl _)),h1.res.grown hg2 (hne N (by have:=K.n1;have:=K.n2;omega))⟩,ht1.keep hg2 (fun r e=>Or.inr (hb r e)),by rw[List.map_append];exact ho2,Nat.le_trans hBw (Nat.le_trans hg.size hg2.size)⟩
 .exact YQ h1.gb ho1 (by have:=K.n0;have:=K.n1;have:=K.n2;omega) hg2
 .cases hb':(Value.slice a6 k k6).ownBlock with
  | none=>rw[hb']at hg2;exact h1.rd.stay hg2
  | some r=>rw[hb']at hg2;exact h1.rd.beside hg2 (by have:=hb r hb';have:=K.n2;omega)
set_option maxHeartbeats 2000000 in
set_option maxRecDepth 100000 in
theorem UF (n cap B:Nat) (a:Option Addr) (l:List Nat) (w:World) (hl:l.length=n) (hn:n<=1000000) (hP:BytesAt w B a cap l):
  Calls Tryz.prog 16 #[.slice a n cap] w fun e w'=>∃q:L,e=.returned (q.v (lD (some l)))/\w.grownBy w' none/\mV w' w'.heap.size q (lD (some l))/\q.New w.heap.size:=by
 obtain⟨st,hst⟩:∃st,st=some l:=⟨_,rfl⟩
 rw[<- hst]
 have hok:Dm st:=fun l' e b hb=>by rw[hst]at e;cases e;exact FT hP.byte b hb
 have HOK:=Lib.hid hok;clear hok
 have hsm:Sm st:=fun l' e=>by rw[hst]at e;cases e;omega
 obtain⟨N,hN⟩:∃N,N=w.heap.size:=⟨_,rfl⟩
 obtain⟨W0,hW0⟩:∃W0,W0=w.alloc (.cells z7.toArray 25):=⟨_,rfl⟩
 have hg0:w.grownBy W0 none:=by rw[hW0];exact av (ah _ _) _
 have hb0:aH W0 N 25 z7:=by rw[hW0,hN];exact aH.new _ _ _
 have HN:=Lib.hid (UE n cap B a l W0 hl hn (hP.stay hg0))
 rw[<- hst]at HN
 have jg:=Lib.hid (And.intro hg0 (And.intro hb0 (Nat.le_of_eq hN.symm)));clear hg0 hb0 hl hn hP
 obtain⟨Q,hQ⟩:∃Q:Ending->World->Prop,Q=fun e w'=>∃q:L,e=.returned (q.v (lD st))/\w.grownBy w' none/\mV w' w'.heap.size q (lD st)/\q.New w.heap.size:=⟨_,rfl⟩
 rw[<- hQ]
 have HQ:=Lib.hid hQ;clear hQ
 have HSM:=Lib.hid hsm;clear hsm hst
 go_enter Tryz.func16,Tryz.ntmps16
 go_wp2_with fail
 rw[show w.alloc (.cells #[.string ⟨#[]⟩,iV 0,iV 0,.slice none 0 0,.bool false,.slice none 0 0,.slice none 0 0] 25)=W0 from hW0.symm,<- hN]
 clear hW0 hN
 refine HN.out.mono ?_
 rintro e w1 ⟨rb,rfl,hg,hrb,hr⟩
 have iA:=Lib.hid (And.intro (aj jg.out.1 hg) (And.intro hr (And.intro (jg.out.2.1.grown hg (by simp)) (show N<rb from Nat.lt_of_lt_of_le jg.out.2.1.lt hrb))));clear hg hr hrb
 go_wp2_with fail
 refine (BU rb st w1 iA.out.2.1).mono ?_
 rintro e w2 ⟨rfl,hg,hr⟩
 have HG2:=Lib.hid (show w.grownBy w2 none/\rV w2 rb (s1 st)/\aH w2 N 25 z7/\N<rb from⟨aW iA.out.1 hg (Nat.le_trans jg.out.2.2 (Nat.le_of_lt iA.out.2.2.2)),hr,iA.out.2.2.1.grown hg (by have:=iA.out.2.2.2;simp;omega),iA.out.2.2.2⟩);clear hg hr
 obtain⟨M,hM⟩:∃M,M=w2.heap.size:=⟨_,rfl⟩
 obtain⟨W3,hW3⟩:∃W3,W3=w2.alloc (.cells z7.toArray 46):=⟨_,rfl⟩
 have hg3:w2.grownBy W3 none:=by rw[hW3];exact av (ah _ _) _
 have hb3:aH W3 M 46 z7:=by rw[hW3,hM];exact aH.new _ _ _
 have zG:Hid (Rn w N rb M):=⟨jg.out.2.2,HG2.out.2.2.2,by rw[hM];exact HG2.out.2.1.lt⟩
 have gq:Hid (Rs w N rb M 46 z7 (s1 st) W3):=⟨aj HG2.out.1 hg3,HG2.out.2.1.stay hg3,hb3,HG2.out.2.2.1.grown hg3 (by simp)⟩
 clear hg3 hb3
 go_wp2_with fail
 rw[show w2.alloc (.cells #[.string ⟨#[]⟩,iV 0,iV 0,.slice none 0 0,.bool false,.slice none 0 0,.slice none 0 0] 46)=W3 from hW3.symm,<- hM]
 clear hW3 hM iA HG2 jg
 refine (BZ rb 64 (s1 st) W3 gq.out.rd (Em HSM.out)).mono ?_
 rintro e w4 ⟨v4,rfl,hg,hr,ho⟩
 obtain⟨ak,ck,rfl,_,hkb,_⟩:=jB ho (D6 gq.out.rd 64)
 have hcv:=Oc rfl hkb
 have lY:Hid (Rs w N rb M 46 z7 (s2 st) w4):=gq.out.call zG.out hg hr
 have HK:Hid (∀i,(gU 64 (s1 st)).1.getD i 0<256):=hkb.byte
 obtain⟨key,hkey⟩:∃k,k=(gU 64 (s1 st)).1:=⟨_,rfl⟩
 rw[<- hkey]at hcv HK ⊢
 have HKE:=Lib.hid hkey;clear hkey hg hr ho hkb
 have k0:=lY.out.bx.cell (i:=0) rfl
 have f0:=lY.out.bx.free 0
 obtain⟨kn,hkn⟩:∃x,x=key.length:=⟨_,rfl⟩
 rw[<- hkn]at hcv ⊢
 clear hkn
 go_wp2_with fail
 have kH:Hid (Rs w N rb M 46 [.string (Ag key),iV 0,iV 0,.slice none 0 0,.bool false,.slice none 0 0,.slice none 0 0] (s2 st) (w4.setCell ⟨M,0,none⟩ (.string (Ag key)))):=lY.out.set zG.out 0 _
 clear gq lY hcv
 generalize w4.setCell ⟨M,0,none⟩ (.string (Ag key))=w5 at *
 refine (yZ rb (s2 st) w5 kH.out.rd).mono ?_
 rintro e w6 ⟨rfl,hg,hr⟩
 obtain⟨cl,hcl⟩:∃x,x=lu (gH (s2 st)).1:=⟨_,rfl⟩
 obtain⟨sq,hsq⟩:∃x,x=lu (gH (s3 st)).1:=⟨_,rfl⟩
 have HCS:=Lib.hid (And.intro hcl hsq)
 rw[<- hcl,show lu (gH (gH (s2 st)).2).1=sq from hsq.symm]
 have Jv:Hid (Rs w N rb M 46 [.string (Ag key),iV 0,iV 0,.slice none 0 0,.bool false,.slice none 0 0,.slice none 0 0] (s4 st) w6):=kH.out.call zG.out hg hr
 clear hg hr hcl hsq kH
 obtain⟨X,hX⟩:∃X,X=w6.heap.size:=⟨_,rfl⟩
 obtain⟨W7,XD⟩:∃W7,W7=w6.alloc (.cells #[iV cl,iV sq] 42):=⟨_,rfl⟩
 have FD:w6.grownBy W7 none:=by rw[XD];exact av (ah _ _) _
 have cZ:aH W7 X 42 [iV cl,iV sq]:=by rw[XD,hX];exact aH.new _ _ _
 have yx:=Lib.hid (Jv.out.stay FD)
 have HX:=Lib.hid (And.intro cZ (show M<X by rw[hX];exact Jv.out.bx.lt))
 clear FD cZ Jv
 go_wp2_with fail
 rw[<- XD,<- hX]
 clear XD hX
 have m1:=HX.out.1.cell (i:=0) rfl
 have m2:=HX.out.1.cell (i:=1) rfl
 have k1:=yx.out.bx.cell (i:=1) rfl
 have k2:=yx.out.bx.cell (i:=2) rfl
 have f1:=yx.out.bx.free 1
 have f2:=yx.out.bx.free 2
 have hXM:=HX.out.2
 go_region
 have HG8:Hid (Rs w N rb M 46 [.string (Ag key),iV cl,iV sq,.slice none 0 0,.bool false,.slice none 0 0,.slice none 0 0] (s4 st) ((W7.setCell ⟨M,1,none⟩ (.int .i64 cl)).setCell ⟨M,2,none⟩ (.int .i64 sq)).drew):=((yx.out.set zG.out 1 _).set zG.out 2 _).stay (aX (ah _ _))
 clear yx HX m1 m2 k1 k2 f1 f2 hXM
 generalize ((W7.setCell ⟨M,1,none⟩ (.int .i64 cl)).setCell ⟨M,2,none⟩ (.int .i64 sq)).drew=w8 at *
 have HC:=Lib.hid (LQ rb 8 (s4 st) w8 HG8.out.rd)
 obtain⟨hc,hc8⟩:=Yb st
 rw[hc]at HC
 have HRD:=Lib.hid (fun k w' (h:rV w' rb (nS (s5 st) k).2)=>yZ rb (nS (s5 st) k).2 w' h)
 have aii:Hid (Sm (s7 st)):=abG HSM.out
 go_wp2_with fail
 refine HC.out.mono ?_
 rintro e w9 ⟨rfl,hg,hr⟩
 have oW:Hid (Rs w N rb M 46 [.string (Ag key),iV cl,iV sq,.slice none 0 0,.bool false,.slice none 0 0,.slice none 0 0] (s5 st) w9):=HG8.out.call zG.out hg hr
 clear hg hr HG8 HC hc
 obtain⟨m,hm⟩:∃m,m=cN st:=⟨_,rfl⟩
 rw[<- hm]at hc8 ⊢
 have HM:=Lib.hid hm;clear hm
 go_wp2_with fail
 go_loopw [27] (fun i wr=>∃(k:Nat),k<=m/\i=.int .i64 k/\Hid (∃v,Rs w N rb M 46 [.string (Ag key),iV cl,iV sq,v,.bool false,.slice none 0 0,.slice none 0 0] (nS (s5 st) k).2 wr/\ji wr (M+1) v k (nS (s5 st) k).1)) (fun i _=>m-(intOf i).toNat)
 case atStart=>exact⟨0,by omega,rfl,_,oW.out,World.ownsRow_nil _ _ _ _⟩
 case round=>
  obtain⟨k,hk,rfl,HI⟩:=hrel
  by_cases hlt:k<m
  .have i0:(k:Int)<(m:Int):=by omega
   obtain⟨v,hRs,ho⟩:=HI.out
   obtain⟨a',c',rfl⟩:=nZ ho
   have k3:=hRs.bx.cell (i:=3) rfl
   have HD:Hid (wr.grownBy wr.drew none):=aX (ah _ _)
   have HI2:=Lib.hid (And.intro (hRs.stay HD.out) (And.intro (ho.kept HD.out (by cases (Value.slice a' k c').ownBlock<;>simp)) (show k<=8 by omega)))
   clear hRs ho HI
   obtain⟨x,hx⟩:∃x,x=lu (gH (nS (s5 st) k).2).1:=⟨_,rfl⟩
   obtain⟨y,hy⟩:∃y,y=lu (gH (gH (nS (s5 st) k).2).2).1:=⟨_,rfl⟩
   have HR1:=Lib.hid (HRD.out k)
   rw[<- hx,<- hy]at HR1
   have Qz:=Lib.hid (And.intro hx hy);clear hx hy
   go_wp2_with fail
   go_region_law (first
    | (
      refine Fg.tQ rfl (f:=32) (args:=#[.pointer (some ⟨rb,0,none⟩)]) (Fg.aN rfl rfl (by simp only[List.map_toArray,List.map_cons,List.map_nil,Act.eval];rfl) (Fg.aI Tryz.func32 (by kernel_rfl) (by kernel_rfl))) ?_
      refine (HR1.out _ HI2.out.1.rd).mono ?_
      rintro e w10 ⟨rfl,KD,KC⟩
      obtain⟨v2,y9,hap,XE,aaK⟩:=HI2.out.1.aeh (x:=x) (y:=y) zG.out HI2.out.2.1 HI2.out.2.2 KD KC
      obtain⟨a2,c2,rfl⟩:=nZ aaK
      have k3':=(HI2.out.1.call zG.out KD KC).bx.cell (i:=3) rfl
      have aij:(w10.alloc (.cells #[iV x,iV y] 42)).cell? ⟨M,3,none⟩=some (.slice a' k c'):=((HI2.out.1.call zG.out KD KC).bx.alloc _).cell (i:=3) rfl
      have q3:=XE.bx.cell (i:=3) rfl
      have r3:=XE.bx.free 3
      have HE:=Lib.hid (And.intro XE aaK)
      have HAP:=Lib.hid hap
      clear KD KC XE aaK k3 hap
      refine⟨_,rfl,?_⟩)
    | (refine Fg.step_append rfl (.tmp 31) (.tmp 34) 23 rfl rfl _ _ rfl rfl _ _ HAP.out ?_))
   all_goals
    have HZ:Hid (Rs w N rb M 46 [.string (Ag key),iV cl,iV sq,.slice a2 (k+1) c2,.bool false,.slice none 0 0,.slice none 0 0] (nS (s5 st) (k+1)).2 (y9.setCell ⟨M,3,none⟩ (.slice a2 (k+1) c2))/\ji (y9.setCell ⟨M,3,none⟩ (.slice a2 (k+1) c2)) (M+1) (.slice a2 (k+1) c2) (k+1) (nS (s5 st) (k+1)).1):=
     ⟨HE.out.1.set zG.out 3 _,by rw[Mf,<- Qz.out.1,<- Qz.out.2];exact HE.out.2.kept (aJ (ah y9 (some M)) 3 _) (Or.inr fun e=>by have:=(HE.out.2.lt _ e).1;omega)⟩
    clear k3' aij q3 r3
    go_wp2
    go_roundw
    case rel=>exact⟨k+1,by omega,by go_num,_,HZ.out⟩
    case measure=>simp[intOf];omega
  .obtain rfl:k=m:=by omega
   obtain⟨v,hRs,ho⟩:=HI.out
   obtain⟨a1,c1,rfl⟩:=nZ ho
   rw[HM.out]at hRs ho
   have HC1:Hid (Rs w N rb M 46 [.string (Ag key),iV cl,iV sq,.slice a1 (cN st) c1,.bool false,.slice none 0 0,.slice none 0 0] (s6 st) wr/\ji wr (M+1) (.slice a1 (cN st) c1) (cN st) (lD st).cx):=⟨hRs,ho⟩
   clear hRs ho HI
   have HBY:=Lib.hid (BU rb (s6 st) wr HC1.out.1.rd)
   obtain⟨gv,hgv⟩:∃x,x=Dl st:=⟨_,rfl⟩
   obtain⟨gy,hgy⟩:∃g,((gv:Int)==1)=g:=⟨_,rfl⟩
   have HG:Hid (gy=decide (Dl st=1)):=by
    show _=_
    rw[<- hgy,<- hgv,Bool.eq_iff_iff]
    simp only[beq_iff_eq,decide_eq_true_eq]
    omega
   rw[show (jG (s6 st)).1=gv from hgv.symm]at HBY
   clear hgv
   go_wp2_with fail
   refine HBY.out.mono ?_
   rintro e w12 ⟨rfl,hg,hr⟩
   have Qf:Hid (Rs w N rb M 46 [.string (Ag key),iV cl,iV sq,.slice a1 (cN st) c1,.bool false,.slice none 0 0,.slice none 0 0] (s7 st) w12/\ji w12 (M+1) (.slice a1 (cN st) c1) (cN st) (lD st).cx):=
    ⟨HC1.out.1.call zG.out hg hr,HC1.out.2.kept hg (Or.inr fun e=>by have:=(HC1.out.2.lt _ e).1;have:=zG.out.n2;omega)⟩
   have k4:=Qf.out.1.bx.cell (i:=4) rfl
   have f4:=Qf.out.1.bx.free 4
   clear hg hr HC1 HBY
   go_wp2_with fail
   have Jw:Hid (Rs w N rb M 46 [.string (Ag key),iV cl,iV sq,.slice a1 (cN st) c1,.bool gy,.slice none 0 0,.slice none 0 0] (s7 st) (w12.setCell ⟨M,4,none⟩ (.bool gy))/\ji (w12.setCell ⟨M,4,none⟩ (.bool gy)) (M+1) (.slice a1 (cN st) c1) (cN st) (lD st).cx):=
    ⟨Qf.out.1.set zG.out 4 _,Qf.out.2.kept (aJ (ah w12 (some M)) 4 _) (Or.inr fun e=>by have:=(Qf.out.2.lt _ e).1;omega)⟩
   clear Qf k4 f4
   generalize w12.setCell ⟨M,4,none⟩ (.bool gy)=w13 at *
   refine (BZ rb 1024 (s7 st) w13 Jw.out.1.rd aii.out).mono ?_
   rintro e XF ⟨v14,rfl,hg,hr,ho⟩
   have hby:=D6 Jw.out.1.rd 1024
   obtain⟨a2,c2,rfl,_,hvb,_⟩:=jB ho hby
   obtain⟨n2,hn2⟩:∃x,x=(gU 1024 (s7 st)).1.length:=⟨_,rfl⟩
   rw[<- hn2]at ho ⊢
   have HN2:=Lib.hid (And.intro hn2 hby);clear hn2 hby
   have ail:=Jw.out.1.bx.lt
   have LU:Hid (Rs w N rb M 46 [.string (Ag key),iV cl,iV sq,.slice a1 (cN st) c1,.bool gy,.slice none 0 0,.slice none 0 0] (s8 st) XF/\Two XF M XF.heap.size (.slice a1 (cN st) c1) (.slice a2 n2 c2) (cN st) n2 (lD st).cx (lD st).val):=
    ⟨Jw.out.1.call zG.out hg hr,Jw.out.2.kept hg (Or.inr fun e=>by have:=(Jw.out.2.lt _ e).1;have:=zG.out.n2;omega),jv ho (by omega),fun r e=>Nat.lt_of_lt_of_le (Jw.out.2.lt r e).2 hg.size,fun r e=>(ho.lt r e).2⟩
   have k5:=LU.out.1.bx.cell (i:=5) rfl
   have f5:=LU.out.1.bx.free 5
   clear hg hr Jw ho hvb ail
   obtain⟨Bs,vM⟩:∃Bs,Bs=XF.heap.size:=⟨_,rfl⟩
   rw[<- vM]at LU
   have aaL:=aJ (ah XF (some M)) 5 (.slice a2 n2 c2)
   have aaM:Hid (Rs w N rb M 46 [.string (Ag key),iV cl,iV sq,.slice a1 (cN st) c1,.bool gy,.slice a2 n2 c2,.slice none 0 0] (s8 st) (XF.setCell ⟨M,5,none⟩ (.slice a2 n2 c2))/\Two (XF.setCell ⟨M,5,none⟩ (.slice a2 n2 c2)) M Bs (.slice a1 (cN st) c1) (.slice a2 n2 c2) (cN st) n2 (lD st).cx (lD st).val/\Bs<=(XF.setCell ⟨M,5,none⟩ (.slice a2 n2 c2)).heap.size):=
    ⟨LU.out.1.set zG.out 5 _,LU.out.2.keep aaL (fun r e=>by cases e;exact Or.inl (Nat.le_refl _)),by rw[vM];exact aaL.size⟩
   have HMB:Hid (M<Bs):=by show M<Bs;rw[vM];exact LU.out.1.bx.lt
   have HRB:=Lib.hid (fun k w' (h:rV w' rb (sS (s8 st) k).2)=>BU rb (sS (s8 st) k).2 w' h)
   clear LU vM aaL
   go_wp2_with fail
   generalize ain:XF.setCell ⟨M,5,none⟩ (.slice a2 n2 c2)=w15 at *
   clear ain k5 f5
   go_loopw [48] (fun i wr=>∃(q:Nat),q<=64/\i=.int .i64 q/\Hid (∃a6 k6,Rs w N rb M 46 [.string (Ag key),iV cl,iV sq,.slice a1 (cN st) c1,.bool gy,.slice a2 n2 c2,.slice a6 q k6] (sS (s8 st) q).2 wr/\Two wr M Bs (.slice a1 (cN st) c1) (.slice a2 n2 c2) (cN st) n2 (lD st).cx (lD st).val/\Bs<=wr.heap.size/\wr.ownsRow Bs 5 1 (.slice a6 q k6) q ((sS (s8 st) q).1.map dD))) (fun i _=>64-(intOf i).toNat)
   case atStart=>exact⟨0,by omega,rfl,none,0,aaM.out.1,aaM.out.2.1,aaM.out.2.2,World.ownsRow_nil _ _ _ _⟩
   case round=>
    obtain⟨q,hq,rfl,HI⟩:=hrel
    by_cases hlt:q<64
    .have i0:(q:Int)<64:=by omega
     obtain⟨a6,k6,hRs,ht,hBw,ho⟩:=HI.out
     have q6:=hRs.bx.cell (i:=6) rfl
     have HD:Hid (wr.grownBy wr.drew none):=aX (ah _ _)
     have HI2:=Lib.hid (And.intro (hRs.stay HD.out) (And.intro (ht.keep HD.out (fun r e=>by cases e)) (And.intro (Nat.le_trans hBw HD.out.size) (And.intro (ho.kept HD.out (by cases (Value.slice a6 q k6).ownBlock<;>simp)) (show q<=64 by omega)))))
     clear hRs ht hBw ho HI
     obtain⟨x,hx⟩:∃x,x=(jG (sS (s8 st) q).2).1:=⟨_,rfl⟩
     have HR1:=Lib.hid (HRB.out q)
     rw[<- hx]at HR1
     have HX:=Lib.hid hx;clear hx
     go_wp2_with fail
     go_region_law (first
      | (
        refine Fg.tQ rfl (f:=30) (args:=#[.pointer (some ⟨rb,0,none⟩)]) (Fg.aN rfl rfl (by simp only[List.map_toArray,List.map_cons,List.map_nil,Act.eval];rfl) (Fg.aI Tryz.func30 (by kernel_rfl) (by kernel_rfl))) ?_
        refine (HR1.out _ HI2.out.1.rd).mono ?_
        rintro e w16 ⟨rfl,XG,XH⟩
        obtain⟨v2,w17,hap,XI,aej,aaN,aek⟩:=HI2.out.1.reads (x:=x) zG.out HMB.out HI2.out.2.2.1 HI2.out.2.1 HI2.out.2.2.2.1 HI2.out.2.2.2.2 XG XH
        obtain⟨a7,k7,rfl⟩:∃a7 k7,v2=.slice a7 (q+1) k7:=by
         rcases aaN.2 with⟨_,h0⟩ |⟨g,c,_,e,_⟩
         .omega
         .exact⟨_,_,e⟩
        have q6':=(HI2.out.1.call zG.out XG XH).bx.cell (i:=6) rfl
        have aio:(w16.alloc (.cells #[.int .u8 (x:Nat)] 5)).cell? ⟨M,6,none⟩=some (.slice a6 q k6):=((HI2.out.1.call zG.out XG XH).bx.alloc _).cell (i:=6) rfl
        have r6:=XI.bx.cell (i:=6) rfl
        have g6:=XI.bx.free 6
        have HE:=Lib.hid (And.intro XI (And.intro aej (And.intro aaN aek)))
        have HAP:Hid ((Builtin.append_ #[22,22] 22 #[.slice a6 q k6,.slice (some ⟨w16.heap.size,0,none⟩) 1 1]).run Tryz.prog (w16.alloc (.cells #[.int .u8 (x:Nat)] 5))=.ok (.slice a7 (q+1) k7) w17):=hap
        clear XG XH XI aej aaN aek q6 hap
        refine⟨_,rfl,?_⟩)
      | (refine Fg.step_append rfl (.tmp 52) (.tmp 55) 22 rfl rfl _ _ rfl rfl _ _ HAP.out ?_))
     all_goals
      have hgS:=aJ (ah w17 (some M)) 6 (.slice a7 (q+1) k7)
      have HZ:Hid (∃a6 k6,Rs w N rb M 46 [.string (Ag key),iV cl,iV sq,.slice a1 (cN st) c1,.bool gy,.slice a2 n2 c2,.slice a6 (q+1) k6] (sS (s8 st) (q+1)).2 (w17.setCell ⟨M,6,none⟩ (.slice a7 (q+1) k7))/\Two (w17.setCell ⟨M,6,none⟩ (.slice a7 (q+1) k7)) M Bs (.slice a1 (cN st) c1) (.slice a2 n2 c2) (cN st) n2 (lD st).cx (lD st).val/\Bs<=(w17.setCell ⟨M,6,none⟩ (.slice a7 (q+1) k7)).heap.size/\(w17.setCell ⟨M,6,none⟩ (.slice a7 (q+1) k7)).ownsRow Bs 5 1 (.slice a6 (q+1) k6) (q+1) ((sS (s8 st) (q+1)).1.map dD)):=
       ⟨a7,k7,HE.out.1.set zG.out 6 _,HE.out.2.1.keep hgS (fun r e=>by cases e;exact Or.inl (Nat.le_refl _)),Nat.le_trans HE.out.2.2.2 hgS.size,by rw[El,<- HX.out];exact HE.out.2.2.1.kept hgS (Or.inr fun e=>by have:=(HE.out.2.2.1.lt _ e).1;have:=HMB.out;omega)⟩
      clear q6' aio r6 g6 hgS
      go_wp2
      go_roundw
      case rel=>exact⟨q+1,by omega,by go_num,HZ.out⟩
      case measure=>simp[intOf];omega
    .obtain rfl:q=64:=by omega
     obtain⟨a6,k6,hRs,ht,hBw,ho⟩:=HI.out
     have z0:=hRs.bx.cell (i:=0) rfl
     have z1:=hRs.bx.cell (i:=1) rfl
     have z2:=hRs.bx.cell (i:=2) rfl
     have z3:=hRs.bx.cell (i:=3) rfl
     have z4:=hRs.bx.cell (i:=4) rfl
     have z5:=hRs.bx.cell (i:=5) rfl
     have z6:=hRs.bx.cell (i:=6) rfl
     have y0:=hRs.res.cell (i:=0) rfl
     have y1:=hRs.res.cell (i:=1) rfl
     have y2:=hRs.res.cell (i:=2) rfl
     have y3:=hRs.res.cell (i:=3) rfl
     have y4:=hRs.res.cell (i:=4) rfl
     have y5:=hRs.res.cell (i:=5) rfl
     have y6:=hRs.res.cell (i:=6) rfl
     have g0:=hRs.res.free 0
     have g1:=hRs.res.free 1
     have g2:=hRs.res.free 2
     have g3:=hRs.res.free 3
     have g4:=hRs.res.free 4
     have g5:=hRs.res.free 5
     have g6:=hRs.res.free 6
     have HE:=Lib.hid (And.intro hRs (And.intro ht ho))
     clear hRs ht hBw ho HI
     go_wp2
     obtain⟨hR,ht,ho⟩:=HE.out
     have zw:=((((((hR.res.set 0 (.string (Ag key))).set 1 (.int .i64 cl)).set 2 (.int .i64 sq)).set 3 (.slice a1 (cN st) c1)).set 4 (.bool gy)).set 5 (.slice a2 n2 c2)).set 6 (.slice a6 64 k6)
     have hgN:=aJ (aJ (aJ (aJ (aJ (aJ (aJ (ah wr (some N)) 0 (.string (Ag key))) 1 (.int .i64 cl)) 2 (.int .i64 sq)) 3 (.slice a1 (cN st) c1)) 4 (.bool gy)) 5 (.slice a2 n2 c2)) 6 (.slice a6 64 k6)
     have hNM:N<M:=Nat.lt_trans zG.out.n1 zG.out.n2
     refine bodyPost_ret (v:=.agg #[.string (Ag key),.int .i64 cl,.int .i64 sq,.slice a1 (cN st) c1,.bool gy,.slice a2 n2 c2,.slice a6 64 k6]) (results_cell_row Tryz.results16 _ _ N 25 _ (0,0) _ rfl zw Tryz.underlying25 rfl lN) rfl ?_
     have ht2:=ht.keep hgN (fun r e=>by cases e;left;omega)
     have ho2:=ho.kept hgN (Or.inr fun e=>by have:=(ho.lt _ e).1;have:=HMB.out;omega)
     obtain⟨a',c',e3,hl1,_,hd⟩:=Aj ht2.cx
     simp only[Value.slice.injEq,true_and]at e3
     obtain⟨rfl,rfl⟩:=e3
     obtain⟨a',c',e5,_,hv,_⟩:=jB ht2.val HN2.out.2
     simp only[Value.slice.injEq]at e5
     obtain⟨rfl,_,rfl⟩:=e5
     obtain⟨a',c',e6,_,hs,_⟩:=jB ho2 (getD_lt (abH (YZ HOK.out) 64))
     simp only[Value.slice.injEq]at e6
     obtain⟨rfl,_,rfl⟩:=e6
     rw[HQ.out]
     refine⟨⟨Ag key,a1,cN st,c1,a2,n2,c2,a6,64,k6⟩,?_,aW hR.gb hgN zG.out.n0,⟨?_,hl1,HN2.out.1.symm,YV _ _,hd,hv,hs,?_⟩,?_⟩
     .rw[HCS.out.1,HCS.out.2,HG.out];rfl
     .show iF (Ag key)=(lD st).key
      rw[Q7 HK.out,HKE.out];rfl
     .show cN st<9223372036854775808
      have:=(Yb st).2
      omega
     .have n0:=zG.out.n0
      refine⟨fun g o e=>?_,fun g o e=>?_,fun g o e=>?_⟩
      .have:=(ht.cx.lt g (by subst e;rfl)).1;omega
      .have:=(ht.val.lt g (by subst e;rfl)).1;omega
      .have:=(ho.lt g (by subst e;rfl)).1;have:=HMB.out;omega
end Rc
end
section
open Go.RowKit Go.Shelf Ow
def LV:Go.Shelf.Ren:=⟨fun|115=>17|n=>n,fun|37=>22|4=>4|9=>9|5=>5|n=>n,fun|n=>n⟩
theorem aaO:Go.Proofs.Lays.nb115 Tryz.prog LV:={
 mixed:=by kernel_rfl
 f115:=Tryz.func17.trans (congrArg some (by kernel_rfl))
 t4:=Tryz.underlying4
 a4:=Tryz.isAgg4
 z4:=Tryz.sizeOf4
 v4:=Tryz.zeroValue4
 t9:=Tryz.underlying9
 a9:=Tryz.isAgg9
 z9:=Tryz.sizeOf9
 v9:=Tryz.zeroValue9
 t37:=Tryz.underlying22
 a37:=Tryz.isAgg22
 z37:=Tryz.sizeOf22
 v37:=Tryz.zeroValue22
 t5:=Tryz.underlying5
 a5:=Tryz.isAgg5
 z5:=Tryz.sizeOf5
 v5:=Tryz.zeroValue5}
theorem Ca {w:World} {B n cap:Nat} {a:Option Addr} {l:List Nat} (hn:l.length=n) (h:BytesAt w B a cap l):Lib.BytesIn w a n (l.map Int.ofNat):=by
 subst hn
 rcases h.cells with h0 |⟨pb,po,rfl,_,hc⟩
 .intro hp;omega
 .exact Lib.BytesIn.of_cells fun i hi=>by
   have hadd:(⟨pb,po,none⟩:Addr).add i=⟨pb,po+i,none⟩:=by unfold Addr.add;split<;>simp_all
   rw[hadd,hc i hi]
   simp only[dD,List.getD_eq_getElem?_getD,List.getElem?_map,List.getElem?_eq_getElem hi,Option.map_some,Option.getD_some]
   rfl
theorem Jy {p q:List Nat} (hp:∀i,p.getD i 0<256) (hq:∀i,q.getD i 0<256):(Lib.bytesOf (p.map Int.ofNat)==Lib.bytesOf (q.map Int.ofNat))=decide (p=q):=by
 rw[Bool.eq_iff_iff,beq_iff_eq,decide_eq_true_iff]
 constructor
 .intro h
  have hl:p.length=q.length:=by have:=congrArg List.length h;simpa[Lib.bytesOf] using this
  apply List.ext_getElem hl
  intro i h1 h2
  have e:(Lib.bytesOf (p.map Int.ofNat))[i]?=(Lib.bytesOf (q.map Int.ofNat))[i]?:=by rw[h]
  simp only[Lib.bytesOf,List.getElem?_map,List.getElem?_eq_getElem h1,List.getElem?_eq_getElem h2,Option.map_some,Option.some.injEq]at e
  have e2:=congrArg UInt8.toNat e
  have a1:=hp i
  have a2:=hq i
  rw[List.getD_eq_getElem?_getD,List.getElem?_eq_getElem h1]at a1
  rw[List.getD_eq_getElem?_getD,List.getElem?_eq_getElem h2]at a2
  simp only[Option.getD_some]at a1 a2
  rw[UInt8.toNat_ofNat',UInt8.toNat_ofNat']at e2
  simp only[Int.ofNat_eq_natCast,Int.toNat_natCast]at e2
  omega
 .rintro rfl;rfl
theorem Jz (B1 B2 n m c d:Nat) (a1 a2:Option Addr) (p q:List Nat) (w:World) (hn:p.length=n) (hm:q.length=m) (h1:BytesAt w B1 a1 c p) (h2:BytesAt w B2 a2 d q):
  Calls Tryz.prog 17 #[.slice a1 n c,.slice a2 m d] w fun e w'=>e=.returned (.bool (decide (p=q)))/\w'=w:=by
 refine (Any.bytes_Equal_all aaO a1 a2 n c m d (p.map Int.ofNat) (q.map Int.ofNat) w (by simpa using hn) (by simpa using hm) (Ca hn h1) (Ca hm h2)).mono ?_
 rintro e w' ⟨rfl,rfl⟩
 exact⟨by rw[Jy h1.byte h2.byte],rfl⟩
end
section
open Go.RowKit Ow Wi Ve
namespace Rc
def ael (w:World) (b:Bool) (r:R) (e:Ending) (w':World):Prop:=
 w.grownBy w' none/\if b then ∃q:L,e=.returned (.tuple #[q.v r,.int .i64 0])/\mV w' w'.heap.size q r/\q.New w.heap.size else e=.returned (.tuple #[.agg z7.toArray,.int .i64 4])
set_option maxHeartbeats 2000000 in
set_option maxRecDepth 100000 in
theorem UG (n cap B:Nat) (a:Option Addr) (l:List Nat) (w:World) (hl:l.length=n) (hn:n<=1000000) (hP:BytesAt w B a cap l):
  Calls Tryz.prog 6 #[.slice a n cap] w (ael w (Ab l) (lD (some l))):=by
 have HR:=Lib.hid (fun w' (hg:w.grownBy w' none)=>UF n cap B a l w' hl hn (hP.stay hg))
 obtain⟨r,hr⟩:∃r,r=lD (some l):=⟨_,rfl⟩
 rw[<- hr]at HR ⊢
 have hgb:Ab l=(dY r&&decide (uV r=l)):=by rw[hr];rfl
 obtain⟨Q,hQ⟩:∃Q,Q=ael w (Ab l) r:=⟨_,rfl⟩
 rw[<- hQ]
 rw[hgb]at hQ
 have HQ:=Lib.hid hQ;clear hQ hgb hr
 have EW:=Lib.hid (And.intro hl hP);clear hl hP hn
 obtain⟨N,hN⟩:∃N,N=w.heap.size:=⟨_,rfl⟩
 obtain⟨W0,hW0⟩:∃W0,W0=w.alloc (.cells z7.toArray 25):=⟨_,rfl⟩
 have hg0:w.grownBy W0 none:=by rw[hW0];exact av (ah _ _) _
 have hb0:aH W0 N 25 z7:=by rw[hW0,hN];exact aH.new _ _ _
 have jg:=Lib.hid (And.intro hg0 (And.intro hb0 (Nat.le_of_eq hN.symm)));clear hg0 hb0
 go_enter Tryz.func6,Tryz.ntmps6
 go_wp2_with fail
 rw[show w.alloc (.cells #[.string ⟨#[]⟩,iV 0,iV 0,.slice none 0 0,.bool false,.slice none 0 0,.slice none 0 0] 25)=W0 from hW0.symm,<- hN]
 clear hW0 hN
 refine (HR.out W0 jg.out.1).mono ?_
 rintro e w1 ⟨q,rfl,hg1,hq,hnew⟩
 have HP:=Lib.hid (fun w' (hg:w1.grownBy w' none)=>Jp r w1.heap.size w' q (hq.stay hg))
 have HA:=Lib.hid (And.intro hq (And.intro hnew jg.out.2.1.lt));clear hnew
 obtain⟨s,a1,n1,c1,a2,n2,c2,a3,n3,c3⟩:=q
 have HV:Hid ((L.mk s a1 n1 c1 a2 n2 c2 a3 n3 c3).v r=.agg #[.string s,iV r.cl,iV r.sq,.slice a1 n1 c1,.bool r.gone,.slice a2 n2 c2,.slice a3 n3 c3]):=rfl
 rw[HV.out]at HP ⊢
 generalize r.cl=cl at *
 generalize r.sq=sq at *
 generalize r.gone=g at *
 obtain⟨M,hM⟩:∃M,M=w1.heap.size:=⟨_,rfl⟩
 obtain⟨W2,hW2⟩:∃W2,W2=w1.alloc (.cells #[.string s,iV cl,iV sq,.slice a1 n1 c1,.bool g,.slice a2 n2 c2,.slice a3 n3 c3] 25):=⟨_,rfl⟩
 have hg2:w1.grownBy W2 none:=by rw[hW2];exact av (ah _ _) _
 have hb2:aH W2 M 25 [.string s,iV cl,iV sq,.slice a1 n1 c1,.bool g,.slice a2 n2 c2,.slice a3 n3 c3]:=by rw[hW2,hM];exact aH.new _ _ _
 have HG2:=Lib.hid (And.intro hg2 (And.intro hb2 (And.intro ((jg.out.2.1.grown hg1 (by simp)).grown hg2 (by simp)) (aj jg.out.1 (aj hg1 hg2)))));clear hg1 hg2 hb2 hq
 go_wp2_with fail
 rw[<- hW2,<- hM]
 clear hW2 hM
 refine (HP.out W2 HG2.out.1).mono ?_
 rintro e w3 ⟨ao,co,rfl,hg3,hB3⟩
 have gq:=Lib.hid (And.intro hg3 (And.intro (HG2.out.2.1.grown hg3 (by simp)) (And.intro (HG2.out.2.2.1.grown hg3 (by simp)) (And.intro (aj HG2.out.2.2.2 hg3) (aj HG2.out.1 hg3)))));clear hg3
 have HE:=Lib.hid (Jz _ B (kN r).length n co cap ao a (kN r) l w3 rfl EW.out.1 hB3 (EW.out.2.stay gq.out.2.2.2.1));clear hB3 HP HG2
 have HO:Hid (dY r=true->kN r=uV r):=fun h=>by unfold kN;rw[h];rfl
 generalize (kN r).length=no at *
 cases hb:dY r with
 | false=>
  have HF:=Lib.hid hb;clear hb
  clear HE HO
  have y0:=gq.out.2.2.1.cell (i:=0) rfl
  have g0:=gq.out.2.2.1.free 0
  have y1:=gq.out.2.2.1.cell (i:=1) rfl
  have g1:=gq.out.2.2.1.free 1
  have y2:=gq.out.2.2.1.cell (i:=2) rfl
  have g2:=gq.out.2.2.1.free 2
  have y3:=gq.out.2.2.1.cell (i:=3) rfl
  have g3:=gq.out.2.2.1.free 3
  have y4:=gq.out.2.2.1.cell (i:=4) rfl
  have g4:=gq.out.2.2.1.free 4
  have y5:=gq.out.2.2.1.cell (i:=5) rfl
  have g5:=gq.out.2.2.1.free 5
  have y6:=gq.out.2.2.1.cell (i:=6) rfl
  have g6:=gq.out.2.2.1.free 6
  rw[show F6 false 4=4 from rfl]
  go_wp2
  have zw:=((((((gq.out.2.2.1.set 0 (.string ⟨#[]⟩)).set 1 (iV 0)).set 2 (iV 0)).set 3 (.slice none 0 0)).set 4 (.bool false)).set 5 (.slice none 0 0)).set 6 (.slice none 0 0)
  refine bodyPost_ret (v:=.tuple #[.agg z7.toArray,.int .i64 4]) (Fg.mh Tryz.results6 _ _ N 25 z7.toArray (0,0) _ rfl zw Tryz.underlying25 rfl lN rfl) rfl ?_
  rw[HQ.out,HF.out]
  exact⟨aW gq.out.2.2.2.1 (aJ (aJ (aJ (aJ (aJ (aJ (aJ (ah w3 (some N)) 0 _) 1 _) 2 _) 3 _) 4 _) 5 _) 6 _) jg.out.2.2,rfl⟩
 | true=>
  have HF:=Lib.hid hb;clear hb
  rw[HO.out HF.out]at HE
  clear HO
  rw[show F6 true 4=0 from rfl]
  cases hd:decide (uV r=l) with
  | false=>
   rw[hd]at HE
   have HD:=Lib.hid hd;clear hd
   have y0:=gq.out.2.2.1.cell (i:=0) rfl
   have g0:=gq.out.2.2.1.free 0
   have y1:=gq.out.2.2.1.cell (i:=1) rfl
   have g1:=gq.out.2.2.1.free 1
   have y2:=gq.out.2.2.1.cell (i:=2) rfl
   have g2:=gq.out.2.2.1.free 2
   have y3:=gq.out.2.2.1.cell (i:=3) rfl
   have g3:=gq.out.2.2.1.free 3
   have y4:=gq.out.2.2.1.cell (i:=4) rfl
   have g4:=gq.out.2.2.1.free 4
   have y5:=gq.out.2.2.1.cell (i:=5) rfl
   have g5:=gq.out.2.2.1.free 5
   have y6:=gq.out.2.2.1.cell (i:=6) rfl
   have g6:=gq.out.2.2.1.free 6
   go_wp2_with fail
   refine HE.out.mono ?_
   rintro e w4 ⟨rfl,rfl⟩
   go_wp2
   have zw:=((((((gq.out.2.2.1.set 0 (.string ⟨#[]⟩)).set 1 (iV 0)).set 2 (iV 0)).set 3 (.slice none 0 0)).set 4 (.bool false)).set 5 (.slice none 0 0)).set 6 (.slice none 0 0)
   refine bodyPost_ret (v:=.tuple #[.agg z7.toArray,.int .i64 4]) (Fg.mh Tryz.results6 _ _ N 25 z7.toArray (0,0) _ rfl zw Tryz.underlying25 rfl lN rfl) rfl ?_
   rw[HQ.out,HF.out,HD.out]
   exact⟨aW gq.out.2.2.2.1 (aJ (aJ (aJ (aJ (aJ (aJ (aJ (ah w4 (some N)) 0 _) 1 _) 2 _) 3 _) 4 _) 5 _) 6 _) jg.out.2.2,rfl⟩
  | true=>
   rw[hd]at HE
   have HD:=Lib.hid hd;clear hd
   have y0:=gq.out.2.2.1.cell (i:=0) rfl
   have g0:=gq.out.2.2.1.free 0
   have y1:=gq.out.2.2.1.cell (i:=1) rfl
   have g1:=gq.out.2.2.1.free 1
   have y2:=gq.out.2.2.1.cell (i:=2) rfl
   have g2:=gq.out.2.2.1.free 2
   have y3:=gq.out.2.2.1.cell (i:=3) rfl
   have g3:=gq.out.2.2.1.free 3
   have y4:=gq.out.2.2.1.cell (i:=4) rfl
   have g4:=gq.out.2.2.1.free 4
   have y5:=gq.out.2.2.1.cell (i:=5) rfl
   have g5:=gq.out.2.2.1.free 5
   have y6:=gq.out.2.2.1.cell (i:=6) rfl
   have g6:=gq.out.2.2.1.free 6
   have z0:=gq.out.2.1.cell (i:=0) rfl
   have z1:=gq.out.2.1.cell (i:=1) rfl
   have z2:=gq.out.2.1.cell (i:=2) rfl
   have z3:=gq.out.2.1.cell (i:=3) rfl
   have z4:=gq.out.2.1.cell (i:=4) rfl
   have z5:=gq.out.2.1.cell (i:=5) rfl
   have z6:=gq.out.2.1.cell (i:=6) rfl
   go_wp2_with fail
   refine HE.out.mono ?_
   rintro e w4 ⟨rfl,rfl⟩
   go_wp2
   have zw:=((((((gq.out.2.2.1.set 0 (.string s)).set 1 (iV cl)).set 2 (iV sq)).set 3 (.slice a1 n1 c1)).set 4 (.bool g)).set 5 (.slice a2 n2 c2)).set 6 (.slice a3 n3 c3)
   refine bodyPost_ret (v:=.tuple #[.agg #[.string s,iV cl,iV sq,.slice a1 n1 c1,.bool g,.slice a2 n2 c2,.slice a3 n3 c3],.int .i64 0]) (Fg.mh Tryz.results6 _ _ N 25 _ (0,0) _ rfl zw Tryz.underlying25 rfl lN rfl) rfl ?_
   rw[HQ.out,HF.out,HD.out]
   have hgN:=aJ (aJ (aJ (aJ (aJ (aJ (aJ (ah w4 (some N)) 0 (.string s)) 1 (iV cl)) 2 (iV sq)) 3 (.slice a1 n1 c1)) 4 (.bool g)) 5 (.slice a2 n2 c2)) 6 (.slice a3 n3 c3)
   refine⟨aW gq.out.2.2.2.1 hgN jg.out.2.2,_,congrArg (fun v=>Ending.returned (Value.tuple #[v,.int .i64 0])) HV.out.symm,?_⟩
   refine⟨((HA.out.1.stay gq.out.2.2.2.2).apart hgN HA.out.2.1 HA.out.2.2).full,?_⟩
   have hz:=jg.out.1.size
   exact⟨fun g o e=>Nat.le_trans hz (HA.out.2.1.1 g o e),fun g o e=>Nat.le_trans hz (HA.out.2.1.2.1 g o e),fun g o e=>Nat.le_trans hz (HA.out.2.1.2.2 g o e)⟩
end Rc
end
section
open Go.RowKit Ow
theorem getD_at (l:List Nat) (i:Nat) (h:i<l.length):l.getD i 0=l[i]:=by rw[List.getD_eq_getElem?_getD,List.getElem?_eq_getElem h];rfl
theorem Qg {p q:List Nat} (h:p.length=q.length) (hi:∀i,i<p.length->p.getD i 0=q.getD i 0):p=q:=by
 apply List.ext_getElem h
 intro i h1 h2
 rw[<- getD_at p i h1,<- getD_at q i h2]
 exact hi i h1
set_option maxHeartbeats 400000 in
theorem qd (B1 B2 n m c1 c2:Nat) (a1 a2:Option Addr) (p q:List Nat) (w:World) (hn:p.length=n) (hm:q.length=m) (h1:BytesAt w B1 a1 c1 p) (h2:BytesAt w B2 a2 c2 q):
  Calls Tryz.prog 8 #[.slice a1 n c1,.slice a2 m c2] w fun e w'=>e=.returned (.bool (decide (p=q)))/\w.grownBy w' none:=by
 have hn1:=h1.fits
 have hn2:=h2.fits
 have ht1:=h1.top
 have ht2:=h2.top
 rw[hn]at hn1
 rw[hm]at hn2
 have H1:=Lib.hid h1;clear h1
 have H2:=Lib.hid h2;clear h2
 have HN:=Lib.hid hn;clear hn
 have HM:=Lib.hid hm;clear hm
 by_cases hnm:n=m
 .subst hnm
  go_enter Tryz.func8,Tryz.ntmps8
  go_wp2
  go_loopw [5] (fun i wr=>∃k j:Nat,k<=n/\i=.int .i64 k/\wr=w.drewN j/\∀i,i<k->p.getD i 0=q.getD i 0) (fun i _=>n-(intOf i).toNat)
  case atStart=>exact⟨0,0,by omega,rfl,rfl,fun i hi=>absurd hi (by omega)⟩
  case round=>
   obtain⟨k,j,hk,rfl,rfl,heq⟩:=hrel
   have HE:=Lib.hid heq;clear heq
   by_cases hlt:k<n
   .obtain⟨pb,po,rfl,_,hc⟩:=H1.out.cells.resolve_left (by rw[HN.out];omega)
    obtain⟨qb,qo,rfl,_,hd⟩:=H2.out.cells.resolve_left (by rw[HM.out];omega)
    have k1:=hc k (by rw[HN.out];exact hlt)
    have k2:=hd k (by rw[HM.out];exact hlt)
    unfold dD at k1 k2
    clear hc hd
    have i0:(k:Int)<(n:Int):=by omega
    obtain⟨x,hx⟩:∃x,x=p.getD k 0:=⟨_,rfl⟩
    obtain⟨y,hy⟩:∃y,y=q.getD k 0:=⟨_,rfl⟩
    rw[<- hx]at k1
    rw[<- hy]at k2
    have Qz:=Lib.hid (And.intro hx hy);clear hx hy
    by_cases hxy:x=y
    .subst hxy
     go_wp2_with fail
     go_quiet (fail)
     go_wp2
     go_roundw
     case rel=>exact⟨k+1,_,by omega,by go_num,rfl,fun i hi=>by
      rcases Nat.lt_or_ge i k with h|h
      .exact HE.out i h
      .obtain rfl:i=k:=by omega
       rw[<- Qz.out.1,<- Qz.out.2]⟩
     case measure=>simp[intOf];omega
    .have hne:¬(x:Int)=(y:Int):=by omega
     have hpq:p≠q:=fun e=>hxy (by rw[Qz.out.1,Qz.out.2,e])
     have HPQ:Hid (decide (p=q)=false):=decide_eq_false hpq
     clear hpq hxy
     go_wp2_with fail
     go_quiet (fail)
     go_wp2
     go_ret
     exact⟨by rw[HPQ.out];rfl,⟨rfl,rfl,rfl,Nat.le_refl _,fun _ _ _=>rfl⟩⟩
   .obtain rfl:k=n:=by omega
    have hpq:p=q:=Qg (by rw[HN.out,HM.out]) (fun i hi=>HE.out i (by rw[HN.out]at hi;exact hi))
    have HPQ:Hid (decide (p=q)=true):=decide_eq_true hpq
    clear hlt hpq
    go_wp2
    go_ret
    exact⟨by rw[HPQ.out];rfl,⟨rfl,rfl,rfl,Nat.le_refl _,fun _ _ _=>rfl⟩⟩
 .have hne:¬(n:Int)=(m:Int):=by omega
  have hpq:p≠q:=fun e=>hnm (by rw[<- HN.out,<- HM.out,e])
  have HPQ:Hid (decide (p=q)=false):=decide_eq_false hpq
  clear hpq hnm
  go_enter Tryz.func8,Tryz.ntmps8
  go_wp2
  go_ret
  exact⟨by rw[HPQ.out];rfl,ah _ _⟩
end
section
open Go.RowKit Ve
namespace Ve
theorem Qh {p q:List D} (h:p.length=q.length) (hi:∀i,i<p.length->p.getD i z0=q.getD i z0):p=q:=by
 apply List.ext_getElem h
 intro i h1 h2
 have:=hi i h1
 rwa [List.getD_eq_getElem?_getD,List.getD_eq_getElem?_getD,List.getElem?_eq_getElem h1,List.getElem?_eq_getElem h2]at this
theorem UH (a b c d:Int) (w:World):(Op.equalIn 10000 42 (.agg #[.int .i64 a,.int .i64 b]) (.agg #[.int .i64 c,.int .i64 d])).run Tryz.prog w=.ok (a==c&&b==d) w:=by
 have u3:=Tryz.underlying3
 have a3:=Tryz.isAgg3
 have z3:=Tryz.sizeOf3
 have hS:Tryz.prog.underlying 42=some (.struct (Tryz.prog.fieldsOf 42)):=by kernel_rfl
 have hp:Tryz.prog.stoodInHeld 42=false:=by kernel_rfl
 rw[show (10000:Nat)=9999+1 from rfl,run_equalIn_agg w 9999 42 _ _ hS hp]
 simp only[Program.fieldsOf,Tryz.underlying42]
 go_simp
 by_cases h1:a=c<;>by_cases h2:b=d<;>simp[h1,h2]
set_option maxHeartbeats 400000 in
theorem Fx (B1 B2 n m c1 c2:Nat) (a1 a2:Option Addr) (p q:List D) (w:World) (hn:p.length=n) (hm:q.length=m) (h1:dK w B1 a1 p) (h2:dK w B2 a2 q) (hc:n<9223372036854775808):
  Calls Tryz.prog 26 #[.slice a1 n c1,.slice a2 m c2] w fun e w'=>e=.returned (.bool (decide (p=q)))/\w.grownBy w' none:=by
 have H1:=Lib.hid h1;clear h1
 have H2:=Lib.hid h2;clear h2
 have HN:=Lib.hid hn;clear hn
 have HM:=Lib.hid hm;clear hm
 by_cases hnm:n=m
 .subst hnm
  go_enter Tryz.func26,Tryz.ntmps26
  go_wp2
  go_loopw [5] (fun i wr=>∃k j:Nat,k<=n/\i=.int .i64 k/\wr=w.drewN j/\∀i,i<k->p.getD i z0=q.getD i z0) (fun i _=>n-(intOf i).toNat)
  case atStart=>exact⟨0,0,by omega,rfl,rfl,fun i hi=>absurd hi (by omega)⟩
  case round=>
   obtain⟨k,j,hk,rfl,rfl,heq⟩:=hrel
   have HE:=Lib.hid heq;clear heq
   by_cases hlt:k<n
   .obtain⟨pb,po,rfl,_,hcs⟩:=H1.out.cells.resolve_left (by rw[HN.out];omega)
    obtain⟨qb,qo,rfl,_,hds⟩:=H2.out.cells.resolve_left (by rw[HM.out];omega)
    obtain⟨k1,k2⟩:=hcs k (by rw[HN.out];exact hlt)
    obtain⟨k3,k4⟩:=hds k (by rw[HM.out];exact hlt)
    clear hcs hds
    have i0:(k:Int)<(n:Int):=by omega
    obtain⟨x,y,hx⟩:∃x y,p.getD k z0=(x,y):=⟨_,_,rfl⟩
    obtain⟨x2,y2,hy⟩:∃x y,q.getD k z0=(x,y):=⟨_,_,rfl⟩
    rw[hx]at k1 k2
    rw[hy]at k3 k4
    simp only at k1 k2 k3 k4
    have Qz:=Lib.hid (And.intro hx hy);clear hx hy
    by_cases hxy:x=x2/\y=y2
    .obtain⟨rfl,rfl⟩:=hxy
     go_wp2_with fail
     go_region
     go_wp2
     go_roundw
     case rel=>exact⟨k+1,j+1,by omega,by go_num,rfl,fun i hi=>by
      rcases Nat.lt_or_ge i k with h|h
      .exact HE.out i h
      .obtain rfl:i=k:=by omega
       rw[Qz.out.1,Qz.out.2]⟩
     case measure=>simp[intOf];omega
    .have hpq:p≠q:=fun e=>hxy (by have h1:=Qz.out.1;rw[e,Qz.out.2]at h1;simpa using h1.symm)
     have HPQ:Hid (decide (p=q)=false):=decide_eq_false hpq
     clear hpq
     by_cases hx:x=x2
     .subst hx
      have hy:¬y=y2:=fun e=>hxy ⟨rfl,e⟩
      clear hxy
      go_wp2_with fail
      have he:∀w,(Op.equalIn 10000 42 (.agg #[.int .i64 x,.int .i64 y]) (.agg #[.int .i64 x,.int .i64 y2])).run Tryz.prog w=.ok false w:=fun w=>by rw[UH];simp[hy]
      go_region
      clear he
      go_wp2
      go_ret
      exact⟨by rw[HPQ.out];rfl,⟨rfl,rfl,rfl,Nat.le_refl _,fun _ _ _=>rfl⟩⟩
     .clear hxy
      go_wp2_with fail
      have he:∀w,(Op.equalIn 10000 42 (.agg #[.int .i64 x,.int .i64 y]) (.agg #[.int .i64 x2,.int .i64 y2])).run Tryz.prog w=.ok false w:=fun w=>by rw[UH];simp[hx]
      go_region
      clear he
      go_wp2
      go_ret
      exact⟨by rw[HPQ.out];rfl,⟨rfl,rfl,rfl,Nat.le_refl _,fun _ _ _=>rfl⟩⟩
   .obtain rfl:k=n:=by omega
    have hpq:p=q:=Qh (by rw[HN.out,HM.out]) (fun i hi=>HE.out i (by rw[HN.out]at hi;exact hi))
    have HPQ:Hid (decide (p=q)=true):=decide_eq_true hpq
    clear hlt hpq
    go_wp2
    go_ret
    exact⟨by rw[HPQ.out];rfl,⟨rfl,rfl,rfl,Nat.le_refl _,fun _ _ _=>rfl⟩⟩
 .have hne:¬(n:Int)=(m:Int):=by omega
  have hpq:p≠q:=fun e=>hnm (by rw[<- HN.out,<- HM.out,e])
  have HPQ:Hid (decide (p=q)=false):=decide_eq_false hpq
  clear hpq hnm
  go_enter Tryz.func26,Tryz.ntmps26
  go_wp2
  go_ret
  exact⟨by rw[HPQ.out];rfl,ah _ _⟩
end Ve
end
section
open Go.RowKit Ow Wi Ve
namespace Rc
def JA (a b:R):Bool:=decide (a.key=b.key)&&decide (a.cl=b.cl)&&decide (a.sq=b.sq)&&decide (a.cx=b.cx)&&decide (a.gone=b.gone)&&decide (a.val=b.val)&&decide (a.sig=b.sig)
theorem Qi (a b:R):JA a b=true↔a=b:=by
 cases a;cases b
 simp only[JA,Bool.and_eq_true,decide_eq_true_eq,R.mk.injEq]
 constructor
 .rintro⟨⟨⟨⟨⟨⟨h1,h2⟩,h3⟩,h4⟩,h5⟩,h6⟩,h7⟩;exact⟨h1,h2,h3,h4,h5,h6,h7⟩
 .rintro⟨h1,h2,h3,h4,h5,h6,h7⟩;exact⟨⟨⟨⟨⟨⟨h1,h2⟩,h3⟩,h4⟩,h5⟩,h6⟩,h7⟩
set_option maxHeartbeats 2000000 in
theorem JB (ra rb:R) (B1 B2:Nat) (w:World) (qa qb:L) (ha:mV w B1 qa ra) (hb:mV w B2 qb rb):Calls Tryz.prog 13 #[qa.v ra,qb.v rb] w fun e w'=>e=.returned (.bool (JA ra rb))/\w.grownBy w' none:=by
 have HD:=Lib.hid (fun w' (hg:w.grownBy w' none)=>Fx B1 B2 qa.n1 qb.n1 qa.c1 qb.c1 qa.a1 qb.a1 ra.cx rb.cx w' ha.l1 hb.l1 (ha.dots.stay hg) (hb.dots.stay hg) ha.top)
 have HV:=Lib.hid (fun w' (hg:w.grownBy w' none)=>qd B1 B2 qa.n2 qb.n2 qa.c2 qb.c2 qa.a2 qb.a2 ra.val rb.val w' ha.l2 hb.l2 (ha.val.stay hg) (hb.val.stay hg))
 have HS:=Lib.hid (fun w' (hg:w.grownBy w' none)=>qd B1 B2 qa.n3 qb.n3 qa.c3 qb.c3 qa.a3 qb.a3 ra.sig rb.sig w' ha.l3 hb.l3 (ha.sig.stay hg) (hb.sig.stay hg))
 have hz:=str_eq qa.s qb.s
 rw[ha.str,hb.str]at hz
 obtain⟨o,ho⟩:∃o,o=JA ra rb:=⟨_,rfl⟩
 rw[<- ho]
 unfold JA at ho
 rw[<- hz]at ho
 clear ha hb hz
 generalize decide (ra.cx=rb.cx)=z4 at *
 generalize decide (ra.val=rb.val)=z6 at *
 generalize decide (ra.sig=rb.sig)=z7 at *
 obtain⟨s,a1,n1,c1,a2,n2,c2,a3,n3,c3⟩:=qa
 obtain⟨key,cl,sq,cx,g,val,sig⟩:=ra
 obtain⟨s',a1',n1',c1',vJ,vK,c2',a3',qh,c3'⟩:=qb
 obtain⟨key',cl',sq',cx',g',val',anP⟩:=rb
 simp only at ho HD HV HS
 obtain⟨z1,h1⟩:∃z,(s.toList==s'.toList)=z:=⟨_,rfl⟩
 obtain⟨z2,h2⟩:∃z,(cl==cl')=z:=⟨_,rfl⟩
 obtain⟨z3,h3⟩:∃z,(sq==sq')=z:=⟨_,rfl⟩
 obtain⟨z5,h5⟩:∃z,(g==g')=z:=⟨_,rfl⟩
 rw[h1,show decide (cl=cl')=(cl==cl') from by rw[Bool.eq_iff_iff];simp,show decide (sq=sq')=(sq==sq') from by rw[Bool.eq_iff_iff];simp,show decide (g=g')=(g==g') from by rw[Bool.eq_iff_iff];simp,h2,h3,h5]at ho
 have HO:=Lib.hid ho;clear ho
 replace h1:=Lib.hid h1
 replace h2:=Lib.hid h2
 replace h3:=Lib.hid h3
 replace h5:=Lib.hid h5
 show Calls _ _ #[vV s cl sq a1 n1 c1 g a2 n2 c2 a3 n3 c3,vV s' cl' sq' a1' n1' c1' g' vJ vK c2' a3' qh c3'] w _
 obtain⟨N,hN⟩:∃N,N=w.heap.size:=⟨_,rfl⟩
 obtain⟨M,hM⟩:∃M,M=w.heap.size+1:=⟨_,rfl⟩
 obtain⟨W0,hW0⟩:∃W0,W0=(w.alloc (.cells #[.string s,iV cl,iV sq,.slice a1 n1 c1,.bool g,.slice a2 n2 c2,.slice a3 n3 c3] 25)).alloc (.cells #[.string s',iV cl',iV sq',.slice a1' n1' c1',.bool g',.slice vJ vK c2',.slice a3' qh c3'] 25):=⟨_,rfl⟩
 have HG:Hid (w.grownBy W0 none/\aH W0 N 25 [.string s,iV cl,iV sq,.slice a1 n1 c1,.bool g,.slice a2 n2 c2,.slice a3 n3 c3]/\aH W0 M 25 [.string s',iV cl',iV sq',.slice a1' n1' c1',.bool g',.slice vJ vK c2',.slice a3' qh c3']):=by
  refine⟨?_,?_,?_⟩
  .rw[hW0];exact av (av (ah _ _) _) _
  .rw[hW0,hN];exact (aH.new _ _ _).alloc _
  .rw[hW0,hM,<- World.size_alloc];exact aH.new _ _ _
 have x0:=HG.out.2.1.cell (i:=0) rfl
 have y0:=HG.out.2.2.cell (i:=0) rfl
 have x1:=HG.out.2.1.cell (i:=1) rfl
 have y1:=HG.out.2.2.cell (i:=1) rfl
 have x2:=HG.out.2.1.cell (i:=2) rfl
 have y2:=HG.out.2.2.cell (i:=2) rfl
 have x3:=HG.out.2.1.cell (i:=3) rfl
 have y3:=HG.out.2.2.cell (i:=3) rfl
 have x4:=HG.out.2.1.cell (i:=4) rfl
 have y4:=HG.out.2.2.cell (i:=4) rfl
 have x5:=HG.out.2.1.cell (i:=5) rfl
 have y5:=HG.out.2.2.cell (i:=5) rfl
 have x6:=HG.out.2.1.cell (i:=6) rfl
 have y6:=HG.out.2.2.cell (i:=6) rfl
 go_enter Tryz.func13,Tryz.ntmps13
 go_upto_region 1 with fail
 rw[<- hW0,<- hM,<- hN]
 clear hW0 hN hM
 cases z1 with
 | false=>
  have q:=h1.out
  go_wp2
  go_ret
  exact⟨by rw[HO.out];simp,HG.out.1⟩
 | true=>
  have q1:=h1.out
  cases z2 with
  | false=>
   have q:=h2.out
   go_wp2
   go_ret
   exact⟨by rw[HO.out];simp,HG.out.1⟩
  | true=>
   have q2:=h2.out
   cases z3 with
   | false=>
    have q:=h3.out
    go_wp2
    go_ret
    exact⟨by rw[HO.out];simp,HG.out.1⟩
   | true=>
    have q3:=h3.out
    go_wp2_with fail
    refine (HD.out _ HG.out.1).mono ?_
    rintro e w4 ⟨rfl,hg⟩
    have lY:Hid (w.grownBy w4 none/\aH w4 N 25 [.string s,iV cl,iV sq,.slice a1 n1 c1,.bool g,.slice a2 n2 c2,.slice a3 n3 c3]/\aH w4 M 25 [.string s',iV cl',iV sq',.slice a1' n1' c1',.bool g',.slice vJ vK c2',.slice a3' qh c3']):=⟨aj HG.out.1 hg,HG.out.2.1.grown hg (by simp),HG.out.2.2.grown hg (by simp)⟩
    clear hg HG
    have HG:=lY;clear lY
    replace x4:=HG.out.2.1.cell (i:=4) rfl
    replace y4:=HG.out.2.2.cell (i:=4) rfl
    replace x5:=HG.out.2.1.cell (i:=5) rfl
    replace y5:=HG.out.2.2.cell (i:=5) rfl
    replace x6:=HG.out.2.1.cell (i:=6) rfl
    replace y6:=HG.out.2.2.cell (i:=6) rfl
    cases z4 with
    | false=>
     go_wp2
     go_ret
     exact⟨by rw[HO.out];simp,HG.out.1⟩
    | true=>
     cases z5 with
     | false=>
      have q:=h5.out
      go_wp2
      go_ret
      exact⟨by rw[HO.out];simp,HG.out.1⟩
     | true=>
      have q5:=h5.out
      go_wp2_with fail
      refine (HV.out _ HG.out.1).mono ?_
      rintro e w6 ⟨rfl,hg⟩
      have Jv:Hid (w.grownBy w6 none/\aH w6 N 25 [.string s,iV cl,iV sq,.slice a1 n1 c1,.bool g,.slice a2 n2 c2,.slice a3 n3 c3]/\aH w6 M 25 [.string s',iV cl',iV sq',.slice a1' n1' c1',.bool g',.slice vJ vK c2',.slice a3' qh c3']):=⟨aj HG.out.1 hg,HG.out.2.1.grown hg (by simp),HG.out.2.2.grown hg (by simp)⟩
      clear hg HG
      have HG:=Jv;clear Jv
      replace x6:=HG.out.2.1.cell (i:=6) rfl
      replace y6:=HG.out.2.2.cell (i:=6) rfl
      cases z6 with
      | false=>
       go_wp2
       go_ret
       exact⟨by rw[HO.out];simp,HG.out.1⟩
      | true=>
       go_wp2_with fail
       refine (HS.out _ HG.out.1).mono ?_
       rintro e w7 ⟨rfl,hg⟩
       have yx:Hid (w.grownBy w7 none/\aH w7 N 25 [.string s,iV cl,iV sq,.slice a1 n1 c1,.bool g,.slice a2 n2 c2,.slice a3 n3 c3]/\aH w7 M 25 [.string s',iV cl',iV sq',.slice a1' n1' c1',.bool g',.slice vJ vK c2',.slice a3' qh c3']):=⟨aj HG.out.1 hg,HG.out.2.1.grown hg (by simp),HG.out.2.2.grown hg (by simp)⟩
       clear hg HG
       have HG:=yx;clear yx
       go_wp2
       go_ret
       exact⟨by rw[HO.out];simp,HG.out.1⟩
end Rc
end
section
open Go.RowKit Ow
set_option maxHeartbeats 2000000 in
theorem D7 (B n cap:Nat) (a:Option Addr) (l:List Nat) (w:World) (hl:l.length=n) (hn:n<=1000000) (hP:BytesAt w B a cap l):
  Calls Tryz.prog 25 #[.slice a n cap] w fun e w'=>∃v,e=.returned v/\w.grownBy w' none/\w'.ownsRow w.heap.size 5 1 v n (l.map dD):=by
 obtain⟨v2,w2,hr2,ho2,hg2⟩:=nD w w.heap.size 0 B cap n (.slice none 0 0) [] a l (World.ownsRow_nil w _ 5 1) hl hP (by omega) (Nat.le_refl _)
 rw[Nat.zero_add,List.nil_append]at ho2
 have HS:=Lib.hid (And.intro ho2 hg2);clear ho2 hg2
 have HR:=Lib.hid hr2;clear hr2
 go_enter Tryz.func25,Tryz.ntmps25
 go_upto_region 2 with (fail)
 refine wp_region_lit ?_
 refine Fg.aL (v:=.slice none 0 0) (w':=w) rfl (Fg.run_move rfl rfl) ?_
 refine Fg.aL (v:=.slice a n cap) (w':=w) rfl (Fg.run_move rfl rfl) ?_
 refine wpList_append_run rfl (.tmp 4) (.tmp 5) 22 rfl rfl _ _ rfl rfl _ _ HR.out ?_
 refine Fg.aL (v:=v2) (w':=w2) rfl (Fg.run_assign rfl rfl) ?_
 refine wpList_nil ?_
 simp only[Act.put,List.setIfInBounds_toArray,List.set_cons_succ,List.set_cons_zero]
 go_wp2
 go_ret
 exact⟨v2,rfl,HS.out.2,HS.out.1⟩
end
section
open Go.RowKit Ow Wi Ve
namespace Rc
set_option maxHeartbeats 2000000 in
theorem Qj (B n cap:Nat) (a:Option Addr) (l:List D) (w:World) (hl:l.length=n) (hn:n<=1000000) (hP:dK w B a l):
  Calls Tryz.prog 24 #[.slice a n cap] w fun e w'=>∃v,e=.returned v/\w.grownBy w' none/\ji w' w.heap.size v n l:=by
 obtain⟨v2,w2,hr2,ho2,hg2⟩:∃v' w',(Builtin.append_ #[23,23] 23 #[.slice none 0 0,.slice a n cap]).run Tryz.prog w=.ok v' w'/\ji w' w.heap.size v' n l/\w.grownBy w' none:=by
  have hown:ji w w.heap.size (.slice none 0 0) 0 []:=World.ownsRow_nil w _ 42 2
  cases a with
  | none=>
   obtain rfl:l=[]:=by
    rcases hP.cells with h |⟨_,_,h,_⟩
    .exact List.eq_nil_of_length_eq_zero h
    .cases h
   obtain rfl:n=0:=hl.symm
   exact⟨_,w,Ep w w.heap.size 0 cap _ _ hown,hown,ah _ _⟩
  | some ad=>
   obtain⟨v',w',h1,h2,h3⟩:=sH w w.heap.size B (.slice none 0 0) 0 [] (some ad) n cap l hown hl hP (fun e=>by cases e) (by omega) (Nat.le_refl _)
   rw[Nat.zero_add,List.nil_append]at h2
   exact⟨v',w',h1,h2,h3⟩
 have HS:=Lib.hid (And.intro ho2 hg2);clear ho2 hg2
 have HR:=Lib.hid hr2;clear hr2
 go_enter Tryz.func24,Tryz.ntmps24
 go_upto_region 2 with (fail)
 refine wp_region_lit ?_
 refine Fg.aL (v:=.slice none 0 0) (w':=w) rfl (Fg.run_move rfl rfl) ?_
 refine Fg.aL (v:=.slice a n cap) (w':=w) rfl (Fg.run_move rfl rfl) ?_
 refine Lib.wpList_append_run _ rfl _ _ _ _ rfl _ _ rfl rfl _ _ HR.out ?_
 refine Fg.aL (v:=v2) (w':=w2) rfl (Fg.run_assign rfl rfl) ?_
 refine wpList_nil ?_
 simp only[Act.put,List.setIfInBounds_toArray,List.set_cons_succ,List.set_cons_zero]
 go_wp2
 go_ret
 exact⟨v2,rfl,HS.out.2,HS.out.1⟩
set_option maxHeartbeats 4000000 in
theorem JC (r:R) (B:Nat) (w:World) (q:L) (h:mV w B q r) (hs:q.n1<=1000000/\q.n2<=1000000/\q.n3<=1000000):Calls Tryz.prog 12 #[q.v r] w (Ri w r):=by
 have HD:=Lib.hid (fun w' (hg:w.grownBy w' none)=>Qj B q.n1 q.c1 q.a1 r.cx w' h.l1 hs.1 (h.dots.stay hg))
 have HV:=Lib.hid (fun w' (hg:w.grownBy w' none)=>D7 B q.n2 q.c2 q.a2 r.val w' h.l2 hs.2.1 (h.val.stay hg))
 have HS:=Lib.hid (fun w' (hg:w.grownBy w' none)=>D7 B q.n3 q.c3 q.a3 r.sig w' h.l3 hs.2.2 (h.sig.stay hg))
 have HK:=Lib.hid (And.intro h.str (And.intro h.val.byte (And.intro h.sig.byte h.top)))
 obtain⟨Q,hQ⟩:∃Q,Q=Ri w r:=⟨_,rfl⟩
 rw[<- hQ]
 have HQ:=Lib.hid hQ;clear hQ h hs
 obtain⟨s,a1,n1,c1,a2,n2,c2,a3,n3,c3⟩:=q
 obtain⟨key,cl,sq,cx,g,val,sig⟩:=r
 show Calls _ _ #[.agg #[.string s,iV cl,iV sq,.slice a1 n1 c1,.bool g,.slice a2 n2 c2,.slice a3 n3 c3]] w _
 simp only at HD HV HS HK
 obtain⟨N,hN⟩:∃N,N=w.heap.size:=⟨_,rfl⟩
 obtain⟨M,hM⟩:∃M,M=w.heap.size+1:=⟨_,rfl⟩
 obtain⟨W0,hW0⟩:∃W0,W0=(w.alloc (.cells #[.string s,iV cl,iV sq,.slice a1 n1 c1,.bool g,.slice a2 n2 c2,.slice a3 n3 c3] 25)).alloc (.cells z7.toArray 25):=⟨_,rfl⟩
 have HG:Hid (aH W0 N 25 [.string s,iV cl,iV sq,.slice a1 n1 c1,.bool g,.slice a2 n2 c2,.slice a3 n3 c3]/\aH W0 M 25 z7/\w.grownBy W0 none):=by
  refine⟨?_,?_,?_⟩
  .rw[hW0,hN];exact (aH.new _ _ _).alloc _
  .rw[hW0,hM,<- World.size_alloc];exact aH.new _ _ _
  .rw[hW0];exact av (av (ah _ _) _) _
 have HNM:Hid (w.heap.size<=N/\w.heap.size<=M/\N≠M):=⟨by omega,by omega,by omega⟩
 have x3:=HG.out.1.cell (i:=3) rfl
 have f3:=HG.out.1.free 3
 go_enter Tryz.func12,Tryz.ntmps12
 go_wp2_with fail
 rw[show (w.alloc (.cells #[.string s,iV cl,iV sq,.slice a1 n1 c1,.bool g,.slice a2 n2 c2,.slice a3 n3 c3] 25)).alloc (.cells #[.string ⟨#[]⟩,iV 0,iV 0,.slice none 0 0,.bool false,.slice none 0 0,.slice none 0 0] 25)=W0 from hW0.symm,<- hM,<- hN]
 clear hW0 hN hM
 refine (HD.out W0 HG.out.2.2).mono ?_
 rintro e w1 ⟨v1,rfl,hg,ho⟩
 obtain⟨b1,d1,rfl⟩:=nZ ho
 have iA:Hid ((aH w1 N 25 [.string s,iV cl,iV sq,.slice a1 n1 c1,.bool g,.slice a2 n2 c2,.slice a3 n3 c3]/\aH w1 M 25 z7/\w.grownBy w1 none)/\ji w1 w.heap.size (.slice b1 n1 d1) n1 cx):=⟨⟨HG.out.1.grown hg (by simp),HG.out.2.1.grown hg (by simp),aj HG.out.2.2 hg⟩,mo ho HG.out.2.2.size⟩
 clear hg ho HG x3 f3
 have x3:=iA.out.1.1.cell (i:=3) rfl
 have f3:=iA.out.1.1.free 3
 have x5:=iA.out.1.1.cell (i:=5) rfl
 go_wp2_with fail
 have HG2:Hid ((aH (w1.setCell ⟨N,3,none⟩ (.slice b1 n1 d1)) N 25 [.string s,iV cl,iV sq,.slice b1 n1 d1,.bool g,.slice a2 n2 c2,.slice a3 n3 c3]/\aH (w1.setCell ⟨N,3,none⟩ (.slice b1 n1 d1)) M 25 z7/\w.grownBy (w1.setCell ⟨N,3,none⟩ (.slice b1 n1 d1)) none)/\ji (w1.setCell ⟨N,3,none⟩ (.slice b1 n1 d1)) w.heap.size (.slice b1 n1 d1) n1 cx):=
  ⟨⟨iA.out.1.1.set 3 _,iA.out.1.2.1.other (a:=⟨N,3,none⟩) HNM.out.2.2 _,aO iA.out.1.2.2 (p:=⟨N,3,none⟩) HNM.out.1 _⟩,dQ iA.out.2 iA.out.1.1 (by decide) (aJ (ah w1 (some N)) 3 _)⟩
 clear iA x3 f3 x5
 generalize w1.setCell ⟨N,3,none⟩ (.slice b1 n1 d1)=w2 at *
 refine (HV.out w2 HG2.out.1.2.2).mono ?_
 rintro e w3 ⟨v3,rfl,hg,ho⟩
 obtain⟨b2,d2,rfl⟩:=sI ho
 have gq:Hid ((aH w3 N 25 [.string s,iV cl,iV sq,.slice b1 n1 d1,.bool g,.slice a2 n2 c2,.slice a3 n3 c3]/\aH w3 M 25 z7/\w.grownBy w3 none)/\ji w3 w.heap.size (.slice b1 n1 d1) n1 cx/\w3.ownsRow w.heap.size 5 1 (.slice b2 n2 d2) n2 (val.map dD)):=
  ⟨⟨HG2.out.1.1.grown hg (by simp),HG2.out.1.2.1.grown hg (by simp),aj HG2.out.1.2.2 hg⟩,HG2.out.2.kept hg (by cases (Value.slice b1 n1 d1).ownBlock<;>simp),mo ho HG2.out.1.2.2.size⟩
 clear hg ho HG2
 have x5:=gq.out.1.1.cell (i:=5) rfl
 have f5:=gq.out.1.1.free 5
 have x6:=gq.out.1.1.cell (i:=6) rfl
 go_wp2_with fail
 have hgs:=aJ (ah w3 (some N)) 5 (.slice b2 n2 d2)
 have lY:Hid ((aH (w3.setCell ⟨N,5,none⟩ (.slice b2 n2 d2)) N 25 [.string s,iV cl,iV sq,.slice b1 n1 d1,.bool g,.slice b2 n2 d2,.slice a3 n3 c3]/\aH (w3.setCell ⟨N,5,none⟩ (.slice b2 n2 d2)) M 25 z7/\w.grownBy (w3.setCell ⟨N,5,none⟩ (.slice b2 n2 d2)) none)/\ji (w3.setCell ⟨N,5,none⟩ (.slice b2 n2 d2)) w.heap.size (.slice b1 n1 d1) n1 cx/\(w3.setCell ⟨N,5,none⟩ (.slice b2 n2 d2)).ownsRow w.heap.size 5 1 (.slice b2 n2 d2) n2 (val.map dD)):=
  ⟨⟨gq.out.1.1.set 5 _,gq.out.1.2.1.other (a:=⟨N,5,none⟩) HNM.out.2.2 _,aO gq.out.1.2.2 (p:=⟨N,5,none⟩) HNM.out.1 _⟩,dQ gq.out.2.1 gq.out.1.1 (by decide) hgs,dQ gq.out.2.2 gq.out.1.1 (by decide) hgs⟩
 clear gq x5 f5 x6 hgs
 generalize w3.setCell ⟨N,5,none⟩ (.slice b2 n2 d2)=w4 at *
 refine (HS.out w4 lY.out.1.2.2).mono ?_
 rintro e w5 ⟨v5,rfl,hg,ho⟩
 obtain⟨b3,d3,rfl⟩:=sI ho
 have kH:Hid ((aH w5 N 25 [.string s,iV cl,iV sq,.slice b1 n1 d1,.bool g,.slice b2 n2 d2,.slice a3 n3 c3]/\aH w5 M 25 z7/\w.grownBy w5 none)/\ji w5 w.heap.size (.slice b1 n1 d1) n1 cx/\w5.ownsRow w.heap.size 5 1 (.slice b2 n2 d2) n2 (val.map dD)/\w5.ownsRow w.heap.size 5 1 (.slice b3 n3 d3) n3 (sig.map dD)):=
  ⟨⟨lY.out.1.1.grown hg (by simp),lY.out.1.2.1.grown hg (by simp),aj lY.out.1.2.2 hg⟩,lY.out.2.1.kept hg (by cases (Value.slice b1 n1 d1).ownBlock<;>simp),zL lY.out.2.2 hg,mo ho lY.out.1.2.2.size⟩
 clear hg ho lY
 have x0:=kH.out.1.1.cell (i:=0) rfl
 have y0:=kH.out.1.2.1.cell (i:=0) rfl
 have g0:=kH.out.1.2.1.free 0
 have x1:=kH.out.1.1.cell (i:=1) rfl
 have y1:=kH.out.1.2.1.cell (i:=1) rfl
 have g1:=kH.out.1.2.1.free 1
 have x2:=kH.out.1.1.cell (i:=2) rfl
 have y2:=kH.out.1.2.1.cell (i:=2) rfl
 have g2:=kH.out.1.2.1.free 2
 have x3:=kH.out.1.1.cell (i:=3) rfl
 have y3:=kH.out.1.2.1.cell (i:=3) rfl
 have g3:=kH.out.1.2.1.free 3
 have x4:=kH.out.1.1.cell (i:=4) rfl
 have y4:=kH.out.1.2.1.cell (i:=4) rfl
 have g4:=kH.out.1.2.1.free 4
 have x5:=kH.out.1.1.cell (i:=5) rfl
 have y5:=kH.out.1.2.1.cell (i:=5) rfl
 have g5:=kH.out.1.2.1.free 5
 have x6:=kH.out.1.1.cell (i:=6) rfl
 have y6:=kH.out.1.2.1.cell (i:=6) rfl
 have g6:=kH.out.1.2.1.free 6
 have f6:=kH.out.1.1.free 6
 have hNM:=HNM.out.2.2
 have hMN:M≠N:=fun e=>hNM e.symm
 go_wp2_with fail
 obtain⟨⟨hb,hm,hg⟩,h1,h2,h3⟩:=kH.out
 have hgs:=aJ (ah w5 (some N)) 6 (.slice b3 n3 d3)
 have k1:=dQ h1 hb (by decide) hgs
 have k2:=dQ h2 hb (by decide) hgs
 have k3:=dQ h3 hb (by decide) hgs
 have km:=hm.other (a:=⟨N,6,none⟩) hNM (.slice b3 n3 d3)
 have kg:=aO hg (p:=⟨N,6,none⟩) HNM.out.1 (.slice b3 n3 d3)
 generalize w5.setCell ⟨N,6,none⟩ (.slice b3 n3 d3)=w6 at *
 have Ua:=aJ (aJ (aJ (aJ (aJ (aJ (aJ (ah w6 (some M)) 0 (.string s)) 1 (.int .i64 cl)) 2 (.int .i64 sq)) 3 (.slice b1 n1 d1)) 4 (.bool g)) 5 (.slice b2 n2 d2)) 6 (.slice b3 n3 d3)
 have zw:=((((((km.set 0 (.string s)).set 1 (.int .i64 cl)).set 2 (.int .i64 sq)).set 3 (.slice b1 n1 d1)).set 4 (.bool g)).set 5 (.slice b2 n2 d2)).set 6 (.slice b3 n3 d3)
 refine bodyPost_ret (v:=.agg #[.string s,.int .i64 cl,.int .i64 sq,.slice b1 n1 d1,.bool g,.slice b2 n2 d2,.slice b3 n3 d3]) (results_cell_row Tryz.results12 _ _ M 25 _ (0,0) _ rfl zw Tryz.underlying25 rfl lN) rfl ?_
 rw[HQ.out]
 exact⟨⟨s,b1,n1,d1,b2,n2,d2,b3,n3,d3⟩,rfl,aW kg Ua HNM.out.2.1,HK.out.1,dQ k1 km (by decide) Ua,dQ k2 km (by decide) Ua,dQ k3 km (by decide) Ua,HK.out.2.1,HK.out.2.2.1,HK.out.2.2.2⟩
end Rc
end
section
open Go.RowKit Ow Wi Ve
namespace Rc
theorem LW (w:World) (l:List Nat) (f:Nat×Nat) (n:Nat) (hn:l.length=n) (hm:n<9223372036854775808) (hb:∀i,l.getD i 0<256):
  BytesAt (w.alloc (.cells (l.map dD).toArray 5 f)) (w.heap.size+1) (some ⟨w.heap.size,0,none⟩) n l:=
 ⟨by simp,by omega,hm,hb,Or.inr ⟨w.heap.size,0,rfl,by omega,fun i hi=>by
  have h:(w.alloc (.cells (l.map dD).toArray 5 f)).heap[w.heap.size]?=some (.cells (l.map dD).toArray 5 f):=heap_alloc_new _ _
  rw[Nat.zero_add]
  unfold World.cell?
  rw[h]
  simp[List.getElem?_eq_getElem hi]⟩⟩
def exR:R:=⟨[97],1,1,[],false,[120],[]⟩
def exO:R:=⟨[97],1,1,[(1,1)],false,[120],[]⟩
theorem Fy:(oZ exR).length=44:=by decide +kernel
theorem aaR:(oZ exR).getD 0 0=1:=by decide +kernel
theorem aaS:oZ exO=[]:=by decide +kernel
theorem UJ:dY exR=false:=by decide +kernel
set_option maxRecDepth 100000 in
set_option maxHeartbeats 4000000 in
theorem LX (w:World):Calls Tryz.prog 4 #[] w fun e w'=>e=.returned (.bool true)/\w.grownBy w' none:=by
 have hcv:=fun (w:World) (C:Array Value) (n c:Nat)=>Lib.run_convert_bytes_const (P:=Tryz.prog) w 22 5 C n c Tryz.underlying22 Tryz.underlying5
 obtain⟨G,hG⟩:∃G,G=w.heap.size:=⟨_,rfl⟩
 obtain⟨N,hN⟩:∃N,N=w.heap.size+1:=⟨_,rfl⟩
 obtain⟨W0,hW0⟩:∃W0,W0=(w.alloc (.cells #[.int .u8 120] 5 (1,2))).alloc (.cells #[.string ⟨#[97]⟩,iV 1,iV 1,.slice none 0 0,.bool false,.slice (some ⟨G,0,none⟩) 1 1,.slice none 0 0] 25):=⟨_,rfl⟩
 have HG:Hid (BytesAt W0 N (some ⟨G,0,none⟩) 1 [120]/\aH W0 N 25 [.string ⟨#[97]⟩,iV 1,iV 1,.slice none 0 0,.bool false,.slice (some ⟨G,0,none⟩) 1 1,.slice none 0 0]/\w.grownBy W0 none):=by
  refine⟨?_,?_,?_⟩
  .rw[hW0,hG,hN];exact (LW w [120] (1,2) 1 rfl (by decide) (fun i=>by rcases i with _|i<;>simp)).stay (av (ah _ _) _)
  .rw[hW0,hN];exact kQ _ _ _ (by simp)
  .rw[hW0];exact av (av (ah _ _) _) _
 have kG:∀w',W0.grownBy w' none->mV w' N ⟨⟨#[97]⟩,none,0,0,some ⟨G,0,none⟩,1,1,none,0,0⟩ exR:=fun w' hg=>by
  have hl:N<=w'.heap.size:=Nat.le_trans (Nat.le_of_lt HG.out.2.1.lt) hg.size
  exact⟨rfl,rfl,rfl,rfl,⟨hl,Or.inl rfl⟩,HG.out.1.stay hg,⟨hl,Nat.le_refl _,(by decide:(0:Nat)<9223372036854775808),fun i=>by simp[exR],Or.inl rfl⟩,(by decide:(0:Nat)<9223372036854775808)⟩
 have HT:=Lib.hid (qx exR N W0 _ (kG W0 (ah _ _)))
 have HRR:=Lib.hid (fun w' hg=>lM exR N w' _ (kG w' hg))
 rw[UJ]at HRR
 clear kG
 go_enter Tryz.func4,Tryz.ntmps4
 go_wp2_with fail
 rw[show (w.alloc (.cells #[.int .u8 120] 5 (1,2))).alloc (.cells #[.string ⟨#[97]⟩,iV 1,iV 1,.slice none 0 0,.bool false,.slice (some ⟨w.heap.size,0,none⟩) 1 1,.slice none 0 0] 25)=W0 from by rw[hW0,hG],<- hN,<- hG]
 clear hW0 hN hG
 refine HT.out.mono ?_
 rintro e w1 ⟨at1,ct,rfl,hg,hb⟩
 rw[Fy]
 obtain⟨pb,po,rfl,_,hc⟩:=hb.cells.resolve_left (by rw[Fy];decide)
 have t0:=hc 0 (by rw[Fy];decide)
 rw[aaR]at t0
 have hct:=hb.fits
 rw[Fy]at hct
 have iA:Hid (BytesAt w1 N (some ⟨G,0,none⟩) 1 [120]/\aH w1 N 25 [.string ⟨#[97]⟩,iV 1,iV 1,.slice none 0 0,.bool false,.slice (some ⟨G,0,none⟩) 1 1,.slice none 0 0]/\W0.grownBy w1 none/\w1.cell? ⟨pb,po,none⟩=some (.int .u8 1)):=⟨HG.out.1.stay hg,HG.out.2.1.grown hg (by simp),hg,t0⟩
 clear hg hb hc t0 HT
 have m0:=iA.out.2.1.cell (i:=0) rfl
 have m1:=iA.out.2.1.cell (i:=1) rfl
 have m2:=iA.out.2.1.cell (i:=2) rfl
 have m3:=iA.out.2.1.cell (i:=3) rfl
 have m4:=iA.out.2.1.cell (i:=4) rfl
 have m5:=iA.out.2.1.cell (i:=5) rfl
 have m6:=iA.out.2.1.cell (i:=6) rfl
 obtain⟨M,hM⟩:∃M,M=w1.heap.size:=⟨_,rfl⟩
 obtain⟨K,hK⟩:∃K,K=w1.heap.size+1:=⟨_,rfl⟩
 obtain⟨W2,hW2⟩:∃W2,W2=(w1.alloc (.cells #[.string ⟨#[97]⟩,iV 1,iV 1,.slice (some ⟨w1.heap.size+1,0,none⟩) 1 1,.bool false,.slice (some ⟨G,0,none⟩) 1 1,.slice none 0 0] 25)).alloc (.cells #[iV 1,iV 1] 42):=⟨_,rfl⟩
 have hgW:w1.grownBy W2 none:=by rw[hW2];exact av (av (ah _ _) _) _
 have HG2:Hid (BytesAt W2 N (some ⟨G,0,none⟩) 1 [120]/\W0.grownBy W2 none/\aH W2 N 25 [.string ⟨#[97]⟩,iV 1,iV 1,.slice none 0 0,.bool false,.slice (some ⟨G,0,none⟩) 1 1,.slice none 0 0]/\dK W2 (K+1) (some ⟨K,0,none⟩) [(1,1)]/\N<=K):=by
  refine⟨iA.out.1.stay hgW,aj iA.out.2.2.1 hgW,iA.out.2.1.grown hgW (by simp),?_,by rw[hK];have:=iA.out.2.1.lt;omega⟩
  have h:=wz (w1.alloc (.cells #[.string ⟨#[97]⟩,iV 1,iV 1,.slice (some ⟨w1.heap.size+1,0,none⟩) 1 1,.bool false,.slice (some ⟨G,0,none⟩) 1 1,.slice none 0 0] 25)) 1 1 42
  rw[World.size_alloc]at h
  rw[hW2,hK];exact h
 have t2:((w1.alloc (.cells #[.string ⟨#[97]⟩,iV 1,iV 1,.slice (some ⟨w1.heap.size+1,0,none⟩) 1 1,.bool false,.slice (some ⟨G,0,none⟩) 1 1,.slice none 0 0] 25)).alloc (.cells #[iV 1,iV 1] 42)).cell? ⟨pb,po,none⟩=some (.int .u8 1):=by
  rw[<- hW2,bf hgW (block_lt_of_cell iA.out.2.2.2) (by simp)];exact iA.out.2.2.2
 have HRO:=Lib.hid (qx exO (K+1) W2 ⟨⟨#[97]⟩,some ⟨K,0,none⟩,1,1,some ⟨G,0,none⟩,1,1,none,0,0⟩ ⟨rfl,rfl,rfl,rfl,HG2.out.2.2.2.1,HG2.out.1.up (by have:=HG2.out.2.2.2.2;omega) HG2.out.2.2.2.1.lim,⟨HG2.out.2.2.2.1.lim,Nat.le_refl _,(by decide:(0:Nat)<9223372036854775808),fun i=>by simp[exO],Or.inl rfl⟩,(by decide:(1:Nat)<9223372036854775808)⟩)
 rw[aaS]at HRO
 clear hgW
 go_wp2_with fail
 rw[<- hW2]
 rw[show (w1.heap.size+1:Nat)=K from hK.symm]
 clear t2 hW2 hK
 refine HRO.out.mono ?_
 rintro e w3 ⟨a3,c3,rfl,hg,_⟩
 have gq:Hid (W0.grownBy w3 none/\aH w3 N 25 [.string ⟨#[97]⟩,iV 1,iV 1,.slice none 0 0,.bool false,.slice (some ⟨G,0,none⟩) 1 1,.slice none 0 0]):=⟨aj HG2.out.2.1 hg,HG2.out.2.2.1.grown hg (by simp)⟩
 clear hg m0 m1 m2 m3 m4 m5 m6
 have m0:=gq.out.2.cell (i:=0) rfl
 have m1:=gq.out.2.cell (i:=1) rfl
 have m2:=gq.out.2.cell (i:=2) rfl
 have m3:=gq.out.2.cell (i:=3) rfl
 have m4:=gq.out.2.cell (i:=4) rfl
 have m5:=gq.out.2.cell (i:=5) rfl
 have m6:=gq.out.2.cell (i:=6) rfl
 go_wp2_with fail
 refine (HRR.out _ gq.out.1).mono ?_
 rintro e w4 ⟨rfl,hg⟩
 have lY:=Lib.hid (aj HG.out.2.2 (aj gq.out.1 hg))
 clear hg m0 m1 m2 m3 m4 m5 m6
 go_wp2
 go_ret
 exact⟨rfl,lY.out⟩
def vL (r:R):Bool:=decide (300<r.key.length)||decide (50<r.cx.length)||decide (2000<r.val.length)||decide (300<r.sig.length)
set_option maxHeartbeats 2000000 in
theorem Qk (b:Bool) (r:R) (B:Nat) (w:World) (q:L) (h:mV w B q r) (hb:vL r=b):Calls Tryz.prog 5 #[q.v r] w fun e w'=>e=.returned (.bool b)/\w.grownBy w' none:=by
 unfold vL at hb
 rw[h.Ka,h.l1,h.l2,h.l3]at hb
 clear h
 obtain⟨s,a1,n1,c1,a2,n2,c2,a3,n3,c3⟩:=q
 obtain⟨key,cl,sq,cx,g,val,sig⟩:=r
 simp only at hb
 show Calls _ _ #[vV s cl sq a1 n1 c1 g a2 n2 c2 a3 n3 c3] w _
 have e1:decide (300<s.size)=decide ((300:Int)<(s.size:Int)):=by rw[Bool.eq_iff_iff];simp;omega
 have e2:decide (50<n1)=decide ((50:Int)<(n1:Int)):=by rw[Bool.eq_iff_iff];simp;omega
 have e3:decide (2000<n2)=decide ((2000:Int)<(n2:Int)):=by rw[Bool.eq_iff_iff];simp;omega
 have e4:decide (300<n3)=decide ((300:Int)<(n3:Int)):=by rw[Bool.eq_iff_iff];simp;omega
 rw[e1,e2,e3,e4]at hb
 clear e1 e2 e3 e4
 obtain⟨y1,h1⟩:∃y,decide ((300:Int)<(s.size:Int))=y:=⟨_,rfl⟩
 obtain⟨y2,h2⟩:∃y,decide ((50:Int)<(n1:Int))=y:=⟨_,rfl⟩
 obtain⟨y3,h3⟩:∃y,decide ((2000:Int)<(n2:Int))=y:=⟨_,rfl⟩
 obtain⟨y4,h4⟩:∃y,decide ((300:Int)<(n3:Int))=y:=⟨_,rfl⟩
 rw[h1,h2,h3,h4]at hb
 have HB:=Lib.hid hb;clear hb
 have HG:Hid (w.grownBy (w.alloc (.cells #[.string s,iV cl,iV sq,.slice a1 n1 c1,.bool g,.slice a2 n2 c2,.slice a3 n3 c3] 25)) none):=av (ah _ _) _
 go_enter Tryz.func5,Tryz.ntmps5
 cases y1 with
 | true=>go_wp2;go_ret;exact⟨by rw[<- HB.out];rfl,HG.out⟩
 | false=>
  cases y2 with
  | true=>go_wp2;go_ret;exact⟨by rw[<- HB.out];rfl,HG.out⟩
  | false=>
   cases y3 with
   | true=>go_wp2;go_ret;exact⟨by rw[<- HB.out];rfl,HG.out⟩
   | false=>
    cases y4 with
    | true=>go_wp2;go_ret;exact⟨by rw[<- HB.out];rfl,HG.out⟩
    | false=>go_wp2;go_ret;exact⟨by rw[<- HB.out];rfl,HG.out⟩
end Rc
end
section
open Go.RowKit Ow Wi Ve Rc Ed Sb
namespace Gr
def _root_.Go.Proofs.YtmijliomjpphkaaGreatDoor.Fg.It.aiq (T:TypeId) (n:Nat) (l:List Nat):Fg.It:=⟨fun v w=>∃g,v=.slice (some ⟨g,0,none⟩) n n/\aH w g T (l.map dD),fun _ _ _ ⟨g,e,h⟩ hg=>⟨g,e,h.grown hg (by simp)⟩⟩
theorem Cb {w w':World} {B:Nat} {q:L} {r:R} (h:mV w B q r) {row:Option Nat} (hg:w.grownBy w' row) (hr:∀x,row=some x->B<=x):mV w' B q r:=
 ⟨h.str,h.l1,h.l2,h.l3,h.dots.kept hg hr,h.val.kept hg hr,h.sig.kept hg hr,h.top⟩
theorem aaT {r:R} (h:vL r=false):r.cx.length<=1000000/\r.val.length<=1000000/\r.sig.length<=1000000:=by
 simp only[vL,Bool.or_eq_false_iff,decide_eq_false_iff_not]at h
 omega
theorem pR (l:List Nat) (r:R) (h:gV r=true):dY (rJ l r)=true:=by
 unfold dY
 rw[show gV (rJ l r)=true from h]
 simp[rJ,Xq]
theorem JD (l:List Nat) (r:R) (h:gV r=true):Ur (j5 (enc (Nt l))) (rJ l r)=0:=by
 unfold Ur
 rw[pR l r h,if_pos rfl,show Jo (j5 (enc (Nt l))) (rJ l r).sig (dZ (rJ l r))=true from Xr (Um _ _)]
 rfl
theorem Ql {b:List Nat} (h:Ab b=true):dY (lD (some b))=true/\kN (lD (some b))=b:=by
 unfold Ab at h
 simp only[Bool.and_eq_true,decide_eq_true_eq]at h
 refine⟨h.1,?_⟩
 unfold kN
 rw[h.1,if_pos rfl]
 exact h.2
theorem D8 (l:List Nat) (r:R) (h:gV r=true):Ab (kN (rJ l r))=true/\lD (some (kN (rJ l r)))=rJ l r:=by
 unfold kN
 rw[pR l r h,if_pos rfl]
 exact get_put (pR l r h)
theorem XJ {w:World} {B:Nat} {q:L} {r:R} (h:mV w B q r) (hr:dY r=true):(kN r).length<=3000:=by
 obtain⟨hs,h64⟩:=yY hr
 unfold kN
 rw[hr,if_pos rfl]
 unfold uV
 have:=(lK h hs).1
 rw[List.length_append]
 omega
theorem Qm {r:R} (h:gV r=false):(oZ r).length=0:=by
 unfold oZ
 rw[h]
 rfl
theorem NG (n cap B:Nat) (a:Option Addr) (l:List Nat) (w:World) (hl:l.length=n) (hn:n<=1000000) (hP:BytesAt w B a cap l):
  Calls Tryz.prog 6 #[.slice a n cap] w fun e w'=>∃(q:L) (r:R) (hv:Int),e=.returned (.tuple #[q.v r,.int .i64 hv])/\w.grownBy w' none/\(hv=0->mV w' w'.heap.size q r/\dY r=true/\kN r=l)/\(Ab l=true->hv=0/\r=lD (some l)):=by
 refine (UG n cap B a l w hl hn hP).mono ?_
 rintro e w' ⟨hg,h⟩
 cases hb:Ab l with
 | true=>
  rw[hb,if_pos rfl]at h
  obtain⟨q,he,hr,_⟩:=h
  exact⟨q,_,0,he,hg,fun _=>⟨hr,Ql hb⟩,fun _=>⟨rfl,rfl⟩⟩
 | false=>
  rw[hb,if_neg (by simp)]at h
  exact⟨⟨⟨#[]⟩,none,0,0,none,0,0,none,0,0⟩,⟨[],0,0,[],false,[],[]⟩,4,h,hg,fun e=>(by cases e),fun e=>by cases e⟩
theorem D9 (r:R) (B:Nat) (w:World) (q:L) (h:mV w B q r) (hr:dY r=true):Calls Tryz.prog 7 #[q.v r] w fun e w'=>∃a c,e=.returned (.tuple #[.slice a (kN r).length c,.int .i64 0])/\w.grownBy w' none/\BytesAt w' w'.heap.size a c (kN r):=by
 have h1:=Jp r B w q h
 rw[hr]at h1
 exact h1
theorem JE (r:R) (B1 B2:Nat) (w:World) (qa qb:L) (ha:mV w B1 qa r) (hb:mV w B2 qb r):Calls Tryz.prog 13 #[qa.v r,qb.v r] w fun e w'=>e=.returned (.bool true)/\w.grownBy w' none:=by
 have h:=JB r r B1 B2 w qa qb ha hb
 rwa [(Qi r r).2 rfl]at h
end Gr
end
section
open Go.RowKit Ow Wi Ve Rc Ed Sb
namespace Gr
set_option maxHeartbeats 8000000 in
set_option maxRecDepth 100000 in
theorem UK (n cap Bs m mc Bb B:Nat) (a ab:Option Addr) (l lb:List Nat) (r:R) (w:World) (q:L) (hO:oI w) (hT:eY w) (hS:Tables w) (hn:l.length=n) (hP:BytesAt w Bs a cap l) (h:mV w B q r) (hm:lb.length=m) (hB:BytesAt w Bb ab mc lb):
  Calls Tryz.prog 3 #[.slice a n cap,q.v r,.slice ab m mc] w fun e w'=>e=.returned (.bool true)/\w.grownBy w' none:=by
 have HT:Hid (∀w',w.grownBy w' none->oI w'/\eY w'/\Tables w'):=fun w' hg=>⟨hO.kept hg (fun b e=>by cases e),hT.grown hg,hS.kept hg (fun b e=>by cases e)⟩
 have HP:Hid (l.length=n/\lb.length=m/\∀w',w.grownBy w' none->BytesAt w' w'.heap.size a cap l/\BytesAt w' w'.heap.size ab mc lb/\mV w' w'.heap.size q r):=⟨hn,hm,fun w' hg=>⟨(hP.stay hg).full,(hB.stay hg).full,(h.stay hg).full⟩⟩
 have HGt:=Lib.hid (fun w' (hg:w.grownBy w' none)=>Qk (vL r) r B w' q (h.stay hg) rfl)
 have HSm:=Lib.hid (And.intro (fun (e:vL r=false)=>aaT e) (And.intro h.l1 (And.intro h.l2 h.l3)))
 clear hO hT hS hn hP h hm hB
 obtain⟨gb,hgb⟩:∃gb,gb=vL r:=⟨_,rfl⟩
 rw[<- hgb]at HGt HSm
 clear hgb
 obtain⟨s,a1,n1,c1,a2,n2,c2,a3,n3,c3⟩:=q
 obtain⟨key,cl,sq,cx,g,val,sig⟩:=r
 obtain⟨r0,hr0⟩:∃r0:R,r0=⟨key,cl,sq,cx,g,val,sig⟩:=⟨_,rfl⟩
 obtain⟨q0,hq0⟩:∃q0:L,q0=⟨s,a1,n1,c1,a2,n2,c2,a3,n3,c3⟩:=⟨_,rfl⟩
 rw[<- hr0,<- hq0]at HP
 rw[<- hr0,<- hq0]at HSm
 have HV:Hid (vV s cl sq a1 n1 c1 g a2 n2 c2 a3 n3 c3=q0.v r0/\r0.cl=cl/\r0.sq=sq/\r0.gone=g):=by rw[hq0,hr0];exact⟨rfl,rfl,rfl,rfl⟩
 replace HGt:Hid (∀w',w.grownBy w' none->Calls Tryz.prog 5 #[vV s cl sq a1 n1 c1 g a2 n2 c2 a3 n3 c3] w' fun e w''=>e=.returned (.bool gb)/\w'.grownBy w'' none):=HGt
 clear hr0 hq0
 show Calls _ _ #[.slice a n cap,vV s cl sq a1 n1 c1 g a2 n2 c2 a3 n3 c3,.slice ab m mc] w _
 obtain⟨N,hN⟩:∃N,N=w.heap.size:=⟨_,rfl⟩
 obtain⟨W0,hW0⟩:∃W0,W0=w.alloc (.cells #[.string s,iV cl,iV sq,.slice a1 n1 c1,.bool g,.slice a2 n2 c2,.slice a3 n3 c3] 25):=⟨_,rfl⟩
 have hG0:w.grownBy W0 none:=by rw[hW0];exact av (ah _ _) _
 have hB0:aH W0 N 25 [.string s,iV cl,iV sq,.slice a1 n1 c1,.bool g,.slice a2 n2 c2,.slice a3 n3 c3]:=by rw[hW0,hN];exact aH.new w _ _
 have jg:=Lib.hid (And.intro hG0 hB0);clear hG0 hB0
 go_enter Tryz.func3,Tryz.ntmps3
 go_wp2_with fail
 rw[<- hW0,<- hN]
 clear hW0 hN
 refine (LX _).mono ?_
 rintro e w1 ⟨rfl,hg⟩
 have iA:=Lib.hid (And.intro (aj jg.out.1 hg) (jg.out.2.gn hg));clear hg jg
 have x0:=iA.out.2.cell (i:=0) rfl
 have x1:=iA.out.2.cell (i:=1) rfl
 have x2:=iA.out.2.cell (i:=2) rfl
 have x3:=iA.out.2.cell (i:=3) rfl
 have x4:=iA.out.2.cell (i:=4) rfl
 have x5:=iA.out.2.cell (i:=5) rfl
 have x6:=iA.out.2.cell (i:=6) rfl
 go_wp2_with fail
 clear x0 x1 x2 x3 x4 x5 x6
 refine (HGt.out _ iA.out.1).mono ?_
 rintro e w2 ⟨rfl,hg⟩
 have HG2:=Lib.hid (And.intro (aj iA.out.1 hg) (iA.out.2.gn hg));clear hg iA HGt
 cases gb with
 | true=>
  go_wp2
  go_ret
  exact⟨rfl,HG2.out.1⟩
 | false=>
  by_cases h32:n=32
  .subst h32
   have i0:¬(32:Int)≠32:=by decide
   by_cases h3:m<=3000
   .have i1:¬(m:Int)>3000:=by omega
    go_wp2_with fail
    clear i0 i1
    refine (NG m mc _ ab lb w2 HP.out.2.1 (by omega) (HP.out.2.2 _ HG2.out.1).2.1).mono ?_
    rintro e w3 ⟨⟨ys,y1,yn1,yc1,y2,yn2,yc2,y3,yn3,yc3⟩,⟨aa0,XK,XL,ycx,yg,yval,aa1⟩,hv,he,hg,Yx,_⟩
    have he':e=.returned (.tuple #[vV ys XK XL y1 yn1 yc1 yg y2 yn2 yc2 y3 yn3 yc3,.int .i64 hv]):=he
    subst he'
    clear he
    obtain⟨W3,hW3⟩:∃W3,W3=w3.alloc (.cells #[.string ys,.int .i64 XK,.int .i64 XL,.slice y1 yn1 yc1,.bool yg,.slice y2 yn2 yc2,.slice y3 yn3 yc3] 25):=⟨_,rfl⟩
    have ga:=av (ah w3 none) (.cells #[.string ys,.int .i64 XK,.int .i64 XL,.slice y1 yn1 yc1,.bool yg,.slice y2 yn2 yc2,.slice y3 yn3 yc3] 25)
    rw[<- hW3]at ga
    have bY:aH W3 w3.heap.size 25 [.string ys,.int .i64 XK,.int .i64 XL,.slice y1 yn1 yc1,.bool yg,.slice y2 yn2 yc2,.slice y3 yn3 yc3]:=by rw[hW3];exact aH.new _ _ _
    have HY:Hid (hv=0->mV W3 W3.heap.size ⟨ys,y1,yn1,yc1,y2,yn2,yc2,y3,yn3,yc3⟩ ⟨aa0,XK,XL,ycx,yg,yval,aa1⟩/\dY ⟨aa0,XK,XL,ycx,yg,yval,aa1⟩=true/\kN ⟨aa0,XK,XL,ycx,yg,yval,aa1⟩=lb):=fun e=>⟨((Yx e).1.stay ga).full,(Yx e).2⟩
    have gq:=Lib.hid (And.intro (aj HG2.out.1 (aj hg ga)) (And.intro (HG2.out.2.grown (aj hg ga) (by simp)) bY));clear hg ga bY Yx HG2
    go_upto_region 6 with fail
    rw[<- hW3]
    generalize w3.heap.size=M at *
    clear hW3
    go_upto_if 38 with fail
    go_cut [9,10] from 39 to 56 (fun _ _ wx=>W3.grownBy wx none)
    case first=>
     by_cases hv0:hv=0
     .subst hv0
      obtain⟨hy1,hy2,hy3⟩:=HY.out rfl
      have I7:=Lib.hid (D9 _ _ W3 _ hy1 hy2)
      rw[hy3]at I7
      replace I7:Hid (Calls Tryz.prog 7 #[vV ys XK XL y1 yn1 yc1 yg y2 yn2 yc2 y3 yn3 yc3] W3 fun e w'=>∃a c,e=.returned (.tuple #[.slice a lb.length c,.int .i64 0])/\W3.grownBy w' none/\BytesAt w' w'.heap.size a c lb):=I7
      have HR:Hid (∀w',W3.grownBy w' none->Calls Tryz.prog 9 #[vV ys XK XL y1 yn1 yc1 yg y2 yn2 yc2 y3 yn3 yc3] w' fun e w''=>e=.returned (.bool true)/\w'.grownBy w'' none):=fun w' hg=>by
       have h:=lM _ _ w' _ (hy1.stay hg)
       rw[hy2]at h
       exact h
      clear hy1 hy2 hy3 HY
      have x0:=gq.out.2.2.cell (i:=0) rfl
      have x1:=gq.out.2.2.cell (i:=1) rfl
      have x2:=gq.out.2.2.cell (i:=2) rfl
      have x3:=gq.out.2.2.cell (i:=3) rfl
      have x4:=gq.out.2.2.cell (i:=4) rfl
      have x5:=gq.out.2.2.cell (i:=5) rfl
      have x6:=gq.out.2.2.cell (i:=6) rfl
      go_wp2_with fail
      clear x0 x1 x2 x3 x4 x5 x6
      refine I7.out.mono ?_
      rintro e w4 ⟨pa,pc,rfl,hg,hpb⟩
      have lY:=Lib.hid (And.intro hg (And.intro hpb (gq.out.2.2.gn hg)));clear hg hpb
      go_wp2_with fail
      refine (qd _ _ m lb.length mc pc ab pa lb lb w4 HP.out.2.1 rfl (HP.out.2.2 _ (aj gq.out.1 lY.out.1)).2.1 lY.out.2.1).mono ?_
      rintro e w5 ⟨rfl,hg⟩
      rw[decide_eq_true rfl]
      have kH:=Lib.hid (And.intro (aj lY.out.1 hg) (lY.out.2.2.gn hg));clear hg
      have x0:=kH.out.2.cell (i:=0) rfl
      have x1:=kH.out.2.cell (i:=1) rfl
      have x2:=kH.out.2.cell (i:=2) rfl
      have x3:=kH.out.2.cell (i:=3) rfl
      have x4:=kH.out.2.cell (i:=4) rfl
      have x5:=kH.out.2.cell (i:=5) rfl
      have x6:=kH.out.2.cell (i:=6) rfl
      go_wp2_with fail
      clear x0 x1 x2 x3 x4 x5 x6
      refine (HR.out _ kH.out.1).mono ?_
      rintro e w6 ⟨rfl,hg⟩
      have Jv:=Lib.hid (aj kH.out.1 hg);clear hg
      go_wp2_with fail
      go_meet
      exact Jv.out
     .go_wp2_with fail
      go_meet
      exact ah _ _
    case rest=>
     rename World=>w4
     have lY:=Lib.hid (And.intro (aj gq.out.1 hcut) (gq.out.2.1.gn hcut));clear hcut gq HY
     cases hs:gV r0 with
     | false=>
      have HSe:Hid (Calls Tryz.prog 10 #[.slice a 32 cap,vV s cl sq a1 n1 c1 g a2 n2 c2 a3 n3 c3] w4 fun e w'=>e=.returned (T9 4)/\w4.grownBy w' none):=by
       rw[HV.out.1];exact LB r0 _ cap a w4 q0 (HP.out.2.2 _ lY.out.1).2.2 hs
      have x0:=lY.out.2.cell (i:=0) rfl
      have x1:=lY.out.2.cell (i:=1) rfl
      have x2:=lY.out.2.cell (i:=2) rfl
      have x3:=lY.out.2.cell (i:=3) rfl
      have x4:=lY.out.2.cell (i:=4) rfl
      have x5:=lY.out.2.cell (i:=5) rfl
      have x6:=lY.out.2.cell (i:=6) rfl
      go_wp2_with fail
      clear x0 x1 x2 x3 x4 x5 x6
      refine HSe.out.mono ?_
      rintro e w5 ⟨he,hg⟩
      have he':e=.returned (.tuple #[.agg #[.string ⟨#[]⟩,.int .i64 0,.int .i64 0,.slice none 0 0,.bool false,.slice none 0 0,.slice none 0 0],.int .i64 4]):=he
      subst he'
      clear he
      have ga:=av (ah w5 none) (.cells #[.string ⟨#[]⟩,.int .i64 0,.int .i64 0,.slice none 0 0,.bool false,.slice none 0 0,.slice none 0 0] 25)
      have kH:=Lib.hid (And.intro (aj lY.out.1 (aj hg ga)) (lY.out.2.grown (aj hg ga) (by simp)));clear hg ga HSe
      have HTx:Hid (∀w',w.grownBy w' none->Calls Tryz.prog 11 #[vV s cl sq a1 n1 c1 g a2 n2 c2 a3 n3 c3] w' fun e w''=>∃ta tc,e=.returned (.slice ta 0 tc)/\w'.grownBy w'' none):=fun w' hg=>by
       rw[HV.out.1]
       refine (qx r0 _ w' q0 (HP.out.2.2 _ hg).2.2).mono ?_
       rintro e w'' ⟨ta,tc,he,hg2,_⟩
       rw[Qm hs]at he
       exact⟨ta,tc,he,hg2⟩
      have x0:=kH.out.2.cell (i:=0) rfl
      have x1:=kH.out.2.cell (i:=1) rfl
      have x2:=kH.out.2.cell (i:=2) rfl
      have x3:=kH.out.2.cell (i:=3) rfl
      have x4:=kH.out.2.cell (i:=4) rfl
      have x5:=kH.out.2.cell (i:=5) rfl
      have x6:=kH.out.2.cell (i:=6) rfl
      go_wp2_with fail
      clear x0 x1 x2 x3 x4 x5 x6
      refine (HTx.out _ kH.out.1).mono ?_
      rintro e w6 ⟨ta,tc,rfl,hg⟩
      have Jv:=Lib.hid (aj kH.out.1 hg);clear hg
      go_wp2
      go_ret
      exact⟨rfl,Jv.out⟩
     | true=>
      have HSe:Hid (Calls Tryz.prog 10 #[.slice a 32 cap,vV s cl sq a1 n1 c1 g a2 n2 c2 a3 n3 c3] w4 (Fu w4 l r0)):=by
       rw[HV.out.1];exact Uo l r0 _ cap _ a w4 q0 (HT.out _ lY.out.1).1 (HT.out _ lY.out.1).2.1 (HT.out _ lY.out.1).2.2 HP.out.1 (HP.out.2.2 _ lY.out.1).1 (HP.out.2.2 _ lY.out.1).2.2 hs
      obtain⟨rx,hrx⟩:∃rx,rx=rJ l r0:=⟨_,rfl⟩
      have HX0:Hid (dY rx=true/\Ab (kN rx)=true/\lD (some (kN rx))=rx/\Ur (j5 (enc (Nt l))) rx=0):=by rw[hrx];exact⟨pR l r0 hs,(D8 l r0 hs).1,(D8 l r0 hs).2,JD l r0 hs⟩
      have XM:Hid (∀q1:L,q1.v rx=vV q1.s cl sq q1.a1 q1.n1 q1.c1 g q1.a2 q1.n2 q1.c2 q1.a3 q1.n3 q1.c3):=fun q1=>by
       rw[hrx,<- HV.out.2.1,<- HV.out.2.2.1,<- HV.out.2.2.2];rfl
      have HRX:Hid (rx.key=r0.key/\rx.cx=r0.cx/\rx.val=r0.val):=by rw[hrx];exact⟨rfl,rfl,rfl⟩
      have x0:=lY.out.2.cell (i:=0) rfl
      have x1:=lY.out.2.cell (i:=1) rfl
      have x2:=lY.out.2.cell (i:=2) rfl
      have x3:=lY.out.2.cell (i:=3) rfl
      have x4:=lY.out.2.cell (i:=4) rfl
      have x5:=lY.out.2.cell (i:=5) rfl
      have x6:=lY.out.2.cell (i:=6) rfl
      go_wp2_with fail
      clear x0 x1 x2 x3 x4 x5 x6
      refine HSe.out.mono ?_
      rintro e w5 ⟨⟨s',a1',n1',c1',vJ,vK,c2',a3',qh,c3'⟩,he,hg,ho⟩
      rw[<- hrx,XM.out]at he
      subst he
      rw[<- hrx]at ho
      clear hrx
      obtain⟨W5,hW5⟩:∃W5,W5=w5.alloc (.cells #[.string s',.int .i64 cl,.int .i64 sq,.slice a1' n1' c1',.bool g,.slice vJ vK c2',.slice a3' qh c3'] 25):=⟨_,rfl⟩
      have ga:=av (ah w5 none) (.cells #[.string s',.int .i64 cl,.int .i64 sq,.slice a1' n1' c1',.bool g,.slice vJ vK c2',.slice a3' qh c3'] 25)
      rw[<- hW5]at ga
      have bX:aH W5 w5.heap.size 25 [.string s',.int .i64 cl,.int .i64 sq,.slice a1' n1' c1',.bool g,.slice vJ vK c2',.slice a3' qh c3']:=by rw[hW5];exact aH.new _ _ _
      have kH:=Lib.hid (And.intro (aj lY.out.1 (aj hg ga)) (And.intro (lY.out.2.grown (aj hg ga) (by simp)) (And.intro bX ((ho.at.stay ga).full))));clear hg ga ho bX lY HSe
      go_upto_region 11 with fail
      rw[<- hW5]
      generalize w5.heap.size=X at *
      clear hW5
      have I7:=Lib.hid (D9 rx _ W5 _ kH.out.2.2.2 HX0.out.1)
      rw[XM.out]at I7
      have x0:=kH.out.2.2.1.cell (i:=0) rfl
      have x1:=kH.out.2.2.1.cell (i:=1) rfl
      have x2:=kH.out.2.2.1.cell (i:=2) rfl
      have x3:=kH.out.2.2.1.cell (i:=3) rfl
      have x4:=kH.out.2.2.1.cell (i:=4) rfl
      have x5:=kH.out.2.2.1.cell (i:=5) rfl
      have x6:=kH.out.2.2.1.cell (i:=6) rfl
      go_wp2_with fail
      clear x0 x1 x2 x3 x4 x5 x6
      refine I7.out.mono ?_
      rintro e w6 ⟨pa,pc,rfl,hg,hpb⟩
      have ais:=XJ kH.out.2.2.2 HX0.out.1
      have Jv:=Lib.hid (And.intro (aj kH.out.1 hg) (And.intro (kH.out.2.1.gn hg) (And.intro (kH.out.2.2.1.gn hg) (And.intro (kH.out.2.2.2.stay hg) hpb))));clear hg hpb kH I7
      have HGe:=Lib.hid (NG _ pc _ pa (kN rx) w6 rfl (by omega) Jv.out.2.2.2.2)
      clear ais
      go_wp2_with fail
      refine HGe.out.mono ?_
      rintro e w7 ⟨⟨zs,z1,XO,XP,z2,XQ,XR,z3,XT,XU⟩,rz,hv2,he,hg,hzr,hz⟩
      obtain⟨hv0,hz2⟩:=hz HX0.out.2.1
      rw[HX0.out.2.2.1]at hz2
      rw[hz2]at he hzr
      rw[hv0,XM.out]at he
      subst he
      have hRz:=(hzr hv0).1
      clear hzr hz2 hv0 HGe
      obtain⟨W7,XD⟩:∃W7,W7=w7.alloc (.cells #[.string zs,.int .i64 cl,.int .i64 sq,.slice z1 XO XP,.bool g,.slice z2 XQ XR,.slice z3 XT XU] 25):=⟨_,rfl⟩
      have ga:=av (ah w7 none) (.cells #[.string zs,.int .i64 cl,.int .i64 sq,.slice z1 XO XP,.bool g,.slice z2 XQ XR,.slice z3 XT XU] 25)
      rw[<- XD]at ga
      have bZ:aH W7 w7.heap.size 25 [.string zs,.int .i64 cl,.int .i64 sq,.slice z1 XO XP,.bool g,.slice z2 XQ XR,.slice z3 XT XU]:=by rw[XD];exact aH.new _ _ _
      have zk:=aj hg ga
      have yx:=Lib.hid (And.intro (aj Jv.out.1 zk) (And.intro (Jv.out.2.1.gn zk) (And.intro (Jv.out.2.2.1.gn zk) (And.intro (Jv.out.2.2.2.1.stay zk).full (And.intro bZ (hRz.stay ga).full)))));clear hg ga zk bZ hRz Jv
      go_upto_region 15 with fail
      rw[<- XD]
      generalize w7.heap.size=Z at *
      clear XD
      have HCp:Hid (Calls Tryz.prog 12 #[vV s cl sq a1 n1 c1 g a2 n2 c2 a3 n3 c3] W7 (Ri W7 r0)):=by
       obtain⟨h1,h2,h3⟩:=HSm.out.1 trivial
       rw[HV.out.1];exact JC r0 _ W7 q0 (HP.out.2.2 _ yx.out.1).2.2 ⟨by rw[<- HSm.out.2.1];exact h1,by rw[<- HSm.out.2.2.1];exact h2,by rw[<- HSm.out.2.2.2];exact h3⟩
      have x0:=yx.out.2.1.cell (i:=0) rfl
      have x1:=yx.out.2.1.cell (i:=1) rfl
      have x2:=yx.out.2.1.cell (i:=2) rfl
      have x3:=yx.out.2.1.cell (i:=3) rfl
      have x4:=yx.out.2.1.cell (i:=4) rfl
      have x5:=yx.out.2.1.cell (i:=5) rfl
      have x6:=yx.out.2.1.cell (i:=6) rfl
      go_wp2_with fail
      clear x0 x1 x2 x3 x4 x5 x6
      refine HCp.out.mono ?_
      rintro e w8 ⟨⟨os,o1,U1,U5,o2,U6,U7,o3,on3,oc3⟩,he,hg,ho⟩
      have he':e=.returned (vV os cl sq o1 U1 U5 g o2 U6 U7 o3 on3 oc3):=by rw[<- HV.out.2.1,<- HV.out.2.2.1,<- HV.out.2.2.2];exact he
      subst he'
      clear he
      obtain⟨W8,Qw⟩:∃W8,W8=w8.alloc (.cells #[.string os,.int .i64 cl,.int .i64 sq,.slice o1 U1 U5,.bool g,.slice o2 U6 U7,.slice o3 on3 oc3] 25):=⟨_,rfl⟩
      obtain⟨O,hO⟩:∃O,O=w8.heap.size:=⟨_,rfl⟩
      have ga:=av (ah w8 none) (.cells #[.string os,.int .i64 cl,.int .i64 sq,.slice o1 U1 U5,.bool g,.slice o2 U6 U7,.slice o3 on3 oc3] 25)
      rw[<- Qw]at ga
      have bO:aH W8 O 25 [.string os,.int .i64 cl,.int .i64 sq,.slice o1 U1 U5,.bool g,.slice o2 U6 U7,.slice o3 on3 oc3]:=by rw[Qw,hO];exact aH.new _ _ _
      have zk:=aj hg ga
      have bX8:=yx.out.2.2.1.gn zk
      have hXO:X<O:=by have:=yx.out.2.2.1.lt;have:=hg.size;omega
      have hZO:Z<O:=by have:=yx.out.2.2.2.2.1.lt;have:=hg.size;omega
      have gS:=aJ (ah W8 (some O)) 6 (.slice a3' qh c3')
      have bO9:=bO.set 6 (.slice a3' qh c3')
      have bX9:=bX8.other (a:=⟨O,6,none⟩) (show O≠X by omega) (.slice a3' qh c3')
      have bZ9:=(yx.out.2.2.2.2.1.gn zk).other (a:=⟨O,6,none⟩) (show O≠Z by omega) (.slice a3' qh c3')
      have hw7:W7.heap.size<=O:=by have:=hg.size;omega
      have rX9:=Cb (yx.out.2.2.2.1.stay zk) gS (fun x e=>by cases e;exact hw7)
      have rZ9:=Cb (yx.out.2.2.2.2.2.stay zk) gS (fun x e=>by cases e;exact hw7)
      have rO9:=Cb (ho.at.stay ga) gS (fun x e=>by cases e;rw[hO];exact Nat.le_refl _)
      have G9:=aW (aj yx.out.1 zk) gS (show w.heap.size<=O from Nat.le_trans yx.out.1.size hw7)
      obtain⟨W9,hW9⟩:∃W9,W9=W8.setCell ⟨O,6,none⟩ (.slice a3' qh c3'):=⟨_,rfl⟩
      rw[<- hW9]at gS bO9 bX9 bZ9 rX9 rZ9 rO9 G9
      have hX9:mV W9 W9.heap.size ⟨s',a1',n1',c1',vJ,vK,c2',a3',qh,c3'⟩ rx:=rX9.full
      have hZ9:mV W9 W9.heap.size ⟨zs,z1,XO,XP,z2,XQ,XR,z3,XT,XU⟩ rx:=rZ9.full
      have hO9:mV W9 W9.heap.size ⟨os,o1,U1,U5,o2,U6,U7,a3',qh,c3'⟩ rx:=by
       have h:=rO9.full
       exact⟨h.str.trans HRX.out.1.symm,(congrArg List.length HRX.out.2.1).trans h.l1,(congrArg List.length HRX.out.2.2).trans h.l2,hX9.l3,(by rw[HRX.out.2.1];exact h.dots),(by rw[HRX.out.2.2];exact h.val),hX9.sig,h.top⟩
      have aiC:Hid (∀w',W9.grownBy w' none->Calls Tryz.prog 9 #[vV s' cl sq a1' n1' c1' g vJ vK c2' a3' qh c3'] w' fun e w''=>e=.returned (.bool true)/\w'.grownBy w'' none):=fun w' hg=>by
       have h:=lM rx _ w' _ (hX9.stay hg)
       rw[HX0.out.1,XM.out]at h
       exact h
      have Kr:Hid (∀w',W9.grownBy w' none->Calls Tryz.prog 13 #[vV s' cl sq a1' n1' c1' g vJ vK c2' a3' qh c3',vV os cl sq o1 U1 U5 g o2 U6 U7 a3' qh c3'] w' fun e w''=>e=.returned (.bool true)/\w'.grownBy w'' none):=fun w' hg=>by
       have h:=JE rx _ _ w' _ _ (hX9.stay hg) (hO9.stay hg)
       rw[XM.out,XM.out]at h
       exact h
      have HS2:Hid (∀w',W9.grownBy w' none->Calls Tryz.prog 13 #[vV s' cl sq a1' n1' c1' g vJ vK c2' a3' qh c3',vV zs cl sq z1 XO XP g z2 XQ XR z3 XT XU] w' fun e w''=>e=.returned (.bool true)/\w'.grownBy w'' none):=fun w' hg=>by
       have h:=JE rx _ _ w' _ _ (hX9.stay hg) (hZ9.stay hg)
       rw[XM.out,XM.out]at h
       exact h
      have HPb:Hid (∀w',W9.grownBy w' none->Calls Tryz.prog 15 #[.slice a 32 cap] w' fun e w''=>∃v,e=.returned v/\w'.grownBy w'' none/\∃g,v=.slice (some ⟨g,0,none⟩) 32 32/\aH w'' g 141 ((j5 (enc (Nt l))).map dD)):=fun w' hg=>
       (Xa l cap _ a w' (HT.out _ (aj G9 hg)).2.1 (HT.out _ (aj G9 hg)).2.2 HP.out.1 (Lib.hid (HP.out.2.2 _ (aj G9 hg)).1)).mono fun _ _ ⟨g,he,hg,_,hb⟩=>⟨_,he,hg,g,rfl,hb⟩
      have HCk:Hid (∀w' gk,W9.grownBy w' none->aH w' gk 141 ((j5 (enc (Nt l))).map dD)->Calls Tryz.prog 14 #[.slice (some ⟨gk,0,none⟩) 32 32,vV s' cl sq a1' n1' c1' g vJ vK c2' a3' qh c3'] w' fun e w''=>e=.returned (.int .i64 0)/\w'.grownBy w'' none):=fun w' gk hg hb=>by
       have h:=Qa rx _ 32 32 _ (some ⟨gk,0,none⟩) (j5 (enc (Nt l))) w' _ (HT.out _ (aj G9 hg)).1 (HT.out _ (aj G9 hg)).2.1 (HT.out _ (aj G9 hg)).2.2 (iQ _) (by decide) (Jc hb (iQ _) (EM _)) (hX9.stay hg)
       rw[HX0.out.2.2.2,XM.out]at h
       exact h
      have oW:=Lib.hid (And.intro G9 (And.intro bX9 (And.intro bO9 bZ9)))
      have x6:=bX8.cell (i:=6) rfl
      have f6:=bO.free 6
      have k6:=bO.cell (i:=6) rfl
      clear hg ga zk bX8 gS bO bO9 bX9 bZ9 hXO hZO hw7 rX9 rZ9 rO9 G9 hX9 hZ9 hO9 ho yx HCp
      go_upto_region 16 with fail
      rw[<- Qw,<- hO]
      clear Qw hO
      go_upto_region 17 with fail
      rw[<- hW9]
      clear x6 f6 k6 hW9
      refine Fg.sD [] [.any,.any,.any,.any,.any,.any,.any,.any,.any,.any,.any,.any,.any,.any,.any,.any,.any,.any,.any,.any,.any,.any,.any,.any,.any,.any,.any,.any,.any,.any,.any,.any,.any,.any,.any,.any,.any,.any,.any,.any,.any,.any,.any,.any,.any,.any,.any,.any,.any,.any,.any,.any,.any,.any,.any,.any,.any,.any,.any,.any,.any,.any,.any,.any,.any,.any,.any,.any,.any,.any,.any,.any,.any,.any,.any,.any,.any,.any,.any,.any,.any,.any,.any,.any,.any,.any,.any,.any,.val (vV s' cl sq a1' n1' c1' g vJ vK c2' a3' qh c3'),.val (Value.bool true),.val (Value.bool true),.val (vV s' cl sq a1' n1' c1' g vJ vK c2' a3' qh c3'),.val (vV os cl sq o1 U1 U5 g o2 U6 U7 a3' qh c3'),.val (Value.bool true),.val (Value.bool true),.val (Value.bool true),.val (Value.slice a 32 cap),.aiq 141 32 (j5 (enc (Nt l))),.val (vV s' cl sq a1' n1' c1' g vJ vK c2' a3' qh c3'),.val (Value.int .i64 0),.val (Value.bool true),.val (Value.bool true),.val (Value.bool true),.val (Value.int .i64 0),.val (Value.bool true),.val (Value.bool true),.val (Value.bool true),.val (Value.int .i64 0),.val (Value.bool true),.val (Value.bool true),.val (Value.bool true),.val (vV s' cl sq a1' n1' c1' g vJ vK c2' a3' qh c3'),.val (vV zs cl sq z1 XO XP g z2 XQ XR z3 XT XU),.val (Value.bool true),.val (Value.bool true)] W9 27 (ah _ _) (by kernel_rfl) (by kernel_rfl) (by kernel_rfl) (by kernel_rfl) (by decide) (by kernel_rfl) ?_ ?_
      .refine⟨Fg.vT rfl (by decide) fun ac w h=>?_,?_⟩
       .have e11:_=Value.pointer (some ⟨X,0,none⟩):=h.r 11
        have m0:=((oW.out.2.1).grown h.base (by simp)).cell (i:=0) rfl
        have m1:=((oW.out.2.1).grown h.base (by simp)).cell (i:=1) rfl
        have m2:=((oW.out.2.1).grown h.base (by simp)).cell (i:=2) rfl
        have m3:=((oW.out.2.1).grown h.base (by simp)).cell (i:=3) rfl
        have m4:=((oW.out.2.1).grown h.base (by simp)).cell (i:=4) rfl
        have m5:=((oW.out.2.1).grown h.base (by simp)).cell (i:=5) rfl
        have m6:=((oW.out.2.1).grown h.base (by simp)).cell (i:=6) rfl
        refine⟨vV s' cl sq a1' n1' c1' g vJ vK c2' a3' qh c3',w,aB rfl,?_,ah _ _,rfl⟩
        clear h
        simp only[execOp,Act.eval,e11]
        go_simp
       refine⟨Fg.cT rfl (by decide) fun ac w h=>?_,?_⟩
       .have Yl:_=vV s' cl sq a1' n1' c1' g vJ vK c2' a3' qh c3':=h.d 88
        refine⟨9,#[vV s' cl sq a1' n1' c1' g vJ vK c2' a3' qh c3'],aB rfl,Fg.aN rfl rfl (by simp only[List.map_toArray,List.map_cons,List.map_nil,Act.eval,Yl]) (Fg.aI Tryz.func9 (by kernel_rfl) (by kernel_rfl)),?_⟩
        exact (aiC.out w h.base).mono fun _ _ ⟨he,hg⟩=>⟨_,he,hg,rfl⟩
       refine⟨Fg.vT rfl (by decide) fun ac w h=>?_,?_⟩
       .have Ym:_=Value.bool true:=h.d 89
        exact⟨_,w,aB rfl,Fg.run_move rfl Ym,ah _ _,rfl⟩
       refine⟨Fg.vT rfl (by decide) fun ac w h=>?_,?_⟩
       .have Mq:_=Value.bool true:=h.d 90
        have e11:_=Value.pointer (some ⟨X,0,none⟩):=h.r 11
        have m0:=((oW.out.2.1).grown h.base (by simp)).cell (i:=0) rfl
        have m1:=((oW.out.2.1).grown h.base (by simp)).cell (i:=1) rfl
        have m2:=((oW.out.2.1).grown h.base (by simp)).cell (i:=2) rfl
        have m3:=((oW.out.2.1).grown h.base (by simp)).cell (i:=3) rfl
        have m4:=((oW.out.2.1).grown h.base (by simp)).cell (i:=4) rfl
        have m5:=((oW.out.2.1).grown h.base (by simp)).cell (i:=5) rfl
        have m6:=((oW.out.2.1).grown h.base (by simp)).cell (i:=6) rfl
        refine⟨vV s' cl sq a1' n1' c1' g vJ vK c2' a3' qh c3',w,aS (d:=90) rfl rfl (by rw[h.size];show 90<115;decide) Mq,?_,ah _ _,rfl⟩
        clear h
        simp only[execOp,Act.eval,e11]
        go_simp
       refine⟨Fg.vT rfl (by decide) fun ac w h=>?_,?_⟩
       .have Mq:_=Value.bool true:=h.d 90
        have e17:_=Value.pointer (some ⟨O,0,none⟩):=h.r 17
        have m0:=((oW.out.2.2.1).grown h.base (by simp)).cell (i:=0) rfl
        have m1:=((oW.out.2.2.1).grown h.base (by simp)).cell (i:=1) rfl
        have m2:=((oW.out.2.2.1).grown h.base (by simp)).cell (i:=2) rfl
        have m3:=((oW.out.2.2.1).grown h.base (by simp)).cell (i:=3) rfl
        have m4:=((oW.out.2.2.1).grown h.base (by simp)).cell (i:=4) rfl
        have m5:=((oW.out.2.2.1).grown h.base (by simp)).cell (i:=5) rfl
        have m6:=((oW.out.2.2.1).grown h.base (by simp)).cell (i:=6) rfl
        refine⟨vV os cl sq o1 U1 U5 g o2 U6 U7 a3' qh c3',w,aS (d:=90) rfl rfl (by rw[h.size];show 90<115;decide) Mq,?_,ah _ _,rfl⟩
        clear h
        simp only[execOp,Act.eval,e17]
        go_simp
       refine⟨Fg.cT rfl (by decide) fun ac w h=>?_,?_⟩
       .have Mq:_=Value.bool true:=h.d 90
        have Vv:_=vV s' cl sq a1' n1' c1' g vJ vK c2' a3' qh c3':=h.d 91
        have Vy:_=vV os cl sq o1 U1 U5 g o2 U6 U7 a3' qh c3':=h.d 92
        refine⟨13,#[vV s' cl sq a1' n1' c1' g vJ vK c2' a3' qh c3',vV os cl sq o1 U1 U5 g o2 U6 U7 a3' qh c3'],aS (d:=90) rfl rfl (by rw[h.size];show 90<115;decide) Mq,Fg.aN rfl rfl (by simp only[List.map_toArray,List.map_cons,List.map_nil,Act.eval,Vv,Vy]) (Fg.aI Tryz.func13 (by kernel_rfl) (by kernel_rfl)),?_⟩
        exact (Kr.out w h.base).mono fun _ _ ⟨he,hg⟩=>⟨_,he,hg,rfl⟩
       refine⟨Fg.vT rfl (by decide) fun ac w h=>?_,?_⟩
       .have Mq:_=Value.bool true:=h.d 90
        have Yn:_=Value.bool true:=h.d 93
        refine⟨Value.bool true,w,aB rfl,?_,ah _ _,rfl⟩
        clear h
        simp only[execOp,Act.eval,Mq,Yn]
        go_simp
       refine⟨Fg.vT rfl (by decide) fun ac w h=>?_,?_⟩
       .have Vw:_=Value.bool true:=h.d 94
        exact⟨_,w,aB rfl,Fg.run_move rfl Vw,ah _ _,rfl⟩
       refine⟨Fg.vT rfl (by decide) fun ac w h=>?_,?_⟩
       .have FC:_=Value.bool true:=h.d 95
        have e0:_=Value.slice a 32 cap:=h.r 0
        exact⟨_,w,aS (d:=95) rfl rfl (by rw[h.size];show 95<115;decide) FC,Fg.run_move rfl e0,ah _ _,rfl⟩
       refine⟨Fg.cT rfl (by decide) fun ac w h=>?_,?_⟩
       .have FC:_=Value.bool true:=h.d 95
        have e96:_=Value.slice a 32 cap:=h.d 96
        refine⟨15,#[Value.slice a 32 cap],aS (d:=95) rfl rfl (by rw[h.size];show 95<115;decide) FC,Fg.aN rfl rfl (by simp only[List.map_toArray,List.map_cons,List.map_nil,Act.eval,e96]) (Fg.aI Tryz.func15 (by kernel_rfl) (by kernel_rfl)),?_⟩
        exact (HPb.out w h.base).mono fun _ _ ⟨v,he,hg,hb⟩=>⟨v,he,hg,hb⟩
       refine⟨Fg.vT rfl (by decide) fun ac w h=>?_,?_⟩
       .have FC:_=Value.bool true:=h.d 95
        have e11:_=Value.pointer (some ⟨X,0,none⟩):=h.r 11
        have m0:=((oW.out.2.1).grown h.base (by simp)).cell (i:=0) rfl
        have m1:=((oW.out.2.1).grown h.base (by simp)).cell (i:=1) rfl
        have m2:=((oW.out.2.1).grown h.base (by simp)).cell (i:=2) rfl
        have m3:=((oW.out.2.1).grown h.base (by simp)).cell (i:=3) rfl
        have m4:=((oW.out.2.1).grown h.base (by simp)).cell (i:=4) rfl
        have m5:=((oW.out.2.1).grown h.base (by simp)).cell (i:=5) rfl
        have m6:=((oW.out.2.1).grown h.base (by simp)).cell (i:=6) rfl
        refine⟨vV s' cl sq a1' n1' c1' g vJ vK c2' a3' qh c3',w,aS (d:=95) rfl rfl (by rw[h.size];show 95<115;decide) FC,?_,ah _ _,rfl⟩
        clear h
        simp only[execOp,Act.eval,e11]
        go_simp
       refine⟨Fg.cT rfl (by decide) fun ac w h=>?_,?_⟩
       .have FC:_=Value.bool true:=h.d 95
        obtain⟨g97,e97,b97⟩:∃g,ac.tmps.getD 97 undef=.slice (some ⟨g,0,none⟩) 32 32/\aH w g 141 ((j5 (enc (Nt l))).map dD):=h.dep 97 (by kernel_rfl)
        have e98:_=vV s' cl sq a1' n1' c1' g vJ vK c2' a3' qh c3':=h.d 98
        refine⟨14,#[Value.slice (some ⟨g97,0,none⟩) 32 32,vV s' cl sq a1' n1' c1' g vJ vK c2' a3' qh c3'],aS (d:=95) rfl rfl (by rw[h.size];show 95<115;decide) FC,Fg.aN rfl rfl (by simp only[List.map_toArray,List.map_cons,List.map_nil,Act.eval,e97,e98]) (Fg.aI Tryz.func14 (by kernel_rfl) (by kernel_rfl)),?_⟩
        exact (HCk.out w g97 h.base b97).mono fun _ _ ⟨he,hg⟩=>⟨_,he,hg,rfl⟩
       refine⟨Fg.vT rfl (by decide) fun ac w h=>?_,?_⟩
       .have FC:_=Value.bool true:=h.d 95
        have e99:_=Value.int .i64 0:=h.d 99
        refine⟨.bool true,w,aS (d:=95) rfl rfl (by rw[h.size];show 95<115;decide) FC,?_,ah _ _,rfl⟩
        clear h
        simp only[execOp,Act.eval,e99]
        go_simp
       refine⟨Fg.vT rfl (by decide) fun ac w h=>?_,?_⟩
       .have FC:_=Value.bool true:=h.d 95
        have e100:_=Value.bool true:=h.d 100
        refine⟨Value.bool true,w,aB rfl,?_,ah _ _,rfl⟩
        clear h
        simp only[execOp,Act.eval,FC,e100]
        go_simp
       refine⟨Fg.vT rfl (by decide) fun ac w h=>?_,?_⟩
       .have OC:_=Value.bool true:=h.d 101
        exact⟨_,w,aB rfl,Fg.run_move rfl OC,ah _ _,rfl⟩
       refine⟨Fg.vT rfl (by decide) fun ac w h=>?_,?_⟩
       .have Cv:_=Value.bool true:=h.d 102
        have e14:_=Value.int .i64 0:=h.r 14
        exact⟨_,w,aS (d:=102) rfl rfl (by rw[h.size];show 102<115;decide) Cv,Fg.run_move rfl e14,ah _ _,rfl⟩
       refine⟨Fg.vT rfl (by decide) fun ac w h=>?_,?_⟩
       .have Cv:_=Value.bool true:=h.d 102
        have OD:_=Value.int .i64 0:=h.d 103
        refine⟨.bool true,w,aS (d:=102) rfl rfl (by rw[h.size];show 102<115;decide) Cv,?_,ah _ _,rfl⟩
        clear h
        simp only[execOp,Act.eval,OD]
        go_simp
       refine⟨Fg.vT rfl (by decide) fun ac w h=>?_,?_⟩
       .have Cv:_=Value.bool true:=h.d 102
        have OG:_=Value.bool true:=h.d 104
        refine⟨Value.bool true,w,aB rfl,?_,ah _ _,rfl⟩
        clear h
        simp only[execOp,Act.eval,Cv,OG]
        go_simp
       refine⟨Fg.vT rfl (by decide) fun ac w h=>?_,?_⟩
       .have OE:_=Value.bool true:=h.d 105
        exact⟨_,w,aB rfl,Fg.run_move rfl OE,ah _ _,rfl⟩
       refine⟨Fg.vT rfl (by decide) fun ac w h=>?_,?_⟩
       .have Cu:_=Value.bool true:=h.d 106
        have e16:_=Value.int .i64 0:=h.r 16
        exact⟨_,w,aS (d:=106) rfl rfl (by rw[h.size];show 106<115;decide) Cu,Fg.run_move rfl e16,ah _ _,rfl⟩
       refine⟨Fg.vT rfl (by decide) fun ac w h=>?_,?_⟩
       .have Cu:_=Value.bool true:=h.d 106
        have OJ:_=Value.int .i64 0:=h.d 107
        refine⟨.bool true,w,aS (d:=106) rfl rfl (by rw[h.size];show 106<115;decide) Cu,?_,ah _ _,rfl⟩
        clear h
        simp only[execOp,Act.eval,OJ]
        go_simp
       refine⟨Fg.vT rfl (by decide) fun ac w h=>?_,?_⟩
       .have Cu:_=Value.bool true:=h.d 106
        have e108:_=Value.bool true:=h.d 108
        refine⟨Value.bool true,w,aB rfl,?_,ah _ _,rfl⟩
        clear h
        simp only[execOp,Act.eval,Cu,e108]
        go_simp
       refine⟨Fg.vT rfl (by decide) fun ac w h=>?_,?_⟩
       .have e109:_=Value.bool true:=h.d 109
        exact⟨_,w,aB rfl,Fg.run_move rfl e109,ah _ _,rfl⟩
       refine⟨Fg.vT rfl (by decide) fun ac w h=>?_,?_⟩
       .have za:_=Value.bool true:=h.d 110
        have e11:_=Value.pointer (some ⟨X,0,none⟩):=h.r 11
        have m0:=((oW.out.2.1).grown h.base (by simp)).cell (i:=0) rfl
        have m1:=((oW.out.2.1).grown h.base (by simp)).cell (i:=1) rfl
        have m2:=((oW.out.2.1).grown h.base (by simp)).cell (i:=2) rfl
        have m3:=((oW.out.2.1).grown h.base (by simp)).cell (i:=3) rfl
        have m4:=((oW.out.2.1).grown h.base (by simp)).cell (i:=4) rfl
        have m5:=((oW.out.2.1).grown h.base (by simp)).cell (i:=5) rfl
        have m6:=((oW.out.2.1).grown h.base (by simp)).cell (i:=6) rfl
        refine⟨vV s' cl sq a1' n1' c1' g vJ vK c2' a3' qh c3',w,aS (d:=110) rfl rfl (by rw[h.size];show 110<115;decide) za,?_,ah _ _,rfl⟩
        clear h
        simp only[execOp,Act.eval,e11]
        go_simp
       refine⟨Fg.vT rfl (by decide) fun ac w h=>?_,?_⟩
       .have za:_=Value.bool true:=h.d 110
        have e15:_=Value.pointer (some ⟨Z,0,none⟩):=h.r 15
        have m0:=((oW.out.2.2.2).grown h.base (by simp)).cell (i:=0) rfl
        have m1:=((oW.out.2.2.2).grown h.base (by simp)).cell (i:=1) rfl
        have m2:=((oW.out.2.2.2).grown h.base (by simp)).cell (i:=2) rfl
        have m3:=((oW.out.2.2.2).grown h.base (by simp)).cell (i:=3) rfl
        have m4:=((oW.out.2.2.2).grown h.base (by simp)).cell (i:=4) rfl
        have m5:=((oW.out.2.2.2).grown h.base (by simp)).cell (i:=5) rfl
        have m6:=((oW.out.2.2.2).grown h.base (by simp)).cell (i:=6) rfl
        refine⟨vV zs cl sq z1 XO XP g z2 XQ XR z3 XT XU,w,aS (d:=110) rfl rfl (by rw[h.size];show 110<115;decide) za,?_,ah _ _,rfl⟩
        clear h
        simp only[execOp,Act.eval,e15]
        go_simp
       refine⟨Fg.cT rfl (by decide) fun ac w h=>?_,?_⟩
       .have za:_=Value.bool true:=h.d 110
        have OH:_=vV s' cl sq a1' n1' c1' g vJ vK c2' a3' qh c3':=h.d 111
        have OL:_=vV zs cl sq z1 XO XP g z2 XQ XR z3 XT XU:=h.d 112
        refine⟨13,#[vV s' cl sq a1' n1' c1' g vJ vK c2' a3' qh c3',vV zs cl sq z1 XO XP g z2 XQ XR z3 XT XU],aS (d:=110) rfl rfl (by rw[h.size];show 110<115;decide) za,Fg.aN rfl rfl (by simp only[List.map_toArray,List.map_cons,List.map_nil,Act.eval,OH,OL]) (Fg.aI Tryz.func13 (by kernel_rfl) (by kernel_rfl)),?_⟩
        exact (HS2.out w h.base).mono fun _ _ ⟨he,hg⟩=>⟨_,he,hg,rfl⟩
       refine⟨Fg.vT rfl (by decide) fun ac w h=>?_,?_⟩
       .have za:_=Value.bool true:=h.d 110
        have OI:_=Value.bool true:=h.d 113
        refine⟨Value.bool true,w,aB rfl,?_,ah _ _,rfl⟩
        clear h
        simp only[execOp,Act.eval,za,OI]
        go_simp
       trivial
      .intro aq wq hB hsz hdf hrest aC hpt
       obtain⟨⟨u88,Yl⟩,⟨u89,Ym⟩,⟨u90,Mq⟩,⟨u91,Vv⟩,⟨u92,Vy⟩,⟨u93,Yn⟩,⟨u94,Vw⟩,⟨u95,FC⟩,⟨u96,e96⟩,⟨u97,e97⟩,⟨u98,e98⟩,⟨u99,e99⟩,⟨u100,e100⟩,⟨u101,OC⟩,⟨u102,Cv⟩,⟨u103,OD⟩,⟨u104,OG⟩,⟨u105,OE⟩,⟨u106,Cu⟩,⟨u107,OJ⟩,⟨u108,e108⟩,⟨u109,e109⟩,⟨u110,za⟩,⟨u111,OH⟩,⟨u112,OL⟩,⟨u113,OI⟩,_⟩:=Fg.bn aq [88,89,90,91,92,93,94,95,96,97,98,99,100,101,102,103,104,105,106,107,108,109,110,111,112,113]
       have Vx:aq.tmps.getD 114 undef=Value.bool true:=aC 114 (by kernel_rfl)
       obtain rfl:=Fg.aQ [88,89,90,91,92,93,94,95,96,97,98,99,100,101,102,103,104,105,106,107,108,109,110,111,112,113,114] (vs:=[_,_,_,_,_,_,_,_,_,_,_,_,_,_,_,_,_,_,_,_,_,_,_,_,_,_,_,_,_,_,_,_,_,_,_,_,_,_,_,_,_,_,_,_,_,_,_,_,_,_,_,_,_,_,_,_,_,_,_,_,_,_,_,_,_,_,_,_,_,_,_,_,_,_,_,_,_,_,_,_,_,_,_,_,_,_,_,_,u88,u89,u90,u91,u92,u93,u94,u95,u96,u97,u98,u99,u100,u101,u102,u103,u104,u105,u106,u107,u108,u109,u110,u111,u112,u113,Value.bool true]) hsz hrest (by kernel_rfl) rfl rfl ⟨Yl,Ym,Mq,Vv,Vy,Yn,Vw,FC,e96,e97,e98,e99,e100,OC,Cv,OD,OG,OE,Cu,OJ,e108,e109,za,OH,OL,OI,Vx,trivial⟩ hdf
       clear hsz hdf hrest aC hpt Yl Ym Mq Vv Vy Yn Vw FC e96 e97 e98 e99 e100 OC Cv OD OG OE Cu OJ e108 e109 za OH OL OI Vx
       have HGq:=Lib.hid (aj oW.out.1 hB)
       clear hB
       refine Fg.aL (v:=.bool true) (w':=wq) rfl (Fg.run_assign rfl rfl) ?_
       refine wpList_nil ?_
       simp only[Act.put,List.setIfInBounds_toArray,List.set_cons_succ,List.set_cons_zero]
       go_wp2
       go_ret
       exact⟨rfl,HGq.out⟩
   .have i1:(m:Int)>3000:=by omega
    go_wp2
    go_ret
    exact⟨rfl,HG2.out.1⟩
  .have i0:(n:Int)≠32:=by omega
   go_wp2
   go_ret
   exact⟨rfl,HG2.out.1⟩
end Gr
end
section
open Go.ChangeShapes Go.WideShapes Go.ChangeAt Go.RowKit Ow Ed
def YL:List Int:=[9007199254740916,9007199254740988,9007199254740988,9007199254740988,9007199254740988]
def YM:List Int:=[1718705420411056,234908883556509,2233514472574048,2117202627021982,765476049583133]
def YN:List Int:=[929955233495203,466365720129213,1662059464998953,2033849074728123,1442794654840575]
def Cc:List Int:=[1738742601995546,1146398526822698,2070867633025821,562264141797630,587772402128613]
def Ce:List Int:=[1801439850948184,1351079888211148,450359962737049,900719925474099,1801439850948198]
def Cg:List Int:=[1,0,0,0,0]
def Ch:List Int:=[1841354044333475,16398895984059,755974180946558,900171276175154,1821297809914039]
def YO:List Int:=[6346243789798364141,1503914060200516822,0,1152921504606846976]
def Ci:DataW Unit:=.agg [Lib.tabData .u64 Cc,Lib.tabData .u64 Ce,Lib.tabData .u64 Cg,Lib.tabData .u64 Ch]
theorem XV:[("buttress/field.fourTimesP",Rows.laid_buttress_field_fourTimesP),("buttress/field.rootOfMinusOne",Rows.laid_buttress_field_rootOfMinusOne),("buttress/edwards.d",Rows.laid_buttress_edwards_d),("buttress/edwards.base",Rows.laid_buttress_edwards_base)]=
  [("buttress/field.fourTimesP",Lib.tabData (H:=Unit) .u64 YL),("buttress/field.rootOfMinusOne",Lib.tabData .u64 YM),("buttress/edwards.d",Lib.tabData .u64 YN),("buttress/edwards.base",Ci)]:=by kernel_rfl
theorem LY:Rows.laid_buttress_scalar_order=Lib.tabData (H:=Unit) .u64 YO:=by kernel_rfl
theorem Qn {P:Program} {W:World} {name:String} {d:DataW Unit} {rest:List (String×DataW Unit)} {g:Nat} {t:TypeId} (hg:P.globalNamed name=some g) (hty:(P.globals[g]?).map (·.type)=some t) (h:laidMet P ((name,d):: rest) W):
  ∃(enc:TypeId×Value->Unit) (base:Nat) (sp:Nat->Bool) (held:Bool) (cs:Array Value) (fuel:Nat) (p:List MemPlace),W.var? P name=some cs/\DataW.trod enc P W base sp held fuel t cs.toList=some (d,p):=by
 obtain⟨ps,⟨g',t',cs,fuel,p,q,hg',ht',hvar,hd,_,_⟩,_⟩:=h
 obtain rfl:=Option.some.inj (hg.symm.trans hg')
 obtain rfl:=Option.some.inj (hty.symm.trans ht')
 exact⟨_,_,_,_,_,fuel,p,hvar,by simpa using hd⟩
theorem oU:Tryz.prog.cellsOf 54=5:=by kernel_rfl
theorem uw:Tryz.prog.cellsOf 52=1:=by kernel_rfl
theorem UL:Tryz.prog.cellsOf 56=20:=by kernel_rfl
theorem XW {cs a b c e:List Value} (hl:cs.length=20) (h0:(cs.drop 0).take 5=a) (h1:(cs.drop 5).take 5=b) (h2:(cs.drop 10).take 5=c) (h3:(cs.drop 15).take 5=e):cs=a++b++c++e:=by
 subst h0 h1 h2 h3
 have e3:(cs.drop 15).take 5=cs.drop 15:=List.take_of_length_le (by rw[List.length_drop];omega)
 rw[e3,List.drop_zero,List.append_assoc,List.append_assoc]
 have k2:=List.take_append_drop 5 (cs.drop 10)
 rw[List.drop_drop]at k2
 have k1:=List.take_append_drop 5 (cs.drop 5)
 rw[List.drop_drop]at k1
 have k0:=List.take_append_drop 5 cs
 rw[k2,k1,k0]
theorem XY {enc:TypeId×Value->Unit} {W:World} {base fuel:Nat} {sp:Nat->Bool} {held:Bool} {cs:List Value} {p:List MemPlace} (h:DataW.trod enc Tryz.prog W base sp held fuel 56 cs=some (Ci,p)):
  cs=Cc.map (fun z=>Value.int .u64 z)++Ce.map (fun z=>Value.int .u64 z)++Cg.map (fun z=>Value.int .u64 z)++Ch.map (fun z=>Value.int .u64 z):=by
 cases fuel with
 | zero=>simp[DataW.trod]at h
 | succ fuel=>
  simp only[DataW.trod,Tryz.underlying56,UL]at h
  split at h
  .rename_i hl
   obtain⟨xs,hm,hx⟩:=Option.map_eq_some_iff.1 h
   have hxs:xs.map (·.1)=[Lib.tabData .u64 Cc,Lib.tabData .u64 Ce,Lib.tabData .u64 Cg,Lib.tabData .u64 Ch]:=by
    have:=congrArg Prod.fst hx
    simpa[Ci] using this
   obtain⟨b0,e0,f0⟩:=Lib.mapM_at hm 0 _ rfl
   obtain⟨b1,e1,f1⟩:=Lib.mapM_at hm 1 _ rfl
   obtain⟨b2,e2,f2⟩:=Lib.mapM_at hm 2 _ rfl
   obtain⟨b3,e3,f3⟩:=Lib.mapM_at hm 3 _ rfl
   have g0:b0.1=Lib.tabData .u64 Cc:=by
    have:=congrArg (·[0]?) hxs
    simpa[List.getElem?_map,e0] using this
   have g1:b1.1=Lib.tabData .u64 Ce:=by
    have:=congrArg (·[1]?) hxs
    simpa[List.getElem?_map,e1] using this
   have g2:b2.1=Lib.tabData .u64 Cg:=by
    have:=congrArg (·[2]?) hxs
    simpa[List.getElem?_map,e2] using this
   have g3:b3.1=Lib.tabData .u64 Ch:=by
    have:=congrArg (·[3]?) hxs
    simpa[List.getElem?_map,e3] using this
   obtain⟨x0,y0⟩:=b0
   obtain⟨x1,y1⟩:=b1
   obtain⟨x2,y2⟩:=b2
   obtain⟨x3,y3⟩:=b3
   simp only[]at g0 g1 g2 g3
   subst g0 g1 g2 g3
   dsimp only at f0 f1 f2 f3
   have c0:=Lib.cells_of_tab Tryz.underlying54 Tryz.underlying52 uw oU f0
   have c1:=Lib.cells_of_tab Tryz.underlying54 Tryz.underlying52 uw oU f1
   have c2:=Lib.cells_of_tab Tryz.underlying54 Tryz.underlying52 uw oU f2
   have c3:=Lib.cells_of_tab Tryz.underlying54 Tryz.underlying52 uw oU f3
   rw[oU]at c0 c1 c2 c3
   exact XW hl c0 c1 c2 c3
  .cases h
theorem JF {W:World} {name:String} {g:Nat} {cs L:List Value} (hg:Tryz.prog.globalNamed name=some g) (h:W.var? Tryz.prog name=some cs.toArray) (hL:cs=L):W.rangeAt g 0 L:=fun j v hv=>by
 have:=World.var?_cell hg h j
 subst hL
 rw[Nat.zero_add,this]
 simpa using hv
theorem tables {W:World} (h:laidMet Tryz.prog [("buttress/field.fourTimesP",Rows.laid_buttress_field_fourTimesP),("buttress/field.rootOfMinusOne",Rows.laid_buttress_field_rootOfMinusOne),("buttress/edwards.d",Rows.laid_buttress_edwards_d),("buttress/edwards.base",Rows.laid_buttress_edwards_base)] W):eY W:=by
 rw[XV]at h
 have g0:Tryz.prog.globalNamed "buttress/field.fourTimesP"=some 3:=by kernel_rfl
 have g1:Tryz.prog.globalNamed "buttress/field.rootOfMinusOne"=some 6:=by kernel_rfl
 have g2:Tryz.prog.globalNamed "buttress/edwards.d"=some 2:=by kernel_rfl
 have g3:Tryz.prog.globalNamed "buttress/edwards.base"=some 1:=by kernel_rfl
 have h0:=Lib.tabIs_of_head g0 (by kernel_rfl) Tryz.underlying54 Tryz.underlying52 (by kernel_rfl) (by kernel_rfl) h
 have h1:=Lib.tabIs_of_head g1 (by kernel_rfl) Tryz.underlying54 Tryz.underlying52 (by kernel_rfl) (by kernel_rfl) (fI h)
 have h2:=Lib.tabIs_of_head g2 (by kernel_rfl) Tryz.underlying54 Tryz.underlying52 (by kernel_rfl) (by kernel_rfl) (fI (fI h))
 obtain⟨_,_,_,_,cs,_,_,hvar,hd⟩:=Qn (t:=56) g3 (by kernel_rfl) (fI (fI (fI h)))
 have hp:∀i,i<5->W.cell? ⟨3,i,none⟩=some (.int .u64 (ou i)):=fun i hi=>by
  rw[h0.cell g0 i hi]
  obtain rfl|rfl|rfl|rfl|rfl:i=0\/i=1\/i=2\/i=3\/i=4:=by omega
  all_goals rfl
 have hq:∀i,i<5->W.cell? ⟨6,i,none⟩=some (.int .u64 (gB.at i)):=fun i hi=>by
  rw[h1.cell g1 i hi]
  obtain rfl|rfl|rfl|rfl|rfl:i=0\/i=1\/i=2\/i=3\/i=4:=by omega
  all_goals rfl
 have hr2:W.rangeAt 2 0 (aR dF):=JF g2 h2 rfl
 have hr3:W.rangeAt 1 0 (aY fD):=JF g3 (by rw[hvar,Array.toArray_toList]) (XY hd)
 have l0:=block_lt_of_cell (hp 0 (by decide))
 have l1:=block_lt_of_cell (hq 0 (by decide))
 have l2:=block_lt_of_cell (hr2 0 _ rfl)
 have l3:=block_lt_of_cell (hr3 0 _ rfl)
 simp only[]at l0 l1 l2 l3
 exact⟨⟨⟨l0,l1⟩,hp,hq⟩,l2,l3,hr2,hr3⟩
def putObj (l:List Int):Obj->Obj
 | .cells _ t frozen=>.cells (l.map (Value.int .u64)).toArray t frozen
 | o=>o
end
section
open Go.ChangeShapes Go.WideShapes Go.ChangeAt Go.RowKit Ow Ed
def UM:List Int:=bE.K.map fun (n:Nat)=>(n:Int)
def UN:List Int:=bE.H0.map fun (n:Nat)=>(n:Int)
theorem X0:Rows.laid_buttress_sha_squareRoots=Lib.tabData (H:=Unit) .u64 UN:=by kernel_rfl
theorem X4:Rows.laid_buttress_sha_cubeRoots=Lib.tabData (H:=Unit) .u64 UM:=by kernel_rfl
theorem UO {W:World} (h:laidMet Tryz.prog [("buttress/scalar.order",Rows.laid_buttress_scalar_order),("buttress/sha.squareRoots",Rows.laid_buttress_sha_squareRoots),("buttress/sha.cubeRoots",Rows.laid_buttress_sha_cubeRoots),("buttress/field.fourTimesP",Rows.laid_buttress_field_fourTimesP),("buttress/field.rootOfMinusOne",Rows.laid_buttress_field_rootOfMinusOne),("buttress/edwards.d",Rows.laid_buttress_edwards_d),("buttress/edwards.base",Rows.laid_buttress_edwards_base)] W):oI W/\eY W/\Tables W:=by
 refine⟨?_,tables (fI (fI (fI h))),?_⟩
 .rw[LY]at h
  have g0:Tryz.prog.globalNamed "buttress/scalar.order"=some 5:=by kernel_rfl
  have h0:=Lib.tabIs_of_head g0 (by kernel_rfl) Tryz.underlying99 Tryz.underlying52 (by kernel_rfl) (by kernel_rfl) h
  have hp:∀i,i<4->W.cell? ⟨5,i,none⟩=some (jE (Sc.lw i)):=fun i hi=>by
   rw[h0.cell g0 i hi]
   obtain rfl|rfl|rfl|rfl:i=0\/i=1\/i=2\/i=3:=by omega
   all_goals rfl
  exact⟨block_lt_of_cell (hp 0 (by decide)),hp⟩
 .have k:=fI h
  rw[X0,X4]at k
  have g0:Tryz.prog.globalNamed "buttress/sha.squareRoots"=some 0:=by kernel_rfl
  have g1:Tryz.prog.globalNamed "buttress/sha.cubeRoots"=some 4:=by kernel_rfl
  have h0:=Lib.tabIs_of_head g0 (by kernel_rfl) Tryz.underlying120 Tryz.underlying52 (by kernel_rfl) (by kernel_rfl) k
  have h1:=Lib.tabIs_of_head g1 (by kernel_rfl) Tryz.underlying190 Tryz.underlying52 (by kernel_rfl) (by kernel_rfl) (fI k)
  have JG:∀(l:List Nat) (i:Nat),(l.map fun (n:Nat)=>(n:Int)).getD i 0=((l.getD i 0:Nat):Int):=fun l i=>by
   rw[List.getD_eq_getElem?_getD,List.getD_eq_getElem?_getD,List.getElem?_map]
   cases l[i]?<;>rfl
  refine⟨fun t ht=>?_,fun t ht=>?_⟩
  .rw[h1.cell g1 t ht];unfold UM;rw[JG];rfl
  .rw[h0.cell g0 t ht];unfold UN;rw[JG];rfl
noncomputable def Fz (os:Os):World:=
 {World.holding Tryz.prog os ⟨#[],#[],[]⟩ with heap:=(((((((World.holding Tryz.prog os ⟨#[],#[],[]⟩).heap.modify 3 (putObj YL)).modify 6 (putObj YM)).modify 2 (putObj YN)).modify 1 (putObj (Cc++Ce++Cg++Ch))).modify 5 (putObj YO)).modify 0 (putObj UN)).modify 4 (putObj UM)}
end
section
open Go.ChangeShapes Go.WideShapes Go.ChangeAt Go.RowKit Go.Deep Go.Joins Ve
namespace Ve
theorem FB {H:Type} {enc:TypeId×Value->H} {W:World} {base n:Nat} {sp:Nat->Bool} {hd:Bool} {v:Value} {x:DataW H×List MemPlace} (h:DataW.trod enc Tryz.prog W base sp hd n 3 [v]=some x):∃k,v=iV k:=by
 obtain⟨k,hk,_⟩:=DataW.trod_int Tryz.underlying3 h
 exact⟨k,by simpa using hk⟩
theorem aep {W:World} {x:Addr} {v:Value} (h:W.cell? (x.add 0)=some v):∃b off,x=⟨b,off,none⟩/\b<W.heap.size:=by
 obtain⟨b,off,spot⟩:=x
 have hspot:spot=none:=by simpa[Addr.add] using World.cell?_spot h
 subst hspot
 exact⟨b,off,rfl,by simpa[Addr.add] using block_lt_of_cell h⟩
theorem JH {α:Type} (f:Nat->α) (n i:Nat) (z:α) (h:i<n):((List.range n).map f).getD i z=f i:=by
 rw[List.getD_eq_getElem?_getD,List.getElem?_map,List.getElem?_range h];rfl
theorem Qo {H:Type} {enc:TypeId×Value->H} {W:World} {a:Option Addr} {len cap:Nat} {x:DataW H×List MemPlace} {fuel:Nat} (hf:DataW.trod enc Tryz.prog W 0 (fun _=>true) true fuel 23 [.slice a len cap]=some x):
  ∃l:List D,l.length=len/\len<9223372036854775808/\dK W W.heap.size a l:=by
 rcases open_slice_pairs Tryz.underlying23 Tryz.underlying42 (by kernel_rfl) rfl rfl (by kernel_rfl) (by kernel_rfl) hf with⟨hcs,_⟩ |⟨b,l,c,m,k,V0,V1,D0,D1,P0,P1,hcs,_,hl,hm,hmm,_,hall⟩
 .simp only[List.cons.injEq,Value.slice.injEq,and_true]at hcs
  obtain⟨rfl,rfl,rfl⟩:=hcs
  exact⟨[],rfl,by decide,Nat.le_refl _,Or.inl rfl⟩
 .simp only[List.cons.injEq,Value.slice.injEq,and_true]at hcs
  obtain⟨rfl,rfl,rfl⟩:=hcs
  simp only[if_true]at hmm
  subst hmm
  have each:∀i,i<len->∃q:D,V0 i=iV q.1/\V1 i=iV q.2:=fun i hi=>by
   obtain⟨_,_,t0,t1⟩:=hall i (by omega)
   obtain⟨x0,e0⟩:=FB t0
   obtain⟨x1,e1⟩:=FB t1
   exact⟨(x0,x1),e0,e1⟩
  obtain⟨q,hq⟩:=choose_lt each
  refine⟨(List.range len).map q,by simp,by unfold maxLen at hm;omega,Nat.le_refl _,?_⟩
  by_cases h0:len=0
  .left;simp[h0]
  .have c0:=(hall 0 (by omega)).1
   rw[Nat.zero_mul]at c0
   obtain⟨pb,po,rfl,hlt⟩:=aep c0
   refine Or.inr ⟨pb,po,rfl,hlt,fun i hi=>?_⟩
   simp only[List.length_map,List.length_range]at hi
   obtain⟨e0,e1,_⟩:=hall i (by omega)
   rw[Addr.add_lit]at e0 e1
   rw[JH _ _ _ _ hi,<- (hq i hi).1,<- (hq i hi).2]
   exact⟨e0,by rw[Nat.add_assoc];exact e1⟩
end Ve
end
section
open Go.ChangeShapes Go.WideShapes Go.ChangeAt Go.RowKit Go.Deep Go.Joins Ow Ve
namespace Rc
theorem aa3 {α:Type} {cs:Array α} (h:cs.size=7):∃c0 c1 c2 c3 c4 c5 c6,cs=#[c0,c1,c2,c3,c4,c5,c6]:=by
 obtain⟨l⟩:=cs
 match l,h with
 | [c0,c1,c2,c3,c4,c5,c6],_=>exact⟨c0,c1,c2,c3,c4,c5,c6,rfl⟩
theorem Qp {H:Type} {enc:TypeId×Value->H} {P:Program} {w:World} {base:Nat} {spare:Nat->Bool} {held:Bool} {r:Reach} {b0:Nat} {t:TypeId} {fs:Array Field} {v:Value} {d:DataW H} {p:List MemPlace} (hs:P.underlying t=some (.struct fs)) (hone:oneCellFields P fs=true) (hC:P.cellsOf t=7)
  (hv:Value.okWide P w r b0 t v) (h:DataW.Trod enc P w base spare held t v d p):
  ∃(cs:Array Value) (n:Nat),v=.agg cs/\cs.size=7/\∀(i:Nat) (f:Field),fs[i]?=some f->∀u,cs.toList[i]?=some u->∃y,DataW.trod enc P w base spare held n f.type [u]=some y:=by
 obtain⟨cs,rfl,hsz⟩:=okWide_struct hs hv
 obtain⟨fuel,hf⟩:=h
 obtain⟨xs,n,_,_,_,hlen,hx⟩:=DataW.trod_struct hs hf
 refine⟨cs,n,rfl,hsz.trans hC,fun i f hi u hu=>?_⟩
 have h1:=hx i f hi
 obtain⟨o,k⟩:=hone_of hone i f hi
 have hi2:i<xs.length:=by rw[hlen];exact (Array.getElem?_eq_some_iff.1 hi).1
 rw[List.getElem?_eq_getElem hi2]at h1
 refine⟨xs[i],?_⟩
 rw[<- h1,o,k]
 congr 1
 have hi3:i<cs.toList.length:=(List.getElem?_eq_some_iff.1 hu).1
 rw[show (Value.agg cs).cells.toList=cs.toList from rfl,List.drop_eq_getElem_cons hi3]
 rw[List.getElem?_eq_getElem hi3]at hu
 simp only[Option.some.injEq]at hu
 rw[hu];rfl
theorem Cj {H:Type} {enc:TypeId×Value->H} {W:World} {n:Nat} {t e:TypeId} {v:Value} {y:DataW H×List MemPlace} (ht:Tryz.prog.underlying t=some (.slice e)) (h:DataW.trod enc Tryz.prog W 0 (fun _=>true) true n t [v]=some y):∃a l c,v=.slice a l c:=by
 rcases open_slice ht h with⟨hcs,_⟩ |⟨a,l,c,_,_,_,_,hcs,_⟩
 .exact⟨none,0,0,by simpa using hcs⟩
 .exact⟨some a,l,c,by simpa using hcs⟩
theorem Ck {H:Type} {enc:TypeId×Value->H} {W:World} {n len cap:Nat} {a:Option Addr} {y:DataW H×List MemPlace} (h:DataW.trod enc Tryz.prog W 0 (fun _=>true) true n 22 [.slice a len cap]=some y):∃p,p.length=len/\BytesAt W W.heap.size a cap p:=
 uU (d:=y.1) (ps:=y.2) ⟨n,h⟩
set_option maxRecDepth 100000 in
theorem UQ {H:Type} {enc:TypeId×Value->H} {W:World} {rr:Reach} {b0:Nat} {v:Value} {d:DataW H} {ps:List MemPlace} (hv:Value.okWide Tryz.prog W rr b0 25 v) (h:DataW.Trod enc Tryz.prog W 0 (fun _=>true) true 25 v d ps):
  ∃(q:L) (r:R),v=q.v r/\mV W W.heap.size q r:=by
 obtain⟨cs,n,rfl,hsz,hall⟩:=Qp Tryz.underlying25 (by kernel_rfl) (by kernel_rfl) hv h
 obtain⟨c0,c1,c2,c3,c4,c5,c6,rfl⟩:=aa3 hsz
 obtain⟨y0,t0⟩:=hall 0 _ rfl c0 rfl
 obtain⟨y1,t1⟩:=hall 1 _ rfl c1 rfl
 obtain⟨y2,t2⟩:=hall 2 _ rfl c2 rfl
 obtain⟨y3,t3⟩:=hall 3 _ rfl c3 rfl
 obtain⟨y4,t4⟩:=hall 4 _ rfl c4 rfl
 obtain⟨y5,t5⟩:=hall 5 _ rfl c5 rfl
 obtain⟨y6,t6⟩:=hall 6 _ rfl c6 rfl
 obtain⟨s,e0,_,_⟩:=DataW.trod_string Tryz.underlying9 t0
 obtain⟨cl,rfl⟩:=FB t1
 obtain⟨sq,rfl⟩:=FB t2
 obtain⟨g,e4,_⟩:=DataW.trod_bool Tryz.underlying4 t4
 obtain rfl:c0=.string s:=by simpa using e0
 obtain rfl:c4=.bool g:=by simpa using e4
 obtain⟨a1,n1,k1,rfl⟩:=Cj Tryz.underlying23 t3
 obtain⟨a2,n2,k2,rfl⟩:=Cj Tryz.underlying22 t5
 obtain⟨a3,n3,k3,rfl⟩:=Cj Tryz.underlying22 t6
 obtain⟨cx,hl1,hm,hd⟩:=Qo t3
 obtain⟨val,hl2,hvb⟩:=Ck t5
 obtain⟨sig,hl3,hsb⟩:=Ck t6
 exact⟨⟨s,a1,n1,k1,a2,n2,k2,a3,n3,k3⟩,⟨iF s,cl,sq,cx,g,val,sig⟩,rfl,rfl,hl1,hl2,hl3,hd,hvb,hsb,hm⟩
end Rc
end
end Go.Proofs.YtmijliomjpphkaaGreatDoor
