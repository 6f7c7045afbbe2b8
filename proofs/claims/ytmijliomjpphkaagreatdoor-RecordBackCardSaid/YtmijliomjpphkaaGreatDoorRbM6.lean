/- texts merged -/
import Derived.Test.YtmijliomjpphkaaGreatDoorRbM5
import Derived.LaidEqlPtr
import Derived.Test.YtmijliomjpphkaaGreatDoorRbM4
import Derived.Test.YtmijliomjpphkaaGreatDoorRbM1
import Derived.Deep.Cut
import Derived.ArgAppend
import Derived.Test.YtmijliomjpphkaaGreatDoorRbM2
import Derived.Deep.RegionLaw
import Derived.Deep.RegionLawGrows
import Derived.ChangeKeysEq
import Derived.Test.YtmijliomjpphkaaGreatDoorRbM3
namespace Go.Proofs.YtmijliomjpphkaaGreatDoor
section
open Go.RowKit
set_option maxRecDepth 100000 in
set_option maxHeartbeats 2000000 in
theorem CS (B M:Nat) (l r p:List Nat) (pb po:Nat) (cap:Nat) (w:World) (hT:Tables w) (hH:jF w B M l r) (hP:jo w B (some ⟨pb,po,none⟩) cap p) (hB2:0+4+1<=B)
  (hlen:l.length+p.length<2147483648) (hcap:cap<9223372036854775808) (hw:0<l.length%128) (hs:128<=l.length%128+p.length) (hd:128-l.length%128<cap):
  Calls Tryz.prog 89 #[.pointer (some ⟨B,0,none⟩),.slice (some ⟨pb,po,none⟩) p.length cap] w fun e w'=>e=.returned (.tuple #[])/\w.grownBy w' (some B)/\∃r',jF w' B M (l++p) r':=by
 have kz:=hH.blk.cell (lV _ _ _ _ hH.len)
 have fz:=hH.blk.free 136
 unfold aZ at kz
 have hb1:=hH.blk.set 136 (aZ (l.length+p.length))
 rw[l9 _ _ _ _ _ hH.len]at hb1
 have hg1:=aJ (ah w (some B)) 136 (aZ (l.length+p.length))
 obtain⟨w2,hcp,hg2,hb2⟩:=qE B M (l.length%128) (l.length+p.length) cap _ r p _ _ hH.len (by omega) hb1 (hP.kept hg1)
 have hg3:=aj hg1 hg2
 have hpc:=hP.cap
 rw[Nat.min_eq_right (by omega)]at hcp
 unfold aZ at hcp
 have hcells:∀i,i<128->w2.cell? ⟨B,8+i,none⟩=some (.int .u8 (((fP r p (l.length%128)).getD i 0:Nat):Int)):=fun i hi=>
  hb2.cell (BH _ _ _ _ _ (kE _ _ _ hH.len (by omega)) hi)
 have hbytes:=mP r p (l.length%128) hH.byte hP.byte
 have HA:=Lib.hid (And.intro hH hP);clear hH hP
 have HT2:=Lib.hid (And.intro hT (hT.kept hg3 (fun b e=>by cases e;exact hB2)));clear hT
 have HC:=Lib.hid (And.intro hg3 (And.intro hb2 (And.intro hcells hbytes)));clear hg3 hb2 hcells hbytes hg1 hg2 hb1
 obtain⟨u,hu⟩:∃u:Nat,u=l.length%128:=⟨_,rfl⟩
 have eu:(l.length:Int)%128=(u:Int):=by omega
 obtain⟨d,hd⟩:∃d:Nat,d=128-u:=⟨_,rfl⟩
 rw[<- hu]at hcp hw hs HC
 rw[<- hd]at hcp
 have ec:((l.length+p.length:Nat):Int)=(l.length:Int)+(p.length:Int):=by omega
 rw[ec]at hcp
 clear ec
 have u0:(0:Int)<(u:Int):=by omega
 have u1:(u:Int)<=128:=by omega
 have u2:¬128=u:=by omega
 have u3:¬(u:Int)+(d:Int)<128:=by omega
 have u4:(u:Int)+(d:Int)<=128:=by omega
 have d1:(d:Int)<=(p.length:Int):=by omega
 have d3:(p.length:Int)<=(cap:Int):=by omega
 have d2:(d:Int)<(cap:Int):=by omega
 have d4:d<cap:=by omega
 have HU:=Lib.hid (And.intro hu hd)
 have hd':128-u=d:=hd.symm
 clear hu hd
 go_enter Tryz.func89,Tryz.ntmps89
 go_wp2_with fail
 refine wp_region_still_tail 7 (by kernel_rfl) (by kernel_rfl) ?_
 change wpStill _ _ (World.drew w2) _ _ _
 simp only[List.take_succ_cons,List.take_zero,List.drop_succ_cons,List.drop_zero]
 repeat still_step
 refine wpStill_nil ?_
 go_wp2_with fail
 refine (mO B _ B 8 _ (bE.blocks l (l.length/128)) _ (fP r p u) _ (by exact HT2.out.2.drew) (SB.blocks _ _) (by omega) HC.out.2.2.2 (HC.out.2.1.drew) (by exact HC.out.2.2.1)).mono ?_
 rintro e w3 ⟨rfl,hg3,hb3⟩
 have hN:=vE.fill (a':=some ⟨pb,po+d,none⟩) HA.out.1 HA.out.2 (by rw[<- HU.out.1];exact hs) HC.out.1 (aj (aX (ah _ _)) hg3) (by rw[<- HU.out.1];exact hb3) (fun _ pb' po' e=>by cases e;rw[HU.out.2,HU.out.1])
 rw[<- HU.out.1,<- HU.out.2]at hN
 have HS:=Lib.hid hN;clear hN hb3 hg3
 have HT:=Lib.hid HT2.out.1;clear HT2
 have HPL:Hid ((p.drop d).length=p.length-d):=List.length_drop
 clear kz fz eu hcp
 go_wp2
 go_loopw [1] (fun v wr=>∃k cap' a' q r',v=.slice a' q.length cap'/\cap'<9223372036854775808/\vE w wr B M (l++p) k a' cap' q r') (fun v _=>lenOf v)
 case atStart=>exact⟨_,cap-d,some ⟨pb,po+d,none⟩,p.drop d,fP r p u,by rw[HPL.out],by omega,HS.out⟩
 case round=>
  obtain⟨k,cap',a',q,r',rfl,adM,hI⟩:=hrel
  have hqc:=hI.part.cap
  by_cases hlt:128<=q.length
  .obtain⟨pb,po,rfl,hne,hpl,hc⟩:=hI.part.cells.resolve_left (by omega)
   have hc1:∀i,i<128->wr.cell? ⟨pb,po+i,none⟩=some (.int .u8 (((q.take 128).getD i 0:Nat):Int)):=fun i hi=>by rw[nJ _ _ _ hi];exact hc i (by omega)
   have HT2:=Lib.hid (HT.out.kept hI.g (fun b e=>by cases e;exact hB2))
   have HC:=Lib.hid hc1;clear hc hc1
   have HI:=Lib.hid hI;clear hI
   have i1:(128:Int)<=(q.length:Int):=by omega
   have i2:(128:Int)<=(cap':Int):=by omega
   have i3:(q.length:Int)<=(cap':Int):=by omega
   by_cases hce:cap'=128
   .have tL:q.length=128:=by omega
    subst hce
    rw[tL]at i1 i3 hqc ⊢
    have TN:=Lib.hid tL;clear tL hlt
    go_wp2_with fail
    refine wp_region_still_tail 5 (by kernel_rfl) (by kernel_rfl) ?_
    change wpStill _ _ (World.drew wr) _ _ _
    simp only[List.take_succ_cons,List.take_zero,List.drop_succ_cons,List.drop_zero]
    repeat still_step
    refine wpStill_nil ?_
    go_wp2_with fail
    refine (mO B _ pb po _ (bE.blocks (l++p) k) _ (q.take 128) _ (by exact HT2.out.drew) (SB.blocks _ _) (by omega) (iL _ _ HI.out.part.byte) (HI.out.blk.drew) (by exact HC.out)).mono ?_
    rintro e w3 ⟨rfl,hg3,hb3⟩
    have hN:=HI.out.next (a':=some ⟨pb,po,none⟩) (by rw[TN.out];omega) (aj (aX (ah _ _)) hg3) hb3 (fun h=>by rw[TN.out]at h;omega)
    have HN:=Lib.hid hN;clear hN hb3 hg3
    go_wp2
    go_roundw
    case rel=>exact⟨k+1,0,some ⟨pb,po,none⟩,q.drop 128,r',by rw[List.length_drop,TN.out],by omega,HN.out⟩
    case measure=>simp[lenOf]
   .have i4:(128:Int)<(cap':Int):=by omega
    go_wp2_with fail
    refine wp_region_still_tail 5 (by kernel_rfl) (by kernel_rfl) ?_
    change wpStill _ _ (World.drew wr) _ _ _
    simp only[List.take_succ_cons,List.take_zero,List.drop_succ_cons,List.drop_zero]
    repeat still_step
    refine wpStill_nil ?_
    go_wp2_with fail
    refine (mO B _ pb po _ (bE.blocks (l++p) k) _ (q.take 128) _ (by exact HT2.out.drew) (SB.blocks _ _) (by omega) (iL _ _ HI.out.part.byte) (HI.out.blk.drew) (by exact HC.out)).mono ?_
    rintro e w3 ⟨rfl,hg3,hb3⟩
    have hN:=HI.out.next (a':=some ⟨pb,po+128,none⟩) hlt (aj (aX (ah _ _)) hg3) hb3 (fun _ pb' po' e=>by cases e;rfl)
    have HN:=Lib.hid hN;clear hN hb3 hg3
    go_wp2
    go_roundw
    case rel=>exact⟨k+1,cap'-128,some ⟨pb,po+128,none⟩,q.drop 128,r',by rw[List.length_drop],by omega,HN.out⟩
    case measure=>simp[lenOf];omega
  .obtain⟨w4,hcp,hg4,hb4⟩:=qE B M 0 (l++p).length cap' _ r' q a' wr hI.len (by omega) hI.blk hI.part
   have BI:=Lib.hid (hI.last (by omega) hg4 hb4)
   rw[Nat.min_eq_left (by omega)]at hcp
   simp only[Nat.add_zero,Nat.sub_zero]at hcp
   clear hg4 hb4 hI
   have i1:¬(128:Int)<=(q.length:Int):=by omega
   go_wp2
   go_end0
   exact⟨rfl,BI.out.1,_,BI.out.2⟩
set_option maxRecDepth 100000 in
set_option maxHeartbeats 2000000 in
theorem CU (B M:Nat) (l r p:List Nat) (pb po:Nat) (w:World) (hT:Tables w) (hH:jF w B M l r) (hP:jo w B (some ⟨pb,po,none⟩) p.length p) (hB2:0+4+1<=B)
  (hlen:l.length+p.length<2147483648) (hw:0<l.length%128) (hs:128<=l.length%128+p.length) (hd:128-l.length%128=p.length):
  Calls Tryz.prog 89 #[.pointer (some ⟨B,0,none⟩),.slice (some ⟨pb,po,none⟩) p.length p.length] w fun e w'=>e=.returned (.tuple #[])/\w.grownBy w' (some B)/\∃r',jF w' B M (l++p) r':=by
 have kz:=hH.blk.cell (lV _ _ _ _ hH.len)
 have fz:=hH.blk.free 136
 unfold aZ at kz
 have hb1:=hH.blk.set 136 (aZ (l.length+p.length))
 rw[l9 _ _ _ _ _ hH.len]at hb1
 have hg1:=aJ (ah w (some B)) 136 (aZ (l.length+p.length))
 obtain⟨w2,hcp,hg2,hb2⟩:=qE B M (l.length%128) (l.length+p.length) p.length _ r p _ _ hH.len (by omega) hb1 (hP.kept hg1)
 have hg3:=aj hg1 hg2
 rw[Nat.min_eq_right (by omega)]at hcp
 unfold aZ at hcp
 have hcells:∀i,i<128->w2.cell? ⟨B,8+i,none⟩=some (.int .u8 (((fP r p (l.length%128)).getD i 0:Nat):Int)):=fun i hi=>
  hb2.cell (BH _ _ _ _ _ (kE _ _ _ hH.len (by omega)) hi)
 have hbytes:=mP r p (l.length%128) hH.byte hP.byte
 have HA:=Lib.hid (And.intro hH hP);clear hH hP
 have HT2:=Lib.hid (And.intro hT (hT.kept hg3 (fun b e=>by cases e;exact hB2)));clear hT
 have HC:=Lib.hid (And.intro hg3 (And.intro hb2 (And.intro hcells hbytes)));clear hg3 hb2 hcells hbytes hg1 hg2 hb1
 obtain⟨u,hu⟩:∃u:Nat,u=l.length%128:=⟨_,rfl⟩
 have eu:(l.length:Int)%128=(u:Int):=by omega
 have hd:p.length=128-u:=by omega
 rw[<- hu]at hcp hw hs HC
 rw[<- hd]at hcp
 have ec:((l.length+p.length:Nat):Int)=(l.length:Int)+(p.length:Int):=by omega
 rw[ec]at hcp
 clear ec
 have u0:(0:Int)<(u:Int):=by omega
 have u1:(u:Int)<=128:=by omega
 have u2:¬128=u:=by omega
 have u3:¬(u:Int)+(p.length:Int)<128:=by omega
 have u4:(u:Int)+(p.length:Int)<=128:=by omega
 have HU:=Lib.hid (And.intro hu hd)
 have hd':128-u=p.length:=hd.symm
 clear hu hd
 go_enter Tryz.func89,Tryz.ntmps89
 go_wp2_with fail
 refine wp_region_still_tail 7 (by kernel_rfl) (by kernel_rfl) ?_
 change wpStill _ _ (World.drew w2) _ _ _
 simp only[List.take_succ_cons,List.take_zero,List.drop_succ_cons,List.drop_zero]
 repeat still_step
 refine wpStill_nil ?_
 go_wp2_with fail
 refine (mO B _ B 8 _ (bE.blocks l (l.length/128)) _ (fP r p u) _ (by exact HT2.out.2.drew) (SB.blocks _ _) (by omega) HC.out.2.2.2 (HC.out.2.1.drew) (by exact HC.out.2.2.1)).mono ?_
 rintro e w3 ⟨rfl,hg3,hb3⟩
 have hN:=vE.fill (a':=some ⟨pb,po,none⟩) HA.out.1 HA.out.2 (by rw[<- HU.out.1];exact hs) HC.out.1 (aj (aX (ah _ _)) hg3) (by rw[<- HU.out.1];exact hb3) (fun h=>absurd h (by rw[<- HU.out.1,<- HU.out.2];omega))
 rw[<- HU.out.1,<- HU.out.2]at hN
 have HS:=Lib.hid hN;clear hN hb3 hg3
 have HT:=Lib.hid HT2.out.1;clear HT2
 have HPL:Hid ((p.drop p.length).length=0):=by show (p.drop p.length).length=0;rw[List.length_drop,Nat.sub_self]
 clear kz fz eu hcp
 go_wp2
 go_loopw [1] (fun v wr=>∃k cap' a' q r',v=.slice a' q.length cap'/\cap'<9223372036854775808/\vE w wr B M (l++p) k a' cap' q r') (fun v _=>lenOf v)
 case atStart=>exact⟨_,0,some ⟨pb,po,none⟩,p.drop p.length,fP r p u,by rw[HPL.out],by omega,by have h:=HS.out;rw[Nat.sub_self]at h;exact h⟩
 case round=>
  obtain⟨k,cap',a',q,r',rfl,adM,hI⟩:=hrel
  have hqc:=hI.part.cap
  by_cases hlt:128<=q.length
  .obtain⟨pb,po,rfl,hne,hpl,hc⟩:=hI.part.cells.resolve_left (by omega)
   have hc1:∀i,i<128->wr.cell? ⟨pb,po+i,none⟩=some (.int .u8 (((q.take 128).getD i 0:Nat):Int)):=fun i hi=>by rw[nJ _ _ _ hi];exact hc i (by omega)
   have HT2:=Lib.hid (HT.out.kept hI.g (fun b e=>by cases e;exact hB2))
   have HC:=Lib.hid hc1;clear hc hc1
   have HI:=Lib.hid hI;clear hI
   have i1:(128:Int)<=(q.length:Int):=by omega
   have i2:(128:Int)<=(cap':Int):=by omega
   have i3:(q.length:Int)<=(cap':Int):=by omega
   by_cases hce:cap'=128
   .have tL:q.length=128:=by omega
    subst hce
    rw[tL]at i1 i3 hqc ⊢
    have TN:=Lib.hid tL;clear tL hlt
    go_wp2_with fail
    refine wp_region_still_tail 5 (by kernel_rfl) (by kernel_rfl) ?_
    change wpStill _ _ (World.drew wr) _ _ _
    simp only[List.take_succ_cons,List.take_zero,List.drop_succ_cons,List.drop_zero]
    repeat still_step
    refine wpStill_nil ?_
    go_wp2_with fail
    refine (mO B _ pb po _ (bE.blocks (l++p) k) _ (q.take 128) _ (by exact HT2.out.drew) (SB.blocks _ _) (by omega) (iL _ _ HI.out.part.byte) (HI.out.blk.drew) (by exact HC.out)).mono ?_
    rintro e w3 ⟨rfl,hg3,hb3⟩
    have hN:=HI.out.next (a':=some ⟨pb,po,none⟩) (by rw[TN.out];omega) (aj (aX (ah _ _)) hg3) hb3 (fun h=>by rw[TN.out]at h;omega)
    have HN:=Lib.hid hN;clear hN hb3 hg3
    go_wp2
    go_roundw
    case rel=>exact⟨k+1,0,some ⟨pb,po,none⟩,q.drop 128,r',by rw[List.length_drop,TN.out],by omega,HN.out⟩
    case measure=>simp[lenOf]
   .have i4:(128:Int)<(cap':Int):=by omega
    go_wp2_with fail
    refine wp_region_still_tail 5 (by kernel_rfl) (by kernel_rfl) ?_
    change wpStill _ _ (World.drew wr) _ _ _
    simp only[List.take_succ_cons,List.take_zero,List.drop_succ_cons,List.drop_zero]
    repeat still_step
    refine wpStill_nil ?_
    go_wp2_with fail
    refine (mO B _ pb po _ (bE.blocks (l++p) k) _ (q.take 128) _ (by exact HT2.out.drew) (SB.blocks _ _) (by omega) (iL _ _ HI.out.part.byte) (HI.out.blk.drew) (by exact HC.out)).mono ?_
    rintro e w3 ⟨rfl,hg3,hb3⟩
    have hN:=HI.out.next (a':=some ⟨pb,po+128,none⟩) hlt (aj (aX (ah _ _)) hg3) hb3 (fun _ pb' po' e=>by cases e;rfl)
    have HN:=Lib.hid hN;clear hN hb3 hg3
    go_wp2
    go_roundw
    case rel=>exact⟨k+1,cap'-128,some ⟨pb,po+128,none⟩,q.drop 128,r',by rw[List.length_drop],by omega,HN.out⟩
    case measure=>simp[lenOf];omega
  .obtain⟨w4,hcp,hg4,hb4⟩:=qE B M 0 (l++p).length cap' _ r' q a' wr hI.len (by omega) hI.blk hI.part
   have BI:=Lib.hid (hI.last (by omega) hg4 hb4)
   rw[Nat.min_eq_left (by omega)]at hcp
   simp only[Nat.add_zero,Nat.sub_zero]at hcp
   clear hg4 hb4 hI
   have i1:¬(128:Int)<=(q.length:Int):=by omega
   go_wp2
   go_end0
   exact⟨rfl,BI.out.1,_,BI.out.2⟩
end
section
open Go.RowKit
def oN (w:World) (B M:Nat) (l:List Nat):Prop:=∃r,jF w B M l r
theorem vG (B M m:Nat) (l p:List Nat) (a:Option Addr) (cap:Nat) (w:World) (hm:p.length=m) (hT:Tables w) (hH:oN w B M l) (hP:jo w B a cap p) (hB2:0+4+1<=B)
  (hlen:l.length+p.length<2147483648) (hcap:cap<9223372036854775808):
  Calls Tryz.prog 89 #[.pointer (some ⟨B,0,none⟩),.slice a m cap] w fun e w'=>e=.returned (.tuple #[])/\w.grownBy w' (some B)/\oN w' B M (l++p):=by
 subst hm
 obtain⟨r,hH⟩:=hH
 have hc:=hP.cap
 by_cases h0:l.length%128=0
 .exact IY B M l r p a cap w hT hH hP hB2 hlen hcap h0
 .by_cases h1:l.length%128+p.length<128
  .exact PS B M l r p a cap w hH hP hlen (by omega) h1
  .obtain⟨pb,po,rfl,_⟩:=hP.cells.resolve_left (by omega)
   by_cases h2:128-l.length%128<cap
   .exact CS B M l r p pb po cap w hT hH hP hB2 hlen hcap (by omega) (by omega) h2
   .obtain rfl:cap=p.length:=by omega
    exact CU B M l r p pb po w hT hH hP hB2 hlen (by omega) (by omega) (by omega)
def iE:List Value:=List.replicate 256 (rU 0)
def mg:Array Value:=iE.toArray
theorem z58 (w:World):(zeroValue 169).run Tryz.prog w=.ok (.agg mg) w:=by kernel_rfl
theorem mQ (n:Nat):(bE.tail n).length=bE.kY n:=by
 unfold bE.tail bE.kY
 simp[bE.rC]
 split<;>omega
theorem PU (n:Nat):∀i,(bE.tail n).getD i 0<256:=by
 have all:∀x∈bE.tail n,x<256:=by
  intro x hx
  have hb:∀y i,bE.byte y i<256:=fun y i=>Nat.mod_lt _ (by decide)
  unfold bE.tail at hx
  rcases List.mem_append.1 hx with hx|hx
  .rcases List.mem_append.1 hx with hx|hx
   .rcases List.mem_cons.1 hx with rfl|hx
    .decide
    .rw[(List.mem_replicate.1 hx).2];decide
   .simp only[bE.rC,List.mem_cons,List.not_mem_nil,or_false]at hx
    rcases hx with h|h|h|h|h|h|h|h<;>(rw[h];exact hb _ _)
  .simp only[bE.rC,List.mem_cons,List.not_mem_nil,or_false]at hx
   rcases hx with h|h|h|h|h|h|h|h<;>(rw[h];exact hb _ _)
 intro i
 by_cases h:i<(bE.tail n).length
 .rw[List.getD_eq_getElem?_getD,List.getElem?_eq_getElem h];exact all _ (List.getElem_mem h)
 .rw[List.getD_eq_getElem?_getD,List.getElem?_eq_none (by omega)];decide
theorem Lv (n t:Nat) (ht:t=bE.kY n):
  (oV (oV (iE.set 0 (rU 128)) (t-16) (tK ((n >>> 61:Nat):Int)) 8) (t-8) (tK (((n <<< 3)%18446744073709551616:Nat):Int)) 8).take t=(bE.tail n).map rU:=by
 have h1:17<=t/\t<=144:=by subst ht;unfold bE.kY;split<;>omega
 have hz:iE.set 0 (rU 128)=rU 128:: List.replicate 255 (rU 0):=rfl
 have hzl:(iE.set 0 (rU 128)).length=256:=by rw[List.length_set];exact List.length_replicate
 rw[Ea _ _ _ _ (by rw[fT,hzl];omega),Ea _ _ _ _ (by rw[hzl];omega),Lp,Lp]
 have hA:((iE.set 0 (rU 128)).take (t-16)).length=t-16:=by rw[List.length_take,hzl];omega
 have hA2:((iE.set 0 (rU 128)).take (t-16)++YG (n >>> 61)).length=t-8:=by rw[List.length_append,hA,rD];omega
 rw[List.take_append_of_le_length (l₂:=List.drop (t-16+8) _) (by omega),List.take_of_length_le (i:=t-8) (by omega)]
 rw[List.take_append_of_le_length (by rw[List.length_append,hA2,rD];omega),List.take_of_length_le (by rw[List.length_append,hA2,rD];omega)]
 unfold bE.tail
 rw[<- ht,hz,show t-16=(t-17)+1 by omega,List.take_succ_cons,List.take_replicate,Nat.min_eq_left (by omega)]
 simp[YG]
theorem pO:(iE.set 0 (rU 128)).length=256:=by rw[List.length_set];exact List.length_replicate
theorem DY (n t a b:Nat) (ht:t=bE.kY n) (ha:t=a+16) (hb:b=a+8) (B:Nat) (w:World) (NB:Nat) (hne:NB≠B) (hn:n<2147483648)
  (hN:aH w NB 169 (oV (oV (iE.set 0 (rU 128)) a (tK ((n:Int)/2305843009213693952)) 8) b (tK ((n:Int)*8)) 8)):
  jo w B (some ⟨NB,0,none⟩) 256 (bE.tail n):=by
 have e1:(n:Int)/2305843009213693952=((n >>> 61:Nat):Int):=by rw[Nat.shiftRight_eq_div_pow];omega
 have e2:(n:Int)*8=(((n <<< 3)%18446744073709551616:Nat):Int):=by rw[Nat.shiftLeft_eq];omega
 have hl:=mQ n
 have h1:17<=t/\t<=144:=by subst ht;unfold bE.kY;split<;>omega
 have hc:=Lv n t ht
 rw[show t-16=a by omega,show t-8=b by omega,<- e1,<- e2]at hc
 refine⟨by omega,PU n,Or.inr ⟨NB,0,rfl,hne,hN.lt,fun i hi=>?_⟩⟩
 rw[Nat.zero_add]
 apply hN.cell
 generalize oV (oV (iE.set 0 (rU 128)) a (tK ((n:Int)/2305843009213693952)) 8) b (tK ((n:Int)*8)) 8=L at *
 have:L[i]?=(L.take t)[i]?:=by rw[List.getElem?_take,if_pos (by omega)]
 rw[this,hc,List.getElem?_map,List.getElem?_eq_getElem hi]
 simp[List.getElem?_eq_getElem hi]
theorem jF.kept {w w':World} {B M:Nat} {l r:List Nat} (h:jF w B M l r) (hg:w.grownBy w' none):jF w' B M l r:=⟨h.len,h.byte,h.waits,h.blk.grown hg (by simp)⟩
set_option maxRecDepth 100000 in
set_option maxHeartbeats 2000000 in
theorem WU (B M:Nat) (l:List Nat) (w:World) (hT:Tables w) (hH:oN w B M l) (hB2:0+4+1<=B) (hlen:l.length<2147483000):
  Calls Tryz.prog 90 #[.pointer (some ⟨B,0,none⟩)] w fun e w'=>e=.returned (.tuple #[])/\w.grownBy w' (some B)/\oN w' B M (bE.whole l):=by
 obtain⟨r,hr⟩:=hH
 have hz:=z58
 have kz:=hr.blk.cell (lV _ _ _ _ hr.len)
 have hblt:=hr.blk.lt
 have z0:∀n,((w.drewN n).alloc (.cells mg 169)).cell? ⟨w.heap.size,0,none⟩=some (.int .u8 0):=fun n=>(aH.new (w.drewN n) iE 169).cell (i:=0) (v:=rU 0) rfl
 have z1:∀n,((w.drewN n).alloc (.cells mg 169)).frozen? ⟨w.heap.size,0,none⟩=false:=fun n=>(aH.new (w.drewN n) iE 169).free 0
 have z2:∀n,(((w.drewN n).alloc (.cells mg 169)).setCell ⟨w.heap.size,0,none⟩ (.int .u8 128)).cell? ⟨B,136,none⟩=some (aZ l.length):=fun n=>(((hr.blk.drewN n).alloc _).other (by show w.heap.size≠B;omega) _).cell (lV _ _ _ _ hr.len)
 unfold aZ at kz z2
 have HR:=Lib.hid hr;clear hr
 have HT:=Lib.hid hT;clear hT
 by_cases hu:l.length%128<=111
 .obtain⟨t,ht⟩:∃t:Nat,t=128-l.length%128:=⟨_,rfl⟩
  have et:128-(l.length:Int)%128=(t:Int):=by omega
  have t1:17<=(t:Int):=by omega
  have t2:(t:Int)<=256:=by omega
  have htl:t=bE.kY l.length:=by unfold bE.kY;rw[if_neg (by omega)];exact ht
  clear ht
  obtain⟨a,ha⟩:∃a:Nat,t=a+16:=⟨t-16,by omega⟩
  obtain⟨b,hb⟩:∃b:Nat,b=a+8:=⟨_,rfl⟩
  have ea:(t:Int)-16=(a:Int):=by omega
  have eb:(t:Int)-8=(b:Int):=by omega
  have a1:(a:Int)<=256:=by omega
  have a2:¬256=a:=by omega
  have a3:16<=(t:Int):=by omega
  have b1:(b:Int)<=256:=by omega
  have b2:¬256=b:=by omega
  have b3:8<=(t:Int):=by omega
  have PV:=Lib.hid (And.intro htl (And.intro ha hb));clear htl ha hb hu
  go_enter Tryz.func90,Tryz.ntmps90
  go_wp2_with fail
  go_quiet (fail)
  go_wp2_with fail
  have hN0:aH (((w.drewN nq).alloc (.cells mg 169)).setCell ⟨w.heap.size,0,none⟩ (.int .u8 128)) w.heap.size 169 (iE.set 0 (rU 128)):=(aH.new (w.drewN nq) iE 169).set 0 (rU 128)
  have hG0:w.grownBy (((w.drewN nq).alloc (.cells mg 169)).setCell ⟨w.heap.size,0,none⟩ (.int .u8 128)) none:=aO (av (iM (ah _ _) _) _) (Nat.le_refl _) _
  generalize ((w.drewN nq).alloc (.cells mg 169)).setCell ⟨w.heap.size,0,none⟩ (.int .u8 128)=w1 at *
  have H0:=Lib.hid (And.intro hN0 hG0);clear hN0 hG0 hz z0 z1 z2 kz
  refine (jU w.heap.size _ a _ _ _ _ w1 (by omega) (by omega) (by rw[pO];omega) H0.out.1).mono ?_
  rintro e w2 ⟨rfl,hg2,hN2⟩
  have hG2:=aW H0.out.2 hg2 (Nat.le_refl _)
  have H2:=Lib.hid (And.intro hN2 hG2);clear hN2 hG2 hg2 H0
  go_wp2_with fail
  refine (jU w.heap.size _ b _ _ _ _ w2 (by omega) (by omega) (by rw[fT,pO];omega) H2.out.1).mono ?_
  rintro e w3 ⟨rfl,hg3,WQ⟩
  have hG3:=aW H2.out.2 hg3 (Nat.le_refl _)
  have hP:=DY l.length t a b PV.out.1 PV.out.2.1 PV.out.2.2 B w3 w.heap.size (by omega) (by omega) WQ
  have H3:=Lib.hid (And.intro hP hG3);clear hP hG3 WQ hg3 H2
  go_wp2_with fail
  refine (vG B M t l (bE.tail l.length) (some ⟨w.heap.size,0,none⟩) 256 w3 (by rw[mQ];exact PV.out.1.symm) (HT.out.kept H3.out.2 (by simp)) ⟨r,HR.out.kept H3.out.2⟩ H3.out.1 hB2 (by rw[mQ,<- PV.out.1];omega) (by omega)).mono ?_
  rintro e w4 ⟨rfl,hg4,hH4⟩
  have H4:=Lib.hid (And.intro (aj (dB H3.out.2 (some B)) hg4) hH4);clear hg4 hH4
  go_wp2
  go_end0
  exact⟨rfl,H4.out.1,H4.out.2⟩
 .obtain⟨t0,ht0⟩:∃t:Nat,t=128-l.length%128:=⟨_,rfl⟩
  obtain⟨t,ht⟩:∃t:Nat,t=256-l.length%128:=⟨_,rfl⟩
  have et0:128-(l.length:Int)%128=(t0:Int):=by omega
  have et:(t0:Int)+128=(t:Int):=by omega
  have t0l:(t0:Int)<17:=by omega
  have t1:17<=(t:Int):=by omega
  have t2:(t:Int)<=256:=by omega
  have htl:t=bE.kY l.length:=by unfold bE.kY;rw[if_pos (by omega)];exact ht
  clear ht ht0
  obtain⟨a,ha⟩:∃a:Nat,t=a+16:=⟨t-16,by omega⟩
  obtain⟨b,hb⟩:∃b:Nat,b=a+8:=⟨_,rfl⟩
  have ea:(t:Int)-16=(a:Int):=by omega
  have eb:(t:Int)-8=(b:Int):=by omega
  have a1:(a:Int)<=256:=by omega
  have a2:¬256=a:=by omega
  have a3:16<=(t:Int):=by omega
  have b1:(b:Int)<=256:=by omega
  have b2:¬256=b:=by omega
  have b3:8<=(t:Int):=by omega
  have PV:=Lib.hid (And.intro htl (And.intro ha hb));clear htl ha hb hu
  go_enter Tryz.func90,Tryz.ntmps90
  go_wp2_with fail
  go_quiet (fail)
  go_wp2_with fail
  have hN0:aH (((w.drewN nq).alloc (.cells mg 169)).setCell ⟨w.heap.size,0,none⟩ (.int .u8 128)) w.heap.size 169 (iE.set 0 (rU 128)):=(aH.new (w.drewN nq) iE 169).set 0 (rU 128)
  have hG0:w.grownBy (((w.drewN nq).alloc (.cells mg 169)).setCell ⟨w.heap.size,0,none⟩ (.int .u8 128)) none:=aO (av (iM (ah _ _) _) _) (Nat.le_refl _) _
  generalize ((w.drewN nq).alloc (.cells mg 169)).setCell ⟨w.heap.size,0,none⟩ (.int .u8 128)=w1 at *
  have H0:=Lib.hid (And.intro hN0 hG0);clear hN0 hG0 hz z0 z1 z2 kz
  refine (jU w.heap.size _ a _ _ _ _ w1 (by omega) (by omega) (by rw[pO];omega) H0.out.1).mono ?_
  rintro e w2 ⟨rfl,hg2,hN2⟩
  have hG2:=aW H0.out.2 hg2 (Nat.le_refl _)
  have H2:=Lib.hid (And.intro hN2 hG2);clear hN2 hG2 hg2 H0
  go_wp2_with fail
  refine (jU w.heap.size _ b _ _ _ _ w2 (by omega) (by omega) (by rw[fT,pO];omega) H2.out.1).mono ?_
  rintro e w3 ⟨rfl,hg3,WQ⟩
  have hG3:=aW H2.out.2 hg3 (Nat.le_refl _)
  have hP:=DY l.length t a b PV.out.1 PV.out.2.1 PV.out.2.2 B w3 w.heap.size (by omega) (by omega) WQ
  have H3:=Lib.hid (And.intro hP hG3);clear hP hG3 WQ hg3 H2
  go_wp2_with fail
  refine (vG B M t l (bE.tail l.length) (some ⟨w.heap.size,0,none⟩) 256 w3 (by rw[mQ];exact PV.out.1.symm) (HT.out.kept H3.out.2 (by simp)) ⟨r,HR.out.kept H3.out.2⟩ H3.out.1 hB2 (by rw[mQ,<- PV.out.1];omega) (by omega)).mono ?_
  rintro e w4 ⟨rfl,hg4,hH4⟩
  have H4:=Lib.hid (And.intro (aj (dB H3.out.2 (some B)) hg4) hH4);clear hg4 hH4
  go_wp2
  go_end0
  exact⟨rfl,H4.out.1,H4.out.2⟩
end
section
open Go.RowKit
theorem PX:∃j,Tryz.prog.info? 123=some j:=Option.isSome_iff_exists.1 (by kernel_rfl)
theorem TP (a:Addr) (w:World):(binOp .eql 90 (.pointer (some a)) (.pointer (some a))).run Tryz.prog w=.ok (.bool true) w:=by
 obtain⟨j,hj⟩:=PX
 exact run_eql_ptr_same w a Tryz.underlying90 hj
set_option maxHeartbeats 400000 in
theorem IZ (B:Nat) (l:List Nat) (w:World) (hH:oN w B B l):
  Calls Tryz.prog 88 #[.pointer (some ⟨B,0,none⟩)] w fun e w'=>e=.returned (.bool true)/\w=w':=by
 obtain⟨r,hr⟩:=hH
 have km:=hr.blk.cell (Ls _ _ _ _ hr.len)
 clear hr
 have he:=fun wx=>TP ⟨B,0,none⟩ wx
 go_enter Tryz.func88,Tryz.ntmps88
 go_wp2
 go_ret
 exact⟨rfl,rfl⟩
def newV:List Value:=fC bE.first++((List.replicate 128 0).map rU++[aZ 0,.pointer none])
theorem TQ {w:World} (hT:Tables w):w.rangeAt 0 0 (fC bE.first):=fun j v hv=>by
 have hj:j<8:=by
  rcases Nat.lt_or_ge j 8 with h|h
  .exact h
  .rw[List.getElem?_eq_none (show (fC bE.first).length<=j from h)]at hv;cases hv
 rw[Nat.zero_add]
 have:=hT.h j hj
 rw[this]
 obtain rfl|rfl|rfl|rfl|rfl|rfl|rfl|rfl:j=0\/j=1\/j=2\/j=3\/j=4\/j=5\/j=6\/j=7:=by omega
 all_goals (rw[<- hv];rfl)
theorem zi {P:Program} {w:World} {ops:Array Oper} {rest:List Oper} {o:Oper} {a:Act} {Q:Exit->Act->World->Prop} (hg:o.guard=none) (t:TypeId) (parts:Array (Nat×Operand)) (ho:o.op=.build t parts)
  (c:Array Value) (hf:P.built t (parts.map fun (i,x)=>(i,a.eval x)).toList=some c) (h:wpList P ops Q rest (a.put o.dst (.agg c)) w):wpList P ops Q (o:: rest) a w:=
 wpList_build hg t parts ho (by rw[hf];rfl) (by rw[hf];exact h)
set_option maxRecDepth 100000 in
set_option maxHeartbeats 1000000 in
theorem Nr (w:World) (hT:Tables w):
  Calls Tryz.prog 59 #[] w fun e w'=>e=.returned (.pointer (some ⟨w.heap.size,0,none⟩))/\w.grownBy w' none/\oN w' w.heap.size w.heap.size []:=by
 have hR:=TQ hT
 have HR:=Lib.hid hR;clear hR hT
 have am6:newV[137]?=some (.pointer none):=by kernel_rfl
 go_enter Tryz.func59,Tryz.ntmps59
 go_wp2_with (first|(refine wpList_load_mid rfl 120 _ rfl 0 0 rfl (fC bE.first) _ HR.out Tryz.underlying120 rfl (by kernel_rfl) ?_)|(refine zi rfl 123 _ rfl newV.toArray (by kernel_rfl) ?_))
 go_ret
 refine⟨rfl,av (ah _ _) _,List.replicate 128 0,by simp,fun i=>?_,rfl,?_⟩
 .rw[List.getD_eq_getElem?_getD,List.getElem?_replicate];split<;>decide
 .exact aH.new w (newV.set 137 (.pointer (some ⟨w.heap.size,0,none⟩))) 123
def Fa:List Value:=List.replicate 8 (aZ 0)++((List.replicate 128 0).map rU++[aZ 0,.pointer none])
def Fb:Array Value:=Fa.toArray
theorem z47 (w:World):(zeroValue 123).run Tryz.prog w=.ok (.agg Fb) w:=by kernel_rfl
theorem DZ:(Tryz.prog.info? 123).map (·.size)=some 138:=by kernel_rfl
theorem PY (s:bE.S) (r:List Nat) (n M:Nat):(jf s r n M).toArray.all (·.oneCell')=true:=by
 rw[Array.all_eq_true_iff_forall_mem]
 intro v hv
 unfold jf fC at hv
 rw[List.mem_toArray,List.mem_append]at hv
 rcases hv with hv|hv
 .simp only[List.mem_cons,List.not_mem_nil,or_false]at hv
  rcases hv with h|h|h|h|h|h|h|h<;>(rw[h];rfl)
 .rcases List.mem_append.1 hv with hv|hv
  .obtain⟨x,_,rfl⟩:=List.mem_map.1 hv;rfl
  .simp only[List.mem_cons,List.not_mem_nil,or_false]at hv
   rcases hv with h|h<;>(rw[h];rfl)
theorem aH.whole {w:World} {B:Nat} {T:TypeId} {L:List Value} (h:aH w B T L):w.rangeAt B 0 L:=fun j v hv=>by rw[Nat.zero_add];exact h.cell hv
theorem lW (l:List Nat):(bE.sum l).length=64:=rfl
set_option maxRecDepth 100000 in
set_option maxHeartbeats 1000000 in
theorem I4 (B:Nat) (l:List Nat) (w:World) (hT:Tables w) (hlen:l.length<2147483000) (hH:oN w B B l):
  Calls Tryz.prog 62 #[.pointer (some ⟨B,0,none⟩)] w fun e w'=>∃NB,e=.returned (.slice (some ⟨NB,0,none⟩) 64 64)/\w.grownBy w' none/\w.heap.size<=NB/\aH w' NB 5 ((bE.sum l).map rU):=by
 have HH:=Lib.hid hH
 obtain⟨r,hr⟩:=hH
 have hz:=z47
 obtain⟨L,hL⟩:∃L,L=jf (bE.blocks l (l.length/128)) r l.length B:=⟨_,rfl⟩
 have YD:L.length=138:=by rw[hL];exact wZ _ _ _ _ hr.len
 have hL1:L.toArray.all (·.oneCell')=true:=by rw[hL];exact PY _ _ _ _
 have hrow:aH ((w.alloc (.cells Fb 123)).setRow w.heap.size L.toArray) w.heap.size 123 L:=(aH.new w Fa 123).row L
 have hb:aH w B 123 L:=by rw[hL];exact hr.blk
 have hst:oN ((w.alloc (.cells Fb 123)).setRow w.heap.size L.toArray) w.heap.size B l:=⟨r,hr.len,hr.byte,hr.waits,by rw[<- hL];exact hrow⟩
 have hg:w.grownBy ((w.alloc (.cells Fb 123)).setRow w.heap.size L.toArray) none:=qm (av (ah _ _) _) (Nat.le_refl _) _
 have hB:=hr.blk.lt
 have hT2:=hT.lt
 have HT:=Lib.hid (hT.kept hg (by simp));clear hT
 have HA:=Lib.hid (And.intro hb (And.intro YD (And.intro hL1 (And.intro hst hg))));clear hb YD hL1 hst hg hL hrow hr
 go_enter Tryz.func62,Tryz.ntmps62
 go_wp2_with fail
 refine (IZ B l w HH.out).mono ?_
 rintro e w1 ⟨rfl,rfl⟩
 go_wp2_with (first|(refine wpList_load_mid rfl 123 _ rfl B 0 rfl L _ HA.out.1.whole Tryz.underlying123 rfl (by rw[HA.out.2.1];exact DZ) ?_)|(refine wpList_store_row rfl 123 _ _ rfl w.heap.size L.toArray rfl rfl 123 Fa.toArray (aH.new w Fa 123) (by rw[List.size_toArray,HA.out.2.1];exact DZ) (by rw[List.size_toArray,List.size_toArray,HA.out.2.1];rfl) HA.out.2.2.1 ?_))
 refine (WU w.heap.size B l _ HT.out HA.out.2.2.2.1 (by omega) hlen).mono ?_
 rintro e w2 ⟨rfl,hg2,hH2⟩
 obtain⟨r2,hr2⟩:=hH2
 have hg3:=aW HA.out.2.2.2.2 hg2 (Nat.le_refl _)
 have H2:=Lib.hid (And.intro hg3 hr2);clear hg2 hg3 hr2
 go_wp2_with fail
 refine (Lr w.heap.size _ (bE.blocks (bE.whole l) ((bE.whole l).length/128)) _ w2 (SB.blocks _ _) H2.out.2.blk).mono ?_
 rintro e w3 ⟨NB,rfl,hg4,YF,hb4⟩
 have hg5:=aj H2.out.1 hg4
 have H4:=Lib.hid (And.intro hg5 (And.intro (Nat.le_trans H2.out.1.size YF) hb4));clear hg4 hg5 YF hb4
 go_wp2
 go_ret
 exact⟨NB,rfl,H4.out.1,H4.out.2.1,H4.out.2.2⟩
structure Part where
 a:Option Addr
 cap:Nat
 l:List Nat
def Part.v (p:Part):Value:=.slice p.a p.l.length p.cap
structure PartsAt (w:World) (B:Nat) (a:Option Addr) (cap:Nat) (ps:List Part):Prop where
 cap:ps.length<=cap
 parts:∀p∈ps,jo w B p.a p.cap p.l/\p.cap<9223372036854775808
 cells:ps.length=0\/∃pb po,a=some ⟨pb,po,none⟩/\pb≠B/\pb<w.heap.size/\∀i (h:i<ps.length),w.cell? ⟨pb,po+i,none⟩=some ps[i].v
def joined (ps:List Part):List Nat:=ps.flatMap Part.l
theorem PartsAt.kept {w w':World} {B cap:Nat} {a:Option Addr} {ps:List Part} (h:PartsAt w B a cap ps) (hg:w.grownBy w' (some B)):PartsAt w' B a cap ps:=by
 refine⟨h.cap,fun p hp=>⟨(h.parts p hp).1.kept hg,(h.parts p hp).2⟩,?_⟩
 rcases h.cells with h0 |⟨pb,po,ha,hne,hlt,hc⟩
 .exact Or.inl h0
 .exact Or.inr ⟨pb,po,ha,hne,Nat.lt_of_lt_of_le hlt hg.size,fun i hi=>by rw[bf hg (p:=⟨pb,po+i,none⟩) hlt (by intro e;cases e;exact hne rfl)];exact hc i hi⟩
theorem I5 (ps:List Part) (k:Nat) (hk:k<ps.length):joined (ps.take (k+1))=joined (ps.take k)++ps[k].l:=by
 unfold joined
 rw[List.take_succ_eq_append_getElem hk,List.flatMap_append];simp
theorem PZ (ps:List Part) (k:Nat):(joined (ps.take k)).length<=(joined ps).length:=by
 unfold joined
 conv=>rhs;rw[<- List.take_append_drop k ps]
 rw[List.flatMap_append,List.length_append];omega
set_option maxRecDepth 100000 in
set_option maxHeartbeats 1000000 in
theorem yj (B m cap:Nat) (l:List Nat) (ps:List Part) (a:Option Addr) (w:World) (hm:ps.length=m) (hT:Tables w) (hB2:0+4+1<=B) (hH:oN w B B l) (hP:PartsAt w B a cap ps) (hcap:cap<9223372036854775808)
  (hlen:l.length+(joined ps).length<2147483648):
  Calls Tryz.prog 60 #[.pointer (some ⟨B,0,none⟩),.slice a m cap] w fun e w'=>e=.returned (.int .i64 0)/\w.grownBy w' (some B)/\oN w' B B (l++joined ps):=by
 have HH:=Lib.hid hH;clear hH
 have HT:=Lib.hid hT;clear hT
 have hpc:=hP.cap
 have HP:=Lib.hid hP;clear hP
 subst hm
 go_enter Tryz.func60,Tryz.ntmps60
 go_wp2_with fail
 refine (IZ B l w HH.out).mono ?_
 rintro e w1 ⟨rfl,rfl⟩
 go_wp2_with fail
 go_loopw [12] (fun i wr=>∃k:Nat,k<=ps.length/\i=.int .i64 k/\w.grownBy wr (some B)/\oN wr B B (l++joined (ps.take k))) (fun i _=>ps.length-(intOf i).toNat)
 case atStart=>exact⟨0,by omega,rfl,ah _ _,by simpa[joined] using HH.out⟩
 case round=>
  obtain⟨k,hk,rfl,hg,hI⟩:=hrel
  by_cases hlt:k<ps.length
  .obtain⟨pb,po,rfl,hne,hlt2,hc⟩:=(HP.out.kept hg).cells.resolve_left (by omega)
   have hck:=hc k hlt
   unfold Part.v at hck
   have hpp:=(HP.out.kept hg).parts ps[k] (List.getElem_mem hlt)
   have hjt:=I5 ps k hlt
   have hjl:=PZ ps (k+1)
   rw[hjt,List.length_append]at hjl
   have HJ:=Lib.hid hjt;clear hjt hc
   have i0:(k:Int)<(ps.length:Int):=by omega
   generalize ps[k]=p at *
   obtain⟨pa,pc,pl⟩:=p
   have HG:=Lib.hid (And.intro hg (And.intro hI hpp));clear hg hI hpp
   go_wp2_with fail
   refine (vG B B pl.length (l++joined (ps.take k)) pl pa pc wr rfl (HT.out.kept HG.out.1 (fun b e=>by cases e;exact hB2)) HG.out.2.1 HG.out.2.2.1 hB2 (by rw[List.length_append];omega) HG.out.2.2.2).mono ?_
   rintro e w2 ⟨rfl,hg2,hI2⟩
   rw[List.append_assoc,<- HJ.out]at hI2
   have H2:=Lib.hid (And.intro (aj HG.out.1 hg2) hI2);clear hg2 hI2
   go_wp2
   go_roundw
   case rel=>exact⟨k+1,by omega,by go_num,H2.out.1,H2.out.2⟩
   case measure=>simp[intOf];omega
  .obtain rfl:k=ps.length:=by omega
   rw[List.take_length]at hI
   clear hlt
   go_wp2
   go_ret
   exact⟨rfl,hg,hI⟩
theorem PartsAt.grown {w w':World} {B B' cap:Nat} {a:Option Addr} {ps:List Part} (h:PartsAt w B a cap ps) (hg:w.grownBy w' none) (hB:w.heap.size<=B'):PartsAt w' B' a cap ps:=by
 refine⟨h.cap,fun p hp=>⟨?_,(h.parts p hp).2⟩,?_⟩
 .have h1:=(h.parts p hp).1
  refine⟨h1.cap,h1.byte,?_⟩
  rcases h1.cells with h0 |⟨pb,po,ha,_,hlt,hc⟩
  .exact Or.inl h0
  .exact Or.inr ⟨pb,po,ha,by omega,Nat.lt_of_lt_of_le hlt hg.size,fun i hi=>by rw[bf hg (p:=⟨pb,po+i,none⟩) hlt (by simp)];exact hc i hi⟩
 .rcases h.cells with h0 |⟨pb,po,ha,_,hlt,hc⟩
  .exact Or.inl h0
  .exact Or.inr ⟨pb,po,ha,by omega,Nat.lt_of_lt_of_le hlt hg.size,fun i hi=>by rw[bf hg (p:=⟨pb,po+i,none⟩) hlt (by simp)];exact hc i hi⟩
set_option maxRecDepth 100000 in
set_option maxHeartbeats 1000000 in
theorem WV (m cap B:Nat) (ps:List Part) (a:Option Addr) (w:World) (hm:ps.length=m) (hT:Tables w) (hP:PartsAt w B a cap ps) (hcap:cap<9223372036854775808) (hlen:(joined ps).length<2147483000):
  Calls Tryz.prog 48 #[.slice a m cap] w fun e w'=>∃NB,e=.returned (.slice (some ⟨NB,0,none⟩) 64 64)/\w.grownBy w' none/\w.heap.size<=NB/\aH w' NB 5 ((bE.sum (joined ps)).map rU):=by
 have hl:=hT.lt
 have HT:=Lib.hid hT;clear hT
 have HP:=Lib.hid hP;clear hP
 go_enter Tryz.func48,Tryz.ntmps48
 go_wp2_with fail
 refine (Nr w HT.out).mono ?_
 rintro e w1 ⟨rfl,hg1,hH1⟩
 have H1:=Lib.hid (And.intro hg1 hH1);clear hg1 hH1
 go_wp2_with fail
 refine (yj w.heap.size m cap [] ps a w1 hm (HT.out.kept H1.out.1 (by simp)) (by omega) H1.out.2 (HP.out.grown H1.out.1 (Nat.le_refl _)) hcap (by simp only[List.length_nil];omega)).mono ?_
 rintro e w2 ⟨rfl,hg2,hH2⟩
 have hg3:=aW H1.out.1 hg2 (Nat.le_refl _)
 rw[List.nil_append]at hH2
 have H2:=Lib.hid (And.intro hg3 hH2);clear hg2 hg3 hH2
 go_wp2_with fail
 refine (I4 w.heap.size (joined ps) w2 (HT.out.kept H2.out.1 (by simp)) hlen H2.out.2).mono ?_
 rintro e w3 ⟨NB,rfl,hg4,YF,hb4⟩
 have H4:=Lib.hid (And.intro (aj H2.out.1 hg4) (And.intro (Nat.le_trans H2.out.1.size YF) hb4));clear hg4 YF hb4
 go_wp2
 go_ret
 exact⟨NB,rfl,H4.out.1,H4.out.2.1,H4.out.2.2⟩
end
section
open Go.RowKit Ow
set_option maxHeartbeats 1600000 in
theorem I6 (R len cap B:Nat) (T:TypeId) (Y tl:List Value) (a:Option Addr) (l:List Nat) (w:World) (hl:l.length=len) (hm:len<=64) (hY:Y.length=8) (hP:BytesAt w B a cap l) (hB:B<=R) (hb:aH w R T (Y++tl)):
  Calls Tryz.prog 71 #[.pointer (some ⟨R,0,none⟩),.slice a len cap] w fun e w'=>e=.returned (.tuple #[])/\w.grownBy w' (some R)/\aH w' R T (uf (num l) 8++tl):=by
 have HP:=Lib.hid hP;clear hP
 have hlen:=Lib.hid hl;clear hl
 have HB:=Lib.hid hb;clear hb
 match Y,hY with
 | [y0,y1,y2,y3,y4,y5,y6,y7],_=>
  have c0:=HB.out.cell (i:=0) rfl
  have c1:=HB.out.cell (i:=1) rfl
  have c2:=HB.out.cell (i:=2) rfl
  have c3:=HB.out.cell (i:=3) rfl
  have c4:=HB.out.cell (i:=4) rfl
  have c5:=HB.out.cell (i:=5) rfl
  have c6:=HB.out.cell (i:=6) rfl
  have c7:=HB.out.cell (i:=7) rfl
  have f0:=HB.out.free 0
  have f1:=HB.out.free 1
  have f2:=HB.out.free 2
  have f3:=HB.out.free 3
  have f4:=HB.out.free 4
  have f5:=HB.out.free 5
  have f6:=HB.out.free 6
  have f7:=HB.out.free 7
  go_enter Tryz.func71,Tryz.ntmps71
  go_wp2_with fail
  have hb1:=(((((((HB.out.set 0 (wV 0 0)).set 1 (wV 0 1)).set 2 (wV 0 2)).set 3 (wV 0 3)).set 4 (wV 0 4)).set 5 (wV 0 5)).set 6 (wV 0 6)).set 7 (wV 0 7)
  have hg1:=aJ (aJ (aJ (aJ (aJ (aJ (aJ (aJ (ah w (some R)) 0 (wV 0 0)) 1 (wV 0 1)) 2 (wV 0 2)) 3 (wV 0 3)) 4 (wV 0 4)) 5 (wV 0 5)) 6 (wV 0 6)) 7 (wV 0 7)
  have hb2:aH _ R T (uf 0 8++tl):=hb1
  simp only[U0]at hb2 hg1
  clear hb1 HB c0 c1 c2 c3 c4 c5 c6 c7 f0 f1 f2 f3 f4 f5 f6 f7
  have HB:=Lib.hid hb2;clear hb2
  refine (Ic R 8 len cap B T tl a l _ hlen.out hm (by omega) (HP.out.kept hg1 (fun r e=>by cases e;exact hB)) hB HB.out).mono ?_
  rintro e w2 ⟨rfl,hg2,hb2⟩
  have HG:=Lib.hid (aj hg1 hg2);clear hg1 hg2
  have HB2:=Lib.hid hb2;clear hb2
  go_wp2
  go_end0
  exact⟨rfl,HG.out,HB2.out⟩
end
section
open Go.RowKit Ow
set_option maxRecDepth 100000 in
set_option maxHeartbeats 1600000 in
theorem Lx (len cap B:Nat) (a:Option Addr) (l:List Nat) (w:World) (hl:l.length=len) (hm:len<=64) (hP:BytesAt w B a cap l) (hT:oI w):
  Calls Tryz.prog 61 #[.slice a len cap] w (PK (DW (num l)) w):=by
 have hN:=Nj l hP.byte (by omega)
 have hB:=hP.lim
 have HP:=Lib.hid hP;clear hP
 have HT:=Lib.hid hT;clear hT
 have HL:=Lib.hid hl;clear hl
 have hb:=aH.new w nI 101
 have hg:=av (ah w none) (.cells nI.toArray 101)
 have hO:5<w.heap.size:=HT.out.lt
 have hb0:aH (w.alloc (.cells nI.toArray 101)) w.heap.size 101 ([.int .u64 0,.int .u64 0,.int .u64 0,.int .u64 0,.int .u64 0,.int .u64 0,.int .u64 0,.int .u64 0]++[.int .u64 0,.int .u64 0,.int .u64 0,.int .u64 0]):=hb
 have HB:=Lib.hid hb0;clear hb hb0
 have HG:=Lib.hid hg;clear hg
 have h64:¬64<len:=by omega
 go_enter Tryz.func61,Tryz.ntmps61
 go_wp2_with fail
 refine (I6 w.heap.size len cap B _ _ _ a l _ HL.out hm rfl (HP.out.stay HG.out) hB HB.out).mono ?_
 rintro e w1 ⟨rfl,hg1,hb1⟩
 have iA:=Lib.hid (aW HG.out hg1 (Nat.le_refl _));clear hg1
 have HB1:=Lib.hid hb1;clear hb1
 go_wp2_with fail
 refine (vw w.heap.size (num l) _ _ _ _ _ w1 hN (HT.out.kept iA.out (fun r e=>by cases e)) hO HB1.out).mono ?_
 rintro e w2 ⟨rfl,hg2,_⟩
 have HG2:=Lib.hid (aW iA.out hg2 (Nat.le_refl _));clear hg2
 go_wp2_with fail
 refine (Bu (num l%Sc.L) w2).mono ?_
 rintro e w3 ⟨g,rfl,hg3,ho3⟩
 have HO:=Lib.hid (And.intro hg3 ho3);clear hg3 ho3
 go_wp2
 go_ret
 exact TA HG2.out HO.out.1 HO.out.2 _ rfl
end
section
open Go.RowKit Ow
theorem sum_lt (l:List Nat):∀i,(bE.sum l).getD i 0<256:=by
 have all:∀x∈bE.sum l,x<256:=by
  intro x hx
  have hb:∀y i,bE.byte y i<256:=fun y i=>Nat.mod_lt _ (by decide)
  unfold bE.sum bE.S.bytes at hx
  obtain⟨y,_,hy⟩:=List.mem_flatMap.1 hx
  simp only[bE.rC,List.mem_cons,List.not_mem_nil,or_false]at hy
  rcases hy with h|h|h|h|h|h|h|h<;>(rw[h];exact hb _ _)
 intro i
 by_cases h:i<(bE.sum l).length
 .rw[List.getD_eq_getElem?_getD,List.getElem?_eq_getElem h];exact all _ (List.getElem_mem h)
 .rw[List.getD_eq_getElem?_getD,List.getElem?_eq_none (by omega)];decide
set_option maxHeartbeats 2000000 in
theorem Fh (mt ct ma ca Bt Ba:Nat) (bt ba:Option Addr) (pt pa:List Part) (w0:World) (HO:oI w0) (HS:Tables w0) (hmt:pt.length=mt) (hma:pa.length=ma) (I7:PartsAt w0 Bt bt ct pt) (HPa:PartsAt w0 Ba ba ca pa)
  (hct:ct<9223372036854775808) (hca:ca<9223372036854775808) (hlen:(joined pa).length+(joined pt).length<2147483000):
  Calls Tryz.prog 36 #[.slice bt mt ct,.slice ba ma ca] w0 (PK (DW (num (bE.sum (joined pa++joined pt)))) w0):=by
 have hB2:0+4+1<=w0.heap.size:=HS.lt
 go_enter Tryz.func36,Tryz.ntmps36
 go_upto_region 1 with (fail)
 refine wp_region_lit ?_
 refine Fg.bP rfl (Fg.aN (vs:=#[]) rfl rfl (by simp) (Fg.aI Tryz.func59 (by kernel_rfl) (by kernel_rfl))) ?_
 refine (Nr w0 HS).mono ?_
 rintro e w1 ⟨rfl,g1,hH1⟩
 refine⟨_,rfl,?_⟩
 refine Fg.aL (v:=.pointer (some ⟨w0.heap.size,0,none⟩)) (w':=w1) rfl (Fg.run_assign rfl rfl) ?_
 refine wpList_nil ?_
 simp only[Act.put,List.setIfInBounds_toArray,List.set_cons_succ,List.set_cons_zero]
 have S1:=HS.kept g1 (fun b e=>by cases e)
 have P1:=HPa.grown g1 (Nat.le_refl _)
 have Q1:=I7.grown g1 (Nat.le_refl _)
 have HK:=Lib.hid (And.intro g1 (And.intro hH1 (And.intro S1 (And.intro P1 Q1))));clear g1 hH1 S1 P1 Q1
 have HZ:=Lib.hid (And.intro HO (And.intro HS (And.intro I7 HPa)));clear HO HS I7 HPa
 go_upto_region 2 with (fail)
 refine wp_region_lit ?_
 obtain⟨g1,hH1,S1,P1,Q1⟩:=HK.out;clear HK
 refine Fg.aL (v:=.pointer (some ⟨w0.heap.size,0,none⟩)) (w':=w1) rfl (Fg.run_move rfl rfl) ?_
 refine Fg.aL (v:=.slice ba ma ca) (w':=w1) rfl (Fg.run_move rfl rfl) ?_
 refine Fg.bP rfl (Fg.aN (vs:=#[.pointer (some ⟨w0.heap.size,0,none⟩),.slice ba ma ca]) rfl rfl (by simp only[List.map_toArray,List.map_cons,List.map_nil,Act.eval];rfl) (Fg.aI Tryz.func60 (by kernel_rfl) (by kernel_rfl))) ?_
 refine (yj w0.heap.size ma ca [] pa ba w1 hma S1 hB2 hH1 P1 hca (by simp only[List.length_nil];omega)).mono ?_
 rintro e w2 ⟨rfl,g2,hH2⟩
 refine⟨_,rfl,?_⟩
 refine wpList_nil ?_
 simp only[Act.put,List.setIfInBounds_toArray,List.set_cons_succ,List.set_cons_zero]
 rw[List.nil_append]at hH2
 have S2:=S1.kept g2 (fun b e=>by cases e;exact hB2)
 have Q2:=Q1.kept g2
 have G2:=aW g1 g2 (Nat.le_refl _)
 have HK:=Lib.hid (And.intro G2 (And.intro hH2 (And.intro S2 Q2)));clear g1 g2 hH1 S1 P1 Q1 hH2 S2 Q2 G2
 go_upto_region 3 with (fail)
 refine wp_region_lit ?_
 obtain⟨G2,hH2,S2,Q2⟩:=HK.out;clear HK
 refine Fg.aL (v:=.pointer (some ⟨w0.heap.size,0,none⟩)) (w':=w2) rfl (Fg.run_move rfl rfl) ?_
 refine Fg.aL (v:=.slice bt mt ct) (w':=w2) rfl (Fg.run_move rfl rfl) ?_
 refine Fg.bP rfl (Fg.aN (vs:=#[.pointer (some ⟨w0.heap.size,0,none⟩),.slice bt mt ct]) rfl rfl (by simp only[List.map_toArray,List.map_cons,List.map_nil,Act.eval];rfl) (Fg.aI Tryz.func60 (by kernel_rfl) (by kernel_rfl))) ?_
 refine (yj w0.heap.size mt ct (joined pa) pt bt w2 hmt S2 hB2 hH2 Q2 hct (by omega)).mono ?_
 rintro e w3 ⟨rfl,g3,hH3⟩
 refine⟨_,rfl,?_⟩
 refine wpList_nil ?_
 simp only[Act.put,List.setIfInBounds_toArray,List.set_cons_succ,List.set_cons_zero]
 have S3:=S2.kept g3 (fun b e=>by cases e;exact hB2)
 have G3:=aW G2 g3 (Nat.le_refl _)
 have HK:=Lib.hid (And.intro G3 (And.intro hH3 S3));clear G2 g3 hH2 S2 Q2 hH3 S3 G3
 go_upto_region 4 with (fail)
 refine wp_region_lit ?_
 obtain⟨G3,hH3,S3⟩:=HK.out;clear HK
 refine Fg.aL (v:=.pointer (some ⟨w0.heap.size,0,none⟩)) (w':=w3) rfl (Fg.run_move rfl rfl) ?_
 refine Fg.bP rfl (Fg.aN (vs:=#[.pointer (some ⟨w0.heap.size,0,none⟩)]) rfl rfl (by simp only[List.map_toArray,List.map_cons,List.map_nil,Act.eval];rfl) (Fg.aI Tryz.func62 (by kernel_rfl) (by kernel_rfl))) ?_
 refine (I4 w0.heap.size (joined pa++joined pt) w3 S3 (by rw[List.length_append];omega) hH3).mono ?_
 rintro e w4 ⟨NB,rfl,g4,MX,hb4⟩
 refine⟨_,rfl,?_⟩
 have hb5:aH w4 NB 5 ((bE.sum (joined pa++joined pt)).map dD++[]):=by rw[List.append_nil];exact hb4
 have hBA:=nL hb5 (n:=64) (cap:=64) (lW _) (Nat.le_refl _) (by decide) (sum_lt _) hb5.lt (Nat.le_refl _)
 have G4:=aj G3 g4
 refine Fg.bP rfl (Fg.aN (vs:=#[.slice (some ⟨NB,0,none⟩) 64 64]) rfl rfl (by simp only[List.map_toArray,List.map_cons,List.map_nil,Act.eval];rfl) (Fg.aI Tryz.func61 (by kernel_rfl) (by kernel_rfl))) ?_
 refine (Lx 64 64 w4.heap.size (some ⟨NB,0,none⟩) (bE.sum (joined pa++joined pt)) w4 (lW _) (Nat.le_refl _) hBA (HZ.out.1.kept G4 (fun r e=>by cases e))).mono ?_
 rintro e w5 ⟨g,rfl,g5,Qv,hb6⟩
 refine⟨_,rfl,?_⟩
 refine Fg.aL (v:=.slice (some ⟨g,0,none⟩) (DW (num (bE.sum (joined pa++joined pt)))).length (DW (num (bE.sum (joined pa++joined pt)))).length) (w':=w5) rfl (Fg.run_assign rfl rfl) ?_
 refine wpList_nil ?_
 simp only[Act.put,List.setIfInBounds_toArray,List.set_cons_succ,List.set_cons_zero]
 have HE:Hid (PK (DW (num (bE.sum (joined pa++joined pt)))) w0 (.returned (.slice (some ⟨g,0,none⟩) (DW (num (bE.sum (joined pa++joined pt)))).length (DW (num (bE.sum (joined pa++joined pt)))).length)) w5):=Lib.hid ⟨g,rfl,aj G4 g5,Nat.le_trans G4.size Qv,hb6⟩
 clear hb6 Qv g5 G4 hBA hb5 hb4 MX g4 G3 hH3 S3 HZ
 go_wp2
 go_ret
 exact HE.out
end
section
open Go.RowKit Ow
theorem aau (c:List Nat) (k x:Nat):(c.map dD).set k (dD x)=(c.set k x).map dD:=by rw[List.map_set]
theorem LA (c:List Nat) (k x:Nat) (hc:∀i,c.getD i 0<256) (hx:x<256) (j:Nat):(c.set k x).getD j 0<256:=by
 rw[List.getD_eq_getElem?_getD,List.getElem?_set]
 split
 .split
  .exact hx
  .decide
 .have:=hc j
  rwa [List.getD_eq_getElem?_getD]at this
end
section
open Go.RowKit Ow
theorem Fj {w:World} {B cap:Nat} {a:Option Addr} {l:List Nat} (h:BytesAt w B a cap l):jo w w.heap.size a cap l:=by
 refine⟨h.fits,h.byte,?_⟩
 rcases h.cells with h0 |⟨pb,po,ha,hlt,hc⟩
 .exact Or.inl h0
 .have:=h.lim
  exact Or.inr ⟨pb,po,ha,by omega,by omega,hc⟩
theorem Fp {w:World} {N B cap n:Nat} {T:TypeId} {a:Option Addr} {l:List Nat} (hl:l.length=n) (hb:aH w N T [.slice a n cap]) (h:BytesAt w B a cap l):PartsAt w w.heap.size (some ⟨N,0,none⟩) 1 [⟨a,cap,l⟩]:=by
 refine⟨Nat.le_refl _,fun p hp=>?_,Or.inr ⟨N,0,rfl,by have:=hb.lt;omega,hb.lt,fun i hi=>?_⟩⟩
 .obtain rfl:=List.mem_singleton.1 hp
  exact⟨Fj h,h.top⟩
 .obtain rfl:i=0:=by simpa using hi
  subst hl
  exact hb.cell (i:=0) rfl
theorem TR {w:World} {N B B' cap cap' n n':Nat} {T:TypeId} {a a':Option Addr} {l l':List Nat} (hl:l.length=n) (hl':l'.length=n') (hb:aH w N T [.slice a n cap,.slice a' n' cap']) (h:BytesAt w B a cap l) (h':BytesAt w B' a' cap' l'):
  PartsAt w w.heap.size (some ⟨N,0,none⟩) 2 [⟨a,cap,l⟩,⟨a',cap',l'⟩]:=by
 refine⟨Nat.le_refl _,fun p hp=>?_,Or.inr ⟨N,0,rfl,by have:=hb.lt;omega,hb.lt,fun i hi=>?_⟩⟩
 .simp only[List.mem_cons,List.not_mem_nil,or_false]at hp
  rcases hp with rfl|rfl
  .exact⟨Fj h,h.top⟩
  .exact⟨Fj h',h'.top⟩
 .subst hl hl'
  have:i=0\/i=1:=by simp at hi;omega
  rcases this with rfl|rfl
  .exact hb.cell (i:=0) rfl
  .exact hb.cell (i:=1) rfl
theorem Ns (p:Part):joined [p]=p.l:=by simp[joined]
theorem Fq {w:World} {g o n c:Nat} {T:TypeId} {xs:List Nat} (h:aH w g T (xs.map dD)) (hn:o+n<=xs.length) (hc:n<=c) (ht:c<9223372036854775808) (hb:∀i,xs.getD i 0<256):BytesAt w w.heap.size (some ⟨g,o,none⟩) c ((xs.drop o).take n):=by
 have hlen:((xs.drop o).take n).length=n:=by rw[List.length_take,List.length_drop];omega
 have hget:∀i,i<n->((xs.drop o).take n).getD i 0=xs.getD (o+i) 0:=fun i hi=>by
  rw[List.getD_eq_getElem?_getD,List.getElem?_take_of_lt hi,List.getElem?_drop,<- List.getD_eq_getElem?_getD]
 refine⟨Nat.le_refl _,by omega,ht,fun i=>?_,Or.inr ⟨g,o,rfl,h.lt,fun i hi=>?_⟩⟩
 .by_cases hi:i<n
  .rw[hget i hi];exact hb _
  .rw[List.getD_eq_getElem?_getD,List.getElem?_eq_none (by omega)];decide
 .rw[hget i (by omega)]
  apply h.cell
  rw[List.getElem?_map,List.getD_eq_getElem?_getD,List.getElem?_eq_getElem (by omega)]
  rfl
def oO (v:Nat):Nat:=v-v%8
def nA (v:Nat):Nat:=v%128
def qF (v:Nat):Nat:=v%64+64
theorem TS:∀v:Fin 256,bits .andNot .u8 ((v.val:Nat):Int) 7=((oO v.val:Nat):Int):=by decide +kernel
theorem TT:∀v:Fin 256,bits .andNot .u8 ((v.val:Nat):Int) 128=((nA v.val:Nat):Int):=by decide +kernel
theorem TU:∀v:Fin 256,bits .or .u8 ((nA v.val:Nat):Int) 64=((qF v.val:Nat):Int):=by decide +kernel
theorem WW (v:Nat) (h:v<256):bits .andNot .u8 (v:Int) 7=((oO v:Nat):Int):=TS ⟨v,h⟩
theorem WX (v:Nat) (h:v<256):bits .andNot .u8 (v:Int) 128=((nA v:Nat):Int):=TT ⟨v,h⟩
theorem WY (v:Nat) (h:v<256):bits .or .u8 ((nA v:Nat):Int) 64=((qF v:Nat):Int):=TU ⟨v,h⟩
def oP (D:List Nat):List Nat:=((D.set 0 (oO (D.getD 0 0))).set 31 (nA (D.getD 31 0))).set 31 (qF (D.getD 31 0))
def CV (l:List Nat):List Nat:=(oP (bE.sum l)).take 32
def TV (l:List Nat):List Nat:=((oP (bE.sum l)).drop 32).take 32
theorem uo (D:List Nat):(oP D).length=D.length:=by simp[oP]
theorem BJ (D:List Nat) (h:∀i,D.getD i 0<256):∀i,(oP D).getD i 0<256:=fun i=>by
 have h0:=h 0
 have h31:=h 31
 exact LA _ 31 _ (LA _ 31 _ (LA D 0 _ h (by unfold oO;omega)) (by unfold nA;omega)) (by unfold qF;omega) i
theorem uq (l:List Nat):(bE.sum l).length=64:=lW l
theorem I8 (l:List Nat):(CV l).length=32:=by unfold CV;rw[List.length_take,uo,uq];rfl
theorem I9 (l:List Nat):(TV l).length=32:=by unfold TV;rw[List.length_take,List.length_drop,uo,uq];rfl
theorem yt {w:World} {g i x:Nat} {T:TypeId} {l:List Nat} (h:aH w g T (l.map dD)):aH (w.setCell ⟨g,i,none⟩ (dD x)) g T ((l.set i x).map dD):=by
 have h2:=h.set i (dD x)
 rwa [aau]at h2
theorem TW {w:World} {g i:Nat} {T:TypeId} {l:List Nat} (h:aH w g T (l.map dD)) (hi:i<l.length):w.cell? ⟨g,i,none⟩=some (.int .u8 ((l.getD i 0:Nat):Int)):=by
 apply h.cell
 rw[List.getElem?_map,List.getD_eq_getElem?_getD,List.getElem?_eq_getElem hi]
 rfl
theorem aav (l:List Nat) (i j x:Nat) (h:i≠j):(l.set i x).getD j 0=l.getD j 0:=by
 rw[List.getD_eq_getElem?_getD,List.getD_eq_getElem?_getD,List.getElem?_set_ne h]
theorem aaw (l:List Nat) (i x:Nat) (h:i<l.length):(l.set i x).getD i 0=x:=by
 rw[List.getD_eq_getElem?_getD,List.getElem?_set_self h];rfl
end
section
open Go.RowKit Ow Go.Shelf Ed
set_option maxRecDepth 100000 in
set_option maxHeartbeats 12800000 in
theorem Ja (l:List Nat) (cap B:Nat) (a:Option Addr) (w0:World) (HT0:eY w0) (vN:Tables w0) (hl:l.length=32) (EW:Hid (BytesAt w0 B a cap l)):
  Calls Tryz.prog 28 #[.slice a 32 cap] w0 fun e w'=>∃(t:Pt) (g gd:Nat),iO t (bD (num (CV l)) dA)/\e=.returned (soV t (.slice (some ⟨g,0,none⟩) 32 32) (.slice (some ⟨gd,0,none⟩) 32 64) (.slice (some ⟨gd,32,none⟩) 32 32))/\w0.grownBy w' none/\w0.heap.size<=g/\w0.heap.size<=gd/\aH w' g 141 ((j5 (enc (bD (num (CV l)) dA))).map dD)/\aH w' gd 5 ((oP (bE.sum l)).map dD):=by
 go_enter Tryz.func28,Tryz.ntmps28
 go_upto_region 1 with (fail)
 have G:w0.grownBy (w0.alloc (.cells [Value.int IntKind.u64 0,Value.int IntKind.u64 0,Value.int IntKind.u64 0,Value.int IntKind.u64 0,Value.int IntKind.u64 0,Value.int IntKind.u64 0,Value.int IntKind.u64 0,Value.int IntKind.u64 0,Value.int IntKind.u64 0,Value.int IntKind.u64 0,Value.int IntKind.u64 0,Value.int IntKind.u64 0,Value.int IntKind.u64 0,Value.int IntKind.u64 0,Value.int IntKind.u64 0,Value.int IntKind.u64 0,Value.int IntKind.u64 0,Value.int IntKind.u64 0,Value.int IntKind.u64 0,Value.int IntKind.u64 0,Value.slice none 0 0,Value.slice none 0 0,Value.slice none 0 0].toArray 60)) none:=av (ah _ _) _
 have HT:eY (w0.alloc (.cells [Value.int IntKind.u64 0,Value.int IntKind.u64 0,Value.int IntKind.u64 0,Value.int IntKind.u64 0,Value.int IntKind.u64 0,Value.int IntKind.u64 0,Value.int IntKind.u64 0,Value.int IntKind.u64 0,Value.int IntKind.u64 0,Value.int IntKind.u64 0,Value.int IntKind.u64 0,Value.int IntKind.u64 0,Value.int IntKind.u64 0,Value.int IntKind.u64 0,Value.int IntKind.u64 0,Value.int IntKind.u64 0,Value.int IntKind.u64 0,Value.int IntKind.u64 0,Value.int IntKind.u64 0,Value.int IntKind.u64 0,Value.slice none 0 0,Value.slice none 0 0,Value.slice none 0 0].toArray 60)):=HT0.grown (av (ah _ _) _)
 have hR:aH (w0.alloc (.cells [Value.int IntKind.u64 0,Value.int IntKind.u64 0,Value.int IntKind.u64 0,Value.int IntKind.u64 0,Value.int IntKind.u64 0,Value.int IntKind.u64 0,Value.int IntKind.u64 0,Value.int IntKind.u64 0,Value.int IntKind.u64 0,Value.int IntKind.u64 0,Value.int IntKind.u64 0,Value.int IntKind.u64 0,Value.int IntKind.u64 0,Value.int IntKind.u64 0,Value.int IntKind.u64 0,Value.int IntKind.u64 0,Value.int IntKind.u64 0,Value.int IntKind.u64 0,Value.int IntKind.u64 0,Value.int IntKind.u64 0,Value.slice none 0 0,Value.slice none 0 0,Value.slice none 0 0].toArray 60)) w0.heap.size 60 [Value.int IntKind.u64 0,Value.int IntKind.u64 0,Value.int IntKind.u64 0,Value.int IntKind.u64 0,Value.int IntKind.u64 0,Value.int IntKind.u64 0,Value.int IntKind.u64 0,Value.int IntKind.u64 0,Value.int IntKind.u64 0,Value.int IntKind.u64 0,Value.int IntKind.u64 0,Value.int IntKind.u64 0,Value.int IntKind.u64 0,Value.int IntKind.u64 0,Value.int IntKind.u64 0,Value.int IntKind.u64 0,Value.int IntKind.u64 0,Value.int IntKind.u64 0,Value.int IntKind.u64 0,Value.int IntKind.u64 0,Value.slice none 0 0,Value.slice none 0 0,Value.slice none 0 0]:=aH.new w0 [Value.int IntKind.u64 0,Value.int IntKind.u64 0,Value.int IntKind.u64 0,Value.int IntKind.u64 0,Value.int IntKind.u64 0,Value.int IntKind.u64 0,Value.int IntKind.u64 0,Value.int IntKind.u64 0,Value.int IntKind.u64 0,Value.int IntKind.u64 0,Value.int IntKind.u64 0,Value.int IntKind.u64 0,Value.int IntKind.u64 0,Value.int IntKind.u64 0,Value.int IntKind.u64 0,Value.int IntKind.u64 0,Value.int IntKind.u64 0,Value.int IntKind.u64 0,Value.int IntKind.u64 0,Value.int IntKind.u64 0,Value.slice none 0 0,Value.slice none 0 0,Value.slice none 0 0] _
 revert G HT hR
 generalize w0.alloc (.cells [Value.int IntKind.u64 0,Value.int IntKind.u64 0,Value.int IntKind.u64 0,Value.int IntKind.u64 0,Value.int IntKind.u64 0,Value.int IntKind.u64 0,Value.int IntKind.u64 0,Value.int IntKind.u64 0,Value.int IntKind.u64 0,Value.int IntKind.u64 0,Value.int IntKind.u64 0,Value.int IntKind.u64 0,Value.int IntKind.u64 0,Value.int IntKind.u64 0,Value.int IntKind.u64 0,Value.int IntKind.u64 0,Value.int IntKind.u64 0,Value.int IntKind.u64 0,Value.int IntKind.u64 0,Value.int IntKind.u64 0,Value.slice none 0 0,Value.slice none 0 0,Value.slice none 0 0].toArray 60)=W0
 intro G HT hR
 have Gs:=G.size
 refine wp_region_lit ?_
 refine Fg.aL (v:=.slice a 32 cap) (w':=W0) rfl (Fg.run_move rfl rfl) ?_
 simp only[Act.put,List.setIfInBounds_toArray,List.set_cons_succ,List.set_cons_zero]
 have lG:=hR.lt
 refine Fg.aL (v:=.slice (some ⟨W0.heap.size,0,none⟩) 1 1) (w':=W0.alloc (.cells #[.slice a 32 cap] 22)) rfl (by go_simp) ?_
 simp only[Act.put,List.setIfInBounds_toArray,List.set_cons_succ,List.set_cons_zero]
 have gz:=av (ah W0 none) (.cells #[.slice a 32 cap] 22)
 have hz:=aH.new W0 [.slice a 32 cap] 22
 have hwz:w0.heap.size<=W0.heap.size:=G.size
 replace hR:=hR.gn gz
 replace G:=aj G gz
 replace HT:=HT.grown gz
 clear gz
 obtain⟨Z,hZ⟩:∃x,x=W0.heap.size:=⟨_,rfl⟩
 rw[<- hZ]at hz hwz lG ⊢
 clear hZ
 revert hR G HT hz
 generalize (W0.alloc (.cells #[.slice a 32 cap] 22))=A1
 intro hR G HT hz
 have qU:=hR.lt
 have am7:=hz.lt
 refine Fg.bP rfl (Fg.aN (vs:=#[.slice (some ⟨Z,0,none⟩) 1 1]) rfl rfl (by simp only[List.map_toArray,List.map_cons,List.map_nil,Act.eval];rfl) (Fg.aI Tryz.func48 (by kernel_rfl) (by kernel_rfl))) ?_
 refine (WV 1 1 A1.heap.size [⟨a,cap,l⟩] (some ⟨Z,0,none⟩) A1 rfl (vN.kept G (fun b e=>by cases e)) (Fp hl hz (EW.out.stay G)) (by decide) (by rw[Ns];show l.length<_;omega)).mono ?_
 rintro e A2 ⟨gd,rfl,ga,hnd,hbd⟩
 refine⟨_,rfl,?_⟩
 rw[Ns]at hbd
 change aH _ _ _ ((bE.sum l).map dD) at hbd
 obtain⟨D,hD⟩:∃D,D=bE.sum l:=⟨_,rfl⟩
 rw[<- hD]at hbd
 have hDl:D.length=64:=by rw[hD];exact uq l
 have hDb:∀i,D.getD i 0<256:=by rw[hD];exact sum_lt l
 have HD:=Lib.hid hD;clear hD
 have hwd:w0.heap.size<=gd:=Nat.le_trans G.size hnd
 replace hR:=hR.gn ga
 replace hz:=hz.gn ga
 replace G:=aj G ga
 replace HT:=HT.grown ga
 clear ga
 simp only[Act.put,List.setIfInBounds_toArray,List.set_cons_succ,List.set_cons_zero]
 refine Fg.aL (v:=.slice (some ⟨gd,0,none⟩) 64 64) (w':=A2) rfl (Fg.run_assign rfl rfl) ?_
 refine wpList_nil ?_
 simp only[Act.put,List.setIfInBounds_toArray,List.set_cons_succ,List.set_cons_zero]
 go_upto_region 2 with (fail)
 have lI:=G.size
 have uy:=hR.lt
 have am8:=hz.lt
 have adO:=hbd.lt
 refine Fg.rT [] [.any,.any,.any,.any,.val (Value.slice (some ⟨gd,0,none⟩) 32 64),.val (Value.slice (some ⟨gd,32,none⟩) 32 32),.any,.any,.any,.val (Value.slice (some ⟨gd,0,none⟩) 64 64),.val (Value.slice (some ⟨gd,0,none⟩) 32 64),.val (Value.slice (some ⟨gd,0,none⟩) 64 64),.val (Value.slice (some ⟨gd,32,none⟩) 32 32)] 6 ?_ ?_
 .refine Fg.vS rfl (by decide) (fun _ _ h=>Fg.vn _ (Fg.run_move rfl (h.r 3))) ?_
  refine Fg.vS rfl (by decide) (fun ac w h=>?_) ?_
  .have e9:_=Value.slice (some ⟨gd,0,none⟩) 64 64:=h.d 9
   refine⟨aB rfl,Value.slice (some ⟨gd,0,none⟩) 32 64,w,?_,ah _ _,rfl⟩
   clear h
   simp only[execOp,Act.eval,e9,Option.map_some,Option.map_none]
   go_simp
  refine Fg.vS rfl (by decide) (fun _ _ h=>Fg.vn _ (Fg.run_move rfl (h.r 3))) ?_
  refine Fg.vS rfl (by decide) (fun ac w h=>?_) ?_
  .have e11:_=Value.slice (some ⟨gd,0,none⟩) 64 64:=h.d 11
   refine⟨aB rfl,Value.slice (some ⟨gd,32,none⟩) 32 32,w,?_,ah _ _,rfl⟩
   clear h
   simp only[execOp,Act.eval,e11,Option.map_some,Option.map_none]
   go_simp
  refine Fg.vS rfl (by decide) (fun _ _ h=>Fg.vn _ (Fg.run_assign rfl (h.d 10))) ?_
  refine Fg.vS rfl (by decide) (fun _ _ h=>Fg.vn _ (Fg.run_assign rfl (h.d 12))) ?_
  trivial
 .intro qa V1 g1 hsz hdf hrest aC hpt
  obtain⟨⟨u6,hs6⟩,⟨u7,hs7⟩,⟨u8,lC⟩,⟨u9,jD⟩,⟨u10,fM⟩,⟨u11,d9⟩,⟨u12,fJ⟩,_⟩:=Fg.bn qa [6,7,8,9,10,11,12]
  obtain rfl:=Fg.aQ [4,5,6,7,8,9,10,11,12] (vs:=[_,_,_,_,Value.slice (some ⟨gd,0,none⟩) 32 64,Value.slice (some ⟨gd,32,none⟩) 32 32,u6,u7,u8,u9,u10,u11,u12,_,_,_,_,_,_,_,_,_,_,_,_,_,_,_,_,_,_,_,_]) hsz hrest (by kernel_rfl) rfl rfl ⟨(show qa.tmps.getD 4 undef=Value.slice (some ⟨gd,0,none⟩) 32 64 from aC 4 (by kernel_rfl)),(show qa.tmps.getD 5 undef=Value.slice (some ⟨gd,32,none⟩) 32 32 from aC 5 (by kernel_rfl)),hs6,hs7,lC,jD,fM,d9,fJ,trivial⟩ hdf
  clear hsz hdf hrest aC hpt hs6 hs7 lC jD fM d9 fJ
  replace hR:=hR.gn g1
  replace hz:=hz.gn g1
  replace hbd:=hbd.gn g1
  replace G:=aj G g1
  replace HT:=HT.grown g1
  clear g1
  obtain⟨v0,hv0⟩:∃v,v=D.getD 0 0:=⟨_,rfl⟩
  obtain⟨v1,hv1⟩:∃v,v=D.getD 31 0:=⟨_,rfl⟩
  have b0:v0<256:=by rw[hv0];exact hDb 0
  have b1:v1<256:=by rw[hv1];exact hDb 31
  have HV:=Lib.hid (And.intro hv0 hv1);clear hv0 hv1
  have q0:=WW v0 b0
  have q1:=WX v1 b1
  have q2:=WY v1 b1
  go_upto_region 3 with (fail)
  have hcell:=TW hbd (i:=0) (by first|omega|(simp only[List.length_set];omega))
  have hfree:=hbd.free 0
  have KR:=hR.lt
  have am9:=hz.lt
  have adP:=hbd.lt
  rw[<- HV.out.1]at hcell
  replace hR:=hR.other (a:=⟨gd,0,none⟩) (show gd≠w0.heap.size by omega) (.int .u8 ((oO v0:Nat):Int))
  replace hz:=hz.other (a:=⟨gd,0,none⟩) (show gd≠Z by omega) (.int .u8 ((oO v0:Nat):Int))
  replace hbd:aH (V1.setCell ⟨gd,0,none⟩ (.int .u8 ((oO v0:Nat):Int))) gd 5 ((D.set 0 (oO v0)).map dD):=yt (i:=0) (x:=oO v0) hbd
  replace HT:=HT.keep (aJ (ah V1 (some gd)) 0 (.int .u8 ((oO v0:Nat):Int))) (HT0.jW hwd)
  replace G:=aO G (p:=⟨gd,0,none⟩) hwd (.int .u8 ((oO v0:Nat):Int))
  have HA:=Lib.hid (And.intro hR (And.intro hz (And.intro hbd (And.intro HT G))))
  clear hR hz hbd HT G
  have HA2:=Lib.hid (And.intro HT0 vN)
  clear HT0 vN
  go_upto_region 4 with (fail)
  obtain⟨hR,hz,hbd,HT,G⟩:=HA.out;clear HA hcell hfree
  obtain⟨HT0,vN⟩:=HA2.out;clear HA2
  revert hR hz hbd HT G
  generalize V1.setCell ⟨gd,0,none⟩ (.int .u8 ((oO v0:Nat):Int))=U2
  intro hR hz hbd HT G
  have hcell:=TW hbd (i:=31) (by first|omega|(simp only[List.length_set];omega))
  have hfree:=hbd.free 31
  have ZA:=hR.lt
  have ana:=hz.lt
  have YH:=hbd.lt
  rw[aav _ _ _ _ (by decide),<- HV.out.2]at hcell
  replace hR:=hR.other (a:=⟨gd,31,none⟩) (show gd≠w0.heap.size by omega) (.int .u8 ((nA v1:Nat):Int))
  replace hz:=hz.other (a:=⟨gd,31,none⟩) (show gd≠Z by omega) (.int .u8 ((nA v1:Nat):Int))
  replace hbd:aH (U2.setCell ⟨gd,31,none⟩ (.int .u8 ((nA v1:Nat):Int))) gd 5 (((D.set 0 (oO v0)).set 31 (nA v1)).map dD):=yt (i:=31) (x:=nA v1) hbd
  replace HT:=HT.keep (aJ (ah U2 (some gd)) 31 (.int .u8 ((nA v1:Nat):Int))) (HT0.jW hwd)
  replace G:=aO G (p:=⟨gd,31,none⟩) hwd (.int .u8 ((nA v1:Nat):Int))
  have HA:=Lib.hid (And.intro hR (And.intro hz (And.intro hbd (And.intro HT G))))
  clear hR hz hbd HT G
  have HA2:=Lib.hid (And.intro HT0 vN)
  clear HT0 vN
  go_upto_region 5 with (fail)
  obtain⟨hR,hz,hbd,HT,G⟩:=HA.out;clear HA hcell hfree
  obtain⟨HT0,vN⟩:=HA2.out;clear HA2
  revert hR hz hbd HT G
  generalize U2.setCell ⟨gd,31,none⟩ (.int .u8 ((nA v1:Nat):Int))=U3
  intro hR hz hbd HT G
  have hcell:=TW hbd (i:=31) (by first|omega|(simp only[List.length_set];omega))
  have hfree:=hbd.free 31
  have anb:=hR.lt
  have anc:=hz.lt
  have YI:=hbd.lt
  rw[aaw _ _ _ (by simp only[List.length_set];omega)]at hcell
  replace hR:=hR.other (a:=⟨gd,31,none⟩) (show gd≠w0.heap.size by omega) (.int .u8 ((qF v1:Nat):Int))
  replace hz:=hz.other (a:=⟨gd,31,none⟩) (show gd≠Z by omega) (.int .u8 ((qF v1:Nat):Int))
  replace hbd:aH (U3.setCell ⟨gd,31,none⟩ (.int .u8 ((qF v1:Nat):Int))) gd 5 ((((D.set 0 (oO v0)).set 31 (nA v1)).set 31 (qF v1)).map dD):=yt (i:=31) (x:=qF v1) hbd
  replace HT:=HT.keep (aJ (ah U3 (some gd)) 31 (.int .u8 ((qF v1:Nat):Int))) (HT0.jW hwd)
  replace G:=aO G (p:=⟨gd,31,none⟩) hwd (.int .u8 ((qF v1:Nat):Int))
  have HA:=Lib.hid (And.intro hR (And.intro hz (And.intro hbd (And.intro HT G))))
  clear hR hz hbd HT G
  have HA2:=Lib.hid (And.intro HT0 vN)
  clear HT0 vN
  go_upto_region 6 with (fail)
  obtain⟨hR,hz,hbd,HT,G⟩:=HA.out;clear HA hcell hfree
  obtain⟨HT0,vN⟩:=HA2.out;clear HA2
  revert hR hz hbd HT G
  generalize U3.setCell ⟨gd,31,none⟩ (.int .u8 ((qF v1:Nat):Int))=U4
  intro hR hz hbd HT G
  have hcl:(((D.set 0 (oO v0)).set 31 (nA v1)).set 31 (qF v1))=oP (bE.sum l):=by
   rw[HV.out.1,HV.out.2,HD.out];rfl
  rw[hcl]at hbd
  have HCL:=Lib.hid hcl;clear hcl q0 q1 q2
  refine wp_region_lit ?_
  refine Fg.aL (v:=.slice (some ⟨gd,0,none⟩) 32 64) (w':=U4) rfl (Fg.run_move rfl rfl) ?_
  simp only[Act.put,List.setIfInBounds_toArray,List.set_cons_succ,List.set_cons_zero]
  have ane:=hR.lt
  have anf:=hz.lt
  have adQ:=hbd.lt
  refine Fg.bP rfl (Fg.aN (vs:=#[.slice (some ⟨gd,0,none⟩) 32 64]) rfl rfl (by simp only[List.map_toArray,List.map_cons,List.map_nil,Act.eval];rfl) (Fg.aI Tryz.func37 (by kernel_rfl) (by kernel_rfl))) ?_
  refine (TH (CV l) 64 _ (some ⟨gd,0,none⟩) U4 HT (I8 l) (Lib.hid (Fq (o:=0) (n:=32) hbd (by simp only[List.length_set,uq];decide) (by decide) (by decide) (BJ _ (sum_lt l))))).mono ?_
  rintro e A5 ⟨t,g,ht,rfl,ga,hng,hbg⟩
  refine⟨_,rfl,?_⟩
  have hwg:w0.heap.size<=g:=Nat.le_trans G.size hng
  replace hR:=hR.gn ga
  replace hz:=hz.gn ga
  replace hbd:=hbd.gn ga
  replace G:=aj G ga
  replace HT:=HT.grown ga
  clear ga
  simp only[Act.put,List.setIfInBounds_toArray,List.set_cons_succ,List.set_cons_zero]
  refine Fg.aL (v:=.slice (some ⟨gd,0,none⟩) 32 64) (w':=A5) rfl (Fg.run_move rfl rfl) ?_
  simp only[Act.put,List.setIfInBounds_toArray,List.set_cons_succ,List.set_cons_zero]
  refine Fg.aL (v:=.slice (some ⟨gd,32,none⟩) 32 32) (w':=A5) rfl (Fg.run_move rfl rfl) ?_
  simp only[Act.put,List.setIfInBounds_toArray,List.set_cons_succ,List.set_cons_zero]
  refine Fg.aL (v:=soV t (.slice (some ⟨g,0,none⟩) 32 32) (.slice (some ⟨gd,0,none⟩) 32 64) (.slice (some ⟨gd,32,none⟩) 32 32)) (w':=A5) rfl (Fg.run_build (vs:=#[(0,Qy t (.slice (some ⟨g,0,none⟩) 32 32)),(1,Value.slice (some ⟨gd,0,none⟩) 32 64),(2,Value.slice (some ⟨gd,32,none⟩) 32 32)]) rfl (by simp only[List.map_toArray,List.map_cons,List.map_nil,Act.eval];rfl) (by kernel_rfl)) ?_
  simp only[Act.put,List.setIfInBounds_toArray,List.set_cons_succ,List.set_cons_zero]
  have ang:=hR.lt
  have anh:=hz.lt
  have adR:=hbd.lt
  have adS:=hbg.lt
  refine Fg.aV rfl rfl (Fg.run_store (cs:=DX t (.slice (some ⟨g,0,none⟩) 32 32) (.slice (some ⟨gd,0,none⟩) 32 64) (.slice (some ⟨gd,32,none⟩) 32 32)) rfl rfl rfl (hR.there 0 23 (by show 0+23<=23;decide)) EY (Nn _ _ _ _ _ _ _ _ _ _)) ?_
  replace hR:aH (A5.setCells w0.heap.size 0 (DX t (.slice (some ⟨g,0,none⟩) 32 32) (.slice (some ⟨gd,0,none⟩) 32 64) (.slice (some ⟨gd,32,none⟩) 32 32))) w0.heap.size 60 (DX t (.slice (some ⟨g,0,none⟩) 32 32) (.slice (some ⟨gd,0,none⟩) 32 64) (.slice (some ⟨gd,32,none⟩) 32 32)):=hR.bC rfl
  replace hz:=hz.au (C:=w0.heap.size) (cs:=DX t (.slice (some ⟨g,0,none⟩) 32 32) (.slice (some ⟨gd,0,none⟩) 32 64) (.slice (some ⟨gd,32,none⟩) 32 32)) 0 (by omega)
  replace hbd:=hbd.au (C:=w0.heap.size) (cs:=DX t (.slice (some ⟨g,0,none⟩) 32 32) (.slice (some ⟨gd,0,none⟩) 32 64) (.slice (some ⟨gd,32,none⟩) 32 32)) 0 (by omega)
  replace hbg:=hbg.au (C:=w0.heap.size) (cs:=DX t (.slice (some ⟨g,0,none⟩) 32 32) (.slice (some ⟨gd,0,none⟩) 32 64) (.slice (some ⟨gd,32,none⟩) 32 32)) 0 (by omega)
  replace G:=aG (cs:=DX t (.slice (some ⟨g,0,none⟩) 32 32) (.slice (some ⟨gd,0,none⟩) 32 64) (.slice (some ⟨gd,32,none⟩) 32 32)) G (B:=w0.heap.size) (Nat.le_refl _) 0
  replace HT:=HT.keep (aK (cs:=DX t (.slice (some ⟨g,0,none⟩) 32 32) (.slice (some ⟨gd,0,none⟩) 32 64) (.slice (some ⟨gd,32,none⟩) 32 32)) (ah _ (some w0.heap.size)) 0) (HT0.jW (Nat.le_refl _))
  revert hR hz hbd hbg G HT
  generalize A5.setCells w0.heap.size 0 (DX t (.slice (some ⟨g,0,none⟩) 32 32) (.slice (some ⟨gd,0,none⟩) 32 64) (.slice (some ⟨gd,32,none⟩) 32 32))=W5
  intro hR hz hbd hbg G HT
  go_wp2_with fail
  exact bodyPost_ret (v:=soV t (.slice (some ⟨g,0,none⟩) 32 32) (.slice (some ⟨gd,0,none⟩) 32 64) (.slice (some ⟨gd,32,none⟩) 32 32)) (results_cell_row Tryz.results28 _ _ w0.heap.size 60 (DX t (.slice (some ⟨g,0,none⟩) 32 32) (.slice (some ⟨gd,0,none⟩) 32 64) (.slice (some ⟨gd,32,none⟩) 32 32)).toArray (0,0) _ rfl hR Tryz.underlying60 rfl EY) rfl ⟨t,g,gd,ht,rfl,G,hwg,hwd,hbg,hbd⟩
end
section
open Go.RowKit Ow
theorem WZ (x y z:Nat) (hx:x<2^256) (hy:y<2^256) (hz:z<2^256):(x*y+z)/2^(64*8)=0:=by
 have h:=Sc.Nh x y z 4 hy hz
 rw[Sc.IK x y z hx]at h
 have h2:=Ni (x*y+z) (64*(4+4)) (64*8) h (Nat.le_refl _)
 exact h2
set_option maxRecDepth 100000 in
set_option maxHeartbeats 1600000 in
theorem Jb (ca cb cc Ba Bb Bc:Nat) (a b c:Option Addr) (x y z:List Nat) (w:World) (hx:x.length=32) (hy:y.length=32) (hz:z.length=32) (hA:BytesAt w Ba a ca x) (hB:BytesAt w Bb b cb y) (hC:BytesAt w Bc c cc z) (hT:oI w):
  Calls Tryz.prog 38 #[.slice a 32 ca,.slice b 32 cb,.slice c 32 cc] w (PK (DW (num x*num y+num z)) w):=by
 have hx2:=zF x hA.byte (by omega)
 have hy2:=zF y hB.byte (by omega)
 have hz2:=zF z hC.byte (by omega)
 have hN:=WZ _ _ _ hx2 hy2 hz2
 have HP:=Lib.hid (And.intro (And.intro hx hA) (And.intro (And.intro hy hB) (And.intro hz hC)));clear hA hB hC hx hy hz
 have HN:=Lib.hid (And.intro hN (And.intro hx2 (And.intro hy2 hz2)));clear hN hx2 hy2 hz2
 have hO:5<w.heap.size:=hT.lt
 have HT:=Lib.hid hT;clear hT
 go_enter Tryz.func38,Tryz.ntmps38
 have hb:=aH.new w nI 101
 have hg:=av (ah w none) (.cells nI.toArray 101)
 have hb0:aH (w.alloc (.cells nI.toArray 101)) w.heap.size 101 ([.int .u64 0,.int .u64 0,.int .u64 0,.int .u64 0,.int .u64 0,.int .u64 0,.int .u64 0,.int .u64 0]++[.int .u64 0,.int .u64 0,.int .u64 0,.int .u64 0]):=hb
 have HB:=Lib.hid hb0;clear hb hb0
 have HG:=Lib.hid hg;clear hg
 go_wp2_with fail
 refine (qX 32 ca Ba a x _ HP.out.1.1 (by omega) (HP.out.1.2.stay HG.out)).mono ?_
 rintro e w1 ⟨rfl,hg1⟩
 have iA:=Lib.hid (aj HG.out hg1)
 have HB1:=Lib.hid (HB.out.grown hg1 (by simp));clear hg1
 go_wp2_with fail
 refine (qX 32 cb Bb b y w1 HP.out.2.1.1 (by omega) (HP.out.2.1.2.stay iA.out)).mono ?_
 rintro e w2 ⟨rfl,hg2⟩
 have HG2:=Lib.hid (aj iA.out hg2)
 have HB2:=Lib.hid (HB1.out.grown hg2 (by simp));clear hg2
 go_wp2_with fail
 refine (qX 32 cc Bc c z w2 HP.out.2.2.1 (by omega) (HP.out.2.2.2.stay HG2.out)).mono ?_
 rintro e w3 ⟨rfl,hg3⟩
 have gq:=Lib.hid (aj HG2.out hg3)
 have HB3:=Lib.hid (HB2.out.grown hg3 (by simp));clear hg3
 go_wp2_with fail
 refine (Lf w.heap.size (num x) (num y) (num z) _ _ _ w3 rfl HN.out.2.1 HN.out.2.2.1 HN.out.2.2.2 HB3.out).mono ?_
 rintro e w4 ⟨rfl,hg4,hb4⟩
 have lY:=Lib.hid (aW gq.out hg4 (Nat.le_refl _));clear hg4
 have HB4:=Lib.hid hb4;clear hb4
 go_wp2_with fail
 refine (vw w.heap.size (num x*num y+num z) _ _ _ _ _ w4 HN.out.1 (HT.out.kept lY.out (fun r e=>by cases e)) hO HB4.out).mono ?_
 rintro e w5 ⟨rfl,hg5,_⟩
 have kH:=Lib.hid (aW lY.out hg5 (Nat.le_refl _));clear hg5
 go_wp2_with fail
 refine (Bu ((num x*num y+num z)%Sc.L) w5).mono ?_
 rintro e w6 ⟨g,rfl,uL,ho6⟩
 have HO:=Lib.hid (And.intro uL ho6);clear uL ho6
 go_wp2
 go_ret
 exact TA kH.out HO.out.1 HO.out.2 _ rfl
end
section
open Go.RowKit Ow Go.Shelf Ed
def Nt (l:List Nat):Pr:=bD (num (CV l)) dA
def sgr (l m:List Nat):List Nat:=DW (num (bE.sum (TV l++m)))
def YJ (l m:List Nat):Pr:=bD (num (sgr l m)) dA
def sgk (l m:List Nat):List Nat:=DW (num (bE.sum ((j5 (enc (YJ l m))++j5 (enc (Nt l)))++m)))
def sgS (l m:List Nat):List Nat:=DW (num (sgk l m)*num (CV l)+num (sgr l m))
def Nu (l m:List Nat):List Nat:=j5 (enc (YJ l m))++sgS l m
theorem xk {l:List Nat} {w w':World} {e:Ending} (h:PK l w e w') (hl:l.length=32):
  ∃g:Nat,e=.returned (.slice (some ⟨g,0,none⟩) 32 32)/\w.grownBy w' none/\w.heap.size<=g/\aH w' g 5 (l.map dD):=by
 obtain⟨g,rfl,hg,hn,hk⟩:=h
 exact⟨g,by rw[hl],hg,hn,hk⟩
theorem Jc {w:World} {g:Nat} {T:TypeId} {l:List Nat} (h:aH w g T (l.map dD)) (hl:l.length=32) (hb:∀i,l.getD i 0<256):BytesAt w w.heap.size (some ⟨g,0,none⟩) 32 l:=
 nL (tl:=[]) (by rw[List.append_nil];exact h) hl (Nat.le_refl _) (by decide) hb h.lt (Nat.le_refl _)
theorem ahE {w:World} {gd:Nat} {l:List Nat} (h:aH w gd 5 ((oP (bE.sum l)).map dD)):BytesAt w w.heap.size (some ⟨gd,0,none⟩) 64 (CV l):=
 Fq (xs:=oP (bE.sum l)) (o:=0) (n:=32) h (by rw[uo,uq];decide) (by decide) (by decide) (BJ _ (sum_lt l))
theorem preB {w:World} {gd:Nat} {l:List Nat} (h:aH w gd 5 ((oP (bE.sum l)).map dD)):BytesAt w w.heap.size (some ⟨gd,32,none⟩) 32 (TV l):=
 Fq (xs:=oP (bE.sum l)) (o:=32) (n:=32) h (by rw[uo,uq];decide) (by decide) (by decide) (BJ _ (sum_lt l))
theorem P5 (ca cb cc Ba Bb Bc:Nat) (a b c:Option Addr) (x y z:List Nat) (w:World) (hx:x.length=32) (hy:y.length=32) (hz:z.length=32) (hA:BytesAt w Ba a ca x) (hB:BytesAt w Bb b cb y) (hC:BytesAt w Bc c cc z) (hT:oI w):
  Calls Tryz.prog 38 #[.slice a 32 ca,.slice b 32 cb,.slice c 32 cc] w fun e w'=>∃NB:Nat,e=.returned (.slice (some ⟨NB,0,none⟩) 32 32)/\w.grownBy w' none/\w.heap.size<=NB/\aH w' NB 5 ((DW (num x*num y+num z)).map dD):=
 (Jb ca cb cc Ba Bb Bc a b c x y z w hx hy hz hA hB hC hT).mono fun _ _ h=>xk h (fO _)
theorem Jd (a:Option Addr) (c:Nat) (l:List Nat):joined [⟨a,c,l⟩]=l:=by simp[joined]
theorem xq (a a':Option Addr) (c c':Nat) (l l':List Nat):joined [⟨a,c,l⟩,⟨a',c',l'⟩]=l++l':=by simp[joined]
set_option maxRecDepth 100000 in
set_option maxHeartbeats 6400000 in
theorem Xa (l:List Nat) (cap B:Nat) (a:Option Addr) (w0:World) (HT0:eY w0) (vN:Tables w0) (hl:l.length=32) (EW:Hid (BytesAt w0 B a cap l)):
  Calls Tryz.prog 15 #[.slice a 32 cap] w0 fun e w'=>∃g:Nat,e=.returned (.slice (some ⟨g,0,none⟩) 32 32)/\w0.grownBy w' none/\w0.heap.size<=g/\aH w' g 141 ((j5 (enc (Nt l))).map dD):=by
 go_enter Tryz.func15,Tryz.ntmps15
 have G:w0.grownBy w0 none:=ah _ _
 have HT:=HT0
 go_upto_region 3 with (fail)
 refine wp_region_lit ?_
 refine Fg.aL (v:=.slice a 32 cap) (w':=w0) rfl (Fg.run_move rfl rfl) ?_
 simp only[Act.put,List.setIfInBounds_toArray,List.set_cons_succ,List.set_cons_zero]
 refine Fg.bP rfl (Fg.aN (vs:=#[.slice a 32 cap]) rfl rfl (by simp only[List.map_toArray,List.map_cons,List.map_nil,Act.eval];rfl) (Fg.aI Tryz.func28 (by kernel_rfl) (by kernel_rfl))) ?_
 refine (Ja l cap B a w0 HT vN hl EW).mono ?_
 rintro e A1 ⟨t,g,gd,ht,rfl,ga,hng,hnd,hbg,hbd⟩
 refine⟨_,rfl,?_⟩
 replace G:=aj G ga
 replace HT:=HT.grown ga
 clear ga
 simp only[Act.put,List.setIfInBounds_toArray,List.set_cons_succ,List.set_cons_zero]
 refine Fg.aL (v:=Qy t (.slice (some ⟨g,0,none⟩) 32 32)) (w':=A1) rfl (Fg.xG rfl rfl (by kernel_rfl)) ?_
 simp only[Act.put,List.setIfInBounds_toArray,List.set_cons_succ,List.set_cons_zero]
 refine Fg.aL (v:=.slice (some ⟨g,0,none⟩) 32 32) (w':=A1) rfl (Fg.xG rfl rfl (by kernel_rfl)) ?_
 simp only[Act.put,List.setIfInBounds_toArray,List.set_cons_succ,List.set_cons_zero]
 refine Fg.aL (v:=.slice (some ⟨g,0,none⟩) 32 32) (w':=A1) rfl (Fg.run_assign rfl rfl) ?_
 refine wpList_nil ?_
 simp only[Act.put,List.setIfInBounds_toArray,List.set_cons_succ,List.set_cons_zero]
 have HE:=Lib.hid (And.intro hng hbg)
 clear hbd hbg
 go_wp2_with fail
 go_ret
 exact⟨g,rfl,G,HE.out.1,HE.out.2⟩
set_option maxRecDepth 100000 in
set_option maxHeartbeats 12800000 in
theorem TY (l:List Nat) (cap B mt ct Bt:Nat) (a bt:Option Addr) (pt:List Part) (w0:World) (HO0:oI w0) (HT0:eY w0) (vN:Tables w0) (hl:l.length=32) (EW:Hid (BytesAt w0 B a cap l)) (hpt:pt.length=mt) (I7:Hid (PartsAt w0 Bt bt ct pt)) (hct:ct<9223372036854775808) (hlen:(joined pt).length<1000000):
  Calls Tryz.prog 22 #[.slice a 32 cap,.slice bt mt ct] w0 fun e w'=>∃(gs c:Nat),e=.returned (.slice (some ⟨gs,0,none⟩) 64 c)/\w0.grownBy w' none/\w0.heap.size<=gs/\w'.ownsRow w0.heap.size 5 1 (.slice (some ⟨gs,0,none⟩) 64 c) 64 ((Nu l (joined pt)).map dD):=by
 go_enter Tryz.func22,Tryz.ntmps22
 have G:w0.grownBy w0 none:=ah _ _
 have HT:=HT0
 go_upto_region 3 with (fail)
 refine wp_region_lit ?_
 refine Fg.aL (v:=.slice a 32 cap) (w':=w0) rfl (Fg.run_move rfl rfl) ?_
 simp only[Act.put,List.setIfInBounds_toArray,List.set_cons_succ,List.set_cons_zero]
 refine Fg.bP rfl (Fg.aN (vs:=#[.slice a 32 cap]) rfl rfl (by simp only[List.map_toArray,List.map_cons,List.map_nil,Act.eval];rfl) (Fg.aI Tryz.func28 (by kernel_rfl) (by kernel_rfl))) ?_
 refine (Ja l cap B a w0 HT vN hl EW).mono ?_
 rintro e A1 ⟨t,g,gd,ht,rfl,ga,hwg,hwd,hbg,hbd⟩
 refine⟨_,rfl,?_⟩
 replace G:=aj G ga
 replace HT:=HT.grown ga
 clear ga
 simp only[Act.put,List.setIfInBounds_toArray,List.set_cons_succ,List.set_cons_zero]
 refine Fg.aL (v:=.pointer (some ⟨A1.heap.size,0,none⟩)) (w':=A1.alloc (.cells [Value.int IntKind.u64 0,Value.int IntKind.u64 0,Value.int IntKind.u64 0,Value.int IntKind.u64 0,Value.int IntKind.u64 0,Value.int IntKind.u64 0,Value.int IntKind.u64 0,Value.int IntKind.u64 0,Value.int IntKind.u64 0,Value.int IntKind.u64 0,Value.int IntKind.u64 0,Value.int IntKind.u64 0,Value.int IntKind.u64 0,Value.int IntKind.u64 0,Value.int IntKind.u64 0,Value.int IntKind.u64 0,Value.int IntKind.u64 0,Value.int IntKind.u64 0,Value.int IntKind.u64 0,Value.int IntKind.u64 0,Value.slice none 0 0,Value.slice none 0 0,Value.slice none 0 0].toArray 60)) rfl (by go_simp) ?_
 simp only[Act.put,List.setIfInBounds_toArray,List.set_cons_succ,List.set_cons_zero]
 have FH:w0.heap.size<=A1.heap.size:=G.size
 have hb5:=aH.new A1 [Value.int IntKind.u64 0,Value.int IntKind.u64 0,Value.int IntKind.u64 0,Value.int IntKind.u64 0,Value.int IntKind.u64 0,Value.int IntKind.u64 0,Value.int IntKind.u64 0,Value.int IntKind.u64 0,Value.int IntKind.u64 0,Value.int IntKind.u64 0,Value.int IntKind.u64 0,Value.int IntKind.u64 0,Value.int IntKind.u64 0,Value.int IntKind.u64 0,Value.int IntKind.u64 0,Value.int IntKind.u64 0,Value.int IntKind.u64 0,Value.int IntKind.u64 0,Value.int IntKind.u64 0,Value.int IntKind.u64 0,Value.slice none 0 0,Value.slice none 0 0,Value.slice none 0 0] 60
 have adT:=hbg.lt
 have adU:=hbd.lt
 have ga5:=av (ah A1 none) (.cells [Value.int IntKind.u64 0,Value.int IntKind.u64 0,Value.int IntKind.u64 0,Value.int IntKind.u64 0,Value.int IntKind.u64 0,Value.int IntKind.u64 0,Value.int IntKind.u64 0,Value.int IntKind.u64 0,Value.int IntKind.u64 0,Value.int IntKind.u64 0,Value.int IntKind.u64 0,Value.int IntKind.u64 0,Value.int IntKind.u64 0,Value.int IntKind.u64 0,Value.int IntKind.u64 0,Value.int IntKind.u64 0,Value.int IntKind.u64 0,Value.int IntKind.u64 0,Value.int IntKind.u64 0,Value.int IntKind.u64 0,Value.slice none 0 0,Value.slice none 0 0,Value.slice none 0 0].toArray 60)
 replace hbg:=hbg.gn ga5
 replace hbd:=hbd.gn ga5
 replace G:=aj G ga5
 replace HT:=HT.grown ga5
 clear ga5
 obtain⟨N5,hN5⟩:∃x,x=A1.heap.size:=⟨_,rfl⟩
 rw[<- hN5]at hb5 FH ⊢
 rw[<- hN5]at adT adU
 revert hbg hbd G HT hb5
 generalize (A1.alloc (.cells [Value.int IntKind.u64 0,Value.int IntKind.u64 0,Value.int IntKind.u64 0,Value.int IntKind.u64 0,Value.int IntKind.u64 0,Value.int IntKind.u64 0,Value.int IntKind.u64 0,Value.int IntKind.u64 0,Value.int IntKind.u64 0,Value.int IntKind.u64 0,Value.int IntKind.u64 0,Value.int IntKind.u64 0,Value.int IntKind.u64 0,Value.int IntKind.u64 0,Value.int IntKind.u64 0,Value.int IntKind.u64 0,Value.int IntKind.u64 0,Value.int IntKind.u64 0,Value.int IntKind.u64 0,Value.int IntKind.u64 0,Value.slice none 0 0,Value.slice none 0 0,Value.slice none 0 0].toArray 60))=A2
 intro hbg hbd G HT hb5
 clear hN5
 refine Fg.aV rfl rfl (Fg.run_store (cs:=DX t (.slice (some ⟨g,0,none⟩) 32 32) (.slice (some ⟨gd,0,none⟩) 32 64) (.slice (some ⟨gd,32,none⟩) 32 32)) rfl rfl rfl (hb5.there 0 23 (by show 0+23<=23;decide)) EY (Nn _ _ _ _ _ _ _ _ _ _)) ?_
 replace hbg:=hbg.au (C:=N5) (cs:=DX t (.slice (some ⟨g,0,none⟩) 32 32) (.slice (some ⟨gd,0,none⟩) 32 64) (.slice (some ⟨gd,32,none⟩) 32 32)) 0 (by omega)
 replace hbd:=hbd.au (C:=N5) (cs:=DX t (.slice (some ⟨g,0,none⟩) 32 32) (.slice (some ⟨gd,0,none⟩) 32 64) (.slice (some ⟨gd,32,none⟩) 32 32)) 0 (by omega)
 replace hb5:aH (A2.setCells N5 0 (DX t (.slice (some ⟨g,0,none⟩) 32 32) (.slice (some ⟨gd,0,none⟩) 32 64) (.slice (some ⟨gd,32,none⟩) 32 32))) N5 60 (DX t (.slice (some ⟨g,0,none⟩) 32 32) (.slice (some ⟨gd,0,none⟩) 32 64) (.slice (some ⟨gd,32,none⟩) 32 32)):=hb5.bC rfl
 replace G:=aG (cs:=DX t (.slice (some ⟨g,0,none⟩) 32 32) (.slice (some ⟨gd,0,none⟩) 32 64) (.slice (some ⟨gd,32,none⟩) 32 32)) G (B:=N5) (FH) 0
 replace HT:=HT.keep (aK (cs:=DX t (.slice (some ⟨g,0,none⟩) 32 32) (.slice (some ⟨gd,0,none⟩) 32 64) (.slice (some ⟨gd,32,none⟩) 32 32)) (ah _ (some N5)) 0) (HT0.jW (FH))
 revert hbg hbd hb5 G HT
 generalize A2.setCells N5 0 (DX t (.slice (some ⟨g,0,none⟩) 32 32) (.slice (some ⟨gd,0,none⟩) 32 64) (.slice (some ⟨gd,32,none⟩) 32 32))=W1
 intro hbg hbd hb5 G HT
 refine wpList_nil ?_
 go_upto_region 4 with (fail)
 refine wp_region_lit ?_
 refine Fg.aL (v:=.slice bt mt ct) (w':=W1) rfl (Fg.run_move rfl rfl) ?_
 simp only[Act.put,List.setIfInBounds_toArray,List.set_cons_succ,List.set_cons_zero]
 refine Fg.aL (v:=.pointer (some ⟨N5,22,none⟩)) (w':=W1) rfl (by go_simp) ?_
 simp only[Act.put,List.setIfInBounds_toArray,List.set_cons_succ,List.set_cons_zero]
 refine Fg.aL (v:=.slice (some ⟨gd,32,none⟩) 32 32) (w':=W1) rfl (oL rfl rfl (hb5.cell (i:=22) rfl)) ?_
 simp only[Act.put,List.setIfInBounds_toArray,List.set_cons_succ,List.set_cons_zero]
 have adW:=hbg.lt
 have adX:=hbd.lt
 have wR:=hb5.lt
 refine Fg.aL (v:=.slice (some ⟨W1.heap.size,0,none⟩) 1 1) (w':=W1.alloc (.cells #[.slice (some ⟨gd,32,none⟩) 32 32] 22)) rfl (by go_simp) ?_
 simp only[Act.put,List.setIfInBounds_toArray,List.set_cons_succ,List.set_cons_zero]
 have gz:=av (ah W1 none) (.cells #[.slice (some ⟨gd,32,none⟩) 32 32] 22)
 have hZ1:=aH.new W1 [.slice (some ⟨gd,32,none⟩) 32 32] 22
 have ahG:w0.heap.size<=W1.heap.size:=G.size
 replace hbg:=hbg.gn gz
 replace hbd:=hbd.gn gz
 replace hb5:=hb5.gn gz
 replace G:=aj G gz
 replace HT:=HT.grown gz
 clear gz
 obtain⟨Z1,eZ1⟩:∃x,x=W1.heap.size:=⟨_,rfl⟩
 rw[<- eZ1]at hZ1 ahG adW adX wR ⊢
 clear eZ1
 revert hbg hbd hb5 G HT hZ1
 generalize (W1.alloc (.cells #[.slice (some ⟨gd,32,none⟩) 32 32] 22))=XZ1
 intro hbg hbd hb5 G HT hZ1
 have ajK:=hbg.lt
 have adO:=hbd.lt
 have yS:=hb5.lt
 have ajL:=hZ1.lt
 refine Fg.bP rfl (Fg.aN (vs:=#[.slice bt mt ct,.slice (some ⟨Z1,0,none⟩) 1 1]) rfl rfl (by simp only[List.map_toArray,List.map_cons,List.map_nil,Act.eval];rfl) (Fg.aI Tryz.func36 (by kernel_rfl) (by kernel_rfl))) ?_
 refine (Fh mt ct 1 1 _ _ bt (some ⟨Z1,0,none⟩) pt [⟨some ⟨gd,32,none⟩,32,TV l⟩] XZ1 (HO0.kept G (fun r e=>by cases e)) (vN.kept G (fun b e=>by cases e)) hpt rfl (I7.out.grown G (Nat.le_refl _)) (Fp (I9 l) hZ1 (preB hbd)) hct (by decide) (by rw[Jd];simp only[I9];omega)).mono ?_
 rintro e Yr ho
 rw[Jd]at ho
 obtain⟨gr,rfl,ga,hnr,hbr⟩:=xk ho (fO _)
 refine⟨_,rfl,?_⟩
 clear ho
 have hwr:w0.heap.size<=gr:=Nat.le_trans G.size hnr
 replace hbg:=hbg.gn ga
 replace hbd:=hbd.gn ga
 replace hb5:=hb5.gn ga
 replace hZ1:=hZ1.gn ga
 replace G:=aj G ga
 replace HT:=HT.grown ga
 clear ga
 simp only[Act.put,List.setIfInBounds_toArray,List.set_cons_succ,List.set_cons_zero]
 change aH _ _ _ ((sgr l (joined pt)).map dD) at hbr
 refine Fg.aL (v:=.slice (some ⟨gr,0,none⟩) 32 32) (w':=Yr) rfl (Fg.run_assign rfl rfl) ?_
 simp only[Act.put,List.setIfInBounds_toArray,List.set_cons_succ,List.set_cons_zero]
 refine wpList_nil ?_
 go_upto_region 5 with (fail)
 refine wp_region_lit ?_
 refine Fg.aL (v:=.slice (some ⟨gr,0,none⟩) 32 32) (w':=Yr) rfl (Fg.run_move rfl rfl) ?_
 simp only[Act.put,List.setIfInBounds_toArray,List.set_cons_succ,List.set_cons_zero]
 have ajM:=hbg.lt
 have adP:=hbd.lt
 have Nc:=hb5.lt
 have ajN:=hZ1.lt
 have ajO:=hbr.lt
 refine Fg.bP rfl (Fg.aN (vs:=#[.slice (some ⟨gr,0,none⟩) 32 32]) rfl rfl (by simp only[List.map_toArray,List.map_cons,List.map_nil,Act.eval];rfl) (Fg.aI Tryz.func37 (by kernel_rfl) (by kernel_rfl))) ?_
 refine (TH (sgr l (joined pt)) 32 _ (some ⟨gr,0,none⟩) Yr HT (fO _) (Lib.hid (Jc hbr (fO _) (Bv _)))).mono ?_
 rintro e A3 ⟨tR,gR,htR,rfl,ga,hnR,hbR⟩
 refine⟨_,rfl,?_⟩
 have hwR:w0.heap.size<=gR:=Nat.le_trans G.size hnR
 change aH _ _ _ ((j5 (enc (YJ l (joined pt)))).map dD) at hbR
 replace hbg:=hbg.gn ga
 replace hbd:=hbd.gn ga
 replace hb5:=hb5.gn ga
 replace hZ1:=hZ1.gn ga
 replace hbr:=hbr.gn ga
 replace G:=aj G ga
 replace HT:=HT.grown ga
 clear ga
 simp only[Act.put,List.setIfInBounds_toArray,List.set_cons_succ,List.set_cons_zero]
 refine Fg.aL (v:=.pointer (some ⟨A3.heap.size,0,none⟩)) (w':=A3.alloc (.cells [Value.int IntKind.u64 0,Value.int IntKind.u64 0,Value.int IntKind.u64 0,Value.int IntKind.u64 0,Value.int IntKind.u64 0,Value.int IntKind.u64 0,Value.int IntKind.u64 0,Value.int IntKind.u64 0,Value.int IntKind.u64 0,Value.int IntKind.u64 0,Value.int IntKind.u64 0,Value.int IntKind.u64 0,Value.int IntKind.u64 0,Value.int IntKind.u64 0,Value.int IntKind.u64 0,Value.int IntKind.u64 0,Value.int IntKind.u64 0,Value.int IntKind.u64 0,Value.int IntKind.u64 0,Value.int IntKind.u64 0,Value.slice none 0 0].toArray 58)) rfl (by go_simp) ?_
 simp only[Act.put,List.setIfInBounds_toArray,List.set_cons_succ,List.set_cons_zero]
 have hw7:w0.heap.size<=A3.heap.size:=G.size
 have cZ:=aH.new A3 [Value.int IntKind.u64 0,Value.int IntKind.u64 0,Value.int IntKind.u64 0,Value.int IntKind.u64 0,Value.int IntKind.u64 0,Value.int IntKind.u64 0,Value.int IntKind.u64 0,Value.int IntKind.u64 0,Value.int IntKind.u64 0,Value.int IntKind.u64 0,Value.int IntKind.u64 0,Value.int IntKind.u64 0,Value.int IntKind.u64 0,Value.int IntKind.u64 0,Value.int IntKind.u64 0,Value.int IntKind.u64 0,Value.int IntKind.u64 0,Value.int IntKind.u64 0,Value.int IntKind.u64 0,Value.int IntKind.u64 0,Value.slice none 0 0] 58
 have adY:=hbg.lt
 have YH:=hbd.lt
 have Nf:=hb5.lt
 have adZ:=hZ1.lt
 have ad1:=hbr.lt
 have ad2:=hbR.lt
 have Xb:=av (ah A3 none) (.cells [Value.int IntKind.u64 0,Value.int IntKind.u64 0,Value.int IntKind.u64 0,Value.int IntKind.u64 0,Value.int IntKind.u64 0,Value.int IntKind.u64 0,Value.int IntKind.u64 0,Value.int IntKind.u64 0,Value.int IntKind.u64 0,Value.int IntKind.u64 0,Value.int IntKind.u64 0,Value.int IntKind.u64 0,Value.int IntKind.u64 0,Value.int IntKind.u64 0,Value.int IntKind.u64 0,Value.int IntKind.u64 0,Value.int IntKind.u64 0,Value.int IntKind.u64 0,Value.int IntKind.u64 0,Value.int IntKind.u64 0,Value.slice none 0 0].toArray 58)
 replace hbg:=hbg.gn Xb
 replace hbd:=hbd.gn Xb
 replace hb5:=hb5.gn Xb
 replace hZ1:=hZ1.gn Xb
 replace hbr:=hbr.gn Xb
 replace hbR:=hbR.gn Xb
 replace G:=aj G Xb
 replace HT:=HT.grown Xb
 clear Xb
 obtain⟨N7,hN7⟩:∃x,x=A3.heap.size:=⟨_,rfl⟩
 rw[<- hN7]at cZ hw7 ⊢
 rw[<- hN7]at adY YH Nf adZ ad1 ad2
 revert hbg hbd hb5 hZ1 hbr hbR G HT cZ
 generalize (A3.alloc (.cells [Value.int IntKind.u64 0,Value.int IntKind.u64 0,Value.int IntKind.u64 0,Value.int IntKind.u64 0,Value.int IntKind.u64 0,Value.int IntKind.u64 0,Value.int IntKind.u64 0,Value.int IntKind.u64 0,Value.int IntKind.u64 0,Value.int IntKind.u64 0,Value.int IntKind.u64 0,Value.int IntKind.u64 0,Value.int IntKind.u64 0,Value.int IntKind.u64 0,Value.int IntKind.u64 0,Value.int IntKind.u64 0,Value.int IntKind.u64 0,Value.int IntKind.u64 0,Value.int IntKind.u64 0,Value.int IntKind.u64 0,Value.slice none 0 0].toArray 58))=A4
 intro hbg hbd hb5 hZ1 hbr hbR G HT cZ
 clear hN7
 refine Fg.aV rfl rfl (Fg.run_store (cs:=pK tR (.slice (some ⟨gR,0,none⟩) 32 32)) rfl rfl rfl (cZ.there 0 21 (by show 0+21<=21;decide)) q9 (wU _ _ _ _)) ?_
 replace hbg:=hbg.au (C:=N7) (cs:=pK tR (.slice (some ⟨gR,0,none⟩) 32 32)) 0 (by omega)
 replace hbd:=hbd.au (C:=N7) (cs:=pK tR (.slice (some ⟨gR,0,none⟩) 32 32)) 0 (by omega)
 replace hb5:=hb5.au (C:=N7) (cs:=pK tR (.slice (some ⟨gR,0,none⟩) 32 32)) 0 (by omega)
 replace hZ1:=hZ1.au (C:=N7) (cs:=pK tR (.slice (some ⟨gR,0,none⟩) 32 32)) 0 (by omega)
 replace hbr:=hbr.au (C:=N7) (cs:=pK tR (.slice (some ⟨gR,0,none⟩) 32 32)) 0 (by omega)
 replace hbR:=hbR.au (C:=N7) (cs:=pK tR (.slice (some ⟨gR,0,none⟩) 32 32)) 0 (by omega)
 replace cZ:aH (A4.setCells N7 0 (pK tR (.slice (some ⟨gR,0,none⟩) 32 32))) N7 58 (pK tR (.slice (some ⟨gR,0,none⟩) 32 32)):=cZ.bC rfl
 replace G:=aG (cs:=pK tR (.slice (some ⟨gR,0,none⟩) 32 32)) G (B:=N7) (hw7) 0
 replace HT:=HT.keep (aK (cs:=pK tR (.slice (some ⟨gR,0,none⟩) 32 32)) (ah _ (some N7)) 0) (HT0.jW (hw7))
 revert hbg hbd hb5 hZ1 hbr hbR cZ G HT
 generalize A4.setCells N7 0 (pK tR (.slice (some ⟨gR,0,none⟩) 32 32))=W2
 intro hbg hbd hb5 hZ1 hbr hbR cZ G HT
 refine wpList_nil ?_
 go_upto_region 6 with (fail)
 refine wp_region_lit ?_
 refine Fg.aL (v:=.slice bt mt ct) (w':=W2) rfl (Fg.run_move rfl rfl) ?_
 simp only[Act.put,List.setIfInBounds_toArray,List.set_cons_succ,List.set_cons_zero]
 refine Fg.aL (v:=.pointer (some ⟨N7,20,none⟩)) (w':=W2) rfl (by go_simp) ?_
 simp only[Act.put,List.setIfInBounds_toArray,List.set_cons_succ,List.set_cons_zero]
 refine Fg.aL (v:=.slice (some ⟨gR,0,none⟩) 32 32) (w':=W2) rfl (oL rfl rfl (cZ.cell (i:=20) rfl)) ?_
 simp only[Act.put,List.setIfInBounds_toArray,List.set_cons_succ,List.set_cons_zero]
 refine Fg.aL (v:=.pointer (some ⟨N5,0,none⟩)) (w':=W2) rfl (by go_simp) ?_
 simp only[Act.put,List.setIfInBounds_toArray,List.set_cons_succ,List.set_cons_zero]
 refine Fg.aL (v:=.pointer (some ⟨N5,20,none⟩)) (w':=W2) rfl (by go_simp) ?_
 simp only[Act.put,List.setIfInBounds_toArray,List.set_cons_succ,List.set_cons_zero]
 refine Fg.aL (v:=.slice (some ⟨g,0,none⟩) 32 32) (w':=W2) rfl (oL rfl rfl (hb5.cell (i:=20) rfl)) ?_
 simp only[Act.put,List.setIfInBounds_toArray,List.set_cons_succ,List.set_cons_zero]
 have ad3:=hbg.lt
 have YI:=hbd.lt
 have ad4:=hb5.lt
 have ad5:=hZ1.lt
 have ad6:=hbr.lt
 have ad7:=hbR.lt
 have ad8:=cZ.lt
 refine Fg.aL (v:=.slice (some ⟨W2.heap.size,0,none⟩) 2 2) (w':=W2.alloc (.cells #[.slice (some ⟨gR,0,none⟩) 32 32,.slice (some ⟨g,0,none⟩) 32 32] 22)) rfl (by go_simp) ?_
 simp only[Act.put,List.setIfInBounds_toArray,List.set_cons_succ,List.set_cons_zero]
 have gz:=av (ah W2 none) (.cells #[.slice (some ⟨gR,0,none⟩) 32 32,.slice (some ⟨g,0,none⟩) 32 32] 22)
 have hZ2:=aH.new W2 [.slice (some ⟨gR,0,none⟩) 32 32,.slice (some ⟨g,0,none⟩) 32 32] 22
 have ahI:w0.heap.size<=W2.heap.size:=G.size
 replace hbg:=hbg.gn gz
 replace hbd:=hbd.gn gz
 replace hb5:=hb5.gn gz
 replace hZ1:=hZ1.gn gz
 replace hbr:=hbr.gn gz
 replace hbR:=hbR.gn gz
 replace cZ:=cZ.gn gz
 replace G:=aj G gz
 replace HT:=HT.grown gz
 clear gz
 obtain⟨Z2,eZ2⟩:∃x,x=W2.heap.size:=⟨_,rfl⟩
 rw[<- eZ2]at hZ2 ahI ad3 YI ad4 ad5 ad6 ad7 ad8 ⊢
 clear eZ2
 revert hbg hbd hb5 hZ1 hbr hbR cZ G HT hZ2
 generalize (W2.alloc (.cells #[.slice (some ⟨gR,0,none⟩) 32 32,.slice (some ⟨g,0,none⟩) 32 32] 22))=XZ2
 intro hbg hbd hb5 hZ1 hbr hbR cZ G HT hZ2
 have ajQ:=hbg.lt
 have adQ:=hbd.lt
 have ajR:=hb5.lt
 have ajS:=hZ1.lt
 have ajT:=hbr.lt
 have ajU:=hbR.lt
 have ajV:=cZ.lt
 have ajW:=hZ2.lt
 refine Fg.bP rfl (Fg.aN (vs:=#[.slice bt mt ct,.slice (some ⟨Z2,0,none⟩) 2 2]) rfl rfl (by simp only[List.map_toArray,List.map_cons,List.map_nil,Act.eval];rfl) (Fg.aI Tryz.func36 (by kernel_rfl) (by kernel_rfl))) ?_
 refine (Fh mt ct 2 2 _ _ bt (some ⟨Z2,0,none⟩) pt [⟨some ⟨gR,0,none⟩,32,j5 (enc (YJ l (joined pt)))⟩,⟨some ⟨g,0,none⟩,32,j5 (enc (Nt l))⟩] XZ2 (HO0.kept G (fun r e=>by cases e)) (vN.kept G (fun b e=>by cases e)) hpt rfl (I7.out.grown G (Nat.le_refl _)) (TR (iQ _) (iQ _) hZ2 (adr hbR) (adr hbg)) hct (by decide) (by rw[xq];simp only[List.length_append,iQ];omega)).mono ?_
 rintro e Yk ho
 rw[xq]at ho
 obtain⟨gk,rfl,ga,hnk,hbk⟩:=xk ho (fO _)
 refine⟨_,rfl,?_⟩
 clear ho
 have hwk:w0.heap.size<=gk:=Nat.le_trans G.size hnk
 replace hbg:=hbg.gn ga
 replace hbd:=hbd.gn ga
 replace hb5:=hb5.gn ga
 replace hZ1:=hZ1.gn ga
 replace hbr:=hbr.gn ga
 replace hbR:=hbR.gn ga
 replace cZ:=cZ.gn ga
 replace hZ2:=hZ2.gn ga
 replace G:=aj G ga
 replace HT:=HT.grown ga
 clear ga
 simp only[Act.put,List.setIfInBounds_toArray,List.set_cons_succ,List.set_cons_zero]
 change aH _ _ _ ((sgk l (joined pt)).map dD) at hbk
 refine Fg.aL (v:=.slice (some ⟨gk,0,none⟩) 32 32) (w':=Yk) rfl (Fg.run_assign rfl rfl) ?_
 simp only[Act.put,List.setIfInBounds_toArray,List.set_cons_succ,List.set_cons_zero]
 refine wpList_nil ?_
 go_upto_region 7 with (fail)
 have vO:=G.size
 have adS:=hbg.lt
 have adR:=hbd.lt
 have ajX:=hb5.lt
 have ajY:=hZ1.lt
 have ajZ:=hbr.lt
 have aj0:=hbR.lt
 have aj1:=cZ.lt
 have aj2:=hZ2.lt
 have aj3:=hbk.lt
 refine Fg.rT [] [.any,.any,.any,.any,.any,.any,.any,.any,.any,.any,.any,.any,.any,.any,.any,.any,.any,.any,.any,.any,.any,.any,.any,.any,.any,.any,.any,.any,.any,.val (Value.pointer (some ⟨N7,20,none⟩)),.val (Value.slice (some ⟨gR,0,none⟩) 32 32),.val (Value.slice (some ⟨gk,0,none⟩) 32 32),.val (Value.pointer (some ⟨N5,21,none⟩)),.val (Value.slice (some ⟨gd,0,none⟩) 32 64),.val (Value.slice (some ⟨gr,0,none⟩) 32 32),.row 5 ((sgS l (joined pt)).map dD) 32 Yk.heap.size] 7 ?_ ?_
 .refine Fg.vS rfl (by decide) (fun ac w h=>?_) ?_
  .have e7:_=Value.pointer (some ⟨N7,0,none⟩):=h.r 7
   refine⟨aB rfl,Value.pointer (some ⟨N7,20,none⟩),w,?_,ah _ _,rfl⟩
   clear h
   simp only[execOp,Act.eval,e7]
   go_simp
  refine Fg.vS rfl (by decide) (fun ac w h=>?_) ?_
  .have e29:_=Value.pointer (some ⟨N7,20,none⟩):=h.d 29
   exact Fg.vn (Value.slice (some ⟨gR,0,none⟩) 32 32) (oL rfl e29 ((cZ.gn h.base).cell (i:=20) rfl))
  refine Fg.vS rfl (by decide) (fun _ _ h=>Fg.vn _ (Fg.run_move rfl (h.r 8))) ?_
  refine Fg.vS rfl (by decide) (fun ac w h=>?_) ?_
  .have e5:_=Value.pointer (some ⟨N5,0,none⟩):=h.r 5
   refine⟨aB rfl,Value.pointer (some ⟨N5,21,none⟩),w,?_,ah _ _,rfl⟩
   clear h
   simp only[execOp,Act.eval,e5]
   go_simp
  refine Fg.vS rfl (by decide) (fun ac w h=>?_) ?_
  .have e32:_=Value.pointer (some ⟨N5,21,none⟩):=h.d 32
   exact Fg.vn (Value.slice (some ⟨gd,0,none⟩) 32 64) (oL rfl e32 ((hb5.gn h.base).cell (i:=21) rfl))
  refine Fg.vS rfl (by decide) (fun _ _ h=>Fg.vn _ (Fg.run_move rfl (h.r 6))) ?_
  refine Fg.cS rfl (by decide) (fun ac w h=>?_) ?_
  .have e31:_=Value.slice (some ⟨gk,0,none⟩) 32 32:=h.d 31
   have e33:_=Value.slice (some ⟨gd,0,none⟩) 32 64:=h.d 33
   have e34:_=Value.slice (some ⟨gr,0,none⟩) 32 32:=h.d 34
   refine⟨aB rfl,38,#[Value.slice (some ⟨gk,0,none⟩) 32 32,Value.slice (some ⟨gd,0,none⟩) 32 64,Value.slice (some ⟨gr,0,none⟩) 32 32],Fg.aN rfl rfl (by simp only[List.map_toArray,List.map_cons,List.map_nil,Act.eval,e31,e33,e34]) (Fg.aI Tryz.func38 (by kernel_rfl) (by kernel_rfl)),?_⟩
   exact (P5 32 64 32 _ _ _ (some ⟨gk,0,none⟩) (some ⟨gd,0,none⟩) (some ⟨gr,0,none⟩) (sgk l (joined pt)) (CV l) (sgr l (joined pt)) _ (fO _) (I8 l) (fO _) (Jc (hbk.gn h.base) (fO _) (Bv _)) (ahE (hbd.gn h.base)) (Jc (hbr.gn h.base) (fO _) (Bv _)) (HO0.kept (aj G h.base) (fun r e=>by cases e))).mono fun _ _ ⟨NB,he,hg,hn,hb⟩=>⟨_,he,hg,⟨NB,rfl,Nat.le_trans h.base.size hn,hb⟩⟩
  trivial
 .intro qa V3 g3 hsz hdf hrest aC hpt
  obtain⟨⟨u2,hs2⟩,⟨u3,hs3⟩,⟨u9,jD⟩,⟨u10,fM⟩,⟨u11,d9⟩,⟨u12,fJ⟩,⟨u13,dL⟩,⟨u14,dw⟩,⟨u15,dM⟩,⟨u16,dG⟩,⟨u17,eD⟩,⟨u18,eF⟩,⟨u19,eG⟩,⟨u20,dU⟩,⟨u21,eP⟩,⟨u22,eT⟩,⟨u23,dV⟩,⟨u24,dO⟩,⟨u25,eH⟩,⟨u26,eO⟩,⟨u27,fK⟩,⟨u28,jd⟩,⟨u29,kD⟩,⟨u31,gL⟩,⟨u32,jR⟩,⟨u33,jA⟩,⟨u34,iZ⟩,_⟩:=Fg.bn qa [2,3,9,10,11,12,13,14,15,16,17,18,19,20,21,22,23,24,25,26,27,28,29,31,32,33,34]
  obtain⟨N35,jS,ahK,ad9⟩:∃N,qa.tmps.getD 35 undef=.slice (some ⟨N,0,none⟩) 32 32/\Yk.heap.size<=N/\aH V3 N 5 ((sgS l (joined pt)).map dD):=aC 35 (by kernel_rfl)
  obtain rfl:=Fg.aQ [2,3,9,10,11,12,13,14,15,16,17,18,19,20,21,22,23,24,25,26,27,28,29,30,31,32,33,34,35] (vs:=[_,_,u2,u3,_,_,_,_,_,u9,u10,u11,u12,u13,u14,u15,u16,u17,u18,u19,u20,u21,u22,u23,u24,u25,u26,u27,u28,u29,Value.slice (some ⟨gR,0,none⟩) 32 32,u31,u32,u33,u34,Value.slice (some ⟨N35,0,none⟩) 32 32,_]) hsz hrest (by kernel_rfl) rfl rfl ⟨hs2,hs3,jD,fM,d9,fJ,dL,dw,dM,dG,eD,eF,eG,dU,eP,eT,dV,dO,eH,eO,fK,jd,kD,(show qa.tmps.getD 30 undef=Value.slice (some ⟨gR,0,none⟩) 32 32 from aC 30 (by kernel_rfl)),gL,jR,jA,iZ,jS,trivial⟩ hdf
  clear hsz hdf hrest aC hpt hs2 hs3 jD fM d9 fJ dL dw dM dG eD eF eG dU eP eT dV dO eH eO fK jd kD gL jR jA iZ jS
  replace hbg:=hbg.gn g3
  replace hbd:=hbd.gn g3
  replace hb5:=hb5.gn g3
  replace hZ1:=hZ1.gn g3
  replace hbr:=hbr.gn g3
  replace hbR:=hbR.gn g3
  replace cZ:=cZ.gn g3
  replace hZ2:=hZ2.gn g3
  replace hbk:=hbk.gn g3
  replace G:=aj G g3
  replace HT:=HT.grown g3
  have ank:w0.heap.size<=N35:=Nat.le_trans vO ahK
  clear g3
  obtain⟨j,z,hi,hz,hs,hby,hzc⟩:=Ow.qL
  obtain⟨v',w',hap,ho,hg⟩:=run_append_arg_grows (P:=Tryz.prog) V3 22 22 5 j z 1 1 Tryz.underlying22 hi hz hs hby hzc (by decide) ⟨gR,0,none⟩ 32 32 ((j5 (enc (YJ l (joined pt)))).map dD) (by rw[List.length_map,iQ]) (fun j u hu=>by rw[Addr.add_mid,Nat.zero_add];exact hbR.cell hu) ⟨N35,0,none⟩ 32 32 ((sgS l (joined pt)).map dD) (by rw[List.length_map];exact fO _) (fun j u hu=>by rw[Addr.add_mid,Nat.zero_add];exact ad9.cell hu) (by decide) (by decide) (by decide)
  refine wpList_append_run rfl (.tmp 30) (.tmp 35) 22 rfl rfl _ _ rfl rfl _ _ hap ?_
  simp only[Act.put,List.setIfInBounds_toArray,List.set_cons_succ,List.set_cons_zero]
  refine Fg.aL (v:=v') (w':=w') rfl (Fg.run_assign rfl rfl) ?_
  refine wpList_nil ?_
  simp only[Act.put,List.setIfInBounds_toArray,List.set_cons_succ,List.set_cons_zero]
  have G9:=aj G hg
  rw[<- List.map_append]at ho
  obtain⟨v9,hv9⟩:∃x,x=v':=⟨_,rfl⟩
  have HE:Hid (∃(gs c:Nat),v9=.slice (some ⟨gs,0,none⟩) 64 c/\w0.heap.size<=gs/\w'.ownsRow w0.heap.size 5 1 (.slice (some ⟨gs,0,none⟩) 64 c) 64 ((Nu l (joined pt)).map dD)):=by
   apply Lib.hid
   have hge:w0.heap.size<=V3.heap.size:=G.size
   obtain⟨gs,c,e1,hb1,_⟩:=sw ho (by decide)
   rw[e1]at ho hv9
   refine⟨gs,c,hv9,Nat.le_trans hge hb1,?_⟩
   rcases ho.2 with⟨h0,_⟩ |⟨g',c',cur,e2,hb2,hrest⟩
   .cases h0
   .cases e2
    exact⟨ho.1,Or.inr ⟨_,_,cur,rfl,Nat.le_trans hge hb2,hrest⟩⟩
  rw[<- hv9]
  clear hap ho hg hv9
  clear hbg hbd hb5 hZ1 hbr hbR cZ hZ2 hbk ad9
  go_wp2_with fail
  go_ret
  obtain⟨gs,c,rfl,hn,ho⟩:=HE.out
  exact⟨gs,c,rfl,G9,hn,ho⟩
end
section
open Go.RowKit Ow Wi Ve Rc
namespace Gr
def rJ (l:List Nat) (r:R):R:={r with sig:=Nu l (dZ r)}
def T9 (n:Int):Value:=.tuple #[.agg z7.toArray,.int .i64 n]
set_option maxHeartbeats 2000000 in
set_option maxRecDepth 100000 in
theorem LB (r:R) (B cap:Nat) (a:Option Addr) (w:World) (q:L) (h:mV w B q r) (hs:gV r=false):
  Calls Tryz.prog 10 #[.slice a 32 cap,q.v r] w fun e w'=>e=.returned (T9 4)/\w.grownBy w' none:=by
 have HS:=Lib.hid (fun w' (hg:w.grownBy w' none)=>qP false r B w' q (h.stay hg) hs)
 clear h hs
 obtain⟨s,a1,n1,c1,a2,n2,c2,a3,n3,c3⟩:=q
 obtain⟨key,cl,sq,cx,g,val,sig⟩:=r
 replace HS:Hid (∀w' (_:w.grownBy w' none),Calls Tryz.prog 19 #[vV s cl sq a1 n1 c1 g a2 n2 c2 a3 n3 c3] w' fun e w''=>e=.returned (.bool false)/\w'.grownBy w'' none):=HS
 show Calls _ _ #[.slice a 32 cap,vV s cl sq a1 n1 c1 g a2 n2 c2 a3 n3 c3] w _
 obtain⟨M,hM⟩:∃M,M=w.heap.size+1:=⟨_,rfl⟩
 obtain⟨W0,hW0⟩:∃W0,W0=((w.alloc (.cells #[.string s,iV cl,iV sq,.slice a1 n1 c1,.bool g,.slice a2 n2 c2,.slice a3 n3 c3] 25)).alloc (.cells z7.toArray 25)).alloc (.cells #[.string s,iV cl,iV sq,.slice a1 n1 c1,.bool g,.slice a2 n2 c2,.slice a3 n3 c3] 46):=⟨_,rfl⟩
 have hG0:w.grownBy W0 none:=by rw[hW0];exact av (av (av (ah _ _) _) _) _
 have hB0:aH W0 M 25 z7:=by rw[hW0,hM,<- World.size_alloc];exact (aH.new _ _ _).alloc _
 have jg:=Lib.hid (And.intro hG0 (And.intro hB0 (show w.heap.size<=M by omega)));clear hG0 hB0
 unfold z7 Eo iV at hW0
 go_enter Tryz.func10,Tryz.ntmps10
 go_wp2_with fail
 rw[<- hW0,<- hM]
 clear hW0 hM
 refine (HS.out _ jg.out.1).mono ?_
 rintro e w1 ⟨rfl,hg⟩
 have hm:=jg.out.2.1.grown hg (by simp)
 have HG:=Lib.hid (And.intro (aj jg.out.1 hg) (And.intro hm jg.out.2.2));clear hg
 have y0:=hm.cell (i:=0) rfl
 have g0:=hm.free 0
 have y1:=hm.cell (i:=1) rfl
 have g1:=hm.free 1
 have y2:=hm.cell (i:=2) rfl
 have g2:=hm.free 2
 have y3:=hm.cell (i:=3) rfl
 have g3:=hm.free 3
 have y4:=hm.cell (i:=4) rfl
 have g4:=hm.free 4
 have y5:=hm.cell (i:=5) rfl
 have g5:=hm.free 5
 have y6:=hm.cell (i:=6) rfl
 have g6:=hm.free 6
 clear hm
 go_wp2_with fail
 obtain⟨kg,hm,hMw⟩:=HG.out
 have Ua:=aJ (aJ (aJ (aJ (aJ (aJ (aJ (ah w1 (some M)) 0 (.string ⟨#[]⟩)) 1 (.int .i64 0)) 2 (.int .i64 0)) 3 (.slice none 0 0)) 4 (.bool false)) 5 (.slice none 0 0)) 6 (.slice none 0 0)
 have zw:=((((((hm.set 0 (.string ⟨#[]⟩)).set 1 (.int .i64 0)).set 2 (.int .i64 0)).set 3 (.slice none 0 0)).set 4 (.bool false)).set 5 (.slice none 0 0)).set 6 (.slice none 0 0)
 refine bodyPost_ret (v:=T9 4) (Fg.mh Tryz.results10 _ _ M 25 z7.toArray (0,0) _ rfl zw Tryz.underlying25 rfl lN rfl) rfl ⟨rfl,aW kg Ua hMw⟩
end Gr
end
section
open Go.RowKit Ow
theorem LC {P:Program} (w:World) (d:Nat) {e:TypeId} {k:IntKind} (he:P.plainKey e=true) (hu:P.underlying e=some (.int k)) (f g:Nat->Int) (xs ys:Array Value) (is:List Nat)
    (hx:∀i∈is,xs[i*1]?=some (.int k (f i))) (hy:∀i∈is,ys[i*1]?=some (.int k (g i))):(Op.eqItems (d+1) e 1 xs ys is).run P w=.ok (is.all fun i=>f i==g i) w:=by
  induction is with
  | nil=>simp[Op.eqItems]
  | cons i r ih=>
    have h1:=run_part_plain w he (hx i (List.mem_cons_self ..))
    have h2:=run_part_plain w he (hy i (List.mem_cons_self ..))
    simp only[Op.eqItems,Sem.run_bind,h1,h2,Result.andThen_ok,run_equalIn_int w d e k k (f i) (g i) hu,List.all_cons]
    cases hfg:f i==g i
    . simp
    . simpa using ih (fun j hj=>hx j (List.mem_cons_of_mem _ hj)) (fun j hj=>hy j (List.mem_cons_of_mem _ hj))
theorem Je:∃i,Tryz.prog.info? 52=some i:=by
  cases h:Tryz.prog.info? 52 with
  | none=>exact absurd h (by
                               have:(Tryz.prog.info? 52).isSome=true:=by kernel_rfl
                               intro e;rw[e]at this;cases this)
  | some i=>exact⟨i,rfl⟩
theorem BK (x0 x1 x2 x3 y0 y1 y2 y3:Int) (w:World):
    (binOp .eql 99 (.agg #[.int .u64 x0,.int .u64 x1,.int .u64 x2,.int .u64 x3]) (.agg #[.int .u64 y0,.int .u64 y1,.int .u64 y2,.int .u64 y3])).run Tryz.prog w=.ok (.bool (x0==y0&&(x1==y1&&(x2==y2&&x3==y3)))) w:=by
  obtain⟨j,hj⟩:=Je
  have hc:Tryz.prog.cellsOf 52=1:=by kernel_rfl
  rw[run_eql_struct,run_equalIn_array w 9999 _ _ Tryz.underlying99 hj,hc,
    LC w 9998 (by kernel_rfl) Tryz.underlying52 (fun i=>[x0,x1,x2,x3].getD i 0) (fun i=>[y0,y1,y2,y3].getD i 0) _ _ _
      (fun i hi=>by
        have:=List.mem_range.1 hi
        obtain rfl|rfl|rfl|rfl:i=0\/i=1\/i=2\/i=3:=by omega
        all_goals rfl)
      (fun i hi=>by
        have:=List.mem_range.1 hi
        obtain rfl|rfl|rfl|rfl:i=0\/i=1\/i=2\/i=3:=by omega
        all_goals rfl)]
  simp[List.range,List.range.loop]
theorem LD (m n:Nat) (hm:m<2^256) (hn:n<2^256):
    (((Sc.bg m 0:Int)==(Sc.bg n 0:Int))&&(((Sc.bg m 1:Int)==(Sc.bg n 1:Int))&&(((Sc.bg m 2:Int)==(Sc.bg n 2:Int))&&((Sc.bg m 3:Int)==(Sc.bg n 3:Int)))))=decide (m=n):=by
  rw[Bool.eq_iff_iff]
  simp only[Bool.and_eq_true,beq_iff_eq,decide_eq_true_iff]
  constructor
  . rintro⟨h0,h1,h2,h3⟩
    rw[Sc.of4 m hm,Sc.of4 n hn]
    omega
  . rintro rfl;exact⟨rfl,rfl,rfl,rfl⟩
theorem xu (n j:Nat) (h:n<2^256) (hj:4<=j):Sc.bg n j=0:=by
  have h2:(2:Nat)^256<=2^(64*j):=Nat.pow_le_pow_right (by decide) (by omega)
  unfold Sc.bg
  rw[Nat.div_eq_of_lt (by omega)]
theorem Ub (R o cap:Nat):∀w,(Instr.arrayAt 99 (.slice (some ⟨R,o,none⟩) 4 cap)).run Tryz.prog w=.ok (.pointer (some ⟨R,o,none⟩)) w:=by
  intro w
  simp[Instr.arrayAt,run_underlying Tryz.underlying99]
set_option maxRecDepth 100000 in
set_option maxHeartbeats 1600000 in
theorem aaz (R m n:Nat) (T:TypeId) (tl:List Value) (w:World) (hm:m<2^256) (hn:n<2^256) (hb:aH w R T (uf m 8++tl)):
    Calls Tryz.prog 72 #[.pointer (some ⟨R,0,none⟩),jK n] w fun e w'=>e=.returned (.bool (decide (m=n)))/\w.grownBy w' none:=by
  have hb1:=hb.alloc (.cells #[wV n 0,wV n 1,wV n 2,wV n 3] 99)
  rw[ZQ]at hb1
  have hq:=LD m n hm hn
  have he:=BK (Sc.bg m 0) (Sc.bg m 1) (Sc.bg m 2) (Sc.bg m 3) (Sc.bg n 0) (Sc.bg n 1) (Sc.bg n 2) (Sc.bg n 3)
  rw[hq]at he
  clear hq
  have he0:=BK 0 0 0 0 0 0 0 0
  have z4:=xu m 4 hm (by decide)
  have z5:=xu m 5 hm (by decide)
  have z6:=xu m 6 hm (by decide)
  have z7:=xu m 7 hm (by decide)
  have c0:=hb1.cell (i:=0) rfl
  have c1:=hb1.cell (i:=1) rfl
  have c2:=hb1.cell (i:=2) rfl
  have c3:=hb1.cell (i:=3) rfl
  have c4:=hb1.cell (i:=4) rfl
  have c5:=hb1.cell (i:=5) rfl
  have c6:=hb1.cell (i:=6) rfl
  have c7:=hb1.cell (i:=7) rfl
  unfold wV jE at c0 c1 c2 c3 c4 c5 c6 c7
  rw[z4]at c4
  rw[z5]at c5
  rw[z6]at c6
  rw[z7]at c7
  clear z4 z5 z6 z7 hb hb1
  have hg:=av (ah w none) (.cells #[wV n 0,wV n 1,wV n 2,wV n 3] 99)
  have HG:=Lib.hid hg;clear hg
  have ha0:=Ub R 0 8
  have ha4:=Ub R 4 4
  unfold jK wV jE
  by_cases h:m=n
  . rw[decide_eq_true h]at he ⊢
    subst h
    have HG':Hid (w.grownBy (w.alloc (.cells #[.int .u64 (Sc.bg m 0:Int),.int .u64 (Sc.bg m 1:Int),.int .u64 (Sc.bg m 2:Int),.int .u64 (Sc.bg m 3:Int)] 99)) none):=HG
    clear HG
    go_enter Tryz.func72,Tryz.ntmps72
    go_wp2
    go_quiet (fail)
    go_wp2
    go_ret
    exact⟨rfl,iM HG'.out _⟩
  . rw[decide_eq_false h]at he ⊢
    have HG':Hid (w.grownBy (w.alloc (.cells #[.int .u64 (Sc.bg n 0:Int),.int .u64 (Sc.bg n 1:Int),.int .u64 (Sc.bg n 2:Int),.int .u64 (Sc.bg n 3:Int)] 99)) none):=HG
    clear HG
    go_enter Tryz.func72,Tryz.ntmps72
    go_wp2
    go_quiet (fail)
    go_wp2
    go_ret
    exact⟨rfl,iM HG'.out _⟩
end
section
open Go.RowKit Ow
set_option maxRecDepth 100000 in
set_option maxHeartbeats 1600000 in
theorem LG (cap B:Nat) (a:Option Addr) (l:List Nat) (w:World) (hl:l.length=32) (hP:BytesAt w B a cap l) (hT:oI w):
  Calls Tryz.prog 44 #[.slice a 32 cap] w fun e w'=>e=.returned (.bool (decide (num l<Sc.L)))/\w.grownBy w' none:=by
 have hN:=Nj l hP.byte (by omega)
 have Hu:=zF l hP.byte (by omega)
 have hB:=hP.lim
 have HP:=Lib.hid hP;clear hP
 have HT:=Lib.hid hT;clear hT
 have HL:=Lib.hid hl;clear hl
 have hb:=aH.new w nI 101
 have hg:=av (ah w none) (.cells nI.toArray 101)
 have hO:5<w.heap.size:=HT.out.lt
 have hb0:aH (w.alloc (.cells nI.toArray 101)) w.heap.size 101 ([.int .u64 0,.int .u64 0,.int .u64 0,.int .u64 0,.int .u64 0,.int .u64 0,.int .u64 0,.int .u64 0]++[.int .u64 0,.int .u64 0,.int .u64 0,.int .u64 0]):=hb
 have HB:=Lib.hid hb0;clear hb hb0
 have HG:=Lib.hid hg;clear hg
 have HN:=Lib.hid hN;clear hN
 have ahN:=Lib.hid Hu;clear Hu
 go_enter Tryz.func44,Tryz.ntmps44
 go_wp2_with fail
 refine (I6 w.heap.size 32 cap B _ _ _ a l _ HL.out (by omega) rfl (HP.out.stay HG.out) hB HB.out).mono ?_
 rintro e w1 ⟨rfl,hg1,hb1⟩
 have iA:=Lib.hid (aW HG.out hg1 (Nat.le_refl _));clear hg1
 have HB1:=Lib.hid hb1;clear hb1
 go_wp2_with fail
 refine (vw w.heap.size (num l) _ _ _ _ _ w1 HN.out (HT.out.kept iA.out (fun r e=>by cases e)) hO HB1.out).mono ?_
 rintro e w2 ⟨rfl,hg2,hb2⟩
 have HG2:=Lib.hid (aW iA.out hg2 (Nat.le_refl _));clear hg2
 have HB2:=Lib.hid hb2;clear hb2
 go_wp2_with fail
 refine (aaz w.heap.size (num l) (num l%Sc.L) _ _ w2 ahN.out (Sc.Yz _ (Sc.mod_lt _)) HB2.out).mono ?_
 rintro e w3 ⟨rfl,hg3⟩
 have gq:=Lib.hid (aj HG2.out hg3);clear hg3
 go_wp2
 go_ret
 refine⟨?_,gq.out⟩
 have e:decide (num l=num l%Sc.L)=decide (num l<Sc.L):=by
  rw[Bool.eq_iff_iff,decide_eq_true_iff,decide_eq_true_iff]
  constructor
  .intro h;rw[h];exact Sc.mod_lt _
  .intro h;rw[Nat.mod_eq_of_lt h]
 rw[<- e];rfl
end
section
open Go.RowKit Ow Ed
theorem yu {q u:Pr} (hq:On q) (hu:On u) (b:Bool) (k m:Nat):sel b (bD k q) (Ed.add u (bD m q))=Ed.add u (bD (m+k*b.toNat) q):=by
 cases b with
 | false=>rw[show m+k*false.toNat=m by simp];rfl
 | true=>
  rw[show m+k*true.toNat=m+k by simp,iX hq,<- add_assoc hu (dx hq _) (dx hq _)]
  rfl
theorem Uc {p v:Pr} (hp:On p) (hv:On v) (b:Bool) (k m:Nat):sel b (bD k p) (Ed.add (bD m p) v)=Ed.add (bD (m+k*b.toNat) p) v:=by
 rw[Ed.add_comm (bD m p) v,yu hp hv,Ed.add_comm]
theorem Xc {p q:Pr} (hp:On p) (hq:On q) (a b c e:Bool):sel e (bD 2 q) (sel c (bD 2 p) (sel b q (sel a p zero)))=Ed.add (bD (a.toNat+2*c.toNat) p) (bD (b.toNat+2*e.toNat) q):=by
 have h0:sel a p zero=Ed.add (bD a.toNat p) (bD 0 q):=by rw[IV hp];exact (add_zero (dx hp _)).symm
 have h1:=yu hq (dx hp a.toNat) b 1 0
 rw[wL hq]at h1
 rw[h0,h1,Uc hp (dx hq _),yu hq (dx hp _)]
 congr 2
 omega
def Ud (M N j:Nat):Bool:=if j%2=0 then decide (M/2^(j/2)%2=1) else decide (N/2^(j/2)%2=1)
theorem ahO (M N g:Nat):Ud M N (4*g)=decide (M/2^(2*g)%2=1):=by unfold Ud;rw[if_pos (by omega),show 4*g/2=2*g by omega]
theorem ahP (M N g:Nat):Ud M N (4*g+1)=decide (N/2^(2*g)%2=1):=by unfold Ud;rw[if_neg (by omega),show (4*g+1)/2=2*g by omega]
theorem ahQ (M N g:Nat):Ud M N (4*g+2)=decide (M/2^(2*g+1)%2=1):=by unfold Ud;rw[if_pos (by omega),show (4*g+2)/2=2*g+1 by omega]
theorem ahR (M N g:Nat):Ud M N (4*g+3)=decide (N/2^(2*g+1)%2=1):=by unfold Ud;rw[if_neg (by omega),show (4*g+3)/2=2*g+1 by omega]
theorem Jf (n g:Nat):(decide (n/2^(2*g)%2=1)).toNat+2*(decide (n/2^(2*g+1)%2=1)).toNat=n/2^(2*g)%4:=by
 have hd:∀x:Nat,(decide (x%2=1)).toNat=x%2:=fun x=>by
  rcases Nat.mod_two_eq_zero_or_one x with h|h<;>rw[h]<;>rfl
 simp only[hd,Nat.pow_add,<- Nat.div_div_eq_div_mul]
 generalize n/2^(2*g)=x
 omega
theorem Jg (n G k:Nat) (hk:k<G):n/2^(2*(G-(k+1)))=4*(n/2^(2*(G-k)))+n/2^(2*(G-1-k))%4:=by
 rw[show G-(k+1)=G-1-k by omega,show 2*(G-k)=2*(G-1-k)+2 by omega,Nat.pow_add,<- Nat.div_div_eq_div_mul]
 generalize n/2^(2*(G-1-k))=x
 omega
theorem Jh {p q:Pr} (hp:On p) (hq:On q) (M N G:Nat) (hM:M<2^(2*G)) (hN:N<2^(2*G)):∀k,k<=G->
  rG 2 (qY [p,q,bD 2 p,bD 2 q]) (gG (Ud M N) G k)=Ed.add (bD (M/2^(2*(G-k))) p) (bD (N/2^(2*(G-k))) q)
 | 0,_=>by
  rw[Nat.sub_zero,Nat.div_eq_of_lt hM,Nat.div_eq_of_lt hN]
  exact (add_zero pF).symm
 | k+1,hk=>by
  have ih:=Jh hp hq M N G hM hN k (by omega)
  rw[tF,qZ,ih,Bz 2 _ _ _ _ _ _ _ _ (sQ (dx hp _) (dx hq _)),Xc hp hq,ahO,ahP,ahQ,ahR,Jf,Jf,AP (dx hp _) (dx hq _),<- qA hp,<- qA hq,acp (dx hp _) (dx hq _) (dx hp _) (dx hq _),<- iX hp,<- iX hq,Jg M G k (by omega),Jg N G k (by omega),Nat.mul_comm 4,Nat.mul_comm 4]
end
section
open Go.RowKit Ow Go.Shelf
theorem Ue:∃z,Elt 4 111 1 z:=by
 obtain⟨i,z,hi,hz,hs,hb,hc⟩:=um
 exact⟨z,Tryz.underlying111,i,hi,hz,hs,hb,hc⟩
def Ji (x y:Nat->Bool):Nat->List Value
 | 0=>[]
 | k+1=>Ji x y k++[.bool (x k),.bool (y k)]
theorem pQ (x y:Nat->Bool):∀k,(Ji x y k).length=2*k
 | 0=>rfl
 | k+1=>by rw[Ji,List.length_append,pQ x y k];rfl
theorem Jj (x y:Nat->Bool):∀k j,j<2*k->(Ji x y k)[j]?=some (.bool (if j%2=0 then x (j/2) else y (j/2)))
 | 0,j,h=>by omega
 | k+1,j,h=>by
  rw[Ji]
  by_cases hj:j<2*k
  .rw[List.getElem?_append_left (by rw[pQ];exact hj)]
   exact Jj x y k j hj
  .rw[List.getElem?_append_right (by rw[pQ];omega),pQ]
   obtain rfl|rfl:j=2*k\/j=2*k+1:=by omega
   .rw[Nat.sub_self,if_pos (by omega),show 2*k/2=k by omega];rfl
   .rw[show 2*k+1-2*k=1 by omega,if_neg (by omega),show (2*k+1)/2=k by omega];rfl
set_option maxRecDepth 100000 in
set_option maxHeartbeats 3200000 in
theorem Xd (ga gb:Nat) (x y:Nat->Bool) (w0:World) (hga:ga<w0.heap.size) (hgb:gb<w0.heap.size) (HX:Hid (∀j,j<256->w0.cell? ⟨ga,j,none⟩=some (.bool (x j)))) (HY:Hid (∀j,j<256->w0.cell? ⟨gb,j,none⟩=some (.bool (y j)))):
  Calls Tryz.prog 75 #[.slice (some ⟨ga,0,none⟩) 256 256,.slice (some ⟨gb,0,none⟩) 256 256] w0 fun e w'=>∃g,e=.returned (.slice (some ⟨g,0,none⟩) 512 512)/\w0.grownBy w' none/\w0.heap.size<=g/\aH w' g 4 (Ji x y 256):=by
 obtain⟨i,z,hi,hz,hs,hb,hcc⟩:=um
 obtain⟨w1,hmk,ho1,hg1⟩:=run_make_own w0 w0.heap.size 111 4 i z 1 (P:=Tryz.prog) Tryz.underlying111 hi hz hs .i64 .i64 512 (by rw[hb];omega) (by unfold maxLen;omega) (Nat.le_refl _)
 have hmk':(Instr.makeSlice 111 (.int .i64 0) (.int .i64 512)).run Tryz.prog w0=.ok (.slice (some ⟨w0.heap.size,0,none⟩) 0 512) w1:=hmk
 clear hmk hi hz hs hb hcc
 obtain⟨z',hE⟩:=Ue
 have HS:=Lib.hid (And.intro ho1 hg1);clear ho1 hg1
 go_enter Tryz.func75,Tryz.ntmps75
 go_wp2
 clear hmk'
 go_loopw [5,15] (fun v5 i wr=>∃(k:Nat) (U:World),U=wr/\k<=256/\i=.int .i64 k/\v5=.slice (some ⟨w0.heap.size,0,none⟩) (2*k) 512/\w0.grownBy U none/\U.ownsRow w0.heap.size 4 1 (.slice (some ⟨w0.heap.size,0,none⟩) (2*k) 512) (2*k) (Ji x y k)) (fun _ i _=>256-(intOf i).toNat)
 case atStart=>exact⟨0,w1,rfl,by decide,rfl,rfl,HS.out.2,HS.out.1⟩
 case round=>
  clear HS
  obtain⟨k,U,rfl,hk,rfl,rfl,hg,ho⟩:=hrel
  by_cases Hu:k<256
  .have i0:(k:Int)<256:=by omega
   have HO:=Lib.hid (And.intro hg ho);clear hg ho
   go_upto_region 5 with (fail)
   obtain⟨G,ho⟩:=HO.out;clear HO
   have lI:=G.size
   refine Fg.rT [] [.any,.any,.any,.any,.any,.any,.any,.any,.any,.any,.any,.any,.any,.any,.any,.any,.any,.any,.val (Value.slice (some ⟨w0.heap.size,0,none⟩) (2*k) 512),.val (Value.slice (some ⟨ga,0,none⟩) 256 256),.val (Value.int .i64 (k:Int)),.val (Value.pointer (some ⟨ga,k,none⟩)),.val (Value.bool (x k)),.val (Value.slice (some ⟨gb,0,none⟩) 256 256),.val (Value.int .i64 (k:Int)),.val (Value.pointer (some ⟨gb,k,none⟩)),.val (Value.bool (y k)),.row 4 ([.bool (x k),.bool (y k)]) 2 U.heap.size] 10 ?_ ?_
   .refine Fg.vS rfl (by decide) (fun _ _ h=>Fg.vn _ (Fg.run_move rfl (h.r 5))) ?_
    refine Fg.vS rfl (by decide) (fun _ _ h=>Fg.vn _ (Fg.run_move rfl (h.r 0))) ?_
    refine Fg.vS rfl (by decide) (fun _ _ h=>Fg.vn _ (Fg.run_move rfl (h.r 6))) ?_
    refine Fg.vS rfl (by decide) (fun ac w h=>?_) ?_
    .have e19:_=Value.slice (some ⟨ga,0,none⟩) 256 256:=h.d 19
     have e20:_=Value.int .i64 (k:Int):=h.d 20
     refine⟨aB rfl,Value.pointer (some ⟨ga,k,none⟩),w,?_,ah _ _,rfl⟩
     clear h
     simp only[execOp,Act.eval,e19,e20]
     go_simp
    refine Fg.vS rfl (by decide) (fun ac w h=>?_) ?_
    .have e21:_=Value.pointer (some ⟨ga,k,none⟩):=h.d 21
     have hc:w.cell? ⟨ga,k,none⟩=some (.bool (x k)):=(bf (aj G h.base) (p:=⟨ga,k,none⟩) hga (by simp)).trans (HX.out k Hu)
     refine⟨aB rfl,Value.bool (x k),w,?_,ah _ _,rfl⟩
     clear h
     simp only[execOp,Act.eval,e21]
     go_simp
    refine Fg.vS rfl (by decide) (fun _ _ h=>Fg.vn _ (Fg.run_move rfl (h.r 1))) ?_
    refine Fg.vS rfl (by decide) (fun _ _ h=>Fg.vn _ (Fg.run_move rfl (h.r 6))) ?_
    refine Fg.vS rfl (by decide) (fun ac w h=>?_) ?_
    .have e23:_=Value.slice (some ⟨gb,0,none⟩) 256 256:=h.d 23
     have e24:_=Value.int .i64 (k:Int):=h.d 24
     refine⟨aB rfl,Value.pointer (some ⟨gb,k,none⟩),w,?_,ah _ _,rfl⟩
     clear h
     simp only[execOp,Act.eval,e23,e24]
     go_simp
    refine Fg.vS rfl (by decide) (fun ac w h=>?_) ?_
    .have e25:_=Value.pointer (some ⟨gb,k,none⟩):=h.d 25
     have hc:w.cell? ⟨gb,k,none⟩=some (.bool (y k)):=(bf (aj G h.base) (p:=⟨gb,k,none⟩) hgb (by simp)).trans (HY.out k Hu)
     refine⟨aB rfl,Value.bool (y k),w,?_,ah _ _,rfl⟩
     clear h
     simp only[execOp,Act.eval,e25]
     go_simp
    refine Fg.vS rfl (by decide) (fun ac w h=>?_) ?_
    .have e22:_=Value.bool (x k):=h.d 22
     have e26:_=Value.bool (y k):=h.d 26
     exact⟨aB rfl,.slice (some ⟨w.heap.size,0,none⟩) 2 2,w.alloc (.cells #[.bool (x k),.bool (y k)] 4),Fg.run_buildSlice (vs:=#[(0,Value.bool (x k)),(1,Value.bool (y k))]) rfl (by simp only[List.map_toArray,List.map_cons,List.map_nil,Act.eval,e22,e26]) (by kernel_rfl),World.grownBy_alloc _ _ _,⟨w.heap.size,rfl,h.base.size,aH.new w [.bool (x k),.bool (y k)] _⟩⟩
    trivial
   .intro qa V1 g1 hsz hdf hrest aC hpt
    obtain⟨⟨u16,dG⟩,⟨u17,eD⟩,⟨u19,eG⟩,⟨u20,dU⟩,⟨u21,eP⟩,⟨u22,eT⟩,⟨u23,dV⟩,⟨u24,dO⟩,⟨u25,eH⟩,⟨u26,eO⟩,_⟩:=Fg.bn qa [16,17,19,20,21,22,23,24,25,26]
    obtain⟨N27,fK,ahT,aea⟩:∃N,qa.tmps.getD 27 undef=.slice (some ⟨N,0,none⟩) 2 2/\U.heap.size<=N/\aH V1 N 4 ([.bool (x k),.bool (y k)]):=aC 27 (by kernel_rfl)
    obtain⟨u28,jd⟩:=Fg.bL qa 28
    obtain⟨u29,kD⟩:=Fg.bL qa 29
    obtain rfl:=Fg.aQ [16,17,18,19,20,21,22,23,24,25,26,27,28,29] (vs:=[_,_,_,_,_,_,_,_,_,_,_,_,_,_,_,_,u16,u17,Value.slice (some ⟨w0.heap.size,0,none⟩) (2*k) 512,u19,u20,u21,u22,u23,u24,u25,u26,Value.slice (some ⟨N27,0,none⟩) 2 2,u28,u29,_]) hsz hrest (by kernel_rfl) rfl rfl ⟨dG,eD,(show qa.tmps.getD 18 undef=Value.slice (some ⟨w0.heap.size,0,none⟩) (2*k) 512 from aC 18 (by kernel_rfl)),eG,dU,eP,eT,dV,dO,eH,eO,fK,jd,kD,trivial⟩ hdf
    clear hsz hdf hrest aC hpt dG eD eG dU eP eT dV dO eH eO fK jd kD
    replace G:=aj G g1
    have anl:w0.heap.size<=N27:=Nat.le_trans lI ahT
    skip
    obtain⟨_,w',hap,ho2,hg2⟩ |⟨hno,_⟩:=wm hE V1 w0.heap.size w0.heap.size (2*k) 512 (Ji x y k) (ho.kept g1 (Or.inr (by simp[Value.ownBlock]))) ⟨N27,0,none⟩ 2 2 [.bool (x k),.bool (y k)] rfl (fun j u hu=>by rw[Addr.add_mid,Nat.zero_add];exact aea.cell hu) (by intro u hu;simp at hu;rcases hu with rfl|rfl<;>rfl) (by omega) (by omega)
    .refine wpList_append_run rfl (.tmp 18) (.tmp 27) 111 rfl rfl _ _ rfl rfl _ _ hap ?_
     simp only[Act.put,List.setIfInBounds_toArray,List.set_cons_succ,List.set_cons_zero]
     refine Fg.aL (v:=.slice (some ⟨w0.heap.size,0,none⟩) (2*k+2) 512) (w':=w') rfl (Fg.run_assign rfl rfl) ?_
     refine wpList_nil ?_
     simp only[Act.put,List.setIfInBounds_toArray,List.set_cons_succ,List.set_cons_zero]
     have G2:=aW G hg2 (Nat.le_refl _)
     have HN:=Lib.hid (And.intro G2 ho2);clear G2 ho2 hg2 G ho hap aea
     go_wp2
     go_roundw
     all_goals first
      | exact⟨k+1,_,rfl,by omega,by go_num,rfl,HN.out.1,HN.out.2⟩
      | (simp[intOf];omega)
    .omega
  .have i0:¬(k:Int)<256:=by omega
   obtain rfl:k=256:=by omega
   have HN:=Lib.hid (And.intro hg ho);clear hg ho
   go_wp2
   go_ret
   obtain⟨hbk,_⟩:=EU HN.out.2
   exact⟨w0.heap.size,rfl,HN.out.1,Nat.le_refl _,hbk⟩
end
section
open Go.RowKit Ow Go.Shelf Ed
theorem LH {b b':Nat->Bool} (G:Nat) (h:∀j,j<4*G->b j=b' j):gG b G G=gG b' G G:=by
 unfold gG
 apply List.map_congr_left
 intro t ht
 have ht2:t<G:=List.mem_range.1 ht
 apply Subtype.ext
 show x9 b (G-1-t)=x9 b' (G-1-t)
 unfold x9
 rw[h (4*(G-1-t)+3) (by omega),h (4*(G-1-t)+2) (by omega),h (4*(G-1-t)+1) (by omega),h (4*(G-1-t)) (by omega)]
def ilB (l m:List Nat) (j:Nat):Bool:=if j%2=0 then ny (fun i=>l.getD i 0) (j/2) else ny (fun i=>m.getD i 0) (j/2)
theorem Xe (l m:List Nat) (hl:l.length=32) (hm:m.length=32) (hb:∀i,l.getD i 0<256) (hc:∀i,m.getD i 0<256) (j:Nat) (hj:j<4*128):ilB l m j=Ud (num l) (num m) j:=by
 unfold ilB Ud
 rw[uj l hl hb (j/2) (by omega),uj m hm hc (j/2) (by omega)]
theorem Xf {r q:Pr} (hr:On r) (hq:On q) (l m:List Nat) (hl:l.length=32) (hm:m.length=32) (hb:∀i,l.getD i 0<256) (hc:∀i,m.getD i 0<256):
  rG 2 (qY [r,q,Ed.add r r,Ed.add q q]) (gG (ilB l m) 128 128)=Ed.add (bD (num l) r) (bD (num m) q):=by
 have h2:Ed.add r r=bD 2 r:=(AO hr).symm
 have k2:Ed.add q q=bD 2 q:=(AO hq).symm
 have hM:num l<2^(2*128):=by have:=Bw l hb;rwa [hl]at this
 have hN:num m<2^(2*128):=by have:=Bw m hc;rwa [hm]at this
 rw[h2,k2,LH 128 (Xe l m hl hm hb hc),Jh hr hq (num l) (num m) 128 hM hN 128 (Nat.le_refl _),Nat.sub_self,Nat.mul_zero,Nat.pow_zero,Nat.div_one,Nat.div_one]
set_option maxRecDepth 100000 in
set_option maxHeartbeats 12800000 in
theorem aaA (p:Pt) (r:Pr) (la lb:List Nat) (ca cb Ba Bb:Nat) (aa ab:Option Addr) (w0:World) (HT0:eY w0) (hp:iO p r) (hla:la.length=32) (hlb:lb.length=32) (HPa:Hid (BytesAt w0 Ba aa ca la)) (HPb:Hid (BytesAt w0 Bb ab cb lb)):
  Calls Tryz.prog 46 #[.slice aa 32 ca,p.v,.slice ab 32 cb] w0 fun e w'=>MP (Ed.add (bD (num la) r) (bD (num lb) dA)) w0 e w':=by
 show Calls Tryz.prog 46 #[.slice aa 32 ca,.agg (aY p).toArray,.slice ab 32 cb] w0 _
 go_enter Tryz.func46,Tryz.ntmps46
 go_upto_region 1 with (fail)
 have G:w0.grownBy ((w0.alloc (.cells (aY p).toArray 56)).alloc (.cells bB.toArray 56)) none:=av (av (ah _ _) _) _
 have HT:eY ((w0.alloc (.cells (aY p).toArray 56)).alloc (.cells bB.toArray 56)):=HT0.grown (av (av (ah _ _) _) _)
 have hP:aH ((w0.alloc (.cells (aY p).toArray 56)).alloc (.cells bB.toArray 56)) (w0.heap.size) 56 (aY p):=(aH.new w0 (aY p) _).alloc _
 have hR:aH ((w0.alloc (.cells (aY p).toArray 56)).alloc (.cells bB.toArray 56)) (w0.heap.size+1) 56 bB:=aH.newAt (w0.alloc _) bB _ (by simp)
 revert G HT hP hR
 generalize (w0.alloc (.cells (aY p).toArray 56)).alloc (.cells bB.toArray 56)=W0
 intro G HT hP hR
 have Gs:=G.size
 go_upto_region 5 with (fail)
 have lI:=G.size
 have uz:=hP.lt
 have lG:=hR.lt
 refine Fg.rP [] [.any,.any,.any,.any,.any,.any,.any,.any,.any,.any,.any,.any,.any,.any,.any,.any,.any,.any,.any,.any,.val (Value.slice aa 32 ca),.row 4 ((je (fun i=>la.getD i 0) 256).map Value.bool) 256 W0.heap.size,.val (Value.slice ab 32 cb),.row 4 ((je (fun i=>lb.getD i 0) 256).map Value.bool) 256 W0.heap.size] 4 ?_ ?_
 .refine Fg.vS rfl (by decide) (fun _ _ h=>Fg.vn _ (Fg.run_move rfl (h.r 0))) ?_
  refine Fg.cS rfl (by decide) (fun ac w h=>?_) ?_
  .have e20:_=Value.slice aa 32 ca:=h.d 20
   refine⟨aB rfl,76,#[Value.slice aa 32 ca],Fg.aN rfl rfl (by simp only[List.map_toArray,List.map_cons,List.map_nil,Act.eval,e20]) (Fg.aI Tryz.func76 (by kernel_rfl) (by kernel_rfl)),?_⟩
   exact (BD ca Ba aa la _ hla (HPa.out.stay (aj G h.base))).mono fun _ _ ⟨NB,he,hg,hn,hb⟩=>⟨_,he,hg,⟨NB,rfl,Nat.le_trans h.base.size hn,hb⟩⟩
  refine Fg.vS rfl (by decide) (fun _ _ h=>Fg.vn _ (Fg.run_move rfl (h.r 2))) ?_
  refine Fg.cS rfl (by decide) (fun ac w h=>?_) ?_
  .have e22:_=Value.slice ab 32 cb:=h.d 22
   refine⟨aB rfl,76,#[Value.slice ab 32 cb],Fg.aN rfl rfl (by simp only[List.map_toArray,List.map_cons,List.map_nil,Act.eval,e22]) (Fg.aI Tryz.func76 (by kernel_rfl) (by kernel_rfl)),?_⟩
   exact (BD cb Bb ab lb _ hlb (HPb.out.stay (aj G h.base))).mono fun _ _ ⟨NB,he,hg,hn,hb⟩=>⟨_,he,hg,⟨NB,rfl,Nat.le_trans h.base.size hn,hb⟩⟩
  trivial
 .intro qa V1 g1 hsz hdf hrest aC hpt
  obtain⟨⟨u8,lC⟩,⟨u9,jD⟩,⟨u10,fM⟩,⟨u14,dw⟩,⟨u15,dM⟩,⟨u16,dG⟩,⟨u20,dU⟩,_⟩:=Fg.bn qa [8,9,10,14,15,16,20]
  obtain⟨N21,eP,ahU,vH⟩:∃N,qa.tmps.getD 21 undef=.slice (some ⟨N,0,none⟩) 256 256/\W0.heap.size<=N/\aH V1 N 4 ((je (fun i=>la.getD i 0) 256).map Value.bool):=aC 21 (by kernel_rfl)
  obtain⟨u22,eT⟩:=Fg.bL qa 22
  obtain⟨N23,dV,ahV,vI⟩:∃N,qa.tmps.getD 23 undef=.slice (some ⟨N,0,none⟩) 256 256/\W0.heap.size<=N/\aH V1 N 4 ((je (fun i=>lb.getD i 0) 256).map Value.bool):=aC 23 (by kernel_rfl)
  obtain rfl:=Fg.aQ [8,9,10,14,15,16,20,21,22,23] (vs:=[_,_,_,_,_,_,_,_,u8,u9,u10,_,_,_,u14,u15,u16,_,_,_,u20,Value.slice (some ⟨N21,0,none⟩) 256 256,u22,Value.slice (some ⟨N23,0,none⟩) 256 256,_,_,_,_,_,_,_,_,_,_]) hsz hrest (by kernel_rfl) rfl rfl ⟨lC,jD,fM,dw,dM,dG,dU,eP,eT,dV,trivial⟩ hdf
  clear hsz hdf hrest aC hpt lC jD fM dw dM dG dU eP eT dV
  replace hP:=hP.gn g1
  replace hR:=hR.gn g1
  replace G:=aj G g1
  replace HT:=HT.grown g1
  have anm:w0.heap.size<=N21:=Nat.le_trans lI ahU
  have ano:w0.heap.size<=N23:=Nat.le_trans lI ahV
  clear g1
  have CB:=hP.lt
  have qU:=hR.lt
  have ahW:=vH.lt
  have ahX:=vI.lt
  refine Fg.bP rfl (Fg.aN (vs:=#[.slice (some ⟨N21,0,none⟩) 256 256,.slice (some ⟨N23,0,none⟩) 256 256]) rfl rfl (by simp only[List.map_toArray,List.map_cons,List.map_nil,Act.eval];rfl) (Fg.aI Tryz.func75 (by kernel_rfl) (by kernel_rfl))) ?_
  refine (Xd N21 N23 (ny fun i=>la.getD i 0) (ny fun i=>lb.getD i 0) V1 vH.lt vI.lt (Lib.hid (fun j hj=>yh vH j hj)) (Lib.hid (fun j hj=>yh vI j hj))).mono ?_
  rintro e C5 ⟨g7,rfl,ga,VY,cZ⟩
  refine⟨_,rfl,?_⟩
  have hw7:w0.heap.size<=g7:=Nat.le_trans G.size VY
  replace hP:=hP.gn ga
  replace hR:=hR.gn ga
  replace vH:=vH.gn ga
  replace vI:=vI.gn ga
  replace G:=aj G ga
  replace HT:=HT.grown ga
  clear ga
  simp only[Act.put,List.setIfInBounds_toArray,List.set_cons_succ,List.set_cons_zero]
  refine Fg.aL (v:=.slice (some ⟨g7,0,none⟩) 512 512) (w':=C5) rfl (Fg.run_assign rfl rfl) ?_
  refine wpList_nil ?_
  simp only[Act.put,List.setIfInBounds_toArray,List.set_cons_succ,List.set_cons_zero]
  go_upto_region 6 with (fail)
  have Gs1:=G.size
  have He:=hP.lt
  have uy:=hR.lt
  have ahY:=vH.lt
  have ahZ:=vI.lt
  have yO:=cZ.lt
  refine Fg.rT [] [.any,.any,.any,.any,.any,.any,.any,.any,.any,.any,.any,.any,.any,.any,.any,.any,.any,.any,.any,.any,.any,.any,.any,.any,.any,.val (Value.slice (some ⟨g7,0,none⟩) 512 512),.val (p.v),.val (fD.v),.val (p.v),.val ((kP p).v),.val (fD.v),.val ((kP fD).v),.row 56 (iY [p,fD,kP p,kP fD]) 4 C5.heap.size] 8 ?_ ?_
  .refine Fg.vS rfl (by decide) (fun _ _ h=>Fg.vn _ (Fg.run_move rfl (h.r 7))) ?_
   refine Fg.vS rfl (by decide) (fun _ _ h=>Fg.vn p.v (Fg.run_load rfl (h.r 4) ((hP.gn h.base).range 0 (aY p) rfl) Tryz.underlying56 rfl aP)) ?_
   refine Fg.cS rfl (by decide) (fun ac w h=>?_) ?_
   .refine⟨aB rfl,64,#[],Fg.aN rfl rfl (by simp) (Fg.aI Tryz.func64 (by kernel_rfl) (by kernel_rfl)),?_⟩
    exact (KZ _ (HT.grown h.base)).mono fun _ _ ⟨he,hg⟩=>⟨_,he,hg,rfl⟩
   refine Fg.vS rfl (by decide) (fun _ _ h=>Fg.vn p.v (Fg.run_load rfl (h.r 4) ((hP.gn h.base).range 0 (aY p) rfl) Tryz.underlying56 rfl aP)) ?_
   refine Fg.cS rfl (by decide) (fun _ w h=>Fg.cq rfl (Iq p _ _ (HT.grown h.base) hp) ⟨h.d 28,trivial⟩ Tryz.func78) ?_
   refine Fg.cS rfl (by decide) (fun ac w h=>?_) ?_
   .refine⟨aB rfl,64,#[],Fg.aN rfl rfl (by simp) (Fg.aI Tryz.func64 (by kernel_rfl) (by kernel_rfl)),?_⟩
    exact (KZ _ (HT.grown h.base)).mono fun _ _ ⟨he,hg⟩=>⟨_,he,hg,rfl⟩
   refine Fg.cS rfl (by decide) (fun _ w h=>Fg.cq rfl (Iq fD _ _ (HT.grown h.base) EB) ⟨h.d 30,trivial⟩ Tryz.func78) ?_
   refine Fg.vS rfl (by decide) (fun ac w h=>?_) ?_
   .have e26:_=p.v:=h.d 26
    have e27:_=fD.v:=h.d 27
    have e29:_=(kP p).v:=h.d 29
    have e31:_=(kP fD).v:=h.d 31
    exact⟨aB rfl,.slice (some ⟨w.heap.size,0,none⟩) 4 4,w.alloc (.cells (iY [p,fD,kP p,kP fD]).toArray 56),Fg.run_buildSlice (vs:=#[(0,p.v),(1,fD.v),(2,(kP p).v),(3,(kP fD).v)]) rfl (by simp only[List.map_toArray,List.map_cons,List.map_nil,Act.eval,e26,e27,e29,e31]) (by kernel_rfl),World.grownBy_alloc _ _ _,⟨w.heap.size,rfl,h.base.size,aH.new w (iY [p,fD,kP p,kP fD]) _⟩⟩
   trivial
  .intro qa V2 g2 hsz hdf hrest aC hpt
   obtain⟨⟨u20,dU⟩,⟨u21,eP⟩,⟨u22,eT⟩,⟨u23,dV⟩,⟨u24,dO⟩,⟨u26,eO⟩,⟨u27,fK⟩,⟨u28,jd⟩,⟨u29,kD⟩,⟨u30,iP⟩,⟨u31,gL⟩,_⟩:=Fg.bn qa [20,21,22,23,24,26,27,28,29,30,31]
   obtain⟨N32,jR,hn32,Jk⟩:∃N,qa.tmps.getD 32 undef=.slice (some ⟨N,0,none⟩) 4 4/\C5.heap.size<=N/\aH V2 N 56 (iY [p,fD,kP p,kP fD]):=aC 32 (by kernel_rfl)
   obtain rfl:=Fg.aQ [20,21,22,23,24,25,26,27,28,29,30,31,32] (vs:=[_,_,_,_,_,_,_,_,_,_,_,_,_,_,_,_,_,_,_,_,u20,u21,u22,u23,u24,Value.slice (some ⟨g7,0,none⟩) 512 512,u26,u27,u28,u29,u30,u31,Value.slice (some ⟨N32,0,none⟩) 4 4,_]) hsz hrest (by kernel_rfl) rfl rfl ⟨dU,eP,eT,dV,dO,(show qa.tmps.getD 25 undef=Value.slice (some ⟨g7,0,none⟩) 512 512 from aC 25 (by kernel_rfl)),eO,fK,jd,kD,iP,gL,jR,trivial⟩ hdf
   clear hsz hdf hrest aC hpt dU eP eT dV dO eO fK jd kD iP gL jR
   replace hP:=hP.gn g2
   replace hR:=hR.gn g2
   replace vH:=vH.gn g2
   replace vI:=vI.gn g2
   replace cZ:=cZ.gn g2
   replace G:=aj G g2
   replace HT:=HT.grown g2
   have hw32:w0.heap.size<=N32:=Nat.le_trans Gs1 hn32
   clear g2
   have ac2:=hP.lt
   have KR:=hR.lt
   have ah0:=vH.lt
   have ah1:=vI.lt
   have DJ:=cZ.lt
   have ah2:=Jk.lt
   refine Fg.bP rfl (Fg.aN (vs:=#[.int .i64 2,.slice (some ⟨g7,0,none⟩) 512 512,.slice (some ⟨N32,0,none⟩) 4 4]) rfl rfl (by simp only[List.map_toArray,List.map_cons,List.map_nil,Act.eval];rfl) (Fg.aI Tryz.func77 (by kernel_rfl) (by kernel_rfl))) ?_
   refine (Bq 2 N32 g7 512 128 [p,fD,kP p,kP fD] [r,dA,Ed.add r r,Ed.add dA dA] [] (ilB la lb) V2 HT (by decide) rfl (by decide) (by decide) rfl (Nl hp EB (Ip hp) (Ip EB)) (by rw[List.append_nil];exact Jk) cZ.lt (fun j hj=>cZ.cell (Jj _ _ 256 j (by omega)))).mono ?_
   rintro e C9 ⟨t9,FI,rfl,gc⟩
   refine⟨_,rfl,?_⟩
   rw[Xf hp.on jV la lb hla hlb HPa.out.byte HPb.out.byte]at FI
   have ZX:=Lib.hid FI;clear FI
   replace hP:=hP.gn gc
   replace hR:=hR.gn gc
   replace vH:=vH.gn gc
   replace vI:=vI.gn gc
   replace cZ:=cZ.gn gc
   replace Jk:=Jk.gn gc
   replace G:=aj G gc
   replace HT:=HT.grown gc
   clear gc
   refine Fg.aV rfl rfl (Fg.run_store (cs:=aY t9) rfl rfl rfl (hR.there 0 20 (by show 0+20<=20;decide)) aP (gJ _)) ?_
   replace hP:=hP.au (C:=(w0.heap.size+1)) (cs:=aY t9) 0 (by omega)
   replace hR:aH (C9.setCells (w0.heap.size+1) 0 (aY t9)) (w0.heap.size+1) 56 (aY t9):=hR.bC rfl
   replace vH:=vH.au (C:=(w0.heap.size+1)) (cs:=aY t9) 0 (by omega)
   replace vI:=vI.au (C:=(w0.heap.size+1)) (cs:=aY t9) 0 (by omega)
   replace cZ:=cZ.au (C:=(w0.heap.size+1)) (cs:=aY t9) 0 (by omega)
   replace Jk:=Jk.au (C:=(w0.heap.size+1)) (cs:=aY t9) 0 (by omega)
   replace G:=aG (cs:=aY t9) G (B:=(w0.heap.size+1)) (by omega) 0
   replace HT:=HT.keep (aK (cs:=aY t9) (ah _ (some (w0.heap.size+1))) 0) (HT0.jW (by omega))
   revert hP hR vH vI cZ Jk G HT
   generalize C9.setCells (w0.heap.size+1) 0 (aY t9)=W3
   intro hP hR vH vI cZ Jk G HT
   go_wp2_with fail
   exact bodyPost_ret (v:=t9.v) (results_cell_row Tryz.results46 _ _ (w0.heap.size+1) 56 (aY t9).toArray (0,0) _ rfl hR Tryz.underlying56 rfl aP) rfl ⟨t9,ZX.out,rfl,G⟩
end
section
open Go.RowKit Ed
def sx (p q:Pt):Bool:=decide (Fe.m (Fe.aM p.X q.Z)=Fe.m (Fe.aM q.X p.Z))
def sy (p q:Pt):Bool:=decide (Fe.m (Fe.aM p.Y q.Z)=Fe.m (Fe.aM q.Y p.Z))
set_option maxRecDepth 100000 in
set_option maxHeartbeats 3200000 in
theorem Xg (p q:Pt) (w0:World) (iW:p.Ok) (kS:q.Ok) (h1:sx p q=true) (h2:sy p q=true):
  Calls Tryz.prog 45 #[p.v,q.v] w0 fun e w'=>e=.returned (.bool true)/\w0.grownBy w' none:=by
 show Calls Tryz.prog 45 #[.agg (aY p).toArray,.agg (aY q).toArray] w0 _
 go_enter Tryz.func45,Tryz.ntmps45
 go_upto_region 1 with (fail)
 have G:w0.grownBy ((w0.alloc (.cells (aY p).toArray 56)).alloc (.cells (aY q).toArray 56)) none:=av (av (ah _ _) _) _
 have hP:aH ((w0.alloc (.cells (aY p).toArray 56)).alloc (.cells (aY q).toArray 56)) (w0.heap.size) 56 (aY p):=(aH.new w0 (aY p) _).alloc _
 have hQ:aH ((w0.alloc (.cells (aY p).toArray 56)).alloc (.cells (aY q).toArray 56)) (w0.heap.size+1) 56 (aY q):=aH.newAt (w0.alloc _) (aY q) _ (by simp)
 revert G hP hQ
 generalize (w0.alloc (.cells (aY p).toArray 56)).alloc (.cells (aY q).toArray 56)=W0
 intro G hP hQ
 have Gs:=G.size
 have lI:=G.size
 have uz:=hP.lt
 have ZU:=hQ.lt
 refine Fg.rT [] [.any,.any,.any,.any,.val (Value.bool true),.val (Value.pointer (some ⟨w0.heap.size,0,none⟩)),.val (p.X.v),.val (Value.pointer (some ⟨w0.heap.size+1,10,none⟩)),.val (q.Z.v),.val ((Fe.aM p.X q.Z).v),.val (Value.pointer (some ⟨w0.heap.size+1,0,none⟩)),.val (q.X.v),.val (Value.pointer (some ⟨w0.heap.size,10,none⟩)),.val (p.Z.v),.val ((Fe.aM q.X p.Z).v),.val (Value.bool true),.val (Value.bool true),.val (Value.pointer (some ⟨w0.heap.size,5,none⟩)),.val (p.Y.v),.val (Value.pointer (some ⟨w0.heap.size+1,10,none⟩)),.val (q.Z.v),.val ((Fe.aM p.Y q.Z).v),.val (Value.pointer (some ⟨w0.heap.size+1,5,none⟩)),.val (q.Y.v),.val (Value.pointer (some ⟨w0.heap.size,10,none⟩)),.val (p.Z.v),.val ((Fe.aM q.Y p.Z).v),.val (Value.bool true),.val (Value.bool true)] 25 ?_ ?_
 .refine Fg.vS rfl (by decide) (fun _ _ h=>Fg.vn _ (Fg.aF rfl (h.r 2) (fu _ _ _))) ?_
  refine Fg.vS rfl (by decide) (fun _ _ h=>Fg.vn p.X.v (Fg.run_load rfl (h.d 5) ((hP.gn h.base).range 0 (aR p.X) rfl) Tryz.underlying54 rfl aD)) ?_
  refine Fg.vS rfl (by decide) (fun _ _ h=>Fg.vn _ (Fg.aF rfl (h.r 3) (fA _ _ _))) ?_
  refine Fg.vS rfl (by decide) (fun _ _ h=>Fg.vn q.Z.v (Fg.run_load rfl (h.d 7) ((hQ.gn h.base).range 10 (aR q.Z) rfl) Tryz.underlying54 rfl aD)) ?_
  refine Fg.cS rfl (by decide) (fun _ w h=>Fg.cq rfl (jk iW.X kS.Z) ⟨h.d 6,h.d 8,trivial⟩ Tryz.func74) ?_
  refine Fg.vS rfl (by decide) (fun _ _ h=>Fg.vn _ (Fg.aF rfl (h.r 3) (fu _ _ _))) ?_
  refine Fg.vS rfl (by decide) (fun _ _ h=>Fg.vn q.X.v (Fg.run_load rfl (h.d 10) ((hQ.gn h.base).range 0 (aR q.X) rfl) Tryz.underlying54 rfl aD)) ?_
  refine Fg.vS rfl (by decide) (fun _ _ h=>Fg.vn _ (Fg.aF rfl (h.r 2) (fA _ _ _))) ?_
  refine Fg.vS rfl (by decide) (fun _ _ h=>Fg.vn p.Z.v (Fg.run_load rfl (h.d 12) ((hP.gn h.base).range 10 (aR p.Z) rfl) Tryz.underlying54 rfl aD)) ?_
  refine Fg.cS rfl (by decide) (fun _ w h=>Fg.cq rfl (jk kS.X iW.Z) ⟨h.d 11,h.d 13,trivial⟩ Tryz.func74) ?_
  refine Fg.cS rfl (by decide) (fun _ w h=>Fg.cq rfl (AX (Fe.mul_right _ _).ok (Fe.mul_right _ _).ok h1) ⟨h.d 9,h.d 14,trivial⟩ Tryz.func73) ?_
  refine Fg.vS rfl (by decide) (fun _ _ h=>Fg.vn _ (Fg.run_move rfl (h.d 15))) ?_
  refine Fg.vS rfl (by decide) (fun ac w h=>?_) ?_
  .have e16:_=Value.bool true:=h.d 16
   have e2:_=Value.pointer (some ⟨w0.heap.size,0,none⟩):=h.r 2
   exact Fg.vx (Value.pointer (some ⟨w0.heap.size,5,none⟩)) (aS (d:=16) rfl rfl (by rw[h.size];show 16<29;decide) e16) (Fg.aF rfl e2 (iy _ _ _))
  refine Fg.vS rfl (by decide) (fun ac w h=>?_) ?_
  .have e16:_=Value.bool true:=h.d 16
   have e17:_=Value.pointer (some ⟨w0.heap.size,5,none⟩):=h.d 17
   exact Fg.vx p.Y.v (aS (d:=16) rfl rfl (by rw[h.size];show 16<29;decide) e16) (Fg.run_load rfl e17 ((hP.gn h.base).range 5 (aR p.Y) rfl) Tryz.underlying54 rfl aD)
  refine Fg.vS rfl (by decide) (fun ac w h=>?_) ?_
  .have e16:_=Value.bool true:=h.d 16
   have e3:_=Value.pointer (some ⟨w0.heap.size+1,0,none⟩):=h.r 3
   exact Fg.vx (Value.pointer (some ⟨w0.heap.size+1,10,none⟩)) (aS (d:=16) rfl rfl (by rw[h.size];show 16<29;decide) e16) (Fg.aF rfl e3 (fA _ _ _))
  refine Fg.vS rfl (by decide) (fun ac w h=>?_) ?_
  .have e16:_=Value.bool true:=h.d 16
   have e19:_=Value.pointer (some ⟨w0.heap.size+1,10,none⟩):=h.d 19
   exact Fg.vx q.Z.v (aS (d:=16) rfl rfl (by rw[h.size];show 16<29;decide) e16) (Fg.run_load rfl e19 ((hQ.gn h.base).range 10 (aR q.Z) rfl) Tryz.underlying54 rfl aD)
  refine Fg.cS rfl (by decide) (fun _ w h=>Fg.cz rfl (aS (d:=16) rfl rfl (by rw[h.size];show 16<29;decide) (h.d 16)) (jk iW.Y kS.Z) ⟨h.d 18,h.d 20,trivial⟩ Tryz.func74) ?_
  refine Fg.vS rfl (by decide) (fun ac w h=>?_) ?_
  .have e16:_=Value.bool true:=h.d 16
   have e3:_=Value.pointer (some ⟨w0.heap.size+1,0,none⟩):=h.r 3
   exact Fg.vx (Value.pointer (some ⟨w0.heap.size+1,5,none⟩)) (aS (d:=16) rfl rfl (by rw[h.size];show 16<29;decide) e16) (Fg.aF rfl e3 (iy _ _ _))
  refine Fg.vS rfl (by decide) (fun ac w h=>?_) ?_
  .have e16:_=Value.bool true:=h.d 16
   have e22:_=Value.pointer (some ⟨w0.heap.size+1,5,none⟩):=h.d 22
   exact Fg.vx q.Y.v (aS (d:=16) rfl rfl (by rw[h.size];show 16<29;decide) e16) (Fg.run_load rfl e22 ((hQ.gn h.base).range 5 (aR q.Y) rfl) Tryz.underlying54 rfl aD)
  refine Fg.vS rfl (by decide) (fun ac w h=>?_) ?_
  .have e16:_=Value.bool true:=h.d 16
   have e2:_=Value.pointer (some ⟨w0.heap.size,0,none⟩):=h.r 2
   exact Fg.vx (Value.pointer (some ⟨w0.heap.size,10,none⟩)) (aS (d:=16) rfl rfl (by rw[h.size];show 16<29;decide) e16) (Fg.aF rfl e2 (fA _ _ _))
  refine Fg.vS rfl (by decide) (fun ac w h=>?_) ?_
  .have e16:_=Value.bool true:=h.d 16
   have e24:_=Value.pointer (some ⟨w0.heap.size,10,none⟩):=h.d 24
   exact Fg.vx p.Z.v (aS (d:=16) rfl rfl (by rw[h.size];show 16<29;decide) e16) (Fg.run_load rfl e24 ((hP.gn h.base).range 10 (aR p.Z) rfl) Tryz.underlying54 rfl aD)
  refine Fg.cS rfl (by decide) (fun _ w h=>Fg.cz rfl (aS (d:=16) rfl rfl (by rw[h.size];show 16<29;decide) (h.d 16)) (jk kS.Y iW.Z) ⟨h.d 23,h.d 25,trivial⟩ Tryz.func74) ?_
  refine Fg.cS rfl (by decide) (fun _ w h=>Fg.cz rfl (aS (d:=16) rfl rfl (by rw[h.size];show 16<29;decide) (h.d 16)) (AX (Fe.mul_right _ _).ok (Fe.mul_right _ _).ok h2) ⟨h.d 21,h.d 26,trivial⟩ Tryz.func73) ?_
  refine Fg.vS rfl (by decide) (fun ac w h=>?_) ?_
  .have e16:_=Value.bool true:=h.d 16
   have e27:_=Value.bool true:=h.d 27
   refine⟨aB rfl,Value.bool true,w,?_,ah _ _,rfl⟩
   clear h
   simp only[execOp,Act.eval,e16,e27]
   go_simp
  refine Fg.vS rfl (by decide) (fun _ _ h=>Fg.vn _ (Fg.run_assign rfl (h.d 28))) ?_
  trivial
 .intro qa V1 g1 hsz hdf hrest aC hpt
  obtain⟨⟨u5,hs5⟩,⟨u6,hs6⟩,⟨u7,hs7⟩,⟨u8,lC⟩,⟨u9,jD⟩,⟨u10,fM⟩,⟨u11,d9⟩,⟨u12,fJ⟩,⟨u13,dL⟩,⟨u14,dw⟩,⟨u15,dM⟩,⟨u16,dG⟩,⟨u17,eD⟩,⟨u18,eF⟩,⟨u19,eG⟩,⟨u20,dU⟩,⟨u21,eP⟩,⟨u22,eT⟩,⟨u23,dV⟩,⟨u24,dO⟩,⟨u25,eH⟩,⟨u26,eO⟩,⟨u27,fK⟩,⟨u28,jd⟩,_⟩:=Fg.bn qa [5,6,7,8,9,10,11,12,13,14,15,16,17,18,19,20,21,22,23,24,25,26,27,28]
  obtain rfl:=Fg.aQ [4,5,6,7,8,9,10,11,12,13,14,15,16,17,18,19,20,21,22,23,24,25,26,27,28] (vs:=[_,_,_,_,Value.bool true,u5,u6,u7,u8,u9,u10,u11,u12,u13,u14,u15,u16,u17,u18,u19,u20,u21,u22,u23,u24,u25,u26,u27,u28]) hsz hrest (by kernel_rfl) rfl rfl ⟨(show qa.tmps.getD 4 undef=Value.bool true from aC 4 (by kernel_rfl)),hs5,hs6,hs7,lC,jD,fM,d9,fJ,dL,dw,dM,dG,eD,eF,eG,dU,eP,eT,dV,dO,eH,eO,fK,jd,trivial⟩ hdf
  clear hsz hdf hrest aC hpt hs5 hs6 hs7 lC jD fM d9 fJ dL dw dM dG eD eF eG dU eP eT dV dO eH eO fK jd
  replace hP:=hP.gn g1
  replace hQ:=hQ.gn g1
  replace G:=aj G g1
  clear g1
  go_wp2_with fail
  go_ret
  exact⟨rfl,G⟩
set_option maxRecDepth 100000 in
set_option maxHeartbeats 3200000 in
theorem Xh (p q:Pt) (w0:World) (iW:p.Ok) (kS:q.Ok) (h1:sx p q=true) (h2:sy p q=false):
  Calls Tryz.prog 45 #[p.v,q.v] w0 fun e w'=>e=.returned (.bool false)/\w0.grownBy w' none:=by
 show Calls Tryz.prog 45 #[.agg (aY p).toArray,.agg (aY q).toArray] w0 _
 go_enter Tryz.func45,Tryz.ntmps45
 go_upto_region 1 with (fail)
 have G:w0.grownBy ((w0.alloc (.cells (aY p).toArray 56)).alloc (.cells (aY q).toArray 56)) none:=av (av (ah _ _) _) _
 have hP:aH ((w0.alloc (.cells (aY p).toArray 56)).alloc (.cells (aY q).toArray 56)) (w0.heap.size) 56 (aY p):=(aH.new w0 (aY p) _).alloc _
 have hQ:aH ((w0.alloc (.cells (aY p).toArray 56)).alloc (.cells (aY q).toArray 56)) (w0.heap.size+1) 56 (aY q):=aH.newAt (w0.alloc _) (aY q) _ (by simp)
 revert G hP hQ
 generalize (w0.alloc (.cells (aY p).toArray 56)).alloc (.cells (aY q).toArray 56)=W0
 intro G hP hQ
 have Gs:=G.size
 have lI:=G.size
 have uz:=hP.lt
 have ZU:=hQ.lt
 refine Fg.rT [] [.any,.any,.any,.any,.val (Value.bool false),.val (Value.pointer (some ⟨w0.heap.size,0,none⟩)),.val (p.X.v),.val (Value.pointer (some ⟨w0.heap.size+1,10,none⟩)),.val (q.Z.v),.val ((Fe.aM p.X q.Z).v),.val (Value.pointer (some ⟨w0.heap.size+1,0,none⟩)),.val (q.X.v),.val (Value.pointer (some ⟨w0.heap.size,10,none⟩)),.val (p.Z.v),.val ((Fe.aM q.X p.Z).v),.val (Value.bool true),.val (Value.bool true),.val (Value.pointer (some ⟨w0.heap.size,5,none⟩)),.val (p.Y.v),.val (Value.pointer (some ⟨w0.heap.size+1,10,none⟩)),.val (q.Z.v),.val ((Fe.aM p.Y q.Z).v),.val (Value.pointer (some ⟨w0.heap.size+1,5,none⟩)),.val (q.Y.v),.val (Value.pointer (some ⟨w0.heap.size,10,none⟩)),.val (p.Z.v),.val ((Fe.aM q.Y p.Z).v),.val (Value.bool false),.val (Value.bool false)] 25 ?_ ?_
 .refine Fg.vS rfl (by decide) (fun _ _ h=>Fg.vn _ (Fg.aF rfl (h.r 2) (fu _ _ _))) ?_
  refine Fg.vS rfl (by decide) (fun _ _ h=>Fg.vn p.X.v (Fg.run_load rfl (h.d 5) ((hP.gn h.base).range 0 (aR p.X) rfl) Tryz.underlying54 rfl aD)) ?_
  refine Fg.vS rfl (by decide) (fun _ _ h=>Fg.vn _ (Fg.aF rfl (h.r 3) (fA _ _ _))) ?_
  refine Fg.vS rfl (by decide) (fun _ _ h=>Fg.vn q.Z.v (Fg.run_load rfl (h.d 7) ((hQ.gn h.base).range 10 (aR q.Z) rfl) Tryz.underlying54 rfl aD)) ?_
  refine Fg.cS rfl (by decide) (fun _ w h=>Fg.cq rfl (jk iW.X kS.Z) ⟨h.d 6,h.d 8,trivial⟩ Tryz.func74) ?_
  refine Fg.vS rfl (by decide) (fun _ _ h=>Fg.vn _ (Fg.aF rfl (h.r 3) (fu _ _ _))) ?_
  refine Fg.vS rfl (by decide) (fun _ _ h=>Fg.vn q.X.v (Fg.run_load rfl (h.d 10) ((hQ.gn h.base).range 0 (aR q.X) rfl) Tryz.underlying54 rfl aD)) ?_
  refine Fg.vS rfl (by decide) (fun _ _ h=>Fg.vn _ (Fg.aF rfl (h.r 2) (fA _ _ _))) ?_
  refine Fg.vS rfl (by decide) (fun _ _ h=>Fg.vn p.Z.v (Fg.run_load rfl (h.d 12) ((hP.gn h.base).range 10 (aR p.Z) rfl) Tryz.underlying54 rfl aD)) ?_
  refine Fg.cS rfl (by decide) (fun _ w h=>Fg.cq rfl (jk kS.X iW.Z) ⟨h.d 11,h.d 13,trivial⟩ Tryz.func74) ?_
  refine Fg.cS rfl (by decide) (fun _ w h=>Fg.cq rfl (AX (Fe.mul_right _ _).ok (Fe.mul_right _ _).ok h1) ⟨h.d 9,h.d 14,trivial⟩ Tryz.func73) ?_
  refine Fg.vS rfl (by decide) (fun _ _ h=>Fg.vn _ (Fg.run_move rfl (h.d 15))) ?_
  refine Fg.vS rfl (by decide) (fun ac w h=>?_) ?_
  .have e16:_=Value.bool true:=h.d 16
   have e2:_=Value.pointer (some ⟨w0.heap.size,0,none⟩):=h.r 2
   exact Fg.vx (Value.pointer (some ⟨w0.heap.size,5,none⟩)) (aS (d:=16) rfl rfl (by rw[h.size];show 16<29;decide) e16) (Fg.aF rfl e2 (iy _ _ _))
  refine Fg.vS rfl (by decide) (fun ac w h=>?_) ?_
  .have e16:_=Value.bool true:=h.d 16
   have e17:_=Value.pointer (some ⟨w0.heap.size,5,none⟩):=h.d 17
   exact Fg.vx p.Y.v (aS (d:=16) rfl rfl (by rw[h.size];show 16<29;decide) e16) (Fg.run_load rfl e17 ((hP.gn h.base).range 5 (aR p.Y) rfl) Tryz.underlying54 rfl aD)
  refine Fg.vS rfl (by decide) (fun ac w h=>?_) ?_
  .have e16:_=Value.bool true:=h.d 16
   have e3:_=Value.pointer (some ⟨w0.heap.size+1,0,none⟩):=h.r 3
   exact Fg.vx (Value.pointer (some ⟨w0.heap.size+1,10,none⟩)) (aS (d:=16) rfl rfl (by rw[h.size];show 16<29;decide) e16) (Fg.aF rfl e3 (fA _ _ _))
  refine Fg.vS rfl (by decide) (fun ac w h=>?_) ?_
  .have e16:_=Value.bool true:=h.d 16
   have e19:_=Value.pointer (some ⟨w0.heap.size+1,10,none⟩):=h.d 19
   exact Fg.vx q.Z.v (aS (d:=16) rfl rfl (by rw[h.size];show 16<29;decide) e16) (Fg.run_load rfl e19 ((hQ.gn h.base).range 10 (aR q.Z) rfl) Tryz.underlying54 rfl aD)
  refine Fg.cS rfl (by decide) (fun _ w h=>Fg.cz rfl (aS (d:=16) rfl rfl (by rw[h.size];show 16<29;decide) (h.d 16)) (jk iW.Y kS.Z) ⟨h.d 18,h.d 20,trivial⟩ Tryz.func74) ?_
  refine Fg.vS rfl (by decide) (fun ac w h=>?_) ?_
  .have e16:_=Value.bool true:=h.d 16
   have e3:_=Value.pointer (some ⟨w0.heap.size+1,0,none⟩):=h.r 3
   exact Fg.vx (Value.pointer (some ⟨w0.heap.size+1,5,none⟩)) (aS (d:=16) rfl rfl (by rw[h.size];show 16<29;decide) e16) (Fg.aF rfl e3 (iy _ _ _))
  refine Fg.vS rfl (by decide) (fun ac w h=>?_) ?_
  .have e16:_=Value.bool true:=h.d 16
   have e22:_=Value.pointer (some ⟨w0.heap.size+1,5,none⟩):=h.d 22
   exact Fg.vx q.Y.v (aS (d:=16) rfl rfl (by rw[h.size];show 16<29;decide) e16) (Fg.run_load rfl e22 ((hQ.gn h.base).range 5 (aR q.Y) rfl) Tryz.underlying54 rfl aD)
  refine Fg.vS rfl (by decide) (fun ac w h=>?_) ?_
  .have e16:_=Value.bool true:=h.d 16
   have e2:_=Value.pointer (some ⟨w0.heap.size,0,none⟩):=h.r 2
   exact Fg.vx (Value.pointer (some ⟨w0.heap.size,10,none⟩)) (aS (d:=16) rfl rfl (by rw[h.size];show 16<29;decide) e16) (Fg.aF rfl e2 (fA _ _ _))
  refine Fg.vS rfl (by decide) (fun ac w h=>?_) ?_
  .have e16:_=Value.bool true:=h.d 16
   have e24:_=Value.pointer (some ⟨w0.heap.size,10,none⟩):=h.d 24
   exact Fg.vx p.Z.v (aS (d:=16) rfl rfl (by rw[h.size];show 16<29;decide) e16) (Fg.run_load rfl e24 ((hP.gn h.base).range 10 (aR p.Z) rfl) Tryz.underlying54 rfl aD)
  refine Fg.cS rfl (by decide) (fun _ w h=>Fg.cz rfl (aS (d:=16) rfl rfl (by rw[h.size];show 16<29;decide) (h.d 16)) (jk kS.Y iW.Z) ⟨h.d 23,h.d 25,trivial⟩ Tryz.func74) ?_
  refine Fg.cS rfl (by decide) (fun _ w h=>Fg.cz rfl (aS (d:=16) rfl rfl (by rw[h.size];show 16<29;decide) (h.d 16)) (AX (Fe.mul_right _ _).ok (Fe.mul_right _ _).ok h2) ⟨h.d 21,h.d 26,trivial⟩ Tryz.func73) ?_
  refine Fg.vS rfl (by decide) (fun ac w h=>?_) ?_
  .have e16:_=Value.bool true:=h.d 16
   have e27:_=Value.bool false:=h.d 27
   refine⟨aB rfl,Value.bool false,w,?_,ah _ _,rfl⟩
   clear h
   simp only[execOp,Act.eval,e16,e27]
   go_simp
  refine Fg.vS rfl (by decide) (fun _ _ h=>Fg.vn _ (Fg.run_assign rfl (h.d 28))) ?_
  trivial
 .intro qa V1 g1 hsz hdf hrest aC hpt
  obtain⟨⟨u5,hs5⟩,⟨u6,hs6⟩,⟨u7,hs7⟩,⟨u8,lC⟩,⟨u9,jD⟩,⟨u10,fM⟩,⟨u11,d9⟩,⟨u12,fJ⟩,⟨u13,dL⟩,⟨u14,dw⟩,⟨u15,dM⟩,⟨u16,dG⟩,⟨u17,eD⟩,⟨u18,eF⟩,⟨u19,eG⟩,⟨u20,dU⟩,⟨u21,eP⟩,⟨u22,eT⟩,⟨u23,dV⟩,⟨u24,dO⟩,⟨u25,eH⟩,⟨u26,eO⟩,⟨u27,fK⟩,⟨u28,jd⟩,_⟩:=Fg.bn qa [5,6,7,8,9,10,11,12,13,14,15,16,17,18,19,20,21,22,23,24,25,26,27,28]
  obtain rfl:=Fg.aQ [4,5,6,7,8,9,10,11,12,13,14,15,16,17,18,19,20,21,22,23,24,25,26,27,28] (vs:=[_,_,_,_,Value.bool false,u5,u6,u7,u8,u9,u10,u11,u12,u13,u14,u15,u16,u17,u18,u19,u20,u21,u22,u23,u24,u25,u26,u27,u28]) hsz hrest (by kernel_rfl) rfl rfl ⟨(show qa.tmps.getD 4 undef=Value.bool false from aC 4 (by kernel_rfl)),hs5,hs6,hs7,lC,jD,fM,d9,fJ,dL,dw,dM,dG,eD,eF,eG,dU,eP,eT,dV,dO,eH,eO,fK,jd,trivial⟩ hdf
  clear hsz hdf hrest aC hpt hs5 hs6 hs7 lC jD fM d9 fJ dL dw dM dG eD eF eG dU eP eT dV dO eH eO fK jd
  replace hP:=hP.gn g1
  replace hQ:=hQ.gn g1
  replace G:=aj G g1
  clear g1
  go_wp2_with fail
  go_ret
  exact⟨rfl,G⟩
set_option maxRecDepth 100000 in
set_option maxHeartbeats 3200000 in
theorem aaB (p q:Pt) (w0:World) (iW:p.Ok) (kS:q.Ok) (h1:sx p q=false):
  Calls Tryz.prog 45 #[p.v,q.v] w0 fun e w'=>e=.returned (.bool false)/\w0.grownBy w' none:=by
 show Calls Tryz.prog 45 #[.agg (aY p).toArray,.agg (aY q).toArray] w0 _
 go_enter Tryz.func45,Tryz.ntmps45
 go_upto_region 1 with (fail)
 have G:w0.grownBy ((w0.alloc (.cells (aY p).toArray 56)).alloc (.cells (aY q).toArray 56)) none:=av (av (ah _ _) _) _
 have hP:aH ((w0.alloc (.cells (aY p).toArray 56)).alloc (.cells (aY q).toArray 56)) (w0.heap.size) 56 (aY p):=(aH.new w0 (aY p) _).alloc _
 have hQ:aH ((w0.alloc (.cells (aY p).toArray 56)).alloc (.cells (aY q).toArray 56)) (w0.heap.size+1) 56 (aY q):=aH.newAt (w0.alloc _) (aY q) _ (by simp)
 revert G hP hQ
 generalize (w0.alloc (.cells (aY p).toArray 56)).alloc (.cells (aY q).toArray 56)=W0
 intro G hP hQ
 have Gs:=G.size
 have lI:=G.size
 have uz:=hP.lt
 have ZU:=hQ.lt
 refine Fg.rT [] [.any,.any,.any,.any,.val (Value.bool false),.val (Value.pointer (some ⟨w0.heap.size,0,none⟩)),.val (p.X.v),.val (Value.pointer (some ⟨w0.heap.size+1,10,none⟩)),.val (q.Z.v),.val ((Fe.aM p.X q.Z).v),.val (Value.pointer (some ⟨w0.heap.size+1,0,none⟩)),.val (q.X.v),.val (Value.pointer (some ⟨w0.heap.size,10,none⟩)),.val (p.Z.v),.val ((Fe.aM q.X p.Z).v),.val (Value.bool false),.val (Value.bool false),.val undef,.val undef,.val undef,.val undef,.val undef,.val undef,.val undef,.val undef,.val undef,.val undef,.val undef,.val (Value.bool false)] 25 ?_ ?_
 .refine Fg.vS rfl (by decide) (fun _ _ h=>Fg.vn _ (Fg.aF rfl (h.r 2) (fu _ _ _))) ?_
  refine Fg.vS rfl (by decide) (fun _ _ h=>Fg.vn p.X.v (Fg.run_load rfl (h.d 5) ((hP.gn h.base).range 0 (aR p.X) rfl) Tryz.underlying54 rfl aD)) ?_
  refine Fg.vS rfl (by decide) (fun _ _ h=>Fg.vn _ (Fg.aF rfl (h.r 3) (fA _ _ _))) ?_
  refine Fg.vS rfl (by decide) (fun _ _ h=>Fg.vn q.Z.v (Fg.run_load rfl (h.d 7) ((hQ.gn h.base).range 10 (aR q.Z) rfl) Tryz.underlying54 rfl aD)) ?_
  refine Fg.cS rfl (by decide) (fun _ w h=>Fg.cq rfl (jk iW.X kS.Z) ⟨h.d 6,h.d 8,trivial⟩ Tryz.func74) ?_
  refine Fg.vS rfl (by decide) (fun _ _ h=>Fg.vn _ (Fg.aF rfl (h.r 3) (fu _ _ _))) ?_
  refine Fg.vS rfl (by decide) (fun _ _ h=>Fg.vn q.X.v (Fg.run_load rfl (h.d 10) ((hQ.gn h.base).range 0 (aR q.X) rfl) Tryz.underlying54 rfl aD)) ?_
  refine Fg.vS rfl (by decide) (fun _ _ h=>Fg.vn _ (Fg.aF rfl (h.r 2) (fA _ _ _))) ?_
  refine Fg.vS rfl (by decide) (fun _ _ h=>Fg.vn p.Z.v (Fg.run_load rfl (h.d 12) ((hP.gn h.base).range 10 (aR p.Z) rfl) Tryz.underlying54 rfl aD)) ?_
  refine Fg.cS rfl (by decide) (fun _ w h=>Fg.cq rfl (jk kS.X iW.Z) ⟨h.d 11,h.d 13,trivial⟩ Tryz.func74) ?_
  refine Fg.cS rfl (by decide) (fun _ w h=>Fg.cq rfl (AX (Fe.mul_right _ _).ok (Fe.mul_right _ _).ok h1) ⟨h.d 9,h.d 14,trivial⟩ Tryz.func73) ?_
  refine Fg.vS rfl (by decide) (fun _ _ h=>Fg.vn _ (Fg.run_move rfl (h.d 15))) ?_
  refine⟨⟨⟨_,rfl⟩,Fg.dX rfl (by decide) (fun _=>rfl) fun ac w h=>?_⟩,?_⟩
  .have e16:_=Value.bool false:=h.d 16
   exact dz (d:=16) rfl rfl (by rw[h.size];show 16<29;decide) e16 (by decide)
  refine⟨⟨⟨_,rfl⟩,Fg.dX rfl (by decide) (fun _=>rfl) fun ac w h=>?_⟩,?_⟩
  .have e16:_=Value.bool false:=h.d 16
   exact dz (d:=16) rfl rfl (by rw[h.size];show 16<29;decide) e16 (by decide)
  refine⟨⟨⟨_,rfl⟩,Fg.dX rfl (by decide) (fun _=>rfl) fun ac w h=>?_⟩,?_⟩
  .have e16:_=Value.bool false:=h.d 16
   exact dz (d:=16) rfl rfl (by rw[h.size];show 16<29;decide) e16 (by decide)
  refine⟨⟨⟨_,rfl⟩,Fg.dX rfl (by decide) (fun _=>rfl) fun ac w h=>?_⟩,?_⟩
  .have e16:_=Value.bool false:=h.d 16
   exact dz (d:=16) rfl rfl (by rw[h.size];show 16<29;decide) e16 (by decide)
  refine⟨⟨⟨_,rfl⟩,Fg.dX rfl (by decide) (fun _=>rfl) fun ac w h=>?_⟩,?_⟩
  .have e16:_=Value.bool false:=h.d 16
   exact dz (d:=16) rfl rfl (by rw[h.size];show 16<29;decide) e16 (by decide)
  refine⟨⟨⟨_,rfl⟩,Fg.dX rfl (by decide) (fun _=>rfl) fun ac w h=>?_⟩,?_⟩
  .have e16:_=Value.bool false:=h.d 16
   exact dz (d:=16) rfl rfl (by rw[h.size];show 16<29;decide) e16 (by decide)
  refine⟨⟨⟨_,rfl⟩,Fg.dX rfl (by decide) (fun _=>rfl) fun ac w h=>?_⟩,?_⟩
  .have e16:_=Value.bool false:=h.d 16
   exact dz (d:=16) rfl rfl (by rw[h.size];show 16<29;decide) e16 (by decide)
  refine⟨⟨⟨_,rfl⟩,Fg.dX rfl (by decide) (fun _=>rfl) fun ac w h=>?_⟩,?_⟩
  .have e16:_=Value.bool false:=h.d 16
   exact dz (d:=16) rfl rfl (by rw[h.size];show 16<29;decide) e16 (by decide)
  refine⟨⟨⟨_,rfl⟩,Fg.dX rfl (by decide) (fun _=>rfl) fun ac w h=>?_⟩,?_⟩
  .have e16:_=Value.bool false:=h.d 16
   exact dz (d:=16) rfl rfl (by rw[h.size];show 16<29;decide) e16 (by decide)
  refine⟨⟨⟨_,rfl⟩,Fg.dX rfl (by decide) (fun _=>rfl) fun ac w h=>?_⟩,?_⟩
  .have e16:_=Value.bool false:=h.d 16
   exact dz (d:=16) rfl rfl (by rw[h.size];show 16<29;decide) e16 (by decide)
  refine⟨⟨⟨_,rfl⟩,Fg.dX rfl (by decide) (fun _=>rfl) fun ac w h=>?_⟩,?_⟩
  .have e16:_=Value.bool false:=h.d 16
   exact dz (d:=16) rfl rfl (by rw[h.size];show 16<29;decide) e16 (by decide)
  refine Fg.vS rfl (by decide) (fun ac w h=>?_) ?_
  .have e16:_=Value.bool false:=h.d 16
   refine⟨aB rfl,Value.bool false,w,?_,ah _ _,rfl⟩
   clear h
   simp only[execOp,Act.eval,e16]
   go_simp
  refine Fg.vS rfl (by decide) (fun _ _ h=>Fg.vn _ (Fg.run_assign rfl (h.d 28))) ?_
  trivial
 .intro qa V1 g1 hsz hdf hrest aC hpt
  obtain⟨⟨u5,hs5⟩,⟨u6,hs6⟩,⟨u7,hs7⟩,⟨u8,lC⟩,⟨u9,jD⟩,⟨u10,fM⟩,⟨u11,d9⟩,⟨u12,fJ⟩,⟨u13,dL⟩,⟨u14,dw⟩,⟨u15,dM⟩,⟨u16,dG⟩,⟨u17,eD⟩,⟨u18,eF⟩,⟨u19,eG⟩,⟨u20,dU⟩,⟨u21,eP⟩,⟨u22,eT⟩,⟨u23,dV⟩,⟨u24,dO⟩,⟨u25,eH⟩,⟨u26,eO⟩,⟨u27,fK⟩,⟨u28,jd⟩,_⟩:=Fg.bn qa [5,6,7,8,9,10,11,12,13,14,15,16,17,18,19,20,21,22,23,24,25,26,27,28]
  obtain rfl:=Fg.aQ [4,5,6,7,8,9,10,11,12,13,14,15,16,17,18,19,20,21,22,23,24,25,26,27,28] (vs:=[_,_,_,_,Value.bool false,u5,u6,u7,u8,u9,u10,u11,u12,u13,u14,u15,u16,u17,u18,u19,u20,u21,u22,u23,u24,u25,u26,u27,u28]) hsz hrest (by kernel_rfl) rfl rfl ⟨(show qa.tmps.getD 4 undef=Value.bool false from aC 4 (by kernel_rfl)),hs5,hs6,hs7,lC,jD,fM,d9,fJ,dL,dw,dM,dG,eD,eF,eG,dU,eP,eT,dV,dO,eH,eO,fK,jd,trivial⟩ hdf
  clear hsz hdf hrest aC hpt hs5 hs6 hs7 lC jD fM d9 fJ dL dw dM dG eD eF eG dU eP eT dV dO eH eO fK jd
  replace hP:=hP.gn g1
  replace hQ:=hQ.gn g1
  replace G:=aj G g1
  clear g1
  go_wp2_with fail
  go_ret
  exact⟨rfl,G⟩
theorem aaC (p q:Pt) (w0:World) (iW:p.Ok) (kS:q.Ok):lH 45 #[p.v,q.v] w0 (.bool (sx p q&&sy p q)):=by
 cases h1:sx p q
 .exact aaB p q w0 iW kS h1
 .cases h2:sy p q
  .exact Xh p q w0 iW kS h1 h2
  .exact Xg p q w0 iW kS h1 h2
theorem Xi {s t:Pt} {p q:Pr} (h:iO s p) (k:iO t q):(sx s t&&sy s t)=true↔p=q:=by
 rw[Bool.and_eq_true]
 unfold sx sy
 rw[decide_eq_true_iff,decide_eq_true_iff]
 exact Zv h k
end
section
open Go.RowKit Ow Ed
def Fg.It.stands (r:Pr):It:=⟨fun v _=>∃t:Pt,v=t.v/\iO t r,fun _ _ _ h _=>h⟩
theorem Uf {s t:Pt} {p q:Pr} {b:Bool} (w:World) (h:iO s p) (k:iO t q) (hb:b=true↔p=q):lH 45 #[s.v,t.v] w (.bool b):=by
 have e:(sx s t&&sy s t)=b:=Bool.eq_iff_iff.2 ((Xi h k).trans hb.symm)
 rw[<- e]
 exact aaC s t w h.ok k.ok
end
section
open Go.RowKit Ow Go.Shelf Ed
def P6 (l s m:List Nat):Prop:=l.length=32/\∃A R,On A/\enc A=uD l/\On R/\enc R=uD (s.take 32)/\num (s.drop 32)<Sc.L/\
 Ed.add (bD (num (DW (num (bE.sum ((s.take 32++l)++m))))) (Ed.neg A)) (bD (num (s.drop 32)) dA)=R
theorem BL (cap B:Nat) (a:Option Addr) (l:List Nat) (w:World) (v:Bool) (hl:l.length=32) (hP:BytesAt w B a cap l) (hT:oI w) (h:decide (num l<Sc.L)=v):
  Calls Tryz.prog 44 #[.slice a 32 cap] w fun e w'=>e=.returned (.bool v)/\w.grownBy w' none:=by
 rw[<- h]
 exact LG cap B a l w hl hP hT
theorem Xj {l s m:List Nat} {A R:Pr} {b:Bool} (hl:l.length=32) (hA:On A) (eA:enc A=uD l) (hR:On R) (eR:enc R=uD (s.take 32)) (hS:num (s.drop 32)<Sc.L)
  (hb:b=true↔Ed.add (bD (num (DW (num (bE.sum ((s.take 32++l)++m))))) (Ed.neg A)) (bD (num (s.drop 32)) dA)=R):b=true↔P6 l s m:=by
 rw[hb]
 constructor
 .exact fun h=>⟨hl,A,R,hA,eA,hR,eR,hS,h⟩
 .rintro⟨_,A',R',hA',eA',hR',eR',_,h⟩
  obtain rfl:=M6 hA' hA (eA'.trans eA.symm)
  obtain rfl:=M6 hR' hR (eR'.trans eR.symm)
  exact h
theorem Ug (c:Prop):∃b:Bool,b=true↔c:=by
 by_cases h:c
 .exact⟨true,by simp[h]⟩
 .exact⟨false,by simp[h]⟩
set_option maxRecDepth 100000 in
set_option maxHeartbeats 12800000 in
theorem LJ (l s:List Nat) (n cap B sc Bs mt ct Bt:Nat) (a sa bt:Option Addr) (pt:List Part) (w0:World) (HO0:oI w0) (HT0:eY w0) (vN:Tables w0) (hl:l.length=n) (hn:n<9223372036854775808) (EW:Hid (BytesAt w0 B a cap l)) (hs:s.length=64) (HPS:Hid (BytesAt w0 Bs sa sc s)) (hpt:pt.length=mt) (I7:Hid (PartsAt w0 Bt bt ct pt)) (hct:ct<9223372036854775808) (hlen:(joined pt).length<1000000):
  Calls Tryz.prog 27 #[.slice a n cap,.slice sa 64 sc,.slice bt mt ct] w0 fun e w'=>∃b:Bool,e=.returned (.bool b)/\w0.grownBy w' none/\(b=true↔P6 l s (joined pt)):=by
 go_enter Tryz.func27,Tryz.ntmps27
 obtain⟨sF,hF,hF2⟩:=zM sa 64 sc 32 (by decide)
 have hF':∀w,(Instr.slice 22 (.slice sa 64 sc) (some (.int .i64 32)) none none).run Tryz.prog w=.ok (.slice sF 32 (sc-32)) w:=hF
 have hsc:64<=sc:=by have:=HPS.out.fits;omega
 obtain⟨sT,hT,hT2⟩:=zY sa 64 sc 32 (by omega)
 have hT':∀w,(Instr.slice 22 (.slice sa 64 sc) none (some (.int .i64 32)) none).run Tryz.prog w=.ok (.slice sT 32 sc) w:=hT
 have Qr:=Lib.hid (And.intro hF' hT');clear hF hF' hT hT'
 have HSF:Hid (BytesAt w0 Bs sF (sc-32) (s.drop 32)):=Lib.hid (zV HPS.out hF2)
 have HST:Hid (BytesAt w0 Bs sT sc (s.take 32)):=Lib.hid (zX HPS.out hT2)
 clear hF2 hT2
 have hsd:(s.drop 32).length=32:=by rw[List.length_drop,hs]
 have hst:(s.take 32).length=32:=by rw[List.length_take,hs];rfl
 have G:w0.grownBy w0 none:=ah _ _
 have HT:=HT0
 go_upto_region 3 with (fail)
 refine wp_region_lit ?_
 refine Fg.aL (v:=.slice sa 64 sc) (w':=w0) rfl (Fg.run_move rfl rfl) ?_
 simp only[Act.put,List.setIfInBounds_toArray,List.set_cons_succ,List.set_cons_zero]
 refine Fg.aL (v:=.slice sF 32 (sc-32)) (w':=w0) rfl (by
  have hrun:=Qr.out.1 w0
  simp only[execOp,Act.eval,Option.map_some,Option.map_none]
  go_simp) ?_
 simp only[Act.put,List.setIfInBounds_toArray,List.set_cons_succ,List.set_cons_zero]
 refine Fg.aL (v:=.slice sF 32 (sc-32)) (w':=w0) rfl (Fg.run_assign rfl rfl) ?_
 simp only[Act.put,List.setIfInBounds_toArray,List.set_cons_succ,List.set_cons_zero]
 refine wpList_nil ?_
 go_upto_region 4 with (fail)
 refine wp_region_lit ?_
 refine Fg.aL (v:=.slice a n cap) (w':=w0) rfl (Fg.run_move rfl rfl) ?_
 simp only[Act.put,List.setIfInBounds_toArray,List.set_cons_succ,List.set_cons_zero]
 refine Fg.bP rfl (Fg.aN (vs:=#[.slice a n cap]) rfl rfl (by simp only[List.map_toArray,List.map_cons,List.map_nil,Act.eval];rfl) (Fg.aI Tryz.func43 (by kernel_rfl) (by kernel_rfl))) ?_
 refine (TI B n cap a l w0 HT hl hn (Lib.hid (EW.out.stay G))).mono ?_
 rintro e A1 ⟨tA,bA,rfl,ga,hyA,hnA⟩
 refine⟨_,rfl,?_⟩
 have HYA:=Lib.hid (And.intro hyA hnA);clear hyA hnA
 replace G:=aj G ga
 replace HT:=HT.grown ga
 clear ga
 simp only[Act.put,List.setIfInBounds_toArray,List.set_cons_succ,List.set_cons_zero]
 refine Fg.aL (v:=.tuple #[Qy tA (.slice a n cap),.bool bA]) (w':=A1) rfl (Fg.run_move rfl rfl) ?_
 simp only[Act.put,List.setIfInBounds_toArray,List.set_cons_succ,List.set_cons_zero]
 refine Fg.aL (v:=Qy tA (.slice a n cap)) (w':=A1) rfl (Fg.bW rfl rfl rfl) ?_
 simp only[Act.put,List.setIfInBounds_toArray,List.set_cons_succ,List.set_cons_zero]
 refine Fg.aL (v:=.bool bA) (w':=A1) rfl (Fg.bW rfl rfl rfl) ?_
 simp only[Act.put,List.setIfInBounds_toArray,List.set_cons_succ,List.set_cons_zero]
 refine Fg.aL (v:=.pointer (some ⟨A1.heap.size,0,none⟩)) (w':=A1.alloc (.cells [Value.int IntKind.u64 0,Value.int IntKind.u64 0,Value.int IntKind.u64 0,Value.int IntKind.u64 0,Value.int IntKind.u64 0,Value.int IntKind.u64 0,Value.int IntKind.u64 0,Value.int IntKind.u64 0,Value.int IntKind.u64 0,Value.int IntKind.u64 0,Value.int IntKind.u64 0,Value.int IntKind.u64 0,Value.int IntKind.u64 0,Value.int IntKind.u64 0,Value.int IntKind.u64 0,Value.int IntKind.u64 0,Value.int IntKind.u64 0,Value.int IntKind.u64 0,Value.int IntKind.u64 0,Value.int IntKind.u64 0,Value.slice none 0 0].toArray 58)) rfl (by go_simp) ?_
 simp only[Act.put,List.setIfInBounds_toArray,List.set_cons_succ,List.set_cons_zero]
 have hw8:w0.heap.size<=A1.heap.size:=G.size
 have gD:=aH.new A1 [Value.int IntKind.u64 0,Value.int IntKind.u64 0,Value.int IntKind.u64 0,Value.int IntKind.u64 0,Value.int IntKind.u64 0,Value.int IntKind.u64 0,Value.int IntKind.u64 0,Value.int IntKind.u64 0,Value.int IntKind.u64 0,Value.int IntKind.u64 0,Value.int IntKind.u64 0,Value.int IntKind.u64 0,Value.int IntKind.u64 0,Value.int IntKind.u64 0,Value.int IntKind.u64 0,Value.int IntKind.u64 0,Value.int IntKind.u64 0,Value.int IntKind.u64 0,Value.int IntKind.u64 0,Value.int IntKind.u64 0,Value.slice none 0 0] 58
 have ga8:=av (ah A1 none) (.cells [Value.int IntKind.u64 0,Value.int IntKind.u64 0,Value.int IntKind.u64 0,Value.int IntKind.u64 0,Value.int IntKind.u64 0,Value.int IntKind.u64 0,Value.int IntKind.u64 0,Value.int IntKind.u64 0,Value.int IntKind.u64 0,Value.int IntKind.u64 0,Value.int IntKind.u64 0,Value.int IntKind.u64 0,Value.int IntKind.u64 0,Value.int IntKind.u64 0,Value.int IntKind.u64 0,Value.int IntKind.u64 0,Value.int IntKind.u64 0,Value.int IntKind.u64 0,Value.int IntKind.u64 0,Value.int IntKind.u64 0,Value.slice none 0 0].toArray 58)
 replace G:=aj G ga8
 replace HT:=HT.grown ga8
 clear ga8
 obtain⟨N8,hN8⟩:∃x,x=A1.heap.size:=⟨_,rfl⟩
 rw[<- hN8]at gD hw8 ⊢
 revert G HT gD
 generalize (A1.alloc (.cells [Value.int IntKind.u64 0,Value.int IntKind.u64 0,Value.int IntKind.u64 0,Value.int IntKind.u64 0,Value.int IntKind.u64 0,Value.int IntKind.u64 0,Value.int IntKind.u64 0,Value.int IntKind.u64 0,Value.int IntKind.u64 0,Value.int IntKind.u64 0,Value.int IntKind.u64 0,Value.int IntKind.u64 0,Value.int IntKind.u64 0,Value.int IntKind.u64 0,Value.int IntKind.u64 0,Value.int IntKind.u64 0,Value.int IntKind.u64 0,Value.int IntKind.u64 0,Value.int IntKind.u64 0,Value.int IntKind.u64 0,Value.slice none 0 0].toArray 58))=A1x
 intro G HT gD
 clear hN8
 refine Fg.aV rfl rfl (Fg.run_store (cs:=pK tA (.slice a n cap)) rfl rfl rfl (gD.there 0 21 (by show 0+21<=21;decide)) q9 (wU _ _ _ _)) ?_
 replace gD:aH (A1x.setCells N8 0 (pK tA (.slice a n cap))) N8 58 (pK tA (.slice a n cap)):=gD.bC rfl
 replace G:=aG (cs:=pK tA (.slice a n cap)) G (B:=N8) (hw8) 0
 replace HT:=HT.keep (aK (cs:=pK tA (.slice a n cap)) (ah _ (some N8)) 0) (HT0.jW (hw8))
 revert gD G HT
 generalize A1x.setCells N8 0 (pK tA (.slice a n cap))=W1
 intro gD G HT
 refine Fg.aL (v:=.bool bA) (w':=W1) rfl (Fg.run_assign rfl rfl) ?_
 simp only[Act.put,List.setIfInBounds_toArray,List.set_cons_succ,List.set_cons_zero]
 refine wpList_nil ?_
 go_upto_region 5 with (fail)
 refine wp_region_lit ?_
 refine Fg.aL (v:=.slice sa 64 sc) (w':=W1) rfl (Fg.run_move rfl rfl) ?_
 simp only[Act.put,List.setIfInBounds_toArray,List.set_cons_succ,List.set_cons_zero]
 refine Fg.aL (v:=.slice sT 32 sc) (w':=W1) rfl (by
  have hrun:=Qr.out.2 W1
  simp only[execOp,Act.eval,Option.map_some,Option.map_none]
  go_simp) ?_
 simp only[Act.put,List.setIfInBounds_toArray,List.set_cons_succ,List.set_cons_zero]
 have Yu:=gD.lt
 refine Fg.bP rfl (Fg.aN (vs:=#[.slice sT 32 sc]) rfl rfl (by simp only[List.map_toArray,List.map_cons,List.map_nil,Act.eval];rfl) (Fg.aI Tryz.func43 (by kernel_rfl) (by kernel_rfl))) ?_
 refine (TI Bs 32 sc sT (s.take 32) W1 HT hst (by decide) (Lib.hid (HST.out.stay G))).mono ?_
 rintro e A2 ⟨tR,bR,rfl,ga,hyR,hnR⟩
 refine⟨_,rfl,?_⟩
 have HYR:=Lib.hid (And.intro hyR hnR);clear hyR hnR
 replace gD:=gD.gn ga
 replace G:=aj G ga
 replace HT:=HT.grown ga
 clear ga
 simp only[Act.put,List.setIfInBounds_toArray,List.set_cons_succ,List.set_cons_zero]
 refine Fg.aL (v:=.tuple #[Qy tR (.slice sT 32 sc),.bool bR]) (w':=A2) rfl (Fg.run_move rfl rfl) ?_
 simp only[Act.put,List.setIfInBounds_toArray,List.set_cons_succ,List.set_cons_zero]
 refine Fg.aL (v:=Qy tR (.slice sT 32 sc)) (w':=A2) rfl (Fg.bW rfl rfl rfl) ?_
 simp only[Act.put,List.setIfInBounds_toArray,List.set_cons_succ,List.set_cons_zero]
 refine Fg.aL (v:=.bool bR) (w':=A2) rfl (Fg.bW rfl rfl rfl) ?_
 simp only[Act.put,List.setIfInBounds_toArray,List.set_cons_succ,List.set_cons_zero]
 refine Fg.aL (v:=.pointer (some ⟨A2.heap.size,0,none⟩)) (w':=A2.alloc (.cells [Value.int IntKind.u64 0,Value.int IntKind.u64 0,Value.int IntKind.u64 0,Value.int IntKind.u64 0,Value.int IntKind.u64 0,Value.int IntKind.u64 0,Value.int IntKind.u64 0,Value.int IntKind.u64 0,Value.int IntKind.u64 0,Value.int IntKind.u64 0,Value.int IntKind.u64 0,Value.int IntKind.u64 0,Value.int IntKind.u64 0,Value.int IntKind.u64 0,Value.int IntKind.u64 0,Value.int IntKind.u64 0,Value.int IntKind.u64 0,Value.int IntKind.u64 0,Value.int IntKind.u64 0,Value.int IntKind.u64 0,Value.slice none 0 0].toArray 58)) rfl (by go_simp) ?_
 simp only[Act.put,List.setIfInBounds_toArray,List.set_cons_succ,List.set_cons_zero]
 have Px:w0.heap.size<=A2.heap.size:=G.size
 have iR:=aH.new A2 [Value.int IntKind.u64 0,Value.int IntKind.u64 0,Value.int IntKind.u64 0,Value.int IntKind.u64 0,Value.int IntKind.u64 0,Value.int IntKind.u64 0,Value.int IntKind.u64 0,Value.int IntKind.u64 0,Value.int IntKind.u64 0,Value.int IntKind.u64 0,Value.int IntKind.u64 0,Value.int IntKind.u64 0,Value.int IntKind.u64 0,Value.int IntKind.u64 0,Value.int IntKind.u64 0,Value.int IntKind.u64 0,Value.int IntKind.u64 0,Value.int IntKind.u64 0,Value.int IntKind.u64 0,Value.int IntKind.u64 0,Value.slice none 0 0] 58
 have Td:=gD.lt
 have Xk:=av (ah A2 none) (.cells [Value.int IntKind.u64 0,Value.int IntKind.u64 0,Value.int IntKind.u64 0,Value.int IntKind.u64 0,Value.int IntKind.u64 0,Value.int IntKind.u64 0,Value.int IntKind.u64 0,Value.int IntKind.u64 0,Value.int IntKind.u64 0,Value.int IntKind.u64 0,Value.int IntKind.u64 0,Value.int IntKind.u64 0,Value.int IntKind.u64 0,Value.int IntKind.u64 0,Value.int IntKind.u64 0,Value.int IntKind.u64 0,Value.int IntKind.u64 0,Value.int IntKind.u64 0,Value.int IntKind.u64 0,Value.int IntKind.u64 0,Value.slice none 0 0].toArray 58)
 replace gD:=gD.gn Xk
 replace G:=aj G Xk
 replace HT:=HT.grown Xk
 clear Xk
 obtain⟨Cn,aaD⟩:∃x,x=A2.heap.size:=⟨_,rfl⟩
 rw[<- aaD]at iR Px ⊢
 rw[<- aaD]at Td
 revert gD G HT iR
 generalize (A2.alloc (.cells [Value.int IntKind.u64 0,Value.int IntKind.u64 0,Value.int IntKind.u64 0,Value.int IntKind.u64 0,Value.int IntKind.u64 0,Value.int IntKind.u64 0,Value.int IntKind.u64 0,Value.int IntKind.u64 0,Value.int IntKind.u64 0,Value.int IntKind.u64 0,Value.int IntKind.u64 0,Value.int IntKind.u64 0,Value.int IntKind.u64 0,Value.int IntKind.u64 0,Value.int IntKind.u64 0,Value.int IntKind.u64 0,Value.int IntKind.u64 0,Value.int IntKind.u64 0,Value.int IntKind.u64 0,Value.int IntKind.u64 0,Value.slice none 0 0].toArray 58))=A2x
 intro gD G HT iR
 clear aaD
 refine Fg.aV rfl rfl (Fg.run_store (cs:=pK tR (.slice sT 32 sc)) rfl rfl rfl (iR.there 0 21 (by show 0+21<=21;decide)) q9 (wU _ _ _ _)) ?_
 replace gD:=gD.au (C:=Cn) (cs:=pK tR (.slice sT 32 sc)) 0 (by omega)
 replace iR:aH (A2x.setCells Cn 0 (pK tR (.slice sT 32 sc))) Cn 58 (pK tR (.slice sT 32 sc)):=iR.bC rfl
 replace G:=aG (cs:=pK tR (.slice sT 32 sc)) G (B:=Cn) (Px) 0
 replace HT:=HT.keep (aK (cs:=pK tR (.slice sT 32 sc)) (ah _ (some Cn)) 0) (HT0.jW (Px))
 revert gD iR G HT
 generalize A2x.setCells Cn 0 (pK tR (.slice sT 32 sc))=W2
 intro gD iR G HT
 refine Fg.aL (v:=.bool bR) (w':=W2) rfl (Fg.run_assign rfl rfl) ?_
 simp only[Act.put,List.setIfInBounds_toArray,List.set_cons_succ,List.set_cons_zero]
 refine wpList_nil ?_
 cases bA with
 | false=>
  go_upto_region 6 with (fail)
  have vO:=G.size
  have Io:=gD.lt
  have LK:=iR.lt
  refine Fg.rP [] [.any,.any,.any,.any,.any,.any,.any,.any,.any,.any,.any,.any,.any,.any,.any,.any,.any,.any,.any,.any,.any,.any,.any,.any,.any,.any,.any,.any,.any,.val (Value.bool false),.val (Value.bool true),.val (Value.bool true),.val undef,.val undef,.val (Value.bool true),.val (Value.bool true),.val undef,.val undef,.val undef,.val (Value.bool true)] 11 ?_ ?_
  .refine Fg.vS rfl (by decide) (fun _ _ h=>Fg.vn _ (Fg.run_move rfl (h.r 9))) ?_
   refine Fg.vS rfl (by decide) (fun ac w h=>?_) ?_
   .have e29:_=Value.bool false:=h.d 29
    refine⟨aB rfl,Value.bool true,w,?_,ah _ _,rfl⟩
    clear h
    simp only[execOp,Act.eval,e29]
    go_simp
   refine Fg.vS rfl (by decide) (fun _ _ h=>Fg.vn _ (Fg.run_move rfl (h.d 30))) ?_
   refine⟨⟨⟨_,rfl⟩,Fg.dX rfl (by decide) (fun _=>rfl) fun ac w h=>?_⟩,?_⟩
   .have e31:_=Value.bool true:=h.d 31
    exact dz (d:=31) rfl rfl (by rw[h.size];show 31<56;decide) e31 (by decide)
   refine⟨⟨⟨_,rfl⟩,Fg.dX rfl (by decide) (fun _=>rfl) fun ac w h=>?_⟩,?_⟩
   .have e31:_=Value.bool true:=h.d 31
    exact dz (d:=31) rfl rfl (by rw[h.size];show 31<56;decide) e31 (by decide)
   refine Fg.vS rfl (by decide) (fun ac w h=>?_) ?_
   .have e31:_=Value.bool true:=h.d 31
    refine⟨aB rfl,Value.bool true,w,?_,ah _ _,rfl⟩
    clear h
    simp only[execOp,Act.eval,e31]
    go_simp
   refine Fg.vS rfl (by decide) (fun _ _ h=>Fg.vn _ (Fg.run_move rfl (h.d 34))) ?_
   refine⟨⟨⟨_,rfl⟩,Fg.dX rfl (by decide) (fun _=>rfl) fun ac w h=>?_⟩,?_⟩
   .have e35:_=Value.bool true:=h.d 35
    exact dz (d:=35) rfl rfl (by rw[h.size];show 35<56;decide) e35 (by decide)
   refine⟨⟨⟨_,rfl⟩,Fg.dX rfl (by decide) (fun _=>rfl) fun ac w h=>?_⟩,?_⟩
   .have e35:_=Value.bool true:=h.d 35
    exact dz (d:=35) rfl rfl (by rw[h.size];show 35<56;decide) e35 (by decide)
   refine⟨⟨⟨_,rfl⟩,Fg.dX rfl (by decide) (fun _=>rfl) fun ac w h=>?_⟩,?_⟩
   .have e35:_=Value.bool true:=h.d 35
    exact dz (d:=35) rfl rfl (by rw[h.size];show 35<56;decide) e35 (by decide)
   refine Fg.vS rfl (by decide) (fun ac w h=>?_) ?_
   .have e35:_=Value.bool true:=h.d 35
    refine⟨aB rfl,Value.bool true,w,?_,ah _ _,rfl⟩
    clear h
    simp only[execOp,Act.eval,e35]
    go_simp
   trivial
  .intro qa V3 g3 hsz hdf hrest aC hpt
   obtain⟨⟨u13,dL⟩,⟨u14,dw⟩,⟨u15,dM⟩,⟨u16,dG⟩,⟨u17,eD⟩,⟨u18,eF⟩,⟨u19,eG⟩,⟨u20,dU⟩,⟨u21,eP⟩,⟨u22,eT⟩,⟨u23,dV⟩,⟨u24,dO⟩,⟨u25,eH⟩,⟨u26,eO⟩,⟨u27,fK⟩,⟨u28,jd⟩,⟨u29,kD⟩,⟨u30,iP⟩,⟨u31,gL⟩,⟨u32,jR⟩,⟨u33,jA⟩,⟨u34,iZ⟩,⟨u35,jS⟩,⟨u36,jT⟩,⟨u37,kU⟩,⟨u38,kV⟩,_⟩:=Fg.bn qa [13,14,15,16,17,18,19,20,21,22,23,24,25,26,27,28,29,30,31,32,33,34,35,36,37,38]
   obtain rfl:=Fg.aQ [13,14,15,16,17,18,19,20,21,22,23,24,25,26,27,28,29,30,31,32,33,34,35,36,37,38,39] (vs:=[_,_,_,_,_,_,_,_,_,_,_,_,_,u13,u14,u15,u16,u17,u18,u19,u20,u21,u22,u23,u24,u25,u26,u27,u28,u29,u30,u31,u32,u33,u34,u35,u36,u37,u38,Value.bool true,_,_,_,_,_,_,_,_,_,_,_,_,_,_,_,_]) hsz hrest (by kernel_rfl) rfl rfl ⟨dL,dw,dM,dG,eD,eF,eG,dU,eP,eT,dV,dO,eH,eO,fK,jd,kD,iP,gL,jR,jA,iZ,jS,jT,kU,kV,(show qa.tmps.getD 39 undef=Value.bool true from aC 39 (by kernel_rfl)),trivial⟩ hdf
   clear hsz hdf hrest aC hpt dL dw dM dG eD eF eG dU eP eT dV dO eH eO fK jd kD iP gL jR jA iZ jS jT kU kV
   replace gD:=gD.gn g3
   replace iR:=iR.gn g3
   replace G:=aj G g3
   replace HT:=HT.grown g3
   clear g3
   go_wp2_with fail
   go_ret
   exact⟨false,rfl,G,⟨fun h=>absurd h (by decide),fun⟨h1,A,_,hA,eA,_⟩=>absurd ⟨h1,A,hA,eA⟩ (HYA.out.2 trivial).2⟩⟩
 | true=>
  cases bR with
  | false=>
   go_upto_region 6 with (fail)
   have vO:=G.size
   have Io:=gD.lt
   have LK:=iR.lt
   refine Fg.rP [] [.any,.any,.any,.any,.any,.any,.any,.any,.any,.any,.any,.any,.any,.any,.any,.any,.any,.any,.any,.any,.any,.any,.any,.any,.any,.any,.any,.any,.any,.val (Value.bool true),.val (Value.bool false),.val (Value.bool false),.val (Value.bool false),.val (Value.bool true),.val (Value.bool true),.val (Value.bool true),.val undef,.val undef,.val undef,.val (Value.bool true)] 11 ?_ ?_
   .refine Fg.vS rfl (by decide) (fun _ _ h=>Fg.vn _ (Fg.run_move rfl (h.r 9))) ?_
    refine Fg.vS rfl (by decide) (fun ac w h=>?_) ?_
    .have e29:_=Value.bool true:=h.d 29
     refine⟨aB rfl,Value.bool false,w,?_,ah _ _,rfl⟩
     clear h
     simp only[execOp,Act.eval,e29]
     go_simp
    refine Fg.vS rfl (by decide) (fun _ _ h=>Fg.vn _ (Fg.run_move rfl (h.d 30))) ?_
    refine Fg.vS rfl (by decide) (fun ac w h=>?_) ?_
    .have e31:_=Value.bool false:=h.d 31
     have e11:_=Value.bool false:=h.r 11
     exact Fg.vx (Value.bool false) (aS (d:=31) rfl rfl (by rw[h.size];show 31<56;decide) e31) (Fg.run_move rfl e11)
    refine Fg.vS rfl (by decide) (fun ac w h=>?_) ?_
    .have e31:_=Value.bool false:=h.d 31
     have e32:_=Value.bool false:=h.d 32
     refine⟨aS (d:=31) rfl rfl (by rw[h.size];show 31<56;decide) e31,Value.bool true,w,?_,ah _ _,rfl⟩
     clear h
     simp only[execOp,Act.eval,e32]
     go_simp
    refine Fg.vS rfl (by decide) (fun ac w h=>?_) ?_
    .have e31:_=Value.bool false:=h.d 31
     have e33:_=Value.bool true:=h.d 33
     refine⟨aB rfl,Value.bool true,w,?_,ah _ _,rfl⟩
     clear h
     simp only[execOp,Act.eval,e31,e33]
     go_simp
    refine Fg.vS rfl (by decide) (fun _ _ h=>Fg.vn _ (Fg.run_move rfl (h.d 34))) ?_
    refine⟨⟨⟨_,rfl⟩,Fg.dX rfl (by decide) (fun _=>rfl) fun ac w h=>?_⟩,?_⟩
    .have e35:_=Value.bool true:=h.d 35
     exact dz (d:=35) rfl rfl (by rw[h.size];show 35<56;decide) e35 (by decide)
    refine⟨⟨⟨_,rfl⟩,Fg.dX rfl (by decide) (fun _=>rfl) fun ac w h=>?_⟩,?_⟩
    .have e35:_=Value.bool true:=h.d 35
     exact dz (d:=35) rfl rfl (by rw[h.size];show 35<56;decide) e35 (by decide)
    refine⟨⟨⟨_,rfl⟩,Fg.dX rfl (by decide) (fun _=>rfl) fun ac w h=>?_⟩,?_⟩
    .have e35:_=Value.bool true:=h.d 35
     exact dz (d:=35) rfl rfl (by rw[h.size];show 35<56;decide) e35 (by decide)
    refine Fg.vS rfl (by decide) (fun ac w h=>?_) ?_
    .have e35:_=Value.bool true:=h.d 35
     refine⟨aB rfl,Value.bool true,w,?_,ah _ _,rfl⟩
     clear h
     simp only[execOp,Act.eval,e35]
     go_simp
    trivial
   .intro qa V3 g3 hsz hdf hrest aC hpt
    obtain⟨⟨u13,dL⟩,⟨u14,dw⟩,⟨u15,dM⟩,⟨u16,dG⟩,⟨u17,eD⟩,⟨u18,eF⟩,⟨u19,eG⟩,⟨u20,dU⟩,⟨u21,eP⟩,⟨u22,eT⟩,⟨u23,dV⟩,⟨u24,dO⟩,⟨u25,eH⟩,⟨u26,eO⟩,⟨u27,fK⟩,⟨u28,jd⟩,⟨u29,kD⟩,⟨u30,iP⟩,⟨u31,gL⟩,⟨u32,jR⟩,⟨u33,jA⟩,⟨u34,iZ⟩,⟨u35,jS⟩,⟨u36,jT⟩,⟨u37,kU⟩,⟨u38,kV⟩,_⟩:=Fg.bn qa [13,14,15,16,17,18,19,20,21,22,23,24,25,26,27,28,29,30,31,32,33,34,35,36,37,38]
    obtain rfl:=Fg.aQ [13,14,15,16,17,18,19,20,21,22,23,24,25,26,27,28,29,30,31,32,33,34,35,36,37,38,39] (vs:=[_,_,_,_,_,_,_,_,_,_,_,_,_,u13,u14,u15,u16,u17,u18,u19,u20,u21,u22,u23,u24,u25,u26,u27,u28,u29,u30,u31,u32,u33,u34,u35,u36,u37,u38,Value.bool true,_,_,_,_,_,_,_,_,_,_,_,_,_,_,_,_]) hsz hrest (by kernel_rfl) rfl rfl ⟨dL,dw,dM,dG,eD,eF,eG,dU,eP,eT,dV,dO,eH,eO,fK,jd,kD,iP,gL,jR,jA,iZ,jS,jT,kU,kV,(show qa.tmps.getD 39 undef=Value.bool true from aC 39 (by kernel_rfl)),trivial⟩ hdf
    clear hsz hdf hrest aC hpt dL dw dM dG eD eF eG dU eP eT dV dO eH eO fK jd kD iP gL jR jA iZ jS jT kU kV
    replace gD:=gD.gn g3
    replace iR:=iR.gn g3
    replace G:=aj G g3
    replace HT:=HT.grown g3
    clear g3
    go_wp2_with fail
    go_ret
    exact⟨false,rfl,G,⟨fun h=>absurd h (by decide),fun⟨_,_,R,_,_,hR,eR,_⟩=>absurd ⟨hst,R,hR,eR⟩ (HYR.out.2 trivial).2⟩⟩
  | true=>
   cases hq:decide (num (s.drop 32)<Sc.L) with
   | false=>
    go_upto_region 6 with (fail)
    have vO:=G.size
    have Io:=gD.lt
    have LK:=iR.lt
    refine Fg.rP [] [.any,.any,.any,.any,.any,.any,.any,.any,.any,.any,.any,.any,.any,.any,.any,.any,.any,.any,.any,.any,.any,.any,.any,.any,.any,.any,.any,.any,.any,.val (Value.bool true),.val (Value.bool false),.val (Value.bool false),.val (Value.bool true),.val (Value.bool false),.val (Value.bool false),.val (Value.bool false),.val (Value.slice sF 32 (sc-32)),.val (Value.bool false),.val (Value.bool true),.val (Value.bool true)] 11 ?_ ?_
    .refine Fg.vS rfl (by decide) (fun _ _ h=>Fg.vn _ (Fg.run_move rfl (h.r 9))) ?_
     refine Fg.vS rfl (by decide) (fun ac w h=>?_) ?_
     .have e29:_=Value.bool true:=h.d 29
      refine⟨aB rfl,Value.bool false,w,?_,ah _ _,rfl⟩
      clear h
      simp only[execOp,Act.eval,e29]
      go_simp
     refine Fg.vS rfl (by decide) (fun _ _ h=>Fg.vn _ (Fg.run_move rfl (h.d 30))) ?_
     refine Fg.vS rfl (by decide) (fun ac w h=>?_) ?_
     .have e31:_=Value.bool false:=h.d 31
      have e11:_=Value.bool true:=h.r 11
      exact Fg.vx (Value.bool true) (aS (d:=31) rfl rfl (by rw[h.size];show 31<56;decide) e31) (Fg.run_move rfl e11)
     refine Fg.vS rfl (by decide) (fun ac w h=>?_) ?_
     .have e31:_=Value.bool false:=h.d 31
      have e32:_=Value.bool true:=h.d 32
      refine⟨aS (d:=31) rfl rfl (by rw[h.size];show 31<56;decide) e31,Value.bool false,w,?_,ah _ _,rfl⟩
      clear h
      simp only[execOp,Act.eval,e32]
      go_simp
     refine Fg.vS rfl (by decide) (fun ac w h=>?_) ?_
     .have e31:_=Value.bool false:=h.d 31
      have e33:_=Value.bool false:=h.d 33
      refine⟨aB rfl,Value.bool false,w,?_,ah _ _,rfl⟩
      clear h
      simp only[execOp,Act.eval,e31,e33]
      go_simp
     refine Fg.vS rfl (by decide) (fun _ _ h=>Fg.vn _ (Fg.run_move rfl (h.d 34))) ?_
     refine Fg.vS rfl (by decide) (fun ac w h=>?_) ?_
     .have e35:_=Value.bool false:=h.d 35
      have e7:_=Value.slice sF 32 (sc-32):=h.r 7
      exact Fg.vx (Value.slice sF 32 (sc-32)) (aS (d:=35) rfl rfl (by rw[h.size];show 35<56;decide) e35) (Fg.run_move rfl e7)
     refine Fg.cS rfl (by decide) (fun _ w h=>Fg.cz rfl (aS (d:=35) rfl rfl (by rw[h.size];show 35<56;decide) (h.d 35)) (BL (sc-32) Bs sF (s.drop 32) _ false hsd (HSF.out.stay (aj G h.base)) (HO0.kept (aj G h.base) (fun r e=>by cases e)) hq) ⟨h.d 36,trivial⟩ Tryz.func44) ?_
     refine Fg.vS rfl (by decide) (fun ac w h=>?_) ?_
     .have e35:_=Value.bool false:=h.d 35
      have e37:_=Value.bool false:=h.d 37
      refine⟨aS (d:=35) rfl rfl (by rw[h.size];show 35<56;decide) e35,Value.bool true,w,?_,ah _ _,rfl⟩
      clear h
      simp only[execOp,Act.eval,e37]
      go_simp
     refine Fg.vS rfl (by decide) (fun ac w h=>?_) ?_
     .have e35:_=Value.bool false:=h.d 35
      have e38:_=Value.bool true:=h.d 38
      refine⟨aB rfl,Value.bool true,w,?_,ah _ _,rfl⟩
      clear h
      simp only[execOp,Act.eval,e35,e38]
      go_simp
     trivial
    .intro qa V3 g3 hsz hdf hrest aC hpt
     obtain⟨⟨u13,dL⟩,⟨u14,dw⟩,⟨u15,dM⟩,⟨u16,dG⟩,⟨u17,eD⟩,⟨u18,eF⟩,⟨u19,eG⟩,⟨u20,dU⟩,⟨u21,eP⟩,⟨u22,eT⟩,⟨u23,dV⟩,⟨u24,dO⟩,⟨u25,eH⟩,⟨u26,eO⟩,⟨u27,fK⟩,⟨u28,jd⟩,⟨u29,kD⟩,⟨u30,iP⟩,⟨u31,gL⟩,⟨u32,jR⟩,⟨u33,jA⟩,⟨u34,iZ⟩,⟨u35,jS⟩,⟨u36,jT⟩,⟨u37,kU⟩,⟨u38,kV⟩,_⟩:=Fg.bn qa [13,14,15,16,17,18,19,20,21,22,23,24,25,26,27,28,29,30,31,32,33,34,35,36,37,38]
     obtain rfl:=Fg.aQ [13,14,15,16,17,18,19,20,21,22,23,24,25,26,27,28,29,30,31,32,33,34,35,36,37,38,39] (vs:=[_,_,_,_,_,_,_,_,_,_,_,_,_,u13,u14,u15,u16,u17,u18,u19,u20,u21,u22,u23,u24,u25,u26,u27,u28,u29,u30,u31,u32,u33,u34,u35,u36,u37,u38,Value.bool true,_,_,_,_,_,_,_,_,_,_,_,_,_,_,_,_]) hsz hrest (by kernel_rfl) rfl rfl ⟨dL,dw,dM,dG,eD,eF,eG,dU,eP,eT,dV,dO,eH,eO,fK,jd,kD,iP,gL,jR,jA,iZ,jS,jT,kU,kV,(show qa.tmps.getD 39 undef=Value.bool true from aC 39 (by kernel_rfl)),trivial⟩ hdf
     clear hsz hdf hrest aC hpt dL dw dM dG eD eF eG dU eP eT dV dO eH eO fK jd kD iP gL jR jA iZ jS jT kU kV
     replace gD:=gD.gn g3
     replace iR:=iR.gn g3
     replace G:=aj G g3
     replace HT:=HT.grown g3
     clear g3
     go_wp2_with fail
     go_ret
     exact⟨false,rfl,G,⟨fun h=>absurd h (by decide),fun⟨_,_,_,_,_,_,_,hS,_⟩=>absurd hS (of_decide_eq_false hq)⟩⟩
   | true=>
    go_upto_region 6 with (fail)
    have vO:=G.size
    have Io:=gD.lt
    have LK:=iR.lt
    refine Fg.rP [] [.any,.any,.any,.any,.any,.any,.any,.any,.any,.any,.any,.any,.any,.any,.any,.any,.any,.any,.any,.any,.any,.any,.any,.any,.any,.any,.any,.any,.any,.val (Value.bool true),.val (Value.bool false),.val (Value.bool false),.val (Value.bool true),.val (Value.bool false),.val (Value.bool false),.val (Value.bool false),.val (Value.slice sF 32 (sc-32)),.val (Value.bool true),.val (Value.bool false),.val (Value.bool false)] 11 ?_ ?_
    .refine Fg.vS rfl (by decide) (fun _ _ h=>Fg.vn _ (Fg.run_move rfl (h.r 9))) ?_
     refine Fg.vS rfl (by decide) (fun ac w h=>?_) ?_
     .have e29:_=Value.bool true:=h.d 29
      refine⟨aB rfl,Value.bool false,w,?_,ah _ _,rfl⟩
      clear h
      simp only[execOp,Act.eval,e29]
      go_simp
     refine Fg.vS rfl (by decide) (fun _ _ h=>Fg.vn _ (Fg.run_move rfl (h.d 30))) ?_
     refine Fg.vS rfl (by decide) (fun ac w h=>?_) ?_
     .have e31:_=Value.bool false:=h.d 31
      have e11:_=Value.bool true:=h.r 11
      exact Fg.vx (Value.bool true) (aS (d:=31) rfl rfl (by rw[h.size];show 31<56;decide) e31) (Fg.run_move rfl e11)
     refine Fg.vS rfl (by decide) (fun ac w h=>?_) ?_
     .have e31:_=Value.bool false:=h.d 31
      have e32:_=Value.bool true:=h.d 32
      refine⟨aS (d:=31) rfl rfl (by rw[h.size];show 31<56;decide) e31,Value.bool false,w,?_,ah _ _,rfl⟩
      clear h
      simp only[execOp,Act.eval,e32]
      go_simp
     refine Fg.vS rfl (by decide) (fun ac w h=>?_) ?_
     .have e31:_=Value.bool false:=h.d 31
      have e33:_=Value.bool false:=h.d 33
      refine⟨aB rfl,Value.bool false,w,?_,ah _ _,rfl⟩
      clear h
      simp only[execOp,Act.eval,e31,e33]
      go_simp
     refine Fg.vS rfl (by decide) (fun _ _ h=>Fg.vn _ (Fg.run_move rfl (h.d 34))) ?_
     refine Fg.vS rfl (by decide) (fun ac w h=>?_) ?_
     .have e35:_=Value.bool false:=h.d 35
      have e7:_=Value.slice sF 32 (sc-32):=h.r 7
      exact Fg.vx (Value.slice sF 32 (sc-32)) (aS (d:=35) rfl rfl (by rw[h.size];show 35<56;decide) e35) (Fg.run_move rfl e7)
     refine Fg.cS rfl (by decide) (fun _ w h=>Fg.cz rfl (aS (d:=35) rfl rfl (by rw[h.size];show 35<56;decide) (h.d 35)) (BL (sc-32) Bs sF (s.drop 32) _ true hsd (HSF.out.stay (aj G h.base)) (HO0.kept (aj G h.base) (fun r e=>by cases e)) hq) ⟨h.d 36,trivial⟩ Tryz.func44) ?_
     refine Fg.vS rfl (by decide) (fun ac w h=>?_) ?_
     .have e35:_=Value.bool false:=h.d 35
      have e37:_=Value.bool true:=h.d 37
      refine⟨aS (d:=35) rfl rfl (by rw[h.size];show 35<56;decide) e35,Value.bool false,w,?_,ah _ _,rfl⟩
      clear h
      simp only[execOp,Act.eval,e37]
      go_simp
     refine Fg.vS rfl (by decide) (fun ac w h=>?_) ?_
     .have e35:_=Value.bool false:=h.d 35
      have e38:_=Value.bool false:=h.d 38
      refine⟨aB rfl,Value.bool false,w,?_,ah _ _,rfl⟩
      clear h
      simp only[execOp,Act.eval,e35,e38]
      go_simp
     trivial
    .intro qa V3 g3 hsz hdf hrest aC hpt
     obtain⟨⟨u13,dL⟩,⟨u14,dw⟩,⟨u15,dM⟩,⟨u16,dG⟩,⟨u17,eD⟩,⟨u18,eF⟩,⟨u19,eG⟩,⟨u20,dU⟩,⟨u21,eP⟩,⟨u22,eT⟩,⟨u23,dV⟩,⟨u24,dO⟩,⟨u25,eH⟩,⟨u26,eO⟩,⟨u27,fK⟩,⟨u28,jd⟩,⟨u29,kD⟩,⟨u30,iP⟩,⟨u31,gL⟩,⟨u32,jR⟩,⟨u33,jA⟩,⟨u34,iZ⟩,⟨u35,jS⟩,⟨u36,jT⟩,⟨u37,kU⟩,⟨u38,kV⟩,_⟩:=Fg.bn qa [13,14,15,16,17,18,19,20,21,22,23,24,25,26,27,28,29,30,31,32,33,34,35,36,37,38]
     obtain rfl:=Fg.aQ [13,14,15,16,17,18,19,20,21,22,23,24,25,26,27,28,29,30,31,32,33,34,35,36,37,38,39] (vs:=[_,_,_,_,_,_,_,_,_,_,_,_,_,u13,u14,u15,u16,u17,u18,u19,u20,u21,u22,u23,u24,u25,u26,u27,u28,u29,u30,u31,u32,u33,u34,u35,u36,u37,u38,Value.bool false,_,_,_,_,_,_,_,_,_,_,_,_,_,_,_,_]) hsz hrest (by kernel_rfl) rfl rfl ⟨dL,dw,dM,dG,eD,eF,eG,dU,eP,eT,dV,dO,eH,eO,fK,jd,kD,iP,gL,jR,jA,iZ,jS,jT,kU,kV,(show qa.tmps.getD 39 undef=Value.bool false from aC 39 (by kernel_rfl)),trivial⟩ hdf
     clear hsz hdf hrest aC hpt dL dw dM dG eD eF eG dU eP eT dV dO eH eO fK jd kD iP gL jR jA iZ jS jT kU kV
     replace gD:=gD.gn g3
     replace iR:=iR.gn g3
     replace G:=aj G g3
     replace HT:=HT.grown g3
     clear g3
     go_upto_region 8 with (fail)
     refine wp_region_lit ?_
     refine Fg.aL (v:=.slice bt mt ct) (w':=V3) rfl (Fg.run_move rfl rfl) ?_
     simp only[Act.put,List.setIfInBounds_toArray,List.set_cons_succ,List.set_cons_zero]
     refine Fg.aL (v:=.pointer (some ⟨Cn,20,none⟩)) (w':=V3) rfl (by go_simp) ?_
     simp only[Act.put,List.setIfInBounds_toArray,List.set_cons_succ,List.set_cons_zero]
     refine Fg.aL (v:=.slice sT 32 sc) (w':=V3) rfl (oL rfl rfl (iR.cell (i:=20) rfl)) ?_
     simp only[Act.put,List.setIfInBounds_toArray,List.set_cons_succ,List.set_cons_zero]
     refine Fg.aL (v:=.pointer (some ⟨N8,20,none⟩)) (w':=V3) rfl (by go_simp) ?_
     simp only[Act.put,List.setIfInBounds_toArray,List.set_cons_succ,List.set_cons_zero]
     refine Fg.aL (v:=.slice a n cap) (w':=V3) rfl (oL rfl rfl (gD.cell (i:=20) rfl)) ?_
     simp only[Act.put,List.setIfInBounds_toArray,List.set_cons_succ,List.set_cons_zero]
     have akc:=gD.lt
     have ah7:=iR.lt
     refine Fg.aL (v:=.slice (some ⟨V3.heap.size,0,none⟩) 2 2) (w':=V3.alloc (.cells #[.slice sT 32 sc,.slice a n cap] 22)) rfl (by go_simp) ?_
     simp only[Act.put,List.setIfInBounds_toArray,List.set_cons_succ,List.set_cons_zero]
     have gz:=av (ah V3 none) (.cells #[.slice sT 32 sc,.slice a n cap] 22)
     have hZ:=aH.new V3 [.slice sT 32 sc,.slice a n cap] 22
     have hwZ:w0.heap.size<=V3.heap.size:=G.size
     replace gD:=gD.gn gz
     replace iR:=iR.gn gz
     replace G:=aj G gz
     replace HT:=HT.grown gz
     clear gz
     obtain⟨Z,eZ⟩:∃x,x=V3.heap.size:=⟨_,rfl⟩
     rw[<- eZ]at hZ hwZ ⊢
     clear eZ
     revert gD iR G HT hZ
     generalize (V3.alloc (.cells #[.slice sT 32 sc,.slice a n cap] 22))=XZ
     intro gD iR G HT hZ
     have ah8:l.length=32:=by obtain⟨_,_,h,_⟩:=HYA.out.1 trivial;exact h
     refine Fg.bP rfl (Fg.aN (vs:=#[.slice bt mt ct,.slice (some ⟨Z,0,none⟩) 2 2]) rfl rfl (by simp only[List.map_toArray,List.map_cons,List.map_nil,Act.eval];rfl) (Fg.aI Tryz.func36 (by kernel_rfl) (by kernel_rfl))) ?_
     refine (Fh mt ct 2 2 _ _ bt (some ⟨Z,0,none⟩) pt [⟨sT,sc,s.take 32⟩,⟨a,cap,l⟩] XZ (HO0.kept G (fun r e=>by cases e)) (vN.kept G (fun b e=>by cases e)) hpt rfl (I7.out.grown G (Nat.le_refl _)) (TR hst hl hZ (HST.out.stay G) (EW.out.stay G)) hct (by decide) (by rw[xq];simp only[List.length_append];omega)).mono ?_
     rintro e YK ho
     rw[xq]at ho
     obtain⟨gk,rfl,ga,hnk,hbk⟩:=xk ho (fO _)
     refine⟨_,rfl,?_⟩
     clear ho
     obtain⟨kk,hkk⟩:∃k,k=DW (num (bE.sum ((s.take 32++l)++joined pt))):=⟨_,rfl⟩
     rw[<- hkk]at hbk
     have hkl:kk.length=32:=by rw[hkk];exact fO _
     have hkb:∀i,kk.getD i 0<256:=by rw[hkk];exact Bv _
     have HK:=Lib.hid hkk;clear hkk
     have hwk:w0.heap.size<=gk:=Nat.le_trans G.size hnk
     replace gD:=gD.gn ga
     replace iR:=iR.gn ga
     replace hZ:=hZ.gn ga
     replace G:=aj G ga
     replace HT:=HT.grown ga
     clear ga
     simp only[Act.put,List.setIfInBounds_toArray,List.set_cons_succ,List.set_cons_zero]
     refine Fg.aL (v:=.slice (some ⟨gk,0,none⟩) 32 32) (w':=YK) rfl (Fg.run_assign rfl rfl) ?_
     refine wpList_nil ?_
     simp only[Act.put,List.setIfInBounds_toArray,List.set_cons_succ,List.set_cons_zero]
     obtain⟨A,hA,_,eA⟩:=HYA.out.1 trivial
     obtain⟨R,hR,_,eR⟩:=HYR.out.1 trivial
     obtain⟨bb,hbb⟩:=Ug (Ed.add (bD (num kk) (Ed.neg A)) (bD (num (s.drop 32)) dA)=R)
     go_upto_region 9 with (fail)
     have UZ:=G.size
     have akd:=gD.lt
     have ah9:=iR.lt
     have ant:=hZ.lt
     have ake:=hbk.lt
     refine Fg.rT [] [.any,.any,.any,.any,.any,.any,.val (Value.bool bb),.any,.any,.any,.any,.any,.any,.any,.any,.any,.any,.any,.any,.any,.any,.any,.any,.any,.any,.any,.any,.any,.any,.any,.any,.any,.any,.any,.any,.any,.any,.any,.any,.any,.any,.any,.any,.any,.any,.any,.any,.val (Value.slice (some ⟨gk,0,none⟩) 32 32),.val (Value.pointer (some ⟨N8,0,none⟩)),.val (tA.v),.stands (Ed.neg A),.val (Value.slice sF 32 (sc-32)),.stands (Ed.add (bD (num kk) (Ed.neg A)) (bD (num (s.drop 32)) dA)),.val (Value.pointer (some ⟨Cn,0,none⟩)),.val (tR.v),.val (Value.bool bb)] 10 ?_ ?_
     .refine Fg.vS rfl (by decide) (fun _ _ h=>Fg.vn _ (Fg.run_move rfl (h.r 12))) ?_
      refine Fg.vS rfl (by decide) (fun ac w h=>?_) ?_
      .have e8:_=Value.pointer (some ⟨N8,0,none⟩):=h.r 8
       refine⟨aB rfl,Value.pointer (some ⟨N8,0,none⟩),w,?_,ah _ _,rfl⟩
       clear h
       simp only[execOp,Act.eval,e8]
       go_simp
      refine Fg.vS rfl (by decide) (fun _ _ h=>Fg.vn tA.v (Fg.run_load rfl (h.d 48) ((gD.gn h.base).range 0 (aY tA) rfl) Tryz.underlying56 rfl aP)) ?_
      refine Fg.cS rfl (by decide) (fun ac w h=>?_) ?_
      .have e49:_=tA.v:=h.d 49
       refine⟨aB rfl,47,#[tA.v],Fg.aN rfl rfl (by simp only[List.map_toArray,List.map_cons,List.map_nil,Act.eval,e49]) (Fg.aI Tryz.func47 (by kernel_rfl) (by kernel_rfl)),?_⟩
       exact (ac3 tA A _ (HT.grown h.base) hA).mono fun _ _ ⟨t,ht,he,hg⟩=>⟨_,he,hg,⟨t,rfl,ht⟩⟩
      refine Fg.vS rfl (by decide) (fun _ _ h=>Fg.vn _ (Fg.run_move rfl (h.r 7))) ?_
      refine Fg.cS rfl (by decide) (fun ac w h=>?_) ?_
      .have e47:_=Value.slice (some ⟨gk,0,none⟩) 32 32:=h.d 47
       obtain⟨t50,e50,aaE⟩:∃t:Pt,ac.tmps.getD 50 undef=t.v/\iO t (Ed.neg A):=h.dep 50 (by kernel_rfl)
       have e51:_=Value.slice sF 32 (sc-32):=h.d 51
       refine⟨aB rfl,46,#[Value.slice (some ⟨gk,0,none⟩) 32 32,t50.v,Value.slice sF 32 (sc-32)],Fg.aN rfl rfl (by simp only[List.map_toArray,List.map_cons,List.map_nil,Act.eval,e47,e50,e51]) (Fg.aI Tryz.func46 (by kernel_rfl) (by kernel_rfl)),?_⟩
       exact (aaA t50 (Ed.neg A) kk (s.drop 32) 32 (sc-32) _ Bs (some ⟨gk,0,none⟩) sF _ (HT.grown h.base) aaE hkl hsd (Lib.hid (Jc (hbk.gn h.base) hkl hkb)) (Lib.hid (HSF.out.stay (aj G h.base)))).mono fun _ _ ⟨t,ht,he,hg⟩=>⟨_,he,hg,⟨t,rfl,ht⟩⟩
      refine Fg.vS rfl (by decide) (fun ac w h=>?_) ?_
      .have e10:_=Value.pointer (some ⟨Cn,0,none⟩):=h.r 10
       refine⟨aB rfl,Value.pointer (some ⟨Cn,0,none⟩),w,?_,ah _ _,rfl⟩
       clear h
       simp only[execOp,Act.eval,e10]
       go_simp
      refine Fg.vS rfl (by decide) (fun _ _ h=>Fg.vn tR.v (Fg.run_load rfl (h.d 53) ((iR.gn h.base).range 0 (aY tR) rfl) Tryz.underlying56 rfl aP)) ?_
      refine Fg.cS rfl (by decide) (fun ac w h=>?_) ?_
      .obtain⟨t52,e52,aaF⟩:∃t:Pt,ac.tmps.getD 52 undef=t.v/\iO t (Ed.add (bD (num kk) (Ed.neg A)) (bD (num (s.drop 32)) dA)):=h.dep 52 (by kernel_rfl)
       have e54:_=tR.v:=h.d 54
       refine⟨aB rfl,45,#[t52.v,tR.v],Fg.aN rfl rfl (by simp only[List.map_toArray,List.map_cons,List.map_nil,Act.eval,e52,e54]) (Fg.aI Tryz.func45 (by kernel_rfl) (by kernel_rfl)),?_⟩
       exact (Uf (b:=bb) _ aaF hR hbb).mono fun _ _ ⟨he,hg⟩=>⟨_,he,hg,rfl⟩
      refine Fg.vS rfl (by decide) (fun _ _ h=>Fg.vn _ (Fg.run_assign rfl (h.d 55))) ?_
      trivial
     .intro qa V4 g4 hsz hdf hrest aC hpt
      obtain⟨⟨u40,oG⟩,⟨u41,qC⟩,⟨u42,mJ⟩,⟨u43,sZ⟩,⟨u44,qD⟩,⟨u45,mK⟩,⟨u46,mM⟩,⟨u47,oH⟩,⟨u48,tq⟩,⟨u49,Il⟩,⟨u50,Im⟩,⟨u51,Tc⟩,⟨u52,Ii⟩,⟨u53,Te⟩,⟨u54,Ij⟩,⟨u55,Ik⟩,_⟩:=Fg.bn qa [40,41,42,43,44,45,46,47,48,49,50,51,52,53,54,55]
      obtain rfl:=Fg.aQ [6,40,41,42,43,44,45,46,47,48,49,50,51,52,53,54,55] (vs:=[_,_,_,_,_,_,Value.bool bb,_,_,_,_,_,_,_,_,_,_,_,_,_,_,_,_,_,_,_,_,_,_,_,_,_,_,_,_,_,_,_,_,_,u40,u41,u42,u43,u44,u45,u46,u47,u48,u49,u50,u51,u52,u53,u54,u55]) hsz hrest (by kernel_rfl) rfl rfl ⟨(show qa.tmps.getD 6 undef=Value.bool bb from aC 6 (by kernel_rfl)),oG,qC,mJ,sZ,qD,mK,mM,oH,tq,Il,Im,Tc,Ii,Te,Ij,Ik,trivial⟩ hdf
      clear hsz hdf hrest aC hpt oG qC mJ sZ qD mK mM oH tq Il Im Tc Ii Te Ij Ik
      replace gD:=gD.gn g4
      replace iR:=iR.gn g4
      replace hZ:=hZ.gn g4
      replace hbk:=hbk.gn g4
      replace G:=aj G g4
      replace HT:=HT.grown g4
      clear g4
      go_wp2_with fail
      go_ret
      exact⟨bb,rfl,G,Xj ah8 hA.on eA hR.on eR (of_decide_eq_true hq) (by rw[<- HK.out];exact hbb)⟩
end
namespace Ed
open Num
structure Fr where
  X:F
  Y:F
  Z:F
structure BM (s:Fr) (p:Pr):Prop where
  on:On p
  z:s.Z≠0
  x:s.X=s.Z*p.x
  y:s.Y=s.Z*p.y
def oQ (s t:Fr):Fr:=
  ⟨(s.Z*t.Z)*(((s.Z*t.Z)*(s.Z*t.Z)-d*((s.X*t.X)*(s.Y*t.Y)))*(s.X*t.Y+t.X*s.Y)),
   (s.Z*t.Z)*(((s.Z*t.Z)*(s.Z*t.Z)+d*((s.X*t.X)*(s.Y*t.Y)))*(s.X*t.X+s.Y*t.Y)),
   ((s.Z*t.Z)*(s.Z*t.Z)-d*((s.X*t.X)*(s.Y*t.Y)))*((s.Z*t.Z)*(s.Z*t.Z)+d*((s.X*t.X)*(s.Y*t.Y)))⟩
section
variable {n:Nat} [NeZero n]
theorem f_1 (d X Y Z x y X' Y' Z' x' y':Fin n) (hX:X=Z*x) (hY:Y=Z*y) (hX':X'=Z'*x') (hY':Y'=Z'*y'):
    (Z*Z')*(Z*Z')-d*((X*X')*(Y*Y'))=(Z*Z')*(Z*Z')*(1-d*(x*x'*y*y'))/\(Z*Z')*(Z*Z')+d*((X*X')*(Y*Y'))=(Z*Z')*(Z*Z')*(1+d*(x*x'*y*y'))/\X*Y'+X'*Y=(Z*Z')*(x*y'+x'*y)/\X*X'+Y*Y'=(Z*Z')*(y*y'+x*x'):=by grind
theorem f_2 (A m l c x:Fin n) (h:m*x=c):A*((A*A*l)*(A*c))=(A*A*l)*(A*A*m)*x:=by grind
theorem f_3 (A m l c y:Fin n) (h:l*y=c):A*((A*A*m)*(A*c))=(A*A*l)*(A*A*m)*y:=by grind
end
theorem Nv {s t:Fr} {p q:Pr} (h:BM s p) (k:BM t q):BM (oQ s t) (add p q):=by
  obtain⟨h1,h2,h3,h4⟩:=f_1 d _ _ _ _ _ _ _ _ _ _ h.x h.y k.x k.y
  have nz:=eX h.z k.z
  have n1:=eX (eX nz nz) (mF h.on k.on)
  have n2:=eX (eX nz nz) (pE h.on k.on)
  have ax:=yL h.on k.on
  have ay:=yM h.on k.on
  unfold tt at n1 n2 ax ay
  refine⟨sQ h.on k.on,?_,?_,?_⟩
  . unfold oQ;dsimp only;rw[h1,h2];exact eX n1 n2
  . unfold oQ;dsimp only;rw[h1,h2,h3];exact f_2 _ _ _ _ _ ax
  . unfold oQ;dsimp only;rw[h1,h2,h4];exact f_3 _ _ _ _ _ ay
theorem aia {s t:Fr} {p q:Pr} (h:BM s p) (k:BM t q):(s.X*t.Z=t.X*s.Z/\s.Y*t.Z=t.Y*s.Z)↔p=q:=by
  rw[e_9 h.x k.x,e_9 h.y k.y]
  have hz:=eX h.z k.z
  exact⟨fun⟨h1,h2⟩=>ext (cancel hz h1) (cancel hz h2),fun e=>by rw[e];exact⟨rfl,rfl⟩⟩
def Uh (l:List Bool):Nat:=l.foldl (fun n b=>2*n+b.toNat) 0
theorem P7 (l:List Bool) (b:Bool):Uh (l++[b])=2*Uh l+b.toNat:=by simp[Uh]
def aeb (p:Fr) (l:List Bool):Fr:=l.foldl (fun s b=>if b then oQ (oQ s s) p else oQ s s) ⟨0,1,1⟩
theorem Ui:BM ⟨0,1,1⟩ zero:=⟨pF,uZ,e_7.1,e_7.2.1⟩
theorem Uj {p:Pr} (hp:On p) (k:Nat):add (bD k p) (bD k p)=bD (2*k) p:=by rw[Nat.two_mul,iX hp]
theorem aec {s:Fr} {p:Pr} (h:BM s p) (l:List Bool):BM (aeb s l) (bD (Uh l) p):=by
  have gen:∀(l:List Bool) (t:Fr) (k:Nat),BM t (bD k p)->BM (l.foldl (fun s' b=>if b then oQ (oQ s' s') s else oQ s' s') t) (bD (l.foldl (fun n b=>2*n+b.toNat) k) p):=by
    intro l
    induction l with
    | nil=>intro t k ht;exact ht
    | cons b r ih=>
      intro t k ht
      have h2:=Nv ht ht
      rw[Uj h.on]at h2
      cases b
      . exact ih _ _ (by simpa using h2)
      . refine ih _ _ ?_
        have h3:=Nv h2 h
        exact h3
  exact gen l ⟨0,1,1⟩ 0 Ui
structure N3 where
  x:Nat
  y:Nat
  z:Nat
def N3.f (a:N3):Fr:=⟨Fin.ofNat _ a.x,Fin.ofNat _ a.y,Fin.ofNat _ a.z⟩
def force {α:Type} (n:Nat) (k:Nat->α):α:=Nat.rec (k 0) (fun m _=>k (m+1)) n
theorem Uk {α:Type} (n:Nat) (k:Nat->α):force n k=k n:=by cases n<;>rfl
def addN (s t:N3) (k:N3->N3):N3:=
  force (s.z*t.z%Fe.P) fun a=>force (a*a%Fe.P) fun b=>force (s.x*t.x%Fe.P) fun c=>force (s.y*t.y%Fe.P) fun e=>
  force (dN*(c*e)%Fe.P) fun f=>force (b+(Fe.P-f)) fun l=>force (b+f) fun m=>force (a*(l*(s.x*t.y+t.x*s.y))%Fe.P) fun x=>
  force (a*(m*(c+e))%Fe.P) fun y=>force (l*m%Fe.P) fun z=>k ⟨x,y,z⟩
def BN (p:N3):List Bool->N3->N3
  | [],s=>s
  | b:: r,s=>addN s s fun s2=>if b then addN s2 p (BN p r) else BN p r s2
theorem ofNat_mod (a:Nat):(Fin.ofNat Fe.P (a%Fe.P))=Fin.ofNat Fe.P a:=Fin.ext (by simp)
theorem ofNat_mul (a b:Nat):(Fin.ofNat Fe.P (a*b))=Fin.ofNat Fe.P a*Fin.ofNat Fe.P b:=Fin.ext (by simp[Fin.val_mul])
theorem ofNat_add (a b:Nat):(Fin.ofNat Fe.P (a+b))=Fin.ofNat Fe.P a+Fin.ofNat Fe.P b:=Fin.ext (by simp[Fin.val_add])
theorem Xl {n:Nat} [NeZero n] {x y z:Fin n} (h:x+y=z):x=z-y:=by grind
theorem ofNat_sub {a:Nat} (h:a<Fe.P) (b:Nat):(Fin.ofNat Fe.P (b+(Fe.P-a)))=Fin.ofNat Fe.P b-Fin.ofNat Fe.P a:=by
  apply Xl
  rw[<- ofNat_add,show b+(Fe.P-a)+a=b+Fe.P by omega]
  exact Fin.ext (by simp)
theorem Xm:Fin.ofNat Fe.P dN=d:=by decide +kernel
theorem Nw (s t:N3) (k:N3->N3):∃u,addN s t k=k u/\u.f=oQ s.f t.f:=by
  unfold addN
  simp only[Uk]
  refine⟨_,rfl,?_⟩
  have hl:dN*(s.x*t.x%Fe.P*(s.y*t.y%Fe.P))%Fe.P<Fe.P:=Nat.mod_lt _ (Nat.pos_of_ne_zero Zn)
  unfold N3.f oQ
  simp only[ofNat_mod,ofNat_mul,ofNat_sub hl,ofNat_add,Xm]
theorem Xn (p:N3):∀(l:List Bool) (s:N3),(BN p l s).f=l.foldl (fun s' b=>if b then oQ (oQ s' s') p.f else oQ s' s') s.f:=by
  intro l
  induction l with
  | nil=>intro s;rfl
  | cons b r ih=>
    intro s
    obtain⟨u,hu,hf⟩:=Nw s s fun s2=>if b then addN s2 p (BN p r) else BN p r s2
    show (addN s s fun s2=>if b then addN s2 p (BN p r) else BN p r s2).f=_
    rw[hu]
    cases b
    . rw[List.foldl_cons,<- hf];exact ih u
    . obtain⟨v,hv,hg⟩:=Nw u p (BN p r)
      rw[List.foldl_cons,if_pos rfl,if_pos rfl,<- hf,<- hg,hv];exact ih v
def xw:Nat->Nat->List Bool
  | 0,_=>[]
  | k+1,n=>xw k (n/2)++[n%2==1]
theorem P8:∀k n,n<2^k->Uh (xw k n)=n:=by
  intro k
  induction k with
  | zero=>
            intro n h;have:n=0:=by simpa using h
            subst this;rfl
  | succ k ih=>
    intro n h
    rw[xw,P7,ih (n/2) (by rw[Nat.pow_succ]at h;omega)]
    rcases Nat.mod_two_eq_zero_or_one n with e|e<;>rw[e]<;>simp<;>omega
def Lo:Nat:=7237005577332262213973186563042994240857116359379907606001950938285454250989
def BO:N3:=⟨15112221349535400772501151409588531511454012693041857206046113283949847762202,46316835694926478169428394003475163141307993866256225615783033603165251855960,1⟩
theorem Xo:BO.f=⟨dA.x,dA.y,1⟩:=by
  have h1:Fin.ofNat Fe.P BO.x=dA.x:=by decide +kernel
  have h2:Fin.ofNat Fe.P BO.y=dA.y:=by decide +kernel
  show (⟨_,_,_⟩:Fr)=_
  rw[h1,h2]
  congr 1
theorem aaG:BM ⟨dA.x,dA.y,1⟩ dA:=⟨jV,uZ,KL _ _ rfl,KL _ _ rfl⟩
def Ny (a:N3):Bool:=a.x%Fe.P==0&&a.y%Fe.P==a.z%Fe.P
theorem BP:Ny (BN BO (xw 253 Lo) ⟨0,1,1⟩)=true:=by decide +kernel
theorem LM:bD Lo dA=zero:=by
  have h:=aec aaG (xw 253 Lo)
  rw[P8 253 Lo (by decide +kernel)]at h
  have e:=Xn BO (xw 253 Lo) ⟨0,1,1⟩
  rw[Xo]at e
  have ez:(⟨0,1,1⟩:N3).f=(⟨0,1,1⟩:Fr):=rfl
  rw[ez]at e
  have e2:aeb ⟨dA.x,dA.y,1⟩ (xw 253 Lo)=(BN BO (xw 253 Lo) ⟨0,1,1⟩).f:=e.symm
  rw[e2]at h
  have hz:=BP
  generalize BN BO (xw 253 Lo) ⟨0,1,1⟩=r at *
  unfold Ny at hz
  simp only[Bool.and_eq_true,beq_iff_eq]at hz
  apply (aia h Ui).1
  have hx:r.f.X=0:=Fin.ext (by show r.x%Fe.P=_;rw[hz.1];exact kC.symm)
  have hy:r.f.Y=r.f.Z:=Fin.ext hz.2
  rw[hx,hy]
  exact⟨f_5 _,f_6 _⟩
where
  f_5 {n:Nat} [NeZero n] (z:Fin n):0*1=0*z:=by grind
  f_6 {n:Nat} [NeZero n] (z:Fin n):z*1=1*z:=by grind
theorem CW (a:Nat):bD a dA=bD (a%Lo) dA:=by
  have h:a=Lo*(a/Lo)+a%Lo:=(Nat.div_add_mod a Lo).symm
  have e:bD a dA=bD (Lo*(a/Lo)+a%Lo) dA:=congrArg (fun n=>bD n dA) h
  rw[e,iX jV,qA jV,LM,xU,zero_add (dx jV _)]
end Ed
section
open Go.RowKit Ow Ed
theorem aib:Sc.L=Lo:=by decide +kernel
theorem Ul (k s r:Nat):Ed.add (bD k (Ed.neg (bD s dA))) (bD ((k*s+r)%Sc.L) dA)=bD r dA:=by
 have hA:=dx jV s
 have hN:=xS hA
 have h0:Ed.add (bD k (Ed.neg (bD s dA))) (bD k (bD s dA))=zero:=by
  rw[<- AP hN hA,Ed.add_comm,add_neg hA,xU]
 rw[aib,<- CW,iX jV,Nat.mul_comm k s,qA jV,<- add_assoc (dx hN k) (dx hA k) (dx jV r),h0,zero_add (dx jV r)]
theorem Nz (l m:List Nat):num (sgS l m)=(num (sgk l m)*num (CV l)+num (sgr l m))%Sc.L:=WK _
theorem Xp (l m:List Nat):(sgS l m).length=32:=fO _
theorem Xq (l m:List Nat):(Nu l m).length=64:=by unfold Nu;rw[List.length_append,iQ,Xp]
theorem Jl (l m:List Nat):(Nu l m).take 32=j5 (enc (YJ l m)):=by
 unfold Nu
 rw[List.take_left' (iQ _)]
theorem Jm (l m:List Nat):(Nu l m).drop 32=sgS l m:=by
 unfold Nu
 rw[List.drop_left' (iQ _)]
theorem aaH (l m:List Nat) (i:Nat):(Nu l m).getD i 0<256:=by
 unfold Nu
 by_cases h:i<32
 .rw[List.getD_eq_getElem?_getD,List.getElem?_append_left (by rw[iQ];exact h),<- List.getD_eq_getElem?_getD]
  exact EM _ i
 .rw[List.getD_eq_getElem?_getD,List.getElem?_append_right (by rw[iQ];omega),<- List.getD_eq_getElem?_getD]
  exact Bv _ _
theorem aaI (l:List Nat):On (Nt l):=dx jV _
theorem aaJ (l m:List Nat):On (YJ l m):=dx jV _
theorem Um (l m:List Nat):P6 (j5 (enc (Nt l))) (Nu l m) m:=by
 refine⟨iQ _,Nt l,YJ l m,aaI l,(Ht (EN _).1 (EN _).2).symm,aaJ l m,?_,?_,?_⟩
 .rw[Jl];exact (Ht (EN _).1 (EN _).2).symm
 .rw[Jm,Nz];exact Nat.mod_lt _ (by decide +kernel)
 .rw[Jm,Jl,Nz]
  exact Ul _ _ _
end
section
open Go.RowKit Ow Wi Ve Rc Sb
namespace Gr
def Fu (w:World) (l:List Nat) (r:R) (e:Ending) (w':World):Prop:=∃q':L,e=.returned (.tuple #[q'.v (rJ l r),.int .i64 0])/\w.grownBy w' none/\Vi w' w.heap.size q' (rJ l r)
theorem Un {w wq:World} {B base:Nat} {q:L} {r:R} (h:mV w B q r) (hg:w.grownBy wq none) {a1 a2:Option Addr} {c1 c2:Nat} (h1:ji wq base (.slice a1 q.n1 c1) q.n1 r.cx) (h2:wq.ownsRow base 5 1 (.slice a2 q.n2 c2) q.n2 (r.val.map dD)):
  mV wq wq.heap.size ⟨q.s,a1,q.n1,c1,a2,q.n2,c2,q.a3,q.n3,q.c3⟩ r:=by
 obtain⟨a',c',e3,hl1,_,hd⟩:=Aj h1
 simp only[Value.slice.injEq,true_and]at e3
 obtain⟨a5,c5,e5,_,hv,_⟩:=jB h2 h.val.byte
 simp only[Value.slice.injEq,true_and]at e5
 rw[<- e3.1]at hd
 rw[<- e5.1,<- e5.2]at hv
 exact⟨h.str,hl1,h.l2,h.l3,hd,hv,((h.sig.stay hg).up (Nat.le_trans h.sig.lim hg.size) (Nat.le_refl _)),h.top⟩
set_option maxHeartbeats 4000000 in
set_option maxRecDepth 100000 in
theorem Uo (l:List Nat) (r:R) (B cap Bs:Nat) (a:Option Addr) (w:World) (q:L) (hO:oI w) (hT:eY w) (hS:Tables w) (hl:l.length=32) (hP:BytesAt w Bs a cap l) (h:mV w B q r) (hs:gV r=true):
  Calls Tryz.prog 10 #[.slice a 32 cap,q.v r] w (Fu w l r):=by
 have HTS:=Lib.hid (lK h hs)
 have HL:Hid (q.n1<=8/\q.n2<=2000):=by
  obtain⟨_,h2,_,h4,h5,_⟩:=sG hs
  have:=h4.len (by decide);have:=h.l1;have:=h.l2
  exact⟨by omega,by omega⟩
 have HSh:=Lib.hid (fun w' (hg:w.grownBy w' none)=>qP true r B w' q (h.stay hg) hs)
 have HD:=Lib.hid (fun w' (hg:w.grownBy w' none)=>Kj B q.n1 q.c1 q.a1 r.cx w' h.l1 (by have:=HL.out.1;omega) (h.dots.stay hg))
 have HV:=Lib.hid (fun w' (hg:w.grownBy w' none)=>Kk B q.n2 q.c2 q.a2 r.val w' h.l2 (by have:=HL.out.2;omega) (h.val.stay hg))
 have HX:Hid (∀(wq w':World) (a1 a2:Option Addr) (c1 c2 base:Nat),w.grownBy wq none->ji wq base (.slice a1 q.n1 c1) q.n1 r.cx->wq.ownsRow base 5 1 (.slice a2 q.n2 c2) q.n2 (r.val.map dD)->wq.grownBy w' none->Calls Tryz.prog 23 #[(L.mk q.s a1 q.n1 c1 a2 q.n2 c2 q.a3 q.n3 q.c3).v r] w' (Cq w' (dZ r))):=fun wq w' a1 a2 c1 c2 base hg h1 h2 hk=>
  (F5 r _ w' _ ((Un h hg h1 h2).stay hk) hs).mono fun _ _ ⟨_,he,hg,ho⟩=>he▸wo hg ho rfl HTS.out.2
 have HN:Hid (∀(w':World) (N aT:Nat) (bT:Option Addr),w.grownBy w' none->aH w' N 22 [.slice bT (dZ r).length aT]->BytesAt w' w'.heap.size bT aT (dZ r)->Calls Tryz.prog 22 #[.slice a 32 cap,.slice (some ⟨N,0,none⟩) 1 1] w' fun e w''=>∃(gs c:Nat),e=.returned (.slice (some ⟨gs,0,none⟩) 64 c)/\w'.grownBy w'' none/\w''.ownsRow w'.heap.size 5 1 (.slice (some ⟨gs,0,none⟩) 64 c) 64 ((Nu l (dZ r)).map dD)):=fun w' N aT bT hg hb hB=>by
  have hj:joined [⟨bT,aT,dZ r⟩]=dZ r:=by simp[joined]
  have hv:=TY l cap Bs 1 1 w'.heap.size a (some ⟨N,0,none⟩) [⟨bT,aT,dZ r⟩] w' (hO.kept hg (fun b e=>by cases e)) (hT.grown hg) (hS.kept hg (fun b e=>by cases e)) hl (Lib.hid (hP.stay hg)) rfl (Lib.hid (Fp rfl hb hB)) (by decide) (by rw[hj];have:=HTS.out.1;omega)
  rw[hj]at hv
  exact hv.mono fun e w'' ⟨gs,c,he,hg2,_,ho⟩=>⟨gs,c,he,hg2,ho⟩
 have HK:=Lib.hid (And.intro h.str (And.intro h.val.byte h.top))
 have HB:Hid (∀i,(Nu l (dZ r)).getD i 0<256):=Lib.hid (fun i=>aaH l (dZ r) i)
 obtain⟨Q,hQ⟩:∃Q,Q=Fu w l r:=⟨_,rfl⟩
 rw[<- hQ]
 have HQ:=Lib.hid hQ;clear hQ h hs hO hT hS hl hP HL
 obtain⟨s,a1,n1,c1,a2,n2,c2,a3,n3,c3⟩:=q
 obtain⟨key,cl,sq,cx,g,val,sig⟩:=r
 obtain⟨T,hT⟩:∃T,T=dZ ⟨key,cl,sq,cx,g,val,sig⟩:=⟨_,rfl⟩
 rw[<- hT]at HX HN HB
 have HT:=Lib.hid hT
 clear HTS hT
 try simp only at HD
 try simp only at HV
 try simp only at HK
 replace HSh:Hid (∀w' (_:w.grownBy w' none),Calls Tryz.prog 19 #[vV s cl sq a1 n1 c1 g a2 n2 c2 a3 n3 c3] w' fun e w''=>e=.returned (.bool true)/\w'.grownBy w'' none):=HSh
 show Calls _ _ #[.slice a 32 cap,vV s cl sq a1 n1 c1 g a2 n2 c2 a3 n3 c3] w _
 obtain⟨M,hM⟩:∃M,M=w.heap.size+1:=⟨_,rfl⟩
 obtain⟨K,hK⟩:∃K,K=w.heap.size+1+1:=⟨_,rfl⟩
 obtain⟨W1,hW1⟩:∃W1,W1=((w.alloc (.cells #[.string s,iV cl,iV sq,.slice a1 n1 c1,.bool g,.slice a2 n2 c2,.slice a3 n3 c3] 25)).alloc (.cells z7.toArray 25)).alloc (.cells #[.string s,iV cl,iV sq,.slice a1 n1 c1,.bool g,.slice a2 n2 c2,.slice a3 n3 c3] 46):=⟨_,rfl⟩
 have hG0:w.grownBy W1 none:=by rw[hW1];exact av (av (av (ah _ _) _) _) _
 have hB0:aH W1 M 25 z7:=by rw[hW1,hM,<- World.size_alloc];exact (aH.new _ _ _).alloc _
 have hB1:aH W1 K 46 [.string s,iV cl,iV sq,.slice a1 n1 c1,.bool g,.slice a2 n2 c2,.slice a3 n3 c3]:=by rw[hW1,hK,<- World.size_alloc,<- World.size_alloc];exact aH.new _ _ _
 have jg:=Lib.hid (And.intro hG0 (And.intro hB0 (And.intro hB1 (show w.heap.size<=M/\w.heap.size<=K/\M≠K by omega))));clear hG0 hB0 hB1
 unfold z7 Eo iV at hW1
 go_enter Tryz.func10,Tryz.ntmps10
 go_wp2_with fail
 rw[<- hW1,<- hK,<- hM]
 clear hW1 hM hK
 refine (HSh.out _ jg.out.1).mono ?_
 rintro e W0 ⟨rfl,hg⟩
 have iA:=Lib.hid (And.intro (aj jg.out.1 hg) (And.intro (jg.out.2.1.gn hg) (And.intro (jg.out.2.2.1.gn hg) jg.out.2.2.2)));clear hg
 clear jg HSh W1
 go_upto_region 6 with fail
 refine Fg.sD [] [.any,.any,.any,.any,.any,.any,.any,.any,.any,.any,.any,.any,.any,.any,.any,.any,.any,.val (Value.pointer (some ⟨K,0,none⟩)),.val (Value.pointer (some ⟨K,3,none⟩)),.val (Value.slice a1 n1 c1),.own (W0.heap.size) 42 2 n1 (jw cx),.val (Value.pointer (some ⟨K,0,none⟩)),.val (Value.pointer (some ⟨K,5,none⟩)),.val (Value.slice a2 n2 c2),.own (W0.heap.size) 5 1 n2 (val.map dD),.val (Value.pointer (some ⟨K,0,none⟩)),.val (Value.pointer (some ⟨K,3,none⟩))] W0 10 (ah _ _) (by kernel_rfl) (by kernel_rfl) (by kernel_rfl) (by kernel_rfl) (by decide) (by kernel_rfl) ?_ ?_
 .refine⟨Fg.vT rfl (by decide) fun ac w h=>?_,?_⟩
  .have e6:_=Value.pointer (some ⟨K,0,none⟩):=h.r 6
   refine⟨Value.pointer (some ⟨K,0,none⟩),w,aB rfl,?_,ah _ _,rfl⟩
   clear h
   simp only[execOp,Act.eval,e6]
   go_simp
  refine⟨Fg.vT rfl (by decide) fun ac w h=>?_,?_⟩
  .have e17:_=Value.pointer (some ⟨K,0,none⟩):=h.d 17
   refine⟨Value.pointer (some ⟨K,3,none⟩),w,aB rfl,?_,ah _ _,rfl⟩
   clear h
   simp only[execOp,Act.eval,e17]
   go_simp
  refine⟨Fg.vT rfl (by decide) fun ac w h=>?_,?_⟩
  .have e18:_=Value.pointer (some ⟨K,3,none⟩):=h.d 18
   have m3:=((iA.out.2.2.1).grown h.base (by simp)).cell (i:=3) rfl
   refine⟨Value.slice a1 n1 c1,w,aB rfl,?_,ah _ _,rfl⟩
   clear h
   simp only[execOp,Act.eval,e18]
   go_simp
  refine⟨Fg.cT rfl (by decide) fun ac w h=>?_,?_⟩
  .have e19:_=Value.slice a1 n1 c1:=h.d 19
   refine⟨20,#[Value.slice a1 n1 c1],aB rfl,Fg.aN rfl rfl (by simp only[List.map_toArray,List.map_cons,List.map_nil,Act.eval,e19]) (Fg.aI Tryz.func20 (by kernel_rfl) (by kernel_rfl)),?_⟩
   exact (F9 (HD.out w (aj iA.out.1 h.base)) h.base.size).mono fun _ _ ⟨v,he,hg,hb⟩=>⟨v,he,hg,hb⟩
  refine⟨Fg.vT rfl (by decide) fun ac w h=>?_,?_⟩
  .have e6:_=Value.pointer (some ⟨K,0,none⟩):=h.r 6
   refine⟨Value.pointer (some ⟨K,0,none⟩),w,aB rfl,?_,ah _ _,rfl⟩
   clear h
   simp only[execOp,Act.eval,e6]
   go_simp
  refine⟨Fg.vT rfl (by decide) fun ac w h=>?_,?_⟩
  .have e21:_=Value.pointer (some ⟨K,0,none⟩):=h.d 21
   refine⟨Value.pointer (some ⟨K,5,none⟩),w,aB rfl,?_,ah _ _,rfl⟩
   clear h
   simp only[execOp,Act.eval,e21]
   go_simp
  refine⟨Fg.vT rfl (by decide) fun ac w h=>?_,?_⟩
  .have e22:_=Value.pointer (some ⟨K,5,none⟩):=h.d 22
   have m5:=((iA.out.2.2.1).grown h.base (by simp)).cell (i:=5) rfl
   refine⟨Value.slice a2 n2 c2,w,aB rfl,?_,ah _ _,rfl⟩
   clear h
   simp only[execOp,Act.eval,e22]
   go_simp
  refine⟨Fg.cT rfl (by decide) fun ac w h=>?_,?_⟩
  .have e23:_=Value.slice a2 n2 c2:=h.d 23
   refine⟨21,#[Value.slice a2 n2 c2],aB rfl,Fg.aN rfl rfl (by simp only[List.map_toArray,List.map_cons,List.map_nil,Act.eval,e23]) (Fg.aI Tryz.func21 (by kernel_rfl) (by kernel_rfl)),?_⟩
   exact (F9 (HV.out w (aj iA.out.1 h.base)) h.base.size).mono fun _ _ ⟨v,he,hg,hb⟩=>⟨v,he,hg,hb⟩
  refine⟨Fg.vT rfl (by decide) fun ac w h=>?_,?_⟩
  .have e6:_=Value.pointer (some ⟨K,0,none⟩):=h.r 6
   refine⟨Value.pointer (some ⟨K,0,none⟩),w,aB rfl,?_,ah _ _,rfl⟩
   clear h
   simp only[execOp,Act.eval,e6]
   go_simp
  refine⟨Fg.vT rfl (by decide) fun ac w h=>?_,?_⟩
  .have e25:_=Value.pointer (some ⟨K,0,none⟩):=h.d 25
   refine⟨Value.pointer (some ⟨K,3,none⟩),w,aB rfl,?_,ah _ _,rfl⟩
   clear h
   simp only[execOp,Act.eval,e25]
   go_simp
  trivial
 .intro aq wq hB hsz hdf hrest aC hpt
  obtain⟨⟨u1,e1⟩,⟨u3,e3⟩,⟨u7,e7⟩,⟨u8,e8⟩,⟨u9,e9⟩,⟨u11,e11⟩,⟨u12,e12⟩,⟨u13,e13⟩,⟨u14,e14⟩,⟨u15,e15⟩,⟨u17,e17⟩,⟨u18,e18⟩,⟨u19,e19⟩,_⟩:=Fg.bn aq [1,3,7,8,9,11,12,13,14,15,17,18,19]
  obtain⟨v20,e20,b20⟩:∃v,aq.tmps.getD 20 undef=v/\wq.ownsRow (W0.heap.size) 42 2 v n1 (jw cx):=aC 20 (by kernel_rfl)
  obtain⟨⟨u21,e21⟩,⟨u22,e22⟩,⟨u23,e23⟩,_⟩:=Fg.bn aq [21,22,23]
  obtain⟨v24,e24,b24⟩:∃v,aq.tmps.getD 24 undef=v/\wq.ownsRow (W0.heap.size) 5 1 v n2 (val.map dD):=aC 24 (by kernel_rfl)
  have e25:aq.tmps.getD 25 undef=Value.pointer (some ⟨K,0,none⟩):=aC 25 (by kernel_rfl)
  have e26:aq.tmps.getD 26 undef=Value.pointer (some ⟨K,3,none⟩):=aC 26 (by kernel_rfl)
  obtain rfl:=Fg.aQ [1,3,7,8,9,11,12,13,14,15,17,18,19,20,21,22,23,24,25,26] (vs:=[_,u1,_,u3,_,_,_,u7,u8,u9,_,u11,u12,u13,u14,u15,_,u17,u18,u19,v20,u21,u22,u23,v24,Value.pointer (some ⟨K,0,none⟩),Value.pointer (some ⟨K,3,none⟩),_,_,_,_,_,_,_,_,_,_,_]) hsz hrest (by kernel_rfl) rfl rfl ⟨e1,e3,e7,e8,e9,e11,e12,e13,e14,e15,e17,e18,e19,e20,e21,e22,e23,e24,e25,e26,trivial⟩ hdf
  clear hsz hdf hrest aC hpt e1 e3 e7 e8 e9 e11 e12 e13 e14 e15 e17 e18 e19 e20 e21 e22 e23 e24 e25 e26
  obtain⟨x1,y1,rfl⟩:=nZ b20
  obtain⟨x2,y2,rfl⟩:=sI b24
  have bM:=iA.out.2.1.gn hB
  have bK:=iA.out.2.2.1.gn hB
  have HX1:=Lib.hid (And.intro hB (And.intro bM (And.intro bK (And.intro b20 b24))))
  have c3':=bK.cell (i:=3) rfl
  have f3:=bK.free 3
  have c5':=bK.cell (i:=5) rfl
  have f5:=bK.free 5
  clear bM bK hB b20 b24
  go_upto_region 7 with fail
  clear c3' f3 c5' f5
  obtain⟨hB,bM,bK,b1,b2⟩:=HX1.out
  obtain⟨_,_,_,hwM,hwK,hMK⟩:=iA.out
  have kg:=aj iA.out.1 hB
  have q1:=aJ (ah wq (some K)) 3 (.slice x1 n1 y1)
  replace b1:=dQ b1 bK (by decide) q1
  replace b2:=dQ b2 bK (by decide) q1
  replace bM:=bM.other (a:=⟨K,3,none⟩) (fun e=>hMK e.symm) (.slice x1 n1 y1)
  replace kg:=aO kg (p:=⟨K,3,none⟩) hwK (.slice x1 n1 y1)
  replace bK:=bK.set 3 (.slice x1 n1 y1)
  generalize wq.setCell ⟨K,3,none⟩ (.slice x1 n1 y1)=wa at *
  have q2:=aJ (ah wa (some K)) 5 (.slice x2 n2 y2)
  replace b1:=dQ b1 bK (by decide) q2
  replace b2:=dQ b2 bK (by decide) q2
  replace bM:=bM.other (a:=⟨K,5,none⟩) (fun e=>hMK e.symm) (.slice x2 n2 y2)
  replace kg:=aO kg (p:=⟨K,5,none⟩) hwK (.slice x2 n2 y2)
  replace bK:aH (wa.setCell ⟨K,5,none⟩ (.slice x2 n2 y2)) K 46 [.string s,iV cl,iV sq,.slice x1 n1 y1,.bool g,.slice x2 n2 y2,.slice a3 n3 c3]:=bK.set 5 (.slice x2 n2 y2)
  generalize wa.setCell ⟨K,5,none⟩ (.slice x2 n2 y2)=wb at *
  have HY:=Lib.hid (And.intro kg (And.intro bM (And.intro bK (And.intro b1 b2))))
  clear HX1 q1 q2
  have x0:=bK.cell (i:=0) rfl
  have x1':=bK.cell (i:=1) rfl
  have x2':=bK.cell (i:=2) rfl
  have x3:=bK.cell (i:=3) rfl
  have x4:=bK.cell (i:=4) rfl
  have x5:=bK.cell (i:=5) rfl
  have x6:=bK.cell (i:=6) rfl
  clear hB bM bK b1 b2 kg hwM hwK hMK
  go_wp2_with fail
  clear x0 x1' x2' x3 x4 x5 x6
  obtain⟨kg,bM,bK,b1,b2⟩:=HY.out
  refine (HX.out wb wb x1 x2 y1 y2 _ kg b1 b2 (ah _ _)).mono ?_
  rintro e wc ⟨aT,cT,rfl,hg,hBT⟩
  have ga:=av (ah wc none) (.cells #[.slice aT T.length cT] 22)
  have h2:=aj hg ga
  have HZ:=Lib.hid (And.intro (aj kg h2) (And.intro (aH.new wc [.slice aT T.length cT] 22) (And.intro (hBT.stay ga).full (And.intro (bM.gn h2) (And.intro (bK.gn h2) (And.intro (b1.kept h2 (by cases (Value.slice x1 n1 y1).ownBlock<;>simp)) (zL b2 h2)))))))
  clear hg ga h2 hBT kg bM bK b1 b2 HY HX
  go_wp2_with fail
  refine (HN.out _ wc.heap.size cT aT HZ.out.1 HZ.out.2.1 HZ.out.2.2.1).mono ?_
  rintro e wd ⟨gs,c,rfl,hg,ho⟩
  obtain⟨kg,_,_,bM,bK,b1,b2⟩:=HZ.out
  have b3:=mo ho (Nat.le_refl _)
  have HU:=Lib.hid (And.intro (aj kg hg) (And.intro (bM.gn hg) (And.intro (bK.gn hg) (And.intro (b1.kept hg (by cases (Value.slice x1 n1 y1).ownBlock<;>simp)) (And.intro (zL b2 hg) (mo ho kg.size))))))
  clear HZ HN kg bM bK b1 b2 b3 hg ho
  have c6':=HU.out.2.2.1.cell (i:=6) rfl
  have f6':=HU.out.2.2.1.free 6
  go_upto_region 8 with fail
  clear c6' f6'
  obtain⟨kg,bM,bK,b1,b2,b3⟩:=HU.out
  obtain⟨_,_,_,hwM,hwK,hMK⟩:=iA.out
  have q3:=aJ (ah wd (some K)) 6 (.slice (some ⟨gs,0,none⟩) 64 c)
  replace b1:=dQ b1 bK (by decide) q3
  replace b2:=dQ b2 bK (by decide) q3
  replace b3:=dQ b3 bK (by decide) q3
  replace bM:=bM.other (a:=⟨K,6,none⟩) (fun e=>hMK e.symm) (.slice (some ⟨gs,0,none⟩) 64 c)
  replace kg:=aO kg (p:=⟨K,6,none⟩) hwK (.slice (some ⟨gs,0,none⟩) 64 c)
  replace bK:aH (wd.setCell ⟨K,6,none⟩ (.slice (some ⟨gs,0,none⟩) 64 c)) K 46 [.string s,iV cl,iV sq,.slice x1 n1 y1,.bool g,.slice x2 n2 y2,.slice (some ⟨gs,0,none⟩) 64 c]:=bK.set 6 (.slice (some ⟨gs,0,none⟩) 64 c)
  generalize wd.setCell ⟨K,6,none⟩ (.slice (some ⟨gs,0,none⟩) 64 c)=w6 at *
  have HV2:=Lib.hid (And.intro kg (And.intro bM (And.intro b1 (And.intro b2 (And.intro b3 hwM)))))
  have z0:=bK.cell (i:=0) rfl
  have z1:=bK.cell (i:=1) rfl
  have z2:=bK.cell (i:=2) rfl
  have z3:=bK.cell (i:=3) rfl
  have z4:=bK.cell (i:=4) rfl
  have z5:=bK.cell (i:=5) rfl
  have z6:=bK.cell (i:=6) rfl
  have t0:=bM.cell (i:=0) rfl
  have f0:=bM.free 0
  have t1:=bM.cell (i:=1) rfl
  have f1:=bM.free 1
  have t2:=bM.cell (i:=2) rfl
  have f2:=bM.free 2
  have t3:=bM.cell (i:=3) rfl
  have f3:=bM.free 3
  have t4:=bM.cell (i:=4) rfl
  have f4:=bM.free 4
  have t5:=bM.cell (i:=5) rfl
  have f5:=bM.free 5
  have t6:=bM.cell (i:=6) rfl
  have f6:=bM.free 6
  clear kg bM bK b1 b2 b3 q3 hwM hwK hMK
  go_wp2_with fail
  obtain⟨kg,hm,b1,b2,b3,hMw⟩:=HV2.out
  have Ua:=aJ (aJ (aJ (aJ (aJ (aJ (aJ (ah w6 (some M)) 0 (.string s)) 1 (.int .i64 cl)) 2 (.int .i64 sq)) 3 (.slice x1 n1 y1)) 4 (.bool g)) 5 (.slice x2 n2 y2)) 6 (.slice (some ⟨gs,0,none⟩) 64 c)
  have zw:=((((((hm.set 0 (.string s)).set 1 (.int .i64 cl)).set 2 (.int .i64 sq)).set 3 (.slice x1 n1 y1)).set 4 (.bool g)).set 5 (.slice x2 n2 y2)).set 6 (.slice (some ⟨gs,0,none⟩) 64 c)
  refine bodyPost_ret (v:=.tuple #[.agg #[.string s,.int .i64 cl,.int .i64 sq,.slice x1 n1 y1,.bool g,.slice x2 n2 y2,.slice (some ⟨gs,0,none⟩) 64 c],.int .i64 0]) (Fg.mh Tryz.results10 _ _ M 25 _ (0,0) _ rfl zw Tryz.underlying25 rfl lN rfl) rfl ?_
  rw[HQ.out]
  have hT:=HT.out
  subst hT
  exact⟨⟨s,x1,n1,y1,x2,n2,y2,some ⟨gs,0,none⟩,64,c⟩,rfl,aW kg Ua hMw,HK.out.1,mo (dQ b1 hm (by decide) Ua) iA.out.1.size,mo (dQ b2 hm (by decide) Ua) iA.out.1.size,dQ b3 hm (by decide) Ua,HK.out.2.1,HB.out,HK.out.2.2⟩
end Gr
end
section
open Wi Ve
namespace Gr
end Gr
end
section
open Wi Ve
namespace Gr
noncomputable def Jo (l s m:List Nat):Bool:=@decide (P6 l s m) (Classical.propDecidable _)
theorem Uq {b:Bool} {l s m:List Nat} (h:b=true↔P6 l s m):b=Jo l s m:=by
 unfold Jo
 rw[Bool.eq_iff_iff,h]
 exact (@decide_eq_true_iff _ (Classical.propDecidable _)).symm
theorem Xr {l s m:List Nat} (h:P6 l s m):Jo l s m=true:=(Uq (b:=true) ⟨fun _=>h,fun _=>rfl⟩).symm
noncomputable def Ur (pub:List Nat) (r:Rc.R):Int:=if Rc.dY r then (if Jo pub r.sig (Rc.dZ r) then 0 else 20) else 4
end Gr
end
section
open Go.RowKit Ow Wi Ve Rc
namespace Gr
theorem yY {r:R} (h:dY r=true):gV r=true/\r.sig.length=64:=by
 unfold dY at h
 simpa using h
set_option maxHeartbeats 2000000 in
theorem Us (r:R) (B n cap:Nat) (a:Option Addr) (w:World) (q:L) (h:mV w B q r) (hr:dY r=false):
  Calls Tryz.prog 14 #[.slice a n cap,q.v r] w fun e w'=>e=.returned (.int .i64 4)/\w.grownBy w' none:=by
 have HS:=Lib.hid (fun w' (hg:w.grownBy w' none)=>lM r B w' q (h.stay hg))
 rw[hr]at HS
 clear h hr
 obtain⟨s,a1,n1,c1,a2,n2,c2,a3,n3,c3⟩:=q
 obtain⟨key,cl,sq,cx,g,val,sig⟩:=r
 replace HS:Hid (∀w' (_:w.grownBy w' none),Calls Tryz.prog 9 #[vV s cl sq a1 n1 c1 g a2 n2 c2 a3 n3 c3] w' fun e w''=>e=.returned (.bool false)/\w'.grownBy w'' none):=HS
 show Calls _ _ #[.slice a n cap,vV s cl sq a1 n1 c1 g a2 n2 c2 a3 n3 c3] w _
 go_enter Tryz.func14,Tryz.ntmps14
 go_wp2_with fail
 refine (HS.out _ (av (ah _ _) _)).mono ?_
 rintro e w1 ⟨rfl,hg⟩
 have HG:=Lib.hid (aj (av (ah _ _) _) hg);clear hg
 go_wp2
 go_ret
 exact⟨rfl,HG.out⟩
set_option maxHeartbeats 4000000 in
set_option maxRecDepth 100000 in
theorem P9 (r:R) (B n cap Bp:Nat) (a:Option Addr) (p:List Nat) (w:World) (q:L) (hO:oI w) (hT:eY w) (hS:Tables w) (hp:p.length=n) (hn:n<9223372036854775808) (hP:BytesAt w Bp a cap p) (h:mV w B q r) (hr:dY r=true):
  Calls Tryz.prog 14 #[.slice a n cap,q.v r] w fun e w'=>e=.returned (.int .i64 (if Jo p r.sig (dZ r) then 0 else 20))/\w.grownBy w' none:=by
 obtain⟨hsh,h64⟩:=yY hr
 have HS:=Lib.hid (fun w' (hg:w.grownBy w' none)=>lM r B w' q (h.stay hg))
 rw[hr]at HS
 have HX:=Lib.hid (fun w' (hg:w.grownBy w' none)=>qx r B w' q (h.stay hg))
 have e1:oZ r=dZ r:=if_pos hsh
 rw[e1]at HX
 have HTS:=Lib.hid (lK h hsh)
 have HV:Hid (∀(w':World) (N aT:Nat) (bT:Option Addr),w.grownBy w' none->aH w' N 22 [.slice bT (dZ r).length aT]->BytesAt w' w'.heap.size bT aT (dZ r)->Calls Tryz.prog 27 #[.slice a n cap,.slice q.a3 64 q.c3,.slice (some ⟨N,0,none⟩) 1 1] w' fun e w''=>e=.returned (.bool (Jo p r.sig (dZ r)))/\w'.grownBy w'' none):=fun w' N aT bT hg hb hB=>by
  have hs3:BytesAt w' B q.a3 q.c3 r.sig:=h.sig.stay hg
  have hj:joined [⟨bT,aT,dZ r⟩]=dZ r:=by simp[joined]
  have hv:=LJ p r.sig n cap Bp q.c3 B 1 1 w'.heap.size a q.a3 (some ⟨N,0,none⟩) [⟨bT,aT,dZ r⟩] w' (hO.kept hg (fun b e=>by cases e)) (hT.grown hg) (hS.kept hg (fun b e=>by cases e)) hp hn (Lib.hid (hP.stay hg)) h64 (Lib.hid hs3) rfl (Lib.hid (Fp rfl hb hB)) (by decide) (by rw[hj];have:=HTS.out.1;omega)
  rw[hj]at hv
  refine hv.mono fun e w'' h2=>?_
  obtain⟨b,rfl,hg2,hbv⟩:=h2
  exact⟨by rw[Uq hbv],hg2⟩
 have hl3:q.n3=64:=by rw[<- h.l3];exact h64
 clear h hr hsh h64 e1 hO hT hS hp hn hP HTS
 generalize dZ r=T at *
 generalize Jo p r.sig T=bv at *
 obtain⟨s,a1,n1,c1,a2,n2,c2,a3,n3,c3⟩:=q
 obtain⟨key,cl,sq,cx,g,val,sig⟩:=r
 obtain rfl:n3=64:=hl3
 replace HS:Hid (∀w' (_:w.grownBy w' none),Calls Tryz.prog 9 #[vV s cl sq a1 n1 c1 g a2 n2 c2 a3 64 c3] w' fun e w''=>e=.returned (.bool true)/\w'.grownBy w'' none):=HS
 replace HX:Hid (∀w' (_:w.grownBy w' none),Calls Tryz.prog 11 #[vV s cl sq a1 n1 c1 g a2 n2 c2 a3 64 c3] w' (Cq w' T)):=HX
 replace HV:Hid (∀(w':World) (N aT:Nat) (bT:Option Addr),w.grownBy w' none->aH w' N 22 [.slice bT T.length aT]->BytesAt w' w'.heap.size bT aT T->Calls Tryz.prog 27 #[.slice a n cap,.slice a3 64 c3,.slice (some ⟨N,0,none⟩) 1 1] w' fun e w''=>e=.returned (.bool bv)/\w'.grownBy w'' none):=HV
 show Calls _ _ #[.slice a n cap,vV s cl sq a1 n1 c1 g a2 n2 c2 a3 64 c3] w _
 obtain⟨N,hN⟩:∃N,N=w.heap.size:=⟨_,rfl⟩
 obtain⟨W0,hW0⟩:∃W0,W0=w.alloc (.cells #[.string s,iV cl,iV sq,.slice a1 n1 c1,.bool g,.slice a2 n2 c2,.slice a3 64 c3] 25):=⟨_,rfl⟩
 have hG0:w.grownBy W0 none:=by rw[hW0];exact av (ah _ _) _
 have hB0:aH W0 N 25 [.string s,iV cl,iV sq,.slice a1 n1 c1,.bool g,.slice a2 n2 c2,.slice a3 64 c3]:=by rw[hW0,hN];exact aH.new w _ _
 have jg:=Lib.hid (And.intro hG0 hB0);clear hG0 hB0
 go_enter Tryz.func14,Tryz.ntmps14
 go_wp2_with fail
 rw[<- hW0,<- hN]
 clear hW0 hN
 refine (HS.out _ jg.out.1).mono ?_
 rintro e w1 ⟨rfl,hg⟩
 have hB1:=(jg.out.2.grown hg (by simp)).grown (aX (ah w1 none)) (by simp)
 have m0:=hB1.cell (i:=0) rfl
 have m1:=hB1.cell (i:=1) rfl
 have m2:=hB1.cell (i:=2) rfl
 have m3:=hB1.cell (i:=3) rfl
 have m4:=hB1.cell (i:=4) rfl
 have m5:=hB1.cell (i:=5) rfl
 have m6:=hB1.cell (i:=6) rfl
 have HG:=Lib.hid (And.intro (aj jg.out.1 (aX hg)) hB1);clear hg hB1
 go_wp2_with fail
 go_region_law (first
  | (
    refine Fg.tQ rfl (f:=11) (args:=#[vV s cl sq a1 n1 c1 g a2 n2 c2 a3 64 c3]) (Fg.aN rfl rfl (by simp only[List.map_toArray,List.map_cons,List.map_nil,Act.eval];rfl) (Fg.aI Tryz.func11 (by kernel_rfl) (by kernel_rfl))) ?_
    refine (HX.out _ HG.out.1).mono ?_
    intro e w2 h2
    obtain⟨aT,cT,rfl,hg2,hBT⟩:=h2
    have hB2:=HG.out.2.grown hg2 (by simp)
    have k6:=hB2.cell (i:=6) rfl
    have ga:=av (ah w2 none) (.cells #[.slice aT T.length cT] 22)
    have j6:=(hB2.grown ga (by simp)).cell (i:=6) rfl
    have H2:=Lib.hid (And.intro (aj (aj HG.out.1 hg2) ga) (And.intro (aH.new w2 [.slice aT T.length cT] 22) (hBT.stay ga).full));clear hg2 hBT hB2 ga HX
    refine⟨_,rfl,?_⟩)
  | (
    refine Fg.tQ rfl (f:=27) (args:=#[.slice a n cap,.slice a3 64 c3,.slice (some ⟨w2.heap.size,0,none⟩) 1 1]) (Fg.aN rfl rfl (by simp only[List.map_toArray,List.map_cons,List.map_nil,Act.eval];rfl) (Fg.aI Tryz.func27 (by kernel_rfl) (by kernel_rfl))) ?_
    refine (HV.out _ w2.heap.size cT aT H2.out.1 H2.out.2.1 H2.out.2.2).mono ?_
    rintro e w3 ⟨rfl,hg3⟩
    have H3:=Lib.hid (aj H2.out.1 hg3);clear hg3 HV
    refine⟨_,rfl,?_⟩))
 all_goals
  cases bv with
  | true=>
   go_wp2
   go_ret
   exact⟨rfl,H3.out⟩
  | false=>
   go_wp2
   go_ret
   exact⟨rfl,H3.out⟩
theorem Qa (r:R) (B n cap Bp:Nat) (a:Option Addr) (p:List Nat) (w:World) (q:L) (hO:oI w) (hT:eY w) (hS:Tables w) (hp:p.length=n) (hn:n<9223372036854775808) (hP:BytesAt w Bp a cap p) (h:mV w B q r):
  Calls Tryz.prog 14 #[.slice a n cap,q.v r] w fun e w'=>e=.returned (.int .i64 (Ur p r))/\w.grownBy w' none:=by
 unfold Ur
 cases hr:dY r with
 | false=>exact Us r B n cap a w q h hr
 | true=>exact P9 r B n cap Bp a p w q hO hT hS hp hn hP h hr
end Gr
end
section
open Go.RowKit Ow Wi Ve
namespace Rc
set_option maxHeartbeats 1000000 in
theorem Ut (r:R) (B:Nat) (w:World) (q:L) (h:mV w B q r):Calls Tryz.prog 7 #[q.v r] w (Rb w (kN r) (F6 (dY r) 4)):=by
 have HS:=Lib.hid (fun w' (hg:w.grownBy w' none)=>lM r B w' q (h.stay hg))
 cases hb:dY r with
 | false=>
  rw[hb]at HS
  have HQ:Hid (∀w',w.grownBy w' none->Rb w (kN r) (F6 false 4) (.returned (.tuple #[.slice none 0 0,.int .i64 4])) w'):=fun w' hg=>by
   unfold kN
   rw[hb]
   exact⟨_,rfl,hg,World.ownsRow_nil _ _ _ _⟩
  clear h hb
  generalize Rb w (kN r) (F6 false 4)=Q at *
  obtain⟨s,a1,n1,c1,a2,n2,c2,a3,n3,c3⟩:=q
  obtain⟨key,cl,sq,cx,g,val,sig⟩:=r
  replace HS:Hid (∀w' (_:w.grownBy w' none),Calls Tryz.prog 9 #[vV s cl sq a1 n1 c1 g a2 n2 c2 a3 n3 c3] w' fun e w''=>e=.returned (.bool false)/\w'.grownBy w'' none):=HS
  show Calls _ _ #[vV s cl sq a1 n1 c1 g a2 n2 c2 a3 n3 c3] w _
  go_enter Tryz.func7,Tryz.ntmps7
  go_wp2_with fail
  refine (HS.out _ (av (ah _ _) _)).mono ?_
  rintro e w1 ⟨rfl,hg⟩
  have HG:=Lib.hid (aj (av (ah _ _) _) hg);clear hg
  go_wp2
  exact HQ.out _ HG.out
 | true=>
  rw[hb]at HS
  have hs:gV r=true:=by simp only[dY,Bool.and_eq_true]at hb;exact hb.1
  have HT:=Lib.hid (fun w' (hg:w.grownBy w' none)=>qx r B w' q (h.stay hg))
  have HQ:Hid (∀w' v,w.grownBy w' none->w'.ownsRow w.heap.size 5 1 v [dZ r,r.sig].flatten.length ([dZ r,r.sig].flatten.map dD)->Rb w (kN r) (F6 true 4) (.returned (.tuple #[v,.int .i64 0])) w'):=fun w' v hg hB=>by
   have e:[dZ r,r.sig].flatten=kN r:=by unfold kN;rw[hb];simp[uV]
   rw[e]at hB
   exact⟨v,rfl,hg,hB⟩
  have e:oZ r=dZ r:=by unfold oZ;rw[hs];rfl
  rw[e]at HT
  have l3:=h.l3
  have hsh:=sG hs
  have hT:(dZ r).length<=2000/\∀i,(dZ r).getD i 0<256:=lK h hs
  have HL:Hid (([dZ r,r.sig].flatten).length<=1000000/\∀l∈[dZ r,r.sig],∀i,l.getD i 0<256):=by
   have h64:r.sig.length=64:=by simp only[dY,Bool.and_eq_true,decide_eq_true_eq]at hb;exact hb.2
   refine⟨by simp only[List.flatten_cons,List.flatten_nil,List.length_append,List.length_nil,h64];omega,fun l hl=>?_⟩
   simp only[List.mem_cons,List.not_mem_nil,or_false]at hl
   rcases hl with rfl|rfl
   .exact hT.2
   .exact h.sig.byte
  have HSG:=Lib.hid (And.intro h.sig l3)
  generalize dZ r=T at *
  clear h hb hs e hsh hT l3
  generalize Rb w (kN r) (F6 true 4)=Q at *
  obtain⟨s,a1,n1,c1,a2,n2,c2,a3,n3,c3⟩:=q
  obtain⟨key,cl,sq,cx,g,val,sig⟩:=r
  replace HS:Hid (∀w' (_:w.grownBy w' none),Calls Tryz.prog 9 #[vV s cl sq a1 n1 c1 g a2 n2 c2 a3 n3 c3] w' fun e w''=>e=.returned (.bool true)/\w'.grownBy w'' none):=HS
  replace HT:Hid (∀w' (_:w.grownBy w' none),Calls Tryz.prog 11 #[vV s cl sq a1 n1 c1 g a2 n2 c2 a3 n3 c3] w' (Cq w' T)):=HT
  replace HSG:Hid (BytesAt w B a3 c3 sig/\sig.length=n3):=HSG
  simp only at HL HQ
  show Calls _ _ #[vV s cl sq a1 n1 c1 g a2 n2 c2 a3 n3 c3] w _
  obtain⟨N,hN⟩:∃N,N=w.heap.size:=⟨_,rfl⟩
  obtain⟨W0,hW0⟩:∃W0,W0=w.alloc (.cells #[.string s,iV cl,iV sq,.slice a1 n1 c1,.bool g,.slice a2 n2 c2,.slice a3 n3 c3] 25):=⟨_,rfl⟩
  have hG0:w.grownBy W0 none:=by rw[hW0];exact av (ah _ _) _
  have hB0:aH W0 N 25 [.string s,iV cl,iV sq,.slice a1 n1 c1,.bool g,.slice a2 n2 c2,.slice a3 n3 c3]:=by rw[hW0,hN];exact aH.new _ _ _
  have jg:=Lib.hid (And.intro hG0 hB0);clear hG0 hB0
  go_enter Tryz.func7,Tryz.ntmps7
  go_wp2_with fail
  rw[<- hW0,<- hN]
  clear hW0 hN
  refine (HS.out _ jg.out.1).mono ?_
  rintro e w1 ⟨rfl,hg⟩
  have HG:=Lib.hid (And.intro (aj jg.out.1 hg) (jg.out.2.gn hg));clear hg jg
  go_wp2_with fail
  refine Fg.sD [] [.any,.any,Fg.It.ow w1.heap.size [T,sig].flatten,.val (Value.int .i64 0),.any,.any,.any,.val (vV s cl sq a1 n1 c1 g a2 n2 c2 a3 n3 c3),Fg.It.by T,.val (Value.pointer (some ⟨N,6,none⟩)),.val (Value.slice a3 n3 c3),Fg.It.rws [T,sig],Fg.It.ow w1.heap.size [T,sig].flatten] w1 8 (ah _ _) (by kernel_rfl) (by kernel_rfl) (by kernel_rfl) (by kernel_rfl) (by decide) (by kernel_rfl) ?_ ?_
  .refine⟨Fg.vT rfl (by decide) fun ac w h=>?_,?_⟩
   .have e1:_=Value.pointer (some ⟨N,0,none⟩):=h.r 1
    have m0:=(HG.out.2.gn h.base).cell (i:=0) rfl
    have m1:=(HG.out.2.gn h.base).cell (i:=1) rfl
    have m2:=(HG.out.2.gn h.base).cell (i:=2) rfl
    have m3:=(HG.out.2.gn h.base).cell (i:=3) rfl
    have m4:=(HG.out.2.gn h.base).cell (i:=4) rfl
    have m5:=(HG.out.2.gn h.base).cell (i:=5) rfl
    have m6:=(HG.out.2.gn h.base).cell (i:=6) rfl
    refine⟨vV s cl sq a1 n1 c1 g a2 n2 c2 a3 n3 c3,w,aB rfl,?_,ah _ _,rfl⟩
    clear h
    simp only[execOp,Act.eval,e1]
    go_simp
   refine⟨Fg.cT rfl (by decide) fun ac w h=>?_,?_⟩
   .have e7:_=vV s cl sq a1 n1 c1 g a2 n2 c2 a3 n3 c3:=h.d 7
    refine⟨11,#[vV s cl sq a1 n1 c1 g a2 n2 c2 a3 n3 c3],aB rfl,Fg.aN rfl rfl (by simp only[List.map_toArray,List.map_cons,List.map_nil,Act.eval,e7]) (Fg.aI Tryz.func11 (by kernel_rfl) (by kernel_rfl)),?_⟩
    exact (HT.out w (aj HG.out.1 h.base)).mono fun _ _ ⟨_,_,he,hg,hb⟩=>⟨_,he,hg,_,_,_,rfl,hb⟩
   refine⟨Fg.vT rfl (by decide) fun ac w h=>?_,?_⟩
   .have e1:_=Value.pointer (some ⟨N,0,none⟩):=h.r 1
    refine⟨Value.pointer (some ⟨N,6,none⟩),w,aB rfl,?_,ah _ _,rfl⟩
    clear h
    simp only[execOp,Act.eval,e1]
    go_simp
   refine⟨Fg.vT rfl (by decide) fun ac w h=>?_,?_⟩
   .have e9:_=Value.pointer (some ⟨N,6,none⟩):=h.d 9
    have c:=(HG.out.2.gn h.base).cell (i:=6) rfl
    refine⟨Value.slice a3 n3 c3,w,aB rfl,?_,ah _ _,rfl⟩
    clear h
    simp only[execOp,Act.eval,e9]
    go_simp
   refine⟨Fg.vT rfl (by decide) fun ac w h=>?_,?_⟩
   .obtain⟨a8,k8,B8,e8,b8⟩:∃x c B,ac.tmps.getD 8 undef=.slice x T.length c/\BytesAt w B x c T:=h.dep 8 (by kernel_rfl)
    have e10:_=Value.slice a3 n3 c3:=h.d 10
    have hbx:jl (w.alloc (.cells #[.slice a8 T.length k8,.slice a3 n3 c3] 22)) (w.heap.size+1) (some ⟨w.heap.size,0,none⟩) [T,sig]:=by
     rw[<- HSG.out.2]
     exact FU _ [(a8,k8,T),(a3,c3,sig)] (fun p hp=>by
      simp only[List.mem_cons,List.not_mem_nil,or_false]at hp
      rcases hp with rfl|rfl
      .exact⟨_,b8⟩
      .exact⟨_,HSG.out.1.stay (aj HG.out.1 h.base)⟩)
    refine⟨.slice (some ⟨w.heap.size,0,none⟩) 2 2,w.alloc (.cells #[.slice a8 T.length k8,.slice a3 n3 c3] 22),aB rfl,?_,av (ah _ _) _,⟨_,2,_,rfl,hbx⟩⟩
    clear h
    simp only[execOp,Act.eval,e8,e10,List.map_toArray,List.map_cons,List.map_nil]
    go_simp
   refine⟨Fg.cT rfl (by decide) fun ac w h=>?_,?_⟩
   .obtain⟨a11,k11,B11,e11,b11⟩:∃x c B,ac.tmps.getD 11 undef=.slice x [T,sig].length c/\jl w B x [T,sig]:=h.dep 11 (by kernel_rfl)
    refine⟨18,#[Value.slice a11 [T,sig].length k11],aB rfl,Fg.aN rfl rfl (by simp only[List.map_toArray,List.map_cons,List.map_nil,Act.eval,e11]) (Fg.aI Tryz.func18 (by kernel_rfl) (by kernel_rfl)),?_⟩
    exact (qp 2 k11 B11 [T,sig] a11 w rfl b11 (by simp) HL.out.1).mono fun _ _ ⟨_,he,hg,ho⟩=>⟨_,he,hg,jv ho h.base.size⟩
   refine⟨Fg.vT rfl (by decide) fun ac w h=>?_,?_⟩
   .obtain⟨v12,e12,b12⟩:∃v,ac.tmps.getD 12 undef=v/\w.ownsRow w1.heap.size 5 1 v [T,sig].flatten.length ([T,sig].flatten.map dD):=⟨_,rfl,h.dep 12 (by kernel_rfl)⟩
    exact⟨_,w,aB rfl,Fg.run_assign rfl e12,ah _ _,b12⟩
   refine⟨Fg.vT rfl (by decide) fun ac w h=>?_,?_⟩
   .refine⟨Value.int .i64 0,w,aB rfl,?_,ah _ _,rfl⟩
    clear h
    simp only[execOp,Act.eval]
    go_simp
   trivial
  .intro aq wq hB hsz hdf hrest aC hpt
   obtain⟨u0,e0⟩:=Fg.bL aq 0
   obtain⟨v2,e2,b2⟩:∃v,aq.tmps.getD 2 undef=v/\wq.ownsRow w1.heap.size 5 1 v [T,sig].flatten.length ([T,sig].flatten.map dD):=⟨_,rfl,aC 2 (by kernel_rfl)⟩
   have e3:aq.tmps.getD 3 undef=Value.int .i64 0:=aC 3 (by kernel_rfl)
   obtain⟨⟨u4,e4⟩,⟨u5,e5⟩,⟨u6,e6⟩,⟨u7,e7⟩,⟨u8,e8⟩,⟨u9,e9⟩,⟨u10,e10⟩,⟨u11,e11⟩,⟨u12,e12⟩,_⟩:=Fg.bn aq [4,5,6,7,8,9,10,11,12]
   obtain rfl:=Fg.gW (a:=aq) (vs:=[u0,Value.pointer (some ⟨N,0,none⟩),v2,Value.int .i64 0,u4,u5,u6,u7,u8,u9,u10,u11,u12]) hsz ⟨e0,hrest 1 (by kernel_rfl),e2,e3,e4,e5,e6,e7,e8,e9,e10,e11,e12,trivial⟩ hdf
   clear hsz hdf hrest aC hpt e0 e2 e3 e4 e5 e6 e7 e8 e9 e10 e11 e12
   have HR:=Lib.hid (HQ.out wq v2 (aj HG.out.1 hB) (jv b2 HG.out.1.size))
   clear b2 hB
   refine wpList_nil ?_
   go_wp2
   exact HR.out
theorem Jp (r:R) (B:Nat) (w:World) (q:L) (h:mV w B q r):Calls Tryz.prog 7 #[q.v r] w (afj w (kN r) (F6 (dY r) 4)):=by
 have hb:∀i,(kN r).getD i 0<256:=by
  unfold kN
  cases hr:dY r with
  | false=>simp
  | true=>
   simp only[dY,Bool.and_eq_true]at hr
   exact kr (lK h hr.1).2 h.sig.byte
 refine (Ut r B w q h).mono fun e w' ⟨v,he,hg,ho⟩=>?_
 obtain⟨a,c,rfl,_,hB,_⟩:=jB ho hb
 exact⟨a,c,he,hg,hB⟩
end Rc
end
end Go.Proofs.YtmijliomjpphkaaGreatDoor
