/- texts merged -/
import Derived.Test.YtjgnjhgdmdmebaaGreatDoorGoM5
import Derived.Test.YtjgnjhgdmdmebaaGreatDoorGoM2
import Derived.Test.YtjgnjhgdmdmebaaGreatDoorProg
import Derived.WalkKit
import Derived.Test.YtjgnjhgdmdmebaaGreatDoorGoM3
import Derived.Lib.AppendZeros
import Derived.Lib.AppendZerosOnto
import Derived.Test.YtjgnjhgdmdmebaaGreatDoorChecked
import Derived.Test.YtjgnjhgdmdmebaaGreatDoorGoM1
import Derived.ProofKit
import Derived.OpenShut
import Derived.ShutString
import Derived.ChangeOld
import Derived.Deep.DeepHandedRow
import Derived.Lib.LaidTab
import Derived.SizedLaws
import Derived.Deep.Matrix
import Derived.Deep.Cut
import Derived.Deep.RegionWith
import Derived.Lib.ConvBytes
import Derived.Laws.BytesString
import Derived.Shelf.SlSorted.Search
import Derived.Laws.AppendOwn
import Derived.Laws.OwnMore
import Derived.Lib.Hide
import Derived.WalkSpells
import Derived.WalkLawsBesides
import Derived.BigQuiet
import Derived.Deep.QuietTactic
import Derived.Outline
import Derived.Laws.IdiomCopy
import Derived.Deep.RegionLaw
import Derived.Laws.ResultCell
import Derived.Lib.SliceRun
import Derived.Deep.RegionLawGrows
namespace Go.Proofs.YtjgnjhgdmdmebaaGreatDoor
section
open Go.RowKit Ow Go.Shelf Ed
def ET (l s m:List Nat):Prop:=l.length=32/\∃A R,On A/\enc A=sS l/\On R/\enc R=sS (s.take 32)/\num (s.drop 32)<Sc.L/\
 Ed.add (bq (num (Bo (num (bH.sum ((s.take 32++l)++m))))) (Ed.neg A)) (bq (num (s.drop 32)) bW)=R
theorem BL (cap B:Nat) (a:Option Addr) (l:List Nat) (w:World) (v:Bool) (hl:l.length=32) (hP:BytesAt w B a cap l) (hT:ko w) (h:decide (num l<Sc.L)=v):
  Calls Tryz.prog 90 #[.slice a 32 cap] w fun e w'=>e=.returned (.bool v)/\w.grownBy w' none:=by
 rw[<- h]
 exact KZ cap B a l w hl hP hT
theorem Wu {l s m:List Nat} {A R:Pr} {b:Bool} (hl:l.length=32) (hA:On A) (eA:enc A=sS l) (hR:On R) (eR:enc R=sS (s.take 32)) (hS:num (s.drop 32)<Sc.L)
  (hb:b=true↔Ed.add (bq (num (Bo (num (bH.sum ((s.take 32++l)++m))))) (Ed.neg A)) (bq (num (s.drop 32)) bW)=R):b=true↔ET l s m:=by
 rw[hb]
 constructor
 .exact fun h=>⟨hl,A,R,hA,eA,hR,eR,hS,h⟩
 .rintro⟨_,A',R',hA',eA',hR',eR',_,h⟩
  obtain rfl:=Ew hA' hA (eA'.trans eA.symm)
  obtain rfl:=Ew hR' hR (eR'.trans eR.symm)
  exact h
theorem Tf (c:Prop):∃b:Bool,b=true↔c:=by
 by_cases h:c
 .exact⟨true,by simp[h]⟩
 .exact⟨false,by simp[h]⟩
set_option maxRecDepth 100000 in
set_option maxHeartbeats 12800000 in
theorem K5 (l s:List Nat) (n cap B sc Bs mt ct Bt:Nat) (a sa bt:Option Addr) (pt:List Part) (w0:World) (Zm:ko w0) (HT0:dH w0) (vR:Tables w0) (hl:l.length=n) (hn:n<9223372036854775808) (Jy:Hid (BytesAt w0 B a cap l)) (hs:s.length=64) (HPS:Hid (BytesAt w0 Bs sa sc s)) (hpt:pt.length=mt) (Xz:Hid (PartsAt w0 Bt bt ct pt)) (hct:ct<9223372036854775808) (hlen:(joined pt).length<1000000):
  Calls Tryz.prog 67 #[.slice a n cap,.slice sa 64 sc,.slice bt mt ct] w0 fun e w'=>∃b:Bool,e=.returned (.bool b)/\w0.grownBy w' none/\(b=true↔ET l s (joined pt)):=by
 go_enter Tryz.func67,Tryz.ntmps67
 obtain⟨sF,hF,hF2⟩:=zV sa 64 sc 32 (by decide)
 have hF':∀w,(Instr.slice 24 (.slice sa 64 sc) (some (.int .i64 32)) none none).run Tryz.prog w=.ok (.slice sF 32 (sc-32)) w:=hF
 have hsc:64<=sc:=by have:=HPS.out.fits;omega
 obtain⟨sT,hT,hT2⟩:=AJ sa 64 sc 32 (by omega)
 have hT':∀w,(Instr.slice 24 (.slice sa 64 sc) none (some (.int .i64 32)) none).run Tryz.prog w=.ok (.slice sT 32 sc) w:=hT
 have Qc:=Lib.hid (And.intro hF' hT');clear hF hF' hT hT'
 have HSF:Hid (BytesAt w0 Bs sF (sc-32) (s.drop 32)):=Lib.hid (Kh HPS.out hF2)
 have HST:Hid (BytesAt w0 Bs sT sc (s.take 32)):=Lib.hid (Ki HPS.out hT2)
 clear hF2 hT2
 have hsd:(s.drop 32).length=32:=by rw[List.length_drop,hs]
 have hst:(s.take 32).length=32:=by rw[List.length_take,hs];rfl
 have G:w0.grownBy w0 none:=ah _ _
 have HT:=HT0
 go_upto_region 3 with (fail)
 refine wp_region_lit ?_
 refine Fg.aL (v:=.slice sa 64 sc) (w':=w0) rfl (Fg.run_move rfl rfl) ?_
 simp only[Act.put,List.setIfInBounds_toArray,List.set_cons_succ,List.set_cons_zero]
 refine Fg.aL (v:=.slice sF 32 (sc-32)) (w':=w0) rfl (by
  have hrun:=Qc.out.1 w0
  simp only[execOp,Act.eval,Option.map_some,Option.map_none]
  go_simp) ?_
 simp only[Act.put,List.setIfInBounds_toArray,List.set_cons_succ,List.set_cons_zero]
 refine Fg.aL (v:=.slice sF 32 (sc-32)) (w':=w0) rfl (Fg.run_assign rfl rfl) ?_
 simp only[Act.put,List.setIfInBounds_toArray,List.set_cons_succ,List.set_cons_zero]
 refine wpList_nil ?_
 go_upto_region 4 with (fail)
 refine wp_region_lit ?_
 refine Fg.aL (v:=.slice a n cap) (w':=w0) rfl (Fg.run_move rfl rfl) ?_
 simp only[Act.put,List.setIfInBounds_toArray,List.set_cons_succ,List.set_cons_zero]
 refine Fg.bU rfl (Fg.aN (vs:=#[.slice a n cap]) rfl rfl (by simp only[List.map_toArray,List.map_cons,List.map_nil,Act.eval];rfl) (Fg.aI Tryz.func89 (by kernel_rfl) (by kernel_rfl))) ?_
 refine (Sv B n cap a l w0 HT hl hn (Lib.hid (Jy.out.stay G))).mono ?_
 rintro e A1 ⟨tA,bA,rfl,ga,hyA,hnA⟩
 refine⟨_,rfl,?_⟩
 have HYA:=Lib.hid (And.intro hyA hnA);clear hyA hnA
 replace G:=aj G ga
 replace HT:=HT.grown ga
 clear ga
 simp only[Act.put,List.setIfInBounds_toArray,List.set_cons_succ,List.set_cons_zero]
 refine Fg.aL (v:=.tuple #[Qb tA (.slice a n cap),.bool bA]) (w':=A1) rfl (Fg.run_move rfl rfl) ?_
 simp only[Act.put,List.setIfInBounds_toArray,List.set_cons_succ,List.set_cons_zero]
 refine Fg.aL (v:=Qb tA (.slice a n cap)) (w':=A1) rfl (Fg.cO rfl rfl rfl) ?_
 simp only[Act.put,List.setIfInBounds_toArray,List.set_cons_succ,List.set_cons_zero]
 refine Fg.aL (v:=.bool bA) (w':=A1) rfl (Fg.cO rfl rfl rfl) ?_
 simp only[Act.put,List.setIfInBounds_toArray,List.set_cons_succ,List.set_cons_zero]
 refine Fg.aL (v:=.pointer (some ⟨A1.heap.size,0,none⟩)) (w':=A1.alloc (.cells [Value.int IntKind.u64 0,Value.int IntKind.u64 0,Value.int IntKind.u64 0,Value.int IntKind.u64 0,Value.int IntKind.u64 0,Value.int IntKind.u64 0,Value.int IntKind.u64 0,Value.int IntKind.u64 0,Value.int IntKind.u64 0,Value.int IntKind.u64 0,Value.int IntKind.u64 0,Value.int IntKind.u64 0,Value.int IntKind.u64 0,Value.int IntKind.u64 0,Value.int IntKind.u64 0,Value.int IntKind.u64 0,Value.int IntKind.u64 0,Value.int IntKind.u64 0,Value.int IntKind.u64 0,Value.int IntKind.u64 0,Value.slice none 0 0].toArray 70)) rfl (by go_simp) ?_
 simp only[Act.put,List.setIfInBounds_toArray,List.set_cons_succ,List.set_cons_zero]
 have hw8:w0.heap.size<=A1.heap.size:=G.size
 have gu:=aF.new A1 [Value.int IntKind.u64 0,Value.int IntKind.u64 0,Value.int IntKind.u64 0,Value.int IntKind.u64 0,Value.int IntKind.u64 0,Value.int IntKind.u64 0,Value.int IntKind.u64 0,Value.int IntKind.u64 0,Value.int IntKind.u64 0,Value.int IntKind.u64 0,Value.int IntKind.u64 0,Value.int IntKind.u64 0,Value.int IntKind.u64 0,Value.int IntKind.u64 0,Value.int IntKind.u64 0,Value.int IntKind.u64 0,Value.int IntKind.u64 0,Value.int IntKind.u64 0,Value.int IntKind.u64 0,Value.int IntKind.u64 0,Value.slice none 0 0] 70
 have ga8:=au (ah A1 none) (.cells [Value.int IntKind.u64 0,Value.int IntKind.u64 0,Value.int IntKind.u64 0,Value.int IntKind.u64 0,Value.int IntKind.u64 0,Value.int IntKind.u64 0,Value.int IntKind.u64 0,Value.int IntKind.u64 0,Value.int IntKind.u64 0,Value.int IntKind.u64 0,Value.int IntKind.u64 0,Value.int IntKind.u64 0,Value.int IntKind.u64 0,Value.int IntKind.u64 0,Value.int IntKind.u64 0,Value.int IntKind.u64 0,Value.int IntKind.u64 0,Value.int IntKind.u64 0,Value.int IntKind.u64 0,Value.int IntKind.u64 0,Value.slice none 0 0].toArray 70)
 replace G:=aj G ga8
 replace HT:=HT.grown ga8
 clear ga8
 obtain⟨N8,hN8⟩:∃x,x=A1.heap.size:=⟨_,rfl⟩
 rw[<- hN8]at gu hw8 ⊢
 revert G HT gu
 generalize (A1.alloc (.cells [Value.int IntKind.u64 0,Value.int IntKind.u64 0,Value.int IntKind.u64 0,Value.int IntKind.u64 0,Value.int IntKind.u64 0,Value.int IntKind.u64 0,Value.int IntKind.u64 0,Value.int IntKind.u64 0,Value.int IntKind.u64 0,Value.int IntKind.u64 0,Value.int IntKind.u64 0,Value.int IntKind.u64 0,Value.int IntKind.u64 0,Value.int IntKind.u64 0,Value.int IntKind.u64 0,Value.int IntKind.u64 0,Value.int IntKind.u64 0,Value.int IntKind.u64 0,Value.int IntKind.u64 0,Value.int IntKind.u64 0,Value.slice none 0 0].toArray 70))=A1x
 intro G HT gu
 clear hN8
 refine Fg.aU rfl rfl (Fg.run_store (cs:=pq tA (.slice a n cap)) rfl rfl rfl (gu.there 0 21 (by show 0+21<=21;decide)) qP (wW _ _ _ _)) ?_
 replace gu:aF (A1x.setCells N8 0 (pq tA (.slice a n cap))) N8 70 (pq tA (.slice a n cap)):=gu.bG rfl
 replace G:=aH (cs:=pq tA (.slice a n cap)) G (B:=N8) (hw8) 0
 replace HT:=HT.keep (aK (cs:=pq tA (.slice a n cap)) (ah _ (some N8)) 0) (HT0.jS (hw8))
 revert gu G HT
 generalize A1x.setCells N8 0 (pq tA (.slice a n cap))=W1
 intro gu G HT
 refine Fg.aL (v:=.bool bA) (w':=W1) rfl (Fg.run_assign rfl rfl) ?_
 simp only[Act.put,List.setIfInBounds_toArray,List.set_cons_succ,List.set_cons_zero]
 refine wpList_nil ?_
 go_upto_region 5 with (fail)
 refine wp_region_lit ?_
 refine Fg.aL (v:=.slice sa 64 sc) (w':=W1) rfl (Fg.run_move rfl rfl) ?_
 simp only[Act.put,List.setIfInBounds_toArray,List.set_cons_succ,List.set_cons_zero]
 refine Fg.aL (v:=.slice sT 32 sc) (w':=W1) rfl (by
  have hrun:=Qc.out.2 W1
  simp only[execOp,Act.eval,Option.map_some,Option.map_none]
  go_simp) ?_
 simp only[Act.put,List.setIfInBounds_toArray,List.set_cons_succ,List.set_cons_zero]
 have Xm:=gu.lt
 refine Fg.bU rfl (Fg.aN (vs:=#[.slice sT 32 sc]) rfl rfl (by simp only[List.map_toArray,List.map_cons,List.map_nil,Act.eval];rfl) (Fg.aI Tryz.func89 (by kernel_rfl) (by kernel_rfl))) ?_
 refine (Sv Bs 32 sc sT (s.take 32) W1 HT hst (by decide) (Lib.hid (HST.out.stay G))).mono ?_
 rintro e A2 ⟨tR,bR,rfl,ga,hyR,hnR⟩
 refine⟨_,rfl,?_⟩
 have HYR:=Lib.hid (And.intro hyR hnR);clear hyR hnR
 replace gu:=gu.gn ga
 replace G:=aj G ga
 replace HT:=HT.grown ga
 clear ga
 simp only[Act.put,List.setIfInBounds_toArray,List.set_cons_succ,List.set_cons_zero]
 refine Fg.aL (v:=.tuple #[Qb tR (.slice sT 32 sc),.bool bR]) (w':=A2) rfl (Fg.run_move rfl rfl) ?_
 simp only[Act.put,List.setIfInBounds_toArray,List.set_cons_succ,List.set_cons_zero]
 refine Fg.aL (v:=Qb tR (.slice sT 32 sc)) (w':=A2) rfl (Fg.cO rfl rfl rfl) ?_
 simp only[Act.put,List.setIfInBounds_toArray,List.set_cons_succ,List.set_cons_zero]
 refine Fg.aL (v:=.bool bR) (w':=A2) rfl (Fg.cO rfl rfl rfl) ?_
 simp only[Act.put,List.setIfInBounds_toArray,List.set_cons_succ,List.set_cons_zero]
 refine Fg.aL (v:=.pointer (some ⟨A2.heap.size,0,none⟩)) (w':=A2.alloc (.cells [Value.int IntKind.u64 0,Value.int IntKind.u64 0,Value.int IntKind.u64 0,Value.int IntKind.u64 0,Value.int IntKind.u64 0,Value.int IntKind.u64 0,Value.int IntKind.u64 0,Value.int IntKind.u64 0,Value.int IntKind.u64 0,Value.int IntKind.u64 0,Value.int IntKind.u64 0,Value.int IntKind.u64 0,Value.int IntKind.u64 0,Value.int IntKind.u64 0,Value.int IntKind.u64 0,Value.int IntKind.u64 0,Value.int IntKind.u64 0,Value.int IntKind.u64 0,Value.int IntKind.u64 0,Value.int IntKind.u64 0,Value.slice none 0 0].toArray 70)) rfl (by go_simp) ?_
 simp only[Act.put,List.setIfInBounds_toArray,List.set_cons_succ,List.set_cons_zero]
 have OJ:w0.heap.size<=A2.heap.size:=G.size
 have iR:=aF.new A2 [Value.int IntKind.u64 0,Value.int IntKind.u64 0,Value.int IntKind.u64 0,Value.int IntKind.u64 0,Value.int IntKind.u64 0,Value.int IntKind.u64 0,Value.int IntKind.u64 0,Value.int IntKind.u64 0,Value.int IntKind.u64 0,Value.int IntKind.u64 0,Value.int IntKind.u64 0,Value.int IntKind.u64 0,Value.int IntKind.u64 0,Value.int IntKind.u64 0,Value.int IntKind.u64 0,Value.int IntKind.u64 0,Value.int IntKind.u64 0,Value.int IntKind.u64 0,Value.int IntKind.u64 0,Value.int IntKind.u64 0,Value.slice none 0 0] 70
 have RU:=gu.lt
 have Wv:=au (ah A2 none) (.cells [Value.int IntKind.u64 0,Value.int IntKind.u64 0,Value.int IntKind.u64 0,Value.int IntKind.u64 0,Value.int IntKind.u64 0,Value.int IntKind.u64 0,Value.int IntKind.u64 0,Value.int IntKind.u64 0,Value.int IntKind.u64 0,Value.int IntKind.u64 0,Value.int IntKind.u64 0,Value.int IntKind.u64 0,Value.int IntKind.u64 0,Value.int IntKind.u64 0,Value.int IntKind.u64 0,Value.int IntKind.u64 0,Value.int IntKind.u64 0,Value.int IntKind.u64 0,Value.int IntKind.u64 0,Value.int IntKind.u64 0,Value.slice none 0 0].toArray 70)
 replace gu:=gu.gn Wv
 replace G:=aj G Wv
 replace HT:=HT.grown Wv
 clear Wv
 obtain⟨Cq,Zr⟩:∃x,x=A2.heap.size:=⟨_,rfl⟩
 rw[<- Zr]at iR OJ ⊢
 rw[<- Zr]at RU
 revert gu G HT iR
 generalize (A2.alloc (.cells [Value.int IntKind.u64 0,Value.int IntKind.u64 0,Value.int IntKind.u64 0,Value.int IntKind.u64 0,Value.int IntKind.u64 0,Value.int IntKind.u64 0,Value.int IntKind.u64 0,Value.int IntKind.u64 0,Value.int IntKind.u64 0,Value.int IntKind.u64 0,Value.int IntKind.u64 0,Value.int IntKind.u64 0,Value.int IntKind.u64 0,Value.int IntKind.u64 0,Value.int IntKind.u64 0,Value.int IntKind.u64 0,Value.int IntKind.u64 0,Value.int IntKind.u64 0,Value.int IntKind.u64 0,Value.int IntKind.u64 0,Value.slice none 0 0].toArray 70))=A2x
 intro gu G HT iR
 clear Zr
 refine Fg.aU rfl rfl (Fg.run_store (cs:=pq tR (.slice sT 32 sc)) rfl rfl rfl (iR.there 0 21 (by show 0+21<=21;decide)) qP (wW _ _ _ _)) ?_
 replace gu:=gu.ak (C:=Cq) (cs:=pq tR (.slice sT 32 sc)) 0 (by omega)
 replace iR:aF (A2x.setCells Cq 0 (pq tR (.slice sT 32 sc))) Cq 70 (pq tR (.slice sT 32 sc)):=iR.bG rfl
 replace G:=aH (cs:=pq tR (.slice sT 32 sc)) G (B:=Cq) (OJ) 0
 replace HT:=HT.keep (aK (cs:=pq tR (.slice sT 32 sc)) (ah _ (some Cq)) 0) (HT0.jS (OJ))
 revert gu iR G HT
 generalize A2x.setCells Cq 0 (pq tR (.slice sT 32 sc))=W2
 intro gu iR G HT
 refine Fg.aL (v:=.bool bR) (w':=W2) rfl (Fg.run_assign rfl rfl) ?_
 simp only[Act.put,List.setIfInBounds_toArray,List.set_cons_succ,List.set_cons_zero]
 refine wpList_nil ?_
 cases bA with
 | false=>
  go_upto_region 6 with (fail)
  have vU:=G.size
  have GY:=gu.lt
  have K6:=iR.lt
  refine Fg.rP [] [.any,.any,.any,.any,.any,.any,.any,.any,.any,.any,.any,.any,.any,.any,.any,.any,.any,.any,.any,.any,.any,.any,.any,.any,.any,.any,.any,.any,.any,.val (Value.bool false),.val (Value.bool true),.val (Value.bool true),.val undef,.val undef,.val (Value.bool true),.val (Value.bool true),.val undef,.val undef,.val undef,.val (Value.bool true)] 11 ?_ ?_
  .refine Fg.vS rfl (by decide) (fun _ _ h=>Fg.vn _ (Fg.run_move rfl (h.r 9))) ?_
   refine Fg.vS rfl (by decide) (fun ac w h=>?_) ?_
   .have e29:_=Value.bool false:=h.d 29
    refine⟨aB rfl,Value.bool true,w,?_,ah _ _,rfl⟩
    clear h
    simp only[execOp,Act.eval,e29]
    go_simp
   refine Fg.vS rfl (by decide) (fun _ _ h=>Fg.vn _ (Fg.run_move rfl (h.d 30))) ?_
   refine⟨⟨⟨_,rfl⟩,Fg.dW rfl (by decide) (fun _=>rfl) fun ac w h=>?_⟩,?_⟩
   .have e31:_=Value.bool true:=h.d 31
    exact dD (d:=31) rfl rfl (by rw[h.size];show 31<56;decide) e31 (by decide)
   refine⟨⟨⟨_,rfl⟩,Fg.dW rfl (by decide) (fun _=>rfl) fun ac w h=>?_⟩,?_⟩
   .have e31:_=Value.bool true:=h.d 31
    exact dD (d:=31) rfl rfl (by rw[h.size];show 31<56;decide) e31 (by decide)
   refine Fg.vS rfl (by decide) (fun ac w h=>?_) ?_
   .have e31:_=Value.bool true:=h.d 31
    refine⟨aB rfl,Value.bool true,w,?_,ah _ _,rfl⟩
    clear h
    simp only[execOp,Act.eval,e31]
    go_simp
   refine Fg.vS rfl (by decide) (fun _ _ h=>Fg.vn _ (Fg.run_move rfl (h.d 34))) ?_
   refine⟨⟨⟨_,rfl⟩,Fg.dW rfl (by decide) (fun _=>rfl) fun ac w h=>?_⟩,?_⟩
   .have e35:_=Value.bool true:=h.d 35
    exact dD (d:=35) rfl rfl (by rw[h.size];show 35<56;decide) e35 (by decide)
   refine⟨⟨⟨_,rfl⟩,Fg.dW rfl (by decide) (fun _=>rfl) fun ac w h=>?_⟩,?_⟩
   .have e35:_=Value.bool true:=h.d 35
    exact dD (d:=35) rfl rfl (by rw[h.size];show 35<56;decide) e35 (by decide)
   refine⟨⟨⟨_,rfl⟩,Fg.dW rfl (by decide) (fun _=>rfl) fun ac w h=>?_⟩,?_⟩
   .have e35:_=Value.bool true:=h.d 35
    exact dD (d:=35) rfl rfl (by rw[h.size];show 35<56;decide) e35 (by decide)
   refine Fg.vS rfl (by decide) (fun ac w h=>?_) ?_
   .have e35:_=Value.bool true:=h.d 35
    refine⟨aB rfl,Value.bool true,w,?_,ah _ _,rfl⟩
    clear h
    simp only[execOp,Act.eval,e35]
    go_simp
   trivial
  .intro qa V3 g3 hsz hdf hrest aC hpt
   obtain⟨⟨u13,dM⟩,⟨u14,dB⟩,⟨u15,dO⟩,⟨u16,dI⟩,⟨u17,dY⟩,⟨u18,dZ⟩,⟨u19,d9⟩,⟨u20,dS⟩,⟨u21,eG⟩,⟨u22,eH⟩,⟨u23,dU⟩,⟨u24,dP⟩,⟨u25,eD⟩,⟨u26,eF⟩,⟨u27,fH⟩,⟨u28,jc⟩,⟨u29,kr⟩,⟨u30,iQ⟩,⟨u31,gJ⟩,⟨u32,jN⟩,⟨u33,jv⟩,⟨u34,iY⟩,⟨u35,jO⟩,⟨u36,jP⟩,⟨u37,kP⟩,⟨u38,kQ⟩,_⟩:=Fg.bn qa [13,14,15,16,17,18,19,20,21,22,23,24,25,26,27,28,29,30,31,32,33,34,35,36,37,38]
   obtain rfl:=Fg.aP [13,14,15,16,17,18,19,20,21,22,23,24,25,26,27,28,29,30,31,32,33,34,35,36,37,38,39] (vs:=[_,_,_,_,_,_,_,_,_,_,_,_,_,u13,u14,u15,u16,u17,u18,u19,u20,u21,u22,u23,u24,u25,u26,u27,u28,u29,u30,u31,u32,u33,u34,u35,u36,u37,u38,Value.bool true,_,_,_,_,_,_,_,_,_,_,_,_,_,_,_,_]) hsz hrest (by kernel_rfl) rfl rfl ⟨dM,dB,dO,dI,dY,dZ,d9,dS,eG,eH,dU,dP,eD,eF,fH,jc,kr,iQ,gJ,jN,jv,iY,jO,jP,kP,kQ,(show qa.tmps.getD 39 undef=Value.bool true from aC 39 (by kernel_rfl)),trivial⟩ hdf
   clear hsz hdf hrest aC hpt dM dB dO dI dY dZ d9 dS eG eH dU dP eD eF fH jc kr iQ gJ jN jv iY jO jP kP kQ
   replace gu:=gu.gn g3
   replace iR:=iR.gn g3
   replace G:=aj G g3
   replace HT:=HT.grown g3
   clear g3
   go_wp2_with fail
   go_ret
   exact⟨false,rfl,G,⟨fun h=>absurd h (by decide),fun⟨h1,A,_,hA,eA,_⟩=>absurd ⟨h1,A,hA,eA⟩ (HYA.out.2 trivial).2⟩⟩
 | true=>
  cases bR with
  | false=>
   go_upto_region 6 with (fail)
   have vU:=G.size
   have GY:=gu.lt
   have K6:=iR.lt
   refine Fg.rP [] [.any,.any,.any,.any,.any,.any,.any,.any,.any,.any,.any,.any,.any,.any,.any,.any,.any,.any,.any,.any,.any,.any,.any,.any,.any,.any,.any,.any,.any,.val (Value.bool true),.val (Value.bool false),.val (Value.bool false),.val (Value.bool false),.val (Value.bool true),.val (Value.bool true),.val (Value.bool true),.val undef,.val undef,.val undef,.val (Value.bool true)] 11 ?_ ?_
   .refine Fg.vS rfl (by decide) (fun _ _ h=>Fg.vn _ (Fg.run_move rfl (h.r 9))) ?_
    refine Fg.vS rfl (by decide) (fun ac w h=>?_) ?_
    .have e29:_=Value.bool true:=h.d 29
     refine⟨aB rfl,Value.bool false,w,?_,ah _ _,rfl⟩
     clear h
     simp only[execOp,Act.eval,e29]
     go_simp
    refine Fg.vS rfl (by decide) (fun _ _ h=>Fg.vn _ (Fg.run_move rfl (h.d 30))) ?_
    refine Fg.vS rfl (by decide) (fun ac w h=>?_) ?_
    .have e31:_=Value.bool false:=h.d 31
     have e11:_=Value.bool false:=h.r 11
     exact Fg.vx (Value.bool false) (aV (d:=31) rfl rfl (by rw[h.size];show 31<56;decide) e31) (Fg.run_move rfl e11)
    refine Fg.vS rfl (by decide) (fun ac w h=>?_) ?_
    .have e31:_=Value.bool false:=h.d 31
     have e32:_=Value.bool false:=h.d 32
     refine⟨aV (d:=31) rfl rfl (by rw[h.size];show 31<56;decide) e31,Value.bool true,w,?_,ah _ _,rfl⟩
     clear h
     simp only[execOp,Act.eval,e32]
     go_simp
    refine Fg.vS rfl (by decide) (fun ac w h=>?_) ?_
    .have e31:_=Value.bool false:=h.d 31
     have e33:_=Value.bool true:=h.d 33
     refine⟨aB rfl,Value.bool true,w,?_,ah _ _,rfl⟩
     clear h
     simp only[execOp,Act.eval,e31,e33]
     go_simp
    refine Fg.vS rfl (by decide) (fun _ _ h=>Fg.vn _ (Fg.run_move rfl (h.d 34))) ?_
    refine⟨⟨⟨_,rfl⟩,Fg.dW rfl (by decide) (fun _=>rfl) fun ac w h=>?_⟩,?_⟩
    .have e35:_=Value.bool true:=h.d 35
     exact dD (d:=35) rfl rfl (by rw[h.size];show 35<56;decide) e35 (by decide)
    refine⟨⟨⟨_,rfl⟩,Fg.dW rfl (by decide) (fun _=>rfl) fun ac w h=>?_⟩,?_⟩
    .have e35:_=Value.bool true:=h.d 35
     exact dD (d:=35) rfl rfl (by rw[h.size];show 35<56;decide) e35 (by decide)
    refine⟨⟨⟨_,rfl⟩,Fg.dW rfl (by decide) (fun _=>rfl) fun ac w h=>?_⟩,?_⟩
    .have e35:_=Value.bool true:=h.d 35
     exact dD (d:=35) rfl rfl (by rw[h.size];show 35<56;decide) e35 (by decide)
    refine Fg.vS rfl (by decide) (fun ac w h=>?_) ?_
    .have e35:_=Value.bool true:=h.d 35
     refine⟨aB rfl,Value.bool true,w,?_,ah _ _,rfl⟩
     clear h
     simp only[execOp,Act.eval,e35]
     go_simp
    trivial
   .intro qa V3 g3 hsz hdf hrest aC hpt
    obtain⟨⟨u13,dM⟩,⟨u14,dB⟩,⟨u15,dO⟩,⟨u16,dI⟩,⟨u17,dY⟩,⟨u18,dZ⟩,⟨u19,d9⟩,⟨u20,dS⟩,⟨u21,eG⟩,⟨u22,eH⟩,⟨u23,dU⟩,⟨u24,dP⟩,⟨u25,eD⟩,⟨u26,eF⟩,⟨u27,fH⟩,⟨u28,jc⟩,⟨u29,kr⟩,⟨u30,iQ⟩,⟨u31,gJ⟩,⟨u32,jN⟩,⟨u33,jv⟩,⟨u34,iY⟩,⟨u35,jO⟩,⟨u36,jP⟩,⟨u37,kP⟩,⟨u38,kQ⟩,_⟩:=Fg.bn qa [13,14,15,16,17,18,19,20,21,22,23,24,25,26,27,28,29,30,31,32,33,34,35,36,37,38]
    obtain rfl:=Fg.aP [13,14,15,16,17,18,19,20,21,22,23,24,25,26,27,28,29,30,31,32,33,34,35,36,37,38,39] (vs:=[_,_,_,_,_,_,_,_,_,_,_,_,_,u13,u14,u15,u16,u17,u18,u19,u20,u21,u22,u23,u24,u25,u26,u27,u28,u29,u30,u31,u32,u33,u34,u35,u36,u37,u38,Value.bool true,_,_,_,_,_,_,_,_,_,_,_,_,_,_,_,_]) hsz hrest (by kernel_rfl) rfl rfl ⟨dM,dB,dO,dI,dY,dZ,d9,dS,eG,eH,dU,dP,eD,eF,fH,jc,kr,iQ,gJ,jN,jv,iY,jO,jP,kP,kQ,(show qa.tmps.getD 39 undef=Value.bool true from aC 39 (by kernel_rfl)),trivial⟩ hdf
    clear hsz hdf hrest aC hpt dM dB dO dI dY dZ d9 dS eG eH dU dP eD eF fH jc kr iQ gJ jN jv iY jO jP kP kQ
    replace gu:=gu.gn g3
    replace iR:=iR.gn g3
    replace G:=aj G g3
    replace HT:=HT.grown g3
    clear g3
    go_wp2_with fail
    go_ret
    exact⟨false,rfl,G,⟨fun h=>absurd h (by decide),fun⟨_,_,R,_,_,hR,eR,_⟩=>absurd ⟨hst,R,hR,eR⟩ (HYR.out.2 trivial).2⟩⟩
  | true=>
   cases hq:decide (num (s.drop 32)<Sc.L) with
   | false=>
    go_upto_region 6 with (fail)
    have vU:=G.size
    have GY:=gu.lt
    have K6:=iR.lt
    refine Fg.rP [] [.any,.any,.any,.any,.any,.any,.any,.any,.any,.any,.any,.any,.any,.any,.any,.any,.any,.any,.any,.any,.any,.any,.any,.any,.any,.any,.any,.any,.any,.val (Value.bool true),.val (Value.bool false),.val (Value.bool false),.val (Value.bool true),.val (Value.bool false),.val (Value.bool false),.val (Value.bool false),.val (Value.slice sF 32 (sc-32)),.val (Value.bool false),.val (Value.bool true),.val (Value.bool true)] 11 ?_ ?_
    .refine Fg.vS rfl (by decide) (fun _ _ h=>Fg.vn _ (Fg.run_move rfl (h.r 9))) ?_
     refine Fg.vS rfl (by decide) (fun ac w h=>?_) ?_
     .have e29:_=Value.bool true:=h.d 29
      refine⟨aB rfl,Value.bool false,w,?_,ah _ _,rfl⟩
      clear h
      simp only[execOp,Act.eval,e29]
      go_simp
     refine Fg.vS rfl (by decide) (fun _ _ h=>Fg.vn _ (Fg.run_move rfl (h.d 30))) ?_
     refine Fg.vS rfl (by decide) (fun ac w h=>?_) ?_
     .have e31:_=Value.bool false:=h.d 31
      have e11:_=Value.bool true:=h.r 11
      exact Fg.vx (Value.bool true) (aV (d:=31) rfl rfl (by rw[h.size];show 31<56;decide) e31) (Fg.run_move rfl e11)
     refine Fg.vS rfl (by decide) (fun ac w h=>?_) ?_
     .have e31:_=Value.bool false:=h.d 31
      have e32:_=Value.bool true:=h.d 32
      refine⟨aV (d:=31) rfl rfl (by rw[h.size];show 31<56;decide) e31,Value.bool false,w,?_,ah _ _,rfl⟩
      clear h
      simp only[execOp,Act.eval,e32]
      go_simp
     refine Fg.vS rfl (by decide) (fun ac w h=>?_) ?_
     .have e31:_=Value.bool false:=h.d 31
      have e33:_=Value.bool false:=h.d 33
      refine⟨aB rfl,Value.bool false,w,?_,ah _ _,rfl⟩
      clear h
      simp only[execOp,Act.eval,e31,e33]
      go_simp
     refine Fg.vS rfl (by decide) (fun _ _ h=>Fg.vn _ (Fg.run_move rfl (h.d 34))) ?_
     refine Fg.vS rfl (by decide) (fun ac w h=>?_) ?_
     .have e35:_=Value.bool false:=h.d 35
      have e7:_=Value.slice sF 32 (sc-32):=h.r 7
      exact Fg.vx (Value.slice sF 32 (sc-32)) (aV (d:=35) rfl rfl (by rw[h.size];show 35<56;decide) e35) (Fg.run_move rfl e7)
     refine Fg.cS rfl (by decide) (fun _ w h=>Fg.cz rfl (aV (d:=35) rfl rfl (by rw[h.size];show 35<56;decide) (h.d 35)) (BL (sc-32) Bs sF (s.drop 32) _ false hsd (HSF.out.stay (aj G h.base)) (Zm.kept (aj G h.base) (fun r e=>by cases e)) hq) ⟨h.d 36,trivial⟩ Tryz.func90) ?_
     refine Fg.vS rfl (by decide) (fun ac w h=>?_) ?_
     .have e35:_=Value.bool false:=h.d 35
      have e37:_=Value.bool false:=h.d 37
      refine⟨aV (d:=35) rfl rfl (by rw[h.size];show 35<56;decide) e35,Value.bool true,w,?_,ah _ _,rfl⟩
      clear h
      simp only[execOp,Act.eval,e37]
      go_simp
     refine Fg.vS rfl (by decide) (fun ac w h=>?_) ?_
     .have e35:_=Value.bool false:=h.d 35
      have e38:_=Value.bool true:=h.d 38
      refine⟨aB rfl,Value.bool true,w,?_,ah _ _,rfl⟩
      clear h
      simp only[execOp,Act.eval,e35,e38]
      go_simp
     trivial
    .intro qa V3 g3 hsz hdf hrest aC hpt
     obtain⟨⟨u13,dM⟩,⟨u14,dB⟩,⟨u15,dO⟩,⟨u16,dI⟩,⟨u17,dY⟩,⟨u18,dZ⟩,⟨u19,d9⟩,⟨u20,dS⟩,⟨u21,eG⟩,⟨u22,eH⟩,⟨u23,dU⟩,⟨u24,dP⟩,⟨u25,eD⟩,⟨u26,eF⟩,⟨u27,fH⟩,⟨u28,jc⟩,⟨u29,kr⟩,⟨u30,iQ⟩,⟨u31,gJ⟩,⟨u32,jN⟩,⟨u33,jv⟩,⟨u34,iY⟩,⟨u35,jO⟩,⟨u36,jP⟩,⟨u37,kP⟩,⟨u38,kQ⟩,_⟩:=Fg.bn qa [13,14,15,16,17,18,19,20,21,22,23,24,25,26,27,28,29,30,31,32,33,34,35,36,37,38]
     obtain rfl:=Fg.aP [13,14,15,16,17,18,19,20,21,22,23,24,25,26,27,28,29,30,31,32,33,34,35,36,37,38,39] (vs:=[_,_,_,_,_,_,_,_,_,_,_,_,_,u13,u14,u15,u16,u17,u18,u19,u20,u21,u22,u23,u24,u25,u26,u27,u28,u29,u30,u31,u32,u33,u34,u35,u36,u37,u38,Value.bool true,_,_,_,_,_,_,_,_,_,_,_,_,_,_,_,_]) hsz hrest (by kernel_rfl) rfl rfl ⟨dM,dB,dO,dI,dY,dZ,d9,dS,eG,eH,dU,dP,eD,eF,fH,jc,kr,iQ,gJ,jN,jv,iY,jO,jP,kP,kQ,(show qa.tmps.getD 39 undef=Value.bool true from aC 39 (by kernel_rfl)),trivial⟩ hdf
     clear hsz hdf hrest aC hpt dM dB dO dI dY dZ d9 dS eG eH dU dP eD eF fH jc kr iQ gJ jN jv iY jO jP kP kQ
     replace gu:=gu.gn g3
     replace iR:=iR.gn g3
     replace G:=aj G g3
     replace HT:=HT.grown g3
     clear g3
     go_wp2_with fail
     go_ret
     exact⟨false,rfl,G,⟨fun h=>absurd h (by decide),fun⟨_,_,_,_,_,_,_,hS,_⟩=>absurd hS (of_decide_eq_false hq)⟩⟩
   | true=>
    go_upto_region 6 with (fail)
    have vU:=G.size
    have GY:=gu.lt
    have K6:=iR.lt
    refine Fg.rP [] [.any,.any,.any,.any,.any,.any,.any,.any,.any,.any,.any,.any,.any,.any,.any,.any,.any,.any,.any,.any,.any,.any,.any,.any,.any,.any,.any,.any,.any,.val (Value.bool true),.val (Value.bool false),.val (Value.bool false),.val (Value.bool true),.val (Value.bool false),.val (Value.bool false),.val (Value.bool false),.val (Value.slice sF 32 (sc-32)),.val (Value.bool true),.val (Value.bool false),.val (Value.bool false)] 11 ?_ ?_
    .refine Fg.vS rfl (by decide) (fun _ _ h=>Fg.vn _ (Fg.run_move rfl (h.r 9))) ?_
     refine Fg.vS rfl (by decide) (fun ac w h=>?_) ?_
     .have e29:_=Value.bool true:=h.d 29
      refine⟨aB rfl,Value.bool false,w,?_,ah _ _,rfl⟩
      clear h
      simp only[execOp,Act.eval,e29]
      go_simp
     refine Fg.vS rfl (by decide) (fun _ _ h=>Fg.vn _ (Fg.run_move rfl (h.d 30))) ?_
     refine Fg.vS rfl (by decide) (fun ac w h=>?_) ?_
     .have e31:_=Value.bool false:=h.d 31
      have e11:_=Value.bool true:=h.r 11
      exact Fg.vx (Value.bool true) (aV (d:=31) rfl rfl (by rw[h.size];show 31<56;decide) e31) (Fg.run_move rfl e11)
     refine Fg.vS rfl (by decide) (fun ac w h=>?_) ?_
     .have e31:_=Value.bool false:=h.d 31
      have e32:_=Value.bool true:=h.d 32
      refine⟨aV (d:=31) rfl rfl (by rw[h.size];show 31<56;decide) e31,Value.bool false,w,?_,ah _ _,rfl⟩
      clear h
      simp only[execOp,Act.eval,e32]
      go_simp
     refine Fg.vS rfl (by decide) (fun ac w h=>?_) ?_
     .have e31:_=Value.bool false:=h.d 31
      have e33:_=Value.bool false:=h.d 33
      refine⟨aB rfl,Value.bool false,w,?_,ah _ _,rfl⟩
      clear h
      simp only[execOp,Act.eval,e31,e33]
      go_simp
     refine Fg.vS rfl (by decide) (fun _ _ h=>Fg.vn _ (Fg.run_move rfl (h.d 34))) ?_
     refine Fg.vS rfl (by decide) (fun ac w h=>?_) ?_
     .have e35:_=Value.bool false:=h.d 35
      have e7:_=Value.slice sF 32 (sc-32):=h.r 7
      exact Fg.vx (Value.slice sF 32 (sc-32)) (aV (d:=35) rfl rfl (by rw[h.size];show 35<56;decide) e35) (Fg.run_move rfl e7)
     refine Fg.cS rfl (by decide) (fun _ w h=>Fg.cz rfl (aV (d:=35) rfl rfl (by rw[h.size];show 35<56;decide) (h.d 35)) (BL (sc-32) Bs sF (s.drop 32) _ true hsd (HSF.out.stay (aj G h.base)) (Zm.kept (aj G h.base) (fun r e=>by cases e)) hq) ⟨h.d 36,trivial⟩ Tryz.func90) ?_
     refine Fg.vS rfl (by decide) (fun ac w h=>?_) ?_
     .have e35:_=Value.bool false:=h.d 35
      have e37:_=Value.bool true:=h.d 37
      refine⟨aV (d:=35) rfl rfl (by rw[h.size];show 35<56;decide) e35,Value.bool false,w,?_,ah _ _,rfl⟩
      clear h
      simp only[execOp,Act.eval,e37]
      go_simp
     refine Fg.vS rfl (by decide) (fun ac w h=>?_) ?_
     .have e35:_=Value.bool false:=h.d 35
      have e38:_=Value.bool false:=h.d 38
      refine⟨aB rfl,Value.bool false,w,?_,ah _ _,rfl⟩
      clear h
      simp only[execOp,Act.eval,e35,e38]
      go_simp
     trivial
    .intro qa V3 g3 hsz hdf hrest aC hpt
     obtain⟨⟨u13,dM⟩,⟨u14,dB⟩,⟨u15,dO⟩,⟨u16,dI⟩,⟨u17,dY⟩,⟨u18,dZ⟩,⟨u19,d9⟩,⟨u20,dS⟩,⟨u21,eG⟩,⟨u22,eH⟩,⟨u23,dU⟩,⟨u24,dP⟩,⟨u25,eD⟩,⟨u26,eF⟩,⟨u27,fH⟩,⟨u28,jc⟩,⟨u29,kr⟩,⟨u30,iQ⟩,⟨u31,gJ⟩,⟨u32,jN⟩,⟨u33,jv⟩,⟨u34,iY⟩,⟨u35,jO⟩,⟨u36,jP⟩,⟨u37,kP⟩,⟨u38,kQ⟩,_⟩:=Fg.bn qa [13,14,15,16,17,18,19,20,21,22,23,24,25,26,27,28,29,30,31,32,33,34,35,36,37,38]
     obtain rfl:=Fg.aP [13,14,15,16,17,18,19,20,21,22,23,24,25,26,27,28,29,30,31,32,33,34,35,36,37,38,39] (vs:=[_,_,_,_,_,_,_,_,_,_,_,_,_,u13,u14,u15,u16,u17,u18,u19,u20,u21,u22,u23,u24,u25,u26,u27,u28,u29,u30,u31,u32,u33,u34,u35,u36,u37,u38,Value.bool false,_,_,_,_,_,_,_,_,_,_,_,_,_,_,_,_]) hsz hrest (by kernel_rfl) rfl rfl ⟨dM,dB,dO,dI,dY,dZ,d9,dS,eG,eH,dU,dP,eD,eF,fH,jc,kr,iQ,gJ,jN,jv,iY,jO,jP,kP,kQ,(show qa.tmps.getD 39 undef=Value.bool false from aC 39 (by kernel_rfl)),trivial⟩ hdf
     clear hsz hdf hrest aC hpt dM dB dO dI dY dZ d9 dS eG eH dU dP eD eF fH jc kr iQ gJ jN jv iY jO jP kP kQ
     replace gu:=gu.gn g3
     replace iR:=iR.gn g3
     replace G:=aj G g3
     replace HT:=HT.grown g3
     clear g3
     go_upto_region 8 with (fail)
     refine wp_region_lit ?_
     refine Fg.aL (v:=.slice bt mt ct) (w':=V3) rfl (Fg.run_move rfl rfl) ?_
     simp only[Act.put,List.setIfInBounds_toArray,List.set_cons_succ,List.set_cons_zero]
     refine Fg.aL (v:=.pointer (some ⟨Cq,20,none⟩)) (w':=V3) rfl (by go_simp) ?_
     simp only[Act.put,List.setIfInBounds_toArray,List.set_cons_succ,List.set_cons_zero]
     refine Fg.aL (v:=.slice sT 32 sc) (w':=V3) rfl (oC rfl rfl (iR.cell (i:=20) rfl)) ?_
     simp only[Act.put,List.setIfInBounds_toArray,List.set_cons_succ,List.set_cons_zero]
     refine Fg.aL (v:=.pointer (some ⟨N8,20,none⟩)) (w':=V3) rfl (by go_simp) ?_
     simp only[Act.put,List.setIfInBounds_toArray,List.set_cons_succ,List.set_cons_zero]
     refine Fg.aL (v:=.slice a n cap) (w':=V3) rfl (oC rfl rfl (gu.cell (i:=20) rfl)) ?_
     simp only[Act.put,List.setIfInBounds_toArray,List.set_cons_succ,List.set_cons_zero]
     have ajc:=gu.lt
     have ahp:=iR.lt
     refine Fg.aL (v:=.slice (some ⟨V3.heap.size,0,none⟩) 2 2) (w':=V3.alloc (.cells #[.slice sT 32 sc,.slice a n cap] 24)) rfl (by go_simp) ?_
     simp only[Act.put,List.setIfInBounds_toArray,List.set_cons_succ,List.set_cons_zero]
     have gz:=au (ah V3 none) (.cells #[.slice sT 32 sc,.slice a n cap] 24)
     have hZ:=aF.new V3 [.slice sT 32 sc,.slice a n cap] 24
     have hwZ:w0.heap.size<=V3.heap.size:=G.size
     replace gu:=gu.gn gz
     replace iR:=iR.gn gz
     replace G:=aj G gz
     replace HT:=HT.grown gz
     clear gz
     obtain⟨Z,eZ⟩:∃x,x=V3.heap.size:=⟨_,rfl⟩
     rw[<- eZ]at hZ hwZ ⊢
     clear eZ
     revert gu iR G HT hZ
     generalize (V3.alloc (.cells #[.slice sT 32 sc,.slice a n cap] 24))=XZ
     intro gu iR G HT hZ
     have ahq:l.length=32:=by obtain⟨_,_,h,_⟩:=HYA.out.1 trivial;exact h
     refine Fg.bU rfl (Fg.aN (vs:=#[.slice bt mt ct,.slice (some ⟨Z,0,none⟩) 2 2]) rfl rfl (by simp only[List.map_toArray,List.map_cons,List.map_nil,Act.eval];rfl) (Fg.aI Tryz.func40 (by kernel_rfl) (by kernel_rfl))) ?_
     refine (EO mt ct 2 2 _ _ bt (some ⟨Z,0,none⟩) pt [⟨sT,sc,s.take 32⟩,⟨a,cap,l⟩] XZ (Zm.kept G (fun r e=>by cases e)) (vR.kept G (fun b e=>by cases e)) hpt rfl (Xz.out.grown G (Nat.le_refl _)) (SL hst hl hZ (HST.out.stay G) (Jy.out.stay G)) hct (by decide) (by rw[xA];simp only[List.length_append];omega)).mono ?_
     rintro e YK ho
     rw[xA]at ho
     obtain⟨gk,rfl,ga,hnk,hbk⟩:=xw ho (fJ _)
     refine⟨_,rfl,?_⟩
     clear ho
     obtain⟨kk,hkk⟩:∃k,k=Bo (num (bH.sum ((s.take 32++l)++joined pt))):=⟨_,rfl⟩
     rw[<- hkk]at hbk
     have hkl:kk.length=32:=by rw[hkk];exact fJ _
     have hkb:∀i,kk.getD i 0<256:=by rw[hkk];exact Bq _
     have HK:=Lib.hid hkk;clear hkk
     have hwk:w0.heap.size<=gk:=Nat.le_trans G.size hnk
     replace gu:=gu.gn ga
     replace iR:=iR.gn ga
     replace hZ:=hZ.gn ga
     replace G:=aj G ga
     replace HT:=HT.grown ga
     clear ga
     simp only[Act.put,List.setIfInBounds_toArray,List.set_cons_succ,List.set_cons_zero]
     refine Fg.aL (v:=.slice (some ⟨gk,0,none⟩) 32 32) (w':=YK) rfl (Fg.run_assign rfl rfl) ?_
     refine wpList_nil ?_
     simp only[Act.put,List.setIfInBounds_toArray,List.set_cons_succ,List.set_cons_zero]
     obtain⟨A,hA,_,eA⟩:=HYA.out.1 trivial
     obtain⟨R,hR,_,eR⟩:=HYR.out.1 trivial
     obtain⟨bb,hbb⟩:=Tf (Ed.add (bq (num kk) (Ed.neg A)) (bq (num (s.drop 32)) bW)=R)
     go_upto_region 9 with (fail)
     have Uw:=G.size
     have ajd:=gu.lt
     have ahr:=iR.lt
     have ame:=hZ.lt
     have aje:=hbk.lt
     refine Fg.rT [] [.any,.any,.any,.any,.any,.any,.val (Value.bool bb),.any,.any,.any,.any,.any,.any,.any,.any,.any,.any,.any,.any,.any,.any,.any,.any,.any,.any,.any,.any,.any,.any,.any,.any,.any,.any,.any,.any,.any,.any,.any,.any,.any,.any,.any,.any,.any,.any,.any,.any,.val (Value.slice (some ⟨gk,0,none⟩) 32 32),.val (Value.pointer (some ⟨N8,0,none⟩)),.val (tA.v),.stands (Ed.neg A),.val (Value.slice sF 32 (sc-32)),.stands (Ed.add (bq (num kk) (Ed.neg A)) (bq (num (s.drop 32)) bW)),.val (Value.pointer (some ⟨Cq,0,none⟩)),.val (tR.v),.val (Value.bool bb)] 10 ?_ ?_
     .refine Fg.vS rfl (by decide) (fun _ _ h=>Fg.vn _ (Fg.run_move rfl (h.r 12))) ?_
      refine Fg.vS rfl (by decide) (fun ac w h=>?_) ?_
      .have e8:_=Value.pointer (some ⟨N8,0,none⟩):=h.r 8
       refine⟨aB rfl,Value.pointer (some ⟨N8,0,none⟩),w,?_,ah _ _,rfl⟩
       clear h
       simp only[execOp,Act.eval,e8]
       go_simp
      refine Fg.vS rfl (by decide) (fun _ _ h=>Fg.vn tA.v (Fg.run_load rfl (h.d 48) ((gu.gn h.base).range 0 (aY tA) rfl) Tryz.underlying68 rfl aO)) ?_
      refine Fg.cS rfl (by decide) (fun ac w h=>?_) ?_
      .have e49:_=tA.v:=h.d 49
       refine⟨aB rfl,93,#[tA.v],Fg.aN rfl rfl (by simp only[List.map_toArray,List.map_cons,List.map_nil,Act.eval,e49]) (Fg.aI Tryz.func93 (by kernel_rfl) (by kernel_rfl)),?_⟩
       exact (abE tA A _ (HT.grown h.base) hA).mono fun _ _ ⟨t,ht,he,hg⟩=>⟨_,he,hg,⟨t,rfl,ht⟩⟩
      refine Fg.vS rfl (by decide) (fun _ _ h=>Fg.vn _ (Fg.run_move rfl (h.r 7))) ?_
      refine Fg.cS rfl (by decide) (fun ac w h=>?_) ?_
      .have e47:_=Value.slice (some ⟨gk,0,none⟩) 32 32:=h.d 47
       obtain⟨t50,e50,Zt⟩:∃t:Pt,ac.tmps.getD 50 undef=t.v/\iP t (Ed.neg A):=h.dep 50 (by kernel_rfl)
       have e51:_=Value.slice sF 32 (sc-32):=h.d 51
       refine⟨aB rfl,92,#[Value.slice (some ⟨gk,0,none⟩) 32 32,t50.v,Value.slice sF 32 (sc-32)],Fg.aN rfl rfl (by simp only[List.map_toArray,List.map_cons,List.map_nil,Act.eval,e47,e50,e51]) (Fg.aI Tryz.func92 (by kernel_rfl) (by kernel_rfl)),?_⟩
       exact (Zo t50 (Ed.neg A) kk (s.drop 32) 32 (sc-32) _ Bs (some ⟨gk,0,none⟩) sF _ (HT.grown h.base) Zt hkl hsd (Lib.hid (BJ (hbk.gn h.base) hkl hkb)) (Lib.hid (HSF.out.stay (aj G h.base)))).mono fun _ _ ⟨t,ht,he,hg⟩=>⟨_,he,hg,⟨t,rfl,ht⟩⟩
      refine Fg.vS rfl (by decide) (fun ac w h=>?_) ?_
      .have e10:_=Value.pointer (some ⟨Cq,0,none⟩):=h.r 10
       refine⟨aB rfl,Value.pointer (some ⟨Cq,0,none⟩),w,?_,ah _ _,rfl⟩
       clear h
       simp only[execOp,Act.eval,e10]
       go_simp
      refine Fg.vS rfl (by decide) (fun _ _ h=>Fg.vn tR.v (Fg.run_load rfl (h.d 53) ((iR.gn h.base).range 0 (aY tR) rfl) Tryz.underlying68 rfl aO)) ?_
      refine Fg.cS rfl (by decide) (fun ac w h=>?_) ?_
      .obtain⟨t52,e52,Zu⟩:∃t:Pt,ac.tmps.getD 52 undef=t.v/\iP t (Ed.add (bq (num kk) (Ed.neg A)) (bq (num (s.drop 32)) bW)):=h.dep 52 (by kernel_rfl)
       have e54:_=tR.v:=h.d 54
       refine⟨aB rfl,91,#[t52.v,tR.v],Fg.aN rfl rfl (by simp only[List.map_toArray,List.map_cons,List.map_nil,Act.eval,e52,e54]) (Fg.aI Tryz.func91 (by kernel_rfl) (by kernel_rfl)),?_⟩
       exact (Te (b:=bb) _ Zu hR hbb).mono fun _ _ ⟨he,hg⟩=>⟨_,he,hg,rfl⟩
      refine Fg.vS rfl (by decide) (fun _ _ h=>Fg.vn _ (Fg.run_assign rfl (h.d 55))) ?_
      trivial
     .intro qa V4 g4 hsz hdf hrest aC hpt
      obtain⟨⟨u40,oo⟩,⟨u41,ql⟩,⟨u42,mo⟩,⟨u43,sP⟩,⟨u44,qm⟩,⟨u45,mq⟩,⟨u46,mD⟩,⟨u47,oq⟩,⟨u48,sQ⟩,⟨u49,GU⟩,⟨u50,GV⟩,⟨u51,RS⟩,⟨u52,GN⟩,⟨u53,RV⟩,⟨u54,GQ⟩,⟨u55,GR⟩,_⟩:=Fg.bn qa [40,41,42,43,44,45,46,47,48,49,50,51,52,53,54,55]
      obtain rfl:=Fg.aP [6,40,41,42,43,44,45,46,47,48,49,50,51,52,53,54,55] (vs:=[_,_,_,_,_,_,Value.bool bb,_,_,_,_,_,_,_,_,_,_,_,_,_,_,_,_,_,_,_,_,_,_,_,_,_,_,_,_,_,_,_,_,_,u40,u41,u42,u43,u44,u45,u46,u47,u48,u49,u50,u51,u52,u53,u54,u55]) hsz hrest (by kernel_rfl) rfl rfl ⟨(show qa.tmps.getD 6 undef=Value.bool bb from aC 6 (by kernel_rfl)),oo,ql,mo,sP,qm,mq,mD,oq,sQ,GU,GV,RS,GN,RV,GQ,GR,trivial⟩ hdf
      clear hsz hdf hrest aC hpt oo ql mo sP qm mq mD oq sQ GU GV RS GN RV GQ GR
      replace gu:=gu.gn g4
      replace iR:=iR.gn g4
      replace hZ:=hZ.gn g4
      replace hbk:=hbk.gn g4
      replace G:=aj G g4
      replace HT:=HT.grown g4
      clear g4
      go_wp2_with fail
      go_ret
      exact⟨bb,rfl,G,Wu ahq hA.on eA hR.on eR (of_decide_eq_true hq) (by rw[<- HK.out];exact hbb)⟩
end
namespace Ed
open Num
structure Fr where
  X:F
  Y:F
  Z:F
structure zD (s:Fr) (p:Pr):Prop where
  on:On p
  z:s.Z≠0
  x:s.X=s.Z*p.x
  y:s.Y=s.Z*p.y
def oI (s t:Fr):Fr:=
  ⟨(s.Z*t.Z)*(((s.Z*t.Z)*(s.Z*t.Z)-d*((s.X*t.X)*(s.Y*t.Y)))*(s.X*t.Y+t.X*s.Y)),
   (s.Z*t.Z)*(((s.Z*t.Z)*(s.Z*t.Z)+d*((s.X*t.X)*(s.Y*t.Y)))*(s.X*t.X+s.Y*t.Y)),
   ((s.Z*t.Z)*(s.Z*t.Z)-d*((s.X*t.X)*(s.Y*t.Y)))*((s.Z*t.Z)*(s.Z*t.Z)+d*((s.X*t.X)*(s.Y*t.Y)))⟩
section
variable {n:Nat} [NeZero n]
theorem f_1 (d X Y Z x y X' Y' Z' x' y':Fin n) (hX:X=Z*x) (hY:Y=Z*y) (hX':X'=Z'*x') (hY':Y'=Z'*y'):
    (Z*Z')*(Z*Z')-d*((X*X')*(Y*Y'))=(Z*Z')*(Z*Z')*(1-d*(x*x'*y*y'))/\(Z*Z')*(Z*Z')+d*((X*X')*(Y*Y'))=(Z*Z')*(Z*Z')*(1+d*(x*x'*y*y'))/\X*Y'+X'*Y=(Z*Z')*(x*y'+x'*y)/\X*X'+Y*Y'=(Z*Z')*(y*y'+x*x'):=by grind
theorem f_2 (A m l c x:Fin n) (h:m*x=c):A*((A*A*l)*(A*c))=(A*A*l)*(A*A*m)*x:=by grind
theorem f_3 (A m l c y:Fin n) (h:l*y=c):A*((A*A*m)*(A*c))=(A*A*l)*(A*A*m)*y:=by grind
end
theorem M0 {s t:Fr} {p q:Pr} (h:zD s p) (k:zD t q):zD (oI s t) (add p q):=by
  obtain⟨h1,h2,h3,h4⟩:=f_1 d _ _ _ _ _ _ _ _ _ _ h.x h.y k.x k.y
  have nz:=eU h.z k.z
  have n1:=eU (eU nz nz) (l8 h.on k.on)
  have n2:=eU (eU nz nz) (oW h.on k.on)
  have ax:=yV h.on k.on
  have ay:=yX h.on k.on
  unfold tt at n1 n2 ax ay
  refine⟨sK h.on k.on,?_,?_,?_⟩
  . unfold oI;dsimp only;rw[h1,h2];exact eU n1 n2
  . unfold oI;dsimp only;rw[h1,h2,h3];exact f_2 _ _ _ _ _ ax
  . unfold oI;dsimp only;rw[h1,h2,h4];exact f_3 _ _ _ _ _ ay
theorem acN {s t:Fr} {p q:Pr} (h:zD s p) (k:zD t q):(s.X*t.Z=t.X*s.Z/\s.Y*t.Z=t.Y*s.Z)↔p=q:=by
  rw[e_9 h.x k.x,e_9 h.y k.y]
  have hz:=eU h.z k.z
  exact⟨fun⟨h1,h2⟩=>ext (cancel hz h1) (cancel hz h2),fun e=>by rw[e];exact⟨rfl,rfl⟩⟩
def Tg (l:List Bool):Nat:=l.foldl (fun n b=>2*n+b.toNat) 0
theorem O7 (l:List Bool) (b:Bool):Tg (l++[b])=2*Tg l+b.toNat:=by simp[Tg]
def Zv (p:Fr) (l:List Bool):Fr:=l.foldl (fun s b=>if b then oI (oI s s) p else oI s s) ⟨0,1,1⟩
theorem Ti:zD ⟨0,1,1⟩ zero:=⟨oZ,sJ,e_7.1,e_7.2.1⟩
theorem Tj {p:Pr} (hp:On p) (k:Nat):add (bq k p) (bq k p)=bq (2*k) p:=by rw[Nat.two_mul,iD hp]
theorem XD {s:Fr} {p:Pr} (h:zD s p) (l:List Bool):zD (Zv s l) (bq (Tg l) p):=by
  have gen:∀(l:List Bool) (t:Fr) (k:Nat),zD t (bq k p)->zD (l.foldl (fun s' b=>if b then oI (oI s' s') s else oI s' s') t) (bq (l.foldl (fun n b=>2*n+b.toNat) k) p):=by
    intro l
    induction l with
    | nil=>intro t k ht;exact ht
    | cons b r ih=>
      intro t k ht
      have h2:=M0 ht ht
      rw[Tj h.on]at h2
      cases b
      . exact ih _ _ (by simpa using h2)
      . refine ih _ _ ?_
        have h3:=M0 h2 h
        exact h3
  exact gen l ⟨0,1,1⟩ 0 Ti
structure N3 where
  x:Nat
  y:Nat
  z:Nat
def N3.f (a:N3):Fr:=⟨Fin.ofNat _ a.x,Fin.ofNat _ a.y,Fin.ofNat _ a.z⟩
def force {α:Type} (n:Nat) (k:Nat->α):α:=Nat.rec (k 0) (fun m _=>k (m+1)) n
theorem Tk {α:Type} (n:Nat) (k:Nat->α):force n k=k n:=by cases n<;>rfl
def addN (s t:N3) (k:N3->N3):N3:=
  force (s.z*t.z%Fe.P) fun a=>force (a*a%Fe.P) fun b=>force (s.x*t.x%Fe.P) fun c=>force (s.y*t.y%Fe.P) fun e=>
  force (dN*(c*e)%Fe.P) fun f=>force (b+(Fe.P-f)) fun l=>force (b+f) fun m=>force (a*(l*(s.x*t.y+t.x*s.y))%Fe.P) fun x=>
  force (a*(m*(c+e))%Fe.P) fun y=>force (l*m%Fe.P) fun z=>k ⟨x,y,z⟩
def xC (p:N3):List Bool->N3->N3
  | [],s=>s
  | b:: r,s=>addN s s fun s2=>if b then addN s2 p (xC p r) else xC p r s2
theorem ofNat_mod (a:Nat):(Fin.ofNat Fe.P (a%Fe.P))=Fin.ofNat Fe.P a:=Fin.ext (by simp)
theorem ofNat_mul (a b:Nat):(Fin.ofNat Fe.P (a*b))=Fin.ofNat Fe.P a*Fin.ofNat Fe.P b:=Fin.ext (by simp[Fin.val_mul])
theorem ofNat_add (a b:Nat):(Fin.ofNat Fe.P (a+b))=Fin.ofNat Fe.P a+Fin.ofNat Fe.P b:=Fin.ext (by simp[Fin.val_add])
theorem Ww {n:Nat} [NeZero n] {x y z:Fin n} (h:x+y=z):x=z-y:=by grind
theorem ofNat_sub {a:Nat} (h:a<Fe.P) (b:Nat):(Fin.ofNat Fe.P (b+(Fe.P-a)))=Fin.ofNat Fe.P b-Fin.ofNat Fe.P a:=by
  apply Ww
  rw[<- ofNat_add,show b+(Fe.P-a)+a=b+Fe.P by omega]
  exact Fin.ext (by simp)
theorem Wx:Fin.ofNat Fe.P dN=d:=by decide +kernel
theorem M4 (s t:N3) (k:N3->N3):∃u,addN s t k=k u/\u.f=oI s.f t.f:=by
  unfold addN
  simp only[Tk]
  refine⟨_,rfl,?_⟩
  have hl:dN*(s.x*t.x%Fe.P*(s.y*t.y%Fe.P))%Fe.P<Fe.P:=Nat.mod_lt _ (Nat.pos_of_ne_zero Yd)
  unfold N3.f oI
  simp only[ofNat_mod,ofNat_mul,ofNat_sub hl,ofNat_add,Wx]
theorem M5 (p:N3):∀(l:List Bool) (s:N3),(xC p l s).f=l.foldl (fun s' b=>if b then oI (oI s' s') p.f else oI s' s') s.f:=by
  intro l
  induction l with
  | nil=>intro s;rfl
  | cons b r ih=>
    intro s
    obtain⟨u,hu,hf⟩:=M4 s s fun s2=>if b then addN s2 p (xC p r) else xC p r s2
    show (addN s s fun s2=>if b then addN s2 p (xC p r) else xC p r s2).f=_
    rw[hu]
    cases b
    . rw[List.foldl_cons,<- hf];exact ih u
    . obtain⟨v,hv,hg⟩:=M4 u p (xC p r)
      rw[List.foldl_cons,if_pos rfl,if_pos rfl,<- hf,<- hg,hv];exact ih v
def oJ:Nat->Nat->List Bool
  | 0,_=>[]
  | k+1,n=>oJ k (n/2)++[n%2==1]
theorem DC:∀k n,n<2^k->Tg (oJ k n)=n:=by
  intro k
  induction k with
  | zero=>
            intro n h;have:n=0:=by simpa using h
            subst this;rfl
  | succ k ih=>
    intro n h
    rw[oJ,O7,ih (n/2) (by rw[Nat.pow_succ]at h;omega)]
    rcases Nat.mod_two_eq_zero_or_one n with e|e<;>rw[e]<;>simp<;>omega
def Lo:Nat:=7237005577332262213973186563042994240857116359379907606001950938285454250989
def tH:N3:=⟨15112221349535400772501151409588531511454012693041857206046113283949847762202,46316835694926478169428394003475163141307993866256225615783033603165251855960,1⟩
theorem M6:tH.f=⟨bW.x,bW.y,1⟩:=by
  have h1:Fin.ofNat Fe.P tH.x=bW.x:=by decide +kernel
  have h2:Fin.ofNat Fe.P tH.y=bW.y:=by decide +kernel
  show (⟨_,_,_⟩:Fr)=_
  rw[h1,h2]
  congr 1
theorem Tm:zD ⟨bW.x,bW.y,1⟩ bW:=⟨ig,sJ,Ei _ _ rfl,Ei _ _ rfl⟩
def M7 (a:N3):Bool:=a.x%Fe.P==0&&a.y%Fe.P==a.z%Fe.P
theorem BM:M7 (xC tH (oJ 253 Lo) ⟨0,1,1⟩)=true:=by decide +kernel
theorem K7:bq Lo bW=zero:=by
  have h:=XD Tm (oJ 253 Lo)
  rw[DC 253 Lo (by decide +kernel)]at h
  have e:=M5 tH (oJ 253 Lo) ⟨0,1,1⟩
  rw[M6]at e
  have ez:(⟨0,1,1⟩:N3).f=(⟨0,1,1⟩:Fr):=rfl
  rw[ez]at e
  have e2:Zv ⟨bW.x,bW.y,1⟩ (oJ 253 Lo)=(xC tH (oJ 253 Lo) ⟨0,1,1⟩).f:=e.symm
  rw[e2]at h
  have hz:=BM
  generalize xC tH (oJ 253 Lo) ⟨0,1,1⟩=r at *
  unfold M7 at hz
  simp only[Bool.and_eq_true,beq_iff_eq]at hz
  apply (acN h Ti).1
  have hx:r.f.X=0:=Fin.ext (by show r.x%Fe.P=_;rw[hz.1];exact j5.symm)
  have hy:r.f.Y=r.f.Z:=Fin.ext hz.2
  rw[hx,hy]
  exact⟨f_5 _,f_6 _⟩
where
  f_5 {n:Nat} [NeZero n] (z:Fin n):0*1=0*z:=by grind
  f_6 {n:Nat} [NeZero n] (z:Fin n):z*1=1*z:=by grind
theorem pU (a:Nat):bq a bW=bq (a%Lo) bW:=by
  have h:a=Lo*(a/Lo)+a%Lo:=(Nat.div_add_mod a Lo).symm
  have e:bq a bW=bq (Lo*(a/Lo)+a%Lo) bW:=congrArg (fun n=>bq n bW) h
  rw[e,iD ig,nY ig,K7,ug,zero_add (cK ig _)]
end Ed
section
open Go.RowKit Ow Ed
theorem Zw:Sc.L=Lo:=by decide +kernel
theorem Tn (k s r:Nat):Ed.add (bq k (Ed.neg (bq s bW))) (bq ((k*s+r)%Sc.L) bW)=bq r bW:=by
 have hA:=cK ig s
 have hN:=vo hA
 have h0:Ed.add (bq k (Ed.neg (bq s bW))) (bq k (bq s bW))=zero:=by
  rw[<- wM hN hA,Ed.add_comm,add_neg hA,ug]
 rw[Zw,<- pU,iD ig,Nat.mul_comm k s,nY ig,<- add_assoc (cK hN k) (cK hA k) (cK ig r),h0,zero_add (cK ig r)]
theorem EU (l m:List Nat):num (MX l m)=(num (sgk l m)*num (xu l)+num (XC l m))%Sc.L:=zN _
theorem Wy (l m:List Nat):(MX l m).length=32:=fJ _
theorem pG (l m:List Nat):(Dz l m).length=64:=by unfold Dz;rw[List.length_append,gy,Wy]
theorem IU (l m:List Nat):(Dz l m).take 32=jk (enc (SX l m)):=by
 unfold Dz
 rw[List.take_left' (gy _)]
theorem IV (l m:List Nat):(Dz l m).drop 32=MX l m:=by
 unfold Dz
 rw[List.drop_left' (gy _)]
theorem EW (l m:List Nat) (i:Nat):(Dz l m).getD i 0<256:=by
 unfold Dz
 by_cases h:i<32
 .rw[List.getD_eq_getElem?_getD,List.getElem?_append_left (by rw[gy];exact h),<- List.getD_eq_getElem?_getD]
  exact qL _ i
 .rw[List.getD_eq_getElem?_getD,List.getElem?_append_right (by rw[gy];omega),<- List.getD_eq_getElem?_getD]
  exact Bq _ _
theorem Tp (l:List Nat):On (zC l):=cK ig _
theorem Zx (l m:List Nat):On (SX l m):=cK ig _
theorem IW (l m:List Nat):ET (jk (enc (zC l))) (Dz l m) m:=by
 refine⟨gy _,zC l,SX l m,Tp l,(AY (yg _).1 (yg _).2).symm,Zx l m,?_,?_,?_⟩
 .rw[IU];exact (AY (yg _).1 (yg _).2).symm
 .rw[IV,EU];exact Nat.mod_lt _ (by decide +kernel)
 .rw[IV,IU,EU]
  exact Tn _ _ _
end
section
open Go.RowKit Ow Ed
def acO (a:N3) (x y:Nat):Bool:=a.x%Fe.P==x*a.z%Fe.P&&a.y%Fe.P==y*a.z%Fe.P
theorem EX (n x y:Nat) (hn:n<2^256) (hx:x<Fe.P) (hy:y<Fe.P) (hon:On ⟨⟨x,hx⟩,⟨y,hy⟩⟩) (h:acO (xC tH (oJ 256 n) ⟨0,1,1⟩) x y=true):bq n bW=⟨⟨x,hx⟩,⟨y,hy⟩⟩:=by
 have h1:=XD Tm (oJ 256 n)
 rw[DC 256 n hn]at h1
 have e:=M5 tH (oJ 256 n) ⟨0,1,1⟩
 rw[M6]at e
 have ez:(⟨0,1,1⟩:N3).f=(⟨0,1,1⟩:Fr):=rfl
 rw[ez]at e
 have e2:Zv ⟨bW.x,bW.y,1⟩ (oJ 256 n)=(xC tH (oJ 256 n) ⟨0,1,1⟩).f:=e.symm
 rw[e2]at h1
 have h2:zD ⟨⟨x,hx⟩,⟨y,hy⟩,1⟩ ⟨⟨x,hx⟩,⟨y,hy⟩⟩:=⟨hon,sJ,Ei _ _ rfl,Ei _ _ rfl⟩
 generalize xC tH (oJ 256 n) ⟨0,1,1⟩=r at *
 unfold acO at h
 simp only[Bool.and_eq_true,beq_iff_eq]at h
 apply (acN h1 h2).1
 have hX:r.f.X=⟨x,hx⟩*r.f.Z:=Fin.ext (by
  rw[Fin.val_mul]
  show r.x%Fe.P=x*(r.z%Fe.P)%Fe.P
  rw[h.1,Nat.mul_mod_mod])
 have hY:r.f.Y=⟨y,hy⟩*r.f.Z:=Fin.ext (by
  rw[Fin.val_mul]
  show r.y%Fe.P=y*(r.z%Fe.P)%Fe.P
  rw[h.2,Nat.mul_mod_mod])
 rw[hX,hY]
 exact⟨f_7 _,f_7 _⟩
where
 f_7 {n:Nat} [NeZero n] (z:Fin n):z*1=z:=by grind
end
section
namespace Wi
def ofI (n:Int):Nat:=(n%18446744073709551616).toNat
def O8 (m:Nat):List Nat:=(List.range 8).map fun i=>m/2^(8*(7-i))%256
def gL (n:Int):List Nat:=O8 (ofI n)
theorem Zy (n:Int):ofI n<18446744073709551616:=by unfold ofI;omega
theorem M8 (m:Nat):O8 m=[m/72057594037927936%256,m/281474976710656%256,m/1099511627776%256,m/4294967296%256,m/16777216%256,m/65536%256,m/256%256,m/1%256]:=rfl
theorem IX (m:Nat):(O8 m).length=8:=by rw[M8];rfl
theorem gK (n:Int):(gL n).length=8:=IX _
theorem O9 (m i:Nat):(O8 m).getD i 0<256:=by
 rw[M8]
 rcases i with _|_|_|_|_|_|_|_|i<;>simp<;>omega
theorem nL (n:Int) (i:Nat):(gL n).getD i 0<256:=O9 _ i
end Wi
end
section
namespace Ve
abbrev D:=Int×Int
abbrev z0:D:=(0,0)
def Rt:Int->List D->Prop
 | _,[]=>True
 | a,d:: r=>a<d.1/\d.1<=8/\1<=d.2/\d.2<=1073741824/\Rt d.1 r
def BN:Int->List D->Bool
 | _,[]=>true
 | a,d:: r=>(decide (a<d.1)&&decide (d.1<=8)&&decide (1<=d.2)&&decide (d.2<=1073741824))&&BN d.1 r
theorem EY (l:List D):∀a,BN a l=true↔Rt a l:=by
 induction l with
 | nil=>intro a;simp[BN,Rt]
 | cons d r ih=>intro a;simp[BN,Rt,ih,and_assoc]
def up:List D->Int->Int
 | [],_=>0
 | d:: r,c=>if d.1=c then d.2 else up r c
theorem drop_at (l:List D) (k:Nat) (h:k<l.length):l.drop k=l.getD k z0:: l.drop (k+1):=by
 rw[List.drop_eq_getElem_cons h,List.getD_eq_getElem?_getD,List.getElem?_eq_getElem h];rfl
theorem IY (l:List D) (k:Nat) (h:l.length<=k):l.drop k=[]:=List.drop_eq_nil_iff.2 h
theorem Rt.mem {l:List D}:∀{a:Int},Rt a l->∀d∈l,a<d.1/\d.1<=8/\1<=d.2/\d.2<=1073741824:=by
 induction l with
 | nil=>intro a _ d hd;cases hd
 | cons e r ih=>
  intro a h d hd
  rcases List.mem_cons.1 hd with rfl|hd
  .exact⟨h.1,h.2.1,h.2.2.1,h.2.2.2.1⟩
  .have:=ih h.2.2.2.2 d hd
   have:=h.1
   omega
theorem Rt.len {l:List D}:∀{a:Int},Rt a l->a<=8->(l.length:Int)<=8-a:=by
 induction l with
 | nil=>intro a _ h;simp;omega
 | cons e r ih=>intro a h ha;have:=ih h.2.2.2.2 h.2.1;have:=h.1;simp;omega
theorem acP {l:List D}:∀{a:Int} {c:Int},Rt a l->c<=a->up l c=0:=by
 induction l with
 | nil=>intros;rfl
 | cons e r ih=>intro a c h hc;have:=h.1;rw[up,if_neg (by omega)];exact ih h.2.2.2.2 (by omega)
def CP (a:List D):List D->Bool
 | []=>true
 | d:: r=>decide (d.2<=up a d.1)&&CP a r
def okD (d:D):Bool:=decide (1<=d.1)&&decide (d.1<=8)&&decide (1<=d.2)&&decide (d.2<=1073741824)
theorem Wz (d:D):okD d=true↔Rt 0 [d]:=by
 simp[okD,Rt,and_assoc];omega
theorem M9 (d:D):BN 0 [d]=okD d:=by
 rw[Bool.eq_iff_iff,Wz,EY]
def pl (l:List D) (c:Int):Nat:=(List.range l.length).countP (fun i=>!decide (c<=(l.getD i z0).1))
theorem Rt.XE {l:List D}:∀{a:Int},Rt a l->∀i j,i<j->j<l.length->(l.getD i z0).1<(l.getD j z0).1:=by
 induction l with
 | nil=>intro a _ i j _ h;simp at h
 | cons e r ih=>
  intro a h i j hij hj
  cases j with
  | zero=>omega
  | succ j=>
   simp only[List.length_cons]at hj
   cases i with
   | zero=>
    simp only[List.getD_cons_zero,List.getD_cons_succ]
    have hm:r.getD j z0∈r:=by
     rw[List.getD_eq_getElem?_getD,List.getElem?_eq_getElem (by omega)];exact List.getElem_mem _
    exact (Rt.mem h.2.2.2.2 _ hm).1
   | succ i=>
    simp only[List.getD_cons_succ]
    exact ih h.2.2.2.2 i j (by omega) (by omega)
theorem Pb (p:Nat->Bool) (n:Nat) (hm:∀a b,a<=b->b<n->p a=true->p b=true):∃k,(List.range n).countP (fun i=>!p i)=k/\k<=n/\(∀i,i<k->p i=false)/\∀i,k<=i->i<n->p i=true:=by
 induction n with
 | zero=>exact⟨0,rfl,by omega,fun i h=>by omega,fun i _ h=>by omega⟩
 | succ n ih=>
  obtain⟨k,hk,hkn,h1,h2⟩:=ih (fun a b hab hb=>hm a b hab (by omega))
  rw[List.range_succ,List.countP_append,hk]
  by_cases hp:p n=true
  .exact⟨k,by simp[hp],by omega,h1,fun i hi hn=>by
    by_cases hin:i=n
    .subst hin;exact hp
    .exact h2 i hi (by omega)⟩
  .have hp':p n=false:=by simpa using hp
   have hkk:k=n:=by
    rcases Nat.lt_or_ge k n with hlt|hge
    .exact absurd (hm k n (by omega) (by omega) (h2 k (Nat.le_refl _) hlt)) hp
    .omega
   subst hkk
   refine⟨k+1,by simp[hp'],by omega,fun i hi=>?_,fun i hi hn=>by omega⟩
   by_cases hin:i=k
   .subst hin;exact hp'
   .exact h1 i (by omega)
theorem acQ {l:List D} {a:Int} (h:Rt a l) (c:Int):pl l c<=l.length/\(∀i,i<pl l c->(l.getD i z0).1<c)/\∀i,pl l c<=i->i<l.length->c<=(l.getD i z0).1:=by
 obtain⟨k,hk,hkn,h1,h2⟩:=Pb (fun i=>decide (c<=(l.getD i z0).1)) l.length (fun x y hxy hy hx=>by
  rcases Nat.eq_or_lt_of_le hxy with rfl|hlt
  .exact hx
  .have:=h.XE x y hlt hy
   simp only[decide_eq_true_eq]at hx ⊢
   omega)
 have hp:pl l c=k:=hk
 rw[hp]
 refine⟨hkn,fun i hi=>?_,fun i hi hn=>?_⟩
 .have:=h1 i hi
  simp only[decide_eq_false_iff_not]at this
  omega
 .have:=h2 i hi hn
  simpa using this
theorem acS {l:List D}:∀{a:Int} {c:Int} (k:Nat),Rt a l->(∀i,i<k->(l.getD i z0).1<c)->(k<l.length->c<=(l.getD k z0).1)->up l c=if k<l.length/\(l.getD k z0).1=c then (l.getD k z0).2 else 0:=by
 induction l with
 | nil=>intro a c k _ _ _;simp[up]
 | cons e r ih=>
  intro a c k h h1 h2
  cases k with
  | zero=>
   have:=h2 (by simp)
   simp only[List.getD_cons_zero]at this
   rw[up]
   by_cases he:e.1=c
   .rw[if_pos he,if_pos ⟨by simp,by simpa using he⟩];rfl
   .rw[if_neg he,if_neg (by simp;exact he)]
    exact acP h.2.2.2.2 (by omega)
  | succ k=>
   have h10:=h1 0 (by omega)
   simp only[List.getD_cons_zero]at h10
   rw[up,if_neg (by omega),ih (c:=c) k h.2.2.2.2 (fun i hi=>by have:=h1 (i+1) (by omega);simpa using this) (fun hk=>by have:=h2 (by simpa using hk);simpa using this)]
   simp only[List.length_cons,List.getD_cons_succ,Nat.add_lt_add_iff_right]
end Ve
end
section
open Wi Ve
namespace Rc
structure R where
 key:List Nat
 cl:Int
 sq:Int
 cx:List D
 gone:Bool
 val:List Nat
 sig:List Nat
def R.dot (r:R):D:=(r.cl,r.sq)
def acT (v:List D) (d:D):Bool:=BN 0 v&&okD d&&decide (d.2<=up v d.1)
def zP (r:R):Bool:=okD r.dot&&BN 0 r.cx&&!acT r.cx r.dot
def Zz (r:R):Bool:=decide (1<=r.key.length)&&decide (r.key.length<=64)
def ZA (r:R):Bool:=decide (r.val.length<=if r.gone then 0 else 1024)
def eP (r:R):Bool:=Zz r&&zP r&&ZA r
def iL (r:R):Bool:=eP r&&decide (r.sig.length=64)
def iT (g:Bool):Nat:=if g then 1 else 0
def WA (d:D):List Nat:=gL d.1++gL d.2
def dh (l:List D):List Nat:=l.flatMap WA
def iq (l:List Nat):List Nat:=gL (l.length:Int)++l
def gB (r:R):List Nat:=1:: (iq r.key++(WA r.dot++(gL (r.cx.length:Int)++(dh r.cx++(iT r.gone:: iq r.val)))))
theorem xD {r:R} (h:eP r=true):1<=r.key.length/\r.key.length<=64/\okD r.dot=true/\Rt 0 r.cx/\r.val.length<=1024/\acT r.cx r.dot=false:=by
 simp only[eP,Zz,zP,ZA,Bool.and_eq_true,decide_eq_true_eq,Bool.not_eq_true']at h
 obtain⟨⟨⟨h1,h2⟩,⟨h3,h4⟩,h5⟩,h6⟩:=h
 refine⟨h1,h2,h3,(EY _ _).1 h4,?_,h5⟩
 split at h6<;>omega
end Rc
end
section
open Wi Ve
namespace Gr
structure G where
 cl:Int
 pub:List Nat
 pre:List Nat
def tJ:Int->List G->Bool
 | _,[]=>true
 | last,g:: l=>(decide (last<g.cl)&&decide (g.cl<=8)&&decide (g.pub.length=32)&&decide (g.pre.length<=64))&&tJ g.cl l
def rightG (l:List G):Bool:=tJ 0 l
def Na:List G->Int->Option G
 | [],_=>none
 | g:: l,c=>if g.cl=c then some g else Na l c
def tK (p k:List Nat):Bool:=decide (k.take p.length=p)
end Gr
end
section
open Wi Ve
namespace Gr
noncomputable def BO (l s m:List Nat):Bool:=@decide (ET l s m) (Classical.propDecidable _)
theorem K8 {b:Bool} {l s m:List Nat} (h:b=true↔ET l s m):b=BO l s m:=by
 unfold BO
 rw[Bool.eq_iff_iff,h]
 exact (@decide_eq_true_iff _ (Classical.propDecidable _)).symm
theorem Nc {l s m:List Nat} (h:ET l s m):BO l s m=true:=(K8 (b:=true) ⟨fun _=>h,fun _=>rfl⟩).symm
theorem ZB {l s m:List Nat} (h:¬ET l s m):BO l s m=false:=(K8 (b:=false) ⟨fun h2=>(by cases h2),fun h2=>absurd h2 h⟩).symm
noncomputable def xE (pub:List Nat) (r:Rc.R):Int:=if Rc.iL r then (if BO pub r.sig (Rc.gB r) then 0 else 20) else 4
noncomputable def mH (l:List G) (r:Rc.R):Int:=if Rc.iL r then (match Na l r.cl with|some g=>if tK g.pre r.key then xE g.pub r else 21|none=>21) else 4
noncomputable def rG (l:List G):List Rc.R->Int
 | []=>0
 | r:: t=>if mH l r=0 then rG l t else mH l r
noncomputable def tL (l:List G) (rs:List Rc.R):Int:=if rightG l then rG l rs else 2
theorem qU (l:List G) (r:Rc.R):tL l [r]=if rightG l then mH l r else 2:=by
 unfold tL rG rG
 split
 .split<;>simp_all
 .rfl
end Gr
end
section
open Wi Ve Rc Ed
namespace Gr
theorem ZC (l s m:List Nat) (h:ET (jk (enc (zC l))) s m):
  enc (bq ((num (s.drop 32)+(Sc.L-num (Bo (num (bH.sum ((s.take 32++jk (enc (zC l)))++m))))*num (xu l)%Sc.L))%Sc.L) bW)=sS (s.take 32):=by
 obtain⟨_,A,R,hA,eA,hR,eR,_,he⟩:=h
 have hAe:A=zC l:=Ew hA (Tp l) (eA.trans (AY (yg (zC l)).1 (yg (zC l)).2))
 rw[hAe]at he
 clear hA eA hAe
 rw[<- eR,<- he]
 clear eR he hR
 refine congrArg enc ?_
 generalize num (Bo (num (bH.sum ((s.take 32++jk (enc (zC l)))++m))))=k
 generalize num (s.drop 32)=S
 unfold zC
 generalize num (xu l)=a
 have hA:=cK ig a
 have hN:=vo hA
 have h0:Ed.add (bq k (Ed.neg (bq a bW))) (bq k (bq a bW))=zero:=by
  rw[<- wM hN hA,Ed.add_comm,add_neg hA,ug]
 have hK:bq k (bq a bW)=bq (k*a) bW:=by rw[Nat.mul_comm k a,nY ig]
 have hL:k*a%Sc.L<Sc.L:=Nat.mod_lt _ (by decide +kernel)
 have hKY:Ed.add (bq (k*a) bW) (bq (Sc.L-k*a%Sc.L) bW)=zero:=by
  rw[<- iD ig,pU,<- Zw]
  have e:(k*a+(Sc.L-k*a%Sc.L))%Sc.L=0:=by
   have:=Nat.div_add_mod (k*a) Sc.L
   have e2:k*a+(Sc.L-k*a%Sc.L)=Sc.L*(k*a/Sc.L+1):=by rw[Nat.mul_add];omega
   rw[e2,Nat.mul_mod_right]
  rw[e]
  rfl
 have hX:bq k (Ed.neg (bq a bW))=bq (Sc.L-k*a%Sc.L) bW:=by
  have hYo:=cK ig (Sc.L-k*a%Sc.L)
  have hXo:=cK hN k
  have hKo:=cK ig (k*a)
  rw[hK]at h0
  have e1:=add_assoc hXo hKo hYo
  rw[h0,hKY,zero_add hYo,Ed.add_comm _ zero,zero_add hXo]at e1
  exact e1.symm
 rw[hX,Zw,<- pU,iD ig,Ed.add_comm]
def BP:List Nat:=[1,0,0,0,0,0,0,0,0,0,0,0,0,0,0,0,0,0,0,0,0,0,0,0,0,0,0,0,0,0,0,0]
def BQ:List Nat:=[1,0,0,0,0,0,0,0,3,97,47,120,0,0,0,0,0,0,0,1,0,0,0,0,0,0,0,1,0,0,0,0,0,0,0,0,0,0,0,0,0,0,0,0,0]
theorem ZE:num (xu BP)=41354757114163650016304086911142683682198188400503391378057401993857692208328:=by
 unfold xu
 rw[bH.wX BP (by decide +kernel)]
 decide +kernel
def acU:List Nat:=[153,118,54,7,240,168,93,11,212,54,105,25,74,58,64,87,122,82,138,243,149,244,241,126,6,241,222,252,198,222,178,165]
theorem WC:KW BP=acU:=by
 unfold KW
 rw[bH.wX BP (by decide +kernel)]
 decide +kernel
theorem r1:num (XC BP BQ)=6804219157760950938450107026141572218834515801315342491654770058211563587182:=by
 unfold XC
 rw[WC,zN,bH.wX (acU++BQ) (by decide +kernel)]
 decide +kernel
theorem acV:zC BP=⟨⟨26822555233711949854380153315158647482531717314742952720223963642152101436051,by decide +kernel⟩,⟨56461774818723834839721450787889437474891852695816614318545467683432985644238,by decide +kernel⟩⟩:=by
 unfold zC
 rw[ZE]
 exact EX _ _ _ (by decide +kernel) _ _ (by unfold On;decide +kernel) (by decide +kernel)
theorem acW:SX BP BQ=⟨⟨53115293046890305900893750314356144768739205817778508237902762260784404352039,by decide +kernel⟩,⟨52692356467597891925384762931887406350031654467506921026589211917134804607399,by decide +kernel⟩⟩:=by
 unfold SX
 rw[r1]
 exact EX _ _ _ (by decide +kernel) _ _ (by unfold On;decide +kernel) (by decide +kernel)
def pk1:List Nat:=[206,204,21,7,220,29,221,114,149,149,28,41,8,136,240,149,173,185,4,77,27,115,214,150,230,223,6,93,104,59,212,252]
theorem Tq:jk (enc (zC BP))=pk1:=by rw[acV];decide +kernel
def er1:List Nat:=[167,225,44,44,13,178,1,93,220,16,142,192,189,221,247,105,63,117,0,204,223,138,55,80,70,222,204,9,31,209,126,244]
theorem Tv:jk (enc (SX BP BQ))=er1:=by rw[acW];decide +kernel
theorem k1:num (sgk BP BQ)=1844071461402483382906482791584632395828012516737564724705635551024574663645:=by
 unfold sgk
 rw[Tq,Tv,zN,bH.wX ((er1++pk1)++BQ) (by decide +kernel)]
 decide +kernel
theorem S1:num (MX BP BQ)=98250802568693402775640800002260802825287286027997071845907100504723730778:=by
 rw[EU,k1,ZE,r1]
 decide +kernel
def Uy:List Nat:=[166,225,44,44,13,178,1,93,220,16,142,192,189,221,247,105,63,117,0,204,223,138,55,80,70,222,204,9,31,209,126,244]
theorem kb1:num (Bo (num (bH.sum ((Uy++pk1)++BQ))))=101583627364593468484254351088553664203969269399844735040971462656958029272:=by
 rw[zN,bH.wX ((Uy++pk1)++BQ) (by decide +kernel)]
 decide +kernel
theorem acX:bq 1776246755111867669783130059415825778536812854444843661722877675123784926618 bW=⟨⟨31265822680063107650422294121217988588707479565805885389835256979637232529235,by decide +kernel⟩,⟨2522428459596679708130492101259260287528375251305604535110500532070176055882,by decide +kernel⟩⟩:=
 EX _ _ _ (by decide +kernel) _ _ (by unfold On;decide +kernel) (by decide +kernel)
theorem WE:¬ET (jk (enc (zC BP))) (Uy++MX BP BQ) BQ:=by
 intro h
 have e:=ZC _ _ _ h
 rw[List.take_left' (show Uy.length=32 from rfl),List.drop_left' (show Uy.length=32 from rfl),Tq,kb1,ZE,S1]at e
 have en:(98250802568693402775640800002260802825287286027997071845907100504723730778+(Sc.L-101583627364593468484254351088553664203969269399844735040971462656958029272*41354757114163650016304086911142683682198188400503391378057401993857692208328%Sc.L))%Sc.L=1776246755111867669783130059415825778536812854444843661722877675123784926618:=by decide +kernel
 rw[en,acX]at e
 revert e
 decide +kernel
theorem Pd (x:Nat) (t q:List Nat):((x:: t)++q).set 0 (((x:: t)++q).getD 0 0^^^1)=((x^^^1):: t)++q:=rfl
theorem ZF:er1=167:: Uy.drop 1:=by decide +kernel
theorem ZG:(167^^^1):: Uy.drop 1=Uy:=by decide +kernel
theorem ZH:Dz BP BQ=er1++MX BP BQ:=congrArg (·++MX BP BQ) Tv
theorem WG:(Dz BP BQ).set 0 ((Dz BP BQ).getD 0 0^^^1)=Uy++MX BP BQ:=by
 rw[ZH]
 generalize MX BP BQ=q
 rw[ZF,Pd,ZG]
end Gr
end
section
open Go.RowKit Ow
theorem xG (n:Nat):Builtin.zeroCells (Value.int .u8 0).cells n=(List.replicate n (dG 0)).toArray:=by
 unfold Builtin.zeroCells dG
 apply Array.ext
 .simp[Value.cells]
 .intro i h1 h2
  simp[Value.cells,Nat.mod_one]
theorem xH (w:World) (g n cap k:Nat) (cur:Array Value) (hk:0<k) (hs:n+k<=1000000) (hg:w.heap[g]?=some (.cells cur 5 (0,0))) (hroom:n+k<=cap) (hfit:n+k<=cur.size):
  (Builtin.append_ #[24,3] 24 #[.slice (some ⟨g,0,none⟩) n cap,.int .i64 k]).run Tryz.prog w=
   .ok (.slice (some ⟨g,0,none⟩) (n+k) cap) (w.setRow g (cur.toList.take n++List.replicate k (dG 0)++cur.toList.drop (n+k)).toArray):=by
 obtain⟨i,hi,hz,hsz,hb⟩:=AA
 have hst:=run_storeCells_at Tryz.prog g n 5 (List.replicate k (dG 0)) 0 cur w hg (by simpa using hfit) (fun u hu=>by rw[(List.mem_replicate.1 hu).2];rfl)
 simp only[Nat.add_zero,List.length_replicate]at hst
 have hw:IntKind.i64.wrap (k:Int)=k:=by rw[IntKind.wrap_i64];omega
 have hneg:¬((k:Int)<0):=by omega
 have hbig:¬(281474976710656<(k:Int)*(1:Int)):=by omega
 have hk0:k≠0:=by omega
 have hzz:=xG k
 simp[Builtin.append_,run_underlying (Tryz.underlying24),run_underlying (Tryz.underlying3),sizeOf,typeInfo,zeroValue,hi,hz,hsz,hb,asInt,asIntOf,hw,hneg,hk0,hroom,Addr.add_lit,hzz,hst]
 omega
theorem EZ (w:World) (base n k:Nat) (v:Value) (xs:List Value) (hown:w.ownsRow base 5 1 v n xs) (hk:0<k) (hs:n+k<=1000000) (hbase:base<=w.heap.size):
  ∃v' w',(Builtin.append_ #[24,3] 24 #[v,.int .i64 k]).run Tryz.prog w=.ok v' w'/\w'.ownsRow base 5 1 v' (n+k) (xs++List.replicate k (dG 0))/\w.grownBy w' v.ownBlock:=by
 obtain⟨i,hi,hz,hsz,hb⟩:=AA
 have hx:=hown.1
 have hlen:(xs++List.replicate k (dG 0)).length=(n+k)*1:=by rw[List.length_append,hx,List.length_replicate];omega
 have h63:n+k<=maxLen:=by unfold maxLen;omega
 have grown:∀(old:Nat) (row:Option Nat),
   (w.drew.alloc (.cells (xs.toArray++(List.replicate k (dG 0)).toArray++Builtin.zeroCells (Value.int .u8 0).cells (grownCap w (n+k) old 5-(n+k))) 5)).ownsRow base 5 1
    (.slice (some ⟨w.heap.size,0,none⟩) (n+k) (grownCap w (n+k) old 5)) (n+k) (xs++List.replicate k (dG 0))/\
   w.grownBy (w.drew.alloc (.cells (xs.toArray++(List.replicate k (dG 0)).toArray++Builtin.zeroCells (Value.int .u8 0).cells (grownCap w (n+k) old 5-(n+k))) 5)) row:=by
  intro old row
  have hge:=grownCap_ge w (n+k) old 5
  have hcm:grownCap w (n+k) old 5<=maxLen:=grownCap_le_maxLen w (n+k) old 5 h63
  refine⟨⟨hlen,.inr ⟨w.heap.size,_,_,rfl,hbase,heap_alloc_new w.drew _,hge,hcm,?_,?_⟩⟩,⟨rfl,rfl,rfl,by simp,fun j hj _=>heap_alloc_old w.drew _ hj⟩⟩
  .rw[xG]
   simp only[Array.size_append,List.size_toArray,List.length_replicate,hx]
   omega
  .simp only[Array.toList_append,List.append_assoc]
   rw[<- List.append_assoc,<- hlen]
   exact List.take_left
 rcases hown.2 with⟨rfl,rfl⟩ |⟨g,cap,cur,rfl,hbg,hg,hnc,hcm,hcs,htake⟩
 .have hx0:xs=[]:=List.eq_nil_of_length_eq_zero (by simpa using hx)
  subst hx0
  have hr:=Lib.run_append_nil_zeros (P:=Tryz.prog) w 24 3 24 5 i (.int .u8 0) .i64 .i64 Tryz.underlying24 Tryz.underlying3 hi hz k hk (by omega) (by omega) (by rw[hb];omega)
  have hgr:=grown 0 (Value.ownBlock (.slice none 0 0))
  rw[xG k]at hr
  simp only[Nat.zero_add,List.nil_append,Array.empty_append]at hgr ⊢
  exact⟨_,_,hr,hgr.1,hgr.2⟩
 .by_cases hroom:n+k<=cap
  .have hr:=xH w g n cap k cur hk hs hg hroom (by omega)
   refine⟨_,_,hr,⟨hlen,.inr ⟨g,cap,_,rfl,hbg,setRow_heap w g cur _ _ _ hg,hroom,hcm,?_,?_⟩⟩,⟨rfl,rfl,rfl,by simp,fun j _ hj=>setRow_other w g j _ (fun e=>hj (by simp[Value.ownBlock,e]))⟩⟩
   .simp only[List.size_toArray,List.length_append,List.length_take,List.length_drop,Array.length_toList,List.length_replicate]
    omega
   .rw[<- hlen]
    have ht2:cur.toList.take n=xs:=by simpa using htake
    show List.take _ (cur.toList.take n++List.replicate k (dG 0)++cur.toList.drop (n+k))=_
    rw[ht2]
    exact List.take_left
  .have holds:∀j u,xs[j]?=some u->w.cell? ((⟨g,0,none⟩:Addr).add j)=some u:=hown.cells (g:=g) rfl
   have hf:=run_firstCells_some (P:=Tryz.prog) w.drew i.size n ⟨g,0,none⟩ n cap xs (by rw[hsz];exact hx) holds
   have hr:=Lib.run_append_grow_zeros (P:=Tryz.prog) w 24 3 24 5 i (.int .u8 0) .i64 .i64 Tryz.underlying24 Tryz.underlying3 hi hz (some ⟨g,0,none⟩) n cap xs hf k hk (by omega) (by omega) (by omega) (by rw[hb];omega) (by have:=nextslicecap_le (need:=n+k) (old:=cap) (by omega);rw[hb];omega)
   rw[xG k]at hr
   have hgr:=grown cap (Value.ownBlock (.slice (some ⟨g,0,none⟩) n cap))
   exact⟨_,_,hr,hgr.1,hgr.2⟩
end
section
open Go.ChangeShapes Go.WideShapes Go.ChangeAt Go.RowKit Ow
theorem fM {P:Program} {x:String×DataW Unit} {rest:List (String×DataW Unit)} {W:World} (h:laidMet P (x:: rest) W):laidMet P rest W:=by
 obtain⟨ps,⟨g,t,cs,fuel,p,q,_,_,_,_,hq,rfl⟩,hn,hc⟩:=h
 exact⟨q,hq,(List.nodup_append.1 hn).2.1,fun b off hm=>hc b off (List.mem_append_right _ hm)⟩
theorem own:ownKnob Tryz.prog.godebug=none:=by kernel_rfl
theorem laidOut:laidOutB Tryz.prog=true:=by kernel_rfl
def Pe (l:List Int):List Nat:=l.map Int.toNat
theorem Pf {W:World} {x:Addr} {len cap:Nat} {zs:List Int} (ht:cap<9223372036854775808) (hl:len<=cap) (hz:zs.length=cap) (hcell:∀i,i<zs.length->W.cell? (x.add i)=some (.int .u8 (zs.getD i 0))) (hw:∀n∈zs,(Lit.int .u8 n).wf=true):
  BytesAt W W.heap.size (some x) cap (Pe (zs.take len))/\(Pe (zs.take len)).length=len:=by
 have hlen:(Pe (zs.take len)).length=len:=by simp[Pe,hz];omega
 have hbd:∀n∈zs,0<=n/\n<256:=fun n hn=>by
  have:=hw n hn
  simp[Lit.wf,IntKind.min,IntKind.max,IntKind.signed,IntKind.bits]at this
  omega
 have hget:∀i,i<len->(((Pe (zs.take len)).getD i 0:Nat):Int)=zs.getD i 0:=fun i hi=>by
  have h1:i<zs.length:=by omega
  have:=hbd zs[i] (List.getElem_mem h1)
  rw[List.getD_eq_getElem?_getD,List.getD_eq_getElem?_getD]
  unfold Pe
  rw[List.getElem?_map,List.getElem?_take,if_pos hi,List.getElem?_eq_getElem h1]
  simp;omega
 refine⟨⟨Nat.le_refl _,by omega,ht,fun i=>?_,?_⟩,hlen⟩
 .by_cases hi:i<len
  .have h1:i<zs.length:=by omega
   have:=hbd zs[i] (List.getElem_mem h1)
   have h2:=hget i hi
   rw[List.getD_eq_getElem?_getD (l:=zs),List.getElem?_eq_getElem h1]at h2
   simp only[Option.getD_some]at h2
   omega
  .rw[List.getD_eq_getElem?_getD,List.getElem?_eq_none (by omega)];decide
 .by_cases h0:len=0
  .exact Or.inl (by omega)
  .obtain⟨b,off,spot⟩:=x
   have hc:=hcell 0 (by omega)
   have hspot:spot=none:=by simpa[Addr.add] using World.cell?_spot hc
   subst hspot
   have hadd:∀j,(⟨b,off,none⟩:Addr).add j=⟨b,off+j,none⟩:=fun j=>by unfold Addr.add;split<;>simp_all
   have hlt:b<W.heap.size:=block_lt_of_cell hc
   refine Or.inr ⟨b,off,rfl,hlt,fun i hi=>?_⟩
   rw[hlen]at hi
   have h3:=hcell i (by omega)
   rw[hadd,<- hget i hi]at h3
   exact h3
theorem BR {H:Type} {enc:TypeId×Value->H} {W:World} {a:Option Addr} {len cap:Nat} {d:DataW H} {ps:List MemPlace} (h:DataW.Trod enc Tryz.prog W 0 (fun _=>true) true 24 (.slice a len cap) d ps):
  ∃p,p.length=len/\BytesAt W W.heap.size a cap p:=by
 obtain⟨fuel,hf⟩:=h
 rcases open_ints Tryz.underlying24 Tryz.underlying5 (by kernel_rfl) hf with⟨hcs,_⟩ |⟨x,l,c,zs,hcs,_,hl,hm,hz,_,hcell,hwz⟩
 .simp[Value.cells]at hcs
  obtain⟨rfl,rfl,rfl⟩:=hcs
  exact⟨[],rfl,⟨Nat.le_refl _,Nat.le_refl _,by decide,by simp,Or.inl rfl⟩⟩
 .simp[Value.cells]at hcs
  obtain⟨rfl,rfl,rfl⟩:=hcs
  unfold maxLen at hm
  have hb:=Pf (by omega) hl (by simpa using hz) hcell hwz
  exact⟨_,hb.2,hb.1⟩
theorem Tw {n:Int} (h:(Lit.int .i64 n).wf=true): -9223372036854775808<=n/\n<=9223372036854775807:=by
 simp[Lit.wf,IntKind.min,IntKind.max,IntKind.signed,IntKind.bits]at h
 omega
end
section
open Go.RowKit Ow
structure jY (w:World) (B:Nat) (a:Option Addr) (L:List (List Nat)):Prop where
 lim:B<=w.heap.size
 cells:L.length=0\/∃pb po,a=some ⟨pb,po,none⟩/\pb<B/\∀i,i<L.length->∃ai ci,w.cell? ⟨pb,po+i,none⟩=some (.slice ai (L.getD i []).length ci)/\BytesAt w B ai ci (L.getD i [])
theorem jY.kept {w w':World} {B:Nat} {a:Option Addr} {L:List (List Nat)} (h:jY w B a L) {row:Option Nat} (hg:w.grownBy w' row) (hr:∀r,row=some r->B<=r):jY w' B a L:=by
 refine⟨Nat.le_trans h.lim hg.size,?_⟩
 rcases h.cells with h0 |⟨pb,po,ha,hlt,hc⟩
 .exact Or.inl h0
 .refine Or.inr ⟨pb,po,ha,hlt,fun i hi=>?_⟩
  obtain⟨ai,ci,h1,h2⟩:=hc i hi
  exact⟨ai,ci,by rw[aZ hg (p:=⟨pb,po+i,none⟩) (Nat.lt_of_lt_of_le hlt h.lim) (fun e=>by have:=hr _ e.symm;simp at this;omega)];exact h1,h2.kept hg hr⟩
theorem jY.stay {w w':World} {B:Nat} {a:Option Addr} {L:List (List Nat)} (h:jY w B a L) (hg:w.grownBy w' none):jY w' B a L:=h.kept hg (fun r e=>by cases e)
theorem jY.at {w:World} {B:Nat} {a:Option Addr} {L:List (List Nat)} (h:jY w B a L) {i:Nat} (hi:i<L.length):∃pb po ai ci,a=some ⟨pb,po,none⟩/\pb<B/\w.cell? ⟨pb,po+i,none⟩=some (.slice ai (L.getD i []).length ci)/\BytesAt w B ai ci (L.getD i []):=by
 obtain⟨pb,po,h1,h2,h3⟩:=h.cells.resolve_left (by omega)
 obtain⟨ai,ci,h4,h5⟩:=h3 i hi
 exact⟨pb,po,ai,ci,h1,h2,h4,h5⟩
end
section
open Go.ChangeShapes Go.WideShapes Go.ChangeAt Go.RowKit Ow Go.Deep
end
section
open Go.RowKit Ow
theorem oK {w:World} {base b' e n:Nat} {v:Value} {xs:List Value} (h:w.ownsRow base e 1 v n xs) (hb:b'<=base):w.ownsRow b' e 1 v n xs:=by
 refine⟨h.1,?_⟩
 rcases h.2 with h0 |⟨g',c',cur,e1,hg,rest⟩
 .exact Or.inl h0
 .exact Or.inr ⟨g',c',cur,e1,Nat.le_trans hb hg,rest⟩
theorem Tx {w a b:World} {e n:Nat} {v:Value} {xs:List Value} (hg:w.grownBy a none) (ho:a.ownsRow w.heap.size e 1 v n xs) (h:a.grownBy b v.ownBlock):w.grownBy b none:=by
 rcases ho.2 with⟨rfl,_⟩ |⟨g',c',cur,rfl,hb,_⟩
 .exact aj hg h
 .exact aW hg h hb
end
section
open Go.RowKit Ow
set_option maxRecDepth 100000 in
set_option maxHeartbeats 800000 in
theorem Tz (n:Nat) (w:World) (hn:n<=1000000):
  Calls Tryz.prog 88 #[.slice none 0 0,.int .i64 n] w fun e w'=>∃v,e=.returned v/\w.grownBy w' none/\w'.ownsRow w.heap.size 5 1 v 0 []:=by
 have i0:¬(n:Int)<0:=by omega
 by_cases hz:n=0
 .subst hz
  go_enter Tryz.func88,Tryz.ntmps88
  go_wp2
  go_ret
  exact⟨_,rfl,ah _ _,World.ownsRow_nil w _ 5 1⟩
 .have i1:(0:Int)<(n:Int):=by omega
  obtain⟨a0,hs0,_⟩:=AJ none 0 0 0 (Nat.le_refl _)
  obtain⟨v2,w2,hr2,ho2,hg2⟩:=EZ w w.heap.size 0 n (.slice none 0 0) [] (World.ownsRow_nil w _ 5 1) (by omega) (by omega) (Nat.le_refl _)
  rw[Nat.zero_add,List.nil_append]at ho2
  obtain⟨g,c,rfl,hbg,hnc,hcm,hlt⟩:=rW ho2 (by omega)
  obtain⟨a1,hs1,ha1⟩:=AJ (some ⟨g,0,none⟩) n c 0 (Nat.zero_le _)
  rw[ha1 g 0 rfl]at hs1
  have ho3:=Rq ho2 (Nat.zero_le n)
  rw[List.take_zero]at ho3
  have H:=Lib.hid (And.intro hg2 ho3);clear ho2 hg2 ho3
  have HR:=Lib.hid hr2;clear hr2
  have HS:=Lib.hid (And.intro hs0 hs1);clear hs0 hs1
  go_enter Tryz.func88,Tryz.ntmps88
  go_wp2_with (at_builtin;refine Lib.wpList_append_run w rfl (.tmp 20) (.tmp 21) 24 3 rfl (.slice none 0 0) (.int .i64 (n:Int)) rfl rfl _ _ HR.out ?_)
  go_ret
  exact⟨_,rfl,H.out.1,H.out.2⟩
theorem DF (L:List (List Nat)) (k:Nat) (hk:k<L.length):(L.take (k+1)).flatten=(L.take k).flatten++L.getD k []:=by
 rw[List.take_succ_eq_append_getElem hk,List.flatten_append,List.getD_eq_getElem?_getD,List.getElem?_eq_getElem hk]
 simp
theorem Nf (L:List (List Nat)) (k:Nat):(L.take k).flatten.length<=L.flatten.length:=by
 conv=>rhs;rw[<- List.take_append_drop k L]
 rw[List.flatten_append,List.length_append];omega
set_option maxRecDepth 100000 in
set_option maxHeartbeats 1600000 in
theorem K9 (m cap B:Nat) (L:List (List Nat)) (a:Option Addr) (w:World) (hm:L.length=m) (hR:jY w B a L) (hm2:m<9223372036854775808) (hlen:L.flatten.length<=1000000):
  Calls Tryz.prog 65 #[.slice a m cap] w fun e w'=>∃v,e=.returned v/\w.grownBy w' none/\w'.ownsRow w.heap.size 5 1 v L.flatten.length (L.flatten.map dG):=by
 have HR:=Lib.hid hR;clear hR
 have HL:=Lib.hid hlen;clear hlen
 have HM:=Lib.hid hm;clear hm
 go_enter Tryz.func65,Tryz.ntmps65
 go_wp2_with (fail)
 go_loopw [3,11] (fun v i wr=>∃k j:Nat,k<=m/\i=.int .i64 k/\v=.int .i64 ((L.take k).flatten.length:Nat)/\wr=w.drewN j) (fun _ i _=>m-(intOf i).toNat)
 case atStart=>exact⟨0,0,by omega,rfl,rfl,rfl⟩
 case round=>
  obtain⟨k,j,hk,rfl,rfl,rfl⟩:=hrel
  by_cases hlt:k<m
  .obtain⟨pb,po,ai,ci,rfl,hpb,k1,hB⟩:=HR.out.at (i:=k) (by rw[HM.out];exact hlt)
   have i0:(k:Int)<(m:Int):=by omega
   have hN:=DF L k (by rw[HM.out];exact hlt)
   have hN':(L.take (k+1)).flatten.length=(L.take k).flatten.length+(L.getD k []).length:=by rw[hN,List.length_append]
   have hle:=Nf L (k+1)
   have h6:=HL.out
   have i1:¬(((L.take k).flatten.length:Nat):Int)+(((L.getD k []).length:Nat):Int)<0:=by omega
   have i2:(((L.take k).flatten.length:Nat):Int)+(((L.getD k []).length:Nat):Int)<=1000000:=by omega
   clear hN hle h6 hB
   have HN:=Lib.hid hN';clear hN'
   generalize (L.take k).flatten.length=s at *
   generalize (L.getD k []).length=t at *
   go_wp2_with fail
   exact⟨⟨k+1,j,by omega,rfl,by rw[HN.out];rfl,rfl⟩,by show m-((k:Int)+1).toNat<m-(k:Int).toNat;omega⟩
  .obtain rfl:k=m:=by omega
   clear hlt
   have e0:L.take k=L:=by rw[<- HM.out];exact List.take_length
   rw[e0]
   obtain⟨s,hs⟩:∃s,s=L.flatten.length:=⟨_,rfl⟩
   rw[<- hs]at HL ⊢
   have HS:=Lib.hid (And.intro hs e0);clear hs e0
   have gw:w.grownBy (w.drewN j) none:=jq (ah _ _) j
   go_wp2_with (fail)
   refine (Tz s (w.drewN j) HL.out).mono ?_
   rintro e w1 ⟨v,rfl,hg,ho⟩
   have HG:=Lib.hid (And.intro (aj gw hg) (oK ho gw.size));clear hg ho gw
   go_wp2_with (fail)
   go_loopw [6,27] (fun v i wr=>∃(q:Nat) (u:Value),u=v/\q<=k/\i=.int .i64 q/\w.grownBy wr none/\wr.ownsRow w.heap.size 5 1 u (L.take q).flatten.length ((L.take q).flatten.map dG)) (fun _ i _=>k-(intOf i).toNat)
   case atStart=>exact⟨0,_,rfl,by omega,rfl,HG.out⟩
   case round=>
    obtain⟨q,vr,rfl,hq,rfl,hg,ho⟩:=hrel
    by_cases hlt:q<k
    .obtain⟨pb,po,ai,ci,rfl,hpb,k1,hB⟩:=HR.out.at (i:=q) (by rw[HM.out];exact hlt)
     have i0:(q:Int)<(k:Int):=by omega
     have hN:=DF L q (by rw[HM.out];exact hlt)
     have hle:=Nf L (q+1)
     have h6:=HL.out
     have hB2:=hB.stay hg
     have k2:wr.cell? ⟨pb,po+q,none⟩=some (.slice ai (L.getD q []).length ci):=by
      rw[aZ hg (p:=⟨pb,po+q,none⟩) (Nat.lt_of_lt_of_le hpb HR.out.lim) (by simp)];exact k1
     obtain⟨v2,w2,hr2,ho2,hg2⟩:=ni wr w.heap.size _ B ci _ vr _ ai (L.getD q []) ho rfl hB2 (by have e:=HS.out.1;rw[hN,List.length_append,<- e]at hle;omega) hg.size
     have HN:=Lib.hid (And.intro hN (And.intro ho2 (Tx hg ho hg2)));clear hN hle h6 hB hB2 k1 ho2 hg2
     have hap:=hr2;clear hr2
     obtain⟨t,ht⟩:∃t,t=(L.getD q []).length:=⟨_,rfl⟩
     rw[<- ht]at hap k2
     have HT:=Lib.hid ht;clear ht
     go_wp2_with (at_builtin;refine wpList_append_run rfl (.tmp 31) (.tmp 32) 24 rfl rfl _ _ rfl rfl _ _ hap ?_)
     exact⟨⟨q+1,_,rfl,by omega,rfl,HN.out.2.2,by rw[HN.out.1,List.length_append,List.map_append];exact HN.out.2.1⟩,by show k-((q:Int)+1).toNat<k-(q:Int).toNat;omega⟩
    .obtain rfl:q=k:=by omega
     clear hlt
     have HI:=Lib.hid (And.intro hg ho);clear hg ho
     go_wp2_with (fail)
     go_ret
     obtain⟨hg,ho⟩:=HI.out
     rw[HS.out.2]at ho
     exact⟨_,rfl,hg,ho⟩
set_option maxRecDepth 100000 in
set_option maxHeartbeats 400000 in
theorem BS (m cap B:Nat) (L:List (List Nat)) (a:Option Addr) (w:World) (hm:L.length=m) (hR:jY w B a L) (hm2:m<9223372036854775808) (hlen:L.flatten.length<=1000000):
  Calls Tryz.prog 43 #[.slice a m cap] w fun e w'=>∃v,e=.returned v/\w.grownBy w' none/\w'.ownsRow w.heap.size 5 1 v L.flatten.length (L.flatten.map dG):=by
 have HC:=Lib.hid (K9 m cap B L a w hm hR hm2 hlen);clear hm hR hm2 hlen
 go_enter Tryz.func43,Tryz.ntmps43
 go_wp2_with (fail)
 refine HC.out.mono ?_
 rintro e w' ⟨v,rfl,hr⟩
 have H:=Lib.hid hr;clear hr
 go_wp2
 go_ret
 exact⟨v,rfl,H.out⟩
end
section
open Go.RowKit Ow Wi
theorem uz {w:World} {base n:Nat} {v:Value} {l:List Nat} (h:w.ownsRow base 5 1 v n (l.map dG)) (hb:∀i,l.getD i 0<256):
  ∃a c,v=.slice a n c/\l.length=n/\BytesAt w w.heap.size a c l/\(∀pb po,a=some ⟨pb,po,none⟩->base<=pb/\pb<w.heap.size):=by
 have hn:l.length=n:=by have:=h.1;rw[List.length_map]at this;omega
 by_cases h0:0<n
 .obtain⟨g,c,rfl,hbg,hnc,hB⟩:=Gi h hn h0 hb
  exact⟨_,c,rfl,hn,hB,fun pb po e=>by cases e;exact⟨hbg,(og h).1⟩⟩
 .obtain rfl:n=0:=by omega
  obtain rfl:l=[]:=List.eq_nil_of_length_eq_zero hn
  have h':=h
  rcases h'.2 with⟨rfl,_⟩ |⟨g,c,cur,rfl,hbg,_,_,hcm,_⟩
  .exact⟨none,0,rfl,rfl,⟨Nat.le_refl _,Nat.le_refl _,by decide,by simp,Or.inl rfl⟩,fun pb po e=>by cases e⟩
  .exact⟨_,c,rfl,rfl,⟨Nat.le_refl _,Nat.zero_le _,by unfold maxLen at hcm;omega,by simp,Or.inl rfl⟩,fun pb po e=>by cases e;exact⟨hbg,(og h).1⟩⟩
def E5 (m k:Nat):List Value:=(List.range 8).map fun i=>if i<k then dG (m/2^(8*(7-i))%256) else dG 0
theorem TA (m k:Nat) (hk:k<8):(E5 m k).set k (dG (m/2^(8*(7-k))%256))=E5 m (k+1):=by
 apply List.ext_getElem?
 intro i
 unfold E5
 rw[List.getElem?_set]
 simp only[List.length_map,List.length_range,List.getElem?_map]
 by_cases hi:i<8
 .rw[List.getElem?_range hi]
  by_cases h:k=i
  .subst h;simp[hk]
  .have h2:i<k↔i<k+1:=by omega
   simp[h,h2]
 .have h:¬k=i:=by omega
  rw[if_neg h,List.getElem?_eq_none (by simp;omega)]
  rfl
theorem TB (m:Nat):E5 m 8=(O8 m).map dG:=by
 unfold E5 O8
 rw[List.map_map]
 apply List.map_congr_left
 intro i hi
 rw[if_pos (List.mem_range.1 hi)]
 rfl
set_option maxRecDepth 100000 in
set_option maxHeartbeats 1600000 in
theorem BU (n:Int) (w:World):
  Calls Tryz.prog 47 #[.int .i64 n] w fun e w'=>∃g,e=.returned (.slice (some ⟨g,0,none⟩) 8 8)/\w.grownBy w' none/\w.heap.size<=g/\aF w' g 5 ((gL n).map dG):=by
 have hw:IntKind.u64.wrap n=(ofI n:Nat):=by
  rw[show IntKind.u64.wrap n=n%18446744073709551616 by simp[IntKind.wrap,IntKind.signed,IntKind.bits]]
  unfold ofI
  omega
 obtain⟨m,hm⟩:∃m,m=ofI n:=⟨_,rfl⟩
 obtain⟨N,hN⟩:∃N,N=w.heap.size:=⟨_,rfl⟩
 have hlt:=Zy n
 rw[<- hm]at hw hlt
 obtain⟨w1,hmk,hg1,hs1,hb1⟩:=AB 8 8 w (Nat.le_refl _) (by omega)
 have hmk':(Instr.makeSlice 24 (.int .i64 8) (.int .i64 8)).run Tryz.prog w=.ok (.slice (some ⟨w.heap.size,0,none⟩) 8 8) w1:=hmk
 rw[<- hN]at hmk' hb1
 have HS:=Lib.hid (And.intro hg1 hb1);clear hg1 hb1 hmk hs1
 have HN:=Lib.hid (And.intro (Nat.le_of_eq hN.symm) hm);clear hN hm
 go_enter Tryz.func47,Tryz.ntmps47
 go_wp2_with (fail)
 go_loopw [11] (fun i wr=>∃k:Nat,k<=8/\i=.int .i64 k/\w.grownBy wr none/\aF wr N 5 (E5 m k)) (fun i _=>8-(intOf i).toNat)
 case atStart=>exact⟨0,by decide,rfl,HS.out⟩
 case round=>
  obtain⟨k,hk,rfl,hg,hb⟩:=hrel
  by_cases hlt:k<8
  .have i0:(k:Int)<8:=by omega
   have hlen:(E5 m k).length=8:=by unfold E5;simp
   obtain⟨c,hc⟩:∃c,(E5 m k)[k]?=some c:=⟨_,List.getElem?_eq_getElem (by omega)⟩
   have k0:=hb.cell hc
   have f0:=hb.free k
   have HB:=Lib.hid (And.intro hg hb);clear hg hb hc hlen
   go_wp2_with (fail)
   obtain⟨hg,hb⟩:=HB.out
   have e1:((m:Int)/2^(8*(7-k))%256)=((m/2^(8*(7-k))%256:Nat):Int):=by simp
   refine⟨⟨k+1,hlt,rfl,aJ hg HN.out.1 _,?_⟩,by show 8-((k:Int)+1).toNat<8-(k:Int).toNat;omega⟩
   rw[e1,<- TA m k hlt]
   exact hb.set k _
  .obtain rfl:k=8:=by omega
   have HB:=Lib.hid (And.intro hg hb);clear hg hb
   go_wp2
   go_ret
   exact⟨N,rfl,HB.out.1,HN.out.1,by have h:=HB.out.2;rw[TB,HN.out.2]at h;exact h⟩
theorem acY {w:World} {a1 a2:Option Addr} {n1 c1 n2 c2:Nat} {l1 l2:List Nat} (hl1:l1.length=n1) (hl2:l2.length=n2) (h1:BytesAt w w.heap.size a1 c1 l1) (h2:BytesAt w w.heap.size a2 c2 l2):
  jY (w.alloc (.cells #[.slice a1 n1 c1,.slice a2 n2 c2] 24)) (w.heap.size+1) (some ⟨w.heap.size,0,none⟩) [l1,l2]:=by
 have hb:=aF.new w [.slice a1 n1 c1,.slice a2 n2 c2] 24
 have hg:=au (ah w none) (.cells #[.slice a1 n1 c1,.slice a2 n2 c2] 24)
 subst hl1 hl2
 refine⟨by simp,Or.inr ⟨w.heap.size,0,rfl,by omega,fun i hi=>?_⟩⟩
 obtain rfl|rfl:i=0\/i=1:=by simp at hi;omega
 .exact⟨a1,c1,by rw[Nat.zero_add];exact hb.cell (i:=0) rfl,(h1.stay hg).up (by omega) (by simp)⟩
 .exact⟨a2,c2,by rw[Nat.zero_add];exact hb.cell (i:=1) rfl,(h2.stay hg).up (by omega) (by simp)⟩
theorem qV {n:Int} {w:World} {g:Nat} (h:aF w g 5 ((gL n).map dG)):BytesAt w w.heap.size (some ⟨g,0,none⟩) 8 (gL n):=
 lH (tl:=[]) (by rw[List.append_nil];exact h) (gK n) (Nat.le_refl _) (by decide) (fun i=>nL n i) h.lt (Nat.le_refl _)
theorem La (n cap B:Nat) (a:Option Addr) (l:List Nat) (w:World) (hl:l.length=n) (hn:n<=900000) (hP:BytesAt w B a cap l):
  Calls Tryz.prog 44 #[.slice a n cap] w fun e w'=>∃v,e=.returned v/\w.grownBy w' none/\w'.ownsRow w.heap.size 5 1 v (8+n) ((gL (n:Int)++l).map dG):=by
 have HP:=Lib.hid (And.intro hl (And.intro hn hP));clear hl hn hP
 have HN:=Lib.hid (BU (n:Int) w)
 go_enter Tryz.func44,Tryz.ntmps44
 go_wp2_with (fail)
 refine HN.out.mono ?_
 rintro e w1 ⟨g,rfl,hg,_,hb⟩
 have H1:=Lib.hid (And.intro hg hb);clear hg hb
 go_wp2_with (fail)
 refine (BS 2 2 _ [gL (n:Int),l] _ _ rfl (acY (gK _) HP.out.1 (qV H1.out.2) (HP.out.2.2.stay H1.out.1).full) (by decide) (by have h1:=HP.out.1;have h2:=HP.out.2.1;simp only[List.flatten_cons,List.flatten_nil,List.append_nil,List.length_append,gK];omega)).mono ?_
 rintro e w2 ⟨v,rfl,hg,ho⟩
 simp only[List.flatten_cons,List.flatten_nil,List.append_nil]at ho
 have gz:=au H1.out.1 (.cells #[.slice (some ⟨g,0,none⟩) 8 8,.slice a n cap] 24)
 have H2:=Lib.hid (And.intro (aj gz hg) (oK ho gz.size));clear gz hg ho
 go_wp2
 go_ret
 exact⟨v,rfl,H2.out.1,by have h:=H2.out.2;rw[List.length_append,gK,HP.out.1]at h;exact h⟩
end
section
open Go.RowKit Ow
theorem DI:Elt 24 81 24 (.slice none 0 0):=by
 refine⟨Tryz.underlying81,?_⟩
 have h:(Tryz.prog.info? 24).map (fun i=>(i.zero,i.size,i.bytes))=some (some (.slice none 0 0),1,24):=by kernel_rfl
 cases hi:Tryz.prog.info? 24 with
 | none=>rw[hi]at h;cases h
 | some i=>
  rw[hi]at h
  simp only[Option.map_some,Option.some.injEq,Prod.mk.injEq]at h
  exact⟨i,rfl,h.1,h.2.1,h.2.2,rfl⟩
theorem _root_.Go.World.ownsRow.stay {w w':World} {base e n:Nat} {v:Value} {xs:List Value} (h:w.ownsRow base e 1 v n xs) (hg:w.grownBy w' none):w'.ownsRow base e 1 v n xs:=by
 refine⟨h.1,?_⟩
 rcases h.2 with h0 |⟨g,c,cur,e1,h1,h2,h3⟩
 .exact Or.inl h0
 .exact Or.inr ⟨g,c,cur,e1,h1,by rw[hg.block g (Array.getElem?_eq_some_iff.1 h2).1 (by simp)];exact h2,h3⟩
def Parts (w:World) (base:Nat) (v:Value) (L:List (List Nat)):Prop:=
 ∃xs,w.ownsRow base 24 1 v L.length xs/\∀i,i<L.length->∃a c,xs[i]?=some (.slice a (L.getD i []).length c)/\BytesAt w w.heap.size a c (L.getD i [])/\∀pb po,a=some ⟨pb,po,none⟩->v.ownBlock≠some pb/\pb<w.heap.size
theorem Parts.nil (w:World) (base:Nat):Parts w base (.slice none 0 0) []:=⟨[],World.ownsRow_nil w _ _ 1,fun i hi=>by simp at hi⟩
theorem Parts.stay {w w':World} {base:Nat} {v:Value} {L:List (List Nat)} (h:Parts w base v L) (hg:w.grownBy w' none):Parts w' base v L:=by
 obtain⟨xs,ho,hc⟩:=h
 refine⟨xs,ho.stay hg,fun i hi=>?_⟩
 obtain⟨a,c,h1,h2,h3⟩:=hc i hi
 exact⟨a,c,h1,(h2.stay hg).full,fun pb po e=>⟨(h3 pb po e).1,Nat.lt_of_lt_of_le (h3 pb po e).2 hg.size⟩⟩
theorem Parts.rows {w:World} {base:Nat} {v:Value} {L:List (List Nat)} (h:Parts w base v L):∃a cap,v=.slice a L.length cap/\jY w w.heap.size a L:=by
 obtain⟨xs,ho,hc⟩:=h
 rcases Dl ho with⟨rfl,h0⟩ |⟨g,c,rfl⟩
 .refine⟨Option.none,0,by rw[h0],Nat.le_refl _,Or.inl h0⟩
 .refine⟨_,c,rfl,Nat.le_refl _,Or.inr ⟨g,0,rfl,(og ho).1,fun i hi=>?_⟩⟩
  obtain⟨a,c,h1,h2,_⟩:=hc i hi
  exact⟨a,c,by rw[Nat.zero_add];exact nO ho h1,h2⟩
end
section
open Go.RowKit Ow
namespace Fg
def It.by (l:List Nat):It:=⟨fun v w=>∃a cap B,v=.slice a l.length cap/\BytesAt w B a cap l,fun _ _ _ ⟨a,cap,B,e,h⟩ hg=>⟨a,cap,B,e,h.stay hg⟩⟩
def It.rws (L:List (List Nat)):It:=⟨fun v w=>∃a cap B,v=.slice a L.length cap/\jY w B a L,fun _ _ _ ⟨a,cap,B,e,h⟩ hg=>⟨a,cap,B,e,h.stay hg⟩⟩
section
variable {P:Program} {ops:Array Oper} {Q:Exit->Act->World->Prop} {L:List It} {W0:World} {a0:Act} {ps:List Nat}
abbrev AtT (k:Nat) (ps:List Nat) (L:List It) (W0:World) (a0:Act) (ops:Array Oper) (o:Oper) (a:Act) (w:World):Prop:=Jv k ps L (fun w=>W0.grownBy w none) a0 ops o a w
abbrev StT (k:Nat) (ps:List Nat) (P:Program) (Q:Exit->Act->World->Prop) (L:List It) (W0:World) (a0:Act) (ops:Array Oper) (i:Nat) (o:Oper):Prop:=(∃d,o.dst=some d)/\wo k ps P Q L (fun w=>W0.grownBy w none) a0 ops i o
theorem vT {k i:Nat} {o:Oper} {d:Nat} (hd:o.dst=some d) (hps:(ps.all fun s=>s !=d)=true)
  (h:∀a w,AtT k ps L W0 a0 ops o a w->∃v w',iK ops o a/\(execOp a.eval o).run P w=.ok (.value v) w'/\w.grownBy w' none/\its L d v w'):StT k ps P Q L W0 a0 ops i o:=
 ⟨⟨d,hd⟩,xU (fun _ _ h k=>aj h k) hd hps fun a w hF=>by
  obtain⟨v,w',hw,hr,hg,hG⟩:=h a w hF
  exact⟨hw,v,w',hr,hg,hG⟩⟩
theorem cT {k i:Nat} {o:Oper} {d:Nat} (hd:o.dst=some d) (hps:(ps.all fun s=>s !=d)=true)
  (h:∀a w,AtT k ps L W0 a0 ops o a w->∃f args,iK ops o a/\(execOp a.eval o).run P w=.ok (.enter f args) w/\Calls P f args w fun e w'=>∃v,e=.returned v/\w.grownBy w' none/\its L d v w'):StT k ps P Q L W0 a0 ops i o:=
 ⟨⟨d,hd⟩,Qk (fun _ _ h k=>aj h k) hd hps fun a w hF=>by
  obtain⟨f,args,hw,hr,hc⟩:=h a w hF
  exact⟨hw,f,args,hr,hc⟩⟩
theorem tN {id:Nat} {w:World} (ps:List Nat) (L:List It) (W0:World) (k:Nat) (hB0:W0.grownBy w none) (hm:P.follows .mixedOrders=true) (ht:vX ops=true) (ho:once (ops.extract 0 k) a0.tmps.size=true) (htl:xR ops k=true) (hk:k<=ops.size)
  (hu:(ps.all fun s=>match a0.tmps.getD s undef with | .pointer _=>false|_=>true)=true)
  (steps:mO k ps P Q L (fun w=>W0.grownBy w none) a0 ops 0 (ops.toList.take k))
  (fin:∀a w',W0.grownBy w' none->a.tmps.size=a0.tmps.size->a.defers=a0.defers->(∀d,fF ops k d=false->a.tmps.getD d undef=a0.tmps.getD d undef)->
   (∀d,fF ops k d=true->its L d (a.tmps.getD d undef) w')->bO ps a w'->wpList P ops Q (ops.toList.drop k) a w'):(Code.region id ops true).wp P Q a0 w:=
 jI L (fun w=>W0.grownBy w none) k (aX hB0) hm ht ho htl hk (nP hu) steps fin
end
end Fg
end
section
open Go.RowKit Ow Wi
def E8 (w:World) (l:List Nat) (e:Ending) (w':World):Prop:=∃a c,e=.returned (.slice a l.length c)/\w.grownBy w' none/\BytesAt w' w'.heap.size a c l
theorem xI {w w':World} {base n:Nat} {v:Value} {l:List Nat} (hg:w.grownBy w' none) (h:w'.ownsRow base 5 1 v n (l.map dG)) (hn:l.length=n) (hb:∀i,l.getD i 0<256):E8 w l (.returned v) w':=by
 subst hn
 obtain⟨a,c,rfl,_,hB,_⟩:=uz h hb
 exact⟨a,c,rfl,hg,hB⟩
theorem kY {p q:List Nat} (hp:∀i,p.getD i 0<256) (hq:∀i,q.getD i 0<256) (i:Nat):(p++q).getD i 0<256:=by
 rw[List.getD_eq_getElem?_getD,List.getElem?_append]
 split
 .rw[<- List.getD_eq_getElem?_getD];exact hp i
 .rw[<- List.getD_eq_getElem?_getD];exact hq _
theorem DJ {L:List (List Nat)} (h:∀l∈L,∀i,l.getD i 0<256):∀i,L.flatten.getD i 0<256:=by
 induction L with
 | nil=>intro i;simp
 | cons l r ih=>
  intro i
  rw[List.flatten_cons]
  exact kY (h l (by simp)) (ih fun l hl=>h l (by simp[hl])) i
theorem Lb (n:Int) (w:World):Calls Tryz.prog 47 #[.int .i64 n] w (E8 w (gL n)):=
 (BU n w).mono fun e w' ⟨g,he,hg,_,hb⟩=>⟨_,8,by rw[gK];exact he,hg,qV hb⟩
theorem DK (n:Nat) (l:List Nat) (a:Option Addr) (cap B:Nat) (w:World) (hn:l.length=n) (h:BytesAt w B a cap l) (hl:l.length<=900000):Calls Tryz.prog 44 #[.slice a n cap] w (E8 w (gL (l.length:Int)++l)):=by
 subst hn
 exact (La l.length cap B a l w rfl hl h).mono fun e w' ⟨v,he,hg,ho⟩=>he▸xI hg ho (by rw[List.length_append,gK]) (kY (nL _) h.byte)
theorem TD (n:Nat) (L:List (List Nat)) (a:Option Addr) (cap B:Nat) (w:World) (hn:L.length=n) (h:jY w B a L) (hm:L.length<9223372036854775808) (hl:L.flatten.length<=1000000) (hb:∀l∈L,∀i,l.getD i 0<256):Calls Tryz.prog 43 #[.slice a n cap] w (E8 w L.flatten):=by
 subst hn
 exact (BS L.length cap B L a w rfl h hm hl).mono fun e w' ⟨v,he,hg,ho⟩=>he▸xI hg ho rfl (DJ hb)
def BX (p:Option Addr×Nat×List Nat):Value:=.slice p.1 p.2.2.length p.2.1
theorem TF {w:World} (T:TypeId) (P:List (Option Addr×Nat×List Nat)) (h:∀p∈P,∃B,BytesAt w B p.1 p.2.1 p.2.2):
  jY (w.alloc (.cells (P.map BX).toArray T)) (w.heap.size+1) (some ⟨w.heap.size,0,none⟩) (P.map (·.2.2)):=by
 have hb:=aF.new w (P.map BX) T
 have hg:=au (ah w none) (.cells (P.map BX).toArray T)
 refine⟨by simp,Or.inr ⟨w.heap.size,0,rfl,by omega,fun i hi=>?_⟩⟩
 rw[List.length_map]at hi
 have e:P[i]?=some P[i]:=List.getElem?_eq_getElem hi
 obtain⟨B,hB⟩:=h P[i] (List.getElem_mem hi)
 have e2:(P.map (·.2.2)).getD i []=P[i].2.2:=by rw[List.getD_eq_getElem?_getD,List.getElem?_map,e];rfl
 refine⟨P[i].1,P[i].2.1,?_,?_⟩
 .rw[Nat.zero_add,e2]
  exact hb.cell (by rw[List.getElem?_map,e];rfl)
 .rw[e2]
  exact (hB.stay hg).up (Nat.le_trans hB.lim (by omega)) (by simp)
theorem DL {w:World} (l:List Nat) (h:∀i,l.getD i 0<256) (hl:l.length<1000000):BytesAt (w.alloc (.cells (l.map dG).toArray 5)) (w.heap.size+1) (some ⟨w.heap.size,0,none⟩) l.length l:=
 lH (tl:=[]) (by rw[List.append_nil];exact aF.new w (l.map dG) _) rfl (Nat.le_refl _) (by omega) h (by omega) (by simp)
end
section
open Go.RowKit Ow Wi
theorem yE {w':World} {base:Nat} {v':Value} {L:List (List Nat)} {P:List (Option Addr×Nat×List Nat)} {xs:List Value} (hxl:xs.length=L.length)
  (ho:w'.ownsRow base 24 1 v' (L.length+P.length) (xs++P.map BX))
  (hold:∀i,i<L.length->∃a c,xs[i]?=some (.slice a (L.getD i []).length c)/\BytesAt w' w'.heap.size a c (L.getD i [])/\∀pb po,a=some ⟨pb,po,none⟩->v'.ownBlock≠some pb/\pb<w'.heap.size)
  (hnew:∀p∈P,BytesAt w' w'.heap.size p.1 p.2.1 p.2.2/\∀pb po,p.1=some ⟨pb,po,none⟩->v'.ownBlock≠some pb/\pb<w'.heap.size):Parts w' base v' (L++P.map (·.2.2)):=by
 refine⟨xs++P.map BX,by rw[List.length_append,List.length_map];exact ho,fun i hi=>?_⟩
 rw[List.length_append,List.length_map]at hi
 by_cases h:i<L.length
 .obtain⟨a1,c1,h1,h2,h3⟩:=hold i h
  have e:(L++P.map (·.2.2)).getD i []=L.getD i []:=by rw[List.getD_eq_getElem?_getD,List.getD_eq_getElem?_getD,List.getElem?_append_left h]
  rw[e]
  exact⟨a1,c1,by rw[List.getElem?_append_left (by omega)];exact h1,h2,h3⟩
 .obtain⟨j,rfl⟩:∃j,i=L.length+j:=⟨i-L.length,by omega⟩
  have hj:j<P.length:=by omega
  have e0:P[j]?=some P[j]:=List.getElem?_eq_getElem hj
  have e:(L++P.map (·.2.2)).getD (L.length+j) []=P[j].2.2:=by
   rw[List.getD_eq_getElem?_getD,List.getElem?_append_right (by omega),show L.length+j-L.length=j by omega,List.getElem?_map,e0];rfl
  rw[e]
  obtain⟨h2,h3⟩:=hnew P[j] (List.getElem_mem hj)
  exact⟨_,_,by rw[List.getElem?_append_right (by omega),show L.length+j-xs.length=j by omega,List.getElem?_map,e0];rfl,h2,h3⟩
theorem IZ (w:World) (base b:Nat) (T:TypeId) (v:Value) (L:List (List Nat)) (P:List (Option Addr×Nat×List Nat)) (h:Parts w base v L) (hB:aF w b T (P.map BX)) (hvb:v.ownBlock≠some b) (hp:0<P.length)
  (hP:∀p∈P,BytesAt w w.heap.size p.1 p.2.1 p.2.2/\∀pb po,p.1=some ⟨pb,po,none⟩->v.ownBlock≠some pb/\pb<w.heap.size) (hb:base<=w.heap.size) (hk:L.length+P.length<=1000000):
  ∃v' w',(Builtin.append_ #[81,81] 81 #[v,.slice (some ⟨b,0,none⟩) P.length P.length]).run Tryz.prog w=.ok v' w'/\Parts w' base v' (L++P.map (·.2.2))/\w.grownBy w' v.ownBlock/\(∀g,v'.ownBlock=some g->v.ownBlock=some g\/w.heap.size<=g):=by
 obtain⟨xs,ho,hc⟩:=h
 have hnews:∀j u,(P.map BX)[j]?=some u->w.cell? ((⟨b,0,none⟩:Addr).add j)=some u:=fun j u hu=>by
  have hadd:(⟨b,0,none⟩:Addr).add j=⟨b,j,none⟩:=by unfold Addr.add;split<;>simp_all
  rw[hadd];exact hB.cell hu
 have h1:∀u∈P.map BX,u.oneCell'=true:=fun u hu=>by
  obtain⟨p,_,rfl⟩:=List.mem_map.1 hu;rfl
 have hxl:xs.length=L.length:=by have:=ho.1;omega
 rcases Dl ho with⟨rfl,h0⟩ |⟨g,cap,rfl⟩
 .obtain rfl:L=[]:=List.eq_nil_of_length_eq_zero h0
  obtain⟨g,c',w',hr,hno,hgr⟩:=AO DI w ⟨b,0,none⟩ P.length P.length (P.map BX) hp (List.length_map _) hnews h1 (by omega) (by omega)
  have hgn:=(og hno).2.1
  refine⟨_,w',hr,?_,hgr,fun g' e=>by simp only[Value.ownBlock,Option.some.injEq]at e;omega⟩
  refine yE (xs:=[]) rfl (by rw[List.length_nil,Nat.zero_add,List.nil_append];exact oK hno hb) (fun i hi=>by simp at hi) (fun p hp=>⟨((hP p hp).1.stay hgr).full,fun pb po e=>?_⟩)
  have h5:=((hP p hp).2 pb po e).2
  have h6:=hgr.size
  exact⟨fun e2=>by simp only[Value.ownBlock,Option.some.injEq]at e2;omega,by omega⟩
 .have hgl:=(og ho).1
  rcases wO DI w base g L.length cap xs ho ⟨b,0,none⟩ P.length P.length (P.map BX) (List.length_map _) hnews h1 (by omega) (by omega) with⟨_,w',hr,hno,hgr⟩ |⟨_,c',w',hr,hno,hgr⟩
  .refine⟨_,w',hr,?_,hgr,fun g' e=>Or.inl e⟩
   refine yE hxl hno (fun i hi=>?_) (fun p hp=>⟨((hP p hp).1.apart hgr (Or.inr fun pb po e e2=>?_)).full,fun pb po e=>⟨((hP p hp).2 pb po e).1,by have h5:=((hP p hp).2 pb po e).2;have h6:=hgr.size;omega⟩⟩)
   .obtain⟨a1,c1,e1,e2,e3⟩:=hc i hi
    exact⟨a1,c1,e1,(e2.apart hgr (Or.inr fun pb po e e4=>(e3 pb po e).1 (by rw[e4];rfl))).full,fun pb po e=>⟨(e3 pb po e).1,by have h5:=(e3 pb po e).2;have h6:=hgr.size;omega⟩⟩
   .exact ((hP p hp).2 pb po e).1 (by rw[e2];rfl)
  .refine⟨_,w',hr,?_,fZ hgr _,fun g' e=>by simp only[Value.ownBlock,Option.some.injEq]at e;omega⟩
   refine yE hxl (oK hno hb) (fun i hi=>?_) (fun p hp=>⟨((hP p hp).1.stay hgr).full,fun pb po e=>?_⟩)
   .obtain⟨a1,c1,e1,e2,e3⟩:=hc i hi
    refine⟨a1,c1,e1,(e2.stay hgr).full,fun pb po e=>?_⟩
    have h5:=(e3 pb po e).2
    have h6:=hgr.size
    exact⟨fun e2=>by simp only[Value.ownBlock,Option.some.injEq]at e2;omega,by omega⟩
   .have h5:=((hP p hp).2 pb po e).2
    have h6:=hgr.size
    exact⟨fun e2=>by simp only[Value.ownBlock,Option.some.injEq]at e2;omega,by omega⟩
namespace Fg
def It.two (n0:Nat) (x y:List Nat):It:=⟨fun v w=>∃b g1 g2,v=.slice (some ⟨b,0,none⟩) 2 2/\(n0<=b/\n0<=g1/\n0<=g2)/\aF w b 24 [.slice (some ⟨g1,0,none⟩) 8 8,.slice (some ⟨g2,0,none⟩) 8 8]/\aF w g1 5 (x.map dG)/\aF w g2 5 (y.map dG),
 fun _ _ _ ⟨b,g1,g2,e,h,h1,h2,h3⟩ hg=>⟨b,g1,g2,e,h,h1.grown hg (by simp),h2.grown hg (by simp),h3.grown hg (by simp)⟩⟩
end Fg
end
section
open Go.RowKit Ow
def bQ (s:ByteArray):List Nat:=s.data.toList.map UInt8.toNat
theorem gW (s:ByteArray):(bQ s).length=s.size:=by unfold bQ;rw[List.length_map];rfl
theorem yF (s:ByteArray) (i:Nat):(bQ s).getD i 0<256:=by
 unfold bQ
 rw[List.getD_eq_getElem?_getD,List.getElem?_map]
 cases s.data.toList[i]? with
 | none=>decide
 | some b=>exact b.toNat_lt
theorem TG {s t:ByteArray} (h:bQ s=bQ t):s=t:=by
 unfold bQ at h
 have h2:s.data.toList=t.data.toList:=List.map_inj_right (fun a b h=>UInt8.toNat_inj.1 h) |>.1 h
 cases s;cases t
 simpa using h2
theorem str_eq (s t:ByteArray):(s.toList==t.toList)=decide (bQ s=bQ t):=by
 rw[ByteArray.toList_eq,ByteArray.toList_eq,Bool.eq_iff_iff]
 simp only[beq_iff_eq,decide_eq_true_eq]
 constructor
 .intro h;unfold bQ;rw[h]
 .intro h;rw[TG h]
theorem CQ (w:World) (e:TypeId) (s:ByteArray):w.grownBy (Lib.bytesWorld w e s) none:=by
 refine⟨rfl,rfl,rfl,by rw[Lib.bytesWorld_size];omega,fun k hk _=>Lib.bytesWorld_at_old w e s k hk⟩
theorem Ng (w:World) (n:Nat) (e:TypeId) (h:n<9223372036854775808):n<=grownCap w n 0 e/\grownCap w n 0 e<9223372036854775808:=by
 have:∀t:Nat,n<=(Question.appendCap n 0 e).cut t/\(Question.appendCap n 0 e).cut t<9223372036854775808:=fun t=>by
  show n<=n+t%(2^63-n)/\n+t%(2^63-n)<9223372036854775808
  have:=Nat.mod_lt t (show 0<2^63-n by omega)
  omega
 exact this _
theorem Pg (s:ByteArray) (w:World) (hs:s.size<9223372036854775808):
  ∃c w',(convert 9 24 (.string s)).run Tryz.prog w=.ok (.slice (some ⟨w.heap.size,0,none⟩) s.size c) w'/\w.grownBy w' none/\BytesAt w' w'.heap.size (some ⟨w.heap.size,0,none⟩) c (bQ s):=by
 have h:=Lib.run_convert_string_bytes (P:=Tryz.prog) w 9 24 5 s Tryz.underlying9 Tryz.underlying24 Tryz.underlying5
 refine⟨_,_,h,CQ w _ s,Nat.le_refl _,by rw[gW];exact (Ng w s.size _ hs).1,(Ng w s.size _ hs).2,yF s,Or.inr ⟨w.heap.size,0,rfl,by rw[Lib.bytesWorld_size];omega,fun i hi=>?_⟩⟩
 rw[gW]at hi
 rw[Nat.zero_add,Lib.bytesWorld_cell w 5 s i hi]
 unfold dG bQ
 have hi2:i<s.data.toList.length:=hi
 simp only[List.getD_eq_getElem?_getD,List.getElem?_map,List.getElem?_eq_getElem hi2,Option.map_some,Option.getD_some]
end
section
open Go.Shelf
def BZ:Go.Shelf.Ren:=⟨fun|16=>144|n=>n,fun|3=>3|4=>4|35=>194|38=>136|n=>n,fun|n=>n⟩
theorem Lc:Go.Proofs.SlLaysO.n16 Tryz.prog BZ:={
 mixed:=by kernel_rfl
 f16:=Tryz.func144.trans (congrArg some (by kernel_rfl))
 t3:=Tryz.underlying3
 a3:=Tryz.isAgg3
 z3:=Tryz.sizeOf3
 v3:=Tryz.zeroValue3
 t4:=Tryz.underlying4
 a4:=Tryz.isAgg4
 z4:=Tryz.sizeOf4
 v4:=Tryz.zeroValue4
 t35:=Tryz.underlying194
 a35:=Tryz.isAgg194
 z35:=Tryz.sizeOf194
 v35:=Tryz.zeroValue194
 t38:=Tryz.underlying136
 a38:=Tryz.isAgg136
 z38:=Tryz.sizeOf136
 v38:=Tryz.zeroValue136}
end
section
open Go.RowKit
namespace Ve
abbrev iV (n:Int):Value:=.int .i64 n
structure eT (w:World) (B:Nat) (a:Option Addr) (l:List D):Prop where
 lim:B<=w.heap.size
 cells:l.length=0\/∃pb po,a=some ⟨pb,po,none⟩/\pb<B/\∀i,i<l.length->w.cell? ⟨pb,po+i*2,none⟩=some (iV (l.getD i z0).1)/\w.cell? ⟨pb,po+i*2+1,none⟩=some (iV (l.getD i z0).2)
theorem eT.kept {w w':World} {B:Nat} {a:Option Addr} {l:List D} (h:eT w B a l) {row:Option Nat} (hg:w.grownBy w' row) (hr:∀r,row=some r->B<=r):eT w' B a l:=by
 refine⟨Nat.le_trans h.lim hg.size,?_⟩
 rcases h.cells with h0 |⟨pb,po,ha,hlt,hc⟩
 .exact Or.inl h0
 .have e:∀o,w'.cell? ⟨pb,o,none⟩=w.cell? ⟨pb,o,none⟩:=fun o=>aZ hg (p:=⟨pb,o,none⟩) (Nat.lt_of_lt_of_le hlt h.lim) (fun e=>by have:=hr _ e.symm;simp at this;omega)
  exact Or.inr ⟨pb,po,ha,hlt,fun i hi=>by rw[e,e];exact hc i hi⟩
theorem eT.stay {w w':World} {B:Nat} {a:Option Addr} {l:List D} (h:eT w B a l) (hg:w.grownBy w' none):eT w' B a l:=h.kept hg (fun r e=>by cases e)
theorem eT.up' {w:World} {B B':Nat} {a:Option Addr} {l:List D} (h:eT w B a l) (hB:B<=B') (hl:B'<=w.heap.size):eT w B' a l:=by
 refine⟨hl,?_⟩
 rcases h.cells with h0 |⟨pb,po,ha,hlt,hc⟩
 .exact Or.inl h0
 .exact Or.inr ⟨pb,po,ha,by omega,hc⟩
end Ve
end
section
open Go.RowKit Go.Shelf Go.Sort Ve
namespace Ve
set_option maxHeartbeats 400000 in
theorem I4 (n cap ba bx pb po i:Nat) (c x:Int) (w:World) (hi:i<n) (ha:w.cell? ⟨ba,0,none⟩=some (.slice (some ⟨pb,po,none⟩) n cap)) (hx:w.cell? ⟨bx,0,none⟩=some (iV c)) (hc:w.cell? ⟨pb,po+i*2,none⟩=some (iV x)):
  Calls Tryz.prog 145 (#[.int .i64 i]++#[.pointer (some ⟨ba,0,none⟩),.pointer (some ⟨bx,0,none⟩)]) w fun e w'=>e=.returned (.bool (decide (c<=x)))/\∃q,w'=w.drewN q:=by
 have hiz:(i:Int)<(n:Int):=by omega
 go_enter Tryz.func145,Tryz.ntmps145
 go_wp2
 go_quiet (fail)
 go_wp2
 go_ret
 exact⟨rfl,_,rfl⟩
theorem zQ (w:World) (q:Nat) (os:Array Obj):w.grownBy (grow (w.drewN q) os) none:=
 ⟨rfl,rfl,rfl,by simp[grow],fun k hk _=>by
  show ((w.drewN q).heap++os)[k]?=_
  rw[Array.getElem?_append_left (by show k<w.heap.size;omega)]
  rfl⟩
set_option maxHeartbeats 400000 in
theorem Ph (B n cap:Nat) (a:Option Addr) (l:List D) (c:Int) (w:World) (hn:l.length=n) (h:eT w B a l) (hr:Rt 0 l):
  Calls Tryz.prog 121 #[.slice a n cap,.int .i64 c] w fun e w'=>e=.returned (.int .i64 (pl l c:Nat))/\w.grownBy w' none:=by
 have hl8:=hr.len (by decide)
 obtain⟨W0,hW0⟩:∃W0,W0=(w.alloc (.cells #[.slice a n cap] 110)).alloc (.cells #[.int .i64 c] 3):=⟨_,rfl⟩
 have hg0:w.grownBy W0 none:=by rw[hW0];exact au (au (ah _ _) _) _
 have ca:W0.cell? ⟨w.heap.size,0,none⟩=some (.slice a n cap):=by rw[hW0];exact cell_alloc_sl _ (cell_new_sl w _ _)
 have cx:W0.cell? ⟨w.heap.size+1,0,none⟩=some (.int .i64 c):=by rw[hW0];have:=cell_new_sl (w.alloc (.cells #[.slice a n cap] 110)) (.int .i64 c) 3;rwa [World.size_alloc]at this
 have hS:=Any.sort_Search Lc 145 #[.pointer (some ⟨w.heap.size,0,none⟩),.pointer (some ⟨w.heap.size+1,0,none⟩)] n (fun i=>decide (c<=(l.getD i z0).1)) W0
  (enters_of Tryz.func145 (by kernel_rfl) rfl) (by omega)
  (fun m os i hi=>by
   have hg:=aj hg0 (zQ W0 m os)
   obtain⟨pb,po,rfl,_,hcs⟩:=(h.stay hg).cells.resolve_left (by omega)
   have k1:=(hcs i (by omega)).1
   refine (I4 n cap w.heap.size (w.heap.size+1) pb po i c _ _ hi (by rw[aZ (zQ W0 m os) (aF.lt (w:=W0) (T:=110) (L:=[.slice (some ⟨pb,po,none⟩) n cap]) (by rw[hW0];exact (aF.new _ _ _).alloc _)) (by simp)];exact ca)
    (by rw[aZ (zQ W0 m os) (by rw[hW0];simp) (by simp)];exact cx) k1).mono ?_
   rintro e w' ⟨rfl,q,rfl⟩
   exact⟨rfl,q,#[],by rw[grow_empty]⟩)
  (fun x y hxy hy hx=>by
   rcases Nat.eq_or_lt_of_le hxy with rfl|hlt
   .exact hx
   .have:=hr.XE x y hlt (by omega)
    simp only[decide_eq_true_eq]at hx ⊢
    omega)
 have hp:(List.range n).countP (fun i=>!decide (c<=(l.getD i z0).1))=pl l c:=by rw[<- hn];rfl
 rw[hp]at hS
 change Calls Tryz.prog 144 _ _ _ at hS
 have HG:=Lib.hid hg0
 clear ca cx hp h hr hn hg0
 generalize pl l c=r at hS ⊢
 go_enter Tryz.func121,Tryz.ntmps121
 go_wp2_with (go_at_call 144;rw[<- hW0];refine hS.mono ?_;rintro e w' ⟨rfl,q,os,rfl⟩)
 go_ret
 exact⟨rfl,by rw[<- hW0];exact aj HG.out (zQ W0 q os)⟩
set_option maxHeartbeats 400000 in
theorem TH (B n cap:Nat) (a:Option Addr) (l:List D) (c:Int) (w:World) (hn:l.length=n) (h:eT w B a l) (hr:Rt 0 l):
  Calls Tryz.prog 94 #[.slice a n cap,.int .i64 c] w fun e w'=>e=.returned (.int .i64 (up l c))/\w.grownBy w' none:=by
 obtain⟨p1,p2,p3⟩:=acQ hr c
 have hu:=acS (pl l c) hr p2 (fun hk=>p3 _ (Nat.le_refl _) hk)
 have hP:=Ph B n cap a l c w hn h hr
 generalize pl l c=k at p1 p2 p3 hu hP
 have H:=Lib.hid h;clear h
 have HN:=Lib.hid hn
 rw[hn]at p1
 clear p2 p3
 by_cases hk:k=n
 .subst hk
  rw[if_neg (by omega)]at hu
  have HU:=Lib.hid hu;clear hu hn
  go_enter Tryz.func94,Tryz.ntmps94
  go_wp2_with fail
  refine hP.mono ?_
  rintro e w' ⟨rfl,hg⟩
  have HG:=Lib.hid hg;clear hg hP
  go_wp2
  go_ret
  exact⟨by rw[HU.out];rfl,HG.out⟩
 .have hlt:k<n:=by omega
  have hk2:(k:Int)<(n:Int):=by omega
  have hk3:¬(k:Int)=(n:Int):=by omega
  obtain⟨x,y,hxy⟩:∃x y,l.getD k z0=(x,y):=⟨_,_,rfl⟩
  rw[hn,hxy]at hu
  simp only at hu
  have HX:=Lib.hid hxy;clear hxy hn
  by_cases hx:x=c
  .subst hx
   rw[if_pos ⟨hlt,rfl⟩]at hu
   have HU:=Lib.hid hu;clear hu
   go_enter Tryz.func94,Tryz.ntmps94
   go_wp2_with fail
   refine hP.mono ?_
   rintro e w' ⟨rfl,hg⟩
   obtain⟨pb,po,rfl,_,hcs⟩:=(H.out.stay hg).cells.resolve_left (by rw[HN.out];omega)
   obtain⟨k1,k2⟩:=hcs k (by rw[HN.out];exact hlt)
   rw[HX.out]at k1 k2
   simp only at k1 k2
   have HG:=Lib.hid hg;clear hg hP hcs
   go_wp2
   go_ret
   exact⟨by rw[HU.out];rfl,HG.out⟩
  .rw[if_neg (fun h=>hx h.2)]at hu
   have HU:=Lib.hid hu;clear hu
   have hxb:(x !=c)=true:=by simpa using hx
   go_enter Tryz.func94,Tryz.ntmps94
   go_wp2_with fail
   refine hP.mono ?_
   rintro e w' ⟨rfl,hg⟩
   obtain⟨pb,po,rfl,_,hcs⟩:=(H.out.stay hg).cells.resolve_left (by rw[HN.out];omega)
   obtain⟨k1,k2⟩:=hcs k (by rw[HN.out];exact hlt)
   rw[HX.out]at k1 k2
   simp only at k1 k2
   have HG:=Lib.hid hg;clear hg hP hcs
   go_wp2
   go_ret
   exact⟨by rw[HU.out];rfl,HG.out⟩
end Ve
end
section
open Go.RowKit Ve
namespace Ve
set_option maxHeartbeats 400000 in
theorem nK (B n c:Nat) (a:Option Addr) (l:List D) (w:World) (hn:l.length=n) (h:eT w B a l) (hc:n<9223372036854775808):
  Calls Tryz.prog 69 #[.slice a n c] w fun e w'=>e=.returned (.bool (BN 0 l))/\w.grownBy w' none:=by
 have H:=Lib.hid h;clear h
 have HN:=Lib.hid hn;clear hn
 obtain⟨R,HR⟩:∃R,Hid (R=BN 0 l):=⟨_,rfl⟩
 rw[<- HR.out]
 go_enter Tryz.func69,Tryz.ntmps69
 go_wp2
 go_loopw [3,8] (fun last i wr=>∃(k:Nat) (b:Int),k<=n/\0<=b/\i=.int .i64 k/\last=.int .i64 b/\Hid (w.grownBy wr none/\R=BN b (l.drop k))) (fun _ i _=>n-(intOf i).toNat)
 case atStart=>exact⟨0,0,by omega,by omega,rfl,rfl,ah _ _,HR.out⟩
 case round=>
  obtain⟨k,b,hk,hb,rfl,rfl,HI⟩:=hrel
  by_cases hlt:k<n
  .obtain⟨pb,po,rfl,hpb,hcs⟩:=(H.out.stay HI.out.1).cells.resolve_left (by rw[HN.out];omega)
   obtain⟨k1,k2⟩:=hcs k (by rw[HN.out];exact hlt)
   clear hcs
   have hd:=drop_at l k (by rw[HN.out];exact hlt)
   obtain⟨x,y,hxy⟩:∃x y,l.getD k z0=(x,y):=⟨_,_,rfl⟩
   rw[hxy]at k1 k2 hd
   simp only at k1 k2
   have HD:=Lib.hid hd;clear hd hxy
   have hi:(k:Int)<(n:Int):=by omega
   have hfin:∀(b2:Bool),(decide (b<x)&&decide (x<=8)&&decide (1<=y)&&decide (y<=1073741824))=b2->R=(b2&&BN x (l.drop (k+1))):=fun b2 hb2=>by rw[HI.out.2,HD.out,BN,hb2]
   have HF:=Lib.hid hfin;clear hfin
   by_cases h1:x<=b
   .have hr:R=false:=by rw[HF.out false (by simp;omega)];rfl
    have Qc:=Lib.hid hr;clear hr
    go_wp2
    go_ret
    exact⟨by rw[Qc.out];rfl,au HI.out.1 _⟩
   by_cases h2:8<x
   .have hr:R=false:=by rw[HF.out false (by simp;omega)];rfl
    have Qc:=Lib.hid hr;clear hr
    go_wp2
    go_ret
    exact⟨by rw[Qc.out];rfl,au HI.out.1 _⟩
   by_cases h3:y<1
   .have hr:R=false:=by rw[HF.out false (by simp;omega)];rfl
    have Qc:=Lib.hid hr;clear hr
    go_wp2
    go_ret
    exact⟨by rw[Qc.out];rfl,au HI.out.1 _⟩
   by_cases h4:1073741824<y
   .have hr:R=false:=by rw[HF.out false (by simp;omega)];rfl
    have Qc:=Lib.hid hr;clear hr
    go_wp2
    go_ret
    exact⟨by rw[Qc.out];rfl,au HI.out.1 _⟩
   have hr:R=BN x (l.drop (k+1)):=by rw[HF.out true (by simp;omega)];rfl
   have ZI:=Lib.hid hr;clear hr
   go_wp2
   go_roundw
   case rel=>exact⟨k+1,x,by omega,by omega,by go_num,rfl,au HI.out.1 _,ZI.out⟩
   case measure=>simp[intOf];omega
  .obtain rfl:k=n:=by omega
   have hr:R=true:=by rw[HI.out.2,IY l k (by rw[HN.out];omega)];rfl
   have ZI:=Lib.hid hr;clear hr
   go_wp2
   go_ret
   exact⟨by rw[ZI.out];rfl,HI.out.1⟩
theorem qW (B n c:Nat) (a:Option Addr) (l:List D) (w:World) (hn:l.length=n) (h:eT w B a l) (hc:n<9223372036854775808):
  Calls Tryz.prog 52 #[.slice a n c] w fun e w'=>e=.returned (.bool (BN 0 l))/\w.grownBy w' none:=by
 have H:=Lib.hid h;clear h
 have HN:=Lib.hid hn;clear hn
 obtain⟨R,HR⟩:∃R,Hid (R=BN 0 l):=⟨_,rfl⟩
 rw[<- HR.out]
 go_enter Tryz.func52,Tryz.ntmps52
 go_wp2_with fail
 refine (nK B n c a l _ HN.out H.out hc).mono ?_
 rintro e w' ⟨rfl,hg⟩
 rw[<- HR.out]
 have HG:=Lib.hid hg;clear hg
 go_wp2
 go_ret
 exact⟨rfl,HG.out⟩
end Ve
end
section
open Go.RowKit Ve
namespace Ve
set_option maxHeartbeats 400000 in
theorem Ld (B1 B2 n1 n2 c1 c2:Nat) (a1 a2:Option Addr) (l1 l2:List D) (w:World) (hn1:l1.length=n1) (hn2:l2.length=n2) (h1:eT w B1 a1 l1) (h2:eT w B2 a2 l2) (hr:Rt 0 l1) (hc:n2<9223372036854775808):
  Calls Tryz.prog 70 #[.slice a1 n1 c1,.slice a2 n2 c2] w fun e w'=>e=.returned (.bool (CP l1 l2))/\w.grownBy w' none:=by
 have H1:=Lib.hid h1;clear h1
 have H2:=Lib.hid h2;clear h2
 have HN:=Lib.hid (And.intro hn1 hn2);clear hn1 hn2
 obtain⟨R,HR⟩:∃R,Hid (R=CP l1 l2):=⟨_,rfl⟩
 rw[<- HR.out]
 go_enter Tryz.func70,Tryz.ntmps70
 go_wp2
 go_loopw [9] (fun i wr=>∃(k:Nat),k<=n2/\i=.int .i64 k/\Hid (w.grownBy wr none/\R=CP l1 (l2.drop k))) (fun i _=>n2-(intOf i).toNat)
 case atStart=>exact⟨0,by omega,rfl,ah _ _,HR.out⟩
 case round=>
  obtain⟨k,hk,rfl,HI⟩:=hrel
  by_cases hlt:k<n2
  .obtain⟨pb,po,rfl,hpb,hcs⟩:=(H2.out.stay HI.out.1).cells.resolve_left (by rw[HN.out.2];omega)
   obtain⟨k1,k2⟩:=hcs k (by rw[HN.out.2];exact hlt)
   clear hcs
   have hd:=drop_at l2 k (by rw[HN.out.2];exact hlt)
   obtain⟨x,y,hxy⟩:∃x y,l2.getD k z0=(x,y):=⟨_,_,rfl⟩
   rw[hxy]at k1 k2 hd
   simp only at k1 k2
   have hfin:R=(decide (y<=up l1 x)&&CP l1 (l2.drop (k+1))):=by rw[HI.out.2,hd,CP]
   have HF:=Lib.hid hfin;clear hfin hd hxy
   have hi:(k:Int)<(n2:Int):=by omega
   have hS:∀w',w.grownBy w' none->Calls Tryz.prog 94 #[.slice a1 n1 c1,.int .i64 x] w' fun e w''=>e=.returned (.int .i64 (up l1 x))/\w'.grownBy w'' none:=fun w' hg=>TH B1 n1 c1 a1 l1 x w' HN.out.1 (H1.out.stay hg) hr
   generalize up l1 x=u at hS HF
   have HS:=Lib.hid hS;clear hS
   obtain⟨W1,hW1⟩:∃W1,W1=(wr.alloc (.cells #[iV x,iV y] 59)):=⟨_,rfl⟩
   have hg1:w.grownBy W1 none:=by rw[hW1];exact au HI.out.1 _
   have hB:aF W1 wr.heap.size 59 [iV x,iV y]:=by rw[hW1];exact aF.new wr _ _
   have iw:=Lib.hid (And.intro hg1 hB);clear hg1 hB
   generalize hN:wr.heap.size=N at iw
   by_cases hyu:u<y
   .have hr2:R=false:=by rw[HF.out,decide_eq_false (by omega)];rfl
    have Qc:=Lib.hid hr2;clear hr2
    have hyb:decide (u<y)=true:=decide_eq_true hyu
    go_wp2_with fail
    rw[<- hW1]
    have m1:=iw.out.2.cell (i:=0) rfl
    have m2:=iw.out.2.cell (i:=1) rfl
    clear hW1 k1 k2 hN
    go_region_with (go_at_call 94;refine (HS.out _ (aX iw.out.1)).mono ?_;rintro e w3 ⟨rfl,hg3⟩;have m3:w3.cell? ⟨N,1,none⟩=some (iV y):=((iw.out.2.drew.grown hg3 (by simp)).cell (i:=1) rfl);have mM:=Lib.hid (aj (aX iw.out.1) hg3);clear hg3 m1 m2)
    all_goals
     go_wp2
     go_ret
     exact⟨by rw[Qc.out];rfl,mM.out⟩
   .have hr2:R=CP l1 (l2.drop (k+1)):=by rw[HF.out,decide_eq_true (by omega)];rfl
    have ZI:=Lib.hid hr2;clear hr2
    have hyb:decide (u<y)=false:=decide_eq_false hyu
    go_wp2_with fail
    rw[<- hW1]
    have m1:=iw.out.2.cell (i:=0) rfl
    have m2:=iw.out.2.cell (i:=1) rfl
    clear hW1 k1 k2 hN
    go_region_with (go_at_call 94;refine (HS.out _ (aX iw.out.1)).mono ?_;rintro e w3 ⟨rfl,hg3⟩;have m3:w3.cell? ⟨N,1,none⟩=some (iV y):=((iw.out.2.drew.grown hg3 (by simp)).cell (i:=1) rfl);have mM:=Lib.hid (aj (aX iw.out.1) hg3);clear hg3 m1 m2)
    all_goals
     go_wp2
     go_roundw
     case rel=>exact⟨k+1,by omega,by go_num,mM.out,ZI.out⟩
     case measure=>simp[intOf];omega
  .obtain rfl:k=n2:=by omega
   have hr:R=true:=by rw[HI.out.2,IY l2 k (by rw[HN.out.2];omega)];rfl
   have ZI:=Lib.hid hr;clear hr
   go_wp2
   go_ret
   exact⟨by rw[ZI.out];rfl,HI.out.1⟩
def cvB (a b:List D):Bool:=BN 0 a&&BN 0 b&&CP a b
def hasB (v:List D) (d:D):Bool:=BN 0 v&&okD d&&decide (d.2<=up v d.1)
theorem WH (v:List D) (d:D):hasB v d=cvB v [d]:=by
 simp[hasB,cvB,M9,CP]
set_option maxHeartbeats 400000 in
theorem I5 (B1 B2 n1 n2 c1 c2:Nat) (a1 a2:Option Addr) (l1 l2:List D) (w:World) (hn1:l1.length=n1) (hn2:l2.length=n2) (h1:eT w B1 a1 l1) (h2:eT w B2 a2 l2) (hc1:n1<9223372036854775808) (hc2:n2<9223372036854775808):
  Calls Tryz.prog 53 #[.slice a1 n1 c1,.slice a2 n2 c2] w fun e w'=>e=.returned (.bool (cvB l1 l2))/\w.grownBy w' none:=by
 have HA:=Lib.hid (fun w' (hg:w.grownBy w' none)=>qW B1 n1 c1 a1 l1 w' hn1 (h1.stay hg) hc1)
 have HB:=Lib.hid (fun w' (hg:w.grownBy w' none)=>qW B2 n2 c2 a2 l2 w' hn2 (h2.stay hg) hc2)
 have HC:=Lib.hid (fun (hr:BN 0 l1=true) w' (hg:w.grownBy w' none)=>Ld B1 B2 n1 n2 c1 c2 a1 a2 l1 l2 w' hn1 hn2 (h1.stay hg) (h2.stay hg) ((EY _ _).1 hr) hc2)
 clear h1 h2 hn1 hn2
 obtain⟨R,hR⟩:∃R,R=cvB l1 l2:=⟨_,rfl⟩
 rw[<- hR]
 unfold cvB at hR
 generalize CP l1 l2=z at hR HC
 generalize BN 0 l2=y at hR HB
 cases hx:BN 0 l1 with
 | false=>
  rw[hx]at hR HA
  have HR:=Lib.hid (show R=false from hR);clear hR
  clear HB HC hx
  go_enter Tryz.func53,Tryz.ntmps53
  go_wp2_with fail
  refine (HA.out _ (ah _ _)).mono ?_
  rintro e w1 ⟨rfl,hg⟩
  have HG:=Lib.hid hg;clear hg
  go_wp2
  go_ret
  exact⟨by rw[HR.out];rfl,HG.out⟩
 | true=>
  replace HC:=Lib.hid (HC.out hx)
  rw[hx]at hR HA
  clear hx
  cases y with
  | false=>
   have HR:=Lib.hid (show R=false from hR);clear hR
   clear HC
   go_enter Tryz.func53,Tryz.ntmps53
   go_wp2_with fail
   refine (HA.out _ (ah _ _)).mono ?_
   rintro e w1 ⟨rfl,hg⟩
   have HG:=Lib.hid hg;clear hg
   go_wp2_with fail
   refine (HB.out _ HG.out).mono ?_
   rintro e w2 ⟨rfl,hg⟩
   have HG2:=Lib.hid (aj HG.out hg);clear hg
   go_wp2
   go_ret
   exact⟨by rw[HR.out];rfl,HG2.out⟩
  | true=>
   have HR:=Lib.hid (show R=z from by simpa using hR);clear hR
   go_enter Tryz.func53,Tryz.ntmps53
   go_wp2_with fail
   refine (HA.out _ (ah _ _)).mono ?_
   rintro e w1 ⟨rfl,hg⟩
   have HG:=Lib.hid hg;clear hg
   go_wp2_with fail
   refine (HB.out _ HG.out).mono ?_
   rintro e w2 ⟨rfl,hg⟩
   have HG2:=Lib.hid (aj HG.out hg);clear hg
   go_wp2_with fail
   refine (HC.out _ HG2.out).mono ?_
   rintro e w3 ⟨rfl,hg⟩
   have mM:=Lib.hid (aj HG2.out hg);clear hg
   go_wp2
   go_ret
   exact⟨by rw[HR.out];rfl,mM.out⟩
theorem I6 (w:World) (x y:Int) (T:TypeId):eT (w.alloc (.cells #[iV x,iV y] T)) (w.heap.size+1) (some ⟨w.heap.size,0,none⟩) [(x,y)]:=by
 have hB:aF (w.alloc (.cells #[iV x,iV y] T)) w.heap.size T [iV x,iV y]:=aF.new w _ _
 refine⟨by simp,Or.inr ⟨w.heap.size,0,rfl,by omega,fun i hi=>?_⟩⟩
 obtain rfl:i=0:=by simp at hi;omega
 exact⟨hB.cell (i:=0) rfl,hB.cell (i:=1) rfl⟩
end Ve
end
section
open Go.RowKit Ow Wi Ve
namespace Rc
structure L where
 s:ByteArray
 a1:Option Addr
 n1:Nat
 c1:Nat
 a2:Option Addr
 n2:Nat
 c2:Nat
 a3:Option Addr
 n3:Nat
 c3:Nat
def tO (s:ByteArray) (cl sq:Int) (a1:Option Addr) (n1 c1:Nat) (g:Bool) (a2:Option Addr) (n2 c2:Nat) (a3:Option Addr) (n3 c3:Nat):List Value:=
 [.string s,iV cl,iV sq,.slice a1 n1 c1,.bool g,.slice a2 n2 c2,.slice a3 n3 c3]
def L.cells (q:L) (r:R):List Value:=tO q.s r.cl r.sq q.a1 q.n1 q.c1 r.gone q.a2 q.n2 q.c2 q.a3 q.n3 q.c3
def L.v (q:L) (r:R):Value:=.agg (q.cells r).toArray
def z7:List Value:=tO ⟨#[]⟩ 0 0 none 0 0 false none 0 0 none 0 0
structure lD (w:World) (B:Nat) (q:L) (r:R):Prop where
 str:bQ q.s=r.key
 l1:r.cx.length=q.n1
 l2:r.val.length=q.n2
 l3:r.sig.length=q.n3
 dots:eT w B q.a1 r.cx
 val:BytesAt w B q.a2 q.c2 r.val
 sig:BytesAt w B q.a3 q.c3 r.sig
 top:q.n1<9223372036854775808
theorem lD.stay {w w':World} {B:Nat} {q:L} {r:R} (h:lD w B q r) (hg:w.grownBy w' none):lD w' B q r:=
 ⟨h.str,h.l1,h.l2,h.l3,h.dots.stay hg,h.val.stay hg,h.sig.stay hg,h.top⟩
theorem lD.full {w:World} {B:Nat} {q:L} {r:R} (h:lD w B q r):lD w w.heap.size q r:=
 ⟨h.str,h.l1,h.l2,h.l3,h.dots.up' h.dots.lim (Nat.le_refl _),h.val.up h.val.lim (Nat.le_refl _),h.sig.up h.sig.lim (Nat.le_refl _),h.top⟩
theorem lD.TI {w:World} {B:Nat} {q:L} {r:R} (h:lD w B q r):r.key.length=q.s.size:=by rw[<- h.str,gW]
end Rc
end
section
open Go.RowKit Ow Wi Ve
namespace Rc
def vM (l:List D):List (List Nat):=l.flatMap fun d=>[gL d.1,gL d.2]
theorem I7 (l:List D):(vM l).length=2*l.length:=by
 induction l with
 | nil=>rfl
 | cons d r ih=>simp only[vM,List.flatMap_cons,List.length_append,List.length_cons,List.length_nil]at ih ⊢;omega
theorem yG (l:List D):(vM l).flatten=dh l:=by
 induction l with
 | nil=>rfl
 | cons d r ih=>
  have h:(vM (d:: r)).flatten=gL d.1++(gL d.2++(vM r).flatten):=rfl
  rw[h,ih];simp[dh,WA]
theorem Pj (l:List D) (k:Nat) (h:k<l.length) {x y:Int} (e:l.getD k z0=(x,y)):vM (l.take (k+1))=vM (l.take k)++[gL x,gL y]:=by
 rw[List.take_succ_eq_append_getElem h]
 have e2:l[k]=(x,y):=by rw[<- e,List.getD_eq_getElem?_getD,List.getElem?_eq_getElem h];rfl
 rw[e2]
 simp[vM]
theorem DN (l:List D):∀r∈vM l,∀i,r.getD i 0<256:=fun r hr=>by
 obtain⟨d,_,h⟩:=List.mem_flatMap.1 hr
 simp only[List.mem_cons,List.not_mem_nil,or_false]at h
 rcases h with rfl|rfl<;>exact nL _
theorem yH (l:List D):(dh l).length=16*l.length:=by
 induction l with
 | nil=>rfl
 | cons d r ih=>simp only[dh,List.flatMap_cons,List.length_append,WA,gK,List.length_cons]at ih ⊢;omega
theorem _root_.Go.Proofs.YtjgnjhgdmdmebaaGreatDoor.Parts.lt {w:World} {base:Nat} {v:Value} {L:List (List Nat)} (h:Parts w base v L):∀g,v.ownBlock=some g->g<w.heap.size:=fun g e=>by
 obtain⟨xs,ho,_⟩:=h
 exact (ho.lt g e).2
theorem _root_.Go.Proofs.YtjgnjhgdmdmebaaGreatDoor.Parts.gb {w w1 w2 w3:World} {v:Value} {L:List (List Nat)} (h:Parts w1 w.heap.size v L) (hg:w.grownBy w1 none) (hg2:w1.grownBy w2 none) (hg3:w2.grownBy w3 v.ownBlock):w.grownBy w3 none:=by
 obtain⟨xs,ho,_⟩:=h
 exact Tx (aj hg hg2) (ho.stay hg2) hg3
theorem Ca (n:Int) (n0:Nat) (w:World) (h:n0<=w.heap.size):Calls Tryz.prog 47 #[.int .i64 n] w (fun e w'=>∃v,e=.returned v/\w.grownBy w' none/\∃N,v=.slice (some ⟨N,0,none⟩) 8 8/\n0<=N/\aF w' N 5 ((gL n).map dG)):=
 (BU n w).mono fun _ _ ⟨g,he,hg,hn,hb⟩=>⟨_,he,hg,g,rfl,Nat.le_trans h hn,hb⟩
def _root_.Go.Proofs.YtjgnjhgdmdmebaaGreatDoor.Fg.It.dts (l:List D):Fg.It:=⟨fun v w=>∃a cap B,v=.slice a l.length cap/\eT w B a l,fun _ _ _ ⟨a,cap,B,e,h⟩ hg=>⟨a,cap,B,e,h.stay hg⟩⟩
set_option maxHeartbeats 1000000 in
set_option maxRecDepth 100000 in
theorem I8 (n cap B:Nat) (l:List D) (a:Option Addr) (w:World) (hn:l.length=n) (h:eT w B a l) (hm:n<=8):
  Calls Tryz.prog 45 #[.slice a n cap] w (E8 w (dh l)):=by
 have H:=Lib.hid h;clear h
 have HL:=Lib.hid hn;clear hn
 obtain⟨Q,hQ⟩:∃Q,Q=E8 w (dh l):=⟨_,rfl⟩
 rw[<- hQ]
 have HQ:=Lib.hid hQ;clear hQ
 go_enter Tryz.func45,Tryz.ntmps45
 go_wp2
 go_loopw [3,8] (fun v i wr=>∃(k:Nat) (vr:Value),k<=n/\i=.int .i64 k/\vr=v/\Hid (w.grownBy wr none/\Parts wr w.heap.size vr (vM (l.take k)))) (fun _ i _=>n-(intOf i).toNat)
 case atStart=>exact⟨0,_,by omega,rfl,rfl,ah _ _,Parts.nil _ _⟩
 case round=>
  obtain⟨k,vr,hk,rfl,rfl,HI⟩:=hrel
  by_cases hlt:k<n
  .have i0:(k:Int)<(n:Int):=by omega
   obtain⟨pb,po,rfl,hpb,hcs⟩:=(H.out.stay HI.out.1).cells.resolve_left (by rw[HL.out];omega)
   obtain⟨k1,k2⟩:=hcs k (by rw[HL.out];exact hlt)
   obtain⟨x,y,hxy⟩:∃x y,l.getD k z0=(x,y):=⟨_,_,rfl⟩
   have HD:=Lib.hid (And.intro (Pj l k (by rw[HL.out];exact hlt) hxy) (And.intro hlt (And.intro hk (show k<8 by omega))))
   rw[hxy]at k1 k2
   simp only at k1 k2
   clear hcs hxy
   obtain⟨W1,hW1⟩:∃W1,W1=wr.alloc (.cells #[iV x,iV y] 59):=⟨_,rfl⟩
   obtain⟨N,hN⟩:∃N,N=wr.heap.size:=⟨_,rfl⟩
   have HN:Hid (aF W1 N 59 [iV x,iV y]):=by show aF _ _ _ _;rw[hW1,hN];exact aF.new wr _ _
   have HN1:Hid (wr.grownBy W1 none):=by show wr.grownBy _ none;rw[hW1];exact au (ah _ _) _
   go_wp2_with fail
   rw[<- hW1,<- hN]
   clear hW1 hN k1 k2
   refine Fg.tN [] [.any,.any,.any,.any,.any,.any,.any,.any,.any,.any,.any,.any,.val (vr),.val (Value.pointer (some ⟨N,0,none⟩)),.val (Value.int .i64 x),.row 5 ((gL x).map dG) 8 W1.heap.size,.val (Value.pointer (some ⟨N,1,none⟩)),.val (Value.int .i64 y),.row 5 ((gL y).map dG) 8 W1.heap.size,.two W1.heap.size (gL x) (gL y)] W1 8 (ah _ _) (by kernel_rfl) (by kernel_rfl) (by kernel_rfl) (by kernel_rfl) (by decide) (by kernel_rfl) ?_ ?_
   .refine⟨Fg.vT rfl (by decide) fun ac w h=>?_,?_⟩
    .have e3:_=vr:=h.r 3
     exact⟨_,w,aB rfl,Fg.run_move rfl e3,ah _ _,rfl⟩
    refine⟨Fg.vT rfl (by decide) fun ac w h=>?_,?_⟩
    .have e5:_=Value.pointer (some ⟨N,0,none⟩):=h.r 5
     refine⟨Value.pointer (some ⟨N,0,none⟩),w,aB rfl,?_,ah _ _,rfl⟩
     clear h
     simp only[execOp,Act.eval,e5]
     go_simp
    refine⟨Fg.vT rfl (by decide) fun ac w h=>?_,?_⟩
    .have e13:_=Value.pointer (some ⟨N,0,none⟩):=h.d 13
     have c:=((HN.out.gn h.base).cell (i:=0) rfl)
     refine⟨Value.int .i64 x,w,aB rfl,?_,ah _ _,rfl⟩
     clear h
     simp only[execOp,Act.eval,e13]
     go_simp
    refine⟨Fg.cT rfl (by decide) fun ac w h=>?_,?_⟩
    .have e14:_=Value.int .i64 x:=h.d 14
     refine⟨47,#[Value.int .i64 x],aB rfl,Fg.aN rfl rfl (by simp only[List.map_toArray,List.map_cons,List.map_nil,Act.eval,e14]) (Fg.aI Tryz.func47 (by kernel_rfl) (by kernel_rfl)),?_⟩
     exact (Ca x W1.heap.size w h.base.size).mono fun _ _ ⟨v,he,hg,hb⟩=>⟨v,he,hg,hb⟩
    refine⟨Fg.vT rfl (by decide) fun ac w h=>?_,?_⟩
    .have e5:_=Value.pointer (some ⟨N,0,none⟩):=h.r 5
     refine⟨Value.pointer (some ⟨N,1,none⟩),w,aB rfl,?_,ah _ _,rfl⟩
     clear h
     simp only[execOp,Act.eval,e5]
     go_simp
    refine⟨Fg.vT rfl (by decide) fun ac w h=>?_,?_⟩
    .have e16:_=Value.pointer (some ⟨N,1,none⟩):=h.d 16
     have c:=((HN.out.gn h.base).cell (i:=1) rfl)
     refine⟨Value.int .i64 y,w,aB rfl,?_,ah _ _,rfl⟩
     clear h
     simp only[execOp,Act.eval,e16]
     go_simp
    refine⟨Fg.cT rfl (by decide) fun ac w h=>?_,?_⟩
    .have e17:_=Value.int .i64 y:=h.d 17
     refine⟨47,#[Value.int .i64 y],aB rfl,Fg.aN rfl rfl (by simp only[List.map_toArray,List.map_cons,List.map_nil,Act.eval,e17]) (Fg.aI Tryz.func47 (by kernel_rfl) (by kernel_rfl)),?_⟩
     exact (Ca y W1.heap.size w h.base.size).mono fun _ _ ⟨v,he,hg,hb⟩=>⟨v,he,hg,hb⟩
    refine⟨Fg.vT rfl (by decide) fun ac w h=>?_,?_⟩
    .obtain⟨g15,e15,n15,b15⟩:∃N,ac.tmps.getD 15 undef=.slice (some ⟨N,0,none⟩) 8 8/\W1.heap.size<=N/\aF w N 5 ((gL x).map dG):=h.dep 15 (by kernel_rfl)
     obtain⟨g18,e18,n18,b18⟩:∃N,ac.tmps.getD 18 undef=.slice (some ⟨N,0,none⟩) 8 8/\W1.heap.size<=N/\aF w N 5 ((gL y).map dG):=h.dep 18 (by kernel_rfl)
     refine⟨.slice (some ⟨w.heap.size,0,none⟩) 2 2,w.alloc (.cells #[.slice (some ⟨g15,0,none⟩) 8 8,.slice (some ⟨g18,0,none⟩) 8 8] 24),aB rfl,?_,au (ah _ _) _,⟨w.heap.size,g15,g18,rfl,⟨h.base.size,n15,n18⟩,aF.new w [.slice (some ⟨g15,0,none⟩) 8 8,.slice (some ⟨g18,0,none⟩) 8 8] _,b15.alloc _,b18.alloc _⟩⟩
     clear h
     simp only[execOp,Act.eval,e15,e18,List.map_toArray,List.map_cons,List.map_nil]
     go_simp
    trivial
   .intro aq wq hB hsz hdf hrest aC hpt
    have e12:aq.tmps.getD 12 undef=vr:=aC 12 (by kernel_rfl)
    obtain⟨⟨u13,e13⟩,⟨u14,e14⟩,⟨u15,e15⟩,⟨u16,e16⟩,⟨u17,e17⟩,⟨u18,e18⟩,_⟩:=Fg.bn aq [13,14,15,16,17,18]
    obtain⟨b19,p19,q19,e19,n19,h19,ZJ,ZK⟩:∃b g1 g2,aq.tmps.getD 19 undef=.slice (some ⟨b,0,none⟩) 2 2/\(W1.heap.size<=b/\W1.heap.size<=g1/\W1.heap.size<=g2)/\aF wq b 24 [.slice (some ⟨g1,0,none⟩) 8 8,.slice (some ⟨g2,0,none⟩) 8 8]/\aF wq g1 5 ((gL x).map dG)/\aF wq g2 5 ((gL y).map dG):=aC 19 (by kernel_rfl)
    obtain rfl:=Fg.aP [12,13,14,15,16,17,18,19] (vs:=[_,_,_,_,_,_,_,_,_,_,_,_,vr,u13,u14,u15,u16,u17,u18,Value.slice (some ⟨b19,0,none⟩) 2 2,_,_,_,_]) hsz hrest (by kernel_rfl) rfl rfl ⟨e12,e13,e14,e15,e16,e17,e18,e19,trivial⟩ hdf
    clear hsz hdf hrest aC hpt e12 e13 e14 e15 e16 e17 e18 e19
    have HP:=Lib.hid (HI.out.2.stay (aj HN1.out hB))
    have hlt:=HI.out.2.lt
    have hbb:=hB.size
    have hww:=HN1.out.size
    obtain⟨v2,w2,hap,hP2,hg2,hnb⟩:=IZ wq w.heap.size b19 _ vr (vM (l.take k)) [(some ⟨p19,0,none⟩,8,gL x),(some ⟨q19,0,none⟩,8,gL y)] HP.out (by simpa[BX,gK] using h19) (fun e=>by have:=hlt _ e;omega) (by simp) (fun p hp=>by
     simp only[List.mem_cons,List.not_mem_nil,or_false]at hp
     rcases hp with rfl|rfl
     .exact⟨qV ZJ,fun pb po e=>by cases e;exact⟨fun e=>by have:=hlt _ e;omega,ZJ.lt⟩⟩
     .exact⟨qV ZK,fun pb po e=>by cases e;exact⟨fun e=>by have:=hlt _ e;omega,ZK.lt⟩⟩) (Nat.le_trans HI.out.1.size (by omega)) (by rw[I7,List.length_take];have:=HD.out.2.2.2;simp;omega)
    have HS:=Lib.hid (show w.grownBy w2 none/\Parts w2 w.heap.size v2 (vM (l.take (k+1))) from⟨HI.out.2.gb HI.out.1 (aj HN1.out hB) hg2,by rw[HD.out.1];exact hP2⟩)
    have HA:=Lib.hid hap
    clear hP2 hg2 hnb hap hB hlt h19 ZJ ZK n19 HP hbb hww
    refine wpList_append_run rfl (.tmp 12) (.tmp 19) 81 rfl rfl _ _ rfl rfl _ _ HA.out ?_
    refine Fg.aL (v:=v2) (w':=w2) rfl (Fg.run_assign rfl rfl) ?_
    refine wpList_nil ?_
    simp only[Act.put,List.setIfInBounds_toArray,List.set_cons_succ,List.set_cons_zero]
    go_wp2
    go_roundw
    case rel=>exact⟨k+1,v2,by omega,by go_num,rfl,HS.out⟩
    case measure=>simp[intOf];omega
  .obtain rfl:k=n:=by omega
   have e0:l.take k=l:=by rw[<- HL.out];exact List.take_length
   have hP:=HI.out.2
   rw[e0]at hP
   obtain⟨ap,cp,rfl,hR⟩:=hP.rows
   have HJ:=Lib.hid (TD (vM l).length (vM l) ap cp _ wr rfl hR (by rw[I7,HL.out];omega) (by rw[yG,yH,HL.out];omega) (DN l))
   have HG:=Lib.hid HI.out.1
   clear hP hR e0 HI
   rw[yG]at HJ
   generalize (vM l).length=m at *
   go_wp2_with fail
   refine HJ.out.mono ?_
   rintro e w2 ⟨a2,c2,rfl,hg,hb⟩
   have HR:Hid (Q (.returned (.slice a2 (dh l).length c2)) w2):=by rw[HQ.out];exact⟨a2,c2,rfl,aj HG.out hg,hb⟩
   clear hg hb
   go_wp2
   exact HR.out
end Rc
end
section
open Go.RowKit Ow Wi Ve
namespace Rc
abbrev vV (s:ByteArray) (cl sq:Int) (a1:Option Addr) (n1 c1:Nat) (g:Bool) (a2:Option Addr) (n2 c2:Nat) (a3:Option Addr) (n3 c3:Nat):Value:=
 .agg #[.string s,iV cl,iV sq,.slice a1 n1 c1,.bool g,.slice a2 n2 c2,.slice a3 n3 c3]
section
set_option maxHeartbeats 400000 in
theorem Nh (s:ByteArray) (cl sq:Int) (a1:Option Addr) (n1 c1:Nat) (g:Bool) (a2:Option Addr) (n2 c2:Nat) (a3:Option Addr) (n3 c3:Nat) (w:World):
  Calls Tryz.prog 46 #[vV s cl sq a1 n1 c1 g a2 n2 c2 a3 n3 c3] w fun e w'=>e=.returned (.agg #[iV cl,iV sq])/\w.grownBy w' none:=by
 go_enter Tryz.func46,Tryz.ntmps46
 go_wp2
 exact bodyPost_ret (v:=.agg #[iV cl,iV sq]) (by simp[results,Tryz.results46,go_sem]) rfl ⟨rfl,au (au (ah _ _) _) _⟩
set_option maxHeartbeats 400000 in
theorem Le (b:Bool) (r:R) (B:Nat) (w:World) (q:L) (h:lD w B q r) (hb:zP r=b):
  Calls Tryz.prog 39 #[q.v r] w fun e w'=>e=.returned (.bool b)/\w.grownBy w' none:=by
 obtain⟨s,a1,n1,c1,a2,n2,c2,a3,n3,c3⟩:=q
 obtain⟨key,cl,sq,cx,g,val,sig⟩:=r
 have hl:cx.length=n1:=h.l1
 have HA:=Lib.hid (fun w' (hg:w.grownBy w' none)=>qW B n1 c1 a1 cx w' hl (h.dots.stay hg) h.top)
 have HO:=Lib.hid (fun w' B2 a2 c2 (h2:eT w' B2 a2 [(cl,sq)])=>qW B2 1 c2 a2 [(cl,sq)] w' rfl h2 (by decide))
 have HC:=Lib.hid (fun w' (hg:w.grownBy w' none) B2 a2 c2 (h2:eT w' B2 a2 [(cl,sq)])=>I5 B B2 n1 1 c1 c2 a1 a2 cx [(cl,sq)] w' hl rfl (h.dots.stay hg) h2 h.top (by decide))
 clear h hl
 rw[M9]at HO
 rw[<- WH]at HC
 have hb':(okD (cl,sq)&&BN 0 cx&&!hasB cx (cl,sq))=b:=hb
 clear hb
 generalize okD (cl,sq)=x at *
 generalize BN 0 cx=y at *
 generalize hasB cx (cl,sq)=z at *
 show Calls _ _ #[vV s cl sq a1 n1 c1 g a2 n2 c2 a3 n3 c3] w _
 obtain⟨N,hN⟩:∃N,N=w.heap.size:=⟨_,rfl⟩
 obtain⟨W0,hW0⟩:∃W0,W0=w.alloc (.cells #[.string s,iV cl,iV sq,.slice a1 n1 c1,.bool g,.slice a2 n2 c2,.slice a3 n3 c3] 56):=⟨_,rfl⟩
 have hG0:w.grownBy W0 none:=by rw[hW0];exact au (ah _ _) _
 have hB0:aF W0 N 56 [.string s,iV cl,iV sq,.slice a1 n1 c1,.bool g,.slice a2 n2 c2,.slice a3 n3 c3]:=by rw[hW0,hN];exact aF.new w _ _
 have iA:=Lib.hid (And.intro hG0 hB0);clear hG0 hB0
 go_enter Tryz.func39,Tryz.ntmps39
 go_wp2_with fail
 rw[<- hW0,<- hN]
 clear hW0 hN
 refine (Nh s cl sq a1 n1 c1 g a2 n2 c2 a3 n3 c3 W0).mono ?_
 rintro e w1 ⟨rfl,hg⟩
 have hD:=I6 w1 cl sq 59
 obtain⟨W1,hW1⟩:∃W1,W1=w1.alloc (.cells #[iV cl,iV sq] 59):=⟨_,rfl⟩
 rw[<- hW1]at hD
 have hg1:w.grownBy W1 none:=by rw[hW1];exact au (aj iA.out.1 hg) _
 have hB1:aF W1 N 56 [.string s,iV cl,iV sq,.slice a1 n1 c1,.bool g,.slice a2 n2 c2,.slice a3 n3 c3]:=by rw[hW1];exact (iA.out.2.grown hg (by simp)).alloc _
 have iw:=Lib.hid (And.intro hg1 (And.intro hD hB1));clear hg1 hD hg hB1
 obtain⟨M,hM⟩:∃M,M=w1.heap.size:=⟨_,rfl⟩
 rw[<- hM]at iw
 go_wp2_with fail
 rw[<- hW1,<- hM]
 clear hW1 hM
 refine (HO.out _ _ _ 1 iw.out.2.1).mono ?_
 rintro e w2 ⟨rfl,hg⟩
 have c3:=(iw.out.2.2.grown hg (by simp)).cell (i:=3) rfl
 have HG2:=Lib.hid (And.intro (aj iw.out.1 hg) (iw.out.2.1.stay hg));clear hg
 cases x with
 | false=>
  go_wp2
  go_ret
  exact⟨by rw[<- hb'];rfl,HG2.out.1⟩
 | true=>
  go_wp2_with fail
  refine (HA.out _ HG2.out.1).mono ?_
  rintro e w3 ⟨rfl,hg⟩
  have c4:w3.cell? ⟨N,3,none⟩=some (.slice a1 n1 c1):=by rw[aZ hg (block_lt_of_cell c3) (by simp)];exact c3
  have mM:=Lib.hid (And.intro (aj HG2.out.1 hg) (HG2.out.2.stay hg));clear hg c3
  cases y with
  | false=>
   go_wp2
   go_ret
   exact⟨by rw[<- hb'];rfl,mM.out.1⟩
  | true=>
   go_wp2_with fail
   refine (HC.out _ mM.out.1 _ _ _ mM.out.2).mono ?_
   rintro e w4 ⟨rfl,hg⟩
   have jX:=Lib.hid (aj mM.out.1 hg);clear hg c4
   go_wp2
   go_ret
   exact⟨by rw[<- hb'];simp,jX.out⟩
set_option maxHeartbeats 400000 in
theorem qX (b:Bool) (r:R) (B:Nat) (w:World) (q:L) (h:lD w B q r) (hb:eP r=b):
  Calls Tryz.prog 24 #[q.v r] w fun e w'=>e=.returned (.bool b)/\w.grownBy w' none:=by
 have HP:=Lib.hid (fun w' (hg:w.grownBy w' none)=>Le _ r B w' q (h.stay hg) rfl)
 have hk:=h.TI
 have hv:=h.l2
 clear h
 unfold eP Zz ZA at hb
 generalize zP r=z at HP hb
 obtain⟨s,a1,n1,c1,a2,n2,c2,a3,n3,c3⟩:=q
 obtain⟨key,cl,sq,cx,g,val,sig⟩:=r
 simp only at hk hv hb
 rw[hk,hv]at hb
 clear hk hv
 show Calls _ _ #[vV s cl sq a1 n1 c1 g a2 n2 c2 a3 n3 c3] w _
 replace HP:Hid (∀w' (hg:w.grownBy w' none),Calls Tryz.prog 39 #[vV s cl sq a1 n1 c1 g a2 n2 c2 a3 n3 c3] w' fun e w''=>e=.returned (.bool z)/\w'.grownBy w'' none):=HP
 obtain⟨N,hN⟩:∃N,N=w.heap.size:=⟨_,rfl⟩
 obtain⟨W0,hW0⟩:∃W0,W0=w.alloc (.cells #[.string s,iV cl,iV sq,.slice a1 n1 c1,.bool g,.slice a2 n2 c2,.slice a3 n3 c3] 56):=⟨_,rfl⟩
 have hG0:w.grownBy W0 none:=by rw[hW0];exact au (ah _ _) _
 have hB0:aF W0 N 56 [.string s,iV cl,iV sq,.slice a1 n1 c1,.bool g,.slice a2 n2 c2,.slice a3 n3 c3]:=by rw[hW0,hN];exact aF.new w _ _
 have iA:=Lib.hid (And.intro hG0 hB0);clear hG0 hB0
 cases g
 all_goals
  simp only[Bool.false_eq_true,if_true,if_false]at hb
  have HB:=Lib.hid hb;clear hb
  go_enter Tryz.func24,Tryz.ntmps24
  by_cases h1:1<=s.size
  .have i1:(1:Int)<=(s.size:Int):=by omega
   by_cases h2:s.size<=64
   .have i2:(s.size:Int)<=64:=by omega
    go_wp2_with fail
    rw[<- hW0,<- hN]
    clear hW0 hN
    refine (HP.out W0 iA.out.1).mono ?_
    rintro e w1 ⟨rfl,hg⟩
    have k5:=(iA.out.2.grown hg (by simp)).cell (i:=5) rfl
    have iw:=Lib.hid (aj iA.out.1 hg);clear hg
    cases z with
    | false=>
     have HF:Hid (b=false):=by show b=_;rw[<- HB.out];simp
     go_wp2
     go_ret
     exact⟨by rw[HF.out];rfl,iw.out⟩
    | true=>
     have HE:Hid ((decide (n2<=1024)=decide ((n2:Int)<=1024))/\decide (n2<=0)=decide (n2=0)):=⟨by rw[Bool.eq_iff_iff];simp;omega,by simp⟩
     go_wp2
     go_ret
     refine⟨?_,iw.out⟩
     first
     | exact congrArg (fun x=>Ending.returned (Value.bool x)) (show decide ((n2:Int)<=1024)=b from by have h:=HB.out;rw[HE.out.1]at h;rw[<- h];simp[h1,h2])
     | exact congrArg (fun x=>Ending.returned (Value.bool x)) (show decide (n2=0)=b from by have h:=HB.out;rw[HE.out.2]at h;rw[<- h];simp[h1,h2])
   .have i2:¬(s.size:Int)<=64:=by omega
    have HF:Hid (b=false):=by show b=_;rw[<- HB.out];simp[h2]
    go_wp2
    go_ret
    exact⟨by rw[HF.out];rfl,by rw[<- hW0];exact iA.out.1⟩
  .have i1:¬(1:Int)<=(s.size:Int):=by omega
   have HF:Hid (b=false):=by show b=_;rw[<- HB.out];simp[h1]
   go_wp2
   go_ret
   exact⟨by rw[HF.out];rfl,by rw[<- hW0];exact iA.out.1⟩
end
end Rc
end
section
open Go.RowKit Ow Wi
def _root_.Go.Proofs.YtjgnjhgdmdmebaaGreatDoor.Fg.It.ow (b:Nat) (l:List Nat):Fg.It:=⟨fun v w=>w.ownsRow b 5 1 v l.length (l.map dG),fun v _ _ h hg=>h.kept hg (by cases v.ownBlock<;>simp)⟩
end
section
open Go.RowKit Ow Wi Ve
namespace Rc
theorem vN (g:Bool) (i:Nat):([iT g]:List Nat).getD i 0<256:=by
 rcases i with _|i
 .cases g<;>decide
 .simp
theorem uD {l:List Nat} (h:∀i,l.getD i 0<256):∀i,(iq l).getD i 0<256:=kY (nL _) h
theorem I9 (l:List Nat):(iq l).length=8+l.length:=by unfold iq;rw[List.length_append,gK]
theorem qY (l:List D):∀i,(dh l).getD i 0<256:=by rw[<- yG];exact DJ (DN l)
set_option maxHeartbeats 4000000 in
set_option maxRecDepth 100000 in
theorem Ja (r:R) (B:Nat) (w:World) (q:L) (h:lD w B q r) (hb:eP r=true):
  Calls Tryz.prog 27 #[q.v r] w (fun e w'=>∃v,e=.returned v/\w.grownBy w' none/\w'.ownsRow w.heap.size 5 1 v (gB r).length ((gB r).map dG)):=by
 obtain⟨_,h2,_,h4,h5,_⟩:=xD hb
 have hcx:(r.cx.length:Int)<=8:=by have:=h4.len (by decide);omega
 have hk:=h.TI
 clear hb h4
 obtain⟨s,a1,n1,c1,a2,n2,c2,a3,n3,c3⟩:=q
 obtain⟨key,cl,sq,cx,g,val,sig⟩:=r
 have hs:bQ s=key:=h.str
 subst hs
 have l1:cx.length=n1:=h.l1
 have l2:val.length=n2:=h.l2
 simp only at h2 h5 hk hcx
 rw[hk]at h2
 have HK:Hid (s.size<=64):=h2
 have HD:Hid (eT w B a1 cx/\cx.length=n1/\n1<=8):=⟨h.dots,l1,by omega⟩
 have HV:Hid (BytesAt w B a2 c2 val/\val.length=n2/\val.length<=1024):=⟨h.val,l2,h5⟩
 obtain⟨gl,hgl⟩:∃gl,gl=g:=⟨_,rfl⟩
 have HT:Hid ([[1],iq (bQ s),dh [(cl,sq)],gL (n1:Int),dh cx,[iT gl],iq val].flatten=gB ⟨bQ s,cl,sq,cx,g,val,sig⟩/\[[1],iq (bQ s),dh [(cl,sq)],gL (n1:Int),dh cx,[iT gl],iq val].flatten.length<=1000000/\∀l∈[[1],iq (bQ s),dh [(cl,sq)],gL (n1:Int),dh cx,[iT gl],iq val],∀i,l.getD i 0<256):=by
  refine⟨?_,?_,fun l hl=>?_⟩
  .rw[hgl,<- l1]
   simp[gB,dh,R.dot]
  .simp only[List.flatten_cons,List.flatten_nil,List.length_append,List.length_cons,List.length_nil,I9,yH,gK,gW]
   omega
  .simp only[List.mem_cons,List.not_mem_nil,or_false]at hl
   rcases hl with rfl|rfl|rfl|rfl|rfl|rfl|rfl
   .intro i;rcases i with _|i<;>simp
   .exact uD (yF s)
   .exact qY _
   .exact nL _
   .exact qY _
   .exact vN _
   .exact uD h.val.byte
 clear h l1 l2 h2 h5 hk hcx
 show Calls _ _ #[vV s cl sq a1 n1 c1 g a2 n2 c2 a3 n3 c3] w _
 rw[<- HT.out.1]
 obtain⟨Q,hQ⟩:∃Q:Ending->World->Prop,Q=(fun e w'=>∃v,e=.returned v/\w.grownBy w' none/\w'.ownsRow w.heap.size 5 1 v [[1],iq (bQ s),dh [(cl,sq)],gL (n1:Int),dh cx,[iT gl],iq val].flatten.length ([[1],iq (bQ s),dh [(cl,sq)],gL (n1:Int),dh cx,[iT gl],iq val].flatten.map dG)):=⟨_,rfl⟩
 rw[<- hQ]
 have HQ:=Lib.hid hQ;clear hQ
 obtain⟨N,hN⟩:∃N,N=w.heap.size:=⟨_,rfl⟩
 obtain⟨W0,hW0⟩:∃W0,W0=w.alloc (.cells #[.string s,iV cl,iV sq,.slice a1 n1 c1,.bool g,.slice a2 n2 c2,.slice a3 n3 c3] 56):=⟨_,rfl⟩
 have hG0:w.grownBy W0 none:=by rw[hW0];exact au (ah _ _) _
 have hB0:aF W0 N 56 [.string s,iV cl,iV sq,.slice a1 n1 c1,.bool gl,.slice a2 n2 c2,.slice a3 n3 c3]:=by rw[hW0,hN,hgl];exact aF.new w _ _
 have iA:=Lib.hid (And.intro hG0 hB0);clear hG0 hB0
 go_enter Tryz.func27,Tryz.ntmps27
 cases g
 all_goals
  have HGL:=Lib.hid hgl;clear hgl
  go_wp2_with fail
  rw[<- hW0,<- hN]
  clear hW0 hN
  have hgl:=HGL.out
  refine Fg.tN [] [.any,.any,Fg.It.ow W0.heap.size [[1],iq (bQ s),dh [(cl,sq)],gL (n1:Int),dh cx,[iT gl],iq val].flatten,.any,.any,.any,.any,Fg.It.by [1],.val (Value.pointer (some ⟨N,0,none⟩)),.val (Value.pointer (some ⟨N,0,none⟩)),.val (Value.string s),Fg.It.by (bQ s),Fg.It.by (iq (bQ s)),.val (vV s cl sq a1 n1 c1 gl a2 n2 c2 a3 n3 c3),.val (Value.agg #[iV cl,iV sq]),.dts [(cl,sq)],Fg.It.by (dh [(cl,sq)]),.val (Value.pointer (some ⟨N,0,none⟩)),.val (Value.pointer (some ⟨N,3,none⟩)),.val (Value.slice a1 n1 c1),.val (Value.int .i64 n1),Fg.It.by (gL (n1:Int)),.val (Value.pointer (some ⟨N,0,none⟩)),.val (Value.pointer (some ⟨N,3,none⟩)),.val (Value.slice a1 n1 c1),Fg.It.by (dh cx),.val (Value.int .u8 (iT gl:Nat)),Fg.It.by [iT gl],.val (Value.pointer (some ⟨N,0,none⟩)),.val (Value.pointer (some ⟨N,5,none⟩)),.val (Value.slice a2 n2 c2),Fg.It.by (iq val),Fg.It.rws [[1],iq (bQ s),dh [(cl,sq)],gL (n1:Int),dh cx,[iT gl],iq val],Fg.It.ow W0.heap.size [[1],iq (bQ s),dh [(cl,sq)],gL (n1:Int),dh cx,[iT gl],iq val].flatten] W0 28 (ah _ _) (by kernel_rfl) (by kernel_rfl) (by kernel_rfl) (by kernel_rfl) (by decide) (by kernel_rfl) ?_ ?_
  .refine⟨Fg.vT rfl (by decide) fun ac w h=>?_,?_⟩
   .refine⟨.slice (some ⟨w.heap.size,0,none⟩) 1 1,w.alloc (.cells #[.int .u8 1] 5),aB rfl,?_,au (ah _ _) _,⟨_,1,_,rfl,DL [1] (fun i=>by rcases i with _|i<;>simp) (by decide)⟩⟩
    clear h
    simp only[execOp,Act.eval,List.map_toArray,List.map_cons,List.map_nil]
    go_simp
   refine⟨Fg.vT rfl (by decide) fun ac w h=>?_,?_⟩
   .have e1:_=Value.pointer (some ⟨N,0,none⟩):=h.r 1
    refine⟨Value.pointer (some ⟨N,0,none⟩),w,aB rfl,?_,ah _ _,rfl⟩
    clear h
    simp only[execOp,Act.eval,e1]
    go_simp
   refine⟨Fg.vT rfl (by decide) fun ac w h=>?_,?_⟩
   .have e8:_=Value.pointer (some ⟨N,0,none⟩):=h.d 8
    refine⟨Value.pointer (some ⟨N,0,none⟩),w,aB rfl,?_,ah _ _,rfl⟩
    clear h
    simp only[execOp,Act.eval,e8]
    go_simp
   refine⟨Fg.vT rfl (by decide) fun ac w h=>?_,?_⟩
   .have e9:_=Value.pointer (some ⟨N,0,none⟩):=h.d 9
    have c:=(iA.out.2.gn h.base).cell (i:=0) rfl
    refine⟨Value.string s,w,aB rfl,?_,ah _ _,rfl⟩
    clear h
    simp only[execOp,Act.eval,e9]
    go_simp
   refine⟨Fg.vT rfl (by decide) fun ac w h=>?_,?_⟩
   .have e10:_=Value.string s:=h.d 10
    obtain⟨c11,Y1,aht,ac0,ac1⟩:=Pg s w (by have:=HK.out;omega)
    refine⟨.slice (some ⟨w.heap.size,0,none⟩) s.size c11,Y1,aB rfl,?_,ac0,⟨_,_,_,by rw[gW],ac1⟩⟩
    clear h ac1 ac0
    simp only[execOp,Act.eval,e10]
    simp[aht,Result.andThen]
   refine⟨Fg.cT rfl (by decide) fun ac w h=>?_,?_⟩
   .obtain⟨a11,k11,B11,e11,b11⟩:∃x c B,ac.tmps.getD 11 undef=.slice x (bQ s).length c/\BytesAt w B x c (bQ s):=h.dep 11 (by kernel_rfl)
    refine⟨44,#[Value.slice a11 (bQ s).length k11],aB rfl,Fg.aN rfl rfl (by simp only[List.map_toArray,List.map_cons,List.map_nil,Act.eval,e11]) (Fg.aI Tryz.func44 (by kernel_rfl) (by kernel_rfl)),?_⟩
    exact (DK _ (bQ s) a11 k11 B11 w rfl b11 (by rw[gW];have:=HK.out;omega)).mono fun _ _ ⟨_,_,he,hg,hb⟩=>⟨_,he,hg,_,_,_,rfl,hb⟩
   refine⟨Fg.vT rfl (by decide) fun ac w h=>?_,?_⟩
   .have e1:_=Value.pointer (some ⟨N,0,none⟩):=h.r 1
    have m0:=(iA.out.2.gn h.base).cell (i:=0) rfl
    have m1:=(iA.out.2.gn h.base).cell (i:=1) rfl
    have m2:=(iA.out.2.gn h.base).cell (i:=2) rfl
    have m3:=(iA.out.2.gn h.base).cell (i:=3) rfl
    have m4:=(iA.out.2.gn h.base).cell (i:=4) rfl
    have m5:=(iA.out.2.gn h.base).cell (i:=5) rfl
    have m6:=(iA.out.2.gn h.base).cell (i:=6) rfl
    refine⟨vV s cl sq a1 n1 c1 gl a2 n2 c2 a3 n3 c3,w,aB rfl,?_,ah _ _,rfl⟩
    clear h
    simp only[execOp,Act.eval,e1]
    go_simp
   refine⟨Fg.cT rfl (by decide) fun ac w h=>?_,?_⟩
   .have e13:_=vV s cl sq a1 n1 c1 gl a2 n2 c2 a3 n3 c3:=h.d 13
    refine⟨46,#[vV s cl sq a1 n1 c1 gl a2 n2 c2 a3 n3 c3],aB rfl,Fg.aN rfl rfl (by simp only[List.map_toArray,List.map_cons,List.map_nil,Act.eval,e13]) (Fg.aI Tryz.func46 (by kernel_rfl) (by kernel_rfl)),?_⟩
    exact (Nh s cl sq a1 n1 c1 gl a2 n2 c2 a3 n3 c3 w).mono fun _ _ ⟨he,hg⟩=>⟨_,he,hg,rfl⟩
   refine⟨Fg.vT rfl (by decide) fun ac w h=>?_,?_⟩
   .have e14:_=Value.agg #[iV cl,iV sq]:=h.d 14
    refine⟨.slice (some ⟨w.heap.size,0,none⟩) 1 1,w.alloc (.cells #[iV cl,iV sq] 59),aB rfl,?_,au (ah _ _) _,⟨_,1,_,rfl,I6 w cl sq _⟩⟩
    clear h
    simp only[execOp,Act.eval,e14,List.map_toArray,List.map_cons,List.map_nil]
    go_simp
   refine⟨Fg.cT rfl (by decide) fun ac w h=>?_,?_⟩
   .obtain⟨a15,k15,B15,e15,b15⟩:∃x c B,ac.tmps.getD 15 undef=.slice x [(cl,sq)].length c/\eT w B x [(cl,sq)]:=h.dep 15 (by kernel_rfl)
    refine⟨45,#[Value.slice a15 [(cl,sq)].length k15],aB rfl,Fg.aN rfl rfl (by simp only[List.map_toArray,List.map_cons,List.map_nil,Act.eval,e15]) (Fg.aI Tryz.func45 (by kernel_rfl) (by kernel_rfl)),?_⟩
    exact (I8 1 k15 B15 [(cl,sq)] a15 w rfl b15 (by decide)).mono fun _ _ ⟨_,_,he,hg,hb⟩=>⟨_,he,hg,_,_,_,rfl,hb⟩
   refine⟨Fg.vT rfl (by decide) fun ac w h=>?_,?_⟩
   .have e1:_=Value.pointer (some ⟨N,0,none⟩):=h.r 1
    refine⟨Value.pointer (some ⟨N,0,none⟩),w,aB rfl,?_,ah _ _,rfl⟩
    clear h
    simp only[execOp,Act.eval,e1]
    go_simp
   refine⟨Fg.vT rfl (by decide) fun ac w h=>?_,?_⟩
   .have e17:_=Value.pointer (some ⟨N,0,none⟩):=h.d 17
    refine⟨Value.pointer (some ⟨N,3,none⟩),w,aB rfl,?_,ah _ _,rfl⟩
    clear h
    simp only[execOp,Act.eval,e17]
    go_simp
   refine⟨Fg.vT rfl (by decide) fun ac w h=>?_,?_⟩
   .have e18:_=Value.pointer (some ⟨N,3,none⟩):=h.d 18
    have c:=(iA.out.2.gn h.base).cell (i:=3) rfl
    refine⟨Value.slice a1 n1 c1,w,aB rfl,?_,ah _ _,rfl⟩
    clear h
    simp only[execOp,Act.eval,e18]
    go_simp
   refine⟨Fg.vT rfl (by decide) fun ac w h=>?_,?_⟩
   .have e19:_=Value.slice a1 n1 c1:=h.d 19
    have x19:ac.tmps[19]?.getD undef=Value.slice a1 n1 c1:=by simpa using e19
    refine⟨.int .i64 n1,w,aB rfl,?_,ah _ _,rfl⟩
    clear h e19
    go_simp
   refine⟨Fg.cT rfl (by decide) fun ac w h=>?_,?_⟩
   .have e20:_=Value.int .i64 n1:=h.d 20
    refine⟨47,#[Value.int .i64 n1],aB rfl,Fg.aN rfl rfl (by simp only[List.map_toArray,List.map_cons,List.map_nil,Act.eval,e20]) (Fg.aI Tryz.func47 (by kernel_rfl) (by kernel_rfl)),?_⟩
    exact (Lb (n1:Int) w).mono fun _ _ ⟨_,_,he,hg,hb⟩=>⟨_,he,hg,_,_,_,rfl,hb⟩
   refine⟨Fg.vT rfl (by decide) fun ac w h=>?_,?_⟩
   .have e1:_=Value.pointer (some ⟨N,0,none⟩):=h.r 1
    refine⟨Value.pointer (some ⟨N,0,none⟩),w,aB rfl,?_,ah _ _,rfl⟩
    clear h
    simp only[execOp,Act.eval,e1]
    go_simp
   refine⟨Fg.vT rfl (by decide) fun ac w h=>?_,?_⟩
   .have e22:_=Value.pointer (some ⟨N,0,none⟩):=h.d 22
    refine⟨Value.pointer (some ⟨N,3,none⟩),w,aB rfl,?_,ah _ _,rfl⟩
    clear h
    simp only[execOp,Act.eval,e22]
    go_simp
   refine⟨Fg.vT rfl (by decide) fun ac w h=>?_,?_⟩
   .have e23:_=Value.pointer (some ⟨N,3,none⟩):=h.d 23
    have c:=(iA.out.2.gn h.base).cell (i:=3) rfl
    refine⟨Value.slice a1 n1 c1,w,aB rfl,?_,ah _ _,rfl⟩
    clear h
    simp only[execOp,Act.eval,e23]
    go_simp
   refine⟨Fg.cT rfl (by decide) fun ac w h=>?_,?_⟩
   .have e24:_=Value.slice a1 n1 c1:=h.d 24
    refine⟨45,#[Value.slice a1 n1 c1],aB rfl,Fg.aN rfl rfl (by simp only[List.map_toArray,List.map_cons,List.map_nil,Act.eval,e24]) (Fg.aI Tryz.func45 (by kernel_rfl) (by kernel_rfl)),?_⟩
    exact (I8 n1 c1 B cx a1 w HD.out.2.1 (HD.out.1.stay (aj iA.out.1 h.base)) HD.out.2.2).mono fun _ _ ⟨_,_,he,hg,hb⟩=>⟨_,he,hg,_,_,_,rfl,hb⟩
   refine⟨Fg.vT rfl (by decide) fun ac w h=>?_,?_⟩
   .have e3:ac.tmps.getD 3 undef=Value.int .u8 (iT gl:Nat):=(h.rest 3 (by kernel_rfl)).trans (by rw[hgl];rfl)
    exact⟨_,w,aB rfl,Fg.run_move rfl e3,ah _ _,rfl⟩
   refine⟨Fg.vT rfl (by decide) fun ac w h=>?_,?_⟩
   .have e26:_=Value.int .u8 (iT gl:Nat):=h.d 26
    refine⟨.slice (some ⟨w.heap.size,0,none⟩) 1 1,w.alloc (.cells #[.int .u8 (iT gl:Nat)] 5),aB rfl,?_,au (ah _ _) _,⟨_,1,_,rfl,DL [iT gl] (vN gl) (by simp)⟩⟩
    clear h
    simp only[execOp,Act.eval,e26,List.map_toArray,List.map_cons,List.map_nil]
    go_simp
   refine⟨Fg.vT rfl (by decide) fun ac w h=>?_,?_⟩
   .have e1:_=Value.pointer (some ⟨N,0,none⟩):=h.r 1
    refine⟨Value.pointer (some ⟨N,0,none⟩),w,aB rfl,?_,ah _ _,rfl⟩
    clear h
    simp only[execOp,Act.eval,e1]
    go_simp
   refine⟨Fg.vT rfl (by decide) fun ac w h=>?_,?_⟩
   .have e28:_=Value.pointer (some ⟨N,0,none⟩):=h.d 28
    refine⟨Value.pointer (some ⟨N,5,none⟩),w,aB rfl,?_,ah _ _,rfl⟩
    clear h
    simp only[execOp,Act.eval,e28]
    go_simp
   refine⟨Fg.vT rfl (by decide) fun ac w h=>?_,?_⟩
   .have e29:_=Value.pointer (some ⟨N,5,none⟩):=h.d 29
    have c:=(iA.out.2.gn h.base).cell (i:=5) rfl
    refine⟨Value.slice a2 n2 c2,w,aB rfl,?_,ah _ _,rfl⟩
    clear h
    simp only[execOp,Act.eval,e29]
    go_simp
   refine⟨Fg.cT rfl (by decide) fun ac w h=>?_,?_⟩
   .have e30:_=Value.slice a2 n2 c2:=h.d 30
    refine⟨44,#[Value.slice a2 n2 c2],aB rfl,Fg.aN rfl rfl (by simp only[List.map_toArray,List.map_cons,List.map_nil,Act.eval,e30]) (Fg.aI Tryz.func44 (by kernel_rfl) (by kernel_rfl)),?_⟩
    exact (DK n2 val a2 c2 B w HV.out.2.1 (HV.out.1.stay (aj iA.out.1 h.base)) (by have:=HV.out.2.2;omega)).mono fun _ _ ⟨_,_,he,hg,hb⟩=>⟨_,he,hg,_,_,_,rfl,hb⟩
   refine⟨Fg.vT rfl (by decide) fun ac w h=>?_,?_⟩
   .obtain⟨a7,k7,B7,e7,b7⟩:∃x c B,ac.tmps.getD 7 undef=.slice x [1].length c/\BytesAt w B x c [1]:=h.dep 7 (by kernel_rfl)
    obtain⟨a12,k12,Xk,e12,b12⟩:∃x c B,ac.tmps.getD 12 undef=.slice x (iq (bQ s)).length c/\BytesAt w B x c (iq (bQ s)):=h.dep 12 (by kernel_rfl)
    obtain⟨a16,k16,B16,e16,b16⟩:∃x c B,ac.tmps.getD 16 undef=.slice x (dh [(cl,sq)]).length c/\BytesAt w B x c (dh [(cl,sq)]):=h.dep 16 (by kernel_rfl)
    obtain⟨a21,k21,B21,e21,b21⟩:∃x c B,ac.tmps.getD 21 undef=.slice x (gL (n1:Int)).length c/\BytesAt w B x c (gL (n1:Int)):=h.dep 21 (by kernel_rfl)
    obtain⟨a25,k25,B25,e25,b25⟩:∃x c B,ac.tmps.getD 25 undef=.slice x (dh cx).length c/\BytesAt w B x c (dh cx):=h.dep 25 (by kernel_rfl)
    obtain⟨a27,k27,B27,e27,b27⟩:∃x c B,ac.tmps.getD 27 undef=.slice x [iT gl].length c/\BytesAt w B x c [iT gl]:=h.dep 27 (by kernel_rfl)
    obtain⟨a31,Xl,B31,e31,b31⟩:∃x c B,ac.tmps.getD 31 undef=.slice x (iq val).length c/\BytesAt w B x c (iq val):=h.dep 31 (by kernel_rfl)
    refine⟨.slice (some ⟨w.heap.size,0,none⟩) 7 7,w.alloc (.cells #[.slice a7 [1].length k7,.slice a12 (iq (bQ s)).length k12,.slice a16 (dh [(cl,sq)]).length k16,.slice a21 (gL (n1:Int)).length k21,.slice a25 (dh cx).length k25,.slice a27 [iT gl].length k27,.slice a31 (iq val).length Xl] 24),aB rfl,?_,au (ah _ _) _,⟨_,7,_,rfl,TF _ [(a7,k7,[1]),(a12,k12,iq (bQ s)),(a16,k16,dh [(cl,sq)]),(a21,k21,gL (n1:Int)),(a25,k25,dh cx),(a27,k27,[iT gl]),(a31,Xl,iq val)] (fun p hp=>by
      simp only[List.mem_cons,List.not_mem_nil,or_false]at hp
      rcases hp with rfl|rfl|rfl|rfl|rfl|rfl|rfl
      .exact⟨_,b7⟩
      .exact⟨_,b12⟩
      .exact⟨_,b16⟩
      .exact⟨_,b21⟩
      .exact⟨_,b25⟩
      .exact⟨_,b27⟩
      .exact⟨_,b31⟩)⟩⟩
    clear h
    simp only[execOp,Act.eval,e7,e12,e16,e21,e25,e27,e31,List.map_toArray,List.map_cons,List.map_nil]
    go_simp
   refine⟨Fg.cT rfl (by decide) fun ac w h=>?_,?_⟩
   .obtain⟨a32,k32,B32,e32,b32⟩:∃x c B,ac.tmps.getD 32 undef=.slice x [[1],iq (bQ s),dh [(cl,sq)],gL (n1:Int),dh cx,[iT gl],iq val].length c/\jY w B x [[1],iq (bQ s),dh [(cl,sq)],gL (n1:Int),dh cx,[iT gl],iq val]:=h.dep 32 (by kernel_rfl)
    refine⟨43,#[Value.slice a32 [[1],iq (bQ s),dh [(cl,sq)],gL (n1:Int),dh cx,[iT gl],iq val].length k32],aB rfl,Fg.aN rfl rfl (by simp only[List.map_toArray,List.map_cons,List.map_nil,Act.eval,e32]) (Fg.aI Tryz.func43 (by kernel_rfl) (by kernel_rfl)),?_⟩
    exact (BS 7 k32 B32 [[1],iq (bQ s),dh [(cl,sq)],gL (n1:Int),dh cx,[iT gl],iq val] a32 w rfl b32 (by simp) HT.out.2.1).mono fun _ _ ⟨_,he,hg,ho⟩=>⟨_,he,hg,oK ho h.base.size⟩
   refine⟨Fg.vT rfl (by decide) fun ac w h=>?_,?_⟩
   .obtain⟨v33,e33,b33⟩:∃v,ac.tmps.getD 33 undef=v/\w.ownsRow W0.heap.size 5 1 v [[1],iq (bQ s),dh [(cl,sq)],gL (n1:Int),dh cx,[iT gl],iq val].flatten.length ([[1],iq (bQ s),dh [(cl,sq)],gL (n1:Int),dh cx,[iT gl],iq val].flatten.map dG):=⟨_,rfl,h.dep 33 (by kernel_rfl)⟩
    exact⟨_,w,aB rfl,Fg.run_assign rfl e33,ah _ _,b33⟩
   trivial
  .intro aq wq hB hsz hdf hrest aC hpt
   obtain⟨u0,e0⟩:=Fg.bP aq 0
   obtain⟨v2,e2,b2⟩:∃v,aq.tmps.getD 2 undef=v/\wq.ownsRow W0.heap.size 5 1 v [[1],iq (bQ s),dh [(cl,sq)],gL (n1:Int),dh cx,[iT gl],iq val].flatten.length ([[1],iq (bQ s),dh [(cl,sq)],gL (n1:Int),dh cx,[iT gl],iq val].flatten.map dG):=⟨_,rfl,aC 2 (by kernel_rfl)⟩
   obtain⟨⟨u3,e3⟩,⟨u6,e6⟩,⟨u7,e7⟩,⟨u8,e8⟩,⟨u9,e9⟩,⟨u10,e10⟩,⟨u11,e11⟩,⟨u12,e12⟩,⟨u13,e13⟩,⟨u14,e14⟩,⟨u15,e15⟩,⟨u16,e16⟩,⟨u17,e17⟩,⟨u18,e18⟩,⟨u19,e19⟩,⟨u20,e20⟩,⟨u21,e21⟩,⟨u22,e22⟩,⟨u23,e23⟩,⟨u24,e24⟩,⟨u25,e25⟩,⟨u26,e26⟩,⟨u27,e27⟩,⟨u28,e28⟩,⟨u29,e29⟩,⟨u30,e30⟩,⟨u31,e31⟩,⟨u32,e32⟩,⟨u33,e33⟩,_⟩:=Fg.bn aq [3,6,7,8,9,10,11,12,13,14,15,16,17,18,19,20,21,22,23,24,25,26,27,28,29,30,31,32,33]
   obtain rfl:=Fg.iB (a:=aq) (vs:=[u0,Value.pointer (some ⟨N,0,none⟩),v2,u3,Value.pointer (some ⟨N,0,none⟩),Value.pointer (some ⟨N,4,none⟩),u6,u7,u8,u9,u10,u11,u12,u13,u14,u15,u16,u17,u18,u19,u20,u21,u22,u23,u24,u25,u26,u27,u28,u29,u30,u31,u32,u33]) hsz ⟨e0,hrest 1 (by kernel_rfl),e2,e3,hrest 4 (by kernel_rfl),hrest 5 (by kernel_rfl),e6,e7,e8,e9,e10,e11,e12,e13,e14,e15,e16,e17,e18,e19,e20,e21,e22,e23,e24,e25,e26,e27,e28,e29,e30,e31,e32,e33,trivial⟩ hdf
   clear hsz hdf hrest aC hpt e0 e2 e3 e6 e7 e8 e9 e10 e11 e12 e13 e14 e15 e16 e17 e18 e19 e20 e21 e22 e23 e24 e25 e26 e27 e28 e29 e30 e31 e32 e33
   have HR:Hid (Q (.returned v2) wq):=by rw[HQ.out];exact⟨_,rfl,aj iA.out.1 hB,oK b2 iA.out.1.size⟩
   clear b2 hB
   refine wpList_nil ?_
   go_wp2
   exact HR.out
end Rc
end
section
open Go.RowKit Ow Wi Ve
namespace Rc
def Cb (r:R):List Nat:=if eP r then gB r else []
theorem vO {w:World} {B:Nat} {q:L} {r:R} (h:lD w B q r) (hs:eP r=true):(gB r).length<=2000/\∀i,(gB r).getD i 0<256:=by
 obtain⟨_,h2,_,h4,h5,_⟩:=xD hs
 have hcx:(r.cx.length:Int)<=8:=by have:=h4.len (by decide);omega
 have hk:∀i,r.key.getD i 0<256:=by rw[<- h.str];exact yF _
 have e:gB r=[1]++(iq r.key++(dh [r.dot]++(gL (r.cx.length:Int)++(dh r.cx++([iT r.gone]++iq r.val))))):=by simp[gB,dh]
 rw[e]
 refine⟨?_,kY (fun i=>by rcases i with _|i<;>simp) (kY (uD hk) (kY (qY _) (kY (nL _) (kY (qY _) (kY (vN _) (uD h.val.byte))))))⟩
 simp only[List.length_append,List.length_cons,List.length_nil,I9,yH,gK]
 omega
def Lf (w:World) (l:List Nat) (e:Ending) (w':World):Prop:=∃v,e=.returned v/\w.grownBy w' none/\w'.ownsRow w.heap.size 5 1 v l.length (l.map dG)
theorem TJ (w w':World) (hg:w.grownBy w' none):Lf w [] (.returned (.slice none 0 0)) w':=⟨_,rfl,hg,World.ownsRow_nil _ _ _ _⟩
theorem Pk {w0 w w':World} {l:List Nat} {e:Ending} (h:Lf w l e w') (hg:w0.grownBy w none):Lf w0 l e w':=by
 obtain⟨v,he,hg2,hb⟩:=h
 exact⟨v,he,aj hg hg2,oK hb hg.size⟩
set_option maxHeartbeats 1000000 in
theorem Pm (r:R) (B:Nat) (w:World) (q:L) (h:lD w B q r):Calls Tryz.prog 68 #[q.v r] w (Lf w (Cb r)):=by
 have HS:=Lib.hid (fun w' (hg:w.grownBy w' none)=>qX (eP r) r B w' q (h.stay hg) rfl)
 have HT:=Lib.hid (fun (hs:eP r=true) w' (hg:w.grownBy w' none)=>Ja r B w' q (h.stay hg) hs)
 clear h
 obtain⟨Q,hQ⟩:∃Q,Q=Lf w (Cb r):=⟨_,rfl⟩
 rw[<- hQ]
 unfold Cb at hQ
 generalize gB r=T at HT hQ
 cases hb:eP r with
 | false=>
  rw[hb]at HS hQ
  clear HT
  have HQ:Hid (∀w',w.grownBy w' none->Q (.returned (.slice none 0 0)) w'):=fun w' hg=>by rw[hQ];exact TJ w w' hg
  clear hQ hb
  obtain⟨s,a1,n1,c1,a2,n2,c2,a3,n3,c3⟩:=q
  obtain⟨key,cl,sq,cx,g,val,sig⟩:=r
  replace HS:Hid (∀w' (_:w.grownBy w' none),Calls Tryz.prog 24 #[vV s cl sq a1 n1 c1 g a2 n2 c2 a3 n3 c3] w' fun e w''=>e=.returned (.bool false)/\w'.grownBy w'' none):=HS
  show Calls _ _ #[vV s cl sq a1 n1 c1 g a2 n2 c2 a3 n3 c3] w _
  go_enter Tryz.func68,Tryz.ntmps68
  go_wp2_with fail
  refine (HS.out _ (au (au (ah _ _) _) _)).mono ?_
  rintro e w1 ⟨rfl,hg⟩
  have HG:=Lib.hid (aj (au (au (ah _ _) _) _) hg);clear hg
  go_wp2
  exact HQ.out _ HG.out
 | true=>
  rw[hb]at HS
  replace HT:=Lib.hid (HT.out hb)
  rw[hb,if_pos rfl]at hQ
  clear hb
  have HQ:Hid (∀w' e w'',w.grownBy w' none->Lf w' T e w''->Q e w''):=fun w' e w'' hg ho=>by rw[hQ];exact Pk ho hg
  clear hQ
  obtain⟨s,a1,n1,c1,a2,n2,c2,a3,n3,c3⟩:=q
  obtain⟨key,cl,sq,cx,g,val,sig⟩:=r
  replace HS:Hid (∀w' (_:w.grownBy w' none),Calls Tryz.prog 24 #[vV s cl sq a1 n1 c1 g a2 n2 c2 a3 n3 c3] w' fun e w''=>e=.returned (.bool true)/\w'.grownBy w'' none):=HS
  replace HT:Hid (∀w' (_:w.grownBy w' none),Calls Tryz.prog 27 #[vV s cl sq a1 n1 c1 g a2 n2 c2 a3 n3 c3] w' (Lf w' T)):=HT
  show Calls _ _ #[vV s cl sq a1 n1 c1 g a2 n2 c2 a3 n3 c3] w _
  obtain⟨N,hN⟩:∃N,N=w.heap.size+1:=⟨_,rfl⟩
  obtain⟨W0,hW0⟩:∃W0,W0=(w.alloc (.cells #[.string s,iV cl,iV sq,.slice a1 n1 c1,.bool g,.slice a2 n2 c2,.slice a3 n3 c3] 34)).alloc (.cells #[.string s,iV cl,iV sq,.slice a1 n1 c1,.bool g,.slice a2 n2 c2,.slice a3 n3 c3] 56):=⟨_,rfl⟩
  have hG0:w.grownBy W0 none:=by rw[hW0];exact au (au (ah _ _) _) _
  have hB0:aF W0 N 56 [.string s,iV cl,iV sq,.slice a1 n1 c1,.bool g,.slice a2 n2 c2,.slice a3 n3 c3]:=by rw[hW0,hN,<- World.size_alloc];exact aF.new _ _ _
  have iA:=Lib.hid (And.intro hG0 hB0);clear hG0 hB0
  go_enter Tryz.func68,Tryz.ntmps68
  go_wp2_with fail
  rw[<- hW0,<- hN]
  clear hW0 hN
  refine (HS.out _ iA.out.1).mono ?_
  rintro e w1 ⟨rfl,hg⟩
  have hB1:=iA.out.2.grown hg (by simp)
  have m0:=hB1.cell (i:=0) rfl
  have m1:=hB1.cell (i:=1) rfl
  have m2:=hB1.cell (i:=2) rfl
  have m3:=hB1.cell (i:=3) rfl
  have m4:=hB1.cell (i:=4) rfl
  have m5:=hB1.cell (i:=5) rfl
  have m6:=hB1.cell (i:=6) rfl
  have HG:=Lib.hid (aj iA.out.1 hg);clear hg hB1
  go_wp2_with fail
  refine (HT.out _ HG.out).mono ?_
  rintro e w2 ho
  have HO:=Lib.hid (HQ.out _ _ _ HG.out ho)
  obtain⟨v,rfl,_⟩:=ho
  go_wp2
  exact HO.out
theorem TK {w:World} {B:Nat} {q:L} {r:R} (h:lD w B q r):∀i,(Cb r).getD i 0<256:=by
 unfold Cb
 cases hs:eP r with
 | false=>simp
 | true=>exact (vO h hs).2
theorem Pn (r:R) (B:Nat) (w:World) (q:L) (h:lD w B q r):Calls Tryz.prog 68 #[q.v r] w (E8 w (Cb r)):=
 (Pm r B w q h).mono fun _ _ ⟨_,he,hg,ho⟩=>he▸xI hg ho rfl (TK h)
set_option maxHeartbeats 1000000 in
theorem oL (r:R) (B:Nat) (w:World) (q:L) (h:lD w B q r):Calls Tryz.prog 49 #[q.v r] w fun e w'=>e=.returned (.bool (iL r))/\w.grownBy w' none:=by
 have HS:=Lib.hid (fun w' (hg:w.grownBy w' none)=>qX (eP r) r B w' q (h.stay hg) rfl)
 have hl:=h.l3
 clear h
 obtain⟨b,hb⟩:∃b,b=iL r:=⟨_,rfl⟩
 rw[<- hb]
 unfold iL at hb
 rw[hl]at hb
 clear hl
 generalize eP r=x at HS hb
 obtain⟨s,a1,n1,c1,a2,n2,c2,a3,n3,c3⟩:=q
 obtain⟨key,cl,sq,cx,g,val,sig⟩:=r
 replace HS:Hid (∀w' (_:w.grownBy w' none),Calls Tryz.prog 24 #[vV s cl sq a1 n1 c1 g a2 n2 c2 a3 n3 c3] w' fun e w''=>e=.returned (.bool x)/\w'.grownBy w'' none):=HS
 show Calls _ _ #[vV s cl sq a1 n1 c1 g a2 n2 c2 a3 n3 c3] w _
 obtain⟨N,hN⟩:∃N,N=w.heap.size:=⟨_,rfl⟩
 obtain⟨W0,hW0⟩:∃W0,W0=w.alloc (.cells #[.string s,iV cl,iV sq,.slice a1 n1 c1,.bool g,.slice a2 n2 c2,.slice a3 n3 c3] 34):=⟨_,rfl⟩
 have hG0:w.grownBy W0 none:=by rw[hW0];exact au (ah _ _) _
 have hB0:aF W0 N 34 [.string s,iV cl,iV sq,.slice a1 n1 c1,.bool g,.slice a2 n2 c2,.slice a3 n3 c3]:=by rw[hW0,hN];exact aF.new _ _ _
 have iA:=Lib.hid (And.intro hG0 hB0);clear hG0 hB0
 have HB:=Lib.hid hb;clear hb
 go_enter Tryz.func49,Tryz.ntmps49
 go_wp2_with fail
 rw[<- hW0,<- hN]
 clear hW0 hN
 refine (HS.out _ iA.out.1).mono ?_
 rintro e w1 ⟨rfl,hg⟩
 have m6:=(iA.out.2.grown hg (by simp)).cell (i:=6) rfl
 have HG:=Lib.hid (aj iA.out.1 hg);clear hg
 cases x with
 | false=>
  go_wp2
  go_ret
  exact⟨by rw[HB.out];rfl,HG.out⟩
 | true=>
  by_cases h3:n3=64
  .subst h3
   go_wp2
   go_ret
   exact⟨by rw[HB.out];rfl,HG.out⟩
  .have i3:((n3:Int)==64)=false:=by rw[beq_eq_false_iff_ne];omega
   have HF:Hid (b=false):=by show _=_;rw[HB.out];simp[h3]
   clear h3
   go_wp2
   go_ret
   exact⟨by rw[HF.out];rfl,HG.out⟩
end Rc
end
section
open Go.RowKit Ow Wi Ve
namespace Rc
theorem qy:(Tryz.prog.info? 34).map (·.size)=some 7:=by kernel_rfl
end Rc
end
section
open Go.RowKit Ve
namespace Ve
def dC (d:D):List Value:=[iV d.1,iV d.2]
def jw (l:List D):List Value:=l.flatMap dC
theorem yI (l:List D):(jw l).length=l.length*2:=by
 induction l with
 | nil=>rfl
 | cons d r ih=>rw[jw,List.flatMap_cons,List.length_append,<- jw,ih];simp[dC];omega
theorem Po (l m:List D):jw (l++m)=jw l++jw m:=by simp[jw]
theorem Lg (l:List D) (k:Nat):(jw l).drop (k*2)=jw (l.drop k):=by
 induction l generalizing k with
 | nil=>simp[jw]
 | cons d r ih=>
  cases k with
  | zero=>simp[jw]
  | succ k=>
   show ([iV d.1,iV d.2]++jw r).drop ((k+1)*2)=jw (r.drop k)
   rw[<- ih,show (k+1)*2=k*2+2 by omega]
   rfl
theorem Jb (l:List D) (i:Nat) (h:i<l.length):(jw l)[i*2]?=some (iV (l.getD i z0).1)/\(jw l)[i*2+1]?=some (iV (l.getD i z0).2):=by
 have hd:(jw l).drop (i*2)=iV (l.getD i z0).1:: iV (l.getD i z0).2:: jw (l.drop (i+1)):=by
  rw[Lg,drop_at l i h];rfl
 constructor
 .have:=congrArg (fun q=>q[0]?) hd
  simpa[List.getElem?_drop] using this
 .have:=congrArg (fun q=>q[1]?) hd
  simpa[List.getElem?_drop] using this
theorem Lh (l:List D):∀v∈jw l,v.oneCell'=true:=by
 intro v hv
 obtain⟨d,_,h⟩:=List.mem_flatMap.1 hv
 simp only[dC,List.mem_cons,List.not_mem_nil,or_false]at h
 rcases h with rfl|rfl<;>rfl
theorem Jc:∃i,Tryz.prog.info? 59=some i/\i.zero=some (.agg #[iV 0,iV 0])/\i.size=2/\i.bytes=16:=by
 have h:(Tryz.prog.info? 59).map (fun i=>(i.zero,i.size,i.bytes))=some (some (.agg #[iV 0,iV 0]),2,16):=by kernel_rfl
 cases hi:Tryz.prog.info? 59 with
 | none=>rw[hi]at h;cases h
 | some i=>
  rw[hi]at h
  simp only[Option.map_some,Option.some.injEq,Prod.mk.injEq]at h
  exact⟨i,rfl,h.1,h.2.1,h.2.2⟩
theorem Jd {w:World} {base n:Nat} {v:Value} {l:List D} (h:w.ownsRow base 59 2 v n (jw l)):∃a c,v=.slice a n c/\l.length=n/\n<=c/\eT w w.heap.size a l:=by
 have hl:l.length=n:=by have:=h.1;rw[yI]at this;omega
 rcases h.2 with⟨rfl,rfl⟩ |⟨g,c,cur,rfl,hb,hg,hnc,hcm,hcs,ht⟩
 .exact⟨none,0,rfl,hl,Nat.le_refl _,Nat.le_refl _,Or.inl hl⟩
 .refine⟨_,c,rfl,hl,hnc,Nat.le_refl _,Or.inr ⟨g,0,rfl,lt_of_block hg,fun i hi=>?_⟩⟩
  obtain⟨e1,e2⟩:=Jb l i hi
  rw[Nat.zero_add]
  have key:∀j u,(jw l)[j]?=some u->w.cell? ⟨g,j,none⟩=some u:=fun j u hu=>by
   have:=h.cells (g:=g) rfl j u hu
   rwa [Addr.add_lit,Nat.zero_add]at this
  exact⟨key _ _ e1,key _ _ e2⟩
end Ve
end
section
open Go.RowKit Ve
namespace Ve
abbrev mI (w:World) (base:Nat) (v:Value) (n:Nat) (l:List D):Prop:=w.ownsRow base 59 2 v n (jw l)
theorem zl (w:World) (base B:Nat) (v:Value) (n0:Nat) (l0:List D) (a:Option Addr) (m c:Nat) (p:List D) (hown:mI w base v n0 l0) (hm:p.length=m) (hp:eT w B a p) (ha:a=none->c=0) (hn:n0+m<=1000000000) (hbase:base<=w.heap.size):
  ∃v' w',(Builtin.append_ #[32,32] 32 #[v,.slice a m c]).run Tryz.prog w=.ok v' w'/\mI w' base v' (n0+m) (l0++p)/\w.grownBy w' v.ownBlock:=by
 obtain⟨i,hi,hz,hs,hb⟩:=Jc
 rcases a with _|ad
 .have h0:p.length=0:=by
   rcases hp.cells with h |⟨_,_,h,_⟩
   .exact h
   .cases h
  obtain rfl:p=[]:=List.eq_nil_of_length_eq_zero h0
  obtain rfl:m=0:=by rw[<- hm];rfl
  obtain rfl:=ha rfl
  exact⟨v,w,run_append_owned_none (P:=Tryz.prog) w base 32 32 59 i 2 Tryz.underlying32 hi v n0 _ hown,by simpa using hown,ah _ _⟩
 .obtain⟨v',w',hr,ho,hg,_⟩:=run_append_own (P:=Tryz.prog) w base 32 32 59 i (.agg #[iV 0,iV 0]) 2 16 Tryz.underlying32 hi hz hs hb rfl (by decide) v n0 (jw l0) hown ad m c (jw p) (by rw[yI,hm])
   (fun j u hu=>by
    have hj:j<p.length*2:=by have:=(List.getElem?_eq_some_iff.1 hu).1;rwa [yI]at this
    obtain⟨pb,po,e,_,hc⟩:=hp.cells.resolve_left (by omega)
    cases e
    obtain⟨q,hq⟩:∃q,j=q*2\/j=q*2+1:=⟨j/2,by omega⟩
    have hql:q<p.length:=by omega
    obtain⟨e1,e2⟩:=Jb p q hql
    obtain⟨f1,f2⟩:=hc q hql
    rw[Addr.add_lit]
    rcases hq with rfl|rfl
    .rw[e1]at hu;rw[f1];exact hu
    .rw[e2]at hu;rw[<- Nat.add_assoc,f2];exact hu) (Lh p) (by unfold maxLen;omega) (by omega) hbase
  exact⟨v',w',hr,by unfold mI;rw[Po];exact ho,hg⟩
theorem Cc {w:World} {base n:Nat} {v:Value} {l:List D} (h:mI w base v n l):∃a c,v=.slice a n c:=by
 rcases h.2 with⟨rfl,h0⟩ |⟨g,c,_,rfl,_⟩
 .exact⟨none,0,by rw[h0]⟩
 .exact⟨_,_,rfl⟩
end Ve
end
section
open Go
namespace Fg
theorem DR {P:Program} {ops:Array Oper} {o:Oper} {a:Act} {w:World} {K:Act->World->Prop} {Q:Exit->Act->World->Prop} {E:Prop} (hg:o.guard=none) {f:FuncId} {args:Array Value}
  (hr:(execOp a.eval o).run P w=.ok (.enter f args) w) (hc:Calls P f args w fun e w'=>∃v,e=.returned v/\K (a.put o.dst v) w'):if Region.wanted o (yielded ops a.tmps)=true then Oper.wp P o a w K Q else E:=by
 have hw:Region.wanted o (yielded ops a.tmps)=true:=by simp[Region.wanted,hg]
 rw[if_pos hw]
 unfold Oper.wp
 rw[hr]
 exact Calls.mono hc fun e w' ⟨v,he,hK⟩=>by subst he;exact hK
theorem mJ {P:Program} {fn:Func} {p u:Tmp} {ty:TypeId} (h:fn.results=#[.cell p ty,.tmp u]) (tmps:Array Value) (w:World) (g:Nat) (t:TypeId) (cs:Array Value) (fr:Nat×Nat) (d:TypeDesc)
  (hp:tmps.getD p undef=.pointer (some ⟨g,0,none⟩)) (hg:w.heap[g]?=some (.cells cs t fr))
  (hu:P.underlying ty=some d) (hd:(match d with | .struct _ | .array _ _=>true|_=>false)=true) (hi:(P.info? ty).map (·.size)=some cs.size) {v:Value} (hv:tmps.getD u undef=v):
  (results fn tmps).run P w=.ok (.tuple #[.agg cs,v]) w:=by
 rw[results_cell_tmp h,hp,hv]
 simp[asAddr,run_loadVar_row w g t ty cs fr d hg hu hd hi,Result.andThen]
end Fg
end
section
open Go.RowKit Ow Wi Ve
namespace Rc
theorem jR {w:World} {base b' e sz n:Nat} {v:Value} {xs:List Value} (h:w.ownsRow base e sz v n xs) (hb:b'<=base):w.ownsRow b' e sz v n xs:=by
 refine⟨h.1,?_⟩
 rcases h.2 with h0 |⟨g,c,cur,e1,hg,rest⟩
 .exact Or.inl h0
 .exact Or.inr ⟨g,c,cur,e1,Nat.le_trans hb hg,rest⟩
theorem bZ {w w':World} {base e sz n T Tt:Nat} {v:Value} {xs:List Value} {L:List Value} (h:w.ownsRow base e sz v n xs) (hb:aF w T Tt L) (hne:Tt≠e) (hg:w.grownBy w' (some T)):w'.ownsRow base e sz v n xs:=by
 refine h.kept hg ?_
 rcases h.2 with⟨rfl,_⟩ |⟨g,c,cur,rfl,_,hh,_⟩
 .exact Or.inl rfl
 .refine Or.inr fun e2=>?_
  simp only[Value.ownBlock,Option.some.injEq]at e2
  subst e2
  unfold aF at hb
  rw[hb]at hh
  simp only[Option.some.injEq,Obj.cells.injEq]at hh
  exact hne hh.2.1
end Rc
end
section
open Go.RowKit Ow Wi Ve
namespace Rc
theorem E9 (w:World) (base n c:Nat) (v:Value) (xs:List Value) (hown:w.ownsRow base 59 2 v n xs):
  (Builtin.append_ #[32,32] 32 #[v,.slice none 0 c]).run Tryz.prog w=.ok v w:=by
 obtain⟨i,hi,hz,hs,hb⟩:=Jc
 rcases hown.2 with⟨rfl,rfl⟩ |⟨g,cap,cur,rfl,_,_,hnc,_⟩
 .simp[Builtin.append_,run_underlying Tryz.underlying32,sizeOf,typeInfo,hi,Builtin.lenOf,Builtin.firstCells]
 .simp[Builtin.append_,run_underlying Tryz.underlying32,sizeOf,typeInfo,hi,Builtin.lenOf,Builtin.firstCells,hnc,storeCells]
structure zF (w:World) (base:Nat) (q:L) (r:R):Prop where
 str:bQ q.s=r.key
 dots:mI w base (.slice q.a1 q.n1 q.c1) q.n1 r.cx
 val:w.ownsRow base 5 1 (.slice q.a2 q.n2 q.c2) q.n2 (r.val.map dG)
 sig:w.ownsRow base 5 1 (.slice q.a3 q.n3 q.c3) q.n3 (r.sig.map dG)
 vb:∀i,r.val.getD i 0<256
 sb:∀i,r.sig.getD i 0<256
 top:q.n1<9223372036854775808
theorem zF.stay {w w':World} {base:Nat} {q:L} {r:R} (h:zF w base q r) (hg:w.grownBy w' none):zF w' base q r:=
 ⟨h.str,h.dots.kept hg (by cases (Value.slice q.a1 q.n1 q.c1).ownBlock<;>simp),sj h.val hg,sj h.sig hg,h.vb,h.sb,h.top⟩
theorem zF.at {w:World} {base:Nat} {q:L} {r:R} (h:zF w base q r):lD w w.heap.size q r:=by
 obtain⟨a',c',e3,hl1,_,hd⟩:=Jd h.dots
 simp only[Value.slice.injEq,true_and]at e3
 obtain⟨a5,c5,e5,_,hv,_⟩:=uz h.val h.vb
 simp only[Value.slice.injEq,true_and]at e5
 obtain⟨a6,c6,e6,_,hs,_⟩:=uz h.sig h.sb
 simp only[Value.slice.injEq,true_and]at e6
 have l2:r.val.length=q.n2:=by have:=h.val.1;simpa using this
 have l3:r.sig.length=q.n3:=by have:=h.sig.1;simpa using this
 rw[<- e3.1]at hd
 rw[<- e5.1,<- e5.2]at hv
 rw[<- e6.1,<- e6.2]at hs
 exact⟨h.str,hl1,l2,l3,hd,hv,hs,h.top⟩
theorem zF.other {w w':World} {base T Tt:Nat} {q:L} {r:R} {cs:List Value} (h:zF w base q r) (hb:aF w T Tt cs) (h1:Tt≠59) (h2:Tt≠5) (hg:w.grownBy w' (some T)):zF w' base q r:=
 ⟨h.str,bZ h.dots hb h1 hg,bZ h.val hb h2 hg,bZ h.sig hb h2 hg,h.vb,h.sb,h.top⟩
theorem tQ {w:World} {base n:Nat} {v:Value} {xs:List Value} (h:w.ownsRow base 5 1 v n xs):∃a c,v=.slice a n c:=by
 rcases h.2 with⟨rfl,h0⟩ |⟨g,c,_,rfl,_⟩
 .exact⟨none,0,by rw[h0]⟩
 .exact⟨_,_,rfl⟩
def TL (w:World) (r:R) (e:Ending) (w':World):Prop:=∃q:L,e=.returned (q.v r)/\w.grownBy w' none/\zF w' w.heap.size q r
end Rc
end
section
open Go.RowKit Ow Wi Ve Rc
namespace Sb
set_option maxHeartbeats 1000000 in
set_option maxRecDepth 100000 in
theorem Li (B n cap:Nat) (a:Option Addr) (l:List D) (w:World) (hl:l.length=n) (hn:n<=1000000) (hP:eT w B a l):
  Calls Tryz.prog 25 #[.slice a n cap] w fun e w'=>∃v,e=.returned v/\w.grownBy w' none/\mI w' w.heap.size v n l:=by
 cases a with
 | none=>
  obtain rfl:l=[]:=by
   rcases hP.cells with h |⟨_,_,h,_⟩
   .exact List.eq_nil_of_length_eq_zero h
   .cases h
  obtain rfl:n=0:=hl.symm
  have heq:=fun w:World=>Lib.run_eql_slice_nil (P:=Tryz.prog) w 32 59 none 0 cap 0 0 Tryz.underlying32
  go_enter Tryz.func25,Tryz.ntmps25
  go_wp2
  go_ret
  exact⟨_,rfl,ah _ _,World.ownsRow_nil w _ 59 2⟩
 | some ad=>
  have g0:=au (ah w none) (.cells #[] 59)
  have hown:mI (w.alloc (.cells #[] 59)) w.heap.size (.slice (some ⟨w.heap.size,0,none⟩) 0 0) 0 []:=World.ownsRow_made w #[] 0 (Nat.le_refl _) (by decide) rfl
  obtain⟨v',w',hap,h2,h3⟩:=zl (w.alloc (.cells #[] 59)) w.heap.size B _ 0 [] (some ad) n cap l hown hl (hP.stay g0) (fun e=>by cases e) (by omega) (by simp)
  rw[Nat.zero_add,List.nil_append]at h2
  have HX:=Lib.hid (And.intro h2 (aW (aj g0 (ah _ none)) h3 (Nat.le_refl _) (row:=none)))
  clear h2 h3 hown g0 hP
  have heq:=fun w:World=>Lib.run_eql_slice_nil (P:=Tryz.prog) w 32 59 (some ad) n cap 0 0 Tryz.underlying32
  go_enter Tryz.func25,Tryz.ntmps25
  go_wp2_with (at_builtin;refine Lib.wpList_append_run _ rfl _ _ _ _ rfl _ _ rfl rfl _ _ hap ?_)
  go_ret
  exact⟨_,rfl,HX.out.2,HX.out.1⟩
set_option maxHeartbeats 1000000 in
set_option maxRecDepth 100000 in
theorem Lj (B n cap:Nat) (a:Option Addr) (l:List Nat) (w:World) (hl:l.length=n) (hn:n<=1000000) (hP:BytesAt w B a cap l):
  Calls Tryz.prog 23 #[.slice a n cap] w fun e w'=>∃v,e=.returned v/\w.grownBy w' none/\w'.ownsRow w.heap.size 5 1 v n (l.map dG):=by
 cases a with
 | none=>
  obtain rfl:l=[]:=by
   rcases hP.cells with h |⟨_,_,h,_⟩
   .exact List.eq_nil_of_length_eq_zero h
   .cases h
  obtain rfl:n=0:=hl.symm
  have heq:=fun w:World=>Lib.run_eql_slice_nil (P:=Tryz.prog) w 24 5 none 0 cap 0 0 Tryz.underlying24
  go_enter Tryz.func23,Tryz.ntmps23
  go_wp2
  go_ret
  exact⟨_,rfl,ah _ _,World.ownsRow_nil w _ 5 1⟩
 | some ad=>
  have g0:=au (ah w none) (.cells #[] 5)
  have hown:(w.alloc (.cells #[] 5)).ownsRow w.heap.size 5 1 (.slice (some ⟨w.heap.size,0,none⟩) 0 0) 0 []:=World.ownsRow_made w #[] 0 (Nat.le_refl _) (by decide) rfl
  obtain⟨v',w',hap,h2,h3⟩:=ni (w.alloc (.cells #[] 5)) w.heap.size 0 B cap n _ [] (some ad) l hown hl (hP.stay g0) (by omega) (by simp)
  rw[Nat.zero_add,List.nil_append]at h2
  have HX:=Lib.hid (And.intro h2 (aW (aj g0 (ah _ none)) h3 (Nat.le_refl _) (row:=none)))
  clear h2 h3 hown g0 hP
  have heq:=fun w:World=>Lib.run_eql_slice_nil (P:=Tryz.prog) w 24 5 (some ad) n cap 0 0 Tryz.underlying24
  go_enter Tryz.func23,Tryz.ntmps23
  go_wp2_with (at_builtin;refine Lib.wpList_append_run _ rfl _ _ _ _ rfl _ _ rfl rfl _ _ hap ?_)
  go_ret
  exact⟨_,rfl,HX.out.2,HX.out.1⟩
theorem Je {f:Nat} {args:Array Value} {w:World} {b e sz n:Nat} {xs:List Value} (h:Calls Tryz.prog f args w fun e' w'=>∃v,e'=.returned v/\w.grownBy w' none/\w'.ownsRow w.heap.size e sz v n xs) (hb:b<=w.heap.size):
  Calls Tryz.prog f args w fun e' w'=>∃v,e'=.returned v/\w.grownBy w' none/\∃u,v=u/\w'.ownsRow b e sz u n xs:=
 h.mono fun _ _ ⟨v,he,hg,ho⟩=>⟨v,he,hg,v,rfl,jR ho hb⟩
def _root_.Go.Proofs.YtjgnjhgdmdmebaaGreatDoor.Fg.It.own (b e sz n:Nat) (xs:List Value):Fg.It:=⟨fun v w=>∃u,v=u/\w.ownsRow b e sz u n xs,fun _ _ _ ⟨u,e1,h⟩ hg=>⟨u,e1,h.kept hg (by cases u.ownBlock<;>simp)⟩⟩
end Sb
end
section
open Go.RowKit Ow Wi Ve Rc
namespace Gr
def jh (l:List Nat) (r:R):R:={r with sig:=Dz l (gB r)}
def zm (n:Int):Value:=.tuple #[.agg z7.toArray,.int .i64 n]
set_option maxHeartbeats 2000000 in
set_option maxRecDepth 100000 in
theorem Pp (r:R) (n cap:Nat) (a:Option Addr) (w:World) (q:L) (hn:n≠32):
  Calls Tryz.prog 11 #[.slice a n cap,q.v r] w fun e w'=>e=.returned (zm 2)/\w.grownBy w' none:=by
 obtain⟨s,a1,n1,c1,a2,n2,c2,a3,n3,c3⟩:=q
 obtain⟨key,cl,sq,cx,g,val,sig⟩:=r
 have i0:¬(n:Int)=32:=by omega
 clear hn
 show Calls _ _ #[.slice a n cap,vV s cl sq a1 n1 c1 g a2 n2 c2 a3 n3 c3] w _
 obtain⟨N,hN⟩:∃N,N=w.heap.size+1:=⟨_,rfl⟩
 obtain⟨W0,hW0⟩:∃W0,W0=(w.alloc (.cells #[.string s,iV cl,iV sq,.slice a1 n1 c1,.bool g,.slice a2 n2 c2,.slice a3 n3 c3] 34)).alloc (.cells z7.toArray 34):=⟨_,rfl⟩
 have hG0:w.grownBy W0 none:=by rw[hW0];exact au (au (ah _ _) _) _
 have hB0:aF W0 N 34 z7:=by rw[hW0,hN,<- World.size_alloc];exact aF.new _ _ _
 have iA:=Lib.hid (And.intro hG0 hB0);clear hG0 hB0
 unfold z7 tO at hW0
 go_enter Tryz.func11,Tryz.ntmps11
 go_wp2_with fail
 rw[<- hW0]
 refine bodyPost_ret (v:=zm 2) (Fg.mJ Tryz.results11 _ _ (w.heap.size+1) 34 z7.toArray (0,0) _ rfl (by rw[<- hN];exact iA.out.2) Tryz.underlying34 rfl qy rfl) rfl ⟨rfl,iA.out.1⟩
set_option maxHeartbeats 2000000 in
set_option maxRecDepth 100000 in
theorem Ll (r:R) (B cap:Nat) (a:Option Addr) (w:World) (q:L) (h:lD w B q r) (hs:eP r=false):
  Calls Tryz.prog 11 #[.slice a 32 cap,q.v r] w fun e w'=>e=.returned (zm 4)/\w.grownBy w' none:=by
 have HS:=Lib.hid (fun w' (hg:w.grownBy w' none)=>qX false r B w' q (h.stay hg) hs)
 clear h hs
 obtain⟨s,a1,n1,c1,a2,n2,c2,a3,n3,c3⟩:=q
 obtain⟨key,cl,sq,cx,g,val,sig⟩:=r
 replace HS:Hid (∀w' (_:w.grownBy w' none),Calls Tryz.prog 24 #[vV s cl sq a1 n1 c1 g a2 n2 c2 a3 n3 c3] w' fun e w''=>e=.returned (.bool false)/\w'.grownBy w'' none):=HS
 show Calls _ _ #[.slice a 32 cap,vV s cl sq a1 n1 c1 g a2 n2 c2 a3 n3 c3] w _
 obtain⟨M,hM⟩:∃M,M=w.heap.size+1:=⟨_,rfl⟩
 obtain⟨W0,hW0⟩:∃W0,W0=((w.alloc (.cells #[.string s,iV cl,iV sq,.slice a1 n1 c1,.bool g,.slice a2 n2 c2,.slice a3 n3 c3] 34)).alloc (.cells z7.toArray 34)).alloc (.cells #[.string s,iV cl,iV sq,.slice a1 n1 c1,.bool g,.slice a2 n2 c2,.slice a3 n3 c3] 56):=⟨_,rfl⟩
 have hG0:w.grownBy W0 none:=by rw[hW0];exact au (au (au (ah _ _) _) _) _
 have hB0:aF W0 M 34 z7:=by rw[hW0,hM,<- World.size_alloc];exact (aF.new _ _ _).alloc _
 have iA:=Lib.hid (And.intro hG0 (And.intro hB0 (show w.heap.size<=M by omega)));clear hG0 hB0
 unfold z7 tO iV at hW0
 go_enter Tryz.func11,Tryz.ntmps11
 go_wp2_with fail
 rw[<- hW0,<- hM]
 clear hW0 hM
 refine (HS.out _ iA.out.1).mono ?_
 rintro e w1 ⟨rfl,hg⟩
 have hm:=iA.out.2.1.grown hg (by simp)
 have HG:=Lib.hid (And.intro (aj iA.out.1 hg) (And.intro hm iA.out.2.2));clear hg
 have y0:=hm.cell (i:=0) rfl
 have g0:=hm.free 0
 have y1:=hm.cell (i:=1) rfl
 have g1:=hm.free 1
 have y2:=hm.cell (i:=2) rfl
 have g2:=hm.free 2
 have y3:=hm.cell (i:=3) rfl
 have g3:=hm.free 3
 have y4:=hm.cell (i:=4) rfl
 have g4:=hm.free 4
 have y5:=hm.cell (i:=5) rfl
 have g5:=hm.free 5
 have y6:=hm.cell (i:=6) rfl
 have g6:=hm.free 6
 clear hm
 go_wp2_with fail
 obtain⟨kg,hm,hMw⟩:=HG.out
 have Ni:=aQ (aQ (aQ (aQ (aQ (aQ (aQ (ah w1 (some M)) 0 (.string ⟨#[]⟩)) 1 (.int .i64 0)) 2 (.int .i64 0)) 3 (.slice none 0 0)) 4 (.bool false)) 5 (.slice none 0 0)) 6 (.slice none 0 0)
 have Fq:=((((((hm.set 0 (.string ⟨#[]⟩)).set 1 (.int .i64 0)).set 2 (.int .i64 0)).set 3 (.slice none 0 0)).set 4 (.bool false)).set 5 (.slice none 0 0)).set 6 (.slice none 0 0)
 refine bodyPost_ret (v:=zm 4) (Fg.mJ Tryz.results11 _ _ M 34 z7.toArray (0,0) _ rfl Fq Tryz.underlying34 rfl qy rfl) rfl ⟨rfl,aW kg Ni hMw⟩
end Gr
end
section
open Wi Ve Rc Ed
namespace Gr
def Jf (n:Nat):List Nat:=n:: List.replicate 31 0
abbrev Lm (k:List Nat) (c:Int):R:=⟨k,c,1,[],false,[],[]⟩
noncomputable def iH (k:List Nat) (c:Nat):R:=jh (Jf c) (Lm k c)
def qZ (c:Nat):List Nat:=jk (enc (zC (Jf c)))
def pI:List (List Nat)->Nat->List G
 | [],_=>[]
 | p:: t,c=>⟨(c:Int),qZ c,p⟩:: pI t (c+1)
abbrev kx:List Nat:=[97,47,120]
abbrev g1:List G:=[⟨1,qZ 1,[97,47]⟩]
theorem TM:Jf 1=BP:=by decide
theorem Nj (c:Nat):(qZ c).length=32:=gy _
theorem xJ:rightG g1=true:=by
 unfold rightG tJ tJ
 rw[Nj]
 decide
theorem Pq (r:R) (s:List Nat):eP {r with sig:=s}=eP r:=rfl
theorem DT (r:R) (s:List Nat) (h:eP r=true) (hs:s.length=64):iL {r with sig:=s}=true:=by
 unfold iL
 rw[Pq,h]
 simp[hs]
theorem kF (l:List Nat) (r:R) (h:eP r=true):iL (jh l r)=true:=DT r _ h (pG _ _)
theorem m1:tL g1 [iH kx 1]=0:=by
 rw[qU,xJ]
 unfold mH
 rw[show iL (iH kx 1)=true from kF _ _ (by decide +kernel)]
 have e:xE (qZ 1) (iH kx 1)=0:=by
  unfold xE
  rw[show iL (iH kx 1)=true from kF _ _ (by decide +kernel)]
  rw[show BO (qZ 1) (iH kx 1).sig (gB (iH kx 1))=true from Nc (IW _ _)]
  rfl
 exact e
theorem m2:tL g1 [iH [98] 1]=21:=by
 rw[qU,xJ]
 unfold mH
 rw[show iL (iH [98] 1)=true from kF _ _ (by decide +kernel)]
 rfl
theorem m3:tL g1 [iH kx 2]=21:=by
 rw[qU,xJ]
 unfold mH
 rw[show iL (iH kx 2)=true from kF _ _ (by decide +kernel)]
 rfl
noncomputable def oM:R:={iH kx 1 with sig:=(iH kx 1).sig.set 0 ((iH kx 1).sig.getD 0 0^^^1)}
theorem TN:gB (Lm kx 1)=BQ:=by decide +kernel
theorem ZL:(iH kx 1).sig=Dz BP BQ:=(congrArg (fun t=>Dz (Jf 1) t) TN).trans (congrArg (fun l=>Dz l BQ) TM)
theorem TP:oM.sig=Uy++MX BP BQ:=(congrArg (fun s:List Nat=>s.set 0 (s.getD 0 0^^^1)) ZL).trans WG
theorem m4:tL g1 [oM]=20:=by
 have hr:iL oM=true:=DT (iH kx 1) _ (by decide +kernel) (by rw[List.length_set];exact pG _ _)
 rw[qU,xJ]
 unfold mH
 rw[hr]
 have e:xE (qZ 1) oM=20:=by
  unfold xE
  rw[hr]
  have ht:gB oM=BQ:=TN
  rw[show BO (qZ 1) oM.sig (gB oM)=false from ZB (by rw[TP,ht];unfold qZ;rw[TM];exact WE)]
  rfl
 exact e
end Gr
end
section
open Wi Ve Rc Ed
namespace Gr
abbrev uN (l:List Nat) (c:Int) (p:List Nat):G:=⟨c,jk (enc (zC l)),p⟩
theorem uE (l:List Nat) (c:Int) (p:List Nat) (h1:1<=c) (h2:c<=8):rightG [uN l c p]=decide (p.length<=64):=by
 unfold rightG tJ tJ
 have i1:(0:Int)<c:=by omega
 simp[i1,h2,gy]
theorem Ce {r:R} (h:eP r=true):1<=r.cl/\r.cl<=8:=by
 have h3:=(xD h).2.2.1
 unfold okD at h3
 simp only[Bool.and_eq_true,decide_eq_true_eq]at h3
 exact⟨h3.1.1.1,h3.1.1.2⟩
theorem WI (l:List Nat) (r:R) (p:List Nat) (hs:eP r=true) (hp:p.length<=64):tL [uN l r.cl p] [jh l r]=if tK p r.key then 0 else 21:=by
 obtain⟨h1,h2⟩:=Ce hs
 rw[qU,uE l _ p h1 h2,decide_eq_true hp]
 unfold mH
 rw[kF l r hs]
 show (if true=true then (match (if r.cl=r.cl then some (uN l r.cl p) else none) with|some g=>if tK g.pre r.key then xE g.pub (jh l r) else 21|none=>21) else 4)=_
 rw[if_pos rfl,if_pos rfl]
 have e:xE (jk (enc (zC l))) (jh l r)=0:=by
  unfold xE
  rw[kF l r hs,if_pos rfl,show BO (jk (enc (zC l))) (jh l r).sig (gB (jh l r))=true from Nc (IW _ _)]
  rfl
 show (if tK p r.key=true then xE (jk (enc (zC l))) (jh l r) else 21)=_
 rw[e]
theorem TQ (l:List Nat) (r:R) (p:List Nat) (hs:eP r=true) (hp:¬p.length<=64):tL [uN l r.cl p] [jh l r]=2:=by
 obtain⟨h1,h2⟩:=Ce hs
 rw[qU,uE l _ p h1 h2,decide_eq_false hp]
 rfl
theorem aac (l:List Nat) (r:R) (c:Int) (p:List Nat) (hs:eP r=true) (hp:p.length<=64) (h1:1<=c) (h2:c<=8) (hc:c≠r.cl):tL [uN l c p] [jh l r]=21:=by
 rw[qU,uE l _ p h1 h2,decide_eq_true hp]
 unfold mH
 rw[kF l r hs]
 show (if true=true then (match (if c=r.cl then some (uN l c p) else none) with|some g=>if tK g.pre r.key then xE g.pub (jh l r) else 21|none=>21) else 4)=_
 rw[if_pos rfl,if_neg hc]
end Gr
end
section
open Go.RowKit Ow Wi Ve Rc Sb
namespace Gr
def xK (w:World) (l:List Nat) (r:R) (e:Ending) (w':World):Prop:=∃q':L,e=.returned (.tuple #[q'.v (jh l r),.int .i64 0])/\w.grownBy w' none/\zF w' w.heap.size q' (jh l r)
theorem TR {w wq:World} {B base:Nat} {q:L} {r:R} (h:lD w B q r) (hg:w.grownBy wq none) {a1 a2:Option Addr} {c1 c2:Nat} (h1:mI wq base (.slice a1 q.n1 c1) q.n1 r.cx) (h2:wq.ownsRow base 5 1 (.slice a2 q.n2 c2) q.n2 (r.val.map dG)):
  lD wq wq.heap.size ⟨q.s,a1,q.n1,c1,a2,q.n2,c2,q.a3,q.n3,q.c3⟩ r:=by
 obtain⟨a',c',e3,hl1,_,hd⟩:=Jd h1
 simp only[Value.slice.injEq,true_and]at e3
 obtain⟨a5,c5,e5,_,hv,_⟩:=uz h2 h.val.byte
 simp only[Value.slice.injEq,true_and]at e5
 rw[<- e3.1]at hd
 rw[<- e5.1,<- e5.2]at hv
 exact⟨h.str,hl1,h.l2,h.l3,hd,hv,((h.sig.stay hg).up (Nat.le_trans h.sig.lim hg.size) (Nat.le_refl _)),h.top⟩
set_option maxHeartbeats 4000000 in
set_option maxRecDepth 100000 in
theorem Jg (l:List Nat) (r:R) (B cap Bs:Nat) (a:Option Addr) (w:World) (q:L) (hO:ko w) (hT:dH w) (hS:Tables w) (hl:l.length=32) (hP:BytesAt w Bs a cap l) (h:lD w B q r) (hs:eP r=true):
  Calls Tryz.prog 11 #[.slice a 32 cap,q.v r] w (xK w l r):=by
 have HTS:=Lib.hid (vO h hs)
 have HL:Hid (q.n1<=8/\q.n2<=2000):=by
  obtain⟨_,h2,_,h4,h5,_⟩:=xD hs
  have:=h4.len (by decide);have:=h.l1;have:=h.l2
  exact⟨by omega,by omega⟩
 have HSh:=Lib.hid (fun w' (hg:w.grownBy w' none)=>qX true r B w' q (h.stay hg) hs)
 have HD:=Lib.hid (fun w' (hg:w.grownBy w' none)=>Li B q.n1 q.c1 q.a1 r.cx w' h.l1 (by have:=HL.out.1;omega) (h.dots.stay hg))
 have HV:=Lib.hid (fun w' (hg:w.grownBy w' none)=>Lj B q.n2 q.c2 q.a2 r.val w' h.l2 (by have:=HL.out.2;omega) (h.val.stay hg))
 have HX:Hid (∀(wq w':World) (a1 a2:Option Addr) (c1 c2 base:Nat),w.grownBy wq none->mI wq base (.slice a1 q.n1 c1) q.n1 r.cx->wq.ownsRow base 5 1 (.slice a2 q.n2 c2) q.n2 (r.val.map dG)->wq.grownBy w' none->Calls Tryz.prog 27 #[(L.mk q.s a1 q.n1 c1 a2 q.n2 c2 q.a3 q.n3 q.c3).v r] w' (E8 w' (gB r))):=fun wq w' a1 a2 c1 c2 base hg h1 h2 hk=>
  (Ja r _ w' _ ((TR h hg h1 h2).stay hk) hs).mono fun _ _ ⟨_,he,hg,ho⟩=>he▸xI hg ho rfl HTS.out.2
 have HN:Hid (∀(w':World) (N aT:Nat) (bT:Option Addr),w.grownBy w' none->aF w' N 24 [.slice bT (gB r).length aT]->BytesAt w' w'.heap.size bT aT (gB r)->Calls Tryz.prog 26 #[.slice a 32 cap,.slice (some ⟨N,0,none⟩) 1 1] w' fun e w''=>∃(gs c:Nat),e=.returned (.slice (some ⟨gs,0,none⟩) 64 c)/\w'.grownBy w'' none/\w''.ownsRow w'.heap.size 5 1 (.slice (some ⟨gs,0,none⟩) 64 c) 64 ((Dz l (gB r)).map dG)):=fun w' N aT bT hg hb hB=>by
  have hj:joined [⟨bT,aT,gB r⟩]=gB r:=by simp[joined]
  have hv:=SY l cap Bs 1 1 w'.heap.size a (some ⟨N,0,none⟩) [⟨bT,aT,gB r⟩] w' (hO.kept hg (fun b e=>by cases e)) (hT.grown hg) (hS.kept hg (fun b e=>by cases e)) hl (Lib.hid (hP.stay hg)) rfl (Lib.hid (ER rfl hb hB)) (by decide) (by rw[hj];have:=HTS.out.1;omega)
  rw[hj]at hv
  exact hv.mono fun e w'' ⟨gs,c,he,hg2,_,ho⟩=>⟨gs,c,he,hg2,ho⟩
 have HK:=Lib.hid (And.intro h.str (And.intro h.val.byte h.top))
 have HB:Hid (∀i,(Dz l (gB r)).getD i 0<256):=Lib.hid (fun i=>EW l (gB r) i)
 obtain⟨Q,hQ⟩:∃Q,Q=xK w l r:=⟨_,rfl⟩
 rw[<- hQ]
 have HQ:=Lib.hid hQ;clear hQ h hs hO hT hS hl hP HL
 obtain⟨s,a1,n1,c1,a2,n2,c2,a3,n3,c3⟩:=q
 obtain⟨key,cl,sq,cx,g,val,sig⟩:=r
 obtain⟨T,hT⟩:∃T,T=gB ⟨key,cl,sq,cx,g,val,sig⟩:=⟨_,rfl⟩
 rw[<- hT]at HX HN HB
 have HT:=Lib.hid hT
 clear HTS hT
 try simp only at HD
 try simp only at HV
 try simp only at HK
 replace HSh:Hid (∀w' (_:w.grownBy w' none),Calls Tryz.prog 24 #[vV s cl sq a1 n1 c1 g a2 n2 c2 a3 n3 c3] w' fun e w''=>e=.returned (.bool true)/\w'.grownBy w'' none):=HSh
 show Calls _ _ #[.slice a 32 cap,vV s cl sq a1 n1 c1 g a2 n2 c2 a3 n3 c3] w _
 obtain⟨M,hM⟩:∃M,M=w.heap.size+1:=⟨_,rfl⟩
 obtain⟨K,hK⟩:∃K,K=w.heap.size+1+1:=⟨_,rfl⟩
 obtain⟨W1,hW1⟩:∃W1,W1=((w.alloc (.cells #[.string s,iV cl,iV sq,.slice a1 n1 c1,.bool g,.slice a2 n2 c2,.slice a3 n3 c3] 34)).alloc (.cells z7.toArray 34)).alloc (.cells #[.string s,iV cl,iV sq,.slice a1 n1 c1,.bool g,.slice a2 n2 c2,.slice a3 n3 c3] 56):=⟨_,rfl⟩
 have hG0:w.grownBy W1 none:=by rw[hW1];exact au (au (au (ah _ _) _) _) _
 have hB0:aF W1 M 34 z7:=by rw[hW1,hM,<- World.size_alloc];exact (aF.new _ _ _).alloc _
 have hB1:aF W1 K 56 [.string s,iV cl,iV sq,.slice a1 n1 c1,.bool g,.slice a2 n2 c2,.slice a3 n3 c3]:=by rw[hW1,hK,<- World.size_alloc,<- World.size_alloc];exact aF.new _ _ _
 have iA:=Lib.hid (And.intro hG0 (And.intro hB0 (And.intro hB1 (show w.heap.size<=M/\w.heap.size<=K/\M≠K by omega))));clear hG0 hB0 hB1
 unfold z7 tO iV at hW1
 go_enter Tryz.func11,Tryz.ntmps11
 go_wp2_with fail
 rw[<- hW1,<- hK,<- hM]
 clear hW1 hM hK
 refine (HSh.out _ iA.out.1).mono ?_
 rintro e W0 ⟨rfl,hg⟩
 have iw:=Lib.hid (And.intro (aj iA.out.1 hg) (And.intro (iA.out.2.1.gn hg) (And.intro (iA.out.2.2.1.gn hg) iA.out.2.2.2)));clear hg
 clear iA HSh W1
 go_upto_region 6 with fail
 refine Fg.tN [] [.any,.any,.any,.any,.any,.any,.any,.any,.any,.any,.any,.any,.any,.any,.any,.any,.any,.val (Value.pointer (some ⟨K,0,none⟩)),.val (Value.pointer (some ⟨K,3,none⟩)),.val (Value.slice a1 n1 c1),.own (W0.heap.size) 59 2 n1 (jw cx),.val (Value.pointer (some ⟨K,0,none⟩)),.val (Value.pointer (some ⟨K,5,none⟩)),.val (Value.slice a2 n2 c2),.own (W0.heap.size) 5 1 n2 (val.map dG),.val (Value.pointer (some ⟨K,0,none⟩)),.val (Value.pointer (some ⟨K,3,none⟩))] W0 10 (ah _ _) (by kernel_rfl) (by kernel_rfl) (by kernel_rfl) (by kernel_rfl) (by decide) (by kernel_rfl) ?_ ?_
 .refine⟨Fg.vT rfl (by decide) fun ac w h=>?_,?_⟩
  .have e6:_=Value.pointer (some ⟨K,0,none⟩):=h.r 6
   refine⟨Value.pointer (some ⟨K,0,none⟩),w,aB rfl,?_,ah _ _,rfl⟩
   clear h
   simp only[execOp,Act.eval,e6]
   go_simp
  refine⟨Fg.vT rfl (by decide) fun ac w h=>?_,?_⟩
  .have e17:_=Value.pointer (some ⟨K,0,none⟩):=h.d 17
   refine⟨Value.pointer (some ⟨K,3,none⟩),w,aB rfl,?_,ah _ _,rfl⟩
   clear h
   simp only[execOp,Act.eval,e17]
   go_simp
  refine⟨Fg.vT rfl (by decide) fun ac w h=>?_,?_⟩
  .have e18:_=Value.pointer (some ⟨K,3,none⟩):=h.d 18
   have m3:=((iw.out.2.2.1).grown h.base (by simp)).cell (i:=3) rfl
   refine⟨Value.slice a1 n1 c1,w,aB rfl,?_,ah _ _,rfl⟩
   clear h
   simp only[execOp,Act.eval,e18]
   go_simp
  refine⟨Fg.cT rfl (by decide) fun ac w h=>?_,?_⟩
  .have e19:_=Value.slice a1 n1 c1:=h.d 19
   refine⟨25,#[Value.slice a1 n1 c1],aB rfl,Fg.aN rfl rfl (by simp only[List.map_toArray,List.map_cons,List.map_nil,Act.eval,e19]) (Fg.aI Tryz.func25 (by kernel_rfl) (by kernel_rfl)),?_⟩
   exact (Je (HD.out w (aj iw.out.1 h.base)) h.base.size).mono fun _ _ ⟨v,he,hg,hb⟩=>⟨v,he,hg,hb⟩
  refine⟨Fg.vT rfl (by decide) fun ac w h=>?_,?_⟩
  .have e6:_=Value.pointer (some ⟨K,0,none⟩):=h.r 6
   refine⟨Value.pointer (some ⟨K,0,none⟩),w,aB rfl,?_,ah _ _,rfl⟩
   clear h
   simp only[execOp,Act.eval,e6]
   go_simp
  refine⟨Fg.vT rfl (by decide) fun ac w h=>?_,?_⟩
  .have e21:_=Value.pointer (some ⟨K,0,none⟩):=h.d 21
   refine⟨Value.pointer (some ⟨K,5,none⟩),w,aB rfl,?_,ah _ _,rfl⟩
   clear h
   simp only[execOp,Act.eval,e21]
   go_simp
  refine⟨Fg.vT rfl (by decide) fun ac w h=>?_,?_⟩
  .have e22:_=Value.pointer (some ⟨K,5,none⟩):=h.d 22
   have m5:=((iw.out.2.2.1).grown h.base (by simp)).cell (i:=5) rfl
   refine⟨Value.slice a2 n2 c2,w,aB rfl,?_,ah _ _,rfl⟩
   clear h
   simp only[execOp,Act.eval,e22]
   go_simp
  refine⟨Fg.cT rfl (by decide) fun ac w h=>?_,?_⟩
  .have e23:_=Value.slice a2 n2 c2:=h.d 23
   refine⟨23,#[Value.slice a2 n2 c2],aB rfl,Fg.aN rfl rfl (by simp only[List.map_toArray,List.map_cons,List.map_nil,Act.eval,e23]) (Fg.aI Tryz.func23 (by kernel_rfl) (by kernel_rfl)),?_⟩
   exact (Je (HV.out w (aj iw.out.1 h.base)) h.base.size).mono fun _ _ ⟨v,he,hg,hb⟩=>⟨v,he,hg,hb⟩
  refine⟨Fg.vT rfl (by decide) fun ac w h=>?_,?_⟩
  .have e6:_=Value.pointer (some ⟨K,0,none⟩):=h.r 6
   refine⟨Value.pointer (some ⟨K,0,none⟩),w,aB rfl,?_,ah _ _,rfl⟩
   clear h
   simp only[execOp,Act.eval,e6]
   go_simp
  refine⟨Fg.vT rfl (by decide) fun ac w h=>?_,?_⟩
  .have e25:_=Value.pointer (some ⟨K,0,none⟩):=h.d 25
   refine⟨Value.pointer (some ⟨K,3,none⟩),w,aB rfl,?_,ah _ _,rfl⟩
   clear h
   simp only[execOp,Act.eval,e25]
   go_simp
  trivial
 .intro aq wq hB hsz hdf hrest aC hpt
  obtain⟨⟨u1,e1⟩,⟨u3,e3⟩,⟨u7,e7⟩,⟨u8,e8⟩,⟨u9,e9⟩,⟨u11,e11⟩,⟨u12,e12⟩,⟨u13,e13⟩,⟨u14,e14⟩,⟨u15,e15⟩,⟨u17,e17⟩,⟨u18,e18⟩,⟨u19,e19⟩,_⟩:=Fg.bn aq [1,3,7,8,9,11,12,13,14,15,17,18,19]
  obtain⟨v20,e20,b20⟩:∃v,aq.tmps.getD 20 undef=v/\wq.ownsRow (W0.heap.size) 59 2 v n1 (jw cx):=aC 20 (by kernel_rfl)
  obtain⟨⟨u21,e21⟩,⟨u22,e22⟩,⟨u23,e23⟩,_⟩:=Fg.bn aq [21,22,23]
  obtain⟨v24,e24,b24⟩:∃v,aq.tmps.getD 24 undef=v/\wq.ownsRow (W0.heap.size) 5 1 v n2 (val.map dG):=aC 24 (by kernel_rfl)
  have e25:aq.tmps.getD 25 undef=Value.pointer (some ⟨K,0,none⟩):=aC 25 (by kernel_rfl)
  have e26:aq.tmps.getD 26 undef=Value.pointer (some ⟨K,3,none⟩):=aC 26 (by kernel_rfl)
  obtain rfl:=Fg.aP [1,3,7,8,9,11,12,13,14,15,17,18,19,20,21,22,23,24,25,26] (vs:=[_,u1,_,u3,_,_,_,u7,u8,u9,_,u11,u12,u13,u14,u15,_,u17,u18,u19,v20,u21,u22,u23,v24,Value.pointer (some ⟨K,0,none⟩),Value.pointer (some ⟨K,3,none⟩),_,_,_,_,_,_,_,_,_,_,_]) hsz hrest (by kernel_rfl) rfl rfl ⟨e1,e3,e7,e8,e9,e11,e12,e13,e14,e15,e17,e18,e19,e20,e21,e22,e23,e24,e25,e26,trivial⟩ hdf
  clear hsz hdf hrest aC hpt e1 e3 e7 e8 e9 e11 e12 e13 e14 e15 e17 e18 e19 e20 e21 e22 e23 e24 e25 e26
  obtain⟨x1,y1,rfl⟩:=Cc b20
  obtain⟨x2,y2,rfl⟩:=tQ b24
  have bM:=iw.out.2.1.gn hB
  have bK:=iw.out.2.2.1.gn hB
  have HX1:=Lib.hid (And.intro hB (And.intro bM (And.intro bK (And.intro b20 b24))))
  have c3':=bK.cell (i:=3) rfl
  have f3:=bK.free 3
  have c5':=bK.cell (i:=5) rfl
  have f5:=bK.free 5
  clear bM bK hB b20 b24
  go_upto_region 7 with fail
  clear c3' f3 c5' f5
  obtain⟨hB,bM,bK,b1,b2⟩:=HX1.out
  obtain⟨_,_,_,hwM,hwK,hMK⟩:=iw.out
  have kg:=aj iw.out.1 hB
  have q1:=aQ (ah wq (some K)) 3 (.slice x1 n1 y1)
  replace b1:=bZ b1 bK (by decide) q1
  replace b2:=bZ b2 bK (by decide) q1
  replace bM:=bM.other (a:=⟨K,3,none⟩) (fun e=>hMK e.symm) (.slice x1 n1 y1)
  replace kg:=aJ kg (p:=⟨K,3,none⟩) hwK (.slice x1 n1 y1)
  replace bK:=bK.set 3 (.slice x1 n1 y1)
  generalize wq.setCell ⟨K,3,none⟩ (.slice x1 n1 y1)=wa at *
  have q2:=aQ (ah wa (some K)) 5 (.slice x2 n2 y2)
  replace b1:=bZ b1 bK (by decide) q2
  replace b2:=bZ b2 bK (by decide) q2
  replace bM:=bM.other (a:=⟨K,5,none⟩) (fun e=>hMK e.symm) (.slice x2 n2 y2)
  replace kg:=aJ kg (p:=⟨K,5,none⟩) hwK (.slice x2 n2 y2)
  replace bK:aF (wa.setCell ⟨K,5,none⟩ (.slice x2 n2 y2)) K 56 [.string s,iV cl,iV sq,.slice x1 n1 y1,.bool g,.slice x2 n2 y2,.slice a3 n3 c3]:=bK.set 5 (.slice x2 n2 y2)
  generalize wa.setCell ⟨K,5,none⟩ (.slice x2 n2 y2)=wb at *
  have HY:=Lib.hid (And.intro kg (And.intro bM (And.intro bK (And.intro b1 b2))))
  clear HX1 q1 q2
  have x0:=bK.cell (i:=0) rfl
  have x1':=bK.cell (i:=1) rfl
  have x2':=bK.cell (i:=2) rfl
  have x3:=bK.cell (i:=3) rfl
  have x4:=bK.cell (i:=4) rfl
  have x5:=bK.cell (i:=5) rfl
  have x6:=bK.cell (i:=6) rfl
  clear hB bM bK b1 b2 kg hwM hwK hMK
  go_wp2_with fail
  clear x0 x1' x2' x3 x4 x5 x6
  obtain⟨kg,bM,bK,b1,b2⟩:=HY.out
  refine (HX.out wb wb x1 x2 y1 y2 _ kg b1 b2 (ah _ _)).mono ?_
  rintro e wc ⟨aT,cT,rfl,hg,hBT⟩
  have ga:=au (ah wc none) (.cells #[.slice aT T.length cT] 24)
  have h2:=aj hg ga
  have HZ:=Lib.hid (And.intro (aj kg h2) (And.intro (aF.new wc [.slice aT T.length cT] 24) (And.intro (hBT.stay ga).full (And.intro (bM.gn h2) (And.intro (bK.gn h2) (And.intro (b1.kept h2 (by cases (Value.slice x1 n1 y1).ownBlock<;>simp)) (sj b2 h2)))))))
  clear hg ga h2 hBT kg bM bK b1 b2 HY HX
  go_wp2_with fail
  refine (HN.out _ wc.heap.size cT aT HZ.out.1 HZ.out.2.1 HZ.out.2.2.1).mono ?_
  rintro e wd ⟨gs,c,rfl,hg,ho⟩
  obtain⟨kg,_,_,bM,bK,b1,b2⟩:=HZ.out
  have b3:=jR ho (Nat.le_refl _)
  have HU:=Lib.hid (And.intro (aj kg hg) (And.intro (bM.gn hg) (And.intro (bK.gn hg) (And.intro (b1.kept hg (by cases (Value.slice x1 n1 y1).ownBlock<;>simp)) (And.intro (sj b2 hg) (jR ho kg.size))))))
  clear HZ HN kg bM bK b1 b2 b3 hg ho
  have c6':=HU.out.2.2.1.cell (i:=6) rfl
  have f6':=HU.out.2.2.1.free 6
  go_upto_region 8 with fail
  clear c6' f6'
  obtain⟨kg,bM,bK,b1,b2,b3⟩:=HU.out
  obtain⟨_,_,_,hwM,hwK,hMK⟩:=iw.out
  have q3:=aQ (ah wd (some K)) 6 (.slice (some ⟨gs,0,none⟩) 64 c)
  replace b1:=bZ b1 bK (by decide) q3
  replace b2:=bZ b2 bK (by decide) q3
  replace b3:=bZ b3 bK (by decide) q3
  replace bM:=bM.other (a:=⟨K,6,none⟩) (fun e=>hMK e.symm) (.slice (some ⟨gs,0,none⟩) 64 c)
  replace kg:=aJ kg (p:=⟨K,6,none⟩) hwK (.slice (some ⟨gs,0,none⟩) 64 c)
  replace bK:aF (wd.setCell ⟨K,6,none⟩ (.slice (some ⟨gs,0,none⟩) 64 c)) K 56 [.string s,iV cl,iV sq,.slice x1 n1 y1,.bool g,.slice x2 n2 y2,.slice (some ⟨gs,0,none⟩) 64 c]:=bK.set 6 (.slice (some ⟨gs,0,none⟩) 64 c)
  generalize wd.setCell ⟨K,6,none⟩ (.slice (some ⟨gs,0,none⟩) 64 c)=w6 at *
  have HV2:=Lib.hid (And.intro kg (And.intro bM (And.intro b1 (And.intro b2 (And.intro b3 hwM)))))
  have z0:=bK.cell (i:=0) rfl
  have z1:=bK.cell (i:=1) rfl
  have z2:=bK.cell (i:=2) rfl
  have z3:=bK.cell (i:=3) rfl
  have z4:=bK.cell (i:=4) rfl
  have z5:=bK.cell (i:=5) rfl
  have z6:=bK.cell (i:=6) rfl
  have t0:=bM.cell (i:=0) rfl
  have f0:=bM.free 0
  have t1:=bM.cell (i:=1) rfl
  have f1:=bM.free 1
  have t2:=bM.cell (i:=2) rfl
  have f2:=bM.free 2
  have t3:=bM.cell (i:=3) rfl
  have f3:=bM.free 3
  have t4:=bM.cell (i:=4) rfl
  have f4:=bM.free 4
  have t5:=bM.cell (i:=5) rfl
  have f5:=bM.free 5
  have t6:=bM.cell (i:=6) rfl
  have f6:=bM.free 6
  clear kg bM bK b1 b2 b3 q3 hwM hwK hMK
  go_wp2_with fail
  obtain⟨kg,hm,b1,b2,b3,hMw⟩:=HV2.out
  have Ni:=aQ (aQ (aQ (aQ (aQ (aQ (aQ (ah w6 (some M)) 0 (.string s)) 1 (.int .i64 cl)) 2 (.int .i64 sq)) 3 (.slice x1 n1 y1)) 4 (.bool g)) 5 (.slice x2 n2 y2)) 6 (.slice (some ⟨gs,0,none⟩) 64 c)
  have Fq:=((((((hm.set 0 (.string s)).set 1 (.int .i64 cl)).set 2 (.int .i64 sq)).set 3 (.slice x1 n1 y1)).set 4 (.bool g)).set 5 (.slice x2 n2 y2)).set 6 (.slice (some ⟨gs,0,none⟩) 64 c)
  refine bodyPost_ret (v:=.tuple #[.agg #[.string s,.int .i64 cl,.int .i64 sq,.slice x1 n1 y1,.bool g,.slice x2 n2 y2,.slice (some ⟨gs,0,none⟩) 64 c],.int .i64 0]) (Fg.mJ Tryz.results11 _ _ M 34 _ (0,0) _ rfl Fq Tryz.underlying34 rfl qy rfl) rfl ?_
  rw[HQ.out]
  have hT:=HT.out
  subst hT
  exact⟨⟨s,x1,n1,y1,x2,n2,y2,some ⟨gs,0,none⟩,64,c⟩,rfl,aW kg Ni hMw,HK.out.1,jR (bZ b1 hm (by decide) Ni) iw.out.1.size,jR (bZ b2 hm (by decide) Ni) iw.out.1.size,bZ b3 hm (by decide) Ni,HK.out.2.1,HB.out,HK.out.2.2⟩
end Gr
end
section
open Go.RowKit Ow Wi Ve Rc Ed
namespace Gr
theorem TS {c:Nat} (h:c<256) (i:Nat):(Jf c).getD i 0<256:=by
 rcases i with _|i
 .exact h
 .show (List.replicate 31 0).getD i 0<256
  rw[List.getD_eq_getElem?_getD,List.getElem?_replicate]
  split<;>simp
set_option maxHeartbeats 1000000 in
set_option maxRecDepth 100000 in
theorem Cg (c:Nat) (w:World):Calls Tryz.prog 31 #[.int .u8 (c:Int)] w fun e w'=>∃g:Nat,e=.returned (.slice (some ⟨g,0,none⟩) 32 32)/\w.grownBy w' none/\w.heap.size<=g/\aF w' g 5 ((Jf c).map dG):=by
 obtain⟨N,hN⟩:∃N,N=w.heap.size:=⟨_,rfl⟩
 obtain⟨w1,hmk,hg1,hs1,hb1⟩:=AB 32 32 w (Nat.le_refl _) (by omega)
 have hmk':(Instr.makeSlice 24 (.int .i64 32) (.int .i64 32)).run Tryz.prog w=.ok (.slice (some ⟨w.heap.size,0,none⟩) 32 32) w1:=hmk
 rw[<- hN]at hmk' hb1
 have k0:=hb1.cell (i:=0) rfl
 have f0:=hb1.free 0
 have HS:=Lib.hid (And.intro (aJ hg1 (p:=⟨N,0,none⟩) (by rw[hN];exact Nat.le_refl _) (dG c)) (And.intro (show w.heap.size<=N by omega) (show aF (w1.setCell ⟨N,0,none⟩ (dG c)) N 5 ((Jf c).map dG) from hb1.set 0 (dG c))));clear hg1 hb1 hmk hs1 hN
 go_enter Tryz.func31,Tryz.ntmps31
 go_wp2_with (fail)
 go_ret
 exact⟨N,rfl,HS.out⟩
theorem q8 (w:World):BytesAt w w.heap.size none 0 []:=⟨Nat.le_refl _,Nat.le_refl _,by decide,fun i=>by simp,Or.inl rfl⟩
theorem WJ (s:ByteArray) (c:Int) (w:World):lD w w.heap.size ⟨s,none,0,0,none,0,0,none,0,0⟩ (Lm (bQ s) c):=
 ⟨rfl,rfl,rfl,rfl,⟨Nat.le_refl _,Or.inl rfl⟩,q8 w,q8 w,show 0<9223372036854775808 by decide⟩
theorem ZM {w:World} {b b':Nat} {q:L} {r:R} (h:zF w b q r) (hb:b'<=b):zF w b' q r:=
 ⟨h.str,jR h.dots hb,jR h.val hb,jR h.sig hb,h.vb,h.sb,h.top⟩
set_option maxHeartbeats 4000000 in
set_option maxRecDepth 100000 in
theorem vP (s:ByteArray) (c:Nat) (w:World) (hO:ko w) (hT:dH w) (hS:Tables w) (hc:c<256) (hs:eP (Lm (bQ s) c)=true):
  Calls Tryz.prog 16 #[.string s,.int .i64 (c:Int)] w (TL w (iH (bQ s) c)):=by
 have HSe:=Lib.hid (Cg c)
 have Nk:Hid (∀(w':World) (g:Nat),w.grownBy w' none->aF w' g 5 ((Jf c).map dG)->Calls Tryz.prog 11 #[.slice (some ⟨g,0,none⟩) 32 32,vV s c 1 none 0 0 false none 0 0 none 0 0] w' (xK w' (Jf c) (Lm (bQ s) c))):=fun w' g hg hb=>
  Jg (Jf c) (Lm (bQ s) c) w'.heap.size 32 w'.heap.size (some ⟨g,0,none⟩) w' ⟨s,none,0,0,none,0,0,none,0,0⟩ (hO.kept hg (fun b e=>by cases e)) (hT.grown hg) (hS.kept hg (fun b e=>by cases e)) rfl (BJ hb rfl (TS hc)) (WJ s c w') hs
 clear hO hT hS hs
 have i0:(c:Int)%256=c:=by omega
 obtain⟨W0,hW0⟩:∃W0,W0=w.alloc (.cells z7.toArray 34):=⟨_,rfl⟩
 have hG0:w.grownBy W0 none:=by rw[hW0];exact au (ah _ _) _
 have hB0:aF W0 w.heap.size 34 z7:=by rw[hW0];exact aF.new _ _ _
 have iA:=Lib.hid (And.intro hG0 hB0);clear hG0 hB0
 unfold z7 tO at hW0
 go_enter Tryz.func16,Tryz.ntmps16
 go_wp2_with fail
 rw[<- hW0]
 clear hW0 i0
 refine (HSe.out W0).mono ?_
 rintro e w1 ⟨g,rfl,hg,_,hb⟩
 have iw:=Lib.hid (And.intro (aj iA.out.1 hg) (And.intro (iA.out.2.grown hg (by simp)) hb));clear hg hb iA
 go_wp2_with fail
 refine (Nk.out _ g iw.out.1 iw.out.2.2).mono ?_
 intro e w2 h
 obtain⟨⟨s',a1,n1,c1,a2,n2,c2,a3,n3,c3⟩,he,hg,ho⟩:=h
 obtain rfl:e=.returned (.tuple #[vV s' c 1 a1 n1 c1 false a2 n2 c2 a3 n3 c3,.int .i64 0]):=he
 have bM:=iw.out.2.1.grown hg (by simp)
 obtain⟨W2,hW2⟩:∃W2,W2=w2.alloc (.cells #[.string s',.int .i64 (c:Int),.int .i64 1,.slice a1 n1 c1,.bool false,.slice a2 n2 c2,.slice a3 n3 c3] 34):=⟨_,rfl⟩
 have ga:=au (ah w2 none) (.cells #[.string s',.int .i64 (c:Int),.int .i64 1,.slice a1 n1 c1,.bool false,.slice a2 n2 c2,.slice a3 n3 c3] 34)
 rw[<- hW2]at ga
 have bR:aF W2 w2.heap.size 34 [.string s',.int .i64 (c:Int),.int .i64 1,.slice a1 n1 c1,.bool false,.slice a2 n2 c2,.slice a3 n3 c3]:=by rw[hW2];exact aF.new _ _ _
 replace bM:=bM.grown ga (by simp)
 have HG2:=Lib.hid (And.intro (aj (aj iw.out.1 hg) ga) (And.intro bM (ZM (ho.stay ga) iw.out.1.size)));clear hg ho iw Nk HSe ga
 go_upto_region 2 with fail
 rw[<- hW2]
 clear hW2
 have r0:=bR.cell (i:=0) rfl
 have r1:=bR.cell (i:=1) rfl
 have r2:=bR.cell (i:=2) rfl
 have r3:=bR.cell (i:=3) rfl
 have r4:=bR.cell (i:=4) rfl
 have r5:=bR.cell (i:=5) rfl
 have r6:=bR.cell (i:=6) rfl
 have y0:=bM.cell (i:=0) rfl
 have g0:=bM.free 0
 have y1:=bM.cell (i:=1) rfl
 have g1:=bM.free 1
 have y2:=bM.cell (i:=2) rfl
 have g2:=bM.free 2
 have y3:=bM.cell (i:=3) rfl
 have g3:=bM.free 3
 have y4:=bM.cell (i:=4) rfl
 have g4:=bM.free 4
 have y5:=bM.cell (i:=5) rfl
 have g5:=bM.free 5
 have y6:=bM.cell (i:=6) rfl
 have g6:=bM.free 6
 clear bM bR
 go_wp2_with fail
 obtain⟨kg,hm,ho⟩:=HG2.out
 have Ni:=aQ (aQ (aQ (aQ (aQ (aQ (aQ (ah W2 (some w.heap.size)) 0 (.string s')) 1 (.int .i64 (c:Int))) 2 (.int .i64 1)) 3 (.slice a1 n1 c1)) 4 (.bool false)) 5 (.slice a2 n2 c2)) 6 (.slice a3 n3 c3)
 have Fq:=((((((hm.set 0 (.string s')).set 1 (.int .i64 (c:Int))).set 2 (.int .i64 1)).set 3 (.slice a1 n1 c1)).set 4 (.bool false)).set 5 (.slice a2 n2 c2)).set 6 (.slice a3 n3 c3)
 refine bodyPost_ret (v:=vV s' c 1 a1 n1 c1 false a2 n2 c2 a3 n3 c3) (results_cell_row Tryz.results16 _ _ w.heap.size 34 _ (0,0) _ rfl Fq Tryz.underlying34 rfl qy) rfl ?_
 exact⟨⟨s',a1,n1,c1,a2,n2,c2,a3,n3,c3⟩,rfl,aW kg Ni (Nat.le_refl _),ho.other hm (by decide) (by decide) Ni⟩
end Gr
end
section
open Go.RowKit Ow Wi Ve Rc
namespace Gr
structure GL where
 a:Option Addr
 n:Nat
 c:Nat
 s:ByteArray
abbrev GE:=GL×G
abbrev g0:GE:=(⟨none,0,0,⟨#[]⟩⟩,⟨0,[],[]⟩)
def gC (x:GE):List Value:=[iV x.2.cl,.slice x.1.a x.1.n x.1.c,.string x.1.s]
def gV (x:GE):Value:=.agg (gC x).toArray
structure ZN (w:World) (B:Nat) (x:GE):Prop where
 str:bQ x.1.s=x.2.pre
 len:x.2.pub.length=x.1.n
 pub:BytesAt w B x.1.a x.1.c x.2.pub
theorem ZN.kept {w w':World} {B:Nat} {x:GE} (h:ZN w B x) {row:Option Nat} (hg:w.grownBy w' row) (hr:∀r,row=some r->B<=r):ZN w' B x:=⟨h.str,h.len,h.pub.kept hg hr⟩
structure iJ (w:World) (B:Nat) (a:Option Addr) (l:List GE):Prop where
 lim:B<=w.heap.size
 each:∀x∈l,ZN w B x
 cells:l.length=0\/∃pb po,a=some ⟨pb,po,none⟩/\pb<B/\∀i,i<l.length->∀j v,(gC (l.getD i g0))[j]?=some v->w.cell? ⟨pb,po+i*3+j,none⟩=some v
theorem iJ.kept {w w':World} {B:Nat} {a:Option Addr} {l:List GE} (h:iJ w B a l) {row:Option Nat} (hg:w.grownBy w' row) (hr:∀x,row=some x->B<=x):iJ w' B a l:=by
 refine⟨Nat.le_trans h.lim hg.size,fun x hx=>(h.each x hx).kept hg hr,?_⟩
 rcases h.cells with h0 |⟨pb,po,ha,hlt,hc⟩
 .exact Or.inl h0
 .exact Or.inr ⟨pb,po,ha,hlt,fun i hi j v hv=>by
   rw[aZ hg (p:=⟨pb,po+i*3+j,none⟩) (Nat.lt_of_lt_of_le hlt h.lim) (fun e=>by have:=hr _ e.symm;simp at this;omega)]
   exact hc i hi j v hv⟩
theorem iJ.stay {w w':World} {B:Nat} {a:Option Addr} {l:List GE} (h:iJ w B a l) (hg:w.grownBy w' none):iJ w' B a l:=h.kept hg (fun r e=>by cases e)
theorem iJ.at {w:World} {B:Nat} {a:Option Addr} {l:List GE} (h:iJ w B a l) (h0:0<l.length):∃pb po,a=some ⟨pb,po,none⟩/\pb<w.heap.size/\∀i,i<l.length->w.cell? ⟨pb,po+i*3,none⟩=some (iV (l.getD i g0).2.cl)/\w.cell? ⟨pb,po+i*3+1,none⟩=some (.slice (l.getD i g0).1.a (l.getD i g0).1.n (l.getD i g0).1.c)/\w.cell? ⟨pb,po+i*3+2,none⟩=some (.string (l.getD i g0).1.s):=by
 obtain⟨pb,po,e,hlt,hc⟩:=h.cells.resolve_left (by omega)
 exact⟨pb,po,e,Nat.lt_of_lt_of_le hlt h.lim,fun i hi=>⟨hc i hi 0 _ rfl,hc i hi 1 _ rfl,hc i hi 2 _ rfl⟩⟩
theorem iJ.mem {w:World} {B:Nat} {a:Option Addr} {l:List GE} (h:iJ w B a l) (i:Nat) (hi:i<l.length):ZN w B (l.getD i g0):=
 h.each _ (by rw[List.getD_eq_getElem?_getD,List.getElem?_eq_getElem hi];exact List.getElem_mem hi)
theorem xL {w:World} {N:Nat} {T:TypeId} {l:List GE} (hb:aF w N T (l.flatMap gC)) (h:∀x∈l,ZN w w.heap.size x):iJ w w.heap.size (some ⟨N,0,none⟩) l:=by
 refine⟨Nat.le_refl _,h,Or.inr ⟨N,0,rfl,hb.lt,fun i hi j v hv=>?_⟩⟩
 rw[Nat.zero_add]
 apply hb.cell
 have hj:j<3:=by
  rcases Nat.lt_or_ge j 3 with h|h
  .exact h
  .rw[List.getElem?_eq_none (by simp[gC];omega)]at hv;cases hv
 clear h hb
 induction l generalizing i with
 | nil=>simp at hi
 | cons x l ih=>
  cases i with
  | zero=>
   rw[List.flatMap_cons,Nat.zero_mul,Nat.zero_add,List.getElem?_append_left (by simp[gC];omega)]
   exact hv
  | succ i=>
   rw[List.flatMap_cons,List.getElem?_append_right (by simp[gC];omega)]
   have e:(i+1)*3+j-(gC x).length=i*3+j:=by simp[gC];omega
   rw[e]
   exact ih i (by simpa using hi) hv
end Gr
end
section
open Go.RowKit Ow Wi Ve Rc
namespace Gr
def lF:List GE->Int->Option GE
 | [],_=>none
 | x:: l,c=>if x.2.cl=c then some x else lF l c
theorem TT (l:List GE) (c:Int):Na (l.map (·.2)) c=(lF l c).map (·.2):=by
 induction l with
 | nil=>rfl
 | cons x l ih=>
  show (if x.2.cl=c then some x.2 else Na (l.map (·.2)) c)=Option.map (·.2) (if x.2.cl=c then some x else lF l c)
  split
  .rfl
  .exact ih
theorem Pv (l:List GE) (k:Nat) (c:Int) (h:k<l.length):lF (l.drop k) c=if (l.getD k g0).2.cl=c then some (l.getD k g0) else lF (l.drop (k+1)) c:=by
 rw[List.drop_eq_getElem_cons h,List.getD_eq_getElem?_getD,List.getElem?_eq_getElem h]
 rfl
theorem TU {l:List GE} {c:Int} {x:GE} (h:lF l c=some x):x∈l/\x.2.cl=c:=by
 induction l with
 | nil=>cases h
 | cons y l ih=>
  have h':(if y.2.cl=c then some y else lF l c)=some x:=h
  split at h'
  .rename_i hc
   cases h'
   exact⟨List.mem_cons_self ..,hc⟩
  .exact⟨List.mem_cons_of_mem _ (ih h').1,(ih h').2⟩
abbrev vG (cl:Int) (a:Option Addr) (n c:Nat) (s:ByteArray):Value:=.agg #[.int .i64 cl,.slice a n c,.string s]
abbrev zG:Value:=vG 0 none 0 0 ⟨#[]⟩
set_option maxHeartbeats 1000000 in
theorem TV (cl c:Int) (a:Option Addr) (n cp:Nat) (s:ByteArray) (Bc:Nat) (w:World) (hc:w.cell? ⟨Bc,0,none⟩=some (.int .i64 c)):
  Calls Tryz.prog 38 #[vG cl a n cp s,.pointer (some ⟨Bc,0,none⟩)] w fun e w'=>e=.returned (.bool (cl==c))/\w.grownBy w' none:=by
 have hlt:=block_lt_of_cell hc
 have hne:Bc≠w.heap.size:=by simp at hlt;omega
 go_enter Tryz.func38,Tryz.ntmps38
 go_wp2
 go_ret
 exact⟨rfl,au (ah _ _) _⟩
set_option maxHeartbeats 2000000 in
set_option maxRecDepth 100000 in
theorem Px (n cap B Bc:Nat) (a:Option Addr) (c:Int) (l:List GE) (w:World) (hl:l.length=n) (hn:n<=1000000) (hL:iJ w B a l) (hc:w.cell? ⟨Bc,0,none⟩=some (.int .i64 c)):
  Calls Tryz.prog 37 #[.slice a n cap,.func (.func 38) #[] #[.pointer (some ⟨Bc,0,none⟩)]] w fun e w'=>∃j:Int,e=.returned (.int .i64 j)/\w.grownBy w' none/\((j=-1/\lF l c=none)\/∃k:Nat,k<n/\j=k/\lF l c=some (l.getD k g0)):=by
 have hlt:=block_lt_of_cell hc
 have HL:Hid (l.length=n/\(∀w',w.grownBy w' none->iJ w' B a l)/\∀w',w.grownBy w' none->w'.cell? ⟨Bc,0,none⟩=some (.int .i64 c)):=⟨hl,fun w' hg=>hL.stay hg,fun w' hg=>(aZ hg hlt (by simp)).trans hc⟩
 clear hl hL hc hlt
 go_enter Tryz.func37,Tryz.ntmps37
 go_wp2_with fail
 go_loopw [8] (fun i wr=>∃k:Nat,k<=n/\i=.int .i64 k/\w.grownBy wr none/\lF l c=lF (l.drop k) c) (fun i _=>n-(intOf i).toNat)
 case atStart=>exact⟨0,by omega,rfl,ah _ _,rfl⟩
 case round=>
  obtain⟨k,hk,rfl,hg,hf⟩:=hrel
  by_cases hlt:k<n
  .have hR:=HL.out.2.1 wr hg
   obtain⟨pb,po,rfl,hpb,hcc⟩:=hR.at (by have:=HL.out.1;omega)
   obtain⟨c0,c1,c2⟩:=hcc k (by have:=HL.out.1;omega)
   rw[Pv l k c (by have:=HL.out.1;omega)]at hf
   have i0:(k:Int)<(n:Int):=by omega
   have HC:=Lib.hid (fun (cl:Int) (a:Option Addr) (n cp:Nat) (s:ByteArray)=>TV cl c a n cp s Bc wr (HL.out.2.2 wr hg))
   have HI:=Lib.hid (And.intro hg hf)
   clear hg hf hR hcc
   unfold iV at c0
   obtain⟨x,hx⟩:∃x,x=l.getD k g0:=⟨_,rfl⟩
   rw[<- hx]at c0 c1 c2 HI
   have HX:=Lib.hid hx;clear hx
   generalize hgc:x.2.cl=gc at *
   generalize x.1.a=ga at *
   generalize x.1.n=gn at *
   generalize x.1.c=gp at *
   generalize x.1.s=gs at *
   clear hgc
   go_wp2_with fail
   refine (HC.out gc ga gn gp gs).mono ?_
   rintro e w1 ⟨rfl,hg1⟩
   have HG:=Lib.hid (aj HI.out.1 hg1);clear hg1
   by_cases hcl:gc=c
   .have hq:(gc==c)=true:=by simpa using hcl
    rw[hq]
    have h2:=HI.out.2
    rw[if_pos hcl]at h2
    have HE:=Lib.hid h2
    clear hcl hq h2 HI
    go_wp2
    go_ret
    exact⟨(k:Int),rfl,HG.out,Or.inr ⟨k,hlt,rfl,by rw[HE.out,HX.out]⟩⟩
   .have hq:(gc==c)=false:=by simpa using hcl
    rw[hq]
    have h2:=HI.out.2
    rw[if_neg hcl]at h2
    have HE:=Lib.hid h2
    clear hcl hq h2 HI
    go_wp2
    go_roundw
    case rel=>exact⟨k+1,by omega,by go_num,HG.out,HE.out⟩
    case measure=>simp[intOf];omega
  .obtain rfl:k=n:=by omega
   have hf2:lF l c=none:=by rw[hf,List.drop_eq_nil_of_le (by have:=HL.out.1;omega)];rfl
   have HI:=Lib.hid (And.intro hg hf2);clear hg hf hf2
   go_wp2
   go_ret
   exact⟨-1,rfl,HI.out.1,Or.inl ⟨rfl,HI.out.2⟩⟩
theorem DU:(Tryz.prog.info? 26).map (·.size)=some 3:=by kernel_rfl
def fV:Option GE->Value
 | none=>zG
 | some x=>gV x
set_option maxHeartbeats 2000000 in
set_option maxRecDepth 100000 in
theorem DV (n cap B:Nat) (a:Option Addr) (c:Int) (l:List GE) (w:World) (hl:l.length=n) (hn:n<=1000000) (hL:iJ w B a l):
  Calls Tryz.prog 22 #[.slice a n cap,.int .i64 c] w fun e w'=>e=.returned (.tuple #[fV (lF l c),.bool (lF l c).isSome])/\w.grownBy w' none:=by
 obtain⟨W0,hW0⟩:∃W0,W0=(w.alloc (.cells #[.int .i64 c] 3)).alloc (.cells #[.int .i64 0,.slice none 0 0,.string ⟨#[]⟩] 26):=⟨_,rfl⟩
 obtain⟨N,hN⟩:∃N,N=w.heap.size:=⟨_,rfl⟩
 have hG0:w.grownBy W0 none:=by rw[hW0];exact au (au (ah _ _) _) _
 have hBc:aF W0 N 3 [.int .i64 c]:=by rw[hW0,hN];exact (aF.new w [.int .i64 c] _).alloc _
 have hB0:aF W0 (N+1) 26 [.int .i64 0,.slice none 0 0,.string ⟨#[]⟩]:=by rw[hW0,hN,<- World.size_alloc w (.cells #[.int .i64 c] 3)];exact aF.new _ _ _
 have HX:=Lib.hid (Px n cap B N a c l W0 hl hn (hL.stay hG0) (hBc.cell rfl))
 have HL:Hid (l.length=n/\∀w',w.grownBy w' none->iJ w' B a l):=⟨hl,fun w' hg=>hL.stay hg⟩
 obtain⟨fo,hfo⟩:∃fo,fo=lF l c:=⟨_,rfl⟩
 rw[<- hfo]at HX ⊢
 clear hfo
 have iA:=Lib.hid (And.intro hG0 hB0);clear hG0 hBc hB0 hl hL
 go_enter Tryz.func22,Tryz.ntmps22
 go_wp2_with fail
 rw[<- hW0,<- hN]
 clear hW0
 refine HX.out.mono ?_
 intro e w1 h
 obtain⟨j,rfl,hg1,hj⟩:=h
 rcases hj with⟨rfl,rfl⟩ |⟨k,hk,rfl,rfl⟩
 .have hb:=iA.out.2.grown hg1 (by simp)
  have c0:=hb.cell (i:=0) rfl
  have c1:=hb.cell (i:=1) rfl
  have c2:=hb.cell (i:=2) rfl
  have f0:=hb.free 0
  have f1:=hb.free 1
  have f2:=hb.free 2
  have h3:=((hb.set 0 (.int .i64 0)).set 1 (.slice none 0 0)).set 2 (.string ⟨#[]⟩)
  have hlo:w.heap.size<=N+1:=by rw[hN];omega
  have g3:=aJ (aJ (aJ (aj iA.out.1 hg1) (p:=⟨N+1,0,none⟩) hlo (.int .i64 0)) (p:=⟨N+1,1,none⟩) hlo (.slice none 0 0)) (p:=⟨N+1,2,none⟩) hlo (.string ⟨#[]⟩)
  have HG:=Lib.hid (And.intro g3 h3);clear hg1 hb HX h3 g3 hN
  go_wp2
  exact bodyPost_ret (v:=.tuple #[zG,.bool false]) (Fg.mJ Tryz.results22 _ _ (N+1) 26 _ (0,0) _ rfl HG.out.2 Tryz.underlying26 rfl DU rfl) rfl ⟨rfl,HG.out.1⟩
 .have hb:=iA.out.2.grown hg1 (by simp)
  have hR:=HL.out.2 w1 (aj iA.out.1 hg1)
  obtain⟨pb,po,rfl,hpb,hcc⟩:=hR.at (by have:=HL.out.1;omega)
  obtain⟨d0,d1,d2⟩:=hcc k (by have:=HL.out.1;omega)
  obtain⟨x,hx⟩:∃x,x=l.getD k g0:=⟨_,rfl⟩
  rw[<- hx]at d0 d1 d2
  have i0:(k:Int)<(n:Int):=by omega
  have i1:¬(k:Int)<0:=by omega
  have c0:=hb.cell (i:=0) rfl
  have c1:=hb.cell (i:=1) rfl
  have c2:=hb.cell (i:=2) rfl
  have f0:=hb.free 0
  have f1:=hb.free 1
  have f2:=hb.free 2
  have hlo:w.heap.size<=N+1:=by rw[hN];omega
  obtain⟨⟨ga,gn,gp,gs⟩,⟨gc,pub,pre⟩⟩:=x
  have hgs:=aj iA.out.1 hg1
  unfold iV at d0
  have h3:=((hb.set 0 (.int .i64 gc)).set 1 (.slice ga gn gp)).set 2 (.string gs)
  have g3:=aJ (aJ (aJ hgs (p:=⟨N+1,0,none⟩) hlo (.int .i64 gc)) (p:=⟨N+1,1,none⟩) hlo (.slice ga gn gp)) (p:=⟨N+1,2,none⟩) hlo (.string gs)
  have HG:=Lib.hid (And.intro g3 (And.intro h3 hx));clear hg1 hb HX h3 g3 hN hR hcc hx hgs
  go_wp2
  refine bodyPost_ret (v:=.tuple #[vG gc ga gn gp gs,.bool true]) (Fg.mJ Tryz.results22 _ _ (N+1) 26 _ (0,0) _ rfl HG.out.2.1 Tryz.underlying26 rfl DU rfl) rfl ⟨?_,HG.out.1⟩
  rw[<- HG.out.2.2]
  rfl
end Gr
end
end Go.Proofs.YtjgnjhgdmdmebaaGreatDoor
