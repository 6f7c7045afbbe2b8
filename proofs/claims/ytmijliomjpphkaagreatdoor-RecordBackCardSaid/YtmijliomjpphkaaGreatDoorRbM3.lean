/- texts merged -/
import Derived.Test.YtmijliomjpphkaaGreatDoorRbM2
import Derived.ChangeKeysEq
import Derived.Test.YtmijliomjpphkaaGreatDoorRbM1
import Derived.Deep.Cut
import Derived.Laws.ResultCell
import Derived.Shelf.Bytes.SlEqualAll
import Derived.Lib.SliceRun
namespace Go.Proofs.YtmijliomjpphkaaGreatDoor
section
open Go.RowKit
theorem RU (a:Fe):(0<=(Fe.gK a).x0/\(Fe.gK a).x0<2251799813685248)/\(0<=(Fe.gK a).x1/\(Fe.gK a).x1<2251799813685248)/\(0<=(Fe.gK a).x2/\(Fe.gK a).x2<2251799813685248)/\
  (0<=(Fe.gK a).x3/\(Fe.gK a).x3<2251799813685248)/\(0<=(Fe.gK a).x4/\(Fe.gK a).x4<2251799813685248):=by
 unfold Fe.gK
 refine⟨⟨?_,?_⟩,⟨?_,?_⟩,⟨?_,?_⟩,⟨?_,?_⟩,?_,?_⟩<;>dsimp only<;>omega
theorem wE:(Tryz.prog.info? 141).map (·.size)=some 32:=by kernel_rfl
theorem Az (x:Int):(dh x).toArray.all (·.oneCell')=true:=by
 simp[dh,rO,Value.oneCell']
abbrev Ku (w:World) (r:Fe) (w':World):Prop:=aH w' w.heap.size 54 [.int .u64 r.x0,.int .u64 r.x1,.int .u64 r.x2,.int .u64 r.x3,.int .u64 r.x4]/\w'.cell? ⟨w.heap.size,0,none⟩=some (.int .u64 r.x0)/\w'.cell? ⟨w.heap.size,1,none⟩=some (.int .u64 r.x1)/\w'.cell? ⟨w.heap.size,2,none⟩=some (.int .u64 r.x2)/\w'.cell? ⟨w.heap.size,3,none⟩=some (.int .u64 r.x3)/\w'.cell? ⟨w.heap.size,4,none⟩=some (.int .u64 r.x4)
theorem wF {w w':World} {r:Fe} (h:aH w' w.heap.size 54 [.int .u64 r.x0,.int .u64 r.x1,.int .u64 r.x2,.int .u64 r.x3,.int .u64 r.x4]):Ku w r w':=⟨h,h.cell (i:=0) rfl,h.cell (i:=1) rfl,h.cell (i:=2) rfl,h.cell (i:=3) rfl,h.cell (i:=4) rfl⟩
theorem tV {w w1 w2:World} {r:Fe} {B:Nat} (hg:w1.grownBy w2 (some B)) (hne:w.heap.size≠B) (h:Ku w r w1):Ku w r w2:=wF (h.1.grown hg (bH hne))
set_option maxRecDepth 100000 in
set_option maxHeartbeats 1600000 in
theorem sM (a:Fe) (w:World) (ha:a.Ok):
  Calls Tryz.prog 103 #[.agg #[.int .u64 a.x0,.int .u64 a.x1,.int .u64 a.x2,.int .u64 a.x3,.int .u64 a.x4]] w fun e w'=>e=.returned (.agg (dh (Fe.m a)).toArray)/\w.grownBy w' none:=by
 have hg0:∀c0 c1,w.grownBy ((w.alloc c0).alloc c1) none:=fun c0 c1=>av (av (ah _ _) _) _
 go_enter Tryz.func103,Tryz.ntmps103
 go_wp2_with (go_at_call 129;refine (OO a _ ha).mono ?_;rintro e w1 ⟨r,hr,rfl,hg1⟩;have hg2:=aj (hg0 _ _) hg1;have hA1:=aH.grown (aH.alloc (aH.new w [.int .u64 a.x0,.int .u64 a.x1,.int .u64 a.x2,.int .u64 a.x3,.int .u64 a.x4] 54) _) hg1 (by simp);have z0:=hA1.cell (i:=0) rfl;have z1:=hA1.cell (i:=1) rfl;have z2:=hA1.cell (i:=2) rfl;have z3:=hA1.cell (i:=3) rfl;have z4:=hA1.cell (i:=4) rfl;have y0:=hA1.free 0;have y1:=hA1.free 1;have y2:=hA1.free 2;have y3:=hA1.free 3;have y4:=hA1.free 4)
 have hlt1:w.heap.size+1<w1.heap.size:=by have:=hg1.size;simp at this;omega
 have hA2:aH ((((((w1.setCell ⟨w.heap.size,0,none⟩ (.int .u64 r.x0)).setCell ⟨w.heap.size,1,none⟩ (.int .u64 r.x1)).setCell ⟨w.heap.size,2,none⟩ (.int .u64 r.x2)).setCell ⟨w.heap.size,3,none⟩ (.int .u64 r.x3)).setCell ⟨w.heap.size,4,none⟩ (.int .u64 r.x4)).alloc (.cells #[.int .u8 0,.int .u8 0,.int .u8 0,.int .u8 0,.int .u8 0,.int .u8 0,.int .u8 0,.int .u8 0,.int .u8 0,.int .u8 0,.int .u8 0,.int .u8 0,.int .u8 0,.int .u8 0,.int .u8 0,.int .u8 0,.int .u8 0,.int .u8 0,.int .u8 0,.int .u8 0,.int .u8 0,.int .u8 0,.int .u8 0,.int .u8 0,.int .u8 0,.int .u8 0,.int .u8 0,.int .u8 0,.int .u8 0,.int .u8 0,.int .u8 0,.int .u8 0] 141)) w.heap.size 54 [.int .u64 r.x0,.int .u64 r.x1,.int .u64 r.x2,.int .u64 r.x3,.int .u64 r.x4]:=aH.alloc (fU.sK ⟨_,_,_,_,_,hA1⟩ _ _ _ _ _) _
 have hC2:aH ((((((w1.setCell ⟨w.heap.size,0,none⟩ (.int .u64 r.x0)).setCell ⟨w.heap.size,1,none⟩ (.int .u64 r.x1)).setCell ⟨w.heap.size,2,none⟩ (.int .u64 r.x2)).setCell ⟨w.heap.size,3,none⟩ (.int .u64 r.x3)).setCell ⟨w.heap.size,4,none⟩ (.int .u64 r.x4)).alloc (.cells #[.int .u8 0,.int .u8 0,.int .u8 0,.int .u8 0,.int .u8 0,.int .u8 0,.int .u8 0,.int .u8 0,.int .u8 0,.int .u8 0,.int .u8 0,.int .u8 0,.int .u8 0,.int .u8 0,.int .u8 0,.int .u8 0,.int .u8 0,.int .u8 0,.int .u8 0,.int .u8 0,.int .u8 0,.int .u8 0,.int .u8 0,.int .u8 0,.int .u8 0,.int .u8 0,.int .u8 0,.int .u8 0,.int .u8 0,.int .u8 0,.int .u8 0,.int .u8 0] 141)) w1.heap.size 141 lZ:=aH.newAt _ lZ _ (by simp)
 have hR2:aH ((((((w1.setCell ⟨w.heap.size,0,none⟩ (.int .u64 r.x0)).setCell ⟨w.heap.size,1,none⟩ (.int .u64 r.x1)).setCell ⟨w.heap.size,2,none⟩ (.int .u64 r.x2)).setCell ⟨w.heap.size,3,none⟩ (.int .u64 r.x3)).setCell ⟨w.heap.size,4,none⟩ (.int .u64 r.x4)).alloc (.cells #[.int .u8 0,.int .u8 0,.int .u8 0,.int .u8 0,.int .u8 0,.int .u8 0,.int .u8 0,.int .u8 0,.int .u8 0,.int .u8 0,.int .u8 0,.int .u8 0,.int .u8 0,.int .u8 0,.int .u8 0,.int .u8 0,.int .u8 0,.int .u8 0,.int .u8 0,.int .u8 0,.int .u8 0,.int .u8 0,.int .u8 0,.int .u8 0,.int .u8 0,.int .u8 0,.int .u8 0,.int .u8 0,.int .u8 0,.int .u8 0,.int .u8 0,.int .u8 0] 141)) (w.heap.size+1) 141 lZ:=aH.alloc ((((((aH.grown (aH.newAt (w.alloc _) lZ _ (by simp)) hg1 (by simp)).other (by simp) _).other (by simp) _).other (by simp) _).other (by simp) _).other (by simp) _) _
 have hg3:w.grownBy ((((((w1.setCell ⟨w.heap.size,0,none⟩ (.int .u64 r.x0)).setCell ⟨w.heap.size,1,none⟩ (.int .u64 r.x1)).setCell ⟨w.heap.size,2,none⟩ (.int .u64 r.x2)).setCell ⟨w.heap.size,3,none⟩ (.int .u64 r.x3)).setCell ⟨w.heap.size,4,none⟩ (.int .u64 r.x4)).alloc (.cells #[.int .u8 0,.int .u8 0,.int .u8 0,.int .u8 0,.int .u8 0,.int .u8 0,.int .u8 0,.int .u8 0,.int .u8 0,.int .u8 0,.int .u8 0,.int .u8 0,.int .u8 0,.int .u8 0,.int .u8 0,.int .u8 0,.int .u8 0,.int .u8 0,.int .u8 0,.int .u8 0,.int .u8 0,.int .u8 0,.int .u8 0,.int .u8 0,.int .u8 0,.int .u8 0,.int .u8 0,.int .u8 0,.int .u8 0,.int .u8 0,.int .u8 0,.int .u8 0] 141)) none:=av (jH hg2 (Nat.le_refl _) _ _ _ _ _) _
 revert hA2 hC2 hR2 hg3
 clear hA1 z0 z1 z2 z3 z4 y0 y1 y2 y3 y4
 generalize ((((((w1.setCell ⟨w.heap.size,0,none⟩ (.int .u64 r.x0)).setCell ⟨w.heap.size,1,none⟩ (.int .u64 r.x1)).setCell ⟨w.heap.size,2,none⟩ (.int .u64 r.x2)).setCell ⟨w.heap.size,3,none⟩ (.int .u64 r.x3)).setCell ⟨w.heap.size,4,none⟩ (.int .u64 r.x4)).alloc (.cells #[.int .u8 0,.int .u8 0,.int .u8 0,.int .u8 0,.int .u8 0,.int .u8 0,.int .u8 0,.int .u8 0,.int .u8 0,.int .u8 0,.int .u8 0,.int .u8 0,.int .u8 0,.int .u8 0,.int .u8 0,.int .u8 0,.int .u8 0,.int .u8 0,.int .u8 0,.int .u8 0,.int .u8 0,.int .u8 0,.int .u8 0,.int .u8 0,.int .u8 0,.int .u8 0,.int .u8 0,.int .u8 0,.int .u8 0,.int .u8 0,.int .u8 0,.int .u8 0] 141))=W2
 obtain⟨C,hC⟩:∃C,C=w1.heap.size:=⟨_,rfl⟩
 rw[<- hC]at hlt1
 rw[<- hC]
 clear hg1 hg2 hC
 intro hA2 hC2 hR2 hg3
 obtain⟨⟨p00,p01⟩,⟨p10,p11⟩,⟨p20,p21⟩,⟨p30,p31⟩,p40,p41⟩:=RU a
 have Zi:=Gy a
 rw[<- hr.out]at p00 p01 p10 p11 p20 p21 p30 p31 p40 p41 Zi
 have HW:=Lib.hid Zi;clear Zi
 have Kv:w.heap.size≠C:=by omega
 have VD:w.heap.size+1≠C:=by omega
 have hS0:Ku w r W2.drew:=wF hA2.drew
 have K0:=Lib.hid (uY r.x0 r.x1 51 2251799813685248 8192 (by decide) (by decide) p00 p01 (by decide))
 have K1:=Lib.hid (uY (r.x1/8192) r.x2 38 274877906944 67108864 (by decide) (by decide) (by omega) (by omega) (by decide))
 have K2:=Lib.hid (uY (r.x2/67108864) r.x3 25 33554432 549755813888 (by decide) (by decide) (by omega) (by omega) (by decide))
 have K3:=Lib.hid (uY (r.x3/549755813888) r.x4 12 4096 4503599627370496 (by decide) (by decide) (by omega) (by omega) (by decide))
 go_region_held3 (fun w'=>aH w' w.heap.size 54 [.int .u64 r.x0,.int .u64 r.x1,.int .u64 r.x2,.int .u64 r.x3,.int .u64 r.x4]/\w'.cell? ⟨w.heap.size,0,none⟩=some (.int .u64 r.x0)/\w'.cell? ⟨w.heap.size,1,none⟩=some (.int .u64 r.x1)/\w'.cell? ⟨w.heap.size,2,none⟩=some (.int .u64 r.x2)/\w'.cell? ⟨w.heap.size,3,none⟩=some (.int .u64 r.x3)/\w'.cell? ⟨w.heap.size,4,none⟩=some (.int .u64 r.x4))
  (first|(with_reducible exact hS0)|(with_reducible exact tV (by assumption) Kv (by assumption)))
  (first|(go_simp;go_at_call 130;refine (o9 C 0 32 32 141 _ _ _ (by decide) (by decide) hC2.drew).mono ?_;rintro e v1 ⟨rfl,ge1,hd1⟩))
 rw[K0.out,HW.out.1]at hd1
 have hA3:=(hA2.drew).grown ge1 (bH Kv)
 have Ms:=(hR2.drew).grown ge1 (bH VD)
 have hg4:=aW (aX hg3) ge1 (by omega)
 have hS1:Ku w r v1.drew:=wF hA3.drew
 clear ge1 hS0 hA2 hR2 hg3 hC2
 go_wp2
 go_region_held3 (fun w'=>aH w' w.heap.size 54 [.int .u64 r.x0,.int .u64 r.x1,.int .u64 r.x2,.int .u64 r.x3,.int .u64 r.x4]/\w'.cell? ⟨w.heap.size,0,none⟩=some (.int .u64 r.x0)/\w'.cell? ⟨w.heap.size,1,none⟩=some (.int .u64 r.x1)/\w'.cell? ⟨w.heap.size,2,none⟩=some (.int .u64 r.x2)/\w'.cell? ⟨w.heap.size,3,none⟩=some (.int .u64 r.x3)/\w'.cell? ⟨w.heap.size,4,none⟩=some (.int .u64 r.x4))
  (first|(with_reducible exact hS1)|(with_reducible exact tV (by assumption) Kv (by assumption)))
  (first|(go_simp;go_at_call 130;refine (o9 C 8 24 24 141 _ _ _ (by decide) (by simp only[fT];decide) hd1.drew).mono ?_;rintro e v2 ⟨rfl,ge2,hd2⟩))
 rw[K1.out,HW.out.2.1]at hd2
 have VE:=(hA3.drew).grown ge2 (bH Kv)
 have Qs:=(Ms.drew).grown ge2 (bH VD)
 have hg5:=aW (aX hg4) ge2 (by omega)
 have hS2:Ku w r v2.drew:=wF VE.drew
 clear ge2 hS1 hA3 Ms hg4 hd1
 go_wp2
 go_region_held3 (fun w'=>aH w' w.heap.size 54 [.int .u64 r.x0,.int .u64 r.x1,.int .u64 r.x2,.int .u64 r.x3,.int .u64 r.x4]/\w'.cell? ⟨w.heap.size,0,none⟩=some (.int .u64 r.x0)/\w'.cell? ⟨w.heap.size,1,none⟩=some (.int .u64 r.x1)/\w'.cell? ⟨w.heap.size,2,none⟩=some (.int .u64 r.x2)/\w'.cell? ⟨w.heap.size,3,none⟩=some (.int .u64 r.x3)/\w'.cell? ⟨w.heap.size,4,none⟩=some (.int .u64 r.x4))
  (first|(with_reducible exact hS2)|(with_reducible exact tV (by assumption) Kv (by assumption)))
  (first|(go_simp;go_at_call 130;refine (o9 C 16 16 16 141 _ _ _ (by decide) (by simp only[fT];decide) hd2.drew).mono ?_;rintro e v3 ⟨rfl,ge3,hd3⟩))
 rw[K2.out,HW.out.2.2.1]at hd3
 have hA5:=(VE.drew).grown ge3 (bH Kv)
 have JK:=(Qs.drew).grown ge3 (bH VD)
 have uL:=aW (aX hg5) ge3 (by omega)
 have Yg:Ku w r v3.drew:=wF hA5.drew
 clear ge3 hS2 VE Qs hg5 hd2
 go_wp2
 go_region_held3 (fun w'=>aH w' w.heap.size 54 [.int .u64 r.x0,.int .u64 r.x1,.int .u64 r.x2,.int .u64 r.x3,.int .u64 r.x4]/\w'.cell? ⟨w.heap.size,0,none⟩=some (.int .u64 r.x0)/\w'.cell? ⟨w.heap.size,1,none⟩=some (.int .u64 r.x1)/\w'.cell? ⟨w.heap.size,2,none⟩=some (.int .u64 r.x2)/\w'.cell? ⟨w.heap.size,3,none⟩=some (.int .u64 r.x3)/\w'.cell? ⟨w.heap.size,4,none⟩=some (.int .u64 r.x4))
  (first|(with_reducible exact Yg)|(with_reducible exact tV (by assumption) Kv (by assumption)))
  (first|(go_simp;go_at_call 130;refine (o9 C 24 8 8 141 _ _ _ (by decide) (by simp only[fT];decide) hd3.drew).mono ?_;rintro e v4 ⟨rfl,ge4,hd4⟩))
 rw[K3.out,HW.out.2.2.2,Kt]at hd4
 have hR6:=(JK.drew).grown ge4 (bH VD)
 have FD:=aW (aX uL) ge4 (by omega)
 clear ge4 Yg hA5 JK uL hd3 K0 K1 K2 K3
 obtain⟨X,hX⟩:∃X,X=dh (Fe.m a):=⟨_,rfl⟩
 rw[<- hX]at hd4
 have hXl:X.length=32:=by rw[hX];rfl
 have hX1:X.toArray.all (·.oneCell')=true:=by rw[hX];exact Az _
 have HX:=Lib.hid (And.intro hX (And.intro hXl hX1));clear hX hXl hX1
 have HM:=Lib.hid (And.intro hd4 hR6);clear hd4 hR6
 go_wp2_with (first
  | (refine wpList_load_row rfl 141 (.tmp 3) rfl C rfl 141 X.toArray (0,0) _ HM.out.1 Tryz.underlying141 rfl (by rw[List.size_toArray,HX.out.2.1];exact wE) ?_)
  | (refine wpList_store_row rfl 141 (.tmp 2) (.tmp 41) rfl (w.heap.size+1) X.toArray rfl rfl 141 lZ.toArray HM.out.2 (by rw[List.size_toArray,HX.out.2.1];exact wE) (by rw[List.size_toArray,List.size_toArray,HX.out.2.1];rfl) HX.out.2.2 ?_))
 refine bodyPost_ret (v:=.agg X.toArray) ?_ rfl ⟨by rw[HX.out.1],qm FD (by omega) _⟩
 exact results_cell_row Tryz.results103 _ _ (w.heap.size+1) 141 X.toArray (0,0) _ rfl (HM.out.2.row X) Tryz.underlying141 rfl (by rw[List.size_toArray,HX.out.2.1];exact wE)
end
section
open Go.RowKit
theorem xP {P:Program} (w:World) (d:Nat) {e:TypeId} {k:IntKind} (he:P.plainKey e=true) (hu:P.underlying e=some (.int k)) (f g:Nat->Int) (xs ys:Array Value) (is:List Nat)
    (hx:∀i∈is,xs[i*1]?=some (.int k (f i))) (hy:∀i∈is,ys[i*1]?=some (.int k (g i))):(Op.eqItems (d+1) e 1 xs ys is).run P w=.ok (is.all fun i=>f i==g i) w:=by
  induction is with
  | nil=>simp[Op.eqItems]
  | cons i r ih=>
    have h1:=run_part_plain w he (hx i (List.mem_cons_self ..))
    have h2:=run_part_plain w he (hy i (List.mem_cons_self ..))
    simp only[Op.eqItems,Sem.run_bind,h1,h2,Result.andThen_ok,run_equalIn_int w d e k k (f i) (g i) hu,List.all_cons]
    cases hfg:f i==g i
    . simp
    . simpa using ih (fun j hj=>hx j (List.mem_cons_of_mem _ hj)) (fun j hj=>hy j (List.mem_cons_of_mem _ hj))
theorem yI (n:Nat):∀x y:Int,0<=x->0<=y->x<2^(8*n)->y<2^(8*n)->(∀i,i<n->x/2^(8*i)%256=y/2^(8*i)%256)->x=y:=by
  induction n with
  | zero=>intro x y h0 k0 h1 k1 _;simp at h1 k1;omega
  | succ n ih=>
    intro x y h0 k0 h1 k1 h
    have e:(2:Int)^(8*(n+1))=256*2^(8*n):=by rw[show 8*(n+1)=8*n+8 by omega,Int.pow_add];omega
    rw[e]at h1 k1
    have hd:x/256=y/256:=ih _ _ (by omega) (by omega) (by omega) (by omega) fun i hi=>by
      have:=h (i+1) (by omega)
      have e2:(2:Int)^(8*(i+1))=256*2^(8*i):=by rw[show 8*(i+1)=8*i+8 by omega,Int.pow_add];omega
      rw[e2,<- Int.ediv_ediv_of_nonneg (by decide),<- Int.ediv_ediv_of_nonneg (by decide)]at this
      exact this
    have hm:=h 0 (by omega)
    simp at hm
    omega
theorem Kw (x y:Int) (h0:0<=x) (k0:0<=y) (h1:x<2^256) (k1:y<2^256):
    ((List.range 32).all fun i=>(x/2^(8*i)%256==y/2^(8*i)%256))=decide (x=y):=by
  rw[Bool.eq_iff_iff,List.all_eq_true,decide_eq_true_iff]
  constructor
  . intro h
    exact yI 32 x y h0 k0 h1 k1 fun i hi=>by simpa using h i (List.mem_range.2 hi)
  . rintro rfl i _;simp
theorem lQ (x:Int) (i:Nat) (h:i<32):(dh x)[i]?=some (rO x i):=by
  unfold dh;rw[List.getElem?_map,List.getElem?_range h];rfl
theorem qL:∃i,Tryz.prog.info? 5=some i:=by
  cases h:Tryz.prog.info? 5 with
  | none=>exact absurd h (by
                               have:(Tryz.prog.info? 5).isSome=true:=by kernel_rfl
                               intro e;rw[e]at this;cases this)
  | some i=>exact⟨i,rfl⟩
theorem OQ (x y:Int) (h0:0<=x) (k0:0<=y) (h1:x<2^256) (k1:y<2^256) (w:World):
    (binOp .eql 141 (.agg (dh x).toArray) (.agg (dh y).toArray)).run Tryz.prog w=.ok (.bool (decide (x=y))) w:=by
  obtain⟨j,hj⟩:=qL
  have hc:Tryz.prog.cellsOf 5=1:=by kernel_rfl
  rw[run_eql_struct,run_equalIn_array w 9999 _ _ Tryz.underlying141 hj,hc,
    xP w 9998 (by kernel_rfl) Tryz.underlying5 (fun i=>x/2^(8*i)%256) (fun i=>y/2^(8*i)%256) _ _ _
      (fun i hi=>by rw[Nat.mul_one,List.getElem?_toArray];exact lQ x i (List.mem_range.1 hi)) (fun i hi=>by rw[Nat.mul_one,List.getElem?_toArray];exact lQ y i (List.mem_range.1 hi)),
    Kw x y h0 k0 h1 k1]
  rfl
theorem Mt (a:Fe):(Fe.m a:Int)<2^256:=by
  have:=(OP a).2
  have e:(2:Int)^256=115792089237316195423570985008687907853269984665640564039457584007913129639936:=by decide
  omega
abbrev RV (w:World) (a b:Fe) (w':World):Prop:=aH w' w.heap.size 54 [.int .u64 a.x0,.int .u64 a.x1,.int .u64 a.x2,.int .u64 a.x3,.int .u64 a.x4]/\aH w' (w.heap.size+1) 54 [.int .u64 b.x0,.int .u64 b.x1,.int .u64 b.x2,.int .u64 b.x3,.int .u64 b.x4]/\w.grownBy w' none/\w'.cell? ⟨w.heap.size,0,none⟩=some (.int .u64 a.x0)/\w'.cell? ⟨w.heap.size,1,none⟩=some (.int .u64 a.x1)/\w'.cell? ⟨w.heap.size,2,none⟩=some (.int .u64 a.x2)/\w'.cell? ⟨w.heap.size,3,none⟩=some (.int .u64 a.x3)/\w'.cell? ⟨w.heap.size,4,none⟩=some (.int .u64 a.x4)/\w'.cell? ⟨w.heap.size+1,0,none⟩=some (.int .u64 b.x0)/\w'.cell? ⟨w.heap.size+1,1,none⟩=some (.int .u64 b.x1)/\w'.cell? ⟨w.heap.size+1,2,none⟩=some (.int .u64 b.x2)/\w'.cell? ⟨w.heap.size+1,3,none⟩=some (.int .u64 b.x3)/\w'.cell? ⟨w.heap.size+1,4,none⟩=some (.int .u64 b.x4)
theorem Mv {w w':World} {a b:Fe} (hA:aH w' w.heap.size 54 [.int .u64 a.x0,.int .u64 a.x1,.int .u64 a.x2,.int .u64 a.x3,.int .u64 a.x4]) (hB:aH w' (w.heap.size+1) 54 [.int .u64 b.x0,.int .u64 b.x1,.int .u64 b.x2,.int .u64 b.x3,.int .u64 b.x4]) (hg:w.grownBy w' none):RV w a b w':=
  ⟨hA,hB,hg,hA.cell (i:=0) rfl,hA.cell (i:=1) rfl,hA.cell (i:=2) rfl,hA.cell (i:=3) rfl,hA.cell (i:=4) rfl,hB.cell (i:=0) rfl,hB.cell (i:=1) rfl,hB.cell (i:=2) rfl,hB.cell (i:=3) rfl,hB.cell (i:=4) rfl⟩
theorem OT {w w1 w2:World} {a b:Fe} (hg:w1.grownBy w2 none) (h:RV w a b w1):RV w a b w2:=
  Mv (h.1.grown hg (by simp)) (h.2.1.grown hg (by simp)) (aj h.2.2.1 hg)
set_option maxRecDepth 100000 in
set_option maxHeartbeats 1600000 in
theorem AA (a b:Fe) (w:World) (ha:a.Ok) (hb:b.Ok):
    Calls Tryz.prog 73 #[.agg #[.int .u64 a.x0,.int .u64 a.x1,.int .u64 a.x2,.int .u64 a.x3,.int .u64 a.x4],.agg #[.int .u64 b.x0,.int .u64 b.x1,.int .u64 b.x2,.int .u64 b.x3,.int .u64 b.x4]] w fun e w'=>e=.returned (.bool (decide (Fe.m a=Fe.m b)))/\w.grownBy w' none:=by
  have hE:=OQ (Fe.m a) (Fe.m b) (OP a).1 (OP b).1 (Mt a) (Mt b)
  have hq:decide ((Fe.m a:Int)=(Fe.m b:Int))=decide (Fe.m a=Fe.m b):=by
    rw[Bool.eq_iff_iff,decide_eq_true_iff,decide_eq_true_iff];omega
  rw[hq]at hE
  clear hq
  go_enter Tryz.func73,Tryz.ntmps73
  go_wp2
  have hS0:RV w a b ((w.alloc (.cells #[.int .u64 a.x0,.int .u64 a.x1,.int .u64 a.x2,.int .u64 a.x3,.int .u64 a.x4] 54)).alloc (.cells #[.int .u64 b.x0,.int .u64 b.x1,.int .u64 b.x2,.int .u64 b.x3,.int .u64 b.x4] 54)).drew:=
    Mv ((aH.new w [.int .u64 a.x0,.int .u64 a.x1,.int .u64 a.x2,.int .u64 a.x3,.int .u64 a.x4] _).alloc _).drew (aH.newAt (w.alloc _) [.int .u64 b.x0,.int .u64 b.x1,.int .u64 b.x2,.int .u64 b.x3,.int .u64 b.x4] _ (by simp)).drew (aX (av (av (ah _ _) _) _))
  revert hS0
  generalize (w.alloc (.cells #[.int .u64 a.x0,.int .u64 a.x1,.int .u64 a.x2,.int .u64 a.x3,.int .u64 a.x4] 54)).alloc (.cells #[.int .u64 b.x0,.int .u64 b.x1,.int .u64 b.x2,.int .u64 b.x3,.int .u64 b.x4] 54)=W0
  intro hS0
  go_region_held3 (fun w'=>aH w' w.heap.size 54 [.int .u64 a.x0,.int .u64 a.x1,.int .u64 a.x2,.int .u64 a.x3,.int .u64 a.x4]/\aH w' (w.heap.size+1) 54 [.int .u64 b.x0,.int .u64 b.x1,.int .u64 b.x2,.int .u64 b.x3,.int .u64 b.x4]/\w.grownBy w' none/\w'.cell? ⟨w.heap.size,0,none⟩=some (.int .u64 a.x0)/\w'.cell? ⟨w.heap.size,1,none⟩=some (.int .u64 a.x1)/\w'.cell? ⟨w.heap.size,2,none⟩=some (.int .u64 a.x2)/\w'.cell? ⟨w.heap.size,3,none⟩=some (.int .u64 a.x3)/\w'.cell? ⟨w.heap.size,4,none⟩=some (.int .u64 a.x4)/\w'.cell? ⟨w.heap.size+1,0,none⟩=some (.int .u64 b.x0)/\w'.cell? ⟨w.heap.size+1,1,none⟩=some (.int .u64 b.x1)/\w'.cell? ⟨w.heap.size+1,2,none⟩=some (.int .u64 b.x2)/\w'.cell? ⟨w.heap.size+1,3,none⟩=some (.int .u64 b.x3)/\w'.cell? ⟨w.heap.size+1,4,none⟩=some (.int .u64 b.x4))
    (first|(with_reducible exact hS0)|(with_reducible exact OT (by assumption) (by assumption)))
    (first|(go_simp;go_at_call 103;refine (sM _ _ ?_).mono ?_;assumption;rintro e w1 ⟨rfl,hg1⟩))
  go_wp2
  clear hE
  go_ret
  refine⟨rfl,?_⟩
  with_reducible exact (show RV w a b _ from (by assumption)).2.2.1
theorem Zj:Fe.m ⟨0,0,0,0,0⟩=0:=by decide +kernel
theorem VF:Fe.Ok ⟨0,0,0,0,0⟩:=by constructor<;>decide
set_option maxHeartbeats 400000 in
theorem RX (a:Fe) (w:World) (ha:a.Ok):
    Calls Tryz.prog 128 #[.agg #[.int .u64 a.x0,.int .u64 a.x1,.int .u64 a.x2,.int .u64 a.x3,.int .u64 a.x4]] w fun e w'=>e=.returned (.bool (decide (Fe.m a=0)))/\w.grownBy w' none:=by
  have hg0:∀c0,w.grownBy (w.alloc c0) none:=fun c0=>av (ah _ _) _
  go_enter Tryz.func128,Tryz.ntmps128
  go_wp2_with (go_at_call 73;refine (AA a ⟨0,0,0,0,0⟩ _ ha VF).mono ?_;rintro e w1 ⟨rfl,hg1⟩)
  go_ret
  exact⟨by rw[Zj];rfl,aj (hg0 _) hg1⟩
theorem RY (x:Int) (_:0<=x):(bits .and .u8 (x%256) 1==1)=decide (x%2=1):=by
  have all:∀j:Fin 256,(bits .and .u8 (j.val:Int) 1==1)=decide ((j.val:Int)%2=1):=by decide +kernel
  obtain⟨n,hn⟩:=Int.eq_ofNat_of_zero_le (show 0<=x%256 by omega)
  have h1:(bits .and .u8 (n:Int) 1==1)=decide ((n:Int)%2=1):=all ⟨n,by omega⟩
  have e:(n:Int)%2=x%2:=by omega
  rw[hn,h1,e]
set_option maxHeartbeats 400000 in
theorem VG (a:Fe) (w:World) (ha:a.Ok):
    Calls Tryz.prog 95 #[.agg #[.int .u64 a.x0,.int .u64 a.x1,.int .u64 a.x2,.int .u64 a.x3,.int .u64 a.x4]] w fun e w'=>e=.returned (.bool (decide (Fe.m a%2=1)))/\w.grownBy w' none:=by
  have hg0:∀c0,w.grownBy (w.alloc c0) none:=fun c0=>av (ah _ _) _
  have hi:∀w,(Instr.index 141 (.agg (dh (Fe.m a)).toArray) (.int .i64 0)).run Tryz.prog w=.ok (.int .u8 ((Fe.m a:Int)/1%256)) w:=fun _=>by kernel_rfl
  simp only[Int.ediv_one]at hi
  have ho:=RY (Fe.m a) (OP a).1
  go_enter Tryz.func95,Tryz.ntmps95
  go_wp2_with (go_at_call 103;refine (sM a _ ha).mono ?_;rintro e w1 ⟨rfl,hg1⟩)
  clear ho hi
  go_ret
  refine⟨?_,aj (hg0 _) hg1⟩
  have e:decide ((Fe.m a:Int)%2=1)=decide (Fe.m a%2=1):=by
    rw[Bool.eq_iff_iff,decide_eq_true_iff,decide_eq_true_iff];omega
  rw[<- e];rfl
set_option maxHeartbeats 400000 in
theorem zu (a:Fe) (w:World) (ha:a.Ok):
    Calls Tryz.prog 94 #[.agg #[.int .u64 a.x0,.int .u64 a.x1,.int .u64 a.x2,.int .u64 a.x3,.int .u64 a.x4]] w fun e w'=>∃NB,e=.returned (.slice (some ⟨NB,0,none⟩) 32 32)/\w.grownBy w' none/\w.heap.size<=NB/\aH w' NB 141 (dh (Fe.m a)):=by
  have hg0:∀c0,w.grownBy (w.alloc c0) none:=fun c0=>av (ah _ _) _
  obtain⟨X,hX⟩:∃X,X=dh (Fe.m a):=⟨_,rfl⟩
  have hXl:X.length=32:=by rw[hX];rfl
  have hX1:X.toArray.all (·.oneCell')=true:=by rw[hX];exact Az _
  have HX:=Lib.hid (And.intro hX (And.intro hXl hX1));clear hX hXl hX1
  go_enter Tryz.func94,Tryz.ntmps94
  go_wp2_with fail
  refine (sM a _ ha).mono ?_
  rintro e w1 ⟨rfl,hg1⟩
  rw[<- HX.out.1]
  go_wp2_with (refine wpList_store_row rfl 141 (.tmp 3) (.tmp 5) rfl w1.heap.size X.toArray rfl rfl 141 lZ.toArray (aH.new w1 lZ 141) (by rw[List.size_toArray,HX.out.2.1];exact wE) (by rw[List.size_toArray,List.size_toArray,HX.out.2.1];rfl) HX.out.2.2 ?_)
  have hb:=(aH.new w1 lZ 141).row X
  rw[HX.out.1]at hb
  go_ret
  exact⟨w1.heap.size,rfl,qm (av (aj (hg0 _) hg1) _) (Nat.le_trans (hg0 (.cells #[] 0)).size (Nat.le_trans (by simp) hg1.size)) _,by have:=hg1.size;simp at this;omega,by rw[HX.out.1];exact hb⟩
end
section
open Go.RowKit
theorem lS (a b:Fe) (w:World) (ha:a.Ok) (hb:b.Ok):Calls Tryz.prog 74 #[.agg #[.int .u64 a.x0,.int .u64 a.x1,.int .u64 a.x2,.int .u64 a.x3,.int .u64 a.x4],.agg #[.int .u64 b.x0,.int .u64 b.x1,.int .u64 b.x2,.int .u64 b.x3,.int .u64 b.x4]] w (oq (Fe.aM a b) w):=
 Vu a.x0 a.x1 a.x2 a.x3 a.x4 b.x0 b.x1 b.x2 b.x3 b.x4 w ha.n0 ha.l0 ha.n1 ha.l1 ha.n2 ha.l2 ha.n3 ha.l3 ha.n4 ha.l4 hb.n0 hb.l0 hb.n1 hb.l1 hb.n2 hb.l2 hb.n3 hb.l3 hb.n4 hb.l4
theorem wG (a:Fe) (w:World) (ha:a.Ok):Calls Tryz.prog 117 #[.agg #[.int .u64 a.x0,.int .u64 a.x1,.int .u64 a.x2,.int .u64 a.x3,.int .u64 a.x4]] w (oq (Fe.cu a) w):=
 Zg a.x0 a.x1 a.x2 a.x3 a.x4 w ha.n0 ha.l0 ha.n1 ha.l1 ha.n2 ha.l2 ha.n3 ha.l3 ha.n4 ha.l4
def RZ:Nat->Fe->Fe
 | 0,p=>p
 | n+1,p=>Fe.cu (RZ n p)
theorem Zk {p:Fe} (h:p.Ok) (n:Nat):(RZ n p).Ok:=by
 cases n with
 | zero=>exact h
 | succ n=>exact (Fe.dS _).ok
def mD (n:Nat) (p b:Fe):Fe:=Fe.aM (RZ n p) b
def aR (a:Fe):List Value:=[.int .u64 a.x0,.int .u64 a.x1,.int .u64 a.x2,.int .u64 a.x3,.int .u64 a.x4]
set_option maxHeartbeats 400000 in
theorem Ky (a:Fe) (w:World):
  Calls Tryz.prog 146 #[.agg #[.int .u64 a.x0,.int .u64 a.x1,.int .u64 a.x2,.int .u64 a.x3,.int .u64 a.x4]] w fun e w'=>e=.returned (.func (.func 157) #[] #[.pointer (some ⟨w.heap.size+1,0,none⟩)])/\w.grownBy w' none/\aH w' (w.heap.size+1) 54 (aR a):=by
 have UW:∀(fn:Fn) (first cap:Array Value) (w:World),(Instr.makeFunc fn first cap).run Tryz.prog w=.ok (.func fn first cap) w:=fun _ _ _ _=>rfl
 go_enter Tryz.func146,Tryz.ntmps146
 go_wp2
 go_ret
 exact⟨rfl,av (av (ah _ _) _) _,aH.newAt (w.alloc _) (aR a) _ (by simp)⟩
set_option maxHeartbeats 1600000 in
theorem jy (C n:Nat) (p b:Fe) (w:World) (hn:n<=1000) (hp:p.Ok) (hb:b.Ok) (hC:aH w C 54 (aR p)):
  Calls Tryz.prog 157 #[.int .i64 n,.agg #[.int .u64 b.x0,.int .u64 b.x1,.int .u64 b.x2,.int .u64 b.x3,.int .u64 b.x4],.pointer (some ⟨C,0,none⟩)] w fun e w'=>∃r:Fe,Hid (r=mD n p b)/\e=.returned (.agg #[.int .u64 r.x0,.int .u64 r.x1,.int .u64 r.x2,.int .u64 r.x3,.int .u64 r.x4])/\w.grownBy w' (some C)/\aH w' C 54 (aR r):=by
 have hlt:=hC.lt
 go_enter Tryz.func157,Tryz.ntmps157
 go_wp2
 go_loopw [7] (fun i wr=>∃k:Nat,k<=n/\i=.int .i64 k/\w.grownBy wr (some C)/\aH wr C 54 (aR (RZ k p))/\aH wr w.heap.size 54 (aR b)/\fU wr (w.heap.size+1) 54) (fun i _=>n-(intOf i).toNat)
 case atStart=>exact⟨0,by omega,rfl,av (av (ah _ _) _) _,(hC.alloc _).alloc _,(aH.new w (aR b) _).alloc _,⟨_,_,_,_,_,aH.newAt _ [.int .u64 0,.int .u64 0,.int .u64 0,.int .u64 0,.int .u64 0] _ (by simp)⟩⟩
 case round=>
  obtain⟨k,hk,rfl,hg,hP,hB,hR⟩:=hrel
  have hok:=Zk hp k
  by_cases hlt2:k<n
  .have hs:Hid (RZ (k+1) p=Fe.cu (RZ k p)):=Lib.hid rfl
   obtain⟨q,hq⟩:∃q,q=RZ k p:=⟨_,rfl⟩
   rw[<- hq]at hP hok
   have HQ:=Lib.hid hq;clear hq
   have z0:=hP.cell (i:=0) rfl;have z1:=hP.cell (i:=1) rfl;have z2:=hP.cell (i:=2) rfl;have z3:=hP.cell (i:=3) rfl;have z4:=hP.cell (i:=4) rfl
   go_wp2_with (go_at_call 117;refine (wG q _ hok).mono ?_;rintro e w1 ⟨r,hr,rfl,hg1⟩;have hP1:=hP.grown hg1 (by simp);have y0:=hP1.cell (i:=0) rfl;have y1:=hP1.cell (i:=1) rfl;have y2:=hP1.cell (i:=2) rfl;have y3:=hP1.cell (i:=3) rfl;have y4:=hP1.cell (i:=4) rfl;have f0:=hP1.free 0;have f1:=hP1.free 1;have f2:=hP1.free 2;have f3:=hP1.free 3;have f4:=hP1.free 4)
   go_roundw
   case rel=>
    refine⟨k+1,by omega,by go_num,aJ (aJ (aJ (aJ (aJ (aj hg (dB hg1 _)) _ _) _ _) _ _) _ _) _ _,?_,?_,?_⟩
    .have:=fU.sK ⟨_,_,_,_,_,hP1⟩ (.int .u64 r.x0) (.int .u64 r.x1) (.int .u64 r.x2) (.int .u64 r.x3) (.int .u64 r.x4)
     rw[hs.out,<- HQ.out,<- hr.out]
     exact this
    .exact (((((hB.grown hg1 (by simp)).other (by simp;omega) _).other (by simp;omega) _).other (by simp;omega) _).other (by simp;omega) _).other (by simp;omega) _
    .exact bS (bS (bS (bS (bS (hR.grown hg1 (by simp)) (by simp;omega) _) (by simp;omega) _) (by simp;omega) _) (by simp;omega) _) (by simp;omega) _
   case measure=>simp[intOf];omega
  .obtain rfl:k=n:=by omega
   obtain⟨q,hq⟩:∃q,q=RZ k p:=⟨_,rfl⟩
   rw[<- hq]at hP hok
   have HQ:=Lib.hid hq;clear hq
   have z0:=hP.cell (i:=0) rfl;have z1:=hP.cell (i:=1) rfl;have z2:=hP.cell (i:=2) rfl;have z3:=hP.cell (i:=3) rfl;have z4:=hP.cell (i:=4) rfl
   have v0:=hB.cell (i:=0) rfl;have v1:=hB.cell (i:=1) rfl;have v2:=hB.cell (i:=2) rfl;have v3:=hB.cell (i:=3) rfl;have v4:=hB.cell (i:=4) rfl
   go_wp2_with (go_at_call 74;refine (lS q b _ hok hb).mono ?_;rintro e w1 ⟨r,hr,rfl,hg1⟩;have hP1:=hP.grown hg1 (by simp);have y0:=hP1.cell (i:=0) rfl;have y1:=hP1.cell (i:=1) rfl;have y2:=hP1.cell (i:=2) rfl;have y3:=hP1.cell (i:=3) rfl;have y4:=hP1.cell (i:=4) rfl;have f0:=hP1.free 0;have f1:=hP1.free 1;have f2:=hP1.free 2;have f3:=hP1.free 3;have f4:=hP1.free 4;obtain⟨u0,u1,u2,u3,u4,kG⟩:=hR.grown hg1 (by simp);have t0:=kG.cell (i:=0) rfl;have t1:=kG.cell (i:=1) rfl;have t2:=kG.cell (i:=2) rfl;have t3:=kG.cell (i:=3) rfl;have t4:=kG.cell (i:=4) rfl;have g0:=kG.free 0;have g1:=kG.free 1;have g2:=kG.free 2;have g3:=kG.free 3;have g4:=kG.free 4)
   refine bodyPost_ret (v:=.agg #[.int .u64 r.x0,.int .u64 r.x1,.int .u64 r.x2,.int .u64 r.x3,.int .u64 r.x4]) ?_ rfl ⟨r,?_,rfl,?_,?_⟩
   .simp[results,Tryz.results157,go_sem,t0,t1,t2,t3,t4]
   .have e:=hr.out
    rw[HQ.out]at e
    exact e
   .exact aO (aO (aO (aO (aO (aJ (aJ (aJ (aJ (aJ (aj hg (dB hg1 _)) _ _) _ _) _ _) _ _) _ _) (by simp) _) (by simp) _) (by simp) _) (by simp) _) (by simp) _
   .exact (((((fU.sK ⟨_,_,_,_,_,hP1⟩ (.int .u64 r.x0) (.int .u64 r.x1) (.int .u64 r.x2) (.int .u64 r.x3) (.int .u64 r.x4)).other (by simp;omega) _).other (by simp;omega) _).other (by simp;omega) _).other (by simp;omega) _).other (by simp;omega) _
end
section
open Go.RowKit
def Mw (a:Fe):Fe:=mD 1 a a
def R3 (a:Fe):Fe:=mD 2 (Mw a) (Mw a)
def Mx (a:Fe):Fe:=mD 1 (R3 a) a
def Gz (a:Fe):Fe:=mD 5 (Mx a) (Mx a)
def MB (a:Fe):Fe:=mD 10 (Gz a) (Gz a)
def R4 (a:Fe):Fe:=mD 20 (MB a) (MB a)
def GA (a:Fe):Fe:=mD 10 (R4 a) (Gz a)
def MC (a:Fe):Fe:=mD 50 (GA a) (GA a)
def R5 (a:Fe):Fe:=mD 100 (MC a) (MC a)
def xQ (a:Fe):Fe:=mD 50 (R5 a) (GA a)
theorem iU (n:Nat) (p b:Fe):(mD n p b).Ok:=(Fe.mul_right _ _).ok
set_option maxRecDepth 100000 in
set_option maxHeartbeats 1600000 in
theorem wH (a:Fe) (w:World) (ha:a.Ok):
  Calls Tryz.prog 118 #[.agg #[.int .u64 a.x0,.int .u64 a.x1,.int .u64 a.x2,.int .u64 a.x3,.int .u64 a.x4]] w fun e w'=>∃(C:Nat) (r:Fe),Hid (r=xQ a)/\e=.returned (.func (.func 157) #[] #[.pointer (some ⟨C,0,none⟩)])/\w.grownBy w' none/\w.heap.size<=C/\aH w' C 54 (aR r):=by
 go_enter Tryz.func118,Tryz.ntmps118
 have UY:aH (w.alloc (.cells #[.int .u64 a.x0,.int .u64 a.x1,.int .u64 a.x2,.int .u64 a.x3,.int .u64 a.x4] 54)) w.heap.size 54 (aR a):=aH.new w (aR a) _
 go_wp2_with fail
 refine (Ky a _).mono ?_
 rintro e v0 ⟨rfl,hg0,Qt⟩
 have hsz:(w.alloc (.cells #[.int .u64 a.x0,.int .u64 a.x1,.int .u64 a.x2,.int .u64 a.x3,.int .u64 a.x4] 54)).heap.size=w.heap.size+1:=by simp
 rw[hsz]at Qt
 clear hsz
 have G0:=aj (av (ah w none) _) hg0
 have Kz:=UY.grown hg0 (by simp)
 have lt0:=Qt.lt
 clear UY hg0
 have cA0:=Kz.cell (i:=0) rfl
 have cA1:=Kz.cell (i:=1) rfl
 have cA2:=Kz.cell (i:=2) rfl
 have cA3:=Kz.cell (i:=3) rfl
 have cA4:=Kz.cell (i:=4) rfl
 go_wp2_with fail
 refine (jy (w.heap.size+1+1) 1 a a _ (by decide) ha ha Qt).mono ?_
 rintro e v1 ⟨r1,hr1,rfl,hg1,hP1⟩
 have G1:=aW G0 hg1 (by omega)
 have lt1:=hP1.lt
 have ok1:r1.Ok:=by rw[hr1.out];exact iU _ _ _
 have Yo:=Kz.grown hg1 (bH (by omega))
 clear hg1 G0 Qt Kz
 clear cA0 cA1 cA2 cA3 cA4
 have VH:aH (v1.alloc (.cells #[.int .u64 r1.x0,.int .u64 r1.x1,.int .u64 r1.x2,.int .u64 r1.x3,.int .u64 r1.x4] 54)) v1.heap.size 54 (aR r1):=aH.new v1 (aR r1) _
 go_wp2_with fail
 refine (jy (w.heap.size+1+1) 2 r1 r1 _ (by decide) ok1 ok1 (hP1.alloc _)).mono ?_
 rintro e v2 ⟨r2,hr2,rfl,hg2,hP2⟩
 have G2:=aW (av G1 _) hg2 (by omega)
 have lt2:=hP2.lt
 have ok2:r2.Ok:=by rw[hr2.out];exact iU _ _ _
 have Dv:=(Yo.alloc _).grown hg2 (bH (by omega))
 clear hg2 G1 hP1 Yo VH
 skip
 have af6:=Dv.cell (i:=0) rfl
 have af7:=Dv.cell (i:=1) rfl
 have af8:=Dv.cell (i:=2) rfl
 have af9:=Dv.cell (i:=3) rfl
 have aga:=Dv.cell (i:=4) rfl
 go_wp2_with fail
 refine (jy (w.heap.size+1+1) 1 r2 a _ (by decide) ok2 ha hP2).mono ?_
 rintro e v3 ⟨r3,hr3,rfl,hg3,hP3⟩
 have G3:=aW G2 hg3 (by omega)
 have lt3:=hP3.lt
 have ok3:r3.Ok:=by rw[hr3.out];exact iU _ _ _
 clear hg3 G2 hP2 Dv
 clear af6 af7 af8 af9 aga
 have R6:aH (v3.alloc (.cells #[.int .u64 r3.x0,.int .u64 r3.x1,.int .u64 r3.x2,.int .u64 r3.x3,.int .u64 r3.x4] 54)) v3.heap.size 54 (aR r3):=aH.new v3 (aR r3) _
 go_wp2_with fail
 refine (jy (w.heap.size+1+1) 5 r3 r3 _ (by decide) ok3 ok3 (hP3.alloc _)).mono ?_
 rintro e v4 ⟨r4,hr4,rfl,hg4,hP4⟩
 have G4:=aW (av G3 _) hg4 (by omega)
 have lt4:=hP4.lt
 have ok4:r4.Ok:=by rw[hr4.out];exact iU _ _ _
 clear hg4 G3 hP3 R6
 skip
 have ME:aH (v4.alloc (.cells #[.int .u64 r4.x0,.int .u64 r4.x1,.int .u64 r4.x2,.int .u64 r4.x3,.int .u64 r4.x4] 54)) v4.heap.size 54 (aR r4):=aH.new v4 (aR r4) _
 go_wp2_with fail
 refine (jy (w.heap.size+1+1) 10 r4 r4 _ (by decide) ok4 ok4 (hP4.alloc _)).mono ?_
 rintro e v5 ⟨r5,Cm,rfl,hg5,hP5⟩
 have G5:=aW (av G4 _) hg5 (by omega)
 have lt5:=hP5.lt
 have ok5:r5.Ok:=by rw[Cm.out];exact iU _ _ _
 have MF:=ME.grown hg5 (bH (by omega))
 clear hg5 G4 hP4 ME
 skip
 have KA:aH (v5.alloc (.cells #[.int .u64 r5.x0,.int .u64 r5.x1,.int .u64 r5.x2,.int .u64 r5.x3,.int .u64 r5.x4] 54)) v5.heap.size 54 (aR r5):=aH.new v5 (aR r5) _
 go_wp2_with fail
 refine (jy (w.heap.size+1+1) 20 r5 r5 _ (by decide) ok5 ok5 (hP5.alloc _)).mono ?_
 rintro e v6 ⟨r6,hr6,rfl,uL,hP6⟩
 have G6:=aW (av G5 _) uL (by omega)
 have lt6:=hP6.lt
 have ok6:r6.Ok:=by rw[hr6.out];exact iU _ _ _
 have tX:=(MF.alloc _).grown uL (bH (by omega))
 clear uL G5 hP5 MF KA
 skip
 have agd:=tX.cell (i:=0) rfl
 have agf:=tX.cell (i:=1) rfl
 have agh:=tX.cell (i:=2) rfl
 have agi:=tX.cell (i:=3) rfl
 have agj:=tX.cell (i:=4) rfl
 go_wp2_with fail
 refine (jy (w.heap.size+1+1) 10 r6 r4 _ (by decide) ok6 ok4 hP6).mono ?_
 rintro e v7 ⟨r7,hr7,rfl,FD,hP7⟩
 have G7:=aW G6 FD (by omega)
 have lt7:=hP7.lt
 have ok7:r7.Ok:=by rw[hr7.out];exact iU _ _ _
 clear FD G6 hP6 tX
 clear agd agf agh agi agj
 have Dw:aH (v7.alloc (.cells #[.int .u64 r7.x0,.int .u64 r7.x1,.int .u64 r7.x2,.int .u64 r7.x3,.int .u64 r7.x4] 54)) v7.heap.size 54 (aR r7):=aH.new v7 (aR r7) _
 go_wp2_with fail
 refine (jy (w.heap.size+1+1) 50 r7 r7 _ (by decide) ok7 ok7 (hP7.alloc _)).mono ?_
 rintro e v8 ⟨r8,hr8,rfl,hg8,hP8⟩
 have G8:=aW (av G7 _) hg8 (by omega)
 have lt8:=hP8.lt
 have ok8:r8.Ok:=by rw[hr8.out];exact iU _ _ _
 have Dx:=Dw.grown hg8 (bH (by omega))
 clear hg8 G7 hP7 Dw
 skip
 have GD:aH (v8.alloc (.cells #[.int .u64 r8.x0,.int .u64 r8.x1,.int .u64 r8.x2,.int .u64 r8.x3,.int .u64 r8.x4] 54)) v8.heap.size 54 (aR r8):=aH.new v8 (aR r8) _
 go_wp2_with fail
 refine (jy (w.heap.size+1+1) 100 r8 r8 _ (by decide) ok8 ok8 (hP8.alloc _)).mono ?_
 rintro e v9 ⟨r9,hr9,rfl,hg9,hP9⟩
 have G9:=aW (av G8 _) hg9 (by omega)
 have lt9:=hP9.lt
 have ok9:r9.Ok:=by rw[hr9.out];exact iU _ _ _
 have nQ:=(Dx.alloc _).grown hg9 (bH (by omega))
 clear hg9 G8 hP8 Dx GD
 skip
 have agq:=nQ.cell (i:=0) rfl
 have agr:=nQ.cell (i:=1) rfl
 have ags:=nQ.cell (i:=2) rfl
 have agt:=nQ.cell (i:=3) rfl
 have agu:=nQ.cell (i:=4) rfl
 go_wp2_with fail
 refine (jy (w.heap.size+1+1) 50 r9 r7 _ (by decide) ok9 ok7 hP9).mono ?_
 rintro e v10 ⟨r10,KC,rfl,KD,ab9⟩
 have G10:=aW G9 KD (by omega)
 have alF:=ab9.lt
 have alG:r10.Ok:=by rw[KC.out];exact iU _ _ _
 clear KD G9 hP9 nQ
 clear agq agr ags agt agu
 go_wp2_with fail
 skip
 go_ret
 have e1:r1=Mw a:=hr1.out
 have e2:r2=R3 a:=by rw[hr2.out,e1];rfl
 have e3:r3=Mx a:=by rw[hr3.out,e2];rfl
 have e4:r4=Gz a:=by rw[hr4.out,e3];rfl
 have e5:r5=MB a:=by rw[Cm.out,e4];rfl
 have e6:r6=R4 a:=by rw[hr6.out,e5];rfl
 have e7:r7=GA a:=by rw[hr7.out,e6,e4];rfl
 have e8:r8=MC a:=by rw[hr8.out,e7];rfl
 have e9:r9=R5 a:=by rw[hr9.out,e8];rfl
 have e10:r10=xQ a:=by rw[KC.out,e9,e7];rfl
 exact⟨_,r10,Lib.hid e10,rfl,G10,by omega,ab9⟩
end
section
open Go.RowKit
inductive Item where
 | any
 | val (x:Value)
 | ptr
def Cw (w0:World) (env:List (Nat×Fe)) (B:Nat):Prop:=w0.heap.size<=B/\∀p∈env,p.1≠B
def Item.holds (K:Nat->Prop):Item->Value->World->Prop
 | .any,_,_=>True
 | .val x,v,_=>v=x
 | .ptr,v,w=>∃Bn,v=.pointer (some ⟨Bn,0,none⟩)/\fU w Bn 54/\K Bn
def sN (K:Nat->Prop) (L:List Item) (d:Nat) (v:Value) (w:World):Prop:=(L.getD d .any).holds K v w
def jY (w:World) (B:Nat) (r:Fe):World:=
 ((((w.setCell ⟨B,0,none⟩ (.int .u64 r.x0)).setCell ⟨B,1,none⟩ (.int .u64 r.x1)).setCell ⟨B,2,none⟩ (.int .u64 r.x2)).setCell ⟨B,3,none⟩ (.int .u64 r.x3)).setCell ⟨B,4,none⟩ (.int .u64 r.x4)
def GH (r:Fe) (w w':World):Prop:=w.grownBy w' none\/∃Bn,w'=jY w Bn r/\fU w Bn 54
theorem gQ (r:Fe) (w:World):GH r w w:=Or.inl (ah _ _)
theorem AB {w:World} {B:Nat} {r:Fe} {T:TypeId} (h:fU w B T) (C:Nat):fU (jY w C r) B T:=by
 by_cases e:C=B
 .subst e;exact⟨_,_,_,_,_,h.sK _ _ _ _ _⟩
 .exact bS (bS (bS (bS (bS h e _) e _) e _) e _) e _
theorem yJ {w:World} {B C:Nat} {r:Fe} {T:TypeId} {L:List Value} (h:aH w B T L) (e:C≠B):aH (jY w C r) B T L:=
 ((((h.other e _).other e _).other e _).other e _).other e _
theorem jP {w:World} {B:Nat} {r:Fe} {T:TypeId} (h:fU w B T):aH (jY w B r) B T (aR r):=h.sK _ _ _ _ _
theorem oz (K:Nat->Prop) (L:List Item) (r:Fe) (d:Nat) (v:Value) (w w':World) (hR:GH r w w') (h:sN K L d v w):sN K L d v w':=by
 unfold sN at *
 cases hx:L.getD d .any with
 | any=>trivial
 | val x=>rw[hx]at h;exact h
 | ptr=>
  rw[hx]at h
  obtain⟨Bn,hv,hr,hN⟩:=h
  refine⟨Bn,hv,?_,hN⟩
  rcases hR with hg |⟨C,rfl,_⟩
  .exact hr.grown hg (by simp)
  .exact AB hr C
def Stored (K:Nat->Prop) (r:Fe) (_:Nat) (u:Value) (w:World):Prop:=∃Bn,u=.pointer (some ⟨Bn,0,none⟩)/\K Bn/\aH w Bn 54 (aR r)
theorem mE (K:Nat->Prop) (r:Fe) (j:Nat) (u:Value) (w w':World) (hR:GH r w w') (h:Stored K r j u w):Stored K r j u w':=by
 obtain⟨Bn,hu,hN,hb⟩:=h
 refine⟨Bn,hu,hN,?_⟩
 rcases hR with hg |⟨C,rfl,hr⟩
 .exact hb.grown hg (by simp)
 .by_cases e:C=Bn
  .subst e;exact jP hr
  .exact yJ hb e
structure mY (w0:World) (N:Nat) (env:List (Nat×Fe)) (wI:List Nat) (w:World):Prop where
 g:w0.grownBy w none
 e:∀p∈env,aH w p.1 54 (aR p.2)
 r:∀B∈wI,fU w B 54
 n:∀p∈env,p.1<N
 l:N<=w.heap.size
 m:w0.heap.size<=N
theorem mY.grown {w0:World} {N:Nat} {env:List (Nat×Fe)} {wI:List Nat} {w w':World} (h:mY w0 N env wI w) (hg:w.grownBy w' none):mY w0 N env wI w':=
 ⟨aj h.g hg,fun p hp=>(h.e p hp).grown hg (by simp),fun B hB=>(h.r B hB).grown hg (by simp),h.n,Nat.le_trans h.l hg.size,h.m⟩
theorem mY.set {w0:World} {N:Nat} {env:List (Nat×Fe)} {wI:List Nat} {w:World} (h:mY w0 N env wI w) {B:Nat} (hB:Cw w0 env B) (r:Fe):mY w0 N env wI (jY w B r):=
 ⟨jH h.g hB.1 _ _ _ _ _,fun p hp=>yJ (h.e p hp) (Ne.symm (hB.2 p hp)),fun C hC=>AB (h.r C hC) B,h.n,by show N<=_;have:=h.l;simpa[jY,World.setCell] using this,h.m⟩
theorem mY.fresh {w0:World} {N:Nat} {env:List (Nat×Fe)} {wI:List Nat} {w:World} (h:mY w0 N env wI w):Cw w0 env w.heap.size:=
 ⟨Nat.le_trans h.m h.l,fun p hp=>by have:=h.n p hp;have:=h.l;omega⟩
def yC (a:Act):Nat->List Value->Prop
 | _,[]=>True
 | i,v:: r=>a.tmps.getD i undef=v/\yC a (i+1) r
theorem xB {a:Act}:∀(vs:List Value) (i k:Nat) (v:Value),yC a i vs->vs[k]?=some v->a.tmps.getD (i+k) undef=v:=by
 intro vs
 induction vs with
 | nil=>intro i k v _ h;simp at h
 | cons x r ih=>
  intro i k v h hk
  cases k with
  | zero=>simp at hk;subst hk;exact h.1
  | succ k=>have:=ih (i+1) k v h.2 (by simpa using hk);rwa [show i+(k+1)=i+1+k by omega]
theorem gW {a:Act} {vs:List Value} (hs:a.tmps.size=vs.length) (h:yC a 0 vs) (hd:a.defers=[]):a={tmps:=vs.toArray,defers:=[]}:=by
 have ht:a.tmps=vs.toArray:=by
  apply Array.ext_getElem?
  intro i
  by_cases hi:i<a.tmps.size
  .have h2:i<vs.length:=by omega
   have:=xB vs 0 i vs[i] h (List.getElem?_eq_getElem h2)
   rw[Nat.zero_add]at this
   simp[hi]at this
   rw[Array.getElem?_eq_getElem hi,this]
   simp[h2]
  .rw[Array.getElem?_eq_none (by omega),Array.getElem?_eq_none (by simp;omega)]
 cases a
 simp at ht hd
 rw[ht,hd]
theorem sO (w:World):w.grownBy w.drew none:=aX (ah _ _)
end
section
open Go.RowKit
set_option maxRecDepth 100000 in
set_option maxHeartbeats 1600000 in
theorem Ap (p q s:Fe) (w0:World) (iW:p.Ok) (kS:q.Ok) (oks:s.Ok):
  Calls Tryz.prog 150 #[.agg #[.int .u64 p.x0,.int .u64 p.x1,.int .u64 p.x2,.int .u64 p.x3,.int .u64 p.x4],.agg #[.int .u64 q.x0,.int .u64 q.x1,.int .u64 q.x2,.int .u64 q.x3,.int .u64 q.x4],.agg #[.int .u64 s.x0,.int .u64 s.x1,.int .u64 s.x2,.int .u64 s.x3,.int .u64 s.x4]] w0 fun e w'=>e=.returned (.bool (decide (Fe.m (Fe.aM (Fe.cu p) s)=Fe.m q)))/\w0.grownBy w' none:=by
 go_enter Tryz.func150,Tryz.ntmps150
 go_wp2
 have hB0:mY w0 (w0.heap.size+3) [(w0.heap.size,p),((w0.heap.size+1),q),((w0.heap.size+1+1),s)] [] (((w0.alloc (.cells #[.int .u64 p.x0,.int .u64 p.x1,.int .u64 p.x2,.int .u64 p.x3,.int .u64 p.x4] 54)).alloc (.cells #[.int .u64 q.x0,.int .u64 q.x1,.int .u64 q.x2,.int .u64 q.x3,.int .u64 q.x4] 54)).alloc (.cells #[.int .u64 s.x0,.int .u64 s.x1,.int .u64 s.x2,.int .u64 s.x3,.int .u64 s.x4] 54)):=
  ⟨av (av (av (ah _ _) _) _) _,by
   intro p hp
   simp only[List.mem_cons,List.not_mem_nil,or_false]at hp
   rcases hp with rfl|rfl|rfl
   .exact ((aH.new w0 (aR _) _).alloc _).alloc _
   .exact (aH.newAt (w0.alloc _) (aR _) _ (by simp)).alloc _
   .exact aH.newAt _ (aR _) _ (by simp),by simp,by intro p hp;simp only[List.mem_cons,List.not_mem_nil,or_false]at hp;rcases hp with rfl|rfl|rfl<;>simp only[]<;>omega,by simp,by omega⟩
 refine jr (sN (Cw w0 [(w0.heap.size,p),((w0.heap.size+1),q),((w0.heap.size+1+1),s)]) [.any,.any,.any,.any,.any,.any,.val (.bool (decide (Fe.m (Fe.aM (Fe.cu p) s)=Fe.m q))),.val p.v,.val (Fe.cu p).v,.val s.v,.val (Fe.aM (Fe.cu p) s).v,.val q.v,.val (.bool (decide (Fe.m (Fe.aM (Fe.cu p) s)=Fe.m q)))]) (fun j=>0) (Stored (Cw w0 [(w0.heap.size,p),((w0.heap.size+1),q),((w0.heap.size+1+1),s)]) (Fe.bI)) (mY w0 (w0.heap.size+3) [(w0.heap.size,p),((w0.heap.size+1),q),((w0.heap.size+1+1),s)] []) (GH (Fe.bI)) (by kernel_rfl) (by kernel_rfl) (by kernel_rfl) (hB0.grown (sO _)) (fun d u w1 w2 hR h=>oz _ _ _ d u w1 w2 hR h) (fun j u w1 w2 hR h=>mE _ _ j u w1 w2 hR h) (by kernel_rfl) ?_ ?_
 .refine⟨cK rfl rfl fun a w h=>?_,?_⟩
  .have e3:_=Value.pointer (some ⟨w0.heap.size,0,none⟩):=h.r 3
   have hb:=h.base.e (w0.heap.size,p) (by simp)
   have c0:w.cell? ⟨w0.heap.size,0,none⟩=some (.int .u64 p.x0):=hb.cell (i:=0) rfl
   have c1:w.cell? ⟨w0.heap.size,1,none⟩=some (.int .u64 p.x1):=hb.cell (i:=1) rfl
   have c2:w.cell? ⟨w0.heap.size,2,none⟩=some (.int .u64 p.x2):=hb.cell (i:=2) rfl
   have c3:w.cell? ⟨w0.heap.size,3,none⟩=some (.int .u64 p.x3):=hb.cell (i:=3) rfl
   have c4:w.cell? ⟨w0.heap.size,4,none⟩=some (.int .u64 p.x4):=hb.cell (i:=4) rfl
   refine⟨.agg #[.int .u64 p.x0,.int .u64 p.x1,.int .u64 p.x2,.int .u64 p.x3,.int .u64 p.x4],w,?_,h.base,gQ _ _,rfl⟩
   clear h hb
   simp only[execOp,Act.eval,e3]
   go_simp
  refine⟨gT rfl rfl fun a w h=>?_,?_⟩
  .have e7:_=p.v:=h.d 7
   have e7x:a.tmps[7]?.getD undef=p.v:=by simpa using e7
   have hb:=h.base
   refine⟨117,#[p.v],?_,?_⟩
   .clear h hb e7
    go_simp
   .refine (wG p w iW).mono ?_
    intro e w1 hp
    obtain⟨rfl,hg⟩:=fq hp
    exact⟨_,rfl,hb.grown hg,Or.inl hg,rfl⟩
  refine⟨cK rfl rfl fun a w h=>?_,?_⟩
  .have e5:_=Value.pointer (some ⟨(w0.heap.size+1+1),0,none⟩):=h.r 5
   have hb:=h.base.e ((w0.heap.size+1+1),s) (by simp)
   have c0:w.cell? ⟨(w0.heap.size+1+1),0,none⟩=some (.int .u64 s.x0):=hb.cell (i:=0) rfl
   have c1:w.cell? ⟨(w0.heap.size+1+1),1,none⟩=some (.int .u64 s.x1):=hb.cell (i:=1) rfl
   have c2:w.cell? ⟨(w0.heap.size+1+1),2,none⟩=some (.int .u64 s.x2):=hb.cell (i:=2) rfl
   have c3:w.cell? ⟨(w0.heap.size+1+1),3,none⟩=some (.int .u64 s.x3):=hb.cell (i:=3) rfl
   have c4:w.cell? ⟨(w0.heap.size+1+1),4,none⟩=some (.int .u64 s.x4):=hb.cell (i:=4) rfl
   refine⟨.agg #[.int .u64 s.x0,.int .u64 s.x1,.int .u64 s.x2,.int .u64 s.x3,.int .u64 s.x4],w,?_,h.base,gQ _ _,rfl⟩
   clear h hb
   simp only[execOp,Act.eval,e5]
   go_simp
  refine⟨gT rfl rfl fun a w h=>?_,?_⟩
  .have e8:_=(Fe.cu p).v:=h.d 8
   have e9:_=s.v:=h.d 9
   have e8x:a.tmps[8]?.getD undef=(Fe.cu p).v:=by simpa using e8
   have e9x:a.tmps[9]?.getD undef=s.v:=by simpa using e9
   have hb:=h.base
   refine⟨74,#[(Fe.cu p).v,s.v],?_,?_⟩
   .clear h hb e8 e9
    go_simp
   .refine (lS (Fe.cu p) s w (Fe.dS _).ok oks).mono ?_
    intro e w1 hp
    obtain⟨rfl,hg⟩:=fq hp
    exact⟨_,rfl,hb.grown hg,Or.inl hg,rfl⟩
  refine⟨cK rfl rfl fun a w h=>?_,?_⟩
  .have e4:_=Value.pointer (some ⟨(w0.heap.size+1),0,none⟩):=h.r 4
   have hb:=h.base.e ((w0.heap.size+1),q) (by simp)
   have c0:w.cell? ⟨(w0.heap.size+1),0,none⟩=some (.int .u64 q.x0):=hb.cell (i:=0) rfl
   have c1:w.cell? ⟨(w0.heap.size+1),1,none⟩=some (.int .u64 q.x1):=hb.cell (i:=1) rfl
   have c2:w.cell? ⟨(w0.heap.size+1),2,none⟩=some (.int .u64 q.x2):=hb.cell (i:=2) rfl
   have c3:w.cell? ⟨(w0.heap.size+1),3,none⟩=some (.int .u64 q.x3):=hb.cell (i:=3) rfl
   have c4:w.cell? ⟨(w0.heap.size+1),4,none⟩=some (.int .u64 q.x4):=hb.cell (i:=4) rfl
   refine⟨.agg #[.int .u64 q.x0,.int .u64 q.x1,.int .u64 q.x2,.int .u64 q.x3,.int .u64 q.x4],w,?_,h.base,gQ _ _,rfl⟩
   clear h hb
   simp only[execOp,Act.eval,e4]
   go_simp
  refine⟨gT rfl rfl fun a w h=>?_,?_⟩
  .have e10:_=(Fe.aM (Fe.cu p) s).v:=h.d 10
   have e11:_=q.v:=h.d 11
   have acd:a.tmps[10]?.getD undef=(Fe.aM (Fe.cu p) s).v:=by simpa using e10
   have ace:a.tmps[11]?.getD undef=q.v:=by simpa using e11
   have hb:=h.base
   refine⟨73,#[(Fe.aM (Fe.cu p) s).v,q.v],?_,?_⟩
   .clear h hb e10 e11
    go_simp
   .refine (AA (Fe.aM (Fe.cu p) s) q w (Fe.mul_right _ _).ok kS).mono ?_
    intro e w1 hp
    obtain⟨rfl,hg⟩:=hp
    exact⟨_,rfl,hb.grown hg,Or.inl hg,rfl⟩
  refine⟨cK rfl rfl fun a w h=>?_,?_⟩
  .have e12:_=Value.bool (decide (Fe.m (Fe.aM (Fe.cu p) s)=Fe.m q)):=h.d 12
   refine⟨.bool (decide (Fe.m (Fe.aM (Fe.cu p) s)=Fe.m q)),w,?_,h.base,gQ _ _,rfl⟩
   clear h
   simp only[execOp,Act.eval,e12]
   go_simp
  trivial
 .intro a w1 hB hsz hdf hrest aC jX
  have hg:=hB.g
  obtain rfl:=gW (a:=a) (vs:=[.agg #[.int .u64 p.x0,.int .u64 p.x1,.int .u64 p.x2,.int .u64 p.x3,.int .u64 p.x4],.agg #[.int .u64 q.x0,.int .u64 q.x1,.int .u64 q.x2,.int .u64 q.x3,.int .u64 q.x4],.agg #[.int .u64 s.x0,.int .u64 s.x1,.int .u64 s.x2,.int .u64 s.x3,.int .u64 s.x4],.pointer (some ⟨w0.heap.size,0,none⟩),.pointer (some ⟨w0.heap.size+1,0,none⟩),.pointer (some ⟨w0.heap.size+1+1,0,none⟩),.bool (decide (Fe.m (Fe.aM (Fe.cu p) s)=Fe.m q)),p.v,(Fe.cu p).v,s.v,(Fe.aM (Fe.cu p) s).v,q.v,.bool (decide (Fe.m (Fe.aM (Fe.cu p) s)=Fe.m q))]) hsz ⟨hrest 0 (by kernel_rfl),hrest 1 (by kernel_rfl),hrest 2 (by kernel_rfl),hrest 3 (by kernel_rfl),hrest 4 (by kernel_rfl),hrest 5 (by kernel_rfl),aC 6 (by kernel_rfl),aC 7 (by kernel_rfl),aC 8 (by kernel_rfl),aC 9 (by kernel_rfl),aC 10 (by kernel_rfl),aC 11 (by kernel_rfl),aC 12 (by kernel_rfl),trivial⟩ hdf
  clear hB hsz hdf hrest aC jX
  go_wp2
  go_ret
  exact⟨rfl,hg⟩
end
section
open Go.RowKit
def AJ (a:Fe):Fe:=mD 5 (xQ a) (Fe.aM (Fe.cu (Fe.cu (Fe.cu a))) (Fe.aM (Fe.cu a) a))
set_option maxRecDepth 100000 in
set_option maxHeartbeats 1600000 in
theorem KE (p:Fe) (w0:World) (iW:p.Ok):
  Calls Tryz.prog 93 #[.agg #[.int .u64 p.x0,.int .u64 p.x1,.int .u64 p.x2,.int .u64 p.x3,.int .u64 p.x4]] w0 (oq (AJ p) w0):=by
 have UY:∀o,aH ((w0.alloc (.cells #[.int .u64 p.x0,.int .u64 p.x1,.int .u64 p.x2,.int .u64 p.x3,.int .u64 p.x4] 54)).alloc o) w0.heap.size 54 (aR p):=fun o=>(aH.new w0 (aR p) _).alloc o
 have hR0:fU ((w0.alloc (.cells #[.int .u64 p.x0,.int .u64 p.x1,.int .u64 p.x2,.int .u64 p.x3,.int .u64 p.x4] 54)).alloc (.cells #[.int .u64 0,.int .u64 0,.int .u64 0,.int .u64 0,.int .u64 0] 54)) (w0.heap.size+1) 54:=⟨_,_,_,_,_,aH.newAt _ [.int .u64 0,.int .u64 0,.int .u64 0,.int .u64 0,.int .u64 0] _ (by simp)⟩
 have hg0:∀c0 c1,w0.grownBy ((w0.alloc c0).alloc c1) none:=fun c0 c1=>av (av (ah _ _) _) _
 go_enter Tryz.func93,Tryz.ntmps93
 go_wp2_with fail
 refine (wG p _ iW).mono ?_
 rintro e v1 ⟨q1,hq1,rfl,hg1⟩
 have ok1:q1.Ok:=by rw[hq1.out];exact (Fe.dS _).ok
 have hA1:=(UY _).grown hg1 (by simp)
 have kG:=hR0.grown hg1 (by simp)
 have G1:=aj (hg0 _ _) hg1
 clear UY hR0 hg0 hg1
 go_wp2_with fail
 refine (wG q1 _ ok1).mono ?_
 rintro e v2 ⟨q2,hq2,rfl,hg2⟩
 have ok2:q2.Ok:=by rw[hq2.out];exact (Fe.dS _).ok
 have hA2:=hA1.grown hg2 (by simp)
 have hR2:=kG.grown hg2 (by simp)
 have G2:=aj G1 hg2
 clear hA1 kG G1 hg2
 go_wp2_with fail
 refine (wG q2 _ ok2).mono ?_
 rintro e v3 ⟨q3,hq3,rfl,hg3⟩
 have agw:q3.Ok:=by rw[hq3.out];exact (Fe.dS _).ok
 have hA3:=hA2.grown hg3 (by simp)
 have Ms:=hR2.grown hg3 (by simp)
 have G3:=aj G2 hg3
 have hlt:=Ms
 obtain⟨_,_,_,_,_,hlt⟩:=hlt
 have hlt:=hlt.lt
 clear hA2 hR2 G2 hg3
 have hB0:mY w0 (v3.heap.size+1) [(w0.heap.size,p),(v3.heap.size,q3)] [(w0.heap.size+1)] (v3.alloc (.cells #[.int .u64 q3.x0,.int .u64 q3.x1,.int .u64 q3.x2,.int .u64 q3.x3,.int .u64 q3.x4] 54)):=
  ⟨av G3 _,by
   intro z hz
   simp only[List.mem_cons,List.not_mem_nil,or_false]at hz
   rcases hz with rfl|rfl
   .exact hA3.alloc _
   .exact aH.new v3 (aR _) _,by
   intro B hB
   simp only[List.mem_cons,List.not_mem_nil,or_false]at hB
   subst hB
   exact Ms.grown (World.grownBy_alloc _ _ none) (by simp),by intro z hz;simp only[List.mem_cons,List.not_mem_nil,or_false]at hz;rcases hz with rfl|rfl<;>simp only[]<;>omega,by simp,by omega⟩
 clear hA3 Ms G3
 go_wp2_with fail
 refine jr (sN (Cw w0 [(w0.heap.size,p),(v3.heap.size,q3)]) [.any,.any,.any,.any,.ptr,.any,.any,.any,.any,.any,.val q3.v,.val p.v,.val (Fe.cu p).v,.val p.v,.val (Fe.aM (Fe.cu p) p).v,.val (Fe.aM q3 (Fe.aM (Fe.cu p) p)).v,.any,.any,.any,.any,.any]) (fun j=>if j=7 then 4 else 0) (Stored (Cw w0 [(w0.heap.size,p),(v3.heap.size,q3)]) (Fe.aM q3 (Fe.aM (Fe.cu p) p))) (mY w0 (v3.heap.size+1) [(w0.heap.size,p),(v3.heap.size,q3)] [(w0.heap.size+1)]) (GH (Fe.aM q3 (Fe.aM (Fe.cu p) p))) (by kernel_rfl) (by kernel_rfl) (by kernel_rfl) (hB0.grown (sO _)) (fun d u w1 w2 hR h=>oz _ _ _ d u w1 w2 hR h) (fun j u w1 w2 hR h=>mE _ _ j u w1 w2 hR h) (by kernel_rfl) ?_ ?_
 .refine⟨cK rfl rfl fun a w h=>?_,?_⟩
  .have e3:_=Value.pointer (some ⟨v3.heap.size,0,none⟩):=h.r 3
   have hb:=h.base.e (v3.heap.size,q3) (by simp)
   have c0:w.cell? ⟨v3.heap.size,0,none⟩=some (.int .u64 q3.x0):=hb.cell (i:=0) rfl
   have c1:w.cell? ⟨v3.heap.size,1,none⟩=some (.int .u64 q3.x1):=hb.cell (i:=1) rfl
   have c2:w.cell? ⟨v3.heap.size,2,none⟩=some (.int .u64 q3.x2):=hb.cell (i:=2) rfl
   have c3:w.cell? ⟨v3.heap.size,3,none⟩=some (.int .u64 q3.x3):=hb.cell (i:=3) rfl
   have c4:w.cell? ⟨v3.heap.size,4,none⟩=some (.int .u64 q3.x4):=hb.cell (i:=4) rfl
   refine⟨.agg #[.int .u64 q3.x0,.int .u64 q3.x1,.int .u64 q3.x2,.int .u64 q3.x3,.int .u64 q3.x4],w,?_,h.base,gQ _ _,rfl⟩
   clear h hb
   simp only[execOp,Act.eval,e3]
   go_simp
  refine⟨cK rfl rfl fun a w h=>?_,?_⟩
  .have e1:_=Value.pointer (some ⟨w0.heap.size,0,none⟩):=h.r 1
   have hb:=h.base.e (w0.heap.size,p) (by simp)
   have c0:w.cell? ⟨w0.heap.size,0,none⟩=some (.int .u64 p.x0):=hb.cell (i:=0) rfl
   have c1:w.cell? ⟨w0.heap.size,1,none⟩=some (.int .u64 p.x1):=hb.cell (i:=1) rfl
   have c2:w.cell? ⟨w0.heap.size,2,none⟩=some (.int .u64 p.x2):=hb.cell (i:=2) rfl
   have c3:w.cell? ⟨w0.heap.size,3,none⟩=some (.int .u64 p.x3):=hb.cell (i:=3) rfl
   have c4:w.cell? ⟨w0.heap.size,4,none⟩=some (.int .u64 p.x4):=hb.cell (i:=4) rfl
   refine⟨.agg #[.int .u64 p.x0,.int .u64 p.x1,.int .u64 p.x2,.int .u64 p.x3,.int .u64 p.x4],w,?_,h.base,gQ _ _,rfl⟩
   clear h hb
   simp only[execOp,Act.eval,e1]
   go_simp
  refine⟨gT rfl rfl fun a w h=>?_,?_⟩
  .have e11:_=p.v:=h.d 11
   have ace:a.tmps[11]?.getD undef=p.v:=by simpa using e11
   have hb:=h.base
   refine⟨117,#[p.v],?_,?_⟩
   .clear h hb e11
    go_simp
   .refine (wG p w iW).mono ?_
    intro e w1 hp
    obtain⟨rfl,hg⟩:=fq hp
    exact⟨_,rfl,hb.grown hg,Or.inl hg,rfl⟩
  refine⟨cK rfl rfl fun a w h=>?_,?_⟩
  .have e1:_=Value.pointer (some ⟨w0.heap.size,0,none⟩):=h.r 1
   have hb:=h.base.e (w0.heap.size,p) (by simp)
   have c0:w.cell? ⟨w0.heap.size,0,none⟩=some (.int .u64 p.x0):=hb.cell (i:=0) rfl
   have c1:w.cell? ⟨w0.heap.size,1,none⟩=some (.int .u64 p.x1):=hb.cell (i:=1) rfl
   have c2:w.cell? ⟨w0.heap.size,2,none⟩=some (.int .u64 p.x2):=hb.cell (i:=2) rfl
   have c3:w.cell? ⟨w0.heap.size,3,none⟩=some (.int .u64 p.x3):=hb.cell (i:=3) rfl
   have c4:w.cell? ⟨w0.heap.size,4,none⟩=some (.int .u64 p.x4):=hb.cell (i:=4) rfl
   refine⟨.agg #[.int .u64 p.x0,.int .u64 p.x1,.int .u64 p.x2,.int .u64 p.x3,.int .u64 p.x4],w,?_,h.base,gQ _ _,rfl⟩
   clear h hb
   simp only[execOp,Act.eval,e1]
   go_simp
  refine⟨gT rfl rfl fun a w h=>?_,?_⟩
  .have e12:_=(Fe.cu p).v:=h.d 12
   have e13:_=p.v:=h.d 13
   have agx:a.tmps[12]?.getD undef=(Fe.cu p).v:=by simpa using e12
   have alH:a.tmps[13]?.getD undef=p.v:=by simpa using e13
   have hb:=h.base
   refine⟨74,#[(Fe.cu p).v,p.v],?_,?_⟩
   .clear h hb e12 e13
    go_simp
   .refine (lS (Fe.cu p) p w (Fe.dS _).ok iW).mono ?_
    intro e w1 hp
    obtain⟨rfl,hg⟩:=fq hp
    exact⟨_,rfl,hb.grown hg,Or.inl hg,rfl⟩
  refine⟨gT rfl rfl fun a w h=>?_,?_⟩
  .have e10:_=q3.v:=h.d 10
   have e14:_=(Fe.aM (Fe.cu p) p).v:=h.d 14
   have acd:a.tmps[10]?.getD undef=q3.v:=by simpa using e10
   have agy:a.tmps[14]?.getD undef=(Fe.aM (Fe.cu p) p).v:=by simpa using e14
   have hb:=h.base
   refine⟨74,#[q3.v,(Fe.aM (Fe.cu p) p).v],?_,?_⟩
   .clear h hb e10 e14
    go_simp
   .refine (lS q3 (Fe.aM (Fe.cu p) p) w agw (Fe.mul_right _ _).ok).mono ?_
    intro e w1 hp
    obtain⟨rfl,hg⟩:=fq hp
    exact⟨_,rfl,hb.grown hg,Or.inl hg,rfl⟩
  refine⟨cK rfl rfl fun a w h=>?_,?_⟩
  .refine⟨.pointer (some ⟨w.heap.size,0,none⟩),w.alloc (.cells #[.int .u64 0,.int .u64 0,.int .u64 0,.int .u64 0,.int .u64 0] 54),?_,h.base.grown (World.grownBy_alloc _ _ _),Or.inl (World.grownBy_alloc _ _ _),⟨w.heap.size,rfl,⟨_,_,_,_,_,aH.new w [.int .u64 0,.int .u64 0,.int .u64 0,.int .u64 0,.int .u64 0] _⟩,h.base.fresh⟩⟩
   clear h
   go_simp
  refine⟨qJ rfl rfl fun a w h=>?_,?_⟩
  .obtain⟨Bn,ep,hroom,hK⟩:∃Bn,a.tmps.getD 4 undef=.pointer (some ⟨Bn,0,none⟩)/\fU w Bn 54/\(Cw w0 [(w0.heap.size,p),(v3.heap.size,q3)]) Bn:=h.dep 4 (by kernel_rfl)
   have e15:_=Value.agg #[.int .u64 (Fe.aM q3 (Fe.aM (Fe.cu p) p)).x0,.int .u64 (Fe.aM q3 (Fe.aM (Fe.cu p) p)).x1,.int .u64 (Fe.aM q3 (Fe.aM (Fe.cu p) p)).x2,.int .u64 (Fe.aM q3 (Fe.aM (Fe.cu p) p)).x3,.int .u64 (Fe.aM q3 (Fe.aM (Fe.cu p) p)).x4]:=h.d 15
   refine⟨jY w Bn (Fe.aM q3 (Fe.aM (Fe.cu p) p)),?_,h.base.set hK _,Or.inr ⟨Bn,rfl,hroom⟩,⟨Bn,ep,hK,jP hroom⟩⟩
   obtain⟨u0,u1,u2,u3,u4,hR⟩:=hroom
   have c0r:=hR.cell (i:=0) rfl;have f0r:=hR.free 0
   have c1r:=hR.cell (i:=1) rfl;have f1r:=hR.free 1
   have c2r:=hR.cell (i:=2) rfl;have f2r:=hR.free 2
   have c3r:=hR.cell (i:=3) rfl;have f3r:=hR.free 3
   have c4r:=hR.cell (i:=4) rfl;have f4r:=hR.free 4
   clear h hK hR
   unfold jY
   simp only[execOp,Act.eval,ep,e15]
   go_simp
  trivial
 .intro a' w1 hB hsz hdf hrest aC jX
  obtain⟨Bn,xR,hK,hb⟩:=jX 7 _ rfl rfl
  obtain rfl:=gW (a:=a') (vs:=[.agg #[.int .u64 p.x0,.int .u64 p.x1,.int .u64 p.x2,.int .u64 p.x3,.int .u64 p.x4],.pointer (some ⟨w0.heap.size,0,none⟩),.pointer (some ⟨w0.heap.size+1,0,none⟩),.pointer (some ⟨v3.heap.size,0,none⟩),.pointer (some ⟨Bn,0,none⟩),undef,.agg #[.int .u64 p.x0,.int .u64 p.x1,.int .u64 p.x2,.int .u64 p.x3,.int .u64 p.x4],.agg #[.int .u64 q1.x0,.int .u64 q1.x1,.int .u64 q1.x2,.int .u64 q1.x3,.int .u64 q1.x4],.agg #[.int .u64 q2.x0,.int .u64 q2.x1,.int .u64 q2.x2,.int .u64 q2.x3,.int .u64 q2.x4],.agg #[.int .u64 q3.x0,.int .u64 q3.x1,.int .u64 q3.x2,.int .u64 q3.x3,.int .u64 q3.x4],q3.v,p.v,(Fe.cu p).v,p.v,(Fe.aM (Fe.cu p) p).v,(Fe.aM q3 (Fe.aM (Fe.cu p) p)).v,undef,undef,undef,undef,undef]) hsz ⟨hrest 0 (by kernel_rfl),hrest 1 (by kernel_rfl),hrest 2 (by kernel_rfl),hrest 3 (by kernel_rfl),xR,hrest 5 (by kernel_rfl),hrest 6 (by kernel_rfl),hrest 7 (by kernel_rfl),hrest 8 (by kernel_rfl),hrest 9 (by kernel_rfl),aC 10 (by kernel_rfl),aC 11 (by kernel_rfl),aC 12 (by kernel_rfl),aC 13 (by kernel_rfl),aC 14 (by kernel_rfl),aC 15 (by kernel_rfl),hrest 16 (by kernel_rfl),hrest 17 (by kernel_rfl),hrest 18 (by kernel_rfl),hrest 19 (by kernel_rfl),hrest 20 (by kernel_rfl),trivial⟩ hdf
  clear xR hsz hdf hrest aC jX hB0
  obtain⟨f,hf⟩:∃f,f=Fe.aM q3 (Fe.aM (Fe.cu p) p):=⟨_,rfl⟩
  have okf:f.Ok:=by rw[hf];exact (Fe.mul_right _ _).ok
  rw[<- hf]at hb
  have Hf:=Lib.hid hf;clear hf
  have hAx:=hB.e (w0.heap.size,p) (by simp)
  have hRx:=hB.r _ (List.mem_singleton.2 rfl)
  have G4:=hB.g
  have agz:=hb.lt
  have hKn:=hK.1
  have hKa:=hK.2 (w0.heap.size,p) (by simp)
  clear hK hB
  have c0:=hAx.cell (i:=0) rfl
  have c1:=hAx.cell (i:=1) rfl
  have c2:=hAx.cell (i:=2) rfl
  have c3:=hAx.cell (i:=3) rfl
  have c4:=hAx.cell (i:=4) rfl
  go_wp2_with fail
  refine (wH p _ iW).mono ?_
  rintro e w2 ⟨C,q,hq,rfl,hg5,hC,hP⟩
  have kS:q.Ok:=by rw[hq.out];exact iU _ _ _
  have hb2:=hb.grown hg5 (by simp)
  have JK:=hRx.grown hg5 (by simp)
  have G5:=aj G4 hg5
  have hs5:=hg5.size
  clear hAx hRx hb G4 hg5 c0 c1 c2 c3 c4
  have c0:=hb2.cell (i:=0) rfl
  have c1:=hb2.cell (i:=1) rfl
  have c2:=hb2.cell (i:=2) rfl
  have c3:=hb2.cell (i:=3) rfl
  have c4:=hb2.cell (i:=4) rfl
  go_wp2_with fail
  refine (jy C 5 q f _ (by decide) kS okf hP).mono ?_
  rintro e w3 ⟨g,hgg,rfl,uL,hP6⟩
  have hR6:=JK.grown uL (bH (by omega))
  have G6:=aW G5 uL (by omega)
  obtain⟨u0,u1,u2,u3,u4,zw⟩:=hR6
  clear JK hb2 G5 uL c0 c1 c2 c3 c4
  have t0:=zw.cell (i:=0) rfl
  have t1:=zw.cell (i:=1) rfl
  have t2:=zw.cell (i:=2) rfl
  have t3:=zw.cell (i:=3) rfl
  have t4:=zw.cell (i:=4) rfl
  have y0:=zw.free 0
  have y1:=zw.free 1
  have y2:=zw.free 2
  have y3:=zw.free 3
  have y4:=zw.free 4
  go_wp2_with fail
  refine bodyPost_ret (v:=.agg #[.int .u64 g.x0,.int .u64 g.x1,.int .u64 g.x2,.int .u64 g.x3,.int .u64 g.x4]) ?_ rfl ⟨g,Lib.hid ?_,rfl,jH G6 (by omega) _ _ _ _ _⟩
  .simp[results,Tryz.results93,go_sem,t0,t1,t2,t3,t4]
  .rw[hgg.out,hq.out,Hf.out,hq3.out,hq2.out,hq1.out];rfl
end
section
open Go.RowKit
def dW (u v:Fe):Fe:=Fe.aM (Fe.aM u (Fe.aM (Fe.cu v) v)) (mD 2 (xQ (Fe.aM u (Fe.aM (Fe.cu (Fe.aM (Fe.cu v) v)) v))) (Fe.aM u (Fe.aM (Fe.cu (Fe.aM (Fe.cu v) v)) v)))
set_option maxRecDepth 100000 in
set_option maxHeartbeats 1600000 in
theorem qz (p q:Fe) (w0:World) (iW:p.Ok) (kS:q.Ok):
  Calls Tryz.prog 149 #[.agg #[.int .u64 p.x0,.int .u64 p.x1,.int .u64 p.x2,.int .u64 p.x3,.int .u64 p.x4],.agg #[.int .u64 q.x0,.int .u64 q.x1,.int .u64 q.x2,.int .u64 q.x3,.int .u64 q.x4]] w0 (oq (dW p q) w0):=by
 go_enter Tryz.func149,Tryz.ntmps149
 go_wp2_with fail
 have UY:aH (((w0.alloc (.cells #[.int .u64 p.x0,.int .u64 p.x1,.int .u64 p.x2,.int .u64 p.x3,.int .u64 p.x4] 54)).alloc (.cells #[.int .u64 q.x0,.int .u64 q.x1,.int .u64 q.x2,.int .u64 q.x3,.int .u64 q.x4] 54)).alloc (.cells #[.int .u64 0,.int .u64 0,.int .u64 0,.int .u64 0,.int .u64 0] 54)) w0.heap.size 54 (aR p):=((aH.new w0 (aR p) _).alloc _).alloc _
 have hB0:mY w0 (w0.heap.size+3) [((w0.heap.size+1),q)] [(w0.heap.size+1+1)] (((w0.alloc (.cells #[.int .u64 p.x0,.int .u64 p.x1,.int .u64 p.x2,.int .u64 p.x3,.int .u64 p.x4] 54)).alloc (.cells #[.int .u64 q.x0,.int .u64 q.x1,.int .u64 q.x2,.int .u64 q.x3,.int .u64 q.x4] 54)).alloc (.cells #[.int .u64 0,.int .u64 0,.int .u64 0,.int .u64 0,.int .u64 0] 54)):=
  ⟨av (av (av (ah _ _) _) _) _,by
   intro z hz
   simp only[List.mem_cons,List.not_mem_nil,or_false]at hz
   rcases hz with rfl
   .exact (aH.newAt (w0.alloc _) (aR _) _ (by simp)).alloc _,by
   intro B hB
   simp only[List.mem_cons,List.not_mem_nil,or_false]at hB
   subst hB
   exact⟨_,_,_,_,_,aH.newAt _ [.int .u64 0,.int .u64 0,.int .u64 0,.int .u64 0,.int .u64 0] _ (by simp)⟩,by intro z hz;simp only[List.mem_cons,List.not_mem_nil,or_false]at hz;rcases hz with rfl<;>simp only[]<;>omega,by simp,by omega⟩
 have hA1:∀w1,w0.grownBy w1 none->True:=fun _ _=>trivial
 clear hA1
 have hB0:mY w0 (w0.heap.size+3) [(w0.heap.size,p),(w0.heap.size+1,q),(w0.heap.size+1+1,Fe.bI)] [(w0.heap.size+1+1)] (((w0.alloc (.cells #[.int .u64 p.x0,.int .u64 p.x1,.int .u64 p.x2,.int .u64 p.x3,.int .u64 p.x4] 54)).alloc (.cells #[.int .u64 q.x0,.int .u64 q.x1,.int .u64 q.x2,.int .u64 q.x3,.int .u64 q.x4] 54)).alloc (.cells #[.int .u64 0,.int .u64 0,.int .u64 0,.int .u64 0,.int .u64 0] 54)):=
  ⟨hB0.g,by
   intro z hz
   simp only[List.mem_cons,List.not_mem_nil,or_false]at hz
   rcases hz with rfl|rfl|rfl
   .exact UY
   .exact hB0.e _ (by simp)
   .exact aH.newAt _ (aR Fe.bI) _ (by simp),hB0.r,by intro z hz;simp only[List.mem_cons,List.not_mem_nil,or_false]at hz;rcases hz with rfl|rfl|rfl<;>simp only[]<;>omega,hB0.l,hB0.m⟩
 clear UY
 refine jr (sN (Cw w0 [(w0.heap.size,p),((w0.heap.size+1),q),((w0.heap.size+1+1),Fe.bI)]) [.any,.any,.any,.any,.any,.ptr,.any,.any,.any,.any,.val q.v,.val (Fe.cu q).v,.val q.v,.val (Fe.aM (Fe.cu q) q).v,.any,.any,.any,.any,.any,.any,.any,.any,.any,.any,.any,.any,.any,.any,.any,.any,.any]) (fun j=>if j=5 then 5 else 0) (Stored (Cw w0 [(w0.heap.size,p),((w0.heap.size+1),q),((w0.heap.size+1+1),Fe.bI)]) (Fe.aM (Fe.cu q) q)) (mY w0 (w0.heap.size+3) [(w0.heap.size,p),((w0.heap.size+1),q),((w0.heap.size+1+1),Fe.bI)] [(w0.heap.size+1+1)]) (GH (Fe.aM (Fe.cu q) q)) (by kernel_rfl) (by kernel_rfl) (by kernel_rfl) (hB0.grown (sO _)) (fun d u w1 w2 hR h=>oz _ _ _ d u w1 w2 hR h) (fun j u w1 w2 hR h=>mE _ _ j u w1 w2 hR h) (by kernel_rfl) ?_ ?_
 .refine⟨cK rfl rfl fun a w h=>?_,?_⟩
  .have e3:_=Value.pointer (some ⟨(w0.heap.size+1),0,none⟩):=h.r 3
   have hb:=h.base.e ((w0.heap.size+1),q) (by simp)
   have c0:w.cell? ⟨(w0.heap.size+1),0,none⟩=some (.int .u64 q.x0):=hb.cell (i:=0) rfl
   have c1:w.cell? ⟨(w0.heap.size+1),1,none⟩=some (.int .u64 q.x1):=hb.cell (i:=1) rfl
   have c2:w.cell? ⟨(w0.heap.size+1),2,none⟩=some (.int .u64 q.x2):=hb.cell (i:=2) rfl
   have c3:w.cell? ⟨(w0.heap.size+1),3,none⟩=some (.int .u64 q.x3):=hb.cell (i:=3) rfl
   have c4:w.cell? ⟨(w0.heap.size+1),4,none⟩=some (.int .u64 q.x4):=hb.cell (i:=4) rfl
   refine⟨.agg #[.int .u64 q.x0,.int .u64 q.x1,.int .u64 q.x2,.int .u64 q.x3,.int .u64 q.x4],w,?_,h.base,gQ _ _,rfl⟩
   clear h hb
   simp only[execOp,Act.eval,e3]
   go_simp
  refine⟨gT rfl rfl fun a w h=>?_,?_⟩
  .have e10:_=q.v:=h.d 10
   have acd:a.tmps[10]?.getD undef=q.v:=by simpa using e10
   have hb:=h.base
   refine⟨117,#[q.v],?_,?_⟩
   .clear h hb e10
    go_simp
   .refine (wG q w kS).mono ?_
    intro e w1 hp
    obtain⟨rfl,hg⟩:=fq hp
    exact⟨_,rfl,hb.grown hg,Or.inl hg,rfl⟩
  refine⟨cK rfl rfl fun a w h=>?_,?_⟩
  .have e3:_=Value.pointer (some ⟨(w0.heap.size+1),0,none⟩):=h.r 3
   have hb:=h.base.e ((w0.heap.size+1),q) (by simp)
   have c0:w.cell? ⟨(w0.heap.size+1),0,none⟩=some (.int .u64 q.x0):=hb.cell (i:=0) rfl
   have c1:w.cell? ⟨(w0.heap.size+1),1,none⟩=some (.int .u64 q.x1):=hb.cell (i:=1) rfl
   have c2:w.cell? ⟨(w0.heap.size+1),2,none⟩=some (.int .u64 q.x2):=hb.cell (i:=2) rfl
   have c3:w.cell? ⟨(w0.heap.size+1),3,none⟩=some (.int .u64 q.x3):=hb.cell (i:=3) rfl
   have c4:w.cell? ⟨(w0.heap.size+1),4,none⟩=some (.int .u64 q.x4):=hb.cell (i:=4) rfl
   refine⟨.agg #[.int .u64 q.x0,.int .u64 q.x1,.int .u64 q.x2,.int .u64 q.x3,.int .u64 q.x4],w,?_,h.base,gQ _ _,rfl⟩
   clear h hb
   simp only[execOp,Act.eval,e3]
   go_simp
  refine⟨gT rfl rfl fun a w h=>?_,?_⟩
  .have e11:_=(Fe.cu q).v:=h.d 11
   have e12:_=q.v:=h.d 12
   have ace:a.tmps[11]?.getD undef=(Fe.cu q).v:=by simpa using e11
   have agx:a.tmps[12]?.getD undef=q.v:=by simpa using e12
   have hb:=h.base
   refine⟨74,#[(Fe.cu q).v,q.v],?_,?_⟩
   .clear h hb e11 e12
    go_simp
   .refine (lS (Fe.cu q) q w (Fe.dS _).ok kS).mono ?_
    intro e w1 hp
    obtain⟨rfl,hg⟩:=fq hp
    exact⟨_,rfl,hb.grown hg,Or.inl hg,rfl⟩
  refine⟨cK rfl rfl fun a w h=>?_,?_⟩
  .refine⟨.pointer (some ⟨w.heap.size,0,none⟩),w.alloc (.cells #[.int .u64 0,.int .u64 0,.int .u64 0,.int .u64 0,.int .u64 0] 54),?_,h.base.grown (World.grownBy_alloc _ _ _),Or.inl (World.grownBy_alloc _ _ _),⟨w.heap.size,rfl,⟨_,_,_,_,_,aH.new w [.int .u64 0,.int .u64 0,.int .u64 0,.int .u64 0,.int .u64 0] _⟩,h.base.fresh⟩⟩
   clear h
   go_simp
  refine⟨qJ rfl rfl fun a w h=>?_,?_⟩
  .obtain⟨Bn,ep,hroom,hK⟩:∃Bn,a.tmps.getD 5 undef=.pointer (some ⟨Bn,0,none⟩)/\fU w Bn 54/\(Cw w0 [(w0.heap.size,p),((w0.heap.size+1),q),((w0.heap.size+1+1),Fe.bI)]) Bn:=h.dep 5 (by kernel_rfl)
   have e13:_=Value.agg #[.int .u64 (Fe.aM (Fe.cu q) q).x0,.int .u64 (Fe.aM (Fe.cu q) q).x1,.int .u64 (Fe.aM (Fe.cu q) q).x2,.int .u64 (Fe.aM (Fe.cu q) q).x3,.int .u64 (Fe.aM (Fe.cu q) q).x4]:=h.d 13
   refine⟨jY w Bn (Fe.aM (Fe.cu q) q),?_,h.base.set hK _,Or.inr ⟨Bn,rfl,hroom⟩,⟨Bn,ep,hK,jP hroom⟩⟩
   obtain⟨u0,u1,u2,u3,u4,hR⟩:=hroom
   have c0r:=hR.cell (i:=0) rfl;have f0r:=hR.free 0
   have c1r:=hR.cell (i:=1) rfl;have f1r:=hR.free 1
   have c2r:=hR.cell (i:=2) rfl;have f2r:=hR.free 2
   have c3r:=hR.cell (i:=3) rfl;have f3r:=hR.free 3
   have c4r:=hR.cell (i:=4) rfl;have f4r:=hR.free 4
   clear h hK hR
   unfold jY
   simp only[execOp,Act.eval,ep,e13]
   go_simp
  trivial
 .intro a' w1 hB hsz hdf hrest aC jX
  obtain⟨B1,xR,hK,hb⟩:=jX 5 _ rfl rfl
  obtain rfl:=gW (a:=a') (vs:=[.agg #[.int .u64 p.x0,.int .u64 p.x1,.int .u64 p.x2,.int .u64 p.x3,.int .u64 p.x4],.agg #[.int .u64 q.x0,.int .u64 q.x1,.int .u64 q.x2,.int .u64 q.x3,.int .u64 q.x4],.pointer (some ⟨w0.heap.size,0,none⟩),.pointer (some ⟨w0.heap.size+1,0,none⟩),.pointer (some ⟨w0.heap.size+1+1,0,none⟩),.pointer (some ⟨B1,0,none⟩),undef,undef,undef,undef,q.v,(Fe.cu q).v,q.v,(Fe.aM (Fe.cu q) q).v,undef,undef,undef,undef,undef,undef,undef,undef,undef,undef,undef,undef,undef,undef,undef,undef,undef]) hsz ⟨hrest 0 (by kernel_rfl),hrest 1 (by kernel_rfl),hrest 2 (by kernel_rfl),hrest 3 (by kernel_rfl),hrest 4 (by kernel_rfl),xR,hrest 6 (by kernel_rfl),hrest 7 (by kernel_rfl),hrest 8 (by kernel_rfl),hrest 9 (by kernel_rfl),aC 10 (by kernel_rfl),aC 11 (by kernel_rfl),aC 12 (by kernel_rfl),aC 13 (by kernel_rfl),hrest 14 (by kernel_rfl),hrest 15 (by kernel_rfl),hrest 16 (by kernel_rfl),hrest 17 (by kernel_rfl),hrest 18 (by kernel_rfl),hrest 19 (by kernel_rfl),hrest 20 (by kernel_rfl),hrest 21 (by kernel_rfl),hrest 22 (by kernel_rfl),hrest 23 (by kernel_rfl),hrest 24 (by kernel_rfl),hrest 25 (by kernel_rfl),hrest 26 (by kernel_rfl),hrest 27 (by kernel_rfl),hrest 28 (by kernel_rfl),hrest 29 (by kernel_rfl),hrest 30 (by kernel_rfl),trivial⟩ hdf
  clear xR hsz hdf hrest aC jX hB0
  obtain⟨cube,hf⟩:∃f,f=Fe.aM (Fe.cu q) q:=⟨_,rfl⟩
  have R7:cube.Ok:=by rw[hf];exact (Fe.mul_right _ _).ok
  rw[<- hf]at hb
  have acf:=Lib.hid hf;clear hf
  have agz:=hb.lt
  have hK1:=hK.1
  have hKp:=hK.2 (w0.heap.size,p) (by simp)
  have hKq:=hK.2 (w0.heap.size+1,q) (by simp)
  have hKr:w0.heap.size+1+1≠B1:=hK.2 (w0.heap.size+1+1,Fe.bI) (by simp)
  have hBl:=hB.l
  have hB1:mY w0 w1.heap.size [(w0.heap.size,p),(w0.heap.size+1,q),(B1,cube)] [(w0.heap.size+1+1)] w1:=
   ⟨hB.g,by
    intro z hz
    simp only[List.mem_cons,List.not_mem_nil,or_false]at hz
    rcases hz with rfl|rfl|rfl
    .exact hB.e _ (by simp)
    .exact hB.e _ (by simp)
    .exact hb,hB.r,by intro z hz;simp only[List.mem_cons,List.not_mem_nil,or_false]at hz;rcases hz with rfl|rfl|rfl<;>simp only[]<;>omega,Nat.le_refl _,hB.g.size⟩
  clear hB hb hK
  go_wp2_with fail
  refine jr (sN (Cw w0 [(w0.heap.size,p),((w0.heap.size+1),q),(B1,cube)]) [.any,.any,.any,.any,.any,.any,.ptr,.any,.any,.any,.any,.any,.any,.any,.val cube.v,.val (Fe.cu cube).v,.val q.v,.val (Fe.aM (Fe.cu cube) q).v,.any,.any,.any,.any,.any,.any,.any,.any,.any,.any,.any,.any,.any]) (fun j=>if j=5 then 6 else 0) (Stored (Cw w0 [(w0.heap.size,p),((w0.heap.size+1),q),(B1,cube)]) (Fe.aM (Fe.cu cube) q)) (mY w0 w1.heap.size [(w0.heap.size,p),((w0.heap.size+1),q),(B1,cube)] [(w0.heap.size+1+1)]) (GH (Fe.aM (Fe.cu cube) q)) (by kernel_rfl) (by kernel_rfl) (by kernel_rfl) (hB1.grown (sO _)) (fun d u w1 w2 hR h=>oz _ _ _ d u w1 w2 hR h) (fun j u w1 w2 hR h=>mE _ _ j u w1 w2 hR h) (by kernel_rfl) ?_ ?_
  .refine⟨cK rfl rfl fun a w h=>?_,?_⟩
   .have e5:_=Value.pointer (some ⟨B1,0,none⟩):=h.r 5
    have hb:=h.base.e (B1,cube) (by simp)
    have c0:w.cell? ⟨B1,0,none⟩=some (.int .u64 cube.x0):=hb.cell (i:=0) rfl
    have c1:w.cell? ⟨B1,1,none⟩=some (.int .u64 cube.x1):=hb.cell (i:=1) rfl
    have c2:w.cell? ⟨B1,2,none⟩=some (.int .u64 cube.x2):=hb.cell (i:=2) rfl
    have c3:w.cell? ⟨B1,3,none⟩=some (.int .u64 cube.x3):=hb.cell (i:=3) rfl
    have c4:w.cell? ⟨B1,4,none⟩=some (.int .u64 cube.x4):=hb.cell (i:=4) rfl
    refine⟨.agg #[.int .u64 cube.x0,.int .u64 cube.x1,.int .u64 cube.x2,.int .u64 cube.x3,.int .u64 cube.x4],w,?_,h.base,gQ _ _,rfl⟩
    clear h hb
    simp only[execOp,Act.eval,e5]
    go_simp
   refine⟨gT rfl rfl fun a w h=>?_,?_⟩
   .have e14:_=cube.v:=h.d 14
    have agy:a.tmps[14]?.getD undef=cube.v:=by simpa using e14
    have hb:=h.base
    refine⟨117,#[cube.v],?_,?_⟩
    .clear h hb e14
     go_simp
    .refine (wG cube w R7).mono ?_
     intro e w1 hp
     obtain⟨rfl,hg⟩:=fq hp
     exact⟨_,rfl,hb.grown hg,Or.inl hg,rfl⟩
   refine⟨cK rfl rfl fun a w h=>?_,?_⟩
   .have e3:_=Value.pointer (some ⟨(w0.heap.size+1),0,none⟩):=h.r 3
    have hb:=h.base.e ((w0.heap.size+1),q) (by simp)
    have c0:w.cell? ⟨(w0.heap.size+1),0,none⟩=some (.int .u64 q.x0):=hb.cell (i:=0) rfl
    have c1:w.cell? ⟨(w0.heap.size+1),1,none⟩=some (.int .u64 q.x1):=hb.cell (i:=1) rfl
    have c2:w.cell? ⟨(w0.heap.size+1),2,none⟩=some (.int .u64 q.x2):=hb.cell (i:=2) rfl
    have c3:w.cell? ⟨(w0.heap.size+1),3,none⟩=some (.int .u64 q.x3):=hb.cell (i:=3) rfl
    have c4:w.cell? ⟨(w0.heap.size+1),4,none⟩=some (.int .u64 q.x4):=hb.cell (i:=4) rfl
    refine⟨.agg #[.int .u64 q.x0,.int .u64 q.x1,.int .u64 q.x2,.int .u64 q.x3,.int .u64 q.x4],w,?_,h.base,gQ _ _,rfl⟩
    clear h hb
    simp only[execOp,Act.eval,e3]
    go_simp
   refine⟨gT rfl rfl fun a w h=>?_,?_⟩
   .have e15:_=(Fe.cu cube).v:=h.d 15
    have e16:_=q.v:=h.d 16
    have alJ:a.tmps[15]?.getD undef=(Fe.cu cube).v:=by simpa using e15
    have alK:a.tmps[16]?.getD undef=q.v:=by simpa using e16
    have hb:=h.base
    refine⟨74,#[(Fe.cu cube).v,q.v],?_,?_⟩
    .clear h hb e15 e16
     go_simp
    .refine (lS (Fe.cu cube) q w (Fe.dS _).ok kS).mono ?_
     intro e w1 hp
     obtain⟨rfl,hg⟩:=fq hp
     exact⟨_,rfl,hb.grown hg,Or.inl hg,rfl⟩
   refine⟨cK rfl rfl fun a w h=>?_,?_⟩
   .refine⟨.pointer (some ⟨w.heap.size,0,none⟩),w.alloc (.cells #[.int .u64 0,.int .u64 0,.int .u64 0,.int .u64 0,.int .u64 0] 54),?_,h.base.grown (World.grownBy_alloc _ _ _),Or.inl (World.grownBy_alloc _ _ _),⟨w.heap.size,rfl,⟨_,_,_,_,_,aH.new w [.int .u64 0,.int .u64 0,.int .u64 0,.int .u64 0,.int .u64 0] _⟩,h.base.fresh⟩⟩
    clear h
    go_simp
   refine⟨qJ rfl rfl fun a w h=>?_,?_⟩
   .obtain⟨Bn,ep,hroom,hK⟩:∃Bn,a.tmps.getD 6 undef=.pointer (some ⟨Bn,0,none⟩)/\fU w Bn 54/\(Cw w0 [(w0.heap.size,p),((w0.heap.size+1),q),(B1,cube)]) Bn:=h.dep 6 (by kernel_rfl)
    have e17:_=Value.agg #[.int .u64 (Fe.aM (Fe.cu cube) q).x0,.int .u64 (Fe.aM (Fe.cu cube) q).x1,.int .u64 (Fe.aM (Fe.cu cube) q).x2,.int .u64 (Fe.aM (Fe.cu cube) q).x3,.int .u64 (Fe.aM (Fe.cu cube) q).x4]:=h.d 17
    refine⟨jY w Bn (Fe.aM (Fe.cu cube) q),?_,h.base.set hK _,Or.inr ⟨Bn,rfl,hroom⟩,⟨Bn,ep,hK,jP hroom⟩⟩
    obtain⟨u0,u1,u2,u3,u4,hR⟩:=hroom
    have c0r:=hR.cell (i:=0) rfl;have f0r:=hR.free 0
    have c1r:=hR.cell (i:=1) rfl;have f1r:=hR.free 1
    have c2r:=hR.cell (i:=2) rfl;have f2r:=hR.free 2
    have c3r:=hR.cell (i:=3) rfl;have f3r:=hR.free 3
    have c4r:=hR.cell (i:=4) rfl;have f4r:=hR.free 4
    clear h hK hR
    unfold jY
    simp only[execOp,Act.eval,ep,e17]
    go_simp
   trivial
  .intro a' w2 hB hsz hdf hrest aC jX
   obtain⟨B2,xR,hK,hb⟩:=jX 5 _ rfl rfl
   obtain rfl:=gW (a:=a') (vs:=[.agg #[.int .u64 p.x0,.int .u64 p.x1,.int .u64 p.x2,.int .u64 p.x3,.int .u64 p.x4],.agg #[.int .u64 q.x0,.int .u64 q.x1,.int .u64 q.x2,.int .u64 q.x3,.int .u64 q.x4],.pointer (some ⟨w0.heap.size,0,none⟩),.pointer (some ⟨w0.heap.size+1,0,none⟩),.pointer (some ⟨w0.heap.size+1+1,0,none⟩),.pointer (some ⟨B1,0,none⟩),.pointer (some ⟨B2,0,none⟩),undef,undef,undef,q.v,(Fe.cu q).v,q.v,(Fe.aM (Fe.cu q) q).v,cube.v,(Fe.cu cube).v,q.v,(Fe.aM (Fe.cu cube) q).v,undef,undef,undef,undef,undef,undef,undef,undef,undef,undef,undef,undef,undef]) hsz ⟨hrest 0 (by kernel_rfl),hrest 1 (by kernel_rfl),hrest 2 (by kernel_rfl),hrest 3 (by kernel_rfl),hrest 4 (by kernel_rfl),hrest 5 (by kernel_rfl),xR,hrest 7 (by kernel_rfl),hrest 8 (by kernel_rfl),hrest 9 (by kernel_rfl),hrest 10 (by kernel_rfl),hrest 11 (by kernel_rfl),hrest 12 (by kernel_rfl),hrest 13 (by kernel_rfl),aC 14 (by kernel_rfl),aC 15 (by kernel_rfl),aC 16 (by kernel_rfl),aC 17 (by kernel_rfl),hrest 18 (by kernel_rfl),hrest 19 (by kernel_rfl),hrest 20 (by kernel_rfl),hrest 21 (by kernel_rfl),hrest 22 (by kernel_rfl),hrest 23 (by kernel_rfl),hrest 24 (by kernel_rfl),hrest 25 (by kernel_rfl),hrest 26 (by kernel_rfl),hrest 27 (by kernel_rfl),hrest 28 (by kernel_rfl),hrest 29 (by kernel_rfl),hrest 30 (by kernel_rfl),trivial⟩ hdf
   clear xR hsz hdf hrest aC jX hB1
   obtain⟨sev,hf⟩:∃f,f=Fe.aM (Fe.cu cube) q:=⟨_,rfl⟩
   have acg:sev.Ok:=by rw[hf];exact (Fe.mul_right _ _).ok
   rw[<- hf]at hb
   have agA:=Lib.hid hf;clear hf
   have ig:=hB.e (w0.heap.size,p) (by simp)
   have c0:=ig.cell (i:=0) rfl
   have c1:=ig.cell (i:=1) rfl
   have c2:=ig.cell (i:=2) rfl
   have c3:=ig.cell (i:=3) rfl
   have c4:=ig.cell (i:=4) rfl
   have d0:=hb.cell (i:=0) rfl
   have d1:=hb.cell (i:=1) rfl
   have d2:=hb.cell (i:=2) rfl
   have d3:=hb.cell (i:=3) rfl
   have d4:=hb.cell (i:=4) rfl
   go_wp2_with fail
   refine (lS p sev _ iW acg).mono ?_
   rintro e v3 ⟨base,hbase,rfl,hg3⟩
   have R8:base.Ok:=by rw[hbase.out];exact (Fe.mul_right _ _).ok
   have hE3:=(hB.grown hg3).grown (World.grownBy_alloc v3 (.cells #[.int .u64 base.x0,.int .u64 base.x1,.int .u64 base.x2,.int .u64 base.x3,.int .u64 base.x4] 54) none)
   have cZ:aH (v3.alloc (.cells #[.int .u64 base.x0,.int .u64 base.x1,.int .u64 base.x2,.int .u64 base.x3,.int .u64 base.x4] 54)) v3.heap.size 54 (aR base):=aH.new v3 (aR base) _
   clear ig hB hb hK hg3 c0 c1 c2 c3 c4 d0 d1 d2 d3 d4
   go_wp2_with fail
   refine (wH base _ R8).mono ?_
   rintro e v4 ⟨C,on,hon,rfl,hg4,hC,hP⟩
   have agC:on.Ok:=by rw[hon.out];exact iU _ _ _
   have gD:=cZ.grown hg4 (by simp)
   have c0:=gD.cell (i:=0) rfl
   have c1:=gD.cell (i:=1) rfl
   have c2:=gD.cell (i:=2) rfl
   have c3:=gD.cell (i:=3) rfl
   have c4:=gD.cell (i:=4) rfl
   go_wp2_with fail
   refine (jy C 2 on base _ (by decide) agC R8 hP).mono ?_
   rintro e v5 ⟨pw,hpw,rfl,hg5,hP5⟩
   have agD:pw.Ok:=by rw[hpw.out];exact iU _ _ _
   have ze:=(hE3.grown (aW hg4 hg5 hC)).grown (World.grownBy_alloc v5 (.cells #[.int .u64 pw.x0,.int .u64 pw.x1,.int .u64 pw.x2,.int .u64 pw.x3,.int .u64 pw.x4] 54) none)
   have hsz5:=(hE3.grown (aW hg4 hg5 hC)).l
   have VI:aH (v5.alloc (.cells #[.int .u64 pw.x0,.int .u64 pw.x1,.int .u64 pw.x2,.int .u64 pw.x3,.int .u64 pw.x4] 54)) v5.heap.size 54 (aR pw):=aH.new v5 (aR pw) _
   have hlt1:=(ze.e (B1,cube) (by simp)).lt
   have hB6:mY w0 (v5.heap.size+1) [(w0.heap.size,p),(B1,cube),(v5.heap.size,pw)] [(w0.heap.size+1+1)] (v5.alloc (.cells #[.int .u64 pw.x0,.int .u64 pw.x1,.int .u64 pw.x2,.int .u64 pw.x3,.int .u64 pw.x4] 54)):=
    ⟨ze.g,by
     intro z hz
     simp only[List.mem_cons,List.not_mem_nil,or_false]at hz
     rcases hz with rfl|rfl|rfl
     .exact ze.e _ (by simp)
     .exact ze.e _ (by simp)
     .exact VI,ze.r,by
     intro z hz
     have h1:=ze.n (w0.heap.size,p) (by simp)
     have h2:=ze.n (B1,cube) (by simp)
     simp only[List.mem_cons,List.not_mem_nil,or_false]at hz
     rcases hz with rfl|rfl|rfl<;>simp only[]at *<;>omega,by simp,by have:=ze.g.size;simp at this;have:=ze.m;omega⟩
   clear hE3 ze cZ gD VI hg4 hg5 hP hP5 c0 c1 c2 c3 c4
   go_wp2_with fail
   refine jr (sN (Cw w0 [(w0.heap.size,p),(B1,cube),(v5.heap.size,pw)]) [.any,.any,.any,.any,.any,.any,.any,.any,.any,.any,.any,.any,.any,.any,.any,.any,.any,.any,.any,.any,.any,.any,.any,.any,.any,.any,.val p.v,.val cube.v,.val (Fe.aM p cube).v,.val pw.v,.val (Fe.aM (Fe.aM p cube) pw).v]) (fun j=>if j=5 then 4 else 0) (Stored (Cw w0 [(w0.heap.size,p),(B1,cube),(v5.heap.size,pw)]) (Fe.aM (Fe.aM p cube) pw)) (mY w0 (v5.heap.size+1) [(w0.heap.size,p),(B1,cube),(v5.heap.size,pw)] [(w0.heap.size+1+1)]) (GH (Fe.aM (Fe.aM p cube) pw)) (by kernel_rfl) (by kernel_rfl) (by kernel_rfl) (hB6.grown (sO _)) (fun d u w1 w2 hR h=>oz _ _ _ d u w1 w2 hR h) (fun j u w1 w2 hR h=>mE _ _ j u w1 w2 hR h) (by kernel_rfl) ?_ ?_
   .refine⟨cK rfl rfl fun a w h=>?_,?_⟩
    .have e2:_=Value.pointer (some ⟨w0.heap.size,0,none⟩):=h.r 2
     have hb:=h.base.e (w0.heap.size,p) (by simp)
     have c0:w.cell? ⟨w0.heap.size,0,none⟩=some (.int .u64 p.x0):=hb.cell (i:=0) rfl
     have c1:w.cell? ⟨w0.heap.size,1,none⟩=some (.int .u64 p.x1):=hb.cell (i:=1) rfl
     have c2:w.cell? ⟨w0.heap.size,2,none⟩=some (.int .u64 p.x2):=hb.cell (i:=2) rfl
     have c3:w.cell? ⟨w0.heap.size,3,none⟩=some (.int .u64 p.x3):=hb.cell (i:=3) rfl
     have c4:w.cell? ⟨w0.heap.size,4,none⟩=some (.int .u64 p.x4):=hb.cell (i:=4) rfl
     refine⟨.agg #[.int .u64 p.x0,.int .u64 p.x1,.int .u64 p.x2,.int .u64 p.x3,.int .u64 p.x4],w,?_,h.base,gQ _ _,rfl⟩
     clear h hb
     simp only[execOp,Act.eval,e2]
     go_simp
    refine⟨cK rfl rfl fun a w h=>?_,?_⟩
    .have e5:_=Value.pointer (some ⟨B1,0,none⟩):=h.r 5
     have hb:=h.base.e (B1,cube) (by simp)
     have c0:w.cell? ⟨B1,0,none⟩=some (.int .u64 cube.x0):=hb.cell (i:=0) rfl
     have c1:w.cell? ⟨B1,1,none⟩=some (.int .u64 cube.x1):=hb.cell (i:=1) rfl
     have c2:w.cell? ⟨B1,2,none⟩=some (.int .u64 cube.x2):=hb.cell (i:=2) rfl
     have c3:w.cell? ⟨B1,3,none⟩=some (.int .u64 cube.x3):=hb.cell (i:=3) rfl
     have c4:w.cell? ⟨B1,4,none⟩=some (.int .u64 cube.x4):=hb.cell (i:=4) rfl
     refine⟨.agg #[.int .u64 cube.x0,.int .u64 cube.x1,.int .u64 cube.x2,.int .u64 cube.x3,.int .u64 cube.x4],w,?_,h.base,gQ _ _,rfl⟩
     clear h hb
     simp only[execOp,Act.eval,e5]
     go_simp
    refine⟨gT rfl rfl fun a w h=>?_,?_⟩
    .have e26:_=p.v:=h.d 26
     have e27:_=cube.v:=h.d 27
     have alL:a.tmps[26]?.getD undef=p.v:=by simpa using e26
     have alM:a.tmps[27]?.getD undef=cube.v:=by simpa using e27
     have hb:=h.base
     refine⟨74,#[p.v,cube.v],?_,?_⟩
     .clear h hb e26 e27
      go_simp
     .refine (lS p cube w iW R7).mono ?_
      intro e w1 hp
      obtain⟨rfl,hg⟩:=fq hp
      exact⟨_,rfl,hb.grown hg,Or.inl hg,rfl⟩
    refine⟨cK rfl rfl fun a w h=>?_,?_⟩
    .have e9:_=Value.pointer (some ⟨v5.heap.size,0,none⟩):=h.r 9
     have hb:=h.base.e (v5.heap.size,pw) (by simp)
     have c0:w.cell? ⟨v5.heap.size,0,none⟩=some (.int .u64 pw.x0):=hb.cell (i:=0) rfl
     have c1:w.cell? ⟨v5.heap.size,1,none⟩=some (.int .u64 pw.x1):=hb.cell (i:=1) rfl
     have c2:w.cell? ⟨v5.heap.size,2,none⟩=some (.int .u64 pw.x2):=hb.cell (i:=2) rfl
     have c3:w.cell? ⟨v5.heap.size,3,none⟩=some (.int .u64 pw.x3):=hb.cell (i:=3) rfl
     have c4:w.cell? ⟨v5.heap.size,4,none⟩=some (.int .u64 pw.x4):=hb.cell (i:=4) rfl
     refine⟨.agg #[.int .u64 pw.x0,.int .u64 pw.x1,.int .u64 pw.x2,.int .u64 pw.x3,.int .u64 pw.x4],w,?_,h.base,gQ _ _,rfl⟩
     clear h hb
     simp only[execOp,Act.eval,e9]
     go_simp
    refine⟨gT rfl rfl fun a w h=>?_,?_⟩
    .have e28:_=(Fe.aM p cube).v:=h.d 28
     have e29:_=pw.v:=h.d 29
     have alN:a.tmps[28]?.getD undef=(Fe.aM p cube).v:=by simpa using e28
     have alO:a.tmps[29]?.getD undef=pw.v:=by simpa using e29
     have hb:=h.base
     refine⟨74,#[(Fe.aM p cube).v,pw.v],?_,?_⟩
     .clear h hb e28 e29
      go_simp
     .refine (lS (Fe.aM p cube) pw w (Fe.mul_right _ _).ok agD).mono ?_
      intro e w1 hp
      obtain⟨rfl,hg⟩:=fq hp
      exact⟨_,rfl,hb.grown hg,Or.inl hg,rfl⟩
    refine⟨qJ rfl rfl fun a w h=>?_,?_⟩
    .obtain⟨Bn,hBn⟩:∃Bn,Bn=(w0.heap.size+1+1):=⟨_,rfl⟩
     have ep:a.tmps.getD 4 undef=.pointer (some ⟨Bn,0,none⟩):=by rw[hBn];exact h.rest 4 (by kernel_rfl)
     have hroom:fU w Bn 54:=by rw[hBn];exact h.base.r _ (by simp)
     have hK:(Cw w0 [(w0.heap.size,p),(B1,cube),(v5.heap.size,pw)]) Bn:=by rw[hBn];exact⟨by omega,by intro z hz;simp only[List.mem_cons,List.not_mem_nil,or_false]at hz;rcases hz with rfl|rfl|rfl<;>simp only[]<;>omega⟩
     clear hBn
     have e30:_=Value.agg #[.int .u64 (Fe.aM (Fe.aM p cube) pw).x0,.int .u64 (Fe.aM (Fe.aM p cube) pw).x1,.int .u64 (Fe.aM (Fe.aM p cube) pw).x2,.int .u64 (Fe.aM (Fe.aM p cube) pw).x3,.int .u64 (Fe.aM (Fe.aM p cube) pw).x4]:=h.d 30
     refine⟨jY w Bn (Fe.aM (Fe.aM p cube) pw),?_,h.base.set hK _,Or.inr ⟨Bn,rfl,hroom⟩,⟨Bn,ep,hK,jP hroom⟩⟩
     obtain⟨u0,u1,u2,u3,u4,hR⟩:=hroom
     have c0r:=hR.cell (i:=0) rfl;have f0r:=hR.free 0
     have c1r:=hR.cell (i:=1) rfl;have f1r:=hR.free 1
     have c2r:=hR.cell (i:=2) rfl;have f2r:=hR.free 2
     have c3r:=hR.cell (i:=3) rfl;have f3r:=hR.free 3
     have c4r:=hR.cell (i:=4) rfl;have f4r:=hR.free 4
     clear h hK hR
     unfold jY
     simp only[execOp,Act.eval,ep,e30]
     go_simp
    trivial
   .intro a' w6 hB hsz hdf hrest aC jX
    obtain⟨B6,xR,hK,hb⟩:=jX 5 _ rfl rfl
    have Qs:a'.tmps.getD 4 undef=.pointer (some ⟨w0.heap.size+1+1,0,none⟩):=hrest 4 (by kernel_rfl)
    have R9:a'.tmps.getD 4 undef=.pointer (some ⟨B6,0,none⟩):=xR
    rw[Qs]at R9
    obtain rfl:w0.heap.size+1+1=B6:=by simpa using R9
    obtain rfl:=gW (a:=a') (vs:=[.agg #[.int .u64 p.x0,.int .u64 p.x1,.int .u64 p.x2,.int .u64 p.x3,.int .u64 p.x4],.agg #[.int .u64 q.x0,.int .u64 q.x1,.int .u64 q.x2,.int .u64 q.x3,.int .u64 q.x4],.pointer (some ⟨w0.heap.size,0,none⟩),.pointer (some ⟨w0.heap.size+1,0,none⟩),.pointer (some ⟨w0.heap.size+1+1,0,none⟩),.pointer (some ⟨B1,0,none⟩),.pointer (some ⟨B2,0,none⟩),.pointer (some ⟨v3.heap.size,0,none⟩),.func (.func 157) #[] #[.pointer (some ⟨C,0,none⟩)],.pointer (some ⟨v5.heap.size,0,none⟩),q.v,(Fe.cu q).v,q.v,(Fe.aM (Fe.cu q) q).v,cube.v,(Fe.cu cube).v,q.v,(Fe.aM (Fe.cu cube) q).v,.agg #[.int .u64 p.x0,.int .u64 p.x1,.int .u64 p.x2,.int .u64 p.x3,.int .u64 p.x4],.agg #[.int .u64 sev.x0,.int .u64 sev.x1,.int .u64 sev.x2,.int .u64 sev.x3,.int .u64 sev.x4],.agg #[.int .u64 base.x0,.int .u64 base.x1,.int .u64 base.x2,.int .u64 base.x3,.int .u64 base.x4],.agg #[.int .u64 base.x0,.int .u64 base.x1,.int .u64 base.x2,.int .u64 base.x3,.int .u64 base.x4],.func (.func 157) #[] #[.pointer (some ⟨C,0,none⟩)],.func (.func 157) #[] #[.pointer (some ⟨C,0,none⟩)],.agg #[.int .u64 base.x0,.int .u64 base.x1,.int .u64 base.x2,.int .u64 base.x3,.int .u64 base.x4],.agg #[.int .u64 pw.x0,.int .u64 pw.x1,.int .u64 pw.x2,.int .u64 pw.x3,.int .u64 pw.x4],p.v,cube.v,(Fe.aM p cube).v,pw.v,(Fe.aM (Fe.aM p cube) pw).v]) hsz ⟨hrest 0 (by kernel_rfl),hrest 1 (by kernel_rfl),hrest 2 (by kernel_rfl),hrest 3 (by kernel_rfl),hrest 4 (by kernel_rfl),hrest 5 (by kernel_rfl),hrest 6 (by kernel_rfl),hrest 7 (by kernel_rfl),hrest 8 (by kernel_rfl),hrest 9 (by kernel_rfl),hrest 10 (by kernel_rfl),hrest 11 (by kernel_rfl),hrest 12 (by kernel_rfl),hrest 13 (by kernel_rfl),hrest 14 (by kernel_rfl),hrest 15 (by kernel_rfl),hrest 16 (by kernel_rfl),hrest 17 (by kernel_rfl),hrest 18 (by kernel_rfl),hrest 19 (by kernel_rfl),hrest 20 (by kernel_rfl),hrest 21 (by kernel_rfl),hrest 22 (by kernel_rfl),hrest 23 (by kernel_rfl),hrest 24 (by kernel_rfl),hrest 25 (by kernel_rfl),aC 26 (by kernel_rfl),aC 27 (by kernel_rfl),aC 28 (by kernel_rfl),aC 29 (by kernel_rfl),aC 30 (by kernel_rfl),trivial⟩ hdf
    have G6:=hB.g
    clear xR R9 hsz hdf hrest aC jX hB6 Qs hB
    obtain⟨g,hf⟩:∃f,f=Fe.aM (Fe.aM p cube) pw:=⟨_,rfl⟩
    rw[<- hf]at hb
    have Hg:=Lib.hid hf;clear hf
    have c0:=hb.cell (i:=0) rfl
    have c1:=hb.cell (i:=1) rfl
    have c2:=hb.cell (i:=2) rfl
    have c3:=hb.cell (i:=3) rfl
    have c4:=hb.cell (i:=4) rfl
    go_wp2_with fail
    refine bodyPost_ret (v:=.agg #[.int .u64 g.x0,.int .u64 g.x1,.int .u64 g.x2,.int .u64 g.x3,.int .u64 g.x4]) ?_ rfl ⟨g,Lib.hid ?_,rfl,G6⟩
    .simp[results,Tryz.results149,go_sem,c0,c1,c2,c3,c4]
    .rw[Hg.out,hpw.out,hon.out,hbase.out,agA.out,acf.out];rfl
end
section
open Go.RowKit
def tY (F:Fe) (b:Bool) (w:World) (e:Ending) (w':World):Prop:=
 ∃r:Fe,Hid (r=F)/\e=.returned (.tuple #[.agg #[.int .u64 r.x0,.int .u64 r.x1,.int .u64 r.x2,.int .u64 r.x3,.int .u64 r.x4],.bool b])/\w.grownBy w' none
theorem AL:gB.Ok:=by constructor<;>decide
theorem ku (p q s:Fe) (b:Bool) (w:World) (iW:p.Ok) (kS:q.Ok) (oks:s.Ok) (hb:decide (Fe.m (Fe.aM (Fe.cu p) s)=Fe.m q)=b):
  Calls Tryz.prog 150 #[.agg #[.int .u64 p.x0,.int .u64 p.x1,.int .u64 p.x2,.int .u64 p.x3,.int .u64 p.x4],.agg #[.int .u64 q.x0,.int .u64 q.x1,.int .u64 q.x2,.int .u64 q.x3,.int .u64 q.x4],.agg #[.int .u64 s.x0,.int .u64 s.x1,.int .u64 s.x2,.int .u64 s.x3,.int .u64 s.x4]] w fun e w'=>e=.returned (.bool b)/\w.grownBy w' none:=by
 rw[<- hb];exact Ap p q s w iW kS oks
theorem wJ (p:Fe) (b:Bool) (w:World) (iW:p.Ok) (hb:decide (Fe.m p%2=1)=b):Calls Tryz.prog 95 #[.agg #[.int .u64 p.x0,.int .u64 p.x1,.int .u64 p.x2,.int .u64 p.x3,.int .u64 p.x4]] w fun e w'=>e=.returned (.bool b)/\w.grownBy w' none:=by
 rw[<- hb];exact VG p w iW
theorem sP (p q:Fe) (w0:World):mY w0 (w0.heap.size+3) [(w0.heap.size,p),(w0.heap.size+1,q)] [w0.heap.size+1+1] (((w0.alloc (.cells #[.int .u64 p.x0,.int .u64 p.x1,.int .u64 p.x2,.int .u64 p.x3,.int .u64 p.x4] 54)).alloc (.cells #[.int .u64 q.x0,.int .u64 q.x1,.int .u64 q.x2,.int .u64 q.x3,.int .u64 q.x4] 54)).alloc (.cells #[.int .u64 0,.int .u64 0,.int .u64 0,.int .u64 0,.int .u64 0] 54)):=
 ⟨av (av (av (ah _ _) _) _) _,by
  intro z hz
  simp only[List.mem_cons,List.not_mem_nil,or_false]at hz
  rcases hz with rfl|rfl
  .exact ((aH.new w0 (aR _) _).alloc _).alloc _
  .exact (aH.newAt (w0.alloc _) (aR _) _ (by simp)).alloc _,by
  intro B hB
  simp only[List.mem_cons,List.not_mem_nil,or_false]at hB
  subst hB
  exact⟨_,_,_,_,_,aH.newAt _ [.int .u64 0,.int .u64 0,.int .u64 0,.int .u64 0,.int .u64 0] _ (by simp)⟩,by intro z hz;simp only[List.mem_cons,List.not_mem_nil,or_false]at hz;rcases hz with rfl|rfl<;>simp only[]<;>omega,by simp,by omega⟩
set_option maxRecDepth 100000 in
set_option maxHeartbeats 1600000 in
theorem VJ (p q:Fe) (w0:World) (hT:rM w0) (iW:p.Ok) (kS:q.Ok) (h1:decide (Fe.m (Fe.aM (Fe.cu (dW p q)) q)=Fe.m p)=true) (h3:decide (Fe.m (dW p q)%2=1)=false):
  Calls Tryz.prog 126 #[.agg #[.int .u64 p.x0,.int .u64 p.x1,.int .u64 p.x2,.int .u64 p.x3,.int .u64 p.x4],.agg #[.int .u64 q.x0,.int .u64 q.x1,.int .u64 q.x2,.int .u64 q.x3,.int .u64 q.x4]] w0 (tY (dW p q) true w0):=by
 have HT:=Lib.hid hT;clear hT
 have H1:=Lib.hid h1;clear h1
 have H3:=Lib.hid h3;clear h3
 have hE0:mY w0 (w0.heap.size+3) [(w0.heap.size,p),(w0.heap.size+1,q)] [w0.heap.size+1+1] (((w0.alloc (.cells #[.int .u64 p.x0,.int .u64 p.x1,.int .u64 p.x2,.int .u64 p.x3,.int .u64 p.x4] 54)).alloc (.cells #[.int .u64 q.x0,.int .u64 q.x1,.int .u64 q.x2,.int .u64 q.x3,.int .u64 q.x4] 54)).alloc (.cells #[.int .u64 0,.int .u64 0,.int .u64 0,.int .u64 0,.int .u64 0] 54)):=sP p q w0
 go_enter Tryz.func126,Tryz.ntmps126
 go_wp2_with fail
 refine (qz p q _ iW kS).mono ?_
 rintro e v1 ⟨g,hg,rfl,hg1⟩
 have GI:g.Ok:=by rw[hg.out];exact (Fe.mul_right _ _).ok
 have hE1:=(hE0.grown hg1).grown (World.grownBy_alloc v1 (.cells #[.int .u64 g.x0,.int .u64 g.x1,.int .u64 g.x2,.int .u64 g.x3,.int .u64 g.x4] 54) none)
 have hl1:=(hE0.grown hg1).l
 have hG1:aH (v1.alloc (.cells #[.int .u64 g.x0,.int .u64 g.x1,.int .u64 g.x2,.int .u64 g.x3,.int .u64 g.x4] 54)) v1.heap.size 54 (aR g):=aH.new v1 (aR g) _
 clear hE0 hg1
 have ig:=hE1.e (w0.heap.size,p) (by simp)
 have iG:=hE1.e (w0.heap.size+1,q) (by simp)
 have c0:=ig.cell (i:=0) rfl
 have c1:=ig.cell (i:=1) rfl
 have c2:=ig.cell (i:=2) rfl
 have c3:=ig.cell (i:=3) rfl
 have c4:=ig.cell (i:=4) rfl
 have d0:=iG.cell (i:=0) rfl
 have d1:=iG.cell (i:=1) rfl
 have d2:=iG.cell (i:=2) rfl
 have d3:=iG.cell (i:=3) rfl
 have d4:=iG.cell (i:=4) rfl
 go_wp2_with fail
 refine (ku g p q true _ GI iW kS (by rw[hg.out];exact H1.out)).mono ?_
 rintro e v2 ⟨rfl,hg2⟩
 have hE2:=hE1.grown hg2
 have hG2:=hG1.grown hg2 (by simp)
 clear hE1 hG1 hg2 ig iG c0 c1 c2 c3 c4 d0 d1 d2 d3 d4
 have ig:=hE2.e (w0.heap.size,p) (by simp)
 have iG:=hE2.e (w0.heap.size+1,q) (by simp)
 have c0:=ig.cell (i:=0) rfl
 have c1:=ig.cell (i:=1) rfl
 have c2:=ig.cell (i:=2) rfl
 have c3:=ig.cell (i:=3) rfl
 have c4:=ig.cell (i:=4) rfl
 have d0:=iG.cell (i:=0) rfl
 have d1:=iG.cell (i:=1) rfl
 have d2:=iG.cell (i:=2) rfl
 have d3:=iG.cell (i:=3) rfl
 have d4:=iG.cell (i:=4) rfl
 have x0:=hG2.cell (i:=0) rfl
 have x1:=hG2.cell (i:=1) rfl
 have x2:=hG2.cell (i:=2) rfl
 have x3:=hG2.cell (i:=3) rfl
 have x4:=hG2.cell (i:=4) rfl
 have y0:=hG2.free 0
 have y1:=hG2.free 1
 have y2:=hG2.free 2
 have y3:=hG2.free 3
 have y4:=hG2.free 4
 go_wp2_with fail
 refine (ku g p q true _ GI iW kS (by rw[hg.out];exact H1.out)).mono ?_
 rintro e v5 ⟨rfl,hg5⟩
 have ze:=hE2.grown hg5
 have mR:=hG2.grown hg5 (by simp)
 clear hE2 hG2 hg5 ig iG c0 c1 c2 c3 c4 d0 d1 d2 d3 d4 x0 x1 x2 x3 x4 y0 y1 y2 y3 y4
 have x0:=mR.cell (i:=0) rfl
 have x1:=mR.cell (i:=1) rfl
 have x2:=mR.cell (i:=2) rfl
 have x3:=mR.cell (i:=3) rfl
 have x4:=mR.cell (i:=4) rfl
 have y0:=mR.free 0
 have y1:=mR.free 1
 have y2:=mR.free 2
 have y3:=mR.free 3
 have y4:=mR.free 4
 go_wp2_with fail
 refine (wJ g false _ GI (by rw[hg.out];exact H3.out)).mono ?_
 rintro e v6 ⟨rfl,uL⟩
 have OU:=ze.grown uL
 have oC:=mR.grown uL (by simp)
 clear ze mR uL x0 x1 x2 x3 x4 y0 y1 y2 y3 y4
 have x0:=oC.cell (i:=0) rfl
 have x1:=oC.cell (i:=1) rfl
 have x2:=oC.cell (i:=2) rfl
 have x3:=oC.cell (i:=3) rfl
 have x4:=oC.cell (i:=4) rfl
 have y0:=oC.free 0
 have y1:=oC.free 1
 have y2:=oC.free 2
 have y3:=oC.free 3
 have y4:=oC.free 4
 obtain⟨u0,u1,u2,u3,u4,hR⟩:=OU.r _ (List.mem_singleton.2 rfl)
 have s0:=hR.cell (i:=0) rfl
 have s1:=hR.cell (i:=1) rfl
 have s2:=hR.cell (i:=2) rfl
 have s3:=hR.cell (i:=3) rfl
 have s4:=hR.cell (i:=4) rfl
 have z0:=hR.free 0
 have z1:=hR.free 1
 have z2:=hR.free 2
 have z3:=hR.free 3
 have z4:=hR.free 4
 go_wp2_with fail
 refine bodyPost_ret (v:=.tuple #[.agg #[.int .u64 g.x0,.int .u64 g.x1,.int .u64 g.x2,.int .u64 g.x3,.int .u64 g.x4],.bool true]) ?_ rfl ⟨g,Lib.hid (by rw[hg.out]),rfl,jH OU.g (by omega) _ _ _ _ _⟩
 simp[results,Tryz.results126,go_sem,s0,s1,s2,s3,s4]
set_option maxRecDepth 100000 in
set_option maxHeartbeats 1600000 in
theorem VK (p q:Fe) (w0:World) (hT:rM w0) (iW:p.Ok) (kS:q.Ok) (h1:decide (Fe.m (Fe.aM (Fe.cu (dW p q)) q)=Fe.m p)=true) (h3:decide (Fe.m (dW p q)%2=1)=true):
  Calls Tryz.prog 126 #[.agg #[.int .u64 p.x0,.int .u64 p.x1,.int .u64 p.x2,.int .u64 p.x3,.int .u64 p.x4],.agg #[.int .u64 q.x0,.int .u64 q.x1,.int .u64 q.x2,.int .u64 q.x3,.int .u64 q.x4]] w0 (tY (Fe.kR (dW p q)) true w0):=by
 have HT:=Lib.hid hT;clear hT
 have H1:=Lib.hid h1;clear h1
 have H3:=Lib.hid h3;clear h3
 have hE0:mY w0 (w0.heap.size+3) [(w0.heap.size,p),(w0.heap.size+1,q)] [w0.heap.size+1+1] (((w0.alloc (.cells #[.int .u64 p.x0,.int .u64 p.x1,.int .u64 p.x2,.int .u64 p.x3,.int .u64 p.x4] 54)).alloc (.cells #[.int .u64 q.x0,.int .u64 q.x1,.int .u64 q.x2,.int .u64 q.x3,.int .u64 q.x4] 54)).alloc (.cells #[.int .u64 0,.int .u64 0,.int .u64 0,.int .u64 0,.int .u64 0] 54)):=sP p q w0
 go_enter Tryz.func126,Tryz.ntmps126
 go_wp2_with fail
 refine (qz p q _ iW kS).mono ?_
 rintro e v1 ⟨g,hg,rfl,hg1⟩
 have GI:g.Ok:=by rw[hg.out];exact (Fe.mul_right _ _).ok
 have hE1:=(hE0.grown hg1).grown (World.grownBy_alloc v1 (.cells #[.int .u64 g.x0,.int .u64 g.x1,.int .u64 g.x2,.int .u64 g.x3,.int .u64 g.x4] 54) none)
 have hl1:=(hE0.grown hg1).l
 have hG1:aH (v1.alloc (.cells #[.int .u64 g.x0,.int .u64 g.x1,.int .u64 g.x2,.int .u64 g.x3,.int .u64 g.x4] 54)) v1.heap.size 54 (aR g):=aH.new v1 (aR g) _
 clear hE0 hg1
 have ig:=hE1.e (w0.heap.size,p) (by simp)
 have iG:=hE1.e (w0.heap.size+1,q) (by simp)
 have c0:=ig.cell (i:=0) rfl
 have c1:=ig.cell (i:=1) rfl
 have c2:=ig.cell (i:=2) rfl
 have c3:=ig.cell (i:=3) rfl
 have c4:=ig.cell (i:=4) rfl
 have d0:=iG.cell (i:=0) rfl
 have d1:=iG.cell (i:=1) rfl
 have d2:=iG.cell (i:=2) rfl
 have d3:=iG.cell (i:=3) rfl
 have d4:=iG.cell (i:=4) rfl
 go_wp2_with fail
 refine (ku g p q true _ GI iW kS (by rw[hg.out];exact H1.out)).mono ?_
 rintro e v2 ⟨rfl,hg2⟩
 have hE2:=hE1.grown hg2
 have hG2:=hG1.grown hg2 (by simp)
 clear hE1 hG1 hg2 ig iG c0 c1 c2 c3 c4 d0 d1 d2 d3 d4
 have ig:=hE2.e (w0.heap.size,p) (by simp)
 have iG:=hE2.e (w0.heap.size+1,q) (by simp)
 have c0:=ig.cell (i:=0) rfl
 have c1:=ig.cell (i:=1) rfl
 have c2:=ig.cell (i:=2) rfl
 have c3:=ig.cell (i:=3) rfl
 have c4:=ig.cell (i:=4) rfl
 have d0:=iG.cell (i:=0) rfl
 have d1:=iG.cell (i:=1) rfl
 have d2:=iG.cell (i:=2) rfl
 have d3:=iG.cell (i:=3) rfl
 have d4:=iG.cell (i:=4) rfl
 have x0:=hG2.cell (i:=0) rfl
 have x1:=hG2.cell (i:=1) rfl
 have x2:=hG2.cell (i:=2) rfl
 have x3:=hG2.cell (i:=3) rfl
 have x4:=hG2.cell (i:=4) rfl
 have y0:=hG2.free 0
 have y1:=hG2.free 1
 have y2:=hG2.free 2
 have y3:=hG2.free 3
 have y4:=hG2.free 4
 go_wp2_with fail
 refine (ku g p q true _ GI iW kS (by rw[hg.out];exact H1.out)).mono ?_
 rintro e v5 ⟨rfl,hg5⟩
 have ze:=hE2.grown hg5
 have mR:=hG2.grown hg5 (by simp)
 clear hE2 hG2 hg5 ig iG c0 c1 c2 c3 c4 d0 d1 d2 d3 d4 x0 x1 x2 x3 x4 y0 y1 y2 y3 y4
 have x0:=mR.cell (i:=0) rfl
 have x1:=mR.cell (i:=1) rfl
 have x2:=mR.cell (i:=2) rfl
 have x3:=mR.cell (i:=3) rfl
 have x4:=mR.cell (i:=4) rfl
 have y0:=mR.free 0
 have y1:=mR.free 1
 have y2:=mR.free 2
 have y3:=mR.free 3
 have y4:=mR.free 4
 go_wp2_with fail
 refine (wJ g true _ GI (by rw[hg.out];exact H3.out)).mono ?_
 rintro e v6 ⟨rfl,uL⟩
 have OU:=ze.grown uL
 have oC:=mR.grown uL (by simp)
 clear ze mR uL x0 x1 x2 x3 x4 y0 y1 y2 y3 y4
 have x0:=oC.cell (i:=0) rfl
 have x1:=oC.cell (i:=1) rfl
 have x2:=oC.cell (i:=2) rfl
 have x3:=oC.cell (i:=3) rfl
 have x4:=oC.cell (i:=4) rfl
 have y0:=oC.free 0
 have y1:=oC.free 1
 have y2:=oC.free 2
 have y3:=oC.free 3
 have y4:=oC.free 4
 go_wp2_with fail
 refine (Ez g _ (HT.out.grown OU.g) GI).mono ?_
 rintro e v7 ⟨n,hn,rfl,FD⟩
 have hK2:Cw w0 [(w0.heap.size,p),(w0.heap.size+1,q)] v1.heap.size:=by
  refine⟨by omega,?_⟩
  intro z hz
  simp only[List.mem_cons,List.not_mem_nil,or_false]at hz
  rcases hz with rfl|rfl<;>simp only[]<;>omega
 have Zl:=(OU.grown FD).set hK2 n
 have Cx:=oC.grown FD (by simp)
 clear OU oC FD x0 x1 x2 x3 x4 y0 y1 y2 y3 y4
 have x0:=Cx.cell (i:=0) rfl
 have x1:=Cx.cell (i:=1) rfl
 have x2:=Cx.cell (i:=2) rfl
 have x3:=Cx.cell (i:=3) rfl
 have x4:=Cx.cell (i:=4) rfl
 have y0:=Cx.free 0
 have y1:=Cx.free 1
 have y2:=Cx.free 2
 have y3:=Cx.free 3
 have y4:=Cx.free 4
 obtain⟨u0,u1,u2,u3,u4,hR⟩:=Zl.r _ (List.mem_singleton.2 rfl)
 unfold jY at Zl hR
 have s0:=hR.cell (i:=0) rfl
 have s1:=hR.cell (i:=1) rfl
 have s2:=hR.cell (i:=2) rfl
 have s3:=hR.cell (i:=3) rfl
 have s4:=hR.cell (i:=4) rfl
 have z0:=hR.free 0
 have z1:=hR.free 1
 have z2:=hR.free 2
 have z3:=hR.free 3
 have z4:=hR.free 4
 go_wp2_with fail
 refine bodyPost_ret (v:=.tuple #[.agg #[.int .u64 n.x0,.int .u64 n.x1,.int .u64 n.x2,.int .u64 n.x3,.int .u64 n.x4],.bool true]) ?_ rfl ⟨n,Lib.hid (by rw[hn.out,hg.out]),rfl,jH Zl.g (by omega) _ _ _ _ _⟩
 simp[results,Tryz.results126,go_sem,s0,s1,s2,s3,s4]
set_option maxRecDepth 100000 in
set_option maxHeartbeats 1600000 in
theorem VL (p q:Fe) (w0:World) (hT:rM w0) (iW:p.Ok) (kS:q.Ok) (h1:decide (Fe.m (Fe.aM (Fe.cu (dW p q)) q)=Fe.m p)=false) (h2:decide (Fe.m (Fe.aM (Fe.cu (Fe.aM (dW p q) gB)) q)=Fe.m p)=true) (h3:decide (Fe.m (Fe.aM (dW p q) gB)%2=1)=false):
  Calls Tryz.prog 126 #[.agg #[.int .u64 p.x0,.int .u64 p.x1,.int .u64 p.x2,.int .u64 p.x3,.int .u64 p.x4],.agg #[.int .u64 q.x0,.int .u64 q.x1,.int .u64 q.x2,.int .u64 q.x3,.int .u64 q.x4]] w0 (tY (Fe.aM (dW p q) gB) true w0):=by
 have HT:=Lib.hid hT;clear hT
 have H1:=Lib.hid h1;clear h1
 have H2:=Lib.hid h2;clear h2
 have H3:=Lib.hid h3;clear h3
 have hE0:mY w0 (w0.heap.size+3) [(w0.heap.size,p),(w0.heap.size+1,q)] [w0.heap.size+1+1] (((w0.alloc (.cells #[.int .u64 p.x0,.int .u64 p.x1,.int .u64 p.x2,.int .u64 p.x3,.int .u64 p.x4] 54)).alloc (.cells #[.int .u64 q.x0,.int .u64 q.x1,.int .u64 q.x2,.int .u64 q.x3,.int .u64 q.x4] 54)).alloc (.cells #[.int .u64 0,.int .u64 0,.int .u64 0,.int .u64 0,.int .u64 0] 54)):=sP p q w0
 go_enter Tryz.func126,Tryz.ntmps126
 go_wp2_with fail
 refine (qz p q _ iW kS).mono ?_
 rintro e v1 ⟨g,hg,rfl,hg1⟩
 have GI:g.Ok:=by rw[hg.out];exact (Fe.mul_right _ _).ok
 have hE1:=(hE0.grown hg1).grown (World.grownBy_alloc v1 (.cells #[.int .u64 g.x0,.int .u64 g.x1,.int .u64 g.x2,.int .u64 g.x3,.int .u64 g.x4] 54) none)
 have hl1:=(hE0.grown hg1).l
 have hG1:aH (v1.alloc (.cells #[.int .u64 g.x0,.int .u64 g.x1,.int .u64 g.x2,.int .u64 g.x3,.int .u64 g.x4] 54)) v1.heap.size 54 (aR g):=aH.new v1 (aR g) _
 clear hE0 hg1
 have ig:=hE1.e (w0.heap.size,p) (by simp)
 have iG:=hE1.e (w0.heap.size+1,q) (by simp)
 have c0:=ig.cell (i:=0) rfl
 have c1:=ig.cell (i:=1) rfl
 have c2:=ig.cell (i:=2) rfl
 have c3:=ig.cell (i:=3) rfl
 have c4:=ig.cell (i:=4) rfl
 have d0:=iG.cell (i:=0) rfl
 have d1:=iG.cell (i:=1) rfl
 have d2:=iG.cell (i:=2) rfl
 have d3:=iG.cell (i:=3) rfl
 have d4:=iG.cell (i:=4) rfl
 go_wp2_with fail
 refine (ku g p q false _ GI iW kS (by rw[hg.out];exact H1.out)).mono ?_
 rintro e v2 ⟨rfl,hg2⟩
 have hE2:=hE1.grown hg2
 have hG2:=hG1.grown hg2 (by simp)
 clear hE1 hG1 hg2 ig iG c0 c1 c2 c3 c4 d0 d1 d2 d3 d4
 have ig:=hE2.e (w0.heap.size,p) (by simp)
 have iG:=hE2.e (w0.heap.size+1,q) (by simp)
 have c0:=ig.cell (i:=0) rfl
 have c1:=ig.cell (i:=1) rfl
 have c2:=ig.cell (i:=2) rfl
 have c3:=ig.cell (i:=3) rfl
 have c4:=ig.cell (i:=4) rfl
 have d0:=iG.cell (i:=0) rfl
 have d1:=iG.cell (i:=1) rfl
 have d2:=iG.cell (i:=2) rfl
 have d3:=iG.cell (i:=3) rfl
 have d4:=iG.cell (i:=4) rfl
 have x0:=hG2.cell (i:=0) rfl
 have x1:=hG2.cell (i:=1) rfl
 have x2:=hG2.cell (i:=2) rfl
 have x3:=hG2.cell (i:=3) rfl
 have x4:=hG2.cell (i:=4) rfl
 have y0:=hG2.free 0
 have y1:=hG2.free 1
 have y2:=hG2.free 2
 have y3:=hG2.free 3
 have y4:=hG2.free 4
 have Dy:=HT.out.grown hE2.g
 have t0:v2.cell? ⟨6,0,none⟩=some (.int .u64 gB.x0):=Dy.q 0 (by decide)
 have t1:v2.cell? ⟨6,1,none⟩=some (.int .u64 gB.x1):=Dy.q 1 (by decide)
 have t2:v2.cell? ⟨6,2,none⟩=some (.int .u64 gB.x2):=Dy.q 2 (by decide)
 have t3:v2.cell? ⟨6,3,none⟩=some (.int .u64 gB.x3):=Dy.q 3 (by decide)
 have t4:v2.cell? ⟨6,4,none⟩=some (.int .u64 gB.x4):=Dy.q 4 (by decide)
 clear Dy
 go_wp2_with fail
 refine (lS g gB _ GI AL).mono ?_
 rintro e v3 ⟨gi,hgi,rfl,hg3⟩
 have GJ:gi.Ok:=by rw[hgi.out];exact (Fe.mul_right _ _).ok
 have hK:Cw w0 [(w0.heap.size,p),(w0.heap.size+1,q)] v1.heap.size:=by
  refine⟨by omega,?_⟩
  intro z hz
  simp only[List.mem_cons,List.not_mem_nil,or_false]at hz
  rcases hz with rfl|rfl<;>simp only[]<;>omega
 have GK:=(hE2.grown hg3).set hK gi
 have hG4:aH (jY v3 v1.heap.size gi) v1.heap.size 54 (aR gi):=jP ⟨_,_,_,_,_,hG2.grown hg3 (by simp)⟩
 have hG3:=hG2.grown hg3 (by simp)
 clear hE2 hG2 hg3 ig iG c0 c1 c2 c3 c4 d0 d1 d2 d3 d4 x0 x1 x2 x3 x4 y0 y1 y2 y3 y4 t0 t1 t2 t3 t4
 have x0:=hG3.cell (i:=0) rfl
 have x1:=hG3.cell (i:=1) rfl
 have x2:=hG3.cell (i:=2) rfl
 have x3:=hG3.cell (i:=3) rfl
 have x4:=hG3.cell (i:=4) rfl
 have y0:=hG3.free 0
 have y1:=hG3.free 1
 have y2:=hG3.free 2
 have y3:=hG3.free 3
 have y4:=hG3.free 4
 have ig:=GK.e (w0.heap.size,p) (by simp)
 have iG:=GK.e (w0.heap.size+1,q) (by simp)
 unfold jY at GK hG4 ig iG
 have c0:=ig.cell (i:=0) rfl
 have c1:=ig.cell (i:=1) rfl
 have c2:=ig.cell (i:=2) rfl
 have c3:=ig.cell (i:=3) rfl
 have c4:=ig.cell (i:=4) rfl
 have d0:=iG.cell (i:=0) rfl
 have d1:=iG.cell (i:=1) rfl
 have d2:=iG.cell (i:=2) rfl
 have d3:=iG.cell (i:=3) rfl
 have d4:=iG.cell (i:=4) rfl
 go_wp2_with fail
 refine (ku gi p q true _ GJ iW kS (by rw[hgi.out,hg.out];exact H2.out)).mono ?_
 rintro e v5 ⟨rfl,hg5⟩
 have ze:=GK.grown hg5
 have mR:=hG4.grown hg5 (by simp)
 clear GK hG4 hG3 hg5 ig iG c0 c1 c2 c3 c4 d0 d1 d2 d3 d4 x0 x1 x2 x3 x4 y0 y1 y2 y3 y4
 have x0:=mR.cell (i:=0) rfl
 have x1:=mR.cell (i:=1) rfl
 have x2:=mR.cell (i:=2) rfl
 have x3:=mR.cell (i:=3) rfl
 have x4:=mR.cell (i:=4) rfl
 have y0:=mR.free 0
 have y1:=mR.free 1
 have y2:=mR.free 2
 have y3:=mR.free 3
 have y4:=mR.free 4
 go_wp2_with fail
 refine (wJ gi false _ GJ (by rw[hgi.out,hg.out];exact H3.out)).mono ?_
 rintro e v6 ⟨rfl,uL⟩
 have OU:=ze.grown uL
 have oC:=mR.grown uL (by simp)
 clear ze mR uL x0 x1 x2 x3 x4 y0 y1 y2 y3 y4
 have x0:=oC.cell (i:=0) rfl
 have x1:=oC.cell (i:=1) rfl
 have x2:=oC.cell (i:=2) rfl
 have x3:=oC.cell (i:=3) rfl
 have x4:=oC.cell (i:=4) rfl
 have y0:=oC.free 0
 have y1:=oC.free 1
 have y2:=oC.free 2
 have y3:=oC.free 3
 have y4:=oC.free 4
 obtain⟨u0,u1,u2,u3,u4,hR⟩:=OU.r _ (List.mem_singleton.2 rfl)
 have s0:=hR.cell (i:=0) rfl
 have s1:=hR.cell (i:=1) rfl
 have s2:=hR.cell (i:=2) rfl
 have s3:=hR.cell (i:=3) rfl
 have s4:=hR.cell (i:=4) rfl
 have z0:=hR.free 0
 have z1:=hR.free 1
 have z2:=hR.free 2
 have z3:=hR.free 3
 have z4:=hR.free 4
 go_wp2_with fail
 refine bodyPost_ret (v:=.tuple #[.agg #[.int .u64 gi.x0,.int .u64 gi.x1,.int .u64 gi.x2,.int .u64 gi.x3,.int .u64 gi.x4],.bool true]) ?_ rfl ⟨gi,Lib.hid (by rw[hgi.out,hg.out]),rfl,jH OU.g (by omega) _ _ _ _ _⟩
 simp[results,Tryz.results126,go_sem,s0,s1,s2,s3,s4]
set_option maxRecDepth 100000 in
set_option maxHeartbeats 1600000 in
theorem VN (p q:Fe) (w0:World) (hT:rM w0) (iW:p.Ok) (kS:q.Ok) (h1:decide (Fe.m (Fe.aM (Fe.cu (dW p q)) q)=Fe.m p)=false) (h2:decide (Fe.m (Fe.aM (Fe.cu (Fe.aM (dW p q) gB)) q)=Fe.m p)=true) (h3:decide (Fe.m (Fe.aM (dW p q) gB)%2=1)=true):
  Calls Tryz.prog 126 #[.agg #[.int .u64 p.x0,.int .u64 p.x1,.int .u64 p.x2,.int .u64 p.x3,.int .u64 p.x4],.agg #[.int .u64 q.x0,.int .u64 q.x1,.int .u64 q.x2,.int .u64 q.x3,.int .u64 q.x4]] w0 (tY (Fe.kR (Fe.aM (dW p q) gB)) true w0):=by
 have HT:=Lib.hid hT;clear hT
 have H1:=Lib.hid h1;clear h1
 have H2:=Lib.hid h2;clear h2
 have H3:=Lib.hid h3;clear h3
 have hE0:mY w0 (w0.heap.size+3) [(w0.heap.size,p),(w0.heap.size+1,q)] [w0.heap.size+1+1] (((w0.alloc (.cells #[.int .u64 p.x0,.int .u64 p.x1,.int .u64 p.x2,.int .u64 p.x3,.int .u64 p.x4] 54)).alloc (.cells #[.int .u64 q.x0,.int .u64 q.x1,.int .u64 q.x2,.int .u64 q.x3,.int .u64 q.x4] 54)).alloc (.cells #[.int .u64 0,.int .u64 0,.int .u64 0,.int .u64 0,.int .u64 0] 54)):=sP p q w0
 go_enter Tryz.func126,Tryz.ntmps126
 go_wp2_with fail
 refine (qz p q _ iW kS).mono ?_
 rintro e v1 ⟨g,hg,rfl,hg1⟩
 have GI:g.Ok:=by rw[hg.out];exact (Fe.mul_right _ _).ok
 have hE1:=(hE0.grown hg1).grown (World.grownBy_alloc v1 (.cells #[.int .u64 g.x0,.int .u64 g.x1,.int .u64 g.x2,.int .u64 g.x3,.int .u64 g.x4] 54) none)
 have hl1:=(hE0.grown hg1).l
 have hG1:aH (v1.alloc (.cells #[.int .u64 g.x0,.int .u64 g.x1,.int .u64 g.x2,.int .u64 g.x3,.int .u64 g.x4] 54)) v1.heap.size 54 (aR g):=aH.new v1 (aR g) _
 clear hE0 hg1
 have ig:=hE1.e (w0.heap.size,p) (by simp)
 have iG:=hE1.e (w0.heap.size+1,q) (by simp)
 have c0:=ig.cell (i:=0) rfl
 have c1:=ig.cell (i:=1) rfl
 have c2:=ig.cell (i:=2) rfl
 have c3:=ig.cell (i:=3) rfl
 have c4:=ig.cell (i:=4) rfl
 have d0:=iG.cell (i:=0) rfl
 have d1:=iG.cell (i:=1) rfl
 have d2:=iG.cell (i:=2) rfl
 have d3:=iG.cell (i:=3) rfl
 have d4:=iG.cell (i:=4) rfl
 go_wp2_with fail
 refine (ku g p q false _ GI iW kS (by rw[hg.out];exact H1.out)).mono ?_
 rintro e v2 ⟨rfl,hg2⟩
 have hE2:=hE1.grown hg2
 have hG2:=hG1.grown hg2 (by simp)
 clear hE1 hG1 hg2 ig iG c0 c1 c2 c3 c4 d0 d1 d2 d3 d4
 have ig:=hE2.e (w0.heap.size,p) (by simp)
 have iG:=hE2.e (w0.heap.size+1,q) (by simp)
 have c0:=ig.cell (i:=0) rfl
 have c1:=ig.cell (i:=1) rfl
 have c2:=ig.cell (i:=2) rfl
 have c3:=ig.cell (i:=3) rfl
 have c4:=ig.cell (i:=4) rfl
 have d0:=iG.cell (i:=0) rfl
 have d1:=iG.cell (i:=1) rfl
 have d2:=iG.cell (i:=2) rfl
 have d3:=iG.cell (i:=3) rfl
 have d4:=iG.cell (i:=4) rfl
 have x0:=hG2.cell (i:=0) rfl
 have x1:=hG2.cell (i:=1) rfl
 have x2:=hG2.cell (i:=2) rfl
 have x3:=hG2.cell (i:=3) rfl
 have x4:=hG2.cell (i:=4) rfl
 have y0:=hG2.free 0
 have y1:=hG2.free 1
 have y2:=hG2.free 2
 have y3:=hG2.free 3
 have y4:=hG2.free 4
 have Dy:=HT.out.grown hE2.g
 have t0:v2.cell? ⟨6,0,none⟩=some (.int .u64 gB.x0):=Dy.q 0 (by decide)
 have t1:v2.cell? ⟨6,1,none⟩=some (.int .u64 gB.x1):=Dy.q 1 (by decide)
 have t2:v2.cell? ⟨6,2,none⟩=some (.int .u64 gB.x2):=Dy.q 2 (by decide)
 have t3:v2.cell? ⟨6,3,none⟩=some (.int .u64 gB.x3):=Dy.q 3 (by decide)
 have t4:v2.cell? ⟨6,4,none⟩=some (.int .u64 gB.x4):=Dy.q 4 (by decide)
 clear Dy
 go_wp2_with fail
 refine (lS g gB _ GI AL).mono ?_
 rintro e v3 ⟨gi,hgi,rfl,hg3⟩
 have GJ:gi.Ok:=by rw[hgi.out];exact (Fe.mul_right _ _).ok
 have hK:Cw w0 [(w0.heap.size,p),(w0.heap.size+1,q)] v1.heap.size:=by
  refine⟨by omega,?_⟩
  intro z hz
  simp only[List.mem_cons,List.not_mem_nil,or_false]at hz
  rcases hz with rfl|rfl<;>simp only[]<;>omega
 have GK:=(hE2.grown hg3).set hK gi
 have hG4:aH (jY v3 v1.heap.size gi) v1.heap.size 54 (aR gi):=jP ⟨_,_,_,_,_,hG2.grown hg3 (by simp)⟩
 have hG3:=hG2.grown hg3 (by simp)
 clear hE2 hG2 hg3 ig iG c0 c1 c2 c3 c4 d0 d1 d2 d3 d4 x0 x1 x2 x3 x4 y0 y1 y2 y3 y4 t0 t1 t2 t3 t4
 have x0:=hG3.cell (i:=0) rfl
 have x1:=hG3.cell (i:=1) rfl
 have x2:=hG3.cell (i:=2) rfl
 have x3:=hG3.cell (i:=3) rfl
 have x4:=hG3.cell (i:=4) rfl
 have y0:=hG3.free 0
 have y1:=hG3.free 1
 have y2:=hG3.free 2
 have y3:=hG3.free 3
 have y4:=hG3.free 4
 have ig:=GK.e (w0.heap.size,p) (by simp)
 have iG:=GK.e (w0.heap.size+1,q) (by simp)
 unfold jY at GK hG4 ig iG
 have c0:=ig.cell (i:=0) rfl
 have c1:=ig.cell (i:=1) rfl
 have c2:=ig.cell (i:=2) rfl
 have c3:=ig.cell (i:=3) rfl
 have c4:=ig.cell (i:=4) rfl
 have d0:=iG.cell (i:=0) rfl
 have d1:=iG.cell (i:=1) rfl
 have d2:=iG.cell (i:=2) rfl
 have d3:=iG.cell (i:=3) rfl
 have d4:=iG.cell (i:=4) rfl
 go_wp2_with fail
 refine (ku gi p q true _ GJ iW kS (by rw[hgi.out,hg.out];exact H2.out)).mono ?_
 rintro e v5 ⟨rfl,hg5⟩
 have ze:=GK.grown hg5
 have mR:=hG4.grown hg5 (by simp)
 clear GK hG4 hG3 hg5 ig iG c0 c1 c2 c3 c4 d0 d1 d2 d3 d4 x0 x1 x2 x3 x4 y0 y1 y2 y3 y4
 have x0:=mR.cell (i:=0) rfl
 have x1:=mR.cell (i:=1) rfl
 have x2:=mR.cell (i:=2) rfl
 have x3:=mR.cell (i:=3) rfl
 have x4:=mR.cell (i:=4) rfl
 have y0:=mR.free 0
 have y1:=mR.free 1
 have y2:=mR.free 2
 have y3:=mR.free 3
 have y4:=mR.free 4
 go_wp2_with fail
 refine (wJ gi true _ GJ (by rw[hgi.out,hg.out];exact H3.out)).mono ?_
 rintro e v6 ⟨rfl,uL⟩
 have OU:=ze.grown uL
 have oC:=mR.grown uL (by simp)
 clear ze mR uL x0 x1 x2 x3 x4 y0 y1 y2 y3 y4
 have x0:=oC.cell (i:=0) rfl
 have x1:=oC.cell (i:=1) rfl
 have x2:=oC.cell (i:=2) rfl
 have x3:=oC.cell (i:=3) rfl
 have x4:=oC.cell (i:=4) rfl
 have y0:=oC.free 0
 have y1:=oC.free 1
 have y2:=oC.free 2
 have y3:=oC.free 3
 have y4:=oC.free 4
 go_wp2_with fail
 refine (Ez gi _ (HT.out.grown OU.g) GJ).mono ?_
 rintro e v7 ⟨n,hn,rfl,FD⟩
 have hK2:Cw w0 [(w0.heap.size,p),(w0.heap.size+1,q)] v1.heap.size:=by
  refine⟨by omega,?_⟩
  intro z hz
  simp only[List.mem_cons,List.not_mem_nil,or_false]at hz
  rcases hz with rfl|rfl<;>simp only[]<;>omega
 have Zl:=(OU.grown FD).set hK2 n
 have Cx:=oC.grown FD (by simp)
 clear OU oC FD x0 x1 x2 x3 x4 y0 y1 y2 y3 y4
 have x0:=Cx.cell (i:=0) rfl
 have x1:=Cx.cell (i:=1) rfl
 have x2:=Cx.cell (i:=2) rfl
 have x3:=Cx.cell (i:=3) rfl
 have x4:=Cx.cell (i:=4) rfl
 have y0:=Cx.free 0
 have y1:=Cx.free 1
 have y2:=Cx.free 2
 have y3:=Cx.free 3
 have y4:=Cx.free 4
 obtain⟨u0,u1,u2,u3,u4,hR⟩:=Zl.r _ (List.mem_singleton.2 rfl)
 unfold jY at Zl hR
 have s0:=hR.cell (i:=0) rfl
 have s1:=hR.cell (i:=1) rfl
 have s2:=hR.cell (i:=2) rfl
 have s3:=hR.cell (i:=3) rfl
 have s4:=hR.cell (i:=4) rfl
 have z0:=hR.free 0
 have z1:=hR.free 1
 have z2:=hR.free 2
 have z3:=hR.free 3
 have z4:=hR.free 4
 go_wp2_with fail
 refine bodyPost_ret (v:=.tuple #[.agg #[.int .u64 n.x0,.int .u64 n.x1,.int .u64 n.x2,.int .u64 n.x3,.int .u64 n.x4],.bool true]) ?_ rfl ⟨n,Lib.hid (by rw[hn.out,hgi.out,hg.out]),rfl,jH Zl.g (by omega) _ _ _ _ _⟩
 simp[results,Tryz.results126,go_sem,s0,s1,s2,s3,s4]
set_option maxRecDepth 100000 in
set_option maxHeartbeats 1600000 in
theorem VO (p q:Fe) (w0:World) (hT:rM w0) (iW:p.Ok) (kS:q.Ok) (h1:decide (Fe.m (Fe.aM (Fe.cu (dW p q)) q)=Fe.m p)=false) (h2:decide (Fe.m (Fe.aM (Fe.cu (Fe.aM (dW p q) gB)) q)=Fe.m p)=false):
  Calls Tryz.prog 126 #[.agg #[.int .u64 p.x0,.int .u64 p.x1,.int .u64 p.x2,.int .u64 p.x3,.int .u64 p.x4],.agg #[.int .u64 q.x0,.int .u64 q.x1,.int .u64 q.x2,.int .u64 q.x3,.int .u64 q.x4]] w0 (tY Fe.bI false w0):=by
 have HT:=Lib.hid hT;clear hT
 have H1:=Lib.hid h1;clear h1
 have H2:=Lib.hid h2;clear h2
 have hE0:mY w0 (w0.heap.size+3) [(w0.heap.size,p),(w0.heap.size+1,q)] [w0.heap.size+1+1] (((w0.alloc (.cells #[.int .u64 p.x0,.int .u64 p.x1,.int .u64 p.x2,.int .u64 p.x3,.int .u64 p.x4] 54)).alloc (.cells #[.int .u64 q.x0,.int .u64 q.x1,.int .u64 q.x2,.int .u64 q.x3,.int .u64 q.x4] 54)).alloc (.cells #[.int .u64 0,.int .u64 0,.int .u64 0,.int .u64 0,.int .u64 0] 54)):=sP p q w0
 go_enter Tryz.func126,Tryz.ntmps126
 go_wp2_with fail
 refine (qz p q _ iW kS).mono ?_
 rintro e v1 ⟨g,hg,rfl,hg1⟩
 have GI:g.Ok:=by rw[hg.out];exact (Fe.mul_right _ _).ok
 have hE1:=(hE0.grown hg1).grown (World.grownBy_alloc v1 (.cells #[.int .u64 g.x0,.int .u64 g.x1,.int .u64 g.x2,.int .u64 g.x3,.int .u64 g.x4] 54) none)
 have hl1:=(hE0.grown hg1).l
 have hG1:aH (v1.alloc (.cells #[.int .u64 g.x0,.int .u64 g.x1,.int .u64 g.x2,.int .u64 g.x3,.int .u64 g.x4] 54)) v1.heap.size 54 (aR g):=aH.new v1 (aR g) _
 clear hE0 hg1
 have ig:=hE1.e (w0.heap.size,p) (by simp)
 have iG:=hE1.e (w0.heap.size+1,q) (by simp)
 have c0:=ig.cell (i:=0) rfl
 have c1:=ig.cell (i:=1) rfl
 have c2:=ig.cell (i:=2) rfl
 have c3:=ig.cell (i:=3) rfl
 have c4:=ig.cell (i:=4) rfl
 have d0:=iG.cell (i:=0) rfl
 have d1:=iG.cell (i:=1) rfl
 have d2:=iG.cell (i:=2) rfl
 have d3:=iG.cell (i:=3) rfl
 have d4:=iG.cell (i:=4) rfl
 go_wp2_with fail
 refine (ku g p q false _ GI iW kS (by rw[hg.out];exact H1.out)).mono ?_
 rintro e v2 ⟨rfl,hg2⟩
 have hE2:=hE1.grown hg2
 have hG2:=hG1.grown hg2 (by simp)
 clear hE1 hG1 hg2 ig iG c0 c1 c2 c3 c4 d0 d1 d2 d3 d4
 have ig:=hE2.e (w0.heap.size,p) (by simp)
 have iG:=hE2.e (w0.heap.size+1,q) (by simp)
 have c0:=ig.cell (i:=0) rfl
 have c1:=ig.cell (i:=1) rfl
 have c2:=ig.cell (i:=2) rfl
 have c3:=ig.cell (i:=3) rfl
 have c4:=ig.cell (i:=4) rfl
 have d0:=iG.cell (i:=0) rfl
 have d1:=iG.cell (i:=1) rfl
 have d2:=iG.cell (i:=2) rfl
 have d3:=iG.cell (i:=3) rfl
 have d4:=iG.cell (i:=4) rfl
 have x0:=hG2.cell (i:=0) rfl
 have x1:=hG2.cell (i:=1) rfl
 have x2:=hG2.cell (i:=2) rfl
 have x3:=hG2.cell (i:=3) rfl
 have x4:=hG2.cell (i:=4) rfl
 have y0:=hG2.free 0
 have y1:=hG2.free 1
 have y2:=hG2.free 2
 have y3:=hG2.free 3
 have y4:=hG2.free 4
 have Dy:=HT.out.grown hE2.g
 have t0:v2.cell? ⟨6,0,none⟩=some (.int .u64 gB.x0):=Dy.q 0 (by decide)
 have t1:v2.cell? ⟨6,1,none⟩=some (.int .u64 gB.x1):=Dy.q 1 (by decide)
 have t2:v2.cell? ⟨6,2,none⟩=some (.int .u64 gB.x2):=Dy.q 2 (by decide)
 have t3:v2.cell? ⟨6,3,none⟩=some (.int .u64 gB.x3):=Dy.q 3 (by decide)
 have t4:v2.cell? ⟨6,4,none⟩=some (.int .u64 gB.x4):=Dy.q 4 (by decide)
 clear Dy
 go_wp2_with fail
 refine (lS g gB _ GI AL).mono ?_
 rintro e v3 ⟨gi,hgi,rfl,hg3⟩
 have GJ:gi.Ok:=by rw[hgi.out];exact (Fe.mul_right _ _).ok
 have hK:Cw w0 [(w0.heap.size,p),(w0.heap.size+1,q)] v1.heap.size:=by
  refine⟨by omega,?_⟩
  intro z hz
  simp only[List.mem_cons,List.not_mem_nil,or_false]at hz
  rcases hz with rfl|rfl<;>simp only[]<;>omega
 have GK:=(hE2.grown hg3).set hK gi
 have hG4:aH (jY v3 v1.heap.size gi) v1.heap.size 54 (aR gi):=jP ⟨_,_,_,_,_,hG2.grown hg3 (by simp)⟩
 have hG3:=hG2.grown hg3 (by simp)
 clear hE2 hG2 hg3 ig iG c0 c1 c2 c3 c4 d0 d1 d2 d3 d4 x0 x1 x2 x3 x4 y0 y1 y2 y3 y4 t0 t1 t2 t3 t4
 have x0:=hG3.cell (i:=0) rfl
 have x1:=hG3.cell (i:=1) rfl
 have x2:=hG3.cell (i:=2) rfl
 have x3:=hG3.cell (i:=3) rfl
 have x4:=hG3.cell (i:=4) rfl
 have y0:=hG3.free 0
 have y1:=hG3.free 1
 have y2:=hG3.free 2
 have y3:=hG3.free 3
 have y4:=hG3.free 4
 have ig:=GK.e (w0.heap.size,p) (by simp)
 have iG:=GK.e (w0.heap.size+1,q) (by simp)
 unfold jY at GK hG4 ig iG
 have c0:=ig.cell (i:=0) rfl
 have c1:=ig.cell (i:=1) rfl
 have c2:=ig.cell (i:=2) rfl
 have c3:=ig.cell (i:=3) rfl
 have c4:=ig.cell (i:=4) rfl
 have d0:=iG.cell (i:=0) rfl
 have d1:=iG.cell (i:=1) rfl
 have d2:=iG.cell (i:=2) rfl
 have d3:=iG.cell (i:=3) rfl
 have d4:=iG.cell (i:=4) rfl
 go_wp2_with fail
 refine (ku gi p q false _ GJ iW kS (by rw[hgi.out,hg.out];exact H2.out)).mono ?_
 rintro e v5 ⟨rfl,hg5⟩
 have ze:=GK.grown hg5
 have mR:=hG4.grown hg5 (by simp)
 clear GK hG4 hG3 hg5 ig iG c0 c1 c2 c3 c4 d0 d1 d2 d3 d4 x0 x1 x2 x3 x4 y0 y1 y2 y3 y4
 obtain⟨u0,u1,u2,u3,u4,hR⟩:=ze.r _ (List.mem_singleton.2 rfl)
 have s0:=hR.cell (i:=0) rfl
 have s1:=hR.cell (i:=1) rfl
 have s2:=hR.cell (i:=2) rfl
 have s3:=hR.cell (i:=3) rfl
 have s4:=hR.cell (i:=4) rfl
 have z0:=hR.free 0
 have z1:=hR.free 1
 have z2:=hR.free 2
 have z3:=hR.free 3
 have z4:=hR.free 4
 go_wp2_with fail
 refine bodyPost_ret (v:=.tuple #[.agg #[.int .u64 0,.int .u64 0,.int .u64 0,.int .u64 0,.int .u64 0],.bool false]) ?_ rfl ⟨Fe.bI,Lib.hid rfl,rfl,jH ze.g (by omega) _ _ _ _ _⟩
 simp[results,Tryz.results126,go_sem,s0,s1,s2,s3,s4]
end
section
open Fe Num
structure Pw (a r:Fe) (k:Nat):Prop where
 ri:Right r
 mi:Fe.m r=Fe.m a^k%P
theorem Pw.one {a:Fe} (h:Right a):Pw a a 1:=⟨h,by rw[Nat.pow_one,Nat.mod_eq_of_lt (xM a)]⟩
theorem Pw.mul {a r s:Fe} {k j:Nat} (h:Pw a r k) (g:Pw a s j):Pw a (aM r s) (k+j):=
 ⟨mul_right _ _,by rw[yF h.ri g.ri,h.mi,g.mi,<- Nat.mul_mod,Nat.pow_add]⟩
theorem Pw.sq {a r:Fe} {k:Nat} (h:Pw a r k):Pw a (cu r) (2*k):=
 ⟨dS _,by rw[Y8 h.ri,h.mi,<- Nat.mul_mod,<- Nat.pow_add,show k+k=2*k by omega]⟩
theorem Pw.RZ {a r:Fe} {k:Nat} (h:Pw a r k) (n:Nat):Pw a (RZ n r) (2^n*k):=by
 induction n with
 | zero=>rw[Nat.pow_zero,Nat.one_mul];exact h
 | succ n ih=>have:=ih.sq;rw[<- Nat.mul_assoc,<- Nat.pow_succ']at this;exact this
theorem Pw.step {a r s:Fe} {k j:Nat} (h:Pw a r k) (g:Pw a s j) (n:Nat):Pw a (mD n r s) (2^n*k+j):=(h.RZ n).mul g
theorem Pw.to {a r:Fe} {k j:Nat} (h:Pw a r k) (e:k=j):Pw a r j:=e▸h
theorem MG {a:Fe} (h:Right a):Pw a (xQ a) (2^250-1):=by
 have p1:Pw a (Mw a) 3:=((Pw.one h).step (Pw.one h) 1).to (by decide)
 have p2:Pw a (R3 a) 15:=(p1.step p1 2).to (by decide)
 have p3:Pw a (Mx a) 31:=(p2.step (Pw.one h) 1).to (by decide)
 have p4:Pw a (Gz a) 1023:=(p3.step p3 5).to (by decide)
 have p5:Pw a (MB a) (2^20-1):=(p4.step p4 10).to (by decide)
 have p6:Pw a (R4 a) (2^40-1):=(p5.step p5 20).to (by decide)
 have p7:Pw a (GA a) (2^50-1):=(p6.step p4 10).to (by decide)
 have p8:Pw a (MC a) (2^100-1):=(p7.step p7 50).to (by decide)
 have p9:Pw a (R5 a) (2^200-1):=(p8.step p8 100).to (by decide)
 exact (p9.step p7 50).to (by decide)
theorem Zm {a:Fe} (h:Right a):Pw a (AJ a) eInv:=by
 have p:=Pw.one h
 have e8:Pw a (cu (cu (cu a))) 8:=p.sq.sq.sq
 have e11:Pw a (aM (cu (cu (cu a))) (aM (cu a) a)) 11:=e8.mul (p.sq.mul p)
 exact ((MG h).step e11 5).to (by decide +kernel)
theorem tZ (a:Fe):Right (AJ a):=mul_right _ _
theorem KF (n:Nat) (p b:Fe):Right (mD n p b):=mul_right _ _
theorem MH {u v:Fe} (hu:Right u) (hv:Right v):Fe.m (dW u v)=gN (Fe.m u) (Fe.m v)%P:=by
 have hc:Fe.m (aM (cu v) v)=Fe.m v^3%P:=((Pw.one hv).sq.mul (Pw.one hv)).mi
 have h7:Fe.m (aM (cu (aM (cu v) v)) v)=Fe.m v^7%P:=((((Pw.one hv).sq.mul (Pw.one hv)).sq).mul (Pw.one hv)).mi
 have hb:Fe.m (aM u (aM (cu (aM (cu v) v)) v))=Fe.m u*Fe.m v^7%P:=by rw[yF hu (mul_right _ _),h7,Nat.mul_mod_mod]
 have hr:=mul_right u (aM (cu (aM (cu v) v)) v)
 have hpw:Fe.m (mD 2 (xQ (aM u (aM (cu (aM (cu v) v)) v))) (aM u (aM (cu (aM (cu v) v)) v)))=(Fe.m u*Fe.m v^7)^o7%P:=by
  rw[(((MG hr).step (Pw.one hr) 2).to (show 2^2*(2^250-1)+1=o7 by decide +kernel)).mi,hb,<- Nat.pow_mod]
 unfold dW
 rw[yF (mul_right _ _) (KF _ _ _),yF hu (mul_right _ _),hc,hpw]
 unfold gN
 rw[Nat.mul_mod_mod,Nat.mod_mul_mod]
 exact wC (by rw[Nat.mul_mod_mod]) rfl
theorem pq (u v:Fe):Right (dW u v):=mul_right _ _
theorem GL:Right gB:=by constructor<;>decide
theorem VP:Fe.m gB=i0:=by decide +kernel
def uM (r u v:Fe):Bool:=decide (Fe.m (aM (cu r) v)=Fe.m u)
theorem wK {r u v:Fe} (hr:Right r) (hv:Right v):uM r u v=true↔Fe.m r*Fe.m r*Fe.m v%P=Fe.m u:=by
 unfold uM
 rw[decide_eq_true_iff,yF (dS _) hv,Y8 hr,Nat.mod_mul_mod]
def uN (r:Fe):Fe:=if Fe.m r%2=1 then kR r else r
def fV (u v:Fe):Fe×Bool:=
 if uM (dW u v) u v=true then (uN (dW u v),true)
 else if uM (aM (dW u v) gB) u v=true then (uN (aM (dW u v) gB),true)
 else (bI,false)
theorem ach {a:Fe} (h:Right a):Fe.m (kR a)=(P-Fe.m a)%P:=by
 have hz:Right bI:=by constructor<;>decide
 have e:Fe.m bI=0:=by decide +kernel
 unfold kR
 rw[Ye hz h,e,Nat.zero_add]
theorem KG {r:Fe} (h:Right r):Right (uN r)/\Fe.m (uN r)%2=0/\∀v:Nat,Fe.m (uN r)*Fe.m (uN r)*v%P=Fe.m r*Fe.m r*v%P:=by
 unfold uN
 have hl:=xM r
 by_cases ho:Fe.m r%2=1
 .rw[if_pos ho]
  have hm:=ach h
  rw[Nat.mod_eq_of_lt (by omega)]at hm
  refine⟨kM _,?_,fun v=>?_⟩
  .rw[hm];unfold P at *;omega
  .rw[hm]
   obtain⟨d,hd⟩:∃d,P=Fe.m r+d:=⟨P-Fe.m r,by omega⟩
   have e:(P-Fe.m r)*(P-Fe.m r)*v+P*(2*Fe.m r*v)=Fe.m r*Fe.m r*v+P*(P*v):=by
    rw[hd,Nat.add_sub_cancel_left];grind
   have:=congrArg (· % P) e
   simpa[Nat.add_mul_mod_self_left] using this
 .rw[if_neg ho]
  exact⟨h,by omega,fun _=>rfl⟩
theorem Dz {u v:Fe} (hv:Right v) (h:(fV u v).2=true):Right (fV u v).1/\Fe.m (fV u v).1%2=0/\Fe.m (fV u v).1*Fe.m (fV u v).1*Fe.m v%P=Fe.m u:=by
 unfold fV at *
 by_cases h1:uM (dW u v) u v=true
 .rw[if_pos h1]at h ⊢
  have:=KG (pq u v)
  exact⟨this.1,this.2.1,(this.2.2 _).trans ((wK (pq u v) hv).1 h1)⟩
 .rw[if_neg h1]at h ⊢
  by_cases h2:uM (aM (dW u v) gB) u v=true
  .rw[if_pos h2]at h ⊢
   have:=KG (mul_right _ _:Right (aM (dW u v) gB))
   exact⟨this.1,this.2.1,(this.2.2 _).trans ((wK (mul_right _ _) hv).1 h2)⟩
  .rw[if_neg h2]at h;cases h
theorem DC {r u v:Nat}:nk (r%P) u v↔nk r u v:=by
 unfold nk
 rw[show r%P*(r%P)*v%P=r*r*v%P from by rw[Nat.mul_mod,<- Nat.mul_mod r r,<- Nat.mul_mod]]
theorem OV {u v:Fe} (hu:Right u) (hv:Right v) (h:nk (gN (Fe.m u) (Fe.m v)) (Fe.m u) (Fe.m v)\/nk (gN (Fe.m u) (Fe.m v)*i0) (Fe.m u) (Fe.m v)):(fV u v).2=true:=by
 have hul:=Nat.mod_eq_of_lt (xM u)
 unfold fV
 by_cases h1:uM (dW u v) u v=true
 .rw[if_pos h1]
 .rw[if_neg h1]
  by_cases h2:uM (aM (dW u v) gB) u v=true
  .rw[if_pos h2]
  .exfalso
   rcases h with h|h
   .apply h1
    rw[wK (pq u v) hv,MH hu hv]
    have h2:=DC.2 h
    unfold nk at h2
    rw[hul]at h2
    exact h2
   .apply h2
    rw[wK (mul_right _ _) hv,yF (pq u v) GL,MH hu hv,VP,Nat.mod_mul_mod]
    have h3:=DC.2 h
    unfold nk at h3
    rw[hul]at h3
    exact h3
theorem Cy {u v:Fe} {t:Nat} (hu:Right u) (hv:Right v) (h:t*t*Fe.m v%P=Fe.m u):(fV u v).2=true:=
 OV hu hv (Fe.Ap (by rw[h,Nat.mod_eq_of_lt (xM u)]))
end
section
open Go.RowKit
theorem Sd (p q:Fe) (w0:World) (hT:rM w0) (iW:p.Ok) (kS:q.Ok):Calls Tryz.prog 126 #[.agg #[.int .u64 p.x0,.int .u64 p.x1,.int .u64 p.x2,.int .u64 p.x3,.int .u64 p.x4],.agg #[.int .u64 q.x0,.int .u64 q.x1,.int .u64 q.x2,.int .u64 q.x3,.int .u64 q.x4]] w0 (tY (fV p q).1 (fV p q).2 w0):=by
 unfold fV
 by_cases h1:uM (dW p q) p q=true
 .rw[if_pos h1]
  unfold uN
  by_cases h3:Fe.m (dW p q)%2=1
  .rw[if_pos h3];exact VK p q w0 hT iW kS h1 (decide_eq_true h3)
  .rw[if_neg h3];exact VJ p q w0 hT iW kS h1 (decide_eq_false h3)
 .rw[if_neg h1]
  have h1':=(Bool.eq_false_iff).2 h1
  by_cases h2:uM (Fe.aM (dW p q) gB) p q=true
  .rw[if_pos h2]
   unfold uN
   by_cases h3:Fe.m (Fe.aM (dW p q) gB)%2=1
   .rw[if_pos h3];exact VN p q w0 hT iW kS h1' h2 (decide_eq_true h3)
   .rw[if_neg h3];exact VL p q w0 hT iW kS h1' h2 (decide_eq_false h3)
  .rw[if_neg h2];exact VO p q w0 hT iW kS h1' ((Bool.eq_false_iff).2 h2)
theorem Sg (p q:Fe) (b:Bool) (w:World) (iW:p.Ok) (kS:q.Ok) (hb:decide (Fe.m p=Fe.m q)=b):Calls Tryz.prog 73 #[.agg #[.int .u64 p.x0,.int .u64 p.x1,.int .u64 p.x2,.int .u64 p.x3,.int .u64 p.x4],.agg #[.int .u64 q.x0,.int .u64 q.x1,.int .u64 q.x2,.int .u64 q.x3,.int .u64 q.x4]] w fun e w'=>e=.returned (.bool b)/\w.grownBy w' none:=by
 rw[<- hb];exact AA p q w iW kS
theorem kC (p:Fe) (b:Bool) (w:World) (iW:p.Ok) (hb:decide (Fe.m p=0)=b):Calls Tryz.prog 128 #[.agg #[.int .u64 p.x0,.int .u64 p.x1,.int .u64 p.x2,.int .u64 p.x3,.int .u64 p.x4]] w fun e w'=>e=.returned (.bool b)/\w.grownBy w' none:=by
 rw[<- hb];exact RX p w iW
end
namespace Ed
open Num
abbrev F:=Fin Fe.P
theorem Zn:Fe.P≠0:=by have:=Fe.P_2;omega
instance nzP:NeZero Fe.P:=⟨Zn⟩
section
variable {n:Nat} [NeZero n] (d x1 y1 x2 y2 x3 y3 i e:Fin n)
theorem OW
  (e1:y1*y1-x1*x1=1+d*(x1*x1*(y1*y1))) (e2:y2*y2-x2*x2=1+d*(x2*x2*(y2*y2))) (e3:y3*y3-x3*x3=1+d*(x3*x3*(y3*y3))):
  ((x1*y2+x2*y1)*(1-d*(x1*x2*y1*y2))*y3+(1+d*(x1*x2*y1*y2))*(y1*y2+x1*x2)*x3)*((1+d*(x3*x2*y3*y2))*(1-d*(x3*x2*y3*y2))+d*(x3*y2+x2*y3)*(y3*y2+x3*x2)*(x1*y1))=
  ((x3*y2+x2*y3)*(1-d*(x3*x2*y3*y2))*y1+(1+d*(x3*x2*y3*y2))*(y3*y2+x3*x2)*x1)*((1+d*(x1*x2*y1*y2))*(1-d*(x1*x2*y1*y2))+d*(x1*y2+x2*y1)*(y1*y2+x1*x2)*(x3*y3)):=by
 grind
theorem OX
  (e1:y1*y1-x1*x1=1+d*(x1*x1*(y1*y1))) (e2:y2*y2-x2*x2=1+d*(x2*x2*(y2*y2))) (e3:y3*y3-x3*x3=1+d*(x3*x3*(y3*y3))):
  ((1+d*(x1*x2*y1*y2))*(y1*y2+x1*x2)*y3+(x1*y2+x2*y1)*(1-d*(x1*x2*y1*y2))*x3)*((1+d*(x3*x2*y3*y2))*(1-d*(x3*x2*y3*y2))-d*(x3*y2+x2*y3)*(y3*y2+x3*x2)*(x1*y1))=
  ((1+d*(x3*x2*y3*y2))*(y3*y2+x3*x2)*y1+(x3*y2+x2*y3)*(1-d*(x3*x2*y3*y2))*x1)*((1+d*(x1*x2*y1*y2))*(1-d*(x1*x2*y1*y2))-d*(x1*y2+x2*y1)*(y1*y2+x1*x2)*(x3*y3)):=by
 grind
theorem aci
  (e1:y1*y1-x1*x1=1+d*(x1*x1*(y1*y1))) (e2:y2*y2-x2*x2=1+d*(x2*x2*(y2*y2))):
  (y1*y2+x1*x2)*(y1*y2+x1*x2)*((1+d*(x1*x2*y1*y2))*(1+d*(x1*x2*y1*y2)))-(x1*y2+x2*y1)*(x1*y2+x2*y1)*((1-d*(x1*x2*y1*y2))*(1-d*(x1*x2*y1*y2)))=(1-d*(x1*x2*y1*y2))*(1-d*(x1*x2*y1*y2))*((1+d*(x1*x2*y1*y2))*(1+d*(x1*x2*y1*y2)))+d*((x1*y2+x2*y1)*(x1*y2+x2*y1)*((y1*y2+x1*x2)*(y1*y2+x1*x2))):=by
 grind
theorem Zo (hi:i*i=-1) (he:e=d*(x1*x2*y1*y2)) (h1:e*e=1)
  (e1:y1*y1-x1*x1=1+d*(x1*x1*(y1*y1))) (e2:y2*y2-x2*x2=1+d*(x2*x2*(y2*y2))):
  (i*x1+e*y1)*(i*x1+e*y1)=d*((x1*y1*(i*x2+y2))*(x1*y1*(i*x2+y2))):=by
 grind
theorem Zp (hi:i*i=-1) (he:e=d*(x1*x2*y1*y2)) (h1:e*e=1)
  (e1:y1*y1-x1*x1=1+d*(x1*x1*(y1*y1))) (e2:y2*y2-x2*x2=1+d*(x2*x2*(y2*y2))):
  (i*x1-e*y1)*(i*x1-e*y1)=d*((x1*y1*(i*x2-y2))*(x1*y1*(i*x2-y2))):=by
 grind
end
theorem id1:∀{n:Nat} [NeZero n] (a c:Fin n),(a*c)*(a*c)=a*a*(c*c):=by intros;grind
theorem id2:∀{n:Nat} [NeZero n] (d b c:Fin n),b*c=1->d*(b*b)*(c*c)=d:=by intros;grind
theorem id3:∀{n:Nat} [NeZero n] (d i a b c e:Fin n),i*i=-1->a*b*(i*c)=0->d*(a*c*b*e)=0:=by intros;grind
theorem id4:∀{n:Nat} [NeZero n] (e:Fin n),1+e=0->e*e=1:=by intros;grind
theorem id5:∀{n:Nat} [NeZero n] (e:Fin n),1-e=0->e*e=1:=by intros;grind
theorem id6:∀{n:Nat} [NeZero n] (f g a b x y t:Fin n),g*a=x->f*b=y->y*y*(g*g)-x*x*(f*f)=f*f*(g*g)+t*(x*x*(y*y))->(f*f*(g*g))*(b*b-a*a)=(f*f*(g*g))*(1+t*(a*a*(b*b))):=by intros;grind
theorem id7:∀{n:Nat} [NeZero n] (d:Fin n),(1:Fin n)*1-0*0=1+d*(0*0*(1*1)):=by intros;grind
theorem id8:∀{n:Nat} [NeZero n] (d x y:Fin n),y*y-x*x=1+d*(x*x*(y*y))->y*y - -x* -x=1+d*(-x * -x*(y*y)):=by intros;grind
theorem id9:∀{n:Nat} [NeZero n] (d a b c e:Fin n),d*(a*b*c*e)=d*(b*a*e*c):=by intros;grind
theorem agE:∀{n:Nat} [NeZero n] (a b c e:Fin n),a*b+c*e=c*e+a*b:=by intros;grind
theorem agF:∀{n:Nat} [NeZero n] (a b c e:Fin n),a*b+c*e=b*a+e*c:=by intros;grind
theorem agG:∀{n:Nat} [NeZero n] (d b c e:Fin n),d*(0*b*c*e)=0:=by intros;grind
theorem agH:∀{n:Nat} [NeZero n] (a x y:Fin n),(1+0)*a=0*y+x*1->a=x:=by intros;grind
theorem agI:∀{n:Nat} [NeZero n] (a x y:Fin n),(1-0)*a=1*y+0*x->a=y:=by intros;grind
theorem agJ:∀{n:Nat} [NeZero n] (t x y:Fin n),x*y + -x*y=(1+t)*0:=by intros;grind
theorem agK:∀{n:Nat} [NeZero n] (d x y:Fin n),y*y-x*x=1+d*(x*x*(y*y))->y*y+x* -x=(1-d*(x* -x*y*y))*1:=by intros;grind
theorem mul_zero {x y:F} (h:x*y=0):x=0\/y=0:=by
 have h1:x.val*y.val%Fe.P=0:=by have:=congrArg Fin.val h;rwa [Fin.val_mul]at this
 rcases Fe.wB.dvd_mul (Nat.dvd_of_mod_eq_zero h1) with k|k
 .exact Or.inl (Fin.ext (by have:=Nat.mod_eq_zero_of_dvd k;rwa [Nat.mod_eq_of_lt x.isLt]at this))
 .exact Or.inr (Fin.ext (by have:=Nat.mod_eq_zero_of_dvd k;rwa [Nat.mod_eq_of_lt y.isLt]at this))
theorem eX {x y:F} (hx:x≠0) (hy:y≠0):x*y≠0:=fun h=>(mul_zero h).elim hx hy
theorem OY {n:Nat} [NeZero n] {a x y:Fin n} (h:a*x=a*y):a*(x-y)=0:=by grind
theorem yK {n:Nat} [NeZero n] {x y:Fin n} (h:x-y=0):x=y:=by grind
theorem cancel {a x y:F} (ha:a≠0) (h:a*x=a*y):x=y:=
 yK ((mul_zero (OY h)).resolve_left ha)
def inv (x:F):F:=⟨x.val^Fe.eInv%Fe.P,Nat.mod_lt _ (Nat.pos_of_ne_zero Zn)⟩
theorem inv_mul {x:F} (h:x≠0):x*inv x=1:=by
 apply Fin.ext
 rw[Fin.val_mul]
 have h1:=Fe.Za x.val
 rw[if_neg (by rw[Nat.mod_eq_of_lt x.isLt];exact fun e=>h (Fin.ext e))]at h1
 exact h1
theorem VQ (x:F):(inv x).val=x.val^Fe.eInv%Fe.P:=rfl
theorem kC:(0:F).val=0:=by decide +kernel
theorem Si {x a:F} (hx:x≠0):x*(a*inv x)=a:=by
 have:=inv_mul hx
 rw[Fin.mul_comm a,<- Fin.mul_assoc,this,Fin.one_mul]
theorem uZ:(1:F)≠0:=fun h=>absurd (congrArg Fin.val h) (by decide +kernel)
theorem KH:(2:F)≠0:=fun h=>absurd (congrArg Fin.val h) (by decide +kernel)
def dN:Nat:=37095705934669439343138083508754565189542113879843219016388785533085940283555
def d:F:=⟨dN,by decide +kernel⟩
theorem Zq:dN^Fe.uK%Fe.P=Fe.P-1:=Km 256 (by decide +kernel) (by decide +kernel)
theorem Zr {a b:F} (h:a*a=d*(b*b)):b=0:=by
 by_cases hb:b=0
 .exact hb
 exfalso
 have hc:(a*inv b)*(a*inv b)=d:=by
  have h1:=inv_mul hb
  have e:(a*inv b)*(a*inv b)=a*a*(inv b*inv b):=by
   exact id1 a (inv b)
  rw[e,h]
  have g:=@id2
  exact g d b (inv b) h1
 have h1:(a*inv b).val*(a*inv b).val%Fe.P=dN%Fe.P:=by
  have:=congrArg Fin.val hc
  rw[Fin.val_mul]at this
  rw[this]
  exact (Nat.mod_eq_of_lt d.isLt).symm
 have h2:=Fe.Gm (x:=dN) (s:=(a*inv b).val) (by decide +kernel) h1
 rw[Zq]at h2
 exact absurd h2 (by decide +kernel)
def im:F:=⟨Fe.i0,by decide +kernel⟩
theorem MI:im*im=-1:=by decide +kernel
structure Pr where
 x:F
 y:F
def On (p:Pr):Prop:=p.y*p.y-p.x*p.x=1+d*(p.x*p.x*(p.y*p.y))
def tt (p q:Pr):F:=d*(p.x*q.x*p.y*q.y)
def add (p q:Pr):Pr:=⟨(p.x*q.y+q.x*p.y)*inv (1+tt p q),(p.y*q.y+p.x*q.x)*inv (1-tt p q)⟩
def zero:Pr:=⟨0,1⟩
def neg (p:Pr):Pr:=⟨-p.x,p.y⟩
theorem ext {p q:Pr} (hx:p.x=q.x) (hy:p.y=q.y):p=q:=by cases p;cases q;simp_all
theorem g_b {n:Nat} [NeZero n] {c u v:Fin n} (h1:c*(u+v)=0) (h2:c*(u-v)=0):2*(c*u)=0:=by grind
theorem MJ {p q:Pr} (hp:On p) (hq:On q) (h:tt p q*tt p q=1):False:=by
 have s1:=Zr (Zo d p.x p.y q.x q.y im (tt p q) MI rfl h hp hq)
 have s2:=Zr (Zp d p.x p.y q.x q.y im (tt p q) MI rfl h hp hq)
 have s3:=(mul_zero (g_b s1 s2)).resolve_left KH
 have z:tt p q=0:=by
  have g:=@id3
  exact g d im p.x p.y q.x q.y MI s3
 rw[z,Fin.zero_mul]at h
 exact uZ h.symm
theorem pE {p q:Pr} (hp:On p) (hq:On q):1+tt p q≠0:=fun h=>by
 have g:=@id4
 exact MJ hp hq (g _ h)
theorem mF {p q:Pr} (hp:On p) (hq:On q):1-tt p q≠0:=fun h=>by
 have g:=@id5
 exact MJ hp hq (g _ h)
theorem yL {p q:Pr} (hp:On p) (hq:On q):(1+tt p q)*(add p q).x=p.x*q.y+q.x*p.y:=Si (pE hp hq)
theorem yM {p q:Pr} (hp:On p) (hq:On q):(1-tt p q)*(add p q).y=p.y*q.y+p.x*q.x:=Si (mF hp hq)
theorem sQ {p q:Pr} (hp:On p) (hq:On q):On (add p q):=by
 have h1:=yL hp hq
 have h2:=yM hp hq
 have h3:=aci d p.x p.y q.x q.y hp hq
 have n1:=pE hp hq
 have n2:=mF hp hq
 unfold On
 generalize (add p q).x=a at *
 generalize (add p q).y=b at *
 have g:=@id6
 exact cancel (eX (eX n2 n2) (eX n1 n1)) (g (1-tt p q) (1+tt p q) a b _ _ d h1 h2 h3)
theorem pF:On zero:=by
 have g:=@id7
 exact g d
theorem xS {p:Pr} (hp:On p):On (neg p):=by
 have g:=@id8
 exact g d p.x p.y hp
theorem MK (p q:Pr):tt p q=tt q p:=by
 have g:=@id9
 exact g d p.x q.x p.y q.y
theorem add_comm (p q:Pr):add p q=add q p:=by
 have g:=@agE
 have g2:=@agF
 apply ext
 .unfold add;dsimp only;rw[MK p q,g]
 .unfold add;dsimp only;rw[MK p q,g2]
theorem VR (p:Pr):tt zero p=0:=by
 have g:=@agG
 exact g d p.x 1 p.y
theorem zero_add {p:Pr} (hp:On p):add zero p=p:=by
 have h1:=yL pF hp
 have h2:=yM pF hp
 rw[VR]at h1 h2
 have g1:=@agH
 have g2:=@agI
 exact ext (g1 _ _ _ h1) (g2 _ _ _ h2)
theorem add_zero {p:Pr} (hp:On p):add p zero=p:=by rw[add_comm,zero_add hp]
theorem add_neg {p:Pr} (hp:On p):add p (neg p)=zero:=by
 have h1:=yL hp (xS hp)
 have h2:=yM hp (xS hp)
 have n1:=pE hp (xS hp)
 have n2:=mF hp (xS hp)
 have hp':p.y*p.y-p.x*p.x=1+d*(p.x*p.x*(p.y*p.y)):=hp
 apply ext
 .apply cancel n1
  rw[h1]
  have g:=@agJ
  exact g _ _ _
 .apply cancel n2
  rw[h2]
  have g:=@agK
  exact g d p.x p.y hp'
theorem agL {n:Nat} [NeZero n] (d f g a b A H x3 y3 u:Fin n) (ha:g*a=A) (hb:f*b=H) (hu:(1+d*(a*x3*b*y3))*u=a*y3+x3*b):(g*f+d*A*H*(x3*y3))*u=A*f*y3+g*H*x3:=by grind
theorem agM {n:Nat} [NeZero n] (d f g a b A H x3 y3 u:Fin n) (ha:g*a=A) (hb:f*b=H) (hu:(1-d*(a*x3*b*y3))*u=b*y3+a*x3):(g*f-d*A*H*(x3*y3))*u=g*H*y3+A*f*x3:=by grind
theorem acj {n:Nat} [NeZero n] (d f g a b A H x3 y3:Fin n) (ha:g*a=A) (hb:f*b=H):g*f+d*A*H*(x3*y3)=g*f*(1+d*(a*x3*b*y3)):=by grind
theorem acn {n:Nat} [NeZero n] (d f g a b A H x3 y3:Fin n) (ha:g*a=A) (hb:f*b=H):g*f-d*A*H*(x3*y3)=g*f*(1-d*(a*x3*b*y3)):=by grind
theorem Sj {n:Nat} [NeZero n] {G1 G2 A1 A2 u v:Fin n} (h1:G1*u=A1) (h2:G2*v=A2) (h:A1*G2=A2*G1):(G1*G2)*u=(G1*G2)*v:=by grind
theorem aco {p q r:Pr} (hp:On p) (hq:On q) (hr:On r):
  ((1+tt p q)*(1-tt p q)+d*(p.x*q.y+q.x*p.y)*(p.y*q.y+p.x*q.x)*(r.x*r.y))*(add (add p q) r).x=(p.x*q.y+q.x*p.y)*(1-tt p q)*r.y+(1+tt p q)*(p.y*q.y+p.x*q.x)*r.x/\
  ((1+tt p q)*(1-tt p q)-d*(p.x*q.y+q.x*p.y)*(p.y*q.y+p.x*q.x)*(r.x*r.y))*(add (add p q) r).y=(1+tt p q)*(p.y*q.y+p.x*q.x)*r.y+(p.x*q.y+q.x*p.y)*(1-tt p q)*r.x/\
  (1+tt p q)*(1-tt p q)+d*(p.x*q.y+q.x*p.y)*(p.y*q.y+p.x*q.x)*(r.x*r.y)≠0/\(1+tt p q)*(1-tt p q)-d*(p.x*q.y+q.x*p.y)*(p.y*q.y+p.x*q.x)*(r.x*r.y)≠0:=by
 have hs:=sQ hp hq
 have h1:=yL hp hq
 have h2:=yM hp hq
 have n1:=pE hp hq
 have n2:=mF hp hq
 refine⟨agL d _ _ _ _ _ _ r.x r.y _ h1 h2 (yL hs hr),agM d _ _ _ _ _ _ r.x r.y _ h1 h2 (yM hs hr),?_,?_⟩
 .rw[acj d _ _ _ _ _ _ r.x r.y h1 h2]
  exact eX (eX n1 n2) (pE hs hr)
 .rw[acn d _ _ _ _ _ _ r.x r.y h1 h2]
  exact eX (eX n1 n2) (mF hs hr)
theorem add_assoc {p q r:Pr} (hp:On p) (hq:On q) (hr:On r):add (add p q) r=add p (add q r):=by
 rw[add_comm p (add q r),add_comm q r]
 obtain⟨a1,a2,a3,a4⟩:=aco hp hq hr
 obtain⟨b1,b2,b3,b4⟩:=aco hr hq hp
 apply ext
 .exact cancel (eX a3 b3) (Sj a1 b1 (OW d p.x p.y q.x q.y r.x r.y hp hq hr))
 .exact cancel (eX a4 b4) (Sj a2 b2 (OX d p.x p.y q.x q.y r.x r.y hp hq hr))
def bD:Nat->Pr->Pr
 | 0,_=>zero
 | k+1,p=>add (bD k p) p
theorem dx {p:Pr} (hp:On p):∀k,On (bD k p)
 | 0=>pF
 | k+1=>sQ (dx hp k) hp
theorem wL {p:Pr} (hp:On p):bD 1 p=p:=zero_add hp
theorem iX {p:Pr} (hp:On p) (a:Nat):∀b,bD (a+b) p=add (bD a p) (bD b p)
 | 0=>(add_zero (dx hp a)).symm
 | b+1=>by
  show add (bD (a+b) p) p=add (bD a p) (add (bD b p) p)
  rw[iX hp a b,add_assoc (dx hp a) (dx hp b) hp]
theorem AO {p:Pr} (hp:On p):bD 2 p=add p p:=by
 show add (bD 1 p) p=_
 rw[wL hp]
theorem qA {p:Pr} (hp:On p) (a:Nat):∀b,bD (a*b) p=bD b (bD a p)
 | 0=>rfl
 | b+1=>by
  rw[Nat.mul_succ,iX hp,qA hp a b]
  rfl
theorem xU:∀k,bD k zero=zero
 | 0=>rfl
 | k+1=>by
  show add (bD k zero) zero=_
  rw[xU k,zero_add pF]
theorem acp {a b c e:Pr} (ha:On a) (hb:On b) (hc:On c) (he:On e):add (add a b) (add c e)=add (add a c) (add b e):=by
 rw[add_assoc ha hb (sQ hc he),<- add_assoc hb hc he,add_comm b c,add_assoc hc hb he,<- add_assoc ha hc (sQ hb he)]
theorem AP {p q:Pr} (hp:On p) (hq:On q):∀k,bD k (add p q)=add (bD k p) (bD k q)
 | 0=>(zero_add pF).symm
 | k+1=>by
  show add (bD k (add p q)) (add p q)=add (add (bD k p) p) (add (bD k q) q)
  rw[AP hp hq k,acp (dx hp k) (dx hq k) hp hq]
end Ed
namespace Ed
open Num
def phi (a:Fe):F:=⟨Fe.m a,Fe.xM a⟩
section
variable {a b:Fe}
theorem fB (ha:a.Right) (hb:b.Right):phi (Fe.aM a b)=phi a*phi b:=Fin.ext (by rw[Fin.val_mul];exact Fe.yF ha hb)
theorem vg (ha:a.Right):phi (Fe.cu a)=phi a*phi a:=Fin.ext (by rw[Fin.val_mul];exact Fe.Y8 ha)
theorem l7 (ha:a.Right) (hb:b.Right):phi (Fe.fF a b)=phi a+phi b:=Fin.ext (by rw[Fin.val_add];exact Fe.abN ha hb)
theorem pG:Fe.Right Fe.bI:=by constructor<;>decide
theorem jQ:Fe.Right Fe.dP:=by constructor<;>decide
theorem AQ:phi Fe.bI=0:=by apply Fin.ext;rw[kC];show Fe.m Fe.bI=0;decide +kernel
theorem jI:phi Fe.dP=1:=by decide +kernel
theorem Zt {n:Nat} [NeZero n] {x y z:Fin n} (h:x+y=z):x=z-y:=by grind
theorem nE (ha:a.Right) (hb:b.Right):phi (Fe.iw a b)=phi a-phi b:=by
 apply Zt
 apply Fin.ext
 rw[Fin.val_add]
 show (Fe.m (Fe.iw a b)+Fe.m b)%Fe.P=Fe.m a
 have h1:=Fe.xM a
 have h2:=Fe.xM b
 rw[Fe.Ye ha hb,Nat.add_mod,Nat.mod_mod,<- Nat.add_mod,show Fe.m a+(Fe.P-Fe.m b)+Fe.m b=Fe.m a+Fe.P by omega,Nat.add_mod_right,Nat.mod_eq_of_lt h1]
theorem zx (ha:a.Right):phi (Fe.kR a)=- phi a:=by
 unfold Fe.kR
 rw[nE pG ha,AQ]
 exact acr _
where acr {n:Nat} [NeZero n] (x:Fin n):0-x=- x:=by grind
theorem GN:Fe.m a=Fe.m b↔phi a=phi b:=⟨fun h=>Fin.ext h,fun h=>congrArg Fin.val h⟩
end
structure Pt where
 X:Fe
 Y:Fe
 Z:Fe
 T:Fe
structure Sm where
 X:Fe
 Y:Fe
 Z:Fe
 T:Fe
 A:Fe
 B:Fe
structure Ad where
 m:Fe
 l:Fe
 z:Fe
 t:Fe
structure iO (s:Pt) (p:Pr):Prop where
 rX:s.X.Right
 rY:s.Y.Right
 rZ:s.Z.Right
 rT:s.T.Right
 on:On p
 z:phi s.Z≠0
 x:phi s.X=phi s.Z*p.x
 y:phi s.Y=phi s.Z*p.y
 t:phi s.T=phi s.Z*(p.x*p.y)
structure mG (s:Sm) (p:Pr):Prop where
 rX:s.X.Right
 rY:s.Y.Right
 rZ:s.Z.Right
 rT:s.T.Right
 rA:s.A.Right
 rB:s.B.Right
 on:On p
 z:phi s.Z≠0
 x:phi s.X=phi s.Z*p.x
 y:phi s.Y=phi s.Z*p.y
 t:phi s.A*phi s.B=phi s.Z*(p.x*p.y)
structure KI (s:Ad) (p:Pr):Prop where
 rm:s.m.Right
 rl:s.l.Right
 rz:s.z.Right
 rt:s.t.Right
 on:On p
 is:∃z:F,z≠0/\phi s.m=z*(p.y+p.x)/\phi s.l=z*(p.y-p.x)/\phi s.z=z+z/\phi s.t=d*(z*(p.x*p.y)+z*(p.x*p.y))
def oD (s:Pt):Sm:=⟨s.X,s.Y,s.Z,s.T,s.T,Fe.dP⟩
def lT (s:Sm):Pt:=⟨s.X,s.Y,s.Z,Fe.aM s.A s.B⟩
def dF:Fe:=⟨0x34dca135978a3,0x1a8283b156ebd,0x5e7a26001c029,0x739c663a03cbb,0x52036cee2b6ff⟩
theorem wM:dF.Right:=by constructor<;>decide
theorem Yp:phi dF=d:=by decide +kernel
def zf (s:Pt):Ad:=⟨Fe.fF s.Y s.X,Fe.iw s.Y s.X,Fe.fF s.Z s.Z,Fe.aM dF (Fe.fF s.T s.T)⟩
def bF (T a u b v:Fe):Sm:=⟨Fe.aM a v,Fe.aM b u,Fe.aM u v,T,a,b⟩
def acs (s:Sm) (q:Ad):Sm:=
 bF (Fe.aM s.A s.B) (Fe.iw (Fe.aM (Fe.fF s.Y s.X) q.m) (Fe.aM (Fe.iw s.Y s.X) q.l)) (Fe.fF (Fe.aM s.Z q.z) (Fe.aM (Fe.aM s.A s.B) q.t))
  (Fe.fF (Fe.aM (Fe.fF s.Y s.X) q.m) (Fe.aM (Fe.iw s.Y s.X) q.l)) (Fe.iw (Fe.aM s.Z q.z) (Fe.aM (Fe.aM s.A s.B) q.t))
def KJ (s:Sm):Sm:=
 bF s.T (Fe.fF (Fe.aM s.X s.Y) (Fe.aM s.X s.Y)) (Fe.iw (Fe.cu s.Y) (Fe.cu s.X)) (Fe.fF (Fe.cu s.Y) (Fe.cu s.X)) (Fe.iw (Fe.fF (Fe.cu s.Z) (Fe.cu s.Z)) (Fe.iw (Fe.cu s.Y) (Fe.cu s.X)))
def agN (s:Pt):Pt:=⟨Fe.kR s.X,s.Y,s.Z,Fe.kR s.T⟩
def bQ:Pt:=⟨Fe.bI,Fe.dP,Fe.dP,Fe.bI⟩
section
variable {n:Nat} [NeZero n]
theorem e_t (Z A:Fin n) (x y o:Fin n) (h:A=Z*(x*y)) (ho:o=1):A*o=Z*(x*y):=by grind
theorem e_b (a b u v x y:Fin n) (ha:u*x=a) (hb:v*y=b):a*v=u*v*x/\b*u=u*v*y/\a*b=u*v*(x*y):=by grind
theorem e_1 (X Y Z T x y m l z' t d x' y' k:Fin n) (hX:X=Z*x) (hY:Y=Z*y) (hT:T=Z*(x*y)) (hm:m=k*(y'+x')) (hl:l=k*(y'-x')) (hz:z'=k+k) (ht:t=d*(k*(x'*y')+k*(x'*y'))) (X3:Fin n) (h:(1+d*(x*x'*y*y'))*X3=x*y'+x'*y):
  (Z*z'+T*t)*X3=(Y+X)*m-(Y-X)*l:=by grind
theorem e_2 (X Y Z T x y m l z' t d x' y' k:Fin n) (hX:X=Z*x) (hY:Y=Z*y) (hT:T=Z*(x*y)) (hm:m=k*(y'+x')) (hl:l=k*(y'-x')) (hz:z'=k+k) (ht:t=d*(k*(x'*y')+k*(x'*y'))) (Y3:Fin n) (h:(1-d*(x*x'*y*y'))*Y3=y*y'+x*x'):
  (Z*z'-T*t)*Y3=(Y+X)*m+(Y-X)*l:=by grind
theorem e_3 (Z T x y z' t d x' y' k:Fin n) (hT:T=Z*(x*y)) (hz:z'=k+k) (ht:t=d*(k*(x'*y')+k*(x'*y'))):
  Z*z'+T*t=2*(Z*(k*(1+d*(x*x'*y*y'))))/\Z*z'-T*t=2*(Z*(k*(1-d*(x*x'*y*y')))):=by grind
theorem agO (X Y Z x y d:Fin n) (hX:X=Z*x) (hY:Y=Z*y) (on:y*y-x*x=1+d*(x*x*(y*y))):Y*Y-X*X=Z*(Z*(1+d*(x*x*y*y)))/\Z*Z+Z*Z-(Y*Y-X*X)=Z*(Z*(1-d*(x*x*y*y))):=by grind
theorem agP (X Y Z x y u X3:Fin n) (hX:X=Z*x) (hY:Y=Z*y) (h:u*X3=x*y+x*y):(Z*(Z*u))*X3=X*Y+X*Y:=by grind
theorem agQ (X Y Z x y u X3:Fin n) (hX:X=Z*x) (hY:Y=Z*y) (h:u*X3=y*y+x*x):(Z*(Z*u))*X3=Y*Y+X*X:=by grind
theorem e_4 (X Y Z x y d X3 Y3:Fin n) (hX:X=Z*x) (hY:Y=Z*y) (on:y*y-x*x=1+d*(x*x*(y*y))) (h:(1+d*(x*x*y*y))*X3=x*y+x*y) (h':(1-d*(x*x*y*y))*Y3=y*y+x*x):
  (Y*Y-X*X)*X3=X*Y+X*Y/\(Z*Z+Z*Z-(Y*Y-X*X))*Y3=Y*Y+X*X/\Y*Y-X*X=Z*(Z*(1+d*(x*x*y*y)))/\Z*Z+Z*Z-(Y*Y-X*X)=Z*(Z*(1-d*(x*x*y*y))):=by
 obtain⟨a,b⟩:=agO X Y Z x y d hX hY on
 refine⟨?_,?_,a,b⟩
 .rw[a];exact agP _ _ _ _ _ _ _ hX hY h
 .rw[b];exact agQ _ _ _ _ _ _ _ hX hY h'
theorem e_5 (X Z x:Fin n) (h:X=Z*x): - X=Z * - x:=by grind
theorem e_6 (X Z x y:Fin n) (h:X=Z*(x*y)): - X=Z*(- x*y):=by grind
theorem e_7:(0:Fin n)=1*0/\(1:Fin n)=1*1/\(0:Fin n)=1*(0*1):=by grind
theorem e_8 (Y X z x y:Fin n) (hY:Y=z*y) (hX:X=z*x):Y+X=z*(y+x)/\Y-X=z*(y-x):=by grind
theorem e_9 {X Z x Z' x' X':Fin n} (hX:X=Z*x) (hX':X'=Z'*x'):X*Z'=X'*Z↔(Z*Z')*x=(Z*Z')*x':=by constructor<;>intro h<;>grind
end
theorem ML {s:Pt} {p:Pr} (h:iO s p):mG (oD s) p:=
 ⟨h.rX,h.rY,h.rZ,h.rT,h.rT,jQ,h.on,h.z,h.x,h.y,e_t (phi s.Z) _ _ _ _ h.t jI⟩
theorem EA {s:Sm} {p:Pr} (h:mG s p):iO (lT s) p:=
 ⟨h.rX,h.rY,h.rZ,Fe.mul_right _ _,h.on,h.z,h.x,h.y,by show phi (Fe.aM s.A s.B)=_;rw[fB h.rA h.rB];exact h.t⟩
theorem acv {s:Pt} {p:Pr} (h:iO s p):KI (zf s) p:=by
 refine⟨Fe.dI _ _,Fe.fQ _ _,Fe.dI _ _,Fe.mul_right _ _,h.on,phi s.Z,h.z,?_,?_,?_,?_⟩
 .show phi (Fe.fF s.Y s.X)=_
  rw[l7 h.rY h.rX];exact (e_8 _ _ _ _ _ h.y h.x).1
 .show phi (Fe.iw s.Y s.X)=_
  rw[nE h.rY h.rX];exact (e_8 _ _ _ _ _ h.y h.x).2
 .show phi (Fe.fF s.Z s.Z)=_
  rw[l7 h.rZ h.rZ]
 .show phi (Fe.aM dF (Fe.fF s.T s.T))=_
  rw[fB wM (Fe.dI _ _),l7 h.rT h.rT,Yp,h.t]
theorem bIs {T a u b v:Fe} {p:Pr} (rT:T.Right) (ra:a.Right) (ru:u.Right) (rb:b.Right) (rv:v.Right) (on:On p) (nu:phi u≠0) (nv:phi v≠0) (ha:phi u*p.x=phi a) (hb:phi v*p.y=phi b):mG (bF T a u b v) p:=by
 obtain⟨h1,h2,h3⟩:=e_b _ _ _ _ _ _ ha hb
 refine⟨Fe.mul_right _ _,Fe.mul_right _ _,Fe.mul_right _ _,rT,ra,rb,on,?_,?_,?_,?_⟩
 .show phi (Fe.aM u v)≠0
  rw[fB ru rv];exact eX nu nv
 .show phi (Fe.aM a v)=phi (Fe.aM u v)*_
  rw[fB ru rv,fB ra rv];exact h1
 .show phi (Fe.aM b u)=phi (Fe.aM u v)*_
  rw[fB ru rv,fB rb ru];exact h2
 .show phi a*phi b=phi (Fe.aM u v)*_
  rw[fB ru rv];exact h3
theorem Zu {s:Sm} {q:Ad} {p r:Pr} (h:mG s p) (k:KI q r):mG (acs s q) (add p r):=by
 obtain⟨z,hz,hm,hl,hzz,ht⟩:=k.is
 have rT:=Fe.mul_right s.A s.B
 have hT:phi (Fe.aM s.A s.B)=phi s.Z*(p.x*p.y):=by rw[fB h.rA h.rB];exact h.t
 have n3:=e_3 (phi s.Z) _ _ _ _ _ d _ _ _ hT hzz ht
 have pu:phi (Fe.fF (Fe.aM s.Z q.z) (Fe.aM (Fe.aM s.A s.B) q.t))=phi s.Z*phi q.z+phi (Fe.aM s.A s.B)*phi q.t:=by
  rw[l7 (Fe.mul_right _ _) (Fe.mul_right _ _),fB h.rZ k.rz,fB rT k.rt]
 have pv:phi (Fe.iw (Fe.aM s.Z q.z) (Fe.aM (Fe.aM s.A s.B) q.t))=phi s.Z*phi q.z-phi (Fe.aM s.A s.B)*phi q.t:=by
  rw[nE (Fe.mul_right _ _) (Fe.mul_right _ _),fB h.rZ k.rz,fB rT k.rt]
 have pm:phi (Fe.aM (Fe.fF s.Y s.X) q.m)=(phi s.Y+phi s.X)*phi q.m:=by rw[fB (Fe.dI _ _) k.rm,l7 h.rY h.rX]
 have pl:phi (Fe.aM (Fe.iw s.Y s.X) q.l)=(phi s.Y-phi s.X)*phi q.l:=by rw[fB (Fe.fQ _ _) k.rl,nE h.rY h.rX]
 refine bIs rT (Fe.fQ _ _) (Fe.dI _ _) (Fe.dI _ _) (Fe.fQ _ _) (sQ h.on k.on) ?_ ?_ ?_ ?_
 .rw[pu,n3.1];exact eX KH (eX h.z (eX hz (pE h.on k.on)))
 .rw[pv,n3.2];exact eX KH (eX h.z (eX hz (mF h.on k.on)))
 .rw[pu,nE (Fe.mul_right _ _) (Fe.mul_right _ _),pm,pl]
  exact e_1 _ _ _ _ _ _ _ _ _ _ d _ _ _ h.x h.y hT hm hl hzz ht _ (yL h.on k.on)
 .rw[pv,l7 (Fe.mul_right _ _) (Fe.mul_right _ _),pm,pl]
  exact e_2 _ _ _ _ _ _ _ _ _ _ d _ _ _ h.x h.y hT hm hl hzz ht _ (yM h.on k.on)
theorem MN {s:Sm} {p:Pr} (h:mG s p):mG (KJ s) (add p p):=by
 have a1:(1+d*(p.x*p.x*p.y*p.y))*(add p p).x=p.x*p.y+p.x*p.y:=yL h.on h.on
 have a2:(1-d*(p.x*p.x*p.y*p.y))*(add p p).y=p.y*p.y+p.x*p.x:=yM h.on h.on
 obtain⟨h1,h2,h3,h4⟩:=e_4 _ _ _ _ _ d _ _ h.x h.y h.on a1 a2
 have pu:phi (Fe.iw (Fe.cu s.Y) (Fe.cu s.X))=phi s.Y*phi s.Y-phi s.X*phi s.X:=by
  rw[nE (Fe.dS _) (Fe.dS _),vg h.rY,vg h.rX]
 have pz:phi (Fe.fF (Fe.cu s.Z) (Fe.cu s.Z))=phi s.Z*phi s.Z+phi s.Z*phi s.Z:=by
  rw[l7 (Fe.dS _) (Fe.dS _),vg h.rZ]
 refine bIs h.rT (Fe.dI _ _) (Fe.fQ _ _) (Fe.dI _ _) (Fe.fQ _ _) (sQ h.on h.on) ?_ ?_ ?_ ?_
 .rw[pu,h3];exact eX h.z (eX h.z (pE h.on h.on))
 .rw[nE (Fe.dI _ _) (Fe.fQ _ _),pu,pz,h4];exact eX h.z (eX h.z (mF h.on h.on))
 .rw[pu,l7 (Fe.mul_right _ _) (Fe.mul_right _ _),fB h.rX h.rY];exact h1
 .rw[nE (Fe.dI _ _) (Fe.fQ _ _),pu,pz,l7 (Fe.dS _) (Fe.dS _),vg h.rY,vg h.rX];exact h2
theorem acw {s:Pt} {p:Pr} (h:iO s p):iO (agN s) (neg p):=
 ⟨Fe.kM _,h.rY,h.rZ,Fe.kM _,xS h.on,h.z,by show phi (Fe.kR s.X)=_;rw[zx h.rX];exact e_5 _ _ _ h.x,h.y,by show phi (Fe.kR s.T)=_;rw[zx h.rT];exact e_6 _ _ _ _ h.t⟩
theorem Sk:iO bQ zero:=by
 refine⟨pG,jQ,jQ,pG,pF,?_,?_,?_,?_⟩
 .show phi Fe.dP≠0
  rw[jI];exact uZ
 .show phi Fe.bI=phi Fe.dP*0
  rw[jI,AQ];exact e_7.1
 .show phi Fe.dP=phi Fe.dP*1
  rw[jI];exact e_7.2.1
 .show phi Fe.bI=phi Fe.dP*(0*1)
  rw[jI,AQ];exact e_7.2.2
theorem Zv {s t:Pt} {p q:Pr} (h:iO s p) (k:iO t q):(Fe.m (Fe.aM s.X t.Z)=Fe.m (Fe.aM t.X s.Z)/\Fe.m (Fe.aM s.Y t.Z)=Fe.m (Fe.aM t.Y s.Z))↔p=q:=by
 rw[GN,GN,fB h.rX k.rZ,fB k.rX h.rZ,fB h.rY k.rZ,fB k.rY h.rZ,e_9 h.x k.x,e_9 h.y k.y]
 have hz:=eX h.z k.z
 exact⟨fun⟨h1,h2⟩=>ext (cancel hz h1) (cancel hz h2),fun e=>by rw[e];exact⟨rfl,rfl⟩⟩
def fD:Pt:=⟨⟨0x62d608f25d51a,0x412a4b4f6592a,0x75b7171a4b31d,0x1ff60527118fe,0x216936d3cd6e5⟩,⟨0x6666666666658,0x4cccccccccccc,0x1999999999999,0x3333333333333,0x6666666666666⟩,Fe.dP,⟨0x68ab3a5b7dda3,0xeea2a5eadbb,0x2af8df483c27e,0x332b375274732,0x67875f0fd78b7⟩⟩
def dA:Pr:=⟨phi fD.X,phi fD.Y⟩
theorem jV:On dA:=by
 show dA.y*dA.y-dA.x*dA.x=1+d*(dA.x*dA.x*(dA.y*dA.y))
 decide +kernel
theorem KL {n:Nat} [NeZero n] (o x:Fin n) (h:o=1):x=o*x:=by grind
theorem EB:iO fD dA:=by
 refine⟨by constructor<;>decide,by constructor<;>decide,jQ,by constructor<;>decide,jV,?_,KL _ _ jI,KL _ _ jI,?_⟩
 .show phi Fe.dP≠0
  rw[jI];exact uZ
 .show phi fD.T=phi fD.Z*(dA.x*dA.y)
  decide +kernel
end Ed
section
open Go Go.RowKit
namespace Ed
def aY (p:Pt):List Value:=aR p.X++aR p.Y++aR p.Z++aR p.T
def lF (s:Sm):List Value:=aR s.X++aR s.Y++aR s.Z++aR s.T++aR s.A++aR s.B
def xV (a:Ad):List Value:=aR a.m++aR a.l++aR a.z++aR a.t
def Pt.v (p:Pt):Value:=.agg (aY p).toArray
def Sm.v (s:Sm):Value:=.agg (lF s).toArray
def Ad.v (a:Ad):Value:=.agg (xV a).toArray
theorem cB (a:Fe):(aR a).all (·.oneCell')=true:=rfl
theorem gJ (p:Pt):(aY p).all (·.oneCell')=true:=rfl
theorem zy (s:Sm):(lF s).all (·.oneCell')=true:=rfl
theorem VT (a:Ad):(xV a).all (·.oneCell')=true:=rfl
def iY (L:List Pt):List Value:=L.flatMap aY
def qB (L:List Ad):List Value:=L.flatMap xV
structure Pt.Ok (p:Pt):Prop where
 X:p.X.Ok
 Y:p.Y.Ok
 Z:p.Z.Ok
 T:p.T.Ok
structure Sm.Ok (p:Sm):Prop where
 X:p.X.Ok
 Y:p.Y.Ok
 Z:p.Z.Ok
 T:p.T.Ok
 A:p.A.Ok
 B:p.B.Ok
structure Ad.Ok (p:Ad):Prop where
 m:p.m.Ok
 l:p.l.Ok
 z:p.z.Ok
 t:p.t.Ok
theorem Sl:Fe.dP.Ok:=jQ.ok
theorem MO:Fe.bI.Ok:=pG.ok
theorem iO.ok {s:Pt} {p:Pr} (h:iO s p):s.Ok:=⟨h.rX.ok,h.rY.ok,h.rZ.ok,h.rT.ok⟩
theorem mG.ok {s:Sm} {p:Pr} (h:mG s p):s.Ok:=⟨h.rX.ok,h.rY.ok,h.rZ.ok,h.rT.ok,h.rA.ok,h.rB.ok⟩
end Ed
open Ed
theorem aD:(Tryz.prog.info? 54).map (·.size)=some 5:=by kernel_rfl
theorem aP:(Tryz.prog.info? 56).map (·.size)=some 20:=by kernel_rfl
theorem sU:(Tryz.prog.info? 159).map (·.size)=some 30:=by kernel_rfl
theorem sV:(Tryz.prog.info? 167).map (·.size)=some 20:=by kernel_rfl
theorem fG {w w':World} {b o:Nat} {cs:List Value} {row:Option Nat} (h:w.rangeAt b o cs) (hg:w.grownBy w' row) (hb:b<w.heap.size) (hr:some b≠row):w'.rangeAt b o cs:=fun j v hv=>by
 rw[bf hg (p:=⟨b,o+j,none⟩) hb hr]
 exact h j v hv
structure eY (w:World):Prop where
 f:rM w
 ld:2<w.heap.size
 lb:1<w.heap.size
 d:w.rangeAt 2 0 (aR dF)
 b:w.rangeAt 1 0 (aY fD)
theorem eY.grown {w w':World} (h:eY w) (hg:w.grownBy w' none):eY w':=
 ⟨h.f.grown hg,Nat.lt_of_lt_of_le h.ld hg.size,Nat.lt_of_lt_of_le h.lb hg.size,fG h.d hg h.ld (by simp),fG h.b hg h.lb (by simp)⟩
theorem rM.keep {w w':World} {S:Nat} (h:rM w) (hg:w.grownBy w' (some S)) (h1:3≠S) (h2:6≠S):rM w':=
 ⟨⟨Nat.lt_of_lt_of_le h.lt.1 hg.size,Nat.lt_of_lt_of_le h.lt.2 hg.size⟩,fun i hi=>by rw[bf hg (p:=⟨3,i,none⟩) h.lt.1 (bH h1)];exact h.p i hi,
  fun i hi=>by rw[bf hg (p:=⟨6,i,none⟩) h.lt.2 (bH h2)];exact h.q i hi⟩
def Zw (S:Nat):Prop:=3≠S/\6≠S/\2≠S/\1≠S
theorem eY.keep {w w':World} {S:Nat} (h:eY w) (hg:w.grownBy w' (some S)) (hS:Zw S):eY w':=
 ⟨h.f.keep hg hS.1 hS.2.1,Nat.lt_of_lt_of_le h.ld hg.size,Nat.lt_of_lt_of_le h.lb hg.size,fG h.d hg h.ld (bH hS.2.2.1),fG h.b hg h.lb (bH hS.2.2.2)⟩
theorem eY.jW {w:World} (h:eY w) {S:Nat} (hS:w.heap.size<=S):Zw S:=
 ⟨by have:=h.f.lt.1;omega,by have:=h.f.lt.2;omega,by have:=h.ld;omega,by have:=h.lb;omega⟩
theorem fu (b o:Nat) (w:World):(Instr.fieldAt 56 (.pointer (some ⟨b,o,none⟩)) 0).run Tryz.prog w=.ok (.pointer (some ⟨b,o,none⟩)) w:=by go_simp
theorem iy (b o:Nat) (w:World):(Instr.fieldAt 56 (.pointer (some ⟨b,o,none⟩)) 1).run Tryz.prog w=.ok (.pointer (some ⟨b,o+5,none⟩)) w:=by go_simp
theorem fA (b o:Nat) (w:World):(Instr.fieldAt 56 (.pointer (some ⟨b,o,none⟩)) 2).run Tryz.prog w=.ok (.pointer (some ⟨b,o+10,none⟩)) w:=by go_simp
theorem nR (b o:Nat) (w:World):(Instr.fieldAt 56 (.pointer (some ⟨b,o,none⟩)) 3).run Tryz.prog w=.ok (.pointer (some ⟨b,o+15,none⟩)) w:=by go_simp
theorem KM (b o:Nat) (w:World):(Instr.fieldAt 167 (.pointer (some ⟨b,o,none⟩)) 0).run Tryz.prog w=.ok (.pointer (some ⟨b,o,none⟩)) w:=by go_simp
theorem KN (b o:Nat) (w:World):(Instr.fieldAt 167 (.pointer (some ⟨b,o,none⟩)) 1).run Tryz.prog w=.ok (.pointer (some ⟨b,o+5,none⟩)) w:=by go_simp
theorem KO (b o:Nat) (w:World):(Instr.fieldAt 167 (.pointer (some ⟨b,o,none⟩)) 2).run Tryz.prog w=.ok (.pointer (some ⟨b,o+10,none⟩)) w:=by go_simp
theorem KP (b o:Nat) (w:World):(Instr.fieldAt 167 (.pointer (some ⟨b,o,none⟩)) 3).run Tryz.prog w=.ok (.pointer (some ⟨b,o+15,none⟩)) w:=by go_simp
theorem jm (b o:Nat) (w:World):(Instr.fieldAt 159 (.pointer (some ⟨b,o,none⟩)) 0).run Tryz.prog w=.ok (.pointer (some ⟨b,o,none⟩)) w:=by go_simp
theorem VU (b o:Nat) (w:World):(Instr.fieldAt 159 (.pointer (some ⟨b,o,none⟩)) 1).run Tryz.prog w=.ok (.pointer (some ⟨b,o+20,none⟩)) w:=by go_simp
theorem VW (b o:Nat) (w:World):(Instr.fieldAt 159 (.pointer (some ⟨b,o,none⟩)) 2).run Tryz.prog w=.ok (.pointer (some ⟨b,o+25,none⟩)) w:=by go_simp
section
variable {a b:Fe} {w:World}
abbrev lH (f:Nat) (args:Array Value) (w:World) (v:Value):Prop:=Calls Tryz.prog f args w fun e w'=>e=.returned v/\w.grownBy w' none
theorem jk (ha:a.Ok) (hb:b.Ok):lH 74 #[a.v,b.v] w (Fe.aM a b).v:=(lS a b w ha hb).mono fun _ _ h=>fq h
theorem VX (ha:a.Ok):lH 117 #[a.v] w (Fe.cu a).v:=(wG a w ha).mono fun _ _ h=>fq h
theorem uO (ha:a.Ok) (hb:b.Ok):lH 127 #[a.v,b.v] w (Fe.fF a b).v:=(VA a b w ha hb).mono fun _ _ h=>fq h
theorem AU (hT:rM w) (ha:a.Ok) (hb:b.Ok):lH 113 #[a.v,b.v] w (Fe.iw a b).v:=(Mr a b w hT ha hb).mono fun _ _ h=>fq h
theorem Sn (hT:rM w) (ha:a.Ok):lH 79 #[a.v] w (Fe.kR a).v:=(Ez a w hT ha).mono fun _ _ h=>fq h
theorem DF:lH 102 #[] w Fe.dP.v:=(VB w).mono fun _ _ h=>fq h
theorem Yq (ha:a.Ok):lH 93 #[a.v] w (AJ a).v:=(KE a w ha).mono fun _ _ h=>fq h
theorem AX (ha:a.Ok) (hb:b.Ok) {x:Bool} (h:decide (Fe.m a=Fe.m b)=x):lH 73 #[a.v,b.v] w (.bool x):=Sg a b x w ha hb h
theorem Sq (ha:a.Ok) {x:Bool} (h:decide (Fe.m a=0)=x):lH 128 #[a.v] w (.bool x):=kC a x w ha h
theorem Yt (ha:a.Ok) {x:Bool} (h:decide (Fe.m a%2=1)=x):lH 95 #[a.v] w (.bool x):=wJ a x w ha h
end
theorem Zx {u v r:Fe} {b:Bool} {w:World} (hT:rM w) (hu:u.Ok) (hv:v.Ok) (h:fV u v=(r,b)):lH 126 #[u.v,v.v] w (.tuple #[r.v,.bool b]):=(Sd u v w hT hu hv).mono fun e w' h'=>by
 obtain⟨r',hr,he,hg⟩:=h'
 have e1:=hr.out
 subst e1
 rw[h]at he
 exact⟨he,hg⟩
theorem dn {P:Program} {fn:Func} {p u:Tmp} {ty:TypeId} (h:fn.results=#[.cell p ty,.tmp u]) (tmps:Array Value) (w:World) (g:Nat) (t:TypeId) (cs:Array Value) (fr:Nat×Nat) (d:TypeDesc)
  (hp:tmps.getD p undef=.pointer (some ⟨g,0,none⟩)) (hg:w.heap[g]?=some (.cells cs t fr))
  (hu:P.underlying ty=some d) (hd:(match d with | .struct _ | .array _ _=>true|_=>false)=true) (hi:(P.info? ty).map (·.size)=some cs.size) {v:Value} (hv:tmps.getD u undef=v):
  (results fn tmps).run P w=.ok (.tuple #[.agg cs,v]) w:=by
 rw[results_cell_tmp h,hp,hv]
 simp[asAddr,run_loadVar_row w g t ty cs fr d hg hu hd hi,Result.andThen]
def MP (p:Pr) (w:World) (e:Ending) (w':World):Prop:=∃t:Pt,iO t p/\e=.returned t.v/\w.grownBy w' none
end
section
open Go.RowKit Ed
def jJ (y:Fe) (odd:Bool):Fe×Bool:=
 if (fV (Fe.iw (Fe.cu y) Fe.dP) (Fe.fF (Fe.aM dF (Fe.cu y)) Fe.dP)).2=false then ((fV (Fe.iw (Fe.cu y) Fe.dP) (Fe.fF (Fe.aM dF (Fe.cu y)) Fe.dP)).1,false)
 else if odd=false then ((fV (Fe.iw (Fe.cu y) Fe.dP) (Fe.fF (Fe.aM dF (Fe.cu y)) Fe.dP)).1,true)
 else if Fe.m (fV (Fe.iw (Fe.cu y) Fe.dP) (Fe.fF (Fe.aM dF (Fe.cu y)) Fe.dP)).1=0 then (Fe.bI,false)
 else (Fe.kR (fV (Fe.iw (Fe.cu y) Fe.dP) (Fe.fF (Fe.aM dF (Fe.cu y)) Fe.dP)).1,true)
def acR (r:Fe) (b odd:Bool):Fe×Bool:=if b=false then (r,false) else if odd=false then (r,true) else if Fe.m r=0 then (Fe.bI,false) else (Fe.kR r,true)
theorem acy {r:Fe} (h:Fe.m r=0):acR r true true=(Fe.bI,false):=by simp[acR,h]
theorem acz {r:Fe} (h:¬Fe.m r=0):acR r true true=(Fe.kR r,true):=by simp[acR,h]
set_option maxRecDepth 100000 in
set_option maxHeartbeats 3200000 in
theorem KQ (y:Fe) (odd:Bool) (w0:World) (HT0:eY w0) (oky:y.Ok) (r:Fe) (b:Bool) (okr:r.Ok) (hr:fV (Fe.iw (Fe.cu y) Fe.dP) (Fe.fF (Fe.aM dF (Fe.cu y)) Fe.dP)=(r,b)):
  Calls Tryz.prog 101 #[y.v,.bool odd] w0 fun e w'=>e=.returned (.tuple #[(acR r b odd).1.v,.bool (acR r b odd).2])/\w0.grownBy w' none:=by
 show Calls Tryz.prog 101 #[.agg (aR y).toArray,.bool odd] w0 _
 go_enter Tryz.func101,Tryz.ntmps101
 go_upto_region 1 with (fail)
 have G:w0.grownBy ((w0.alloc (.cells (aR y).toArray 54)).alloc (.cells gX.toArray 54)) none:=av (av (ah _ _) _) _
 have HT:eY ((w0.alloc (.cells (aR y).toArray 54)).alloc (.cells gX.toArray 54)):=HT0.grown (av (av (ah _ _) _) _)
 have hY:aH ((w0.alloc (.cells (aR y).toArray 54)).alloc (.cells gX.toArray 54)) (w0.heap.size) 54 (aR y):=(aH.new w0 (aR y) _).alloc _
 have hR:aH ((w0.alloc (.cells (aR y).toArray 54)).alloc (.cells gX.toArray 54)) (w0.heap.size+1) 54 gX:=aH.newAt (w0.alloc _) gX _ (by simp)
 revert G HT hY hR
 generalize (w0.alloc (.cells (aR y).toArray 54)).alloc (.cells gX.toArray 54)=W0
 intro G HT hY hR
 have Gs:=G.size
 have lI:=G.size
 have al4:=hY.lt
 have lG:=hR.lt
 refine Fg.rP [6] [.any,.any,.any,.any,.any,.any,.fresh 54 gX W0.heap.size,.any,.any,.val (y.v),.val ((Fe.cu y).v)] 3 ?_ ?_
 .refine Fg.vS rfl (by decide) (fun _ _ h=>Fg.vn y.v (Fg.run_load rfl (h.r 2) ((hY.gn h.base).range 0 (aR y) rfl) Tryz.underlying54 rfl aD)) ?_
  refine Fg.cS rfl (by decide) (fun _ w h=>Fg.cq rfl (VX oky) ⟨h.d 9,trivial⟩ Tryz.func117) ?_
  refine⟨⟨⟨_,rfl⟩,Fg.gF (fun _ _ h k=>aj h k) rfl (by show 6<36;decide) fun ac w h=>?_⟩,?_⟩
  .refine⟨aB rfl,w.alloc (.cells gX.toArray 54),?_,World.grownBy_alloc _ _ _,by simp,⟨w.heap.size,rfl,h.base.size,aH.new w gX _⟩⟩
   clear h
   go_simp
  trivial
 .intro qa V1 g1 hsz hdf hrest aC hpt
  obtain⟨N6,hs6,OZ,hb6⟩:∃N,qa.tmps.getD 6 undef=.pointer (some ⟨N,0,none⟩)/\W0.heap.size<=N/\aH V1 N 54 gX:=aC 6 (by kernel_rfl)
  obtain⟨u9,jD⟩:=Fg.bL qa 9
  obtain⟨x1,hx1⟩:∃x:Fe,x=Fe.cu y:=⟨_,rfl⟩
  obtain rfl:=Fg.aQ [6,9,10] (vs:=[_,_,_,_,_,_,Value.pointer (some ⟨N6,0,none⟩),_,_,u9,x1.v,_,_,_,_,_,_,_,_,_,_,_,_,_,_,_,_,_,_,_,_,_,_,_,_,_]) hsz hrest (by kernel_rfl) rfl rfl ⟨hs6,jD,(show qa.tmps.getD 10 undef=x1.v by rw[hx1];exact aC 10 (by kernel_rfl)),trivial⟩ hdf
  clear hsz hdf hrest aC hpt hs6 jD
  have mZ:=Lib.hid hx1;clear hx1
  replace hY:=hY.gn g1
  replace hR:=hR.gn g1
  replace G:=aj G g1
  replace HT:=HT.grown g1
  have mH:x1.Ok:=by rw[mZ.out];exact (Fe.dS _).ok
  have DI:w0.heap.size<=N6:=Nat.le_trans lI OZ
  clear g1
  refine Fg.aV rfl rfl (Fg.run_store (cs:=aR x1) rfl rfl rfl (hb6.there 0 5 (by show 0+5<=5;decide)) aD (cB _)) ?_
  replace hY:=hY.au (C:=N6) (cs:=aR x1) 0 (by omega)
  replace hR:=hR.au (C:=N6) (cs:=aR x1) 0 (by omega)
  replace hb6:aH (V1.setCells N6 0 (aR x1)) N6 54 (aR x1):=hb6.bC rfl
  replace G:=aG (cs:=aR x1) G (B:=N6) (DI) 0
  replace HT:=HT.keep (aK (cs:=aR x1) (ah _ (some N6)) 0) (HT0.jW (DI))
  revert hY hR hb6 G HT
  generalize V1.setCells N6 0 (aR x1)=W2
  intro hY hR hb6 G HT
  go_upto_region 2 with (fail)
  have vO:=G.size
  have al5:=hY.lt
  have qU:=hR.lt
  have GQ:=hb6.lt
  have HOV:∀it∈([.any,.any,.any,.any,.any,.any,.any,.room 54 5 W2.heap.size,.val (Value.bool b),.any,.any,.val (Value.tuple #[r.v,.bool b]),.val (x1.v),.val (Fe.dP.v),.val ((Fe.iw x1 Fe.dP).v),.val (dF.v),.val (x1.v),.val ((Fe.aM dF x1).v),.val (Fe.dP.v),.val ((Fe.fF (Fe.aM dF x1) Fe.dP).v),.val (Value.tuple #[r.v,.bool b]),.val (r.v),.val (Value.bool b)]:List Fg.It),it.Over:=by
   intro it hit
   simp only[List.mem_cons,List.not_mem_nil,or_false]at hit
   rcases hit with rfl|rfl|rfl|rfl|rfl|rfl|rfl|rfl|rfl|rfl|rfl|rfl|rfl|rfl|rfl|rfl|rfl|rfl|rfl|rfl|rfl|rfl|rfl
   all_goals first|exact Fg.QK|exact Fg.QL _|exact Fg.NQ _ _ _
  refine y8 (Fg.its [.any,.any,.any,.any,.any,.any,.any,.room 54 5 W2.heap.size,.val (Value.bool b),.any,.any,.val (Value.tuple #[r.v,.bool b]),.val (x1.v),.val (Fe.dP.v),.val ((Fe.iw x1 Fe.dP).v),.val (dF.v),.val (x1.v),.val ((Fe.aM dF x1).v),.val (Fe.dP.v),.val ((Fe.fF (Fe.aM dF x1) Fe.dP).v),.val (Value.tuple #[r.v,.bool b]),.val (r.v),.val (Value.bool b)]) (fun _=>7) (Fg.vY 54 (aR r)) (fun w=>World.grownBy W2 w none) [7] (by kernel_rfl) (by kernel_rfl) (by kernel_rfl) (aX (ah _ _)) (Fg.nW (by kernel_rfl)) (by kernel_rfl) ?_ ?_
  .refine⟨Fg.uT rfl (by decide) fun ac w h=>?_,?_⟩
   .have e6:_=Value.pointer (some ⟨N6,0,none⟩):=h.r 6
    exact Fg.vn x1.v (Fg.run_load rfl e6 ((hb6.gn h.base).range 0 (aR x1) rfl) Tryz.underlying54 rfl aD)
   refine⟨Fg.Da rfl (by decide) fun ac w h=>?_,?_⟩
   .refine⟨aB rfl,102,#[],Fg.aN rfl rfl (by simp) (Fg.aI Tryz.func102 (by kernel_rfl) (by kernel_rfl)),?_⟩
    exact (DF).mono fun _ _ ⟨he,hg⟩=>⟨_,he,hg,rfl⟩
   refine⟨Fg.Da rfl (by decide) fun ac w h=>?_,?_⟩
   .have e12:_=x1.v:=h.d 12
    have e13:_=Fe.dP.v:=h.d 13
    refine⟨aB rfl,113,#[x1.v,Fe.dP.v],Fg.aN rfl rfl (by simp only[List.map_toArray,List.map_cons,List.map_nil,Act.eval,e12,e13]) (Fg.aI Tryz.func113 (by kernel_rfl) (by kernel_rfl)),?_⟩
    exact (AU (HT.f.grown h.base) mH Sl).mono fun _ _ ⟨he,hg⟩=>⟨_,he,hg,rfl⟩
   refine⟨Fg.uT rfl (by decide) fun ac w h=>?_,?_⟩
   .exact Fg.vn dF.v (Fg.run_load rfl rfl (HT.grown h.base).d Tryz.underlying54 rfl aD)
   refine⟨Fg.uT rfl (by decide) fun ac w h=>?_,?_⟩
   .have e6:_=Value.pointer (some ⟨N6,0,none⟩):=h.r 6
    exact Fg.vn x1.v (Fg.run_load rfl e6 ((hb6.gn h.base).range 0 (aR x1) rfl) Tryz.underlying54 rfl aD)
   refine⟨Fg.Da rfl (by decide) fun ac w h=>?_,?_⟩
   .have e15:_=dF.v:=h.d 15
    have e16:_=x1.v:=h.d 16
    refine⟨aB rfl,74,#[dF.v,x1.v],Fg.aN rfl rfl (by simp only[List.map_toArray,List.map_cons,List.map_nil,Act.eval,e15,e16]) (Fg.aI Tryz.func74 (by kernel_rfl) (by kernel_rfl)),?_⟩
    exact (jk wM.ok mH).mono fun _ _ ⟨he,hg⟩=>⟨_,he,hg,rfl⟩
   refine⟨Fg.Da rfl (by decide) fun ac w h=>?_,?_⟩
   .refine⟨aB rfl,102,#[],Fg.aN rfl rfl (by simp) (Fg.aI Tryz.func102 (by kernel_rfl) (by kernel_rfl)),?_⟩
    exact (DF).mono fun _ _ ⟨he,hg⟩=>⟨_,he,hg,rfl⟩
   refine⟨Fg.Da rfl (by decide) fun ac w h=>?_,?_⟩
   .have e17:_=(Fe.aM dF x1).v:=h.d 17
    have e18:_=Fe.dP.v:=h.d 18
    refine⟨aB rfl,127,#[(Fe.aM dF x1).v,Fe.dP.v],Fg.aN rfl rfl (by simp only[List.map_toArray,List.map_cons,List.map_nil,Act.eval,e17,e18]) (Fg.aI Tryz.func127 (by kernel_rfl) (by kernel_rfl)),?_⟩
    exact (uO (Fe.mul_right _ _).ok Sl).mono fun _ _ ⟨he,hg⟩=>⟨_,he,hg,rfl⟩
   refine⟨Fg.Da rfl (by decide) fun ac w h=>?_,?_⟩
   .have e14:_=(Fe.iw x1 Fe.dP).v:=h.d 14
    have e19:_=(Fe.fF (Fe.aM dF x1) Fe.dP).v:=h.d 19
    refine⟨aB rfl,126,#[(Fe.iw x1 Fe.dP).v,(Fe.fF (Fe.aM dF x1) Fe.dP).v],Fg.aN rfl rfl (by simp only[List.map_toArray,List.map_cons,List.map_nil,Act.eval,e14,e19]) (Fg.aI Tryz.func126 (by kernel_rfl) (by kernel_rfl)),?_⟩
    exact (Zx (HT.f.grown h.base) (Fe.fQ _ _).ok (Fe.dI _ _).ok (by rw[mZ.out];exact hr)).mono fun _ _ ⟨he,hg⟩=>⟨_,he,hg,rfl⟩
   refine⟨Fg.uT rfl (by decide) fun ac w h=>?_,?_⟩
   .have e20:_=Value.tuple #[r.v,.bool b]:=h.d 20
    exact Fg.vn (Value.tuple #[r.v,.bool b]) (Fg.run_move rfl e20)
   refine⟨Fg.uT rfl (by decide) fun ac w h=>?_,?_⟩
   .have e11:_=Value.tuple #[r.v,.bool b]:=h.d 11
    exact Fg.vn r.v (Fg.bW rfl e11 rfl)
   refine⟨Fg.uT rfl (by decide) fun ac w h=>?_,?_⟩
   .have e11:_=Value.tuple #[r.v,.bool b]:=h.d 11
    exact Fg.vn (Value.bool b) (Fg.bW rfl e11 rfl)
   refine⟨Fg.YR rfl (by show 7<36;decide) fun ac w h=>?_,?_⟩
   .refine⟨aB rfl,w.alloc (.cells gX.toArray 54),?_,World.grownBy_alloc _ _ _,by simp,⟨w.heap.size,rfl,h.base.size,_,rfl,aH.new w gX _⟩⟩
    clear h
    go_simp
   refine⟨Fg.YS rfl rfl HOV aD (cB r) fun ac w h=>?_,?_⟩
   .obtain⟨N,ep,hn,V,hl,hb⟩:∃N,ac.tmps.getD 7 undef=.pointer (some ⟨N,0,none⟩)/\W2.heap.size<=N/\∃V:List Value,V.length=5/\aH w N 54 V:=h.dep 7 (by kernel_rfl)
    have e21:_=r.v:=h.d 21
    exact⟨aB rfl,N,ep,ep,e21,hn,V,hl,hb⟩
   refine⟨Fg.uT rfl (by decide) fun ac w h=>?_,?_⟩
   .have e22:_=Value.bool b:=h.d 22
    exact Fg.vn (Value.bool b) (Fg.run_assign rfl e22)
   trivial
  .intro qa V3 g3 hsz hdf hrest aC jX
   obtain⟨N7,hs7,cZ⟩:∃N,qa.tmps.getD 7 undef=.pointer (some ⟨N,0,none⟩)/\aH V3 N 54 (aR r):=jX 13 _ rfl rfl
   have VY:W2.heap.size<=N7:=by
    obtain⟨N,e,hn,_⟩:∃N,qa.tmps.getD 7 undef=.pointer (some ⟨N,0,none⟩)/\W2.heap.size<=N/\∃V:List Value,V.length=5/\aH V3 N 54 V:=aC 7 (by kernel_rfl)
    rw[hs7]at e;cases e;exact hn
   obtain⟨⟨u11,d9⟩,⟨u12,fJ⟩,⟨u13,dL⟩,⟨u14,dw⟩,⟨u15,dM⟩,⟨u16,dG⟩,⟨u17,eD⟩,⟨u18,eF⟩,⟨u19,eG⟩,⟨u20,dU⟩,_⟩:=Fg.bn qa [11,12,13,14,15,16,17,18,19,20]
   obtain rfl:=Fg.gW (a:=qa) (vs:=[y.v,Value.bool odd,Value.pointer (some ⟨w0.heap.size,0,none⟩),undef,Value.pointer (some ⟨w0.heap.size+1,0,none⟩),Value.bool false,Value.pointer (some ⟨N6,0,none⟩),Value.pointer (some ⟨N7,0,none⟩),Value.bool b,u9,x1.v,u11,u12,u13,u14,u15,u16,u17,u18,u19,u20,r.v,Value.bool b,undef,undef,undef,undef,undef,undef,undef,undef,undef,undef,undef,undef,undef]) hsz ⟨hrest 0 (by kernel_rfl),hrest 1 (by kernel_rfl),hrest 2 (by kernel_rfl),hrest 3 (by kernel_rfl),hrest 4 (by kernel_rfl),hrest 5 (by kernel_rfl),hrest 6 (by kernel_rfl),hs7,(show qa.tmps.getD 8 undef=Value.bool b from aC 8 (by kernel_rfl)),hrest 9 (by kernel_rfl),hrest 10 (by kernel_rfl),d9,fJ,dL,dw,dM,dG,eD,eF,eG,dU,(show qa.tmps.getD 21 undef=r.v from aC 21 (by kernel_rfl)),(show qa.tmps.getD 22 undef=Value.bool b from aC 22 (by kernel_rfl)),hrest 23 (by kernel_rfl),hrest 24 (by kernel_rfl),hrest 25 (by kernel_rfl),hrest 26 (by kernel_rfl),hrest 27 (by kernel_rfl),hrest 28 (by kernel_rfl),hrest 29 (by kernel_rfl),hrest 30 (by kernel_rfl),hrest 31 (by kernel_rfl),hrest 32 (by kernel_rfl),hrest 33 (by kernel_rfl),hrest 34 (by kernel_rfl),hrest 35 (by kernel_rfl),trivial⟩ hdf
   clear hsz hdf hrest aC jX hs7 d9 fJ dL dw dM dG eD eF eG dU
   replace hY:=hY.gn g3
   replace hR:=hR.gn g3
   replace hb6:=hb6.gn g3
   replace G:=aj G g3
   replace HT:=HT.grown g3
   have hw7:w0.heap.size<=N7:=Nat.le_trans vO VY
   clear g3
   cases b with
   | false=>
    go_upto_region 3 with (fail)
    have UZ:=G.size
    have Zy:=hY.lt
    have uy:=hR.lt
    have yN:=hb6.lt
    have yO:=cZ.lt
    refine Fg.rP [] [.any,.any,.any,.any,.any,.any,.any,.any,.any,.any,.any,.any,.any,.any,.any,.any,.any,.any,.any,.any,.any,.any,.any,.val (Value.bool false),.val (Value.bool true),.val (Value.bool true),.val undef,.val undef,.val (Value.bool true)] 6 ?_ ?_
    .refine Fg.vS rfl (by decide) (fun _ _ h=>Fg.vn _ (Fg.run_move rfl (h.r 8))) ?_
     refine Fg.vS rfl (by decide) (fun ac w h=>?_) ?_
     .have e23:_=Value.bool false:=h.d 23
      refine⟨aB rfl,Value.bool true,w,?_,ah _ _,rfl⟩
      clear h
      simp only[execOp,Act.eval,e23]
      go_simp
     refine Fg.vS rfl (by decide) (fun _ _ h=>Fg.vn _ (Fg.run_move rfl (h.d 24))) ?_
     refine⟨⟨⟨_,rfl⟩,Fg.dX rfl (by decide) (fun _=>rfl) fun ac w h=>?_⟩,?_⟩
     .have e25:_=Value.bool true:=h.d 25
      exact dz (d:=25) rfl rfl (by rw[h.size];show 25<36;decide) e25 (by decide)
     refine⟨⟨⟨_,rfl⟩,Fg.dX rfl (by decide) (fun _=>rfl) fun ac w h=>?_⟩,?_⟩
     .have e25:_=Value.bool true:=h.d 25
      exact dz (d:=25) rfl rfl (by rw[h.size];show 25<36;decide) e25 (by decide)
     refine Fg.vS rfl (by decide) (fun ac w h=>?_) ?_
     .have e25:_=Value.bool true:=h.d 25
      refine⟨aB rfl,Value.bool true,w,?_,ah _ _,rfl⟩
      clear h
      simp only[execOp,Act.eval,e25]
      go_simp
     trivial
    .intro qa V4 g4 hsz hdf hrest aC hpt
     obtain⟨⟨u23,dV⟩,⟨u24,dO⟩,⟨u25,eH⟩,⟨u26,eO⟩,⟨u27,fK⟩,_⟩:=Fg.bn qa [23,24,25,26,27]
     obtain rfl:=Fg.aQ [23,24,25,26,27,28] (vs:=[_,_,_,_,_,_,_,_,_,_,_,_,_,_,_,_,_,_,_,_,_,_,_,u23,u24,u25,u26,u27,Value.bool true,_,_,_,_,_,_,_]) hsz hrest (by kernel_rfl) rfl rfl ⟨dV,dO,eH,eO,fK,(show qa.tmps.getD 28 undef=Value.bool true from aC 28 (by kernel_rfl)),trivial⟩ hdf
     clear hsz hdf hrest aC hpt dV dO eH eO fK
     replace hY:=hY.gn g4
     replace hR:=hR.gn g4
     replace hb6:=hb6.gn g4
     replace cZ:=cZ.gn g4
     replace G:=aj G g4
     replace HT:=HT.grown g4
     clear g4
     go_upto_region 4 with (fail)
     have O1:=G.size
     have Zz:=hY.lt
     have KR:=hR.lt
     have AY:=hb6.lt
     have DJ:=cZ.lt
     refine Fg.rP [] [.any,.any,.any,.any,.any,.any,.any,.any,.any,.any,.any,.any,.any,.any,.any,.any,.any,.any,.any,.any,.any,.any,.any,.any,.any,.any,.any,.any,.any,.val (r.v),.val (Value.bool false)] 2 ?_ ?_
     .refine Fg.vS rfl (by decide) (fun _ _ h=>Fg.vn r.v (Fg.run_load rfl (h.r 7) ((cZ.gn h.base).range 0 (aR r) rfl) Tryz.underlying54 rfl aD)) ?_
      refine Fg.vS rfl (by decide) (fun _ _ h=>Fg.vn _ (Fg.run_move rfl (h.r 8))) ?_
      trivial
     .intro qa V5 g5 hsz hdf hrest aC hpt
      obtain rfl:=Fg.aQ [29,30] (vs:=[_,_,_,_,_,_,_,_,_,_,_,_,_,_,_,_,_,_,_,_,_,_,_,_,_,_,_,_,_,r.v,Value.bool false,_,_,_,_,_]) hsz hrest (by kernel_rfl) rfl rfl ⟨(show qa.tmps.getD 29 undef=r.v from aC 29 (by kernel_rfl)),(show qa.tmps.getD 30 undef=Value.bool false from aC 30 (by kernel_rfl)),trivial⟩ hdf
      clear hsz hdf hrest aC hpt
      replace hY:=hY.gn g5
      replace hR:=hR.gn g5
      replace hb6:=hb6.gn g5
      replace cZ:=cZ.gn g5
      replace G:=aj G g5
      replace HT:=HT.grown g5
      clear g5
      refine Fg.aV rfl rfl (Fg.run_store (cs:=aR r) rfl rfl rfl (hR.there 0 5 (by show 0+5<=5;decide)) aD (cB _)) ?_
      replace hY:=hY.au (C:=(w0.heap.size+1)) (cs:=aR r) 0 (by omega)
      replace hR:aH (V5.setCells (w0.heap.size+1) 0 (aR r)) (w0.heap.size+1) 54 (aR r):=hR.bC rfl
      replace hb6:=hb6.au (C:=(w0.heap.size+1)) (cs:=aR r) 0 (by omega)
      replace cZ:=cZ.au (C:=(w0.heap.size+1)) (cs:=aR r) 0 (by omega)
      replace G:=aG (cs:=aR r) G (B:=(w0.heap.size+1)) (by omega) 0
      replace HT:=HT.keep (aK (cs:=aR r) (ah _ (some (w0.heap.size+1))) 0) (HT0.jW (by omega))
      revert hY hR hb6 cZ G HT
      generalize V5.setCells (w0.heap.size+1) 0 (aR r)=W6
      intro hY hR hb6 cZ G HT
      go_wp2_with fail
      exact bodyPost_ret (v:=.tuple #[r.v,.bool false]) (dn Tryz.results101 _ _ (w0.heap.size+1) 54 (aR r).toArray (0,0) _ rfl hR Tryz.underlying54 rfl aD rfl) rfl ⟨rfl,G⟩
   | true=>
    cases odd with
    | false=>
     go_upto_region 3 with (fail)
     have UZ:=G.size
     have Zy:=hY.lt
     have uy:=hR.lt
     have yN:=hb6.lt
     have yO:=cZ.lt
     refine Fg.rP [] [.any,.any,.any,.any,.any,.any,.any,.any,.any,.any,.any,.any,.any,.any,.any,.any,.any,.any,.any,.any,.any,.any,.any,.val (Value.bool true),.val (Value.bool false),.val (Value.bool false),.val (Value.bool false),.val (Value.bool true),.val (Value.bool true)] 6 ?_ ?_
     .refine Fg.vS rfl (by decide) (fun _ _ h=>Fg.vn _ (Fg.run_move rfl (h.r 8))) ?_
      refine Fg.vS rfl (by decide) (fun ac w h=>?_) ?_
      .have e23:_=Value.bool true:=h.d 23
       refine⟨aB rfl,Value.bool false,w,?_,ah _ _,rfl⟩
       clear h
       simp only[execOp,Act.eval,e23]
       go_simp
      refine Fg.vS rfl (by decide) (fun _ _ h=>Fg.vn _ (Fg.run_move rfl (h.d 24))) ?_
      refine Fg.vS rfl (by decide) (fun ac w h=>?_) ?_
      .have e25:_=Value.bool false:=h.d 25
       have e1:_=Value.bool false:=h.r 1
       exact Fg.vx (Value.bool false) (aS (d:=25) rfl rfl (by rw[h.size];show 25<36;decide) e25) (Fg.run_move rfl e1)
      refine Fg.vS rfl (by decide) (fun ac w h=>?_) ?_
      .have e25:_=Value.bool false:=h.d 25
       have e26:_=Value.bool false:=h.d 26
       refine⟨aS (d:=25) rfl rfl (by rw[h.size];show 25<36;decide) e25,Value.bool true,w,?_,ah _ _,rfl⟩
       clear h
       simp only[execOp,Act.eval,e26]
       go_simp
      refine Fg.vS rfl (by decide) (fun ac w h=>?_) ?_
      .have e25:_=Value.bool false:=h.d 25
       have e27:_=Value.bool true:=h.d 27
       refine⟨aB rfl,Value.bool true,w,?_,ah _ _,rfl⟩
       clear h
       simp only[execOp,Act.eval,e25,e27]
       go_simp
      trivial
     .intro qa V4 g4 hsz hdf hrest aC hpt
      obtain⟨⟨u23,dV⟩,⟨u24,dO⟩,⟨u25,eH⟩,⟨u26,eO⟩,⟨u27,fK⟩,_⟩:=Fg.bn qa [23,24,25,26,27]
      obtain rfl:=Fg.aQ [23,24,25,26,27,28] (vs:=[_,_,_,_,_,_,_,_,_,_,_,_,_,_,_,_,_,_,_,_,_,_,_,u23,u24,u25,u26,u27,Value.bool true,_,_,_,_,_,_,_]) hsz hrest (by kernel_rfl) rfl rfl ⟨dV,dO,eH,eO,fK,(show qa.tmps.getD 28 undef=Value.bool true from aC 28 (by kernel_rfl)),trivial⟩ hdf
      clear hsz hdf hrest aC hpt dV dO eH eO fK
      replace hY:=hY.gn g4
      replace hR:=hR.gn g4
      replace hb6:=hb6.gn g4
      replace cZ:=cZ.gn g4
      replace G:=aj G g4
      replace HT:=HT.grown g4
      clear g4
      go_upto_region 4 with (fail)
      have O1:=G.size
      have Zz:=hY.lt
      have KR:=hR.lt
      have AY:=hb6.lt
      have DJ:=cZ.lt
      refine Fg.rP [] [.any,.any,.any,.any,.any,.any,.any,.any,.any,.any,.any,.any,.any,.any,.any,.any,.any,.any,.any,.any,.any,.any,.any,.any,.any,.any,.any,.any,.any,.val (r.v),.val (Value.bool true)] 2 ?_ ?_
      .refine Fg.vS rfl (by decide) (fun _ _ h=>Fg.vn r.v (Fg.run_load rfl (h.r 7) ((cZ.gn h.base).range 0 (aR r) rfl) Tryz.underlying54 rfl aD)) ?_
       refine Fg.vS rfl (by decide) (fun _ _ h=>Fg.vn _ (Fg.run_move rfl (h.r 8))) ?_
       trivial
      .intro qa V5 g5 hsz hdf hrest aC hpt
       obtain rfl:=Fg.aQ [29,30] (vs:=[_,_,_,_,_,_,_,_,_,_,_,_,_,_,_,_,_,_,_,_,_,_,_,_,_,_,_,_,_,r.v,Value.bool true,_,_,_,_,_]) hsz hrest (by kernel_rfl) rfl rfl ⟨(show qa.tmps.getD 29 undef=r.v from aC 29 (by kernel_rfl)),(show qa.tmps.getD 30 undef=Value.bool true from aC 30 (by kernel_rfl)),trivial⟩ hdf
       clear hsz hdf hrest aC hpt
       replace hY:=hY.gn g5
       replace hR:=hR.gn g5
       replace hb6:=hb6.gn g5
       replace cZ:=cZ.gn g5
       replace G:=aj G g5
       replace HT:=HT.grown g5
       clear g5
       refine Fg.aV rfl rfl (Fg.run_store (cs:=aR r) rfl rfl rfl (hR.there 0 5 (by show 0+5<=5;decide)) aD (cB _)) ?_
       replace hY:=hY.au (C:=(w0.heap.size+1)) (cs:=aR r) 0 (by omega)
       replace hR:aH (V5.setCells (w0.heap.size+1) 0 (aR r)) (w0.heap.size+1) 54 (aR r):=hR.bC rfl
       replace hb6:=hb6.au (C:=(w0.heap.size+1)) (cs:=aR r) 0 (by omega)
       replace cZ:=cZ.au (C:=(w0.heap.size+1)) (cs:=aR r) 0 (by omega)
       replace G:=aG (cs:=aR r) G (B:=(w0.heap.size+1)) (by omega) 0
       replace HT:=HT.keep (aK (cs:=aR r) (ah _ (some (w0.heap.size+1))) 0) (HT0.jW (by omega))
       revert hY hR hb6 cZ G HT
       generalize V5.setCells (w0.heap.size+1) 0 (aR r)=W6
       intro hY hR hb6 cZ G HT
       go_wp2_with fail
       exact bodyPost_ret (v:=.tuple #[r.v,.bool true]) (dn Tryz.results101 _ _ (w0.heap.size+1) 54 (aR r).toArray (0,0) _ rfl hR Tryz.underlying54 rfl aD rfl) rfl ⟨rfl,G⟩
    | true=>
     cases hz:decide (Fe.m r=0) with
     | true=>
      go_upto_region 3 with (fail)
      have UZ:=G.size
      have Zy:=hY.lt
      have uy:=hR.lt
      have yN:=hb6.lt
      have yO:=cZ.lt
      refine Fg.rP [] [.any,.any,.any,.any,.any,.any,.any,.any,.any,.any,.any,.any,.any,.any,.any,.any,.any,.any,.any,.any,.any,.any,.any,.val (Value.bool true),.val (Value.bool false),.val (Value.bool false),.val (Value.bool true),.val (Value.bool false),.val (Value.bool false)] 6 ?_ ?_
      .refine Fg.vS rfl (by decide) (fun _ _ h=>Fg.vn _ (Fg.run_move rfl (h.r 8))) ?_
       refine Fg.vS rfl (by decide) (fun ac w h=>?_) ?_
       .have e23:_=Value.bool true:=h.d 23
        refine⟨aB rfl,Value.bool false,w,?_,ah _ _,rfl⟩
        clear h
        simp only[execOp,Act.eval,e23]
        go_simp
       refine Fg.vS rfl (by decide) (fun _ _ h=>Fg.vn _ (Fg.run_move rfl (h.d 24))) ?_
       refine Fg.vS rfl (by decide) (fun ac w h=>?_) ?_
       .have e25:_=Value.bool false:=h.d 25
        have e1:_=Value.bool true:=h.r 1
        exact Fg.vx (Value.bool true) (aS (d:=25) rfl rfl (by rw[h.size];show 25<36;decide) e25) (Fg.run_move rfl e1)
       refine Fg.vS rfl (by decide) (fun ac w h=>?_) ?_
       .have e25:_=Value.bool false:=h.d 25
        have e26:_=Value.bool true:=h.d 26
        refine⟨aS (d:=25) rfl rfl (by rw[h.size];show 25<36;decide) e25,Value.bool false,w,?_,ah _ _,rfl⟩
        clear h
        simp only[execOp,Act.eval,e26]
        go_simp
       refine Fg.vS rfl (by decide) (fun ac w h=>?_) ?_
       .have e25:_=Value.bool false:=h.d 25
        have e27:_=Value.bool false:=h.d 27
        refine⟨aB rfl,Value.bool false,w,?_,ah _ _,rfl⟩
        clear h
        simp only[execOp,Act.eval,e25,e27]
        go_simp
       trivial
      .intro qa V4 g4 hsz hdf hrest aC hpt
       obtain⟨⟨u23,dV⟩,⟨u24,dO⟩,⟨u25,eH⟩,⟨u26,eO⟩,⟨u27,fK⟩,_⟩:=Fg.bn qa [23,24,25,26,27]
       obtain rfl:=Fg.aQ [23,24,25,26,27,28] (vs:=[_,_,_,_,_,_,_,_,_,_,_,_,_,_,_,_,_,_,_,_,_,_,_,u23,u24,u25,u26,u27,Value.bool false,_,_,_,_,_,_,_]) hsz hrest (by kernel_rfl) rfl rfl ⟨dV,dO,eH,eO,fK,(show qa.tmps.getD 28 undef=Value.bool false from aC 28 (by kernel_rfl)),trivial⟩ hdf
       clear hsz hdf hrest aC hpt dV dO eH eO fK
       replace hY:=hY.gn g4
       replace hR:=hR.gn g4
       replace hb6:=hb6.gn g4
       replace cZ:=cZ.gn g4
       replace G:=aj G g4
       replace HT:=HT.grown g4
       clear g4
       go_upto_region 5 with (fail)
       have O1:=G.size
       have Zz:=hY.lt
       have KR:=hR.lt
       have AY:=hb6.lt
       have DJ:=cZ.lt
       refine Fg.rP [] [.any,.any,.any,.any,.any,.any,.any,.any,.any,.any,.any,.any,.any,.any,.any,.any,.any,.any,.any,.any,.any,.any,.any,.any,.any,.any,.any,.any,.any,.any,.any,.val (r.v),.val (Value.bool true)] 2 ?_ ?_
       .refine Fg.vS rfl (by decide) (fun _ _ h=>Fg.vn r.v (Fg.run_load rfl (h.r 7) ((cZ.gn h.base).range 0 (aR r) rfl) Tryz.underlying54 rfl aD)) ?_
        refine Fg.cS rfl (by decide) (fun _ w h=>Fg.cq rfl (Sq okr hz) ⟨h.d 31,trivial⟩ Tryz.func128) ?_
        trivial
       .intro qa V5 g5 hsz hdf hrest aC hpt
        obtain⟨u31,gL⟩:=Fg.bL qa 31
        obtain rfl:=Fg.aQ [31,32] (vs:=[_,_,_,_,_,_,_,_,_,_,_,_,_,_,_,_,_,_,_,_,_,_,_,_,_,_,_,_,_,_,_,u31,Value.bool true,_,_,_]) hsz hrest (by kernel_rfl) rfl rfl ⟨gL,(show qa.tmps.getD 32 undef=Value.bool true from aC 32 (by kernel_rfl)),trivial⟩ hdf
        clear hsz hdf hrest aC hpt gL
        replace hY:=hY.gn g5
        replace hR:=hR.gn g5
        replace hb6:=hb6.gn g5
        replace cZ:=cZ.gn g5
        replace G:=aj G g5
        replace HT:=HT.grown g5
        clear g5
        go_upto_region 6 with (fail)
        have Gs5:=G.size
        have agR:=hY.lt
        have ZA:=hR.lt
        have MQ:=hb6.lt
        have MR:=cZ.lt
        refine Fg.rP [] [.any,.any,.any,.any,.any,.any,.any,.any,.any,.any,.any,.any,.any,.any,.any,.any,.any,.any,.any,.any,.any,.any,.any,.any,.any,.any,.any,.any,.any,.any,.any,.any,.any,.val (Fe.bI.v)] 1 ?_ ?_
        .refine Fg.vS rfl (by decide) (fun ac w h=>?_) ?_
         .exact Fg.vn Fe.bI.v (Fg.run_build (vs:=#[]) rfl (by simp) (by kernel_rfl))
         trivial
        .intro qa V6 g6 hsz hdf hrest aC hpt
         obtain rfl:=Fg.aQ [33] (vs:=[_,_,_,_,_,_,_,_,_,_,_,_,_,_,_,_,_,_,_,_,_,_,_,_,_,_,_,_,_,_,_,_,_,Fe.bI.v,_,_]) hsz hrest (by kernel_rfl) rfl rfl ⟨(show qa.tmps.getD 33 undef=Fe.bI.v from aC 33 (by kernel_rfl)),trivial⟩ hdf
         clear hsz hdf hrest aC hpt
         replace hY:=hY.gn g6
         replace hR:=hR.gn g6
         replace hb6:=hb6.gn g6
         replace cZ:=cZ.gn g6
         replace G:=aj G g6
         replace HT:=HT.grown g6
         clear g6
         refine Fg.aV rfl rfl (Fg.run_store (cs:=aR Fe.bI) rfl rfl rfl (hR.there 0 5 (by show 0+5<=5;decide)) aD (cB _)) ?_
         replace hY:=hY.au (C:=(w0.heap.size+1)) (cs:=aR Fe.bI) 0 (by omega)
         replace hR:aH (V6.setCells (w0.heap.size+1) 0 (aR Fe.bI)) (w0.heap.size+1) 54 (aR Fe.bI):=hR.bC rfl
         replace hb6:=hb6.au (C:=(w0.heap.size+1)) (cs:=aR Fe.bI) 0 (by omega)
         replace cZ:=cZ.au (C:=(w0.heap.size+1)) (cs:=aR Fe.bI) 0 (by omega)
         replace G:=aG (cs:=aR Fe.bI) G (B:=(w0.heap.size+1)) (by omega) 0
         replace HT:=HT.keep (aK (cs:=aR Fe.bI) (ah _ (some (w0.heap.size+1))) 0) (HT0.jW (by omega))
         revert hY hR hb6 cZ G HT
         generalize V6.setCells (w0.heap.size+1) 0 (aR Fe.bI)=W7
         intro hY hR hb6 cZ G HT
         go_wp2_with fail
         rw[acy (of_decide_eq_true hz)]
         exact bodyPost_ret (v:=.tuple #[Fe.bI.v,.bool false]) (dn Tryz.results101 _ _ (w0.heap.size+1) 54 (aR Fe.bI).toArray (0,0) _ rfl hR Tryz.underlying54 rfl aD rfl) rfl ⟨rfl,G⟩
     | false=>
      go_upto_region 3 with (fail)
      have UZ:=G.size
      have Zy:=hY.lt
      have uy:=hR.lt
      have yN:=hb6.lt
      have yO:=cZ.lt
      refine Fg.rP [] [.any,.any,.any,.any,.any,.any,.any,.any,.any,.any,.any,.any,.any,.any,.any,.any,.any,.any,.any,.any,.any,.any,.any,.val (Value.bool true),.val (Value.bool false),.val (Value.bool false),.val (Value.bool true),.val (Value.bool false),.val (Value.bool false)] 6 ?_ ?_
      .refine Fg.vS rfl (by decide) (fun _ _ h=>Fg.vn _ (Fg.run_move rfl (h.r 8))) ?_
       refine Fg.vS rfl (by decide) (fun ac w h=>?_) ?_
       .have e23:_=Value.bool true:=h.d 23
        refine⟨aB rfl,Value.bool false,w,?_,ah _ _,rfl⟩
        clear h
        simp only[execOp,Act.eval,e23]
        go_simp
       refine Fg.vS rfl (by decide) (fun _ _ h=>Fg.vn _ (Fg.run_move rfl (h.d 24))) ?_
       refine Fg.vS rfl (by decide) (fun ac w h=>?_) ?_
       .have e25:_=Value.bool false:=h.d 25
        have e1:_=Value.bool true:=h.r 1
        exact Fg.vx (Value.bool true) (aS (d:=25) rfl rfl (by rw[h.size];show 25<36;decide) e25) (Fg.run_move rfl e1)
       refine Fg.vS rfl (by decide) (fun ac w h=>?_) ?_
       .have e25:_=Value.bool false:=h.d 25
        have e26:_=Value.bool true:=h.d 26
        refine⟨aS (d:=25) rfl rfl (by rw[h.size];show 25<36;decide) e25,Value.bool false,w,?_,ah _ _,rfl⟩
        clear h
        simp only[execOp,Act.eval,e26]
        go_simp
       refine Fg.vS rfl (by decide) (fun ac w h=>?_) ?_
       .have e25:_=Value.bool false:=h.d 25
        have e27:_=Value.bool false:=h.d 27
        refine⟨aB rfl,Value.bool false,w,?_,ah _ _,rfl⟩
        clear h
        simp only[execOp,Act.eval,e25,e27]
        go_simp
       trivial
      .intro qa V4 g4 hsz hdf hrest aC hpt
       obtain⟨⟨u23,dV⟩,⟨u24,dO⟩,⟨u25,eH⟩,⟨u26,eO⟩,⟨u27,fK⟩,_⟩:=Fg.bn qa [23,24,25,26,27]
       obtain rfl:=Fg.aQ [23,24,25,26,27,28] (vs:=[_,_,_,_,_,_,_,_,_,_,_,_,_,_,_,_,_,_,_,_,_,_,_,u23,u24,u25,u26,u27,Value.bool false,_,_,_,_,_,_,_]) hsz hrest (by kernel_rfl) rfl rfl ⟨dV,dO,eH,eO,fK,(show qa.tmps.getD 28 undef=Value.bool false from aC 28 (by kernel_rfl)),trivial⟩ hdf
       clear hsz hdf hrest aC hpt dV dO eH eO fK
       replace hY:=hY.gn g4
       replace hR:=hR.gn g4
       replace hb6:=hb6.gn g4
       replace cZ:=cZ.gn g4
       replace G:=aj G g4
       replace HT:=HT.grown g4
       clear g4
       go_upto_region 5 with (fail)
       have O1:=G.size
       have Zz:=hY.lt
       have KR:=hR.lt
       have AY:=hb6.lt
       have DJ:=cZ.lt
       refine Fg.rP [] [.any,.any,.any,.any,.any,.any,.any,.any,.any,.any,.any,.any,.any,.any,.any,.any,.any,.any,.any,.any,.any,.any,.any,.any,.any,.any,.any,.any,.any,.any,.any,.val (r.v),.val (Value.bool false)] 2 ?_ ?_
       .refine Fg.vS rfl (by decide) (fun _ _ h=>Fg.vn r.v (Fg.run_load rfl (h.r 7) ((cZ.gn h.base).range 0 (aR r) rfl) Tryz.underlying54 rfl aD)) ?_
        refine Fg.cS rfl (by decide) (fun _ w h=>Fg.cq rfl (Sq okr hz) ⟨h.d 31,trivial⟩ Tryz.func128) ?_
        trivial
       .intro qa V5 g5 hsz hdf hrest aC hpt
        obtain⟨u31,gL⟩:=Fg.bL qa 31
        obtain rfl:=Fg.aQ [31,32] (vs:=[_,_,_,_,_,_,_,_,_,_,_,_,_,_,_,_,_,_,_,_,_,_,_,_,_,_,_,_,_,_,_,u31,Value.bool false,_,_,_]) hsz hrest (by kernel_rfl) rfl rfl ⟨gL,(show qa.tmps.getD 32 undef=Value.bool false from aC 32 (by kernel_rfl)),trivial⟩ hdf
        clear hsz hdf hrest aC hpt gL
        replace hY:=hY.gn g5
        replace hR:=hR.gn g5
        replace hb6:=hb6.gn g5
        replace cZ:=cZ.gn g5
        replace G:=aj G g5
        replace HT:=HT.grown g5
        clear g5
        go_upto_region 7 with (fail)
        have Gs5:=G.size
        have agR:=hY.lt
        have ZA:=hR.lt
        have MQ:=hb6.lt
        have MR:=cZ.lt
        refine Fg.rP [] [.any,.any,.any,.any,.any,.any,.any,.any,.any,.any,.any,.any,.any,.any,.any,.any,.any,.any,.any,.any,.any,.any,.any,.any,.any,.any,.any,.any,.any,.any,.any,.any,.any,.any,.val (r.v),.val ((Fe.kR r).v)] 2 ?_ ?_
        .refine Fg.vS rfl (by decide) (fun _ _ h=>Fg.vn r.v (Fg.run_load rfl (h.r 7) ((cZ.gn h.base).range 0 (aR r) rfl) Tryz.underlying54 rfl aD)) ?_
         refine Fg.cS rfl (by decide) (fun _ w h=>Fg.cq rfl (Sn (HT.f.grown h.base) okr) ⟨h.d 34,trivial⟩ Tryz.func79) ?_
         trivial
        .intro qa V6 g6 hsz hdf hrest aC hpt
         obtain⟨u34,iZ⟩:=Fg.bL qa 34
         obtain⟨x6,hx6⟩:∃x:Fe,x=Fe.kR r:=⟨_,rfl⟩
         obtain rfl:=Fg.aQ [34,35] (vs:=[_,_,_,_,_,_,_,_,_,_,_,_,_,_,_,_,_,_,_,_,_,_,_,_,_,_,_,_,_,_,_,_,_,_,u34,x6.v]) hsz hrest (by kernel_rfl) rfl rfl ⟨iZ,(show qa.tmps.getD 35 undef=x6.v by rw[hx6];exact aC 35 (by kernel_rfl)),trivial⟩ hdf
         clear hsz hdf hrest aC hpt iZ
         have VZ:=Lib.hid hx6;clear hx6
         replace hY:=hY.gn g6
         replace hR:=hR.gn g6
         replace hb6:=hb6.gn g6
         replace cZ:=cZ.gn g6
         replace G:=aj G g6
         replace HT:=HT.grown g6
         have V8:x6.Ok:=by rw[VZ.out];exact (Fe.kM _).ok
         clear g6
         refine Fg.aV rfl rfl (Fg.run_store (cs:=aR x6) rfl rfl rfl (hR.there 0 5 (by show 0+5<=5;decide)) aD (cB _)) ?_
         replace hY:=hY.au (C:=(w0.heap.size+1)) (cs:=aR x6) 0 (by omega)
         replace hR:aH (V6.setCells (w0.heap.size+1) 0 (aR x6)) (w0.heap.size+1) 54 (aR x6):=hR.bC rfl
         replace hb6:=hb6.au (C:=(w0.heap.size+1)) (cs:=aR x6) 0 (by omega)
         replace cZ:=cZ.au (C:=(w0.heap.size+1)) (cs:=aR x6) 0 (by omega)
         replace G:=aG (cs:=aR x6) G (B:=(w0.heap.size+1)) (by omega) 0
         replace HT:=HT.keep (aK (cs:=aR x6) (ah _ (some (w0.heap.size+1))) 0) (HT0.jW (by omega))
         revert hY hR hb6 cZ G HT
         generalize V6.setCells (w0.heap.size+1) 0 (aR x6)=W7
         intro hY hR hb6 cZ G HT
         go_wp2_with fail
         have hx6:=VZ.out;subst hx6
         rw[acz (of_decide_eq_false hz)]
         exact bodyPost_ret (v:=.tuple #[(Fe.kR r).v,.bool true]) (dn Tryz.results101 _ _ (w0.heap.size+1) 54 (aR (Fe.kR r)).toArray (0,0) _ rfl hR Tryz.underlying54 rfl aD rfl) rfl ⟨rfl,G⟩
theorem EC (u v:Fe):(fV u v).1.Ok:=by
 unfold fV
 have ev:∀r:Fe,r.Right->(uN r).Ok:=fun r hr=>(KG hr).1.ok
 split
 .exact ev _ (Fe.mul_right _ _)
 .split
  .exact ev _ (Fe.mul_right _ _)
  .exact MO
theorem GR (y:Fe) (odd:Bool) (w0:World) (HT0:eY w0) (oky:y.Ok):lH 101 #[y.v,.bool odd] w0 (.tuple #[(jJ y odd).1.v,.bool (jJ y odd).2]):=by
 unfold jJ
 have okr:=EC (Fe.iw (Fe.cu y) Fe.dP) (Fe.fF (Fe.aM dF (Fe.cu y)) Fe.dP)
 cases h:fV (Fe.iw (Fe.cu y) Fe.dP) (Fe.fF (Fe.aM dF (Fe.cu y)) Fe.dP) with
 | mk r b=>
  rw[h]at okr
  exact KQ y odd w0 HT0 oky r b okr h
end
section
open Go.RowKit
def fE (x:Int):Fe:=⟨x%2251799813685248,x/2251799813685248%2251799813685248,x/5070602400912917605986812821504%2251799813685248,x/11417981541647679048466287755595961091061972992%2251799813685248,x/25711008708143844408671393477458601640355247900524685364822016⟩
theorem MS (x:Int):Fe.V (fE x)=x:=by
 unfold fE
 simp only[Fe.V]
 have e2:x/5070602400912917605986812821504=x/2251799813685248/2251799813685248:=by rw[Int.ediv_ediv_of_nonneg (by decide)];rfl
 have e3:x/11417981541647679048466287755595961091061972992=x/2251799813685248/2251799813685248/2251799813685248:=by rw[Int.ediv_ediv_of_nonneg (by decide),Int.ediv_ediv_of_nonneg (by decide)];rfl
 have e4:x/25711008708143844408671393477458601640355247900524685364822016=x/2251799813685248/2251799813685248/2251799813685248/2251799813685248:=by rw[Int.ediv_ediv_of_nonneg (by decide),Int.ediv_ediv_of_nonneg (by decide),Int.ediv_ediv_of_nonneg (by decide)];rfl
 rw[e2,e3,e4]
 omega
theorem mI {x:Int} (h0:0<=x) (h1:x<2^256):(fE x).Right:=by
 have e:(2:Int)^256=115792089237316195423570985008687907853269984665640564039457584007913129639936:=by decide
 rw[e]at h1
 unfold fE
 constructor<;>dsimp only<;>omega
theorem ED {x:Int}:(Fe.m (fE x):Int)=x%57896044618658097711785492504343953926634992332820282019728792003956564819949:=by
 rw[Fe.mW,MS];rfl
theorem kT (F:Nat->Int) (s:Nat):∀k,aU F (s+k)=aU F s+aU (fun i=>F (s+i)) k*2^(8*s):=by
 intro k
 induction k with
 | zero=>simp[aU]
 | succ k ih=>
  rw[show s+(k+1)=s+k+1 by omega,aU,ih,aU,Int.add_mul,show 8*(s+k)=8*k+8*s by omega,Int.pow_add]
  rw[Int.mul_assoc (F (s+k)),<- Int.add_assoc]
theorem acA (F:Nat->Int):aU F 32=aU F 8+18446744073709551616*aU (fun i=>F (8+i)) 8+340282366920938463463374607431768211456*aU (fun i=>F (16+i)) 8+6277101735386680763835789423207666416102355444464034512896*aU (fun i=>F (24+i)) 8:=by
 have h1:=kT F 24 8
 have h2:=kT F 16 8
 have h3:=kT F 8 8
 have p1:(2:Int)^(8*24)=6277101735386680763835789423207666416102355444464034512896:=by decide
 have p2:(2:Int)^(8*16)=340282366920938463463374607431768211456:=by decide
 have p3:(2:Int)^(8*8)=18446744073709551616:=by decide
 rw[p1]at h1
 rw[p2]at h2
 rw[p3]at h3
 have e1:aU F (24+8)=aU F 32:=rfl
 have e2:aU F (16+8)=aU F 24:=rfl
 have e3:aU F (8+8)=aU F 16:=rfl
 omega
theorem Sr (w0 w1 w2 w3:Int) (a0:0<=w0) (a1:0<=w1) (a2:0<=w2) (b0:w0<18446744073709551616) (b1:w1<18446744073709551616) (b2:w2<18446744073709551616):
  (⟨bits .and .u64 w0 2251799813685247,bits .and .u64 (bits .or .u64 (w0/2251799813685248) (IntKind.u64.wrap (w1*8192))) 2251799813685247,bits .and .u64 (bits .or .u64 (w1/274877906944) (IntKind.u64.wrap (w2*67108864))) 2251799813685247,
   bits .and .u64 (bits .or .u64 (w2/33554432) (IntKind.u64.wrap (w3*549755813888))) 2251799813685247,w3/4096⟩:Fe)=fE (w0+18446744073709551616*w1+340282366920938463463374607431768211456*w2+6277101735386680763835789423207666416102355444464034512896*w3):=by
 rw[uY (w0/2251799813685248) w1 13 8192 2251799813685248 (by decide) (by decide) (by omega) (by omega) (by decide),
  uY (w1/274877906944) w2 26 67108864 274877906944 (by decide) (by decide) (by omega) (by omega) (by decide),
  uY (w2/33554432) w3 39 549755813888 33554432 (by decide) (by decide) (by omega) (by omega) (by decide),
  mX w0 a0 b0,mX _ (by omega) (by omega),mX _ (by omega) (by omega),mX _ (by omega) (by omega)]
 have hV:=MS (w0+18446744073709551616*w1+340282366920938463463374607431768211456*w2+6277101735386680763835789423207666416102355444464034512896*w3)
 generalize hX:w0+18446744073709551616*w1+340282366920938463463374607431768211456*w2+6277101735386680763835789423207666416102355444464034512896*w3=X at *
 unfold fE
 have e1:X/2251799813685248=w0/2251799813685248+8192*w1+151115727451828646838272*w2+2787593149816327892691964784081045188247552*w3:=by omega
 have e2:X/5070602400912917605986812821504=w1/274877906944+67108864*w2+1237940039285380274899124224*w3:=by omega
 have e3:X/11417981541647679048466287755595961091061972992=w2/33554432+549755813888*w3:=by omega
 have e4:X/25711008708143844408671393477458601640355247900524685364822016=w3/4096:=by omega
 rw[e1,e2,e3,e4]
 congr 1<;>omega
end
section
open Go.RowKit Ow Ed
theorem MU (B o c k:Nat) (hk:k<=32) (hc:k<c) (w:World):(Instr.slice 22 (.slice (some ⟨B,o,none⟩) 32 c) (some (.int .i64 (k:Int))) none none).run Tryz.prog w=.ok (.slice (some ⟨B,o+k,none⟩) (32-k) (c-k)) w:=by
 obtain⟨a',h1,h2⟩:=zM (some ⟨B,o,none⟩) 32 c k hk
 rw[h1 w,h2 hc B o rfl]
set_option maxRecDepth 100000 in
set_option maxHeartbeats 1600000 in
theorem AZ (B o c:Nat) (F:Nat->Int) (w0:World) (h32:32<=c) (hf:∀i,0<=F i/\F i<256) (hc:∀i,i<32->w0.cell? ⟨B,o+i,none⟩=some (.int .u8 (F i))) (hB:B<w0.heap.size):
  Calls Tryz.prog 125 #[.slice (some ⟨B,o,none⟩) 32 c] w0 (oq (fE (aU F 32)) w0):=by
 have HC:=Lib.hid hc;clear hc
 have HF:=Lib.hid hf;clear hf
 have hXb:∀s,0<=aU (fun i=>F (s+i)) 8/\aU (fun i=>F (s+i)) 8<18446744073709551616:=fun s=>by
  have h:=gM (fun i=>F (s+i)) (fun i=>HF.out _) 8
  have h64:(2:Int)^(8*8)=18446744073709551616:=by decide
  rw[h64]at h
  exact h
 have hN:=acA F
 have h0:aU F 8=aU (fun i=>F (0+i)) 8:=by simp
 rw[h0]at hN
 clear h0
 have g0:∀s n c' W,8<=n->s+8<=32->(∀i,i<32->W.cell? ⟨B,o+i,none⟩=some (.int .u8 (F i)))->lH 148 #[.slice (some ⟨B,o+s,none⟩) n c'] W (.int .u64 (aU (fun i=>F (s+i)) 8)):=
  fun s n c' W hn hs h=>(Gx B (o+s) n c' (fun i=>F (s+i)) W hn (fun i=>HF.out _) (fun i hi=>by rw[Nat.add_assoc];exact h (s+i) (by omega))).mono fun e w' ⟨h1,h2⟩=>⟨h1,by subst h2;exact ah _ _⟩
 obtain⟨X,hX⟩:∃X:Nat->Int,∀s,X s=aU (fun i=>F (s+i)) 8:=⟨_,fun _=>rfl⟩
 simp only[<- hX]at hXb hN g0
 clear hX
 have G:=Lib.hid g0;clear g0
 have HN:=Lib.hid hN;clear hN
 obtain⟨p0,q0⟩:=hXb 0
 obtain⟨p1,q1⟩:=hXb 8
 obtain⟨p2,q2⟩:=hXb 16
 obtain⟨p3,q3⟩:=hXb 24
 clear hXb
 have HL:=Lib.hid (Sr (X 0) (X 8) (X 16) (X 24) p0 p1 p2 q0 q1 q2)
 have S0:Hid (∀w,(Instr.slice 22 (.slice (some ⟨B,o,none⟩) 32 c) (some (.int .i64 0)) none none).run Tryz.prog w=.ok (.slice (some ⟨B,o+0,none⟩) 32 (c-0)) w):=Lib.hid (MU B o c 0 (by decide) (by omega))
 have S8:Hid (∀w,(Instr.slice 22 (.slice (some ⟨B,o,none⟩) 32 c) (some (.int .i64 8)) none none).run Tryz.prog w=.ok (.slice (some ⟨B,o+8,none⟩) 24 (c-8)) w):=Lib.hid (MU B o c 8 (by decide) (by omega))
 have S16:Hid (∀w,(Instr.slice 22 (.slice (some ⟨B,o,none⟩) 32 c) (some (.int .i64 16)) none none).run Tryz.prog w=.ok (.slice (some ⟨B,o+16,none⟩) 16 (c-16)) w):=Lib.hid (MU B o c 16 (by decide) (by omega))
 have S24:Hid (∀w,(Instr.slice 22 (.slice (some ⟨B,o,none⟩) 32 c) (some (.int .i64 24)) none none).run Tryz.prog w=.ok (.slice (some ⟨B,o+24,none⟩) 8 (c-24)) w):=Lib.hid (MU B o c 24 (by decide) (by omega))
 have HH:=Lib.hid h32;clear h32
 go_enter Tryz.func125,Tryz.ntmps125
 go_upto_region 1 with (fail)
 have GG:w0.grownBy (w0.alloc (.cells gX.toArray 54)) none:=av (ah _ _) _
 have hR:aH (w0.alloc (.cells gX.toArray 54)) (w0.heap.size) 54 gX:=aH.new w0 gX _
 revert GG hR
 generalize w0.alloc (.cells gX.toArray 54)=W0
 intro GG hR
 have Gs:=GG.size
 have HG:=Lib.hid GG
 have lI:=GG.size
 have lG:=hR.lt
 refine Fg.rT [] [.any,.any,.any,.val (Value.int .u64 (X 0)),.val (Value.int .u64 (X 8)),.val (Value.int .u64 (X 16)),.val (Value.int .u64 (X 24)),.val (Value.slice (some ⟨B,o,none⟩) 32 c),.val (Value.slice (some ⟨B,o+0,none⟩) 32 (c-0)),.val (Value.int .u64 (X 0)),.val (Value.slice (some ⟨B,o,none⟩) 32 c),.val (Value.slice (some ⟨B,o+8,none⟩) 24 (c-8)),.val (Value.int .u64 (X 8)),.val (Value.slice (some ⟨B,o,none⟩) 32 c),.val (Value.slice (some ⟨B,o+16,none⟩) 16 (c-16)),.val (Value.int .u64 (X 16)),.val (Value.slice (some ⟨B,o,none⟩) 32 c),.val (Value.slice (some ⟨B,o+24,none⟩) 8 (c-24)),.val (Value.int .u64 (X 24))] 16 ?_ ?_
 .refine Fg.vS rfl (by decide) (fun _ _ h=>Fg.vn _ (Fg.run_move rfl (h.r 0))) ?_
  refine Fg.vS rfl (by decide) (fun ac w h=>?_) ?_
  .have e7:_=Value.slice (some ⟨B,o,none⟩) 32 c:=h.d 7
   refine⟨aB rfl,Value.slice (some ⟨B,o+0,none⟩) 32 (c-0),w,?_,ah _ _,rfl⟩
   clear h
   have hrun:=S0.out w
   simp only[execOp,Act.eval,e7,Option.map_some,Option.map_none]
   go_simp
  refine Fg.cS rfl (by decide) (fun ac w h=>?_) ?_
  .have e8:_=Value.slice (some ⟨B,o+0,none⟩) 32 (c-0):=h.d 8
   refine⟨aB rfl,148,#[Value.slice (some ⟨B,o+0,none⟩) 32 (c-0)],Fg.aN rfl rfl (by simp only[List.map_toArray,List.map_cons,List.map_nil,Act.eval,e8]) (Fg.aI Tryz.func148 (by kernel_rfl) (by kernel_rfl)),?_⟩
   exact (G.out 0 32 (c-0) _ (by decide) (by decide) (fun i hi=>by rw[bf (aj HG.out h.base) (p:=⟨B,o+i,none⟩) hB (by simp)];exact HC.out i hi)).mono fun _ _ ⟨he,hg⟩=>⟨_,he,hg,rfl⟩
  refine Fg.vS rfl (by decide) (fun _ _ h=>Fg.vn _ (Fg.run_move rfl (h.r 0))) ?_
  refine Fg.vS rfl (by decide) (fun ac w h=>?_) ?_
  .have e10:_=Value.slice (some ⟨B,o,none⟩) 32 c:=h.d 10
   refine⟨aB rfl,Value.slice (some ⟨B,o+8,none⟩) 24 (c-8),w,?_,ah _ _,rfl⟩
   clear h
   have hrun:=S8.out w
   simp only[execOp,Act.eval,e10,Option.map_some,Option.map_none]
   go_simp
  refine Fg.cS rfl (by decide) (fun ac w h=>?_) ?_
  .have e11:_=Value.slice (some ⟨B,o+8,none⟩) 24 (c-8):=h.d 11
   refine⟨aB rfl,148,#[Value.slice (some ⟨B,o+8,none⟩) 24 (c-8)],Fg.aN rfl rfl (by simp only[List.map_toArray,List.map_cons,List.map_nil,Act.eval,e11]) (Fg.aI Tryz.func148 (by kernel_rfl) (by kernel_rfl)),?_⟩
   exact (G.out 8 24 (c-8) _ (by decide) (by decide) (fun i hi=>by rw[bf (aj HG.out h.base) (p:=⟨B,o+i,none⟩) hB (by simp)];exact HC.out i hi)).mono fun _ _ ⟨he,hg⟩=>⟨_,he,hg,rfl⟩
  refine Fg.vS rfl (by decide) (fun _ _ h=>Fg.vn _ (Fg.run_move rfl (h.r 0))) ?_
  refine Fg.vS rfl (by decide) (fun ac w h=>?_) ?_
  .have e13:_=Value.slice (some ⟨B,o,none⟩) 32 c:=h.d 13
   refine⟨aB rfl,Value.slice (some ⟨B,o+16,none⟩) 16 (c-16),w,?_,ah _ _,rfl⟩
   clear h
   have hrun:=S16.out w
   simp only[execOp,Act.eval,e13,Option.map_some,Option.map_none]
   go_simp
  refine Fg.cS rfl (by decide) (fun ac w h=>?_) ?_
  .have e14:_=Value.slice (some ⟨B,o+16,none⟩) 16 (c-16):=h.d 14
   refine⟨aB rfl,148,#[Value.slice (some ⟨B,o+16,none⟩) 16 (c-16)],Fg.aN rfl rfl (by simp only[List.map_toArray,List.map_cons,List.map_nil,Act.eval,e14]) (Fg.aI Tryz.func148 (by kernel_rfl) (by kernel_rfl)),?_⟩
   exact (G.out 16 16 (c-16) _ (by decide) (by decide) (fun i hi=>by rw[bf (aj HG.out h.base) (p:=⟨B,o+i,none⟩) hB (by simp)];exact HC.out i hi)).mono fun _ _ ⟨he,hg⟩=>⟨_,he,hg,rfl⟩
  refine Fg.vS rfl (by decide) (fun _ _ h=>Fg.vn _ (Fg.run_move rfl (h.r 0))) ?_
  refine Fg.vS rfl (by decide) (fun ac w h=>?_) ?_
  .have e16:_=Value.slice (some ⟨B,o,none⟩) 32 c:=h.d 16
   refine⟨aB rfl,Value.slice (some ⟨B,o+24,none⟩) 8 (c-24),w,?_,ah _ _,rfl⟩
   clear h
   have hrun:=S24.out w
   simp only[execOp,Act.eval,e16,Option.map_some,Option.map_none]
   go_simp
  refine Fg.cS rfl (by decide) (fun ac w h=>?_) ?_
  .have e17:_=Value.slice (some ⟨B,o+24,none⟩) 8 (c-24):=h.d 17
   refine⟨aB rfl,148,#[Value.slice (some ⟨B,o+24,none⟩) 8 (c-24)],Fg.aN rfl rfl (by simp only[List.map_toArray,List.map_cons,List.map_nil,Act.eval,e17]) (Fg.aI Tryz.func148 (by kernel_rfl) (by kernel_rfl)),?_⟩
   exact (G.out 24 8 (c-24) _ (by decide) (by decide) (fun i hi=>by rw[bf (aj HG.out h.base) (p:=⟨B,o+i,none⟩) hB (by simp)];exact HC.out i hi)).mono fun _ _ ⟨he,hg⟩=>⟨_,he,hg,rfl⟩
  refine Fg.vS rfl (by decide) (fun _ _ h=>Fg.vn _ (Fg.run_assign rfl (h.d 9))) ?_
  refine Fg.vS rfl (by decide) (fun _ _ h=>Fg.vn _ (Fg.run_assign rfl (h.d 12))) ?_
  refine Fg.vS rfl (by decide) (fun _ _ h=>Fg.vn _ (Fg.run_assign rfl (h.d 15))) ?_
  refine Fg.vS rfl (by decide) (fun _ _ h=>Fg.vn _ (Fg.run_assign rfl (h.d 18))) ?_
  trivial
 .intro qa V1 g1 hsz hdf hrest aC hpt
  obtain⟨⟨u7,hs7⟩,⟨u8,lC⟩,⟨u9,jD⟩,⟨u10,fM⟩,⟨u11,d9⟩,⟨u12,fJ⟩,⟨u13,dL⟩,⟨u14,dw⟩,⟨u15,dM⟩,⟨u16,dG⟩,⟨u17,eD⟩,⟨u18,eF⟩,_⟩:=Fg.bn qa [7,8,9,10,11,12,13,14,15,16,17,18]
  obtain rfl:=Fg.aQ [3,4,5,6,7,8,9,10,11,12,13,14,15,16,17,18] (vs:=[_,_,_,Value.int .u64 (X 0),Value.int .u64 (X 8),Value.int .u64 (X 16),Value.int .u64 (X 24),u7,u8,u9,u10,u11,u12,u13,u14,u15,u16,u17,u18,_,_,_,_,_,_,_,_,_,_,_,_,_,_,_,_,_,_,_,_,_,_,_]) hsz hrest (by kernel_rfl) rfl rfl ⟨(show qa.tmps.getD 3 undef=Value.int .u64 (X 0) from aC 3 (by kernel_rfl)),(show qa.tmps.getD 4 undef=Value.int .u64 (X 8) from aC 4 (by kernel_rfl)),(show qa.tmps.getD 5 undef=Value.int .u64 (X 16) from aC 5 (by kernel_rfl)),(show qa.tmps.getD 6 undef=Value.int .u64 (X 24) from aC 6 (by kernel_rfl)),hs7,lC,jD,fM,d9,fJ,dL,dw,dM,dG,eD,eF,trivial⟩ hdf
  clear hsz hdf hrest aC hpt hs7 lC jD fM d9 fJ dL dw dM dG eD eF
  replace hR:=hR.gn g1
  replace GG:=aj GG g1
  clear g1
  have z0:=hR.cell (i:=0) rfl
  have z1:=hR.cell (i:=1) rfl
  have z2:=hR.cell (i:=2) rfl
  have z3:=hR.cell (i:=3) rfl
  have z4:=hR.cell (i:=4) rfl
  have y0:=hR.free 0
  have y1:=hR.free 1
  have y2:=hR.free 2
  have y3:=hR.free 3
  have y4:=hR.free 4
  clear hR
  go_wp2
  refine bodyPost_ret (v:=(fE (aU F 32)).v) ?_ rfl (Ar ⟨rfl,jH GG (Nat.le_refl _) _ _ _ _ _⟩)
  rw[HN.out,<- HL.out]
  simp[results,Tryz.results125,go_sem,z0,z1,z2,z3,z4,Fe.v]
end
section
open Go.RowKit Go.Shelf
def Cz:Go.Shelf.Ren:=⟨fun|115=>17|n=>n,fun|37=>22|4=>4|9=>9|5=>5|n=>n,fun|n=>n⟩
theorem O4:Go.Proofs.Lays.nb115 Tryz.prog Cz:={
 mixed:=by kernel_rfl
 f115:=Tryz.func17.trans (congrArg some (by kernel_rfl))
 t4:=Tryz.underlying4
 a4:=Tryz.isAgg4
 z4:=Tryz.sizeOf4
 v4:=Tryz.zeroValue4
 t9:=Tryz.underlying9
 a9:=Tryz.isAgg9
 z9:=Tryz.sizeOf9
 v9:=Tryz.zeroValue9
 t37:=Tryz.underlying22
 a37:=Tryz.isAgg22
 z37:=Tryz.sizeOf22
 v37:=Tryz.zeroValue22
 t5:=Tryz.underlying5
 a5:=Tryz.isAgg5
 z5:=Tryz.sizeOf5
 v5:=Tryz.zeroValue5}
def kL (x:Int):List Int:=(List.range 32).map fun i=>x/2^(8*i)%256
theorem qV (x:Int) (i:Nat) (h:i<32):(kL x)[i]?=some (x/2^(8*i)%256):=by
 unfold kL;rw[List.getElem?_map,List.getElem?_range h];rfl
theorem Sv {w:World} {B:Nat} {T:TypeId} {x:Int} (h:aH w B T (dh x)):Lib.BytesIn w (some ⟨B,0,none⟩) 32 (kL x):=
 Lib.BytesIn.of_cells fun i hi=>by
  have hadd:(⟨B,0,none⟩:Addr).add i=⟨B,i,none⟩:=by unfold Addr.add;split<;>simp_all
  have hi2:i<32:=by simpa[kL] using hi
  rw[hadd,h.cell (lQ x i hi2)]
  have:=qV x i hi2
  simp[List.getD,this,rO]
theorem MV (x:Int) (i:Nat):0<=x/2^(8*i)%256/\x/2^(8*i)%256<256:=⟨Int.emod_nonneg _ (by decide),Int.emod_lt_of_pos _ (by decide)⟩
theorem EF (x y:Int) (h0:0<=x) (k0:0<=y) (h1:x<2^256) (k1:y<2^256):(Lib.bytesOf (kL x)==Lib.bytesOf (kL y))=decide (x=y):=by
 rw[Bool.eq_iff_iff,beq_iff_eq,decide_eq_true_iff]
 constructor
 .intro h
  refine yI 32 x y h0 k0 h1 k1 fun i hi=>?_
  have e:(Lib.bytesOf (kL x))[i]?=(Lib.bytesOf (kL y))[i]?:=by rw[h]
  unfold Lib.bytesOf at e
  rw[List.getElem?_map,List.getElem?_map,qV x i hi,qV y i hi]at e
  simp only[Option.map_some,Option.some.injEq]at e
  have e2:=congrArg UInt8.toNat e
  have bx:=MV x i
  have b_y:=MV y i
  generalize x/2^(8*i)%256=p at *
  generalize y/2^(8*i)%256=q at *
  rw[UInt8.toNat_ofNat',UInt8.toNat_ofNat']at e2
  omega
 .rintro rfl;rfl
theorem EG (x:Int):∀k,aU (fun i=>x/2^(8*i)%256) k=x%2^(8*k):=by
 intro k
 induction k with
 | zero=>simp[aU]
 | succ k ih=>
  rw[aU,ih]
  have e:(2:Int)^(8*(k+1))=2^(8*k)*256:=by rw[show 8*(k+1)=8*k+8 by omega,Int.pow_add];rfl
  have hp:(0:Int)<2^(8*k):=Int.pow_pos (by decide)
  rw[e]
  generalize (2:Int)^(8*k)=p at *
  have h1:=Int.mul_ediv_add_emod x p
  have h2:=Int.mul_ediv_add_emod x (p*256)
  have h3:x/(p*256)=x/p/256:=by rw[Int.ediv_ediv_of_nonneg (by omega)]
  have h4:=Int.mul_ediv_add_emod (x/p) 256
  rw[h3]at h2
  have h5:p*(x/p)=p*(256*(x/p/256)+x/p%256):=by rw[h4]
  rw[Int.mul_add,<- Int.mul_assoc]at h5
  have h6:x/p%256*p=p*(x/p%256):=Int.mul_comm ..
  omega
end
section
open Go.RowKit Go.Shelf Ow Ed
theorem EH (F:Nat->Int) (hf:∀i,0<=F i/\F i<256) (n i:Nat) (hi:i<n):aU F n/2^(8*i)%256=F i:=by
 obtain⟨k,rfl⟩:∃k,n=i+(1+k):=⟨n-i-1,by omega⟩
 rw[kT F i (1+k),kT (fun j=>F (i+j)) 1 k]
 obtain⟨b0,b1⟩:=gM F hf i
 have hp:(2:Int)^(8*i)≠0:=Int.ne_of_gt (Int.pow_pos (by decide))
 rw[Int.add_mul_ediv_right _ _ hp,Int.ediv_eq_zero_of_lt b0 b1,Int.zero_add]
 have e1:aU (fun j=>F (i+j)) 1=F i:=by simp[aU]
 have e2:(2:Int)^(8*1)=256:=by decide
 rw[e1,e2,Int.add_mul_emod_self_right]
 have:=hf i
 omega
theorem O5 (F:Nat->Int) (hf:∀i,0<=F i/\F i<256) (i:Nat) (hi:i<32):(kL (aU F 32)).getD i 0=F i:=by
 rw[List.getD_eq_getElem?_getD,qV _ i hi,Option.getD_some,EH F hf 32 i hi]
theorem bytes_at (w:World) (pb po:Nat) (F:Nat->Int) (hf:∀i,0<=F i/\F i<256) (hc:∀i,i<32->w.cell? ⟨pb,po+i,none⟩=some (.int .u8 (F i))):Lib.BytesIn w (some ⟨pb,po,none⟩) 32 (kL (aU F 32)):=
 Lib.BytesIn.of_cells fun i hi=>by
  have hadd:(⟨pb,po,none⟩:Addr).add i=⟨pb,po+i,none⟩:=by unfold Addr.add;split<;>simp_all
  have hi2:i<32:=by simpa[kL] using hi
  rw[hadd,hc i hi2,O5 F hf i hi2]
theorem MW (A pb po c:Nat) (T:TypeId) (x:Int) (F:Nat->Int) (w:World) (hf:∀i,0<=F i/\F i<256) (h0:0<=x) (h1:x<2^256) (hA:aH w A T (dh x)) (hc:∀i,i<32->w.cell? ⟨pb,po+i,none⟩=some (.int .u8 (F i))) {b:Bool} (hb:decide (x=aU F 32)=b):
  lH 17 #[.slice (some ⟨A,0,none⟩) 32 32,.slice (some ⟨pb,po,none⟩) 32 c] w (.bool b):=by
 have hw:=gM F hf 32
 have h2:(2:Int)^(8*32)=2^256:=by decide
 rw[h2]at hw
 refine (Any.bytes_Equal_all O4 _ _ 32 32 32 c (kL x) (kL (aU F 32)) w (by simp[kL]) (by simp[kL]) (Sv hA) (bytes_at w pb po F hf hc)).mono ?_
 rintro e w' ⟨rfl,rfl⟩
 exact⟨by rw[EF x _ h0 hw.1 h1 hw.2,hb],ah _ _⟩
set_option maxRecDepth 100000 in
set_option maxHeartbeats 3200000 in
theorem GU (pb po c:Nat) (F:Nat->Int) (w0:World) (h32:32<=c) (hf:∀i,0<=F i/\F i<256) (hc:∀i,i<32->w0.cell? ⟨pb,po+i,none⟩=some (.int .u8 (F i))) (hB:pb<w0.heap.size) (hlt:aU F 32<57896044618658097711785492504343953926634992332820282019728792003956564819949):
  Calls Tryz.prog 100 #[.slice (some ⟨pb,po,none⟩) 32 c] w0 fun e w'=>e=.returned (.tuple #[(fE (aU F 32)).v,.bool true])/\w0.grownBy w' none:=by
 have HC:=Lib.hid hc;clear hc
 have HF:=Lib.hid hf;clear hf
 have hw:=gM F HF.out 32
 have h2:(2:Int)^(8*32)=2^256:=by decide
 rw[h2]at hw
 have okN:(fE (aU F 32)).Ok:=(mI hw.1 hw.2).ok
 have hD:decide ((Fe.m (fE (aU F 32)):Int)=aU F 32)=true:=by
  rw[ED,decide_eq_true_iff]
  have:=hw.1
  omega
 have HD:=Lib.hid hD;clear hD hw h2 hlt
 go_enter Tryz.func100,Tryz.ntmps100
 go_upto_region 1 with (fail)
 have G:w0.grownBy (w0.alloc (.cells gX.toArray 54)) none:=av (ah _ _) _
 have hR:aH (w0.alloc (.cells gX.toArray 54)) (w0.heap.size) 54 gX:=aH.new w0 gX _
 revert G hR
 generalize w0.alloc (.cells gX.toArray 54)=W0
 intro G hR
 have Gs:=G.size
 have HCW:Hid (∀i,i<32->W0.cell? ⟨pb,po+i,none⟩=some (.int .u8 (F i))):=Lib.hid (fun i hi=>by rw[bf G (p:=⟨pb,po+i,none⟩) hB (by simp)];exact HC.out i hi)
 have G0x:=G
 go_upto_region 3 with (fail)
 have lI:=G.size
 have lG:=hR.lt
 refine Fg.rP [4] [.any,.any,.any,.any,.fresh 54 gX W0.heap.size,.any,.any,.any,.any,.val (Value.slice (some ⟨pb,po,none⟩) 32 c),.val ((fE (aU F 32)).v)] 3 ?_ ?_
 .refine Fg.vS rfl (by decide) (fun _ _ h=>Fg.vn _ (Fg.run_move rfl (h.r 0))) ?_
  refine Fg.cS rfl (by decide) (fun ac w h=>?_) ?_
  .have e9:_=Value.slice (some ⟨pb,po,none⟩) 32 c:=h.d 9
   refine⟨aB rfl,125,#[Value.slice (some ⟨pb,po,none⟩) 32 c],Fg.aN rfl rfl (by simp only[List.map_toArray,List.map_cons,List.map_nil,Act.eval,e9]) (Fg.aI Tryz.func125 (by kernel_rfl) (by kernel_rfl)),?_⟩
   exact ((AZ pb po c F _ h32 HF.out (fun i hi=>by rw[bf (aj G0x h.base) (p:=⟨pb,po+i,none⟩) hB (by simp)];exact HC.out i hi) (Nat.lt_of_lt_of_le hB (aj G0x h.base).size)).mono fun _ _ h=>fq h).mono fun _ _ ⟨he,hg⟩=>⟨_,he,hg,rfl⟩
  refine⟨⟨⟨_,rfl⟩,Fg.gF (fun _ _ h k=>aj h k) rfl (by show 4<18;decide) fun ac w h=>?_⟩,?_⟩
  .refine⟨aB rfl,w.alloc (.cells gX.toArray 54),?_,World.grownBy_alloc _ _ _,by simp,⟨w.heap.size,rfl,h.base.size,aH.new w gX _⟩⟩
   clear h
   go_simp
  trivial
 .intro qa V1 g1 hsz hdf hrest aC hpt
  obtain⟨N4,hs4,MX,hb4⟩:∃N,qa.tmps.getD 4 undef=.pointer (some ⟨N,0,none⟩)/\W0.heap.size<=N/\aH V1 N 54 gX:=aC 4 (by kernel_rfl)
  obtain⟨u9,jD⟩:=Fg.bL qa 9
  obtain⟨x1,hx1⟩:∃x:Fe,x=fE (aU F 32):=⟨_,rfl⟩
  obtain rfl:=Fg.aQ [4,9,10] (vs:=[_,_,_,_,Value.pointer (some ⟨N4,0,none⟩),_,_,_,_,u9,x1.v,_,_,_,_,_,_,_]) hsz hrest (by kernel_rfl) rfl rfl ⟨hs4,jD,(show qa.tmps.getD 10 undef=x1.v by rw[hx1];exact aC 10 (by kernel_rfl)),trivial⟩ hdf
  clear hsz hdf hrest aC hpt hs4 jD
  have mZ:=Lib.hid hx1;clear hx1
  replace hR:=hR.gn g1
  replace G:=aj G g1
  have mH:x1.Ok:=by rw[mZ.out];exact okN
  have hw4:w0.heap.size<=N4:=Nat.le_trans lI MX
  clear g1
  refine Fg.aV rfl rfl (Fg.run_store (cs:=aR x1) rfl rfl rfl (hb4.there 0 5 (by show 0+5<=5;decide)) aD (cB _)) ?_
  replace hR:=hR.au (C:=N4) (cs:=aR x1) 0 (by omega)
  replace hb4:aH (V1.setCells N4 0 (aR x1)) N4 54 (aR x1):=hb4.bC rfl
  replace G:=aG (cs:=aR x1) G (B:=N4) (hw4) 0
  revert hR hb4 G
  generalize V1.setCells N4 0 (aR x1)=W2
  intro hR hb4 G
  have G1x:=G
  go_upto_region 4 with (fail)
  have vO:=G.size
  have qU:=hR.lt
  have GV:=hb4.lt
  refine Fg.rP [] [.any,.any,.any,.any,.any,.any,.any,.any,.any,.any,.any,.val (x1.v),.row 141 (dh (Fe.m (x1))) 32 W2.heap.size,.val (Value.slice (some ⟨pb,po,none⟩) 32 c),.val (Value.bool true),.val (Value.bool false)] 5 ?_ ?_
  .refine Fg.vS rfl (by decide) (fun _ _ h=>Fg.vn x1.v (Fg.run_load rfl (h.r 4) ((hb4.gn h.base).range 0 (aR x1) rfl) Tryz.underlying54 rfl aD)) ?_
   refine Fg.cS rfl (by decide) (fun ac w h=>?_) ?_
   .have e11:_=x1.v:=h.d 11
    refine⟨aB rfl,94,#[x1.v],Fg.aN rfl rfl (by simp only[List.map_toArray,List.map_cons,List.map_nil,Act.eval,e11]) (Fg.aI Tryz.func94 (by kernel_rfl) (by kernel_rfl)),?_⟩
    exact (zu _ _ mH).mono fun _ _ ⟨NB,he,hg,hn,hb⟩=>⟨_,he,hg,⟨NB,rfl,Nat.le_trans h.base.size hn,hb⟩⟩
   refine Fg.vS rfl (by decide) (fun _ _ h=>Fg.vn _ (Fg.run_move rfl (h.r 0))) ?_
   refine Fg.cS rfl (by decide) (fun ac w h=>?_) ?_
   .obtain⟨Yc,e12,Sw,b12⟩:∃N,ac.tmps.getD 12 undef=.slice (some ⟨N,0,none⟩) 32 32/\W2.heap.size<=N/\aH w N 141 (dh (Fe.m (x1))):=h.dep 12 (by kernel_rfl)
    have e13:_=Value.slice (some ⟨pb,po,none⟩) 32 c:=h.d 13
    refine⟨aB rfl,17,#[Value.slice (some ⟨Yc,0,none⟩) 32 32,Value.slice (some ⟨pb,po,none⟩) 32 c],Fg.aN rfl rfl (by simp only[List.map_toArray,List.map_cons,List.map_nil,Act.eval,e12,e13]) (Fg.aI Tryz.func17 (by kernel_rfl) (by kernel_rfl)),?_⟩
    exact (MW _ pb po c _ _ F _ HF.out (Int.natCast_nonneg _) (Mt _) b12 (fun i hi=>by rw[bf (aj G1x h.base) (p:=⟨pb,po+i,none⟩) hB (by simp)];exact HC.out i hi) (by rw[mZ.out];exact HD.out)).mono fun _ _ ⟨he,hg⟩=>⟨_,he,hg,rfl⟩
   refine Fg.vS rfl (by decide) (fun ac w h=>?_) ?_
   .have e14:_=Value.bool true:=h.d 14
    refine⟨aB rfl,Value.bool false,w,?_,ah _ _,rfl⟩
    clear h
    simp only[execOp,Act.eval,e14]
    go_simp
   trivial
  .intro qa V3 g3 hsz hdf hrest aC hpt
   obtain⟨⟨u11,d9⟩,⟨u12,fJ⟩,⟨u13,dL⟩,⟨u14,dw⟩,_⟩:=Fg.bn qa [11,12,13,14]
   obtain rfl:=Fg.aQ [11,12,13,14,15] (vs:=[_,_,_,_,_,_,_,_,_,_,_,u11,u12,u13,u14,Value.bool false,_,_]) hsz hrest (by kernel_rfl) rfl rfl ⟨d9,fJ,dL,dw,(show qa.tmps.getD 15 undef=Value.bool false from aC 15 (by kernel_rfl)),trivial⟩ hdf
   clear hsz hdf hrest aC hpt d9 fJ dL dw
   replace hR:=hR.gn g3
   replace hb4:=hb4.gn g3
   replace G:=aj G g3
   clear g3
   go_upto_region 6 with (fail)
   have UZ:=G.size
   have uy:=hR.lt
   have DK:=hb4.lt
   refine Fg.rP [] [.any,.any,.any,.any,.any,.any,.any,.any,.any,.any,.any,.any,.any,.any,.any,.any,.any,.val (x1.v)] 1 ?_ ?_
   .refine Fg.vS rfl (by decide) (fun _ _ h=>Fg.vn x1.v (Fg.run_load rfl (h.r 4) ((hb4.gn h.base).range 0 (aR x1) rfl) Tryz.underlying54 rfl aD)) ?_
    trivial
   .intro qa V4 g4 hsz hdf hrest aC hpt
    obtain rfl:=Fg.aQ [17] (vs:=[_,_,_,_,_,_,_,_,_,_,_,_,_,_,_,_,_,x1.v]) hsz hrest (by kernel_rfl) rfl rfl ⟨(show qa.tmps.getD 17 undef=x1.v from aC 17 (by kernel_rfl)),trivial⟩ hdf
    clear hsz hdf hrest aC hpt
    replace hR:=hR.gn g4
    replace hb4:=hb4.gn g4
    replace G:=aj G g4
    clear g4
    refine Fg.aV rfl rfl (Fg.run_store (cs:=aR x1) rfl rfl rfl (hR.there 0 5 (by show 0+5<=5;decide)) aD (cB _)) ?_
    replace hR:aH (V4.setCells w0.heap.size 0 (aR x1)) w0.heap.size 54 (aR x1):=hR.bC rfl
    replace hb4:=hb4.au (C:=w0.heap.size) (cs:=aR x1) 0 (by omega)
    replace G:=aG (cs:=aR x1) G (B:=w0.heap.size) (by omega) 0
    revert hR hb4 G
    generalize V4.setCells w0.heap.size 0 (aR x1)=W5
    intro hR hb4 G
    go_wp2_with fail
    have hx1:=mZ.out;subst hx1
    exact bodyPost_ret (v:=.tuple #[(fE (aU F 32)).v,.bool true]) (dn Tryz.results100 _ _ w0.heap.size 54 (aR (fE (aU F 32))).toArray (0,0) _ rfl hR Tryz.underlying54 rfl aD rfl) rfl ⟨rfl,G⟩
set_option maxRecDepth 100000 in
set_option maxHeartbeats 3200000 in
theorem Wd (pb po c:Nat) (F:Nat->Int) (w0:World) (h32:32<=c) (hf:∀i,0<=F i/\F i<256) (hc:∀i,i<32->w0.cell? ⟨pb,po+i,none⟩=some (.int .u8 (F i))) (hB:pb<w0.heap.size) (hlt:57896044618658097711785492504343953926634992332820282019728792003956564819949<=aU F 32):
  Calls Tryz.prog 100 #[.slice (some ⟨pb,po,none⟩) 32 c] w0 fun e w'=>e=.returned (.tuple #[(Fe.bI).v,.bool false])/\w0.grownBy w' none:=by
 have HC:=Lib.hid hc;clear hc
 have HF:=Lib.hid hf;clear hf
 have hw:=gM F HF.out 32
 have h2:(2:Int)^(8*32)=2^256:=by decide
 rw[h2]at hw
 have okN:(fE (aU F 32)).Ok:=(mI hw.1 hw.2).ok
 have hD:decide ((Fe.m (fE (aU F 32)):Int)=aU F 32)=false:=by
  rw[ED,decide_eq_false_iff_not]
  have:=hw.1
  omega
 have HD:=Lib.hid hD;clear hD hw h2 hlt
 go_enter Tryz.func100,Tryz.ntmps100
 go_upto_region 1 with (fail)
 have G:w0.grownBy (w0.alloc (.cells gX.toArray 54)) none:=av (ah _ _) _
 have hR:aH (w0.alloc (.cells gX.toArray 54)) (w0.heap.size) 54 gX:=aH.new w0 gX _
 revert G hR
 generalize w0.alloc (.cells gX.toArray 54)=W0
 intro G hR
 have Gs:=G.size
 have HCW:Hid (∀i,i<32->W0.cell? ⟨pb,po+i,none⟩=some (.int .u8 (F i))):=Lib.hid (fun i hi=>by rw[bf G (p:=⟨pb,po+i,none⟩) hB (by simp)];exact HC.out i hi)
 have G0x:=G
 go_upto_region 3 with (fail)
 have lI:=G.size
 have lG:=hR.lt
 refine Fg.rP [4] [.any,.any,.any,.any,.fresh 54 gX W0.heap.size,.any,.any,.any,.any,.val (Value.slice (some ⟨pb,po,none⟩) 32 c),.val ((fE (aU F 32)).v)] 3 ?_ ?_
 .refine Fg.vS rfl (by decide) (fun _ _ h=>Fg.vn _ (Fg.run_move rfl (h.r 0))) ?_
  refine Fg.cS rfl (by decide) (fun ac w h=>?_) ?_
  .have e9:_=Value.slice (some ⟨pb,po,none⟩) 32 c:=h.d 9
   refine⟨aB rfl,125,#[Value.slice (some ⟨pb,po,none⟩) 32 c],Fg.aN rfl rfl (by simp only[List.map_toArray,List.map_cons,List.map_nil,Act.eval,e9]) (Fg.aI Tryz.func125 (by kernel_rfl) (by kernel_rfl)),?_⟩
   exact ((AZ pb po c F _ h32 HF.out (fun i hi=>by rw[bf (aj G0x h.base) (p:=⟨pb,po+i,none⟩) hB (by simp)];exact HC.out i hi) (Nat.lt_of_lt_of_le hB (aj G0x h.base).size)).mono fun _ _ h=>fq h).mono fun _ _ ⟨he,hg⟩=>⟨_,he,hg,rfl⟩
  refine⟨⟨⟨_,rfl⟩,Fg.gF (fun _ _ h k=>aj h k) rfl (by show 4<18;decide) fun ac w h=>?_⟩,?_⟩
  .refine⟨aB rfl,w.alloc (.cells gX.toArray 54),?_,World.grownBy_alloc _ _ _,by simp,⟨w.heap.size,rfl,h.base.size,aH.new w gX _⟩⟩
   clear h
   go_simp
  trivial
 .intro qa V1 g1 hsz hdf hrest aC hpt
  obtain⟨N4,hs4,MX,hb4⟩:∃N,qa.tmps.getD 4 undef=.pointer (some ⟨N,0,none⟩)/\W0.heap.size<=N/\aH V1 N 54 gX:=aC 4 (by kernel_rfl)
  obtain⟨u9,jD⟩:=Fg.bL qa 9
  obtain⟨x1,hx1⟩:∃x:Fe,x=fE (aU F 32):=⟨_,rfl⟩
  obtain rfl:=Fg.aQ [4,9,10] (vs:=[_,_,_,_,Value.pointer (some ⟨N4,0,none⟩),_,_,_,_,u9,x1.v,_,_,_,_,_,_,_]) hsz hrest (by kernel_rfl) rfl rfl ⟨hs4,jD,(show qa.tmps.getD 10 undef=x1.v by rw[hx1];exact aC 10 (by kernel_rfl)),trivial⟩ hdf
  clear hsz hdf hrest aC hpt hs4 jD
  have mZ:=Lib.hid hx1;clear hx1
  replace hR:=hR.gn g1
  replace G:=aj G g1
  have mH:x1.Ok:=by rw[mZ.out];exact okN
  have hw4:w0.heap.size<=N4:=Nat.le_trans lI MX
  clear g1
  refine Fg.aV rfl rfl (Fg.run_store (cs:=aR x1) rfl rfl rfl (hb4.there 0 5 (by show 0+5<=5;decide)) aD (cB _)) ?_
  replace hR:=hR.au (C:=N4) (cs:=aR x1) 0 (by omega)
  replace hb4:aH (V1.setCells N4 0 (aR x1)) N4 54 (aR x1):=hb4.bC rfl
  replace G:=aG (cs:=aR x1) G (B:=N4) (hw4) 0
  revert hR hb4 G
  generalize V1.setCells N4 0 (aR x1)=W2
  intro hR hb4 G
  have G1x:=G
  go_upto_region 4 with (fail)
  have vO:=G.size
  have qU:=hR.lt
  have GV:=hb4.lt
  refine Fg.rP [] [.any,.any,.any,.any,.any,.any,.any,.any,.any,.any,.any,.val (x1.v),.row 141 (dh (Fe.m (x1))) 32 W2.heap.size,.val (Value.slice (some ⟨pb,po,none⟩) 32 c),.val (Value.bool false),.val (Value.bool true)] 5 ?_ ?_
  .refine Fg.vS rfl (by decide) (fun _ _ h=>Fg.vn x1.v (Fg.run_load rfl (h.r 4) ((hb4.gn h.base).range 0 (aR x1) rfl) Tryz.underlying54 rfl aD)) ?_
   refine Fg.cS rfl (by decide) (fun ac w h=>?_) ?_
   .have e11:_=x1.v:=h.d 11
    refine⟨aB rfl,94,#[x1.v],Fg.aN rfl rfl (by simp only[List.map_toArray,List.map_cons,List.map_nil,Act.eval,e11]) (Fg.aI Tryz.func94 (by kernel_rfl) (by kernel_rfl)),?_⟩
    exact (zu _ _ mH).mono fun _ _ ⟨NB,he,hg,hn,hb⟩=>⟨_,he,hg,⟨NB,rfl,Nat.le_trans h.base.size hn,hb⟩⟩
   refine Fg.vS rfl (by decide) (fun _ _ h=>Fg.vn _ (Fg.run_move rfl (h.r 0))) ?_
   refine Fg.cS rfl (by decide) (fun ac w h=>?_) ?_
   .obtain⟨Yc,e12,Sw,b12⟩:∃N,ac.tmps.getD 12 undef=.slice (some ⟨N,0,none⟩) 32 32/\W2.heap.size<=N/\aH w N 141 (dh (Fe.m (x1))):=h.dep 12 (by kernel_rfl)
    have e13:_=Value.slice (some ⟨pb,po,none⟩) 32 c:=h.d 13
    refine⟨aB rfl,17,#[Value.slice (some ⟨Yc,0,none⟩) 32 32,Value.slice (some ⟨pb,po,none⟩) 32 c],Fg.aN rfl rfl (by simp only[List.map_toArray,List.map_cons,List.map_nil,Act.eval,e12,e13]) (Fg.aI Tryz.func17 (by kernel_rfl) (by kernel_rfl)),?_⟩
    exact (MW _ pb po c _ _ F _ HF.out (Int.natCast_nonneg _) (Mt _) b12 (fun i hi=>by rw[bf (aj G1x h.base) (p:=⟨pb,po+i,none⟩) hB (by simp)];exact HC.out i hi) (by rw[mZ.out];exact HD.out)).mono fun _ _ ⟨he,hg⟩=>⟨_,he,hg,rfl⟩
   refine Fg.vS rfl (by decide) (fun ac w h=>?_) ?_
   .have e14:_=Value.bool false:=h.d 14
    refine⟨aB rfl,Value.bool true,w,?_,ah _ _,rfl⟩
    clear h
    simp only[execOp,Act.eval,e14]
    go_simp
   trivial
  .intro qa V3 g3 hsz hdf hrest aC hpt
   obtain⟨⟨u11,d9⟩,⟨u12,fJ⟩,⟨u13,dL⟩,⟨u14,dw⟩,_⟩:=Fg.bn qa [11,12,13,14]
   obtain rfl:=Fg.aQ [11,12,13,14,15] (vs:=[_,_,_,_,_,_,_,_,_,_,_,u11,u12,u13,u14,Value.bool true,_,_]) hsz hrest (by kernel_rfl) rfl rfl ⟨d9,fJ,dL,dw,(show qa.tmps.getD 15 undef=Value.bool true from aC 15 (by kernel_rfl)),trivial⟩ hdf
   clear hsz hdf hrest aC hpt d9 fJ dL dw
   replace hR:=hR.gn g3
   replace hb4:=hb4.gn g3
   replace G:=aj G g3
   clear g3
   go_upto_region 5 with (fail)
   have UZ:=G.size
   have uy:=hR.lt
   have DK:=hb4.lt
   refine Fg.rP [] [.any,.any,.any,.any,.any,.any,.any,.any,.any,.any,.any,.any,.any,.any,.any,.any,.val (Fe.bI.v)] 1 ?_ ?_
   .refine Fg.vS rfl (by decide) (fun ac w h=>?_) ?_
    .exact Fg.vn Fe.bI.v (Fg.run_build (vs:=#[]) rfl (by simp) (by kernel_rfl))
    trivial
   .intro qa V4 g4 hsz hdf hrest aC hpt
    obtain rfl:=Fg.aQ [16] (vs:=[_,_,_,_,_,_,_,_,_,_,_,_,_,_,_,_,Fe.bI.v,_]) hsz hrest (by kernel_rfl) rfl rfl ⟨(show qa.tmps.getD 16 undef=Fe.bI.v from aC 16 (by kernel_rfl)),trivial⟩ hdf
    clear hsz hdf hrest aC hpt
    replace hR:=hR.gn g4
    replace hb4:=hb4.gn g4
    replace G:=aj G g4
    clear g4
    refine Fg.aV rfl rfl (Fg.run_store (cs:=aR Fe.bI) rfl rfl rfl (hR.there 0 5 (by show 0+5<=5;decide)) aD (cB _)) ?_
    replace hR:aH (V4.setCells w0.heap.size 0 (aR Fe.bI)) w0.heap.size 54 (aR Fe.bI):=hR.bC rfl
    replace hb4:=hb4.au (C:=w0.heap.size) (cs:=aR Fe.bI) 0 (by omega)
    replace G:=aG (cs:=aR Fe.bI) G (B:=w0.heap.size) (by omega) 0
    revert hR hb4 G
    generalize V4.setCells w0.heap.size 0 (aR Fe.bI)=W5
    intro hR hb4 G
    go_wp2_with fail
    exact bodyPost_ret (v:=.tuple #[Fe.bI.v,.bool false]) (dn Tryz.results100 _ _ w0.heap.size 54 (aR Fe.bI).toArray (0,0) _ rfl hR Tryz.underlying54 rfl aD rfl) rfl ⟨rfl,G⟩
end
section
open Go.RowKit Ow Ed
set_option maxRecDepth 100000 in
set_option maxHeartbeats 1600000 in
theorem sW (B pb po n c:Nat) (l:List Nat) (w:World) (hn:l.length=n) (hn0:0<n) (hn1:n<=1000000) (hP:BytesAt w B (some ⟨pb,po,none⟩) c l):
  Calls Tryz.prog 21 #[.slice (some ⟨pb,po,none⟩) n c] w fun e w'=>∃g c',e=.returned (.slice (some ⟨g,0,none⟩) n c')/\w'.ownsRow w.heap.size 5 1 (.slice (some ⟨g,0,none⟩) n c') n (l.map dD)/\w.grownBy w' none:=by
 have hb0:=aH.new w [] 5
 have ho0:=J3 (base:=w.heap.size) hb0 rfl (Nat.le_refl _) (by decide)
 have hP1:=hP.kept (World.grownBy_alloc w (.cells #[] 5) none) (by simp)
 obtain⟨v',w',hap,ho,hg⟩:=nD (w.alloc (.cells #[] 5)) w.heap.size 0 B c n (.slice (some ⟨w.heap.size,0,none⟩) 0 0) [] (some ⟨pb,po,none⟩) l ho0 hn hP1 (by omega) (by simp)
 have hg1:=aW (av (ah w none) (.cells #[] 5)) hg (Nat.le_refl _)
 rw[Nat.zero_add,List.nil_append]at ho
 obtain⟨g,c',rfl,_⟩:=sw ho hn0
 have H:=Lib.hid (And.intro hap (And.intro ho hg1));clear hap ho hg hg1 hb0 ho0 hP1 hP hn
 have hq:=fun wx=>Lib.run_eql_slice_nil (P:=Tryz.prog) wx 22 5 (some ⟨pb,po,none⟩) n c 0 0 Tryz.underlying22
 go_enter Tryz.func21,Tryz.ntmps21
 go_wp2_with (at_builtin;refine wpList_append_run rfl (.tmp 5) (.tmp 6) 22 rfl rfl _ _ rfl rfl _ _ H.out.1 ?_)
 go_ret
 exact⟨g,c',rfl,H.out.2.1,H.out.2.2⟩
end
end Go.Proofs.YtmijliomjpphkaaGreatDoor
