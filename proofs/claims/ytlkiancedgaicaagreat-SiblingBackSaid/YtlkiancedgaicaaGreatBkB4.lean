/- texts merged, part 4: XSbUpper XSbTry XSbJoin XSbRight XSbPutNil XSbAwake XSbGetM XSbBytes XSbPut XSbReadM XWiTake XWiWord XWiTry XWiTryAll XWiRead XWiCalls XRcReadDot XRcRead XBytesEq XRcGet XWiDone XSbRead XSbGet -/
import Derived.Test.YtlkiancedgaicaaGreatBkB2
import Derived.Test.YtlkiancedgaicaaGreatBkB3
import Derived.Defers
import Derived.Recover
import Derived.Test.YtlkiancedgaicaaGreatBkB1
import Derived.LaidEqlPtr
import Derived.Deep.Cut
import Derived.Deep.RegionWith
import Derived.Outline
import Derived.Shelf.Bytes.SlEqualAll
/- uppermost: the records that none other one is over, in memory of their own. -/
namespace Go.Proofs.YtlkiancedgaicaaGreat
open Go.RowKit Ow Wi Ve Rc
namespace Sb
theorem ROwn.beside {w w' : World} {base T : Nat} {q : L} {r : R} (h : ROwn w base q r) (hg : w.grownBy w' (some T)) (hT : T < base) : ROwn w' base q r :=
  ⟨h.str, h.dots.kept hg (Or.inr fun e => by have := (h.dots.lt _ e).1; omega), h.val.kept hg (Or.inr fun e => by have := (h.val.lt _ e).1; omega), h.sig.kept hg (Or.inr fun e => by have := (h.sig.lt _ e).1; omega), h.vb, h.sb, h.top⟩
theorem rown_app {w w' : World} {base b : Nat} {v : Value} {l : List E} {q : L} {r : R} (ho : OwnR w base v l) (h : ROwn w b q r) (hg : w.grownBy w' v.ownBlock) : ROwn w' b q r := by
  rcases ho.2 with ⟨rfl, _⟩ | ⟨g, c, cur, rfl, _, hh, _⟩
  · exact h.stay hg
  · have hb : Blk w g 66 cur.toList := by unfold Blk; rw [hh]
    exact h.other hb (by decide) (by decide) hg
theorem ROwn.mono {w : World} {b b' : Nat} {q : L} {r : R} (h : ROwn w b q r) (hb : b' ≤ b) : ROwn w b' q r :=
  ⟨h.str, own_mono h.dots hb, own_mono h.val hb, own_mono h.sig hb, h.vb, h.sb, h.top⟩
/-- a row of one's own of records whose parts are one's own -/
def OwnAll (w : World) (base : Nat) (v : Value) (l : List E) : Prop := OwnR w base v l ∧ ∀ x ∈ l, ROwn w base x.1 x.2
theorem OwnAll.stay {w w' : World} {base : Nat} {v : Value} {l : List E} (h : OwnAll w base v l) (hg : w.grownBy w' none) : OwnAll w' base v l :=
  ⟨h.1.kept hg (by cases v.ownBlock <;> simp), fun x hx => (h.2 x hx).stay hg⟩
theorem OwnAll.beside {w w' : World} {base T : Nat} {v : Value} {l : List E} (h : OwnAll w base v l) (hg : w.grownBy w' (some T)) (hT : T < base) : OwnAll w' base v l :=
  ⟨h.1.kept hg (Or.inr fun e => by have := (h.1.lt _ e).1; omega), fun x hx => ROwn.beside (h.2 x hx) hg hT⟩
theorem OwnAll.mono {w : World} {b b' : Nat} {v : Value} {l : List E} (h : OwnAll w b v l) (hb : b' ≤ b) : OwnAll w b' v l :=
  ⟨own_mono h.1 hb, fun x hx => ROwn.mono (h.2 x hx) hb⟩
theorem OwnAll.row {w : World} {base : Nat} {v : Value} {l : List E} (h : OwnAll w base v l) : ∃ a c, v = .slice a l.length c ∧ l.length ≤ c ∧ c ≤ maxLen ∧ RRow w w.heap.size a l := own_recs h.1 fun x hx => (h.2 x hx).at
def UpOut (w : World) (u : List E) (e : Ending) (w' : World) : Prop := ∃ v out, e = .returned v ∧ recs out = topF (recs u) ∧ OwnAll w' w.heap.size v out ∧ w.grownBy w' none
theorem recs_take (l : List E) (k : Nat) (h : k < l.length) : recs (l.take (k + 1)) = recs (l.take k) ++ [(l.getD k e0).2] := take_next (fun x : E => x.2) l k e0 h
set_option maxHeartbeats 2000000 in
set_option maxRecDepth 100000 in
theorem upper_any (B n c : Nat) (a : Option Addr) (u : List E) (w : World) (hn : u.length = n) (h : RRow w B a u) (hc : n ≤ 1000000) (hcx : ∀ r ∈ recs u, Rt 0 r.cx) (hsz : ∀ x ∈ u, x.1.n1 ≤ 1000000 ∧ x.1.n2 ≤ 1000000 ∧ x.1.n3 ≤ 1000000) :
    Calls Tryz.prog 73 #[.agg #[.slice a n c]] w (UpOut w u) := by
  have H := Lib.hid (And.intro h (And.intro hn (And.intro hcx hsz))); clear h hn hcx hsz
  obtain ⟨Q, hQ⟩ : ∃ Q, Q = UpOut w u := ⟨_, rfl⟩
  rw [← hQ]
  have HQ := Lib.hid hQ; clear hQ
  obtain ⟨w1, hw1⟩ : ∃ w1, w1 = w.alloc (.cells #[.slice a n c] 115) := ⟨_, rfl⟩
  obtain ⟨ub, hub⟩ : ∃ ub, ub = w.heap.size := ⟨_, rfl⟩
  have hg1 : w.grownBy w1 none := by rw [hw1]; exact gb_alloc (gb_refl _ _) _
  have hb1 : Blk w1 ub 115 [.slice a n c] := by rw [hw1]; exact blk_at _ _ _ hub.symm
  have HU := Lib.hid (under_any B n c a u w1 H.out.2.1 (H.out.1.stay hg1) hc)
  have x0 := hb1.cell (i := 0) rfl
  have HG1 := Lib.hid (And.intro hg1 hb1); clear hg1 hb1
  go_enter Tryz.func73, Tryz.ntmps73
  go_wp2_with fail
  rw [← hw1, ← hub]
  clear hw1 hub
  refine HU.out.mono ?_
  rintro e w2 ⟨N, rfl, hg, hU⟩
  have hg2 := gb_trans HG1.out.1 hg
  have hb2 := HG1.out.2.grown hg (by simp)
  have y0 := hb2.cell (i := 0) rfl
  have HG2 := Lib.hid (And.intro hg2 (And.intro hb2 hU)); clear hg hU hg2 hb2 x0
  have HSY := Lib.hid (fun w' (hg : w2.grownBy w' none) x => says_any N u x w' (HG2.out.2.2.stay hg) H.out.2.2.1)
  go_wp2_with fail
  go_loopw [2, 12] (fun v i wr => ∃ (k : Nat), k ≤ n ∧ i = .int .i64 k ∧ Hid (w2.grownBy wr none ∧ ∃ out : List E, out.length ≤ k ∧ recs out = (recs (u.take k)).filter (fun r => !underB (recs u) r) ∧ OwnAll wr w2.heap.size v out)) (fun _ i _ => n - (intOf i).toNat)
  case atStart => exact ⟨0, by omega, rfl, gb_refl _ _, [], by simp, by simp [recs], World.ownsRow_nil _ _ _ _, fun x hx => by cases hx⟩
  case round =>
    obtain ⟨k, hk, rfl, HI⟩ := hrel
    by_cases hlt : k < n
    · have hkl : k < u.length := by rw [H.out.2.1]; exact hlt
      obtain ⟨pb, po, rfl, hpb, hcs⟩ := (H.out.1.stay (gb_trans HG2.out.1 HI.out.1)).at (by omega)
      have hx := hcs k hkl
      have hra := (H.out.1.stay (gb_trans HG2.out.1 HI.out.1)).recs _ (getD_mem hkl)
      have hxs := H.out.2.2.2 _ (getD_mem hkl)
      have hrt := recs_take u k hkl
      have HS1 := Lib.hid (fun w' (hg : w2.grownBy w' none) => HSY.out w' hg (u.getD k e0))
      generalize u.getD k e0 = x at *
      have HAP := Lib.hid (fun w' (hg : wr.grownBy w' none) => apart_any x B w' (hra.stay hg) hxs)
      obtain ⟨b, hb⟩ : ∃ b, underB (recs u) x.2 = b := ⟨_, rfl⟩
      rw [hb] at HS1
      have HF : Hid ((recs (u.take (k + 1))).filter (fun r => !underB (recs u) r) = (recs (u.take k)).filter (fun r => !underB (recs u) r) ++ if b then [] else [x.2]) := by
        show _ = _
        rw [hrt, List.filter_append]
        congr 1
        rw [List.filter_cons, hb]
        cases b <;> rfl
      clear hra hxs hrt hb hcs
      have HXV : Hid (recV x = recV x) := rfl
      obtain ⟨⟨s, a1, n1, c1, a2, n2, c2, a3, n3, c3⟩, ⟨key, cl, sq, cx, g, val, sig⟩⟩ := x
      obtain ⟨c0', c1', c2', c3', c4', c5', c6'⟩ := cells_of hx
      have hgA := gb_alloc (gb_refl wr none) (.cells #[.string s, iV cl, iV sq, .slice a1 n1 c1, .bool g, .slice a2 n2 c2, .slice a3 n3 c3] 66)
      obtain ⟨w3, hw3⟩ : ∃ w3, w3 = wr.alloc (.cells #[.string s, iV cl, iV sq, .slice a1 n1 c1, .bool g, .slice a2 n2 c2, .slice a3 n3 c3] 66) := ⟨_, rfl⟩
      obtain ⟨M, hM⟩ : ∃ M, M = wr.heap.size := ⟨_, rfl⟩
      have hbM : Blk w3 M 66 [.string s, iV cl, iV sq, .slice a1 n1 c1, .bool g, .slice a2 n2 c2, .slice a3 n3 c3] := by rw [hw3]; exact blk_at _ _ _ hM.symm
      rw [← hw3] at hgA
      have HG3 := Lib.hid (And.intro hgA hbM); clear hgA hbM hx HXV
      replace HS1 : Hid (∀ w', w2.grownBy w' none → Calls Tryz.prog 186 #[vV s cl sq a1 n1 c1 g a2 n2 c2 a3 n3 c3, .pointer (some ⟨N, 0, none⟩)] w' fun e w'' => e = .returned (.bool b) ∧ w'.grownBy w'' none) := HS1
      replace HAP : Hid (∀ w', wr.grownBy w' none → Calls Tryz.prog 132 #[vV s cl sq a1 n1 c1 g a2 n2 c2 a3 n3 c3] w' (CpOut w' ⟨key, cl, sq, cx, g, val, sig⟩)) := HAP
      have hi : (k : Int) < (n : Int) := by omega
      go_wp2_with fail
      rw [← hw3, ← hM]
      clear hw3 hM c0' c1' c2' c3' c4' c5' c6'
      refine (HS1.out w3 (gb_trans HI.out.1 HG3.out.1)).mono ?_
      rintro e w4 ⟨rfl, hg4⟩
      have hbM := HG3.out.2.grown hg4 (by simp)
      have m0 := hbM.cell (i := 0) rfl
      have m1 := hbM.cell (i := 1) rfl
      have m2 := hbM.cell (i := 2) rfl
      have m3 := hbM.cell (i := 3) rfl
      have m4 := hbM.cell (i := 4) rfl
      have m5 := hbM.cell (i := 5) rfl
      have m6 := hbM.cell (i := 6) rfl
      have HG4 := Lib.hid (gb_trans HG3.out.1 hg4); clear hg4 hbM
      cases b with
      | true =>
        obtain ⟨out, hol, hoe, hoo⟩ := HI.out.2
        have HE := Lib.hid (And.intro (gb_trans HI.out.1 HG4.out) (show ∃ out : List E, out.length ≤ k + 1 ∧ recs out = (recs (u.take (k + 1))).filter (fun r => !underB (recs u) r) ∧ OwnAll w4 w2.heap.size u2 out from ⟨out, by omega, by rw [HF.out, hoe]; simp, hoo.stay HG4.out⟩))
        clear hol hoe hoo
        go_wp2
        exact ⟨⟨k + 1, by omega, rfl, HE.out⟩, by show n - ((k : Int) + 1).toNat < n - (k : Int).toNat; omega⟩
      | false =>
        go_wp2_with fail
        refine (HAP.out w4 HG4.out).mono ?_
        rintro e w5 ⟨q, rfl, hg5, hro⟩
        obtain ⟨t, b1, e1, d1, b2, e2, d2, b3, e3, d3⟩ := q
        have HV : (L.mk t b1 e1 d1 b2 e2 d2 b3 e3 d3).v ⟨key, cl, sq, cx, g, val, sig⟩ = .agg #[.string t, iV cl, iV sq, .slice b1 e1 d1, .bool g, .slice b2 e2 d2, .slice b3 e3 d3] := rfl
        rw [HV]
        obtain ⟨out, hol, hoe, hoo⟩ := HI.out.2
        have hgw := gb_trans HG4.out hg5
        have hgx := gb_alloc hgw (.cells #[.string t, iV cl, iV sq, .slice b1 e1 d1, .bool g, .slice b2 e2 d2, .slice b3 e3 d3] 66)
        have hoo5 := hoo.stay hgx
        obtain ⟨v', w', hap, ho', hg'⟩ := append_recT 111 Tryz.underlying111 (w5.alloc (.cells #[.string t, iV cl, iV sq, .slice b1 e1 d1, .bool g, .slice b2 e2 d2, .slice b3 e3 d3] 66)) w2.heap.size u2 out w5.heap.size 0 1 ((⟨t, b1, e1, d1, b2, e2, d2, b3, e3, d3⟩, ⟨key, cl, sq, cx, g, val, sig⟩) : E) hoo5.1 (fun j z hz => by rw [Nat.zero_add]; exact (Blk.new w5 [.string t, iV cl, iV sq, .slice b1 e1 d1, .bool g, .slice b2 e2 d2, .slice b3 e3 d3] 66).cell hz) (by omega) (Nat.le_trans HI.out.1.size hgx.size)
        have hro' : ROwn w' w2.heap.size (L.mk t b1 e1 d1 b2 e2 d2 b3 e3 d3) ⟨key, cl, sq, cx, g, val, sig⟩ := rown_app hoo5.1 ((ROwn.mono hro (Nat.le_trans HI.out.1.size HG4.out.size)).stay (gb_alloc (gb_refl _ _) _)) hg'
        have hgo : w2.grownBy w' none := gb_ownR (gb_trans HI.out.1 hgx) hoo5.1 (Nat.le_refl _) hg'
        have HE : Hid (w2.grownBy w' none ∧ ∃ out : List E, out.length ≤ k + 1 ∧ recs out = (recs (u.take (k + 1))).filter (fun r => !underB (recs u) r) ∧ OwnAll w' w2.heap.size v' out) := by
          refine ⟨hgo, out ++ [((⟨t, b1, e1, d1, b2, e2, d2, b3, e3, d3⟩, ⟨key, cl, sq, cx, g, val, sig⟩) : E)], by simp; omega, ?_, ho', fun y hy => ?_⟩
          · rw [HF.out, ← hoe]; simp [recs]
          · rcases List.mem_append.1 hy with hy | hy
            · exact rown_app hoo5.1 (hoo5.2 y hy) hg'
            · rw [List.mem_singleton.1 hy]; exact hro'
        have HS : Hid (∃ a c, u2 = .slice a out.length c) := by
          obtain ⟨a, c, e⟩ := own_shapeR hoo.1
          exact ⟨a, c, e⟩
        clear hol hoe hoo hgw hgx hoo5 ho' hg' hro' hgo hro hg5 HV
        go_wp2_with (at_builtin; refine Lib.wpList_append_run _ rfl _ _ _ _ rfl _ _ rfl rfl _ _ hap ?_)
        exact ⟨⟨k + 1, by omega, rfl, HE.out⟩, by show n - ((k : Int) + 1).toNat < n - (k : Int).toNat; omega⟩
    · obtain rfl : k = n := by omega
      obtain ⟨out, hol, hoe, hoo⟩ := HI.out.2
      have HE : Hid (Q (.returned u2) wr) := by
        show Q _ _
        rw [HQ.out]
        refine ⟨u2, out, rfl, ?_, OwnAll.mono hoo HG2.out.1.size, gb_trans HG2.out.1 HI.out.1⟩
        rw [hoe, List.take_of_length_le (by rw [H.out.2.1]; exact Nat.le_refl _)]; rfl
      clear hlt hol hoe hoo
      go_wp2
      exact HE.out
end Sb
end Go.Proofs.YtlkiancedgaicaaGreat

/- try: what the call tells; where it panics, nothing, and the error. -/
namespace Go.Proofs.YtlkiancedgaicaaGreat
open Go.RowKit Ow Wi Ve Rc
namespace Sb
theorem smakeF : ∀ (fn : Fn) (first cap : Array Value) (w : World), (Instr.makeFunc fn first cap).run Tryz.prog w = .ok (.func fn first cap) w := fun _ _ _ _ => rfl
/-- the world with the error's box -/
abbrev ebox (w : World) : World := w.alloc (.cells #[.int .i64 0] 51)
theorem ebox_gb (w : World) : w.grownBy (ebox w) none := gb_alloc (gb_refl _ _) _
theorem ebox_size (w : World) : (ebox w).heap.size = w.heap.size + 1 := by simp
theorem ebox_blk (w : World) : Blk (ebox w) w.heap.size 51 [.int .i64 0] := Blk.new w _ _
theorem scaughtR (N : Nat) (x : Value) (u : TypeId) (pv : Value) (older : List PanicEntry) (w : World) (hb : Blk w N 51 [x]) :
    CallsD Tryz.prog 125 #[.pointer (some ⟨N, 0, none⟩)] (.panicking ({ v := .iface u pv, recovered := false } :: older)) w fun e u' w' =>
      e = .returned (.tuple #[]) ∧ u' = .panicking ({ v := .iface u pv, recovered := true } :: older) ∧ w.grownBy w' (some N) ∧ Blk w' N 51 [.int .i64 4] := by
  have c0 := hb.cell (i := 0) rfl
  have f0 := hb.free 0
  refine callsD_of_wpS Tryz.func125 rfl fun c₀ cs hu => ?_
  apply wpS_seq
  apply wpS_region
  simp [wpOpsS, go_sem, recoverD, hu, Tryz.ntmps125, Exit.thenS]
  refine wpS_cond (t := true) (by simp [Act.eval, Array.replicate]) ?_
  simp only [if_true]
  refine wpS_of_wp ?_
  go_wp2
  exact ⟨rfl, _, rfl, .tuple #[], results_none rfl _ _ _, rfl, rfl, gb_set (gb_refl _ _) 0 _, hb.set 0 _⟩
theorem sidleR (p : Addr) (w : World) :
    CallsD Tryz.prog 125 #[.pointer (some p)] .returning w fun e u' w' => e = .returned (.tuple #[]) ∧ u' = .returning ∧ w' = w := by
  refine callsD_of_wpS Tryz.func125 rfl fun c₀ cs hu => ?_
  apply wpS_seq
  apply wpS_region
  simp [wpOpsS, go_sem, recoverD, hu, Tryz.ntmps125, Exit.thenS]
  refine wpS_cond (t := false) (by simp [Act.eval, Array.replicate]) ?_
  simp only [Bool.false_eq_true, if_false]
  refine wpS_of_wp (wp_skip ?_)
  cases c₀
  simp_all [bodyPostS, results, Tryz.results125]
theorem stryR_yes (g : Nat) (first cap : Array Value) (w : World) (Q : Value → World → Prop)
    (eg : ∀ args w, (callFunc g args).run Tryz.prog w = .ok (.enter g args) w)
    (hin : Calls Tryz.prog g (first ++ #[] ++ cap) (ebox w) fun e w' => ∃ x, e = .returned x ∧ (ebox w).grownBy w' none ∧ Q x w') :
    Calls Tryz.prog 70 #[.func (.func g) first cap] w fun e w' => ∃ x w2, e = .returned (.tuple #[x, .int .i64 0]) ∧ (ebox w).grownBy w2 none ∧ Q x w2 ∧ w' = w2.setCell ⟨w.heap.size, 0, none⟩ (.int .i64 0) := by
  have HI := Lib.hid hin; clear hin
  have hmf := smakeF
  go_enter_defers Tryz.func70, Tryz.ntmps70
  go_wp2_with (fail)
  refine HI.out.mono ?_
  rintro e w2 ⟨x, rfl, hg, hq⟩
  have HQ := Lib.hid (And.intro hg hq)
  have hb := (ebox_blk w).grown hg (by simp)
  have c0 := hb.cell (i := 0) rfl
  have f0 := hb.free 0
  have HB := Lib.hid (hb.set 0 (.int .i64 0))
  clear hg hq hb
  go_wp2_with (fail)
  refine leaves_cons (f := 125) (args := #[.pointer (some ⟨w.heap.size, 0, none⟩)]) (by simp) (by simp [go_sem]) ?_
  refine (sidleR _ _).mono ?_
  rintro e u' w'' ⟨rfl, rfl, rfl⟩
  have c1 := HB.out.cell (i := 0) rfl
  simp [Leaves, settle, results, Tryz.results70, go_sem, loadVar, c1]
  exact ⟨w2, HQ.out.1, HQ.out.2, rfl⟩
theorem stryR_no (g : Nat) (first cap : Array Value) (w : World)
    (eg : ∀ args w, (callFunc g args).run Tryz.prog w = .ok (.enter g args) w)
    (hin : Calls Tryz.prog g (first ++ #[] ++ cap) (ebox w) fun e w' => Dies e ∧ (ebox w).grownBy w' none) :
    Calls Tryz.prog 70 #[.func (.func g) first cap] w fun e w' => e = .returned (.tuple #[.slice none 0 0, .int .i64 4]) ∧ w.grownBy w' none := by
  have HI := Lib.hid hin; clear hin
  have hmf := smakeF
  go_enter_defers Tryz.func70, Tryz.ntmps70
  go_wp2_with (fail)
  refine HI.out.mono ?_
  rintro e w2 ⟨⟨u, pv, rfl⟩, hg⟩
  have hb := (ebox_blk w).grown hg (by simp)
  have HQ := Lib.hid hg; clear hg
  refine leaves_cons (f := 125) (args := #[.pointer (some ⟨w.heap.size, 0, none⟩)]) (by simp) (by simp [go_sem]) ?_
  refine (scaughtR w.heap.size _ u pv [] w2 hb).mono ?_
  rintro e u' w'' ⟨rfl, rfl, hg3, hb3⟩
  have c1 := hb3.cell (i := 0) rfl
  simp [Leaves, settle, results, Tryz.results70, go_sem, loadVar, c1]
  exact gb_then (gb_trans (ebox_gb w) HQ.out) hg3 (Nat.le_refl _)
theorem scaughtB (N : Nat) (x : Value) (u : TypeId) (pv : Value) (older : List PanicEntry) (w : World) (hb : Blk w N 51 [x]) :
    CallsD Tryz.prog 141 #[.pointer (some ⟨N, 0, none⟩)] (.panicking ({ v := .iface u pv, recovered := false } :: older)) w fun e u' w' =>
      e = .returned (.tuple #[]) ∧ u' = .panicking ({ v := .iface u pv, recovered := true } :: older) ∧ w.grownBy w' (some N) ∧ Blk w' N 51 [.int .i64 4] := by
  have c0 := hb.cell (i := 0) rfl
  have f0 := hb.free 0
  refine callsD_of_wpS Tryz.func141 rfl fun c₀ cs hu => ?_
  apply wpS_seq
  apply wpS_region
  simp [wpOpsS, go_sem, recoverD, hu, Tryz.ntmps141, Exit.thenS]
  refine wpS_cond (t := true) (by simp [Act.eval, Array.replicate]) ?_
  simp only [if_true]
  refine wpS_of_wp ?_
  go_wp2
  exact ⟨rfl, _, rfl, .tuple #[], results_none rfl _ _ _, rfl, rfl, gb_set (gb_refl _ _) 0 _, hb.set 0 _⟩
theorem sidleB (p : Addr) (w : World) :
    CallsD Tryz.prog 141 #[.pointer (some p)] .returning w fun e u' w' => e = .returned (.tuple #[]) ∧ u' = .returning ∧ w' = w := by
  refine callsD_of_wpS Tryz.func141 rfl fun c₀ cs hu => ?_
  apply wpS_seq
  apply wpS_region
  simp [wpOpsS, go_sem, recoverD, hu, Tryz.ntmps141, Exit.thenS]
  refine wpS_cond (t := false) (by simp [Act.eval, Array.replicate]) ?_
  simp only [Bool.false_eq_true, if_false]
  refine wpS_of_wp (wp_skip ?_)
  cases c₀
  simp_all [bodyPostS, results, Tryz.results141]
theorem stryB_yes (g : Nat) (first cap : Array Value) (w : World) (Q : Value → World → Prop)
    (eg : ∀ args w, (callFunc g args).run Tryz.prog w = .ok (.enter g args) w)
    (hin : Calls Tryz.prog g (first ++ #[] ++ cap) (ebox w) fun e w' => ∃ x, e = .returned x ∧ (ebox w).grownBy w' none ∧ Q x w') :
    Calls Tryz.prog 82 #[.func (.func g) first cap] w fun e w' => ∃ x w2, e = .returned (.tuple #[x, .int .i64 0]) ∧ (ebox w).grownBy w2 none ∧ Q x w2 ∧ w' = w2.setCell ⟨w.heap.size, 0, none⟩ (.int .i64 0) := by
  have HI := Lib.hid hin; clear hin
  have hmf := smakeF
  go_enter_defers Tryz.func82, Tryz.ntmps82
  go_wp2_with (fail)
  refine HI.out.mono ?_
  rintro e w2 ⟨x, rfl, hg, hq⟩
  have HQ := Lib.hid (And.intro hg hq)
  have hb := (ebox_blk w).grown hg (by simp)
  have c0 := hb.cell (i := 0) rfl
  have f0 := hb.free 0
  have HB := Lib.hid (hb.set 0 (.int .i64 0))
  clear hg hq hb
  go_wp2_with (fail)
  refine leaves_cons (f := 141) (args := #[.pointer (some ⟨w.heap.size, 0, none⟩)]) (by simp) (by simp [go_sem]) ?_
  refine (sidleB _ _).mono ?_
  rintro e u' w'' ⟨rfl, rfl, rfl⟩
  have c1 := HB.out.cell (i := 0) rfl
  simp [Leaves, settle, results, Tryz.results82, go_sem, loadVar, c1]
  exact ⟨w2, HQ.out.1, HQ.out.2, rfl⟩
theorem stryB_no (g : Nat) (first cap : Array Value) (w : World)
    (eg : ∀ args w, (callFunc g args).run Tryz.prog w = .ok (.enter g args) w)
    (hin : Calls Tryz.prog g (first ++ #[] ++ cap) (ebox w) fun e w' => Dies e ∧ (ebox w).grownBy w' none) :
    Calls Tryz.prog 82 #[.func (.func g) first cap] w fun e w' => e = .returned (.tuple #[.slice none 0 0, .int .i64 4]) ∧ w.grownBy w' none := by
  have HI := Lib.hid hin; clear hin
  have hmf := smakeF
  go_enter_defers Tryz.func82, Tryz.ntmps82
  go_wp2_with (fail)
  refine HI.out.mono ?_
  rintro e w2 ⟨⟨u, pv, rfl⟩, hg⟩
  have hb := (ebox_blk w).grown hg (by simp)
  have HQ := Lib.hid hg; clear hg
  refine leaves_cons (f := 141) (args := #[.pointer (some ⟨w.heap.size, 0, none⟩)]) (by simp) (by simp [go_sem]) ?_
  refine (scaughtB w.heap.size _ u pv [] w2 hb).mono ?_
  rintro e u' w'' ⟨rfl, rfl, hg3, hb3⟩
  have c1 := hb3.cell (i := 0) rfl
  simp [Leaves, settle, results, Tryz.results82, go_sem, loadVar, c1]
  exact gb_then (gb_trans (ebox_gb w) HQ.out) hg3 (Nat.le_refl _)
end Sb
end Go.Proofs.YtlkiancedgaicaaGreat

/- Join: what sets are, joined. -/
namespace Go.Proofs.YtlkiancedgaicaaGreat
open Go.RowKit Ow Wi Ve Rc
namespace Sb
theorem join_eq {F l' : List E} (h : alikeB (recs F) = true) (hp : l'.Perm F) (hs : l'.Pairwise (fun a b => lessD b.2 a.2 = false)) : topF (recs (uniG dotR l')) = joinL (recs F) := by
  have e : recs (uniG dotR l') = uniG id (recs l') := uniG_map dotR l'
  rw [e]
  symm
  refine join_is (fun x hx => ((alike_iff _).1 h x hx).1) (fun x => ?_) ?_
  · constructor
    · intro hx; obtain ⟨y, hy, rfl⟩ := List.mem_map.1 hx; exact List.mem_map.2 ⟨y, hp.mem_iff.1 hy, rfl⟩
    · intro hx; obtain ⟨y, hy, rfl⟩ := List.mem_map.1 hx; exact List.mem_map.2 ⟨y, hp.mem_iff.2 hy, rfl⟩
  · exact List.pairwise_map.2 hs
def JoinIn (w : World) (F : List E) (e : Ending) (w' : World) : Prop :=
  (alikeB (recs F) = true ∧ (∃ (v : Value) (out : List E), e = .returned v ∧ recs out = joinL (recs F) ∧ OwnAll w' w.heap.size v out) ∨ alikeB (recs F) = false ∧ Dies e) ∧ w.grownBy w' none
set_option maxHeartbeats 1000000 in
theorem join1_any (m cap B N : Nat) (S : List (List E)) (a : Option Addr) (w : World) (hm : S.length = m) (hS : SRow w B a S) (hm2 : m < 9223372036854775808) (hlen : S.flatten.length ≤ 1000000) (hsz : ∀ x ∈ S.flatten, x.1.n1 ≤ 1000000 ∧ x.1.n2 ≤ 1000000 ∧ x.1.n3 ≤ 1000000) (hN : w.cell? ⟨N, 0, none⟩ = some (.slice a m cap)) :
    Calls Tryz.prog 71 #[.pointer (some ⟨N, 0, none⟩)] w (JoinIn w S.flatten) := by
  obtain ⟨Q, hQ⟩ : ∃ Q, Q = JoinIn w S.flatten := ⟨_, rfl⟩
  rw [← hQ]
  have HQ := Lib.hid hQ; clear hQ
  have hrec := hS.recs
  have HU := Lib.hid (unite_any m cap B S a w hm hS hm2 hlen)
  have HR := Lib.hid (And.intro hrec (And.intro hsz hlen)); clear hrec hsz hS hm hlen
  generalize S.flatten = F at *
  go_enter Tryz.func71, Tryz.ntmps71
  go_wp2_with fail
  refine HU.out.mono ?_
  rintro e w2 ⟨⟨hal, v, l', rfl, hp, hs, ho⟩ | ⟨hal, ⟨u, pv, rfl⟩⟩, hg⟩
  · obtain ⟨hsub, hul⟩ := uniG_sub l' l'.length (Nat.le_refl _)
    rw [List.take_length] at hsub hul
    have hmem : ∀ x ∈ uniG dotR l', x ∈ F := fun x hx => hp.mem_iff.1 (hsub x hx)
    have hll := hp.length_eq
    obtain ⟨au, cu, rfl, _, _, hR2⟩ := own_recs ho (fun x hx => ((HR.out.1 x (hmem x hx)).stay hg).full)
    have hcx : ∀ r ∈ recs (uniG dotR l'), Rt 0 r.cx := fun r hr => by
      obtain ⟨x, hx, rfl⟩ := List.mem_map.1 hr
      exact alike_cx hal x.2 (List.mem_map.2 ⟨x, hmem x hx, rfl⟩)
    have HP := Lib.hid (upper_any w2.heap.size (uniG dotR l').length cu au (uniG dotR l') w2 rfl hR2 (by have := HR.out.2.2; omega) hcx (fun x hx => HR.out.2.1 x (hmem x hx)))
    have HJ := Lib.hid (And.intro hal (And.intro hg (join_eq hal hp hs)))
    clear hsub hul hmem hcx hR2 hal hg hp hs ho hll
    go_wp2_with fail
    refine HP.out.mono ?_
    rintro e w3 ⟨v, out, rfl, hout, hoo, hg3⟩
    have HE : Hid (Q (.returned v) w3) := by
      show Q _ _
      rw [HQ.out]
      exact ⟨Or.inl ⟨HJ.out.1, v, out, rfl, hout.trans HJ.out.2.2, OwnAll.mono hoo HJ.out.2.1.size⟩, gb_trans HJ.out.2.1 hg3⟩
    clear hout hoo hg3
    go_wp2
    exact HE.out
  · exact ⟨rfl, by rw [HQ.out]; exact ⟨Or.inr ⟨hal, ⟨u, pv, rfl⟩⟩, hg⟩⟩
theorem enter_join1 : ∀ args w, (callFunc 71 args).run Tryz.prog w = .ok (.enter 71 args) w := enters_of Tryz.func71 (by kernel_rfl) rfl
/-- what Join tells -/
def joinO (l : List R) : List R := if alikeB l then joinL l else []
def JoinedAt (w : World) (F : List E) (e : Ending) (w' : World) : Prop :=
  ∃ (v : Value) (out : List E), e = .returned (.tuple #[v, .int .i64 (errN (alikeB (recs F)) 4)]) ∧ recs out = joinO (recs F) ∧ OwnAll w' w.heap.size v out ∧ w.grownBy w' none
set_option maxHeartbeats 1000000 in
theorem sjoin_any (m cap B : Nat) (S : List (List E)) (a : Option Addr) (w : World) (hm : S.length = m) (hS : SRow w B a S) (hm2 : m < 9223372036854775808) (hlen : S.flatten.length ≤ 1000000) (hsz : ∀ x ∈ S.flatten, x.1.n1 ≤ 1000000 ∧ x.1.n2 ≤ 1000000 ∧ x.1.n3 ≤ 1000000) :
    Calls Tryz.prog 37 #[.slice a m cap] w (JoinedAt w S.flatten) := by
  obtain ⟨w1, hw1⟩ : ∃ w1, w1 = w.alloc (.cells #[.slice a m cap] 55) := ⟨_, rfl⟩
  obtain ⟨N, hN⟩ : ∃ N, N = w.heap.size := ⟨_, rfl⟩
  have hg1 : w.grownBy w1 none := by rw [hw1]; exact gb_alloc (gb_refl _ _) _
  have hb1 : Blk w1 N 55 [.slice a m cap] := by rw [hw1]; exact blk_at _ _ _ hN.symm
  have hj := join1_any m cap B N S a (ebox w1) hm (hS.stay (gb_trans hg1 (ebox_gb w1))) hm2 hlen hsz ((hb1.grown (ebox_gb w1) (by simp)).cell (i := 0) rfl)
  have hmf := smakeF
  cases hal : alikeB (recs S.flatten) with
  | true =>
    have HT := Lib.hid (stryR_yes 71 #[] #[.pointer (some ⟨N, 0, none⟩)] w1 (fun v w' => ∃ out, recs out = joinL (recs S.flatten) ∧ OwnAll w' (ebox w1).heap.size v out) enter_join1 (hj.mono fun e w' ⟨ho, hg⟩ => by
      rcases ho with ⟨_, v, out, rfl, h1, h2⟩ | ⟨h1, _⟩
      · exact ⟨v, rfl, hg, out, h1, h2⟩
      · rw [hal] at h1; cases h1))
    have HG := Lib.hid hg1; clear hj hg1 hb1 hS hm hlen hsz
    have HE : Hid (∀ (v : Value) (out : List E) (w' : World), recs out = joinL (recs S.flatten) → OwnAll w' w.heap.size v out → w.grownBy w' none → JoinedAt w S.flatten (.returned (.tuple #[v, .int .i64 0])) w') := fun v out w' h1 h2 h3 => ⟨v, out, by rw [hal]; rfl, by unfold joinO; rw [hal]; exact h1, h2, h3⟩
    generalize JoinedAt w S.flatten = Q at *
    clear hal
    go_enter Tryz.func37, Tryz.ntmps37
    go_wp2_with fail
    rw [← hw1, ← hN]
    clear hw1 hN
    refine HT.out.mono ?_
    rintro e w' ⟨v, w2, rfl, hg, ⟨out, h1, h2⟩, rfl⟩
    have hes := ebox_size w1
    have hs := gb_set (gb_refl w2 (some w1.heap.size)) 0 (.int .i64 0)
    have HF := Lib.hid (HE.out v out _ h1 (OwnAll.mono (OwnAll.beside h2 hs (by omega)) (by have := HG.out.size; omega)) (gb_then (gb_trans (gb_trans HG.out (ebox_gb w1)) hg) hs HG.out.size))
    clear h1 h2 hg hs hes
    generalize w2.setCell ⟨w1.heap.size, 0, none⟩ (.int .i64 0) = w3 at *
    go_wp2
    exact HF.out
  | false =>
    have HT := Lib.hid (stryR_no 71 #[] #[.pointer (some ⟨N, 0, none⟩)] w1 enter_join1 (hj.mono fun e w' ⟨ho, hg⟩ => by
      rcases ho with ⟨h1, _⟩ | ⟨_, h1⟩
      · rw [hal] at h1; cases h1
      · exact ⟨h1, hg⟩))
    have HG := Lib.hid hg1; clear hj hg1 hb1 hS hm hlen hsz
    have HE : Hid (∀ (w' : World), w.grownBy w' none → JoinedAt w S.flatten (.returned (.tuple #[.slice none 0 0, .int .i64 4])) w') := fun w' h3 => ⟨_, [], by rw [hal]; rfl, by unfold joinO; rw [hal]; rfl, ⟨World.ownsRow_nil _ _ _ _, fun x hx => by cases hx⟩, h3⟩
    generalize JoinedAt w S.flatten = Q at *
    clear hal
    go_enter Tryz.func37, Tryz.ntmps37
    go_wp2_with fail
    rw [← hw1, ← hN]
    clear hw1 hN
    refine HT.out.mono ?_
    rintro e w' ⟨rfl, hg⟩
    have HF := Lib.hid (HE.out w' (gb_trans HG.out hg)); clear hg
    go_wp2
    exact HF.out
end Sb
end Go.Proofs.YtlkiancedgaicaaGreat

/- Right: whether a row is a right set. -/
namespace Go.Proofs.YtlkiancedgaicaaGreat
open Go.RowKit Ow Wi Ve Rc
namespace Sb
theorem enter_checked : ∀ args w, (callFunc 84 args).run Tryz.prog w = .ok (.enter 84 args) w := enters_of Tryz.func84 (by kernel_rfl) rfl
set_option maxHeartbeats 1000000 in
theorem sright_any (B n c : Nat) (a : Option Addr) (l : List E) (w : World) (hn : l.length = n) (h : RRow w B a l) (hc : n ≤ 1000000) :
    Calls Tryz.prog 44 #[.slice a n c] w fun e w' => e = .returned (.bool (setB (recs l))) ∧ w.grownBy w' none := by
  have hmf := smakeF
  cases hs : setB (recs l) with
  | true =>
    have HT := Lib.hid (stryR_yes 84 #[.slice a n c] #[] w (fun _ _ => True) enter_checked ((checked_any B n c a l (ebox w) hn (h.stay (ebox_gb w)) hc).mono fun e w' ⟨ho, hg⟩ => by
      rcases ho with ⟨_, rfl⟩ | ⟨h1, _⟩
      · exact ⟨_, rfl, hg, trivial⟩
      · rw [hs] at h1; cases h1))
    clear h hs
    go_enter Tryz.func44, Tryz.ntmps44
    go_wp2_with fail
    refine HT.out.mono ?_
    rintro e w' ⟨x, w2, rfl, hg, _, rfl⟩
    have HG := Lib.hid (gb_then (gb_trans (ebox_gb w) hg) (gb_set (gb_refl w2 (some w.heap.size)) 0 (.int .i64 0)) (Nat.le_refl _) (row := none)); clear hg
    generalize w2.setCell ⟨w.heap.size, 0, none⟩ (.int .i64 0) = w3 at *
    go_wp2
    go_ret
    exact ⟨rfl, HG.out⟩
  | false =>
    have HT := Lib.hid (stryR_no 84 #[.slice a n c] #[] w enter_checked ((checked_any B n c a l (ebox w) hn (h.stay (ebox_gb w)) hc).mono fun e w' ⟨ho, hg⟩ => by
      rcases ho with ⟨h1, _⟩ | ⟨_, hd⟩
      · rw [hs] at h1; cases h1
      · exact ⟨hd, hg⟩))
    clear h hs
    go_enter Tryz.func44, Tryz.ntmps44
    go_wp2_with fail
    refine HT.out.mono ?_
    rintro e w' ⟨rfl, hg⟩
    have HG := Lib.hid hg; clear hg
    go_wp2
    go_ret
    exact ⟨rfl, HG.out⟩
end Sb
end Go.Proofs.YtlkiancedgaicaaGreat

/- Put of no record: eight noughts. -/
namespace Go.Proofs.YtlkiancedgaicaaGreat
open Go.RowKit Ow Wi Ve Rc
namespace Sb
set_option maxHeartbeats 1000000 in
theorem bytes_nil (w : World) : Calls Tryz.prog 85 #[.slice none 0 0] w fun e w' => ∃ v, e = .returned v ∧ w.grownBy w' none ∧ w'.ownsRow w.heap.size 5 1 v 8 ((encN 0).map u8N) := by
  have HN := Lib.hid (number_out 0 w)
  have he : (encN 0).length = 8 := encN_length 0
  have hfl : [encN 0].flatten = encN 0 := by simp
  obtain ⟨Q, hQ⟩ : ∃ Q : Ending → World → Prop, Q = fun e w' => ∃ v, e = .returned v ∧ w.grownBy w' none ∧ w'.ownsRow w.heap.size 5 1 v 8 ((encN 0).map u8N) := ⟨_, rfl⟩
  rw [← hQ]
  have HQ := Lib.hid hQ; clear hQ
  go_enter Tryz.func85, Tryz.ntmps85
  go_wp2_with fail
  refine HN.out.mono ?_
  rintro e w1 ⟨a, c, rfl, hg, hb⟩
  rw [he]
  have hr := rows1 he hb
  have hg1 := gb_alloc hg (.cells #[.slice a 8 c] 23)
  have HJ := Lib.hid (join_any 1 1 (w1.heap.size + 1) [encN 0] (some ⟨w1.heap.size, 0, none⟩) (w1.alloc (.cells #[.slice a 8 c] 23)) rfl hr (by decide) (by rw [hfl, he]; omega))
  rw [hfl, he] at HJ
  have HG := Lib.hid hg1; clear hg1 hr hb hg
  go_wp2
  refine wp_loop_rounds 1 ?_
  rw [rounds_succ]
  go_wp2_with fail
  refine HJ.out.mono ?_
  rintro e w2 ⟨v, rfl, hg2, ho⟩
  have HE : Hid (Q (.returned v) w2) := by
    show Q _ _
    rw [HQ.out]
    exact ⟨v, rfl, gb_trans HG.out hg2, own_down ho HG.out.size⟩
  clear hg2 ho
  go_wp2
  exact HE.out
theorem enter_put1 : ∀ args w, (callFunc 83 args).run Tryz.prog w = .ok (.enter 83 args) w := enters_of Tryz.func83 (by kernel_rfl) rfl
set_option maxHeartbeats 1000000 in
theorem put1_nil (N : Nat) (w : World) (hN : w.cell? ⟨N, 0, none⟩ = some (.slice none 0 0)) : Calls Tryz.prog 83 #[.pointer (some ⟨N, 0, none⟩)] w fun e w' => ∃ v, e = .returned v ∧ w.grownBy w' none ∧ w'.ownsRow w.heap.size 5 1 v 8 ((encN 0).map u8N) := by
  have HC := Lib.hid (checked_any w.heap.size 0 0 none [] w rfl (rrow_nil w _ none (Nat.le_refl _)) (by decide))
  have hs : setB (recs []) = true := rfl
  go_enter Tryz.func83, Tryz.ntmps83
  go_wp2_with fail
  refine HC.out.mono ?_
  rintro e w1 ⟨⟨_, rfl⟩ | ⟨h1, _⟩, hg⟩
  · have HG := Lib.hid hg; clear hg
    have HB := Lib.hid (bytes_nil w1)
    go_wp2_with fail
    refine HB.out.mono ?_
    rintro e w2 ⟨v, rfl, hg2, ho⟩
    have HE := Lib.hid (And.intro (gb_trans HG.out hg2) (own_down ho HG.out.size)); clear hg2 ho
    go_wp2
    go_ret
    exact ⟨v, rfl, HE.out⟩
  · rw [hs] at h1; cases h1
set_option maxHeartbeats 1000000 in
theorem put_nil (w : World) : Calls Tryz.prog 42 #[.slice none 0 0] w fun e w' => ∃ v, e = .returned (.tuple #[v, .int .i64 0]) ∧ w.grownBy w' none ∧ w'.ownsRow w.heap.size 5 1 v 8 ((encN 0).map u8N) := by
  have hmf := smakeF
  obtain ⟨w1, hw1⟩ : ∃ w1, w1 = w.alloc (.cells #[.slice none 0 0] 48) := ⟨_, rfl⟩
  obtain ⟨N, hN⟩ : ∃ N, N = w.heap.size := ⟨_, rfl⟩
  have hg1 : w.grownBy w1 none := by rw [hw1]; exact gb_alloc (gb_refl _ _) _
  have hb1 : Blk w1 N 48 [.slice none 0 0] := by rw [hw1]; exact blk_at _ _ _ hN.symm
  have HT := Lib.hid (stryB_yes 83 #[] #[.pointer (some ⟨N, 0, none⟩)] w1 (fun v w' => w'.ownsRow (ebox w1).heap.size 5 1 v 8 ((encN 0).map u8N)) enter_put1 (put1_nil N (ebox w1) ((hb1.grown (ebox_gb w1) (by simp)).cell (i := 0) rfl)))
  have HG := Lib.hid hg1; clear hg1 hb1
  obtain ⟨Q, hQ⟩ : ∃ Q : Ending → World → Prop, Q = fun e w' => ∃ v, e = .returned (.tuple #[v, .int .i64 0]) ∧ w.grownBy w' none ∧ w'.ownsRow w.heap.size 5 1 v 8 ((encN 0).map u8N) := ⟨_, rfl⟩
  rw [← hQ]
  have HQ := Lib.hid hQ; clear hQ
  go_enter Tryz.func42, Tryz.ntmps42
  go_wp2_with fail
  rw [← hw1, ← hN]
  clear hw1 hN
  refine HT.out.mono ?_
  rintro e w' ⟨v, w2, rfl, hg, ho, rfl⟩
  have hes := ebox_size w1
  have hs := gb_set (gb_refl w2 (some w1.heap.size)) 0 (.int .i64 0)
  have HF : Hid (Q (.returned (.tuple #[v, .int .i64 0])) (w2.setCell ⟨w1.heap.size, 0, none⟩ (.int .i64 0))) := by
    show Q _ _
    rw [HQ.out]
    exact ⟨v, rfl, gb_then (gb_trans (gb_trans HG.out (ebox_gb w1)) hg) hs HG.out.size, own_down (ho.kept hs (Or.inr fun e => by have := (ho.lt _ e).1; omega)) (by have := HG.out.size; omega)⟩
  clear ho hg hs hes
  generalize w2.setCell ⟨w1.heap.size, 0, none⟩ (.int .i64 0) = w3 at *
  go_wp2
  exact HF.out
end Sb
end Go.Proofs.YtlkiancedgaicaaGreat

/- The law's own examples. -/
namespace Go.Proofs.YtlkiancedgaicaaGreat
open Go.RowKit Ow Wi Ve Rc
namespace Sb
abbrev exA : R := ofR 1 1 []
abbrev exB : R := ofR 2 1 []
abbrev exC : R := ofR 2 2 [1, 1, 2, 1]
abbrev exD : R := ofR 1 5 [2, 6]
abbrev exE : R := ofR 2 6 [1, 5]
theorem joinO_is {l p out : List R} (ha : alikeB l = true) (hp : ∀ x, x ∈ p ↔ x ∈ l) (hs : p.Pairwise (fun a b => lessD b a = false)) (ho : topF (uniG id p) = out) : joinO l = out := by
  unfold joinO
  rw [if_pos ha, join_is (fun x hx => ((alike_iff l).1 ha x hx).1) hp hs, ho]
theorem ex_al1 : alikeB [exB, exA, exA] = true := by decide +kernel
theorem ex_al2 : alikeB [exA, exC, exB] = true := by decide +kernel
theorem ex_al3 : alikeB [exD, exE] = true := by decide +kernel
theorem ex_j1 : joinO [exB, exA, exA] = [exA, exB] := joinO_is (p := [exA, exA, exB]) ex_al1 (by intro x; simp only [List.mem_cons, List.not_mem_nil, or_false]; constructor <;> (intro h; rcases h with h | h | h <;> simp [h])) (by decide +kernel) (by decide +kernel)
theorem ex_j2 : joinO [exA, exC, exB] = [exC] := joinO_is (p := [exA, exB, exC]) ex_al2 (by intro x; simp only [List.mem_cons, List.not_mem_nil, or_false]; constructor <;> (intro h; rcases h with h | h | h <;> simp [h])) (by decide +kernel) (by decide +kernel)
theorem ex_j3 : joinO [exD, exE] = [] := joinO_is (p := [exD, exE]) ex_al3 (fun _ => Iff.rfl) (by decide +kernel) (by decide +kernel)
theorem rrow_new (w : World) (T : TypeId) (l : List E) (h : ∀ x ∈ l, RAt w w.heap.size x.1 x.2) : RRow (w.alloc (.cells (recsC l).toArray T)) (w.heap.size + 1) (some ⟨w.heap.size, 0, none⟩) l := by
  refine ⟨by simp, fun x hx => RAt.up (RAt.kept (h x hx) (gb_alloc (gb_refl w none) _) (fun _ e => by cases e)) (by omega) (by simp), ?_⟩
  by_cases h0 : l.length = 0
  · exact Or.inl h0
  · refine Or.inr ⟨w.heap.size, 0, rfl, by omega, fun i hi j v hv => ?_⟩
    have hj : j < 7 := by have := (List.getElem?_eq_some_iff.1 hv).1; rwa [recC_len] at this
    have hB : Blk (w.alloc (.cells (recsC l).toArray T)) w.heap.size T (recsC l) := Blk.new w _ _
    rw [Nat.zero_add]
    exact hB.cell (by rw [recsC_at l i hi j hj]; exact hv)
theorem srow_new (w : World) (B : Nat) (T : TypeId) (L : List (Option Addr × Nat × List E)) (hB : B ≤ w.heap.size) (h : ∀ q ∈ L, RRow w B q.1 q.2.2 ∧ (q.1 = none → q.2.1 = 0)) :
    SRow (w.alloc (.cells (L.map fun q => Value.slice q.1 q.2.2.length q.2.1).toArray T)) (w.heap.size + 1) (some ⟨w.heap.size, 0, none⟩) (L.map (·.2.2)) := by
  refine ⟨by simp, ?_⟩
  by_cases h0 : L.length = 0
  · exact Or.inl (by simpa using h0)
  · refine Or.inr ⟨w.heap.size, 0, rfl, by omega, fun i hi => ?_⟩
    have hi : i < L.length := by simpa using hi
    have hq := h L[i] (List.getElem_mem hi)
    have hB' : Blk (w.alloc (.cells (L.map fun q => Value.slice q.1 q.2.2.length q.2.1).toArray T)) w.heap.size T (L.map fun q => Value.slice q.1 q.2.2.length q.2.1) := Blk.new w _ _
    have e : (L.map (·.2.2)).getD i [] = L[i].2.2 := by rw [List.getD_eq_getElem?_getD, List.getElem?_map, List.getElem?_eq_getElem hi]; rfl
    rw [e]
    refine ⟨L[i].1, L[i].2.1, ?_, (hq.1.stay (gb_alloc (gb_refl w none) _)).up (by omega) (by simp), hq.2⟩
    rw [Nat.zero_add]
    exact hB'.cell (by rw [List.getElem?_map, List.getElem?_eq_getElem hi]; rfl)
/-- Join of rows whose slices have just been laid -/
def JoinRow (w : World) (F : List R) (e : Ending) (w' : World) : Prop :=
  ∃ a c out, e = .returned (.tuple #[.slice a (recs out).length c, .int .i64 (errN (alikeB F) 4)]) ∧ recs out = joinO F ∧ RRow w' w'.heap.size a out ∧ (a = none → c = 0) ∧ out.length < 9223372036854775808 ∧ w.grownBy w' none
theorem join_lits (w : World) (T : TypeId) (q : List (Option Addr × Nat × List E)) (m : Nat) (hm : q.length = m) (hm2 : m ≤ 1000000) (hq : ∀ x ∈ q, RRow w w.heap.size x.1 x.2.2 ∧ (x.1 = none → x.2.1 = 0)) (hlen : (q.map (·.2.2)).flatten.length ≤ 1000000) (hsz : ∀ x ∈ (q.map (·.2.2)).flatten, x.1.n1 ≤ 1000000 ∧ x.1.n2 ≤ 1000000 ∧ x.1.n3 ≤ 1000000) :
    Calls Tryz.prog 37 #[.slice (some ⟨w.heap.size, 0, none⟩) m m] (w.alloc (.cells (q.map fun q => Value.slice q.1 q.2.2.length q.2.1).toArray T)) (JoinRow w (recs (q.map (·.2.2)).flatten)) :=
  (sjoin_any m m (w.heap.size + 1) (q.map (·.2.2)) (some ⟨w.heap.size, 0, none⟩) _ (by simpa using hm) (srow_new w w.heap.size T q (Nat.le_refl _) hq) (by omega) hlen hsz).mono fun e w' ⟨v, out, he, hr, ho, hg⟩ => by
    obtain ⟨a, c, rfl, hl1, hl2, hrow⟩ := ho.row
    refine ⟨a, c, out, by rw [he, recs_len], hr, hrow, ?_, by unfold maxLen at hl2; omega, gb_trans (gb_alloc (gb_refl _ _) _) hg⟩
    rcases ho.1.2 with ⟨e, _⟩ | ⟨g, c', cur, e, _⟩
    · simp only [Value.slice.injEq] at e
      exact fun _ => e.2.2
    · simp only [Value.slice.injEq] at e
      intro h0; rw [h0] at e; cases e.1
theorem of_a (w : World) : Calls Tryz.prog 48 #[.int .i64 1, .int .i64 1, .slice none 0 0] w fun e w' => ∃ a1 c1 p, e = .returned (.agg #[.string ⟨#[107]⟩, iV 1, iV 1, .slice a1 0 c1, .bool false, .slice none 0 0, .slice (some ⟨p, 0, none⟩) 64 64]) ∧ RAt w' w'.heap.size (ofE 1 1 [] a1 c1 p).1 (ofR 1 1 []) ∧ w.grownBy w' none :=
  (of_any 1 1 [] 0 0 none w rfl (Or.inl rfl) (by decide)).mono fun _ _ ⟨a, c, p, he, h, hg⟩ => ⟨a, c, p, he, h, hg⟩
theorem of_b (w : World) : Calls Tryz.prog 48 #[.int .i64 2, .int .i64 1, .slice none 0 0] w fun e w' => ∃ a1 c1 p, e = .returned (.agg #[.string ⟨#[107]⟩, iV 2, iV 1, .slice a1 0 c1, .bool false, .slice none 0 0, .slice (some ⟨p, 0, none⟩) 64 64]) ∧ RAt w' w'.heap.size (ofE 2 1 [] a1 c1 p).1 (ofR 2 1 []) ∧ w.grownBy w' none :=
  (of_any 2 1 [] 0 0 none w rfl (Or.inl rfl) (by decide)).mono fun _ _ ⟨a, c, p, he, h, hg⟩ => ⟨a, c, p, he, h, hg⟩
theorem of_c (w : World) : Calls Tryz.prog 48 #[.int .i64 2, .int .i64 2, .slice (some ⟨w.heap.size, 0, none⟩) 4 4] (w.alloc (.cells #[iV 1, iV 1, iV 2, iV 1] 3)) fun e w' => ∃ a1 c1 p, e = .returned (.agg #[.string ⟨#[107]⟩, iV 2, iV 2, .slice a1 2 c1, .bool false, .slice none 0 0, .slice (some ⟨p, 0, none⟩) 64 64]) ∧ RAt w' w'.heap.size (ofE 2 2 [1, 1, 2, 1] a1 c1 p).1 (ofR 2 2 [1, 1, 2, 1]) ∧ w.grownBy w' none :=
  (of_any 2 2 [1, 1, 2, 1] 4 4 (some ⟨w.heap.size, 0, none⟩) (w.alloc (.cells #[iV 1, iV 1, iV 2, iV 1] 3)) rfl (Or.inr ⟨w.heap.size, 0, rfl, fun i hi => by
    have hb : Blk (w.alloc (.cells #[iV 1, iV 1, iV 2, iV 1] 3)) w.heap.size 3 [iV 1, iV 1, iV 2, iV 1] := Blk.new w _ _
    rw [Nat.zero_add]
    refine hb.cell ?_
    match i, hi with
    | 0, _ => rfl
    | 1, _ => rfl
    | 2, _ => rfl
    | 3, _ => rfl⟩) (by decide)).mono fun _ _ ⟨a, c, p, he, h, hg⟩ => ⟨a, c, p, he, h, gb_trans (gb_alloc (gb_refl _ _) _) hg⟩
theorem of_d (w : World) : Calls Tryz.prog 48 #[.int .i64 1, .int .i64 5, .slice (some ⟨w.heap.size, 0, none⟩) 2 2] (w.alloc (.cells #[iV 2, iV 6] 3)) fun e w' => ∃ a1 c1 p, e = .returned (.agg #[.string ⟨#[107]⟩, iV 1, iV 5, .slice a1 1 c1, .bool false, .slice none 0 0, .slice (some ⟨p, 0, none⟩) 64 64]) ∧ RAt w' w'.heap.size (ofE 1 5 [2, 6] a1 c1 p).1 (ofR 1 5 [2, 6]) ∧ w.grownBy w' none :=
  (of_any 1 5 [2, 6] 2 2 (some ⟨w.heap.size, 0, none⟩) (w.alloc (.cells #[iV 2, iV 6] 3)) rfl (Or.inr ⟨w.heap.size, 0, rfl, fun i hi => by
    have hb : Blk (w.alloc (.cells #[iV 2, iV 6] 3)) w.heap.size 3 [iV 2, iV 6] := Blk.new w _ _
    rw [Nat.zero_add]
    refine hb.cell ?_
    match i, hi with
    | 0, _ => rfl
    | 1, _ => rfl⟩) (by decide)).mono fun _ _ ⟨a, c, p, he, h, hg⟩ => ⟨a, c, p, he, h, gb_trans (gb_alloc (gb_refl _ _) _) hg⟩
theorem of_e (w : World) : Calls Tryz.prog 48 #[.int .i64 2, .int .i64 6, .slice (some ⟨w.heap.size, 0, none⟩) 2 2] (w.alloc (.cells #[iV 1, iV 5] 3)) fun e w' => ∃ a1 c1 p, e = .returned (.agg #[.string ⟨#[107]⟩, iV 2, iV 6, .slice a1 1 c1, .bool false, .slice none 0 0, .slice (some ⟨p, 0, none⟩) 64 64]) ∧ RAt w' w'.heap.size (ofE 2 6 [1, 5] a1 c1 p).1 (ofR 2 6 [1, 5]) ∧ w.grownBy w' none :=
  (of_any 2 6 [1, 5] 2 2 (some ⟨w.heap.size, 0, none⟩) (w.alloc (.cells #[iV 1, iV 5] 3)) rfl (Or.inr ⟨w.heap.size, 0, rfl, fun i hi => by
    have hb : Blk (w.alloc (.cells #[iV 1, iV 5] 3)) w.heap.size 3 [iV 1, iV 5] := Blk.new w _ _
    rw [Nat.zero_add]
    refine hb.cell ?_
    match i, hi with
    | 0, _ => rfl
    | 1, _ => rfl⟩) (by decide)).mono fun _ _ ⟨a, c, p, he, h, hg⟩ => ⟨a, c, p, he, h, gb_trans (gb_alloc (gb_refl _ _) _) hg⟩
set_option linter.unusedSimpArgs false in
set_option maxRecDepth 100000 in
set_option maxHeartbeats 4000000 in
theorem awake9_any (w : World) : Calls Tryz.prog 35 #[] w fun e w' => e = .returned (.bool true) ∧ w.grownBy w' none := by
  have HA := Lib.hid (of_a w)
  go_enter Tryz.func35, Tryz.ntmps35
  go_wp2_with fail
  refine HA.out.mono ?_
  rintro e w1 ⟨a1, c1, p1, rfl, hR1, hg1⟩
  clear HA
  have HB := Lib.hid (of_b w1)
  go_wp2_with fail
  refine HB.out.mono ?_
  rintro e w2 ⟨a2, c2, p2, rfl, hR2, hg2⟩
  clear HB
  have HC := Lib.hid (of_c w2)
  go_wp2_with fail
  refine HC.out.mono ?_
  rintro e w3 ⟨a3, c3, p3, rfl, hR3, hg3⟩
  clear HC
  obtain ⟨W4, hW4⟩ : ∃ W4, W4 = ((w3.alloc (.cells #[.string ⟨#[107]⟩, iV 1, iV 1, .slice a1 0 c1, .bool false, .slice none 0 0, .slice (some ⟨p1, 0, none⟩) 64 64] 66)).alloc (.cells #[.string ⟨#[107]⟩, iV 2, iV 1, .slice a2 0 c2, .bool false, .slice none 0 0, .slice (some ⟨p2, 0, none⟩) 64 64] 66)).alloc (.cells #[.string ⟨#[107]⟩, iV 2, iV 2, .slice a3 2 c3, .bool false, .slice none 0 0, .slice (some ⟨p3, 0, none⟩) 64 64] 66) := ⟨_, rfl⟩
  obtain ⟨N, hN⟩ : ∃ N, N = w3.heap.size := ⟨_, rfl⟩
  have hg4 : w3.grownBy W4 none := by rw [hW4]; exact gb_alloc (gb_alloc (gb_alloc (gb_refl _ _) _) _) _
  have hb1 : Blk W4 N 66 [.string ⟨#[107]⟩, iV 1, iV 1, .slice a1 0 c1, .bool false, .slice none 0 0, .slice (some ⟨p1, 0, none⟩) 64 64] := by rw [hW4, hN]; exact ((Blk.new w3 _ _).alloc _).alloc _
  have hb2 : Blk W4 (N + 1) 66 [.string ⟨#[107]⟩, iV 2, iV 1, .slice a2 0 c2, .bool false, .slice none 0 0, .slice (some ⟨p2, 0, none⟩) 64 64] := by rw [hW4]; refine Blk.alloc (blk_at _ _ _ ?_) _; simp [hN]
  have hb3 : Blk W4 (N + 1 + 1) 66 [.string ⟨#[107]⟩, iV 2, iV 2, .slice a3 2 c3, .bool false, .slice none 0 0, .slice (some ⟨p3, 0, none⟩) 64 64] := by rw [hW4]; refine blk_at _ _ _ ?_; simp [hN]
  have HG4 : Hid (w.grownBy W4 none ∧ (RAt W4 W4.heap.size (ofE 1 1 [] a1 c1 p1).1 exA ∧ RAt W4 W4.heap.size (ofE 2 1 [] a2 c2 p2).1 exB ∧ RAt W4 W4.heap.size (ofE 2 2 [1, 1, 2, 1] a3 c3 p3).1 exC) ∧ Blk W4 N 66 [.string ⟨#[107]⟩, iV 1, iV 1, .slice a1 0 c1, .bool false, .slice none 0 0, .slice (some ⟨p1, 0, none⟩) 64 64] ∧ Blk W4 (N + 1) 66 [.string ⟨#[107]⟩, iV 2, iV 1, .slice a2 0 c2, .bool false, .slice none 0 0, .slice (some ⟨p2, 0, none⟩) 64 64] ∧ Blk W4 (N + 1 + 1) 66 [.string ⟨#[107]⟩, iV 2, iV 2, .slice a3 2 c3, .bool false, .slice none 0 0, .slice (some ⟨p3, 0, none⟩) 64 64]) :=
    ⟨gb_trans hg1 (gb_trans hg2 (gb_trans hg3 hg4)), ⟨(RAt.stay hR1 (gb_trans hg2 (gb_trans hg3 hg4))).full, (RAt.stay hR2 (gb_trans hg3 hg4)).full, (RAt.stay hR3 hg4).full⟩, hb1, hb2, hb3⟩
  clear hR1 hR2 hR3 hg1 hg2 hg3 hg4 hb1 hb2 hb3
  go_upto_region 2 with fail

  rw [← hW4, ← hN]
  clear hW4 hN
  have z0 := ((HG4.out.2.2.2.1).grown (show W4.grownBy W4 none from (gb_refl _ _)) (by simp))
  have z0_0 := z0.cell (i := 0) rfl
  have z0_1 := z0.cell (i := 1) rfl
  have z0_2 := z0.cell (i := 2) rfl
  have z0_3 := z0.cell (i := 3) rfl
  have z0_4 := z0.cell (i := 4) rfl
  have z0_5 := z0.cell (i := 5) rfl
  have z0_6 := z0.cell (i := 6) rfl
  have z1 := ((HG4.out.2.2.1).grown (show W4.grownBy (W4.alloc (.cells #[.string ⟨#[107]⟩, iV 2, iV 1, .slice a2 0 c2, .bool false, .slice none 0 0, .slice (some ⟨p2, 0, none⟩) 64 64] 66)) none from (gb_alloc (gb_refl _ _) _)) (by simp))
  have z1_0 := z1.cell (i := 0) rfl
  have z1_1 := z1.cell (i := 1) rfl
  have z1_2 := z1.cell (i := 2) rfl
  have z1_3 := z1.cell (i := 3) rfl
  have z1_4 := z1.cell (i := 4) rfl
  have z1_5 := z1.cell (i := 5) rfl
  have z1_6 := z1.cell (i := 6) rfl
  obtain ⟨W5, hW5⟩ : ∃ W5, W5 = ((W4.alloc (.cells #[.string ⟨#[107]⟩, iV 2, iV 1, .slice a2 0 c2, .bool false, .slice none 0 0, .slice (some ⟨p2, 0, none⟩) 64 64] 66)).alloc (.cells #[.string ⟨#[107]⟩, iV 1, iV 1, .slice a1 0 c1, .bool false, .slice none 0 0, .slice (some ⟨p1, 0, none⟩) 64 64, .string ⟨#[107]⟩, iV 1, iV 1, .slice a1 0 c1, .bool false, .slice none 0 0, .slice (some ⟨p1, 0, none⟩) 64 64] 66)) := ⟨_, rfl⟩
  have hm0 : ∀ z ∈ ([ofE 2 1 [] a2 c2 p2] : List E), RAt W4 W4.heap.size z.1 z.2 := by
    intro z hz
    simp only [List.mem_cons, List.not_mem_nil, or_false] at hz
    rcases hz with rfl
    · exact (RAt.stay (HG4.out.2.1.2.1) (show W4.grownBy W4 none from (gb_refl _ _))).full
  have hr0 : RRow W5 W5.heap.size (some ⟨W4.heap.size, 0, none⟩) [ofE 2 1 [] a2 c2 p2] := by
    have h0 := rrow_new W4 66 [ofE 2 1 [] a2 c2 p2] hm0
    have h1 := h0.stay (show (W4.alloc (.cells (recsC [ofE 2 1 [] a2 c2 p2]).toArray 66)).grownBy W5 none from by rw [hW5]; exact (gb_alloc (gb_refl _ _) _))
    exact h1.full
  have hm1 : ∀ z ∈ ([ofE 1 1 [] a1 c1 p1, ofE 1 1 [] a1 c1 p1] : List E), RAt (W4.alloc (.cells #[.string ⟨#[107]⟩, iV 2, iV 1, .slice a2 0 c2, .bool false, .slice none 0 0, .slice (some ⟨p2, 0, none⟩) 64 64] 66)) (W4.alloc (.cells #[.string ⟨#[107]⟩, iV 2, iV 1, .slice a2 0 c2, .bool false, .slice none 0 0, .slice (some ⟨p2, 0, none⟩) 64 64] 66)).heap.size z.1 z.2 := by
    intro z hz
    simp only [List.mem_cons, List.not_mem_nil, or_false] at hz
    rcases hz with rfl | rfl
    · exact (RAt.stay (HG4.out.2.1.1) (show W4.grownBy (W4.alloc (.cells #[.string ⟨#[107]⟩, iV 2, iV 1, .slice a2 0 c2, .bool false, .slice none 0 0, .slice (some ⟨p2, 0, none⟩) 64 64] 66)) none from (gb_alloc (gb_refl _ _) _))).full
    · exact (RAt.stay (HG4.out.2.1.1) (show W4.grownBy (W4.alloc (.cells #[.string ⟨#[107]⟩, iV 2, iV 1, .slice a2 0 c2, .bool false, .slice none 0 0, .slice (some ⟨p2, 0, none⟩) 64 64] 66)) none from (gb_alloc (gb_refl _ _) _))).full
  have hr1 : RRow W5 W5.heap.size (some ⟨W4.heap.size + 1, 0, none⟩) [ofE 1 1 [] a1 c1 p1, ofE 1 1 [] a1 c1 p1] := by
    have h0 := rrow_new (W4.alloc (.cells #[.string ⟨#[107]⟩, iV 2, iV 1, .slice a2 0 c2, .bool false, .slice none 0 0, .slice (some ⟨p2, 0, none⟩) 64 64] 66)) 66 [ofE 1 1 [] a1 c1 p1, ofE 1 1 [] a1 c1 p1] hm1
    simp only [World.size_alloc] at h0
    have h1 := h0.stay (show ((W4.alloc (.cells #[.string ⟨#[107]⟩, iV 2, iV 1, .slice a2 0 c2, .bool false, .slice none 0 0, .slice (some ⟨p2, 0, none⟩) 64 64] 66)).alloc (.cells (recsC [ofE 1 1 [] a1 c1 p1, ofE 1 1 [] a1 c1 p1]).toArray 66)).grownBy W5 none from by rw [hW5]; exact (gb_refl _ _))
    exact h1.full
  have hgW5 : W4.grownBy W5 none := by rw [hW5]; exact (gb_alloc (gb_alloc (gb_refl _ _) _) _)
  have hsW5 : W5.heap.size = W4.heap.size + 1 + 1 := by rw [hW5]; simp
  have HJ : Hid (Calls Tryz.prog 37 #[.slice (some ⟨W4.heap.size + 1 + 1, 0, none⟩) 2 2] (W5.alloc (.cells #[.slice (some ⟨W4.heap.size, 0, none⟩) 1 1, .slice (some ⟨W4.heap.size + 1, 0, none⟩) 2 2] 48)) fun e w' => ∃ a c out, e = .returned (.tuple #[.slice a 2 c, .int .i64 0]) ∧ recs out = [exA, exB] ∧ RRow w' w'.heap.size a out ∧ W5.grownBy w' none) := by
    have h := join_lits W5 48 [(some ⟨W4.heap.size, 0, none⟩, 1, [ofE 2 1 [] a2 c2 p2]), (some ⟨W4.heap.size + 1, 0, none⟩, 2, [ofE 1 1 [] a1 c1 p1, ofE 1 1 [] a1 c1 p1])] 2 rfl (by decide) (by
      intro x hx; simp only [List.mem_cons, List.not_mem_nil, or_false] at hx
      rcases hx with rfl | rfl
      · exact ⟨hr0, fun e => by cases e⟩
      · exact ⟨hr1, fun e => by cases e⟩) (by show 3 ≤ 1000000; decide) (by
      intro x hx; simp only [List.map_cons, List.map_nil, List.flatten_cons, List.flatten_nil, List.append_nil, List.cons_append, List.nil_append, List.mem_cons, List.not_mem_nil, or_false] at hx
      rcases hx with rfl | rfl | rfl <;> (refine ⟨?_, ?_, ?_⟩ <;> simp [ofE]))
    rw [hsW5] at h
    exact h.mono fun e w' ⟨a, c, out, he, hr, hrow, hz, hs, hg⟩ => ⟨a, c, out, by have e1 : recs out = [exA, exB] := hr.trans ex_j1; rw [he, e1]; show Ending.returned (.tuple #[.slice a [exA, exB].length c, .int .i64 (errN (alikeB [exB, exA, exA]) 4)]) = _; rw [ex_al1]; rfl, hr.trans ex_j1, hrow, hg⟩
  have HGW5 := Lib.hid hgW5
  clear hgW5 hsW5 hr0 hm0 hr1 hm1
  go_wp2_with fail
  rw [← hW5]
  clear hW5
  refine HJ.out.mono ?_
  rintro e w6 ⟨aj, cj, out1, rfl, hro1, hrow1, hg6⟩
  clear HJ z0_0 z0_1 z0_2 z0_3 z0_4 z0_5 z0_6 z0 z1_0 z1_1 z1_2 z1_3 z1_4 z1_5 z1_6 z1
  have HG6 : Hid (w.grownBy w6 none ∧ (RAt w6 w6.heap.size (ofE 1 1 [] a1 c1 p1).1 exA ∧ RAt w6 w6.heap.size (ofE 2 1 [] a2 c2 p2).1 exB ∧ RAt w6 w6.heap.size (ofE 2 2 [1, 1, 2, 1] a3 c3 p3).1 exC) ∧ Blk w6 N 66 [.string ⟨#[107]⟩, iV 1, iV 1, .slice a1 0 c1, .bool false, .slice none 0 0, .slice (some ⟨p1, 0, none⟩) 64 64] ∧ Blk w6 (N + 1) 66 [.string ⟨#[107]⟩, iV 2, iV 1, .slice a2 0 c2, .bool false, .slice none 0 0, .slice (some ⟨p2, 0, none⟩) 64 64] ∧ Blk w6 (N + 1 + 1) 66 [.string ⟨#[107]⟩, iV 2, iV 2, .slice a3 2 c3, .bool false, .slice none 0 0, .slice (some ⟨p3, 0, none⟩) 64 64] ∧ RRow w6 w6.heap.size aj out1 ∧ recs out1 = [exA, exB]) :=
    ⟨gb_trans HG4.out.1 (gb_trans HGW5.out hg6), ⟨(RAt.stay HG4.out.2.1.1 (gb_trans HGW5.out hg6)).full, (RAt.stay HG4.out.2.1.2.1 (gb_trans HGW5.out hg6)).full, (RAt.stay HG4.out.2.1.2.2 (gb_trans HGW5.out hg6)).full⟩, HG4.out.2.2.1.grown (gb_trans HGW5.out hg6) (by simp), HG4.out.2.2.2.1.grown (gb_trans HGW5.out hg6) (by simp), HG4.out.2.2.2.2.grown (gb_trans HGW5.out hg6) (by simp), hrow1, hro1⟩
  clear HG4 HGW5 hg6 hrow1 hro1
  go_upto_region 3 with fail
  have z0 := ((HG6.out.2.2.1).grown (show w6.grownBy w6 none from (gb_refl _ _)) (by simp))
  have z0_0 := z0.cell (i := 0) rfl
  have z0_1 := z0.cell (i := 1) rfl
  have z0_2 := z0.cell (i := 2) rfl
  have z0_3 := z0.cell (i := 3) rfl
  have z0_4 := z0.cell (i := 4) rfl
  have z0_5 := z0.cell (i := 5) rfl
  have z0_6 := z0.cell (i := 6) rfl
  have z1 := ((HG6.out.2.2.2.2.1).grown (show w6.grownBy w6 none from (gb_refl _ _)) (by simp))
  have z1_0 := z1.cell (i := 0) rfl
  have z1_1 := z1.cell (i := 1) rfl
  have z1_2 := z1.cell (i := 2) rfl
  have z1_3 := z1.cell (i := 3) rfl
  have z1_4 := z1.cell (i := 4) rfl
  have z1_5 := z1.cell (i := 5) rfl
  have z1_6 := z1.cell (i := 6) rfl
  have z2 := ((HG6.out.2.2.2.1).grown (show w6.grownBy (w6.alloc (.cells #[.string ⟨#[107]⟩, iV 1, iV 1, .slice a1 0 c1, .bool false, .slice none 0 0, .slice (some ⟨p1, 0, none⟩) 64 64, .string ⟨#[107]⟩, iV 2, iV 2, .slice a3 2 c3, .bool false, .slice none 0 0, .slice (some ⟨p3, 0, none⟩) 64 64] 66)) none from (gb_alloc (gb_refl _ _) _)) (by simp))
  have z2_0 := z2.cell (i := 0) rfl
  have z2_1 := z2.cell (i := 1) rfl
  have z2_2 := z2.cell (i := 2) rfl
  have z2_3 := z2.cell (i := 3) rfl
  have z2_4 := z2.cell (i := 4) rfl
  have z2_5 := z2.cell (i := 5) rfl
  have z2_6 := z2.cell (i := 6) rfl
  obtain ⟨W7, hW7⟩ : ∃ W7, W7 = ((w6.alloc (.cells #[.string ⟨#[107]⟩, iV 1, iV 1, .slice a1 0 c1, .bool false, .slice none 0 0, .slice (some ⟨p1, 0, none⟩) 64 64, .string ⟨#[107]⟩, iV 2, iV 2, .slice a3 2 c3, .bool false, .slice none 0 0, .slice (some ⟨p3, 0, none⟩) 64 64] 66)).alloc (.cells #[.string ⟨#[107]⟩, iV 2, iV 1, .slice a2 0 c2, .bool false, .slice none 0 0, .slice (some ⟨p2, 0, none⟩) 64 64] 66)) := ⟨_, rfl⟩
  have hm0 : ∀ z ∈ ([ofE 1 1 [] a1 c1 p1, ofE 2 2 [1, 1, 2, 1] a3 c3 p3] : List E), RAt w6 w6.heap.size z.1 z.2 := by
    intro z hz
    simp only [List.mem_cons, List.not_mem_nil, or_false] at hz
    rcases hz with rfl | rfl
    · exact (RAt.stay (HG6.out.2.1.1) (show w6.grownBy w6 none from (gb_refl _ _))).full
    · exact (RAt.stay (HG6.out.2.1.2.2) (show w6.grownBy w6 none from (gb_refl _ _))).full
  have hr0 : RRow W7 W7.heap.size (some ⟨w6.heap.size, 0, none⟩) [ofE 1 1 [] a1 c1 p1, ofE 2 2 [1, 1, 2, 1] a3 c3 p3] := by
    have h0 := rrow_new w6 66 [ofE 1 1 [] a1 c1 p1, ofE 2 2 [1, 1, 2, 1] a3 c3 p3] hm0
    have h1 := h0.stay (show (w6.alloc (.cells (recsC [ofE 1 1 [] a1 c1 p1, ofE 2 2 [1, 1, 2, 1] a3 c3 p3]).toArray 66)).grownBy W7 none from by rw [hW7]; exact (gb_alloc (gb_refl _ _) _))
    exact h1.full
  have hm1 : ∀ z ∈ ([ofE 2 1 [] a2 c2 p2] : List E), RAt (w6.alloc (.cells #[.string ⟨#[107]⟩, iV 1, iV 1, .slice a1 0 c1, .bool false, .slice none 0 0, .slice (some ⟨p1, 0, none⟩) 64 64, .string ⟨#[107]⟩, iV 2, iV 2, .slice a3 2 c3, .bool false, .slice none 0 0, .slice (some ⟨p3, 0, none⟩) 64 64] 66)) (w6.alloc (.cells #[.string ⟨#[107]⟩, iV 1, iV 1, .slice a1 0 c1, .bool false, .slice none 0 0, .slice (some ⟨p1, 0, none⟩) 64 64, .string ⟨#[107]⟩, iV 2, iV 2, .slice a3 2 c3, .bool false, .slice none 0 0, .slice (some ⟨p3, 0, none⟩) 64 64] 66)).heap.size z.1 z.2 := by
    intro z hz
    simp only [List.mem_cons, List.not_mem_nil, or_false] at hz
    rcases hz with rfl
    · exact (RAt.stay (HG6.out.2.1.2.1) (show w6.grownBy (w6.alloc (.cells #[.string ⟨#[107]⟩, iV 1, iV 1, .slice a1 0 c1, .bool false, .slice none 0 0, .slice (some ⟨p1, 0, none⟩) 64 64, .string ⟨#[107]⟩, iV 2, iV 2, .slice a3 2 c3, .bool false, .slice none 0 0, .slice (some ⟨p3, 0, none⟩) 64 64] 66)) none from (gb_alloc (gb_refl _ _) _))).full
  have hr1 : RRow W7 W7.heap.size (some ⟨w6.heap.size + 1, 0, none⟩) [ofE 2 1 [] a2 c2 p2] := by
    have h0 := rrow_new (w6.alloc (.cells #[.string ⟨#[107]⟩, iV 1, iV 1, .slice a1 0 c1, .bool false, .slice none 0 0, .slice (some ⟨p1, 0, none⟩) 64 64, .string ⟨#[107]⟩, iV 2, iV 2, .slice a3 2 c3, .bool false, .slice none 0 0, .slice (some ⟨p3, 0, none⟩) 64 64] 66)) 66 [ofE 2 1 [] a2 c2 p2] hm1
    simp only [World.size_alloc] at h0
    have h1 := h0.stay (show ((w6.alloc (.cells #[.string ⟨#[107]⟩, iV 1, iV 1, .slice a1 0 c1, .bool false, .slice none 0 0, .slice (some ⟨p1, 0, none⟩) 64 64, .string ⟨#[107]⟩, iV 2, iV 2, .slice a3 2 c3, .bool false, .slice none 0 0, .slice (some ⟨p3, 0, none⟩) 64 64] 66)).alloc (.cells (recsC [ofE 2 1 [] a2 c2 p2]).toArray 66)).grownBy W7 none from by rw [hW7]; exact (gb_refl _ _))
    exact h1.full
  have hgW7 : w6.grownBy W7 none := by rw [hW7]; exact (gb_alloc (gb_alloc (gb_refl _ _) _) _)
  have hsW7 : W7.heap.size = w6.heap.size + 1 + 1 := by rw [hW7]; simp
  have HJ : Hid (Calls Tryz.prog 37 #[.slice (some ⟨w6.heap.size + 1 + 1, 0, none⟩) 2 2] (W7.alloc (.cells #[.slice (some ⟨w6.heap.size, 0, none⟩) 2 2, .slice (some ⟨w6.heap.size + 1, 0, none⟩) 1 1] 48)) fun e w' => ∃ a c out, e = .returned (.tuple #[.slice a 1 c, .int .i64 0]) ∧ recs out = [exC] ∧ RRow w' w'.heap.size a out ∧ W7.grownBy w' none) := by
    have h := join_lits W7 48 [(some ⟨w6.heap.size, 0, none⟩, 2, [ofE 1 1 [] a1 c1 p1, ofE 2 2 [1, 1, 2, 1] a3 c3 p3]), (some ⟨w6.heap.size + 1, 0, none⟩, 1, [ofE 2 1 [] a2 c2 p2])] 2 rfl (by decide) (by
      intro x hx; simp only [List.mem_cons, List.not_mem_nil, or_false] at hx
      rcases hx with rfl | rfl
      · exact ⟨hr0, fun e => by cases e⟩
      · exact ⟨hr1, fun e => by cases e⟩) (by show 3 ≤ 1000000; decide) (by
      intro x hx; simp only [List.map_cons, List.map_nil, List.flatten_cons, List.flatten_nil, List.append_nil, List.cons_append, List.nil_append, List.mem_cons, List.not_mem_nil, or_false] at hx
      rcases hx with rfl | rfl | rfl <;> (refine ⟨?_, ?_, ?_⟩ <;> simp [ofE]))
    rw [hsW7] at h
    exact h.mono fun e w' ⟨a, c, out, he, hr, hrow, hz, hs, hg⟩ => ⟨a, c, out, by have e1 : recs out = [exC] := hr.trans ex_j2; rw [he, e1]; show Ending.returned (.tuple #[.slice a [exC].length c, .int .i64 (errN (alikeB [exA, exC, exB]) 4)]) = _; rw [ex_al2]; rfl, hr.trans ex_j2, hrow, hg⟩
  have HGW7 := Lib.hid hgW7
  clear hgW7 hsW7 hr0 hm0 hr1 hm1
  go_wp2_with fail
  rw [← hW7]
  clear hW7
  refine HJ.out.mono ?_
  rintro e w8 ⟨ak, ck, out2, rfl, hro2, hrow2, hg8⟩
  clear HJ z0_0 z0_1 z0_2 z0_3 z0_4 z0_5 z0_6 z0 z1_0 z1_1 z1_2 z1_3 z1_4 z1_5 z1_6 z1 z2_0 z2_1 z2_2 z2_3 z2_4 z2_5 z2_6 z2
  have HG8 : Hid (w.grownBy w8 none ∧ (RAt w8 w8.heap.size (ofE 1 1 [] a1 c1 p1).1 exA ∧ RAt w8 w8.heap.size (ofE 2 1 [] a2 c2 p2).1 exB ∧ RAt w8 w8.heap.size (ofE 2 2 [1, 1, 2, 1] a3 c3 p3).1 exC) ∧ Blk w8 N 66 [.string ⟨#[107]⟩, iV 1, iV 1, .slice a1 0 c1, .bool false, .slice none 0 0, .slice (some ⟨p1, 0, none⟩) 64 64] ∧ Blk w8 (N + 1) 66 [.string ⟨#[107]⟩, iV 2, iV 1, .slice a2 0 c2, .bool false, .slice none 0 0, .slice (some ⟨p2, 0, none⟩) 64 64] ∧ Blk w8 (N + 1 + 1) 66 [.string ⟨#[107]⟩, iV 2, iV 2, .slice a3 2 c3, .bool false, .slice none 0 0, .slice (some ⟨p3, 0, none⟩) 64 64] ∧ RRow w8 w8.heap.size aj out1 ∧ recs out1 = [exA, exB] ∧ RRow w8 w8.heap.size ak out2 ∧ recs out2 = [exC]) :=
    ⟨gb_trans HG6.out.1 (gb_trans HGW7.out hg8), ⟨(RAt.stay HG6.out.2.1.1 (gb_trans HGW7.out hg8)).full, (RAt.stay HG6.out.2.1.2.1 (gb_trans HGW7.out hg8)).full, (RAt.stay HG6.out.2.1.2.2 (gb_trans HGW7.out hg8)).full⟩, HG6.out.2.2.1.grown (gb_trans HGW7.out hg8) (by simp), HG6.out.2.2.2.1.grown (gb_trans HGW7.out hg8) (by simp), HG6.out.2.2.2.2.1.grown (gb_trans HGW7.out hg8) (by simp), (HG6.out.2.2.2.2.2.1.stay (gb_trans HGW7.out hg8)).full, HG6.out.2.2.2.2.2.2, hrow2, hro2⟩
  clear HG6 HGW7 hg8 hrow2 hro2
  have HD := Lib.hid (of_d w8)
  go_wp2_with fail
  refine HD.out.mono ?_
  rintro e w9 ⟨a4, c4, p4, rfl, hR4, hg9⟩
  clear HD
  have HE := Lib.hid (of_e w9)
  go_wp2_with fail
  refine HE.out.mono ?_
  rintro e w10 ⟨a5, c5, p5, rfl, hR5, hg10⟩
  clear HE
  have HR5 := Lib.hid (And.intro (RAt.stay hR4 hg10).full hR5)
  have HGT := Lib.hid (gb_trans hg9 hg10)
  clear hR4 hR5 hg9 hg10
  obtain ⟨W11, hW11⟩ : ∃ W11, W11 = (w10.alloc (.cells #[.string ⟨#[107]⟩, iV 1, iV 5, .slice a4 1 c4, .bool false, .slice none 0 0, .slice (some ⟨p4, 0, none⟩) 64 64, .string ⟨#[107]⟩, iV 2, iV 6, .slice a5 1 c5, .bool false, .slice none 0 0, .slice (some ⟨p5, 0, none⟩) 64 64] 66)) := ⟨_, rfl⟩
  have hm0 : ∀ z ∈ ([ofE 1 5 [2, 6] a4 c4 p4, ofE 2 6 [1, 5] a5 c5 p5] : List E), RAt w10 w10.heap.size z.1 z.2 := by
    intro z hz
    simp only [List.mem_cons, List.not_mem_nil, or_false] at hz
    rcases hz with rfl | rfl
    · exact (RAt.stay (HR5.out.1) (show w10.grownBy w10 none from (gb_refl _ _))).full
    · exact (RAt.stay (HR5.out.2) (show w10.grownBy w10 none from (gb_refl _ _))).full
  have hr0 : RRow W11 W11.heap.size (some ⟨w10.heap.size, 0, none⟩) [ofE 1 5 [2, 6] a4 c4 p4, ofE 2 6 [1, 5] a5 c5 p5] := by
    have h0 := rrow_new w10 66 [ofE 1 5 [2, 6] a4 c4 p4, ofE 2 6 [1, 5] a5 c5 p5] hm0
    have h1 := h0.stay (show (w10.alloc (.cells (recsC [ofE 1 5 [2, 6] a4 c4 p4, ofE 2 6 [1, 5] a5 c5 p5]).toArray 66)).grownBy W11 none from by rw [hW11]; exact (gb_refl _ _))
    exact h1.full
  have hgW11 : w10.grownBy W11 none := by rw [hW11]; exact (gb_alloc (gb_refl _ _) _)
  have hsW11 : W11.heap.size = w10.heap.size + 1 := by rw [hW11]; simp
  have HJ : Hid (Calls Tryz.prog 37 #[.slice (some ⟨w10.heap.size + 1, 0, none⟩) 1 1] (W11.alloc (.cells #[.slice (some ⟨w10.heap.size, 0, none⟩) 2 2] 48)) fun e w' => ∃ a c out, e = .returned (.tuple #[.slice a 0 c, .int .i64 0]) ∧ recs out = [] ∧ RRow w' w'.heap.size a out ∧ W11.grownBy w' none) := by
    have h := join_lits W11 48 [(some ⟨w10.heap.size, 0, none⟩, 2, [ofE 1 5 [2, 6] a4 c4 p4, ofE 2 6 [1, 5] a5 c5 p5])] 1 rfl (by decide) (by
      intro x hx; simp only [List.mem_cons, List.not_mem_nil, or_false] at hx
      rcases hx with rfl
      · exact ⟨hr0, fun e => by cases e⟩) (by show 2 ≤ 1000000; decide) (by
      intro x hx; simp only [List.map_cons, List.map_nil, List.flatten_cons, List.flatten_nil, List.append_nil, List.cons_append, List.nil_append, List.mem_cons, List.not_mem_nil, or_false] at hx
      rcases hx with rfl | rfl <;> (refine ⟨?_, ?_, ?_⟩ <;> simp [ofE]))
    rw [hsW11] at h
    exact h.mono fun e w' ⟨a, c, out, he, hr, hrow, hz, hs, hg⟩ => ⟨a, c, out, by have e1 : recs out = [] := hr.trans ex_j3; rw [he, e1]; show Ending.returned (.tuple #[.slice a [].length c, .int .i64 (errN (alikeB [exD, exE]) 4)]) = _; rw [ex_al3]; rfl, hr.trans ex_j3, hrow, hg⟩
  have HGW11 := Lib.hid hgW11
  clear hgW11 hsW11 hr0 hm0
  go_wp2_with fail
  rw [← hW11]
  clear hW11
  refine HJ.out.mono ?_
  rintro e w12 ⟨al, cl, out3, rfl, hro3, hrow3, hg12⟩
  have HG12 := Lib.hid (gb_trans HGT.out (gb_trans HGW11.out hg12))
  clear HJ hrow3 hg12 HGT HGW11 HR5
  have HP := Lib.hid (put_nil w12)
  go_wp2_with fail
  refine HP.out.mono ?_
  rintro e w13 ⟨vp, rfl, hg13, ho13⟩
  obtain ⟨ap, cp, rfl, hbp⟩ : ∃ ap cp, vp = .slice ap 8 cp ∧ BytesAt w13 w13.heap.size ap cp (encN 0) := by
    obtain ⟨a, c, e, _, hb, _⟩ := own_slice ho13 (encN_byte 0)
    exact ⟨a, c, e, hb⟩
  have hg := gb_trans HG12.out hg13
  have HG13 : Hid (w.grownBy w13 none ∧ (RAt w13 w13.heap.size (ofE 1 1 [] a1 c1 p1).1 exA ∧ RAt w13 w13.heap.size (ofE 2 1 [] a2 c2 p2).1 exB ∧ RAt w13 w13.heap.size (ofE 2 2 [1, 1, 2, 1] a3 c3 p3).1 exC) ∧ Blk w13 N 66 [.string ⟨#[107]⟩, iV 1, iV 1, .slice a1 0 c1, .bool false, .slice none 0 0, .slice (some ⟨p1, 0, none⟩) 64 64] ∧ Blk w13 (N + 1) 66 [.string ⟨#[107]⟩, iV 2, iV 1, .slice a2 0 c2, .bool false, .slice none 0 0, .slice (some ⟨p2, 0, none⟩) 64 64] ∧ Blk w13 (N + 1 + 1) 66 [.string ⟨#[107]⟩, iV 2, iV 2, .slice a3 2 c3, .bool false, .slice none 0 0, .slice (some ⟨p3, 0, none⟩) 64 64] ∧ RRow w13 w13.heap.size aj out1 ∧ recs out1 = [exA, exB] ∧ RRow w13 w13.heap.size ak out2 ∧ recs out2 = [exC] ∧ BytesAt w13 w13.heap.size ap cp (encN 0)) :=
    ⟨gb_trans HG8.out.1 (hg), ⟨(RAt.stay HG8.out.2.1.1 (hg)).full, (RAt.stay HG8.out.2.1.2.1 (hg)).full, (RAt.stay HG8.out.2.1.2.2 (hg)).full⟩, HG8.out.2.2.1.grown (hg) (by simp), HG8.out.2.2.2.1.grown (hg) (by simp), HG8.out.2.2.2.2.1.grown (hg) (by simp), (HG8.out.2.2.2.2.2.1.stay hg).full, HG8.out.2.2.2.2.2.2.1, (HG8.out.2.2.2.2.2.2.2.1.stay hg).full, HG8.out.2.2.2.2.2.2.2.2, hbp⟩
  clear hg hg13 ho13 hbp HG8 HG12 HP
  obtain ⟨W14, hW14⟩ : ∃ W14, W14 = w13.alloc (.cells #[.string ⟨#[107]⟩, iV 1, iV 1, .slice a1 0 c1, .bool false, .slice none 0 0, .slice (some ⟨p1, 0, none⟩) 64 64, .string ⟨#[107]⟩, iV 2, iV 1, .slice a2 0 c2, .bool false, .slice none 0 0, .slice (some ⟨p2, 0, none⟩) 64 64] 66) := ⟨_, rfl⟩
  have hgW14 : w13.grownBy W14 none := by rw [hW14]; exact gb_alloc (gb_refl _ _) _
  have hm : ∀ z ∈ ([ofE 1 1 [] a1 c1 p1, ofE 2 1 [] a2 c2 p2] : List E), RAt w13 w13.heap.size z.1 z.2 := by
    intro z hz
    simp only [List.mem_cons, List.not_mem_nil, or_false] at hz
    rcases hz with rfl | rfl
    · exact HG13.out.2.1.1
    · exact HG13.out.2.1.2.1
  have hr : RRow W14 (w13.heap.size + 1) (some ⟨w13.heap.size, 0, none⟩) [ofE 1 1 [] a1 c1 p1, ofE 2 1 [] a2 c2 p2] := by
    rw [hW14]
    exact rrow_new w13 66 [ofE 1 1 [] a1 c1 p1, ofE 2 1 [] a2 c2 p2] hm
  have HS := Lib.hid (sameRecs_any w13.heap.size (w13.heap.size + 1) 2 2 cj 2 aj (some ⟨w13.heap.size, 0, none⟩) out1 [ofE 1 1 [] a1 c1 p1, ofE 2 1 [] a2 c2 p2] W14 (by have h := congrArg List.length (HG13.out.2.2.2.2.2.2.1); rw [recs_len] at h; exact h) rfl ((HG13.out.2.2.2.2.2.1).stay hgW14) hr (by decide))
  have HT : Hid (sameL (recs out1) (recs [ofE 1 1 [] a1 c1 p1, ofE 2 1 [] a2 c2 p2]) = true) := by
    show sameL _ _ = true
    rw [HG13.out.2.2.2.2.2.2.1]
    exact decide_eq_true rfl
  have HGW14 := Lib.hid hgW14
  have z0_0 := (HG13.out.2.2.1).cell (i := 0) rfl
  have z0_1 := (HG13.out.2.2.1).cell (i := 1) rfl
  have z0_2 := (HG13.out.2.2.1).cell (i := 2) rfl
  have z0_3 := (HG13.out.2.2.1).cell (i := 3) rfl
  have z0_4 := (HG13.out.2.2.1).cell (i := 4) rfl
  have z0_5 := (HG13.out.2.2.1).cell (i := 5) rfl
  have z0_6 := (HG13.out.2.2.1).cell (i := 6) rfl
  have z1_0 := (HG13.out.2.2.2.1).cell (i := 0) rfl
  have z1_1 := (HG13.out.2.2.2.1).cell (i := 1) rfl
  have z1_2 := (HG13.out.2.2.2.1).cell (i := 2) rfl
  have z1_3 := (HG13.out.2.2.2.1).cell (i := 3) rfl
  have z1_4 := (HG13.out.2.2.2.1).cell (i := 4) rfl
  have z1_5 := (HG13.out.2.2.2.1).cell (i := 5) rfl
  have z1_6 := (HG13.out.2.2.2.1).cell (i := 6) rfl
  clear hgW14 hm hr
  have h8 : encN 0 = List.replicate 8 0 := by decide +kernel
  go_wp2_with fail
  rw [← hW14]
  clear hW14
  refine HS.out.mono ?_
  rintro e w15 ⟨rfl, hg15⟩
  rw [HT.out]
  have hg := gb_trans HGW14.out hg15
  clear HS HT z0_0 z0_1 z0_2 z0_3 z0_4 z0_5 z0_6 z1_0 z1_1 z1_2 z1_3 z1_4 z1_5 z1_6
  have HG15 : Hid (w.grownBy w15 none ∧ (RAt w15 w15.heap.size (ofE 1 1 [] a1 c1 p1).1 exA ∧ RAt w15 w15.heap.size (ofE 2 1 [] a2 c2 p2).1 exB ∧ RAt w15 w15.heap.size (ofE 2 2 [1, 1, 2, 1] a3 c3 p3).1 exC) ∧ Blk w15 N 66 [.string ⟨#[107]⟩, iV 1, iV 1, .slice a1 0 c1, .bool false, .slice none 0 0, .slice (some ⟨p1, 0, none⟩) 64 64] ∧ Blk w15 (N + 1) 66 [.string ⟨#[107]⟩, iV 2, iV 1, .slice a2 0 c2, .bool false, .slice none 0 0, .slice (some ⟨p2, 0, none⟩) 64 64] ∧ Blk w15 (N + 1 + 1) 66 [.string ⟨#[107]⟩, iV 2, iV 2, .slice a3 2 c3, .bool false, .slice none 0 0, .slice (some ⟨p3, 0, none⟩) 64 64] ∧ RRow w15 w15.heap.size ak out2 ∧ recs out2 = [exC] ∧ BytesAt w15 w15.heap.size ap cp (encN 0)) :=
    ⟨gb_trans HG13.out.1 (hg), ⟨(RAt.stay HG13.out.2.1.1 (hg)).full, (RAt.stay HG13.out.2.1.2.1 (hg)).full, (RAt.stay HG13.out.2.1.2.2 (hg)).full⟩, HG13.out.2.2.1.grown (hg) (by simp), HG13.out.2.2.2.1.grown (hg) (by simp), HG13.out.2.2.2.2.1.grown (hg) (by simp), (HG13.out.2.2.2.2.2.2.2.1.stay hg).full, HG13.out.2.2.2.2.2.2.2.2.1, (HG13.out.2.2.2.2.2.2.2.2.2.stay hg).full⟩
  clear hg hg15 HGW14 HG13
  obtain ⟨W16, hW16⟩ : ∃ W16, W16 = w15.alloc (.cells #[.string ⟨#[107]⟩, iV 2, iV 2, .slice a3 2 c3, .bool false, .slice none 0 0, .slice (some ⟨p3, 0, none⟩) 64 64] 66) := ⟨_, rfl⟩
  have hgW16 : w15.grownBy W16 none := by rw [hW16]; exact gb_alloc (gb_refl _ _) _
  have hm : ∀ z ∈ ([ofE 2 2 [1, 1, 2, 1] a3 c3 p3] : List E), RAt w15 w15.heap.size z.1 z.2 := by
    intro z hz
    simp only [List.mem_cons, List.not_mem_nil, or_false] at hz
    rcases hz with rfl
    · exact HG15.out.2.1.2.2
  have hr : RRow W16 (w15.heap.size + 1) (some ⟨w15.heap.size, 0, none⟩) [ofE 2 2 [1, 1, 2, 1] a3 c3 p3] := by
    rw [hW16]
    exact rrow_new w15 66 [ofE 2 2 [1, 1, 2, 1] a3 c3 p3] hm
  have HS := Lib.hid (sameRecs_any w15.heap.size (w15.heap.size + 1) 1 1 ck 1 ak (some ⟨w15.heap.size, 0, none⟩) out2 [ofE 2 2 [1, 1, 2, 1] a3 c3 p3] W16 (by have h := congrArg List.length (HG15.out.2.2.2.2.2.2.1); rw [recs_len] at h; exact h) rfl ((HG15.out.2.2.2.2.2.1).stay hgW16) hr (by decide))
  have HT : Hid (sameL (recs out2) (recs [ofE 2 2 [1, 1, 2, 1] a3 c3 p3]) = true) := by
    show sameL _ _ = true
    rw [HG15.out.2.2.2.2.2.2.1]
    exact decide_eq_true rfl
  have HGW16 := Lib.hid hgW16
  have z0_0 := (HG15.out.2.2.2.2.1).cell (i := 0) rfl
  have z0_1 := (HG15.out.2.2.2.2.1).cell (i := 1) rfl
  have z0_2 := (HG15.out.2.2.2.2.1).cell (i := 2) rfl
  have z0_3 := (HG15.out.2.2.2.2.1).cell (i := 3) rfl
  have z0_4 := (HG15.out.2.2.2.2.1).cell (i := 4) rfl
  have z0_5 := (HG15.out.2.2.2.2.1).cell (i := 5) rfl
  have z0_6 := (HG15.out.2.2.2.2.1).cell (i := 6) rfl
  clear hgW16 hm hr
  go_wp2_with fail
  rw [← hW16]
  clear hW16
  refine HS.out.mono ?_
  rintro e w17 ⟨rfl, hg17⟩
  rw [HT.out]
  have hg := gb_trans HGW16.out hg17
  have hgw := gb_trans HG15.out.1 hg
  have hbp := (HG15.out.2.2.2.2.2.2.2.stay hg).full
  clear HS HT HGW16 HG15 hg hg17 z0_0 z0_1 z0_2 z0_3 z0_4 z0_5 z0_6
  obtain ⟨w18, hmk, hg18, hs18, hb18⟩ := make_bytes 8 8 w17 (Nat.le_refl _) (by omega)
  have hmk' : (Instr.makeSlice 23 (.int .i64 8) (.int .i64 8)).run Tryz.prog w17 = .ok (.slice (some ⟨w17.heap.size, 0, none⟩) 8 8) w18 := hmk
  have hz8 : BytesAt w18 w18.heap.size (some ⟨w17.heap.size, 0, none⟩) 8 (List.replicate 8 0) := by
    refine ⟨Nat.le_refl _, by simp, (by decide : (8 : Nat) < 9223372036854775808), fun i => ?_, Or.inr ⟨w17.heap.size, 0, rfl, by omega, fun i hi => ?_⟩⟩
    · rw [List.getD_eq_getElem?_getD, List.getElem?_replicate]; split <;> simp
    · have hi2 : i < 8 := by simpa using hi
      rw [Nat.zero_add]
      refine hb18.cell ?_
      rw [List.getElem?_replicate, if_pos hi2, List.getD_eq_getElem?_getD, List.getElem?_replicate, if_pos hi2]; rfl
  have HB := Lib.hid (sameBytes_any w18.heap.size w18.heap.size 8 8 cp 8 ap (some ⟨w17.heap.size, 0, none⟩) (encN 0) (List.replicate 8 0) w18 (encN_length 0) rfl (hbp.stay hg18).full hz8)
  rw [h8, decide_eq_true rfl] at HB
  have HW := Lib.hid (gb_trans hgw hg18)
  clear hbp hz8 hg18 hs18 hb18 hmk hgw h8
  go_wp2_with fail
  refine HB.out.mono ?_
  rintro e w19 ⟨rfl, hg19⟩
  have HW2 := Lib.hid (gb_trans HW.out hg19)
  clear hg19
  go_wp2
  go_ret
  exact ⟨rfl, HW2.out⟩
end Sb
end Go.Proofs.YtlkiancedgaicaaGreat

/- Sets' bytes, and the set that any bytes are: mathematics. -/
namespace Go.Proofs.YtlkiancedgaicaaGreat
open Wi Ve Rc
namespace Sb
/-- records' bytes, each with their number ahead -/
def rowsL (l : List R) : List Nat := l.flatMap fun r => rowL (putL r)
def setL (l : List R) : List Nat := encN (l.length : Int) ++ rowsL l
/-- so many records, read one behind the other -/
def rS (m : Int) (st : St) : Nat → Option (List R × St)
  | 0 => some ([], st)
  | k + 1 => match rS m st k with
    | none => none
    | some p => if getB (bytesS m p.2).1 then some (p.1 ++ [recR (some (bytesS m p.2).1)], (bytesS m p.2).2) else none
theorem rS_succ (m : Int) (st : St) (k : Nat) : rS m st (k + 1) = match rS m st k with
    | none => none
    | some p => if getB (bytesS m p.2).1 then some (p.1 ++ [recR (some (bytesS m p.2).1)], (bytesS m p.2).2) else none := rfl
def cS (b : List Nat) : Int × St := countS (b.length : Int) (some b)
def doneS : Option (List R × St) → Option (List R)
  | some (l, some []) => some l
  | _ => none
def readL (b : List Nat) : Option (List R) := doneS (rS (b.length : Int) (cS b).2 (cS b).1.toNat)
def getL (b : List Nat) : Option (List R) := match readL b with
  | some l => if setB l then some l else none
  | none => none
theorem getB_inv {x : List Nat} (h : getB x = true) : putL (recR (some x)) = x ∧ rightB (recR (some x)) = true := by
  simp only [getB, Bool.and_eq_true, decide_eq_true_eq] at h; exact ⟨h.2, h.1⟩
theorem rowsL_app (l m : List R) : rowsL (l ++ m) = rowsL l ++ rowsL m := by simp [rowsL]
theorem rowsL_one (r : R) : rowsL [r] = rowL (putL r) := by simp [rowsL]
theorem rS_inv {m : Int} {st : St} (ho : OkS st) : ∀ {k : Nat} {l : List R} {r : List Nat}, rS m st k = some (l, some r) → st = some (rowsL l ++ r) ∧ l.length = k := by
  intro k
  induction k with
  | zero => intro l r h; simp only [rS, Option.some.injEq, Prod.mk.injEq] at h; obtain ⟨rfl, rfl⟩ := h; exact ⟨by simp [rowsL], rfl⟩
  | succ k ih =>
    intro l r h
    rw [rS_succ] at h
    cases hk : rS m st k with
    | none => rw [hk] at h; cases h
    | some p =>
      obtain ⟨l0, s⟩ := p
      rw [hk] at h
      simp only at h
      split at h
      · rename_i hg
        simp only [Option.some.injEq, Prod.mk.injEq] at h
        obtain ⟨rfl, h2⟩ := h
        have hs : ∃ r0, s = some r0 := by
          cases s with
          | none => cases h2
          | some r0 => exact ⟨r0, rfl⟩
        obtain ⟨r0, rfl⟩ := hs
        obtain ⟨e1, e2⟩ := ih hk
        have ho2 : OkS (some r0) := fun x hx b hb => by
          cases hx
          exact ho _ e1 b (List.mem_append_right _ hb)
        obtain ⟨e3, _⟩ := bytes_inv h2 ho2
        refine ⟨?_, by simp [e2]⟩
        have e4 := Option.some.inj e3
        generalize hx : (bytesS m (some r0)).1 = x at *
        rw [e1, rowsL_app, rowsL_one, (getB_inv hg).1, e4, List.append_assoc]
      · cases h
theorem doneS_inv {x : Option (List R × St)} {l : List R} (h : doneS x = some l) : x = some (l, some []) := by
  unfold doneS at h
  split at h
  · cases h; rfl
  · cases h
theorem readL_inv {b : List Nat} (ho : ∀ x ∈ b, x < 256) {l : List R} (h : readL b = some l) : setL l = b := by
  have h1 := doneS_inv h
  have o0 : OkS (some b) := fun l hl => by cases hl; exact ho
  have o1 : OkS (cS b).2 := okS_count o0
  obtain ⟨e1, e2⟩ := rS_inv o1 h1
  rw [List.append_nil] at e1
  obtain ⟨e3, h0, _⟩ := count_inv (most := (b.length : Int)) (st := some b) e1 o0
  have e4 : ((l.length : Nat) : Int) = (cS b).1 := by rw [e2]; exact Int.toNat_of_nonneg h0
  unfold setL
  rw [e4]
  exact (Option.some.inj e3).symm
theorem getL_inv {b : List Nat} (ho : ∀ x ∈ b, x < 256) {l : List R} (h : getL b = some l) : setL l = b ∧ setB l = true := by
  unfold getL at h
  cases hr : readL b with
  | none => rw [hr] at h; cases h
  | some m =>
    rw [hr] at h
    simp only at h
    split at h
    · rename_i hs
      cases h
      exact ⟨readL_inv ho hr, hs⟩
    · cases h
theorem rS_put (m : Int) (tl : List Nat) (l : List R) (hr : ∀ r ∈ l, rightB r = true) (hm : ∀ r ∈ l, ((putL r).length : Int) ≤ m) (hm2 : m < 9223372036854775808) : ∀ k, k ≤ l.length → rS m (some (rowsL l ++ tl)) k = some (l.take k, some (rowsL (l.drop k) ++ tl)) := by
  intro k
  induction k with
  | zero => intro _; simp [rS]
  | succ k ih =>
    intro hk
    have hd : l.drop k = l[k] :: l.drop (k + 1) := List.drop_eq_getElem_cons (by omega)
    have hmem : l[k] ∈ l := List.getElem_mem _
    have hl := hm _ hmem
    have e : rowsL (l.drop k) ++ tl = rowL (putL l[k]) ++ (rowsL (l.drop (k + 1)) ++ tl) := by
      rw [hd, show l[k] :: l.drop (k + 1) = [l[k]] ++ l.drop (k + 1) from rfl, rowsL_app, rowsL_one, List.append_assoc]
    rw [rS_succ, ih (by omega), e]
    simp only []
    rw [row_put m _ _ hl (by omega)]
    obtain ⟨g1, g2⟩ := get_put (hr _ hmem)
    simp only [g1, if_true, g2]
    rw [List.take_add_one, List.getElem?_eq_getElem (by omega)]
    rfl
theorem rowL_length (x : List Nat) : (rowL x).length = 8 + x.length := by simp [rowL, encN_length]
theorem rowsL_mem {l : List R} {r : R} (h : r ∈ l) : (putL r).length ≤ (rowsL l).length := by
  induction l with
  | nil => cases h
  | cons a l ih =>
    rw [show a :: l = [a] ++ l from rfl, rowsL_app, rowsL_one, List.length_append, rowL_length]
    rcases List.mem_cons.1 h with rfl | h
    · omega
    · have := ih h; omega
theorem rowsL_le (l : List R) : l.length * 8 ≤ (rowsL l).length := by
  induction l with
  | nil => simp
  | cons a l ih =>
    have e : rowsL (a :: l) = rowL (putL a) ++ rowsL l := by rw [show a :: l = [a] ++ l from rfl, rowsL_app, rowsL_one]
    rw [e, List.length_append, rowL_length, List.length_cons]; omega
theorem setL_len (l : List R) : (setL l).length = 8 + (rowsL l).length := by simp [setL, encN_length]
theorem readL_put {l : List R} (tl : List Nat) (hr : ∀ r ∈ l, rightB r = true) (hb : (setL l ++ tl).length < 9223372036854775808) : readL (setL l ++ tl) = if tl = [] then some l else none := by
  have h8 := rowsL_le l
  have hl := setL_len l
  have e : cS (setL l ++ tl) = ((l.length : Int), some (rowsL l ++ tl)) := by
    unfold cS
    rw [show setL l ++ tl = encN (l.length : Int) ++ (rowsL l ++ tl) from by simp [setL]]
    rw [List.length_append] at hb
    exact count_put _ _ _ (by omega) (by rw [List.length_append, List.length_append, encN_length]; omega) (by omega)
  unfold readL
  rw [e]
  simp only [Int.toNat_natCast]
  rw [rS_put _ tl l hr (fun r h => by have := rowsL_mem h; rw [List.length_append]; omega) (by omega) _ (Nat.le_refl _)]
  rw [List.take_length, List.drop_length]
  simp only [rowsL, List.flatMap_nil, List.nil_append]
  cases tl with
  | nil => rfl
  | cons x tl => rfl
theorem getL_put {l : List R} (h : setB l = true) (hb : (setL l).length < 9223372036854775808) : getL (setL l) = some l := by
  have := readL_put (l := l) [] (fun x hx => ((alike_iff l).1 (set_of h).1 x hx).1) (by simpa using hb)
  rw [List.append_nil, if_pos rfl] at this
  unfold getL
  rw [this]
  simp only [h, if_true]
theorem getL_more {l : List R} (h : setB l = true) {tl : List Nat} (ht : tl ≠ []) (hb : (setL l ++ tl).length < 9223372036854775808) : getL (setL l ++ tl) = none := by
  have := readL_put (l := l) tl (fun x hx => ((alike_iff l).1 (set_of h).1 x hx).1) hb
  rw [if_neg ht] at this
  unfold getL
  rw [this]
theorem getL_less {l : List R} (h : setB l = true) {k : Nat} (hk : k < (setL l).length) (ho : ∀ x ∈ setL l, x < 256) (hb : (setL l).length < 9223372036854775808) : getL ((setL l).take k) = none := by
  cases hg : getL ((setL l).take k) with
  | none => rfl
  | some m =>
    obtain ⟨e, hm⟩ := getL_inv (fun x hx => ho x (List.mem_of_mem_take hx)) hg
    have e2 : setL l = setL m ++ (setL l).drop k := by rw [e, List.take_append_drop]
    have h3 := getL_more hm (tl := (setL l).drop k) (fun he => by have := List.drop_eq_nil_iff.1 he; omega) (by rw [← e2]; exact hb)
    rw [← e2, getL_put h hb] at h3
    cases h3
end Sb
end Go.Proofs.YtlkiancedgaicaaGreat

/- A set's bytes: bytes, Put. -/
namespace Go.Proofs.YtlkiancedgaicaaGreat
open Go.RowKit Ow Wi Ve Rc
namespace Sb
theorem recs_length (l : List E) : (recs l).length = l.length := List.length_map _
theorem parts_block {w : World} {base : Nat} {v : Value} {L : List (List Nat)} (h : Parts w base v L) : ∀ g, v.ownBlock = some g → base ≤ g ∧ g < w.heap.size := by
  obtain ⟨xs, ho, _⟩ := h
  exact ho.lt
theorem parts_gb {w a b : World} {v : Value} {L : List (List Nat)} (hg : w.grownBy a none) (h : Parts a w.heap.size v L) (k : a.grownBy b v.ownBlock) : w.grownBy b none := by
  obtain ⟨xs, ho, _⟩ := h
  exact own_gb hg ho k
/-- a row of one row of bytes, just laid -/
theorem parts_one (w : World) (a : Option Addr) (n c : Nat) (l : List Nat) (hl : l.length = n) (h : BytesAt w w.heap.size a c l) (hlt : ∀ pb po, a = some ⟨pb, po, none⟩ → pb < w.heap.size) :
    Parts (w.alloc (.cells #[.slice a n c] 23)) w.heap.size (.slice (some ⟨w.heap.size, 0, none⟩) 1 1) [l] := by
  subst hl
  have hg := gb_alloc (gb_refl w none) (.cells #[.slice a l.length c] 23)
  refine ⟨[.slice a l.length c], ⟨rfl, Or.inr ⟨w.heap.size, 1, #[.slice a l.length c], rfl, Nat.le_refl _, Blk.new w [.slice a l.length c] 23, Nat.le_refl _, by decide, rfl, rfl⟩⟩, fun i hi => ?_⟩
  obtain rfl : i = 0 := by simp at hi; omega
  refine ⟨a, c, rfl, (h.stay hg).full, fun pb po e => ⟨fun e2 => ?_, Nat.lt_of_lt_of_le (hlt pb po e) hg.size⟩⟩
  simp only [Value.ownBlock, Option.some.injEq] at e2
  have := hlt pb po e; omega
theorem rowsL_flat (n : Nat) (l : List R) (hn : l.length = n) : (encN (n : Int) :: l.map fun r => rowL (putL r)).flatten = setL l := by
  subst hn
  rw [List.flatten_cons]; unfold setL rowsL; rw [List.flatMap_def]
theorem putO_right {r : R} (h : rightB r = true) : putO r = putL r := by unfold putO; rw [if_pos h]
set_option maxHeartbeats 2000000 in
set_option maxRecDepth 100000 in
theorem sbytes_any (B n c : Nat) (a : Option Addr) (l : List E) (w : World) (hn : l.length = n) (h : RRow w B a l) (hr : ∀ x ∈ l, rightB x.2 = true) (hs : (setL (recs l)).length ≤ 900000) :
    Calls Tryz.prog 85 #[.slice a n c] w fun e w' => ∃ v, e = .returned v ∧ w.grownBy w' none ∧ w'.ownsRow w.heap.size 5 1 v (setL (recs l)).length ((setL (recs l)).map u8N) := by
  have hn9 : n ≤ 900000 := by have h1 := rowsL_le (recs l); have h2 := setL_len (recs l); rw [recs_length, hn] at h1; omega
  have hpl : ∀ x ∈ l, (putL x.2).length ≤ 900000 := fun x hx => by
    have h1 := rowsL_mem (l := recs l) (r := x.2) (List.mem_map.2 ⟨x, hx, rfl⟩)
    have h2 := setL_len (recs l)
    omega
  obtain ⟨Q, hQ⟩ : ∃ Q : Ending → World → Prop, Q = fun e w' => ∃ v, e = .returned v ∧ w.grownBy w' none ∧ w'.ownsRow w.heap.size 5 1 v (setL (recs l)).length ((setL (recs l)).map u8N) := ⟨_, rfl⟩
  rw [← hQ]
  have HQ := Lib.hid hQ
  have H := Lib.hid (And.intro h (And.intro hn (And.intro hr (And.intro hs hpl)))); clear hQ h hn hr hs hpl
  have HN := Lib.hid (numF_any (n : Int) w)
  go_enter Tryz.func85, Tryz.ntmps85
  go_wp2_with fail
  refine HN.out.mono ?_
  rintro e w1 ⟨g, rfl, hg, hge, hb⟩
  have HP0 : Hid (w.grownBy (w1.alloc (.cells #[.slice (some ⟨g, 0, none⟩) 8 8] 23)) none ∧ Parts (w1.alloc (.cells #[.slice (some ⟨g, 0, none⟩) 8 8] 23)) w.heap.size (.slice (some ⟨w1.heap.size, 0, none⟩) 1 1) [encN (n : Int)]) := by
    obtain ⟨xs, h1, h2⟩ := parts_one w1 (some ⟨g, 0, none⟩) 8 8 (encN (n : Int)) (encN_length _) (numF_bytes hb) (fun pb po e => by cases e; exact hb.lt)
    exact ⟨gb_alloc hg _, xs, own_down h1 hg.size, h2⟩
  clear hg hge hb HN
  go_wp2_with fail
  go_loopw [3, 12] (fun v i wr => ∃ (k : Nat), k ≤ n ∧ i = .int .i64 k ∧ Hid (w.grownBy wr none ∧ Parts wr w.heap.size v (encN (n : Int) :: (recs (l.take k)).map fun r => rowL (putL r)))) (fun _ i _ => n - (intOf i).toNat)
  case atStart => exact ⟨0, by omega, rfl, HP0.out⟩
  case round =>
    obtain ⟨k, hk, rfl, HI⟩ := hrel
    by_cases hlt : k < n
    · have hkl : k < l.length := by rw [H.out.2.1]; exact hlt
      obtain ⟨pb, po, rfl, hpb, hcs⟩ := (H.out.1.stay HI.out.1).at (by omega)
      have hx := hcs k hkl
      have hra := (H.out.1.stay HI.out.1).recs _ (getD_mem hkl)
      have hrx := H.out.2.2.1 _ (getD_mem hkl)
      have hpx := H.out.2.2.2.2 _ (getD_mem hkl)
      have hnx := recs_take l k hkl
      generalize l.getD k e0 = x at *
      have hmap : (encN (n : Int) :: (recs (l.take (k + 1))).map fun r => rowL (putL r)) = (encN (n : Int) :: (recs (l.take k)).map fun r => rowL (putL r)) ++ [rowL (putL x.2)] := by
        rw [hnx, List.map_append]; rfl
      have hlen : (encN (n : Int) :: (recs (l.take k)).map fun r => rowL (putL r)).length ≤ 1000000 := by
        rw [List.length_cons, List.length_map, recs_length, List.length_take]; omega
      have HOWN := Lib.hid (fun w' (hg : wr.grownBy w' none) => sown_any x B w' (hra.stay hg))
      rw [putO_right hrx] at HOWN
      obtain ⟨P, hP⟩ : ∃ P, P = putL x.2 := ⟨_, rfl⟩
      rw [← hP] at HOWN hmap hpx
      generalize (encN (n : Int) :: (recs (l.take k)).map fun r => rowL (putL r)) = L at *
      obtain ⟨q, hq⟩ : ∃ q, P.length = q := ⟨_, rfl⟩
      rw [hq] at hpx
      have HI2 := Lib.hid (And.intro HI.out.1 (And.intro HI.out.2 (And.intro hmap (And.intro hlen hq))))
      clear hP hra hrx hnx hcs hmap hlen hq HI
      obtain ⟨⟨s, a1, n1, c1, a2, n2, c2, a3, n3, c3⟩, ⟨key, cl, sq, cx, g0, val, sig⟩⟩ := x
      obtain ⟨c0', c1', c2', c3', c4', c5', c6'⟩ := cells_of hx
      have hgA := gb_alloc (gb_refl wr none) (.cells #[.string s, iV cl, iV sq, .slice a1 n1 c1, .bool g0, .slice a2 n2 c2, .slice a3 n3 c3] 66)
      obtain ⟨w3, hw3⟩ : ∃ w3, w3 = wr.alloc (.cells #[.string s, iV cl, iV sq, .slice a1 n1 c1, .bool g0, .slice a2 n2 c2, .slice a3 n3 c3] 66) := ⟨_, rfl⟩
      obtain ⟨M, hM⟩ : ∃ M, M = wr.heap.size := ⟨_, rfl⟩
      rw [← hw3] at hgA
      have HG3 := Lib.hid hgA; clear hgA hx
      replace HOWN : Hid (∀ w', wr.grownBy w' none → Calls Tryz.prog 144 #[vV s cl sq a1 n1 c1 g0 a2 n2 c2 a3 n3 c3] w' (YOut w' P)) := HOWN
      have hi : (k : Int) < (n : Int) := by omega
      go_wp2_with fail
      rw [← hw3, ← hM]
      clear hw3 hM c0' c1' c2' c3' c4' c5' c6'
      refine (HOWN.out w3 HG3.out).mono ?_
      rintro e w4 ⟨a4, c4, rfl, hg4, hB4⟩
      rw [HI2.out.2.2.2.2]
      have HBF := Lib.hid (bytesF_any q c4 w4.heap.size a4 P w4 HI2.out.2.2.2.2 hpx hB4)
      have HG4 := Lib.hid (gb_trans HG3.out hg4)
      have HB4 := Lib.hid hB4.byte
      clear hg4 hB4 HOWN
      go_wp2_with fail
      refine HBF.out.mono ?_
      rintro e w5 ⟨v5, rfl, hg5, ho5⟩
      obtain ⟨a5, c5, rfl, hl5, hB5, hbs⟩ := own_slice (l := rowL P) (by unfold rowL; rw [HI2.out.2.2.2.2]; exact ho5) (by unfold rowL; exact app_byte (encN_byte _) HB4.out)
      have hgw := gb_trans HG4.out hg5
      have hp5 := HI2.out.2.1.stay hgw
      have hpb2 := parts_block HI2.out.2.1
      obtain ⟨v6, w6, hap, hp6, hg6, _⟩ := parts_push w5 w.heap.size u3 L a5 (8 + q) c5 (rowL P) hp5 hl5 hB5 (fun pb po e => ⟨fun e2 => by have h1 := (hbs pb po e).1; have h2 := (hpb2 pb e2).2; have h3 := HG4.out.size; omega, (hbs pb po e).2⟩) (gb_trans HI2.out.1 hgw).size HI2.out.2.2.2.1
      have H6 := Lib.hid (And.intro (parts_gb (gb_trans HI2.out.1 hgw) hp5 hg6) hp6)
      have hb5 := (hbs)
      clear hg5 ho5 hB5 hbs hp5 hpb2 hp6 hg6 HBF hl5 hgw hb5
      go_wp2_with (at_builtin; refine wpList_append_run rfl (.tmp 16) (.tmp 20) 22 rfl rfl _ _ rfl rfl _ _ hap ?_)
      exact ⟨⟨k + 1, by omega, rfl, H6.out.1, by rw [HI2.out.2.2.1]; exact H6.out.2⟩, by show n - ((k : Int) + 1).toNat < n - (k : Int).toNat; omega⟩
    · obtain rfl : k = n := by omega
      have hp := HI.out.2
      rw [List.take_of_length_le (by rw [H.out.2.1]; exact Nat.le_refl _)] at hp
      have hfl := rowsL_flat k (recs l) (by rw [recs_length]; exact H.out.2.1)
      have hll : (encN (k : Int) :: (recs l).map fun r => rowL (putL r)).length = k + 1 := by rw [List.length_cons, List.length_map, recs_length, H.out.2.1]
      generalize (encN (k : Int) :: (recs l).map fun r => rowL (putL r)) = L at *
      obtain ⟨aP, cP, rfl, hRP⟩ := hp.rows
      have HJ := Lib.hid (join_any L.length cP wr.heap.size L aP wr rfl hRP (by omega) (by rw [hfl]; have := H.out.2.2.2.1; omega))
      rw [hfl, hll] at HJ
      rw [hll]
      have HG := Lib.hid HI.out.1
      clear hp hRP hfl hll hlt HI
      go_wp2_with fail
      refine HJ.out.mono ?_
      rintro e w2 ⟨v, rfl, hg2, ho⟩
      have HE : Hid (Q (.returned v) w2) := by
        show Q _ _
        rw [HQ.out]
        exact ⟨v, rfl, gb_trans HG.out hg2, own_down ho HG.out.size⟩
      clear hg2 ho
      go_wp2
      exact HE.out
end Sb
end Go.Proofs.YtlkiancedgaicaaGreat

/- Put: a right set's bytes, or the error. -/
namespace Go.Proofs.YtlkiancedgaicaaGreat
open Go.RowKit Ow Wi Ve Rc
namespace Sb
theorem enter_putS : ∀ args w, (callFunc 83 args).run Tryz.prog w = .ok (.enter 83 args) w := enters_of Tryz.func83 (by kernel_rfl) rfl
/-- what a right set's bytes come to -/
def BOwn (w : World) (base : Nat) (l : List Nat) (v : Value) : Prop := w.ownsRow base 5 1 v l.length (l.map u8N)
theorem right_of {l : List E} (h : setB (recs l) = true) : ∀ x ∈ l, rightB x.2 = true := fun x hx => ((alike_iff (recs l)).1 (set_of h).1 x.2 (List.mem_map.2 ⟨x, hx, rfl⟩)).1
set_option maxHeartbeats 1000000 in
theorem put1_yes (N B n c : Nat) (a : Option Addr) (l : List E) (w : World) (hN : w.cell? ⟨N, 0, none⟩ = some (.slice a n c)) (hn : l.length = n) (h : RRow w B a l) (hc : n ≤ 1000000) (hs : setB (recs l) = true) (hb : (setL (recs l)).length ≤ 900000) :
    Calls Tryz.prog 83 #[.pointer (some ⟨N, 0, none⟩)] w fun e w' => ∃ v, e = .returned v ∧ w.grownBy w' none ∧ BOwn w' w.heap.size (setL (recs l)) v := by
  have HC := Lib.hid (checked_any B n c a l w hn h hc)
  have H := Lib.hid (And.intro h (And.intro hn hb))
  clear h hn hb
  go_enter Tryz.func83, Tryz.ntmps83
  go_wp2_with fail
  refine HC.out.mono ?_
  rintro e w1 ⟨⟨_, rfl⟩ | ⟨h1, _⟩, hg⟩
  · have HB := Lib.hid (sbytes_any B n c a l w1 H.out.2.1 (H.out.1.stay hg) (right_of hs) H.out.2.2)
    have HG := Lib.hid hg; clear hg
    go_wp2_with fail
    refine HB.out.mono ?_
    rintro e w2 ⟨v, rfl, hg2, ho⟩
    have HE := Lib.hid (And.intro (gb_trans HG.out hg2) (own_down ho HG.out.size)); clear hg2 ho
    go_wp2
    go_ret
    exact ⟨v, rfl, HE.out⟩
  · rw [hs] at h1; cases h1
set_option maxHeartbeats 1000000 in
theorem put1_no (N B n c : Nat) (a : Option Addr) (l : List E) (w : World) (hN : w.cell? ⟨N, 0, none⟩ = some (.slice a n c)) (hn : l.length = n) (h : RRow w B a l) (hc : n ≤ 1000000) (hs : setB (recs l) = false) :
    Calls Tryz.prog 83 #[.pointer (some ⟨N, 0, none⟩)] w fun e w' => Dies e ∧ w.grownBy w' none := by
  have HC := Lib.hid (checked_any B n c a l w hn h hc)
  clear h hn
  obtain ⟨Q, hQ⟩ : ∃ Q : Ending → World → Prop, Q = fun e w' => Dies e ∧ w.grownBy w' none := ⟨_, rfl⟩
  rw [← hQ]
  have HQ := Lib.hid hQ; clear hQ
  go_enter Tryz.func83, Tryz.ntmps83
  go_wp2_with fail
  refine HC.out.mono ?_
  rintro e w1 ⟨⟨h1, _⟩ | ⟨_, ⟨u, pv, rfl⟩⟩, hg⟩
  · rw [hs] at h1; cases h1
  · exact ⟨rfl, by rw [HQ.out]; exact ⟨⟨u, pv, rfl⟩, hg⟩⟩
def PutOut (w : World) (l : List R) (e : Ending) (w' : World) : Prop :=
  w.grownBy w' none ∧ if setB l then ∃ v, e = .returned (.tuple #[v, .int .i64 0]) ∧ BOwn w' w.heap.size (setL l) v else e = .returned (.tuple #[.slice none 0 0, .int .i64 4])
set_option maxHeartbeats 1000000 in
theorem sput_any (B n c : Nat) (a : Option Addr) (l : List E) (w : World) (hn : l.length = n) (h : RRow w B a l) (hc : n ≤ 1000000) (hb : setB (recs l) = true → (setL (recs l)).length ≤ 900000) :
    Calls Tryz.prog 42 #[.slice a n c] w (PutOut w (recs l)) := by
  have hmf := smakeF
  obtain ⟨w1, hw1⟩ : ∃ w1, w1 = w.alloc (.cells #[.slice a n c] 48) := ⟨_, rfl⟩
  obtain ⟨N, hN⟩ : ∃ N, N = w.heap.size := ⟨_, rfl⟩
  have hg1 : w.grownBy w1 none := by rw [hw1]; exact gb_alloc (gb_refl _ _) _
  have hb1 : Blk w1 N 48 [.slice a n c] := by rw [hw1]; exact blk_at _ _ _ hN.symm
  obtain ⟨Q, hQ⟩ : ∃ Q, Q = PutOut w (recs l) := ⟨_, rfl⟩
  rw [← hQ]
  have HQ := Lib.hid hQ; clear hQ
  have hcell := (hb1.grown (ebox_gb w1) (by simp)).cell (i := 0) rfl
  have hrow := (h.stay hg1).stay (ebox_gb w1)
  cases hs : setB (recs l) with
  | true =>
    have HT := Lib.hid (stryB_yes 83 #[] #[.pointer (some ⟨N, 0, none⟩)] w1 (fun v w' => BOwn w' (ebox w1).heap.size (setL (recs l)) v) enter_putS (put1_yes N B n c a l (ebox w1) hcell hn hrow hc hs (hb hs)))
    have HG := Lib.hid hg1; clear hg1 hb1 hcell hrow h hn hb
    go_enter Tryz.func42, Tryz.ntmps42
    go_wp2_with fail
    rw [← hw1, ← hN]
    clear hw1 hN
    refine HT.out.mono ?_
    rintro e w' ⟨v, w2, rfl, hg, ho, rfl⟩
    have hes := ebox_size w1
    have hst := gb_set (gb_refl w2 (some w1.heap.size)) 0 (.int .i64 0)
    have HF : Hid (Q (.returned (.tuple #[v, .int .i64 0])) (w2.setCell ⟨w1.heap.size, 0, none⟩ (.int .i64 0))) := by
      show Q _ _
      rw [HQ.out]
      unfold PutOut
      rw [hs, if_pos rfl]
      exact ⟨gb_then (gb_trans (gb_trans HG.out (ebox_gb w1)) hg) hst HG.out.size, v, rfl, own_down (World.ownsRow.kept ho hst (Or.inr fun e => by have := (World.ownsRow.lt ho _ e).1; omega)) (by have := HG.out.size; omega)⟩
    clear ho hg hst hes
    generalize w2.setCell ⟨w1.heap.size, 0, none⟩ (.int .i64 0) = w3 at *
    go_wp2
    exact HF.out
  | false =>
    have HT := Lib.hid (stryB_no 83 #[] #[.pointer (some ⟨N, 0, none⟩)] w1 enter_putS (put1_no N B n c a l (ebox w1) hcell hn hrow hc hs))
    have HG := Lib.hid hg1; clear hg1 hb1 hcell hrow h hn hb
    go_enter Tryz.func42, Tryz.ntmps42
    go_wp2_with fail
    rw [← hw1, ← hN]
    clear hw1 hN
    refine HT.out.mono ?_
    rintro e w' ⟨rfl, hg⟩
    have HF : Hid (Q (.returned (.tuple #[.slice none 0 0, .int .i64 4])) w') := by
      show Q _ _
      rw [HQ.out]
      unfold PutOut
      rw [hs]
      exact ⟨gb_trans HG.out hg, rfl⟩
    clear hg
    go_wp2
    exact HF.out
end Sb
end Go.Proofs.YtlkiancedgaicaaGreat

/- Records that are read, one behind the other: a row of one's own, whose records lie behind a block. -/
namespace Go.Proofs.YtlkiancedgaicaaGreat
open Go.RowKit Ow Wi Ve Rc
namespace Sb
/-- none of a record's parts lies in block g -/
def OffR (g : Nat) (q : L) (r : R) : Prop :=
  (r.cx.length = 0 ∨ ∀ pb po, q.a1 = some ⟨pb, po, none⟩ → pb ≠ g) ∧ (r.val.length = 0 ∨ ∀ pb po, q.a2 = some ⟨pb, po, none⟩ → pb ≠ g) ∧ (r.sig.length = 0 ∨ ∀ pb po, q.a3 = some ⟨pb, po, none⟩ → pb ≠ g)
theorem off_one {n B g : Nat} {a : Option Addr} {P : Nat → Nat → Prop} (h : n = 0 ∨ ∃ pb po, a = some ⟨pb, po, none⟩ ∧ pb < B ∧ P pb po) (hg : B ≤ g) : n = 0 ∨ ∀ pb po, a = some ⟨pb, po, none⟩ → pb ≠ g := by
  rcases h with h | ⟨pb, po, e, hlt, _⟩
  · exact Or.inl h
  · refine Or.inr fun pb' po' e' => ?_
    rw [e] at e'
    simp only [Option.some.injEq, Addr.mk.injEq, and_true] at e'
    omega
theorem off_below {w : World} {B g : Nat} {q : L} {r : R} (h : RAt w B q r) (hg : B ≤ g) : OffR g q r :=
  ⟨off_one h.dots.cells hg, off_one h.val.cells hg, off_one h.sig.cells hg⟩
theorem off_new {n0 g : Nat} {q : L} {r : R} (h : q.New n0) (hg : g < n0) : OffR g q r :=
  ⟨Or.inr fun pb po e => by have := h.1 _ _ e; omega, Or.inr fun pb po e => by have := h.2.1 _ _ e; omega, Or.inr fun pb po e => by have := h.2.2 _ _ e; omega⟩
theorem dots_off {w w' : World} {B T : Nat} {a : Option Addr} {l : List D} (h : DotsAt w B a l) (hg : w.grownBy w' (some T)) (hT : l.length = 0 ∨ ∀ pb po, a = some ⟨pb, po, none⟩ → pb ≠ T) : DotsAt w' B a l := by
  rcases hT with h0 | hT
  · exact ⟨Nat.le_trans h.lim hg.size, Or.inl h0⟩
  · exact dots_apart h hg hT
theorem off_stay {w w' : World} {B g : Nat} {q : L} {r : R} (h : RAt w B q r) (ho : OffR g q r) (hg : w.grownBy w' (some g)) : RAt w' B q r :=
  ⟨h.str, h.l1, h.l2, h.l3, dots_off h.dots hg ho.1, h.val.apart hg ho.2.1, h.sig.apart hg ho.2.2, h.top⟩
theorem new_mono {q : L} {a b : Nat} (h : q.New b) (hab : a ≤ b) : q.New a :=
  ⟨fun g o e => Nat.le_trans hab (h.1 g o e), fun g o e => Nat.le_trans hab (h.2.1 g o e), fun g o e => Nat.le_trans hab (h.2.2 g o e)⟩
/-- a record appended: its row's block is the former one, or a new one -/
theorem append_recN (T : TypeId) (hT : Tryz.prog.underlying T = some (.slice 66)) (w : World) (base : Nat) (v : Value) (l0 : List E) (pb po cc : Nat) (x : E) (hown : OwnR w base v l0) (hx : ∀ j u, (recC x)[j]? = some u → w.cell? ⟨pb, po + j, none⟩ = some u) (hn : l0.length + 1 ≤ 1000000000) (hbase : base ≤ w.heap.size) :
    ∃ v' w', (Builtin.append_ #[T, T] T #[v, .slice (some ⟨pb, po, none⟩) 1 cc]).run Tryz.prog w = .ok v' w' ∧ OwnR w' base v' (l0 ++ [x]) ∧ w.grownBy w' v.ownBlock ∧ ∀ g, v'.ownBlock = some g → v.ownBlock = some g ∨ w.heap.size ≤ g := by
  obtain ⟨v', w', hr, ho, hg⟩ := append_recT T hT w base v l0 pb po cc x hown hx hn hbase
  refine ⟨v', w', hr, ho, hg, fun g e => ?_⟩
  obtain ⟨i, hi, hz, hs, hb⟩ := info_rec
  have hnews : ∀ j u, (recC x)[j]? = some u → w.cell? ((⟨pb, po, none⟩ : Addr).add j) = some u := fun j u hu => by rw [Addr.add_lit]; exact hx j u hu
  rcases hown.2 with ⟨rfl, h0⟩ | ⟨g0, cap, cur, rfl, hbg, hgg, hnc, hcm, hcs, ht⟩
  · have hr2 := run_append_nil (P := Tryz.prog) w T T 66 i (.agg z7.toArray) hT hi hz ⟨pb, po, none⟩ 1 cc (recC x) (by rw [hs]; rfl) hnews (by decide) (by decide) (by rw [hb]; decide)
    rw [hr] at hr2
    simp only [Result.ok.injEq] at hr2
    rw [hr2.1] at e
    simp only [Value.ownBlock, Option.some.injEq] at e
    exact Or.inr (by omega)
  · by_cases hroom : l0.length + 1 ≤ cap
    · have hr2 := run_append_room (P := Tryz.prog) w T T 66 i hT hi g0 l0.length cap cur hgg ⟨pb, po, none⟩ 1 cc (recC x) (by rw [hs]; rfl) hnews (recC_cell x) hroom (by rw [hs, recC_len, hcs]; have := Nat.mul_le_mul_right 7 hroom; omega)
      rw [hr] at hr2
      simp only [Result.ok.injEq] at hr2
      rw [hr2.1] at e
      exact Or.inl e
    · have holds : ∀ j u, (recsC l0)[j]? = some u → w.cell? ((⟨g0, 0, none⟩ : Addr).add j) = some u := World.ownsRow.cells hown (g := g0) rfl
      have hr2 := run_append_grow (P := Tryz.prog) w T T 66 i (.agg z7.toArray) hT hi hz ⟨g0, 0, none⟩ l0.length cap (recsC l0) (by rw [recsC_len, hs]) holds ⟨pb, po, none⟩ 1 cc (recC x) (by rw [hs]; rfl) hnews (by omega) (by omega) (growslice_fits (by omega) (by rw [hb]; omega))
      rw [hr] at hr2
      simp only [Result.ok.injEq] at hr2
      rw [hr2.1] at e
      simp only [Value.ownBlock, Option.some.injEq] at e
      exact Or.inr (by omega)
/-- what was read so far -/
def Got (w : World) (base : Nat) (v : Value) (l : List E) : Prop := OwnR w base v l ∧ ∀ x ∈ l, RAt w w.heap.size x.1 x.2 ∧ x.1.New base ∧ ∀ g, v.ownBlock = some g → OffR g x.1 x.2
theorem Got.nil (w : World) (base : Nat) : Got w base (.slice none 0 0) [] := ⟨World.ownsRow_nil _ _ _ _, fun x hx => by cases hx⟩
theorem Got.stay {w w' : World} {base : Nat} {v : Value} {l : List E} (h : Got w base v l) (hg : w.grownBy w' none) : Got w' base v l :=
  ⟨h.1.kept hg (by cases v.ownBlock <;> simp), fun x hx => ⟨((h.2 x hx).1.stay hg).full, (h.2 x hx).2⟩⟩
theorem Got.beside {w w' : World} {base T : Nat} {v : Value} {l : List E} (h : Got w base v l) (hg : w.grownBy w' (some T)) (hT : T < base) : Got w' base v l :=
  ⟨h.1.kept hg (Or.inr fun e => by have := (h.1.lt _ e).1; omega), fun x hx => ⟨((h.2 x hx).1.apart hg (h.2 x hx).2.1 hT).full, (h.2 x hx).2⟩⟩
theorem Got.row {w : World} {base : Nat} {v : Value} {l : List E} (h : Got w base v l) : ∃ a c, v = .slice a l.length c ∧ l.length ≤ c ∧ c ≤ maxLen ∧ RRow w w.heap.size a l := own_recs h.1 fun x hx => (h.2 x hx).1
theorem Got.mono {w : World} {b b' : Nat} {v : Value} {l : List E} (h : Got w b v l) (hb : b' ≤ b) : Got w b' v l :=
  ⟨own_mono h.1 hb, fun x hx => ⟨(h.2 x hx).1, new_mono (h.2 x hx).2.1 hb, (h.2 x hx).2.2⟩⟩
theorem Got.gb {w0 w w' : World} {base : Nat} {v : Value} {l : List E} (h : w0.grownBy w none) (ho : Got w base v l) (hb : w0.heap.size ≤ base) (hg : w.grownBy w' v.ownBlock) : w0.grownBy w' none := gb_ownR h ho.1 hb hg
theorem got_push (T : TypeId) (hT : Tryz.prog.underlying T = some (.slice 66)) (w : World) (base n0 : Nat) (v : Value) (l0 : List E) (pb po cc : Nat) (x : E) (h : Got w base v l0) (hr : RAt w w.heap.size x.1 x.2) (hq : x.1.New n0) (hv : ∀ g, v.ownBlock = some g → g < n0) (hb0 : base ≤ n0)
    (hx : ∀ j u, (recC x)[j]? = some u → w.cell? ⟨pb, po + j, none⟩ = some u) (hn : l0.length + 1 ≤ 1000000000) (hbase : base ≤ w.heap.size) :
    ∃ v' w', (Builtin.append_ #[T, T] T #[v, .slice (some ⟨pb, po, none⟩) 1 cc]).run Tryz.prog w = .ok v' w' ∧ Got w' base v' (l0 ++ [x]) ∧ w.grownBy w' v.ownBlock := by
  obtain ⟨v', w', hrun, ho, hg, hnew⟩ := append_recN T hT w base v l0 pb po cc x h.1 hx hn hbase
  have key : ∀ y : E, RAt w w.heap.size y.1 y.2 → y.1.New base → (∀ g, v.ownBlock = some g → OffR g y.1 y.2) → RAt w' w'.heap.size y.1 y.2 ∧ y.1.New base ∧ ∀ g, v'.ownBlock = some g → OffR g y.1 y.2 := fun y h1 h2 h3 => by
    refine ⟨?_, h2, fun g e => ?_⟩
    · cases hv' : v.ownBlock with
      | none => rw [hv'] at hg; exact (h1.stay hg).full
      | some g => rw [hv'] at hg; exact (off_stay h1 (h3 g hv') hg).full
    · rcases hnew g e with e2 | e2
      · exact h3 g e2
      · exact off_below h1 e2
  refine ⟨v', w', hrun, ⟨ho, fun y hy => ?_⟩, hg⟩
  rcases List.mem_append.1 hy with hy | hy
  · exact key y (h.2 y hy).1 (h.2 y hy).2.1 (h.2 y hy).2.2
  · rw [List.mem_singleton] at hy; subst hy
    exact key y hr (new_mono hq hb0) (fun g e => off_new hq (hv g e))
/-- once nothing is read, nothing is -/
theorem rS_none {m : Int} {st : St} {k : Nat} (h : rS m st k = none) : ∀ j, k ≤ j → rS m st j = none := by
  intro j hj
  induction j with
  | zero =>
    obtain rfl : k = 0 := by omega
    exact h
  | succ j ih =>
    rcases (by omega : k = j + 1 ∨ k ≤ j) with rfl | hk
    · exact h
    · rw [rS_succ, ih hk]
theorem readL_none {b : List Nat} {k : Nat} (h : rS (b.length : Int) (cS b).2 k = none) (hk : k ≤ (cS b).1.toNat) : readL b = none := by
  unfold readL; rw [rS_none h _ hk]; rfl
theorem cS_range (b : List Nat) : 0 ≤ (cS b).1 ∧ (cS b).1 ≤ (b.length : Int) := by
  unfold cS countS tells rdCount
  by_cases h : 8 ≤ b.length ∧ 0 ≤ toI (wN (b.take 8)) ∧ toI (wN (b.take 8)) ≤ (b.length : Int)
  · simp only [if_pos h]; exact ⟨h.2.1, h.2.2⟩
  · simp only [if_neg h]; omega
end Sb
end Go.Proofs.YtlkiancedgaicaaGreat

/- must and take: the next bytes, or a panic. -/
namespace Go.Proofs.YtlkiancedgaicaaGreat
open Go.RowKit Ow Wi

/-- a panic that is not recovered -/
def Dies (e : Ending) : Prop := ∃ u pv, e = .panicked [{ v := .iface u pv, recovered := false }]
theorem must_yes (w : World) : Calls Tryz.prog 177 #[.bool true] w fun e w' => e = .returned (.tuple #[]) ∧ w' = w := by
  go_enter Tryz.func177, Tryz.ntmps177
  go_wp2
  go_end0
  exact ⟨rfl, rfl⟩
theorem must_no (w : World) : Calls Tryz.prog 177 #[.bool false] w fun e w' => Dies e ∧ w' = w := by
  go_enter Tryz.func177, Tryz.ntmps177
  go_wp2
  exact ⟨rfl, ⟨_, _, rfl⟩, rfl⟩
theorem must_any (b : Bool) (w : World) : Calls Tryz.prog 177 #[.bool b] w fun e w' => (b = true ∧ e = .returned (.tuple #[]) ∨ b = false ∧ Dies e) ∧ w' = w := by
  cases b
  · exact (must_no w).mono fun e w' h => ⟨Or.inr ⟨rfl, h.1⟩, h.2⟩
  · exact (must_yes w).mono fun e w' h => ⟨Or.inl ⟨rfl, h.1⟩, h.2⟩

set_option maxRecDepth 100000 in
/-- x[lo:] of a reader's rest -/
theorem rest_from (a : Option Addr) (n cap lo : Nat) (h : lo ≤ n) :
    ∃ a', (∀ w, (Instr.slice 100 (.slice a n cap) (some (.int .i64 (lo : Int))) none none).run Tryz.prog w = .ok (.slice a' (n - lo) (cap - lo)) w) ∧ (lo < cap → ∀ pb po, a = some ⟨pb, po, none⟩ → a' = some ⟨pb, po + lo, none⟩) := by
  obtain ⟨j, hj, hs⟩ : ∃ j, Tryz.prog.info? (Tryz.prog.elem 100) = some j ∧ j.size = 1 := by
    have h1 : (Tryz.prog.info? (Tryz.prog.elem 100)).map (·.size) = some 1 := by kernel_rfl
    cases hq : Tryz.prog.info? (Tryz.prog.elem 100) with
    | none => rw [hq] at h1; cases h1
    | some j => rw [hq] at h1; exact ⟨j, rfl, by simpa using h1⟩
  refine ⟨if cap = lo then a else a.map (·.add lo), fun w => ?_, ?_⟩
  · rw [run_slice_l w 100 a n cap Tryz.underlying100 .i64 _ (by omega) (by omega), Int.toNat_natCast]
    simp [sizeOf, typeInfo, hj, hs, sliced]
  · intro hlt pb po e
    rw [if_neg (by omega), e]
    simp [Addr.add]
set_option maxRecDepth 100000 in
/-- x[:k] of a reader's rest -/
theorem rest_to (a : Option Addr) (n cap k : Nat) (h : k ≤ cap) :
    ∃ a', (∀ w, (Instr.slice 100 (.slice a n cap) none (some (.int .i64 (k : Int))) none).run Tryz.prog w = .ok (.slice a' k cap) w) ∧ (∀ pb po, a = some ⟨pb, po, none⟩ → a' = some ⟨pb, po, none⟩) := by
  obtain ⟨j, hj, hs⟩ : ∃ j, Tryz.prog.info? (Tryz.prog.elem 100) = some j ∧ j.size = 1 := by
    have h1 : (Tryz.prog.info? (Tryz.prog.elem 100)).map (·.size) = some 1 := by kernel_rfl
    cases hq : Tryz.prog.info? (Tryz.prog.elem 100) with
    | none => rw [hq] at h1; cases h1
    | some j => rw [hq] at h1; exact ⟨j, rfl, by simpa using h1⟩
  refine ⟨if cap = 0 then a else a.map (·.add 0), fun w => ?_, fun pb po e => ?_⟩
  · rw [run_slice_h w 100 a n cap Tryz.underlying100 .i64 _ (by omega) (by omega), Int.toNat_natCast]
    simp [sizeOf, typeInfo, hj, hs, sliced]
  · subst e
    split
    · rfl
    · simp [Addr.add]

/-- as many bytes as are asked for -/
theorem take_yes (rb k n cap : Nat) (a : Option Addr) (g : Value) (w : World) (hb : Blk w rb 102 [.slice a n cap, g]) (hk : k ≤ n) (hn : n ≤ cap) :
    Calls Tryz.prog 122 #[.pointer (some ⟨rb, 0, none⟩), .int .i64 k] w fun e w' => ∃ a1 a2, e = .returned (.slice a1 k cap) ∧ w' = w.setCell ⟨rb, 0, none⟩ (.slice a2 (n - k) (cap - k)) ∧
      (∀ pb po, a = some ⟨pb, po, none⟩ → a1 = some ⟨pb, po, none⟩) ∧ (k < cap → ∀ pb po, a = some ⟨pb, po, none⟩ → a2 = some ⟨pb, po + k, none⟩) := by
  obtain ⟨a1, h1, e1⟩ := rest_to a n cap k (by omega)
  obtain ⟨a2, h2, e2⟩ := rest_from a n cap k hk
  have c0 := hb.cell (i := 0) rfl
  have f0 := hb.free 0
  have hle : ((k : Int) ≤ (n : Int)) := by omega
  go_enter Tryz.func122, Tryz.ntmps122
  go_wp2_with (fail)
  refine (must_yes w).mono ?_
  rintro e w' ⟨rfl, rfl⟩
  go_wp2
  go_ret
  exact ⟨a1, a2, rfl, rfl, e1, e2⟩
theorem take_no (rb k n cap : Nat) (a : Option Addr) (g : Value) (w : World) (hb : Blk w rb 102 [.slice a n cap, g]) (hk : n < k) :
    Calls Tryz.prog 122 #[.pointer (some ⟨rb, 0, none⟩), .int .i64 k] w fun e w' => Dies e ∧ w' = w := by
  have c0 := hb.cell (i := 0) rfl
  have hle : ¬ ((k : Int) ≤ (n : Int)) := by omega
  go_enter Tryz.func122, Tryz.ntmps122
  go_wp2_with (fail)
  refine (must_no w).mono ?_
  rintro e w' ⟨⟨u, pv, rfl⟩, rfl⟩
  exact ⟨rfl, ⟨u, pv, rfl⟩, rfl⟩
end Go.Proofs.YtlkiancedgaicaaGreat

/- word and count: a number off a reader's rest, or a panic. -/
namespace Go.Proofs.YtlkiancedgaicaaGreat
open Go.RowKit Ow Wi

/-- bytes in a block that is elder than block rb -/
def BytesOff (w : World) (rb : Nat) (a : Option Addr) (cap : Nat) (l : List Nat) : Prop := BytesAt w w.heap.size a cap l ∧ (l.length = 0 ∨ ∀ pb po, a = some ⟨pb, po, none⟩ → pb < rb)
theorem BytesOff.stay {w w' : World} {rb cap : Nat} {a : Option Addr} {l : List Nat} (h : BytesOff w rb a cap l) (hg : w.grownBy w' (some rb)) : BytesOff w' rb a cap l :=
  ⟨(h.1.apart hg (h.2.imp id fun f pb po e => Nat.ne_of_lt (f pb po e))).full, h.2⟩
theorem BytesOff.beside {w w' : World} {rb cap T : Nat} {a : Option Addr} {l : List Nat} (h : BytesOff w rb a cap l) (hg : w.grownBy w' (some T)) (hT : rb < T) : BytesOff w' rb a cap l :=
  ⟨(h.1.apart hg (h.2.imp id fun f pb po e => by have := f pb po e; omega)).full, h.2⟩
/-- a reader's block with what is left, whatever its good is -/
def RdB (w : World) (rb : Nat) (g : Value) (l : List Nat) : Prop :=
  ∃ a n cap, Blk w rb 102 [.slice a n cap, g] ∧ l.length = n ∧ BytesOff w rb a cap l
theorem RdB.stay {w w' : World} {rb : Nat} {g : Value} {l : List Nat} (h : RdB w rb g l) (hg : w.grownBy w' none) : RdB w' rb g l := by
  obtain ⟨a, n, cap, hb, hl, hP⟩ := h
  exact ⟨a, n, cap, hb.grown hg (by simp), hl, hP.stay (gb_row hg _)⟩
theorem RdB.beside {w w' : World} {rb T : Nat} {g : Value} {l : List Nat} (h : RdB w rb g l) (hg : w.grownBy w' (some T)) (hT : rb < T) : RdB w' rb g l := by
  obtain ⟨a, n, cap, hb, hl, hP⟩ := h
  exact ⟨a, n, cap, hb.grown hg (by simp; omega), hl, hP.beside hg hT⟩
theorem take_rd (rb : Nat) (g : Value) (l : List Nat) (k : Nat) (w : World) (h : RdB w rb g l) (hk : k ≤ l.length) :
    Calls Tryz.prog 122 #[.pointer (some ⟨rb, 0, none⟩), .int .i64 k] w fun e w' => ∃ a1 c1, e = .returned (.slice a1 k c1) ∧ w.grownBy w' (some rb) ∧ RdB w' rb g (l.drop k) ∧ BytesOff w' rb a1 c1 (l.take k) := by
  obtain ⟨a, n, cap, hb, hl, hP, hne⟩ := h
  have hf := hP.fits
  refine (take_yes rb k n cap a g w hb (by omega) (by omega)).mono ?_
  rintro e w' ⟨a1, a2, rfl, rfl, e1, e2⟩
  have hg : w.grownBy (w.setCell ⟨rb, 0, none⟩ (.slice a2 (n - k) (cap - k))) (some rb) := gb_set (gb_refl _ _) _ _
  refine ⟨a1, cap, rfl, hg, ⟨a2, n - k, cap - k, hb.set 0 _, by rw [List.length_drop]; omega, BytesOff.stay ⟨bytes_drop hP e2, ?_⟩ hg⟩, BytesOff.stay ⟨bytes_take hP e1, ?_⟩ hg⟩
  · rcases hP.cells with h0 | ⟨pb, po, ha, _, _⟩
    · left; rw [List.length_drop]; omega
    · rcases hne with h0 | hne
      · left; rw [List.length_drop]; omega
      · rcases Nat.lt_or_ge k cap with h | h
        · right
          intro pb' po' hq
          rw [e2 h pb po ha] at hq
          cases hq
          exact hne pb po ha
        · left; rw [List.length_drop]; omega
  · rcases hP.cells with h0 | ⟨pb, po, ha, _, _⟩
    · left; rw [List.length_take]; omega
    · rcases hne with h0 | hne
      · left; rw [List.length_take]; omega
      · right
        intro pb' po' hq
        rw [e1 pb po ha] at hq
        cases hq
        exact hne pb po ha
theorem take_bad (rb : Nat) (g : Value) (l : List Nat) (k : Nat) (w : World) (h : RdB w rb g l) (hk : l.length < k) :
    Calls Tryz.prog 122 #[.pointer (some ⟨rb, 0, none⟩), .int .i64 k] w fun e w' => Dies e ∧ w' = w := by
  obtain ⟨a, n, cap, hb, hl, hP, hne⟩ := h
  exact take_no rb k n cap a g w hb (by omega)

theorem wN_le (l : List Nat) (k : Nat) (h : ∀ i, l.getD i 0 < 256) (hk : k ≤ 7) : wN (l.take k) < 72057594037927936 := by
  have h1 := wN_lt (l.take k) (fun b hb => by
    obtain ⟨i, hi, rfl⟩ := List.getElem_of_mem (List.mem_of_mem_take hb)
    have := h i
    rwa [List.getD_eq_getElem?_getD, List.getElem?_eq_getElem hi] at this)
  have h2 : 256 ^ (l.take k).length ≤ 256 ^ 7 := Nat.pow_le_pow_right (by decide) (by rw [List.length_take]; omega)
  have h3 : (256 : Nat) ^ 7 = 72057594037927936 := by decide
  omega
theorem wN_next (l : List Nat) (k : Nat) (hk : k < l.length) : wN (l.take (k + 1)) = wN (l.take k) * 256 + l.getD k 0 := by
  rw [List.take_succ_eq_append_getElem hk, wN_append, List.getD_eq_getElem?_getD, List.getElem?_eq_getElem hk]
  rfl
theorem wN_bits (n b : Nat) (hn : n < 72057594037927936) (hb : b < 256) : bits .or .u64 ((n : Int) * 256) (b : Int) = ((n * 256 + b : Nat) : Int) := by
  have e1 : (n : Int) * 256 = ((2 ^ 8 * n : Nat) : Int) := by omega
  rw [e1, u64_or_nat _ _ (by omega) (by omega), ← Nat.two_pow_add_eq_or_of_lt (by omega)]
  omega
set_option maxHeartbeats 800000 in
theorem word_yes (rb : Nat) (g : Value) (l : List Nat) (k : Nat) (w : World) (h : RdB w rb g l) (hk : k ≤ l.length) (h8 : k ≤ 8) :
    Calls Tryz.prog 66 #[.pointer (some ⟨rb, 0, none⟩), .int .i64 k] w fun e w' => e = .returned (.int .u64 (wN (l.take k))) ∧ w.grownBy w' (some rb) ∧ RdB w' rb g (l.drop k) := by
  have HT := Lib.hid (take_rd rb g l k w h hk)
  clear h
  go_enter Tryz.func66, Tryz.ntmps66
  go_wp2_with (fail)
  refine HT.out.mono ?_
  rintro e w1 ⟨a1, c1, rfl, hg, hr, hP, _⟩
  have hlen : (l.take k).length = k := by rw [List.length_take]; omega
  have hfit := hP.fits
  have htop := hP.top
  rw [hlen] at hfit
  have H := Lib.hid (And.intro hg hr); clear hg hr
  have HP := Lib.hid hP; clear hP
  go_wp2
  go_loopw [5, 14] (fun v i wr => ∃ j q : Nat, j ≤ k ∧ i = .int .i64 j ∧ v = .int .u64 (wN (l.take j)) ∧ wr = w1.drewN q) (fun _ i _ => k - (intOf i).toNat)
  case atStart => exact ⟨0, 0, by omega, rfl, rfl, rfl⟩
  case round =>
    obtain ⟨j, q, hj, rfl, rfl, rfl⟩ := hrel
    by_cases hlt : j < k
    · obtain ⟨pb, po, rfl, _, hc⟩ := HP.out.cells.resolve_left (by rw [hlen]; omega)
      have k1 := hc j (by rw [hlen]; exact hlt)
      rw [getD_take _ _ _ hlt] at k1
      unfold u8N at k1
      clear hc
      have i0 : (j : Int) < (k : Int) := by omega
      have hb : (l.take k).getD j 0 < 256 := HP.out.byte j
      rw [getD_take _ _ _ hlt] at hb
      have hw : wN (l.take j) < 72057594037927936 := by
        have := wN_le (l.take k) j HP.out.byte (by omega)
        rwa [List.take_take, Nat.min_eq_left (by omega)] at this
      have HB := Lib.hid (wN_bits _ _ hw hb)
      have HN := Lib.hid (wN_next l j (by omega))
      generalize wN (l.take j) = n at *
      generalize l.getD j 0 = b at *
      have hbits := HB.out
      go_wp2_with fail
      exact ⟨⟨j + 1, q, by omega, rfl, by rw [HN.out, Int.natCast_add, Int.natCast_mul]; rfl, rfl⟩, by show k - ((j : Int) + 1).toNat < k - (j : Int).toNat; omega⟩
    · obtain rfl : j = k := by omega
      clear hlt
      go_wp2
      go_ret
      exact ⟨rfl, gb_drewN H.out.1 q, H.out.2.stay (gb_drewN (gb_refl _ _) q)⟩
theorem word_no (rb : Nat) (g : Value) (l : List Nat) (k : Nat) (w : World) (h : RdB w rb g l) (hk : l.length < k) :
    Calls Tryz.prog 66 #[.pointer (some ⟨rb, 0, none⟩), .int .i64 k] w fun e w' => Dies e ∧ w' = w := by
  have HT := Lib.hid (take_bad rb g l k w h hk)
  clear h
  go_enter Tryz.func66, Tryz.ntmps66
  go_wp2_with (fail)
  refine HT.out.mono ?_
  rintro e w' ⟨⟨u, pv, rfl⟩, rfl⟩
  exact ⟨rfl, ⟨u, pv, rfl⟩, rfl⟩

theorem conv_yes (m : Nat) (h : m < 18446744073709551616) : IntKind.i64.wrap (m : Int) = toI m := by
  rw [IntKind.wrap_i64]
  unfold toI
  split <;> omega
theorem wN_word (l : List Nat) (h : ∀ i, l.getD i 0 < 256) (k : Nat) (hk : k ≤ 8) : wN (l.take k) < 18446744073709551616 := by
  have h1 := wN_lt (l.take k) (fun b hb => by
    obtain ⟨i, hi, rfl⟩ := List.getElem_of_mem (List.mem_of_mem_take hb)
    have := h i
    rwa [List.getD_eq_getElem?_getD, List.getElem?_eq_getElem hi] at this)
  have h2 : 256 ^ (l.take k).length ≤ 256 ^ 8 := Nat.pow_le_pow_right (by decide) (by rw [List.length_take]; omega)
  have h3 : (256 : Nat) ^ 8 = 18446744073709551616 := by decide
  omega
theorem RdB.byte {w : World} {rb : Nat} {g : Value} {l : List Nat} (h : RdB w rb g l) : ∀ i, l.getD i 0 < 256 := by
  obtain ⟨_, _, _, _, _, hP, _⟩ := h
  exact hP.byte
/-- a number from 0 to most -/
theorem count_yes (rb : Nat) (g : Value) (l : List Nat) (most : Int) (w : World) (h : RdB w rb g l) (hk : 8 ≤ l.length) (h0 : 0 ≤ toI (wN (l.take 8))) (h1 : toI (wN (l.take 8)) ≤ most) :
    Calls Tryz.prog 119 #[.pointer (some ⟨rb, 0, none⟩), .int .i64 most] w fun e w' => e = .returned (.int .i64 (toI (wN (l.take 8)))) ∧ w.grownBy w' (some rb) ∧ RdB w' rb g (l.drop 8) := by
  have HT := Lib.hid (word_yes rb g l 8 w h hk (by decide))
  have hc := conv_yes _ (wN_word l h.byte 8 (by decide))
  clear h
  go_enter Tryz.func119, Tryz.ntmps119
  go_wp2_with (fail)
  refine HT.out.mono ?_
  rintro e w1 ⟨rfl, hg, hr⟩
  have H := Lib.hid (And.intro hg hr); clear hg hr
  obtain ⟨t, ht⟩ : ∃ t, t = toI (wN (l.take 8)) := ⟨_, rfl⟩
  rw [← ht] at h0 h1 hc
  have HTT := Lib.hid ht; clear ht
  go_wp2_with (fail)
  refine (must_yes w1).mono ?_
  rintro e w' ⟨rfl, rfl⟩
  go_wp2
  go_ret
  exact ⟨congrArg (fun z => Ending.returned (.int .i64 z)) HTT.out, H.out⟩
/-- .. and no such number -/
theorem count_no (rb : Nat) (g : Value) (l : List Nat) (most : Int) (w : World) (h : RdB w rb g l) (hn : ¬ (8 ≤ l.length ∧ 0 ≤ toI (wN (l.take 8)) ∧ toI (wN (l.take 8)) ≤ most)) :
    Calls Tryz.prog 119 #[.pointer (some ⟨rb, 0, none⟩), .int .i64 most] w fun e w' => Dies e ∧ w.grownBy w' (some rb) ∧ ∃ l', RdB w' rb g l' := by
  by_cases h8 : 8 ≤ l.length
  · have HT := Lib.hid (word_yes rb g l 8 w h h8 (by decide))
    have hc := conv_yes _ (wN_word l h.byte 8 (by decide))
    clear h
    have hn' : 0 ≤ toI (wN (l.take 8)) → ¬ toI (wN (l.take 8)) ≤ most := fun a b => hn ⟨h8, a, b⟩
    clear hn
    go_enter Tryz.func119, Tryz.ntmps119
    go_wp2_with (fail)
    refine HT.out.mono ?_
    rintro e w1 ⟨rfl, hg, hr⟩
    have H := Lib.hid (And.intro hg hr); clear hg hr
    generalize toI (wN (l.take 8)) = t at *
    generalize wN (l.take 8) = m at *
    by_cases h0 : 0 ≤ t
    · have h1 := hn' h0
      clear hn'
      go_wp2_with (fail)
      rw [decide_eq_false (show ¬ t ≤ most by omega)]
      refine (must_no w1).mono ?_
      rintro e w' ⟨⟨u, pv, rfl⟩, rfl⟩
      exact ⟨rfl, ⟨u, pv, rfl⟩, H.out.1, _, H.out.2⟩
    · clear hn'
      go_wp2_with (fail)
      refine (must_no w1).mono ?_
      rintro e w' ⟨⟨u, pv, rfl⟩, rfl⟩
      exact ⟨rfl, ⟨u, pv, rfl⟩, H.out.1, _, H.out.2⟩
  · have HT := Lib.hid (word_no rb g l 8 w h (by omega))
    have HH := Lib.hid h
    clear h hn
    go_enter Tryz.func119, Tryz.ntmps119
    go_wp2_with (fail)
    refine HT.out.mono ?_
    rintro e w' ⟨⟨u, pv, rfl⟩, rfl⟩
    exact ⟨rfl, ⟨u, pv, rfl⟩, gb_refl _ _, _, HH.out⟩
end Go.Proofs.YtlkiancedgaicaaGreat

/- Good, and a call that is tried: what it tells, or that its panic is recovered and the reader is none. -/
namespace Go.Proofs.YtlkiancedgaicaaGreat
open Go.RowKit Ow Wi

/-- the pointer to itself -/
def gP (rb : Nat) : Value := .pointer (some ⟨rb, 0, none⟩)
theorem weql_self (a : Addr) (w : World) : (binOp .eql 34 (.pointer (some a)) (.pointer (some a))).run Tryz.prog w = .ok (.bool true) w := by
  obtain ⟨j, hj⟩ : ∃ j, Tryz.prog.info? 102 = some j := by
    have h1 : (Tryz.prog.info? 102).isSome = true := by kernel_rfl
    exact Option.isSome_iff_exists.1 h1
  exact run_eql_ptr_same w a Tryz.underlying34 hj
theorem weql_none (a : Addr) (w : World) : (binOp .eql 34 (.pointer none) (.pointer (some a))).run Tryz.prog w = .ok (.bool false) w := by
  have h : ∀ d : Nat, (Op.equalIn (d + 1) 34 (.pointer none) (.pointer (some a))).run Tryz.prog w = .ok false w := fun d => by
    simp [Op.equalIn, run_underlying Tryz.underlying34]
  simp only [binOp]
  simp [Op.equal, Op.maxDepth, h 9999]
theorem wgood_nil (w : World) : Calls Tryz.prog 26 #[.pointer none] w fun e w' => e = .returned (.bool false) ∧ w' = w := by
  go_enter Tryz.func26, Tryz.ntmps26
  go_wp2
  go_ret
  exact ⟨rfl, rfl⟩
theorem wgood_yes (rb : Nat) (s : Value) (w : World) (hb : Blk w rb 102 [s, gP rb]) :
    Calls Tryz.prog 26 #[.pointer (some ⟨rb, 0, none⟩)] w fun e w' => e = .returned (.bool true) ∧ w' = w := by
  have c1 := hb.cell (i := 1) rfl
  unfold gP at c1
  have he := weql_self ⟨rb, 0, none⟩ w
  go_enter Tryz.func26, Tryz.ntmps26
  go_wp2
  go_ret
  exact ⟨rfl, rfl⟩
theorem wgood_no (rb : Nat) (s : Value) (w : World) (hb : Blk w rb 102 [s, .pointer none]) :
    Calls Tryz.prog 26 #[.pointer (some ⟨rb, 0, none⟩)] w fun e w' => e = .returned (.bool false) ∧ w' = w := by
  have c1 := hb.cell (i := 1) rfl
  have he := weql_none ⟨rb, 0, none⟩ w
  go_enter Tryz.func26, Tryz.ntmps26
  go_wp2
  go_ret
  exact ⟨rfl, rfl⟩
/-- a reader that is none any more -/
def RdN (w : World) (rb : Nat) : Prop := Blk w rb 102 [.slice none 0 0, .pointer none]
end Go.Proofs.YtlkiancedgaicaaGreat

/- The three instances of a call that is tried. -/
namespace Go.Proofs.YtlkiancedgaicaaGreat
open Go.RowKit Ow Wi
theorem makeF : ∀ (fn : Fn) (first cap : Array Value) (w : World), (Instr.makeFunc fn first cap).run Tryz.prog w = .ok (.func fn first cap) w := fun _ _ _ _ => rfl

/-- what the deferred call does behind a panic -/
theorem caughtU (p : Addr) (rb : Nat) (s g : Value) (u : TypeId) (pv : Value) (older : List PanicEntry) (w : World) (hp : w.cell? p = some (.pointer (some ⟨rb, 0, none⟩))) (hb : Blk w rb 102 [s, g]) :
    CallsD Tryz.prog 121 #[.pointer (some p)] (.panicking ({ v := .iface u pv, recovered := false } :: older)) w fun e u' w' =>
      e = .returned (.tuple #[]) ∧ u' = .panicking ({ v := .iface u pv, recovered := true } :: older) ∧ w.grownBy w' (some rb) ∧ RdN w' rb := by
  have c0 := hb.cell (i := 0) rfl
  have c1 := hb.cell (i := 1) rfl
  have f0 := hb.free 0
  have f1 := hb.free 1
  refine callsD_of_wpS Tryz.func121 rfl fun c₀ cs hu => ?_
  apply wpS_seq
  apply wpS_region
  simp [wpOpsS, go_sem, recoverD, hu, Tryz.ntmps121, Exit.thenS]
  refine wpS_cond (t := true) (by simp [Act.eval, Array.replicate]) ?_
  simp only [if_true]
  refine wpS_of_wp ?_
  go_wp2
  exact ⟨rfl, _, rfl, .tuple #[], results_none rfl _ _ _, rfl, rfl, gb_set (gb_set (gb_refl _ _) 0 _) 1 _, (hb.set 0 _).set 1 _⟩
theorem idleU (p : Addr) (w : World) :
    CallsD Tryz.prog 121 #[.pointer (some p)] .returning w fun e u' w' => e = .returned (.tuple #[]) ∧ u' = .returning ∧ w' = w := by
  refine callsD_of_wpS Tryz.func121 rfl fun c₀ cs hu => ?_
  apply wpS_seq
  apply wpS_region
  simp [wpOpsS, go_sem, recoverD, hu, Tryz.ntmps121, Exit.thenS]
  refine wpS_cond (t := false) (by simp [Act.eval, Array.replicate]) ?_
  simp only [Bool.false_eq_true, if_false]
  refine wpS_of_wp (wp_skip ?_)
  cases c₀
  simp_all [bodyPostS, results, Tryz.results121]
theorem tryU_bad (p : Option Addr) (n : Int) (f : Value) (w : World) (hg : ∀ w1, w.grownBy w1 none → Calls Tryz.prog 26 #[.pointer p] w1 fun e w' => e = .returned (.bool false) ∧ w' = w1) :
    Calls Tryz.prog 65 #[.pointer p, f, .int .i64 n] w fun e w' => e = .returned (.int .u64 0) ∧ w.grownBy w' none := by
  have HG := Lib.hid (hg _ (gb_alloc (gb_refl w none) (.cells #[.pointer p] 34))); clear hg
  go_enter_defers Tryz.func65, Tryz.ntmps65
  go_wp2_with (fail)
  refine HG.out.mono ?_
  rintro e w' ⟨rfl, rfl⟩
  go_wp2
  simp [bodyPostD, Leaves, results, Tryz.results65, go_sem]
  exact gb_alloc (gb_refl w none) _
theorem tryU_yes (rb : Nat) (n : Int) (s : Value) (w : World) (Q : Value → World → Prop) (hb : Blk w rb 102 [s, gP rb])
    (hin : Calls Tryz.prog 66 #[.pointer (some ⟨rb, 0, none⟩), .int .i64 n] (w.alloc (.cells #[.pointer (some ⟨rb, 0, none⟩)] 34)) fun e w' => ∃ x, e = .returned x ∧ Q x w') :
    Calls Tryz.prog 65 #[.pointer (some ⟨rb, 0, none⟩), .func (.func 66) #[.pointer (some ⟨rb, 0, none⟩)] #[], .int .i64 n] w fun e w' => ∃ x, e = .returned x ∧ Q x w' := by
  have HG := Lib.hid (wgood_yes rb s _ (hb.alloc (.cells #[.pointer (some ⟨rb, 0, none⟩)] 34)))
  have HI := Lib.hid hin; clear hin hb
  have hmf := makeF
  go_enter_defers Tryz.func65, Tryz.ntmps65
  go_wp2_with (fail)
  refine HG.out.mono ?_
  rintro e w' ⟨rfl, rfl⟩
  go_wp2_with (fail)
  refine HI.out.mono ?_
  rintro e w2 ⟨x, rfl, hq⟩
  have HQ := Lib.hid hq; clear hq
  go_wp2_with (fail)
  refine leaves_cons (f := 121) (args := #[.pointer (some ⟨w.heap.size, 0, none⟩)]) (by simp) (by simp [go_sem]) ?_
  refine (idleU _ _).mono ?_
  rintro e u' w'' ⟨rfl, rfl, rfl⟩
  simp [Leaves, settle, results, Tryz.results65, go_sem]
  exact HQ.out
theorem tryU_no (rb : Nat) (n : Int) (s : Value) (w : World) (hb : Blk w rb 102 [s, gP rb])
    (hin : Calls Tryz.prog 66 #[.pointer (some ⟨rb, 0, none⟩), .int .i64 n] (w.alloc (.cells #[.pointer (some ⟨rb, 0, none⟩)] 34)) fun e w' => Dies e ∧ (w.alloc (.cells #[.pointer (some ⟨rb, 0, none⟩)] 34)).grownBy w' (some rb) ∧ ∃ l, RdB w' rb (gP rb) l) :
    Calls Tryz.prog 65 #[.pointer (some ⟨rb, 0, none⟩), .func (.func 66) #[.pointer (some ⟨rb, 0, none⟩)] #[], .int .i64 n] w fun e w' => e = .returned (.int .u64 0) ∧ w.grownBy w' (some rb) ∧ RdN w' rb := by
  have HG := Lib.hid (wgood_yes rb s _ (hb.alloc (.cells #[.pointer (some ⟨rb, 0, none⟩)] 34)))
  have HL := Lib.hid hb.lt
  have HI := Lib.hid hin; clear hin hb
  have hmf := makeF
  go_enter_defers Tryz.func65, Tryz.ntmps65
  go_wp2_with (fail)
  refine HG.out.mono ?_
  rintro e w' ⟨rfl, rfl⟩
  go_wp2_with (fail)
  refine HI.out.mono ?_
  rintro e w2 ⟨⟨u, pv, rfl⟩, hg, l, a, m, cap, hb2, _⟩
  have hlt := HL.out
  have hbox : w2.cell? ⟨w.heap.size, 0, none⟩ = some (.pointer (some ⟨rb, 0, none⟩)) := ((Blk.new w [.pointer (some ⟨rb, 0, none⟩)] 34).grown hg (by intro h; cases h; omega)).cell (i := 0) rfl
  have HQ := Lib.hid hg; clear hg
  refine leaves_cons (f := 121) (args := #[.pointer (some ⟨w.heap.size, 0, none⟩)]) (by simp) (by simp [go_sem]) ?_
  refine (caughtU ⟨w.heap.size, 0, none⟩ rb _ _ u pv [] w2 hbox hb2).mono ?_
  rintro e u' w'' ⟨rfl, rfl, hg3, hn⟩
  simp [Leaves, settle, results, Tryz.results65, go_sem]
  exact ⟨gb_trans (gb_trans (gb_alloc (gb_refl w _) _) HQ.out) hg3, hn⟩

/-- what the deferred call does behind a panic -/
theorem caughtB (p : Addr) (rb : Nat) (s g : Value) (u : TypeId) (pv : Value) (older : List PanicEntry) (w : World) (hp : w.cell? p = some (.pointer (some ⟨rb, 0, none⟩))) (hb : Blk w rb 102 [s, g]) :
    CallsD Tryz.prog 146 #[.pointer (some p)] (.panicking ({ v := .iface u pv, recovered := false } :: older)) w fun e u' w' =>
      e = .returned (.tuple #[]) ∧ u' = .panicking ({ v := .iface u pv, recovered := true } :: older) ∧ w.grownBy w' (some rb) ∧ RdN w' rb := by
  have c0 := hb.cell (i := 0) rfl
  have c1 := hb.cell (i := 1) rfl
  have f0 := hb.free 0
  have f1 := hb.free 1
  refine callsD_of_wpS Tryz.func146 rfl fun c₀ cs hu => ?_
  apply wpS_seq
  apply wpS_region
  simp [wpOpsS, go_sem, recoverD, hu, Tryz.ntmps146, Exit.thenS]
  refine wpS_cond (t := true) (by simp [Act.eval, Array.replicate]) ?_
  simp only [if_true]
  refine wpS_of_wp ?_
  go_wp2
  exact ⟨rfl, _, rfl, .tuple #[], results_none rfl _ _ _, rfl, rfl, gb_set (gb_set (gb_refl _ _) 0 _) 1 _, (hb.set 0 _).set 1 _⟩
theorem idleB (p : Addr) (w : World) :
    CallsD Tryz.prog 146 #[.pointer (some p)] .returning w fun e u' w' => e = .returned (.tuple #[]) ∧ u' = .returning ∧ w' = w := by
  refine callsD_of_wpS Tryz.func146 rfl fun c₀ cs hu => ?_
  apply wpS_seq
  apply wpS_region
  simp [wpOpsS, go_sem, recoverD, hu, Tryz.ntmps146, Exit.thenS]
  refine wpS_cond (t := false) (by simp [Act.eval, Array.replicate]) ?_
  simp only [Bool.false_eq_true, if_false]
  refine wpS_of_wp (wp_skip ?_)
  cases c₀
  simp_all [bodyPostS, results, Tryz.results146]
theorem tryB_bad (p : Option Addr) (n : Int) (f : Value) (w : World) (hg : ∀ w1, w.grownBy w1 none → Calls Tryz.prog 26 #[.pointer p] w1 fun e w' => e = .returned (.bool false) ∧ w' = w1) :
    Calls Tryz.prog 89 #[.pointer p, f, .int .i64 n] w fun e w' => e = .returned (.slice none 0 0) ∧ w.grownBy w' none := by
  have HG := Lib.hid (hg _ (gb_alloc (gb_refl w none) (.cells #[.pointer p] 34))); clear hg
  go_enter_defers Tryz.func89, Tryz.ntmps89
  go_wp2_with (fail)
  refine HG.out.mono ?_
  rintro e w' ⟨rfl, rfl⟩
  go_wp2
  simp [bodyPostD, Leaves, results, Tryz.results89, go_sem]
  exact gb_alloc (gb_refl w none) _
theorem tryB_yes (rb : Nat) (n : Int) (s : Value) (w : World) (Q : Value → World → Prop) (hb : Blk w rb 102 [s, gP rb])
    (hin : Calls Tryz.prog 90 #[.pointer (some ⟨rb, 0, none⟩), .int .i64 n] (w.alloc (.cells #[.pointer (some ⟨rb, 0, none⟩)] 34)) fun e w' => ∃ x, e = .returned x ∧ Q x w') :
    Calls Tryz.prog 89 #[.pointer (some ⟨rb, 0, none⟩), .func (.func 90) #[.pointer (some ⟨rb, 0, none⟩)] #[], .int .i64 n] w fun e w' => ∃ x, e = .returned x ∧ Q x w' := by
  have HG := Lib.hid (wgood_yes rb s _ (hb.alloc (.cells #[.pointer (some ⟨rb, 0, none⟩)] 34)))
  have HI := Lib.hid hin; clear hin hb
  have hmf := makeF
  go_enter_defers Tryz.func89, Tryz.ntmps89
  go_wp2_with (fail)
  refine HG.out.mono ?_
  rintro e w' ⟨rfl, rfl⟩
  go_wp2_with (fail)
  refine HI.out.mono ?_
  rintro e w2 ⟨x, rfl, hq⟩
  have HQ := Lib.hid hq; clear hq
  go_wp2_with (fail)
  refine leaves_cons (f := 146) (args := #[.pointer (some ⟨w.heap.size, 0, none⟩)]) (by simp) (by simp [go_sem]) ?_
  refine (idleB _ _).mono ?_
  rintro e u' w'' ⟨rfl, rfl, rfl⟩
  simp [Leaves, settle, results, Tryz.results89, go_sem]
  exact HQ.out
theorem tryB_no (rb : Nat) (n : Int) (s : Value) (w : World) (hb : Blk w rb 102 [s, gP rb])
    (hin : Calls Tryz.prog 90 #[.pointer (some ⟨rb, 0, none⟩), .int .i64 n] (w.alloc (.cells #[.pointer (some ⟨rb, 0, none⟩)] 34)) fun e w' => Dies e ∧ (w.alloc (.cells #[.pointer (some ⟨rb, 0, none⟩)] 34)).grownBy w' (some rb) ∧ ∃ l, RdB w' rb (gP rb) l) :
    Calls Tryz.prog 89 #[.pointer (some ⟨rb, 0, none⟩), .func (.func 90) #[.pointer (some ⟨rb, 0, none⟩)] #[], .int .i64 n] w fun e w' => e = .returned (.slice none 0 0) ∧ w.grownBy w' (some rb) ∧ RdN w' rb := by
  have HG := Lib.hid (wgood_yes rb s _ (hb.alloc (.cells #[.pointer (some ⟨rb, 0, none⟩)] 34)))
  have HL := Lib.hid hb.lt
  have HI := Lib.hid hin; clear hin hb
  have hmf := makeF
  go_enter_defers Tryz.func89, Tryz.ntmps89
  go_wp2_with (fail)
  refine HG.out.mono ?_
  rintro e w' ⟨rfl, rfl⟩
  go_wp2_with (fail)
  refine HI.out.mono ?_
  rintro e w2 ⟨⟨u, pv, rfl⟩, hg, l, a, m, cap, hb2, _⟩
  have hlt := HL.out
  have hbox : w2.cell? ⟨w.heap.size, 0, none⟩ = some (.pointer (some ⟨rb, 0, none⟩)) := ((Blk.new w [.pointer (some ⟨rb, 0, none⟩)] 34).grown hg (by intro h; cases h; omega)).cell (i := 0) rfl
  have HQ := Lib.hid hg; clear hg
  refine leaves_cons (f := 146) (args := #[.pointer (some ⟨w.heap.size, 0, none⟩)]) (by simp) (by simp [go_sem]) ?_
  refine (caughtB ⟨w.heap.size, 0, none⟩ rb _ _ u pv [] w2 hbox hb2).mono ?_
  rintro e u' w'' ⟨rfl, rfl, hg3, hn⟩
  simp [Leaves, settle, results, Tryz.results89, go_sem]
  exact ⟨gb_trans (gb_trans (gb_alloc (gb_refl w _) _) HQ.out) hg3, hn⟩

/-- what the deferred call does behind a panic -/
theorem caughtI (p : Addr) (rb : Nat) (s g : Value) (u : TypeId) (pv : Value) (older : List PanicEntry) (w : World) (hp : w.cell? p = some (.pointer (some ⟨rb, 0, none⟩))) (hb : Blk w rb 102 [s, g]) :
    CallsD Tryz.prog 176 #[.pointer (some p)] (.panicking ({ v := .iface u pv, recovered := false } :: older)) w fun e u' w' =>
      e = .returned (.tuple #[]) ∧ u' = .panicking ({ v := .iface u pv, recovered := true } :: older) ∧ w.grownBy w' (some rb) ∧ RdN w' rb := by
  have c0 := hb.cell (i := 0) rfl
  have c1 := hb.cell (i := 1) rfl
  have f0 := hb.free 0
  have f1 := hb.free 1
  refine callsD_of_wpS Tryz.func176 rfl fun c₀ cs hu => ?_
  apply wpS_seq
  apply wpS_region
  simp [wpOpsS, go_sem, recoverD, hu, Tryz.ntmps176, Exit.thenS]
  refine wpS_cond (t := true) (by simp [Act.eval, Array.replicate]) ?_
  simp only [if_true]
  refine wpS_of_wp ?_
  go_wp2
  exact ⟨rfl, _, rfl, .tuple #[], results_none rfl _ _ _, rfl, rfl, gb_set (gb_set (gb_refl _ _) 0 _) 1 _, (hb.set 0 _).set 1 _⟩
theorem idleI (p : Addr) (w : World) :
    CallsD Tryz.prog 176 #[.pointer (some p)] .returning w fun e u' w' => e = .returned (.tuple #[]) ∧ u' = .returning ∧ w' = w := by
  refine callsD_of_wpS Tryz.func176 rfl fun c₀ cs hu => ?_
  apply wpS_seq
  apply wpS_region
  simp [wpOpsS, go_sem, recoverD, hu, Tryz.ntmps176, Exit.thenS]
  refine wpS_cond (t := false) (by simp [Act.eval, Array.replicate]) ?_
  simp only [Bool.false_eq_true, if_false]
  refine wpS_of_wp (wp_skip ?_)
  cases c₀
  simp_all [bodyPostS, results, Tryz.results176]
theorem tryI_bad (p : Option Addr) (n : Int) (f : Value) (w : World) (hg : ∀ w1, w.grownBy w1 none → Calls Tryz.prog 26 #[.pointer p] w1 fun e w' => e = .returned (.bool false) ∧ w' = w1) :
    Calls Tryz.prog 118 #[.pointer p, f, .int .i64 n] w fun e w' => e = .returned (.int .i64 0) ∧ w.grownBy w' none := by
  have HG := Lib.hid (hg _ (gb_alloc (gb_refl w none) (.cells #[.pointer p] 34))); clear hg
  go_enter_defers Tryz.func118, Tryz.ntmps118
  go_wp2_with (fail)
  refine HG.out.mono ?_
  rintro e w' ⟨rfl, rfl⟩
  go_wp2
  simp [bodyPostD, Leaves, results, Tryz.results118, go_sem]
  exact gb_alloc (gb_refl w none) _
theorem tryI_yes (rb : Nat) (n : Int) (s : Value) (w : World) (Q : Value → World → Prop) (hb : Blk w rb 102 [s, gP rb])
    (hin : Calls Tryz.prog 119 #[.pointer (some ⟨rb, 0, none⟩), .int .i64 n] (w.alloc (.cells #[.pointer (some ⟨rb, 0, none⟩)] 34)) fun e w' => ∃ x, e = .returned x ∧ Q x w') :
    Calls Tryz.prog 118 #[.pointer (some ⟨rb, 0, none⟩), .func (.func 119) #[.pointer (some ⟨rb, 0, none⟩)] #[], .int .i64 n] w fun e w' => ∃ x, e = .returned x ∧ Q x w' := by
  have HG := Lib.hid (wgood_yes rb s _ (hb.alloc (.cells #[.pointer (some ⟨rb, 0, none⟩)] 34)))
  have HI := Lib.hid hin; clear hin hb
  have hmf := makeF
  go_enter_defers Tryz.func118, Tryz.ntmps118
  go_wp2_with (fail)
  refine HG.out.mono ?_
  rintro e w' ⟨rfl, rfl⟩
  go_wp2_with (fail)
  refine HI.out.mono ?_
  rintro e w2 ⟨x, rfl, hq⟩
  have HQ := Lib.hid hq; clear hq
  go_wp2_with (fail)
  refine leaves_cons (f := 176) (args := #[.pointer (some ⟨w.heap.size, 0, none⟩)]) (by simp) (by simp [go_sem]) ?_
  refine (idleI _ _).mono ?_
  rintro e u' w'' ⟨rfl, rfl, rfl⟩
  simp [Leaves, settle, results, Tryz.results118, go_sem]
  exact HQ.out
theorem tryI_no (rb : Nat) (n : Int) (s : Value) (w : World) (hb : Blk w rb 102 [s, gP rb])
    (hin : Calls Tryz.prog 119 #[.pointer (some ⟨rb, 0, none⟩), .int .i64 n] (w.alloc (.cells #[.pointer (some ⟨rb, 0, none⟩)] 34)) fun e w' => Dies e ∧ (w.alloc (.cells #[.pointer (some ⟨rb, 0, none⟩)] 34)).grownBy w' (some rb) ∧ ∃ l, RdB w' rb (gP rb) l) :
    Calls Tryz.prog 118 #[.pointer (some ⟨rb, 0, none⟩), .func (.func 119) #[.pointer (some ⟨rb, 0, none⟩)] #[], .int .i64 n] w fun e w' => e = .returned (.int .i64 0) ∧ w.grownBy w' (some rb) ∧ RdN w' rb := by
  have HG := Lib.hid (wgood_yes rb s _ (hb.alloc (.cells #[.pointer (some ⟨rb, 0, none⟩)] 34)))
  have HL := Lib.hid hb.lt
  have HI := Lib.hid hin; clear hin hb
  have hmf := makeF
  go_enter_defers Tryz.func118, Tryz.ntmps118
  go_wp2_with (fail)
  refine HG.out.mono ?_
  rintro e w' ⟨rfl, rfl⟩
  go_wp2_with (fail)
  refine HI.out.mono ?_
  rintro e w2 ⟨⟨u, pv, rfl⟩, hg, l, a, m, cap, hb2, _⟩
  have hlt := HL.out
  have hbox : w2.cell? ⟨w.heap.size, 0, none⟩ = some (.pointer (some ⟨rb, 0, none⟩)) := ((Blk.new w [.pointer (some ⟨rb, 0, none⟩)] 34).grown hg (by intro h; cases h; omega)).cell (i := 0) rfl
  have HQ := Lib.hid hg; clear hg
  refine leaves_cons (f := 176) (args := #[.pointer (some ⟨w.heap.size, 0, none⟩)]) (by simp) (by simp [go_sem]) ?_
  refine (caughtI ⟨w.heap.size, 0, none⟩ rb _ _ u pv [] w2 hbox hb2).mono ?_
  rintro e u' w'' ⟨rfl, rfl, hg3, hn⟩
  simp [Leaves, settle, results, Tryz.results118, go_sem]
  exact ⟨gb_trans (gb_trans (gb_alloc (gb_refl w _) _) HQ.out) hg3, hn⟩

end Go.Proofs.YtlkiancedgaicaaGreat

/- A reader's calls: what each tells, and what is left behind it. -/
namespace Go.Proofs.YtlkiancedgaicaaGreat
open Go.RowKit Ow Wi

/-- a reader of what is left, or none any more -/
def RdS (w : World) (rb : Nat) : St → Prop
  | none => RdN w rb
  | some l => RdB w rb (gP rb) l
theorem RdN.stay {w w' : World} {rb : Nat} (h : RdN w rb) (hg : w.grownBy w' none) : RdN w' rb := Blk.grown h hg (by simp)
theorem RdS.stay {w w' : World} {rb : Nat} {st : St} (h : RdS w rb st) (hg : w.grownBy w' none) : RdS w' rb st := by
  cases st with
  | none => exact RdN.stay h hg
  | some l => exact RdB.stay h hg
theorem RdS.beside {w w' : World} {rb T : Nat} {st : St} (h : RdS w rb st) (hg : w.grownBy w' (some T)) (hT : rb < T) : RdS w' rb st := by
  cases st with
  | none => exact Blk.grown h hg (by simp; omega)
  | some l => exact RdB.beside h hg hT
theorem RdS.lt {w : World} {rb : Nat} {st : St} (h : RdS w rb st) : rb < w.heap.size := by
  cases st with
  | none => exact Blk.lt h
  | some l => obtain ⟨_, _, _, hb, _⟩ := h; exact hb.lt
theorem wgood_any (rb : Nat) (st : St) (w : World) (h : RdS w rb st) :
    Calls Tryz.prog 26 #[.pointer (some ⟨rb, 0, none⟩)] w fun e w' => e = .returned (.bool st.isSome) ∧ w' = w := by
  cases st with
  | none => exact wgood_no rb _ w h
  | some l => obtain ⟨a, n, cap, hb, _⟩ := h; exact wgood_yes rb _ w hb
theorem tryU_any (rb k : Nat) (st : St) (w : World) (h : RdS w rb st) (h8 : k ≤ 8) :
    Calls Tryz.prog 65 #[.pointer (some ⟨rb, 0, none⟩), .func (.func 66) #[.pointer (some ⟨rb, 0, none⟩)] #[], .int .i64 k] w fun e w' => e = .returned (.int .u64 ((tells 0 (rdWord k) st).1 : Nat)) ∧ w.grownBy w' (some rb) ∧ RdS w' rb (tells 0 (rdWord k) st).2 := by
  cases st with
  | none =>
    refine (tryU_bad _ k _ w fun w1 hg => wgood_no rb _ w1 (RdN.stay h hg)).mono ?_
    rintro e w' ⟨rfl, hg⟩
    exact ⟨rfl, gb_row hg _, RdN.stay h hg⟩
  | some l =>
    obtain ⟨a, n, cap, hb, _⟩ := id h
    have gz := gb_alloc (gb_refl w none) (.cells #[.pointer (some ⟨rb, 0, none⟩)] 34)
    by_cases hk : k ≤ l.length
    · have e1 : tells 0 (rdWord k) (some l) = (wN (l.take k), some (l.drop k)) := by unfold tells rdWord; simp only [if_pos hk]
      rw [e1]
      refine (tryU_yes rb k _ w (fun x w' => x = .int .u64 (wN (l.take k) : Nat) ∧ w.grownBy w' (some rb) ∧ RdB w' rb (gP rb) (l.drop k)) hb ((word_yes rb (gP rb) l k _ (RdB.stay h gz) hk h8).mono ?_)).mono ?_
      · rintro e w' ⟨rfl, hg, hr⟩
        exact ⟨_, rfl, rfl, gb_trans (gb_row gz _) hg, hr⟩
      · rintro e w' ⟨x, rfl, rfl, hg, hr⟩
        exact ⟨rfl, hg, hr⟩
    · have e1 : tells 0 (rdWord k) (some l) = (0, none) := by unfold tells rdWord; simp only [if_neg hk]
      rw [e1]
      refine (tryU_no rb k _ w hb ((word_no rb (gP rb) l k _ (RdB.stay h gz) (by omega)).mono ?_)).mono ?_
      · rintro e w' ⟨hd, rfl⟩
        exact ⟨hd, gb_refl _ _, l, RdB.stay h gz⟩
      · rintro e w' ⟨rfl, hg, hn⟩
        exact ⟨rfl, hg, hn⟩
theorem tryI_any (rb : Nat) (most : Int) (st : St) (w : World) (h : RdS w rb st) :
    Calls Tryz.prog 118 #[.pointer (some ⟨rb, 0, none⟩), .func (.func 119) #[.pointer (some ⟨rb, 0, none⟩)] #[], .int .i64 most] w fun e w' => e = .returned (.int .i64 (countS most st).1) ∧ w.grownBy w' (some rb) ∧ RdS w' rb (countS most st).2 := by
  unfold countS
  cases st with
  | none =>
    refine (tryI_bad _ most _ w fun w1 hg => wgood_no rb _ w1 (RdN.stay h hg)).mono ?_
    rintro e w' ⟨rfl, hg⟩
    exact ⟨rfl, gb_row hg _, RdN.stay h hg⟩
  | some l =>
    obtain ⟨a, n, cap, hb, _⟩ := id h
    have gz := gb_alloc (gb_refl w none) (.cells #[.pointer (some ⟨rb, 0, none⟩)] 34)
    by_cases hk : 8 ≤ l.length ∧ 0 ≤ toI (wN (l.take 8)) ∧ toI (wN (l.take 8)) ≤ most
    · have e1 : tells 0 (rdCount most) (some l) = (toI (wN (l.take 8)), some (l.drop 8)) := by unfold tells rdCount; simp only [if_pos hk]
      rw [e1]
      refine (tryI_yes rb most _ w (fun x w' => x = .int .i64 (toI (wN (l.take 8))) ∧ w.grownBy w' (some rb) ∧ RdB w' rb (gP rb) (l.drop 8)) hb ((count_yes rb (gP rb) l most _ (RdB.stay h gz) hk.1 hk.2.1 hk.2.2).mono ?_)).mono ?_
      · rintro e w' ⟨rfl, hg, hr⟩
        exact ⟨_, rfl, rfl, gb_trans (gb_row gz _) hg, hr⟩
      · rintro e w' ⟨x, rfl, rfl, hg, hr⟩
        exact ⟨rfl, hg, hr⟩
    · have e1 : tells 0 (rdCount most) (some l) = (0, none) := by unfold tells rdCount; simp only [if_neg hk]
      rw [e1]
      refine (tryI_no rb most _ w hb (count_no rb (gP rb) l most _ (RdB.stay h gz) hk)).mono ?_
      rintro e w' ⟨rfl, hg, hn⟩
      exact ⟨rfl, hg, hn⟩

set_option maxRecDepth 100000 in
set_option maxHeartbeats 800000 in
theorem rbytes_yes (rb : Nat) (l x r : List Nat) (most : Int) (w : World) (h : RdB w rb (gP rb) l) (hl : l.length ≤ 1000000) (hx : rdBytes most l = some (x, r)) :
    Calls Tryz.prog 90 #[.pointer (some ⟨rb, 0, none⟩), .int .i64 most] w fun e w' => ∃ v, e = .returned v ∧ w.grownBy w' (some rb) ∧ RdB w' rb (gP rb) r ∧ w'.ownsRow w.heap.size 5 1 v x.length (x.map u8N) := by
  unfold rdBytes rdCount at hx
  by_cases hk : 8 ≤ l.length ∧ 0 ≤ toI (wN (l.take 8)) ∧ toI (wN (l.take 8)) ≤ most
  · simp only [if_pos hk] at hx
    by_cases hm : (toI (wN (l.take 8))).toNat ≤ (l.drop 8).length
    · rw [if_pos hm] at hx
      simp only [Option.some.injEq, Prod.mk.injEq] at hx
      obtain ⟨rfl, rfl⟩ := hx
      have HC := Lib.hid (count_yes rb (gP rb) l most w.drew (RdB.stay h (gb_drew (gb_refl _ _))) hk.1 hk.2.1 hk.2.2)
      obtain ⟨m, hmm⟩ : ∃ m : Nat, toI (wN (l.take 8)) = m := ⟨_, (Int.toNat_of_nonneg hk.2.1).symm⟩
      rw [hmm] at HC hm ⊢
      rw [Int.toNat_natCast] at hm ⊢
      have hm1 : m ≤ 1000000 := by rw [List.length_drop] at hm; omega
      have HL := Lib.hid (And.intro hm hl)
      have HL2 : Hid (((l.drop 8).take m).length = m) := by show ((l.drop 8).take m).length = m; rw [List.length_take]; omega
      have HL3 : Hid ([(l.drop 8).take m].flatten.length ≤ 1000000) := by show [(l.drop 8).take m].flatten.length ≤ 1000000; simp only [List.flatten_cons, List.flatten_nil, List.append_nil]; rw [HL2.out]; exact hm1
      clear h hk hmm hm hl
      go_enter Tryz.func90, Tryz.ntmps90
      go_upto_region 1 with (fail)
      go_region_with (first | (go_at_call 119; refine HC.out.mono ?_; rintro e w1 ⟨rfl, hg, hr⟩; have H1 := Lib.hid (And.intro hg hr); clear hg hr HC) | (go_at_call 122; refine (take_rd rb (gP rb) (l.drop 8) m _ H1.out.2 HL.out.1).mono ?_; rintro e w2 ⟨a1, c1, rfl, hg, hr, hP, hQ⟩; have H2 := Lib.hid (And.intro (gb_trans H1.out.1 hg) (And.intro hr hP)); clear hg hr hP hQ H1) | (go_at_call 14; refine (join_any 1 1 _ [(l.drop 8).take m] _ _ rfl (rows1 (HL2.out) H2.out.2.2) (by decide) HL3.out).mono ?_; rintro e w3 ⟨v, rfl, hg, ho⟩; have H3 := Lib.hid (And.intro hg ho); clear hg ho))
      all_goals go_wp2
      all_goals go_ret
      all_goals (
        obtain ⟨hg, ho⟩ := H3.out
        simp only [List.flatten_cons, List.flatten_nil, List.append_nil] at ho
        have gz := gb_alloc (gb_refl w2 none) (.cells #[.slice a1 m c1] 23)
        have g0 : w.grownBy w.drew (some rb) := gb_drew (gb_refl _ _)
        exact ⟨v, rfl, gb_trans g0 (gb_trans H2.out.1 (gb_row (gb_trans gz hg) _)), H2.out.2.1.stay (gb_trans gz hg), own_down ho (Nat.le_trans (gb_trans g0 H2.out.1).size gz.size)⟩)
    · rw [if_neg hm] at hx; cases hx
  · simp only [if_neg hk] at hx; cases hx
set_option maxRecDepth 100000 in
set_option maxHeartbeats 800000 in
theorem rbytes_no (rb : Nat) (l : List Nat) (most : Int) (w : World) (h : RdB w rb (gP rb) l) (hx : rdBytes most l = none) :
    Calls Tryz.prog 90 #[.pointer (some ⟨rb, 0, none⟩), .int .i64 most] w fun e w' => Dies e ∧ w.grownBy w' (some rb) ∧ ∃ l', RdB w' rb (gP rb) l' := by
  unfold rdBytes rdCount at hx
  by_cases hk : 8 ≤ l.length ∧ 0 ≤ toI (wN (l.take 8)) ∧ toI (wN (l.take 8)) ≤ most
  · simp only [if_pos hk] at hx
    by_cases hm : (toI (wN (l.take 8))).toNat ≤ (l.drop 8).length
    · rw [if_pos hm] at hx; cases hx
    · have HC := Lib.hid (count_yes rb (gP rb) l most w.drew (RdB.stay h (gb_drew (gb_refl _ _))) hk.1 hk.2.1 hk.2.2)
      obtain ⟨m, hmm⟩ : ∃ m : Nat, toI (wN (l.take 8)) = m := ⟨_, (Int.toNat_of_nonneg hk.2.1).symm⟩
      rw [hmm] at HC hm
      rw [Int.toNat_natCast] at hm
      have HL : Hid ((l.drop 8).length < m) := Nat.lt_of_not_le hm
      clear h hk hmm hm hx
      go_enter Tryz.func90, Tryz.ntmps90
      go_upto_region 1 with (fail)
      refine wp_region_any (by kernel_rfl) ?_
      change wpAny _ _ _ _ _ _ _ (World.drew _)
      refine wpAny_take (i := 0) (v := ?v0) rfl (by kernel_rfl) (by kernel_rfl) (by kernel_rfl) (fun _ _ _ h => h) (Or.inl ⟨by rfl, ?hy0⟩) ?rest0
      case hy0 => intro w; go_simp; try rfl
      refine wpAny_take (i := 1) (v := ?v1) rfl (by kernel_rfl) (by kernel_rfl) (by kernel_rfl) (fun _ _ _ h => h) (Or.inl ⟨by rfl, ?hy1⟩) ?rest1
      case hy1 => intro w; go_simp; try rfl
      refine wpAny_take (i := 2) (v := ?v2) rfl (by kernel_rfl) (by kernel_rfl) (by kernel_rfl) (fun _ _ _ h => h) (Or.inl ⟨by rfl, ?hy2⟩) ?rest2
      case hy2 => intro w; go_simp; try rfl
      refine wpAny_take (i := 3) (v := ?v3) rfl (by kernel_rfl) (by kernel_rfl) (by kernel_rfl) (fun _ _ _ h => h) (Or.inl ⟨by rfl, ?hy3⟩) ?rest3
      case hy3 => intro w; go_simp; try rfl
      refine wpAny_take (i := 4) (v := ?v4) rfl (by kernel_rfl) (by kernel_rfl) (by kernel_rfl) (fun _ _ _ h => h) (Or.inl ⟨by rfl, ?hy4⟩) ?rest4
      case hy4 => intro w; go_simp; try rfl
      refine wpAny_ready (rs := [5]) (by kernel_rfl) (by simp) ?_
      refine AllReady.cons rfl (fun K hK => ?_) AllReady.nil
      go_simp
      refine HC.out.mono ?_
      rintro e w1 ⟨rfl, hg, hr⟩
      have H1 := Lib.hid (And.intro hg hr); clear hg hr HC
      refine hK _ _ ?_
      clear hK K
      refine wpAny_ready (rs := [6]) (by kernel_rfl) (by simp) ?_
      refine AllReady.cons rfl (fun K hK => ?_) AllReady.nil
      go_simp
      refine (take_bad rb (gP rb) (l.drop 8) m _ H1.out.2 HL.out).mono ?_
      rintro e w2 ⟨⟨u, pv, rfl⟩, rfl⟩
      exact ⟨rfl, ⟨u, pv, rfl⟩, gb_trans (gb_drew (gb_refl _ _)) H1.out.1, _, H1.out.2⟩
  · have HC := Lib.hid (count_no rb (gP rb) l most w.drew (RdB.stay h (gb_drew (gb_refl _ _))) hk)
    clear h hk hx
    go_enter Tryz.func90, Tryz.ntmps90
    go_upto_region 1 with (fail)
    refine wp_region_any (by kernel_rfl) ?_
    change wpAny _ _ _ _ _ _ _ (World.drew _)
    refine wpAny_take (i := 0) (v := ?w0) rfl (by kernel_rfl) (by kernel_rfl) (by kernel_rfl) (fun _ _ _ h => h) (Or.inl ⟨by rfl, ?hz0⟩) ?more0
    case hz0 => intro w; go_simp; try rfl
    refine wpAny_take (i := 1) (v := ?w1) rfl (by kernel_rfl) (by kernel_rfl) (by kernel_rfl) (fun _ _ _ h => h) (Or.inl ⟨by rfl, ?hz1⟩) ?more1
    case hz1 => intro w; go_simp; try rfl
    refine wpAny_take (i := 2) (v := ?w2) rfl (by kernel_rfl) (by kernel_rfl) (by kernel_rfl) (fun _ _ _ h => h) (Or.inl ⟨by rfl, ?hz2⟩) ?more2
    case hz2 => intro w; go_simp; try rfl
    refine wpAny_take (i := 3) (v := ?w3) rfl (by kernel_rfl) (by kernel_rfl) (by kernel_rfl) (fun _ _ _ h => h) (Or.inl ⟨by rfl, ?hz3⟩) ?more3
    case hz3 => intro w; go_simp; try rfl
    refine wpAny_take (i := 4) (v := ?w4) rfl (by kernel_rfl) (by kernel_rfl) (by kernel_rfl) (fun _ _ _ h => h) (Or.inl ⟨by rfl, ?hz4⟩) ?more4
    case hz4 => intro w; go_simp; try rfl
    refine wpAny_ready (rs := [5]) (by kernel_rfl) (by simp) ?_
    refine AllReady.cons rfl (fun K hK => ?_) AllReady.nil
    go_simp
    refine HC.out.mono ?_
    rintro e w1 ⟨⟨u, pv, rfl⟩, hr⟩
    exact ⟨rfl, ⟨u, pv, rfl⟩, gb_trans (gb_drew (gb_refl _ _)) hr.1, hr.2⟩
theorem tryB_any (rb : Nat) (most : Int) (st : St) (w : World) (h : RdS w rb st) (hl : ∀ l, st = some l → l.length ≤ 1000000) :
    Calls Tryz.prog 89 #[.pointer (some ⟨rb, 0, none⟩), .func (.func 90) #[.pointer (some ⟨rb, 0, none⟩)] #[], .int .i64 most] w fun e w' => ∃ v, e = .returned v ∧ w.grownBy w' (some rb) ∧ RdS w' rb (bytesS most st).2 ∧ w'.ownsRow w.heap.size 5 1 v (bytesS most st).1.length ((bytesS most st).1.map u8N) := by
  unfold bytesS
  cases st with
  | none =>
    refine (tryB_bad _ most _ w fun w1 hg => wgood_no rb _ w1 (RdN.stay h hg)).mono ?_
    rintro e w' ⟨rfl, hg⟩
    exact ⟨_, rfl, gb_row hg _, RdN.stay h hg, World.ownsRow_nil w' _ 5 1⟩
  | some l =>
    obtain ⟨a, n, cap, hb, _⟩ := id h
    have gz := gb_alloc (gb_refl w none) (.cells #[.pointer (some ⟨rb, 0, none⟩)] 34)
    cases hk : rdBytes most l with
    | some p =>
      obtain ⟨x, r⟩ := p
      have e1 : tells [] (rdBytes most) (some l) = (x, some r) := by unfold tells; simp only [hk]
      rw [e1]
      refine (tryB_yes rb most _ w (fun v w' => w.grownBy w' (some rb) ∧ RdB w' rb (gP rb) r ∧ w'.ownsRow w.heap.size 5 1 v x.length (x.map u8N)) hb ((rbytes_yes rb l x r most _ (RdB.stay h gz) (hl l rfl) hk).mono ?_))
      rintro e w' ⟨v, rfl, hg, hr, ho⟩
      exact ⟨v, rfl, gb_trans (gb_row gz _) hg, hr, own_down ho gz.size⟩
    | none =>
      have e1 : tells [] (rdBytes most) (some l) = ([], none) := by unfold tells; simp only [hk]
      rw [e1]
      refine (tryB_no rb most _ w hb (rbytes_no rb l most _ (RdB.stay h gz) hk)).mono ?_
      rintro e w' ⟨rfl, hg, hn⟩
      exact ⟨_, rfl, hg, hn, World.ownsRow_nil w' _ 5 1⟩
end Go.Proofs.YtlkiancedgaicaaGreat

/- wire's calls: Number, Bytes, Join, NewReader and the reader's Byte, Number, Count, Bytes. -/
namespace Go.Proofs.YtlkiancedgaicaaGreat
open Go.RowKit Ow Wi

theorem tellsU_lt (rb k : Nat) (st : St) (w : World) (h : RdS w rb st) : (tells 0 (rdWord k) st).1 < 256 ^ k := by
  have hp : 0 < 256 ^ k := Nat.pow_pos (by decide)
  cases st with
  | none => exact hp
  | some l =>
    have hb := RdB.byte h
    unfold tells rdWord
    by_cases hk : k ≤ l.length
    · simp only [if_pos hk]
      have h1 := wN_lt (l.take k) (fun b hm => getD_mem hb b (List.mem_of_mem_take hm))
      rwa [List.length_take, Nat.min_eq_left hk] at h1
    · simp only [if_neg hk]; exact hp
theorem bytesS_lt {w : World} {rb : Nat} {st : St} (h : RdS w rb st) (most : Int) (i : Nat) : (bytesS most st).1.getD i 0 < 256 := by
  cases st with
  | none => unfold bytesS tells; simp
  | some l =>
    have hb := RdB.byte h
    unfold bytesS
    cases hr : rdBytes most l with
    | none =>
      have e1 : tells [] (rdBytes most) (some l) = ([], none) := by unfold tells; simp only [hr]
      rw [e1]; simp
    | some p =>
      obtain ⟨x, r⟩ := p
      have e1 : tells [] (rdBytes most) (some l) = (x, some r) := by unfold tells; simp only [hr]
      rw [e1]
      unfold rdBytes rdCount at hr
      split at hr
      · cases hr
      · rename_i n r' hc
        split at hc
        · cases hc
          split at hr
          · cases hr
            exact getD_take_lt _ _ (fun i => by rw [getD_drop]; exact hb _) i
          · cases hr
        · cases hc
theorem byte_any (rb : Nat) (st : St) (w : World) (h : RdS w rb st) :
    Calls Tryz.prog 53 #[.pointer (some ⟨rb, 0, none⟩)] w fun e w' => e = .returned (.int .u8 ((byteS st).1 : Nat)) ∧ w.grownBy w' (some rb) ∧ RdS w' rb (byteS st).2 := by
  have hlt := tellsU_lt rb 1 st w h
  have HT := Lib.hid (tryU_any rb 1 st w h (by decide))
  unfold byteS
  generalize tells 0 (rdWord 1) st = x at *
  obtain ⟨n, st'⟩ := x
  have hw : IntKind.u8.wrap (n : Int) = n := by
    rw [show IntKind.u8.wrap (n : Int) = (n : Int) % 256 by simp [IntKind.wrap, IntKind.signed, IntKind.bits]]
    have : n < 256 := hlt
    omega
  clear h hlt
  have hmf := makeF
  go_enter Tryz.func53, Tryz.ntmps53
  go_wp2_with (fail)
  refine HT.out.mono ?_
  rintro e w' ⟨rfl, hg, hr⟩
  have H := Lib.hid (And.intro hg hr); clear hg hr
  go_wp2
  go_ret
  exact ⟨rfl, H.out⟩
theorem number_any (rb : Nat) (st : St) (w : World) (h : RdS w rb st) :
    Calls Tryz.prog 33 #[.pointer (some ⟨rb, 0, none⟩)] w fun e w' => e = .returned (.int .i64 (toI (numS st).1)) ∧ w.grownBy w' (some rb) ∧ RdS w' rb (numS st).2 := by
  have hlt := tellsU_lt rb 8 st w h
  have HT := Lib.hid (tryU_any rb 8 st w h (by decide))
  unfold numS
  generalize tells 0 (rdWord 8) st = x at *
  obtain ⟨n, st'⟩ := x
  have hw : IntKind.i64.wrap (n : Int) = toI n := conv_yes n (by
    have h1 : (256 : Nat) ^ 8 = 18446744073709551616 := by decide
    have : n < 256 ^ 8 := hlt
    omega)
  clear h hlt
  have hmf := makeF
  go_enter Tryz.func33, Tryz.ntmps33
  go_wp2_with (fail)
  refine HT.out.mono ?_
  rintro e w' ⟨rfl, hg, hr⟩
  have H := Lib.hid (And.intro hg hr); clear hg hr
  go_wp2
  go_ret
  exact ⟨rfl, H.out⟩
theorem rcount_any (rb : Nat) (most : Int) (st : St) (w : World) (h : RdS w rb st) :
    Calls Tryz.prog 60 #[.pointer (some ⟨rb, 0, none⟩), .int .i64 most] w fun e w' => e = .returned (.int .i64 (countS most st).1) ∧ w.grownBy w' (some rb) ∧ RdS w' rb (countS most st).2 := by
  have HT := Lib.hid (tryI_any rb most st w h)
  clear h
  have hmf := makeF
  go_enter Tryz.func60, Tryz.ntmps60
  go_wp2_with (fail)
  refine HT.out.mono ?_
  rintro e w' ⟨rfl, hg, hr⟩
  have H := Lib.hid (And.intro hg hr); clear hg hr
  go_wp2
  go_ret
  exact ⟨rfl, H.out⟩
theorem rbytes_any (rb : Nat) (most : Int) (st : St) (w : World) (h : RdS w rb st) (hl : ∀ l, st = some l → l.length ≤ 1000000) :
    Calls Tryz.prog 52 #[.pointer (some ⟨rb, 0, none⟩), .int .i64 most] w fun e w' => ∃ v, e = .returned v ∧ w.grownBy w' (some rb) ∧ RdS w' rb (bytesS most st).2 ∧ w'.ownsRow w.heap.size 5 1 v (bytesS most st).1.length ((bytesS most st).1.map u8N) := by
  have HT := Lib.hid (tryB_any rb most st w h hl)
  clear h hl
  have hmf := makeF
  go_enter Tryz.func52, Tryz.ntmps52
  go_wp2_with (fail)
  refine HT.out.mono ?_
  rintro e w' ⟨v, rfl, hr⟩
  have H := Lib.hid hr; clear hr
  go_wp2
  go_ret
  exact ⟨v, rfl, H.out⟩
theorem new_any (n cap B : Nat) (a : Option Addr) (l : List Nat) (w : World) (hl : l.length = n) (hn : n ≤ 1000000) (hP : BytesAt w B a cap l) :
    Calls Tryz.prog 23 #[.slice a n cap] w fun e w' => ∃ rb, e = .returned (.pointer (some ⟨rb, 0, none⟩)) ∧ w.grownBy w' none ∧ w.heap.size ≤ rb ∧ RdS w' rb (some l) := by
  have HP := Lib.hid (And.intro hl (And.intro hn hP)); clear hl hn hP
  go_enter Tryz.func23, Tryz.ntmps23
  go_wp2_with (fail)
  refine (join_any 1 1 _ [l] _ _ rfl (rows1 HP.out.1 HP.out.2.2.full) (by decide) (by simp only [List.flatten_cons, List.flatten_nil, List.append_nil]; have h1 := HP.out.1; have h2 := HP.out.2.1; omega)).mono ?_
  rintro e w1 ⟨v, rfl, hg, ho⟩
  simp only [List.flatten_cons, List.flatten_nil, List.append_nil] at ho
  obtain ⟨a1, c1, rfl, _, hB, _⟩ := own_slice ho HP.out.2.2.byte
  have H1 := Lib.hid (And.intro (gb_trans (gb_alloc (gb_refl w none) _) hg) hB); clear hg ho hB
  go_wp2
  go_ret
  obtain ⟨hg, hB⟩ := H1.out
  have hb := Blk.new w1 [.slice a1 l.length c1, .pointer (some ⟨w1.heap.size, 0, none⟩)] 102
  have g2 := gb_alloc (gb_refl w1 none) (.cells #[.slice a1 l.length c1, .pointer (some ⟨w1.heap.size, 0, none⟩)] 102)
  refine ⟨w1.heap.size, rfl, gb_trans hg g2, hg.size, a1, l.length, c1, hb, rfl, (hB.stay g2).full, ?_⟩
  rcases hB.cells with h0 | ⟨pb, po, rfl, hlt, _⟩
  · exact Or.inl h0
  · exact Or.inr fun pb' po' e => by cases e; omega

end Go.Proofs.YtlkiancedgaicaaGreat

/- record.readDot: the next dot. -/
namespace Go.Proofs.YtlkiancedgaicaaGreat
open Go.RowKit Ow Wi Ve
namespace Rc
set_option maxHeartbeats 400000 in
theorem readDot_any (rb : Nat) (st : St) (w : World) (h : RdS w rb st) :
    Calls Tryz.prog 224 #[.pointer (some ⟨rb, 0, none⟩)] w fun e w' => e = .returned (.agg #[iV (toI (numS st).1), iV (toI (numS (numS st).2).1)]) ∧ w.grownBy w' (some rb) ∧ RdS w' rb (numS (numS st).2).2 := by
  have hlt := h.lt
  obtain ⟨Q, hQ⟩ : ∃ Q : Ending → World → Prop, Q = fun e w' => e = .returned (.agg #[iV (toI (numS st).1), iV (toI (numS (numS st).2).1)]) ∧ w.grownBy w' (some rb) ∧ RdS w' rb (numS (numS st).2).2 := ⟨_, rfl⟩
  rw [← hQ]
  have HQ : Hid (∀ w', w.grownBy w' (some rb) → RdS w' rb (numS (numS st).2).2 → Q (.returned (.agg #[iV (toI (numS st).1), iV (toI (numS (numS st).2).1)])) w') := fun w' h1 h2 => by rw [hQ]; exact ⟨rfl, h1, h2⟩
  clear hQ
  obtain ⟨W0, hW0⟩ : ∃ W0, W0 = w.alloc (.cells #[iV 0, iV 0] 127) := ⟨_, rfl⟩
  obtain ⟨N, hN⟩ : ∃ N, N = w.heap.size := ⟨_, rfl⟩
  have hg0 : w.grownBy W0 none := by rw [hW0]; exact gb_alloc (gb_refl _ _) _
  have hb0 : Blk W0 N 127 [iV 0, iV 0] := by rw [hW0, hN]; exact Blk.new _ _ _
  have H1 := Lib.hid (number_any rb st W0 (h.stay hg0))
  have H2 := Lib.hid (fun w' (h : RdS w' rb (numS st).2) => number_any rb (numS st).2 w' h)
  have HG0 := Lib.hid (And.intro hg0 (And.intro hb0 (And.intro (show rb < N by omega) (show w.heap.size ≤ N by omega)))); clear hg0 hb0 h hlt
  go_enter Tryz.func224, Tryz.ntmps224
  go_wp2_with fail
  rw [← hW0, ← hN]
  clear hW0 hN
  refine H1.out.mono ?_
  rintro e w1 ⟨rfl, hg1, hr1⟩
  generalize toI (numS st).1 = x at *
  generalize (numS st).2 = st1 at *
  have HG1 := Lib.hid (And.intro hg1 hr1); clear hg1 hr1
  go_wp2_with fail
  refine (H2.out w1 HG1.out.2).mono ?_
  rintro e w2 ⟨rfl, hg2, hr2⟩
  have hb2 := ((HG0.out.2.1.grown HG1.out.1 (by have := HG0.out.2.2.1; simp; omega)).grown hg2 (by have := HG0.out.2.2.1; simp; omega))
  have c0 := hb2.cell (i := 0) rfl
  have c1 := hb2.cell (i := 1) rfl
  have f0 := hb2.free 0
  have f1 := hb2.free 1
  generalize toI (numS st1).1 = y at *
  have HG2 := Lib.hid (And.intro (gb_trans (gb_row HG0.out.1 _) (gb_trans HG1.out.1 hg2)) (And.intro hr2 (And.intro hb2 HG0.out.2.2.1))); clear hg2 hr2 hb2
  go_wp2
  obtain ⟨hg, hr, hb, hN⟩ := HG2.out
  have hR := (hb.set 0 (.int .i64 x)).set 1 (.int .i64 y)
  refine bodyPost_ret (v := .agg #[iV x, iV y]) (results_cell_row Tryz.results224 _ _ N 127 _ (0, 0) _ rfl hR Tryz.underlying127 rfl info_dotS) rfl ?_
  exact HQ.out _ (gb_set_new (gb_set_new hg (p := ⟨N, 0, none⟩) HG0.out.2.2.2 _) (p := ⟨N, 1, none⟩) HG0.out.2.2.2 _) ((hr.beside (gb_set (gb_refl _ (some N)) 0 _) hN).beside (gb_set (gb_refl _ (some N)) 1 _) hN)
end Rc
end Go.Proofs.YtlkiancedgaicaaGreat

/- record.read: what is found where a record's parts would stand. -/
namespace Go.Proofs.YtlkiancedgaicaaGreat
open Go.RowKit Ow Wi Ve
namespace Rc
/-- what a reading of a record holds of memory -/
structure Rs (w0 : World) (N rb M : Nat) (T : TypeId) (cells : List Value) (st : St) (w : World) : Prop where
  gb : w0.grownBy w none
  rd : RdS w rb st
  bx : Blk w M T cells
  res : Blk w N 66 z7
structure Rn (w0 : World) (N rb M : Nat) : Prop where
  n0 : w0.heap.size ≤ N
  n1 : N < rb
  n2 : rb < M
theorem Rs.call {w0 w w' : World} {N rb M : Nat} {T : TypeId} {cells : List Value} {st st' : St} (h : Rs w0 N rb M T cells st w) (k : Rn w0 N rb M) (hg : w.grownBy w' (some rb)) (hr : RdS w' rb st') : Rs w0 N rb M T cells st' w' :=
  ⟨gb_then h.gb hg (by have := k.n0; have := k.n1; omega), hr, h.bx.grown hg (by have := k.n2; simp; omega), h.res.grown hg (by have := k.n1; simp; omega)⟩
theorem Rs.set {w0 w : World} {N rb M : Nat} {T : TypeId} {cells : List Value} {st : St} (h : Rs w0 N rb M T cells st w) (k : Rn w0 N rb M) (i : Nat) (v : Value) : Rs w0 N rb M T (cells.set i v) st (w.setCell ⟨M, i, none⟩ v) :=
  ⟨gb_set_new h.gb (p := ⟨M, i, none⟩) (by have := k.n0; have := k.n1; have := k.n2; show _ ≤ M; omega) v, h.rd.beside (gb_set (gb_refl w (some M)) i v) k.n2, h.bx.set i v, h.res.grown (gb_set (gb_refl w (some M)) i v) (by have := k.n1; have := k.n2; simp; omega)⟩
theorem Rs.stay {w0 w w' : World} {N rb M : Nat} {T : TypeId} {cells : List Value} {st : St} (h : Rs w0 N rb M T cells st w) (hg : w.grownBy w' none) : Rs w0 N rb M T cells st w' :=
  ⟨gb_trans h.gb hg, h.rd.stay hg, h.bx.grown hg (by simp), h.res.grown hg (by simp)⟩
/-- a dot read, and appended to the context -/
theorem Rs.readd {w0 w w' : World} {N rb M : Nat} {T : TypeId} {c0 c1 c2 c4 c5 c6 : Value} {a' : Option Addr} {c' k : Nat} {st : St} {x y : Int} {st' : St} {l : List D} (h : Rs w0 N rb M T [c0, c1, c2, .slice a' k c', c4, c5, c6] st w) (K : Rn w0 N rb M) (ho : OwnD' w (M + 1) (.slice a' k c') k l) (hk : k ≤ 8) (hg : w.grownBy w' (some rb)) (hr : RdS w' rb st') :
    ∃ v2 w11, (Builtin.append_ #[64, 64] 64 #[.slice a' k c', .slice (some ⟨w'.heap.size, 0, none⟩) 1 1]).run Tryz.prog (w'.alloc (.cells #[iV x, iV y] 127)) = .ok v2 w11 ∧ Rs w0 N rb M T [c0, c1, c2, .slice a' k c', c4, c5, c6] st' w11 ∧ OwnD' w11 (M + 1) v2 (k + 1) (l ++ [(x, y)]) := by
  have hb : ∀ r, (Value.slice a' k c').ownBlock = some r → M < r := fun r e => by have := (ho.lt r e).1; omega
  have h1 := h.call K hg hr
  have gA : w'.grownBy (w'.alloc (.cells #[iV x, iV y] 127)) none := gb_alloc (gb_refl _ _) _
  have ho1 := (ho.kept hg (Or.inr fun e => by have := hb _ e; have := K.n2; omega)).kept gA (by cases (Value.slice a' k c').ownBlock <;> simp)
  have h2 := h1.stay gA
  obtain ⟨v2, w11, hap, ho2, hg2⟩ := append_dots _ (M + 1) (w'.heap.size + 1) _ k l (some ⟨w'.heap.size, 0, none⟩) 1 1 [(x, y)] ho1 rfl (dots_one w' x y _) (by simp) (by omega) (by have := h2.bx.lt; omega)
  refine ⟨v2, w11, hap, ?_, ho2⟩
  have hne : ∀ q, q ≤ M → (some q ≠ (Value.slice a' k c').ownBlock) := fun q hq e => by have := hb q e.symm; omega
  refine ⟨gb_ownD' h2.gb ho1 (by have := K.n0; have := K.n1; have := K.n2; omega) hg2, ?_, h2.bx.grown hg2 (hne M (Nat.le_refl _)), h2.res.grown hg2 (hne N (by have := K.n1; have := K.n2; omega))⟩
  cases hb' : (Value.slice a' k c').ownBlock with
  | none => rw [hb'] at hg2; exact h2.rd.stay hg2
  | some r => rw [hb'] at hg2; exact h2.rd.beside hg2 (by have := hb r hb'; have := K.n2; omega)
/-- the context and the value, in rows of one's own -/
structure Two (w : World) (M Bs : Nat) (v3 v5 : Value) (n3 n5 : Nat) (cx : List D) (val : List Nat) : Prop where
  cx : OwnD' w (M + 1) v3 n3 cx
  val : w.ownsRow (M + 1) 5 1 v5 n5 (val.map u8N)
  l3 : ∀ r, v3.ownBlock = some r → r < Bs
  l5 : ∀ r, v5.ownBlock = some r → r < Bs
theorem Two.keep {w w' : World} {M Bs n3 n5 : Nat} {v3 v5 : Value} {cx : List D} {val : List Nat} (h : Two w M Bs v3 v5 n3 n5 cx val) {row : Option Nat} (hg : w.grownBy w' row) (hr : ∀ r, row = some r → r ≤ M ∨ Bs ≤ r) : Two w' M Bs v3 v5 n3 n5 cx val := by
  refine ⟨h.cx.kept hg ?_, h.val.kept hg ?_, h.l3, h.l5⟩
  · cases hb : v3.ownBlock with
    | none => exact Or.inl rfl
    | some r => refine Or.inr fun e => ?_; have := hr r e.symm; have := h.l3 r hb; have := (h.cx.lt r hb).1; omega
  · cases hb : v5.ownBlock with
    | none => exact Or.inl rfl
    | some r => refine Or.inr fun e => ?_; have := hr r e.symm; have := h.l5 r hb; have := (h.val.lt r hb).1; omega
/-- a byte read, and appended to the signature -/
theorem Rs.reads {w0 w w' : World} {N rb M Bs : Nat} {T : TypeId} {c0 c1 c2 c4 : Value} {a3 a5 a6 : Option Addr} {n3 n5 k3 k5 k6 k : Nat} {st st' : St} {x : Nat} {cx : List D} {val l : List Nat} (h : Rs w0 N rb M T [c0, c1, c2, .slice a3 n3 k3, c4, .slice a5 n5 k5, .slice a6 k k6] st w) (K : Rn w0 N rb M) (hB : M < Bs) (hBw : Bs ≤ w.heap.size)
    (ht : Two w M Bs (.slice a3 n3 k3) (.slice a5 n5 k5) n3 n5 cx val) (ho : w.ownsRow Bs 5 1 (.slice a6 k k6) k (l.map u8N)) (hk : k ≤ 64) (hg : w.grownBy w' (some rb)) (hr : RdS w' rb st') :
    ∃ v2 w11, (Builtin.append_ #[23, 23] 23 #[.slice a6 k k6, .slice (some ⟨w'.heap.size, 0, none⟩) 1 1]).run Tryz.prog (w'.alloc (.cells #[u8N x] 5)) = .ok v2 w11 ∧ Rs w0 N rb M T [c0, c1, c2, .slice a3 n3 k3, c4, .slice a5 n5 k5, .slice a6 k k6] st' w11 ∧ Two w11 M Bs (.slice a3 n3 k3) (.slice a5 n5 k5) n3 n5 cx val ∧ w11.ownsRow Bs 5 1 v2 (k + 1) ((l ++ [x]).map u8N) ∧ Bs ≤ w11.heap.size := by
  have hb : ∀ r, (Value.slice a6 k k6).ownBlock = some r → Bs ≤ r := fun r e => (ho.lt r e).1
  have h1 := h.call K hg hr
  have ho1 := ho.kept hg (Or.inr fun e => by have := hb _ e; have := K.n2; omega)
  have ht1 := ht.keep hg (fun r e => by cases e; have := K.n2; omega)
  obtain ⟨v2, w11, hap, ho2, hg2⟩ := append1_u8 w' Bs k (.slice a6 k k6) (u8N x) (l.map u8N) ho1 rfl (by omega) (Nat.le_trans hBw hg.size)
  have hne : ∀ q, q ≤ M → (some q ≠ (Value.slice a6 k k6).ownBlock) := fun q hq e => by have := hb q e.symm; omega
  refine ⟨v2, w11, hap, ⟨?_, ?_, h1.bx.grown hg2 (hne M (Nat.le_refl _)), h1.res.grown hg2 (hne N (by have := K.n1; have := K.n2; omega))⟩, ht1.keep hg2 (fun r e => Or.inr (hb r e)), by rw [List.map_append]; exact ho2, Nat.le_trans hBw (Nat.le_trans hg.size hg2.size)⟩
  · exact gb_own h1.gb ho1 (by have := K.n0; have := K.n1; have := K.n2; omega) hg2
  · cases hb' : (Value.slice a6 k k6).ownBlock with
    | none => rw [hb'] at hg2; exact h1.rd.stay hg2
    | some r => rw [hb'] at hg2; exact h1.rd.beside hg2 (by have := hb r hb'; have := K.n2; omega)
set_option maxHeartbeats 2000000 in
set_option maxRecDepth 100000 in
theorem read_any (n cap B : Nat) (a : Option Addr) (l : List Nat) (w : World) (hl : l.length = n) (hn : n ≤ 1000000) (hP : BytesAt w B a cap l) :
    Calls Tryz.prog 198 #[.slice a n cap] w fun e w' => ∃ q : L, e = .returned (q.v (recR (some l))) ∧ w.grownBy w' none ∧ RAt w' w'.heap.size q (recR (some l)) ∧ q.New w.heap.size := by
  obtain ⟨st, hst⟩ : ∃ st, st = some l := ⟨_, rfl⟩
  rw [← hst]
  have hok : OkS st := fun l' e b hb => by rw [hst] at e; cases e; exact getD_mem hP.byte b hb
  have HOK := Lib.hid hok; clear hok
  have hsm : Sm st := fun l' e => by rw [hst] at e; cases e; omega
  obtain ⟨N, hN⟩ : ∃ N, N = w.heap.size := ⟨_, rfl⟩
  obtain ⟨W0, hW0⟩ : ∃ W0, W0 = w.alloc (.cells z7.toArray 66) := ⟨_, rfl⟩
  have hg0 : w.grownBy W0 none := by rw [hW0]; exact gb_alloc (gb_refl _ _) _
  have hb0 : Blk W0 N 66 z7 := by rw [hW0, hN]; exact Blk.new _ _ _
  have HN := Lib.hid (new_any n cap B a l W0 hl hn (hP.stay hg0))
  rw [← hst] at HN
  have HG0 := Lib.hid (And.intro hg0 (And.intro hb0 (Nat.le_of_eq hN.symm))); clear hg0 hb0 hl hn hP
  obtain ⟨Q, hQ⟩ : ∃ Q : Ending → World → Prop, Q = fun e w' => ∃ q : L, e = .returned (q.v (recR st)) ∧ w.grownBy w' none ∧ RAt w' w'.heap.size q (recR st) ∧ q.New w.heap.size := ⟨_, rfl⟩
  rw [← hQ]
  have HQ := Lib.hid hQ; clear hQ
  have HSM := Lib.hid hsm; clear hsm hst
  go_enter Tryz.func198, Tryz.ntmps198
  go_wp2_with fail
  rw [show w.alloc (.cells #[.string ⟨#[]⟩, iV 0, iV 0, .slice none 0 0, .bool false, .slice none 0 0, .slice none 0 0] 66) = W0 from hW0.symm, ← hN]
  clear hW0 hN
  refine HN.out.mono ?_
  rintro e w1 ⟨rb, rfl, hg, hrb, hr⟩
  have HG1 := Lib.hid (And.intro (gb_trans HG0.out.1 hg) (And.intro hr (And.intro (HG0.out.2.1.grown hg (by simp)) (show N < rb from Nat.lt_of_lt_of_le HG0.out.2.1.lt hrb)))); clear hg hr hrb
  go_wp2_with fail
  refine (byte_any rb st w1 HG1.out.2.1).mono ?_
  rintro e w2 ⟨rfl, hg, hr⟩
  have HG2 := Lib.hid (show w.grownBy w2 none ∧ RdS w2 rb (s1 st) ∧ Blk w2 N 66 z7 ∧ N < rb from ⟨gb_then HG1.out.1 hg (Nat.le_trans HG0.out.2.2 (Nat.le_of_lt HG1.out.2.2.2)), hr, HG1.out.2.2.1.grown hg (by have := HG1.out.2.2.2; simp; omega), HG1.out.2.2.2⟩); clear hg hr
  obtain ⟨M, hM⟩ : ∃ M, M = w2.heap.size := ⟨_, rfl⟩
  obtain ⟨W3, hW3⟩ : ∃ W3, W3 = w2.alloc (.cells z7.toArray 273) := ⟨_, rfl⟩
  have hg3 : w2.grownBy W3 none := by rw [hW3]; exact gb_alloc (gb_refl _ _) _
  have hb3 : Blk W3 M 273 z7 := by rw [hW3, hM]; exact Blk.new _ _ _
  have HN' : Hid (Rn w N rb M) := ⟨HG0.out.2.2, HG2.out.2.2.2, by rw [hM]; exact HG2.out.2.1.lt⟩
  have HG3 : Hid (Rs w N rb M 273 z7 (s1 st) W3) := ⟨gb_trans HG2.out.1 hg3, HG2.out.2.1.stay hg3, hb3, HG2.out.2.2.1.grown hg3 (by simp)⟩
  clear hg3 hb3
  go_wp2_with fail
  rw [show w2.alloc (.cells #[.string ⟨#[]⟩, iV 0, iV 0, .slice none 0 0, .bool false, .slice none 0 0, .slice none 0 0] 273) = W3 from hW3.symm, ← hM]
  clear hW3 hM HG1 HG2 HG0
  refine (rbytes_any rb 64 (s1 st) W3 HG3.out.rd (sm_byte HSM.out)).mono ?_
  rintro e w4 ⟨v4, rfl, hg, hr, ho⟩
  obtain ⟨ak, ck, rfl, _, hkb, _⟩ := own_slice ho (bytesS_lt HG3.out.rd 64)
  have hcv := bytes_str rfl hkb
  have HG4 : Hid (Rs w N rb M 273 z7 (s2 st) w4) := HG3.out.call HN'.out hg hr
  have HK : Hid (∀ i, (bytesS 64 (s1 st)).1.getD i 0 < 256) := hkb.byte
  obtain ⟨key, hkey⟩ : ∃ k, k = (bytesS 64 (s1 st)).1 := ⟨_, rfl⟩
  rw [← hkey] at hcv HK ⊢
  have HKE := Lib.hid hkey; clear hkey hg hr ho hkb
  have k0 := HG4.out.bx.cell (i := 0) rfl
  have f0 := HG4.out.bx.free 0
  obtain ⟨kn, hkn⟩ : ∃ x, x = key.length := ⟨_, rfl⟩
  rw [← hkn] at hcv ⊢
  clear hkn
  go_wp2_with fail
  have HG5 : Hid (Rs w N rb M 273 [.string (ofL key), iV 0, iV 0, .slice none 0 0, .bool false, .slice none 0 0, .slice none 0 0] (s2 st) (w4.setCell ⟨M, 0, none⟩ (.string (ofL key)))) := HG4.out.set HN'.out 0 _
  clear HG3 HG4 hcv
  generalize w4.setCell ⟨M, 0, none⟩ (.string (ofL key)) = w5 at *
  refine (readDot_any rb (s2 st) w5 HG5.out.rd).mono ?_
  rintro e w6 ⟨rfl, hg, hr⟩
  obtain ⟨cl, hcl⟩ : ∃ x, x = toI (numS (s2 st)).1 := ⟨_, rfl⟩
  obtain ⟨sq, hsq⟩ : ∃ x, x = toI (numS (s3 st)).1 := ⟨_, rfl⟩
  have HCS := Lib.hid (And.intro hcl hsq)
  rw [← hcl, show toI (numS (numS (s2 st)).2).1 = sq from hsq.symm]
  have HG6 : Hid (Rs w N rb M 273 [.string (ofL key), iV 0, iV 0, .slice none 0 0, .bool false, .slice none 0 0, .slice none 0 0] (s4 st) w6) := HG5.out.call HN'.out hg hr
  clear hg hr hcl hsq HG5
  obtain ⟨X, hX⟩ : ∃ X, X = w6.heap.size := ⟨_, rfl⟩
  obtain ⟨W7, hW7⟩ : ∃ W7, W7 = w6.alloc (.cells #[iV cl, iV sq] 127) := ⟨_, rfl⟩
  have hg7 : w6.grownBy W7 none := by rw [hW7]; exact gb_alloc (gb_refl _ _) _
  have hb7 : Blk W7 X 127 [iV cl, iV sq] := by rw [hW7, hX]; exact Blk.new _ _ _
  have HG7 := Lib.hid (HG6.out.stay hg7)
  have HX := Lib.hid (And.intro hb7 (show M < X by rw [hX]; exact HG6.out.bx.lt))
  clear hg7 hb7 HG6
  go_wp2_with fail
  rw [← hW7, ← hX]
  clear hW7 hX
  have m1 := HX.out.1.cell (i := 0) rfl
  have m2 := HX.out.1.cell (i := 1) rfl
  have k1 := HG7.out.bx.cell (i := 1) rfl
  have k2 := HG7.out.bx.cell (i := 2) rfl
  have f1 := HG7.out.bx.free 1
  have f2 := HG7.out.bx.free 2
  have hXM := HX.out.2
  go_region
  have HG8 : Hid (Rs w N rb M 273 [.string (ofL key), iV cl, iV sq, .slice none 0 0, .bool false, .slice none 0 0, .slice none 0 0] (s4 st) ((W7.setCell ⟨M, 1, none⟩ (.int .i64 cl)).setCell ⟨M, 2, none⟩ (.int .i64 sq)).drew) := ((HG7.out.set HN'.out 1 _).set HN'.out 2 _).stay (gb_drew (gb_refl _ _))
  clear HG7 HX m1 m2 k1 k2 f1 f2 hXM
  generalize ((W7.setCell ⟨M, 1, none⟩ (.int .i64 cl)).setCell ⟨M, 2, none⟩ (.int .i64 sq)).drew = w8 at *
  have HC := Lib.hid (rcount_any rb 8 (s4 st) w8 HG8.out.rd)
  obtain ⟨hc, hc8⟩ := cN_is st
  rw [hc] at HC
  have HRD := Lib.hid (fun k w' (h : RdS w' rb (nS (s5 st) k).2) => readDot_any rb (nS (s5 st) k).2 w' h)
  have HSM7 : Hid (Sm (s7 st)) := sm_s7 HSM.out
  go_wp2_with fail
  refine HC.out.mono ?_
  rintro e w9 ⟨rfl, hg, hr⟩
  have HG9 : Hid (Rs w N rb M 273 [.string (ofL key), iV cl, iV sq, .slice none 0 0, .bool false, .slice none 0 0, .slice none 0 0] (s5 st) w9) := HG8.out.call HN'.out hg hr
  clear hg hr HG8 HC hc
  obtain ⟨m, hm⟩ : ∃ m, m = cN st := ⟨_, rfl⟩
  rw [← hm] at hc8 ⊢
  have HM := Lib.hid hm; clear hm
  go_wp2_with fail
  go_loopw [27] (fun i wr => ∃ (k : Nat), k ≤ m ∧ i = .int .i64 k ∧ Hid (∃ v, Rs w N rb M 273 [.string (ofL key), iV cl, iV sq, v, .bool false, .slice none 0 0, .slice none 0 0] (nS (s5 st) k).2 wr ∧ OwnD' wr (M + 1) v k (nS (s5 st) k).1)) (fun i _ => m - (intOf i).toNat)
  case atStart => exact ⟨0, by omega, rfl, _, HG9.out, World.ownsRow_nil _ _ _ _⟩
  case round =>
    obtain ⟨k, hk, rfl, HI⟩ := hrel
    by_cases hlt : k < m
    · have i0 : (k : Int) < (m : Int) := by omega
      obtain ⟨v, hRs, ho⟩ := HI.out
      obtain ⟨a', c', rfl⟩ := own_shapeD ho
      have k3 := hRs.bx.cell (i := 3) rfl
      have HD : Hid (wr.grownBy wr.drew none) := gb_drew (gb_refl _ _)
      have HI2 := Lib.hid (And.intro (hRs.stay HD.out) (And.intro (ho.kept HD.out (by cases (Value.slice a' k c').ownBlock <;> simp)) (show k ≤ 8 by omega)))
      clear hRs ho HI
      obtain ⟨x, hx⟩ : ∃ x, x = toI (numS (nS (s5 st) k).2).1 := ⟨_, rfl⟩
      obtain ⟨y, hy⟩ : ∃ y, y = toI (numS (numS (nS (s5 st) k).2).2).1 := ⟨_, rfl⟩
      have HR1 := Lib.hid (HRD.out k)
      rw [← hx, ← hy] at HR1
      have HXY := Lib.hid (And.intro hx hy); clear hx hy
      go_wp2_with fail
      go_region_law (first
        | (refine Fg.step_call rfl (f := 224) (args := #[.pointer (some ⟨rb, 0, none⟩)]) (Fg.run_call rfl rfl (by simp only [List.map_toArray, List.map_cons, List.map_nil, Act.eval]; rfl) (Fg.run_enter Tryz.func224 (by kernel_rfl) (by kernel_rfl))) ?_
           refine (HR1.out _ HI2.out.1.rd).mono ?_
           rintro e w10 ⟨rfl, hg10, hr10⟩
           obtain ⟨v2, w11, hap, hR11, ho11⟩ := HI2.out.1.readd (x := x) (y := y) HN'.out HI2.out.2.1 HI2.out.2.2 hg10 hr10
           obtain ⟨a2, c2, rfl⟩ := own_shapeD ho11
           have k3' := (HI2.out.1.call HN'.out hg10 hr10).bx.cell (i := 3) rfl
           have k3'' : (w10.alloc (.cells #[iV x, iV y] 127)).cell? ⟨M, 3, none⟩ = some (.slice a' k c') := ((HI2.out.1.call HN'.out hg10 hr10).bx.alloc _).cell (i := 3) rfl
           have q3 := hR11.bx.cell (i := 3) rfl
           have r3 := hR11.bx.free 3
           have HE := Lib.hid (And.intro hR11 ho11)
           have HAP := Lib.hid hap
           clear hg10 hr10 hR11 ho11 k3 hap
           refine ⟨_, rfl, ?_⟩)
        | (refine Fg.step_append rfl (.tmp 31) (.tmp 34) 64 rfl rfl _ _ rfl rfl _ _ HAP.out ?_))
      all_goals
        have HZ : Hid (Rs w N rb M 273 [.string (ofL key), iV cl, iV sq, .slice a2 (k + 1) c2, .bool false, .slice none 0 0, .slice none 0 0] (nS (s5 st) (k + 1)).2 (w11.setCell ⟨M, 3, none⟩ (.slice a2 (k + 1) c2)) ∧ OwnD' (w11.setCell ⟨M, 3, none⟩ (.slice a2 (k + 1) c2)) (M + 1) (.slice a2 (k + 1) c2) (k + 1) (nS (s5 st) (k + 1)).1) :=
          ⟨HE.out.1.set HN'.out 3 _, by rw [nS_succ, ← HXY.out.1, ← HXY.out.2]; exact HE.out.2.kept (gb_set (gb_refl w11 (some M)) 3 _) (Or.inr fun e => by have := (HE.out.2.lt _ e).1; omega)⟩
        clear k3' k3'' q3 r3
        go_wp2
        go_roundw
        case rel => exact ⟨k + 1, by omega, by go_num, _, HZ.out⟩
        case measure => simp [intOf]; omega
    · obtain rfl : k = m := by omega
      obtain ⟨v, hRs, ho⟩ := HI.out
      obtain ⟨a1, c1, rfl⟩ := own_shapeD ho
      rw [HM.out] at hRs ho
      have HC1 : Hid (Rs w N rb M 273 [.string (ofL key), iV cl, iV sq, .slice a1 (cN st) c1, .bool false, .slice none 0 0, .slice none 0 0] (s6 st) wr ∧ OwnD' wr (M + 1) (.slice a1 (cN st) c1) (cN st) (recR st).cx) := ⟨hRs, ho⟩
      clear hRs ho HI
      have HBY := Lib.hid (byte_any rb (s6 st) wr HC1.out.1.rd)
      obtain ⟨gv, hgv⟩ : ∃ x, x = goneR st := ⟨_, rfl⟩
      obtain ⟨gy, hgy⟩ : ∃ g, ((gv : Int) == 1) = g := ⟨_, rfl⟩
      have HG : Hid (gy = decide (goneR st = 1)) := by
        show _ = _
        rw [← hgy, ← hgv, Bool.eq_iff_iff]
        simp only [beq_iff_eq, decide_eq_true_eq]
        omega
      rw [show (byteS (s6 st)).1 = gv from hgv.symm] at HBY
      clear hgv
      go_wp2_with fail
      refine HBY.out.mono ?_
      rintro e w12 ⟨rfl, hg, hr⟩
      have HG12 : Hid (Rs w N rb M 273 [.string (ofL key), iV cl, iV sq, .slice a1 (cN st) c1, .bool false, .slice none 0 0, .slice none 0 0] (s7 st) w12 ∧ OwnD' w12 (M + 1) (.slice a1 (cN st) c1) (cN st) (recR st).cx) :=
        ⟨HC1.out.1.call HN'.out hg hr, HC1.out.2.kept hg (Or.inr fun e => by have := (HC1.out.2.lt _ e).1; have := HN'.out.n2; omega)⟩
      have k4 := HG12.out.1.bx.cell (i := 4) rfl
      have f4 := HG12.out.1.bx.free 4
      clear hg hr HC1 HBY
      go_wp2_with fail
      have HG13 : Hid (Rs w N rb M 273 [.string (ofL key), iV cl, iV sq, .slice a1 (cN st) c1, .bool gy, .slice none 0 0, .slice none 0 0] (s7 st) (w12.setCell ⟨M, 4, none⟩ (.bool gy)) ∧ OwnD' (w12.setCell ⟨M, 4, none⟩ (.bool gy)) (M + 1) (.slice a1 (cN st) c1) (cN st) (recR st).cx) :=
        ⟨HG12.out.1.set HN'.out 4 _, HG12.out.2.kept (gb_set (gb_refl w12 (some M)) 4 _) (Or.inr fun e => by have := (HG12.out.2.lt _ e).1; omega)⟩
      clear HG12 k4 f4
      generalize w12.setCell ⟨M, 4, none⟩ (.bool gy) = w13 at *
      refine (rbytes_any rb 1024 (s7 st) w13 HG13.out.1.rd HSM7.out).mono ?_
      rintro e w14 ⟨v14, rfl, hg, hr, ho⟩
      have hby := bytesS_lt HG13.out.1.rd 1024
      obtain ⟨a2, c2, rfl, _, hvb, _⟩ := own_slice ho hby
      obtain ⟨n2, hn2⟩ : ∃ x, x = (bytesS 1024 (s7 st)).1.length := ⟨_, rfl⟩
      rw [← hn2] at ho ⊢
      have HN2 := Lib.hid (And.intro hn2 hby); clear hn2 hby
      have hM13 := HG13.out.1.bx.lt
      have HG14 : Hid (Rs w N rb M 273 [.string (ofL key), iV cl, iV sq, .slice a1 (cN st) c1, .bool gy, .slice none 0 0, .slice none 0 0] (s8 st) w14 ∧ Two w14 M w14.heap.size (.slice a1 (cN st) c1) (.slice a2 n2 c2) (cN st) n2 (recR st).cx (recR st).val) :=
        ⟨HG13.out.1.call HN'.out hg hr, HG13.out.2.kept hg (Or.inr fun e => by have := (HG13.out.2.lt _ e).1; have := HN'.out.n2; omega), own_down ho (by omega), fun r e => Nat.lt_of_lt_of_le (HG13.out.2.lt r e).2 hg.size, fun r e => (ho.lt r e).2⟩
      have k5 := HG14.out.1.bx.cell (i := 5) rfl
      have f5 := HG14.out.1.bx.free 5
      clear hg hr HG13 ho hvb hM13
      obtain ⟨Bs, hBs⟩ : ∃ Bs, Bs = w14.heap.size := ⟨_, rfl⟩
      rw [← hBs] at HG14
      have hg15 := gb_set (gb_refl w14 (some M)) 5 (.slice a2 n2 c2)
      have HG15 : Hid (Rs w N rb M 273 [.string (ofL key), iV cl, iV sq, .slice a1 (cN st) c1, .bool gy, .slice a2 n2 c2, .slice none 0 0] (s8 st) (w14.setCell ⟨M, 5, none⟩ (.slice a2 n2 c2)) ∧ Two (w14.setCell ⟨M, 5, none⟩ (.slice a2 n2 c2)) M Bs (.slice a1 (cN st) c1) (.slice a2 n2 c2) (cN st) n2 (recR st).cx (recR st).val ∧ Bs ≤ (w14.setCell ⟨M, 5, none⟩ (.slice a2 n2 c2)).heap.size) :=
        ⟨HG14.out.1.set HN'.out 5 _, HG14.out.2.keep hg15 (fun r e => by cases e; exact Or.inl (Nat.le_refl _)), by rw [hBs]; exact hg15.size⟩
      have HMB : Hid (M < Bs) := by show M < Bs; rw [hBs]; exact HG14.out.1.bx.lt
      have HRB := Lib.hid (fun k w' (h : RdS w' rb (sS (s8 st) k).2) => byte_any rb (sS (s8 st) k).2 w' h)
      clear HG14 hBs hg15
      go_wp2_with fail
      generalize hw15 : w14.setCell ⟨M, 5, none⟩ (.slice a2 n2 c2) = w15 at *
      clear hw15 k5 f5
      go_loopw [48] (fun i wr => ∃ (q : Nat), q ≤ 64 ∧ i = .int .i64 q ∧ Hid (∃ a6 k6, Rs w N rb M 273 [.string (ofL key), iV cl, iV sq, .slice a1 (cN st) c1, .bool gy, .slice a2 n2 c2, .slice a6 q k6] (sS (s8 st) q).2 wr ∧ Two wr M Bs (.slice a1 (cN st) c1) (.slice a2 n2 c2) (cN st) n2 (recR st).cx (recR st).val ∧ Bs ≤ wr.heap.size ∧ wr.ownsRow Bs 5 1 (.slice a6 q k6) q ((sS (s8 st) q).1.map u8N))) (fun i _ => 64 - (intOf i).toNat)
      case atStart => exact ⟨0, by omega, rfl, none, 0, HG15.out.1, HG15.out.2.1, HG15.out.2.2, World.ownsRow_nil _ _ _ _⟩
      case round =>
        obtain ⟨q, hq, rfl, HI⟩ := hrel
        by_cases hlt : q < 64
        · have i0 : (q : Int) < 64 := by omega
          obtain ⟨a6, k6, hRs, ht, hBw, ho⟩ := HI.out
          have q6 := hRs.bx.cell (i := 6) rfl
          have HD : Hid (wr.grownBy wr.drew none) := gb_drew (gb_refl _ _)
          have HI2 := Lib.hid (And.intro (hRs.stay HD.out) (And.intro (ht.keep HD.out (fun r e => by cases e)) (And.intro (Nat.le_trans hBw HD.out.size) (And.intro (ho.kept HD.out (by cases (Value.slice a6 q k6).ownBlock <;> simp)) (show q ≤ 64 by omega)))))
          clear hRs ht hBw ho HI
          obtain ⟨x, hx⟩ : ∃ x, x = (byteS (sS (s8 st) q).2).1 := ⟨_, rfl⟩
          have HR1 := Lib.hid (HRB.out q)
          rw [← hx] at HR1
          have HX := Lib.hid hx; clear hx
          go_wp2_with fail
          go_region_law (first
            | (refine Fg.step_call rfl (f := 53) (args := #[.pointer (some ⟨rb, 0, none⟩)]) (Fg.run_call rfl rfl (by simp only [List.map_toArray, List.map_cons, List.map_nil, Act.eval]; rfl) (Fg.run_enter Tryz.func53 (by kernel_rfl) (by kernel_rfl))) ?_
               refine (HR1.out _ HI2.out.1.rd).mono ?_
               rintro e w16 ⟨rfl, hg16, hr16⟩
               obtain ⟨v2, w17, hap, hR17, ht17, ho17, hz17⟩ := HI2.out.1.reads (x := x) HN'.out HMB.out HI2.out.2.2.1 HI2.out.2.1 HI2.out.2.2.2.1 HI2.out.2.2.2.2 hg16 hr16
               obtain ⟨a7, k7, rfl⟩ : ∃ a7 k7, v2 = .slice a7 (q + 1) k7 := by
                 rcases ho17.2 with ⟨_, h0⟩ | ⟨g, c, _, e, _⟩
                 · omega
                 · exact ⟨_, _, e⟩
               have q6' := (HI2.out.1.call HN'.out hg16 hr16).bx.cell (i := 6) rfl
               have q6'' : (w16.alloc (.cells #[.int .u8 (x : Nat)] 5)).cell? ⟨M, 6, none⟩ = some (.slice a6 q k6) := ((HI2.out.1.call HN'.out hg16 hr16).bx.alloc _).cell (i := 6) rfl
               have r6 := hR17.bx.cell (i := 6) rfl
               have g6 := hR17.bx.free 6
               have HE := Lib.hid (And.intro hR17 (And.intro ht17 (And.intro ho17 hz17)))
               have HAP : Hid ((Builtin.append_ #[23, 23] 23 #[.slice a6 q k6, .slice (some ⟨w16.heap.size, 0, none⟩) 1 1]).run Tryz.prog (w16.alloc (.cells #[.int .u8 (x : Nat)] 5)) = .ok (.slice a7 (q + 1) k7) w17) := hap
               clear hg16 hr16 hR17 ht17 ho17 hz17 q6 hap
               refine ⟨_, rfl, ?_⟩)
            | (refine Fg.step_append rfl (.tmp 52) (.tmp 55) 23 rfl rfl _ _ rfl rfl _ _ HAP.out ?_))
          all_goals
            have hgS := gb_set (gb_refl w17 (some M)) 6 (.slice a7 (q + 1) k7)
            have HZ : Hid (∃ a6 k6, Rs w N rb M 273 [.string (ofL key), iV cl, iV sq, .slice a1 (cN st) c1, .bool gy, .slice a2 n2 c2, .slice a6 (q + 1) k6] (sS (s8 st) (q + 1)).2 (w17.setCell ⟨M, 6, none⟩ (.slice a7 (q + 1) k7)) ∧ Two (w17.setCell ⟨M, 6, none⟩ (.slice a7 (q + 1) k7)) M Bs (.slice a1 (cN st) c1) (.slice a2 n2 c2) (cN st) n2 (recR st).cx (recR st).val ∧ Bs ≤ (w17.setCell ⟨M, 6, none⟩ (.slice a7 (q + 1) k7)).heap.size ∧ (w17.setCell ⟨M, 6, none⟩ (.slice a7 (q + 1) k7)).ownsRow Bs 5 1 (.slice a6 (q + 1) k6) (q + 1) ((sS (s8 st) (q + 1)).1.map u8N)) :=
              ⟨a7, k7, HE.out.1.set HN'.out 6 _, HE.out.2.1.keep hgS (fun r e => by cases e; exact Or.inl (Nat.le_refl _)), Nat.le_trans HE.out.2.2.2 hgS.size, by rw [sS_succ, ← HX.out]; exact HE.out.2.2.1.kept hgS (Or.inr fun e => by have := (HE.out.2.2.1.lt _ e).1; have := HMB.out; omega)⟩
            clear q6' q6'' r6 g6 hgS
            go_wp2
            go_roundw
            case rel => exact ⟨q + 1, by omega, by go_num, HZ.out⟩
            case measure => simp [intOf]; omega
        · obtain rfl : q = 64 := by omega
          obtain ⟨a6, k6, hRs, ht, hBw, ho⟩ := HI.out
          have z0 := hRs.bx.cell (i := 0) rfl
          have z1 := hRs.bx.cell (i := 1) rfl
          have z2 := hRs.bx.cell (i := 2) rfl
          have z3 := hRs.bx.cell (i := 3) rfl
          have z4 := hRs.bx.cell (i := 4) rfl
          have z5 := hRs.bx.cell (i := 5) rfl
          have z6 := hRs.bx.cell (i := 6) rfl
          have y0 := hRs.res.cell (i := 0) rfl
          have y1 := hRs.res.cell (i := 1) rfl
          have y2 := hRs.res.cell (i := 2) rfl
          have y3 := hRs.res.cell (i := 3) rfl
          have y4 := hRs.res.cell (i := 4) rfl
          have y5 := hRs.res.cell (i := 5) rfl
          have y6 := hRs.res.cell (i := 6) rfl
          have g0 := hRs.res.free 0
          have g1 := hRs.res.free 1
          have g2 := hRs.res.free 2
          have g3 := hRs.res.free 3
          have g4 := hRs.res.free 4
          have g5 := hRs.res.free 5
          have g6 := hRs.res.free 6
          have HE := Lib.hid (And.intro hRs (And.intro ht ho))
          clear hRs ht hBw ho HI
          go_wp2
          obtain ⟨hR, ht, ho⟩ := HE.out
          have hR7 := ((((((hR.res.set 0 (.string (ofL key))).set 1 (.int .i64 cl)).set 2 (.int .i64 sq)).set 3 (.slice a1 (cN st) c1)).set 4 (.bool gy)).set 5 (.slice a2 n2 c2)).set 6 (.slice a6 64 k6)
          have hgN := gb_set (gb_set (gb_set (gb_set (gb_set (gb_set (gb_set (gb_refl wr (some N)) 0 (.string (ofL key))) 1 (.int .i64 cl)) 2 (.int .i64 sq)) 3 (.slice a1 (cN st) c1)) 4 (.bool gy)) 5 (.slice a2 n2 c2)) 6 (.slice a6 64 k6)
          have hNM : N < M := Nat.lt_trans HN'.out.n1 HN'.out.n2
          refine bodyPost_ret (v := .agg #[.string (ofL key), .int .i64 cl, .int .i64 sq, .slice a1 (cN st) c1, .bool gy, .slice a2 n2 c2, .slice a6 64 k6]) (results_cell_row Tryz.results198 _ _ N 66 _ (0, 0) _ rfl hR7 Tryz.underlying66 rfl info_recS) rfl ?_
          have ht2 := ht.keep hgN (fun r e => by cases e; left; omega)
          have ho2 := ho.kept hgN (Or.inr fun e => by have := (ho.lt _ e).1; have := HMB.out; omega)
          obtain ⟨a', c', e3, hl1, _, hd⟩ := own_dots ht2.cx
          simp only [Value.slice.injEq, true_and] at e3
          obtain ⟨rfl, rfl⟩ := e3
          obtain ⟨a', c', e5, _, hv, _⟩ := own_slice ht2.val HN2.out.2
          simp only [Value.slice.injEq] at e5
          obtain ⟨rfl, _, rfl⟩ := e5
          obtain ⟨a', c', e6, _, hs, _⟩ := own_slice ho2 (getD_lt (sS_lt (okS_s8 HOK.out) 64))
          simp only [Value.slice.injEq] at e6
          obtain ⟨rfl, _, rfl⟩ := e6
          rw [HQ.out]
          refine ⟨⟨ofL key, a1, cN st, c1, a2, n2, c2, a6, 64, k6⟩, ?_, gb_then hR.gb hgN HN'.out.n0, ⟨?_, hl1, HN2.out.1.symm, sS_len _ _, hd, hv, hs, ?_⟩, ?_⟩
          · rw [HCS.out.1, HCS.out.2, HG.out]; rfl
          · show strL (ofL key) = (recR st).key
            rw [strL_ofL HK.out, HKE.out]; rfl
          · show cN st < 9223372036854775808
            have := (cN_is st).2
            omega
          · have n0 := HN'.out.n0
            refine ⟨fun g o e => ?_, fun g o e => ?_, fun g o e => ?_⟩
            · have := (ht.cx.lt g (by subst e; rfl)).1; omega
            · have := (ht.val.lt g (by subst e; rfl)).1; omega
            · have := (ho.lt g (by subst e; rfl)).1; have := HMB.out; omega
end Rc
end Go.Proofs.YtlkiancedgaicaaGreat

/- bytes.Equal of any slices of bytes (the shelf's contract). -/
namespace Go.Proofs.YtlkiancedgaicaaGreat
open Go.RowKit Go.Shelf Ow

def laysEq_ren : Go.Shelf.Ren := ⟨fun | 115 => 199 | n => n, fun | 37 => 23 | 4 => 4 | 9 => 9 | 5 => 5 | n => n, fun | n => n⟩
theorem laysEq : Go.Proofs.Lays.nb115 Tryz.prog laysEq_ren := {
  mixed := by kernel_rfl
  f115 := Tryz.func199.trans (congrArg some (by kernel_rfl))
  t4 := Tryz.underlying4
  a4 := Tryz.isAgg4
  z4 := Tryz.sizeOf4
  v4 := Tryz.zeroValue4
  t9 := Tryz.underlying9
  a9 := Tryz.isAgg9
  z9 := Tryz.sizeOf9
  v9 := Tryz.zeroValue9
  t37 := Tryz.underlying23
  a37 := Tryz.isAgg23
  z37 := Tryz.sizeOf23
  v37 := Tryz.zeroValue23
  t5 := Tryz.underlying5
  a5 := Tryz.isAgg5
  z5 := Tryz.sizeOf5
  v5 := Tryz.zeroValue5 }
theorem bytesIn_of {w : World} {B n cap : Nat} {a : Option Addr} {l : List Nat} (hn : l.length = n) (h : BytesAt w B a cap l) : Lib.BytesIn w a n (l.map Int.ofNat) := by
  subst hn
  rcases h.cells with h0 | ⟨pb, po, rfl, _, hc⟩
  · intro hp; omega
  · exact Lib.BytesIn.of_cells fun i hi => by
      have hadd : (⟨pb, po, none⟩ : Addr).add i = ⟨pb, po + i, none⟩ := by unfold Addr.add; split <;> simp_all
      rw [hadd, hc i hi]
      simp only [u8N, List.getD_eq_getElem?_getD, List.getElem?_map, List.getElem?_eq_getElem hi, Option.map_some, Option.getD_some]
      rfl
theorem bytesOf_inj {p q : List Nat} (hp : ∀ i, p.getD i 0 < 256) (hq : ∀ i, q.getD i 0 < 256) : (Lib.bytesOf (p.map Int.ofNat) == Lib.bytesOf (q.map Int.ofNat)) = decide (p = q) := by
  rw [Bool.eq_iff_iff, beq_iff_eq, decide_eq_true_iff]
  constructor
  · intro h
    have hl : p.length = q.length := by have := congrArg List.length h; simpa [Lib.bytesOf] using this
    apply List.ext_getElem hl
    intro i h1 h2
    have e : (Lib.bytesOf (p.map Int.ofNat))[i]? = (Lib.bytesOf (q.map Int.ofNat))[i]? := by rw [h]
    simp only [Lib.bytesOf, List.getElem?_map, List.getElem?_eq_getElem h1, List.getElem?_eq_getElem h2, Option.map_some, Option.some.injEq] at e
    have e2 := congrArg UInt8.toNat e
    have a1 := hp i
    have a2 := hq i
    rw [List.getD_eq_getElem?_getD, List.getElem?_eq_getElem h1] at a1
    rw [List.getD_eq_getElem?_getD, List.getElem?_eq_getElem h2] at a2
    simp only [Option.getD_some] at a1 a2
    rw [UInt8.toNat_ofNat', UInt8.toNat_ofNat'] at e2
    simp only [Int.ofNat_eq_natCast, Int.toNat_natCast] at e2
    omega
  · rintro rfl; rfl
theorem bytesEq_any (B1 B2 n m c d : Nat) (a1 a2 : Option Addr) (p q : List Nat) (w : World) (hn : p.length = n) (hm : q.length = m) (h1 : BytesAt w B1 a1 c p) (h2 : BytesAt w B2 a2 d q) :
    Calls Tryz.prog 199 #[.slice a1 n c, .slice a2 m d] w fun e w' => e = .returned (.bool (decide (p = q))) ∧ w' = w := by
  refine (Any.bytes_Equal_all laysEq a1 a2 n c m d (p.map Int.ofNat) (q.map Int.ofNat) w (by simpa using hn) (by simpa using hm) (bytesIn_of hn h1) (bytesIn_of hm h2)).mono ?_
  rintro e w' ⟨rfl, rfl⟩
  exact ⟨by rw [bytesOf_inj h1.byte h2.byte], rfl⟩
end Go.Proofs.YtlkiancedgaicaaGreat

/- record.Get: the right record whose bytes these are. -/
namespace Go.Proofs.YtlkiancedgaicaaGreat
open Go.RowKit Ow Wi Ve
namespace Rc
/-- what Get tells -/
def GOut (w : World) (b : Bool) (r : R) (e : Ending) (w' : World) : Prop :=
  w.grownBy w' none ∧ if b then ∃ q : L, e = .returned (.tuple #[q.v r, .int .i64 0]) ∧ RAt w' w'.heap.size q r ∧ q.New w.heap.size else e = .returned (.tuple #[.agg z7.toArray, .int .i64 4])
set_option maxHeartbeats 2000000 in
set_option maxRecDepth 100000 in
theorem rget_any (n cap B : Nat) (a : Option Addr) (l : List Nat) (w : World) (hl : l.length = n) (hn : n ≤ 1000000) (hP : BytesAt w B a cap l) :
    Calls Tryz.prog 145 #[.slice a n cap] w (GOut w (getB l) (recR (some l))) := by
  have HR := Lib.hid (fun w' (hg : w.grownBy w' none) => read_any n cap B a l w' hl hn (hP.stay hg))
  obtain ⟨r, hr⟩ : ∃ r, r = recR (some l) := ⟨_, rfl⟩
  rw [← hr] at HR ⊢
  have hgb : getB l = (rightB r && decide (putL r = l)) := by rw [hr]; rfl
  obtain ⟨Q, hQ⟩ : ∃ Q, Q = GOut w (getB l) r := ⟨_, rfl⟩
  rw [← hQ]
  rw [hgb] at hQ
  have HQ := Lib.hid hQ; clear hQ hgb hr
  have HPB := Lib.hid (And.intro hl hP); clear hl hP hn
  obtain ⟨N, hN⟩ : ∃ N, N = w.heap.size := ⟨_, rfl⟩
  obtain ⟨W0, hW0⟩ : ∃ W0, W0 = w.alloc (.cells z7.toArray 66) := ⟨_, rfl⟩
  have hg0 : w.grownBy W0 none := by rw [hW0]; exact gb_alloc (gb_refl _ _) _
  have hb0 : Blk W0 N 66 z7 := by rw [hW0, hN]; exact Blk.new _ _ _
  have HG0 := Lib.hid (And.intro hg0 (And.intro hb0 (Nat.le_of_eq hN.symm))); clear hg0 hb0
  go_enter Tryz.func145, Tryz.ntmps145
  go_wp2_with fail
  rw [show w.alloc (.cells #[.string ⟨#[]⟩, iV 0, iV 0, .slice none 0 0, .bool false, .slice none 0 0, .slice none 0 0] 66) = W0 from hW0.symm, ← hN]
  clear hW0 hN
  refine (HR.out W0 HG0.out.1).mono ?_
  rintro e w1 ⟨q, rfl, hg1, hq, hnew⟩
  have HP := Lib.hid (fun w' (hg : w1.grownBy w' none) => rput_any r w1.heap.size w' q (hq.stay hg))
  have HA := Lib.hid (And.intro hq (And.intro hnew HG0.out.2.1.lt)); clear hnew
  obtain ⟨s, a1, n1, c1, a2, n2, c2, a3, n3, c3⟩ := q
  have HV : Hid ((L.mk s a1 n1 c1 a2 n2 c2 a3 n3 c3).v r = .agg #[.string s, iV r.cl, iV r.sq, .slice a1 n1 c1, .bool r.gone, .slice a2 n2 c2, .slice a3 n3 c3]) := rfl
  rw [HV.out] at HP ⊢
  generalize r.cl = cl at *
  generalize r.sq = sq at *
  generalize r.gone = g at *
  obtain ⟨M, hM⟩ : ∃ M, M = w1.heap.size := ⟨_, rfl⟩
  obtain ⟨W2, hW2⟩ : ∃ W2, W2 = w1.alloc (.cells #[.string s, iV cl, iV sq, .slice a1 n1 c1, .bool g, .slice a2 n2 c2, .slice a3 n3 c3] 66) := ⟨_, rfl⟩
  have hg2 : w1.grownBy W2 none := by rw [hW2]; exact gb_alloc (gb_refl _ _) _
  have hb2 : Blk W2 M 66 [.string s, iV cl, iV sq, .slice a1 n1 c1, .bool g, .slice a2 n2 c2, .slice a3 n3 c3] := by rw [hW2, hM]; exact Blk.new _ _ _
  have HG2 := Lib.hid (And.intro hg2 (And.intro hb2 (And.intro ((HG0.out.2.1.grown hg1 (by simp)).grown hg2 (by simp)) (gb_trans HG0.out.1 (gb_trans hg1 hg2))))); clear hg1 hg2 hb2 hq
  go_wp2_with fail
  rw [← hW2, ← hM]
  clear hW2 hM
  refine (HP.out W2 HG2.out.1).mono ?_
  rintro e w3 ⟨ao, co, rfl, hg3, hB3⟩
  have HG3 := Lib.hid (And.intro hg3 (And.intro (HG2.out.2.1.grown hg3 (by simp)) (And.intro (HG2.out.2.2.1.grown hg3 (by simp)) (And.intro (gb_trans HG2.out.2.2.2 hg3) (gb_trans HG2.out.1 hg3))))); clear hg3
  have HE := Lib.hid (bytesEq_any _ B (putO r).length n co cap ao a (putO r) l w3 rfl HPB.out.1 hB3 (HPB.out.2.stay HG3.out.2.2.2.1)); clear hB3 HP HG2
  have HO : Hid (rightB r = true → putO r = putL r) := fun h => by unfold putO; rw [h]; rfl
  generalize (putO r).length = no at *
  cases hb : rightB r with
  | false =>
    have HF := Lib.hid hb; clear hb
    clear HE HO
    have y0 := HG3.out.2.2.1.cell (i := 0) rfl
    have g0 := HG3.out.2.2.1.free 0
    have y1 := HG3.out.2.2.1.cell (i := 1) rfl
    have g1 := HG3.out.2.2.1.free 1
    have y2 := HG3.out.2.2.1.cell (i := 2) rfl
    have g2 := HG3.out.2.2.1.free 2
    have y3 := HG3.out.2.2.1.cell (i := 3) rfl
    have g3 := HG3.out.2.2.1.free 3
    have y4 := HG3.out.2.2.1.cell (i := 4) rfl
    have g4 := HG3.out.2.2.1.free 4
    have y5 := HG3.out.2.2.1.cell (i := 5) rfl
    have g5 := HG3.out.2.2.1.free 5
    have y6 := HG3.out.2.2.1.cell (i := 6) rfl
    have g6 := HG3.out.2.2.1.free 6
    rw [show errN false 4 = 4 from rfl]
    go_wp2
    have hR7 := ((((((HG3.out.2.2.1.set 0 (.string ⟨#[]⟩)).set 1 (iV 0)).set 2 (iV 0)).set 3 (.slice none 0 0)).set 4 (.bool false)).set 5 (.slice none 0 0)).set 6 (.slice none 0 0)
    refine bodyPost_ret (v := .tuple #[.agg z7.toArray, .int .i64 4]) (Fg.res_row_tmp Tryz.results145 _ _ N 66 z7.toArray (0, 0) _ rfl hR7 Tryz.underlying66 rfl info_recS rfl) rfl ?_
    rw [HQ.out, HF.out]
    exact ⟨gb_then HG3.out.2.2.2.1 (gb_set (gb_set (gb_set (gb_set (gb_set (gb_set (gb_set (gb_refl w3 (some N)) 0 _) 1 _) 2 _) 3 _) 4 _) 5 _) 6 _) HG0.out.2.2, rfl⟩
  | true =>
    have HF := Lib.hid hb; clear hb
    rw [HO.out HF.out] at HE
    clear HO
    rw [show errN true 4 = 0 from rfl]
    cases hd : decide (putL r = l) with
    | false =>
      rw [hd] at HE
      have HD := Lib.hid hd; clear hd
      have y0 := HG3.out.2.2.1.cell (i := 0) rfl
      have g0 := HG3.out.2.2.1.free 0
      have y1 := HG3.out.2.2.1.cell (i := 1) rfl
      have g1 := HG3.out.2.2.1.free 1
      have y2 := HG3.out.2.2.1.cell (i := 2) rfl
      have g2 := HG3.out.2.2.1.free 2
      have y3 := HG3.out.2.2.1.cell (i := 3) rfl
      have g3 := HG3.out.2.2.1.free 3
      have y4 := HG3.out.2.2.1.cell (i := 4) rfl
      have g4 := HG3.out.2.2.1.free 4
      have y5 := HG3.out.2.2.1.cell (i := 5) rfl
      have g5 := HG3.out.2.2.1.free 5
      have y6 := HG3.out.2.2.1.cell (i := 6) rfl
      have g6 := HG3.out.2.2.1.free 6
      go_wp2_with fail
      refine HE.out.mono ?_
      rintro e w4 ⟨rfl, rfl⟩
      go_wp2
      have hR7 := ((((((HG3.out.2.2.1.set 0 (.string ⟨#[]⟩)).set 1 (iV 0)).set 2 (iV 0)).set 3 (.slice none 0 0)).set 4 (.bool false)).set 5 (.slice none 0 0)).set 6 (.slice none 0 0)
      refine bodyPost_ret (v := .tuple #[.agg z7.toArray, .int .i64 4]) (Fg.res_row_tmp Tryz.results145 _ _ N 66 z7.toArray (0, 0) _ rfl hR7 Tryz.underlying66 rfl info_recS rfl) rfl ?_
      rw [HQ.out, HF.out, HD.out]
      exact ⟨gb_then HG3.out.2.2.2.1 (gb_set (gb_set (gb_set (gb_set (gb_set (gb_set (gb_set (gb_refl w4 (some N)) 0 _) 1 _) 2 _) 3 _) 4 _) 5 _) 6 _) HG0.out.2.2, rfl⟩
    | true =>
      rw [hd] at HE
      have HD := Lib.hid hd; clear hd
      have y0 := HG3.out.2.2.1.cell (i := 0) rfl
      have g0 := HG3.out.2.2.1.free 0
      have y1 := HG3.out.2.2.1.cell (i := 1) rfl
      have g1 := HG3.out.2.2.1.free 1
      have y2 := HG3.out.2.2.1.cell (i := 2) rfl
      have g2 := HG3.out.2.2.1.free 2
      have y3 := HG3.out.2.2.1.cell (i := 3) rfl
      have g3 := HG3.out.2.2.1.free 3
      have y4 := HG3.out.2.2.1.cell (i := 4) rfl
      have g4 := HG3.out.2.2.1.free 4
      have y5 := HG3.out.2.2.1.cell (i := 5) rfl
      have g5 := HG3.out.2.2.1.free 5
      have y6 := HG3.out.2.2.1.cell (i := 6) rfl
      have g6 := HG3.out.2.2.1.free 6
      have z0 := HG3.out.2.1.cell (i := 0) rfl
      have z1 := HG3.out.2.1.cell (i := 1) rfl
      have z2 := HG3.out.2.1.cell (i := 2) rfl
      have z3 := HG3.out.2.1.cell (i := 3) rfl
      have z4 := HG3.out.2.1.cell (i := 4) rfl
      have z5 := HG3.out.2.1.cell (i := 5) rfl
      have z6 := HG3.out.2.1.cell (i := 6) rfl
      go_wp2_with fail
      refine HE.out.mono ?_
      rintro e w4 ⟨rfl, rfl⟩
      go_wp2
      have hR7 := ((((((HG3.out.2.2.1.set 0 (.string s)).set 1 (iV cl)).set 2 (iV sq)).set 3 (.slice a1 n1 c1)).set 4 (.bool g)).set 5 (.slice a2 n2 c2)).set 6 (.slice a3 n3 c3)
      refine bodyPost_ret (v := .tuple #[.agg #[.string s, iV cl, iV sq, .slice a1 n1 c1, .bool g, .slice a2 n2 c2, .slice a3 n3 c3], .int .i64 0]) (Fg.res_row_tmp Tryz.results145 _ _ N 66 _ (0, 0) _ rfl hR7 Tryz.underlying66 rfl info_recS rfl) rfl ?_
      rw [HQ.out, HF.out, HD.out]
      have hgN := gb_set (gb_set (gb_set (gb_set (gb_set (gb_set (gb_set (gb_refl w4 (some N)) 0 (.string s)) 1 (iV cl)) 2 (iV sq)) 3 (.slice a1 n1 c1)) 4 (.bool g)) 5 (.slice a2 n2 c2)) 6 (.slice a3 n3 c3)
      refine ⟨gb_then HG3.out.2.2.2.1 hgN HG0.out.2.2, _, congrArg (fun v => Ending.returned (Value.tuple #[v, .int .i64 0])) HV.out.symm, ?_⟩
      refine ⟨((HA.out.1.stay HG3.out.2.2.2.2).apart hgN HA.out.2.1 HA.out.2.2).full, ?_⟩
      have hz := HG0.out.1.size
      exact ⟨fun g o e => Nat.le_trans hz (HA.out.2.1.1 g o e), fun g o e => Nat.le_trans hz (HA.out.2.1.2.1 g o e), fun g o e => Nat.le_trans hz (HA.out.2.1.2.2 g o e)⟩
end Rc
end Go.Proofs.YtlkiancedgaicaaGreat

/- A reader's Done. -/
namespace Go.Proofs.YtlkiancedgaicaaGreat
open Go.RowKit Ow Wi

theorem done_any (rb : Nat) (st : St) (w : World) (h : RdS w rb st) :
    Calls Tryz.prog 28 #[.pointer (some ⟨rb, 0, none⟩)] w fun e w' => e = .returned (.bool (decide (st = some []))) ∧ w' = w := by
  have HG := Lib.hid (wgood_any rb st w h)
  cases st with
  | none =>
    clear h
    go_enter Tryz.func28, Tryz.ntmps28
    go_wp2_with (fail)
    refine HG.out.mono ?_
    rintro e w' ⟨rfl, rfl⟩
    go_wp2
    go_ret
    exact ⟨rfl, rfl⟩
  | some l =>
    obtain ⟨a, n, cap, hb, hl, _⟩ := h
    have c0 := hb.cell (i := 0) rfl
    obtain ⟨b, hbn⟩ : ∃ b, b = ((n : Int) == 0) := ⟨_, rfl⟩
    have hd : Hid (decide (some l = some []) = b) := by
      show decide (some l = some []) = b
      rw [hbn]
      cases l with
      | nil => obtain rfl : n = 0 := hl.symm; rfl
      | cons x l => rw [decide_eq_false (by simp)]; rw [List.length_cons] at hl; symm; rw [beq_eq_false_iff_ne]; omega
    have hN : ∀ w', Calls Tryz.prog 59 #[.slice a n cap] w' fun e w2 => e = .returned (.bool b) ∧ w2 = w' := fun w' => by
      subst hbn
      go_enter Tryz.func59, Tryz.ntmps59
      go_wp2
      go_ret
      exact ⟨rfl, rfl⟩
    rw [hd.out]
    have HN := Lib.hid hN
    clear hl hbn hN
    go_enter Tryz.func28, Tryz.ntmps28
    go_wp2_with (fail)
    refine HG.out.mono ?_
    rintro e w' ⟨rfl, rfl⟩
    go_wp2_with (fail)
    refine (HN.out _).mono ?_
    rintro e w' ⟨rfl, rfl⟩
    go_wp2
    go_ret
    exact ⟨rfl, rfl⟩

end Go.Proofs.YtlkiancedgaicaaGreat

/- read: the records whose bytes these must be. -/
namespace Go.Proofs.YtlkiancedgaicaaGreat
open Go.RowKit Ow Wi Ve Rc
namespace Sb
def ReadOut (w : World) (b : List Nat) (e : Ending) (w' : World) : Prop :=
  w.grownBy w' none ∧ ((∃ v out, e = .returned v ∧ readL b = some (recs out) ∧ out.length ≤ b.length ∧ Got w' w.heap.size v out) ∨ readL b = none ∧ Dies e)
set_option maxHeartbeats 2000000 in
set_option maxRecDepth 100000 in
theorem sread_any (n cap B : Nat) (a : Option Addr) (b : List Nat) (w : World) (hl : b.length = n) (hn : n ≤ 1000000) (hP : BytesAt w B a cap b) :
    Calls Tryz.prog 87 #[.slice a n cap] w (ReadOut w b) := by
  obtain ⟨Q, hQ⟩ : ∃ Q, Q = ReadOut w b := ⟨_, rfl⟩
  rw [← hQ]
  have HQ := Lib.hid hQ; clear hQ
  have HD : Hid (∀ e w', readL b = none → Dies e → w.grownBy w' none → Q e w') := fun e w' h1 h2 h3 => by rw [HQ.out]; exact ⟨h3, Or.inr ⟨h1, h2⟩⟩
  have HN := Lib.hid (new_any n cap B a b w hl hn hP)
  have hz := cS_range b
  obtain ⟨zn, hzn⟩ : ∃ zn : Nat, (cS b).1 = (zn : Int) := Int.eq_ofNat_of_zero_le hz.1
  have hzl : zn ≤ n := by have := hz.2; rw [hzn, hl] at this; omega
  have HL := Lib.hid (And.intro hl hzn); clear hl hzn hz hP
  go_enter Tryz.func87, Tryz.ntmps87
  go_wp2_with fail
  refine HN.out.mono ?_
  rintro e w1 ⟨rb, rfl, hg, hrb, hr⟩
  have HC := Lib.hid (rcount_any rb (n : Int) (some b) w1 hr)
  have HG1 := Lib.hid (And.intro hg (And.intro hrb (RdS.lt hr))); clear hg hrb hr HN
  go_wp2_with fail
  refine HC.out.mono ?_
  rintro e w2 ⟨rfl, hg, hr⟩
  rw [show (countS (n : Int) (some b)).1 = (zn : Int) from by rw [← HL.out.1]; exact HL.out.2]
  have HG2 : Hid (w.grownBy w2 none ∧ w1.heap.size ≤ w2.heap.size ∧ RdS w2 rb (cS b).2) := ⟨gb_then HG1.out.1 hg HG1.out.2.1, hg.size, by have h := hr; rw [← HL.out.1] at h; exact h⟩
  clear hg hr HC
  go_wp2_with fail
  go_loopw [2, 12] (fun v i wr => ∃ (k : Nat), k ≤ zn ∧ i = .int .i64 k ∧ Hid (w.grownBy wr none ∧ w1.heap.size ≤ wr.heap.size ∧ ∃ (out : List E) (st : St), rS (b.length : Int) (cS b).2 k = some (recs out, st) ∧ out.length = k ∧ Sm st ∧ RdS wr rb st ∧ Got wr w1.heap.size v out)) (fun _ i _ => zn - (intOf i).toNat)
  case atStart =>
    exact ⟨0, by omega, rfl, HG2.out.1, HG2.out.2.1, [], (cS b).2, rfl, rfl, sm_count (fun l e => by cases e; rw [HL.out.1]; exact hn), HG2.out.2.2, Got.nil _ _⟩
  case round =>
    obtain ⟨k, hk, rfl, HI⟩ := hrel
    obtain ⟨hgr, hsz, out, st, hrs, hol, hsm, hrd, hgot⟩ := HI.out
    by_cases hlt : k < zn
    · have HB := Lib.hid (rbytes_any rb (n : Int) st wr hrd hsm)
      have hsucc := rS_succ (b.length : Int) (cS b).2 k
      rw [hrs] at hsucc
      have hsm2 : Sm (bytesS (n : Int) st).2 := sm_bytes hsm
      have hxl : (bytesS (n : Int) st).1.length ≤ 1000000 := by
        unfold bytesS tells
        cases st with
        | none => simp
        | some l =>
          simp only []
          cases hx : rdBytes (n : Int) l with
          | none => simp
          | some p =>
            have h1 := hsm l rfl
            unfold rdBytes at hx
            cases hc : rdCount (n : Int) l with
            | none => rw [hc] at hx; cases hx
            | some q =>
              obtain ⟨z, r⟩ := q
              rw [hc] at hx
              simp only at hx
              split at hx
              · cases hx
                simp only [List.length_take]
                have := rdCount_le _ _ _ _ hc
                omega
              · cases hx
      have hxb := bytesS_lt hrd (n : Int)
      simp only [HL.out.1] at hsucc
      have HK := Lib.hid (And.intro hgr (And.intro hsz (And.intro hgot (And.intro hsm2 (And.intro hsucc (And.intro hol hxb))))))
      generalize bytesS (n : Int) st = p at *
      obtain ⟨x, st2⟩ := p
      clear hgr hsz hrs hol hsm hrd hgot hsucc hsm2 hxb HI
      have hi : (k : Int) < (zn : Int) := by omega
      go_wp2_with fail
      refine HB.out.mono ?_
      rintro e w3 ⟨v3, rfl, hg3, hr3, ho3⟩
      obtain ⟨a3, c3, rfl, _, hB3, _⟩ := own_slice ho3 HK.out.2.2.2.2.2.2
      have HGet := Lib.hid (rget_any x.length c3 w3.heap.size a3 x w3 rfl hxl hB3)
      have hrlt := HG1.out.2.2
      have hg3' : w.grownBy w3 none := gb_then HK.out.1 hg3 HG1.out.2.1
      have HG3 : Hid (w.grownBy w3 none ∧ w1.heap.size ≤ w3.heap.size ∧ RdS w3 rb st2 ∧ Got w3 w1.heap.size u2 out) := ⟨hg3', Nat.le_trans HK.out.2.1 hg3.size, hr3, HK.out.2.2.1.beside hg3 hrlt⟩
      clear hg3 hr3 ho3 hB3 hxl hrlt hg3' HB
      go_wp2_with fail
      refine HGet.out.mono ?_
      clear HGet
      cases hgb : getB x with
      | false =>
        have HRN : Hid (readL b = none) := readL_none (k := k + 1) (by rw [HL.out.1, HK.out.2.2.2.2.1, hgb]; simp) (by rw [HL.out.2]; simp; omega)
        rintro e w4 ⟨hg4, he⟩
        rw [if_neg (by simp), show Value.agg z7.toArray = .agg #[.string ⟨#[]⟩, iV 0, iV 0, .slice none 0 0, .bool false, .slice none 0 0, .slice none 0 0] from rfl] at he
        subst he
        have HG4 := Lib.hid (gb_trans HG3.out.1 hg4); clear hg4 hgb
        go_wp2_with fail
        refine (smust_no _).mono ?_
        rintro e w5 ⟨⟨u, pv, rfl⟩, rfl⟩
        exact ⟨rfl, HD.out _ _ HRN.out ⟨u, pv, rfl⟩ (gb_trans HG4.out (gb_alloc (gb_refl _ _) _))⟩
      | true =>
        rintro e w4 ⟨hg4, he⟩
        rw [if_pos rfl] at he
        obtain ⟨q, rfl, hra, hnew⟩ := he
        have HNX : Hid (rS (b.length : Int) (cS b).2 (k + 1) = some (recs out ++ [recR (some x)], st2)) := by
          show _ = _
          rw [HL.out.1, HK.out.2.2.2.2.1, hgb]; simp
        generalize recR (some x) = r at *
        have HG4 : Hid (w.grownBy w4 none ∧ w1.heap.size ≤ w3.heap.size ∧ w3.heap.size ≤ w4.heap.size ∧ RdS w4 rb st2 ∧ Got w4 w1.heap.size u2 out ∧ RAt w4 w4.heap.size q r ∧ q.New w3.heap.size ∧ (∀ g, u2.ownBlock = some g → g < w3.heap.size)) :=
          ⟨gb_trans HG3.out.1 hg4, HG3.out.2.1, hg4.size, HG3.out.2.2.1.stay hg4, HG3.out.2.2.2.stay hg4, hra, hnew, fun g e => (HG3.out.2.2.2.1.lt g e).2⟩
        have HOL := Lib.hid HK.out.2.2.2.2.2.1
        have HSM := Lib.hid HK.out.2.2.2.1
        clear hg4 hgb hra hnew HG3 HK
        obtain ⟨t, b1, e1, d1, b2, e2, d2, b3, e3, d3⟩ := q
        obtain ⟨key, cl, sq, cx, g, val, sig⟩ := r
        have HV : (L.mk t b1 e1 d1 b2 e2 d2 b3 e3 d3).v ⟨key, cl, sq, cx, g, val, sig⟩ = .agg #[.string t, iV cl, iV sq, .slice b1 e1 d1, .bool g, .slice b2 e2 d2, .slice b3 e3 d3] := rfl
        rw [HV]
        clear HV
        obtain ⟨w5, hw5⟩ : ∃ w5, w5 = w4.alloc (.cells #[.string t, iV cl, iV sq, .slice b1 e1 d1, .bool g, .slice b2 e2 d2, .slice b3 e3 d3] 66) := ⟨_, rfl⟩
        obtain ⟨M, hM⟩ : ∃ M, M = w4.heap.size := ⟨_, rfl⟩
        have hg5 : w4.grownBy w5 none := by rw [hw5]; exact gb_alloc (gb_refl _ _) _
        have hb5 : Blk w5 M 66 [.string t, iV cl, iV sq, .slice b1 e1 d1, .bool g, .slice b2 e2 d2, .slice b3 e3 d3] := by rw [hw5]; exact blk_at _ _ _ hM.symm
        have HG5 := Lib.hid (And.intro hg5 hb5); clear hg5 hb5
        go_wp2_with fail
        rw [← hw5, ← hM]
        clear hw5 hM
        refine (smust_yes _).mono ?_
        rintro e w6 ⟨rfl, rfl⟩
        have m0 := HG5.out.2.cell (i := 0) rfl
        have m1 := HG5.out.2.cell (i := 1) rfl
        have m2 := HG5.out.2.cell (i := 2) rfl
        have m3 := HG5.out.2.cell (i := 3) rfl
        have m4 := HG5.out.2.cell (i := 4) rfl
        have m5 := HG5.out.2.cell (i := 5) rfl
        have m6 := HG5.out.2.cell (i := 6) rfl
        obtain ⟨hw4, hs1, hs2, hrd4, hgot4, hra4, hnew4, hv4⟩ := HG4.out
        have hgx : w4.grownBy (w6.alloc (.cells #[.string t, iV cl, iV sq, .slice b1 e1 d1, .bool g, .slice b2 e2 d2, .slice b3 e3 d3] 66)) none := gb_alloc HG5.out.1 _
        obtain ⟨v', w', hap, hgot', hg'⟩ := got_push 111 Tryz.underlying111 (w6.alloc (.cells #[.string t, iV cl, iV sq, .slice b1 e1 d1, .bool g, .slice b2 e2 d2, .slice b3 e3 d3] 66)) w1.heap.size w3.heap.size u2 out w6.heap.size 0 1 ((⟨t, b1, e1, d1, b2, e2, d2, b3, e3, d3⟩, ⟨key, cl, sq, cx, g, val, sig⟩) : E) (hgot4.stay hgx) ((hra4.stay hgx).full) hnew4 hv4 hs1 (fun j z hz => by rw [Nat.zero_add]; exact (Blk.new w6 [.string t, iV cl, iV sq, .slice b1 e1 d1, .bool g, .slice b2 e2 d2, .slice b3 e3 d3] 66).cell hz) (by rw [HOL.out]; omega) (by have := hgx.size; omega)
        have HE : Hid (w.grownBy w' none ∧ w1.heap.size ≤ w'.heap.size ∧ ∃ (out : List E) (st : St), rS (b.length : Int) (cS b).2 (k + 1) = some (recs out, st) ∧ out.length = k + 1 ∧ Sm st ∧ RdS w' rb st ∧ Got w' w1.heap.size v' out) := by
          refine ⟨Got.gb (gb_trans hw4 hgx) (hgot4.stay hgx) (Nat.le_trans HG1.out.1.size (Nat.le_refl _)) hg', by have h1 := hgx.size; have h2 := hg'.size; omega, out ++ [((⟨t, b1, e1, d1, b2, e2, d2, b3, e3, d3⟩, ⟨key, cl, sq, cx, g, val, sig⟩) : E)], st2, ?_, by rw [List.length_append, HOL.out]; rfl, HSM.out, ?_, hgot'⟩
          · rw [HNX.out]; simp [recs]
          · have hrx := hrd4.stay hgx
            cases hvb : u2.ownBlock with
            | none => rw [hvb] at hg'; exact hrx.stay hg'
            | some g2 => rw [hvb] at hg'; exact hrx.beside hg' (by have h1 := (hgot4.1.lt g2 hvb).1; have h2 := HG1.out.2.2; omega)
        have HSH : Hid (∃ a c, u2 = .slice a out.length c) := own_shapeR hgot4.1
        obtain ⟨ua, uc, rfl⟩ := HSH.out
        clear hw4 hs1 hs2 hrd4 hgot4 hra4 hnew4 hv4 hgx hgot' hg'
        go_wp2_with (at_builtin; refine Lib.wpList_append_run _ rfl _ _ _ _ rfl _ _ rfl rfl _ _ hap ?_)
        exact ⟨⟨k + 1, by omega, rfl, HE.out⟩, by show zn - ((k : Int) + 1).toNat < zn - (k : Int).toNat; omega⟩
    · obtain rfl : k = zn := by omega
      have HDn := Lib.hid (done_any rb st wr hrd)
      have hrl : readL b = doneS (some (recs out, st)) := by unfold readL; rw [HL.out.2, Int.toNat_natCast, hrs]
      have HK := Lib.hid (And.intro hgr (And.intro hgot (And.intro hrl hol)))
      clear hgr hsz hrs hol hsm hrd hgot hrl HI hlt
      go_wp2_with fail
      refine HDn.out.mono ?_
      rintro e w3 ⟨rfl, rfl⟩
      by_cases hst : st = some []
      · rw [decide_eq_true hst]
        have HE : Hid (Q (.returned u2) w3) := by
          show Q _ _
          rw [HQ.out]
          exact ⟨HK.out.1, Or.inl ⟨u2, out, rfl, by rw [HK.out.2.2.1, hst]; rfl, by rw [HK.out.2.2.2, HL.out.1]; exact hzl, HK.out.2.1.mono HG1.out.1.size⟩⟩
        clear hst
        go_wp2_with fail
        refine (smust_yes _).mono ?_
        rintro e w4 ⟨rfl, rfl⟩
        go_wp2
        exact HE.out
      · rw [decide_eq_false hst]
        have HE : Hid (readL b = none) := by
          show _ = _
          rw [HK.out.2.2.1]
          unfold doneS
          split
          · rename_i h; simp only [Option.some.injEq, Prod.mk.injEq] at h; exact absurd h.2 hst
          · rfl
        clear hst
        go_wp2_with fail
        refine (smust_no _).mono ?_
        rintro e w4 ⟨⟨u, pv, rfl⟩, rfl⟩
        exact ⟨rfl, HD.out _ _ HE.out ⟨u, pv, rfl⟩ HK.out.1⟩
end Sb
end Go.Proofs.YtlkiancedgaicaaGreat

/- Get: the right set whose bytes these are, or the error. -/
namespace Go.Proofs.YtlkiancedgaicaaGreat
open Go.RowKit Ow Wi Ve Rc
namespace Sb
theorem enter_get1 : ∀ args w, (callFunc 86 args).run Tryz.prog w = .ok (.enter 86 args) w := enters_of Tryz.func86 (by kernel_rfl) rfl
theorem getL_of {b : List Nat} {l : List R} (h : readL b = some l) : getL b = if setB l then some l else none := by unfold getL; rw [h]
def GetIn (w : World) (b : List Nat) (e : Ending) (w' : World) : Prop :=
  w.grownBy w' none ∧ ((∃ v out, e = .returned v ∧ getL b = some (recs out) ∧ out.length ≤ b.length ∧ Got w' w.heap.size v out) ∨ getL b = none ∧ Dies e)
set_option maxHeartbeats 1000000 in
theorem get1_any (N n cap B : Nat) (a : Option Addr) (b : List Nat) (w : World) (hN : w.cell? ⟨N, 0, none⟩ = some (.slice a n cap)) (hl : b.length = n) (hn : n ≤ 1000000) (hP : BytesAt w B a cap b) :
    Calls Tryz.prog 86 #[.pointer (some ⟨N, 0, none⟩)] w (GetIn w b) := by
  have HR := Lib.hid (sread_any n cap B a b w hl hn hP)
  have HL := Lib.hid (show b.length ≤ 1000000 by omega)
  clear hP hl
  obtain ⟨Q, hQ⟩ : ∃ Q, Q = GetIn w b := ⟨_, rfl⟩
  rw [← hQ]
  have HQ := Lib.hid hQ; clear hQ
  have HD : Hid (∀ e w', getL b = none → Dies e → w.grownBy w' none → Q e w') := fun e w' h1 h2 h3 => by rw [HQ.out]; exact ⟨h3, Or.inr ⟨h1, h2⟩⟩
  go_enter Tryz.func86, Tryz.ntmps86
  go_wp2_with fail
  refine HR.out.mono ?_
  rintro e w1 ⟨hg, ⟨v, out, rfl, hrl, hol, hgot⟩ | ⟨hrl, ⟨u, pv, rfl⟩⟩⟩
  · have hgl := getL_of hrl
    obtain ⟨av, cv, rfl, _, _, hrow⟩ := hgot.row
    have HC := Lib.hid (checked_any w1.heap.size out.length cv av out w1 rfl hrow (by have := HL.out; omega))
    have HK := Lib.hid (And.intro hg (And.intro hgl (And.intro hol hgot)))
    clear hg hgl hol hgot hrow hrl hN
    go_wp2_with fail
    refine HC.out.mono ?_
    rintro e w2 ⟨⟨hs, rfl⟩ | ⟨hs, ⟨u, pv, rfl⟩⟩, hg2⟩
    · have HE : Hid (Q (.returned (.slice av out.length cv)) w2) := by
        show Q _ _
        rw [HQ.out]
        exact ⟨gb_trans HK.out.1 hg2, Or.inl ⟨_, out, rfl, by rw [HK.out.2.1, hs]; rfl, HK.out.2.2.1, HK.out.2.2.2.stay hg2⟩⟩
      clear hs hg2
      go_wp2
      exact HE.out
    · exact ⟨rfl, HD.out _ _ (by rw [HK.out.2.1, hs]; rfl) ⟨u, pv, rfl⟩ (gb_trans HK.out.1 hg2)⟩
  · exact ⟨rfl, HD.out _ _ (by unfold getL; rw [hrl]) ⟨u, pv, rfl⟩ hg⟩
def GetOut (w : World) (b : List Nat) (e : Ending) (w' : World) : Prop :=
  w.grownBy w' none ∧ ((∃ v out, e = .returned (.tuple #[v, .int .i64 0]) ∧ getL b = some (recs out) ∧ out.length ≤ b.length ∧ Got w' w.heap.size v out) ∨ getL b = none ∧ e = .returned (.tuple #[.slice none 0 0, .int .i64 4]))
set_option maxHeartbeats 1000000 in
theorem sget_any (n cap B : Nat) (a : Option Addr) (b : List Nat) (w : World) (hl : b.length = n) (hn : n ≤ 1000000) (hP : BytesAt w B a cap b) :
    Calls Tryz.prog 46 #[.slice a n cap] w (GetOut w b) := by
  have hmf := smakeF
  obtain ⟨w1, hw1⟩ : ∃ w1, w1 = w.alloc (.cells #[.slice a n cap] 23) := ⟨_, rfl⟩
  obtain ⟨N, hN⟩ : ∃ N, N = w.heap.size := ⟨_, rfl⟩
  have hg1 : w.grownBy w1 none := by rw [hw1]; exact gb_alloc (gb_refl _ _) _
  have hb1 : Blk w1 N 23 [.slice a n cap] := by rw [hw1]; exact blk_at _ _ _ hN.symm
  obtain ⟨Q, hQ⟩ : ∃ Q, Q = GetOut w b := ⟨_, rfl⟩
  rw [← hQ]
  have HQ := Lib.hid hQ; clear hQ
  have hin := get1_any N n cap B a b (ebox w1) ((hb1.grown (ebox_gb w1) (by simp)).cell (i := 0) rfl) hl hn ((hP.stay hg1).stay (ebox_gb w1))
  cases hs : getL b with
  | some l =>
    have HT := Lib.hid (stryR_yes 86 #[] #[.pointer (some ⟨N, 0, none⟩)] w1 (fun v w' => ∃ out, getL b = some (recs out) ∧ out.length ≤ b.length ∧ Got w' (ebox w1).heap.size v out) enter_get1 (hin.mono fun e w' ⟨hg, ho⟩ => by
      rcases ho with ⟨v, out, rfl, h1, h2, h3⟩ | ⟨h1, _⟩
      · exact ⟨v, rfl, hg, out, h1, h2, h3⟩
      · rw [hs] at h1; cases h1))
    have HG := Lib.hid hg1; clear hg1 hb1 hin hP hl hs
    go_enter Tryz.func46, Tryz.ntmps46
    go_wp2_with fail
    rw [← hw1, ← hN]
    clear hw1 hN
    refine HT.out.mono ?_
    rintro e w' ⟨v, w2, rfl, hg, ⟨out, h1, h2, h3⟩, rfl⟩
    have hes := ebox_size w1
    have hst := gb_set (gb_refl w2 (some w1.heap.size)) 0 (.int .i64 0)
    have HF : Hid (Q (.returned (.tuple #[v, .int .i64 0])) (w2.setCell ⟨w1.heap.size, 0, none⟩ (.int .i64 0))) := by
      show Q _ _
      rw [HQ.out]
      exact ⟨gb_then (gb_trans (gb_trans HG.out (ebox_gb w1)) hg) hst HG.out.size, Or.inl ⟨v, out, rfl, h1, h2, (h3.beside hst (by omega)).mono (by have := HG.out.size; omega)⟩⟩
    clear h1 h2 h3 hg hst hes
    generalize w2.setCell ⟨w1.heap.size, 0, none⟩ (.int .i64 0) = w3 at *
    go_wp2
    exact HF.out
  | none =>
    have HT := Lib.hid (stryR_no 86 #[] #[.pointer (some ⟨N, 0, none⟩)] w1 enter_get1 (hin.mono fun e w' ⟨hg, ho⟩ => by
      rcases ho with ⟨v, out, rfl, h1, _⟩ | ⟨_, h2⟩
      · rw [hs] at h1; cases h1
      · exact ⟨h2, hg⟩))
    have HG := Lib.hid (And.intro hg1 hs); clear hg1 hb1 hin hP hl hs
    go_enter Tryz.func46, Tryz.ntmps46
    go_wp2_with fail
    rw [← hw1, ← hN]
    clear hw1 hN
    refine HT.out.mono ?_
    rintro e w' ⟨rfl, hg⟩
    have HF : Hid (Q (.returned (.tuple #[.slice none 0 0, .int .i64 4])) w') := by
      show Q _ _
      rw [HQ.out]
      exact ⟨gb_trans HG.out.1 hg, Or.inr ⟨HG.out.2, rfl⟩⟩
    clear hg
    go_wp2
    exact HF.out
end Sb
end Go.Proofs.YtlkiancedgaicaaGreat
