/- texts merged, part 4: XSbUpper XSbTry XSbJoin XSbRight XSbPutNil XSbAwake -/
import Derived.Test.YtlkiancedgaicaaSsB2
import Derived.Test.YtlkiancedgaicaaSsB3
import Derived.Defers
import Derived.Recover
/- uppermost: the records that none other one is over, in memory of their own. -/
namespace Go.Proofs.Ytlkiancedgaicaa
open Go.RowKit Ow Wi Ve Rc
namespace Sb
theorem ROwn.beside {w w' : World} {base T : Nat} {q : L} {r : R} (h : ROwn w base q r) (hg : w.grownBy w' (some T)) (hT : T < base) : ROwn w' base q r :=
  ⟨h.str, h.dots.kept hg (Or.inr fun e => by have := (h.dots.lt _ e).1; omega), h.val.kept hg (Or.inr fun e => by have := (h.val.lt _ e).1; omega), h.sig.kept hg (Or.inr fun e => by have := (h.sig.lt _ e).1; omega), h.vb, h.sb, h.top⟩
theorem rown_app {w w' : World} {base b : Nat} {v : Value} {l : List E} {q : L} {r : R} (ho : OwnR w base v l) (h : ROwn w b q r) (hg : w.grownBy w' v.ownBlock) : ROwn w' b q r := by
  rcases ho.2 with ⟨rfl, _⟩ | ⟨g, c, cur, rfl, _, hh, _⟩
  · exact h.stay hg
  · have hb : Blk w g 34 cur.toList := by unfold Blk; rw [hh]
    exact h.other hb (by decide) (by decide) hg
theorem ROwn.mono {w : World} {b b' : Nat} {q : L} {r : R} (h : ROwn w b q r) (hb : b' ≤ b) : ROwn w b' q r :=
  ⟨h.str, own_mono h.dots hb, own_mono h.val hb, own_mono h.sig hb, h.vb, h.sb, h.top⟩
/-- a row of one's own of records whose parts are one's own -/
def OwnAll (w : World) (base : Nat) (v : Value) (l : List E) : Prop := OwnR w base v l ∧ ∀ x ∈ l, ROwn w base x.1 x.2
theorem OwnAll.stay {w w' : World} {base : Nat} {v : Value} {l : List E} (h : OwnAll w base v l) (hg : w.grownBy w' none) : OwnAll w' base v l :=
  ⟨h.1.kept hg (by cases v.ownBlock <;> simp), fun x hx => (h.2 x hx).stay hg⟩
theorem OwnAll.beside {w w' : World} {base T : Nat} {v : Value} {l : List E} (h : OwnAll w base v l) (hg : w.grownBy w' (some T)) (hT : T < base) : OwnAll w' base v l :=
  ⟨h.1.kept hg (Or.inr fun e => by have := (h.1.lt _ e).1; omega), fun x hx => ROwn.beside (h.2 x hx) hg hT⟩
theorem OwnAll.mono {w : World} {b b' : Nat} {v : Value} {l : List E} (h : OwnAll w b v l) (hb : b' ≤ b) : OwnAll w b' v l :=
  ⟨own_mono h.1 hb, fun x hx => ROwn.mono (h.2 x hx) hb⟩
theorem OwnAll.row {w : World} {base : Nat} {v : Value} {l : List E} (h : OwnAll w base v l) : ∃ a c, v = .slice a l.length c ∧ l.length ≤ c ∧ c ≤ maxLen ∧ RRow w w.heap.size a l := own_recs h.1 fun x hx => (h.2 x hx).at
def UpOut (w : World) (u : List E) (e : Ending) (w' : World) : Prop := ∃ v out, e = .returned v ∧ recs out = topF (recs u) ∧ OwnAll w' w.heap.size v out ∧ w.grownBy w' none
theorem recs_take (l : List E) (k : Nat) (h : k < l.length) : recs (l.take (k + 1)) = recs (l.take k) ++ [(l.getD k e0).2] := take_next (fun x : E => x.2) l k e0 h
set_option maxHeartbeats 2000000 in
set_option maxRecDepth 100000 in
theorem upper_any (B n c : Nat) (a : Option Addr) (u : List E) (w : World) (hn : u.length = n) (h : RRow w B a u) (hc : n ≤ 1000000) (hcx : ∀ r ∈ recs u, Rt 0 r.cx) (hsz : ∀ x ∈ u, x.1.n1 ≤ 1000000 ∧ x.1.n2 ≤ 1000000 ∧ x.1.n3 ≤ 1000000) :
    Calls Try.prog 20 #[.agg #[.slice a n c]] w (UpOut w u) := by
  have H := Lib.hid (And.intro h (And.intro hn (And.intro hcx hsz))); clear h hn hcx hsz
  obtain ⟨Q, hQ⟩ : ∃ Q, Q = UpOut w u := ⟨_, rfl⟩
  rw [← hQ]
  have HQ := Lib.hid hQ; clear hQ
  obtain ⟨w1, hw1⟩ : ∃ w1, w1 = w.alloc (.cells #[.slice a n c] 46) := ⟨_, rfl⟩
  obtain ⟨ub, hub⟩ : ∃ ub, ub = w.heap.size := ⟨_, rfl⟩
  have hg1 : w.grownBy w1 none := by rw [hw1]; exact gb_alloc (gb_refl _ _) _
  have hb1 : Blk w1 ub 46 [.slice a n c] := by rw [hw1]; exact blk_at _ _ _ hub.symm
  have HU := Lib.hid (under_any B n c a u w1 H.out.2.1 (H.out.1.stay hg1) hc)
  have x0 := hb1.cell (i := 0) rfl
  have HG1 := Lib.hid (And.intro hg1 hb1); clear hg1 hb1
  go_enter Try.func20, Try.ntmps20
  go_wp2_with fail
  rw [← hw1, ← hub]
  clear hw1 hub
  refine HU.out.mono ?_
  rintro e w2 ⟨N, rfl, hg, hU⟩
  have hg2 := gb_trans HG1.out.1 hg
  have hb2 := HG1.out.2.grown hg (by simp)
  have y0 := hb2.cell (i := 0) rfl
  have HG2 := Lib.hid (And.intro hg2 (And.intro hb2 hU)); clear hg hU hg2 hb2 x0
  have HSY := Lib.hid (fun w' (hg : w2.grownBy w' none) x => says_any N u x w' (HG2.out.2.2.stay hg) H.out.2.2.1)
  go_wp2_with fail
  go_loopw [2, 12] (fun v i wr => ∃ (k : Nat), k ≤ n ∧ i = .int .i64 k ∧ Hid (w2.grownBy wr none ∧ ∃ out : List E, out.length ≤ k ∧ recs out = (recs (u.take k)).filter (fun r => !underB (recs u) r) ∧ OwnAll wr w2.heap.size v out)) (fun _ i _ => n - (intOf i).toNat)
  case atStart => exact ⟨0, by omega, rfl, gb_refl _ _, [], by simp, by simp [recs], World.ownsRow_nil _ _ _ _, fun x hx => by cases hx⟩
  case round =>
    obtain ⟨k, hk, rfl, HI⟩ := hrel
    by_cases hlt : k < n
    · have hkl : k < u.length := by rw [H.out.2.1]; exact hlt
      obtain ⟨pb, po, rfl, hpb, hcs⟩ := (H.out.1.stay (gb_trans HG2.out.1 HI.out.1)).at (by omega)
      have hx := hcs k hkl
      have hra := (H.out.1.stay (gb_trans HG2.out.1 HI.out.1)).recs _ (getD_mem hkl)
      have hxs := H.out.2.2.2 _ (getD_mem hkl)
      have hrt := recs_take u k hkl
      have HS1 := Lib.hid (fun w' (hg : w2.grownBy w' none) => HSY.out w' hg (u.getD k e0))
      generalize u.getD k e0 = x at *
      have HAP := Lib.hid (fun w' (hg : wr.grownBy w' none) => apart_any x B w' (hra.stay hg) hxs)
      obtain ⟨b, hb⟩ : ∃ b, underB (recs u) x.2 = b := ⟨_, rfl⟩
      rw [hb] at HS1
      have HF : Hid ((recs (u.take (k + 1))).filter (fun r => !underB (recs u) r) = (recs (u.take k)).filter (fun r => !underB (recs u) r) ++ if b then [] else [x.2]) := by
        show _ = _
        rw [hrt, List.filter_append]
        congr 1
        rw [List.filter_cons, hb]
        cases b <;> rfl
      clear hra hxs hrt hb hcs
      have HXV : Hid (recV x = recV x) := rfl
      obtain ⟨⟨s, a1, n1, c1, a2, n2, c2, a3, n3, c3⟩, ⟨key, cl, sq, cx, g, val, sig⟩⟩ := x
      obtain ⟨c0', c1', c2', c3', c4', c5', c6'⟩ := cells_of hx
      have hgA := gb_alloc (gb_refl wr none) (.cells #[.string s, iV cl, iV sq, .slice a1 n1 c1, .bool g, .slice a2 n2 c2, .slice a3 n3 c3] 34)
      obtain ⟨w3, hw3⟩ : ∃ w3, w3 = wr.alloc (.cells #[.string s, iV cl, iV sq, .slice a1 n1 c1, .bool g, .slice a2 n2 c2, .slice a3 n3 c3] 34) := ⟨_, rfl⟩
      obtain ⟨M, hM⟩ : ∃ M, M = wr.heap.size := ⟨_, rfl⟩
      have hbM : Blk w3 M 34 [.string s, iV cl, iV sq, .slice a1 n1 c1, .bool g, .slice a2 n2 c2, .slice a3 n3 c3] := by rw [hw3]; exact blk_at _ _ _ hM.symm
      rw [← hw3] at hgA
      have HG3 := Lib.hid (And.intro hgA hbM); clear hgA hbM hx HXV
      replace HS1 : Hid (∀ w', w2.grownBy w' none → Calls Try.prog 55 #[vV s cl sq a1 n1 c1 g a2 n2 c2 a3 n3 c3, .pointer (some ⟨N, 0, none⟩)] w' fun e w'' => e = .returned (.bool b) ∧ w'.grownBy w'' none) := HS1
      replace HAP : Hid (∀ w', wr.grownBy w' none → Calls Try.prog 37 #[vV s cl sq a1 n1 c1 g a2 n2 c2 a3 n3 c3] w' (CpOut w' ⟨key, cl, sq, cx, g, val, sig⟩)) := HAP
      have hi : (k : Int) < (n : Int) := by omega
      go_wp2_with fail
      rw [← hw3, ← hM]
      clear hw3 hM c0' c1' c2' c3' c4' c5' c6'
      refine (HS1.out w3 (gb_trans HI.out.1 HG3.out.1)).mono ?_
      rintro e w4 ⟨rfl, hg4⟩
      have hbM := HG3.out.2.grown hg4 (by simp)
      have m0 := hbM.cell (i := 0) rfl
      have m1 := hbM.cell (i := 1) rfl
      have m2 := hbM.cell (i := 2) rfl
      have m3 := hbM.cell (i := 3) rfl
      have m4 := hbM.cell (i := 4) rfl
      have m5 := hbM.cell (i := 5) rfl
      have m6 := hbM.cell (i := 6) rfl
      have HG4 := Lib.hid (gb_trans HG3.out.1 hg4); clear hg4 hbM
      cases b with
      | true =>
        obtain ⟨out, hol, hoe, hoo⟩ := HI.out.2
        have HE := Lib.hid (And.intro (gb_trans HI.out.1 HG4.out) (show ∃ out : List E, out.length ≤ k + 1 ∧ recs out = (recs (u.take (k + 1))).filter (fun r => !underB (recs u) r) ∧ OwnAll w4 w2.heap.size u2 out from ⟨out, by omega, by rw [HF.out, hoe]; simp, hoo.stay HG4.out⟩))
        clear hol hoe hoo
        go_wp2
        exact ⟨⟨k + 1, by omega, rfl, HE.out⟩, by show n - ((k : Int) + 1).toNat < n - (k : Int).toNat; omega⟩
      | false =>
        go_wp2_with fail
        refine (HAP.out w4 HG4.out).mono ?_
        rintro e w5 ⟨q, rfl, hg5, hro⟩
        obtain ⟨t, b1, e1, d1, b2, e2, d2, b3, e3, d3⟩ := q
        have HV : (L.mk t b1 e1 d1 b2 e2 d2 b3 e3 d3).v ⟨key, cl, sq, cx, g, val, sig⟩ = .agg #[.string t, iV cl, iV sq, .slice b1 e1 d1, .bool g, .slice b2 e2 d2, .slice b3 e3 d3] := rfl
        rw [HV]
        obtain ⟨out, hol, hoe, hoo⟩ := HI.out.2
        have hgw := gb_trans HG4.out hg5
        have hgx := gb_alloc hgw (.cells #[.string t, iV cl, iV sq, .slice b1 e1 d1, .bool g, .slice b2 e2 d2, .slice b3 e3 d3] 34)
        have hoo5 := hoo.stay hgx
        obtain ⟨v', w', hap, ho', hg'⟩ := append_recT 42 Try.underlying42 (w5.alloc (.cells #[.string t, iV cl, iV sq, .slice b1 e1 d1, .bool g, .slice b2 e2 d2, .slice b3 e3 d3] 34)) w2.heap.size u2 out w5.heap.size 0 1 ((⟨t, b1, e1, d1, b2, e2, d2, b3, e3, d3⟩, ⟨key, cl, sq, cx, g, val, sig⟩) : E) hoo5.1 (fun j z hz => by rw [Nat.zero_add]; exact (Blk.new w5 [.string t, iV cl, iV sq, .slice b1 e1 d1, .bool g, .slice b2 e2 d2, .slice b3 e3 d3] 34).cell hz) (by omega) (Nat.le_trans HI.out.1.size hgx.size)
        have hro' : ROwn w' w2.heap.size (L.mk t b1 e1 d1 b2 e2 d2 b3 e3 d3) ⟨key, cl, sq, cx, g, val, sig⟩ := rown_app hoo5.1 ((ROwn.mono hro (Nat.le_trans HI.out.1.size HG4.out.size)).stay (gb_alloc (gb_refl _ _) _)) hg'
        have hgo : w2.grownBy w' none := gb_ownR (gb_trans HI.out.1 hgx) hoo5.1 (Nat.le_refl _) hg'
        have HE : Hid (w2.grownBy w' none ∧ ∃ out : List E, out.length ≤ k + 1 ∧ recs out = (recs (u.take (k + 1))).filter (fun r => !underB (recs u) r) ∧ OwnAll w' w2.heap.size v' out) := by
          refine ⟨hgo, out ++ [((⟨t, b1, e1, d1, b2, e2, d2, b3, e3, d3⟩, ⟨key, cl, sq, cx, g, val, sig⟩) : E)], by simp; omega, ?_, ho', fun y hy => ?_⟩
          · rw [HF.out, ← hoe]; simp [recs]
          · rcases List.mem_append.1 hy with hy | hy
            · exact rown_app hoo5.1 (hoo5.2 y hy) hg'
            · rw [List.mem_singleton.1 hy]; exact hro'
        have HS : Hid (∃ a c, u2 = .slice a out.length c) := by
          obtain ⟨a, c, e⟩ := own_shapeR hoo.1
          exact ⟨a, c, e⟩
        clear hol hoe hoo hgw hgx hoo5 ho' hg' hro' hgo hro hg5 HV
        go_wp2_with (at_builtin; refine Lib.wpList_append_run _ rfl _ _ _ _ rfl _ _ rfl rfl _ _ hap ?_)
        exact ⟨⟨k + 1, by omega, rfl, HE.out⟩, by show n - ((k : Int) + 1).toNat < n - (k : Int).toNat; omega⟩
    · obtain rfl : k = n := by omega
      obtain ⟨out, hol, hoe, hoo⟩ := HI.out.2
      have HE : Hid (Q (.returned u2) wr) := by
        show Q _ _
        rw [HQ.out]
        refine ⟨u2, out, rfl, ?_, OwnAll.mono hoo HG2.out.1.size, gb_trans HG2.out.1 HI.out.1⟩
        rw [hoe, List.take_of_length_le (by rw [H.out.2.1]; exact Nat.le_refl _)]; rfl
      clear hlt hol hoe hoo
      go_wp2
      exact HE.out
end Sb
end Go.Proofs.Ytlkiancedgaicaa

/- try: what the call tells; where it panics, nothing, and the error. -/
namespace Go.Proofs.Ytlkiancedgaicaa
open Go.RowKit Ow Wi Ve Rc
namespace Sb
theorem smakeF : ∀ (fn : Fn) (first cap : Array Value) (w : World), (Instr.makeFunc fn first cap).run Try.prog w = .ok (.func fn first cap) w := fun _ _ _ _ => rfl
/-- the world with the error's box -/
abbrev ebox (w : World) : World := w.alloc (.cells #[.int .i64 0] 25)
theorem ebox_gb (w : World) : w.grownBy (ebox w) none := gb_alloc (gb_refl _ _) _
theorem ebox_size (w : World) : (ebox w).heap.size = w.heap.size + 1 := by simp
theorem ebox_blk (w : World) : Blk (ebox w) w.heap.size 25 [.int .i64 0] := Blk.new w _ _
theorem scaughtR (N : Nat) (x : Value) (u : TypeId) (pv : Value) (older : List PanicEntry) (w : World) (hb : Blk w N 25 [x]) :
    CallsD Try.prog 30 #[.pointer (some ⟨N, 0, none⟩)] (.panicking ({ v := .iface u pv, recovered := false } :: older)) w fun e u' w' =>
      e = .returned (.tuple #[]) ∧ u' = .panicking ({ v := .iface u pv, recovered := true } :: older) ∧ w.grownBy w' (some N) ∧ Blk w' N 25 [.int .i64 4] := by
  have c0 := hb.cell (i := 0) rfl
  have f0 := hb.free 0
  refine callsD_of_wpS Try.func30 rfl fun c₀ cs hu => ?_
  apply wpS_seq
  apply wpS_region
  simp [wpOpsS, go_sem, recoverD, hu, Try.ntmps30, Exit.thenS]
  refine wpS_cond (t := true) (by simp [Act.eval, Array.replicate]) ?_
  simp only [if_true]
  refine wpS_of_wp ?_
  go_wp2
  exact ⟨rfl, _, rfl, .tuple #[], results_none rfl _ _ _, rfl, rfl, gb_set (gb_refl _ _) 0 _, hb.set 0 _⟩
theorem sidleR (p : Addr) (w : World) :
    CallsD Try.prog 30 #[.pointer (some p)] .returning w fun e u' w' => e = .returned (.tuple #[]) ∧ u' = .returning ∧ w' = w := by
  refine callsD_of_wpS Try.func30 rfl fun c₀ cs hu => ?_
  apply wpS_seq
  apply wpS_region
  simp [wpOpsS, go_sem, recoverD, hu, Try.ntmps30, Exit.thenS]
  refine wpS_cond (t := false) (by simp [Act.eval, Array.replicate]) ?_
  simp only [Bool.false_eq_true, if_false]
  refine wpS_of_wp (wp_skip ?_)
  cases c₀
  simp_all [bodyPostS, results, Try.results30]
theorem stryR_yes (g : Nat) (first cap : Array Value) (w : World) (Q : Value → World → Prop)
    (eg : ∀ args w, (callFunc g args).run Try.prog w = .ok (.enter g args) w)
    (hin : Calls Try.prog g (first ++ #[] ++ cap) (ebox w) fun e w' => ∃ x, e = .returned x ∧ (ebox w).grownBy w' none ∧ Q x w') :
    Calls Try.prog 17 #[.func (.func g) first cap] w fun e w' => ∃ x w2, e = .returned (.tuple #[x, .int .i64 0]) ∧ (ebox w).grownBy w2 none ∧ Q x w2 ∧ w' = w2.setCell ⟨w.heap.size, 0, none⟩ (.int .i64 0) := by
  have HI := Lib.hid hin; clear hin
  have hmf := smakeF
  go_enter_defers Try.func17, Try.ntmps17
  go_wp2_with (fail)
  refine HI.out.mono ?_
  rintro e w2 ⟨x, rfl, hg, hq⟩
  have HQ := Lib.hid (And.intro hg hq)
  have hb := (ebox_blk w).grown hg (by simp)
  have c0 := hb.cell (i := 0) rfl
  have f0 := hb.free 0
  have HB := Lib.hid (hb.set 0 (.int .i64 0))
  clear hg hq hb
  go_wp2_with (fail)
  refine leaves_cons (f := 30) (args := #[.pointer (some ⟨w.heap.size, 0, none⟩)]) (by simp) (by simp [go_sem]) ?_
  refine (sidleR _ _).mono ?_
  rintro e u' w'' ⟨rfl, rfl, rfl⟩
  have c1 := HB.out.cell (i := 0) rfl
  simp [Leaves, settle, results, Try.results17, go_sem, loadVar, c1]
  exact ⟨w2, HQ.out.1, HQ.out.2, rfl⟩
theorem stryR_no (g : Nat) (first cap : Array Value) (w : World)
    (eg : ∀ args w, (callFunc g args).run Try.prog w = .ok (.enter g args) w)
    (hin : Calls Try.prog g (first ++ #[] ++ cap) (ebox w) fun e w' => Dies e ∧ (ebox w).grownBy w' none) :
    Calls Try.prog 17 #[.func (.func g) first cap] w fun e w' => e = .returned (.tuple #[.slice none 0 0, .int .i64 4]) ∧ w.grownBy w' none := by
  have HI := Lib.hid hin; clear hin
  have hmf := smakeF
  go_enter_defers Try.func17, Try.ntmps17
  go_wp2_with (fail)
  refine HI.out.mono ?_
  rintro e w2 ⟨⟨u, pv, rfl⟩, hg⟩
  have hb := (ebox_blk w).grown hg (by simp)
  have HQ := Lib.hid hg; clear hg
  refine leaves_cons (f := 30) (args := #[.pointer (some ⟨w.heap.size, 0, none⟩)]) (by simp) (by simp [go_sem]) ?_
  refine (scaughtR w.heap.size _ u pv [] w2 hb).mono ?_
  rintro e u' w'' ⟨rfl, rfl, hg3, hb3⟩
  have c1 := hb3.cell (i := 0) rfl
  simp [Leaves, settle, results, Try.results17, go_sem, loadVar, c1]
  exact gb_then (gb_trans (ebox_gb w) HQ.out) hg3 (Nat.le_refl _)
theorem scaughtB (N : Nat) (x : Value) (u : TypeId) (pv : Value) (older : List PanicEntry) (w : World) (hb : Blk w N 25 [x]) :
    CallsD Try.prog 42 #[.pointer (some ⟨N, 0, none⟩)] (.panicking ({ v := .iface u pv, recovered := false } :: older)) w fun e u' w' =>
      e = .returned (.tuple #[]) ∧ u' = .panicking ({ v := .iface u pv, recovered := true } :: older) ∧ w.grownBy w' (some N) ∧ Blk w' N 25 [.int .i64 4] := by
  have c0 := hb.cell (i := 0) rfl
  have f0 := hb.free 0
  refine callsD_of_wpS Try.func42 rfl fun c₀ cs hu => ?_
  apply wpS_seq
  apply wpS_region
  simp [wpOpsS, go_sem, recoverD, hu, Try.ntmps42, Exit.thenS]
  refine wpS_cond (t := true) (by simp [Act.eval, Array.replicate]) ?_
  simp only [if_true]
  refine wpS_of_wp ?_
  go_wp2
  exact ⟨rfl, _, rfl, .tuple #[], results_none rfl _ _ _, rfl, rfl, gb_set (gb_refl _ _) 0 _, hb.set 0 _⟩
theorem sidleB (p : Addr) (w : World) :
    CallsD Try.prog 42 #[.pointer (some p)] .returning w fun e u' w' => e = .returned (.tuple #[]) ∧ u' = .returning ∧ w' = w := by
  refine callsD_of_wpS Try.func42 rfl fun c₀ cs hu => ?_
  apply wpS_seq
  apply wpS_region
  simp [wpOpsS, go_sem, recoverD, hu, Try.ntmps42, Exit.thenS]
  refine wpS_cond (t := false) (by simp [Act.eval, Array.replicate]) ?_
  simp only [Bool.false_eq_true, if_false]
  refine wpS_of_wp (wp_skip ?_)
  cases c₀
  simp_all [bodyPostS, results, Try.results42]
theorem stryB_yes (g : Nat) (first cap : Array Value) (w : World) (Q : Value → World → Prop)
    (eg : ∀ args w, (callFunc g args).run Try.prog w = .ok (.enter g args) w)
    (hin : Calls Try.prog g (first ++ #[] ++ cap) (ebox w) fun e w' => ∃ x, e = .returned x ∧ (ebox w).grownBy w' none ∧ Q x w') :
    Calls Try.prog 26 #[.func (.func g) first cap] w fun e w' => ∃ x w2, e = .returned (.tuple #[x, .int .i64 0]) ∧ (ebox w).grownBy w2 none ∧ Q x w2 ∧ w' = w2.setCell ⟨w.heap.size, 0, none⟩ (.int .i64 0) := by
  have HI := Lib.hid hin; clear hin
  have hmf := smakeF
  go_enter_defers Try.func26, Try.ntmps26
  go_wp2_with (fail)
  refine HI.out.mono ?_
  rintro e w2 ⟨x, rfl, hg, hq⟩
  have HQ := Lib.hid (And.intro hg hq)
  have hb := (ebox_blk w).grown hg (by simp)
  have c0 := hb.cell (i := 0) rfl
  have f0 := hb.free 0
  have HB := Lib.hid (hb.set 0 (.int .i64 0))
  clear hg hq hb
  go_wp2_with (fail)
  refine leaves_cons (f := 42) (args := #[.pointer (some ⟨w.heap.size, 0, none⟩)]) (by simp) (by simp [go_sem]) ?_
  refine (sidleB _ _).mono ?_
  rintro e u' w'' ⟨rfl, rfl, rfl⟩
  have c1 := HB.out.cell (i := 0) rfl
  simp [Leaves, settle, results, Try.results26, go_sem, loadVar, c1]
  exact ⟨w2, HQ.out.1, HQ.out.2, rfl⟩
theorem stryB_no (g : Nat) (first cap : Array Value) (w : World)
    (eg : ∀ args w, (callFunc g args).run Try.prog w = .ok (.enter g args) w)
    (hin : Calls Try.prog g (first ++ #[] ++ cap) (ebox w) fun e w' => Dies e ∧ (ebox w).grownBy w' none) :
    Calls Try.prog 26 #[.func (.func g) first cap] w fun e w' => e = .returned (.tuple #[.slice none 0 0, .int .i64 4]) ∧ w.grownBy w' none := by
  have HI := Lib.hid hin; clear hin
  have hmf := smakeF
  go_enter_defers Try.func26, Try.ntmps26
  go_wp2_with (fail)
  refine HI.out.mono ?_
  rintro e w2 ⟨⟨u, pv, rfl⟩, hg⟩
  have hb := (ebox_blk w).grown hg (by simp)
  have HQ := Lib.hid hg; clear hg
  refine leaves_cons (f := 42) (args := #[.pointer (some ⟨w.heap.size, 0, none⟩)]) (by simp) (by simp [go_sem]) ?_
  refine (scaughtB w.heap.size _ u pv [] w2 hb).mono ?_
  rintro e u' w'' ⟨rfl, rfl, hg3, hb3⟩
  have c1 := hb3.cell (i := 0) rfl
  simp [Leaves, settle, results, Try.results26, go_sem, loadVar, c1]
  exact gb_then (gb_trans (ebox_gb w) HQ.out) hg3 (Nat.le_refl _)
end Sb
end Go.Proofs.Ytlkiancedgaicaa

/- Join: what sets are, joined. -/
namespace Go.Proofs.Ytlkiancedgaicaa
open Go.RowKit Ow Wi Ve Rc
namespace Sb
theorem join_eq {F l' : List E} (h : alikeB (recs F) = true) (hp : l'.Perm F) (hs : l'.Pairwise (fun a b => lessD b.2 a.2 = false)) : topF (recs (uniG dotR l')) = joinL (recs F) := by
  have e : recs (uniG dotR l') = uniG id (recs l') := uniG_map dotR l'
  rw [e]
  symm
  refine join_is (fun x hx => ((alike_iff _).1 h x hx).1) (fun x => ?_) ?_
  · constructor
    · intro hx; obtain ⟨y, hy, rfl⟩ := List.mem_map.1 hx; exact List.mem_map.2 ⟨y, hp.mem_iff.1 hy, rfl⟩
    · intro hx; obtain ⟨y, hy, rfl⟩ := List.mem_map.1 hx; exact List.mem_map.2 ⟨y, hp.mem_iff.2 hy, rfl⟩
  · exact List.pairwise_map.2 hs
def JoinIn (w : World) (F : List E) (e : Ending) (w' : World) : Prop :=
  (alikeB (recs F) = true ∧ (∃ (v : Value) (out : List E), e = .returned v ∧ recs out = joinL (recs F) ∧ OwnAll w' w.heap.size v out) ∨ alikeB (recs F) = false ∧ Dies e) ∧ w.grownBy w' none
set_option maxHeartbeats 1000000 in
theorem join1_any (m cap B N : Nat) (S : List (List E)) (a : Option Addr) (w : World) (hm : S.length = m) (hS : SRow w B a S) (hm2 : m < 9223372036854775808) (hlen : S.flatten.length ≤ 1000000) (hsz : ∀ x ∈ S.flatten, x.1.n1 ≤ 1000000 ∧ x.1.n2 ≤ 1000000 ∧ x.1.n3 ≤ 1000000) (hN : w.cell? ⟨N, 0, none⟩ = some (.slice a m cap)) :
    Calls Try.prog 18 #[.pointer (some ⟨N, 0, none⟩)] w (JoinIn w S.flatten) := by
  obtain ⟨Q, hQ⟩ : ∃ Q, Q = JoinIn w S.flatten := ⟨_, rfl⟩
  rw [← hQ]
  have HQ := Lib.hid hQ; clear hQ
  have hrec := hS.recs
  have HU := Lib.hid (unite_any m cap B S a w hm hS hm2 hlen)
  have HR := Lib.hid (And.intro hrec (And.intro hsz hlen)); clear hrec hsz hS hm hlen
  generalize S.flatten = F at *
  go_enter Try.func18, Try.ntmps18
  go_wp2_with fail
  refine HU.out.mono ?_
  rintro e w2 ⟨⟨hal, v, l', rfl, hp, hs, ho⟩ | ⟨hal, ⟨u, pv, rfl⟩⟩, hg⟩
  · obtain ⟨hsub, hul⟩ := uniG_sub l' l'.length (Nat.le_refl _)
    rw [List.take_length] at hsub hul
    have hmem : ∀ x ∈ uniG dotR l', x ∈ F := fun x hx => hp.mem_iff.1 (hsub x hx)
    have hll := hp.length_eq
    obtain ⟨au, cu, rfl, _, _, hR2⟩ := own_recs ho (fun x hx => ((HR.out.1 x (hmem x hx)).stay hg).full)
    have hcx : ∀ r ∈ recs (uniG dotR l'), Rt 0 r.cx := fun r hr => by
      obtain ⟨x, hx, rfl⟩ := List.mem_map.1 hr
      exact alike_cx hal x.2 (List.mem_map.2 ⟨x, hmem x hx, rfl⟩)
    have HP := Lib.hid (upper_any w2.heap.size (uniG dotR l').length cu au (uniG dotR l') w2 rfl hR2 (by have := HR.out.2.2; omega) hcx (fun x hx => HR.out.2.1 x (hmem x hx)))
    have HJ := Lib.hid (And.intro hal (And.intro hg (join_eq hal hp hs)))
    clear hsub hul hmem hcx hR2 hal hg hp hs ho hll
    go_wp2_with fail
    refine HP.out.mono ?_
    rintro e w3 ⟨v, out, rfl, hout, hoo, hg3⟩
    have HE : Hid (Q (.returned v) w3) := by
      show Q _ _
      rw [HQ.out]
      exact ⟨Or.inl ⟨HJ.out.1, v, out, rfl, hout.trans HJ.out.2.2, OwnAll.mono hoo HJ.out.2.1.size⟩, gb_trans HJ.out.2.1 hg3⟩
    clear hout hoo hg3
    go_wp2
    exact HE.out
  · exact ⟨rfl, by rw [HQ.out]; exact ⟨Or.inr ⟨hal, ⟨u, pv, rfl⟩⟩, hg⟩⟩
theorem enter_join1 : ∀ args w, (callFunc 18 args).run Try.prog w = .ok (.enter 18 args) w := enters_of Try.func18 (by kernel_rfl) rfl
/-- what Join tells -/
def joinO (l : List R) : List R := if alikeB l then joinL l else []
def JoinedAt (w : World) (F : List E) (e : Ending) (w' : World) : Prop :=
  ∃ (v : Value) (out : List E), e = .returned (.tuple #[v, .int .i64 (errN (alikeB (recs F)) 4)]) ∧ recs out = joinO (recs F) ∧ OwnAll w' w.heap.size v out ∧ w.grownBy w' none
set_option maxHeartbeats 1000000 in
theorem sjoin_any (m cap B : Nat) (S : List (List E)) (a : Option Addr) (w : World) (hm : S.length = m) (hS : SRow w B a S) (hm2 : m < 9223372036854775808) (hlen : S.flatten.length ≤ 1000000) (hsz : ∀ x ∈ S.flatten, x.1.n1 ≤ 1000000 ∧ x.1.n2 ≤ 1000000 ∧ x.1.n3 ≤ 1000000) :
    Calls Try.prog 7 #[.slice a m cap] w (JoinedAt w S.flatten) := by
  obtain ⟨w1, hw1⟩ : ∃ w1, w1 = w.alloc (.cells #[.slice a m cap] 40) := ⟨_, rfl⟩
  obtain ⟨N, hN⟩ : ∃ N, N = w.heap.size := ⟨_, rfl⟩
  have hg1 : w.grownBy w1 none := by rw [hw1]; exact gb_alloc (gb_refl _ _) _
  have hb1 : Blk w1 N 40 [.slice a m cap] := by rw [hw1]; exact blk_at _ _ _ hN.symm
  have hj := join1_any m cap B N S a (ebox w1) hm (hS.stay (gb_trans hg1 (ebox_gb w1))) hm2 hlen hsz ((hb1.grown (ebox_gb w1) (by simp)).cell (i := 0) rfl)
  have hmf := smakeF
  cases hal : alikeB (recs S.flatten) with
  | true =>
    have HT := Lib.hid (stryR_yes 18 #[] #[.pointer (some ⟨N, 0, none⟩)] w1 (fun v w' => ∃ out, recs out = joinL (recs S.flatten) ∧ OwnAll w' (ebox w1).heap.size v out) enter_join1 (hj.mono fun e w' ⟨ho, hg⟩ => by
      rcases ho with ⟨_, v, out, rfl, h1, h2⟩ | ⟨h1, _⟩
      · exact ⟨v, rfl, hg, out, h1, h2⟩
      · rw [hal] at h1; cases h1))
    have HG := Lib.hid hg1; clear hj hg1 hb1 hS hm hlen hsz
    have HE : Hid (∀ (v : Value) (out : List E) (w' : World), recs out = joinL (recs S.flatten) → OwnAll w' w.heap.size v out → w.grownBy w' none → JoinedAt w S.flatten (.returned (.tuple #[v, .int .i64 0])) w') := fun v out w' h1 h2 h3 => ⟨v, out, by rw [hal]; rfl, by unfold joinO; rw [hal]; exact h1, h2, h3⟩
    generalize JoinedAt w S.flatten = Q at *
    clear hal
    go_enter Try.func7, Try.ntmps7
    go_wp2_with fail
    rw [← hw1, ← hN]
    clear hw1 hN
    refine HT.out.mono ?_
    rintro e w' ⟨v, w2, rfl, hg, ⟨out, h1, h2⟩, rfl⟩
    have hes := ebox_size w1
    have hs := gb_set (gb_refl w2 (some w1.heap.size)) 0 (.int .i64 0)
    have HF := Lib.hid (HE.out v out _ h1 (OwnAll.mono (OwnAll.beside h2 hs (by omega)) (by have := HG.out.size; omega)) (gb_then (gb_trans (gb_trans HG.out (ebox_gb w1)) hg) hs HG.out.size))
    clear h1 h2 hg hs hes
    generalize w2.setCell ⟨w1.heap.size, 0, none⟩ (.int .i64 0) = w3 at *
    go_wp2
    exact HF.out
  | false =>
    have HT := Lib.hid (stryR_no 18 #[] #[.pointer (some ⟨N, 0, none⟩)] w1 enter_join1 (hj.mono fun e w' ⟨ho, hg⟩ => by
      rcases ho with ⟨h1, _⟩ | ⟨_, h1⟩
      · rw [hal] at h1; cases h1
      · exact ⟨h1, hg⟩))
    have HG := Lib.hid hg1; clear hj hg1 hb1 hS hm hlen hsz
    have HE : Hid (∀ (w' : World), w.grownBy w' none → JoinedAt w S.flatten (.returned (.tuple #[.slice none 0 0, .int .i64 4])) w') := fun w' h3 => ⟨_, [], by rw [hal]; rfl, by unfold joinO; rw [hal]; rfl, ⟨World.ownsRow_nil _ _ _ _, fun x hx => by cases hx⟩, h3⟩
    generalize JoinedAt w S.flatten = Q at *
    clear hal
    go_enter Try.func7, Try.ntmps7
    go_wp2_with fail
    rw [← hw1, ← hN]
    clear hw1 hN
    refine HT.out.mono ?_
    rintro e w' ⟨rfl, hg⟩
    have HF := Lib.hid (HE.out w' (gb_trans HG.out hg)); clear hg
    go_wp2
    exact HF.out
end Sb
end Go.Proofs.Ytlkiancedgaicaa

/- Right: whether a row is a right set. -/
namespace Go.Proofs.Ytlkiancedgaicaa
open Go.RowKit Ow Wi Ve Rc
namespace Sb
theorem enter_checked : ∀ args w, (callFunc 21 args).run Try.prog w = .ok (.enter 21 args) w := enters_of Try.func21 (by kernel_rfl) rfl
set_option maxHeartbeats 1000000 in
theorem sright_any (B n c : Nat) (a : Option Addr) (l : List E) (w : World) (hn : l.length = n) (h : RRow w B a l) (hc : n ≤ 1000000) :
    Calls Try.prog 9 #[.slice a n c] w fun e w' => e = .returned (.bool (setB (recs l))) ∧ w.grownBy w' none := by
  have hmf := smakeF
  cases hs : setB (recs l) with
  | true =>
    have HT := Lib.hid (stryR_yes 21 #[.slice a n c] #[] w (fun _ _ => True) enter_checked ((checked_any B n c a l (ebox w) hn (h.stay (ebox_gb w)) hc).mono fun e w' ⟨ho, hg⟩ => by
      rcases ho with ⟨_, rfl⟩ | ⟨h1, _⟩
      · exact ⟨_, rfl, hg, trivial⟩
      · rw [hs] at h1; cases h1))
    clear h hs
    go_enter Try.func9, Try.ntmps9
    go_wp2_with fail
    refine HT.out.mono ?_
    rintro e w' ⟨x, w2, rfl, hg, _, rfl⟩
    have HG := Lib.hid (gb_then (gb_trans (ebox_gb w) hg) (gb_set (gb_refl w2 (some w.heap.size)) 0 (.int .i64 0)) (Nat.le_refl _) (row := none)); clear hg
    generalize w2.setCell ⟨w.heap.size, 0, none⟩ (.int .i64 0) = w3 at *
    go_wp2
    go_ret
    exact ⟨rfl, HG.out⟩
  | false =>
    have HT := Lib.hid (stryR_no 21 #[.slice a n c] #[] w enter_checked ((checked_any B n c a l (ebox w) hn (h.stay (ebox_gb w)) hc).mono fun e w' ⟨ho, hg⟩ => by
      rcases ho with ⟨h1, _⟩ | ⟨_, hd⟩
      · rw [hs] at h1; cases h1
      · exact ⟨hd, hg⟩))
    clear h hs
    go_enter Try.func9, Try.ntmps9
    go_wp2_with fail
    refine HT.out.mono ?_
    rintro e w' ⟨rfl, hg⟩
    have HG := Lib.hid hg; clear hg
    go_wp2
    go_ret
    exact ⟨rfl, HG.out⟩
end Sb
end Go.Proofs.Ytlkiancedgaicaa

/- Put of no record: eight noughts. -/
namespace Go.Proofs.Ytlkiancedgaicaa
open Go.RowKit Ow Wi Ve Rc
namespace Sb
set_option maxHeartbeats 1000000 in
theorem bytes_nil (w : World) : Calls Try.prog 28 #[.slice none 0 0] w fun e w' => ∃ v, e = .returned v ∧ w.grownBy w' none ∧ w'.ownsRow w.heap.size 5 1 v 8 ((encN 0).map u8N) := by
  have HN := Lib.hid (number_out 0 w)
  have he : (encN 0).length = 8 := encN_length 0
  have hfl : [encN 0].flatten = encN 0 := by simp
  obtain ⟨Q, hQ⟩ : ∃ Q : Ending → World → Prop, Q = fun e w' => ∃ v, e = .returned v ∧ w.grownBy w' none ∧ w'.ownsRow w.heap.size 5 1 v 8 ((encN 0).map u8N) := ⟨_, rfl⟩
  rw [← hQ]
  have HQ := Lib.hid hQ; clear hQ
  go_enter Try.func28, Try.ntmps28
  go_wp2_with fail
  refine HN.out.mono ?_
  rintro e w1 ⟨a, c, rfl, hg, hb⟩
  rw [he]
  have hr := rows1 he hb
  have hg1 := gb_alloc hg (.cells #[.slice a 8 c] 32)
  have HJ := Lib.hid (join_any 1 1 (w1.heap.size + 1) [encN 0] (some ⟨w1.heap.size, 0, none⟩) (w1.alloc (.cells #[.slice a 8 c] 32)) rfl hr (by decide) (by rw [hfl, he]; omega))
  rw [hfl, he] at HJ
  have HG := Lib.hid hg1; clear hg1 hr hb hg
  go_wp2
  refine wp_loop_rounds 1 ?_
  rw [rounds_succ]
  go_wp2_with fail
  refine HJ.out.mono ?_
  rintro e w2 ⟨v, rfl, hg2, ho⟩
  have HE : Hid (Q (.returned v) w2) := by
    show Q _ _
    rw [HQ.out]
    exact ⟨v, rfl, gb_trans HG.out hg2, own_down ho HG.out.size⟩
  clear hg2 ho
  go_wp2
  exact HE.out
theorem enter_put1 : ∀ args w, (callFunc 27 args).run Try.prog w = .ok (.enter 27 args) w := enters_of Try.func27 (by kernel_rfl) rfl
set_option maxHeartbeats 1000000 in
theorem put1_nil (N : Nat) (w : World) (hN : w.cell? ⟨N, 0, none⟩ = some (.slice none 0 0)) : Calls Try.prog 27 #[.pointer (some ⟨N, 0, none⟩)] w fun e w' => ∃ v, e = .returned v ∧ w.grownBy w' none ∧ w'.ownsRow w.heap.size 5 1 v 8 ((encN 0).map u8N) := by
  have HC := Lib.hid (checked_any w.heap.size 0 0 none [] w rfl (rrow_nil w _ none (Nat.le_refl _)) (by decide))
  have hs : setB (recs []) = true := rfl
  go_enter Try.func27, Try.ntmps27
  go_wp2_with fail
  refine HC.out.mono ?_
  rintro e w1 ⟨⟨_, rfl⟩ | ⟨h1, _⟩, hg⟩
  · have HG := Lib.hid hg; clear hg
    have HB := Lib.hid (bytes_nil w1)
    go_wp2_with fail
    refine HB.out.mono ?_
    rintro e w2 ⟨v, rfl, hg2, ho⟩
    have HE := Lib.hid (And.intro (gb_trans HG.out hg2) (own_down ho HG.out.size)); clear hg2 ho
    go_wp2
    go_ret
    exact ⟨v, rfl, HE.out⟩
  · rw [hs] at h1; cases h1
set_option maxHeartbeats 1000000 in
theorem put_nil (w : World) : Calls Try.prog 14 #[.slice none 0 0] w fun e w' => ∃ v, e = .returned (.tuple #[v, .int .i64 0]) ∧ w.grownBy w' none ∧ w'.ownsRow w.heap.size 5 1 v 8 ((encN 0).map u8N) := by
  have hmf := smakeF
  obtain ⟨w1, hw1⟩ : ∃ w1, w1 = w.alloc (.cells #[.slice none 0 0] 22) := ⟨_, rfl⟩
  obtain ⟨N, hN⟩ : ∃ N, N = w.heap.size := ⟨_, rfl⟩
  have hg1 : w.grownBy w1 none := by rw [hw1]; exact gb_alloc (gb_refl _ _) _
  have hb1 : Blk w1 N 22 [.slice none 0 0] := by rw [hw1]; exact blk_at _ _ _ hN.symm
  have HT := Lib.hid (stryB_yes 27 #[] #[.pointer (some ⟨N, 0, none⟩)] w1 (fun v w' => w'.ownsRow (ebox w1).heap.size 5 1 v 8 ((encN 0).map u8N)) enter_put1 (put1_nil N (ebox w1) ((hb1.grown (ebox_gb w1) (by simp)).cell (i := 0) rfl)))
  have HG := Lib.hid hg1; clear hg1 hb1
  obtain ⟨Q, hQ⟩ : ∃ Q : Ending → World → Prop, Q = fun e w' => ∃ v, e = .returned (.tuple #[v, .int .i64 0]) ∧ w.grownBy w' none ∧ w'.ownsRow w.heap.size 5 1 v 8 ((encN 0).map u8N) := ⟨_, rfl⟩
  rw [← hQ]
  have HQ := Lib.hid hQ; clear hQ
  go_enter Try.func14, Try.ntmps14
  go_wp2_with fail
  rw [← hw1, ← hN]
  clear hw1 hN
  refine HT.out.mono ?_
  rintro e w' ⟨v, w2, rfl, hg, ho, rfl⟩
  have hes := ebox_size w1
  have hs := gb_set (gb_refl w2 (some w1.heap.size)) 0 (.int .i64 0)
  have HF : Hid (Q (.returned (.tuple #[v, .int .i64 0])) (w2.setCell ⟨w1.heap.size, 0, none⟩ (.int .i64 0))) := by
    show Q _ _
    rw [HQ.out]
    exact ⟨v, rfl, gb_then (gb_trans (gb_trans HG.out (ebox_gb w1)) hg) hs HG.out.size, own_down (ho.kept hs (Or.inr fun e => by have := (ho.lt _ e).1; omega)) (by have := HG.out.size; omega)⟩
  clear ho hg hs hes
  generalize w2.setCell ⟨w1.heap.size, 0, none⟩ (.int .i64 0) = w3 at *
  go_wp2
  exact HF.out
end Sb
end Go.Proofs.Ytlkiancedgaicaa

/- The law's own examples. -/
namespace Go.Proofs.Ytlkiancedgaicaa
open Go.RowKit Ow Wi Ve Rc
namespace Sb
abbrev exA : R := ofR 1 1 []
abbrev exB : R := ofR 2 1 []
abbrev exC : R := ofR 2 2 [1, 1, 2, 1]
abbrev exD : R := ofR 1 5 [2, 6]
abbrev exE : R := ofR 2 6 [1, 5]
theorem joinO_is {l p out : List R} (ha : alikeB l = true) (hp : ∀ x, x ∈ p ↔ x ∈ l) (hs : p.Pairwise (fun a b => lessD b a = false)) (ho : topF (uniG id p) = out) : joinO l = out := by
  unfold joinO
  rw [if_pos ha, join_is (fun x hx => ((alike_iff l).1 ha x hx).1) hp hs, ho]
theorem ex_al1 : alikeB [exB, exA, exA] = true := by decide +kernel
theorem ex_al2 : alikeB [exA, exC, exB] = true := by decide +kernel
theorem ex_al3 : alikeB [exD, exE] = true := by decide +kernel
theorem ex_j1 : joinO [exB, exA, exA] = [exA, exB] := joinO_is (p := [exA, exA, exB]) ex_al1 (by intro x; simp only [List.mem_cons, List.not_mem_nil, or_false]; constructor <;> (intro h; rcases h with h | h | h <;> simp [h])) (by decide +kernel) (by decide +kernel)
theorem ex_j2 : joinO [exA, exC, exB] = [exC] := joinO_is (p := [exA, exB, exC]) ex_al2 (by intro x; simp only [List.mem_cons, List.not_mem_nil, or_false]; constructor <;> (intro h; rcases h with h | h | h <;> simp [h])) (by decide +kernel) (by decide +kernel)
theorem ex_j3 : joinO [exD, exE] = [] := joinO_is (p := [exD, exE]) ex_al3 (fun _ => Iff.rfl) (by decide +kernel) (by decide +kernel)
theorem rrow_new (w : World) (T : TypeId) (l : List E) (h : ∀ x ∈ l, RAt w w.heap.size x.1 x.2) : RRow (w.alloc (.cells (recsC l).toArray T)) (w.heap.size + 1) (some ⟨w.heap.size, 0, none⟩) l := by
  refine ⟨by simp, fun x hx => RAt.up (RAt.kept (h x hx) (gb_alloc (gb_refl w none) _) (fun _ e => by cases e)) (by omega) (by simp), ?_⟩
  by_cases h0 : l.length = 0
  · exact Or.inl h0
  · refine Or.inr ⟨w.heap.size, 0, rfl, by omega, fun i hi j v hv => ?_⟩
    have hj : j < 7 := by have := (List.getElem?_eq_some_iff.1 hv).1; rwa [recC_len] at this
    have hB : Blk (w.alloc (.cells (recsC l).toArray T)) w.heap.size T (recsC l) := Blk.new w _ _
    rw [Nat.zero_add]
    exact hB.cell (by rw [recsC_at l i hi j hj]; exact hv)
theorem srow_new (w : World) (B : Nat) (T : TypeId) (L : List (Option Addr × Nat × List E)) (hB : B ≤ w.heap.size) (h : ∀ q ∈ L, RRow w B q.1 q.2.2 ∧ (q.1 = none → q.2.1 = 0)) :
    SRow (w.alloc (.cells (L.map fun q => Value.slice q.1 q.2.2.length q.2.1).toArray T)) (w.heap.size + 1) (some ⟨w.heap.size, 0, none⟩) (L.map (·.2.2)) := by
  refine ⟨by simp, ?_⟩
  by_cases h0 : L.length = 0
  · exact Or.inl (by simpa using h0)
  · refine Or.inr ⟨w.heap.size, 0, rfl, by omega, fun i hi => ?_⟩
    have hi : i < L.length := by simpa using hi
    have hq := h L[i] (List.getElem_mem hi)
    have hB' : Blk (w.alloc (.cells (L.map fun q => Value.slice q.1 q.2.2.length q.2.1).toArray T)) w.heap.size T (L.map fun q => Value.slice q.1 q.2.2.length q.2.1) := Blk.new w _ _
    have e : (L.map (·.2.2)).getD i [] = L[i].2.2 := by rw [List.getD_eq_getElem?_getD, List.getElem?_map, List.getElem?_eq_getElem hi]; rfl
    rw [e]
    refine ⟨L[i].1, L[i].2.1, ?_, (hq.1.stay (gb_alloc (gb_refl w none) _)).up (by omega) (by simp), hq.2⟩
    rw [Nat.zero_add]
    exact hB'.cell (by rw [List.getElem?_map, List.getElem?_eq_getElem hi]; rfl)
/-- Join of rows whose slices have just been laid -/
def JoinRow (w : World) (F : List R) (e : Ending) (w' : World) : Prop :=
  ∃ a c out, e = .returned (.tuple #[.slice a (recs out).length c, .int .i64 (errN (alikeB F) 4)]) ∧ recs out = joinO F ∧ RRow w' w'.heap.size a out ∧ (a = none → c = 0) ∧ out.length < 9223372036854775808 ∧ w.grownBy w' none
theorem join_lits (w : World) (T : TypeId) (q : List (Option Addr × Nat × List E)) (m : Nat) (hm : q.length = m) (hm2 : m ≤ 1000000) (hq : ∀ x ∈ q, RRow w w.heap.size x.1 x.2.2 ∧ (x.1 = none → x.2.1 = 0)) (hlen : (q.map (·.2.2)).flatten.length ≤ 1000000) (hsz : ∀ x ∈ (q.map (·.2.2)).flatten, x.1.n1 ≤ 1000000 ∧ x.1.n2 ≤ 1000000 ∧ x.1.n3 ≤ 1000000) :
    Calls Try.prog 7 #[.slice (some ⟨w.heap.size, 0, none⟩) m m] (w.alloc (.cells (q.map fun q => Value.slice q.1 q.2.2.length q.2.1).toArray T)) (JoinRow w (recs (q.map (·.2.2)).flatten)) :=
  (sjoin_any m m (w.heap.size + 1) (q.map (·.2.2)) (some ⟨w.heap.size, 0, none⟩) _ (by simpa using hm) (srow_new w w.heap.size T q (Nat.le_refl _) hq) (by omega) hlen hsz).mono fun e w' ⟨v, out, he, hr, ho, hg⟩ => by
    obtain ⟨a, c, rfl, hl1, hl2, hrow⟩ := ho.row
    refine ⟨a, c, out, by rw [he, recs_len], hr, hrow, ?_, by unfold maxLen at hl2; omega, gb_trans (gb_alloc (gb_refl _ _) _) hg⟩
    rcases ho.1.2 with ⟨e, _⟩ | ⟨g, c', cur, e, _⟩
    · simp only [Value.slice.injEq] at e
      exact fun _ => e.2.2
    · simp only [Value.slice.injEq] at e
      intro h0; rw [h0] at e; cases e.1
theorem of_a (w : World) : Calls Try.prog 13 #[.int .i64 1, .int .i64 1, .slice none 0 0] w fun e w' => ∃ a1 c1 p, e = .returned (.agg #[.string ⟨#[107]⟩, iV 1, iV 1, .slice a1 0 c1, .bool false, .slice none 0 0, .slice (some ⟨p, 0, none⟩) 64 64]) ∧ RAt w' w'.heap.size (ofE 1 1 [] a1 c1 p).1 (ofR 1 1 []) ∧ w.grownBy w' none :=
  (of_any 1 1 [] 0 0 none w rfl (Or.inl rfl) (by decide)).mono fun _ _ ⟨a, c, p, he, h, hg⟩ => ⟨a, c, p, he, h, hg⟩
theorem of_b (w : World) : Calls Try.prog 13 #[.int .i64 2, .int .i64 1, .slice none 0 0] w fun e w' => ∃ a1 c1 p, e = .returned (.agg #[.string ⟨#[107]⟩, iV 2, iV 1, .slice a1 0 c1, .bool false, .slice none 0 0, .slice (some ⟨p, 0, none⟩) 64 64]) ∧ RAt w' w'.heap.size (ofE 2 1 [] a1 c1 p).1 (ofR 2 1 []) ∧ w.grownBy w' none :=
  (of_any 2 1 [] 0 0 none w rfl (Or.inl rfl) (by decide)).mono fun _ _ ⟨a, c, p, he, h, hg⟩ => ⟨a, c, p, he, h, hg⟩
theorem of_c (w : World) : Calls Try.prog 13 #[.int .i64 2, .int .i64 2, .slice (some ⟨w.heap.size, 0, none⟩) 4 4] (w.alloc (.cells #[iV 1, iV 1, iV 2, iV 1] 3)) fun e w' => ∃ a1 c1 p, e = .returned (.agg #[.string ⟨#[107]⟩, iV 2, iV 2, .slice a1 2 c1, .bool false, .slice none 0 0, .slice (some ⟨p, 0, none⟩) 64 64]) ∧ RAt w' w'.heap.size (ofE 2 2 [1, 1, 2, 1] a1 c1 p).1 (ofR 2 2 [1, 1, 2, 1]) ∧ w.grownBy w' none :=
  (of_any 2 2 [1, 1, 2, 1] 4 4 (some ⟨w.heap.size, 0, none⟩) (w.alloc (.cells #[iV 1, iV 1, iV 2, iV 1] 3)) rfl (Or.inr ⟨w.heap.size, 0, rfl, fun i hi => by
    have hb : Blk (w.alloc (.cells #[iV 1, iV 1, iV 2, iV 1] 3)) w.heap.size 3 [iV 1, iV 1, iV 2, iV 1] := Blk.new w _ _
    rw [Nat.zero_add]
    refine hb.cell ?_
    match i, hi with
    | 0, _ => rfl
    | 1, _ => rfl
    | 2, _ => rfl
    | 3, _ => rfl⟩) (by decide)).mono fun _ _ ⟨a, c, p, he, h, hg⟩ => ⟨a, c, p, he, h, gb_trans (gb_alloc (gb_refl _ _) _) hg⟩
theorem of_d (w : World) : Calls Try.prog 13 #[.int .i64 1, .int .i64 5, .slice (some ⟨w.heap.size, 0, none⟩) 2 2] (w.alloc (.cells #[iV 2, iV 6] 3)) fun e w' => ∃ a1 c1 p, e = .returned (.agg #[.string ⟨#[107]⟩, iV 1, iV 5, .slice a1 1 c1, .bool false, .slice none 0 0, .slice (some ⟨p, 0, none⟩) 64 64]) ∧ RAt w' w'.heap.size (ofE 1 5 [2, 6] a1 c1 p).1 (ofR 1 5 [2, 6]) ∧ w.grownBy w' none :=
  (of_any 1 5 [2, 6] 2 2 (some ⟨w.heap.size, 0, none⟩) (w.alloc (.cells #[iV 2, iV 6] 3)) rfl (Or.inr ⟨w.heap.size, 0, rfl, fun i hi => by
    have hb : Blk (w.alloc (.cells #[iV 2, iV 6] 3)) w.heap.size 3 [iV 2, iV 6] := Blk.new w _ _
    rw [Nat.zero_add]
    refine hb.cell ?_
    match i, hi with
    | 0, _ => rfl
    | 1, _ => rfl⟩) (by decide)).mono fun _ _ ⟨a, c, p, he, h, hg⟩ => ⟨a, c, p, he, h, gb_trans (gb_alloc (gb_refl _ _) _) hg⟩
theorem of_e (w : World) : Calls Try.prog 13 #[.int .i64 2, .int .i64 6, .slice (some ⟨w.heap.size, 0, none⟩) 2 2] (w.alloc (.cells #[iV 1, iV 5] 3)) fun e w' => ∃ a1 c1 p, e = .returned (.agg #[.string ⟨#[107]⟩, iV 2, iV 6, .slice a1 1 c1, .bool false, .slice none 0 0, .slice (some ⟨p, 0, none⟩) 64 64]) ∧ RAt w' w'.heap.size (ofE 2 6 [1, 5] a1 c1 p).1 (ofR 2 6 [1, 5]) ∧ w.grownBy w' none :=
  (of_any 2 6 [1, 5] 2 2 (some ⟨w.heap.size, 0, none⟩) (w.alloc (.cells #[iV 1, iV 5] 3)) rfl (Or.inr ⟨w.heap.size, 0, rfl, fun i hi => by
    have hb : Blk (w.alloc (.cells #[iV 1, iV 5] 3)) w.heap.size 3 [iV 1, iV 5] := Blk.new w _ _
    rw [Nat.zero_add]
    refine hb.cell ?_
    match i, hi with
    | 0, _ => rfl
    | 1, _ => rfl⟩) (by decide)).mono fun _ _ ⟨a, c, p, he, h, hg⟩ => ⟨a, c, p, he, h, gb_trans (gb_alloc (gb_refl _ _) _) hg⟩
set_option linter.unusedSimpArgs false in
set_option maxRecDepth 100000 in
set_option maxHeartbeats 4000000 in
theorem awake9_any (w : World) : Calls Try.prog 5 #[] w fun e w' => e = .returned (.bool true) ∧ w.grownBy w' none := by
  have HA := Lib.hid (of_a w)
  go_enter Try.func5, Try.ntmps5
  go_wp2_with fail
  refine HA.out.mono ?_
  rintro e w1 ⟨a1, c1, p1, rfl, hR1, hg1⟩
  clear HA
  have HB := Lib.hid (of_b w1)
  go_wp2_with fail
  refine HB.out.mono ?_
  rintro e w2 ⟨a2, c2, p2, rfl, hR2, hg2⟩
  clear HB
  have HC := Lib.hid (of_c w2)
  go_wp2_with fail
  refine HC.out.mono ?_
  rintro e w3 ⟨a3, c3, p3, rfl, hR3, hg3⟩
  clear HC
  obtain ⟨W4, hW4⟩ : ∃ W4, W4 = ((w3.alloc (.cells #[.string ⟨#[107]⟩, iV 1, iV 1, .slice a1 0 c1, .bool false, .slice none 0 0, .slice (some ⟨p1, 0, none⟩) 64 64] 34)).alloc (.cells #[.string ⟨#[107]⟩, iV 2, iV 1, .slice a2 0 c2, .bool false, .slice none 0 0, .slice (some ⟨p2, 0, none⟩) 64 64] 34)).alloc (.cells #[.string ⟨#[107]⟩, iV 2, iV 2, .slice a3 2 c3, .bool false, .slice none 0 0, .slice (some ⟨p3, 0, none⟩) 64 64] 34) := ⟨_, rfl⟩
  obtain ⟨N, hN⟩ : ∃ N, N = w3.heap.size := ⟨_, rfl⟩
  have hg4 : w3.grownBy W4 none := by rw [hW4]; exact gb_alloc (gb_alloc (gb_alloc (gb_refl _ _) _) _) _
  have hb1 : Blk W4 N 34 [.string ⟨#[107]⟩, iV 1, iV 1, .slice a1 0 c1, .bool false, .slice none 0 0, .slice (some ⟨p1, 0, none⟩) 64 64] := by rw [hW4, hN]; exact ((Blk.new w3 _ _).alloc _).alloc _
  have hb2 : Blk W4 (N + 1) 34 [.string ⟨#[107]⟩, iV 2, iV 1, .slice a2 0 c2, .bool false, .slice none 0 0, .slice (some ⟨p2, 0, none⟩) 64 64] := by rw [hW4]; refine Blk.alloc (blk_at _ _ _ ?_) _; simp [hN]
  have hb3 : Blk W4 (N + 1 + 1) 34 [.string ⟨#[107]⟩, iV 2, iV 2, .slice a3 2 c3, .bool false, .slice none 0 0, .slice (some ⟨p3, 0, none⟩) 64 64] := by rw [hW4]; refine blk_at _ _ _ ?_; simp [hN]
  have HG4 : Hid (w.grownBy W4 none ∧ (RAt W4 W4.heap.size (ofE 1 1 [] a1 c1 p1).1 exA ∧ RAt W4 W4.heap.size (ofE 2 1 [] a2 c2 p2).1 exB ∧ RAt W4 W4.heap.size (ofE 2 2 [1, 1, 2, 1] a3 c3 p3).1 exC) ∧ Blk W4 N 34 [.string ⟨#[107]⟩, iV 1, iV 1, .slice a1 0 c1, .bool false, .slice none 0 0, .slice (some ⟨p1, 0, none⟩) 64 64] ∧ Blk W4 (N + 1) 34 [.string ⟨#[107]⟩, iV 2, iV 1, .slice a2 0 c2, .bool false, .slice none 0 0, .slice (some ⟨p2, 0, none⟩) 64 64] ∧ Blk W4 (N + 1 + 1) 34 [.string ⟨#[107]⟩, iV 2, iV 2, .slice a3 2 c3, .bool false, .slice none 0 0, .slice (some ⟨p3, 0, none⟩) 64 64]) :=
    ⟨gb_trans hg1 (gb_trans hg2 (gb_trans hg3 hg4)), ⟨(RAt.stay hR1 (gb_trans hg2 (gb_trans hg3 hg4))).full, (RAt.stay hR2 (gb_trans hg3 hg4)).full, (RAt.stay hR3 hg4).full⟩, hb1, hb2, hb3⟩
  clear hR1 hR2 hR3 hg1 hg2 hg3 hg4 hb1 hb2 hb3
  go_upto_region 2 with fail

  rw [← hW4, ← hN]
  clear hW4 hN
  have z0 := ((HG4.out.2.2.2.1).grown (show W4.grownBy W4 none from (gb_refl _ _)) (by simp))
  have z0_0 := z0.cell (i := 0) rfl
  have z0_1 := z0.cell (i := 1) rfl
  have z0_2 := z0.cell (i := 2) rfl
  have z0_3 := z0.cell (i := 3) rfl
  have z0_4 := z0.cell (i := 4) rfl
  have z0_5 := z0.cell (i := 5) rfl
  have z0_6 := z0.cell (i := 6) rfl
  have z1 := ((HG4.out.2.2.1).grown (show W4.grownBy (W4.alloc (.cells #[.string ⟨#[107]⟩, iV 2, iV 1, .slice a2 0 c2, .bool false, .slice none 0 0, .slice (some ⟨p2, 0, none⟩) 64 64] 34)) none from (gb_alloc (gb_refl _ _) _)) (by simp))
  have z1_0 := z1.cell (i := 0) rfl
  have z1_1 := z1.cell (i := 1) rfl
  have z1_2 := z1.cell (i := 2) rfl
  have z1_3 := z1.cell (i := 3) rfl
  have z1_4 := z1.cell (i := 4) rfl
  have z1_5 := z1.cell (i := 5) rfl
  have z1_6 := z1.cell (i := 6) rfl
  obtain ⟨W5, hW5⟩ : ∃ W5, W5 = ((W4.alloc (.cells #[.string ⟨#[107]⟩, iV 2, iV 1, .slice a2 0 c2, .bool false, .slice none 0 0, .slice (some ⟨p2, 0, none⟩) 64 64] 34)).alloc (.cells #[.string ⟨#[107]⟩, iV 1, iV 1, .slice a1 0 c1, .bool false, .slice none 0 0, .slice (some ⟨p1, 0, none⟩) 64 64, .string ⟨#[107]⟩, iV 1, iV 1, .slice a1 0 c1, .bool false, .slice none 0 0, .slice (some ⟨p1, 0, none⟩) 64 64] 34)) := ⟨_, rfl⟩
  have hm0 : ∀ z ∈ ([ofE 2 1 [] a2 c2 p2] : List E), RAt W4 W4.heap.size z.1 z.2 := by
    intro z hz
    simp only [List.mem_cons, List.not_mem_nil, or_false] at hz
    rcases hz with rfl
    · exact (RAt.stay (HG4.out.2.1.2.1) (show W4.grownBy W4 none from (gb_refl _ _))).full
  have hr0 : RRow W5 W5.heap.size (some ⟨W4.heap.size, 0, none⟩) [ofE 2 1 [] a2 c2 p2] := by
    have h0 := rrow_new W4 34 [ofE 2 1 [] a2 c2 p2] hm0
    have h1 := h0.stay (show (W4.alloc (.cells (recsC [ofE 2 1 [] a2 c2 p2]).toArray 34)).grownBy W5 none from by rw [hW5]; exact (gb_alloc (gb_refl _ _) _))
    exact h1.full
  have hm1 : ∀ z ∈ ([ofE 1 1 [] a1 c1 p1, ofE 1 1 [] a1 c1 p1] : List E), RAt (W4.alloc (.cells #[.string ⟨#[107]⟩, iV 2, iV 1, .slice a2 0 c2, .bool false, .slice none 0 0, .slice (some ⟨p2, 0, none⟩) 64 64] 34)) (W4.alloc (.cells #[.string ⟨#[107]⟩, iV 2, iV 1, .slice a2 0 c2, .bool false, .slice none 0 0, .slice (some ⟨p2, 0, none⟩) 64 64] 34)).heap.size z.1 z.2 := by
    intro z hz
    simp only [List.mem_cons, List.not_mem_nil, or_false] at hz
    rcases hz with rfl | rfl
    · exact (RAt.stay (HG4.out.2.1.1) (show W4.grownBy (W4.alloc (.cells #[.string ⟨#[107]⟩, iV 2, iV 1, .slice a2 0 c2, .bool false, .slice none 0 0, .slice (some ⟨p2, 0, none⟩) 64 64] 34)) none from (gb_alloc (gb_refl _ _) _))).full
    · exact (RAt.stay (HG4.out.2.1.1) (show W4.grownBy (W4.alloc (.cells #[.string ⟨#[107]⟩, iV 2, iV 1, .slice a2 0 c2, .bool false, .slice none 0 0, .slice (some ⟨p2, 0, none⟩) 64 64] 34)) none from (gb_alloc (gb_refl _ _) _))).full
  have hr1 : RRow W5 W5.heap.size (some ⟨W4.heap.size + 1, 0, none⟩) [ofE 1 1 [] a1 c1 p1, ofE 1 1 [] a1 c1 p1] := by
    have h0 := rrow_new (W4.alloc (.cells #[.string ⟨#[107]⟩, iV 2, iV 1, .slice a2 0 c2, .bool false, .slice none 0 0, .slice (some ⟨p2, 0, none⟩) 64 64] 34)) 34 [ofE 1 1 [] a1 c1 p1, ofE 1 1 [] a1 c1 p1] hm1
    simp only [World.size_alloc] at h0
    have h1 := h0.stay (show ((W4.alloc (.cells #[.string ⟨#[107]⟩, iV 2, iV 1, .slice a2 0 c2, .bool false, .slice none 0 0, .slice (some ⟨p2, 0, none⟩) 64 64] 34)).alloc (.cells (recsC [ofE 1 1 [] a1 c1 p1, ofE 1 1 [] a1 c1 p1]).toArray 34)).grownBy W5 none from by rw [hW5]; exact (gb_refl _ _))
    exact h1.full
  have hgW5 : W4.grownBy W5 none := by rw [hW5]; exact (gb_alloc (gb_alloc (gb_refl _ _) _) _)
  have hsW5 : W5.heap.size = W4.heap.size + 1 + 1 := by rw [hW5]; simp
  have HJ : Hid (Calls Try.prog 7 #[.slice (some ⟨W4.heap.size + 1 + 1, 0, none⟩) 2 2] (W5.alloc (.cells #[.slice (some ⟨W4.heap.size, 0, none⟩) 1 1, .slice (some ⟨W4.heap.size + 1, 0, none⟩) 2 2] 22)) fun e w' => ∃ a c out, e = .returned (.tuple #[.slice a 2 c, .int .i64 0]) ∧ recs out = [exA, exB] ∧ RRow w' w'.heap.size a out ∧ W5.grownBy w' none) := by
    have h := join_lits W5 22 [(some ⟨W4.heap.size, 0, none⟩, 1, [ofE 2 1 [] a2 c2 p2]), (some ⟨W4.heap.size + 1, 0, none⟩, 2, [ofE 1 1 [] a1 c1 p1, ofE 1 1 [] a1 c1 p1])] 2 rfl (by decide) (by
      intro x hx; simp only [List.mem_cons, List.not_mem_nil, or_false] at hx
      rcases hx with rfl | rfl
      · exact ⟨hr0, fun e => by cases e⟩
      · exact ⟨hr1, fun e => by cases e⟩) (by show 3 ≤ 1000000; decide) (by
      intro x hx; simp only [List.map_cons, List.map_nil, List.flatten_cons, List.flatten_nil, List.append_nil, List.cons_append, List.nil_append, List.mem_cons, List.not_mem_nil, or_false] at hx
      rcases hx with rfl | rfl | rfl <;> (refine ⟨?_, ?_, ?_⟩ <;> simp [ofE]))
    rw [hsW5] at h
    exact h.mono fun e w' ⟨a, c, out, he, hr, hrow, hz, hs, hg⟩ => ⟨a, c, out, by have e1 : recs out = [exA, exB] := hr.trans ex_j1; rw [he, e1]; show Ending.returned (.tuple #[.slice a [exA, exB].length c, .int .i64 (errN (alikeB [exB, exA, exA]) 4)]) = _; rw [ex_al1]; rfl, hr.trans ex_j1, hrow, hg⟩
  have HGW5 := Lib.hid hgW5
  clear hgW5 hsW5 hr0 hm0 hr1 hm1
  go_wp2_with fail
  rw [← hW5]
  clear hW5
  refine HJ.out.mono ?_
  rintro e w6 ⟨aj, cj, out1, rfl, hro1, hrow1, hg6⟩
  clear HJ z0_0 z0_1 z0_2 z0_3 z0_4 z0_5 z0_6 z0 z1_0 z1_1 z1_2 z1_3 z1_4 z1_5 z1_6 z1
  have HG6 : Hid (w.grownBy w6 none ∧ (RAt w6 w6.heap.size (ofE 1 1 [] a1 c1 p1).1 exA ∧ RAt w6 w6.heap.size (ofE 2 1 [] a2 c2 p2).1 exB ∧ RAt w6 w6.heap.size (ofE 2 2 [1, 1, 2, 1] a3 c3 p3).1 exC) ∧ Blk w6 N 34 [.string ⟨#[107]⟩, iV 1, iV 1, .slice a1 0 c1, .bool false, .slice none 0 0, .slice (some ⟨p1, 0, none⟩) 64 64] ∧ Blk w6 (N + 1) 34 [.string ⟨#[107]⟩, iV 2, iV 1, .slice a2 0 c2, .bool false, .slice none 0 0, .slice (some ⟨p2, 0, none⟩) 64 64] ∧ Blk w6 (N + 1 + 1) 34 [.string ⟨#[107]⟩, iV 2, iV 2, .slice a3 2 c3, .bool false, .slice none 0 0, .slice (some ⟨p3, 0, none⟩) 64 64] ∧ RRow w6 w6.heap.size aj out1 ∧ recs out1 = [exA, exB]) :=
    ⟨gb_trans HG4.out.1 (gb_trans HGW5.out hg6), ⟨(RAt.stay HG4.out.2.1.1 (gb_trans HGW5.out hg6)).full, (RAt.stay HG4.out.2.1.2.1 (gb_trans HGW5.out hg6)).full, (RAt.stay HG4.out.2.1.2.2 (gb_trans HGW5.out hg6)).full⟩, HG4.out.2.2.1.grown (gb_trans HGW5.out hg6) (by simp), HG4.out.2.2.2.1.grown (gb_trans HGW5.out hg6) (by simp), HG4.out.2.2.2.2.grown (gb_trans HGW5.out hg6) (by simp), hrow1, hro1⟩
  clear HG4 HGW5 hg6 hrow1 hro1
  go_upto_region 3 with fail
  have z0 := ((HG6.out.2.2.1).grown (show w6.grownBy w6 none from (gb_refl _ _)) (by simp))
  have z0_0 := z0.cell (i := 0) rfl
  have z0_1 := z0.cell (i := 1) rfl
  have z0_2 := z0.cell (i := 2) rfl
  have z0_3 := z0.cell (i := 3) rfl
  have z0_4 := z0.cell (i := 4) rfl
  have z0_5 := z0.cell (i := 5) rfl
  have z0_6 := z0.cell (i := 6) rfl
  have z1 := ((HG6.out.2.2.2.2.1).grown (show w6.grownBy w6 none from (gb_refl _ _)) (by simp))
  have z1_0 := z1.cell (i := 0) rfl
  have z1_1 := z1.cell (i := 1) rfl
  have z1_2 := z1.cell (i := 2) rfl
  have z1_3 := z1.cell (i := 3) rfl
  have z1_4 := z1.cell (i := 4) rfl
  have z1_5 := z1.cell (i := 5) rfl
  have z1_6 := z1.cell (i := 6) rfl
  have z2 := ((HG6.out.2.2.2.1).grown (show w6.grownBy (w6.alloc (.cells #[.string ⟨#[107]⟩, iV 1, iV 1, .slice a1 0 c1, .bool false, .slice none 0 0, .slice (some ⟨p1, 0, none⟩) 64 64, .string ⟨#[107]⟩, iV 2, iV 2, .slice a3 2 c3, .bool false, .slice none 0 0, .slice (some ⟨p3, 0, none⟩) 64 64] 34)) none from (gb_alloc (gb_refl _ _) _)) (by simp))
  have z2_0 := z2.cell (i := 0) rfl
  have z2_1 := z2.cell (i := 1) rfl
  have z2_2 := z2.cell (i := 2) rfl
  have z2_3 := z2.cell (i := 3) rfl
  have z2_4 := z2.cell (i := 4) rfl
  have z2_5 := z2.cell (i := 5) rfl
  have z2_6 := z2.cell (i := 6) rfl
  obtain ⟨W7, hW7⟩ : ∃ W7, W7 = ((w6.alloc (.cells #[.string ⟨#[107]⟩, iV 1, iV 1, .slice a1 0 c1, .bool false, .slice none 0 0, .slice (some ⟨p1, 0, none⟩) 64 64, .string ⟨#[107]⟩, iV 2, iV 2, .slice a3 2 c3, .bool false, .slice none 0 0, .slice (some ⟨p3, 0, none⟩) 64 64] 34)).alloc (.cells #[.string ⟨#[107]⟩, iV 2, iV 1, .slice a2 0 c2, .bool false, .slice none 0 0, .slice (some ⟨p2, 0, none⟩) 64 64] 34)) := ⟨_, rfl⟩
  have hm0 : ∀ z ∈ ([ofE 1 1 [] a1 c1 p1, ofE 2 2 [1, 1, 2, 1] a3 c3 p3] : List E), RAt w6 w6.heap.size z.1 z.2 := by
    intro z hz
    simp only [List.mem_cons, List.not_mem_nil, or_false] at hz
    rcases hz with rfl | rfl
    · exact (RAt.stay (HG6.out.2.1.1) (show w6.grownBy w6 none from (gb_refl _ _))).full
    · exact (RAt.stay (HG6.out.2.1.2.2) (show w6.grownBy w6 none from (gb_refl _ _))).full
  have hr0 : RRow W7 W7.heap.size (some ⟨w6.heap.size, 0, none⟩) [ofE 1 1 [] a1 c1 p1, ofE 2 2 [1, 1, 2, 1] a3 c3 p3] := by
    have h0 := rrow_new w6 34 [ofE 1 1 [] a1 c1 p1, ofE 2 2 [1, 1, 2, 1] a3 c3 p3] hm0
    have h1 := h0.stay (show (w6.alloc (.cells (recsC [ofE 1 1 [] a1 c1 p1, ofE 2 2 [1, 1, 2, 1] a3 c3 p3]).toArray 34)).grownBy W7 none from by rw [hW7]; exact (gb_alloc (gb_refl _ _) _))
    exact h1.full
  have hm1 : ∀ z ∈ ([ofE 2 1 [] a2 c2 p2] : List E), RAt (w6.alloc (.cells #[.string ⟨#[107]⟩, iV 1, iV 1, .slice a1 0 c1, .bool false, .slice none 0 0, .slice (some ⟨p1, 0, none⟩) 64 64, .string ⟨#[107]⟩, iV 2, iV 2, .slice a3 2 c3, .bool false, .slice none 0 0, .slice (some ⟨p3, 0, none⟩) 64 64] 34)) (w6.alloc (.cells #[.string ⟨#[107]⟩, iV 1, iV 1, .slice a1 0 c1, .bool false, .slice none 0 0, .slice (some ⟨p1, 0, none⟩) 64 64, .string ⟨#[107]⟩, iV 2, iV 2, .slice a3 2 c3, .bool false, .slice none 0 0, .slice (some ⟨p3, 0, none⟩) 64 64] 34)).heap.size z.1 z.2 := by
    intro z hz
    simp only [List.mem_cons, List.not_mem_nil, or_false] at hz
    rcases hz with rfl
    · exact (RAt.stay (HG6.out.2.1.2.1) (show w6.grownBy (w6.alloc (.cells #[.string ⟨#[107]⟩, iV 1, iV 1, .slice a1 0 c1, .bool false, .slice none 0 0, .slice (some ⟨p1, 0, none⟩) 64 64, .string ⟨#[107]⟩, iV 2, iV 2, .slice a3 2 c3, .bool false, .slice none 0 0, .slice (some ⟨p3, 0, none⟩) 64 64] 34)) none from (gb_alloc (gb_refl _ _) _))).full
  have hr1 : RRow W7 W7.heap.size (some ⟨w6.heap.size + 1, 0, none⟩) [ofE 2 1 [] a2 c2 p2] := by
    have h0 := rrow_new (w6.alloc (.cells #[.string ⟨#[107]⟩, iV 1, iV 1, .slice a1 0 c1, .bool false, .slice none 0 0, .slice (some ⟨p1, 0, none⟩) 64 64, .string ⟨#[107]⟩, iV 2, iV 2, .slice a3 2 c3, .bool false, .slice none 0 0, .slice (some ⟨p3, 0, none⟩) 64 64] 34)) 34 [ofE 2 1 [] a2 c2 p2] hm1
    simp only [World.size_alloc] at h0
    have h1 := h0.stay (show ((w6.alloc (.cells #[.string ⟨#[107]⟩, iV 1, iV 1, .slice a1 0 c1, .bool false, .slice none 0 0, .slice (some ⟨p1, 0, none⟩) 64 64, .string ⟨#[107]⟩, iV 2, iV 2, .slice a3 2 c3, .bool false, .slice none 0 0, .slice (some ⟨p3, 0, none⟩) 64 64] 34)).alloc (.cells (recsC [ofE 2 1 [] a2 c2 p2]).toArray 34)).grownBy W7 none from by rw [hW7]; exact (gb_refl _ _))
    exact h1.full
  have hgW7 : w6.grownBy W7 none := by rw [hW7]; exact (gb_alloc (gb_alloc (gb_refl _ _) _) _)
  have hsW7 : W7.heap.size = w6.heap.size + 1 + 1 := by rw [hW7]; simp
  have HJ : Hid (Calls Try.prog 7 #[.slice (some ⟨w6.heap.size + 1 + 1, 0, none⟩) 2 2] (W7.alloc (.cells #[.slice (some ⟨w6.heap.size, 0, none⟩) 2 2, .slice (some ⟨w6.heap.size + 1, 0, none⟩) 1 1] 22)) fun e w' => ∃ a c out, e = .returned (.tuple #[.slice a 1 c, .int .i64 0]) ∧ recs out = [exC] ∧ RRow w' w'.heap.size a out ∧ W7.grownBy w' none) := by
    have h := join_lits W7 22 [(some ⟨w6.heap.size, 0, none⟩, 2, [ofE 1 1 [] a1 c1 p1, ofE 2 2 [1, 1, 2, 1] a3 c3 p3]), (some ⟨w6.heap.size + 1, 0, none⟩, 1, [ofE 2 1 [] a2 c2 p2])] 2 rfl (by decide) (by
      intro x hx; simp only [List.mem_cons, List.not_mem_nil, or_false] at hx
      rcases hx with rfl | rfl
      · exact ⟨hr0, fun e => by cases e⟩
      · exact ⟨hr1, fun e => by cases e⟩) (by show 3 ≤ 1000000; decide) (by
      intro x hx; simp only [List.map_cons, List.map_nil, List.flatten_cons, List.flatten_nil, List.append_nil, List.cons_append, List.nil_append, List.mem_cons, List.not_mem_nil, or_false] at hx
      rcases hx with rfl | rfl | rfl <;> (refine ⟨?_, ?_, ?_⟩ <;> simp [ofE]))
    rw [hsW7] at h
    exact h.mono fun e w' ⟨a, c, out, he, hr, hrow, hz, hs, hg⟩ => ⟨a, c, out, by have e1 : recs out = [exC] := hr.trans ex_j2; rw [he, e1]; show Ending.returned (.tuple #[.slice a [exC].length c, .int .i64 (errN (alikeB [exA, exC, exB]) 4)]) = _; rw [ex_al2]; rfl, hr.trans ex_j2, hrow, hg⟩
  have HGW7 := Lib.hid hgW7
  clear hgW7 hsW7 hr0 hm0 hr1 hm1
  go_wp2_with fail
  rw [← hW7]
  clear hW7
  refine HJ.out.mono ?_
  rintro e w8 ⟨ak, ck, out2, rfl, hro2, hrow2, hg8⟩
  clear HJ z0_0 z0_1 z0_2 z0_3 z0_4 z0_5 z0_6 z0 z1_0 z1_1 z1_2 z1_3 z1_4 z1_5 z1_6 z1 z2_0 z2_1 z2_2 z2_3 z2_4 z2_5 z2_6 z2
  have HG8 : Hid (w.grownBy w8 none ∧ (RAt w8 w8.heap.size (ofE 1 1 [] a1 c1 p1).1 exA ∧ RAt w8 w8.heap.size (ofE 2 1 [] a2 c2 p2).1 exB ∧ RAt w8 w8.heap.size (ofE 2 2 [1, 1, 2, 1] a3 c3 p3).1 exC) ∧ Blk w8 N 34 [.string ⟨#[107]⟩, iV 1, iV 1, .slice a1 0 c1, .bool false, .slice none 0 0, .slice (some ⟨p1, 0, none⟩) 64 64] ∧ Blk w8 (N + 1) 34 [.string ⟨#[107]⟩, iV 2, iV 1, .slice a2 0 c2, .bool false, .slice none 0 0, .slice (some ⟨p2, 0, none⟩) 64 64] ∧ Blk w8 (N + 1 + 1) 34 [.string ⟨#[107]⟩, iV 2, iV 2, .slice a3 2 c3, .bool false, .slice none 0 0, .slice (some ⟨p3, 0, none⟩) 64 64] ∧ RRow w8 w8.heap.size aj out1 ∧ recs out1 = [exA, exB] ∧ RRow w8 w8.heap.size ak out2 ∧ recs out2 = [exC]) :=
    ⟨gb_trans HG6.out.1 (gb_trans HGW7.out hg8), ⟨(RAt.stay HG6.out.2.1.1 (gb_trans HGW7.out hg8)).full, (RAt.stay HG6.out.2.1.2.1 (gb_trans HGW7.out hg8)).full, (RAt.stay HG6.out.2.1.2.2 (gb_trans HGW7.out hg8)).full⟩, HG6.out.2.2.1.grown (gb_trans HGW7.out hg8) (by simp), HG6.out.2.2.2.1.grown (gb_trans HGW7.out hg8) (by simp), HG6.out.2.2.2.2.1.grown (gb_trans HGW7.out hg8) (by simp), (HG6.out.2.2.2.2.2.1.stay (gb_trans HGW7.out hg8)).full, HG6.out.2.2.2.2.2.2, hrow2, hro2⟩
  clear HG6 HGW7 hg8 hrow2 hro2
  have HD := Lib.hid (of_d w8)
  go_wp2_with fail
  refine HD.out.mono ?_
  rintro e w9 ⟨a4, c4, p4, rfl, hR4, hg9⟩
  clear HD
  have HE := Lib.hid (of_e w9)
  go_wp2_with fail
  refine HE.out.mono ?_
  rintro e w10 ⟨a5, c5, p5, rfl, hR5, hg10⟩
  clear HE
  have HR5 := Lib.hid (And.intro (RAt.stay hR4 hg10).full hR5)
  have HGT := Lib.hid (gb_trans hg9 hg10)
  clear hR4 hR5 hg9 hg10
  obtain ⟨W11, hW11⟩ : ∃ W11, W11 = (w10.alloc (.cells #[.string ⟨#[107]⟩, iV 1, iV 5, .slice a4 1 c4, .bool false, .slice none 0 0, .slice (some ⟨p4, 0, none⟩) 64 64, .string ⟨#[107]⟩, iV 2, iV 6, .slice a5 1 c5, .bool false, .slice none 0 0, .slice (some ⟨p5, 0, none⟩) 64 64] 34)) := ⟨_, rfl⟩
  have hm0 : ∀ z ∈ ([ofE 1 5 [2, 6] a4 c4 p4, ofE 2 6 [1, 5] a5 c5 p5] : List E), RAt w10 w10.heap.size z.1 z.2 := by
    intro z hz
    simp only [List.mem_cons, List.not_mem_nil, or_false] at hz
    rcases hz with rfl | rfl
    · exact (RAt.stay (HR5.out.1) (show w10.grownBy w10 none from (gb_refl _ _))).full
    · exact (RAt.stay (HR5.out.2) (show w10.grownBy w10 none from (gb_refl _ _))).full
  have hr0 : RRow W11 W11.heap.size (some ⟨w10.heap.size, 0, none⟩) [ofE 1 5 [2, 6] a4 c4 p4, ofE 2 6 [1, 5] a5 c5 p5] := by
    have h0 := rrow_new w10 34 [ofE 1 5 [2, 6] a4 c4 p4, ofE 2 6 [1, 5] a5 c5 p5] hm0
    have h1 := h0.stay (show (w10.alloc (.cells (recsC [ofE 1 5 [2, 6] a4 c4 p4, ofE 2 6 [1, 5] a5 c5 p5]).toArray 34)).grownBy W11 none from by rw [hW11]; exact (gb_refl _ _))
    exact h1.full
  have hgW11 : w10.grownBy W11 none := by rw [hW11]; exact (gb_alloc (gb_refl _ _) _)
  have hsW11 : W11.heap.size = w10.heap.size + 1 := by rw [hW11]; simp
  have HJ : Hid (Calls Try.prog 7 #[.slice (some ⟨w10.heap.size + 1, 0, none⟩) 1 1] (W11.alloc (.cells #[.slice (some ⟨w10.heap.size, 0, none⟩) 2 2] 22)) fun e w' => ∃ a c out, e = .returned (.tuple #[.slice a 0 c, .int .i64 0]) ∧ recs out = [] ∧ RRow w' w'.heap.size a out ∧ W11.grownBy w' none) := by
    have h := join_lits W11 22 [(some ⟨w10.heap.size, 0, none⟩, 2, [ofE 1 5 [2, 6] a4 c4 p4, ofE 2 6 [1, 5] a5 c5 p5])] 1 rfl (by decide) (by
      intro x hx; simp only [List.mem_cons, List.not_mem_nil, or_false] at hx
      rcases hx with rfl
      · exact ⟨hr0, fun e => by cases e⟩) (by show 2 ≤ 1000000; decide) (by
      intro x hx; simp only [List.map_cons, List.map_nil, List.flatten_cons, List.flatten_nil, List.append_nil, List.cons_append, List.nil_append, List.mem_cons, List.not_mem_nil, or_false] at hx
      rcases hx with rfl | rfl <;> (refine ⟨?_, ?_, ?_⟩ <;> simp [ofE]))
    rw [hsW11] at h
    exact h.mono fun e w' ⟨a, c, out, he, hr, hrow, hz, hs, hg⟩ => ⟨a, c, out, by have e1 : recs out = [] := hr.trans ex_j3; rw [he, e1]; show Ending.returned (.tuple #[.slice a [].length c, .int .i64 (errN (alikeB [exD, exE]) 4)]) = _; rw [ex_al3]; rfl, hr.trans ex_j3, hrow, hg⟩
  have HGW11 := Lib.hid hgW11
  clear hgW11 hsW11 hr0 hm0
  go_wp2_with fail
  rw [← hW11]
  clear hW11
  refine HJ.out.mono ?_
  rintro e w12 ⟨al, cl, out3, rfl, hro3, hrow3, hg12⟩
  have HG12 := Lib.hid (gb_trans HGT.out (gb_trans HGW11.out hg12))
  clear HJ hrow3 hg12 HGT HGW11 HR5
  have HP := Lib.hid (put_nil w12)
  go_wp2_with fail
  refine HP.out.mono ?_
  rintro e w13 ⟨vp, rfl, hg13, ho13⟩
  obtain ⟨ap, cp, rfl, hbp⟩ : ∃ ap cp, vp = .slice ap 8 cp ∧ BytesAt w13 w13.heap.size ap cp (encN 0) := by
    obtain ⟨a, c, e, _, hb, _⟩ := own_slice ho13 (encN_byte 0)
    exact ⟨a, c, e, hb⟩
  have hg := gb_trans HG12.out hg13
  have HG13 : Hid (w.grownBy w13 none ∧ (RAt w13 w13.heap.size (ofE 1 1 [] a1 c1 p1).1 exA ∧ RAt w13 w13.heap.size (ofE 2 1 [] a2 c2 p2).1 exB ∧ RAt w13 w13.heap.size (ofE 2 2 [1, 1, 2, 1] a3 c3 p3).1 exC) ∧ Blk w13 N 34 [.string ⟨#[107]⟩, iV 1, iV 1, .slice a1 0 c1, .bool false, .slice none 0 0, .slice (some ⟨p1, 0, none⟩) 64 64] ∧ Blk w13 (N + 1) 34 [.string ⟨#[107]⟩, iV 2, iV 1, .slice a2 0 c2, .bool false, .slice none 0 0, .slice (some ⟨p2, 0, none⟩) 64 64] ∧ Blk w13 (N + 1 + 1) 34 [.string ⟨#[107]⟩, iV 2, iV 2, .slice a3 2 c3, .bool false, .slice none 0 0, .slice (some ⟨p3, 0, none⟩) 64 64] ∧ RRow w13 w13.heap.size aj out1 ∧ recs out1 = [exA, exB] ∧ RRow w13 w13.heap.size ak out2 ∧ recs out2 = [exC] ∧ BytesAt w13 w13.heap.size ap cp (encN 0)) :=
    ⟨gb_trans HG8.out.1 (hg), ⟨(RAt.stay HG8.out.2.1.1 (hg)).full, (RAt.stay HG8.out.2.1.2.1 (hg)).full, (RAt.stay HG8.out.2.1.2.2 (hg)).full⟩, HG8.out.2.2.1.grown (hg) (by simp), HG8.out.2.2.2.1.grown (hg) (by simp), HG8.out.2.2.2.2.1.grown (hg) (by simp), (HG8.out.2.2.2.2.2.1.stay hg).full, HG8.out.2.2.2.2.2.2.1, (HG8.out.2.2.2.2.2.2.2.1.stay hg).full, HG8.out.2.2.2.2.2.2.2.2, hbp⟩
  clear hg hg13 ho13 hbp HG8 HG12 HP
  obtain ⟨W14, hW14⟩ : ∃ W14, W14 = w13.alloc (.cells #[.string ⟨#[107]⟩, iV 1, iV 1, .slice a1 0 c1, .bool false, .slice none 0 0, .slice (some ⟨p1, 0, none⟩) 64 64, .string ⟨#[107]⟩, iV 2, iV 1, .slice a2 0 c2, .bool false, .slice none 0 0, .slice (some ⟨p2, 0, none⟩) 64 64] 34) := ⟨_, rfl⟩
  have hgW14 : w13.grownBy W14 none := by rw [hW14]; exact gb_alloc (gb_refl _ _) _
  have hm : ∀ z ∈ ([ofE 1 1 [] a1 c1 p1, ofE 2 1 [] a2 c2 p2] : List E), RAt w13 w13.heap.size z.1 z.2 := by
    intro z hz
    simp only [List.mem_cons, List.not_mem_nil, or_false] at hz
    rcases hz with rfl | rfl
    · exact HG13.out.2.1.1
    · exact HG13.out.2.1.2.1
  have hr : RRow W14 (w13.heap.size + 1) (some ⟨w13.heap.size, 0, none⟩) [ofE 1 1 [] a1 c1 p1, ofE 2 1 [] a2 c2 p2] := by
    rw [hW14]
    exact rrow_new w13 34 [ofE 1 1 [] a1 c1 p1, ofE 2 1 [] a2 c2 p2] hm
  have HS := Lib.hid (sameRecs_any w13.heap.size (w13.heap.size + 1) 2 2 cj 2 aj (some ⟨w13.heap.size, 0, none⟩) out1 [ofE 1 1 [] a1 c1 p1, ofE 2 1 [] a2 c2 p2] W14 (by have h := congrArg List.length (HG13.out.2.2.2.2.2.2.1); rw [recs_len] at h; exact h) rfl ((HG13.out.2.2.2.2.2.1).stay hgW14) hr (by decide))
  have HT : Hid (sameL (recs out1) (recs [ofE 1 1 [] a1 c1 p1, ofE 2 1 [] a2 c2 p2]) = true) := by
    show sameL _ _ = true
    rw [HG13.out.2.2.2.2.2.2.1]
    exact decide_eq_true rfl
  have HGW14 := Lib.hid hgW14
  have z0_0 := (HG13.out.2.2.1).cell (i := 0) rfl
  have z0_1 := (HG13.out.2.2.1).cell (i := 1) rfl
  have z0_2 := (HG13.out.2.2.1).cell (i := 2) rfl
  have z0_3 := (HG13.out.2.2.1).cell (i := 3) rfl
  have z0_4 := (HG13.out.2.2.1).cell (i := 4) rfl
  have z0_5 := (HG13.out.2.2.1).cell (i := 5) rfl
  have z0_6 := (HG13.out.2.2.1).cell (i := 6) rfl
  have z1_0 := (HG13.out.2.2.2.1).cell (i := 0) rfl
  have z1_1 := (HG13.out.2.2.2.1).cell (i := 1) rfl
  have z1_2 := (HG13.out.2.2.2.1).cell (i := 2) rfl
  have z1_3 := (HG13.out.2.2.2.1).cell (i := 3) rfl
  have z1_4 := (HG13.out.2.2.2.1).cell (i := 4) rfl
  have z1_5 := (HG13.out.2.2.2.1).cell (i := 5) rfl
  have z1_6 := (HG13.out.2.2.2.1).cell (i := 6) rfl
  clear hgW14 hm hr
  have h8 : encN 0 = List.replicate 8 0 := by decide +kernel
  go_wp2_with fail
  rw [← hW14]
  clear hW14
  refine HS.out.mono ?_
  rintro e w15 ⟨rfl, hg15⟩
  rw [HT.out]
  have hg := gb_trans HGW14.out hg15
  clear HS HT z0_0 z0_1 z0_2 z0_3 z0_4 z0_5 z0_6 z1_0 z1_1 z1_2 z1_3 z1_4 z1_5 z1_6
  have HG15 : Hid (w.grownBy w15 none ∧ (RAt w15 w15.heap.size (ofE 1 1 [] a1 c1 p1).1 exA ∧ RAt w15 w15.heap.size (ofE 2 1 [] a2 c2 p2).1 exB ∧ RAt w15 w15.heap.size (ofE 2 2 [1, 1, 2, 1] a3 c3 p3).1 exC) ∧ Blk w15 N 34 [.string ⟨#[107]⟩, iV 1, iV 1, .slice a1 0 c1, .bool false, .slice none 0 0, .slice (some ⟨p1, 0, none⟩) 64 64] ∧ Blk w15 (N + 1) 34 [.string ⟨#[107]⟩, iV 2, iV 1, .slice a2 0 c2, .bool false, .slice none 0 0, .slice (some ⟨p2, 0, none⟩) 64 64] ∧ Blk w15 (N + 1 + 1) 34 [.string ⟨#[107]⟩, iV 2, iV 2, .slice a3 2 c3, .bool false, .slice none 0 0, .slice (some ⟨p3, 0, none⟩) 64 64] ∧ RRow w15 w15.heap.size ak out2 ∧ recs out2 = [exC] ∧ BytesAt w15 w15.heap.size ap cp (encN 0)) :=
    ⟨gb_trans HG13.out.1 (hg), ⟨(RAt.stay HG13.out.2.1.1 (hg)).full, (RAt.stay HG13.out.2.1.2.1 (hg)).full, (RAt.stay HG13.out.2.1.2.2 (hg)).full⟩, HG13.out.2.2.1.grown (hg) (by simp), HG13.out.2.2.2.1.grown (hg) (by simp), HG13.out.2.2.2.2.1.grown (hg) (by simp), (HG13.out.2.2.2.2.2.2.2.1.stay hg).full, HG13.out.2.2.2.2.2.2.2.2.1, (HG13.out.2.2.2.2.2.2.2.2.2.stay hg).full⟩
  clear hg hg15 HGW14 HG13
  obtain ⟨W16, hW16⟩ : ∃ W16, W16 = w15.alloc (.cells #[.string ⟨#[107]⟩, iV 2, iV 2, .slice a3 2 c3, .bool false, .slice none 0 0, .slice (some ⟨p3, 0, none⟩) 64 64] 34) := ⟨_, rfl⟩
  have hgW16 : w15.grownBy W16 none := by rw [hW16]; exact gb_alloc (gb_refl _ _) _
  have hm : ∀ z ∈ ([ofE 2 2 [1, 1, 2, 1] a3 c3 p3] : List E), RAt w15 w15.heap.size z.1 z.2 := by
    intro z hz
    simp only [List.mem_cons, List.not_mem_nil, or_false] at hz
    rcases hz with rfl
    · exact HG15.out.2.1.2.2
  have hr : RRow W16 (w15.heap.size + 1) (some ⟨w15.heap.size, 0, none⟩) [ofE 2 2 [1, 1, 2, 1] a3 c3 p3] := by
    rw [hW16]
    exact rrow_new w15 34 [ofE 2 2 [1, 1, 2, 1] a3 c3 p3] hm
  have HS := Lib.hid (sameRecs_any w15.heap.size (w15.heap.size + 1) 1 1 ck 1 ak (some ⟨w15.heap.size, 0, none⟩) out2 [ofE 2 2 [1, 1, 2, 1] a3 c3 p3] W16 (by have h := congrArg List.length (HG15.out.2.2.2.2.2.2.1); rw [recs_len] at h; exact h) rfl ((HG15.out.2.2.2.2.2.1).stay hgW16) hr (by decide))
  have HT : Hid (sameL (recs out2) (recs [ofE 2 2 [1, 1, 2, 1] a3 c3 p3]) = true) := by
    show sameL _ _ = true
    rw [HG15.out.2.2.2.2.2.2.1]
    exact decide_eq_true rfl
  have HGW16 := Lib.hid hgW16
  have z0_0 := (HG15.out.2.2.2.2.1).cell (i := 0) rfl
  have z0_1 := (HG15.out.2.2.2.2.1).cell (i := 1) rfl
  have z0_2 := (HG15.out.2.2.2.2.1).cell (i := 2) rfl
  have z0_3 := (HG15.out.2.2.2.2.1).cell (i := 3) rfl
  have z0_4 := (HG15.out.2.2.2.2.1).cell (i := 4) rfl
  have z0_5 := (HG15.out.2.2.2.2.1).cell (i := 5) rfl
  have z0_6 := (HG15.out.2.2.2.2.1).cell (i := 6) rfl
  clear hgW16 hm hr
  go_wp2_with fail
  rw [← hW16]
  clear hW16
  refine HS.out.mono ?_
  rintro e w17 ⟨rfl, hg17⟩
  rw [HT.out]
  have hg := gb_trans HGW16.out hg17
  have hgw := gb_trans HG15.out.1 hg
  have hbp := (HG15.out.2.2.2.2.2.2.2.stay hg).full
  clear HS HT HGW16 HG15 hg hg17 z0_0 z0_1 z0_2 z0_3 z0_4 z0_5 z0_6
  obtain ⟨w18, hmk, hg18, hs18, hb18⟩ := make_bytes 8 8 w17 (Nat.le_refl _) (by omega)
  have hmk' : (Instr.makeSlice 32 (.int .i64 8) (.int .i64 8)).run Try.prog w17 = .ok (.slice (some ⟨w17.heap.size, 0, none⟩) 8 8) w18 := hmk
  have hz8 : BytesAt w18 w18.heap.size (some ⟨w17.heap.size, 0, none⟩) 8 (List.replicate 8 0) := by
    refine ⟨Nat.le_refl _, by simp, (by decide : (8 : Nat) < 9223372036854775808), fun i => ?_, Or.inr ⟨w17.heap.size, 0, rfl, by omega, fun i hi => ?_⟩⟩
    · rw [List.getD_eq_getElem?_getD, List.getElem?_replicate]; split <;> simp
    · have hi2 : i < 8 := by simpa using hi
      rw [Nat.zero_add]
      refine hb18.cell ?_
      rw [List.getElem?_replicate, if_pos hi2, List.getD_eq_getElem?_getD, List.getElem?_replicate, if_pos hi2]; rfl
  have HB := Lib.hid (sameBytes_any w18.heap.size w18.heap.size 8 8 cp 8 ap (some ⟨w17.heap.size, 0, none⟩) (encN 0) (List.replicate 8 0) w18 (encN_length 0) rfl (hbp.stay hg18).full hz8)
  rw [h8, decide_eq_true rfl] at HB
  have HW := Lib.hid (gb_trans hgw hg18)
  clear hbp hz8 hg18 hs18 hb18 hmk hgw h8
  go_wp2_with fail
  refine HB.out.mono ?_
  rintro e w19 ⟨rfl, hg19⟩
  have HW2 := Lib.hid (gb_trans HW.out hg19)
  clear hg19
  go_wp2
  go_ret
  exact ⟨rfl, HW2.out⟩
end Sb
end Go.Proofs.Ytlkiancedgaicaa
