/- The three instances of a call that is tried. -/
import Derived.Test.YtlkiancedgaicaaGreatWiTry
namespace Go.Proofs.YtlkiancedgaicaaGreat
open Go.RowKit Ow Wi
theorem makeF : ∀ (fn : Fn) (first cap : Array Value) (w : World), (Instr.makeFunc fn first cap).run Tryz.prog w = .ok (.func fn first cap) w := fun _ _ _ _ => rfl

/-- what the deferred call does behind a panic -/
theorem caughtU (p : Addr) (rb : Nat) (s g : Value) (u : TypeId) (pv : Value) (older : List PanicEntry) (w : World) (hp : w.cell? p = some (.pointer (some ⟨rb, 0, none⟩))) (hb : Blk w rb 102 [s, g]) :
    CallsD Tryz.prog 121 #[.pointer (some p)] (.panicking ({ v := .iface u pv, recovered := false } :: older)) w fun e u' w' =>
      e = .returned (.tuple #[]) ∧ u' = .panicking ({ v := .iface u pv, recovered := true } :: older) ∧ w.grownBy w' (some rb) ∧ RdN w' rb := by
  have c0 := hb.cell (i := 0) rfl
  have c1 := hb.cell (i := 1) rfl
  have f0 := hb.free 0
  have f1 := hb.free 1
  refine callsD_of_wpS Tryz.func121 rfl fun c₀ cs hu => ?_
  apply wpS_seq
  apply wpS_region
  simp [wpOpsS, go_sem, recoverD, hu, Tryz.ntmps121, Exit.thenS]
  refine wpS_cond (t := true) (by simp [Act.eval, Array.replicate]) ?_
  simp only [if_true]
  refine wpS_of_wp ?_
  go_wp2
  exact ⟨rfl, _, rfl, .tuple #[], results_none rfl _ _ _, rfl, rfl, gb_set (gb_set (gb_refl _ _) 0 _) 1 _, (hb.set 0 _).set 1 _⟩
theorem idleU (p : Addr) (w : World) :
    CallsD Tryz.prog 121 #[.pointer (some p)] .returning w fun e u' w' => e = .returned (.tuple #[]) ∧ u' = .returning ∧ w' = w := by
  refine callsD_of_wpS Tryz.func121 rfl fun c₀ cs hu => ?_
  apply wpS_seq
  apply wpS_region
  simp [wpOpsS, go_sem, recoverD, hu, Tryz.ntmps121, Exit.thenS]
  refine wpS_cond (t := false) (by simp [Act.eval, Array.replicate]) ?_
  simp only [Bool.false_eq_true, if_false]
  refine wpS_of_wp (wp_skip ?_)
  cases c₀
  simp_all [bodyPostS, results, Tryz.results121]
theorem tryU_bad (p : Option Addr) (n : Int) (f : Value) (w : World) (hg : ∀ w1, w.grownBy w1 none → Calls Tryz.prog 26 #[.pointer p] w1 fun e w' => e = .returned (.bool false) ∧ w' = w1) :
    Calls Tryz.prog 65 #[.pointer p, f, .int .i64 n] w fun e w' => e = .returned (.int .u64 0) ∧ w.grownBy w' none := by
  have HG := Lib.hid (hg _ (gb_alloc (gb_refl w none) (.cells #[.pointer p] 34))); clear hg
  go_enter_defers Tryz.func65, Tryz.ntmps65
  go_wp2_with (fail)
  refine HG.out.mono ?_
  rintro e w' ⟨rfl, rfl⟩
  go_wp2
  simp [bodyPostD, Leaves, results, Tryz.results65, go_sem]
  exact gb_alloc (gb_refl w none) _
theorem tryU_yes (rb : Nat) (n : Int) (s : Value) (w : World) (Q : Value → World → Prop) (hb : Blk w rb 102 [s, gP rb])
    (hin : Calls Tryz.prog 66 #[.pointer (some ⟨rb, 0, none⟩), .int .i64 n] (w.alloc (.cells #[.pointer (some ⟨rb, 0, none⟩)] 34)) fun e w' => ∃ x, e = .returned x ∧ Q x w') :
    Calls Tryz.prog 65 #[.pointer (some ⟨rb, 0, none⟩), .func (.func 66) #[.pointer (some ⟨rb, 0, none⟩)] #[], .int .i64 n] w fun e w' => ∃ x, e = .returned x ∧ Q x w' := by
  have HG := Lib.hid (wgood_yes rb s _ (hb.alloc (.cells #[.pointer (some ⟨rb, 0, none⟩)] 34)))
  have HI := Lib.hid hin; clear hin hb
  have hmf := makeF
  go_enter_defers Tryz.func65, Tryz.ntmps65
  go_wp2_with (fail)
  refine HG.out.mono ?_
  rintro e w' ⟨rfl, rfl⟩
  go_wp2_with (fail)
  refine HI.out.mono ?_
  rintro e w2 ⟨x, rfl, hq⟩
  have HQ := Lib.hid hq; clear hq
  go_wp2_with (fail)
  refine leaves_cons (f := 121) (args := #[.pointer (some ⟨w.heap.size, 0, none⟩)]) (by simp) (by simp [go_sem]) ?_
  refine (idleU _ _).mono ?_
  rintro e u' w'' ⟨rfl, rfl, rfl⟩
  simp [Leaves, settle, results, Tryz.results65, go_sem]
  exact HQ.out
theorem tryU_no (rb : Nat) (n : Int) (s : Value) (w : World) (hb : Blk w rb 102 [s, gP rb])
    (hin : Calls Tryz.prog 66 #[.pointer (some ⟨rb, 0, none⟩), .int .i64 n] (w.alloc (.cells #[.pointer (some ⟨rb, 0, none⟩)] 34)) fun e w' => Dies e ∧ (w.alloc (.cells #[.pointer (some ⟨rb, 0, none⟩)] 34)).grownBy w' (some rb) ∧ ∃ l, RdB w' rb (gP rb) l) :
    Calls Tryz.prog 65 #[.pointer (some ⟨rb, 0, none⟩), .func (.func 66) #[.pointer (some ⟨rb, 0, none⟩)] #[], .int .i64 n] w fun e w' => e = .returned (.int .u64 0) ∧ w.grownBy w' (some rb) ∧ RdN w' rb := by
  have HG := Lib.hid (wgood_yes rb s _ (hb.alloc (.cells #[.pointer (some ⟨rb, 0, none⟩)] 34)))
  have HL := Lib.hid hb.lt
  have HI := Lib.hid hin; clear hin hb
  have hmf := makeF
  go_enter_defers Tryz.func65, Tryz.ntmps65
  go_wp2_with (fail)
  refine HG.out.mono ?_
  rintro e w' ⟨rfl, rfl⟩
  go_wp2_with (fail)
  refine HI.out.mono ?_
  rintro e w2 ⟨⟨u, pv, rfl⟩, hg, l, a, m, cap, hb2, _⟩
  have hlt := HL.out
  have hbox : w2.cell? ⟨w.heap.size, 0, none⟩ = some (.pointer (some ⟨rb, 0, none⟩)) := ((Blk.new w [.pointer (some ⟨rb, 0, none⟩)] 34).grown hg (by intro h; cases h; omega)).cell (i := 0) rfl
  have HQ := Lib.hid hg; clear hg
  refine leaves_cons (f := 121) (args := #[.pointer (some ⟨w.heap.size, 0, none⟩)]) (by simp) (by simp [go_sem]) ?_
  refine (caughtU ⟨w.heap.size, 0, none⟩ rb _ _ u pv [] w2 hbox hb2).mono ?_
  rintro e u' w'' ⟨rfl, rfl, hg3, hn⟩
  simp [Leaves, settle, results, Tryz.results65, go_sem]
  exact ⟨gb_trans (gb_trans (gb_alloc (gb_refl w _) _) HQ.out) hg3, hn⟩

/-- what the deferred call does behind a panic -/
theorem caughtB (p : Addr) (rb : Nat) (s g : Value) (u : TypeId) (pv : Value) (older : List PanicEntry) (w : World) (hp : w.cell? p = some (.pointer (some ⟨rb, 0, none⟩))) (hb : Blk w rb 102 [s, g]) :
    CallsD Tryz.prog 146 #[.pointer (some p)] (.panicking ({ v := .iface u pv, recovered := false } :: older)) w fun e u' w' =>
      e = .returned (.tuple #[]) ∧ u' = .panicking ({ v := .iface u pv, recovered := true } :: older) ∧ w.grownBy w' (some rb) ∧ RdN w' rb := by
  have c0 := hb.cell (i := 0) rfl
  have c1 := hb.cell (i := 1) rfl
  have f0 := hb.free 0
  have f1 := hb.free 1
  refine callsD_of_wpS Tryz.func146 rfl fun c₀ cs hu => ?_
  apply wpS_seq
  apply wpS_region
  simp [wpOpsS, go_sem, recoverD, hu, Tryz.ntmps146, Exit.thenS]
  refine wpS_cond (t := true) (by simp [Act.eval, Array.replicate]) ?_
  simp only [if_true]
  refine wpS_of_wp ?_
  go_wp2
  exact ⟨rfl, _, rfl, .tuple #[], results_none rfl _ _ _, rfl, rfl, gb_set (gb_set (gb_refl _ _) 0 _) 1 _, (hb.set 0 _).set 1 _⟩
theorem idleB (p : Addr) (w : World) :
    CallsD Tryz.prog 146 #[.pointer (some p)] .returning w fun e u' w' => e = .returned (.tuple #[]) ∧ u' = .returning ∧ w' = w := by
  refine callsD_of_wpS Tryz.func146 rfl fun c₀ cs hu => ?_
  apply wpS_seq
  apply wpS_region
  simp [wpOpsS, go_sem, recoverD, hu, Tryz.ntmps146, Exit.thenS]
  refine wpS_cond (t := false) (by simp [Act.eval, Array.replicate]) ?_
  simp only [Bool.false_eq_true, if_false]
  refine wpS_of_wp (wp_skip ?_)
  cases c₀
  simp_all [bodyPostS, results, Tryz.results146]
theorem tryB_bad (p : Option Addr) (n : Int) (f : Value) (w : World) (hg : ∀ w1, w.grownBy w1 none → Calls Tryz.prog 26 #[.pointer p] w1 fun e w' => e = .returned (.bool false) ∧ w' = w1) :
    Calls Tryz.prog 89 #[.pointer p, f, .int .i64 n] w fun e w' => e = .returned (.slice none 0 0) ∧ w.grownBy w' none := by
  have HG := Lib.hid (hg _ (gb_alloc (gb_refl w none) (.cells #[.pointer p] 34))); clear hg
  go_enter_defers Tryz.func89, Tryz.ntmps89
  go_wp2_with (fail)
  refine HG.out.mono ?_
  rintro e w' ⟨rfl, rfl⟩
  go_wp2
  simp [bodyPostD, Leaves, results, Tryz.results89, go_sem]
  exact gb_alloc (gb_refl w none) _
theorem tryB_yes (rb : Nat) (n : Int) (s : Value) (w : World) (Q : Value → World → Prop) (hb : Blk w rb 102 [s, gP rb])
    (hin : Calls Tryz.prog 90 #[.pointer (some ⟨rb, 0, none⟩), .int .i64 n] (w.alloc (.cells #[.pointer (some ⟨rb, 0, none⟩)] 34)) fun e w' => ∃ x, e = .returned x ∧ Q x w') :
    Calls Tryz.prog 89 #[.pointer (some ⟨rb, 0, none⟩), .func (.func 90) #[.pointer (some ⟨rb, 0, none⟩)] #[], .int .i64 n] w fun e w' => ∃ x, e = .returned x ∧ Q x w' := by
  have HG := Lib.hid (wgood_yes rb s _ (hb.alloc (.cells #[.pointer (some ⟨rb, 0, none⟩)] 34)))
  have HI := Lib.hid hin; clear hin hb
  have hmf := makeF
  go_enter_defers Tryz.func89, Tryz.ntmps89
  go_wp2_with (fail)
  refine HG.out.mono ?_
  rintro e w' ⟨rfl, rfl⟩
  go_wp2_with (fail)
  refine HI.out.mono ?_
  rintro e w2 ⟨x, rfl, hq⟩
  have HQ := Lib.hid hq; clear hq
  go_wp2_with (fail)
  refine leaves_cons (f := 146) (args := #[.pointer (some ⟨w.heap.size, 0, none⟩)]) (by simp) (by simp [go_sem]) ?_
  refine (idleB _ _).mono ?_
  rintro e u' w'' ⟨rfl, rfl, rfl⟩
  simp [Leaves, settle, results, Tryz.results89, go_sem]
  exact HQ.out
theorem tryB_no (rb : Nat) (n : Int) (s : Value) (w : World) (hb : Blk w rb 102 [s, gP rb])
    (hin : Calls Tryz.prog 90 #[.pointer (some ⟨rb, 0, none⟩), .int .i64 n] (w.alloc (.cells #[.pointer (some ⟨rb, 0, none⟩)] 34)) fun e w' => Dies e ∧ (w.alloc (.cells #[.pointer (some ⟨rb, 0, none⟩)] 34)).grownBy w' (some rb) ∧ ∃ l, RdB w' rb (gP rb) l) :
    Calls Tryz.prog 89 #[.pointer (some ⟨rb, 0, none⟩), .func (.func 90) #[.pointer (some ⟨rb, 0, none⟩)] #[], .int .i64 n] w fun e w' => e = .returned (.slice none 0 0) ∧ w.grownBy w' (some rb) ∧ RdN w' rb := by
  have HG := Lib.hid (wgood_yes rb s _ (hb.alloc (.cells #[.pointer (some ⟨rb, 0, none⟩)] 34)))
  have HL := Lib.hid hb.lt
  have HI := Lib.hid hin; clear hin hb
  have hmf := makeF
  go_enter_defers Tryz.func89, Tryz.ntmps89
  go_wp2_with (fail)
  refine HG.out.mono ?_
  rintro e w' ⟨rfl, rfl⟩
  go_wp2_with (fail)
  refine HI.out.mono ?_
  rintro e w2 ⟨⟨u, pv, rfl⟩, hg, l, a, m, cap, hb2, _⟩
  have hlt := HL.out
  have hbox : w2.cell? ⟨w.heap.size, 0, none⟩ = some (.pointer (some ⟨rb, 0, none⟩)) := ((Blk.new w [.pointer (some ⟨rb, 0, none⟩)] 34).grown hg (by intro h; cases h; omega)).cell (i := 0) rfl
  have HQ := Lib.hid hg; clear hg
  refine leaves_cons (f := 146) (args := #[.pointer (some ⟨w.heap.size, 0, none⟩)]) (by simp) (by simp [go_sem]) ?_
  refine (caughtB ⟨w.heap.size, 0, none⟩ rb _ _ u pv [] w2 hbox hb2).mono ?_
  rintro e u' w'' ⟨rfl, rfl, hg3, hn⟩
  simp [Leaves, settle, results, Tryz.results89, go_sem]
  exact ⟨gb_trans (gb_trans (gb_alloc (gb_refl w _) _) HQ.out) hg3, hn⟩

/-- what the deferred call does behind a panic -/
theorem caughtI (p : Addr) (rb : Nat) (s g : Value) (u : TypeId) (pv : Value) (older : List PanicEntry) (w : World) (hp : w.cell? p = some (.pointer (some ⟨rb, 0, none⟩))) (hb : Blk w rb 102 [s, g]) :
    CallsD Tryz.prog 176 #[.pointer (some p)] (.panicking ({ v := .iface u pv, recovered := false } :: older)) w fun e u' w' =>
      e = .returned (.tuple #[]) ∧ u' = .panicking ({ v := .iface u pv, recovered := true } :: older) ∧ w.grownBy w' (some rb) ∧ RdN w' rb := by
  have c0 := hb.cell (i := 0) rfl
  have c1 := hb.cell (i := 1) rfl
  have f0 := hb.free 0
  have f1 := hb.free 1
  refine callsD_of_wpS Tryz.func176 rfl fun c₀ cs hu => ?_
  apply wpS_seq
  apply wpS_region
  simp [wpOpsS, go_sem, recoverD, hu, Tryz.ntmps176, Exit.thenS]
  refine wpS_cond (t := true) (by simp [Act.eval, Array.replicate]) ?_
  simp only [if_true]
  refine wpS_of_wp ?_
  go_wp2
  exact ⟨rfl, _, rfl, .tuple #[], results_none rfl _ _ _, rfl, rfl, gb_set (gb_set (gb_refl _ _) 0 _) 1 _, (hb.set 0 _).set 1 _⟩
theorem idleI (p : Addr) (w : World) :
    CallsD Tryz.prog 176 #[.pointer (some p)] .returning w fun e u' w' => e = .returned (.tuple #[]) ∧ u' = .returning ∧ w' = w := by
  refine callsD_of_wpS Tryz.func176 rfl fun c₀ cs hu => ?_
  apply wpS_seq
  apply wpS_region
  simp [wpOpsS, go_sem, recoverD, hu, Tryz.ntmps176, Exit.thenS]
  refine wpS_cond (t := false) (by simp [Act.eval, Array.replicate]) ?_
  simp only [Bool.false_eq_true, if_false]
  refine wpS_of_wp (wp_skip ?_)
  cases c₀
  simp_all [bodyPostS, results, Tryz.results176]
theorem tryI_bad (p : Option Addr) (n : Int) (f : Value) (w : World) (hg : ∀ w1, w.grownBy w1 none → Calls Tryz.prog 26 #[.pointer p] w1 fun e w' => e = .returned (.bool false) ∧ w' = w1) :
    Calls Tryz.prog 118 #[.pointer p, f, .int .i64 n] w fun e w' => e = .returned (.int .i64 0) ∧ w.grownBy w' none := by
  have HG := Lib.hid (hg _ (gb_alloc (gb_refl w none) (.cells #[.pointer p] 34))); clear hg
  go_enter_defers Tryz.func118, Tryz.ntmps118
  go_wp2_with (fail)
  refine HG.out.mono ?_
  rintro e w' ⟨rfl, rfl⟩
  go_wp2
  simp [bodyPostD, Leaves, results, Tryz.results118, go_sem]
  exact gb_alloc (gb_refl w none) _
theorem tryI_yes (rb : Nat) (n : Int) (s : Value) (w : World) (Q : Value → World → Prop) (hb : Blk w rb 102 [s, gP rb])
    (hin : Calls Tryz.prog 119 #[.pointer (some ⟨rb, 0, none⟩), .int .i64 n] (w.alloc (.cells #[.pointer (some ⟨rb, 0, none⟩)] 34)) fun e w' => ∃ x, e = .returned x ∧ Q x w') :
    Calls Tryz.prog 118 #[.pointer (some ⟨rb, 0, none⟩), .func (.func 119) #[.pointer (some ⟨rb, 0, none⟩)] #[], .int .i64 n] w fun e w' => ∃ x, e = .returned x ∧ Q x w' := by
  have HG := Lib.hid (wgood_yes rb s _ (hb.alloc (.cells #[.pointer (some ⟨rb, 0, none⟩)] 34)))
  have HI := Lib.hid hin; clear hin hb
  have hmf := makeF
  go_enter_defers Tryz.func118, Tryz.ntmps118
  go_wp2_with (fail)
  refine HG.out.mono ?_
  rintro e w' ⟨rfl, rfl⟩
  go_wp2_with (fail)
  refine HI.out.mono ?_
  rintro e w2 ⟨x, rfl, hq⟩
  have HQ := Lib.hid hq; clear hq
  go_wp2_with (fail)
  refine leaves_cons (f := 176) (args := #[.pointer (some ⟨w.heap.size, 0, none⟩)]) (by simp) (by simp [go_sem]) ?_
  refine (idleI _ _).mono ?_
  rintro e u' w'' ⟨rfl, rfl, rfl⟩
  simp [Leaves, settle, results, Tryz.results118, go_sem]
  exact HQ.out
theorem tryI_no (rb : Nat) (n : Int) (s : Value) (w : World) (hb : Blk w rb 102 [s, gP rb])
    (hin : Calls Tryz.prog 119 #[.pointer (some ⟨rb, 0, none⟩), .int .i64 n] (w.alloc (.cells #[.pointer (some ⟨rb, 0, none⟩)] 34)) fun e w' => Dies e ∧ (w.alloc (.cells #[.pointer (some ⟨rb, 0, none⟩)] 34)).grownBy w' (some rb) ∧ ∃ l, RdB w' rb (gP rb) l) :
    Calls Tryz.prog 118 #[.pointer (some ⟨rb, 0, none⟩), .func (.func 119) #[.pointer (some ⟨rb, 0, none⟩)] #[], .int .i64 n] w fun e w' => e = .returned (.int .i64 0) ∧ w.grownBy w' (some rb) ∧ RdN w' rb := by
  have HG := Lib.hid (wgood_yes rb s _ (hb.alloc (.cells #[.pointer (some ⟨rb, 0, none⟩)] 34)))
  have HL := Lib.hid hb.lt
  have HI := Lib.hid hin; clear hin hb
  have hmf := makeF
  go_enter_defers Tryz.func118, Tryz.ntmps118
  go_wp2_with (fail)
  refine HG.out.mono ?_
  rintro e w' ⟨rfl, rfl⟩
  go_wp2_with (fail)
  refine HI.out.mono ?_
  rintro e w2 ⟨⟨u, pv, rfl⟩, hg, l, a, m, cap, hb2, _⟩
  have hlt := HL.out
  have hbox : w2.cell? ⟨w.heap.size, 0, none⟩ = some (.pointer (some ⟨rb, 0, none⟩)) := ((Blk.new w [.pointer (some ⟨rb, 0, none⟩)] 34).grown hg (by intro h; cases h; omega)).cell (i := 0) rfl
  have HQ := Lib.hid hg; clear hg
  refine leaves_cons (f := 176) (args := #[.pointer (some ⟨w.heap.size, 0, none⟩)]) (by simp) (by simp [go_sem]) ?_
  refine (caughtI ⟨w.heap.size, 0, none⟩ rb _ _ u pv [] w2 hbox hb2).mono ?_
  rintro e u' w'' ⟨rfl, rfl, hg3, hn⟩
  simp [Leaves, settle, results, Tryz.results118, go_sem]
  exact ⟨gb_trans (gb_trans (gb_alloc (gb_refl w _) _) HQ.out) hg3, hn⟩

end Go.Proofs.YtlkiancedgaicaaGreat
