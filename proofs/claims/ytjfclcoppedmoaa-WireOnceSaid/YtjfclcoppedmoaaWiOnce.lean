/- wire: WireOnce. -/
import Derived.Test.YtjfclcoppedmoaaWiAsks
import Derived.Deep.Cut
import Derived.Deep.RegionWith
import Derived.Deep.CutRange
namespace Go.Proofs.Ytjfclcoppedmoaa
open Go.RowKit Ow Wi

/-- what stays while an ask is asked once more, of a reader of the rest -/
structure OnceF (w W : World) (rb N9 B1 pb p0 cv cS : Nat) (st : St) (av aS : Option Addr) (x l : List Nat) (what most : Int) (L9 : List Value) : Prop where
  g : w.grownBy W none
  r : RdS W rb st
  b : BytesAt W W.heap.size av cv x
  k : Blk W N9 44 L9
  s : BytesAt W B1 aS cS l
  lt : pb < W.heap.size
  e1 : W.cell? ⟨pb, p0, none⟩ = some (.int .i64 what)
  e2 : W.cell? ⟨pb, p0 + 1, none⟩ = some (.int .i64 most)
theorem OnceF.stay {w W W' : World} {rb N9 B1 pb p0 cv cS : Nat} {st : St} {av aS : Option Addr} {x l : List Nat} {what most : Int} {L9 : List Value} (h : OnceF w W rb N9 B1 pb p0 cv cS st av aS x l what most L9) (hg : W.grownBy W' none) : OnceF w W' rb N9 B1 pb p0 cv cS st av aS x l what most L9 :=
  ⟨gb_trans h.g hg, h.r.stay hg, (h.b.stay hg).full, h.k.grown hg (by simp), h.s.stay hg, Nat.lt_of_lt_of_le h.lt hg.size, by rw [gb_cell hg (p := ⟨pb, p0, none⟩) h.lt (by simp)]; exact h.e1, by rw [gb_cell hg (p := ⟨pb, p0 + 1, none⟩) h.lt (by simp)]; exact h.e2⟩
theorem once_new {w w4 w6 : World} {rb N9 B1 pb p0 cv cS c3 t : Nat} {st : St} {av aS a3 : Option Addr} {x l : List Nat} {what most nx : Int} {d : Bool} {L9 : List Value} (hF : OnceF w w4 rb N9 B1 pb p0 cv cS st av aS x l what most L9) (hg : w4.grownBy w6 none) (hB : BytesAt w6 w6.heap.size a3 c3 x) :
    OnceF w (w6.alloc (.cells #[.int .i64 nx, .slice a3 t c3, .bool true, .bool d] 44)) rb N9 B1 pb p0 cv cS st av aS x l what most L9 ∧ BytesAt (w6.alloc (.cells #[.int .i64 nx, .slice a3 t c3, .bool true, .bool d] 44)) (w6.alloc (.cells #[.int .i64 nx, .slice a3 t c3, .bool true, .bool d] 44)).heap.size a3 c3 x ∧
    Blk (w6.alloc (.cells #[.int .i64 nx, .slice a3 t c3, .bool true, .bool d] 44)) w6.heap.size 44 [.int .i64 nx, .slice a3 t c3, .bool true, .bool d] :=
  ⟨hF.stay (gb_alloc hg _), (hB.stay (gb_alloc (gb_refl _ _) _)).full, Blk.new w6 _ _⟩
theorem once_set {w w4 w6 : World} {rb N9 B1 pb p0 cv cS c3 t N10 : Nat} {st : St} {av aS a3 : Option Addr} {x l : List Nat} {what most nx : Int} {d : Bool} {L9 : List Value} (hF : OnceF w w4 rb N9 B1 pb p0 cv cS st av aS x l what most L9) (hg : w4.grownBy w6 none) (hB : BytesAt w6 w6.heap.size a3 c3 x)
    (hz : Blk w6 N10 44 [.int .i64 0, .slice none 0 0, .bool false, .bool false]) (hN : w4.heap.size ≤ N10) (hne : ∀ pb po, a3 = some ⟨pb, po, none⟩ → pb ≠ N10) :
    OnceF w ((((w6.setCell ⟨N10, 0, none⟩ (.int .i64 nx)).setCell ⟨N10, 1, none⟩ (.slice a3 t c3)).setCell ⟨N10, 2, none⟩ (.bool true)).setCell ⟨N10, 3, none⟩ (.bool d)) rb N9 B1 pb p0 cv cS st av aS x l what most L9 ∧
    BytesAt ((((w6.setCell ⟨N10, 0, none⟩ (.int .i64 nx)).setCell ⟨N10, 1, none⟩ (.slice a3 t c3)).setCell ⟨N10, 2, none⟩ (.bool true)).setCell ⟨N10, 3, none⟩ (.bool d)) ((((w6.setCell ⟨N10, 0, none⟩ (.int .i64 nx)).setCell ⟨N10, 1, none⟩ (.slice a3 t c3)).setCell ⟨N10, 2, none⟩ (.bool true)).setCell ⟨N10, 3, none⟩ (.bool d)).heap.size a3 c3 x ∧
    Blk ((((w6.setCell ⟨N10, 0, none⟩ (.int .i64 nx)).setCell ⟨N10, 1, none⟩ (.slice a3 t c3)).setCell ⟨N10, 2, none⟩ (.bool true)).setCell ⟨N10, 3, none⟩ (.bool d)) N10 44 [.int .i64 nx, .slice a3 t c3, .bool true, .bool d] := by
  have gs := gb_set (gb_set (gb_set (gb_set (gb_refl w6 (some N10)) 0 (.int .i64 nx)) 1 (.slice a3 t c3)) 2 (.bool true)) 3 (.bool d)
  have gf := gb_set_new (gb_set_new (gb_set_new (gb_set_new hg (p := ⟨N10, 0, none⟩) hN (.int .i64 nx)) (p := ⟨N10, 1, none⟩) hN (.slice a3 t c3)) (p := ⟨N10, 2, none⟩) hN (.bool true)) (p := ⟨N10, 3, none⟩) hN (.bool d)
  exact ⟨hF.stay gf, (hB.apart gs (Or.inr hne)).full, (((hz.set 0 (.int .i64 nx)).set 1 (.slice a3 t c3)).set 2 (.bool true)).set 3 (.bool d)⟩
set_option maxRecDepth 100000 in
set_option maxHeartbeats 8000000 in
theorem wireOnce_any (n1 c1 B1 n2 c2 B2 : Nat) (a1 a2 : Option Addr) (l : List Nat) (asks : List (Int × Int)) (w : World) (hl : l.length = n1) (hP : BytesAt w B1 a1 c1 l) (hasks : asks.length = n2) (hA : AsksAt w B2 a2 asks) :
    Calls Try.prog 5 #[.slice a1 n1 c1, .slice a2 n2 c2] w fun e w' => e = .returned (.bool true) ∧ w.grownBy w' none := by
  have HL := Lib.hid (And.intro hl hP); clear hl hP
  have HA := Lib.hid (And.intro hasks hA); clear hasks hA
  go_enter Try.func5, Try.ntmps5
  go_wp2_with fail
  refine (wawake_any w).mono ?_
  rintro e w1 ⟨rfl, hg⟩
  have H1 := Lib.hid hg; clear hg
  by_cases hb1 : 20000 < n1
  · have j1 : (20000 : Int) < n1 := by omega
    go_wp2
    go_ret
    exact ⟨rfl, H1.out⟩
  have j1 : ¬ (20000 : Int) < n1 := by omega
  by_cases hb2 : 200 < n2
  · have j2 : (200 : Int) < n2 := by omega
    go_wp2
    go_ret
    exact ⟨rfl, H1.out⟩
  have j2 : ¬ (200 : Int) < n2 := by omega
  go_wp2_with fail
  refine (new_any n1 c1 B1 a1 l w1 HL.out.1 (by omega) (HL.out.2.stay H1.out)).mono ?_
  rintro e w2 ⟨rb, rfl, hg, hrb, hr⟩
  have hrb2 : w.heap.size ≤ rb := Nat.le_trans H1.out.size hrb
  have H2 := Lib.hid (And.intro (gb_trans H1.out hg) hr); clear hg hrb hr H1
  have HRB := Lib.hid hrb2; clear hrb2
  go_wp2_with fail
  go_loopw [6, 7] (fun v i wr => ∃ (k s : Nat) (st : St), k ≤ n2 ∧ i = .int .i64 k ∧ v = .int .i64 s ∧ s ≤ n1 ∧ w.grownBy wr none ∧ RdS wr rb st ∧ (st = none ∨ st = some (l.drop s))) (fun _ i _ => n2 - (intOf i).toNat)
  case atStart => exact ⟨0, 0, some l, by omega, rfl, rfl, by omega, H2.out.1, H2.out.2, Or.inr rfl⟩
  case round =>
    obtain ⟨k, s, st, hk, rfl, rfl, hs, hg, hr, hst⟩ := hrel
    by_cases hlt : k < n2
    · obtain ⟨pb, po, rfl, hpb, k1, k2⟩ := HA.out.2.at (i := k) (by rw [HA.out.1]; exact hlt)
      have i0 : (k : Int) < (n2 : Int) := by omega
      have hwf := HA.out.2.wf (asks.getD k (0, 0)) (by rw [List.getD_eq_getElem?_getD, List.getElem?_eq_getElem (by rw [HA.out.1]; exact hlt)]; exact List.getElem_mem _)
      have e1 : wr.cell? ⟨pb, po + k * 2, none⟩ = some (.int .i64 (asks.getD k (0, 0)).1) := by
        rw [gb_cell hg (p := ⟨pb, po + k * 2, none⟩) hpb (by simp)]; exact k1
      have e2 : wr.cell? ⟨pb, po + k * 2 + 1, none⟩ = some (.int .i64 (asks.getD k (0, 0)).2) := by
        rw [gb_cell hg (p := ⟨pb, po + k * 2 + 1, none⟩) hpb (by simp)]; exact k2
      generalize asks.getD k (0, 0) = q at *
      obtain ⟨what, most⟩ := q
      obtain ⟨kd, hkd⟩ : ∃ kd : Nat, what % 4 = kd := ⟨_, (Int.toNat_of_nonneg (Int.emod_nonneg _ (by decide))).symm⟩
      have HQ := Lib.hid (And.intro hpb (And.intro (And.intro k1 k2) (And.intro hwf hkd))); clear hpb k1 k2 hwf hkd
      have hlen : ∀ l', st = some l' → l'.length ≤ 1000000 := fun l' e => by
        rcases hst with rfl | rfl
        · cases e
        · cases e; rw [List.length_drop, HL.out.1]; omega
      rcases hst with rfl | rfl
      · have HS := Lib.hid (And.intro hg (And.intro hr hlen)); clear hg hr hlen
        go_wp2_with fail
        refine (wgood_any rb none wr HS.out.2.1).mono ?_
        rintro e w' ⟨rfl, rfl⟩
        rw [show (none : St).isSome = false by rfl]
        go_wp2_with fail
        refine (asked_any rb what most none kd w' HS.out.2.1 HS.out.2.2 HQ.out.2.2.1.1.1 HQ.out.2.2.1.1.2 HQ.out.2.2.2).mono ?_
        rintro e w3 ⟨v, rfl, hg3, hr3, ho3⟩
        rw [ask_none] at hr3 ho3 ⊢
        obtain ⟨av, cv, rfl, _, _, _⟩ := own_slice ho3 (fun i => by simp)
        have H3 := Lib.hid (And.intro (gb_then HS.out.1 hg3 HRB.out) hr3); clear hg3 hr3 ho3
        unfold toldV
        rw [show (none : St).isSome = false by rfl, show decide ((none : St) = some []) = false by decide]
        go_wp2_with fail
        have gz := gb_alloc (gb_refl w3 none) (.cells #[.int .i64 0, .slice av 0 cv, .bool false, .bool false] 44)
        exact ⟨⟨k + 1, s, none, hlt, rfl, rfl, hs, gb_trans H3.out.1 gz, H3.out.2.stay gz, Or.inl rfl⟩, by show n2 - ((k : Int) + 1).toNat < n2 - (k : Int).toNat; omega⟩
      have HS := Lib.hid (And.intro hg (And.intro hr hlen)); clear hg hr hlen
      go_wp2_with fail
      refine (wgood_any rb _ wr HS.out.2.1).mono ?_
      rintro e w' ⟨rfl, rfl⟩
      rw [show (some (l.drop s) : St).isSome = true by rfl]
      go_wp2_with fail
      refine (asked_any rb what most _ kd w' HS.out.2.1 HS.out.2.2 HQ.out.2.2.1.1.1 HQ.out.2.2.1.1.2 HQ.out.2.2.2).mono ?_
      rintro e w3 ⟨v, rfl, hg3, hr3, ho3⟩
      have hat := ask_at kd most l
      have hbt : ∀ i, (askS kd most (some (l.drop s))).1.2.getD i 0 < 256 := fun i => by
        unfold askS
        split
        · simp
        · simp
        · exact bytesS_lt HS.out.2.1 most i
        · simp
      obtain ⟨av, cv, rfl, _, hBv, hbs⟩ := own_slice ho3 hbt
      have hrb3 : rb < w'.heap.size := HS.out.2.1.lt
      cases hres : (askS kd most (some (l.drop s))).2 with
      | none =>
        rw [hres] at hr3
        unfold toldV
        rw [show (none : St).isSome = false by rfl, show decide ((none : St) = some []) = false by decide]
        generalize (askS kd most (some (l.drop s))).1.2.length = t at *
        generalize (askS kd most (some (l.drop s))).1.1 = nx at *
        have H3 := Lib.hid (And.intro (gb_then HS.out.1 hg3 HRB.out) hr3); clear hg3 hr3 ho3 hat hbt hBv hbs hres
        go_wp2_with fail
        have gz := gb_alloc (gb_refl w3 none) (.cells #[.int .i64 nx, .slice av t cv, .bool false, .bool false] 44)
        exact ⟨⟨k + 1, s, none, hlt, rfl, rfl, hs, gb_trans H3.out.1 gz, H3.out.2.stay gz, Or.inl rfl⟩, by show n2 - ((k : Int) + 1).toNat < n2 - (k : Int).toNat; omega⟩
      | some r =>
        rw [hres] at hr3
        obtain ⟨hrs, hle⟩ := hat r s (by rw [HL.out.1]; exact hs) hres
        have hdone : decide ((some r : St) = some []) = decide (s + took kd (askS kd most (some (l.drop s))).1.2.length = n1) := by
          rw [hrs, drop_done l _ hle, HL.out.1]
        unfold toldV
        rw [hdone, show (some r : St).isSome = true by rfl]
        rw [HL.out.1] at hle
        obtain ⟨X, hX⟩ : ∃ X, X = askS kd most (some (l.drop s)) := ⟨_, rfl⟩
        rw [← hX] at hle hrs hbt ho3 hBv hres hdone ⊢
        obtain ⟨⟨nx, x⟩, st'⟩ := X
        simp only at hle hrs hbt ho3 hBv hres hdone ⊢
        subst hres
        obtain ⟨t, ht⟩ : ∃ t, t = x.length := ⟨_, rfl⟩
        rw [← ht] at hle hrs ho3 hdone ⊢
        obtain ⟨d, hd⟩ : ∃ d, d = decide (s + took kd t = n1) := ⟨_, rfl⟩
        rw [← hd]
        have hk4 : kd < 4 := by have := HQ.out.2.2.2; omega
        obtain ⟨aS, hsl, haS⟩ := slice_from a1 n1 c1 s hs
        have gz := gb_alloc (gb_refl w3 none) (.cells #[.int .i64 nx, .slice av t cv, .bool true, .bool d] 44)
        have hb9 : Blk (w3.alloc (.cells #[.int .i64 nx, .slice av t cv, .bool true, .bool d] 44)) w3.heap.size 44 [.int .i64 nx, .slice av t cv, .bool true, .bool d] := Blk.new w3 _ _
        obtain ⟨N9, hN9⟩ : ∃ N, N = w3.heap.size := ⟨_, rfl⟩
        have hg4 := gb_trans (gb_then HS.out.1 hg3 HRB.out) gz
        have hpbw := HQ.out.1
        have q1 := HQ.out.2.1.1
        have q2 := HQ.out.2.1.2
        rw [← hN9] at hb9
        have hF : OnceF w _ rb N9 B1 pb (po + k * 2) cv (c1 - s) (some r) av aS x (l.drop s) what most [.int .i64 nx, .slice av t cv, .bool true, .bool d] :=
          ⟨hg4, hr3.stay gz, (hBv.stay gz).full, hb9, (bytes_drop (k := s) HL.out.2 haS).stay hg4, Nat.lt_of_lt_of_le hpbw hg4.size, by rw [gb_cell hg4 (p := ⟨pb, po + k * 2, none⟩) hpbw (by simp)]; exact q1, by rw [gb_cell hg4 (p := ⟨pb, po + k * 2 + 1, none⟩) hpbw (by simp)]; exact q2⟩
        have hdr : decide ((some r : St) = some []) = d := by rw [hd]; exact hdone
        have HX := Lib.hid (And.intro hX (And.intro hrs (And.intro ht (And.intro hd hdr))))
        have HF := Lib.hid hF
        have HLE := Lib.hid hle
        have hls : (l.drop s).length = n1 - s := by rw [List.length_drop, HL.out.1]
        have HLS := Lib.hid hls
        have HBX := Lib.hid hbt
        clear hX hrs ht hd hdr hg4 hb9 hF hg3 hr3 ho3 hBv hbs hat hdone haS gz hle hbt hls hpbw q1 q2
        go_upto_region 15 with (fail)
        rw [← hN9]
        generalize w3.alloc (.cells #[.int .i64 nx, .slice av t cv, .bool true, .bool d] 44) = w4 at *
        clear hN9
        go_cut [10] from 23 to 128 (fun p10 wx => ∃ (N10 c3 : Nat) (a3 : Option Addr), p10 = .pointer (some ⟨N10, 0, none⟩) ∧ OnceF w wx rb N9 B1 pb (po + k * 2) cv (c1 - s) (some r) av aS x (l.drop s) what most [.int .i64 nx, .slice av t cv, .bool true, .bool d] ∧ BytesAt wx wx.heap.size a3 c3 x ∧ Blk wx N10 44 [.int .i64 nx, .slice a3 t c3, .bool true, .bool d])
        case first =>
          have m01 := HF.out.e1
          have m02 := HF.out.e2
          have m00 := HF.out.lt
          have m09 : pb ≠ w4.heap.size := Nat.ne_of_lt m00
          have m1 := (HF.out.stay (gb_drew (gb_refl w4 none))).e1
          have m2 := (HF.out.stay (gb_drew (gb_refl w4 none))).e2
          have m11 := (HF.out.stay (gb_alloc (gb_drew (gb_refl w4 none)) (.cells #[.int .i64 0, .slice none 0 0, .bool false, .bool false] 44))).e1
          have m12 := (HF.out.stay (gb_alloc (gb_drew (gb_refl w4 none)) (.cells #[.int .i64 0, .slice none 0 0, .bool false, .bool false] 44))).e2
          go_region_with (first | (go_at_call 19; refine (new_any (n1 - s) (c1 - s) B1 aS (l.drop s) _ HLS.out (by omega) ?_).mono ?_; (first | exact (HF.out.stay (gb_drew (gb_refl _ _))).s | exact (HF.out.stay (gb_alloc (gb_drew (gb_refl _ _)) _)).s); rintro e w5 ⟨rb2, rfl, hg5, hrb2, hr5⟩; have hg45 : w4.grownBy w5 none := (by first | exact gb_trans (gb_drew (gb_refl _ _)) hg5 | exact gb_trans (gb_alloc (gb_drew (gb_refl _ _)) _) hg5); have hrb4 : w4.heap.size ≤ rb2 := (by first | exact hrb2 | (simp at hrb2; omega)); have m51 := (HF.out.stay hg45).e1; have m52 := (HF.out.stay hg45).e2; have m53 := (HF.out.stay (gb_alloc hg45 (.cells #[.int .i64 0, .slice none 0 0, .bool false, .bool false] 44))).e1; have m54 := (HF.out.stay (gb_alloc hg45 (.cells #[.int .i64 0, .slice none 0 0, .bool false, .bool false] 44))).e2; (first | (have hz5 : Hid (Blk w5 w4.heap.size 44 [.int .i64 0, .slice none 0 0, .bool false, .bool false] ∧ w4.heap.size ≠ rb2) := ⟨(Blk.new w4.drew [.int .i64 0, .slice none 0 0, .bool false, .bool false] _).grown hg5 (by simp), by simp at hrb2; omega⟩) | skip); have H5 := Lib.hid (And.intro hg45 (And.intro hrb4 hr5)); clear hg5 hrb2 hr5 hg45 hrb4) | (go_at_call 20; refine (asked_any rb2 what most (some (l.drop s)) kd _ ?_ (fun l' e => by cases e; rw [HLS.out]; omega) HQ.out.2.2.1.1.1 HQ.out.2.2.1.1.2 HQ.out.2.2.2).mono ?_; (first | exact H5.out.2.2 | exact H5.out.2.2.stay (gb_alloc (gb_refl _ _) _)); rintro e w6 ⟨v2, rfl, hg6, hr6, ho6⟩; have hg46 : w4.grownBy w6 none := (by first | exact gb_then H5.out.1 hg6 H5.out.2.1 | exact gb_then (gb_alloc H5.out.1 _) hg6 H5.out.2.1); rw [← HX.out.1] at ho6 ⊢; obtain ⟨a3, c3, rfl, _, hB3, hQ3⟩ := own_slice ho6 HBX.out; have HQ3 := Lib.hid hQ3; clear hQ3; unfold toldV; rw [show (((nx, x), some r) : (Int × List Nat) × St).2 = some r from rfl, HX.out.2.2.2.2, show (some r : St).isSome = true by rfl, show (((nx, x), some r) : (Int × List Nat) × St).1.2.length = t from HX.out.2.2.1.symm, show (((nx, x), some r) : (Int × List Nat) × St).1.1 = nx from rfl]; (first | (have hz6 := hz5.out.1.grown hg6 (by have := hz5.out.2; simp; omega); have z0 := hz6.cell (i := 0) rfl; have z1 := hz6.cell (i := 1) rfl; have z2 := hz6.cell (i := 2) rfl; have z3 := hz6.cell (i := 3) rfl; have y0 := hz6.free 0; have y1 := hz6.free 1; have y2 := hz6.free 2; have y3 := hz6.free 3; have HZ := Lib.hid hz6; clear hz6) | (have hz6 : Blk w6 w5.heap.size 44 [.int .i64 0, .slice none 0 0, .bool false, .bool false] := (Blk.new w5 [.int .i64 0, .slice none 0 0, .bool false, .bool false] _).grown hg6 (by have := H5.out.2.2.lt; simp; omega); have z0 := hz6.cell (i := 0) rfl; have z1 := hz6.cell (i := 1) rfl; have z2 := hz6.cell (i := 2) rfl; have z3 := hz6.cell (i := 3) rfl; have y0 := hz6.free 0; have y1 := hz6.free 1; have y2 := hz6.free 2; have y3 := hz6.free 3; have HZ := Lib.hid hz6; clear hz6) | skip); have H6 := Lib.hid (And.intro hg46 hB3); clear hg6 hr6 ho6 hg46 hB3))
          all_goals (go_wp2_with fail; go_meet)
          all_goals first
            | exact ⟨_, _, _, rfl, once_new HF.out H6.out.1 H6.out.2⟩
            | exact ⟨_, _, _, rfl, once_set HF.out H6.out.1 H6.out.2 HZ.out (Nat.le_refl _) (fun pb po e => by have h1 := (HQ3.out pb po e).1; have h2 := hz5.out.1.lt; omega)⟩
            | exact ⟨_, _, _, rfl, once_set HF.out H6.out.1 H6.out.2 HZ.out H5.out.1.size (fun pb po e => by have h1 := (HQ3.out pb po e).1; rw [World.size_alloc] at h1; omega)⟩
        case rest =>
          obtain ⟨N10, c3, a3, rfl, hF2, hB3, hb10⟩ := hcut
          have g1 := hF2.e1
          have v0 := hF2.k.cell (i := 0) rfl; have v1 := hF2.k.cell (i := 1) rfl; have v2 := hF2.k.cell (i := 2) rfl; have v3 := hF2.k.cell (i := 3) rfl
          have u0 := hb10.cell (i := 0) rfl; have u1 := hb10.cell (i := 1) rfl; have u2 := hb10.cell (i := 2) rfl; have u3 := hb10.cell (i := 3) rfl
          have HG := Lib.hid (And.intro hF2 (And.intro hB3 hb10)); clear hF2 hB3 hb10
          have hpick := Lib.hid (pick_is what 4 wc (by decide) (by decide) HQ.out.2.2.1.1.1 HQ.out.2.2.1.1.2)
          rw [HQ.out.2.2.2] at hpick
          have hle := HLE.out
          have HRS : Hid (r = l.drop (s + took kd t)) := HX.out.2.1
          have HD : Hid (d = decide (s + took kd t = n1)) := HX.out.2.2.2.1
          go_wp2_with fail
          refine hpick.out.mono ?_
          rintro e w' ⟨rfl, rfl⟩
          clear hpick
          obtain rfl | rfl | rfl | rfl : kd = 0 ∨ kd = 1 ∨ kd = 2 ∨ kd = 3 := by omega
          · have hw : took 0 t = 1 := rfl
            rw [hw] at hle HRS HD
            have f1 : ¬ (n1 : Int) < (s : Int) + 1 := by omega
            cases d
            · have f3 : (((s : Int) + 1) == (n1 : Int)) = false := by have h7 := HD.out; have h8 := of_decide_eq_false h7.symm; rw [beq_eq_false_iff_ne]; omega
              go_wp2_with fail
              refine (sameBytes_eq _ _ t t cv c3 av a3 x x _ true (decide_eq_true rfl) HX.out.2.2.1.symm HX.out.2.2.1.symm HG.out.1.b HG.out.2.1).mono ?_
              rintro e w9 ⟨rfl, hg9⟩
              have v39 := (HG.out.1.k.grown hg9 (by simp)).cell (i := 3) rfl
              have u39 := (HG.out.2.2.grown hg9 (by simp)).cell (i := 3) rfl
              have H9 := Lib.hid hg9; clear hg9
              go_wp2_with fail
              exact ⟨⟨k + 1, s + 1, some r, hlt, rfl, congrArg (Value.int .i64) (by omega), by omega, gb_trans HG.out.1.g H9.out, HG.out.1.r.stay H9.out, Or.inr (congrArg some HRS.out)⟩, by show n2 - ((k : Int) + 1).toNat < n2 - (k : Int).toNat; omega⟩
            · have f2 : (s : Int) + 1 = (n1 : Int) := by have h7 := HD.out; have h8 := of_decide_eq_true h7.symm; omega
              go_wp2_with fail
              refine (sameBytes_eq _ _ t t cv c3 av a3 x x _ true (decide_eq_true rfl) HX.out.2.2.1.symm HX.out.2.2.1.symm HG.out.1.b HG.out.2.1).mono ?_
              rintro e w9 ⟨rfl, hg9⟩
              have v39 := (HG.out.1.k.grown hg9 (by simp)).cell (i := 3) rfl
              have u39 := (HG.out.2.2.grown hg9 (by simp)).cell (i := 3) rfl
              have H9 := Lib.hid hg9; clear hg9
              go_wp2_with fail
              exact ⟨⟨k + 1, s + 1, some r, hlt, rfl, congrArg (Value.int .i64) (by omega), by omega, gb_trans HG.out.1.g H9.out, HG.out.1.r.stay H9.out, Or.inr (congrArg some HRS.out)⟩, by show n2 - ((k : Int) + 1).toNat < n2 - (k : Int).toNat; omega⟩
          · have hw : took 1 t = 8 := rfl
            rw [hw] at hle HRS HD
            have f1 : ¬ (n1 : Int) < (s : Int) + 8 := by omega
            cases d
            · have f3 : (((s : Int) + 8) == (n1 : Int)) = false := by have h7 := HD.out; have h8 := of_decide_eq_false h7.symm; rw [beq_eq_false_iff_ne]; omega
              go_wp2_with fail
              refine (sameBytes_eq _ _ t t cv c3 av a3 x x _ true (decide_eq_true rfl) HX.out.2.2.1.symm HX.out.2.2.1.symm HG.out.1.b HG.out.2.1).mono ?_
              rintro e w9 ⟨rfl, hg9⟩
              have v39 := (HG.out.1.k.grown hg9 (by simp)).cell (i := 3) rfl
              have u39 := (HG.out.2.2.grown hg9 (by simp)).cell (i := 3) rfl
              have H9 := Lib.hid hg9; clear hg9
              go_wp2_with fail
              exact ⟨⟨k + 1, s + 8, some r, hlt, rfl, congrArg (Value.int .i64) (by omega), by omega, gb_trans HG.out.1.g H9.out, HG.out.1.r.stay H9.out, Or.inr (congrArg some HRS.out)⟩, by show n2 - ((k : Int) + 1).toNat < n2 - (k : Int).toNat; omega⟩
            · have f2 : (s : Int) + 8 = (n1 : Int) := by have h7 := HD.out; have h8 := of_decide_eq_true h7.symm; omega
              go_wp2_with fail
              refine (sameBytes_eq _ _ t t cv c3 av a3 x x _ true (decide_eq_true rfl) HX.out.2.2.1.symm HX.out.2.2.1.symm HG.out.1.b HG.out.2.1).mono ?_
              rintro e w9 ⟨rfl, hg9⟩
              have v39 := (HG.out.1.k.grown hg9 (by simp)).cell (i := 3) rfl
              have u39 := (HG.out.2.2.grown hg9 (by simp)).cell (i := 3) rfl
              have H9 := Lib.hid hg9; clear hg9
              go_wp2_with fail
              exact ⟨⟨k + 1, s + 8, some r, hlt, rfl, congrArg (Value.int .i64) (by omega), by omega, gb_trans HG.out.1.g H9.out, HG.out.1.r.stay H9.out, Or.inr (congrArg some HRS.out)⟩, by show n2 - ((k : Int) + 1).toNat < n2 - (k : Int).toNat; omega⟩
          · have hw : took 2 t = 8 + t := rfl
            rw [hw] at hle HRS HD
            have f1 : ¬ (n1 : Int) < (s : Int) + 8 + (t : Int) := by omega
            cases d
            · have f3 : (((s : Int) + 8 + (t : Int)) == (n1 : Int)) = false := by have h7 := HD.out; have h8 := of_decide_eq_false h7.symm; rw [beq_eq_false_iff_ne]; omega
              go_wp2_with fail
              refine (sameBytes_eq _ _ t t cv c3 av a3 x x _ true (decide_eq_true rfl) HX.out.2.2.1.symm HX.out.2.2.1.symm HG.out.1.b HG.out.2.1).mono ?_
              rintro e w9 ⟨rfl, hg9⟩
              have v39 := (HG.out.1.k.grown hg9 (by simp)).cell (i := 3) rfl
              have u39 := (HG.out.2.2.grown hg9 (by simp)).cell (i := 3) rfl
              have H9 := Lib.hid hg9; clear hg9
              go_wp2_with fail
              exact ⟨⟨k + 1, s + (8 + t), some r, hlt, rfl, congrArg (Value.int .i64) (by omega), by omega, gb_trans HG.out.1.g H9.out, HG.out.1.r.stay H9.out, Or.inr (congrArg some HRS.out)⟩, by show n2 - ((k : Int) + 1).toNat < n2 - (k : Int).toNat; omega⟩
            · have f2 : (s : Int) + 8 + (t : Int) = (n1 : Int) := by have h7 := HD.out; have h8 := of_decide_eq_true h7.symm; omega
              go_wp2_with fail
              refine (sameBytes_eq _ _ t t cv c3 av a3 x x _ true (decide_eq_true rfl) HX.out.2.2.1.symm HX.out.2.2.1.symm HG.out.1.b HG.out.2.1).mono ?_
              rintro e w9 ⟨rfl, hg9⟩
              have v39 := (HG.out.1.k.grown hg9 (by simp)).cell (i := 3) rfl
              have u39 := (HG.out.2.2.grown hg9 (by simp)).cell (i := 3) rfl
              have H9 := Lib.hid hg9; clear hg9
              go_wp2_with fail
              exact ⟨⟨k + 1, s + (8 + t), some r, hlt, rfl, congrArg (Value.int .i64) (by omega), by omega, gb_trans HG.out.1.g H9.out, HG.out.1.r.stay H9.out, Or.inr (congrArg some HRS.out)⟩, by show n2 - ((k : Int) + 1).toNat < n2 - (k : Int).toNat; omega⟩
          · have hw : took 3 t = 8 := rfl
            rw [hw] at hle HRS HD
            have f1 : ¬ (n1 : Int) < (s : Int) + 8 := by omega
            cases d
            · have f3 : (((s : Int) + 8) == (n1 : Int)) = false := by have h7 := HD.out; have h8 := of_decide_eq_false h7.symm; rw [beq_eq_false_iff_ne]; omega
              go_wp2_with fail
              refine (sameBytes_eq _ _ t t cv c3 av a3 x x _ true (decide_eq_true rfl) HX.out.2.2.1.symm HX.out.2.2.1.symm HG.out.1.b HG.out.2.1).mono ?_
              rintro e w9 ⟨rfl, hg9⟩
              have v39 := (HG.out.1.k.grown hg9 (by simp)).cell (i := 3) rfl
              have u39 := (HG.out.2.2.grown hg9 (by simp)).cell (i := 3) rfl
              have H9 := Lib.hid hg9; clear hg9
              go_wp2_with fail
              exact ⟨⟨k + 1, s + 8, some r, hlt, rfl, congrArg (Value.int .i64) (by omega), by omega, gb_trans HG.out.1.g H9.out, HG.out.1.r.stay H9.out, Or.inr (congrArg some HRS.out)⟩, by show n2 - ((k : Int) + 1).toNat < n2 - (k : Int).toNat; omega⟩
            · have f2 : (s : Int) + 8 = (n1 : Int) := by have h7 := HD.out; have h8 := of_decide_eq_true h7.symm; omega
              go_wp2_with fail
              refine (sameBytes_eq _ _ t t cv c3 av a3 x x _ true (decide_eq_true rfl) HX.out.2.2.1.symm HX.out.2.2.1.symm HG.out.1.b HG.out.2.1).mono ?_
              rintro e w9 ⟨rfl, hg9⟩
              have v39 := (HG.out.1.k.grown hg9 (by simp)).cell (i := 3) rfl
              have u39 := (HG.out.2.2.grown hg9 (by simp)).cell (i := 3) rfl
              have H9 := Lib.hid hg9; clear hg9
              go_wp2_with fail
              exact ⟨⟨k + 1, s + 8, some r, hlt, rfl, congrArg (Value.int .i64) (by omega), by omega, gb_trans HG.out.1.g H9.out, HG.out.1.r.stay H9.out, Or.inr (congrArg some HRS.out)⟩, by show n2 - ((k : Int) + 1).toNat < n2 - (k : Int).toNat; omega⟩
    · obtain rfl : k = n2 := by omega
      have HG := Lib.hid hg; clear hg hr hst
      go_wp2
      go_ret
      exact ⟨rfl, HG.out⟩
end Go.Proofs.Ytjfclcoppedmoaa
