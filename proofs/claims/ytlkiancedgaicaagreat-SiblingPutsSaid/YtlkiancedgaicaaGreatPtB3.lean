/- texts merged, part 3: XSbChecked XSbGreat XVeArg0 XRcArg XSbArg XSbArgRoom XSame XVeSame XRcSame XSbSame XStep XRcInfo XSbOf XSbOwn XSbCompare XSbTake XSbSortLay XSbSort XRcOwnM XRcROwn XSbUnite -/
import Derived.Test.YtlkiancedgaicaaGreatPtB2
import Derived.Test.YtlkiancedgaicaaGreatPtB1
import Derived.Test.YtlkiancedgaicaaGreatChecked
import Derived.ProofKit
import Derived.OpenShut
import Derived.Deep.SlicePairs
import Derived.Deep.Slices
import Derived.Lib.SmallJoins
import Derived.SizedLaws
import Derived.ChangeArms
import Derived.WalkKit
import Derived.Lib.Hide
import Derived.WalkSpells
import Derived.WalkLawsBesides
import Derived.BigQuiet
import Derived.Deep.QuietTactic
import Derived.Outline
import Derived.Deep.RegionLaw
import Derived.Laws.ResultCell
import Derived.Laws.Externs
import Derived.Test.YtlkiancedgaicaaGreatProg
import Derived.Shelf.SlSortCmp.WholeK
import Derived.Shelf.SlSortCmp.NoneTotal
import Derived.Shelf.SlGeneric
/- checked: the row, if it is a right set, or a panic. -/
namespace Go.Proofs.YtlkiancedgaicaaGreat
open Go.RowKit Ow Wi Ve Rc
namespace Sb
theorem cells_of {w : World} {pb o : Nat} {s : ByteArray} {cl sq : Int} {a1 : Option Addr} {n1 c1 : Nat} {g : Bool} {a2 : Option Addr} {n2 c2 : Nat} {a3 : Option Addr} {n3 c3 : Nat} {key : List Nat} {cx : List D} {val sig : List Nat}
    (h : Cells7 w pb o (⟨s, a1, n1, c1, a2, n2, c2, a3, n3, c3⟩, ⟨key, cl, sq, cx, g, val, sig⟩)) : w.cell? ⟨pb, o, none⟩ = some (.string s) ∧ w.cell? ⟨pb, o + 1, none⟩ = some (iV cl) ∧ w.cell? ⟨pb, o + 2, none⟩ = some (iV sq) ∧ w.cell? ⟨pb, o + 3, none⟩ = some (.slice a1 n1 c1) ∧ w.cell? ⟨pb, o + 4, none⟩ = some (.bool g) ∧ w.cell? ⟨pb, o + 5, none⟩ = some (.slice a2 n2 c2) ∧ w.cell? ⟨pb, o + 6, none⟩ = some (.slice a3 n3 c3) :=
  ⟨h.c0, h.c1, h.c2, h.c3, h.c4, h.c5, h.c6⟩
set_option maxHeartbeats 1000000 in
set_option maxRecDepth 100000 in
theorem index_any (p : E → Bool) (N B n c : Nat) (a : Option Addr) (l : List E) (w : World) (hn : l.length = n) (h : RRow w B a l) (hc : n ≤ 1000000)
    (hp : ∀ w' x, w.grownBy w' none → Calls Tryz.prog 186 #[recV x, .pointer (some ⟨N, 0, none⟩)] w' fun e w'' => e = .returned (.bool (p x)) ∧ w'.grownBy w'' none) :
    Calls Tryz.prog 196 #[.slice a n c, .func (.func 186) #[] #[.pointer (some ⟨N, 0, none⟩)]] w fun e w' => ∃ r : Int, e = .returned (.int .i64 r) ∧ decide (0 ≤ r) = l.any p ∧ w.grownBy w' none := by
  have H := Lib.hid h; clear h
  have HN := Lib.hid hn; clear hn
  have HP := Lib.hid hp; clear hp
  obtain ⟨Q, hQ⟩ : ∃ Q : Ending → World → Prop, Q = fun e w' => ∃ r : Int, e = .returned (.int .i64 r) ∧ decide (0 ≤ r) = l.any p ∧ w.grownBy w' none := ⟨_, rfl⟩
  rw [← hQ]
  have HQ := Lib.hid hQ; clear hQ
  go_enter Tryz.func196, Tryz.ntmps196
  go_wp2
  go_loopw [8] (fun i wr => ∃ (k : Nat), k ≤ n ∧ i = .int .i64 k ∧ Hid (w.grownBy wr none ∧ ∀ j, j < k → p (l.getD j e0) = false)) (fun i _ => n - (intOf i).toNat)
  case atStart => exact ⟨0, by omega, rfl, gb_refl _ _, fun j hj => absurd hj (by omega)⟩
  case round =>
    obtain ⟨k, hk, rfl, HI⟩ := hrel
    by_cases hlt : k < n
    · have hl : 0 < l.length := by rw [HN.out]; omega
      obtain ⟨pb, po, rfl, hpb, hcs⟩ := (H.out.stay HI.out.1).at hl
      have hx := hcs k (by rw [HN.out]; exact hlt)
      have HT : Hid (∀ b, p (l.getD k e0) = b → (b = true → l.any p = true) ∧ (b = false → ∀ j, j < k + 1 → p (l.getD j e0) = false)) := by
        refine fun b hb => ⟨fun e => List.any_eq_true.2 ⟨_, getD_mem (by rw [HN.out]; exact hlt), hb.trans e⟩, fun e j hj => ?_⟩
        rcases (by omega : j < k ∨ j = k) with hj | rfl
        · exact HI.out.2 j hj
        · exact hb.trans e
      have hpk := fun w' hg => HP.out w' (l.getD k e0) hg
      generalize l.getD k e0 = x at *
      obtain ⟨⟨s, a1, n1, c1', a2, n2, c2', a3, n3, c3'⟩, ⟨key, cl, sq, cx, g, val, sig⟩⟩ := x
      obtain ⟨c0, c1, c2, c3, c4, c5, c6⟩ := cells_of hx
      obtain ⟨b, hb⟩ : ∃ b, p (⟨s, a1, n1, c1', a2, n2, c2', a3, n3, c3'⟩, ⟨key, cl, sq, cx, g, val, sig⟩) = b := ⟨_, rfl⟩
      rw [hb] at hpk
      replace HT := Lib.hid (HT.out b hb)
      have HK : Hid (∀ w', w.grownBy w' none → Calls Tryz.prog 186 #[vV s cl sq a1 n1 c1' g a2 n2 c2' a3 n3 c3', .pointer (some ⟨N, 0, none⟩)] w' fun e w'' => e = .returned (.bool b) ∧ w'.grownBy w'' none) := hpk
      clear hpk hx hcs hb
      have hi : (k : Int) < (n : Int) := by omega
      have HG := Lib.hid HI.out.1
      cases b with
      | true =>
        have HE : Hid (∀ w', w.grownBy w' none → Q (.returned (.int .i64 k)) w') := fun w' hg => by rw [HQ.out]; exact ⟨k, rfl, by rw [HT.out.1 rfl]; simp, hg⟩
        go_wp2_with (refine (HK.out _ HG.out).mono ?_; rintro e w2 ⟨rfl, hg⟩; have HG2 := Lib.hid (gb_trans HG.out hg); clear hg)
        exact HE.out _ HG2.out
      | false =>
        have HT2 := Lib.hid (HT.out.2 rfl)
        go_wp2_with (refine (HK.out _ HG.out).mono ?_; rintro e w2 ⟨rfl, hg⟩; have HG2 := Lib.hid (gb_trans HG.out hg); clear hg)
        exact ⟨⟨k + 1, by omega, rfl, HG2.out, HT2.out⟩, by show n - ((k : Int) + 1).toNat < n - (k : Int).toNat; omega⟩
    · obtain rfl : k = n := by omega
      have HE : Hid (Q (.returned (.int .i64 (-1))) wr) := by
        have e : l.any p = false := by
          rw [List.any_eq_false]
          intro x hx
          obtain ⟨i, hi, rfl⟩ := List.getElem_of_mem hx
          have := HI.out.2 i (by rw [← HN.out]; exact hi)
          rw [List.getD_eq_getElem?_getD, List.getElem?_eq_getElem hi] at this
          simpa using this
        show Q _ _
        rw [HQ.out]; exact ⟨-1, rfl, by rw [e]; rfl, HI.out.1⟩
      clear hlt
      go_wp2
      exact HE.out
set_option maxHeartbeats 1000000 in
theorem contains_any (p : E → Bool) (N B n c : Nat) (a : Option Addr) (l : List E) (w : World) (hn : l.length = n) (h : RRow w B a l) (hc : n ≤ 1000000)
    (hp : ∀ w' x, w.grownBy w' none → Calls Tryz.prog 186 #[recV x, .pointer (some ⟨N, 0, none⟩)] w' fun e w'' => e = .returned (.bool (p x)) ∧ w'.grownBy w'' none) :
    Calls Tryz.prog 143 #[.slice a n c, .func (.func 186) #[] #[.pointer (some ⟨N, 0, none⟩)]] w fun e w' => e = .returned (.bool (l.any p)) ∧ w.grownBy w' none := by
  have HI := Lib.hid (index_any p N B n c a l w hn h hc hp)
  clear h hp
  go_enter Tryz.func143, Tryz.ntmps143
  go_wp2_with (refine HI.out.mono ?_; rintro e w2 ⟨r, rfl, hr, hg⟩; have HG2 := Lib.hid (And.intro hr hg); clear hr hg)
  go_ret
  exact ⟨by show Ending.returned (.bool (decide (0 ≤ r))) = _; rw [HG2.out.1], HG2.out.2⟩
theorem gr_gb {w w' : World} (h : ∃ q os, w' = Sort.grow (w.drewN q) os) : w.grownBy w' none := by
  obtain ⟨q, os, rfl⟩ := h
  exact ⟨rfl, rfl, rfl, by show w.heap.size ≤ (w.heap ++ os).size; simp, fun k hk _ => by show (w.heap ++ os)[k]? = _; rw [Array.getElem?_append_left hk]⟩
theorem byDot_gb (x y : E) (w : World) : Calls Tryz.prog 129 #[recV x, recV y] w fun e w' => e = .returned (.int .i64 (cmpD x.2 y.2)) ∧ w.grownBy w' none :=
  (byDot_any x y w).mono fun _ _ ⟨he, hg⟩ => ⟨he, gr_gb hg⟩
theorem rises_get (l : List E) : risesB (recs l) = true ↔ ∀ i, i + 1 < l.length → lessD (l.getD i e0).2 (l.getD (i + 1) e0).2 = true := by
  induction l with
  | nil => simp [recs, risesB]
  | cons a l ih =>
    cases l with
    | nil => simp [recs, risesB]
    | cons b m =>
      show (lessD a.2 b.2 && risesB (recs (b :: m))) = true ↔ _
      rw [Bool.and_eq_true, ih]
      constructor
      · rintro ⟨h1, h2⟩ i hi
        cases i with
        | zero => exact h1
        | succ i => exact h2 i (by simpa using hi)
      · intro h
        exact ⟨h 0 (by simp), fun i hi => h (i + 1) (by simpa using hi)⟩
theorem alike_cx {l : List R} (h : alikeB l = true) : ∀ a ∈ l, Rt 0 a.cx := fun a ha => (shape_of (right_shape ((alike_iff l).1 h a ha).1)).2.2.2.1
def ChkOut (w : World) (l : List E) (v : Value) (e : Ending) (w' : World) : Prop := (setB (recs l) = true ∧ e = .returned v ∨ setB (recs l) = false ∧ Dies e) ∧ w.grownBy w' none
set_option maxHeartbeats 1000000 in
set_option maxRecDepth 100000 in
theorem checked_any (B n c : Nat) (a : Option Addr) (l : List E) (w : World) (hn : l.length = n) (h : RRow w B a l) (hc : n ≤ 1000000) :
    Calls Tryz.prog 84 #[.slice a n c] w (ChkOut w l (.slice a n c)) := by
  have HA := Lib.hid (alike_any B n c a l w hn h (by omega))
  have H := Lib.hid h; clear h
  have HN := Lib.hid hn; clear hn
  obtain ⟨Q, hQ⟩ : ∃ Q, Q = ChkOut w l (.slice a n c) := ⟨_, rfl⟩
  rw [← hQ]
  have HQ := Lib.hid hQ; clear hQ
  have HD : Hid (∀ e w', setB (recs l) = false → Dies e → w.grownBy w' none → Q e w') := fun e w' h1 h2 h3 => by rw [HQ.out]; exact ⟨Or.inr ⟨h1, h2⟩, h3⟩
  go_enter Tryz.func84, Tryz.ntmps84
  go_wp2_with fail
  refine HA.out.mono ?_
  rintro e w1 ⟨⟨hal, rfl⟩ | ⟨hal, ⟨u, pv, rfl⟩⟩, hg⟩
  · have HG1 := Lib.hid (And.intro hg hal); clear hg hal
    go_wp2
    go_loopw [9] (fun i wr => ∃ (k : Nat), (k : Int) ≤ n ∧ i = .int .i64 k ∧ Hid (w.grownBy wr none ∧ (n = 0 ∧ k = 0 ∨ k + 1 ≤ n) ∧ ∀ j, j < k → lessD (l.getD j e0).2 (l.getD (j + 1) e0).2 = true)) (fun i _ => n - (intOf i).toNat)
    case atStart => exact ⟨0, by omega, rfl, HG1.out.1, by omega, fun j hj => absurd hj (by omega)⟩
    case round =>
      obtain ⟨k, hk, rfl, HI⟩ := hrel
      by_cases hlt : k + 1 < n
      · have hl : 0 < l.length := by rw [HN.out]; omega
        obtain ⟨pb, po, rfl, hpb, hcs⟩ := (H.out.stay HI.out.1).at hl
        have hx := hcs k (by rw [HN.out]; omega)
        have hy := hcs (k + 1) (by rw [HN.out]; exact hlt)
        have HB := Lib.hid (fun w' => byDot_gb (l.getD k e0) (l.getD (k + 1) e0) w')
        have hcl := cmpD_lt (l.getD k e0).2 (l.getD (k + 1) e0).2
        have HK : Hid (∀ b, lessD (l.getD k e0).2 (l.getD (k + 1) e0).2 = b → (b = true → ∀ j, j < k + 1 → lessD (l.getD j e0).2 (l.getD (j + 1) e0).2 = true) ∧ (b = false → setB (recs l) = false)) := by
          refine fun b hb => ⟨fun e j hj => ?_, fun e => ?_⟩
          · rcases (by omega : j < k ∨ j = k) with hj | rfl
            · exact HI.out.2.2 j hj
            · exact hb.trans e
          · cases hs : setB (recs l) with
            | false => rfl
            | true =>
              have h2 := (rises_get l).1 ((rises_iff _).2 (set_of hs).2.1) k (by rw [HN.out]; exact hlt)
              rw [hb, e] at h2; cases h2
        generalize l.getD k e0 = x at *
        generalize l.getD (k + 1) e0 = y at *
        generalize cmpD x.2 y.2 = z at *
        obtain ⟨b, hb⟩ : ∃ b, lessD x.2 y.2 = b := ⟨_, rfl⟩
        rw [hb] at hcl
        replace HK := Lib.hid (HK.out b hb)
        clear hb hcs
        obtain ⟨⟨s, a1, n1, c1', a2, n2, c2', a3, n3, c3'⟩, ⟨key, cl, sq, cx, g, val, sig⟩⟩ := x
        obtain ⟨⟨s', a1', n1', d1', a2', n2', d2', a3', n3', d3'⟩, ⟨key', cl', sq', cx', g', val', sig'⟩⟩ := y
        have HX := Lib.hid (And.intro (cells_of hx) (cells_of hy)); clear hx hy
        replace HB : Hid (∀ w', Calls Tryz.prog 129 #[vV s cl sq a1 n1 c1' g a2 n2 c2' a3 n3 c3', vV s' cl' sq' a1' n1' d1' g' a2' n2' d2' a3' n3' d3'] w' fun e w'' => e = .returned (.int .i64 z) ∧ w'.grownBy w'' none) := HB
        have HZ := Lib.hid hcl; clear hcl
        have hi : (k : Int) < (n : Int) - 1 := by omega
        obtain ⟨w2, hw2⟩ : ∃ w2, w2 = wr := ⟨_, rfl⟩
        have HG2 := Lib.hid HI.out.1
        rw [← hw2] at HX HG2
        go_wp2_with fail
        rw [← hw2]
        clear hw2 hi
        cases b with
        | false =>
          have HF := Lib.hid (HK.out.2 rfl)
          clear HK
          refine Fg.region_t [] [.any, .any, .any, .any, .any, .any, .any, .any, .any, .any, .any, .any, .val (Value.slice (some ⟨pb, po, none⟩) n c), .val (Value.int .i64 k), .val (Value.pointer (some ⟨pb, po + k * 7, none⟩)), .val (vV s cl sq a1 n1 c1' g a2 n2 c2' a3 n3 c3'), .val (Value.slice (some ⟨pb, po, none⟩) n c), .val (Value.int .i64 k), .val (Value.int .i64 ((k : Int) + 1)), .val (Value.pointer (some ⟨pb, po + (k + 1) * 7, none⟩)), .val (vV s' cl' sq' a1' n1' d1' g' a2' n2' d2' a3' n3' d3'), .val (Value.int .i64 z), .val (Value.bool false)] w2 11 (gb_refl _ _) (by kernel_rfl) (by kernel_rfl) (by kernel_rfl) (by kernel_rfl) (by decide) (by kernel_rfl) ?_ ?_
          · refine ⟨Fg.vT rfl (by decide) fun ac w h => ?_, ?_⟩
            · have e0 : ac.tmps.getD 0 undef = Value.slice (some ⟨pb, po, none⟩) n c := h.rest 0 (by kernel_rfl)
              exact ⟨_, w, wants_none rfl, Fg.run_move rfl e0, gb_refl _ _, rfl⟩
            refine ⟨Fg.vT rfl (by decide) fun ac w h => ?_, ?_⟩
            · have e3 : ac.tmps.getD 3 undef = Value.int .i64 k := h.rest 3 (by kernel_rfl)
              exact ⟨_, w, wants_none rfl, Fg.run_move rfl e3, gb_refl _ _, rfl⟩
            refine ⟨Fg.vT rfl (by decide) fun ac w h => ?_, ?_⟩
            · have e12 : ac.tmps.getD 12 undef = Value.slice (some ⟨pb, po, none⟩) n c := h.dep 12 (by kernel_rfl)
              have e13 : ac.tmps.getD 13 undef = Value.int .i64 k := h.dep 13 (by kernel_rfl)
              have i0 : (k : Int) < (n : Int) := by omega
              refine ⟨.pointer (some ⟨pb, po + k * 7, none⟩), w, wants_none rfl, ?_, gb_refl _ _, rfl⟩
              clear h
              simp only [execOp, Act.eval, e12, e13]
              go_simp
            refine ⟨Fg.vT rfl (by decide) fun ac w h => ?_, ?_⟩
            · have e14 : ac.tmps.getD 14 undef = Value.pointer (some ⟨pb, po + k * 7, none⟩) := h.dep 14 (by kernel_rfl)
              have m0 : w.cell? ⟨pb, po + k * 7 , none⟩ = some (.string s) := by rw [gb_cell h.base (block_lt_of_cell (HX.out.1.1)) (by simp)]; exact HX.out.1.1
              have m1 : w.cell? ⟨pb, po + k * 7 + 1, none⟩ = some (iV cl) := by rw [gb_cell h.base (block_lt_of_cell (HX.out.1.2.1)) (by simp)]; exact HX.out.1.2.1
              have m2 : w.cell? ⟨pb, po + k * 7 + 2, none⟩ = some (iV sq) := by rw [gb_cell h.base (block_lt_of_cell (HX.out.1.2.2.1)) (by simp)]; exact HX.out.1.2.2.1
              have m3 : w.cell? ⟨pb, po + k * 7 + 3, none⟩ = some (.slice a1 n1 c1') := by rw [gb_cell h.base (block_lt_of_cell (HX.out.1.2.2.2.1)) (by simp)]; exact HX.out.1.2.2.2.1
              have m4 : w.cell? ⟨pb, po + k * 7 + 4, none⟩ = some (.bool g) := by rw [gb_cell h.base (block_lt_of_cell (HX.out.1.2.2.2.2.1)) (by simp)]; exact HX.out.1.2.2.2.2.1
              have m5 : w.cell? ⟨pb, po + k * 7 + 5, none⟩ = some (.slice a2 n2 c2') := by rw [gb_cell h.base (block_lt_of_cell (HX.out.1.2.2.2.2.2.1)) (by simp)]; exact HX.out.1.2.2.2.2.2.1
              have m6 : w.cell? ⟨pb, po + k * 7 + 6, none⟩ = some (.slice a3 n3 c3') := by rw [gb_cell h.base (block_lt_of_cell (HX.out.1.2.2.2.2.2.2)) (by simp)]; exact HX.out.1.2.2.2.2.2.2
              refine ⟨vV s cl sq a1 n1 c1' g a2 n2 c2' a3 n3 c3', w, wants_none rfl, ?_, gb_refl _ _, rfl⟩
              clear h
              simp only [execOp, Act.eval, e14]
              go_simp
            refine ⟨Fg.vT rfl (by decide) fun ac w h => ?_, ?_⟩
            · have e0 : ac.tmps.getD 0 undef = Value.slice (some ⟨pb, po, none⟩) n c := h.rest 0 (by kernel_rfl)
              exact ⟨_, w, wants_none rfl, Fg.run_move rfl e0, gb_refl _ _, rfl⟩
            refine ⟨Fg.vT rfl (by decide) fun ac w h => ?_, ?_⟩
            · have e3 : ac.tmps.getD 3 undef = Value.int .i64 k := h.rest 3 (by kernel_rfl)
              exact ⟨_, w, wants_none rfl, Fg.run_move rfl e3, gb_refl _ _, rfl⟩
            refine ⟨Fg.vT rfl (by decide) fun ac w h => ?_, ?_⟩
            · have e17 : ac.tmps.getD 17 undef = Value.int .i64 k := h.dep 17 (by kernel_rfl)
              have iw : IntKind.i64.wrap ((k : Int) + 1) = (k : Int) + 1 := by rw [IntKind.wrap_i64]; omega
              refine ⟨.int .i64 ((k : Int) + 1), w, wants_none rfl, ?_, gb_refl _ _, rfl⟩
              clear h
              simp only [execOp, Act.eval, e17]
              go_simp
            refine ⟨Fg.vT rfl (by decide) fun ac w h => ?_, ?_⟩
            · have e16 : ac.tmps.getD 16 undef = Value.slice (some ⟨pb, po, none⟩) n c := h.dep 16 (by kernel_rfl)
              have e18 : ac.tmps.getD 18 undef = Value.int .i64 ((k : Int) + 1) := h.dep 18 (by kernel_rfl)
              have i0 : (k : Int) + 1 < (n : Int) := by omega
              have i1 : ((k : Int) + 1).toNat = k + 1 := by omega
              have i2 : ¬ (k : Int) + 1 < 0 := by omega
              refine ⟨.pointer (some ⟨pb, po + (k + 1) * 7, none⟩), w, wants_none rfl, ?_, gb_refl _ _, rfl⟩
              clear h
              simp only [execOp, Act.eval, e16, e18]
              go_simp
            refine ⟨Fg.vT rfl (by decide) fun ac w h => ?_, ?_⟩
            · have e19 : ac.tmps.getD 19 undef = Value.pointer (some ⟨pb, po + (k + 1) * 7, none⟩) := h.dep 19 (by kernel_rfl)
              have m0 : w.cell? ⟨pb, po + (k + 1) * 7 , none⟩ = some (.string s') := by rw [gb_cell h.base (block_lt_of_cell (HX.out.2.1)) (by simp)]; exact HX.out.2.1
              have m1 : w.cell? ⟨pb, po + (k + 1) * 7 + 1, none⟩ = some (iV cl') := by rw [gb_cell h.base (block_lt_of_cell (HX.out.2.2.1)) (by simp)]; exact HX.out.2.2.1
              have m2 : w.cell? ⟨pb, po + (k + 1) * 7 + 2, none⟩ = some (iV sq') := by rw [gb_cell h.base (block_lt_of_cell (HX.out.2.2.2.1)) (by simp)]; exact HX.out.2.2.2.1
              have m3 : w.cell? ⟨pb, po + (k + 1) * 7 + 3, none⟩ = some (.slice a1' n1' d1') := by rw [gb_cell h.base (block_lt_of_cell (HX.out.2.2.2.2.1)) (by simp)]; exact HX.out.2.2.2.2.1
              have m4 : w.cell? ⟨pb, po + (k + 1) * 7 + 4, none⟩ = some (.bool g') := by rw [gb_cell h.base (block_lt_of_cell (HX.out.2.2.2.2.2.1)) (by simp)]; exact HX.out.2.2.2.2.2.1
              have m5 : w.cell? ⟨pb, po + (k + 1) * 7 + 5, none⟩ = some (.slice a2' n2' d2') := by rw [gb_cell h.base (block_lt_of_cell (HX.out.2.2.2.2.2.2.1)) (by simp)]; exact HX.out.2.2.2.2.2.2.1
              have m6 : w.cell? ⟨pb, po + (k + 1) * 7 + 6, none⟩ = some (.slice a3' n3' d3') := by rw [gb_cell h.base (block_lt_of_cell (HX.out.2.2.2.2.2.2.2)) (by simp)]; exact HX.out.2.2.2.2.2.2.2
              refine ⟨vV s' cl' sq' a1' n1' d1' g' a2' n2' d2' a3' n3' d3', w, wants_none rfl, ?_, gb_refl _ _, rfl⟩
              clear h
              simp only [execOp, Act.eval, e19]
              go_simp
            refine ⟨Fg.cT rfl (by decide) fun ac w h => ?_, ?_⟩
            · have e15 : ac.tmps.getD 15 undef = vV s cl sq a1 n1 c1' g a2 n2 c2' a3 n3 c3' := h.dep 15 (by kernel_rfl)
              have e20 : ac.tmps.getD 20 undef = vV s' cl' sq' a1' n1' d1' g' a2' n2' d2' a3' n3' d3' := h.dep 20 (by kernel_rfl)
              refine ⟨129, #[vV s cl sq a1 n1 c1' g a2 n2 c2' a3 n3 c3', vV s' cl' sq' a1' n1' d1' g' a2' n2' d2' a3' n3' d3'], wants_none rfl, Fg.run_call rfl rfl (by simp only [List.map_toArray, List.map_cons, List.map_nil, Act.eval, e15, e20]) (Fg.run_enter Tryz.func129 (by kernel_rfl) (by kernel_rfl)), ?_⟩
              exact (HB.out w).mono fun _ _ ⟨he, hg⟩ => ⟨_, he, hg, rfl⟩
            refine ⟨Fg.vT rfl (by decide) fun ac w h => ?_, ?_⟩
            · have e21 : ac.tmps.getD 21 undef = Value.int .i64 z := h.dep 21 (by kernel_rfl)
              have hz := HZ.out
              refine ⟨.bool false, w, wants_none rfl, ?_, gb_refl _ _, rfl⟩
              clear h
              simp only [execOp, Act.eval, e21]
              go_simp
            trivial
          · intro aq wq hB hsz hdf hrest hslots hpt
            obtain ⟨u10, e10⟩ : ∃ u, aq.tmps.getD 10 undef = u := ⟨_, rfl⟩
            obtain ⟨u11, e11⟩ : ∃ u, aq.tmps.getD 11 undef = u := ⟨_, rfl⟩
            obtain ⟨u12, e12⟩ : ∃ u, aq.tmps.getD 12 undef = u := ⟨_, rfl⟩
            obtain ⟨u13, e13⟩ : ∃ u, aq.tmps.getD 13 undef = u := ⟨_, rfl⟩
            obtain ⟨u14, e14⟩ : ∃ u, aq.tmps.getD 14 undef = u := ⟨_, rfl⟩
            obtain ⟨u15, e15⟩ : ∃ u, aq.tmps.getD 15 undef = u := ⟨_, rfl⟩
            obtain ⟨u16, e16⟩ : ∃ u, aq.tmps.getD 16 undef = u := ⟨_, rfl⟩
            obtain ⟨u17, e17⟩ : ∃ u, aq.tmps.getD 17 undef = u := ⟨_, rfl⟩
            obtain ⟨u18, e18⟩ : ∃ u, aq.tmps.getD 18 undef = u := ⟨_, rfl⟩
            obtain ⟨u19, e19⟩ : ∃ u, aq.tmps.getD 19 undef = u := ⟨_, rfl⟩
            obtain ⟨u20, e20⟩ : ∃ u, aq.tmps.getD 20 undef = u := ⟨_, rfl⟩
            obtain ⟨u21, e21⟩ : ∃ u, aq.tmps.getD 21 undef = u := ⟨_, rfl⟩
            have e22 : aq.tmps.getD 22 undef = Value.bool false := hslots 22 (by kernel_rfl)
            obtain rfl := Fg.frame_is (a := aq) (vs := [Value.slice (some ⟨pb, po, none⟩) n c, undef, Value.slice none 0 0, Value.int .i64 k, Value.slice (some ⟨pb, po, none⟩) n c, Value.tuple #[], Value.slice (some ⟨pb, po, none⟩) n c, Value.int .i64 n, Value.int .i64 ((n : Int) - 1), Value.int .i64 k, u10, u11, u12, u13, u14, u15, u16, u17, u18, u19, u20, u21, Value.bool false, u23, u24, undef, undef, undef, undef, undef, undef, undef]) hsz ⟨hrest 0 (by kernel_rfl), hrest 1 (by kernel_rfl), hrest 2 (by kernel_rfl), hrest 3 (by kernel_rfl), hrest 4 (by kernel_rfl), hrest 5 (by kernel_rfl), hrest 6 (by kernel_rfl), hrest 7 (by kernel_rfl), hrest 8 (by kernel_rfl), hrest 9 (by kernel_rfl), e10, e11, e12, e13, e14, e15, e16, e17, e18, e19, e20, e21, e22, hrest 23 (by kernel_rfl), hrest 24 (by kernel_rfl), hrest 25 (by kernel_rfl), hrest 26 (by kernel_rfl), hrest 27 (by kernel_rfl), hrest 28 (by kernel_rfl), hrest 29 (by kernel_rfl), hrest 30 (by kernel_rfl), hrest 31 (by kernel_rfl), trivial⟩ hdf
            clear hsz hdf hrest hslots hpt e10 e11 e12 e13 e14 e15 e16 e17 e18 e19 e20 e21 e22
            have HGq := Lib.hid (gb_trans HG2.out hB)
            clear hB
            go_wp2_with fail
            refine (smust_no wq).mono ?_
            rintro e w' ⟨⟨u, pv, rfl⟩, rfl⟩
            go_wp2
            exact ⟨rfl, HD.out _ _ HF.out ⟨u, pv, rfl⟩ HGq.out⟩
        | true =>
          have HF := Lib.hid (HK.out.1 rfl)
          clear HK
          refine Fg.region_t [] [.any, .any, .any, .any, .any, .any, .any, .any, .any, .any, .any, .any, .val (Value.slice (some ⟨pb, po, none⟩) n c), .val (Value.int .i64 k), .val (Value.pointer (some ⟨pb, po + k * 7, none⟩)), .val (vV s cl sq a1 n1 c1' g a2 n2 c2' a3 n3 c3'), .val (Value.slice (some ⟨pb, po, none⟩) n c), .val (Value.int .i64 k), .val (Value.int .i64 ((k : Int) + 1)), .val (Value.pointer (some ⟨pb, po + (k + 1) * 7, none⟩)), .val (vV s' cl' sq' a1' n1' d1' g' a2' n2' d2' a3' n3' d3'), .val (Value.int .i64 z), .val (Value.bool true)] w2 11 (gb_refl _ _) (by kernel_rfl) (by kernel_rfl) (by kernel_rfl) (by kernel_rfl) (by decide) (by kernel_rfl) ?_ ?_
          · refine ⟨Fg.vT rfl (by decide) fun ac w h => ?_, ?_⟩
            · have e0 : ac.tmps.getD 0 undef = Value.slice (some ⟨pb, po, none⟩) n c := h.rest 0 (by kernel_rfl)
              exact ⟨_, w, wants_none rfl, Fg.run_move rfl e0, gb_refl _ _, rfl⟩
            refine ⟨Fg.vT rfl (by decide) fun ac w h => ?_, ?_⟩
            · have e3 : ac.tmps.getD 3 undef = Value.int .i64 k := h.rest 3 (by kernel_rfl)
              exact ⟨_, w, wants_none rfl, Fg.run_move rfl e3, gb_refl _ _, rfl⟩
            refine ⟨Fg.vT rfl (by decide) fun ac w h => ?_, ?_⟩
            · have e12 : ac.tmps.getD 12 undef = Value.slice (some ⟨pb, po, none⟩) n c := h.dep 12 (by kernel_rfl)
              have e13 : ac.tmps.getD 13 undef = Value.int .i64 k := h.dep 13 (by kernel_rfl)
              have i0 : (k : Int) < (n : Int) := by omega
              refine ⟨.pointer (some ⟨pb, po + k * 7, none⟩), w, wants_none rfl, ?_, gb_refl _ _, rfl⟩
              clear h
              simp only [execOp, Act.eval, e12, e13]
              go_simp
            refine ⟨Fg.vT rfl (by decide) fun ac w h => ?_, ?_⟩
            · have e14 : ac.tmps.getD 14 undef = Value.pointer (some ⟨pb, po + k * 7, none⟩) := h.dep 14 (by kernel_rfl)
              have m0 : w.cell? ⟨pb, po + k * 7 , none⟩ = some (.string s) := by rw [gb_cell h.base (block_lt_of_cell (HX.out.1.1)) (by simp)]; exact HX.out.1.1
              have m1 : w.cell? ⟨pb, po + k * 7 + 1, none⟩ = some (iV cl) := by rw [gb_cell h.base (block_lt_of_cell (HX.out.1.2.1)) (by simp)]; exact HX.out.1.2.1
              have m2 : w.cell? ⟨pb, po + k * 7 + 2, none⟩ = some (iV sq) := by rw [gb_cell h.base (block_lt_of_cell (HX.out.1.2.2.1)) (by simp)]; exact HX.out.1.2.2.1
              have m3 : w.cell? ⟨pb, po + k * 7 + 3, none⟩ = some (.slice a1 n1 c1') := by rw [gb_cell h.base (block_lt_of_cell (HX.out.1.2.2.2.1)) (by simp)]; exact HX.out.1.2.2.2.1
              have m4 : w.cell? ⟨pb, po + k * 7 + 4, none⟩ = some (.bool g) := by rw [gb_cell h.base (block_lt_of_cell (HX.out.1.2.2.2.2.1)) (by simp)]; exact HX.out.1.2.2.2.2.1
              have m5 : w.cell? ⟨pb, po + k * 7 + 5, none⟩ = some (.slice a2 n2 c2') := by rw [gb_cell h.base (block_lt_of_cell (HX.out.1.2.2.2.2.2.1)) (by simp)]; exact HX.out.1.2.2.2.2.2.1
              have m6 : w.cell? ⟨pb, po + k * 7 + 6, none⟩ = some (.slice a3 n3 c3') := by rw [gb_cell h.base (block_lt_of_cell (HX.out.1.2.2.2.2.2.2)) (by simp)]; exact HX.out.1.2.2.2.2.2.2
              refine ⟨vV s cl sq a1 n1 c1' g a2 n2 c2' a3 n3 c3', w, wants_none rfl, ?_, gb_refl _ _, rfl⟩
              clear h
              simp only [execOp, Act.eval, e14]
              go_simp
            refine ⟨Fg.vT rfl (by decide) fun ac w h => ?_, ?_⟩
            · have e0 : ac.tmps.getD 0 undef = Value.slice (some ⟨pb, po, none⟩) n c := h.rest 0 (by kernel_rfl)
              exact ⟨_, w, wants_none rfl, Fg.run_move rfl e0, gb_refl _ _, rfl⟩
            refine ⟨Fg.vT rfl (by decide) fun ac w h => ?_, ?_⟩
            · have e3 : ac.tmps.getD 3 undef = Value.int .i64 k := h.rest 3 (by kernel_rfl)
              exact ⟨_, w, wants_none rfl, Fg.run_move rfl e3, gb_refl _ _, rfl⟩
            refine ⟨Fg.vT rfl (by decide) fun ac w h => ?_, ?_⟩
            · have e17 : ac.tmps.getD 17 undef = Value.int .i64 k := h.dep 17 (by kernel_rfl)
              have iw : IntKind.i64.wrap ((k : Int) + 1) = (k : Int) + 1 := by rw [IntKind.wrap_i64]; omega
              refine ⟨.int .i64 ((k : Int) + 1), w, wants_none rfl, ?_, gb_refl _ _, rfl⟩
              clear h
              simp only [execOp, Act.eval, e17]
              go_simp
            refine ⟨Fg.vT rfl (by decide) fun ac w h => ?_, ?_⟩
            · have e16 : ac.tmps.getD 16 undef = Value.slice (some ⟨pb, po, none⟩) n c := h.dep 16 (by kernel_rfl)
              have e18 : ac.tmps.getD 18 undef = Value.int .i64 ((k : Int) + 1) := h.dep 18 (by kernel_rfl)
              have i0 : (k : Int) + 1 < (n : Int) := by omega
              have i1 : ((k : Int) + 1).toNat = k + 1 := by omega
              have i2 : ¬ (k : Int) + 1 < 0 := by omega
              refine ⟨.pointer (some ⟨pb, po + (k + 1) * 7, none⟩), w, wants_none rfl, ?_, gb_refl _ _, rfl⟩
              clear h
              simp only [execOp, Act.eval, e16, e18]
              go_simp
            refine ⟨Fg.vT rfl (by decide) fun ac w h => ?_, ?_⟩
            · have e19 : ac.tmps.getD 19 undef = Value.pointer (some ⟨pb, po + (k + 1) * 7, none⟩) := h.dep 19 (by kernel_rfl)
              have m0 : w.cell? ⟨pb, po + (k + 1) * 7 , none⟩ = some (.string s') := by rw [gb_cell h.base (block_lt_of_cell (HX.out.2.1)) (by simp)]; exact HX.out.2.1
              have m1 : w.cell? ⟨pb, po + (k + 1) * 7 + 1, none⟩ = some (iV cl') := by rw [gb_cell h.base (block_lt_of_cell (HX.out.2.2.1)) (by simp)]; exact HX.out.2.2.1
              have m2 : w.cell? ⟨pb, po + (k + 1) * 7 + 2, none⟩ = some (iV sq') := by rw [gb_cell h.base (block_lt_of_cell (HX.out.2.2.2.1)) (by simp)]; exact HX.out.2.2.2.1
              have m3 : w.cell? ⟨pb, po + (k + 1) * 7 + 3, none⟩ = some (.slice a1' n1' d1') := by rw [gb_cell h.base (block_lt_of_cell (HX.out.2.2.2.2.1)) (by simp)]; exact HX.out.2.2.2.2.1
              have m4 : w.cell? ⟨pb, po + (k + 1) * 7 + 4, none⟩ = some (.bool g') := by rw [gb_cell h.base (block_lt_of_cell (HX.out.2.2.2.2.2.1)) (by simp)]; exact HX.out.2.2.2.2.2.1
              have m5 : w.cell? ⟨pb, po + (k + 1) * 7 + 5, none⟩ = some (.slice a2' n2' d2') := by rw [gb_cell h.base (block_lt_of_cell (HX.out.2.2.2.2.2.2.1)) (by simp)]; exact HX.out.2.2.2.2.2.2.1
              have m6 : w.cell? ⟨pb, po + (k + 1) * 7 + 6, none⟩ = some (.slice a3' n3' d3') := by rw [gb_cell h.base (block_lt_of_cell (HX.out.2.2.2.2.2.2.2)) (by simp)]; exact HX.out.2.2.2.2.2.2.2
              refine ⟨vV s' cl' sq' a1' n1' d1' g' a2' n2' d2' a3' n3' d3', w, wants_none rfl, ?_, gb_refl _ _, rfl⟩
              clear h
              simp only [execOp, Act.eval, e19]
              go_simp
            refine ⟨Fg.cT rfl (by decide) fun ac w h => ?_, ?_⟩
            · have e15 : ac.tmps.getD 15 undef = vV s cl sq a1 n1 c1' g a2 n2 c2' a3 n3 c3' := h.dep 15 (by kernel_rfl)
              have e20 : ac.tmps.getD 20 undef = vV s' cl' sq' a1' n1' d1' g' a2' n2' d2' a3' n3' d3' := h.dep 20 (by kernel_rfl)
              refine ⟨129, #[vV s cl sq a1 n1 c1' g a2 n2 c2' a3 n3 c3', vV s' cl' sq' a1' n1' d1' g' a2' n2' d2' a3' n3' d3'], wants_none rfl, Fg.run_call rfl rfl (by simp only [List.map_toArray, List.map_cons, List.map_nil, Act.eval, e15, e20]) (Fg.run_enter Tryz.func129 (by kernel_rfl) (by kernel_rfl)), ?_⟩
              exact (HB.out w).mono fun _ _ ⟨he, hg⟩ => ⟨_, he, hg, rfl⟩
            refine ⟨Fg.vT rfl (by decide) fun ac w h => ?_, ?_⟩
            · have e21 : ac.tmps.getD 21 undef = Value.int .i64 z := h.dep 21 (by kernel_rfl)
              have hz := HZ.out
              refine ⟨.bool true, w, wants_none rfl, ?_, gb_refl _ _, rfl⟩
              clear h
              simp only [execOp, Act.eval, e21]
              go_simp
            trivial
          · intro aq wq hB hsz hdf hrest hslots hpt
            obtain ⟨u10, e10⟩ : ∃ u, aq.tmps.getD 10 undef = u := ⟨_, rfl⟩
            obtain ⟨u11, e11⟩ : ∃ u, aq.tmps.getD 11 undef = u := ⟨_, rfl⟩
            obtain ⟨u12, e12⟩ : ∃ u, aq.tmps.getD 12 undef = u := ⟨_, rfl⟩
            obtain ⟨u13, e13⟩ : ∃ u, aq.tmps.getD 13 undef = u := ⟨_, rfl⟩
            obtain ⟨u14, e14⟩ : ∃ u, aq.tmps.getD 14 undef = u := ⟨_, rfl⟩
            obtain ⟨u15, e15⟩ : ∃ u, aq.tmps.getD 15 undef = u := ⟨_, rfl⟩
            obtain ⟨u16, e16⟩ : ∃ u, aq.tmps.getD 16 undef = u := ⟨_, rfl⟩
            obtain ⟨u17, e17⟩ : ∃ u, aq.tmps.getD 17 undef = u := ⟨_, rfl⟩
            obtain ⟨u18, e18⟩ : ∃ u, aq.tmps.getD 18 undef = u := ⟨_, rfl⟩
            obtain ⟨u19, e19⟩ : ∃ u, aq.tmps.getD 19 undef = u := ⟨_, rfl⟩
            obtain ⟨u20, e20⟩ : ∃ u, aq.tmps.getD 20 undef = u := ⟨_, rfl⟩
            obtain ⟨u21, e21⟩ : ∃ u, aq.tmps.getD 21 undef = u := ⟨_, rfl⟩
            have e22 : aq.tmps.getD 22 undef = Value.bool true := hslots 22 (by kernel_rfl)
            obtain rfl := Fg.frame_is (a := aq) (vs := [Value.slice (some ⟨pb, po, none⟩) n c, undef, Value.slice none 0 0, Value.int .i64 k, Value.slice (some ⟨pb, po, none⟩) n c, Value.tuple #[], Value.slice (some ⟨pb, po, none⟩) n c, Value.int .i64 n, Value.int .i64 ((n : Int) - 1), Value.int .i64 k, u10, u11, u12, u13, u14, u15, u16, u17, u18, u19, u20, u21, Value.bool true, u23, u24, undef, undef, undef, undef, undef, undef, undef]) hsz ⟨hrest 0 (by kernel_rfl), hrest 1 (by kernel_rfl), hrest 2 (by kernel_rfl), hrest 3 (by kernel_rfl), hrest 4 (by kernel_rfl), hrest 5 (by kernel_rfl), hrest 6 (by kernel_rfl), hrest 7 (by kernel_rfl), hrest 8 (by kernel_rfl), hrest 9 (by kernel_rfl), e10, e11, e12, e13, e14, e15, e16, e17, e18, e19, e20, e21, e22, hrest 23 (by kernel_rfl), hrest 24 (by kernel_rfl), hrest 25 (by kernel_rfl), hrest 26 (by kernel_rfl), hrest 27 (by kernel_rfl), hrest 28 (by kernel_rfl), hrest 29 (by kernel_rfl), hrest 30 (by kernel_rfl), hrest 31 (by kernel_rfl), trivial⟩ hdf
            clear hsz hdf hrest hslots hpt e10 e11 e12 e13 e14 e15 e16 e17 e18 e19 e20 e21 e22
            have HGq := Lib.hid (gb_trans HG2.out hB)
            clear hB
            go_wp2_with fail
            refine (smust_yes wq).mono ?_
            rintro e w' ⟨rfl, rfl⟩
            go_wp2
            exact ⟨⟨k + 1, by omega, rfl, HGq.out, Or.inr (by omega), HF.out⟩, by show n - ((k : Int) + 1).toNat < n - (k : Int).toNat; omega⟩
      · have hm : ¬ (k : Int) < (n : Int) - 1 := by omega
        have hal := HG1.out.2
        have hri : risesB (recs l) = true := (rises_get l).2 fun i hi => HI.out.2.2 i (by rw [HN.out] at hi; omega)
        have HU := Lib.hid (under_any B n c a l wr HN.out (H.out.stay HI.out.1) hc)
        have HG2 := Lib.hid HI.out.1
        have HS : Hid (setB (recs l) = !(l.any fun x => underB (recs l) x.2)) := by
          show setB (recs l) = _
          unfold setB
          rw [hal, hri]
          simp [recs, List.any_map, Function.comp_def]
        have HCX := Lib.hid (alike_cx hal)
        clear hal hri hlt
        go_wp2_with fail
        refine HU.out.mono ?_
        rintro e w2 ⟨N, rfl, hg, hU⟩
        have HG3 := Lib.hid (gb_trans HG2.out hg)
        have HC := Lib.hid (contains_any (fun x => underB (recs l) x.2) N B n c a l w2 HN.out (H.out.stay (gb_trans HG2.out hg)) hc (fun w' x hg' => says_any N l x w' (hU.stay hg') HCX.out))
        clear hg hU
        obtain ⟨b, hb⟩ : ∃ b, (l.any fun x => underB (recs l) x.2) = b := ⟨_, rfl⟩
        rw [hb] at HC HS
        clear hb
        go_wp2_with fail
        refine HC.out.mono ?_
        rintro e w3 ⟨rfl, hg⟩
        have HG4 := Lib.hid (gb_trans HG3.out hg); clear hg
        cases b with
        | true =>
          go_wp2_with fail
          refine (smust_no w3).mono ?_
          rintro e w' ⟨⟨u, pv, rfl⟩, rfl⟩
          exact ⟨rfl, HD.out _ _ HS.out ⟨u, pv, rfl⟩ HG4.out⟩
        | false =>
          have HE : Hid (Q (.returned (.slice a n c)) w3) := by show Q _ _; rw [HQ.out]; exact ⟨Or.inl ⟨HS.out, rfl⟩, HG4.out⟩
          go_wp2_with fail
          refine (smust_yes w3).mono ?_
          rintro e w' ⟨rfl, rfl⟩
          go_wp2
          exact HE.out
  · exact ⟨rfl, HD.out _ _ (by unfold setB; rw [hal]; rfl) ⟨u, pv, rfl⟩ hg⟩
end Sb
end Go.Proofs.YtlkiancedgaicaaGreat

/- How much there is: RecordOf, RecordsOf, great. -/
namespace Go.Proofs.YtlkiancedgaicaaGreat
open Go.RowKit Ow Wi Ve Rc
namespace Sb
/-- what a record counts -/
def cntE (x : E) : Nat := 1 + x.1.n1 + (x.1.s.size + x.1.n2 + x.1.n3) / 8
/-- no record is too long to be counted -/
def Fits (x : E) : Prop := x.1.n1 < 1000000000000000 ∧ x.1.s.size + x.1.n2 + x.1.n3 < 1000000000000000
theorem cnt_lt {x : E} (h : Fits x) : cntE x < 2000000000000000 := by unfold cntE; have := h.1; have := h.2; omega
set_option maxHeartbeats 1000000 in
theorem recordOf_any (x : E) (w : World) (h : Fits x) : Calls Tryz.prog 123 #[recV x] w fun e w' => e = .returned (.int .i64 (cntE x)) ∧ w.grownBy w' none := by
  obtain ⟨Q, hQ⟩ : ∃ Q : Ending → World → Prop, Q = fun e w' => e = .returned (.int .i64 (cntE x)) ∧ w.grownBy w' none := ⟨_, rfl⟩
  rw [← hQ]
  have HQ := Lib.hid hQ; clear hQ
  obtain ⟨⟨s, a1, n1, c1, a2, n2, c2, a3, n3, c3⟩, ⟨key, cl, sq, cx, g, val, sig⟩⟩ := x
  have h1 : n1 < 1000000000000000 := h.1
  have h2 : s.size + n2 + n3 < 1000000000000000 := h.2
  have hd : (((s.size + n2 + n3 : Nat) : Int)).tdiv 8 = (((s.size + n2 + n3) / 8 : Nat) : Int) := by rw [Int.tdiv_eq_ediv_of_nonneg (by omega)]; rfl
  obtain ⟨W1, hW1⟩ : ∃ W1, W1 = w.alloc (.cells #[.string s, iV cl, iV sq, .slice a1 n1 c1, .bool g, .slice a2 n2 c2, .slice a3 n3 c3] 66) := ⟨_, rfl⟩
  obtain ⟨N, hN⟩ : ∃ N, N = w.heap.size := ⟨_, rfl⟩
  have hb : Blk W1 N 66 [.string s, iV cl, iV sq, .slice a1 n1 c1, .bool g, .slice a2 n2 c2, .slice a3 n3 c3] := by rw [hW1]; exact blk_at _ _ _ hN.symm
  have x0 := hb.cell (i := 0) rfl
  have x3 := hb.cell (i := 3) rfl
  have x5 := hb.cell (i := 5) rfl
  have x6 := hb.cell (i := 6) rfl
  have HE : Hid (∀ z : Int, z = 1 + (n1 : Int) + ((s.size + n2 + n3) / 8 : Nat) → Q (.returned (.int .i64 z)) W1) := fun z hz => by
    rw [HQ.out]
    refine ⟨?_, by rw [hW1]; exact gb_alloc (gb_refl _ _) _⟩
    show _ = Ending.returned (.int .i64 ((1 + n1 + (s.size + n2 + n3) / 8 : Nat) : Int))
    rw [hz]; congr 2
  show Calls _ _ #[vV s cl sq a1 n1 c1 g a2 n2 c2 a3 n3 c3] w Q
  clear hb h
  have w1 : IntKind.i64.wrap ((s.size : Int) + n2) = ((s.size + n2 : Nat) : Int) := by rw [IntKind.wrap_i64]; omega
  have w2 : IntKind.i64.wrap (((s.size + n2 : Nat) : Int) + n3) = ((s.size + n2 + n3 : Nat) : Int) := by rw [IntKind.wrap_i64]; omega
  go_enter Tryz.func123, Tryz.ntmps123
  go_upto_region 1 with fail
  rw [← hW1, ← hN]
  clear hW1 hN
  go_wp2
  exact HE.out _ (by omega)
def sumC (l : List E) : Nat := (l.map cntE).sum
theorem sumC_next (l : List E) (k : Nat) (h : k < l.length) : sumC (l.take (k + 1)) = sumC (l.take k) + cntE (l.getD k e0) := by
  unfold sumC
  rw [List.take_add_one, List.getElem?_eq_getElem h, List.map_append, List.sum_append, List.getD_eq_getElem?_getD, List.getElem?_eq_getElem h]
  simp
def CountOut (w : World) (most s : Nat) (e : Ending) (w' : World) : Prop := ∃ z : Nat, e = .returned (.int .i64 z) ∧ z < 3000000000000000 ∧ (z ≤ most → z = s) ∧ w.grownBy w' none
set_option maxHeartbeats 1000000 in
theorem recordsOf_any (B n c most : Nat) (a : Option Addr) (l : List E) (w : World) (hn : l.length = n) (h : RRow w B a l) (hb : n < 9223372036854775808) (hf : ∀ x ∈ l, Fits x) (hm : most ≤ 2500) :
    Calls Tryz.prog 67 #[.slice a n c, .int .i64 most] w (CountOut w most (sumC l)) := by
  have HN := Lib.hid (And.intro hn (And.intro h hf))
  obtain ⟨Q, hQ⟩ : ∃ Q, Q = CountOut w most (sumC l) := ⟨_, rfl⟩
  rw [← hQ]
  have HQ := Lib.hid hQ; clear hQ h hn hf
  go_enter Tryz.func67, Tryz.ntmps67
  go_wp2_with fail
  go_loopw [5, 6] (fun u i wr => ∃ (k z : Nat), k ≤ n ∧ u = .int .i64 z ∧ i = .int .i64 k ∧ z < 3000000000000000 ∧ Hid (w.grownBy wr none ∧ z = sumC (l.take k))) (fun _ i _ => n - (intOf i).toNat)
  case atStart => exact ⟨0, 0, by omega, rfl, rfl, by omega, gb_refl _ _, rfl⟩
  case round =>
    obtain ⟨k, z, hk, rfl, rfl, hz, HI⟩ := hrel
    by_cases hlt : k < n
    · have hi : (k : Int) < (n : Int) := by omega
      by_cases hzm : z ≤ most
      · have hi2 : (z : Int) ≤ (most : Int) := by omega
        have hl : 0 < l.length := by rw [HN.out.1]; omega
        obtain ⟨pb, po, rfl, hpb, hcs⟩ := (HN.out.2.1.stay HI.out.1).at hl
        have hx := hcs k (by rw [HN.out.1]; exact hlt)
        have hnx := sumC_next l k (by rw [HN.out.1]; exact hlt)
        have hfx := HN.out.2.2 _ (getD_mem (l := l) (i := k) (by rw [HN.out.1]; exact hlt))
        have HR := Lib.hid (fun w' => recordOf_any (l.getD k e0) w' hfx)
        have hcl := cnt_lt hfx
        generalize l.getD k e0 = x at *
        rw [← HI.out.2] at hnx
        generalize cntE x = cv at *
        obtain ⟨⟨s, a1, n1, c1', a2, n2, c2', a3, n3, c3'⟩, ⟨key, cl, sq, cx, g, val, sig⟩⟩ := x
        obtain ⟨c0, c1, c2, c3, c4, c5, c6⟩ := cells_of hx
        replace HR : Hid (∀ w', Calls Tryz.prog 123 #[vV s cl sq a1 n1 c1' g a2 n2 c2' a3 n3 c3'] w' fun e w'' => e = .returned (.int .i64 cv) ∧ w'.grownBy w'' none) := HR
        have HNX := Lib.hid hnx
        clear hx hcs hfx hnx
        go_wp2_with fail
        refine (HR.out _).mono ?_
        rintro e w2 ⟨rfl, hg⟩
        have HG2 := Lib.hid (gb_trans HI.out.1 hg); clear hg
        go_wp2
        exact ⟨⟨k + 1, z + cv, by omega, rfl, rfl, by omega, HG2.out, HNX.out.symm⟩, by show n - ((k : Int) + 1).toNat < n - (k : Int).toNat; omega⟩
      · have hi2 : ¬ (z : Int) ≤ (most : Int) := by omega
        have HE : Hid (Q (.returned (.int .i64 z)) wr) := by show Q _ _; rw [HQ.out]; exact ⟨z, rfl, hz, fun h => absurd h hzm, HI.out.1⟩
        go_wp2
        exact HE.out
    · obtain rfl : k = n := by omega
      have HE : Hid (Q (.returned (.int .i64 z)) wr) := by
        show Q _ _; rw [HQ.out]
        refine ⟨z, rfl, hz, fun _ => ?_, HI.out.1⟩
        rw [HI.out.2, List.take_of_length_le (by have := HN.out.1; omega)]
      clear hlt
      go_wp2
      exact HE.out
theorem sumS_next (S : List (List E)) (k : Nat) (h : k < S.length) : ((S.take (k + 1)).map sumC).sum = ((S.take k).map sumC).sum + sumC (S.getD k []) := by
  rw [List.take_add_one, List.getElem?_eq_getElem h, List.map_append, List.sum_append, List.getD_eq_getElem?_getD, List.getElem?_eq_getElem h]
  simp
theorem getS_mem {S : List (List E)} {k : Nat} (h : k < S.length) : S.getD k [] ∈ S := by
  rw [List.getD_eq_getElem?_getD, List.getElem?_eq_getElem h]; exact List.getElem_mem _
def GreatOut (w : World) (s : Nat) (e : Ending) (w' : World) : Prop := ∃ b : Bool, e = .returned (.bool b) ∧ (b = false → s ≤ 2500) ∧ w.grownBy w' none
set_option maxHeartbeats 1000000 in
set_option maxRecDepth 100000 in
theorem great_any (m cap B : Nat) (S : List (List E)) (a : Option Addr) (w : World) (hm : S.length = m) (hS : SRow w B a S) (hm2 : m < 9223372036854775808) (hl : ∀ p ∈ S, p.length < 9223372036854775808) (hf : ∀ x ∈ S.flatten, Fits x) :
    Calls Tryz.prog 34 #[.slice a m cap] w (GreatOut w (m + (S.map sumC).sum)) := by
  have HN := Lib.hid (And.intro hm (And.intro hS (And.intro hl hf)))
  obtain ⟨Q, hQ⟩ : ∃ Q, Q = GreatOut w (m + (S.map sumC).sum) := ⟨_, rfl⟩
  rw [← hQ]
  have HQ := Lib.hid hQ; clear hQ hm hS hl hf
  go_enter Tryz.func34, Tryz.ntmps34
  go_wp2_with fail
  go_loopw [3, 4] (fun u i wr => ∃ (k o : Nat), k ≤ m ∧ u = .int .i64 o ∧ i = .int .i64 k ∧ o < 9223372036854775808 ∧ Hid (w.grownBy wr none ∧ (o ≤ 2500 → o = m + ((S.take k).map sumC).sum))) (fun _ i _ => m - (intOf i).toNat)
  case atStart => exact ⟨0, m, by omega, rfl, rfl, hm2, gb_refl _ _, fun _ => rfl⟩
  case round =>
    obtain ⟨k, o, hk, rfl, rfl, ho, HI⟩ := hrel
    by_cases hlt : k < m
    · have hi : (k : Int) < (m : Int) := by omega
      by_cases hom : o ≤ 2500
      · have hi2 : (o : Int) ≤ 2500 := by omega
        have hkl : k < S.length := by rw [HN.out.1]; exact hlt
        obtain ⟨pb, po, ai, ci, rfl, hpb, hcell, hrow, _⟩ := (HN.out.2.1.stay HI.out.1).at hkl
        have hnx := sumS_next S k hkl
        have heq := HI.out.2 hom
        have HR := Lib.hid (recordsOf_any B (S.getD k []).length ci (2500 - o) ai (S.getD k []) wr rfl hrow (HN.out.2.2.1 _ (getS_mem hkl)) (fun x hx => HN.out.2.2.2 x (List.mem_flatten.2 ⟨_, getS_mem hkl, hx⟩)) (by omega))
        rw [show (((2500 - o : Nat)) : Int) = 2500 - min (o : Int) 2500 by omega] at HR
        generalize (S.getD k []) = p at *
        have HNX := Lib.hid (And.intro hnx heq); clear hnx heq hrow
        go_wp2_with fail
        refine HR.out.mono ?_
        rintro e w2 ⟨z, rfl, hz, hzs, hg⟩
        have HG2 := Lib.hid (gb_trans HI.out.1 hg); clear hg
        have HZ : Hid (o + z ≤ 2500 → o + z = m + ((S.take (k + 1)).map sumC).sum) := fun h => by
          have := hzs (by omega)
          rw [HNX.out.1, ← Nat.add_assoc, ← HNX.out.2, this]
        clear hzs
        go_wp2
        exact ⟨⟨k + 1, o + z, by omega, rfl, rfl, by omega, HG2.out, HZ.out⟩, by show m - ((k : Int) + 1).toNat < m - (k : Int).toNat; omega⟩
      · have hi2 : ¬ (o : Int) ≤ 2500 := by omega
        have hi3 : (o : Int) > 2500 := by omega
        have HE : Hid (Q (.returned (.bool true)) wr) := by show Q _ _; rw [HQ.out]; exact ⟨true, rfl, fun h => (by simp at h), HI.out.1⟩
        go_wp2
        exact HE.out
    · obtain rfl : k = m := by omega
      have HE : Hid (∀ b, b = decide ((o : Int) > 2500) → Q (.returned (.bool b)) wr) := fun b hb => by
        rw [HQ.out]
        refine ⟨b, rfl, fun h => ?_, HI.out.1⟩
        have ho2 : o ≤ 2500 := by rw [h] at hb; have := of_decide_eq_false hb.symm; omega
        rw [← show (S.take k) = S from List.take_of_length_le (by have := HN.out.1; omega), ← HI.out.2 ho2]; exact ho2
      clear hlt
      go_wp2
      refine HE.out _ ?_
      rfl
end Sb
end Go.Proofs.YtlkiancedgaicaaGreat

/- A law's arguments: rows of dots, dots. -/
namespace Go.Proofs.YtlkiancedgaicaaGreat
open Go.ChangeShapes Go.WideShapes Go.ChangeAt Go.RowKit Go.Deep Go.Joins Ve
namespace Ve
theorem int_of {H : Type} {enc : TypeId × Value → H} {W : World} {base n : Nat} {sp : Nat → Bool} {hd : Bool} {v : Value} {x : DataW H × List MemPlace} (h : DataW.trod enc Tryz.prog W base sp hd n 3 [v] = some x) : ∃ k, v = iV k := by
  obtain ⟨k, hk, _⟩ := DataW.trod_int Tryz.underlying3 h
  exact ⟨k, by simpa using hk⟩
theorem spot0 {W : World} {x : Addr} {v : Value} (h : W.cell? (x.add 0) = some v) : ∃ b off, x = ⟨b, off, none⟩ ∧ b < W.heap.size := by
  obtain ⟨b, off, spot⟩ := x
  have hspot : spot = none := by simpa [Addr.add] using World.cell?_spot h
  subst hspot
  exact ⟨b, off, rfl, by simpa [Addr.add] using block_lt_of_cell h⟩
theorem range_getD' {α : Type} (f : Nat → α) (n i : Nat) (z : α) (h : i < n) : ((List.range n).map f).getD i z = f i := by
  rw [List.getD_eq_getElem?_getD, List.getElem?_map, List.getElem?_range h]; rfl
theorem dots_trod {H : Type} {enc : TypeId × Value → H} {W : World} {a : Option Addr} {len cap : Nat} {x : DataW H × List MemPlace} {fuel : Nat} (hf : DataW.trod enc Tryz.prog W 0 (fun _ => true) true fuel 64 [.slice a len cap] = some x) :
    ∃ l : List D, l.length = len ∧ len < 9223372036854775808 ∧ DotsAt W W.heap.size a l := by
  rcases open_slice_pairs Tryz.underlying64 Tryz.underlying127 (by kernel_rfl) rfl rfl (by kernel_rfl) (by kernel_rfl) hf with ⟨hcs, _⟩ | ⟨b, l, c, m, k, V0, V1, D0, D1, P0, P1, hcs, _, hl, hm, hmm, _, hall⟩
  · simp only [List.cons.injEq, Value.slice.injEq, and_true] at hcs
    obtain ⟨rfl, rfl, rfl⟩ := hcs
    exact ⟨[], rfl, by decide, Nat.le_refl _, Or.inl rfl⟩
  · simp only [List.cons.injEq, Value.slice.injEq, and_true] at hcs
    obtain ⟨rfl, rfl, rfl⟩ := hcs
    simp only [if_true] at hmm
    subst hmm
    have each : ∀ i, i < len → ∃ q : D, V0 i = iV q.1 ∧ V1 i = iV q.2 := fun i hi => by
      obtain ⟨_, _, t0, t1⟩ := hall i (by omega)
      obtain ⟨x0, e0⟩ := int_of t0
      obtain ⟨x1, e1⟩ := int_of t1
      exact ⟨(x0, x1), e0, e1⟩
    obtain ⟨q, hq⟩ := choose_lt each
    refine ⟨(List.range len).map q, by simp, by unfold maxLen at hm; omega, Nat.le_refl _, ?_⟩
    by_cases h0 : len = 0
    · left; simp [h0]
    · have c0 := (hall 0 (by omega)).1
      rw [Nat.zero_mul] at c0
      obtain ⟨pb, po, rfl, hlt⟩ := spot0 c0
      refine Or.inr ⟨pb, po, rfl, hlt, fun i hi => ?_⟩
      simp only [List.length_map, List.length_range] at hi
      obtain ⟨e0, e1, _⟩ := hall i (by omega)
      rw [Addr.add_lit] at e0 e1
      rw [range_getD' _ _ _ _ hi, ← (hq i hi).1, ← (hq i hi).2]
      exact ⟨e0, by rw [Nat.add_assoc]; exact e1⟩
/-- an argument that is a row of dots -/
theorem dots_open {H : Type} {enc : TypeId × Value → H} {W : World} {a : Option Addr} {len cap : Nat} {d : DataW H} {ps : List MemPlace} (h : DataW.Trod enc Tryz.prog W 0 (fun _ => true) true 64 (.slice a len cap) d ps) :
    ∃ l : List D, l.length = len ∧ len < 9223372036854775808 ∧ DotsAt W W.heap.size a l := by
  obtain ⟨fuel, hf⟩ := h
  exact dots_trod (by simpa [Value.cells] using hf)
/-- .. and what room it has -/
theorem dots_room {H : Type} {enc : TypeId × Value → H} {W : World} {a : Option Addr} {len cap : Nat} {d : DataW H} {ps : List MemPlace} (h : DataW.Trod enc Tryz.prog W 0 (fun _ => true) true 64 (.slice a len cap) d ps) :
    (a = none → cap = 0) ∧ len ≤ cap ∧ cap < 9223372036854775808 := by
  obtain ⟨fuel, hf⟩ := h
  have hf : DataW.trod enc Tryz.prog W 0 (fun _ => true) true fuel 64 [.slice a len cap] = some (d, ps) := by simpa [Value.cells] using hf
  rcases open_slice Tryz.underlying64 hf with ⟨hcs, _⟩ | ⟨b, l, c, _, _, _, _, hcs, _, hl, hm, _⟩
  · simp only [List.cons.injEq, Value.slice.injEq, and_true] at hcs
    exact ⟨fun _ => hcs.2.2, by omega, by omega⟩
  · simp only [List.cons.injEq, Value.slice.injEq, and_true] at hcs
    unfold maxLen at hm
    exact ⟨(fun e => by rw [hcs.1] at e; cases e), by omega, by omega⟩
set_option maxRecDepth 100000 in
/-- an argument that is a dot -/
theorem dot_open {H : Type} {enc : TypeId × Value → H} {W : World} {r : Reach} {b0 : Nat} {v : Value} {d : DataW H} {ps : List MemPlace} (hv : Value.okWide Tryz.prog W r b0 127 v) (h : DataW.Trod enc Tryz.prog W 0 (fun _ => true) true 127 v d ps) :
    ∃ x y : Int, v = .agg #[iV x, iV y] := by
  obtain ⟨v0, v1, y0, y1, n, rfl, _, _, t0, t1⟩ := open_agg2 Tryz.underlying127 (by kernel_rfl) (by kernel_rfl) hv h
  obtain ⟨x, rfl⟩ := int_of t0
  obtain ⟨y, rfl⟩ := int_of t1
  exact ⟨x, y, rfl⟩
end Ve
end Go.Proofs.YtlkiancedgaicaaGreat

/- A law's arguments: records. -/
namespace Go.Proofs.YtlkiancedgaicaaGreat
open Go.ChangeShapes Go.WideShapes Go.ChangeAt Go.RowKit Go.Deep Go.Joins Ow Ve
namespace Rc
theorem array7 {α : Type} {cs : Array α} (h : cs.size = 7) : ∃ c0 c1 c2 c3 c4 c5 c6, cs = #[c0, c1, c2, c3, c4, c5, c6] := by
  obtain ⟨l⟩ := cs
  match l, h with
  | [c0, c1, c2, c3, c4, c5, c6], _ => exact ⟨c0, c1, c2, c3, c4, c5, c6, rfl⟩
/-- each field of a struct of seven cells -/
theorem open_agg7 {H : Type} {enc : TypeId × Value → H} {P : Program} {w : World} {base : Nat} {spare : Nat → Bool} {held : Bool} {r : Reach} {b0 : Nat} {t : TypeId} {fs : Array Field} {v : Value} {d : DataW H} {p : List MemPlace} (hs : P.underlying t = some (.struct fs)) (hone : oneCellFields P fs = true) (hC : P.cellsOf t = 7)
    (hv : Value.okWide P w r b0 t v) (h : DataW.Trod enc P w base spare held t v d p) :
    ∃ (cs : Array Value) (n : Nat), v = .agg cs ∧ cs.size = 7 ∧ ∀ (i : Nat) (f : Field), fs[i]? = some f → ∀ u, cs.toList[i]? = some u → ∃ y, DataW.trod enc P w base spare held n f.type [u] = some y := by
  obtain ⟨cs, rfl, hsz⟩ := okWide_struct hs hv
  obtain ⟨fuel, hf⟩ := h
  obtain ⟨xs, n, _, _, _, hlen, hx⟩ := DataW.trod_struct hs hf
  refine ⟨cs, n, rfl, hsz.trans hC, fun i f hi u hu => ?_⟩
  have h1 := hx i f hi
  obtain ⟨o, k⟩ := hone_of hone i f hi
  have hi2 : i < xs.length := by rw [hlen]; exact (Array.getElem?_eq_some_iff.1 hi).1
  rw [List.getElem?_eq_getElem hi2] at h1
  refine ⟨xs[i], ?_⟩
  rw [← h1, o, k]
  congr 1
  have hi3 : i < cs.toList.length := (List.getElem?_eq_some_iff.1 hu).1
  rw [show (Value.agg cs).cells.toList = cs.toList from rfl, List.drop_eq_getElem_cons hi3]
  rw [List.getElem?_eq_getElem hi3] at hu
  simp only [Option.some.injEq] at hu
  rw [hu]; rfl
theorem slice_of {H : Type} {enc : TypeId × Value → H} {W : World} {n : Nat} {t e : TypeId} {v : Value} {y : DataW H × List MemPlace} (ht : Tryz.prog.underlying t = some (.slice e)) (h : DataW.trod enc Tryz.prog W 0 (fun _ => true) true n t [v] = some y) : ∃ a l c, v = .slice a l c := by
  rcases open_slice ht h with ⟨hcs, _⟩ | ⟨a, l, c, _, _, _, _, hcs, _⟩
  · exact ⟨none, 0, 0, by simpa using hcs⟩
  · exact ⟨some a, l, c, by simpa using hcs⟩
theorem bytes_trod {H : Type} {enc : TypeId × Value → H} {W : World} {n len cap : Nat} {a : Option Addr} {y : DataW H × List MemPlace} (h : DataW.trod enc Tryz.prog W 0 (fun _ => true) true n 23 [.slice a len cap] = some y) : ∃ p, p.length = len ∧ BytesAt W W.heap.size a cap p :=
  bytes_open (d := y.1) (ps := y.2) ⟨n, h⟩
set_option maxRecDepth 100000 in
/-- an argument that is a record -/
theorem rec_open {H : Type} {enc : TypeId × Value → H} {W : World} {rr : Reach} {b0 : Nat} {v : Value} {d : DataW H} {ps : List MemPlace} (hv : Value.okWide Tryz.prog W rr b0 66 v) (h : DataW.Trod enc Tryz.prog W 0 (fun _ => true) true 66 v d ps) :
    ∃ (q : L) (r : R), v = q.v r ∧ RAt W W.heap.size q r := by
  obtain ⟨cs, n, rfl, hsz, hall⟩ := open_agg7 Tryz.underlying66 (by kernel_rfl) (by kernel_rfl) hv h
  obtain ⟨c0, c1, c2, c3, c4, c5, c6, rfl⟩ := array7 hsz
  obtain ⟨y0, t0⟩ := hall 0 _ rfl c0 rfl
  obtain ⟨y1, t1⟩ := hall 1 _ rfl c1 rfl
  obtain ⟨y2, t2⟩ := hall 2 _ rfl c2 rfl
  obtain ⟨y3, t3⟩ := hall 3 _ rfl c3 rfl
  obtain ⟨y4, t4⟩ := hall 4 _ rfl c4 rfl
  obtain ⟨y5, t5⟩ := hall 5 _ rfl c5 rfl
  obtain ⟨y6, t6⟩ := hall 6 _ rfl c6 rfl
  obtain ⟨s, e0, _, _⟩ := DataW.trod_string Tryz.underlying9 t0
  obtain ⟨cl, rfl⟩ := int_of t1
  obtain ⟨sq, rfl⟩ := int_of t2
  obtain ⟨g, e4, _⟩ := DataW.trod_bool Tryz.underlying4 t4
  obtain rfl : c0 = .string s := by simpa using e0
  obtain rfl : c4 = .bool g := by simpa using e4
  obtain ⟨a1, n1, k1, rfl⟩ := slice_of Tryz.underlying64 t3
  obtain ⟨a2, n2, k2, rfl⟩ := slice_of Tryz.underlying23 t5
  obtain ⟨a3, n3, k3, rfl⟩ := slice_of Tryz.underlying23 t6
  obtain ⟨cx, hl1, hm, hd⟩ := dots_trod t3
  obtain ⟨val, hl2, hvb⟩ := bytes_trod t5
  obtain ⟨sig, hl3, hsb⟩ := bytes_trod t6
  exact ⟨⟨s, a1, n1, k1, a2, n2, k2, a3, n3, k3⟩, ⟨strL s, cl, sq, cx, g, val, sig⟩, rfl, rfl, hl1, hl2, hl3, hd, hvb, hsb, hm⟩
end Rc
end Go.Proofs.YtlkiancedgaicaaGreat

/- A law's arguments: rows of records. -/
namespace Go.Proofs.YtlkiancedgaicaaGreat
open Go.ChangeShapes Go.WideShapes Go.ChangeAt Go.RowKit Go.Deep Go.Joins Ow Ve Rc
namespace Sb
/-- each field of a struct of one-cell fields, and its datum -/
theorem open_fields {H : Type} {enc : TypeId × Value → H} {P : Program} {w : World} {base : Nat} {spare : Nat → Bool} {held : Bool} {t : TypeId} {fs : Array Field} {fuel : Nat} {cs : List Value} {x : DataW H × List MemPlace} (hs : P.underlying t = some (.struct fs)) (hone : oneCellFields P fs = true)
    (h : DataW.trod enc P w base spare held fuel t cs = some x) :
    ∃ (xs : List (DataW H × List MemPlace)) (n : Nat), x.1 = .agg (xs.map (·.1)) ∧ cs.length = P.cellsOf t ∧ ∀ (i : Nat) (f : Field), fs[i]? = some f → ∀ u, cs[i]? = some u → ∃ y, xs[i]? = some y ∧ DataW.trod enc P w base spare held n f.type [u] = some y := by
  obtain ⟨xs, n, _, rfl, hlen, hx0, hx⟩ := DataW.trod_struct hs h
  refine ⟨xs, n, rfl, hlen, fun i f hi u hu => ?_⟩
  have h1 := hx i f hi
  obtain ⟨o, k⟩ := hone_of hone i f hi
  have hi2 : i < xs.length := by rw [hx0]; exact (Array.getElem?_eq_some_iff.1 hi).1
  rw [List.getElem?_eq_getElem hi2] at h1
  refine ⟨xs[i], List.getElem?_eq_getElem hi2, ?_⟩
  rw [← h1, o, k]
  congr 1
  have hi3 : i < cs.length := (List.getElem?_eq_some_iff.1 hu).1
  rw [List.drop_eq_getElem_cons hi3]
  rw [List.getElem?_eq_getElem hi3] at hu
  simp only [Option.some.injEq] at hu
  rw [hu]; rfl
theorem add_add (b : Addr) (k j : Nat) : (b.add k).add j = b.add (k + j) := by
  obtain ⟨bb, bo, bs⟩ := b
  unfold Addr.add
  by_cases h1 : k = 0
  · subst h1; simp
  · by_cases h2 : j = 0
    · subst h2; simp
    · simp [h1, h2, Nat.add_assoc]
theorem list7 {α : Type} {cs : List α} (h : cs.length = 7) : ∃ c0 c1 c2 c3 c4 c5 c6, cs = [c0, c1, c2, c3, c4, c5, c6] := by
  match cs, h with
  | [c0, c1, c2, c3, c4, c5, c6], _ => exact ⟨c0, c1, c2, c3, c4, c5, c6, rfl⟩
theorem weights_all {H : Type} {P : Program} {e : TypeId} : ∀ {ds : List (DataW H)} {d : DataW H}, d ∈ ds → ∀ n ∈ d.weights P e, n ∈ DataW.weightsAll P e ds
  | d0 :: ds, d, hd, n, hn => by
    simp only [DataW.weightsAll, List.mem_append]
    rcases List.mem_cons.1 hd with rfl | hd
    · exact Or.inl hn
    · exact Or.inr (weights_all hd n hn)
  | [], _, hd, _, _ => by cases hd
theorem slice_w {H : Type} {enc : TypeId × Value → H} {P : Program} {w : World} {base : Nat} {spare : Nat → Bool} {held : Bool} {t e : TypeId} {fuel n c : Nat} {a : Option Addr} {y : DataW H × List MemPlace} (ht : P.underlying t = some (.slice e)) (he : 1 ≤ P.bytesOf e)
    (h : DataW.trod enc P w base spare held fuel t [.slice a n c] = some y) (hw : ∀ m ∈ y.1.weights P t, m ≤ reachBytes) : n ≤ reachBytes := by
  rcases open_slice ht h with ⟨hcs, _⟩ | ⟨b, l, c', m, k, D, Pl, hcs, _, _, _, _, hx, _⟩
  · simp only [List.cons.injEq, Value.slice.injEq, and_true] at hcs
    rw [hcs.2.1]; exact Nat.zero_le _
  · simp only [List.cons.injEq, Value.slice.injEq, and_true] at hcs
    obtain ⟨_, rfl, _⟩ := hcs
    rw [hx] at hw
    have := hw _ (by simp only [DataW.weights, ht]; exact List.mem_cons_self ..)
    simp only [List.length_map, List.length_range] at this
    have h2 : (n + (m - n)) * 1 ≤ (n + (m - n)) * P.bytesOf e := Nat.mul_le_mul_left _ he
    omega
theorem len_slice {H : Type} {enc : TypeId × Value → H} {P : Program} {w : World} {base : Nat} {spare : Nat → Bool} {held : Bool} {t e : TypeId} {fuel n c : Nat} {a : Option Addr} {y : DataW H × List MemPlace} (ht : P.underlying t = some (.slice e))
    (h : DataW.trod enc P w base spare held fuel t [.slice a n c] = some y) : a = none → c = 0 := by
  intro ha
  rcases open_slice ht h with ⟨hcs, _⟩ | ⟨b, l, c', m, k, D, Pl, hcs, _, _, _, _, hx, _⟩
  · simp only [List.cons.injEq, Value.slice.injEq, and_true] at hcs
    exact hcs.2.2
  · simp only [List.cons.injEq, Value.slice.injEq, and_true] at hcs
    rw [hcs.1] at ha; cases ha
set_option maxRecDepth 100000 in
/-- a record in memory -/
theorem rec_trod {H : Type} {enc : TypeId × Value → H} {W : World} {fuel : Nat} {cs : List Value} {x : DataW H × List MemPlace} (h : DataW.trod enc Tryz.prog W 0 (fun _ => true) true fuel 66 cs = some x) (hw : ∀ m ∈ x.1.weights Tryz.prog 66, m ≤ reachBytes) :
    ∃ e : E, cs = recC e ∧ RAt W W.heap.size e.1 e.2 ∧ Fits e := by
  obtain ⟨xs, n, hx, hlen, hall⟩ := open_fields Tryz.underlying66 (by kernel_rfl) h
  obtain ⟨c0, c1, c2, c3, c4, c5, c6, rfl⟩ := list7 (hlen.trans (by kernel_rfl))
  obtain ⟨y0, s0, t0⟩ := hall 0 _ rfl c0 rfl
  obtain ⟨y1, s1, t1⟩ := hall 1 _ rfl c1 rfl
  obtain ⟨y2, s2, t2⟩ := hall 2 _ rfl c2 rfl
  obtain ⟨y3, s3, t3⟩ := hall 3 _ rfl c3 rfl
  obtain ⟨y4, s4, t4⟩ := hall 4 _ rfl c4 rfl
  obtain ⟨y5, s5, t5⟩ := hall 5 _ rfl c5 rfl
  obtain ⟨y6, s6, t6⟩ := hall 6 _ rfl c6 rfl
  rw [hx] at hw
  simp only [DataW.weights, Tryz.underlying66] at hw
  have at_ : ∀ (j : Nat) (y : DataW H × List MemPlace) (t : TypeId), xs[j]? = some y → (_ : List TypeId)[j]? = some t → ∀ m ∈ y.1.weights Tryz.prog t, m ≤ reachBytes := fun j y t hj ht m hm => hw m (DataW.weights_mem_each ht (by rw [List.getElem?_map, hj]; rfl) m hm)
  have w0 := at_ 0 y0 _ s0 rfl
  have w3 := at_ 3 y3 _ s3 rfl
  have w5 := at_ 5 y5 _ s5 rfl
  have w6 := at_ 6 y6 _ s6 rfl
  clear at_ hw
  obtain ⟨s, e0, hy0, _⟩ := DataW.trod_string Tryz.underlying9 t0
  obtain ⟨cl, rfl⟩ := int_of t1
  obtain ⟨sq, rfl⟩ := int_of t2
  obtain ⟨g, e4, _⟩ := DataW.trod_bool Tryz.underlying4 t4
  obtain rfl : c0 = .string s := by simpa using e0
  obtain rfl : c4 = .bool g := by simpa using e4
  obtain ⟨a1, n1, k1, rfl⟩ := slice_of Tryz.underlying64 t3
  obtain ⟨a2, n2, k2, rfl⟩ := slice_of Tryz.underlying23 t5
  obtain ⟨a3, n3, k3, rfl⟩ := slice_of Tryz.underlying23 t6
  obtain ⟨cx, hl1, hm, hd⟩ := dots_trod t3
  obtain ⟨val, hl2, hvb⟩ := bytes_trod t5
  obtain ⟨sig, hl3, hsb⟩ := bytes_trod t6
  have q1 := slice_w Tryz.underlying64 (of_decide_eq_true (by kernel_rfl)) t3 w3
  have q2 := slice_w Tryz.underlying23 (of_decide_eq_true (by kernel_rfl)) t5 w5
  have q3 := slice_w Tryz.underlying23 (of_decide_eq_true (by kernel_rfl)) t6 w6
  have q0 : s.size ≤ reachBytes := by
    rw [hy0] at w0
    have := w0 _ (by simp only [DataW.weights]; exact List.mem_cons_self ..)
    simpa using this
  have hR := reachBytes_lt
  exact ⟨(⟨s, a1, n1, k1, a2, n2, k2, a3, n3, k3⟩, ⟨strL s, cl, sq, cx, g, val, sig⟩), rfl, ⟨rfl, hl1, hl2, hl3, hd, hvb, hsb, hm⟩, (by show n1 < _; omega), (by show s.size + n2 + n3 < _; omega)⟩
set_option maxRecDepth 100000 in
/-- an argument that is a row of records -/
theorem recs_open {H : Type} {enc : TypeId × Value → H} {W : World} {a : Option Addr} {len cap : Nat} {d : DataW H} {ps : List MemPlace} (h : DataW.Trod enc Tryz.prog W 0 (fun _ => true) true 48 (.slice a len cap) d ps) (hw : ∀ m ∈ d.weights Tryz.prog 48, m ≤ reachBytes) :
    ∃ l : List E, l.length = len ∧ len < 9223372036854775808 ∧ RRow W W.heap.size a l ∧ (a = none → cap = 0) ∧ ∀ x ∈ l, Fits x := by
  obtain ⟨fuel, hf⟩ := h
  have hf : DataW.trod enc Tryz.prog W 0 (fun _ => true) true fuel 48 [.slice a len cap] = some (d, ps) := by simpa [Value.cells] using hf
  have hroom := len_slice Tryz.underlying48 hf
  rcases open_slice Tryz.underlying48 hf with ⟨hcs, _⟩ | ⟨b, l, c, m, k, D, Pl, hcs, _, hl, hm, hmm, hx, hall⟩
  · simp only [List.cons.injEq, Value.slice.injEq, and_true] at hcs
    obtain ⟨rfl, rfl, rfl⟩ := hcs
    exact ⟨[], rfl, by decide, rrow_nil _ _ _ (Nat.le_refl _), hroom, fun x hx => by cases hx⟩
  · simp only [List.cons.injEq, Value.slice.injEq, and_true] at hcs
    obtain ⟨rfl, rfl, rfl⟩ := hcs
    simp only [if_true] at hmm
    subst hmm
    simp only [Prod.mk.injEq] at hx
    rw [hx.1] at hw
    simp only [DataW.weights, Tryz.underlying48, List.mem_cons, List.mem_append] at hw
    have each : ∀ i, i < len → ∃ e : E, (∀ j v, (recC e)[j]? = some v → W.cell? (b.add (i * 7 + j)) = some v) ∧ RAt W W.heap.size e.1 e.2 ∧ Fits e := fun i hi => by
      obtain ⟨cs', h1, h2⟩ := hall i (by omega)
      have hc7 : Tryz.prog.cellsOf 66 = 7 := by kernel_rfl
      rw [hc7] at h1
      obtain ⟨_, hlen, hcell⟩ := World.cells?_some h1
      obtain ⟨e, rfl, hr, hfit⟩ := rec_trod h2 (fun n hn => hw n (Or.inr (Or.inl (weights_all (List.mem_map.2 ⟨i, List.mem_range.2 hi, rfl⟩) n hn))))
      refine ⟨e, fun j v hv => ?_, hr, hfit⟩
      have hj : j < 7 := by have := (List.getElem?_eq_some_iff.1 hv).1; rwa [recC_len] at this
      have := hcell j hj
      rw [hv] at this
      rw [← this, add_add]
    obtain ⟨q, hq⟩ := choose_lt each
    refine ⟨(List.range len).map q, by simp, by unfold maxLen at hm; omega, ⟨Nat.le_refl _, fun x hx => ?_, ?_⟩, hroom, fun x hx => ?_⟩
    · obtain ⟨i, hi, rfl⟩ := List.mem_map.1 hx
      exact (hq i (List.mem_range.1 hi)).2.1
    · by_cases h0 : len = 0
      · left; simp [h0]
      · obtain ⟨pb, po, rfl, hlt⟩ := spot0 ((hq 0 (by omega)).1 0 _ rfl)
        refine Or.inr ⟨pb, po, rfl, hlt, fun i hi j v hv => ?_⟩
        simp only [List.length_map, List.length_range] at hi
        rw [range_getD' _ _ _ _ hi] at hv
        have := (hq i hi).1 j v hv
        rw [Addr.add_lit] at this
        rw [Nat.add_assoc]; exact this
    · obtain ⟨i, hi, rfl⟩ := List.mem_map.1 hx
      exact (hq i (List.mem_range.1 hi)).2.2
end Sb
end Go.Proofs.YtlkiancedgaicaaGreat

/- A law's arguments: rows of records, and their contexts' room. -/
namespace Go.Proofs.YtlkiancedgaicaaGreat
open Go.ChangeShapes Go.WideShapes Go.ChangeAt Go.RowKit Go.Deep Go.Joins Ow Ve Rc
namespace Sb
set_option maxRecDepth 100000 in
/-- a record in memory -/
theorem rec_trodR {H : Type} {enc : TypeId × Value → H} {W : World} {fuel : Nat} {cs : List Value} {x : DataW H × List MemPlace} (h : DataW.trod enc Tryz.prog W 0 (fun _ => true) true fuel 66 cs = some x) (hw : ∀ m ∈ x.1.weights Tryz.prog 66, m ≤ reachBytes) :
    ∃ e : E, cs = recC e ∧ RAt W W.heap.size e.1 e.2 ∧ (Fits e ∧ (e.1.a1 = none → e.1.c1 = 0)) := by
  obtain ⟨xs, n, hx, hlen, hall⟩ := open_fields Tryz.underlying66 (by kernel_rfl) h
  obtain ⟨c0, c1, c2, c3, c4, c5, c6, rfl⟩ := list7 (hlen.trans (by kernel_rfl))
  obtain ⟨y0, s0, t0⟩ := hall 0 _ rfl c0 rfl
  obtain ⟨y1, s1, t1⟩ := hall 1 _ rfl c1 rfl
  obtain ⟨y2, s2, t2⟩ := hall 2 _ rfl c2 rfl
  obtain ⟨y3, s3, t3⟩ := hall 3 _ rfl c3 rfl
  obtain ⟨y4, s4, t4⟩ := hall 4 _ rfl c4 rfl
  obtain ⟨y5, s5, t5⟩ := hall 5 _ rfl c5 rfl
  obtain ⟨y6, s6, t6⟩ := hall 6 _ rfl c6 rfl
  rw [hx] at hw
  simp only [DataW.weights, Tryz.underlying66] at hw
  have at_ : ∀ (j : Nat) (y : DataW H × List MemPlace) (t : TypeId), xs[j]? = some y → (_ : List TypeId)[j]? = some t → ∀ m ∈ y.1.weights Tryz.prog t, m ≤ reachBytes := fun j y t hj ht m hm => hw m (DataW.weights_mem_each ht (by rw [List.getElem?_map, hj]; rfl) m hm)
  have w0 := at_ 0 y0 _ s0 rfl
  have w3 := at_ 3 y3 _ s3 rfl
  have w5 := at_ 5 y5 _ s5 rfl
  have w6 := at_ 6 y6 _ s6 rfl
  clear at_ hw
  obtain ⟨s, e0, hy0, _⟩ := DataW.trod_string Tryz.underlying9 t0
  obtain ⟨cl, rfl⟩ := int_of t1
  obtain ⟨sq, rfl⟩ := int_of t2
  obtain ⟨g, e4, _⟩ := DataW.trod_bool Tryz.underlying4 t4
  obtain rfl : c0 = .string s := by simpa using e0
  obtain rfl : c4 = .bool g := by simpa using e4
  obtain ⟨a1, n1, k1, rfl⟩ := slice_of Tryz.underlying64 t3
  obtain ⟨a2, n2, k2, rfl⟩ := slice_of Tryz.underlying23 t5
  obtain ⟨a3, n3, k3, rfl⟩ := slice_of Tryz.underlying23 t6
  obtain ⟨cx, hl1, hm, hd⟩ := dots_trod t3
  obtain ⟨val, hl2, hvb⟩ := bytes_trod t5
  obtain ⟨sig, hl3, hsb⟩ := bytes_trod t6
  have q1 := slice_w Tryz.underlying64 (of_decide_eq_true (by kernel_rfl)) t3 w3
  have q2 := slice_w Tryz.underlying23 (of_decide_eq_true (by kernel_rfl)) t5 w5
  have q3 := slice_w Tryz.underlying23 (of_decide_eq_true (by kernel_rfl)) t6 w6
  have q0 : s.size ≤ reachBytes := by
    rw [hy0] at w0
    have := w0 _ (by simp only [DataW.weights]; exact List.mem_cons_self ..)
    simpa using this
  have hR := reachBytes_lt
  exact ⟨(⟨s, a1, n1, k1, a2, n2, k2, a3, n3, k3⟩, ⟨strL s, cl, sq, cx, g, val, sig⟩), rfl, ⟨rfl, hl1, hl2, hl3, hd, hvb, hsb, hm⟩, ⟨(by show n1 < _; omega), (by show s.size + n2 + n3 < _; omega)⟩, (dots_room (d := y3.1) (ps := y3.2) ⟨_, t3⟩).1⟩
set_option maxRecDepth 100000 in
/-- an argument that is a row of records -/
theorem recs_open_room {H : Type} {enc : TypeId × Value → H} {W : World} {a : Option Addr} {len cap : Nat} {d : DataW H} {ps : List MemPlace} (h : DataW.Trod enc Tryz.prog W 0 (fun _ => true) true 48 (.slice a len cap) d ps) (hw : ∀ m ∈ d.weights Tryz.prog 48, m ≤ reachBytes) :
    ∃ l : List E, l.length = len ∧ len < 9223372036854775808 ∧ RRow W W.heap.size a l ∧ (a = none → cap = 0) ∧ ∀ x ∈ l, Fits x ∧ (x.1.a1 = none → x.1.c1 = 0) := by
  obtain ⟨fuel, hf⟩ := h
  have hf : DataW.trod enc Tryz.prog W 0 (fun _ => true) true fuel 48 [.slice a len cap] = some (d, ps) := by simpa [Value.cells] using hf
  have hroom := len_slice Tryz.underlying48 hf
  rcases open_slice Tryz.underlying48 hf with ⟨hcs, _⟩ | ⟨b, l, c, m, k, D, Pl, hcs, _, hl, hm, hmm, hx, hall⟩
  · simp only [List.cons.injEq, Value.slice.injEq, and_true] at hcs
    obtain ⟨rfl, rfl, rfl⟩ := hcs
    exact ⟨[], rfl, by decide, rrow_nil _ _ _ (Nat.le_refl _), hroom, fun x hx => by cases hx⟩
  · simp only [List.cons.injEq, Value.slice.injEq, and_true] at hcs
    obtain ⟨rfl, rfl, rfl⟩ := hcs
    simp only [if_true] at hmm
    subst hmm
    simp only [Prod.mk.injEq] at hx
    rw [hx.1] at hw
    simp only [DataW.weights, Tryz.underlying48, List.mem_cons, List.mem_append] at hw
    have each : ∀ i, i < len → ∃ e : E, (∀ j v, (recC e)[j]? = some v → W.cell? (b.add (i * 7 + j)) = some v) ∧ RAt W W.heap.size e.1 e.2 ∧ (Fits e ∧ (e.1.a1 = none → e.1.c1 = 0)) := fun i hi => by
      obtain ⟨cs', h1, h2⟩ := hall i (by omega)
      have hc7 : Tryz.prog.cellsOf 66 = 7 := by kernel_rfl
      rw [hc7] at h1
      obtain ⟨_, hlen, hcell⟩ := World.cells?_some h1
      obtain ⟨e, rfl, hr, hfit⟩ := rec_trodR h2 (fun n hn => hw n (Or.inr (Or.inl (weights_all (List.mem_map.2 ⟨i, List.mem_range.2 hi, rfl⟩) n hn))))
      refine ⟨e, fun j v hv => ?_, hr, hfit⟩
      have hj : j < 7 := by have := (List.getElem?_eq_some_iff.1 hv).1; rwa [recC_len] at this
      have := hcell j hj
      rw [hv] at this
      rw [← this, add_add]
    obtain ⟨q, hq⟩ := choose_lt each
    refine ⟨(List.range len).map q, by simp, by unfold maxLen at hm; omega, ⟨Nat.le_refl _, fun x hx => ?_, ?_⟩, hroom, fun x hx => ?_⟩
    · obtain ⟨i, hi, rfl⟩ := List.mem_map.1 hx
      exact (hq i (List.mem_range.1 hi)).2.1
    · by_cases h0 : len = 0
      · left; simp [h0]
      · obtain ⟨pb, po, rfl, hlt⟩ := spot0 ((hq 0 (by omega)).1 0 _ rfl)
        refine Or.inr ⟨pb, po, rfl, hlt, fun i hi j v hv => ?_⟩
        simp only [List.length_map, List.length_range] at hi
        rw [range_getD' _ _ _ _ hi] at hv
        have := (hq i hi).1 j v hv
        rw [Addr.add_lit] at this
        rw [Nat.add_assoc]; exact this
    · obtain ⟨i, hi, rfl⟩ := List.mem_map.1 hx
      exact (hq i (List.mem_range.1 hi)).2.2
end Sb
end Go.Proofs.YtlkiancedgaicaaGreat

/- The kit's SameBytes: whether two slices hold the same bytes. -/
namespace Go.Proofs.YtlkiancedgaicaaGreat
open Go.RowKit Ow

theorem getD_at (l : List Nat) (i : Nat) (h : i < l.length) : l.getD i 0 = l[i] := by rw [List.getD_eq_getElem?_getD, List.getElem?_eq_getElem h]; rfl
theorem list_same {p q : List Nat} (h : p.length = q.length) (hi : ∀ i, i < p.length → p.getD i 0 = q.getD i 0) : p = q := by
  apply List.ext_getElem h
  intro i h1 h2
  rw [← getD_at p i h1, ← getD_at q i h2]
  exact hi i h1
set_option maxHeartbeats 400000 in
theorem sameBytes_any (B1 B2 n m c1 c2 : Nat) (a1 a2 : Option Addr) (p q : List Nat) (w : World) (hn : p.length = n) (hm : q.length = m) (h1 : BytesAt w B1 a1 c1 p) (h2 : BytesAt w B2 a2 c2 q) :
    Calls Tryz.prog 15 #[.slice a1 n c1, .slice a2 m c2] w fun e w' => e = .returned (.bool (decide (p = q))) ∧ w.grownBy w' none := by
  have hn1 := h1.fits
  have hn2 := h2.fits
  have ht1 := h1.top
  have ht2 := h2.top
  rw [hn] at hn1
  rw [hm] at hn2
  have H1 := Lib.hid h1; clear h1
  have H2 := Lib.hid h2; clear h2
  have HN := Lib.hid hn; clear hn
  have HM := Lib.hid hm; clear hm
  by_cases hnm : n = m
  · subst hnm
    go_enter Tryz.func15, Tryz.ntmps15
    go_wp2
    go_loopw [5] (fun i wr => ∃ k j : Nat, k ≤ n ∧ i = .int .i64 k ∧ wr = w.drewN j ∧ ∀ i, i < k → p.getD i 0 = q.getD i 0) (fun i _ => n - (intOf i).toNat)
    case atStart => exact ⟨0, 0, by omega, rfl, rfl, fun i hi => absurd hi (by omega)⟩
    case round =>
      obtain ⟨k, j, hk, rfl, rfl, heq⟩ := hrel
      have HE := Lib.hid heq; clear heq
      by_cases hlt : k < n
      · obtain ⟨pb, po, rfl, _, hc⟩ := H1.out.cells.resolve_left (by rw [HN.out]; omega)
        obtain ⟨qb, qo, rfl, _, hd⟩ := H2.out.cells.resolve_left (by rw [HM.out]; omega)
        have k1 := hc k (by rw [HN.out]; exact hlt)
        have k2 := hd k (by rw [HM.out]; exact hlt)
        unfold u8N at k1 k2
        clear hc hd
        have i0 : (k : Int) < (n : Int) := by omega
        obtain ⟨x, hx⟩ : ∃ x, x = p.getD k 0 := ⟨_, rfl⟩
        obtain ⟨y, hy⟩ : ∃ y, y = q.getD k 0 := ⟨_, rfl⟩
        rw [← hx] at k1
        rw [← hy] at k2
        have HXY := Lib.hid (And.intro hx hy); clear hx hy
        by_cases hxy : x = y
        · subst hxy
          go_wp2_with fail
          go_quiet (fail)
          go_wp2
          go_roundw
          case rel => exact ⟨k + 1, _, by omega, by go_num, rfl, fun i hi => by
            rcases Nat.lt_or_ge i k with h | h
            · exact HE.out i h
            · obtain rfl : i = k := by omega
              rw [← HXY.out.1, ← HXY.out.2]⟩
          case measure => simp [intOf]; omega
        · have hne : ¬ (x : Int) = (y : Int) := by omega
          have hpq : p ≠ q := fun e => hxy (by rw [HXY.out.1, HXY.out.2, e])
          have HPQ : Hid (decide (p = q) = false) := decide_eq_false hpq
          clear hpq hxy
          go_wp2_with fail
          go_quiet (fail)
          go_wp2
          go_ret
          exact ⟨by rw [HPQ.out]; rfl, ⟨rfl, rfl, rfl, Nat.le_refl _, fun _ _ _ => rfl⟩⟩
      · obtain rfl : k = n := by omega
        have hpq : p = q := list_same (by rw [HN.out, HM.out]) (fun i hi => HE.out i (by rw [HN.out] at hi; exact hi))
        have HPQ : Hid (decide (p = q) = true) := decide_eq_true hpq
        clear hlt hpq
        go_wp2
        go_ret
        exact ⟨by rw [HPQ.out]; rfl, ⟨rfl, rfl, rfl, Nat.le_refl _, fun _ _ _ => rfl⟩⟩
  · have hne : ¬ (n : Int) = (m : Int) := by omega
    have hpq : p ≠ q := fun e => hnm (by rw [← HN.out, ← HM.out, e])
    have HPQ : Hid (decide (p = q) = false) := decide_eq_false hpq
    clear hpq hnm
    go_enter Tryz.func15, Tryz.ntmps15
    go_wp2
    go_ret
    exact ⟨by rw [HPQ.out]; rfl, gb_refl _ _⟩
end Go.Proofs.YtlkiancedgaicaaGreat

/- The kit's SameDots: whether two slices hold the same dots. -/
namespace Go.Proofs.YtlkiancedgaicaaGreat
open Go.RowKit Ve
namespace Ve
theorem dots_same {p q : List D} (h : p.length = q.length) (hi : ∀ i, i < p.length → p.getD i z0 = q.getD i z0) : p = q := by
  apply List.ext_getElem h
  intro i h1 h2
  have := hi i h1
  rwa [List.getD_eq_getElem?_getD, List.getD_eq_getElem?_getD, List.getElem?_eq_getElem h1, List.getElem?_eq_getElem h2] at this
theorem eq_dot (a b c d : Int) (w : World) : (Op.equalIn 10000 127 (.agg #[.int .i64 a, .int .i64 b]) (.agg #[.int .i64 c, .int .i64 d])).run Tryz.prog w = .ok (a == c && b == d) w := by
  have u3 := Tryz.underlying3
  have a3 := Tryz.isAgg3
  have z3 := Tryz.sizeOf3
  have hS : Tryz.prog.underlying 127 = some (.struct (Tryz.prog.fieldsOf 127)) := by kernel_rfl
  have hp : Tryz.prog.stoodInHeld 127 = false := by kernel_rfl
  rw [show (10000 : Nat) = 9999 + 1 from rfl, run_equalIn_agg w 9999 127 _ _ hS hp]
  simp only [Program.fieldsOf, Tryz.underlying127]
  go_simp
  by_cases h1 : a = c <;> by_cases h2 : b = d <;> simp [h1, h2]
set_option maxHeartbeats 400000 in
theorem sameDots_any (B1 B2 n m c1 c2 : Nat) (a1 a2 : Option Addr) (p q : List D) (w : World) (hn : p.length = n) (hm : q.length = m) (h1 : DotsAt w B1 a1 p) (h2 : DotsAt w B2 a2 q) (hc : n < 9223372036854775808) :
    Calls Tryz.prog 138 #[.slice a1 n c1, .slice a2 m c2] w fun e w' => e = .returned (.bool (decide (p = q))) ∧ w.grownBy w' none := by
  have H1 := Lib.hid h1; clear h1
  have H2 := Lib.hid h2; clear h2
  have HN := Lib.hid hn; clear hn
  have HM := Lib.hid hm; clear hm
  by_cases hnm : n = m
  · subst hnm
    go_enter Tryz.func138, Tryz.ntmps138
    go_wp2
    go_loopw [5] (fun i wr => ∃ k j : Nat, k ≤ n ∧ i = .int .i64 k ∧ wr = w.drewN j ∧ ∀ i, i < k → p.getD i z0 = q.getD i z0) (fun i _ => n - (intOf i).toNat)
    case atStart => exact ⟨0, 0, by omega, rfl, rfl, fun i hi => absurd hi (by omega)⟩
    case round =>
      obtain ⟨k, j, hk, rfl, rfl, heq⟩ := hrel
      have HE := Lib.hid heq; clear heq
      by_cases hlt : k < n
      · obtain ⟨pb, po, rfl, _, hcs⟩ := H1.out.cells.resolve_left (by rw [HN.out]; omega)
        obtain ⟨qb, qo, rfl, _, hds⟩ := H2.out.cells.resolve_left (by rw [HM.out]; omega)
        obtain ⟨k1, k2⟩ := hcs k (by rw [HN.out]; exact hlt)
        obtain ⟨k3, k4⟩ := hds k (by rw [HM.out]; exact hlt)
        clear hcs hds
        have i0 : (k : Int) < (n : Int) := by omega
        obtain ⟨x, y, hx⟩ : ∃ x y, p.getD k z0 = (x, y) := ⟨_, _, rfl⟩
        obtain ⟨x2, y2, hy⟩ : ∃ x y, q.getD k z0 = (x, y) := ⟨_, _, rfl⟩
        rw [hx] at k1 k2
        rw [hy] at k3 k4
        simp only at k1 k2 k3 k4
        have HXY := Lib.hid (And.intro hx hy); clear hx hy
        by_cases hxy : x = x2 ∧ y = y2
        · obtain ⟨rfl, rfl⟩ := hxy
          go_wp2_with fail
          go_region
          go_wp2
          go_roundw
          case rel => exact ⟨k + 1, j + 1, by omega, by go_num, rfl, fun i hi => by
            rcases Nat.lt_or_ge i k with h | h
            · exact HE.out i h
            · obtain rfl : i = k := by omega
              rw [HXY.out.1, HXY.out.2]⟩
          case measure => simp [intOf]; omega
        · have hpq : p ≠ q := fun e => hxy (by have h1 := HXY.out.1; rw [e, HXY.out.2] at h1; simpa using h1.symm)
          have HPQ : Hid (decide (p = q) = false) := decide_eq_false hpq
          clear hpq
          by_cases hx : x = x2
          · subst hx
            have hy : ¬ y = y2 := fun e => hxy ⟨rfl, e⟩
            clear hxy
            go_wp2_with fail
            have he : ∀ w, (Op.equalIn 10000 127 (.agg #[.int .i64 x, .int .i64 y]) (.agg #[.int .i64 x, .int .i64 y2])).run Tryz.prog w = .ok false w := fun w => by rw [eq_dot]; simp [hy]
            go_region
            clear he
            go_wp2
            go_ret
            exact ⟨by rw [HPQ.out]; rfl, ⟨rfl, rfl, rfl, Nat.le_refl _, fun _ _ _ => rfl⟩⟩
          · clear hxy
            go_wp2_with fail
            have he : ∀ w, (Op.equalIn 10000 127 (.agg #[.int .i64 x, .int .i64 y]) (.agg #[.int .i64 x2, .int .i64 y2])).run Tryz.prog w = .ok false w := fun w => by rw [eq_dot]; simp [hx]
            go_region
            clear he
            go_wp2
            go_ret
            exact ⟨by rw [HPQ.out]; rfl, ⟨rfl, rfl, rfl, Nat.le_refl _, fun _ _ _ => rfl⟩⟩
      · obtain rfl : k = n := by omega
        have hpq : p = q := dots_same (by rw [HN.out, HM.out]) (fun i hi => HE.out i (by rw [HN.out] at hi; exact hi))
        have HPQ : Hid (decide (p = q) = true) := decide_eq_true hpq
        clear hlt hpq
        go_wp2
        go_ret
        exact ⟨by rw [HPQ.out]; rfl, ⟨rfl, rfl, rfl, Nat.le_refl _, fun _ _ _ => rfl⟩⟩
  · have hne : ¬ (n : Int) = (m : Int) := by omega
    have hpq : p ≠ q := fun e => hnm (by rw [← HN.out, ← HM.out, e])
    have HPQ : Hid (decide (p = q) = false) := decide_eq_false hpq
    clear hpq hnm
    go_enter Tryz.func138, Tryz.ntmps138
    go_wp2
    go_ret
    exact ⟨by rw [HPQ.out]; rfl, gb_refl _ _⟩
end Ve
end Go.Proofs.YtlkiancedgaicaaGreat

/- The kit's SameRecord. (Printed by gen_rcsame.py.) -/
namespace Go.Proofs.YtlkiancedgaicaaGreat
open Go.RowKit Ow Wi Ve
namespace Rc
def sameB (a b : R) : Bool := decide (a.key = b.key) && decide (a.cl = b.cl) && decide (a.sq = b.sq) && decide (a.cx = b.cx) && decide (a.gone = b.gone) && decide (a.val = b.val) && decide (a.sig = b.sig)
theorem sameB_iff (a b : R) : sameB a b = true ↔ a = b := by
  cases a; cases b
  simp only [sameB, Bool.and_eq_true, decide_eq_true_eq, R.mk.injEq]
  constructor
  · rintro ⟨⟨⟨⟨⟨⟨h1, h2⟩, h3⟩, h4⟩, h5⟩, h6⟩, h7⟩; exact ⟨h1, h2, h3, h4, h5, h6, h7⟩
  · rintro ⟨h1, h2, h3, h4, h5, h6, h7⟩; exact ⟨⟨⟨⟨⟨⟨h1, h2⟩, h3⟩, h4⟩, h5⟩, h6⟩, h7⟩
set_option maxHeartbeats 2000000 in
theorem sameRec_any (ra rb : R) (B1 B2 : Nat) (w : World) (qa qb : L) (ha : RAt w B1 qa ra) (hb : RAt w B2 qb rb) : Calls Tryz.prog 79 #[qa.v ra, qb.v rb] w fun e w' => e = .returned (.bool (sameB ra rb)) ∧ w.grownBy w' none := by
  have HD := Lib.hid (fun w' (hg : w.grownBy w' none) => sameDots_any B1 B2 qa.n1 qb.n1 qa.c1 qb.c1 qa.a1 qb.a1 ra.cx rb.cx w' ha.l1 hb.l1 (ha.dots.stay hg) (hb.dots.stay hg) ha.top)
  have HV := Lib.hid (fun w' (hg : w.grownBy w' none) => sameBytes_any B1 B2 qa.n2 qb.n2 qa.c2 qb.c2 qa.a2 qb.a2 ra.val rb.val w' ha.l2 hb.l2 (ha.val.stay hg) (hb.val.stay hg))
  have HS := Lib.hid (fun w' (hg : w.grownBy w' none) => sameBytes_any B1 B2 qa.n3 qb.n3 qa.c3 qb.c3 qa.a3 qb.a3 ra.sig rb.sig w' ha.l3 hb.l3 (ha.sig.stay hg) (hb.sig.stay hg))
  have hz := str_eq qa.s qb.s
  rw [ha.str, hb.str] at hz
  obtain ⟨o, ho⟩ : ∃ o, o = sameB ra rb := ⟨_, rfl⟩
  rw [← ho]
  unfold sameB at ho
  rw [← hz] at ho
  clear ha hb hz
  generalize decide (ra.cx = rb.cx) = z4 at *
  generalize decide (ra.val = rb.val) = z6 at *
  generalize decide (ra.sig = rb.sig) = z7 at *
  obtain ⟨s, a1, n1, c1, a2, n2, c2, a3, n3, c3⟩ := qa
  obtain ⟨key, cl, sq, cx, g, val, sig⟩ := ra
  obtain ⟨s', a1', n1', c1', a2', n2', c2', a3', n3', c3'⟩ := qb
  obtain ⟨key', cl', sq', cx', g', val', sig'⟩ := rb
  simp only at ho HD HV HS
  obtain ⟨z1, h1⟩ : ∃ z, (s.toList == s'.toList) = z := ⟨_, rfl⟩
  obtain ⟨z2, h2⟩ : ∃ z, (cl == cl') = z := ⟨_, rfl⟩
  obtain ⟨z3, h3⟩ : ∃ z, (sq == sq') = z := ⟨_, rfl⟩
  obtain ⟨z5, h5⟩ : ∃ z, (g == g') = z := ⟨_, rfl⟩
  rw [h1, show decide (cl = cl') = (cl == cl') from by rw [Bool.eq_iff_iff]; simp, show decide (sq = sq') = (sq == sq') from by rw [Bool.eq_iff_iff]; simp, show decide (g = g') = (g == g') from by rw [Bool.eq_iff_iff]; simp, h2, h3, h5] at ho
  have HO := Lib.hid ho; clear ho
  replace h1 := Lib.hid h1
  replace h2 := Lib.hid h2
  replace h3 := Lib.hid h3
  replace h5 := Lib.hid h5
  show Calls _ _ #[vV s cl sq a1 n1 c1 g a2 n2 c2 a3 n3 c3, vV s' cl' sq' a1' n1' c1' g' a2' n2' c2' a3' n3' c3'] w _
  obtain ⟨N, hN⟩ : ∃ N, N = w.heap.size := ⟨_, rfl⟩
  obtain ⟨M, hM⟩ : ∃ M, M = w.heap.size + 1 := ⟨_, rfl⟩
  obtain ⟨W0, hW0⟩ : ∃ W0, W0 = (w.alloc (.cells #[.string s, iV cl, iV sq, .slice a1 n1 c1, .bool g, .slice a2 n2 c2, .slice a3 n3 c3] 66)).alloc (.cells #[.string s', iV cl', iV sq', .slice a1' n1' c1', .bool g', .slice a2' n2' c2', .slice a3' n3' c3'] 66) := ⟨_, rfl⟩
  have HG : Hid (w.grownBy W0 none ∧ Blk W0 N 66 [.string s, iV cl, iV sq, .slice a1 n1 c1, .bool g, .slice a2 n2 c2, .slice a3 n3 c3] ∧ Blk W0 M 66 [.string s', iV cl', iV sq', .slice a1' n1' c1', .bool g', .slice a2' n2' c2', .slice a3' n3' c3']) := by
    refine ⟨?_, ?_, ?_⟩
    · rw [hW0]; exact gb_alloc (gb_alloc (gb_refl _ _) _) _
    · rw [hW0, hN]; exact (Blk.new _ _ _).alloc _
    · rw [hW0, hM, ← World.size_alloc]; exact Blk.new _ _ _
  have x0 := HG.out.2.1.cell (i := 0) rfl
  have y0 := HG.out.2.2.cell (i := 0) rfl
  have x1 := HG.out.2.1.cell (i := 1) rfl
  have y1 := HG.out.2.2.cell (i := 1) rfl
  have x2 := HG.out.2.1.cell (i := 2) rfl
  have y2 := HG.out.2.2.cell (i := 2) rfl
  have x3 := HG.out.2.1.cell (i := 3) rfl
  have y3 := HG.out.2.2.cell (i := 3) rfl
  have x4 := HG.out.2.1.cell (i := 4) rfl
  have y4 := HG.out.2.2.cell (i := 4) rfl
  have x5 := HG.out.2.1.cell (i := 5) rfl
  have y5 := HG.out.2.2.cell (i := 5) rfl
  have x6 := HG.out.2.1.cell (i := 6) rfl
  have y6 := HG.out.2.2.cell (i := 6) rfl
  go_enter Tryz.func79, Tryz.ntmps79
  go_upto_region 1 with fail
  rw [← hW0, ← hM, ← hN]
  clear hW0 hN hM
  cases z1 with
  | false =>
    have q := h1.out
    go_wp2
    go_ret
    exact ⟨by rw [HO.out]; simp, HG.out.1⟩
  | true =>
    have q1 := h1.out
    cases z2 with
    | false =>
      have q := h2.out
      go_wp2
      go_ret
      exact ⟨by rw [HO.out]; simp, HG.out.1⟩
    | true =>
      have q2 := h2.out
      cases z3 with
      | false =>
        have q := h3.out
        go_wp2
        go_ret
        exact ⟨by rw [HO.out]; simp, HG.out.1⟩
      | true =>
        have q3 := h3.out
        go_wp2_with fail
        refine (HD.out _ HG.out.1).mono ?_
        rintro e w4 ⟨rfl, hg⟩
        have HG4 : Hid (w.grownBy w4 none ∧ Blk w4 N 66 [.string s, iV cl, iV sq, .slice a1 n1 c1, .bool g, .slice a2 n2 c2, .slice a3 n3 c3] ∧ Blk w4 M 66 [.string s', iV cl', iV sq', .slice a1' n1' c1', .bool g', .slice a2' n2' c2', .slice a3' n3' c3']) := ⟨gb_trans HG.out.1 hg, HG.out.2.1.grown hg (by simp), HG.out.2.2.grown hg (by simp)⟩
        clear hg HG
        have HG := HG4; clear HG4
        replace x4 := HG.out.2.1.cell (i := 4) rfl
        replace y4 := HG.out.2.2.cell (i := 4) rfl
        replace x5 := HG.out.2.1.cell (i := 5) rfl
        replace y5 := HG.out.2.2.cell (i := 5) rfl
        replace x6 := HG.out.2.1.cell (i := 6) rfl
        replace y6 := HG.out.2.2.cell (i := 6) rfl
        cases z4 with
        | false =>
          go_wp2
          go_ret
          exact ⟨by rw [HO.out]; simp, HG.out.1⟩
        | true =>
          cases z5 with
          | false =>
            have q := h5.out
            go_wp2
            go_ret
            exact ⟨by rw [HO.out]; simp, HG.out.1⟩
          | true =>
            have q5 := h5.out
            go_wp2_with fail
            refine (HV.out _ HG.out.1).mono ?_
            rintro e w6 ⟨rfl, hg⟩
            have HG6 : Hid (w.grownBy w6 none ∧ Blk w6 N 66 [.string s, iV cl, iV sq, .slice a1 n1 c1, .bool g, .slice a2 n2 c2, .slice a3 n3 c3] ∧ Blk w6 M 66 [.string s', iV cl', iV sq', .slice a1' n1' c1', .bool g', .slice a2' n2' c2', .slice a3' n3' c3']) := ⟨gb_trans HG.out.1 hg, HG.out.2.1.grown hg (by simp), HG.out.2.2.grown hg (by simp)⟩
            clear hg HG
            have HG := HG6; clear HG6
            replace x6 := HG.out.2.1.cell (i := 6) rfl
            replace y6 := HG.out.2.2.cell (i := 6) rfl
            cases z6 with
            | false =>
              go_wp2
              go_ret
              exact ⟨by rw [HO.out]; simp, HG.out.1⟩
            | true =>
              go_wp2_with fail
              refine (HS.out _ HG.out.1).mono ?_
              rintro e w7 ⟨rfl, hg⟩
              have HG7 : Hid (w.grownBy w7 none ∧ Blk w7 N 66 [.string s, iV cl, iV sq, .slice a1 n1 c1, .bool g, .slice a2 n2 c2, .slice a3 n3 c3] ∧ Blk w7 M 66 [.string s', iV cl', iV sq', .slice a1' n1' c1', .bool g', .slice a2' n2' c2', .slice a3' n3' c3']) := ⟨gb_trans HG.out.1 hg, HG.out.2.1.grown hg (by simp), HG.out.2.2.grown hg (by simp)⟩
              clear hg HG
              have HG := HG7; clear HG7
              go_wp2
              go_ret
              exact ⟨by rw [HO.out]; simp, HG.out.1⟩
end Rc
end Go.Proofs.YtlkiancedgaicaaGreat

/- The kit's SameRecords. -/
namespace Go.Proofs.YtlkiancedgaicaaGreat
open Go.RowKit Ow Wi Ve Rc
namespace Sb
theorem recs_len (l : List E) : (recs l).length = l.length := List.length_map _
theorem recs_at (l : List E) (j : Nat) (h : j < l.length) : (recs l)[j]? = some (l.getD j e0).2 := by
  rw [recs, List.getElem?_map, List.getElem?_eq_getElem h, List.getD_eq_getElem?_getD, List.getElem?_eq_getElem h]; rfl
theorem recs_ext (l k : List E) (h : l.length = k.length) : recs l = recs k ↔ ∀ j, j < l.length → sameB (l.getD j e0).2 (k.getD j e0).2 = true := by
  constructor
  · intro e j hj
    have := congrArg (fun q => q[j]?) e
    simp only [recs_at l j hj, recs_at k j (by omega), Option.some.injEq] at this
    exact (sameB_iff _ _).2 this
  · intro hs
    refine List.ext_getElem? fun j => ?_
    by_cases hj : j < l.length
    · rw [recs_at l j hj, recs_at k j (by omega), (sameB_iff _ _).1 (hs j hj)]
    · rw [List.getElem?_eq_none (by rw [recs_len]; omega), List.getElem?_eq_none (by rw [recs_len]; omega)]
instance : DecidableEq R := fun a b => decidable_of_iff (sameB a b = true) (sameB_iff a b)
def sameL (l k : List R) : Bool := decide (l = k)
set_option maxHeartbeats 1000000 in
set_option maxRecDepth 100000 in
theorem sameRecs_any (B1 B2 n m c d : Nat) (a b : Option Addr) (l k : List E) (w : World) (hn : l.length = n) (hm : k.length = m) (h1 : RRow w B1 a l) (h2 : RRow w B2 b k) (hb : n < 9223372036854775808) :
    Calls Tryz.prog 39 #[.slice a n c, .slice b m d] w fun e w' => e = .returned (.bool (sameL (recs l) (recs k))) ∧ w.grownBy w' none := by
  have HN := Lib.hid (And.intro hn (And.intro h1 h2))
  obtain ⟨Q, hQ⟩ : ∃ Q : Ending → World → Prop, Q = fun e w' => e = .returned (.bool (sameL (recs l) (recs k))) ∧ w.grownBy w' none := ⟨_, rfl⟩
  rw [← hQ]
  have HQ := Lib.hid hQ; clear hQ h1 h2
  by_cases hnm : n = m
  · subst hnm
    have HX := Lib.hid (recs_ext l k (hn.trans hm.symm))
    have HM := Lib.hid hm
    clear hn hm
    go_enter Tryz.func39, Tryz.ntmps39
    go_wp2_with fail
    go_loopw [5] (fun i wr => ∃ (j : Nat), j ≤ n ∧ i = .int .i64 j ∧ Hid (w.grownBy wr none ∧ ∀ i, i < j → sameB (l.getD i e0).2 (k.getD i e0).2 = true)) (fun i _ => n - (intOf i).toNat)
    case atStart => exact ⟨0, by omega, rfl, gb_refl _ _, fun j hj => absurd hj (by omega)⟩
    case round =>
      obtain ⟨j, hj, rfl, HI⟩ := hrel
      by_cases hlt : j < n
      · have hl : 0 < l.length := by rw [HN.out.1]; omega
        have hl2 : 0 < k.length := by rw [HM.out]; omega
        obtain ⟨pb, po, rfl, hpb, hcs⟩ := (HN.out.2.1.stay HI.out.1).at hl
        obtain ⟨qb, qo, rfl, hqb, hds⟩ := (HN.out.2.2.stay HI.out.1).at hl2
        have hx := hcs j (by rw [HN.out.1]; exact hlt)
        have hy := hds j (by rw [HM.out]; exact hlt)
        have hrx := (HN.out.2.1.stay HI.out.1).recs _ (getD_mem (l := l) (i := j) (by rw [HN.out.1]; exact hlt))
        have hry := (HN.out.2.2.stay HI.out.1).recs _ (getD_mem (l := k) (i := j) (by rw [HM.out]; exact hlt))
        have HB := Lib.hid (fun w' (hg : wr.grownBy w' none) => sameRec_any (l.getD j e0).2 (k.getD j e0).2 B1 B2 w' _ _ (hrx.stay hg) (hry.stay hg))
        have HK : Hid (∀ b, sameB (l.getD j e0).2 (k.getD j e0).2 = b → (b = true → ∀ i, i < j + 1 → sameB (l.getD i e0).2 (k.getD i e0).2 = true) ∧ (b = false → sameL (recs l) (recs k) = false)) := by
          refine fun b hb => ⟨fun e i hi => ?_, fun e => ?_⟩
          · rcases (by omega : i < j ∨ i = j) with hi | rfl
            · exact HI.out.2 i hi
            · exact hb.trans e
          · unfold sameL
            rw [decide_eq_false_iff_not]
            intro hq
            have := HX.out.1 hq j (by rw [HN.out.1]; exact hlt)
            rw [hb, e] at this; cases this
        generalize l.getD j e0 = x at *
        generalize k.getD j e0 = y at *
        obtain ⟨b, hb⟩ : ∃ b, sameB x.2 y.2 = b := ⟨_, rfl⟩
        rw [hb] at HB
        replace HK := Lib.hid (HK.out b hb)
        clear hb hcs hds hrx hry
        obtain ⟨⟨s, a1, n1, c1', a2, n2, c2', a3, n3, c3'⟩, ⟨key, cl, sq, cx, g, val, sig⟩⟩ := x
        obtain ⟨⟨s', a1', n1', d1', a2', n2', d2', a3', n3', d3'⟩, ⟨key', cl', sq', cx', g', val', sig'⟩⟩ := y
        have HXY := Lib.hid (And.intro (cells_of hx) (cells_of hy)); clear hx hy
        replace HB : Hid (∀ w', wr.grownBy w' none → Calls Tryz.prog 79 #[vV s cl sq a1 n1 c1' g a2 n2 c2' a3 n3 c3', vV s' cl' sq' a1' n1' d1' g' a2' n2' d2' a3' n3' d3'] w' fun e w'' => e = .returned (.bool b) ∧ w'.grownBy w'' none) := HB
        have hi : (j : Int) < (n : Int) := by omega
        obtain ⟨w2, hw2⟩ : ∃ w2, w2 = wr := ⟨_, rfl⟩
        have HG2 := Lib.hid HI.out.1
        rw [← hw2] at HXY HG2 HB
        go_wp2_with fail
        rw [← hw2]
        clear hw2 hi
        cases b with
        | false =>
          have HF := Lib.hid (HK.out.2 rfl)
          clear HK
          refine Fg.region_t [] [.any, .any, .any, .any, .any, .any, .any, .any, .any, .any, .any, .any, .any, .any, .any, .any, .any, .val (Value.slice (some ⟨pb, po, none⟩) n c), .val (Value.int .i64 j), .val (Value.pointer (some ⟨pb, po + j * 7, none⟩)), .val (vV s cl sq a1 n1 c1' g a2 n2 c2' a3 n3 c3'), .val (Value.slice (some ⟨qb, qo, none⟩) n d), .val (Value.int .i64 j), .val (Value.pointer (some ⟨qb, qo + j * 7, none⟩)), .val (vV s' cl' sq' a1' n1' d1' g' a2' n2' d2' a3' n3' d3'), .val (Value.bool false), .val (Value.bool true)] w2 10 (gb_refl _ _) (by kernel_rfl) (by kernel_rfl) (by kernel_rfl) (by kernel_rfl) (by decide) (by kernel_rfl) ?_ ?_
          · refine ⟨Fg.vT rfl (by decide) fun ac w h => ?_, ?_⟩
            · have e0 : ac.tmps.getD 0 undef = Value.slice (some ⟨pb, po, none⟩) n c := h.rest 0 (by kernel_rfl)
              exact ⟨_, w, wants_none rfl, Fg.run_move rfl e0, gb_refl _ _, rfl⟩
            refine ⟨Fg.vT rfl (by decide) fun ac w h => ?_, ?_⟩
            · have e5 : ac.tmps.getD 5 undef = Value.int .i64 j := h.rest 5 (by kernel_rfl)
              exact ⟨_, w, wants_none rfl, Fg.run_move rfl e5, gb_refl _ _, rfl⟩
            refine ⟨Fg.vT rfl (by decide) fun ac w h => ?_, ?_⟩
            · have e17 : ac.tmps.getD 17 undef = Value.slice (some ⟨pb, po, none⟩) n c := h.dep 17 (by kernel_rfl)
              have e18 : ac.tmps.getD 18 undef = Value.int .i64 j := h.dep 18 (by kernel_rfl)
              have i0 : (j : Int) < (n : Int) := by omega
              refine ⟨.pointer (some ⟨pb, po + j * 7, none⟩), w, wants_none rfl, ?_, gb_refl _ _, rfl⟩
              clear h
              simp only [execOp, Act.eval, e17, e18]
              go_simp
            refine ⟨Fg.vT rfl (by decide) fun ac w h => ?_, ?_⟩
            · have e19 : ac.tmps.getD 19 undef = Value.pointer (some ⟨pb, po + j * 7, none⟩) := h.dep 19 (by kernel_rfl)
              have m0 : w.cell? ⟨pb, po + j * 7 , none⟩ = some (.string s) := by rw [gb_cell h.base (block_lt_of_cell (HXY.out.1.1)) (by simp)]; exact HXY.out.1.1
              have m1 : w.cell? ⟨pb, po + j * 7 + 1, none⟩ = some (iV cl) := by rw [gb_cell h.base (block_lt_of_cell (HXY.out.1.2.1)) (by simp)]; exact HXY.out.1.2.1
              have m2 : w.cell? ⟨pb, po + j * 7 + 2, none⟩ = some (iV sq) := by rw [gb_cell h.base (block_lt_of_cell (HXY.out.1.2.2.1)) (by simp)]; exact HXY.out.1.2.2.1
              have m3 : w.cell? ⟨pb, po + j * 7 + 3, none⟩ = some (.slice a1 n1 c1') := by rw [gb_cell h.base (block_lt_of_cell (HXY.out.1.2.2.2.1)) (by simp)]; exact HXY.out.1.2.2.2.1
              have m4 : w.cell? ⟨pb, po + j * 7 + 4, none⟩ = some (.bool g) := by rw [gb_cell h.base (block_lt_of_cell (HXY.out.1.2.2.2.2.1)) (by simp)]; exact HXY.out.1.2.2.2.2.1
              have m5 : w.cell? ⟨pb, po + j * 7 + 5, none⟩ = some (.slice a2 n2 c2') := by rw [gb_cell h.base (block_lt_of_cell (HXY.out.1.2.2.2.2.2.1)) (by simp)]; exact HXY.out.1.2.2.2.2.2.1
              have m6 : w.cell? ⟨pb, po + j * 7 + 6, none⟩ = some (.slice a3 n3 c3') := by rw [gb_cell h.base (block_lt_of_cell (HXY.out.1.2.2.2.2.2.2)) (by simp)]; exact HXY.out.1.2.2.2.2.2.2
              refine ⟨vV s cl sq a1 n1 c1' g a2 n2 c2' a3 n3 c3', w, wants_none rfl, ?_, gb_refl _ _, rfl⟩
              clear h
              simp only [execOp, Act.eval, e19]
              go_simp
            refine ⟨Fg.vT rfl (by decide) fun ac w h => ?_, ?_⟩
            · have e1 : ac.tmps.getD 1 undef = Value.slice (some ⟨qb, qo, none⟩) n d := h.rest 1 (by kernel_rfl)
              exact ⟨_, w, wants_none rfl, Fg.run_move rfl e1, gb_refl _ _, rfl⟩
            refine ⟨Fg.vT rfl (by decide) fun ac w h => ?_, ?_⟩
            · have e5 : ac.tmps.getD 5 undef = Value.int .i64 j := h.rest 5 (by kernel_rfl)
              exact ⟨_, w, wants_none rfl, Fg.run_move rfl e5, gb_refl _ _, rfl⟩
            refine ⟨Fg.vT rfl (by decide) fun ac w h => ?_, ?_⟩
            · have e21 : ac.tmps.getD 21 undef = Value.slice (some ⟨qb, qo, none⟩) n d := h.dep 21 (by kernel_rfl)
              have e22 : ac.tmps.getD 22 undef = Value.int .i64 j := h.dep 22 (by kernel_rfl)
              have i0 : (j : Int) < (n : Int) := by omega
              refine ⟨.pointer (some ⟨qb, qo + j * 7, none⟩), w, wants_none rfl, ?_, gb_refl _ _, rfl⟩
              clear h
              simp only [execOp, Act.eval, e21, e22]
              go_simp
            refine ⟨Fg.vT rfl (by decide) fun ac w h => ?_, ?_⟩
            · have e23 : ac.tmps.getD 23 undef = Value.pointer (some ⟨qb, qo + j * 7, none⟩) := h.dep 23 (by kernel_rfl)
              have m0 : w.cell? ⟨qb, qo + j * 7 , none⟩ = some (.string s') := by rw [gb_cell h.base (block_lt_of_cell (HXY.out.2.1)) (by simp)]; exact HXY.out.2.1
              have m1 : w.cell? ⟨qb, qo + j * 7 + 1, none⟩ = some (iV cl') := by rw [gb_cell h.base (block_lt_of_cell (HXY.out.2.2.1)) (by simp)]; exact HXY.out.2.2.1
              have m2 : w.cell? ⟨qb, qo + j * 7 + 2, none⟩ = some (iV sq') := by rw [gb_cell h.base (block_lt_of_cell (HXY.out.2.2.2.1)) (by simp)]; exact HXY.out.2.2.2.1
              have m3 : w.cell? ⟨qb, qo + j * 7 + 3, none⟩ = some (.slice a1' n1' d1') := by rw [gb_cell h.base (block_lt_of_cell (HXY.out.2.2.2.2.1)) (by simp)]; exact HXY.out.2.2.2.2.1
              have m4 : w.cell? ⟨qb, qo + j * 7 + 4, none⟩ = some (.bool g') := by rw [gb_cell h.base (block_lt_of_cell (HXY.out.2.2.2.2.2.1)) (by simp)]; exact HXY.out.2.2.2.2.2.1
              have m5 : w.cell? ⟨qb, qo + j * 7 + 5, none⟩ = some (.slice a2' n2' d2') := by rw [gb_cell h.base (block_lt_of_cell (HXY.out.2.2.2.2.2.2.1)) (by simp)]; exact HXY.out.2.2.2.2.2.2.1
              have m6 : w.cell? ⟨qb, qo + j * 7 + 6, none⟩ = some (.slice a3' n3' d3') := by rw [gb_cell h.base (block_lt_of_cell (HXY.out.2.2.2.2.2.2.2)) (by simp)]; exact HXY.out.2.2.2.2.2.2.2
              refine ⟨vV s' cl' sq' a1' n1' d1' g' a2' n2' d2' a3' n3' d3', w, wants_none rfl, ?_, gb_refl _ _, rfl⟩
              clear h
              simp only [execOp, Act.eval, e23]
              go_simp
            refine ⟨Fg.cT rfl (by decide) fun ac w h => ?_, ?_⟩
            · have e20 : ac.tmps.getD 20 undef = vV s cl sq a1 n1 c1' g a2 n2 c2' a3 n3 c3' := h.dep 20 (by kernel_rfl)
              have e24 : ac.tmps.getD 24 undef = vV s' cl' sq' a1' n1' d1' g' a2' n2' d2' a3' n3' d3' := h.dep 24 (by kernel_rfl)
              refine ⟨79, #[vV s cl sq a1 n1 c1' g a2 n2 c2' a3 n3 c3', vV s' cl' sq' a1' n1' d1' g' a2' n2' d2' a3' n3' d3'], wants_none rfl, Fg.run_call rfl rfl (by simp only [List.map_toArray, List.map_cons, List.map_nil, Act.eval, e20, e24]) (Fg.run_enter Tryz.func79 (by kernel_rfl) (by kernel_rfl)), ?_⟩
              exact (HB.out w h.base).mono fun _ _ ⟨he, hg⟩ => ⟨_, he, hg, rfl⟩
            refine ⟨Fg.vT rfl (by decide) fun ac w h => ?_, ?_⟩
            · have e25 : ac.tmps.getD 25 undef = Value.bool false := h.dep 25 (by kernel_rfl)
              refine ⟨Value.bool true, w, wants_none rfl, ?_, gb_refl _ _, rfl⟩
              clear h
              simp only [execOp, Act.eval, e25]
              go_simp
            trivial
          · intro aq wq hB hsz hdf hrest hslots hpt
            obtain ⟨u4, e4⟩ : ∃ u, aq.tmps.getD 4 undef = u := ⟨_, rfl⟩
            obtain ⟨u11, e11⟩ : ∃ u, aq.tmps.getD 11 undef = u := ⟨_, rfl⟩
            obtain ⟨u12, e12⟩ : ∃ u, aq.tmps.getD 12 undef = u := ⟨_, rfl⟩
            obtain ⟨u13, e13⟩ : ∃ u, aq.tmps.getD 13 undef = u := ⟨_, rfl⟩
            obtain ⟨u14, e14⟩ : ∃ u, aq.tmps.getD 14 undef = u := ⟨_, rfl⟩
            obtain ⟨u15, e15⟩ : ∃ u, aq.tmps.getD 15 undef = u := ⟨_, rfl⟩
            obtain ⟨u16, e16⟩ : ∃ u, aq.tmps.getD 16 undef = u := ⟨_, rfl⟩
            obtain ⟨u17, e17⟩ : ∃ u, aq.tmps.getD 17 undef = u := ⟨_, rfl⟩
            obtain ⟨u18, e18⟩ : ∃ u, aq.tmps.getD 18 undef = u := ⟨_, rfl⟩
            obtain ⟨u19, e19⟩ : ∃ u, aq.tmps.getD 19 undef = u := ⟨_, rfl⟩
            obtain ⟨u20, e20⟩ : ∃ u, aq.tmps.getD 20 undef = u := ⟨_, rfl⟩
            obtain ⟨u21, e21⟩ : ∃ u, aq.tmps.getD 21 undef = u := ⟨_, rfl⟩
            obtain ⟨u22, e22⟩ : ∃ u, aq.tmps.getD 22 undef = u := ⟨_, rfl⟩
            obtain ⟨u23, e23⟩ : ∃ u, aq.tmps.getD 23 undef = u := ⟨_, rfl⟩
            obtain ⟨u24, e24⟩ : ∃ u, aq.tmps.getD 24 undef = u := ⟨_, rfl⟩
            obtain ⟨u25, e25⟩ : ∃ u, aq.tmps.getD 25 undef = u := ⟨_, rfl⟩
            have e26 : aq.tmps.getD 26 undef = Value.bool true := hslots 26 (by kernel_rfl)
            obtain rfl := Fg.frame_is (a := aq) (vs := [Value.slice (some ⟨pb, po, none⟩) n c, Value.slice (some ⟨qb, qo, none⟩) n d, undef, undef, u4, Value.int .i64 j, Value.slice (some ⟨pb, po, none⟩) n c, Value.int .i64 n, Value.slice (some ⟨qb, qo, none⟩) n d, Value.int .i64 n, Value.bool false, u11, u12, u13, u14, u15, u16, u17, u18, u19, u20, u21, u22, u23, u24, u25, Value.bool true]) hsz ⟨hrest 0 (by kernel_rfl), hrest 1 (by kernel_rfl), hrest 2 (by kernel_rfl), hrest 3 (by kernel_rfl), e4, hrest 5 (by kernel_rfl), hrest 6 (by kernel_rfl), hrest 7 (by kernel_rfl), hrest 8 (by kernel_rfl), hrest 9 (by kernel_rfl), hrest 10 (by kernel_rfl), e11, e12, e13, e14, e15, e16, e17, e18, e19, e20, e21, e22, e23, e24, e25, e26, trivial⟩ hdf
            clear hsz hdf hrest hslots hpt e4 e11 e12 e13 e14 e15 e16 e17 e18 e19 e20 e21 e22 e23 e24 e25 e26
            have HGq := Lib.hid (gb_trans HG2.out hB)
            clear hB
            refine wpList_nil ?_
            go_wp2
            show Q _ _
            rw [HQ.out]
            exact ⟨by rw [HF.out]; rfl, HGq.out⟩
        | true =>
          have HF := Lib.hid (HK.out.1 rfl)
          clear HK
          refine Fg.region_t [] [.any, .any, .any, .any, .any, .any, .any, .any, .any, .any, .any, .any, .any, .any, .any, .any, .any, .val (Value.slice (some ⟨pb, po, none⟩) n c), .val (Value.int .i64 j), .val (Value.pointer (some ⟨pb, po + j * 7, none⟩)), .val (vV s cl sq a1 n1 c1' g a2 n2 c2' a3 n3 c3'), .val (Value.slice (some ⟨qb, qo, none⟩) n d), .val (Value.int .i64 j), .val (Value.pointer (some ⟨qb, qo + j * 7, none⟩)), .val (vV s' cl' sq' a1' n1' d1' g' a2' n2' d2' a3' n3' d3'), .val (Value.bool true), .val (Value.bool false)] w2 10 (gb_refl _ _) (by kernel_rfl) (by kernel_rfl) (by kernel_rfl) (by kernel_rfl) (by decide) (by kernel_rfl) ?_ ?_
          · refine ⟨Fg.vT rfl (by decide) fun ac w h => ?_, ?_⟩
            · have e0 : ac.tmps.getD 0 undef = Value.slice (some ⟨pb, po, none⟩) n c := h.rest 0 (by kernel_rfl)
              exact ⟨_, w, wants_none rfl, Fg.run_move rfl e0, gb_refl _ _, rfl⟩
            refine ⟨Fg.vT rfl (by decide) fun ac w h => ?_, ?_⟩
            · have e5 : ac.tmps.getD 5 undef = Value.int .i64 j := h.rest 5 (by kernel_rfl)
              exact ⟨_, w, wants_none rfl, Fg.run_move rfl e5, gb_refl _ _, rfl⟩
            refine ⟨Fg.vT rfl (by decide) fun ac w h => ?_, ?_⟩
            · have e17 : ac.tmps.getD 17 undef = Value.slice (some ⟨pb, po, none⟩) n c := h.dep 17 (by kernel_rfl)
              have e18 : ac.tmps.getD 18 undef = Value.int .i64 j := h.dep 18 (by kernel_rfl)
              have i0 : (j : Int) < (n : Int) := by omega
              refine ⟨.pointer (some ⟨pb, po + j * 7, none⟩), w, wants_none rfl, ?_, gb_refl _ _, rfl⟩
              clear h
              simp only [execOp, Act.eval, e17, e18]
              go_simp
            refine ⟨Fg.vT rfl (by decide) fun ac w h => ?_, ?_⟩
            · have e19 : ac.tmps.getD 19 undef = Value.pointer (some ⟨pb, po + j * 7, none⟩) := h.dep 19 (by kernel_rfl)
              have m0 : w.cell? ⟨pb, po + j * 7 , none⟩ = some (.string s) := by rw [gb_cell h.base (block_lt_of_cell (HXY.out.1.1)) (by simp)]; exact HXY.out.1.1
              have m1 : w.cell? ⟨pb, po + j * 7 + 1, none⟩ = some (iV cl) := by rw [gb_cell h.base (block_lt_of_cell (HXY.out.1.2.1)) (by simp)]; exact HXY.out.1.2.1
              have m2 : w.cell? ⟨pb, po + j * 7 + 2, none⟩ = some (iV sq) := by rw [gb_cell h.base (block_lt_of_cell (HXY.out.1.2.2.1)) (by simp)]; exact HXY.out.1.2.2.1
              have m3 : w.cell? ⟨pb, po + j * 7 + 3, none⟩ = some (.slice a1 n1 c1') := by rw [gb_cell h.base (block_lt_of_cell (HXY.out.1.2.2.2.1)) (by simp)]; exact HXY.out.1.2.2.2.1
              have m4 : w.cell? ⟨pb, po + j * 7 + 4, none⟩ = some (.bool g) := by rw [gb_cell h.base (block_lt_of_cell (HXY.out.1.2.2.2.2.1)) (by simp)]; exact HXY.out.1.2.2.2.2.1
              have m5 : w.cell? ⟨pb, po + j * 7 + 5, none⟩ = some (.slice a2 n2 c2') := by rw [gb_cell h.base (block_lt_of_cell (HXY.out.1.2.2.2.2.2.1)) (by simp)]; exact HXY.out.1.2.2.2.2.2.1
              have m6 : w.cell? ⟨pb, po + j * 7 + 6, none⟩ = some (.slice a3 n3 c3') := by rw [gb_cell h.base (block_lt_of_cell (HXY.out.1.2.2.2.2.2.2)) (by simp)]; exact HXY.out.1.2.2.2.2.2.2
              refine ⟨vV s cl sq a1 n1 c1' g a2 n2 c2' a3 n3 c3', w, wants_none rfl, ?_, gb_refl _ _, rfl⟩
              clear h
              simp only [execOp, Act.eval, e19]
              go_simp
            refine ⟨Fg.vT rfl (by decide) fun ac w h => ?_, ?_⟩
            · have e1 : ac.tmps.getD 1 undef = Value.slice (some ⟨qb, qo, none⟩) n d := h.rest 1 (by kernel_rfl)
              exact ⟨_, w, wants_none rfl, Fg.run_move rfl e1, gb_refl _ _, rfl⟩
            refine ⟨Fg.vT rfl (by decide) fun ac w h => ?_, ?_⟩
            · have e5 : ac.tmps.getD 5 undef = Value.int .i64 j := h.rest 5 (by kernel_rfl)
              exact ⟨_, w, wants_none rfl, Fg.run_move rfl e5, gb_refl _ _, rfl⟩
            refine ⟨Fg.vT rfl (by decide) fun ac w h => ?_, ?_⟩
            · have e21 : ac.tmps.getD 21 undef = Value.slice (some ⟨qb, qo, none⟩) n d := h.dep 21 (by kernel_rfl)
              have e22 : ac.tmps.getD 22 undef = Value.int .i64 j := h.dep 22 (by kernel_rfl)
              have i0 : (j : Int) < (n : Int) := by omega
              refine ⟨.pointer (some ⟨qb, qo + j * 7, none⟩), w, wants_none rfl, ?_, gb_refl _ _, rfl⟩
              clear h
              simp only [execOp, Act.eval, e21, e22]
              go_simp
            refine ⟨Fg.vT rfl (by decide) fun ac w h => ?_, ?_⟩
            · have e23 : ac.tmps.getD 23 undef = Value.pointer (some ⟨qb, qo + j * 7, none⟩) := h.dep 23 (by kernel_rfl)
              have m0 : w.cell? ⟨qb, qo + j * 7 , none⟩ = some (.string s') := by rw [gb_cell h.base (block_lt_of_cell (HXY.out.2.1)) (by simp)]; exact HXY.out.2.1
              have m1 : w.cell? ⟨qb, qo + j * 7 + 1, none⟩ = some (iV cl') := by rw [gb_cell h.base (block_lt_of_cell (HXY.out.2.2.1)) (by simp)]; exact HXY.out.2.2.1
              have m2 : w.cell? ⟨qb, qo + j * 7 + 2, none⟩ = some (iV sq') := by rw [gb_cell h.base (block_lt_of_cell (HXY.out.2.2.2.1)) (by simp)]; exact HXY.out.2.2.2.1
              have m3 : w.cell? ⟨qb, qo + j * 7 + 3, none⟩ = some (.slice a1' n1' d1') := by rw [gb_cell h.base (block_lt_of_cell (HXY.out.2.2.2.2.1)) (by simp)]; exact HXY.out.2.2.2.2.1
              have m4 : w.cell? ⟨qb, qo + j * 7 + 4, none⟩ = some (.bool g') := by rw [gb_cell h.base (block_lt_of_cell (HXY.out.2.2.2.2.2.1)) (by simp)]; exact HXY.out.2.2.2.2.2.1
              have m5 : w.cell? ⟨qb, qo + j * 7 + 5, none⟩ = some (.slice a2' n2' d2') := by rw [gb_cell h.base (block_lt_of_cell (HXY.out.2.2.2.2.2.2.1)) (by simp)]; exact HXY.out.2.2.2.2.2.2.1
              have m6 : w.cell? ⟨qb, qo + j * 7 + 6, none⟩ = some (.slice a3' n3' d3') := by rw [gb_cell h.base (block_lt_of_cell (HXY.out.2.2.2.2.2.2.2)) (by simp)]; exact HXY.out.2.2.2.2.2.2.2
              refine ⟨vV s' cl' sq' a1' n1' d1' g' a2' n2' d2' a3' n3' d3', w, wants_none rfl, ?_, gb_refl _ _, rfl⟩
              clear h
              simp only [execOp, Act.eval, e23]
              go_simp
            refine ⟨Fg.cT rfl (by decide) fun ac w h => ?_, ?_⟩
            · have e20 : ac.tmps.getD 20 undef = vV s cl sq a1 n1 c1' g a2 n2 c2' a3 n3 c3' := h.dep 20 (by kernel_rfl)
              have e24 : ac.tmps.getD 24 undef = vV s' cl' sq' a1' n1' d1' g' a2' n2' d2' a3' n3' d3' := h.dep 24 (by kernel_rfl)
              refine ⟨79, #[vV s cl sq a1 n1 c1' g a2 n2 c2' a3 n3 c3', vV s' cl' sq' a1' n1' d1' g' a2' n2' d2' a3' n3' d3'], wants_none rfl, Fg.run_call rfl rfl (by simp only [List.map_toArray, List.map_cons, List.map_nil, Act.eval, e20, e24]) (Fg.run_enter Tryz.func79 (by kernel_rfl) (by kernel_rfl)), ?_⟩
              exact (HB.out w h.base).mono fun _ _ ⟨he, hg⟩ => ⟨_, he, hg, rfl⟩
            refine ⟨Fg.vT rfl (by decide) fun ac w h => ?_, ?_⟩
            · have e25 : ac.tmps.getD 25 undef = Value.bool true := h.dep 25 (by kernel_rfl)
              refine ⟨Value.bool false, w, wants_none rfl, ?_, gb_refl _ _, rfl⟩
              clear h
              simp only [execOp, Act.eval, e25]
              go_simp
            trivial
          · intro aq wq hB hsz hdf hrest hslots hpt
            obtain ⟨u4, e4⟩ : ∃ u, aq.tmps.getD 4 undef = u := ⟨_, rfl⟩
            obtain ⟨u11, e11⟩ : ∃ u, aq.tmps.getD 11 undef = u := ⟨_, rfl⟩
            obtain ⟨u12, e12⟩ : ∃ u, aq.tmps.getD 12 undef = u := ⟨_, rfl⟩
            obtain ⟨u13, e13⟩ : ∃ u, aq.tmps.getD 13 undef = u := ⟨_, rfl⟩
            obtain ⟨u14, e14⟩ : ∃ u, aq.tmps.getD 14 undef = u := ⟨_, rfl⟩
            obtain ⟨u15, e15⟩ : ∃ u, aq.tmps.getD 15 undef = u := ⟨_, rfl⟩
            obtain ⟨u16, e16⟩ : ∃ u, aq.tmps.getD 16 undef = u := ⟨_, rfl⟩
            obtain ⟨u17, e17⟩ : ∃ u, aq.tmps.getD 17 undef = u := ⟨_, rfl⟩
            obtain ⟨u18, e18⟩ : ∃ u, aq.tmps.getD 18 undef = u := ⟨_, rfl⟩
            obtain ⟨u19, e19⟩ : ∃ u, aq.tmps.getD 19 undef = u := ⟨_, rfl⟩
            obtain ⟨u20, e20⟩ : ∃ u, aq.tmps.getD 20 undef = u := ⟨_, rfl⟩
            obtain ⟨u21, e21⟩ : ∃ u, aq.tmps.getD 21 undef = u := ⟨_, rfl⟩
            obtain ⟨u22, e22⟩ : ∃ u, aq.tmps.getD 22 undef = u := ⟨_, rfl⟩
            obtain ⟨u23, e23⟩ : ∃ u, aq.tmps.getD 23 undef = u := ⟨_, rfl⟩
            obtain ⟨u24, e24⟩ : ∃ u, aq.tmps.getD 24 undef = u := ⟨_, rfl⟩
            obtain ⟨u25, e25⟩ : ∃ u, aq.tmps.getD 25 undef = u := ⟨_, rfl⟩
            have e26 : aq.tmps.getD 26 undef = Value.bool false := hslots 26 (by kernel_rfl)
            obtain rfl := Fg.frame_is (a := aq) (vs := [Value.slice (some ⟨pb, po, none⟩) n c, Value.slice (some ⟨qb, qo, none⟩) n d, undef, undef, u4, Value.int .i64 j, Value.slice (some ⟨pb, po, none⟩) n c, Value.int .i64 n, Value.slice (some ⟨qb, qo, none⟩) n d, Value.int .i64 n, Value.bool false, u11, u12, u13, u14, u15, u16, u17, u18, u19, u20, u21, u22, u23, u24, u25, Value.bool false]) hsz ⟨hrest 0 (by kernel_rfl), hrest 1 (by kernel_rfl), hrest 2 (by kernel_rfl), hrest 3 (by kernel_rfl), e4, hrest 5 (by kernel_rfl), hrest 6 (by kernel_rfl), hrest 7 (by kernel_rfl), hrest 8 (by kernel_rfl), hrest 9 (by kernel_rfl), hrest 10 (by kernel_rfl), e11, e12, e13, e14, e15, e16, e17, e18, e19, e20, e21, e22, e23, e24, e25, e26, trivial⟩ hdf
            clear hsz hdf hrest hslots hpt e4 e11 e12 e13 e14 e15 e16 e17 e18 e19 e20 e21 e22 e23 e24 e25 e26
            have HGq := Lib.hid (gb_trans HG2.out hB)
            clear hB
            refine wpList_nil ?_
            go_wp2
            exact ⟨⟨j + 1, by omega, rfl, HGq.out, HF.out⟩, by show n - ((j : Int) + 1).toNat < n - (j : Int).toNat; omega⟩
      · obtain rfl : j = n := by omega
        have HE : Hid (Q (.returned (.bool true)) wr) := by
          show Q _ _
          rw [HQ.out]
          refine ⟨?_, HI.out.1⟩
          rw [show sameL (recs l) (recs k) = true from decide_eq_true (HX.out.2 fun i hi => HI.out.2 i (by rw [← HN.out.1]; exact hi))]
        clear hlt
        go_wp2
        exact HE.out
  · have HE : Hid (Q (.returned (.bool false)) w) := by
      show Q _ _
      rw [HQ.out]
      refine ⟨?_, gb_refl _ _⟩
      rw [show sameL (recs l) (recs k) = false from decide_eq_false fun e => hnm (by have := congrArg List.length e; rw [recs_len, recs_len] at this; omega)]
    have hi : ¬ (n : Int) = (m : Int) := by omega
    clear hn hm
    go_enter Tryz.func39, Tryz.ntmps39
    go_wp2
    exact HE.out
end Sb
end Go.Proofs.YtlkiancedgaicaaGreat

/- One step of a region that draws its order, for go_region_law: an append whose run is known; a call by its contract. -/
namespace Go.Proofs.YtlkiancedgaicaaGreat
open Go
namespace Fg
theorem step_append {P : Program} {ops : Array Oper} {o : Oper} {a : Act} {w : World} {K : Act → World → Prop} {Q : Exit → Act → World → Prop} {E : Prop} (hg : o.guard = none) (s x : Operand) (t : TypeId)
    (ho : o.op = .call { callee := .builtin .append, args := #[s, x], argTypes := #[t, t] }) (ht : o.type = t) (v y : Value) (hs : a.eval s = v) (hx : a.eval x = y) (v' : Value) (w' : World)
    (hr : (Builtin.append_ #[t, t] t #[v, y]).run P w = .ok v' w') (hK : K (a.put o.dst v') w') : if Region.wanted o (yielded ops a.tmps) = true then Oper.wp P o a w K Q else E := by
  have hw : Region.wanted o (yielded ops a.tmps) = true := by simp [Region.wanted, hg]
  rw [if_pos hw]
  rw [← ht] at hr
  unfold Oper.wp
  simp [execOp, ho, resolve, invoke, builtin, hs, hx, ← ht, hr, Result.andThen]
  exact hK
theorem step_call {P : Program} {ops : Array Oper} {o : Oper} {a : Act} {w : World} {K : Act → World → Prop} {Q : Exit → Act → World → Prop} {E : Prop} (hg : o.guard = none) {f : FuncId} {args : Array Value}
    (hr : (execOp a.eval o).run P w = .ok (.enter f args) w) (hc : Calls P f args w fun e w' => ∃ v, e = .returned v ∧ K (a.put o.dst v) w') : if Region.wanted o (yielded ops a.tmps) = true then Oper.wp P o a w K Q else E := by
  have hw : Region.wanted o (yielded ops a.tmps) = true := by simp [Region.wanted, hg]
  rw [if_pos hw]
  unfold Oper.wp
  rw [hr]
  exact Calls.mono hc fun e w' ⟨v, he, hK⟩ => by subst he; exact hK
/-- a result that is a row, and one beside it -/
theorem res_row_tmp {P : Program} {fn : Func} {p u : Tmp} {ty : TypeId} (h : fn.results = #[.cell p ty, .tmp u]) (tmps : Array Value) (w : World) (g : Nat) (t : TypeId) (cs : Array Value) (fr : Nat × Nat) (d : TypeDesc)
    (hp : tmps.getD p undef = .pointer (some ⟨g, 0, none⟩)) (hg : w.heap[g]? = some (.cells cs t fr))
    (hu : P.underlying ty = some d) (hd : (match d with | .struct _ | .array _ _ => true | _ => false) = true) (hi : (P.info? ty).map (·.size) = some cs.size) {v : Value} (hv : tmps.getD u undef = v) :
    (results fn tmps).run P w = .ok (.tuple #[.agg cs, v]) w := by
  rw [results_cell_tmp h, hp, hv]
  simp [asAddr, run_loadVar_row w g t ty cs fr d hg hu hd hi, Result.andThen]
end Fg
end Go.Proofs.YtlkiancedgaicaaGreat

/- Sizes of a dot, of a record. -/
namespace Go.Proofs.YtlkiancedgaicaaGreat
open Go.RowKit Ow Wi Ve
namespace Rc
theorem info_dotS : (Tryz.prog.info? 127).map (·.size) = some 2 := by kernel_rfl
theorem info_recS : (Tryz.prog.info? 66).map (·.size) = some 7 := by kernel_rfl
end Rc
end Go.Proofs.YtlkiancedgaicaaGreat

/- The law's own records: of. -/
namespace Go.Proofs.YtlkiancedgaicaaGreat
open Go.RowKit Ow Wi Ve Rc
namespace Sb
/-- the first k pairs -/
def pk (ds : List Int) (k : Nat) : List D := (List.range k).map fun i => (ds.getD (i * 2) 0, ds.getD (i * 2 + 1) 0)
theorem pk_next (ds : List Int) (k : Nat) : pk ds (k + 1) = pk ds k ++ [(ds.getD (k * 2) 0, ds.getD (k * 2 + 1) 0)] := by
  unfold pk; rw [List.range_succ, List.map_append]; rfl
theorem pk_len (ds : List Int) (k : Nat) : (pk ds k).length = k := by simp [pk]
def ofR (cl sq : Int) (ds : List Int) : R := ⟨[107], cl, sq, pk ds (ds.length / 2), false, [], List.replicate 64 0⟩
def ofE (cl sq : Int) (ds : List Int) (a1 : Option Addr) (c1 p : Nat) : E := (⟨⟨#[107]⟩, a1, ds.length / 2, c1, none, 0, 0, some ⟨p, 0, none⟩, 64, 64⟩, ofR cl sq ds)
def OfOut (w : World) (cl sq : Int) (ds : List Int) (e : Ending) (w' : World) : Prop := ∃ a1 c1 p, e = .returned (recV (ofE cl sq ds a1 c1 p)) ∧ RAt w' w'.heap.size (ofE cl sq ds a1 c1 p).1 (ofR cl sq ds) ∧ w.grownBy w' none
set_option maxHeartbeats 2000000 in
set_option maxRecDepth 100000 in
theorem of_any (cl sq : Int) (ds : List Int) (n c : Nat) (a : Option Addr) (w : World) (hn : ds.length = n) (hc : n = 0 ∨ ∃ pb po, a = some ⟨pb, po, none⟩ ∧ ∀ i, i < n → w.cell? ⟨pb, po + i, none⟩ = some (iV (ds.getD i 0))) (hs : n ≤ 1000) :
    Calls Tryz.prog 48 #[.int .i64 cl, .int .i64 sq, .slice a n c] w (OfOut w cl sq ds) := by
  obtain ⟨Q, hQ⟩ : ∃ Q, Q = OfOut w cl sq ds := ⟨_, rfl⟩
  rw [← hQ]
  have HQ := Lib.hid hQ; clear hQ
  obtain ⟨w1, hw1⟩ : ∃ w1, w1 = w.alloc (.cells #[.string ⟨#[]⟩, iV 0, iV 0, .slice none 0 0, .bool false, .slice none 0 0, .slice none 0 0] 66) := ⟨_, rfl⟩
  obtain ⟨N, hN⟩ : ∃ N, N = w.heap.size := ⟨_, rfl⟩
  have hs1 : w1.heap.size = N + 1 := by rw [hw1, hN]; simp
  have hg1 : w.grownBy w1 none := by rw [hw1]; exact gb_alloc (gb_refl _ _) _
  have hb1 : Blk w1 N 66 z7 := by rw [hw1]; exact blk_at _ _ _ hN.symm
  obtain ⟨w2, hmk, hg2, hs2, hb2⟩ := make_bytes 64 64 w1 (Nat.le_refl _) (by omega)
  have hmk' : (Instr.makeSlice 23 (.int .i64 64) (.int .i64 64)).run Tryz.prog w1 = .ok (.slice (some ⟨N + 1, 0, none⟩) 64 64) w2 := by rw [← hs1]; exact hmk
  rw [hs1] at hb2 hs2
  obtain ⟨w3, hw3⟩ : ∃ w3, w3 = w2.alloc (.cells #[.string ⟨#[107]⟩, iV cl, iV sq, .slice none 0 0, .bool false, .slice none 0 0, .slice (some ⟨N + 1, 0, none⟩) 64 64] 66) := ⟨_, rfl⟩
  obtain ⟨M, hM⟩ : ∃ M, M = w2.heap.size := ⟨_, rfl⟩
  have hMN : M = N + 2 := by rw [hM, hs2]
  have hg3 : w2.grownBy w3 none := by rw [hw3]; exact gb_alloc (gb_refl _ _) _
  have hb3 : Blk w3 M 66 [.string ⟨#[107]⟩, iV cl, iV sq, .slice none 0 0, .bool false, .slice none 0 0, .slice (some ⟨N + 1, 0, none⟩) 64 64] := by rw [hw3]; exact blk_at _ _ _ hM.symm
  have hgw : w.grownBy w3 none := gb_trans hg1 (gb_trans hg2 hg3)
  have HB : Hid (w.grownBy w3 none ∧ Blk w3 N 66 z7 ∧ Blk w3 (N + 1) 5 (List.replicate 64 (u8N 0)) ∧ Blk w3 M 66 [.string ⟨#[107]⟩, iV cl, iV sq, .slice none 0 0, .bool false, .slice none 0 0, .slice (some ⟨N + 1, 0, none⟩) 64 64] ∧ M = N + 2 ∧ N = w.heap.size) := ⟨hgw, (hb1.grown hg2 (by simp)).grown hg3 (by simp), hb2.grown hg3 (by simp), hb3, hMN, hN⟩
  have HC := Lib.hid (And.intro hc hn)
  clear hg1 hb1 hg2 hb2 hs2 hs1 hg3 hb3 hgw hmk hc hMN
  go_enter Tryz.func48, Tryz.ntmps48
  go_upto_region 1 with fail
  rw [← hw1, ← hN]
  clear hw1 hN
  go_wp2_with fail
  rw [← hw3, ← hM]
  clear hw3 hM hmk'
  go_loopw [8] (fun i wr => ∃ (k : Nat), k * 2 ≤ n ∧ i = .int .i64 (k * 2 : Nat) ∧ Hid (w3.grownBy wr (some M) ∧ ∃ a1 c1, Blk wr M 66 [.string ⟨#[107]⟩, iV cl, iV sq, .slice a1 k c1, .bool false, .slice none 0 0, .slice (some ⟨N + 1, 0, none⟩) 64 64] ∧ OwnD' wr w3.heap.size (.slice a1 k c1) k (pk ds k))) (fun i _ => n - (intOf i).toNat)
  case atStart => exact ⟨0, by omega, rfl, gb_refl _ _, none, 0, HB.out.2.2.2.1, World.ownsRow_nil _ _ _ _⟩
  case round =>
    obtain ⟨k, hk, rfl, HI⟩ := hrel
    obtain ⟨hgr, a1, c1, hbr, hor⟩ := HI.out
    have hNM : N < M := by have := HB.out.2.2.2.2.1; omega
    have hwr : w.grownBy wr none := gb_then HB.out.1 hgr (by have := HB.out.2.2.2.2; omega)
    by_cases hlt : k * 2 + 1 < n
    · have hi : (k : Int) * 2 + 1 < (n : Int) := by omega
      obtain ⟨pb, po, rfl, hcs⟩ := HC.out.1.resolve_left (by omega)
      have d0 := hcs (k * 2) (by omega)
      have d1 := hcs (k * 2 + 1) hlt
      have hpl := block_lt_of_cell d0
      rw [← gb_cell hwr (p := ⟨pb, po + k * 2, none⟩) hpl (by simp)] at d0
      rw [← gb_cell hwr (p := ⟨pb, po + (k * 2 + 1), none⟩) hpl (by simp)] at d1
      have hpn := pk_next ds k
      generalize ds.getD (k * 2) 0 = x at *
      generalize ds.getD (k * 2 + 1) 0 = y at *
      have hga := gb_drew (gb_alloc (gb_refl wr none) (.cells #[iV x, iV y] 127))
      obtain ⟨v', w', hap, ho', hg'⟩ := append_dots ((wr.alloc (.cells #[iV x, iV y] 127)).drew) w3.heap.size (wr.heap.size + 1) (.slice a1 k c1) k (pk ds k) (some ⟨wr.heap.size, 0, none⟩) 1 1 [(x, y)] (hor.kept hga (by cases (Value.slice a1 k c1).ownBlock <;> simp)) rfl ((dots_one' wr x y _).stay (gb_drew (gb_refl _ _))) (fun e => by cases e) (by omega) (Nat.le_trans hgr.size (by simp))
      obtain ⟨a', c', rfl⟩ := own_shapeD ho'
      rw [← hpn] at ho'
      have hMw : M < w3.heap.size := HB.out.2.2.2.1.lt
      have hne : some M ≠ (Value.slice a1 k c1).ownBlock := fun e => by
        have := (hor.lt M e.symm).1
        omega
      have k3 := hbr.cell (i := 3) rfl
      have k3' := (hbr.grown hga (by simp)).cell (i := 3) rfl
      have d0' := (gb_cell hga (p := ⟨pb, po + k * 2, none⟩) (block_lt_of_cell d0) (by simp)).trans d0
      have d1' := (gb_cell hga (p := ⟨pb, po + (k * 2 + 1), none⟩) (block_lt_of_cell d1) (by simp)).trans d1
      have hbu := (hbr.grown hga (by simp)).grown hg' hne
      have u3 := hbu.cell (i := 3) rfl
      have uf := hbu.free 3
      have HAP := Lib.hid hap
      have HE : Hid (w3.grownBy (w'.setCell ⟨M, 3, none⟩ (.slice a' (k + 1) c')) (some M) ∧ ∃ a1 c1, Blk (w'.setCell ⟨M, 3, none⟩ (.slice a' (k + 1) c')) M 66 [.string ⟨#[107]⟩, iV cl, iV sq, .slice a1 (k + 1) c1, .bool false, .slice none 0 0, .slice (some ⟨N + 1, 0, none⟩) 64 64] ∧ OwnD' (w'.setCell ⟨M, 3, none⟩ (.slice a' (k + 1) c')) w3.heap.size (.slice a1 (k + 1) c1) (k + 1) (pk ds (k + 1))) := by
        have hgx : w3.grownBy w' (some M) := by
          have h1 := gb_trans hgr (gb_row hga (some M))
          exact ⟨hg'.os.trans h1.os, hg'.tape.trans h1.tape, hg'.output.trans h1.output, Nat.le_trans h1.size hg'.size, fun q hq hr => (hg'.block q (Nat.lt_of_lt_of_le hq h1.size) (fun e => by have := (hor.lt q e.symm).1; omega)).trans (h1.block q hq hr)⟩
        refine ⟨gb_set hgx 3 _, a', c', hbu.set 3 _, ho'.kept (gb_set (gb_refl w' (some M)) 3 _) (Or.inr fun e => by have := (ho'.lt _ e).1; omega)⟩
      clear ho' hg' hne hbu hap hga hgr hbr hor hcs hpl hwr hpn
      have i1 : (k : Int) * 2 < (n : Int) := by omega
      have i2 : ¬ (k : Int) * 2 < 0 := by omega
      have i3 : ¬ (k : Int) * 2 + 1 < 0 := by omega
      have i4 : ¬ (n : Int) ≤ (k : Int) * 2 := by omega
      have i5 : ¬ (n : Int) ≤ (k : Int) * 2 + 1 := by omega
      have iw : IntKind.i64.wrap ((k : Int) * 2 + 1) = (k : Int) * 2 + 1 := by rw [IntKind.wrap_i64]; omega
      have iw2 : IntKind.i64.wrap ((k : Int) * 2 + 2) = (k : Int) * 2 + 2 := by rw [IntKind.wrap_i64]; omega
      have i6 : 0 ≤ (k : Int) * 2 + 1 := by omega
      have t0 : ((k : Int) * 2).toNat = k * 2 := by omega
      have t1 : ((k : Int) * 2 + 1).toNat = k * 2 + 1 := by omega
      go_wp2_with fail
      go_region_law (first | (refine Fg.step_append rfl (.tmp 21) (.tmp 32) 64 rfl rfl _ _ rfl rfl _ _ HAP.out ?_))
      all_goals
        go_wp2
        exact ⟨⟨k + 1, by omega, by simp [Int.add_mul], HE.out⟩, by show n - ((k : Int) * 2 + 2).toNat < n - ((k : Int) * 2).toNat; omega⟩
    · have hkn := Lib.hid (show k = n / 2 by omega)
      have hl1 : ¬ (k : Int) * 2 + 1 < (n : Int) := by omega
      have hsg : Blk wr (N + 1) 5 (List.replicate 64 (u8N 0)) := HB.out.2.2.1.grown hgr (by have := HB.out.2.2.2.2.1; simp; omega)
      have hbN : Blk wr N 66 z7 := HB.out.2.1.grown hgr (by simp; omega)
      have HZ := Lib.hid (And.intro hbr (And.intro hbN (And.intro hsg (And.intro hor hwr))))
      clear hgr hor hsg hwr
      have x0 := hbr.cell (i := 0) rfl
      have y0 := hbN.cell (i := 0) rfl
      have g0 := hbN.free 0
      have x1 := hbr.cell (i := 1) rfl
      have y1 := hbN.cell (i := 1) rfl
      have g1 := hbN.free 1
      have x2 := hbr.cell (i := 2) rfl
      have y2 := hbN.cell (i := 2) rfl
      have g2 := hbN.free 2
      have x3 := hbr.cell (i := 3) rfl
      have y3 := hbN.cell (i := 3) rfl
      have g3 := hbN.free 3
      have x4 := hbr.cell (i := 4) rfl
      have y4 := hbN.cell (i := 4) rfl
      have g4 := hbN.free 4
      have x5 := hbr.cell (i := 5) rfl
      have y5 := hbN.cell (i := 5) rfl
      have g5 := hbN.free 5
      have x6 := hbr.cell (i := 6) rfl
      have y6 := hbN.cell (i := 6) rfl
      have g6 := hbN.free 6
      have hNM' : N ≠ M := by omega
      have hMN' : M ≠ N := by omega
      have iw : IntKind.i64.wrap ((k : Int) * 2 + 1) = (k : Int) * 2 + 1 := by rw [IntKind.wrap_i64]; omega
      clear hbr hbN hlt
      go_wp2_with fail
      obtain ⟨hbr, hbN, hsg, hor, hwr⟩ := HZ.out
      have hgN := gb_set (gb_set (gb_set (gb_set (gb_set (gb_set (gb_set (gb_refl wr (some N)) 0 (.string ⟨#[107]⟩)) 1 (iV cl)) 2 (iV sq)) 3 (.slice a1 k c1)) 4 (.bool false)) 5 (.slice none 0 0)) 6 (.slice (some ⟨N + 1, 0, none⟩) 64 64)
      have hR7 := ((((((hbN.set 0 (.string ⟨#[107]⟩)).set 1 (iV cl)).set 2 (iV sq)).set 3 (.slice a1 k c1)).set 4 (.bool false)).set 5 (.slice none 0 0)).set 6 (.slice (some ⟨N + 1, 0, none⟩) 64 64)
      refine bodyPost_ret (v := .agg #[.string ⟨#[107]⟩, iV cl, iV sq, .slice a1 k c1, .bool false, .slice none 0 0, .slice (some ⟨N + 1, 0, none⟩) 64 64]) (results_cell_row Tryz.results48 _ _ N 66 _ (0, 0) _ rfl hR7 Tryz.underlying66 rfl info_recS) rfl ?_
      rw [HQ.out]
      have hNw : N < w3.heap.size := HB.out.2.1.lt
      have ho2 := hor.kept hgN (Or.inr fun e => by have := (hor.lt _ e).1; omega)
      have hs2 := hsg.grown hgN (by simp)
      have hkd : ds.length / 2 = k := by rw [HC.out.2, hkn.out]
      refine ⟨a1, c1, N + 1, by unfold ofE; rw [hkd]; rfl, ?_, gb_then hwr hgN (by have := HB.out.2.2.2.2.2; omega)⟩
      have hpk : pk ds (ds.length / 2) = pk ds k := by rw [HC.out.2, hkn.out]
      obtain ⟨a', c', e', hl', _, hd'⟩ := own_dots ho2
      simp only [Value.slice.injEq, true_and] at e'
      obtain ⟨rfl, rfl⟩ := e'
      refine ⟨rfl, ?_, rfl, by simp [ofR, ofE], ?_, ?_, ?_, by show ds.length / 2 < _; omega⟩
      · show (pk ds (ds.length / 2)).length = ds.length / 2; rw [pk_len]
      · show DotsAt _ _ a1 (pk ds (ds.length / 2)); rw [hpk]; exact hd'
      · exact ⟨Nat.le_refl _, Nat.le_refl _, (by decide : (0 : Nat) < 9223372036854775808), fun i => by simp [ofR], Or.inl rfl⟩
      · refine ⟨Nat.le_refl _, by simp [ofR, ofE], (by decide : (64 : Nat) < 9223372036854775808), fun i => ?_, Or.inr ⟨N + 1, 0, rfl, hs2.lt, fun i hi => ?_⟩⟩
        · show (List.replicate 64 0).getD i 0 < 256
          rw [List.getD_eq_getElem?_getD, List.getElem?_replicate]; split <;> simp
        · have hi2 : i < 64 := by simpa [ofR] using hi
          show World.cell? _ _ = some (u8N ((List.replicate 64 0).getD i 0))
          rw [Nat.zero_add]
          refine hs2.cell ?_
          rw [List.getElem?_replicate, if_pos hi2, List.getD_eq_getElem?_getD, List.getElem?_replicate, if_pos hi2]; rfl
end Sb
end Go.Proofs.YtlkiancedgaicaaGreat

/- A row of one's own: one record is put in another one's place. own: a right record's bytes. -/
namespace Go.Proofs.YtlkiancedgaicaaGreat
open Go.RowKit Ow Wi Ve Rc
namespace Sb
theorem own_setR {w : World} {base g n c i : Nat} {l : List E} (x : E) (h : OwnR w base (.slice (some ⟨g, 0, none⟩) n c) l) (hi : i < l.length) :
    OwnR (w.setCells g (i * 7) (recC x)) base (.slice (some ⟨g, 0, none⟩) n c) (l.set i x) ∧ w.grownBy (w.setCells g (i * 7) (recC x)) (some g) ∧ w.there g (i * 7) 7 := by
  obtain ⟨g', c', cur, e1, hb, hg, hnc, hcm, hcs, ht⟩ := h.2.resolve_left (fun h => by cases h.1)
  simp only [Value.slice.injEq, Option.some.injEq, Addr.mk.injEq, and_true] at e1
  obtain ⟨rfl, rfl, rfl⟩ := e1
  obtain ⟨L, rfl⟩ : ∃ L : List Value, cur = L.toArray := ⟨cur.toList, by simp⟩
  have hB : Blk w g 66 L := hg
  simp only [List.size_toArray] at hcs
  have ht2 : L.take (l.length * 7) = recsC l := by simpa using ht
  have hroom : i * 7 + 7 ≤ L.length := by rw [hcs]; omega
  have hB2 := hB.setCells (cs := recC x) (i * 7)
  have hlen : (l.set i x).length = l.length := List.length_set ..
  refine ⟨⟨by rw [recsC_len], Or.inr ⟨g, c, _, by rw [hlen], hb, hB2, by rw [hlen]; exact hnc, hcm, ?_, ?_⟩⟩, gb_setCells (gb_refl _ _) _, hB.there _ _ hroom⟩
  · rw [List.size_toArray, over_length, hcs]
  · show List.take _ (over L (i * 7) (recC x)) = _
    rw [hlen, over_eq _ _ _ (by rw [recC_len]; exact hroom), recC_len, List.set_eq_take_append_cons_drop, if_pos hi]
    have e : recsC (l.take i ++ x :: l.drop (i + 1)) = recsC (l.take i) ++ (recC x ++ recsC (l.drop (i + 1))) := by rw [recsC_app]; rfl
    rw [e, ← recsC_take, ← recsC_drop, ← ht2]
    have hl1 : (L.take (i * 7)).length = i * 7 := by rw [List.length_take]; omega
    rw [List.append_assoc, List.take_append, List.take_append, hl1, recC_len, List.take_of_length_le (l := L.take (i * 7)) (by rw [hl1]; omega), List.take_of_length_le (l := recC x) (by rw [recC_len]; omega), List.take_take, Nat.min_eq_left (by omega), List.drop_take, show (i + 1) * 7 = i * 7 + 7 by omega, show l.length * 7 - i * 7 - 7 = l.length * 7 - (i * 7 + 7) by omega]
set_option maxHeartbeats 1000000 in
theorem sown_any (x : E) (B : Nat) (w : World) (h : RAt w B x.1 x.2) : Calls Tryz.prog 144 #[recV x] w (YOut w (putO x.2)) := by
  have HP := Lib.hid (fun w' (hg : w.grownBy w' none) => rput_own x.2 B w' x.1 (h.stay hg))
  have hlt : ∀ i, (putO x.2).getD i 0 < 256 := by
    unfold putO
    cases hr : rightB x.2 with
    | false => simp
    | true =>
      have hs : shapeB x.2 = true := right_shape hr
      show ∀ i, (textL x.2 ++ x.2.sig).getD i 0 < 256
      exact app_byte (text_small h hs).2 h.sig.byte
  have HL := Lib.hid hlt; clear hlt h
  obtain ⟨P, hP⟩ : ∃ P, P = putO x.2 := ⟨_, rfl⟩
  obtain ⟨n, hn⟩ : ∃ n, n = errN (rightB x.2) 4 := ⟨_, rfl⟩
  rw [← hP] at HP HL ⊢
  rw [← hn] at HP
  clear hP hn
  obtain ⟨⟨s, a1, n1, c1, a2, n2, c2, a3, n3, c3⟩, ⟨key, cl, sq, cx, g, val, sig⟩⟩ := x
  replace HP : Hid (∀ w' (_ : w.grownBy w' none), Calls Tryz.prog 197 #[vV s cl sq a1 n1 c1 g a2 n2 c2 a3 n3 c3] w' (POwn w' P n)) := HP
  show Calls _ _ #[vV s cl sq a1 n1 c1 g a2 n2 c2 a3 n3 c3] w _
  have HG := Lib.hid (gb_alloc (gb_refl w none) (.cells #[.string s, iV cl, iV sq, .slice a1 n1 c1, .bool g, .slice a2 n2 c2, .slice a3 n3 c3] 66))
  go_enter Tryz.func144, Tryz.ntmps144
  go_wp2_with fail
  refine (HP.out _ HG.out).mono ?_
  rintro e w2 ⟨v, rfl, hg, ho⟩
  have HX := Lib.hid (bout_own (gb_trans HG.out hg) (own_down ho HG.out.size) rfl HL.out); clear hg ho
  go_wp2
  go_ret
  exact HX.out
end Sb
end Go.Proofs.YtlkiancedgaicaaGreat

/- bytes.Compare: which of two texts comes first. -/
namespace Go.Proofs.YtlkiancedgaicaaGreat
open Go.RowKit Ow Wi Ve Rc
namespace Sb
def pushAll (acc : ByteArray) (l : List Nat) : ByteArray := l.foldl (fun a b => a.push b.toUInt8) acc
theorem pushAll_data (l : List Nat) : ∀ acc : ByteArray, (pushAll acc l).data.toList = acc.data.toList ++ l.map Nat.toUInt8 := by
  induction l with
  | nil => intro acc; simp [pushAll]
  | cons b l ih =>
    intro acc
    show (pushAll (acc.push b.toUInt8) l).data.toList = _
    rw [ih]
    simp [ByteArray.push]
theorem run_loadBytes {P : Program} (w : World) (pb : Nat) (l : List Nat) : ∀ (po : Nat) (acc : ByteArray), (∀ i, i < l.length → w.cell? ⟨pb, po + i, none⟩ = some (u8N (l.getD i 0))) →
    (Extern.Bytes.loadBytes ⟨pb, po, none⟩ l.length acc).run P w = .ok (pushAll acc l) w := by
  induction l with
  | nil => intro po acc _; rfl
  | cons b l ih =>
    intro po acc h
    have h0 := h 0 (by simp)
    have hr := ih (po + 1) (acc.push b.toUInt8) (fun i hi => by
      have := h (i + 1) (by simpa using hi)
      rw [show po + 1 + i = po + (i + 1) by omega, this]; rfl)
    simp only [List.getD_cons_zero, Nat.add_zero] at h0
    unfold u8N at h0
    simp only [List.length_cons, Extern.Bytes.loadBytes, Sem.run_bind, run_load, h0, Result.andThen]
    rw [show (⟨pb, po, none⟩ : Addr).add 1 = ⟨pb, po + 1, none⟩ from Addr.add_lit ..]
    simp only [Int.toNat_natCast]
    exact hr
theorem run_bytesOf {P : Program} {w : World} {B cap n : Nat} {a : Option Addr} {l : List Nat} (h : BytesAt w B a cap l) (hl : l.length = n) : (Extern.Bytes.bytesOf (.slice a n cap)).run P w = .ok (pushAll .empty l) w := by
  subst hl
  rcases a with _ | ⟨pb, po, m⟩
  · rcases h.cells with h0 | ⟨_, _, e, _⟩
    · obtain rfl : l = [] := List.eq_nil_of_length_eq_zero h0
      rfl
    · cases e
  · rcases h.cells with h0 | ⟨pb', po', e, _, hc⟩
    · obtain rfl : l = [] := List.eq_nil_of_length_eq_zero h0
      rfl
    · simp only [Option.some.injEq, Addr.mk.injEq] at e
      obtain ⟨rfl, rfl, rfl⟩ := e
      exact run_loadBytes w pb l po .empty hc
theorem ltL_iff (p q : List Nat) : ltL p q = true ↔ ∃ i, (∀ j, j < i → p.getD j 0 = q.getD j 0) ∧ (i = p.length ∧ i < q.length ∨ i < p.length ∧ i < q.length ∧ p.getD i 0 < q.getD i 0) := by
  induction p generalizing q with
  | nil =>
    cases q with
    | nil => simp [ltL]
    | cons b m =>
      simp only [ltL, true_iff]
      exact ⟨0, fun j hj => absurd hj (by omega), Or.inl ⟨rfl, by simp⟩⟩
  | cons a l ih =>
    cases q with
    | nil => simp [ltL]
    | cons b m =>
      simp only [ltL, Bool.or_eq_true, Bool.and_eq_true, decide_eq_true_eq, ih]
      constructor
      · rintro (h | ⟨rfl, i, h1, h2⟩)
        · exact ⟨0, fun j hj => absurd hj (by omega), Or.inr ⟨by simp, by simp, by simpa using h⟩⟩
        · refine ⟨i + 1, fun j hj => ?_, ?_⟩
          · cases j with
            | zero => rfl
            | succ j => simpa using h1 j (by omega)
          · simpa using h2
      · rintro ⟨i, h1, h2⟩
        cases i with
        | zero =>
          rcases h2 with ⟨h, _⟩ | ⟨_, _, h⟩
          · simp at h
          · exact Or.inl (by simpa using h)
        | succ i =>
          refine Or.inr ⟨by simpa using h1 0 (by omega), i, fun j hj => by simpa using h1 (j + 1) (by omega), by simpa using h2⟩
theorem push_size (l : List Nat) : (pushAll .empty l).size = l.length := by
  have h2 : (pushAll .empty l).data.toList.length = (ByteArray.empty.data.toList ++ l.map Nat.toUInt8).length := congrArg List.length (pushAll_data l .empty)
  rw [List.length_append, List.length_map] at h2
  show (pushAll .empty l).data.size = l.length
  rw [← Array.length_toList, h2]
  exact Nat.zero_add _
theorem push_get (l : List Nat) (hb : ∀ i, l.getD i 0 < 256) (i : Nat) (hi : i < l.length) : ((pushAll .empty l)[i]!).toNat = l.getD i 0 := by
  have hs : i < (pushAll .empty l).size := by rw [push_size]; exact hi
  rw [getElem!_pos _ i hs]
  have hd := pushAll_data l .empty
  have h2 : (pushAll .empty l).data.toList[i]? = some (l[i].toUInt8) := by
    rw [hd]
    simp [hi]
  have h3 : (pushAll .empty l)[i] = (pushAll .empty l).data[i]'hs := rfl
  have h4 := hb i
  rw [List.getD_eq_getElem?_getD, List.getElem?_eq_getElem hi] at h4 ⊢
  have hs2 : i < (pushAll .empty l).data.size := hs
  rw [Array.getElem?_toList, Array.getElem?_eq_getElem hs2] at h2
  rw [h3, Option.some.inj h2]
  simp only [Option.getD_some] at h4 ⊢
  simp [UInt8.toNat_ofNat', Nat.mod_eq_of_lt h4]
theorem cmp_lt (p q : List Nat) (hp : ∀ i, p.getD i 0 < 256) (hq : ∀ i, q.getD i 0 < 256) : decide (Extern.BytealgCompare.cmp (pushAll .empty p) (pushAll .empty q) < 0) = ltL p q := by
  rw [Bool.eq_iff_iff, decide_eq_true_eq, ltL_iff]
  unfold Extern.BytealgCompare.cmp
  rw [push_size, push_size]
  have key : ∀ i, i < min p.length q.length → ((pushAll .empty p)[i]! = (pushAll .empty q)[i]! ↔ p.getD i 0 = q.getD i 0) := fun i hi => by
    rw [← push_get p hp i (by omega), ← push_get q hq i (by omega)]
    exact ⟨fun e => by rw [e], fun e => UInt8.toNat_inj.1 e⟩
  cases hf : (List.range (min p.length q.length)).find? fun i => (pushAll .empty p)[i]! != (pushAll .empty q)[i]! with
  | some i =>
    obtain ⟨h1, h2, h3⟩ := List.find?_range_eq_some.1 hf
    have hi : i < min p.length q.length := List.mem_range.1 h2
    have hne : p.getD i 0 ≠ q.getD i 0 := fun e => by rw [(key i hi).2 e] at h1; simp at h1
    have hlt : (pushAll .empty p)[i]! < (pushAll .empty q)[i]! ↔ p.getD i 0 < q.getD i 0 := by
      rw [← push_get p hp i (by omega), ← push_get q hq i (by omega)]; exact UInt8.lt_iff_toNat_lt
    have heq : ∀ j, j < i → p.getD j 0 = q.getD j 0 := fun j hj => (key j (by omega)).1 (by have := h3 j hj; simpa using this)
    simp only [hlt]
    constructor
    · intro h
      split at h
      · rename_i h5; exact ⟨i, heq, Or.inr ⟨by omega, by omega, h5⟩⟩
      · omega
    · rintro ⟨k, k1, k2⟩
      rcases Nat.lt_trichotomy k i with hk | rfl | hk
      · rcases k2 with ⟨e, _⟩ | ⟨_, _, h5⟩
        · omega
        · have := heq k hk; omega
      · rcases k2 with ⟨e, _⟩ | ⟨_, _, h5⟩
        · omega
        · rw [if_pos h5]; decide
      · exact absurd (k1 i hk) hne
  | none =>
    have h1 := List.find?_range_eq_none.1 hf
    have heq : ∀ j, j < min p.length q.length → p.getD j 0 = q.getD j 0 := fun j hj => (key j hj).1 (by have := h1 j hj; simpa using this)
    simp only []
    constructor
    · intro h
      split at h
      · rename_i h5; exact ⟨p.length, fun j hj => heq j (by omega), Or.inl ⟨rfl, h5⟩⟩
      · split at h <;> omega
    · rintro ⟨k, k1, ⟨rfl, h5⟩ | ⟨h5, h6, h7⟩⟩
      · rw [if_pos h5]; decide
      · have := heq k (by omega); omega
set_option maxHeartbeats 1000000 in
theorem bcompare_any (B1 B2 n1 n2 c1 c2 : Nat) (a1 a2 : Option Addr) (p q : List Nat) (w : World) (hl1 : p.length = n1) (hl2 : q.length = n2) (h1 : BytesAt w B1 a1 c1 p) (h2 : BytesAt w B2 a2 c2 q) :
    Calls Tryz.prog 184 #[.slice a1 n1 c1, .slice a2 n2 c2] w fun e w' => (∃ z : Int, e = .returned (.int .i64 z) ∧ decide (z < 0) = ltL p q) ∧ w' = w := by
  have hz := cmp_lt p q h1.byte h2.byte
  have hx := run_callFunc_extern (P := Tryz.prog) (fn := Tryz.f219) (e := Extern.BytealgCompare.compare) Tryz.func219 (by kernel_rfl) (by kernel_rfl) (by kernel_rfl) (by kernel_rfl) #[.slice a1 n1 c1, .slice a2 n2 c2] w
  have hr : (Extern.BytealgCompare.compare #[.slice a1 n1 c1, .slice a2 n2 c2]).run Tryz.prog w = .ok (.int .i64 (Extern.BytealgCompare.cmp (pushAll .empty p) (pushAll .empty q))) w := by
    show Sem.run Tryz.prog (do pure (goInt (Extern.BytealgCompare.cmp (← Extern.Bytes.bytesOf (.slice a1 n1 c1)) (← Extern.Bytes.bytesOf (.slice a2 n2 c2))))) w = _
    simp only [Sem.run_bind, run_bytesOf h1 hl1, run_bytesOf h2 hl2, Result.andThen, Sem.run_pure]
    rfl
  rw [hr] at hx
  simp only [Result.andThen] at hx
  generalize Extern.BytealgCompare.cmp (pushAll .empty p) (pushAll .empty q) = z at *
  have HZ := Lib.hid hz; clear hz hr h1 h2
  go_enter Tryz.func184, Tryz.ntmps184
  go_wp2
  go_ret
  exact ⟨⟨z, rfl, HZ.out⟩, rfl⟩
end Sb
end Go.Proofs.YtlkiancedgaicaaGreat

/- take: a record is taken on, whose dot is the last one's or goes behind it. -/
namespace Go.Proofs.YtlkiancedgaicaaGreat
open Go.RowKit Ow Wi Ve Rc
namespace Sb
/-- a union in block ub: its row lies in memory behind it -/
def UniAt (w : World) (ub base : Nat) (u : List E) : Prop := ∃ v, Blk w ub 115 [v] ∧ OwnR w base v u
theorem gb_ownRr {w0 w w' : World} {base : Nat} {v : Value} {l : List E} {row : Option Nat} (h : w0.grownBy w row) (ho : OwnR w base v l) (hb : w0.heap.size ≤ base) (hg : w.grownBy w' v.ownBlock) : w0.grownBy w' row :=
  ⟨hg.os.trans h.os, hg.tape.trans h.tape, hg.output.trans h.output, Nat.le_trans h.size hg.size, fun k hk hr => (hg.block k (Nat.lt_of_lt_of_le hk h.size) (fun e => by have := (ho.lt k e.symm).1; omega)).trans (h.block k hk hr)⟩
/-- the sign of a number -/
def _root_.Go.Proofs.YtlkiancedgaicaaGreat.Fg.It.sg (b : Bool) : Fg.It := ⟨fun v _ => ∃ z : Int, v = .int .i64 z ∧ decide (z < 0) = b, fun _ _ _ h _ => h⟩
abbrev dotR (x : E) : R := x.2
def TakeOutR (w0 : World) (ub : Nat) (u : List E) (e : Ending) (w' : World) : Prop := e = .returned (.tuple #[]) ∧ w0.grownBy w' (some ub) ∧ UniAt w' ub w0.heap.size u
theorem last_get {u : List E} (h : u ≠ []) : u.getLast? = some (u.getD (u.length - 1) e0) := by
  rw [List.getLast?_eq_getElem?, List.getD_eq_getElem?_getD]
  have : u.length - 1 < u.length := by have := List.length_pos_iff.2 h; omega
  rw [List.getElem?_eq_getElem this]; rfl
theorem last_set {u : List E} (h : u ≠ []) (x : E) : u.dropLast ++ [x] = u.set (u.length - 1) x := by
  rcases List.eq_nil_or_concat u with rfl | ⟨v, y, rfl⟩
  · exact absurd rfl h
  · rw [List.concat_eq_append, List.dropLast_concat]
    simp
theorem bcmp_sg {B1 B2 c1 c2 : Nat} {a1 a2 : Option Addr} {p q : List Nat} {w : World} {b : Bool} (hb : ltL p q = b) (h1 : BytesAt w B1 a1 c1 p) (h2 : BytesAt w B2 a2 c2 q) :
    Calls Tryz.prog 184 #[.slice a1 p.length c1, .slice a2 q.length c2] w fun e w' => ∃ v, e = .returned v ∧ w.grownBy w' none ∧ ∃ z : Int, v = .int .i64 z ∧ decide (z < 0) = b :=
  (bcompare_any B1 B2 p.length q.length c1 c2 a1 a2 p q w rfl rfl h1 h2).mono fun _ _ ⟨⟨z, he, hz⟩, hw⟩ => ⟨_, he, by rw [hw]; exact gb_refl _ _, z, rfl, hz.trans hb⟩
set_option maxHeartbeats 4000000 in
set_option maxRecDepth 100000 in
theorem take_any (w0 w : World) (ub B : Nat) (u : List E) (x : E) (hub : ub < w0.heap.size) (hB : B ≤ ub) (hg : w0.grownBy w (some ub)) (hU : UniAt w ub w0.heap.size u) (hx : RAt w0 B x.1 x.2) (hu : ∀ y ∈ u, RAt w0 B y.1 y.2) (hr : ∀ y ∈ x :: u, rightB y.2 = true) (hlen : u.length < 1000000) :
    Calls Tryz.prog 130 #[.pointer (some ⟨ub, 0, none⟩), recV x] w (TakeOutR w0 ub (takeG dotR u x)) := by
  obtain ⟨v, hbu, hown⟩ := hU
  obtain ⟨Q, hQ⟩ : ∃ Q, Q = TakeOutR w0 ub (takeG dotR u x) := ⟨_, rfl⟩
  rw [← hQ]
  have HQ := Lib.hid hQ; clear hQ
  have HO := Lib.hid (fun w' (hg : w0.grownBy w' (some ub)) => sown_any x B w' (RAt.kept hx hg (fun z e => by cases e; exact hB)))
  have hpx : putO x.2 = putL x.2 := by unfold putO; rw [hr x (by simp)]; rfl
  rw [hpx] at HO
  obtain ⟨⟨s, a1, n1, c1, a2, n2, c2, a3, n3, c3⟩, ⟨key, cl, sq, cx, g, val, sig⟩⟩ := x
  obtain ⟨W1, hW1⟩ : ∃ W1, W1 = w.alloc (.cells #[.string s, iV cl, iV sq, .slice a1 n1 c1, .bool g, .slice a2 n2 c2, .slice a3 n3 c3] 66) := ⟨_, rfl⟩
  obtain ⟨N, hN⟩ : ∃ N, N = w.heap.size := ⟨_, rfl⟩
  have hgA : w.grownBy W1 none := by rw [hW1]; exact gb_alloc (gb_refl _ _) _
  have hbN : Blk W1 N 66 [.string s, iV cl, iV sq, .slice a1 n1 c1, .bool g, .slice a2 n2 c2, .slice a3 n3 c3] := by rw [hW1]; exact blk_at _ _ _ hN.symm
  obtain ⟨av, cv, rfl⟩ := own_shapeR hown
  have HG1 : Hid (w0.grownBy W1 (some ub) ∧ Blk W1 ub 115 [.slice av u.length cv] ∧ Blk W1 N 66 [.string s, iV cl, iV sq, .slice a1 n1 c1, .bool g, .slice a2 n2 c2, .slice a3 n3 c3] ∧ OwnR W1 w0.heap.size (.slice av u.length cv) u ∧ ub < N) :=
    ⟨gb_trans hg (gb_row hgA _), hbu.grown hgA (by simp), hbN, hown.kept hgA (by cases (Value.slice av u.length cv).ownBlock <;> simp), by rw [hN]; exact hbu.lt⟩
  have hHL := Lib.hid (And.intro hub (And.intro hB (And.intro hu (And.intro hr hlen))))
  clear hg hgA hbN hown hbu hx hu hr hpx hub hB
  show Calls _ _ #[.pointer (some ⟨ub, 0, none⟩), .agg #[.string s, iV cl, iV sq, .slice a1 n1 c1, .bool g, .slice a2 n2 c2, .slice a3 n3 c3]] w Q
  by_cases hu0 : u = []
  · subst hu0
    have k0 := HG1.out.2.1.cell (i := 0) rfl
    go_enter Tryz.func130, Tryz.ntmps130
    go_upto_region 1 with fail
    rw [← hW1, ← hN]
    clear hW1 hN
    go_upto_region 2 with fail
    refine Fg.region_t [] [.any, .any, .any, .any, .any, .any, .any, .any, .any, .any, .any, .val (Value.bool true), .val (Value.int .i64 (-1)), .val (Value.bool true), .val (Value.bool true), .val undef, .val undef, .val undef, .val undef, .val undef, .val undef, .val undef, .val undef, .val undef, .val undef, .val (Value.bool true)] W1 15 (gb_refl _ _) (by kernel_rfl) (by kernel_rfl) (by kernel_rfl) (by kernel_rfl) (by decide) (by kernel_rfl) ?_ ?_
    · refine ⟨Fg.vT rfl (by decide) fun ac w h => ?_, ?_⟩
      · have e4 : ac.tmps.getD 4 undef = Value.int .i64 (-1) := h.rest 4 (by kernel_rfl)
        exact ⟨_, w, wants_none rfl, Fg.run_move rfl e4, gb_refl _ _, rfl⟩
      refine ⟨Fg.vT rfl (by decide) fun ac w h => ?_, ?_⟩
      · have e12 : ac.tmps.getD 12 undef = Value.int .i64 (-1) := h.dep 12 (by kernel_rfl)
        refine ⟨.bool true, w, wants_none rfl, ?_, gb_refl _ _, rfl⟩
        clear h
        simp only [execOp, Act.eval, e12]
        go_simp
      refine ⟨Fg.vT rfl (by decide) fun ac w h => ?_, ?_⟩
      · have e13 : ac.tmps.getD 13 undef = Value.bool true := h.dep 13 (by kernel_rfl)
        exact ⟨_, w, wants_none rfl, Fg.run_move rfl e13, gb_refl _ _, rfl⟩
      refine ⟨Fg.sT rfl (by decide) (fun _ => rfl) fun ac w h => ?_, ?_⟩
      · have e14 : ac.tmps.getD 14 undef = Value.bool true := h.dep 14 (by kernel_rfl)
        exact not_wants (d := 14) rfl rfl (by rw [h.size]; show 14 < 56; decide) e14 (by decide)
      refine ⟨Fg.sT rfl (by decide) (fun _ => rfl) fun ac w h => ?_, ?_⟩
      · have e14 : ac.tmps.getD 14 undef = Value.bool true := h.dep 14 (by kernel_rfl)
        exact not_wants (d := 14) rfl rfl (by rw [h.size]; show 14 < 56; decide) e14 (by decide)
      refine ⟨Fg.sT rfl (by decide) (fun _ => rfl) fun ac w h => ?_, ?_⟩
      · have e14 : ac.tmps.getD 14 undef = Value.bool true := h.dep 14 (by kernel_rfl)
        exact not_wants (d := 14) rfl rfl (by rw [h.size]; show 14 < 56; decide) e14 (by decide)
      refine ⟨Fg.sT rfl (by decide) (fun _ => rfl) fun ac w h => ?_, ?_⟩
      · have e14 : ac.tmps.getD 14 undef = Value.bool true := h.dep 14 (by kernel_rfl)
        exact not_wants (d := 14) rfl rfl (by rw [h.size]; show 14 < 56; decide) e14 (by decide)
      refine ⟨Fg.sT rfl (by decide) (fun _ => rfl) fun ac w h => ?_, ?_⟩
      · have e14 : ac.tmps.getD 14 undef = Value.bool true := h.dep 14 (by kernel_rfl)
        exact not_wants (d := 14) rfl rfl (by rw [h.size]; show 14 < 56; decide) e14 (by decide)
      refine ⟨Fg.sT rfl (by decide) (fun _ => rfl) fun ac w h => ?_, ?_⟩
      · have e14 : ac.tmps.getD 14 undef = Value.bool true := h.dep 14 (by kernel_rfl)
        exact not_wants (d := 14) rfl rfl (by rw [h.size]; show 14 < 56; decide) e14 (by decide)
      refine ⟨Fg.sT rfl (by decide) (fun _ => rfl) fun ac w h => ?_, ?_⟩
      · have e14 : ac.tmps.getD 14 undef = Value.bool true := h.dep 14 (by kernel_rfl)
        exact not_wants (d := 14) rfl rfl (by rw [h.size]; show 14 < 56; decide) e14 (by decide)
      refine ⟨Fg.sT rfl (by decide) (fun _ => rfl) fun ac w h => ?_, ?_⟩
      · have e14 : ac.tmps.getD 14 undef = Value.bool true := h.dep 14 (by kernel_rfl)
        exact not_wants (d := 14) rfl rfl (by rw [h.size]; show 14 < 56; decide) e14 (by decide)
      refine ⟨Fg.sT rfl (by decide) (fun _ => rfl) fun ac w h => ?_, ?_⟩
      · have e14 : ac.tmps.getD 14 undef = Value.bool true := h.dep 14 (by kernel_rfl)
        exact not_wants (d := 14) rfl rfl (by rw [h.size]; show 14 < 56; decide) e14 (by decide)
      refine ⟨Fg.sT rfl (by decide) (fun _ => rfl) fun ac w h => ?_, ?_⟩
      · have e14 : ac.tmps.getD 14 undef = Value.bool true := h.dep 14 (by kernel_rfl)
        exact not_wants (d := 14) rfl rfl (by rw [h.size]; show 14 < 56; decide) e14 (by decide)
      refine ⟨Fg.vT rfl (by decide) fun ac w h => ?_, ?_⟩
      · have e14 : ac.tmps.getD 14 undef = Value.bool true := h.dep 14 (by kernel_rfl)
        refine ⟨Value.bool true, w, wants_none rfl, ?_, gb_refl _ _, rfl⟩
        clear h
        simp only [execOp, Act.eval, e14]
        go_simp
      refine ⟨Fg.vT rfl (by decide) fun ac w h => ?_, ?_⟩
      · have e25 : ac.tmps.getD 25 undef = Value.bool true := h.dep 25 (by kernel_rfl)
        exact ⟨_, w, wants_none rfl, Fg.run_assign rfl e25, gb_refl _ _, rfl⟩
      trivial
    · intro aq wq hB hsz hdf hrest hslots hpt
      obtain ⟨u1, e1⟩ : ∃ u, aq.tmps.getD 1 undef = u := ⟨_, rfl⟩
      obtain ⟨u5, e5⟩ : ∃ u, aq.tmps.getD 5 undef = u := ⟨_, rfl⟩
      obtain ⟨u6, e6⟩ : ∃ u, aq.tmps.getD 6 undef = u := ⟨_, rfl⟩
      obtain ⟨u7, e7⟩ : ∃ u, aq.tmps.getD 7 undef = u := ⟨_, rfl⟩
      obtain ⟨u8, e8⟩ : ∃ u, aq.tmps.getD 8 undef = u := ⟨_, rfl⟩
      obtain ⟨u9, e9⟩ : ∃ u, aq.tmps.getD 9 undef = u := ⟨_, rfl⟩
      obtain ⟨u10, e10⟩ : ∃ u, aq.tmps.getD 10 undef = u := ⟨_, rfl⟩
      have e11 : aq.tmps.getD 11 undef = Value.bool true := hslots 11 (by kernel_rfl)
      obtain ⟨u12, e12⟩ : ∃ u, aq.tmps.getD 12 undef = u := ⟨_, rfl⟩
      obtain ⟨u13, e13⟩ : ∃ u, aq.tmps.getD 13 undef = u := ⟨_, rfl⟩
      obtain ⟨u14, e14⟩ : ∃ u, aq.tmps.getD 14 undef = u := ⟨_, rfl⟩
      obtain ⟨u15, e15⟩ : ∃ u, aq.tmps.getD 15 undef = u := ⟨_, rfl⟩
      obtain ⟨u16, e16⟩ : ∃ u, aq.tmps.getD 16 undef = u := ⟨_, rfl⟩
      obtain ⟨u17, e17⟩ : ∃ u, aq.tmps.getD 17 undef = u := ⟨_, rfl⟩
      obtain ⟨u18, e18⟩ : ∃ u, aq.tmps.getD 18 undef = u := ⟨_, rfl⟩
      obtain ⟨u19, e19⟩ : ∃ u, aq.tmps.getD 19 undef = u := ⟨_, rfl⟩
      obtain ⟨u20, e20⟩ : ∃ u, aq.tmps.getD 20 undef = u := ⟨_, rfl⟩
      obtain ⟨u21, e21⟩ : ∃ u, aq.tmps.getD 21 undef = u := ⟨_, rfl⟩
      obtain ⟨u22, e22⟩ : ∃ u, aq.tmps.getD 22 undef = u := ⟨_, rfl⟩
      obtain ⟨u23, e23⟩ : ∃ u, aq.tmps.getD 23 undef = u := ⟨_, rfl⟩
      obtain ⟨u24, e24⟩ : ∃ u, aq.tmps.getD 24 undef = u := ⟨_, rfl⟩
      obtain ⟨u25, e25⟩ : ∃ u, aq.tmps.getD 25 undef = u := ⟨_, rfl⟩
      obtain rfl := Fg.frame_is (a := aq) (vs := [Value.pointer (some ⟨ub, 0, none⟩), u1, undef, Value.pointer (some ⟨N, 0, none⟩), Value.int .i64 (-1), u5, u6, u7, u8, u9, u10, Value.bool true, u12, u13, u14, u15, u16, u17, u18, u19, u20, u21, u22, u23, u24, u25, undef, undef, undef, undef, undef, undef, undef, undef, undef, undef, undef, undef, undef, undef, undef, undef, undef, undef, undef, undef, undef, undef, undef, undef, undef, undef, undef, undef, undef, undef]) hsz ⟨hrest 0 (by kernel_rfl), e1, hrest 2 (by kernel_rfl), hrest 3 (by kernel_rfl), hrest 4 (by kernel_rfl), e5, e6, e7, e8, e9, e10, e11, e12, e13, e14, e15, e16, e17, e18, e19, e20, e21, e22, e23, e24, e25, hrest 26 (by kernel_rfl), hrest 27 (by kernel_rfl), hrest 28 (by kernel_rfl), hrest 29 (by kernel_rfl), hrest 30 (by kernel_rfl), hrest 31 (by kernel_rfl), hrest 32 (by kernel_rfl), hrest 33 (by kernel_rfl), hrest 34 (by kernel_rfl), hrest 35 (by kernel_rfl), hrest 36 (by kernel_rfl), hrest 37 (by kernel_rfl), hrest 38 (by kernel_rfl), hrest 39 (by kernel_rfl), hrest 40 (by kernel_rfl), hrest 41 (by kernel_rfl), hrest 42 (by kernel_rfl), hrest 43 (by kernel_rfl), hrest 44 (by kernel_rfl), hrest 45 (by kernel_rfl), hrest 46 (by kernel_rfl), hrest 47 (by kernel_rfl), hrest 48 (by kernel_rfl), hrest 49 (by kernel_rfl), hrest 50 (by kernel_rfl), hrest 51 (by kernel_rfl), hrest 52 (by kernel_rfl), hrest 53 (by kernel_rfl), hrest 54 (by kernel_rfl), hrest 55 (by kernel_rfl), trivial⟩ hdf
      clear hsz hdf hrest hslots hpt e1 e5 e6 e7 e8 e9 e10 e11 e12 e13 e14 e15 e16 e17 e18 e19 e20 e21 e22 e23 e24 e25
      have HGZ : Hid (w0.grownBy wq (some ub) ∧ Blk wq ub 115 [.slice av 0 cv] ∧ Blk wq N 66 [.string s, iV cl, iV sq, .slice a1 n1 c1, .bool g, .slice a2 n2 c2, .slice a3 n3 c3] ∧ OwnR wq w0.heap.size (.slice av 0 cv) []) := ⟨gb_trans HG1.out.1 (gb_row hB _), HG1.out.2.1.grown hB (by simp), HG1.out.2.2.1.grown hB (by simp), HG1.out.2.2.2.1.kept hB (by cases (Value.slice av 0 cv).ownBlock <;> simp)⟩
      have hubN := HG1.out.2.2.2.2
      clear hB k0
      refine wpList_nil ?_
      -- region 3 from world wq on: HGZ tells of it; av the slice's address, 0 its length, [] the row
      obtain ⟨v', w', hap, ho', hg'⟩ := append_recT 111 Tryz.underlying111 (wq.alloc (.cells #[.string s, iV cl, iV sq, .slice a1 n1 c1, .bool g, .slice a2 n2 c2, .slice a3 n3 c3] 66)).drew w0.heap.size (.slice av 0 cv) [] wq.heap.size 0 1 ((⟨s, a1, n1, c1, a2, n2, c2, a3, n3, c3⟩, ⟨key, cl, sq, cx, g, val, sig⟩) : E) (HGZ.out.2.2.2.kept (gb_drew (gb_alloc (gb_refl _ none) _)) (by cases (Value.slice av 0 cv).ownBlock <;> simp)) (fun j z hz => by rw [Nat.zero_add]; exact (Blk.new wq [.string s, iV cl, iV sq, .slice a1 n1 c1, .bool g, .slice a2 n2 c2, .slice a3 n3 c3] 66).cell hz) (by have := hHL.out.2.2.2.2; simp) (Nat.le_trans HGZ.out.1.size (by simp))
      obtain ⟨a', c', rfl⟩ := own_shapeR ho'
      have hgz := gb_drew (gb_alloc (gb_refl wq none) (.cells #[.string s, iV cl, iV sq, .slice a1 n1 c1, .bool g, .slice a2 n2 c2, .slice a3 n3 c3] 66))
      have hne : some ub ≠ (Value.slice av 0 cv).ownBlock := fun e => by
        have := (HGZ.out.2.2.2.lt ub e.symm).1
        have := hHL.out.1
        omega
      have hbu := (HGZ.out.2.1.grown hgz (by simp)).grown hg' hne
      have u0 := hbu.cell (i := 0) rfl
      have uf := hbu.free 0
      have k0 := HGZ.out.2.1.cell (i := 0) rfl
      have k0' := (HGZ.out.2.1.grown hgz (by simp)).cell (i := 0) rfl
      have m0 := HGZ.out.2.2.1.cell (i := 0) rfl
      have m1 := HGZ.out.2.2.1.cell (i := 1) rfl
      have m2 := HGZ.out.2.2.1.cell (i := 2) rfl
      have m3 := HGZ.out.2.2.1.cell (i := 3) rfl
      have m4 := HGZ.out.2.2.1.cell (i := 4) rfl
      have m5 := HGZ.out.2.2.1.cell (i := 5) rfl
      have m6 := HGZ.out.2.2.1.cell (i := 6) rfl
      have HAP := Lib.hid hap
      have HE : Hid (Q (.returned (.tuple #[])) (w'.setCell ⟨ub, 0, none⟩ (.slice a' ([] ++ [((⟨s, a1, n1, c1, a2, n2, c2, a3, n3, c3⟩, ⟨key, cl, sq, cx, g, val, sig⟩) : E)]).length c'))) := by
        show Q _ _
        rw [HQ.out]
        have hgw : w0.grownBy w' (some ub) := gb_ownRr (gb_trans HGZ.out.1 (gb_row hgz _)) (HGZ.out.2.2.2.kept hgz (by cases (Value.slice av 0 cv).ownBlock <;> simp)) (Nat.le_refl _) hg'
        refine ⟨rfl, gb_set hgw 0 _, ?_⟩
        rw [show takeG dotR [] ((⟨s, a1, n1, c1, a2, n2, c2, a3, n3, c3⟩, ⟨key, cl, sq, cx, g, val, sig⟩) : E) = [] ++ [((⟨s, a1, n1, c1, a2, n2, c2, a3, n3, c3⟩, ⟨key, cl, sq, cx, g, val, sig⟩) : E)] from rfl]
        exact ⟨_, hbu.set 0 _, ho'.kept (gb_set (gb_refl w' (some ub)) 0 _) (Or.inr fun e => by have := (ho'.lt _ e).1; have := hHL.out.1; omega)⟩
      clear ho' hg' hne hbu hap hgz
      rw [List.length_append] at HAP HE
      simp only [List.length_cons, List.length_nil, Nat.zero_add] at HAP HE
      skip
      go_wp2_with fail
      go_region_law (first | (refine Fg.step_append rfl (.tmp 30) (.tmp 32) 111 rfl rfl _ _ rfl rfl _ _ HAP.out ?_))
      all_goals
        go_wp2
        go_end0
        exact HE.out
  · obtain ⟨m, hm⟩ : ∃ m, u.length = m + 1 := ⟨u.length - 1, by have := List.length_pos_iff.2 hu0; omega⟩
    obtain ⟨pb, rfl, hcs⟩ : ∃ pb, av = some ⟨pb, 0, none⟩ ∧ Cells7 W1 pb (0 + m * 7) (u.getD m e0) := by
      rcases HG1.out.2.2.2.1.2 with ⟨e, h0⟩ | ⟨g', c', cur, e1, _, hg', _⟩
      · rw [h0] at hm; cases hm
      · simp only [Value.slice.injEq] at e1
        obtain ⟨rfl, _, _⟩ := e1
        refine ⟨g', rfl, cells7 fun j u' hu' => ?_⟩
        have hj : j < 7 := by have := (List.getElem?_eq_some_iff.1 hu').1; rwa [recC_len] at this
        rw [← recsC_at u m (by omega) j hj] at hu'
        have := HG1.out.2.2.2.1.cells (g := g') rfl _ u' hu'
        rw [Addr.add_lit] at this
        rw [Nat.add_assoc]; exact this
    rw [Nat.zero_add] at hcs
    have hlast := last_get hu0
    rw [hm, Nat.add_sub_cancel] at hlast
    have hset := last_set hu0 (⟨s, a1, n1, c1, a2, n2, c2, a3, n3, c3⟩, ⟨key, cl, sq, cx, g, val, sig⟩)
    rw [hm, Nat.add_sub_cancel] at hset
    have HB := Lib.hid (fun w' => byDot_gb (u.getD m e0) (⟨s, a1, n1, c1, a2, n2, c2, a3, n3, c3⟩, ⟨key, cl, sq, cx, g, val, sig⟩) w')
    have hymem : u.getD m e0 ∈ u := getD_mem (by omega)
    have HOY := Lib.hid (fun w' (hg : w0.grownBy w' (some ub)) => sown_any (u.getD m e0) B w' (RAt.kept (hHL.out.2.2.1 _ hymem) hg (fun z e => by cases e; exact hHL.out.2.1)))
    have hpy : putO (u.getD m e0).2 = putL (u.getD m e0).2 := by unfold putO; rw [hHL.out.2.2.2.1 _ (List.mem_cons_of_mem _ hymem)]; rfl
    rw [hpy] at HOY
    have k0 := HG1.out.2.1.cell (i := 0) rfl
    have HG1' : Hid (w0.grownBy W1 (some ub) ∧ Blk W1 ub 115 [.slice (some ⟨pb, 0, none⟩) (m + 1) cv] ∧ Blk W1 N 66 [.string s, iV cl, iV sq, .slice a1 n1 c1, .bool g, .slice a2 n2 c2, .slice a3 n3 c3] ∧ OwnR W1 w0.heap.size (.slice (some ⟨pb, 0, none⟩) u.length cv) u ∧ ub < N) := by rw [← hm]; exact HG1.out
    replace HG1 := HG1'; clear HG1'
    rw [hm] at k0
    generalize u.getD m e0 = y at *
    obtain ⟨⟨s', a1', n1', c1', a2', n2', c2', a3', n3', c3'⟩, ⟨key', cl', sq', cx', g', val', sig'⟩⟩ := y
    have HC := Lib.hid (cells_of hcs); clear hcs
    obtain ⟨z, hz⟩ : ∃ z, z = cmpD ⟨key', cl', sq', cx', g', val', sig'⟩ ⟨key, cl, sq, cx, g, val, sig⟩ := ⟨_, rfl⟩
    have HBz : Hid (∀ w', Calls Tryz.prog 129 #[vV s' cl' sq' a1' n1' c1' g' a2' n2' c2' a3' n3' c3', vV s cl sq a1 n1 c1 g a2 n2 c2 a3 n3 c3] w' fun e w'' => e = .returned (.int .i64 z) ∧ w'.grownBy w'' none) := by rw [hz]; exact HB.out
    replace HB := HBz; clear HBz
    obtain ⟨PX, hPX⟩ : ∃ P, P = putL ⟨key, cl, sq, cx, g, val, sig⟩ := ⟨_, rfl⟩
    obtain ⟨PY, hPY⟩ : ∃ P, P = putL ⟨key', cl', sq', cx', g', val', sig'⟩ := ⟨_, rfl⟩
    have HOx : Hid (∀ w', w0.grownBy w' (some ub) → Calls Tryz.prog 144 #[vV s cl sq a1 n1 c1 g a2 n2 c2 a3 n3 c3] w' (YOut w' PX)) := by rw [hPX]; exact HO.out
    replace HO := HOx; clear HOx
    have HOy : Hid (∀ w', w0.grownBy w' (some ub) → Calls Tryz.prog 144 #[vV s' cl' sq' a1' n1' c1' g' a2' n2' c2' a3' n3' c3'] w' (YOut w' PY)) := by rw [hPY]; exact HOY.out
    replace HOY := HOy; clear HOy
    have HTK : Hid (takeG dotR u ((⟨s, a1, n1, c1, a2, n2, c2, a3, n3, c3⟩, ⟨key, cl, sq, cx, g, val, sig⟩) : E) = if z ≠ 0 then u ++ [((⟨s, a1, n1, c1, a2, n2, c2, a3, n3, c3⟩, ⟨key, cl, sq, cx, g, val, sig⟩) : E)] else if ltL PX PY then u.set m ((⟨s, a1, n1, c1, a2, n2, c2, a3, n3, c3⟩, ⟨key, cl, sq, cx, g, val, sig⟩) : E) else u) := by
      unfold takeG
      rw [hlast, ← hset, hz, hPX, hPY]
      rfl
    clear hlast hset hz hPX hPY hymem hpy
    have hm1 : m < 1000000 := by have := hHL.out.2.2.2.2; omega
    by_cases hz0 : z = 0
    · have HZ : Hid ((z != 0) = false) := by show _ = _; rw [hz0]; rfl
      go_enter Tryz.func130, Tryz.ntmps130
      go_upto_region 1 with fail
      rw [← hW1, ← hN]
      clear hW1 hN
      go_upto_region 2 with fail
      refine Fg.region_t [] [.any, .any, .any, .any, .any, .any, .any, .any, .any, .any, .any, .val (Value.bool false), .val (Value.int .i64 m), .val (Value.bool false), .val (Value.bool false), .val (Value.pointer (some ⟨ub, 0, none⟩)), .val (Value.pointer (some ⟨ub, 0, none⟩)), .val (Value.pointer (some ⟨ub, 0, none⟩)), .val (Value.slice (some ⟨pb, 0, none⟩) (m + 1) cv), .val (Value.int .i64 m), .val (Value.pointer (some ⟨pb, m * 7, none⟩)), .val (vV s' cl' sq' a1' n1' c1' g' a2' n2' c2' a3' n3' c3'), .val (vV s cl sq a1 n1 c1 g a2 n2 c2 a3 n3 c3), .val (Value.int .i64 z), .val (Value.bool false), .val (Value.bool false)] W1 15 (gb_refl _ _) (by kernel_rfl) (by kernel_rfl) (by kernel_rfl) (by kernel_rfl) (by decide) (by kernel_rfl) ?_ ?_
      · refine ⟨Fg.vT rfl (by decide) fun ac w h => ?_, ?_⟩
        · have e4 : ac.tmps.getD 4 undef = Value.int .i64 m := h.rest 4 (by kernel_rfl)
          exact ⟨_, w, wants_none rfl, Fg.run_move rfl e4, gb_refl _ _, rfl⟩
        refine ⟨Fg.vT rfl (by decide) fun ac w h => ?_, ?_⟩
        · have e12 : ac.tmps.getD 12 undef = Value.int .i64 m := h.dep 12 (by kernel_rfl)
          have i0 : ¬ (m : Int) < 0 := by omega
          refine ⟨.bool false, w, wants_none rfl, ?_, gb_refl _ _, rfl⟩
          clear h
          simp only [execOp, Act.eval, e12]
          go_simp
        refine ⟨Fg.vT rfl (by decide) fun ac w h => ?_, ?_⟩
        · have e13 : ac.tmps.getD 13 undef = Value.bool false := h.dep 13 (by kernel_rfl)
          exact ⟨_, w, wants_none rfl, Fg.run_move rfl e13, gb_refl _ _, rfl⟩
        refine ⟨Fg.vT rfl (by decide) fun ac w h => ?_, ?_⟩
        · have e14 : ac.tmps.getD 14 undef = Value.bool false := h.dep 14 (by kernel_rfl)
          have e0 : ac.tmps.getD 0 undef = Value.pointer (some ⟨ub, 0, none⟩) := h.rest 0 (by kernel_rfl)
          exact ⟨_, w, wants_some (d := 14) rfl rfl (by rw [h.size]; show 14 < 56; decide) e14, Fg.run_move rfl e0, gb_refl _ _, rfl⟩
        refine ⟨Fg.vT rfl (by decide) fun ac w h => ?_, ?_⟩
        · have e14 : ac.tmps.getD 14 undef = Value.bool false := h.dep 14 (by kernel_rfl)
          have e15 : ac.tmps.getD 15 undef = Value.pointer (some ⟨ub, 0, none⟩) := h.dep 15 (by kernel_rfl)
          refine ⟨.pointer (some ⟨ub, 0, none⟩), w, wants_some (d := 14) rfl rfl (by rw [h.size]; show 14 < 56; decide) e14, ?_, gb_refl _ _, rfl⟩
          clear h
          simp only [execOp, Act.eval, e15]
          go_simp
        refine ⟨Fg.vT rfl (by decide) fun ac w h => ?_, ?_⟩
        · have e14 : ac.tmps.getD 14 undef = Value.bool false := h.dep 14 (by kernel_rfl)
          have e16 : ac.tmps.getD 16 undef = Value.pointer (some ⟨ub, 0, none⟩) := h.dep 16 (by kernel_rfl)
          refine ⟨Value.pointer (some ⟨ub, 0, none⟩), w, wants_some (d := 14) rfl rfl (by rw [h.size]; show 14 < 56; decide) e14, ?_, gb_refl _ _, rfl⟩
          clear h
          simp only [execOp, Act.eval, e16]
          go_simp
        refine ⟨Fg.vT rfl (by decide) fun ac w h => ?_, ?_⟩
        · have e14 : ac.tmps.getD 14 undef = Value.bool false := h.dep 14 (by kernel_rfl)
          have e17 : ac.tmps.getD 17 undef = Value.pointer (some ⟨ub, 0, none⟩) := h.dep 17 (by kernel_rfl)
          have y0 := (HG1.out.2.1.grown h.base (by simp)).cell (i := 0) rfl
          refine ⟨Value.slice (some ⟨pb, 0, none⟩) (m + 1) cv, w, wants_some (d := 14) rfl rfl (by rw [h.size]; show 14 < 56; decide) e14, ?_, gb_refl _ _, rfl⟩
          clear h
          simp only [execOp, Act.eval, e17]
          go_simp
        refine ⟨Fg.vT rfl (by decide) fun ac w h => ?_, ?_⟩
        · have e14 : ac.tmps.getD 14 undef = Value.bool false := h.dep 14 (by kernel_rfl)
          have e4 : ac.tmps.getD 4 undef = Value.int .i64 m := h.rest 4 (by kernel_rfl)
          exact ⟨_, w, wants_some (d := 14) rfl rfl (by rw [h.size]; show 14 < 56; decide) e14, Fg.run_move rfl e4, gb_refl _ _, rfl⟩
        refine ⟨Fg.vT rfl (by decide) fun ac w h => ?_, ?_⟩
        · have e14 : ac.tmps.getD 14 undef = Value.bool false := h.dep 14 (by kernel_rfl)
          have e18 : ac.tmps.getD 18 undef = Value.slice (some ⟨pb, 0, none⟩) (m + 1) cv := h.dep 18 (by kernel_rfl)
          have e19 : ac.tmps.getD 19 undef = Value.int .i64 m := h.dep 19 (by kernel_rfl)
          have i0 : (m : Int) < ((m + 1 : Nat) : Int) := by omega
          have i1 : ¬ (m : Int) < 0 := by omega
          have i2 : ¬ (m : Int) + 1 ≤ (m : Int) := by omega
          refine ⟨.pointer (some ⟨pb, m * 7, none⟩), w, wants_some (d := 14) rfl rfl (by rw [h.size]; show 14 < 56; decide) e14, ?_, gb_refl _ _, rfl⟩
          clear h
          simp only [execOp, Act.eval, e18, e19]
          go_simp
        refine ⟨Fg.vT rfl (by decide) fun ac w h => ?_, ?_⟩
        · have e14 : ac.tmps.getD 14 undef = Value.bool false := h.dep 14 (by kernel_rfl)
          have e20 : ac.tmps.getD 20 undef = Value.pointer (some ⟨pb, m * 7, none⟩) := h.dep 20 (by kernel_rfl)
          have m0 : w.cell? ⟨pb, m * 7 , none⟩ = some (.string s') := by rw [gb_cell h.base (block_lt_of_cell (HC.out.1)) (by simp)]; exact HC.out.1
          have m1 : w.cell? ⟨pb, m * 7 + 1, none⟩ = some (iV cl') := by rw [gb_cell h.base (block_lt_of_cell (HC.out.2.1)) (by simp)]; exact HC.out.2.1
          have m2 : w.cell? ⟨pb, m * 7 + 2, none⟩ = some (iV sq') := by rw [gb_cell h.base (block_lt_of_cell (HC.out.2.2.1)) (by simp)]; exact HC.out.2.2.1
          have m3 : w.cell? ⟨pb, m * 7 + 3, none⟩ = some (.slice a1' n1' c1') := by rw [gb_cell h.base (block_lt_of_cell (HC.out.2.2.2.1)) (by simp)]; exact HC.out.2.2.2.1
          have m4 : w.cell? ⟨pb, m * 7 + 4, none⟩ = some (.bool g') := by rw [gb_cell h.base (block_lt_of_cell (HC.out.2.2.2.2.1)) (by simp)]; exact HC.out.2.2.2.2.1
          have m5 : w.cell? ⟨pb, m * 7 + 5, none⟩ = some (.slice a2' n2' c2') := by rw [gb_cell h.base (block_lt_of_cell (HC.out.2.2.2.2.2.1)) (by simp)]; exact HC.out.2.2.2.2.2.1
          have m6 : w.cell? ⟨pb, m * 7 + 6, none⟩ = some (.slice a3' n3' c3') := by rw [gb_cell h.base (block_lt_of_cell (HC.out.2.2.2.2.2.2)) (by simp)]; exact HC.out.2.2.2.2.2.2
          refine ⟨vV s' cl' sq' a1' n1' c1' g' a2' n2' c2' a3' n3' c3', w, wants_some (d := 14) rfl rfl (by rw [h.size]; show 14 < 56; decide) e14, ?_, gb_refl _ _, rfl⟩
          clear h
          simp only [execOp, Act.eval, e20]
          go_simp
        refine ⟨Fg.vT rfl (by decide) fun ac w h => ?_, ?_⟩
        · have e14 : ac.tmps.getD 14 undef = Value.bool false := h.dep 14 (by kernel_rfl)
          have e3 : ac.tmps.getD 3 undef = Value.pointer (some ⟨N, 0, none⟩) := h.rest 3 (by kernel_rfl)
          have m0 := ((HG1.out.2.2.1).grown h.base (by simp)).cell (i := 0) rfl
          have m1 := ((HG1.out.2.2.1).grown h.base (by simp)).cell (i := 1) rfl
          have m2 := ((HG1.out.2.2.1).grown h.base (by simp)).cell (i := 2) rfl
          have m3 := ((HG1.out.2.2.1).grown h.base (by simp)).cell (i := 3) rfl
          have m4 := ((HG1.out.2.2.1).grown h.base (by simp)).cell (i := 4) rfl
          have m5 := ((HG1.out.2.2.1).grown h.base (by simp)).cell (i := 5) rfl
          have m6 := ((HG1.out.2.2.1).grown h.base (by simp)).cell (i := 6) rfl
          refine ⟨vV s cl sq a1 n1 c1 g a2 n2 c2 a3 n3 c3, w, wants_some (d := 14) rfl rfl (by rw [h.size]; show 14 < 56; decide) e14, ?_, gb_refl _ _, rfl⟩
          clear h
          simp only [execOp, Act.eval, e3]
          go_simp
        refine ⟨Fg.cT rfl (by decide) fun ac w h => ?_, ?_⟩
        · have e14 : ac.tmps.getD 14 undef = Value.bool false := h.dep 14 (by kernel_rfl)
          have e21 : ac.tmps.getD 21 undef = vV s' cl' sq' a1' n1' c1' g' a2' n2' c2' a3' n3' c3' := h.dep 21 (by kernel_rfl)
          have e22 : ac.tmps.getD 22 undef = vV s cl sq a1 n1 c1 g a2 n2 c2 a3 n3 c3 := h.dep 22 (by kernel_rfl)
          refine ⟨129, #[vV s' cl' sq' a1' n1' c1' g' a2' n2' c2' a3' n3' c3', vV s cl sq a1 n1 c1 g a2 n2 c2 a3 n3 c3], wants_some (d := 14) rfl rfl (by rw [h.size]; show 14 < 56; decide) e14, Fg.run_call rfl rfl (by simp only [List.map_toArray, List.map_cons, List.map_nil, Act.eval, e21, e22]) (Fg.run_enter Tryz.func129 (by kernel_rfl) (by kernel_rfl)), ?_⟩
          exact (HB.out w).mono fun _ _ ⟨he, hg⟩ => ⟨_, he, hg, rfl⟩
        refine ⟨Fg.vT rfl (by decide) fun ac w h => ?_, ?_⟩
        · have e14 : ac.tmps.getD 14 undef = Value.bool false := h.dep 14 (by kernel_rfl)
          have e23 : ac.tmps.getD 23 undef = Value.int .i64 z := h.dep 23 (by kernel_rfl)
          have hz := HZ.out
          refine ⟨.bool false, w, wants_some (d := 14) rfl rfl (by rw [h.size]; show 14 < 56; decide) e14, ?_, gb_refl _ _, rfl⟩
          clear h
          simp only [execOp, Act.eval, e23]
          go_simp
        refine ⟨Fg.vT rfl (by decide) fun ac w h => ?_, ?_⟩
        · have e14 : ac.tmps.getD 14 undef = Value.bool false := h.dep 14 (by kernel_rfl)
          have e24 : ac.tmps.getD 24 undef = Value.bool false := h.dep 24 (by kernel_rfl)
          refine ⟨Value.bool false, w, wants_none rfl, ?_, gb_refl _ _, rfl⟩
          clear h
          simp only [execOp, Act.eval, e14, e24]
          go_simp
        refine ⟨Fg.vT rfl (by decide) fun ac w h => ?_, ?_⟩
        · have e25 : ac.tmps.getD 25 undef = Value.bool false := h.dep 25 (by kernel_rfl)
          exact ⟨_, w, wants_none rfl, Fg.run_assign rfl e25, gb_refl _ _, rfl⟩
        trivial
      · intro aq wq hB hsz hdf hrest hslots hpt
        obtain ⟨u1, e1⟩ : ∃ u, aq.tmps.getD 1 undef = u := ⟨_, rfl⟩
        obtain ⟨u5, e5⟩ : ∃ u, aq.tmps.getD 5 undef = u := ⟨_, rfl⟩
        obtain ⟨u6, e6⟩ : ∃ u, aq.tmps.getD 6 undef = u := ⟨_, rfl⟩
        obtain ⟨u7, e7⟩ : ∃ u, aq.tmps.getD 7 undef = u := ⟨_, rfl⟩
        obtain ⟨u8, e8⟩ : ∃ u, aq.tmps.getD 8 undef = u := ⟨_, rfl⟩
        obtain ⟨u9, e9⟩ : ∃ u, aq.tmps.getD 9 undef = u := ⟨_, rfl⟩
        obtain ⟨u10, e10⟩ : ∃ u, aq.tmps.getD 10 undef = u := ⟨_, rfl⟩
        have e11 : aq.tmps.getD 11 undef = Value.bool false := hslots 11 (by kernel_rfl)
        obtain ⟨u12, e12⟩ : ∃ u, aq.tmps.getD 12 undef = u := ⟨_, rfl⟩
        obtain ⟨u13, e13⟩ : ∃ u, aq.tmps.getD 13 undef = u := ⟨_, rfl⟩
        obtain ⟨u14, e14⟩ : ∃ u, aq.tmps.getD 14 undef = u := ⟨_, rfl⟩
        obtain ⟨u15, e15⟩ : ∃ u, aq.tmps.getD 15 undef = u := ⟨_, rfl⟩
        obtain ⟨u16, e16⟩ : ∃ u, aq.tmps.getD 16 undef = u := ⟨_, rfl⟩
        obtain ⟨u17, e17⟩ : ∃ u, aq.tmps.getD 17 undef = u := ⟨_, rfl⟩
        obtain ⟨u18, e18⟩ : ∃ u, aq.tmps.getD 18 undef = u := ⟨_, rfl⟩
        obtain ⟨u19, e19⟩ : ∃ u, aq.tmps.getD 19 undef = u := ⟨_, rfl⟩
        obtain ⟨u20, e20⟩ : ∃ u, aq.tmps.getD 20 undef = u := ⟨_, rfl⟩
        obtain ⟨u21, e21⟩ : ∃ u, aq.tmps.getD 21 undef = u := ⟨_, rfl⟩
        obtain ⟨u22, e22⟩ : ∃ u, aq.tmps.getD 22 undef = u := ⟨_, rfl⟩
        obtain ⟨u23, e23⟩ : ∃ u, aq.tmps.getD 23 undef = u := ⟨_, rfl⟩
        obtain ⟨u24, e24⟩ : ∃ u, aq.tmps.getD 24 undef = u := ⟨_, rfl⟩
        obtain ⟨u25, e25⟩ : ∃ u, aq.tmps.getD 25 undef = u := ⟨_, rfl⟩
        obtain rfl := Fg.frame_is (a := aq) (vs := [Value.pointer (some ⟨ub, 0, none⟩), u1, undef, Value.pointer (some ⟨N, 0, none⟩), Value.int .i64 m, u5, u6, u7, u8, u9, u10, Value.bool false, u12, u13, u14, u15, u16, u17, u18, u19, u20, u21, u22, u23, u24, u25, undef, undef, undef, undef, undef, undef, undef, undef, undef, undef, undef, undef, undef, undef, undef, undef, undef, undef, undef, undef, undef, undef, undef, undef, undef, undef, undef, undef, undef, undef]) hsz ⟨hrest 0 (by kernel_rfl), e1, hrest 2 (by kernel_rfl), hrest 3 (by kernel_rfl), hrest 4 (by kernel_rfl), e5, e6, e7, e8, e9, e10, e11, e12, e13, e14, e15, e16, e17, e18, e19, e20, e21, e22, e23, e24, e25, hrest 26 (by kernel_rfl), hrest 27 (by kernel_rfl), hrest 28 (by kernel_rfl), hrest 29 (by kernel_rfl), hrest 30 (by kernel_rfl), hrest 31 (by kernel_rfl), hrest 32 (by kernel_rfl), hrest 33 (by kernel_rfl), hrest 34 (by kernel_rfl), hrest 35 (by kernel_rfl), hrest 36 (by kernel_rfl), hrest 37 (by kernel_rfl), hrest 38 (by kernel_rfl), hrest 39 (by kernel_rfl), hrest 40 (by kernel_rfl), hrest 41 (by kernel_rfl), hrest 42 (by kernel_rfl), hrest 43 (by kernel_rfl), hrest 44 (by kernel_rfl), hrest 45 (by kernel_rfl), hrest 46 (by kernel_rfl), hrest 47 (by kernel_rfl), hrest 48 (by kernel_rfl), hrest 49 (by kernel_rfl), hrest 50 (by kernel_rfl), hrest 51 (by kernel_rfl), hrest 52 (by kernel_rfl), hrest 53 (by kernel_rfl), hrest 54 (by kernel_rfl), hrest 55 (by kernel_rfl), trivial⟩ hdf
        clear hsz hdf hrest hslots hpt e1 e5 e6 e7 e8 e9 e10 e11 e12 e13 e14 e15 e16 e17 e18 e19 e20 e21 e22 e23 e24 e25
        have HGZ : Hid (w0.grownBy wq (some ub) ∧ Blk wq ub 115 [.slice (some ⟨pb, 0, none⟩) (m + 1) cv] ∧ Blk wq N 66 [.string s, iV cl, iV sq, .slice a1 n1 c1, .bool g, .slice a2 n2 c2, .slice a3 n3 c3] ∧ OwnR wq w0.heap.size (.slice (some ⟨pb, 0, none⟩) u.length cv) u) := ⟨gb_trans HG1.out.1 (gb_row hB _), HG1.out.2.1.grown hB (by simp), HG1.out.2.2.1.grown hB (by simp), HG1.out.2.2.2.1.kept hB (by cases (Value.slice (some ⟨pb, 0, none⟩) u.length cv).ownBlock <;> simp)⟩
        have HCZ : Hid (wq.cell? ⟨pb, m * 7, none⟩ = some (.string s') ∧ wq.cell? ⟨pb, m * 7 + 1, none⟩ = some (iV cl') ∧ wq.cell? ⟨pb, m * 7 + 2, none⟩ = some (iV sq') ∧ wq.cell? ⟨pb, m * 7 + 3, none⟩ = some (.slice a1' n1' c1') ∧ wq.cell? ⟨pb, m * 7 + 4, none⟩ = some (.bool g') ∧ wq.cell? ⟨pb, m * 7 + 5, none⟩ = some (.slice a2' n2' c2') ∧ wq.cell? ⟨pb, m * 7 + 6, none⟩ = some (.slice a3' n3' c3')) := by
          have e : ∀ k, wq.cell? ⟨pb, k, none⟩ = W1.cell? ⟨pb, k, none⟩ := fun k => gb_cell hB (p := ⟨pb, k, none⟩) (show pb < W1.heap.size from block_lt_of_cell HC.out.1) (by simp)
          simp only [e]; exact HC.out
        have hubN := HG1.out.2.2.2.2
        clear hB k0
        refine wpList_nil ?_
        cases hlt : ltL PX PY with
        | true =>
          have HLT := Lib.hid hlt
          clear hlt
          go_wp2_with fail
          refine Fg.region_t [] [.any, .any, .any, .any, .any, .any, .any, .any, .any, .any, .any, .any, .any, .any, .any, .any, .any, .any, .any, .any, .any, .any, .any, .any, .any, .any, .any, .any, .any, .any, .any, .any, .any, .any, .any, .any, .val (Value.bool true), .val (vV s cl sq a1 n1 c1 g a2 n2 c2 a3 n3 c3), Fg.It.by PX, .val (Value.pointer (some ⟨ub, 0, none⟩)), .val (Value.pointer (some ⟨ub, 0, none⟩)), .val (Value.pointer (some ⟨ub, 0, none⟩)), .val (Value.slice (some ⟨pb, 0, none⟩) (m + 1) cv), .val (Value.int .i64 m), .val (Value.pointer (some ⟨pb, m * 7, none⟩)), .val (vV s' cl' sq' a1' n1' c1' g' a2' n2' c2' a3' n3' c3'), Fg.It.by PY, .sg true, .val (Value.bool true)] wq 13 (gb_refl _ _) (by kernel_rfl) (by kernel_rfl) (by kernel_rfl) (by kernel_rfl) (by decide) (by kernel_rfl) ?_ ?_
          · refine ⟨Fg.vT rfl (by decide) fun ac w h => ?_, ?_⟩
            · have e3 : ac.tmps.getD 3 undef = Value.pointer (some ⟨N, 0, none⟩) := h.rest 3 (by kernel_rfl)
              have m0 := ((HGZ.out.2.2.1).grown h.base (by simp)).cell (i := 0) rfl
              have m1 := ((HGZ.out.2.2.1).grown h.base (by simp)).cell (i := 1) rfl
              have m2 := ((HGZ.out.2.2.1).grown h.base (by simp)).cell (i := 2) rfl
              have m3 := ((HGZ.out.2.2.1).grown h.base (by simp)).cell (i := 3) rfl
              have m4 := ((HGZ.out.2.2.1).grown h.base (by simp)).cell (i := 4) rfl
              have m5 := ((HGZ.out.2.2.1).grown h.base (by simp)).cell (i := 5) rfl
              have m6 := ((HGZ.out.2.2.1).grown h.base (by simp)).cell (i := 6) rfl
              refine ⟨vV s cl sq a1 n1 c1 g a2 n2 c2 a3 n3 c3, w, wants_none rfl, ?_, gb_refl _ _, rfl⟩
              clear h
              simp only [execOp, Act.eval, e3]
              go_simp
            refine ⟨Fg.cT rfl (by decide) fun ac w h => ?_, ?_⟩
            · have e37 : ac.tmps.getD 37 undef = vV s cl sq a1 n1 c1 g a2 n2 c2 a3 n3 c3 := h.dep 37 (by kernel_rfl)
              refine ⟨144, #[vV s cl sq a1 n1 c1 g a2 n2 c2 a3 n3 c3], wants_none rfl, Fg.run_call rfl rfl (by simp only [List.map_toArray, List.map_cons, List.map_nil, Act.eval, e37]) (Fg.run_enter Tryz.func144 (by kernel_rfl) (by kernel_rfl)), ?_⟩
              exact (HO.out w (gb_trans HGZ.out.1 (gb_row h.base _))).mono fun _ _ ⟨_, _, he, hg, hb⟩ => ⟨_, he, hg, _, _, _, rfl, hb⟩
            refine ⟨Fg.vT rfl (by decide) fun ac w h => ?_, ?_⟩
            · have e0 : ac.tmps.getD 0 undef = Value.pointer (some ⟨ub, 0, none⟩) := h.rest 0 (by kernel_rfl)
              exact ⟨_, w, wants_none rfl, Fg.run_move rfl e0, gb_refl _ _, rfl⟩
            refine ⟨Fg.vT rfl (by decide) fun ac w h => ?_, ?_⟩
            · have e39 : ac.tmps.getD 39 undef = Value.pointer (some ⟨ub, 0, none⟩) := h.dep 39 (by kernel_rfl)
              refine ⟨.pointer (some ⟨ub, 0, none⟩), w, wants_none rfl, ?_, gb_refl _ _, rfl⟩
              clear h
              simp only [execOp, Act.eval, e39]
              go_simp
            refine ⟨Fg.vT rfl (by decide) fun ac w h => ?_, ?_⟩
            · have e40 : ac.tmps.getD 40 undef = Value.pointer (some ⟨ub, 0, none⟩) := h.dep 40 (by kernel_rfl)
              refine ⟨Value.pointer (some ⟨ub, 0, none⟩), w, wants_none rfl, ?_, gb_refl _ _, rfl⟩
              clear h
              simp only [execOp, Act.eval, e40]
              go_simp
            refine ⟨Fg.vT rfl (by decide) fun ac w h => ?_, ?_⟩
            · have e41 : ac.tmps.getD 41 undef = Value.pointer (some ⟨ub, 0, none⟩) := h.dep 41 (by kernel_rfl)
              have y0 := (HGZ.out.2.1.grown h.base (by simp)).cell (i := 0) rfl
              refine ⟨Value.slice (some ⟨pb, 0, none⟩) (m + 1) cv, w, wants_none rfl, ?_, gb_refl _ _, rfl⟩
              clear h
              simp only [execOp, Act.eval, e41]
              go_simp
            refine ⟨Fg.vT rfl (by decide) fun ac w h => ?_, ?_⟩
            · have e4 : ac.tmps.getD 4 undef = Value.int .i64 m := h.rest 4 (by kernel_rfl)
              exact ⟨_, w, wants_none rfl, Fg.run_move rfl e4, gb_refl _ _, rfl⟩
            refine ⟨Fg.vT rfl (by decide) fun ac w h => ?_, ?_⟩
            · have e42 : ac.tmps.getD 42 undef = Value.slice (some ⟨pb, 0, none⟩) (m + 1) cv := h.dep 42 (by kernel_rfl)
              have e43 : ac.tmps.getD 43 undef = Value.int .i64 m := h.dep 43 (by kernel_rfl)
              have i0 : (m : Int) < ((m + 1 : Nat) : Int) := by omega
              have i1 : ¬ (m : Int) < 0 := by omega
              have i2 : ¬ (m : Int) + 1 ≤ (m : Int) := by omega
              refine ⟨.pointer (some ⟨pb, m * 7, none⟩), w, wants_none rfl, ?_, gb_refl _ _, rfl⟩
              clear h
              simp only [execOp, Act.eval, e42, e43]
              go_simp
            refine ⟨Fg.vT rfl (by decide) fun ac w h => ?_, ?_⟩
            · have e44 : ac.tmps.getD 44 undef = Value.pointer (some ⟨pb, m * 7, none⟩) := h.dep 44 (by kernel_rfl)
              have m0 : w.cell? ⟨pb, m * 7 , none⟩ = some (.string s') := by rw [gb_cell h.base (block_lt_of_cell (HCZ.out.1)) (by simp)]; exact HCZ.out.1
              have m1 : w.cell? ⟨pb, m * 7 + 1, none⟩ = some (iV cl') := by rw [gb_cell h.base (block_lt_of_cell (HCZ.out.2.1)) (by simp)]; exact HCZ.out.2.1
              have m2 : w.cell? ⟨pb, m * 7 + 2, none⟩ = some (iV sq') := by rw [gb_cell h.base (block_lt_of_cell (HCZ.out.2.2.1)) (by simp)]; exact HCZ.out.2.2.1
              have m3 : w.cell? ⟨pb, m * 7 + 3, none⟩ = some (.slice a1' n1' c1') := by rw [gb_cell h.base (block_lt_of_cell (HCZ.out.2.2.2.1)) (by simp)]; exact HCZ.out.2.2.2.1
              have m4 : w.cell? ⟨pb, m * 7 + 4, none⟩ = some (.bool g') := by rw [gb_cell h.base (block_lt_of_cell (HCZ.out.2.2.2.2.1)) (by simp)]; exact HCZ.out.2.2.2.2.1
              have m5 : w.cell? ⟨pb, m * 7 + 5, none⟩ = some (.slice a2' n2' c2') := by rw [gb_cell h.base (block_lt_of_cell (HCZ.out.2.2.2.2.2.1)) (by simp)]; exact HCZ.out.2.2.2.2.2.1
              have m6 : w.cell? ⟨pb, m * 7 + 6, none⟩ = some (.slice a3' n3' c3') := by rw [gb_cell h.base (block_lt_of_cell (HCZ.out.2.2.2.2.2.2)) (by simp)]; exact HCZ.out.2.2.2.2.2.2
              refine ⟨vV s' cl' sq' a1' n1' c1' g' a2' n2' c2' a3' n3' c3', w, wants_none rfl, ?_, gb_refl _ _, rfl⟩
              clear h
              simp only [execOp, Act.eval, e44]
              go_simp
            refine ⟨Fg.cT rfl (by decide) fun ac w h => ?_, ?_⟩
            · have e45 : ac.tmps.getD 45 undef = vV s' cl' sq' a1' n1' c1' g' a2' n2' c2' a3' n3' c3' := h.dep 45 (by kernel_rfl)
              refine ⟨144, #[vV s' cl' sq' a1' n1' c1' g' a2' n2' c2' a3' n3' c3'], wants_none rfl, Fg.run_call rfl rfl (by simp only [List.map_toArray, List.map_cons, List.map_nil, Act.eval, e45]) (Fg.run_enter Tryz.func144 (by kernel_rfl) (by kernel_rfl)), ?_⟩
              exact (HOY.out w (gb_trans HGZ.out.1 (gb_row h.base _))).mono fun _ _ ⟨_, _, he, hg, hb⟩ => ⟨_, he, hg, _, _, _, rfl, hb⟩
            refine ⟨Fg.cT rfl (by decide) fun ac w h => ?_, ?_⟩
            · obtain ⟨a38, k38, B38, e38, b38⟩ : ∃ xa xc xB, ac.tmps.getD 38 undef = .slice xa PX.length xc ∧ BytesAt w xB xa xc PX := h.dep 38 (by kernel_rfl)
              obtain ⟨a46, k46, B46, e46, b46⟩ : ∃ xa xc xB, ac.tmps.getD 46 undef = .slice xa PY.length xc ∧ BytesAt w xB xa xc PY := h.dep 46 (by kernel_rfl)
              refine ⟨184, #[Value.slice a38 PX.length k38, Value.slice a46 PY.length k46], wants_none rfl, Fg.run_call rfl rfl (by simp only [List.map_toArray, List.map_cons, List.map_nil, Act.eval, e38, e46]) (Fg.run_enter Tryz.func184 (by kernel_rfl) (by kernel_rfl)), ?_⟩
              exact (bcmp_sg (by rw [HLT.out]) b38 b46).mono fun _ _ ⟨v, he, hg, hb⟩ => ⟨v, he, hg, hb⟩
            refine ⟨Fg.vT rfl (by decide) fun ac w h => ?_, ?_⟩
            · obtain ⟨z47, e47, b47⟩ : ∃ z : Int, ac.tmps.getD 47 undef = .int .i64 z ∧ decide (z < 0) = true := h.dep 47 (by kernel_rfl)
              refine ⟨.bool true, w, wants_none rfl, ?_, gb_refl _ _, rfl⟩
              clear h
              simp only [execOp, Act.eval, e47]
              go_simp
            refine ⟨Fg.vT rfl (by decide) fun ac w h => ?_, ?_⟩
            · have e48 : ac.tmps.getD 48 undef = Value.bool true := h.dep 48 (by kernel_rfl)
              exact ⟨_, w, wants_none rfl, Fg.run_assign rfl e48, gb_refl _ _, rfl⟩
            trivial
          · intro ar wr hB hsz hdf hrest hslots hpt
            obtain ⟨u1, e1⟩ : ∃ u, ar.tmps.getD 1 undef = u := ⟨_, rfl⟩
            obtain ⟨u5, e5⟩ : ∃ u, ar.tmps.getD 5 undef = u := ⟨_, rfl⟩
            obtain ⟨u6, e6⟩ : ∃ u, ar.tmps.getD 6 undef = u := ⟨_, rfl⟩
            obtain ⟨u7, e7⟩ : ∃ u, ar.tmps.getD 7 undef = u := ⟨_, rfl⟩
            obtain ⟨u8, e8⟩ : ∃ u, ar.tmps.getD 8 undef = u := ⟨_, rfl⟩
            obtain ⟨u9, e9⟩ : ∃ u, ar.tmps.getD 9 undef = u := ⟨_, rfl⟩
            obtain ⟨u10, e10⟩ : ∃ u, ar.tmps.getD 10 undef = u := ⟨_, rfl⟩
            obtain ⟨u11, e11⟩ : ∃ u, ar.tmps.getD 11 undef = u := ⟨_, rfl⟩
            obtain ⟨u12, e12⟩ : ∃ u, ar.tmps.getD 12 undef = u := ⟨_, rfl⟩
            obtain ⟨u13, e13⟩ : ∃ u, ar.tmps.getD 13 undef = u := ⟨_, rfl⟩
            obtain ⟨u14, e14⟩ : ∃ u, ar.tmps.getD 14 undef = u := ⟨_, rfl⟩
            obtain ⟨u15, e15⟩ : ∃ u, ar.tmps.getD 15 undef = u := ⟨_, rfl⟩
            obtain ⟨u16, e16⟩ : ∃ u, ar.tmps.getD 16 undef = u := ⟨_, rfl⟩
            obtain ⟨u17, e17⟩ : ∃ u, ar.tmps.getD 17 undef = u := ⟨_, rfl⟩
            obtain ⟨u18, e18⟩ : ∃ u, ar.tmps.getD 18 undef = u := ⟨_, rfl⟩
            obtain ⟨u19, e19⟩ : ∃ u, ar.tmps.getD 19 undef = u := ⟨_, rfl⟩
            obtain ⟨u20, e20⟩ : ∃ u, ar.tmps.getD 20 undef = u := ⟨_, rfl⟩
            obtain ⟨u21, e21⟩ : ∃ u, ar.tmps.getD 21 undef = u := ⟨_, rfl⟩
            obtain ⟨u22, e22⟩ : ∃ u, ar.tmps.getD 22 undef = u := ⟨_, rfl⟩
            obtain ⟨u23, e23⟩ : ∃ u, ar.tmps.getD 23 undef = u := ⟨_, rfl⟩
            obtain ⟨u24, e24⟩ : ∃ u, ar.tmps.getD 24 undef = u := ⟨_, rfl⟩
            obtain ⟨u25, e25⟩ : ∃ u, ar.tmps.getD 25 undef = u := ⟨_, rfl⟩
            have e36 : ar.tmps.getD 36 undef = Value.bool true := hslots 36 (by kernel_rfl)
            obtain ⟨u37, e37⟩ : ∃ u, ar.tmps.getD 37 undef = u := ⟨_, rfl⟩
            obtain ⟨u38, e38⟩ : ∃ u, ar.tmps.getD 38 undef = u := ⟨_, rfl⟩
            obtain ⟨u39, e39⟩ : ∃ u, ar.tmps.getD 39 undef = u := ⟨_, rfl⟩
            obtain ⟨u40, e40⟩ : ∃ u, ar.tmps.getD 40 undef = u := ⟨_, rfl⟩
            obtain ⟨u41, e41⟩ : ∃ u, ar.tmps.getD 41 undef = u := ⟨_, rfl⟩
            obtain ⟨u42, e42⟩ : ∃ u, ar.tmps.getD 42 undef = u := ⟨_, rfl⟩
            obtain ⟨u43, e43⟩ : ∃ u, ar.tmps.getD 43 undef = u := ⟨_, rfl⟩
            obtain ⟨u44, e44⟩ : ∃ u, ar.tmps.getD 44 undef = u := ⟨_, rfl⟩
            obtain ⟨u45, e45⟩ : ∃ u, ar.tmps.getD 45 undef = u := ⟨_, rfl⟩
            obtain ⟨u46, e46⟩ : ∃ u, ar.tmps.getD 46 undef = u := ⟨_, rfl⟩
            obtain ⟨u47, e47⟩ : ∃ u, ar.tmps.getD 47 undef = u := ⟨_, rfl⟩
            obtain ⟨u48, e48⟩ : ∃ u, ar.tmps.getD 48 undef = u := ⟨_, rfl⟩
            obtain rfl := Fg.frame_is (a := ar) (vs := [Value.pointer (some ⟨ub, 0, none⟩), u1, undef, Value.pointer (some ⟨N, 0, none⟩), Value.int .i64 m, u5, u6, u7, u8, u9, u10, u11, u12, u13, u14, u15, u16, u17, u18, u19, u20, u21, u22, u23, u24, u25, undef, undef, undef, undef, undef, undef, undef, undef, undef, undef, Value.bool true, u37, u38, u39, u40, u41, u42, u43, u44, u45, u46, u47, u48, undef, undef, undef, undef, undef, undef, undef]) hsz ⟨hrest 0 (by kernel_rfl), e1, hrest 2 (by kernel_rfl), hrest 3 (by kernel_rfl), hrest 4 (by kernel_rfl), e5, e6, e7, e8, e9, e10, e11, e12, e13, e14, e15, e16, e17, e18, e19, e20, e21, e22, e23, e24, e25, hrest 26 (by kernel_rfl), hrest 27 (by kernel_rfl), hrest 28 (by kernel_rfl), hrest 29 (by kernel_rfl), hrest 30 (by kernel_rfl), hrest 31 (by kernel_rfl), hrest 32 (by kernel_rfl), hrest 33 (by kernel_rfl), hrest 34 (by kernel_rfl), hrest 35 (by kernel_rfl), e36, e37, e38, e39, e40, e41, e42, e43, e44, e45, e46, e47, e48, hrest 49 (by kernel_rfl), hrest 50 (by kernel_rfl), hrest 51 (by kernel_rfl), hrest 52 (by kernel_rfl), hrest 53 (by kernel_rfl), hrest 54 (by kernel_rfl), hrest 55 (by kernel_rfl), trivial⟩ hdf
            clear hsz hdf hrest hslots hpt e1 e5 e6 e7 e8 e9 e10 e11 e12 e13 e14 e15 e16 e17 e18 e19 e20 e21 e22 e23 e24 e25 e36 e37 e38 e39 e40 e41 e42 e43 e44 e45 e46 e47 e48
            have HGR : Hid (w0.grownBy wr (some ub) ∧ Blk wr ub 115 [.slice (some ⟨pb, 0, none⟩) (m + 1) cv] ∧ Blk wr N 66 [.string s, iV cl, iV sq, .slice a1 n1 c1, .bool g, .slice a2 n2 c2, .slice a3 n3 c3] ∧ OwnR wr w0.heap.size (.slice (some ⟨pb, 0, none⟩) u.length cv) u) := ⟨gb_trans HGZ.out.1 (gb_row hB _), HGZ.out.2.1.grown hB (by simp), HGZ.out.2.2.1.grown hB (by simp), HGZ.out.2.2.2.kept hB (by cases (Value.slice (some ⟨pb, 0, none⟩) u.length cv).ownBlock <;> simp)⟩
            clear hB
            refine wpList_nil ?_
            go_wp2_with fail
            refine Fg.region_t [] [.any, .any, .any, .any, .any, .any, .any, .any, .any, .any, .any, .any, .any, .any, .any, .any, .any, .any, .any, .any, .any, .any, .any, .any, .any, .any, .any, .any, .any, .any, .any, .any, .any, .any, .any, .any, .any, .any, .any, .any, .any, .any, .any, .any, .any, .any, .any, .any, .any, .val (Value.pointer (some ⟨ub, 0, none⟩)), .val (Value.pointer (some ⟨ub, 0, none⟩)), .val (Value.pointer (some ⟨ub, 0, none⟩)), .val (Value.slice (some ⟨pb, 0, none⟩) (m + 1) cv), .val (Value.int .i64 m), .val (vV s cl sq a1 n1 c1 g a2 n2 c2 a3 n3 c3), .val (Value.pointer (some ⟨pb, m * 7, none⟩))] wr 7 (gb_refl _ _) (by kernel_rfl) (by kernel_rfl) (by kernel_rfl) (by kernel_rfl) (by decide) (by kernel_rfl) ?_ ?_
            · refine ⟨Fg.vT rfl (by decide) fun ac w h => ?_, ?_⟩
              · have e0 : ac.tmps.getD 0 undef = Value.pointer (some ⟨ub, 0, none⟩) := h.rest 0 (by kernel_rfl)
                exact ⟨_, w, wants_none rfl, Fg.run_move rfl e0, gb_refl _ _, rfl⟩
              refine ⟨Fg.vT rfl (by decide) fun ac w h => ?_, ?_⟩
              · have e49 : ac.tmps.getD 49 undef = Value.pointer (some ⟨ub, 0, none⟩) := h.dep 49 (by kernel_rfl)
                refine ⟨.pointer (some ⟨ub, 0, none⟩), w, wants_none rfl, ?_, gb_refl _ _, rfl⟩
                clear h
                simp only [execOp, Act.eval, e49]
                go_simp
              refine ⟨Fg.vT rfl (by decide) fun ac w h => ?_, ?_⟩
              · have e50 : ac.tmps.getD 50 undef = Value.pointer (some ⟨ub, 0, none⟩) := h.dep 50 (by kernel_rfl)
                refine ⟨Value.pointer (some ⟨ub, 0, none⟩), w, wants_none rfl, ?_, gb_refl _ _, rfl⟩
                clear h
                simp only [execOp, Act.eval, e50]
                go_simp
              refine ⟨Fg.vT rfl (by decide) fun ac w h => ?_, ?_⟩
              · have e51 : ac.tmps.getD 51 undef = Value.pointer (some ⟨ub, 0, none⟩) := h.dep 51 (by kernel_rfl)
                have y0 := (HGR.out.2.1.grown h.base (by simp)).cell (i := 0) rfl
                refine ⟨Value.slice (some ⟨pb, 0, none⟩) (m + 1) cv, w, wants_none rfl, ?_, gb_refl _ _, rfl⟩
                clear h
                simp only [execOp, Act.eval, e51]
                go_simp
              refine ⟨Fg.vT rfl (by decide) fun ac w h => ?_, ?_⟩
              · have e4 : ac.tmps.getD 4 undef = Value.int .i64 m := h.rest 4 (by kernel_rfl)
                exact ⟨_, w, wants_none rfl, Fg.run_move rfl e4, gb_refl _ _, rfl⟩
              refine ⟨Fg.vT rfl (by decide) fun ac w h => ?_, ?_⟩
              · have e3 : ac.tmps.getD 3 undef = Value.pointer (some ⟨N, 0, none⟩) := h.rest 3 (by kernel_rfl)
                have m0 := ((HGR.out.2.2.1).grown h.base (by simp)).cell (i := 0) rfl
                have m1 := ((HGR.out.2.2.1).grown h.base (by simp)).cell (i := 1) rfl
                have m2 := ((HGR.out.2.2.1).grown h.base (by simp)).cell (i := 2) rfl
                have m3 := ((HGR.out.2.2.1).grown h.base (by simp)).cell (i := 3) rfl
                have m4 := ((HGR.out.2.2.1).grown h.base (by simp)).cell (i := 4) rfl
                have m5 := ((HGR.out.2.2.1).grown h.base (by simp)).cell (i := 5) rfl
                have m6 := ((HGR.out.2.2.1).grown h.base (by simp)).cell (i := 6) rfl
                refine ⟨vV s cl sq a1 n1 c1 g a2 n2 c2 a3 n3 c3, w, wants_none rfl, ?_, gb_refl _ _, rfl⟩
                clear h
                simp only [execOp, Act.eval, e3]
                go_simp
              refine ⟨Fg.vT rfl (by decide) fun ac w h => ?_, ?_⟩
              · have e52 : ac.tmps.getD 52 undef = Value.slice (some ⟨pb, 0, none⟩) (m + 1) cv := h.dep 52 (by kernel_rfl)
                have e53 : ac.tmps.getD 53 undef = Value.int .i64 m := h.dep 53 (by kernel_rfl)
                have i0 : (m : Int) < ((m + 1 : Nat) : Int) := by omega
                have i1 : ¬ (m : Int) < 0 := by omega
                have i2 : ¬ (m : Int) + 1 ≤ (m : Int) := by omega
                refine ⟨.pointer (some ⟨pb, m * 7, none⟩), w, wants_none rfl, ?_, gb_refl _ _, rfl⟩
                clear h
                simp only [execOp, Act.eval, e52, e53]
                go_simp
              trivial
            · intro ay ws hB hsz hdf hrest hslots hpt
              obtain ⟨u1, e1⟩ : ∃ u, ay.tmps.getD 1 undef = u := ⟨_, rfl⟩
              obtain ⟨u5, e5⟩ : ∃ u, ay.tmps.getD 5 undef = u := ⟨_, rfl⟩
              obtain ⟨u6, e6⟩ : ∃ u, ay.tmps.getD 6 undef = u := ⟨_, rfl⟩
              obtain ⟨u7, e7⟩ : ∃ u, ay.tmps.getD 7 undef = u := ⟨_, rfl⟩
              obtain ⟨u8, e8⟩ : ∃ u, ay.tmps.getD 8 undef = u := ⟨_, rfl⟩
              obtain ⟨u9, e9⟩ : ∃ u, ay.tmps.getD 9 undef = u := ⟨_, rfl⟩
              obtain ⟨u10, e10⟩ : ∃ u, ay.tmps.getD 10 undef = u := ⟨_, rfl⟩
              obtain ⟨u11, e11⟩ : ∃ u, ay.tmps.getD 11 undef = u := ⟨_, rfl⟩
              obtain ⟨u12, e12⟩ : ∃ u, ay.tmps.getD 12 undef = u := ⟨_, rfl⟩
              obtain ⟨u13, e13⟩ : ∃ u, ay.tmps.getD 13 undef = u := ⟨_, rfl⟩
              obtain ⟨u14, e14⟩ : ∃ u, ay.tmps.getD 14 undef = u := ⟨_, rfl⟩
              obtain ⟨u15, e15⟩ : ∃ u, ay.tmps.getD 15 undef = u := ⟨_, rfl⟩
              obtain ⟨u16, e16⟩ : ∃ u, ay.tmps.getD 16 undef = u := ⟨_, rfl⟩
              obtain ⟨u17, e17⟩ : ∃ u, ay.tmps.getD 17 undef = u := ⟨_, rfl⟩
              obtain ⟨u18, e18⟩ : ∃ u, ay.tmps.getD 18 undef = u := ⟨_, rfl⟩
              obtain ⟨u19, e19⟩ : ∃ u, ay.tmps.getD 19 undef = u := ⟨_, rfl⟩
              obtain ⟨u20, e20⟩ : ∃ u, ay.tmps.getD 20 undef = u := ⟨_, rfl⟩
              obtain ⟨u21, e21⟩ : ∃ u, ay.tmps.getD 21 undef = u := ⟨_, rfl⟩
              obtain ⟨u22, e22⟩ : ∃ u, ay.tmps.getD 22 undef = u := ⟨_, rfl⟩
              obtain ⟨u23, e23⟩ : ∃ u, ay.tmps.getD 23 undef = u := ⟨_, rfl⟩
              obtain ⟨u24, e24⟩ : ∃ u, ay.tmps.getD 24 undef = u := ⟨_, rfl⟩
              obtain ⟨u25, e25⟩ : ∃ u, ay.tmps.getD 25 undef = u := ⟨_, rfl⟩
              obtain ⟨u26, e26⟩ : ∃ u, ay.tmps.getD 26 undef = u := ⟨_, rfl⟩
              obtain ⟨u27, e27⟩ : ∃ u, ay.tmps.getD 27 undef = u := ⟨_, rfl⟩
              obtain ⟨u28, e28⟩ : ∃ u, ay.tmps.getD 28 undef = u := ⟨_, rfl⟩
              obtain ⟨u29, e29⟩ : ∃ u, ay.tmps.getD 29 undef = u := ⟨_, rfl⟩
              obtain ⟨u30, e30⟩ : ∃ u, ay.tmps.getD 30 undef = u := ⟨_, rfl⟩
              obtain ⟨u31, e31⟩ : ∃ u, ay.tmps.getD 31 undef = u := ⟨_, rfl⟩
              obtain ⟨u32, e32⟩ : ∃ u, ay.tmps.getD 32 undef = u := ⟨_, rfl⟩
              obtain ⟨u33, e33⟩ : ∃ u, ay.tmps.getD 33 undef = u := ⟨_, rfl⟩
              obtain ⟨u34, e34⟩ : ∃ u, ay.tmps.getD 34 undef = u := ⟨_, rfl⟩
              obtain ⟨u35, e35⟩ : ∃ u, ay.tmps.getD 35 undef = u := ⟨_, rfl⟩
              obtain ⟨u37, e37⟩ : ∃ u, ay.tmps.getD 37 undef = u := ⟨_, rfl⟩
              obtain ⟨u38, e38⟩ : ∃ u, ay.tmps.getD 38 undef = u := ⟨_, rfl⟩
              obtain ⟨u39, e39⟩ : ∃ u, ay.tmps.getD 39 undef = u := ⟨_, rfl⟩
              obtain ⟨u40, e40⟩ : ∃ u, ay.tmps.getD 40 undef = u := ⟨_, rfl⟩
              obtain ⟨u41, e41⟩ : ∃ u, ay.tmps.getD 41 undef = u := ⟨_, rfl⟩
              obtain ⟨u42, e42⟩ : ∃ u, ay.tmps.getD 42 undef = u := ⟨_, rfl⟩
              obtain ⟨u43, e43⟩ : ∃ u, ay.tmps.getD 43 undef = u := ⟨_, rfl⟩
              obtain ⟨u44, e44⟩ : ∃ u, ay.tmps.getD 44 undef = u := ⟨_, rfl⟩
              obtain ⟨u45, e45⟩ : ∃ u, ay.tmps.getD 45 undef = u := ⟨_, rfl⟩
              obtain ⟨u46, e46⟩ : ∃ u, ay.tmps.getD 46 undef = u := ⟨_, rfl⟩
              obtain ⟨u47, e47⟩ : ∃ u, ay.tmps.getD 47 undef = u := ⟨_, rfl⟩
              obtain ⟨u48, e48⟩ : ∃ u, ay.tmps.getD 48 undef = u := ⟨_, rfl⟩
              obtain ⟨u49, e49⟩ : ∃ u, ay.tmps.getD 49 undef = u := ⟨_, rfl⟩
              obtain ⟨u50, e50⟩ : ∃ u, ay.tmps.getD 50 undef = u := ⟨_, rfl⟩
              obtain ⟨u51, e51⟩ : ∃ u, ay.tmps.getD 51 undef = u := ⟨_, rfl⟩
              obtain ⟨u52, e52⟩ : ∃ u, ay.tmps.getD 52 undef = u := ⟨_, rfl⟩
              obtain ⟨u53, e53⟩ : ∃ u, ay.tmps.getD 53 undef = u := ⟨_, rfl⟩
              have e54 : ay.tmps.getD 54 undef = vV s cl sq a1 n1 c1 g a2 n2 c2 a3 n3 c3 := hslots 54 (by kernel_rfl)
              have e55 : ay.tmps.getD 55 undef = Value.pointer (some ⟨pb, m * 7, none⟩) := hslots 55 (by kernel_rfl)
              obtain rfl := Fg.frame_is (a := ay) (vs := [Value.pointer (some ⟨ub, 0, none⟩), u1, undef, Value.pointer (some ⟨N, 0, none⟩), Value.int .i64 m, u5, u6, u7, u8, u9, u10, u11, u12, u13, u14, u15, u16, u17, u18, u19, u20, u21, u22, u23, u24, u25, u26, u27, u28, u29, u30, u31, u32, u33, u34, u35, Value.bool true, u37, u38, u39, u40, u41, u42, u43, u44, u45, u46, u47, u48, u49, u50, u51, u52, u53, vV s cl sq a1 n1 c1 g a2 n2 c2 a3 n3 c3, Value.pointer (some ⟨pb, m * 7, none⟩)]) hsz ⟨hrest 0 (by kernel_rfl), e1, hrest 2 (by kernel_rfl), hrest 3 (by kernel_rfl), hrest 4 (by kernel_rfl), e5, e6, e7, e8, e9, e10, e11, e12, e13, e14, e15, e16, e17, e18, e19, e20, e21, e22, e23, e24, e25, e26, e27, e28, e29, e30, e31, e32, e33, e34, e35, hrest 36 (by kernel_rfl), e37, e38, e39, e40, e41, e42, e43, e44, e45, e46, e47, e48, e49, e50, e51, e52, e53, e54, e55, trivial⟩ hdf
              clear hsz hdf hrest hslots hpt e1 e5 e6 e7 e8 e9 e10 e11 e12 e13 e14 e15 e16 e17 e18 e19 e20 e21 e22 e23 e24 e25 e26 e27 e28 e29 e30 e31 e32 e33 e34 e35 e37 e38 e39 e40 e41 e42 e43 e44 e45 e46 e47 e48 e49 e50 e51 e52 e53 e54 e55
              obtain ⟨h1, h2, h3⟩ := own_setR ((⟨s, a1, n1, c1, a2, n2, c2, a3, n3, c3⟩, ⟨key, cl, sq, cx, g, val, sig⟩) : E) (HGR.out.2.2.2.kept hB (by cases (Value.slice (some ⟨pb, 0, none⟩) u.length cv).ownBlock <;> simp)) (i := m) (by omega)
              have hbu := (HGR.out.2.1.grown hB (by simp)).grown h2 (fun e => by have := (HGR.out.2.2.2.lt pb rfl).1; have := hHL.out.1; simp at e; omega)
              have hgw := gb_then (gb_trans HGR.out.1 (gb_row hB _)) h2 (HGR.out.2.2.2.lt pb rfl).1 (row := some ub)
              refine Fg.wpl_skip rfl rfl (Fg.run_store (cs := [.string s, iV cl, iV sq, .slice a1 n1 c1, .bool g, .slice a2 n2 c2, .slice a3 n3 c3]) rfl rfl rfl h3 info_recS rfl) ?_
              have HE : Hid (Q (.returned (.tuple #[])) (ws.setCells pb (m * 7) [.string s, iV cl, iV sq, .slice a1 n1 c1, .bool g, .slice a2 n2 c2, .slice a3 n3 c3])) := by
                show Q _ _
                rw [HQ.out, HTK.out, if_neg (by simp [hz0]), HLT.out, if_pos rfl]
                exact ⟨rfl, hgw, .slice (some ⟨pb, 0, none⟩) u.length cv, by rw [hm]; exact hbu, h1⟩
              clear hB h1 h2 h3 hbu hgw
              refine wpList_nil ?_
              go_wp2
              go_end0
              exact HE.out
        | false =>
          have HLT := Lib.hid hlt
          clear hlt
          go_wp2_with fail
          refine Fg.region_t [] [.any, .any, .any, .any, .any, .any, .any, .any, .any, .any, .any, .any, .any, .any, .any, .any, .any, .any, .any, .any, .any, .any, .any, .any, .any, .any, .any, .any, .any, .any, .any, .any, .any, .any, .any, .any, .val (Value.bool false), .val (vV s cl sq a1 n1 c1 g a2 n2 c2 a3 n3 c3), Fg.It.by PX, .val (Value.pointer (some ⟨ub, 0, none⟩)), .val (Value.pointer (some ⟨ub, 0, none⟩)), .val (Value.pointer (some ⟨ub, 0, none⟩)), .val (Value.slice (some ⟨pb, 0, none⟩) (m + 1) cv), .val (Value.int .i64 m), .val (Value.pointer (some ⟨pb, m * 7, none⟩)), .val (vV s' cl' sq' a1' n1' c1' g' a2' n2' c2' a3' n3' c3'), Fg.It.by PY, .sg false, .val (Value.bool false)] wq 13 (gb_refl _ _) (by kernel_rfl) (by kernel_rfl) (by kernel_rfl) (by kernel_rfl) (by decide) (by kernel_rfl) ?_ ?_
          · refine ⟨Fg.vT rfl (by decide) fun ac w h => ?_, ?_⟩
            · have e3 : ac.tmps.getD 3 undef = Value.pointer (some ⟨N, 0, none⟩) := h.rest 3 (by kernel_rfl)
              have m0 := ((HGZ.out.2.2.1).grown h.base (by simp)).cell (i := 0) rfl
              have m1 := ((HGZ.out.2.2.1).grown h.base (by simp)).cell (i := 1) rfl
              have m2 := ((HGZ.out.2.2.1).grown h.base (by simp)).cell (i := 2) rfl
              have m3 := ((HGZ.out.2.2.1).grown h.base (by simp)).cell (i := 3) rfl
              have m4 := ((HGZ.out.2.2.1).grown h.base (by simp)).cell (i := 4) rfl
              have m5 := ((HGZ.out.2.2.1).grown h.base (by simp)).cell (i := 5) rfl
              have m6 := ((HGZ.out.2.2.1).grown h.base (by simp)).cell (i := 6) rfl
              refine ⟨vV s cl sq a1 n1 c1 g a2 n2 c2 a3 n3 c3, w, wants_none rfl, ?_, gb_refl _ _, rfl⟩
              clear h
              simp only [execOp, Act.eval, e3]
              go_simp
            refine ⟨Fg.cT rfl (by decide) fun ac w h => ?_, ?_⟩
            · have e37 : ac.tmps.getD 37 undef = vV s cl sq a1 n1 c1 g a2 n2 c2 a3 n3 c3 := h.dep 37 (by kernel_rfl)
              refine ⟨144, #[vV s cl sq a1 n1 c1 g a2 n2 c2 a3 n3 c3], wants_none rfl, Fg.run_call rfl rfl (by simp only [List.map_toArray, List.map_cons, List.map_nil, Act.eval, e37]) (Fg.run_enter Tryz.func144 (by kernel_rfl) (by kernel_rfl)), ?_⟩
              exact (HO.out w (gb_trans HGZ.out.1 (gb_row h.base _))).mono fun _ _ ⟨_, _, he, hg, hb⟩ => ⟨_, he, hg, _, _, _, rfl, hb⟩
            refine ⟨Fg.vT rfl (by decide) fun ac w h => ?_, ?_⟩
            · have e0 : ac.tmps.getD 0 undef = Value.pointer (some ⟨ub, 0, none⟩) := h.rest 0 (by kernel_rfl)
              exact ⟨_, w, wants_none rfl, Fg.run_move rfl e0, gb_refl _ _, rfl⟩
            refine ⟨Fg.vT rfl (by decide) fun ac w h => ?_, ?_⟩
            · have e39 : ac.tmps.getD 39 undef = Value.pointer (some ⟨ub, 0, none⟩) := h.dep 39 (by kernel_rfl)
              refine ⟨.pointer (some ⟨ub, 0, none⟩), w, wants_none rfl, ?_, gb_refl _ _, rfl⟩
              clear h
              simp only [execOp, Act.eval, e39]
              go_simp
            refine ⟨Fg.vT rfl (by decide) fun ac w h => ?_, ?_⟩
            · have e40 : ac.tmps.getD 40 undef = Value.pointer (some ⟨ub, 0, none⟩) := h.dep 40 (by kernel_rfl)
              refine ⟨Value.pointer (some ⟨ub, 0, none⟩), w, wants_none rfl, ?_, gb_refl _ _, rfl⟩
              clear h
              simp only [execOp, Act.eval, e40]
              go_simp
            refine ⟨Fg.vT rfl (by decide) fun ac w h => ?_, ?_⟩
            · have e41 : ac.tmps.getD 41 undef = Value.pointer (some ⟨ub, 0, none⟩) := h.dep 41 (by kernel_rfl)
              have y0 := (HGZ.out.2.1.grown h.base (by simp)).cell (i := 0) rfl
              refine ⟨Value.slice (some ⟨pb, 0, none⟩) (m + 1) cv, w, wants_none rfl, ?_, gb_refl _ _, rfl⟩
              clear h
              simp only [execOp, Act.eval, e41]
              go_simp
            refine ⟨Fg.vT rfl (by decide) fun ac w h => ?_, ?_⟩
            · have e4 : ac.tmps.getD 4 undef = Value.int .i64 m := h.rest 4 (by kernel_rfl)
              exact ⟨_, w, wants_none rfl, Fg.run_move rfl e4, gb_refl _ _, rfl⟩
            refine ⟨Fg.vT rfl (by decide) fun ac w h => ?_, ?_⟩
            · have e42 : ac.tmps.getD 42 undef = Value.slice (some ⟨pb, 0, none⟩) (m + 1) cv := h.dep 42 (by kernel_rfl)
              have e43 : ac.tmps.getD 43 undef = Value.int .i64 m := h.dep 43 (by kernel_rfl)
              have i0 : (m : Int) < ((m + 1 : Nat) : Int) := by omega
              have i1 : ¬ (m : Int) < 0 := by omega
              have i2 : ¬ (m : Int) + 1 ≤ (m : Int) := by omega
              refine ⟨.pointer (some ⟨pb, m * 7, none⟩), w, wants_none rfl, ?_, gb_refl _ _, rfl⟩
              clear h
              simp only [execOp, Act.eval, e42, e43]
              go_simp
            refine ⟨Fg.vT rfl (by decide) fun ac w h => ?_, ?_⟩
            · have e44 : ac.tmps.getD 44 undef = Value.pointer (some ⟨pb, m * 7, none⟩) := h.dep 44 (by kernel_rfl)
              have m0 : w.cell? ⟨pb, m * 7 , none⟩ = some (.string s') := by rw [gb_cell h.base (block_lt_of_cell (HCZ.out.1)) (by simp)]; exact HCZ.out.1
              have m1 : w.cell? ⟨pb, m * 7 + 1, none⟩ = some (iV cl') := by rw [gb_cell h.base (block_lt_of_cell (HCZ.out.2.1)) (by simp)]; exact HCZ.out.2.1
              have m2 : w.cell? ⟨pb, m * 7 + 2, none⟩ = some (iV sq') := by rw [gb_cell h.base (block_lt_of_cell (HCZ.out.2.2.1)) (by simp)]; exact HCZ.out.2.2.1
              have m3 : w.cell? ⟨pb, m * 7 + 3, none⟩ = some (.slice a1' n1' c1') := by rw [gb_cell h.base (block_lt_of_cell (HCZ.out.2.2.2.1)) (by simp)]; exact HCZ.out.2.2.2.1
              have m4 : w.cell? ⟨pb, m * 7 + 4, none⟩ = some (.bool g') := by rw [gb_cell h.base (block_lt_of_cell (HCZ.out.2.2.2.2.1)) (by simp)]; exact HCZ.out.2.2.2.2.1
              have m5 : w.cell? ⟨pb, m * 7 + 5, none⟩ = some (.slice a2' n2' c2') := by rw [gb_cell h.base (block_lt_of_cell (HCZ.out.2.2.2.2.2.1)) (by simp)]; exact HCZ.out.2.2.2.2.2.1
              have m6 : w.cell? ⟨pb, m * 7 + 6, none⟩ = some (.slice a3' n3' c3') := by rw [gb_cell h.base (block_lt_of_cell (HCZ.out.2.2.2.2.2.2)) (by simp)]; exact HCZ.out.2.2.2.2.2.2
              refine ⟨vV s' cl' sq' a1' n1' c1' g' a2' n2' c2' a3' n3' c3', w, wants_none rfl, ?_, gb_refl _ _, rfl⟩
              clear h
              simp only [execOp, Act.eval, e44]
              go_simp
            refine ⟨Fg.cT rfl (by decide) fun ac w h => ?_, ?_⟩
            · have e45 : ac.tmps.getD 45 undef = vV s' cl' sq' a1' n1' c1' g' a2' n2' c2' a3' n3' c3' := h.dep 45 (by kernel_rfl)
              refine ⟨144, #[vV s' cl' sq' a1' n1' c1' g' a2' n2' c2' a3' n3' c3'], wants_none rfl, Fg.run_call rfl rfl (by simp only [List.map_toArray, List.map_cons, List.map_nil, Act.eval, e45]) (Fg.run_enter Tryz.func144 (by kernel_rfl) (by kernel_rfl)), ?_⟩
              exact (HOY.out w (gb_trans HGZ.out.1 (gb_row h.base _))).mono fun _ _ ⟨_, _, he, hg, hb⟩ => ⟨_, he, hg, _, _, _, rfl, hb⟩
            refine ⟨Fg.cT rfl (by decide) fun ac w h => ?_, ?_⟩
            · obtain ⟨a38, k38, B38, e38, b38⟩ : ∃ xa xc xB, ac.tmps.getD 38 undef = .slice xa PX.length xc ∧ BytesAt w xB xa xc PX := h.dep 38 (by kernel_rfl)
              obtain ⟨a46, k46, B46, e46, b46⟩ : ∃ xa xc xB, ac.tmps.getD 46 undef = .slice xa PY.length xc ∧ BytesAt w xB xa xc PY := h.dep 46 (by kernel_rfl)
              refine ⟨184, #[Value.slice a38 PX.length k38, Value.slice a46 PY.length k46], wants_none rfl, Fg.run_call rfl rfl (by simp only [List.map_toArray, List.map_cons, List.map_nil, Act.eval, e38, e46]) (Fg.run_enter Tryz.func184 (by kernel_rfl) (by kernel_rfl)), ?_⟩
              exact (bcmp_sg (by rw [HLT.out]) b38 b46).mono fun _ _ ⟨v, he, hg, hb⟩ => ⟨v, he, hg, hb⟩
            refine ⟨Fg.vT rfl (by decide) fun ac w h => ?_, ?_⟩
            · obtain ⟨z47, e47, b47⟩ : ∃ z : Int, ac.tmps.getD 47 undef = .int .i64 z ∧ decide (z < 0) = false := h.dep 47 (by kernel_rfl)
              refine ⟨.bool false, w, wants_none rfl, ?_, gb_refl _ _, rfl⟩
              clear h
              simp only [execOp, Act.eval, e47]
              go_simp
            refine ⟨Fg.vT rfl (by decide) fun ac w h => ?_, ?_⟩
            · have e48 : ac.tmps.getD 48 undef = Value.bool false := h.dep 48 (by kernel_rfl)
              exact ⟨_, w, wants_none rfl, Fg.run_assign rfl e48, gb_refl _ _, rfl⟩
            trivial
          · intro ar wr hB hsz hdf hrest hslots hpt
            obtain ⟨u1, e1⟩ : ∃ u, ar.tmps.getD 1 undef = u := ⟨_, rfl⟩
            obtain ⟨u5, e5⟩ : ∃ u, ar.tmps.getD 5 undef = u := ⟨_, rfl⟩
            obtain ⟨u6, e6⟩ : ∃ u, ar.tmps.getD 6 undef = u := ⟨_, rfl⟩
            obtain ⟨u7, e7⟩ : ∃ u, ar.tmps.getD 7 undef = u := ⟨_, rfl⟩
            obtain ⟨u8, e8⟩ : ∃ u, ar.tmps.getD 8 undef = u := ⟨_, rfl⟩
            obtain ⟨u9, e9⟩ : ∃ u, ar.tmps.getD 9 undef = u := ⟨_, rfl⟩
            obtain ⟨u10, e10⟩ : ∃ u, ar.tmps.getD 10 undef = u := ⟨_, rfl⟩
            obtain ⟨u11, e11⟩ : ∃ u, ar.tmps.getD 11 undef = u := ⟨_, rfl⟩
            obtain ⟨u12, e12⟩ : ∃ u, ar.tmps.getD 12 undef = u := ⟨_, rfl⟩
            obtain ⟨u13, e13⟩ : ∃ u, ar.tmps.getD 13 undef = u := ⟨_, rfl⟩
            obtain ⟨u14, e14⟩ : ∃ u, ar.tmps.getD 14 undef = u := ⟨_, rfl⟩
            obtain ⟨u15, e15⟩ : ∃ u, ar.tmps.getD 15 undef = u := ⟨_, rfl⟩
            obtain ⟨u16, e16⟩ : ∃ u, ar.tmps.getD 16 undef = u := ⟨_, rfl⟩
            obtain ⟨u17, e17⟩ : ∃ u, ar.tmps.getD 17 undef = u := ⟨_, rfl⟩
            obtain ⟨u18, e18⟩ : ∃ u, ar.tmps.getD 18 undef = u := ⟨_, rfl⟩
            obtain ⟨u19, e19⟩ : ∃ u, ar.tmps.getD 19 undef = u := ⟨_, rfl⟩
            obtain ⟨u20, e20⟩ : ∃ u, ar.tmps.getD 20 undef = u := ⟨_, rfl⟩
            obtain ⟨u21, e21⟩ : ∃ u, ar.tmps.getD 21 undef = u := ⟨_, rfl⟩
            obtain ⟨u22, e22⟩ : ∃ u, ar.tmps.getD 22 undef = u := ⟨_, rfl⟩
            obtain ⟨u23, e23⟩ : ∃ u, ar.tmps.getD 23 undef = u := ⟨_, rfl⟩
            obtain ⟨u24, e24⟩ : ∃ u, ar.tmps.getD 24 undef = u := ⟨_, rfl⟩
            obtain ⟨u25, e25⟩ : ∃ u, ar.tmps.getD 25 undef = u := ⟨_, rfl⟩
            have e36 : ar.tmps.getD 36 undef = Value.bool false := hslots 36 (by kernel_rfl)
            obtain ⟨u37, e37⟩ : ∃ u, ar.tmps.getD 37 undef = u := ⟨_, rfl⟩
            obtain ⟨u38, e38⟩ : ∃ u, ar.tmps.getD 38 undef = u := ⟨_, rfl⟩
            obtain ⟨u39, e39⟩ : ∃ u, ar.tmps.getD 39 undef = u := ⟨_, rfl⟩
            obtain ⟨u40, e40⟩ : ∃ u, ar.tmps.getD 40 undef = u := ⟨_, rfl⟩
            obtain ⟨u41, e41⟩ : ∃ u, ar.tmps.getD 41 undef = u := ⟨_, rfl⟩
            obtain ⟨u42, e42⟩ : ∃ u, ar.tmps.getD 42 undef = u := ⟨_, rfl⟩
            obtain ⟨u43, e43⟩ : ∃ u, ar.tmps.getD 43 undef = u := ⟨_, rfl⟩
            obtain ⟨u44, e44⟩ : ∃ u, ar.tmps.getD 44 undef = u := ⟨_, rfl⟩
            obtain ⟨u45, e45⟩ : ∃ u, ar.tmps.getD 45 undef = u := ⟨_, rfl⟩
            obtain ⟨u46, e46⟩ : ∃ u, ar.tmps.getD 46 undef = u := ⟨_, rfl⟩
            obtain ⟨u47, e47⟩ : ∃ u, ar.tmps.getD 47 undef = u := ⟨_, rfl⟩
            obtain ⟨u48, e48⟩ : ∃ u, ar.tmps.getD 48 undef = u := ⟨_, rfl⟩
            obtain rfl := Fg.frame_is (a := ar) (vs := [Value.pointer (some ⟨ub, 0, none⟩), u1, undef, Value.pointer (some ⟨N, 0, none⟩), Value.int .i64 m, u5, u6, u7, u8, u9, u10, u11, u12, u13, u14, u15, u16, u17, u18, u19, u20, u21, u22, u23, u24, u25, undef, undef, undef, undef, undef, undef, undef, undef, undef, undef, Value.bool false, u37, u38, u39, u40, u41, u42, u43, u44, u45, u46, u47, u48, undef, undef, undef, undef, undef, undef, undef]) hsz ⟨hrest 0 (by kernel_rfl), e1, hrest 2 (by kernel_rfl), hrest 3 (by kernel_rfl), hrest 4 (by kernel_rfl), e5, e6, e7, e8, e9, e10, e11, e12, e13, e14, e15, e16, e17, e18, e19, e20, e21, e22, e23, e24, e25, hrest 26 (by kernel_rfl), hrest 27 (by kernel_rfl), hrest 28 (by kernel_rfl), hrest 29 (by kernel_rfl), hrest 30 (by kernel_rfl), hrest 31 (by kernel_rfl), hrest 32 (by kernel_rfl), hrest 33 (by kernel_rfl), hrest 34 (by kernel_rfl), hrest 35 (by kernel_rfl), e36, e37, e38, e39, e40, e41, e42, e43, e44, e45, e46, e47, e48, hrest 49 (by kernel_rfl), hrest 50 (by kernel_rfl), hrest 51 (by kernel_rfl), hrest 52 (by kernel_rfl), hrest 53 (by kernel_rfl), hrest 54 (by kernel_rfl), hrest 55 (by kernel_rfl), trivial⟩ hdf
            clear hsz hdf hrest hslots hpt e1 e5 e6 e7 e8 e9 e10 e11 e12 e13 e14 e15 e16 e17 e18 e19 e20 e21 e22 e23 e24 e25 e36 e37 e38 e39 e40 e41 e42 e43 e44 e45 e46 e47 e48
            have HE : Hid (Q (.returned (.tuple #[])) wr) := by
              show Q _ _
              rw [HQ.out, HTK.out, if_neg (by simp [hz0]), HLT.out]
              exact ⟨rfl, gb_trans HGZ.out.1 (gb_row hB _), _, by rw [hm]; exact HGZ.out.2.1.grown hB (by simp), HGZ.out.2.2.2.kept hB (by cases (Value.slice (some ⟨pb, 0, none⟩) u.length cv).ownBlock <;> simp)⟩
            clear hB
            refine wpList_nil ?_
            go_wp2
            go_end0
            exact HE.out
    · have HZ : Hid ((z != 0) = true) := by show _ = _; rw [bne_iff_ne]; exact hz0
      go_enter Tryz.func130, Tryz.ntmps130
      go_upto_region 1 with fail
      rw [← hW1, ← hN]
      clear hW1 hN
      go_upto_region 2 with fail
      refine Fg.region_t [] [.any, .any, .any, .any, .any, .any, .any, .any, .any, .any, .any, .val (Value.bool true), .val (Value.int .i64 m), .val (Value.bool false), .val (Value.bool false), .val (Value.pointer (some ⟨ub, 0, none⟩)), .val (Value.pointer (some ⟨ub, 0, none⟩)), .val (Value.pointer (some ⟨ub, 0, none⟩)), .val (Value.slice (some ⟨pb, 0, none⟩) (m + 1) cv), .val (Value.int .i64 m), .val (Value.pointer (some ⟨pb, m * 7, none⟩)), .val (vV s' cl' sq' a1' n1' c1' g' a2' n2' c2' a3' n3' c3'), .val (vV s cl sq a1 n1 c1 g a2 n2 c2 a3 n3 c3), .val (Value.int .i64 z), .val (Value.bool true), .val (Value.bool true)] W1 15 (gb_refl _ _) (by kernel_rfl) (by kernel_rfl) (by kernel_rfl) (by kernel_rfl) (by decide) (by kernel_rfl) ?_ ?_
      · refine ⟨Fg.vT rfl (by decide) fun ac w h => ?_, ?_⟩
        · have e4 : ac.tmps.getD 4 undef = Value.int .i64 m := h.rest 4 (by kernel_rfl)
          exact ⟨_, w, wants_none rfl, Fg.run_move rfl e4, gb_refl _ _, rfl⟩
        refine ⟨Fg.vT rfl (by decide) fun ac w h => ?_, ?_⟩
        · have e12 : ac.tmps.getD 12 undef = Value.int .i64 m := h.dep 12 (by kernel_rfl)
          have i0 : ¬ (m : Int) < 0 := by omega
          refine ⟨.bool false, w, wants_none rfl, ?_, gb_refl _ _, rfl⟩
          clear h
          simp only [execOp, Act.eval, e12]
          go_simp
        refine ⟨Fg.vT rfl (by decide) fun ac w h => ?_, ?_⟩
        · have e13 : ac.tmps.getD 13 undef = Value.bool false := h.dep 13 (by kernel_rfl)
          exact ⟨_, w, wants_none rfl, Fg.run_move rfl e13, gb_refl _ _, rfl⟩
        refine ⟨Fg.vT rfl (by decide) fun ac w h => ?_, ?_⟩
        · have e14 : ac.tmps.getD 14 undef = Value.bool false := h.dep 14 (by kernel_rfl)
          have e0 : ac.tmps.getD 0 undef = Value.pointer (some ⟨ub, 0, none⟩) := h.rest 0 (by kernel_rfl)
          exact ⟨_, w, wants_some (d := 14) rfl rfl (by rw [h.size]; show 14 < 56; decide) e14, Fg.run_move rfl e0, gb_refl _ _, rfl⟩
        refine ⟨Fg.vT rfl (by decide) fun ac w h => ?_, ?_⟩
        · have e14 : ac.tmps.getD 14 undef = Value.bool false := h.dep 14 (by kernel_rfl)
          have e15 : ac.tmps.getD 15 undef = Value.pointer (some ⟨ub, 0, none⟩) := h.dep 15 (by kernel_rfl)
          refine ⟨.pointer (some ⟨ub, 0, none⟩), w, wants_some (d := 14) rfl rfl (by rw [h.size]; show 14 < 56; decide) e14, ?_, gb_refl _ _, rfl⟩
          clear h
          simp only [execOp, Act.eval, e15]
          go_simp
        refine ⟨Fg.vT rfl (by decide) fun ac w h => ?_, ?_⟩
        · have e14 : ac.tmps.getD 14 undef = Value.bool false := h.dep 14 (by kernel_rfl)
          have e16 : ac.tmps.getD 16 undef = Value.pointer (some ⟨ub, 0, none⟩) := h.dep 16 (by kernel_rfl)
          refine ⟨Value.pointer (some ⟨ub, 0, none⟩), w, wants_some (d := 14) rfl rfl (by rw [h.size]; show 14 < 56; decide) e14, ?_, gb_refl _ _, rfl⟩
          clear h
          simp only [execOp, Act.eval, e16]
          go_simp
        refine ⟨Fg.vT rfl (by decide) fun ac w h => ?_, ?_⟩
        · have e14 : ac.tmps.getD 14 undef = Value.bool false := h.dep 14 (by kernel_rfl)
          have e17 : ac.tmps.getD 17 undef = Value.pointer (some ⟨ub, 0, none⟩) := h.dep 17 (by kernel_rfl)
          have y0 := (HG1.out.2.1.grown h.base (by simp)).cell (i := 0) rfl
          refine ⟨Value.slice (some ⟨pb, 0, none⟩) (m + 1) cv, w, wants_some (d := 14) rfl rfl (by rw [h.size]; show 14 < 56; decide) e14, ?_, gb_refl _ _, rfl⟩
          clear h
          simp only [execOp, Act.eval, e17]
          go_simp
        refine ⟨Fg.vT rfl (by decide) fun ac w h => ?_, ?_⟩
        · have e14 : ac.tmps.getD 14 undef = Value.bool false := h.dep 14 (by kernel_rfl)
          have e4 : ac.tmps.getD 4 undef = Value.int .i64 m := h.rest 4 (by kernel_rfl)
          exact ⟨_, w, wants_some (d := 14) rfl rfl (by rw [h.size]; show 14 < 56; decide) e14, Fg.run_move rfl e4, gb_refl _ _, rfl⟩
        refine ⟨Fg.vT rfl (by decide) fun ac w h => ?_, ?_⟩
        · have e14 : ac.tmps.getD 14 undef = Value.bool false := h.dep 14 (by kernel_rfl)
          have e18 : ac.tmps.getD 18 undef = Value.slice (some ⟨pb, 0, none⟩) (m + 1) cv := h.dep 18 (by kernel_rfl)
          have e19 : ac.tmps.getD 19 undef = Value.int .i64 m := h.dep 19 (by kernel_rfl)
          have i0 : (m : Int) < ((m + 1 : Nat) : Int) := by omega
          have i1 : ¬ (m : Int) < 0 := by omega
          have i2 : ¬ (m : Int) + 1 ≤ (m : Int) := by omega
          refine ⟨.pointer (some ⟨pb, m * 7, none⟩), w, wants_some (d := 14) rfl rfl (by rw [h.size]; show 14 < 56; decide) e14, ?_, gb_refl _ _, rfl⟩
          clear h
          simp only [execOp, Act.eval, e18, e19]
          go_simp
        refine ⟨Fg.vT rfl (by decide) fun ac w h => ?_, ?_⟩
        · have e14 : ac.tmps.getD 14 undef = Value.bool false := h.dep 14 (by kernel_rfl)
          have e20 : ac.tmps.getD 20 undef = Value.pointer (some ⟨pb, m * 7, none⟩) := h.dep 20 (by kernel_rfl)
          have m0 : w.cell? ⟨pb, m * 7 , none⟩ = some (.string s') := by rw [gb_cell h.base (block_lt_of_cell (HC.out.1)) (by simp)]; exact HC.out.1
          have m1 : w.cell? ⟨pb, m * 7 + 1, none⟩ = some (iV cl') := by rw [gb_cell h.base (block_lt_of_cell (HC.out.2.1)) (by simp)]; exact HC.out.2.1
          have m2 : w.cell? ⟨pb, m * 7 + 2, none⟩ = some (iV sq') := by rw [gb_cell h.base (block_lt_of_cell (HC.out.2.2.1)) (by simp)]; exact HC.out.2.2.1
          have m3 : w.cell? ⟨pb, m * 7 + 3, none⟩ = some (.slice a1' n1' c1') := by rw [gb_cell h.base (block_lt_of_cell (HC.out.2.2.2.1)) (by simp)]; exact HC.out.2.2.2.1
          have m4 : w.cell? ⟨pb, m * 7 + 4, none⟩ = some (.bool g') := by rw [gb_cell h.base (block_lt_of_cell (HC.out.2.2.2.2.1)) (by simp)]; exact HC.out.2.2.2.2.1
          have m5 : w.cell? ⟨pb, m * 7 + 5, none⟩ = some (.slice a2' n2' c2') := by rw [gb_cell h.base (block_lt_of_cell (HC.out.2.2.2.2.2.1)) (by simp)]; exact HC.out.2.2.2.2.2.1
          have m6 : w.cell? ⟨pb, m * 7 + 6, none⟩ = some (.slice a3' n3' c3') := by rw [gb_cell h.base (block_lt_of_cell (HC.out.2.2.2.2.2.2)) (by simp)]; exact HC.out.2.2.2.2.2.2
          refine ⟨vV s' cl' sq' a1' n1' c1' g' a2' n2' c2' a3' n3' c3', w, wants_some (d := 14) rfl rfl (by rw [h.size]; show 14 < 56; decide) e14, ?_, gb_refl _ _, rfl⟩
          clear h
          simp only [execOp, Act.eval, e20]
          go_simp
        refine ⟨Fg.vT rfl (by decide) fun ac w h => ?_, ?_⟩
        · have e14 : ac.tmps.getD 14 undef = Value.bool false := h.dep 14 (by kernel_rfl)
          have e3 : ac.tmps.getD 3 undef = Value.pointer (some ⟨N, 0, none⟩) := h.rest 3 (by kernel_rfl)
          have m0 := ((HG1.out.2.2.1).grown h.base (by simp)).cell (i := 0) rfl
          have m1 := ((HG1.out.2.2.1).grown h.base (by simp)).cell (i := 1) rfl
          have m2 := ((HG1.out.2.2.1).grown h.base (by simp)).cell (i := 2) rfl
          have m3 := ((HG1.out.2.2.1).grown h.base (by simp)).cell (i := 3) rfl
          have m4 := ((HG1.out.2.2.1).grown h.base (by simp)).cell (i := 4) rfl
          have m5 := ((HG1.out.2.2.1).grown h.base (by simp)).cell (i := 5) rfl
          have m6 := ((HG1.out.2.2.1).grown h.base (by simp)).cell (i := 6) rfl
          refine ⟨vV s cl sq a1 n1 c1 g a2 n2 c2 a3 n3 c3, w, wants_some (d := 14) rfl rfl (by rw [h.size]; show 14 < 56; decide) e14, ?_, gb_refl _ _, rfl⟩
          clear h
          simp only [execOp, Act.eval, e3]
          go_simp
        refine ⟨Fg.cT rfl (by decide) fun ac w h => ?_, ?_⟩
        · have e14 : ac.tmps.getD 14 undef = Value.bool false := h.dep 14 (by kernel_rfl)
          have e21 : ac.tmps.getD 21 undef = vV s' cl' sq' a1' n1' c1' g' a2' n2' c2' a3' n3' c3' := h.dep 21 (by kernel_rfl)
          have e22 : ac.tmps.getD 22 undef = vV s cl sq a1 n1 c1 g a2 n2 c2 a3 n3 c3 := h.dep 22 (by kernel_rfl)
          refine ⟨129, #[vV s' cl' sq' a1' n1' c1' g' a2' n2' c2' a3' n3' c3', vV s cl sq a1 n1 c1 g a2 n2 c2 a3 n3 c3], wants_some (d := 14) rfl rfl (by rw [h.size]; show 14 < 56; decide) e14, Fg.run_call rfl rfl (by simp only [List.map_toArray, List.map_cons, List.map_nil, Act.eval, e21, e22]) (Fg.run_enter Tryz.func129 (by kernel_rfl) (by kernel_rfl)), ?_⟩
          exact (HB.out w).mono fun _ _ ⟨he, hg⟩ => ⟨_, he, hg, rfl⟩
        refine ⟨Fg.vT rfl (by decide) fun ac w h => ?_, ?_⟩
        · have e14 : ac.tmps.getD 14 undef = Value.bool false := h.dep 14 (by kernel_rfl)
          have e23 : ac.tmps.getD 23 undef = Value.int .i64 z := h.dep 23 (by kernel_rfl)
          have hz := HZ.out
          refine ⟨.bool true, w, wants_some (d := 14) rfl rfl (by rw [h.size]; show 14 < 56; decide) e14, ?_, gb_refl _ _, rfl⟩
          clear h
          simp only [execOp, Act.eval, e23]
          go_simp
        refine ⟨Fg.vT rfl (by decide) fun ac w h => ?_, ?_⟩
        · have e14 : ac.tmps.getD 14 undef = Value.bool false := h.dep 14 (by kernel_rfl)
          have e24 : ac.tmps.getD 24 undef = Value.bool true := h.dep 24 (by kernel_rfl)
          refine ⟨Value.bool true, w, wants_none rfl, ?_, gb_refl _ _, rfl⟩
          clear h
          simp only [execOp, Act.eval, e14, e24]
          go_simp
        refine ⟨Fg.vT rfl (by decide) fun ac w h => ?_, ?_⟩
        · have e25 : ac.tmps.getD 25 undef = Value.bool true := h.dep 25 (by kernel_rfl)
          exact ⟨_, w, wants_none rfl, Fg.run_assign rfl e25, gb_refl _ _, rfl⟩
        trivial
      · intro aq wq hB hsz hdf hrest hslots hpt
        obtain ⟨u1, e1⟩ : ∃ u, aq.tmps.getD 1 undef = u := ⟨_, rfl⟩
        obtain ⟨u5, e5⟩ : ∃ u, aq.tmps.getD 5 undef = u := ⟨_, rfl⟩
        obtain ⟨u6, e6⟩ : ∃ u, aq.tmps.getD 6 undef = u := ⟨_, rfl⟩
        obtain ⟨u7, e7⟩ : ∃ u, aq.tmps.getD 7 undef = u := ⟨_, rfl⟩
        obtain ⟨u8, e8⟩ : ∃ u, aq.tmps.getD 8 undef = u := ⟨_, rfl⟩
        obtain ⟨u9, e9⟩ : ∃ u, aq.tmps.getD 9 undef = u := ⟨_, rfl⟩
        obtain ⟨u10, e10⟩ : ∃ u, aq.tmps.getD 10 undef = u := ⟨_, rfl⟩
        have e11 : aq.tmps.getD 11 undef = Value.bool true := hslots 11 (by kernel_rfl)
        obtain ⟨u12, e12⟩ : ∃ u, aq.tmps.getD 12 undef = u := ⟨_, rfl⟩
        obtain ⟨u13, e13⟩ : ∃ u, aq.tmps.getD 13 undef = u := ⟨_, rfl⟩
        obtain ⟨u14, e14⟩ : ∃ u, aq.tmps.getD 14 undef = u := ⟨_, rfl⟩
        obtain ⟨u15, e15⟩ : ∃ u, aq.tmps.getD 15 undef = u := ⟨_, rfl⟩
        obtain ⟨u16, e16⟩ : ∃ u, aq.tmps.getD 16 undef = u := ⟨_, rfl⟩
        obtain ⟨u17, e17⟩ : ∃ u, aq.tmps.getD 17 undef = u := ⟨_, rfl⟩
        obtain ⟨u18, e18⟩ : ∃ u, aq.tmps.getD 18 undef = u := ⟨_, rfl⟩
        obtain ⟨u19, e19⟩ : ∃ u, aq.tmps.getD 19 undef = u := ⟨_, rfl⟩
        obtain ⟨u20, e20⟩ : ∃ u, aq.tmps.getD 20 undef = u := ⟨_, rfl⟩
        obtain ⟨u21, e21⟩ : ∃ u, aq.tmps.getD 21 undef = u := ⟨_, rfl⟩
        obtain ⟨u22, e22⟩ : ∃ u, aq.tmps.getD 22 undef = u := ⟨_, rfl⟩
        obtain ⟨u23, e23⟩ : ∃ u, aq.tmps.getD 23 undef = u := ⟨_, rfl⟩
        obtain ⟨u24, e24⟩ : ∃ u, aq.tmps.getD 24 undef = u := ⟨_, rfl⟩
        obtain ⟨u25, e25⟩ : ∃ u, aq.tmps.getD 25 undef = u := ⟨_, rfl⟩
        obtain rfl := Fg.frame_is (a := aq) (vs := [Value.pointer (some ⟨ub, 0, none⟩), u1, undef, Value.pointer (some ⟨N, 0, none⟩), Value.int .i64 m, u5, u6, u7, u8, u9, u10, Value.bool true, u12, u13, u14, u15, u16, u17, u18, u19, u20, u21, u22, u23, u24, u25, undef, undef, undef, undef, undef, undef, undef, undef, undef, undef, undef, undef, undef, undef, undef, undef, undef, undef, undef, undef, undef, undef, undef, undef, undef, undef, undef, undef, undef, undef]) hsz ⟨hrest 0 (by kernel_rfl), e1, hrest 2 (by kernel_rfl), hrest 3 (by kernel_rfl), hrest 4 (by kernel_rfl), e5, e6, e7, e8, e9, e10, e11, e12, e13, e14, e15, e16, e17, e18, e19, e20, e21, e22, e23, e24, e25, hrest 26 (by kernel_rfl), hrest 27 (by kernel_rfl), hrest 28 (by kernel_rfl), hrest 29 (by kernel_rfl), hrest 30 (by kernel_rfl), hrest 31 (by kernel_rfl), hrest 32 (by kernel_rfl), hrest 33 (by kernel_rfl), hrest 34 (by kernel_rfl), hrest 35 (by kernel_rfl), hrest 36 (by kernel_rfl), hrest 37 (by kernel_rfl), hrest 38 (by kernel_rfl), hrest 39 (by kernel_rfl), hrest 40 (by kernel_rfl), hrest 41 (by kernel_rfl), hrest 42 (by kernel_rfl), hrest 43 (by kernel_rfl), hrest 44 (by kernel_rfl), hrest 45 (by kernel_rfl), hrest 46 (by kernel_rfl), hrest 47 (by kernel_rfl), hrest 48 (by kernel_rfl), hrest 49 (by kernel_rfl), hrest 50 (by kernel_rfl), hrest 51 (by kernel_rfl), hrest 52 (by kernel_rfl), hrest 53 (by kernel_rfl), hrest 54 (by kernel_rfl), hrest 55 (by kernel_rfl), trivial⟩ hdf
        clear hsz hdf hrest hslots hpt e1 e5 e6 e7 e8 e9 e10 e11 e12 e13 e14 e15 e16 e17 e18 e19 e20 e21 e22 e23 e24 e25
        have HGZ : Hid (w0.grownBy wq (some ub) ∧ Blk wq ub 115 [.slice (some ⟨pb, 0, none⟩) (m + 1) cv] ∧ Blk wq N 66 [.string s, iV cl, iV sq, .slice a1 n1 c1, .bool g, .slice a2 n2 c2, .slice a3 n3 c3] ∧ OwnR wq w0.heap.size (.slice (some ⟨pb, 0, none⟩) u.length cv) u) := ⟨gb_trans HG1.out.1 (gb_row hB _), HG1.out.2.1.grown hB (by simp), HG1.out.2.2.1.grown hB (by simp), HG1.out.2.2.2.1.kept hB (by cases (Value.slice (some ⟨pb, 0, none⟩) u.length cv).ownBlock <;> simp)⟩
        have hubN := HG1.out.2.2.2.2
        clear hB k0
        refine wpList_nil ?_
        -- region 3 from world wq on: HGZ tells of it; (some ⟨pb, 0, none⟩) the slice's address, u.length its length, u the row
        obtain ⟨v', w', hap, ho', hg'⟩ := append_recT 111 Tryz.underlying111 (wq.alloc (.cells #[.string s, iV cl, iV sq, .slice a1 n1 c1, .bool g, .slice a2 n2 c2, .slice a3 n3 c3] 66)).drew w0.heap.size (.slice (some ⟨pb, 0, none⟩) u.length cv) u wq.heap.size 0 1 ((⟨s, a1, n1, c1, a2, n2, c2, a3, n3, c3⟩, ⟨key, cl, sq, cx, g, val, sig⟩) : E) (HGZ.out.2.2.2.kept (gb_drew (gb_alloc (gb_refl _ none) _)) (by cases (Value.slice (some ⟨pb, 0, none⟩) u.length cv).ownBlock <;> simp)) (fun j z hz => by rw [Nat.zero_add]; exact (Blk.new wq [.string s, iV cl, iV sq, .slice a1 n1 c1, .bool g, .slice a2 n2 c2, .slice a3 n3 c3] 66).cell hz) (by have := hHL.out.2.2.2.2; omega) (Nat.le_trans HGZ.out.1.size (by simp))
        obtain ⟨a', c', rfl⟩ := own_shapeR ho'
        have hgz := gb_drew (gb_alloc (gb_refl wq none) (.cells #[.string s, iV cl, iV sq, .slice a1 n1 c1, .bool g, .slice a2 n2 c2, .slice a3 n3 c3] 66))
        have hne : some ub ≠ (Value.slice (some ⟨pb, 0, none⟩) u.length cv).ownBlock := fun e => by
          have := (HGZ.out.2.2.2.lt ub e.symm).1
          have := hHL.out.1
          omega
        have hbu := (HGZ.out.2.1.grown hgz (by simp)).grown hg' hne
        have u0 := hbu.cell (i := 0) rfl
        have uf := hbu.free 0
        have k0 := HGZ.out.2.1.cell (i := 0) rfl
        have k0' := (HGZ.out.2.1.grown hgz (by simp)).cell (i := 0) rfl
        have m0 := HGZ.out.2.2.1.cell (i := 0) rfl
        have m1 := HGZ.out.2.2.1.cell (i := 1) rfl
        have m2 := HGZ.out.2.2.1.cell (i := 2) rfl
        have m3 := HGZ.out.2.2.1.cell (i := 3) rfl
        have m4 := HGZ.out.2.2.1.cell (i := 4) rfl
        have m5 := HGZ.out.2.2.1.cell (i := 5) rfl
        have m6 := HGZ.out.2.2.1.cell (i := 6) rfl
        have HAP := Lib.hid hap
        have HE : Hid (Q (.returned (.tuple #[])) (w'.setCell ⟨ub, 0, none⟩ (.slice a' (u ++ [((⟨s, a1, n1, c1, a2, n2, c2, a3, n3, c3⟩, ⟨key, cl, sq, cx, g, val, sig⟩) : E)]).length c'))) := by
          show Q _ _
          rw [HQ.out]
          have hgw : w0.grownBy w' (some ub) := gb_ownRr (gb_trans HGZ.out.1 (gb_row hgz _)) (HGZ.out.2.2.2.kept hgz (by cases (Value.slice (some ⟨pb, 0, none⟩) u.length cv).ownBlock <;> simp)) (Nat.le_refl _) hg'
          refine ⟨rfl, gb_set hgw 0 _, ?_⟩
          rw [show takeG dotR u ((⟨s, a1, n1, c1, a2, n2, c2, a3, n3, c3⟩, ⟨key, cl, sq, cx, g, val, sig⟩) : E) = u ++ [((⟨s, a1, n1, c1, a2, n2, c2, a3, n3, c3⟩, ⟨key, cl, sq, cx, g, val, sig⟩) : E)] from by rw [HTK.out, if_pos hz0]]
          exact ⟨_, hbu.set 0 _, ho'.kept (gb_set (gb_refl w' (some ub)) 0 _) (Or.inr fun e => by have := (ho'.lt _ e).1; have := hHL.out.1; omega)⟩
        clear ho' hg' hne hbu hap hgz
        rw [List.length_append] at HAP HE
        simp only [List.length_cons, List.length_nil, Nat.zero_add] at HAP HE
        rw [hm] at HAP HE
        go_wp2_with fail
        go_region_law (first | (refine Fg.step_append rfl (.tmp 30) (.tmp 32) 111 rfl rfl _ _ rfl rfl _ _ HAP.out ?_))
        all_goals
          go_wp2
          go_end0
          exact HE.out
end Sb
end Go.Proofs.YtlkiancedgaicaaGreat

/- The sort's text is the library's: how its functions and types are numbered here. (Printed by gen_sortlay.py out of the shelf's own command.) -/
namespace Go.Proofs.YtlkiancedgaicaaGreat
namespace Sb
def sortRen : Go.Shelf.Ren := ⟨fun | 14 => 180 | 20 => 208 | 21 => 209 | 22 => 210 | 23 => 211 | 24 => 212 | 25 => 213 | 26 => 214 | 27 => 215 | 46 => 226 | 47 => 227 | 48 => 228 | 49 => 229 | 50 => 230 | 15 => 181 | 57 => 238 | 28 => 216 | 29 => 217 | n => n, fun | 24 => 66 | 22 => 48 | 3 => 3 | 25 => 159 | 4 => 4 | 0 => 0 | 46 => 276 | 45 => 275 | 50 => 280 | 66 => 289 | 39 => 73 | 55 => 72 | 70 => 293 | 76 => 299 | 77 => 300 | 53 => 170 | 5 => 5 | 9 => 9 | n => n, fun | n => n⟩
theorem sortLay : Go.Proofs.SlLaysF0.n14 Tryz.prog sortRen :=
  {
    mixed := by kernel_rfl
    f14 := ⟨Tryz.f180.name, by decide, Tryz.func180.trans (congrArg some (by kernel_rfl))⟩
    f15 := Tryz.func181.trans (congrArg some (by kernel_rfl))
    f20 := ⟨Tryz.f208.name, by decide, Tryz.func208.trans (congrArg some (by kernel_rfl))⟩
    f21 := ⟨Tryz.f209.name, by decide, Tryz.func209.trans (congrArg some (by kernel_rfl))⟩
    f22 := ⟨Tryz.f210.name, by decide, Tryz.func210.trans (congrArg some (by kernel_rfl))⟩
    f23 := ⟨Tryz.f211.name, by decide, Tryz.func211.trans (congrArg some (by kernel_rfl))⟩
    f24 := ⟨Tryz.f212.name, by decide, Tryz.func212.trans (congrArg some (by kernel_rfl))⟩
    f25 := ⟨Tryz.f213.name, by decide, Tryz.func213.trans (congrArg some (by kernel_rfl))⟩
    f26 := ⟨Tryz.f214.name, by decide, Tryz.func214.trans (congrArg some (by kernel_rfl))⟩
    f27 := ⟨Tryz.f215.name, by decide, Tryz.func215.trans (congrArg some (by kernel_rfl))⟩
    f28 := Tryz.func216.trans (congrArg some (by kernel_rfl))
    f29 := Tryz.func217.trans (congrArg some (by kernel_rfl))
    f46 := ⟨Tryz.f226.name, by decide, Tryz.func226.trans (congrArg some (by kernel_rfl))⟩
    f47 := Tryz.func227.trans (congrArg some (by kernel_rfl))
    f48 := Tryz.func228.trans (congrArg some (by kernel_rfl))
    f49 := ⟨Tryz.f229.name, by decide, Tryz.func229.trans (congrArg some (by kernel_rfl))⟩
    f50 := ⟨Tryz.f230.name, by decide, Tryz.func230.trans (congrArg some (by kernel_rfl))⟩
    f57 := ⟨Tryz.f238.name, by decide, Tryz.func238.trans (congrArg some (by kernel_rfl))⟩
    t0 := Tryz.underlying0
    a0 := Tryz.isAgg0
    z0 := Tryz.sizeOf0
    v0 := Tryz.zeroValue0
    t3 := Tryz.underlying3
    a3 := Tryz.isAgg3
    z3 := Tryz.sizeOf3
    v3 := Tryz.zeroValue3
    t4 := Tryz.underlying4
    a4 := Tryz.isAgg4
    z4 := Tryz.sizeOf4
    v4 := Tryz.zeroValue4
    t5 := Tryz.underlying5
    a5 := Tryz.isAgg5
    z5 := Tryz.sizeOf5
    v5 := Tryz.zeroValue5
    t9 := Tryz.underlying9
    a9 := Tryz.isAgg9
    z9 := Tryz.sizeOf9
    v9 := Tryz.zeroValue9
    t22 := Tryz.underlying48
    a22 := Tryz.isAgg48
    z22 := Tryz.sizeOf48
    v22 := Tryz.zeroValue48
    t25 := Tryz.underlying159
    a25 := Tryz.isAgg159
    z25 := Tryz.sizeOf159
    v25 := Tryz.zeroValue159
    t39 := Tryz.underlying73
    a39 := Tryz.isAgg73
    z39 := Tryz.sizeOf73
    v39 := Tryz.zeroValue73
    t45 := Tryz.underlying275
    a45 := Tryz.isAgg275
    z45 := Tryz.sizeOf275
    v45 := Tryz.zeroValue275
    t46 := Tryz.underlying276
    a46 := Tryz.isAgg276
    z46 := Tryz.sizeOf276
    v46 := Tryz.zeroValue276
    t50 := Tryz.underlying280
    a50 := Tryz.isAgg280
    z50 := Tryz.sizeOf280
    v50 := Tryz.zeroValue280
    t53 := Tryz.underlying170
    a53 := Tryz.isAgg170
    z53 := Tryz.sizeOf170
    v53 := Tryz.zeroValue170
    t55 := Tryz.underlying72
    a55 := Tryz.isAgg72
    z55 := Tryz.sizeOf72
    v55 := Tryz.zeroValue72
    t66 := Tryz.underlying289
    a66 := Tryz.isAgg289
    z66 := Tryz.sizeOf289
    v66 := Tryz.zeroValue289
    t70 := Tryz.underlying293
    a70 := Tryz.isAgg293
    z70 := Tryz.sizeOf293
    v70 := Tryz.zeroValue293
    t76 := Tryz.underlying299
    a76 := Tryz.isAgg299
    z76 := Tryz.sizeOf299
    v76 := Tryz.zeroValue299
    t77 := Tryz.underlying300
    a77 := Tryz.isAgg300
    z77 := Tryz.sizeOf300
    v77 := Tryz.zeroValue300
  }
end Sb
end Go.Proofs.YtlkiancedgaicaaGreat

/- slices.SortFunc: a row of one's own, by the records' dots. -/
namespace Go.Proofs.YtlkiancedgaicaaGreat
open Go.RowKit Ow Wi Ve Rc Go.Sort Go.Shelf
namespace Sb
abbrev cfE (x y : E) : Int := cmpD x.2 y.2
theorem lt_is (x y : E) : ltOf cfE x y = lessD x.2 y.2 := cmpD_lt x.2 y.2
theorem swo_dot : SWO (ltOf cfE) where
  irrefl x := by rw [lt_is]; exact lessD_irrefl _
  trans x y z h1 h2 := by rw [lt_is] at *; exact lessD_trans h1 h2
  ntrans x y z h1 h2 := by rw [lt_is, lessD_no] at *; omega
theorem arr_get (l : List E) (i : Nat) : l.toArray[i]! = l.getD i e0 := by
  rw [List.getD_eq_getElem?_getD]
  simp only [List.getElem!_toArray, List.getElem!_eq_getElem?_getD]
  rfl
theorem flat_is (l : List E) : (flatK recC 7 l.toArray).toList = recsC l := by
  apply List.ext_getElem?
  intro j
  by_cases hj : j < l.length * 7
  · have e : j = j / 7 * 7 + j % 7 := by omega
    have hr := recsC_at l (j / 7) (by omega) (j % 7) (Nat.mod_lt _ (by decide))
    rw [← e] at hr
    rw [hr, Array.getElem?_toList, Array.getElem?_eq_getElem (by simpa using hj)]
    have hf := get_flatK recC 7 l.toArray j (by simpa using hj)
    rw [getElem!_pos _ j (by simpa using hj), arr_get] at hf
    rw [hf]
    have hl : j % 7 < (recC (l.getD (j / 7) e0)).length := by rw [recC_len]; exact Nat.mod_lt _ (by decide)
    rw [List.getElem?_eq_getElem hl, getElem!_pos (recC (l.getD (j / 7) e0)) (j % 7) hl]
  · rw [List.getElem?_eq_none (by simp; omega), List.getElem?_eq_none (by rw [recsC_len]; omega)]
theorem own_holds {w : World} {base g n c : Nat} {l : List E} (h : OwnR w base (.slice (some ⟨g, 0, none⟩) n c) l) : HoldsK recC 7 w g 0 l.toArray := by
  obtain ⟨g', c', cur, e1, hb, hg, hnc, hcm, hcs, ht⟩ := h.2.resolve_left (fun h => by cases h.1)
  simp only [Value.slice.injEq, Option.some.injEq, Addr.mk.injEq, and_true] at e1
  obtain ⟨rfl, rfl, rfl⟩ := e1
  obtain ⟨L, rfl⟩ : ∃ L : List Value, cur = L.toArray := ⟨cur.toList, by simp⟩
  have hB : Blk w g 66 L := hg
  intro j hj
  rw [size_flatK] at hj
  simp only [List.size_toArray] at hj
  rw [Nat.zero_add]
  refine ⟨hB.cell ?_, hB.free j⟩
  have hf := flat_is l
  have e : (flatK recC 7 l.toArray)[j]? = some (flatK recC 7 l.toArray)[j]! := by
    rw [getElem!_pos _ j (by rw [size_flatK]; simpa using hj)]
    exact Array.getElem?_eq_getElem (by rw [size_flatK]; simpa using hj)
  rw [← Array.getElem?_toList, hf, ← ht] at e
  simp only [id]
  rw [← e, List.getElem?_take_of_lt hj]
theorem own_sorted {w : World} {base g n c m : Nat} {l : List E} {d : Array E} {os : Array Obj} (h : OwnR w base (.slice (some ⟨g, 0, none⟩) n c) l) (hd : d.size = l.length) :
    OwnR (sortWorldK recC 7 w g 0 m d os) base (.slice (some ⟨g, 0, none⟩) n c) d.toList ∧ w.grownBy (sortWorldK recC 7 w g 0 m d os) (some g) := by
  obtain ⟨g', c', cur, e1, hb, hg, hnc, hcm, hcs, ht⟩ := h.2.resolve_left (fun h => by cases h.1)
  simp only [Value.slice.injEq, Option.some.injEq, Addr.mk.injEq, and_true] at e1
  obtain ⟨rfl, rfl, rfl⟩ := e1
  have hgl : g < w.heap.size := lt_of_block hg
  have hdl : d.toList.length = l.length := by simpa using hd
  have hF : (flatK recC 7 d).toList = recsC d.toList := by have := flat_is d.toList; simpa using this
  have hw : ∀ k : Nat, (sortWorldK recC 7 w g 0 m d os).heap[k]? = (w.heap.modify g (onCells (putCells id 0 (flatK recC 7 d))) ++ os)[k]? := fun k => rfl
  have hblk : (sortWorldK recC 7 w g 0 m d os).heap[g]? = some (.cells (putCells id 0 (flatK recC 7 d) cur) 66 (0, 0)) := by
    rw [hw, Array.getElem?_append_left (by simpa using hgl), Array.getElem?_modify]
    simp only [if_true, hg, Option.map_some, onCells]
  have hcsz : l.length * 7 ≤ cur.size := by rw [hcs]; omega
  refine ⟨⟨by rw [recsC_len], Or.inr ⟨g, c, _, by rw [hdl], hb, hblk, by rw [hdl]; exact hnc, hcm, by simp [putCells, hcs], ?_⟩⟩, ⟨rfl, rfl, rfl, ?_, fun k hk hne => ?_⟩⟩
  · rw [← hF]
    apply List.ext_getElem?
    intro j
    rw [hdl]
    by_cases hj : j < l.length * 7
    · rw [List.getElem?_take_of_lt hj, Array.getElem?_toList, Array.getElem?_toList, putCells, Array.getElem?_mapIdx, Array.getElem?_eq_getElem (show j < cur.size by omega)]
      simp only [Option.map_some, Nat.zero_le, Nat.zero_add, true_and, size_flatK, hd, hj, if_true, Nat.sub_zero, id]
      rw [getElem!_pos _ j (by rw [size_flatK, hd]; exact hj)]
      rw [Array.getElem?_eq_getElem (by rw [size_flatK, hd]; exact hj)]
    · rw [List.getElem?_eq_none (by rw [List.length_take]; omega), List.getElem?_eq_none (by rw [hF, recsC_len, hdl]; omega)]
  · show w.heap.size ≤ (w.heap.modify g _ ++ os).size
    simp
  · rw [hw, Array.getElem?_append_left (by simpa using hk), Array.getElem?_modify, if_neg (fun e => hne (by rw [e]))]
set_option maxHeartbeats 1000000 in
theorem sortR_any (base : Nat) (v : Value) (l : List E) (w : World) (ho : OwnR w base v l) (hlen : l.length ≤ 1000000) :
    Calls Tryz.prog 128 #[v, .func (.func 129) #[] #[]] w fun e w' => e = .returned (.tuple #[]) ∧ ∃ l' : List E, l'.Perm l ∧ l'.Pairwise (fun a b => lessD b.2 a.2 = false) ∧ OwnR w' base v l' ∧ w.grownBy w' v.ownBlock := by
  have eg : ∀ args w, (callFunc 129 args).run Tryz.prog w = .ok (.enter 129 args) w := enters_of Tryz.func129 (by kernel_rfl) rfl
  have hl := fun n W h1 h2 => Any.bits_Len (SlLaysF0.n15.bits (P := Tryz.prog) (ρ := sortRen) { sortLay with }) (n : Int) W h1 h2
  change ∀ (n : Int) (W : World), 0 ≤ n → n ≤ 18446744073709551615 → Calls Tryz.prog 181 _ _ _ at hl
  have HL := Lib.hid hl; clear hl
  rcases ho.2 with ⟨rfl, h0⟩ | ⟨g, c, cur, rfl, hb, hg, hnc, hcm, hcs, ht⟩
  · obtain rfl : l = [] := List.eq_nil_of_length_eq_zero h0
    have hp := fun lim W => AnyF.pdqsortCmpFunc_none (P := Tryz.prog) (ρ := sortRen) sortLay none 0 lim (.func (.func 129) #[] #[]) W
    change ∀ (lim : Int) (W : World), Calls Tryz.prog 180 _ _ _ at hp
    have HP := Lib.hid hp; clear hp
    have HO := Lib.hid ho; clear ho
    go_enter Tryz.func128, Tryz.ntmps128
    go_wp2_with (first | (go_at_call 181; refine (HL.out _ _ (by decide) (by decide)).mono ?_; rintro e w' ⟨rfl, rfl⟩) | (go_at_call 180; refine (HP.out _ _).mono ?_; rintro e w' ⟨rfl, rfl⟩))
    go_end0
    exact ⟨rfl, [], List.Perm.refl _, List.Pairwise.nil, HO.out, gb_refl _ _⟩
  · have hgl : g < w.heap.size := lt_of_block hg
    have hH := own_holds ho
    have hR : RowK recC 7 w g 0 l.toArray := ⟨recC_len, recC_cell, hH, hgl⟩
    have hcl : CmpLays Tryz.prog 129 #[] recC 7 cfE g 0 l.toArray.size w := fun m os dk _ x y => byDot_any x y _
    have hp := fun lim (h1 : lim < 4611686018427387904) => AnyQ.pdqsortCmpFunc_all (P := Tryz.prog) (ρ := sortRen) sortLay 7 Tryz.isAgg66 Tryz.sizeOf66 recC cfE 129 #[] swo_dot g 0 c l.toArray w eg hcl hR (l.length + 1) 0 l.length lim l.toArray w (by omega) rfl (SWK.start hH) (Nat.zero_le _) (by simp) (by simp; omega) h1 (Or.inl rfl)
    change ∀ (lim : Nat) (_ : lim < 4611686018427387904), Calls Tryz.prog 180 _ _ _ at hp
    have hsz : l.toArray.size = l.length := by simp
    rw [hsz] at hp
    have hlim : Lib.bitLen l.length < 4611686018427387904 := Nat.lt_of_le_of_lt (Lib.bitLen_le l.length 62 (by omega) (by omega)) (by omega)
    have hps := pdq_sorts (ltOf cfE) swo_dot l.toArray 0 l.toArray.size (Lib.bitLen l.length) true true (Nat.zero_le _) (Nat.le_refl _) (Or.inl rfl)
    rw [hsz] at hps
    have HP := Lib.hid (hp _ hlim); clear hp
    generalize pdq (ltOf cfE) l.toArray 0 l.length (Lib.bitLen l.length) true true = d' at *
    have HQ : Hid (∀ w', SWK recC 7 w g 0 d' w' → ∃ l' : List E, l'.Perm l ∧ l'.Pairwise (fun a b => lessD b.2 a.2 = false) ∧ OwnR w' base (.slice (some ⟨g, 0, none⟩) l.length c) l' ∧ w.grownBy w' (some g)) := by
      rintro w' ⟨n, os, rfl⟩
      have hds : d'.size = l.length := by rw [hps.1.1]; simp
      obtain ⟨h1, h2⟩ := own_sorted (m := n) (os := os) ho hds
      refine ⟨d'.toList, ?_, ?_, h1, h2⟩
      · have := hps.1.2.2
        rw [show (l.toArray.extract 0 l.length).toList = l by simp, show (d'.extract 0 l.length).toList = d'.toList by rw [← hds]; simp] at this
        exact this
      · rw [List.pairwise_iff_getElem]
        intro i j hi hj hij
        have := hps.2 i j (Nat.zero_le _) hij (by rw [← hds]; simpa using hj)
        rw [lt_is] at this
        rw [getElem!_pos d' i (by simpa using hi), getElem!_pos d' j (by simpa using hj)] at this
        simpa using this
    clear hps ho hH hR hcl hg hcs ht hsz
    have HBL : Hid (∀ W, Calls Tryz.prog 181 #[.int .u64 (l.length : Int)] W fun e w' => e = .returned (.int .i64 (Lib.bitLen l.length : Nat)) ∧ w' = W) := fun W => by
      have := HL.out (l.length : Int) W (by omega) (by omega)
      rwa [Int.toNat_natCast] at this
    clear HL hlim
    generalize Lib.bitLen l.length = lim at *
    generalize l.length = n at *
    have wr : IntKind.u64.wrap (n : Int) = n := by simp [IntKind.wrap, IntKind.bits, IntKind.signed]; omega
    go_enter Tryz.func128, Tryz.ntmps128
    go_wp2_with (first | (go_at_call 181; refine (HBL.out _).mono ?_; rintro e w' ⟨rfl, rfl⟩) | (go_at_call 180; refine HP.out.mono ?_; rintro e w' ⟨rfl, hs⟩; have HS := Lib.hid hs; clear hs))
    go_end0
    exact ⟨rfl, HQ.out _ HS.out⟩
end Sb
end Go.Proofs.YtlkiancedgaicaaGreat

/- Rows of one's own: beside a block of another type. -/
namespace Go.Proofs.YtlkiancedgaicaaGreat
open Go.RowKit Ow Wi Ve
namespace Rc
theorem own_mono {w : World} {base b' e sz n : Nat} {v : Value} {xs : List Value} (h : w.ownsRow base e sz v n xs) (hb : b' ≤ base) : w.ownsRow b' e sz v n xs := by
  refine ⟨h.1, ?_⟩
  rcases h.2 with h0 | ⟨g, c, cur, e1, hg, rest⟩
  · exact Or.inl h0
  · exact Or.inr ⟨g, c, cur, e1, Nat.le_trans hb hg, rest⟩
/-- a block of another type is written -/
theorem own_other {w w' : World} {base e sz n T Tt : Nat} {v : Value} {xs : List Value} {L : List Value} (h : w.ownsRow base e sz v n xs) (hb : Blk w T Tt L) (hne : Tt ≠ e) (hg : w.grownBy w' (some T)) : w'.ownsRow base e sz v n xs := by
  refine h.kept hg ?_
  rcases h.2 with ⟨rfl, _⟩ | ⟨g, c, cur, rfl, _, hh, _⟩
  · exact Or.inl rfl
  · refine Or.inr fun e2 => ?_
    simp only [Value.ownBlock, Option.some.injEq] at e2
    subst e2
    unfold Blk at hb
    rw [hb] at hh
    simp only [Option.some.injEq, Obj.cells.injEq] at hh
    exact hne hh.2.1
end Rc
end Go.Proofs.YtlkiancedgaicaaGreat

/- A record whose rows are its own. -/
namespace Go.Proofs.YtlkiancedgaicaaGreat
open Go.RowKit Ow Wi Ve
namespace Rc
theorem append_noneD (w : World) (base n c : Nat) (v : Value) (xs : List Value) (hown : w.ownsRow base 127 2 v n xs) :
    (Builtin.append_ #[64, 64] 64 #[v, .slice none 0 c]).run Tryz.prog w = .ok v w := by
  obtain ⟨i, hi, hz, hs, hb⟩ := info_dot
  rcases hown.2 with ⟨rfl, rfl⟩ | ⟨g, cap, cur, rfl, _, _, hnc, _⟩
  · simp [Builtin.append_, run_underlying Tryz.underlying64, sizeOf, typeInfo, hi, Builtin.lenOf, Builtin.firstCells]
  · simp [Builtin.append_, run_underlying Tryz.underlying64, sizeOf, typeInfo, hi, Builtin.lenOf, Builtin.firstCells, hnc, storeCells]
/-- a record whose rows are its own -/
structure ROwn (w : World) (base : Nat) (q : L) (r : R) : Prop where
  str : strL q.s = r.key
  dots : OwnD' w base (.slice q.a1 q.n1 q.c1) q.n1 r.cx
  val : w.ownsRow base 5 1 (.slice q.a2 q.n2 q.c2) q.n2 (r.val.map u8N)
  sig : w.ownsRow base 5 1 (.slice q.a3 q.n3 q.c3) q.n3 (r.sig.map u8N)
  vb : ∀ i, r.val.getD i 0 < 256
  sb : ∀ i, r.sig.getD i 0 < 256
  top : q.n1 < 9223372036854775808
theorem ROwn.stay {w w' : World} {base : Nat} {q : L} {r : R} (h : ROwn w base q r) (hg : w.grownBy w' none) : ROwn w' base q r :=
  ⟨h.str, h.dots.kept hg (by cases (Value.slice q.a1 q.n1 q.c1).ownBlock <;> simp), own_kept h.val hg, own_kept h.sig hg, h.vb, h.sb, h.top⟩
theorem ROwn.at {w : World} {base : Nat} {q : L} {r : R} (h : ROwn w base q r) : RAt w w.heap.size q r := by
  obtain ⟨a', c', e3, hl1, _, hd⟩ := own_dots h.dots
  simp only [Value.slice.injEq, true_and] at e3
  obtain ⟨a5, c5, e5, _, hv, _⟩ := own_slice h.val h.vb
  simp only [Value.slice.injEq, true_and] at e5
  obtain ⟨a6, c6, e6, _, hs, _⟩ := own_slice h.sig h.sb
  simp only [Value.slice.injEq, true_and] at e6
  have l2 : r.val.length = q.n2 := by have := h.val.1; simpa using this
  have l3 : r.sig.length = q.n3 := by have := h.sig.1; simpa using this
  rw [← e3.1] at hd
  rw [← e5.1, ← e5.2] at hv
  rw [← e6.1, ← e6.2] at hs
  exact ⟨h.str, hl1, l2, l3, hd, hv, hs, h.top⟩
theorem ROwn.other {w w' : World} {base T Tt : Nat} {q : L} {r : R} {cs : List Value} (h : ROwn w base q r) (hb : Blk w T Tt cs) (h1 : Tt ≠ 127) (h2 : Tt ≠ 5) (hg : w.grownBy w' (some T)) : ROwn w' base q r :=
  ⟨h.str, own_other h.dots hb h1 hg, own_other h.val hb h2 hg, own_other h.sig hb h2 hg, h.vb, h.sb, h.top⟩
theorem dots_shape {w : World} {base n : Nat} {v : Value} {l : List D} (h : OwnD' w base v n l) : ∃ a c, v = .slice a n c := own_shapeD h
theorem bytes_shape {w : World} {base n : Nat} {v : Value} {xs : List Value} (h : w.ownsRow base 5 1 v n xs) : ∃ a c, v = .slice a n c := by
  rcases h.2 with ⟨rfl, h0⟩ | ⟨g, c, _, rfl, _⟩
  · exact ⟨none, 0, by rw [h0]⟩
  · exact ⟨_, _, rfl⟩
def CpOut (w : World) (r : R) (e : Ending) (w' : World) : Prop := ∃ q : L, e = .returned (q.v r) ∧ w.grownBy w' none ∧ ROwn w' w.heap.size q r
end Rc
end Go.Proofs.YtlkiancedgaicaaGreat

/- unite: the union of sets, one record of each dot, rising. -/
namespace Go.Proofs.YtlkiancedgaicaaGreat
open Go.RowKit Ow Wi Ve Rc
namespace Sb
theorem takeG_sub {u : List E} {x y : E} (h : y ∈ takeG dotR u x) : y = x ∨ y ∈ u := by
  unfold takeG at h
  split at h
  · rcases List.mem_append.1 h with h | h
    · exact Or.inr h
    · exact Or.inl (by simpa using h)
  · split at h
    · rcases List.mem_append.1 h with h | h
      · exact Or.inr h
      · exact Or.inl (by simpa using h)
    · split at h
      · rcases List.mem_append.1 h with h | h
        · exact Or.inr ((List.dropLast_sublist _).subset h)
        · exact Or.inl (by simpa using h)
      · exact Or.inr h
theorem takeG_len (u : List E) (x : E) : (takeG dotR u x).length ≤ u.length + 1 := by
  unfold takeG
  split
  · simp
  · split
    · simp
    · split
      · simp
      · omega
theorem uniG_next (l : List E) (k : Nat) (h : k < l.length) : uniG dotR (l.take (k + 1)) = takeG dotR (uniG dotR (l.take k)) (l.getD k e0) :=
  uniG_take dotR l k _ (by rw [List.getD_eq_getElem?_getD, List.getElem?_eq_getElem h]; rfl)
theorem uniG_sub (l : List E) : ∀ k, k ≤ l.length → (∀ y ∈ uniG dotR (l.take k), y ∈ l) ∧ (uniG dotR (l.take k)).length ≤ k := by
  intro k
  induction k with
  | zero => intro _; simp [uniG]
  | succ k ih =>
    intro hk
    obtain ⟨h1, h2⟩ := ih (by omega)
    rw [uniG_next l k (by omega)]
    refine ⟨fun y hy => ?_, ?_⟩
    · rcases takeG_sub hy with rfl | hy
      · exact getD_mem (by omega)
      · exact h1 y hy
    · have := takeG_len (uniG dotR (l.take k)) (l.getD k e0); omega
theorem SRow.recs {w : World} {B : Nat} {a : Option Addr} {S : List (List E)} (h : SRow w B a S) : ∀ x ∈ S.flatten, RAt w B x.1 x.2 := by
  intro x hx
  obtain ⟨l, hl, hxl⟩ := List.mem_flatten.1 hx
  obtain ⟨i, hi, rfl⟩ := List.getElem_of_mem hl
  obtain ⟨_, _, _, _, _, _, _, hr, _⟩ := h.at hi
  rw [List.getD_eq_getElem?_getD, List.getElem?_eq_getElem hi] at hr
  exact hr.recs x hxl
theorem alike_perm {l l' : List E} (h : l'.Perm l) : alikeB (recs l') = alikeB (recs l) := by
  rw [Bool.eq_iff_iff]
  constructor
  · intro ha; exact alike_sub ha fun x hx => by obtain ⟨y, hy, rfl⟩ := List.mem_map.1 hx; exact List.mem_map.2 ⟨y, h.mem_iff.2 hy, rfl⟩
  · intro ha; exact alike_sub ha fun x hx => by obtain ⟨y, hy, rfl⟩ := List.mem_map.1 hx; exact List.mem_map.2 ⟨y, h.mem_iff.1 hy, rfl⟩
theorem info_uniS : (Tryz.prog.info? 115).map (·.size) = some 1 := by kernel_rfl
def UniteOut (w : World) (F : List E) (e : Ending) (w' : World) : Prop :=
  (alikeB (recs F) = true ∧ (∃ (v : Value) (l' : List E), e = .returned (.agg #[v]) ∧ l'.Perm F ∧ l'.Pairwise (fun a b => lessD b.2 a.2 = false) ∧ OwnR w' w.heap.size v (uniG dotR l')) ∨ alikeB (recs F) = false ∧ Dies e) ∧ w.grownBy w' none
set_option maxHeartbeats 2000000 in
set_option maxRecDepth 100000 in
theorem unite_any (m cap B : Nat) (S : List (List E)) (a : Option Addr) (w : World) (hm : S.length = m) (hS : SRow w B a S) (hm2 : m < 9223372036854775808) (hlen : S.flatten.length ≤ 1000000) :
    Calls Tryz.prog 72 #[.slice a m cap] w (UniteOut w S.flatten) := by
  obtain ⟨Q, hQ⟩ : ∃ Q, Q = UniteOut w S.flatten := ⟨_, rfl⟩
  rw [← hQ]
  have HQ := Lib.hid hQ; clear hQ
  have hrec := hS.recs
  obtain ⟨w1, hw1⟩ : ∃ w1, w1 = w.alloc (.cells #[.slice none 0 0] 115) := ⟨_, rfl⟩
  obtain ⟨ub, hub⟩ : ∃ ub, ub = w.heap.size := ⟨_, rfl⟩
  have hg1 : w.grownBy w1 none := by rw [hw1]; exact gb_alloc (gb_refl _ _) _
  have hb1 : Blk w1 ub 115 [.slice none 0 0] := by rw [hw1]; exact blk_at _ _ _ hub.symm
  have HC := Lib.hid (concatR_any m cap B S a w1 hm (hS.stay hg1) hm2 hlen)
  have HG1 := Lib.hid (And.intro hg1 (And.intro hb1 (And.intro hub hS.lim)))
  clear hg1 hb1 hS hm
  generalize S.flatten = F at *
  go_enter Tryz.func72, Tryz.ntmps72
  go_wp2_with fail
  rw [← hw1, ← hub]
  clear hw1 hub
  refine HC.out.mono ?_
  rintro e w2 ⟨v, rfl, hg2, ho2⟩
  have hrec2 : ∀ x ∈ F, RAt w2 w2.heap.size x.1 x.2 := fun x hx => ((hrec x hx).stay (gb_trans HG1.out.1 hg2)).full
  obtain ⟨av, cv, rfl, hcv, _, hR2⟩ := own_recs ho2 hrec2
  have HA := Lib.hid (alike_any w2.heap.size F.length cv av F w2 rfl hR2 (by omega))
  have HG2 := Lib.hid (And.intro hg2 (And.intro ho2 hrec))
  clear hg2 ho2 hrec hrec2 hR2
  go_wp2_with fail
  refine HA.out.mono ?_
  rintro e w3 ⟨⟨hal, rfl⟩ | ⟨hal, ⟨u, pv, rfl⟩⟩, hg3⟩
  · have ho3 := HG2.out.2.1.kept hg3 (by cases (Value.slice av F.length cv).ownBlock <;> simp)
    have HS := Lib.hid (sortR_any w1.heap.size (.slice av F.length cv) F w3 ho3 hlen)
    have HG3 := Lib.hid (And.intro hg3 (And.intro ho3 hal))
    clear hg3 ho3 hal
    go_wp2_with fail
    refine HS.out.mono ?_
    rintro e w4 ⟨rfl, l', hpm, hpw, ho4, hg4⟩
    have hl' : l'.length = F.length := hpm.length_eq
    have hne : some ub ≠ (Value.slice av F.length cv).ownBlock := fun e => by
      have := (HG3.out.2.1.lt ub e.symm).1
      have := HG1.out.2.1.lt
      omega
    have hgw : w1.grownBy w4 none := gb_ownR (gb_trans HG2.out.1 HG3.out.1) HG3.out.2.1 (Nat.le_refl _) hg4
    have hb4 : Blk w4 ub 115 [.slice none 0 0] := HG1.out.2.1.grown hgw (by simp)
    have HG4 := Lib.hid (And.intro (gb_trans HG1.out.1 hgw) (And.intro hb4 (And.intro ho4 (And.intro hpm (And.intro hpw hl')))))
    clear hg4 hne hgw hb4 ho4 hpm hpw
    have hub : ub < w4.heap.size := HG4.out.2.1.lt
    have hBu : B ≤ ub := by have := HG1.out.2.2.1; have := HG1.out.2.2.2; omega
    have hne : some ub ≠ (Value.slice av F.length cv).ownBlock := fun e => by
      have := (HG3.out.2.1.lt ub e.symm).1
      have := HG1.out.2.1.lt
      omega
    have HF := Lib.hid (And.intro hub (And.intro hBu hne)); clear hub hBu hne
    have HR4 : Hid (∀ x ∈ l', RAt w4 B x.1 x.2 ∧ rightB x.2 = true) := fun x hx => by
      have hxF := HG4.out.2.2.2.1.mem_iff.1 hx
      exact ⟨(HG2.out.2.2 x hxF).stay HG4.out.1, ((alike_iff _).1 HG3.out.2.2 x.2 (List.mem_map.2 ⟨x, hxF, rfl⟩)).1⟩
    go_wp2_with fail
    go_loopw [14] (fun i wr => ∃ (k : Nat), k ≤ F.length ∧ i = .int .i64 k ∧ Hid (w4.grownBy wr (some ub) ∧ UniAt wr ub w4.heap.size (uniG dotR (l'.take k)))) (fun i _ => F.length - (intOf i).toNat)
    case atStart => exact ⟨0, by omega, rfl, gb_refl _ _, .slice none 0 0, HG4.out.2.1, World.ownsRow_nil _ _ _ _⟩
    case round =>
      obtain ⟨k, hk, rfl, HI⟩ := hrel
      by_cases hlt : k < F.length
      · have hkl : k < l'.length := by rw [hl']; exact hlt
        have hnx := uniG_next l' k hkl
        obtain ⟨hsub, hul⟩ := uniG_sub l' k (by omega)
        have hxm : l'.getD k e0 ∈ l' := getD_mem hkl
        have ho5 := HG4.out.2.2.1.kept HI.out.1 (Or.inr fun e => HF.out.2.2 e.symm)
        obtain ⟨pb, rfl, hcs⟩ : ∃ pb, av = some ⟨pb, 0, none⟩ ∧ Cells7 wr pb (0 + k * 7) (l'.getD k e0) := by
          rcases ho5.2 with ⟨e, h0⟩ | ⟨g', c', cur, e1, _, hg', _⟩
          · rw [h0] at hkl; omega
          · simp only [Value.slice.injEq] at e1
            obtain ⟨rfl, _, _⟩ := e1
            refine ⟨g', rfl, cells7 fun j u' hu' => ?_⟩
            have hj : j < 7 := by have := (List.getElem?_eq_some_iff.1 hu').1; rwa [recC_len] at this
            rw [← recsC_at l' k hkl j hj] at hu'
            have := ho5.cells (g := g') rfl _ u' hu'
            rw [Addr.add_lit] at this
            rw [Nat.add_assoc]; exact this
        rw [Nat.zero_add] at hcs
        generalize l'.getD k e0 = x at *
        have hgA := gb_alloc (gb_refl wr none) (.cells (recC x).toArray 66)
        have HT := Lib.hid (take_any w4 (wr.alloc (.cells (recC x).toArray 66)) ub B (uniG dotR (l'.take k)) x HF.out.1 HF.out.2.1 (gb_trans HI.out.1 (gb_row hgA _)) (by
            obtain ⟨vu, h1, h2⟩ := HI.out.2
            exact ⟨vu, h1.grown hgA (by simp), h2.kept hgA (by cases vu.ownBlock <;> simp)⟩)
          (HR4.out x hxm).1 (fun y hy => (HR4.out y (hsub y hy)).1) (fun y hy => by
            rcases List.mem_cons.1 hy with rfl | hy
            · exact (HR4.out _ hxm).2
            · exact (HR4.out y (hsub y hy)).2) (by omega))
        rw [← hnx] at HT
        clear hnx hsub hul hxm ho5 hgA
        obtain ⟨⟨s, a1, n1, c1, a2, n2, c2, a3, n3, c3⟩, ⟨key, cl, sq, cx, g, val, sig⟩⟩ := x
        obtain ⟨c0', c1', c2', c3', c4', c5', c6'⟩ := cells_of hcs
        replace HT : Hid (Calls Tryz.prog 130 #[.pointer (some ⟨ub, 0, none⟩), vV s cl sq a1 n1 c1 g a2 n2 c2 a3 n3 c3] (wr.alloc (.cells #[.string s, iV cl, iV sq, .slice a1 n1 c1, .bool g, .slice a2 n2 c2, .slice a3 n3 c3] 66)) (TakeOutR w4 ub (uniG dotR (l'.take (k + 1))))) := HT
        have hi : (k : Int) < (F.length : Int) := by omega
        clear hcs
        go_wp2_with fail
        refine HT.out.mono ?_
        rintro e w6 ⟨rfl, hg6, hU6⟩
        have HX := Lib.hid (And.intro hg6 hU6); clear hg6 hU6
        go_wp2
        exact ⟨⟨k + 1, by omega, rfl, HX.out⟩, by show F.length - ((k : Int) + 1).toNat < F.length - (k : Int).toNat; omega⟩
      · obtain rfl : k = F.length := by omega
        obtain ⟨vu, hbu, hou⟩ := HI.out.2
        have htk : l'.take F.length = l' := List.take_of_length_le (by omega)
        rw [htk] at hou
        have x0 := hbu.cell (i := 0) rfl
        have f0 := hbu.free 0
        have HE : Hid (∀ (w' : World), w' = wr.setCell ⟨ub, 0, none⟩ vu → Q (.returned (.agg #[vu])) w') := by
          intro w' hw'
          rw [HQ.out, hw']
          have hg := gb_set HI.out.1 0 vu
          refine ⟨Or.inl ⟨HG3.out.2.2, vu, l', rfl, HG4.out.2.2.2.1, HG4.out.2.2.2.2.1, ?_⟩, gb_then (gb_trans HG4.out.1 (gb_refl _ none)) hg (by have := HG1.out.2.2.1; omega)⟩
          exact (own_mono hou (by have := HG4.out.1.size; omega)).kept (gb_set (gb_refl wr (some ub)) 0 vu) (Or.inr fun e => by have := (hou.lt _ e).1; have := HF.out.1; omega)
        have HBS := Lib.hid (hbu.set 0 vu)
        have h1c : vu.oneCell' = true := by
          rcases hou.2 with ⟨rfl, _⟩ | ⟨_, _, _, rfl, _⟩ <;> rfl
        obtain ⟨au, cu, rfl⟩ := own_shapeR hou
        clear hlt hbu hou htk
        go_wp2_with fail
        refine bodyPost_ret (v := .agg #[.slice au (uniG dotR l').length cu]) (results_cell_row Tryz.results72 _ _ ub 115 _ (0, 0) _ rfl HBS.out Tryz.underlying115 rfl info_uniS) rfl ?_
        exact HE.out _ rfl
  · exact ⟨rfl, by rw [HQ.out]; exact ⟨Or.inr ⟨hal, ⟨u, pv, rfl⟩⟩, gb_trans (gb_trans HG1.out.1 HG2.out.1) hg3⟩⟩
end Sb
end Go.Proofs.YtlkiancedgaicaaGreat
