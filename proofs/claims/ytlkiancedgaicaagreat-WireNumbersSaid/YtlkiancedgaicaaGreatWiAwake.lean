/- wire's laws: the chapter's examples. -/
import Derived.Test.YtlkiancedgaicaaGreatWiCalls
import Derived.Test.YtlkiancedgaicaaGreatWiDone
import Derived.Test.YtlkiancedgaicaaGreatSame
import Derived.Lib.SlBytesConst
import Derived.Laws.IdiomStrings
namespace Go.Proofs.YtlkiancedgaicaaGreat
open Go.RowKit Ow Wi

/-- bytes that were just laid -/
theorem wnew_bytes (w : World) (l : List Nat) (n : Nat) (hn : l.length = n) (hm : n < 9223372036854775808) (hb : ∀ i, l.getD i 0 < 256) : BytesAt (w.alloc (.cells (l.map u8N).toArray 5)) (w.heap.size + 1) (some ⟨w.heap.size, 0, none⟩) n l :=
  blk_bytes (tl := []) (by rw [List.append_nil]; exact Blk.new w (l.map u8N) 5) hn (Nat.le_refl _) hm hb (Nat.lt_succ_self _) (by simp)
theorem lt_all (l : List Nat) (h : ∀ x ∈ l, x < 256) (i : Nat) : l.getD i 0 < 256 := by
  rw [List.getD_eq_getElem?_getD]
  cases h' : l[i]? with
  | none => decide
  | some x => exact h x (List.mem_of_getElem? h')
theorem sameBytes_eq (B1 B2 n m c1 c2 : Nat) (a1 a2 : Option Addr) (p q : List Nat) (w : World) (b : Bool) (hb : decide (p = q) = b) (hn : p.length = n) (hm : q.length = m) (h1 : BytesAt w B1 a1 c1 p) (h2 : BytesAt w B2 a2 c2 q) :
    Calls Tryz.prog 15 #[.slice a1 n c1, .slice a2 m c2] w fun e w' => e = .returned (.bool b) ∧ w.grownBy w' none := by
  subst hb
  exact sameBytes_any B1 B2 n m c1 c2 a1 a2 p q w hn hm h1 h2
/-- .. in a block that bears a mark -/
theorem wmark_bytes (w : World) (l : List Nat) (f : Nat × Nat) (n : Nat) (hn : l.length = n) (hm : n < 9223372036854775808) (hb : ∀ i, l.getD i 0 < 256) :
    BytesAt (w.alloc (.cells (l.map u8N).toArray 5 f)) (w.heap.size + 1) (some ⟨w.heap.size, 0, none⟩) n l :=
  ⟨by simp, by omega, hm, hb, Or.inr ⟨w.heap.size, 0, rfl, by omega, fun i hi => by
    have h : (w.alloc (.cells (l.map u8N).toArray 5 f)).heap[w.heap.size]? = some (.cells (l.map u8N).toArray 5 f) := heap_alloc_new _ _
    rw [Nat.zero_add]
    unfold World.cell?
    rw [h]
    simp [List.getElem?_eq_getElem hi]⟩⟩
/-- what the example's reader has -/
def exL : List Nat := [0, 0, 0, 0, 0, 0, 0, 1, 97, 0, 0, 0, 0, 0, 0, 0, 7]
def exR : List Nat := [0, 0, 0, 0, 0, 0, 0, 7]
theorem ex_join : ([(encN ((1 : Nat) : Int) ++ [97]), encN 7] : List (List Nat)).flatten = exL := by decide +kernel
theorem ex_bytes : bytesS 1 (some exL) = ([97], some exR) := by decide +kernel
theorem ex_num : numS (some exR) = (7, some []) := by decide +kernel
theorem ex_byte : byteS (some []) = (0, none) := by decide +kernel
theorem ex_toI : toI 7 = 7 := by decide +kernel

set_option maxRecDepth 100000 in
set_option maxHeartbeats 4000000 in
theorem wawake_any (w : World) : Calls Tryz.prog 11 #[] w fun e w' => e = .returned (.bool true) ∧ w.grownBy w' none := by
  have HN := Lib.hid (fun (n : Int) (w : World) => numF_any n w)
  go_enter Tryz.func11, Tryz.ntmps11
  go_wp2_with fail
  refine (HN.out 258 _).mono ?_
  rintro e w1 ⟨g1, rfl, hg, _, hb⟩
  have H1 := Lib.hid (And.intro hg hb); clear hg hb
  go_wp2_with fail
  have hz := wnew_bytes w1 [0, 0, 0, 0, 0, 0, 1, 2] 8 rfl (by decide) (lt_all _ (by decide))
  have hgz := gb_alloc (gb_refl w1 none) (.cells (([0, 0, 0, 0, 0, 0, 1, 2] : List Nat).map u8N).toArray 5)
  refine (sameBytes_eq _ _ 8 8 8 8 _ _ (encN 258) _ _ true (by decide +kernel) (encN_length _) rfl ((numF_bytes H1.out.2).stay hgz) hz).mono ?_
  rintro e w2 ⟨rfl, hg⟩
  have H2 := Lib.hid (gb_trans H1.out.1 (gb_trans hgz hg)); clear hg hgz hz H1
  go_wp2_with fail
  refine (HN.out (-1) _).mono ?_
  rintro e w3 ⟨g3, rfl, hg, _, hb⟩
  have k0 : w3.cell? ⟨g3, 0, none⟩ = some (.int .u8 255) := hb.cell (by kernel_rfl)
  have H3 := Lib.hid (gb_trans H2.out hg); clear hg hb H2
  have hcv := fun (w : World) (C : Array Value) (n c : Nat) => Lib.run_convert_bytes_const (P := Tryz.prog) w 23 5 C n c Tryz.underlying23 Tryz.underlying5
  go_wp2_with fail
  have hz := wmark_bytes w3 [97, 98] (2, 3) 2 rfl (by decide) (lt_all _ (by decide))
  have hgz := gb_alloc H3.out (.cells (([97, 98] : List Nat).map u8N).toArray 5 (2, 3))
  refine (bytesF_any 2 2 _ _ [97, 98] _ rfl (by decide) hz).mono ?_
  rintro e w4 ⟨v4, rfl, hg, ho⟩
  obtain ⟨a4, c4, rfl, _, hB, _⟩ := own_slice ho (lt_all _ (by decide +kernel))
  have H4 := Lib.hid (And.intro (gb_trans hgz hg) hB); clear hgz hg ho hB hz H3
  go_wp2_with fail
  have hz := wnew_bytes w4 [0, 0, 0, 0, 0, 0, 0, 2, 97, 98] 10 rfl (by decide) (lt_all _ (by decide))
  have hgz := gb_alloc (gb_refl w4 none) (.cells (([0, 0, 0, 0, 0, 0, 0, 2, 97, 98] : List Nat).map u8N).toArray 5)
  refine (sameBytes_eq _ _ 10 10 _ 10 _ _ (encN ((2 : Nat) : Int) ++ [97, 98]) _ _ true (by decide +kernel) (by decide +kernel) rfl (H4.out.2.stay hgz) hz).mono ?_
  rintro e w5 ⟨rfl, hg⟩
  have H5 := Lib.hid (gb_trans H4.out.1 (gb_trans hgz hg)); clear hg hgz hz H4
  go_wp2_with fail
  have hz := wmark_bytes w5 [97] (1, 2) 1 rfl (by decide) (lt_all _ (by decide))
  have hgz := gb_alloc H5.out (.cells (([97] : List Nat).map u8N).toArray 5 (1, 2))
  refine (bytesF_any 1 1 _ _ [97] _ rfl (by decide) hz).mono ?_
  rintro e w6 ⟨v6, rfl, hg, ho⟩
  obtain ⟨a6, c6, rfl, _, hB, _⟩ := own_slice ho (lt_all _ (by decide +kernel))
  have H6 := Lib.hid (And.intro (gb_trans hgz hg) hB); clear hgz hg ho hB hz H5
  go_wp2_with fail
  refine (HN.out 7 _).mono ?_
  rintro e w7 ⟨g7, rfl, hg, _, hb⟩
  have H7 := Lib.hid (And.intro (gb_trans H6.out.1 hg) (And.intro (H6.out.2.stay hg).full hb)); clear hg hb H6
  go_wp2_with fail
  refine (join_any 2 2 _ [(encN ((1 : Nat) : Int) ++ [97]), encN 7] _ _ rfl (rows2 (by decide +kernel) (encN_length _) H7.out.2.1 (numF_bytes H7.out.2.2)) (by decide) (by rw [ex_join]; decide)).mono ?_
  rintro e w8 ⟨v8, rfl, hg, ho⟩
  rw [ex_join] at ho
  obtain ⟨a8, c8, rfl, _, hB, _⟩ := own_slice ho (lt_all _ (by decide +kernel))
  have H8 := Lib.hid (And.intro (gb_trans (gb_alloc H7.out.1 _) hg) hB); clear hg ho hB H7
  go_wp2_with fail
  refine (new_any 17 c8 _ a8 exL _ rfl (by decide) H8.out.2).mono ?_
  rintro e w9 ⟨rb, rfl, hg, hrb, hr⟩
  have hrb2 : w.heap.size ≤ rb := Nat.le_trans H8.out.1.size hrb
  have H9 := Lib.hid (And.intro (gb_trans H8.out.1 hg) (And.intro hrb2 hr)); clear hg hr hrb hrb2 H8
  go_wp2_with fail
  refine (rbytes_any rb 1 _ _ H9.out.2.2 (fun l e => by cases e; decide)).mono ?_
  rintro e w10 ⟨va, rfl, hg, hr, ho⟩
  rw [ex_bytes] at hr ho
  obtain ⟨a, c, rfl, _, hB, hbs⟩ := own_slice (l := [97]) ho (lt_all _ (by decide))
  obtain ⟨pb, po, rfl, hpb, hca⟩ := hB.cells.resolve_left (by decide)
  have ka : w10.cell? ⟨pb, po, none⟩ = some (.int .u8 97) := hca 0 (by decide)
  have hne : pb ≠ rb := by
    have h1 := (hbs pb po rfl).1
    obtain ⟨_, _, _, h2, _⟩ := H9.out.2.2
    have := h2.lt
    omega
  have H10 := Lib.hid (And.intro (gb_then H9.out.1 hg H9.out.2.1) (And.intro hr (And.intro H9.out.2.1 (And.intro ka (And.intro hpb hne))))); clear hg hr ho hB hca ka hpb hne hbs H9
  go_wp2_with fail
  refine (number_any rb _ w10 H10.out.2.1).mono ?_
  rintro e w11 ⟨rfl, hg, hr⟩
  rw [ex_num] at hr ⊢
  rw [ex_toI]
  have ka : w11.cell? ⟨pb, po, none⟩ = some (.int .u8 97) := by
    rw [gb_cell hg (p := ⟨pb, po, none⟩) H10.out.2.2.2.2.1 (by have := H10.out.2.2.2.2.2; simpa using this)]
    exact H10.out.2.2.2.1
  have hcs := Lib.hid (run_convert_bytes_back (P := Tryz.prog) w11 23 9 5 ⟨pb, po, none⟩ c [97] Tryz.underlying23 Tryz.underlying5 Tryz.underlying9 (fun j hj => by
    have hj2 : j < 1 := hj
    obtain rfl : j = 0 := by omega
    exact ka))
  have H11 := Lib.hid (And.intro (gb_then H10.out.1 hg H10.out.2.2.1) (And.intro hr H10.out.2.2.1)); clear hg hr ka H10
  go_wp2_with fail
  refine (done_any rb _ w11 H11.out.2.1).mono ?_
  rintro e w' ⟨rfl, rfl⟩
  have hcs2 : (convert 23 9 (.slice (some ⟨pb, po, none⟩) 1 c)).run Tryz.prog w' = .ok (.string ⟨#[97]⟩) w' := hcs.out
  rw [show decide ((some [] : St) = some []) = true by decide]
  go_wp2_with fail
  refine (byte_any rb _ w' H11.out.2.1).mono ?_
  rintro e w12 ⟨rfl, hg, hr⟩
  rw [ex_byte] at hr ⊢
  have H12 := Lib.hid (And.intro (gb_then H11.out.1 hg H11.out.2.2) hr); clear hg hr hcs hcs2 H11
  go_wp2_with fail
  refine (wgood_any rb _ w12 H12.out.2).mono ?_
  rintro e w' ⟨rfl, rfl⟩
  rw [show (none : St).isSome = false by rfl]
  go_wp2_with fail
  refine (done_any rb _ w' H12.out.2).mono ?_
  rintro e w' ⟨rfl, rfl⟩
  rw [show decide ((none : St) = some []) = false by decide]
  go_wp2
  go_ret
  exact ⟨rfl, H12.out.1⟩
end Go.Proofs.YtlkiancedgaicaaGreat
