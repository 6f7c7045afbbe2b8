/- Where a client stands, or would have to; how many writes are seen of it. -/
import Derived.Test.YtohcoihdijemfaaVeSearch
import Derived.Test.YtohcoihdijemfaaVeMem
import Derived.WalkKit
import Derived.Lib.Hide
import Derived.WalkSpells
import Derived.WalkLawsBesides
import Derived.BigQuiet
import Derived.Deep.QuietTactic
import Derived.Outline
namespace Go.Proofs.Ytohcoihdijemfaa
open Go.RowKit Go.Shelf Go.Sort Ve
namespace Ve
set_option maxHeartbeats 400000 in
theorem closure_any (n cap ba bx pb po i : Nat) (c x : Int) (w : World) (hi : i < n) (ha : w.cell? ⟨ba, 0, none⟩ = some (.slice (some ⟨pb, po, none⟩) n cap)) (hx : w.cell? ⟨bx, 0, none⟩ = some (iV c)) (hc : w.cell? ⟨pb, po + i * 2, none⟩ = some (iV x)) :
    Calls Try.prog 81 (#[.int .i64 i] ++ #[.pointer (some ⟨ba, 0, none⟩), .pointer (some ⟨bx, 0, none⟩)]) w fun e w' => e = .returned (.bool (decide (c ≤ x))) ∧ ∃ q, w' = w.drewN q := by
  have hiz : (i : Int) < (n : Int) := by omega
  go_enter Try.func81, Try.ntmps81
  go_wp2
  go_quiet (fail)
  go_wp2
  go_ret
  exact ⟨rfl, _, rfl⟩
theorem gb_grow (w : World) (q : Nat) (os : Array Obj) : w.grownBy (grow (w.drewN q) os) none :=
  ⟨rfl, rfl, rfl, by simp [grow], fun k hk _ => by
    show ((w.drewN q).heap ++ os)[k]? = _
    rw [Array.getElem?_append_left (by show k < w.heap.size; omega)]
    rfl⟩
set_option maxHeartbeats 400000 in
theorem place_any (B n cap : Nat) (a : Option Addr) (l : List D) (c : Int) (w : World) (hn : l.length = n) (h : DotsAt w B a l) (hr : Rt 0 l) :
    Calls Try.prog 79 #[.slice a n cap, .int .i64 c] w fun e w' => e = .returned (.int .i64 (pl l c : Nat)) ∧ w.grownBy w' none := by
  have hl8 := hr.len (by decide)
  obtain ⟨W0, hW0⟩ : ∃ W0, W0 = (w.alloc (.cells #[.slice a n cap] 78)).alloc (.cells #[.int .i64 c] 3) := ⟨_, rfl⟩
  have hg0 : w.grownBy W0 none := by rw [hW0]; exact gb_alloc (gb_alloc (gb_refl _ _) _) _
  have ca : W0.cell? ⟨w.heap.size, 0, none⟩ = some (.slice a n cap) := by rw [hW0]; exact cell_alloc_sl _ (cell_new_sl w _ _)
  have cx : W0.cell? ⟨w.heap.size + 1, 0, none⟩ = some (.int .i64 c) := by rw [hW0]; have := cell_new_sl (w.alloc (.cells #[.slice a n cap] 78)) (.int .i64 c) 3; rwa [World.size_alloc] at this
  have hS := Any.sort_Search laysSearch 81 #[.pointer (some ⟨w.heap.size, 0, none⟩), .pointer (some ⟨w.heap.size + 1, 0, none⟩)] n (fun i => decide (c ≤ (l.getD i z0).1)) W0
    (enters_of Try.func81 (by kernel_rfl) rfl) (by omega)
    (fun m os i hi => by
      have hg := gb_trans hg0 (gb_grow W0 m os)
      obtain ⟨pb, po, rfl, _, hcs⟩ := (h.stay hg).cells.resolve_left (by omega)
      have k1 := (hcs i (by omega)).1
      refine (closure_any n cap w.heap.size (w.heap.size + 1) pb po i c _ _ hi (by rw [gb_cell (gb_grow W0 m os) (Blk.lt (w := W0) (T := 78) (L := [.slice (some ⟨pb, po, none⟩) n cap]) (by rw [hW0]; exact (Blk.new _ _ _).alloc _)) (by simp)]; exact ca)
        (by rw [gb_cell (gb_grow W0 m os) (by rw [hW0]; simp) (by simp)]; exact cx) k1).mono ?_
      rintro e w' ⟨rfl, q, rfl⟩
      exact ⟨rfl, q, #[], by rw [grow_empty]⟩)
    (fun x y hxy hy hx => by
      rcases Nat.eq_or_lt_of_le hxy with rfl | hlt
      · exact hx
      · have := hr.at_lt x y hlt (by omega)
        simp only [decide_eq_true_eq] at hx ⊢
        omega)
  have hp : (List.range n).countP (fun i => !decide (c ≤ (l.getD i z0).1)) = pl l c := by rw [← hn]; rfl
  rw [hp] at hS
  change Calls Try.prog 80 _ _ _ at hS
  have HG := Lib.hid hg0
  clear ca cx hp h hr hn hg0
  generalize pl l c = r at hS ⊢
  go_enter Try.func79, Try.ntmps79
  go_wp2_with (go_at_call 80; rw [← hW0]; refine hS.mono ?_; rintro e w' ⟨rfl, q, os, rfl⟩)
  go_ret
  exact ⟨rfl, by rw [← hW0]; exact gb_trans HG.out (gb_grow W0 q os)⟩
set_option maxHeartbeats 400000 in
theorem seen_any (B n cap : Nat) (a : Option Addr) (l : List D) (c : Int) (w : World) (hn : l.length = n) (h : DotsAt w B a l) (hr : Rt 0 l) :
    Calls Try.prog 78 #[.slice a n cap, .int .i64 c] w fun e w' => e = .returned (.int .i64 (up l c)) ∧ w.grownBy w' none := by
  obtain ⟨p1, p2, p3⟩ := pl_is hr c
  have hu := up_pl (pl l c) hr p2 (fun hk => p3 _ (Nat.le_refl _) hk)
  have hP := place_any B n cap a l c w hn h hr
  generalize pl l c = k at p1 p2 p3 hu hP
  have H := Lib.hid h; clear h
  have HN := Lib.hid hn
  rw [hn] at p1
  clear p2 p3
  by_cases hk : k = n
  · subst hk
    rw [if_neg (by omega)] at hu
    have HU := Lib.hid hu; clear hu hn
    go_enter Try.func78, Try.ntmps78
    go_wp2_with fail
    refine hP.mono ?_
    rintro e w' ⟨rfl, hg⟩
    have HG := Lib.hid hg; clear hg hP
    go_wp2
    go_ret
    exact ⟨by rw [HU.out]; rfl, HG.out⟩
  · have hlt : k < n := by omega
    have hk2 : (k : Int) < (n : Int) := by omega
    have hk3 : ¬ (k : Int) = (n : Int) := by omega
    obtain ⟨x, y, hxy⟩ : ∃ x y, l.getD k z0 = (x, y) := ⟨_, _, rfl⟩
    rw [hn, hxy] at hu
    simp only at hu
    have HX := Lib.hid hxy; clear hxy hn
    by_cases hx : x = c
    · subst hx
      rw [if_pos ⟨hlt, rfl⟩] at hu
      have HU := Lib.hid hu; clear hu
      go_enter Try.func78, Try.ntmps78
      go_wp2_with fail
      refine hP.mono ?_
      rintro e w' ⟨rfl, hg⟩
      obtain ⟨pb, po, rfl, _, hcs⟩ := (H.out.stay hg).cells.resolve_left (by rw [HN.out]; omega)
      obtain ⟨k1, k2⟩ := hcs k (by rw [HN.out]; exact hlt)
      rw [HX.out] at k1 k2
      simp only at k1 k2
      have HG := Lib.hid hg; clear hg hP hcs
      go_wp2
      go_ret
      exact ⟨by rw [HU.out]; rfl, HG.out⟩
    · rw [if_neg (fun h => hx h.2)] at hu
      have HU := Lib.hid hu; clear hu
      have hxb : (x != c) = true := by simpa using hx
      go_enter Try.func78, Try.ntmps78
      go_wp2_with fail
      refine hP.mono ?_
      rintro e w' ⟨rfl, hg⟩
      obtain ⟨pb, po, rfl, _, hcs⟩ := (H.out.stay hg).cells.resolve_left (by rw [HN.out]; omega)
      obtain ⟨k1, k2⟩ := hcs k (by rw [HN.out]; exact hlt)
      rw [HX.out] at k1 k2
      simp only at k1 k2
      have HG := Lib.hid hg; clear hg hP hcs
      go_wp2
      go_ret
      exact ⟨by rw [HU.out]; rfl, HG.out⟩
end Ve
end Go.Proofs.Ytohcoihdijemfaa
