/- A vector joined to the union of others. -/
import Derived.Test.YtkffbaihknhefaaGreatVeInsert
import Derived.Test.YtkffbaihknhefaaGreatVePlace
import Derived.Deep.RegionHeld3
import Derived.Deep.RegionLawGrows
namespace Go.Proofs.YtkffbaihknhefaaGreat
open Go.RowKit Ve
namespace Ve
/-- a union in block u: its row lies in memory behind it -/
def UAt (w : World) (u : Nat) (l : List D) : Prop := ∃ v, Blk w u 41 [v] ∧ OwnD w (u + 1) v l
theorem own_set {w : World} {base : Nat} {g n c k : Nat} {l : List D} (s : Int) (h : OwnD w base (.slice (some ⟨g, 0, none⟩) n c) l) (hk : k < l.length) :
    OwnD (w.setCell ⟨g, k * 2 + 1, none⟩ (iV s)) base (.slice (some ⟨g, 0, none⟩) n c) (l.set k ((l.getD k z0).1, s)) := by
  obtain ⟨h1, h2⟩ := h
  obtain ⟨g', c', cur, e1, hb, hg, hnc, hcm, hcs, htake⟩ := h2.resolve_left (fun h => by cases h.1)
  simp only [Value.slice.injEq, Option.some.injEq, Addr.mk.injEq, and_true] at e1
  obtain ⟨rfl, rfl, rfl⟩ := e1
  obtain ⟨L, rfl⟩ : ∃ L : List Value, cur = L.toArray := ⟨cur.toList, by simp⟩
  have hB : Blk w g 25 L := hg
  simp only [List.size_toArray] at hcs htake
  have hB2 := hB.set (k * 2 + 1) (iV s)
  refine ⟨by rw [dotsC_len], Or.inr ⟨g, c, (L.set (k * 2 + 1) (iV s)).toArray, by rw [List.length_set], hb, hB2, by rw [List.length_set]; exact hnc, hcm, by simp [hcs], ?_⟩⟩
  show List.take _ (L.set (k * 2 + 1) (iV s)) = _
  rw [List.length_set, List.take_set, htake]
  apply List.ext_getElem?
  intro j
  have hl2 := dotsC_len l
  rw [List.getElem?_set, hl2]
  by_cases hj : j < l.length * 2
  · obtain ⟨i, hi⟩ : ∃ i, j = i * 2 ∨ j = i * 2 + 1 := ⟨j / 2, by omega⟩
    have hil : i < l.length := by omega
    obtain ⟨a1, a2⟩ := dotsC_at l i hil
    obtain ⟨b1, b2⟩ := dotsC_at (l.set k ((l.getD k z0).1, s)) i (by rw [List.length_set]; exact hil)
    have hgd : (l.set k ((l.getD k z0).1, s)).getD i z0 = if k = i then ((l.getD k z0).1, s) else l.getD i z0 := by
      rw [List.getD_eq_getElem?_getD, List.getElem?_set]
      by_cases hki : k = i
      · subst hki; simp [hil]
      · simp [hki, List.getD_eq_getElem?_getD]
    rw [hgd] at b1 b2
    rcases hi with rfl | rfl
    · rw [if_neg (by omega), a1, b1]
      by_cases hki : k = i
      · subst hki; simp
      · simp [hki]
    · by_cases hki : k = i
      · subst hki; rw [if_pos rfl, if_pos (by omega), b2]; simp
      · rw [if_neg (by omega), a2, b2]; simp [hki]
  · rw [List.getElem?_eq_none (l := dotsC (l.set k _)) (by rw [dotsC_len, List.length_set]; omega), List.getElem?_eq_none (l := dotsC l) (by rw [hl2]; omega)]
    split <;> simp; omega
abbrev TS (W1 : World) (NB ub : Nat) (x y : Int) (r : Value) (w' : World) : Prop := W1.grownBy w' none ∧ w'.cell? ⟨ub, 0, none⟩ = some r ∧ w'.cell? ⟨NB, 0, none⟩ = some (iV x) ∧ w'.cell? ⟨NB, 1, none⟩ = some (iV y)
theorem ts_keep {W1 w1 w2 : World} {NB ub : Nat} {x y : Int} {r : Value} (hg : w1.grownBy w2 none) (h : TS W1 NB ub x y r w1) : TS W1 NB ub x y r w2 :=
  ⟨gb_trans h.1 hg, by rw [gb_cell hg (block_lt_of_cell h.2.1) (by simp)]; exact h.2.1, by rw [gb_cell hg (block_lt_of_cell h.2.2.1) (by simp)]; exact h.2.2.1, by rw [gb_cell hg (block_lt_of_cell h.2.2.2) (by simp)]; exact h.2.2.2⟩
theorem ts_drew {W1 w1 : World} {NB ub : Nat} {x y : Int} {r : Value} (h : TS W1 NB ub x y r w1) : TS W1 NB ub x y r w1.drew := ts_keep (gb_drew (gb_refl _ _)) h
def TakeOut (w0 : World) (ub : Nat) (f : Int → Int) (e : Ending) (w' : World) : Prop := e = .returned (.tuple #[]) ∧ ∃ l, UAt w' ub l ∧ Rt 0 l ∧ (∀ c, up l c = f c) ∧ w0.grownBy w' none
theorem uat_set {w5 : World} {ub : Nat} {l2 : List D} {a5 : Option Addr} {c5 : Nat} {r : Value} (ho : OwnD w5 (ub + 1) (.slice a5 l2.length c5) l2) (hb : Blk w5 ub 41 [r]) : UAt (w5.setCell ⟨ub, 0, none⟩ (.slice a5 l2.length c5)) ub l2 :=
  ⟨_, hb.set 0 _, ho.kept (gb_set (gb_refl w5 (some ub)) 0 _) (by
    right
    intro e
    have := (ho.lt _ e).1
    omega)⟩
theorem gb_ownD {w0 w w' : World} {ub : Nat} {v : Value} {l : List D} {w1 : World} (h : w0.grownBy w none) (ho : OwnD w1 (ub + 1) v l) (hub : w0.heap.size ≤ ub) (hg : w.grownBy w' v.ownBlock) : w0.grownBy w' none :=
  ⟨hg.os.trans h.os, hg.tape.trans h.tape, hg.output.trans h.output, Nat.le_trans h.size hg.size, fun k hk _ => (hg.block k (Nat.lt_of_lt_of_le hk h.size) (fun e => by have := (ho.lt k e.symm).1; omega)).trans (h.block k hk (by simp))⟩
theorem ins_math {l r : List D} {x y : Int} {p : Nat} {F : Int → Int} (hl : Rt 0 l) (hr : Rt 0 ((x, y) :: r)) (hp : p ≤ l.length ∧ (∀ i, i < p → (l.getD i z0).1 < x) ∧ ∀ i, p ≤ i → i < l.length → x ≤ (l.getD i z0).1)
    (hu : (0 : Int) = if p < l.length ∧ (l.getD p z0).1 = x then (l.getD p z0).2 else 0) (hup : up l x = 0) (hF : ∀ c, max (up l c) (um ((x, y) :: r) c) = F c) :
    Rt 0 (nx l p (x, y)) ∧ ∀ c, max (up (nx l p (x, y)) c) (um r c) = F c := by
  have h1 := hr.1
  have h2 := hr.2.1
  have h3 := hr.2.2.1
  have h4 := hr.2.2.2.1
  simp only at h1 h2 h3 h4
  obtain ⟨i1, i2⟩ := nx_right (d := (x, y)) p hl hp.1 h1 h2 h3 h4 hp.2.1 (fun hk => by
    have := hp.2.2 p (Nat.le_refl _) hk
    rcases Int.lt_or_eq_of_le this with h | h
    · exact h
    · exfalso
      rw [if_pos ⟨hk, h.symm⟩] at hu
      have hm : l.getD p z0 ∈ l := by
        rw [List.getD_eq_getElem?_getD, List.getElem?_eq_getElem hk]; exact List.getElem_mem _
      have := (hl.mem _ hm).2.2.1
      omega)
  refine ⟨i1, fun c => ?_⟩
  have := hF c
  have hn := um_nn r c
  rw [i2, ← this, um]
  by_cases hc : x = c
  · subst hc; simp only [if_true]; rw [hup]; omega
  · rw [if_neg hc, if_neg hc]
theorem set_math {l r : List D} {x y u : Int} {p : Nat} {F : Int → Int} (hl : Rt 0 l) (hr : Rt 0 ((x, y) :: r)) (hu : u = if p < l.length ∧ (l.getD p z0).1 = x then (l.getD p z0).2 else 0) (hup : up l x = u) (hu0 : ¬ u = 0) (hF : ∀ c, max (up l c) (um ((x, y) :: r) c) = F c) :
    p < l.length ∧ l.getD p z0 = (x, u) ∧ Rt 0 (l.set p ((l.getD p z0).1, max u y)) ∧ ∀ c, max (up (l.set p ((l.getD p z0).1, max u y)) c) (um r c) = F c := by
  have h3 := hr.2.2.1
  have h4 := hr.2.2.2.1
  simp only at h3 h4
  by_cases hpx : p < l.length ∧ (l.getD p z0).1 = x
  · rw [if_pos hpx] at hu
    have hb := up_bd (c := x) hl
    rw [hup] at hb
    obtain ⟨i1, i2⟩ := st_right p (max u y) hl hpx.1 (by omega) (by omega)
    refine ⟨hpx.1, ?_, i1, fun c => ?_⟩
    · rw [← hpx.2, hu]
    · have := hF c
      have hn := um_nn r c
      rw [i2, ← this, um, hpx.2]
      by_cases hc : x = c
      · subst hc; simp only [if_true]; rw [hup]; omega
      · rw [if_neg hc, if_neg hc]
  · rw [if_neg hpx] at hu; exact absurd hu hu0
set_option maxHeartbeats 1000000 in
theorem take_any (w0 w : World) (ub B n cap : Nat) (a : Option Addr) (d l : List D) (hub : w0.heap.size ≤ ub) (hg : w0.grownBy w none) (hU : UAt w ub l) (hn : d.length = n) (hd : DotsAt w0 B a d) (hrl : Rt 0 l) (hrd : Rt 0 d) :
    Calls Tryz.prog 22 #[.pointer (some ⟨ub, 0, none⟩), .slice a n cap] w (TakeOut w0 ub (fun c => max (up l c) (um d c))) := by
  have hd8 := hrd.len (by decide)
  have HD := Lib.hid hd; clear hd
  have HN := Lib.hid hn; clear hn
  obtain ⟨F, hF⟩ : ∃ F, F = (fun c => max (up l c) (um d c)) := ⟨_, rfl⟩
  have HI0 : Hid (∃ l', UAt w ub l' ∧ Rt 0 l' ∧ (∀ c, max (up l' c) (um (d.drop 0) c) = F c) ∧ w0.grownBy w none) := ⟨l, hU, hrl, fun c => by rw [hF]; rfl, hg⟩
  rw [← hF]
  clear hU hrl hg hF
  have hn8 : n ≤ 8 := by rw [← HN.out]; omega
  clear hd8
  go_enter Tryz.func22, Tryz.ntmps22
  go_wp2
  go_loopw [9] (fun i wr => ∃ (k : Nat), k ≤ n ∧ i = .int .i64 k ∧ Hid (∃ l', UAt wr ub l' ∧ Rt 0 l' ∧ (∀ c, max (up l' c) (um (d.drop k) c) = F c) ∧ w0.grownBy wr none)) (fun i _ => n - (intOf i).toNat)
  case atStart => exact ⟨0, by omega, rfl, HI0.out⟩
  case round =>
    obtain ⟨k, hk, rfl, HI⟩ := hrel
    by_cases hlt : k < n
    · obtain ⟨l', hU, hrl, hF, hg⟩ := HI.out
      clear HI HI0
      obtain ⟨pb, po, rfl, hpb, hcs⟩ := (HD.out.stay hg).cells.resolve_left (by rw [HN.out]; omega)
      obtain ⟨k1, k2⟩ := hcs k (by rw [HN.out]; exact hlt)
      clear hcs
      have hdd := drop_at d k (by rw [HN.out]; exact hlt)
      obtain ⟨x, y, hxy⟩ : ∃ x y, d.getD k z0 = (x, y) := ⟨_, _, rfl⟩
      rw [hxy] at k1 k2 hdd
      simp only at k1 k2
      have hm := hrd.drop k
      rw [hdd] at hm
      have hi : (k : Int) < (n : Int) := by omega
      have HF := Lib.hid (And.intro hF (And.intro hdd hm)); clear hF hdd hm hxy
      obtain ⟨v, hbu, hown⟩ := hU
      obtain ⟨a', c', rfl, hl', hnc', hda⟩ := own_dots hown
      obtain ⟨W1, hW1⟩ : ∃ W1, W1 = (wr.alloc (.cells #[iV x, iV y] 25)) := ⟨_, rfl⟩
      have hg1 : wr.grownBy W1 none := by rw [hW1]; exact gb_alloc (gb_refl _ _) _
      have hB : Blk W1 wr.heap.size 25 [iV x, iV y] := by rw [hW1]; exact Blk.new wr _ _
      obtain ⟨NB, hNB⟩ : ∃ NB, NB = wr.heap.size := ⟨_, rfl⟩
      rw [← hNB] at hB
      have hubN : ub < NB := by rw [hNB]; exact hbu.lt
      have hu1 : Blk W1 ub 41 [.slice a' l'.length c'] := hbu.grown hg1 (by simp)
      have ho1 : OwnD W1 (ub + 1) (.slice a' l'.length c') l' := hown.kept hg1 (by cases (Value.slice a' l'.length c').ownBlock <;> simp)
      have hP := Lib.hid (fun w' (hg' : W1.grownBy w' none) => place_any wr.heap.size l'.length c' a' l' x w' rfl (hda.stay (gb_trans hg1 hg')) hrl)
      have hS := Lib.hid (fun w' (hg' : W1.grownBy w' none) => seen_any wr.heap.size l'.length c' a' l' x w' rfl (hda.stay (gb_trans hg1 hg')) hrl)
      have HW := Lib.hid (And.intro hu1 (And.intro ho1 (And.intro hB (gb_trans hg hg1))))
      have HP3 := Lib.hid (pl_is hrl x)
      have HU3 := Lib.hid (up_pl (pl l' x) hrl (pl_is hrl x).2.1 (fun hk => (pl_is hrl x).2.2 _ (Nat.le_refl _) hk))
      have HL := Lib.hid hrl
      have hS1 : TS W1 NB ub x y (.slice a' l'.length c') W1 := ⟨gb_refl _ _, hu1.cell (i := 0) rfl, hB.cell (i := 0) rfl, hB.cell (i := 1) rfl⟩
      generalize pl l' x = p at hP HP3 HU3
      generalize hup : up l' x = u at hS HU3
      have HUP := Lib.hid hup
      clear hup hown hbu hda hnc' hl' hg1 hu1 ho1 hB hg hrl hpb
      go_wp2_with fail
      rw [← hW1, ← hNB]
      clear hW1 k1 k2 hNB
      have hS2 := ts_drew hS1
      have HS1 := Lib.hid hS1; clear hS1
      go_region_held3 (fun w' => W1.grownBy w' none ∧ w'.cell? ⟨ub, 0, none⟩ = some (.slice a' l'.length c') ∧ w'.cell? ⟨NB, 0, none⟩ = some (iV x) ∧ w'.cell? ⟨NB, 1, none⟩ = some (iV y))
        (first | (with_reducible exact hS2) | (with_reducible exact ts_keep (by assumption) (by assumption)))
        (first | (go_simp; go_at_call 30; refine (hP.out _ ?_).mono ?_; exact And.left (by assumption); rintro e w3 ⟨rfl, hg3⟩))
      by_cases hu0 : u = 0
      · subst hu0
        go_wp2_with fail
        go_region_held3 (fun w' => W1.grownBy w' none ∧ w'.cell? ⟨ub, 0, none⟩ = some (.slice a' l'.length c') ∧ w'.cell? ⟨NB, 0, none⟩ = some (iV x) ∧ w'.cell? ⟨NB, 1, none⟩ = some (iV y))
          (first | (with_reducible exact ts_drew (by assumption)) | (with_reducible exact ts_keep (by assumption) (by assumption)))
          (first | (go_simp; go_at_call 31; refine (hS.out _ ?_).mono ?_; exact And.left (by assumption); rintro e w4 ⟨rfl, hg4⟩))
        go_wp2_with fail
        have hH : TS W1 NB ub x y (.slice a' l'.length c') w4 := by assumption
        have hgA : W1.grownBy (w4.drew.alloc (.cells #[iV x, iV y] 25)) none := gb_alloc (gb_drew hH.1) _
        have hvA : Blk (w4.drew.alloc (.cells #[iV x, iV y] 25)) w4.heap.size 25 [iV x, iV y] := Blk.new w4.drew [iV x, iV y] _
        have hlb : ∀ r, some r = (Value.slice a' l'.length c').ownBlock → ub + 1 ≤ r ∧ r < W1.heap.size := fun r hr => HW.out.2.1.lt r hr.symm
        have hw4 : W1.heap.size ≤ w4.heap.size := hH.1.size
        have hINS := insert_any (ub + 1) w4.heap.size p (.slice a' l'.length c') l' x y _ (by have := HL.out.len (by decide); omega) HP3.out.1 (HW.out.2.1.kept hgA (by cases (Value.slice a' l'.length c').ownBlock <;> simp)) (by have := hgA.size; have := HW.out.1.lt; omega) hvA (fun e => by have := (hlb _ e.symm).2; omega)
        have hbu4 := (HW.out.1.grown hgA (by simp))
        have HPOST := Lib.hid (fun (v5 : Value) (w5 : World) (ho5 : OwnD w5 (ub + 1) v5 (nx l' p (x, y))) (hg5 : (w4.drew.alloc (.cells #[iV x, iV y] 25)).grownBy w5 (Value.slice a' l'.length c').ownBlock) => hbu4.grown hg5 (fun e => by have := (hlb _ e).1; omega))
        have HR := Lib.hid (And.intro hgA hlb)
        have m1 := hH.2.1
        have m2 := hH.2.2.1
        have m3 := hH.2.2.2
        have d1 : ub ≠ w4.heap.size := by have := HW.out.1.lt; omega
        have d2 : NB ≠ w4.heap.size := by have := HW.out.2.2.1.lt; omega
        have m1' : (w4.drew.alloc (.cells #[iV x, iV y] 25)).cell? ⟨ub, 0, none⟩ = some (.slice a' l'.length c') := hbu4.cell (i := 0) rfl
        have m1'' : (w4.alloc (.cells #[iV x, iV y] 25)).cell? ⟨ub, 0, none⟩ = some (.slice a' l'.length c') := m1'
        have HI := Lib.hid hINS
        clear hgA hvA hlb hINS hbu4 hS2 hw4 hH
        go_region_with (go_at_call 32; refine HI.out.mono ?_; rintro e w5 ⟨v5, rfl, ho5, hg5⟩; obtain ⟨a5, c5, rfl, _, _, _⟩ := own_dots ho5; have hb5 := HPOST.out _ w5 ho5 hg5; have m5 := hb5.cell (i := 0) rfl; have f5 := hb5.free 0; have H5 := Lib.hid (And.intro ho5 (And.intro hg5 hb5)); clear ho5 hg5 hb5 m1 m1' m1'' m2 m3)
        all_goals
          have HNEXT : Hid (∃ l2, UAt (w5.setCell ⟨ub, 0, none⟩ (.slice a5 (nx l' p (x, y)).length c5)) ub l2 ∧ Rt 0 l2 ∧ (∀ c, max (up l2 c) (um (d.drop (k + 1)) c) = F c) ∧ w0.grownBy (w5.setCell ⟨ub, 0, none⟩ (.slice a5 (nx l' p (x, y)).length c5)) none) := by
            obtain ⟨i1, i2⟩ := ins_math (F := F) HL.out HF.out.2.2 HP3.out HU3.out HUP.out (fun c => by rw [← HF.out.1 c, HF.out.2.1])
            exact ⟨_, uat_set H5.out.1 H5.out.2.2, i1, i2, gb_set_new (gb_ownD (gb_trans HW.out.2.2.2 HR.out.1) HW.out.2.1 hub H5.out.2.1) hub _⟩
          clear m5 f5
          go_wp2
          go_roundw
          case rel => exact ⟨k + 1, by omega, by go_num, HNEXT⟩
          case measure => simp [intOf]; omega
      · have hub0 : (u == 0) = false := by simpa using hu0
        go_wp2_with fail
        go_region_held3 (fun w' => W1.grownBy w' none ∧ w'.cell? ⟨ub, 0, none⟩ = some (.slice a' l'.length c') ∧ w'.cell? ⟨NB, 0, none⟩ = some (iV x) ∧ w'.cell? ⟨NB, 1, none⟩ = some (iV y))
          (first | (with_reducible exact ts_drew (by assumption)) | (with_reducible exact ts_keep (by assumption) (by assumption)))
          (first | (go_simp; go_at_call 31; refine (hS.out _ ?_).mono ?_; exact And.left (by assumption); rintro e w4 ⟨rfl, hg4⟩))
        go_wp2_with fail
        have hH : TS W1 NB ub x y (.slice a' l'.length c') w4 := by assumption
        obtain ⟨hpl, hpd, i1, i2⟩ := set_math (F := F) HL.out HF.out.2.2 HU3.out HUP.out hu0 (fun c => by rw [← HF.out.1 c, HF.out.2.1])
        obtain ⟨g, rfl, hgu⟩ : ∃ g, a' = some ⟨g, 0, none⟩ ∧ ub + 1 ≤ g := by
          rcases HW.out.2.1.2 with ⟨e, h0⟩ | ⟨g, _, _, e, hb, _⟩
          · omega
          · simp only [Value.slice.injEq] at e; exact ⟨g, e.1, hb⟩
        have ho4 := HW.out.2.1.kept hH.1 (by simp [Value.ownBlock])
        have hg4' := (gb_trans HW.out.2.2.2 hH.1)
        have hbu4 := HW.out.1.grown hH.1 (by simp)
        have hc4 : w4.cell? ⟨g, p * 2 + 1, none⟩ = some (iV u) := by
          have := ho4.cells (g := g) rfl (p * 2 + 1) _ (dotsC_at l' p hpl).2
          rwa [Addr.add_lit, Nat.zero_add, hpd] at this
        have hf4 : w4.frozen? ⟨g, p * 2 + 1, none⟩ = false := by
          obtain ⟨g', c'', cur, e1, _, hg, _⟩ := ho4.2.resolve_left (fun h => by cases h.1)
          simp only [Value.slice.injEq, Option.some.injEq, Addr.mk.injEq, and_true] at e1
          obtain ⟨rfl, _⟩ := e1
          simp [World.frozen?, hg]
        have HNEXT : Hid (∃ l2, UAt (w4.drew.setCell ⟨g, p * 2 + 1, none⟩ (iV (max u y))) ub l2 ∧ Rt 0 l2 ∧ (∀ c, max (up l2 c) (um (d.drop (k + 1)) c) = F c) ∧ w0.grownBy (w4.drew.setCell ⟨g, p * 2 + 1, none⟩ (iV (max u y))) none) :=
          ⟨_, ⟨_, (hbu4.drew.other (a := ⟨g, p * 2 + 1, none⟩) (by simp; omega) _), by have := own_set (w := w4.drew) (max u y) ho4 hpl; unfold OwnD; rw [List.length_set]; simpa [OwnD] using this⟩, i1, i2, gb_set_new (gb_drew hg4') (by simp; omega) _⟩
        have hpz : (p : Int) < (l'.length : Int) := by omega
        have m1 := hH.2.1
        have m3 := hH.2.2.2
        clear hH hpl hpd i1 i2 hgu ho4 hg4' hbu4 hS2
        go_region
        go_wp2
        go_roundw
        case rel => exact ⟨k + 1, by omega, by go_num, HNEXT⟩
        case measure => simp [intOf]; omega
    · obtain rfl : k = n := by omega
      obtain ⟨l', hU, hrl, hF, hg⟩ := HI.out
      have HO : Hid (TakeOut w0 ub F (.returned (.tuple #[])) wr) := ⟨rfl, l', hU, hrl, fun c => by
        have h1 := hF c
        rw [drop_end d k (by rw [HN.out]; omega)] at h1
        have h2 := (up_bd (c := c) hrl).1
        have h3 : um ([] : List D) c = 0 := rfl
        rw [h3] at h1
        omega, hg⟩
      clear hU hrl hF hg
      generalize TakeOut w0 ub F = Q at HO ⊢
      go_wp2
      go_end0
      exact HO.out
end Ve
end Go.Proofs.YtkffbaihknhefaaGreat
