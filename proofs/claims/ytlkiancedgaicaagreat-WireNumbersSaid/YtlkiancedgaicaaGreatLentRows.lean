/- The kit's lent rows: a copy of each row with marks behind it, and marks of rows behind them all. -/
import Derived.Test.YtlkiancedgaicaaGreatMarkRow
import Derived.Test.YtlkiancedgaicaaGreatMake
namespace Go.Proofs.YtlkiancedgaicaaGreat
open Go.RowKit Ow

/-- rows of bytes: where each lies -/
structure RowsIn (w : World) (a : Option Addr) (A : Nat → Option Addr) (C : Nat → Nat) (L : List (List Nat)) : Prop where
  cells : L.length = 0 ∨ ∃ pb po, a = some ⟨pb, po, none⟩ ∧ pb < w.heap.size ∧ ∀ i, i < L.length → w.cell? ⟨pb, po + i, none⟩ = some (.slice (A i) (L.getD i []).length (C i))
  bytes : ∀ i, i < L.length → BytesAt w w.heap.size (A i) (C i) (L.getD i [])
theorem bytes_up {w w' : World} {cap : Nat} {a : Option Addr} {l : List Nat} (h : BytesAt w w.heap.size a cap l) (hg : w.grownBy w' none) : BytesAt w' w'.heap.size a cap l := (h.stay hg).up hg.size (Nat.le_refl _)
theorem bytes_off {w w' : World} {B g c G : Nat} {l : List Nat} (h : BytesAt w B (some ⟨g, 0, none⟩) c l) (hg : w.grownBy w' (some G)) (hne : g ≠ G) : BytesAt w' w'.heap.size (some ⟨g, 0, none⟩) c l := by
  refine ⟨Nat.le_refl _, h.fits, h.top, h.byte, ?_⟩
  rcases h.cells with h0 | ⟨pb, po, e, hlt, hc⟩
  · exact Or.inl h0
  · cases e
    have hl := h.lim
    have hs := hg.size
    exact Or.inr ⟨_, _, rfl, by omega, fun i hi => by rw [gb_cell hg (p := ⟨g, 0 + i, none⟩) (Nat.lt_of_lt_of_le hlt hl) (fun e => hne (Option.some.inj e))]; exact hc i hi⟩
theorem RowsIn.stay {w w' : World} {a : Option Addr} {A : Nat → Option Addr} {C : Nat → Nat} {L : List (List Nat)} (h : RowsIn w a A C L) (hg : w.grownBy w' none) : RowsIn w' a A C L := by
  refine ⟨?_, fun i hi => bytes_up (h.bytes i hi) hg⟩
  rcases h.cells with h0 | ⟨pb, po, e, hlt, hc⟩
  · exact Or.inl h0
  · exact Or.inr ⟨pb, po, e, Nat.lt_of_lt_of_le hlt hg.size, fun i hi => by rw [gb_cell hg (p := ⟨pb, po + i, none⟩) hlt (by simp)]; exact hc i hi⟩
/-- the first k rows, lent; j marks behind them: the values vs of block G -/
structure LentAt (f : Nat → Nat → Nat) (w0 w : World) (G k j : Nat) (vs : List Value) (L : List (List Nat)) : Prop where
  len : vs.length = k + j
  rows : ∀ i, i < k → ∃ g, vs[i]? = some (.slice (some ⟨g, 0, none⟩) (L.getD i []).length ((L.getD i []).length + 12)) ∧ w0.heap.size ≤ g ∧ g ≠ G ∧ Blk w g 5 ((L.getD i [] ++ marksOf f 1 12).map u8N)
  marks : ∀ i, i < j → ∃ g c, vs[k + i]? = some (.slice (some ⟨g, 0, none⟩) 8 c) ∧ w0.heap.size ≤ g ∧ g ≠ G ∧ BytesAt w w.heap.size (some ⟨g, 0, none⟩) c (mkRow i)
theorem LentAt.stay {f : Nat → Nat → Nat} {w0 w w' : World} {G k j : Nat} {vs : List Value} {L : List (List Nat)} (h : LentAt f w0 w G k j vs L) (hg : w.grownBy w' none) : LentAt f w0 w' G k j vs L := by
  refine ⟨h.len, fun i hi => ?_, fun i hi => ?_⟩
  · obtain ⟨g, h1, h2, h3, h4⟩ := h.rows i hi
    exact ⟨g, h1, h2, h3, h4.grown hg (by simp)⟩
  · obtain ⟨g, c, h1, h2, h3, h4⟩ := h.marks i hi
    exact ⟨g, c, h1, h2, h3, bytes_up h4 hg⟩
theorem LentAt.put {f : Nat → Nat → Nat} {w0 w w' : World} {G k j : Nat} {vs : List Value} {L : List (List Nat)} (h : LentAt f w0 w G k j vs L) (hg : w.grownBy w' (some G)) : LentAt f w0 w' G k j vs L := by
  refine ⟨h.len, fun i hi => ?_, fun i hi => ?_⟩
  · obtain ⟨g, h1, h2, h3, h4⟩ := h.rows i hi
    exact ⟨g, h1, h2, h3, h4.grown hg (fun e => h3 (Option.some.inj e))⟩
  · obtain ⟨g, c, h1, h2, h3, h4⟩ := h.marks i hi
    exact ⟨g, c, h1, h2, h3, bytes_off h4 hg h3⟩
theorem LentAt.row {f : Nat → Nat → Nat} {w0 w : World} {G k g : Nat} {vs : List Value} {L : List (List Nat)} (h : LentAt f w0 w G k 0 vs L) (h1 : w0.heap.size ≤ g) (h2 : g ≠ G) (h3 : Blk w g 5 ((L.getD k [] ++ marksOf f 1 12).map u8N)) :
    LentAt f w0 w G (k + 1) 0 (vs ++ [.slice (some ⟨g, 0, none⟩) (L.getD k []).length ((L.getD k []).length + 12)]) L := by
  have hl := h.len
  refine ⟨by simp [hl], fun i hi => ?_, fun i hi => by omega⟩
  rcases Nat.lt_or_ge i k with hik | hik
  · obtain ⟨g', e1, e2, e3, e4⟩ := h.rows i hik
    exact ⟨g', by rw [List.getElem?_append_left (by omega)]; exact e1, e2, e3, e4⟩
  · obtain rfl : i = k := by omega
    exact ⟨g, by rw [List.getElem?_append_right (by omega), show i - vs.length = 0 by omega]; rfl, h1, h2, h3⟩
theorem LentAt.mark {f : Nat → Nat → Nat} {w0 w : World} {G k j g c : Nat} {vs : List Value} {L : List (List Nat)} (h : LentAt f w0 w G k j vs L) (h1 : w0.heap.size ≤ g) (h2 : g ≠ G) (h3 : BytesAt w w.heap.size (some ⟨g, 0, none⟩) c (mkRow j)) :
    LentAt f w0 w G k (j + 1) (vs ++ [.slice (some ⟨g, 0, none⟩) 8 c]) L := by
  have hl := h.len
  refine ⟨by simp [hl]; omega, fun i hi => ?_, fun i hi => ?_⟩
  · obtain ⟨g', e1, e2, e3, e4⟩ := h.rows i hi
    exact ⟨g', by rw [List.getElem?_append_left (by omega)]; exact e1, e2, e3, e4⟩
  · rcases Nat.lt_or_ge i j with hij | hij
    · obtain ⟨g', c', e1, e2, e3, e4⟩ := h.marks i hij
      exact ⟨g', c', by rw [List.getElem?_append_left (by omega)]; exact e1, e2, e3, e4⟩
    · obtain rfl : i = j := by omega
      exact ⟨g, c, by rw [List.getElem?_append_right (by omega), show k + i - vs.length = 0 by omega]; rfl, h1, h2, h3⟩

theorem info_bs : ∃ i, Tryz.prog.info? 23 = some i ∧ i.zero = some (.slice none 0 0) ∧ i.size = 1 ∧ i.bytes = 24 := by
  have h : (Tryz.prog.info? 23).map (fun i => (i.zero, i.size, i.bytes)) = some (some (.slice none 0 0), 1, 24) := by kernel_rfl
  cases hi : Tryz.prog.info? 23 with
  | none => rw [hi] at h; cases h
  | some i =>
    rw [hi] at h
    simp only [Option.map_some, Option.some.injEq, Prod.mk.injEq] at h
    exact ⟨i, rfl, h.1, h.2.1, h.2.2⟩
theorem make_rows (n c : Nat) (w : World) (h : n ≤ c) (hc : c ≤ 1000000000) : ∃ w', (Instr.makeSlice 22 (.int .i64 n) (.int .i64 c)).run Tryz.prog w = .ok (.slice (some ⟨w.heap.size, 0, none⟩) n c) w' ∧
    w.grownBy w' none ∧ w'.heap.size = w.heap.size + 1 ∧ ∃ cur : List Value, cur.length = c ∧ Blk w' w.heap.size 23 cur := by
  obtain ⟨i, hi, hz, hs, hb⟩ := info_bs
  have h2 := run_make (P := Tryz.prog) w 22 23 i (.slice none 0 0) Tryz.underlying22 hi hz .i64 .i64 n c (by omega) (by omega) (by rw [hb]; omega) (by omega)
  rw [hs, Nat.mul_one, Int.toNat_natCast, Int.toNat_natCast] at h2
  exact ⟨_, h2, gb_alloc (gb_refl _ _) _, by simp, (madeCells (Value.slice none 0 0).cells c).toList, by simp [madeCells, Value.cells], Blk.new w _ _⟩
theorem append_row_fits (w : World) (base G k c : Nat) (x : Value) (vs : List Value) (hx : x.oneCell' = true) (hown : w.ownsRow base 23 1 (.slice (some ⟨G, 0, none⟩) k c) k vs) (hroom : k + 1 ≤ c) :
    ∃ w', (Builtin.append_ #[22, 22] 22 #[.slice (some ⟨G, 0, none⟩) k c, .slice (some ⟨w.heap.size, 0, none⟩) 1 1]).run Tryz.prog (w.alloc (.cells #[x] 23)) = .ok (.slice (some ⟨G, 0, none⟩) (k + 1) c) w' ∧ w'.ownsRow base 23 1 (.slice (some ⟨G, 0, none⟩) (k + 1) c) (k + 1) (vs ++ [x]) ∧ w.grownBy w' (some G) := by
  obtain ⟨i, hi, _, hs, _⟩ := info_bs
  have hb := Blk.new w [x] 23
  obtain ⟨w', hr, ho, hg⟩ := run_append_fits (w.alloc (.cells #[x] 23)) base 22 22 23 i 1 (P := Tryz.prog) Tryz.underlying22 hi hs G k c vs (hown.alloc _) ⟨w.heap.size, 0, none⟩ 1 1 [x] rfl (fun j u hu => by
    have hj : j = 0 := by
      rcases Nat.eq_zero_or_pos j with h | h
      · exact h
      · rw [List.getElem?_eq_none (by simp; omega)] at hu; cases hu
    subst hj
    rw [show x = u by simpa using hu] at hb ⊢
    exact hb.cell (i := 0) rfl) (fun u hu => by rw [List.mem_singleton.1 hu]; exact hx) hroom
  exact ⟨w', hr, ho, gb_trans (gb_alloc (gb_refl _ _) _) hg⟩
set_option maxRecDepth 100000 in
set_option maxHeartbeats 2000000 in
theorem lentR_any {f : Nat → Nat → Nat} (hf : Marks f) (n cap : Nat) (a : Option Addr) (A : Nat → Option Addr) (C : Nat → Nat) (L : List (List Nat)) (w : World) (hn : L.length = n) (hR : RowsIn w a A C L) (hl : ∀ i, i < n → (L.getD i []).length ≤ 30000) (hn2 : n ≤ 30000) :
    Calls Tryz.prog 12 #[.slice a n cap] w fun e w' => ∃ G vs, e = .returned (.slice (some ⟨G, 0, none⟩) n (n + 12)) ∧ w.grownBy w' none ∧ w.heap.size ≤ G ∧ Blk w' G 23 vs ∧ LentAt f w w' G n 12 vs L := by
  obtain ⟨w1, hmk, hg1, hs1, cur, hcl, hb1⟩ := make_rows 0 (n + 12) w (by omega) (by omega)
  have ho1 : w1.ownsRow w.heap.size 23 1 (.slice (some ⟨w.heap.size, 0, none⟩) 0 (n + 12)) 0 [] :=
    ⟨rfl, Or.inr ⟨w.heap.size, n + 12, cur.toArray, rfl, Nat.le_refl _, hb1, by omega, by unfold maxLen; omega, by simp [hcl], by simp⟩⟩
  have hmk' : (Instr.makeSlice 22 (.int .i64 0) (.int .i64 ((n : Int) + 12))).run Tryz.prog w = .ok (.slice (some ⟨w.heap.size, 0, none⟩) 0 (n + 12)) w1 := hmk
  have hlt1 : w.heap.size < w1.heap.size := by omega
  have HR := Lib.hid (And.intro hn (And.intro hR hl)); clear hn hR hl
  have H1 := Lib.hid (And.intro ho1 (And.intro hg1 hlt1)); clear ho1 hg1 hmk hs1 hb1 hcl hlt1
  have HF := Lib.hid hf; clear hf
  go_enter Tryz.func12, Tryz.ntmps12
  go_wp2
  go_loopw [3, 4] (fun v i wr => ∃ (k : Nat) (vs : List Value), k ≤ n ∧ i = .int .i64 k ∧ v = .slice (some ⟨w.heap.size, 0, none⟩) k (n + 12) ∧ wr.ownsRow w.heap.size 23 1 (.slice (some ⟨w.heap.size, 0, none⟩) k (n + 12)) k vs ∧ w.grownBy wr none ∧ w.heap.size < wr.heap.size ∧ LentAt f w wr w.heap.size k 0 vs L) (fun _ i _ => n - (intOf i).toNat)
  case atStart => exact ⟨0, [], by omega, rfl, rfl, H1.out.1, H1.out.2.1, H1.out.2.2, rfl, fun i hi => by omega, fun i hi => by omega⟩
  case round =>
    obtain ⟨k, vs, hk, rfl, rfl, hown, hg, hlt0, hLA⟩ := hrel
    by_cases hlt : k < n
    · have hR := HR.out.2.1.stay hg
      obtain ⟨pb, po, rfl, hpb, hc⟩ := hR.cells.resolve_left (by have := HR.out.1; omega)
      have kc := hc k (by have := HR.out.1; omega)
      have hbk := hR.bytes k (by have := HR.out.1; omega)
      have hlk := HR.out.2.2 k hlt
      obtain ⟨p, hp⟩ : ∃ p, p = L.getD k [] := ⟨_, rfl⟩
      rw [← hp] at kc hbk hlk
      generalize hx : p.length = x at *
      have HI := Lib.hid (And.intro hown (And.intro hg (And.intro hlt0 (And.intro hLA (And.intro hp (And.intro hx hbk)))))); clear hown hg hlt0 hLA hp hx hbk hc hR
      generalize A k = ak at *
      generalize C k = ck at *
      have i0 : (k : Int) < (n : Int) := by omega
      go_wp2_with fail
      refine (lentB_any HF.out x ck _ p ak wr HI.out.2.2.2.2.2.1 HI.out.2.2.2.2.2.2 hlk).mono ?_
      rintro e w4 ⟨g, rfl, hg4, hgw, hb4⟩
      have hgn : g ≠ w.heap.size := by have := HI.out.2.2.1; omega
      obtain ⟨w5, hap, ho5, hg5⟩ := append_row_fits w4 w.heap.size w.heap.size k (n + 12) (.slice (some ⟨g, 0, none⟩) x (x + 12)) vs rfl (own_kept HI.out.1 hg4) (by omega)
      have hg45 : w.grownBy w5 none := gb_then (gb_trans HI.out.2.1 hg4) hg5 (Nat.le_refl _)
      have hLA5 : LentAt f w w5 w.heap.size (k + 1) 0 (vs ++ [.slice (some ⟨g, 0, none⟩) x (x + 12)]) L := by
        have h1 := ((HI.out.2.2.2.1.stay hg4).put hg5).row (g := g) (by have := HI.out.2.1.size; omega) hgn (by rw [← HI.out.2.2.2.2.1]; exact hb4.grown hg5 (fun e => hgn (Option.some.inj e)))
        rw [← HI.out.2.2.2.2.1, HI.out.2.2.2.2.2.1] at h1
        exact h1
      have H5 := Lib.hid (And.intro hap (And.intro ho5 (And.intro hg45 (And.intro (show w.heap.size < w5.heap.size by have := HI.out.2.2.1; have := hg4.size; have := hg5.size; omega) hLA5)))); clear hap ho5 hg5 hg45 hLA5 hb4 hg4 hgw hgn kc
      go_wp2_with (at_builtin; refine wpList_append_run rfl (.tmp 22) (.tmp 24) 22 rfl rfl _ _ rfl rfl _ _ H5.out.1 ?_)
      go_roundw
      case rel => exact ⟨k + 1, _, by omega, by go_num, rfl, H5.out.2.1, H5.out.2.2.1, H5.out.2.2.2.1, H5.out.2.2.2.2⟩
      case measure => simp [intOf]; omega
    · obtain rfl : k = n := by omega
      have HI := Lib.hid (And.intro hown (And.intro hg (And.intro hlt0 hLA))); clear hown hg hlt0 hLA
      go_wp2
      go_loopw [3, 6] (fun v i wr => ∃ (j m : Nat) (vs : List Value), j ≤ 12 ∧ m = k + j ∧ i = .int .i64 j ∧ v = .slice (some ⟨w.heap.size, 0, none⟩) m (k + 12) ∧ wr.ownsRow w.heap.size 23 1 (.slice (some ⟨w.heap.size, 0, none⟩) m (k + 12)) m vs ∧ w.grownBy wr none ∧ w.heap.size < wr.heap.size ∧ LentAt f w wr w.heap.size k j vs L) (fun _ i _ => 12 - (intOf i).toNat)
      case atStart => exact ⟨0, k, vs, by omega, rfl, rfl, rfl, HI.out.1, HI.out.2.1, HI.out.2.2.1, HI.out.2.2.2⟩
      case round =>
        clear HI
        obtain ⟨j, m, vs, hj, hm, rfl, rfl, hown, hg, hlt0, hLA⟩ := hrel
        by_cases hlt : j < 12
        · have HI := Lib.hid (And.intro hown (And.intro hg (And.intro hlt0 hLA))); clear hown hg hlt0 hLA
          have HM := Lib.hid hm; clear hm
          have i0 : (j : Int) < 12 := by omega
          go_wp2_with fail
          refine (markRow_any j _ hlt).mono ?_
          rintro e w4 ⟨g, c, rfl, hg4, hgw, hb4⟩
          have hgn : g ≠ w.heap.size := by have := HI.out.2.2.1; omega
          obtain ⟨w5, hap, ho5, hg5⟩ := append_row_fits w4 w.heap.size w.heap.size m (k + 12) (.slice (some ⟨g, 0, none⟩) 8 c) vs rfl (own_kept HI.out.1 hg4) (by have := HM.out; omega)
          have hg45 : w.grownBy w5 none := gb_then (gb_trans HI.out.2.1 hg4) hg5 (Nat.le_refl _)
          have hLA5 : LentAt f w w5 w.heap.size k (j + 1) (vs ++ [.slice (some ⟨g, 0, none⟩) 8 c]) L :=
            ((HI.out.2.2.2.stay hg4).put hg5).mark (by have := HI.out.2.1.size; omega) hgn (bytes_off hb4 hg5 hgn)
          have H5 := Lib.hid (And.intro hap (And.intro ho5 (And.intro hg45 (And.intro (show w.heap.size < w5.heap.size by have := HI.out.2.2.1; have := hg4.size; have := hg5.size; omega) hLA5)))); clear hap ho5 hg5 hg45 hLA5 hb4 hg4 hgw hgn
          go_wp2_with (at_builtin; refine wpList_append_run rfl (.tmp 30) (.tmp 33) 22 rfl rfl _ _ rfl rfl _ _ H5.out.1 ?_)
          go_roundw
          case rel => exact ⟨j + 1, m + 1, _, by omega, by have := HM.out; omega, by go_num, rfl, H5.out.2.1, H5.out.2.2.1, H5.out.2.2.2.1, H5.out.2.2.2.2⟩
          case measure => simp [intOf]; omega
        · obtain rfl : j = 12 := by omega
          have e : m = k + 12 := hm
          subst e
          rcases hown.2 with ⟨h0, _⟩ | ⟨g', c', cur, e1, hbg, hgh, _, _, hs, ht⟩
          · cases h0
          · cases e1
            have hcur : cur.toList = vs := by rw [← ht, List.take_of_length_le]; rw [Array.length_toList]; omega
            have hblk : Blk wr w.heap.size 23 vs := by unfold Blk; rw [hgh, ← hcur, Array.toArray_toList]
            have HI := Lib.hid (And.intro hblk (And.intro hg hLA)); clear hown hg hm hgh hcur hblk ht hs hLA
            go_wp2
            go_ret
            exact ⟨w.heap.size, vs, rfl, HI.out.2.1, Nat.le_refl _, HI.out.1, HI.out.2.2⟩
end Go.Proofs.YtlkiancedgaicaaGreat
