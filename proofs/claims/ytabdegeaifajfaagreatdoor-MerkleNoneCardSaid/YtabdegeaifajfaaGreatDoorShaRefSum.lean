/- The document's own answer: its digest. -/
import Derived.Test.YtabdegeaifajfaaGreatDoorShaRefWhole
import Derived.Test.YtabdegeaifajfaaGreatDoorShaLawKit
namespace Go.Proofs.YtabdegeaifajfaaGreatDoor
open Go.RowKit

/-- from some words on, block by block -/
def turns (s : Sha.S) (l : List Nat) : Nat → Sha.S
  | 0 => s
  | n + 1 => Sha.turn (turns s l n) ((l.drop (128 * n)).take 128)
theorem turns_first (l : List Nat) (n : Nat) : turns Sha.first l n = Sha.blocks l n := by
  induction n with
  | zero => rfl
  | succ n ih => rw [turns, Sha.blocks, ih]
theorem SB.plus' (s r : Sha.S) : SB (Sha.plus s r) := by constructor <;> exact Nat.mod_lt _ (by decide)
theorem SB.turns {s : Sha.S} (h : SB s) (l : List Nat) (n : Nat) : SB (turns s l n) := by
  cases n with
  | zero => exact h
  | succ n => exact SB.plus' _ _

/-- bytes that lie in a block -/
def BytesIn (w : World) (g : Nat) (l : List Nat) : Prop := g < w.heap.size ∧ ∀ i, i < l.length → w.cell? ⟨g, i, none⟩ = some (u8V (l.getD i 0))
theorem BytesIn.kept {w w' : World} {g : Nat} {l : List Nat} (h : BytesIn w g l) (hg : w.grownBy w' none) : BytesIn w' g l :=
  ⟨Nat.lt_of_lt_of_le h.1 hg.size, fun i hi => by rw [gb_cell hg (p := ⟨g, i, none⟩) h.1 (by simp)]; exact h.2 i hi⟩
theorem own_bytes {w : World} {base g c : Nat} {l : List Nat} (h0 : 0 < l.length) (h : w.ownsRow base 5 1 (.slice (some ⟨g, 0, none⟩) l.length c) l.length (l.map u8V)) : BytesIn w g l := by
  obtain ⟨g', c', e, _, _, _, hlt⟩ := own_some h h0
  cases e
  refine ⟨hlt, fun i hi => own_cell h ?_⟩
  rw [List.getElem?_map, List.getElem?_eq_getElem hi]
  simp [List.getD_eq_getElem?_getD, List.getElem?_eq_getElem hi]
theorem append_byte (a b : List Nat) (ha : ∀ i, a.getD i 0 < 256) (hb : ∀ i, b.getD i 0 < 256) (i : Nat) : (a ++ b).getD i 0 < 256 := by
  rw [List.getD_eq_getElem?_getD]
  rcases Nat.lt_or_ge i a.length with h | h
  · rw [List.getElem?_append_left h, ← List.getD_eq_getElem?_getD]; exact ha i
  · rw [List.getElem?_append_right h, ← List.getD_eq_getElem?_getD]; exact hb _
theorem whole_byte (p : List Nat) (hp : ∀ i, p.getD i 0 < 256) : ∀ i, (Sha.whole p).getD i 0 < 256 := append_byte p _ hp (tail_byte _)
theorem block_byte (W : List Nat) (hW : ∀ i, W.getD i 0 < 256) (k : Nat) : ∀ i, ((W.drop (128 * k)).take 128).getD i 0 < 256 :=
  fun i => shaGetD_take_lt _ _ (fun j => by rw [shaGetD_drop]; exact hW _) i

theorem own_base {w : World} {b b' e n : Nat} {v : Value} {xs : List Value} (h : w.ownsRow b e 1 v n xs) (hb : b' ≤ b) : w.ownsRow b' e 1 v n xs := by
  refine ⟨h.1, ?_⟩
  rcases h.2 with h' | ⟨g, c, cur, e1, e2, e3⟩
  · exact Or.inl h'
  · exact Or.inr ⟨g, c, cur, e1, Nat.le_trans hb e2, e3⟩
theorem words_own {w w' : World} {g b e n : Nat} {v : Value} {xs : List Value} {l : List Nat} (h : WordsAt w g 0 l) (hgb : g < b) (ho : w.ownsRow b e 1 v n xs) (hg : w.grownBy w' v.ownBlock) : WordsAt w' g 0 l :=
  ⟨Nat.lt_of_lt_of_le h.1 hg.size, fun i hi => by
    rw [gb_cell hg (p := ⟨g, 0 + i, none⟩) h.1 (fun e => by have := (ho.lt g e.symm).1; omega)]; exact h.2 i hi⟩
theorem bytes_get (r : Sha.S) (k t : Nat) (hk : k < 8) (ht : t < 8) : r.bytes.getD (8 * k + t) 0 = Sha.byte (r.list.getD k 0) t := by
  obtain rfl | rfl | rfl | rfl | rfl | rfl | rfl | rfl : k = 0 ∨ k = 1 ∨ k = 2 ∨ k = 3 ∨ k = 4 ∨ k = 5 ∨ k = 6 ∨ k = 7 := by omega
  all_goals (obtain rfl | rfl | rfl | rfl | rfl | rfl | rfl | rfl : t = 0 ∨ t = 1 ∨ t = 2 ∨ t = 3 ∨ t = 4 ∨ t = 5 ∨ t = 6 ∨ t = 7 := by omega)
  all_goals rfl
theorem WordsAt.cell0 {w : World} {g : Nat} {l : List Nat} (h : WordsAt w g 0 l) (i : Nat) (hi : i < l.length) : w.cell? ⟨g, i, none⟩ = some (.int .u64 ((l.getD i 0 : Nat) : Int)) := by
  have := h.2 i hi; rw [Nat.zero_add] at this; exact this
theorem list_lt {s : Sha.S} (h : SB s) (k : Nat) (hk : k < 8) : s.list.getD k 0 < 18446744073709551616 := by
  obtain rfl | rfl | rfl | rfl | rfl | rfl | rfl | rfl : k = 0 ∨ k = 1 ∨ k = 2 ∨ k = 3 ∨ k = 4 ∨ k = 5 ∨ k = 6 ∨ k = 7 := by omega
  · exact h.a
  · exact h.b
  · exact h.c
  · exact h.d
  · exact h.e
  · exact h.f
  · exact h.g
  · exact h.h

set_option maxRecDepth 100000 in
set_option maxHeartbeats 1000000 in
theorem refSumBy_any (fb fo fc kb ko kc n cap B : Nat) (s : Sha.S) (p : List Nat) (a : Option Addr) (w : World) (hs : SB s) (hn : p.length = n) (hP : PartAt w B a cap p) (hlen : n < 2147483000)
    (hF : WordsAt w fb fo s.list) (hK : WordsAt w kb ko Sha.K) :
    Calls Tryz.prog 40 #[.slice (some ⟨fb, fo, none⟩) 8 fc, .slice (some ⟨kb, ko, none⟩) 80 kc, .slice a n cap] w fun e w' => ∃ g c, e = .returned (.slice (some ⟨g, 0, none⟩) 64 c) ∧ w.grownBy w' none ∧ w'.ownsRow w.heap.size 5 1 (.slice (some ⟨g, 0, none⟩) 64 c) 64 ((turns s (Sha.whole p) ((Sha.whole p).length / 128)).bytes.map u8V) := by
  obtain ⟨v1, w1, hap, how, hgr⟩ := copy_words w w fb fo fc s (gb_refl _ _) hF
  obtain ⟨g1, c1, rfl, hb1, hc1, _, hlt1⟩ := own_some how (by decide)
  have HA := Lib.hid (And.intro hap (And.intro how (And.intro hgr (And.intro hP (And.intro hF hK))))); clear hap how hgr hP hF hK
  go_enter Tryz.func40, Tryz.ntmps40
  go_wp2_with (at_builtin; refine wpList_append_run rfl (.tmp 13) (.tmp 14) 81 rfl rfl _ _ rfl rfl _ _ HA.out.1 ?_)
  refine (refWhole_any n cap B p a w1 hn (HA.out.2.2.2.1.kept (gb_row HA.out.2.2.1 _)) hlen).mono ?_
  rintro e w2 ⟨gw, cw, rfl, hg2, hown2⟩
  have hcw := own_some hown2 (by rw [whole_len]; have : 17 ≤ Sha.tailLen p.length := (by unfold Sha.tailLen; split <;> omega); omega)
  have hbi := own_bytes (by rw [whole_len]; have : 17 ≤ Sha.tailLen p.length := (by unfold Sha.tailLen; split <;> omega); omega) hown2
  obtain ⟨gw', cw', e, _, hcw, hcm, _⟩ := hcw
  cases e
  have hwl : (Sha.whole p).length ≤ n + 300 := by rw [whole_len, hn]; unfold Sha.tailLen; split <;> omega
  have hW := whole_byte p HA.out.2.2.2.1.byte
  have hmod := whole_mod p
  generalize hWp : Sha.whole p = W at *
  have HWp := Lib.hid hWp; clear hWp
  obtain ⟨nb, hnb⟩ : ∃ nb, W.length = 128 * nb := ⟨W.length / 128, by omega⟩
  have hF1 : WordsAt w1 g1 0 s.list := ⟨hlt1, fun i hi => by
    have hi8 : i < 8 := hi
    rw [Nat.zero_add]
    have HC := HA.out.2.1
    obtain rfl | rfl | rfl | rfl | rfl | rfl | rfl | rfl : i = 0 ∨ i = 1 ∨ i = 2 ∨ i = 3 ∨ i = 4 ∨ i = 5 ∨ i = 6 ∨ i = 7 := by omega
    all_goals exact own_cell HC rfl⟩
  have hg02 := gb_trans HA.out.2.2.1 hg2
  have H2 := Lib.hid (And.intro (HA.out.2.2.2.2.2) (And.intro hg02 (And.intro hbi (And.intro (hF1.kept hg2) (And.intro hW hnb))))); clear hg2 hg02 hbi hF1 hown2 hW hmod hnb
  go_wp2_with fail
  go_loopw [7, 9] (fun v i wr => ∃ k m g c : Nat, k ≤ nb ∧ m = 128 * k ∧ i = .int .i64 m ∧ v = .slice (some ⟨g, 0, none⟩) 8 c ∧ w.grownBy wr none ∧ BytesIn wr gw W ∧ WordsAt wr g 0 (turns s W k).list) (fun _ i _ => (W.length - (intOf i).toNat))
  case atStart => exact ⟨0, 0, g1, c1, by omega, by omega, rfl, rfl, H2.out.2.1, H2.out.2.2.1, H2.out.2.2.2.1⟩
  case round =>
    obtain ⟨k, m, g, c, hk, hm, rfl, rfl, hg, hbi, hF⟩ := hrel
    by_cases hlt : k < nb
    · obtain ⟨a', hsl, ha'⟩ := slice_run (some ⟨gw, 0, none⟩) W.length cw m 128 (by have := H2.out.2.2.2.2.2; omega)
      obtain rfl := ha' (by have := H2.out.2.2.2.2.2; omega) gw 0 rfl
      rw [Nat.zero_add] at hsl
      have hsl' : ∀ w, (Instr.slice 34 (.slice (some ⟨gw, 0, none⟩) W.length cw) (some (.int .i64 (m : Int))) (some (.int .i64 ((m : Int) + 128))) none).run Tryz.prog w = .ok (.slice (some ⟨gw, m, none⟩) 128 (cw - m)) w := hsl
      have hturn := refTurn_any g 0 c kb ko kc gw m (cw - m) (turns s W k) ((W.drop (128 * k)).take 128) wr (SB.turns hs W k) (block_byte W H2.out.2.2.2.2.1 k) hF (H2.out.1.kept hg) hbi.1 (fun i hi => by
        rw [hbi.2 (m + i) (by have := H2.out.2.2.2.2.2; omega), shaGetD_take _ _ _ hi, shaGetD_drop, hm]; rfl)
      have i0 : (m : Int) < (W.length : Int) := by have := H2.out.2.2.2.2.2; omega
      have i1 : (m : Int) + 128 ≤ (cw : Int) := by have := H2.out.2.2.2.2.2; omega
      have HI := Lib.hid (And.intro hg (And.intro hbi (And.intro hturn hm))); clear hg hbi hturn hF ha' hsl hm
      go_wp2_with fail
      refine HI.out.2.2.1.mono ?_
      rintro e w3 ⟨g3, rfl, hg3, hge, hW3⟩
      have H3 := Lib.hid (And.intro (gb_trans HI.out.1 hg3) (And.intro (HI.out.2.1.kept hg3) hW3)); clear hg3 hW3
      go_wp2_with fail
      go_roundw
      case rel => exact ⟨k + 1, m + 128, g3, 8, by omega, by have := HI.out.2.2.2; omega, by go_num, rfl, H3.out.1, H3.out.2.1, H3.out.2.2⟩
      case measure => simp [intOf]; omega
    · obtain rfl : k = nb := by omega
      have H3 := Lib.hid (And.intro hg (And.intro hF hm)); clear hg hbi hF hm
      have i0 : (m : Int) = (W.length : Int) := by have := H2.out.2.2.2.2.2; have := H3.out.2.2; omega
      go_wp2
      have hSB := SB.turns hs W k
      obtain ⟨r, hr⟩ : ∃ r, r = turns s W k := ⟨_, rfl⟩
      rw [← hr] at hSB
      have hF3 := H3.out.2.1
      rw [← hr] at hF3
      have HR := Lib.hid (And.intro hr (And.intro hSB hF3)); clear hr hSB hF3
      clear i0
      obtain ⟨bb, hbb⟩ : ∃ bb, bb = wr.heap.size := ⟨_, rfl⟩
      have hwb : w.heap.size ≤ bb := by rw [hbb]; exact H3.out.1.size
      have hgb : g < bb := by rw [hbb]; exact HR.out.2.2.1
      have hbb2 : bb ≤ wr.heap.size := Nat.le_of_eq hbb
      clear hbb
      go_loopw [10, 11] (fun v i wr => ∃ k : Nat, k ≤ 8 ∧ i = .int .i64 k ∧ bb ≤ wr.heap.size ∧ wr.ownsRow bb 5 1 v (8 * k) ((r.bytes.take (8 * k)).map u8V) ∧ w.grownBy wr none ∧ WordsAt wr g 0 r.list) (fun _ i _ => (8 - (intOf i).toNat))
      case atStart => exact ⟨0, by omega, rfl, hbb2, World.ownsRow_nil _ _ _ _, H3.out.1, HR.out.2.2⟩
      case round =>
        obtain ⟨k1, hk1, rfl, hbr, hown, hg, hF⟩ := hrel
        by_cases hlt1 : k1 < 8
        · have H4 := Lib.hid (And.intro hown (And.intro hg hF)); clear hown hg hF
          have j0 : (k1 : Int) < 8 := by omega
          go_wp2
          clear j0
          go_loopw [10, 12] (fun v i wr => ∃ (q : Int) (t : Nat), q + 8 * t = 56 ∧ -8 ≤ q ∧ i = .int .i64 q ∧ bb ≤ wr.heap.size ∧ wr.ownsRow bb 5 1 v (8 * k1 + t) ((r.bytes.take (8 * k1 + t)).map u8V) ∧ w.grownBy wr none ∧ WordsAt wr g 0 r.list) (fun _ i _ => (intOf i + 8).toNat)
          case atStart => exact ⟨56, 0, by omega, by omega, rfl, hbr, H4.out.1, H4.out.2.1, H4.out.2.2⟩
          case round =>
            obtain ⟨q, t, hq1, hq2, rfl, hbr1, hown, hg, hF⟩ := hrel
            by_cases hlq : 0 ≤ q
            · obtain ⟨q, rfl⟩ := Int.eq_ofNat_of_zero_le hlq
              have hnext := take_next r.bytes (8 * k1 + t) (show 8 * k1 + t < 64 by omega)
              have hv : r.bytes.getD (8 * k1 + t) 0 = r.list.getD k1 0 / 2 ^ q % 256 := by
                rw [bytes_get r k1 t hlt1 (by omega), Sha.byte, Nat.shiftRight_eq_div_pow, show 56 - 8 * t = q by omega]
              have hx := WordsAt.cell0 hF k1 (show k1 < 8 from hlt1)
              have hxl := list_lt HR.out.2.1 k1 hlt1
              rw [hv] at hnext
              obtain ⟨x, hxe⟩ : ∃ x, x = r.list.getD k1 0 := ⟨_, rfl⟩
              rw [← hxe] at hx hxl hnext
              have hc8 : ((x / 2 ^ q % 256 : Nat) : Int) = (x : Int) / 2 ^ q % 256 := by rw [Int.natCast_emod, Int.natCast_ediv, Int.natCast_pow]; rfl
              obtain ⟨v2', w2', hap, how2, hgr2⟩ := append1_u8 wr bb (8 * k1 + t) _ (u8V (x / 2 ^ q % 256)) _ hown rfl (by omega) hbr1
              have hg2 := gb_own hg hown hwb hgr2
              have hbr2 : bb ≤ w2'.heap.size := Nat.le_trans hbr1 hgr2.size
              rw [← hnext] at how2
              unfold u8V at hap
              rw [hc8] at hap
              have H5 := Lib.hid (And.intro hap (And.intro how2 (And.intro hg2 (words_own hF hgb hown hgr2)))); clear hap how2 hg2 hgr2 hown hg hF hnext hv hxe hc8
              have q0 : 0 ≤ (q : Int) := by omega
              have q1 : (q : Int) < 64 := by omega
              have j0 : (k1 : Int) < 8 := by omega
              go_wp2_with (at_builtin; refine wpList_append_run rfl (.tmp 40) (.tmp 49) 34 rfl rfl _ _ rfl rfl _ _ H5.out.1 ?_)
              go_roundw
              case rel => exact ⟨(q : Int) - 8, t + 1, by omega, by omega, by go_num, hbr2, H5.out.2.1, H5.out.2.2.1, H5.out.2.2.2⟩
              case measure => simp [intOf]; omega
            · obtain rfl : t = 8 := by omega
              obtain rfl : q = -8 := by omega
              have H5 := Lib.hid (And.intro hown (And.intro hg hF)); clear hown hg hF
              go_wp2
              go_roundw
              case rel => exact ⟨k1 + 1, by omega, by go_num, hbr1, H5.out.1, H5.out.2.1, H5.out.2.2⟩
              case measure => simp [intOf]; omega
        · obtain rfl : k1 = 8 := by omega
          obtain ⟨g', c', rfl, _, _, _, _⟩ := own_some hown (by omega)
          have hfin : (turns s W k) = turns s W (W.length / 128) := by
            have := H2.out.2.2.2.2.2
            rw [show W.length / 128 = k by omega]
          rw [List.take_of_length_le (show r.bytes.length ≤ 8 * 8 from Nat.le_refl _), HR.out.1, hfin, ← HWp.out] at hown
          have H5 := Lib.hid (And.intro (own_base hown hwb) hg); clear hown hg hF hfin
          go_wp2
          go_ret
          exact ⟨g', c', rfl, H5.out.2, H5.out.1⟩
end Go.Proofs.YtabdegeaifajfaaGreatDoor
