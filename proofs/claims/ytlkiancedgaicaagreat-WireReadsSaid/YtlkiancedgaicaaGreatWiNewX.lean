/- Readers just made: what is written to an elder block leaves them. -/
import Derived.Test.YtlkiancedgaicaaGreatWiRef
namespace Go.Proofs.YtlkiancedgaicaaGreat
open Go.RowKit Ow Wi
theorem new_anyX (n cap B : Nat) (a : Option Addr) (l : List Nat) (w : World) (hl : l.length = n) (hn : n ≤ 1000000) (hP : BytesAt w B a cap l) :
    Calls Tryz.prog 23 #[.slice a n cap] w fun e w' => ∃ rb, e = .returned (.pointer (some ⟨rb, 0, none⟩)) ∧ w.grownBy w' none ∧ w.heap.size ≤ rb ∧ RdS w' rb (some l) ∧ ∀ (T : Nat) (w'' : World), T < w.heap.size → w'.grownBy w'' (some T) → RdS w'' rb (some l) := by
  have HP := Lib.hid (And.intro hl (And.intro hn hP)); clear hl hn hP
  go_enter Tryz.func23, Tryz.ntmps23
  go_wp2_with (fail)
  refine (join_any 1 1 _ [l] _ _ rfl (rows1 HP.out.1 HP.out.2.2.full) (by decide) (by simp only [List.flatten_cons, List.flatten_nil, List.append_nil]; have h1 := HP.out.1; have h2 := HP.out.2.1; omega)).mono ?_
  rintro e w1 ⟨v, rfl, hg, ho⟩
  simp only [List.flatten_cons, List.flatten_nil, List.append_nil] at ho
  obtain ⟨a1, c1, rfl, _, hB, hpb⟩ := own_slice ho HP.out.2.2.byte
  have H1 := Lib.hid (And.intro (gb_trans (gb_alloc (gb_refl w none) _) hg) (And.intro hB (fun pb po e => Nat.le_trans (gb_alloc (gb_refl w none) _).size (hpb pb po e).1 : ∀ pb po, a1 = some ⟨pb, po, none⟩ → w.heap.size ≤ pb))); clear hg ho hB hpb
  go_wp2
  go_ret
  obtain ⟨hg, hB, hpb⟩ := H1.out
  have hb := Blk.new w1 [.slice a1 l.length c1, .pointer (some ⟨w1.heap.size, 0, none⟩)] 102
  have g2 := gb_alloc (gb_refl w1 none) (.cells #[.slice a1 l.length c1, .pointer (some ⟨w1.heap.size, 0, none⟩)] 102)
  have hoff : l.length = 0 ∨ ∀ pb po, a1 = some ⟨pb, po, none⟩ → pb < w1.heap.size := by
    rcases hB.cells with h0 | ⟨pb, po, rfl, hlt, _⟩
    · exact Or.inl h0
    · exact Or.inr fun pb' po' e => by cases e; omega
  refine ⟨w1.heap.size, rfl, gb_trans hg g2, hg.size, ⟨a1, l.length, c1, hb, rfl, (hB.stay g2).full, hoff⟩, fun T w'' hT hg'' => ?_⟩
  exact ⟨a1, l.length, c1, hb.grown hg'' (by have := hg.size; simp; omega), rfl, ((hB.stay g2).apart hg'' (Or.inr fun pb po e => by have := hpb pb po e; omega)).full, hoff⟩
set_option maxHeartbeats 1000000 in
theorem ref_newX (n cap B : Nat) (a : Option Addr) (l : List Nat) (w : World) (hl : l.length = n) (hn : n ≤ 100000) (hP : BytesAt w B a cap l) :
    Calls Tryz.prog 24 #[.slice a n cap] w fun e w' => ∃ sb, e = .returned (.pointer (some ⟨sb, 0, none⟩)) ∧ w.grownBy w' none ∧ w.heap.size ≤ sb ∧ RefS w' sb (some l) ∧ ∀ (T : Nat) (w'' : World), T < w.heap.size → w'.grownBy w'' (some T) → RefS w'' sb (some l) := by
  obtain ⟨a', c', w1, hap, hg, hB, hbs, _⟩ := append_empty w n cap B a l hl hn hP
  have H1 := Lib.hid (And.intro hg (And.intro hB (And.intro hl (And.intro hn hbs)))); clear hl hn hP hg hB hbs
  go_enter Tryz.func24, Tryz.ntmps24
  go_wp2_with (at_builtin; refine wpList_append_run rfl (.tmp 3) (.tmp 4) 23 rfl rfl _ _ rfl rfl _ _ hap ?_)
  go_ret
  obtain ⟨hg, hB, hl, hn, hbs⟩ := H1.out
  have gz := gb_alloc (gb_refl w1 none) (.cells #[.slice a' n c', .int .i64 0, .bool false] 104)
  have hoff : l.length = 0 ∨ ∀ pb po, a' = some ⟨pb, po, none⟩ → pb < w1.heap.size := Or.inr fun pb po e => (hbs pb po e).2
  have hb := Blk.new w1 [.slice a' n c', .int .i64 0, .bool false] 104
  refine ⟨w1.heap.size, rfl, gb_trans hg gz, hg.size, ⟨a', n, c', 0, false, l, hb, hl, hn, Nat.zero_le _, ⟨(hB.stay gz).full, hoff⟩, Or.inr ⟨rfl, rfl⟩⟩, fun T w'' hT hg'' => ?_⟩
  exact ⟨a', n, c', 0, false, l, hb.grown hg'' (by have := hg.size; simp; omega), hl, hn, Nat.zero_le _, ⟨((hB.stay gz).apart hg'' (Or.inr fun pb po e => by have := (hbs pb po e).1; omega)).full, hoff⟩, Or.inr ⟨rfl, rfl⟩⟩
end Go.Proofs.YtlkiancedgaicaaGreat
