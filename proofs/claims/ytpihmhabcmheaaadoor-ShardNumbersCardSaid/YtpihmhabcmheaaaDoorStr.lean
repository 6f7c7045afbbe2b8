/- Strings as bytes, and bytes as strings. -/
import Derived.Test.YtpihmhabcmheaaaDoorOwn
import Derived.Lib.ConvBytes
import Derived.Laws.BytesString
namespace Go.Proofs.YtpihmhabcmheaaaDoor
open Go.RowKit Ow

/-- a string's bytes -/
def strL (s : ByteArray) : List Nat := s.data.toList.map UInt8.toNat
theorem strL_len (s : ByteArray) : (strL s).length = s.size := by unfold strL; rw [List.length_map]; rfl
theorem strL_byte (s : ByteArray) (i : Nat) : (strL s).getD i 0 < 256 := by
  unfold strL
  rw [List.getD_eq_getElem?_getD, List.getElem?_map]
  cases s.data.toList[i]? with
  | none => decide
  | some b => exact b.toNat_lt
theorem strL_inj {s t : ByteArray} (h : strL s = strL t) : s = t := by
  unfold strL at h
  have h2 : s.data.toList = t.data.toList := List.map_inj_right (fun a b h => UInt8.toNat_inj.1 h) |>.1 h
  cases s; cases t
  simpa using h2
/-- two strings are one, just if their bytes are -/
theorem str_eq (s t : ByteArray) : (s.toList == t.toList) = decide (strL s = strL t) := by
  rw [ByteArray.toList_eq, ByteArray.toList_eq, Bool.eq_iff_iff]
  simp only [beq_iff_eq, decide_eq_true_eq]
  constructor
  · intro h; unfold strL; rw [h]
  · intro h; rw [strL_inj h]
def ofL (l : List Nat) : ByteArray := ⟨(l.map UInt8.ofNat).toArray⟩
theorem strL_ofL {l : List Nat} (h : ∀ i, l.getD i 0 < 256) : strL (ofL l) = l := by
  unfold strL ofL
  simp only [List.map_map]
  conv => rhs; rw [← List.map_id l]
  apply List.map_congr_left
  intro x hx
  obtain ⟨i, hi, rfl⟩ := List.getElem_of_mem hx
  have := h i
  rw [List.getD_eq_getElem?_getD, List.getElem?_eq_getElem hi] at this
  simp only [Option.getD_some] at this
  simp [UInt8.toNat_ofNat']
  omega
theorem gb_bytesWorld (w : World) (e : TypeId) (s : ByteArray) : w.grownBy (Lib.bytesWorld w e s) none := by
  refine ⟨rfl, rfl, rfl, by rw [Lib.bytesWorld_size]; omega, fun k hk _ => Lib.bytesWorld_at_old w e s k hk⟩
theorem cap_top (w : World) (n : Nat) (e : TypeId) (h : n < 9223372036854775808) : n ≤ grownCap w n 0 e ∧ grownCap w n 0 e < 9223372036854775808 := by
  have : ∀ t : Nat, n ≤ (Question.appendCap n 0 e).cut t ∧ (Question.appendCap n 0 e).cut t < 9223372036854775808 := fun t => by
    show n ≤ n + t % (2 ^ 63 - n) ∧ n + t % (2 ^ 63 - n) < 9223372036854775808
    have := Nat.mod_lt t (show 0 < 2 ^ 63 - n by omega)
    omega
  exact this _
/-- []byte(s) -/
theorem str_bytes (s : ByteArray) (w : World) (hs : s.size < 9223372036854775808) :
    ∃ c w', (convert 9 26 (.string s)).run Tryd.prog w = .ok (.slice (some ⟨w.heap.size, 0, none⟩) s.size c) w' ∧ w.grownBy w' none ∧ BytesAt w' w'.heap.size (some ⟨w.heap.size, 0, none⟩) c (strL s) := by
  have h := Lib.run_convert_string_bytes (P := Tryd.prog) w 9 26 5 s Tryd.underlying9 Tryd.underlying26 Tryd.underlying5
  refine ⟨_, _, h, gb_bytesWorld w _ s, Nat.le_refl _, by rw [strL_len]; exact (cap_top w s.size _ hs).1, (cap_top w s.size _ hs).2, strL_byte s, Or.inr ⟨w.heap.size, 0, rfl, by rw [Lib.bytesWorld_size]; omega, fun i hi => ?_⟩⟩
  rw [strL_len] at hi
  rw [Nat.zero_add, Lib.bytesWorld_cell w 5 s i hi]
  unfold u8N strL
  have hi2 : i < s.data.toList.length := hi
  simp only [List.getD_eq_getElem?_getD, List.getElem?_map, List.getElem?_eq_getElem hi2, Option.map_some, Option.getD_some]
theorem push_all (l : List Nat) : ∀ s : ByteArray, (l.map Int.ofNat).foldl (fun r n => r.push (UInt8.ofNat n.toNat)) s = ⟨s.data ++ (l.map UInt8.ofNat).toArray⟩ := by
  induction l with
  | nil => intro s; cases s; simp
  | cons x r ih =>
    intro s
    simp only [List.map_cons, List.foldl_cons]
    rw [ih]
    cases s
    simp [ByteArray.push]
/-- string(b) -/
theorem bytes_str {w : World} {B n cap : Nat} {a : Option Addr} {l : List Nat} (hn : l.length = n) (h : BytesAt w B a cap l) :
    (convert 26 9 (.slice a n cap)).run Tryd.prog w = .ok (.string (ofL l)) w := by
  subst hn
  rw [run_convert_bytes_string w 26 9 5 a l.length cap Tryd.underlying26 Tryd.underlying5 Tryd.underlying9]
  rcases h.cells with h0 | ⟨pb, po, rfl, hlt, hc⟩
  · obtain rfl : l = [] := List.eq_nil_of_length_eq_zero h0
    cases a with
    | none => rfl
    | some a =>
      exact run_bytesToString w a 0 cap [] (run_loadCells_list (P := Tryd.prog) (w := w) a [] (fun j v hv => by simp at hv))
  · rw [run_bytesToString w ⟨pb, po, none⟩ l.length cap (l.map Int.ofNat) ?_, push_all]
    · show Result.ok (Value.string ⟨#[] ++ (l.map UInt8.ofNat).toArray⟩) w = _
      rw [Array.empty_append]
      rfl
    · have hl := run_loadCells_list (P := Tryd.prog) (w := w) ⟨pb, po, none⟩ (l.map u8N) (fun j u hu => by
        have hj : j < l.length := by
          rcases Nat.lt_or_ge j l.length with h | h
          · exact h
          · rw [List.getElem?_eq_none (by simpa using h)] at hu; cases hu
        rw [Addr.add_lit, hc j hj, ← hu, u8_getD hj])
      rw [List.length_map] at hl
      rw [hl, List.map_map]
      rfl
end Go.Proofs.YtpihmhabcmheaaaDoor
