/- Records: mathematics. Their text and bytes, and what is read of any bytes. -/
import Derived.Test.YtohcoihdijemfaaWiM
import Derived.Test.YtohcoihdijemfaaVeM
namespace Go.Proofs.Ytohcoihdijemfaa
open Wi Ve
namespace Rc

structure R where
  key : List Nat
  cl : Int
  sq : Int
  cx : List D
  gone : Bool
  val : List Nat
  sig : List Nat
def R.dot (r : R) : D := (r.cl, r.sq)
def hasD (v : List D) (d : D) : Bool := rtB 0 v && okD d && decide (d.2 ≤ up v d.1)
def placedB (r : R) : Bool := okD r.dot && rtB 0 r.cx && !hasD r.cx r.dot
def keyB (r : R) : Bool := decide (1 ≤ r.key.length) && decide (r.key.length ≤ 64)
def valB (r : R) : Bool := decide (r.val.length ≤ if r.gone then 0 else 1024)
def shapeB (r : R) : Bool := keyB r && placedB r && valB r
def rightB (r : R) : Bool := shapeB r && decide (r.sig.length = 64)
def goneN (g : Bool) : Nat := if g then 1 else 0
def dotL (d : D) : List Nat := encN d.1 ++ encN d.2
def dotsL (l : List D) : List Nat := l.flatMap dotL
def rowL (l : List Nat) : List Nat := encN (l.length : Int) ++ l
def textL (r : R) : List Nat := 1 :: (rowL r.key ++ (dotL r.dot ++ (encN (r.cx.length : Int) ++ (dotsL r.cx ++ (goneN r.gone :: rowL r.val)))))
def putL (r : R) : List Nat := textL r ++ r.sig
def overB (a b : R) : Bool := shapeB a && shapeB b && decide (a.key = b.key) && hasD a.cx b.dot

/-- dots, one by one -/
def nS (st : St) : Nat → List D × St
  | 0 => ([], st)
  | k + 1 => ((nS st k).1 ++ [(toI (numS (nS st k).2).1, toI (numS (numS (nS st k).2).2).1)], (numS (numS (nS st k).2).2).2)
/-- bytes, one by one -/
def sS (st : St) : Nat → List Nat × St
  | 0 => ([], st)
  | k + 1 => ((sS st k).1 ++ [(byteS (sS st k).2).1], (byteS (sS st k).2).2)
/-- what is read, part by part: the state behind each -/
structure Rd where
  kind : Nat
  key : List Nat
  cl : Int
  sq : Int
  n : Int
  cx : List D
  gone : Nat
  val : List Nat
  sig : List Nat
  left : St
def s1 (st : St) : St := (byteS st).2
def s2 (st : St) : St := (bytesS 64 (s1 st)).2
def s3 (st : St) : St := (numS (s2 st)).2
def s4 (st : St) : St := (numS (s3 st)).2
def s5 (st : St) : St := (countS 8 (s4 st)).2
def cN (st : St) : Nat := (countS 8 (s4 st)).1.toNat
def s6 (st : St) : St := (nS (s5 st) (cN st)).2
def s7 (st : St) : St := (byteS (s6 st)).2
def s8 (st : St) : St := (bytesS 1024 (s7 st)).2
def s9 (st : St) : St := (sS (s8 st) 64).2
def kindR (st : St) : Nat := (byteS st).1
def goneR (st : St) : Nat := (byteS (s6 st)).1
def recR (st : St) : R where
  key := (bytesS 64 (s1 st)).1
  cl := toI (numS (s2 st)).1
  sq := toI (numS (s3 st)).1
  cx := (nS (s5 st) (cN st)).1
  gone := decide (goneR st = 1)
  val := (bytesS 1024 (s7 st)).1
  sig := (sS (s8 st) 64).1
/-- what Get tells -/
def getB (b : List Nat) : Bool := rightB (recR (some b)) && decide (putL (recR (some b)) = b)

theorem nS_succ (st : St) (k : Nat) : nS st (k + 1) = ((nS st k).1 ++ [(toI (numS (nS st k).2).1, toI (numS (numS (nS st k).2).2).1)], (numS (numS (nS st k).2).2).2) := rfl
theorem sS_succ (st : St) (k : Nat) : sS st (k + 1) = ((sS st k).1 ++ [(byteS (sS st k).2).1], (byteS (sS st k).2).2) := rfl
theorem nS_len (st : St) (k : Nat) : (nS st k).1.length = k := by
  induction k with
  | zero => rfl
  | succ k ih => simp [nS, ih]
theorem sS_len (st : St) (k : Nat) : (sS st k).1.length = k := by
  induction k with
  | zero => rfl
  | succ k ih => simp [sS, ih]
/-- bytes alone -/
def OkS (st : St) : Prop := ∀ l, st = some l → ∀ b ∈ l, b < 256

/-- few bytes -/
def Sm (st : St) : Prop := ∀ l, st = some l → l.length ≤ 1000000
theorem tells_sm {α : Type} (z : α) (f : List Nat → Option (α × List Nat)) (hf : ∀ l x r, f l = some (x, r) → r.length ≤ l.length) {st : St} (h : Sm st) : Sm (tells z f st).2 := by
  intro l hl
  cases st with
  | none => cases hl
  | some l0 =>
    unfold tells at hl
    cases hf2 : f l0 with
    | none => simp only [hf2] at hl; cases hl
    | some p =>
      obtain ⟨x, r⟩ := p
      simp only [hf2, Option.some.injEq] at hl
      subst hl
      exact Nat.le_trans (hf _ _ _ hf2) (h l0 rfl)
theorem rdWord_le (k : Nat) (l : List Nat) (x : Nat) (r : List Nat) (h : rdWord k l = some (x, r)) : r.length ≤ l.length := by
  unfold rdWord at h
  split at h
  · cases h; rw [List.length_drop]; omega
  · cases h
theorem rdCount_le (most : Int) (l : List Nat) (x : Int) (r : List Nat) (h : rdCount most l = some (x, r)) : r.length ≤ l.length := by
  unfold rdCount at h
  split at h
  · cases h; rw [List.length_drop]; omega
  · cases h
theorem rdBytes_le (most : Int) (l : List Nat) (x : List Nat) (r : List Nat) (h : rdBytes most l = some (x, r)) : r.length ≤ l.length := by
  unfold rdBytes at h
  split at h
  · cases h
  · rename_i n r' hc
    have := rdCount_le _ _ _ _ hc
    split at h
    · cases h; rw [List.length_drop]; omega
    · cases h
theorem count_nn {most : Int} (h : 0 ≤ most) (st : St) : 0 ≤ (countS most st).1 ∧ (countS most st).1 ≤ most := by
  cases st with
  | none => exact ⟨Int.le_refl _, h⟩
  | some l =>
    unfold countS tells rdCount
    by_cases h8 : 8 ≤ l.length ∧ 0 ≤ toI (wN (l.take 8)) ∧ toI (wN (l.take 8)) ≤ most
    · simp only [if_pos h8]; exact h8.2
    · simp only [if_neg h8]; exact ⟨Int.le_refl _, h⟩
theorem cN_is (st : St) : (countS 8 (s4 st)).1 = ((cN st : Nat) : Int) ∧ cN st ≤ 8 := by
  have h := count_nn (most := 8) (by decide) (s4 st)
  unfold cN
  omega
theorem sm_byte {st : St} (h : Sm st) : Sm (byteS st).2 := tells_sm _ _ (rdWord_le 1) h
theorem sm_num {st : St} (h : Sm st) : Sm (numS st).2 := tells_sm _ _ (rdWord_le 8) h
theorem sm_count {most : Int} {st : St} (h : Sm st) : Sm (countS most st).2 := tells_sm _ _ (rdCount_le most) h
theorem sm_bytes {most : Int} {st : St} (h : Sm st) : Sm (bytesS most st).2 := tells_sm _ _ (rdBytes_le most) h
theorem sm_nS {st : St} (h : Sm st) (k : Nat) : Sm (nS st k).2 := by
  induction k with
  | zero => exact h
  | succ k ih => exact sm_num (sm_num ih)
theorem sm_s7 {st : St} (h : Sm st) : Sm (s7 st) := sm_byte (sm_nS (sm_count (sm_num (sm_num (sm_bytes (sm_byte h))))) _)
theorem byte_inv {st : St} {r : List Nat} (h : (byteS st).2 = some r) : st = some ((byteS st).1 :: r) := by
  cases st with
  | none => cases h
  | some l =>
    cases l with
    | nil => simp [byteS, tells, rdWord] at h
    | cons x l =>
      simp [byteS, tells, rdWord] at h
      subst h
      simp [byteS, tells, rdWord, wN]
theorem num_inv {st : St} {r : List Nat} (h : (numS st).2 = some r) (ho : OkS st) : st = some (encN (toI (numS st).1) ++ r) := by
  cases st with
  | none => cases h
  | some l =>
    unfold numS tells rdWord at h ⊢
    by_cases h8 : 8 ≤ l.length
    · simp only [if_pos h8, Option.some.injEq] at h ⊢
      subst h
      have hb : ∀ b ∈ l.take 8, b < 256 := fun b hb => ho l rfl b (List.mem_of_mem_take hb)
      have hl : (l.take 8).length = 8 := by rw [List.length_take]; omega
      have hlt := wN_lt (l.take 8) hb
      rw [hl] at hlt
      unfold encN
      rw [ofI_toI (by simpa using hlt), encW_wN hl hb, List.take_append_drop]
    · simp only [if_neg h8] at h; cases h
theorem count_inv {most : Int} {st : St} {r : List Nat} (h : (countS most st).2 = some r) (ho : OkS st) : st = some (encN (countS most st).1 ++ r) ∧ 0 ≤ (countS most st).1 ∧ (countS most st).1 ≤ most := by
  cases st with
  | none => cases h
  | some l =>
    unfold countS tells rdCount at h ⊢
    by_cases h8 : 8 ≤ l.length ∧ 0 ≤ toI (wN (l.take 8)) ∧ toI (wN (l.take 8)) ≤ most
    · simp only [if_pos h8, Option.some.injEq] at h ⊢
      subst h
      refine ⟨?_, h8.2⟩
      have h9 := num_inv (st := some l) (r := l.drop 8) (by unfold numS tells rdWord; simp only [if_pos h8.1]) ho
      unfold numS tells rdWord at h9
      simp only [if_pos h8.1, Option.some.injEq] at h9
      exact h9
    · simp only [if_neg h8] at h; cases h
theorem bytes_inv {most : Int} {st : St} {r : List Nat} (h : (bytesS most st).2 = some r) (ho : OkS st) : st = some (rowL (bytesS most st).1 ++ r) ∧ ((bytesS most st).1.length : Int) ≤ most := by
  cases st with
  | none => cases h
  | some l =>
    unfold bytesS tells rdBytes at h ⊢
    cases hc : rdCount most l with
    | none => simp only [hc] at h; cases h
    | some p =>
      obtain ⟨n, q⟩ := p
      have e : countS most (some l) = (n, some q) := by unfold countS tells; simp only [hc]
      obtain ⟨h1, h2, h3⟩ := count_inv (most := most) (st := some l) (r := q) (by rw [e]) ho
      rw [e] at h1 h2 h3
      simp only at h1 h2 h3
      simp only [hc] at h ⊢
      by_cases hk : n.toNat ≤ q.length
      · simp only [if_pos hk, Option.some.injEq] at h ⊢
        subst h
        have hl : (q.take n.toNat).length = n.toNat := by rw [List.length_take]; omega
        refine ⟨?_, by rw [hl]; omega⟩
        unfold rowL
        rw [hl, Int.toNat_of_nonneg h2, List.append_assoc, List.take_append_drop]
        exact Option.some.inj h1
      · simp only [if_neg hk] at h; cases h
theorem okS_byte {st : St} (h : OkS st) : OkS (byteS st).2 := fun _ hl => by
  have e := byte_inv hl
  exact fun b hb => h _ e b (List.mem_cons_of_mem _ hb)
theorem okS_num {st : St} (h : OkS st) : OkS (numS st).2 := fun _ hl b hb => h _ (num_inv hl h) b (List.mem_append_right _ hb)
theorem okS_count {most : Int} {st : St} (h : OkS st) : OkS (countS most st).2 := fun _ hl b hb => h _ (count_inv hl h).1 b (List.mem_append_right _ hb)
theorem okS_bytes {most : Int} {st : St} (h : OkS st) : OkS (bytesS most st).2 := fun _ hl b hb => h _ (bytes_inv hl h).1 b (List.mem_append_right _ hb)
theorem okS_nS {st : St} (h : OkS st) (k : Nat) : OkS (nS st k).2 := by
  induction k with
  | zero => exact h
  | succ k ih => exact okS_num (okS_num ih)
theorem okS_sS {st : St} (h : OkS st) (k : Nat) : OkS (sS st k).2 := by
  induction k with
  | zero => exact h
  | succ k ih => exact okS_byte ih
theorem nS_inv {st : St} (ho : OkS st) : ∀ {k : Nat} {r : List Nat}, (nS st k).2 = some r → st = some (dotsL (nS st k).1 ++ r) := by
  intro k
  induction k with
  | zero => intro r h; simpa [nS, dotsL] using h
  | succ k ih =>
    intro r h
    have h2 := num_inv h (okS_num (okS_nS ho k))
    have h1 := num_inv h2 (okS_nS ho k)
    refine (ih h1).trans ?_
    simp [nS, dotsL, dotL]
theorem sS_inv {st : St} : ∀ {k : Nat} {r : List Nat}, (sS st k).2 = some r → st = some ((sS st k).1 ++ r) := by
  intro k
  induction k with
  | zero => intro r h; simpa [sS] using h
  | succ k ih =>
    intro r h
    have h1 := byte_inv h
    refine (ih h1).trans ?_
    simp [sS]
theorem byte_lt {st : St} (h : OkS st) : (byteS st).1 < 256 := by
  cases st with
  | none => decide
  | some l =>
    cases l with
    | nil => decide
    | cons x l =>
      have := h _ rfl x (by simp)
      simpa [byteS, tells, rdWord, wN] using this
theorem sS_lt {st : St} (h : OkS st) (k : Nat) : ∀ b ∈ (sS st k).1, b < 256 := by
  induction k with
  | zero => intro b hb; cases hb
  | succ k ih =>
    intro b hb
    rw [sS_succ] at hb
    rcases List.mem_append.1 hb with hb | hb
    · exact ih b hb
    · rw [List.mem_singleton.1 hb]; exact byte_lt (okS_sS h k)
theorem okS_s8 {st : St} (h : OkS st) : OkS (s8 st) := okS_bytes (okS_byte (okS_nS (okS_count (okS_num (okS_num (okS_bytes (okS_byte h))))) _))
theorem getD_lt {l : List Nat} (h : ∀ b ∈ l, b < 256) (i : Nat) : l.getD i 0 < 256 := by
  rw [List.getD_eq_getElem?_getD]
  cases hi : l[i]? with
  | none => decide
  | some x => exact h x (List.mem_of_getElem? hi)
theorem goneN_of {n : Nat} (h : n ≤ 1) : goneN (decide (n = 1)) = n := by
  rcases (by omega : n = 0 ∨ n = 1) with rfl | rfl <;> rfl
/-- where it came to the end, the bytes are those of what was read -/
theorem read_inv {b : List Nat} (ho : ∀ x ∈ b, x < 256) (h : s9 (some b) = some []) (hk : kindR (some b) = 1) (hg : goneR (some b) ≤ 1) : putL (recR (some b)) = b := by
  have o0 : OkS (some b) := fun l hl => by cases hl; exact ho
  have o1 : OkS (s1 (some b)) := okS_byte o0
  have o2 : OkS (s2 (some b)) := okS_bytes o1
  have o3 : OkS (s3 (some b)) := okS_num o2
  have o4 : OkS (s4 (some b)) := okS_num o3
  have o5 : OkS (s5 (some b)) := okS_count o4
  have o6 : OkS (s6 (some b)) := okS_nS o5 _
  have o7 : OkS (s7 (some b)) := okS_byte o6
  have o8 : OkS (s8 (some b)) := okS_bytes o7
  have e8 := sS_inv h
  have e7 := (bytes_inv e8 o7).1
  have e6 := byte_inv e7
  have e5 := nS_inv o5 e6
  obtain ⟨e4, hn0, _⟩ := count_inv e5 o4
  have e3 := num_inv e4 o3
  have e2 := num_inv e3 o2
  have e1 := (bytes_inv e2 o1).1
  have e0 := byte_inv e1
  have hgn := goneN_of hg
  have hc : (((nS (s5 (some b)) (cN (some b))).1.length : Nat) : Int) = (countS 8 (s4 (some b))).1 := by
    rw [nS_len]
    exact Int.toNat_of_nonneg hn0
  have hgo : (recR (some b)).gone = decide (goneR (some b) = 1) := rfl
  have e0' := Option.some.inj e0
  conv => rhs; rw [e0']
  unfold putL textL
  rw [hgo, hgn]
  show _ = kindR (some b) :: _
  rw [hk]
  unfold dotL
  simp only [List.append_assoc, List.cons_append, List.append_nil]
  rw [show (((recR (some b)).cx.length : Nat) : Int) = (countS 8 (s4 (some b))).1 from hc]
  rfl

theorem byte_put (x : Nat) (tl : List Nat) : byteS (some (x :: tl)) = (x, some tl) := by
  simp [byteS, tells, rdWord, wN]
theorem num_put2 (n : Int) (tl : List Nat) (h1 : -9223372036854775808 ≤ n) (h2 : n ≤ 9223372036854775807) : toI (numS (some (encN n ++ tl))).1 = n ∧ (numS (some (encN n ++ tl))).2 = some tl := num_put n tl h1 h2
theorem rdCount_put (most n : Int) (tl : List Nat) (h1 : 0 ≤ n) (h2 : n ≤ most) (h3 : n ≤ 9223372036854775807) : rdCount most (encN n ++ tl) = some (n, tl) := by
  have e1 : wN ((encN n ++ tl).take 8) = ofI n := by rw [take_app _ _ 8 (encN_length _)]; exact wN_encW (ofI_lt _)
  have e2 : toI (ofI n) = n := toI_ofI (by omega) h3
  unfold rdCount
  rw [e1, e2, drop_app _ _ 8 (encN_length _), if_pos ⟨by rw [List.length_append, encN_length]; omega, h1, h2⟩]
theorem count_put (most n : Int) (tl : List Nat) (h1 : 0 ≤ n) (h2 : n ≤ most) (h3 : n ≤ 9223372036854775807) : countS most (some (encN n ++ tl)) = (n, some tl) := by
  unfold countS tells
  simp only [rdCount_put most n tl h1 h2 h3]
theorem row_put (most : Int) (row tl : List Nat) (h : (row.length : Int) ≤ most) (h3 : row.length < 9223372036854775808) : bytesS most (some (rowL row ++ tl)) = (row, some tl) := by
  have e : rdBytes most (rowL row ++ tl) = some (row, tl) := by
    unfold rdBytes rowL
    rw [List.append_assoc, rdCount_put most row.length (row ++ tl) (by omega) h (by omega)]
    simp only [Int.toNat_natCast]
    rw [if_pos (by rw [List.length_append]; omega), take_app _ _ _ rfl, drop_app _ _ _ rfl]
  unfold bytesS tells
  simp only [e]
theorem nS_put (l : List D) (tl : List Nat) (h : ∀ d ∈ l, (-9223372036854775808 ≤ d.1 ∧ d.1 ≤ 9223372036854775807) ∧ -9223372036854775808 ≤ d.2 ∧ d.2 ≤ 9223372036854775807) : ∀ k, k ≤ l.length → nS (some (dotsL l ++ tl)) k = (l.take k, some (dotsL (l.drop k) ++ tl)) := by
  intro k
  induction k with
  | zero => intro _; simp [nS]
  | succ k ih =>
    intro hk
    have h0 := ih (by omega)
    have hd := drop_at l k (by omega)
    have hm := h (l.getD k z0) (by rw [List.getD_eq_getElem?_getD, List.getElem?_eq_getElem (by omega)]; exact List.getElem_mem _)
    have e : dotsL (l.drop k) ++ tl = encN (l.getD k z0).1 ++ (encN (l.getD k z0).2 ++ (dotsL (l.drop (k + 1)) ++ tl)) := by
      rw [hd]; simp [dotsL, dotL]
    obtain ⟨a1, a2⟩ := num_put (l.getD k z0).1 (encN (l.getD k z0).2 ++ (dotsL (l.drop (k + 1)) ++ tl)) hm.1.1 hm.1.2
    obtain ⟨b1, b2⟩ := num_put (l.getD k z0).2 (dotsL (l.drop (k + 1)) ++ tl) hm.2.1 hm.2.2
    rw [nS_succ, h0]
    dsimp only
    rw [e, a1, a2, b1, b2, List.take_succ_eq_append_getElem (by omega)]
    rw [show l.getD k z0 = l[k] by rw [List.getD_eq_getElem?_getD, List.getElem?_eq_getElem (by omega)]; rfl]
theorem sS_put (l tl : List Nat) : ∀ k, k ≤ l.length → sS (some (l ++ tl)) k = (l.take k, some (l.drop k ++ tl)) := by
  intro k
  induction k with
  | zero => intro _; simp [sS]
  | succ k ih =>
    intro hk
    have h0 := ih (by omega)
    have hd : l.drop k = l[k] :: l.drop (k + 1) := List.drop_eq_getElem_cons (by omega)
    rw [sS_succ, h0]
    dsimp only
    rw [hd, List.cons_append, byte_put, List.take_succ_eq_append_getElem (by omega)]
theorem okD_bd {d : D} (h : okD d = true) : (-9223372036854775808 ≤ d.1 ∧ d.1 ≤ 9223372036854775807) ∧ -9223372036854775808 ≤ d.2 ∧ d.2 ≤ 9223372036854775807 := by
  simp [okD] at h
  omega
theorem shape_of {r : R} (h : shapeB r = true) : 1 ≤ r.key.length ∧ r.key.length ≤ 64 ∧ okD r.dot = true ∧ Rt 0 r.cx ∧ r.val.length ≤ 1024 ∧ hasD r.cx r.dot = false := by
  simp only [shapeB, keyB, placedB, valB, Bool.and_eq_true, decide_eq_true_eq, Bool.not_eq_true'] at h
  obtain ⟨⟨⟨h1, h2⟩, ⟨h3, h4⟩, h5⟩, h6⟩ := h
  refine ⟨h1, h2, h3, (rtB_iff _ _).1 h4, ?_, h5⟩
  split at h6 <;> omega
/-- what is put is read as it was -/
theorem read_put {r : R} (h : shapeB r = true) (hs : r.sig.length = 64) (tl : List Nat) : kindR (some (putL r ++ tl)) = 1 ∧ goneR (some (putL r ++ tl)) = goneN r.gone ∧ recR (some (putL r ++ tl)) = r ∧ s9 (some (putL r ++ tl)) = some tl := by
  obtain ⟨k1, k2, k3, k4, k5, _⟩ := shape_of h
  have hcx : (r.cx.length : Int) ≤ 8 := by have := k4.len (by decide); omega
  have hb := okD_bd k3
  obtain ⟨T8, g8⟩ : ∃ T, T = r.sig ++ tl := ⟨_, rfl⟩
  obtain ⟨T7, g7⟩ : ∃ T, T = rowL r.val ++ T8 := ⟨_, rfl⟩
  obtain ⟨T6, g6⟩ : ∃ T, T = goneN r.gone :: T7 := ⟨_, rfl⟩
  obtain ⟨T5, g5⟩ : ∃ T, T = dotsL r.cx ++ T6 := ⟨_, rfl⟩
  obtain ⟨T4, g4⟩ : ∃ T, T = encN (r.cx.length : Int) ++ T5 := ⟨_, rfl⟩
  obtain ⟨T3, g3⟩ : ∃ T, T = encN r.sq ++ T4 := ⟨_, rfl⟩
  obtain ⟨T2, g2⟩ : ∃ T, T = encN r.cl ++ T3 := ⟨_, rfl⟩
  obtain ⟨T1, g1⟩ : ∃ T, T = rowL r.key ++ T2 := ⟨_, rfl⟩
  have e0 : putL r ++ tl = 1 :: T1 := by
    rw [g1, g2, g3, g4, g5, g6, g7, g8]
    simp [putL, textL, dotL, R.dot]
  rw [e0]
  have t0 := byte_put 1 T1
  have t1 := row_put 64 r.key T2 (by omega) (by omega)
  rw [← g1] at t1
  have t2 := num_put r.cl T3 hb.1.1 hb.1.2
  rw [← g2] at t2
  have t3 := num_put r.sq T4 hb.2.1 hb.2.2
  rw [← g3] at t3
  have t4 := count_put 8 r.cx.length T5 (by omega) hcx (by omega)
  rw [← g4] at t4
  have t5 := nS_put r.cx T6 (fun d hd => by have := k4.mem d hd; omega) _ (Nat.le_refl _)
  rw [← g5, List.take_length, List.drop_length, show dotsL [] ++ T6 = T6 from rfl] at t5
  have t6 := byte_put (goneN r.gone) T7
  rw [← g6] at t6
  have t7 := row_put 1024 r.val T8 (by omega) (by omega)
  rw [← g7] at t7
  have t8 := sS_put r.sig tl r.sig.length (Nat.le_refl _)
  rw [← g8, List.take_length, List.drop_length, hs, List.nil_append] at t8
  have q1 : s1 (some (1 :: T1)) = some T1 := by unfold s1; rw [t0]
  have q2 : s2 (some (1 :: T1)) = some T2 := by unfold s2; rw [q1, t1]
  have q3 : s3 (some (1 :: T1)) = some T3 := by unfold s3; rw [q2]; exact t2.2
  have q4 : s4 (some (1 :: T1)) = some T4 := by unfold s4; rw [q3]; exact t3.2
  have q5 : s5 (some (1 :: T1)) = some T5 := by unfold s5; rw [q4, t4]
  have qn : cN (some (1 :: T1)) = r.cx.length := by unfold cN; rw [q4, t4]; rfl
  have q6 : s6 (some (1 :: T1)) = some T6 := by unfold s6; rw [q5, qn, t5]
  have q7 : s7 (some (1 :: T1)) = some T7 := by unfold s7; rw [q6, t6]
  have q8 : s8 (some (1 :: T1)) = some T8 := by unfold s8; rw [q7, t7]
  have hg : goneR (some (1 :: T1)) = goneN r.gone := by unfold goneR; rw [q6, t6]
  refine ⟨by unfold kindR; rw [t0], hg, ?_, by unfold s9; rw [q8, t8]⟩
  unfold recR
  rw [hg, q1, t1, q2, t2.1, q3, t3.1, q5, qn, t5, q7, t7, q8, t8]
  cases r with
  | mk key cl sq cx gone val sig => cases gone <;> rfl
/-- the document's words and the program's are one -/
theorem get_is {b : List Nat} (ho : ∀ x ∈ b, x < 256) : getB b = (decide (s9 (some b) = some []) && decide (kindR (some b) = 1) && decide (goneR (some b) ≤ 1) && rightB (recR (some b))) := by
  rw [Bool.eq_iff_iff]
  simp only [getB, Bool.and_eq_true, decide_eq_true_eq]
  constructor
  · rintro ⟨h1, h2⟩
    have h3 := h1
    simp only [rightB, Bool.and_eq_true, decide_eq_true_eq] at h3
    obtain ⟨a1, a2, a3, a4⟩ := read_put h3.1 h3.2 []
    rw [List.append_nil, h2] at a1 a2 a4
    exact ⟨⟨⟨a4, a1⟩, by rw [a2]; unfold goneN; split <;> omega⟩, h1⟩
  · rintro ⟨⟨⟨h1, h2⟩, h3⟩, h4⟩
    exact ⟨h4, read_inv ho h1 h2 h3⟩
/-- what is put is got -/
theorem get_put {r : R} (h : rightB r = true) : getB (putL r) = true ∧ recR (some (putL r)) = r := by
  have h3 := h
  simp only [rightB, Bool.and_eq_true, decide_eq_true_eq] at h3
  obtain ⟨_, _, a3, _⟩ := read_put h3.1 h3.2 []
  rw [List.append_nil] at a3
  refine ⟨?_, a3⟩
  simp only [getB, a3, h, Bool.true_and, decide_true]
def R.bare (r : R) (s : List Nat) : R := { r with sig := s }
/-- one text, one record -/
theorem text_inj {a b : R} (ha : shapeB a = true) (hb : shapeB b = true) : textL a = textL b ↔ a.bare [] = b.bare [] := by
  constructor
  · intro h
    have z : (List.replicate 64 0).length = 64 := rfl
    have h1 := (read_put (r := a.bare (List.replicate 64 0)) ha z []).2.2.1
    have h2 := (read_put (r := b.bare (List.replicate 64 0)) hb z []).2.2.1
    have e : putL (a.bare (List.replicate 64 0)) = putL (b.bare (List.replicate 64 0)) := congrArg (· ++ List.replicate 64 0) h
    rw [e, h2] at h1
    have h3 : (a.bare (List.replicate 64 0)).bare [] = (b.bare (List.replicate 64 0)).bare [] := by rw [h1]
    exact h3
  · intro h
    have h3 : textL (a.bare []) = textL (b.bare []) := by rw [h]
    exact h3
theorem text_pos (r : R) : 0 < (textL r).length := by simp [textL]
/-- none is over itself -/
theorem over_self (a : R) : overB a a = false := by
  simp only [overB]
  cases h : shapeB a with
  | false => rfl
  | true => rw [(shape_of h).2.2.2.2.2]; simp
end Rc
end Go.Proofs.Ytohcoihdijemfaa
