/- The mathematics of a reader: what is left of its bytes, or nothing once it is not good; what rows and numbers come to, put and read. -/
import Derived.Test.YtlkiancedgaicaaGreatProg
namespace Go.Proofs.YtlkiancedgaicaaGreat
namespace Wi

/-- the number of bytes, the highest first -/
def wN (l : List Nat) : Nat := l.foldl (fun n b => n * 256 + b) 0
/-- a word as a number that may be below 0 -/
def toI (m : Nat) : Int := if m < 9223372036854775808 then (m : Int) else (m : Int) - 18446744073709551616
/-- a number as a word -/
def ofI (n : Int) : Nat := (n % 18446744073709551616).toNat
def encW (m : Nat) : List Nat := (List.range 8).map fun i => m / 2 ^ (8 * (7 - i)) % 256
def encN (n : Int) : List Nat := encW (ofI n)
theorem toI_ofI {n : Int} (h1 : -9223372036854775808 ≤ n) (h2 : n ≤ 9223372036854775807) : toI (ofI n) = n := by
  unfold toI ofI
  split <;> omega
theorem ofI_lt (n : Int) : ofI n < 18446744073709551616 := by unfold ofI; omega
theorem toI_range {m : Nat} (h : m < 18446744073709551616) : -9223372036854775808 ≤ toI m ∧ toI m ≤ 9223372036854775807 := by
  unfold toI
  split <;> omega
theorem ofI_toI {m : Nat} (h : m < 18446744073709551616) : ofI (toI m) = m := by
  unfold toI ofI
  split <;> omega
theorem encW_eq (m : Nat) : encW m = [m / 72057594037927936 % 256, m / 281474976710656 % 256, m / 1099511627776 % 256, m / 4294967296 % 256, m / 16777216 % 256, m / 65536 % 256, m / 256 % 256, m / 1 % 256] := rfl
theorem encW_length (m : Nat) : (encW m).length = 8 := by rw [encW_eq]; rfl
theorem encN_length (n : Int) : (encN n).length = 8 := encW_length _
theorem encW_byte (m i : Nat) : (encW m).getD i 0 < 256 := by
  rw [encW_eq]
  rcases i with _ | _ | _ | _ | _ | _ | _ | _ | i <;> simp <;> omega
theorem encN_byte (n : Int) (i : Nat) : (encN n).getD i 0 < 256 := encW_byte _ i
theorem wN_encW {m : Nat} (h : m < 18446744073709551616) : wN (encW m) = m := by
  rw [encW_eq]
  simp only [wN, List.foldl]
  omega
theorem wN_append (l : List Nat) (b : Nat) : wN (l ++ [b]) = wN l * 256 + b := by unfold wN; rw [List.foldl_append]; rfl
theorem wN_from (l : List Nat) (h : ∀ b ∈ l, b < 256) : ∀ n, l.foldl (fun n b => n * 256 + b) n < (n + 1) * 256 ^ l.length := by
  induction l with
  | nil => intro n; simp
  | cons b l ih =>
    intro n
    have h1 := ih (fun x hx => h x (List.mem_cons_of_mem _ hx)) (n * 256 + b)
    have h2 := h b (by simp)
    have h3 : (n * 256 + b + 1) * 256 ^ l.length ≤ ((n + 1) * 256) * 256 ^ l.length := Nat.mul_le_mul_right _ (by omega)
    rw [List.foldl_cons, List.length_cons, Nat.pow_succ, Nat.mul_comm (256 ^ l.length) 256, ← Nat.mul_assoc]
    omega
theorem wN_lt (l : List Nat) (h : ∀ b ∈ l, b < 256) : wN l < 256 ^ l.length := by
  have := wN_from l h 0
  unfold wN
  omega
theorem encW_wN {l : List Nat} (hl : l.length = 8) (h : ∀ b ∈ l, b < 256) : encW (wN l) = l := by
  rcases l with _ | ⟨a, _ | ⟨b, _ | ⟨c, _ | ⟨d, _ | ⟨e, _ | ⟨f, _ | ⟨g, _ | ⟨k, _ | _⟩⟩⟩⟩⟩⟩⟩⟩ <;> simp at hl
  have h1 := h a (by simp); have h2 := h b (by simp); have h3 := h c (by simp); have h4 := h d (by simp)
  have h5 := h e (by simp); have h6 := h f (by simp); have h7 := h g (by simp); have h8 := h k (by simp)
  rw [encW_eq]
  simp only [wN, List.foldl, List.cons.injEq, and_true]
  refine ⟨?_, ?_, ?_, ?_, ?_, ?_, ?_, ?_⟩ <;> omega

/-- what is left of a good reader's bytes -/
abbrev St := Option (List Nat)
def rdWord (k : Nat) (l : List Nat) : Option (Nat × List Nat) := if k ≤ l.length then some (wN (l.take k), l.drop k) else none
def rdCount (most : Int) (l : List Nat) : Option (Int × List Nat) :=
  if 8 ≤ l.length ∧ 0 ≤ toI (wN (l.take 8)) ∧ toI (wN (l.take 8)) ≤ most then some (toI (wN (l.take 8)), l.drop 8) else none
def rdBytes (most : Int) (l : List Nat) : Option (List Nat × List Nat) :=
  match rdCount most l with
  | none => none
  | some (n, r) => if n.toNat ≤ r.length then some (r.take n.toNat, r.drop n.toNat) else none
/-- what a call tells, and what is left behind it -/
def tells {α : Type} (z : α) (f : List Nat → Option (α × List Nat)) : St → α × St
  | none => (z, none)
  | some l => match f l with
    | none => (z, none)
    | some (x, r) => (x, some r)
def byteS : St → Nat × St := tells 0 (rdWord 1)
def numS : St → Nat × St := tells 0 (rdWord 8)
def countS (most : Int) : St → Int × St := tells 0 (rdCount most)
def bytesS (most : Int) : St → List Nat × St := tells [] (rdBytes most)

/-- rows are read, from the k-th on: nothing where one differs -/
def runRows : Nat → St → List (List Nat) → Option St
  | _, st, [] => some st
  | k, st, row :: rest => if (bytesS ((row.length : Int) + ((k % 3 : Nat) : Int)) st).1 = row then runRows (k + 1) (bytesS ((row.length : Int) + ((k % 3 : Nat) : Int)) st).2 rest else none
def runNums : St → List Int → Option St
  | st, [] => some st
  | st, n :: rest => if toI (numS st).1 = n then runNums (numS st).2 rest else none
def readsF (st : St) (rows : List (List Nat)) (nums : List Int) : Bool :=
  match runRows 0 st rows with
  | none => false
  | some st => match runNums st nums with
    | none => false
    | some st => decide (st = some [])
def encRows (rows : List (List Nat)) : List Nat := rows.flatMap fun r => encN (r.length : Int) ++ r
def encNums (nums : List Int) : List Nat := nums.flatMap encN

theorem take_app {α : Type} (a b : List α) (n : Nat) (h : a.length = n) : (a ++ b).take n = a := by rw [← h]; simp
theorem drop_app {α : Type} (a b : List α) (n : Nat) (h : a.length = n) : (a ++ b).drop n = b := by rw [← h]; simp
theorem bytes_put (row tl : List Nat) (k : Nat) (h : row.length < 9223372036854775808) : bytesS ((row.length : Int) + ((k % 3 : Nat) : Int)) (some (encN row.length ++ (row ++ tl))) = (row, some tl) := by
  have h1 : wN ((encN row.length ++ (row ++ tl)).take 8) = ofI row.length := by rw [take_app _ _ 8 (encN_length _)]; exact wN_encW (ofI_lt _)
  have h2 : toI (ofI row.length) = row.length := toI_ofI (by omega) (by omega)
  have h3 : rdCount ((row.length : Int) + ((k % 3 : Nat) : Int)) (encN row.length ++ (row ++ tl)) = some ((row.length : Int), row ++ tl) := by
    unfold rdCount
    rw [h1, h2, drop_app _ _ 8 (encN_length _), if_pos]
    refine ⟨by rw [List.length_append, encN_length]; omega, by omega, by omega⟩
  have h4 : rdBytes ((row.length : Int) + ((k % 3 : Nat) : Int)) (encN row.length ++ (row ++ tl)) = some (row, tl) := by
    unfold rdBytes
    rw [h3]
    simp only [Int.toNat_natCast]
    rw [if_pos (by rw [List.length_append]; omega), take_app _ _ _ rfl, drop_app _ _ _ rfl]
  unfold bytesS tells
  simp only [h4]
theorem num_put (n : Int) (tl : List Nat) (h1 : -9223372036854775808 ≤ n) (h2 : n ≤ 9223372036854775807) : toI (numS (some (encN n ++ tl))).1 = n ∧ (numS (some (encN n ++ tl))).2 = some tl := by
  have h : rdWord 8 (encN n ++ tl) = some (ofI n, tl) := by
    unfold rdWord
    rw [if_pos (by rw [List.length_append, encN_length]; omega), take_app _ _ 8 (encN_length _), drop_app _ _ 8 (encN_length _)]
    rw [show wN (encN n) = ofI n from wN_encW (ofI_lt _)]
  unfold numS tells
  simp only [h]
  exact ⟨toI_ofI h1 h2, trivial⟩
theorem runRows_put (rows : List (List Nat)) (tl : List Nat) (h : ∀ r ∈ rows, r.length < 9223372036854775808) : ∀ k, runRows k (some (encRows rows ++ tl)) rows = some (some tl) := by
  induction rows with
  | nil => intro k; rfl
  | cons row rest ih =>
    intro k
    have e : encRows (row :: rest) ++ tl = encN row.length ++ (row ++ (encRows rest ++ tl)) := by simp [encRows]
    unfold runRows
    rw [e, bytes_put _ _ _ (h row (by simp)), if_pos rfl]
    exact ih (fun r hr => h r (by simp [hr])) (k + 1)
theorem runNums_put (nums : List Int) (tl : List Nat) (h : ∀ n ∈ nums, -9223372036854775808 ≤ n ∧ n ≤ 9223372036854775807) : runNums (some (encNums nums ++ tl)) nums = some (some tl) := by
  induction nums with
  | nil => rfl
  | cons n rest ih =>
    have e : encNums (n :: rest) ++ tl = encN n ++ (encNums rest ++ tl) := by simp [encNums]
    obtain ⟨h1, h2⟩ := num_put n (encNums rest ++ tl) (h n (by simp)).1 (h n (by simp)).2
    unfold runNums
    rw [e, h1, h2, if_pos rfl]
    exact ih fun r hr => h r (by simp [hr])
theorem reads_put (rows : List (List Nat)) (nums : List Int) (h : ∀ r ∈ rows, r.length < 9223372036854775808) (h' : ∀ n ∈ nums, -9223372036854775808 ≤ n ∧ n ≤ 9223372036854775807) : readsF (some (encRows rows ++ encNums nums)) rows nums = true := by
  unfold readsF
  rw [runRows_put _ _ h]
  have := runNums_put nums [] h'
  rw [List.append_nil] at this
  simp [this]
/-- how many bytes it takes -/
def size (rows : List (List Nat)) : Nat := (rows.map fun r => 8 + r.length).sum
theorem bytes_some {most : Int} {st : St} {l : List Nat} (h : (bytesS most st).2 = some l) : ∃ l0, st = some l0 ∧ l0.length = 8 + (bytesS most st).1.length + l.length := by
  cases st with
  | none => cases h
  | some l0 =>
    refine ⟨l0, rfl, ?_⟩
    unfold bytesS tells at h ⊢
    cases hr : rdBytes most l0 with
    | none => simp only [hr] at h; cases h
    | some p =>
      obtain ⟨x, r⟩ := p
      simp only [hr, Option.some.injEq] at h ⊢
      subst h
      unfold rdBytes rdCount at hr
      split at hr
      · cases hr
      · rename_i n r' hc
        split at hc
        · rename_i h8
          cases hc
          split at hr
          · rename_i hle
            cases hr
            simp only [List.length_take, List.length_drop] at hle ⊢
            omega
          · cases hr
        · cases hc
theorem num_some {st : St} {l : List Nat} (h : (numS st).2 = some l) : ∃ l0, st = some l0 ∧ l0.length = 8 + l.length := by
  cases st with
  | none => cases h
  | some l0 =>
    refine ⟨l0, rfl, ?_⟩
    unfold numS tells rdWord at h
    by_cases h8 : 8 ≤ l0.length
    · simp only [if_pos h8, Option.some.injEq] at h
      subst h
      rw [List.length_drop]; omega
    · simp only [if_neg h8] at h; cases h
theorem runRows_some (rows : List (List Nat)) : ∀ (k : Nat) (st : St) (l : List Nat), runRows k st rows = some (some l) → ∃ l0, st = some l0 ∧ l0.length = size rows + l.length := by
  induction rows with
  | nil => intro k st l h; simp only [runRows, Option.some.injEq] at h; exact ⟨l, h, by simp [size]⟩
  | cons row rest ih =>
    intro k st l h
    unfold runRows at h
    split at h
    · rename_i hx
      obtain ⟨l1, h1, h2⟩ := ih _ _ _ h
      obtain ⟨l0, h3, h4⟩ := bytes_some h1
      refine ⟨l0, h3, ?_⟩
      rw [hx] at h4
      simp only [size, List.map_cons, List.sum_cons] at h2 ⊢
      omega
    · cases h
theorem runNums_some (nums : List Int) : ∀ (st : St) (l : List Nat), runNums st nums = some (some l) → ∃ l0, st = some l0 ∧ l0.length = 8 * nums.length + l.length := by
  induction nums with
  | nil => intro st l h; simp only [runNums, Option.some.injEq] at h; exact ⟨l, h, by simp⟩
  | cons n rest ih =>
    intro st l h
    unfold runNums at h
    split at h
    · obtain ⟨l1, h1, h2⟩ := ih _ _ h
      obtain ⟨l0, h3, h4⟩ := num_some h1
      refine ⟨l0, h3, ?_⟩
      simp only [List.length_cons]
      omega
    · cases h
theorem reads_length {l : List Nat} {rows : List (List Nat)} {nums : List Int} (h : readsF (some l) rows nums = true) : l.length = size rows + 8 * nums.length := by
  unfold readsF at h
  split at h
  · cases h
  · rename_i st hst
    split at h
    · cases h
    · rename_i st' hst'
      have h' : st' = some [] := of_decide_eq_true h
      subst h'
      obtain ⟨l1, h1, h2⟩ := runNums_some _ _ _ hst'
      subst h1
      obtain ⟨l0, h3, h4⟩ := runRows_some _ _ _ _ hst
      cases h3
      simp at h2
      omega
theorem encRows_length (rows : List (List Nat)) : (encRows rows).length = size rows := by
  unfold encRows size
  rw [List.length_flatMap]
  congr 1
  apply List.map_congr_left
  intro r _
  rw [List.length_append, encN_length]
theorem encNums_length (nums : List Int) : (encNums nums).length = 8 * nums.length := by
  induction nums with
  | nil => rfl
  | cons n rest ih =>
    have e : encNums (n :: rest) = encN n ++ encNums rest := by simp [encNums]
    rw [e, List.length_append, encN_length, ih, List.length_cons]; omega
theorem reads_other {l : List Nat} {rows : List (List Nat)} {nums : List Int} (h : l.length ≠ (encRows rows ++ encNums nums).length) : readsF (some l) rows nums = false := by
  cases hb : readsF (some l) rows nums with
  | false => rfl
  | true =>
    exact absurd (reads_length hb) (by rw [List.length_append, encRows_length, encNums_length] at h; exact h)
end Wi
end Go.Proofs.YtlkiancedgaicaaGreat
