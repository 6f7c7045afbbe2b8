/- texts merged, part 1: XWiM XVeM XRcM XShaMem XOwn XStr XVeSearch XVeMem XVePlace XVeRight XVeCovers XMake XAppendMake XOpen XRowsArg XOwnRows XPart XFlow XFlow2 XFlow3 XFlowG XFlowS XWiJoin XWiNum XRcMem XVeRow XVeApp -/
import Derived.Test.YtlkiancedgaicaaGreatProg
import Derived.WalkKit
import Derived.Lib.Hide
import Derived.WalkSmall
import Derived.Laws.Rows
import Derived.Laws.Tables
import Derived.Laws.AppendOwn
import Derived.Laws.OwnMore
import Derived.Lib.ConvBytes
import Derived.Laws.BytesString
import Derived.Shelf.SlSorted.Search
import Derived.WalkSpells
import Derived.WalkLawsBesides
import Derived.BigQuiet
import Derived.Deep.QuietTactic
import Derived.Outline
import Derived.Lib.AppendZeros
import Derived.Lib.AppendZerosOnto
import Derived.Test.YtlkiancedgaicaaGreatChecked
import Derived.ProofKit
import Derived.OpenShut
import Derived.ShutString
import Derived.ChangeOld
import Derived.Deep.DeepHandedRow
import Derived.Lib.LaidTab
import Derived.SizedLaws
import Derived.Deep.Matrix
import Derived.Orders
import Derived.Deep.MidRow
import Derived.Deep.Cut
import Derived.Deep.RegionWith
import Derived.Laws.IdiomCopy
/- The mathematics of a reader: what is left of its bytes, or nothing once it is not good; what rows and numbers come to, put and read. -/
namespace Go.Proofs.YtlkiancedgaicaaGreat
namespace Wi

/-- the number of bytes, the highest first -/
def wN (l : List Nat) : Nat := l.foldl (fun n b => n * 256 + b) 0
/-- a word as a number that may be below 0 -/
def toI (m : Nat) : Int := if m < 9223372036854775808 then (m : Int) else (m : Int) - 18446744073709551616
/-- a number as a word -/
def ofI (n : Int) : Nat := (n % 18446744073709551616).toNat
def encW (m : Nat) : List Nat := (List.range 8).map fun i => m / 2 ^ (8 * (7 - i)) % 256
def encN (n : Int) : List Nat := encW (ofI n)
theorem toI_ofI {n : Int} (h1 : -9223372036854775808 ≤ n) (h2 : n ≤ 9223372036854775807) : toI (ofI n) = n := by
  unfold toI ofI
  split <;> omega
theorem ofI_lt (n : Int) : ofI n < 18446744073709551616 := by unfold ofI; omega
theorem toI_range {m : Nat} (h : m < 18446744073709551616) : -9223372036854775808 ≤ toI m ∧ toI m ≤ 9223372036854775807 := by
  unfold toI
  split <;> omega
theorem ofI_toI {m : Nat} (h : m < 18446744073709551616) : ofI (toI m) = m := by
  unfold toI ofI
  split <;> omega
theorem encW_eq (m : Nat) : encW m = [m / 72057594037927936 % 256, m / 281474976710656 % 256, m / 1099511627776 % 256, m / 4294967296 % 256, m / 16777216 % 256, m / 65536 % 256, m / 256 % 256, m / 1 % 256] := rfl
theorem encW_length (m : Nat) : (encW m).length = 8 := by rw [encW_eq]; rfl
theorem encN_length (n : Int) : (encN n).length = 8 := encW_length _
theorem encW_byte (m i : Nat) : (encW m).getD i 0 < 256 := by
  rw [encW_eq]
  rcases i with _ | _ | _ | _ | _ | _ | _ | _ | i <;> simp <;> omega
theorem encN_byte (n : Int) (i : Nat) : (encN n).getD i 0 < 256 := encW_byte _ i
theorem wN_encW {m : Nat} (h : m < 18446744073709551616) : wN (encW m) = m := by
  rw [encW_eq]
  simp only [wN, List.foldl]
  omega
theorem wN_append (l : List Nat) (b : Nat) : wN (l ++ [b]) = wN l * 256 + b := by unfold wN; rw [List.foldl_append]; rfl
theorem wN_from (l : List Nat) (h : ∀ b ∈ l, b < 256) : ∀ n, l.foldl (fun n b => n * 256 + b) n < (n + 1) * 256 ^ l.length := by
  induction l with
  | nil => intro n; simp
  | cons b l ih =>
    intro n
    have h1 := ih (fun x hx => h x (List.mem_cons_of_mem _ hx)) (n * 256 + b)
    have h2 := h b (by simp)
    have h3 : (n * 256 + b + 1) * 256 ^ l.length ≤ ((n + 1) * 256) * 256 ^ l.length := Nat.mul_le_mul_right _ (by omega)
    rw [List.foldl_cons, List.length_cons, Nat.pow_succ, Nat.mul_comm (256 ^ l.length) 256, ← Nat.mul_assoc]
    omega
theorem wN_lt (l : List Nat) (h : ∀ b ∈ l, b < 256) : wN l < 256 ^ l.length := by
  have := wN_from l h 0
  unfold wN
  omega
theorem encW_wN {l : List Nat} (hl : l.length = 8) (h : ∀ b ∈ l, b < 256) : encW (wN l) = l := by
  rcases l with _ | ⟨a, _ | ⟨b, _ | ⟨c, _ | ⟨d, _ | ⟨e, _ | ⟨f, _ | ⟨g, _ | ⟨k, _ | _⟩⟩⟩⟩⟩⟩⟩⟩ <;> simp at hl
  have h1 := h a (by simp); have h2 := h b (by simp); have h3 := h c (by simp); have h4 := h d (by simp)
  have h5 := h e (by simp); have h6 := h f (by simp); have h7 := h g (by simp); have h8 := h k (by simp)
  rw [encW_eq]
  simp only [wN, List.foldl, List.cons.injEq, and_true]
  refine ⟨?_, ?_, ?_, ?_, ?_, ?_, ?_, ?_⟩ <;> omega

/-- what is left of a good reader's bytes -/
abbrev St := Option (List Nat)
def rdWord (k : Nat) (l : List Nat) : Option (Nat × List Nat) := if k ≤ l.length then some (wN (l.take k), l.drop k) else none
def rdCount (most : Int) (l : List Nat) : Option (Int × List Nat) :=
  if 8 ≤ l.length ∧ 0 ≤ toI (wN (l.take 8)) ∧ toI (wN (l.take 8)) ≤ most then some (toI (wN (l.take 8)), l.drop 8) else none
def rdBytes (most : Int) (l : List Nat) : Option (List Nat × List Nat) :=
  match rdCount most l with
  | none => none
  | some (n, r) => if n.toNat ≤ r.length then some (r.take n.toNat, r.drop n.toNat) else none
/-- what a call tells, and what is left behind it -/
def tells {α : Type} (z : α) (f : List Nat → Option (α × List Nat)) : St → α × St
  | none => (z, none)
  | some l => match f l with
    | none => (z, none)
    | some (x, r) => (x, some r)
def byteS : St → Nat × St := tells 0 (rdWord 1)
def numS : St → Nat × St := tells 0 (rdWord 8)
def countS (most : Int) : St → Int × St := tells 0 (rdCount most)
def bytesS (most : Int) : St → List Nat × St := tells [] (rdBytes most)

/-- rows are read, from the k-th on: nothing where one differs -/
def runRows : Nat → St → List (List Nat) → Option St
  | _, st, [] => some st
  | k, st, row :: rest => if (bytesS ((row.length : Int) + ((k % 3 : Nat) : Int)) st).1 = row then runRows (k + 1) (bytesS ((row.length : Int) + ((k % 3 : Nat) : Int)) st).2 rest else none
def runNums : St → List Int → Option St
  | st, [] => some st
  | st, n :: rest => if toI (numS st).1 = n then runNums (numS st).2 rest else none
def readsF (st : St) (rows : List (List Nat)) (nums : List Int) : Bool :=
  match runRows 0 st rows with
  | none => false
  | some st => match runNums st nums with
    | none => false
    | some st => decide (st = some [])
def encRows (rows : List (List Nat)) : List Nat := rows.flatMap fun r => encN (r.length : Int) ++ r
def encNums (nums : List Int) : List Nat := nums.flatMap encN

theorem take_app {α : Type} (a b : List α) (n : Nat) (h : a.length = n) : (a ++ b).take n = a := by rw [← h]; simp
theorem drop_app {α : Type} (a b : List α) (n : Nat) (h : a.length = n) : (a ++ b).drop n = b := by rw [← h]; simp
theorem bytes_put (row tl : List Nat) (k : Nat) (h : row.length < 9223372036854775808) : bytesS ((row.length : Int) + ((k % 3 : Nat) : Int)) (some (encN row.length ++ (row ++ tl))) = (row, some tl) := by
  have h1 : wN ((encN row.length ++ (row ++ tl)).take 8) = ofI row.length := by rw [take_app _ _ 8 (encN_length _)]; exact wN_encW (ofI_lt _)
  have h2 : toI (ofI row.length) = row.length := toI_ofI (by omega) (by omega)
  have h3 : rdCount ((row.length : Int) + ((k % 3 : Nat) : Int)) (encN row.length ++ (row ++ tl)) = some ((row.length : Int), row ++ tl) := by
    unfold rdCount
    rw [h1, h2, drop_app _ _ 8 (encN_length _), if_pos]
    refine ⟨by rw [List.length_append, encN_length]; omega, by omega, by omega⟩
  have h4 : rdBytes ((row.length : Int) + ((k % 3 : Nat) : Int)) (encN row.length ++ (row ++ tl)) = some (row, tl) := by
    unfold rdBytes
    rw [h3]
    simp only [Int.toNat_natCast]
    rw [if_pos (by rw [List.length_append]; omega), take_app _ _ _ rfl, drop_app _ _ _ rfl]
  unfold bytesS tells
  simp only [h4]
theorem num_put (n : Int) (tl : List Nat) (h1 : -9223372036854775808 ≤ n) (h2 : n ≤ 9223372036854775807) : toI (numS (some (encN n ++ tl))).1 = n ∧ (numS (some (encN n ++ tl))).2 = some tl := by
  have h : rdWord 8 (encN n ++ tl) = some (ofI n, tl) := by
    unfold rdWord
    rw [if_pos (by rw [List.length_append, encN_length]; omega), take_app _ _ 8 (encN_length _), drop_app _ _ 8 (encN_length _)]
    rw [show wN (encN n) = ofI n from wN_encW (ofI_lt _)]
  unfold numS tells
  simp only [h]
  exact ⟨toI_ofI h1 h2, trivial⟩
theorem runRows_put (rows : List (List Nat)) (tl : List Nat) (h : ∀ r ∈ rows, r.length < 9223372036854775808) : ∀ k, runRows k (some (encRows rows ++ tl)) rows = some (some tl) := by
  induction rows with
  | nil => intro k; rfl
  | cons row rest ih =>
    intro k
    have e : encRows (row :: rest) ++ tl = encN row.length ++ (row ++ (encRows rest ++ tl)) := by simp [encRows]
    unfold runRows
    rw [e, bytes_put _ _ _ (h row (by simp)), if_pos rfl]
    exact ih (fun r hr => h r (by simp [hr])) (k + 1)
theorem runNums_put (nums : List Int) (tl : List Nat) (h : ∀ n ∈ nums, -9223372036854775808 ≤ n ∧ n ≤ 9223372036854775807) : runNums (some (encNums nums ++ tl)) nums = some (some tl) := by
  induction nums with
  | nil => rfl
  | cons n rest ih =>
    have e : encNums (n :: rest) ++ tl = encN n ++ (encNums rest ++ tl) := by simp [encNums]
    obtain ⟨h1, h2⟩ := num_put n (encNums rest ++ tl) (h n (by simp)).1 (h n (by simp)).2
    unfold runNums
    rw [e, h1, h2, if_pos rfl]
    exact ih fun r hr => h r (by simp [hr])
theorem reads_put (rows : List (List Nat)) (nums : List Int) (h : ∀ r ∈ rows, r.length < 9223372036854775808) (h' : ∀ n ∈ nums, -9223372036854775808 ≤ n ∧ n ≤ 9223372036854775807) : readsF (some (encRows rows ++ encNums nums)) rows nums = true := by
  unfold readsF
  rw [runRows_put _ _ h]
  have := runNums_put nums [] h'
  rw [List.append_nil] at this
  simp [this]
/-- how many bytes it takes -/
def size (rows : List (List Nat)) : Nat := (rows.map fun r => 8 + r.length).sum
theorem bytes_some {most : Int} {st : St} {l : List Nat} (h : (bytesS most st).2 = some l) : ∃ l0, st = some l0 ∧ l0.length = 8 + (bytesS most st).1.length + l.length := by
  cases st with
  | none => cases h
  | some l0 =>
    refine ⟨l0, rfl, ?_⟩
    unfold bytesS tells at h ⊢
    cases hr : rdBytes most l0 with
    | none => simp only [hr] at h; cases h
    | some p =>
      obtain ⟨x, r⟩ := p
      simp only [hr, Option.some.injEq] at h ⊢
      subst h
      unfold rdBytes rdCount at hr
      split at hr
      · cases hr
      · rename_i n r' hc
        split at hc
        · rename_i h8
          cases hc
          split at hr
          · rename_i hle
            cases hr
            simp only [List.length_take, List.length_drop] at hle ⊢
            omega
          · cases hr
        · cases hc
theorem num_some {st : St} {l : List Nat} (h : (numS st).2 = some l) : ∃ l0, st = some l0 ∧ l0.length = 8 + l.length := by
  cases st with
  | none => cases h
  | some l0 =>
    refine ⟨l0, rfl, ?_⟩
    unfold numS tells rdWord at h
    by_cases h8 : 8 ≤ l0.length
    · simp only [if_pos h8, Option.some.injEq] at h
      subst h
      rw [List.length_drop]; omega
    · simp only [if_neg h8] at h; cases h
theorem runRows_some (rows : List (List Nat)) : ∀ (k : Nat) (st : St) (l : List Nat), runRows k st rows = some (some l) → ∃ l0, st = some l0 ∧ l0.length = size rows + l.length := by
  induction rows with
  | nil => intro k st l h; simp only [runRows, Option.some.injEq] at h; exact ⟨l, h, by simp [size]⟩
  | cons row rest ih =>
    intro k st l h
    unfold runRows at h
    split at h
    · rename_i hx
      obtain ⟨l1, h1, h2⟩ := ih _ _ _ h
      obtain ⟨l0, h3, h4⟩ := bytes_some h1
      refine ⟨l0, h3, ?_⟩
      rw [hx] at h4
      simp only [size, List.map_cons, List.sum_cons] at h2 ⊢
      omega
    · cases h
theorem runNums_some (nums : List Int) : ∀ (st : St) (l : List Nat), runNums st nums = some (some l) → ∃ l0, st = some l0 ∧ l0.length = 8 * nums.length + l.length := by
  induction nums with
  | nil => intro st l h; simp only [runNums, Option.some.injEq] at h; exact ⟨l, h, by simp⟩
  | cons n rest ih =>
    intro st l h
    unfold runNums at h
    split at h
    · obtain ⟨l1, h1, h2⟩ := ih _ _ h
      obtain ⟨l0, h3, h4⟩ := num_some h1
      refine ⟨l0, h3, ?_⟩
      simp only [List.length_cons]
      omega
    · cases h
theorem reads_length {l : List Nat} {rows : List (List Nat)} {nums : List Int} (h : readsF (some l) rows nums = true) : l.length = size rows + 8 * nums.length := by
  unfold readsF at h
  split at h
  · cases h
  · rename_i st hst
    split at h
    · cases h
    · rename_i st' hst'
      have h' : st' = some [] := of_decide_eq_true h
      subst h'
      obtain ⟨l1, h1, h2⟩ := runNums_some _ _ _ hst'
      subst h1
      obtain ⟨l0, h3, h4⟩ := runRows_some _ _ _ _ hst
      cases h3
      simp at h2
      omega
theorem encRows_length (rows : List (List Nat)) : (encRows rows).length = size rows := by
  unfold encRows size
  rw [List.length_flatMap]
  congr 1
  apply List.map_congr_left
  intro r _
  rw [List.length_append, encN_length]
theorem encNums_length (nums : List Int) : (encNums nums).length = 8 * nums.length := by
  induction nums with
  | nil => rfl
  | cons n rest ih =>
    have e : encNums (n :: rest) = encN n ++ encNums rest := by simp [encNums]
    rw [e, List.length_append, encN_length, ih, List.length_cons]; omega
theorem reads_other {l : List Nat} {rows : List (List Nat)} {nums : List Int} (h : l.length ≠ (encRows rows ++ encNums nums).length) : readsF (some l) rows nums = false := by
  cases hb : readsF (some l) rows nums with
  | false => rfl
  | true =>
    exact absurd (reads_length hb) (by rw [List.length_append, encRows_length, encNums_length] at h; exact h)
end Wi
end Go.Proofs.YtlkiancedgaicaaGreat

/- Vectors of dots: mathematics. A dot is a pair of numbers (client, seq). -/
namespace Go.Proofs.YtlkiancedgaicaaGreat
namespace Ve

abbrev D := Int × Int
abbrev z0 : D := (0, 0)
/-- right behind a client: clients rise, all are right -/
def Rt : Int → List D → Prop
  | _, [] => True
  | a, d :: r => a < d.1 ∧ d.1 ≤ 8 ∧ 1 ≤ d.2 ∧ d.2 ≤ 1073741824 ∧ Rt d.1 r
def rtB : Int → List D → Bool
  | _, [] => true
  | a, d :: r => (decide (a < d.1) && decide (d.1 ≤ 8) && decide (1 ≤ d.2) && decide (d.2 ≤ 1073741824)) && rtB d.1 r
theorem rtB_iff (l : List D) : ∀ a, rtB a l = true ↔ Rt a l := by
  induction l with
  | nil => intro a; simp [rtB, Rt]
  | cons d r ih => intro a; simp [rtB, Rt, ih, and_assoc]
theorem rtB_false (l : List D) (a : Int) : rtB a l = false ↔ ¬ Rt a l := by rw [← rtB_iff]; simp
/-- up to which number a row has a client's: the first that is met; 0: none -/
def up : List D → Int → Int
  | [], _ => 0
  | d :: r, c => if d.1 = c then d.2 else up r c
/-- the greatest number of a client's -/
def um : List D → Int → Int
  | [], _ => 0
  | d :: r, c => if d.1 = c then max d.2 (um r c) else um r c
theorem drop_at (l : List D) (k : Nat) (h : k < l.length) : l.drop k = l.getD k z0 :: l.drop (k + 1) := by
  rw [List.drop_eq_getElem_cons h, List.getD_eq_getElem?_getD, List.getElem?_eq_getElem h]; rfl
theorem drop_end (l : List D) (k : Nat) (h : l.length ≤ k) : l.drop k = [] := List.drop_eq_nil_iff.2 h

theorem Rt.low {l : List D} : ∀ {a b : Int}, b ≤ a → Rt a l → Rt b l := by
  cases l with
  | nil => intro a b _ _; trivial
  | cons d r => intro a b hab h; exact ⟨by have := h.1; omega, h.2⟩
theorem Rt.mem {l : List D} : ∀ {a : Int}, Rt a l → ∀ d ∈ l, a < d.1 ∧ d.1 ≤ 8 ∧ 1 ≤ d.2 ∧ d.2 ≤ 1073741824 := by
  induction l with
  | nil => intro a _ d hd; cases hd
  | cons e r ih =>
    intro a h d hd
    rcases List.mem_cons.1 hd with rfl | hd
    · exact ⟨h.1, h.2.1, h.2.2.1, h.2.2.2.1⟩
    · have := ih h.2.2.2.2 d hd
      have := h.1
      omega
theorem Rt.len {l : List D} : ∀ {a : Int}, Rt a l → a ≤ 8 → (l.length : Int) ≤ 8 - a := by
  induction l with
  | nil => intro a _ h; simp; omega
  | cons e r ih => intro a h ha; have := ih h.2.2.2.2 h.2.1; have := h.1; simp; omega
theorem Rt.drop {l : List D} (k : Nat) : ∀ {a : Int}, Rt a l → Rt a (l.drop k) := by
  induction k generalizing l with
  | zero => intro a h; simpa using h
  | succ k ih =>
    cases l with
    | nil => intro a _; simp [Rt]
    | cons e r => intro a h; exact ih (h.2.2.2.2.low (by have := h.1; omega))
theorem up_lo {l : List D} : ∀ {a : Int} {c : Int}, Rt a l → c ≤ a → up l c = 0 := by
  induction l with
  | nil => intros; rfl
  | cons e r ih => intro a c h hc; have := h.1; rw [up, if_neg (by omega)]; exact ih h.2.2.2.2 (by omega)
theorem up_hi {l : List D} : ∀ {a : Int} {c : Int}, Rt a l → 8 < c → up l c = 0 := by
  induction l with
  | nil => intros; rfl
  | cons e r ih => intro a c h hc; have := h.2.1; rw [up, if_neg (by omega)]; exact ih h.2.2.2.2 hc
theorem up_bd {l : List D} : ∀ {a : Int} {c : Int}, Rt a l → 0 ≤ up l c ∧ up l c ≤ 1073741824 := by
  induction l with
  | nil => intros; simp [up]
  | cons e r ih =>
    intro a c h
    have h1 := h.2.2.1
    have h2 := h.2.2.2.1
    rw [up]
    split
    · omega
    · exact ih h.2.2.2.2
theorem um_up {l : List D} : ∀ {a : Int}, Rt a l → ∀ c, um l c = up l c := by
  induction l with
  | nil => intros; rfl
  | cons e r ih =>
    intro a h c
    rw [um, up, ih h.2.2.2.2]
    split
    · rename_i he
      rw [up_lo h.2.2.2.2 (by omega)]
      have := h.2.2.1
      omega
    · rfl
/-- two vectors that have the same are the same -/
theorem up_ext {l : List D} : ∀ {m : List D} {a : Int}, Rt a l → Rt a m → (∀ c, up l c = up m c) → l = m := by
  induction l with
  | nil =>
    intro m a _ hm h
    cases m with
    | nil => rfl
    | cons e s => have := h e.1; rw [up, up, if_pos rfl] at this; have := hm.2.2.1; omega
  | cons d r ih =>
    intro m a hl hm h
    cases m with
    | nil => have := h d.1; rw [up, up, if_pos rfl] at this; have := hl.2.2.1; omega
    | cons e s =>
      have h1 := hl.2.2.1
      have h2 := hm.2.2.1
      have hd := h d.1
      have he := h e.1
      rw [up, if_pos rfl, up] at hd
      rw [up, up, if_pos rfl] at he
      have hde : d.1 = e.1 := by
        rcases Int.lt_trichotomy d.1 e.1 with hlt | heq | hgt
        · rw [if_neg (by omega), up_lo hm.2.2.2.2 (by omega)] at hd; omega
        · exact heq
        · rw [if_neg (by omega), up_lo hl.2.2.2.2 (by omega)] at he; omega
      rw [if_pos hde.symm] at hd
      obtain ⟨d1, d2⟩ := d
      obtain ⟨e1, e2⟩ := e
      simp only at hde hd
      subst hde
      subst hd
      rw [ih hl.2.2.2.2 hm.2.2.2.2 (fun c => by
        have hc := h c
        rw [up, up] at hc
        by_cases hcc : d1 = c
        · subst hcc
          rw [up_lo hl.2.2.2.2 (Int.le_refl _), up_lo hm.2.2.2.2 (Int.le_refl _)]
        · simpa [hcc] using hc)]
theorem um_nn (l : List D) (c : Int) : 0 ≤ um l c := by
  induction l with
  | nil => simp [um]
  | cons d r ih => rw [um]; split <;> omega
/-- what all rows have -/
def mx : List (List D) → Int → Int
  | [], _ => 0
  | l :: r, c => max (um l c) (mx r c)
theorem mx_nn (rs : List (List D)) (c : Int) : 0 ≤ mx rs c := by
  induction rs with
  | nil => simp [mx]
  | cons l r ih => rw [mx]; omega
def allB : List (List D) → Bool
  | [] => true
  | l :: r => rtB 0 l && allB r
/-- has all of another one -/
def covB (a : List D) : List D → Bool
  | [] => true
  | d :: r => decide (d.2 ≤ up a d.1) && covB a r
def okD (d : D) : Bool := decide (1 ≤ d.1) && decide (d.1 ≤ 8) && decide (1 ≤ d.2) && decide (d.2 ≤ 1073741824)
theorem okD_iff (d : D) : okD d = true ↔ Rt 0 [d] := by
  simp [okD, Rt, and_assoc]; omega
theorem rtB_one (d : D) : rtB 0 [d] = okD d := by
  rw [Bool.eq_iff_iff, okD_iff, rtB_iff]
theorem covB_iff (a b : List D) : covB a b = true ↔ ∀ d ∈ b, d.2 ≤ up a d.1 := by
  induction b with
  | nil => simp [covB]
  | cons d r ih => simp [covB, ih]
theorem up_mem {l : List D} : ∀ {c : Int}, up l c ≠ 0 → (c, up l c) ∈ l := by
  induction l with
  | nil => intro c h; exact absurd rfl h
  | cons d r ih =>
    intro c h
    rw [up] at h ⊢
    split
    · rename_i hd; subst hd; simp
    · rename_i hd; rw [if_neg hd] at h; exact List.mem_cons_of_mem _ (ih h)
theorem mem_up {l : List D} : ∀ {a : Int}, Rt a l → ∀ d ∈ l, up l d.1 = d.2 := by
  induction l with
  | nil => intro a _ d hd; cases hd
  | cons e r ih =>
    intro a h d hd
    rcases List.mem_cons.1 hd with rfl | hd
    · rw [up, if_pos rfl]
    · have := (Rt.mem h.2.2.2.2 d hd).1
      rw [up, if_neg (by omega)]
      exact ih h.2.2.2.2 d hd
theorem covB_up {a b : List D} (ha : Rt 0 a) (hb : Rt 0 b) : covB a b = true ↔ ∀ c, up b c ≤ up a c := by
  rw [covB_iff]
  constructor
  · intro h c
    by_cases h0 : up b c = 0
    · have := (up_bd (c := c) ha).1; omega
    · exact h _ (up_mem h0)
  · intro h d hd
    have := h d.1
    rw [mem_up hb d hd] at this
    exact this
/-- the place of a client -/
def pl (l : List D) (c : Int) : Nat := (List.range l.length).countP (fun i => !decide (c ≤ (l.getD i z0).1))
def nx (l : List D) (k : Nat) (d : D) : List D := l.take k ++ d :: l.drop k
theorem Rt.at_lt {l : List D} : ∀ {a : Int}, Rt a l → ∀ i j, i < j → j < l.length → (l.getD i z0).1 < (l.getD j z0).1 := by
  induction l with
  | nil => intro a _ i j _ h; simp at h
  | cons e r ih =>
    intro a h i j hij hj
    cases j with
    | zero => omega
    | succ j =>
      simp only [List.length_cons] at hj
      cases i with
      | zero =>
        simp only [List.getD_cons_zero, List.getD_cons_succ]
        have hm : r.getD j z0 ∈ r := by
          rw [List.getD_eq_getElem?_getD, List.getElem?_eq_getElem (by omega)]; exact List.getElem_mem _
        exact (Rt.mem h.2.2.2.2 _ hm).1
      | succ i =>
        simp only [List.getD_cons_succ]
        exact ih h.2.2.2.2 i j (by omega) (by omega)
/-- the place: all before are less, none behind is -/
theorem countP_at (p : Nat → Bool) (n : Nat) (hm : ∀ a b, a ≤ b → b < n → p a = true → p b = true) : ∃ k, (List.range n).countP (fun i => !p i) = k ∧ k ≤ n ∧ (∀ i, i < k → p i = false) ∧ ∀ i, k ≤ i → i < n → p i = true := by
  induction n with
  | zero => exact ⟨0, rfl, by omega, fun i h => by omega, fun i _ h => by omega⟩
  | succ n ih =>
    obtain ⟨k, hk, hkn, h1, h2⟩ := ih (fun a b hab hb => hm a b hab (by omega))
    rw [List.range_succ, List.countP_append, hk]
    by_cases hp : p n = true
    · exact ⟨k, by simp [hp], by omega, h1, fun i hi hn => by
        by_cases hin : i = n
        · subst hin; exact hp
        · exact h2 i hi (by omega)⟩
    · have hp' : p n = false := by simpa using hp
      have hkk : k = n := by
        rcases Nat.lt_or_ge k n with hlt | hge
        · exact absurd (hm k n (by omega) (by omega) (h2 k (Nat.le_refl _) hlt)) hp
        · omega
      subst hkk
      refine ⟨k + 1, by simp [hp'], by omega, fun i hi => ?_, fun i hi hn => by omega⟩
      by_cases hin : i = k
      · subst hin; exact hp'
      · exact h1 i (by omega)
theorem pl_is {l : List D} {a : Int} (h : Rt a l) (c : Int) : pl l c ≤ l.length ∧ (∀ i, i < pl l c → (l.getD i z0).1 < c) ∧ ∀ i, pl l c ≤ i → i < l.length → c ≤ (l.getD i z0).1 := by
  obtain ⟨k, hk, hkn, h1, h2⟩ := countP_at (fun i => decide (c ≤ (l.getD i z0).1)) l.length (fun x y hxy hy hx => by
    rcases Nat.eq_or_lt_of_le hxy with rfl | hlt
    · exact hx
    · have := h.at_lt x y hlt hy
      simp only [decide_eq_true_eq] at hx ⊢
      omega)
  have hp : pl l c = k := hk
  rw [hp]
  refine ⟨hkn, fun i hi => ?_, fun i hi hn => ?_⟩
  · have := h1 i hi
    simp only [decide_eq_false_iff_not] at this
    omega
  · have := h2 i hi hn
    simpa using this
/-- what stands at a client's place -/
theorem up_pl {l : List D} : ∀ {a : Int} {c : Int} (k : Nat), Rt a l → (∀ i, i < k → (l.getD i z0).1 < c) → (k < l.length → c ≤ (l.getD k z0).1) → up l c = if k < l.length ∧ (l.getD k z0).1 = c then (l.getD k z0).2 else 0 := by
  induction l with
  | nil => intro a c k _ _ _; simp [up]
  | cons e r ih =>
    intro a c k h h1 h2
    cases k with
    | zero =>
      have := h2 (by simp)
      simp only [List.getD_cons_zero] at this
      rw [up]
      by_cases he : e.1 = c
      · rw [if_pos he, if_pos ⟨by simp, by simpa using he⟩]; rfl
      · rw [if_neg he, if_neg (by simp; exact he)]
        exact up_lo h.2.2.2.2 (by omega)
    | succ k =>
      have h10 := h1 0 (by omega)
      simp only [List.getD_cons_zero] at h10
      rw [up, if_neg (by omega), ih (c := c) k h.2.2.2.2 (fun i hi => by have := h1 (i + 1) (by omega); simpa using this) (fun hk => by have := h2 (by simpa using hk); simpa using this)]
      simp only [List.length_cons, List.getD_cons_succ, Nat.add_lt_add_iff_right]
/-- one more, at its place -/
theorem nx_right {l : List D} : ∀ {a : Int} {d : D} (k : Nat), Rt a l → k ≤ l.length → a < d.1 → d.1 ≤ 8 → 1 ≤ d.2 → d.2 ≤ 1073741824 → (∀ i, i < k → (l.getD i z0).1 < d.1) → (k < l.length → d.1 < (l.getD k z0).1) →
    Rt a (nx l k d) ∧ ∀ c, up (nx l k d) c = if d.1 = c then d.2 else up l c := by
  induction l with
  | nil =>
    intro a d k _ hk h1 h2 h3 h4 _ _
    simp at hk
    subst hk
    exact ⟨⟨h1, h2, h3, h4, trivial⟩, fun c => rfl⟩
  | cons e r ih =>
    intro a d k h hk h1 h2 h3 h4 h5 h6
    cases k with
    | zero =>
      have := h6 (by simp)
      simp only [List.getD_cons_zero] at this
      exact ⟨⟨h1, h2, h3, h4, this, h.2⟩, fun c => rfl⟩
    | succ k =>
      have h50 := h5 0 (by omega)
      simp only [List.getD_cons_zero] at h50
      obtain ⟨i1, i2⟩ := ih (d := d) k h.2.2.2.2 (by simpa using hk) h50 h2 h3 h4 (fun i hi => by have := h5 (i + 1) (by omega); simpa using this) (fun hk => by have := h6 (by simpa using hk); simpa using this)
      refine ⟨⟨h.1, h.2.1, h.2.2.1, h.2.2.2.1, i1⟩, fun c => ?_⟩
      show up (e :: nx r k d) c = _
      rw [up, i2, up]
      by_cases hc : e.1 = c
      · rw [if_pos hc, if_pos hc, if_neg (by omega)]
      · rw [if_neg hc, if_neg hc]
/-- one there, made greater -/
theorem st_right {l : List D} : ∀ {a : Int} (k : Nat) (s : Int), Rt a l → k < l.length → 1 ≤ s → s ≤ 1073741824 →
    Rt a (l.set k ((l.getD k z0).1, s)) ∧ ∀ c, up (l.set k ((l.getD k z0).1, s)) c = if (l.getD k z0).1 = c then s else up l c := by
  induction l with
  | nil => intro a k s _ hk; simp at hk
  | cons e r ih =>
    intro a k s h hk h1 h2
    cases k with
    | zero =>
      refine ⟨⟨h.1, h.2.1, h1, h2, h.2.2.2.2⟩, fun c => ?_⟩
      simp only [List.set_cons_zero, List.getD_cons_zero, up]
      split <;> simp_all
    | succ k =>
      obtain ⟨i1, i2⟩ := ih k s h.2.2.2.2 (by simpa using hk) h1 h2
      simp only [List.set_cons_succ, List.getD_cons_succ]
      refine ⟨⟨h.1, h.2.1, h.2.2.1, h.2.2.2.1, i1⟩, fun c => ?_⟩
      rw [up, i2, up]
      have hm : r.getD k z0 ∈ r := by
        rw [List.getD_eq_getElem?_getD, List.getElem?_eq_getElem (by simpa using hk)]; exact List.getElem_mem _
      have := (Rt.mem h.2.2.2.2 _ hm).1
      by_cases hc : e.1 = c
      · rw [if_pos hc, if_pos hc, if_neg (by omega)]
      · rw [if_neg hc, if_neg hc]
/-- the vector of a function: of each client all up to its number -/
def vecFrom (f : Int → Int) : Nat → Int → List D
  | 0, _ => []
  | n + 1, c => if 0 < f c then (c, f c) :: vecFrom f n (c + 1) else vecFrom f n (c + 1)
def vecOf (f : Int → Int) : List D := vecFrom f 8 1
theorem vecFrom_right (f : Int → Int) (hf : ∀ c, f c ≤ 1073741824) : ∀ (n : Nat) (a c : Int), a < c → c + n ≤ 9 → Rt a (vecFrom f n c)
  | 0, _, _, _, _ => trivial
  | n + 1, a, c, h1, h2 => by
    rw [vecFrom]
    split
    · exact ⟨h1, by show c ≤ 8; omega, by show 1 ≤ f c; omega, hf c, vecFrom_right f hf n c (c + 1) (by omega) (by omega)⟩
    · exact vecFrom_right f hf n a (c + 1) (by omega) (by omega)
theorem vecFrom_up (f : Int → Int) : ∀ (n : Nat) (c x : Int), up (vecFrom f n c) x = if c ≤ x ∧ x < c + n ∧ 0 < f x then f x else 0
  | 0, c, x => by rw [vecFrom, up, if_neg (by omega)]
  | n + 1, c, x => by
    rw [vecFrom]
    by_cases hc : c = x
    · subst hc
      split
      · rename_i h; rw [up, if_pos rfl, if_pos (by omega)]
      · rename_i h; rw [vecFrom_up f n, if_neg (by omega), if_neg (by omega)]
    · have e : up (if 0 < f c then (c, f c) :: vecFrom f n (c + 1) else vecFrom f n (c + 1)) x = up (vecFrom f n (c + 1)) x := by
        split
        · rw [up, if_neg hc]
        · rfl
      rw [e, vecFrom_up f n]
      by_cases h : c ≤ x ∧ x < c + (n + 1 : Nat) ∧ 0 < f x
      · rw [if_pos (by omega), if_pos h]
      · rw [if_neg (by omega), if_neg h]
theorem vecOf_right (f : Int → Int) (hf : ∀ c, f c ≤ 1073741824) : Rt 0 (vecOf f) := vecFrom_right f hf 8 0 1 (by decide) (by decide)
theorem vecOf_up (f : Int → Int) (h0 : ∀ c, 0 ≤ f c) (hlo : ∀ c, c ≤ 0 → f c = 0) (hhi : ∀ c, 8 < c → f c = 0) (c : Int) : up (vecOf f) c = f c := by
  rw [vecOf, vecFrom_up]
  have h1 := h0 c
  by_cases h : 1 ≤ c ∧ c < 1 + (8 : Nat) ∧ 0 < f c
  · rw [if_pos h]
  · rw [if_neg h]
    by_cases h2 : c ≤ 0
    · rw [hlo c h2]
    · by_cases h3 : 8 < c
      · rw [hhi c h3]
      · omega
theorem um_bd {l : List D} {a : Int} (h : Rt a l) (c : Int) : um l c ≤ 1073741824 := by rw [um_up h]; exact (up_bd h).2
theorem allB_cons (l : List D) (R : List (List D)) : allB (l :: R) = (rtB 0 l && allB R) := rfl
theorem allB_mem {R : List (List D)} (h : allB R = true) : ∀ l ∈ R, Rt 0 l := by
  induction R with
  | nil => intro l hl; cases hl
  | cons x r ih =>
    rw [allB_cons, Bool.and_eq_true] at h
    intro l hl
    rcases List.mem_cons.1 hl with rfl | hl
    · exact (rtB_iff _ _).1 h.1
    · exact ih h.2 l hl
theorem allB_of {R : List (List D)} (h : ∀ l ∈ R, Rt 0 l) : allB R = true := by
  induction R with
  | nil => rfl
  | cons x r ih =>
    rw [allB_cons, Bool.and_eq_true]
    exact ⟨(rtB_iff _ _).2 (h x (by simp)), ih (fun l hl => h l (by simp [hl]))⟩
theorem mx_bd {R : List (List D)} (h : ∀ l ∈ R, Rt 0 l) (c : Int) : mx R c ≤ 1073741824 ∧ (c ≤ 0 → mx R c = 0) ∧ (8 < c → mx R c = 0) := by
  induction R with
  | nil => simp [mx]
  | cons x r ih =>
    obtain ⟨i1, i2, i3⟩ := ih (fun l hl => h l (by simp [hl]))
    have hx := h x (by simp)
    have := um_bd hx c
    rw [mx]
    refine ⟨by omega, fun hc => ?_, fun hc => ?_⟩
    · rw [um_up hx, up_lo hx hc, i2 hc]; rfl
    · rw [um_up hx, up_hi hx hc, i3 hc]; rfl
/-- what all rows have together; none, unless all are vectors -/
def joinF (R : List (List D)) : List D := if allB R then vecOf (mx R) else []
theorem joinF_right (R : List (List D)) : Rt 0 (joinF R) := by
  unfold joinF
  split
  · rename_i h; exact vecOf_right _ (fun c => (mx_bd (allB_mem h) c).1)
  · trivial
theorem joinF_up {R : List (List D)} (h : allB R = true) (c : Int) : up (joinF R) c = mx R c := by
  unfold joinF
  rw [if_pos h]
  exact vecOf_up _ (mx_nn R) (fun c => (mx_bd (allB_mem h) c).2.1) (fun c => (mx_bd (allB_mem h) c).2.2) c
theorem joinF_no {R : List (List D)} (h : allB R = false) : joinF R = [] := by unfold joinF; rw [if_neg (by simp [h])]
theorem joinF_is {R : List (List D)} {l : List D} (h : allB R = true) (hl : Rt 0 l) (hu : ∀ c, up l c = mx R c) : l = joinF R :=
  up_ext hl (joinF_right R) (fun c => by rw [hu, joinF_up h])
def addF (v : List D) (ds : List D) : List D := joinF (v :: ds.map fun d => [d])
end Ve
end Go.Proofs.YtlkiancedgaicaaGreat

/- Records: mathematics. Their text and bytes, and what is read of any bytes. -/
namespace Go.Proofs.YtlkiancedgaicaaGreat
open Wi Ve
namespace Rc

structure R where
  key : List Nat
  cl : Int
  sq : Int
  cx : List D
  gone : Bool
  val : List Nat
  sig : List Nat
def R.dot (r : R) : D := (r.cl, r.sq)
def hasD (v : List D) (d : D) : Bool := rtB 0 v && okD d && decide (d.2 ≤ up v d.1)
def placedB (r : R) : Bool := okD r.dot && rtB 0 r.cx && !hasD r.cx r.dot
def keyB (r : R) : Bool := decide (1 ≤ r.key.length) && decide (r.key.length ≤ 64)
def valB (r : R) : Bool := decide (r.val.length ≤ if r.gone then 0 else 1024)
def shapeB (r : R) : Bool := keyB r && placedB r && valB r
def rightB (r : R) : Bool := shapeB r && decide (r.sig.length = 64)
def goneN (g : Bool) : Nat := if g then 1 else 0
def dotL (d : D) : List Nat := encN d.1 ++ encN d.2
def dotsL (l : List D) : List Nat := l.flatMap dotL
def rowL (l : List Nat) : List Nat := encN (l.length : Int) ++ l
def textL (r : R) : List Nat := 1 :: (rowL r.key ++ (dotL r.dot ++ (encN (r.cx.length : Int) ++ (dotsL r.cx ++ (goneN r.gone :: rowL r.val)))))
def putL (r : R) : List Nat := textL r ++ r.sig
def overB (a b : R) : Bool := shapeB a && shapeB b && decide (a.key = b.key) && hasD a.cx b.dot

/-- dots, one by one -/
def nS (st : St) : Nat → List D × St
  | 0 => ([], st)
  | k + 1 => ((nS st k).1 ++ [(toI (numS (nS st k).2).1, toI (numS (numS (nS st k).2).2).1)], (numS (numS (nS st k).2).2).2)
/-- bytes, one by one -/
def sS (st : St) : Nat → List Nat × St
  | 0 => ([], st)
  | k + 1 => ((sS st k).1 ++ [(byteS (sS st k).2).1], (byteS (sS st k).2).2)
/-- what is read, part by part: the state behind each -/
structure Rd where
  kind : Nat
  key : List Nat
  cl : Int
  sq : Int
  n : Int
  cx : List D
  gone : Nat
  val : List Nat
  sig : List Nat
  left : St
def s1 (st : St) : St := (byteS st).2
def s2 (st : St) : St := (bytesS 64 (s1 st)).2
def s3 (st : St) : St := (numS (s2 st)).2
def s4 (st : St) : St := (numS (s3 st)).2
def s5 (st : St) : St := (countS 8 (s4 st)).2
def cN (st : St) : Nat := (countS 8 (s4 st)).1.toNat
def s6 (st : St) : St := (nS (s5 st) (cN st)).2
def s7 (st : St) : St := (byteS (s6 st)).2
def s8 (st : St) : St := (bytesS 1024 (s7 st)).2
def s9 (st : St) : St := (sS (s8 st) 64).2
def kindR (st : St) : Nat := (byteS st).1
def goneR (st : St) : Nat := (byteS (s6 st)).1
def recR (st : St) : R where
  key := (bytesS 64 (s1 st)).1
  cl := toI (numS (s2 st)).1
  sq := toI (numS (s3 st)).1
  cx := (nS (s5 st) (cN st)).1
  gone := decide (goneR st = 1)
  val := (bytesS 1024 (s7 st)).1
  sig := (sS (s8 st) 64).1
/-- what Get tells -/
def getB (b : List Nat) : Bool := rightB (recR (some b)) && decide (putL (recR (some b)) = b)

theorem nS_succ (st : St) (k : Nat) : nS st (k + 1) = ((nS st k).1 ++ [(toI (numS (nS st k).2).1, toI (numS (numS (nS st k).2).2).1)], (numS (numS (nS st k).2).2).2) := rfl
theorem sS_succ (st : St) (k : Nat) : sS st (k + 1) = ((sS st k).1 ++ [(byteS (sS st k).2).1], (byteS (sS st k).2).2) := rfl
theorem nS_len (st : St) (k : Nat) : (nS st k).1.length = k := by
  induction k with
  | zero => rfl
  | succ k ih => simp [nS, ih]
theorem sS_len (st : St) (k : Nat) : (sS st k).1.length = k := by
  induction k with
  | zero => rfl
  | succ k ih => simp [sS, ih]
/-- bytes alone -/
def OkS (st : St) : Prop := ∀ l, st = some l → ∀ b ∈ l, b < 256

/-- few bytes -/
def Sm (st : St) : Prop := ∀ l, st = some l → l.length ≤ 1000000
theorem tells_sm {α : Type} (z : α) (f : List Nat → Option (α × List Nat)) (hf : ∀ l x r, f l = some (x, r) → r.length ≤ l.length) {st : St} (h : Sm st) : Sm (tells z f st).2 := by
  intro l hl
  cases st with
  | none => cases hl
  | some l0 =>
    unfold tells at hl
    cases hf2 : f l0 with
    | none => simp only [hf2] at hl; cases hl
    | some p =>
      obtain ⟨x, r⟩ := p
      simp only [hf2, Option.some.injEq] at hl
      subst hl
      exact Nat.le_trans (hf _ _ _ hf2) (h l0 rfl)
theorem rdWord_le (k : Nat) (l : List Nat) (x : Nat) (r : List Nat) (h : rdWord k l = some (x, r)) : r.length ≤ l.length := by
  unfold rdWord at h
  split at h
  · cases h; rw [List.length_drop]; omega
  · cases h
theorem rdCount_le (most : Int) (l : List Nat) (x : Int) (r : List Nat) (h : rdCount most l = some (x, r)) : r.length ≤ l.length := by
  unfold rdCount at h
  split at h
  · cases h; rw [List.length_drop]; omega
  · cases h
theorem rdBytes_le (most : Int) (l : List Nat) (x : List Nat) (r : List Nat) (h : rdBytes most l = some (x, r)) : r.length ≤ l.length := by
  unfold rdBytes at h
  split at h
  · cases h
  · rename_i n r' hc
    have := rdCount_le _ _ _ _ hc
    split at h
    · cases h; rw [List.length_drop]; omega
    · cases h
theorem count_nn {most : Int} (h : 0 ≤ most) (st : St) : 0 ≤ (countS most st).1 ∧ (countS most st).1 ≤ most := by
  cases st with
  | none => exact ⟨Int.le_refl _, h⟩
  | some l =>
    unfold countS tells rdCount
    by_cases h8 : 8 ≤ l.length ∧ 0 ≤ toI (wN (l.take 8)) ∧ toI (wN (l.take 8)) ≤ most
    · simp only [if_pos h8]; exact h8.2
    · simp only [if_neg h8]; exact ⟨Int.le_refl _, h⟩
theorem cN_is (st : St) : (countS 8 (s4 st)).1 = ((cN st : Nat) : Int) ∧ cN st ≤ 8 := by
  have h := count_nn (most := 8) (by decide) (s4 st)
  unfold cN
  omega
theorem sm_byte {st : St} (h : Sm st) : Sm (byteS st).2 := tells_sm _ _ (rdWord_le 1) h
theorem sm_num {st : St} (h : Sm st) : Sm (numS st).2 := tells_sm _ _ (rdWord_le 8) h
theorem sm_count {most : Int} {st : St} (h : Sm st) : Sm (countS most st).2 := tells_sm _ _ (rdCount_le most) h
theorem sm_bytes {most : Int} {st : St} (h : Sm st) : Sm (bytesS most st).2 := tells_sm _ _ (rdBytes_le most) h
theorem sm_nS {st : St} (h : Sm st) (k : Nat) : Sm (nS st k).2 := by
  induction k with
  | zero => exact h
  | succ k ih => exact sm_num (sm_num ih)
theorem sm_s7 {st : St} (h : Sm st) : Sm (s7 st) := sm_byte (sm_nS (sm_count (sm_num (sm_num (sm_bytes (sm_byte h))))) _)
theorem byte_inv {st : St} {r : List Nat} (h : (byteS st).2 = some r) : st = some ((byteS st).1 :: r) := by
  cases st with
  | none => cases h
  | some l =>
    cases l with
    | nil => simp [byteS, tells, rdWord] at h
    | cons x l =>
      simp [byteS, tells, rdWord] at h
      subst h
      simp [byteS, tells, rdWord, wN]
theorem num_inv {st : St} {r : List Nat} (h : (numS st).2 = some r) (ho : OkS st) : st = some (encN (toI (numS st).1) ++ r) := by
  cases st with
  | none => cases h
  | some l =>
    unfold numS tells rdWord at h ⊢
    by_cases h8 : 8 ≤ l.length
    · simp only [if_pos h8, Option.some.injEq] at h ⊢
      subst h
      have hb : ∀ b ∈ l.take 8, b < 256 := fun b hb => ho l rfl b (List.mem_of_mem_take hb)
      have hl : (l.take 8).length = 8 := by rw [List.length_take]; omega
      have hlt := wN_lt (l.take 8) hb
      rw [hl] at hlt
      unfold encN
      rw [ofI_toI (by simpa using hlt), encW_wN hl hb, List.take_append_drop]
    · simp only [if_neg h8] at h; cases h
theorem count_inv {most : Int} {st : St} {r : List Nat} (h : (countS most st).2 = some r) (ho : OkS st) : st = some (encN (countS most st).1 ++ r) ∧ 0 ≤ (countS most st).1 ∧ (countS most st).1 ≤ most := by
  cases st with
  | none => cases h
  | some l =>
    unfold countS tells rdCount at h ⊢
    by_cases h8 : 8 ≤ l.length ∧ 0 ≤ toI (wN (l.take 8)) ∧ toI (wN (l.take 8)) ≤ most
    · simp only [if_pos h8, Option.some.injEq] at h ⊢
      subst h
      refine ⟨?_, h8.2⟩
      have h9 := num_inv (st := some l) (r := l.drop 8) (by unfold numS tells rdWord; simp only [if_pos h8.1]) ho
      unfold numS tells rdWord at h9
      simp only [if_pos h8.1, Option.some.injEq] at h9
      exact h9
    · simp only [if_neg h8] at h; cases h
theorem bytes_inv {most : Int} {st : St} {r : List Nat} (h : (bytesS most st).2 = some r) (ho : OkS st) : st = some (rowL (bytesS most st).1 ++ r) ∧ ((bytesS most st).1.length : Int) ≤ most := by
  cases st with
  | none => cases h
  | some l =>
    unfold bytesS tells rdBytes at h ⊢
    cases hc : rdCount most l with
    | none => simp only [hc] at h; cases h
    | some p =>
      obtain ⟨n, q⟩ := p
      have e : countS most (some l) = (n, some q) := by unfold countS tells; simp only [hc]
      obtain ⟨h1, h2, h3⟩ := count_inv (most := most) (st := some l) (r := q) (by rw [e]) ho
      rw [e] at h1 h2 h3
      simp only at h1 h2 h3
      simp only [hc] at h ⊢
      by_cases hk : n.toNat ≤ q.length
      · simp only [if_pos hk, Option.some.injEq] at h ⊢
        subst h
        have hl : (q.take n.toNat).length = n.toNat := by rw [List.length_take]; omega
        refine ⟨?_, by rw [hl]; omega⟩
        unfold rowL
        rw [hl, Int.toNat_of_nonneg h2, List.append_assoc, List.take_append_drop]
        exact Option.some.inj h1
      · simp only [if_neg hk] at h; cases h
theorem okS_byte {st : St} (h : OkS st) : OkS (byteS st).2 := fun _ hl => by
  have e := byte_inv hl
  exact fun b hb => h _ e b (List.mem_cons_of_mem _ hb)
theorem okS_num {st : St} (h : OkS st) : OkS (numS st).2 := fun _ hl b hb => h _ (num_inv hl h) b (List.mem_append_right _ hb)
theorem okS_count {most : Int} {st : St} (h : OkS st) : OkS (countS most st).2 := fun _ hl b hb => h _ (count_inv hl h).1 b (List.mem_append_right _ hb)
theorem okS_bytes {most : Int} {st : St} (h : OkS st) : OkS (bytesS most st).2 := fun _ hl b hb => h _ (bytes_inv hl h).1 b (List.mem_append_right _ hb)
theorem okS_nS {st : St} (h : OkS st) (k : Nat) : OkS (nS st k).2 := by
  induction k with
  | zero => exact h
  | succ k ih => exact okS_num (okS_num ih)
theorem okS_sS {st : St} (h : OkS st) (k : Nat) : OkS (sS st k).2 := by
  induction k with
  | zero => exact h
  | succ k ih => exact okS_byte ih
theorem nS_inv {st : St} (ho : OkS st) : ∀ {k : Nat} {r : List Nat}, (nS st k).2 = some r → st = some (dotsL (nS st k).1 ++ r) := by
  intro k
  induction k with
  | zero => intro r h; simpa [nS, dotsL] using h
  | succ k ih =>
    intro r h
    have h2 := num_inv h (okS_num (okS_nS ho k))
    have h1 := num_inv h2 (okS_nS ho k)
    refine (ih h1).trans ?_
    simp [nS, dotsL, dotL]
theorem sS_inv {st : St} : ∀ {k : Nat} {r : List Nat}, (sS st k).2 = some r → st = some ((sS st k).1 ++ r) := by
  intro k
  induction k with
  | zero => intro r h; simpa [sS] using h
  | succ k ih =>
    intro r h
    have h1 := byte_inv h
    refine (ih h1).trans ?_
    simp [sS]
theorem byte_lt {st : St} (h : OkS st) : (byteS st).1 < 256 := by
  cases st with
  | none => decide
  | some l =>
    cases l with
    | nil => decide
    | cons x l =>
      have := h _ rfl x (by simp)
      simpa [byteS, tells, rdWord, wN] using this
theorem sS_lt {st : St} (h : OkS st) (k : Nat) : ∀ b ∈ (sS st k).1, b < 256 := by
  induction k with
  | zero => intro b hb; cases hb
  | succ k ih =>
    intro b hb
    rw [sS_succ] at hb
    rcases List.mem_append.1 hb with hb | hb
    · exact ih b hb
    · rw [List.mem_singleton.1 hb]; exact byte_lt (okS_sS h k)
theorem okS_s8 {st : St} (h : OkS st) : OkS (s8 st) := okS_bytes (okS_byte (okS_nS (okS_count (okS_num (okS_num (okS_bytes (okS_byte h))))) _))
theorem getD_lt {l : List Nat} (h : ∀ b ∈ l, b < 256) (i : Nat) : l.getD i 0 < 256 := by
  rw [List.getD_eq_getElem?_getD]
  cases hi : l[i]? with
  | none => decide
  | some x => exact h x (List.mem_of_getElem? hi)
theorem goneN_of {n : Nat} (h : n ≤ 1) : goneN (decide (n = 1)) = n := by
  rcases (by omega : n = 0 ∨ n = 1) with rfl | rfl <;> rfl
/-- where it came to the end, the bytes are those of what was read -/
theorem read_inv {b : List Nat} (ho : ∀ x ∈ b, x < 256) (h : s9 (some b) = some []) (hk : kindR (some b) = 1) (hg : goneR (some b) ≤ 1) : putL (recR (some b)) = b := by
  have o0 : OkS (some b) := fun l hl => by cases hl; exact ho
  have o1 : OkS (s1 (some b)) := okS_byte o0
  have o2 : OkS (s2 (some b)) := okS_bytes o1
  have o3 : OkS (s3 (some b)) := okS_num o2
  have o4 : OkS (s4 (some b)) := okS_num o3
  have o5 : OkS (s5 (some b)) := okS_count o4
  have o6 : OkS (s6 (some b)) := okS_nS o5 _
  have o7 : OkS (s7 (some b)) := okS_byte o6
  have o8 : OkS (s8 (some b)) := okS_bytes o7
  have e8 := sS_inv h
  have e7 := (bytes_inv e8 o7).1
  have e6 := byte_inv e7
  have e5 := nS_inv o5 e6
  obtain ⟨e4, hn0, _⟩ := count_inv e5 o4
  have e3 := num_inv e4 o3
  have e2 := num_inv e3 o2
  have e1 := (bytes_inv e2 o1).1
  have e0 := byte_inv e1
  have hgn := goneN_of hg
  have hc : (((nS (s5 (some b)) (cN (some b))).1.length : Nat) : Int) = (countS 8 (s4 (some b))).1 := by
    rw [nS_len]
    exact Int.toNat_of_nonneg hn0
  have hgo : (recR (some b)).gone = decide (goneR (some b) = 1) := rfl
  have e0' := Option.some.inj e0
  conv => rhs; rw [e0']
  unfold putL textL
  rw [hgo, hgn]
  show _ = kindR (some b) :: _
  rw [hk]
  unfold dotL
  simp only [List.append_assoc, List.cons_append, List.append_nil]
  rw [show (((recR (some b)).cx.length : Nat) : Int) = (countS 8 (s4 (some b))).1 from hc]
  rfl

theorem byte_put (x : Nat) (tl : List Nat) : byteS (some (x :: tl)) = (x, some tl) := by
  simp [byteS, tells, rdWord, wN]
theorem num_put2 (n : Int) (tl : List Nat) (h1 : -9223372036854775808 ≤ n) (h2 : n ≤ 9223372036854775807) : toI (numS (some (encN n ++ tl))).1 = n ∧ (numS (some (encN n ++ tl))).2 = some tl := num_put n tl h1 h2
theorem rdCount_put (most n : Int) (tl : List Nat) (h1 : 0 ≤ n) (h2 : n ≤ most) (h3 : n ≤ 9223372036854775807) : rdCount most (encN n ++ tl) = some (n, tl) := by
  have e1 : wN ((encN n ++ tl).take 8) = ofI n := by rw [take_app _ _ 8 (encN_length _)]; exact wN_encW (ofI_lt _)
  have e2 : toI (ofI n) = n := toI_ofI (by omega) h3
  unfold rdCount
  rw [e1, e2, drop_app _ _ 8 (encN_length _), if_pos ⟨by rw [List.length_append, encN_length]; omega, h1, h2⟩]
theorem count_put (most n : Int) (tl : List Nat) (h1 : 0 ≤ n) (h2 : n ≤ most) (h3 : n ≤ 9223372036854775807) : countS most (some (encN n ++ tl)) = (n, some tl) := by
  unfold countS tells
  simp only [rdCount_put most n tl h1 h2 h3]
theorem row_put (most : Int) (row tl : List Nat) (h : (row.length : Int) ≤ most) (h3 : row.length < 9223372036854775808) : bytesS most (some (rowL row ++ tl)) = (row, some tl) := by
  have e : rdBytes most (rowL row ++ tl) = some (row, tl) := by
    unfold rdBytes rowL
    rw [List.append_assoc, rdCount_put most row.length (row ++ tl) (by omega) h (by omega)]
    simp only [Int.toNat_natCast]
    rw [if_pos (by rw [List.length_append]; omega), take_app _ _ _ rfl, drop_app _ _ _ rfl]
  unfold bytesS tells
  simp only [e]
theorem nS_put (l : List D) (tl : List Nat) (h : ∀ d ∈ l, (-9223372036854775808 ≤ d.1 ∧ d.1 ≤ 9223372036854775807) ∧ -9223372036854775808 ≤ d.2 ∧ d.2 ≤ 9223372036854775807) : ∀ k, k ≤ l.length → nS (some (dotsL l ++ tl)) k = (l.take k, some (dotsL (l.drop k) ++ tl)) := by
  intro k
  induction k with
  | zero => intro _; simp [nS]
  | succ k ih =>
    intro hk
    have h0 := ih (by omega)
    have hd := drop_at l k (by omega)
    have hm := h (l.getD k z0) (by rw [List.getD_eq_getElem?_getD, List.getElem?_eq_getElem (by omega)]; exact List.getElem_mem _)
    have e : dotsL (l.drop k) ++ tl = encN (l.getD k z0).1 ++ (encN (l.getD k z0).2 ++ (dotsL (l.drop (k + 1)) ++ tl)) := by
      rw [hd]; simp [dotsL, dotL]
    obtain ⟨a1, a2⟩ := num_put (l.getD k z0).1 (encN (l.getD k z0).2 ++ (dotsL (l.drop (k + 1)) ++ tl)) hm.1.1 hm.1.2
    obtain ⟨b1, b2⟩ := num_put (l.getD k z0).2 (dotsL (l.drop (k + 1)) ++ tl) hm.2.1 hm.2.2
    rw [nS_succ, h0]
    dsimp only
    rw [e, a1, a2, b1, b2, List.take_succ_eq_append_getElem (by omega)]
    rw [show l.getD k z0 = l[k] by rw [List.getD_eq_getElem?_getD, List.getElem?_eq_getElem (by omega)]; rfl]
theorem sS_put (l tl : List Nat) : ∀ k, k ≤ l.length → sS (some (l ++ tl)) k = (l.take k, some (l.drop k ++ tl)) := by
  intro k
  induction k with
  | zero => intro _; simp [sS]
  | succ k ih =>
    intro hk
    have h0 := ih (by omega)
    have hd : l.drop k = l[k] :: l.drop (k + 1) := List.drop_eq_getElem_cons (by omega)
    rw [sS_succ, h0]
    dsimp only
    rw [hd, List.cons_append, byte_put, List.take_succ_eq_append_getElem (by omega)]
theorem okD_bd {d : D} (h : okD d = true) : (-9223372036854775808 ≤ d.1 ∧ d.1 ≤ 9223372036854775807) ∧ -9223372036854775808 ≤ d.2 ∧ d.2 ≤ 9223372036854775807 := by
  simp [okD] at h
  omega
theorem shape_of {r : R} (h : shapeB r = true) : 1 ≤ r.key.length ∧ r.key.length ≤ 64 ∧ okD r.dot = true ∧ Rt 0 r.cx ∧ r.val.length ≤ 1024 ∧ hasD r.cx r.dot = false := by
  simp only [shapeB, keyB, placedB, valB, Bool.and_eq_true, decide_eq_true_eq, Bool.not_eq_true'] at h
  obtain ⟨⟨⟨h1, h2⟩, ⟨h3, h4⟩, h5⟩, h6⟩ := h
  refine ⟨h1, h2, h3, (rtB_iff _ _).1 h4, ?_, h5⟩
  split at h6 <;> omega
/-- what is put is read as it was -/
theorem read_put {r : R} (h : shapeB r = true) (hs : r.sig.length = 64) (tl : List Nat) : kindR (some (putL r ++ tl)) = 1 ∧ goneR (some (putL r ++ tl)) = goneN r.gone ∧ recR (some (putL r ++ tl)) = r ∧ s9 (some (putL r ++ tl)) = some tl := by
  obtain ⟨k1, k2, k3, k4, k5, _⟩ := shape_of h
  have hcx : (r.cx.length : Int) ≤ 8 := by have := k4.len (by decide); omega
  have hb := okD_bd k3
  obtain ⟨T8, g8⟩ : ∃ T, T = r.sig ++ tl := ⟨_, rfl⟩
  obtain ⟨T7, g7⟩ : ∃ T, T = rowL r.val ++ T8 := ⟨_, rfl⟩
  obtain ⟨T6, g6⟩ : ∃ T, T = goneN r.gone :: T7 := ⟨_, rfl⟩
  obtain ⟨T5, g5⟩ : ∃ T, T = dotsL r.cx ++ T6 := ⟨_, rfl⟩
  obtain ⟨T4, g4⟩ : ∃ T, T = encN (r.cx.length : Int) ++ T5 := ⟨_, rfl⟩
  obtain ⟨T3, g3⟩ : ∃ T, T = encN r.sq ++ T4 := ⟨_, rfl⟩
  obtain ⟨T2, g2⟩ : ∃ T, T = encN r.cl ++ T3 := ⟨_, rfl⟩
  obtain ⟨T1, g1⟩ : ∃ T, T = rowL r.key ++ T2 := ⟨_, rfl⟩
  have e0 : putL r ++ tl = 1 :: T1 := by
    rw [g1, g2, g3, g4, g5, g6, g7, g8]
    simp [putL, textL, dotL, R.dot]
  rw [e0]
  have t0 := byte_put 1 T1
  have t1 := row_put 64 r.key T2 (by omega) (by omega)
  rw [← g1] at t1
  have t2 := num_put r.cl T3 hb.1.1 hb.1.2
  rw [← g2] at t2
  have t3 := num_put r.sq T4 hb.2.1 hb.2.2
  rw [← g3] at t3
  have t4 := count_put 8 r.cx.length T5 (by omega) hcx (by omega)
  rw [← g4] at t4
  have t5 := nS_put r.cx T6 (fun d hd => by have := k4.mem d hd; omega) _ (Nat.le_refl _)
  rw [← g5, List.take_length, List.drop_length, show dotsL [] ++ T6 = T6 from rfl] at t5
  have t6 := byte_put (goneN r.gone) T7
  rw [← g6] at t6
  have t7 := row_put 1024 r.val T8 (by omega) (by omega)
  rw [← g7] at t7
  have t8 := sS_put r.sig tl r.sig.length (Nat.le_refl _)
  rw [← g8, List.take_length, List.drop_length, hs, List.nil_append] at t8
  have q1 : s1 (some (1 :: T1)) = some T1 := by unfold s1; rw [t0]
  have q2 : s2 (some (1 :: T1)) = some T2 := by unfold s2; rw [q1, t1]
  have q3 : s3 (some (1 :: T1)) = some T3 := by unfold s3; rw [q2]; exact t2.2
  have q4 : s4 (some (1 :: T1)) = some T4 := by unfold s4; rw [q3]; exact t3.2
  have q5 : s5 (some (1 :: T1)) = some T5 := by unfold s5; rw [q4, t4]
  have qn : cN (some (1 :: T1)) = r.cx.length := by unfold cN; rw [q4, t4]; rfl
  have q6 : s6 (some (1 :: T1)) = some T6 := by unfold s6; rw [q5, qn, t5]
  have q7 : s7 (some (1 :: T1)) = some T7 := by unfold s7; rw [q6, t6]
  have q8 : s8 (some (1 :: T1)) = some T8 := by unfold s8; rw [q7, t7]
  have hg : goneR (some (1 :: T1)) = goneN r.gone := by unfold goneR; rw [q6, t6]
  refine ⟨by unfold kindR; rw [t0], hg, ?_, by unfold s9; rw [q8, t8]⟩
  unfold recR
  rw [hg, q1, t1, q2, t2.1, q3, t3.1, q5, qn, t5, q7, t7, q8, t8]
  cases r with
  | mk key cl sq cx gone val sig => cases gone <;> rfl
/-- the document's words and the program's are one -/
theorem get_is {b : List Nat} (ho : ∀ x ∈ b, x < 256) : getB b = (decide (s9 (some b) = some []) && decide (kindR (some b) = 1) && decide (goneR (some b) ≤ 1) && rightB (recR (some b))) := by
  rw [Bool.eq_iff_iff]
  simp only [getB, Bool.and_eq_true, decide_eq_true_eq]
  constructor
  · rintro ⟨h1, h2⟩
    have h3 := h1
    simp only [rightB, Bool.and_eq_true, decide_eq_true_eq] at h3
    obtain ⟨a1, a2, a3, a4⟩ := read_put h3.1 h3.2 []
    rw [List.append_nil, h2] at a1 a2 a4
    exact ⟨⟨⟨a4, a1⟩, by rw [a2]; unfold goneN; split <;> omega⟩, h1⟩
  · rintro ⟨⟨⟨h1, h2⟩, h3⟩, h4⟩
    exact ⟨h4, read_inv ho h1 h2 h3⟩
/-- what is put is got -/
theorem get_put {r : R} (h : rightB r = true) : getB (putL r) = true ∧ recR (some (putL r)) = r := by
  have h3 := h
  simp only [rightB, Bool.and_eq_true, decide_eq_true_eq] at h3
  obtain ⟨_, _, a3, _⟩ := read_put h3.1 h3.2 []
  rw [List.append_nil] at a3
  refine ⟨?_, a3⟩
  simp only [getB, a3, h, Bool.true_and, decide_true]
def R.bare (r : R) (s : List Nat) : R := { r with sig := s }
/-- one text, one record -/
theorem text_inj {a b : R} (ha : shapeB a = true) (hb : shapeB b = true) : textL a = textL b ↔ a.bare [] = b.bare [] := by
  constructor
  · intro h
    have z : (List.replicate 64 0).length = 64 := rfl
    have h1 := (read_put (r := a.bare (List.replicate 64 0)) ha z []).2.2.1
    have h2 := (read_put (r := b.bare (List.replicate 64 0)) hb z []).2.2.1
    have e : putL (a.bare (List.replicate 64 0)) = putL (b.bare (List.replicate 64 0)) := congrArg (· ++ List.replicate 64 0) h
    rw [e, h2] at h1
    have h3 : (a.bare (List.replicate 64 0)).bare [] = (b.bare (List.replicate 64 0)).bare [] := by rw [h1]
    exact h3
  · intro h
    have h3 : textL (a.bare []) = textL (b.bare []) := by rw [h]
    exact h3
theorem text_pos (r : R) : 0 < (textL r).length := by simp [textL]
/-- none is over itself -/
theorem over_self (a : R) : overB a a = false := by
  simp only [overB]
  cases h : shapeB a with
  | false => rfl
  | true => rw [(shape_of h).2.2.2.2.2]; simp
end Rc
end Go.Proofs.YtlkiancedgaicaaGreat

/- Blocks known whole, and what a call may have written: plain facts on worlds. -/
namespace Go.Proofs.YtlkiancedgaicaaGreat
open Go.RowKit

/-- Block B is a row of the cells L, none of them frozen. -/
def Blk (w : World) (B : Nat) (T : TypeId) (L : List Value) : Prop := w.heap[B]? = some (.cells L.toArray T (0, 0))

theorem Blk.lt {w : World} {B : Nat} {T : TypeId} {L : List Value} (h : Blk w B T L) : B < w.heap.size := by
  rcases Nat.lt_or_ge B w.heap.size with h' | h'
  · exact h'
  · unfold Blk at h; simp [Array.getElem?_eq_none h'] at h
theorem Blk.cell {w : World} {B : Nat} {T : TypeId} {L : List Value} (h : Blk w B T L) {i : Nat} {v : Value} (hv : L[i]? = some v) : w.cell? ⟨B, i, none⟩ = some v := by
  unfold Blk at h; simp [World.cell?, h, hv]
theorem Blk.free {w : World} {B : Nat} {T : TypeId} {L : List Value} (h : Blk w B T L) (i : Nat) : w.frozen? ⟨B, i, none⟩ = false := by
  unfold Blk at h; simp [World.frozen?, h]
theorem Blk.set {w : World} {B : Nat} {T : TypeId} {L : List Value} (h : Blk w B T L) (i : Nat) (v : Value) : Blk (w.setCell ⟨B, i, none⟩ v) B T (L.set i v) := by
  have hlt := h.lt
  unfold Blk at h ⊢
  have h' : w.heap[B] = .cells L.toArray T (0, 0) := by simpa [Array.getElem?_eq_getElem hlt] using h
  show (w.heap.modify B _)[B]? = _
  rw [Array.getElem?_eq_getElem (by simpa using hlt), Array.getElem_modify_self, h']
  simp
theorem Blk.other {w : World} {B : Nat} {T : TypeId} {L : List Value} (h : Blk w B T L) {a : Addr} (ha : a.block ≠ B) (v : Value) : Blk (w.setCell a v) B T L := by
  unfold Blk at h ⊢; rw [Below.heap_setCell _ _ _ _ (fun e => ha e.symm)]; exact h
theorem Blk.alloc {w : World} {B : Nat} {T : TypeId} {L : List Value} (h : Blk w B T L) (o : Obj) : Blk (w.alloc o) B T L := by
  have hlt := h.lt
  unfold Blk at h ⊢; rw [Below.heap_alloc _ _ _ hlt]; exact h
theorem Blk.drewN {w : World} {B : Nat} {T : TypeId} {L : List Value} (h : Blk w B T L) (n : Nat) : Blk (w.drewN n) B T L := h
theorem Blk.drew {w : World} {B : Nat} {T : TypeId} {L : List Value} (h : Blk w B T L) : Blk w.drew B T L := h
theorem Blk.grown {w w' : World} {B : Nat} {T : TypeId} {L : List Value} {row : Option Nat} (h : Blk w B T L) (hg : w.grownBy w' row) (hr : some B ≠ row) : Blk w' B T L := by
  have hlt := h.lt
  unfold Blk at h ⊢; rw [hg.block B hlt hr]; exact h
theorem Blk.new (w : World) (L : List Value) (T : TypeId) : Blk (w.alloc (.cells L.toArray T)) w.heap.size T L := by
  show (w.heap.push _)[w.heap.size]? = _
  simp

theorem gb_refl (w : World) (row : Option Nat) : w.grownBy w row := ⟨rfl, rfl, rfl, Nat.le_refl _, fun _ _ _ => rfl⟩
theorem gb_trans {a b c : World} {row : Option Nat} (h : a.grownBy b row) (k : b.grownBy c row) : a.grownBy c row :=
  ⟨k.os.trans h.os, k.tape.trans h.tape, k.output.trans h.output, Nat.le_trans h.size k.size, fun i hi hr => (k.block i (Nat.lt_of_lt_of_le hi h.size) hr).trans (h.block i hi hr)⟩
theorem gb_row {a b : World} (h : a.grownBy b none) (row : Option Nat) : a.grownBy b row :=
  ⟨h.os, h.tape, h.output, h.size, fun i hi _ => h.block i hi (by simp)⟩
/-- what is written lies in a block that is new -/
theorem gb_new {a b : World} {B : Nat} (h : a.grownBy b (some B)) (hB : a.heap.size ≤ B) (row : Option Nat) : a.grownBy b row :=
  ⟨h.os, h.tape, h.output, h.size, fun i hi _ => h.block i hi (by intro e; cases e; omega)⟩
/-- .. in a block that is new to an elder world -/
theorem gb_then {a b c : World} {B : Nat} {row : Option Nat} (h : a.grownBy b row) (k : b.grownBy c (some B)) (hB : a.heap.size ≤ B) : a.grownBy c row :=
  ⟨k.os.trans h.os, k.tape.trans h.tape, k.output.trans h.output, Nat.le_trans h.size k.size, fun i hi hr => (k.block i (Nat.lt_of_lt_of_le hi h.size) (by intro e; cases e; omega)).trans (h.block i hi hr)⟩
theorem gb_alloc {a w : World} {row : Option Nat} (h : a.grownBy w row) (o : Obj) : a.grownBy (w.alloc o) row := gb_trans h (World.grownBy_alloc w o row)
theorem gb_drewN {a w : World} {row : Option Nat} (h : a.grownBy w row) (n : Nat) : a.grownBy (w.drewN n) row := ⟨h.os, h.tape, h.output, h.size, h.block⟩
theorem gb_drew {a w : World} {row : Option Nat} (h : a.grownBy w row) : a.grownBy w.drew row := ⟨h.os, h.tape, h.output, h.size, h.block⟩
theorem gb_set {a w : World} {B : Nat} (h : a.grownBy w (some B)) (i : Nat) (v : Value) : a.grownBy (w.setCell ⟨B, i, none⟩ v) (some B) :=
  gb_trans h ⟨rfl, rfl, rfl, by simp [World.setCell], fun k _ hr => Below.heap_setCell _ _ _ _ (fun e => hr (by rw [e]))⟩
theorem gb_set_new {a w : World} {row : Option Nat} (h : a.grownBy w row) {p : Addr} (hp : a.heap.size ≤ p.block) (v : Value) : a.grownBy (w.setCell p v) row :=
  ⟨h.os, h.tape, h.output, by simp [World.setCell]; exact h.size, fun k hk hr => by rw [Below.heap_setCell _ _ _ _ (by omega)]; exact h.block k hk hr⟩
theorem gb_below {a b : World} (h : a.grownBy b none) : Below a.heap.size a b := ⟨h.os, h.tape, h.output, h.size, fun k hk => h.block k hk (by simp)⟩
theorem gb_cell {a b : World} {row : Option Nat} (h : a.grownBy b row) {p : Addr} (hp : p.block < a.heap.size) (hr : some p.block ≠ row) : b.cell? p = a.cell? p := World.cell?_of_block (w := a) (h.block p.block hp hr)

theorem gb_setRow {a w : World} {row : Option Nat} (h : a.grownBy w row) {g : Nat} (hg : a.heap.size ≤ g) (cs : Array Value) : a.grownBy (w.setRow g cs) row :=
  ⟨h.os, h.tape, h.output, by simp; exact h.size, fun k hk hr => by rw [setRow_other _ _ _ _ (by omega)]; exact h.block k hk hr⟩
theorem gb_setRow' {a w : World} {g : Nat} (h : a.grownBy w (some g)) (cs : Array Value) : a.grownBy (w.setRow g cs) (some g) :=
  ⟨h.os, h.tape, h.output, by simp; exact h.size, fun k hk hr => by rw [setRow_other _ _ _ _ (fun e => hr (by rw [e]))]; exact h.block k hk hr⟩
theorem Blk.row {w : World} {B : Nat} {T : TypeId} {L : List Value} (h : Blk w B T L) (L' : List Value) : Blk (w.setRow B L'.toArray) B T L' := setRow_heap _ _ _ _ _ _ h
theorem Blk.rowOther {w : World} {B : Nat} {T : TypeId} {L : List Value} (h : Blk w B T L) {g : Nat} (hg : g ≠ B) (cs : Array Value) : Blk (w.setRow g cs) B T L := by
  unfold Blk at h ⊢; rw [setRow_other _ _ _ _ (fun e => hg e.symm)]; exact h

/-- n cells from place o on, one by one. -/
def putN (L : List Value) (o : Nat) (f : Nat → Value) : Nat → List Value
  | 0 => L
  | k + 1 => (putN L o f k).set (o + k) (f k)
theorem putN_length (L : List Value) (o : Nat) (f : Nat → Value) (k : Nat) : (putN L o f k).length = L.length := by
  induction k with
  | zero => rfl
  | succ k ih => simp [putN, ih]
theorem putN_get (L : List Value) (o : Nat) (f : Nat → Value) (k i : Nat) (hk : o + k ≤ L.length) : (putN L o f k)[i]? = if o ≤ i ∧ i < o + k then some (f (i - o)) else L[i]? := by
  induction k with
  | zero => simp [putN]; omega
  | succ k ih =>
    have hl := putN_length L o f k
    rw [putN, List.getElem?_set, ih (by omega), hl]
    by_cases h : o + k = i
    · subst h; simp only [if_true]; rw [if_pos (by omega), if_pos (by omega)]; congr 2; omega
    · rw [if_neg h]
      by_cases h2 : o ≤ i ∧ i < o + k
      · rw [if_pos h2, if_pos (by omega)]
      · rw [if_neg h2, if_neg (by omega)]
theorem putN_is (L : List Value) (o : Nat) (f : Nat → Value) (k : Nat) (hk : o + k ≤ L.length) : putN L o f k = L.take o ++ (List.range k).map f ++ L.drop (o + k) := by
  apply List.ext_getElem?
  intro i
  rw [putN_get L o f k i hk]
  by_cases h1 : i < o
  · rw [if_neg (by omega), List.append_assoc, List.getElem?_append_left (by simp; omega), List.getElem?_take, if_pos h1]
  · by_cases h2 : i < o + k
    · rw [if_pos (by omega), List.append_assoc, List.getElem?_append_right (by simp; omega), List.getElem?_append_left (by simp; omega)]
      simp [Nat.min_eq_left (show o ≤ L.length by omega), show i - o < k by omega]
    · rw [if_neg (by omega), List.getElem?_append_right (by simp; omega)]
      simp [Nat.min_eq_left (show o ≤ L.length by omega)]
      congr 1; omega
end Go.Proofs.YtlkiancedgaicaaGreat

/- Rows of bytes: what lies below a bound and stays; rows of one's own; appends; parts of slices. -/
namespace Go.Proofs.YtlkiancedgaicaaGreat
open Go.RowKit
namespace Ow

def u8N (n : Nat) : Value := .int .u8 (n : Int)
/-- a slice of the bytes l, that lie below block B -/
structure BytesAt (w : World) (B : Nat) (a : Option Addr) (cap : Nat) (l : List Nat) : Prop where
  lim : B ≤ w.heap.size
  fits : l.length ≤ cap
  top : cap < 9223372036854775808
  byte : ∀ i, l.getD i 0 < 256
  cells : l.length = 0 ∨ ∃ pb po, a = some ⟨pb, po, none⟩ ∧ pb < B ∧ ∀ i, i < l.length → w.cell? ⟨pb, po + i, none⟩ = some (u8N (l.getD i 0))
theorem BytesAt.kept {w w' : World} {B cap : Nat} {a : Option Addr} {l : List Nat} (h : BytesAt w B a cap l) {row : Option Nat} (hg : w.grownBy w' row) (hr : ∀ r, row = some r → B ≤ r) : BytesAt w' B a cap l := by
  refine ⟨Nat.le_trans h.lim hg.size, h.fits, h.top, h.byte, ?_⟩
  rcases h.cells with h0 | ⟨pb, po, ha, hlt, hc⟩
  · exact Or.inl h0
  · exact Or.inr ⟨pb, po, ha, hlt, fun i hi => by rw [gb_cell hg (p := ⟨pb, po + i, none⟩) (Nat.lt_of_lt_of_le hlt h.lim) (fun e => by have := hr _ e.symm; simp at this; omega)]; exact hc i hi⟩
theorem BytesAt.stay {w w' : World} {B cap : Nat} {a : Option Addr} {l : List Nat} (h : BytesAt w B a cap l) (hg : w.grownBy w' none) : BytesAt w' B a cap l := h.kept hg (fun r e => by cases e)
theorem BytesAt.up {w : World} {B B' cap : Nat} {a : Option Addr} {l : List Nat} (h : BytesAt w B a cap l) (hB : B ≤ B') (hl : B' ≤ w.heap.size) : BytesAt w B' a cap l := by
  refine ⟨hl, h.fits, h.top, h.byte, ?_⟩
  rcases h.cells with h0 | ⟨pb, po, ha, hlt, hc⟩
  · exact Or.inl h0
  · exact Or.inr ⟨pb, po, ha, by omega, hc⟩
theorem u8_getD {l : List Nat} {i : Nat} (h : i < l.length) : (l.map u8N)[i]? = some (u8N (l.getD i 0)) := by
  rw [List.getElem?_map, List.getElem?_eq_getElem h, List.getD_eq_getElem?_getD, List.getElem?_eq_getElem h]; rfl
theorem blk_at (w : World) {B : Nat} (L : List Value) (T : TypeId) (h : w.heap.size = B) : Blk (w.alloc (.cells L.toArray T)) B T L := h ▸ Blk.new w L T
/-- a block of bytes, as a slice -/
theorem blk_bytes {w : World} {N B n cap : Nat} {T : TypeId} {l : List Nat} {tl : List Value} (h : Blk w N T (l.map u8N ++ tl)) (hl : l.length = n) (hc : n ≤ cap) (ht : cap < 9223372036854775808) (hb : ∀ i, l.getD i 0 < 256) (hB : N < B) (hw : B ≤ w.heap.size) :
    BytesAt w B (some ⟨N, 0, none⟩) cap l := by
  subst hl
  refine ⟨hw, hc, ht, hb, Or.inr ⟨N, 0, rfl, hB, fun i hi => ?_⟩⟩
  rw [Nat.zero_add]
  apply h.cell
  rw [List.getElem?_append_left (by simpa using hi)]
  exact u8_getD hi
theorem info_u8 : ∃ i z, Tryz.prog.info? 5 = some i ∧ i.zero = some z ∧ i.size = 1 ∧ i.bytes = 1 ∧ z.cells.size = 1 := by
  have h : (Tryz.prog.info? 5).map (fun i => (i.zero.map (·.cells.size), i.size, i.bytes)) = some (some 1, 1, 1) := by kernel_rfl
  cases hi : Tryz.prog.info? 5 with
  | none => rw [hi] at h; cases h
  | some i =>
    rw [hi] at h
    simp only [Option.map_some, Option.some.injEq, Prod.mk.injEq] at h
    cases hz : i.zero with
    | none => rw [hz] at h; cases h.1
    | some z => rw [hz] at h; exact ⟨i, z, rfl, hz, h.2.1, h.2.2, by simpa using h.1⟩
/-- several elements appended to a row of one's own -/
theorem append_u8 (w : World) (base n m c : Nat) (v : Value) (xs news : List Value) (ad : Addr) (hown : w.ownsRow base 5 1 v n xs) (hl : news.length = m) (hnews : ∀ j u, news[j]? = some u → w.cell? (ad.add j) = some u) (h1 : ∀ u ∈ news, u.oneCell' = true)
    (hn : (n + m) * 1 ≤ 140737488355328) (hbase : base ≤ w.heap.size) :
    ∃ v' w', (Builtin.append_ #[23, 23] 23 #[v, .slice (some ad) m c]).run Tryz.prog w = .ok v' w' ∧ w'.ownsRow base 5 1 v' (n + m) (xs ++ news) ∧ w.grownBy w' v.ownBlock := by
  obtain ⟨i, z, hi, hz, hs, hb, hc⟩ := info_u8
  obtain ⟨v', w', hr, ho, hg, _⟩ := run_append_own w base 23 23 5 i z 1 1 (P := Tryz.prog) Tryz.underlying23 hi hz hs hb hc (by decide) v n xs hown ad m c news (by omega) hnews h1 (by unfold maxLen; omega) hn hbase
  exact ⟨v', w', hr, ho, hg⟩
/-- one element, out of a box that was just made -/
theorem append1_u8 (w : World) (base n : Nat) (v x : Value) (xs : List Value) (hown : w.ownsRow base 5 1 v n xs) (h1 : x.oneCell' = true) (hn : (n + 1) * 1 ≤ 140737488355328) (hbase : base ≤ w.heap.size) :
    ∃ v' w', (Builtin.append_ #[23, 23] 23 #[v, .slice (some ⟨w.heap.size, 0, none⟩) 1 1]).run Tryz.prog (w.alloc (.cells #[x] 5)) = .ok v' w' ∧ w'.ownsRow base 5 1 v' (n + 1) (xs ++ [x]) ∧ w.grownBy w' v.ownBlock := by
  obtain ⟨v', w', hr, ho, hg⟩ := append_u8 (w.alloc (.cells #[x] 5)) base n 1 1 v xs [x] ⟨w.heap.size, 0, none⟩ (hown.alloc _) rfl (fun j u hu => by
    have hj : j = 0 := by
      rcases Nat.eq_zero_or_pos j with h | h
      · exact h
      · rw [List.getElem?_eq_none (by simp; omega)] at hu; cases hu
    subst hj
    rw [show x = u by simpa using hu]
    exact (Blk.new w [u] 5).cell (i := 0) rfl) (fun u hu => by rw [List.mem_singleton.1 hu]; exact h1) hn (by simp; omega)
  exact ⟨v', w', hr, ho, gb_trans (gb_alloc (gb_refl _ _) _) hg⟩

/-- what is written lies in a row of one's own -/
theorem gb_own {w0 w w' : World} {base e n : Nat} {v : Value} {xs : List Value} (h : w0.grownBy w none) (ho : w.ownsRow base e 1 v n xs) (hb : w0.heap.size ≤ base) (hg : w.grownBy w' v.ownBlock) : w0.grownBy w' none :=
  ⟨hg.os.trans h.os, hg.tape.trans h.tape, hg.output.trans h.output, Nat.le_trans h.size hg.size, fun k hk _ => (hg.block k (Nat.lt_of_lt_of_le hk h.size) (fun e => by have := (ho.lt k e.symm).1; omega)).trans (h.block k hk (by simp))⟩
theorem own_drewN {w : World} {base e n : Nat} {v : Value} {xs : List Value} (h : w.ownsRow base e 1 v n xs) (k : Nat) : (w.drewN k).ownsRow base e 1 v n xs := ⟨h.1, h.2⟩
theorem own_some {w : World} {base e n : Nat} {v : Value} {xs : List Value} (h : w.ownsRow base e 1 v n xs) (hn : 0 < n) : ∃ g c, v = .slice (some ⟨g, 0, none⟩) n c ∧ base ≤ g ∧ n ≤ c ∧ c ≤ maxLen ∧ g < w.heap.size := by
  rcases h.2 with ⟨_, h0⟩ | ⟨g, c, cur, rfl, hb, hg, hnc, hcm, _⟩
  · omega
  · exact ⟨g, c, rfl, hb, hnc, hcm, lt_of_block hg⟩
theorem own_cell {w : World} {base e n g c : Nat} {xs : List Value} (h : w.ownsRow base e 1 (.slice (some ⟨g, 0, none⟩) n c) n xs) {j : Nat} {u : Value} (hu : xs[j]? = some u) : w.cell? ⟨g, j, none⟩ = some u := by
  have hl : xs.length = n := by have := h.1; omega
  have hj : j < n := by
    rcases Nat.lt_or_ge j n with h' | h'
    · exact h'
    · rw [List.getElem?_eq_none (by omega)] at hu; cases hu
  rw [h.cellAt j (by omega)]; exact hu

/-- an append whose run is known -/
theorem wpList_append_run {P : Program} {w : World} {ops : Array Oper} {rest : List Oper} {o : Oper} {a : Act} {Q : Exit → Act → World → Prop} (hgd : o.guard = none) (s x : Operand) (t : TypeId)
    (ho : o.op = .call { callee := .builtin .append, args := #[s, x], argTypes := #[t, t] }) (ht : o.type = t) (v y : Value) (hs : a.eval s = v) (hx : a.eval x = y) (v' : Value) (w' : World)
    (hr : (Builtin.append_ #[t, t] t #[v, y]).run P w = .ok v' w') (h : wpList P ops Q rest (a.put o.dst v') w') : wpList P ops Q (o :: rest) a w := by
  refine wpList_plain hgd fun K hK => ?_
  rw [← ht] at hr
  unfold Oper.wp
  simp [execOp, ho, resolve, invoke, builtin, hs, hx, ← ht, hr, Result.andThen]
  exact hK _ _ h
theorem append_none (w : World) (base n c : Nat) (v : Value) (xs : List Value) (hown : w.ownsRow base 5 1 v n xs) :
    (Builtin.append_ #[23, 23] 23 #[v, .slice none 0 c]).run Tryz.prog w = .ok v w := by
  obtain ⟨i, z, hi, hz, hs, hb, hc⟩ := info_u8
  rcases hown.2 with ⟨rfl, rfl⟩ | ⟨g, cap, cur, rfl, _, _, hnc, _⟩
  · simp [Builtin.append_, run_underlying Tryz.underlying23, sizeOf, typeInfo, hi, Builtin.lenOf, Builtin.firstCells]
  · simp [Builtin.append_, run_underlying Tryz.underlying23, sizeOf, typeInfo, hi, Builtin.lenOf, Builtin.firstCells, hnc, storeCells]
theorem own_base {w : World} {b b' e n : Nat} {v : Value} {xs : List Value} (h : w.ownsRow b e 1 v n xs) (hb : b' ≤ b) : w.ownsRow b' e 1 v n xs := by
  refine ⟨h.1, ?_⟩
  rcases h.2 with h' | ⟨g, c, cur, e1, e2, e3⟩
  · exact Or.inl h'
  · exact Or.inr ⟨g, c, cur, e1, Nat.le_trans hb e2, e3⟩
theorem own_kept {w w' : World} {base e n : Nat} {v : Value} {xs : List Value} (h : w.ownsRow base e 1 v n xs) (hg : w.grownBy w' none) : w'.ownsRow base e 1 v n xs :=
  h.kept hg (by cases v.ownBlock <;> simp)
/-- bytes that lie somewhere, appended where there is room -/
theorem append_bytes_fits (w : World) (base g n0 c B cap n : Nat) (xs : List Value) (a : Option Addr) (p : List Nat) (hown : w.ownsRow base 5 1 (.slice (some ⟨g, 0, none⟩) n0 c) n0 xs) (hn : p.length = n) (hP : BytesAt w B a cap p) (hroom : n0 + n ≤ c) :
    ∃ w', (Builtin.append_ #[23, 23] 23 #[.slice (some ⟨g, 0, none⟩) n0 c, .slice a n cap]).run Tryz.prog w = .ok (.slice (some ⟨g, 0, none⟩) (n0 + n) c) w' ∧ w'.ownsRow base 5 1 (.slice (some ⟨g, 0, none⟩) (n0 + n) c) (n0 + n) (xs ++ p.map u8N) ∧ w.grownBy w' (some g) := by
  subst hn
  obtain ⟨i, z, hi, hz, hs, hb, hc⟩ := info_u8
  rcases a with _ | ad
  · have h0 : p.length = 0 := by
      rcases hP.cells with h | ⟨_, _, h, _⟩
      · exact h
      · cases h
    obtain rfl : p = [] := List.eq_nil_of_length_eq_zero h0
    exact ⟨w, append_none w base n0 cap _ xs hown, by simpa using hown, gb_refl _ _⟩
  · refine run_append_fits w base 23 23 5 i 1 (P := Tryz.prog) Tryz.underlying23 hi hs g n0 c xs hown ad p.length cap (p.map u8N) (by simp) (fun j u hu => ?_) (fun u hu => ?_) hroom
    · rcases hP.cells with h | ⟨pb, po, h, _, hc⟩
      · obtain rfl : p = [] := List.eq_nil_of_length_eq_zero h
        simp at hu
      · cases h
        have hj : j < p.length := by
          rcases Nat.lt_or_ge j p.length with h | h
          · exact h
          · rw [List.getElem?_eq_none (by simpa using h)] at hu; cases hu
        have hadd : (⟨pb, po, none⟩ : Addr).add j = ⟨pb, po + j, none⟩ := by unfold Addr.add; split <;> simp_all
        rw [hadd, hc j hj, ← hu, u8_getD hj]
    · obtain ⟨x, _, rfl⟩ := List.mem_map.1 hu
      rfl
/-- .. and where there may be none -/
theorem append_bytes (w : World) (base n0 B cap n : Nat) (v : Value) (xs : List Value) (a : Option Addr) (p : List Nat) (hown : w.ownsRow base 5 1 v n0 xs) (hn : p.length = n) (hP : BytesAt w B a cap p)
    (hb : n0 + n ≤ 140737488355328) (hbase : base ≤ w.heap.size) :
    ∃ v' w', (Builtin.append_ #[23, 23] 23 #[v, .slice a n cap]).run Tryz.prog w = .ok v' w' ∧ w'.ownsRow base 5 1 v' (n0 + n) (xs ++ p.map u8N) ∧ w.grownBy w' v.ownBlock := by
  subst hn
  rcases a with _ | ad
  · have h0 : p.length = 0 := by
      rcases hP.cells with h | ⟨_, _, h, _⟩
      · exact h
      · cases h
    obtain rfl : p = [] := List.eq_nil_of_length_eq_zero h0
    exact ⟨v, w, append_none w base n0 cap _ xs hown, by simpa using hown, gb_refl _ _⟩
  · refine append_u8 w base n0 p.length cap v xs (p.map u8N) ad hown (by simp) (fun j u hu => ?_) (fun u hu => ?_) (by omega) hbase
    · rcases hP.cells with h | ⟨pb, po, h, _, hc⟩
      · obtain rfl : p = [] := List.eq_nil_of_length_eq_zero h
        simp at hu
      · cases h
        have hj : j < p.length := by
          rcases Nat.lt_or_ge j p.length with h | h
          · exact h
          · rw [List.getElem?_eq_none (by simpa using h)] at hu; cases hu
        have hadd : (⟨pb, po, none⟩ : Addr).add j = ⟨pb, po + j, none⟩ := by unfold Addr.add; split <;> simp_all
        rw [hadd, hc j hj, ← hu, u8_getD hj]
    · obtain ⟨x, _, rfl⟩ := List.mem_map.1 hu
      rfl
/-- one byte, out of a box that was just made, where there is room -/
theorem append_byte_fits (w : World) (base g n0 c x : Nat) (xs : List Value) (hx : x < 256) (hown : w.ownsRow base 5 1 (.slice (some ⟨g, 0, none⟩) n0 c) n0 xs) (hroom : n0 + 1 ≤ c) :
    ∃ w', (Builtin.append_ #[23, 23] 23 #[.slice (some ⟨g, 0, none⟩) n0 c, .slice (some ⟨w.heap.size, 0, none⟩) 1 1]).run Tryz.prog (w.alloc (.cells #[u8N x] 5)) = .ok (.slice (some ⟨g, 0, none⟩) (n0 + 1) c) w' ∧ w'.ownsRow base 5 1 (.slice (some ⟨g, 0, none⟩) (n0 + 1) c) (n0 + 1) (xs ++ [u8N x]) ∧ w.grownBy w' (some g) := by
  have hb := Blk.new w [u8N x] 5
  have hp : BytesAt (w.alloc (.cells #[u8N x] 5)) (w.heap.size + 1) (some ⟨w.heap.size, 0, none⟩) 1 [x] :=
    blk_bytes (l := [x]) (n := 1) (tl := []) hb rfl (by omega) (by omega) (fun i => by cases i <;> simp; omega) (by omega) (by simp)
  obtain ⟨w', hr, ho, hg⟩ := append_bytes_fits (w.alloc (.cells #[u8N x] 5)) base g n0 c (w.heap.size + 1) 1 1 xs _ [x] (hown.alloc _) rfl hp hroom
  exact ⟨w', hr, ho, gb_trans (gb_alloc (gb_refl _ _) _) hg⟩
set_option maxRecDepth 100000 in
/-- x[lo:hi] of a slice of bytes -/
theorem slice_run (a : Option Addr) (n cap lo k : Nat) (h : lo + k ≤ cap) :
    ∃ a', (∀ w, (Instr.slice 23 (.slice a n cap) (some (.int .i64 (lo : Int))) (some (.int .i64 ((lo : Int) + (k : Int)))) none).run Tryz.prog w = .ok (.slice a' k (cap - lo)) w) ∧ (lo < cap → ∀ pb po, a = some ⟨pb, po, none⟩ → a' = some ⟨pb, po + lo, none⟩) := by
  obtain ⟨j, hj, hs⟩ : ∃ j, Tryz.prog.info? (Tryz.prog.elem 23) = some j ∧ j.size = 1 := by
    have h1 : (Tryz.prog.info? (Tryz.prog.elem 23)).map (·.size) = some 1 := by kernel_rfl
    cases hq : Tryz.prog.info? (Tryz.prog.elem 23) with
    | none => rw [hq] at h1; cases h1
    | some j => rw [hq] at h1; exact ⟨j, rfl, by simpa using h1⟩
  have e1 : ((lo : Int) + (k : Int)).toNat = lo + k := by omega
  refine ⟨if cap = lo then a else a.map (·.add lo), fun w => ?_, ?_⟩
  · rw [run_slice_lh w 23 a n cap Tryz.underlying23 .i64 .i64 _ _ (by omega) (by omega) (by omega), e1, Int.toNat_natCast]
    simp [sizeOf, typeInfo, hj, hs, sliced]
  · intro hlt pb po e
    rw [if_neg (by omega), e]
    simp [Addr.add]

set_option maxRecDepth 100000 in
/-- x[lo:] of a slice of bytes -/
theorem slice_from (a : Option Addr) (n cap lo : Nat) (h : lo ≤ n) :
    ∃ a', (∀ w, (Instr.slice 23 (.slice a n cap) (some (.int .i64 (lo : Int))) none none).run Tryz.prog w = .ok (.slice a' (n - lo) (cap - lo)) w) ∧ (lo < cap → ∀ pb po, a = some ⟨pb, po, none⟩ → a' = some ⟨pb, po + lo, none⟩) := by
  obtain ⟨j, hj, hs⟩ : ∃ j, Tryz.prog.info? (Tryz.prog.elem 23) = some j ∧ j.size = 1 := by
    have h1 : (Tryz.prog.info? (Tryz.prog.elem 23)).map (·.size) = some 1 := by kernel_rfl
    cases hq : Tryz.prog.info? (Tryz.prog.elem 23) with
    | none => rw [hq] at h1; cases h1
    | some j => rw [hq] at h1; exact ⟨j, rfl, by simpa using h1⟩
  refine ⟨if cap = lo then a else a.map (·.add lo), fun w => ?_, ?_⟩
  · rw [run_slice_l w 23 a n cap Tryz.underlying23 .i64 _ (by omega) (by omega), Int.toNat_natCast]
    simp [sizeOf, typeInfo, hj, hs, sliced]
  · intro hlt pb po e
    rw [if_neg (by omega), e]
    simp [Addr.add]

end Ow
end Go.Proofs.YtlkiancedgaicaaGreat

/- Strings as bytes, and bytes as strings. -/
namespace Go.Proofs.YtlkiancedgaicaaGreat
open Go.RowKit Ow

/-- a string's bytes -/
def strL (s : ByteArray) : List Nat := s.data.toList.map UInt8.toNat
theorem strL_len (s : ByteArray) : (strL s).length = s.size := by unfold strL; rw [List.length_map]; rfl
theorem strL_byte (s : ByteArray) (i : Nat) : (strL s).getD i 0 < 256 := by
  unfold strL
  rw [List.getD_eq_getElem?_getD, List.getElem?_map]
  cases s.data.toList[i]? with
  | none => decide
  | some b => exact b.toNat_lt
theorem strL_inj {s t : ByteArray} (h : strL s = strL t) : s = t := by
  unfold strL at h
  have h2 : s.data.toList = t.data.toList := List.map_inj_right (fun a b h => UInt8.toNat_inj.1 h) |>.1 h
  cases s; cases t
  simpa using h2
/-- two strings are one, just if their bytes are -/
theorem str_eq (s t : ByteArray) : (s.toList == t.toList) = decide (strL s = strL t) := by
  rw [ByteArray.toList_eq, ByteArray.toList_eq, Bool.eq_iff_iff]
  simp only [beq_iff_eq, decide_eq_true_eq]
  constructor
  · intro h; unfold strL; rw [h]
  · intro h; rw [strL_inj h]
def ofL (l : List Nat) : ByteArray := ⟨(l.map UInt8.ofNat).toArray⟩
theorem strL_ofL {l : List Nat} (h : ∀ i, l.getD i 0 < 256) : strL (ofL l) = l := by
  unfold strL ofL
  simp only [List.map_map]
  conv => rhs; rw [← List.map_id l]
  apply List.map_congr_left
  intro x hx
  obtain ⟨i, hi, rfl⟩ := List.getElem_of_mem hx
  have := h i
  rw [List.getD_eq_getElem?_getD, List.getElem?_eq_getElem hi] at this
  simp only [Option.getD_some] at this
  simp [UInt8.toNat_ofNat']
  omega
theorem gb_bytesWorld (w : World) (e : TypeId) (s : ByteArray) : w.grownBy (Lib.bytesWorld w e s) none := by
  refine ⟨rfl, rfl, rfl, by rw [Lib.bytesWorld_size]; omega, fun k hk _ => Lib.bytesWorld_at_old w e s k hk⟩
theorem cap_top (w : World) (n : Nat) (e : TypeId) (h : n < 9223372036854775808) : n ≤ grownCap w n 0 e ∧ grownCap w n 0 e < 9223372036854775808 := by
  have : ∀ t : Nat, n ≤ (Question.appendCap n 0 e).cut t ∧ (Question.appendCap n 0 e).cut t < 9223372036854775808 := fun t => by
    show n ≤ n + t % (2 ^ 63 - n) ∧ n + t % (2 ^ 63 - n) < 9223372036854775808
    have := Nat.mod_lt t (show 0 < 2 ^ 63 - n by omega)
    omega
  exact this _
/-- []byte(s) -/
theorem str_bytes (s : ByteArray) (w : World) (hs : s.size < 9223372036854775808) :
    ∃ c w', (convert 9 23 (.string s)).run Tryz.prog w = .ok (.slice (some ⟨w.heap.size, 0, none⟩) s.size c) w' ∧ w.grownBy w' none ∧ BytesAt w' w'.heap.size (some ⟨w.heap.size, 0, none⟩) c (strL s) := by
  have h := Lib.run_convert_string_bytes (P := Tryz.prog) w 9 23 5 s Tryz.underlying9 Tryz.underlying23 Tryz.underlying5
  refine ⟨_, _, h, gb_bytesWorld w _ s, Nat.le_refl _, by rw [strL_len]; exact (cap_top w s.size _ hs).1, (cap_top w s.size _ hs).2, strL_byte s, Or.inr ⟨w.heap.size, 0, rfl, by rw [Lib.bytesWorld_size]; omega, fun i hi => ?_⟩⟩
  rw [strL_len] at hi
  rw [Nat.zero_add, Lib.bytesWorld_cell w 5 s i hi]
  unfold u8N strL
  have hi2 : i < s.data.toList.length := hi
  simp only [List.getD_eq_getElem?_getD, List.getElem?_map, List.getElem?_eq_getElem hi2, Option.map_some, Option.getD_some]
theorem push_all (l : List Nat) : ∀ s : ByteArray, (l.map Int.ofNat).foldl (fun r n => r.push (UInt8.ofNat n.toNat)) s = ⟨s.data ++ (l.map UInt8.ofNat).toArray⟩ := by
  induction l with
  | nil => intro s; cases s; simp
  | cons x r ih =>
    intro s
    simp only [List.map_cons, List.foldl_cons]
    rw [ih]
    cases s
    simp [ByteArray.push]
/-- string(b) -/
theorem bytes_str {w : World} {B n cap : Nat} {a : Option Addr} {l : List Nat} (hn : l.length = n) (h : BytesAt w B a cap l) :
    (convert 23 9 (.slice a n cap)).run Tryz.prog w = .ok (.string (ofL l)) w := by
  subst hn
  rw [run_convert_bytes_string w 23 9 5 a l.length cap Tryz.underlying23 Tryz.underlying5 Tryz.underlying9]
  rcases h.cells with h0 | ⟨pb, po, rfl, hlt, hc⟩
  · obtain rfl : l = [] := List.eq_nil_of_length_eq_zero h0
    cases a with
    | none => rfl
    | some a =>
      exact run_bytesToString w a 0 cap [] (run_loadCells_list (P := Tryz.prog) (w := w) a [] (fun j v hv => by simp at hv))
  · rw [run_bytesToString w ⟨pb, po, none⟩ l.length cap (l.map Int.ofNat) ?_, push_all]
    · show Result.ok (Value.string ⟨#[] ++ (l.map UInt8.ofNat).toArray⟩) w = _
      rw [Array.empty_append]
      rfl
    · have hl := run_loadCells_list (P := Tryz.prog) (w := w) ⟨pb, po, none⟩ (l.map u8N) (fun j u hu => by
        have hj : j < l.length := by
          rcases Nat.lt_or_ge j l.length with h | h
          · exact h
          · rw [List.getElem?_eq_none (by simpa using h)] at hu; cases hu
        rw [Addr.add_lit, hc j hj, ← hu, u8_getD hj])
      rw [List.length_map] at hl
      rw [hl, List.map_map]
      rfl
end Go.Proofs.YtlkiancedgaicaaGreat

/- sort.Search at this dump: the shelf's contract, laid by hand. -/
namespace Go.Proofs.YtlkiancedgaicaaGreat
open Go.Shelf
def laysSearch_ren : Go.Shelf.Ren := ⟨fun | 16 => 239 | n => n, fun | 3 => 3 | 4 => 4 | 35 => 154 | 38 => 73 | n => n, fun | n => n⟩
theorem laysSearch : Go.Proofs.SlLaysO.n16 Tryz.prog laysSearch_ren := {
  mixed := by kernel_rfl
  f16 := Tryz.func239.trans (congrArg some (by kernel_rfl))
  t3 := Tryz.underlying3
  a3 := Tryz.isAgg3
  z3 := Tryz.sizeOf3
  v3 := Tryz.zeroValue3
  t4 := Tryz.underlying4
  a4 := Tryz.isAgg4
  z4 := Tryz.sizeOf4
  v4 := Tryz.zeroValue4
  t35 := Tryz.underlying154
  a35 := Tryz.isAgg154
  z35 := Tryz.sizeOf154
  v35 := Tryz.zeroValue154
  t38 := Tryz.underlying73
  a38 := Tryz.isAgg73
  z38 := Tryz.sizeOf73
  v38 := Tryz.zeroValue73 }
end Go.Proofs.YtlkiancedgaicaaGreat

/- Rows of dots: what lies below a bound and stays. -/
namespace Go.Proofs.YtlkiancedgaicaaGreat
open Go.RowKit
namespace Ve
abbrev iV (n : Int) : Value := .int .i64 n
/-- a slice of the dots l, that lie below block B -/
structure DotsAt (w : World) (B : Nat) (a : Option Addr) (l : List D) : Prop where
  lim : B ≤ w.heap.size
  cells : l.length = 0 ∨ ∃ pb po, a = some ⟨pb, po, none⟩ ∧ pb < B ∧ ∀ i, i < l.length → w.cell? ⟨pb, po + i * 2, none⟩ = some (iV (l.getD i z0).1) ∧ w.cell? ⟨pb, po + i * 2 + 1, none⟩ = some (iV (l.getD i z0).2)
theorem DotsAt.kept {w w' : World} {B : Nat} {a : Option Addr} {l : List D} (h : DotsAt w B a l) {row : Option Nat} (hg : w.grownBy w' row) (hr : ∀ r, row = some r → B ≤ r) : DotsAt w' B a l := by
  refine ⟨Nat.le_trans h.lim hg.size, ?_⟩
  rcases h.cells with h0 | ⟨pb, po, ha, hlt, hc⟩
  · exact Or.inl h0
  · have e : ∀ o, w'.cell? ⟨pb, o, none⟩ = w.cell? ⟨pb, o, none⟩ := fun o => gb_cell hg (p := ⟨pb, o, none⟩) (Nat.lt_of_lt_of_le hlt h.lim) (fun e => by have := hr _ e.symm; simp at this; omega)
    exact Or.inr ⟨pb, po, ha, hlt, fun i hi => by rw [e, e]; exact hc i hi⟩
theorem DotsAt.stay {w w' : World} {B : Nat} {a : Option Addr} {l : List D} (h : DotsAt w B a l) (hg : w.grownBy w' none) : DotsAt w' B a l := h.kept hg (fun r e => by cases e)
theorem DotsAt.up' {w : World} {B B' : Nat} {a : Option Addr} {l : List D} (h : DotsAt w B a l) (hB : B ≤ B') (hl : B' ≤ w.heap.size) : DotsAt w B' a l := by
  refine ⟨hl, ?_⟩
  rcases h.cells with h0 | ⟨pb, po, ha, hlt, hc⟩
  · exact Or.inl h0
  · exact Or.inr ⟨pb, po, ha, by omega, hc⟩
end Ve
end Go.Proofs.YtlkiancedgaicaaGreat

/- Where a client stands, or would have to; how many writes are seen of it. -/
namespace Go.Proofs.YtlkiancedgaicaaGreat
open Go.RowKit Go.Shelf Go.Sort Ve
namespace Ve
set_option maxHeartbeats 400000 in
theorem closure_any (n cap ba bx pb po i : Nat) (c x : Int) (w : World) (hi : i < n) (ha : w.cell? ⟨ba, 0, none⟩ = some (.slice (some ⟨pb, po, none⟩) n cap)) (hx : w.cell? ⟨bx, 0, none⟩ = some (iV c)) (hc : w.cell? ⟨pb, po + i * 2, none⟩ = some (iV x)) :
    Calls Tryz.prog 240 (#[.int .i64 i] ++ #[.pointer (some ⟨ba, 0, none⟩), .pointer (some ⟨bx, 0, none⟩)]) w fun e w' => e = .returned (.bool (decide (c ≤ x))) ∧ ∃ q, w' = w.drewN q := by
  have hiz : (i : Int) < (n : Int) := by omega
  go_enter Tryz.func240, Tryz.ntmps240
  go_wp2
  go_quiet (fail)
  go_wp2
  go_ret
  exact ⟨rfl, _, rfl⟩
theorem gb_grow (w : World) (q : Nat) (os : Array Obj) : w.grownBy (grow (w.drewN q) os) none :=
  ⟨rfl, rfl, rfl, by simp [grow], fun k hk _ => by
    show ((w.drewN q).heap ++ os)[k]? = _
    rw [Array.getElem?_append_left (by show k < w.heap.size; omega)]
    rfl⟩
set_option maxHeartbeats 400000 in
theorem place_any (B n cap : Nat) (a : Option Addr) (l : List D) (c : Int) (w : World) (hn : l.length = n) (h : DotsAt w B a l) (hr : Rt 0 l) :
    Calls Tryz.prog 232 #[.slice a n cap, .int .i64 c] w fun e w' => e = .returned (.int .i64 (pl l c : Nat)) ∧ w.grownBy w' none := by
  have hl8 := hr.len (by decide)
  obtain ⟨W0, hW0⟩ : ∃ W0, W0 = (w.alloc (.cells #[.slice a n cap] 284)).alloc (.cells #[.int .i64 c] 3) := ⟨_, rfl⟩
  have hg0 : w.grownBy W0 none := by rw [hW0]; exact gb_alloc (gb_alloc (gb_refl _ _) _) _
  have ca : W0.cell? ⟨w.heap.size, 0, none⟩ = some (.slice a n cap) := by rw [hW0]; exact cell_alloc_sl _ (cell_new_sl w _ _)
  have cx : W0.cell? ⟨w.heap.size + 1, 0, none⟩ = some (.int .i64 c) := by rw [hW0]; have := cell_new_sl (w.alloc (.cells #[.slice a n cap] 284)) (.int .i64 c) 3; rwa [World.size_alloc] at this
  have hS := Any.sort_Search laysSearch 240 #[.pointer (some ⟨w.heap.size, 0, none⟩), .pointer (some ⟨w.heap.size + 1, 0, none⟩)] n (fun i => decide (c ≤ (l.getD i z0).1)) W0
    (enters_of Tryz.func240 (by kernel_rfl) rfl) (by omega)
    (fun m os i hi => by
      have hg := gb_trans hg0 (gb_grow W0 m os)
      obtain ⟨pb, po, rfl, _, hcs⟩ := (h.stay hg).cells.resolve_left (by omega)
      have k1 := (hcs i (by omega)).1
      refine (closure_any n cap w.heap.size (w.heap.size + 1) pb po i c _ _ hi (by rw [gb_cell (gb_grow W0 m os) (Blk.lt (w := W0) (T := 284) (L := [.slice (some ⟨pb, po, none⟩) n cap]) (by rw [hW0]; exact (Blk.new _ _ _).alloc _)) (by simp)]; exact ca)
        (by rw [gb_cell (gb_grow W0 m os) (by rw [hW0]; simp) (by simp)]; exact cx) k1).mono ?_
      rintro e w' ⟨rfl, q, rfl⟩
      exact ⟨rfl, q, #[], by rw [grow_empty]⟩)
    (fun x y hxy hy hx => by
      rcases Nat.eq_or_lt_of_le hxy with rfl | hlt
      · exact hx
      · have := hr.at_lt x y hlt (by omega)
        simp only [decide_eq_true_eq] at hx ⊢
        omega)
  have hp : (List.range n).countP (fun i => !decide (c ≤ (l.getD i z0).1)) = pl l c := by rw [← hn]; rfl
  rw [hp] at hS
  change Calls Tryz.prog 239 _ _ _ at hS
  have HG := Lib.hid hg0
  clear ca cx hp h hr hn hg0
  generalize pl l c = r at hS ⊢
  go_enter Tryz.func232, Tryz.ntmps232
  go_wp2_with (go_at_call 239; rw [← hW0]; refine hS.mono ?_; rintro e w' ⟨rfl, q, os, rfl⟩)
  go_ret
  exact ⟨rfl, by rw [← hW0]; exact gb_trans HG.out (gb_grow W0 q os)⟩
set_option maxHeartbeats 400000 in
theorem seen_any (B n cap : Nat) (a : Option Addr) (l : List D) (c : Int) (w : World) (hn : l.length = n) (h : DotsAt w B a l) (hr : Rt 0 l) :
    Calls Tryz.prog 233 #[.slice a n cap, .int .i64 c] w fun e w' => e = .returned (.int .i64 (up l c)) ∧ w.grownBy w' none := by
  obtain ⟨p1, p2, p3⟩ := pl_is hr c
  have hu := up_pl (pl l c) hr p2 (fun hk => p3 _ (Nat.le_refl _) hk)
  have hP := place_any B n cap a l c w hn h hr
  generalize pl l c = k at p1 p2 p3 hu hP
  have H := Lib.hid h; clear h
  have HN := Lib.hid hn
  rw [hn] at p1
  clear p2 p3
  by_cases hk : k = n
  · subst hk
    rw [if_neg (by omega)] at hu
    have HU := Lib.hid hu; clear hu hn
    go_enter Tryz.func233, Tryz.ntmps233
    go_wp2_with fail
    refine hP.mono ?_
    rintro e w' ⟨rfl, hg⟩
    have HG := Lib.hid hg; clear hg hP
    go_wp2
    go_ret
    exact ⟨by rw [HU.out]; rfl, HG.out⟩
  · have hlt : k < n := by omega
    have hk2 : (k : Int) < (n : Int) := by omega
    have hk3 : ¬ (k : Int) = (n : Int) := by omega
    obtain ⟨x, y, hxy⟩ : ∃ x y, l.getD k z0 = (x, y) := ⟨_, _, rfl⟩
    rw [hn, hxy] at hu
    simp only at hu
    have HX := Lib.hid hxy; clear hxy hn
    by_cases hx : x = c
    · subst hx
      rw [if_pos ⟨hlt, rfl⟩] at hu
      have HU := Lib.hid hu; clear hu
      go_enter Tryz.func233, Tryz.ntmps233
      go_wp2_with fail
      refine hP.mono ?_
      rintro e w' ⟨rfl, hg⟩
      obtain ⟨pb, po, rfl, _, hcs⟩ := (H.out.stay hg).cells.resolve_left (by rw [HN.out]; omega)
      obtain ⟨k1, k2⟩ := hcs k (by rw [HN.out]; exact hlt)
      rw [HX.out] at k1 k2
      simp only at k1 k2
      have HG := Lib.hid hg; clear hg hP hcs
      go_wp2
      go_ret
      exact ⟨by rw [HU.out]; rfl, HG.out⟩
    · rw [if_neg (fun h => hx h.2)] at hu
      have HU := Lib.hid hu; clear hu
      have hxb : (x != c) = true := by simpa using hx
      go_enter Tryz.func233, Tryz.ntmps233
      go_wp2_with fail
      refine hP.mono ?_
      rintro e w' ⟨rfl, hg⟩
      obtain ⟨pb, po, rfl, _, hcs⟩ := (H.out.stay hg).cells.resolve_left (by rw [HN.out]; omega)
      obtain ⟨k1, k2⟩ := hcs k (by rw [HN.out]; exact hlt)
      rw [HX.out] at k1 k2
      simp only at k1 k2
      have HG := Lib.hid hg; clear hg hP hcs
      go_wp2
      go_ret
      exact ⟨by rw [HU.out]; rfl, HG.out⟩
end Ve
end Go.Proofs.YtlkiancedgaicaaGreat

/- Whether a row is a vector. -/
namespace Go.Proofs.YtlkiancedgaicaaGreat
open Go.RowKit Ve
namespace Ve
set_option maxHeartbeats 400000 in
theorem right_any (B n c : Nat) (a : Option Addr) (l : List D) (w : World) (hn : l.length = n) (h : DotsAt w B a l) (hc : n < 9223372036854775808) :
    Calls Tryz.prog 231 #[.slice a n c] w fun e w' => e = .returned (.bool (rtB 0 l)) ∧ w.grownBy w' none := by
  have H := Lib.hid h; clear h
  have HN := Lib.hid hn; clear hn
  obtain ⟨R, HR⟩ : ∃ R, Hid (R = rtB 0 l) := ⟨_, rfl⟩
  rw [← HR.out]
  go_enter Tryz.func231, Tryz.ntmps231
  go_wp2
  go_loopw [3, 8] (fun last i wr => ∃ (k : Nat) (b : Int), k ≤ n ∧ 0 ≤ b ∧ i = .int .i64 k ∧ last = .int .i64 b ∧ Hid (w.grownBy wr none ∧ R = rtB b (l.drop k))) (fun _ i _ => n - (intOf i).toNat)
  case atStart => exact ⟨0, 0, by omega, by omega, rfl, rfl, gb_refl _ _, HR.out⟩
  case round =>
    obtain ⟨k, b, hk, hb, rfl, rfl, HI⟩ := hrel
    by_cases hlt : k < n
    · obtain ⟨pb, po, rfl, hpb, hcs⟩ := (H.out.stay HI.out.1).cells.resolve_left (by rw [HN.out]; omega)
      obtain ⟨k1, k2⟩ := hcs k (by rw [HN.out]; exact hlt)
      clear hcs
      have hd := drop_at l k (by rw [HN.out]; exact hlt)
      obtain ⟨x, y, hxy⟩ : ∃ x y, l.getD k z0 = (x, y) := ⟨_, _, rfl⟩
      rw [hxy] at k1 k2 hd
      simp only at k1 k2
      have HD := Lib.hid hd; clear hd hxy
      have hi : (k : Int) < (n : Int) := by omega
      have hfin : ∀ (b2 : Bool), (decide (b < x) && decide (x ≤ 8) && decide (1 ≤ y) && decide (y ≤ 1073741824)) = b2 → R = (b2 && rtB x (l.drop (k + 1))) := fun b2 hb2 => by rw [HI.out.2, HD.out, rtB, hb2]
      have HF := Lib.hid hfin; clear hfin
      by_cases h1 : x ≤ b
      · have hr : R = false := by rw [HF.out false (by simp; omega)]; rfl
        have HRF := Lib.hid hr; clear hr
        go_wp2
        go_ret
        exact ⟨by rw [HRF.out]; rfl, gb_alloc HI.out.1 _⟩
      by_cases h2 : 8 < x
      · have hr : R = false := by rw [HF.out false (by simp; omega)]; rfl
        have HRF := Lib.hid hr; clear hr
        go_wp2
        go_ret
        exact ⟨by rw [HRF.out]; rfl, gb_alloc HI.out.1 _⟩
      by_cases h3 : y < 1
      · have hr : R = false := by rw [HF.out false (by simp; omega)]; rfl
        have HRF := Lib.hid hr; clear hr
        go_wp2
        go_ret
        exact ⟨by rw [HRF.out]; rfl, gb_alloc HI.out.1 _⟩
      by_cases h4 : 1073741824 < y
      · have hr : R = false := by rw [HF.out false (by simp; omega)]; rfl
        have HRF := Lib.hid hr; clear hr
        go_wp2
        go_ret
        exact ⟨by rw [HRF.out]; rfl, gb_alloc HI.out.1 _⟩
      have hr : R = rtB x (l.drop (k + 1)) := by rw [HF.out true (by simp; omega)]; rfl
      have HRT := Lib.hid hr; clear hr
      go_wp2
      go_roundw
      case rel => exact ⟨k + 1, x, by omega, by omega, by go_num, rfl, gb_alloc HI.out.1 _, HRT.out⟩
      case measure => simp [intOf]; omega
    · obtain rfl : k = n := by omega
      have hr : R = true := by rw [HI.out.2, drop_end l k (by rw [HN.out]; omega)]; rfl
      have HRT := Lib.hid hr; clear hr
      go_wp2
      go_ret
      exact ⟨by rw [HRT.out]; rfl, HI.out.1⟩
theorem vright_any (B n c : Nat) (a : Option Addr) (l : List D) (w : World) (hn : l.length = n) (h : DotsAt w B a l) (hc : n < 9223372036854775808) :
    Calls Tryz.prog 220 #[.slice a n c] w fun e w' => e = .returned (.bool (rtB 0 l)) ∧ w.grownBy w' none := by
  have H := Lib.hid h; clear h
  have HN := Lib.hid hn; clear hn
  obtain ⟨R, HR⟩ : ∃ R, Hid (R = rtB 0 l) := ⟨_, rfl⟩
  rw [← HR.out]
  go_enter Tryz.func220, Tryz.ntmps220
  go_wp2_with fail
  refine (right_any B n c a l _ HN.out H.out hc).mono ?_
  rintro e w' ⟨rfl, hg⟩
  rw [← HR.out]
  have HG := Lib.hid hg; clear hg
  go_wp2
  go_ret
  exact ⟨rfl, HG.out⟩
end Ve
end Go.Proofs.YtlkiancedgaicaaGreat

/- Whether a vector has all of another one; a dot. -/
namespace Go.Proofs.YtlkiancedgaicaaGreat
open Go.RowKit Ve
namespace Ve
set_option maxHeartbeats 400000 in
theorem covers_any (B1 B2 n1 n2 c1 c2 : Nat) (a1 a2 : Option Addr) (l1 l2 : List D) (w : World) (hn1 : l1.length = n1) (hn2 : l2.length = n2) (h1 : DotsAt w B1 a1 l1) (h2 : DotsAt w B2 a2 l2) (hr : Rt 0 l1) (hc : n2 < 9223372036854775808) :
    Calls Tryz.prog 235 #[.slice a1 n1 c1, .slice a2 n2 c2] w fun e w' => e = .returned (.bool (covB l1 l2)) ∧ w.grownBy w' none := by
  have H1 := Lib.hid h1; clear h1
  have H2 := Lib.hid h2; clear h2
  have HN := Lib.hid (And.intro hn1 hn2); clear hn1 hn2
  obtain ⟨R, HR⟩ : ∃ R, Hid (R = covB l1 l2) := ⟨_, rfl⟩
  rw [← HR.out]
  go_enter Tryz.func235, Tryz.ntmps235
  go_wp2
  go_loopw [9] (fun i wr => ∃ (k : Nat), k ≤ n2 ∧ i = .int .i64 k ∧ Hid (w.grownBy wr none ∧ R = covB l1 (l2.drop k))) (fun i _ => n2 - (intOf i).toNat)
  case atStart => exact ⟨0, by omega, rfl, gb_refl _ _, HR.out⟩
  case round =>
    obtain ⟨k, hk, rfl, HI⟩ := hrel
    by_cases hlt : k < n2
    · obtain ⟨pb, po, rfl, hpb, hcs⟩ := (H2.out.stay HI.out.1).cells.resolve_left (by rw [HN.out.2]; omega)
      obtain ⟨k1, k2⟩ := hcs k (by rw [HN.out.2]; exact hlt)
      clear hcs
      have hd := drop_at l2 k (by rw [HN.out.2]; exact hlt)
      obtain ⟨x, y, hxy⟩ : ∃ x y, l2.getD k z0 = (x, y) := ⟨_, _, rfl⟩
      rw [hxy] at k1 k2 hd
      simp only at k1 k2
      have hfin : R = (decide (y ≤ up l1 x) && covB l1 (l2.drop (k + 1))) := by rw [HI.out.2, hd, covB]
      have HF := Lib.hid hfin; clear hfin hd hxy
      have hi : (k : Int) < (n2 : Int) := by omega
      have hS : ∀ w', w.grownBy w' none → Calls Tryz.prog 233 #[.slice a1 n1 c1, .int .i64 x] w' fun e w'' => e = .returned (.int .i64 (up l1 x)) ∧ w'.grownBy w'' none := fun w' hg => seen_any B1 n1 c1 a1 l1 x w' HN.out.1 (H1.out.stay hg) hr
      generalize up l1 x = u at hS HF
      have HS := Lib.hid hS; clear hS
      obtain ⟨W1, hW1⟩ : ∃ W1, W1 = (wr.alloc (.cells #[iV x, iV y] 127)) := ⟨_, rfl⟩
      have hg1 : w.grownBy W1 none := by rw [hW1]; exact gb_alloc HI.out.1 _
      have hB : Blk W1 wr.heap.size 127 [iV x, iV y] := by rw [hW1]; exact Blk.new wr _ _
      have HG1 := Lib.hid (And.intro hg1 hB); clear hg1 hB
      generalize hN : wr.heap.size = N at HG1
      by_cases hyu : u < y
      · have hr2 : R = false := by rw [HF.out, decide_eq_false (by omega)]; rfl
        have HRF := Lib.hid hr2; clear hr2
        have hyb : decide (u < y) = true := decide_eq_true hyu
        go_wp2_with fail
        rw [← hW1]
        have m1 := HG1.out.2.cell (i := 0) rfl
        have m2 := HG1.out.2.cell (i := 1) rfl
        clear hW1 k1 k2 hN
        go_region_with (go_at_call 233; refine (HS.out _ (gb_drew HG1.out.1)).mono ?_; rintro e w3 ⟨rfl, hg3⟩; have m3 : w3.cell? ⟨N, 1, none⟩ = some (iV y) := ((HG1.out.2.drew.grown hg3 (by simp)).cell (i := 1) rfl); have HG3 := Lib.hid (gb_trans (gb_drew HG1.out.1) hg3); clear hg3 m1 m2)
        all_goals
          go_wp2
          go_ret
          exact ⟨by rw [HRF.out]; rfl, HG3.out⟩
      · have hr2 : R = covB l1 (l2.drop (k + 1)) := by rw [HF.out, decide_eq_true (by omega)]; rfl
        have HRT := Lib.hid hr2; clear hr2
        have hyb : decide (u < y) = false := decide_eq_false hyu
        go_wp2_with fail
        rw [← hW1]
        have m1 := HG1.out.2.cell (i := 0) rfl
        have m2 := HG1.out.2.cell (i := 1) rfl
        clear hW1 k1 k2 hN
        go_region_with (go_at_call 233; refine (HS.out _ (gb_drew HG1.out.1)).mono ?_; rintro e w3 ⟨rfl, hg3⟩; have m3 : w3.cell? ⟨N, 1, none⟩ = some (iV y) := ((HG1.out.2.drew.grown hg3 (by simp)).cell (i := 1) rfl); have HG3 := Lib.hid (gb_trans (gb_drew HG1.out.1) hg3); clear hg3 m1 m2)
        all_goals
          go_wp2
          go_roundw
          case rel => exact ⟨k + 1, by omega, by go_num, HG3.out, HRT.out⟩
          case measure => simp [intOf]; omega
    · obtain rfl : k = n2 := by omega
      have hr : R = true := by rw [HI.out.2, drop_end l2 k (by rw [HN.out.2]; omega)]; rfl
      have HRT := Lib.hid hr; clear hr
      go_wp2
      go_ret
      exact ⟨by rw [HRT.out]; rfl, HI.out.1⟩
def cvB (a b : List D) : Bool := rtB 0 a && rtB 0 b && covB a b
def hasB (v : List D) (d : D) : Bool := rtB 0 v && okD d && decide (d.2 ≤ up v d.1)
theorem hasB_is (v : List D) (d : D) : hasB v d = cvB v [d] := by
  simp [hasB, cvB, rtB_one, covB]
set_option maxHeartbeats 400000 in
theorem vcovers_any (B1 B2 n1 n2 c1 c2 : Nat) (a1 a2 : Option Addr) (l1 l2 : List D) (w : World) (hn1 : l1.length = n1) (hn2 : l2.length = n2) (h1 : DotsAt w B1 a1 l1) (h2 : DotsAt w B2 a2 l2) (hc1 : n1 < 9223372036854775808) (hc2 : n2 < 9223372036854775808) :
    Calls Tryz.prog 222 #[.slice a1 n1 c1, .slice a2 n2 c2] w fun e w' => e = .returned (.bool (cvB l1 l2)) ∧ w.grownBy w' none := by
  have HA := Lib.hid (fun w' (hg : w.grownBy w' none) => vright_any B1 n1 c1 a1 l1 w' hn1 (h1.stay hg) hc1)
  have HB := Lib.hid (fun w' (hg : w.grownBy w' none) => vright_any B2 n2 c2 a2 l2 w' hn2 (h2.stay hg) hc2)
  have HC := Lib.hid (fun (hr : rtB 0 l1 = true) w' (hg : w.grownBy w' none) => covers_any B1 B2 n1 n2 c1 c2 a1 a2 l1 l2 w' hn1 hn2 (h1.stay hg) (h2.stay hg) ((rtB_iff _ _).1 hr) hc2)
  clear h1 h2 hn1 hn2
  obtain ⟨R, hR⟩ : ∃ R, R = cvB l1 l2 := ⟨_, rfl⟩
  rw [← hR]
  unfold cvB at hR
  generalize covB l1 l2 = z at hR HC
  generalize rtB 0 l2 = y at hR HB
  cases hx : rtB 0 l1 with
  | false =>
    rw [hx] at hR HA
    have HR := Lib.hid (show R = false from hR); clear hR
    clear HB HC hx
    go_enter Tryz.func222, Tryz.ntmps222
    go_wp2_with fail
    refine (HA.out _ (gb_refl _ _)).mono ?_
    rintro e w1 ⟨rfl, hg⟩
    have HG := Lib.hid hg; clear hg
    go_wp2
    go_ret
    exact ⟨by rw [HR.out]; rfl, HG.out⟩
  | true =>
    replace HC := Lib.hid (HC.out hx)
    rw [hx] at hR HA
    clear hx
    cases y with
    | false =>
      have HR := Lib.hid (show R = false from hR); clear hR
      clear HC
      go_enter Tryz.func222, Tryz.ntmps222
      go_wp2_with fail
      refine (HA.out _ (gb_refl _ _)).mono ?_
      rintro e w1 ⟨rfl, hg⟩
      have HG := Lib.hid hg; clear hg
      go_wp2_with fail
      refine (HB.out _ HG.out).mono ?_
      rintro e w2 ⟨rfl, hg⟩
      have HG2 := Lib.hid (gb_trans HG.out hg); clear hg
      go_wp2
      go_ret
      exact ⟨by rw [HR.out]; rfl, HG2.out⟩
    | true =>
      have HR := Lib.hid (show R = z from by simpa using hR); clear hR
      go_enter Tryz.func222, Tryz.ntmps222
      go_wp2_with fail
      refine (HA.out _ (gb_refl _ _)).mono ?_
      rintro e w1 ⟨rfl, hg⟩
      have HG := Lib.hid hg; clear hg
      go_wp2_with fail
      refine (HB.out _ HG.out).mono ?_
      rintro e w2 ⟨rfl, hg⟩
      have HG2 := Lib.hid (gb_trans HG.out hg); clear hg
      go_wp2_with fail
      refine (HC.out _ HG2.out).mono ?_
      rintro e w3 ⟨rfl, hg⟩
      have HG3 := Lib.hid (gb_trans HG2.out hg); clear hg
      go_wp2
      go_ret
      exact ⟨by rw [HR.out]; rfl, HG3.out⟩
theorem dots_one (w : World) (x y : Int) (T : TypeId) : DotsAt (w.alloc (.cells #[iV x, iV y] T)) (w.heap.size + 1) (some ⟨w.heap.size, 0, none⟩) [(x, y)] := by
  have hB : Blk (w.alloc (.cells #[iV x, iV y] T)) w.heap.size T [iV x, iV y] := Blk.new w _ _
  refine ⟨by simp, Or.inr ⟨w.heap.size, 0, rfl, by omega, fun i hi => ?_⟩⟩
  obtain rfl : i = 0 := by simp at hi; omega
  exact ⟨hB.cell (i := 0) rfl, hB.cell (i := 1) rfl⟩
set_option maxHeartbeats 400000 in
theorem has_any (B1 n1 c1 : Nat) (a1 : Option Addr) (l1 : List D) (x y : Int) (w : World) (hn1 : l1.length = n1) (h1 : DotsAt w B1 a1 l1) (hc1 : n1 < 9223372036854775808) :
    Calls Tryz.prog 187 #[.slice a1 n1 c1, .agg #[iV x, iV y]] w fun e w' => e = .returned (.bool (hasB l1 (x, y))) ∧ w.grownBy w' none := by
  have HC := Lib.hid (fun w' (hg : w.grownBy w' none) B2 a2 c2 (h2 : DotsAt w' B2 a2 [(x, y)]) => vcovers_any B1 B2 n1 1 c1 c2 a1 a2 l1 [(x, y)] w' hn1 rfl (h1.stay hg) h2 hc1 (by decide))
  rw [hasB_is]
  generalize cvB l1 [(x, y)] = R at HC
  clear h1 hn1
  have hD : DotsAt ((w.alloc (.cells #[iV x, iV y] 127)).alloc (.cells #[iV x, iV y] 127)) (w.heap.size + 1 + 1) (some ⟨w.heap.size + 1, 0, none⟩) [(x, y)] := by
    have h := dots_one (w.alloc (.cells #[iV x, iV y] 127)) x y 127
    rwa [World.size_alloc] at h
  have hc := HC.out _ (gb_alloc (gb_alloc (gb_refl _ _) _) _) _ _ 1 hD
  clear hD HC
  have HC := Lib.hid hc
  clear hc
  go_enter Tryz.func187, Tryz.ntmps187
  go_wp2_with fail
  refine HC.out.mono ?_
  rintro e w3 ⟨rfl, hg⟩
  have HG3 := Lib.hid hg; clear hg
  go_wp2
  go_ret
  exact ⟨rfl, gb_trans (gb_alloc (gb_alloc (gb_refl _ _) _) _) HG3.out⟩
end Ve
end Go.Proofs.YtlkiancedgaicaaGreat

/- make of bytes: a new block of zeros. -/
namespace Go.Proofs.YtlkiancedgaicaaGreat
open Go.RowKit Ow

theorem info_u8z : ∃ i, Tryz.prog.info? 5 = some i ∧ i.zero = some (.int .u8 0) ∧ i.size = 1 ∧ i.bytes = 1 := by
  have h : (Tryz.prog.info? 5).map (fun i => (i.zero, i.size, i.bytes)) = some (some (.int .u8 0), 1, 1) := by kernel_rfl
  cases hi : Tryz.prog.info? 5 with
  | none => rw [hi] at h; cases h
  | some i =>
    rw [hi] at h
    simp only [Option.map_some, Option.some.injEq, Prod.mk.injEq] at h
    exact ⟨i, rfl, h.1, h.2.1, h.2.2⟩
theorem made_bytes (n : Nat) : madeCells (Value.int .u8 0).cells n = (List.replicate n (u8N 0)).toArray := by
  unfold madeCells u8N
  apply Array.ext
  · simp
  · intro i h1 h2
    simp [Value.cells, Nat.mod_one]
theorem make_bytes (n c : Nat) (w : World) (h : n ≤ c) (hc : c ≤ 140737488355328) : ∃ w', (Instr.makeSlice 23 (.int .i64 n) (.int .i64 c)).run Tryz.prog w = .ok (.slice (some ⟨w.heap.size, 0, none⟩) n c) w' ∧
    w.grownBy w' none ∧ w'.heap.size = w.heap.size + 1 ∧ Blk w' w.heap.size 5 (List.replicate c (u8N 0)) := by
  obtain ⟨i, hi, hz, hs, hb⟩ := info_u8z
  have h2 := run_make (P := Tryz.prog) w 23 5 i (.int .u8 0) Tryz.underlying23 hi hz .i64 .i64 n c (by omega) (by omega) (by rw [hb]; omega) (by omega)
  rw [hs, Nat.mul_one, Int.toNat_natCast, Int.toNat_natCast, made_bytes] at h2
  exact ⟨_, h2, gb_alloc (gb_refl _ _) _, by simp, Blk.new w _ _⟩
end Go.Proofs.YtlkiancedgaicaaGreat

/- append of a make, to bytes that are one's own: zeros behind them. -/
namespace Go.Proofs.YtlkiancedgaicaaGreat
open Go.RowKit Ow

theorem zeros_u8 (n : Nat) : Builtin.zeroCells (Value.int .u8 0).cells n = (List.replicate n (u8N 0)).toArray := by
  unfold Builtin.zeroCells u8N
  apply Array.ext
  · simp [Value.cells]
  · intro i h1 h2
    simp [Value.cells, Nat.mod_one]
theorem append_zeros_fits (w : World) (g n cap k : Nat) (cur : Array Value) (hk : 0 < k) (hs : n + k ≤ 1000000) (hg : w.heap[g]? = some (.cells cur 5 (0, 0))) (hroom : n + k ≤ cap) (hfit : n + k ≤ cur.size) :
    (Builtin.append_ #[23, 3] 23 #[.slice (some ⟨g, 0, none⟩) n cap, .int .i64 k]).run Tryz.prog w =
      .ok (.slice (some ⟨g, 0, none⟩) (n + k) cap) (w.setRow g (cur.toList.take n ++ List.replicate k (u8N 0) ++ cur.toList.drop (n + k)).toArray) := by
  obtain ⟨i, hi, hz, hsz, hb⟩ := info_u8z
  have hst := run_storeCells_at Tryz.prog g n 5 (List.replicate k (u8N 0)) 0 cur w hg (by simpa using hfit) (fun u hu => by rw [(List.mem_replicate.1 hu).2]; rfl)
  simp only [Nat.add_zero, List.length_replicate] at hst
  have hw : IntKind.i64.wrap (k : Int) = k := by rw [IntKind.wrap_i64]; omega
  have hneg : ¬ ((k : Int) < 0) := by omega
  have hbig : ¬ (281474976710656 < (k : Int) * (1 : Int)) := by omega
  have hk0 : k ≠ 0 := by omega
  have hzz := zeros_u8 k
  simp [Builtin.append_, run_underlying (Tryz.underlying23), run_underlying (Tryz.underlying3), sizeOf, typeInfo, zeroValue, hi, hz, hsz, hb, asInt, asIntOf, hw, hneg, hk0, hroom, Addr.add_lit, hzz, hst]
  omega
theorem append_zeros (w : World) (base n k : Nat) (v : Value) (xs : List Value) (hown : w.ownsRow base 5 1 v n xs) (hk : 0 < k) (hs : n + k ≤ 1000000) (hbase : base ≤ w.heap.size) :
    ∃ v' w', (Builtin.append_ #[23, 3] 23 #[v, .int .i64 k]).run Tryz.prog w = .ok v' w' ∧ w'.ownsRow base 5 1 v' (n + k) (xs ++ List.replicate k (u8N 0)) ∧ w.grownBy w' v.ownBlock := by
  obtain ⟨i, hi, hz, hsz, hb⟩ := info_u8z
  have hx := hown.1
  have hlen : (xs ++ List.replicate k (u8N 0)).length = (n + k) * 1 := by rw [List.length_append, hx, List.length_replicate]; omega
  have h63 : n + k ≤ maxLen := by unfold maxLen; omega
  have grown : ∀ (old : Nat) (row : Option Nat),
      (w.drew.alloc (.cells (xs.toArray ++ (List.replicate k (u8N 0)).toArray ++ Builtin.zeroCells (Value.int .u8 0).cells (grownCap w (n + k) old 5 - (n + k))) 5)).ownsRow base 5 1
        (.slice (some ⟨w.heap.size, 0, none⟩) (n + k) (grownCap w (n + k) old 5)) (n + k) (xs ++ List.replicate k (u8N 0)) ∧
      w.grownBy (w.drew.alloc (.cells (xs.toArray ++ (List.replicate k (u8N 0)).toArray ++ Builtin.zeroCells (Value.int .u8 0).cells (grownCap w (n + k) old 5 - (n + k))) 5)) row := by
    intro old row
    have hge := grownCap_ge w (n + k) old 5
    have hcm : grownCap w (n + k) old 5 ≤ maxLen := grownCap_le_maxLen w (n + k) old 5 h63
    refine ⟨⟨hlen, .inr ⟨w.heap.size, _, _, rfl, hbase, heap_alloc_new w.drew _, hge, hcm, ?_, ?_⟩⟩, ⟨rfl, rfl, rfl, by simp, fun j hj _ => heap_alloc_old w.drew _ hj⟩⟩
    · rw [zeros_u8]
      simp only [Array.size_append, List.size_toArray, List.length_replicate, hx]
      omega
    · simp only [Array.toList_append, List.append_assoc]
      rw [← List.append_assoc, ← hlen]
      exact List.take_left
  rcases hown.2 with ⟨rfl, rfl⟩ | ⟨g, cap, cur, rfl, hbg, hg, hnc, hcm, hcs, htake⟩
  · have hx0 : xs = [] := List.eq_nil_of_length_eq_zero (by simpa using hx)
    subst hx0
    have hr := Lib.run_append_nil_zeros (P := Tryz.prog) w 23 3 23 5 i (.int .u8 0) .i64 .i64 Tryz.underlying23 Tryz.underlying3 hi hz k hk (by omega) (by omega) (by rw [hb]; omega)
    have hgr := grown 0 (Value.ownBlock (.slice none 0 0))
    rw [zeros_u8 k] at hr
    simp only [Nat.zero_add, List.nil_append, Array.empty_append] at hgr ⊢
    exact ⟨_, _, hr, hgr.1, hgr.2⟩
  · by_cases hroom : n + k ≤ cap
    · have hr := append_zeros_fits w g n cap k cur hk hs hg hroom (by omega)
      refine ⟨_, _, hr, ⟨hlen, .inr ⟨g, cap, _, rfl, hbg, setRow_heap w g cur _ _ _ hg, hroom, hcm, ?_, ?_⟩⟩, ⟨rfl, rfl, rfl, by simp, fun j _ hj => setRow_other w g j _ (fun e => hj (by simp [Value.ownBlock, e]))⟩⟩
      · simp only [List.size_toArray, List.length_append, List.length_take, List.length_drop, Array.length_toList, List.length_replicate]
        omega
      · rw [← hlen]
        have ht2 : cur.toList.take n = xs := by simpa using htake
        show List.take _ (cur.toList.take n ++ List.replicate k (u8N 0) ++ cur.toList.drop (n + k)) = _
        rw [ht2]
        exact List.take_left
    · have holds : ∀ j u, xs[j]? = some u → w.cell? ((⟨g, 0, none⟩ : Addr).add j) = some u := hown.cells (g := g) rfl
      have hf := run_firstCells_some (P := Tryz.prog) w.drew i.size n ⟨g, 0, none⟩ n cap xs (by rw [hsz]; exact hx) holds
      have hr := Lib.run_append_grow_zeros (P := Tryz.prog) w 23 3 23 5 i (.int .u8 0) .i64 .i64 Tryz.underlying23 Tryz.underlying3 hi hz (some ⟨g, 0, none⟩) n cap xs hf k hk (by omega) (by omega) (by omega) (by rw [hb]; omega) (by have := nextslicecap_le (need := n + k) (old := cap) (by omega); rw [hb]; omega)
      rw [zeros_u8 k] at hr
      have hgr := grown cap (Value.ownBlock (.slice (some ⟨g, 0, none⟩) n cap))
      exact ⟨_, _, hr, hgr.1, hgr.2⟩
end Go.Proofs.YtlkiancedgaicaaGreat

/- A law's arguments: slices of bytes, numbers. -/
namespace Go.Proofs.YtlkiancedgaicaaGreat
open Go.ChangeShapes Go.WideShapes Go.ChangeAt Go.RowKit Ow

theorem laidMet_tail {P : Program} {x : String × DataW Unit} {rest : List (String × DataW Unit)} {W : World} (h : laidMet P (x :: rest) W) : laidMet P rest W := by
  obtain ⟨ps, ⟨g, t, cs, fuel, p, q, _, _, _, _, hq, rfl⟩, hn, hc⟩ := h
  exact ⟨q, hq, (List.nodup_append.1 hn).2.1, fun b off hm => hc b off (List.mem_append_right _ hm)⟩
theorem own : ownKnob Tryz.prog.godebug = none := by kernel_rfl
theorem laidOut : laidOutB Tryz.prog = true := by kernel_rfl
/-- a list of integers as natural numbers -/
def nats (l : List Int) : List Nat := l.map Int.toNat
theorem bytes_arg {W : World} {x : Addr} {len cap : Nat} {zs : List Int} (ht : cap < 9223372036854775808) (hl : len ≤ cap) (hz : zs.length = cap) (hcell : ∀ i, i < zs.length → W.cell? (x.add i) = some (.int .u8 (zs.getD i 0))) (hw : ∀ n ∈ zs, (Lit.int .u8 n).wf = true) :
    BytesAt W W.heap.size (some x) cap (nats (zs.take len)) ∧ (nats (zs.take len)).length = len := by
  have hlen : (nats (zs.take len)).length = len := by simp [nats, hz]; omega
  have hbd : ∀ n ∈ zs, 0 ≤ n ∧ n < 256 := fun n hn => by
    have := hw n hn
    simp [Lit.wf, IntKind.min, IntKind.max, IntKind.signed, IntKind.bits] at this
    omega
  have hget : ∀ i, i < len → (((nats (zs.take len)).getD i 0 : Nat) : Int) = zs.getD i 0 := fun i hi => by
    have h1 : i < zs.length := by omega
    have := hbd zs[i] (List.getElem_mem h1)
    rw [List.getD_eq_getElem?_getD, List.getD_eq_getElem?_getD]
    unfold nats
    rw [List.getElem?_map, List.getElem?_take, if_pos hi, List.getElem?_eq_getElem h1]
    simp; omega
  refine ⟨⟨Nat.le_refl _, by omega, ht, fun i => ?_, ?_⟩, hlen⟩
  · by_cases hi : i < len
    · have h1 : i < zs.length := by omega
      have := hbd zs[i] (List.getElem_mem h1)
      have h2 := hget i hi
      rw [List.getD_eq_getElem?_getD (l := zs), List.getElem?_eq_getElem h1] at h2
      simp only [Option.getD_some] at h2
      omega
    · rw [List.getD_eq_getElem?_getD, List.getElem?_eq_none (by omega)]; decide
  · by_cases h0 : len = 0
    · exact Or.inl (by omega)
    · obtain ⟨b, off, spot⟩ := x
      have hc := hcell 0 (by omega)
      have hspot : spot = none := by simpa [Addr.add] using World.cell?_spot hc
      subst hspot
      have hadd : ∀ j, (⟨b, off, none⟩ : Addr).add j = ⟨b, off + j, none⟩ := fun j => by unfold Addr.add; split <;> simp_all
      have hlt : b < W.heap.size := block_lt_of_cell hc
      refine Or.inr ⟨b, off, rfl, hlt, fun i hi => ?_⟩
      rw [hlen] at hi
      have h3 := hcell i (by omega)
      rw [hadd, ← hget i hi] at h3
      exact h3

/-- an argument that is a slice of bytes -/
theorem bytes_open {H : Type} {enc : TypeId × Value → H} {W : World} {a : Option Addr} {len cap : Nat} {d : DataW H} {ps : List MemPlace} (h : DataW.Trod enc Tryz.prog W 0 (fun _ => true) true 23 (.slice a len cap) d ps) :
    ∃ p, p.length = len ∧ BytesAt W W.heap.size a cap p := by
  obtain ⟨fuel, hf⟩ := h
  rcases open_ints Tryz.underlying23 Tryz.underlying5 (by kernel_rfl) hf with ⟨hcs, _⟩ | ⟨x, l, c, zs, hcs, _, hl, hm, hz, _, hcell, hwz⟩
  · simp [Value.cells] at hcs
    obtain ⟨rfl, rfl, rfl⟩ := hcs
    exact ⟨[], rfl, ⟨Nat.le_refl _, Nat.le_refl _, by decide, by simp, Or.inl rfl⟩⟩
  · simp [Value.cells] at hcs
    obtain ⟨rfl, rfl, rfl⟩ := hcs
    unfold maxLen at hm
    have hb := bytes_arg (by omega) hl (by simpa using hz) hcell hwz
    exact ⟨_, hb.2, hb.1⟩
/-- how great it may be -/
theorem bytes_reach {H : Type} {enc : TypeId × Value → H} {W : World} {a : Option Addr} {len cap : Nat} {d : DataW H} {ps : List MemPlace} {ts : List TypeId} {ds : List (DataW H)} (h : DataW.Trod enc Tryz.prog W 0 (fun _ => true) true 23 (.slice a len cap) d ps)
    (hsz : (DataW.weightsEach Tryz.prog ts ds).all (· ≤ reachBytes) = true) {j : Nat} (ht : ts[j]? = some 23) (hd : ds[j]? = some d) : len ≤ cap ∧ cap ≤ 140737488351232 := by
  obtain ⟨fuel, hf⟩ := h
  rcases open_ints Tryz.underlying23 Tryz.underlying5 (by kernel_rfl) hf with ⟨hcs, _⟩ | ⟨x, l, c, zs, hcs, _, hl, _, hz, hx, _, _⟩
  · simp [Value.cells] at hcs
    obtain ⟨rfl, rfl, rfl⟩ := hcs
    exact ⟨Nat.le_refl _, by decide⟩
  · simp [Value.cells] at hcs
    obtain ⟨rfl, rfl, rfl⟩ := hcs
    have hz2 : zs.length = cap := by simpa using hz
    simp only [Prod.mk.injEq] at hx
    rw [hx.1] at hd
    have := sized_slice hsz ht hd Tryz.underlying23
    rw [show Tryz.prog.bytesOf 5 = 1 by kernel_rfl] at this
    simp only [lits, List.length_map, List.length_take, List.length_drop, reachBytes] at this
    omega
theorem int_wf {n : Int} (h : (Lit.int .i64 n).wf = true) : -9223372036854775808 ≤ n ∧ n ≤ 9223372036854775807 := by
  simp [Lit.wf, IntKind.min, IntKind.max, IntKind.signed, IntKind.bits] at h
  omega
end Go.Proofs.YtlkiancedgaicaaGreat

/- A law's arguments: rows of rows of bytes, rows of numbers. -/
namespace Go.Proofs.YtlkiancedgaicaaGreat
open Go.ChangeShapes Go.WideShapes Go.ChangeAt Go.RowKit Ow Go.Deep

/-- rows of bytes, in a row, all below block B -/
structure RowsAt (w : World) (B : Nat) (a : Option Addr) (L : List (List Nat)) : Prop where
  lim : B ≤ w.heap.size
  cells : L.length = 0 ∨ ∃ pb po, a = some ⟨pb, po, none⟩ ∧ pb < B ∧ ∀ i, i < L.length → ∃ ai ci, w.cell? ⟨pb, po + i, none⟩ = some (.slice ai (L.getD i []).length ci) ∧ BytesAt w B ai ci (L.getD i [])
theorem RowsAt.kept {w w' : World} {B : Nat} {a : Option Addr} {L : List (List Nat)} (h : RowsAt w B a L) {row : Option Nat} (hg : w.grownBy w' row) (hr : ∀ r, row = some r → B ≤ r) : RowsAt w' B a L := by
  refine ⟨Nat.le_trans h.lim hg.size, ?_⟩
  rcases h.cells with h0 | ⟨pb, po, ha, hlt, hc⟩
  · exact Or.inl h0
  · refine Or.inr ⟨pb, po, ha, hlt, fun i hi => ?_⟩
    obtain ⟨ai, ci, h1, h2⟩ := hc i hi
    exact ⟨ai, ci, by rw [gb_cell hg (p := ⟨pb, po + i, none⟩) (Nat.lt_of_lt_of_le hlt h.lim) (fun e => by have := hr _ e.symm; simp at this; omega)]; exact h1, h2.kept hg hr⟩
theorem RowsAt.stay {w w' : World} {B : Nat} {a : Option Addr} {L : List (List Nat)} (h : RowsAt w B a L) (hg : w.grownBy w' none) : RowsAt w' B a L := h.kept hg (fun r e => by cases e)
theorem RowsAt.at {w : World} {B : Nat} {a : Option Addr} {L : List (List Nat)} (h : RowsAt w B a L) {i : Nat} (hi : i < L.length) : ∃ pb po ai ci, a = some ⟨pb, po, none⟩ ∧ pb < B ∧ w.cell? ⟨pb, po + i, none⟩ = some (.slice ai (L.getD i []).length ci) ∧ BytesAt w B ai ci (L.getD i []) := by
  obtain ⟨pb, po, h1, h2, h3⟩ := h.cells.resolve_left (by omega)
  obtain ⟨ai, ci, h4, h5⟩ := h3 i hi
  exact ⟨pb, po, ai, ci, h1, h2, h4, h5⟩
/-- numbers in a row, below block B -/
structure IntsAt (w : World) (B : Nat) (a : Option Addr) (L : List Int) : Prop where
  lim : B ≤ w.heap.size
  wf : ∀ n ∈ L, -9223372036854775808 ≤ n ∧ n ≤ 9223372036854775807
  cells : L.length = 0 ∨ ∃ pb po, a = some ⟨pb, po, none⟩ ∧ pb < B ∧ ∀ i, i < L.length → w.cell? ⟨pb, po + i, none⟩ = some (.int .i64 (L.getD i 0))
theorem IntsAt.kept {w w' : World} {B : Nat} {a : Option Addr} {L : List Int} (h : IntsAt w B a L) {row : Option Nat} (hg : w.grownBy w' row) (hr : ∀ r, row = some r → B ≤ r) : IntsAt w' B a L := by
  refine ⟨Nat.le_trans h.lim hg.size, h.wf, ?_⟩
  rcases h.cells with h0 | ⟨pb, po, ha, hlt, hc⟩
  · exact Or.inl h0
  · exact Or.inr ⟨pb, po, ha, hlt, fun i hi => by rw [gb_cell hg (p := ⟨pb, po + i, none⟩) (Nat.lt_of_lt_of_le hlt h.lim) (fun e => by have := hr _ e.symm; simp at this; omega)]; exact hc i hi⟩
theorem IntsAt.stay {w w' : World} {B : Nat} {a : Option Addr} {L : List Int} (h : IntsAt w B a L) (hg : w.grownBy w' none) : IntsAt w' B a L := h.kept hg (fun r e => by cases e)
theorem IntsAt.at {w : World} {B : Nat} {a : Option Addr} {L : List Int} (h : IntsAt w B a L) {i : Nat} (hi : i < L.length) : ∃ pb po, a = some ⟨pb, po, none⟩ ∧ pb < B ∧ w.cell? ⟨pb, po + i, none⟩ = some (.int .i64 (L.getD i 0)) := by
  obtain ⟨pb, po, h1, h2, h3⟩ := h.cells.resolve_left (by omega)
  exact ⟨pb, po, h1, h2, h3 i hi⟩

theorem weightsAll_mem {H : Type} {P : Program} {e : TypeId} {d : DataW H} {n : Nat} (hn : n ∈ d.weights P e) : ∀ {l : List (DataW H)}, d ∈ l → n ∈ DataW.weightsAll P e l
  | x :: r, hd => by
    simp only [DataW.weightsAll, List.mem_append]
    rcases List.mem_cons.1 hd with rfl | h
    · exact Or.inl hn
    · exact Or.inr (weightsAll_mem hn h)
theorem spot_none {W : World} {x : Addr} {v : Value} (h : W.cell? (x.add 0) = some v) : ∃ b off, x = ⟨b, off, none⟩ ∧ b < W.heap.size ∧ ∀ j, (⟨b, off, none⟩ : Addr).add j = ⟨b, off + j, none⟩ := by
  obtain ⟨b, off, spot⟩ := x
  have hspot : spot = none := by simpa [Addr.add] using World.cell?_spot h
  subst hspot
  exact ⟨b, off, rfl, by simpa [Addr.add] using block_lt_of_cell h, fun j => by unfold Addr.add; split <;> simp_all⟩
theorem range_getD {α : Type} (f : Nat → α) (n i : Nat) (z : α) (h : i < n) : ((List.range n).map f).getD i z = f i := by
  rw [List.getD_eq_getElem?_getD, List.getElem?_map, List.getElem?_range h]; rfl

/-- an argument that is a row of rows of bytes -/
theorem rows_open {H : Type} {enc : TypeId × Value → H} {W : World} {a : Option Addr} {len cap : Nat} {d : DataW H} {ps : List MemPlace} {ts : List TypeId} {ds : List (DataW H)} (h : DataW.Trod enc Tryz.prog W 0 (fun _ => true) true 22 (.slice a len cap) d ps)
    (hsz : (DataW.weightsEach Tryz.prog ts ds).all (· ≤ reachBytes) = true) {j : Nat} (ht : ts[j]? = some 22) (hd : ds[j]? = some d) :
    ∃ L : List (List Nat), L.length = len ∧ len ≤ 140737488351232 ∧ RowsAt W W.heap.size a L ∧ ∀ r ∈ L, r.length ≤ 140737488351232 := by
  obtain ⟨fuel, hf⟩ := h
  rcases open_int_rows Tryz.underlying22 Tryz.underlying23 Tryz.underlying5 (by kernel_rfl) (by kernel_rfl) hf with ⟨hcs, _⟩ | ⟨x, l, c, A, Ln, C, Z, hcs, _, hl, hm, hx, hrow⟩
  · simp [Value.cells] at hcs
    obtain ⟨rfl, rfl, rfl⟩ := hcs
    exact ⟨[], rfl, by decide, ⟨Nat.le_refl _, Or.inl rfl⟩, fun r hr => by simp at hr⟩
  · simp [Value.cells] at hcs
    obtain ⟨rfl, rfl, rfl⟩ := hcs
    simp only [Prod.mk.injEq] at hx
    rw [hx.1] at hd
    have hrl : ∀ r, r < len → C r ≤ 140737488351232 := by
      intro r hr
      obtain ⟨_, hlc, _, hzl, _, hnil, _⟩ := hrow r (by omega)
      rcases hA : A r with _ | ad
      · rw [hnil hA]; decide
      · have hmem : (C r) * 1 ∈ (intRow (H := H) .u8 (A r) (Ln r) (Z r)).weights Tryz.prog 23 := by
          rw [hA]
          simp only [intRow, DataW.weights, Tryz.underlying23]
          rw [show Tryz.prog.bytesOf 5 = 1 by kernel_rfl]
          simp only [lits, List.length_map, List.length_take, List.length_drop, Nat.mul_one, List.mem_cons]
          left; omega
        have h1 : (C r) * 1 ∈ DataW.weightsAll Tryz.prog 23 ((List.range len).map fun r => intRow (H := H) .u8 (A r) (Ln r) (Z r)) :=
          weightsAll_mem hmem (List.mem_map.2 ⟨r, List.mem_range.2 hr, rfl⟩)
        have h2 := List.all_eq_true.1 hsz _ (DataW.weights_mem_each ht hd ((C r) * 1) (by
          simp only [DataW.weights, Tryz.underlying22]
          exact List.mem_cons_of_mem _ (List.mem_append_left _ h1)))
        simp [reachBytes] at h2
        omega
    have hlen : len ≤ 140737488351232 := by
      have := sized_slice hsz ht hd Tryz.underlying22
      rw [show Tryz.prog.bytesOf 23 = 24 by kernel_rfl] at this
      simp only [List.length_map, List.length_range, reachBytes] at this
      omega
    refine ⟨(List.range len).map fun r => nats ((Z r).take (Ln r)), by simp, hlen, ⟨Nat.le_refl _, ?_⟩, ?_⟩
    · by_cases h0 : len = 0
      · left; simp [h0]
      · have hc0 := (hrow 0 (by omega)).1
        obtain ⟨b, off, rfl, hlt, hadd⟩ := spot_none hc0
        refine Or.inr ⟨b, off, rfl, hlt, fun i hi => ?_⟩
        rw [List.length_map, List.length_range] at hi
        rw [range_getD _ _ _ _ hi]
        obtain ⟨hcell, hlc, hcm, hzl, hwf, hnil, hin⟩ := hrow i (by omega)
        rw [hadd] at hcell
        have hb1 := hrl i hi
        rcases hA : A i with _ | ad
        · have hC := hnil hA
          have hL : Ln i = 0 := by omega
          refine ⟨none, C i, ?_, ?_⟩
          · rw [hcell, hA, hL]; simp [nats]
          · rw [hL, hC]
            exact ⟨Nat.le_refl _, by simp [nats], by decide, by simp [nats], Or.inl (by simp [nats])⟩
        · obtain ⟨_, hcc⟩ := hin ad hA
          have hba := bytes_arg (x := ad) (len := Ln i) (cap := C i) (zs := Z i) (W := W) (by omega) hlc hzl (fun c hc => hcc c (by omega)) hwf
          exact ⟨some ad, C i, by rw [hcell, hA, hba.2], hba.1⟩
    · intro r hr
      obtain ⟨k, hk, rfl⟩ := List.mem_map.1 hr
      have hk' := List.mem_range.1 hk
      have := hrl k hk'
      have hzl := (hrow k (by omega)).2.2.2.1
      simp only [nats, List.length_map, List.length_take]
      omega
end Go.Proofs.YtlkiancedgaicaaGreat

/- Rows of one's own, several beside each other: what a call may change (Kb S), appends by cases, cells set. -/
namespace Go.Proofs.YtlkiancedgaicaaGreat
open Go.RowKit Ow

/-- all but the blocks of S is as it was -/
structure Kb (S : Nat → Prop) (w w' : World) : Prop where
  os : w'.os = w.os
  tape : w'.tape = w.tape
  output : w'.output = w.output
  size : w.heap.size ≤ w'.heap.size
  block : ∀ i, i < w.heap.size → ¬ S i → w'.heap[i]? = w.heap[i]?
theorem kb_refl (S : Nat → Prop) (w : World) : Kb S w w := ⟨rfl, rfl, rfl, Nat.le_refl _, fun _ _ _ => rfl⟩
theorem kb_trans {S : Nat → Prop} {a b c : World} (h : Kb S a b) (k : Kb S b c) : Kb S a c :=
  ⟨k.os.trans h.os, k.tape.trans h.tape, k.output.trans h.output, Nat.le_trans h.size k.size, fun i hi hs => (k.block i (Nat.lt_of_lt_of_le hi h.size) hs).trans (h.block i hi hs)⟩
/-- .. and something that grows, or writes a row of S, or a new one -/
theorem kb_then {S : Nat → Prop} {a b c : World} {row : Option Nat} (h : Kb S a b) (k : b.grownBy c row) (hr : ∀ r, row = some r → S r ∨ a.heap.size ≤ r) : Kb S a c :=
  ⟨k.os.trans h.os, k.tape.trans h.tape, k.output.trans h.output, Nat.le_trans h.size k.size, fun i hi hs => (k.block i (Nat.lt_of_lt_of_le hi h.size) (fun e => by
    rcases hr i e.symm with h1 | h1
    · exact hs h1
    · omega)).trans (h.block i hi hs)⟩
theorem kb_stay {S : Nat → Prop} {a b c : World} (h : Kb S a b) (k : b.grownBy c none) : Kb S a c := kb_then h k (fun r e => by cases e)
theorem kb_drewN {S : Nat → Prop} {a b : World} (h : Kb S a b) (n : Nat) : Kb S a (b.drewN n) := ⟨h.os, h.tape, h.output, h.size, h.block⟩
/-- new blocks alone are turned, seen from an elder world -/
theorem gb_kb {S : Nat → Prop} {w0 a b : World} (h : w0.grownBy a none) (k : Kb S a b) (hS : ∀ i, S i → w0.heap.size ≤ i) : w0.grownBy b none :=
  ⟨k.os.trans h.os, k.tape.trans h.tape, k.output.trans h.output, Nat.le_trans h.size k.size, fun i hi _ => (k.block i (Nat.lt_of_lt_of_le hi h.size) (fun hs => by have := hS i hs; omega)).trans (h.block i hi (by simp))⟩
theorem Kb.blk {S : Nat → Prop} {w w' : World} (k : Kb S w w') {B : Nat} {T : TypeId} {L : List Value} (h : Blk w B T L) (hs : ¬ S B) : Blk w' B T L := by
  have hlt := h.lt
  unfold Blk at h ⊢; rw [k.block B hlt hs]; exact h
theorem Kb.cell {S : Nat → Prop} {w w' : World} (k : Kb S w w') {p : Addr} (hp : p.block < w.heap.size) (hs : ¬ S p.block) : w'.cell? p = w.cell? p := World.cell?_of_block (w := w) (k.block p.block hp hs)
theorem own_lt {w : World} {base e n g c : Nat} {xs : List Value} (h : w.ownsRow base e 1 (.slice (some ⟨g, 0, none⟩) n c) n xs) : g < w.heap.size ∧ base ≤ g ∧ n ≤ c := by
  rcases h.2 with ⟨h0, _⟩ | ⟨g', c', cur, e1, hb, hg, hnc, _⟩
  · cases h0
  · cases e1
    exact ⟨(Array.getElem?_eq_some_iff.1 hg).1, hb, hnc⟩
/-- what is a row of one's own -/
theorem own_shape {w : World} {base e n : Nat} {v : Value} {xs : List Value} (h : w.ownsRow base e 1 v n xs) : (v = .slice none 0 0 ∧ n = 0) ∨ ∃ g c, v = .slice (some ⟨g, 0, none⟩) n c := by
  rcases h.2 with h0 | ⟨g', c', cur, e1, _⟩
  · exact Or.inl h0
  · exact Or.inr ⟨g', c', e1⟩
/-- a cell set -/
theorem own_set {w : World} {base e n g c i : Nat} {xs : List Value} (h : w.ownsRow base e 1 (.slice (some ⟨g, 0, none⟩) n c) n xs) (v : Value) : (w.setCell ⟨g, i, none⟩ v).ownsRow base e 1 (.slice (some ⟨g, 0, none⟩) n c) n (xs.set i v) := by
  refine ⟨by rw [List.length_set]; exact h.1, ?_⟩
  rcases h.2 with ⟨h0, _⟩ | ⟨g', c', cur, e1, hb, hg, hnc, hcm, hs, ht⟩
  · cases h0
  · cases e1
    have hblk : Blk w g e cur.toList := by unfold Blk; rw [hg]
    have h2 := hblk.set i v
    refine Or.inr ⟨g, c, (cur.toList.set i v).toArray, rfl, hb, h2, hnc, hcm, by simpa using hs, ?_⟩
    rw [← ht, List.take_set]
theorem own_free {w : World} {base e n g c : Nat} {xs : List Value} (h : w.ownsRow base e 1 (.slice (some ⟨g, 0, none⟩) n c) n xs) (i : Nat) : w.frozen? ⟨g, i, none⟩ = false := by
  rcases h.2 with ⟨h0, _⟩ | ⟨g', c', cur, e1, hb, hg, hnc, hcm, hs, ht⟩
  · cases h0
  · cases e1
    have hblk : Blk w g e cur.toList := by unfold Blk; rw [hg]
    exact hblk.free i
/-- its beginning -/
theorem own_take {w : World} {base e n n' g c : Nat} {xs : List Value} (h : w.ownsRow base e 1 (.slice (some ⟨g, 0, none⟩) n' c) n' xs) (hn : n ≤ n') : w.ownsRow base e 1 (.slice (some ⟨g, 0, none⟩) n c) n (xs.take n) := by
  have hl : xs.length = n' := by have := h.1; omega
  refine ⟨by rw [List.length_take]; omega, ?_⟩
  rcases h.2 with ⟨h0, _⟩ | ⟨g', c', cur, e1, hb, hg, hnc, hcm, hs, ht⟩
  · cases h0
  · cases e1
    refine Or.inr ⟨g, c, cur, rfl, hb, hg, by omega, hcm, hs, ?_⟩
    rw [← ht, List.take_take]; congr 1; omega
theorem own_rebase {w : World} {base b' e n g c : Nat} {xs : List Value} (h : w.ownsRow base e 1 (.slice (some ⟨g, 0, none⟩) n c) n xs) (hb : b' ≤ g) : w.ownsRow b' e 1 (.slice (some ⟨g, 0, none⟩) n c) n xs := by
  refine ⟨h.1, ?_⟩
  rcases h.2 with ⟨h0, _⟩ | ⟨g', c', cur, e1, _, hg, hnc, hcm, hs, ht⟩
  · cases h0
  · cases e1; exact Or.inr ⟨g, c, cur, rfl, hb, hg, hnc, hcm, hs, ht⟩
/-- elements of one cell -/
structure Elt (e st : TypeId) (bt : Nat) (z : Value) : Prop where
  sl : Tryz.prog.underlying st = some (.slice e)
  info : ∃ i, Tryz.prog.info? e = some i ∧ i.zero = some z ∧ i.size = 1 ∧ i.bytes = bt ∧ z.cells.size = 1
/-- an append by cases: there is room, or a new block -/
theorem append_cases {e st : TypeId} {bt : Nat} {z : Value} (hE : Elt e st bt z) (w : World) (base g n c : Nat) (xs : List Value) (hown : w.ownsRow base e 1 (.slice (some ⟨g, 0, none⟩) n c) n xs)
    (ad : Addr) (m cc : Nat) (news : List Value) (hl : news.length = m) (hnews : ∀ j u, news[j]? = some u → w.cell? (ad.add j) = some u) (h1 : ∀ u ∈ news, u.oneCell' = true) (hb : (n + m) * bt ≤ 140737488355328) (hb2 : n + m ≤ 140737488355328) :
    (n + m ≤ c ∧ ∃ w', (Builtin.append_ #[st, st] st #[.slice (some ⟨g, 0, none⟩) n c, .slice (some ad) m cc]).run Tryz.prog w = .ok (.slice (some ⟨g, 0, none⟩) (n + m) c) w' ∧ w'.ownsRow base e 1 (.slice (some ⟨g, 0, none⟩) (n + m) c) (n + m) (xs ++ news) ∧ w.grownBy w' (some g)) ∨
    (c < n + m ∧ ∃ c' w', (Builtin.append_ #[st, st] st #[.slice (some ⟨g, 0, none⟩) n c, .slice (some ad) m cc]).run Tryz.prog w = .ok (.slice (some ⟨w.heap.size, 0, none⟩) (n + m) c') w' ∧ w'.ownsRow w.heap.size e 1 (.slice (some ⟨w.heap.size, 0, none⟩) (n + m) c') (n + m) (xs ++ news) ∧ w.grownBy w' none) := by
  obtain ⟨i, hi, hz, hs, hby, hzc⟩ := hE.info
  by_cases h : n + m ≤ c
  · obtain ⟨w', hr, ho, hg⟩ := run_append_fits w base st st e i 1 (P := Tryz.prog) hE.sl hi hs g n c xs hown ad m cc news (by omega) hnews h1 h
    exact Or.inl ⟨h, w', hr, ho, hg⟩
  · refine Or.inr ⟨by omega, ?_⟩
    have hxl : xs.length = n := by have := hown.1; omega
    have hold : ∀ j v, xs[j]? = some v → w.cell? ((⟨g, 0, none⟩ : Addr).add j) = some v := fun j v hv => by
      have hadd : (⟨g, 0, none⟩ : Addr).add j = ⟨g, j, none⟩ := by unfold Addr.add; split <;> simp_all
      rw [hadd]; exact own_cell hown hv
    have hnc : Builtin.nextslicecap (n + m) c * i.bytes ≤ 281474976710656 := growslice_fits (by omega) (by rw [hby]; exact hb)
    have hr := run_append_grow (P := Tryz.prog) w st st e i z hE.sl hi hz ⟨g, 0, none⟩ n c xs (by rw [hs]; omega) hold ad m cc news (by rw [hs]; omega) hnews (by omega) (by omega) hnc
    have hge := grownCap_ge w (n + m) c e
    have hcm : grownCap w (n + m) c e ≤ maxLen := grownCap_le_maxLen w (n + m) c e (by unfold maxLen; omega)
    refine ⟨_, _, hr, ⟨by rw [List.length_append]; omega, Or.inr ⟨w.heap.size, _, _, rfl, Nat.le_refl _, heap_alloc_new w.drew _, hge, hcm, ?_, ?_⟩⟩, ⟨rfl, rfl, rfl, by simp, fun k hk _ => heap_alloc_old w.drew _ hk⟩⟩
    · simp only [Array.size_append, List.size_toArray, size_zeroCells, hzc]
      omega
    · simp only [Array.toList_append, List.append_assoc]
      rw [← List.append_assoc, List.take_left' (by rw [List.length_append]; omega)]
/-- an append to nothing -/
theorem append_to_none {e st : TypeId} {bt : Nat} {z : Value} (hE : Elt e st bt z) (w : World) (ad : Addr) (m cc : Nat) (news : List Value) (hm : 0 < m) (hl : news.length = m) (hnews : ∀ j u, news[j]? = some u → w.cell? (ad.add j) = some u) (h1 : ∀ u ∈ news, u.oneCell' = true) (hb : m * bt ≤ 140737488355328) (hb2 : m ≤ 140737488355328) :
    ∃ g c' w', (Builtin.append_ #[st, st] st #[.slice none 0 0, .slice (some ad) m cc]).run Tryz.prog w = .ok (.slice (some ⟨g, 0, none⟩) m c') w' ∧ w'.ownsRow w.heap.size e 1 (.slice (some ⟨g, 0, none⟩) m c') m news ∧ w.grownBy w' none := by
  obtain ⟨i, hi, hz, hs, hby, hzc⟩ := hE.info
  obtain ⟨v', w', hr, ho, hg, _⟩ := run_append_own w w.heap.size st st e i z 1 bt (P := Tryz.prog) hE.sl hi hz hs hby hzc (by decide) (.slice none 0 0) 0 [] (World.ownsRow_nil w _ e 1) ad m cc news (by omega) hnews h1 (by unfold maxLen; omega) (by rw [Nat.zero_add]; exact hb) (Nat.le_refl _)
  rw [Nat.zero_add, List.nil_append] at ho
  obtain ⟨g, c, rfl, _⟩ := own_some ho hm
  exact ⟨g, c, w', hr, ho, hg⟩
end Go.Proofs.YtlkiancedgaicaaGreat

/- Parts of slices of bytes; rows of one's own as bytes. -/
namespace Go.Proofs.YtlkiancedgaicaaGreat
open Go.RowKit Ow

theorem getD_drop (l : List Nat) (k i : Nat) : (l.drop k).getD i 0 = l.getD (k + i) 0 := by
  rw [List.getD_eq_getElem?_getD, List.getElem?_drop, List.getD_eq_getElem?_getD]
theorem getD_take_lt (l : List Nat) (k : Nat) (h : ∀ i, l.getD i 0 < 256) (i : Nat) : (l.take k).getD i 0 < 256 := by
  rw [List.getD_eq_getElem?_getD, List.getElem?_take]
  split
  · rw [← List.getD_eq_getElem?_getD]; exact h i
  · decide
theorem getD_take (l : List Nat) (k i : Nat) (h : i < k) : (l.take k).getD i 0 = l.getD i 0 := by
  rw [List.getD_eq_getElem?_getD, List.getElem?_take, if_pos h, List.getD_eq_getElem?_getD]
theorem bytes_drop {w : World} {B cap k : Nat} {a a' : Option Addr} {l : List Nat} (h : BytesAt w B a cap l) (ha : k < cap → ∀ pb po, a = some ⟨pb, po, none⟩ → a' = some ⟨pb, po + k, none⟩) : BytesAt w B a' (cap - k) (l.drop k) := by
  have hf := h.fits
  have ht := h.top
  refine ⟨h.lim, by rw [List.length_drop]; omega, by omega, fun i => by rw [getD_drop]; exact h.byte _, ?_⟩
  by_cases h0 : l.length ≤ k
  · exact Or.inl (by rw [List.length_drop]; omega)
  · obtain ⟨pb, po, e, hlt, hc⟩ := h.cells.resolve_left (by omega)
    refine Or.inr ⟨pb, po + k, ha (by omega) pb po e, hlt, fun i hi => ?_⟩
    rw [List.length_drop] at hi
    rw [getD_drop, Nat.add_assoc]
    exact hc _ (by omega)
theorem bytes_take {w : World} {B cap k : Nat} {a a' : Option Addr} {l : List Nat} (h : BytesAt w B a cap l) (ha : ∀ pb po, a = some ⟨pb, po, none⟩ → a' = some ⟨pb, po, none⟩) : BytesAt w B a' cap (l.take k) := by
  have hl : (l.take k).length ≤ l.length := by rw [List.length_take]; omega
  refine ⟨h.lim, Nat.le_trans hl h.fits, h.top, getD_take_lt _ _ h.byte, ?_⟩
  rcases h.cells with h0 | ⟨pb, po, e, hlt, hc⟩
  · exact Or.inl (by omega)
  · refine Or.inr ⟨pb, po, ha pb po e, hlt, fun i hi => ?_⟩
    rw [List.length_take] at hi
    rw [getD_take _ _ _ (by omega)]
    exact hc _ (by omega)
set_option maxRecDepth 100000 in
/-- x[:k] of a slice of bytes -/
theorem slice_to (a : Option Addr) (n cap k : Nat) (h : k ≤ cap) :
    ∃ a', (∀ w, (Instr.slice 23 (.slice a n cap) none (some (.int .i64 (k : Int))) none).run Tryz.prog w = .ok (.slice a' k cap) w) ∧ (∀ pb po, a = some ⟨pb, po, none⟩ → a' = some ⟨pb, po, none⟩) := by
  obtain ⟨j, hj, hs⟩ : ∃ j, Tryz.prog.info? (Tryz.prog.elem 23) = some j ∧ j.size = 1 := by
    have h1 : (Tryz.prog.info? (Tryz.prog.elem 23)).map (·.size) = some 1 := by kernel_rfl
    cases hq : Tryz.prog.info? (Tryz.prog.elem 23) with
    | none => rw [hq] at h1; cases h1
    | some j => rw [hq] at h1; exact ⟨j, rfl, by simpa using h1⟩
  refine ⟨if cap = 0 then a else a.map (·.add 0), fun w => ?_, fun pb po e => ?_⟩
  · rw [run_slice_h w 23 a n cap Tryz.underlying23 .i64 _ (by omega) (by omega), Int.toNat_natCast]
    simp [sizeOf, typeInfo, hj, hs, sliced]
  · rw [e]
    split
    · rfl
    · simp [Addr.add]
/-- a row of one's own, whole -/
theorem own_of_blk {w : World} {g n base e : Nat} {xs : List Value} (h : Blk w g e xs) (hn : xs.length = n) (hb : base ≤ g) (hm : n ≤ 140737488355328) : w.ownsRow base e 1 (.slice (some ⟨g, 0, none⟩) n n) n xs :=
  ⟨by omega, Or.inr ⟨g, n, xs.toArray, rfl, hb, h, Nat.le_refl _, by unfold maxLen; omega, by simp [hn], by simp [← hn]⟩⟩
theorem own_bytesAt {w : World} {base n : Nat} {v : Value} {l : List Nat} (h : w.ownsRow base 5 1 v n (l.map u8N)) (hl : l.length = n) (hn : 0 < n) (hb : ∀ i, l.getD i 0 < 256) :
    ∃ g c, v = .slice (some ⟨g, 0, none⟩) n c ∧ base ≤ g ∧ n ≤ c ∧ BytesAt w w.heap.size (some ⟨g, 0, none⟩) c l := by
  subst hl
  obtain ⟨g, c, rfl, hbg, hnc, hcm, hlt⟩ := own_some h hn
  refine ⟨g, c, rfl, hbg, hnc, Nat.le_refl _, hnc, by unfold maxLen at hcm; omega, hb, Or.inr ⟨g, 0, rfl, hlt, fun i hi => ?_⟩⟩
  rw [Nat.zero_add]
  exact own_cell h (u8_getD hi)
theorem _root_.Go.Proofs.YtlkiancedgaicaaGreat.Ow.BytesAt.full {w : World} {B cap : Nat} {a : Option Addr} {l : List Nat} (h : BytesAt w B a cap l) : BytesAt w w.heap.size a cap l := h.up h.lim (Nat.le_refl _)
theorem _root_.Go.Proofs.YtlkiancedgaicaaGreat.Ow.BytesAt.apart {w w' : World} {B cap rb : Nat} {a : Option Addr} {l : List Nat} (h : BytesAt w B a cap l) (hg : w.grownBy w' (some rb)) (hne : l.length = 0 ∨ ∀ pb po, a = some ⟨pb, po, none⟩ → pb ≠ rb) : BytesAt w' B a cap l := by
  refine ⟨Nat.le_trans h.lim hg.size, h.fits, h.top, h.byte, ?_⟩
  rcases hne with h0 | hne
  · exact Or.inl h0
  rcases h.cells with h0 | ⟨pb, po, ha, hlt, hc⟩
  · exact Or.inl h0
  · exact Or.inr ⟨pb, po, ha, hlt, fun i hi => by rw [gb_cell hg (p := ⟨pb, po + i, none⟩) (Nat.lt_of_lt_of_le hlt h.lim) (fun e => hne pb po ha (by simpa using e))]; exact hc i hi⟩
end Go.Proofs.YtlkiancedgaicaaGreat

/- A region that draws its order, by what each operation leaves in its slot: one obligation for each operation, whatever order is drawn. No program is named here. -/
namespace Go.Proofs.YtlkiancedgaicaaGreat
open Go
section
variable {P : Program} {ops : Array Oper} {Q : Exit → Act → World → Prop} {G : Nat → Value → World → Prop} {M : Nat → World → Prop} {B : World → Prop} {Rel : World → World → Prop} {a0 : Act}

def notDst (ops : Array Oper) (d : Nat) : Bool := ops.all fun o => o.dst != some d
def isDst (ops : Array Oper) (d : Nat) : Bool := ops.any fun o => o.dst == some d
def waits (ops : Array Oper) (o : Oper) (d : Nat) : Bool := o.after.any fun e => Region.binds .any e && ((ops[e.on]?).bind (·.dst)) == some d
def waitsFor (o : Oper) (j : Nat) : Bool := o.after.any fun e => Region.binds .any e && e.on == j
/-- the state amid a region: what is listed has left in its slot, or in memory, what it should -/
structure Flow (G : Nat → Value → World → Prop) (M : Nat → World → Prop) (B : World → Prop) (a0 : Act) (ops : Array Oper) (listed : Array Bool) (a : Act) (w : World) : Prop where
  base : B w
  size : a.tmps.size = a0.tmps.size
  defers : a.defers = a0.defers
  rest : ∀ d, notDst ops d = true → a.tmps.getD d undef = a0.tmps.getD d undef
  slots : ∀ j oj d, ops[j]? = some oj → listed.getD j false = true → oj.dst = some d → G d (a.tmps.getD d undef) w
  mems : ∀ j oj, ops[j]? = some oj → listed.getD j false = true → oj.dst = none → M j w
/-- the state at one operation: what it waits for has left what it should -/
structure FlowAt (G : Nat → Value → World → Prop) (M : Nat → World → Prop) (B : World → Prop) (a0 : Act) (ops : Array Oper) (o : Oper) (a : Act) (w : World) : Prop where
  base : B w
  size : a.tmps.size = a0.tmps.size
  defers : a.defers = a0.defers
  rest : ∀ d, notDst ops d = true → a.tmps.getD d undef = a0.tmps.getD d undef
  dep : ∀ d, waits ops o d = true → G d (a.tmps.getD d undef) w
  mem : ∀ j oj, ops[j]? = some oj → waitsFor o j = true → oj.dst = none → M j w
/-- what one operation leaves -/
def FlowPost (G : Nat → Value → World → Prop) (M : Nat → World → Prop) (B : World → Prop) (Rel : World → World → Prop) (i : Nat) (o : Oper) (w : World) (v : Value) (w' : World) : Prop :=
  B w' ∧ Rel w w' ∧ match o.dst with | some d => G d v w' | none => M i w'
def FlowStep (P : Program) (Q : Exit → Act → World → Prop) (G : Nat → Value → World → Prop) (M : Nat → World → Prop) (B : World → Prop) (Rel : World → World → Prop) (a0 : Act) (ops : Array Oper) (i : Nat) (o : Oper) : Prop :=
  ∀ a w, FlowAt G M B a0 ops o a w → ops[i]? = some o → wpOp P ops Q i (fun a' w' => ∃ v, a' = a.put o.dst v ∧ FlowPost G M B Rel i o w v w') a w
def FlowSteps (P : Program) (Q : Exit → Act → World → Prop) (G : Nat → Value → World → Prop) (M : Nat → World → Prop) (B : World → Prop) (Rel : World → World → Prop) (a0 : Act) (ops : Array Oper) : Nat → List Oper → Prop
  | _, [] => True
  | i, o :: r => FlowStep P Q G M B Rel a0 ops i o ∧ FlowSteps P Q G M B Rel a0 ops (i + 1) r
theorem flowSteps_get : ∀ (l : List Oper) (i k : Nat) (o : Oper), FlowSteps P Q G M B Rel a0 ops i l → l[k]? = some o → FlowStep P Q G M B Rel a0 ops (i + k) o := by
  intro l
  induction l with
  | nil => intro i k o _ h; simp at h
  | cons x r ih =>
    intro i k o h hk
    cases k with
    | zero => simp at hk; subst hk; exact h.1
    | succ k => have := ih (i + 1) k o h.2 (by simpa using hk); rwa [show i + (k + 1) = i + 1 + k by omega]

/-- each operation waits for earlier ones alone; no slot is written twice; each slot is there -/
def topo (ops : Array Oper) : Bool := (List.range ops.size).all fun i => ((ops[i]?).map fun o => o.after.all fun e => !Region.binds .any e || decide (e.on < i)).getD true
def onceL : List (Option Tmp) → Bool
  | [] => true
  | none :: r => onceL r
  | some d :: r => r.all (· != some d) && onceL r
def once (ops : Array Oper) (n : Nat) : Bool := onceL (ops.toList.map (·.dst)) && ops.all fun o => match o.dst with | some d => decide (d < n) | none => true
theorem onceL_ne : ∀ (l : List (Option Tmp)), onceL l = true → ∀ (i j : Nat) (d d' : Tmp), l[i]? = some (some d) → l[j]? = some (some d') → i ≠ j → d ≠ d' := by
  intro l
  induction l with
  | nil => intro _ i j d d' h; simp at h
  | cons x r ih =>
    intro h i j d d' hi hj hne
    have hr : onceL r = true := by cases x with | none => exact h | some y => simp [onceL] at h; exact h.2
    cases i with
    | zero =>
      cases j with
      | zero => exact absurd rfl hne
      | succ j =>
        simp at hi hj
        subst hi
        simp [onceL] at h
        intro e
        subst e
        exact h.1 _ (List.mem_of_getElem? hj) rfl
    | succ i =>
      cases j with
      | zero =>
        simp at hi hj
        subst hj
        simp [onceL] at h
        intro e
        subst e
        exact h.1 _ (List.mem_of_getElem? hi) rfl
      | succ j => exact ih hr i j d d' (by simpa using hi) (by simpa using hj) (fun e => hne (by rw [e]))
theorem once_ne {n : Nat} (h : once ops n = true) {i j : Nat} {oi oj : Oper} (hi : ops[i]? = some oi) (hj : ops[j]? = some oj) (hne : i ≠ j) {d : Nat} (hd : oi.dst = some d) : oj.dst ≠ some d := by
  intro e
  have h1 : onceL (ops.toList.map (·.dst)) = true := by simp only [once, Bool.and_eq_true] at h; exact h.1
  refine onceL_ne _ h1 i j d d ?_ ?_ hne rfl
  · rw [List.getElem?_map, Array.getElem?_toList, hi]; simp [hd]
  · rw [List.getElem?_map, Array.getElem?_toList, hj]; simp [e]
theorem once_lt {n : Nat} (h : once ops n = true) {i : Nat} {oi : Oper} (hi : ops[i]? = some oi) {d : Nat} (hd : oi.dst = some d) : d < n := by
  simp only [once, Bool.and_eq_true] at h
  have := (Array.all_eq_true_iff_forall_mem.1 h.2) oi (Array.mem_of_getElem? hi)
  simpa [hd] using this
theorem filter_le {α : Type} (p q : α → Bool) (l : List α) (h : ∀ x, q x = true → p x = true) : (l.filter q).length ≤ (l.filter p).length := by
  induction l with
  | nil => simp
  | cons x r ih =>
    by_cases hq : q x = true
    · simp [hq, h x hq, ih]
    · by_cases hp : p x = true
      · simp [hq, hp]; omega
      · simp [hq, hp, ih]
theorem filter_lt {α : Type} (p q : α → Bool) (l : List α) (h : ∀ x, q x = true → p x = true) (x : α) (hx : x ∈ l) (hp : p x = true) (hq : q x = false) : (l.filter q).length < (l.filter p).length := by
  induction l with
  | nil => cases hx
  | cons y r ih =>
    have hle := filter_le p q r h
    rcases List.mem_cons.1 hx with e | e
    · subst e; simp [hp, hq]; omega
    · have := ih e
      by_cases hqy : q y = true
      · simp [hqy, h y hqy, this]
      · by_cases hpy : p y = true
        · simp [hqy, hpy]; omega
        · simp [hqy, hpy, this]
def unlisted (ops : Array Oper) (listed : Array Bool) : Nat := ((List.range ops.size).filter fun i => !listed.getD i true).length
theorem unlisted_lt {listed : Array Bool} {i : Nat} (h : i ∈ Region.ready .any ops listed) : unlisted ops (listed.setIfInBounds i true) < unlisted ops listed := by
  obtain ⟨h0, o, ho, _⟩ := mem_ready.1 h
  have hi : i < ops.size := by
    rcases Nat.lt_or_ge i ops.size with h' | h'
    · exact h'
    · rw [Array.getElem?_eq_none h'] at ho; cases ho
  have hset : (listed.setIfInBounds i true).getD i true = true := by
    rcases Nat.lt_or_ge i listed.size with h' | h'
    · simp [h']
    · simp [Array.getElem?_eq_none (show (listed.setIfInBounds i true).size ≤ i by simpa using h')]
  refine filter_lt _ _ _ (fun x hx => ?_) i (List.mem_range.2 hi) (by rw [h0]; rfl) (by rw [hset]; rfl)
  by_cases e : i = x
  · subst e; rw [hset] at hx; cases hx
  · rwa [getD_set_ne true e] at hx
theorem all_listed (ht : topo ops = true) {listed : Array Bool} (hs : listed.size = ops.size) (hr : Region.ready .any ops listed = []) : ∀ i, i < ops.size → listed.getD i false = true := by
  intro i
  induction i using Nat.strongRecOn with
  | _ i ih =>
    intro hi
    by_cases hl : listed.getD i false = true
    · exact hl
    have hi' : i < listed.size := by omega
    have hf : listed.getD i true = false := by
      simp [hi'] at hl ⊢; exact hl
    have : i ∈ Region.ready .any ops listed := mem_ready.2 ⟨hf, ops[i], Array.getElem?_eq_getElem hi, fun e he hb => by
      have h1 := (List.all_eq_true.1 ht) i (List.mem_range.2 hi)
      rw [Array.getElem?_eq_getElem hi] at h1
      have h2 : (ops[i].after.all fun e => !Region.binds .any e || decide (e.on < i)) = true := h1
      have h3 : e.on < i := by
        have := (Array.all_eq_true_iff_forall_mem.1 h2) e he
        simpa [hb] using this
      exact ih e.on h3 (by omega)⟩
    rw [hr] at this
    cases this
theorem flow_any (ht : topo ops = true) (ho : once ops a0.tmps.size = true) (stab : ∀ d u w w', Rel w w' → G d u w → G d u w') (stabM : ∀ j w w', Rel w w' → M j w → M j w')
    (steps : FlowSteps P Q G M B Rel a0 ops 0 ops.toList)
    (fin : ∀ a w, B w → a.tmps.size = a0.tmps.size → a.defers = a0.defers → (∀ d, notDst ops d = true → a.tmps.getD d undef = a0.tmps.getD d undef) → (∀ d, isDst ops d = true → G d (a.tmps.getD d undef) w) →
      (∀ j oj, ops[j]? = some oj → oj.dst = none → M j w) → Q .normal a w) :
    ∀ (fuel : Nat) (listed : Array Bool) (a : Act) (w : World), listed.size = ops.size → unlisted ops listed ≤ fuel → Flow G M B a0 ops listed a w → wpAny P .any ops Q fuel listed a w := by
  have inn : ∀ {j : Nat} {oj : Oper}, ops[j]? = some oj → j < ops.size := by
    intro j oj hj
    rcases Nat.lt_or_ge j ops.size with h' | h'
    · exact h'
    · rw [Array.getElem?_eq_none h'] at hj; cases hj
  have go : ∀ (listed : Array Bool) (a : Act) (w : World), listed.size = ops.size → Flow G M B a0 ops listed a w → Region.ready .any ops listed = [] → Q .normal a w := by
    intro listed a w hs hF hr
    have hall := all_listed ht hs hr
    refine fin a w hF.base hF.size hF.defers hF.rest (fun d hd => ?_) (fun j oj hj hn => hF.mems j oj hj (hall j (inn hj)) hn)
    obtain ⟨k, hk, hb⟩ := Array.any_eq_true.1 hd
    exact hF.slots k ops[k] d (Array.getElem?_eq_getElem hk) (hall k hk) (by simpa using hb)
  intro fuel
  induction fuel with
  | zero =>
    intro listed a w hs hu hF
    have hr : Region.ready .any ops listed = [] := by
      cases hc : Region.ready .any ops listed with
      | nil => rfl
      | cons x r =>
        have := unlisted_lt (ops := ops) (listed := listed) (i := x) (by rw [hc]; exact List.mem_cons_self ..)
        omega
    exact ⟨hr, go listed a w hs hF hr⟩
  | succ fuel ih =>
    intro listed a w hs hu hF
    refine ⟨go listed a w hs hF, fun i hi => ?_⟩
    obtain ⟨h0, o, hoi, hall⟩ := mem_ready.1 hi
    have hst := flowSteps_get ops.toList 0 i o steps (by rw [Array.getElem?_toList]; exact hoi)
    rw [Nat.zero_add] at hst
    have hat : FlowAt G M B a0 ops o a w := ⟨hF.base, hF.size, hF.defers, hF.rest, fun d hd => by
        obtain ⟨k, hk, hb⟩ := Array.any_eq_true.1 hd
        simp only [Bool.and_eq_true, beq_iff_eq] at hb
        have hl := hall _ (Array.getElem_mem hk) hb.1
        cases hx : ops[o.after[k].on]? with
        | none => rw [hx] at hb; cases hb.2
        | some oj => rw [hx] at hb; exact hF.slots _ oj d hx hl hb.2,
      fun j oj hj ha hn => by
        obtain ⟨k, hk, hb⟩ := Array.any_eq_true.1 ha
        simp only [Bool.and_eq_true, beq_iff_eq] at hb
        have hl := hall _ (Array.getElem_mem hk) hb.1
        rw [hb.2] at hl
        exact hF.mems j oj hj hl hn⟩
    refine wpOp_mono (fun a' w' h => ?_) (hst a w hat hoi)
    obtain ⟨v, rfl, hB, hR, hG⟩ := h
    have hlt := unlisted_lt hi
    refine ih _ _ _ (by simpa using hs) (by omega) ⟨hB, ?_, ?_, ?_, ?_, ?_⟩
    · rw [← hF.size]; cases o.dst <;> simp [Act.put]
    · rw [← hF.defers]; cases o.dst <;> simp [Act.put]
    · intro d hd
      rw [← hF.rest d hd]
      have hne : o.dst ≠ some d := by
        have := (Array.all_eq_true_iff_forall_mem.1 hd) o (Array.mem_of_getElem? hoi)
        simpa using this
      cases hod : o.dst with
      | none => rfl
      | some d' => rw [hod] at hne; simp [Act.put, Array.getElem?_setIfInBounds_ne (show d' ≠ d from fun e => hne (by rw [e]))]
    · intro j oj d hj hl hd
      by_cases e : i = j
      · subst e
        rw [hoi] at hj
        cases hj
        have hd2 := once_lt ho hoi hd
        rw [← hF.size] at hd2
        rw [hd] at hG ⊢
        simpa [Act.put, hd2] using hG
      · rw [getD_set_ne false e] at hl
        have h1 := hF.slots j oj d hj hl hd
        have hv : (a.put o.dst v).tmps.getD d undef = a.tmps.getD d undef := by
          cases hod : o.dst with
          | none => rfl
          | some d' =>
            have := once_ne ho hoi hj e hod
            rw [hd] at this
            simp [Act.put, Array.getElem?_setIfInBounds_ne (show d' ≠ d from fun e => this (by rw [e]))]
        rw [hv]
        exact stab d _ w w' hR h1
    · intro j oj hj hl hn
      by_cases e : i = j
      · subst e
        rw [hoi] at hj
        cases hj
        rw [hn] at hG
        exact hG
      · rw [getD_set_ne false e] at hl
        exact stabM j w w' hR (hF.mems j oj hj hl hn)
/-- A REGION THAT DRAWS ITS ORDER, by one obligation for each operation. G d v w: what slot d has; M j w: what operation j, that has no slot, has done; B: what holds of memory throughout; Rel: what one operation may do to memory. -/
theorem wp_region_flow {id : Nat} {w : World} (G : Nat → Value → World → Prop) (M : Nat → World → Prop) (B : World → Prop) (Rel : World → World → Prop) (hm : P.follows .mixedOrders = true) (ht : topo ops = true) (ho : once ops a0.tmps.size = true) (hB : B w.drew)
    (stab : ∀ d u w w', Rel w w' → G d u w → G d u w') (stabM : ∀ j w w', Rel w w' → M j w → M j w') (steps : FlowSteps P Q G M B Rel a0 ops 0 ops.toList)
    (fin : ∀ a w, B w → a.tmps.size = a0.tmps.size → a.defers = a0.defers → (∀ d, notDst ops d = true → a.tmps.getD d undef = a0.tmps.getD d undef) → (∀ d, isDst ops d = true → G d (a.tmps.getD d undef) w) →
      (∀ j oj, ops[j]? = some oj → oj.dst = none → M j w) → Q .normal a w) : (Code.region id ops true).wp P Q a0 w :=
  wp_region_any hm (flow_any ht ho stab stabM steps fin ops.size _ a0 _ (by simp) (by unfold unlisted; exact Nat.le_trans (List.length_filter_le _ _) (by simp))
    ⟨hB, rfl, rfl, fun _ _ => rfl, fun j oj d _ hl _ => by
      by_cases h : j < ops.size <;> simp [h] at hl, fun j oj _ hl _ => by
      by_cases h : j < ops.size <;> simp [h] at hl⟩)

theorem wanted_none {o : Oper} (h : o.guard = none) (f : Nat → Option Bool) : Region.wanted o f = true := by simp [Region.wanted, h]
/-- an operation that yields a value -/
theorem flow_value {i : Nat} {o : Oper} {d : Nat} (hd : o.dst = some d) (hg : o.guard = none) (h : ∀ a w, FlowAt G M B a0 ops o a w → ∃ v w', (execOp a.eval o).run P w = .ok (.value v) w' ∧ B w' ∧ Rel w w' ∧ G d v w') : FlowStep P Q G M B Rel a0 ops i o := by
  intro a w hF hi
  obtain ⟨v, w', hr, hB, hR, hG⟩ := h a w hF
  unfold wpOp
  simp only [hi, wanted_none hg, if_true]
  refine Or.inl ?_
  unfold Oper.wp
  rw [hr]
  exact ⟨v, rfl, hB, hR, by rw [hd]; exact hG⟩
/-- an operation that leaves no value -/
theorem flow_skip {i : Nat} {o : Oper} (hd : o.dst = none) (hg : o.guard = none) (h : ∀ a w, FlowAt G M B a0 ops o a w → ∃ w', (execOp a.eval o).run P w = .ok .skip w' ∧ B w' ∧ Rel w w' ∧ M i w') : FlowStep P Q G M B Rel a0 ops i o := by
  intro a w hF hi
  obtain ⟨w', hr, hB, hR, hG⟩ := h a w hF
  unfold wpOp
  simp only [hi, wanted_none hg, if_true]
  refine Or.inl ?_
  unfold Oper.wp
  rw [hr]
  exact ⟨undef, rfl, hB, hR, by rw [hd]; exact hG⟩
/-- a call -/
theorem flow_call {i : Nat} {o : Oper} {d : Nat} (hd : o.dst = some d) (hg : o.guard = none)
    (h : ∀ a w, FlowAt G M B a0 ops o a w → ∃ f args, (execOp a.eval o).run P w = .ok (.enter f args) w ∧ Calls P f args w fun e w' => ∃ v, e = .returned v ∧ B w' ∧ Rel w w' ∧ G d v w') : FlowStep P Q G M B Rel a0 ops i o := by
  intro a w hF hi
  obtain ⟨f, args, hr, hc⟩ := h a w hF
  unfold wpOp
  simp only [hi, wanted_none hg, if_true]
  refine Or.inl ?_
  unfold Oper.wp
  rw [hr]
  refine Calls.mono hc fun e w' he => ?_
  obtain ⟨v, rfl, hB, hR, hG⟩ := he
  exact ⟨v, rfl, hB, hR, by rw [hd]; exact hG⟩
end
end Go.Proofs.YtlkiancedgaicaaGreat

/- A region that draws its order, as in XFlow; what a store has done may be told of the address that stands in a slot (the slot st j of operation j). No program is named here. -/
namespace Go.Proofs.YtlkiancedgaicaaGreat
open Go
section
variable {P : Program} {ops : Array Oper} {Q : Exit → Act → World → Prop} {G : Nat → Value → World → Prop} {st : Nat → Nat} {M : Nat → Value → World → Prop} {B : World → Prop} {Rel : World → World → Prop} {a0 : Act}

structure Flow2 (G : Nat → Value → World → Prop) (st : Nat → Nat) (M : Nat → Value → World → Prop) (B : World → Prop) (a0 : Act) (ops : Array Oper) (listed : Array Bool) (a : Act) (w : World) : Prop where
  base : B w
  size : a.tmps.size = a0.tmps.size
  defers : a.defers = a0.defers
  rest : ∀ d, notDst ops d = true → a.tmps.getD d undef = a0.tmps.getD d undef
  slots : ∀ j oj d, ops[j]? = some oj → listed.getD j false = true → oj.dst = some d → G d (a.tmps.getD d undef) w
  mems : ∀ j oj, ops[j]? = some oj → listed.getD j false = true → oj.dst = none → M j (a.tmps.getD (st j) undef) w
  closed : ∀ j oj, ops[j]? = some oj → listed.getD j false = true → ∀ e ∈ oj.after, Region.binds .any e = true → listed.getD e.on false = true
structure FlowAt2 (G : Nat → Value → World → Prop) (st : Nat → Nat) (M : Nat → Value → World → Prop) (B : World → Prop) (a0 : Act) (ops : Array Oper) (o : Oper) (a : Act) (w : World) : Prop where
  base : B w
  rest : ∀ d, notDst ops d = true → a.tmps.getD d undef = a0.tmps.getD d undef
  dep : ∀ d, waits ops o d = true → G d (a.tmps.getD d undef) w
  mem : ∀ j oj, ops[j]? = some oj → waitsFor o j = true → oj.dst = none → M j (a.tmps.getD (st j) undef) w
def FlowPost2 (G : Nat → Value → World → Prop) (st : Nat → Nat) (M : Nat → Value → World → Prop) (B : World → Prop) (Rel : World → World → Prop) (i : Nat) (o : Oper) (a : Act) (w : World) (v : Value) (w' : World) : Prop :=
  B w' ∧ Rel w w' ∧ match o.dst with | some d => G d v w' | none => M i (a.tmps.getD (st i) undef) w'
def FlowStep2 (P : Program) (Q : Exit → Act → World → Prop) (G : Nat → Value → World → Prop) (st : Nat → Nat) (M : Nat → Value → World → Prop) (B : World → Prop) (Rel : World → World → Prop) (a0 : Act) (ops : Array Oper) (i : Nat) (o : Oper) : Prop :=
  ∀ a w, FlowAt2 G st M B a0 ops o a w → ops[i]? = some o → wpOp P ops Q i (fun a' w' => ∃ v, a' = a.put o.dst v ∧ FlowPost2 G st M B Rel i o a w v w') a w
def FlowSteps2 (P : Program) (Q : Exit → Act → World → Prop) (G : Nat → Value → World → Prop) (st : Nat → Nat) (M : Nat → Value → World → Prop) (B : World → Prop) (Rel : World → World → Prop) (a0 : Act) (ops : Array Oper) : Nat → List Oper → Prop
  | _, [] => True
  | i, o :: r => FlowStep2 P Q G st M B Rel a0 ops i o ∧ FlowSteps2 P Q G st M B Rel a0 ops (i + 1) r
theorem flowSteps2_get : ∀ (l : List Oper) (i k : Nat) (o : Oper), FlowSteps2 P Q G st M B Rel a0 ops i l → l[k]? = some o → FlowStep2 P Q G st M B Rel a0 ops (i + k) o := by
  intro l
  induction l with
  | nil => intro i k o h hk; simp at hk
  | cons x r ih =>
    intro i k o h hk
    cases k with
    | zero => simp at hk; subst hk; exact h.1
    | succ k => have := ih (i + 1) k o h.2 (by simpa using hk); rwa [show i + (k + 1) = i + 1 + k by omega]
/-- each store's slot is one that it waits for, or that nobody writes -/
def stOk (ops : Array Oper) (st : Nat → Nat) : Bool := (List.range ops.size).all fun j => ((ops[j]?).map fun o => o.dst.isSome || waits ops o (st j) || notDst ops (st j)).getD true
theorem flow2_any (ht : topo ops = true) (ho : once ops a0.tmps.size = true) (stab : ∀ d u w w', Rel w w' → G d u w → G d u w') (stabM : ∀ j u w w', Rel w w' → M j u w → M j u w') (hstk : stOk ops st = true)
    (steps : FlowSteps2 P Q G st M B Rel a0 ops 0 ops.toList)
    (fin : ∀ a w, B w → a.tmps.size = a0.tmps.size → a.defers = a0.defers → (∀ d, notDst ops d = true → a.tmps.getD d undef = a0.tmps.getD d undef) → (∀ d, isDst ops d = true → G d (a.tmps.getD d undef) w) →
      (∀ j oj, ops[j]? = some oj → oj.dst = none → M j (a.tmps.getD (st j) undef) w) → Q .normal a w) :
    ∀ (fuel : Nat) (listed : Array Bool) (a : Act) (w : World), listed.size = ops.size → unlisted ops listed ≤ fuel → Flow2 G st M B a0 ops listed a w → wpAny P .any ops Q fuel listed a w := by
  have inn : ∀ {j : Nat} {oj : Oper}, ops[j]? = some oj → j < ops.size := by
    intro j oj hj
    rcases Nat.lt_or_ge j ops.size with h' | h'
    · exact h'
    · rw [Array.getElem?_eq_none h'] at hj; cases hj
  have go : ∀ (listed : Array Bool) (a : Act) (w : World), listed.size = ops.size → Flow2 G st M B a0 ops listed a w → Region.ready .any ops listed = [] → Q .normal a w := by
    intro listed a w hs hF hr
    have hall := all_listed ht hs hr
    refine fin a w hF.base hF.size hF.defers hF.rest (fun d hd => ?_) (fun j oj hj hn => hF.mems j oj hj (hall j (inn hj)) hn)
    obtain ⟨k, hk, hb⟩ := Array.any_eq_true.1 hd
    exact hF.slots k ops[k] d (Array.getElem?_eq_getElem hk) (hall k hk) (by simpa using hb)
  intro fuel
  induction fuel with
  | zero =>
    intro listed a w hs hu hF
    have hr : Region.ready .any ops listed = [] := by
      cases hc : Region.ready .any ops listed with
      | nil => rfl
      | cons x r =>
        have := unlisted_lt (ops := ops) (listed := listed) (i := x) (by rw [hc]; exact List.mem_cons_self ..)
        omega
    exact ⟨hr, go listed a w hs hF hr⟩
  | succ fuel ih =>
    intro listed a w hs hu hF
    refine ⟨go listed a w hs hF, fun i hi => ?_⟩
    obtain ⟨h0, o, hoi, hall⟩ := mem_ready.1 hi
    have hst := flowSteps2_get ops.toList 0 i o steps (by rw [Array.getElem?_toList]; exact hoi)
    rw [Nat.zero_add] at hst
    have hat : FlowAt2 G st M B a0 ops o a w := ⟨hF.base, hF.rest, fun d hd => by
        obtain ⟨k, hk, hb⟩ := Array.any_eq_true.1 hd
        simp only [Bool.and_eq_true, beq_iff_eq] at hb
        have hl := hall _ (Array.getElem_mem hk) hb.1
        cases hx : ops[o.after[k].on]? with
        | none => rw [hx] at hb; cases hb.2
        | some oj => rw [hx] at hb; exact hF.slots _ oj d hx hl hb.2,
      fun j oj hj ha hn => by
        obtain ⟨k, hk, hb⟩ := Array.any_eq_true.1 ha
        simp only [Bool.and_eq_true, beq_iff_eq] at hb
        have hl := hall _ (Array.getElem_mem hk) hb.1
        rw [hb.2] at hl
        exact hF.mems j oj hj hl hn⟩
    refine wpOp_mono (fun a' w' h => ?_) (hst a w hat hoi)
    obtain ⟨v, rfl, hB, hR, hG⟩ := h
    have hlt := unlisted_lt hi
    refine ih _ _ _ (by simpa using hs) (by omega) ⟨hB, ?_, ?_, ?_, ?_, ?_, ?_⟩
    · rw [← hF.size]; cases o.dst <;> simp [Act.put]
    · rw [← hF.defers]; cases o.dst <;> simp [Act.put]
    · intro d hd
      rw [← hF.rest d hd]
      have hne : o.dst ≠ some d := by
        have := (Array.all_eq_true_iff_forall_mem.1 hd) o (Array.mem_of_getElem? hoi)
        simpa using this
      cases hod : o.dst with
      | none => rfl
      | some d' => rw [hod] at hne; simp [Act.put, Array.getElem?_setIfInBounds_ne (show d' ≠ d from fun e => hne (by rw [e]))]
    · intro j oj d hj hl hd
      by_cases e : i = j
      · subst e
        rw [hoi] at hj
        cases hj
        have hd2 := once_lt ho hoi hd
        rw [← hF.size] at hd2
        rw [hd] at hG ⊢
        simpa [Act.put, hd2] using hG
      · rw [getD_set_ne false e] at hl
        have h1 := hF.slots j oj d hj hl hd
        have hv : (a.put o.dst v).tmps.getD d undef = a.tmps.getD d undef := by
          cases hod : o.dst with
          | none => rfl
          | some d' =>
            have := once_ne ho hoi hj e hod
            rw [hd] at this
            simp [Act.put, Array.getElem?_setIfInBounds_ne (show d' ≠ d from fun e => this (by rw [e]))]
        rw [hv]
        exact stab d _ w w' hR h1
    · intro j oj hj hl hn
      have hv : ∀ jj ojj, ops[jj]? = some ojj → ojj.dst = none → (jj = i ∨ listed.getD jj false = true) → (a.put o.dst v).tmps.getD (st jj) undef = a.tmps.getD (st jj) undef := by
        intro jj ojj hjj hnn hcase
        cases hod : o.dst with
        | none => rfl
        | some d' =>
          have hne : d' ≠ st jj := by
            intro he
            have hs1 := (List.all_eq_true.1 hstk) jj (List.mem_range.2 (inn hjj))
            rw [hjj] at hs1
            simp only [Option.map_some, Option.getD_some, hnn, Option.isSome_none, Bool.false_or, Bool.or_eq_true] at hs1
            rcases hs1 with hs1 | hs1
            · obtain ⟨k, hk, hb⟩ := Array.any_eq_true.1 hs1
              simp only [Bool.and_eq_true, beq_iff_eq] at hb
              rcases hcase with hc | hc
              · subst hc
                rw [hoi] at hjj
                cases hjj
                rw [hod] at hnn
                cases hnn
              · have hl2 := hF.closed jj ojj hjj hc _ (Array.getElem_mem hk) hb.1
                cases hx : ops[ojj.after[k].on]? with
                | none => rw [hx] at hb; cases hb.2
                | some ok =>
                  rw [hx] at hb
                  have hdk : ok.dst = some (st jj) := hb.2
                  by_cases hki : ojj.after[k].on = i
                  · rw [hki] at hl2
                    have hlt2 : i < listed.size := by rw [hs]; exact inn hoi
                    simp [hlt2] at h0 hl2
                    rw [h0] at hl2
                    cases hl2
                  · exact once_ne ho hx hoi hki hdk (by rw [hod, he])
            · have := (Array.all_eq_true_iff_forall_mem.1 hs1) o (Array.mem_of_getElem? hoi)
              rw [hod, he] at this
              simp at this
          simp [Act.put, Array.getElem?_setIfInBounds_ne hne]
      by_cases e : i = j
      · subst e
        rw [hv i oj hj hn (Or.inl rfl)]
        rw [hoi] at hj
        cases hj
        rw [hn] at hG
        exact hG
      · rw [getD_set_ne false e] at hl
        rw [hv j oj hj hn (Or.inr hl)]
        exact stabM j _ w w' hR (hF.mems j oj hj hl hn)
    · intro j oj hj hl e he hb
      by_cases ei : i = j
      · subst ei
        rw [hoi] at hj
        cases hj
        exact getD_set_true (hall e he hb)
      · rw [getD_set_ne false ei] at hl
        exact getD_set_true (hF.closed j oj hj hl e he hb)
/-- A REGION THAT DRAWS ITS ORDER, by one obligation for each operation. G d v w: what slot d has; M j w: what operation j, that has no slot, has done; B: what holds of memory throughout; Rel: what one operation may do to memory. -/
theorem wp_region_flow2 {id : Nat} {w : World} (G : Nat → Value → World → Prop) (st : Nat → Nat) (M : Nat → Value → World → Prop) (B : World → Prop) (Rel : World → World → Prop) (hm : P.follows .mixedOrders = true) (ht : topo ops = true) (ho : once ops a0.tmps.size = true) (hB : B w.drew)
    (stab : ∀ d u w w', Rel w w' → G d u w → G d u w') (stabM : ∀ j u w w', Rel w w' → M j u w → M j u w') (hstk : stOk ops st = true) (steps : FlowSteps2 P Q G st M B Rel a0 ops 0 ops.toList)
    (fin : ∀ a w, B w → a.tmps.size = a0.tmps.size → a.defers = a0.defers → (∀ d, notDst ops d = true → a.tmps.getD d undef = a0.tmps.getD d undef) → (∀ d, isDst ops d = true → G d (a.tmps.getD d undef) w) →
      (∀ j oj, ops[j]? = some oj → oj.dst = none → M j (a.tmps.getD (st j) undef) w) → Q .normal a w) : (Code.region id ops true).wp P Q a0 w :=
  wp_region_any hm (flow2_any ht ho stab stabM hstk steps fin ops.size _ a0 _ (by simp) (by unfold unlisted; exact Nat.le_trans (List.length_filter_le _ _) (by simp))
    ⟨hB, rfl, rfl, fun _ _ => rfl, fun j oj d _ hl _ => by
      by_cases h : j < ops.size <;> simp [h] at hl, fun j oj _ hl _ => by
      by_cases h : j < ops.size <;> simp [h] at hl, fun j oj _ hl => by
      by_cases h : j < ops.size <;> simp [h] at hl⟩)

/-- an operation that yields a value -/
theorem flow2_value {i : Nat} {o : Oper} {d : Nat} (hd : o.dst = some d) (hg : o.guard = none) (h : ∀ a w, FlowAt2 G st M B a0 ops o a w → ∃ v w', (execOp a.eval o).run P w = .ok (.value v) w' ∧ B w' ∧ Rel w w' ∧ G d v w') : FlowStep2 P Q G st M B Rel a0 ops i o := by
  intro a w hF hi
  obtain ⟨v, w', hr, hB, hR, hG⟩ := h a w hF
  unfold wpOp
  simp only [hi, wanted_none hg, if_true]
  refine Or.inl ?_
  unfold Oper.wp
  rw [hr]
  exact ⟨v, rfl, hB, hR, by rw [hd]; exact hG⟩
/-- an operation that leaves no value -/
theorem flow2_skip {i : Nat} {o : Oper} (hd : o.dst = none) (hg : o.guard = none) (h : ∀ a w, FlowAt2 G st M B a0 ops o a w → ∃ w', (execOp a.eval o).run P w = .ok .skip w' ∧ B w' ∧ Rel w w' ∧ M i (a.tmps.getD (st i) undef) w') : FlowStep2 P Q G st M B Rel a0 ops i o := by
  intro a w hF hi
  obtain ⟨w', hr, hB, hR, hG⟩ := h a w hF
  unfold wpOp
  simp only [hi, wanted_none hg, if_true]
  refine Or.inl ?_
  unfold Oper.wp
  rw [hr]
  exact ⟨undef, rfl, hB, hR, by rw [hd]; exact hG⟩
/-- a call -/
theorem flow2_call {i : Nat} {o : Oper} {d : Nat} (hd : o.dst = some d) (hg : o.guard = none)
    (h : ∀ a w, FlowAt2 G st M B a0 ops o a w → ∃ f args, (execOp a.eval o).run P w = .ok (.enter f args) w ∧ Calls P f args w fun e w' => ∃ v, e = .returned v ∧ B w' ∧ Rel w w' ∧ G d v w') : FlowStep2 P Q G st M B Rel a0 ops i o := by
  intro a w hF hi
  obtain ⟨f, args, hr, hc⟩ := h a w hF
  unfold wpOp
  simp only [hi, wanted_none hg, if_true]
  refine Or.inl ?_
  unfold Oper.wp
  rw [hr]
  refine Calls.mono hc fun e w' he => ?_
  obtain ⟨v, rfl, hB, hR, hG⟩ := he
  exact ⟨v, rfl, hB, hR, by rw [hd]; exact hG⟩
end
end Go.Proofs.YtlkiancedgaicaaGreat

/- A region that draws its order, as in XFlow2; what a store has done may be told of the address that stands in a slot (the slot st j of operation j). No program is named here. -/
namespace Go.Proofs.YtlkiancedgaicaaGreat
open Go
section
variable {P : Program} {ops : Array Oper} {Q : Exit → Act → World → Prop} {G : Nat → Value → World → Prop} {st : Nat → Nat} {M : Nat → Value → World → Prop} {B : World → Prop} {ps : List Nat} {a0 : Act}

/-- the pointers in the slots ps go to blocks that are there, all apart -/
def PtrsApart (ps : List Nat) (a : Act) (w : World) : Prop :=
  ∀ s ∈ ps, ∀ C, a.tmps.getD s undef = .pointer (some ⟨C, 0, none⟩) → C < w.heap.size ∧ ∀ t ∈ ps, t ≠ s → a.tmps.getD t undef ≠ .pointer (some ⟨C, 0, none⟩)
theorem ptrs_grown {ps : List Nat} {a : Act} {w w' : World} (h : PtrsApart ps a w) (hs : w.heap.size ≤ w'.heap.size) : PtrsApart ps a w' :=
  fun s hm C e => ⟨Nat.lt_of_lt_of_le (h s hm C e).1 hs, (h s hm C e).2⟩
theorem put_getD {a : Act} {dst : Option Tmp} {v : Value} {s : Nat} (h : dst ≠ some s) : (a.put dst v).tmps.getD s undef = a.tmps.getD s undef := by
  cases dst with
  | none => rfl
  | some d => simp [Act.put, Array.getElem?_setIfInBounds_ne (show d ≠ s from fun e => h (by rw [e]))]
theorem ptrs_put {ps : List Nat} {a : Act} {w w' : World} {dst : Option Tmp} {v : Value} (h : PtrsApart ps a w) (hs : w.heap.size ≤ w'.heap.size) (hd : ∀ s ∈ ps, dst ≠ some s) : PtrsApart ps (a.put dst v) w' := by
  intro s hm C e
  rw [put_getD (hd s hm)] at e
  refine ⟨Nat.lt_of_lt_of_le (h s hm C e).1 hs, fun t ht hts => ?_⟩
  rw [put_getD (hd t ht)]
  exact (h s hm C e).2 t ht hts
theorem ptrs_new {ps : List Nat} {a : Act} {w w' : World} {d : Nat} (h : PtrsApart ps a w) (hs : w.heap.size < w'.heap.size) (hd : d < a.tmps.size) : PtrsApart ps (a.put (some d) (.pointer (some ⟨w.heap.size, 0, none⟩))) w' := by
  have hsame : ∀ v, (a.put (some d) v).tmps.getD d undef = v := fun v => by simp [Act.put, hd]
  intro s hm C e
  by_cases e1 : d = s
  · subst e1
    rw [hsame] at e
    cases e
    refine ⟨hs, fun t ht hts e2 => ?_⟩
    rw [put_getD (by intro e3; exact hts (Option.some.inj e3).symm)] at e2
    have := (h t ht _ e2).1
    omega
  · rw [put_getD (by intro e3; exact e1 (Option.some.inj e3))] at e
    refine ⟨by have := (h s hm C e).1; omega, fun t ht hts => ?_⟩
    by_cases e2 : d = t
    · subst e2
      rw [hsame]
      intro e3
      cases e3
      have := (h s hm _ e).1
      omega
    · rw [put_getD (by intro e3; exact e2 (Option.some.inj e3))]
      exact (h s hm C e).2 t ht hts
structure Flow3 (G : Nat → Value → World → Prop) (st : Nat → Nat) (M : Nat → Value → World → Prop) (B : World → Prop) (ps : List Nat) (a0 : Act) (ops : Array Oper) (listed : Array Bool) (a : Act) (w : World) : Prop where
  base : B w
  size : a.tmps.size = a0.tmps.size
  defers : a.defers = a0.defers
  rest : ∀ d, notDst ops d = true → a.tmps.getD d undef = a0.tmps.getD d undef
  slots : ∀ j oj d, ops[j]? = some oj → listed.getD j false = true → oj.dst = some d → G d (a.tmps.getD d undef) w
  mems : ∀ j oj, ops[j]? = some oj → listed.getD j false = true → oj.dst = none → M j (a.tmps.getD (st j) undef) w
  ptrs : PtrsApart ps a w
  closed : ∀ j oj, ops[j]? = some oj → listed.getD j false = true → ∀ e ∈ oj.after, Region.binds .any e = true → listed.getD e.on false = true
structure FlowAt3 (G : Nat → Value → World → Prop) (st : Nat → Nat) (M : Nat → Value → World → Prop) (B : World → Prop) (ps : List Nat) (a0 : Act) (ops : Array Oper) (o : Oper) (a : Act) (w : World) : Prop where
  base : B w
  size : a.tmps.size = a0.tmps.size
  ptrs : PtrsApart ps a w
  rest : ∀ d, notDst ops d = true → a.tmps.getD d undef = a0.tmps.getD d undef
  dep : ∀ d, waits ops o d = true → G d (a.tmps.getD d undef) w
  mem : ∀ j oj, ops[j]? = some oj → waitsFor o j = true → oj.dst = none → M j (a.tmps.getD (st j) undef) w
def FlowPost3 (G : Nat → Value → World → Prop) (st : Nat → Nat) (M : Nat → Value → World → Prop) (B : World → Prop) (ps : List Nat) (ops : Array Oper) (i : Nat) (o : Oper) (a : Act) (w : World) (v : Value) (w' : World) : Prop :=
  B w' ∧ (∀ d u, G d u w → G d u w') ∧ (∀ j oj, j ≠ i → ops[j]? = some oj → oj.dst = none → M j (a.tmps.getD (st j) undef) w → M j (a.tmps.getD (st j) undef) w') ∧ PtrsApart ps (a.put o.dst v) w' ∧
    match o.dst with | some d => G d v w' | none => M i (a.tmps.getD (st i) undef) w'
def FlowStep3 (P : Program) (Q : Exit → Act → World → Prop) (G : Nat → Value → World → Prop) (st : Nat → Nat) (M : Nat → Value → World → Prop) (B : World → Prop) (ps : List Nat) (a0 : Act) (ops : Array Oper) (i : Nat) (o : Oper) : Prop :=
  ∀ a w, FlowAt3 G st M B ps a0 ops o a w → ops[i]? = some o → wpOp P ops Q i (fun a' w' => ∃ v, a' = a.put o.dst v ∧ FlowPost3 G st M B ps ops i o a w v w') a w
def FlowSteps3 (P : Program) (Q : Exit → Act → World → Prop) (G : Nat → Value → World → Prop) (st : Nat → Nat) (M : Nat → Value → World → Prop) (B : World → Prop) (ps : List Nat) (a0 : Act) (ops : Array Oper) : Nat → List Oper → Prop
  | _, [] => True
  | i, o :: r => FlowStep3 P Q G st M B ps a0 ops i o ∧ FlowSteps3 P Q G st M B ps a0 ops (i + 1) r
theorem flowSteps3_get : ∀ (l : List Oper) (i k : Nat) (o : Oper), FlowSteps3 P Q G st M B ps a0 ops i l → l[k]? = some o → FlowStep3 P Q G st M B ps a0 ops (i + k) o := by
  intro l
  induction l with
  | nil => intro i k o h hk; simp at hk
  | cons x r ih =>
    intro i k o h hk
    cases k with
    | zero => simp at hk; subst hk; exact h.1
    | succ k => have := ih (i + 1) k o h.2 (by simpa using hk); rwa [show i + (k + 1) = i + 1 + k by omega]
theorem flow3_any (ht : topo ops = true) (ho : once ops a0.tmps.size = true) (hstk : stOk ops st = true)
    (steps : FlowSteps3 P Q G st M B ps a0 ops 0 ops.toList)
    (fin : ∀ a w, B w → a.tmps.size = a0.tmps.size → a.defers = a0.defers → (∀ d, notDst ops d = true → a.tmps.getD d undef = a0.tmps.getD d undef) → (∀ d, isDst ops d = true → G d (a.tmps.getD d undef) w) →
      (∀ j oj, ops[j]? = some oj → oj.dst = none → M j (a.tmps.getD (st j) undef) w) → Q .normal a w) :
    ∀ (fuel : Nat) (listed : Array Bool) (a : Act) (w : World), listed.size = ops.size → unlisted ops listed ≤ fuel → Flow3 G st M B ps a0 ops listed a w → wpAny P .any ops Q fuel listed a w := by
  have inn : ∀ {j : Nat} {oj : Oper}, ops[j]? = some oj → j < ops.size := by
    intro j oj hj
    rcases Nat.lt_or_ge j ops.size with h' | h'
    · exact h'
    · rw [Array.getElem?_eq_none h'] at hj; cases hj
  have go : ∀ (listed : Array Bool) (a : Act) (w : World), listed.size = ops.size → Flow3 G st M B ps a0 ops listed a w → Region.ready .any ops listed = [] → Q .normal a w := by
    intro listed a w hs hF hr
    have hall := all_listed ht hs hr
    refine fin a w hF.base hF.size hF.defers hF.rest (fun d hd => ?_) (fun j oj hj hn => hF.mems j oj hj (hall j (inn hj)) hn)
    obtain ⟨k, hk, hb⟩ := Array.any_eq_true.1 hd
    exact hF.slots k ops[k] d (Array.getElem?_eq_getElem hk) (hall k hk) (by simpa using hb)
  intro fuel
  induction fuel with
  | zero =>
    intro listed a w hs hu hF
    have hr : Region.ready .any ops listed = [] := by
      cases hc : Region.ready .any ops listed with
      | nil => rfl
      | cons x r =>
        have := unlisted_lt (ops := ops) (listed := listed) (i := x) (by rw [hc]; exact List.mem_cons_self ..)
        omega
    exact ⟨hr, go listed a w hs hF hr⟩
  | succ fuel ih =>
    intro listed a w hs hu hF
    refine ⟨go listed a w hs hF, fun i hi => ?_⟩
    obtain ⟨h0, o, hoi, hall⟩ := mem_ready.1 hi
    have hst := flowSteps3_get ops.toList 0 i o steps (by rw [Array.getElem?_toList]; exact hoi)
    rw [Nat.zero_add] at hst
    have hat : FlowAt3 G st M B ps a0 ops o a w := ⟨hF.base, hF.size, hF.ptrs, hF.rest, fun d hd => by
        obtain ⟨k, hk, hb⟩ := Array.any_eq_true.1 hd
        simp only [Bool.and_eq_true, beq_iff_eq] at hb
        have hl := hall _ (Array.getElem_mem hk) hb.1
        cases hx : ops[o.after[k].on]? with
        | none => rw [hx] at hb; cases hb.2
        | some oj => rw [hx] at hb; exact hF.slots _ oj d hx hl hb.2,
      fun j oj hj ha hn => by
        obtain ⟨k, hk, hb⟩ := Array.any_eq_true.1 ha
        simp only [Bool.and_eq_true, beq_iff_eq] at hb
        have hl := hall _ (Array.getElem_mem hk) hb.1
        rw [hb.2] at hl
        exact hF.mems j oj hj hl hn⟩
    refine wpOp_mono (fun a' w' h => ?_) (hst a w hat hoi)
    obtain ⟨v, rfl, hB, hRG, hRM, hPt, hG⟩ := h
    have hlt := unlisted_lt hi
    refine ih _ _ _ (by simpa using hs) (by omega) ⟨hB, ?_, ?_, ?_, ?_, ?_, hPt, ?_⟩
    · rw [← hF.size]; cases o.dst <;> simp [Act.put]
    · rw [← hF.defers]; cases o.dst <;> simp [Act.put]
    · intro d hd
      rw [← hF.rest d hd]
      have hne : o.dst ≠ some d := by
        have := (Array.all_eq_true_iff_forall_mem.1 hd) o (Array.mem_of_getElem? hoi)
        simpa using this
      cases hod : o.dst with
      | none => rfl
      | some d' => rw [hod] at hne; simp [Act.put, Array.getElem?_setIfInBounds_ne (show d' ≠ d from fun e => hne (by rw [e]))]
    · intro j oj d hj hl hd
      by_cases e : i = j
      · subst e
        rw [hoi] at hj
        cases hj
        have hd2 := once_lt ho hoi hd
        rw [← hF.size] at hd2
        rw [hd] at hG ⊢
        simpa [Act.put, hd2] using hG
      · rw [getD_set_ne false e] at hl
        have h1 := hF.slots j oj d hj hl hd
        have hv : (a.put o.dst v).tmps.getD d undef = a.tmps.getD d undef := by
          cases hod : o.dst with
          | none => rfl
          | some d' =>
            have := once_ne ho hoi hj e hod
            rw [hd] at this
            simp [Act.put, Array.getElem?_setIfInBounds_ne (show d' ≠ d from fun e => this (by rw [e]))]
        rw [hv]
        exact hRG d _ h1
    · intro j oj hj hl hn
      have hv : ∀ jj ojj, ops[jj]? = some ojj → ojj.dst = none → (jj = i ∨ listed.getD jj false = true) → (a.put o.dst v).tmps.getD (st jj) undef = a.tmps.getD (st jj) undef := by
        intro jj ojj hjj hnn hcase
        cases hod : o.dst with
        | none => rfl
        | some d' =>
          have hne : d' ≠ st jj := by
            intro he
            have hs1 := (List.all_eq_true.1 hstk) jj (List.mem_range.2 (inn hjj))
            rw [hjj] at hs1
            simp only [Option.map_some, Option.getD_some, hnn, Option.isSome_none, Bool.false_or, Bool.or_eq_true] at hs1
            rcases hs1 with hs1 | hs1
            · obtain ⟨k, hk, hb⟩ := Array.any_eq_true.1 hs1
              simp only [Bool.and_eq_true, beq_iff_eq] at hb
              rcases hcase with hc | hc
              · subst hc
                rw [hoi] at hjj
                cases hjj
                rw [hod] at hnn
                cases hnn
              · have hl2 := hF.closed jj ojj hjj hc _ (Array.getElem_mem hk) hb.1
                cases hx : ops[ojj.after[k].on]? with
                | none => rw [hx] at hb; cases hb.2
                | some ok =>
                  rw [hx] at hb
                  have hdk : ok.dst = some (st jj) := hb.2
                  by_cases hki : ojj.after[k].on = i
                  · rw [hki] at hl2
                    have hlt2 : i < listed.size := by rw [hs]; exact inn hoi
                    simp [hlt2] at h0 hl2
                    rw [h0] at hl2
                    cases hl2
                  · exact once_ne ho hx hoi hki hdk (by rw [hod, he])
            · have := (Array.all_eq_true_iff_forall_mem.1 hs1) o (Array.mem_of_getElem? hoi)
              rw [hod, he] at this
              simp at this
          simp [Act.put, Array.getElem?_setIfInBounds_ne hne]
      by_cases e : i = j
      · subst e
        rw [hv i oj hj hn (Or.inl rfl)]
        rw [hoi] at hj
        cases hj
        rw [hn] at hG
        exact hG
      · rw [getD_set_ne false e] at hl
        rw [hv j oj hj hn (Or.inr hl)]
        exact hRM j oj (fun e2 => e e2.symm) hj hn (hF.mems j oj hj hl hn)
    · intro j oj hj hl e he hb
      by_cases ei : i = j
      · subst ei
        rw [hoi] at hj
        cases hj
        exact getD_set_true (hall e he hb)
      · rw [getD_set_ne false ei] at hl
        exact getD_set_true (hF.closed j oj hj hl e he hb)
/-- A REGION THAT DRAWS ITS ORDER, by one obligation for each operation. G d v w: what slot d has; M j w: what operation j, that has no slot, has done; B: what holds of memory throughout; Rel: what one operation may do to memory. -/
theorem wp_region_flow3 {id : Nat} {w : World} (G : Nat → Value → World → Prop) (st : Nat → Nat) (M : Nat → Value → World → Prop) (B : World → Prop) (ps : List Nat) (hm : P.follows .mixedOrders = true) (ht : topo ops = true) (ho : once ops a0.tmps.size = true) (hB : B w.drew) (hps : PtrsApart ps a0 w.drew)
    (hstk : stOk ops st = true) (steps : FlowSteps3 P Q G st M B ps a0 ops 0 ops.toList)
    (fin : ∀ a w, B w → a.tmps.size = a0.tmps.size → a.defers = a0.defers → (∀ d, notDst ops d = true → a.tmps.getD d undef = a0.tmps.getD d undef) → (∀ d, isDst ops d = true → G d (a.tmps.getD d undef) w) →
      (∀ j oj, ops[j]? = some oj → oj.dst = none → M j (a.tmps.getD (st j) undef) w) → Q .normal a w) : (Code.region id ops true).wp P Q a0 w :=
  wp_region_any hm (flow3_any ht ho hstk steps fin ops.size _ a0 _ (by simp) (by unfold unlisted; exact Nat.le_trans (List.length_filter_le _ _) (by simp))
    ⟨hB, rfl, rfl, fun _ _ => rfl, fun j oj d _ hl _ => by
      by_cases h : j < ops.size <;> simp [h] at hl, fun j oj _ hl _ => by
      by_cases h : j < ops.size <;> simp [h] at hl, hps, fun j oj _ hl => by
      by_cases h : j < ops.size <;> simp [h] at hl⟩)

/-- the guard of an operation says yes -/
def Wants (ops : Array Oper) (o : Oper) (a : Act) : Prop := Region.wanted o (yielded ops a.tmps) = true
theorem wants_none {o : Oper} {a : Act} (h : o.guard = none) : Wants ops o a := wanted_none h _
theorem wants_some {o : Oper} {a : Act} {j d : Nat} {b : Bool} (h : o.guard = some (j, b)) (hj : (ops[j]?).bind (·.dst) = some d) (hd : d < a.tmps.size) (hv : a.tmps.getD d undef = .bool b) : Wants ops o a := by
  unfold Wants Region.wanted yielded
  rw [h]
  have : a.tmps[d]? = some (.bool b) := by
    rw [Array.getElem?_eq_getElem hd]
    simp [hd] at hv
    rw [hv]
  simp [hj, this]
theorem not_wants {o : Oper} {a : Act} {j d : Nat} {b c : Bool} (h : o.guard = some (j, b)) (hj : (ops[j]?).bind (·.dst) = some d) (hd : d < a.tmps.size) (hv : a.tmps.getD d undef = .bool c) (hbc : c ≠ b) : Region.wanted o (yielded ops a.tmps) = false := by
  unfold Region.wanted yielded
  rw [h]
  have : a.tmps[d]? = some (.bool c) := by
    rw [Array.getElem?_eq_getElem hd]
    simp [hd] at hv
    rw [hv]
  simp [hj, this, hbc]
theorem flow3_skipped {i : Nat} {o : Oper} {d : Nat} (hd : o.dst = some d) (hps : ∀ s ∈ ps, s ≠ d) (hG : ∀ w, B w → G d undef w)
    (h : ∀ a w, FlowAt3 G st M B ps a0 ops o a w → Region.wanted o (yielded ops a.tmps) = false) : FlowStep3 P Q G st M B ps a0 ops i o := by
  intro a w hF hi
  have hw := h a w hF
  unfold wpOp
  simp only [hi, hw]
  exact ⟨undef, rfl, hF.base, fun _ _ h => h, fun _ _ _ _ _ h => h, ptrs_put hF.ptrs (Nat.le_refl _) (fun s hs e => hps s hs (Option.some.inj (hd ▸ e)).symm), by rw [hd]; exact hG w hF.base⟩
/-- an operation that yields a value -/
theorem flow3_value {i : Nat} {o : Oper} {d : Nat} (hd : o.dst = some d) (h : ∀ a w, FlowAt3 G st M B ps a0 ops o a w → Wants ops o a ∧ ∃ v w', (execOp a.eval o).run P w = .ok (.value v) w' ∧ B w' ∧ (∀ d u, G d u w → G d u w') ∧ (∀ j u, M j u w → M j u w') ∧ PtrsApart ps (a.put (some d) v) w' ∧ G d v w') : FlowStep3 P Q G st M B ps a0 ops i o := by
  intro a w hF hi
  obtain ⟨hw, v, w', hr, hB, hRG, hRM, hP, hG⟩ := h a w hF
  unfold Wants at hw
  unfold wpOp
  simp only [hi, hw, if_true]
  refine Or.inl ?_
  unfold Oper.wp
  rw [hr]
  exact ⟨v, rfl, hB, hRG, fun j oj _ _ _ h => hRM j _ h, by rw [hd]; exact hP, by rw [hd]; exact hG⟩
/-- an operation that leaves no value: a store -/
theorem flow3_store {i : Nat} {o : Oper} (hd : o.dst = none) (h : ∀ a w, FlowAt3 G st M B ps a0 ops o a w → Wants ops o a ∧ ∃ w', (execOp a.eval o).run P w = .ok .skip w' ∧ B w' ∧ (∀ d u, G d u w → G d u w') ∧ (∀ j oj, j ≠ i → ops[j]? = some oj → oj.dst = none → M j (a.tmps.getD (st j) undef) w → M j (a.tmps.getD (st j) undef) w') ∧ w.heap.size ≤ w'.heap.size ∧ M i (a.tmps.getD (st i) undef) w') : FlowStep3 P Q G st M B ps a0 ops i o := by
  intro a w hF hi
  obtain ⟨hw, w', hr, hB, hRG, hRM, hs, hG⟩ := h a w hF
  unfold Wants at hw
  unfold wpOp
  simp only [hi, hw, if_true]
  refine Or.inl ?_
  unfold Oper.wp
  rw [hr]
  exact ⟨undef, rfl, hB, hRG, hRM, by rw [hd]; exact ptrs_grown hF.ptrs hs, by rw [hd]; exact hG⟩
/-- a call -/
theorem flow3_call {i : Nat} {o : Oper} {d : Nat} (hd : o.dst = some d)
    (h : ∀ a w, FlowAt3 G st M B ps a0 ops o a w → Wants ops o a ∧ ∃ f args, (execOp a.eval o).run P w = .ok (.enter f args) w ∧ Calls P f args w fun e w' => ∃ v, e = .returned v ∧ B w' ∧ (∀ d u, G d u w → G d u w') ∧ (∀ j u, M j u w → M j u w') ∧ PtrsApart ps (a.put (some d) v) w' ∧ G d v w') : FlowStep3 P Q G st M B ps a0 ops i o := by
  intro a w hF hi
  obtain ⟨hw, f, args, hr, hc⟩ := h a w hF
  unfold Wants at hw
  unfold wpOp
  simp only [hi, hw, if_true]
  refine Or.inl ?_
  unfold Oper.wp
  rw [hr]
  refine Calls.mono hc fun e w' he => ?_
  obtain ⟨v, rfl, hB, hRG, hRM, hP, hG⟩ := he
  exact ⟨v, rfl, hB, hRG, fun j oj _ _ _ h => hRM j _ h, by rw [hd]; exact hP, by rw [hd]; exact hG⟩
end
end Go.Proofs.YtlkiancedgaicaaGreat

/- Regions that draw their order, whatever is in their slots: values, slices of bytes, with guards; no stores. -/
namespace Go.Proofs.YtlkiancedgaicaaGreat
open Go.RowKit Ow
namespace Fg
def AllAt (a : Act) : Nat → List Value → Prop
  | _, [] => True
  | i, v :: r => a.tmps.getD i undef = v ∧ AllAt a (i + 1) r
theorem allAt_get {a : Act} : ∀ (vs : List Value) (i k : Nat) (v : Value), AllAt a i vs → vs[k]? = some v → a.tmps.getD (i + k) undef = v := by
  intro vs
  induction vs with
  | nil => intro i k v _ h; simp at h
  | cons x r ih =>
    intro i k v h hk
    cases k with
    | zero => simp at hk; subst hk; exact h.1
    | succ k => have := ih (i + 1) k v h.2 (by simpa using hk); rwa [show i + (k + 1) = i + 1 + k by omega]
theorem frame_is {a : Act} {vs : List Value} (hs : a.tmps.size = vs.length) (h : AllAt a 0 vs) (hd : a.defers = []) : a = { tmps := vs.toArray, defers := [] } := by
  have ht : a.tmps = vs.toArray := by
    apply Array.ext_getElem?
    intro i
    by_cases hi : i < a.tmps.size
    · have h2 : i < vs.length := by omega
      have := allAt_get vs 0 i vs[i] h (List.getElem?_eq_getElem h2)
      rw [Nat.zero_add] at this
      simp [hi] at this
      rw [Array.getElem?_eq_getElem hi, this]
      simp [h2]
    · rw [Array.getElem?_eq_none (by omega), Array.getElem?_eq_none (by simp; omega)]
  cases a
  simp at ht hd
  rw [ht, hd]

/-- what a slot has, and keeps -/
structure It where
  p : Value → World → Prop
  m : ∀ v w w', p v w → w.grownBy w' none → p v w'
def It.any : It := ⟨fun _ _ => True, fun _ _ _ _ _ => trivial⟩
def It.val (x : Value) : It := ⟨fun v _ => v = x, fun _ _ _ h _ => h⟩
/-- a slice of n bytes -/
def It.byt (n : Nat) (l : List Nat) : It := ⟨fun v w => ∃ a cap B, v = .slice a n cap ∧ BytesAt w B a cap l, fun _ _ _ ⟨a, cap, B, e, h⟩ hg => ⟨a, cap, B, e, h.stay hg⟩⟩
def its (L : List It) (d : Nat) (v : Value) (w : World) : Prop := (L.getD d .any).p v w
theorem its_grown {L : List It} {w w' : World} (hg : w.grownBy w' none) (d : Nat) (v : Value) (h : its L d v w) : its L d v w' := (L.getD d .any).m _ _ _ h hg
section
variable {P : Program} {ops : Array Oper} {Q : Exit → Act → World → Prop} {L : List It} {w0 : World} {a0 : Act}
abbrev At (L : List It) (w0 : World) (a0 : Act) (ops : Array Oper) (o : Oper) (a : Act) (w : World) : Prop := FlowAt3 (its L) (fun _ => 0) (fun _ _ _ => True) (fun w => w0.grownBy w none) [] a0 ops o a w
abbrev Step (P : Program) (Q : Exit → Act → World → Prop) (L : List It) (w0 : World) (a0 : Act) (ops : Array Oper) (i : Nat) (o : Oper) : Prop := FlowStep3 P Q (its L) (fun _ => 0) (fun _ _ _ => True) (fun w => w0.grownBy w none) [] a0 ops i o
theorem ptrs_nil (a : Act) (w : World) : PtrsApart [] a w := by unfold PtrsApart; simp
theorem value {i : Nat} {o : Oper} {d : Nat} (hd : o.dst = some d)
    (h : ∀ a w, At L w0 a0 ops o a w → Wants ops o a ∧ ∃ v w', (execOp a.eval o).run P w = .ok (.value v) w' ∧ w.grownBy w' none ∧ its L d v w') : Step P Q L w0 a0 ops i o :=
  flow3_value hd fun a w hF => by
    obtain ⟨hw, v, w', hr, hg, hG⟩ := h a w hF
    exact ⟨hw, v, w', hr, gb_trans hF.base hg, fun d u => its_grown hg d u, fun _ _ h => h, ptrs_nil _ _, hG⟩
theorem call {i : Nat} {o : Oper} {d : Nat} (hd : o.dst = some d)
    (h : ∀ a w, At L w0 a0 ops o a w → Wants ops o a ∧ ∃ f args, (execOp a.eval o).run P w = .ok (.enter f args) w ∧ Calls P f args w fun e w' => ∃ v, e = .returned v ∧ w.grownBy w' none ∧ its L d v w') : Step P Q L w0 a0 ops i o :=
  flow3_call hd fun a w hF => by
    obtain ⟨hw, f, args, hr, hc⟩ := h a w hF
    refine ⟨hw, f, args, hr, hc.mono fun e w' he => ?_⟩
    obtain ⟨v, rfl, hg, hG⟩ := he
    exact ⟨v, rfl, gb_trans hF.base hg, fun d u => its_grown hg d u, fun _ _ h => h, ptrs_nil _ _, hG⟩
theorem skipped {i : Nat} {o : Oper} {d : Nat} (hd : o.dst = some d) (hG : ∀ w, its L d undef w)
    (h : ∀ a w, At L w0 a0 ops o a w → Region.wanted o (yielded ops a.tmps) = false) : Step P Q L w0 a0 ops i o :=
  flow3_skipped hd (fun s hs => by cases hs) (fun w _ => hG w) h
theorem no_store {ops : Array Oper} (h : (ops.toList.all fun o => o.dst.isSome) = true) : stOk ops (fun _ => 0) = true := by
  unfold stOk
  rw [List.all_eq_true]
  intro j hj
  have hj2 := List.mem_range.1 hj
  rw [Array.getElem?_eq_getElem hj2]
  have := List.all_eq_true.1 h ops[j] (by simp)
  simp [this]
end
theorem not_wants_undef {ops : Array Oper} {o : Oper} {a : Act} {j d : Nat} {b : Bool} (h : o.guard = some (j, b)) (hj : (ops[j]?).bind (·.dst) = some d) (hd : d < a.tmps.size) (hv : a.tmps.getD d undef = undef) : Region.wanted o (yielded ops a.tmps) = false := by
  unfold Region.wanted yielded
  rw [h]
  have : a.tmps[d]? = some undef := by
    rw [Array.getElem?_eq_getElem hd]
    simp [hd] at hv
    rw [hv]
  simp [hj, this, undef]
end Fg
end Go.Proofs.YtlkiancedgaicaaGreat

/- A region that draws its order and ends, whatever the order, in ONE operation that waits for all others (a store, a call that writes); plus the runs of single operations as laws. No program is named here. -/
namespace Go.Proofs.YtlkiancedgaicaaGreat
open Go Go.RowKit
/-! ### blocks, by ranges -/
theorem Blk.range {w : World} {B : Nat} {T : TypeId} {L : List Value} (h : Blk w B T L) (o : Nat) (cs : List Value) (hL : (L.drop o).take cs.length = cs) : w.rangeAt B o cs := fun j v hv => by
  have hj : j < cs.length := (List.getElem?_eq_some_iff.1 hv).1
  refine h.cell ?_
  rw [← hL, List.getElem?_take_of_lt hj, List.getElem?_drop] at hv
  exact hv
theorem Blk.there {w : World} {B : Nat} {T : TypeId} {L : List Value} (h : Blk w B T L) (o n : Nat) (hn : o + n ≤ L.length) : w.there B o n := fun j hj => by
  have hlt : o + j < L.length := by omega
  exact ⟨by rw [h.cell (List.getElem?_eq_getElem hlt)]; rfl, h.free _⟩
/-- cells put over others, from o on -/
def over : List Value → Nat → List Value → List Value
  | L, _, [] => L
  | L, o, v :: r => over (L.set o v) (o + 1) r
theorem over_length : ∀ (cs L : List Value) (o : Nat), (over L o cs).length = L.length
  | [], _, _ => rfl
  | v :: r, L, o => by rw [over, over_length r]; simp
theorem over_eq : ∀ (cs L : List Value) (o : Nat), o + cs.length ≤ L.length → over L o cs = L.take o ++ cs ++ L.drop (o + cs.length)
  | [], L, o, _ => by rw [over]; simp
  | v :: r, L, o, h => by
    have hl : o < L.length := by simp at h; omega
    rw [over, over_eq r (L.set o v) (o + 1) (by simp at h ⊢; omega)]
    have e1 : (L.set o v).take (o + 1) = L.take o ++ [v] := by
      rw [List.take_set, List.take_succ_eq_append_getElem hl, List.set_append_right _ _ (by simp; omega)]
      simp [Nat.min_eq_left (Nat.le_of_lt hl)]
    have e2 : (L.set o v).drop (o + 1 + r.length) = L.drop (o + (v :: r).length) := by
      rw [List.drop_set_of_lt (by omega), List.length_cons]
      congr 1
      omega
    rw [e1, e2]
    simp
theorem over_all (cs L : List Value) (h : L.length = cs.length) : over L 0 cs = cs := by
  rw [over_eq cs L 0 (by omega)]
  simp [List.drop_eq_nil_of_le (show L.length ≤ cs.length by omega)]
theorem Blk.setCells : ∀ {cs : List Value} {w : World} {B : Nat} {T : TypeId} {L : List Value} (_ : Blk w B T L) (o : Nat), Blk (w.setCells B o cs) B T (over L o cs)
  | [], _, _, _, _, h, _ => h
  | v :: r, w, B, T, L, h, o => by
    rw [World.setCells]
    exact Blk.setCells (cs := r) (h.set o v) (o + 1)
theorem Blk.setAll {cs : List Value} {w : World} {B : Nat} {T : TypeId} {L : List Value} (h : Blk w B T L) (hl : L.length = cs.length) : Blk (w.setCells B 0 cs) B T cs := by
  have := h.setCells (cs := cs) 0
  rwa [over_all cs L hl] at this
theorem Blk.setCells_other : ∀ {cs : List Value} {w : World} {B C : Nat} {T : TypeId} {L : List Value} (_ : Blk w B T L) (o : Nat) (_ : C ≠ B), Blk (w.setCells C o cs) B T L
  | [], _, _, _, _, _, h, _, _ => h
  | v :: r, w, B, C, T, L, h, o, hne => by
    rw [World.setCells]
    exact Blk.setCells_other (cs := r) (h.other (a := ⟨C, o, none⟩) hne v) (o + 1) hne
theorem gb_setCells : ∀ {cs : List Value} {a w : World} {B : Nat} (_ : a.grownBy w (some B)) (o : Nat), a.grownBy (w.setCells B o cs) (some B)
  | [], _, _, _, h, _ => h
  | v :: r, a, w, B, h, o => by
    rw [World.setCells]
    exact gb_setCells (cs := r) (gb_set h o v) (o + 1)
theorem gb_setCells_new : ∀ {cs : List Value} {a w : World} {row : Option Nat} {B : Nat} (_ : a.grownBy w row) (_ : a.heap.size ≤ B) (o : Nat), a.grownBy (w.setCells B o cs) row
  | [], _, _, _, _, h, _, _ => h
  | v :: r, a, w, row, B, h, hB, o => by
    rw [World.setCells]
    exact gb_setCells_new (cs := r) (gb_set_new h (p := ⟨B, o, none⟩) hB v) hB (o + 1)
namespace Fg
/-- one of the first k operations yields slot d -/
def isDstTo (ops : Array Oper) (k d : Nat) : Bool := (List.range k).any fun j => (ops[j]?).bind (·.dst) == some d
/-- from k on the operations go in the text's order, and wait for all that stand ahead -/
def tailOk (ops : Array Oper) (k : Nat) : Bool := (List.range ops.size).all fun t => decide (t < k) || (List.range t).all fun j => (List.range (t + 1)).any fun i => decide (j < i) && ((ops[i]?).map fun o => waitsFor o j).getD false
/-- a pointer to a block that was made since, and what it has -/
def It.fresh (T : TypeId) (V : List Value) (n0 : Nat) : It := ⟨fun v w => ∃ N, v = .pointer (some ⟨N, 0, none⟩) ∧ n0 ≤ N ∧ Blk w N T V, fun _ _ _ ⟨N, e, hn, h⟩ hg => ⟨N, e, hn, h.grown hg (by simp)⟩⟩
/-- a slice of a block that was made since -/
def It.row (T : TypeId) (V : List Value) (n n0 : Nat) : It := ⟨fun v w => ∃ N, v = .slice (some ⟨N, 0, none⟩) n n ∧ n0 ≤ N ∧ Blk w N T V, fun _ _ _ ⟨N, e, hn, h⟩ hg => ⟨N, e, hn, h.grown hg (by simp)⟩⟩
/-- it stays whatever is written in block S -/
def It.Steady (S : Nat) (it : It) : Prop := ∀ v w w', it.p v w → w.grownBy w' (some S) → it.p v w'
theorem any_steady (S : Nat) : It.any.Steady S := fun _ _ _ _ _ => trivial
theorem val_steady (S : Nat) (x : Value) : (It.val x).Steady S := fun _ _ _ h _ => h
theorem fresh_steady {S n0 : Nat} (T : TypeId) (V : List Value) (h : S < n0) : (It.fresh T V n0).Steady S := fun _ _ _ ⟨N, e, hn, hb⟩ hg => ⟨N, e, hn, hb.grown hg (fun e => by have := Option.some.inj e; omega)⟩
theorem row_steady {S n0 : Nat} (T : TypeId) (V : List Value) (n : Nat) (h : S < n0) : (It.row T V n n0).Steady S := fun _ _ _ ⟨N, e, hn, hb⟩ hg => ⟨N, e, hn, hb.grown hg (fun e => by have := Option.some.inj e; omega)⟩
theorem its_steady {S : Nat} {L : List It} (hL : ∀ it ∈ L, it.Steady S) {w w' : World} (hg : w.grownBy w' (some S)) (d : Nat) (v : Value) (h : its L d v w) : its L d v w' := by
  unfold its at *
  by_cases hd : d < L.length
  · rw [List.getD_eq_getElem?_getD, List.getElem?_eq_getElem hd] at *
    exact hL _ (List.getElem_mem hd) v w w' h hg
  · rw [List.getD_eq_getElem?_getD, List.getElem?_eq_none (by omega)] at *
    trivial
section
variable {P : Program} {ops : Array Oper} {Q : Exit → Act → World → Prop} {L : List It} {B : World → Prop} {a0 : Act} {ps : List Nat}
structure AtP (k : Nat) (ps : List Nat) (L : List It) (B : World → Prop) (a0 : Act) (ops : Array Oper) (o : Oper) (a : Act) (w : World) : Prop where
  base : B w
  size : a.tmps.size = a0.tmps.size
  ptrs : PtrsApart ps a w
  rest : ∀ d, isDstTo ops k d = false → a.tmps.getD d undef = a0.tmps.getD d undef
  dep : ∀ d, waits ops o d = true → its L d (a.tmps.getD d undef) w
def PostP (ps : List Nat) (L : List It) (B : World → Prop) (o : Oper) (a : Act) (w : World) (v : Value) (w' : World) : Prop :=
  B w' ∧ (∀ d u, its L d u w → its L d u w') ∧ PtrsApart ps (a.put o.dst v) w' ∧ ∀ d, o.dst = some d → its L d v w'
def StepP (k : Nat) (ps : List Nat) (P : Program) (Q : Exit → Act → World → Prop) (L : List It) (B : World → Prop) (a0 : Act) (ops : Array Oper) (i : Nat) (o : Oper) : Prop :=
  ∀ a w, AtP k ps L B a0 ops o a w → ops[i]? = some o → wpOp P ops Q i (fun a' w' => ∃ v, a' = a.put o.dst v ∧ PostP ps L B o a w v w') a w
theorem not_in {d : Nat} (h : (ps.all fun s => s != d) = true) : ∀ s ∈ ps, (some d : Option Tmp) ≠ some s := fun s hs e => by
  have := (List.all_eq_true.1 h) s hs
  rw [Option.some.inj e] at this
  simp at this
theorem stepValue {k i : Nat} {o : Oper} {d : Nat} (hd : o.dst = some d) (h : ∀ a w, AtP k ps L B a0 ops o a w → Wants ops o a ∧ ∃ v w', (execOp a.eval o).run P w = .ok (.value v) w' ∧ B w' ∧ (∀ d u, its L d u w → its L d u w') ∧ PtrsApart ps (a.put (some d) v) w' ∧ its L d v w') : StepP k ps P Q L B a0 ops i o := by
  intro a w hF hi
  obtain ⟨hw, v, w', hr, hB, hRG, hP, hG⟩ := h a w hF
  unfold Wants at hw
  unfold wpOp
  simp only [hi, hw, if_true]
  refine Or.inl ?_
  unfold Oper.wp
  rw [hr]
  exact ⟨v, rfl, hB, hRG, by rw [hd]; exact hP, fun d' e => by rw [hd] at e; cases e; exact hG⟩
theorem stepCall {k i : Nat} {o : Oper} {d : Nat} (hd : o.dst = some d)
    (h : ∀ a w, AtP k ps L B a0 ops o a w → Wants ops o a ∧ ∃ f args, (execOp a.eval o).run P w = .ok (.enter f args) w ∧ Calls P f args w fun e w' => ∃ v, e = .returned v ∧ B w' ∧ (∀ d u, its L d u w → its L d u w') ∧ PtrsApart ps (a.put (some d) v) w' ∧ its L d v w') : StepP k ps P Q L B a0 ops i o := by
  intro a w hF hi
  obtain ⟨hw, f, args, hr, hc⟩ := h a w hF
  unfold Wants at hw
  unfold wpOp
  simp only [hi, hw, if_true]
  refine Or.inl ?_
  unfold Oper.wp
  rw [hr]
  refine Calls.mono hc fun e w' he => ?_
  obtain ⟨v, rfl, hB, hRG, hP, hG⟩ := he
  exact ⟨v, rfl, hB, hRG, by rw [hd]; exact hP, fun d' e => by rw [hd] at e; cases e; exact hG⟩
theorem valueP {k i : Nat} {o : Oper} {d : Nat} (hBs : ∀ w w', B w → w.grownBy w' none → B w') (hd : o.dst = some d) (hps : (ps.all fun s => s != d) = true)
    (h : ∀ a w, AtP k ps L B a0 ops o a w → Wants ops o a ∧ ∃ v w', (execOp a.eval o).run P w = .ok (.value v) w' ∧ w.grownBy w' none ∧ its L d v w') : StepP k ps P Q L B a0 ops i o :=
  stepValue hd fun a w hF => by
    obtain ⟨hw, v, w', hr, hg, hG⟩ := h a w hF
    exact ⟨hw, v, w', hr, hBs _ _ hF.base hg, fun d u => its_grown hg d u, ptrs_put hF.ptrs hg.size (not_in hps), hG⟩
theorem allocP {k i : Nat} {o : Oper} {d : Nat} (hBs : ∀ w w', B w → w.grownBy w' none → B w') (hd : o.dst = some d) (hlt : d < a0.tmps.size)
    (h : ∀ a w, AtP k ps L B a0 ops o a w → Wants ops o a ∧ ∃ w', (execOp a.eval o).run P w = .ok (.value (.pointer (some ⟨w.heap.size, 0, none⟩))) w' ∧ w.grownBy w' none ∧ w.heap.size < w'.heap.size ∧ its L d (.pointer (some ⟨w.heap.size, 0, none⟩)) w') : StepP k ps P Q L B a0 ops i o :=
  stepValue hd fun a w hF => by
    obtain ⟨hw, w', hr, hg, hs, hG⟩ := h a w hF
    exact ⟨hw, _, w', hr, hBs _ _ hF.base hg, fun d u => its_grown hg d u, ptrs_new hF.ptrs hs (by rw [hF.size]; exact hlt), hG⟩
theorem callP {k i : Nat} {o : Oper} {d : Nat} (hBs : ∀ w w', B w → w.grownBy w' none → B w') (hd : o.dst = some d) (hps : (ps.all fun s => s != d) = true)
    (h : ∀ a w, AtP k ps L B a0 ops o a w → Wants ops o a ∧ ∃ f args, (execOp a.eval o).run P w = .ok (.enter f args) w ∧ Calls P f args w fun e w' => ∃ v, e = .returned v ∧ w.grownBy w' none ∧ its L d v w') : StepP k ps P Q L B a0 ops i o :=
  stepCall hd fun a w hF => by
    obtain ⟨hw, f, args, hr, hc⟩ := h a w hF
    refine ⟨hw, f, args, hr, hc.mono fun e w' he => ?_⟩
    obtain ⟨v, rfl, hg, hG⟩ := he
    exact ⟨v, rfl, hBs _ _ hF.base hg, fun d u => its_grown hg d u, ptrs_put hF.ptrs hg.size (not_in hps), hG⟩
theorem skippedP {k i : Nat} {o : Oper} {d : Nat} (hd : o.dst = some d) (hps : (ps.all fun s => s != d) = true) (hG : ∀ w, its L d undef w)
    (h : ∀ a w, AtP k ps L B a0 ops o a w → Region.wanted o (yielded ops a.tmps) = false) : StepP k ps P Q L B a0 ops i o := by
  intro a w hF hi
  have hw := h a w hF
  unfold wpOp
  simp only [hi, hw]
  exact ⟨undef, rfl, hF.base, fun _ _ h => h, ptrs_put hF.ptrs (Nat.le_refl _) (fun s hs e => not_in hps s hs (hd ▸ e)), fun d' e => by rw [hd] at e; cases e; exact hG w⟩
structure FlowS (ps : List Nat) (L : List It) (B : World → Prop) (a0 : Act) (ops : Array Oper) (k : Nat) (listed : Array Bool) (a : Act) (w : World) : Prop where
  base : B w
  size : a.tmps.size = a0.tmps.size
  defers : a.defers = a0.defers
  rest : ∀ d, isDstTo ops k d = false → a.tmps.getD d undef = a0.tmps.getD d undef
  slots : ∀ j oj d, ops[j]? = some oj → listed.getD j false = true → oj.dst = some d → its L d (a.tmps.getD d undef) w
  closed : ∀ j oj, ops[j]? = some oj → listed.getD j false = true → ∀ e ∈ oj.after, Region.binds .any e = true → listed.getD e.on false = true
  notk : ∀ j, k ≤ j → listed.getD j false = false
  ptrs : PtrsApart ps a w
def StepsS (k : Nat) (ps : List Nat) (P : Program) (Q : Exit → Act → World → Prop) (L : List It) (B : World → Prop) (a0 : Act) (ops : Array Oper) : Nat → List Oper → Prop
  | _, [] => True
  | i, o :: r => ((∃ d, o.dst = some d) ∧ StepP k ps P Q L B a0 ops i o) ∧ StepsS k ps P Q L B a0 ops (i + 1) r
theorem stepsS_get {k : Nat} : ∀ (l : List Oper) (i j : Nat) (o : Oper), StepsS k ps P Q L B a0 ops i l → l[j]? = some o → (∃ d, o.dst = some d) ∧ StepP k ps P Q L B a0 ops (i + j) o := by
  intro l
  induction l with
  | nil => intro i j o h hk; simp at hk
  | cons x r ih =>
    intro i j o h hk
    cases j with
    | zero => simp at hk; subst hk; exact h.1
    | succ j => have := ih (i + 1) j o h.2 (by simpa using hk); rwa [show i + (j + 1) = i + 1 + j by omega]
theorem inn {j : Nat} {oj : Oper} (hj : ops[j]? = some oj) : j < ops.size := by
  rcases Nat.lt_or_ge j ops.size with h' | h'
  · exact h'
  · rw [Array.getElem?_eq_none h'] at hj; cases hj
/-- one of the tail is ready: all ahead of it are done -/
theorem tail_all {k t : Nat} {listed : Array Bool} (htl : tailOk ops k = true) (ht : k ≤ t) (hr : t ∈ Region.ready .any ops listed)
    (closed : ∀ j oj, ops[j]? = some oj → listed.getD j false = true → ∀ e ∈ oj.after, Region.binds .any e = true → listed.getD e.on false = true) : ∀ j, j < t → listed.getD j false = true := by
  obtain ⟨_, o, hoi, hall⟩ := mem_ready.1 hr
  have h1 := (List.all_eq_true.1 htl) t (List.mem_range.2 (inn hoi))
  simp only [Bool.or_eq_true, decide_eq_true_eq, Nat.not_lt.2 ht, false_or] at h1
  have go : ∀ n j, j < t → t - j ≤ n → listed.getD j false = true := by
    intro n
    induction n with
    | zero => intro j hj hn; omega
    | succ n ihn =>
      intro j hj hn
      have h2 := (List.all_eq_true.1 h1) j (List.mem_range.2 hj)
      obtain ⟨m, hm, h3⟩ := List.any_eq_true.1 h2
      simp only [Bool.and_eq_true, decide_eq_true_eq] at h3
      have hm' := List.mem_range.1 hm
      obtain ⟨hjm, h3⟩ := h3
      cases hg : ops[m]? with
      | none => rw [hg] at h3; cases h3
      | some om =>
        rw [hg] at h3
        simp only [Option.map_some, Option.getD_some] at h3
        obtain ⟨q, hq, hb⟩ := Array.any_eq_true.1 h3
        simp only [Bool.and_eq_true, beq_iff_eq] at hb
        by_cases hmt : m = t
        · subst hmt
          rw [hg] at hoi
          cases hoi
          have := hall _ (Array.getElem_mem hq) hb.1
          rwa [hb.2] at this
        · have := closed m _ hg (ihn m (by omega) (by omega)) _ (Array.getElem_mem hq) hb.1
          rwa [hb.2] at this
  exact fun j hj => go _ j hj (Nat.le_refl _)
theorem wpOp_of_list {k : Nat} {o : Oper} {r : List Oper} {a : Act} {w : World} (hk : ops[k]? = some o) (h : wpList P ops Q (o :: r) a w) : wpOp P ops Q k (wpList P ops Q r) a w := by
  unfold wpOp
  simp only [hk]
  exact h
theorem tail_any {k0 : Nat} (ht : topo ops = true) (htl : tailOk ops k0 = true) : ∀ (m k fuel : Nat) (listed : Array Bool) (a : Act) (w : World), k0 ≤ k → ops.size = k + m → m ≤ fuel → listed.size = ops.size →
    (∀ j, j < k → listed.getD j false = true) → (∀ j, k ≤ j → listed.getD j false = false) → wpList P ops Q (ops.toList.drop k) a w → wpAny P .any ops Q fuel listed a w := by
  intro m
  induction m with
  | zero =>
    intro k fuel listed a w hk hs hf hls hall hnot h
    have hd : ops.toList.drop k = [] := List.drop_eq_nil_of_le (by simp; omega)
    rw [hd] at h
    have hr : Region.ready .any ops listed = [] := by
      cases hc : Region.ready .any ops listed with
      | nil => rfl
      | cons x r =>
        obtain ⟨h0, o, hoi, _⟩ := mem_ready.1 (show x ∈ Region.ready .any ops listed by rw [hc]; exact List.mem_cons_self ..)
        have hx := hall x (by have := inn hoi; omega)
        have hlt : x < listed.size := by rw [hls]; exact inn hoi
        simp [hlt] at h0 hx
        rw [h0] at hx
        cases hx
    cases fuel with
    | zero => exact ⟨hr, h⟩
    | succ f => exact ⟨fun _ => h, fun i hi => by rw [hr] at hi; cases hi⟩
  | succ m ih =>
    intro k fuel listed a w hk hs hf hls hall hnot h
    obtain ⟨f, rfl⟩ : ∃ f, fuel = f + 1 := ⟨fuel - 1, by omega⟩
    have hks : k < ops.size := by omega
    have closed : ∀ j oj, ops[j]? = some oj → listed.getD j false = true → ∀ e ∈ oj.after, Region.binds .any e = true → listed.getD e.on false = true := by
      intro j oj hj hl e he hb
      have ht1 := (List.all_eq_true.1 ht) j (List.mem_range.2 (inn hj))
      rw [hj] at ht1
      simp only [Option.map_some, Option.getD_some] at ht1
      have ht2 := (Array.all_eq_true_iff_forall_mem.1 ht1) _ he
      simp only [hb, Bool.not_true, Bool.false_or, decide_eq_true_eq] at ht2
      have hjk : j < k := by
        rcases Nat.lt_or_ge j k with h' | h'
        · exact h'
        · rw [hnot j h'] at hl; cases hl
      exact hall _ (by omega)
    refine ⟨fun hr => ?_, fun i hi => ?_⟩
    · have := all_listed ht hls hr k hks
      rw [hnot k (Nat.le_refl _)] at this
      cases this
    · obtain ⟨h0, o, hoi, _⟩ := mem_ready.1 hi
      have hik : i = k := by
        rcases Nat.lt_trichotomy i k with h' | h' | h'
        · have hx := hall i h'
          have hlt : i < listed.size := by rw [hls]; exact inn hoi
          simp [hlt] at h0 hx
          rw [h0] at hx
          cases hx
        · exact h'
        · have := tail_all htl (by omega) hi closed k h'
          rw [hnot k (Nat.le_refl _)] at this
          cases this
      subst hik
      have hd : ops.toList.drop i = o :: ops.toList.drop (i + 1) := by
        rw [List.drop_eq_getElem_cons (by simpa using hks)]
        congr 1
        rw [Array.getElem?_eq_getElem hks] at hoi
        simpa using Option.some.inj hoi
      rw [hd] at h
      refine wpOp_mono (fun a' w' h' => ?_) (wpOp_of_list hoi h)
      refine ih (i + 1) f _ a' w' (by omega) (by omega) (by omega) (by simpa using hls) (fun j hj => ?_) (fun j hj => ?_) h'
      · by_cases e : i = j
        · subst e
          have hlt : i < listed.size := by rw [hls]; exact hks
          simp [hlt]
        · rw [getD_set_ne false e]; exact hall j (by omega)
      · rw [getD_set_ne false (by omega)]; exact hnot j (by omega)
theorem flowS_any {k : Nat} (ht : topo ops = true) (ho : once (ops.extract 0 k) a0.tmps.size = true) (htl : tailOk ops k = true) (hk : k ≤ ops.size)
    (steps : StepsS k ps P Q L B a0 ops 0 (ops.toList.take k))
    (fin : ∀ a w, B w → a.tmps.size = a0.tmps.size → a.defers = a0.defers → (∀ d, isDstTo ops k d = false → a.tmps.getD d undef = a0.tmps.getD d undef) →
      (∀ d, isDstTo ops k d = true → its L d (a.tmps.getD d undef) w) → PtrsApart ps a w → wpList P ops Q (ops.toList.drop k) a w) :
    ∀ (fuel : Nat) (listed : Array Bool) (a : Act) (w : World), listed.size = ops.size → unlisted ops listed ≤ fuel → FlowS ps L B a0 ops k listed a w → wpAny P .any ops Q fuel listed a w := by
  have toTail : ∀ (fuel : Nat) (listed : Array Bool) (a : Act) (w : World), listed.size = ops.size → ops.size - k ≤ fuel → FlowS ps L B a0 ops k listed a w → (∀ j, j < k → listed.getD j false = true) → wpAny P .any ops Q fuel listed a w := by
    intro fuel listed a w hs hf hF hall
    refine tail_any ht htl (ops.size - k) k fuel listed a w (Nat.le_refl _) (by omega) hf hs hall hF.notk (fin a w hF.base hF.size hF.defers hF.rest (fun d hd => ?_) hF.ptrs)
    obtain ⟨j, hj, hb⟩ := List.any_eq_true.1 hd
    have hjk := List.mem_range.1 hj
    have hg : ops[j]? = some ops[j] := Array.getElem?_eq_getElem (by omega)
    rw [hg] at hb
    exact hF.slots j _ d hg (hall j hjk) (by simpa using hb)
  have hcount : ∀ (listed : Array Bool), (∀ j, k ≤ j → listed.getD j false = false) → listed.size = ops.size → ops.size - k ≤ unlisted ops listed := by
    intro listed hn hs
    unfold unlisted
    have hsub : (List.range' k (ops.size - k)).length ≤ ((List.range ops.size).filter fun i => !listed.getD i true).length := by
      have hp : List.Sublist (List.range' k (ops.size - k)) ((List.range ops.size).filter fun i => !listed.getD i true) := by
        have h1 : List.Sublist (List.range' k (ops.size - k)) (List.range ops.size) := by
          have e : List.range ops.size = List.range' 0 k ++ List.range' k (ops.size - k) := by
            rw [List.range_eq_range', show ops.size = k + (ops.size - k) by omega, ← List.range'_append_1]
            simp
          rw [e]
          exact List.sublist_append_right _ _
        have h2 := h1.filter fun i => !listed.getD i true
        have h3 : (List.range' k (ops.size - k)).filter (fun i => !listed.getD i true) = List.range' k (ops.size - k) := by
          rw [List.filter_eq_self]
          intro x hx
          have hx' := List.mem_range'_1.1 hx
          have := hn x hx'.1
          have hlt : x < listed.size := by omega
          simp [hlt] at this ⊢
          exact this
        rwa [h3] at h2
      exact hp.length_le
    simpa using hsub
  intro fuel
  induction fuel with
  | zero =>
    intro listed a w hs hu hF
    have hc := hcount listed hF.notk hs
    refine toTail 0 listed a w hs (by omega) hF (fun j hj => ?_)
    have hr : Region.ready .any ops listed = [] := by
      cases hc : Region.ready .any ops listed with
      | nil => rfl
      | cons x r =>
        have := unlisted_lt (ops := ops) (listed := listed) (i := x) (by rw [hc]; exact List.mem_cons_self ..)
        omega
    exact all_listed ht hs hr j (by omega)
  | succ fuel ih =>
    intro listed a w hs hu hF
    by_cases hdone : ∀ j, j < k → listed.getD j false = true
    · have hc := hcount listed hF.notk hs
      exact toTail (fuel + 1) listed a w hs (by omega) hF hdone
    refine ⟨fun hr => ?_, fun i hi => ?_⟩
    · exact absurd (fun j hj => all_listed ht hs hr j (by omega)) hdone
    obtain ⟨h0, o, hoi, hall⟩ := mem_ready.1 hi
    have hik : i < k := by
      rcases Nat.lt_or_ge i k with h' | h'
      · exact h'
      · exact absurd (fun j hj => tail_all htl h' hi hF.closed j (by omega)) hdone
    have hst := stepsS_get (ops.toList.take k) 0 i o steps (by rw [List.getElem?_take_of_lt hik, Array.getElem?_toList]; exact hoi)
    rw [Nat.zero_add] at hst
    obtain ⟨⟨d, hd⟩, hst⟩ := hst
    have hex : ∀ j, j < k → (ops.extract 0 k)[j]? = ops[j]? := fun j hj => by
      rw [Array.getElem?_extract_of_lt (by omega)]; simp
    have hat : AtP k ps L B a0 ops o a w := ⟨hF.base, hF.size, hF.ptrs, hF.rest, fun d hd => by
        obtain ⟨k, hk, hb⟩ := Array.any_eq_true.1 hd
        simp only [Bool.and_eq_true, beq_iff_eq] at hb
        have hl := hall _ (Array.getElem_mem hk) hb.1
        cases hx : ops[o.after[k].on]? with
        | none => rw [hx] at hb; cases hb.2
        | some oj => rw [hx] at hb; exact hF.slots _ oj d hx hl hb.2⟩
    refine wpOp_mono (fun a' w' h => ?_) (hst a w hat hoi)
    obtain ⟨v, rfl, hB, hRG, hPt, hG⟩ := h
    have hlt := unlisted_lt hi
    refine ih _ _ _ (by simpa using hs) (by omega) ⟨hB, ?_, ?_, ?_, ?_, ?_, ?_, hPt⟩
    · rw [← hF.size]; cases o.dst <;> simp [Act.put]
    · rw [← hF.defers]; cases o.dst <;> simp [Act.put]
    · intro d hd
      rw [← hF.rest d hd]
      have hne : o.dst ≠ some d := by
        intro e
        have : isDstTo ops k d = true := List.any_eq_true.2 ⟨i, List.mem_range.2 hik, by rw [hoi]; simpa using e⟩
        rw [hd] at this
        cases this
      exact put_getD hne
    · intro j oj d hj hl hd
      have hjk : j < k ∨ j = i := by
        by_cases e : i = j
        · exact Or.inr e.symm
        · rw [getD_set_ne false e] at hl
          rcases Nat.lt_or_ge j k with h' | h'
          · exact Or.inl h'
          · rw [hF.notk j h'] at hl; cases hl
      by_cases e : i = j
      · subst e
        rw [hoi] at hj
        cases hj
        have hd2 := once_lt ho ((hex i hik).trans hoi) hd
        rw [← hF.size] at hd2
        have hG := hG _ hd
        rw [hd]
        simpa [Act.put, hd2] using hG
      · rw [getD_set_ne false e] at hl
        have h1 := hF.slots j oj d hj hl hd
        have hv : (a.put o.dst v).tmps.getD d undef = a.tmps.getD d undef := by
          cases hod : o.dst with
          | none => rfl
          | some d' =>
            have := once_ne ho ((hex i hik).trans hoi) ((hex j (by omega)).trans hj) e hod
            rw [hd] at this
            simp [Act.put, Array.getElem?_setIfInBounds_ne (show d' ≠ d from fun e => this (by rw [e]))]
        rw [hv]
        exact hRG d _ h1
    · intro j oj hj hl e he hb
      by_cases ei : i = j
      · subst ei
        rw [hoi] at hj
        cases hj
        exact getD_set_true (hall e he hb)
      · rw [getD_set_ne false ei] at hl
        exact getD_set_true (hF.closed j oj hj hl e he hb)
    · intro j hj
      rw [getD_set_ne false (by omega)]; exact hF.notk j hj
/-- A REGION THAT DRAWS ITS ORDER, of which the operations from k on go as they stand. -/
theorem wp_region_tail {id : Nat} {w : World} (L : List It) (B : World → Prop) (k : Nat) (hB0 : B w.drew) (hm : P.follows .mixedOrders = true) (ht : topo ops = true) (ho : once (ops.extract 0 k) a0.tmps.size = true) (htl : tailOk ops k = true) (hk : k ≤ ops.size) (hps : PtrsApart ps a0 w.drew)
    (steps : StepsS k ps P Q L B a0 ops 0 (ops.toList.take k))
    (fin : ∀ a w', B w' → a.tmps.size = a0.tmps.size → a.defers = a0.defers → (∀ d, isDstTo ops k d = false → a.tmps.getD d undef = a0.tmps.getD d undef) →
      (∀ d, isDstTo ops k d = true → its L d (a.tmps.getD d undef) w') → PtrsApart ps a w' → wpList P ops Q (ops.toList.drop k) a w') : (Code.region id ops true).wp P Q a0 w :=
  wp_region_any hm (flowS_any ht ho htl hk steps fin ops.size _ a0 _ (by simp) (by unfold unlisted; exact Nat.le_trans (List.length_filter_le _ _) (by simp))
    ⟨hB0, rfl, rfl, fun _ _ => rfl, fun j oj d _ hl _ => by
      by_cases h : j < ops.size <;> simp [h] at hl, fun j oj _ hl => by
      by_cases h : j < ops.size <;> simp [h] at hl, fun j _ => by
      by_cases h : j < ops.size <;> simp [h], hps⟩)
theorem list_of_wpOp {k : Nat} {o : Oper} {r : List Oper} {a : Act} {w : World} (hk : ops[k]? = some o) (h : wpOp P ops Q k (wpList P ops Q r) a w) : wpList P ops Q (o :: r) a w := by
  unfold wpOp at h
  simp only [hk] at h
  exact h
/-- the same for a region in the text's order -/
theorem wp_region_plain {id : Nat} {w : World} (L : List It) (B : World → Prop) (k : Nat) (hB0 : B w) (ht : topo ops = true) (ho : once (ops.extract 0 k) a0.tmps.size = true) (hk : k ≤ ops.size) (hps : PtrsApart ps a0 w)
    (steps : StepsS k ps P Q L B a0 ops 0 (ops.toList.take k))
    (fin : ∀ a w', B w' → a.tmps.size = a0.tmps.size → a.defers = a0.defers → (∀ d, isDstTo ops k d = false → a.tmps.getD d undef = a0.tmps.getD d undef) →
      (∀ d, isDstTo ops k d = true → its L d (a.tmps.getD d undef) w') → PtrsApart ps a w' → wpList P ops Q (ops.toList.drop k) a w') : (Code.region id ops false).wp P Q a0 w := by
  refine wp_region_list ?_
  have go : ∀ (m i : Nat) (a : Act) (w' : World), i + m = k → B w' → a.tmps.size = a0.tmps.size → a.defers = a0.defers → (∀ d, isDstTo ops k d = false → a.tmps.getD d undef = a0.tmps.getD d undef) →
      (∀ j oj d, j < i → ops[j]? = some oj → oj.dst = some d → its L d (a.tmps.getD d undef) w') → PtrsApart ps a w' → wpList P ops Q (ops.toList.drop i) a w' := by
    intro m
    induction m with
    | zero =>
      intro i a w' hi hg hs hdf hr hsl hpt
      have hi' : i = k := by omega
      subst hi'
      refine fin a w' hg hs hdf hr (fun d hd => ?_) hpt
      obtain ⟨j, hj, hb⟩ := List.any_eq_true.1 hd
      have hjk := List.mem_range.1 hj
      have hgj : ops[j]? = some ops[j] := Array.getElem?_eq_getElem (by omega)
      rw [hgj] at hb
      exact hsl j _ d hjk hgj (by simpa using hb)
    | succ m ih =>
      intro i a w' hi hg hs hdf hr hsl hpt
      have hik : i < k := by omega
      have hil : i < ops.size := by omega
      have hoi : ops[i]? = some ops[i] := Array.getElem?_eq_getElem hil
      have hst := stepsS_get (ops.toList.take k) 0 i ops[i] steps (by rw [List.getElem?_take_of_lt hik, Array.getElem?_toList]; exact hoi)
      rw [Nat.zero_add] at hst
      obtain ⟨⟨d, hd⟩, hst⟩ := hst
      have hex : ∀ j, j < k → (ops.extract 0 k)[j]? = ops[j]? := fun j hj => by
        rw [Array.getElem?_extract_of_lt (by omega)]; simp
      have hat : AtP k ps L B a0 ops ops[i] a w' := ⟨hg, hs, hpt, hr, fun d hd => by
          obtain ⟨q, hq, hb⟩ := Array.any_eq_true.1 hd
          simp only [Bool.and_eq_true, beq_iff_eq] at hb
          have ht1 := (List.all_eq_true.1 ht) i (List.mem_range.2 hil)
          rw [hoi] at ht1
          simp only [Option.map_some, Option.getD_some] at ht1
          have ht2 := (Array.all_eq_true_iff_forall_mem.1 ht1) _ (Array.getElem_mem hq)
          simp only [hb.1, Bool.not_true, Bool.false_or, decide_eq_true_eq] at ht2
          cases hx : ops[ops[i].after[q].on]? with
          | none => rw [hx] at hb; cases hb.2
          | some oj => rw [hx] at hb; exact hsl _ oj d ht2 hx hb.2⟩
      have hdr : ops.toList.drop i = ops[i] :: ops.toList.drop (i + 1) := by
        rw [List.drop_eq_getElem_cons (by simpa using hil)]
        simp
      rw [hdr]
      refine list_of_wpOp hoi (wpOp_mono (fun a' w'' h => ?_) (hst a w' hat hoi))
      obtain ⟨v, rfl, hB, hRG, hPt, hG⟩ := h
      refine ih (i + 1) _ _ (by omega) hB ?_ ?_ ?_ ?_ hPt
      · rw [← hs]; cases ops[i].dst <;> simp [Act.put]
      · rw [← hdf]; cases ops[i].dst <;> simp [Act.put]
      · intro d hd
        rw [← hr d hd]
        have hne : ops[i].dst ≠ some d := by
          intro e
          have : isDstTo ops k d = true := List.any_eq_true.2 ⟨i, List.mem_range.2 hik, by rw [hoi]; simpa using e⟩
          rw [hd] at this
          cases this
        exact put_getD hne
      · intro j oj d' hj hgj hd'
        by_cases e : i = j
        · subst e
          rw [hoi] at hgj
          cases hgj
          have hd2 := once_lt ho ((hex i hik).trans hoi) hd'
          rw [← hs] at hd2
          have hG := hG _ hd'
          rw [hd']
          simpa [Act.put, hd2] using hG
        · have h1 := hsl j oj d' (by omega) hgj hd'
          have hv : (a.put ops[i].dst v).tmps.getD d' undef = a.tmps.getD d' undef := by
            cases hod : ops[i].dst with
            | none => rfl
            | some d'' =>
              have := once_ne ho ((hex i hik).trans hoi) ((hex j (by omega)).trans hgj) e hod
              rw [hd'] at this
              simp [Act.put, Array.getElem?_setIfInBounds_ne (show d'' ≠ d' from fun e => this (by rw [e]))]
          rw [hv]
          exact hRG d' _ h1
  have := go k 0 a0 w (by omega) hB0 rfl rfl (fun _ _ => rfl) (fun j _ _ hj => by omega) hps
  simpa using this
theorem ptrs_undef {a : Act} {w : World} (h : (ps.all fun s => match a.tmps.getD s undef with | .pointer _ => false | _ => true) = true) : PtrsApart ps a w := fun s hs C e => by
  have := (List.all_eq_true.1 h) s hs
  rw [e] at this
  cases this
/-- values of which those that are pointers go to blocks that are there, all apart -/
def ApartV (l : List Value) (w : World) : Prop := ∀ (i C : Nat), l[i]? = some (.pointer (some ⟨C, 0, none⟩)) → C < w.heap.size ∧ ∀ (j : Nat), j ≠ i → l[j]? ≠ some (.pointer (some ⟨C, 0, none⟩))
theorem ptrs_of {a : Act} {w : World} {l : List Value} (hl : l = ps.map fun s => a.tmps.getD s undef) (h : ApartV l w) : PtrsApart ps a w := by
  subst hl
  intro s hs C e
  obtain ⟨i, hi, rfl⟩ := List.mem_iff_getElem.1 hs
  have hg : (ps.map fun s => a.tmps.getD s undef)[i]? = some (.pointer (some ⟨C, 0, none⟩)) := by
    rw [List.getElem?_map, List.getElem?_eq_getElem hi, Option.map_some, e]
  refine ⟨(h i C hg).1, fun t ht hne e2 => ?_⟩
  obtain ⟨j, hj, rfl⟩ := List.mem_iff_getElem.1 ht
  refine (h i C hg).2 j (fun e3 => hne (by subst e3; rfl)) ?_
  rw [List.getElem?_map, List.getElem?_eq_getElem hj, Option.map_some, e2]
theorem apart_undef (l : List Value) (w : World) (h : (l.all fun v => match v with | .pointer _ => false | _ => true) = true) : ApartV l w := fun i C e => by
  have := (List.all_eq_true.1 h) _ (List.mem_of_getElem? e)
  cases this
theorem apart_one {N : Nat} {w : World} (h : N < w.heap.size) : ApartV [.pointer (some ⟨N, 0, none⟩)] w := fun i C e => by
  match i, e with
  | 0, e =>
    cases e
    refine ⟨h, fun j hj => ?_⟩
    match j, hj with
    | j + 1, _ => simp
theorem apart_three {A B C : Nat} {w : World} (a : A < w.heap.size) (b : B < w.heap.size) (c : C < w.heap.size) (ab : A ≠ B) (ac : A ≠ C) (bc : B ≠ C) : ApartV [.pointer (some ⟨A, 0, none⟩), .pointer (some ⟨B, 0, none⟩), .pointer (some ⟨C, 0, none⟩)] w := fun i X e => by
  match i, e with
  | 0, e =>
    cases e
    refine ⟨a, fun j hj => ?_⟩
    match j, hj with
    | 1, _ => simp <;> omega
    | 2, _ => simp <;> omega
    | j + 3, _ => simp
  | 1, e =>
    cases e
    refine ⟨b, fun j hj => ?_⟩
    match j, hj with
    | 0, _ => simp <;> omega
    | 2, _ => simp <;> omega
    | j + 3, _ => simp
  | 2, e =>
    cases e
    refine ⟨c, fun j hj => ?_⟩
    match j, hj with
    | 0, _ => simp <;> omega
    | 1, _ => simp <;> omega
    | j + 3, _ => simp
theorem ApartV.mono {l : List Value} {w w' : World} (h : ApartV l w) (hs : w.heap.size ≤ w'.heap.size) : ApartV l w' := fun i C e => ⟨Nat.lt_of_lt_of_le (h i C e).1 hs, (h i C e).2⟩
theorem apart_drew {l : List Value} {w : World} (h : ApartV l w) : ApartV l w.drew := h
/-- the next operation of a list -/
theorem wpl_value {o : Oper} {r : List Oper} {a : Act} {w w' : World} {v : Value} (hg : o.guard = none) (hr : (execOp a.eval o).run P w = .ok (.value v) w') (h : wpList P ops Q r (a.put o.dst v) w') : wpList P ops Q (o :: r) a w := by
  refine wpList_plain hg fun K hK => ?_
  unfold Oper.wp
  rw [hr]
  exact hK _ _ h
theorem wpl_skip {o : Oper} {r : List Oper} {a : Act} {w w' : World} (hg : o.guard = none) (hd : o.dst = none) (hr : (execOp a.eval o).run P w = .ok .skip w') (h : wpList P ops Q r a w') : wpList P ops Q (o :: r) a w := by
  refine wpList_plain hg fun K hK => ?_
  unfold Oper.wp
  rw [hr]
  have e : a.put o.dst undef = a := by rw [hd]; rfl
  show K (a.put o.dst undef) w'
  rw [e]
  exact hK _ _ h
theorem wpl_call {o : Oper} {r : List Oper} {a : Act} {w : World} {f : FuncId} {args : Array Value} (hg : o.guard = none) (hr : (execOp a.eval o).run P w = .ok (.enter f args) w)
    (hc : Calls P f args w fun e w' => ∃ v, e = .returned v ∧ wpList P ops Q r (a.put o.dst v) w') : wpList P ops Q (o :: r) a w := by
  refine wpList_plain hg fun K hK => ?_
  unfold Oper.wp
  rw [hr]
  refine Calls.mono hc fun e w' he => ?_
  obtain ⟨v, rfl, h⟩ := he
  exact hK _ _ h
/-! ### the run of one operation -/
theorem run_load {ρ : Operand → Value} {o : Oper} {w : World} {T : TypeId} {x : Operand} {b off : Nat} {cs : List Value} {d : TypeDesc} (ho : o.op = .load T x) (hx : ρ x = .pointer (some ⟨b, off, none⟩)) (hc : w.rangeAt b off cs)
    (hu : P.underlying T = some d) (hd : d.isRow = true) (hi : (P.info? T).map (·.size) = some cs.length) : (execOp ρ o).run P w = .ok (.value (.agg cs.toArray)) w := by
  unfold execOp
  simp only [ho, hx, Instr.loadAt, Instr.sureAddr, Sem.run_bind, Sem.run_pure, Result.andThen_ok, run_loadVar_mid w b off T cs d hc hu hd hi]
theorem run_store {ρ : Operand → Value} {o : Oper} {w : World} {T : TypeId} {x y : Operand} {b off : Nat} {cs : List Value} (ho : o.op = .store T x y) (hx : ρ x = .pointer (some ⟨b, off, none⟩)) (hy : ρ y = .agg cs.toArray)
    (ht : w.there b off cs.length) (hi : (P.info? T).map (·.size) = some cs.length) (h1 : cs.all (·.oneCell') = true) : (execOp ρ o).run P w = .ok .skip (w.setCells b off cs) := by
  unfold execOp
  simp only [ho, hx, hy, Instr.storeAt, Instr.sureAddr, Sem.run_bind, Sem.run_pure, Result.andThen_ok, run_storeVar_mid w b off T cs.toArray (by simpa using ht) (by simpa using hi) (by simpa using h1)]
theorem run_move {ρ : Operand → Value} {o : Oper} {w : World} {x : Operand} {v : Value} (ho : o.op = .move x) (hx : ρ x = v) : (execOp ρ o).run P w = .ok (.value v) w := by
  unfold execOp
  simp only [ho, hx, Sem.run_pure]
theorem run_assign {ρ : Operand → Value} {o : Oper} {w : World} {x : Operand} {v : Value} (ho : o.op = .assign x) (hx : ρ x = v) : (execOp ρ o).run P w = .ok (.value v) w := by
  unfold execOp
  simp only [ho, hx, Sem.run_pure]
theorem run_nilCheck {ρ : Operand → Value} {o : Oper} {w : World} {x : Operand} {p : Addr} (ho : o.op = .nilCheck x) (hx : ρ x = .pointer (some p)) : (execOp ρ o).run P w = .ok (.value (.pointer (some p))) w := by
  unfold execOp
  simp only [ho, hx, Sem.run_pure]
theorem run_fieldAddr {ρ : Operand → Value} {o : Oper} {w : World} {t : TypeId} {f : Nat} {x : Operand} {u v : Value} (ho : o.op = .fieldAddr t x f) (hx : ρ x = u) (hr : (Instr.fieldAt t u f).run P w = .ok v w) : (execOp ρ o).run P w = .ok (.value v) w := by
  unfold execOp
  simp only [ho, hx, Sem.run_bind, Sem.run_pure, Result.andThen_ok, hr]
theorem run_field {ρ : Operand → Value} {o : Oper} {w : World} {t : TypeId} {f : Nat} {x : Operand} {u v : Value} (ho : o.op = .field t x f) (hx : ρ x = u) (hr : (Instr.field t u f).run P w = .ok v w) : (execOp ρ o).run P w = .ok (.value v) w := by
  unfold execOp
  simp only [ho, hx, Sem.run_bind, Sem.run_pure, Result.andThen_ok, hr]
theorem run_build {ρ : Operand → Value} {o : Oper} {w : World} {t : TypeId} {parts : Array (Nat × Operand)} {vs : Array (Nat × Value)} {v : Value} (ho : o.op = .build t parts) (hx : (parts.map fun (i, x) => (i, ρ x)) = vs) (hr : (Instr.build t vs).run P w = .ok v w) : (execOp ρ o).run P w = .ok (.value v) w := by
  unfold execOp
  simp only [ho, hx, Sem.run_bind, Sem.run_pure, Result.andThen_ok, hr]
theorem run_buildSlice {ρ : Operand → Value} {o : Oper} {w w' : World} {t : TypeId} {len : Nat} {parts : Array (Nat × Operand)} {vs : Array (Nat × Value)} {v : Value} (ho : o.op = .buildSlice t len parts) (hx : (parts.map fun (i, x) => (i, ρ x)) = vs) (hr : (Instr.buildSlice t len vs).run P w = .ok v w') : (execOp ρ o).run P w = .ok (.value v) w' := by
  unfold execOp
  simp only [ho, hx, Sem.run_bind, Sem.run_pure, Result.andThen_ok, hr]
theorem run_extract {ρ : Operand → Value} {o : Oper} {w : World} {i : Nat} {x : Operand} {u v : Value} (ho : o.op = .extract x i) (hx : ρ x = u) (hr : (Instr.extract u i).run P w = .ok v w) : (execOp ρ o).run P w = .ok (.value v) w := by
  unfold execOp
  simp only [ho, hx, Sem.run_bind, Sem.run_pure, Result.andThen_ok, hr]
theorem run_enter {w : World} {f : FuncId} {fn : Func} {vs : Array Value} (hf : P.funcs[f]? = some fn) (hn : (fn.name == "runtime.NumGoroutine") = false) (hb : fn.body.isNone = false) : (callFunc f vs).run P w = .ok (.enter f vs) w := by
  have hn' : ¬ fn.name = "runtime.NumGoroutine" := by simpa using hn
  have hb' : ¬ fn.body = none := by rintro e; rw [e] at hb; cases hb
  simp [callFunc, hf, hn', hb']
theorem run_call {ρ : Operand → Value} {o : Oper} {w : World} {x : Operand} {f : FuncId} {args : Array Operand} {tys : Array TypeId} {vs : Array Value} (ho : o.op = .call { callee := .value x, args := args, argTypes := tys }) (hf : ρ x = .func (.func f) #[] #[]) (hv : args.map ρ = vs)
    (hc : (callFunc f vs).run P w = .ok (.enter f vs) w) : (execOp ρ o).run P w = .ok (.enter f vs) w := by
  unfold execOp
  simp only [ho]
  unfold resolve
  simp only [hv, hf]
  go_simp
end
/-! ### one store among the operations that draw -/
/-- a pointer to a block of n cells that was made since -/
def It.room (T : TypeId) (n n0 : Nat) : It := ⟨fun v w => ∃ N, v = .pointer (some ⟨N, 0, none⟩) ∧ n0 ≤ N ∧ ∃ V : List Value, V.length = n ∧ Blk w N T V, fun _ _ _ ⟨N, e, hn, V, hl, h⟩ hg => ⟨N, e, hn, V, hl, h.grown hg (by simp)⟩⟩
/-- it stays when a row is put over another block's, or its own, cells -/
def It.Over (it : It) : Prop := ∀ v w (N : Nat) (T : TypeId) (V cs : List Value), Blk w N T V → V.length = cs.length → it.p v w → it.p v (w.setCells N 0 cs)
def Stored1 (T : TypeId) (cs : List Value) (_ : Nat) (u : Value) (w : World) : Prop := ∃ N, u = .pointer (some ⟨N, 0, none⟩) ∧ Blk w N T cs
section
variable {P : Program} {ops : Array Oper} {Q : Exit → Act → World → Prop} {L : List It} {W : World} {a0 : Act} {ps : List Nat} {p : Nat} {T : TypeId} {cs : List Value}
abbrev AtM (W : World) (ps : List Nat) (p : Nat) (T : TypeId) (cs : List Value) (L : List It) (a0 : Act) (ops : Array Oper) (o : Oper) (a : Act) (w : World) : Prop := FlowAt3 (its L) (fun _ => p) (Stored1 T cs) (fun w => W.grownBy w none) ps a0 ops o a w
abbrev StepM (W : World) (ps : List Nat) (p : Nat) (T : TypeId) (cs : List Value) (P : Program) (Q : Exit → Act → World → Prop) (L : List It) (a0 : Act) (ops : Array Oper) (i : Nat) (o : Oper) : Prop := FlowStep3 P Q (its L) (fun _ => p) (Stored1 T cs) (fun w => W.grownBy w none) ps a0 ops i o
theorem stored1_grown {w w' : World} (hg : w.grownBy w' none) (j : Nat) (u : Value) (h : Stored1 T cs j u w) : Stored1 T cs j u w' := by
  obtain ⟨N, e, hb⟩ := h
  exact ⟨N, e, hb.grown hg (by simp)⟩
theorem valueM {i : Nat} {o : Oper} {d : Nat} (hd : o.dst = some d) (hps : (ps.all fun s => s != d) = true)
    (h : ∀ a w, AtM W ps p T cs L a0 ops o a w → Wants ops o a ∧ ∃ v w', (execOp a.eval o).run P w = .ok (.value v) w' ∧ w.grownBy w' none ∧ its L d v w') : StepM W ps p T cs P Q L a0 ops i o :=
  flow3_value hd fun a w hF => by
    obtain ⟨hw, v, w', hr, hg, hG⟩ := h a w hF
    exact ⟨hw, v, w', hr, gb_trans hF.base hg, fun d u => its_grown hg d u, fun j u => stored1_grown hg j u, ptrs_put hF.ptrs hg.size (not_in hps), hG⟩
theorem allocM {i : Nat} {o : Oper} {d : Nat} (hd : o.dst = some d) (hlt : d < a0.tmps.size)
    (h : ∀ a w, AtM W ps p T cs L a0 ops o a w → Wants ops o a ∧ ∃ w', (execOp a.eval o).run P w = .ok (.value (.pointer (some ⟨w.heap.size, 0, none⟩))) w' ∧ w.grownBy w' none ∧ w.heap.size < w'.heap.size ∧ its L d (.pointer (some ⟨w.heap.size, 0, none⟩)) w') : StepM W ps p T cs P Q L a0 ops i o :=
  flow3_value hd fun a w hF => by
    obtain ⟨hw, w', hr, hg, hs, hG⟩ := h a w hF
    exact ⟨hw, _, w', hr, gb_trans hF.base hg, fun d u => its_grown hg d u, fun j u => stored1_grown hg j u, ptrs_new hF.ptrs hs (by rw [hF.size]; exact hlt), hG⟩
theorem callM {i : Nat} {o : Oper} {d : Nat} (hd : o.dst = some d) (hps : (ps.all fun s => s != d) = true)
    (h : ∀ a w, AtM W ps p T cs L a0 ops o a w → Wants ops o a ∧ ∃ f args, (execOp a.eval o).run P w = .ok (.enter f args) w ∧ Calls P f args w fun e w' => ∃ v, e = .returned v ∧ w.grownBy w' none ∧ its L d v w') : StepM W ps p T cs P Q L a0 ops i o :=
  flow3_call hd fun a w hF => by
    obtain ⟨hw, f, args, hr, hc⟩ := h a w hF
    refine ⟨hw, f, args, hr, hc.mono fun e w' he => ?_⟩
    obtain ⟨v, rfl, hg, hG⟩ := he
    exact ⟨v, rfl, gb_trans hF.base hg, fun d u => its_grown hg d u, fun j u => stored1_grown hg j u, ptrs_put hF.ptrs hg.size (not_in hps), hG⟩
theorem skippedM {i : Nat} {o : Oper} {d : Nat} (hd : o.dst = some d) (hps : (ps.all fun s => s != d) = true) (hG : ∀ w, its L d undef w)
    (h : ∀ a w, AtM W ps p T cs L a0 ops o a w → Region.wanted o (yielded ops a.tmps) = false) : StepM W ps p T cs P Q L a0 ops i o :=
  flow3_skipped hd (fun s hs e => not_in hps s hs (by rw [e])) (fun w _ => hG w) h
theorem any_over : It.any.Over := fun _ _ _ _ _ _ _ _ _ => trivial
theorem val_over (x : Value) : (It.val x).Over := fun _ _ _ _ _ _ _ _ h => h
theorem room_over (T : TypeId) (n n0 : Nat) : (It.room T n n0).Over := fun v w N T' V cs hb hl ⟨N', e, hn, V', hl', hb'⟩ => by
  by_cases he : N = N'
  · subst he
    unfold Blk at hb hb'
    rw [hb] at hb'
    cases hb'
    exact ⟨N, e, hn, over V 0 cs, by rw [over_length]; exact hl', Blk.setCells hb 0⟩
  · exact ⟨N', e, hn, V', hl', hb'.setCells_other 0 he⟩
theorem its_over {L : List It} (hL : ∀ it ∈ L, it.Over) {w : World} {N : Nat} {T : TypeId} {V cs : List Value} (hb : Blk w N T V) (hl : V.length = cs.length) (d : Nat) (v : Value) (h : its L d v w) : its L d v (w.setCells N 0 cs) := by
  unfold its at *
  by_cases hd : d < L.length
  · rw [List.getD_eq_getElem?_getD, List.getElem?_eq_getElem hd] at *
    exact hL _ (List.getElem_mem hd) v w N T V cs hb hl h
  · rw [List.getD_eq_getElem?_getD, List.getElem?_eq_none (by omega)] at *
    trivial
theorem storeM {i : Nat} {o : Oper} {x y : Operand} (hd : o.dst = none) (ho : o.op = .store T x y) (hL : ∀ it ∈ L, it.Over) (hi : (P.info? T).map (·.size) = some cs.length) (h1 : cs.all (·.oneCell') = true)
    (h : ∀ a w, AtM W ps p T cs L a0 ops o a w → Wants ops o a ∧ ∃ N, a.tmps.getD p undef = .pointer (some ⟨N, 0, none⟩) ∧ a.eval x = .pointer (some ⟨N, 0, none⟩) ∧ a.eval y = .agg cs.toArray ∧ W.heap.size ≤ N ∧ ∃ V : List Value, V.length = cs.length ∧ Blk w N T V) : StepM W ps p T cs P Q L a0 ops i o :=
  flow3_store hd fun a w hF => by
    obtain ⟨hw, N, hp, hx, hy, hn, V, hl, hb⟩ := h a w hF
    refine ⟨hw, _, run_store ho hx hy (hb.there 0 cs.length (by omega)) hi h1, gb_setCells_new hF.base hn 0, fun d u => its_over hL hb hl d u, fun j oj _ _ _ hM => ?_, (gb_setCells (cs := cs) (gb_refl w (some N)) 0).size, ⟨N, hp, hb.setAll hl⟩⟩
    exact ⟨N, hp, hb.setAll hl⟩
end
end Fg
end Go.Proofs.YtlkiancedgaicaaGreat

/- slices.Grow, slices.Concat, wire.Join: rows of bytes, one behind the other, in new memory. -/
namespace Go.Proofs.YtlkiancedgaicaaGreat
open Go.RowKit Ow

set_option maxRecDepth 100000 in
set_option maxHeartbeats 800000 in
theorem grow_any (n : Nat) (w : World) (hn : n ≤ 1000000) :
    Calls Tryz.prog 92 #[.slice none 0 0, .int .i64 n] w fun e w' => ∃ v, e = .returned v ∧ w.grownBy w' none ∧ w'.ownsRow w.heap.size 5 1 v 0 [] := by
  have i0 : ¬ (n : Int) < 0 := by omega
  by_cases hz : n = 0
  · subst hz
    go_enter Tryz.func92, Tryz.ntmps92
    go_wp2
    go_ret
    exact ⟨_, rfl, gb_refl _ _, World.ownsRow_nil w _ 5 1⟩
  · have i1 : (0 : Int) < (n : Int) := by omega
    obtain ⟨a0, hs0, _⟩ := slice_to none 0 0 0 (Nat.le_refl _)
    obtain ⟨v2, w2, hr2, ho2, hg2⟩ := append_zeros w w.heap.size 0 n (.slice none 0 0) [] (World.ownsRow_nil w _ 5 1) (by omega) (by omega) (Nat.le_refl _)
    rw [Nat.zero_add, List.nil_append] at ho2
    obtain ⟨g, c, rfl, hbg, hnc, hcm, hlt⟩ := own_some ho2 (by omega)
    obtain ⟨a1, hs1, ha1⟩ := slice_to (some ⟨g, 0, none⟩) n c 0 (Nat.zero_le _)
    rw [ha1 g 0 rfl] at hs1
    have ho3 := own_take ho2 (Nat.zero_le n)
    rw [List.take_zero] at ho3
    have H := Lib.hid (And.intro hg2 ho3); clear ho2 hg2 ho3
    have HR := Lib.hid hr2; clear hr2
    have HS := Lib.hid (And.intro hs0 hs1); clear hs0 hs1
    go_enter Tryz.func92, Tryz.ntmps92
    go_wp2_with (at_builtin; refine Lib.wpList_append_run w rfl (.tmp 20) (.tmp 21) 23 3 rfl (.slice none 0 0) (.int .i64 (n : Int)) rfl rfl _ _ HR.out ?_)
    go_ret
    exact ⟨_, rfl, H.out.1, H.out.2⟩

/-- a row of one's own, from an elder world -/
theorem own_down {w : World} {base b' e n : Nat} {v : Value} {xs : List Value} (h : w.ownsRow base e 1 v n xs) (hb : b' ≤ base) : w.ownsRow b' e 1 v n xs := by
  refine ⟨h.1, ?_⟩
  rcases h.2 with h0 | ⟨g', c', cur, e1, hg, rest⟩
  · exact Or.inl h0
  · exact Or.inr ⟨g', c', cur, e1, Nat.le_trans hb hg, rest⟩
/-- what is written to a row of one's own is new, seen from an elder world -/
theorem own_gb {w a b : World} {e n : Nat} {v : Value} {xs : List Value} (hg : w.grownBy a none) (ho : a.ownsRow w.heap.size e 1 v n xs) (h : a.grownBy b v.ownBlock) : w.grownBy b none := by
  rcases ho.2 with ⟨rfl, _⟩ | ⟨g', c', cur, rfl, hb, _⟩
  · exact gb_trans hg h
  · exact gb_then hg h hb
theorem flat_take (L : List (List Nat)) (k : Nat) (hk : k < L.length) : (L.take (k + 1)).flatten = (L.take k).flatten ++ L.getD k [] := by
  rw [List.take_succ_eq_append_getElem hk, List.flatten_append, List.getD_eq_getElem?_getD, List.getElem?_eq_getElem hk]
  simp
theorem flat_le (L : List (List Nat)) (k : Nat) : (L.take k).flatten.length ≤ L.flatten.length := by
  conv => rhs; rw [← List.take_append_drop k L]
  rw [List.flatten_append, List.length_append]; omega
set_option maxRecDepth 100000 in
set_option maxHeartbeats 1600000 in
theorem concat_any (m cap B : Nat) (L : List (List Nat)) (a : Option Addr) (w : World) (hm : L.length = m) (hR : RowsAt w B a L) (hm2 : m < 9223372036854775808) (hlen : L.flatten.length ≤ 1000000) :
    Calls Tryz.prog 55 #[.slice a m cap] w fun e w' => ∃ v, e = .returned v ∧ w.grownBy w' none ∧ w'.ownsRow w.heap.size 5 1 v L.flatten.length (L.flatten.map u8N) := by
  have HR := Lib.hid hR; clear hR
  have HL := Lib.hid hlen; clear hlen
  have HM := Lib.hid hm; clear hm
  go_enter Tryz.func55, Tryz.ntmps55
  go_wp2_with (fail)
  go_loopw [3, 11] (fun v i wr => ∃ k j : Nat, k ≤ m ∧ i = .int .i64 k ∧ v = .int .i64 ((L.take k).flatten.length : Nat) ∧ wr = w.drewN j) (fun _ i _ => m - (intOf i).toNat)
  case atStart => exact ⟨0, 0, by omega, rfl, rfl, rfl⟩
  case round =>
    obtain ⟨k, j, hk, rfl, rfl, rfl⟩ := hrel
    by_cases hlt : k < m
    · obtain ⟨pb, po, ai, ci, rfl, hpb, k1, hB⟩ := HR.out.at (i := k) (by rw [HM.out]; exact hlt)
      have i0 : (k : Int) < (m : Int) := by omega
      have hN := flat_take L k (by rw [HM.out]; exact hlt)
      have hN' : (L.take (k + 1)).flatten.length = (L.take k).flatten.length + (L.getD k []).length := by rw [hN, List.length_append]
      have hle := flat_le L (k + 1)
      have h6 := HL.out
      have i1 : ¬ (((L.take k).flatten.length : Nat) : Int) + (((L.getD k []).length : Nat) : Int) < 0 := by omega
      have i2 : (((L.take k).flatten.length : Nat) : Int) + (((L.getD k []).length : Nat) : Int) ≤ 1000000 := by omega
      clear hN hle h6 hB
      have HN := Lib.hid hN'; clear hN'
      generalize (L.take k).flatten.length = s at *
      generalize (L.getD k []).length = t at *
      go_wp2_with fail
      exact ⟨⟨k + 1, j, by omega, rfl, by rw [HN.out]; rfl, rfl⟩, by show m - ((k : Int) + 1).toNat < m - (k : Int).toNat; omega⟩
    · obtain rfl : k = m := by omega
      clear hlt
      have e0 : L.take k = L := by rw [← HM.out]; exact List.take_length
      rw [e0]
      obtain ⟨s, hs⟩ : ∃ s, s = L.flatten.length := ⟨_, rfl⟩
      rw [← hs] at HL ⊢
      have HS := Lib.hid (And.intro hs e0); clear hs e0
      have gw : w.grownBy (w.drewN j) none := gb_drewN (gb_refl _ _) j
      go_wp2_with (fail)
      refine (grow_any s (w.drewN j) HL.out).mono ?_
      rintro e w1 ⟨v, rfl, hg, ho⟩
      have HG := Lib.hid (And.intro (gb_trans gw hg) (own_down ho gw.size)); clear hg ho gw
      go_wp2_with (fail)
      go_loopw [6, 27] (fun v i wr => ∃ (q : Nat) (u : Value), u = v ∧ q ≤ k ∧ i = .int .i64 q ∧ w.grownBy wr none ∧ wr.ownsRow w.heap.size 5 1 u (L.take q).flatten.length ((L.take q).flatten.map u8N)) (fun _ i _ => k - (intOf i).toNat)
      case atStart => exact ⟨0, _, rfl, by omega, rfl, HG.out⟩
      case round =>
        obtain ⟨q, vr, rfl, hq, rfl, hg, ho⟩ := hrel
        by_cases hlt : q < k
        · obtain ⟨pb, po, ai, ci, rfl, hpb, k1, hB⟩ := HR.out.at (i := q) (by rw [HM.out]; exact hlt)
          have i0 : (q : Int) < (k : Int) := by omega
          have hN := flat_take L q (by rw [HM.out]; exact hlt)
          have hle := flat_le L (q + 1)
          have h6 := HL.out
          have hB2 := hB.stay hg
          have k2 : wr.cell? ⟨pb, po + q, none⟩ = some (.slice ai (L.getD q []).length ci) := by
            rw [gb_cell hg (p := ⟨pb, po + q, none⟩) (Nat.lt_of_lt_of_le hpb HR.out.lim) (by simp)]; exact k1
          obtain ⟨v2, w2, hr2, ho2, hg2⟩ := append_bytes wr w.heap.size _ B ci _ vr _ ai (L.getD q []) ho rfl hB2 (by have e := HS.out.1; rw [hN, List.length_append, ← e] at hle; omega) hg.size
          have HN := Lib.hid (And.intro hN (And.intro ho2 (own_gb hg ho hg2))); clear hN hle h6 hB hB2 k1 ho2 hg2
          have hap := hr2; clear hr2
          obtain ⟨t, ht⟩ : ∃ t, t = (L.getD q []).length := ⟨_, rfl⟩
          rw [← ht] at hap k2
          have HT := Lib.hid ht; clear ht
          go_wp2_with (at_builtin; refine wpList_append_run rfl (.tmp 31) (.tmp 32) 23 rfl rfl _ _ rfl rfl _ _ hap ?_)
          exact ⟨⟨q + 1, _, rfl, by omega, rfl, HN.out.2.2, by rw [HN.out.1, List.length_append, List.map_append]; exact HN.out.2.1⟩, by show k - ((q : Int) + 1).toNat < k - (q : Int).toNat; omega⟩
        · obtain rfl : q = k := by omega
          clear hlt
          have HI := Lib.hid (And.intro hg ho); clear hg ho
          go_wp2_with (fail)
          go_ret
          obtain ⟨hg, ho⟩ := HI.out
          rw [HS.out.2] at ho
          exact ⟨_, rfl, hg, ho⟩
set_option maxRecDepth 100000 in
set_option maxHeartbeats 400000 in
theorem join_any (m cap B : Nat) (L : List (List Nat)) (a : Option Addr) (w : World) (hm : L.length = m) (hR : RowsAt w B a L) (hm2 : m < 9223372036854775808) (hlen : L.flatten.length ≤ 1000000) :
    Calls Tryz.prog 14 #[.slice a m cap] w fun e w' => ∃ v, e = .returned v ∧ w.grownBy w' none ∧ w'.ownsRow w.heap.size 5 1 v L.flatten.length (L.flatten.map u8N) := by
  have HC := Lib.hid (concat_any m cap B L a w hm hR hm2 hlen); clear hm hR hm2 hlen
  go_enter Tryz.func14, Tryz.ntmps14
  go_wp2_with (fail)
  refine HC.out.mono ?_
  rintro e w' ⟨v, rfl, hr⟩
  have H := Lib.hid hr; clear hr
  go_wp2
  go_ret
  exact ⟨v, rfl, H.out⟩
end Go.Proofs.YtlkiancedgaicaaGreat

/- wire's Number and Bytes: numbers, and bytes with their number ahead. -/
namespace Go.Proofs.YtlkiancedgaicaaGreat
open Go.RowKit Ow Wi

/-- a row of one's own as a slice of bytes -/
theorem own_slice {w : World} {base n : Nat} {v : Value} {l : List Nat} (h : w.ownsRow base 5 1 v n (l.map u8N)) (hb : ∀ i, l.getD i 0 < 256) :
    ∃ a c, v = .slice a n c ∧ l.length = n ∧ BytesAt w w.heap.size a c l ∧ (∀ pb po, a = some ⟨pb, po, none⟩ → base ≤ pb ∧ pb < w.heap.size) := by
  have hn : l.length = n := by have := h.1; rw [List.length_map] at this; omega
  by_cases h0 : 0 < n
  · obtain ⟨g, c, rfl, hbg, hnc, hB⟩ := own_bytesAt h hn h0 hb
    exact ⟨_, c, rfl, hn, hB, fun pb po e => by cases e; exact ⟨hbg, (own_lt h).1⟩⟩
  · obtain rfl : n = 0 := by omega
    obtain rfl : l = [] := List.eq_nil_of_length_eq_zero hn
    have h' := h
    rcases h'.2 with ⟨rfl, _⟩ | ⟨g, c, cur, rfl, hbg, _, _, hcm, _⟩
    · exact ⟨none, 0, rfl, rfl, ⟨Nat.le_refl _, Nat.le_refl _, by decide, by simp, Or.inl rfl⟩, fun pb po e => by cases e⟩
    · exact ⟨_, c, rfl, rfl, ⟨Nat.le_refl _, Nat.zero_le _, by unfold maxLen at hcm; omega, by simp, Or.inl rfl⟩, fun pb po e => by cases e; exact ⟨hbg, (own_lt h).1⟩⟩

/-- one row of bytes, that a box holds -/
theorem rows1 {w : World} {a : Option Addr} {n c : Nat} {l : List Nat} (hl : l.length = n) (h : BytesAt w w.heap.size a c l) :
    RowsAt (w.alloc (.cells #[.slice a n c] 23)) (w.heap.size + 1) (some ⟨w.heap.size, 0, none⟩) [l] := by
  have hb := Blk.new w [.slice a n c] 23
  refine ⟨by simp, Or.inr ⟨w.heap.size, 0, rfl, by omega, fun i hi => ?_⟩⟩
  obtain rfl : i = 0 := by simp at hi; omega
  exact ⟨a, c, by rw [Nat.zero_add]; subst hl; exact hb.cell (i := 0) rfl, (h.stay (gb_alloc (gb_refl w none) _)).up (by omega) (by simp)⟩
theorem getD_mem {l : List Nat} (h : ∀ i, l.getD i 0 < 256) : ∀ b ∈ l, b < 256 := fun b hb => by
  obtain ⟨i, hi, rfl⟩ := List.getElem_of_mem hb
  have := h i
  rwa [List.getD_eq_getElem?_getD, List.getElem?_eq_getElem hi] at this
/-- a number's bytes, as far as they are laid -/
def numB (m k : Nat) : List Value := (List.range 8).map fun i => if i < k then u8N (m / 2 ^ (8 * (7 - i)) % 256) else u8N 0
theorem numB_set (m k : Nat) (hk : k < 8) : (numB m k).set k (u8N (m / 2 ^ (8 * (7 - k)) % 256)) = numB m (k + 1) := by
  apply List.ext_getElem?
  intro i
  unfold numB
  rw [List.getElem?_set]
  simp only [List.length_map, List.length_range, List.getElem?_map]
  by_cases hi : i < 8
  · rw [List.getElem?_range hi]
    by_cases h : k = i
    · subst h; simp [hk]
    · have h2 : i < k ↔ i < k + 1 := by omega
      simp [h, h2]
  · have h : ¬ k = i := by omega
    rw [if_neg h, List.getElem?_eq_none (by simp; omega)]
    rfl
theorem numB_all (m : Nat) : numB m 8 = (encW m).map u8N := by
  unfold numB encW
  rw [List.map_map]
  apply List.map_congr_left
  intro i hi
  rw [if_pos (List.mem_range.1 hi)]
  rfl
set_option maxRecDepth 100000 in
set_option maxHeartbeats 1600000 in
theorem numF_any (n : Int) (w : World) :
    Calls Tryz.prog 13 #[.int .i64 n] w fun e w' => ∃ g, e = .returned (.slice (some ⟨g, 0, none⟩) 8 8) ∧ w.grownBy w' none ∧ w.heap.size ≤ g ∧ Blk w' g 5 ((encN n).map u8N) := by
  have hw : IntKind.u64.wrap n = (ofI n : Nat) := by
    rw [show IntKind.u64.wrap n = n % 18446744073709551616 by simp [IntKind.wrap, IntKind.signed, IntKind.bits]]
    unfold ofI
    omega
  obtain ⟨m, hm⟩ : ∃ m, m = ofI n := ⟨_, rfl⟩
  obtain ⟨N, hN⟩ : ∃ N, N = w.heap.size := ⟨_, rfl⟩
  have hlt := ofI_lt n
  rw [← hm] at hw hlt
  obtain ⟨w1, hmk, hg1, hs1, hb1⟩ := make_bytes 8 8 w (Nat.le_refl _) (by omega)
  have hmk' : (Instr.makeSlice 23 (.int .i64 8) (.int .i64 8)).run Tryz.prog w = .ok (.slice (some ⟨w.heap.size, 0, none⟩) 8 8) w1 := hmk
  rw [← hN] at hmk' hb1
  have HS := Lib.hid (And.intro hg1 hb1); clear hg1 hb1 hmk hs1
  have HN := Lib.hid (And.intro (Nat.le_of_eq hN.symm) hm); clear hN hm
  go_enter Tryz.func13, Tryz.ntmps13
  go_wp2_with (fail)
  go_loopw [11] (fun i wr => ∃ k : Nat, k ≤ 8 ∧ i = .int .i64 k ∧ w.grownBy wr none ∧ Blk wr N 5 (numB m k)) (fun i _ => 8 - (intOf i).toNat)
  case atStart => exact ⟨0, by decide, rfl, HS.out⟩
  case round =>
    obtain ⟨k, hk, rfl, hg, hb⟩ := hrel
    by_cases hlt : k < 8
    · have i0 : (k : Int) < 8 := by omega
      have hlen : (numB m k).length = 8 := by unfold numB; simp
      obtain ⟨c, hc⟩ : ∃ c, (numB m k)[k]? = some c := ⟨_, List.getElem?_eq_getElem (by omega)⟩
      have k0 := hb.cell hc
      have f0 := hb.free k
      have HB := Lib.hid (And.intro hg hb); clear hg hb hc hlen
      go_wp2_with (fail)
      obtain ⟨hg, hb⟩ := HB.out
      have e1 : ((m : Int) / 2 ^ (8 * (7 - k)) % 256) = ((m / 2 ^ (8 * (7 - k)) % 256 : Nat) : Int) := by simp
      refine ⟨⟨k + 1, hlt, rfl, gb_set_new hg HN.out.1 _, ?_⟩, by show 8 - ((k : Int) + 1).toNat < 8 - (k : Int).toNat; omega⟩
      rw [e1, ← numB_set m k hlt]
      exact hb.set k _
    · obtain rfl : k = 8 := by omega
      have HB := Lib.hid (And.intro hg hb); clear hg hb
      go_wp2
      go_ret
      exact ⟨N, rfl, HB.out.1, HN.out.1, by have h := HB.out.2; rw [numB_all, HN.out.2] at h; exact h⟩
/-- two rows of bytes, that a box holds -/
theorem rows2 {w : World} {a1 a2 : Option Addr} {n1 c1 n2 c2 : Nat} {l1 l2 : List Nat} (hl1 : l1.length = n1) (hl2 : l2.length = n2) (h1 : BytesAt w w.heap.size a1 c1 l1) (h2 : BytesAt w w.heap.size a2 c2 l2) :
    RowsAt (w.alloc (.cells #[.slice a1 n1 c1, .slice a2 n2 c2] 23)) (w.heap.size + 1) (some ⟨w.heap.size, 0, none⟩) [l1, l2] := by
  have hb := Blk.new w [.slice a1 n1 c1, .slice a2 n2 c2] 23
  have hg := gb_alloc (gb_refl w none) (.cells #[.slice a1 n1 c1, .slice a2 n2 c2] 23)
  subst hl1 hl2
  refine ⟨by simp, Or.inr ⟨w.heap.size, 0, rfl, by omega, fun i hi => ?_⟩⟩
  obtain rfl | rfl : i = 0 ∨ i = 1 := by simp at hi; omega
  · exact ⟨a1, c1, by rw [Nat.zero_add]; exact hb.cell (i := 0) rfl, (h1.stay hg).up (by omega) (by simp)⟩
  · exact ⟨a2, c2, by rw [Nat.zero_add]; exact hb.cell (i := 1) rfl, (h2.stay hg).up (by omega) (by simp)⟩
theorem numF_bytes {n : Int} {w : World} {g : Nat} (h : Blk w g 5 ((encN n).map u8N)) : BytesAt w w.heap.size (some ⟨g, 0, none⟩) 8 (encN n) :=
  blk_bytes (tl := []) (by rw [List.append_nil]; exact h) (encN_length n) (Nat.le_refl _) (by decide) (fun i => encN_byte n i) h.lt (Nat.le_refl _)
theorem bytesF_any (n cap B : Nat) (a : Option Addr) (l : List Nat) (w : World) (hl : l.length = n) (hn : n ≤ 900000) (hP : BytesAt w B a cap l) :
    Calls Tryz.prog 18 #[.slice a n cap] w fun e w' => ∃ v, e = .returned v ∧ w.grownBy w' none ∧ w'.ownsRow w.heap.size 5 1 v (8 + n) ((encN (n : Int) ++ l).map u8N) := by
  have HP := Lib.hid (And.intro hl (And.intro hn hP)); clear hl hn hP
  have HN := Lib.hid (numF_any (n : Int) w)
  go_enter Tryz.func18, Tryz.ntmps18
  go_wp2_with (fail)
  refine HN.out.mono ?_
  rintro e w1 ⟨g, rfl, hg, _, hb⟩
  have H1 := Lib.hid (And.intro hg hb); clear hg hb
  go_wp2_with (fail)
  refine (join_any 2 2 _ [encN (n : Int), l] _ _ rfl (rows2 (encN_length _) HP.out.1 (numF_bytes H1.out.2) (HP.out.2.2.stay H1.out.1).full) (by decide) (by have h1 := HP.out.1; have h2 := HP.out.2.1; simp only [List.flatten_cons, List.flatten_nil, List.append_nil, List.length_append, encN_length]; omega)).mono ?_
  rintro e w2 ⟨v, rfl, hg, ho⟩
  simp only [List.flatten_cons, List.flatten_nil, List.append_nil] at ho
  have gz := gb_alloc H1.out.1 (.cells #[.slice (some ⟨g, 0, none⟩) 8 8, .slice a n cap] 23)
  have H2 := Lib.hid (And.intro (gb_trans gz hg) (own_down ho gz.size)); clear gz hg ho
  go_wp2
  go_ret
  exact ⟨v, rfl, H2.out.1, by have h := H2.out.2; rw [List.length_append, encN_length, HP.out.1] at h; exact h⟩
end Go.Proofs.YtlkiancedgaicaaGreat

/- Records in memory. -/
namespace Go.Proofs.YtlkiancedgaicaaGreat
open Go.RowKit Ow Wi Ve
namespace Rc
/-- where a record's parts lie -/
structure L where
  s : ByteArray
  a1 : Option Addr
  n1 : Nat
  c1 : Nat
  a2 : Option Addr
  n2 : Nat
  c2 : Nat
  a3 : Option Addr
  n3 : Nat
  c3 : Nat
def cellsV (s : ByteArray) (cl sq : Int) (a1 : Option Addr) (n1 c1 : Nat) (g : Bool) (a2 : Option Addr) (n2 c2 : Nat) (a3 : Option Addr) (n3 c3 : Nat) : List Value :=
  [.string s, iV cl, iV sq, .slice a1 n1 c1, .bool g, .slice a2 n2 c2, .slice a3 n3 c3]
def L.cells (q : L) (r : R) : List Value := cellsV q.s r.cl r.sq q.a1 q.n1 q.c1 r.gone q.a2 q.n2 q.c2 q.a3 q.n3 q.c3
def L.v (q : L) (r : R) : Value := .agg (q.cells r).toArray
/-- no record's cells -/
def z7 : List Value := cellsV ⟨#[]⟩ 0 0 none 0 0 false none 0 0 none 0 0
structure RAt (w : World) (B : Nat) (q : L) (r : R) : Prop where
  str : strL q.s = r.key
  l1 : r.cx.length = q.n1
  l2 : r.val.length = q.n2
  l3 : r.sig.length = q.n3
  dots : DotsAt w B q.a1 r.cx
  val : BytesAt w B q.a2 q.c2 r.val
  sig : BytesAt w B q.a3 q.c3 r.sig
  top : q.n1 < 9223372036854775808
theorem RAt.stay {w w' : World} {B : Nat} {q : L} {r : R} (h : RAt w B q r) (hg : w.grownBy w' none) : RAt w' B q r :=
  ⟨h.str, h.l1, h.l2, h.l3, h.dots.stay hg, h.val.stay hg, h.sig.stay hg, h.top⟩
theorem RAt.full {w : World} {B : Nat} {q : L} {r : R} (h : RAt w B q r) : RAt w w.heap.size q r :=
  ⟨h.str, h.l1, h.l2, h.l3, h.dots.up' h.dots.lim (Nat.le_refl _), h.val.up h.val.lim (Nat.le_refl _), h.sig.up h.sig.lim (Nat.le_refl _), h.top⟩
theorem RAt.keyLen {w : World} {B : Nat} {q : L} {r : R} (h : RAt w B q r) : r.key.length = q.s.size := by rw [← h.str, strL_len]
/-- its rows lie in new blocks -/
def L.New (q : L) (n0 : Nat) : Prop := (∀ g o, q.a1 = some ⟨g, o, none⟩ → n0 ≤ g) ∧ (∀ g o, q.a2 = some ⟨g, o, none⟩ → n0 ≤ g) ∧ ∀ g o, q.a3 = some ⟨g, o, none⟩ → n0 ≤ g
theorem dots_apart {w w' : World} {B T : Nat} {a : Option Addr} {l : List D} (h : DotsAt w B a l) (hg : w.grownBy w' (some T)) (hT : ∀ pb po, a = some ⟨pb, po, none⟩ → pb ≠ T) : DotsAt w' B a l := by
  refine ⟨Nat.le_trans h.lim hg.size, ?_⟩
  rcases h.cells with h0 | ⟨pb, po, ha, hlt, hc⟩
  · exact Or.inl h0
  · have e : ∀ o, w'.cell? ⟨pb, o, none⟩ = w.cell? ⟨pb, o, none⟩ := fun o => gb_cell hg (p := ⟨pb, o, none⟩) (Nat.lt_of_lt_of_le hlt h.lim) (fun e => hT pb po ha (Option.some.inj e))
    exact Or.inr ⟨pb, po, ha, hlt, fun i hi => by rw [e, e]; exact hc i hi⟩
theorem RAt.apart {w w' : World} {B T n0 : Nat} {q : L} {r : R} (h : RAt w B q r) (hg : w.grownBy w' (some T)) (hq : q.New n0) (hT : T < n0) : RAt w' B q r :=
  ⟨h.str, h.l1, h.l2, h.l3, dots_apart h.dots hg (fun pb po e => by have := hq.1 _ _ e; omega), h.val.apart hg (Or.inr fun pb po e => by have := hq.2.1 _ _ e; omega), h.sig.apart hg (Or.inr fun pb po e => by have := hq.2.2 _ _ e; omega), h.top⟩
end Rc
end Go.Proofs.YtlkiancedgaicaaGreat

/- Rows of dots that are one's own: their cells, appends, copies. -/
namespace Go.Proofs.YtlkiancedgaicaaGreat
open Go.RowKit Ve
namespace Ve
def dC (d : D) : List Value := [iV d.1, iV d.2]
def dotsC (l : List D) : List Value := l.flatMap dC
theorem dotsC_len (l : List D) : (dotsC l).length = l.length * 2 := by
  induction l with
  | nil => rfl
  | cons d r ih => rw [dotsC, List.flatMap_cons, List.length_append, ← dotsC, ih]; simp [dC]; omega
theorem dotsC_app (l m : List D) : dotsC (l ++ m) = dotsC l ++ dotsC m := by simp [dotsC]
theorem dotsC_one (d : D) : dotsC [d] = [iV d.1, iV d.2] := rfl
theorem dotsC_take (l : List D) (k : Nat) : (dotsC l).take (k * 2) = dotsC (l.take k) := by
  induction l generalizing k with
  | nil => simp [dotsC]
  | cons d r ih =>
    cases k with
    | zero => simp [dotsC]
    | succ k =>
      show ([iV d.1, iV d.2] ++ dotsC r).take ((k + 1) * 2) = [iV d.1, iV d.2] ++ dotsC (r.take k)
      rw [← ih, show (k + 1) * 2 = k * 2 + 2 by omega]
      rfl
theorem dotsC_drop (l : List D) (k : Nat) : (dotsC l).drop (k * 2) = dotsC (l.drop k) := by
  induction l generalizing k with
  | nil => simp [dotsC]
  | cons d r ih =>
    cases k with
    | zero => simp [dotsC]
    | succ k =>
      show ([iV d.1, iV d.2] ++ dotsC r).drop ((k + 1) * 2) = dotsC (r.drop k)
      rw [← ih, show (k + 1) * 2 = k * 2 + 2 by omega]
      rfl
theorem dotsC_at (l : List D) (i : Nat) (h : i < l.length) : (dotsC l)[i * 2]? = some (iV (l.getD i z0).1) ∧ (dotsC l)[i * 2 + 1]? = some (iV (l.getD i z0).2) := by
  have hd : (dotsC l).drop (i * 2) = iV (l.getD i z0).1 :: iV (l.getD i z0).2 :: dotsC (l.drop (i + 1)) := by
    rw [dotsC_drop, drop_at l i h]; rfl
  constructor
  · have := congrArg (fun q => q[0]?) hd
    simpa [List.getElem?_drop] using this
  · have := congrArg (fun q => q[1]?) hd
    simpa [List.getElem?_drop] using this
theorem dotsC_cell (l : List D) : ∀ v ∈ dotsC l, v.oneCell' = true := by
  intro v hv
  obtain ⟨d, _, h⟩ := List.mem_flatMap.1 hv
  simp only [dC, List.mem_cons, List.not_mem_nil, or_false] at h
  rcases h with rfl | rfl <;> rfl
theorem info_dot : ∃ i, Tryz.prog.info? 127 = some i ∧ i.zero = some (.agg #[iV 0, iV 0]) ∧ i.size = 2 ∧ i.bytes = 16 := by
  have h : (Tryz.prog.info? 127).map (fun i => (i.zero, i.size, i.bytes)) = some (some (.agg #[iV 0, iV 0]), 2, 16) := by kernel_rfl
  cases hi : Tryz.prog.info? 127 with
  | none => rw [hi] at h; cases h
  | some i =>
    rw [hi] at h
    simp only [Option.map_some, Option.some.injEq, Prod.mk.injEq] at h
    exact ⟨i, rfl, h.1, h.2.1, h.2.2⟩
/-- a row of one's own, as dots -/
theorem own_dots {w : World} {base n : Nat} {v : Value} {l : List D} (h : w.ownsRow base 127 2 v n (dotsC l)) : ∃ a c, v = .slice a n c ∧ l.length = n ∧ n ≤ c ∧ DotsAt w w.heap.size a l := by
  have hl : l.length = n := by have := h.1; rw [dotsC_len] at this; omega
  rcases h.2 with ⟨rfl, rfl⟩ | ⟨g, c, cur, rfl, hb, hg, hnc, hcm, hcs, ht⟩
  · exact ⟨none, 0, rfl, hl, Nat.le_refl _, Nat.le_refl _, Or.inl hl⟩
  · refine ⟨_, c, rfl, hl, hnc, Nat.le_refl _, Or.inr ⟨g, 0, rfl, lt_of_block hg, fun i hi => ?_⟩⟩
    obtain ⟨e1, e2⟩ := dotsC_at l i hi
    rw [Nat.zero_add]
    have key : ∀ j u, (dotsC l)[j]? = some u → w.cell? ⟨g, j, none⟩ = some u := fun j u hu => by
      have := h.cells (g := g) rfl j u hu
      rwa [Addr.add_lit, Nat.zero_add] at this
    exact ⟨key _ _ e1, key _ _ e2⟩
theorem run_copy2 (w : World) (dT sT ty : TypeId) (hu : Tryz.prog.underlying dT = some (.slice 127)) (b o dLen dCap : Nat) (a : Addr) (sLen sCap m : Nat) (cs : List Value) (hm : Nat.min sLen dLen = m) (hn : cs.length = m * 2)
    (hsrc : ∀ j v, cs[j]? = some v → w.cell? (a.add j) = some v) (hc : ∀ j, j < cs.length → (w.cell? ⟨b, o + j, none⟩).isSome = true) (hf : ∀ j, j < cs.length → w.frozen? ⟨b, o + j, none⟩ = false) (h1 : ∀ v ∈ cs, v.oneCell' = true) :
    (Builtin.copy_ #[dT, sT] ty #[.slice (some ⟨b, o, none⟩) dLen dCap, .slice (some a) sLen sCap]).run Tryz.prog w = .ok (goInt m) (w.setCells b o cs) := by
  have hl := run_loadCells_list (P := Tryz.prog) w a cs hsrc
  have hst := run_storeCells_cells (P := Tryz.prog) b o cs 0 w (by simpa using hc) (by simpa using hf) h1
  obtain ⟨i, hi, _, hs, _⟩ := info_dot
  rw [hn] at hl
  simp [Builtin.copy_, run_underlying hu, Builtin.lenOf, Builtin.firstCells, sizeOf, typeInfo, hi, hs, hm, hl, hst]
theorem append_args (w : World) (t tx ty e' : TypeId) (ht : Tryz.prog.underlying t = some (.slice 127)) (htx : Tryz.prog.underlying tx = some (.slice e')) (a : Option Addr) (n c : Nat) (x : Value) :
    (Builtin.append_ #[t, tx] ty #[.slice a n c, x]).run Tryz.prog w = (Builtin.append_ #[t, t] ty #[.slice a n c, x]).run Tryz.prog w := by
  obtain ⟨i, hi, _, hs, _⟩ := info_dot
  simp [Builtin.append_, run_underlying ht, run_underlying htx, sizeOf, typeInfo, hi, hs]
end Ve
end Go.Proofs.YtlkiancedgaicaaGreat

/- Dots appended to a row of one's own. -/
namespace Go.Proofs.YtlkiancedgaicaaGreat
open Go.RowKit Ve
namespace Ve
abbrev OwnD' (w : World) (base : Nat) (v : Value) (n : Nat) (l : List D) : Prop := w.ownsRow base 127 2 v n (dotsC l)
/-- dots that lie somewhere, appended to a row of one's own -/
theorem append_dots (w : World) (base B : Nat) (v : Value) (n0 : Nat) (l0 : List D) (a : Option Addr) (m c : Nat) (p : List D) (hown : OwnD' w base v n0 l0) (hm : p.length = m) (hp : DotsAt w B a p) (ha : a = none → c = 0) (hn : n0 + m ≤ 1000000000) (hbase : base ≤ w.heap.size) :
    ∃ v' w', (Builtin.append_ #[64, 64] 64 #[v, .slice a m c]).run Tryz.prog w = .ok v' w' ∧ OwnD' w' base v' (n0 + m) (l0 ++ p) ∧ w.grownBy w' v.ownBlock := by
  obtain ⟨i, hi, hz, hs, hb⟩ := info_dot
  rcases a with _ | ad
  · have h0 : p.length = 0 := by
      rcases hp.cells with h | ⟨_, _, h, _⟩
      · exact h
      · cases h
    obtain rfl : p = [] := List.eq_nil_of_length_eq_zero h0
    obtain rfl : m = 0 := by rw [← hm]; rfl
    obtain rfl := ha rfl
    exact ⟨v, w, run_append_owned_none (P := Tryz.prog) w base 64 64 127 i 2 Tryz.underlying64 hi v n0 _ hown, by simpa using hown, gb_refl _ _⟩
  · obtain ⟨v', w', hr, ho, hg, _⟩ := run_append_own (P := Tryz.prog) w base 64 64 127 i (.agg #[iV 0, iV 0]) 2 16 Tryz.underlying64 hi hz hs hb rfl (by decide) v n0 (dotsC l0) hown ad m c (dotsC p) (by rw [dotsC_len, hm])
      (fun j u hu => by
        have hj : j < p.length * 2 := by have := (List.getElem?_eq_some_iff.1 hu).1; rwa [dotsC_len] at this
        obtain ⟨pb, po, e, _, hc⟩ := hp.cells.resolve_left (by omega)
        cases e
        obtain ⟨q, hq⟩ : ∃ q, j = q * 2 ∨ j = q * 2 + 1 := ⟨j / 2, by omega⟩
        have hql : q < p.length := by omega
        obtain ⟨e1, e2⟩ := dotsC_at p q hql
        obtain ⟨f1, f2⟩ := hc q hql
        rw [Addr.add_lit]
        rcases hq with rfl | rfl
        · rw [e1] at hu; rw [f1]; exact hu
        · rw [e2] at hu; rw [← Nat.add_assoc, f2]; exact hu) (dotsC_cell p) (by unfold maxLen; omega) (by omega) hbase
    exact ⟨v', w', hr, by unfold OwnD'; rw [dotsC_app]; exact ho, hg⟩
theorem own_shapeD {w : World} {base n : Nat} {v : Value} {l : List D} (h : OwnD' w base v n l) : ∃ a c, v = .slice a n c := by
  rcases h.2 with ⟨rfl, h0⟩ | ⟨g, c, _, rfl, _⟩
  · exact ⟨none, 0, by rw [h0]⟩
  · exact ⟨_, _, rfl⟩
theorem gb_ownD' {w0 w w' : World} {base n : Nat} {v : Value} {l : List D} (h : w0.grownBy w none) (ho : OwnD' w base v n l) (hb : w0.heap.size ≤ base) (hg : w.grownBy w' v.ownBlock) : w0.grownBy w' none :=
  ⟨hg.os.trans h.os, hg.tape.trans h.tape, hg.output.trans h.output, Nat.le_trans h.size hg.size, fun k hk _ => (hg.block k (Nat.lt_of_lt_of_le hk h.size) (fun e => by have := (ho.lt k e.symm).1; omega)).trans (h.block k hk (by simp))⟩
theorem dots_one' (w : World) (x y : Int) (T : TypeId) : DotsAt (w.alloc (.cells #[iV x, iV y] T)) (w.heap.size + 1) (some ⟨w.heap.size, 0, none⟩) [(x, y)] := by
  have hB : Blk (w.alloc (.cells #[iV x, iV y] T)) w.heap.size T [iV x, iV y] := Blk.new w _ _
  refine ⟨by simp, Or.inr ⟨w.heap.size, 0, rfl, by omega, fun i hi => ?_⟩⟩
  obtain rfl : i = 0 := by simp at hi; omega
  exact ⟨hB.cell (i := 0) rfl, hB.cell (i := 1) rfl⟩
end Ve
end Go.Proofs.YtlkiancedgaicaaGreat
