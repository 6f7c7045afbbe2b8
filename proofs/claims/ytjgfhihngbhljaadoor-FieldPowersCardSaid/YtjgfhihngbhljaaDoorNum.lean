/- Numbers modulo a prime: Euclid's lemma, Fermat's theorem, and certificates of primes. No program is named here. -/
namespace Go.Proofs.YtjgfhihngbhljaaDoor.Num

def Prime (p : Nat) : Prop := 2 ≤ p ∧ ∀ m, m ∣ p → m = 1 ∨ m = p

theorem Prime.coprime {p a : Nat} (h : Prime p) (ha : ¬ p ∣ a) : Nat.Coprime p a := by
  rcases h.2 (Nat.gcd p a) (Nat.gcd_dvd_left p a) with e | e
  · exact e
  · exact absurd (e ▸ Nat.gcd_dvd_right p a) ha
theorem Prime.dvd_mul {p a b : Nat} (h : Prime p) (hd : p ∣ a * b) : p ∣ a ∨ p ∣ b := by
  by_cases ha : p ∣ a
  · exact Or.inl ha
  · exact Or.inr ((h.coprime ha).dvd_of_dvd_mul_left hd)

theorem exists_prime : ∀ n : Nat, 2 ≤ n → ∃ r, Prime r ∧ r ∣ n := by
  intro n
  induction n using Nat.strongRecOn with
  | _ n ih =>
    intro h2
    by_cases hp : Prime n
    · exact ⟨n, hp, Nat.dvd_refl n⟩
    · have : ∃ m, m ∣ n ∧ m ≠ 1 ∧ m ≠ n := by
        by_cases hm : ∃ m, m ∣ n ∧ m ≠ 1 ∧ m ≠ n
        · exact hm
        · refine absurd ⟨h2, fun m hd => ?_⟩ hp
          by_cases e1 : m = 1
          · exact Or.inl e1
          · by_cases e2 : m = n
            · exact Or.inr e2
            · exact absurd ⟨m, hd, e1, e2⟩ hm
      obtain ⟨m, hd, h1, hn⟩ := this
      have hle := Nat.le_of_dvd (by omega) hd
      have h0 : m ≠ 0 := by rintro rfl; have := Nat.eq_zero_of_zero_dvd hd; omega
      obtain ⟨r, hr, hrd⟩ := ih m (by omega) (by omega)
      exact ⟨r, hr, Nat.dvd_trans hrd hd⟩

/-- one that is no prime has a prime part that is not above its root -/
theorem small_part {n : Nat} (h2 : 2 ≤ n) (hp : ¬ Prime n) : ∃ r, Prime r ∧ r ∣ n ∧ r * r ≤ n := by
  have : ∃ m, m ∣ n ∧ m ≠ 1 ∧ m ≠ n := by
    by_cases hm : ∃ m, m ∣ n ∧ m ≠ 1 ∧ m ≠ n
    · exact hm
    · refine absurd ⟨h2, fun m hd => ?_⟩ hp
      by_cases e1 : m = 1
      · exact Or.inl e1
      · by_cases e2 : m = n
        · exact Or.inr e2
        · exact absurd ⟨m, hd, e1, e2⟩ hm
  obtain ⟨m, ⟨k, hk⟩, h1, hn⟩ := this
  have hm0 : m ≠ 0 := by rintro rfl; omega
  have hk0 : k ≠ 0 := by rintro rfl; omega
  have hk1 : k ≠ 1 := by rintro rfl; omega
  have go : ∀ x y : Nat, n = x * y → 2 ≤ x → x ≤ y → ∃ r, Prime r ∧ r ∣ n ∧ r * r ≤ n := by
    intro x y e hx hxy
    obtain ⟨r, hr, hd⟩ := exists_prime x hx
    have hrx := Nat.le_of_dvd (by omega) hd
    exact ⟨r, hr, e ▸ Nat.dvd_trans hd (Nat.dvd_mul_right x y), e ▸ Nat.mul_le_mul hrx (Nat.le_trans hrx hxy)⟩
  rcases Nat.le_total m k with h | h
  · exact go m k hk (by omega) h
  · exact go k m (by rw [hk, Nat.mul_comm]) (by omega) h

/-! ### Fermat -/
def prod (l : List Nat) : Nat := l.foldr (· * ·) 1
theorem prod_cons (x : Nat) (l : List Nat) : prod (x :: l) = x * prod l := rfl
theorem prod_perm {l l' : List Nat} (h : l.Perm l') : prod l = prod l' := by
  induction h with
  | nil => rfl
  | cons x _ ih => rw [prod_cons, prod_cons, ih]
  | swap x y l => simp only [prod_cons]; rw [Nat.mul_left_comm]
  | trans _ _ h1 h2 => exact h1.trans h2
theorem perm_of {l l' : List Nat} (hn : l.Nodup) (hs : ∀ x ∈ l, x ∈ l') (hl : l.length = l'.length) : l.Perm l' := by
  induction l generalizing l' with
  | nil => rw [List.eq_nil_of_length_eq_zero hl.symm]
  | cons x t ih =>
    have hx := hs x (List.mem_cons_self ..)
    have hn' := List.nodup_cons.1 hn
    have hp := List.perm_cons_erase hx
    refine List.Perm.trans (List.Perm.cons x (ih hn'.2 (fun y hy => ?_) ?_)) hp.symm
    · have hne : y ≠ x := fun e => hn'.1 (e ▸ hy)
      exact (List.mem_erase_of_ne hne).2 (hs y (List.mem_cons_of_mem _ hy))
    · have := hp.length_eq
      simp only [List.length_cons] at this hl
      omega
theorem prod_map (p a : Nat) (l : List Nat) : prod (l.map fun i => a * i % p) % p = a ^ l.length * prod l % p := by
  induction l with
  | nil => simp [prod]
  | cons x t ih =>
    rw [List.map_cons, prod_cons, Nat.mul_mod, ih, Nat.mod_mod, ← Nat.mul_mod, prod_cons, List.length_cons, Nat.pow_succ]
    congr 1
    simp only [Nat.mul_assoc, Nat.mul_left_comm, Nat.mul_comm]
theorem not_dvd_prod {p : Nat} (h : Prime p) (l : List Nat) (hl : ∀ x ∈ l, ¬ p ∣ x) : ¬ p ∣ prod l := by
  induction l with
  | nil => intro hd; have := Nat.le_of_dvd (by decide) hd; have := h.1; simp [prod] at *; omega
  | cons x t ih =>
    intro hd
    rcases h.dvd_mul hd with e | e
    · exact hl x (List.mem_cons_self ..) e
    · exact ih (fun y hy => hl y (List.mem_cons_of_mem _ hy)) e
theorem cancel {p x y P : Nat} (h : Prime p) (hP : ¬ p ∣ P) (_ : y ≤ x) (e : x * P % p = y * P % p) : p ∣ x - y := by
  have h1 := Nat.sub_mod_eq_zero_of_mod_eq e
  rw [← Nat.sub_mul] at h1
  rcases h.dvd_mul (Nat.dvd_of_mod_eq_zero h1) with k | k
  · exact k
  · exact absurd k hP
theorem mod_one {p x : Nat} (hx : 1 ≤ x) (h : p ∣ x - 1) : x % p = 1 % p := by
  obtain ⟨k, hk⟩ := h
  have : x = 1 + p * k := by omega
  rw [this, Nat.add_mul_mod_self_left]
theorem fermat {p a : Nat} (h : Prime p) (ha : ¬ p ∣ a) : a ^ (p - 1) % p = 1 := by
  have h2 := h.1
  have hz : 1 ≤ a := by
    rcases Nat.eq_zero_or_pos a with e | e
    · exact absurd (e ▸ Nat.dvd_zero p) ha
    · exact e
  have mem : ∀ x, x ∈ List.range' 1 (p - 1) ↔ 1 ≤ x ∧ x < p := by
    intro x; rw [List.mem_range'_1]; omega
  have low : ∀ x ∈ List.range' 1 (p - 1), ¬ p ∣ x := fun x hx hd => by
    have := (mem x).1 hx; have := Nat.le_of_dvd (by omega) hd; omega
  have perm : ((List.range' 1 (p - 1)).map fun i => a * i % p).Perm (List.range' 1 (p - 1)) := by
    apply perm_of
    · rw [List.nodup_iff_pairwise_ne, List.pairwise_map]
      refine List.Pairwise.imp_of_mem ?_ (List.nodup_iff_pairwise_ne.1 (List.nodup_range' ..))
      intro x y hx hy hne e
      have bx := (mem x).1 hx
      have b_y := (mem y).1 hy
      apply hne
      rw [Nat.mul_comm a x, Nat.mul_comm a y] at e
      rcases Nat.le_total x y with l | l
      · obtain ⟨k, hk⟩ := cancel h ha l e.symm
        rcases Nat.eq_zero_or_pos k with z | z
        · subst z; omega
        · have := Nat.le_mul_of_pos_right p z; omega
      · obtain ⟨k, hk⟩ := cancel h ha l e
        rcases Nat.eq_zero_or_pos k with z | z
        · subst z; omega
        · have := Nat.le_mul_of_pos_right p z; omega
    · intro x hx
      obtain ⟨i, hi, rfl⟩ := List.mem_map.1 hx
      rw [mem]
      refine ⟨?_, Nat.mod_lt _ (by omega)⟩
      rcases Nat.eq_zero_or_pos (a * i % p) with z | z
      · rcases h.dvd_mul (Nat.dvd_of_mod_eq_zero z) with k | k
        · exact absurd k ha
        · exact absurd k (low i hi)
      · exact z
    · simp
  have e := prod_map p a (List.range' 1 (p - 1))
  rw [prod_perm perm, List.length_range'] at e
  have hd := cancel (x := a ^ (p - 1)) (y := 1) h (not_dvd_prod h _ low) (Nat.one_le_pow _ _ hz) (by rw [Nat.one_mul]; exact e.symm)
  rw [mod_one (Nat.one_le_pow _ _ hz) hd, Nat.mod_eq_of_lt h2]

/-! ### certificates -/
theorem pow_one_mul {r b x : Nat} (k : Nat) (h : b ^ x % r = 1 % r) : b ^ (x * k) % r = 1 % r := by
  rw [Nat.pow_mul, Nat.pow_mod, h, ← Nat.pow_mod, Nat.one_pow]
theorem pow_gcd (r b x y : Nat) (hx : b ^ x % r = 1 % r) (hy : b ^ y % r = 1 % r) : b ^ Nat.gcd x y % r = 1 % r := by
  induction x, y using Nat.gcd.induction with
  | H0 y => rwa [Nat.gcd_zero_left]
  | H1 x y _ ih =>
    rw [Nat.gcd_rec]
    refine ih ?_ hx
    have e : b ^ y = b ^ (x * (y / x)) * b ^ (y % x) := by rw [← Nat.pow_add, Nat.div_add_mod]
    rw [e, Nat.mul_mod, pow_one_mul _ hx, ← Nat.mul_mod, Nat.one_mul] at hy
    exact hy

/-- q goes into what is one below each prime part of N -/
theorem step {N q m a : Nat} (hq : Prime q) (hN : N - 1 = m * q) (h2 : 2 ≤ N) (h1 : a ^ (N - 1) % N = 1) (hg : Nat.gcd (a ^ m % N + (N - 1)) N = 1) :
    ∀ r, Prime r → r ∣ N → q ∣ r - 1 := by
  intro r hr hd
  have hr2 := hr.1
  by_cases hn : q ∣ r - 1
  · exact hn
  have hc : Nat.gcd q (r - 1) = 1 := hq.coprime hn
  have hb : (a ^ m) ^ q % r = 1 % r := by
    rw [← Nat.pow_mul, ← hN, ← Nat.mod_mod_of_dvd _ hd, h1]
  have ha : ¬ r ∣ a ^ m := by
    intro k
    have hq0 : q ≠ 0 := by have := hq.1; omega
    have := Nat.mod_eq_zero_of_dvd (Nat.dvd_trans k ⟨(a ^ m) ^ (q - 1), by rw [← Nat.pow_succ', show (q - 1).succ = q by omega]⟩)
    rw [hb, Nat.mod_eq_of_lt hr2] at this
    omega
  have hf := fermat hr ha
  have h3 := pow_gcd r (a ^ m) q (r - 1) hb (by rw [hf, Nat.mod_eq_of_lt hr2])
  rw [hc, Nat.pow_one] at h3
  have h4 : r ∣ Nat.gcd (a ^ m % N + (N - 1)) N := by
    refine Nat.dvd_gcd (Nat.dvd_of_mod_eq_zero ?_) hd
    rw [Nat.add_mod, Nat.mod_mod_of_dvd _ hd, h3, ← Nat.add_mod, Nat.add_sub_cancel' (by omega : 1 ≤ N)]
    exact Nat.mod_eq_zero_of_dvd hd
  rw [hg] at h4
  have := Nat.le_of_dvd (by decide) h4
  omega
theorem prime_of {N F : Nat} (h2 : 2 ≤ N) (hF : N < F * F) (h : ∀ r, Prime r → r ∣ N → F ∣ r - 1) : Prime N := by
  by_cases hp : Prime N
  · exact hp
  obtain ⟨r, hr, hd, hle⟩ := small_part h2 hp
  have hr2 := hr.1
  have := Nat.le_of_dvd (by omega) (h r hr hd)
  have : F * F ≤ r * r := Nat.mul_le_mul (by omega) (by omega)
  omega
theorem both {x q q' : Nat} (hq : Prime q) (hn : ¬ q ∣ q') (h : q ∣ x) (h' : q' ∣ x) : q * q' ∣ x :=
  Nat.Coprime.mul_dvd_of_dvd_of_dvd (hq.coprime hn) h h'
/-- no part from d on, tried one by one -/
def trial (n : Nat) : Nat → Nat → Bool
  | 0, _ => true
  | f + 1, d => n % d != 0 && trial n f (d + 1)
theorem trial_says {n : Nat} : ∀ f d, trial n f d = true → ∀ m, d ≤ m → m < d + f → n % m ≠ 0 := by
  intro f
  induction f with
  | zero => intro d _ m h1 h2; omega
  | succ f ih =>
    intro d h m h1 h2
    simp only [trial, Bool.and_eq_true, bne_iff_ne] at h
    by_cases e : m = d
    · subst e; exact h.1
    · exact ih (d + 1) h.2 m (by omega) (by omega)
theorem prime_trial {n : Nat} (f : Nat) (h2 : 2 ≤ n) (hf : n < (f + 2) * (f + 2)) (h : trial n f 2 = true) : Prime n := by
  by_cases hp : Prime n
  · exact hp
  obtain ⟨r, hr, hd, hle⟩ := small_part h2 hp
  have hr2 := hr.1
  by_cases hlt : r < 2 + f
  · exact absurd (Nat.mod_eq_zero_of_dvd hd) (trial_says f 2 h r hr2 hlt)
  · have : (f + 2) * (f + 2) ≤ r * r := Nat.mul_le_mul (by omega) (by omega)
    omega

/-- a power, modulo n, squared and multiplied bit by bit -/
def pm (n a : Nat) : Nat → Nat → Nat
  | 0, _ => 1 % n
  | f + 1, e => if e % 2 = 0 then pm n a f (e / 2) * pm n a f (e / 2) % n else pm n a f (e / 2) * pm n a f (e / 2) % n * a % n
theorem pm_is (n a : Nat) : ∀ f e, e < 2 ^ f → pm n a f e = a ^ e % n := by
  intro f
  induction f with
  | zero => 
    intro e h
    have : e = 0 := by simpa using h
    subst this
    simp [pm]
  | succ f ih =>
    intro e h
    have h' : e / 2 < 2 ^ f := by rw [Nat.pow_succ] at h; omega
    have sq : pm n a f (e / 2) * pm n a f (e / 2) % n = a ^ (e / 2 + e / 2) % n := by
      rw [ih _ h', ← Nat.mul_mod, ← Nat.pow_add]
    rw [pm, sq]
    by_cases h2 : e % 2 = 0
    · rw [if_pos h2, show e / 2 + e / 2 = e by omega]
    · rw [if_neg h2, Nat.mod_mul_mod, ← Nat.pow_succ, show (e / 2 + e / 2).succ = e by omega]

theorem pow_is {n a e v : Nat} (f : Nat) (he : e < 2 ^ f) (h : pm n a f e = v) : a ^ e % n = v := by rw [← pm_is n a f e he]; exact h
/-- a certificate's step, reckoned -/
theorem step' {N q : Nat} (m a f b : Nat) (hq : Prime q) (hN : N - 1 = m * q) (h2 : 2 ≤ N) (hf : N < 2 ^ f) (h1 : pm N a f (N - 1) = 1) (hb : pm N a f m = b) (hg : Nat.gcd (b + (N - 1)) N = 1) :
    ∀ r, Prime r → r ∣ N → q ∣ r - 1 := by
  have hm : m < 2 ^ f := by
    have h1 := hq.1
    have : m * 1 ≤ m * q := Nat.mul_le_mul_left m (by omega)
    omega
  refine step (a := a) hq hN h2 (pow_is f (by omega) h1) ?_
  rw [pow_is f hm hb]; exact hg
end Go.Proofs.YtjgfhihngbhljaaDoor.Num
