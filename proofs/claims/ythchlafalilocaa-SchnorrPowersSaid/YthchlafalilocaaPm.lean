/- Powers modulo 2^61 - 1: the law of exponents; 37's powers are all numbers from 1 to P - 1, so each number's power by P - 1 is 1. Plain mathematics: nothing here knows the program. -/
namespace Go.Proofs.Ythchlafalilocaa.Pm
/-- The prime. -/
def P : Nat := 2305843009213693951
theorem P_eq : P = 2305843009213693951 := rfl
theorem P_pos : 0 < P := by decide
theorem P_one : 1 < P := by decide
/-- A power modulo P. -/
def mp (b e : Nat) : Nat := b ^ e % P
theorem mp_lt (b e : Nat) : mp b e < P := Nat.mod_lt _ P_pos
theorem mp_zero (b : Nat) : mp b 0 = 1 := by
  unfold mp; rw [Nat.pow_zero]; exact Nat.mod_eq_of_lt P_one
theorem mp_one (b : Nat) : mp b 1 = b % P := by
  unfold mp; rw [Nat.pow_one]
theorem mp_add (b e f : Nat) : mp b (e + f) = mp b e * mp b f % P := by
  unfold mp; rw [Nat.pow_add, Nat.mul_mod]
theorem mp_base (b e : Nat) : mp (b % P) e = mp b e := by
  unfold mp; exact (Nat.pow_mod b e P).symm
theorem mp_pow (b e f : Nat) : mp b (e * f) = mp (mp b e) f := by
  show b ^ (e * f) % P = (b ^ e % P) ^ f % P
  rw [Nat.pow_mul, Nat.pow_mod]
theorem mp_ones (e : Nat) : mp 1 e = 1 := by
  unfold mp; rw [Nat.one_pow]; exact Nat.mod_eq_of_lt P_one
theorem mp_mul (a b e : Nat) : mp (a * b % P) e = mp a e * mp b e % P := by
  rw [mp_base]; unfold mp; rw [Nat.mul_pow, Nat.mul_mod]
theorem mp_mod (b e : Nat) : mp b e % P = mp b e := Nat.mod_eq_of_lt (mp_lt b e)
theorem mp_nought (e : Nat) (he : 0 < e) (b : Nat) (hb : b % P = 0) : mp b e = 0 := by
  rw [← mp_base, hb]; unfold mp
  rw [Nat.zero_pow he]; exact Nat.zero_mod P
/-- Both halves of an exponent. -/
theorem mp_double (b e : Nat) : mp b (2 * e) = mp b e * mp b e % P := by
  rw [Nat.two_mul, mp_add]
/-- A power reckoned. -/
def pm : Nat → Nat → Nat → Nat → Nat
  | 0, _, _, acc => acc
  | f + 1, b, e, acc => pm f (b * b % P) (e / 2) (if e % 2 = 1 then acc * b % P else acc)
theorem pm_eq (f b e acc : Nat) (he : e < 2 ^ f) (ha : acc < P) : pm f b e acc = acc * mp b e % P := by
  induction f generalizing b e acc with
  | zero =>
    have e0 : e = 0 := by simpa using he
    subst e0
    rw [mp_zero, Nat.mul_one, Nat.mod_eq_of_lt ha]; rfl
  | succ f ih =>
    have h2 : e / 2 < 2 ^ f := by rw [Nat.pow_succ] at he; omega
    show pm f (b * b % P) (e / 2) (if e % 2 = 1 then acc * b % P else acc) = _
    have hm : mp (b * b % P) (e / 2) = mp b (2 * (e / 2)) := by rw [mp_mul, mp_double]
    by_cases h : e % 2 = 1
    · rw [if_pos h, ih _ _ _ h2 (Nat.mod_lt _ P_pos), hm]
      have e1 : e = 1 + 2 * (e / 2) := by omega
      conv => rhs; rw [e1, mp_add, mp_one]
      rw [Nat.mod_mul_mod, Nat.mul_mod_mod, Nat.mul_left_comm, Nat.mod_mul_mod, ← Nat.mul_assoc, Nat.mul_comm b acc]
    · rw [if_neg h, ih _ _ _ h2 ha, hm]
      have e1 : 2 * (e / 2) = e := by omega
      rw [e1]
theorem pm_of (e : Nat) (he : e < 2 ^ 61) : mp 37 e = pm 61 37 e 1 := by
  rw [pm_eq 61 37 e 1 he P_one, Nat.one_mul, mp_mod]
theorem g_all : mp 37 (P - 1) = 1 := by
  rw [pm_of _ (by decide)]; decide +kernel
theorem g_gcd (a b : Nat) (ha : mp 37 a = 1) (hb : mp 37 b = 1) : mp 37 (Nat.gcd a b) = 1 := by
  induction a, b using Nat.gcd.induction with
  | H0 n => simpa using hb
  | H1 m n hm ih =>
    rw [Nat.gcd_rec]
    refine ih ?_ ha
    have h : mp 37 (m * (n / m) + n % m) = 1 := by rw [Nat.div_add_mod]; exact hb
    rw [mp_add, mp_pow, ha, mp_ones, Nat.one_mul, mp_mod] at h
    exact h
/-- The primes that P - 1 is made of. -/
def parts : List Nat := [2, 3, 3, 5, 5, 7, 11, 13, 31, 41, 61, 151, 331, 1321]
theorem parts_all : parts.foldr (· * ·) 1 = P - 1 := by decide +kernel
theorem parts_prime : ∀ q ∈ parts, ∀ r, r < q → r = 0 ∨ Nat.gcd q r = 1 := by
  have h : parts.all (fun q => (List.range q).all (fun r => r == 0 || Nat.gcd q r == 1)) = true := by decide +kernel
  intro q hq r hr
  have h1 := List.all_eq_true.1 (List.all_eq_true.1 h q hq) r (List.mem_range.2 hr)
  simpa using h1
theorem parts_not : ∀ q ∈ parts, mp 37 ((P - 1) / q) ≠ 1 := by
  have h : parts.all (fun q => decide ((P - 1) / q < 2 ^ 61) && !(pm 61 37 ((P - 1) / q) 1 == 1)) = true := by decide +kernel
  intro q hq
  have h1 := List.all_eq_true.1 h q hq
  rw [Bool.and_eq_true] at h1
  rw [pm_of _ (of_decide_eq_true h1.1)]
  have h2 := h1.2
  intro e
  rw [e] at h2
  exact absurd h2 (by decide)
theorem parts_div : ∀ q ∈ parts, q ∣ P - 1 ∧ 0 < q := by
  have h : parts.all (fun q => decide ((P - 1) % q = 0) && decide (0 < q)) = true := by decide +kernel
  intro q hq
  have h1 := List.all_eq_true.1 h q hq
  rw [Bool.and_eq_true] at h1
  exact ⟨Nat.dvd_of_mod_eq_zero (of_decide_eq_true h1.1), of_decide_eq_true h1.2⟩
theorem cop_list (m : Nat) (l : List Nat) (h : ∀ q ∈ l, Nat.Coprime m q) : Nat.Coprime m (l.foldr (· * ·) 1) := by
  induction l with
  | nil => exact Nat.coprime_one_right m
  | cons q l ih =>
    exact Nat.Coprime.mul_right (h q (by simp)) (ih (fun r hr => h r (List.mem_cons_of_mem _ hr)))
theorem g_least (d : Nat) (h0 : 0 < d) (hd : d < P - 1) : mp 37 d ≠ 1 := by
  intro h
  have he := g_gcd d (P - 1) h g_all
  obtain ⟨m, hm⟩ := Nat.gcd_dvd_right d (P - 1)
  have hle : Nat.gcd d (P - 1) ≤ d := Nat.gcd_le_left _ h0
  generalize Nat.gcd d (P - 1) = e at he hm hle
  have cop : Nat.Coprime m (P - 1) := by
    rw [← parts_all]
    refine cop_list m parts ?_
    intro q hq
    have hqp := parts_div q hq
    rcases parts_prime q hq (m % q) (Nat.mod_lt _ hqp.2) with h1 | h1
    · exfalso
      obtain ⟨k, hk⟩ := Nat.dvd_of_mod_eq_zero h1
      refine parts_not q hq ?_
      have e1 : (P - 1) / q = e * k := by
        rw [hm, hk, Nat.mul_left_comm]
        exact Nat.mul_div_cancel_left _ hqp.2
      rw [e1, mp_pow, he, mp_ones]
    · unfold Nat.Coprime
      rw [Nat.gcd_comm, Nat.gcd_rec, Nat.gcd_comm]
      exact h1
  have m1 : m = 1 := Nat.Coprime.eq_one_of_dvd cop ⟨e, by rw [hm, Nat.mul_comm]⟩
  rw [m1, Nat.mul_one] at hm
  omega
theorem g_pos (i : Nat) (hi : i ≤ P - 1) : 0 < mp 37 i := by
  rcases Nat.eq_zero_or_pos (mp 37 i) with h | h
  · exfalso
    have h1 : mp 37 (i + (P - 1 - i)) = 1 := by rw [Nat.add_sub_cancel' hi]; exact g_all
    rw [mp_add, h, Nat.zero_mul, Nat.zero_mod] at h1
    exact absurd h1 (by decide)
  · exact h
theorem g_inj_lt (i j : Nat) (hij : i < j) (hj : j < P - 1) : mp 37 i ≠ mp 37 j := by
  intro h
  refine g_least (j - i) (by omega) (by omega) ?_
  have h1 : mp 37 (i + (P - 1 - i)) = 1 := by rw [Nat.add_sub_cancel' (by omega)]; exact g_all
  have h2 : mp 37 (j + (P - 1 - i)) = mp 37 ((P - 1) + (j - i)) := by congr 1; omega
  rw [mp_add, ← h, ← mp_add, h1, mp_add, g_all, Nat.one_mul, mp_mod] at h2
  exact h2.symm
theorem g_inj (i j : Nat) (hi : i < P - 1) (hj : j < P - 1) (h : mp 37 i = mp 37 j) : i = j := by
  rcases Nat.lt_trichotomy i j with h1 | h1 | h1
  · exact absurd h (g_inj_lt i j h1 hj)
  · exact h1
  · exact absurd h.symm (g_inj_lt j i h1 hi)
/-- As many pigeons as holes. -/
theorem holes (n : Nat) : ∀ (f : Nat → Nat), (∀ i, i < n → f i < n) → (∀ i j, i < n → j < n → f i = f j → i = j) →
    ∀ y, y < n → ∃ i, i < n ∧ f i = y := by
  induction n with
  | zero => intro f _ _ y hy; exact absurd hy (Nat.not_lt_zero _)
  | succ n ih =>
    intro f hf hi y hy
    have hn : ∀ i, i < n → f i ≠ f n := fun i h e => by have := hi i n (by omega) (by omega) e; omega
    have k := ih (fun i => if f i = n then f n else f i)
      (by
        intro i h
        have a := hf i (by omega)
        have b := hf n (by omega)
        have c := hn i h
        show (if f i = n then f n else f i) < n
        by_cases e : f i = n
        · rw [if_pos e]; omega
        · rw [if_neg e]; omega)
      (by
        intro i j h1 h2 h3
        have h3 : (if f i = n then f n else f i) = (if f j = n then f n else f j) := h3
        have a := hn i h1
        have b := hn j h2
        by_cases e1 : f i = n
        · by_cases e2 : f j = n
          · exact hi i j (by omega) (by omega) (e1.trans e2.symm)
          · rw [if_pos e1, if_neg e2] at h3; exact absurd h3.symm b
        · by_cases e2 : f j = n
          · rw [if_neg e1, if_pos e2] at h3; exact absurd h3 a
          · rw [if_neg e1, if_neg e2] at h3; exact hi i j (by omega) (by omega) h3)
    by_cases yn : y = n
    · by_cases v : f n = n
      · exact ⟨n, by omega, v.trans yn.symm⟩
      · have a := hf n (by omega)
        obtain ⟨i, h1, h2⟩ := k (f n) (by omega)
        have h2 : (if f i = n then f n else f i) = f n := h2
        by_cases e : f i = n
        · exact ⟨i, by omega, e.trans yn.symm⟩
        · rw [if_neg e] at h2; exact absurd h2 (hn i h1)
    · obtain ⟨i, h1, h2⟩ := k y (by omega)
      have h2 : (if f i = n then f n else f i) = y := h2
      by_cases e : f i = n
      · rw [if_pos e] at h2; exact ⟨n, by omega, h2⟩
      · rw [if_neg e] at h2; exact ⟨i, by omega, h2⟩
theorem g_onto (b : Nat) (hb : b % P ≠ 0) : ∃ i, mp 37 i = b % P := by
  have hl := Nat.mod_lt b P_pos
  obtain ⟨i, hi, e⟩ := holes (P - 1) (fun i => mp 37 i - 1)
    (by
      intro i h
      have a := mp_lt 37 i
      have b := g_pos i (by omega)
      show mp 37 i - 1 < P - 1
      omega)
    (by
      intro i j h1 h2 h3
      have h3 : mp 37 i - 1 = mp 37 j - 1 := h3
      have a := g_pos i (by omega)
      have b := g_pos j (by omega)
      exact g_inj i j h1 h2 (by omega))
    (b % P - 1) (by omega)
  have e : mp 37 i - 1 = b % P - 1 := e
  have a := g_pos i (by omega)
  exact ⟨i, by omega⟩
/-- Each number that is not P's multiple has 1 for its power by P - 1. -/
theorem little (b : Nat) (hb : b % P ≠ 0) : mp b (P - 1) = 1 := by
  obtain ⟨i, hi⟩ := g_onto b hb
  rw [← mp_base, ← hi, ← mp_pow, Nat.mul_comm, mp_pow, g_all, mp_ones]
/-- A power of a power undone. -/
theorem undone (b a c : Nat) (hb : b % P ≠ 0) : mp b (a + c) * mp (mp b c) (P - 2) % P = mp b a := by
  rw [← mp_pow, ← mp_add]
  have e : a + c + c * (P - 2) = a + (P - 1) * c := by
    have : c * (P - 2) + c = (P - 1) * c := by
      rw [Nat.mul_comm (P - 1) c]
      have : P - 1 = (P - 2) + 1 := by rw [P_eq]
      rw [this, Nat.mul_add, Nat.mul_one]
    omega
  rw [e, mp_add, mp_pow, little b hb, mp_ones, Nat.mul_one, mp_mod]
/-- Exponents count modulo P - 1. -/
theorem g_round (n : Nat) : mp 37 (n % (P - 1)) = mp 37 n := by
  conv => rhs; rw [← Nat.div_add_mod n (P - 1), mp_add, mp_pow, g_all, mp_ones, Nat.one_mul, mp_mod]
end Go.Proofs.Ythchlafalilocaa.Pm
