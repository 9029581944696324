/- FX, EM, EP -/
namespace Go.Proofs.YtojfcdjgcgnajaaGreat
def Pri (n : Nat) : Prop := 2 ≤ n ∧ ∀ r, r ∣ n → r = 1 ∨ r = n
theorem exists_pri (m : Nat) : 2 ≤ m → ∃ r, Pri r ∧ r ∣ m := by
 induction m using Nat.strongRecOn with
 | _ m ih =>
   intro h; by_cases hp : Pri m
   · exact ⟨m, hp, Nat.dvd_refl m⟩
   · have : ∃ r, r ∣ m ∧ r ≠ 1 ∧ r ≠ m := by
      apply Classical.byContradiction
      intro hn; exact hp ⟨h, fun r hr => Classical.byContradiction fun h2 => hn ⟨r, hr, fun e => h2 (Or.inl e), fun e => h2 (Or.inr e)⟩⟩
     obtain ⟨r, hd, h1, h2⟩ := this; have hle := Nat.le_of_dvd (by omega) hd; have hr0 : r ≠ 0 := by rintro rfl; have := Nat.eq_zero_of_zero_dvd hd; omega
     obtain ⟨s, hs, hsd⟩ := ih r (by omega) (by omega); exact ⟨s, hs, Nat.dvd_trans hsd hd⟩
theorem Pri.dvd_mul {r a b : Nat} (h : Pri r) (hd : r ∣ a * b) : r ∣ a ∨ r ∣ b := by
 rcases h.2 _ (Nat.gcd_dvd_left r a) with e | e
 · exact Or.inr (Nat.Coprime.dvd_of_dvd_mul_left (k := r) (m := a) e hd)
 · exact Or.inl (e ▸ Nat.gcd_dvd_right r a)
def prodL : List Nat → Nat
 | [] => 1
 | q :: l => q * prodL l
theorem Pri.dvd_prod {r : Nat} (h : Pri r) : ∀ l : List Nat, r ∣ prodL l → ∃ q ∈ l, r ∣ q
 | [], hd => by have := Nat.dvd_one.1 hd; have := h.1; omega
 | q :: l, hd => by
   rcases h.dvd_mul hd with h1 | h1
   · exact ⟨q, by simp, h1⟩
   · obtain ⟨s, hs, h2⟩ := h.dvd_prod l h1
     exact ⟨s, by simp [hs], h2⟩
theorem pigeon : ∀ (n : Nat) (f : Nat → Nat), (∀ i, i < n → f i < n) → (∀ i j, i < n → j < n → f i = f j → i = j) → ∀ y, y < n → ∃ i, i < n ∧ f i = y
 | 0, _, _, _, _, hy => by omega
 | n + 1, f, hf, inj, y, hy => by
   have key := pigeon n (fun i => if f i = n then f n else f i) (by
    intro i hi; have h1 := hf i (by omega); have h2 := hf n (by omega); split
    · rename_i h
      by_cases hc : f n = n
      · have := inj i n (by omega) (by omega) (by omega); omega
      · omega
    · omega) (by
    intro i j hi hj he; split at he <;> split at he
    · exact inj i j (by omega) (by omega) (by omega)
    · have := inj n j (by omega) (by omega) he; omega
    · have := inj i n (by omega) (by omega) he; omega
    · exact inj i j (by omega) (by omega) he)
   have h2 := hf n (by omega); by_cases hyn : y = n
   · subst hyn
     by_cases hc : f y = y
     · exact ⟨y, by omega, hc⟩
     · obtain ⟨i, hi, he⟩ := key (f y) (by omega)
       split at he
       · exact ⟨i, by omega, by assumption⟩
       · have := inj i y (by omega) (by omega) he; omega
   · obtain ⟨i, hi, he⟩ := key y (by omega)
     split at he
     · exact ⟨n, by omega, he⟩
     · exact ⟨i, by omega, he⟩
theorem pow_mod_one {n a : Nat} (h : a % n = 1 % n) (k : Nat) : a ^ k % n = 1 % n := by
 induction k with
 | zero => simp
 | succ k ih => rw [Nat.pow_succ, Nat.mul_mod, ih, h, ← Nat.mul_mod, Nat.one_mul]
theorem mul_mod_one {n a : Nat} (h : a % n = 1 % n) (b : Nat) : a * b % n = b % n := by
 rw [Nat.mul_mod, h, ← Nat.mul_mod, Nat.one_mul]
theorem exists_ord {n g N : Nat} (h1 : g ^ N % n = 1 % n) (hN : 0 < N) : ∃ d, 0 < d ∧ g ^ d % n = 1 % n ∧ ∀ k, 0 < k → k < d → g ^ k % n ≠ 1 % n := by
 induction N using Nat.strongRecOn with
 | _ N ih =>
   by_cases hk : ∃ k, 0 < k ∧ k < N ∧ g ^ k % n = 1 % n
   · obtain ⟨k, h0, hl, he⟩ := hk
     exact ih k hl he h0
   · exact ⟨N, hN, h1, fun k h0 hl he => hk ⟨k, h0, hl, he⟩⟩
theorem ord_dvd {n g d N : Nat} (hd0 : 0 < d) (hd : g ^ d % n = 1 % n) (hm : ∀ k, 0 < k → k < d → g ^ k % n ≠ 1 % n) (hN : g ^ N % n = 1 % n) : d ∣ N := by
 have e : g ^ N % n = g ^ (N % d) % n := by
  conv => lhs; rw [← Nat.div_add_mod N d, Nat.pow_add, Nat.pow_mul]
  exact mul_mod_one (pow_mod_one hd _) _
 have hl := Nat.mod_lt N hd0; by_cases h0 : N % d = 0
 · exact Nat.dvd_of_mod_eq_zero h0
 · exact absurd (e.symm.trans hN) (hm _ (by omega) hl)
theorem lucas (n g : Nat) (hn : 2 ≤ n) (l : List Nat) (hl : ∀ q ∈ l, Pri q) (hp : prodL l = n - 1) (h1 : g ^ (n - 1) % n = 1) (h2 : ∀ q ∈ l, g ^ ((n - 1) / q) % n ≠ 1) :
 ∀ a, a % n ≠ 0 → ∃ k, g ^ k % n = a % n := by
 have one : 1 % n = 1 := Nat.mod_eq_of_lt (by omega); have h1' : g ^ (n - 1) % n = 1 % n := by rw [h1, one]
 obtain ⟨d, hd0, hd, hm⟩ := exists_ord h1' (by omega); have hdv := ord_dvd hd0 hd hm h1'; have hdn : d = n - 1 := by
  apply Classical.byContradiction
  intro hne; obtain ⟨m, hm'⟩ := hdv; have hm2 : 2 ≤ m := by
   match m with
   | 0 => simp at hm'; omega
   | 1 => simp at hm'; omega
   | m + 2 => omega
  obtain ⟨r, hr, s, hs⟩ := exists_pri m hm2; have hrd : r ∣ prodL l := by rw [hp, hm', hs]; exact ⟨d * s, by simp [Nat.mul_left_comm]⟩
  obtain ⟨q, hq, hrq⟩ := hr.dvd_prod l hrd; have : r = q := by
   rcases (hl q hq).2 r hrq with e | e
   · have := hr.1; omega
   · exact e
  subst this; refine h2 r hq ?_; have e : (n - 1) / r = d * s := by
   rw [hm', hs, Nat.mul_left_comm, Nat.mul_div_cancel_left _ (by have := hr.1; omega)]
  rw [e, Nat.pow_mul, pow_mod_one hd, one]
 subst hdn; have nz : ∀ k, k < n - 1 → g ^ k % n ≠ 0 := by
  intro k hk he; have e : g ^ (n - 1) = g ^ k * g ^ (n - 1 - k) := by rw [← Nat.pow_add]; congr 1; omega
  rw [e, Nat.mul_mod, he, Nat.zero_mul, Nat.zero_mod] at h1; omega
 have lt : ∀ k, g ^ k % n < n := fun k => Nat.mod_lt _ (by omega)
 have inj' : ∀ i j, i < j → j < n - 1 → g ^ i % n ≠ g ^ j % n := by
  intro i j hij hj he; have e1 : (g ^ (n - 1 - i) * g ^ i) % n = (g ^ (n - 1 - i) * g ^ j) % n := by
   rw [Nat.mul_mod, he, ← Nat.mul_mod]
  have e2 : g ^ (n - 1 - i) * g ^ i = g ^ (n - 1) := by rw [← Nat.pow_add]; congr 1; omega
  have e3 : g ^ (n - 1 - i) * g ^ j = g ^ (n - 1) * g ^ (j - i) := by rw [← Nat.pow_add, ← Nat.pow_add]; congr 1; omega
  rw [e2, e3, mul_mod_one h1', h1'] at e1; exact hm (j - i) (by omega) (by omega) e1.symm
 intro a ha; have hal := Nat.mod_lt a (show 0 < n by omega); obtain ⟨k, hk, he⟩ := pigeon (n - 1) (fun k => g ^ k % n - 1) (fun i hi => by have := lt i; have := nz i hi; omega)
  (fun i j hi hj he => by
    have a1 := nz i hi; have a2 := nz j hj; rcases Nat.lt_trichotomy i j with h | h | h
    · exact absurd (by omega) (inj' i j h hj)
    · exact h
    · exact absurd (by omega) (inj' j i h hi)) (a % n - 1) (by omega)
 exact ⟨k, by have := nz k hk; omega⟩
theorem fermat_of (n g : Nat) (hn : 2 ≤ n) (h1 : g ^ (n - 1) % n = 1) (h : ∀ a, a % n ≠ 0 → ∃ k, g ^ k % n = a % n) (a : Nat) (ha : a % n ≠ 0) : a ^ (n - 1) % n = 1 := by
 have one : 1 % n = 1 := Nat.mod_eq_of_lt (by omega); obtain ⟨k, hk⟩ := h a ha; have h1' : g ^ (n - 1) % n = 1 % n := by rw [h1, one]
 rw [Nat.pow_mod, ← hk, ← Nat.pow_mod, ← Nat.pow_mul, Nat.mul_comm, Nat.pow_mul, pow_mod_one h1', one]
theorem pri_of (n g : Nat) (hn : 2 ≤ n) (h1 : g ^ (n - 1) % n = 1) (h : ∀ a, a % n ≠ 0 → ∃ k, g ^ k % n = a % n) : Pri n := by
 refine ⟨hn, fun r hr => ?_⟩; have hle := Nat.le_of_dvd (by omega) hr; by_cases hrn : r = n
 · exact Or.inr hrn
 · have hr0 : r ≠ 0 := by rintro rfl; have := Nat.eq_zero_of_zero_dvd hr; omega
   have e : r % n = r := Nat.mod_eq_of_lt (by omega); have f := fermat_of n g hn h1 h r (by omega); have d1 : r ∣ r ^ (n - 1) := ⟨r ^ (n - 2), by rw [← Nat.pow_succ']; congr 1; omega⟩
   have d2 : r ∣ n * (r ^ (n - 1) / n) := Nat.dvd_trans hr (Nat.dvd_mul_right _ _); have d3 : r ∣ n * (r ^ (n - 1) / n) + 1 := by
    have := Nat.div_add_mod (r ^ (n - 1)) n; rw [f] at this; rw [this]; exact d1
   exact Or.inl (Nat.dvd_one.1 ((Nat.dvd_add_right d2).1 d3))
def mp (n g : Nat) : Nat → Nat → Nat
 | 0, _ => 1 % n
 | f + 1, e => if e % 2 = 1 then (mp n g f (e / 2)) ^ 2 % n * g % n else (mp n g f (e / 2)) ^ 2 % n
theorem mp_eq (n g : Nat) : ∀ f e, e < 2 ^ f → mp n g f e = g ^ e % n
 | 0, e, h => by
   have : e = 0 := by simp at h; exact h
   subst this; simp [mp]
 | f + 1, e, h => by
   have ih := mp_eq n g f (e / 2) (by rw [Nat.pow_succ] at h; omega); unfold mp; rw [ih]; have e1 : (g ^ (e / 2) % n) ^ 2 % n = g ^ (2 * (e / 2)) % n := by rw [← Nat.pow_mod, ← Nat.pow_mul, Nat.mul_comm]
   rw [e1]; split
   · rename_i h1
     have : e = 2 * (e / 2) + 1 := by omega
     conv => rhs; rw [this, Nat.pow_succ]
     rw [Nat.mod_mul_mod]
   · have : e = 2 * (e / 2) := by omega
     conv => rhs; rw [this]
def noDiv (n : Nat) : Nat → Bool
 | 0 => true
 | k + 1 => (n % (k + 2) != 0) && noDiv n k
theorem noDiv_ne {n : Nat} : ∀ {k : Nat}, noDiv n k = true → ∀ r, 2 ≤ r → r < k + 2 → n % r ≠ 0
 | 0, _, r, h1, h2 => by omega
 | k + 1, h, r, h1, h2 => by
   simp only [noDiv, Bool.and_eq_true, bne_iff_ne] at h; by_cases e : r = k + 2
   · subst e; exact h.1
   · exact noDiv_ne h.2 r h1 (by omega)
theorem pri_small (n k : Nat) (hn : 2 ≤ n) (hk : n < (k + 2) * (k + 2)) (h : noDiv n k = true) : Pri n := by
 refine ⟨hn, fun r ⟨s, hs⟩ => ?_⟩; apply Classical.byContradiction; intro hno; have hr1 : r ≠ 1 := fun e => hno (Or.inl e)
 have hrn : r ≠ n := fun e => hno (Or.inr e)
 have hr0 : r ≠ 0 := by rintro rfl; omega
 have hs0 : s ≠ 0 := by rintro rfl; omega
 have hs1 : s ≠ 1 := by rintro rfl; omega
 have a1 : ¬ r < k + 2 := fun hl => noDiv_ne h r (by omega) hl (by rw [hs]; exact Nat.mul_mod_right _ _)
 have a2 : ¬ s < k + 2 := fun hl => noDiv_ne h s (by omega) hl (by rw [hs]; exact Nat.mul_mod_left _ _)
 have := Nat.mul_le_mul (show k + 2 ≤ r by omega) (show k + 2 ≤ s by omega); omega
def lucasB (f n g : Nat) (l : List Nat) : Bool := decide (n < 2 ^ f) && (mp n g f (n - 1) == 1) && (prodL l == n - 1) && l.all fun q => mp n g f ((n - 1) / q) != 1
theorem lucasB_pow {f n g : Nat} {l : List Nat} (h : lucasB f n g l = true) : g ^ (n - 1) % n = 1 := by
 simp only [lucasB, Bool.and_eq_true, decide_eq_true_eq, beq_iff_eq] at h; rw [← mp_eq n g f _ (by omega)]; exact h.1.1.2
theorem lucasB_all {f n g : Nat} {l : List Nat} (hn : 2 ≤ n) (hl : ∀ q ∈ l, Pri q) (h : lucasB f n g l = true) : ∀ a, a % n ≠ 0 → ∃ k, g ^ k % n = a % n := by
 have h1 := lucasB_pow h; simp only [lucasB, Bool.and_eq_true, decide_eq_true_eq, beq_iff_eq, List.all_eq_true, bne_iff_ne] at h; refine lucas n g hn l hl h.1.2 h1 (fun q hq => ?_); rw [← mp_eq n g f _ (by have := Nat.div_le_self (n - 1) q; omega)]; exact h.2 q hq
theorem lucasB_pri {f n g : Nat} {l : List Nat} (hn : 2 ≤ n) (hl : ∀ q ∈ l, Pri q) (h : lucasB f n g l = true) : Pri n := pri_of n g hn (lucasB_pow h) (lucasB_all hn hl h)
theorem pr_2 : Pri 2 := pri_small 2 0 (by decide) (by decide) (by decide +kernel)
theorem pr_3 : Pri 3 := pri_small 3 0 (by decide) (by decide) (by decide +kernel)
theorem pr_353 : Pri 353 := pri_small 353 17 (by decide) (by decide) (by decide +kernel)
theorem pr_5 : Pri 5 := pri_small 5 1 (by decide) (by decide) (by decide +kernel)
theorem pr_13 : Pri 13 := pri_small 13 2 (by decide) (by decide) (by decide +kernel)
theorem pr_569003 : Pri 569003 := pri_small 569003 753 (by decide) (by decide) (by decide +kernel)
theorem pr_2437 : Pri 2437 := pri_small 2437 48 (by decide) (by decide) (by decide +kernel)
theorem pl_2773320623 : ∀ q ∈ [2, 2437, 569003], Pri q := by
 intro q hq; simp only [List.mem_cons, List.not_mem_nil, or_false] at hq; rcases hq with rfl | rfl | rfl
 · exact pr_2
 · exact pr_2437
 · exact pr_569003
theorem pr_2773320623 : Pri 2773320623 := lucasB_pri (f := 32) (g := 5) (by decide) pl_2773320623 (by decide +kernel)
theorem pl_72106336199 : ∀ q ∈ [2, 13, 2773320623], Pri q := by
 intro q hq; simp only [List.mem_cons, List.not_mem_nil, or_false] at hq; rcases hq with rfl | rfl | rfl
 · exact pr_2
 · exact pr_13
 · exact pr_2773320623
theorem pr_72106336199 : Pri 72106336199 := lucasB_pri (f := 37) (g := 7) (by decide) pl_72106336199 (by decide +kernel)
theorem pr_7 : Pri 7 := pri_small 7 1 (by decide) (by decide) (by decide +kernel)
theorem pr_47 : Pri 47 := pri_small 47 5 (by decide) (by decide) (by decide +kernel)
theorem pr_19 : Pri 19 := pri_small 19 3 (by decide) (by decide) (by decide +kernel)
theorem pr_103 : Pri 103 := pri_small 103 9 (by decide) (by decide) (by decide +kernel)
theorem pr_991 : Pri 991 := pri_small 991 30 (by decide) (by decide) (by decide +kernel)
theorem pl_8574133 : ∀ q ∈ [2, 2, 3, 7, 103, 991], Pri q := by
 intro q hq; simp only [List.mem_cons, List.not_mem_nil, or_false] at hq; rcases hq with rfl | rfl | rfl | rfl | rfl | rfl
 · exact pr_2
 · exact pr_2
 · exact pr_3
 · exact pr_7
 · exact pr_103
 · exact pr_991
theorem pr_8574133 : Pri 8574133 := lucasB_pri (f := 24) (g := 2) (by decide) pl_8574133 (by decide +kernel)
theorem pr_127 : Pri 127 := pri_small 127 10 (by decide) (by decide) (by decide +kernel)
theorem pl_1919519569386763 : ∀ q ∈ [2, 3, 7, 19, 47, 47, 127, 8574133], Pri q := by
 intro q hq; simp only [List.mem_cons, List.not_mem_nil, or_false] at hq; rcases hq with rfl | rfl | rfl | rfl | rfl | rfl | rfl | rfl
 · exact pr_2
 · exact pr_3
 · exact pr_7
 · exact pr_19
 · exact pr_47
 · exact pr_47
 · exact pr_127
 · exact pr_8574133
theorem pr_1919519569386763 : Pri 1919519569386763 := lucasB_pri (f := 51) (g := 2) (by decide) pl_1919519569386763 (by decide +kernel)
theorem pr_75707 : Pri 75707 := pri_small 75707 274 (by decide) (by decide) (by decide +kernel)
theorem pl_75445702479781427272750846543864801 : ∀ q ∈ [2, 2, 2, 2, 2, 3, 3, 5, 5, 75707, 72106336199, 1919519569386763], Pri q := by
 intro q hq; simp only [List.mem_cons, List.not_mem_nil, or_false] at hq; rcases hq with rfl | rfl | rfl | rfl | rfl | rfl | rfl | rfl | rfl | rfl | rfl | rfl
 · exact pr_2
 · exact pr_2
 · exact pr_2
 · exact pr_2
 · exact pr_2
 · exact pr_3
 · exact pr_3
 · exact pr_5
 · exact pr_5
 · exact pr_75707
 · exact pr_72106336199
 · exact pr_1919519569386763
theorem pr_75445702479781427272750846543864801 : Pri 75445702479781427272750846543864801 := lucasB_pri (f := 116) (g := 7) (by decide) pl_75445702479781427272750846543864801 (by decide +kernel)
theorem pr_132049 : Pri 132049 := pri_small 132049 362 (by decide) (by decide) (by decide +kernel)
theorem pr_107 : Pri 107 := pri_small 107 9 (by decide) (by decide) (by decide +kernel)
theorem pr_430751 : Pri 430751 := pri_small 430751 655 (by decide) (by decide) (by decide +kernel)
theorem pr_4153 : Pri 4153 := pri_small 4153 63 (by decide) (by decide) (by decide +kernel)
theorem pr_31 : Pri 31 := pri_small 31 4 (by decide) (by decide) (by decide +kernel)
theorem pr_223 : Pri 223 := pri_small 223 13 (by decide) (by decide) (by decide +kernel)
theorem pl_31757755568855353 : ∀ q ∈ [2, 2, 2, 3, 31, 107, 223, 4153, 430751], Pri q := by
 intro q hq; simp only [List.mem_cons, List.not_mem_nil, or_false] at hq; rcases hq with rfl | rfl | rfl | rfl | rfl | rfl | rfl | rfl | rfl
 · exact pr_2
 · exact pr_2
 · exact pr_2
 · exact pr_3
 · exact pr_31
 · exact pr_107
 · exact pr_223
 · exact pr_4153
 · exact pr_430751
theorem pr_31757755568855353 : Pri 31757755568855353 := lucasB_pri (f := 55) (g := 10) (by decide) pl_31757755568855353 (by decide +kernel)
theorem pr_57467 : Pri 57467 := pri_small 57467 238 (by decide) (by decide) (by decide +kernel)
theorem pr_43 : Pri 43 := pri_small 43 5 (by decide) (by decide) (by decide +kernel)
theorem pr_3727 : Pri 3727 := pri_small 3727 60 (by decide) (by decide) (by decide +kernel)
theorem pl_1923133 : ∀ q ∈ [2, 2, 3, 43, 3727], Pri q := by
 intro q hq; simp only [List.mem_cons, List.not_mem_nil, or_false] at hq; rcases hq with rfl | rfl | rfl | rfl | rfl
 · exact pr_2
 · exact pr_2
 · exact pr_3
 · exact pr_43
 · exact pr_3727
theorem pr_1923133 : Pri 1923133 := lucasB_pri (f := 21) (g := 2) (by decide) pl_1923133 (by decide +kernel)
theorem pl_74058212732561358302231226437062788676166966415465897661863160754340907 : ∀ q ∈ [2, 3, 353, 57467, 132049, 1923133, 31757755568855353, 75445702479781427272750846543864801], Pri q := by
 intro q hq; simp only [List.mem_cons, List.not_mem_nil, or_false] at hq; rcases hq with rfl | rfl | rfl | rfl | rfl | rfl | rfl | rfl
 · exact pr_2
 · exact pr_3
 · exact pr_353
 · exact pr_57467
 · exact pr_132049
 · exact pr_1923133
 · exact pr_31757755568855353
 · exact pr_75445702479781427272750846543864801
theorem pr_74058212732561358302231226437062788676166966415465897661863160754340907 : Pri 74058212732561358302231226437062788676166966415465897661863160754340907 := lucasB_pri (f := 236) (g := 2) (by decide) pl_74058212732561358302231226437062788676166966415465897661863160754340907 (by decide +kernel)
theorem pr_65147 : Pri 65147 := pri_small 65147 254 (by decide) (by decide) (by decide +kernel)
def PN : Nat := 57896044618658097711785492504343953926634992332820282019728792003956564819949
theorem pl_P : ∀ q ∈ [2, 2, 3, 65147, 74058212732561358302231226437062788676166966415465897661863160754340907], Pri q := by
 intro q hq; simp only [List.mem_cons, List.not_mem_nil, or_false] at hq; rcases hq with rfl | rfl | rfl | rfl | rfl
 · exact pr_2
 · exact pr_2
 · exact pr_3
 · exact pr_65147
 · exact pr_74058212732561358302231226437062788676166966415465897661863160754340907
theorem PN_lucas : lucasB 256 PN 2 [2, 2, 3, 65147, 74058212732561358302231226437062788676166966415465897661863160754340907] = true := by decide +kernel
theorem PN_pri : Pri PN := lucasB_pri (by decide) pl_P PN_lucas
theorem PN_fermat (a : Nat) (ha : a % PN ≠ 0) : a ^ (PN - 1) % PN = 1 := fermat_of PN 2 (by decide) (lucasB_pow PN_lucas) (lucasB_all (by decide) pl_P PN_lucas) a ha
end Go.Proofs.YtojfcdjgcgnajaaGreat
namespace Go.Proofs.YtojfcdjgcgnajaaGreat
section
def PQ : Nat := 57896044618658097711785492504343953926634992332820282019728792003956564819948
abbrev K : Type := Fin (PQ + 1)
def OnC (d x y : K) : Prop := y * y - x * x = 1 + d * (x * x) * (y * y)
def dp (d x1 y1 x2 y2 : K) : K := 1 + d * x1 * x2 * y1 * y2
def dm (d x1 y1 x2 y2 : K) : K := 1 - d * x1 * x2 * y1 * y2
def nx (x1 y1 x2 y2 : K) : K := x1 * y2 + x2 * y1
def ny (x1 y1 x2 y2 : K) : K := y1 * y2 + x1 * x2
def IsSum (d x1 y1 x2 y2 x3 y3 : K) : Prop := x3 * dp d x1 y1 x2 y2 = nx x1 y1 x2 y2 ∧ y3 * dm d x1 y1 x2 y2 = ny x1 y1 x2 y2
structure Edw (d : K) : Prop where
 nzd : ∀ a b : K, a * b = 0 → a = 0 ∨ b = 0
 one : (1 : K) ≠ 0
 two : (2 : K) ≠ 0
 nsq : ∀ a b : K, d * (a * a) = b * b → a = 0
 root : ∃ i : K, i * i = -1
theorem Edw.cancel {d : K} (E : Edw d) {a b c : K} (hc : c ≠ 0) (h : a * c = b * c) : a = b := by
 rcases E.nzd (a - b) c (by grind) with h1 | h1
 · grind
 · exact absurd h1 hc
theorem eps_ne {d : K} (E : Edw d) {x1 y1 x2 y2 : K} (h1 : OnC d x1 y1) (h2 : OnC d x2 y2) (hs : (d * x1 * x2 * y1 * y2) * (d * x1 * x2 * y1 * y2) = 1) : False := by
 obtain ⟨i, hi⟩ := E.root; unfold OnC at h1 h2
 -- none of the four is 0
 have hxy : x1 * y1 ≠ 0 := fun h => E.one (by grind)
 have key : ∀ s : K, s * s = 1 → d * ((x1 * y1 * (i * x2 + s * y2)) * (x1 * y1 * (i * x2 + s * y2))) = (i * x1 + s * (d * x1 * x2 * y1 * y2) * y1) * (i * x1 + s * (d * x1 * x2 * y1 * y2) * y1) := by
  intro s hss
  grind
 have k1 := E.nsq _ _ (key 1 (by grind)); have k2 := E.nsq _ _ (key (-1) (by grind)); rcases E.nzd _ _ k1 with a | a
 · exact hxy a
 · rcases E.nzd _ _ k2 with b | b
   · exact hxy b
   · -- i x2 + y2 = 0 and i x2 - y2 = 0
     have hy : y2 = 0 := by
      rcases E.nzd 2 y2 (by grind) with c | c
      · exact absurd c E.two
      · exact c
     exact E.one (by grind)
theorem dp_ne {d : K} (E : Edw d) {x1 y1 x2 y2 : K} (h1 : OnC d x1 y1) (h2 : OnC d x2 y2) : dp d x1 y1 x2 y2 ≠ 0 := fun h => eps_ne E h1 h2 (by unfold dp at h; grind)
theorem dm_ne {d : K} (E : Edw d) {x1 y1 x2 y2 : K} (h1 : OnC d x1 y1) (h2 : OnC d x2 y2) : dm d x1 y1 x2 y2 ≠ 0 := fun h => eps_ne E h1 h2 (by unfold dm at h; grind)
theorem clos_poly {d x1 y1 x2 y2 : K} (e1 : OnC d x1 y1) (e2 : OnC d x2 y2) :
 ny x1 y1 x2 y2 * ny x1 y1 x2 y2 * (dp d x1 y1 x2 y2 * dp d x1 y1 x2 y2) - nx x1 y1 x2 y2 * nx x1 y1 x2 y2 * (dm d x1 y1 x2 y2 * dm d x1 y1 x2 y2) = dp d x1 y1 x2 y2 * dp d x1 y1 x2 y2 * (dm d x1 y1 x2 y2 * dm d x1 y1 x2 y2) + d * (nx x1 y1 x2 y2 * nx x1 y1 x2 y2) * (ny x1 y1 x2 y2 * ny x1 y1 x2 y2) := by
 unfold OnC at e1 e2; unfold ny nx dp dm
 grind
theorem sum_on {d : K} (E : Edw d) {x1 y1 x2 y2 x3 y3 : K} (h1 : OnC d x1 y1) (h2 : OnC d x2 y2) (h : IsSum d x1 y1 x2 y2 x3 y3) : OnC d x3 y3 := by
 have hp := dp_ne E h1 h2; have hm := dm_ne E h1 h2; have c := clos_poly h1 h2; obtain ⟨hx, hy⟩ := h; rw [← hx, ← hy] at c; generalize dp d x1 y1 x2 y2 = p at *; generalize dm d x1 y1 x2 y2 = m at *; unfold OnC; have hpm : (p * m) * (p * m) ≠ 0 := fun h0 => by
  rcases E.nzd _ _ h0 with a | a <;> rcases E.nzd _ _ a with b | b
  · exact hp b
  · exact hm b
  · exact hp b
  · exact hm b
 exact E.cancel hpm (by grind)
theorem sum_unique {d : K} (E : Edw d) {x1 y1 x2 y2 x3 y3 x4 y4 : K} (h1 : OnC d x1 y1) (h2 : OnC d x2 y2) (h : IsSum d x1 y1 x2 y2 x3 y3) (k : IsSum d x1 y1 x2 y2 x4 y4) : x3 = x4 ∧ y3 = y4 :=
 ⟨E.cancel (dp_ne E h1 h2) (h.1.trans k.1.symm), E.cancel (dm_ne E h1 h2) (h.2.trans k.2.symm)⟩
theorem sum_comm {d x1 y1 x2 y2 x3 y3 : K} (h : IsSum d x1 y1 x2 y2 x3 y3) : IsSum d x2 y2 x1 y1 x3 y3 := by
 unfold IsSum dp dm nx ny at *; exact ⟨by grind, by grind⟩
theorem sum_none {d x y : K} : IsSum d x y 0 1 x y := by
 unfold IsSum dp dm nx ny; exact ⟨by grind, by grind⟩
theorem sum_away {d x y : K} (h : OnC d x y) : IsSum d x y (-x) y 0 1 := by
 unfold IsSum dp dm nx ny OnC at *; exact ⟨by grind, by grind⟩
theorem on_none {d : K} : OnC d (0 : K) 1 := by unfold OnC; grind
theorem on_neg {d x y : K} (h : OnC d x y) : OnC d (-x) y := by unfold OnC at *; grind
theorem assoc_x {d x1 y1 x2 y2 x3 y3 : K} (e1 : OnC d x1 y1) (e2 : OnC d x2 y2) (e3 : OnC d x3 y3) :
 (nx x1 y1 x2 y2 * dm d x1 y1 x2 y2 * y3 + x3 * ny x1 y1 x2 y2 * dp d x1 y1 x2 y2) * (dp d x2 y2 x3 y3 * dm d x2 y2 x3 y3 + d * x1 * y1 * nx x2 y2 x3 y3 * ny x2 y2 x3 y3)
 = (x1 * ny x2 y2 x3 y3 * dp d x2 y2 x3 y3 + y1 * nx x2 y2 x3 y3 * dm d x2 y2 x3 y3) * (dp d x1 y1 x2 y2 * dm d x1 y1 x2 y2 + d * x3 * y3 * nx x1 y1 x2 y2 * ny x1 y1 x2 y2) := by
 unfold OnC at e1 e2 e3; unfold ny nx dp dm
 grind
theorem assoc_y {d x1 y1 x2 y2 x3 y3 : K} (e1 : OnC d x1 y1) (e2 : OnC d x2 y2) (e3 : OnC d x3 y3) :
 (ny x1 y1 x2 y2 * dp d x1 y1 x2 y2 * y3 + x3 * nx x1 y1 x2 y2 * dm d x1 y1 x2 y2) * (dp d x2 y2 x3 y3 * dm d x2 y2 x3 y3 - d * x1 * y1 * nx x2 y2 x3 y3 * ny x2 y2 x3 y3)
 = (y1 * ny x2 y2 x3 y3 * dp d x2 y2 x3 y3 + x1 * nx x2 y2 x3 y3 * dm d x2 y2 x3 y3) * (dp d x1 y1 x2 y2 * dm d x1 y1 x2 y2 - d * x3 * y3 * nx x1 y1 x2 y2 * ny x1 y1 x2 y2) := by
 unfold OnC at e1 e2 e3; unfold ny nx dp dm
 grind
theorem sum_assoc {d : K} (E : Edw d) {x1 y1 x2 y2 x3 y3 a b u v r s r' s' : K} (e1 : OnC d x1 y1) (e2 : OnC d x2 y2) (e3 : OnC d x3 y3)
 (h12 : IsSum d x1 y1 x2 y2 a b) (h23 : IsSum d x2 y2 x3 y3 u v) (hl : IsSum d a b x3 y3 r s) (hr : IsSum d x1 y1 u v r' s') : r = r' ∧ s = s' := by
 have eab := sum_on E e1 e2 h12; have euv := sum_on E e2 e3 h23; have np := dp_ne E e1 e2; have nm := dm_ne E e1 e2; have mp := dp_ne E e2 e3; have mm := dm_ne E e2 e3; have lp := dp_ne E eab e3; have lm := dm_ne E eab e3; have rp := dp_ne E e1 euv; have rm := dm_ne E e1 euv; have ax := assoc_x e1 e2 e3; have ay := assoc_y e1 e2 e3; obtain ⟨hx, hy⟩ := h12; obtain ⟨hu, hv⟩ := h23; obtain ⟨hr1, hs1⟩ := hl; obtain ⟨hr2, hs2⟩ := hr; rw [← hx, ← hy, ← hu, ← hv] at ax ay; have hM : (dp d x1 y1 x2 y2 * dm d x1 y1 x2 y2) * (dp d x2 y2 x3 y3 * dm d x2 y2 x3 y3) ≠ 0 := fun h0 => by
  rcases E.nzd _ _ h0 with c | c <;> rcases E.nzd _ _ c with f | f
  · exact np f
  · exact nm f
  · exact mp f
  · exact mm f
 generalize dp d x1 y1 x2 y2 = p at *; generalize dm d x1 y1 x2 y2 = m at *; generalize dp d x2 y2 x3 y3 = q at *; generalize dm d x2 y2 x3 y3 = n at *; have kx : nx a b x3 y3 * dp d x1 y1 u v = nx x1 y1 u v * dp d a b x3 y3 := by
  refine E.cancel hM ?_; unfold nx dp; have e1 : (a * y3 + x3 * b) * (1 + d * x1 * u * y1 * v) * (p * m * (q * n)) = (a * p * m * y3 + x3 * (b * m) * p) * (q * n + d * x1 * y1 * (u * q) * (v * n)) := by grind
  have e2 : (x1 * v + u * y1) * (1 + d * a * x3 * b * y3) * (p * m * (q * n)) = (x1 * (v * n) * q + y1 * (u * q) * n) * (p * m + d * x3 * y3 * (a * p) * (b * m)) := by grind
  rw [e1, e2]; exact ax
 have ky : ny a b x3 y3 * dm d x1 y1 u v = ny x1 y1 u v * dm d a b x3 y3 := by
  refine E.cancel hM ?_; unfold ny dm; have e1 : (b * y3 + a * x3) * (1 - d * x1 * u * y1 * v) * (p * m * (q * n)) = (b * m * p * y3 + x3 * (a * p) * m) * (q * n - d * x1 * y1 * (u * q) * (v * n)) := by grind
  have e2 : (y1 * v + x1 * u) * (1 - d * a * x3 * b * y3) * (p * m * (q * n)) = (y1 * (v * n) * q + x1 * (u * q) * n) * (p * m - d * x3 * y3 * (a * p) * (b * m)) := by grind
  rw [e1, e2]; exact ay
 rw [← hr1, ← hr2] at kx; rw [← hs1, ← hs2] at ky; constructor
 · exact E.cancel lp (E.cancel rp (by rw [kx]; grind))
 · exact E.cancel lm (E.cancel rm (by rw [ky]; grind))
end
end Go.Proofs.YtojfcdjgcgnajaaGreat
namespace Go.Proofs.YtojfcdjgcgnajaaGreat
section
def Rep (X Y Z T x y : K) : Prop := Z ≠ 0 ∧ X = x * Z ∧ Y = y * Z ∧ T = x * y * Z
theorem rep_one {d : K} (E : Edw d) (x y : K) : Rep x y 1 (x * y) x y := ⟨E.one, by grind, by grind, by grind⟩
theorem Edw.mul_ne {d : K} (E : Edw d) {a b : K} (ha : a ≠ 0) (hb : b ≠ 0) : a * b ≠ 0 := fun h => by
 rcases E.nzd _ _ h with c | c
 · exact ha c
 · exact hb c
theorem rep_plus {d : K} (E : Edw d) {X Y Z T x1 y1 x2 y2 x3 y3 : K} (e1 : OnC d x1 y1) (e2 : OnC d x2 y2) (h : Rep X Y Z T x1 y1) (hs : IsSum d x1 y1 x2 y2 x3 y3) :
 Rep (((Y + X) * (y2 + x2) - (Y - X) * (y2 - x2)) * ((Z + Z) - T * ((d + d) * (x2 * y2)))) (((Y + X) * (y2 + x2) + (Y - X) * (y2 - x2)) * ((Z + Z) + T * ((d + d) * (x2 * y2)))) (((Z + Z) + T * ((d + d) * (x2 * y2))) * ((Z + Z) - T * ((d + d) * (x2 * y2)))) (((Y + X) * (y2 + x2) - (Y - X) * (y2 - x2)) * ((Y + X) * (y2 + x2) + (Y - X) * (y2 - x2))) x3 y3 := by
 obtain ⟨hz, rfl, rfl, rfl⟩ := h; have hp := dp_ne E e1 e2; have hm := dm_ne E e1 e2; obtain ⟨hx, hy⟩ := hs; unfold nx at hx; unfold ny at hy; have a1 : (Z + Z) + x1 * y1 * Z * ((d + d) * (x2 * y2)) = 2 * Z * dp d x1 y1 x2 y2 := by unfold dp; grind
 have a2 : (Z + Z) - x1 * y1 * Z * ((d + d) * (x2 * y2)) = 2 * Z * dm d x1 y1 x2 y2 := by unfold dm; grind
 have a3 : (y1 * Z + x1 * Z) * (y2 + x2) - (y1 * Z - x1 * Z) * (y2 - x2) = 2 * Z * (x3 * dp d x1 y1 x2 y2) := by rw [hx]; grind
 have a4 : (y1 * Z + x1 * Z) * (y2 + x2) + (y1 * Z - x1 * Z) * (y2 - x2) = 2 * Z * (y3 * dm d x1 y1 x2 y2) := by rw [hy]; grind
 rw [a1, a2, a3, a4]; refine ⟨E.mul_ne (E.mul_ne (E.mul_ne E.two hz) hp) (E.mul_ne (E.mul_ne E.two hz) hm), ?_, ?_, ?_⟩ <;> grind
theorem rep_twice {d : K} (E : Edw d) {X Y Z T x1 y1 x3 y3 : K} (e1 : OnC d x1 y1) (h : Rep X Y Z T x1 y1) (hs : IsSum d x1 y1 x1 y1 x3 y3) :
 Rep (((X + Y) * (X + Y) - (Y * Y + X * X)) * ((Z * Z + Z * Z) - (Y * Y - X * X))) ((Y * Y + X * X) * (Y * Y - X * X)) ((Y * Y - X * X) * ((Z * Z + Z * Z) - (Y * Y - X * X))) (((X + Y) * (X + Y) - (Y * Y + X * X)) * (Y * Y + X * X)) x3 y3 := by
 obtain ⟨hz, rfl, rfl, rfl⟩ := h; have hp := dp_ne E e1 e1; have hm := dm_ne E e1 e1; obtain ⟨hx, hy⟩ := hs; unfold nx at hx; unfold ny at hy; unfold OnC at e1; have a1 : y1 * Z * (y1 * Z) - x1 * Z * (x1 * Z) = Z * Z * dp d x1 y1 x1 y1 := by unfold dp; grind
 have a2 : (Z * Z + Z * Z) - Z * Z * dp d x1 y1 x1 y1 = Z * Z * dm d x1 y1 x1 y1 := by unfold dp dm; grind
 have a3 : (x1 * Z + y1 * Z) * (x1 * Z + y1 * Z) - (y1 * Z * (y1 * Z) + x1 * Z * (x1 * Z)) = Z * Z * (x3 * dp d x1 y1 x1 y1) := by rw [hx]; grind
 have a4 : y1 * Z * (y1 * Z) + x1 * Z * (x1 * Z) = Z * Z * (y3 * dm d x1 y1 x1 y1) := by rw [hy]; grind
 rw [a3, a4, a1, a2]; have hzz := E.mul_ne hz hz; refine ⟨E.mul_ne (E.mul_ne hzz hp) (E.mul_ne hzz hm), ?_, ?_, ?_⟩ <;> grind
end
end Go.Proofs.YtojfcdjgcgnajaaGreat
