/- The permutation of 25 lanes can be undone: theta, rho and pi, chi, iota, the rounds. Plain arithmetic of 64 bits: no Go in sight. Builds alone (3 s). -/
namespace Go.Proofs.YtmhfgchckebnpaaDoor
theorem rot_xor (a b : BitVec 64) (n : Nat) : (a ^^^ b).rotateLeft n = a.rotateLeft n ^^^ b.rotateLeft n := by
  ext i hi
  simp only [BitVec.getElem_xor, BitVec.getElem_rotateLeft]
  split <;> simp
theorem rot_rot (a : BitVec 64) (n m : Nat) : (a.rotateLeft n).rotateLeft m = a.rotateLeft (n + m) := by
  ext i hi
  simp only [BitVec.getElem_rotateLeft]
  split <;> split <;> split <;> (try (congr 1; omega)) <;> (try omega)
theorem rot_64 (a : BitVec 64) (n : Nat) : a.rotateLeft (64 * n) = a := by
  ext i hi
  simp [BitVec.getElem_rotateLeft]
/-- The sums of the columns behind n times theta, n a power of two. -/
def T (n : Nat) (s : Nat → BitVec 64) (x : Nat) : BitVec 64 := s (x % 5) ^^^ s ((x + 4 * n) % 5) ^^^ (s ((x + n) % 5)).rotateLeft n
theorem TT (n : Nat) (s : Nat → BitVec 64) (x : Nat) : T n (T n s) x = T (2 * n) s x := by
  unfold T
  simp only [rot_xor, rot_rot]
  have e1 : x % 5 % 5 = x % 5 := by omega
  have e2 : (x % 5 + 4 * n) % 5 = (x + 4 * n) % 5 := by omega
  have e3 : (x % 5 + n) % 5 = (x + n) % 5 := by omega
  have e4 : (x + 4 * n) % 5 % 5 = (x + 4 * n) % 5 := by omega
  have e5 : ((x + 4 * n) % 5 + 4 * n) % 5 = (x + 4 * (2 * n)) % 5 := by omega
  have e6 : ((x + 4 * n) % 5 + n) % 5 = x % 5 := by omega
  have e7 : (x + n) % 5 % 5 = (x + n) % 5 := by omega
  have e8 : ((x + n) % 5 + 4 * n) % 5 = x % 5 := by omega
  have e9 : ((x + n) % 5 + n) % 5 = (x + 2 * n) % 5 := by omega
  rw [e1, e2, e3, e4, e5, e6, e7, e8, e9, show n + n = 2 * n from by omega]
  generalize s (x % 5) = a
  generalize s ((x + 4 * n) % 5) = b
  generalize s ((x + 4 * (2 * n)) % 5) = c
  generalize s ((x + n) % 5) = d
  generalize s ((x + 2 * n) % 5) = e
  ext i hi
  simp only [BitVec.getElem_xor]
  generalize a[i] = a
  generalize b[i] = b
  generalize c[i] = c
  generalize (d.rotateLeft n)[i] = d
  generalize (BitVec.rotateLeft _ n)[i] = f
  generalize (e.rotateLeft (2 * n))[i] = e
  cases a <;> cases b <;> cases c <;> cases d <;> cases e <;> cases f <;> rfl
theorem T_end (s : Nat → BitVec 64) (x : Nat) (hx : x < 5) : T 128 (T 64 s) x = s x := by
  unfold T
  have r64 : ∀ a : BitVec 64, a.rotateLeft 64 = a := fun a => rot_64 a 1
  have r128 : ∀ a : BitVec 64, a.rotateLeft 128 = a := fun a => rot_64 a 2
  simp only [r64, r128]
  rcases (by omega : x = 0 ∨ x = 1 ∨ x = 2 ∨ x = 3 ∨ x = 4) with rfl | rfl | rfl | rfl | rfl
  all_goals
    simp only [Nat.reduceMod, Nat.reduceAdd, Nat.reduceMul]
    ext i hi
    simp only [BitVec.getElem_xor]
    cases (s 0)[i] <;> cases (s 1)[i] <;> cases (s 2)[i] <;> cases (s 3)[i] <;> cases (s 4)[i] <;> rfl
/-- chi of one row. -/
def chi (a b c : BitVec 64) : BitVec 64 := a ^^^ (c &&& ~~~b)
theorem chi4 (a b c d e : BitVec 64) :
    let r := fun (p : BitVec 64 × BitVec 64 × BitVec 64 × BitVec 64 × BitVec 64) => (chi p.1 p.2.1 p.2.2.1, chi p.2.1 p.2.2.1 p.2.2.2.1, chi p.2.2.1 p.2.2.2.1 p.2.2.2.2, chi p.2.2.2.1 p.2.2.2.2 p.1, chi p.2.2.2.2 p.1 p.2.1)
    r (r (r (r (a, b, c, d, e)))) = (a, b, c, d, e) := by
  simp only [chi, Prod.mk.injEq]
  refine ⟨?_, ?_, ?_, ?_, ?_⟩
  all_goals
    ext i hi
    simp only [BitVec.getElem_xor, BitVec.getElem_and, BitVec.getElem_not]
    cases a[i] <;> cases b[i] <;> cases c[i] <;> cases d[i] <;> cases e[i] <;> rfl
theorem T_comm (n m : Nat) (s : Nat → BitVec 64) (x : Nat) : T n (T m s) x = T m (T n s) x := by
  unfold T
  simp only [rot_xor, rot_rot]
  have e : ∀ a b : Nat, (x % 5 + a) % 5 = (x + a) % 5 := fun a _ => by omega
  have e1 : ∀ a b : Nat, ((x + a) % 5 + b) % 5 = (x + (a + b)) % 5 := fun a b => by omega
  have e2 : ∀ a : Nat, (x + a) % 5 % 5 = (x + a) % 5 := fun a => by omega
  have e3 : x % 5 % 5 = x % 5 := by omega
  have e4 : ∀ a : Nat, (x % 5 + a) % 5 = (x + a) % 5 := fun a => by omega
  simp only [e1, e2, e3, e4]
  rw [Nat.add_comm (4 * n) (4 * m), Nat.add_comm (4 * n) m, Nat.add_comm n (4 * m), Nat.add_comm n m]
  generalize s (x % 5) = a
  generalize s ((x + 4 * n) % 5) = b
  generalize s ((x + 4 * m) % 5) = c
  generalize s ((x + (4 * m + 4 * n)) % 5) = d
  generalize s ((x + n) % 5) = f
  generalize s ((x + m) % 5) = g
  generalize s ((x + (m + 4 * n)) % 5) = h
  generalize s ((x + (4 * m + n)) % 5) = k
  generalize s ((x + (m + n)) % 5) = l
  ext i hi
  simp only [BitVec.getElem_xor]
  generalize a[i] = a
  generalize b[i] = b
  generalize c[i] = c
  generalize d[i] = d
  generalize (BitVec.rotateLeft f n)[i] = f
  generalize (BitVec.rotateLeft g m)[i] = g
  generalize (BitVec.rotateLeft h m)[i] = h
  generalize (BitVec.rotateLeft k n)[i] = k
  generalize (BitVec.rotateLeft l _)[i] = l
  cases a <;> cases b <;> cases c <;> cases d <;> cases f <;> cases g <;> cases h <;> cases k <;> cases l <;> rfl
/-- The sums of the columns. -/
def sums (S : Nat → BitVec 64) (x : Nat) : BitVec 64 := S x ^^^ S (x + 5) ^^^ S (x + 10) ^^^ S (x + 15) ^^^ S (x + 20)
/-- What theta adds to the column x. -/
def dif (c : Nat → BitVec 64) (x : Nat) : BitVec 64 := c ((x + 4) % 5) ^^^ (c ((x + 1) % 5)).rotateLeft 1
def spread (S c : Nat → BitVec 64) (j : Nat) : BitVec 64 := S j ^^^ dif c (j % 5)
theorem spread_twice (S c : Nat → BitVec 64) (j : Nat) : spread (spread S c) c j = S j := by
  unfold spread
  rw [BitVec.xor_assoc, BitVec.xor_self, BitVec.xor_zero]
theorem sums_spread (S c : Nat → BitVec 64) (x : Nat) (hx : x < 5) : sums (spread S c) x = sums S x ^^^ dif c x := by
  unfold sums spread
  have e : ∀ k, (x + 5 * k) % 5 = x := fun k => by omega
  rw [show x % 5 = x from by omega, show (x + 5) % 5 = x from by omega, show (x + 10) % 5 = x from by omega, show (x + 15) % 5 = x from by omega, show (x + 20) % 5 = x from by omega]
  ext i hi
  simp only [BitVec.getElem_xor]
  cases (S x)[i] <;> cases (S (x + 5))[i] <;> cases (S (x + 10))[i] <;> cases (S (x + 15))[i] <;> cases (S (x + 20))[i] <;> cases (dif c x)[i] <;> rfl
theorem T_dif (s : Nat → BitVec 64) (x : Nat) (hx : x < 5) : T 1 s x = s x ^^^ dif s x := by
  unfold T dif
  rw [Nat.mod_eq_of_lt hx, Nat.mul_one, BitVec.xor_assoc]
theorem T_congr (n : Nat) {s t : Nat → BitVec 64} (h : ∀ x, x < 5 → s x = t x) (x : Nat) : T n s x = T n t x := by
  unfold T
  rw [h _ (Nat.mod_lt _ (by decide)), h _ (Nat.mod_lt _ (by decide)), h _ (Nat.mod_lt _ (by decide))]
/-- The sums ahead of theta. -/
def before (s : Nat → BitVec 64) : Nat → BitVec 64 := T 128 (T 32 (T 16 (T 8 (T 4 (T 2 (T 1 s))))))
theorem before_T (s : Nat → BitVec 64) (x : Nat) (hx : x < 5) : before (T 1 s) x = s x := by
  unfold before
  have h2 : T 1 (T 1 s) = T 2 s := funext fun x => TT 1 s x
  have h4 : T 2 (T 2 s) = T 4 s := funext fun x => TT 2 s x
  have h8 : T 4 (T 4 s) = T 8 s := funext fun x => TT 4 s x
  have h16 : T 8 (T 8 s) = T 16 s := funext fun x => TT 8 s x
  have h32 : T 16 (T 16 s) = T 32 s := funext fun x => TT 16 s x
  have h64 : T 32 (T 32 s) = T 64 s := funext fun x => TT 32 s x
  rw [h2, h4, h8, h16, h32, h64]
  exact T_end s x hx
theorem T_before (s : Nat → BitVec 64) (x : Nat) (hx : x < 5) : T 1 (before s) x = s x := by
  rw [← before_T s x hx]
  unfold before
  have c : ∀ n (s : Nat → BitVec 64), T 1 (T n s) = T n (T 1 s) := fun n s => funext fun x => T_comm 1 n s x
  rw [c, c, c, c, c, c]
def theta (S : Nat → BitVec 64) : Nat → BitVec 64 := spread S (sums S)
def untheta (S : Nat → BitVec 64) : Nat → BitVec 64 := spread S (before (sums S))
theorem dif_congr {c d : Nat → BitVec 64} (h : ∀ x, x < 5 → c x = d x) (x : Nat) : dif c x = dif d x := by
  unfold dif
  rw [h _ (Nat.mod_lt _ (by decide)), h _ (Nat.mod_lt _ (by decide))]
theorem before_congr {s t : Nat → BitVec 64} (h : ∀ x, x < 5 → s x = t x) (x : Nat) : before s x = before t x := by
  unfold before
  exact T_congr _ (fun x _ => T_congr _ (fun x _ => T_congr _ (fun x _ => T_congr _ (fun x _ => T_congr _ (fun x _ => T_congr _ (fun x _ => T_congr _ h x) x) x) x) x) x) x
theorem untheta_theta (S : Nat → BitVec 64) (j : Nat) : untheta (theta S) j = S j := by
  unfold untheta
  have h1 : ∀ x, x < 5 → sums (theta S) x = T 1 (sums S) x := fun x hx => by
    unfold theta; rw [sums_spread S _ x hx, T_dif _ x hx]
  have h2 : ∀ x, x < 5 → before (sums (theta S)) x = sums S x := fun x hx => by
    rw [before_congr h1 x, before_T _ x hx]
  show theta S j ^^^ dif (before (sums (theta S))) (j % 5) = S j
  rw [dif_congr h2]
  exact spread_twice S (sums S) j
theorem theta_untheta (S : Nat → BitVec 64) (j : Nat) : theta (untheta S) j = S j := by
  have h1 : ∀ x, x < 5 → sums (untheta S) x = before (sums S) x := fun x hx => by
    unfold untheta
    rw [sums_spread S _ x hx]
    have h := T_before (sums S) x hx
    rw [T_dif _ x hx] at h
    rw [← h, BitVec.xor_assoc, BitVec.xor_self, BitVec.xor_zero]
  show untheta S j ^^^ dif (sums (untheta S)) (j % 5) = S j
  rw [dif_congr h1]
  exact spread_twice S (before (sums S)) j
/-- The path of rho and pi. -/
def path (t : Nat) : Nat := [1, 10, 7, 11, 17, 18, 3, 5, 16, 8, 21, 24, 4, 15, 23, 19, 13, 12, 2, 20, 14, 22, 9, 6, 1].getD t 0
/-- The place of a lane on the path, from the second on. -/
def pos (j : Nat) : Nat := [0, 24, 18, 6, 12, 7, 23, 2, 9, 22, 1, 3, 17, 16, 20, 13, 8, 4, 5, 15, 19, 10, 21, 14, 11].getD j 0
/-- rho's offset at the path's step t. -/
def turn (t : Nat) : Nat := (t + 1) * (t + 2) / 2
/-- rho and pi, up to the path's step k. -/
def walkTo (S : Nat → BitVec 64) (k j : Nat) : BitVec 64 := if j ≠ 0 ∧ pos j ≤ k then (S (path (pos j - 1))).rotateLeft (turn (pos j - 1) % 64) else S j
def walk (S : Nat → BitVec 64) (j : Nat) : BitVec 64 := walkTo S 24 j
/-- The place of a lane on the path, from the first on. -/
def pos0 (j : Nat) : Nat := if j = 1 then 0 else pos j
/-- rho and pi taken back, from the path's step k on. -/
def backTo (S : Nat → BitVec 64) (k j : Nat) : BitVec 64 := if j ≠ 0 ∧ k ≤ pos0 j then (S (path (pos0 j + 1))).rotateLeft (64 - turn (pos0 j) % 64) else S j
def back (S : Nat → BitVec 64) (j : Nat) : BitVec 64 := backTo S 0 j
theorem pos_path : ∀ t : Fin 24, pos (path (t.val + 1)) = t.val + 1 ∧ path (t.val + 1) ≠ 0 ∧ path (t.val + 1) < 25 := by decide
theorem path_pos : ∀ j : Fin 25, j.val ≠ 0 → path (pos j.val) = j.val ∧ 1 ≤ pos j.val ∧ pos j.val ≤ 24 := by decide
theorem pos0_path : ∀ t : Fin 24, pos0 (path t.val) = t.val ∧ path t.val ≠ 0 := by decide
theorem path_pos0 : ∀ j : Fin 25, j.val ≠ 0 → path (pos0 j.val) = j.val ∧ pos0 j.val < 24 := by decide
theorem rot_mod (a : BitVec 64) (n : Nat) : a.rotateLeft (n % 64) = a.rotateLeft n := by
  ext i hi
  simp only [BitVec.getElem_rotateLeft, Nat.mod_mod]
theorem rot_back (a : BitVec 64) (n : Nat) : (a.rotateLeft (n % 64)).rotateLeft (64 - n % 64) = a := by
  rw [rot_rot, show n % 64 + (64 - n % 64) = 64 * 1 from by omega, rot_64]
theorem back_rot (a : BitVec 64) (n : Nat) : (a.rotateLeft (64 - n % 64)).rotateLeft (n % 64) = a := by
  rw [rot_rot, show 64 - n % 64 + n % 64 = 64 * 1 from by omega, rot_64]
theorem back_walk (S : Nat → BitVec 64) (j : Nat) (hj : j < 25) : back (walk S) j = S j := by
  unfold back backTo
  by_cases h0 : j = 0
  · rw [if_neg (by simp [h0])]
    unfold walk walkTo; rw [if_neg (by simp [h0])]
  · obtain ⟨h1, h2⟩ := path_pos0 ⟨j, hj⟩ h0
    obtain ⟨g1, g2, g3⟩ := pos_path ⟨pos0 j, h2⟩
    simp only at h1 h2 g1 g2 g3
    rw [if_pos ⟨h0, Nat.zero_le _⟩]
    unfold walk walkTo
    rw [if_pos ⟨g2, by omega⟩, g1, Nat.add_sub_cancel, rot_back, h1]
theorem walk_back (S : Nat → BitVec 64) (j : Nat) (hj : j < 25) : walk (back S) j = S j := by
  unfold walk walkTo
  by_cases h0 : j = 0
  · rw [if_neg (by simp [h0])]
    unfold back backTo; rw [if_neg (by simp [h0])]
  · obtain ⟨h1, h2, h3⟩ := path_pos ⟨j, hj⟩ h0
    simp only at h1 h2 h3
    obtain ⟨g1, g2⟩ := pos0_path ⟨pos j - 1, by omega⟩
    simp only at g1 g2
    rw [if_pos ⟨h0, h3⟩]
    unfold back backTo
    rw [if_pos ⟨g2, Nat.zero_le _⟩, g1, back_rot, show pos j - 1 + 1 = pos j from by omega, h1]
/-- chi. -/
def mix (S : Nat → BitVec 64) (j : Nat) : BitVec 64 := S j ^^^ (S (j / 5 * 5 + (j % 5 + 2) % 5) &&& ~~~ S (j / 5 * 5 + (j % 5 + 1) % 5))
theorem mix4 (S : Nat → BitVec 64) (j : Nat) (hj : j < 25) : mix (mix (mix (mix S))) j = S j := by
  obtain ⟨y, x, hx, hy, rfl⟩ : ∃ y x, x < 5 ∧ y < 5 ∧ j = 5 * y + x := ⟨j / 5, j % 5, by omega, by omega, by omega⟩
  have d : ∀ k, k < 5 → (5 * y + k) / 5 * 5 = 5 * y := fun k hk => by omega
  have m : ∀ k, k < 5 → (5 * y + k) % 5 = k := fun k hk => by omega
  have step : ∀ (S : Nat → BitVec 64) k, k < 5 → mix S (5 * y + k) = chi (S (5 * y + k)) (S (5 * y + (k + 1) % 5)) (S (5 * y + (k + 2) % 5)) := fun S k hk => by
    unfold mix chi; rw [d k hk, m k hk]
  have c := chi4 (S (5 * y)) (S (5 * y + 1)) (S (5 * y + 2)) (S (5 * y + 3)) (S (5 * y + 4))
  simp only [Prod.mk.injEq] at c
  have s0 : ∀ S, mix S (5 * y) = chi (S (5 * y)) (S (5 * y + 1)) (S (5 * y + 2)) := fun S => step S 0 (by decide)
  have s1 : ∀ S, mix S (5 * y + 1) = chi (S (5 * y + 1)) (S (5 * y + 2)) (S (5 * y + 3)) := fun S => step S 1 (by decide)
  have s2 : ∀ S, mix S (5 * y + 2) = chi (S (5 * y + 2)) (S (5 * y + 3)) (S (5 * y + 4)) := fun S => step S 2 (by decide)
  have s3 : ∀ S, mix S (5 * y + 3) = chi (S (5 * y + 3)) (S (5 * y + 4)) (S (5 * y)) := fun S => step S 3 (by decide)
  have s4 : ∀ S, mix S (5 * y + 4) = chi (S (5 * y + 4)) (S (5 * y)) (S (5 * y + 1)) := fun S => step S 4 (by decide)
  rcases (by omega : x = 0 ∨ x = 1 ∨ x = 2 ∨ x = 3 ∨ x = 4) with rfl | rfl | rfl | rfl | rfl
  · simp only [Nat.add_zero, s0, s1, s2, s3, s4]; exact c.1
  · simp only [s0, s1, s2, s3, s4]; exact c.2.1
  · simp only [s0, s1, s2, s3, s4]; exact c.2.2.1
  · simp only [s0, s1, s2, s3, s4]; exact c.2.2.2.1
  · simp only [s0, s1, s2, s3, s4]; exact c.2.2.2.2
/-- The same lanes. -/
def Same (S R : Nat → BitVec 64) : Prop := ∀ j, j < 25 → S j = R j
theorem sums_same {S R : Nat → BitVec 64} (h : Same S R) (x : Nat) (hx : x < 5) : sums S x = sums R x := by
  unfold sums
  rw [h x (by omega), h (x + 5) (by omega), h (x + 10) (by omega), h (x + 15) (by omega), h (x + 20) (by omega)]
theorem theta_same {S R : Nat → BitVec 64} (h : Same S R) : Same (theta S) (theta R) := fun j hj => by
  show S j ^^^ dif (sums S) (j % 5) = R j ^^^ dif (sums R) (j % 5)
  rw [h j hj, dif_congr (sums_same h)]
theorem untheta_same {S R : Nat → BitVec 64} (h : Same S R) : Same (untheta S) (untheta R) := fun j hj => by
  show S j ^^^ dif (before (sums S)) (j % 5) = R j ^^^ dif (before (sums R)) (j % 5)
  rw [h j hj, dif_congr (fun x _ => before_congr (sums_same h) x)]
theorem path_lt (t : Nat) : path t < 25 := by
  rcases Nat.lt_or_ge t 25 with h | h
  · exact (show ∀ t : Fin 25, path t.val < 25 by decide) ⟨t, h⟩
  · unfold path; rw [List.getD, List.getElem?_eq_none (by simpa using h)]; decide
theorem walk_same {S R : Nat → BitVec 64} (h : Same S R) : Same (walk S) (walk R) := fun j hj => by
  unfold walk walkTo; rw [h _ (path_lt _), h j hj]
theorem back_same {S R : Nat → BitVec 64} (h : Same S R) : Same (back S) (back R) := fun j hj => by
  unfold back backTo; rw [h _ (path_lt _), h j hj]
theorem mix_same {S R : Nat → BitVec 64} (h : Same S R) : Same (mix S) (mix R) := fun j hj => by
  unfold mix; rw [h j hj, h _ (by omega), h _ (by omega)]
/-- iota. -/
def iota (c : BitVec 64) (S : Nat → BitVec 64) (j : Nat) : BitVec 64 := if j = 0 then S 0 ^^^ c else S j
theorem iota_same {c : BitVec 64} {S R : Nat → BitVec 64} (h : Same S R) : Same (iota c S) (iota c R) := fun j hj => by
  unfold iota; rw [h 0 (by decide), h j hj]
theorem iota_twice (c : BitVec 64) (S : Nat → BitVec 64) : Same (iota c (iota c S)) S := fun j _ => by
  unfold iota
  by_cases h : j = 0
  · subst h; simp [BitVec.xor_assoc]
  · rw [if_neg h, if_neg h]
def round (S : Nat → BitVec 64) (c : BitVec 64) : Nat → BitVec 64 := iota c (mix (walk (theta S)))
def unround (c : BitVec 64) (S : Nat → BitVec 64) : Nat → BitVec 64 := untheta (back (mix (mix (mix (iota c S)))))
theorem Same.trans {A B C : Nat → BitVec 64} (h : Same A B) (k : Same B C) : Same A C := fun j hj => (h j hj).trans (k j hj)
theorem round_same {S R : Nat → BitVec 64} (h : Same S R) (c : BitVec 64) : Same (round S c) (round R c) := iota_same (mix_same (walk_same (theta_same h)))
theorem unround_same {S R : Nat → BitVec 64} (h : Same S R) (c : BitVec 64) : Same (unround c S) (unround c R) := untheta_same (back_same (mix_same (mix_same (mix_same (iota_same h)))))
theorem unround_round (S : Nat → BitVec 64) (c : BitVec 64) : Same (unround c (round S c)) S := by
  have h1 : Same (iota c (round S c)) (mix (walk (theta S))) := iota_twice c _
  have h2 : Same (mix (mix (mix (iota c (round S c))))) (walk (theta S)) := (mix_same (mix_same (mix_same h1))).trans (fun j hj => mix4 _ j hj)
  have h3 : Same (back (mix (mix (mix (iota c (round S c)))))) (theta S) := (back_same h2).trans (fun j hj => back_walk _ j hj)
  exact (untheta_same h3).trans (fun j _ => untheta_theta S j)
theorem round_unround (S : Nat → BitVec 64) (c : BitVec 64) : Same (round (unround c S) c) S := by
  have h1 : Same (theta (unround c S)) (back (mix (mix (mix (iota c S))))) := fun j _ => theta_untheta _ j
  have h2 : Same (walk (theta (unround c S))) (mix (mix (mix (iota c S)))) := (walk_same h1).trans (fun j hj => walk_back _ j hj)
  have h3 : Same (mix (walk (theta (unround c S)))) (iota c S) := (mix_same h2).trans (fun j hj => mix4 _ j hj)
  exact (iota_same h3).trans (iota_twice c S)
def permute (cs : List (BitVec 64)) (S : Nat → BitVec 64) : Nat → BitVec 64 := cs.foldl round S
def undo (cs : List (BitVec 64)) (S : Nat → BitVec 64) : Nat → BitVec 64 := cs.foldr unround S
theorem permute_same : ∀ (cs : List (BitVec 64)) {S R : Nat → BitVec 64}, Same S R → Same (permute cs S) (permute cs R)
  | [], _, _, h => h
  | c :: cs, _, _, h => permute_same cs (round_same h c)
theorem undo_same : ∀ (cs : List (BitVec 64)) {S R : Nat → BitVec 64}, Same S R → Same (undo cs S) (undo cs R)
  | [], _, _, h => h
  | c :: cs, _, _, h => unround_same (undo_same cs h) c
theorem undo_permute : ∀ (cs : List (BitVec 64)) (S : Nat → BitVec 64), Same (undo cs (permute cs S)) S
  | [], _ => fun _ _ => rfl
  | c :: cs, S => (unround_same (undo_permute cs (round S c)) c).trans (unround_round S c)
theorem permute_undo : ∀ (cs : List (BitVec 64)) (S : Nat → BitVec 64), Same (permute cs (undo cs S)) S
  | [], _ => fun _ _ => rfl
  | c :: cs, S => (permute_same cs (round_unround (undo cs S) c)).trans (permute_undo cs S)
end Go.Proofs.YtmhfgchckebnpaaDoor
