/- RM, RN, laid into one text. -/
/- rlp: trees of bytes, their encoding, and reading it back: mathematics alone. -/
namespace Go.Proofs.YtboeokmaepchgaaGreatDoor
set_option linter.unusedSimpArgs false
set_option linter.unusedVariables false
inductive Tr where
  | mk (l : Bool) (b : List Int) (xs : List Tr)
def Tr.l : Tr → Bool | .mk l _ _ => l
def Tr.b : Tr → List Int | .mk _ b _ => b
def Tr.xs : Tr → List Tr | .mk _ _ xs => xs
theorem Tr.ind {p : Tr → Prop} (h : ∀ l b xs, (∀ x ∈ xs, p x) → p (.mk l b xs)) : ∀ t, p t
  | .mk l b xs => h l b xs fun x _ => Tr.ind h x
  termination_by t => sizeOf t
  decreasing_by
    rename_i hx
    have := List.sizeOf_lt_of_mem hx
    simp
    omega
/-- A number's bytes, the highest first, without noughts ahead. -/
def shortB (n : Nat) : List Int := if h : n = 0 then [] else shortB (n / 256) ++ [((n % 256 : Nat) : Int)]
  termination_by n
  decreasing_by omega
theorem shortB_zero : shortB 0 = [] := by rw [shortB]; rfl
theorem shortB_pos {n : Nat} (h : n ≠ 0) : shortB n = shortB (n / 256) ++ [((n % 256 : Nat) : Int)] := by rw [shortB, dif_neg h]
def Byt (bs : List Int) : Prop := ∀ c ∈ bs, 0 ≤ c ∧ c < 256
theorem shortB_len (k : Nat) : ∀ n, n < 256 ^ k → (shortB n).length ≤ k := by
  induction k with
  | zero => intro n hn; simp at hn; subst hn; rw [shortB_zero]; simp
  | succ k ih =>
    intro n hn
    by_cases h : n = 0
    · subst h; rw [shortB_zero]; simp
    · rw [shortB_pos h, List.length_append]
      have := ih (n / 256) (by rw [Nat.pow_succ] at hn; omega)
      simp
      omega
def headB (kind : Int) (n : Nat) : List Int := if n ≤ 55 then [kind + n] else (kind + 55 + (shortB n).length) :: shortB n
theorem headB_pos (kind : Int) (n : Nat) : 0 < (headB kind n).length := by unfold headB; split <;> simp
def encS (b : List Int) : List Int := if b.length = 1 ∧ b.headD 0 < 128 then b else headB 128 b.length ++ b
mutual
def enc : Tr → List Int
  | .mk l b xs => if l then headB 192 (encL xs).length ++ encL xs else encS b
def encL : List Tr → List Int
  | [] => []
  | x :: xs => enc x ++ encL xs
end
mutual
def shp : Tr → Bool
  | .mk l b xs => (if l then b.isEmpty else xs.isEmpty) && shpL xs
def shpL : List Tr → Bool
  | [] => true
  | x :: xs => shp x && shpL xs
end
mutual
def dep : Tr → Nat
  | .mk l _ xs => if l then depL xs + 1 else 0
def depL : List Tr → Nat
  | [] => 0
  | x :: xs => max (dep x) (depL xs)
end
theorem shpL_iff (xs : List Tr) : shpL xs = true ↔ ∀ x ∈ xs, shp x = true := by
  induction xs with
  | nil => simp [shpL]
  | cons x xs ih => simp [shpL, ih]
theorem depL_le (xs : List Tr) (d : Nat) : depL xs ≤ d ↔ ∀ x ∈ xs, dep x ≤ d := by
  induction xs with
  | nil => simp [depL]
  | cons x xs ih => simp [depL, Nat.max_le, ih]
theorem encL_append (xs ys : List Tr) : encL (xs ++ ys) = encL xs ++ encL ys := by
  induction xs with
  | nil => rfl
  | cons x xs ih => show enc x ++ encL (xs ++ ys) = (enc x ++ encL xs) ++ encL ys; rw [ih, List.append_assoc]
end Go.Proofs.YtboeokmaepchgaaGreatDoor
/- rlp: what is read is written so: mathematics alone. -/
namespace Go.Proofs.YtboeokmaepchgaaGreatDoor
set_option linter.unusedSimpArgs false
set_option linter.unusedVariables false
theorem Byt.drop {s : List Int} (h : Byt s) (k : Nat) : Byt (s.drop k) := fun c hc => h c (List.mem_of_mem_drop hc)
theorem Byt.take {s : List Int} (h : Byt s) (k : Nat) : Byt (s.take k) := fun c hc => h c (List.mem_of_mem_take hc)
end Go.Proofs.YtboeokmaepchgaaGreatDoor
