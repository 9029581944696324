/- RM, RN, laid into one text. -/
/- rlp: trees of bytes, their encoding, and reading it back: mathematics alone. -/
namespace Go.Proofs.Ytmnlcpfehbpogaa
set_option linter.unusedSimpArgs false
set_option linter.unusedVariables false
/-- An item as it may come: both bytes and items. -/
inductive Tr where
  | mk (l : Bool) (b : List Int) (xs : List Tr)
def Tr.l : Tr → Bool | .mk l _ _ => l
def Tr.b : Tr → List Int | .mk _ b _ => b
def Tr.xs : Tr → List Tr | .mk _ _ xs => xs
theorem Tr.ind {p : Tr → Prop} (h : ∀ l b xs, (∀ x ∈ xs, p x) → p (.mk l b xs)) : ∀ t, p t
  | .mk l b xs => h l b xs fun x _ => Tr.ind h x
  termination_by t => sizeOf t
  decreasing_by
    rename_i hx
    have := List.sizeOf_lt_of_mem hx
    simp
    omega
/-- A number's bytes, the highest first, without noughts ahead. -/
def shortB (n : Nat) : List Int := if h : n = 0 then [] else shortB (n / 256) ++ [((n % 256 : Nat) : Int)]
  termination_by n
  decreasing_by omega
theorem shortB_zero : shortB 0 = [] := by rw [shortB]; rfl
theorem shortB_pos {n : Nat} (h : n ≠ 0) : shortB n = shortB (n / 256) ++ [((n % 256 : Nat) : Int)] := by rw [shortB, dif_neg h]
/-- The number of bytes, the highest first. -/
def numB (bs : List Int) : Nat := bs.foldl (fun n c => n * 256 + c.toNat) 0
theorem numB_snoc (bs : List Int) (c : Int) : numB (bs ++ [c]) = numB bs * 256 + c.toNat := by unfold numB; rw [List.foldl_append]; rfl
theorem numB_short (n : Nat) : numB (shortB n) = n := by
  induction n using Nat.strongRecOn with
  | _ n ih =>
    by_cases h : n = 0
    · subst h; rw [shortB_zero]; rfl
    · rw [shortB_pos h, numB_snoc, ih _ (by omega)]
      simp only [Int.toNat_natCast]
      omega
theorem shortB_ne {n : Nat} (h : n ≠ 0) : shortB n ≠ [] := by rw [shortB_pos h]; simp
theorem shortB_head (n : Nat) (h : n ≠ 0) : (shortB n).headD 0 ≠ 0 := by
  induction n using Nat.strongRecOn with
  | _ n ih =>
    rw [shortB_pos h]
    by_cases h2 : n / 256 = 0
    · rw [h2, shortB_zero]
      simp
      omega
    · have := ih (n / 256) (by omega) h2
      cases hs : shortB (n / 256) with
      | nil => exact absurd hs (shortB_ne h2)
      | cons c r => rw [hs] at this; simpa using this
def Byt (bs : List Int) : Prop := ∀ c ∈ bs, 0 ≤ c ∧ c < 256
theorem shortB_byt (n : Nat) : Byt (shortB n) := by
  induction n using Nat.strongRecOn with
  | _ n ih =>
    by_cases h : n = 0
    · subst h; rw [shortB_zero]; intro c hc; cases hc
    · rw [shortB_pos h]
      intro c hc
      rcases List.mem_append.1 hc with hc | hc
      · exact ih _ (by omega) c hc
      · simp at hc
        subst hc
        omega
theorem shortB_len (k : Nat) : ∀ n, n < 256 ^ k → (shortB n).length ≤ k := by
  induction k with
  | zero => intro n hn; simp at hn; subst hn; rw [shortB_zero]; simp
  | succ k ih =>
    intro n hn
    by_cases h : n = 0
    · subst h; rw [shortB_zero]; simp
    · rw [shortB_pos h, List.length_append]
      have := ih (n / 256) (by rw [Nat.pow_succ] at hn; omega)
      simp
      omega
theorem shortB_num : ∀ (k : Nat) (bs : List Int), bs.length = k → Byt bs → bs.headD 0 ≠ 0 ∨ bs = [] → shortB (numB bs) = bs := by
  intro k
  induction k with
  | zero =>
    intro bs hb _ _
    have : bs = [] := List.eq_nil_of_length_eq_zero hb
    subst this
    show shortB 0 = []
    exact shortB_zero
  | succ k ih =>
    intro bs hb hby hh
    obtain ⟨r, c, rfl⟩ : ∃ r c, bs = r ++ [c] := by
      have hne : bs ≠ [] := by intro e; subst e; simp at hb
      exact ⟨bs.dropLast, bs.getLast hne, (List.dropLast_concat_getLast hne).symm⟩
    have hc := hby c (by simp)
    have hr : Byt r := fun x hx => hby x (by simp [hx])
    rw [numB_snoc]
    have hz : numB r * 256 + c.toNat ≠ 0 := by
      intro e
      have h1 : numB r = 0 := by omega
      have h2 : c.toNat = 0 := by omega
      rcases hh with hh | hh
      · cases hr' : r with
        | nil => subst hr'; simp at hh; omega
        | cons d t =>
          rw [hr'] at hh
          simp at hh
          have := ih r (by simp at hb; exact hb) hr (Or.inl (by rw [hr']; simpa using hh))
          rw [h1, shortB_zero, hr'] at this
          cases this
      · simp at hh
    rw [shortB_pos hz, show (numB r * 256 + c.toNat) / 256 = numB r from by omega, show (numB r * 256 + c.toNat) % 256 = c.toNat from by omega]
    rw [ih r (by simp at hb; exact hb) hr (by
      cases hr' : r with
      | nil => exact Or.inr rfl
      | cons d t =>
        rw [hr'] at hh
        rcases hh with hh | hh
        · exact Or.inl (by simpa using hh)
        · simp at hh)]
    rw [Int.toNat_of_nonneg hc.1]
theorem numB_lt : ∀ (bs : List Int), Byt bs → numB bs < 256 ^ bs.length := by
  intro bs
  generalize hk : bs.length = k
  induction k generalizing bs with
  | zero =>
    intro _
    have : bs = [] := List.eq_nil_of_length_eq_zero hk
    subst this
    decide
  | succ k ih =>
    intro hby
    obtain ⟨r, c, rfl⟩ : ∃ r c, bs = r ++ [c] := by
      have hne : bs ≠ [] := by intro e; subst e; simp at hk
      exact ⟨bs.dropLast, bs.getLast hne, (List.dropLast_concat_getLast hne).symm⟩
    have hc := hby c (by simp)
    have := ih r (by simpa using hk) (fun x hx => hby x (by simp [hx]))
    rw [numB_snoc, Nat.pow_succ]
    omega
def headB (kind : Int) (n : Nat) : List Int := if n ≤ 55 then [kind + n] else (kind + 55 + (shortB n).length) :: shortB n
theorem headB_pos (kind : Int) (n : Nat) : 0 < (headB kind n).length := by unfold headB; split <;> simp
def encS (b : List Int) : List Int := if b.length = 1 ∧ b.headD 0 < 128 then b else headB 128 b.length ++ b
mutual
def enc : Tr → List Int
  | .mk l b xs => if l then headB 192 (encL xs).length ++ encL xs else encS b
def encL : List Tr → List Int
  | [] => []
  | x :: xs => enc x ++ encL xs
end
mutual
def shp : Tr → Bool
  | .mk l b xs => (if l then b.isEmpty else xs.isEmpty) && shpL xs
def shpL : List Tr → Bool
  | [] => true
  | x :: xs => shp x && shpL xs
end
mutual
def dep : Tr → Nat
  | .mk l _ xs => if l then depL xs + 1 else 0
def depL : List Tr → Nat
  | [] => 0
  | x :: xs => max (dep x) (depL xs)
end
mutual
def BytT : Tr → Prop
  | .mk _ b xs => Byt b ∧ BytL xs
def BytL : List Tr → Prop
  | [] => True
  | x :: xs => BytT x ∧ BytL xs
end
theorem shpL_iff (xs : List Tr) : shpL xs = true ↔ ∀ x ∈ xs, shp x = true := by
  induction xs with
  | nil => simp [shpL]
  | cons x xs ih => simp [shpL, ih]
theorem BytL_iff (xs : List Tr) : BytL xs ↔ ∀ x ∈ xs, BytT x := by
  induction xs with
  | nil => simp [BytL]
  | cons x xs ih => simp [BytL, ih]
theorem depL_le (xs : List Tr) (d : Nat) : depL xs ≤ d ↔ ∀ x ∈ xs, dep x ≤ d := by
  induction xs with
  | nil => simp [depL]
  | cons x xs ih => simp [depL, Nat.max_le, ih]
theorem encL_append (xs ys : List Tr) : encL (xs ++ ys) = encL xs ++ encL ys := by
  induction xs with
  | nil => rfl
  | cons x xs ih => show enc x ++ encL (xs ++ ys) = (enc x ++ encL xs) ++ encL ys; rw [ih, List.append_assoc]
theorem encS_pos (b : List Int) : 0 < (encS b).length := by
  unfold encS
  split
  · omega
  · have := headB_pos 128 b.length; rw [List.length_append]; omega
theorem enc_pos (x : Tr) : 0 < (enc x).length := by
  cases x with
  | mk l b xs =>
    unfold enc
    split
    · have := headB_pos 192 (encL xs).length; rw [List.length_append]; omega
    · exact encS_pos b
/-- What a head tells: how many bytes it has behind its first, and how many stand behind it. -/
def szH (s : List Int) (told : Nat) : Except Int (Nat × Nat) :=
  if told ≤ 55 then .ok (0, told) else
  if s.length < told - 55 then .error 10 else
  if s.headD 0 = 0 ∨ numB (s.take (told - 55)) ≤ 55 then .error 11 else .ok (told - 55, numB (s.take (told - 55)))
def sps : List Int → Except Int (Bool × Nat × Nat)
  | [] => .error 10
  | c :: r => if c < 128 then .ok (false, 0, 1) else
    match szH r (c - (if 192 ≤ c then 192 else 128)).toNat with
    | .error e => .error e
    | .ok (h, n) => if r.length - h < n then .error 10 else
      if c < 192 ∧ n = 1 ∧ (r.drop h).headD 0 < 128 then .error 11 else .ok (decide (192 ≤ c), 1 + h, n)
def itF (f : List Int → Except Int (Tr × Nat)) : Nat → Nat → List Int → Except Int (List Tr)
  | 0, left, _ => if left = 0 then .ok [] else .error 99
  | k + 1, left, s => if left = 0 then .ok [] else
    match f s with
    | .error e => .error e
    | .ok (x, n) => if left < n then .error 11 else
      match itF f k (left - n) (s.drop n) with
      | .error e => .error e
      | .ok xs => .ok (x :: xs)
def fs : Nat → List Int → Except Int (Tr × Nat)
  | 0, s =>
    match sps s with
    | .error e => .error e
    | .ok (false, h, n) => .ok (.mk false ((s.drop h).take n) [], h + n)
    | .ok (true, _, _) => .error 3
  | d + 1, s =>
    match sps s with
    | .error e => .error e
    | .ok (false, h, n) => .ok (.mk false ((s.drop h).take n) [], h + n)
    | .ok (true, h, n) =>
      match itF (fs d) n n (s.drop h) with
      | .error e => .error e
      | .ok xs => .ok (.mk true [] xs, h + n)
/-- A head that was written is read. -/
theorem sps_head (kind : Int) (hk : kind = 128 ∨ kind = 192) (m : Nat) (hm : m < 256 ^ 8) (rest : List Int) (hr : m ≤ rest.length) (hone : ¬ (kind = 128 ∧ m = 1 ∧ rest.headD 0 < 128)) :
    sps (headB kind m ++ rest) = .ok (decide (kind = 192), (headB kind m).length, m) := by
  unfold headB
  by_cases h : m ≤ 55
  · rw [if_pos h]
    simp only [List.cons_append, List.nil_append, sps]
    rw [if_neg (by omega)]
    have ek : (kind + (m : Int) - if 192 ≤ kind + (m : Int) then 192 else 128).toNat = m := by
      rcases hk with rfl | rfl
      · rw [if_neg (by omega)]; omega
      · rw [if_pos (by omega)]; omega
    rw [ek]
    simp only [szH, if_pos h, Nat.sub_zero, List.drop_zero]
    rw [if_neg (by omega), if_neg (by intro hh; exact hone ⟨by omega, hh.2.1, hh.2.2⟩)]
    rcases hk with rfl | rfl
    · rw [decide_eq_false (by omega), decide_eq_false (by omega)]; simp
    · rw [decide_eq_true (by omega), decide_eq_true (by omega)]; simp
  · rw [if_neg h]
    have hl := shortB_len 8 m hm
    have hp : 0 < (shortB m).length := List.length_pos_iff.2 (shortB_ne (by omega))
    simp only [List.cons_append, sps]
    rw [if_neg (by omega)]
    have ek : (kind + 55 + ((shortB m).length : Int) - if 192 ≤ kind + 55 + ((shortB m).length : Int) then 192 else 128).toNat = 55 + (shortB m).length := by
      rcases hk with rfl | rfl
      · rw [if_neg (by omega)]; omega
      · rw [if_pos (by omega)]; omega
    rw [ek]
    have e3 : 55 + (shortB m).length - 55 = (shortB m).length := by omega
    have e4 : (shortB m ++ rest).take (shortB m).length = shortB m := by simp
    have e5 : (shortB m ++ rest).headD 0 = (shortB m).headD 0 := by
      cases hs : shortB m with
      | nil => rw [hs] at hp; simp at hp
      | cons c r => rfl
    have e6 : (shortB m ++ rest).drop (shortB m).length = rest := by simp
    simp only [szH]
    rw [if_neg (by omega), e3, if_neg (by rw [List.length_append]; omega), e4, e5, numB_short, if_neg (by rintro (h1 | h1); exact shortB_head m (by omega) h1; omega)]
    simp only [e6]
    rw [if_neg (by rw [List.length_append]; omega), if_neg (by intro hh; exact hone ⟨by omega, hh.2.1, hh.2.2⟩)]
    rcases hk with rfl | rfl
    · rw [decide_eq_false (by omega), decide_eq_false (by omega)]; simp [Nat.add_comm]
    · rw [decide_eq_true (by omega), decide_eq_true (by omega)]; simp [Nat.add_comm]
theorem sps_encS (b post : List Int) (hb : b.length < 256 ^ 8) (hby : Byt b) :
    ∃ h, sps (encS b ++ post) = .ok (false, h, b.length) ∧ h + b.length = (encS b).length ∧ (encS b).drop h = b := by
  unfold encS
  by_cases h : b.length = 1 ∧ b.headD 0 < 128
  · rw [if_pos h]
    obtain ⟨c, rfl⟩ := List.length_eq_one_iff.1 h.1
    simp at h
    refine ⟨0, ?_, by simp, by simp⟩
    simp [sps, h]
  · rw [if_neg h, List.append_assoc, sps_head 128 (Or.inl rfl) b.length hb (b ++ post) (by rw [List.length_append]; omega) (fun hh => h ⟨hh.2.1, by
      obtain ⟨c, hc⟩ := List.length_eq_one_iff.1 hh.2.1
      have := hh.2.2
      rw [hc] at this ⊢
      simpa using this⟩)]
    exact ⟨_, rfl, by rw [List.length_append], by simp⟩
theorem itF_enc (f : List Int → Except Int (Tr × Nat)) (post : List Int) : ∀ (xs : List Tr), (∀ x ∈ xs, ∀ p, f (enc x ++ p) = .ok (x, (enc x).length)) → ∀ k, (encL xs).length ≤ k → itF f k (encL xs).length (encL xs ++ post) = .ok xs := by
  intro xs
  induction xs with
  | nil => intro _ k _; cases k <;> simp [itF, encL]
  | cons x xs ih =>
    intro hx k hk
    have hp := enc_pos x
    have hl : (encL (x :: xs)).length = (enc x).length + (encL xs).length := by show (enc x ++ encL xs).length = _; rw [List.length_append]
    cases k with
    | zero => omega
    | succ k =>
      have e1 : encL (x :: xs) ++ post = enc x ++ (encL xs ++ post) := by show (enc x ++ encL xs) ++ post = _; rw [List.append_assoc]
      rw [itF, if_neg (by omega), e1, hx x (by simp)]
      simp only [hl]
      rw [if_neg (by omega), show (enc x).length + (encL xs).length - (enc x).length = (encL xs).length from by omega, show (enc x ++ (encL xs ++ post)).drop (enc x).length = encL xs ++ post from by simp, ih (fun y hy => hx y (by simp [hy])) k (by omega)]
theorem fs_bytes (d : Nat) {s : List Int} {h n : Nat} (e : sps s = .ok (false, h, n)) : fs d s = .ok (.mk false ((s.drop h).take n) [], h + n) := by
  cases d <;> simp [fs, e]
theorem fs_error (d : Nat) {s : List Int} {c : Int} (e : sps s = .error c) : fs d s = .error c := by
  cases d <;> simp [fs, e]
/-- What was written is read, whatever stands behind it. -/
theorem fs_enc : ∀ x : Tr, shp x = true → BytT x → (enc x).length < 256 ^ 8 → ∀ d, dep x ≤ d → ∀ post, fs d (enc x ++ post) = .ok (x, (enc x).length) := by
  intro x
  induction x using Tr.ind with
  | h l b xs ih =>
    intro hs hb hl d hd post
    unfold shp at hs
    unfold BytT at hb
    cases l with
    | false =>
      simp only [Bool.false_eq_true, if_false, Bool.and_eq_true] at hs
      have hx : xs = [] := by simpa using hs.1
      subst hx
      have e0 : enc (.mk false b []) = encS b := by unfold enc; simp
      rw [e0] at hl ⊢
      have hbl : b.length ≤ (encS b).length := by unfold encS; split <;> simp
      obtain ⟨h, e1, e2, e3⟩ := sps_encS b post (by omega) hb.1
      rw [fs_bytes d e1, e2]
      congr 2
      have : ((encS b ++ post).drop h).take b.length = b := by
        rw [List.drop_append_of_le_length (by omega), e3, List.take_append_of_le_length (by omega), List.take_length]
      rw [this]
    | true =>
      simp only [if_true, Bool.and_eq_true] at hs
      have hb0 : b = [] := by simpa using hs.1
      subst hb0
      have e0 : enc (.mk true [] xs) = headB 192 (encL xs).length ++ encL xs := by unfold enc; simp
      have hll : (enc (.mk true [] xs)).length = (headB 192 (encL xs).length).length + (encL xs).length := by rw [e0, List.length_append]
      have hd' : depL xs + 1 ≤ d := by unfold dep at hd; simpa using hd
      cases d with
      | zero => omega
      | succ d =>
        rw [hll, e0, List.append_assoc]
        have e1 := sps_head 192 (Or.inr rfl) (encL xs).length (by omega) (encL xs ++ post) (by rw [List.length_append]; omega) (by simp)
        simp only [fs, e1]
        simp only [decide_true]
        have e2 : (headB 192 (encL xs).length ++ (encL xs ++ post)).drop (headB 192 (encL xs).length).length = encL xs ++ post := by simp
        rw [e2]
        have hlen : ∀ (ys : List Tr), ∀ y ∈ ys, (enc y).length ≤ (encL ys).length := by
          intro ys
          induction ys with
          | nil => intro y hy; cases hy
          | cons z zs ihz =>
            intro y hy
            show _ ≤ (enc z ++ encL zs).length
            rw [List.length_append]
            rcases List.mem_cons.1 hy with rfl | hy
            · omega
            · have := ihz y hy; omega
        have e3 := itF_enc (fs d) post xs (fun x hx p => ih x hx ((shpL_iff xs).1 hs.2 x hx) ((BytL_iff xs).1 hb.2 x hx) (by have := hlen xs x hx; omega) d ((depL_le xs d).1 (by omega) x hx) p) (encL xs).length (Nat.le_refl _)
        rw [e3]
/-- Bytes that are cut are none. -/
theorem fs_cut (x : Tr) (hs : shp x = true) (hb : BytT x) (hl : (enc x).length < 256 ^ 8) (d : Nat) : fs d (enc x).dropLast = .error 10 := by
  refine fs_error d ?_
  have key : ∀ (kind : Int) (hk : kind = 128 ∨ kind = 192) (body : List Int), body.length < 256 ^ 8 → sps (headB kind body.length ++ body).dropLast = .error 10 := by
    intro kind hk body hbl
    by_cases h0 : body = []
    · subst h0
      simp [headB, sps]
    · have hp : 0 < body.length := List.length_pos_iff.2 h0
      rw [List.dropLast_append_of_ne_nil h0]
      have hdl : body.dropLast.length = body.length - 1 := by simp
      generalize body.dropLast = c at hdl
      generalize body.length = m at *
      unfold headB
      by_cases h : m ≤ 55
      · rw [if_pos h]
        simp only [List.cons_append, List.nil_append, sps]
        rw [if_neg (by omega)]
        have ek : (kind + (m : Int) - if 192 ≤ kind + (m : Int) then 192 else 128).toNat = m := by
          rcases hk with rfl | rfl
          · rw [if_neg (by omega)]; omega
          · rw [if_pos (by omega)]; omega
        rw [ek]
        simp only [szH, if_pos h, Nat.sub_zero]
        rw [if_pos (by omega)]
      · rw [if_neg h]
        have hl8 := shortB_len 8 m hbl
        have hp2 : 0 < (shortB m).length := List.length_pos_iff.2 (shortB_ne (by omega))
        simp only [List.cons_append, sps]
        rw [if_neg (by omega)]
        have ek : (kind + 55 + ((shortB m).length : Int) - if 192 ≤ kind + 55 + ((shortB m).length : Int) then 192 else 128).toNat = 55 + (shortB m).length := by
          rcases hk with rfl | rfl
          · rw [if_neg (by omega)]; omega
          · rw [if_pos (by omega)]; omega
        rw [ek]
        have e3 : 55 + (shortB m).length - 55 = (shortB m).length := by omega
        have e4 : (shortB m ++ c).take (shortB m).length = shortB m := by simp
        have e5 : (shortB m ++ c).headD 0 = (shortB m).headD 0 := by
          cases hs : shortB m with
          | nil => rw [hs] at hp2; simp at hp2
          | cons c r => rfl
        simp only [szH]
        rw [if_neg (by omega), e3, if_neg (by rw [List.length_append]; omega), e4, e5, numB_short, if_neg (by rintro (h1 | h1); exact shortB_head m (by omega) h1; omega)]
        simp only []
        rw [if_pos (by rw [List.length_append]; omega)]
  cases x with
  | mk l b xs =>
    cases l with
    | false =>
      have e0 : enc (.mk false b xs) = encS b := by unfold enc; simp
      rw [e0] at hl ⊢
      have hbl : b.length ≤ (encS b).length := by unfold encS; split <;> simp
      unfold encS
      by_cases h : b.length = 1 ∧ b.headD 0 < 128
      · rw [if_pos h]
        obtain ⟨c, rfl⟩ := List.length_eq_one_iff.1 h.1
        rfl
      · rw [if_neg h]
        exact key 128 (Or.inl rfl) b (by omega)
    | true =>
      have e0 : enc (.mk true b xs) = headB 192 (encL xs).length ++ encL xs := by unfold enc; simp
      rw [e0] at hl ⊢
      rw [List.length_append] at hl
      exact key 192 (Or.inr rfl) (encL xs) (by omega)
end Go.Proofs.Ytmnlcpfehbpogaa
/- rlp: what is read is written so: mathematics alone. -/
namespace Go.Proofs.Ytmnlcpfehbpogaa
set_option linter.unusedSimpArgs false
set_option linter.unusedVariables false
theorem Byt.drop {s : List Int} (h : Byt s) (k : Nat) : Byt (s.drop k) := fun c hc => h c (List.mem_of_mem_drop hc)
theorem Byt.take {s : List Int} (h : Byt s) (k : Nat) : Byt (s.take k) := fun c hc => h c (List.mem_of_mem_take hc)
/-- A head that is read was written. -/
theorem sps_ok {s : List Int} (hby : Byt s) {l : Bool} {h n : Nat} (e : sps s = .ok (l, h, n)) :
    h + n ≤ s.length ∧ 1 ≤ h + n ∧ n < 256 ^ 8 ∧ (if l then s.take h = headB 192 n else s.take (h + n) = encS ((s.drop h).take n)) := by
  cases s with
  | nil => simp [sps] at e
  | cons c r =>
    have hc := hby c (by simp)
    have hr : Byt r := fun x hx => hby x (by simp [hx])
    simp only [sps] at e
    by_cases h1 : c < 128
    · rw [if_pos h1] at e
      injection e with e
      simp only [Prod.mk.injEq] at e
      obtain ⟨rfl, rfl, rfl⟩ := e
      refine ⟨by simp, by simp, by decide, ?_⟩
      simp [encS, h1]
    · rw [if_neg h1] at e
      split at e
      · cases e
      · rename_i hh nn ez
        split at e
        · cases e
        · rename_i g1
          split at e
          · cases e
          · rename_i g2
            injection e with e
            simp only [Prod.mk.injEq] at e
            obtain ⟨rfl, rfl, rfl⟩ := e
            unfold szH at ez
            obtain ⟨t, ht⟩ : ∃ t, t = (c - if 192 ≤ c then 192 else 128).toNat := ⟨_, rfl⟩
            rw [← ht] at ez
            obtain ⟨kind, hkind⟩ : ∃ kind : Int, kind = if 192 ≤ c then 192 else 128 := ⟨_, rfl⟩
            have hck : c = kind + t := by rw [ht, hkind]; split <;> omega
            have hk2 : kind = 128 ∨ kind = 192 := by rw [hkind]; split <;> simp
            have ht64 : t < 64 := by rw [ht]; split <;> omega
            by_cases h2 : t ≤ 55
            · rw [if_pos h2] at ez
              injection ez with ez
              simp only [Prod.mk.injEq] at ez
              obtain ⟨rfl, rfl⟩ := ez
              simp only [Nat.sub_zero] at g1
              simp only [List.drop_zero] at g2
              have hlen : t ≤ r.length := by omega
              refine ⟨by simp; omega, by omega, by have : (256 : Nat) ^ 8 = 18446744073709551616 := by decide
                                                   omega, ?_⟩
              have hhead : [c] = headB kind t := by unfold headB; rw [if_pos h2, hck]
              by_cases h3 : 192 ≤ c
              · have : kind = 192 := by rw [hkind, if_pos h3]
                simp only [h3, decide_true, if_true]
                rw [← this, ← hhead]
                simp
              · have : kind = 128 := by rw [hkind, if_neg h3]
                simp only [h3, decide_false, Bool.false_eq_true, if_false]
                have e1 : ((c :: r).drop (1 + 0)).take t = r.take t := by simp
                have e2 : (c :: r).take (1 + 0 + t) = c :: r.take t := by rw [show 1 + 0 + t = t + 1 from by omega]; rfl
                rw [e1, e2]
                unfold encS
                have hlt : (r.take t).length = t := by rw [List.length_take]; omega
                rw [if_neg (by
                  rintro ⟨q1, q2⟩
                  rw [hlt] at q1
                  subst q1
                  refine g2 ⟨by omega, rfl, ?_⟩
                  cases r with
                  | nil => simp at hlen
                  | cons d q => simpa using q2), hlt, ← this, ← hhead]
                rfl
            · rw [if_neg h2] at ez
              split at ez
              · cases ez
              · rename_i g3
                split at ez
                · cases ez
                · rename_i g4
                  injection ez with ez
                  simp only [Prod.mk.injEq] at ez
                  obtain ⟨rfl, rfl⟩ := ez
                  have hlt : (r.take (t - 55)).length = t - 55 := by rw [List.length_take]; omega
                  have hbt : Byt (r.take (t - 55)) := hr.take _
                  have hhd : (r.take (t - 55)).headD 0 ≠ 0 := by
                    cases hr' : r with
                    | nil => rw [hr'] at hlt; simp at hlt; omega
                    | cons d q =>
                      have : ¬ d = 0 := fun e => g4 (Or.inl (by rw [hr']; simpa using e))
                      obtain ⟨u, hu⟩ : ∃ u, t - 55 = u + 1 := ⟨t - 56, by omega⟩
                      rw [hu]
                      simpa using this
                  have hsn : shortB (numB (r.take (t - 55))) = r.take (t - 55) := shortB_num _ _ rfl hbt (Or.inl hhd)
                  have hnl := numB_lt _ hbt
                  rw [hlt] at hnl
                  obtain ⟨m, hm⟩ : ∃ m, m = numB (r.take (t - 55)) := ⟨_, rfl⟩
                  rw [← hm] at hsn hnl g1 g2 g4 ⊢
                  have hm55 : ¬ m ≤ 55 := fun h => g4 (Or.inr h)
                  have hpow : (256 : Nat) ^ (t - 55) ≤ 256 ^ 8 := Nat.pow_le_pow_right (by decide) (by omega)
                  have hhead : c :: r.take (t - 55) = headB kind m := by
                    unfold headB
                    rw [if_neg hm55, hsn, hlt, hck]
                    congr 1
                    omega
                  refine ⟨by simp; omega, by omega, by omega, ?_⟩
                  have e0 : (c :: r).take (1 + (t - 55)) = c :: r.take (t - 55) := by rw [Nat.add_comm]; rfl
                  by_cases h3 : 192 ≤ c
                  · have : kind = 192 := by rw [hkind, if_pos h3]
                    simp only [h3, decide_true, if_true]
                    rw [e0, hhead, this]
                  · have : kind = 128 := by rw [hkind, if_neg h3]
                    simp only [h3, decide_false, Bool.false_eq_true, if_false]
                    have e1 : (c :: r).drop (1 + (t - 55)) = r.drop (t - 55) := by rw [Nat.add_comm]; rfl
                    rw [e1]
                    have hl2 : ((r.drop (t - 55)).take m).length = m := by rw [List.length_take, List.length_drop]; omega
                    unfold encS
                    rw [if_neg (by rw [hl2]; omega), hl2, ← this, ← hhead, List.take_add, e0, e1]
theorem itF_ok (f : List Int → Except Int (Tr × Nat)) (hf : ∀ s x n, Byt s → f s = .ok (x, n) → s.take n = enc x ∧ n ≤ s.length) : ∀ (k left : Nat) (s : List Int) (xs : List Tr), Byt s → left ≤ s.length → itF f k left s = .ok xs → s.take left = encL xs := by
  intro k
  induction k with
  | zero =>
    intro left s xs hb hl e
    simp only [itF] at e
    split at e
    · rename_i h0
      injection e with e
      subst e
      subst h0
      rfl
    · cases e
  | succ k ih =>
    intro left s xs hb hl e
    simp only [itF] at e
    split at e
    · rename_i h0
      injection e with e
      subst e
      subst h0
      rfl
    · split at e
      · cases e
      · rename_i x n ex
        split at e
        · cases e
        · rename_i hn
          split at e
          · cases e
          · rename_i ys ey
            injection e with e
            subst e
            obtain ⟨q1, q2⟩ := hf s x n hb ex
            have := ih (left - n) (s.drop n) ys (hb.drop n) (by rw [List.length_drop]; omega) ey
            show _ = enc x ++ encL ys
            rw [← q1, ← this, ← List.take_add]
            congr 1
            omega
theorem itF_mem (f : List Int → Except Int (Tr × Nat)) {p : Tr → Prop} (hf : ∀ s x n, Byt s → f s = .ok (x, n) → p x) : ∀ (k left : Nat) (s : List Int) (xs : List Tr), Byt s → itF f k left s = .ok xs → ∀ x ∈ xs, p x := by
  intro k
  induction k with
  | zero =>
    intro left s xs hb e
    simp only [itF] at e
    split at e
    · injection e with e
      subst e
      intro x hx; cases hx
    · cases e
  | succ k ih =>
    intro left s xs hb e
    simp only [itF] at e
    split at e
    · injection e with e
      subst e
      intro x hx; cases hx
    · split at e
      · cases e
      · rename_i x n ex
        split at e
        · cases e
        · split at e
          · cases e
          · rename_i ys ey
            injection e with e
            subst e
            intro y hy
            rcases List.mem_cons.1 hy with rfl | hy
            · exact hf s y n hb ex
            · exact ih (left - n) (s.drop n) ys (hb.drop n) ey y hy
/-- What is read, is written so. -/
theorem fs_ok : ∀ (d : Nat) (s : List Int) (x : Tr) (n : Nat), Byt s → fs d s = .ok (x, n) → (s.take n = enc x ∧ n ≤ s.length) ∧ 1 ≤ n ∧ shp x = true ∧ dep x ≤ d ∧ BytT x := by
  intro d
  induction d with
  | zero =>
    intro s x n hb e
    simp only [fs] at e
    split at e
    · cases e
    · rename_i h m es
      injection e with e
      simp only [Prod.mk.injEq] at e
      obtain ⟨rfl, rfl⟩ := e
      obtain ⟨q1, q2, q3, q4⟩ := sps_ok hb es
      simp only [Bool.false_eq_true, if_false] at q4
      exact ⟨⟨q4, q1⟩, q2, by simp [shp, shpL], by simp [dep], by unfold BytT; exact ⟨(hb.drop _).take _, by simp [BytL]⟩⟩
    · cases e
  | succ d ih =>
    intro s x n hb e
    simp only [fs] at e
    split at e
    · cases e
    · rename_i h m es
      injection e with e
      simp only [Prod.mk.injEq] at e
      obtain ⟨rfl, rfl⟩ := e
      obtain ⟨q1, q2, q3, q4⟩ := sps_ok hb es
      simp only [Bool.false_eq_true, if_false] at q4
      exact ⟨⟨q4, q1⟩, q2, by simp [shp, shpL], by simp [dep], by unfold BytT; exact ⟨(hb.drop _).take _, by simp [BytL]⟩⟩
    · rename_i h m es
      split at e
      · cases e
      · rename_i xs ex
        injection e with e
        simp only [Prod.mk.injEq] at e
        obtain ⟨rfl, rfl⟩ := e
        obtain ⟨q1, q2, q3, q4⟩ := sps_ok hb es
        simp only [if_true] at q4
        have h1 := itF_ok (fs d) (fun s x n hs e => (ih s x n hs e).1) m m (s.drop h) xs (hb.drop h) (by rw [List.length_drop]; omega) ex
        have hl : (encL xs).length = m := by rw [← h1, List.length_take, List.length_drop]; omega
        refine ⟨⟨?_, q1⟩, q2, ?_, ?_, ?_⟩
        · unfold enc
          simp only [if_true]
          rw [hl, ← q4, ← h1, List.take_add]
        · simp only [shp, List.isEmpty_nil, if_true, Bool.true_and]
          exact (shpL_iff xs).2 (itF_mem (fs d) (fun s x n hs e => (ih s x n hs e).2.2.1) m m _ xs (hb.drop h) ex)
        · simp only [dep, if_true]
          have := (depL_le xs d).2 (itF_mem (fs d) (fun s x n hs e => (ih s x n hs e).2.2.2.1) m m _ xs (hb.drop h) ex)
          omega
        · unfold BytT
          exact ⟨fun c hc => (by cases hc), (BytL_iff xs).2 (itF_mem (fs d) (fun s x n hs e => (ih s x n hs e).2.2.2.2) m m _ xs (hb.drop h) ex)⟩
end Go.Proofs.Ytmnlcpfehbpogaa
