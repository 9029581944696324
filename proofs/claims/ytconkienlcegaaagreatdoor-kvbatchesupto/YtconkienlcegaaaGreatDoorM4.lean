/- KM, KA, KB, laid into one text. -/
import Derived.Test.YtconkienlcegaaaGreatDoorM3
import Derived.Laws.Bits64b
/- kv: changes, their record, and reading it back: mathematics alone. -/
namespace Go.Proofs.YtconkienlcegaaaGreatDoor
set_option linter.unusedSimpArgs false
set_option linter.unusedVariables false
/-- A change. -/
structure Ch where
  key : List Int
  val : List Int
  gone : Bool
def KByt (bs : List Int) : Prop := ∀ c ∈ bs, 0 ≤ c ∧ c < 256
def k2 (n : Nat) : List Int := [((n / 256 % 256 : Nat) : Int), ((n % 256 : Nat) : Int)]
def k4 (n : Nat) : List Int := [((n / 16777216 % 256 : Nat) : Int), ((n / 65536 % 256 : Nat) : Int), ((n / 256 % 256 : Nat) : Int), ((n % 256 : Nat) : Int)]
theorem k2_length (n : Nat) : (k2 n).length = 2 := rfl
theorem k4_length (n : Nat) : (k4 n).length = 4 := rfl
/-- The number of bytes, the highest first. -/
def kNum (bs : List Int) : Nat := bs.foldl (fun n c => n * 256 + c.toNat) 0
theorem kNum_k2 {n : Nat} (h : n < 65536) : kNum (k2 n) = n := by
  simp only [kNum, k2, List.foldl_cons, List.foldl_nil, Int.toNat_natCast]
  omega
theorem kNum_k4 {n : Nat} (h : n < 4294967296) : kNum (k4 n) = n := by
  simp only [kNum, k4, List.foldl_cons, List.foldl_nil, Int.toNat_natCast]
  omega
theorem k2_kNum {bs : List Int} (hl : bs.length = 2) (hb : KByt bs) : k2 (kNum bs) = bs ∧ kNum bs < 65536 := by
  match bs, hl with
  | [a, b], _ =>
    have ha := hb a (by simp)
    have hb' := hb b (by simp)
    simp only [kNum, k2, List.foldl_cons, List.foldl_nil]
    refine ⟨?_, by omega⟩
    congr 1
    · omega
    · congr 1
      omega
theorem k4_kNum {bs : List Int} (hl : bs.length = 4) (hb : KByt bs) : k4 (kNum bs) = bs ∧ kNum bs < 4294967296 := by
  match bs, hl with
  | [a, b, c, d], _ =>
    have h1 := hb a (by simp)
    have h2 := hb b (by simp)
    have h3 := hb c (by simp)
    have h4 := hb d (by simp)
    simp only [kNum, k4, List.foldl_cons, List.foldl_nil]
    refine ⟨?_, by omega⟩
    congr 1
    · omega
    · congr 1
      · omega
      · congr 1
        · omega
        · congr 1
          omega
/-- The bytes of a change. -/
def encC (c : Ch) : List Int := k2 c.key.length ++ (c.key ++ (if c.gone then k4 4294967295 else k4 c.val.length ++ c.val))
def encK (l : List Ch) : List Int := l.flatMap encC
def okK (c : Ch) : Prop := 1 ≤ c.key.length ∧ c.key.length ≤ 64
theorem encC_length (c : Ch) : (encC c).length = 6 + c.key.length + (if c.gone then 0 else c.val.length) := by
  unfold encC
  cases c.gone <;> simp [k2_length, k4_length] <;> omega
/-- The change with which bytes begin, and how many of them it takes. -/
def nxC (b : List Int) : Option (Ch × Nat) :=
  if b.length < 2 then none else
  if kNum (b.take 2) < 1 ∨ 64 < kNum (b.take 2) then none else
  if b.length < 6 + kNum (b.take 2) then none else
  if kNum ((b.drop (2 + kNum (b.take 2))).take 4) = 4294967295 then some (⟨(b.drop 2).take (kNum (b.take 2)), [], true⟩, 6 + kNum (b.take 2)) else
  if b.length - (6 + kNum (b.take 2)) < kNum ((b.drop (2 + kNum (b.take 2))).take 4) then none else
  some (⟨(b.drop 2).take (kNum (b.take 2)), (b.drop (6 + kNum (b.take 2))).take (kNum ((b.drop (2 + kNum (b.take 2))).take 4)), false⟩, 6 + kNum (b.take 2) + kNum ((b.drop (2 + kNum (b.take 2))).take 4))
theorem nxC_enc (c : Ch) (hk : okK c) (hv : c.val.length < 4294967295) (hg : c.gone = true → c.val = []) (rest : List Int) : nxC (encC c ++ rest) = some (c, (encC c).length) := by
  obtain ⟨key, val, gone⟩ := c
  have hk1 : 1 ≤ key.length := hk.1
  have hk2 : key.length ≤ 64 := hk.2
  have hv : val.length < 4294967295 := hv
  have hl := encC_length ⟨key, val, gone⟩
  have e2 : (encC ⟨key, val, gone⟩ ++ rest).take 2 = k2 key.length := by simp [encC, k2]
  have n2 : kNum ((encC ⟨key, val, gone⟩ ++ rest).take 2) = key.length := by rw [e2, kNum_k2 (by omega)]
  have ed : (encC ⟨key, val, gone⟩ ++ rest).drop 2 = key ++ ((if gone then k4 4294967295 else k4 val.length ++ val) ++ rest) := by simp [encC, k2]
  have ed2 : (encC ⟨key, val, gone⟩ ++ rest).drop (2 + key.length) = (if gone then k4 4294967295 else k4 val.length ++ val) ++ rest := by
    rw [← List.drop_drop, ed]; simp
  have ekey : ((encC ⟨key, val, gone⟩ ++ rest).drop 2).take key.length = key := by rw [ed]; simp
  simp only [] at hl
  unfold nxC
  rw [n2, ekey]
  cases gone with
  | true =>
    have hv0 : val = [] := hg rfl
    subst hv0
    have e4 : ((encC ⟨key, [], true⟩ ++ rest).drop (2 + key.length)).take 4 = k4 4294967295 := by rw [ed2]; simp [k4]
    rw [e4, kNum_k4 (by decide)]
    simp only [if_true] at hl
    rw [if_neg (by rw [List.length_append]; omega), if_neg (by omega), if_neg (by rw [List.length_append]; omega), if_pos rfl, hl]
    rfl
  | false =>
    have e4 : ((encC ⟨key, val, false⟩ ++ rest).drop (2 + key.length)).take 4 = k4 val.length := by rw [ed2]; simp [k4]
    have e6 : (encC ⟨key, val, false⟩ ++ rest).drop (6 + key.length) = val ++ rest := by
      rw [show 6 + key.length = (2 + key.length) + 4 from by omega, ← List.drop_drop, ed2]
      simp [k4]
    rw [e4, kNum_k4 (by omega), e6]
    simp only [Bool.false_eq_true, if_false] at hl
    rw [if_neg (by rw [List.length_append]; omega), if_neg (by omega), if_neg (by rw [List.length_append]; omega), if_neg (by omega), if_neg (by rw [List.length_append]; omega), hl]
    congr 3
    simp
theorem KByt.take {bs : List Int} (h : KByt bs) (n : Nat) : KByt (bs.take n) := fun c hc => h c (List.mem_of_mem_take hc)
theorem KByt.drop {bs : List Int} (h : KByt bs) (n : Nat) : KByt (bs.drop n) := fun c hc => h c (List.mem_of_mem_drop hc)
theorem nxC_ok {b : List Int} (hb : KByt b) {c : Ch} {n : Nat} (h : nxC b = some (c, n)) : b.take n = encC c ∧ n ≤ b.length ∧ 7 ≤ n ∧ okK c ∧ (c.gone = true → c.val = []) ∧ KByt c.key ∧ KByt c.val ∧ c.val.length < 4294967295 := by
  unfold nxC at h
  by_cases g1 : b.length < 2
  · rw [if_pos g1] at h; cases h
  rw [if_neg g1] at h
  obtain ⟨s, hs⟩ : ∃ s, s = kNum (b.take 2) := ⟨_, rfl⟩
  have q2 := k2_kNum (bs := b.take 2) (by rw [List.length_take]; omega) (hb.take 2)
  rw [← hs] at h q2
  by_cases g2 : s < 1 ∨ 64 < s
  · rw [if_pos g2] at h; cases h
  rw [if_neg g2] at h
  by_cases g3 : b.length < 6 + s
  · rw [if_pos g3] at h; cases h
  rw [if_neg g3] at h
  obtain ⟨t, ht⟩ : ∃ t, t = kNum ((b.drop (2 + s)).take 4) := ⟨_, rfl⟩
  have q4 := k4_kNum (bs := (b.drop (2 + s)).take 4) (by rw [List.length_take, List.length_drop]; omega) ((hb.drop _).take 4)
  rw [← ht] at h q4
  have hkl : ((b.drop 2).take s).length = s := by rw [List.length_take, List.length_drop]; omega
  have hsplit : b.take (6 + s) = k2 s ++ ((b.drop 2).take s ++ k4 t) := by
    rw [q2.1, q4.1, show 6 + s = 2 + (s + 4) from by omega, List.take_add, List.take_add, List.drop_drop]
  by_cases g4 : t = 4294967295
  · rw [if_pos g4] at h
    injection h with h
    simp only [Prod.mk.injEq] at h
    obtain ⟨rfl, rfl⟩ := h
    refine ⟨?_, by omega, by omega, ⟨by show 1 ≤ ((b.drop 2).take s).length; omega, by show ((b.drop 2).take s).length ≤ 64; omega⟩, fun _ => rfl, (hb.drop 2).take s, (fun c hc => by cases hc), (by show (0 : Nat) < _; omega)⟩
    rw [hsplit, g4]
    simp [encC, hkl]
  · rw [if_neg g4] at h
    by_cases g5 : b.length - (6 + s) < t
    · rw [if_pos g5] at h; cases h
    rw [if_neg g5] at h
    injection h with h
    simp only [Prod.mk.injEq] at h
    obtain ⟨rfl, rfl⟩ := h
    have hvl : ((b.drop (6 + s)).take t).length = t := by rw [List.length_take, List.length_drop]; omega
    refine ⟨?_, by omega, by omega, ⟨by show 1 ≤ ((b.drop 2).take s).length; omega, by show ((b.drop 2).take s).length ≤ 64; omega⟩, fun h => by simp at h, (hb.drop 2).take s, (hb.drop _).take t, by show ((b.drop (6 + s)).take t).length < _; have := q4.2; omega⟩
    rw [List.take_add, hsplit]
    simp [encC, hkl, hvl]
/-- The changes of a record; none: it is rotten. -/
def unK : Nat → List Int → Option (List Ch)
  | 0, b => if b = [] then some [] else none
  | k + 1, b => if b = [] then some [] else
    match nxC b with
    | none => none
    | some (c, n) => (unK k (b.drop n)).map (c :: ·)
theorem encK_cons (c : Ch) (l : List Ch) : encK (c :: l) = encC c ++ encK l := rfl
theorem unK_enc : ∀ (l : List Ch), (∀ c ∈ l, okK c ∧ c.val.length < 4294967295 ∧ (c.gone = true → c.val = [])) → ∀ k, (encK l).length ≤ k → unK k (encK l) = some l := by
  intro l
  induction l with
  | nil => intro _ k _; cases k <;> simp [unK, encK]
  | cons c l ih =>
    intro h k hk
    have hc := h c (by simp)
    have hl := encC_length c
    have hlen : (encK (c :: l)).length = (encC c).length + (encK l).length := by rw [encK_cons, List.length_append]
    cases k with
    | zero => omega
    | succ k =>
      have hne : encK (c :: l) ≠ [] := fun e => by rw [e] at hlen; simp at hlen; omega
      unfold unK
      rw [if_neg hne, encK_cons, nxC_enc c hc.1 hc.2.1 hc.2.2]
      simp only []
      rw [show (encC c ++ encK l).drop (encC c).length = encK l from by simp, ih (fun x hx => h x (by simp [hx])) k (by omega)]
      rfl
theorem unK_ok : ∀ (k : Nat) (b : List Int) (l : List Ch), KByt b → unK k b = some l → encK l = b ∧ ∀ c ∈ l, okK c ∧ (c.gone = true → c.val = []) ∧ KByt c.key ∧ KByt c.val ∧ c.val.length < 4294967295 := by
  intro k
  induction k with
  | zero =>
    intro b l hb h
    unfold unK at h
    by_cases e : b = []
    · rw [if_pos e] at h
      injection h with h
      subst h
      exact ⟨by rw [e]; rfl, fun c hc => by cases hc⟩
    · rw [if_neg e] at h; cases h
  | succ k ih =>
    intro b l hb h
    unfold unK at h
    by_cases e : b = []
    · rw [if_pos e] at h
      injection h with h
      subst h
      exact ⟨by rw [e]; rfl, fun c hc => by cases hc⟩
    · rw [if_neg e] at h
      cases hn : nxC b with
      | none => rw [hn] at h; cases h
      | some q =>
        obtain ⟨c, n⟩ := q
        rw [hn] at h
        simp only [] at h
        cases hr : unK k (b.drop n) with
        | none => rw [hr] at h; cases h
        | some r =>
          rw [hr] at h
          injection h with h
          subst h
          have q := nxC_ok hb hn
          have i := ih (b.drop n) r (hb.drop n) hr
          refine ⟨?_, fun x hx => ?_⟩
          · rw [encK_cons, i.1, ← q.1, List.take_append_drop]
          · rcases List.mem_cons.1 hx with rfl | hx
            · exact ⟨q.2.2.2.1, q.2.2.2.2.1, q.2.2.2.2.2.1, q.2.2.2.2.2.2.1, q.2.2.2.2.2.2.2⟩
            · exact i.2 x hx
end Go.Proofs.YtconkienlcegaaaGreatDoor
/- kv: number, next. -/
namespace Go.Proofs.YtconkienlcegaaaGreatDoor
open Go.RowKit Go.Maps Go.Joins
set_option linter.unusedSimpArgs false
set_option linter.unusedVariables false
theorem kNum_snoc (bs : List Int) (c : Int) : kNum (bs ++ [c]) = kNum bs * 256 + c.toNat := by unfold kNum; rw [List.foldl_append]; rfl
theorem kNum_take {l : List Int} {j : Nat} {c : Int} (h : l[j]? = some c) : kNum (l.take (j + 1)) = kNum (l.take j) * 256 + c.toNat := by
  rw [List.take_add_one, h]
  exact kNum_snoc _ _
theorem kNum_lt : ∀ (bs : List Int), KByt bs → kNum bs < 256 ^ bs.length := by
  intro bs
  generalize hk : bs.length = k
  induction k generalizing bs with
  | zero =>
    intro _
    have : bs = [] := List.eq_nil_of_length_eq_zero hk
    subst this
    decide
  | succ k ih =>
    intro hby
    obtain ⟨r, c, rfl⟩ : ∃ r c, bs = r ++ [c] := by
      have hne : bs ≠ [] := by intro e; subst e; simp at hk
      exact ⟨bs.dropLast, bs.getLast hne, (List.dropLast_concat_getLast hne).symm⟩
    have hc := hby c (by simp)
    have := ih r (by simpa using hk) (fun x hx => hby x (by simp [hx]))
    rw [kNum_snoc, Nat.pow_succ]
    omega
theorem kor256 (y : Nat) (x : Int) (hy : y < 72057594037927936) (h0 : 0 ≤ x) (h1 : x < 256) : bits .or .u64 ((y : Int) * 256) x = ((y * 256 + x.toNat : Nat) : Int) := by
  obtain ⟨x, rfl⟩ := Int.eq_ofNat_of_zero_le h0
  have hx : x < 256 := by omega
  have e0 : ((y : Int) * 256) = ((y * 256 : Nat) : Int) := by simp
  have hsh : y * 2 ^ 8 ||| x = y * 2 ^ 8 + x := by rw [← Nat.shiftLeft_eq, ← Nat.shiftLeft_add_eq_or_of_lt (by omega)]
  rw [e0, bits_or_u64_nat _ _ (by omega) (by omega), show y * 256 = y * 2 ^ 8 from by omega, hsh]
  simp
set_option maxRecDepth 100000 in
set_option maxHeartbeats 8000000 in
/-- kv.number -/
theorem knum_any {w : World} {a : Option Addr} {cap : Nat} {bs : List Int} (h : BytesV w (.slice a bs.length cap) bs) (hb : KByt bs) (hl : bs.length ≤ 7) :
    Calls Tryz.prog 125 #[.slice a bs.length cap] w fun e w' => e = .returned (.int .u64 ((kNum bs : Nat) : Int)) ∧ w' = w := by
  have HS : Hid (BytesV w (.slice a bs.length cap) bs) := h
  have HB : Hid (KByt bs) := hb
  obtain ⟨N, hN⟩ : ∃ N, N = bs.length := ⟨_, rfl⟩
  rw [← hN] at hl HS ⊢
  have HN : Hid (N = bs.length) := hN
  clear h hb hN
  go_enter Tryz.func125, Tryz.ntmps125
  go_wp2_with fail
  go_loopw [3, 8] (fun i1 i2 wr => ∃ (j : Nat), j ≤ N ∧ i1 = .int .u64 (kNum (bs.take j) : Nat) ∧ i2 = .int .i64 j ∧ wr = w) (fun _ i2 _ => N - (intOf i2).toNat)
  case atStart => exact ⟨0, Nat.zero_le _, by simp [kNum], rfl, rfl⟩
  case round =>
    obtain ⟨j, hj, rfl, rfl, hwr⟩ := hrel
    subst hwr
    by_cases hjk : j < N
    · have hki : (j : Int) < N := by omega
      obtain ⟨y, hy⟩ : ∃ y, bs[j]? = some y := ⟨_, List.getElem?_eq_getElem (by have := HN.out; omega)⟩
      have hyb := HB.out y (List.mem_of_getElem? hy)
      obtain ⟨g, o, rfl, kc⟩ := HS.out.at hy
      have hst := kNum_take hy
      have hlt := kNum_lt (bs.take j) (HB.out.take j)
      have hlj : (bs.take j).length = j := by rw [List.length_take]; have := HN.out; omega
      rw [hlj] at hlt
      have hp : (256 : Nat) ^ j ≤ 256 ^ 6 := Nat.pow_le_pow_right (by decide) (by omega)
      have hp6 : (256 : Nat) ^ 6 = 281474976710656 := by decide
      obtain ⟨s, hs⟩ : ∃ s, s = kNum (bs.take j) := ⟨_, rfl⟩
      rw [← hs] at hst hlt ⊢
      have hsb : s < 281474976710656 := by omega
      have hor := kor256 s y (by omega) hyb.1 hyb.2
      have hw1 : IntKind.u64.wrap ((s : Int) * 256) = (s : Int) * 256 := by rw [IntKind.wrap_u64]; omega
      have hw2 : IntKind.u64.wrap y = y := by rw [IntKind.wrap_u64]; omega
      have HST : Hid (kNum (bs.take (j + 1)) = s * 256 + y.toNat) := hst
      clear hst hs hy hlt hp hp6 hlj
      go_wp2
      go_roundw
      case rel => exact ⟨j + 1, by omega, by rw [HST.out]; congr 1; have := hyb.1; omega, by go_num, by trivial⟩
      case measure => simp [intOf]; omega
    · have hki : ¬ (j : Int) < N := by omega
      have hE : kNum (bs.take j) = kNum bs := by rw [List.take_of_length_le (by have := HN.out; omega)]
      rw [hE]
      go_wp2
      go_ret
      exact ⟨rfl, rfl⟩
end Go.Proofs.YtconkienlcegaaaGreatDoor
/- kv: next. -/
namespace Go.Proofs.YtconkienlcegaaaGreatDoor
open Go.RowKit Go.Maps Go.Joins
set_option linter.unusedSimpArgs false
set_option linter.unusedVariables false
theorem load90 {w : World} {b : Nat} {x y z : Value} (h : w.heap[b]? = some (.cells #[x, y, z] 90)) : (loadVar 90 ⟨b, 0, none⟩).run Tryz.prog w = .ok (.agg #[x, y, z]) w :=
  run_loadVar_row w b 90 90 #[x, y, z] (0, 0) _ h Tryz.underlying90 rfl (by kernel_rfl)
theorem kset {w : World} {b : Nat} {x y z x' y' z' : Value} (h : w.heap[b]? = some (.cells #[x, y, z] 90)) : (((w.setCell ⟨b, 0, none⟩ x').setCell ⟨b, 1, none⟩ y').setCell ⟨b, 2, none⟩ z').heap[b]? = some (.cells #[x', y', z'] 90) :=
  heap_setCell_same _ b 2 _ 90 z' (heap_setCell_same _ b 1 _ 90 y' (heap_setCell_same _ b 0 _ 90 x' h))
theorem kset_below {w0 w : World} {B b : Nat} (h : Below B w0 w) (hb : B ≤ b) (x' y' z' : Value) : Below B w0 (((w.setCell ⟨b, 0, none⟩ x').setCell ⟨b, 1, none⟩ y').setCell ⟨b, 2, none⟩ z') :=
  ((h.setCell (p := ⟨b, 0, none⟩) hb _).setCell (p := ⟨b, 1, none⟩) hb _).setCell (p := ⟨b, 2, none⟩) hb _
theorem res98 (w3 : World) (b : Nat) (x y z n c : Value) (tmps : Array Value) (h : w3.heap[b]? = some (.cells #[x, y, z] 90)) (h4 : tmps[2]? = some (.pointer (some ⟨b, 0, none⟩))) (h5 : tmps[3]? = some n) (h6 : tmps[4]? = some c) :
    (results Tryz.f98 tmps).run Tryz.prog w3 = .ok (.tuple #[.agg #[x, y, z], n, c]) w3 := by
  have hl := load90 h
  simp [results, Tryz.results98, asAddr, h4, h5, h6, hl]
/-- What next tells. -/
def KnR (w : World) (r : Option (Ch × Nat)) (e : Ending) : Prop :=
  match r with
  | none => e = .returned (.tuple #[.agg #[.slice none 0 0, .slice none 0 0, .bool false], .int .i64 0, .int .i64 34])
  | some (c, n) => ∃ vk vv, e = .returned (.tuple #[.agg #[vk, vv, .bool c.gone], .int .i64 (n : Nat), .int .i64 0]) ∧ BytesV w vk c.key ∧ BytesV w vv c.val
theorem BytesV.empty' (w : World) (a : Option Addr) (c : Nat) (h : a = none → c = 0) : BytesV w (.slice a 0 c) [] := by
  cases a with
  | none => rw [h rfl]; exact Or.inl ⟨rfl, rfl⟩
  | some ad => exact Or.inr ⟨ad, c, rfl, fun j u hu => by simp [vB] at hu⟩
/-- A part of the bytes, as a slice expression makes it. -/
theorem BytesV.cutLH {w : World} {g o cap : Nat} {bs : List Int} (h : BytesV w (.slice (some ⟨g, o, none⟩) bs.length cap) bs) (i l : Nat) (hl : i + l ≤ bs.length) (hc : bs.length ≤ cap) : BytesV w (.slice (some ⟨g, if cap = i then o else o + i, none⟩) l (cap - i)) ((bs.drop i).take l) := by
  by_cases h0 : l = 0
  · subst h0
    rw [List.take_zero]
    exact BytesV.empty' _ _ _ (fun h => by cases h)
  · rw [if_neg (by omega)]
    exact h.part i l _ hl
set_option maxRecDepth 100000 in
set_option maxHeartbeats 8000000 in
/-- kv.next -/
theorem knext_any {w : World} {g o cap : Nat} {bs : List Int} (h : BytesV w (.slice (some ⟨g, o, none⟩) bs.length cap) bs) (hb : KByt bs) (hc : bs.length ≤ cap) (hm : cap ≤ 9223372036854775807) (hl : bs.length ≤ 140737488355328) :
    Calls Tryz.prog 98 #[.slice (some ⟨g, o, none⟩) bs.length cap] w fun e w' => Below w.heap.size w w' ∧ KnR w (nxC bs) e := by
  obtain ⟨R, hR⟩ : ∃ R, R = nxC bs := ⟨_, rfl⟩
  rw [← hR]
  have hb0 : Below w.heap.size w (w.alloc (.cells #[.slice none 0 0, .slice none 0 0, .bool false] 90)) := by go_grown
  have HB : Hid (Below w.heap.size w (w.alloc (.cells #[.slice none 0 0, .slice none 0 0, .bool false] 90)) ∧ (w.alloc (.cells #[.slice none 0 0, .slice none 0 0, .bool false] 90)).heap[w.heap.size]? = some (.cells #[.slice none 0 0, .slice none 0 0, .bool false] 90)) := ⟨hb0, heap_alloc_new _ _⟩
  clear hb0
  unfold nxC at hR
  obtain ⟨N, hN⟩ : ∃ N, N = bs.length := ⟨_, rfl⟩
  by_cases g1 : bs.length < 2
  · rw [if_pos g1] at hR
    have HR : Hid (R = none) := hR
    have gi : (N : Int) < 2 := by omega
    rw [← hN]
    rw [← hN] at hc hl
    clear hR g1 h hN
    go_enter Tryz.func98, Tryz.ntmps98
    go_wp2
    refine ⟨rfl, _, res98 _ _ _ _ _ _ _ _ HB.out.2 rfl rfl rfl, HB.out.1, ?_⟩
    rw [HR.out]
    rfl
  rw [if_neg g1] at hR
  have gi : ¬ (N : Int) < 2 := by omega
  obtain ⟨s, hs⟩ : ∃ s, s = kNum (bs.take 2) := ⟨_, rfl⟩
  have hC2 : ∀ V : World, Below w.heap.size w V → Calls Tryz.prog 125 #[.slice (some ⟨g, o, none⟩) 2 cap] V fun e w' => e = .returned (.int .u64 (s : Int)) ∧ w' = V := fun V hV => by
    have h9 := (h.below hV).part 0 2 cap (by omega)
    rw [List.drop_zero, Nat.add_zero] at h9
    have hl2 : (bs.take 2).length = 2 := by rw [List.length_take]; omega
    have := knum_any (a := some ⟨g, o, none⟩) (cap := cap) (bs := bs.take 2) (by rw [hl2]; exact h9) (hb.take 2) (by omega)
    rw [hl2, ← hs] at this
    exact this
  have hsl2 : ∀ V : World, (Instr.slice 23 (.slice (some ⟨g, o, none⟩) N cap) none (some (.int .i64 2)) none).run Tryz.prog V = .ok (.slice (some ⟨g, o, none⟩) 2 cap) V := fun V => slH V g o N cap 2 2 rfl (by omega) (by omega)
  have hs64 : s < 65536 := by
    have := kNum_lt (bs.take 2) (hb.take 2)
    rw [List.length_take, show min 2 bs.length = 2 from by omega] at this
    omega
  rw [← hs] at hR
  have HC2 : Hid _ := hC2
  rw [← hN]
  rw [← hN] at hc hl
  have T1 : Hid True := trivial
  have HS : Hid (BytesV w (.slice (some ⟨g, o, none⟩) bs.length cap) bs ∧ KByt bs ∧ N = bs.length) := ⟨h, hb, hN⟩
  clear hC2 h hb
  by_cases g2 : s < 1 ∨ 64 < s
  · rw [if_pos g2] at hR
    have HR : Hid (R = none) := hR
    clear hR g1 hN HS
    have T2 : Hid True := trivial
    by_cases g3 : s < 1
    · have gs : (s : Int) < 1 := by omega
      clear g2 hs
      go_enter Tryz.func98, Tryz.ntmps98
      go_wp2_with (first
        | (have _ := T1
           go_at_call 125
           clear T1
           refine Calls.mono (HC2.out _ HB.out.1) ?_
           rintro e w1 ⟨rfl, rfl⟩))
      refine ⟨rfl, _, res98 _ _ _ _ _ _ _ _ HB.out.2 rfl rfl rfl, HB.out.1, ?_⟩
      rw [HR.out]
      rfl
    · have gs : ¬ (s : Int) < 1 := by omega
      have gs2 : (64 : Int) < s := by omega
      clear g2 hs
      go_enter Tryz.func98, Tryz.ntmps98
      go_wp2_with (first
        | (have _ := T1
           go_at_call 125
           clear T1
           refine Calls.mono (HC2.out _ HB.out.1) ?_
           rintro e w1 ⟨rfl, rfl⟩))
      refine ⟨rfl, _, res98 _ _ _ _ _ _ _ _ HB.out.2 rfl rfl rfl, HB.out.1, ?_⟩
      rw [HR.out]
      rfl
  rw [if_neg g2] at hR
  have gs : ¬ (s : Int) < 1 := by omega
  have gs2 : ¬ (64 : Int) < s := by omega
  have hws : IntKind.i64.wrap (s : Int) = s := by rw [IntKind.wrap_i64]; omega
  by_cases g3 : bs.length < 6 + s
  · rw [if_pos g3] at hR
    have HR : Hid (R = none) := hR
    have g3i : (N : Int) - (2 + s) < 4 := by omega
    clear hR g1 hN HS g2 hs g3
    go_enter Tryz.func98, Tryz.ntmps98
    go_wp2_with (first
      | (have _ := T1
         go_at_call 125
         clear T1
         refine Calls.mono (HC2.out _ HB.out.1) ?_
         rintro e w1 ⟨rfl, rfl⟩))
    refine ⟨rfl, _, res98 _ _ _ _ _ _ _ _ HB.out.2 rfl rfl rfl, HB.out.1, ?_⟩
    rw [HR.out]
    rfl
  rw [if_neg g3] at hR
  have g3i : ¬ (N : Int) - (2 + s) < 4 := by omega
  obtain ⟨t, ht⟩ : ∃ t, t = kNum ((bs.drop (2 + s)).take 4) := ⟨_, rfl⟩
  rw [← ht] at hR
  have hl4 : ((bs.drop (2 + s)).take 4).length = 4 := by rw [List.length_take, List.length_drop]; omega
  have ht64 : t < 4294967296 := by
    have := kNum_lt ((bs.drop (2 + s)).take 4) ((HS.out.2.1.drop _).take 4)
    rw [hl4, ← ht] at this
    omega
  have hC4 : ∀ V : World, Below w.heap.size w V → Calls Tryz.prog 125 #[.slice (some ⟨g, o + (2 + s), none⟩) 4 (cap - (2 + s))] V fun e w' => e = .returned (.int .u64 (t : Int)) ∧ w' = V := fun V hV => by
    have h9 := (HS.out.1.below hV).part (2 + s) 4 (cap - (2 + s)) (by omega)
    have := knum_any (a := some ⟨g, o + (2 + s), none⟩) (cap := cap - (2 + s)) (bs := (bs.drop (2 + s)).take 4) (by rw [hl4]; exact h9) ((HS.out.2.1.drop _).take 4) (by omega)
    rw [hl4, ← ht] at this
    exact this
  have hslK : ∀ V : World, (Instr.slice 23 (.slice (some ⟨g, o, none⟩) N cap) (some (.int .i64 2)) (some (.int .i64 (2 + (s : Int)))) none).run Tryz.prog V = .ok (.slice (some ⟨g, o + 2, none⟩) s (cap - 2)) V := fun V => by
    rw [slLH V g o N cap 2 (2 + s) 2 (2 + (s : Int)) rfl (by omega) (by omega) (by omega), if_neg (by omega), show 2 + s - 2 = s from by omega]
  have hsl4 : ∀ V : World, (Instr.slice 23 (.slice (some ⟨g, o, none⟩) N cap) (some (.int .i64 (2 + (s : Int)))) (some (.int .i64 (2 + (s : Int) + 4))) none).run Tryz.prog V = .ok (.slice (some ⟨g, o + (2 + s), none⟩) 4 (cap - (2 + s))) V := fun V => by
    rw [slLH V g o N cap (2 + s) (6 + s) (2 + (s : Int)) (2 + (s : Int) + 4) (by omega) (by omega) (by omega) (by omega), if_neg (by omega), show 6 + s - (2 + s) = 4 from by omega]
  have hkl : ((bs.drop 2).take s).length = s := by rw [List.length_take, List.length_drop]; omega
  have hkv : BytesV w (.slice (some ⟨g, o + 2, none⟩) s (cap - 2)) ((bs.drop 2).take s) := HS.out.1.part 2 s _ (by omega)
  have HKV : Hid (BytesV w (.slice (some ⟨g, o + 2, none⟩) s (cap - 2)) ((bs.drop 2).take s)) := hkv
  have HC4 : Hid _ := hC4
  have HD : Hid (∀ m, Below w.heap.size w ((w.alloc (.cells #[.slice none 0 0, .slice none 0 0, .bool false] 90)).drewN m) ∧ ((w.alloc (.cells #[.slice none 0 0, .slice none 0 0, .bool false] 90)).drewN m).heap[w.heap.size]? = some (.cells #[.slice none 0 0, .slice none 0 0, .bool false] 90)) := fun m => ⟨bd2 HB.out.1 m, HB.out.2⟩
  clear hC4 hkv hkl hl4
  by_cases g4 : t = 4294967295
  · rw [if_pos g4] at hR
    have HR : Hid (R = some (⟨(bs.drop 2).take s, [], true⟩, 6 + s)) := hR
    have g4i : ((t : Int) == 4294967295) = true := by rw [g4]; rfl
    clear hR g1 hN g2 hs g3 ht g4
    go_enter Tryz.func98, Tryz.ntmps98
    go_wp2_with (first
      | (have _ := T1
         go_at_call 125
         clear T1
         refine Calls.mono (HC2.out _ HB.out.1) ?_
         rintro e w1 ⟨rfl, rfl⟩))
    go_quiet (first
      | (go_at_call 125; refine Calls.quiet_of_same (HC4.out _ ?_); exact bd2 HB.out.1 _))
    go_wp2
    refine ⟨rfl, _, res98 _ _ _ _ _ _ _ _ (kset (HD.out _).2) rfl rfl rfl, kset_below (HD.out _).1 (Nat.le_refl _) _ _ _, ?_⟩
    rw [HR.out]
    refine ⟨_, _, ?_, HKV.out, Or.inl ⟨rfl, rfl⟩⟩
    rw [show ((6 + s : Nat) : Int) = 2 + (s : Int) + 4 from by omega]
    rfl
  rw [if_neg g4] at hR
  have g4i : ((t : Int) == 4294967295) = false := by simp; omega
  have hw5 : IntKind.u64.wrap ((N : Int) - (2 + (s : Int) + 4)) = (N : Int) - (2 + (s : Int) + 4) := by rw [IntKind.wrap_u64]; omega
  have hwt : IntKind.i64.wrap (t : Int) = t := by rw [IntKind.wrap_i64]; omega
  by_cases g5 : bs.length - (6 + s) < t
  · rw [if_pos g5] at hR
    have HR : Hid (R = none) := hR
    have g5i : (N : Int) - (2 + (s : Int) + 4) < t := by omega
    clear hR g1 hN g2 hs g3 ht g4 g5
    go_enter Tryz.func98, Tryz.ntmps98
    go_wp2_with (first
      | (have _ := T1
         go_at_call 125
         clear T1
         refine Calls.mono (HC2.out _ HB.out.1) ?_
         rintro e w1 ⟨rfl, rfl⟩))
    go_quiet (first
      | (go_at_call 125; refine Calls.quiet_of_same (HC4.out _ ?_); exact bd2 HB.out.1 _))
    go_wp2
    refine ⟨rfl, _, res98 _ _ _ _ _ _ _ _ (kset (HD.out _).2) rfl rfl rfl, kset_below (HD.out _).1 (Nat.le_refl _) _ _ _, ?_⟩
    rw [HR.out]
    rfl
  · rw [if_neg g5] at hR
    have HR : Hid (R = some (⟨(bs.drop 2).take s, (bs.drop (6 + s)).take t, false⟩, 6 + s + t)) := hR
    have g5i : ¬ (N : Int) - (2 + (s : Int) + 4) < t := by omega
    have hslV : ∀ V : World, (Instr.slice 23 (.slice (some ⟨g, o, none⟩) N cap) (some (.int .i64 (2 + (s : Int) + 4))) (some (.int .i64 (2 + (s : Int) + 4 + (t : Int)))) none).run Tryz.prog V = .ok (.slice (some ⟨g, if cap = 6 + s then o else o + (6 + s), none⟩) t (cap - (6 + s))) V := fun V => by
      rw [slLH V g o N cap (6 + s) (6 + s + t) (2 + (s : Int) + 4) (2 + (s : Int) + 4 + (t : Int)) (by omega) (by omega) (by omega) (by omega), show 6 + s + t - (6 + s) = t from by omega]
    have HVV : Hid (BytesV w (.slice (some ⟨g, if cap = 6 + s then o else o + (6 + s), none⟩) t (cap - (6 + s))) ((bs.drop (6 + s)).take t)) := HS.out.1.cutLH (6 + s) t (by omega) (by omega)
    generalize (if cap = 6 + s then o else o + (6 + s)) = o2 at hslV HVV
    have hNt : 6 + s + t ≤ N := by omega
    clear hR g1 hN g2 hs g3 ht g4 g5
    go_enter Tryz.func98, Tryz.ntmps98
    go_wp2_with (first
      | (have _ := T1
         go_at_call 125
         clear T1
         refine Calls.mono (HC2.out _ HB.out.1) ?_
         rintro e w1 ⟨rfl, rfl⟩))
    go_quiet (first
      | (go_at_call 125; refine Calls.quiet_of_same (HC4.out _ ?_); exact bd2 HB.out.1 _))
    go_wp2
    refine ⟨rfl, _, res98 _ _ _ _ _ _ _ _ (kset (HD.out _).2) rfl rfl rfl, kset_below (HD.out _).1 (Nat.le_refl _) _ _ _, ?_⟩
    rw [HR.out]
    refine ⟨_, _, ?_, HKV.out, HVV.out⟩
    rw [show ((6 + s + t : Nat) : Int) = 2 + (s : Int) + 4 + (t : Int) from by omega]
    rfl
end Go.Proofs.YtconkienlcegaaaGreatDoor
