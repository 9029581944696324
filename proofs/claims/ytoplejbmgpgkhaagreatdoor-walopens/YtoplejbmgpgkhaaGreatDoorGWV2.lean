/- WU3, WU5, WV0, WV1, WV2 -/
import Derived.Test.YtoplejbmgpgkhaaGreatDoorGWU2
import Derived.Test.YtoplejbmgpgkhaaGreatDoorGWB
namespace Go.Proofs.YtoplejbmgpgkhaaGreatDoor
open Go.RowKit
set_option linter.unusedVariables false
inductive TookF : List Int → Nat → List (List Int) → Prop
  | nil (bs : List Int) : TookF bs 0 []
  | step {bs : List Int} {k : Nat} {rs : List (List Int)} : bs ≠ [] → (nx bs).1 = 0 → TookF (bs.drop (nx bs).2.1) k rs → TookF bs ((nx bs).2.1 + k) ((nx bs).2.2 :: rs)
theorem TookF.snoc {bs : List Int} {k : Nat} {rs : List (List Int)} (h : TookF bs k rs) (hk : k < bs.length) (hn : (nx (bs.drop k)).1 = 0) : TookF bs (k + (nx (bs.drop k)).2.1) (rs ++ [(nx (bs.drop k)).2.2]) := by
  induction h with
  | nil bs =>
    rw [List.drop_zero] at hn ⊢
    rw [Nat.zero_add]
    have := TookF.step (k := 0) (rs := []) (fun e => by rw [e] at hk; cases hk) hn (TookF.nil _)
    rw [Nat.add_zero] at this
    exact this
  | step h1 h2 h3 ih =>
    rename_i bs k rs
    have e : bs.drop ((nx bs).2.1 + k) = (bs.drop (nx bs).2.1).drop k := by rw [List.drop_drop]
    rw [e] at hn ⊢
    have := TookF.step h1 h2 (ih (by rw [List.length_drop]; omega) hn)
    rw [Nat.add_assoc]
    exact this
theorem Took.front {bs : List Int} {k : Nat} {rs : List (List Int)} (h : Took bs k rs) : TookF bs k rs := by
  induction h with
  | nil => exact TookF.nil _
  | step h1 h2 h3 ih => exact ih.snoc h2 h3
theorem TookF.unique {bs : List Int} {k k' : Nat} {rs rs' : List (List Int)} (h : TookF bs k rs) (h' : TookF bs k' rs') (hs : k = bs.length ∨ (nx (bs.drop k)).1 ≠ 0) (hs' : k' = bs.length ∨ (nx (bs.drop k')).1 ≠ 0) : k = k' ∧ rs = rs' := by
  induction h generalizing k' rs' with
  | nil bs =>
    cases h' with
    | nil => exact ⟨rfl, rfl⟩
    | step g1 g2 g3 =>
      rcases hs with hs | hs
      · exact absurd (List.length_eq_zero_iff.1 hs.symm) g1
      · rw [List.drop_zero] at hs
        exact absurd g2 hs
  | step h1 h2 h3 ih =>
    rename_i bs k rs
    cases h' with
    | nil =>
      rcases hs' with hs' | hs'
      · exact absurd (List.length_eq_zero_iff.1 hs'.symm) h1
      · rw [List.drop_zero] at hs'
        exact absurd h2 hs'
    | step g1 g2 g3 =>
      rename_i k2 rs2
      have e : ∀ m, bs.drop ((nx bs).2.1 + m) = (bs.drop (nx bs).2.1).drop m := fun m => by rw [List.drop_drop]
      rw [e] at hs hs'
      obtain ⟨q1, q2⟩ := ih g3 (hs.imp (fun h => by rw [List.length_drop]; omega) id) (hs'.imp (fun h => by rw [List.length_drop]; omega) id)
      rw [q1, q2]
      exact ⟨rfl, rfl⟩
/-- What stands in a file is determined. -/
theorem Took.unique {bs : List Int} {k k' : Nat} {rs rs' : List (List Int)} (h : Took bs k rs) (h' : Took bs k' rs') (hs : k = bs.length ∨ (nx (bs.drop k)).1 ≠ 0) (hs' : k' = bs.length ∨ (nx (bs.drop k')).1 ≠ 0) : k = k' ∧ rs = rs' :=
  h.front.unique h'.front hs hs'
end Go.Proofs.YtoplejbmgpgkhaaGreatDoor
namespace Go.Proofs.YtoplejbmgpgkhaaGreatDoor
open Go.RowKit
set_option linter.unusedVariables false
def NmB (l : List Tf) : Prop := ∀ p ∈ l, p.1.length ≤ 32
theorem nb_len {s : ByteArray} (h : nameB s = true) : (nb s).length ≤ 32 := by
  unfold nameB at h
  simp only [Bool.and_eq_true, decide_eq_true_eq] at h
  have := h.1.2
  simpa [nb] using this
theorem NmB.set {l : List Tf} (h : NmB l) {n : List UInt8} (hn : n.length ≤ 32) (b : List Int) (s : Int) : NmB (setT l n b s) := by
  intro p hp
  obtain ⟨q, hq, rfl⟩ := List.mem_map.1 hp
  split
  · exact hn
  · exact h q hq
theorem NmB.del {l : List Tf} (h : NmB l) (n : List UInt8) : NmB (delT l n) := fun p hp => h p (List.mem_filter.1 hp).1
theorem NmB.ins {x : Tf} (hx : x.1.length ≤ 32) : ∀ {l : List Tf}, NmB l → NmB (insT x l)
  | [], _ => fun p hp => by
    have : p = x := by simpa [insT] using hp
    rw [this]; exact hx
  | y :: r, h => fun p hp => by
    unfold insT at hp
    split at hp
    · rcases List.mem_cons.1 hp with rfl | hp
      · exact hx
      · exact h p hp
    · rcases List.mem_cons.1 hp with rfl | hp
      · exact h _ List.mem_cons_self
      · exact NmB.ins hx (fun q hq => h q (List.mem_cons_of_mem _ hq)) p hp
theorem NmB.sync {l : List Tf} (h : NmB l) (s : ByteArray) : NmB (lSync l s) := by
  unfold lSync
  split
  · rename_i hs
    split
    · exact h.set (nb_len hs) _ _
    · exact h
  · exact h
theorem NmB.tru {l : List Tf} (h : NmB l) (s : ByteArray) (x : Int) : NmB (lTru l s x) := by
  unfold lTru
  split
  · rename_i hs
    split
    · split
      · exact h
      · exact h.set (nb_len hs) _ _
    · exact h
  · exact h
theorem NmB.app {l : List Tf} (h : NmB l) (room : Int) (s : ByteArray) (bs : List Int) : NmB (lApp l room s bs) := by
  unfold lApp
  split
  · rename_i hs
    split
    · exact h
    · split
      · exact h
      · split
        · exact h.set (nb_len hs) _ _
        · exact NmB.ins (nb_len hs) (h.del _)
  · exact h
theorem NmB.dDo {A : DA} (h : NmB A.l) (s : ByteArray) (e : Int) {l' : List Tf} (h' : NmB l') : NmB (dDo A s e l').2.l := by
  unfold Proofs.YtoplejbmgpgkhaaGreatDoor.dDo
  dsimp only
  split
  · exact h'
  · exact h
theorem NmB.dApp {A : DA} (h : NmB A.l) (s : ByteArray) (bs : List Int) : NmB (dApp A s bs).2.l := h.dDo _ _ (h.app _ _ _)
theorem NmB.dSync {A : DA} (h : NmB A.l) (s : ByteArray) : NmB (dSync A s).2.l := h.dDo _ _ (h.sync _)
theorem NmB.dTru {A : DA} (h : NmB A.l) (s : ByteArray) (x : Int) : NmB (dTru A s x).2.l := h.dDo _ _ (h.tru _ _)
theorem NmB.dRead {A : DA} (h : NmB A.l) (s : ByteArray) : NmB (dRead A s).2.l := h.dDo _ _ h
theorem NmB.nmS {l : List Tf} (h : NmB l) : ∀ s ∈ nmS l, s.size ≤ 1000 := by
  intro s hs
  unfold Proofs.YtoplejbmgpgkhaaGreatDoor.nmS at hs
  obtain ⟨p, hp, rfl⟩ := List.mem_map.1 hs
  have := h p hp
  show p.1.toArray.size ≤ 1000
  rw [List.size_toArray]
  omega
end Go.Proofs.YtoplejbmgpgkhaaGreatDoor
namespace Go.Proofs.YtoplejbmgpgkhaaGreatDoor
open Go.RowKit
set_option linter.unusedVariables false
theorem pu_snoc (c : UInt8) : ∀ (l : List UInt8) (acc : Nat), Lib.parseUint10 acc (l ++ [c]) = (match Lib.parseUint10 acc l with | .ok v => Lib.parseUint10 v [c] | .syntax => .syntax | .range => .range)
  | [], acc => rfl
  | d :: r, acc => by
    rw [List.cons_append]
    have e : ∀ t, Lib.parseUint10 acc (d :: t) = if 48 ≤ d.toNat ∧ d.toNat ≤ 57 then (if 1844674407370955162 ≤ acc then .range else if 18446744073709551616 ≤ acc * 10 + (d.toNat - 48) then .range else Lib.parseUint10 (acc * 10 + (d.toNat - 48)) t) else .syntax := fun t => rfl
    rw [e, e]
    split
    · split
      · rfl
      · split
        · rfl
        · exact pu_snoc c r _
    · rfl
theorem dig_nat (d : Nat) (h : d < 10) : (UInt8.ofNat (48 + d)).toNat = 48 + d := by
  simp
  omega
theorem pu_one (a d : Nat) (hd : d < 10) (ha : a < 100000000000000000) : Lib.parseUint10 a [UInt8.ofNat (48 + d)] = .ok (a * 10 + d) := by
  have e : Lib.parseUint10 a [UInt8.ofNat (48 + d)] = if 48 ≤ (UInt8.ofNat (48 + d)).toNat ∧ (UInt8.ofNat (48 + d)).toNat ≤ 57 then (if 1844674407370955162 ≤ a then .range else if 18446744073709551616 ≤ a * 10 + ((UInt8.ofNat (48 + d)).toNat - 48) then .range else .ok (a * 10 + ((UInt8.ofNat (48 + d)).toNat - 48))) else .syntax := rfl
  rw [e, dig_nat d hd, if_pos (by omega), if_neg (by omega), if_neg (by omega)]
  congr 1
  omega
theorem pu_dec (u : Nat) : u < 1000000000000000000 → Lib.parseUint10 0 (Lib.decDigits u) = .ok u := by
  induction u using Nat.strongRecOn with
  | ind u ih =>
    intro hu
    rw [Lib.decDigits]
    split
    · have := pu_one 0 u (by omega) (by omega)
      rw [Nat.zero_mul, Nat.zero_add] at this
      exact this
    · rw [pu_snoc, ih (u / 10) (by omega) (by omega)]
      show Lib.parseUint10 (u / 10) [UInt8.ofNat (48 + u % 10)] = _
      rw [pu_one _ _ (by omega) (by omega)]
      congr 1
      omega
theorem dec_head (u : Nat) : ∃ c r, Lib.decDigits u = c :: r ∧ 48 ≤ c.toNat ∧ c.toNat ≤ 57 := by
  induction u using Nat.strongRecOn with
  | ind u ih =>
    rw [Lib.decDigits]
    split
    · exact ⟨_, _, rfl, by rw [dig_nat u (by omega)]; omega, by rw [dig_nat u (by omega)]; omega⟩
    · obtain ⟨c, r, h1, h2⟩ := ih (u / 10) (by omega)
      exact ⟨c, r ++ [UInt8.ofNat (48 + u % 10)], by rw [h1]; rfl, h2⟩
theorem atoi_itoa (n : Int) (h0 : 0 ≤ n) (h1 : n < 1000000000) : Lib.atoiAll (Lib.itoa n) = .ok n := by
  have e : Lib.itoa n = Lib.decDigits n.toNat := if_neg (by omega)
  rw [e]
  obtain ⟨c, r, hd, hc⟩ := dec_head n.toNat
  have hp := pu_dec n.toNat (by omega)
  rw [hd] at hp ⊢
  have hm : Lib.parseMag (c :: r) = .ok n.toNat := by
    unfold Lib.parseMag
    rw [if_neg (by simp)]
    exact hp
  unfold Lib.atoiAll
  dsimp only
  rw [if_neg (by omega), hm]
  dsimp only
  rw [if_neg (by omega), if_neg (by omega), if_neg (by omega)]
  congr 1
  omega
theorem file_list (n : Int) (h0 : 0 ≤ n) (h1 : n < 1000000000) : (fileB logB n).data.toList = pfx.data.toList ++ Lib.itoa n := by
  have e : fileB logB n = logB ++ ⟨#[46]⟩ ++ ⟨(Lib.itoa n).toArray⟩ := if_neg (by omega)
  rw [e]
  simp [pfx, ByteArray.data_append]
theorem numOf_file (n : Int) (h0 : 0 ≤ n) (h1 : n < 1000000000) : numOf (fileB logB n) = some n := by
  have hl := file_list n h0 h1
  have hp : Lib.hasPrefix (fileB logB n).data.toList pfx.data.toList = true := by
    rw [hl]
    unfold Lib.hasPrefix
    rw [List.isPrefixOf_iff_prefix]
    exact List.prefix_append _ _
  have hr : (restB (fileB logB n)).data.toList = Lib.itoa n := by
    unfold restB Lib.trimPrefix
    rw [if_pos hp, hl]
    simp
  unfold numOf
  rw [if_pos hp, hr, atoi_itoa n h0 h1]
  dsimp only
  rw [if_pos rfl]
theorem file_inj {m n : Int} (hm : 0 ≤ m ∧ m < 1000000000) (hn : 0 ≤ n ∧ n < 1000000000) (h : nb (fileB logB m) = nb (fileB logB n)) : m = n := by
  have h1 : fileB logB m = fileB logB n := nm_eq.2 h
  have h2 := numOf_file m hm.1 hm.2
  rw [h1, numOf_file n hn.1 hn.2] at h2
  injection h2 with h2
  exact h2.symm
theorem name_lt {n : Int} (h : nameB (fileB logB n) = true) : 0 ≤ n ∧ n < 1000000000 := by
  by_cases hb : n < 0 ∨ 1000000000 ≤ n
  · rw [show fileB logB n = ByteArray.empty from if_pos hb] at h
    exact absurd h (by decide)
  · omega
end Go.Proofs.YtoplejbmgpgkhaaGreatDoor
namespace Go.Proofs.YtoplejbmgpgkhaaGreatDoor
open Go.RowKit
set_option linter.unusedVariables false
set_option linter.unusedSimpArgs false
/-- Bytes. -/
def Byts (l : List Int) : Prop := ∀ x ∈ l, 0 ≤ x ∧ x < 256
theorem Byts.set {l : List Int} (h : Byts l) (i : Nat) {y : Int} (hy : 0 ≤ y ∧ y < 256) : Byts (l.set i y) := fun x hx => by
  rcases List.mem_or_eq_of_mem_set hx with h1 | rfl
  · exact h x h1
  · exact hy
theorem Byts.app {l m : List Int} (h : Byts l) (h' : Byts m) : Byts (l ++ m) := fun x hx => (List.mem_append.1 hx).elim (h x) (h' x)
end Go.Proofs.YtoplejbmgpgkhaaGreatDoor
namespace Go.Proofs.YtoplejbmgpgkhaaGreatDoor
open Go.RowKit
set_option linter.unusedVariables false
set_option linter.unusedSimpArgs false
def joinF : List (List Int) → List Int
  | [] => []
  | r :: t => frameB r ++ joinF t
theorem joinF_append : ∀ (a b : List (List Int)), joinF (a ++ b) = joinF a ++ joinF b
  | [], b => rfl
  | r :: a, b => by
    show frameB r ++ joinF (a ++ b) = frameB r ++ joinF a ++ joinF b
    rw [joinF_append a b, List.append_assoc]
theorem joinF_one (r : List Int) : joinF [r] = frameB r := List.append_nil _
abbrev Seg := Int × List (List Int)
def cntS (gs : List Seg) : Nat := (gs.flatMap (·.2)).length
theorem cntS_append (a b : List Seg) : cntS (a ++ b) = cntS a + cntS b := by
  unfold cntS
  rw [List.flatMap_append, List.length_append]
theorem cntS_cons (s : Seg) (b : List Seg) : cntS (s :: b) = s.2.length + cntS b := by
  unfold cntS
  rw [List.flatMap_cons, List.length_append]
theorem cntS_one (s : Seg) : cntS [s] = s.2.length := by
  rw [cntS_cons]
  rfl
/-- The files' numbers follow from their records. -/
def SegSeq : Int → List Seg → Prop
  | _, [] => True
  | n, s :: r => s.1 = n ∧ s.2 ≠ [] ∧ SegSeq (n + s.2.length) r
theorem SegSeq.snoc {s : Seg} : ∀ {gs : List Seg} {n : Int}, SegSeq n gs → s.1 = n + cntS gs → s.2 ≠ [] → SegSeq n (gs ++ [s])
  | [], n, _, h1, h2 => ⟨by rw [h1]; show n + (0 : Nat) = n; omega, h2, trivial⟩
  | g :: r, n, h, h1, h2 => ⟨h.1, h.2.1, SegSeq.snoc h.2.2 (by rw [h1, cntS_cons]; omega) h2⟩
theorem SegSeq.ge {s : Seg} : ∀ {gs : List Seg} {n : Int}, SegSeq n gs → s ∈ gs → n ≤ s.1 ∧ s.1 + s.2.length ≤ n + cntS gs
  | g :: r, n, h, hs => by
    rw [cntS_cons]
    rcases List.mem_cons.1 hs with rfl | hs
    · have := h.1
      omega
    · have := SegSeq.ge h.2.2 hs
      omega
theorem SegSeq.lt : ∀ {gs : List Seg} {n : Int}, SegSeq n gs → (gs.map (·.1)).Pairwise (· < ·)
  | [], n, _ => List.Pairwise.nil
  | g :: r, n, h => by
    rw [List.map_cons]
    refine List.Pairwise.cons (fun x hx => ?_) (SegSeq.lt h.2.2)
    obtain ⟨s, hs, rfl⟩ := List.mem_map.1 hx
    have h1 := (SegSeq.ge h.2.2 hs).1
    have h2 := h.1
    have h3 : 0 < g.2.length := List.length_pos_iff.2 h.2.1
    omega
theorem SegSeq.pos {gs : List Seg} {n : Int} {s : Seg} (h : SegSeq n gs) (hs : s ∈ gs) : s.2 ≠ [] := by
  induction gs generalizing n with
  | nil => cases hs
  | cons g r ih =>
    rcases List.mem_cons.1 hs with rfl | hs
    · exact h.2.1
    · exact ih h.2.2 hs
def nmF (m : Int) : List UInt8 := nb (fileB logB m)
/-- A file as it should be. -/
structure SegOk (l : List Tf) (s : Seg) (z : Int) : Prop where
  nm : nameB (fileB logB s.1) = true
  here : fT l (nmF s.1) = some (nmF s.1, joinF s.2, z)
  len : ∀ r ∈ s.2, r.length ≤ 65536
theorem SegOk.kept {l l' : List Tf} {s : Seg} {z : Int} (h : SegOk l s z) (hf : fT l' (nmF s.1) = fT l (nmF s.1)) : SegOk l' s z := ⟨h.nm, hf.trans h.here, h.len⟩
/-- A log (its files; of the last one j records are safe; sc records are safe at all) and a disk. -/
structure LV (l : List Tf) (P : PL) (ini : List Seg) (la : Option Seg) (sc : Nat) : Prop where
  fs : P.fs = (ini ++ la.toList).map (·.1)
  rs : P.rs = (ini ++ la.toList).flatMap (·.2)
  seq : SegSeq 0 (ini ++ la.toList)
  full : ∀ s ∈ ini, SegOk l s (joinF s.2).length
  nil0 : la = none → ini = [] ∧ P.size = 0 ∧ P.uns = false ∧ sc = 0
  las : ∀ s, la = some s → P.size = (joinF s.2).length ∧ ∃ j, j ≤ s.2.length ∧ SegOk l s (joinF (s.2.take j)).length ∧ (P.uns = false → j = s.2.length) ∧ sc ≤ cntS ini + j
  only : ∀ p ∈ l, ∃ s ∈ ini ++ la.toList, p.1 = nmF s.1
theorem LV.empty (most : Int) : LV [] ⟨[], [], 0, false, most⟩ [] none 0 :=
  ⟨rfl, rfl, trivial, fun s hs => (by cases hs), fun _ => ⟨rfl, rfl, rfl, rfl⟩, fun s hs => (by cases hs), fun p hp => (by cases hp)⟩
theorem LV.cnt {l : List Tf} {P : PL} {ini : List Seg} {la : Option Seg} {sc : Nat} (h : LV l P ini la sc) : P.rs.length = cntS ini + cntS la.toList := by
  rw [h.rs, ← cntS_append]
  rfl
theorem LV.sc_le {l : List Tf} {P : PL} {ini : List Seg} {la : Option Seg} {sc : Nat} (h : LV l P ini la sc) : sc ≤ P.rs.length := by
  rw [h.cnt]
  cases hla : la with
  | none =>
    have := (h.nil0 hla).2.2.2
    omega
  | some s =>
    obtain ⟨_, j, hj, _, _, h5⟩ := h.las s hla
    show sc ≤ cntS ini + cntS [s]
    rw [cntS_one]
    omega
theorem LV.fst0 {l : List Tf} {P : PL} {ini : List Seg} {la : Option Seg} {sc : Nat} (h : LV l P ini la sc) : P.fst = 0 := by
  unfold PL.fst
  have h1 := h.fs
  have h2 := h.seq
  generalize ini ++ la.toList = gs at h1 h2
  rw [h1]
  cases gs with
  | nil => rfl
  | cons g r => exact h2.1
theorem LV.en {l : List Tf} {P : PL} {ini : List Seg} {la : Option Seg} {sc : Nat} (h : LV l P ini la sc) : P.en = P.rs.length := by
  unfold PL.en
  rw [h.fst0]
  omega
theorem LV.last {l : List Tf} {P : PL} {ini : List Seg} {la : Option Seg} {sc : Nat} (h : LV l P ini la sc) {s : Seg} (hs : la = Option.some s) : P.last = s.1 := by
  unfold PL.last
  rw [h.fs, hs]
  show ((ini ++ [s]).map (·.1)).getLastD 0 = s.1
  rw [List.map_append, List.getLastD_eq_getLast?]
  simp
theorem LV.ok {l : List Tf} {P : PL} {ini : List Seg} {la : Option Seg} {sc : Nat} (h : LV l P ini la sc) {s : Seg} (hs : s ∈ ini ++ la.toList) : ∃ z, SegOk l s z := by
  rcases List.mem_append.1 hs with h1 | h1
  · exact ⟨_, h.full s h1⟩
  · cases hla : la with
    | none => rw [hla] at h1; cases h1
    | some x =>
      rw [hla] at h1
      have e : s = x := by simpa using h1
      subst e
      obtain ⟨_, j, _, h3, _⟩ := h.las s hla
      exact ⟨_, h3⟩
theorem LV.ne {l : List Tf} {P : PL} {ini : List Seg} {sc : Nat} {s : Seg} (h : LV l P ini (Option.some s) sc) {g : Seg} (hg : g ∈ ini) : nmF g.1 ≠ nmF s.1 := by
  intro e
  have h1 := h.seq.lt
  have h2 : ((ini ++ [s]).map (·.1)).Pairwise (· < ·) := h1
  rw [List.map_append, List.pairwise_append] at h2
  have h3 := h2.2.2 g.1 (List.mem_map_of_mem hg) s.1 (by simp)
  obtain ⟨z, hz⟩ := h.ok (s := s) (by simp)
  have h4 := file_inj (name_lt (h.full g hg).nm) (name_lt hz.nm) e
  omega
theorem fT_set_self {l : List Tf} {n : List UInt8} {p : Tf} (h : fT l n = some p) (b : List Int) (s : Int) : fT (setT l n b s) n = some (n, b, s) := by
  unfold fT setT at *
  induction l with
  | nil => cases h
  | cons a r ih =>
    rw [List.map_cons]
    by_cases e : a.1 = n
    · rw [if_pos e, List.find?_cons_of_pos (by simp)]
    · rw [if_neg e, List.find?_cons_of_neg (by simpa using e)]
      rw [List.find?_cons_of_neg (by simpa using e)] at h
      exact ih h
theorem fT_ins_self {x : Tf} : ∀ {l : List Tf}, (∀ p ∈ l, p.1 ≠ x.1) → fT (insT x l) x.1 = some x
  | [], _ => by simp [insT, fT]
  | y :: r, h => by
    unfold insT
    split
    · simp [fT]
    · have ih := fT_ins_self (x := x) (l := r) fun p hp => h p (List.mem_cons_of_mem _ hp)
      unfold fT at ih ⊢
      rw [List.find?_cons_of_neg (by simpa using h y List.mem_cons_self)]
      exact ih
theorem fT_put_self (l : List Tf) (x : Tf) : fT (putT l x) x.1 = some x := by
  unfold putT
  apply fT_ins_self
  intro p hp
  have := (List.mem_filter.1 hp).2
  simpa using this
theorem mem_set_nm {l : List Tf} {n : List UInt8} {b : List Int} {s : Int} {p : Tf} (h : p ∈ setT l n b s) : ∃ q ∈ l, q.1 = p.1 := by
  unfold setT at h
  obtain ⟨q, hq, rfl⟩ := List.mem_map.1 h
  refine ⟨q, hq, ?_⟩
  split
  · rename_i e
    exact e
  · rfl
theorem mem_put_nm {l : List Tf} {x p : Tf} (h : p ∈ putT l x) : p = x ∨ p ∈ l := by
  unfold putT at h
  rcases mem_ins h with h | h
  · exact Or.inl h
  · exact Or.inr (List.mem_filter.1 h).1
/-- Sync. -/
theorem LV.sync {A : DA} {P : PL} {ini : List Seg} {la : Option Seg} {sc : Nat} (h : LV A.l P ini la sc) :
    LV (pSync A P).2.1.l (pSync A P).2.2 ini la (if (pSync A P).1 = 0 then P.rs.length else sc) ∧ ((pSync A P).1 = 0 → (pSync A P).2.2.uns = false) := by
  by_cases hu : P.uns = true
  rotate_left
  · have hu' : P.uns = false := by simpa using hu
    have e : pSync A P = (0, A, P) := if_neg hu
    rw [e]
    refine ⟨?_, fun _ => hu'⟩
    show LV A.l P ini la (if (0 : Int) = 0 then P.rs.length else sc)
    rw [if_pos rfl]
    refine ⟨h.fs, h.rs, h.seq, h.full, fun hn => ?_, fun s hs => ?_, h.only⟩
    · obtain ⟨q1, q2, q3, q4⟩ := h.nil0 hn
      refine ⟨q1, q2, q3, ?_⟩
      rw [h.cnt, q1, hn]
      rfl
    · obtain ⟨q1, j, q2, q3, q4, q5⟩ := h.las s hs
      refine ⟨q1, j, q2, q3, q4, ?_⟩
      rw [h.cnt, hs, q4 hu']
      show cntS ini + cntS [s] ≤ _
      rw [cntS_one]
      omega
  · obtain ⟨s, hs⟩ : ∃ s, la = Option.some s := by
      cases hla : la with
      | none =>
        have := (h.nil0 hla).2.2.1
        rw [hu] at this
        cases this
      | some s => exact ⟨s, rfl⟩
    subst hs
    obtain ⟨q1, j, q2, q3, q4, q5⟩ := h.las s rfl
    have hL := h.last (s := s) rfl
    have e : pSync A P = ((dSync A (fileB logB s.1)).1, (dSync A (fileB logB s.1)).2, { P with uns := decide ((dSync A (fileB logB s.1)).1 ≠ 0) }) := by
      unfold pSync
      rw [if_pos hu, hL]
    have hh : fT A.l (nb (fileB logB s.1)) = _ := q3.here
    have hf : eFind A.l (fileB logB s.1) = 0 := by
      unfold eFind
      rw [if_pos q3.nm, hh]
      rfl
    have hls : lSync A.l (fileB logB s.1) = setT A.l (nmF s.1) (joinF s.2) (joinF s.2).length := by
      unfold lSync
      rw [if_pos q3.nm, hh]
      rfl
    have hc : (dSync A (fileB logB s.1)).1 = A.sE (fileB logB s.1) := by
      show (if A.sE _ = 0 then eFind _ _ else A.sE _) = _
      rw [hf]
      split
      · rename_i h0
        exact h0.symm
      · rfl
    have hl : (dSync A (fileB logB s.1)).2.l = if A.sE (fileB logB s.1) = 0 then setT A.l (nmF s.1) (joinF s.2) (joinF s.2).length else A.l := by
      show (if A.sE _ = 0 then lSync _ _ else A.l) = _
      rw [hls]
    rw [e]
    dsimp only
    rw [hc, hl]
    by_cases h0 : A.sE (fileB logB s.1) = 0
    · rw [if_pos h0, if_pos h0]
      refine ⟨⟨h.fs, h.rs, h.seq, fun g hg => (h.full g hg).kept (fT_set (h.ne hg) _ _), fun hn => (by cases hn), fun g hg => ?_, fun p hp => ?_⟩, fun _ => by simp [h0]⟩
      · obtain rfl : s = g := by injection hg
        refine ⟨q1, s.2.length, Nat.le_refl _, ⟨q3.nm, ?_, q3.len⟩, fun _ => rfl, ?_⟩
        · rw [List.take_length]
          exact fT_set_self q3.here _ _
        · rw [h.cnt]
          show cntS ini + cntS [s] ≤ _
          rw [cntS_one]
          omega
      · obtain ⟨q, hq, he⟩ := mem_set_nm hp
        rw [← he]
        exact h.only q hq
    · rw [if_neg h0, if_neg h0]
      refine ⟨⟨h.fs, h.rs, h.seq, h.full, fun hn => (by cases hn), fun g hg => ?_, h.only⟩, fun hx => absurd hx h0⟩
      obtain ⟨q1, j, q2, q3, q4, q5⟩ := h.las g hg
      refine ⟨q1, j, q2, q3, fun hx => ?_, q5⟩
      have : decide (A.sE (fileB logB s.1) ≠ 0) = false := hx
      exact absurd h0 (by simpa using this)
end Go.Proofs.YtoplejbmgpgkhaaGreatDoor
