/- WdR0, WdR2, WdR3, WdR4, WdR7, WdW2, WdM1, WdW4, laid into one text. -/
import Derived.Test.YtmnlcpfehbpogaaM1
import Derived.Deep.OwnRows
import Derived.Laws.StructEq
/- Walks over the document's own numbers: lists of bytes. -/
namespace Go.Proofs.Ytmnlcpfehbpogaa.Wd
open Go.RowKit
set_option linter.unusedSimpArgs false
set_option linter.unusedVariables false
/-- A slice of ints that lies in memory. -/
def IsN (w : World) (v : Value) (d : List Int) : Prop :=
  ∃ a cap, v = .slice a d.length cap ∧ d.length ≤ cap ∧ (0 < d.length → ∃ b o, a = some ⟨b, o, none⟩ ∧ b < w.heap.size ∧ ∀ k, k < d.length → w.cell? ⟨b, o + k, none⟩ = some (.int .i64 (d.getD k 0)))
theorem Try.info3 : (Try.prog.info? 3).map (fun i => (i.zero, i.size, i.bytes)) = some (some (.int .i64 0), 1, 8) := by kernel_rfl
/-- The number of a list of digits, the lowest first. -/
def valB : List Int → Int
  | [] => 0
  | x :: r => x + 256 * valB r
/-- All digits are bytes. -/
def Byt (d : List Int) : Prop := ∀ k, 0 ≤ d.getD k 0 ∧ d.getD k 0 < 256
theorem getD_cons_zero' (x : Int) (r : List Int) : (x :: r).getD 0 0 = x := rfl
theorem getD_cons_succ' (x : Int) (r : List Int) (k : Nat) : (x :: r).getD (k + 1) 0 = r.getD k 0 := by simp [List.getD]
theorem valB_zero : ∀ (d : List Int), (∀ j, d.getD j 0 = 0) → valB d = 0
  | [], _ => rfl
  | x :: r, h => by
    have h0 := h 0
    rw [getD_cons_zero'] at h0
    rw [valB, valB_zero r (fun j => by have := h (j + 1); rwa [getD_cons_succ'] at this), h0]; rfl
theorem valB_take : ∀ (d : List Int) (k : Nat), (∀ j, k ≤ j → d.getD j 0 = 0) → valB (d.take k) = valB d
  | d, 0, h => by rw [List.take_zero, valB_zero d (fun j => h j (Nat.zero_le _))]; rfl
  | [], _ + 1, _ => rfl
  | x :: r, k + 1, h => by
    rw [List.take_succ_cons, valB, valB, valB_take r k (fun j hj => by have := h (j + 1) (by omega); rwa [getD_cons_succ'] at this)]
theorem Byt.take {d : List Int} (h : Byt d) (k : Nat) : Byt (d.take k) := fun j => by
  rcases Nat.lt_or_ge j k with g | g
  · have : (d.take k).getD j 0 = d.getD j 0 := by simp [List.getD, List.getElem?_take_of_lt g]
    rw [this]; exact h j
  · have : (d.take k).getD j 0 = 0 := by
      simp only [List.getD]
      rw [List.getElem?_eq_none (by simp; omega)]; rfl
    rw [this]; exact ⟨by decide, by decide⟩
/-- What a slice of the call's own reads as. -/
theorem IsN.of_owns {w : World} {base n : Nat} {v : Value} {d : List Int} (h : w.ownsRow base 3 1 v n (d.map (Value.int .i64))) : IsN w v d := by
  obtain ⟨h1, h2⟩ := h
  simp at h1
  rcases h2 with ⟨rfl, rfl⟩ | ⟨g, cap, cur, rfl, hg, hh, hn, hm, hs, ht⟩
  · have : d = [] := List.eq_nil_of_length_eq_zero h1
    subst this
    exact ⟨none, 0, rfl, Nat.le_refl _, fun h => absurd h (by simp)⟩
  · subst h1
    refine ⟨some ⟨g, 0, none⟩, cap, rfl, hn, fun _ => ⟨g, 0, rfl, ?_, fun k hk => ?_⟩⟩
    · have := (Array.getElem?_eq_some_iff.1 hh).1; exact this
    · have e : (cur.toList.take (d.length * 1))[k]? = (d.map (Value.int .i64))[k]? := by rw [ht]
      rw [List.getElem?_take_of_lt (by omega), List.getElem?_map, List.getElem?_eq_getElem hk] at e
      simp at e
      simp only [World.cell?, hh]
      simp [e, List.getD, List.getElem?_eq_getElem hk]
theorem trim_news (w : World) (b o : Nat) (d : List Int) (k : Nat) (hk : k ≤ d.length) (hc : ∀ k, k < d.length → w.cell? ⟨b, o + k, none⟩ = some (.int .i64 (d.getD k 0))) :
    ∀ j u, ((d.take k).map (Value.int .i64))[j]? = some u → w.cell? ((⟨b, o, none⟩ : Addr).add j) = some u := by
  intro j u hj
  have hlt : j < k := by
    have := (List.getElem?_eq_some_iff.1 hj).1
    simp at this; omega
  have e : (⟨b, o, none⟩ : Addr).add j = ⟨b, o + j, none⟩ := by unfold Addr.add; split <;> simp_all
  rw [e, hc j (by omega)]
  rw [List.getElem?_map, List.getElem?_take_of_lt hlt, List.getElem?_eq_getElem (by omega)] at hj
  simp at hj
  simp [← hj, List.getD, List.getElem?_eq_getElem (show j < d.length by omega)]
theorem oneCell_take (d : List Int) (k : Nat) : ∀ u ∈ List.take k (List.map (Value.int .i64) d), u.oneCell' = true := fun u hu => by
  have h := List.mem_of_mem_take hu
  simp at h
  obtain ⟨x, _, rfl⟩ := h
  rfl
set_option maxHeartbeats 1000000 in
theorem trim_some (w : World) (b o cap : Nat) (d : List Int) (hd : d.length < 4096) (hcap : d.length ≤ cap) (hb : b < w.heap.size) (hc : ∀ k, k < d.length → w.cell? ⟨b, o + k, none⟩ = some (.int .i64 (d.getD k 0))) :
    Calls Try.prog 59 #[.slice (some ⟨b, o, none⟩) d.length cap] w fun e w' => ∃ (v : Value) (k : Nat), e = .returned v ∧ IsN w' v (d.take k) ∧ Hid (k ≤ d.length ∧ (∀ j, k ≤ j → d.getD j 0 = 0)) ∧ Below w.heap.size w w' := by
  have HC : Hid _ := hc
  clear hc
  obtain ⟨i0, hi, hz0, hz1, hz2⟩ := info_parts Try.info3
  have HI : Hid _ := hi
  clear hi
  go_enter Try.func59, Try.ntmps59
  go_wp2
  go_loop [3] (fun s => ∃ k : Nat, k ≤ d.length ∧ s = .int .i64 k ∧ Hid (∀ j, k ≤ j → d.getD j 0 = 0)) (fun s => (intOf s).toNat)
  case atStart => exact ⟨d.length, Nat.le_refl _, rfl, fun j hj => by simp [List.getD, List.getElem?_eq_none hj]⟩
  case round =>
    obtain ⟨k, hk, rfl, hz⟩ := hrel
    have HN : Hid _ := trim_news (w.alloc (.cells #[] 3)) b o d k hk (fun k hk => (World.cell?_alloc_past _ _ _ hb).trans (HC.out k hk))
    by_cases h0 : k = 0
    · subst h0
      go_wp2_with (first | (at_builtin; refine wpList_append_own _ rfl _ _ 93 rfl w.heap.size 3 i0 (.int .i64 0) 1 8 Try.underlying93 HI.out hz0 hz1 hz2 rfl (by decide) _ _ _ rfl (World.ownsRow_made w #[] 0 (Nat.le_refl _) (by decide) rfl) ⟨b, o, none⟩ 0 cap [] rfl rfl ?c1 ?c2 ?c3 ?c4 ?c5 ?_))
      all_goals first
        | (intro v' w1 hown hg hnn
           clear hnn
           go_wp2
           go_ret
           exact ⟨v', 0, rfl, IsN.of_owns (by simpa using hown), ⟨hk, hz.out⟩, Below.grown (by go_grown) hg (by simp) (by simp [Value.ownBlock])⟩)
        | (intro j u hj; simp at hj; done)
        | (intro u hu; simp at hu; done)
        | decide
        | (simp; done)
    · obtain ⟨m, rfl⟩ : ∃ m, k = m + 1 := ⟨k - 1, by omega⟩
      have hcm := HC.out m (by omega)
      by_cases hx : d.getD m 0 = 0
      · have hxx : (d[m]?.getD 0 == 0) = true := by simpa [List.getD] using hx
        have hzm : Hid (∀ j, m ≤ j → d.getD j 0 = 0) := fun j hj => by
          rcases Nat.lt_or_ge m j with g | g
          · exact hz.out j (by omega)
          · have e : j = m := by omega
            rw [e]; exact hx
        go_wp2
        exact ⟨⟨m, by omega, by go_num, hzm⟩, by simp [intOf]⟩
      · have hxx : (d[m]?.getD 0 == 0) = false := by simpa [List.getD] using hx
        have hle : (m : Int) + 1 ≤ cap := by omega
        go_wp2_with (first | (at_builtin; go_must (refine wpList_append_own _ rfl _ _ 93 rfl w.heap.size 3 i0 (.int .i64 0) 1 8 Try.underlying93 HI.out hz0 hz1 hz2 rfl (by decide) _ _ _ rfl (World.ownsRow_made w #[] 0 (Nat.le_refl _) (by decide) rfl) ⟨b, o, none⟩ (m + 1) cap ((d.take (m + 1)).map (Value.int .i64)) rfl ?e0 HN.out ?e2 ?e3 ?e4 ?e5 ?_)))
        all_goals first
          | (intro v' w1 hown hg hnn
             clear hnn
             go_wp2
             go_ret
             exact ⟨v', m + 1, rfl, IsN.of_owns (by simpa using hown), ⟨hk, hz.out⟩, Below.grown (by go_grown) hg (by simp) (by simp [Value.ownBlock])⟩)
          | exact oneCell_take d _
          | (unfold maxLen; omega)
          | omega
          | (simp; done)
          | (simp; omega)
/-- conclaveref01.Trim -/
theorem trim_any (w : World) (v : Value) (d : List Int) (h : IsN w v d) (h0 : 0 < d.length) (hd : d.length < 4096) (hB : Byt d) :
    Calls Try.prog 59 #[v] w fun e w' => ∃ (v' : Value) (d' : List Int), e = .returned v' ∧ IsN w' v' d' ∧ Byt d' ∧ d'.length ≤ d.length ∧ Hid (valB d' = valB d) ∧ Below w.heap.size w w' := by
  obtain ⟨a, cap, rfl, hcap, h⟩ := h
  obtain ⟨b, o, rfl, hb, hc⟩ := h h0
  refine (trim_some w b o cap d hd hcap hb hc).mono ?_
  rintro e w' ⟨v, k, rfl, hN, hk, hw⟩
  exact ⟨v, _, rfl, hN, hB.take k, by simp; omega, valB_take d k hk.out.2, hw⟩
/-- A slice that lay there lies there behind a call. -/
theorem IsN.below {w w' : World} {v : Value} {d : List Int} (h : IsN w v d) (hb : Below w.heap.size w w') : IsN w' v d := by
  obtain ⟨a, cap, rfl, hcap, h⟩ := h
  refine ⟨a, cap, rfl, hcap, fun h0 => ?_⟩
  obtain ⟨b, o, rfl, hlt, hc⟩ := h h0
  exact ⟨b, o, rfl, Nat.lt_of_lt_of_le hlt hb.size, fun k hk => (hb.cell (p := ⟨b, o + k, none⟩) hlt).trans (hc k hk)⟩
theorem valB_append : ∀ (d : List Int) (x : Int), valB (d ++ [x]) = valB d + 256 ^ d.length * x
  | [], x => by simp [valB]
  | y :: r, x => by
    rw [List.cons_append, valB, valB, valB_append r x, List.length_cons, Int.pow_succ, Int.mul_add, Int.mul_comm (256 ^ r.length) 256, Int.mul_assoc]
    omega
theorem valB_bd : ∀ (d : List Int), Byt d → 0 ≤ valB d ∧ valB d < 256 ^ d.length
  | [], _ => ⟨Int.le_refl _, by decide⟩
  | x :: r, h => by
    have h0 := h 0
    rw [getD_cons_zero'] at h0
    obtain ⟨a, b⟩ := valB_bd r (fun k => by have := h (k + 1); rwa [getD_cons_succ'] at this)
    rw [valB, List.length_cons, Int.pow_succ]
    exact ⟨by omega, by omega⟩
theorem Byt.append {d : List Int} {x : Int} (h : Byt d) (h0 : 0 ≤ x) (h1 : x < 256) : Byt (d ++ [x]) := fun k => by
  rcases Nat.lt_or_ge k d.length with g | g
  · have e : (d ++ [x]).getD k 0 = d.getD k 0 := by simp [List.getD, List.getElem?_append_left g]
    rw [e]; exact h k
  · rcases Nat.lt_or_ge d.length k with g' | g'
    · have e : (d ++ [x]).getD k 0 = 0 := by
        simp only [List.getD]
        rw [List.getElem?_eq_none (by simp; omega)]; rfl
      rw [e]; exact ⟨by decide, by decide⟩
    · have e : k = d.length := by omega
      subst e
      have e : (d ++ [x]).getD d.length 0 = x := by simp [List.getD]
      rw [e]; exact ⟨h0, h1⟩
end Go.Proofs.Ytmnlcpfehbpogaa.Wd
/- Walks over the document's own numbers: which is more, sums. -/
namespace Go.Proofs.Ytmnlcpfehbpogaa.Wd
open Go.RowKit
set_option linter.unusedSimpArgs false
set_option linter.unusedVariables false
theorem byt_nil : Byt [] := fun k => ⟨by simp, by simp⟩
theorem IsN.shape {w : World} {v : Value} {d : List Int} (h : IsN w v d) : ∃ a cap, v = .slice a d.length cap ∧ d.length ≤ cap := by
  obtain ⟨a, cap, rfl, hc, _⟩ := h
  exact ⟨a, cap, rfl, hc⟩
end Go.Proofs.Ytmnlcpfehbpogaa.Wd
/- Walks over the document's own numbers: sums. -/
namespace Go.Proofs.Ytmnlcpfehbpogaa.Wd
open Go.RowKit
set_option linter.unusedSimpArgs false
set_option linter.unusedVariables false
theorem valB_take_succ : ∀ (d : List Int) (k : Nat), valB (d.take (k + 1)) = valB (d.take k) + 256 ^ k * d.getD k 0
  | [], k => by simp [valB]
  | x :: r, 0 => by simp [valB]
  | x :: r, k + 1 => by
    rw [List.take_succ_cons, List.take_succ_cons, valB, valB, valB_take_succ r k, getD_cons_succ', Int.pow_succ, Int.mul_add, Int.mul_comm (256 ^ k) 256, Int.mul_assoc]
    omega
theorem valB_take_all (d : List Int) (k : Nat) (h : d.length ≤ k) : valB (d.take k) = valB d := by rw [List.take_of_length_le h]
theorem one_cell {w : World} {x : Value} {q : Nat} {u : Value} (h : [x][q]? = some u) : (w.alloc (.cells #[x] 3)).cell? ((⟨w.heap.size, 0, none⟩ : Addr).add q) = some u := by
  match q, h with
  | 0, h => simp at h; subst h; simp [Addr.add]
theorem of_grown {B : Nat} {w0 wr w1 : World} {o : Obj} {row : Option Nat} (h : Below B w0 wr) (hg : (wr.alloc o).grownBy w1 row) (hr : ∀ k, row = some k → B ≤ k) (hB : B ≤ wr.heap.size) : Below B w0 w1 :=
  Below.grown (h.alloc hB _) hg (by simp; omega) hr
theorem Int.pow_le_pow_of_le_right' {m n : Nat} (h : m ≤ n) : (256 : Int) ^ m ≤ 256 ^ n := by
  have := Nat.pow_le_pow_right (n := 256) (by decide) h
  have e : ∀ k : Nat, (256 : Int) ^ k = ((256 ^ k : Nat) : Int) := fun k => by simp
  rw [e, e]; omega
end Go.Proofs.Ytmnlcpfehbpogaa.Wd
/- Walks over the document's own numbers: powers of two, and a number as a word. -/
namespace Go.Proofs.Ytmnlcpfehbpogaa.Wd
open Go.RowKit
set_option linter.unusedSimpArgs false
set_option linter.unusedVariables false
theorem pow8_bd (r : Nat) (h : r < 8) : (1 : Int) ≤ 2 ^ (8 * r) ∧ (2 : Int) ^ (8 * r) ≤ 72057594037927936 := by
  rcases (by omega : r = 0 ∨ r = 1 ∨ r = 2 ∨ r = 3 ∨ r = 4 ∨ r = 5 ∨ r = 6 ∨ r = 7) with rfl | rfl | rfl | rfl | rfl | rfl | rfl | rfl <;> decide
/-- A byte that is laid above what is there. -/
theorem or_add (x y : Int) (r : Nat) (hr : r < 8) (hx0 : 0 ≤ x) (hx : x < 2 ^ (8 * r)) (hy0 : 0 ≤ y) (hy : y < 256) :
    bits .or .u64 x (IntKind.u64.wrap (y * 2 ^ (8 * r))) = x + y * 2 ^ (8 * r) ∧ Limb (x + y * 2 ^ (8 * r)) := by
  have hP := pow8_bd r hr
  obtain ⟨x, rfl⟩ := Int.eq_ofNat_of_zero_le hx0
  obtain ⟨y, rfl⟩ := Int.eq_ofNat_of_zero_le hy0
  have hk : (2 : Int) ^ (8 * r) = ((2 ^ (8 * r) : Nat) : Int) := by simp
  rw [hk] at hP hx ⊢
  have hlt : x < 2 ^ (8 * r) := Int.ofNat_lt.1 hx
  have hsh : y * 2 ^ (8 * r) ||| x = y * 2 ^ (8 * r) + x := by rw [← Nat.shiftLeft_eq, ← Nat.shiftLeft_add_eq_or_of_lt hlt]
  generalize (2 ^ (8 * r) : Nat) = P at *
  have h1 : y * P ≤ 255 * 72057594037927936 := Nat.mul_le_mul (by omega) (by omega)
  have h2 : (y : Int) * (P : Int) = ((y * P : Nat) : Int) := by simp
  rw [h2]
  generalize y * P = z at *
  have h3 : IntKind.u64.wrap (z : Int) = z := by
    rw [IntKind.wrap_u64]; exact Int.emod_eq_of_lt (by omega) (by omega)
  refine ⟨?_, by omega, by omega⟩
  rw [h3, bits_or_u64_nat _ _ (by omega) (by omega), Nat.or_comm, hsh]
  simp; omega
theorem cells_le {w : World} {a : Option Addr} {d : List Int} (h : 0 < d.length → ∃ b o, a = some ⟨b, o, none⟩ ∧ b < w.heap.size ∧ ∀ k, k < d.length → w.cell? ⟨b, o + k, none⟩ = some (.int .i64 (d.getD k 0))) (k : Nat) (hk : k < d.length) :
    ∃ b o, a = some ⟨b, o, none⟩ ∧ b < w.heap.size ∧ w.cell? ⟨b, o + k, none⟩ = some (.int .i64 (d.getD k 0)) := by
  obtain ⟨b, o, e, hb, hc⟩ := h (by omega)
  exact ⟨b, o, e, hb, hc k hk⟩
theorem valB_split : ∀ (d : List Int) (k : Nat), valB d = valB (d.take k) + 256 ^ k * valB (d.drop k)
  | d, 0 => by simp [valB]
  | [], k + 1 => by simp [valB]
  | x :: r, k + 1 => by
    rw [List.take_succ_cons, List.drop_succ_cons, valB, valB, valB_split r k, Int.pow_succ, Int.mul_add, Int.mul_comm (256 ^ k) 256, Int.mul_assoc]
    have := valB_split r k
    omega
theorem valB_mod (d : List Int) (h : Byt d) (k : Nat) : valB (d.take k) = valB d % 256 ^ k := by
  have h1 := valB_bd (d.take k) (h.take k)
  have h2 : (256 : Int) ^ (d.take k).length ≤ 256 ^ k := Int.pow_le_pow_of_le_right' (by simp; omega)
  rw [valB_split d k, Int.add_mul_emod_self_left, Int.emod_eq_of_lt h1.1 (by omega)]
theorem word_end (d : List Int) (k : Nat) (h : Byt d) (hk : k ≤ 32) (hkd : k ≤ d.length) (he : ¬(k < 32 ∧ k < d.length)) : valB (d.take k) = valB d % T256 := by
  have e : (256 : Int) ^ 32 = T256 := by decide
  rcases Nat.lt_or_ge k 32 with h32 | h32
  · rw [valB_take_all d k (by omega), ← e, ← valB_mod d h 32, valB_take_all d 32 (by omega)]
  · rw [show k = 32 from by omega, valB_mod d h 32, e]
theorem below_drew {w w' : World} (h : Below w.heap.size w w') (n : Nat) : Below w.heap.size w (w'.drewN n) := h.trans ⟨rfl, rfl, rfl, Nat.le_refl _, fun _ _ => rfl⟩
theorem set_drew (w : World) (n : Nat) (a : Addr) (v : Value) : (w.drewN n).setCell a v = (w.setCell a v).drewN n := by
  cases w; rfl
theorem set_new2 (w : World) (o : Obj) (c : Array Value) (t : TypeId) (i n : Nat) (v : Value) : (((w.alloc o).alloc (.cells c t)).drewN n).setCell ⟨w.heap.size + 1, i, none⟩ v = ((w.alloc o).alloc (.cells (c.setIfInBounds i v) t)).drewN n := by
  rw [set_drew, World.setCell_alloc_at _ _ _ _ _ (by simp)]
set_option maxHeartbeats 4000000 in
theorem wordref_any (w : World) (v : Value) (d : List Int) (h : IsN w v d) (l : d.length < 1000) (B : Byt d) :
    Calls Try.prog 58 #[v] w fun e w' => ∃ r0 r1 r2 r3, e = .returned (W4 r0 r1 r2 r3) ∧ L4 r0 r1 r2 r3 ∧ Hid (num r0 r1 r2 r3 = valB d % T256) ∧ Below w.heap.size w w' := by
  obtain ⟨aa, ca, rfl, hca, h⟩ := h
  have HC : Hid _ := cells_le h
  have HB : Hid (Byt d) := B
  clear h B
  unfold W4
  go_enter Try.func58, Try.ntmps58
  go_wp2
  go_loopw [4] (fun i wr => ∃ (k : Nat) (x0 x1 x2 x3 : Int) (n : Nat), k ≤ 32 ∧ k ≤ d.length ∧ i = .int .i64 k ∧ Hid (L4 x0 x1 x2 x3) ∧ Hid (num x0 x1 x2 x3 = valB (d.take k)) ∧ wr = ((w.alloc (.cells #[.int .u64 0, .int .u64 0, .int .u64 0, .int .u64 0] 50)).alloc (.cells #[.int .u64 x0, .int .u64 x1, .int .u64 x2, .int .u64 x3] 50)).drewN n) (fun i _ => 32 - (intOf i).toNat)
  case atStart => exact ⟨0, 0, 0, 0, 0, 0, by omega, by omega, rfl, ⟨⟨by decide, by decide⟩, ⟨by decide, by decide⟩, ⟨by decide, by decide⟩, ⟨by decide, by decide⟩⟩, rfl, rfl⟩
  case round =>
    obtain ⟨k, x0, x1, x2, x3, n, hk, hkl, rfl, hL, hN, rfl⟩ := hrel
    by_cases hgo : k < 32 ∧ k < d.length
    · obtain ⟨h32, hkd⟩ := hgo
      obtain ⟨b, o, rfl, hb, hcell⟩ := HC.out k hkd
      have hy := HB.out k
      obtain ⟨y, hyd⟩ : ∃ y, y = d.getD k 0 := ⟨_, rfl⟩
      rw [← hyd] at hy hcell
      have hlow : num x0 x1 x2 x3 < 256 ^ k := by
        rw [hN.out]
        have h1 := (valB_bd (d.take k) (HB.out.take k)).2
        rw [List.length_take, Nat.min_eq_left hkl] at h1
        exact h1
      rcases (by omega : k < 8 ∨ (8 ≤ k ∧ k < 16) ∨ (16 ≤ k ∧ k < 24) ∨ (24 ≤ k ∧ k < 32)) with h8 | ⟨h8, h8'⟩ | ⟨h8, h8'⟩ | ⟨h8, h8'⟩
      · obtain ⟨r, hr, rfl⟩ : ∃ r, r < 8 ∧ k = 0 + r := ⟨k - 0, by omega, by omega⟩
        have e1 : ((0 + r : Nat) : Int) / 8 = 0 := by omega
        have e2 : ((0 + r : Nat) : Int) % 8 = r := by omega
        have hP := pow8_bd r hr
        have hp : (256 : Int) ^ (0 + r) = 1 * 2 ^ (8 * r) := by rw [Int.pow_add, Int.pow_mul]; rfl
        have hx : 0 ≤ x0 ∧ x0 < 2 ^ (8 * r) := by
          have h1 := hlow
          rw [hp] at h1
          obtain ⟨⟨_, _⟩, ⟨_, _⟩, ⟨_, _⟩, ⟨_, _⟩⟩ := hL.out
          unfold num at h1
          omega
        obtain ⟨hor, hl4⟩ := or_add x0 y r hr hx.1 hx.2 hy.1 hy.2
        have hL2 : Hid (L4 (x0 + y * 2 ^ (8 * r)) x1 x2 x3) := ⟨hl4, hL.out.2.1, hL.out.2.2.1, hL.out.2.2.2⟩
        have hN2 : Hid (num (x0 + y * 2 ^ (8 * r)) x1 x2 x3 = valB (d.take (0 + r + 1))) := by
          show _ = _
          have := hN.out
          rw [valB_take_succ, ← hN.out, ← hyd, hp, Int.mul_assoc, Int.mul_comm (2 ^ (8 * r)) y]
          unfold num; omega
        clear hp hx hlow hl4 hN hP
        generalize hK : ((0 + r : Nat) : Int) = K at *
        have hc : ((w.alloc (.cells #[.int .u64 0, .int .u64 0, .int .u64 0, .int .u64 0] 50)).alloc (.cells #[.int .u64 x0, .int .u64 x1, .int .u64 x2, .int .u64 x3] 50)).cell? ⟨b, o + K.toNat, none⟩ = some (.int .i64 y) := by
          rw [show K.toNat = 0 + r from by omega, World.cell?_alloc_past _ _ _ (by simp; omega), World.cell?_alloc_past _ _ _ hb, hcell]
        have hwy : IntKind.u64.wrap y = y := by rw [IntKind.wrap_u64]; exact Int.emod_eq_of_lt hy.1 (by omega)
        clear hcell hyd HC
        go_wp2
        go_region
        go_wp2
        exact ⟨⟨0 + r + 1, (x0 + y * 2 ^ (8 * r)), x1, x2, x3, _, by omega, by omega, by go_num, hL2, hN2, set_new2 _ _ _ _ _ _ _⟩, by simp [intOf]; omega⟩
      · obtain ⟨r, hr, rfl⟩ : ∃ r, r < 8 ∧ k = 8 + r := ⟨k - 8, by omega, by omega⟩
        have e1 : ((8 + r : Nat) : Int) / 8 = 1 := by omega
        have e2 : ((8 + r : Nat) : Int) % 8 = r := by omega
        have hP := pow8_bd r hr
        have hp : (256 : Int) ^ (8 + r) = 18446744073709551616 * 2 ^ (8 * r) := by rw [Int.pow_add, Int.pow_mul]; rfl
        have hx : 0 ≤ x1 ∧ x1 < 2 ^ (8 * r) := by
          have h1 := hlow
          rw [hp] at h1
          obtain ⟨⟨_, _⟩, ⟨_, _⟩, ⟨_, _⟩, ⟨_, _⟩⟩ := hL.out
          unfold num at h1
          omega
        obtain ⟨hor, hl4⟩ := or_add x1 y r hr hx.1 hx.2 hy.1 hy.2
        have hL2 : Hid (L4 x0 (x1 + y * 2 ^ (8 * r)) x2 x3) := ⟨hL.out.1, hl4, hL.out.2.2.1, hL.out.2.2.2⟩
        have hN2 : Hid (num x0 (x1 + y * 2 ^ (8 * r)) x2 x3 = valB (d.take (8 + r + 1))) := by
          show _ = _
          have := hN.out
          rw [valB_take_succ, ← hN.out, ← hyd, hp, Int.mul_assoc, Int.mul_comm (2 ^ (8 * r)) y]
          unfold num; omega
        clear hp hx hlow hl4 hN hP
        generalize hK : ((8 + r : Nat) : Int) = K at *
        have hc : ((w.alloc (.cells #[.int .u64 0, .int .u64 0, .int .u64 0, .int .u64 0] 50)).alloc (.cells #[.int .u64 x0, .int .u64 x1, .int .u64 x2, .int .u64 x3] 50)).cell? ⟨b, o + K.toNat, none⟩ = some (.int .i64 y) := by
          rw [show K.toNat = 8 + r from by omega, World.cell?_alloc_past _ _ _ (by simp; omega), World.cell?_alloc_past _ _ _ hb, hcell]
        have hwy : IntKind.u64.wrap y = y := by rw [IntKind.wrap_u64]; exact Int.emod_eq_of_lt hy.1 (by omega)
        clear hcell hyd HC
        go_wp2
        go_region
        go_wp2
        exact ⟨⟨8 + r + 1, x0, (x1 + y * 2 ^ (8 * r)), x2, x3, _, by omega, by omega, by go_num, hL2, hN2, set_new2 _ _ _ _ _ _ _⟩, by simp [intOf]; omega⟩
      · obtain ⟨r, hr, rfl⟩ : ∃ r, r < 8 ∧ k = 16 + r := ⟨k - 16, by omega, by omega⟩
        have e1 : ((16 + r : Nat) : Int) / 8 = 2 := by omega
        have e2 : ((16 + r : Nat) : Int) % 8 = r := by omega
        have hP := pow8_bd r hr
        have hp : (256 : Int) ^ (16 + r) = 340282366920938463463374607431768211456 * 2 ^ (8 * r) := by rw [Int.pow_add, Int.pow_mul]; rfl
        have hx : 0 ≤ x2 ∧ x2 < 2 ^ (8 * r) := by
          have h1 := hlow
          rw [hp] at h1
          obtain ⟨⟨_, _⟩, ⟨_, _⟩, ⟨_, _⟩, ⟨_, _⟩⟩ := hL.out
          unfold num at h1
          omega
        obtain ⟨hor, hl4⟩ := or_add x2 y r hr hx.1 hx.2 hy.1 hy.2
        have hL2 : Hid (L4 x0 x1 (x2 + y * 2 ^ (8 * r)) x3) := ⟨hL.out.1, hL.out.2.1, hl4, hL.out.2.2.2⟩
        have hN2 : Hid (num x0 x1 (x2 + y * 2 ^ (8 * r)) x3 = valB (d.take (16 + r + 1))) := by
          show _ = _
          have := hN.out
          rw [valB_take_succ, ← hN.out, ← hyd, hp, Int.mul_assoc, Int.mul_comm (2 ^ (8 * r)) y]
          unfold num; omega
        clear hp hx hlow hl4 hN hP
        generalize hK : ((16 + r : Nat) : Int) = K at *
        have hc : ((w.alloc (.cells #[.int .u64 0, .int .u64 0, .int .u64 0, .int .u64 0] 50)).alloc (.cells #[.int .u64 x0, .int .u64 x1, .int .u64 x2, .int .u64 x3] 50)).cell? ⟨b, o + K.toNat, none⟩ = some (.int .i64 y) := by
          rw [show K.toNat = 16 + r from by omega, World.cell?_alloc_past _ _ _ (by simp; omega), World.cell?_alloc_past _ _ _ hb, hcell]
        have hwy : IntKind.u64.wrap y = y := by rw [IntKind.wrap_u64]; exact Int.emod_eq_of_lt hy.1 (by omega)
        clear hcell hyd HC
        go_wp2
        go_region
        go_wp2
        exact ⟨⟨16 + r + 1, x0, x1, (x2 + y * 2 ^ (8 * r)), x3, _, by omega, by omega, by go_num, hL2, hN2, set_new2 _ _ _ _ _ _ _⟩, by simp [intOf]; omega⟩
      · obtain ⟨r, hr, rfl⟩ : ∃ r, r < 8 ∧ k = 24 + r := ⟨k - 24, by omega, by omega⟩
        have e1 : ((24 + r : Nat) : Int) / 8 = 3 := by omega
        have e2 : ((24 + r : Nat) : Int) % 8 = r := by omega
        have hP := pow8_bd r hr
        have hp : (256 : Int) ^ (24 + r) = 6277101735386680763835789423207666416102355444464034512896 * 2 ^ (8 * r) := by rw [Int.pow_add, Int.pow_mul]; rfl
        have hx : 0 ≤ x3 ∧ x3 < 2 ^ (8 * r) := by
          have h1 := hlow
          rw [hp] at h1
          obtain ⟨⟨_, _⟩, ⟨_, _⟩, ⟨_, _⟩, ⟨_, _⟩⟩ := hL.out
          unfold num at h1
          omega
        obtain ⟨hor, hl4⟩ := or_add x3 y r hr hx.1 hx.2 hy.1 hy.2
        have hL2 : Hid (L4 x0 x1 x2 (x3 + y * 2 ^ (8 * r))) := ⟨hL.out.1, hL.out.2.1, hL.out.2.2.1, hl4⟩
        have hN2 : Hid (num x0 x1 x2 (x3 + y * 2 ^ (8 * r)) = valB (d.take (24 + r + 1))) := by
          show _ = _
          have := hN.out
          rw [valB_take_succ, ← hN.out, ← hyd, hp, Int.mul_assoc, Int.mul_comm (2 ^ (8 * r)) y]
          unfold num; omega
        clear hp hx hlow hl4 hN hP
        generalize hK : ((24 + r : Nat) : Int) = K at *
        have hc : ((w.alloc (.cells #[.int .u64 0, .int .u64 0, .int .u64 0, .int .u64 0] 50)).alloc (.cells #[.int .u64 x0, .int .u64 x1, .int .u64 x2, .int .u64 x3] 50)).cell? ⟨b, o + K.toNat, none⟩ = some (.int .i64 y) := by
          rw [show K.toNat = 24 + r from by omega, World.cell?_alloc_past _ _ _ (by simp; omega), World.cell?_alloc_past _ _ _ hb, hcell]
        have hwy : IntKind.u64.wrap y = y := by rw [IntKind.wrap_u64]; exact Int.emod_eq_of_lt hy.1 (by omega)
        clear hcell hyd HC
        go_wp2
        go_region
        go_wp2
        exact ⟨⟨24 + r + 1, x0, x1, x2, (x3 + y * 2 ^ (8 * r)), _, by omega, by omega, by go_num, hL2, hN2, set_new2 _ _ _ _ _ _ _⟩, by simp [intOf]; omega⟩
    · have HE : Hid (num x0 x1 x2 x3 = valB d % T256) := hN.out.trans (word_end d k HB.out hk hkl (by omega))
      have HL : Hid (L4 x0 x1 x2 x3) := hL
      clear hN hL
      have hBW : Below w.heap.size w (((w.alloc (.cells #[.int .u64 0, .int .u64 0, .int .u64 0, .int .u64 0] 50)).alloc (.cells #[.int .u64 x0, .int .u64 x1, .int .u64 x2, .int .u64 x3] 50)).drewN n) := below_drew (by go_grown) n
      rcases Nat.lt_or_ge k 32 with h32 | h32
      · have hkd : k = d.length := by omega
        subst hkd
        go_wp2
        go_returns
        exact ⟨x0, x1, x2, x3, rfl, HL.out, HE, by go_grown⟩
      · have h32' : k = 32 := by omega
        subst h32'
        go_wp2
        go_returns
        exact ⟨x0, x1, x2, x3, rfl, HL.out, HE, by go_grown⟩
end Go.Proofs.Ytmnlcpfehbpogaa.Wd
/- Walks over the document's own numbers: products. -/
namespace Go.Proofs.Ytmnlcpfehbpogaa.Wd
open Go.RowKit
set_option linter.unusedSimpArgs false
set_option linter.unusedVariables false
theorem getD_set (d : List Int) (j : Nat) (x : Int) (i : Nat) (hj : j < d.length) : (d.set j x).getD i 0 = if i = j then x else d.getD i 0 := by
  simp only [List.getD]
  rw [List.getElem?_set]
  by_cases h : j = i
  · subst h; simp [hj]
  · rw [if_neg h, if_neg (fun e => h e.symm)]
theorem Byt.set {d : List Int} (h : Byt d) {j : Nat} {x : Int} (hj : j < d.length) (h0 : 0 ≤ x) (h1 : x < 256) : Byt (d.set j x) := fun k => by
  rw [getD_set d j x k hj]
  split
  · exact ⟨h0, h1⟩
  · exact h k
/-- A block that holds a list of digits. -/
def RowD (w : World) (b : Nat) (d : List Int) : Prop := w.rowIs b 3 d.length (fun j => .int .i64 (d.getD j 0))
theorem RowD.cell {w : World} {b : Nat} {d : List Int} (h : RowD w b d) {j : Nat} (hj : j < d.length) : w.cell? ⟨b, j, none⟩ = some (.int .i64 (d.getD j 0)) := World.rowIs.cell h hj
theorem RowD.set {w : World} {b : Nat} {d : List Int} (h : RowD w b d) {j : Nat} (hj : j < d.length) (x : Int) : RowD (w.setCell ⟨b, j, none⟩ (.int .i64 x)) b (d.set j x) := by
  have h1 := World.rowIs.set h j (.int .i64 x)
  unfold RowD
  rw [List.length_set]
  refine World.rowIs.congr h1 (fun i hi => ?_)
  rw [getD_set d j x i hj]
  by_cases e : i = j
  · rw [if_pos e, if_pos e]
  · rw [if_neg e, if_neg e]
end Go.Proofs.Ytmnlcpfehbpogaa.Wd
/- Walks over package word: the small functions. -/
namespace Go.Proofs.Ytmnlcpfehbpogaa.Wd
open Go.RowKit
set_option linter.unusedSimpArgs false

set_option maxHeartbeats 1000000 in
/-- word.Of -/
theorem of_any (n : Int) (w : World) :
    Calls Try.prog 42 #[.int .u64 n] w fun e w' => e = .returned (W4 n 0 0 0) ∧ Below w.heap.size w w' := by
  go_enter Try.func42, Try.ntmps42
  go_wp2
  go_returns
  exact ⟨rfl, by go_grown⟩
end Go.Proofs.Ytmnlcpfehbpogaa.Wd
/- Plain arithmetic of limbs that are shifted: no Go in sight. -/
namespace Go.Proofs.Ytmnlcpfehbpogaa.Wd
open Go.RowKit

theorem pow_pos' (n : Nat) : 0 < (2 : Int) ^ n := Int.pow_pos (by decide)
end Go.Proofs.Ytmnlcpfehbpogaa.Wd
/- Walks over package word: shifts towards the low end. -/
namespace Go.Proofs.Ytmnlcpfehbpogaa.Wd
open Go.RowKit
set_option linter.unusedSimpArgs false
set_option linter.unusedVariables false

theorem div_limb (x : Int) (n : Nat) (h : Limb x) : Limb (x / 2 ^ n) := by
  have hp := pow_pos' n
  refine ⟨Int.ediv_nonneg h.1 (Int.le_of_lt hp), ?_⟩
  have : x / 2 ^ n ≤ x := Int.ediv_le_self _ h.1
  have := h.2
  omega
end Go.Proofs.Ytmnlcpfehbpogaa.Wd
