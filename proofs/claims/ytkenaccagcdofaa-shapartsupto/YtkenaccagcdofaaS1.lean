/- The document's hash: the padded message; appends. -/
import Derived.Test.YtkenaccagcdofaaH9
import Derived.Laws.AppendOwnNone
import Derived.Lib.AppendZerosOnto
import Derived.OwnWalk
namespace Go.Proofs.Ytkenaccagcdofaa
open Go.RowKit Go.Shelf
set_option linter.unusedSimpArgs false
set_option linter.unusedVariables false

/-- n bytes as a list of cells. -/
def bl (m : Nat → BitVec 8) (n : Nat) : List Value := (List.range n).map (byt m)
theorem bl_length (m : Nat → BitVec 8) (n : Nat) : (bl m n).length = n := by simp [bl]
theorem bl_get (m : Nat → BitVec 8) (n i : Nat) (hi : i < n) : (bl m n)[i]? = some (byt m i) := by
  unfold bl; rw [List.getElem?_map, List.getElem?_range hi]; rfl
theorem bl_one (m : Nat → BitVec 8) (n : Nat) : ∀ u ∈ bl m n, u.oneCell' = true := fun u hu => by
  obtain ⟨j, _, rfl⟩ := List.mem_map.1 hu; rfl
theorem bl_succ (m : Nat → BitVec 8) (n : Nat) : bl m (n + 1) = bl m n ++ [byt m n] := by simp [bl, List.range_succ]
theorem bl_congr {m m' : Nat → BitVec 8} {n : Nat} (h : ∀ i, i < n → m i = m' i) : bl m n = bl m' n := by
  unfold bl; apply List.map_congr_left; intro i hi; simp only [byt]; rw [h i (by simpa using hi)]
/-- The whole padded message of T bytes. -/
def fm (msg : Nat → BitVec 8) (n T i : Nat) : BitVec 8 := if i < n then msg i else if i = n then 128#8 else if i < T - 8 then 0#8 else bof (BitVec.ofNat 64 n <<< 3) (i - (T - 8))
/-- How many blocks it has. -/
def nb (n : Nat) : Nat := (n + 144) / 128
theorem high_zero (n : Nat) (h : n < 2305843009213693952) : BitVec.ofNat 64 n >>> 61 = 0#64 := by
  apply BitVec.eq_of_toNat_eq
  rw [BitVec.toNat_ushiftRight, BitVec.toNat_ofNat, Nat.shiftRight_eq_div_pow]
  have e : (2 : Nat) ^ 61 = 2305843009213693952 := by decide
  have e2 : (2 : Nat) ^ 64 = 18446744073709551616 := by decide
  rw [e, e2, Nat.mod_eq_of_lt (by omega), Nat.div_eq_of_lt h]
  rfl
theorem bof_zero (i : Nat) : bof 0#64 i = 0#8 := by unfold bof; rw [BitVec.zero_ushiftRight]; rfl
theorem fm_hash (msg : Nat → BitVec 8) (n : Nat) (hn : n < 2305843009213693952) : outb (stAfter (fm msg n (128 * nb n)) (nb n)) = digest msg n := by
  obtain ⟨q, hq⟩ : ∃ q, q = n / 128 := ⟨_, rfl⟩
  have h1 : stAfter (fm msg n (128 * nb n)) q = stAfter msg q := stAfter_congr _ (fun i hi => by
    unfold fm; rw [if_pos (by omega)])
  by_cases hs : n % 128 < 112
  · have hnb : nb n = q + 1 := by unfold nb; omega
    rw [digest_small msg n hs, ← hq, hnb]
    rw [hnb] at h1
    show outb (beh KK (stAfter (fm msg n (128 * (q + 1))) q) (fun i => fm msg n (128 * (q + 1)) (128 * q + i))) = _
    rw [h1]
    rw [beh_congr (q := putTo (lastB msg n) (BitVec.ofNat 64 n) 8) (fun i hi => ?_)]
    unfold fm putTo lastB
    rw [← hq, high_zero n hn, bof_zero]
    by_cases e1 : i < n % 128
    · rw [if_pos (by omega), if_neg (by omega), if_neg (by omega), if_pos e1]
    · by_cases e2 : i = n % 128
      · rw [if_neg (by omega), if_pos (by omega), if_neg (by omega), if_neg (by omega), if_neg e1, if_pos e2]
      · rw [if_neg (by omega), if_neg (by omega)]
        by_cases e3 : i < 120
        · rw [if_pos (by omega)]
          by_cases e4 : 112 ≤ i
          · rw [if_pos (by omega)]
          · rw [if_neg (by omega), if_neg (by omega), if_neg e1, if_neg e2]
        · rw [if_neg (by omega), if_neg (by omega), if_pos (by omega), show 128 * q + i - (128 * (q + 1) - 8) = i - 120 from by omega]
  · have hnb : nb n = q + 1 + 1 := by unfold nb; omega
    rw [digest_big msg n hs, ← hq, hnb]
    rw [hnb] at h1
    show outb (beh KK (beh KK (stAfter (fm msg n (128 * (q + 1 + 1))) q) (fun i => fm msg n (128 * (q + 1 + 1)) (128 * q + i))) (fun i => fm msg n (128 * (q + 1 + 1)) (128 * (q + 1) + i))) = _
    rw [h1]
    rw [beh_congr (p := fun i => fm msg n (128 * (q + 1 + 1)) (128 * q + i)) (q := lastB msg n) (fun i hi => ?_), beh_congr (p := fun i => fm msg n (128 * (q + 1 + 1)) (128 * (q + 1) + i)) (q := putTo (fun _ => 0#8) (BitVec.ofNat 64 n) 8) (fun i hi => ?_)]
    · unfold fm putTo
      rw [high_zero n hn, bof_zero, if_neg (by omega), if_neg (by omega)]
      by_cases e3 : i < 120
      · rw [if_pos (by omega)]
        by_cases e4 : 112 ≤ i
        · rw [if_pos (by omega)]
        · rw [if_neg (by omega), if_neg (by omega)]
      · rw [if_neg (by omega), if_neg (by omega), if_pos (by omega), show 128 * (q + 1) + i - (128 * (q + 1 + 1) - 8) = i - 120 from by omega]
    · unfold fm lastB
      rw [← hq]
      by_cases e1 : i < n % 128
      · rw [if_pos (by omega), if_pos e1]
      · by_cases e2 : i = n % 128
        · rw [if_neg (by omega), if_pos (by omega), if_neg e1, if_pos e2]
        · rw [if_neg (by omega), if_neg (by omega), if_pos (by omega), if_neg e1, if_neg e2]
theorem info5b : (Try.prog.info? 5).map (fun i => (i.zero, i.size, i.bytes)) = some (some (.int .u8 0), 1, 1) := by kernel_rfl
theorem info5c : ∃ i, Try.prog.info? 5 = some i ∧ i.zero = some (.int .u8 0) ∧ i.size = 1 ∧ i.bytes = 1 := info_parts info5b
theorem grownBy_refl (w : World) (r : Option Nat) : w.grownBy w r := ⟨rfl, rfl, rfl, Nat.le_refl _, fun _ _ _ => rfl⟩
/-- append(v, m...) where v is the call's own. -/
theorem wpList_append_bytes {w : World} {ops : Array Oper} {rest : List Oper} {o : Oper} {a : Act} {Q : Exit → Act → World → Prop} (hgd : o.guard = none) (s x : Operand)
    (ho : o.op = .call { callee := .builtin .append, args := #[s, x], argTypes := #[22, 22] }) (base : Nat)
    (v : Value) (n : Nat) (xs : List Value) (hs : a.eval s = v) (hown : w.ownsRow base 5 1 v n xs)
    (ao : Option Addr) (len cap : Nat) (m : Nat → BitVec 8) (hx : a.eval x = .slice ao len cap) (hb : Bytes w ao len cap m) (hno : ao = none → len = 0 ∧ cap = 0)
    (hbytes : n + len ≤ 140737488355328) (hbase : base ≤ w.heap.size)
    (h : ∀ v' w', w'.ownsRow base 5 1 v' (n + len) (xs ++ bl m len) → w.grownBy w' v.ownBlock → wpList Try.prog ops Q rest (a.put o.dst v') w') : wpList Try.prog ops Q (o :: rest) a w := by
  obtain ⟨i0, hi, hz0, hz1, hz2⟩ := info5c
  obtain ⟨bb, off, h1, h2, h3, h4⟩ := hb
  cases ao with
  | none =>
    obtain ⟨rfl, rfl⟩ := hno rfl
    refine wpList_append_own_none hgd s x 22 ho base 5 i0 1 Try.underlying22 hi v n xs hs hown hx ?_
    exact h v w (by simpa [bl] using hown) (grownBy_refl _ _)
  | some ad =>
    refine wpList_append_own w hgd s x 22 ho base 5 i0 (.int .u8 0) 1 1 Try.underlying22 hi hz0 hz1 hz2 rfl (by decide) v n xs hs hown ad len cap (bl m len) hx (by rw [bl_length, Nat.mul_one]) ?_ (bl_one m len) (by unfold maxLen; omega) (by omega) hbase (fun v' w' a b _ => h v' w' a b)
    intro j u hu
    by_cases hj : j < len
    · rw [bl_get m len j hj] at hu
      cases hu
      have e := h1 (by omega)
      cases e
      rw [Addr.add_lit]
      exact h2 j hj
    · rw [List.getElem?_eq_none (by rw [bl_length]; omega)] at hu
      cases hu
theorem Bytes.one (w : World) (x : Int) (m : Nat → BitVec 8) (hm : x = I8 (m 0)) : Bytes (w.alloc (.cells #[.int .u8 x] 5)) (some ⟨w.heap.size, 0, none⟩) 1 1 m :=
  ⟨w.heap.size, 0, fun _ => rfl, fun j hj => by
    obtain rfl : j = 0 := by omega
    subst hm
    rw [cell_of_row _ w.heap.size 0 _ 5 (0, 0) (heap_alloc_new _ _)]
    rfl, by omega, by omega, by omega⟩
/-- A slice's length. -/
def lenB : Value → Nat
  | .slice _ n _ => n
  | _ => 0
theorem own_form {w : World} {base k : Nat} {v : Value} {m : Nat → BitVec 8} (h : w.ownsRow base 5 1 v k (bl m k)) (hk : 0 < k) : ∃ g cap, v = .slice (some ⟨g, 0, none⟩) k cap ∧ base ≤ g ∧ g < w.heap.size := by
  rcases h.2 with ⟨_, h0⟩ | ⟨g, cap, cur, hv, hb, r, _⟩
  · omega
  · exact ⟨g, cap, hv, hb, (Array.getElem?_eq_some_iff.1 r).1⟩
theorem zeros8 : Builtin.zeroCells (Value.int .u8 0).cells 8 = (bl (fun _ => 0#8) 8).toArray := by kernel_rfl
/-- append(v, make([]byte, 8)...) where v is the call's own. -/
theorem wpList_append_eight {w : World} {ops : Array Oper} {rest : List Oper} {o : Oper} {a : Act} {Q : Exit → Act → World → Prop} (hgd : o.guard = none) (s x : Operand)
    (ho : o.op = .call { callee := .builtin .append, args := #[s, x], argTypes := #[22, 3] }) (base g cap : Nat)
    (n : Nat) (xs : List Value) (hs : a.eval s = .slice (some ⟨g, 0, none⟩) n cap) (hown : w.ownsRow base 5 1 (.slice (some ⟨g, 0, none⟩) n cap) n xs)
    (hx : a.eval x = .int .i64 8) (hbytes : n + 8 ≤ 140737488355328) (hbase : base ≤ w.heap.size)
    (h : ∀ v' w', w'.ownsRow base 5 1 v' (n + 8) (xs ++ bl (fun _ => 0#8) 8) → w.grownBy w' (some g) → wpList Try.prog ops Q rest (a.put o.dst v') w') : wpList Try.prog ops Q (o :: rest) a w := by
  obtain ⟨i, hi, hz, hsz, hby⟩ := info5c
  have hlen : (xs ++ bl (fun _ => 0#8) 8).length = (n + 8) * 1 := by rw [List.length_append, hown.1, bl_length]; omega
  have hxl : xs.length = n := by have := hown.1; omega
  suffices hrun : ∃ v' w', (Builtin.append_ #[22, 3] o.type #[.slice (some ⟨g, 0, none⟩) n cap, .int .i64 8]).run Try.prog w = .ok v' w' ∧ w'.ownsRow base 5 1 v' (n + 8) (xs ++ bl (fun _ => 0#8) 8) ∧ w.grownBy w' (some g) by
    obtain ⟨v', w', hr, h1, h2⟩ := hrun
    exact wpList_plain hgd fun _ hK => Go.Lib.wp_append_run w s x 22 3 ho _ _ hs hx v' w' hr (hK _ _ (h v' w' h1 h2))
  rcases hown.2 with ⟨h1, _⟩ | ⟨g', cap', cur, hv, hbg, hg, hnc, hcm, hcs, htake⟩
  · cases h1
  · cases hv
    by_cases hroom : n + 8 ≤ cap
    · have hst := run_storeCells_at Try.prog g n 5 (bl (fun _ => 0#8) 8) 0 cur w hg (by rw [bl_length]; omega) (bl_one _ _)
      simp only [Nat.add_zero] at hst
      refine ⟨.slice (some ⟨g, 0, none⟩) (n + 8) cap, w.setRow g (cur.toList.take n ++ bl (fun _ => 0#8) 8 ++ cur.toList.drop (n + (bl (fun _ => 0#8) 8).length)).toArray, ?_, ⟨hlen, .inr ⟨g, cap, _, rfl, hbg, setRow_heap w g cur _ 5 _ hg, hroom, hcm, ?_, ?_⟩⟩, ⟨rfl, rfl, rfl, by simp, fun k _ hk => setRow_other w g k _ (fun e => hk (by simp [e]))⟩⟩
      · simp [Builtin.append_, run_underlying Try.underlying22, run_underlying Try.underlying3, sizeOf, typeInfo, zeroValue, hi, hz, hsz, hby, asInt, asIntOf, hroom, Addr.add_lit]
        simp [show IntKind.i64.wrap 8 = 8 from rfl, hroom, zeros8, hst]
      · simp only [List.size_toArray, List.length_append, List.length_take, List.length_drop, Array.length_toList, bl_length]
        omega
      · rw [Nat.mul_one] at htake
        rw [htake]
        simp only [Nat.mul_one]
        rw [List.append_assoc, ← List.append_assoc, List.take_left' (by rw [List.length_append, hxl, bl_length])]
    · have holds : ∀ j u, xs[j]? = some u → w.drew.cell? ((⟨g, 0, none⟩ : Addr).add j) = some u := hown.cells (g := g) rfl
      have hf := run_firstCells_some (P := Try.prog) w.drew 1 n ⟨g, 0, none⟩ n cap xs (by omega) holds
      have hr := Go.Lib.run_append_grow_zeros (P := Try.prog) w 22 3 o.type 5 i (.int .u8 0) .i64 .i64 Try.underlying22 Try.underlying3 hi hz (some ⟨g, 0, none⟩) n cap xs (by rw [hsz]; exact hf) 8 (by decide) (by omega) (by omega) (by omega) (by rw [hby]; decide) (growslice_fits (by omega) (by rw [hby]; omega))
      have hge := grownCap_ge w (n + 8) cap 5
      have hcm2 : grownCap w (n + 8) cap 5 ≤ maxLen := grownCap_le_maxLen w (n + 8) cap 5 (by unfold maxLen; omega)
      refine ⟨_, _, hr, ⟨hlen, .inr ⟨w.heap.size, _, _, rfl, hbase, heap_alloc_new w.drew _, hge, hcm2, ?_, ?_⟩⟩, ⟨rfl, rfl, rfl, by simp, fun k hk _ => heap_alloc_old w.drew _ hk⟩⟩
      · simp only [Array.size_append, List.size_toArray, size_zeroCells, hxl]
        simp [Value.cells]
        omega
      · rw [zeros8]
        simp only [Array.toList_append, List.append_assoc, Nat.mul_one]
        rw [← List.append_assoc, List.take_left' (by rw [List.length_append, hxl, bl_length])]
end Go.Proofs.Ytkenaccagcdofaa
