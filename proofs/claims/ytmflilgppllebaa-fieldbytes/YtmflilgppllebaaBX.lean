/- BR, BS, BT, laid into one text. -/
import Derived.Test.YtmflilgppllebaaFO
import Derived.Test.YtmflilgppllebaaFS
import Derived.Test.YtmflilgppllebaaFH
import Derived.Test.YtmflilgppllebaaOB
import Derived.Test.YtmflilgppllebaaF2
/- The document's bytes: number, Bytes of a word. -/
namespace Go.Proofs.Ytmflilgppllebaa
open Go.RowKit
set_option linter.unusedSimpArgs false
set_option linter.unusedVariables false
set_option maxHeartbeats 2000000 in
theorem trim_none (w : World) : Calls Try.prog 70 #[.slice none 0 0] w fun e w' => ∃ v, e = .returned v ∧ IsN w' v [] ∧ Below w.heap.size w w' := by
  go_enter Try.func70, Try.ntmps70
  go_wp2
  go_loop [3] (fun s => s = .int .i64 0) (fun s => (intOf s).toNat)
  case atStart => rfl
  case round =>
    obtain rfl := hrel
    go_wp2
    go_ret
    exact ⟨_, rfl, ⟨_, 0, rfl, Nat.le_refl _, fun h => absurd h (by simp)⟩, by go_grown⟩
theorem take_snoc (d : List Int) (k : Nat) (hk : k < d.length) : d.take (k + 1) = d.take k ++ [d.getD k 0] := by
  rw [List.take_add_one, List.getElem?_eq_getElem hk]
  simp [List.getD, List.getElem?_eq_getElem hk]
set_option maxHeartbeats 4000000 in
/-- conclaveref04.number -/
theorem rnumber_some (w : World) (v : Value) (d : List Int) (h : IsD w v d) (l : d.length ≤ 64) (B : Byt d) (h0 : 0 < d.length) :
    Calls Try.prog 64 #[v] w fun e w' => ∃ (u : Value) (d' : List Int), e = .returned u ∧ IsN w' u d' ∧ Byt d' ∧ d'.length ≤ d.length ∧ Hid (valB d' = valB d) ∧ Below w.heap.size w w' := by
  have HB : Hid (Byt d) := B
  obtain ⟨aa, ca, rfl, hca, h⟩ := h
  have HC : Hid _ := h
  clear h B
  obtain ⟨i0, hi, hz0, hz1, hz2⟩ := info_parts Try.info3
  have HI : Hid _ := hi
  clear hi
  go_enter Try.func64, Try.ntmps64
  go_wp2
  go_loopw [3, 4] (fun s i wr => ∃ (k : Nat), k ≤ d.length ∧ i = .int .i64 k ∧ wr.ownsRow w.heap.size 3 1 s k ((d.take k).map (Value.int .i64)) ∧ Below w.heap.size w wr) (fun _ i _ => 64 - (intOf i).toNat)
  case atStart => exact ⟨0, by omega, rfl, World.ownsRow_nil _ _ _ _, Below.refl _ _⟩
  case round =>
    obtain ⟨k, hk, rfl, hown, hbw⟩ := hrel
    have hsz : w.heap.size ≤ wr.heap.size := hbw.size
    have HO : Hid _ := hown
    clear hown
    by_cases hlt : k < d.length
    · obtain ⟨b, o, rfl, hb, hcell⟩ := HC.out k hlt
      have hc1 := (hbw.cell (p := ⟨b, o + k, none⟩) hb).trans hcell
      have hx := HB.out k
      have HT : Hid (d.take (k + 1) = d.take k ++ [d.getD k 0]) := take_snoc d k hlt
      obtain ⟨x, hxd⟩ : ∃ x, x = d.getD k 0 := ⟨_, rfl⟩
      rw [← hxd] at hc1 hx HT
      clear hcell hxd
      obtain ⟨hx0, hx1⟩ := hx
      go_wp2_with (first | (at_builtin; go_must (refine wpList_append_own _ rfl _ _ 46 rfl w.heap.size 3 i0 (.int .i64 0) 1 8 Try.underlying46 HI.out hz0 hz1 hz2 rfl (by decide) _ _ _ rfl (World.ownsRow.alloc HO.out _) ⟨wr.heap.size, 0, none⟩ 1 1 [.int .i64 x] rfl rfl ?c10 ?c20 ?c30 ?c40 ?c50 ?_)))
      any_goals (first
        | (intro q u hq; exact one_cell hq)
        | (intro u hu; simp at hu; subst hu; rfl)
        | (unfold maxLen; omega)
        | omega
        | (simp; omega))
      intro v' w1 hown' hg hnn
      have HO2 : Hid _ := hown'
      have HG : Hid _ := hg
      clear hown' hg hnn
      go_wp2
      refine ⟨⟨k + 1, by omega, by go_num, ?_, ?_⟩, ?_⟩
      · rw [HT.out, List.map_append, List.map_take]; exact HO2.out
      · exact of_grown hbw HG.out (fun g hg => (World.ownsRow.lt HO.out g hg).1) hsz
      · simp [intOf]; omega
    · have hkl : k = d.length := by omega
      have HO3 : Hid (wr.ownsRow w.heap.size 3 1 u3 d.length (d.map (Value.int .i64))) := by
        have := HO.out
        rw [hkl, List.take_length] at this
        exact this
      have hd' : decide ((k : Int) < d.length) = false := by simp; omega
      clear HO
      go_wp2_with fail
      refine (trim_any _ _ d (IsN.of_owns HO3.out) h0 (by omega) HB.out).mono ?_
      rintro e w2 ⟨v, d', rfl, hN, hBd, hld, hV, hw2⟩
      have hB2 : Below w.heap.size w w2 := hbw.trans (hw2.mono hsz)
      go_wp2
      go_ret
      exact ⟨v, d', rfl, hN, hBd, hld, hV, hB2⟩
set_option maxHeartbeats 1000000 in
theorem rnumber_none (a : Option Addr) (c : Nat) (w : World) : Calls Try.prog 64 #[.slice a 0 c] w fun e w' => ∃ v, e = .returned v ∧ IsN w' v [] ∧ Below w.heap.size w w' := by
  go_enter Try.func64, Try.ntmps64
  go_wp2
  go_loop [3, 4] (fun s i => s = .slice none 0 0 ∧ i = .int .i64 0) (fun _ i => (intOf i).toNat)
  case atStart => exact ⟨rfl, rfl⟩
  case round =>
    obtain ⟨rfl, rfl⟩ := hrel
    go_wp2_with fail
    refine Calls.mono (trim_none _) ?_
    rintro e w1 ⟨v, rfl, hN, hb⟩
    go_wp2
    go_ret
    exact ⟨_, rfl, hN, hb⟩
/-- conclaveref04.number -/
theorem n_number {w : World} {v : Value} {d : List Int} (h : IsD w v d) (l : d.length ≤ 64) (B : Byt d) : Calls Try.prog 64 #[v] w fun e w' => ∃ u, e = .returned u ∧ Num w' u 64 (valB d) ∧ Below w.heap.size w w' := by
  by_cases h0 : 0 < d.length
  · refine (rnumber_some w v d h l B h0).mono ?_
    rintro e w' ⟨u, d', rfl, hN, hB, hl, hV, hb⟩
    exact ⟨u, rfl, ⟨d', hN, hB, by omega, hV.out⟩, hb⟩
  · obtain ⟨a, c, rfl, _, _⟩ := h
    have hd : d = [] := List.length_eq_zero_iff.1 (by omega)
    subst hd
    refine (rnumber_none a c w).mono ?_
    rintro e w' ⟨u, rfl, hN, hb⟩
    exact ⟨u, rfl, ⟨[], hN, byt_nil, by simp, rfl⟩, hb⟩
theorem n_cmp {w : World} {va vb : Value} {La Lb : Nat} {x y : Int} (ha : Num w va La x) (hb : Num w vb Lb y) (la : La < 4000) (lb : Lb < 4000) : Calls Try.prog 76 #[va, vb] w fun e w' => e = .returned (.int .i64 (cmpN x y)) ∧ w' = w := by
  obtain ⟨a, a1, a2, a3, rfl⟩ := ha
  obtain ⟨b, b1, b2, b3, rfl⟩ := hb
  exact cmpref_any w va vb a b a1 b1 (by omega) (by omega) a2 b2
/-- The byte number j of 32, the highest first, of a list of digits, the lowest first, that is laid up to k. -/
def laid (d : List Int) (k : Nat) (j : Nat) : Value := .int .u8 (if 31 - j < k then d.getD (31 - j) 0 else 0)
set_option maxHeartbeats 4000000 in
/-- conclaveref01.Bytes -/
theorem bytesref_any {va : Value} {X : Int} (ha : IsW va X) (w : World) :
    Calls Try.prog 79 #[va] w fun e w' => ∃ b, e = .returned (.slice (some ⟨b, 0, none⟩) 32 32) ∧ w.heap.size ≤ b ∧ w'.rowIs b 5 32 (fun j => .int .u8 (X / 256 ^ (31 - j) % 256)) ∧ Below w.heap.size w w' := by
  have HA : Hid (IsW va X) := ha
  obtain ⟨a0, a1, a2, a3, rfl, la, na⟩ := ha
  clear la na
  have hmk : ∀ w : World, (Instr.makeSlice 32 (.int .i64 32) (.int .i64 32)).run Try.prog w = .ok (.slice (some ⟨w.heap.size, 0, none⟩) 32 32) (w.alloc (.cells (madeCells #[.int .u8 0] 32) 5)) := run_make_row' (P := Try.prog) 32 5 (.int .u8 0) 1 Try.underlying32 finfo5 rfl .i64 .i64 32 (by omega) (by omega)
  unfold W4
  go_enter Try.func79, Try.ntmps79
  go_wp2_with fail
  have hB : Below w.heap.size w (w.alloc (.cells #[.int .u64 a0, .int .u64 a1, .int .u64 a2, .int .u64 a3] 24)) := by go_grown
  generalize (w.alloc (.cells #[.int .u64 a0, .int .u64 a1, .int .u64 a2, .int .u64 a3] 24)) = w0 at *
  refine (n_of HA.out _).mono ?_
  rintro e w1 ⟨v1, rfl, ⟨d, N1, B1, l1, V1⟩, hw1⟩
  have hB : Below w.heap.size w w1 := hB.trans (hw1.mono hB.size)
  have hs1 := hB.size
  have HV : Hid (valB d = X) := V1
  clear hw1 V1
  have hl : d.length ≤ 32 := l1
  have HBd : Hid (Byt d) := B1
  obtain ⟨aa, ca, rfl, hca, hN⟩ := N1
  have HC : Hid _ := cells_le hN
  clear hN B1 l1
  go_wp2
  have hrow : (w1.alloc (.cells (madeCells #[.int .u8 0] 32) 5)).rowIs w1.heap.size 5 32 (laid d 0) := World.rowIs.congr (World.rowIs_made w1 (.int .u8 0) 32 5) (fun i hi => by unfold laid; rw [if_neg (by omega)])
  have hB2 : Below w1.heap.size w1 (w1.alloc (.cells (madeCells #[.int .u8 0] 32) 5)) := by go_grown
  clear hmk
  generalize (w1.alloc (.cells (madeCells #[.int .u8 0] 32) 5)) = w2 at *
  go_loopw [5] (fun i wr => ∃ (k : Nat), k ≤ d.length ∧ i = .int .i64 k ∧ wr.rowIs w1.heap.size 5 32 (laid d k) ∧ Below w1.heap.size w1 wr) (fun i _ => 32 - (intOf i).toNat)
  case atStart => exact ⟨0, by omega, rfl, hrow, hB2⟩
  case round =>
    obtain ⟨k, hk, rfl, hrow, hbw⟩ := hrel
    by_cases hlt : k < d.length
    · obtain ⟨b, o, rfl, hb, hcell⟩ := HC.out k hlt
      have hx := HBd.out k
      have hc1 := (hbw.cell (p := ⟨b, o + k, none⟩) hb).trans hcell
      have hc2 := World.rowIs.cell hrow (i := 31 - k) (by omega)
      have hfz := World.rowIs.frozen hrow (31 - k)
      obtain ⟨old, hold⟩ : ∃ old, laid d k (31 - k) = .int .u8 old := ⟨_, rfl⟩
      rw [hold] at hc2
      have hrow2 : Hid ((wr.setCell ⟨w1.heap.size, 31 - k, none⟩ (.int .u8 (d.getD k 0))).rowIs w1.heap.size 5 32 (laid d (k + 1))) := World.rowIs.congr (World.rowIs.set hrow (31 - k) (.int .u8 (d.getD k 0))) (fun i hi => by
        by_cases e : i = 31 - k
        · rw [if_pos e]; unfold laid; rw [if_pos (by omega), show 31 - i = k from by omega]
        · rw [if_neg e]; unfold laid
          by_cases h : 31 - i < k
          · rw [if_pos h, if_pos (by omega)]
          · rw [if_neg h, if_neg (by omega)])
      generalize d.getD k 0 = x at *
      obtain ⟨hx0, hx1⟩ := hx
      have hwx : IntKind.u8.wrap x = x := by rw [IntKind.wrap_u8]; omega
      have e31 : (31 - (k : Int)).toNat = 31 - k := by omega
      clear hold hrow
      go_wp2
      exact ⟨⟨k + 1, by omega, by go_num, hrow2.out, by go_grown⟩, by simp [intOf]; omega⟩
    · have hkl : k = d.length := by omega
      have hrow3 : Hid (wr.rowIs w1.heap.size 5 32 (fun j => .int .u8 (X / 256 ^ (31 - j) % 256))) := World.rowIs.congr hrow (fun i hi => by
        unfold laid
        rw [← HV.out, valB_dig d _ HBd.out]
        by_cases h : 31 - i < k
        · rw [if_pos h]
        · rw [if_neg h]; simp [List.getD, List.getElem?_eq_none (show d.length ≤ 31 - i by omega)])
      subst hkl
      clear hrow
      go_wp2
      go_ret
      exact ⟨w1.heap.size, rfl, hs1, hrow3.out, hB.trans (hbw.mono hs1)⟩
end Go.Proofs.Ytmflilgppllebaa
/- The document's bytes: Little, Bytes, read. -/
namespace Go.Proofs.Ytmflilgppllebaa
open Go.RowKit
set_option linter.unusedSimpArgs false
set_option linter.unusedVariables false
theorem IsD.of_owns {w : World} {base : Nat} {v : Value} {d : List Int} (h : w.ownsRow base 5 1 v d.length (d.map (Value.int .u8))) : IsD w v d := by
  obtain ⟨hl, ⟨rfl, h0⟩ | ⟨g, cap, cur, rfl, hb, hg, hc1, hc2, hs, ht⟩⟩ := h
  · exact ⟨none, 0, by rw [h0], by omega, fun k hk => absurd hk (by omega)⟩
  · refine ⟨some ⟨g, 0, none⟩, cap, rfl, hc1, fun k hk => ⟨g, 0, rfl, (Array.getElem?_eq_some_iff.1 hg).1, ?_⟩⟩
    rw [Nat.zero_add, cell_of_row w g k cur 5 (0, 0) hg]
    have e := congrArg (fun l => l[k]?) ht
    simp only [Nat.mul_one] at e
    rw [List.getElem?_take_of_lt hk, List.getElem?_map, List.getElem?_eq_getElem hk] at e
    rw [← Array.getElem?_toList, e]
    simp [List.getD, List.getElem?_eq_getElem hk]
theorem one_cell8 {w : World} {x : Int} {j : Nat} {u : Value} (h : [Value.int .u8 x][j]? = some u) : (w.alloc (.cells #[.int .u8 x] 5)).cell? ((⟨w.heap.size, 0, none⟩ : Addr).add j) = some u := by
  cases j with
  | zero =>
    simp at h
    subst h
    rw [Addr.add_lit, Nat.add_zero, cell_of_row _ w.heap.size 0 _ 5 (0, 0) (heap_alloc_new _ _)]
    rfl
  | succ j => simp at h
set_option maxHeartbeats 4000000 in
/-- conclaveref04.Little -/
theorem little_any {va : Value} {X : Int} (ha : IsW va X) (w : World) :
    Calls Try.prog 65 #[va] w fun e w' => ∃ v, e = .returned v ∧ IsD w' v (dL X) ∧ Below w.heap.size w w' := by
  have HA : Hid (IsW va X) := ha
  obtain ⟨a0, a1, a2, a3, rfl, la, na⟩ := ha
  clear la na
  obtain ⟨i0, hi, hz0, hz1, hz2⟩ := info_parts finfo5
  have HI : Hid _ := hi
  clear hi
  unfold W4
  go_enter Try.func65, Try.ntmps65
  go_wp2_with fail
  have hB : Below w.heap.size w (w.alloc (.cells #[.int .u64 a0, .int .u64 a1, .int .u64 a2, .int .u64 a3] 24)) := by go_grown
  generalize (w.alloc (.cells #[.int .u64 a0, .int .u64 a1, .int .u64 a2, .int .u64 a3] 24)) = w0 at *
  refine (bytesref_any HA.out _).mono ?_
  rintro e w1 ⟨bb, rfl, hbb, hrow, hw1⟩
  have HR : Hid (w1.rowIs bb 5 32 (fun j => .int .u8 (X / 256 ^ (31 - j) % 256))) := hrow
  have hB1 : Below w.heap.size w w1 := hB.trans (hw1.mono hB.size)
  have hlt0 : bb < w1.heap.size := hrow.lt
  clear hrow hw1 hB hbb
  go_wp2
  go_loopw [4, 5] (fun s i wr => ∃ (k : Nat), k ≤ 32 ∧ i = .int .i64 (31 - (k : Int)) ∧ wr.ownsRow w1.heap.size 5 1 s k (((dL X).take k).map (Value.int .u8)) ∧ Below w1.heap.size w1 wr) (fun _ i _ => (intOf i + 1).toNat)
  case atStart => exact ⟨0, by omega, rfl, World.ownsRow_nil _ _ _ _, Below.refl _ _⟩
  case round =>
    obtain ⟨k, hk, rfl, hown, hbw⟩ := hrel
    have hsz : w1.heap.size ≤ wr.heap.size := hbw.size
    have HO : Hid _ := hown
    clear hown
    by_cases hlt : k < 32
    · obtain ⟨j, hj⟩ : ∃ j : Nat, j = 31 - k := ⟨_, rfl⟩
      have ej : (31 : Int) - k = (j : Int) := by omega
      have hc1 : wr.cell? ⟨bb, j, none⟩ = some (.int .u8 (X / 256 ^ k % 256)) := by
        rw [hbw.cell (p := ⟨bb, j, none⟩) hlt0, HR.out.cell (i := j) (by omega)]
        rw [show 31 - j = k by omega]
      have HT : Hid ((dL X).take (k + 1) = (dL X).take k ++ [X / 256 ^ k % 256]) := by
        show _ = _
        rw [take_snoc _ k (by rw [dL_len]; exact hlt), dL_get X k hlt]
      have hx : 0 ≤ X / 256 ^ k % 256 ∧ X / 256 ^ k % 256 < 256 := by omega
      generalize X / 256 ^ k % 256 = x at *
      obtain ⟨hx0, hx1⟩ := hx
      rw [ej]
      have HJ : Hid (j = 31 - k) := hj
      have hj31 : j < 32 := by omega
      clear hj ej
      go_wp2_with (first | (at_builtin; go_must (refine wpList_append_own _ rfl _ _ 32 rfl w1.heap.size 5 i0 (.int .u8 0) 1 1 Try.underlying32 HI.out hz0 hz1 hz2 rfl (by decide) _ _ _ rfl (World.ownsRow.alloc HO.out _) ⟨wr.heap.size, 0, none⟩ 1 1 [.int .u8 x] rfl rfl ?c10 ?c20 ?c30 ?c40 ?c50 ?_)))
      any_goals (first
        | (intro q u hq; exact one_cell8 hq)
        | (intro u hu; simp at hu; subst hu; rfl)
        | (unfold maxLen; omega)
        | omega
        | (simp; omega))
      intro v' w2 hown' hg hnn
      have HO2 : Hid _ := hown'
      have HG : Hid _ := hg
      clear hown' hg hnn
      go_wp2
      refine ⟨⟨k + 1, by omega, ?_, ?_, ?_⟩, ?_⟩
      · have := HJ.out; congr 1; omega
      · rw [HT.out, List.map_append, List.map_take]; exact HO2.out
      · exact of_grown hbw HG.out (fun g hg => (World.ownsRow.lt HO.out g hg).1) hsz
      · have := HJ.out; simp [intOf]
    · have HO3 : Hid (IsD wr u4 (dL X)) := by
        have h := HO.out
        rw [show k = (dL X).length by rw [dL_len]; omega, List.take_length] at h
        exact IsD.of_owns h
      have ek : (31 : Int) - k = -1 := by omega
      rw [ek]
      clear HO ek
      go_wp2
      go_ret
      exact ⟨_, rfl, HO3.out, hB1.trans (hbw.mono hB1.size)⟩
set_option maxHeartbeats 1000000 in
/-- conclaveref04.Bytes -/
theorem rbytes_any {va : Value} {X : Int} (ha : IsW va X) (w : World) :
    Calls Try.prog 30 #[va] w fun e w' => ∃ v, e = .returned v ∧ IsD w' v (dL (X % PP)) ∧ Below w.heap.size w w' := by
  have HA : Hid (IsW va X) := ha
  obtain ⟨a0, a1, a2, a3, rfl, la, na⟩ := ha
  clear la na
  have hB : Hid (Below w.heap.size w (w.alloc (.cells (C4 a0 a1 a2 a3) 24))) := by show Below _ _ _; go_grown
  unfold W4
  go_enter Try.func30, Try.ntmps30
  go_wp2_with fail
  generalize (w.alloc (.cells (C4 a0 a1 a2 a3) 24)) = w0 at hB ⊢
  refine (n_add HA.out isw0 _).mono ?_
  rintro e w1 ⟨v1, rfl, h1, b1⟩
  rw [Int.add_zero] at h1
  have H1 : Hid (IsW v1 (X % PP)) := h1
  clear h1
  go_wp2_with fail
  refine (little_any H1.out _).mono ?_
  rintro e w2 ⟨v2, rfl, h2, b2⟩
  have hB2 := (hB.out.trans (b1.mono hB.out.size))
  have hB3 := hB2.trans (b2.mono hB2.size)
  have H2 : Hid (IsD w2 v2 (dL (X % PP))) := h2
  clear h2 b1 b2 hB hB2
  go_wp2
  go_ret
  exact ⟨_, rfl, H2.out, hB3⟩
end Go.Proofs.Ytmflilgppllebaa
/- Reading, by the document and by field: read, Read, Lread, Lfold. -/
namespace Go.Proofs.Ytmflilgppllebaa
open Go.RowKit
set_option linter.unusedSimpArgs false
set_option linter.unusedVariables false
theorem pow256_32 : (256 : Int) ^ 32 = T256 := by decide
set_option maxHeartbeats 2000000 in
/-- conclaveref04.read -/
theorem rread_any {vm : Value} {Lm : Nat} {p : Int} (w : World) (v : Value) (d : List Int) (h : IsD w v d) (B : Byt d) (hm : d.length ≤ 9223372036854775807) (hM : Num w vm Lm p) (lm : Lm < 4000) :
    Calls Try.prog 61 #[v, vm] w fun e w' => ∃ u, e = .returned (.tuple #[u, .int .i64 (rdE p d)]) ∧ IsW u (rdV p d) ∧ Below w.heap.size w w' := by
  have HD : Hid (IsD w v d) := h
  have HB : Hid (Byt d) := B
  have HM : Hid (Num w vm Lm p) := hM
  obtain ⟨aa, ca, rfl, hca, hc⟩ := h
  have V0 : Hid (VarW (w.alloc (.cells (C4 0 0 0 0) 24)) w.heap.size (W4 0 0 0 0) ∧ Below w.heap.size w (w.alloc (.cells (C4 0 0 0 0) 24))) := ⟨VarW.new w, by go_grown⟩
  clear hc B hM
  by_cases hl : d.length = 32
  · have HL : Hid (d.length = 32) := hl
    have HD2 : Hid (IsD w (.slice aa 32 ca) d) := by rw [← hl]; exact HD
    rw [hl]
    clear hca hm HD hl
    go_enter Try.func61, Try.ntmps61
    go_wp2_with fail
    generalize w.alloc (.cells (C4 0 0 0 0) 24) = W0 at V0 ⊢
    refine Calls.mono (n_number (HD2.out.below V0.out.2) (by rw [HL.out]; decide) HB.out) ?_
    rintro e w12 ⟨v12, rfl, h12, b12⟩
    have H12 : Hid (Num w12 v12 64 (valB d)) := h12
    have V1 : Hid (VarW w12 w.heap.size (W4 0 0 0 0) ∧ Below w.heap.size w w12) := ⟨V0.out.1.kept b12, V0.out.2.trans (b12.mono V0.out.2.size)⟩
    have HM2 : Hid (Num w12 vm Lm p) := HM.out.below V1.out.2
    clear V0 b12 h12 HM
    go_wp2_with fail
    refine Calls.mono (n_cmp H12.out HM2.out (by decide) lm) ?_
    rintro e w15 ⟨rfl, hw⟩
    subst hw
    by_cases hlt : p ≤ valB d
    · have HE : Hid (rdE p d = 20 ∧ rdV p d = 0) := by unfold rdE rdV; rw [if_pos HL.out, if_pos HL.out, if_pos hlt, if_pos hlt]; exact ⟨rfl, rfl⟩
      have hcm : 0 ≤ cmpN (valB d) p := by unfold cmpN; split; omega; split <;> omega
      generalize cmpN (valB d) p = cm at hcm ⊢
      go_wp2_with (first | (refine wpList_build rfl 24 _ rfl (by kernel_rfl) ?_; generalize hG : (Program.built _ _ _).getD #[] = G; obtain rfl : G = C4 0 0 0 0 := by rw [← hG]; kernel_rfl) | (refine wpList_store_varW (u := W4 0 0 0 0) rfl _ _ rfl w.heap.size rfl rfl isw0 V1.out.1 ?_))
      try clear hG
      have hl := (V1.out.1.put isw0).load
      refine bodyPost_ret (v := .tuple #[W4 0 0 0 0, .int .i64 20]) (by simp [results, Try.results61, asAddr, hl]) rfl ⟨_, by rw [HE.out.1], by rw [HE.out.2]; exact isw0, below_setRow V1.out.2 (by omega) _⟩
    · have HE : Hid (rdE p d = 0 ∧ rdV p d = valB d) := by unfold rdE rdV; rw [if_pos HL.out, if_pos HL.out, if_neg hlt, if_neg hlt]; exact ⟨rfl, rfl⟩
      have hcm : cmpN (valB d) p = -1 := by unfold cmpN; rw [if_pos (by omega)]
      rw [hcm]
      clear hcm hlt
      go_wp2_with fail
      refine Calls.mono (n_word _ _ 64 (valB d) H12.out (by decide)) ?_
      rintro e w19 ⟨v19, rfl, h19, b19⟩
      have hv := valB_bd d HB.out
      rw [HL.out, pow256_32] at hv
      rw [Int.emod_eq_of_lt hv.1 hv.2] at h19
      have V2 : Hid (VarW w19 w.heap.size (W4 0 0 0 0) ∧ Below w.heap.size w w19) := ⟨V1.out.1.kept b19, V1.out.2.trans (b19.mono V1.out.2.size)⟩
      have H19 : Hid (IsW v19 (valB d)) := h19
      clear V1 b19 h19 hv
      go_wp2_with (first | (refine wpList_store_varW (u := v19) rfl _ _ rfl w.heap.size rfl rfl H19.out V2.out.1 ?_))
      have hl := (V2.out.1.put H19.out).load
      refine bodyPost_ret (v := .tuple #[v19, .int .i64 0]) (by simp [results, Try.results61, asAddr, hl]) rfl ⟨_, by rw [HE.out.1], by rw [HE.out.2]; exact H19.out, below_setRow V2.out.2 (by omega) _⟩
  · have HE : Hid (rdE p d = 1 ∧ rdV p d = 0) := by unfold rdE rdV; rw [if_neg hl, if_neg hl]; exact ⟨rfl, rfl⟩
    have hd : ((d.length : Int) = 32) = False := by simp; omega
    clear HD HB HM
    go_enter Try.func61, Try.ntmps61
    go_wp2_with (first | (refine wpList_build rfl 24 _ rfl (by kernel_rfl) ?_; generalize hG : (Program.built _ _ _).getD #[] = G; obtain rfl : G = C4 0 0 0 0 := by rw [← hG]; kernel_rfl) | (refine wpList_store_varW (u := W4 0 0 0 0) rfl _ _ rfl w.heap.size rfl rfl isw0 V0.out.1 ?_))
    have hl := (V0.out.1.put isw0).load
    refine bodyPost_ret (v := .tuple #[W4 0 0 0 0, .int .i64 1]) (by simp [results, Try.results61, asAddr, hl]) rfl ⟨_, by rw [HE.out.1], by rw [HE.out.2]; exact isw0, below_setRow V0.out.2 (by omega) _⟩
set_option maxHeartbeats 1000000 in
/-- conclaveref04.Read -/
theorem rRead_any (w : World) (v : Value) (d : List Int) (h : IsD w v d) (B : Byt d) (hm : d.length ≤ 9223372036854775807) :
    Calls Try.prog 23 #[v] w fun e w' => ∃ u, e = .returned (.tuple #[u, .int .i64 (rdE PP d)]) ∧ IsW u (rdV PP d) ∧ Below w.heap.size w w' := by
  have HD : Hid (IsD w v d) := h
  have V0 : Hid (VarW (w.alloc (.cells (C4 0 0 0 0) 24)) w.heap.size (W4 0 0 0 0) ∧ Below w.heap.size w (w.alloc (.cells (C4 0 0 0 0) 24))) := ⟨VarW.new w, by go_grown⟩
  clear h
  go_enter Try.func23, Try.ntmps23
  go_wp2_with fail
  generalize w.alloc (.cells (C4 0 0 0 0) 24) = W0 at V0 ⊢
  refine Calls.mono (n_p _) ?_
  rintro e w1 ⟨v1, rfl, h1, b1⟩
  have V1 : Hid (VarW w1 w.heap.size (W4 0 0 0 0) ∧ Below w.heap.size w w1) := ⟨V0.out.1.kept b1, V0.out.2.trans (b1.mono V0.out.2.size)⟩
  clear V0 b1
  have HQ : Hid _ := rread_any _ v d (HD.out.below V1.out.2) B hm h1 (by decide)
  clear h1
  go_wp2_with fail
  refine Calls.mono HQ.out ?_
  rintro e w2 ⟨u, rfl, hu, b2⟩
  have V2 : Hid (VarW w2 w.heap.size (W4 0 0 0 0) ∧ Below w.heap.size w w2) := ⟨V1.out.1.kept b2, V1.out.2.trans (b2.mono V1.out.2.size)⟩
  clear V1 b2
  go_wp2_with (first | (refine wpList_store_varW (u := u) rfl _ _ rfl w.heap.size rfl rfl hu V2.out.1 ?_))
  have hl := (V2.out.1.put hu).load
  refine bodyPost_ret (v := .tuple #[u, .int .i64 (rdE PP d)]) (by simp [results, Try.results23, asAddr, hl]) rfl ⟨_, rfl, hu, below_setRow V2.out.2 (by omega) _⟩
set_option maxHeartbeats 1000000 in
/-- conclaveref04.Lread -/
theorem rLread_any (w : World) (v : Value) (d : List Int) (h : IsD w v d) (B : Byt d) (hm : d.length ≤ 9223372036854775807) :
    Calls Try.prog 25 #[v] w fun e w' => ∃ u, e = .returned (.tuple #[u, .int .i64 (rdE LL d)]) ∧ IsW u (rdV LL d) ∧ Below w.heap.size w w' := by
  have HD : Hid (IsD w v d) := h
  have V0 : Hid (VarW (w.alloc (.cells (C4 0 0 0 0) 24)) w.heap.size (W4 0 0 0 0) ∧ Below w.heap.size w (w.alloc (.cells (C4 0 0 0 0) 24))) := ⟨VarW.new w, by go_grown⟩
  clear h
  go_enter Try.func25, Try.ntmps25
  go_wp2_with fail
  generalize w.alloc (.cells (C4 0 0 0 0) 24) = W0 at V0 ⊢
  refine Calls.mono (n_l _) ?_
  rintro e w1 ⟨v1, rfl, h1, b1⟩
  have V1 : Hid (VarW w1 w.heap.size (W4 0 0 0 0) ∧ Below w.heap.size w w1) := ⟨V0.out.1.kept b1, V0.out.2.trans (b1.mono V0.out.2.size)⟩
  clear V0 b1
  have HQ : Hid _ := rread_any _ v d (HD.out.below V1.out.2) B hm h1 (by decide)
  clear h1
  go_wp2_with fail
  refine Calls.mono HQ.out ?_
  rintro e w2 ⟨u, rfl, hu, b2⟩
  have V2 : Hid (VarW w2 w.heap.size (W4 0 0 0 0) ∧ Below w.heap.size w w2) := ⟨V1.out.1.kept b2, V1.out.2.trans (b2.mono V1.out.2.size)⟩
  clear V1 b2
  go_wp2_with (first | (refine wpList_store_varW (u := u) rfl _ _ rfl w.heap.size rfl rfl hu V2.out.1 ?_))
  have hl := (V2.out.1.put hu).load
  refine bodyPost_ret (v := .tuple #[u, .int .i64 (rdE LL d)]) (by simp [results, Try.results25, asAddr, hl]) rfl ⟨_, rfl, hu, below_setRow V2.out.2 (by omega) _⟩
set_option maxHeartbeats 1000000 in
/-- field.Lread -/
theorem lread_any (w : World) (v : Value) (d : List Int) (h : IsD w v d) (B : Byt d) (hm : d.length ≤ 9223372036854775807) :
    Calls Try.prog 24 #[v] w fun e w' => ∃ u, e = .returned (.tuple #[u, .int .i64 (rdE LL d)]) ∧ IsW u (rdV LL d) ∧ Below w.heap.size w w' := by
  have HD : Hid (IsD w v d) := h
  have V0 : Hid (VarW (w.alloc (.cells (C4 0 0 0 0) 24)) w.heap.size (W4 0 0 0 0) ∧ Below w.heap.size w (w.alloc (.cells (C4 0 0 0 0) 24))) := ⟨VarW.new w, by go_grown⟩
  clear h
  go_enter Try.func24, Try.ntmps24
  go_wp2_with fail
  generalize w.alloc (.cells (C4 0 0 0 0) 24) = W0 at V0 ⊢
  refine Calls.mono (g_l _) ?_
  rintro e w1 ⟨v1, rfl, h1, b1⟩
  have V1 : Hid (VarW w1 w.heap.size (W4 0 0 0 0) ∧ Below w.heap.size w w1) := ⟨V0.out.1.kept b1, V0.out.2.trans (b1.mono V0.out.2.size)⟩
  clear V0 b1
  have HQ : Hid _ := rb_any h1 _ v d (HD.out.below V1.out.2) B hm
  clear h1
  go_wp2_with fail
  refine Calls.mono HQ.out ?_
  rintro e w2 ⟨u, rfl, hu, b2⟩
  have V2 : Hid (VarW w2 w.heap.size (W4 0 0 0 0) ∧ Below w.heap.size w w2) := ⟨V1.out.1.kept b2, V1.out.2.trans (b2.mono V1.out.2.size)⟩
  clear V1 b2
  go_wp2_with (first | (refine wpList_store_varW (u := u) rfl _ _ rfl w.heap.size rfl rfl hu V2.out.1 ?_))
  have hl := (V2.out.1.put hu).load
  refine bodyPost_ret (v := .tuple #[u, .int .i64 (rdE LL d)]) (by simp [results, Try.results24, asAddr, hl]) rfl ⟨_, rfl, hu, below_setRow V2.out.2 (by omega) _⟩
/-- What Lfold gives: the error and the number. -/
def lfE (d : List Int) : Int := if 64 < d.length then 1 else 0
def lfV (d : List Int) : Int := if 64 < d.length then 0 else valB d % LL
set_option maxHeartbeats 2000000 in
/-- conclaveref04.Lfold -/
theorem rlfold_any (w : World) (v : Value) (d : List Int) (h : IsD w v d) (B : Byt d) (hm : d.length ≤ 9223372036854775807) :
    Calls Try.prog 27 #[v] w fun e w' => ∃ u, e = .returned (.tuple #[u, .int .i64 (lfE d)]) ∧ IsW u (lfV d) ∧ Below w.heap.size w w' := by
  have HD : Hid (IsD w v d) := h
  have HB : Hid (Byt d) := B
  obtain ⟨aa, ca, rfl, hca, hc⟩ := h
  have V0 : Hid (VarW (w.alloc (.cells (C4 0 0 0 0) 24)) w.heap.size (W4 0 0 0 0) ∧ Below w.heap.size w (w.alloc (.cells (C4 0 0 0 0) 24))) := ⟨VarW.new w, by go_grown⟩
  clear hc B
  by_cases hl : 64 < d.length
  · have HE : Hid (lfE d = 1 ∧ lfV d = 0) := by unfold lfE lfV; rw [if_pos hl, if_pos hl]; exact ⟨rfl, rfl⟩
    have hd : ((64 : Int) < d.length) := by omega
    clear HD HB
    go_enter Try.func27, Try.ntmps27
    go_wp2_with (first | (refine wpList_build rfl 24 _ rfl (by kernel_rfl) ?_; generalize hG : (Program.built _ _ _).getD #[] = G; obtain rfl : G = C4 0 0 0 0 := by rw [← hG]; kernel_rfl) | (refine wpList_store_varW (u := W4 0 0 0 0) rfl _ _ rfl w.heap.size rfl rfl isw0 V0.out.1 ?_))
    have hl := (V0.out.1.put isw0).load
    refine bodyPost_ret (v := .tuple #[W4 0 0 0 0, .int .i64 1]) (by simp [results, Try.results27, asAddr, hl]) rfl ⟨_, by rw [HE.out.1], by rw [HE.out.2]; exact isw0, below_setRow V0.out.2 (by omega) _⟩
  · have HE : Hid (lfE d = 0 ∧ lfV d = valB d % LL) := by unfold lfE lfV; rw [if_neg hl, if_neg hl]; exact ⟨rfl, rfl⟩
    have hd : ¬ ((64 : Int) < d.length) := by omega
    have HL : Hid (d.length ≤ 64) := by show _ ≤ _; omega
    go_enter Try.func27, Try.ntmps27
    go_wp2_with fail
    generalize w.alloc (.cells (C4 0 0 0 0) 24) = W0 at V0 ⊢
    refine Calls.mono (n_number (HD.out.below V0.out.2) HL.out HB.out) ?_
    rintro e w9 ⟨v9, rfl, h9, b9⟩
    have H9 : Hid (Num w9 v9 64 (valB d)) := h9
    clear h9
    go_wp2_with fail
    refine Calls.mono (n_l _) ?_
    rintro e w10 ⟨v10, rfl, h10, b10⟩
    have H10 : Hid (Num w10 v10 33 LL) := h10
    have H9' : Hid (Num w10 v9 64 (valB d)) := H9.out.below b10
    clear h10 H9
    go_wp2_with fail
    refine Calls.mono (n_mod _ _ _ 64 33 (valB d) LL H9'.out H10.out (by decide) (by decide) (by decide) (by decide)) ?_
    rintro e w11 ⟨v11, rfl, h11, b11⟩
    have hk : Below W0.heap.size W0 w11 := (b9.trans (b10.mono b9.size)).trans (b11.mono (Nat.le_trans b9.size b10.size))
    have V2 : Hid (VarW w11 w.heap.size (W4 0 0 0 0) ∧ Below w.heap.size w w11) := ⟨V0.out.1.kept hk, V0.out.2.trans (hk.mono V0.out.2.size)⟩
    have H11 : Hid (IsW v11 (valB d % LL)) := h11
    clear V0 hk b9 b10 b11 h11 H9' H10
    go_wp2_with (first | (refine wpList_store_varW (u := v11) rfl _ _ rfl w.heap.size rfl rfl H11.out V2.out.1 ?_))
    have hl := (V2.out.1.put H11.out).load
    refine bodyPost_ret (v := .tuple #[v11, .int .i64 0]) (by simp [results, Try.results27, asAddr, hl]) rfl ⟨_, by rw [HE.out.1], by rw [HE.out.2]; exact H11.out, below_setRow V2.out.2 (by omega) _⟩
end Go.Proofs.Ytmflilgppllebaa
