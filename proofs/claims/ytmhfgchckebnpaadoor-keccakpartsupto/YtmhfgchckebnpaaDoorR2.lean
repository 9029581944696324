/- The document's answer: the round constants by the register. -/
import Derived.Test.YtmhfgchckebnpaaDoorR1
namespace Go.Proofs.YtmhfgchckebnpaaDoor
open Go.RowKit
set_option linter.unusedSimpArgs false
set_option linter.unusedVariables false

/-- The register's next value. -/
def stepN (x : Nat) : Nat := if 128 ≤ x then (2 * x) ^^^ 256 ^^^ 113 else 2 * x
def lf : Nat → Nat
  | 0 => 1
  | n + 1 => stepN (lf n)
theorem step_lt : ∀ x : Fin 256, stepN x.val < 256 := by decide +kernel
theorem lf_lt : ∀ n, lf n < 256
  | 0 => by decide
  | n + 1 => step_lt ⟨lf n, lf_lt n⟩
theorem and1 : ∀ x : Fin 256, bits .and .i64 (x.val : Int) 1 = ((x.val % 2 : Nat) : Int) := by decide +kernel
theorem and256 : ∀ x : Fin 256, bits .and .i64 ((x.val : Int) * 2) 256 = if 128 ≤ x.val then 256 else 0 := by decide +kernel
theorem xor113 : ∀ x : Fin 256, 128 ≤ x.val → bits .xor .i64 (bits .xor .i64 ((x.val : Int) * 2) 256) 113 = ((stepN x.val : Nat) : Int) := by decide +kernel
theorem bit_at : ∀ j : Fin 7, IntKind.u64.wrap (2 ^ min (IntKind.u64.wrap (IntKind.u64.wrap (2 ^ j.val) - 1)).toNat 64) = I (1#64 <<< (2 ^ j.val - 1)) := by decide +kernel
theorem lf_next (n : Nat) : lf (n + 1) = stepN (lf n) := rfl
/-- The constant r behind j bits. -/
def part (r : Nat) : Nat → BitVec 64
  | 0 => 0#64
  | j + 1 => if lf (7 * r + j) % 2 = 1 then part r j ||| (1#64 <<< (2 ^ j - 1)) else part r j
theorem part7 : ∀ r : Fin 24, part r.val 7 = RC r.val := by decide +kernel
def conv (r j i : Nat) : BitVec 64 := if i < r then RC i else if i = r then part r j else 0#64
theorem conv_next (r : Nat) (hr : r < 24) (i : Nat) : conv r 7 i = conv (r + 1) 0 i := by
  unfold conv
  by_cases h : i < r
  · rw [if_pos h, if_pos (by omega)]
  · by_cases e : i = r
    · subst e; rw [if_neg h, if_pos rfl, if_pos (by omega)]; exact part7 ⟨i, hr⟩
    · rw [if_neg h, if_neg e, if_neg (by omega)]
      by_cases e2 : i = r + 1
      · rw [if_pos e2]; rfl
      · rw [if_neg e2]
def CnIn (r j : Nat) (w wr : World) : Prop := wr.rowIs w.heap.size 39 24 (lan fun _ => 0#64) ∧ wr.rowIs (w.heap.size + 1) 39 24 (lan (conv r j)) ∧ Below w.heap.size w wr
theorem cn_start (w : World) : CnIn 0 0 w ((w.alloc (.cells (vec 24 (lan fun _ => 0#64)) 39)).alloc (.cells (vec 24 (lan fun _ => 0#64)) 39)) := by
  refine ⟨heap_row (heap_alloc2_old _ _ _), (heap_row (heap_alloc2_new _ _ _)).congr (fun i hi => ?_), by go_grown⟩
  simp only [lan, conv]
  by_cases e : i = 0
  · rw [if_neg (by omega), if_pos e]; rfl
  · rw [if_neg (by omega), if_neg e]
theorem CnIn.out {r : Nat} {w wr : World} (hr : r < 24) (h : CnIn r 7 w wr) : CnIn (r + 1) 0 w wr :=
  ⟨h.1, h.2.1.congr (fun i _ => by simp only [lan]; rw [conv_next r hr i]), h.2.2⟩
theorem CnIn.even {r j : Nat} {w wr : World} (h : CnIn r j w wr) (ho : lf (7 * r + j) % 2 ≠ 1) : CnIn r (j + 1) w wr :=
  ⟨h.1, h.2.1.congr (fun i _ => by simp only [lan, conv, part]; rw [if_neg ho]), h.2.2⟩
theorem CnIn.odd {r j : Nat} {w wr : World} (hr : r < 24) (h : CnIn r j w wr) (ho : lf (7 * r + j) % 2 = 1) {v : Value} (hv : v = .int .u64 (I (part r j ||| (1#64 <<< (2 ^ j - 1))))) : CnIn r (j + 1) w (wr.setCell ⟨w.heap.size + 1, r, none⟩ v) := by
  refine ⟨h.1.setOther (by show w.heap.size ≠ w.heap.size + 1; omega) _, (h.2.1.set _ _).congr (fun i hi => ?_), h.2.2.setCell (by show w.heap.size ≤ w.heap.size + 1; omega) _⟩
  subst hv
  simp only [lan, conv, part]
  by_cases e : i = r
  · subst e; rw [if_pos rfl, if_neg (by omega), if_pos rfl, if_pos ho]
  · rw [if_neg e, if_neg e, if_neg e]
theorem zero24' : (#[.int .u64 0, .int .u64 0, .int .u64 0, .int .u64 0, .int .u64 0, .int .u64 0, .int .u64 0, .int .u64 0, .int .u64 0, .int .u64 0, .int .u64 0, .int .u64 0, .int .u64 0, .int .u64 0, .int .u64 0, .int .u64 0, .int .u64 0, .int .u64 0, .int .u64 0, .int .u64 0, .int .u64 0, .int .u64 0, .int .u64 0, .int .u64 0] : Array Value) = vec 24 (lan fun _ => 0#64) := by kernel_rfl
theorem info39v' (f : Nat → Value) : (Tryd.prog.info? 39).map (·.size) = some (vec 24 f).size := by rw [size_vec]; kernel_rfl
set_option maxRecDepth 20000 in
set_option maxHeartbeats 2000000 in
/-- conclaveref02.constants -/
theorem rconstants_any (w : World) : Calls Tryd.prog 22 #[] w fun e w' => e = .returned (.agg (vec 24 (lan RC))) ∧ Below w.heap.size w w' := by
  have HS : Hid _ := cn_start w
  go_enter Tryd.func22, Tryd.ntmps22
  go_wp2
  rw [zero24']
  go_loopw [2, 3] (fun l i wr => ∃ r : Nat, r ≤ 24 ∧ i = .int .i64 (r : Int) ∧ l = .int .i64 ((lf (7 * r) : Nat) : Int) ∧ CnIn r 0 w wr) (fun _ i _ => 24 - (intOf i).toNat)
  case atStart => exact ⟨0, by omega, rfl, rfl, HS.out⟩
  case round =>
    obtain ⟨r, hr, rfl, rfl, hin⟩ := hrel
    clear HS
    by_cases hlt : r < 24
    · have H0 : Hid (CnIn r 0 w wr) := hin
      clear hin
      go_wp2
      go_loopw [2, 4] (fun l i wv => ∃ j : Nat, j ≤ 7 ∧ i = .int .i64 (j : Int) ∧ l = .int .i64 ((lf (7 * r + j) : Nat) : Int) ∧ CnIn r j w wv) (fun _ i _ => 7 - (intOf i).toNat)
      case atStart => exact ⟨0, by omega, rfl, rfl, H0.out⟩
      case round =>
        obtain ⟨j, hj, rfl, rfl, hin⟩ := hrel
        clear H0
        by_cases hjl : j < 7
        · obtain ⟨x, hx⟩ : ∃ x, x = lf (7 * r + j) := ⟨_, rfl⟩
          have hxl : x < 256 := by rw [hx]; exact lf_lt _
          rw [← hx]
          have H1 : Hid (CnIn r j w wr ∧ x = lf (7 * r + j)) := ⟨hin, hx⟩
          have c0 : wr.cell? ⟨w.heap.size + 1, r, none⟩ = some (.int .u64 (I (part r j))) := by
            rw [hin.2.1.cell hlt]; unfold conv; simp only [lan]; rw [if_neg (show ¬ r < r by omega)]; simp only [if_true]
          have f0 : wr.frozen? ⟨w.heap.size + 1, r, none⟩ = false := hin.2.1.frozen _
          clear hin hx
          have a1 := and1 ⟨x, hxl⟩
          have a2 := and256 ⟨x, hxl⟩
          simp only at a1 a2
          have HB : Hid (IntKind.u64.wrap (2 ^ min (IntKind.u64.wrap (IntKind.u64.wrap (2 ^ j) - 1)).toNat 64) = I (1#64 <<< (2 ^ j - 1))) := bit_at ⟨j, hjl⟩
          have hst : stepN x = if 128 ≤ x then (2 * x) ^^^ 256 ^^^ 113 else 2 * x := rfl
          have HN : Hid (lf (7 * r + (j + 1)) = stepN x) := by show _ = _; rw [← Nat.add_assoc, lf_next, ← H1.out.2]
          by_cases ho : x % 2 = 1
          · have a1' : bits .and .i64 (x : Int) 1 = 1 := by rw [a1, ho]; rfl
            by_cases hbig : 128 ≤ x
            · have a2' : bits .and .i64 ((x : Int) * 2) 256 = 256 := by rw [a2, if_pos hbig]
              have a3 : bits .xor .i64 (bits .xor .i64 ((x : Int) * 2) 256) 113 = ((stepN x : Nat) : Int) := xor113 ⟨x, hxl⟩ hbig
              clear a1 a2 hst
              go_wp2
              go_roundw
              case rel => exact ⟨j + 1, by omega, by go_num, by rw [HN.out], H1.out.1.odd hlt (by rw [← H1.out.2]; exact ho) (by rw [HB.out, bo])⟩
              case measure => simp [intOf]; omega
            · have a2' : bits .and .i64 ((x : Int) * 2) 256 = 0 := by rw [a2, if_neg hbig]
              rw [if_neg hbig] at hst
              have HT : Hid (stepN x = 2 * x) := hst
              clear a1 a2 hst
              go_wp2
              go_roundw
              case rel => exact ⟨j + 1, by omega, by go_num, by rw [HN.out, HT.out]; go_num, H1.out.1.odd hlt (by rw [← H1.out.2]; exact ho) (by rw [HB.out, bo])⟩
              case measure => simp [intOf]; omega
          · have a1' : bits .and .i64 (x : Int) 1 = 0 := by rw [a1, show x % 2 = 0 from by omega]; rfl
            by_cases hbig : 128 ≤ x
            · have a2' : bits .and .i64 ((x : Int) * 2) 256 = 256 := by rw [a2, if_pos hbig]
              have a3 : bits .xor .i64 (bits .xor .i64 ((x : Int) * 2) 256) 113 = ((stepN x : Nat) : Int) := xor113 ⟨x, hxl⟩ hbig
              clear a1 a2 hst c0 f0
              go_wp2
              go_roundw
              case rel => exact ⟨j + 1, by omega, by go_num, by rw [HN.out], H1.out.1.even (by rw [← H1.out.2]; exact ho)⟩
              case measure => simp [intOf]; omega
            · have a2' : bits .and .i64 ((x : Int) * 2) 256 = 0 := by rw [a2, if_neg hbig]
              rw [if_neg hbig] at hst
              have HT : Hid (stepN x = 2 * x) := hst
              clear a1 a2 hst c0 f0
              go_wp2
              go_roundw
              case rel => exact ⟨j + 1, by omega, by go_num, by rw [HN.out, HT.out]; go_num, H1.out.1.even (by rw [← H1.out.2]; exact ho)⟩
              case measure => simp [intOf]; omega
        · have : j = 7 := by omega
          subst this
          have H1 : Hid (CnIn (r + 1) 0 w wr) := hin.out hlt
          clear hin
          go_wp2
          go_roundw
          case rel => exact ⟨r + 1, by omega, by go_num, by rw [show 7 * (r + 1) = 7 * r + 7 from by omega], H1.out⟩
          case measure => simp [intOf]; omega
    · have : r = 24 := by omega
      subst this
      go_wp2_with (first | (refine wpList_load_row rfl 39 _ rfl (w.heap.size + 1) rfl 39 _ (0, 0) _ (row_heap hin.2.1) Tryd.underlying39 rfl (info39v' _) ?_) | (refine wpList_store_row rfl 39 _ _ rfl w.heap.size _ rfl rfl 39 _ (row_heap hin.1) (info39v' _) (by simp) (one_lan _ _) ?_))
      refine bodyPost_ret (results_cell_row rfl _ _ _ _ _ _ _ rfl (setRow_heap _ _ _ _ _ _ (row_heap hin.1)) Tryd.underlying39 rfl (info39v' _)) rfl ⟨?_, ?_⟩
      · rw [vec_congr (g := lan RC) (fun i hi => by simp only [lan, conv]; rw [if_pos hi])]
      · exact ((Only.refl _ _).setRow _).below hin.2.2 (Nat.le_refl _)
end Go.Proofs.YtmhfgchckebnpaaDoor
