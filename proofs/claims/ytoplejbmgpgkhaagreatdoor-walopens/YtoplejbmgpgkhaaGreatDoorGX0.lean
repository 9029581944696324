/- WT2, X0 -/
import Derived.Test.YtoplejbmgpgkhaaGreatDoorGDI
import Derived.Lib.ItoaMem
import Derived.Test.YtoplejbmgpgkhaaGreatDoorGWV4
namespace Go.Proofs.YtoplejbmgpgkhaaGreatDoor
open Go.RowKit Go.Maps Go.Joins
set_option linter.unusedSimpArgs false
set_option linter.unusedVariables false
set_option maxHeartbeats 4000000 in
theorem digits_small (n : Nat) (hn : n < 10) (w : World) : Calls Tryz.prog 68 #[.int .i64 n] w fun e w' => e = .returned (.string ⟨(Lib.itoa n).toArray⟩) ∧ Below w.heap.size w w' := by
  have hcv := fun (w : World) (x : Int) => run_convert_bytes_arg (P := Tryz.prog) (w.alloc (.cells #[.int .u8 x] 5)) 36 5 Tryz.underlying36 Tryz.underlying5 w.heap.size 0 1 1 [x] rfl (fun i hi => by
         cases i with
         | zero => simp [cell_of_block (heap_alloc_new w (.cells #[.int .u8 x] 5))]
         | succ i => simp at hi) 9 Tryz.underlying9
  have d1 : (n : Int) < 10 := by omega
  have e1 : (48 + (n : Int)) % 256 = 48 + n := by omega
  go_enter Tryz.func68, Tryz.ntmps68
  go_wp2
  go_ret
  refine ⟨?_, by go_grown⟩
  have e : (48 + (n : Int)).toNat = 48 + n := by omega
  rw [Lib.itoa_nonneg, Lib.decDigits_one hn]
  simp [strOfNums, e]
theorem dig_str (n : Nat) (h : ¬ n < 10) (m : Nat) (hm : m = n / 10) : (⟨(Lib.itoa (m : Int)).toArray⟩ : ByteArray) ++ strOfNums [48 + (n : Int) % 10] = ⟨(Lib.itoa (n : Int)).toArray⟩ := by
  rw [hm, Lib.itoa_nonneg, Lib.itoa_nonneg, Lib.decDigits.eq_1 n, dif_neg h]
  have : strOfNums [48 + (n : Int) % 10] = ⟨#[UInt8.ofNat (48 + n % 10)]⟩ := by
    have e : (48 + (n : Int) % 10).toNat = 48 + n % 10 := by omega
    simp [strOfNums, e]
  rw [this]
  apply ByteArray.ext
  simp
theorem conv_at (w : World) (g : Nat) (x : Int) (hc : w.cell? ⟨g, 0, none⟩ = some (.int .u8 x)) : (convert 36 9 (.slice (some ⟨g, 0, none⟩) 1 1)).run Tryz.prog w = .ok (.string (strOfNums [x])) w :=
  run_convert_bytes_arg (P := Tryz.prog) w 36 5 Tryz.underlying36 Tryz.underlying5 g 0 1 1 [x] rfl (fun i hi => by
         cases i with
         | zero => simpa using hc
         | succ i => simp at hi) 9 Tryz.underlying9
set_option maxRecDepth 100000 in
set_option maxHeartbeats 8000000 in
theorem digits_any (n : Nat) (hn : n < 1000000000) (w : World) : Calls Tryz.prog 68 #[.int .i64 n] w fun e w' => e = .returned (.string ⟨(Lib.itoa n).toArray⟩) ∧ Below w.heap.size w w' := by
  by_cases h : n < 10
  · exact digits_small n h w
  obtain ⟨m, hm⟩ : ∃ m, m = n / 10 := ⟨_, rfl⟩
  have ih := fun w => digits_any m (by omega) w
  have d1 : decide ((n : Int) < 10) = false := by simp; omega
  have e1 : IntKind.i64.wrap ((n : Int) / 10) = (m : Int) := by rw [IntKind.wrap_i64]; omega
  have e3 : IntKind.u8.wrap (IntKind.i64.wrap (48 + (n : Int).tmod 10)) = 48 + (n : Int) % 10 := by
    rw [Int.tmod_eq_emod_of_nonneg (by omega), IntKind.wrap_i64, IntKind.wrap_u8]; omega
  have HS := dig_str n h m hm
  have hil := Lib.itoa_length_le m (by omega) (by omega)
  have s1 : ¬ 9223372036854775807 < (⟨(Lib.itoa (m : Int)).toArray⟩ : ByteArray).size + (strOfNums [48 + (n : Int) % 10]).size := by rw [strOfNums_size]; simp [ByteArray.size]; omega
  have hcv := fun (w : World) => conv_at (w.alloc (.cells #[.int .u8 (48 + (n : Int) % 10)] 5)) w.heap.size (48 + (n : Int) % 10) (by rw [cell_of_block (heap_alloc_new w _)]; rfl)
  have hcd : (convert 36 9 (.slice (some ⟨w.heap.size, 0, none⟩) 1 1)).run Tryz.prog (w.drew.alloc (.cells #[.int .u8 (48 + (n : Int) % 10)] 5)) = .ok (.string (strOfNums [48 + (n : Int) % 10])) (w.drew.alloc (.cells #[.int .u8 (48 + (n : Int) % 10)] 5)) := hcv w.drew
  have hce : (convert 36 9 (.slice (some ⟨w.heap.size, 0, none⟩) 1 1)).run Tryz.prog ((w.alloc (.cells #[.int .u8 (48 + (n : Int) % 10)] 5)).drew) = .ok (.string (strOfNums [48 + (n : Int) % 10])) ((w.alloc (.cells #[.int .u8 (48 + (n : Int) % 10)] 5)).drew) := conv_at (w.alloc (.cells #[.int .u8 (48 + (n : Int) % 10)] 5)).drew w.heap.size _ (World.cell?_alloc_mark w #[.int .u8 (48 + (n : Int) % 10)] 5 (0, 0) 0)
  have HC : Hid (∀ (w : World) (g : Nat), w.cell? ⟨g, 0, none⟩ = some (.int .u8 (48 + (n : Int) % 10)) → (convert 36 9 (.slice (some ⟨g, 0, none⟩) 1 1)).run Tryz.prog w = .ok (.string (strOfNums [48 + (n : Int) % 10])) w) := fun w g h => conv_at w g _ h
  generalize strOfNums [48 + (n : Int) % 10] = sd at *
  generalize (⟨(Lib.itoa (m : Int)).toArray⟩ : ByteArray) = sm at *
  have E1 : Hid _ := e1
  have e2 : (n : Int) / 10 = (m : Int) := by omega
  have E2 : Hid _ := e2
  clear e1 e2
  have IH : Hid _ := ih
  have HSS : Hid _ := HS
  clear ih HS
  go_enter Tryz.func68, Tryz.ntmps68
  go_wp2
  go_region_with (first
    | (go_at_call 68
       first | rw [E1.out] | rw [E2.out]
       refine Calls.mono (IH.out _) ?_
       rintro e w1 ⟨rfl, hb1⟩
       try have hc2 := HC.out w1 w.heap.size ((hb1.cell (p := ⟨w.heap.size, 0, none⟩) (by show w.heap.size < (w.alloc _).heap.size; simp)).trans (World.cell?_alloc_mark w #[.int .u8 (48 + (n : Int) % 10)] 5 (0, 0) 0))))
  all_goals go_wp2
  all_goals go_ret
  all_goals refine ⟨by rw [← HSS.out]; rfl, ?_⟩
  all_goals first
    | exact (show Below w.heap.size w w1 from ⟨hb1.os, hb1.tape, hb1.output, hb1.size, hb1.block⟩).alloc hb1.size _
    | exact ((((Below.refl w.heap.size w).alloc (Nat.le_refl _) _).drew).trans (hb1.mono (by show w.heap.size ≤ (w.alloc _).heap.size; simp)))
    | exact ((((Below.refl w.heap.size w).drew).alloc (Nat.le_refl _) _).trans (hb1.mono (by show w.heap.size ≤ (w.alloc _).heap.size; simp)))
set_option maxHeartbeats 1000000 in
/-- The reference's File -/
theorem rfile_any {w : World} (nm : ByteArray) (hnm : nm.size ≤ 4611686018427387904) (n : Int) : Calls Tryz.prog 28 #[.string nm, .int .i64 n] w fun e w' => e = .returned (.string (fileB nm n)) ∧ Below w.heap.size w w' := by
  by_cases h0 : n < 0
  · have hf : fileB nm n = ByteArray.empty := if_pos (Or.inl h0)
    have HF : Hid _ := hf
    clear hf
    go_enter Tryz.func28, Tryz.ntmps28
    go_wp2
    go_ret
    rw [HF.out]
    exact ⟨rfl, Below.refl _ _⟩
  by_cases h1 : 1000000000 ≤ n
  · have hf : fileB nm n = ByteArray.empty := if_pos (Or.inr h1)
    have HF : Hid _ := hf
    clear hf
    go_enter Tryz.func28, Tryz.ntmps28
    go_wp2
    go_ret
    rw [HF.out]
    exact ⟨rfl, Below.refl _ _⟩
  have hf : fileB nm n = nm ++ ⟨#[46]⟩ ++ ⟨(Lib.itoa n).toArray⟩ := if_neg (by omega)
  have hil := Lib.itoa_length_le n (by omega) (by omega)
  have s1 : ¬ 9223372036854775807 < nm.size + 1 := by omega
  have s2 : ¬ 9223372036854775807 < nm.size + 1 + (Lib.itoa n).length := by omega
  have hd := digits_any n.toNat (by omega) w
  rw [show ((n.toNat : Nat) : Int) = n by omega] at hd
  have HF : Hid _ := hf
  have HD : Hid _ := hd
  clear hf hd
  go_enter Tryz.func28, Tryz.ntmps28
  go_wp2_with (first
    | (go_at_call 68
       refine Calls.mono HD.out ?_
       rintro e w1 ⟨rfl, hb1⟩
       have HB : Hid _ := hb1
       clear hb1))
  go_ret
  rw [HF.out]
  exact ⟨rfl, HB.out⟩
end Go.Proofs.YtoplejbmgpgkhaaGreatDoor
namespace Go.Proofs.YtoplejbmgpgkhaaGreatDoor
open Go.RowKit Go.Maps Go.Joins Go.Sort
set_option linter.unusedVariables false
set_option linter.unusedSimpArgs false
def dv (l : List UInt8) : Nat := l.foldl (fun n c => n * 10 + (c.toNat - 48)) 0
theorem dv_snoc (l : List UInt8) (c : UInt8) : dv (l ++ [c]) = dv l * 10 + (c.toNat - 48) := by simp [dv]
theorem dv_dec (u : Nat) : dv (Lib.decDigits u) = u := by
  induction u using Nat.strongRecOn with
  | ind u ih =>
    rw [Lib.decDigits]
    split
    · rename_i h
      have := dig_nat u h
      show 0 * 10 + ((UInt8.ofNat (48 + u)).toNat - 48) = u
      omega
    · have := dig_nat (u % 10) (by omega)
      rw [dv_snoc, ih (u / 10) (by omega), this]
      omega
theorem dec_all (u : Nat) : ∀ c ∈ Lib.decDigits u, 48 ≤ c.toNat ∧ c.toNat ≤ 57 := by
  induction u using Nat.strongRecOn with
  | ind u ih =>
    rw [Lib.decDigits]
    split
    · rename_i h
      intro c hc
      have e : c = UInt8.ofNat (48 + u) := by simpa using hc
      rw [e, dig_nat u h]
      omega
    · intro c hc
      rcases List.mem_append.1 hc with h1 | h1
      · exact ih (u / 10) (by omega) c h1
      · have e : c = UInt8.ofNat (48 + u % 10) := by simpa using h1
        rw [e, dig_nat (u % 10) (by omega)]
        omega
theorem dec_len : ∀ (k u : Nat), u < 10 ^ (k + 1) → 1 ≤ (Lib.decDigits u).length ∧ (Lib.decDigits u).length ≤ k + 1
  | 0, u, h => by
    rw [Lib.decDigits, dif_pos (by simpa using h)]
    simp
  | k + 1, u, h => by
    rw [Lib.decDigits]
    split
    · simp
    · have := dec_len k (u / 10) (by rw [Nat.pow_succ] at h; omega)
      rw [List.length_append]
      simp
      omega
theorem num_shape {s : ByteArray} {v : Int} (h : numOf s = some v) : s.data.toList = pfx.data.toList ++ Lib.decDigits v.toNat ∧ 0 ≤ v ∧ v < 1000000000 := by
  obtain ⟨h0, h1⟩ := numOf_bd h
  refine ⟨?_, h0, h1⟩
  rw [← numOf_back h, file_list v h0 h1]
  congr 1
  exact if_neg (by omega)
theorem num_size {s : ByteArray} {v : Int} (h : numOf s = some v) : 4 < s.size ∧ s.size ≤ 13 ∧ ∀ i (hi : i < s.size), 4 ≤ i → 48 ≤ s[i].toNat ∧ s[i].toNat ≤ 57 := by
  obtain ⟨h1, h2, h3⟩ := num_shape h
  obtain ⟨h4, h5⟩ := dec_len 8 v.toNat (by omega)
  have hl : s.size = 4 + (Lib.decDigits v.toNat).length := by
    have := congrArg List.length h1
    rw [List.length_append] at this
    have e : pfx.data.toList.length = 4 := rfl
    rw [e] at this
    simpa using this
  refine ⟨by omega, by omega, fun i hi h4i => ?_⟩
  have e : s.data.toList[i]? = some s[i] := by
    rw [List.getElem?_eq_getElem (by simpa using hi)]
    rfl
  rw [h1, List.getElem?_append_right (by show 4 ≤ i; exact h4i)] at e
  exact dec_all v.toNat _ (List.mem_of_getElem? e)
/-- which -/
def WhR (s : ByteArray) (e : Ending) : Prop := ∃ n b, e = .returned (.tuple #[.int .i64 n, .bool b]) ∧ (b = true → numOf s = some n) ∧ (b = false → numOf s = none)
theorem whr_none {s : ByteArray} (h : numOf s = none) : WhR s (.returned (.tuple #[.int .i64 0, .bool false])) := ⟨0, false, rfl, fun h => (by cases h), fun _ => h⟩
set_option maxRecDepth 100000 in
set_option maxHeartbeats 4000000 in
theorem which_any {w : World} (s : ByteArray) (hs : s.size ≤ 1000) : Calls Tryz.prog 52 #[.string logB, .string s] w fun e w' => WhR s e ∧ Below w.heap.size w w' := by
  have hls : logB.size = 3 := rfl
  have hpf : logB ++ ⟨#[46]⟩ = pfx := rfl
  have s1 : ¬ 9223372036854775807 < logB.size + 1 := by decide
  by_cases h5 : s.size ≤ 4
  · have hn : numOf s = none := by
      cases hn : numOf s with
      | none => rfl
      | some v => have := (num_size hn).1; omega
    have HN : Hid (numOf s = none) := hn
    have d1 : decide ((s.size : Int) ≤ 4) = true := by simp; omega
    clear hn
    go_enter Tryz.func52, Tryz.ntmps52
    go_wp2
    go_returns
    exact ⟨whr_none HN.out, ⟨rfl, rfl, rfl, Nat.le_refl _, fun _ _ => rfl⟩⟩
  have d1 : decide ((s.size : Int) ≤ 4) = false := by simp; omega
  by_cases h13 : 13 < s.size
  · have hn : numOf s = none := by
      cases hn : numOf s with
      | none => rfl
      | some v => have := (num_size hn).2.1; omega
    have HN : Hid (numOf s = none) := hn
    have d2 : decide ((13 : Int) < s.size) = true := by simp; omega
    clear hn
    go_enter Tryz.func52, Tryz.ntmps52
    go_wp2
    go_returns
    exact ⟨whr_none HN.out, ⟨rfl, rfl, rfl, Nat.le_refl _, fun _ _ => rfl⟩⟩
  have d2 : decide ((13 : Int) < s.size) = false := by simp; omega
  by_cases hp : (s.extract 0 4).toList == pfx.toList
  rotate_left
  · have hp' : ((s.extract 0 4).toList == pfx.toList) = false := by simpa using hp
    have hn : numOf s = none := by
      cases hn : numOf s with
      | none => rfl
      | some v =>
        exfalso
        have h1 := (num_shape hn).1
        apply hp
        have e : (s.extract 0 4).toList = pfx.toList := by
          rw [Lib.toList_data, Lib.toList_data]
          have e2 : (s.extract 0 4).data.toList = s.data.toList.take 4 := by simp [ByteArray.data_extract]
          rw [e2, h1]
          rfl
        simp [e]
    have HN : Hid (numOf s = none) := hn
    clear hn hp
    go_enter Tryz.func52, Tryz.ntmps52
    go_wp2
    go_returns
    exact ⟨whr_none HN.out, ⟨rfl, rfl, rfl, Nat.le_refl _, fun _ _ => rfl⟩⟩
  have hs13 : s.size ≤ 13 := by omega
  go_enter Tryz.func52, Tryz.ntmps52
  go_wp2
  go_loop [7, 8] (fun n i => ∃ j : Nat, 4 ≤ j ∧ j ≤ s.size ∧ i = .int .i64 j ∧ n = .int .i64 (dv ((s.data.toList.drop 4).take (j - 4)) : Nat) ∧ dv ((s.data.toList.drop 4).take (j - 4)) < 10 ^ (j - 4)) (fun _ i => s.size - (intOf i).toNat)
  case atStart => exact ⟨4, Nat.le_refl _, by omega, rfl, rfl, by rw [Nat.sub_self, List.take_zero]; decide⟩
  case round =>
    obtain ⟨j, hj4, hj, rfl, rfl, hb⟩ := hrel
    by_cases hjs : j < s.size
    · have hji : (j : Int) < s.size := by omega
      by_cases hd : 48 ≤ s[j].toNat ∧ s[j].toNat ≤ 57
      · have hlt : dv ((s.data.toList.drop 4).take (j - 4)) < 1000000000 := Nat.lt_of_lt_of_le hb (by
          have : 10 ^ (j - 4) ≤ 10 ^ 9 := Nat.pow_le_pow_right (by omega) (by omega)
          exact this)
        have hnx : dv ((s.data.toList.drop 4).take (j + 1 - 4)) = dv ((s.data.toList.drop 4).take (j - 4)) * 10 + (s[j].toNat - 48) := by
          have e1 : j + 1 - 4 = (j - 4) + 1 := by omega
          have e2 : (s.data.toList.drop 4)[j - 4]? = some s[j] := by
            rw [List.getElem?_drop, show 4 + (j - 4) = j by omega, List.getElem?_eq_getElem (by simpa using hjs)]
            rfl
          rw [e1, List.take_add_one, e2]
          exact dv_snoc _ _
        have HX : Hid _ := hnx
        have HB : Hid _ := hb
        have hd1 : decide ((s[j].toNat : Int) < 48) = false := by simp; omega
        have hd2 : decide ((57 : Int) < (s[j].toNat : Int)) = false := by simp; omega
        clear hnx hb
        generalize dv ((s.data.toList.drop 4).take (j - 4)) = m at hlt HX HB ⊢
        go_wp2
        refine ⟨⟨j + 1, by omega, by omega, by go_num, ?_, ?_⟩, ?_⟩
        · rw [HX.out]
          congr 1
          omega
        · rw [HX.out]
          have h1 := HB.out
          have h2 : 10 ^ (j + 1 - 4) = 10 ^ (j - 4) * 10 := by rw [← Nat.pow_succ]; congr 1; omega
          rw [h2]
          omega
        · simp [intOf]
          omega
      · have HN : Hid (numOf s = none) := (by
          show numOf s = none
          cases hn : numOf s with
          | none => rfl
          | some v => exact absurd ((num_size hn).2.2 j hjs hj4) hd)
        clear hb
        go_wp2
        all_goals first
          | (go_returns
             exact ⟨whr_none HN.out, ⟨rfl, rfl, rfl, Nat.le_refl _, fun _ _ => rfl⟩⟩)
          | (exfalso; omega)
    · have hji : decide ((j : Int) < s.size) = false := by simp; omega
      obtain rfl : j = s.size := by omega
      have hlt : dv ((s.data.toList.drop 4).take (s.size - 4)) < 1000000000 := Nat.lt_of_lt_of_le hb (by
        have : 10 ^ (s.size - 4) ≤ 10 ^ 9 := Nat.pow_le_pow_right (by omega) (by omega)
        exact this)
      have ht : (s.data.toList.drop 4).take (s.size - 4) = s.data.toList.drop 4 := List.take_of_length_le (by simp)
      rw [ht] at hlt ⊢
      have HT : Hid (dv (s.data.toList.drop 4) < 1000000000) := hlt
      clear hb ht hlt
      obtain ⟨m, hm⟩ : ∃ m, dv (s.data.toList.drop 4) = m := ⟨_, rfl⟩
      rw [hm] at HT ⊢
      have HM : Hid _ := hm
      clear hm
      go_wp2_with (first
        | (go_at_call 28
           refine Calls.mono (rfile_any logB (by decide) _) ?_
           rintro e w1 ⟨rfl, hb1⟩
           have HB1 : Hid _ := hb1
           clear hb1))
      go_returns
      refine ⟨⟨m, (fileB logB m).toList == s.toList, rfl, fun hb => ?_, fun hb => ?_⟩, HB1.out⟩
      · have e : fileB logB m = s := by
          apply nm_eq.2
          rw [← Lib.toList_data, ← Lib.toList_data]
          simpa using hb
        have := numOf_file m (by omega) (by have := HT.out; omega)
        rw [e] at this
        exact this
      · cases hn : numOf s with
        | none => rfl
        | some v =>
          exfalso
          obtain ⟨h1, h2, h3⟩ := num_shape hn
          have h4 : s.data.toList.drop 4 = Lib.decDigits v.toNat := by rw [h1]; rfl
          have h5 := HM.out
          rw [h4, dv_dec] at h5
          have h6 : (m : Int) = v := by omega
          rw [h6, numOf_back hn] at hb
          simp at hb
end Go.Proofs.YtoplejbmgpgkhaaGreatDoor
