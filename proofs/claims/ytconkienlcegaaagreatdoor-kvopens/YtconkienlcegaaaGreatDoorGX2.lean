/- WT2, X0, X1, X2 -/
import Derived.Test.YtconkienlcegaaaGreatDoorGDI
import Derived.Lib.ItoaMem
import Derived.Test.YtconkienlcegaaaGreatDoorGWV4
import Derived.Test.YtconkienlcegaaaGreatDoorGWU0
import Derived.Deep.RegionLaw
namespace Go.Proofs.YtconkienlcegaaaGreatDoor
open Go.RowKit Go.Maps Go.Joins
set_option linter.unusedSimpArgs false
set_option linter.unusedVariables false
set_option maxHeartbeats 4000000 in
theorem digits_small (n : Nat) (hn : n < 10) (w : World) : Calls Tryz.prog 113 #[.int .i64 n] w fun e w' => e = .returned (.string ⟨(Lib.itoa n).toArray⟩) ∧ Below w.heap.size w w' := by
 have hcv := fun (w : World) (x : Int) => run_convert_bytes_arg (P := Tryz.prog) (w.alloc (.cells #[.int .u8 x] 5)) 23 5 Tryz.underlying23 Tryz.underlying5 w.heap.size 0 1 1 [x] rfl (fun i hi => by
  cases i with
  | zero => simp [cell_of_block (heap_alloc_new w (.cells #[.int .u8 x] 5))]
  | succ i => simp at hi) 9 Tryz.underlying9
 have d1 : (n : Int) < 10 := by omega
 have e1 : (48 + (n : Int)) % 256 = 48 + n := by omega
 go_enter Tryz.func113, Tryz.ntmps113
 go_wp2; go_ret
 refine ⟨?_, by go_grown⟩; have e : (48 + (n : Int)).toNat = 48 + n := by omega
 rw [Lib.itoa_nonneg, Lib.decDigits_one hn]; simp [strOfNums, e]
theorem dig_str (n : Nat) (h : ¬ n < 10) (m : Nat) (hm : m = n / 10) : (⟨(Lib.itoa (m : Int)).toArray⟩ : ByteArray) ++ strOfNums [48 + (n : Int) % 10] = ⟨(Lib.itoa (n : Int)).toArray⟩ := by
 rw [hm, Lib.itoa_nonneg, Lib.itoa_nonneg, Lib.decDigits.eq_1 n, dif_neg h]; have : strOfNums [48 + (n : Int) % 10] = ⟨#[UInt8.ofNat (48 + n % 10)]⟩ := by
  have e : (48 + (n : Int) % 10).toNat = 48 + n % 10 := by omega
  simp [strOfNums, e]
 rw [this]; apply ByteArray.ext; simp
theorem conv_at (w : World) (g : Nat) (x : Int) (hc : w.cell? ⟨g, 0, none⟩ = some (.int .u8 x)) : (convert 23 9 (.slice (some ⟨g, 0, none⟩) 1 1)).run Tryz.prog w = .ok (.string (strOfNums [x])) w :=
 run_convert_bytes_arg (P := Tryz.prog) w 23 5 Tryz.underlying23 Tryz.underlying5 g 0 1 1 [x] rfl (fun i hi => by
  cases i with
  | zero => simpa using hc
  | succ i => simp at hi) 9 Tryz.underlying9
set_option maxRecDepth 100000 in
set_option maxHeartbeats 8000000 in
theorem digits_any (n : Nat) (hn : n < 1000000000) (w : World) : Calls Tryz.prog 113 #[.int .i64 n] w fun e w' => e = .returned (.string ⟨(Lib.itoa n).toArray⟩) ∧ Below w.heap.size w w' := by
 by_cases h : n < 10
 · exact digits_small n h w
 obtain ⟨m, hm⟩ : ∃ m, m = n / 10 := ⟨_, rfl⟩
 have ih := fun w => digits_any m (by omega) w
 have d1 : decide ((n : Int) < 10) = false := by simp; omega
 have e1 : IntKind.i64.wrap ((n : Int) / 10) = (m : Int) := by rw [IntKind.wrap_i64]; omega
 have e3 : IntKind.u8.wrap (IntKind.i64.wrap (48 + (n : Int).tmod 10)) = 48 + (n : Int) % 10 := by
  rw [Int.tmod_eq_emod_of_nonneg (by omega), IntKind.wrap_i64, IntKind.wrap_u8]; omega
 have HS := dig_str n h m hm; have hil := Lib.itoa_length_le m (by omega) (by omega); have s1 : ¬ 9223372036854775807 < (⟨(Lib.itoa (m : Int)).toArray⟩ : ByteArray).size + (strOfNums [48 + (n : Int) % 10]).size := by rw [strOfNums_size]; simp [ByteArray.size]; omega
 have hcv := fun (w : World) => conv_at (w.alloc (.cells #[.int .u8 (48 + (n : Int) % 10)] 5)) w.heap.size (48 + (n : Int) % 10) (by rw [cell_of_block (heap_alloc_new w _)]; rfl)
 have hcd : (convert 23 9 (.slice (some ⟨w.heap.size, 0, none⟩) 1 1)).run Tryz.prog (w.drew.alloc (.cells #[.int .u8 (48 + (n : Int) % 10)] 5)) = .ok (.string (strOfNums [48 + (n : Int) % 10])) (w.drew.alloc (.cells #[.int .u8 (48 + (n : Int) % 10)] 5)) := hcv w.drew; have hce : (convert 23 9 (.slice (some ⟨w.heap.size, 0, none⟩) 1 1)).run Tryz.prog ((w.alloc (.cells #[.int .u8 (48 + (n : Int) % 10)] 5)).drew) = .ok (.string (strOfNums [48 + (n : Int) % 10])) ((w.alloc (.cells #[.int .u8 (48 + (n : Int) % 10)] 5)).drew) := conv_at (w.alloc (.cells #[.int .u8 (48 + (n : Int) % 10)] 5)).drew w.heap.size _ (World.cell?_alloc_mark w #[.int .u8 (48 + (n : Int) % 10)] 5 (0, 0) 0); have HC : Hid (∀ (w : World) (g : Nat), w.cell? ⟨g, 0, none⟩ = some (.int .u8 (48 + (n : Int) % 10)) → (convert 23 9 (.slice (some ⟨g, 0, none⟩) 1 1)).run Tryz.prog w = .ok (.string (strOfNums [48 + (n : Int) % 10])) w) := fun w g h => conv_at w g _ h
 generalize strOfNums [48 + (n : Int) % 10] = sd at *; generalize (⟨(Lib.itoa (m : Int)).toArray⟩ : ByteArray) = sm at *; have E1 : Hid _ := e1; have e2 : (n : Int) / 10 = (m : Int) := by omega
 have E2 : Hid _ := e2; clear e1 e2; have IH : Hid _ := ih; have HSS : Hid _ := HS; clear ih HS; go_enter Tryz.func113, Tryz.ntmps113; go_wp2; go_region_with (first
  | (go_at_call 113
     first | rw [E1.out] | rw [E2.out]
     refine Calls.mono (IH.out _) ?_; rintro e w1 ⟨rfl, hb1⟩; try have hc2 := HC.out w1 w.heap.size ((hb1.cell (p := ⟨w.heap.size, 0, none⟩) (by show w.heap.size < (w.alloc _).heap.size; simp)).trans (World.cell?_alloc_mark w #[.int .u8 (48 + (n : Int) % 10)] 5 (0, 0) 0))))
 all_goals go_wp2
 all_goals go_ret
 all_goals refine ⟨by rw [← HSS.out]; rfl, ?_⟩
 all_goals first
  | exact (show Below w.heap.size w w1 from ⟨hb1.os, hb1.tape, hb1.output, hb1.size, hb1.block⟩).alloc hb1.size _
  | exact ((((Below.refl w.heap.size w).alloc (Nat.le_refl _) _).drew).trans (hb1.mono (by show w.heap.size ≤ (w.alloc _).heap.size; simp)))
  | exact ((((Below.refl w.heap.size w).drew).alloc (Nat.le_refl _) _).trans (hb1.mono (by show w.heap.size ≤ (w.alloc _).heap.size; simp)))
set_option maxHeartbeats 1000000 in
theorem rfile_any {w : World} (nm : ByteArray) (hnm : nm.size ≤ 4611686018427387904) (n : Int) : Calls Tryz.prog 80 #[.string nm, .int .i64 n] w fun e w' => e = .returned (.string (fileB nm n)) ∧ Below w.heap.size w w' := by
 by_cases h0 : n < 0
 · have hf : fileB nm n = ByteArray.empty := if_pos (Or.inl h0)
   have HF : Hid _ := hf; clear hf; go_enter Tryz.func80, Tryz.ntmps80; go_wp2; go_ret; rw [HF.out]; exact ⟨rfl, Below.refl _ _⟩
 by_cases h1 : 1000000000 ≤ n
 · have hf : fileB nm n = ByteArray.empty := if_pos (Or.inr h1)
   have HF : Hid _ := hf; clear hf; go_enter Tryz.func80, Tryz.ntmps80; go_wp2; go_ret; rw [HF.out]; exact ⟨rfl, Below.refl _ _⟩
 have hf : fileB nm n = nm ++ ⟨#[46]⟩ ++ ⟨(Lib.itoa n).toArray⟩ := if_neg (by omega); have hil := Lib.itoa_length_le n (by omega) (by omega); have s1 : ¬ 9223372036854775807 < nm.size + 1 := by omega
 have s2 : ¬ 9223372036854775807 < nm.size + 1 + (Lib.itoa n).length := by omega
 have hd := digits_any n.toNat (by omega) w; rw [show ((n.toNat : Nat) : Int) = n by omega] at hd; have HF : Hid _ := hf; have HD : Hid _ := hd; clear hf hd; go_enter Tryz.func80, Tryz.ntmps80; go_wp2_with (first
  | (go_at_call 113
     refine Calls.mono HD.out ?_; rintro e w1 ⟨rfl, hb1⟩; have HB : Hid _ := hb1; clear hb1))
 go_ret; rw [HF.out]
 exact ⟨rfl, HB.out⟩
end Go.Proofs.YtconkienlcegaaaGreatDoor
namespace Go.Proofs.YtconkienlcegaaaGreatDoor
open Go.RowKit Go.Maps Go.Joins Go.Sort
set_option linter.unusedVariables false
set_option linter.unusedSimpArgs false
def dv (l : List UInt8) : Nat := l.foldl (fun n c => n * 10 + (c.toNat - 48)) 0
theorem dv_snoc (l : List UInt8) (c : UInt8) : dv (l ++ [c]) = dv l * 10 + (c.toNat - 48) := by simp [dv]
theorem dv_dec (u : Nat) : dv (Lib.decDigits u) = u := by
 induction u using Nat.strongRecOn with
 | ind u ih =>
   rw [Lib.decDigits]; split
   · rename_i h
     have := dig_nat u h; show 0 * 10 + ((UInt8.ofNat (48 + u)).toNat - 48) = u; omega
   · have := dig_nat (u % 10) (by omega)
     rw [dv_snoc, ih (u / 10) (by omega), this]; omega
theorem dec_all (u : Nat) : ∀ c ∈ Lib.decDigits u, 48 ≤ c.toNat ∧ c.toNat ≤ 57 := by
 induction u using Nat.strongRecOn with
 | ind u ih =>
   rw [Lib.decDigits]; split
   · rename_i h
     intro c hc; have e : c = UInt8.ofNat (48 + u) := by simpa using hc
     rw [e, dig_nat u h]; omega
   · intro c hc
     rcases List.mem_append.1 hc with h1 | h1
     · exact ih (u / 10) (by omega) c h1
     · have e : c = UInt8.ofNat (48 + u % 10) := by simpa using h1
       rw [e, dig_nat (u % 10) (by omega)]; omega
theorem dec_len : ∀ (k u : Nat), u < 10 ^ (k + 1) → 1 ≤ (Lib.decDigits u).length ∧ (Lib.decDigits u).length ≤ k + 1
 | 0, u, h => by
   rw [Lib.decDigits, dif_pos (by simpa using h)]; simp
 | k + 1, u, h => by
   rw [Lib.decDigits]; split
   · simp
   · have := dec_len k (u / 10) (by rw [Nat.pow_succ] at h; omega)
     rw [List.length_append]; simp; omega
theorem num_shape {s : ByteArray} {v : Int} (h : numOf s = some v) : s.data.toList = pfx.data.toList ++ Lib.decDigits v.toNat ∧ 0 ≤ v ∧ v < 1000000000 := by
 obtain ⟨h0, h1⟩ := numOf_bd h; refine ⟨?_, h0, h1⟩; rw [← numOf_back h, file_list v h0 h1]; congr 1; exact if_neg (by omega)
theorem num_size {s : ByteArray} {v : Int} (h : numOf s = some v) : 3 < s.size ∧ s.size ≤ 12 ∧ ∀ i (hi : i < s.size), 3 ≤ i → 48 ≤ s[i].toNat ∧ s[i].toNat ≤ 57 := by
 obtain ⟨h1, h2, h3⟩ := num_shape h; obtain ⟨h4, h5⟩ := dec_len 8 v.toNat (by omega); have hl : s.size = 3 + (Lib.decDigits v.toNat).length := by
  have := congrArg List.length h1; rw [List.length_append] at this; have e : pfx.data.toList.length = 3 := rfl; rw [e] at this
  simpa using this
 refine ⟨by omega, by omega, fun i hi h4i => ?_⟩; have e : s.data.toList[i]? = some s[i] := by
  rw [List.getElem?_eq_getElem (by simpa using hi)]; rfl
 rw [h1, List.getElem?_append_right (by show 3 ≤ i; exact h4i)] at e; exact dec_all v.toNat _ (List.mem_of_getElem? e)
def WhR (s : ByteArray) (e : Ending) : Prop := ∃ n b, e = .returned (.tuple #[.int .i64 n, .bool b]) ∧ (b = true → numOf s = some n) ∧ (b = false → numOf s = none)
theorem whr_none {s : ByteArray} (h : numOf s = none) : WhR s (.returned (.tuple #[.int .i64 0, .bool false])) := ⟨0, false, rfl, fun h => (by cases h), fun _ => h⟩
set_option maxRecDepth 100000 in
set_option maxHeartbeats 4000000 in
theorem which_any {w : World} (s : ByteArray) (hs : s.size ≤ 1000) : Calls Tryz.prog 78 #[.string logB, .string s] w fun e w' => WhR s e ∧ Below w.heap.size w w' := by
 have hls : logB.size = 2 := rfl; have hpf : logB ++ ⟨#[46]⟩ = pfx := rfl; have s1 : ¬ 9223372036854775807 < logB.size + 1 := by decide
 by_cases h5 : s.size ≤ 3
 · have hn : numOf s = none := by
    cases hn : numOf s with
    | none => rfl
    | some v => have := (num_size hn).1; omega
   have HN : Hid (numOf s = none) := hn; have d1 : decide ((s.size : Int) ≤ 3) = true := by simp; omega
   clear hn; go_enter Tryz.func78, Tryz.ntmps78; go_wp2; go_returns; exact ⟨whr_none HN.out, ⟨rfl, rfl, rfl, Nat.le_refl _, fun _ _ => rfl⟩⟩
 have d1 : decide ((s.size : Int) ≤ 3) = false := by simp; omega
 by_cases h13 : 12 < s.size
 · have hn : numOf s = none := by
    cases hn : numOf s with
    | none => rfl
    | some v => have := (num_size hn).2.1; omega
   have HN : Hid (numOf s = none) := hn; have d2 : decide ((12 : Int) < s.size) = true := by simp; omega
   clear hn; go_enter Tryz.func78, Tryz.ntmps78; go_wp2; go_returns; exact ⟨whr_none HN.out, ⟨rfl, rfl, rfl, Nat.le_refl _, fun _ _ => rfl⟩⟩
 have d2 : decide ((12 : Int) < s.size) = false := by simp; omega
 by_cases hp : (s.extract 0 3).toList == pfx.toList
 rotate_left
 · have hp' : ((s.extract 0 3).toList == pfx.toList) = false := by simpa using hp
   have hn : numOf s = none := by
    cases hn : numOf s with
    | none => rfl
    | some v =>
      exfalso
      have h1 := (num_shape hn).1; apply hp; have e : (s.extract 0 3).toList = pfx.toList := by
       rw [Lib.toList_data, Lib.toList_data]; have e2 : (s.extract 0 3).data.toList = s.data.toList.take 3 := by simp [ByteArray.data_extract]
       rw [e2, h1]; rfl
      simp [e]
   have HN : Hid (numOf s = none) := hn; clear hn hp; go_enter Tryz.func78, Tryz.ntmps78; go_wp2; go_returns; exact ⟨whr_none HN.out, ⟨rfl, rfl, rfl, Nat.le_refl _, fun _ _ => rfl⟩⟩
 have hs13 : s.size ≤ 12 := by omega
 go_enter Tryz.func78, Tryz.ntmps78
 go_wp2; go_loop [7, 8] (fun n i => ∃ j : Nat, 3 ≤ j ∧ j ≤ s.size ∧ i = .int .i64 j ∧ n = .int .i64 (dv ((s.data.toList.drop 3).take (j - 3)) : Nat) ∧ dv ((s.data.toList.drop 3).take (j - 3)) < 10 ^ (j - 3)) (fun _ i => s.size - (intOf i).toNat)
 case atStart => exact ⟨3, Nat.le_refl _, by omega, rfl, rfl, by rw [Nat.sub_self, List.take_zero]; decide⟩
 case round =>
  obtain ⟨j, hj4, hj, rfl, rfl, hb⟩ := hrel; by_cases hjs : j < s.size
  · have hji : (j : Int) < s.size := by omega
    by_cases hd : 48 ≤ s[j].toNat ∧ s[j].toNat ≤ 57
    · have hlt : dv ((s.data.toList.drop 3).take (j - 3)) < 1000000000 := Nat.lt_of_lt_of_le hb (by
       have : 10 ^ (j - 3) ≤ 10 ^ 9 := Nat.pow_le_pow_right (by omega) (by omega); exact this)
      have hnx : dv ((s.data.toList.drop 3).take (j + 1 - 3)) = dv ((s.data.toList.drop 3).take (j - 3)) * 10 + (s[j].toNat - 48) := by
       have e1 : j + 1 - 3 = (j - 3) + 1 := by omega
       have e2 : (s.data.toList.drop 3)[j - 3]? = some s[j] := by
        rw [List.getElem?_drop, show 3 + (j - 3) = j by omega, List.getElem?_eq_getElem (by simpa using hjs)]; rfl
       rw [e1, List.take_add_one, e2]; exact dv_snoc _ _
      have HX : Hid _ := hnx; have HB : Hid _ := hb; have hd1 : decide ((s[j].toNat : Int) < 48) = false := by simp; omega
      have hd2 : decide ((57 : Int) < (s[j].toNat : Int)) = false := by simp; omega
      clear hnx hb; generalize dv ((s.data.toList.drop 3).take (j - 3)) = m at hlt HX HB ⊢; go_wp2; refine ⟨⟨j + 1, by omega, by omega, by go_num, ?_, ?_⟩, ?_⟩
      · rw [HX.out]
        congr 1
        omega
      · rw [HX.out]
        have h1 := HB.out; have h2 : 10 ^ (j + 1 - 3) = 10 ^ (j - 3) * 10 := by rw [← Nat.pow_succ]; congr 1; omega
        rw [h2]; omega
      · simp [intOf]
        omega
    · have HN : Hid (numOf s = none) := (by
       show numOf s = none; cases hn : numOf s with
       | none => rfl
       | some v => exact absurd ((num_size hn).2.2 j hjs hj4) hd)
      clear hb; go_wp2
      all_goals first
       | (go_returns
          exact ⟨whr_none HN.out, ⟨rfl, rfl, rfl, Nat.le_refl _, fun _ _ => rfl⟩⟩)
       | (exfalso; omega)
  · have hji : decide ((j : Int) < s.size) = false := by simp; omega
    obtain rfl : j = s.size := by omega
    have hlt : dv ((s.data.toList.drop 3).take (s.size - 3)) < 1000000000 := Nat.lt_of_lt_of_le hb (by
     have : 10 ^ (s.size - 3) ≤ 10 ^ 9 := Nat.pow_le_pow_right (by omega) (by omega); exact this)
    have ht : (s.data.toList.drop 3).take (s.size - 3) = s.data.toList.drop 3 := List.take_of_length_le (by simp); rw [ht] at hlt ⊢; have HT : Hid (dv (s.data.toList.drop 3) < 1000000000) := hlt; clear hb ht hlt; obtain ⟨m, hm⟩ : ∃ m, dv (s.data.toList.drop 3) = m := ⟨_, rfl⟩
    rw [hm] at HT ⊢; have HM : Hid _ := hm; clear hm; go_wp2_with (first
     | (go_at_call 80
        refine Calls.mono (rfile_any logB (by decide) _) ?_; rintro e w1 ⟨rfl, hb1⟩; have HB1 : Hid _ := hb1; clear hb1))
    go_returns
    refine ⟨⟨m, (fileB logB m).toList == s.toList, rfl, fun hb => ?_, fun hb => ?_⟩, HB1.out⟩
    · have e : fileB logB m = s := by
       apply nm_eq.2
       rw [← Lib.toList_data, ← Lib.toList_data]
       simpa using hb
      have := numOf_file m (by omega) (by have := HT.out; omega); rw [e] at this; exact this
    · cases hn : numOf s with
      | none => rfl
      | some v =>
        exfalso
        obtain ⟨h1, h2, h3⟩ := num_shape hn; have h4 : s.data.toList.drop 3 = Lib.decDigits v.toNat := by rw [h1]; rfl
        have h5 := HM.out; rw [h4, dv_dec] at h5; have h6 : (m : Int) = v := by omega
        rw [h6, numOf_back hn] at hb; simp at hb
def absQ (R : RS) : DA := ⟨absR R.A, R.down, R.n, R.frm, fun x => pK R.plan x, R.room⟩
theorem rstE_abs (R : RS) (s : ByteArray) : rstE R s s = (absQ R).sE s := by
 unfold rstE DA.sE; rw [Bool.and_self]; rfl
theorem rstS_abs (R : RS) (s : ByteArray) : (rstS R s s).down = ((absQ R).sS s).down ∧ (rstS R s s).n = ((absQ R).sS s).steps := by
 unfold rstS DA.sS; rw [Bool.and_self]; show _ = (if R.down = true then absQ R else if nameB s = true then { absQ R with down := decide ((absQ R).k = 3), steps := R.n + 1 } else absQ R).down ∧ _ = (if R.down = true then absQ R else if nameB s = true then { absQ R with down := decide ((absQ R).k = 3), steps := R.n + 1 } else absQ R).steps; split
 · exact ⟨rfl, rfl⟩
 · split
   · exact ⟨rfl, rfl⟩
   · exact ⟨rfl, rfl⟩
theorem hs_abs {R R' : RS} {s : ByteArray} {e : Int} {l' : List Tf} (h : HS R R' (rstS R s s).down (rstS R s s).n (gL (rstE R s s) (absR R.A) l')) : absQ R' = (dDo (absQ R) s e l').2 := by
 obtain ⟨a1, a2⟩ := rstS_abs R s; obtain ⟨b1, b2, b3⟩ := sS_rest (absQ R) s; have e1 : (dDo (absQ R) s e l').2 = ⟨if (absQ R).sE s = 0 then l' else absR R.A, ((absQ R).sS s).down, ((absQ R).sS s).steps, ((absQ R).sS s).armed, ((absQ R).sS s).plan, ((absQ R).sS s).room⟩ := rfl; have e2 : absQ R' = ⟨absR R'.A, R'.down, R'.n, R'.frm, fun x => pK R'.plan x, R'.room⟩ := rfl; rw [e1, e2, h.abs, h.down, h.n, h.frm, h.plan, h.room, a1, a2, b1, b2, b3]; unfold gL; rw [rstE_abs]; rfl
theorem hI_abs (R : RS) (s : ByteArray) (e : Int) (l' : List Tf) : gI (rstE R s s) e = (dDo (absQ R) s e l').1 := by
 unfold gI; rw [rstE_abs]; rfl
theorem srt_set {l : List Tf} (h : Srt l) (n : List UInt8) (b : List Int) (s : Int) : Srt (setT l n b s) := by
 unfold Srt setT at *; rw [List.pairwise_map]; refine h.imp fun {p q} hpq => ?_
 have e : ∀ p : Tf, (if p.1 = n then (n, b, s) else p).1 = p.1 := fun p => by
  split
  · rename_i e
    exact e.symm
  · rfl
 rw [e, e]; exact hpq
theorem srt_tru {l : List Tf} (h : Srt l) (s : ByteArray) (x : Int) : Srt (lTru l s x) := by
 unfold lTru; split
 · split
   · split
     · exact h
     · exact srt_set h _ _ _
   · exact h
 · exact h
theorem HB.next {R R' : RS} {ro : Int} {s : ByteArray} {e : Int} {l' : List Tf} (h : HB R ro) (hG : HS R R' (rstS R s s).down (rstS R s s).n (gL (rstE R s s) (absR R.A) l')) (hw : Wf l' ro) (hs : Srt l') (hst : R.n < 4611686018427387903) : HB R' ro := by
 have h1 := hs_abs (e := e) hG; have h2 := dDo_steps (absQ R) s e l'; have h3 : R'.n = (dDo (absQ R) s e l').2.steps := congrArg DA.steps h1; have h4 : (absQ R).steps = R.n := rfl; have hc := h.cnt; unfold Rn at hc; refine ⟨⟨by rw [hG.plan]; exact h.planR.len, by rw [hG.plan]; exact h.planR.kind, fun hne => ?_⟩, ?_, hG.room.trans h.rm, h.r0, ?_, ?_⟩
 · have := h.planR.frm (by rw [← hG.plan]; exact hne)
   rw [hG.frm]; omega
 · unfold Rn
   omega
 · rw [hG.abs]
   unfold gL; split
   · exact hw
   · exact h.wf
 · rw [hG.abs]
   unfold gL; split
   · exact hs
   · exact h.srt
theorem h_read2 {w : World} {br : Nat} {R : RS} {ro : Int} (h : RefIs w br R) (hb : HB R ro) (s : ByteArray) (hs : s.size ≤ 9223372036854775807) :
 Calls Tryz.prog 79 #[.pointer (some ⟨br, 0, none⟩), .string s] w fun e w' => ∃ v bs, e = .returned (.tuple #[v, .int .i64 (gI (rstE R s s) (eFind (absR R.A) s))]) ∧ w'.ownsRow w.heap.size 5 1 v bs.length (vB bs) ∧ bs = (if rstE R s s = 0 then (match fT (absR R.A) (nb s) with | some p => p.2.1 | none => []) else []) ∧ ∃ R', RefIs w' br R' ∧ RFr w w' R R' ∧ HS R R' (rstS R s s).down (rstS R s s).n (absR R.A) ∧ ∀ b, v.ownBlock = some b → R'.own b = 0 := by
 have hl := hb.len; by_cases h1 : rstE R s s = 0
 case neg =>
  rw [gI1 h1]; refine (rread_no h hb.planR hb.cnt (by omega) s hs (by rw [rthn h1]; exact h1)).mono ?_; rintro e w' ⟨rfl, hD, hF⟩; exact ⟨_, [], by rw [rthn h1], World.ownsRow_nil _ _ _ _, by rw [if_neg h1], _, hD, hF, HS.st R _ _, fun b hb => by cases hb⟩
 case pos =>
  have hnn := rs_name h1; have hn : nameB s = true := by rw [← nn]; exact hnn
  have h2 := rs_zero h1; rw [gI0 h1, h2]; rcases idx_cases s R.A with hi | ⟨k, f, hi, hkf⟩
  · refine (rread_no h hb.planR hb.cnt (by omega) s hs (by rw [rthg h1 hi]; simp)).mono ?_
    rintro e w' ⟨rfl, hD, hF⟩; rw [h2] at hD hF; exact ⟨_, [], by rw [rthg h1 hi]; simp [eFind, hn, fT_absR_none hi], World.ownsRow_nil _ _ _ _, by rw [if_pos h1, fT_absR_none hi], _, hD, hF, HS.up R, fun b hb => by cases hb⟩
  · obtain ⟨hf1, hf2⟩ := fT_absR_some hi hkf
    have hle : f.bs.length ≤ 1073741824 := by
     have h3 := (del_here (p := tR f) rfl (fT_mem hf1).1).2; have h4 := hb.wf.sum; have h5 := hb.r0; simp only [tR] at h3; omega
    refine (rread_ok h hb.planR hb.cnt (by omega) s hs (rthh h1 hi) hi hkf hle).mono ?_; rintro e w' ⟨v', rfl, ho, hD, hF⟩; rw [h2] at hD hF; refine ⟨v', f.bs, by simp [eFind, hn, hf1], ho, by rw [if_pos h1, hf1]; rfl, _, hD, hF, HS.up R, fun b hb' => ?_⟩; exact h.fresh b (ho.lt b hb').1
def IsV (w : World) (u : Value) (m : List Int) : Prop := (u = .slice none 0 0 ∧ m = []) ∨ ∃ ad cap, u = .slice (some ad) m.length cap ∧ ∀ j x, (vI m)[j]? = some x → w.cell? (ad.add j) = some x
theorem vI_one (m : List Int) : ∀ u ∈ vI m, u.oneCell' = true := fun u hu => by
 unfold vI at hu; obtain ⟨x, _, rfl⟩ := List.mem_map.1 hu; rfl
theorem run_append_i {w : World} (ty : TypeId) {base : Nat} {v u : Value} {l m : List Int} (hown : w.ownsRow base 3 1 v l.length (vI l)) (hn : IsV w u m) (hb : l.length + m.length ≤ 1000000) (hbase : base ≤ w.heap.size) :
 ∃ v' w', (Builtin.append_ #[38, 38] ty #[v, u]).run Tryz.prog w = .ok v' w' ∧ w'.ownsRow base 3 1 v' (l ++ m).length (vI (l ++ m)) ∧ w.grownBy w' v.ownBlock ∧ (v'.ownBlock = v.ownBlock ∨ v'.ownBlock = some w.heap.size) := by
 obtain ⟨i0, hi, hz0, hz1, hz2⟩ := info3c; rcases hn with ⟨rfl, rfl⟩ | ⟨ad, cap, rfl, hc⟩
 · have hrun := run_append_owned_none (P := Tryz.prog) (w := w) base 38 ty 3 i0 1 Tryz.underlying38 hi v l.length (vI l) hown
   exact ⟨v, w, hrun, by simpa using hown, World.grownBy.refl _ _, Or.inl rfl⟩
 · obtain ⟨v', w', hr, h2, h3, h4, h5⟩ := run_append_own_at (P := Tryz.prog) w base 38 ty 3 i0 (.int .i64 0) 1 8 Tryz.underlying38 hi hz0 hz1 hz2 rfl (by decide) v l.length (vI l) hown ad m.length cap (vI m) (by rw [vI_length, Nat.mul_one]) hc (vI_one m) (by unfold maxLen; omega) (by omega) hbase
   exact ⟨v', w', hr, by rw [List.length_append, vI_append]; exact h2, h3, h5⟩
theorem step_append_i {w : World} {ops : Array Oper} {o : Oper} {a : Act} {K : Act → World → Prop} {Q : Exit → Act → World → Prop} {E : Prop} (hgd : o.guard = none) (s x : Operand)
 (ho : o.op = .call { callee := .builtin .append, args := #[s, x], argTypes := #[38, 38] }) {base : Nat} {v u : Value} {l m : List Int} (hs : a.eval s = v) (hown : w.ownsRow base 3 1 v l.length (vI l)) (hx : a.eval x = u) (hn : IsV w u m) (hb : l.length + m.length ≤ 1000000) (hbase : base ≤ w.heap.size)
 (h : ∀ v' w', w'.ownsRow base 3 1 v' (l ++ m).length (vI (l ++ m)) → w.grownBy w' v.ownBlock → (v'.ownBlock = v.ownBlock ∨ v'.ownBlock = some w.heap.size) → K (a.put o.dst v') w') :
 if Region.wanted o (yielded ops a.tmps) = true then Oper.wp Tryz.prog o a w K Q else E := by
 have hw : Region.wanted o (yielded ops a.tmps) = true := by simp [Region.wanted, hgd]
 rw [if_pos hw]; obtain ⟨v', w', hr, h2, h3, h5⟩ := run_append_i o.type hown hn hb hbase; unfold Oper.wp execOp; simp only [ho, resolve, invoke, builtin, Sem.run_bind, Sem.run_pure, Result.andThen_ok, List.map_toArray, List.map_cons, List.map_nil, hs, hx, hr]; exact h v' w' h2 h3 h5
end Go.Proofs.YtconkienlcegaaaGreatDoor
