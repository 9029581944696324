/- WD, WT2, WT0, WT1, laid into one text. -/
import Derived.Test.YtoplejbmgpgkhaaGreatDoorM3
import Derived.Test.YtoplejbmgpgkhaaGreatDoorShelf
import Derived.Lib.SmallJoins
import Derived.Lib.ItoaLen
import Derived.Lib.ItoaMem
/- wal: the variables; File, Name. -/
namespace Go.Proofs.YtoplejbmgpgkhaaGreatDoor
open Go.RowKit Go.Maps Go.Joins
set_option linter.unusedSimpArgs false
set_option linter.unusedVariables false
theorem gPow : Tryz.prog.globalNamed "internal/strconv.uint64pow10" = some 3 := by kernel_rfl
theorem gSyn : Tryz.prog.globalNamed "strconv.ErrSyntax" = some 1 := by kernel_rfl
theorem gRan : Tryz.prog.globalNamed "strconv.ErrRange" = some 2 := by kernel_rfl
theorem var_keep {w w' : World} {n : String} {g : Nat} {cs : Array Value} (hg : Tryz.prog.globalNamed n = some g) (h : w.var? Tryz.prog n = some cs) (hk : w'.heap[g]? = w.heap[g]?) : w'.var? Tryz.prog n = some cs := by
  unfold World.var? at h ⊢
  rw [hg] at h ⊢
  simp only [Option.bind_some] at h ⊢
  rw [hk]
  exact h
theorem var_lt {w : World} {n : String} {g : Nat} {cs : Array Value} (hg : Tryz.prog.globalNamed n = some g) (h : w.var? Tryz.prog n = some cs) : g < w.heap.size := by
  unfold World.var? at h
  rw [hg] at h
  simp only [Option.bind_some] at h
  rcases Nat.lt_or_ge g w.heap.size with h' | h'
  · exact h'
  · rw [Array.getElem?_eq_none h'] at h
    cases h
/-- The package's variables, as they are laid. -/
structure Vars (w : World) : Prop where
  half : Half w
  tab : Lib.TabIs Tryz.prog w "internal/strconv.uint64pow10" .u64 Lib.pow10Tab
  syn : ∃ tp p, w.var? Tryz.prog "strconv.ErrSyntax" = some #[.iface tp p]
  ran : ∃ tp p, w.var? Tryz.prog "strconv.ErrRange" = some #[.iface tp p]
theorem Vars.lt {w : World} (h : Vars w) : 3 < w.heap.size := var_lt gPow h.tab
theorem Vars.kept {w w' : World} (h : Vars w) (hk : ∀ b, b < 4 → w'.heap[b]? = w.heap[b]?) : Vars w' := by
  obtain ⟨t1, p1, h1⟩ := h.syn
  obtain ⟨t2, p2, h2⟩ := h.ran
  exact ⟨h.half.kept (hk 0 (by omega)), var_keep gPow h.tab (hk 3 (by omega)), ⟨t1, p1, var_keep gSyn h1 (hk 1 (by omega))⟩, ⟨t2, p2, var_keep gRan h2 (hk 2 (by omega))⟩⟩
theorem Vars.below {w w' : World} (h : Vars w) (hb : Below w.heap.size w w') : Vars w' := h.kept (fun b hb' => hb.block b (by have := h.lt; omega))
theorem grow_below (w : World) (k : Nat) (os : Array Obj) : Below w.heap.size w (Sort.grow (w.drewN k) os) :=
  ⟨rfl, rfl, rfl, by simp [Sort.grow], fun b hb => by
    show (w.heap ++ os)[b]? = _
    rw [Array.getElem?_append_left hb]⟩
/-- A file's name. -/
def fileB (nm : ByteArray) (n : Int) : ByteArray := if n < 0 ∨ 1000000000 ≤ n then ByteArray.empty else nm ++ ⟨#[46]⟩ ++ ⟨(Lib.itoa n).toArray⟩
set_option maxHeartbeats 1000000 in
/-- File -/
theorem file_any {w : World} (hV : Vars w) (nm : ByteArray) (hnm : nm.size ≤ 4611686018427387904) (n : Int) : Calls Tryz.prog 44 #[.string nm, .int .i64 n] w fun e w' => e = .returned (.string (fileB nm n)) ∧ Below w.heap.size w w' := by
  have HV : Hid (Vars w) := hV
  clear hV
  by_cases h0 : n < 0
  · have hf : fileB nm n = ByteArray.empty := if_pos (Or.inl h0)
    have HF : Hid _ := hf
    clear hf
    go_enter Tryz.func44, Tryz.ntmps44
    go_wp2
    go_ret
    rw [HF.out]
    exact ⟨rfl, Below.refl _ _⟩
  by_cases h1 : 1000000000 ≤ n
  · have hf : fileB nm n = ByteArray.empty := if_pos (Or.inr h1)
    have HF : Hid _ := hf
    clear hf
    go_enter Tryz.func44, Tryz.ntmps44
    go_wp2
    go_ret
    rw [HF.out]
    exact ⟨rfl, Below.refl _ _⟩
  have hf : fileB nm n = nm ++ ⟨#[46]⟩ ++ ⟨(Lib.itoa n).toArray⟩ := if_neg (by omega)
  have hil := Lib.itoa_length_le n (by omega) (by omega)
  have s1 : ¬ 9223372036854775807 < nm.size + 1 := by omega
  have s2 : ¬ 9223372036854775807 < nm.size + 1 + (Lib.itoa n).length := by omega
  have HF : Hid _ := hf
  clear hf
  go_enter Tryz.func44, Tryz.ntmps44
  go_wp2_with (first
    | (go_at_call 75
       refine Calls.mono (Tryz.strconv_Itoa n (by omega) (by omega) _ HV.out.tab) ?_
       rintro e w1 ⟨rfl, k, os, rfl⟩))
  go_ret
  rw [HF.out]
  exact ⟨rfl, grow_below _ _ _⟩
/-- A letter or a digit. -/
def ldB (c : UInt8) : Bool := (decide (97 ≤ c.toNat) && decide (c.toNat ≤ 122)) || (decide (65 ≤ c.toNat) && decide (c.toNat ≤ 90)) || (decide (48 ≤ c.toNat) && decide (c.toNat ≤ 57))
set_option maxHeartbeats 2000000 in
theorem ld_any (c : UInt8) (w : World) : Calls Tryz.prog 74 #[.int .u8 (c.toNat : Int)] w fun e w' => e = .returned (.bool (ldB c)) ∧ w' = w := by
  go_enter Tryz.func74, Tryz.ntmps74
  go_wp2
  all_goals go_ret
  all_goals refine ⟨?_, rfl⟩
  all_goals (refine congrArg Ending.returned (congrArg Value.bool ?_); rw [Bool.eq_iff_iff]; simp [ldB]; try omega)
/-- A name that a log may have. -/
def wnameB (s : ByteArray) : Bool := decide (1 ≤ s.size) && decide (s.size ≤ 16) && s.data.toList.all ldB
theorem allLd_succ {s : ByteArray} {k : Nat} (hk : k < s.size) : (s.data.toList.take (k + 1)).all ldB = ((s.data.toList.take k).all ldB && ldB s[k]) := by
  have hk' : k < s.data.toList.length := by simpa using hk
  rw [List.take_add_one, List.getElem?_eq_getElem hk', List.all_append]
  simp
  rfl
theorem wnameB_of {s : ByteArray} (h1 : 1 ≤ s.size) (h2 : s.size ≤ 16) : wnameB s = s.data.toList.all ldB := by
  simp [wnameB, h1, h2]
theorem wnameB_false {s : ByteArray} {k : Nat} (hk : k < s.size) (h : ldB s[k] = false) : wnameB s = false := by
  have : s.data.toList.all ldB = false := by
    rw [List.all_eq_false]
    refine ⟨s[k], ?_, by simp [h]⟩
    have hk' : k < s.data.toList.length := by simpa using hk
    exact List.getElem_mem hk'
  simp [wnameB, this]
set_option maxHeartbeats 1000000 in
/-- Name -/
theorem wname_any (s : ByteArray) (hs : s.size ≤ 9223372036854775807) (w : World) :
    Calls Tryz.prog 42 #[.string s] w fun e w' => e = .returned (.bool (wnameB s)) ∧ w' = w := by
  by_cases h1 : 1 ≤ s.size ∧ s.size ≤ 16
  · obtain ⟨h1, h2⟩ := h1
    have d1 : decide ((s.size : Int) < 1) = false := by simp; omega
    have d2 : decide ((16 : Int) < s.size) = false := by simp; omega
    go_enter Tryz.func42, Tryz.ntmps42
    go_wp2
    go_loop [14] (fun i => ∃ k : Nat, k ≤ s.size ∧ i = .int .i64 k ∧ (s.data.toList.take k).all ldB = true) (fun i => s.size - (intOf i).toNat)
    case atStart => exact ⟨0, Nat.zero_le _, rfl, rfl⟩
    case round =>
      obtain ⟨k, hk, rfl, hall⟩ := hrel
      by_cases hks : k < s.size
      · have hki : (k : Int) < s.size := by omega
        cases hb : ldB s[k] with
        | false =>
          go_wp2_with (first
            | (go_at_call 74
               refine (ld_any s[k] _).mono ?_
               rintro e w' ⟨rfl, rfl⟩
               rw [hb]))
          go_ret
          exact ⟨by rw [wnameB_false hks hb]; rfl, rfl⟩
        | true =>
          go_wp2_with (first
            | (go_at_call 74
               refine (ld_any s[k] _).mono ?_
               rintro e w' ⟨rfl, rfl⟩
               rw [hb]))
          go_round
          case rel => exact ⟨k + 1, by omega, by go_num, by rw [allLd_succ hks, hall, hb]; rfl⟩
          case measure => simp [intOf]; omega
      · have hki : decide ((k : Int) < s.size) = false := by simp; omega
        obtain rfl : k = s.size := by omega
        go_wp2
        go_ret
        refine ⟨?_, rfl⟩
        rw [wnameB_of h1 h2]
        rw [List.take_of_length_le (by simp)] at hall
        rw [hall]
        rfl
  · have hf : wnameB s = false := by
      simp only [wnameB, Bool.and_eq_false_iff, decide_eq_false_iff_not]
      omega
    rw [hf]
    by_cases h0 : s.size < 1
    · have d1 : decide ((s.size : Int) < 1) = true := by simp; omega
      go_enter Tryz.func42, Tryz.ntmps42
      go_wp2
      go_ret
      exact ⟨rfl, rfl⟩
    · have d1 : decide ((s.size : Int) < 1) = false := by simp; omega
      have d2 : decide ((16 : Int) < s.size) = true := by simp; omega
      go_enter Tryz.func42, Tryz.ntmps42
      go_wp2
      go_ret
      exact ⟨rfl, rfl⟩
end Go.Proofs.YtoplejbmgpgkhaaGreatDoor
/- wal: the reference's Digits, File. -/
namespace Go.Proofs.YtoplejbmgpgkhaaGreatDoor
open Go.RowKit Go.Maps Go.Joins
set_option linter.unusedSimpArgs false
set_option linter.unusedVariables false
set_option maxHeartbeats 4000000 in
theorem digits_small (n : Nat) (hn : n < 10) (w : World) : Calls Tryz.prog 68 #[.int .i64 n] w fun e w' => e = .returned (.string ⟨(Lib.itoa n).toArray⟩) ∧ Below w.heap.size w w' := by
  have hcv := fun (w : World) (x : Int) => run_convert_bytes_arg (P := Tryz.prog) (w.alloc (.cells #[.int .u8 x] 5)) 36 5 Tryz.underlying36 Tryz.underlying5 w.heap.size 0 1 1 [x] rfl (fun i hi => by
         cases i with
         | zero => simp [cell_of_block (heap_alloc_new w (.cells #[.int .u8 x] 5))]
         | succ i => simp at hi) 9 Tryz.underlying9
  have d1 : (n : Int) < 10 := by omega
  have e1 : (48 + (n : Int)) % 256 = 48 + n := by omega
  go_enter Tryz.func68, Tryz.ntmps68
  go_wp2
  go_ret
  refine ⟨?_, by go_grown⟩
  have e : (48 + (n : Int)).toNat = 48 + n := by omega
  rw [Lib.itoa_nonneg, Lib.decDigits_one hn]
  simp [strOfNums, e]
theorem dig_str (n : Nat) (h : ¬ n < 10) (m : Nat) (hm : m = n / 10) : (⟨(Lib.itoa (m : Int)).toArray⟩ : ByteArray) ++ strOfNums [48 + (n : Int) % 10] = ⟨(Lib.itoa (n : Int)).toArray⟩ := by
  rw [hm, Lib.itoa_nonneg, Lib.itoa_nonneg, Lib.decDigits.eq_1 n, dif_neg h]
  have : strOfNums [48 + (n : Int) % 10] = ⟨#[UInt8.ofNat (48 + n % 10)]⟩ := by
    have e : (48 + (n : Int) % 10).toNat = 48 + n % 10 := by omega
    simp [strOfNums, e]
  rw [this]
  apply ByteArray.ext
  simp
theorem conv_at (w : World) (g : Nat) (x : Int) (hc : w.cell? ⟨g, 0, none⟩ = some (.int .u8 x)) : (convert 36 9 (.slice (some ⟨g, 0, none⟩) 1 1)).run Tryz.prog w = .ok (.string (strOfNums [x])) w :=
  run_convert_bytes_arg (P := Tryz.prog) w 36 5 Tryz.underlying36 Tryz.underlying5 g 0 1 1 [x] rfl (fun i hi => by
         cases i with
         | zero => simpa using hc
         | succ i => simp at hi) 9 Tryz.underlying9
set_option maxRecDepth 100000 in
set_option maxHeartbeats 8000000 in
theorem digits_any (n : Nat) (hn : n < 1000000000) (w : World) : Calls Tryz.prog 68 #[.int .i64 n] w fun e w' => e = .returned (.string ⟨(Lib.itoa n).toArray⟩) ∧ Below w.heap.size w w' := by
  by_cases h : n < 10
  · exact digits_small n h w
  obtain ⟨m, hm⟩ : ∃ m, m = n / 10 := ⟨_, rfl⟩
  have ih := fun w => digits_any m (by omega) w
  have d1 : decide ((n : Int) < 10) = false := by simp; omega
  have e1 : IntKind.i64.wrap ((n : Int) / 10) = (m : Int) := by rw [IntKind.wrap_i64]; omega
  have e3 : IntKind.u8.wrap (IntKind.i64.wrap (48 + (n : Int).tmod 10)) = 48 + (n : Int) % 10 := by
    rw [Int.tmod_eq_emod_of_nonneg (by omega), IntKind.wrap_i64, IntKind.wrap_u8]; omega
  have HS := dig_str n h m hm
  have hil := Lib.itoa_length_le m (by omega) (by omega)
  have s1 : ¬ 9223372036854775807 < (⟨(Lib.itoa (m : Int)).toArray⟩ : ByteArray).size + (strOfNums [48 + (n : Int) % 10]).size := by rw [strOfNums_size]; simp [ByteArray.size]; omega
  have hcv := fun (w : World) => conv_at (w.alloc (.cells #[.int .u8 (48 + (n : Int) % 10)] 5)) w.heap.size (48 + (n : Int) % 10) (by rw [cell_of_block (heap_alloc_new w _)]; rfl)
  have hcd : (convert 36 9 (.slice (some ⟨w.heap.size, 0, none⟩) 1 1)).run Tryz.prog (w.drew.alloc (.cells #[.int .u8 (48 + (n : Int) % 10)] 5)) = .ok (.string (strOfNums [48 + (n : Int) % 10])) (w.drew.alloc (.cells #[.int .u8 (48 + (n : Int) % 10)] 5)) := hcv w.drew
  have hce : (convert 36 9 (.slice (some ⟨w.heap.size, 0, none⟩) 1 1)).run Tryz.prog ((w.alloc (.cells #[.int .u8 (48 + (n : Int) % 10)] 5)).drew) = .ok (.string (strOfNums [48 + (n : Int) % 10])) ((w.alloc (.cells #[.int .u8 (48 + (n : Int) % 10)] 5)).drew) := conv_at (w.alloc (.cells #[.int .u8 (48 + (n : Int) % 10)] 5)).drew w.heap.size _ (World.cell?_alloc_mark w #[.int .u8 (48 + (n : Int) % 10)] 5 (0, 0) 0)
  have HC : Hid (∀ (w : World) (g : Nat), w.cell? ⟨g, 0, none⟩ = some (.int .u8 (48 + (n : Int) % 10)) → (convert 36 9 (.slice (some ⟨g, 0, none⟩) 1 1)).run Tryz.prog w = .ok (.string (strOfNums [48 + (n : Int) % 10])) w) := fun w g h => conv_at w g _ h
  generalize strOfNums [48 + (n : Int) % 10] = sd at *
  generalize (⟨(Lib.itoa (m : Int)).toArray⟩ : ByteArray) = sm at *
  have E1 : Hid _ := e1
  have e2 : (n : Int) / 10 = (m : Int) := by omega
  have E2 : Hid _ := e2
  clear e1 e2
  have IH : Hid _ := ih
  have HSS : Hid _ := HS
  clear ih HS
  go_enter Tryz.func68, Tryz.ntmps68
  go_wp2
  go_region_with (first
    | (go_at_call 68
       first | rw [E1.out] | rw [E2.out]
       refine Calls.mono (IH.out _) ?_
       rintro e w1 ⟨rfl, hb1⟩
       try have hc2 := HC.out w1 w.heap.size ((hb1.cell (p := ⟨w.heap.size, 0, none⟩) (by show w.heap.size < (w.alloc _).heap.size; simp)).trans (World.cell?_alloc_mark w #[.int .u8 (48 + (n : Int) % 10)] 5 (0, 0) 0))))
  all_goals go_wp2
  all_goals go_ret
  all_goals refine ⟨by rw [← HSS.out]; rfl, ?_⟩
  all_goals first
    | exact (show Below w.heap.size w w1 from ⟨hb1.os, hb1.tape, hb1.output, hb1.size, hb1.block⟩).alloc hb1.size _
    | exact ((((Below.refl w.heap.size w).alloc (Nat.le_refl _) _).drew).trans (hb1.mono (by show w.heap.size ≤ (w.alloc _).heap.size; simp)))
    | exact ((((Below.refl w.heap.size w).drew).alloc (Nat.le_refl _) _).trans (hb1.mono (by show w.heap.size ≤ (w.alloc _).heap.size; simp)))
set_option maxHeartbeats 1000000 in
/-- The reference's File -/
theorem rfile_any {w : World} (nm : ByteArray) (hnm : nm.size ≤ 4611686018427387904) (n : Int) : Calls Tryz.prog 28 #[.string nm, .int .i64 n] w fun e w' => e = .returned (.string (fileB nm n)) ∧ Below w.heap.size w w' := by
  by_cases h0 : n < 0
  · have hf : fileB nm n = ByteArray.empty := if_pos (Or.inl h0)
    have HF : Hid _ := hf
    clear hf
    go_enter Tryz.func28, Tryz.ntmps28
    go_wp2
    go_ret
    rw [HF.out]
    exact ⟨rfl, Below.refl _ _⟩
  by_cases h1 : 1000000000 ≤ n
  · have hf : fileB nm n = ByteArray.empty := if_pos (Or.inr h1)
    have HF : Hid _ := hf
    clear hf
    go_enter Tryz.func28, Tryz.ntmps28
    go_wp2
    go_ret
    rw [HF.out]
    exact ⟨rfl, Below.refl _ _⟩
  have hf : fileB nm n = nm ++ ⟨#[46]⟩ ++ ⟨(Lib.itoa n).toArray⟩ := if_neg (by omega)
  have hil := Lib.itoa_length_le n (by omega) (by omega)
  have s1 : ¬ 9223372036854775807 < nm.size + 1 := by omega
  have s2 : ¬ 9223372036854775807 < nm.size + 1 + (Lib.itoa n).length := by omega
  have hd := digits_any n.toNat (by omega) w
  rw [show ((n.toNat : Nat) : Int) = n by omega] at hd
  have HF : Hid _ := hf
  have HD : Hid _ := hd
  clear hf hd
  go_enter Tryz.func28, Tryz.ntmps28
  go_wp2_with (first
    | (go_at_call 68
       refine Calls.mono HD.out ?_
       rintro e w1 ⟨rfl, hb1⟩
       have HB : Hid _ := hb1
       clear hb1))
  go_ret
  rw [HF.out]
  exact ⟨rfl, HB.out⟩
end Go.Proofs.YtoplejbmgpgkhaaGreatDoor
/- wal: the reference's Sum. -/
namespace Go.Proofs.YtoplejbmgpgkhaaGreatDoor
open Go.RowKit
set_option linter.unusedSimpArgs false
set_option linter.unusedVariables false
def bN : Nat → BitVec 32 → BitVec 32
  | 0, s => s
  | n + 1, s => b1 (bN n s)
theorem bN_8 (s : BitVec 32) : bN 8 s = b4 (b4 s) := rfl
theorem b1_odd (s : BitVec 32) (h : s.getLsbD 0 = true) : bits .xor .u32 (J s / 2) 3988292384 = J (b1 s) := by
  have e : J s / (2 : Int) = J (s >>> 1) := J_shr s 1
  have e2 : (3988292384 : Int) = J 3988292384#32 := by decide
  rw [e, e2, jx]
  unfold b1
  rw [h]
  rfl
theorem b1_ev (s : BitVec 32) (h : s.getLsbD 0 = false) : J s / 2 = J (b1 s) := by
  have e : J s / (2 : Int) = J (s >>> 1) := J_shr s 1
  rw [e, b1_even h]
theorem low1 (s : BitVec 32) : bits .and .u32 (J s) 1 = if s.getLsbD 0 then 1 else 0 := by
  have e2 : (1 : Int) = J 1#32 := by decide
  rw [show bits .and .u32 (J s) 1 = bits .and .u32 (J s) (J 1#32) from rfl, ja]
  have : s &&& 1#32 = if s.getLsbD 0 then 1#32 else 0#32 := by
    apply BitVec.eq_of_toNat_eq
    rw [BitVec.toNat_and]
    have h1 : (1#32).toNat = 1 := rfl
    rw [h1, Nat.and_one_is_mod]
    have h2 : s.getLsbD 0 = decide (s.toNat % 2 = 1) := by
      unfold BitVec.getLsbD
      rw [Nat.testBit_zero]
    rw [h2]
    by_cases h : s.toNat % 2 = 1
    · simp [h]
    · have : s.toNat % 2 = 0 := by omega
      simp [this]
  rw [this]
  cases s.getLsbD 0 <;> rfl
set_option maxRecDepth 100000 in
set_option maxHeartbeats 8000000 in
theorem rsum_any {w : World} (va : Option Addr) (vc : Nat) (bs : List Int) (hv : BytesV w (.slice va bs.length vc) bs) (hl : bs.length ≤ 4611686018427387904) :
    Calls Tryz.prog 41 #[.slice va bs.length vc] w fun e w' => e = .returned (.int .u32 (J (sumB bs))) ∧ w' = w := by
  have HV : Hid (BytesV w (.slice va bs.length vc) bs) := hv
  clear hv
  go_enter Tryz.func41, Tryz.ntmps41
  go_wp2
  go_loop [3, 4] (fun s i => ∃ k : Nat, k ≤ bs.length ∧ i = .int .i64 k ∧ s = .int .u32 (J (sumF (4294967295#32) (bs.take k)))) (fun _ i => bs.length - (intOf i).toNat)
  case atStart => exact ⟨0, Nat.zero_le _, rfl, rfl⟩
  case round =>
    obtain ⟨k, hk, rfl, rfl⟩ := hrel
    by_cases hkl : k < bs.length
    · obtain ⟨x, hx⟩ : ∃ x, bs[k]? = some x := ⟨_, List.getElem?_eq_getElem hkl⟩
      obtain ⟨g, o, rfl, hc⟩ := HV.out.at hx
      have hki : (k : Int) < bs.length := by omega
      have hS := sumF_take_succ hx (4294967295#32)
      generalize sumF (4294967295#32) (bs.take k) = s0 at hS ⊢
      have HS : Hid (sumF (4294967295#32) (bs.take (k + 1)) = st8 s0 x) := hS
      clear hS hx
      have e1 : bits .xor .u32 (J s0) (x % 4294967296) = J (s0 ^^^ BitVec.ofInt 32 x) := by rw [← IntKind.wrap_u32, J_ofInt, jx]
      have hst : st8 s0 x = bN 8 (s0 ^^^ BitVec.ofInt 32 x) := rfl
      generalize s0 ^^^ BitVec.ofInt 32 x = s1 at e1 hst
      have HT : Hid _ := hst
      clear hst
      go_wp2
      go_loop [3, 5] (fun s i => ∃ m : Nat, m ≤ 8 ∧ i = .int .i64 m ∧ s = .int .u32 (J (bN m s1))) (fun _ i => 8 - (intOf i).toNat)
      case atStart => exact ⟨0, Nat.zero_le _, rfl, rfl⟩
      case round =>
        obtain ⟨m, hm, rfl, rfl⟩ := hrel
        by_cases hm8 : m < 8
        · have hmi : (m : Int) < 8 := by omega
          have hbn : bN (m + 1) s1 = b1 (bN m s1) := rfl
          have HB : Hid _ := hbn
          clear hbn
          generalize bN m s1 = t at HB ⊢
          have hl1 := low1 t
          cases ht : t.getLsbD 0 with
          | true =>
            rw [ht, if_pos rfl] at hl1
            have hb := b1_odd t ht
            generalize b1 t = t2 at HB hb
            clear ht
            go_wp2
            go_round
            case rel => exact ⟨m + 1, by omega, by go_num, by rw [HB.out]⟩
            case measure => simp [intOf]; omega
          | false =>
            rw [ht, if_neg (by simp)] at hl1
            have hb := b1_ev t ht
            generalize b1 t = t2 at HB hb
            clear ht
            go_wp2
            go_round
            case rel => exact ⟨m + 1, by omega, by go_num, by rw [HB.out]⟩
            case measure => simp [intOf]; omega
        · have hmi : decide ((m : Int) < 8) = false := by simp; omega
          obtain rfl : m = 8 := by omega
          rw [← HT.out]
          go_wp2
          go_round
          case rel => exact ⟨k + 1, by omega, by go_num, by rw [HS.out]⟩
          case measure => simp [intOf]; omega
    · have hki : decide ((k : Int) < bs.length) = false := by simp; omega
      obtain rfl : k = bs.length := by omega
      rw [List.take_length]
      have hn : bits .xor .u32 IntKind.u32.max (J (sumF 4294967295#32 bs)) = J (sumB bs) := jn _
      have HN : Hid _ := hn
      clear hn hkl
      go_wp2
      go_ret
      refine ⟨?_, rfl⟩
      rw [← HN.out]
      rfl
end Go.Proofs.YtoplejbmgpgkhaaGreatDoor
/- wal: the reference's number, four, Name. -/
namespace Go.Proofs.YtoplejbmgpgkhaaGreatDoor
open Go.RowKit Go.Maps Go.Joins
set_option linter.unusedSimpArgs false
set_option linter.unusedVariables false
set_option maxRecDepth 100000 in
set_option maxHeartbeats 8000000 in
theorem rnum_any {w : World} (va : Option Addr) (n vc : Nat) (bs : List Int) (hv : BytesV w (.slice va n vc) bs) {x0 x1 x2 x3 : Int} {r : List Int} (hb : bs = x0 :: x1 :: x2 :: x3 :: r) :
    Calls Tryz.prog 71 #[.slice va n vc] w fun e w' => e = .returned (.int .u32 (J (num4 x0 x1 x2 x3))) ∧ ∃ m, w' = w.drewN m := by
  subst hb
  have hn := hv.len
  obtain ⟨g, o, rfl, c0⟩ := hv.at (k := 0) rfl
  obtain ⟨_, _, e1, c1⟩ := hv.at (k := 1) rfl
  obtain ⟨_, _, e2, c2⟩ := hv.at (k := 2) rfl
  obtain ⟨_, _, e3, c3⟩ := hv.at (k := 3) rfl
  injection e1 with e1
  injection e1 with e1 e1' _
  injection e2 with e2
  injection e2 with e2 e2' _
  injection e3 with e3
  injection e3 with e3 e3' _
  subst e1 e1' e2 e2' e3 e3'
  rw [Nat.add_zero] at c0
  have q0 : (0 : Int) < n := by simp at hn; omega
  have q1 : (1 : Int) < n := by simp at hn; omega
  have q2 : (2 : Int) < n := by simp at hn; omega
  have q3 : (3 : Int) < n := by simp at hn; omega
  have s0 := shlJ x0 24 16777216 (by decide)
  have s1 := shlJ x1 16 65536 (by decide)
  have s2 := shlJ x2 8 256 (by decide)
  have s3 := modJ x3
  have t1 := jo (BitVec.ofInt 32 x0 <<< 24) (BitVec.ofInt 32 x1 <<< 16)
  have t2 := jo (BitVec.ofInt 32 x0 <<< 24 ||| BitVec.ofInt 32 x1 <<< 16) (BitVec.ofInt 32 x2 <<< 8)
  have t3 := jo (BitVec.ofInt 32 x0 <<< 24 ||| BitVec.ofInt 32 x1 <<< 16 ||| BitVec.ofInt 32 x2 <<< 8) (BitVec.ofInt 32 x3)
  have HT : Hid (bits .or .u32 (bits .or .u32 (bits .or .u32 (x0 % 4294967296 * 16777216 % 4294967296) (x1 % 4294967296 * 65536 % 4294967296)) (x2 % 4294967296 * 256 % 4294967296)) (x3 % 4294967296) = J (num4 x0 x1 x2 x3)) := by
    show _ = _
    rw [s0, s1, s2, s3, t1, t2, t3]
    rfl
  clear s0 s1 s2 s3 t1 t2 t3 hv hn
  go_enter Tryz.func71, Tryz.ntmps71
  go_wp2_with fail
  go_quiet (fail)
  go_wp2
  go_ret
  refine ⟨?_, _, rfl⟩
  rw [← HT.out]
  rfl
theorem rfour_any (w : World) (n : BitVec 32) : Calls Tryz.prog 73 #[.int .u32 (J n)] w fun e w' => e = .returned (.slice (some ⟨w.heap.size, 0, none⟩) 4 4) ∧ w' = w.alloc (.cells #[.int .u8 (J n / 16777216 % 256), .int .u8 (J n / 65536 % 256), .int .u8 (J n / 256 % 256), .int .u8 (J n % 256)] 5) := by
  go_enter Tryz.func73, Tryz.ntmps73
  go_wp2
  go_ret
  exact ⟨rfl, rfl⟩
set_option maxHeartbeats 4000000 in
theorem rwname_any (s : ByteArray) (hs : s.size ≤ 9223372036854775807) (w : World) :
    Calls Tryz.prog 43 #[.string s] w fun e w' => e = .returned (.bool (wnameB s)) ∧ w' = w := by
  by_cases h1 : 1 ≤ s.size ∧ s.size ≤ 16
  · obtain ⟨h1, h2⟩ := h1
    have d1 : decide ((s.size : Int) < 1) = false := by simp; omega
    have d2 : decide ((16 : Int) < s.size) = false := by simp; omega
    go_enter Tryz.func43, Tryz.ntmps43
    go_wp2
    go_loop [3] (fun i => ∃ k : Nat, k ≤ s.size ∧ i = .int .i64 k ∧ (s.data.toList.take k).all ldB = true) (fun i => s.size - (intOf i).toNat)
    case atStart => exact ⟨0, Nat.zero_le _, rfl, rfl⟩
    case round =>
      obtain ⟨k, hk, rfl, hall⟩ := hrel
      by_cases hks : k < s.size
      · have hki : (k : Int) < s.size := by omega
        cases hb : ldB s[k] with
        | false =>
          have HB : Hid _ := hb
          clear hb
          go_wp2
          all_goals first
            | (go_ret
               exact ⟨by rw [wnameB_false hks HB.out]; rfl, rfl⟩)
            | (exfalso
               have hb := HB.out
               simp [ldB] at hb
               first
                 | omega
                 | (rename_i hz
                    simp only [Bool.not_eq_eq_eq_not, Bool.not_true, Bool.not_false, decide_eq_false_iff_not, decide_eq_true_eq] at hz
                    omega)
                 | (rename_i hz _
                    simp only [Bool.not_eq_eq_eq_not, Bool.not_true, Bool.not_false, decide_eq_false_iff_not, decide_eq_true_eq] at hz
                    omega)
                 | (rename_i hz _ _
                    simp only [Bool.not_eq_eq_eq_not, Bool.not_true, Bool.not_false, decide_eq_false_iff_not, decide_eq_true_eq] at hz
                    omega)
                 | (rename_i hz _ _ _
                    simp only [Bool.not_eq_eq_eq_not, Bool.not_true, Bool.not_false, decide_eq_false_iff_not, decide_eq_true_eq] at hz
                    omega))
        | true =>
          have HB : Hid _ := hb
          clear hb
          go_wp2
          all_goals first
            | (exfalso
               have hb := HB.out
               simp [ldB] at hb
               first
                 | omega
                 | (rename_i hz
                    simp only [Bool.not_eq_eq_eq_not, Bool.not_true, Bool.not_false, decide_eq_false_iff_not, decide_eq_true_eq] at hz
                    omega)
                 | (rename_i hz _
                    simp only [Bool.not_eq_eq_eq_not, Bool.not_true, Bool.not_false, decide_eq_false_iff_not, decide_eq_true_eq] at hz
                    omega)
                 | (rename_i hz _ _
                    simp only [Bool.not_eq_eq_eq_not, Bool.not_true, Bool.not_false, decide_eq_false_iff_not, decide_eq_true_eq] at hz
                    omega)
                 | (rename_i hz _ _ _
                    simp only [Bool.not_eq_eq_eq_not, Bool.not_true, Bool.not_false, decide_eq_false_iff_not, decide_eq_true_eq] at hz
                    omega))
            | (refine ⟨⟨k + 1, by omega, by go_num, by rw [allLd_succ hks, hall, HB.out]; rfl⟩, ?_⟩
               simp [intOf]; omega)
      · have hki : decide ((k : Int) < s.size) = false := by simp; omega
        obtain rfl : k = s.size := by omega
        go_wp2
        go_ret
        refine ⟨?_, rfl⟩
        rw [wnameB_of h1 h2]
        rw [List.take_of_length_le (by simp)] at hall
        rw [hall]
        rfl
  · have hf : wnameB s = false := by
      simp only [wnameB, Bool.and_eq_false_iff, decide_eq_false_iff_not]
      omega
    rw [hf]
    by_cases h0 : s.size < 1
    · have d1 : decide ((s.size : Int) < 1) = true := by simp; omega
      go_enter Tryz.func43, Tryz.ntmps43
      go_wp2
      go_ret
      exact ⟨rfl, rfl⟩
    · have d1 : decide ((s.size : Int) < 1) = false := by simp; omega
      have d2 : decide ((16 : Int) < s.size) = true := by simp; omega
      go_enter Tryz.func43, Tryz.ntmps43
      go_wp2
      go_ret
      exact ⟨rfl, rfl⟩
end Go.Proofs.YtoplejbmgpgkhaaGreatDoor
