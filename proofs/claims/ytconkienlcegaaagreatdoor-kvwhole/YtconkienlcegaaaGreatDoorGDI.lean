/- WD, DH, DI -/
import Derived.Test.YtconkienlcegaaaGreatDoorGWC
import Derived.Test.YtconkienlcegaaaGreatDoorShelf
import Derived.Lib.SmallJoins
import Derived.Lib.ItoaLen
import Derived.Test.YtconkienlcegaaaGreatDoorGDG
namespace Go.Proofs.YtconkienlcegaaaGreatDoor
open Go.RowKit Go.Maps Go.Joins
set_option linter.unusedSimpArgs false
set_option linter.unusedVariables false
theorem gPow : Tryz.prog.globalNamed "internal/strconv.uint64pow10" = some 4 := by kernel_rfl
theorem gSyn : Tryz.prog.globalNamed "strconv.ErrSyntax" = some 2 := by kernel_rfl
theorem gRan : Tryz.prog.globalNamed "strconv.ErrRange" = some 3 := by kernel_rfl
theorem var_keep {w w' : World} {n : String} {g : Nat} {cs : Array Value} (hg : Tryz.prog.globalNamed n = some g) (h : w.var? Tryz.prog n = some cs) (hk : w'.heap[g]? = w.heap[g]?) : w'.var? Tryz.prog n = some cs := by
 unfold World.var? at h ⊢; rw [hg] at h ⊢; simp only [Option.bind_some] at h ⊢; rw [hk]; exact h
theorem var_lt {w : World} {n : String} {g : Nat} {cs : Array Value} (hg : Tryz.prog.globalNamed n = some g) (h : w.var? Tryz.prog n = some cs) : g < w.heap.size := by
 unfold World.var? at h; rw [hg] at h; simp only [Option.bind_some] at h; rcases Nat.lt_or_ge g w.heap.size with h' | h'
 · exact h'
 · rw [Array.getElem?_eq_none h'] at h
   cases h
/-- The package's variables, as they are laid. -/
structure Vars (w : World) : Prop where
 half : Half w
 tab : Lib.TabIs Tryz.prog w "internal/strconv.uint64pow10" .u64 Lib.pow10Tab
 syn : ∃ tp p, w.var? Tryz.prog "strconv.ErrSyntax" = some #[.iface tp p]
 ran : ∃ tp p, w.var? Tryz.prog "strconv.ErrRange" = some #[.iface tp p]
theorem Vars.lt {w : World} (h : Vars w) : 4 < w.heap.size := var_lt gPow h.tab
theorem Vars.kept {w w' : World} (h : Vars w) (hk : ∀ b, b < 5 → w'.heap[b]? = w.heap[b]?) : Vars w' := by
 obtain ⟨t1, p1, h1⟩ := h.syn; obtain ⟨t2, p2, h2⟩ := h.ran; exact ⟨h.half.kept (hk 1 (by omega)), var_keep gPow h.tab (hk 4 (by omega)), ⟨t1, p1, var_keep gSyn h1 (hk 2 (by omega))⟩, ⟨t2, p2, var_keep gRan h2 (hk 3 (by omega))⟩⟩
theorem Vars.below {w w' : World} (h : Vars w) (hb : Below w.heap.size w w') : Vars w' := h.kept (fun b hb' => hb.block b (by have := h.lt; omega))
theorem grow_below (w : World) (k : Nat) (os : Array Obj) : Below w.heap.size w (Sort.grow (w.drewN k) os) :=
 ⟨rfl, rfl, rfl, by simp [Sort.grow], fun b hb => by
  show (w.heap ++ os)[b]? = _; rw [Array.getElem?_append_left hb]⟩
/-- A file's name. -/
def fileB (nm : ByteArray) (n : Int) : ByteArray := if n < 0 ∨ 1000000000 ≤ n then ByteArray.empty else nm ++ ⟨#[46]⟩ ++ ⟨(Lib.itoa n).toArray⟩
set_option maxHeartbeats 1000000 in
/-- File -/
theorem file_any {w : World} (hV : Vars w) (nm : ByteArray) (hnm : nm.size ≤ 4611686018427387904) (n : Int) : Calls Tryz.prog 90 #[.string nm, .int .i64 n] w fun e w' => e = .returned (.string (fileB nm n)) ∧ Below w.heap.size w w' := by
 have HV : Hid (Vars w) := hV; clear hV; by_cases h0 : n < 0
 · have hf : fileB nm n = ByteArray.empty := if_pos (Or.inl h0)
   have HF : Hid _ := hf; clear hf; go_enter Tryz.func90, Tryz.ntmps90; go_wp2; go_ret; rw [HF.out]; exact ⟨rfl, Below.refl _ _⟩
 by_cases h1 : 1000000000 ≤ n
 · have hf : fileB nm n = ByteArray.empty := if_pos (Or.inr h1)
   have HF : Hid _ := hf; clear hf; go_enter Tryz.func90, Tryz.ntmps90; go_wp2; go_ret; rw [HF.out]; exact ⟨rfl, Below.refl _ _⟩
 have hf : fileB nm n = nm ++ ⟨#[46]⟩ ++ ⟨(Lib.itoa n).toArray⟩ := if_neg (by omega); have hil := Lib.itoa_length_le n (by omega) (by omega); have s1 : ¬ 9223372036854775807 < nm.size + 1 := by omega
 have s2 : ¬ 9223372036854775807 < nm.size + 1 + (Lib.itoa n).length := by omega
 have HF : Hid _ := hf; clear hf; go_enter Tryz.func90, Tryz.ntmps90; go_wp2_with (first
  | (go_at_call 121
     refine Calls.mono (Tryz.strconv_Itoa n (by omega) (by omega) _ HV.out.tab) ?_; rintro e w1 ⟨rfl, k, os, rfl⟩))
 go_ret; rw [HF.out]
 exact ⟨rfl, grow_below _ _ _⟩
/-- A letter or a digit. -/
def ldB (c : UInt8) : Bool := (decide (97 ≤ c.toNat) && decide (c.toNat ≤ 122)) || (decide (65 ≤ c.toNat) && decide (c.toNat ≤ 90)) || (decide (48 ≤ c.toNat) && decide (c.toNat ≤ 57))
set_option maxHeartbeats 2000000 in
theorem ld_any (c : UInt8) (w : World) : Calls Tryz.prog 102 #[.int .u8 (c.toNat : Int)] w fun e w' => e = .returned (.bool (ldB c)) ∧ w' = w := by
 go_enter Tryz.func102, Tryz.ntmps102
 go_wp2
 all_goals go_ret
 all_goals refine ⟨?_, rfl⟩
 all_goals (refine congrArg Ending.returned (congrArg Value.bool ?_); rw [Bool.eq_iff_iff]; simp [ldB]; try omega)
/-- A name that a log may have. -/
def wnameB (s : ByteArray) : Bool := decide (1 ≤ s.size) && decide (s.size ≤ 16) && s.data.toList.all ldB
theorem allLd_succ {s : ByteArray} {k : Nat} (hk : k < s.size) : (s.data.toList.take (k + 1)).all ldB = ((s.data.toList.take k).all ldB && ldB s[k]) := by
 have hk' : k < s.data.toList.length := by simpa using hk
 rw [List.take_add_one, List.getElem?_eq_getElem hk', List.all_append]; simp; rfl
theorem wnameB_of {s : ByteArray} (h1 : 1 ≤ s.size) (h2 : s.size ≤ 16) : wnameB s = s.data.toList.all ldB := by
 simp [wnameB, h1, h2]
theorem wnameB_false {s : ByteArray} {k : Nat} (hk : k < s.size) (h : ldB s[k] = false) : wnameB s = false := by
 have : s.data.toList.all ldB = false := by
  rw [List.all_eq_false]; refine ⟨s[k], ?_, by simp [h]⟩; have hk' : k < s.data.toList.length := by simpa using hk
  exact List.getElem_mem hk'
 simp [wnameB, this]
set_option maxHeartbeats 1000000 in
/-- Name -/
theorem wname_any (s : ByteArray) (hs : s.size ≤ 9223372036854775807) (w : World) :
 Calls Tryz.prog 70 #[.string s] w fun e w' => e = .returned (.bool (wnameB s)) ∧ w' = w := by
 by_cases h1 : 1 ≤ s.size ∧ s.size ≤ 16
 · obtain ⟨h1, h2⟩ := h1
   have d1 : decide ((s.size : Int) < 1) = false := by simp; omega
   have d2 : decide ((16 : Int) < s.size) = false := by simp; omega
   go_enter Tryz.func70, Tryz.ntmps70
   go_wp2; go_loop [14] (fun i => ∃ k : Nat, k ≤ s.size ∧ i = .int .i64 k ∧ (s.data.toList.take k).all ldB = true) (fun i => s.size - (intOf i).toNat)
   case atStart => exact ⟨0, Nat.zero_le _, rfl, rfl⟩
   case round =>
    obtain ⟨k, hk, rfl, hall⟩ := hrel; by_cases hks : k < s.size
    · have hki : (k : Int) < s.size := by omega
      cases hb : ldB s[k] with
      | false =>
        go_wp2_with (first
         | (go_at_call 102
            refine (ld_any s[k] _).mono ?_; rintro e w' ⟨rfl, rfl⟩; rw [hb]))
        go_ret; exact ⟨by rw [wnameB_false hks hb]; rfl, rfl⟩
      | true =>
        go_wp2_with (first
         | (go_at_call 102
            refine (ld_any s[k] _).mono ?_; rintro e w' ⟨rfl, rfl⟩; rw [hb]))
        go_round
        case rel => exact ⟨k + 1, by omega, by go_num, by rw [allLd_succ hks, hall, hb]; rfl⟩
        case measure => simp [intOf]; omega
    · have hki : decide ((k : Int) < s.size) = false := by simp; omega
      obtain rfl : k = s.size := by omega
      go_wp2; go_ret
      refine ⟨?_, rfl⟩; rw [wnameB_of h1 h2]; rw [List.take_of_length_le (by simp)] at hall; rw [hall]; rfl
 · have hf : wnameB s = false := by
    simp only [wnameB, Bool.and_eq_false_iff, decide_eq_false_iff_not]; omega
   rw [hf]; by_cases h0 : s.size < 1
   · have d1 : decide ((s.size : Int) < 1) = true := by simp; omega
     go_enter Tryz.func70, Tryz.ntmps70
     go_wp2; go_ret
     exact ⟨rfl, rfl⟩
   · have d1 : decide ((s.size : Int) < 1) = false := by simp; omega
     have d2 : decide ((16 : Int) < s.size) = true := by simp; omega
     go_enter Tryz.func70, Tryz.ntmps70
     go_wp2; go_ret
     exact ⟨rfl, rfl⟩
/-- What those that are no longer to come have together. -/
def sumL (f : List UInt8 → Nat) (left : Lit → Bool) : List (List UInt8 × Nat) → Nat
 | [] => 0
 | p :: r => (if left (.string p.1) then 0 else f p.1) + sumL f left r
def total (S : DS) : Nat := sumL (fun n => (S.fl n).bs.length) (fun _ => false) S.fs
theorem sumL_le (f : List UInt8 → Nat) (left : Lit → Bool) : ∀ l, sumL f left l ≤ sumL f (fun _ => false) l
 | [] => Nat.le_refl _
 | p :: r => by
   have := sumL_le f left r; simp only [sumL]; split <;> simp <;> omega
theorem sumL_end {f : List UInt8 → Nat} {left : Lit → Bool} (h : ∀ k, left k = false) : ∀ l, sumL f left l = sumL f (fun _ => false) l
 | [] => rfl
 | p :: r => by simp only [sumL, h, sumL_end h r]
theorem sumL_start {f : List UInt8 → Nat} {left : Lit → Bool} : ∀ l, (∀ p ∈ l, left (.string p.1) = true) → sumL f left l = 0
 | [], _ => rfl
 | p :: r, h => by simp only [sumL, h p (List.mem_cons_self ..), if_true, sumL_start r (fun q hq => h q (List.mem_cons_of_mem _ hq))]
theorem sumL_other {f : List UInt8 → Nat} {left : Lit → Bool} {n : List UInt8} : ∀ l : List (List UInt8 × Nat), (∀ p ∈ l, p.1 ≠ n) → sumL f (fun z => left z && !z.sameKey (.string n)) l = sumL f left l
 | [], _ => rfl
 | p :: r, h => by
   have e : (Lit.string p.1).sameKey (.string n) = false := by
    have := h p (List.mem_cons_self ..)
    simpa [Lit.sameKey] using this
   simp only [sumL, e, Bool.not_false, Bool.and_true, sumL_other r (fun q hq => h q (List.mem_cons_of_mem _ hq))]
theorem sumL_step {f : List UInt8 → Nat} {left : Lit → Bool} {n : List UInt8} {g : Nat} (hl : left (.string n) = true) : ∀ l : List (List UInt8 × Nat), (l.map toE).Pairwise (fun p q => p.1 ≠ q.1) → (n, g) ∈ l → sumL f (fun z => left z && !z.sameKey (.string n)) l = sumL f left l + f n
 | [], _, h => by cases h
 | p :: r, hp, h => by
   rw [List.map_cons, List.pairwise_cons] at hp; by_cases e : p.1 = n
   · have hr : ∀ q ∈ r, q.1 ≠ n := fun q hq e' => hp.1 _ (List.mem_map_of_mem hq) (by show Lit.string p.1 = Lit.string q.1; rw [e, e'])
     have e1 : (Lit.string p.1).sameKey (.string n) = true := by simp [Lit.sameKey, e]
     simp only [sumL, sumL_other r hr, e1, Bool.not_true, Bool.and_false]; rw [e, hl]; simp; omega
   · have e1 : (Lit.string p.1).sameKey (.string n) = false := by simpa [Lit.sameKey] using e
     have hm : (n, g) ∈ r := by
      rcases List.mem_cons.1 h with h | h
      · exact absurd (by rw [← h]) e
      · exact h
     have := sumL_step (f := f) hl r hp.2 hm; simp only [sumL, e1, Bool.not_false, Bool.and_true, this]; omega
theorem DiskIs.apart {w : World} {bd : Nat} {S : DS} (h : DiskIs w bd S) : (S.fs.map toE).Pairwise (fun p q => p.1 ≠ q.1) := by
 obtain ⟨es, he, hp, _⟩ := h.files.entries law9; have : S.fs.map toE = es := by
  unfold toD at he; injection he
 rw [this]; exact hp
theorem at_some {fs : List (List UInt8 × Nat)} {n : List UInt8} {y : DataW Unit} (h : ∀ z, (toD fs).atKey (.string n) z = y) : ∃ g, look fs n = some g ∧ y = .lit (.int .i64 (g : Int)) := by
 cases hl : look fs n with
 | none =>
   have h1 := h .nil; have h2 := h (.lit (.bool true)); rw [at_toD, hl] at h1 h2; rw [← h1] at h2; cases h2
 | some g =>
   have h1 := h .nil; rw [at_toD, hl] at h1; exact ⟨g, rfl, h1.symm⟩
set_option maxRecDepth 100000 in
set_option maxHeartbeats 4000000 in
/-- (*Disk).used -/
theorem used_any {w : World} {bd : Nat} {S : DS} (h : DiskIs w bd S) (hT : total S ≤ 4611686018427387904) :
 Calls Tryz.prog 64 #[.pointer (some ⟨bd, 0, none⟩)] w fun e w' => e = .returned (.int .i64 (total S)) ∧ Below w.heap.size w w' := by
 have HD : Hid (DiskIs w bd S) := h; have HT : Hid (total S ≤ 4611686018427387904) := hT; have c1 : w.cell? ⟨bd, 1, none⟩ = some (.map (some S.bm)) := by rw [cell_of_block h.disk]; rfl
 clear h hT; go_enter Tryz.func64, Tryz.ntmps64; go_wp2_with (first
  | (at_range; refine wpList_range_own _ rfl _ 86 rfl 9 114 law9 Tryz.underlying86 Rp S.bm S.fs.length (toD S.fs) rfl HD.out.files ?_; intro w0 hrg0 hg0 hs0)
  | go_in)
 go_frame; go_loopw [3] (fun n wr => ∃ (left : Lit → Bool) (cnt : Nat), n = .int .i64 (sumL (fun n => (S.fl n).bs.length) left S.fs : Nat) ∧ wr.ranges Tryz.prog 9 Rp S.bm w.heap.size S.fs.length (toD S.fs) left cnt ∧ Below w.heap.size w wr)
  (fun _ wr => wr.rangeLeft S.bm w.heap.size)
 case atStart =>
  refine ⟨_, _, ?_, hrg0, ⟨hg0.os, hg0.tape, hg0.output, hg0.size, fun k hk => hg0.block k hk (by simp)⟩⟩; rw [sumL_start]
  · rfl
  · intro p hp
    rw [has_toD]; unfold look; rw [Option.isSome_map, List.find?_isSome]; exact ⟨p, hp, by simp⟩
 case round =>
  obtain ⟨left, cnt, rfl, hrg, hb⟩ := hrel; go_wp2_with (first
   | (at_next; refine wpList_next_ranges _ rfl _ rfl 9 law9 Rp encStr pv (fun key kl hk => by obtain ⟨x, hx, _⟩ := Maps.keyOf_str Tryz.underlying9 hk; exact ⟨x, hx⟩) Rp_inv S.bm w.heap.size S.fs.length (toD S.fs) left cnt rfl hrg ?_ ?_)
   | go_in)
  · intro _ hl0
    go_wp2; go_ret
    refine ⟨?_, hb⟩; rw [sumL_end hl0]; rfl
  · intro x c kl yd yp w2 cnt2 hkey hlk hv hat hrg2 hlt hg2 hs2 hen
    obtain ⟨x', ex, rfl, _⟩ := Maps.keyOf_str Tryz.underlying9 hkey; obtain rfl : x = x' := encStr_inj ex; obtain ⟨g, hlg, hy⟩ := at_some hat; subst hy; have hc : pv c = .pointer (some ⟨g, 0, none⟩) := Rp_lit hv; have hm := look_mem hlg; have hb2 : Below w.heap.size w w2 := hb.grown hg2 hb.size (fun j hj => by cases hj; exact Nat.le_refl _); have hfile := (HD.out.below hb2).file _ hm; obtain ⟨a, cap, hsl⟩ := row_form (HD.out.row _ hm); have c0 : w2.cell? ⟨g, 0, none⟩ = some (.slice a (S.fl x).bs.length cap) := by rw [cell_of_block hfile, hsl]; rfl
    have hsum := sumL_step (f := fun n => (S.fl n).bs.length) hlk S.fs HD.out.apart hm; have hle := sumL_le (fun n => (S.fl n).bs.length) (fun z => left z && !z.sameKey (.string x)) S.fs; have hTT := HT.out; unfold total at hTT; rw [hc] at hen ⊢; clear hs2 hc hfile hsl hkey hv hat; have hbd : ((sumL (fun n => (S.fl n).bs.length) left S.fs : Nat) : Int) + ((S.fl x).bs.length : Int) ≤ 4611686018427387904 := by omega
    go_wp2; go_roundw
    case rel => exact ⟨_, cnt2, by rw [hsum]; simp, hrg2, hb2⟩
    case measure => rw [hrg2.left_eq, hrg.left_eq]; exact hlt
theorem stepS_fields (S : DS) (ns : List ByteArray) : (stepS S ns).room = S.room ∧ (stepS S ns).bm = S.bm ∧ (stepS S ns).fs = S.fs ∧ (stepS S ns).fl = S.fl ∧ (stepS S ns).role = S.role := by
 unfold stepS; split
 · exact ⟨rfl, rfl, rfl, rfl, rfl⟩
 · split <;> exact ⟨rfl, rfl, rfl, rfl, rfl⟩
theorem BytesV.fr {w w' : World} {S S' : DS} {v : Value} {bs : List Int} (h : BytesV w v bs) (hr : ∀ b, dBlock v bs = some b → S.role b = .none) (hF : Fr w w' S S') : BytesV w' v bs := by
 rcases h with h | ⟨ad, cap, rfl, hc⟩
 · exact Or.inl h
 · refine Or.inr ⟨ad, cap, rfl, fun j u hu => ?_⟩
   have h1 := hc j u hu; have h2 := cell_lt h1; have h3 : (ad.add j).block = ad.block := by unfold Addr.add; split <;> rfl
   rw [World.cell?_of_block (hF.block _ h2 (by rw [h3]; exact hr _ (by rw [dBlock_vB hu]; rfl)))]; exact h1
theorem total_stepS (S : DS) (ns : List ByteArray) : total (stepS S ns) = total S := by
 unfold total; obtain ⟨_, _, h1, h2, _⟩ := stepS_fields S ns; rw [h1, h2]
set_option maxRecDepth 100000 in
set_option maxHeartbeats 4000000 in
/-- (*Disk).Append to a file that is there, where there is room -/
theorem append_old {w : World} {bd : Nat} {S : DS} (h : DiskIs w bd S) (hc : Cnt S) (s : ByteArray) (hs : s.size ≤ 9223372036854775807) (v : Value) (bs : List Int) (hv : BytesV w v bs) (hvr : ∀ b, dBlock v bs = some b → S.role b = .none) (hE : stepE S [s] = 0) {g : Nat} (hl : look S.fs s.data.toList = some g)
 (hroom : (total S : Int) + bs.length ≤ S.room) (hrm : S.room ≤ 1073741824) (hlen : ((stepS S [s]).fl s.data.toList).bs.length ≤ 1073741824) :
 Calls Tryz.prog 35 #[.pointer (some ⟨bd, 0, none⟩), .string s, v] w fun e w' => e = .returned (.int .i64 0) ∧ ∃ sl z, DiskIs w' bd (setFl (stepS S [s]) s.data.toList { (stepS S [s]).fl s.data.toList with sl := sl, bs := ((stepS S [s]).fl s.data.toList).bs ++ bs } z) ∧ Fr w w' S (setFl (stepS S [s]) s.data.toList { (stepS S [s]).fl s.data.toList with sl := sl, bs := ((stepS S [s]).fl s.data.toList).bs ++ bs } z) := by
 obtain ⟨va, vc, hvf⟩ : ∃ va vc, v = .slice va bs.length vc := by
  rcases hv with ⟨rfl, rfl⟩ | ⟨ad, cap, rfl, _⟩
  · exact ⟨_, _, rfl⟩
  · exact ⟨_, _, rfl⟩
 have HV : Hid (BytesV w v bs ∧ ∀ b, dBlock v bs = some b → S.role b = .none) := ⟨hv, hvr⟩
 have HD : Hid (DiskIs w bd S ∧ Cnt S) := ⟨h, hc⟩
 have HX : Hid (DiskIs (w.alloc (.cells #[.string s] 9)) bd S ∧ Names (w.alloc (.cells #[.string s] 9)) w.heap.size [s]) := ⟨h.below (by go_grown), names_one w s hs⟩
 have hlt := h.lt; obtain ⟨e1, e2, e3, e4, e5⟩ := stepS_fields S [s]; have eT := total_stepS S [s]; generalize hS1 : stepS S [s] = S1 at *; rw [← e3] at hl; rw [← e1, ← eT] at hroom; rw [← e1] at hrm; clear h hc hv hvr e1 e2 e3 e4 e5 eT; have hm := look_mem hl; have HR : Hid ((total S1 : Int) + bs.length ≤ S1.room ∧ S1.room ≤ 1073741824 ∧ (S1.fl s.data.toList).bs.length ≤ 1073741824) := ⟨hroom, hrm, hlen⟩
 have hbl : (bs.length : Int) ≤ 1073741824 := by omega
 clear hroom hrm hlen; subst hvf; go_enter Tryz.func35, Tryz.ntmps35; go_wp2_with (first
  | (go_at_call 63
     refine (step_any HX.out.1 HD.out.2 w.heap.size 1 [s] HX.out.2 (by simp) (by omega)).mono ?_; rw [hE, hS1]; rintro e w1 ⟨rfl, hD1, hG1, hZ1⟩; have HDD : Hid (DiskIs w1 bd S1 ∧ (w.alloc (.cells #[.string s] 9)).grownBy w1 (some bd)) := ⟨hD1, hG1⟩
     have c1 : w1.cell? ⟨bd, 1, none⟩ = some (.map (some S1.bm)) := by rw [cell_of_block hD1.disk]; rfl
     have hlk := hD1.look_ok hs; rw [hl] at hlk; simp only [pv, Option.isSome_some] at hlk; clear hD1 hG1)
  | go_in)
 have hF1 : Fr w w1 S S1 := by
  have e1 : Fr w (w.alloc (.cells #[.string s] 9)) S S := Fr.below (by go_grown); have e2 := HX.out.1.frG HDD.out.2 [s]; rw [hS1] at e2; exact e1.trans e2
 have HF : Hid (Fr w w1 S S1) := hF1; have HD1 : Hid (DiskIs w1 bd S1) := HDD.out.1; clear hF1 HDD c1 hlk HX; refine wp_region_held_drew (S := fun w' => DiskIs w' bd S1 ∧ Below w1.heap.size w1 w') (by kernel_rfl) ⟨HD1.out.kept (fun _ _ => rfl) (Nat.le_refl _), ⟨rfl, rfl, rfl, Nat.le_refl _, fun _ _ => rfl⟩⟩ (fun hHeld => ?_); refine wpAnyH_take (i := 0) (v := .slice va bs.length vc) rfl (by kernel_rfl) (by kernel_rfl) (by kernel_rfl) (fun _ _ _ h => h) (Or.inl ⟨by rfl, fun w9 hSw => ?_⟩) hHeld ?_
 · go_simp
 simp only [List.getElem_toArray, List.getElem_cons_succ, List.getElem_cons_zero, Act.put, List.setIfInBounds_toArray, List.set_cons_zero, List.set_cons_succ]; refine wpAnyH_take (i := 1) (v := .int .i64 (bs.length : Int)) rfl (by kernel_rfl) (by kernel_rfl) (by kernel_rfl) (fun _ _ _ h => h) (Or.inl ⟨by rfl, fun w9 hSw => ?_⟩) hHeld ?_
 · go_simp
 simp only [List.getElem_toArray, List.getElem_cons_succ, List.getElem_cons_zero, Act.put, List.setIfInBounds_toArray, List.set_cons_zero, List.set_cons_succ]; refine wpAnyH_take (i := 2) (v := .pointer (some ⟨bd, 0, none⟩)) rfl (by kernel_rfl) (by kernel_rfl) (by kernel_rfl) (fun _ _ _ h => h) (Or.inl ⟨by rfl, fun w9 hSw => ?_⟩) hHeld ?_
 · go_simp
 simp only [List.getElem_toArray, List.getElem_cons_succ, List.getElem_cons_zero, Act.put, List.setIfInBounds_toArray, List.set_cons_zero, List.set_cons_succ]; refine wpAnyH_take (i := 3) (v := .pointer (some ⟨bd, 0, none⟩)) rfl (by kernel_rfl) (by kernel_rfl) (by kernel_rfl) (fun _ _ _ h => h) (Or.inl ⟨by rfl, fun w9 hSw => ?_⟩) hHeld ?_
 · go_simp
 simp only [List.getElem_toArray, List.getElem_cons_succ, List.getElem_cons_zero, Act.put, List.setIfInBounds_toArray, List.set_cons_zero, List.set_cons_succ]; refine wpAnyH_take (i := 4) (v := .pointer (some ⟨bd, 0, none⟩)) rfl (by kernel_rfl) (by kernel_rfl) (by kernel_rfl) (fun _ _ _ h => h) (Or.inl ⟨by rfl, fun w9 hSw => ?_⟩) hHeld ?_
 · go_simp
 simp only [List.getElem_toArray, List.getElem_cons_succ, List.getElem_cons_zero, Act.put, List.setIfInBounds_toArray, List.set_cons_zero, List.set_cons_succ]; refine wpAnyH_take (i := 5) (v := .int .i64 S1.room) rfl (by kernel_rfl) (by kernel_rfl) (by kernel_rfl) (fun _ _ _ h => h) (Or.inl ⟨by rfl, fun w9 hSw => ?_⟩) hHeld ?_
 · have hc : w9.cell? ⟨bd, 0, none⟩ = some (.int .i64 S1.room) := (cell_of_block hSw.1.disk 0).trans rfl
   go_simp
 simp only [List.getElem_toArray, List.getElem_cons_succ, List.getElem_cons_zero, Act.put, List.setIfInBounds_toArray, List.set_cons_zero, List.set_cons_succ]; refine wpAnyH_take (i := 6) (v := .pointer (some ⟨bd, 0, none⟩)) rfl (by kernel_rfl) (by kernel_rfl) (by kernel_rfl) (fun _ _ _ h => h) (Or.inl ⟨by rfl, fun w9 hSw => ?_⟩) hHeld ?_
 · go_simp
 simp only [List.getElem_toArray, List.getElem_cons_succ, List.getElem_cons_zero, Act.put, List.setIfInBounds_toArray, List.set_cons_zero, List.set_cons_succ]; refine wpAnyH_ready (rs := [7]) (by kernel_rfl) (by simp) ?_; refine AllReadyH.cons rfl (fun K hK => ?_) AllReadyH.nil; generalize w1.drew = w2 at hHeld ⊢; go_simp; have hT : total S1 ≤ 4611686018427387904 := by have := HR.out; omega
 refine (used_any hHeld.1 hT).mono ?_; rintro e w3 ⟨rfl, hb3⟩; have hD3 : DiskIs w3 bd S1 ∧ Below w1.heap.size w1 w3 := ⟨hHeld.1.below hb3, hHeld.2.trans (hb3.mono hHeld.2.size)⟩
 clear hHeld hb3; go_wp2_with fail; refine hK.out _ _ hD3 (fun hHeld => ?_); clear hK K; try simp only [List.getElem_toArray, List.getElem_cons_succ, List.getElem_cons_zero, Act.put, List.setIfInBounds_toArray, List.set_cons_zero, List.set_cons_succ]
 have hsub : IntKind.i64.wrap (S1.room - (total S1 : Int)) = S1.room - (total S1 : Int) := by
  have := HR.out; rw [IntKind.wrap_i64]; omega
 have hgt : decide (S1.room - (total S1 : Int) < (bs.length : Int)) = false := by
  have := HR.out; simp; omega
 refine wpAnyH_take (i := 8) (v := .int .i64 (S1.room - (total S1 : Int))) rfl (by kernel_rfl) (by kernel_rfl) (by kernel_rfl) (fun _ _ _ h => h) (Or.inl ⟨by rfl, fun w9 hSw => ?_⟩) hHeld ?_
 · go_simp
 simp only [List.getElem_toArray, List.getElem_cons_succ, List.getElem_cons_zero, Act.put, List.setIfInBounds_toArray, List.set_cons_zero, List.set_cons_succ]; refine wpAnyH_take (i := 9) (v := .bool false) rfl (by kernel_rfl) (by kernel_rfl) (by kernel_rfl) (fun _ _ _ h => h) (Or.inl ⟨by rfl, fun w9 hSw => ?_⟩) hHeld ?_
 · go_simp
 simp only [List.getElem_toArray, List.getElem_cons_succ, List.getElem_cons_zero, Act.put, List.setIfInBounds_toArray, List.set_cons_zero, List.set_cons_succ]; refine wpAnyH_done (by kernel_rfl) ?_ _; have hfile := hD3.1.file _ hm; have hF3 : Fr w w3 S S1 := HF.out.trans (Fr.below hD3.2); have c0 : w3.cell? ⟨g, 0, none⟩ = some (S1.fl s.data.toList).sl := by rw [cell_of_block hfile]; rfl
 have HD3 : Hid (DiskIs w3 bd S1 ∧ Fr w w3 S S1 ∧ BytesV w3 (.slice va bs.length vc) bs) := ⟨hD3.1, hF3, HV.out.1.fr HV.out.2 hF3⟩
 clear hD3 hF3 hfile hsub hgt HF HD1; go_wp2_with (first
  | (at_builtin
     refine wpList_append_b rfl _ _ rfl 0 (S1.fl s.data.toList).sl (.slice va bs.length vc) (S1.fl s.data.toList).bs bs rfl (HD3.out.1.row _ hm) rfl HD3.out.2.2 (by have := HR.out; omega) (Nat.zero_le _) ?_; intro v' w4 ho hg4 ha; obtain ⟨a', cap', hv'⟩ := row_form ho; subst hv'; have hne : (S1.fl s.data.toList).sl.ownBlock ≠ some g := fun e => by
      have h1 := HD3.out.1.rr _ hm g e; rw [HD3.out.1.rf _ hm] at h1; cases h1
     have hfile4 := (hg4.block g (heap_lt (HD3.out.1.file _ hm)) (fun e => hne e.symm)).trans (HD3.out.1.file _ hm); have c4 : w4.cell? ⟨g, 0, none⟩ = some (S1.fl s.data.toList).sl := by rw [cell_of_block hfile4]; rfl
     have f4 : w4.frozen? ⟨g, 0, none⟩ = false := unfrozen_of_block hfile4 0; have H4 : Hid (w4.ownsRow 0 5 1 (.slice a' ((S1.fl s.data.toList).bs ++ bs).length cap') ((S1.fl s.data.toList).bs ++ bs).length (vB ((S1.fl s.data.toList).bs ++ bs)) ∧ w3.grownBy w4 (S1.fl s.data.toList).sl.ownBlock ∧ ((Value.slice a' ((S1.fl s.data.toList).bs ++ bs).length cap').ownBlock = (S1.fl s.data.toList).sl.ownBlock ∨ (Value.slice a' ((S1.fl s.data.toList).bs ++ bs).length cap').ownBlock = some w3.heap.size) ∧ w4.heap[g]? = some (.cells #[(S1.fl s.data.toList).sl, .int .i64 (S1.fl s.data.toList).safe] 116)) := ⟨ho, hg4, ha, hfile4⟩
     clear ho hg4 ha hfile4 hne)
  | go_in)
 go_ret; obtain ⟨ho, hg4, ha, hf4⟩ := H4.out
 generalize hvv : Value.slice a' ((S1.fl s.data.toList).bs ++ bs).length cap' = v' at ho ha; rw [List.length_append] at hvv; simp only [hvv]; have hk : ∀ b, b < w3.heap.size → b ≠ g → (S1.fl s.data.toList).sl.ownBlock ≠ some b → (w4.setCell ⟨g, 0, none⟩ v').heap[b]? = w3.heap[b]? := fun b h1 h2 h3 => (Below.heap_setCell _ _ _ _ h2).trans (hg4.block b h1 (fun e => h3 e.symm))
 have hs4 : w3.heap.size ≤ (w4.setCell ⟨g, 0, none⟩ v').heap.size := by simpa using hg4.size
 refine ⟨rfl, v', w3.heap.size, ?_, HD3.out.2.1.trans (HD3.out.1.frF hm _ hk hs4 ⟨hg4.os, hg4.tape, hg4.output⟩)⟩; refine HD3.out.1.setF hm _ hk hs4 ?_ ?_ (fun b hb => ?_)
 · rw [block_setCell hf4]
   simp
 · refine ownsRow_heap ho (fun b hb => Below.heap_setCell _ _ _ _ (fun e => ?_))
   rcases ha with ha | ha
   · rw [ha] at hb
     have h1 := HD3.out.1.rr _ hm b hb; rw [e, HD3.out.1.rf _ hm] at h1; cases h1
   · rw [ha] at hb
     injection hb with hb
     have := heap_lt (HD3.out.1.file _ hm); simp at e this; omega
 · rcases ha with ha | ha
   · exact Or.inl (by rw [← ha]; exact hb)
   · rw [show ({ sl := v', bs := (S1.fl s.data.toList).bs ++ bs, safe := (S1.fl s.data.toList).safe } : FileC).sl = v' from rfl, ha] at hb
     injection hb with hb
     exact Or.inr (by omega)
end Go.Proofs.YtconkienlcegaaaGreatDoor
