/- RJ, RK -/
import Derived.Test.YtconkienlcegaaaGreatDoorGRI
namespace Go.Proofs.YtconkienlcegaaaGreatDoor
open Go.RowKit Go.Maps Go.Joins
set_option linter.unusedSimpArgs false
set_option linter.unusedVariables false
theorem room_rstS (R : RS) (a b : ByteArray) : (rstS R a b).room = R.room := by
 unfold rstS; split
 · rfl
 · split <;> rfl
def sumA : List RF → Nat
 | [] => 0
 | a :: r => a.bs.length + sumA r
theorem sumA_append : ∀ (a b : List RF), sumA (a ++ b) = sumA a + sumA b
 | [], b => by simp [sumA]
 | x :: r, b => by simp only [List.cons_append, sumA, sumA_append r b]; omega
theorem sumA_succ {A : List RF} {k : Nat} {a : RF} (h : A[k]? = some a) : sumA (A.take (k + 1)) = sumA (A.take k) + a.bs.length := by
 rw [List.take_add_one, h, sumA_append]; simp [sumA]
theorem sumA_le : ∀ (A : List RF) (k : Nat), sumA (A.take k) ≤ sumA A
 | [], k => by simp
 | a :: r, 0 => by simp [sumA]
 | a :: r, k + 1 => by
   have := sumA_le r k; simp only [List.take_succ_cons, sumA]; omega
theorem sumA_mem {A : List RF} {f : RF} (h : f ∈ A) : f.bs.length ≤ sumA A := by
 induction A with
 | nil => cases h
 | cons a r ih =>
   rcases List.mem_cons.1 h with rfl | h
   · simp only [sumA]; omega
   · have := ih h
     simp only [sumA]; omega
theorem BytesV.rfr {w w' : World} {R R' : RS} {v : Value} {bs : List Int} (h : BytesV w v bs) (hr : ∀ b, dBlock v bs = some b → R.own b = 0) (hF : RFr w w' R R') : BytesV w' v bs := by
 rcases h with h | ⟨ad, cap, rfl, hc⟩
 · exact Or.inl h
 · refine Or.inr ⟨ad, cap, rfl, fun j u hu => ?_⟩
   have h1 := hc j u hu; have h2 := cell_lt h1; have h3 : (ad.add j).block = ad.block := by unfold Addr.add; split <;> rfl
   rw [World.cell?_of_block (hF.block _ h2 (by rw [h3]; exact hr _ (by rw [dBlock_vB hu]; rfl)))]; exact h1
set_option maxHeartbeats 4000000 in
theorem rappend_no {w : World} {br : Nat} {R : RS} (h : RefIs w br R) (hp : PlanR R) (hn : Rn R) (s : ByteArray) (hs : s.size ≤ 9223372036854775807) (v : Value) (he : rstE R s s ≠ 0) :
 Calls Tryz.prog 37 #[.pointer (some ⟨br, 0, none⟩), .string s, v] w fun e w' => e = .returned (.int .i64 (rstE R s s)) ∧ RefIs w' br (rstS R s s) ∧ RFr w w' R (rstS R s s) := by
 have HR : Hid (RefIs w br R) := h; have hne : (rstE R s s != 0) = true := by simpa using he
 clear h he; go_enter Tryz.func37, Tryz.ntmps37; go_wp2_with (first
  | (go_at_call 67
     refine (rstep0 HR.out hp s s hs hs hn).mono ?_; generalize hEE : rstE R s s = E at hne ⊢; rintro e w1 ⟨rfl, hR1, hF1⟩; have H1 : Hid (RefIs w1 br (rstS R s s) ∧ RFr w w1 R (rstS R s s)) := ⟨hR1, hF1⟩
     clear hR1 hF1)
  | go_in)
 go_returns
 rw [hEE]; exact ⟨rfl, H1.out⟩
set_option maxRecDepth 100000 in
set_option maxHeartbeats 8000000 in
theorem rappend_big {w : World} {br : Nat} {R : RS} (h : RefIs w br R) (hp : PlanR R) (hn : Rn R) (hl : R.A.length ≤ 100) (s : ByteArray) (hs : s.size ≤ 9223372036854775807) (va : Option Addr) (vc : Nat) (bs : List Int) (hv : BytesV w (.slice va bs.length vc) bs) (hvr : ∀ b, dBlock (.slice va bs.length vc) bs = some b → R.own b = 0) (hb63 : bs.length ≤ 4611686018427387904) (he : rstE R s s = 0) (hi : idxR s R.A = -1) (h16 : 16 ≤ R.A.length) :
 Calls Tryz.prog 37 #[.pointer (some ⟨br, 0, none⟩), .string s, .slice va bs.length vc] w fun e w' => e = .returned (.int .i64 3) ∧ RefIs w' br (rstS R s s) ∧ RFr w w' R (rstS R s s) := by
 have HR : Hid (RefIs w br R) := h; have HV : Hid (BytesV w (.slice va bs.length vc) bs ∧ ∀ b, dBlock (.slice va bs.length vc) bs = some b → R.own b = 0) := ⟨hv, hvr⟩
 have hA := A_rstS R s s; have hrm1 := room_rstS R s s; clear h hv hvr; generalize hS1 : rstS R s s = R1 at *; have hl1 : R1.A.length ≤ 100 := by rw [hA]; exact hl
 rw [← hA] at hi h16; have HAA : Hid (R1.A = R.A) := hA; clear hA hrm1; have hge : (16 : Int) ≤ (R1.A.length : Int) := by omega
 go_enter Tryz.func37, Tryz.ntmps37
 go_wp2_with (first
  | (go_at_call 67
     refine (rstep0 HR.out hp s s hs hs hn).mono ?_; rw [he, hS1]; rintro e w1 ⟨rfl, hR1, hF1⟩; have H1 : Hid (RefIs w1 br R1 ∧ RFr w w1 R R1) := ⟨hR1, hF1⟩
     obtain ⟨la, lcap, hlv⟩ := row_form hR1.list; have c3 : w1.cell? ⟨br, 3, none⟩ = some (.slice la R1.A.length lcap) := by rw [cell_of_block hR1.disk]; simp [rC, hlv]
     have c0 : w1.cell? ⟨br, 0, none⟩ = some (.int .i64 R1.room) := by rw [cell_of_block hR1.disk]; rfl
     clear hR1 hF1)
  | (go_at_call 68
     refine (rat_any H1.out.1 (by omega) s).mono ?_; rw [hi]; rintro e w2 ⟨rfl, hw2⟩; subst hw2)
  | go_in)
 go_ret; exact ⟨rfl, H1.out⟩
set_option maxRecDepth 100000 in
set_option maxHeartbeats 8000000 in
theorem rappend_full_old {w : World} {br : Nat} {R : RS} (h : RefIs w br R) (hp : PlanR R) (hn : Rn R) (hl : R.A.length ≤ 100) (s : ByteArray) (hs : s.size ≤ 9223372036854775807) (va : Option Addr) (vc : Nat) (bs : List Int) (hv : BytesV w (.slice va bs.length vc) bs) (hvr : ∀ b, dBlock (.slice va bs.length vc) bs = some b → R.own b = 0) (hb63 : bs.length ≤ 4611686018427387904) (he : rstE R s s = 0) {k : Nat} {f : RF} (hi : idxR s R.A = (k : Nat)) (hkf : R.A[k]? = some f) (hroom : R.room < (sumA R.A : Int) + bs.length) (hrm : R.room ≤ 1073741824) (hr0 : 0 ≤ R.room) (hT0 : sumA R.A ≤ 1073741824) :
 Calls Tryz.prog 37 #[.pointer (some ⟨br, 0, none⟩), .string s, .slice va bs.length vc] w fun e w' => e = .returned (.int .i64 30) ∧ RefIs w' br (rstS R s s) ∧ RFr w w' R (rstS R s s) := by
 have HR : Hid (RefIs w br R) := h; have HV : Hid (BytesV w (.slice va bs.length vc) bs ∧ ∀ b, dBlock (.slice va bs.length vc) bs = some b → R.own b = 0) := ⟨hv, hvr⟩
 have hA := A_rstS R s s; have hrm1 := room_rstS R s s; clear h hv hvr; generalize hS1 : rstS R s s = R1 at *; have hl1 : R1.A.length ≤ 100 := by rw [hA]; exact hl
 rw [← hA] at hi hkf hroom hT0; rw [← hrm1] at hroom hrm hr0; have HAA : Hid (R1.A = R.A) := hA; clear hA hrm1; have HT : Hid (R1.room < (sumA R1.A : Int) + bs.length ∧ R1.room ≤ 1073741824 ∧ 0 ≤ R1.room ∧ sumA R1.A ≤ 1073741824) := ⟨hroom, hrm, hr0, hT0⟩
 clear hroom hrm hr0 hT0; have hk0 : decide ((k : Int) < 0) = false := by simp <;> omega
 go_enter Tryz.func37, Tryz.ntmps37
 go_wp2_with (first
  | (go_at_call 67
     refine (rstep0 HR.out hp s s hs hs hn).mono ?_; rw [he, hS1]; rintro e w1 ⟨rfl, hR1, hF1⟩; have H1 : Hid (RefIs w1 br R1 ∧ RFr w w1 R R1) := ⟨hR1, hF1⟩
     obtain ⟨la, lcap, hlv⟩ := row_form hR1.list; have c3 : w1.cell? ⟨br, 3, none⟩ = some (.slice la R1.A.length lcap) := by rw [cell_of_block hR1.disk]; simp [rC, hlv]
     have c0 : w1.cell? ⟨br, 0, none⟩ = some (.int .i64 R1.room) := by rw [cell_of_block hR1.disk]; rfl
     clear hR1 hF1)
  | (go_at_call 68
     refine (rat_any H1.out.1 (by omega) s).mono ?_; rw [hi]; rintro e w2 ⟨rfl, hw2⟩; subst hw2)
  | go_in)
 go_loop [9, 10] (fun u i => ∃ j : Nat, j ≤ R1.A.length ∧ i = .int .i64 j ∧ u = .int .i64 (sumA (R1.A.take j) : Nat)) (fun _ i => R1.A.length - (intOf i).toNat)
 case atStart => exact ⟨0, Nat.zero_le _, rfl, rfl⟩
 case round =>
  obtain ⟨j, hj, rfl, rfl⟩ := hrel; by_cases hjl : j < R1.A.length
  · obtain ⟨a, ha⟩ : ∃ a, R1.A[j]? = some a := ⟨_, List.getElem?_eq_getElem hjl⟩
    obtain ⟨g, cap', hv2, _, _, _, hc⟩ := H1.out.1.cell ha; have hc1 := hc 1 _ rfl; obtain ⟨ba, bc, hbv⟩ := row_form (H1.out.1.row a (List.mem_of_getElem? ha)); rw [hbv] at hc1; rw [hlv] at hv2; injection hv2 with hva _ hvc
    subst hva hvc; have hji : (j : Int) < R1.A.length := by omega
    have hsum := sumA_succ ha; have hle := sumA_le R1.A (j + 1); have hT := HT.out; have hbd : ((sumA (R1.A.take j) : Nat) : Int) + (a.bs.length : Int) ≤ 1073741824 := by omega
    clear hc hT hle; go_wp2; go_round
    case rel => exact ⟨j + 1, by omega, by go_num, by rw [hsum]; simp⟩
    case measure => simp [intOf]; omega
  · have hji : decide ((j : Int) < R1.A.length) = false := by simp; omega
    obtain rfl : j = R1.A.length := by omega
    rw [List.take_length]; have hsub : -1073741824 ≤ R1.room - (sumA R1.A : Int) ∧ R1.room - (sumA R1.A : Int) ≤ 1073741824 := by have := HT.out; omega
    have hgt : R1.room - (sumA R1.A : Int) < (bs.length : Int) := by have := HT.out; omega
    go_wp2; go_ret
    exact ⟨rfl, H1.out⟩
set_option maxRecDepth 100000 in
set_option maxHeartbeats 8000000 in
theorem rappend_full_new {w : World} {br : Nat} {R : RS} (h : RefIs w br R) (hp : PlanR R) (hn : Rn R) (hl : R.A.length ≤ 100) (s : ByteArray) (hs : s.size ≤ 9223372036854775807) (va : Option Addr) (vc : Nat) (bs : List Int) (hv : BytesV w (.slice va bs.length vc) bs) (hvr : ∀ b, dBlock (.slice va bs.length vc) bs = some b → R.own b = 0) (hb63 : bs.length ≤ 4611686018427387904) (he : rstE R s s = 0) (hi : idxR s R.A = -1) (h16 : R.A.length < 16) (hroom : R.room < (sumA R.A : Int) + bs.length) (hrm : R.room ≤ 1073741824) (hr0 : 0 ≤ R.room) (hT0 : sumA R.A ≤ 1073741824) :
 Calls Tryz.prog 37 #[.pointer (some ⟨br, 0, none⟩), .string s, .slice va bs.length vc] w fun e w' => e = .returned (.int .i64 30) ∧ RefIs w' br (rstS R s s) ∧ RFr w w' R (rstS R s s) := by
 have HR : Hid (RefIs w br R) := h; have HV : Hid (BytesV w (.slice va bs.length vc) bs ∧ ∀ b, dBlock (.slice va bs.length vc) bs = some b → R.own b = 0) := ⟨hv, hvr⟩
 have hA := A_rstS R s s; have hrm1 := room_rstS R s s; clear h hv hvr; generalize hS1 : rstS R s s = R1 at *; have hl1 : R1.A.length ≤ 100 := by rw [hA]; exact hl
 rw [← hA] at hi h16 hroom hT0; rw [← hrm1] at hroom hrm hr0; have HAA : Hid (R1.A = R.A) := hA; clear hA hrm1; have HT : Hid (R1.room < (sumA R1.A : Int) + bs.length ∧ R1.room ≤ 1073741824 ∧ 0 ≤ R1.room ∧ sumA R1.A ≤ 1073741824) := ⟨hroom, hrm, hr0, hT0⟩
 clear hroom hrm hr0 hT0; have hge : decide ((16 : Int) ≤ (R1.A.length : Int)) = false := by simp; omega
 go_enter Tryz.func37, Tryz.ntmps37
 go_wp2_with (first
  | (go_at_call 67
     refine (rstep0 HR.out hp s s hs hs hn).mono ?_; rw [he, hS1]; rintro e w1 ⟨rfl, hR1, hF1⟩; have H1 : Hid (RefIs w1 br R1 ∧ RFr w w1 R R1) := ⟨hR1, hF1⟩
     obtain ⟨la, lcap, hlv⟩ := row_form hR1.list; have c3 : w1.cell? ⟨br, 3, none⟩ = some (.slice la R1.A.length lcap) := by rw [cell_of_block hR1.disk]; simp [rC, hlv]
     have c0 : w1.cell? ⟨br, 0, none⟩ = some (.int .i64 R1.room) := by rw [cell_of_block hR1.disk]; rfl
     clear hR1 hF1)
  | (go_at_call 68
     refine (rat_any H1.out.1 (by omega) s).mono ?_; rw [hi]; rintro e w2 ⟨rfl, hw2⟩; subst hw2)
  | go_in)
 go_loop [9, 10] (fun u i => ∃ j : Nat, j ≤ R1.A.length ∧ i = .int .i64 j ∧ u = .int .i64 (sumA (R1.A.take j) : Nat)) (fun _ i => R1.A.length - (intOf i).toNat)
 case atStart => exact ⟨0, Nat.zero_le _, rfl, rfl⟩
 case round =>
  obtain ⟨j, hj, rfl, rfl⟩ := hrel; by_cases hjl : j < R1.A.length
  · obtain ⟨a, ha⟩ : ∃ a, R1.A[j]? = some a := ⟨_, List.getElem?_eq_getElem hjl⟩
    obtain ⟨g, cap', hv2, _, _, _, hc⟩ := H1.out.1.cell ha; have hc1 := hc 1 _ rfl; obtain ⟨ba, bc, hbv⟩ := row_form (H1.out.1.row a (List.mem_of_getElem? ha)); rw [hbv] at hc1; rw [hlv] at hv2; injection hv2 with hva _ hvc
    subst hva hvc; have hji : (j : Int) < R1.A.length := by omega
    have hsum := sumA_succ ha; have hle := sumA_le R1.A (j + 1); have hT := HT.out; have hbd : ((sumA (R1.A.take j) : Nat) : Int) + (a.bs.length : Int) ≤ 1073741824 := by omega
    clear hc hT hle; go_wp2; go_round
    case rel => exact ⟨j + 1, by omega, by go_num, by rw [hsum]; simp⟩
    case measure => simp [intOf]; omega
  · have hji : decide ((j : Int) < R1.A.length) = false := by simp; omega
    obtain rfl : j = R1.A.length := by omega
    rw [List.take_length]; have hsub : -1073741824 ≤ R1.room - (sumA R1.A : Int) ∧ R1.room - (sumA R1.A : Int) ≤ 1073741824 := by have := HT.out; omega
    have hgt : R1.room - (sumA R1.A : Int) < (bs.length : Int) := by have := HT.out; omega
    go_wp2; go_ret
    exact ⟨rfl, H1.out⟩
set_option maxRecDepth 100000 in
set_option maxHeartbeats 8000000 in
theorem rappend_ok_old {w : World} {br : Nat} {R : RS} (h : RefIs w br R) (hp : PlanR R) (hn : Rn R) (hl : R.A.length ≤ 100) (s : ByteArray) (hs : s.size ≤ 9223372036854775807) (va : Option Addr) (vc : Nat) (bs : List Int) (hv : BytesV w (.slice va bs.length vc) bs) (hvr : ∀ b, dBlock (.slice va bs.length vc) bs = some b → R.own b = 0) (hb63 : bs.length ≤ 4611686018427387904) (he : rstE R s s = 0) {k : Nat} {f : RF} (hi : idxR s R.A = (k : Nat)) (hkf : R.A[k]? = some f) (hroom : (sumA R.A : Int) + bs.length ≤ R.room) (hrm : R.room ≤ 1073741824) :
 Calls Tryz.prog 37 #[.pointer (some ⟨br, 0, none⟩), .string s, .slice va bs.length vc] w fun e w' => e = .returned (.int .i64 0) ∧ ∃ ov bv, RefIs w' br (setA (rstS R s s) ov (putR { f with bv := bv, bs := f.bs ++ bs } R.A) bv.ownBlock) ∧ RFr w w' R (setA (rstS R s s) ov (putR { f with bv := bv, bs := f.bs ++ bs } R.A) bv.ownBlock) ∧ ∃ a l c, bv = .slice a l c := by
 have HR : Hid (RefIs w br R) := h; have HV : Hid (BytesV w (.slice va bs.length vc) bs ∧ ∀ b, dBlock (.slice va bs.length vc) bs = some b → R.own b = 0) := ⟨hv, hvr⟩
 have hA := A_rstS R s s; have hrm1 := room_rstS R s s; clear h hv hvr; generalize hS1 : rstS R s s = R1 at *; have hl1 : R1.A.length ≤ 100 := by rw [hA]; exact hl
 rw [← hA] at hi hkf hroom; rw [← hrm1] at hroom hrm; have HAA : Hid (R1.A = R.A) := hA; clear hA hrm1; have HT : Hid ((sumA R1.A : Int) + bs.length ≤ R1.room ∧ R1.room ≤ 1073741824 ∧ sumA R1.A ≤ 1073741824) := ⟨hroom, hrm, by omega⟩
 have hbl : (bs.length : Int) ≤ 1073741824 := by omega
 clear hroom hrm; have hk0 : decide ((k : Int) < 0) = false := by simp <;> omega
 go_enter Tryz.func37, Tryz.ntmps37
 go_wp2_with (first
  | (go_at_call 67
     refine (rstep0 HR.out hp s s hs hs hn).mono ?_; rw [he, hS1]; rintro e w1 ⟨rfl, hR1, hF1⟩; have H1 : Hid (RefIs w1 br R1 ∧ RFr w w1 R R1) := ⟨hR1, hF1⟩
     obtain ⟨la, lcap, hlv⟩ := row_form hR1.list; have c3 : w1.cell? ⟨br, 3, none⟩ = some (.slice la R1.A.length lcap) := by rw [cell_of_block hR1.disk]; simp [rC, hlv]
     have c0 : w1.cell? ⟨br, 0, none⟩ = some (.int .i64 R1.room) := by rw [cell_of_block hR1.disk]; rfl
     clear hR1 hF1)
  | (go_at_call 68
     refine (rat_any H1.out.1 (by omega) s).mono ?_; rw [hi]; rintro e w2 ⟨rfl, hw2⟩; subst hw2)
  | go_in)
 go_loop [9, 10] (fun u i => ∃ j : Nat, j ≤ R1.A.length ∧ i = .int .i64 j ∧ u = .int .i64 (sumA (R1.A.take j) : Nat)) (fun _ i => R1.A.length - (intOf i).toNat)
 case atStart => exact ⟨0, Nat.zero_le _, rfl, rfl⟩
 case round =>
  obtain ⟨j, hj, rfl, rfl⟩ := hrel; by_cases hjl : j < R1.A.length
  · obtain ⟨a, ha⟩ : ∃ a, R1.A[j]? = some a := ⟨_, List.getElem?_eq_getElem hjl⟩
    obtain ⟨g, cap', hv2, _, _, _, hc⟩ := H1.out.1.cell ha; have hc1 := hc 1 _ rfl; obtain ⟨ba, bc, hbv⟩ := row_form (H1.out.1.row a (List.mem_of_getElem? ha)); rw [hbv] at hc1; rw [hlv] at hv2; injection hv2 with hva _ hvc
    subst hva hvc; have hji : (j : Int) < R1.A.length := by omega
    have hsum := sumA_succ ha; have hle := sumA_le R1.A (j + 1); have hT := HT.out; have hbd : ((sumA (R1.A.take j) : Nat) : Int) + (a.bs.length : Int) ≤ 1073741824 := by omega
    clear hc hT hle; go_wp2; go_round
    case rel => exact ⟨j + 1, by omega, by go_num, by rw [hsum]; simp⟩
    case measure => simp [intOf]; omega
  · have hji : decide ((j : Int) < R1.A.length) = false := by simp; omega
    obtain rfl : j = R1.A.length := by omega
    rw [List.take_length]; have hsub : -1073741824 ≤ R1.room - (sumA R1.A : Int) ∧ R1.room - (sumA R1.A : Int) ≤ 1073741824 := by have := HT.out; omega
    have hgt : decide (R1.room - (sumA R1.A : Int) < (bs.length : Int)) = false := by have := HT.out; simp; omega
    obtain ⟨g, cap', hv2, _, hgl, _, hc⟩ := H1.out.1.cell hkf; rw [hlv] at hv2; injection hv2 with hva _ hvc
    subst hva hvc; have hk1 : (k : Int) < R1.A.length := by have := (List.getElem?_eq_some_iff.1 hkf).1; omega
    obtain ⟨ba, bc, hbv⟩ := row_form (H1.out.1.row f (List.mem_of_getElem? hkf)); have hZ : ∀ (o : Obj), ∀ jj vv, (rfC f)[jj]? = some vv → (w2.alloc o).cell? ⟨g, k * 3 + jj, none⟩ = some vv := fun o jj vv hjj => (World.cell?_alloc_past _ _ _ hgl).trans (hc jj vv hjj)
    have z0 := hZ (.cells #[.string s, .slice none 0 0, .int .i64 0] 119) 0 _ rfl; rw [Nat.add_zero] at z0; have z1 := hZ (.cells #[.string s, .slice none 0 0, .int .i64 0] 119) 1 _ rfl; rw [hbv] at z1; have z2 := hZ (.cells #[.string s, .slice none 0 0, .int .i64 0] 119) 2 _ rfl; have z3 : (w2.alloc (.cells #[.string s, .slice none 0 0, .int .i64 0] 119)).cell? ⟨br, 3, none⟩ = some (.slice (some ⟨g, 0, none⟩) R1.A.length lcap) := (World.cell?_alloc_past _ _ _ H1.out.1.lt).trans c3; clear hc hZ; have hk0' : (0 : Int) ≤ (k : Int) := by omega
    have HV2 : Hid (BytesV w2 (.slice va bs.length vc) bs) := HV.out.1.rfr HV.out.2 H1.out.2; have HB0 : Hid (BytesV ((w2.alloc (.cells #[.string f.nm, .slice ba f.bs.length bc, .int .i64 f.sf] 119)).alloc (.cells #[] 5)) (.slice ba f.bs.length bc) f.bs) := by
     have hby := BytesV.of_own (H1.out.1.row f (List.mem_of_getElem? hkf)); rw [hbv] at hby
     exact BytesV.below hby (by go_grown)
    have HL0 : Hid (f.bs.length + bs.length ≤ 1073741824) := by
     have h1 := HT.out; have h2 := sumA_mem (List.mem_of_getElem? hkf); show _ ≤ _; omega
    have TK : Hid True := trivial; go_wp2_with (first
     | (at_builtin
        clear TK; refine wpList_append_b rfl _ _ rfl (w2.heap.size + 1) (.slice (some ⟨w2.heap.size + 1, 0, none⟩) 0 0) (.slice ba f.bs.length bc) [] f.bs rfl ⟨rfl, Or.inr ⟨w2.heap.size + 1, 0, #[], by simp, Nat.le_refl _, by have := heap_alloc_new (w2.alloc (.cells #[.string f.nm, .slice ba f.bs.length bc, .int .i64 f.sf] 119)) (.cells #[] 5); simpa using this, Nat.le_refl _, by decide, rfl, rfl⟩⟩ rfl HB0.out (by have := HL0.out; simp only [List.length_nil, Nat.zero_add]; omega) (by simp) ?_; intro v1 w3 ho3 hg3 ha3; rw [List.nil_append] at ho3; have hB3 : Below w2.heap.size w2 w3 := (((Below.refl _ w2).alloc (Nat.le_refl _) _).alloc (by simp) _).grown hg3 (by simp; omega) (fun jj hjj => by have h9 : w2.heap.size + 1 = jj := (by simpa [Value.ownBlock] using hjj); omega); have hx3 : w3.heap[w2.heap.size]? = some (.cells #[.string f.nm, .slice ba f.bs.length bc, .int .i64 f.sf] 119) := (hg3.block w2.heap.size (by simp; omega) (fun e => by simp [Value.ownBlock] at e)).trans ((Below.heap_alloc _ _ _ (by simp)).trans (heap_alloc_new _ _)); have H3 : Hid (w3.ownsRow (w2.heap.size + 1) 5 1 v1 f.bs.length (vB f.bs) ∧ Below w2.heap.size w2 w3 ∧ w3.heap[w2.heap.size]? = some (.cells #[.string f.nm, .slice ba f.bs.length bc, .int .i64 f.sf] 119)) := ⟨ho3, hB3, hx3⟩
        clear ho3 hg3 ha3 hB3 hx3 HB0)
     | (at_builtin
        refine wpList_append_b rfl _ _ rfl (w2.heap.size + 1) v1 (.slice va bs.length vc) f.bs bs rfl H3.out.1 rfl (HV2.out.below H3.out.2.1) (by have := HL0.out; omega) (by have := heap_lt H3.out.2.2; omega) ?_; intro v4 w4 ho4 hg4 ha4; obtain ⟨a4, c4, hv4⟩ := row_form ho4; rw [List.length_append] at hv4; subst hv4; have hne4 : ∀ jj, v1.ownBlock = some jj → w2.heap.size + 1 ≤ jj := fun jj hjj => (H3.out.1.lt jj hjj).1
        have hB4 : Below w2.heap.size w2 w4 := H3.out.2.1.grown hg4 H3.out.2.1.size (fun jj hjj => by have := hne4 jj hjj; omega); have hx4 : w4.heap[w2.heap.size]? = some (.cells #[.string f.nm, .slice ba f.bs.length bc, .int .i64 f.sf] 119) := (hg4.block w2.heap.size (heap_lt H3.out.2.2) (fun e => by have := hne4 _ e.symm; omega)).trans H3.out.2.2; have y0 : w4.cell? ⟨w2.heap.size, 0, none⟩ = some (.string f.nm) := by rw [cell_of_block hx4]; rfl
        have y1 : w4.cell? ⟨w2.heap.size, 1, none⟩ = some (.slice ba f.bs.length bc) := by rw [cell_of_block hx4]; rfl
        have y2 : w4.cell? ⟨w2.heap.size, 2, none⟩ = some (.int .i64 f.sf) := by rw [cell_of_block hx4]; rfl
        have yf : w4.frozen? ⟨w2.heap.size, 1, none⟩ = false := unfrozen_of_block hx4 1; have H4 : Hid (w4.ownsRow (w2.heap.size + 1) 5 1 (.slice a4 (f.bs.length + bs.length) c4) (f.bs ++ bs).length (vB (f.bs ++ bs)) ∧ Below w2.heap.size w2 w4) := ⟨ho4, hB4⟩
        clear ho4 hg4 ha4 hne4 hB4 hx4)
     | (go_at_call 69
        have hBY : Below w2.heap.size w2 (w4.setCell ⟨w2.heap.size, 1, none⟩ (.slice a4 (f.bs.length + bs.length) c4)) := ⟨H4.out.2.os, H4.out.2.tape, H4.out.2.output, by simpa using H4.out.2.size, fun b hb => (Below.heap_setCell _ _ _ _ (fun e => by have e' : b = w2.heap.size := e; omega)).trans (H4.out.2.block b hb)⟩
        have hY : RefIs (w4.setCell ⟨w2.heap.size, 1, none⟩ (.slice a4 (f.bs.length + bs.length) c4)) br R1 := H1.out.1.below hBY; refine Calls.mono (rput_any hY hl1 { nm := f.nm, bv := .slice a4 (f.bs.length + bs.length) c4, bs := (f.bs ++ bs), sf := f.sf } ⟨_, _, _, rfl⟩) ?_; rintro e w5 ⟨rfl, ov, ho5, hd5, hG5⟩; have H5 : Hid (Below w2.heap.size w2 (w4.setCell ⟨w2.heap.size, 1, none⟩ (.slice a4 (f.bs.length + bs.length) c4)) ∧ RefIs (w4.setCell ⟨w2.heap.size, 1, none⟩ (.slice a4 (f.bs.length + bs.length) c4)) br R1 ∧ w5.ownsRow ((w4.setCell ⟨w2.heap.size, 1, none⟩ (.slice a4 (f.bs.length + bs.length) c4)).heap.size + 1) 119 3 ov (putR { nm := f.nm, bv := .slice a4 (f.bs.length + bs.length) c4, bs := (f.bs ++ bs), sf := f.sf } R1.A).length (rfL (putR { nm := f.nm, bv := .slice a4 (f.bs.length + bs.length) c4, bs := (f.bs ++ bs), sf := f.sf } R1.A)) ∧ w5.heap[br]? = some (.cells (rC { R1 with lv := ov }) 55) ∧ (w4.setCell ⟨w2.heap.size, 1, none⟩ (.slice a4 (f.bs.length + bs.length) c4)).grownBy w5 (some br)) := ⟨hBY, hY, ho5, hd5, hG5⟩
        clear hBY hY ho5 hd5 hG5)
     | go_in)
    go_ret; obtain ⟨hBY, hY, ho5, hd5, hG5⟩ := H5.out
    have hv5 : ∀ b, (Value.slice a4 (f.bs.length + bs.length) c4).ownBlock = some b → w2.heap.size + 1 ≤ b := fun b hb => (H4.out.1.lt b hb).1
    have hrow5 : (w4.setCell ⟨w2.heap.size, 1, none⟩ (.slice a4 (f.bs.length + bs.length) c4)).ownsRow 0 5 1 (.slice a4 (f.bs.length + bs.length) c4) (f.bs ++ bs).length (vB (f.bs ++ bs)) := ownsRow_heap (ownsRow_le H4.out.1 (Nat.zero_le _)) (fun b hb => Below.heap_setCell _ _ _ _ (fun e => by have e' : b = w2.heap.size := e; have := hv5 b hb; omega)); have hfin := hY.putL { nm := f.nm, bv := .slice a4 (f.bs.length + bs.length) c4, bs := (f.bs ++ bs), sf := f.sf } ov ho5 hd5 hG5 hrow5 (fun b hb => Or.inl (H1.out.1.fresh b (by have := hv5 b hb; omega))) (H1.out.1.nm f (List.mem_of_getElem? hkf)); rw [HAA.out] at hfin; have hsY : w2.heap.size ≤ (w4.setCell ⟨w2.heap.size, 1, none⟩ (.slice a4 (f.bs.length + bs.length) c4)).heap.size := hBY.size; have hov : ∀ b, ov.ownBlock = some b → w2.heap.size ≤ b := fun b hb => by have := (ho5.lt b hb).1; omega
    refine ⟨rfl, ov, _, hfin, H1.out.2.trans ⟨hG5.os.trans hBY.os, hG5.tape.trans hBY.tape, hG5.output.trans hBY.output, Nat.le_trans hsY hG5.size, fun b hb hr => ?_, fun b hb hr => ?_⟩, _, _, _, rfl⟩
    · exact (hG5.block b (Nat.lt_of_lt_of_le hb hsY) (fun e => by injection e with e; rw [e, H1.out.1.rd] at hr; cases hr)).trans (hBY.block b hb)
    · rw [own_setA (z := w2.heap.size) hov hb (fun e => by have := hv5 b e; omega)]
      exact hr
set_option maxRecDepth 100000 in
set_option maxHeartbeats 8000000 in
theorem rappend_ok_new {w : World} {br : Nat} {R : RS} (h : RefIs w br R) (hp : PlanR R) (hn : Rn R) (hl : R.A.length ≤ 100) (s : ByteArray) (hs : s.size ≤ 9223372036854775807) (va : Option Addr) (vc : Nat) (bs : List Int) (hv : BytesV w (.slice va bs.length vc) bs) (hvr : ∀ b, dBlock (.slice va bs.length vc) bs = some b → R.own b = 0) (hb63 : bs.length ≤ 4611686018427387904) (he : rstE R s s = 0) (hi : idxR s R.A = -1) (h16 : R.A.length < 16) (hroom : (sumA R.A : Int) + bs.length ≤ R.room) (hrm : R.room ≤ 1073741824) :
 Calls Tryz.prog 37 #[.pointer (some ⟨br, 0, none⟩), .string s, .slice va bs.length vc] w fun e w' => e = .returned (.int .i64 0) ∧ ∃ ov bv, RefIs w' br (setA (rstS R s s) ov (putR { nm := s, bv := bv, bs := bs, sf := 0 } R.A) bv.ownBlock) ∧ RFr w w' R (setA (rstS R s s) ov (putR { nm := s, bv := bv, bs := bs, sf := 0 } R.A) bv.ownBlock) ∧ ∃ a l c, bv = .slice a l c := by
 have HR : Hid (RefIs w br R) := h; have HV : Hid (BytesV w (.slice va bs.length vc) bs ∧ ∀ b, dBlock (.slice va bs.length vc) bs = some b → R.own b = 0) := ⟨hv, hvr⟩
 have hA := A_rstS R s s; have hrm1 := room_rstS R s s; clear h hv hvr; generalize hS1 : rstS R s s = R1 at *; have hl1 : R1.A.length ≤ 100 := by rw [hA]; exact hl
 rw [← hA] at hi h16 hroom; rw [← hrm1] at hroom hrm; have HAA : Hid (R1.A = R.A) := hA; clear hA hrm1; have HT : Hid ((sumA R1.A : Int) + bs.length ≤ R1.room ∧ R1.room ≤ 1073741824 ∧ sumA R1.A ≤ 1073741824) := ⟨hroom, hrm, by omega⟩
 have hbl : (bs.length : Int) ≤ 1073741824 := by omega
 clear hroom hrm; have hge : decide ((16 : Int) ≤ (R1.A.length : Int)) = false := by simp; omega
 go_enter Tryz.func37, Tryz.ntmps37
 go_wp2_with (first
  | (go_at_call 67
     refine (rstep0 HR.out hp s s hs hs hn).mono ?_; rw [he, hS1]; rintro e w1 ⟨rfl, hR1, hF1⟩; have H1 : Hid (RefIs w1 br R1 ∧ RFr w w1 R R1) := ⟨hR1, hF1⟩
     obtain ⟨la, lcap, hlv⟩ := row_form hR1.list; have c3 : w1.cell? ⟨br, 3, none⟩ = some (.slice la R1.A.length lcap) := by rw [cell_of_block hR1.disk]; simp [rC, hlv]
     have c0 : w1.cell? ⟨br, 0, none⟩ = some (.int .i64 R1.room) := by rw [cell_of_block hR1.disk]; rfl
     clear hR1 hF1)
  | (go_at_call 68
     refine (rat_any H1.out.1 (by omega) s).mono ?_; rw [hi]; rintro e w2 ⟨rfl, hw2⟩; subst hw2)
  | go_in)
 go_loop [9, 10] (fun u i => ∃ j : Nat, j ≤ R1.A.length ∧ i = .int .i64 j ∧ u = .int .i64 (sumA (R1.A.take j) : Nat)) (fun _ i => R1.A.length - (intOf i).toNat)
 case atStart => exact ⟨0, Nat.zero_le _, rfl, rfl⟩
 case round =>
  obtain ⟨j, hj, rfl, rfl⟩ := hrel; by_cases hjl : j < R1.A.length
  · obtain ⟨a, ha⟩ : ∃ a, R1.A[j]? = some a := ⟨_, List.getElem?_eq_getElem hjl⟩
    obtain ⟨g, cap', hv2, _, _, _, hc⟩ := H1.out.1.cell ha; have hc1 := hc 1 _ rfl; obtain ⟨ba, bc, hbv⟩ := row_form (H1.out.1.row a (List.mem_of_getElem? ha)); rw [hbv] at hc1; rw [hlv] at hv2; injection hv2 with hva _ hvc
    subst hva hvc; have hji : (j : Int) < R1.A.length := by omega
    have hsum := sumA_succ ha; have hle := sumA_le R1.A (j + 1); have hT := HT.out; have hbd : ((sumA (R1.A.take j) : Nat) : Int) + (a.bs.length : Int) ≤ 1073741824 := by omega
    clear hc hT hle; go_wp2; go_round
    case rel => exact ⟨j + 1, by omega, by go_num, by rw [hsum]; simp⟩
    case measure => simp [intOf]; omega
  · have hji : decide ((j : Int) < R1.A.length) = false := by simp; omega
    obtain rfl : j = R1.A.length := by omega
    rw [List.take_length]; have hsub : -1073741824 ≤ R1.room - (sumA R1.A : Int) ∧ R1.room - (sumA R1.A : Int) ≤ 1073741824 := by have := HT.out; omega
    have hgt : decide (R1.room - (sumA R1.A : Int) < (bs.length : Int)) = false := by have := HT.out; simp; omega
    have HV2 : Hid (BytesV w2 (.slice va bs.length vc) bs) := HV.out.1.rfr HV.out.2 H1.out.2; have HB0 : Hid (BytesV ((w2.alloc (.cells #[.string s, .slice none 0 0, .int .i64 0] 119)).alloc (.cells #[] 5)) (.slice none 0 0) ([] : List Int)) := by
     exact Or.inl ⟨rfl, rfl⟩
    have HL0 : Hid (([] : List Int).length + bs.length ≤ 1073741824) := by
     show _ ≤ _; simp; omega
    have TK : Hid True := trivial; go_wp2_with (first
     | (at_builtin
        clear TK; refine wpList_append_b rfl _ _ rfl (w2.heap.size + 1) (.slice (some ⟨w2.heap.size + 1, 0, none⟩) 0 0) (.slice none 0 0) [] ([] : List Int) rfl ⟨rfl, Or.inr ⟨w2.heap.size + 1, 0, #[], by simp, Nat.le_refl _, by have := heap_alloc_new (w2.alloc (.cells #[.string s, .slice none 0 0, .int .i64 0] 119)) (.cells #[] 5); simpa using this, Nat.le_refl _, by decide, rfl, rfl⟩⟩ rfl HB0.out (by have := HL0.out; simp only [List.length_nil, Nat.zero_add]; omega) (by simp) ?_; intro v1 w3 ho3 hg3 ha3; rw [List.nil_append] at ho3; have hB3 : Below w2.heap.size w2 w3 := (((Below.refl _ w2).alloc (Nat.le_refl _) _).alloc (by simp) _).grown hg3 (by simp; omega) (fun jj hjj => by have h9 : w2.heap.size + 1 = jj := (by simpa [Value.ownBlock] using hjj); omega); have hx3 : w3.heap[w2.heap.size]? = some (.cells #[.string s, .slice none 0 0, .int .i64 0] 119) := (hg3.block w2.heap.size (by simp; omega) (fun e => by simp [Value.ownBlock] at e)).trans ((Below.heap_alloc _ _ _ (by simp)).trans (heap_alloc_new _ _)); have H3 : Hid (w3.ownsRow (w2.heap.size + 1) 5 1 v1 ([] : List Int).length (vB ([] : List Int)) ∧ Below w2.heap.size w2 w3 ∧ w3.heap[w2.heap.size]? = some (.cells #[.string s, .slice none 0 0, .int .i64 0] 119)) := ⟨ho3, hB3, hx3⟩
        clear ho3 hg3 ha3 hB3 hx3 HB0)
     | (at_builtin
        refine wpList_append_b rfl _ _ rfl (w2.heap.size + 1) v1 (.slice va bs.length vc) ([] : List Int) bs rfl H3.out.1 rfl (HV2.out.below H3.out.2.1) (by have := HL0.out; omega) (by have := heap_lt H3.out.2.2; omega) ?_; intro v4 w4 ho4 hg4 ha4; rw [List.nil_append] at ho4; obtain ⟨a4, c4, hv4⟩ := row_form ho4; subst hv4; have hne4 : ∀ jj, v1.ownBlock = some jj → w2.heap.size + 1 ≤ jj := fun jj hjj => (H3.out.1.lt jj hjj).1
        have hB4 : Below w2.heap.size w2 w4 := H3.out.2.1.grown hg4 H3.out.2.1.size (fun jj hjj => by have := hne4 jj hjj; omega); have hx4 : w4.heap[w2.heap.size]? = some (.cells #[.string s, .slice none 0 0, .int .i64 0] 119) := (hg4.block w2.heap.size (heap_lt H3.out.2.2) (fun e => by have := hne4 _ e.symm; omega)).trans H3.out.2.2; have y0 : w4.cell? ⟨w2.heap.size, 0, none⟩ = some (.string s) := by rw [cell_of_block hx4]; rfl
        have y1 : w4.cell? ⟨w2.heap.size, 1, none⟩ = some (.slice none 0 0) := by rw [cell_of_block hx4]; rfl
        have y2 : w4.cell? ⟨w2.heap.size, 2, none⟩ = some (.int .i64 0) := by rw [cell_of_block hx4]; rfl
        have yf : w4.frozen? ⟨w2.heap.size, 1, none⟩ = false := unfrozen_of_block hx4 1; have H4 : Hid (w4.ownsRow (w2.heap.size + 1) 5 1 (.slice a4 (bs.length) c4) bs.length (vB bs) ∧ Below w2.heap.size w2 w4) := ⟨ho4, hB4⟩
        clear ho4 hg4 ha4 hne4 hB4 hx4)
     | (go_at_call 69
        have hBY : Below w2.heap.size w2 (w4.setCell ⟨w2.heap.size, 1, none⟩ (.slice a4 (bs.length) c4)) := ⟨H4.out.2.os, H4.out.2.tape, H4.out.2.output, by simpa using H4.out.2.size, fun b hb => (Below.heap_setCell _ _ _ _ (fun e => by have e' : b = w2.heap.size := e; omega)).trans (H4.out.2.block b hb)⟩
        have hY : RefIs (w4.setCell ⟨w2.heap.size, 1, none⟩ (.slice a4 (bs.length) c4)) br R1 := H1.out.1.below hBY; refine Calls.mono (rput_any hY hl1 { nm := s, bv := .slice a4 (bs.length) c4, bs := bs, sf := 0 } ⟨_, _, _, rfl⟩) ?_; rintro e w5 ⟨rfl, ov, ho5, hd5, hG5⟩; have H5 : Hid (Below w2.heap.size w2 (w4.setCell ⟨w2.heap.size, 1, none⟩ (.slice a4 (bs.length) c4)) ∧ RefIs (w4.setCell ⟨w2.heap.size, 1, none⟩ (.slice a4 (bs.length) c4)) br R1 ∧ w5.ownsRow ((w4.setCell ⟨w2.heap.size, 1, none⟩ (.slice a4 (bs.length) c4)).heap.size + 1) 119 3 ov (putR { nm := s, bv := .slice a4 (bs.length) c4, bs := bs, sf := 0 } R1.A).length (rfL (putR { nm := s, bv := .slice a4 (bs.length) c4, bs := bs, sf := 0 } R1.A)) ∧ w5.heap[br]? = some (.cells (rC { R1 with lv := ov }) 55) ∧ (w4.setCell ⟨w2.heap.size, 1, none⟩ (.slice a4 (bs.length) c4)).grownBy w5 (some br)) := ⟨hBY, hY, ho5, hd5, hG5⟩
        clear hBY hY ho5 hd5 hG5)
     | go_in)
    go_ret; obtain ⟨hBY, hY, ho5, hd5, hG5⟩ := H5.out
    have hv5 : ∀ b, (Value.slice a4 (bs.length) c4).ownBlock = some b → w2.heap.size + 1 ≤ b := fun b hb => (H4.out.1.lt b hb).1
    have hrow5 : (w4.setCell ⟨w2.heap.size, 1, none⟩ (.slice a4 (bs.length) c4)).ownsRow 0 5 1 (.slice a4 (bs.length) c4) bs.length (vB bs) := ownsRow_heap (ownsRow_le H4.out.1 (Nat.zero_le _)) (fun b hb => Below.heap_setCell _ _ _ _ (fun e => by have e' : b = w2.heap.size := e; have := hv5 b hb; omega)); have hfin := hY.putL { nm := s, bv := .slice a4 (bs.length) c4, bs := bs, sf := 0 } ov ho5 hd5 hG5 hrow5 (fun b hb => Or.inl (H1.out.1.fresh b (by have := hv5 b hb; omega))) hs; rw [HAA.out] at hfin; have hsY : w2.heap.size ≤ (w4.setCell ⟨w2.heap.size, 1, none⟩ (.slice a4 (bs.length) c4)).heap.size := hBY.size; have hov : ∀ b, ov.ownBlock = some b → w2.heap.size ≤ b := fun b hb => by have := (ho5.lt b hb).1; omega
    refine ⟨rfl, ov, _, hfin, H1.out.2.trans ⟨hG5.os.trans hBY.os, hG5.tape.trans hBY.tape, hG5.output.trans hBY.output, Nat.le_trans hsY hG5.size, fun b hb hr => ?_, fun b hb hr => ?_⟩, _, _, _, rfl⟩
    · exact (hG5.block b (Nat.lt_of_lt_of_le hb hsY) (fun e => by injection e with e; rw [e, H1.out.1.rd] at hr; cases hr)).trans (hBY.block b hb)
    · rw [own_setA (z := w2.heap.size) hov hb (fun e => by have := hv5 b e; omega)]
      exact hr
end Go.Proofs.YtconkienlcegaaaGreatDoor
