/- RI, RJ -/
import Derived.Test.YtoplejbmgpgkhaaGreatDoorRH
namespace Go.Proofs.YtoplejbmgpgkhaaGreatDoor
open Go.RowKit Go.Maps Go.Joins
set_option linter.unusedSimpArgs false
set_option linter.unusedVariables false
theorem own_setA {R : RS} {ov : Value} {A : List RF} {ex : Option Nat} {z b : Nat} (hov : ∀ b, ov.ownBlock = some b → z ≤ b) (hb : b < z) (hex : ex ≠ some b) : (setA R ov A ex).own b = R.own b := by
  show (if _ then _ else if _ then _ else _) = _
  rw [if_neg (fun e => by have := hov b e; omega), if_neg hex]
/-- What put leaves. -/
theorem RefIs.putL {w w' : World} {br : Nat} {R : RS} (h : RefIs w br R) (f : RF) (ov : Value) (hl : w'.ownsRow (w.heap.size + 1) 103 3 ov (putR f R.A).length (rfL (putR f R.A))) (hd : w'.heap[br]? = some (.cells (rC { R with lv := ov }) 57)) (hG : w.grownBy w' (some br))
    (hr : w.ownsRow 0 5 1 f.bv f.bs.length (vB f.bs)) (hown : ∀ b, f.bv.ownBlock = some b → R.own b = 0 ∨ R.own b = 3) (hn : f.nm.size ≤ 9223372036854775807) : RefIs w' br (setA R ov (putR f R.A) f.bv.ownBlock) := by
  refine h.setL ov (putR f R.A) f.bv.ownBlock (fun b h1 h2 => hG.block b h1 (fun e => by injection e with e; exact h2 e)) hG.size hd (ownsRow_le hl (by omega)) (fun b hb => ⟨(hr.lt b hb).2, hown b hb⟩) (fun x hx => ?_)
  rcases putR_mem hx with hx | rfl
  · exact Or.inl hx
  · refine Or.inr ⟨ownsRow_heap hr (fun b hb => hG.block b (hr.lt b hb).2 (fun e => ?_)), rfl, hn⟩
    injection e with e
    have := hown b hb
    rw [e, h.rd] at this
    rcases this with h1 | h1 <;> cases h1
end Go.Proofs.YtoplejbmgpgkhaaGreatDoor
namespace Go.Proofs.YtoplejbmgpgkhaaGreatDoor
open Go.RowKit Go.Maps Go.Joins
set_option linter.unusedSimpArgs false
set_option linter.unusedVariables false
theorem room_rstS (R : RS) (a b : ByteArray) : (rstS R a b).room = R.room := by
  unfold rstS
  split
  · rfl
  · split <;> rfl
def sumA : List RF → Nat
  | [] => 0
  | a :: r => a.bs.length + sumA r
theorem sumA_append : ∀ (a b : List RF), sumA (a ++ b) = sumA a + sumA b
  | [], b => by simp [sumA]
  | x :: r, b => by simp only [List.cons_append, sumA, sumA_append r b]; omega
theorem sumA_succ {A : List RF} {k : Nat} {a : RF} (h : A[k]? = some a) : sumA (A.take (k + 1)) = sumA (A.take k) + a.bs.length := by
  rw [List.take_add_one, h, sumA_append]
  simp [sumA]
theorem sumA_le : ∀ (A : List RF) (k : Nat), sumA (A.take k) ≤ sumA A
  | [], k => by simp
  | a :: r, 0 => by simp [sumA]
  | a :: r, k + 1 => by
    have := sumA_le r k
    simp only [List.take_succ_cons, sumA]
    omega
theorem sumA_mem {A : List RF} {f : RF} (h : f ∈ A) : f.bs.length ≤ sumA A := by
  induction A with
  | nil => cases h
  | cons a r ih =>
    rcases List.mem_cons.1 h with rfl | h
    · simp only [sumA]; omega
    · have := ih h
      simp only [sumA]; omega
theorem BytesV.rfr {w w' : World} {R R' : RS} {v : Value} {bs : List Int} (h : BytesV w v bs) (hr : ∀ b, dBlock v bs = some b → R.own b = 0) (hF : RFr w w' R R') : BytesV w' v bs := by
  rcases h with h | ⟨ad, cap, rfl, hc⟩
  · exact Or.inl h
  · refine Or.inr ⟨ad, cap, rfl, fun j u hu => ?_⟩
    have h1 := hc j u hu
    have h2 := cell_lt h1
    have h3 : (ad.add j).block = ad.block := by unfold Addr.add; split <;> rfl
    rw [World.cell?_of_block (hF.block _ h2 (by rw [h3]; exact hr _ (by rw [dBlock_vB hu]; rfl)))]
    exact h1
set_option maxHeartbeats 4000000 in
theorem rappend_no {w : World} {br : Nat} {R : RS} (h : RefIs w br R) (hp : PlanR R) (hn : Rn R) (s : ByteArray) (hs : s.size ≤ 9223372036854775807) (v : Value) (he : rstE R s s ≠ 0) :
    Calls Tryz.prog 46 #[.pointer (some ⟨br, 0, none⟩), .string s, v] w fun e w' => e = .returned (.int .i64 (rstE R s s)) ∧ RefIs w' br (rstS R s s) ∧ RFr w w' R (rstS R s s) := by
  have HR : Hid (RefIs w br R) := h
  have hne : (rstE R s s != 0) = true := by simpa using he
  clear h he
  go_enter Tryz.func46, Tryz.ntmps46
  go_wp2_with (first
    | (go_at_call 78
       refine (rstep0 HR.out hp s s hs hs hn).mono ?_
       generalize hEE : rstE R s s = E at hne ⊢
       rintro e w1 ⟨rfl, hR1, hF1⟩
       have H1 : Hid (RefIs w1 br (rstS R s s) ∧ RFr w w1 R (rstS R s s)) := ⟨hR1, hF1⟩
       clear hR1 hF1)
    | go_in)
  go_returns
  rw [hEE]
  exact ⟨rfl, H1.out⟩
set_option maxRecDepth 100000 in
set_option maxHeartbeats 8000000 in
theorem rappend_big {w : World} {br : Nat} {R : RS} (h : RefIs w br R) (hp : PlanR R) (hn : Rn R) (hl : R.A.length ≤ 100) (s : ByteArray) (hs : s.size ≤ 9223372036854775807) (va : Option Addr) (vc : Nat) (bs : List Int) (hv : BytesV w (.slice va bs.length vc) bs) (hvr : ∀ b, dBlock (.slice va bs.length vc) bs = some b → R.own b = 0) (hb63 : bs.length ≤ 4611686018427387904) (he : rstE R s s = 0) (hi : idxR s R.A = -1) (h16 : 16 ≤ R.A.length) :
    Calls Tryz.prog 46 #[.pointer (some ⟨br, 0, none⟩), .string s, .slice va bs.length vc] w fun e w' => e = .returned (.int .i64 3) ∧ RefIs w' br (rstS R s s) ∧ RFr w w' R (rstS R s s) := by
  have HR : Hid (RefIs w br R) := h
  have HV : Hid (BytesV w (.slice va bs.length vc) bs ∧ ∀ b, dBlock (.slice va bs.length vc) bs = some b → R.own b = 0) := ⟨hv, hvr⟩
  have hA := A_rstS R s s
  have hrm1 := room_rstS R s s
  clear h hv hvr
  generalize hS1 : rstS R s s = R1 at *
  have hl1 : R1.A.length ≤ 100 := by rw [hA]; exact hl
  rw [← hA] at hi h16
  have HAA : Hid (R1.A = R.A) := hA
  clear hA hrm1
  have hge : (16 : Int) ≤ (R1.A.length : Int) := by omega
  go_enter Tryz.func46, Tryz.ntmps46
  go_wp2_with (first
    | (go_at_call 78
       refine (rstep0 HR.out hp s s hs hs hn).mono ?_
       rw [he, hS1]
       rintro e w1 ⟨rfl, hR1, hF1⟩
       have H1 : Hid (RefIs w1 br R1 ∧ RFr w w1 R R1) := ⟨hR1, hF1⟩
       obtain ⟨la, lcap, hlv⟩ := row_form hR1.list
       have c3 : w1.cell? ⟨br, 3, none⟩ = some (.slice la R1.A.length lcap) := by rw [cell_of_block hR1.disk]; simp [rC, hlv]
       have c0 : w1.cell? ⟨br, 0, none⟩ = some (.int .i64 R1.room) := by rw [cell_of_block hR1.disk]; rfl
       clear hR1 hF1)
    | (go_at_call 69
       refine (rat_any H1.out.1 (by omega) s).mono ?_
       rw [hi]
       rintro e w2 ⟨rfl, hw2⟩
       subst hw2)
    | go_in)
  go_ret
  exact ⟨rfl, H1.out⟩
set_option maxRecDepth 100000 in
set_option maxHeartbeats 8000000 in
theorem rappend_full_old {w : World} {br : Nat} {R : RS} (h : RefIs w br R) (hp : PlanR R) (hn : Rn R) (hl : R.A.length ≤ 100) (s : ByteArray) (hs : s.size ≤ 9223372036854775807) (va : Option Addr) (vc : Nat) (bs : List Int) (hv : BytesV w (.slice va bs.length vc) bs) (hvr : ∀ b, dBlock (.slice va bs.length vc) bs = some b → R.own b = 0) (hb63 : bs.length ≤ 4611686018427387904) (he : rstE R s s = 0) {k : Nat} {f : RF} (hi : idxR s R.A = (k : Nat)) (hkf : R.A[k]? = some f) (hroom : R.room < (sumA R.A : Int) + bs.length) (hrm : R.room ≤ 1073741824) (hr0 : 0 ≤ R.room) (hT0 : sumA R.A ≤ 1073741824) :
    Calls Tryz.prog 46 #[.pointer (some ⟨br, 0, none⟩), .string s, .slice va bs.length vc] w fun e w' => e = .returned (.int .i64 30) ∧ RefIs w' br (rstS R s s) ∧ RFr w w' R (rstS R s s) := by
  have HR : Hid (RefIs w br R) := h
  have HV : Hid (BytesV w (.slice va bs.length vc) bs ∧ ∀ b, dBlock (.slice va bs.length vc) bs = some b → R.own b = 0) := ⟨hv, hvr⟩
  have hA := A_rstS R s s
  have hrm1 := room_rstS R s s
  clear h hv hvr
  generalize hS1 : rstS R s s = R1 at *
  have hl1 : R1.A.length ≤ 100 := by rw [hA]; exact hl
  rw [← hA] at hi hkf hroom hT0
  rw [← hrm1] at hroom hrm hr0
  have HAA : Hid (R1.A = R.A) := hA
  clear hA hrm1
  have HT : Hid (R1.room < (sumA R1.A : Int) + bs.length ∧ R1.room ≤ 1073741824 ∧ 0 ≤ R1.room ∧ sumA R1.A ≤ 1073741824) := ⟨hroom, hrm, hr0, hT0⟩
  clear hroom hrm hr0 hT0
  have hk0 : decide ((k : Int) < 0) = false := by simp <;> omega
  go_enter Tryz.func46, Tryz.ntmps46
  go_wp2_with (first
    | (go_at_call 78
       refine (rstep0 HR.out hp s s hs hs hn).mono ?_
       rw [he, hS1]
       rintro e w1 ⟨rfl, hR1, hF1⟩
       have H1 : Hid (RefIs w1 br R1 ∧ RFr w w1 R R1) := ⟨hR1, hF1⟩
       obtain ⟨la, lcap, hlv⟩ := row_form hR1.list
       have c3 : w1.cell? ⟨br, 3, none⟩ = some (.slice la R1.A.length lcap) := by rw [cell_of_block hR1.disk]; simp [rC, hlv]
       have c0 : w1.cell? ⟨br, 0, none⟩ = some (.int .i64 R1.room) := by rw [cell_of_block hR1.disk]; rfl
       clear hR1 hF1)
    | (go_at_call 69
       refine (rat_any H1.out.1 (by omega) s).mono ?_
       rw [hi]
       rintro e w2 ⟨rfl, hw2⟩
       subst hw2)
    | go_in)
  go_loop [9, 10] (fun u i => ∃ j : Nat, j ≤ R1.A.length ∧ i = .int .i64 j ∧ u = .int .i64 (sumA (R1.A.take j) : Nat)) (fun _ i => R1.A.length - (intOf i).toNat)
  case atStart => exact ⟨0, Nat.zero_le _, rfl, rfl⟩
  case round =>
    obtain ⟨j, hj, rfl, rfl⟩ := hrel
    by_cases hjl : j < R1.A.length
    · obtain ⟨a, ha⟩ : ∃ a, R1.A[j]? = some a := ⟨_, List.getElem?_eq_getElem hjl⟩
      obtain ⟨g, cap', hv2, _, _, _, hc⟩ := H1.out.1.cell ha
      have hc1 := hc 1 _ rfl
      obtain ⟨ba, bc, hbv⟩ := row_form (H1.out.1.row a (List.mem_of_getElem? ha))
      rw [hbv] at hc1
      rw [hlv] at hv2
      injection hv2 with hva _ hvc
      subst hva hvc
      have hji : (j : Int) < R1.A.length := by omega
      have hsum := sumA_succ ha
      have hle := sumA_le R1.A (j + 1)
      have hT := HT.out
      have hbd : ((sumA (R1.A.take j) : Nat) : Int) + (a.bs.length : Int) ≤ 1073741824 := by omega
      clear hc hT hle
      go_wp2
      go_round
      case rel => exact ⟨j + 1, by omega, by go_num, by rw [hsum]; simp⟩
      case measure => simp [intOf]; omega
    · have hji : decide ((j : Int) < R1.A.length) = false := by simp; omega
      obtain rfl : j = R1.A.length := by omega
      rw [List.take_length]
      have hsub : -1073741824 ≤ R1.room - (sumA R1.A : Int) ∧ R1.room - (sumA R1.A : Int) ≤ 1073741824 := by have := HT.out; omega
      have hgt : R1.room - (sumA R1.A : Int) < (bs.length : Int) := by have := HT.out; omega
      go_wp2
      go_ret
      exact ⟨rfl, H1.out⟩
set_option maxRecDepth 100000 in
set_option maxHeartbeats 8000000 in
theorem rappend_full_new {w : World} {br : Nat} {R : RS} (h : RefIs w br R) (hp : PlanR R) (hn : Rn R) (hl : R.A.length ≤ 100) (s : ByteArray) (hs : s.size ≤ 9223372036854775807) (va : Option Addr) (vc : Nat) (bs : List Int) (hv : BytesV w (.slice va bs.length vc) bs) (hvr : ∀ b, dBlock (.slice va bs.length vc) bs = some b → R.own b = 0) (hb63 : bs.length ≤ 4611686018427387904) (he : rstE R s s = 0) (hi : idxR s R.A = -1) (h16 : R.A.length < 16) (hroom : R.room < (sumA R.A : Int) + bs.length) (hrm : R.room ≤ 1073741824) (hr0 : 0 ≤ R.room) (hT0 : sumA R.A ≤ 1073741824) :
    Calls Tryz.prog 46 #[.pointer (some ⟨br, 0, none⟩), .string s, .slice va bs.length vc] w fun e w' => e = .returned (.int .i64 30) ∧ RefIs w' br (rstS R s s) ∧ RFr w w' R (rstS R s s) := by
  have HR : Hid (RefIs w br R) := h
  have HV : Hid (BytesV w (.slice va bs.length vc) bs ∧ ∀ b, dBlock (.slice va bs.length vc) bs = some b → R.own b = 0) := ⟨hv, hvr⟩
  have hA := A_rstS R s s
  have hrm1 := room_rstS R s s
  clear h hv hvr
  generalize hS1 : rstS R s s = R1 at *
  have hl1 : R1.A.length ≤ 100 := by rw [hA]; exact hl
  rw [← hA] at hi h16 hroom hT0
  rw [← hrm1] at hroom hrm hr0
  have HAA : Hid (R1.A = R.A) := hA
  clear hA hrm1
  have HT : Hid (R1.room < (sumA R1.A : Int) + bs.length ∧ R1.room ≤ 1073741824 ∧ 0 ≤ R1.room ∧ sumA R1.A ≤ 1073741824) := ⟨hroom, hrm, hr0, hT0⟩
  clear hroom hrm hr0 hT0
  have hge : decide ((16 : Int) ≤ (R1.A.length : Int)) = false := by simp; omega
  go_enter Tryz.func46, Tryz.ntmps46
  go_wp2_with (first
    | (go_at_call 78
       refine (rstep0 HR.out hp s s hs hs hn).mono ?_
       rw [he, hS1]
       rintro e w1 ⟨rfl, hR1, hF1⟩
       have H1 : Hid (RefIs w1 br R1 ∧ RFr w w1 R R1) := ⟨hR1, hF1⟩
       obtain ⟨la, lcap, hlv⟩ := row_form hR1.list
       have c3 : w1.cell? ⟨br, 3, none⟩ = some (.slice la R1.A.length lcap) := by rw [cell_of_block hR1.disk]; simp [rC, hlv]
       have c0 : w1.cell? ⟨br, 0, none⟩ = some (.int .i64 R1.room) := by rw [cell_of_block hR1.disk]; rfl
       clear hR1 hF1)
    | (go_at_call 69
       refine (rat_any H1.out.1 (by omega) s).mono ?_
       rw [hi]
       rintro e w2 ⟨rfl, hw2⟩
       subst hw2)
    | go_in)
  go_loop [9, 10] (fun u i => ∃ j : Nat, j ≤ R1.A.length ∧ i = .int .i64 j ∧ u = .int .i64 (sumA (R1.A.take j) : Nat)) (fun _ i => R1.A.length - (intOf i).toNat)
  case atStart => exact ⟨0, Nat.zero_le _, rfl, rfl⟩
  case round =>
    obtain ⟨j, hj, rfl, rfl⟩ := hrel
    by_cases hjl : j < R1.A.length
    · obtain ⟨a, ha⟩ : ∃ a, R1.A[j]? = some a := ⟨_, List.getElem?_eq_getElem hjl⟩
      obtain ⟨g, cap', hv2, _, _, _, hc⟩ := H1.out.1.cell ha
      have hc1 := hc 1 _ rfl
      obtain ⟨ba, bc, hbv⟩ := row_form (H1.out.1.row a (List.mem_of_getElem? ha))
      rw [hbv] at hc1
      rw [hlv] at hv2
      injection hv2 with hva _ hvc
      subst hva hvc
      have hji : (j : Int) < R1.A.length := by omega
      have hsum := sumA_succ ha
      have hle := sumA_le R1.A (j + 1)
      have hT := HT.out
      have hbd : ((sumA (R1.A.take j) : Nat) : Int) + (a.bs.length : Int) ≤ 1073741824 := by omega
      clear hc hT hle
      go_wp2
      go_round
      case rel => exact ⟨j + 1, by omega, by go_num, by rw [hsum]; simp⟩
      case measure => simp [intOf]; omega
    · have hji : decide ((j : Int) < R1.A.length) = false := by simp; omega
      obtain rfl : j = R1.A.length := by omega
      rw [List.take_length]
      have hsub : -1073741824 ≤ R1.room - (sumA R1.A : Int) ∧ R1.room - (sumA R1.A : Int) ≤ 1073741824 := by have := HT.out; omega
      have hgt : R1.room - (sumA R1.A : Int) < (bs.length : Int) := by have := HT.out; omega
      go_wp2
      go_ret
      exact ⟨rfl, H1.out⟩
end Go.Proofs.YtoplejbmgpgkhaaGreatDoor
