/- WM, WA, WB, WC -/
import Derived.Test.YtconkienlcegaaaGreatDoorGDG
import Derived.BigQuiet
import Derived.Laws.Pointers
namespace Go.Proofs.YtconkienlcegaaaGreatDoor
open Go.RowKit
/-- One bit leaves a sum. -/
def b1 (s : BitVec 32) : BitVec 32 := (s >>> 1) ^^^ (if s.getLsbD 0 then 0xEDB88320#32 else 0#32)
def b4 (s : BitVec 32) : BitVec 32 := b1 (b1 (b1 (b1 s)))
def halfT : List Nat := [0, 498536548, 997073096, 651767980, 1994146192, 1802195444, 1303535960, 1342533948, 3988292384, 4027552580, 3604390888, 3412177804, 2607071920, 2262029012, 2685067896, 3183342108]
def tab (i : Nat) : BitVec 32 := BitVec.ofNat 32 (halfT.getD i 0)
def st8 (s : BitVec 32) (x : Int) : BitVec 32 := b4 (b4 (s ^^^ BitVec.ofInt 32 x))
def sumF (s : BitVec 32) (bs : List Int) : BitVec 32 := bs.foldl st8 s
def sumB (bs : List Int) : BitVec 32 := ~~~ sumF (4294967295#32) bs
theorem b1_xor (a b : BitVec 32) : b1 (a ^^^ b) = b1 a ^^^ b1 b := by
 unfold b1; rw [BitVec.ushiftRight_xor_distrib, BitVec.getLsbD_xor]; cases a.getLsbD 0 <;> cases b.getLsbD 0 <;> simp [BitVec.xor_assoc]
 · rw [BitVec.xor_comm (3988292384#32) (b >>> 1)]
 · rw [← BitVec.xor_assoc (3988292384#32) (b >>> 1) (3988292384#32), BitVec.xor_comm (3988292384#32) (b >>> 1), BitVec.xor_assoc, BitVec.xor_self, BitVec.xor_zero]
theorem b1_even {s : BitVec 32} (h : s.getLsbD 0 = false) : b1 s = s >>> 1 := by
 unfold b1; rw [h]; simp
theorem b4_xor (a b : BitVec 32) : b4 (a ^^^ b) = b4 a ^^^ b4 b := by unfold b4; rw [b1_xor, b1_xor, b1_xor, b1_xor]
theorem b4_high {s : BitVec 32} (h : ∀ i, i < 4 → s.getLsbD i = false) : b4 s = s >>> 4 := by
 unfold b4; rw [b1_even (h 0 (by omega))]; rw [b1_even (s := s >>> 1) (by simp only [BitVec.getLsbD_ushiftRight]; exact h 1 (by omega))]; rw [b1_even (s := s >>> 1 >>> 1) (by simp only [BitVec.getLsbD_ushiftRight]; exact h 2 (by omega))]; rw [b1_even (s := s >>> 1 >>> 1 >>> 1) (by simp only [BitVec.getLsbD_ushiftRight]; exact h 3 (by omega))]; simp only [← BitVec.shiftRight_add]
theorem low_cases (s : BitVec 32) : ∃ i : Fin 16, s &&& 15#32 = BitVec.ofNat 32 i.val := by
 have h : (s &&& 15#32).toNat < 16 := by
  rw [BitVec.toNat_and]; have := Nat.and_le_right (n := s.toNat) (m := (15#32).toNat); have e : (15#32).toNat = 15 := by decide
  omega
 exact ⟨⟨(s &&& 15#32).toNat, h⟩, by simp⟩
theorem b4_low : ∀ i : Fin 16, b4 (BitVec.ofNat 32 i.val) = tab i.val := by decide +kernel
theorem b4_tab (s : BitVec 32) : b4 s = s >>> 4 ^^^ tab (s &&& 15#32).toNat := by
 have e : s = (s &&& ~~~ 15#32) ^^^ (s &&& 15#32) := by
  apply BitVec.eq_of_getLsbD_eq
  intro i hi; simp only [BitVec.getLsbD_xor, BitVec.getLsbD_and, BitVec.getLsbD_not, hi]; cases s.getLsbD i <;> cases (15#32).getLsbD i <;> rfl
 obtain ⟨i, hi⟩ := low_cases s; have h2 : b4 (s &&& ~~~ 15#32) = s >>> 4 := by
  rw [b4_high]
  · apply BitVec.eq_of_getLsbD_eq
    intro j hj; simp only [BitVec.getLsbD_ushiftRight, BitVec.getLsbD_and, BitVec.getLsbD_not]; by_cases hj2 : 4 + j < 32
    · have : (15#32).getLsbD (4 + j) = false := by
       have := (by decide : ∀ k : Fin 28, (15#32).getLsbD (4 + k.val) = false) ⟨j, by omega⟩
       exact this
      rw [this]; simp only [hj2, decide_true, Bool.not_false, Bool.and_true]
    · have h9 : s.getLsbD (4 + j) = false := BitVec.getLsbD_of_ge s (4 + j) (by omega)
      simp only [h9, Bool.false_and]
  · intro j hj
    have := (by decide : ∀ k : Fin 4, (~~~ 15#32).getLsbD k.val = false) ⟨j, hj⟩
    simp only [BitVec.getLsbD_and, this, Bool.and_false]
 have h3 : b4 s = b4 (s &&& ~~~ 15#32) ^^^ b4 (s &&& 15#32) := by rw [← b4_xor, ← e]
 rw [h3, h2, hi, b4_low]; congr 2; rw [BitVec.toNat_ofNat, Nat.mod_eq_of_lt (by omega)]
theorem sumF_append (s : BitVec 32) (a b : List Int) : sumF s (a ++ b) = sumF (sumF s a) b := by unfold sumF; rw [List.foldl_append]
theorem sumF_take_succ {bs : List Int} {k : Nat} {x : Int} (h : bs[k]? = some x) (s : BitVec 32) : sumF s (bs.take (k + 1)) = st8 (sumF s (bs.take k)) x := by
 rw [List.take_add_one, h, sumF_append]; rfl
/-- A sum as a number. -/
def J (x : BitVec 32) : Int := (x.toNat : Int)
theorem J_bd (x : BitVec 32) : 0 ≤ J x ∧ J x < 4294967296 := by unfold J; have := x.isLt; omega
theorem J_inj {x y : BitVec 32} (h : J x = J y) : x = y := by unfold J at h; exact BitVec.eq_of_toNat_eq (by omega)
theorem J_wrap (x : BitVec 32) : IntKind.u32.wrap (J x) = J x := by rw [IntKind.wrap_u32]; have := J_bd x; omega
theorem ofInt_J (x : BitVec 32) : BitVec.ofInt 32 (J x) = x := by unfold J; rw [BitVec.ofInt_natCast, BitVec.ofNat_toNat, BitVec.setWidth_eq]
theorem J_ofInt (x : Int) : IntKind.u32.wrap x = J (BitVec.ofInt 32 x) := by
 rw [IntKind.wrap_u32]; unfold J; rw [BitVec.toNat_ofInt]; omega
theorem jx (a b : BitVec 32) : bits .xor .u32 (J a) (J b) = J (a ^^^ b) := by
 have h : bits .xor .u32 (J a) (J b) = IntKind.u32.wrap (((BitVec.ofInt 32 (J a)) ^^^ (BitVec.ofInt 32 (J b))).toNat : Int) := rfl; rw [h, ofInt_J, ofInt_J]; exact J_wrap _
theorem ja (a b : BitVec 32) : bits .and .u32 (J a) (J b) = J (a &&& b) := by
 have h : bits .and .u32 (J a) (J b) = IntKind.u32.wrap (((BitVec.ofInt 32 (J a)) &&& (BitVec.ofInt 32 (J b))).toNat : Int) := rfl; rw [h, ofInt_J, ofInt_J]; exact J_wrap _
theorem jo (a b : BitVec 32) : bits .or .u32 (J a) (J b) = J (a ||| b) := by
 have h : bits .or .u32 (J a) (J b) = IntKind.u32.wrap (((BitVec.ofInt 32 (J a)) ||| (BitVec.ofInt 32 (J b))).toNat : Int) := rfl; rw [h, ofInt_J, ofInt_J]; exact J_wrap _
theorem J_shl (x : BitVec 32) (r : Nat) : IntKind.u32.wrap (J x * 2 ^ r) = J (x <<< r) := by
 rw [IntKind.wrap_u32]; unfold J; rw [BitVec.toNat_shiftLeft, Nat.shiftLeft_eq]; have : ((x.toNat : Int) * 2 ^ r) = ((x.toNat * 2 ^ r : Nat) : Int) := by simp
 rw [this]; have e : (2 : Nat) ^ 32 = 4294967296 := by decide
 rw [e]; omega
theorem J_shr (x : BitVec 32) (r : Nat) : J x / 2 ^ r = J (x >>> r) := by
 unfold J; rw [BitVec.toNat_ushiftRight, Nat.shiftRight_eq_div_pow]; simp
theorem jn (x : BitVec 32) : bits .xor .u32 IntKind.u32.max (J x) = J (~~~ x) := by
 have h : bits .xor .u32 IntKind.u32.max (J x) = bits .xor .u32 (J 4294967295#32) (J x) := rfl; rw [h, jx]; congr 1
/-- Where the members of a slice of bytes lie. -/
theorem BytesV.at {w : World} {va : Option Addr} {n vc : Nat} {bs : List Int} (h : BytesV w (.slice va n vc) bs) {k : Nat} {x : Int} (hk : bs[k]? = some x) : ∃ g o, va = some ⟨g, o, none⟩ ∧ w.cell? ⟨g, o + k, none⟩ = some (.int .u8 x) := by
 rcases h with ⟨_, rfl⟩ | ⟨ad, cap, e, hc⟩
 · simp at hk
 · injection e with e _ _
   obtain ⟨g, o, spot⟩ := ad; obtain ⟨y, hy⟩ : ∃ y, bs[0]? = some y := ⟨_, List.getElem?_eq_getElem (by have := (List.getElem?_eq_some_iff.1 hk).1; omega)⟩
   have h0 := hc 0 (.int .u8 y) (by unfold vB; rw [List.getElem?_map, hy]; rfl); have hs : spot = none := by simpa [Addr.add] using World.cell?_spot h0
   subst hs; have h1 := hc k (.int .u8 x) (by unfold vB; rw [List.getElem?_map, hk]; rfl); rw [Addr.add_lit] at h1; exact ⟨g, o, e, h1⟩
theorem BytesV.len {w : World} {va : Option Addr} {n vc : Nat} {bs : List Int} (h : BytesV w (.slice va n vc) bs) : n = bs.length := by
 rcases h with ⟨e, rfl⟩ | ⟨ad, cap, e, _⟩
 · injection e
 · injection e
/-- The table of half sums. -/
def Half (w : World) : Prop := ∀ i, i < 16 → w.cell? ⟨1, i, none⟩ = some (.int .u32 (J (tab i)))
end Go.Proofs.YtconkienlcegaaaGreatDoor
namespace Go.Proofs.YtconkienlcegaaaGreatDoor
open Go.RowKit Go.Maps Go.Joins
set_option linter.unusedSimpArgs false
set_option linter.unusedVariables false
theorem low15 (s : BitVec 32) : bits .and .u32 (J s) 15 = ((s &&& 15#32).toNat : Int) := ja s 15#32
theorem low15_lt (s : BitVec 32) : (s &&& 15#32).toNat < 16 := by
 obtain ⟨i, hi⟩ := low_cases s; rw [hi, BitVec.toNat_ofNat, Nat.mod_eq_of_lt (by omega)]; exact i.isLt
theorem b4_J (s : BitVec 32) : bits .xor .u32 (J s / 16) (J (tab (s &&& 15#32).toNat)) = J (b4 s) := by
 have e : J s / (16 : Int) = J (s >>> 4) := J_shr s 4; rw [e, jx, ← b4_tab]
set_option maxRecDepth 100000 in
set_option maxHeartbeats 8000000 in
/-- Sum -/
theorem sum_any {w : World} (hT : Half w) (va : Option Addr) (vc : Nat) (bs : List Int) (hv : BytesV w (.slice va bs.length vc) bs) (hl : bs.length ≤ 4611686018427387904) :
 Calls Tryz.prog 135 #[.slice va bs.length vc] w fun e w' => e = .returned (.int .u32 (J (sumB bs))) ∧ w' = w := by
 have HV : Hid (Half w ∧ BytesV w (.slice va bs.length vc) bs) := ⟨hT, hv⟩
 clear hT hv; go_enter Tryz.func135, Tryz.ntmps135; go_wp2; go_loop [3, 8] (fun s i => ∃ k : Nat, k ≤ bs.length ∧ i = .int .i64 k ∧ s = .int .u32 (J (sumF (4294967295#32) (bs.take k)))) (fun _ i => bs.length - (intOf i).toNat)
 case atStart => exact ⟨0, Nat.zero_le _, rfl, rfl⟩
 case round =>
  obtain ⟨k, hk, rfl, rfl⟩ := hrel; by_cases hkl : k < bs.length
  · obtain ⟨x, hx⟩ : ∃ x, bs[k]? = some x := ⟨_, List.getElem?_eq_getElem hkl⟩
    obtain ⟨g, o, rfl, hc⟩ := HV.out.2.at hx; have hki : (k : Int) < bs.length := by omega
    have hS := sumF_take_succ hx (4294967295#32); generalize sumF (4294967295#32) (bs.take k) = s0 at hS ⊢; have HS : Hid (sumF (4294967295#32) (bs.take (k + 1)) = st8 s0 x) := hS; clear hS hx; have e1 : bits .xor .u32 (J s0) (x % 4294967296) = J (s0 ^^^ BitVec.ofInt 32 x) := by rw [← IntKind.wrap_u32, J_ofInt, jx]
    have hst : st8 s0 x = b4 (b4 (s0 ^^^ BitVec.ofInt 32 x)) := rfl; generalize s0 ^^^ BitVec.ofInt 32 x = s1 at e1 hst; have l1 := low15 s1; have c1 := HV.out.1 _ (low15_lt s1); have q1 := low15_lt s1; have e2 := b4_J s1; generalize (s1 &&& 15#32).toNat = i1 at l1 c1 q1 e2; generalize b4 s1 = s2 at e2 hst; have l2 := low15 s2; have c2 := HV.out.1 _ (low15_lt s2); have q2 := low15_lt s2; have e3 := b4_J s2; generalize (s2 &&& 15#32).toNat = i2 at l2 c2 q2 e3; generalize b4 s2 = s3 at e3 hst; have HT : Hid (st8 s0 x = s3) := hst; clear hst; have q1' : (i1 : Int) < 16 := by omega
    have q2' : (i2 : Int) < 16 := by omega
    go_wp2; go_round
    case rel => exact ⟨k + 1, by omega, by go_num, by rw [HS.out, HT.out]⟩
    case measure => simp [intOf]; omega
  · have hki : decide ((k : Int) < bs.length) = false := by simp; omega
    obtain rfl : k = bs.length := by omega
    rw [List.take_length]; have hn : bits .xor .u32 IntKind.u32.max (J (sumF 4294967295#32 bs)) = J (sumB bs) := jn _; have HN : Hid _ := hn; clear hn hkl; go_wp2; go_ret; refine ⟨?_, rfl⟩; rw [← HN.out]; rfl
/-- Four bytes as a number. -/
def num4 (a b c d : Int) : BitVec 32 := BitVec.ofInt 32 a <<< 24 ||| BitVec.ofInt 32 b <<< 16 ||| BitVec.ofInt 32 c <<< 8 ||| BitVec.ofInt 32 d
theorem modJ (x : Int) : x % 4294967296 = J (BitVec.ofInt 32 x) := by rw [← IntKind.wrap_u32, J_ofInt]
theorem shlJ (x : Int) (r : Nat) (m : Int) (hm : m = 2 ^ r) : x % 4294967296 * m % 4294967296 = J (BitVec.ofInt 32 x <<< r) := by
 rw [modJ x, hm, ← IntKind.wrap_u32, J_shl]
set_option maxRecDepth 100000 in
set_option maxHeartbeats 8000000 in
theorem four_any {w : World} (va : Option Addr) (n vc : Nat) (bs : List Int) (hv : BytesV w (.slice va n vc) bs) {x0 x1 x2 x3 : Int} {r : List Int} (hb : bs = x0 :: x1 :: x2 :: x3 :: r) :
 Calls Tryz.prog 156 #[.slice va n vc] w fun e w' => e = .returned (.int .u32 (J (num4 x0 x1 x2 x3))) ∧ ∃ m, w' = w.drewN m := by
 subst hb; have hn := hv.len; obtain ⟨g, o, rfl, c0⟩ := hv.at (k := 0) rfl; obtain ⟨_, _, e1, c1⟩ := hv.at (k := 1) rfl; obtain ⟨_, _, e2, c2⟩ := hv.at (k := 2) rfl; obtain ⟨_, _, e3, c3⟩ := hv.at (k := 3) rfl; injection e1 with e1
 injection e1 with e1 e1' _
 injection e2 with e2
 injection e2 with e2 e2' _
 injection e3 with e3
 injection e3 with e3 e3' _
 subst e1 e1' e2 e2' e3 e3'; rw [Nat.add_zero] at c0; have q0 : (0 : Int) < n := by simp at hn; omega
 have q1 : (1 : Int) < n := by simp at hn; omega
 have q2 : (2 : Int) < n := by simp at hn; omega
 have q3 : (3 : Int) < n := by simp at hn; omega
 have s0 := shlJ x0 24 16777216 (by decide); have s1 := shlJ x1 16 65536 (by decide); have s2 := shlJ x2 8 256 (by decide); have s3 := modJ x3; have t1 := jo (BitVec.ofInt 32 x0 <<< 24) (BitVec.ofInt 32 x1 <<< 16); have t2 := jo (BitVec.ofInt 32 x0 <<< 24 ||| BitVec.ofInt 32 x1 <<< 16) (BitVec.ofInt 32 x2 <<< 8); have t3 := jo (BitVec.ofInt 32 x0 <<< 24 ||| BitVec.ofInt 32 x1 <<< 16 ||| BitVec.ofInt 32 x2 <<< 8) (BitVec.ofInt 32 x3); have HT : Hid (bits .or .u32 (bits .or .u32 (bits .or .u32 (x0 % 4294967296 * 16777216 % 4294967296) (x1 % 4294967296 * 65536 % 4294967296)) (x2 % 4294967296 * 256 % 4294967296)) (x3 % 4294967296) = J (num4 x0 x1 x2 x3)) := by
  show _ = _; rw [s0, s1, s2, s3, t1, t2, t3]; rfl
 clear s0 s1 s2 s3 t1 t2 t3 hv hn; go_enter Tryz.func156, Tryz.ntmps156; go_wp2_with fail; go_quiet (fail); go_wp2; go_ret; refine ⟨?_, _, rfl⟩; rw [← HT.out]; rfl
/-- A number as four bytes. -/
def fourB (n : BitVec 32) : List Int := [J n / 16777216 % 256, J n / 65536 % 256, J n / 256 % 256, J n % 256]
theorem fourB_length (n : BitVec 32) : (fourB n).length = 4 := rfl
set_option maxRecDepth 100000 in
set_option maxHeartbeats 8000000 in
theorem afour_any {w : World} {base : Nat} {v : Value} {bs : List Int} (hown : w.ownsRow base 5 1 v bs.length (vB bs)) (hbase : base ≤ w.heap.size) (hl : bs.length + 4 ≤ 140737488355328) (n : BitVec 32) :
 Calls Tryz.prog 134 #[v, .int .u32 (J n)] w fun e w' => ∃ v', e = .returned v' ∧ w'.ownsRow base 5 1 v' (bs ++ fourB n).length (vB (bs ++ fourB n)) ∧ w.grownBy w' v.ownBlock := by
 obtain ⟨a, cap, rfl⟩ := row_form hown; have HO : Hid (w.ownsRow base 5 1 (.slice a bs.length cap) bs.length (vB bs)) := hown; clear hown; go_enter Tryz.func134, Tryz.ntmps134; go_wp2_with (first
  | (at_builtin
     have hB := heap_alloc_new w (.cells #[.int .u8 (J n / 16777216 % 256), .int .u8 (J n / 65536 % 256), .int .u8 (J n / 256 % 256), .int .u8 (J n % 256)] 5); refine wpList_append_b rfl _ _ rfl base (.slice a bs.length cap) (.slice (some ⟨w.heap.size, 0, none⟩) 4 4) bs (fourB n) rfl (HO.out.alloc _) rfl (Or.inr ⟨⟨w.heap.size, 0, none⟩, 4, rfl, fun j u hu => by rw [Addr.add_lit, Nat.zero_add, cell_of_block hB]; simpa [vB, fourB] using hu⟩) (by rw [fourB_length]; omega) (by simp; omega) ?_; intro v' w2 ho hg ha; have H2 : Hid (w2.ownsRow base 5 1 v' (bs ++ fourB n).length (vB (bs ++ fourB n)) ∧ w.grownBy w2 (Value.slice a bs.length cap).ownBlock) := ⟨ho, (World.grownBy_alloc w _ _).trans hg⟩
     clear ho hg ha hB))
 go_ret; exact ⟨v', rfl, H2.out⟩
/-- A frame. -/
def headB (bs : List Int) : List Int := fourB (BitVec.ofNat 32 bs.length)
def frameB (bs : List Int) : List Int := headB bs ++ fourB (sumB (headB bs)) ++ fourB (sumB bs) ++ bs
theorem frameB_length (bs : List Int) : (frameB bs).length = 12 + bs.length := by simp [frameB, headB, fourB_length]; omega
theorem Half.kept {w w' : World} (h : Half w) (hk : w'.heap[1]? = w.heap[1]?) : Half w' := fun i hi => (World.cell?_of_block (a := ⟨1, i, none⟩) hk).trans (h i hi)
theorem Half.lt {w : World} (h : Half w) : 1 < w.heap.size := cell_lt (h 0 (by omega))
theorem Half.below {w w' : World} (h : Half w) (hb : Below w.heap.size w w') : Half w' := h.kept (hb.block 1 h.lt)
set_option maxRecDepth 100000 in
set_option maxHeartbeats 8000000 in
/-- Frame -/
theorem frame_any {w : World} (hT : Half w) (va : Option Addr) (vc : Nat) (bs : List Int) (hv : BytesV w (.slice va bs.length vc) bs) (hl : bs.length ≤ 140737488351232) :
 Calls Tryz.prog 116 #[.slice va bs.length vc] w fun e w' => ∃ v, e = .returned v ∧ w'.ownsRow w.heap.size 5 1 v (frameB bs).length (vB (frameB bs)) ∧ Below w.heap.size w w' := by
 have HV : Hid (Half w ∧ BytesV w (.slice va bs.length vc) bs) := ⟨hT, hv⟩
 clear hT hv; have hln : (bs.length : Int) % 4294967296 = J (BitVec.ofNat 32 bs.length) := by
  unfold J; rw [BitVec.toNat_ofNat]; omega
 have TK : Hid True := trivial; go_enter Tryz.func116, Tryz.ntmps116; go_wp2_with (first
  | (at_make
     obtain ⟨i0, hi, hz0, hz1, hz2⟩ := info5c; refine wpList_make_own _ rfl _ _ 23 rfl w.heap.size 5 i0 _ 1 Tryz.underlying23 hi hz0 hz1 .i64 .i64 _ (12 + bs.length) rfl rfl (by omega) (by rw [hz2]; omega) (by unfold maxLen; omega) (Nat.le_refl _) ?_; intro w1 ho hg; have H1 : Hid (w1.ownsRow w.heap.size 5 1 (.slice (some ⟨w.heap.size, 0, none⟩) 0 (12 + bs.length)) ([] : List Int).length (vB []) ∧ Below w.heap.size w w1) := ⟨ho, (Below.refl _ w).grown hg (Nat.le_refl _) (fun j hj => by cases hj)⟩
     clear ho hg hi hz0 hz1 hz2)
  | (go_at_call 134
     have K1 := H1.out; refine Calls.mono (afour_any K1.1 K1.2.size (by simp) (BitVec.ofNat 32 bs.length)) ?_; rintro e w2 ⟨v2, rfl, ho, hg⟩; have K2 := K1.2.grown hg K1.2.size (fun j hj => (K1.1.lt j hj).1); clear K1 hg; have HW2 : Hid (w2.ownsRow w.heap.size 5 1 v2 (headB bs).length (vB (headB bs)) ∧ Below w.heap.size w w2) := ⟨ho, K2⟩
     clear ho K2 H1 hln; obtain ⟨a2, k2, rfl⟩ := row_form HW2.out.1)
  | (go_at_call 135
     refine Calls.mono (sum_any (HV.out.1.below HW2.out.2) a2 k2 (headB bs) (BytesV.of_own HW2.out.1) (by simp [headB, fourB_length])) ?_; rintro e w3 ⟨rfl, rfl⟩; clear TK)
  | (go_at_call 134
     have K1 := HW2.out; refine Calls.mono (afour_any K1.1 K1.2.size (by simp [headB, fourB_length]) (sumB (headB bs))) ?_; rintro e w4 ⟨v4, rfl, ho, hg⟩; have K2 := K1.2.grown hg K1.2.size (fun j hj => (K1.1.lt j hj).1); clear K1 hg; have HW4 : Hid (w4.ownsRow w.heap.size 5 1 v4 (headB bs ++ fourB (sumB (headB bs))).length (vB (headB bs ++ fourB (sumB (headB bs)))) ∧ Below w.heap.size w w4) := ⟨ho, K2⟩
     clear ho K2 HW2; obtain ⟨a4, k4, rfl⟩ := row_form HW4.out.1)
  | (go_at_call 135
     refine Calls.mono (sum_any (HV.out.1.below HW4.out.2) va vc bs (HV.out.2.below HW4.out.2) (by omega)) ?_; rintro e w5 ⟨rfl, rfl⟩)
  | (go_at_call 134
     have K1 := HW4.out; refine Calls.mono (afour_any K1.1 K1.2.size (by simp [headB, fourB_length]) (sumB bs)) ?_; rintro e w6 ⟨v6, rfl, ho, hg⟩; have K2 := K1.2.grown hg K1.2.size (fun j hj => (K1.1.lt j hj).1); clear K1 hg; have HW6 : Hid (w6.ownsRow w.heap.size 5 1 v6 (headB bs ++ fourB (sumB (headB bs)) ++ fourB (sumB bs)).length (vB (headB bs ++ fourB (sumB (headB bs)) ++ fourB (sumB bs))) ∧ Below w.heap.size w w6) := ⟨ho, K2⟩
     clear ho K2 HW4; obtain ⟨a6, k6, rfl⟩ := row_form HW6.out.1)
  | (at_builtin
     refine wpList_append_b rfl _ _ rfl w.heap.size _ (.slice va bs.length vc) _ bs rfl HW6.out.1 rfl (HV.out.2.below HW6.out.2) (by simp [headB, fourB_length]; omega) HW6.out.2.size ?_; intro v7 w7 ho hg ha; have H7 : Hid (w7.ownsRow w.heap.size 5 1 v7 (frameB bs).length (vB (frameB bs)) ∧ Below w.heap.size w w7) := ⟨ho, HW6.out.2.grown hg HW6.out.2.size (fun j hj => (HW6.out.1.lt j hj).1)⟩
     clear ho hg ha))
 go_ret; exact ⟨v7, rfl, H7.out⟩
theorem below_drewN' (w : World) (n : Nat) : Below w.heap.size w (w.drewN n) := ⟨rfl, rfl, rfl, Nat.le_refl _, fun _ _ => rfl⟩
theorem bd2 {w w1 : World} {B : Nat} (h : Below B w w1) (n : Nat) : Below B w (w1.drewN n) := ⟨h.os, h.tape, h.output, h.size, h.block⟩
/-- A part of a slice of bytes. -/
theorem BytesV.part {w : World} {g o n vc : Nat} {bs : List Int} (h : BytesV w (.slice (some ⟨g, o, none⟩) n vc) bs) (i l c : Nat) (hl : i + l ≤ bs.length) : BytesV w (.slice (some ⟨g, o + i, none⟩) l c) ((bs.drop i).take l) := by
 have hlen : ((bs.drop i).take l).length = l := by rw [List.length_take, List.length_drop]; omega
 refine Or.inr ⟨⟨g, o + i, none⟩, c, by rw [hlen], fun j u hu => ?_⟩; have hj : j < l := by
  have := (List.getElem?_eq_some_iff.1 hu).1; rw [vB_length, hlen] at this; exact this
 obtain ⟨x, hx⟩ : ∃ x, bs[i + j]? = some x := ⟨_, List.getElem?_eq_getElem (by omega)⟩
 obtain ⟨_, _, e, hc⟩ := h.at hx; injection e with e
 injection e with e1 e2 _
 subst e1 e2; have hu' : u = .int .u8 x := by
  unfold vB at hu; rw [List.getElem?_map, List.getElem?_take, if_pos hj, List.getElem?_drop, hx] at hu; injection hu with hu
  exact hu.symm
 rw [Addr.add_lit, hu', Nat.add_assoc]; exact hc
set_option maxRecDepth 100000 in
set_option maxHeartbeats 4000000 in
/-- bytes.Clone -/
theorem bclone_any {w : World} (v : Value) (bs : List Int) (hv : BytesV w v bs) (hl : bs.length ≤ 140737488355328) :
 Calls Tryz.prog 58 #[v] w fun e w' => ∃ v', e = .returned v' ∧ w'.ownsRow w.heap.size 5 1 v' bs.length (vB bs) ∧ Below w.heap.size w w' := by
 rcases hv with ⟨rfl, rfl⟩ | ⟨ad, cap, rfl, hc⟩
 · have he : ∀ w : World, (binOp .eql 23 (.slice none 0 0) (.slice none 0 0) : Sem Value).run Tryz.prog w = .ok (.bool true) w := fun w => by kernel_rfl
   go_enter Tryz.func58, Tryz.ntmps58
   go_wp2; go_ret
   exact ⟨_, rfl, World.ownsRow_nil _ _ _ _, Below.refl _ _⟩
 · have HC : Hid (∀ j u, (vB bs)[j]? = some u → w.cell? (ad.add j) = some u) := hc
   clear hc; have he : ∀ w : World, (binOp .eql 23 (.slice (some ad) bs.length cap) (.slice none 0 0) : Sem Value).run Tryz.prog w = .ok (.bool false) w := fun w => by kernel_rfl
   go_enter Tryz.func58, Tryz.ntmps58
   go_wp2_with (first
    | (at_builtin
       have ho0 : (w.alloc (.cells #[] 5)).ownsRow w.heap.size 5 1 (.slice (some ⟨w.heap.size, 0, none⟩) 0 0) ([] : List Int).length (vB []) := ⟨rfl, Or.inr ⟨w.heap.size, 0, #[], by simp, Nat.le_refl _, by have := heap_alloc_new w (.cells #[] 5); simpa using this, Nat.le_refl _, by decide, rfl, rfl⟩⟩
       refine wpList_append_b rfl _ _ rfl w.heap.size (.slice (some ⟨w.heap.size, 0, none⟩) 0 0) (.slice (some ad) bs.length cap) [] bs rfl ho0 rfl (Or.inr ⟨ad, cap, rfl, fun j u hu => (Below.cell (by go_grown) (cell_lt (HC.out j u hu))).trans (HC.out j u hu)⟩) (by simpa using hl) (by simp) ?_; intro v' w2 ho hg ha; rw [List.nil_append] at ho; have H2 : Hid (w2.ownsRow w.heap.size 5 1 v' bs.length (vB bs) ∧ Below w.heap.size w w2) := ⟨ho, ((Below.refl _ w).alloc (Nat.le_refl _) _).grown hg (by simp) (fun j hj => by have h9 : w.heap.size = j := (by simpa [Value.ownBlock] using hj); omega)⟩
       clear ho hg ha ho0))
   go_ret; exact ⟨v', rfl, H2.out⟩
theorem el36 : Tryz.prog.underlying 23 = some (.slice (Tryz.prog.elem 23)) := by kernel_rfl
theorem sz36 (w : World) : (sizeOf (Tryz.prog.elem 23)).run Tryz.prog w = .ok 1 w := by kernel_rfl
theorem slL (w : World) (g o n vc l : Nat) (L : Int) (hL : L = l) (hl : l ≤ n) (hc : l < vc) : (Instr.slice 23 (.slice (some ⟨g, o, none⟩) n vc) (some (.int .i64 L)) none none).run Tryz.prog w = .ok (.slice (some ⟨g, o + l, none⟩) (n - l) (vc - l)) w := by
 subst hL; rw [run_slice_l w 23 _ n vc el36 .i64 l (by omega) (by omega), sz36]; have : ¬ vc = l := by omega
 simp [Result.andThen, sliced, this, Addr.add_lit]
theorem slH (w : World) (g o n vc h : Nat) (H : Int) (hH : H = h) (hc : h ≤ vc) (h0 : 0 < vc) : (Instr.slice 23 (.slice (some ⟨g, o, none⟩) n vc) none (some (.int .i64 H)) none).run Tryz.prog w = .ok (.slice (some ⟨g, o, none⟩) h vc) w := by
 subst hH; rw [run_slice_h w 23 _ n vc el36 .i64 h (by omega) (by omega), sz36]; have : ¬ vc = 0 := by omega
 simp [Result.andThen, sliced, this, Addr.add]
theorem slLH (w : World) (g o n vc l h : Nat) (L H : Int) (hL : L = l) (hH : H = h) (h1 : l ≤ h) (hc : h ≤ vc) : (Instr.slice 23 (.slice (some ⟨g, o, none⟩) n vc) (some (.int .i64 L)) (some (.int .i64 H)) none).run Tryz.prog w = .ok (.slice (some ⟨g, if vc = l then o else o + l, none⟩) (h - l) (vc - l)) w := by
 subst hL hH; rw [run_slice_lh w 23 _ n vc el36 .i64 .i64 l h (by omega) (by omega) (by omega), sz36]; by_cases e : vc = l
 · simp [Result.andThen, sliced, e]
 · simp [Result.andThen, sliced, e, Addr.add_lit]
/-- The number in four bytes from the i-th on. -/
def numAt (bs : List Int) (i : Nat) : BitVec 32 := num4 (bs.getD i 0) (bs.getD (i + 1) 0) (bs.getD (i + 2) 0) (bs.getD (i + 3) 0)
/-- What stands at the beginning of bytes: its error, how many bytes the frame has, the record. -/
def nx (bs : List Int) : Int × Nat × List Int :=
 if bs.length < 12 then (10, 0, []) else
 if numAt bs 4 ≠ sumB (bs.take 4) ∨ 65536 < (numAt bs 0).toNat then (34, 0, []) else
 if bs.length < 12 + (numAt bs 0).toNat then (10, 0, []) else
 if numAt bs 8 ≠ sumB ((bs.drop 12).take (numAt bs 0).toNat) then (34, 0, []) else
 (0, 12 + (numAt bs 0).toNat, (bs.drop 12).take (numAt bs 0).toNat)
theorem four_v {w : World} {g o n vc : Nat} {bs : List Int} (hv : BytesV w (.slice (some ⟨g, o, none⟩) n vc) bs) (i c : Nat) (hl : i + 4 ≤ bs.length) (k : Nat) (hk : k = bs.length - i) : Calls Tryz.prog 156 #[.slice (some ⟨g, o + i, none⟩) k c] w fun e w' => e = .returned (.int .u32 (J (numAt bs i))) ∧ ∃ m, w' = w.drewN m := by
 have hp := hv.part i (bs.length - i) c (by omega); have h4 : (bs.drop i).take (bs.length - i) = bs.getD i 0 :: bs.getD (i + 1) 0 :: bs.getD (i + 2) 0 :: bs.getD (i + 3) 0 :: (bs.drop (i + 4)) := by
  rw [List.take_of_length_le (by rw [List.length_drop]; omega)]; have e : ∀ j, j < bs.length → bs.drop j = bs.getD j 0 :: bs.drop (j + 1) := fun j hj => by
   rw [List.drop_eq_getElem_cons hj]; simp [List.getD, List.getElem?_eq_getElem hj]
  rw [e i (by omega), e (i + 1) (by omega), e (i + 2) (by omega), e (i + 3) (by omega)]
 subst hk; exact four_any _ _ _ _ hp h4
def NxR (bs : List Int) (w : World) (e : Ending) (w' : World) : Prop := ∃ v, e = .returned (.tuple #[v, .int .i64 (nx bs).2.1, .int .i64 (nx bs).1]) ∧ w'.ownsRow w.heap.size 5 1 v (nx bs).2.2.length (vB (nx bs).2.2) ∧ Below w.heap.size w w'
theorem NxR.nil {bs : List Int} {w w' : World} {c : Int} (h : nx bs = (c, 0, [])) (hb : Below w.heap.size w w') : NxR bs w (.returned (.tuple #[.slice none 0 0, .int .i64 0, .int .i64 c])) w' := by
 unfold NxR; rw [h]; exact ⟨_, rfl, World.ownsRow_nil _ _ _ _, hb⟩
set_option maxRecDepth 100000 in
set_option maxHeartbeats 8000000 in
/-- Next -/
theorem next_any {w : World} (hT : Half w) (va : Option Addr) (vc : Nat) (bs : List Int) (hv : BytesV w (.slice va bs.length vc) bs) (hc : bs.length ≤ vc) (hm : vc ≤ 9223372036854775807) (hl : bs.length ≤ 140737488355328) :
 Calls Tryz.prog 133 #[.slice va bs.length vc] w fun e w' => NxR bs w e w' := by
 by_cases h12 : bs.length < 12
 · have hn : nx bs = (10, 0, []) := by unfold nx; rw [if_pos h12]
   have HN : Hid _ := hn; clear hv hn; go_enter Tryz.func133, Tryz.ntmps133; go_wp2; go_returns; exact NxR.nil HN.out (Below.refl _ _)
 have hnx : nx bs = if numAt bs 4 ≠ sumB (bs.take 4) ∨ 65536 < (numAt bs 0).toNat then (34, 0, []) else
  if bs.length < 12 + (numAt bs 0).toNat then (10, 0, []) else
  if numAt bs 8 ≠ sumB ((bs.drop 12).take (numAt bs 0).toNat) then (34, 0, []) else
  (0, 12 + (numAt bs 0).toNat, (bs.drop 12).take (numAt bs 0).toNat) := by
  conv => lhs; unfold nx
  rw [if_neg h12]
 obtain ⟨x, hx⟩ : ∃ x, bs[0]? = some x := ⟨_, List.getElem?_eq_getElem (by omega)⟩
 obtain ⟨g, o, rfl, _⟩ := hv.at hx; have HV : Hid (Half w ∧ BytesV w (.slice (some ⟨g, o, none⟩) bs.length vc) bs) := ⟨hT, hv⟩
 have c0 := fun (w' : World) (h : Below w.heap.size w w') => four_v (HV.out.2.below h) 0 vc (by omega) bs.length (by omega)
 have c4 := fun (w' : World) (h : Below w.heap.size w w') => four_v (HV.out.2.below h) 4 (vc - 4) (by omega) (bs.length - 4) rfl
 have c8 := fun (w' : World) (h : Below w.heap.size w w') => four_v (HV.out.2.below h) 8 (vc - 8) (by omega) (bs.length - 8) rfl
 have s4 := fun (w' : World) (h : Below w.heap.size w w') => sum_any (HV.out.1.below h) (some ⟨g, o, none⟩) vc (bs.take 4) (by
  have := (HV.out.2.below h).part 0 4 vc (by omega); rw [List.drop_zero, Nat.add_zero] at this; have e : (bs.take 4).length = 4 := by rw [List.length_take]; omega
  rw [e]; exact this) (by rw [List.length_take]; omega)
 have e4 : (bs.take 4).length = 4 := by rw [List.length_take]; omega
 rw [e4] at s4; rw [Nat.add_zero] at c0; have L4 := fun w' => slL w' g o bs.length vc 4 4 rfl (by omega) (by omega)
 have L8 := fun w' => slL w' g o bs.length vc 8 8 rfl (by omega) (by omega)
 have H4 := fun w' => slH w' g o bs.length vc 4 4 rfl (by omega) (by omega)
 have HC : Hid _ := c0; have HC4 : Hid _ := c4; have HC8 : Hid _ := c8; have HS4 : Hid _ := s4; have HNX : Hid _ := hnx; clear hT hv c0 c4 c8 s4 hnx hx e4; by_cases hA : numAt bs 4 = sumB (bs.take 4); rotate_left
 · have hA1 : (J (numAt bs 4) != J (sumB (bs.take 4))) = true := by simpa using fun h => hA (J_inj h)
   have hn : nx bs = (34, 0, []) := by rw [HNX.out, if_pos (Or.inl hA)]
   have HN : Hid _ := hn; clear hn hA HNX; go_enter Tryz.func133, Tryz.ntmps133; go_wp2_with (first
    | (go_at_call 156
       refine Calls.mono (HC.out w (Below.refl _ _)) ?_; rintro e w1 ⟨rfl, hm1⟩; have HB1 : Hid (Below w.heap.size w w1) := (by obtain ⟨m, rfl⟩ := hm1; exact below_drewN' w m)
       clear hm1))
   go_quiet (first
    | (go_at_call 156; refine Calls.quiet_of (HC4.out _ ?_); exact bd2 HB1.out _)
    | (go_at_call 135; refine Calls.quiet_of_same (HS4.out _ ?_); exact bd2 HB1.out _))
   go_wp2; go_returns
   exact NxR.nil HN.out (bd2 HB1.out _)
 have hA1 : (J (numAt bs 4) != J (sumB (bs.take 4))) = false := by rw [hA]; simp
 by_cases hB : 65536 < (numAt bs 0).toNat
 · have hB1 : decide (65536 < J (numAt bs 0)) = true := by unfold J; simp; omega
   have hn : nx bs = (34, 0, []) := by rw [HNX.out, if_pos (Or.inr hB)]
   have HN : Hid _ := hn; clear hn hA hB HNX; go_enter Tryz.func133, Tryz.ntmps133; go_wp2_with (first
    | (go_at_call 156
       refine Calls.mono (HC.out w (Below.refl _ _)) ?_; rintro e w1 ⟨rfl, hm1⟩; have HB1 : Hid (Below w.heap.size w w1) := (by obtain ⟨m, rfl⟩ := hm1; exact below_drewN' w m)
       clear hm1))
   go_quiet (first
    | (go_at_call 156; refine Calls.quiet_of (HC4.out _ ?_); exact bd2 HB1.out _)
    | (go_at_call 135; refine Calls.quiet_of_same (HS4.out _ ?_); exact bd2 HB1.out _))
   go_wp2; go_returns
   exact NxR.nil HN.out (bd2 HB1.out _)
 have hB1 : decide (65536 < J (numAt bs 0)) = false := by unfold J; simp; omega
 have hAB : ¬ (numAt bs 4 ≠ sumB (bs.take 4) ∨ 65536 < (numAt bs 0).toNat) := fun h => h.elim (fun h => h hA) hB
 have hnx := HNX.out; rw [if_neg hAB] at hnx; have HNX2 : Hid _ := hnx; obtain ⟨N, hN⟩ : ∃ N, (numAt bs 0).toNat = N := ⟨_, rfl⟩
 rw [hN] at hnx hB; have hJ : J (numAt bs 0) = (N : Int) := by unfold J; rw [hN]
 have HNX3 : Hid _ := hnx; clear hnx HNX HNX2 hA hAB hN; have hB2 : decide (65536 < (N : Int)) = false := by simp; omega
 have hw12 : 12 + (N : Int) ≤ 9223372036854775807 := by omega
 by_cases hD : bs.length < 12 + N
 · have hD1 : (bs.length : Int) < 12 + N := by omega
   have hn : nx bs = (10, 0, []) := by rw [HNX3.out, if_pos hD]
   have HN : Hid _ := hn; clear hn hD HNX3; go_enter Tryz.func133, Tryz.ntmps133; go_wp2_with (first
    | (go_at_call 156
       refine Calls.mono (HC.out w (Below.refl _ _)) ?_; rintro e w1 ⟨rfl, hm1⟩; have HB1 : Hid (Below w.heap.size w w1) := (by obtain ⟨m, rfl⟩ := hm1; exact below_drewN' w m)
       clear hm1))
   go_quiet (first
    | (go_at_call 156; refine Calls.quiet_of (HC4.out _ ?_); exact bd2 HB1.out _)
    | (go_at_call 135; refine Calls.quiet_of_same (HS4.out _ ?_); exact bd2 HB1.out _))
   go_wp2; go_returns
   exact NxR.nil HN.out (bd2 HB1.out _)
 have hD1 : decide ((bs.length : Int) < 12 + N) = false := by simp; omega
 have hnx := HNX3.out; rw [if_neg hD] at hnx; have HNX4 : Hid _ := hnx; clear hnx HNX3; have LH := fun w' => slLH w' g o bs.length vc 12 (12 + N) 12 (12 + N) rfl (by omega) (by omega) (by omega)
 rw [show 12 + N - 12 = N from by omega] at LH; have hrl : ((bs.drop 12).take N).length = N := by rw [List.length_take, List.length_drop]; omega
 have rv := fun (w' : World) (h : Below w.heap.size w w') => (show BytesV w' (.slice (some ⟨g, if vc = 12 then o else o + 12, none⟩) N (vc - 12)) ((bs.drop 12).take N) from by
  by_cases e : vc = 12
  · have hN0 : N = 0 := by omega
    subst hN0; exact Or.inr ⟨⟨g, if vc = 12 then o else o + 12, none⟩, vc - 12, by simp, fun j u hu => by simp [vB] at hu⟩
  · rw [if_neg e]
    exact (HV.out.2.below h).part 12 N _ (by omega))
 have sR := fun (w' : World) (h : Below w.heap.size w w') => sum_any (HV.out.1.below h) (some ⟨g, if vc = 12 then o else o + 12, none⟩) (vc - 12) ((bs.drop 12).take N) (by rw [hrl]; exact rv w' h) (by rw [hrl]; omega)
 rw [hrl] at sR; have HSR : Hid _ := sR; have HRV : Hid _ := rv; clear sR rv; generalize (if vc = 12 then o else o + 12) = o2 at LH HSR HRV; have HRL : Hid _ := hrl; clear hrl; by_cases hE : numAt bs 8 = sumB ((bs.drop 12).take N); rotate_left
 · have hE1 : (J (numAt bs 8) != J (sumB ((bs.drop 12).take N))) = true := by simpa using fun h => hE (J_inj h)
   have hn : nx bs = (34, 0, []) := by rw [HNX4.out, if_pos hE]
   have HN : Hid _ := hn; clear hn hE HNX4; go_enter Tryz.func133, Tryz.ntmps133; go_wp2_with (first
    | (go_at_call 156
       refine Calls.mono (HC.out w (Below.refl _ _)) ?_; rintro e w1 ⟨rfl, hm1⟩; have HB1 : Hid (Below w.heap.size w w1) := (by obtain ⟨m, rfl⟩ := hm1; exact below_drewN' w m)
       clear hm1))
   go_quiet (first
    | (go_at_call 156; refine Calls.quiet_of (HC4.out _ ?_); exact bd2 HB1.out _)
    | (go_at_call 135; refine Calls.quiet_of_same (HS4.out _ ?_); exact bd2 HB1.out _))
   go_wp2_with (first
    | (go_at_call 156
       refine Calls.mono (HC8.out _ (bd2 HB1.out _)) ?_; rintro e w3 ⟨rfl, hm3⟩; have HB3 : Hid (Below w.heap.size w w3) := (by obtain ⟨m, rfl⟩ := hm3; exact bd2 (bd2 HB1.out _) _)
       clear hm3)
    | (go_at_call 135
       refine Calls.mono (HSR.out _ HB3.out) ?_; rintro e w4 ⟨rfl, rfl⟩))
   go_returns
   exact NxR.nil HN.out HB3.out
 · have hE1 : (J (numAt bs 8) != J (sumB ((bs.drop 12).take N))) = false := by rw [hE]; simp
   have hn : nx bs = (0, 12 + N, (bs.drop 12).take N) := by rw [HNX4.out, if_neg (fun h => h hE)]
   have HN : Hid _ := hn; clear hn hE HNX4; go_enter Tryz.func133, Tryz.ntmps133; go_wp2_with (first
    | (go_at_call 156
       refine Calls.mono (HC.out w (Below.refl _ _)) ?_; rintro e w1 ⟨rfl, hm1⟩; have HB1 : Hid (Below w.heap.size w w1) := (by obtain ⟨m, rfl⟩ := hm1; exact below_drewN' w m)
       clear hm1))
   go_quiet (first
    | (go_at_call 156; refine Calls.quiet_of (HC4.out _ ?_); exact bd2 HB1.out _)
    | (go_at_call 135; refine Calls.quiet_of_same (HS4.out _ ?_); exact bd2 HB1.out _))
   go_wp2_with (first
    | (go_at_call 156
       refine Calls.mono (HC8.out _ (bd2 HB1.out _)) ?_; rintro e w3 ⟨rfl, hm3⟩; have HB3 : Hid (Below w.heap.size w w3) := (by obtain ⟨m, rfl⟩ := hm3; exact bd2 (bd2 HB1.out _) _)
       clear hm3)
    | (go_at_call 135
       refine Calls.mono (HSR.out _ HB3.out) ?_; rintro e w4 ⟨rfl, rfl⟩)
    | (go_at_call 58
       refine Calls.mono (bclone_any _ _ (HRV.out _ HB3.out) (by rw [HRL.out]; omega)) ?_; rintro e w5 ⟨v5, rfl, ho, hb5⟩; have H5 : Hid (w5.ownsRow w.heap.size 5 1 v5 ((bs.drop 12).take N).length (vB ((bs.drop 12).take N)) ∧ Below w.heap.size w w5) := ⟨ownsRow_le ho HB3.out.size, HB3.out.trans (hb5.mono HB3.out.size)⟩
       clear ho hb5))
   go_returns
   unfold NxR; rw [HN.out]; exact ⟨v5, by simp, H5.out⟩
end Go.Proofs.YtconkienlcegaaaGreatDoor
