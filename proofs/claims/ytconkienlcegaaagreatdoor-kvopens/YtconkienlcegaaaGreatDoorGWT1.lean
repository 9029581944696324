/- X3, WT0, WT1 -/
import Derived.Test.YtconkienlcegaaaGreatDoorGX2
import Derived.Test.YtconkienlcegaaaGreatDoorGWC
import Derived.Test.YtconkienlcegaaaGreatDoorGDI
namespace Go.Proofs.YtconkienlcegaaaGreatDoor
open Go.RowKit Go.Maps Go.Joins Go.Sort
set_option linter.unusedVariables false
set_option linter.unusedSimpArgs false
theorem srtI_pw (l : List Int) : (srtI l).Pairwise (fun a b => decide (a ≤ b) = true) := List.pairwise_mergeSort (fun a b c h1 h2 => by simp at *; omega) (fun a b => by simp; omega) l
theorem srtI_ins {l : List Int} {n : Int} {j : Nat} (hlow : ∀ x ∈ (srtI l).take j, x ≤ n) (hhigh : ∀ x ∈ (srtI l).drop j, n < x) : srtI (l ++ [n]) = (srtI l).take j ++ [n] ++ (srtI l).drop j := by
 have hp := srtI_pw l; have e := (List.take_append_drop j (srtI l)).symm; refine List.Perm.eq_of_pairwise (le := fun a b => decide (a ≤ b) = true) (fun a b _ _ h1 h2 => ?_) (srtI_pw _) ?_ ?_
 · simp only [decide_eq_true_eq] at h1 h2
   omega
 · rw [e, List.pairwise_append] at hp
   rw [List.append_assoc, List.pairwise_append]; refine ⟨hp.1, ?_, fun a ha b hb => ?_⟩
   · rw [List.singleton_append, List.pairwise_cons]
     exact ⟨fun b hb => by have := hhigh b hb; simp; omega, hp.2.1⟩
   · rcases List.mem_cons.1 hb with rfl | hb
     · have := hlow a ha
       simpa using this
     · exact hp.2.2 a ha b hb
 · have h1 : (srtI (l ++ [n])).Perm (l ++ [n]) := List.mergeSort_perm _ _
   have h2 : (srtI l).Perm l := List.mergeSort_perm _ _; have h3 : (l ++ [n]).Perm (srtI l ++ [n]) := List.Perm.append_right _ h2.symm; refine h1.trans (h3.trans ?_); rw [List.append_assoc]; have h4 : (srtI l ++ [n]).Perm ((srtI l).take j ++ (srtI l).drop j ++ [n]) := by rw [List.take_append_drop]
   refine h4.trans ?_; rw [List.append_assoc]; exact List.Perm.append_left _ List.perm_append_comm
structure Ni (w0 wx : World) (v : Value) (l : List Int) : Prop where
 own : wx.ownsRow w0.heap.size 3 1 v l.length (vI l)
 bel : Below w0.heap.size w0 wx
theorem Ni.alloc {w0 wx : World} {v : Value} {l : List Int} (h : Ni w0 wx v l) (o : Obj) : Ni w0 (wx.alloc o) v l := ⟨h.own.alloc o, h.bel.alloc h.bel.size o⟩
structure Cx (w0 wx : World) (v8 : Value) (l : List Int) (v : Value) (m : List Int) : Prop where
 ni : Ni w0 wx v8 l
 own : wx.ownsRow w0.heap.size 3 1 v m.length (vI m)
 apart : ∀ b, v.ownBlock = some b → v8.ownBlock ≠ some b
theorem Cx.alloc {w0 wx : World} {v8 v : Value} {l m : List Int} (h : Cx w0 wx v8 l v m) (o : Obj) : Cx w0 (wx.alloc o) v8 l v m := ⟨h.ni.alloc o, h.own.alloc o, h.apart⟩
theorem Cx.new {w0 wx : World} {v8 : Value} {l : List Int} (h : Ni w0 wx v8 l) : Cx w0 (wx.alloc (.cells #[] 3)) v8 l (.slice (some ⟨wx.heap.size, 0, none⟩) 0 0) [] := by
 refine ⟨h.alloc _, ⟨rfl, Or.inr ⟨wx.heap.size, 0, #[], rfl, h.bel.size, heap_alloc_new _ _, Nat.le_refl _, by decide, rfl, rfl⟩⟩, fun b hb e => ?_⟩; have h1 := (h.own.lt b e).2; have h2 : some wx.heap.size = some b := hb; injection h2 with h2
 omega
theorem Cx.app {w0 wx w' : World} {v8 v v' : Value} {l m q : List Int} (h : Cx w0 wx v8 l v m) (ho : w'.ownsRow w0.heap.size 3 1 v' (m ++ q).length (vI (m ++ q))) (hg : wx.grownBy w' v.ownBlock) (hv : v'.ownBlock = v.ownBlock ∨ v'.ownBlock = some wx.heap.size) : Cx w0 w' v8 l v' (m ++ q) := by
 refine ⟨⟨ownsRow_heap h.ni.own (fun b hb => hg.block b (h.ni.own.lt b hb).2 (fun e => h.apart b e.symm hb)), h.ni.bel.grown hg h.ni.bel.size (fun j hj => (h.own.lt j hj).1)⟩, ho, fun b hb e => ?_⟩; rcases hv with hv | hv
 · exact h.apart b (hv ▸ hb) e
 · rw [hv] at hb
   injection hb with hb
   have := (h.ni.own.lt b e).2; omega
structure On (wx : World) (b6 : Nat) (n : Int) : Prop where
 here : wx.heap[b6]? = some (.cells #[.int .i64 n] 3)
theorem On.new (wx : World) (n : Int) : On (wx.alloc (.cells #[.int .i64 n] 3)) wx.heap.size n := ⟨heap_alloc_new _ _⟩
theorem On.alloc {wx : World} {b6 : Nat} {n : Int} (h : On wx b6 n) (o : Obj) : On (wx.alloc o) b6 n := ⟨by
 have hb : Below wx.heap.size wx (wx.alloc o) := by go_grown
 exact (hb.block b6 (heap_lt h.here)).trans h.here⟩
theorem On.app {wx w' : World} {b6 : Nat} {n : Int} {v : Value} (h : On wx b6 n) (hg : wx.grownBy w' v.ownBlock) (hne : v.ownBlock ≠ some b6) : On w' b6 n := ⟨(hg.block b6 (heap_lt h.here) (fun e => hne e.symm)).trans h.here⟩
theorem On.isv {wx : World} {b6 : Nat} {n : Int} (h : On wx b6 n) : IsV wx (.slice (some ⟨b6, 0, none⟩) 1 1) [n] := by
 refine Or.inr ⟨⟨b6, 0, none⟩, 1, rfl, fun j x hx => ?_⟩; rw [Addr.add_lit, Nat.zero_add, cell_of_block h.here]; cases j with
 | zero => simpa [vI] using hx
 | succ j => simp [vI] at hx
theorem Ni.cells {w0 wx : World} {g len cap : Nat} {l : List Int} (h : Ni w0 wx (.slice (some ⟨g, 0, none⟩) len cap) l) : ∀ j x, (vI l)[j]? = some x → wx.cell? ⟨g, j, none⟩ = some x := fun j x hx => by
 have := h.own.cells (g := g) rfl j x hx; rw [Addr.add_lit] at this
 simpa using this
theorem Ni.front {w0 wx : World} {a : Option Addr} {len cap : Nat} {l : List Int} (h : Ni w0 wx (.slice a len cap) l) (j : Nat) (hj : j ≤ l.length) : IsV wx (.slice a j cap) (l.take j) := by
 have hlen : (l.take j).length = j := by rw [List.length_take]; omega
 rcases id h.own.2 with ⟨e, h0⟩ | ⟨g, cp, cur, e, _⟩
 · injection e with e1 e2 e3
   subst e1; have h9 : l.length = 0 := by simpa [vI] using h0
   have h8 : j = 0 := by omega
   subst h8; rw [e3]; exact Or.inl ⟨rfl, List.take_zero⟩
 · injection e with e1 e2 e3
   subst e1; refine Or.inr ⟨⟨g, 0, none⟩, cap, by rw [hlen], fun i x hx => ?_⟩; rw [Addr.add_lit, Nat.zero_add]; refine h.cells i x ?_; unfold vI at hx ⊢; rw [List.getElem?_map] at hx ⊢; have hi : i < (l.take j).length := by
    rcases Nat.lt_or_ge i (l.take j).length with h1 | h1
    · exact h1
    · rw [List.getElem?_eq_none h1] at hx
      cases hx
   rw [List.getElem?_take_of_lt (by omega)] at hx; exact hx
theorem Ni.back {w0 wx : World} {g len cap : Nat} {l : List Int} (h : Ni w0 wx (.slice (some ⟨g, 0, none⟩) len cap) l) (j : Nat) (hj : j ≤ l.length) (c : Nat) : IsV wx (.slice (some ⟨g, j, none⟩) (l.length - j) c) (l.drop j) := by
 refine Or.inr ⟨⟨g, j, none⟩, c, by rw [List.length_drop], fun i x hx => ?_⟩; rw [Addr.add_lit]; refine h.cells (j + i) x ?_; unfold vI at hx ⊢; rw [List.getElem?_map] at hx ⊢; rw [List.getElem?_drop] at hx; exact hx
end Go.Proofs.YtconkienlcegaaaGreatDoor
namespace Go.Proofs.YtconkienlcegaaaGreatDoor
open Go.RowKit
set_option linter.unusedSimpArgs false
set_option linter.unusedVariables false
def bN : Nat → BitVec 32 → BitVec 32
 | 0, s => s
 | n + 1, s => b1 (bN n s)
theorem b1_odd (s : BitVec 32) (h : s.getLsbD 0 = true) : bits .xor .u32 (J s / 2) 3988292384 = J (b1 s) := by
 have e : J s / (2 : Int) = J (s >>> 1) := J_shr s 1; have e2 : (3988292384 : Int) = J 3988292384#32 := by decide
 rw [e, e2, jx]; unfold b1; rw [h]; rfl
theorem b1_ev (s : BitVec 32) (h : s.getLsbD 0 = false) : J s / 2 = J (b1 s) := by
 have e : J s / (2 : Int) = J (s >>> 1) := J_shr s 1; rw [e, b1_even h]
theorem low1 (s : BitVec 32) : bits .and .u32 (J s) 1 = if s.getLsbD 0 then 1 else 0 := by
 have e2 : (1 : Int) = J 1#32 := by decide
 rw [show bits .and .u32 (J s) 1 = bits .and .u32 (J s) (J 1#32) from rfl, ja]; have : s &&& 1#32 = if s.getLsbD 0 then 1#32 else 0#32 := by
  apply BitVec.eq_of_toNat_eq
  rw [BitVec.toNat_and]; have h1 : (1#32).toNat = 1 := rfl; rw [h1, Nat.and_one_is_mod]; have h2 : s.getLsbD 0 = decide (s.toNat % 2 = 1) := by
   unfold BitVec.getLsbD; rw [Nat.testBit_zero]
  rw [h2]; by_cases h : s.toNat % 2 = 1
  · simp [h]
  · have : s.toNat % 2 = 0 := by omega
    simp [this]
 rw [this]; cases s.getLsbD 0 <;> rfl
set_option maxRecDepth 100000 in
set_option maxHeartbeats 8000000 in
theorem rsum_any {w : World} (va : Option Addr) (vc : Nat) (bs : List Int) (hv : BytesV w (.slice va bs.length vc) bs) (hl : bs.length ≤ 4611686018427387904) :
 Calls Tryz.prog 66 #[.slice va bs.length vc] w fun e w' => e = .returned (.int .u32 (J (sumB bs))) ∧ w' = w := by
 have HV : Hid (BytesV w (.slice va bs.length vc) bs) := hv; clear hv; go_enter Tryz.func66, Tryz.ntmps66; go_wp2; go_loop [3, 4] (fun s i => ∃ k : Nat, k ≤ bs.length ∧ i = .int .i64 k ∧ s = .int .u32 (J (sumF (4294967295#32) (bs.take k)))) (fun _ i => bs.length - (intOf i).toNat)
 case atStart => exact ⟨0, Nat.zero_le _, rfl, rfl⟩
 case round =>
  obtain ⟨k, hk, rfl, rfl⟩ := hrel; by_cases hkl : k < bs.length
  · obtain ⟨x, hx⟩ : ∃ x, bs[k]? = some x := ⟨_, List.getElem?_eq_getElem hkl⟩
    obtain ⟨g, o, rfl, hc⟩ := HV.out.at hx; have hki : (k : Int) < bs.length := by omega
    have hS := sumF_take_succ hx (4294967295#32); generalize sumF (4294967295#32) (bs.take k) = s0 at hS ⊢; have HS : Hid (sumF (4294967295#32) (bs.take (k + 1)) = st8 s0 x) := hS; clear hS hx; have e1 : bits .xor .u32 (J s0) (x % 4294967296) = J (s0 ^^^ BitVec.ofInt 32 x) := by rw [← IntKind.wrap_u32, J_ofInt, jx]
    have hst : st8 s0 x = bN 8 (s0 ^^^ BitVec.ofInt 32 x) := rfl; generalize s0 ^^^ BitVec.ofInt 32 x = s1 at e1 hst; have HT : Hid _ := hst; clear hst; go_wp2; go_loop [3, 5] (fun s i => ∃ m : Nat, m ≤ 8 ∧ i = .int .i64 m ∧ s = .int .u32 (J (bN m s1))) (fun _ i => 8 - (intOf i).toNat)
    case atStart => exact ⟨0, Nat.zero_le _, rfl, rfl⟩
    case round =>
     obtain ⟨m, hm, rfl, rfl⟩ := hrel; by_cases hm8 : m < 8
     · have hmi : (m : Int) < 8 := by omega
       have hbn : bN (m + 1) s1 = b1 (bN m s1) := rfl; have HB : Hid _ := hbn; clear hbn; generalize bN m s1 = t at HB ⊢; have hl1 := low1 t; cases ht : t.getLsbD 0 with
       | true =>
         rw [ht, if_pos rfl] at hl1; have hb := b1_odd t ht; generalize b1 t = t2 at HB hb; clear ht; go_wp2; go_round
         case rel => exact ⟨m + 1, by omega, by go_num, by rw [HB.out]⟩
         case measure => simp [intOf]; omega
       | false =>
         rw [ht, if_neg (by simp)] at hl1; have hb := b1_ev t ht; generalize b1 t = t2 at HB hb; clear ht; go_wp2; go_round
         case rel => exact ⟨m + 1, by omega, by go_num, by rw [HB.out]⟩
         case measure => simp [intOf]; omega
     · have hmi : decide ((m : Int) < 8) = false := by simp; omega
       obtain rfl : m = 8 := by omega
       rw [← HT.out]; go_wp2; go_round
       case rel => exact ⟨k + 1, by omega, by go_num, by rw [HS.out]⟩
       case measure => simp [intOf]; omega
  · have hki : decide ((k : Int) < bs.length) = false := by simp; omega
    obtain rfl : k = bs.length := by omega
    rw [List.take_length]; have hn : bits .xor .u32 IntKind.u32.max (J (sumF 4294967295#32 bs)) = J (sumB bs) := jn _; have HN : Hid _ := hn; clear hn hkl; go_wp2; go_ret; refine ⟨?_, rfl⟩; rw [← HN.out]; rfl
end Go.Proofs.YtconkienlcegaaaGreatDoor
namespace Go.Proofs.YtconkienlcegaaaGreatDoor
open Go.RowKit Go.Maps Go.Joins
set_option linter.unusedSimpArgs false
set_option linter.unusedVariables false
set_option maxRecDepth 100000 in
set_option maxHeartbeats 8000000 in
theorem rnum_any {w : World} (va : Option Addr) (n vc : Nat) (bs : List Int) (hv : BytesV w (.slice va n vc) bs) {x0 x1 x2 x3 : Int} {r : List Int} (hb : bs = x0 :: x1 :: x2 :: x3 :: r) :
 Calls Tryz.prog 114 #[.slice va n vc] w fun e w' => e = .returned (.int .u32 (J (num4 x0 x1 x2 x3))) ∧ ∃ m, w' = w.drewN m := by
 subst hb; have hn := hv.len; obtain ⟨g, o, rfl, c0⟩ := hv.at (k := 0) rfl; obtain ⟨_, _, e1, c1⟩ := hv.at (k := 1) rfl; obtain ⟨_, _, e2, c2⟩ := hv.at (k := 2) rfl; obtain ⟨_, _, e3, c3⟩ := hv.at (k := 3) rfl; injection e1 with e1
 injection e1 with e1 e1' _
 injection e2 with e2
 injection e2 with e2 e2' _
 injection e3 with e3
 injection e3 with e3 e3' _
 subst e1 e1' e2 e2' e3 e3'; rw [Nat.add_zero] at c0; have q0 : (0 : Int) < n := by simp at hn; omega
 have q1 : (1 : Int) < n := by simp at hn; omega
 have q2 : (2 : Int) < n := by simp at hn; omega
 have q3 : (3 : Int) < n := by simp at hn; omega
 have s0 := shlJ x0 24 16777216 (by decide); have s1 := shlJ x1 16 65536 (by decide); have s2 := shlJ x2 8 256 (by decide); have s3 := modJ x3; have t1 := jo (BitVec.ofInt 32 x0 <<< 24) (BitVec.ofInt 32 x1 <<< 16); have t2 := jo (BitVec.ofInt 32 x0 <<< 24 ||| BitVec.ofInt 32 x1 <<< 16) (BitVec.ofInt 32 x2 <<< 8); have t3 := jo (BitVec.ofInt 32 x0 <<< 24 ||| BitVec.ofInt 32 x1 <<< 16 ||| BitVec.ofInt 32 x2 <<< 8) (BitVec.ofInt 32 x3); have HT : Hid (bits .or .u32 (bits .or .u32 (bits .or .u32 (x0 % 4294967296 * 16777216 % 4294967296) (x1 % 4294967296 * 65536 % 4294967296)) (x2 % 4294967296 * 256 % 4294967296)) (x3 % 4294967296) = J (num4 x0 x1 x2 x3)) := by
  show _ = _; rw [s0, s1, s2, s3, t1, t2, t3]; rfl
 clear s0 s1 s2 s3 t1 t2 t3 hv hn; go_enter Tryz.func114, Tryz.ntmps114; go_wp2_with fail; go_quiet (fail); go_wp2; go_ret; refine ⟨?_, _, rfl⟩; rw [← HT.out]; rfl
theorem rfour_any (w : World) (n : BitVec 32) : Calls Tryz.prog 65 #[.int .u32 (J n)] w fun e w' => e = .returned (.slice (some ⟨w.heap.size, 0, none⟩) 4 4) ∧ w' = w.alloc (.cells #[.int .u8 (J n / 16777216 % 256), .int .u8 (J n / 65536 % 256), .int .u8 (J n / 256 % 256), .int .u8 (J n % 256)] 5) := by
 go_enter Tryz.func65, Tryz.ntmps65
 go_wp2; go_ret
 exact ⟨rfl, rfl⟩
set_option maxHeartbeats 4000000 in
theorem rwname_any (s : ByteArray) (hs : s.size ≤ 9223372036854775807) (w : World) :
 Calls Tryz.prog 76 #[.string s] w fun e w' => e = .returned (.bool (wnameB s)) ∧ w' = w := by
 by_cases h1 : 1 ≤ s.size ∧ s.size ≤ 16
 · obtain ⟨h1, h2⟩ := h1
   have d1 : decide ((s.size : Int) < 1) = false := by simp; omega
   have d2 : decide ((16 : Int) < s.size) = false := by simp; omega
   go_enter Tryz.func76, Tryz.ntmps76
   go_wp2; go_loop [3] (fun i => ∃ k : Nat, k ≤ s.size ∧ i = .int .i64 k ∧ (s.data.toList.take k).all ldB = true) (fun i => s.size - (intOf i).toNat)
   case atStart => exact ⟨0, Nat.zero_le _, rfl, rfl⟩
   case round =>
    obtain ⟨k, hk, rfl, hall⟩ := hrel; by_cases hks : k < s.size
    · have hki : (k : Int) < s.size := by omega
      cases hb : ldB s[k] with
      | false =>
        have HB : Hid _ := hb; clear hb; go_wp2
        all_goals first
         | (go_ret
            exact ⟨by rw [wnameB_false hks HB.out]; rfl, rfl⟩)
         | (exfalso
            have hb := HB.out; simp [ldB] at hb; first
             | omega
             | (rename_i hz
                simp only [Bool.not_eq_eq_eq_not, Bool.not_true, Bool.not_false, decide_eq_false_iff_not, decide_eq_true_eq] at hz; omega)
             | (rename_i hz _
                simp only [Bool.not_eq_eq_eq_not, Bool.not_true, Bool.not_false, decide_eq_false_iff_not, decide_eq_true_eq] at hz; omega)
             | (rename_i hz _ _
                simp only [Bool.not_eq_eq_eq_not, Bool.not_true, Bool.not_false, decide_eq_false_iff_not, decide_eq_true_eq] at hz; omega)
             | (rename_i hz _ _ _
                simp only [Bool.not_eq_eq_eq_not, Bool.not_true, Bool.not_false, decide_eq_false_iff_not, decide_eq_true_eq] at hz; omega))
      | true =>
        have HB : Hid _ := hb; clear hb; go_wp2
        all_goals first
         | (exfalso
            have hb := HB.out; simp [ldB] at hb; first
             | omega
             | (rename_i hz
                simp only [Bool.not_eq_eq_eq_not, Bool.not_true, Bool.not_false, decide_eq_false_iff_not, decide_eq_true_eq] at hz; omega)
             | (rename_i hz _
                simp only [Bool.not_eq_eq_eq_not, Bool.not_true, Bool.not_false, decide_eq_false_iff_not, decide_eq_true_eq] at hz; omega)
             | (rename_i hz _ _
                simp only [Bool.not_eq_eq_eq_not, Bool.not_true, Bool.not_false, decide_eq_false_iff_not, decide_eq_true_eq] at hz; omega)
             | (rename_i hz _ _ _
                simp only [Bool.not_eq_eq_eq_not, Bool.not_true, Bool.not_false, decide_eq_false_iff_not, decide_eq_true_eq] at hz; omega))
         | (refine ⟨⟨k + 1, by omega, by go_num, by rw [allLd_succ hks, hall, HB.out]; rfl⟩, ?_⟩
            simp [intOf]; omega)
    · have hki : decide ((k : Int) < s.size) = false := by simp; omega
      obtain rfl : k = s.size := by omega
      go_wp2; go_ret
      refine ⟨?_, rfl⟩; rw [wnameB_of h1 h2]; rw [List.take_of_length_le (by simp)] at hall; rw [hall]; rfl
 · have hf : wnameB s = false := by
    simp only [wnameB, Bool.and_eq_false_iff, decide_eq_false_iff_not]; omega
   rw [hf]; by_cases h0 : s.size < 1
   · have d1 : decide ((s.size : Int) < 1) = true := by simp; omega
     go_enter Tryz.func76, Tryz.ntmps76
     go_wp2; go_ret
     exact ⟨rfl, rfl⟩
   · have d1 : decide ((s.size : Int) < 1) = false := by simp; omega
     have d2 : decide ((16 : Int) < s.size) = true := by simp; omega
     go_enter Tryz.func76, Tryz.ntmps76
     go_wp2; go_ret
     exact ⟨rfl, rfl⟩
end Go.Proofs.YtconkienlcegaaaGreatDoor
