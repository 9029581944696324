/- kv: the reference's number. -/
import Derived.Test.YtconkienlcegaaaGreatDoorM30
import Derived.Test.YtconkienlcegaaaGreatDoorM21
namespace Go.Proofs.YtconkienlcegaaaGreatDoor
open Go.RowKit Go.Maps Go.Joins Go.Shelf
set_option linter.unusedSimpArgs false
set_option linter.unusedVariables false
theorem one_b (V : World) (x : Int) : BytesV (V.alloc (.cells #[.int .u8 x] 5)) (.slice (some ⟨V.heap.size, 0, none⟩) 1 1) [x] :=
  Or.inr ⟨⟨V.heap.size, 0, none⟩, 1, rfl, fun j u hu => by rw [Addr.add_lit, Nat.zero_add, cell_of_block (heap_alloc_new V _)]; simpa [vB] using hu⟩
set_option maxRecDepth 100000 in
set_option maxHeartbeats 8000000 in
theorem rnum2 {w : World} (n : Int) (h0 : 0 ≤ n) (h1 : n < 4294967296) : Calls Tryz.prog 60 #[.int .u32 n, .int .i64 2] w fun e w' => ∃ v, e = .returned v ∧ w'.ownsRow w.heap.size 5 1 v 2 (vB [n / 256 % 256, n % 256]) ∧ Below w.heap.size w w' := by
  go_enter Tryz.func60, Tryz.ntmps60
  go_wp2_with fail
  go_loopw [5, 6] (fun u i wr => ∃ (j : Nat) (v : Value) (q : Int) (out : List Int), j ≤ 2 ∧ u = v ∧ i = .int .i64 q ∧ q = 1 - j ∧ Hid (out = ([n / 256 % 256, n % 256] : List Int).take j ∧ wr.ownsRow w.heap.size 5 1 v out.length (vB out) ∧ Below w.heap.size w wr)) (fun _ i _ => (intOf i + 1).toNat)
  case atStart => exact ⟨0, _, 1, [], by omega, rfl, rfl, rfl, rfl, World.ownsRow_nil _ _ _ _, Below.refl _ _⟩
  case round =>
    obtain ⟨j, v, q, out, hj, rfl, rfl, hq, HI⟩ := hrel
    obtain ⟨a, c, rfl⟩ := row_form HI.out.2.1
    obtain ⟨no, hno⟩ : ∃ no, no = out.length := ⟨_, rfl⟩
    rw [← hno] at HI ⊢
    have HNO : Hid (no = out.length) := hno
    clear hno
    by_cases hz : j = 2
    · obtain rfl : q = -1 := by omega
      clear hq
      go_wp2
      go_ret
      refine ⟨_, rfl, ?_, HI.out.2.2⟩
      have := HI.out.2.1
      have e : out = [n / 256 % 256, n % 256] := by rw [HI.out.1, hz]; rfl
      have hn : no = 2 := by rw [HNO.out, e]; rfl
      rw [e, hn] at this
      rw [hn]
      exact this
    by_cases hz0 : j = 0
    · obtain rfl : q = 1 := by omega
      clear hq
      go_wp2_with (first
        | (at_builtin
           refine wpList_append_b rfl _ _ rfl w.heap.size (.slice a no c) (.slice (some ⟨wr.heap.size, 0, none⟩) 1 1) out [n / 256 % 256] rfl (by have := HI.out.2.1.alloc (.cells #[.int .u8 (n / 256 % 256)] 5); rw [HNO.out] at this ⊢; exact this) rfl (one_b wr (n / 256 % 256)) (by rw [HI.out.1]; simp; omega) (by have := HI.out.2.2.size; simp; omega) ?_
           intro v' w2 ho hg ha
           have H2 : Hid (w2.ownsRow w.heap.size 5 1 v' (out ++ [n / 256 % 256]).length (vB (out ++ [n / 256 % 256])) ∧ (wr.alloc (.cells #[.int .u8 (n / 256 % 256)] 5)).grownBy w2 (Value.slice a no c).ownBlock) := ⟨ho, hg⟩
           clear ho hg ha))
      go_roundw
      case rel => exact ⟨1, _, 0, _, by omega, rfl, by go_num, by omega, by rw [HI.out.1, hz0]; rfl, H2.out.1, Below.grown (w := wr.alloc (.cells #[.int .u8 (n / 256 % 256)] 5)) (HI.out.2.2.alloc HI.out.2.2.size _) H2.out.2 (by have := HI.out.2.2.size; simp; omega) (fun x hx => (World.ownsRow.lt HI.out.2.1 x hx).1)⟩
      case measure => simp [intOf]
    · have hz1 : j = 1 := by omega
      obtain rfl : q = 0 := by omega
      clear hq
      go_wp2_with (first
        | (at_builtin
           refine wpList_append_b rfl _ _ rfl w.heap.size (.slice a no c) (.slice (some ⟨wr.heap.size, 0, none⟩) 1 1) out [n % 256] rfl (by have := HI.out.2.1.alloc (.cells #[.int .u8 (n % 256)] 5); rw [HNO.out] at this ⊢; exact this) rfl (one_b wr (n % 256)) (by rw [HI.out.1]; simp; omega) (by have := HI.out.2.2.size; simp; omega) ?_
           intro v' w2 ho hg ha
           have H2 : Hid (w2.ownsRow w.heap.size 5 1 v' (out ++ [n % 256]).length (vB (out ++ [n % 256])) ∧ (wr.alloc (.cells #[.int .u8 (n % 256)] 5)).grownBy w2 (Value.slice a no c).ownBlock) := ⟨ho, hg⟩
           clear ho hg ha))
      go_roundw
      case rel => exact ⟨2, _, -1, _, by omega, rfl, by go_num, by omega, by rw [HI.out.1, hz1]; rfl, H2.out.1, Below.grown (w := wr.alloc (.cells #[.int .u8 (n % 256)] 5)) (HI.out.2.2.alloc HI.out.2.2.size _) H2.out.2 (by have := HI.out.2.2.size; simp; omega) (fun x hx => (World.ownsRow.lt HI.out.2.1 x hx).1)⟩
      case measure => simp [intOf]
set_option maxRecDepth 100000 in
set_option maxHeartbeats 8000000 in
theorem rnum4 {w : World} (n : Int) (h0 : 0 ≤ n) (h1 : n < 4294967296) : Calls Tryz.prog 60 #[.int .u32 n, .int .i64 4] w fun e w' => ∃ v, e = .returned v ∧ w'.ownsRow w.heap.size 5 1 v 4 (vB [n / 16777216, n / 65536 % 256, n / 256 % 256, n % 256]) ∧ Below w.heap.size w w' := by
  go_enter Tryz.func60, Tryz.ntmps60
  go_wp2_with fail
  go_loopw [5, 6] (fun u i wr => ∃ (j : Nat) (v : Value) (q : Int) (out : List Int), j ≤ 4 ∧ u = v ∧ i = .int .i64 q ∧ q = 3 - j ∧ Hid (out = ([n / 16777216, n / 65536 % 256, n / 256 % 256, n % 256] : List Int).take j ∧ wr.ownsRow w.heap.size 5 1 v out.length (vB out) ∧ Below w.heap.size w wr)) (fun _ i _ => (intOf i + 1).toNat)
  case atStart => exact ⟨0, _, 3, [], by omega, rfl, rfl, rfl, rfl, World.ownsRow_nil _ _ _ _, Below.refl _ _⟩
  case round =>
    obtain ⟨j, v, q, out, hj, rfl, rfl, hq, HI⟩ := hrel
    obtain ⟨a, c, rfl⟩ := row_form HI.out.2.1
    obtain ⟨no, hno⟩ : ∃ no, no = out.length := ⟨_, rfl⟩
    rw [← hno] at HI ⊢
    have HNO : Hid (no = out.length) := hno
    clear hno
    by_cases hz : j = 4
    · obtain rfl : q = -1 := by omega
      clear hq
      go_wp2
      go_ret
      refine ⟨_, rfl, ?_, HI.out.2.2⟩
      have := HI.out.2.1
      have e : out = [n / 16777216, n / 65536 % 256, n / 256 % 256, n % 256] := by rw [HI.out.1, hz]; rfl
      have hn : no = 4 := by rw [HNO.out, e]; rfl
      rw [e, hn] at this
      rw [hn]
      exact this
    by_cases hz0 : j = 0
    · obtain rfl : q = 3 := by omega
      clear hq
      go_wp2_with (first
        | (at_builtin
           refine wpList_append_b rfl _ _ rfl w.heap.size (.slice a no c) (.slice (some ⟨wr.heap.size, 0, none⟩) 1 1) out [n / 16777216] rfl (by have := HI.out.2.1.alloc (.cells #[.int .u8 (n / 16777216)] 5); rw [HNO.out] at this ⊢; exact this) rfl (one_b wr (n / 16777216)) (by rw [HI.out.1]; simp; omega) (by have := HI.out.2.2.size; simp; omega) ?_
           intro v' w2 ho hg ha
           have H2 : Hid (w2.ownsRow w.heap.size 5 1 v' (out ++ [n / 16777216]).length (vB (out ++ [n / 16777216])) ∧ (wr.alloc (.cells #[.int .u8 (n / 16777216)] 5)).grownBy w2 (Value.slice a no c).ownBlock) := ⟨ho, hg⟩
           clear ho hg ha))
      go_roundw
      case rel => exact ⟨1, _, 2, _, by omega, rfl, by go_num, by omega, by rw [HI.out.1, hz0]; rfl, H2.out.1, Below.grown (w := wr.alloc (.cells #[.int .u8 (n / 16777216)] 5)) (HI.out.2.2.alloc HI.out.2.2.size _) H2.out.2 (by have := HI.out.2.2.size; simp; omega) (fun x hx => (World.ownsRow.lt HI.out.2.1 x hx).1)⟩
      case measure => simp [intOf]
    by_cases hz1 : j = 1
    · obtain rfl : q = 2 := by omega
      clear hq
      go_wp2_with (first
        | (at_builtin
           refine wpList_append_b rfl _ _ rfl w.heap.size (.slice a no c) (.slice (some ⟨wr.heap.size, 0, none⟩) 1 1) out [n / 65536 % 256] rfl (by have := HI.out.2.1.alloc (.cells #[.int .u8 (n / 65536 % 256)] 5); rw [HNO.out] at this ⊢; exact this) rfl (one_b wr (n / 65536 % 256)) (by rw [HI.out.1]; simp; omega) (by have := HI.out.2.2.size; simp; omega) ?_
           intro v' w2 ho hg ha
           have H2 : Hid (w2.ownsRow w.heap.size 5 1 v' (out ++ [n / 65536 % 256]).length (vB (out ++ [n / 65536 % 256])) ∧ (wr.alloc (.cells #[.int .u8 (n / 65536 % 256)] 5)).grownBy w2 (Value.slice a no c).ownBlock) := ⟨ho, hg⟩
           clear ho hg ha))
      go_roundw
      case rel => exact ⟨2, _, 1, _, by omega, rfl, by go_num, by omega, by rw [HI.out.1, hz1]; rfl, H2.out.1, Below.grown (w := wr.alloc (.cells #[.int .u8 (n / 65536 % 256)] 5)) (HI.out.2.2.alloc HI.out.2.2.size _) H2.out.2 (by have := HI.out.2.2.size; simp; omega) (fun x hx => (World.ownsRow.lt HI.out.2.1 x hx).1)⟩
      case measure => simp [intOf]
    by_cases hz2 : j = 2
    · obtain rfl : q = 1 := by omega
      clear hq
      go_wp2_with (first
        | (at_builtin
           refine wpList_append_b rfl _ _ rfl w.heap.size (.slice a no c) (.slice (some ⟨wr.heap.size, 0, none⟩) 1 1) out [n / 256 % 256] rfl (by have := HI.out.2.1.alloc (.cells #[.int .u8 (n / 256 % 256)] 5); rw [HNO.out] at this ⊢; exact this) rfl (one_b wr (n / 256 % 256)) (by rw [HI.out.1]; simp; omega) (by have := HI.out.2.2.size; simp; omega) ?_
           intro v' w2 ho hg ha
           have H2 : Hid (w2.ownsRow w.heap.size 5 1 v' (out ++ [n / 256 % 256]).length (vB (out ++ [n / 256 % 256])) ∧ (wr.alloc (.cells #[.int .u8 (n / 256 % 256)] 5)).grownBy w2 (Value.slice a no c).ownBlock) := ⟨ho, hg⟩
           clear ho hg ha))
      go_roundw
      case rel => exact ⟨3, _, 0, _, by omega, rfl, by go_num, by omega, by rw [HI.out.1, hz2]; rfl, H2.out.1, Below.grown (w := wr.alloc (.cells #[.int .u8 (n / 256 % 256)] 5)) (HI.out.2.2.alloc HI.out.2.2.size _) H2.out.2 (by have := HI.out.2.2.size; simp; omega) (fun x hx => (World.ownsRow.lt HI.out.2.1 x hx).1)⟩
      case measure => simp [intOf]
    · have hz3 : j = 3 := by omega
      obtain rfl : q = 0 := by omega
      clear hq
      go_wp2_with (first
        | (at_builtin
           refine wpList_append_b rfl _ _ rfl w.heap.size (.slice a no c) (.slice (some ⟨wr.heap.size, 0, none⟩) 1 1) out [n % 256] rfl (by have := HI.out.2.1.alloc (.cells #[.int .u8 (n % 256)] 5); rw [HNO.out] at this ⊢; exact this) rfl (one_b wr (n % 256)) (by rw [HI.out.1]; simp; omega) (by have := HI.out.2.2.size; simp; omega) ?_
           intro v' w2 ho hg ha
           have H2 : Hid (w2.ownsRow w.heap.size 5 1 v' (out ++ [n % 256]).length (vB (out ++ [n % 256])) ∧ (wr.alloc (.cells #[.int .u8 (n % 256)] 5)).grownBy w2 (Value.slice a no c).ownBlock) := ⟨ho, hg⟩
           clear ho hg ha))
      go_roundw
      case rel => exact ⟨4, _, -1, _, by omega, rfl, by go_num, by omega, by rw [HI.out.1, hz3]; rfl, H2.out.1, Below.grown (w := wr.alloc (.cells #[.int .u8 (n % 256)] 5)) (HI.out.2.2.alloc HI.out.2.2.size _) H2.out.2 (by have := HI.out.2.2.size; simp; omega) (fun x hx => (World.ownsRow.lt HI.out.2.1 x hx).1)⟩
      case measure => simp [intOf]
end Go.Proofs.YtconkienlcegaaaGreatDoor
