/- disk: the chapter's example. -/
import Derived.Test.YtllkpnlgemjgfaaDM
import Derived.Laws.BytesArg
import Derived.Lib.SlBytesConst
namespace Go.Proofs.Ytllkpnlgemjgfaa
open Go.RowKit Go.Maps Go.Joins
set_option linter.unusedSimpArgs false
set_option linter.unusedVariables false
/-- What was there ahead of the example stays. -/
structure Acc (w w' : World) (S : DS) : Prop where
  below : Below w.heap.size w w'
  role : ∀ b, b < w.heap.size → S.role b = .none
theorem Acc.step {w w1 w2 : World} {S S' : DS} (h : Acc w w1 S) (hF : Fr w1 w2 S S') : Acc w w2 S' :=
  ⟨⟨hF.os.trans h.below.os, hF.tape.trans h.below.tape, hF.output.trans h.below.output, Nat.le_trans h.below.size hF.size, fun k hk => (hF.block k (Nat.lt_of_lt_of_le hk h.below.size) (h.role k hk)).trans (h.below.block k hk)⟩,
   fun b hb => hF.role b (Nat.lt_of_lt_of_le hb h.below.size) (h.role b hb)⟩
theorem Acc.alloc {w w1 : World} {S : DS} (h : Acc w w1 S) (o : Obj) : Acc w (w1.alloc o) S := ⟨h.below.alloc h.below.size o, h.role⟩
theorem bytes_new (w : World) (bs : List Int) (fr : Nat × Nat) : BytesV (w.alloc (.cells (vB bs).toArray 5 fr)) (.slice (some ⟨w.heap.size, 0, none⟩) bs.length bs.length) bs := by
  refine Or.inr ⟨_, _, rfl, fun j u hu => ?_⟩
  rw [Addr.add_lit, Nat.zero_add, cell_of_block (heap_alloc_new _ _)]
  simpa using hu
theorem ints_new (w : World) (x : Int) : IntsV (w.alloc (.cells #[.int .i64 x] 3)) (.slice (some ⟨w.heap.size, 0, none⟩) 1 1) [x] := by
  refine ⟨_, _, rfl, fun j y hj => ⟨w.heap.size, 0, rfl, ?_⟩⟩
  cases j with
  | zero =>
    simp at hj
    subst hj
    rw [cell_of_block (heap_alloc_new _ _)]
    rfl
  | succ j => simp at hj
theorem new_role {w : World} {bd : Nat} {S : DS} (h : DiskIs w bd S) (l c : Nat) : ∀ b, (Value.slice (some ⟨w.heap.size, 0, none⟩) l c).ownBlock = some b → S.role b = .none := fun b hb => by
  have : w.heap.size = b := by simpa [Value.ownBlock] using hb
  exact h.fresh b (by omega)
set_option maxRecDepth 100000 in
set_option maxHeartbeats 8000000 in
/-- alive -/
theorem alive_any (w : World) : Calls Try.prog 8 #[] w fun e w' => e = .returned (.bool true) ∧ Below w.heap.size w w' := by
  go_enter Try.func8, Try.ntmps8
  go_wp2_with (first
    | (go_at_call 6
       refine (new_any 100 (by decide) (by decide) w).mono ?_
       rintro e w1 ⟨bd, S0, rfl, hD0, hb0, hS0, hr0⟩
       have H0 : Hid (DiskIs w1 bd S0 ∧ Acc w w1 S0 ∧ S0.room = 100 ∧ S0.down = false ∧ S0.steps = 0 ∧ S0.armed = 0 ∧ (∀ x, S0.plan x = 0) ∧ S0.fs = []) := ⟨hD0, ⟨hb0, hr0⟩, by rw [hS0], by rw [hS0], by rw [hS0], by rw [hS0], fun x => by rw [hS0], by rw [hS0]⟩
       have hcv := Lib.run_convert_bytes_const (P := Try.prog) w1 31 5 #[.int .u8 120, .int .u8 121] 2 2 Try.underlying31 Try.underlying5
       clear hD0 hb0 hS0 hr0)
    | (go_at_call 14
       have hD := H0.out.1.below (w' := w1.alloc (.cells #[.int .u8 120, .int .u8 121] 5 (2, 3))) (by go_grown)
       have hA := H0.out.2.1.alloc (.cells #[.int .u8 120, .int .u8 121] 5 (2, 3))
       refine (al_new hD H0.out.2.2.1 H0.out.2.2.2.1 H0.out.2.2.2.2.1 H0.out.2.2.2.2.2.1 H0.out.2.2.2.2.2.2.1 H0.out.2.2.2.2.2.2.2 _ [120, 121] (bytes_new w1 [120, 121] (2, 3)) (new_role H0.out.1 2 2) (by simp)).mono ?_
       rintro e w2 ⟨rfl, S1, hS1, hD1, hF1⟩
       have H1 : Hid (DiskIs w2 bd S1 ∧ Acc w w2 S1 ∧ Al S1 [120, 121] 0 1) := ⟨hD1, hA.step hF1, hS1⟩
       clear hD hA hD1 hF1 hS1 H0 hcv)
    | (go_at_call 15
       refine (al_sync H1.out.1 H1.out.2.2 (by decide) (by decide) (by simp)).mono ?_
       rintro e w3 ⟨rfl, S2, hS2, hD2, hF2⟩
       have H2 : Hid (DiskIs w3 bd S2 ∧ Acc w w3 S2 ∧ Al S2 [120, 121] 2 2) := ⟨hD2, H1.out.2.1.step hF2, hS2⟩
       have hcv := Lib.run_convert_bytes_const (P := Try.prog) w3 31 5 #[.int .u8 122, .int .u8 122] 2 2 Try.underlying31 Try.underlying5
       clear hD2 hF2 hS2 H1)
    | (go_at_call 14
       have hD := H2.out.1.below (w' := w3.alloc (.cells #[.int .u8 122, .int .u8 122] 5 (2, 3))) (by go_grown)
       have hA := H2.out.2.1.alloc (.cells #[.int .u8 122, .int .u8 122] 5 (2, 3))
       refine (al_append hD H2.out.2.2 (by decide) (by decide) _ [122, 122] (bytes_new w3 [122, 122] (2, 3)) (new_role H2.out.1 2 2) (by simp)).mono ?_
       rintro e w4 ⟨rfl, S3, hS3, hD3, hF3⟩
       have H3 : Hid (DiskIs w4 bd S3 ∧ Acc w w4 S3 ∧ Al S3 [120, 121, 122, 122] 2 3) := ⟨hD3, hA.step hF3, hS3⟩
       clear hD hA hD3 hF3 hS3 H2 hcv)
    | (go_at_call 18
       have hD := H3.out.1.below (w' := w4.alloc (.cells #[.int .i64 3] 3)) (by go_grown)
       have hA := H3.out.2.1.alloc (.cells #[.int .i64 3] 3)
       refine (al_boot hD H3.out.2.2 (by decide) _ 3 (ints_new w4 3) (new_role H3.out.1 1 1)).mono ?_
       rintro e w5 ⟨rfl, S4, hS4, hD4, hF4⟩
       have H4 : Hid (DiskIs w5 bd S4 ∧ Acc w w5 S4 ∧ Al S4 [120, 121, 122] 3 3) := ⟨hD4, hA.step hF4, hS4⟩
       clear hD hA hD4 hF4 hS4 H3)
    | (go_at_call 19
       refine (al_read H4.out.1 H4.out.2.2 (by decide) (by decide) (by simp)).mono ?_
       rintro e w6 ⟨v', S5, rfl, ho, hF5⟩
       obtain ⟨g, cap, hv'⟩ := ownsRow_form ho (by simp)
       subst hv'
       have hA := H4.out.2.1.step hF5
       have hB : Hid (Below w.heap.size w w6) := hA.below
       have hcells := ho.cells (g := g) rfl
       have hconv := run_convert_bytes_arg (P := Try.prog) w6 31 5 Try.underlying31 Try.underlying5 g 0 3 cap [120, 121, 122] rfl (fun i hi => by
         have := hcells i (.int .u8 ([120, 121, 122].getD i 0)) (by
           rcases (by omega : i = 0 ∨ i = 1 ∨ i = 2) with rfl | rfl | rfl <;> rfl)
         rw [Addr.add_lit] at this
         exact this) 9 Try.underlying9
       rw [show strOfNums [120, 121, 122] = (⟨#[120, 121, 122]⟩ : ByteArray) from by kernel_rfl] at hconv
       clear hA ho hcells hF5 H4)
    | go_in)
  go_ret
  exact ⟨rfl, hB.out⟩
end Go.Proofs.Ytllkpnlgemjgfaa
