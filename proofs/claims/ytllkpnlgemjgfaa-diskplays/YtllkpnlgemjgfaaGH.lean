/- DM, DN, laid into one text. -/
import Derived.Test.YtllkpnlgemjgfaaDL
import Derived.Laws.BytesArg
import Derived.Lib.SlBytesConst
/- disk: the chapter's example, step by step. -/
namespace Go.Proofs.Ytllkpnlgemjgfaa
open Go.RowKit Go.Maps Go.Joins
set_option linter.unusedSimpArgs false
set_option linter.unusedVariables false
def sA : ByteArray := ⟨#[97]⟩
/-- The example's disk, with its one file. -/
structure Al (S : DS) (bs : List Int) (sf st : Int) : Prop where
  room : S.room = 100
  down : S.down = false
  steps : S.steps = st
  armed : S.armed = 0
  plan : ∀ x, S.plan x = 0
  fs : ∃ g, S.fs = [([97], g)]
  bs : (S.fl [97]).bs = bs
  safe : (S.fl [97]).safe = sf
theorem nameA : okN [sA] = true := by kernel_rfl
theorem stepE0 {S : DS} (h1 : S.down = false) (h2 : ∀ x, S.plan x = 0) : stepE S [sA] = 0 := by
  simp [stepE, h1, nameA, stK, h2, faultE]
theorem stepS0 {S : DS} (h1 : S.down = false) (h2 : ∀ x, S.plan x = 0) : stepS S [sA] = { S with down := false, steps := S.steps + 1 } := by
  simp [stepS, h1, nameA, stK, h2]
theorem Al.step {S : DS} {bs : List Int} {sf st : Int} (h : Al S bs sf st) : Al (stepS S [sA]) bs sf (st + 1) := by
  rw [stepS0 h.down h.plan]
  exact ⟨h.room, rfl, by show S.steps + 1 = _; rw [h.steps], h.armed, h.plan, h.fs, h.bs, h.safe⟩
theorem Al.setFl {S : DS} {bs : List Int} {sf st : Int} (h : Al S bs sf st) (f : FileC) (z : Nat) : Al (setFl S [97] f z) f.bs f.safe st :=
  ⟨h.room, h.down, h.steps, h.armed, h.plan, h.fs, by show ((if _ then f else _ : FileC).bs) = _; rw [if_pos rfl], by show ((if _ then f else _ : FileC).safe) = _; rw [if_pos rfl]⟩
theorem Al.find {S : DS} {bs : List Int} {sf st : Int} (h : Al S bs sf st) : ∃ g, findV S [sA] = some g ∧ look S.fs [97] = some g := by
  obtain ⟨g, hg⟩ := h.fs
  have e : look S.fs [97] = some g := by rw [hg]; rfl
  refine ⟨g, ?_, e⟩
  unfold findV
  rw [if_pos (stepE0 h.down h.plan)]
  exact e
theorem Al.cnt {S : DS} {bs : List Int} {sf st : Int} (h : Al S bs sf st) (h0 : 0 ≤ st) (h1 : st < 100) : Cnt S := by
  unfold Cnt
  rw [h.armed, h.steps]
  omega
theorem Al.total {S : DS} {bs : List Int} {sf st : Int} (h : Al S bs sf st) : total S = bs.length := by
  obtain ⟨g, hg⟩ := h.fs
  unfold Go.Proofs.Ytllkpnlgemjgfaa.total
  rw [hg]
  simp [sumL, h.bs]
theorem sA_size : sA.size ≤ 9223372036854775807 := by decide
theorem sA_list : sA.data.toList = [97] := rfl
/-- The example's first Append. -/
theorem al_new {w : World} {bd : Nat} {S : DS} (h : DiskIs w bd S) (hroom : S.room = 100) (hdown : S.down = false) (hst : S.steps = 0) (har : S.armed = 0) (hpl : ∀ x, S.plan x = 0) (hfs : S.fs = []) (v : Value) (bs : List Int) (hv : BytesV w v bs) (hvr : ∀ b, v.ownBlock = some b → S.role b = .none) (hb : bs.length ≤ 100) :
    Calls Try.prog 14 #[.pointer (some ⟨bd, 0, none⟩), .string sA, v] w fun e w' => e = .returned (.int .i64 0) ∧ ∃ S', Al S' bs 0 1 ∧ DiskIs w' bd S' ∧ Fr w w' S S' := by
  have hT : total S = 0 := by unfold total; rw [hfs]; rfl
  refine (append_new h (by unfold Cnt; omega) sA sA_size v bs hv (fun b hb => hvr b (dBlock_own hb)) (stepE0 hdown hpl) (by rw [hfs]; rfl) (by rw [hfs]; simp) (by omega) (by omega)).mono ?_
  rintro e w' ⟨rfl, sl, gg, z, hD, hF⟩
  refine ⟨rfl, _, ?_, hD, hF⟩
  rw [stepS0 hdown hpl, sA_list]
  refine ⟨hroom, rfl, by show S.steps + 1 = 1; omega, har, hpl, ⟨gg, ?_⟩, ?_, ?_⟩
  · show putL S.fs [97] gg = _
    rw [hfs]
    rfl
  · show ((if _ then _ else _ : FileC).bs) = _
    rw [if_pos rfl]
  · show ((if _ then _ else _ : FileC).safe) = _
    rw [if_pos rfl]
theorem al_append {w : World} {bd : Nat} {S : DS} {bs0 : List Int} {sf st : Int} (h : DiskIs w bd S) (ha : Al S bs0 sf st) (h0 : 0 ≤ st) (h1 : st < 100) (v : Value) (bs : List Int) (hv : BytesV w v bs) (hvr : ∀ b, v.ownBlock = some b → S.role b = .none) (hb : bs0.length + bs.length ≤ 100) :
    Calls Try.prog 14 #[.pointer (some ⟨bd, 0, none⟩), .string sA, v] w fun e w' => e = .returned (.int .i64 0) ∧ ∃ S', Al S' (bs0 ++ bs) sf (st + 1) ∧ DiskIs w' bd S' ∧ Fr w w' S S' := by
  obtain ⟨g, _, hl⟩ := ha.find
  have hT := ha.total
  have hR := ha.room
  have hs := ha.step
  refine (append_old h (ha.cnt h0 h1) sA sA_size v bs hv (fun b hb => hvr b (dBlock_own hb)) (stepE0 ha.down ha.plan) hl (by omega) (by omega) (by rw [sA_list, hs.bs]; omega)).mono ?_
  rintro e w' ⟨rfl, sl, z, hD, hF⟩
  refine ⟨rfl, _, ?_, hD, hF⟩
  rw [sA_list]
  rw [← hs.bs, ← hs.safe]
  exact hs.setFl { (stepS S [sA]).fl [97] with sl := sl, bs := ((stepS S [sA]).fl [97]).bs ++ bs } z
theorem al_sync {w : World} {bd : Nat} {S : DS} {bs0 : List Int} {sf st : Int} (h : DiskIs w bd S) (ha : Al S bs0 sf st) (h0 : 0 ≤ st) (h1 : st < 100) (hb : bs0.length ≤ 100) :
    Calls Try.prog 15 #[.pointer (some ⟨bd, 0, none⟩), .string sA] w fun e w' => e = .returned (.int .i64 0) ∧ ∃ S', Al S' bs0 bs0.length (st + 1) ∧ DiskIs w' bd S' ∧ Fr w w' S S' := by
  obtain ⟨g, hf, hl⟩ := ha.find
  have hs := ha.step
  refine (sync_ok h (ha.cnt h0 h1) sA sA_size hf (fun p hp => ?_)).mono ?_
  · obtain ⟨g', hg'⟩ := ha.fs
    rw [hg'] at hp
    simp at hp
    subst hp
    show (S.fl [97]).bs.length ≤ _
    rw [ha.bs]; omega
  rintro e w' ⟨rfl, z, hD, hF⟩
  refine ⟨rfl, _, ?_, hD, hF⟩
  rw [sA_list]
  rw [← hs.bs]
  exact hs.setFl { (stepS S [sA]).fl [97] with safe := ((stepS S [sA]).fl [97]).bs.length } z
theorem al_read {w : World} {bd : Nat} {S : DS} {bs0 : List Int} {sf st : Int} (h : DiskIs w bd S) (ha : Al S bs0 sf st) (h0 : 0 ≤ st) (h1 : st < 100) (hb : bs0.length ≤ 100) :
    Calls Try.prog 19 #[.pointer (some ⟨bd, 0, none⟩), .string sA] w fun e w' => ∃ v' S', e = .returned (.tuple #[v', .int .i64 0]) ∧ w'.ownsRow 0 5 1 v' bs0.length (vB bs0) ∧ Fr w w' S S' := by
  obtain ⟨g, hf, hl⟩ := ha.find
  have hs := ha.step
  refine (read_ok h (ha.cnt h0 h1) sA sA_size hf (by rw [sA_list, hs.bs]; omega)).mono ?_
  rintro e w' ⟨v', rfl, ho, _, _, hF⟩
  rw [sA_list, hs.bs] at ho
  exact ⟨v', _, rfl, ho, hF⟩
theorem al_boot {w : World} {bd : Nat} {S : DS} {bs0 : List Int} {sf st : Int} (h : DiskIs w bd S) (ha : Al S bs0 sf st) (hsf : 0 ≤ sf ∧ sf ≤ bs0.length) (v : Value) (x : Int) (hv : IntsV w v [x]) (hvr : ∀ b, v.ownBlock = some b → S.role b = .none) :
    Calls Try.prog 18 #[.pointer (some ⟨bd, 0, none⟩), v] w fun e w' => e = .returned (.tuple #[]) ∧ ∃ S', Al S' (bs0.take (min (max x sf) bs0.length).toNat) (min (max x sf) bs0.length) st ∧ DiskIs w' bd S' ∧ Fr w w' S S' := by
  obtain ⟨g, hg⟩ := ha.fs
  refine (boot_any h (by rw [hg]; simp) (fun p hp => ?_) v [x] hv (by simp) (fun b hb => hvr b (dBlock_own hb))).mono ?_
  · rw [hg] at hp
    simp at hp
    subst hp
    show 0 ≤ (S.fl [97]).safe ∧ (S.fl [97]).safe ≤ (S.fl [97]).bs.length
    rw [ha.bs, ha.safe]; exact hsf
  rintro e w' ⟨rfl, S', ss, hp, hc, hD, hF⟩
  refine ⟨rfl, S', ?_, hD, hF⟩
  rw [hg] at hp
  have hss : ss = [[97]] := by simpa using hp
  subst hss
  have hd := hc.done 0 [97] (by simp) (by simp)
  have hk : keepI ((upS S).fl [97]) [x] 0 = min (max x sf) bs0.length := by
    show (match [x][0]? with | none => (S.fl [97]).safe | some y => min (max y (S.fl [97]).safe) (S.fl [97]).bs.length) = _
    rw [ha.bs, ha.safe]
    rfl
  rw [hk] at hd
  refine ⟨hc.room.trans ha.room, hc.down, hc.steps.trans ha.steps, hc.armed.trans ha.armed, fun x => by rw [hc.plan]; rfl, ⟨g, hc.fs.trans hg⟩, ?_, hd.2⟩
  rw [hd.1]
  show List.take _ (S.fl [97]).bs = _
  rw [ha.bs]
end Go.Proofs.Ytllkpnlgemjgfaa
/- disk: the chapter's example. -/
namespace Go.Proofs.Ytllkpnlgemjgfaa
open Go.RowKit Go.Maps Go.Joins
set_option linter.unusedSimpArgs false
set_option linter.unusedVariables false
/-- What was there ahead of the example stays. -/
structure Acc (w w' : World) (S : DS) : Prop where
  below : Below w.heap.size w w'
  role : ∀ b, b < w.heap.size → S.role b = .none
theorem Acc.step {w w1 w2 : World} {S S' : DS} (h : Acc w w1 S) (hF : Fr w1 w2 S S') : Acc w w2 S' :=
  ⟨⟨hF.os.trans h.below.os, hF.tape.trans h.below.tape, hF.output.trans h.below.output, Nat.le_trans h.below.size hF.size, fun k hk => (hF.block k (Nat.lt_of_lt_of_le hk h.below.size) (h.role k hk)).trans (h.below.block k hk)⟩,
   fun b hb => hF.role b (Nat.lt_of_lt_of_le hb h.below.size) (h.role b hb)⟩
theorem Acc.alloc {w w1 : World} {S : DS} (h : Acc w w1 S) (o : Obj) : Acc w (w1.alloc o) S := ⟨h.below.alloc h.below.size o, h.role⟩
theorem bytes_new (w : World) (bs : List Int) (fr : Nat × Nat) : BytesV (w.alloc (.cells (vB bs).toArray 5 fr)) (.slice (some ⟨w.heap.size, 0, none⟩) bs.length bs.length) bs := by
  refine Or.inr ⟨_, _, rfl, fun j u hu => ?_⟩
  rw [Addr.add_lit, Nat.zero_add, cell_of_block (heap_alloc_new _ _)]
  simpa using hu
theorem ints_new (w : World) (x : Int) : IntsV (w.alloc (.cells #[.int .i64 x] 3)) (.slice (some ⟨w.heap.size, 0, none⟩) 1 1) [x] := by
  refine ⟨_, _, rfl, fun j y hj => ⟨w.heap.size, 0, rfl, ?_⟩⟩
  cases j with
  | zero =>
    simp at hj
    subst hj
    rw [cell_of_block (heap_alloc_new _ _)]
    rfl
  | succ j => simp at hj
theorem new_role {w : World} {bd : Nat} {S : DS} (h : DiskIs w bd S) (l c : Nat) : ∀ b, (Value.slice (some ⟨w.heap.size, 0, none⟩) l c).ownBlock = some b → S.role b = .none := fun b hb => by
  have : w.heap.size = b := by simpa [Value.ownBlock] using hb
  exact h.fresh b (by omega)
set_option maxRecDepth 100000 in
set_option maxHeartbeats 8000000 in
/-- alive -/
theorem alive_any (w : World) : Calls Try.prog 8 #[] w fun e w' => e = .returned (.bool true) ∧ Below w.heap.size w w' := by
  go_enter Try.func8, Try.ntmps8
  go_wp2_with (first
    | (go_at_call 6
       refine (new_any 100 (by decide) (by decide) w).mono ?_
       rintro e w1 ⟨bd, S0, rfl, hD0, hb0, hS0, hr0⟩
       have H0 : Hid (DiskIs w1 bd S0 ∧ Acc w w1 S0 ∧ S0.room = 100 ∧ S0.down = false ∧ S0.steps = 0 ∧ S0.armed = 0 ∧ (∀ x, S0.plan x = 0) ∧ S0.fs = []) := ⟨hD0, ⟨hb0, hr0⟩, by rw [hS0], by rw [hS0], by rw [hS0], by rw [hS0], fun x => by rw [hS0], by rw [hS0]⟩
       have hcv := Lib.run_convert_bytes_const (P := Try.prog) w1 31 5 #[.int .u8 120, .int .u8 121] 2 2 Try.underlying31 Try.underlying5
       clear hD0 hb0 hS0 hr0)
    | (go_at_call 14
       have hD := H0.out.1.below (w' := w1.alloc (.cells #[.int .u8 120, .int .u8 121] 5 (2, 3))) (by go_grown)
       have hA := H0.out.2.1.alloc (.cells #[.int .u8 120, .int .u8 121] 5 (2, 3))
       refine (al_new hD H0.out.2.2.1 H0.out.2.2.2.1 H0.out.2.2.2.2.1 H0.out.2.2.2.2.2.1 H0.out.2.2.2.2.2.2.1 H0.out.2.2.2.2.2.2.2 _ [120, 121] (bytes_new w1 [120, 121] (2, 3)) (new_role H0.out.1 2 2) (by simp)).mono ?_
       rintro e w2 ⟨rfl, S1, hS1, hD1, hF1⟩
       have H1 : Hid (DiskIs w2 bd S1 ∧ Acc w w2 S1 ∧ Al S1 [120, 121] 0 1) := ⟨hD1, hA.step hF1, hS1⟩
       clear hD hA hD1 hF1 hS1 H0 hcv)
    | (go_at_call 15
       refine (al_sync H1.out.1 H1.out.2.2 (by decide) (by decide) (by simp)).mono ?_
       rintro e w3 ⟨rfl, S2, hS2, hD2, hF2⟩
       have H2 : Hid (DiskIs w3 bd S2 ∧ Acc w w3 S2 ∧ Al S2 [120, 121] 2 2) := ⟨hD2, H1.out.2.1.step hF2, hS2⟩
       have hcv := Lib.run_convert_bytes_const (P := Try.prog) w3 31 5 #[.int .u8 122, .int .u8 122] 2 2 Try.underlying31 Try.underlying5
       clear hD2 hF2 hS2 H1)
    | (go_at_call 14
       have hD := H2.out.1.below (w' := w3.alloc (.cells #[.int .u8 122, .int .u8 122] 5 (2, 3))) (by go_grown)
       have hA := H2.out.2.1.alloc (.cells #[.int .u8 122, .int .u8 122] 5 (2, 3))
       refine (al_append hD H2.out.2.2 (by decide) (by decide) _ [122, 122] (bytes_new w3 [122, 122] (2, 3)) (new_role H2.out.1 2 2) (by simp)).mono ?_
       rintro e w4 ⟨rfl, S3, hS3, hD3, hF3⟩
       have H3 : Hid (DiskIs w4 bd S3 ∧ Acc w w4 S3 ∧ Al S3 [120, 121, 122, 122] 2 3) := ⟨hD3, hA.step hF3, hS3⟩
       clear hD hA hD3 hF3 hS3 H2 hcv)
    | (go_at_call 18
       have hD := H3.out.1.below (w' := w4.alloc (.cells #[.int .i64 3] 3)) (by go_grown)
       have hA := H3.out.2.1.alloc (.cells #[.int .i64 3] 3)
       refine (al_boot hD H3.out.2.2 (by decide) _ 3 (ints_new w4 3) (new_role H3.out.1 1 1)).mono ?_
       rintro e w5 ⟨rfl, S4, hS4, hD4, hF4⟩
       have H4 : Hid (DiskIs w5 bd S4 ∧ Acc w w5 S4 ∧ Al S4 [120, 121, 122] 3 3) := ⟨hD4, hA.step hF4, hS4⟩
       clear hD hA hD4 hF4 hS4 H3)
    | (go_at_call 19
       refine (al_read H4.out.1 H4.out.2.2 (by decide) (by decide) (by simp)).mono ?_
       rintro e w6 ⟨v', S5, rfl, ho, hF5⟩
       obtain ⟨g, cap, hv'⟩ := ownsRow_form ho (by simp)
       subst hv'
       have hA := H4.out.2.1.step hF5
       have hB : Hid (Below w.heap.size w w6) := hA.below
       have hcells := ho.cells (g := g) rfl
       have hconv := run_convert_bytes_arg (P := Try.prog) w6 31 5 Try.underlying31 Try.underlying5 g 0 3 cap [120, 121, 122] rfl (fun i hi => by
         have := hcells i (.int .u8 ([120, 121, 122].getD i 0)) (by
           rcases (by omega : i = 0 ∨ i = 1 ∨ i = 2) with rfl | rfl | rfl <;> rfl)
         rw [Addr.add_lit] at this
         exact this) 9 Try.underlying9
       rw [show strOfNums [120, 121, 122] = (⟨#[120, 121, 122]⟩ : ByteArray) from by kernel_rfl] at hconv
       clear hA ho hcells hF5 H4)
    | go_in)
  go_ret
  exact ⟨rfl, hB.out⟩
end Go.Proofs.Ytllkpnlgemjgfaa
