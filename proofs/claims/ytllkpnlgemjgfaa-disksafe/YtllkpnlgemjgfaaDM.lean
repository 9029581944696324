/- disk: the chapter's example, step by step. -/
import Derived.Test.YtllkpnlgemjgfaaDL
namespace Go.Proofs.Ytllkpnlgemjgfaa
open Go.RowKit Go.Maps Go.Joins
set_option linter.unusedSimpArgs false
set_option linter.unusedVariables false
def sA : ByteArray := ⟨#[97]⟩
/-- The example's disk, with its one file. -/
structure Al (S : DS) (bs : List Int) (sf st : Int) : Prop where
  room : S.room = 100
  down : S.down = false
  steps : S.steps = st
  armed : S.armed = 0
  plan : ∀ x, S.plan x = 0
  fs : ∃ g, S.fs = [([97], g)]
  bs : (S.fl [97]).bs = bs
  safe : (S.fl [97]).safe = sf
theorem nameA : okN [sA] = true := by kernel_rfl
theorem stepE0 {S : DS} (h1 : S.down = false) (h2 : ∀ x, S.plan x = 0) : stepE S [sA] = 0 := by
  simp [stepE, h1, nameA, stK, h2, faultE]
theorem stepS0 {S : DS} (h1 : S.down = false) (h2 : ∀ x, S.plan x = 0) : stepS S [sA] = { S with down := false, steps := S.steps + 1 } := by
  simp [stepS, h1, nameA, stK, h2]
theorem Al.step {S : DS} {bs : List Int} {sf st : Int} (h : Al S bs sf st) : Al (stepS S [sA]) bs sf (st + 1) := by
  rw [stepS0 h.down h.plan]
  exact ⟨h.room, rfl, by show S.steps + 1 = _; rw [h.steps], h.armed, h.plan, h.fs, h.bs, h.safe⟩
theorem Al.setFl {S : DS} {bs : List Int} {sf st : Int} (h : Al S bs sf st) (f : FileC) (z : Nat) : Al (setFl S [97] f z) f.bs f.safe st :=
  ⟨h.room, h.down, h.steps, h.armed, h.plan, h.fs, by show ((if _ then f else _ : FileC).bs) = _; rw [if_pos rfl], by show ((if _ then f else _ : FileC).safe) = _; rw [if_pos rfl]⟩
theorem Al.find {S : DS} {bs : List Int} {sf st : Int} (h : Al S bs sf st) : ∃ g, findV S [sA] = some g ∧ look S.fs [97] = some g := by
  obtain ⟨g, hg⟩ := h.fs
  have e : look S.fs [97] = some g := by rw [hg]; rfl
  refine ⟨g, ?_, e⟩
  unfold findV
  rw [if_pos (stepE0 h.down h.plan)]
  exact e
theorem Al.cnt {S : DS} {bs : List Int} {sf st : Int} (h : Al S bs sf st) (h0 : 0 ≤ st) (h1 : st < 100) : Cnt S := by
  unfold Cnt
  rw [h.armed, h.steps]
  omega
theorem Al.total {S : DS} {bs : List Int} {sf st : Int} (h : Al S bs sf st) : total S = bs.length := by
  obtain ⟨g, hg⟩ := h.fs
  unfold Go.Proofs.Ytllkpnlgemjgfaa.total
  rw [hg]
  simp [sumL, h.bs]
theorem sA_size : sA.size ≤ 9223372036854775807 := by decide
theorem sA_list : sA.data.toList = [97] := rfl
/-- The example's first Append. -/
theorem al_new {w : World} {bd : Nat} {S : DS} (h : DiskIs w bd S) (hroom : S.room = 100) (hdown : S.down = false) (hst : S.steps = 0) (har : S.armed = 0) (hpl : ∀ x, S.plan x = 0) (hfs : S.fs = []) (v : Value) (bs : List Int) (hv : BytesV w v bs) (hvr : ∀ b, v.ownBlock = some b → S.role b = .none) (hb : bs.length ≤ 100) :
    Calls Try.prog 14 #[.pointer (some ⟨bd, 0, none⟩), .string sA, v] w fun e w' => e = .returned (.int .i64 0) ∧ ∃ S', Al S' bs 0 1 ∧ DiskIs w' bd S' ∧ Fr w w' S S' := by
  have hT : total S = 0 := by unfold total; rw [hfs]; rfl
  refine (append_new h (by unfold Cnt; omega) sA sA_size v bs hv (fun b hb => hvr b (dBlock_own hb)) (stepE0 hdown hpl) (by rw [hfs]; rfl) (by rw [hfs]; simp) (by omega) (by omega)).mono ?_
  rintro e w' ⟨rfl, sl, gg, z, hD, hF⟩
  refine ⟨rfl, _, ?_, hD, hF⟩
  rw [stepS0 hdown hpl, sA_list]
  refine ⟨hroom, rfl, by show S.steps + 1 = 1; omega, har, hpl, ⟨gg, ?_⟩, ?_, ?_⟩
  · show putL S.fs [97] gg = _
    rw [hfs]
    rfl
  · show ((if _ then _ else _ : FileC).bs) = _
    rw [if_pos rfl]
  · show ((if _ then _ else _ : FileC).safe) = _
    rw [if_pos rfl]
theorem al_append {w : World} {bd : Nat} {S : DS} {bs0 : List Int} {sf st : Int} (h : DiskIs w bd S) (ha : Al S bs0 sf st) (h0 : 0 ≤ st) (h1 : st < 100) (v : Value) (bs : List Int) (hv : BytesV w v bs) (hvr : ∀ b, v.ownBlock = some b → S.role b = .none) (hb : bs0.length + bs.length ≤ 100) :
    Calls Try.prog 14 #[.pointer (some ⟨bd, 0, none⟩), .string sA, v] w fun e w' => e = .returned (.int .i64 0) ∧ ∃ S', Al S' (bs0 ++ bs) sf (st + 1) ∧ DiskIs w' bd S' ∧ Fr w w' S S' := by
  obtain ⟨g, _, hl⟩ := ha.find
  have hT := ha.total
  have hR := ha.room
  have hs := ha.step
  refine (append_old h (ha.cnt h0 h1) sA sA_size v bs hv (fun b hb => hvr b (dBlock_own hb)) (stepE0 ha.down ha.plan) hl (by omega) (by omega) (by rw [sA_list, hs.bs]; omega)).mono ?_
  rintro e w' ⟨rfl, sl, z, hD, hF⟩
  refine ⟨rfl, _, ?_, hD, hF⟩
  rw [sA_list]
  rw [← hs.bs, ← hs.safe]
  exact hs.setFl { (stepS S [sA]).fl [97] with sl := sl, bs := ((stepS S [sA]).fl [97]).bs ++ bs } z
theorem al_sync {w : World} {bd : Nat} {S : DS} {bs0 : List Int} {sf st : Int} (h : DiskIs w bd S) (ha : Al S bs0 sf st) (h0 : 0 ≤ st) (h1 : st < 100) (hb : bs0.length ≤ 100) :
    Calls Try.prog 15 #[.pointer (some ⟨bd, 0, none⟩), .string sA] w fun e w' => e = .returned (.int .i64 0) ∧ ∃ S', Al S' bs0 bs0.length (st + 1) ∧ DiskIs w' bd S' ∧ Fr w w' S S' := by
  obtain ⟨g, hf, hl⟩ := ha.find
  have hs := ha.step
  refine (sync_ok h (ha.cnt h0 h1) sA sA_size hf (fun p hp => ?_)).mono ?_
  · obtain ⟨g', hg'⟩ := ha.fs
    rw [hg'] at hp
    simp at hp
    subst hp
    show (S.fl [97]).bs.length ≤ _
    rw [ha.bs]; omega
  rintro e w' ⟨rfl, z, hD, hF⟩
  refine ⟨rfl, _, ?_, hD, hF⟩
  rw [sA_list]
  rw [← hs.bs]
  exact hs.setFl { (stepS S [sA]).fl [97] with safe := ((stepS S [sA]).fl [97]).bs.length } z
theorem al_read {w : World} {bd : Nat} {S : DS} {bs0 : List Int} {sf st : Int} (h : DiskIs w bd S) (ha : Al S bs0 sf st) (h0 : 0 ≤ st) (h1 : st < 100) (hb : bs0.length ≤ 100) :
    Calls Try.prog 19 #[.pointer (some ⟨bd, 0, none⟩), .string sA] w fun e w' => ∃ v' S', e = .returned (.tuple #[v', .int .i64 0]) ∧ w'.ownsRow 0 5 1 v' bs0.length (vB bs0) ∧ Fr w w' S S' := by
  obtain ⟨g, hf, hl⟩ := ha.find
  have hs := ha.step
  refine (read_ok h (ha.cnt h0 h1) sA sA_size hf (by rw [sA_list, hs.bs]; omega)).mono ?_
  rintro e w' ⟨v', rfl, ho, _, _, hF⟩
  rw [sA_list, hs.bs] at ho
  exact ⟨v', _, rfl, ho, hF⟩
theorem al_boot {w : World} {bd : Nat} {S : DS} {bs0 : List Int} {sf st : Int} (h : DiskIs w bd S) (ha : Al S bs0 sf st) (hsf : 0 ≤ sf ∧ sf ≤ bs0.length) (v : Value) (x : Int) (hv : IntsV w v [x]) (hvr : ∀ b, v.ownBlock = some b → S.role b = .none) :
    Calls Try.prog 18 #[.pointer (some ⟨bd, 0, none⟩), v] w fun e w' => e = .returned (.tuple #[]) ∧ ∃ S', Al S' (bs0.take (min (max x sf) bs0.length).toNat) (min (max x sf) bs0.length) st ∧ DiskIs w' bd S' ∧ Fr w w' S S' := by
  obtain ⟨g, hg⟩ := ha.fs
  refine (boot_any h (by rw [hg]; simp) (fun p hp => ?_) v [x] hv (by simp) (fun b hb => hvr b (dBlock_own hb))).mono ?_
  · rw [hg] at hp
    simp at hp
    subst hp
    show 0 ≤ (S.fl [97]).safe ∧ (S.fl [97]).safe ≤ (S.fl [97]).bs.length
    rw [ha.bs, ha.safe]; exact hsf
  rintro e w' ⟨rfl, S', ss, hp, hc, hD, hF⟩
  refine ⟨rfl, S', ?_, hD, hF⟩
  rw [hg] at hp
  have hss : ss = [[97]] := by simpa using hp
  subst hss
  have hd := hc.done 0 [97] (by simp) (by simp)
  have hk : keepI ((upS S).fl [97]) [x] 0 = min (max x sf) bs0.length := by
    show (match [x][0]? with | none => (S.fl [97]).safe | some y => min (max y (S.fl [97]).safe) (S.fl [97]).bs.length) = _
    rw [ha.bs, ha.safe]
    rfl
  rw [hk] at hd
  refine ⟨hc.room.trans ha.room, hc.down, hc.steps.trans ha.steps, hc.armed.trans ha.armed, fun x => by rw [hc.plan]; rfl, ⟨g, hc.fs.trans hg⟩, ?_, hd.2⟩
  rw [hd.1]
  show List.take _ (S.fl [97]).bs = _
  rw [ha.bs]
end Go.Proofs.Ytllkpnlgemjgfaa
