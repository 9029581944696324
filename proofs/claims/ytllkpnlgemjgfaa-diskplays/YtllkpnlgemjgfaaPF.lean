/- disk: both disks side by side, whatever their plans. -/
import Derived.Test.YtllkpnlgemjgfaaCF
import Derived.Test.YtllkpnlgemjgfaaPE
namespace Go.Proofs.Ytllkpnlgemjgfaa
open Go.RowKit Go.Maps Go.Joins
set_option linter.unusedSimpArgs false
set_option linter.unusedVariables false
/-- The kind of a plan's fault at a step. -/
def pK (l : List (Int × Int)) (x : Int) : Int := match l.find? (fun p => p.1 == x) with
  | some p => p.2
  | none => 0
/-- Both disks, side by side. -/
structure Tw (w : World) (bd br : Nat) (S : DS) (R : RS) (ro : Int) : Prop where
  disk : DiskIs w bd S
  gb : GB S ro
  ref : RefIs w br R
  hb : HB R ro
  same : absP S = absR R.A
  apart : ∀ b, R.own b ≠ 0 → S.role b = .none
  down : S.down = R.down
  steps : S.steps = R.n
  armed : S.armed = R.frm
  plan : ∀ x, 1 ≤ x → S.plan x = pK R.plan x
theorem Tw.below {w w' : World} {bd br : Nat} {S : DS} {R : RS} {ro : Int} (h : Tw w bd br S R ro) (hb : Below w.heap.size w w') : Tw w' bd br S R ro :=
  ⟨h.disk.below hb, h.gb, h.ref.below hb, h.hb, h.same, h.apart, h.down, h.steps, h.armed, h.plan⟩
theorem Tw.kind {w : World} {bd br : Nat} {S : DS} {R : RS} {ro : Int} (h : Tw w bd br S R ro) : stK S = rplK R := by
  have hc := h.gb.cnt
  unfold Cnt at hc
  unfold stK
  rw [h.plan _ (by omega), h.steps, h.armed]
  rfl
theorem Tw.stepE {w : World} {bd br : Nat} {S : DS} {R : RS} {ro : Int} (h : Tw w bd br S R ro) {ns : List ByteArray} {a b : ByteArray} (hn : okN ns = (nameB a && nameB b)) : rstE R a b = stepE S ns := by
  unfold rstE Proofs.Ytllkpnlgemjgfaa.stepE
  rw [h.kind, hn, h.down]
theorem Tw.stepD {w : World} {bd br : Nat} {S : DS} {R : RS} {ro : Int} (h : Tw w bd br S R ro) {ns : List ByteArray} {a b : ByteArray} (hn : okN ns = (nameB a && nameB b)) : (rstS R a b).down = (stepS S ns).down ∧ (rstS R a b).n = (stepS S ns).steps := by
  have hk := h.kind
  have hd := h.down
  have hs := h.steps
  unfold rstS stepS
  rw [hn, hk, hd]
  cases hR : R.down
  · cases hN : (nameB a && nameB b)
    · exact ⟨by simp [hR, hd], by simp [hs]⟩
    · exact ⟨by simp, by simp [hs]⟩
  · exact ⟨by simp [hR, hd], by simp [hs]⟩
theorem stepS_le (S : DS) (ns : List ByteArray) : S.steps ≤ (stepS S ns).steps ∧ (stepS S ns).steps ≤ S.steps + 1 := by
  unfold stepS
  split
  · exact ⟨by omega, by omega⟩
  · split
    · exact ⟨by show S.steps ≤ S.steps + 1; omega, by show S.steps + 1 ≤ S.steps + 1; omega⟩
    · exact ⟨by omega, by omega⟩
theorem Tw.first {w w1 : World} {bd br : Nat} {S S' : DS} {R : RS} {ro : Int} (h : Tw w bd br S R ro) (hD : DiskIs w1 bd S') (hF : Fr w w1 S S') : Mid w w1 bd br S S' R :=
  ⟨hD, h.ref.kept (fun b hb => hF.block b (h.ref.own_lt hb) (h.apart b hb)) hF.size, fun b hb => hF.role b (h.ref.own_lt hb) (h.apart b hb),
   ⟨hF.os, hF.tape, hF.output, hF.size, fun b hb h1 _ => hF.block b hb h1, fun b hb h1 h2 => ⟨hF.role b hb h1, h2⟩⟩⟩
theorem Tw.next {w w2 : World} {bd br : Nat} {S S' : DS} {R R' : RS} {ro : Int} {l : List Tf} {ns : List ByteArray} {a b : ByteArray} (hn : okN ns = (nameB a && nameB b)) (h : Tw w bd br S R ro) (hD : DiskIs w2 bd S') (hR : RefIs w2 br R') (hap : ∀ b, R'.own b ≠ 0 → S'.role b = .none) (hp : GS S S' (stepS S ns).down (stepS S ns).steps l) (hr : HS R R' (rstS R a b).down (rstS R a b).n l) (hw : Wf l ro) (hst : S.steps < 4611686018427387903) : Tw w2 bd br S' R' ro := by
  have hc := h.gb.cnt
  unfold Cnt at hc
  have h1 := stepS_le S ns
  have h2 := h.stepD hn
  have hs := h.steps
  have ha := h.armed
  refine ⟨hD, ⟨?_, hp.room.trans h.gb.rm, h.gb.r0, by rw [hp.abs]; exact hw⟩, hR, ⟨⟨?_, ?_, ?_⟩, ?_, hr.room.trans h.hb.rm, h.gb.r0, by rw [hr.abs]; exact hw, ?_⟩, by rw [hp.abs, hr.abs], hap, by rw [hp.down, hr.down, h2.1], by rw [hp.steps, hr.n, h2.2], by rw [hp.armed, hr.frm]; exact ha, fun x hx => by rw [hp.plan, hr.plan]; exact h.plan x hx⟩
  · unfold Cnt
    rw [hp.armed, hp.steps]
    omega
  · rw [hr.plan]; exact h.hb.planR.len
  · rw [hr.plan]; exact h.hb.planR.kind
  · intro _
    rw [hr.frm, hr.n, h2.2, ← ha]
    omega
  · unfold Rn
    rw [hr.n, h2.2]
    omega
  · rw [hr.abs, ← hp.abs]
    exact hD.srt
end Go.Proofs.Ytllkpnlgemjgfaa
