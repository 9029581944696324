/- net: the reference's Tick, whatever comes. -/
import Derived.Test.YtemapnfbmhjlbaaRM
namespace Go.Proofs.Ytemapnfbmhjlbaa
open Go.RowKit Go.Maps Go.Joins
set_option linter.unusedSimpArgs false
set_option linter.unusedVariables false
theorem rtick_any {w : World} {b : Nat} {N : RS} (h : RIs w b N) (ho : ROk N) (hge : ∀ t ∈ N.tm, N.clk ≤ t.at_) (most : Int) :
    Calls Try.prog 24 #[.pointer (some ⟨b, 0, none⟩), .int .i64 most] w fun e w' => RTiR w b N (nTick (absR N) most).1 (nTick (absR N) most).2 e w' := by
  have hA : (absR N).tm = N.tm := rfl
  have hC : (absR N).clk = N.clk := rfl
  have wt : ∀ {e : Ending} {w' : World}, (e = .returned (.slice none 0 0) ∧ ∃ N', RIs w' b N' ∧ RFr w w' N N' ∧ absR N' = nWait (absR N) most) → RTiR w b N [] (nWait (absR N) most) e w' := by
    rintro e w' ⟨rfl, N', h1, h2, h3⟩
    exact ⟨_, N', rfl, nilRow _ _ _ _, h1, h2, h3, fun g hg => by cases hg⟩
  cases he : N.tm with
  | nil =>
    have e : nTick (absR N) most = ([], nWait (absR N) most) := by unfold nTick; rw [hA, he]
    rw [e]
    have h0 : N.tm.length = 0 := by rw [he]; rfl
    by_cases hm : most < 0
    · exact (rtick_empty_a h ho most hm h0).mono fun e w' q => wt q
    by_cases hm2 : 1099511627776 - N.clk < most
    · exact (rtick_empty_c h ho most hm hm2 h0).mono fun e w' q => wt q
    · exact (rtick_empty_b h ho most hm hm2 h0).mono fun e w' q => wt q
  | cons t r =>
    have h0 : N.tm[0]? = some t := by rw [he]; rfl
    have hat := ho.at_ t (List.mem_of_getElem? h0)
    have hck := ho.ck
    by_cases hf : max most 0 < t.at_ - N.clk
    · have e : nTick (absR N) most = ([], nWait (absR N) most) := by
        unfold nTick
        rw [hA, he]
        exact if_pos hf
      rw [e]
      by_cases hm : most < 0
      · exact (rtick_far_a h ho most hm t h0 hf).mono fun e w' q => wt q
      · exact (rtick_far_b h ho most hm (by omega) t h0 hf).mono fun e w' q => wt q
    · have hmx : max t.at_ N.clk = t.at_ := by have := hge t (List.mem_of_getElem? h0); omega
      have e : nTick (absR N) most = (N.tm.take (many N.tm), { absR N with clk := t.at_, tm := N.tm.drop (many N.tm) }) := by
        unfold nTick
        rw [hA, he, hC]
        show (if max most 0 < t.at_ - N.clk then _ else _) = _
        rw [if_neg hf, hmx]
      rw [e]
      by_cases hm : most < 0
      · exact rtick_ring_a h ho most hm t h0 hf
      by_cases hm2 : 1099511627776 - N.clk < most
      · exact rtick_ring_c h ho most hm hm2 t h0 hf
      · exact rtick_ring_b h ho most hm hm2 t h0 hf
end Go.Proofs.Ytemapnfbmhjlbaa
