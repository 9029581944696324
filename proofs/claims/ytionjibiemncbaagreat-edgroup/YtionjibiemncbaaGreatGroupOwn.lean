/- EdGroup returns true for every three pairs of words: points make a group, the base comes round after L, and the chapter's example comes; with no condition. -/
import Derived.Test.YtionjibiemncbaaGreatGOP2
import Derived.Test.YtionjibiemncbaaGreatGR
namespace Go.Proofs.YtionjibiemncbaaGreat
open Go.ChangeShapes Go.WideShapes Go.ChangeAt Go.WideElems Go.RowKit
set_option maxRecDepth 100000 in
theorem edGroup_lifted (os : Os) (started : os.Started) (H : Type) (enc : TypeId × Value → H) :
    ReturnsInHanded {} Tryz.checked os 7 .any (Rows.edGroupSpec.pre6 enc Tryz.prog Tryz.f7 Rows.edGroupRow.domain false) (Rows.edGroupSpec.post enc Tryz.prog Tryz.f7 false true false false) := by
  refine returnsInHanded_of_change (C := Tryz.checked) Tryz.own started (by kernel_rfl) Tryz.func7
    (ChangeSpec.witness6 (enc := enc) (C := Tryz.checked) false ⟨#[], #[.agg (catW [W4 0 0 0 0, W4 0 0 0 0]), .agg (catW [W4 0 0 0 0, W4 0 0 0 0]), .agg (catW [W4 0 0 0 0, W4 0 0 0 0])], []⟩ 8 (by kernel_rfl) (by kernel_rfl) (by kernel_rfl) (by kernel_rfl)) ?_
  intro W base args ds gs before hval0 hW hcnd _
  have hval : ∀ (j : Nat) t v, Tryz.f7.params[j]? = some t → args[j]? = some v → Value.okWide Tryz.prog W .any base t v := hval0
  have hW' := hW
  obtain ⟨p, q, hA0, hV, rfl, hfz, hnd⟩ := hW
  have hA : DataW.TrodAll enc Tryz.prog W 0 (fun _ => true) true Tryz.f7.params.toList args.toList ds p := hA0
  rw [Tryz.params7] at hA hval
  obtain ⟨v0, v1, v2, d0, d1, d2, p0, p1, p2, rfl, rfl, rfl, h0, h1, h2⟩ := trodAll_three hA
  obtain ⟨rfl, rfl⟩ := trodVars_none hV
  obtain ⟨a0, a1, a2, a3, b0, b1, b2, b3, rfl, rfl, rfl, wa, wb⟩ := open26 (hval 0 26 v0 rfl rfl) h0
  obtain ⟨c0, c1, c2, c3, e0, e1, e2, e3, rfl, rfl, rfl, wc, we⟩ := open26 (hval 1 26 v1 rfl rfl) h1
  obtain ⟨f0, f1, f2, f3, g0, g1, g2, g3, rfl, rfl, rfl, wf, wg⟩ := open26 (hval 2 26 v2 rfl rfl) h2
  clear hA0 hval0
  simp only [List.append_nil] at hW'
  refine (group_all (IsW.mk wa.L4) (IsW.mk wb.L4) (IsW.mk wc.L4) (IsW.mk we.L4) (IsW.mk wf.L4) (IsW.mk wg.L4) W).mono fun e W' ⟨he, bel⟩ => ?_
  subst he
  exact ⟨_, rfl, _, _, _, [], [], [], hW', trodAll_mk1 (shut_bool Tryz.underlying4 _), trodAll_mk3 (shut26 wa wb) (shut26 wc we) (shut26 wf wg), rfl, bel.frame _, fun h => by cases h⟩
theorem edGroup_holds : Rows.EdGroupSaid :=
  OpenClaim.holds_of_wide 7 Tryz.f7 rfl rfl rfl rfl rfl rfl rfl ⟨rfl, rfl, rfl, rfl, rfl⟩ rfl rfl rfl rfl rfl (by kernel_rfl) Tryz.func7 (by kernel_rfl)
    (of_decide_eq_true (by kernel_rfl)) (by unfold Func.isWrapper; first | (rw [if_pos (by decide +kernel)]; kernel_rfl) | (rw [if_neg (by decide +kernel)]; exact ⟨rfl, rfl⟩))
    (fun os started H enc _ => edGroup_lifted os started H enc)
#print axioms edGroup_holds
end Go.Proofs.YtionjibiemncbaaGreat
