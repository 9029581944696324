/- EdHolds returns true for every seed, every text and every word: what was signed holds, and with another second half it does not, and the chapter's example comes; with no condition. -/
import Derived.Test.YtionjibiemncbaaGreatGOP
import Derived.Test.YtionjibiemncbaaGreatEH
namespace Go.Proofs.YtionjibiemncbaaGreat
open Go.ChangeShapes Go.WideShapes Go.ChangeAt Go.WideElems Go.RowKit
theorem holds_all {vb : Value} {y : Int} (hb : IsW vb y) (ao am : Option Addr) (len cap lenm capm : Nat) (m0 m : Nat → BitVec 8) (w : World) (h0 : Sha.Bytes w ao len cap m0) (hm : Sha.Bytes w am lenm capm m) : Calls Tryz.prog 8 #[.slice ao len cap, .slice am lenm capm, vb] w fun e w' => e = .returned (.bool true) ∧ Below w.heap.size w w' := by
  by_cases hl : len = 32
  · subst hl; exact holds_main hb ao am cap lenm capm m0 m w h0 hm
  · exact holds_short hb ao am len cap lenm capm hl w
set_option maxRecDepth 100000 in
theorem edHolds_lifted (os : Os) (started : os.Started) (H : Type) (enc : TypeId × Value → H) :
    ReturnsInHanded {} Tryz.checked os 8 .any (Rows.edHoldsSpec.pre6 enc Tryz.prog Tryz.f8 Rows.edHoldsRow.domain false) (Rows.edHoldsSpec.post enc Tryz.prog Tryz.f8 false true false false) := by
  refine returnsInHanded_of_change_sized (C := Tryz.checked) Tryz.own started (by kernel_rfl) Tryz.func8
    (ChangeSpec.witness6 (enc := enc) (C := Tryz.checked) false ⟨#[], #[.slice none 0 0, .slice none 0 0, W4 0 0 0 0], []⟩ 8 (by kernel_rfl) (by kernel_rfl) (by kernel_rfl) (by kernel_rfl)) ?_
  intro W base args ds gs before hval0 hW hcnd hsz0 _
  have hval : ∀ (j : Nat) t v, Tryz.f8.params[j]? = some t → args[j]? = some v → Value.okWide Tryz.prog W .any base t v := hval0
  have hW' := hW
  obtain ⟨p, q, hA0, hV, rfl, hfz, hnd⟩ := hW
  have hA : DataW.TrodAll enc Tryz.prog W 0 (fun _ => true) true Tryz.f8.params.toList args.toList ds p := hA0
  rw [Tryz.params8] at hA hval
  obtain ⟨v0, v1, v2, d0, d1, d2, p0, p1, p2, rfl, rfl, rfl, h0, h1, h2⟩ := trodAll_three hA
  obtain ⟨rfl, rfl⟩ := trodVars_none hV
  have hsz : (DataW.weightsEach Tryz.prog [50, 50, 24] [d0, d1, d2]).all (· ≤ reachBytes) = true := hsz0
  obtain ⟨ao, len, cap, m0, rfl, hb0, _⟩ := open50 (hval 0 50 v0 rfl rfl) h0 [50, 50, 24] [d0, d1, d2] 0 rfl rfl hsz
  obtain ⟨am, lenm, capm, m, rfl, hb1, _⟩ := open50 (hval 1 50 v1 rfl rfl) h1 [50, 50, 24] [d0, d1, d2] 1 rfl rfl hsz
  obtain ⟨b0, b1, b2, b3, rfl, rfl, rfl, wb⟩ := open24 (hval 2 24 v2 rfl rfl) h2
  clear hA0 hval0
  simp only [List.append_nil] at hW'
  have hlt0 : ∀ x ∈ p0, x.block < W.heap.size := fun x hx => by simpa using hW'.lt x (by simp [hx])
  have hlt1 : ∀ x ∈ p1, x.block < W.heap.size := fun x hx => by simpa using hW'.lt x (by simp [hx])
  refine (holds_all (IsW.mk wb.L4) ao am len cap lenm capm m0 m W hb0 hb1).mono fun e W' ⟨he, bel⟩ => ?_
  subst he
  have hT := trodAll_mk3 (Below.trod Tryz.laidOut (by kernel_rfl) (of_decide_eq_true (by kernel_rfl)) h0 bel hlt0) (Below.trod Tryz.laidOut (by kernel_rfl) (of_decide_eq_true (by kernel_rfl)) h1 bel hlt1) (shut24 wb)
  simp only [List.append_nil] at hT
  exact ⟨_, rfl, _, _, _, [], p0 ++ p1, [], hW', trodAll_mk1 (shut_bool Tryz.underlying4 _), hT, rfl, bel.frame _, fun h => by cases h⟩
theorem edHolds_holds : Rows.EdHoldsSaid :=
  OpenClaim.holds_of_wide 8 Tryz.f8 rfl rfl rfl rfl rfl rfl rfl ⟨rfl, rfl, rfl, rfl, rfl⟩ rfl rfl rfl rfl rfl (by kernel_rfl) Tryz.func8 (by kernel_rfl)
    (of_decide_eq_true (by kernel_rfl)) (by unfold Func.isWrapper; first | (rw [if_pos (by decide +kernel)]; kernel_rfl) | (rw [if_neg (by decide +kernel)]; exact ⟨rfl, rfl⟩))
    (fun os started H enc _ => edHolds_lifted os started H enc)
#print axioms edHolds_holds
end Go.Proofs.YtionjibiemncbaaGreat
