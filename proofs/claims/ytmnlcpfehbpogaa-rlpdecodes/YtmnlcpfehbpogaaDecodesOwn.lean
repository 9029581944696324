/- RlpDecodes returns true for every list of bytes: Decode and First tell the item, its length and the error that the document's own reading tells, and the chapter's examples come; with no condition. -/
import Derived.Test.YtmnlcpfehbpogaaTG
namespace Go.Proofs.Ytmnlcpfehbpogaa
open Go.ChangeShapes Go.WideShapes Go.ChangeAt Go.WideElems Go.RowKit Go.ChangeMaps
set_option linter.unusedSimpArgs false
theorem Try.own : ownKnob Try.prog.godebug = none := by kernel_rfl
theorem Try.laidOut : laidOutB Try.prog = true := by kernel_rfl
theorem cells_slice {a a' : Option Addr} {l l' c c' : Nat} (h : (Value.slice a l c).cells.toList = [.slice a' l' c']) : Value.slice a l c = .slice a' l' c' := by
  simpa [Value.cells] using h
theorem cells_agg {cs : Array Value} {x y z : Value} (h : (Value.agg cs).cells.toList = [x, y, z]) : Value.agg cs = .agg #[x, y, z] := by
  have h2 : cs.toList = [x, y, z] := by simpa [Value.cells] using h
  have : cs = #[x, y, z] := by apply Array.ext'; simpa using h2
  rw [this]
set_option maxRecDepth 100000 in
theorem rlpDecodes_lifted (os : Os) (started : os.Started) (H : Type) (enc : TypeId × Value → H) :
    ReturnsInHanded {} Try.checked os 4 .any (Rows.rlpDecodesSpec.pre6 enc Try.prog Try.f4 Rows.rlpDecodesRow.domain false) (Rows.rlpDecodesSpec.post enc Try.prog Try.f4 false true false false) := by
  refine returnsInHanded_of_change_sized (C := Try.checked) Try.own started (by kernel_rfl) Try.func4
    (ChangeSpec.witness6 (enc := enc) (C := Try.checked) false ⟨#[], #[.slice none 0 0], []⟩ 8 (by kernel_rfl) (by kernel_rfl) (by kernel_rfl) (by kernel_rfl)) ?_
  intro W base args ds gs before hval0 hW hcnd hsz0 _
  have hval : ∀ (j : Nat) t v, Try.f4.params[j]? = some t → args[j]? = some v → Value.okWide Try.prog W .any base t v := hval0
  have hW' := hW
  obtain ⟨p, q, hA0, hV, rfl, hfz, hnd⟩ := hW
  have hA : DataW.TrodAll enc Try.prog W 0 (fun _ => true) true Try.f4.params.toList args.toList ds p := hA0
  rw [Try.params4] at hA hval
  obtain ⟨v1, d1, rfl, rfl, h1⟩ := trodAll_one hA
  obtain ⟨rfl, rfl⟩ := trodVars_none hV
  have hsz : (DataW.weightsEach Try.prog [22] [d1]).all (· ≤ reachBytes) = true := hsz0
  obtain ⟨a1, l1, c1, rfl⟩ := okWide_slice Try.underlying22 (hval 0 22 v1 rfl rfl)
  obtain ⟨f1, g1⟩ := id h1
  obtain ⟨va, vc, bs, e1, hbv, hsv⟩ := open_bs g1 (fun m hm => by
    have := List.all_eq_true.1 hsz m (DataW.weights_mem_each (j := 0) (t := 22) rfl rfl m hm)
    simpa using this)
  have e1' := cells_slice e1
  clear hA0 hval0
  simp only [List.append_nil] at hW'
  have hlt : ∀ x ∈ p, x.block < W.heap.size := fun x hx => by simpa using hW'.lt x (by simpa using hx)
  have hw := decodes_any hsv
  rw [← e1'] at hw
  refine hw.mono fun e W' ⟨bel, he⟩ => ?_
  subst he
  have hT := trodAll_mk1 (Below.trod Try.laidOut (by kernel_rfl) (of_decide_eq_true (by kernel_rfl)) h1 bel (fun x hx => hlt x (by simp [hx])))
  exact ⟨_, rfl, _, _, _, [], _, [], hW', trodAll_mk1 (shut_bool Try.underlying4 _), hT, rfl, bel.frame _, fun h => by cases h⟩
/-- The given statement. -/
theorem rlpDecodes_holds : Rows.RlpDecodesSaid :=
  OpenClaim.holds_of_wide 4 Try.f4 rfl rfl rfl rfl rfl rfl rfl ⟨rfl, rfl, rfl, rfl, rfl⟩ rfl rfl rfl rfl rfl (by kernel_rfl) Try.func4 (by kernel_rfl)
    (of_decide_eq_true (by kernel_rfl)) (by unfold Func.isWrapper; first | (rw [if_pos (by decide +kernel)]; kernel_rfl) | (rw [if_neg (by decide +kernel)]; exact ⟨rfl, rfl⟩))
    (fun os started H enc _ => rlpDecodes_lifted os started H enc)
#print axioms rlpDecodes_holds
end Go.Proofs.Ytmnlcpfehbpogaa
