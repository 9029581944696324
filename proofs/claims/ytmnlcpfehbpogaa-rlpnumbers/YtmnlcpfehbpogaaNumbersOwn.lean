/- RlpNumbers returns true for every number, every word and every two items: how numbers are items, which items are numbers, which items are the same, and what a list of two is, as the document's own answers tell it, and the chapter's examples come; with no condition. -/
import Derived.Test.YtmnlcpfehbpogaaUD
import Derived.Carry
import Derived.ProofKit
import Derived.Laws.IdiomArrays
namespace Go.Proofs.Ytmnlcpfehbpogaa
open Go.ChangeShapes Go.WideShapes Go.ChangeAt Go.WideElems Go.RowKit Go.ChangeMaps
set_option linter.unusedSimpArgs false
theorem Try.own : ownKnob Try.prog.godebug = none := by kernel_rfl
theorem Try.laidOut : laidOutB Try.prog = true := by kernel_rfl
theorem cells_agg {cs : Array Value} {x y z : Value} (h : (Value.agg cs).cells.toList = [x, y, z]) : Value.agg cs = .agg #[x, y, z] := by
  have h2 : cs.toList = [x, y, z] := by simpa [Value.cells] using h
  have : cs = #[x, y, z] := by apply Array.ext'; simpa using h2
  rw [this]
theorem Try.cells48 : Try.prog.cellsOf 48 = 1 := by kernel_rfl
theorem Try.cells50 : Try.prog.cellsOf 50 = 4 := by kernel_rfl
theorem list4 {α : Type} (l : List α) (h : (⟨l⟩ : Array α).size = 4) : ∃ a b c d, l = [a, b, c, d] := by
  match l, h with
  | [a, b, c, d], _ => exact ⟨a, b, c, d, rfl⟩
theorem limb_of {x : Int} (h : (Lit.int .u64 x).wf = true) : Wd.Limb x := by
  simp [Lit.wf, IntKind.min, IntKind.max, IntKind.signed, IntKind.bits] at h
  exact ⟨by omega, by omega⟩
set_option maxRecDepth 100000 in
theorem open50 {H : Type} {enc : TypeId × Value → H} {W : World} {base : Nat} {sp : Nat → Bool} {held : Bool} {v : Value} {d : DataW H} {p : List MemPlace} (hv : Value.okWide Try.prog W .any base 50 v) (h : DataW.Trod enc Try.prog W 0 sp held 50 v d p) :
    ∃ a0 a1 a2 a3 : Int, v = Wd.W4 a0 a1 a2 a3 ∧ Wd.L4 a0 a1 a2 a3 := by
  obtain ⟨cs, rfl, hsz, _⟩ : ∃ cs, v = .agg cs ∧ cs.size = Try.prog.cellsOf 50 ∧ Row.okWide Try.prog W .any base 50 cs := by
    simpa [Value.okWide, Try.underlying50] using hv
  rw [Try.cells50] at hsz
  obtain ⟨l⟩ := cs
  obtain ⟨c0, c1, c2, c3, rfl⟩ := list4 l hsz
  obtain ⟨fuel, hf⟩ := h
  obtain ⟨y0, y1, y2, y3, m, hx, hy0, hy1, hy2, hy3⟩ := trod_array4 Try.underlying50 Try.cells48 hf
  obtain ⟨x0, e0, rfl, w0⟩ := DataW.trod_int Try.underlying48 hy0
  obtain ⟨x1, e1, rfl, w1⟩ := DataW.trod_int Try.underlying48 hy1
  obtain ⟨x2, e2, rfl, w2⟩ := DataW.trod_int Try.underlying48 hy2
  obtain ⟨x3, e3, rfl, w3⟩ := DataW.trod_int Try.underlying48 hy3
  simp at e0 e1 e2 e3
  subst e0 e1 e2 e3
  exact ⟨x0, x1, x2, x3, rfl, limb_of w0, limb_of w1, limb_of w2, limb_of w3⟩
set_option maxRecDepth 100000 in
theorem open48 {H : Type} {enc : TypeId × Value → H} {W : World} {base : Nat} {sp : Nat → Bool} {held : Bool} {v : Value} {d : DataW H} {p : List MemPlace} (hv : Value.okWide Try.prog W .any base 48 v) (h : DataW.Trod enc Try.prog W 0 sp held 48 v d p) :
    ∃ n : Nat, v = .int .u64 n ∧ n < 18446744073709551616 := by
  obtain ⟨x0, rfl⟩ := okWide_int Try.underlying48 hv
  obtain ⟨fuel, hf⟩ := h
  obtain ⟨x, e, -, wf⟩ := DataW.trod_int Try.underlying48 hf
  have hl := limb_of wf
  have e2 : x0 = x := by simpa [Value.cells] using e
  subst e2
  exact ⟨x0.toNat, by have hx : ((x0.toNat : Nat) : Int) = x0 := (by have := hl.1; omega)
                      rw [hx], by have := hl.2; have := hl.1; omega⟩
set_option maxRecDepth 100000 in
theorem rlpNumbers_lifted (os : Os) (started : os.Started) (H : Type) (enc : TypeId × Value → H) :
    ReturnsInHanded {} Try.checked os 5 .any (Rows.rlpNumbersSpec.pre6 enc Try.prog Try.f5 Rows.rlpNumbersRow.domain false) (Rows.rlpNumbersSpec.post enc Try.prog Try.f5 false true false false) := by
  refine returnsInHanded_of_change_sized (C := Try.checked) Try.own started (by kernel_rfl) Try.func5
    (ChangeSpec.witness6 (enc := enc) (C := Try.checked) false ⟨#[], #[.int .u64 0, .agg #[.int .u64 0, .int .u64 0, .int .u64 0, .int .u64 0], .agg #[.bool false, .slice none 0 0, .slice none 0 0], .agg #[.bool false, .slice none 0 0, .slice none 0 0]], []⟩ 8 (by kernel_rfl) (by kernel_rfl) (by kernel_rfl) (by kernel_rfl)) ?_
  intro W base args ds gs before hval0 hW hcnd hsz0 _
  have hval : ∀ (j : Nat) t v, Try.f5.params[j]? = some t → args[j]? = some v → Value.okWide Try.prog W .any base t v := hval0
  have hW' := hW
  obtain ⟨p, q, hA0, hV, rfl, hfz, hnd⟩ := hW
  have hA : DataW.TrodAll enc Try.prog W 0 (fun _ => true) true Try.f5.params.toList args.toList ds p := hA0
  rw [Try.params5] at hA hval
  obtain ⟨v0, v1, v2, v3, d0, d1, d2, d3, p0, p1, p2, p3, rfl, rfl, rfl, h0, h1, h2, h3⟩ := trodAll_four hA
  obtain ⟨rfl, rfl⟩ := trodVars_none hV
  have hsz : (DataW.weightsEach Try.prog [48, 50, 25, 25] [d0, d1, d2, d3]).all (· ≤ reachBytes) = true := hsz0
  obtain ⟨n, rfl, hn⟩ := open48 (hval 0 48 v0 rfl rfl) h0
  obtain ⟨a0, a1, a2, a3, rfl, ha⟩ := open50 (hval 1 50 v1 rfl rfl) h1
  obtain ⟨c2, rfl, _⟩ := okWide_struct Try.underlying25 (hval 2 25 v2 rfl rfl)
  obtain ⟨c3, rfl, _⟩ := okWide_struct Try.underlying25 (hval 3 25 v3 rfl rfl)
  obtain ⟨f2, g2⟩ := id h2
  obtain ⟨f3, g3⟩ := id h3
  obtain ⟨t, sb, si, e2, hit, hbt⟩ := open_it f2 _ _ g2 (fun m hm => by
    have := List.all_eq_true.1 hsz m (DataW.weights_mem_each (j := 2) (t := 25) rfl rfl m hm)
    simpa using this)
  obtain ⟨t', sb', si', e3, hit', hbt'⟩ := open_it f3 _ _ g3 (fun m hm => by
    have := List.all_eq_true.1 hsz m (DataW.weights_mem_each (j := 3) (t := 25) rfl rfl m hm)
    simpa using this)
  have e2' := cells_agg e2
  have e3' := cells_agg e3
  clear hA0 hval0
  simp only [List.append_nil] at hW'
  have hlt : ∀ x ∈ p0 ++ p1 ++ p2 ++ p3, x.block < W.heap.size := fun x hx => by simpa using hW'.lt x (by simpa using hx)
  have hw := numbers_any n hn a0 a1 a2 a3 ha t t' sb si sb' si' hit hit' hbt hbt'
  rw [← e2', ← e3'] at hw
  refine hw.mono fun e W' ⟨bel, he⟩ => ?_
  subst he
  have hT := trodAll_mk4 (Below.trod Try.laidOut (by kernel_rfl) (of_decide_eq_true (by kernel_rfl)) h0 bel (fun x hx => hlt x (by simp [hx]))) (Below.trod Try.laidOut (by kernel_rfl) (of_decide_eq_true (by kernel_rfl)) h1 bel (fun x hx => hlt x (by simp [hx]))) (Below.trod Try.laidOut (by kernel_rfl) (of_decide_eq_true (by kernel_rfl)) h2 bel (fun x hx => hlt x (by simp [hx]))) (Below.trod Try.laidOut (by kernel_rfl) (of_decide_eq_true (by kernel_rfl)) h3 bel (fun x hx => hlt x (by simp [hx])))
  exact ⟨_, rfl, _, _, _, [], _, [], hW', trodAll_mk1 (shut_bool Try.underlying4 _), hT, rfl, bel.frame _, fun h => by cases h⟩
/-- The given statement. -/
theorem rlpNumbers_holds : Rows.RlpNumbersSaid :=
  OpenClaim.holds_of_wide 5 Try.f5 rfl rfl rfl rfl rfl rfl rfl ⟨rfl, rfl, rfl, rfl, rfl⟩ rfl rfl rfl rfl rfl (by kernel_rfl) Try.func5 (by kernel_rfl)
    (of_decide_eq_true (by kernel_rfl)) (by unfold Func.isWrapper; first | (rw [if_pos (by decide +kernel)]; kernel_rfl) | (rw [if_neg (by decide +kernel)]; exact ⟨rfl, rfl⟩))
    (fun os started H enc _ => rlpNumbers_lifted os started H enc)
#print axioms rlpNumbers_holds
end Go.Proofs.Ytmnlcpfehbpogaa
