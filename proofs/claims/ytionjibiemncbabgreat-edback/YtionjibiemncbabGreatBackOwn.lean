/- EdBack returns true for every pair of words and every key: points and bytes go back and forth, and the chapter's example comes; with no condition. -/
import Derived.Test.YtionjibiemncbabGreatBK
import Derived.Test.YtionjibiemncbabGreatRows
import Derived.Carry
import Derived.ChangeSlices
namespace Go.Proofs.YtionjibiemncbabGreat
open Go.ChangeShapes Go.WideShapes Go.ChangeAt Go.WideElems Go.RowKit
theorem valB_digit : ∀ (d : List Int), Byt d → ∀ k, valB d / 256 ^ k % 256 = d.getD k 0
  | [], _, k => by simp [valB]
  | x :: r, h, 0 => by
    have h0 := h 0
    simp only [List.getD_cons_zero] at h0
    simp only [valB, List.getD_cons_zero]
    omega
  | x :: r, h, k + 1 => by
    have h0 := h 0
    simp only [List.getD_cons_zero] at h0
    have ih := valB_digit r (fun j => by have := h (j + 1); simpa using this) k
    simp only [valB, List.getD_cons_succ]
    rw [Int.pow_succ, Int.mul_comm (256 ^ k) 256, ← Int.ediv_ediv_of_nonneg (by decide : (0 : Int) ≤ 256)]
    rw [show (x + 256 * valB r) / 256 = valB r from by omega]
    exact ih
theorem Tryz.laidOut : laidOutB Tryz.prog = true := by kernel_rfl
set_option maxRecDepth 100000 in
theorem openKey {H : Type} {enc : TypeId × Value → H} {W : World} {base : Nat} {sp : Nat → Bool} {held : Bool} {v : Value} {d : DataW H} {p : List MemPlace} (hv : Value.okWide Tryz.prog W .any base 28 v) (h : DataW.Trod enc Tryz.prog W 0 sp held 28 v d p) :
    ∃ n : Int, 0 ≤ n ∧ n < T256 ∧ v = keyV n ∧ p = [] := by
  have c28 : Tryz.prog.cellsOf 28 = 32 := by kernel_rfl
  have c5 : Tryz.prog.cellsOf 5 = 1 := by kernel_rfl
  obtain ⟨cs, rfl, hsz, _⟩ : ∃ cs, v = .agg cs ∧ cs.size = Tryz.prog.cellsOf 28 ∧ Row.okWide Tryz.prog W .any base 28 cs := by
    simpa [Value.okWide, Tryz.underlying28] using hv
  obtain ⟨fuel, hf⟩ := h
  obtain ⟨xs, m, rfl, hx, hlen, hn, hel⟩ := DataW.trod_array Tryz.underlying28 hf
  rw [c28] at hsz
  have hcell : ∀ i, i < 32 → ∃ b : Int, (cs[i]? = some (.int .u8 b) ∧ 0 ≤ b ∧ b < 256) ∧ ∀ y, xs[i]? = some y → y.2 = [] := by
    intro i hi
    have h1 := hel i hi
    have hxi : xs[i]? = some xs[i] := List.getElem?_eq_getElem (by omega)
    rw [hxi] at h1
    obtain ⟨k, e1, e2, w1⟩ := DataW.trod_int Tryz.underlying5 h1
    have hk : 0 ≤ k ∧ k < 256 := by
      simp [Lit.wf, IntKind.min, IntKind.max, IntKind.signed, IntKind.bits] at w1
      exact ⟨by omega, by omega⟩
    rw [c5, Nat.mul_one] at e1
    refine ⟨k, ⟨?_, hk⟩, fun y hy => ?_⟩
    · have hd : ((Value.agg cs).cells.toList.drop i).take 1 = [cs[i]'(by omega)] := by
        rw [List.take_one]
        simp [Value.cells, List.head?_drop]
      rw [hd] at e1
      rw [Array.getElem?_eq_getElem (by omega)]
      simpa using e1
    · rw [hxi] at hy
      cases hy
      rw [e2]
  obtain ⟨f, hS⟩ : ∃ f : Nat → Int, ∀ i, i < 32 → cs[i]? = some (.int .u8 (f i)) ∧ 0 ≤ f i ∧ f i < 256 :=
    ⟨fun i => if h : i < 32 then (hcell i h).choose else 0, fun i hi => by simp only [dif_pos hi]; exact (hcell i hi).choose_spec.1⟩
  have hB : Byt (lsI f 32) := lsI_byt (fun j hj => (hS j hj).2)
  have hbd := valB_bd (lsI f 32) hB
  rw [lsI_len] at hbd
  have hT : T256 = 256 ^ 32 := by decide
  refine ⟨valB (lsI f 32), hbd.1, by rw [hT]; exact hbd.2, ?_, ?_⟩
  · unfold keyV
    congr 1
    apply Array.ext_getElem?
    intro i
    by_cases hi : i < 32
    · rw [(hS i hi).1, get_vec _ _ _ hi]
      unfold kb
      rw [valB_digit _ hB, lsI_get _ _ _ hi]
    · rw [Array.getElem?_eq_none (by omega), Array.getElem?_eq_none (by rw [size_vec]; omega)]
  · simp only [Prod.mk.injEq] at hx
    rw [hx.2, List.flatMap_eq_nil_iff]
    intro y hy
    obtain ⟨i, hi, rfl⟩ := List.mem_iff_getElem.1 hy
    exact (hcell i (by omega)).choose_spec.2 _ (List.getElem?_eq_getElem hi)
theorem back_any {p0 p1 : Value} {x y : Int} (hx : IsW p0 x) (hy : IsW p1 y) {n : Int} (n0 : 0 ≤ n) (n1 : n < T256) (w : World) :
    Calls Tryz.prog 3 #[.agg (catW [p0, p1]), keyV n] w fun e w' => e = .returned (.bool true) ∧ Below w.heap.size w w' := by
  cases h : decK n with
  | none => exact back_none hx hy n0 n1 h w
  | some ab => exact back_some hx hy n0 n1 h w
set_option maxRecDepth 100000 in
theorem edBack_lifted (os : Os) (started : os.Started) (H : Type) (enc : TypeId × Value → H) :
    ReturnsInHanded {} Tryz.checked os 3 .any (Rows.edBackSpec.pre6 enc Tryz.prog Tryz.f3 Rows.edBackRow.domain false) (Rows.edBackSpec.post enc Tryz.prog Tryz.f3 false true false false) := by
  refine returnsInHanded_of_change (C := Tryz.checked) Tryz.own started (by kernel_rfl) Tryz.func3
    (ChangeSpec.witness6 (enc := enc) (C := Tryz.checked) false ⟨#[], #[.agg (catW [W4 0 0 0 0, W4 0 0 0 0]), .agg (vec 32 (kb 0))], []⟩ 8 (by kernel_rfl) (by kernel_rfl) (by kernel_rfl) (by kernel_rfl)) ?_
  intro W base args ds gs before hval0 hW hcnd _
  have hval : ∀ (j : Nat) t v, Tryz.f3.params[j]? = some t → args[j]? = some v → Value.okWide Tryz.prog W .any base t v := hval0
  have hW' := hW
  obtain ⟨p, q, hA0, hV, rfl, hfz, hnd⟩ := hW
  have hA : DataW.TrodAll enc Tryz.prog W 0 (fun _ => true) true Tryz.f3.params.toList args.toList ds p := hA0
  rw [Tryz.params3] at hA hval
  obtain ⟨v0, v1, d0, d1, p0, p1, rfl, rfl, rfl, h0, h1⟩ := trodAll_two hA
  obtain ⟨rfl, rfl⟩ := trodVars_none hV
  obtain ⟨a0, a1, a2, a3, b0, b1, b2, b3, rfl, rfl, rfl, wa, wb⟩ := open26 (hval 0 26 v0 rfl rfl) h0
  obtain ⟨n, n0, n1, rfl, rfl⟩ := openKey (hval 1 28 v1 rfl rfl) h1
  clear hA0 hval0
  simp only [List.append_nil] at hW'
  refine (back_any (IsW.mk wa.L4) (IsW.mk wb.L4) n0 n1 W).mono fun e W' ⟨he, bel⟩ => ?_
  subst he
  exact ⟨_, rfl, _, _, _, [], [], [], hW', trodAll_mk1 (shut_bool Tryz.underlying4 _), trodAll_mk2 (shut26 wa wb) (Below.trod Tryz.laidOut (by kernel_rfl) (of_decide_eq_true (by kernel_rfl)) h1 bel (fun x hx => by cases hx)), rfl, bel.frame _, fun h => by cases h⟩
theorem edBack_holds : Rows.EdBackSaid :=
  OpenClaim.holds_of_wide 3 Tryz.f3 rfl rfl rfl rfl rfl rfl rfl ⟨rfl, rfl, rfl, rfl, rfl⟩ rfl rfl rfl rfl rfl (by kernel_rfl) Tryz.func3 (by kernel_rfl)
    (of_decide_eq_true (by kernel_rfl)) (by unfold Func.isWrapper; first | (rw [if_pos (by decide +kernel)]; kernel_rfl) | (rw [if_neg (by decide +kernel)]; exact ⟨rfl, rfl⟩))
    (fun os started H enc _ => edBack_lifted os started H enc)
#print axioms edBack_holds
end Go.Proofs.YtionjibiemncbabGreat
