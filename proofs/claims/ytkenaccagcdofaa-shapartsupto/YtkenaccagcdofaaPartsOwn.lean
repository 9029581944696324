/- ShaParts returns true for every list of lists of bytes that is of bulk at most 1048576: a hash doesn't hang on how the bytes come in parts, asking for it changes nothing, and a nil Hasher is the document's. -/
import Derived.Test.YtkenaccagcdofaaOpen
import Derived.Test.YtkenaccagcdofaaP2
import Derived.JoinedCond
import Derived.Deep.CondSized
import Derived.Deep.Matrix
namespace Go.Proofs.Ytkenaccagcdofaa
open Go.ChangeShapes Go.WideShapes Go.ChangeAt Go.WideElems Go.RowKit
theorem cells22 : Try.prog.cellsOf 22 = 1 := by kernel_rfl
theorem bulk_app {H : Type} (a b : List (DataW H)) : Rows.uptoBulkAll (a ++ b) = Rows.uptoBulkAll a + Rows.uptoBulkAll b := by
  induction a with
  | nil => simp [Rows.uptoBulkAll]
  | cons x r ih => simp only [List.cons_append, Rows.uptoBulkAll, ih]; omega
theorem bulk_lits {H : Type} (zs : List Int) : Rows.uptoBulkAll (lits (H := H) .u8 zs) = zs.length := by
  induction zs with
  | nil => rfl
  | cons x r ih =>
    show Rows.uptoBulk (DataW.lit (.int .u8 x)) + Rows.uptoBulkAll (lits (H := H) .u8 r) = _
    rw [ih]
    show 1 + r.length = _
    simp; omega
theorem bulk_row {H : Type} (A : Option Addr) (l c : Nat) (zs : List Int) (hl : l ≤ c) (hz : zs.length = c) (hn : A = none → c = 0) : l + 1 ≤ Rows.uptoBulk (Deep.intRow (H := H) .u8 A l zs) := by
  cases A with
  | none => have := hn rfl; show l + 1 ≤ 1; omega
  | some a =>
    show l + 1 ≤ Rows.uptoBulkAll (lits .u8 (zs.take l)) + Rows.uptoBulkAll (lits .u8 (zs.drop l)) + 1
    rw [bulk_lits, bulk_lits]
    simp; omega
theorem bulk_tot {H : Type} (ln : Nat → Nat) (f : Nat → DataW H) : ∀ i, (∀ r, r < i → ln r + 1 ≤ Rows.uptoBulk (f r)) → tot ln i + i ≤ Rows.uptoBulkAll ((List.range i).map f)
  | 0, _ => by simp [tot, Rows.uptoBulkAll]
  | i + 1, h => by
    have ih := bulk_tot ln f i (fun r hr => h r (by omega))
    have h1 := h i (by omega)
    rw [List.range_succ, List.map_append, bulk_app]
    simp only [List.map_cons, List.map_nil, Rows.uptoBulkAll, tot]
    omega
theorem tot_mono (ln : Nat → Nat) (i : Nat) : ∀ d, tot ln i ≤ tot ln (i + d)
  | 0 => Nat.le_refl _
  | d + 1 => Nat.le_trans (tot_mono ln i d) (by show tot ln (i + d) ≤ tot ln (i + d) + ln (i + d); omega)
theorem open31 {H : Type} {enc : TypeId × Value → H} {W : World} {base : Nat} {v : Value} {d : DataW H} {p : List MemPlace} (hv : Value.okWide Try.prog W .any base 31 v) (h : DataW.Trod enc Try.prog W 0 (fun _ => true) true 31 v d p) (hk : Rows.uptoSmall H ([d] ++ []) = true) :
    ∃ lao L C lb lo ao ln cp ms, v = .slice lao L C ∧ (0 < L → lao = some ⟨lb, lo, none⟩) ∧ Parts W lb lo L ao ln cp ms ∧ L ≤ 1048576 ∧ ∀ i, i ≤ L → tot ln i ≤ 1048576 := by
  have hb : Rows.uptoBulk d ≤ 1048576 := by
    have h2 := of_decide_eq_true hk
    simp only [List.append_nil, Rows.uptoBulkAll] at h2
    omega
  obtain ⟨a1, len, cap, rfl⟩ := okWide_slice Try.underlying31 hv
  obtain ⟨fuel, hf⟩ := h
  rcases Deep.open_int_rows Try.underlying31 Try.underlying22 Try.underlying5 cells22 cells5 hf with ⟨hcs, hx⟩ | ⟨a, len', cap', A, L, C, Z, hcs, _, hl, hm, hx, hrows⟩
  · simp [Value.cells] at hcs
    obtain ⟨rfl, rfl, rfl⟩ := hcs
    exact ⟨none, 0, 0, 0, 0, fun _ => none, fun _ => 0, fun _ => 0, fun _ _ => 0, rfl, fun h => absurd h (by omega), fun i hi => absurd hi (by omega), by omega, fun i hi => by
      obtain rfl : i = 0 := by omega
      exact Nat.zero_le _⟩
  · simp [Value.cells] at hcs
    obtain ⟨rfl, rfl, rfl⟩ := hcs
    simp only [Prod.mk.injEq] at hx
    obtain ⟨rfl, rfl⟩ := hx
    have hbt := bulk_tot (H := H) L (fun r => Deep.intRow .u8 (A r) (L r) (Z r)) len (fun r hr => by
      obtain ⟨_, h1, _, h2, _, h3, _⟩ := hrows r (by omega)
      exact bulk_row _ _ _ _ h1 h2 h3)
    simp only [Rows.uptoBulk] at hb
    have htl : tot L len + len ≤ 1048576 := by omega
    have hti : ∀ i, i ≤ len → tot L i ≤ 1048576 := fun i hi => by
      have h1 := tot_mono L i (len - i)
      rw [Nat.add_sub_cancel' hi] at h1
      omega
    obtain ⟨ab, ao, spot⟩ := a
    refine ⟨_, len, cap, ab, ao, A, L, C, fun i j => BitVec.ofNat 8 ((Z i).getD j 0).toNat, rfl, fun h0 => ?_, fun i hi => ?_, by omega, hti⟩
    · have hspot : spot = none := by simpa [Addr.add] using World.cell?_spot (hrows 0 (by omega)).1
      rw [hspot]
    · obtain ⟨h0, h1, h2, h3, h4, h5, h6⟩ := hrows i (by omega)
      have hspot : spot = none := by simpa [Addr.add] using World.cell?_spot (hrows 0 (by omega)).1
      subst hspot
      rw [Addr.add_lit] at h0
      have hLi : L i ≤ 1048576 := by
        have h7 : tot L i + L i ≤ 1048576 := hti (i + 1) (by omega)
        omega
      refine ⟨h0, ?_, fun e => ?_⟩
      · cases hA : A i with
        | none =>
          have := h5 hA
          exact ⟨0, 0, fun h => absurd h (by omega), fun j hj => absurd hj (by omega), h1, by unfold maxLen at h2; omega, by omega⟩
        | some a' =>
          obtain ⟨bb, off, spot⟩ := a'
          obtain ⟨_, h7⟩ := h6 _ hA
          refine ⟨bb, off, fun h => ?_, fun j hj => ?_, h1, by unfold maxLen at h2; omega, by omega⟩
          · have hspot : spot = none := by simpa [Addr.add] using World.cell?_spot (h7 0 (by omega))
            rw [hspot]
          · have hspot : spot = none := by simpa [Addr.add] using World.cell?_spot (h7 0 (by omega))
            subst hspot
            have hc := h7 j (by omega)
            rw [Addr.add_lit] at hc
            have hw : (Lit.int .u8 ((Z i).getD j 0)).wf = true := by
              have e : (Z i).getD j 0 = (Z i)[j]'(by omega) := by simp [List.getD, List.getElem?_eq_getElem (show j < (Z i).length by omega)]
              rw [e]; exact h4 _ (List.getElem_mem _)
            rw [← wf8 hw]
            exact hc
      · have := h5 e
        omega
set_option maxRecDepth 100000 in
theorem shaParts_lifted (os : Os) (started : os.Started) (H : Type) (enc : TypeId × Value → H) (F : Stop.Interp) :
    ReturnsInHanded {} Try.checked os 5 .any ((Rows.OpenSpec.upto Rows.shaPartsSpec).pre6 enc Try.prog Try.f5 Rows.shaPartsUptoRow.domain false) (((Rows.OpenSpec.upto Rows.shaPartsSpec).at F).post enc Try.prog Try.f5 false true false false) := by
  refine returnsInHanded_of_cond (C := Try.checked) (s := Rows.OpenSpec.upto Rows.shaPartsSpec) (k := Rows.uptoSmall) rfl Try.own started (by kernel_rfl) Try.func5
    (OpenSpec.witness (enc := enc) (C := Try.checked) (s := Rows.OpenSpec.upto Rows.shaPartsSpec) (k := Rows.uptoSmall) rfl false ⟨#[], #[.slice none 0 0], []⟩ 8 (by kernel_rfl) (by kernel_rfl) (by kernel_rfl)
      (x := ([.nil], [], [])) (by kernel_rfl) rfl (by kernel_rfl)) ?_
  intro W base args ds gs before hval0 hW _ hk _
  have hval : ∀ (j : Nat) t v, Try.f5.params[j]? = some t → args[j]? = some v → Value.okWide Try.prog W .any base t v := hval0
  have hW' := hW
  obtain ⟨p, q, hA0, hV, rfl, hfz, hnd⟩ := hW
  have hA : DataW.TrodAll enc Try.prog W 0 (fun _ => true) true Try.f5.params.toList args.toList ds p := hA0
  rw [Try.params5] at hA hval
  obtain ⟨v0, d0, rfl, rfl, h0⟩ := trodAll_one hA
  obtain ⟨rfl, rfl⟩ := trodVars_none hV
  obtain ⟨lao, L, C, lb, lo, ao, ln, cp, ms, rfl, hl, hrow, hLL, htot⟩ := open31 (hval 0 31 v0 rfl rfl) h0 hk
  clear hA0 hval0
  simp only [List.append_nil] at hW'
  have hlt : ∀ x ∈ p, x.block < W.heap.size := fun x hx => by simpa using hW'.lt x (by simpa using hx)
  refine (parts_any lao L C lb lo ao ln cp ms W hl hrow hLL htot).mono fun e W' ⟨he, bel⟩ => ?_
  subst he
  exact ⟨_, rfl, _, _, _, [], p, [], hW', trodAll_mk1 (shut_bool Try.underlying4 _), trodAll_mk1 (Below.trod Try.laidOut (by kernel_rfl) (of_decide_eq_true (by kernel_rfl)) h0 bel hlt), rfl, bel.frame _, fun h => by cases h⟩
/-- The given statement. -/
theorem shaParts_holds : Rows.ShaPartsUptoSaid :=
  OpenClaim.holds_of_cond 5 Try.f5 rfl rfl rfl rfl rfl rfl rfl ⟨rfl, rfl, rfl, rfl, rfl⟩ rfl rfl rfl rfl rfl (by kernel_rfl) Try.func5 (by kernel_rfl)
    (of_decide_eq_true (by kernel_rfl)) (by unfold Func.isWrapper; first | (rw [if_pos (by decide +kernel)]; kernel_rfl) | (rw [if_neg (by decide +kernel)]; exact ⟨rfl, rfl⟩))
    (fun os started H enc _ F => shaParts_lifted os started H enc F)
#print axioms shaParts_holds
end Go.Proofs.Ytkenaccagcdofaa
