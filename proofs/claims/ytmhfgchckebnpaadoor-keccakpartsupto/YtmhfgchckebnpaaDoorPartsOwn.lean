/- KeccakParts returns true for every list of lists of bytes that is of bulk at most 1048576: a hash doesn't hang on how the bytes come in parts, asking for it changes nothing, and a nil Hasher is the document's; the package variable path starts as the program's text lays it (the card ties it). -/
import Derived.Test.YtmhfgchckebnpaaDoorKQ
import Derived.Test.YtmhfgchckebnpaaDoorP2
import Derived.ChangeSlices
import Derived.SizedLaws
import Derived.JoinedCond
import Derived.Deep.CondSized
import Derived.Deep.Matrix
import Derived.Test.YtmhfgchckebnpaaDoorTie
import Derived.Test.YtmhfgchckebnpaaDoorCards
import Derived.SevenTiedAt
namespace Go.Proofs.YtmhfgchckebnpaaDoor
open Go.ChangeShapes Go.WideShapes Go.ChangeAt Go.WideElems Go.RowKit
theorem wf8 {x : Int} (h : (Lit.int .u8 x).wf = true) : x = I8 (BitVec.ofNat 8 x.toNat) := by
  have hx : 0 ≤ x ∧ x < 256 := by
    simp [Lit.wf, IntKind.min, IntKind.max, IntKind.signed, IntKind.bits] at h
    exact ⟨by omega, by omega⟩
  unfold I8
  rw [BitVec.toNat_ofNat, Nat.mod_eq_of_lt (by omega)]
  omega
theorem cells5 : Tryd.prog.cellsOf 5 = 1 := by kernel_rfl
theorem cells27 : Tryd.prog.cellsOf 27 = 1 := by kernel_rfl
theorem bytes5 : Tryd.prog.bytesOf 5 = 1 := by kernel_rfl
theorem bulk_app {H : Type} (a b : List (DataW H)) : Rows.uptoBulkAll (a ++ b) = Rows.uptoBulkAll a + Rows.uptoBulkAll b := by
  induction a with
  | nil => simp [Rows.uptoBulkAll]
  | cons x r ih => simp only [List.cons_append, Rows.uptoBulkAll, ih]; omega
theorem bulk_lits {H : Type} (zs : List Int) : Rows.uptoBulkAll (lits (H := H) .u8 zs) = zs.length := by
  induction zs with
  | nil => rfl
  | cons x r ih =>
    show Rows.uptoBulk (DataW.lit (.int .u8 x)) + Rows.uptoBulkAll (lits (H := H) .u8 r) = _
    rw [ih]
    show 1 + r.length = _
    simp; omega
theorem bulk_row {H : Type} (A : Option Addr) (l c : Nat) (zs : List Int) (hl : l ≤ c) (hz : zs.length = c) (hn : A = none → c = 0) : l + 1 ≤ Rows.uptoBulk (Deep.intRow (H := H) .u8 A l zs) := by
  cases A with
  | none => have := hn rfl; show l + 1 ≤ 1; omega
  | some a =>
    show l + 1 ≤ Rows.uptoBulkAll (lits .u8 (zs.take l)) + Rows.uptoBulkAll (lits .u8 (zs.drop l)) + 1
    rw [bulk_lits, bulk_lits]
    simp; omega
theorem bulk_tot {H : Type} (ln : Nat → Nat) (f : Nat → DataW H) : ∀ i, (∀ r, r < i → ln r + 1 ≤ Rows.uptoBulk (f r)) → tot ln i + i ≤ Rows.uptoBulkAll ((List.range i).map f)
  | 0, _ => by simp [tot, Rows.uptoBulkAll]
  | i + 1, h => by
    have ih := bulk_tot ln f i (fun r hr => h r (by omega))
    have h1 := h i (by omega)
    rw [List.range_succ, List.map_append, bulk_app]
    simp only [List.map_cons, List.map_nil, Rows.uptoBulkAll, tot]
    omega
theorem tot_mono (ln : Nat → Nat) (i : Nat) : ∀ d, tot ln i ≤ tot ln (i + d)
  | 0 => Nat.le_refl _
  | d + 1 => Nat.le_trans (tot_mono ln i d) (by show tot ln (i + d) ≤ tot ln (i + d) + ln (i + d); omega)
/-- The wrap: a condition of the specification's own, and what the variable holds. -/
theorem returns_cond_and {H : Type} {enc : TypeId × Value → H} {a : Assume} {C : Checked} {os : Os} {f : FuncId} {fn : Func} {s : OpenSpec} {k : (H : Type) → List (DataW H) → Bool} (hk : s.cond = some k) {F : Stop.Interp} {conds : List PathCond} {apart fresh handsOn again : Bool} {X : World → Array Value → Prop}
    (hX : ∀ (w w' : World) (args : Array Value), w.heap = w'.heap → X w args → X w' args)
    (own : ownKnob C.prog.godebug = none) (started : os.Started) (noInit : C.prog.inits.idxOf? f = none) (hfn : C.prog.funcs[f]? = some fn)
    (witness : ∃ (w : World) (tape : Tape) (i : Input), w.os = os ∧ (w.forCall tape i).Shaped C.prog ∧ i.vars = [] ∧ Input.okWide C.prog (w.forCall tape i) .any w.heap.size f i ∧
      ((s.pre enc C.prog fn conds apart (w.forCall tape i).memory i.args ∧ X (w.forCall tape i).memory i.args) ∧ sizedMet enc C.prog fn s apart (w.forCall tape i).memory i.args) ∧ a.holds C.prog (lone (Frame.enter C.prog f i.args .normal) [] (w.forCall tape i)))
    (contract : ∀ (W : World) (base : Nat) (args : Array Value) (ds gs : List (DataW H)) (before : List MemPlace),
      (∀ (j : Nat) t v, fn.params[j]? = some t → args[j]? = some v → Value.okWide C.prog W .any base t v) →
      DataW.Whole enc C.prog fn.params.toList s.vars apart W args.toList ds gs before → k H (ds ++ gs) = true → X W args →
      Calls C.prog f args W fun e W' => ∃ v, e = .returned v ∧ (s.at F).post enc C.prog fn apart fresh handsOn again W args v W') :
    ReturnsInHanded a C os f .any (fun w args => (s.pre enc C.prog fn conds apart w args ∧ X w args) ∧ sizedMet enc C.prog fn s apart w args) ((s.at F).post enc C.prog fn apart fresh handsOn again) := by
  refine returnsInHanded_of_calls own started noInit witness ?_
  intro w tape i _ _ _ hok hpre hholds
  obtain ⟨_, _, _, fn', hfn', _, _, _, _, hval⟩ := hok
  have e : fn' = fn := Option.some.inj (hfn'.symm.trans hfn)
  subst e
  obtain ⟨⟨hpr, hx⟩, hz⟩ := hpre
  obtain ⟨ds, gs, before, hw, hc, hkk⟩ := (OpenSpec.pre_some hk conds apart _ _).1 hpr
  have hw' := DataW.Whole.of_heap (w' := w.forCall tape i) (by rfl) hw
  refine (contract (w.forCall tape i) w.heap.size i.args ds gs before hval hw' hkk (hX _ _ _ (by rfl) hx)).mono fun e W' ⟨v, he, hp⟩ => ?_
  subst he
  exact ChangeSpec.post_blind hp
theorem open32 {H : Type} {enc : TypeId × Value → H} {W : World} {base : Nat} {v : Value} {d : DataW H} {p : List MemPlace} (hv : Value.okWide Tryd.prog W .any base 32 v) (h : DataW.Trod enc Tryd.prog W 0 (fun _ => true) true 32 v d p) (hk : Rows.uptoSmall H ([d] ++ []) = true) :
    ∃ lao L C lb lo ao ln cp ms, v = .slice lao L C ∧ (0 < L → lao = some ⟨lb, lo, none⟩) ∧ Parts W lb lo L ao ln cp ms ∧ L ≤ 1048576 ∧ ∀ i, i ≤ L → tot ln i ≤ 1048576 := by
  have hb : Rows.uptoBulk d ≤ 1048576 := by
    have h2 := of_decide_eq_true hk
    simp only [List.append_nil, Rows.uptoBulkAll] at h2
    omega
  obtain ⟨a1, len, cap, rfl⟩ := okWide_slice Tryd.underlying32 hv
  obtain ⟨fuel, hf⟩ := h
  rcases Deep.open_int_rows Tryd.underlying32 Tryd.underlying27 Tryd.underlying5 cells27 cells5 hf with ⟨hcs, hx⟩ | ⟨a, len', cap', A, L, C, Z, hcs, _, hl, hm, hx, hrows⟩
  · simp [Value.cells] at hcs
    obtain ⟨rfl, rfl, rfl⟩ := hcs
    exact ⟨none, 0, 0, 0, 0, fun _ => none, fun _ => 0, fun _ => 0, fun _ _ => 0, rfl, fun h => absurd h (by omega), fun i hi => absurd hi (by omega), by omega, fun i hi => by
      obtain rfl : i = 0 := by omega
      exact Nat.zero_le _⟩
  · simp [Value.cells] at hcs
    obtain ⟨rfl, rfl, rfl⟩ := hcs
    simp only [Prod.mk.injEq] at hx
    obtain ⟨rfl, rfl⟩ := hx
    have hbt := bulk_tot (H := H) L (fun r => Deep.intRow .u8 (A r) (L r) (Z r)) len (fun r hr => by
      obtain ⟨_, h1, _, h2, _, h3, _⟩ := hrows r (by omega)
      exact bulk_row _ _ _ _ h1 h2 h3)
    simp only [Rows.uptoBulk] at hb
    have htl : tot L len + len ≤ 1048576 := by omega
    have hti : ∀ i, i ≤ len → tot L i ≤ 1048576 := fun i hi => by
      have h1 := tot_mono L i (len - i)
      rw [Nat.add_sub_cancel' hi] at h1
      omega
    obtain ⟨ab, ao, spot⟩ := a
    refine ⟨_, len, cap, ab, ao, A, L, C, fun i j => BitVec.ofNat 8 ((Z i).getD j 0).toNat, rfl, fun h0 => ?_, fun i hi => ?_, by omega, hti⟩
    · have hspot : spot = none := by simpa [Addr.add] using World.cell?_spot (hrows 0 (by omega)).1
      rw [hspot]
    · obtain ⟨h0, h1, h2, h3, h4, h5, h6⟩ := hrows i (by omega)
      have hspot : spot = none := by simpa [Addr.add] using World.cell?_spot (hrows 0 (by omega)).1
      subst hspot
      rw [Addr.add_lit] at h0
      have hLi : L i ≤ 1048576 := by
        have h7 : tot L i + L i ≤ 1048576 := hti (i + 1) (by omega)
        omega
      refine ⟨h0, ?_, fun e => ?_⟩
      · cases hA : A i with
        | none =>
          have := h5 hA
          exact ⟨0, 0, fun h => absurd h (by omega), fun j hj => absurd hj (by omega), h1, by unfold maxLen at h2; omega, by omega⟩
        | some a' =>
          obtain ⟨bb, off, spot⟩ := a'
          obtain ⟨_, h7⟩ := h6 _ hA
          refine ⟨bb, off, fun h => ?_, fun j hj => ?_, h1, by unfold maxLen at h2; omega, by omega⟩
          · have hspot : spot = none := by simpa [Addr.add] using World.cell?_spot (h7 0 (by omega))
            rw [hspot]
          · have hspot : spot = none := by simpa [Addr.add] using World.cell?_spot (h7 0 (by omega))
            subst hspot
            have hc := h7 j (by omega)
            rw [Addr.add_lit] at hc
            have hw : (Lit.int .u8 ((Z i).getD j 0)).wf = true := by
              have e : (Z i).getD j 0 = (Z i)[j]'(by omega) := by simp [List.getD, List.getElem?_eq_getElem (show j < (Z i).length by omega)]
              rw [e]; exact h4 _ (List.getElem_mem _)
            rw [← wf8 hw]
            exact hc
      · have := h5 e
        omega
set_option maxRecDepth 100000 in
theorem keccakParts_lifted (os : Os) (started : os.Started) (H : Type) (enc : TypeId × Value → H) (F0 : Stop.Interp) :
    ReturnsInHanded {} Tryd.checked os 6 .any (fun w args => ((Rows.OpenSpec.upto Rows.keccakPartsSpec).pre enc Tryd.prog Tryd.f6 [] false w args ∧ laidMetH Tryd.prog laidP w) ∧ sizedMet enc Tryd.prog Tryd.f6 (Rows.OpenSpec.upto Rows.keccakPartsSpec) false w args)
      (((Rows.OpenSpec.upto Rows.keccakPartsSpec).at F0).post enc Tryd.prog Tryd.f6 false true false false) := by
  refine returns_cond_and (C := Tryd.checked) (s := Rows.OpenSpec.upto Rows.keccakPartsSpec) (k := Rows.uptoSmall) rfl (X := fun w _ => laidMetH Tryd.prog laidP w) (fun _ _ _ hh h => h.of_heap hh) own started (by kernel_rfl) Tryd.func6
    ⟨World.doorLaid Tryd.prog 400 os, fun _ _ => 0, ⟨#[], #[.slice none 0 0], []⟩, rfl, World.shaped_of_RefB (by kernel_rfl) (by kernel_rfl), rfl, (Input.okWide_of_okWideB (by kernel_rfl)).2,
      ⟨⟨(OpenSpec.pre_some (k := Rows.uptoSmall) rfl _ _ _ _).2 ⟨[.nil], [], [], DataW.Whole_of_whole (fuel := 8) (x := ([.nil], [], [])) (by kernel_rfl), rfl, by kernel_rfl⟩, door_met os _⟩, sizedMet_of_sizedB (s := Rows.keccakPartsSpec) (fuel := 8) (by kernel_rfl)⟩, by
      simp only [Assume.holds]
      exact ⟨by simp, by simp, fun h => by simp at h, by simp, by simp⟩⟩ ?_
  intro W base args ds gs before hval0 hW hk hL
  have hval : ∀ (j : Nat) t v, Tryd.f6.params[j]? = some t → args[j]? = some v → Value.okWide Tryd.prog W .any base t v := hval0
  have hW' := hW
  obtain ⟨p, q, hA0, hV, rfl, hfz, hnd⟩ := hW
  have hA : DataW.TrodAll enc Tryd.prog W 0 (fun _ => true) true Tryd.f6.params.toList args.toList ds p := hA0
  rw [Tryd.params6] at hA hval
  obtain ⟨v0, d0, rfl, rfl, h0⟩ := trodAll_one hA
  obtain ⟨rfl, rfl⟩ := trodVars_none hV
  obtain ⟨lao, L, C, lb, lo, ao, ln, cp, ms, rfl, hl, hrow, hLL, htot⟩ := open32 (hval 0 32 v0 rfl rfl) h0 hk
  have hP := path_of_laid hL
  clear hA0 hval0
  simp only [List.append_nil] at hW'
  have hlt : ∀ x ∈ p, x.block < W.heap.size := fun x hx => by simpa using hW'.lt x (by simpa using hx)
  refine (parts_any lao L C lb lo ao ln cp ms W hP hl hrow hLL htot).mono fun e W' ⟨he, bel⟩ => ?_
  subst he
  exact ⟨_, rfl, _, _, _, [], p, [], hW', trodAll_mk1 (shut_bool Tryd.underlying4 _), trodAll_mk1 (Below.trod laidOut (by kernel_rfl) (of_decide_eq_true (by kernel_rfl)) h0 bel hlt), rfl, bel.frame _, fun h => by cases h⟩
theorem keccakParts_row : Rows.KeccakPartsUptoSaid :=
  OpenClaim.holds_of_cond 6 Tryd.f6 rfl rfl rfl rfl rfl rfl rfl ⟨rfl, rfl, rfl, rfl, rfl⟩ rfl rfl rfl rfl rfl (by kernel_rfl) Tryd.func6 (by kernel_rfl)
    (of_decide_eq_true (by kernel_rfl)) (by unfold Func.isWrapper; first | (rw [if_pos (by decide +kernel)]; kernel_rfl) | (rw [if_neg (by decide +kernel)]; exact ⟨rfl, rfl⟩))
    (fun os started H enc _ F0 => keccakParts_lifted os started H enc F0)
/-- The given statement. -/
theorem keccakParts_holds : Rows.KeccakPartsUptoCardSaid :=
  Claim7.holds_tied_plain_at .later [] [.data] true (true, "e2c8aae9da91f5ed77ca0a7ece89076ef004c41143323737065e7a5de5cbd68d") false
    keccakParts_row (fun _ h => by cases h) (by kernel_rfl) (fun _ h => by cases h) keccakPartsUpto_row_tie rfl ⟨rfl, rfl⟩ (by kernel_rfl) rfl
    (fun f fn hf hfn => by
      obtain rfl : f = 6 := Option.some.inj ((show Tryd.prog.funcNamed "conclave/conclavelaw02.KeccakParts" = some 6 by kernel_rfl).symm.trans hf) |>.symm
      obtain rfl : fn = Tryd.f6 := (Option.some.inj (Tryd.func6.symm.trans hfn)).symm
      exact ⟨by kernel_rfl, fun j t ht => by
        rw [Tryd.params6] at ht
        have hm : t ∈ [32] := by simpa using Array.mem_of_getElem? ht
        have hall : ([32].all fun u => !Tryd.prog.wantsStandIn u) = true := by kernel_rfl
        exact (show Tryd.prog.wantsStandIn t = false by simpa using List.all_eq_true.1 hall t hm)⟩)
    (by kernel_rfl)
#print axioms keccakParts_holds
end Go.Proofs.YtmhfgchckebnpaaDoor
