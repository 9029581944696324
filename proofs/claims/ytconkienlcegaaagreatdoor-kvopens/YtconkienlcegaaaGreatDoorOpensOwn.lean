/- KvOpens returns true for every list of lists of bytes: which records a store can be opened with, whatever bytes they are, and which keys it has, is as the document's own words make it; the package variables start as the program's text lays them (the card ties them). -/
import Derived.Test.YtconkienlcegaaaGreatDoorGLAo
import Derived.Deep.Matrix
import Derived.SizedLaws
import Derived.ChangeSlices
import Derived.ChangeMaps5
import Derived.Carry
import Derived.Test.YtconkienlcegaaaGreatDoorTie
import Derived.Test.YtconkienlcegaaaGreatDoorCards
import Derived.SevenTiedAt
namespace Go.Proofs.YtconkienlcegaaaGreatDoor
open Go.ChangeShapes Go.WideShapes Go.ChangeAt Go.WideElems Go.RowKit Go.ChangeMaps
set_option linter.unusedSimpArgs false
theorem cells5 : Tryz.prog.cellsOf 5 = 1 := by kernel_rfl
theorem bytes5 : Tryz.prog.bytesOf 5 = 1 := by kernel_rfl
theorem cells23 : Tryz.prog.cellsOf 23 = 1 := by kernel_rfl
theorem bytes23 : Tryz.prog.bytesOf 23 = 24 := by kernel_rfl
theorem wf_u8 {x : Int} (h : (Lit.int .u8 x).wf = true) : 0 ≤ x ∧ x < 256 := by
 simp [Lit.wf, IntKind.min, IntKind.max, IntKind.signed, IntKind.bits] at h
 exact ⟨by omega, by omega⟩
theorem weights_all {H : Type} {P : Program} {e : TypeId} {x : Nat} {d : DataW H} : ∀ {l : List (DataW H)}, d ∈ l → x ∈ d.weights P e → x ∈ DataW.weightsAll P e l
 | [], h, _ => by cases h
 | a :: r, h, hx => by
   simp only [DataW.weightsAll, List.mem_append]; rcases List.mem_cons.1 h with rfl | h
   · exact Or.inl hx
   · exact Or.inr (weights_all h hx)
theorem weights_elem {H : Type} {P : Program} {t e : TypeId} {x : Nat} {d : DataW H} {elems spare : List (DataW H)} (hu : P.underlying t = some (.slice e)) (hd : d ∈ elems) (hx : x ∈ d.weights P e) : x ∈ (DataW.slice elems spare).weights P t := by
 simp only [DataW.weights, hu, List.mem_cons, List.mem_append]; exact Or.inr (Or.inl (weights_all hd hx))
set_option maxRecDepth 100000 in
/-- An argument [][]byte. -/
theorem open74 {H : Type} {enc : TypeId × Value → H} {W : World} {base : Nat} {v : Value} {ts : List TypeId} {ds : List (DataW H)} {d : DataW H} {p : List MemPlace} {j : Nat} (hv : Value.okWide Tryz.prog W .any base 74 v) (h : DataW.Trod enc Tryz.prog W 0 (fun _ => true) true 74 v d p) (hsz : (DataW.weightsEach Tryz.prog ts ds).all (· ≤ reachBytes) = true) (ht : ts[j]? = some 74) (hd : ds[j]? = some d) :
 ∃ a C rs, v = .slice a rs.length C ∧ RowsV W a rs ∧ rs.length ≤ 9000000000000 ∧ ∀ p ∈ rs, p.2.length ≤ 140737488355328 := by
 obtain ⟨a1, len, cap, rfl⟩ := okWide_slice Tryz.underlying74 hv; obtain ⟨fuel, hf⟩ := h; rcases Deep.open_int_rows Tryz.underlying74 Tryz.underlying23 Tryz.underlying5 cells23 cells5 hf with ⟨hcs, hx⟩ | ⟨a, len', cap', A, L, C, Z, hcs, _, hl, hm, hx, hrows⟩
 · simp [Value.cells] at hcs
   obtain ⟨rfl, rfl, rfl⟩ := hcs; exact ⟨none, 0, [], rfl, fun j p hp => (by simp at hp), Nat.zero_le _, fun p hp => (by cases hp)⟩
 · simp [Value.cells] at hcs
   obtain ⟨rfl, rfl, rfl⟩ := hcs; simp only [Prod.mk.injEq] at hx; obtain ⟨rfl, rfl⟩ := hx; have hreach : cap ≤ 9000000000000 := by
    have := sized_slice hsz (j := j) (t := 74) (e := 23) ht hd Tryz.underlying74; rw [bytes23] at this; simp only [List.length_map, List.length_range, reachBytes] at this; omega
   have hlens : ∀ r, r < len → ((Z r).take (L r)).length ≤ 140737488355328 := fun r hr => by
    obtain ⟨_, h1, _, h3, _, h5, _⟩ := hrows r (by omega); rw [List.length_take]; cases hA : A r with
    | none =>
      have := h5 hA; omega
    | some a' =>
      have hm : (C r) * 1 ∈ DataW.weights Tryz.prog 23 (Deep.intRow (H := H) .u8 (A r) (L r) (Z r)) := by
       rw [hA]; show _ ∈ DataW.weights Tryz.prog 23 (.slice (lits .u8 ((Z r).take (L r))) (lits .u8 ((Z r).drop (L r)))); simp only [DataW.weights, Tryz.underlying23, bytes5, List.mem_cons]; left; simp only [lits, List.length_map, List.length_take, List.length_drop]; omega
      have hm2 := weights_elem (P := Tryz.prog) (t := 74) (e := 23) Tryz.underlying74 (spare := (List.range (cap - len)).map fun j => Deep.intRow .u8 (A (len + j)) (L (len + j)) (Z (len + j))) (List.mem_map.2 ⟨r, List.mem_range.2 hr, rfl⟩ : Deep.intRow (H := H) .u8 (A r) (L r) (Z r) ∈ (List.range len).map fun r => Deep.intRow .u8 (A r) (L r) (Z r)) hm; have h9 := List.all_eq_true.1 hsz _ (DataW.weights_mem_each (j := j) (t := 74) ht hd _ hm2); have h8 : C r * 1 ≤ reachBytes := by simpa using h9
      have h7 : reachBytes ≤ 140737488351232 := by decide
      omega
   refine ⟨some a, cap, (List.range len).map fun r => (.slice (A r) (L r) (C r), (Z r).take (L r)), by simp, fun j p hp => ?_, by simp; omega, fun p hp => ?_⟩; rotate_left
   · obtain ⟨r, hr, rfl⟩ := List.mem_map.1 hp
     have hr' : r < len := List.mem_range.1 hr; exact hlens r hr'
   have hj : j < len := by
    have := (List.getElem?_eq_some_iff.1 hp).1
    simpa using this
   rw [List.getElem?_map, List.getElem?_range hj] at hp; injection hp with hp
   subst hp; obtain ⟨h0, h1, h2, h3, h4, h5, h6⟩ := hrows j (by omega); obtain ⟨ab, ao, spot⟩ := a; have hspot : spot = none := by simpa [Addr.add] using World.cell?_spot (hrows 0 (by omega)).1
   subst hspot; rw [Addr.add_lit] at h0; have hlen : ((Z j).take (L j)).length = L j := by rw [List.length_take]; omega
   refine ⟨ab, ao, A j, C j, rfl, h0, by rw [hlen], ?_, fun x hx => wf_u8 (h4 x (List.mem_of_mem_take hx))⟩; show BytesV W (.slice (A j) (L j) (C j)) ((Z j).take (L j)); cases hA : A j with
   | none =>
     have h7 := h5 hA; have h8 : L j = 0 := by omega
     rw [h8, h7]; exact Or.inl ⟨rfl, rfl⟩
   | some a' =>
     obtain ⟨_, h7⟩ := h6 _ hA; refine Or.inr ⟨a', C j, by rw [hlen], fun i u hu => ?_⟩; have hi : i < ((Z j).take (L j)).length := by
      have := (List.getElem?_eq_some_iff.1 hu).1
      rwa [vB_length] at this
     rw [h7 i (by omega), ← hu]; unfold vB; rw [List.getElem?_map, List.getElem?_take_of_lt (by omega), List.getElem?_eq_getElem (by omega)]; simp [List.getD, List.getElem?_eq_getElem (show i < (Z j).length by omega)]
set_option maxRecDepth 100000 in
theorem kvOpens_lifted (os : Os) (started : os.Started) (H : Type) (enc : TypeId × Value → H) :
 ReturnsInHanded {} Tryz.checked os 5 .any (fun w args => (Rows.kvOpensSpec.pre enc Tryz.prog Tryz.f5 [] false w args ∧ laidMetH Tryz.prog Rows.kvOpensRow.laid w) ∧ sizedMet enc Tryz.prog Tryz.f5 (OpenSpec.ofChange Rows.kvOpensSpec) false w args)
  (Rows.kvOpensSpec.post enc Tryz.prog Tryz.f5 false true false false) := by
 refine returnsInHanded_of_change_and (C := Tryz.checked) (X := fun w _ => laidMetH Tryz.prog Rows.kvOpensRow.laid w) (fun _ _ _ hh h => h.of_heap hh) own started (by kernel_rfl) Tryz.func5
  (ChangeSpec.witness_shaped (enc := enc) (C := Tryz.checked) (os := os) (X := fun w _ => laidMetH Tryz.prog Rows.kvOpensRow.laid w) false (World.doorLaid Tryz.prog 400 os) #[.slice none 0 0] 8 rfl (World.shaped_of_RefB (by kernel_rfl) (by kernel_rfl)) (by kernel_rfl) (by kernel_rfl) (by kernel_rfl) (door_met os _)) ?_
 intro W base args ds gs before hval0 hW _ hsz0 hL _; have hval : ∀ (j : Nat) t v, Tryz.f5.params[j]? = some t → args[j]? = some v → Value.okWide Tryz.prog W .any base t v := hval0; have hW' := hW; obtain ⟨p, q, hA0, hV, rfl, hfz, hnd⟩ := hW; have hA : DataW.TrodAll enc Tryz.prog W 0 (fun _ => true) true Tryz.f5.params.toList args.toList ds p := hA0; rw [Tryz.params5] at hA hval; obtain ⟨v0, d0, rfl, rfl, h0⟩ := trodAll_one hA; obtain ⟨rfl, rfl⟩ := trodVars_none hV; have hsz : (DataW.weightsEach Tryz.prog [74] [d0]).all (· ≤ reachBytes) = true := hsz0; obtain ⟨a, C, rs, rfl, hrs, hrl, hrb⟩ := open74 (j := 0) (hval 0 74 v0 rfl rfl) h0 hsz rfl rfl; have hP := vars_of_laid hL; clear hA0 hval0; simp only [List.append_nil] at hW'; have hlt : ∀ x ∈ p, x.block < W.heap.size := fun x hx => by simpa using hW'.lt x (by simpa using hx)
 refine (kopens_any hP a C rs hrs hrl hrb).mono fun e W' ⟨he, bel⟩ => ?_
 subst he; have hT := trodAll_mk1 (Below.trod laidOut (by kernel_rfl) (of_decide_eq_true (by kernel_rfl)) h0 bel (fun x hx => hlt x hx)); exact ⟨_, rfl, _, _, _, [], _, [], hW', trodAll_mk1 (shut_bool Tryz.underlying4 _), hT, rfl, bel.frame _, fun h => by cases h⟩
theorem kvOpens_row : Rows.KvOpensSaid :=
 OpenClaim.holds_of_wide 5 Tryz.f5 rfl rfl rfl rfl rfl rfl rfl ⟨rfl, rfl, rfl, rfl, rfl⟩ rfl rfl rfl rfl rfl (by kernel_rfl) Tryz.func5 (by kernel_rfl)
  (of_decide_eq_true (by kernel_rfl)) (by unfold Func.isWrapper; first | (rw [if_pos (by decide +kernel)]; kernel_rfl) | (rw [if_neg (by decide +kernel)]; exact ⟨rfl, rfl⟩))
  (fun os started H enc _ => kvOpens_lifted os started H enc)
/-- The given statement. -/
theorem kvOpens_holds : Rows.KvOpensCardSaid :=
 Claim7.holds_tied_plain_at .later [] [.data, .data, .data, .sentinel, .sentinel, .data] true (true, "49c410f3f719463e06950b49ec01d3e402b37ef36cbc7a99a8577af2c44d58c4") true
  kvOpens_row (fun _ h => by cases h) (by kernel_rfl) (fun _ h => by cases h) kvOpens_row_tie rfl ⟨rfl, rfl⟩ (by kernel_rfl) rfl
  (fun f fn hf hfn => by
    obtain rfl : f = 5 := Option.some.inj ((show Tryz.prog.funcNamed "conclave/conclavelaw09.KvOpens" = some 5 by kernel_rfl).symm.trans hf) |>.symm; obtain rfl : fn = Tryz.f5 := (Option.some.inj (Tryz.func5.symm.trans hfn)).symm; exact ⟨by kernel_rfl, fun j t ht => by
     rw [Tryz.params5] at ht; have hm : t ∈ [74] := by simpa using Array.mem_of_getElem? ht
     have hall : ([74].all fun u => !Tryz.prog.wantsStandIn u) = true := by kernel_rfl
     exact (show Tryz.prog.wantsStandIn t = false by simpa using List.all_eq_true.1 hall t hm)⟩)
  (by kernel_rfl)
#print axioms kvOpens_holds
end Go.Proofs.YtconkienlcegaaaGreatDoor
