/- KvWhole returns true for every most, list of lists of changes, list of snapshots, plan of faults and list of kept bytes: behind any crash a store is as it was behind some prefix of the changes' lists that reaches the last one that Put answered; the package variables start as the program's text lays them (the card ties them). -/
import Derived.Test.YtconkienlcegaaaGreatDoorGNR
import Derived.ChangeMaps5
import Derived.Carry
import Derived.Test.YtconkienlcegaaaGreatDoorTie
import Derived.Test.YtconkienlcegaaaGreatDoorCards
import Derived.SevenTiedAt
namespace Go.Proofs.YtconkienlcegaaaGreatDoor
open Go.ChangeShapes Go.WideShapes Go.ChangeAt Go.WideElems Go.RowKit Go.ChangeMaps
set_option linter.unusedSimpArgs false
theorem trodAll_five {H : Type} {enc : TypeId × Value → H} {P : Program} {w : World} {base : Nat} {spare : Nat → Bool} {held : Bool} {t t1 t2 t3 t4 : TypeId} {args : Array Value} {ds : List (DataW H)} {ps : List MemPlace} (h : DataW.TrodAll enc P w base spare held [t, t1, t2, t3, t4] args.toList ds ps) :
 ∃ v v1 v2 v3 v4 d d1 d2 d3 d4 p p1 p2 p3 p4, args = #[v, v1, v2, v3, v4] ∧ ds = [d, d1, d2, d3, d4] ∧ ps = p ++ (p1 ++ (p2 ++ (p3 ++ p4))) ∧ DataW.Trod enc P w base spare held t v d p ∧ DataW.Trod enc P w base spare held t1 v1 d1 p1 ∧ DataW.Trod enc P w base spare held t2 v2 d2 p2 ∧ DataW.Trod enc P w base spare held t3 v3 d3 p3 ∧ DataW.Trod enc P w base spare held t4 v4 d4 p4 := by
 obtain ⟨v, vs, d, ds0, p, q, hargs, rfl, rfl, hd, hr⟩ := trodAll_cons h; obtain ⟨v1, vs1, d1, ds1, p1, q1, rfl, rfl, rfl, hd1, hr1⟩ := trodAll_cons hr; obtain ⟨v2, vs2, d2, ds2, p2, q2, rfl, rfl, rfl, hd2, hr2⟩ := trodAll_cons hr1; obtain ⟨v3, vs3, d3, ds3, p3, q3, rfl, rfl, rfl, hd3, hr3⟩ := trodAll_cons hr2; obtain ⟨v4, vs4, d4, ds4, p4, q4, rfl, rfl, rfl, hd4, hr4⟩ := trodAll_cons hr3; obtain ⟨rfl, rfl, rfl⟩ := trodAll_nil hr4; exact ⟨v, v1, v2, v3, v4, d, d1, d2, d3, d4, p, p1, p2, p3, p4, by cases args; simp_all, rfl, by simp, hd, hd1, hd2, hd3, hd4⟩
theorem trodAll_mk5 {H : Type} {enc : TypeId × Value → H} {P : Program} {w : World} {base : Nat} {spare : Nat → Bool} {held : Bool} {t t1 t2 t3 t4 : TypeId} {v v1 v2 v3 v4 : Value} {d d1 d2 d3 d4 : DataW H} {p p1 p2 p3 p4 : List MemPlace} (h : DataW.Trod enc P w base spare held t v d p) (h1 : DataW.Trod enc P w base spare held t1 v1 d1 p1) (h2 : DataW.Trod enc P w base spare held t2 v2 d2 p2) (h3 : DataW.Trod enc P w base spare held t3 v3 d3 p3) (h4 : DataW.Trod enc P w base spare held t4 v4 d4 p4) :
 DataW.TrodAll enc P w base spare held [t, t1, t2, t3, t4] [v, v1, v2, v3, v4] [d, d1, d2, d3, d4] (p ++ (p1 ++ (p2 ++ (p3 ++ p4)))) := ⟨p, p1 ++ (p2 ++ (p3 ++ p4)), h, trodAll_mk4 h1 h2 h3 h4, rfl⟩
theorem ncells_slice {a a' : Option Addr} {l l' c c' : Nat} (h : (Value.slice a l c).cells.toList = [.slice a' l' c']) : Value.slice a l c = .slice a' l' c' := by
 simpa [Value.cells] using h
set_option maxRecDepth 100000 in
theorem kvWhole_lifted (os : Os) (started : os.Started) (H : Type) (enc : TypeId × Value → H) :
 ReturnsInHanded {} Tryz.checked os 6 .any (fun w args => (Rows.kvWholeSpec.pre enc Tryz.prog Tryz.f6 [] false w args ∧ laidMetH Tryz.prog Rows.kvWholeRow.laid w) ∧ sizedMet enc Tryz.prog Tryz.f6 (OpenSpec.ofChange Rows.kvWholeSpec) false w args)
  (Rows.kvWholeSpec.post enc Tryz.prog Tryz.f6 false true false false) := by
 refine returnsInHanded_of_change_and (C := Tryz.checked) (X := fun w _ => laidMetH Tryz.prog Rows.kvWholeRow.laid w) (fun _ _ _ hh h => h.of_heap hh) own started (by kernel_rfl) Tryz.func6
  (ChangeSpec.witness_shaped (enc := enc) (C := Tryz.checked) (os := os) (X := fun w _ => laidMetH Tryz.prog Rows.kvWholeRow.laid w) false (World.doorLaid Tryz.prog 400 os) #[.int .i64 0, .slice none 0 0, .slice none 0 0, .slice none 0 0, .slice none 0 0] 8 rfl (World.shaped_of_RefB (by kernel_rfl) (by kernel_rfl)) (by kernel_rfl) (by kernel_rfl) (by kernel_rfl) (door_met os _)) ?_
 intro W base args ds gs before hval0 hW _ hsz0 hL _; have hval : ∀ (j : Nat) t v, Tryz.f6.params[j]? = some t → args[j]? = some v → Value.okWide Tryz.prog W .any base t v := hval0; have hW' := hW; obtain ⟨p, q, hA0, hV, rfl, hfz, hnd⟩ := hW; have hA : DataW.TrodAll enc Tryz.prog W 0 (fun _ => true) true Tryz.f6.params.toList args.toList ds p := hA0; rw [Tryz.params6] at hA hval; obtain ⟨v0, v1, v2, v3, v4, d0, d1, d2, d3, d4, p0, p1, p2, p3, p4, rfl, rfl, rfl, h0, h1, h2, h3, h4⟩ := trodAll_five hA; obtain ⟨rfl, rfl⟩ := trodVars_none hV; have hsz : (DataW.weightsEach Tryz.prog [3, 78, 79, 39, 38] [d0, d1, d2, d3, d4]).all (· ≤ reachBytes) = true := hsz0; have hws : ∀ n ∈ DataW.weightsEach Tryz.prog [3, 78, 79, 39, 38] [d0, d1, d2, d3, d4], n ≤ 140737488351232 := fun n hn => by
  have h9 := List.all_eq_true.1 hsz n hn; have h8 : n ≤ reachBytes := by simpa using h9
  rw [reach_num] at h8; exact h8
 obtain ⟨most, rfl, rfl, rfl, hmw⟩ := open_int Tryz.underlying3 (hval 0 3 v0 rfl rfl) h0; obtain ⟨a1, l1, c1, rfl⟩ := okWide_slice Tryz.underlying78 (hval 1 78 v1 rfl rfl); obtain ⟨a2, l2, c2, rfl⟩ := okWide_slice Tryz.underlying79 (hval 2 79 v2 rfl rfl); obtain ⟨a3, l3, c3, rfl⟩ := okWide_slice Tryz.underlying39 (hval 3 39 v3 rfl rfl); obtain ⟨a4, l4, c4, rfl⟩ := okWide_slice Tryz.underlying38 (hval 4 38 v4 rfl rfl); obtain ⟨f1, g1⟩ := id h1; obtain ⟨f2, g2⟩ := id h2; obtain ⟨f3, g3⟩ := id h3; obtain ⟨f4, g4⟩ := id h4; obtain ⟨la, lc, ls, e1, hls, hln, hlb⟩ := nopen_rows g1 (fun n hn => hws n (DataW.weights_mem_each (j := 1) (t := 78) rfl rfl n hn)); obtain ⟨sa, sc, bs, e2, hbs⟩ := nopen_bools g2; obtain ⟨pa, pc, ps, e3, hfv, hfw, _, hpw⟩ := nopen_pl g3; obtain ⟨kv, ks, e4, hkv, hkl⟩ := nopen_is g4; have hpl : ps.length * 16 ≤ 140737488351232 := by
  rcases hpw with rfl | ⟨n, hn, hle⟩
  · simp
  · have := hws n (DataW.weights_mem_each (j := 3) (t := 39) rfl rfl n hn)
    omega
 have e1' := ncells_slice e1; have e2' := ncells_slice e2; have e3' := ncells_slice e3; have e4' : Value.slice a4 l4 c4 = kv := by simpa [Value.cells] using e4
 have hP := vars_of_laid hL; clear hA0 hval0; simp only [List.append_nil, List.nil_append] at hW'; have hlt : ∀ x ∈ p1 ++ (p2 ++ (p3 ++ p4)), x.block < W.heap.size := fun x hx => by simpa using hW'.lt x (by simpa using hx)
 have hw := kwhole_any hP most la lc ls hls hln hlb sa sc bs hbs pa pc ps hfv hfw hpl kv ks hkv hkl; rw [← e1', ← e2', ← e3', ← e4'] at hw; refine hw.mono fun e W' ⟨he, bel⟩ => ?_
 subst he; have hT := trodAll_mk5 (shut_int Tryz.underlying3 hmw) (Below.trod laidOut (by kernel_rfl) (of_decide_eq_true (by kernel_rfl)) h1 bel (fun x hx => hlt x (by simp [hx]))) (Below.trod laidOut (by kernel_rfl) (of_decide_eq_true (by kernel_rfl)) h2 bel (fun x hx => hlt x (by simp [hx]))) (Below.trod laidOut (by kernel_rfl) (of_decide_eq_true (by kernel_rfl)) h3 bel (fun x hx => hlt x (by simp [hx]))) (Below.trod laidOut (by kernel_rfl) (of_decide_eq_true (by kernel_rfl)) h4 bel (fun x hx => hlt x (by simp [hx]))); exact ⟨_, rfl, _, _, _, [], _, [], hW', trodAll_mk1 (shut_bool Tryz.underlying4 _), hT, rfl, bel.frame _, fun h => by cases h⟩
theorem kvWhole_row : Rows.KvWholeSaid :=
 OpenClaim.holds_of_wide 6 Tryz.f6 rfl rfl rfl rfl rfl rfl rfl ⟨rfl, rfl, rfl, rfl, rfl⟩ rfl rfl rfl rfl rfl (by kernel_rfl) Tryz.func6 (by kernel_rfl)
  (of_decide_eq_true (by kernel_rfl)) (by unfold Func.isWrapper; first | (rw [if_pos (by decide +kernel)]; kernel_rfl) | (rw [if_neg (by decide +kernel)]; exact ⟨rfl, rfl⟩))
  (fun os started H enc _ => kvWhole_lifted os started H enc)
/-- The given statement. -/
theorem kvWhole_holds : Rows.KvWholeCardSaid :=
 Claim7.holds_tied_plain_at .later [] [.data, .data, .data, .sentinel, .sentinel, .data] true (true, "49c410f3f719463e06950b49ec01d3e402b37ef36cbc7a99a8577af2c44d58c4") true
  kvWhole_row (fun _ h => by cases h) (by kernel_rfl) (fun _ h => by cases h) kvWhole_row_tie rfl ⟨rfl, rfl⟩ (by kernel_rfl) rfl
  (fun f fn hf hfn => by
    obtain rfl : f = 6 := Option.some.inj ((show Tryz.prog.funcNamed "conclave/conclavelaw09.KvWhole" = some 6 by kernel_rfl).symm.trans hf) |>.symm; obtain rfl : fn = Tryz.f6 := (Option.some.inj (Tryz.func6.symm.trans hfn)).symm; exact ⟨by kernel_rfl, fun j t ht => by
     rw [Tryz.params6] at ht; have hm : t ∈ [3, 78, 79, 39, 38] := by simpa using Array.mem_of_getElem? ht
     have hall : ([3, 78, 79, 39, 38].all fun u => !Tryz.prog.wantsStandIn u) = true := by kernel_rfl
     exact (show Tryz.prog.wantsStandIn t = false by simpa using List.all_eq_true.1 hall t hm)⟩)
  (by kernel_rfl)
#print axioms kvWhole_holds
end Go.Proofs.YtconkienlcegaaaGreatDoor
