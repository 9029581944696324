/- WalLasts returns true for every most, list of records, list of syncs, plan of faults and list of kept bytes: behind any crash all records that were synced are there, in order, and behind them the first ones of the others; the package variables start as the program's text lays them (the card ties them). -/
import Derived.Test.YtoplejbmgpgkhaaGreatDoorM41
import Derived.Test.YtoplejbmgpgkhaaGreatDoorWVB
import Derived.Test.YtoplejbmgpgkhaaGreatDoorWS
import Derived.Test.YtoplejbmgpgkhaaGreatDoorTie
import Derived.Test.YtoplejbmgpgkhaaGreatDoorCards
import Derived.Deep.Grids
import Derived.SevenTiedAt
namespace Go.Proofs.YtoplejbmgpgkhaaGreatDoor
open Go.ChangeShapes Go.WideShapes Go.ChangeAt Go.WideElems Go.RowKit Go.ChangeMaps
theorem cells_slice {a a' : Option Addr} {l l' c c' : Nat} (h : (Value.slice a l c).cells.toList = [.slice a' l' c']) : Value.slice a l c = .slice a' l' c' := by
  simpa [Value.cells] using h
theorem cells4 : Tryz.prog.cellsOf 4 = 1 := by kernel_rfl
/-- An argument []bool. -/
theorem open73 {H : Type} {enc : TypeId × Value → H} {W : World} {fuel : Nat} {cs : List Value} {x : DataW H × List MemPlace} (h : DataW.trod enc Tryz.prog W 0 (fun _ => true) true fuel 73 cs = some x) :
    ∃ sa sc bs, cs = [.slice sa bs.length sc] ∧ BoolsV W sa bs := by
  rcases Deep.open_bools Tryz.underlying73 Tryz.underlying4 cells4 h with ⟨rfl, _⟩ | ⟨a, len, cap, B, rfl, _, hl, hm, _, hcell⟩
  · exact ⟨none, 0, [], rfl, fun j x hj => by simp at hj⟩
  · refine ⟨some a, cap, (List.range len).map B, by simp, fun j x hj => ?_⟩
    have hjl : j < len := by
      have := (List.getElem?_eq_some_iff.1 hj).1
      simpa using this
    rw [List.getElem?_map, List.getElem?_range hjl] at hj
    injection hj with hj
    obtain ⟨b, o, spot⟩ := a
    have hspot : spot = none := by simpa [Addr.add] using World.cell?_spot (hcell 0 (by omega))
    subst hspot
    have := hcell j (by omega)
    rw [Addr.add_lit] at this
    exact ⟨b, o, rfl, by rw [this, ← hj]⟩
set_option maxRecDepth 100000 in
theorem walLasts_lifted (os : Os) (started : os.Started) (H : Type) (enc : TypeId × Value → H) :
    ReturnsInHanded {} Tryz.checked os 6 .any (fun w args => (Rows.walLastsSpec.pre enc Tryz.prog Tryz.f6 [] false w args ∧ laidMetH Tryz.prog Rows.walLastsRow.laid w) ∧ sizedMet enc Tryz.prog Tryz.f6 (OpenSpec.ofChange Rows.walLastsSpec) false w args)
      (Rows.walLastsSpec.post enc Tryz.prog Tryz.f6 false true false false) := by
  refine returnsInHanded_of_change_and (C := Tryz.checked) (X := fun w _ => laidMetH Tryz.prog Rows.walLastsRow.laid w) (fun _ _ _ hh h => h.of_heap hh) own started (by kernel_rfl) Tryz.func6
    (ChangeSpec.witness_shaped (enc := enc) (C := Tryz.checked) (os := os) (X := fun w _ => laidMetH Tryz.prog Rows.walLastsRow.laid w) false (World.doorLaid Tryz.prog 400 os) #[.int .i64 0, .slice none 0 0, .slice none 0 0, .slice none 0 0, .slice none 0 0] 8 rfl (World.shaped_of_RefB (by kernel_rfl) (by kernel_rfl)) (by kernel_rfl) (by kernel_rfl) (by kernel_rfl) (door_met os _)) ?_
  intro W base args ds gs before hval0 hW _ hsz0 hL _
  have hval : ∀ (j : Nat) t v, Tryz.f6.params[j]? = some t → args[j]? = some v → Value.okWide Tryz.prog W .any base t v := hval0
  have hW' := hW
  obtain ⟨p, q, hA0, hV, rfl, hfz, hnd⟩ := hW
  have hA : DataW.TrodAll enc Tryz.prog W 0 (fun _ => true) true Tryz.f6.params.toList args.toList ds p := hA0
  rw [Tryz.params6] at hA hval
  obtain ⟨v0, v1, v2, v3, v4, d0, d1, d2, d3, d4, p0, p1, p2, p3, p4, rfl, rfl, rfl, h0, h1, h2, h3, h4⟩ := trodAll_five hA
  obtain ⟨rfl, rfl⟩ := trodVars_none hV
  have hsz : (DataW.weightsEach Tryz.prog [3, 70, 73, 38, 37] [d0, d1, d2, d3, d4]).all (· ≤ reachBytes) = true := hsz0
  obtain ⟨most, rfl, rfl, rfl, hmw⟩ := open_int Tryz.underlying3 (hval 0 3 v0 rfl rfl) h0
  obtain ⟨a, C, rs, rfl, hrs, hrl⟩ := open70 (j := 1) (hval 1 70 v1 rfl rfl) h1 hsz rfl rfl
  obtain ⟨a2, l2, c2, rfl⟩ := okWide_slice Tryz.underlying73 (hval 2 73 v2 rfl rfl)
  obtain ⟨a3, l3, c3, rfl⟩ := okWide_slice Tryz.underlying38 (hval 3 38 v3 rfl rfl)
  obtain ⟨a4, l4, c4, rfl⟩ := okWide_slice Tryz.underlying37 (hval 4 37 v4 rfl rfl)
  obtain ⟨f2, g2⟩ := id h2
  obtain ⟨f3, g3⟩ := id h3
  obtain ⟨f4, g4⟩ := id h4
  obtain ⟨sa, sc, bs, e2, hbs⟩ := open73 g2
  obtain ⟨pa, pc, ps, e3, hfv, hfw, _, hpw⟩ := open_pl g3
  obtain ⟨kv, ks, e4, hkv, hkl⟩ := open_is g4
  have hpl : ps.length * 16 ≤ 140737488351232 := by
    rcases hpw with rfl | ⟨n, hn, hle⟩
    · simp
    · have := List.all_eq_true.1 hsz n (DataW.weights_mem_each (j := 3) (t := 38) rfl rfl n hn)
      have h9 : n ≤ reachBytes := by simpa using this
      have h8 : reachBytes ≤ 140737488351232 := by decide
      omega
  have e2' := cells_slice e2
  have e3' := cells_slice e3
  have e4' : Value.slice a4 l4 c4 = kv := by simpa [Value.cells] using e4
  have hP := vars_of_laid hL
  clear hA0 hval0
  simp only [List.append_nil, List.nil_append] at hW'
  have hlt : ∀ x ∈ p1 ++ (p2 ++ (p3 ++ p4)), x.block < W.heap.size := fun x hx => by simpa using hW'.lt x (by simpa using hx)
  have hw := lasts_any hP most a C rs hrs hrl sa sc bs hbs pa pc ps hfv hfw hpl kv ks hkv hkl
  rw [← e2', ← e3', ← e4'] at hw
  refine hw.mono fun e W' ⟨he, bel⟩ => ?_
  subst he
  have hT := trodAll_mk5 (shut_int Tryz.underlying3 hmw) (Below.trod laidOut (by kernel_rfl) (of_decide_eq_true (by kernel_rfl)) h1 bel (fun x hx => hlt x (by simp [hx]))) (Below.trod laidOut (by kernel_rfl) (of_decide_eq_true (by kernel_rfl)) h2 bel (fun x hx => hlt x (by simp [hx]))) (Below.trod laidOut (by kernel_rfl) (of_decide_eq_true (by kernel_rfl)) h3 bel (fun x hx => hlt x (by simp [hx]))) (Below.trod laidOut (by kernel_rfl) (of_decide_eq_true (by kernel_rfl)) h4 bel (fun x hx => hlt x (by simp [hx])))
  exact ⟨_, rfl, _, _, _, [], _, [], hW', trodAll_mk1 (shut_bool Tryz.underlying4 _), hT, rfl, bel.frame _, fun h => by cases h⟩
theorem walLasts_row : Rows.WalLastsSaid :=
  OpenClaim.holds_of_wide 6 Tryz.f6 rfl rfl rfl rfl rfl rfl rfl ⟨rfl, rfl, rfl, rfl, rfl⟩ rfl rfl rfl rfl rfl (by kernel_rfl) Tryz.func6 (by kernel_rfl)
    (of_decide_eq_true (by kernel_rfl)) (by unfold Func.isWrapper; first | (rw [if_pos (by decide +kernel)]; kernel_rfl) | (rw [if_neg (by decide +kernel)]; exact ⟨rfl, rfl⟩))
    (fun os started H enc _ => walLasts_lifted os started H enc)
/-- The given statement. -/
theorem walLasts_holds : Rows.WalLastsCardSaid :=
  Claim7.holds_tied_plain_at .later [] [.data, .data, .data, .sentinel, .sentinel, .data] true (true, "737e066f45fdc6dad2ab275bf00dcacd4f366a47f728a5d1db0f5905c7481d3e") true
    walLasts_row (fun _ h => by cases h) (by kernel_rfl) (fun _ h => by cases h) walLasts_row_tie rfl ⟨rfl, rfl⟩ (by kernel_rfl) rfl
    (fun f fn hf hfn => by
      obtain rfl : f = 6 := Option.some.inj ((show Tryz.prog.funcNamed "conclave/conclavelaw08.WalLasts" = some 6 by kernel_rfl).symm.trans hf) |>.symm
      obtain rfl : fn = Tryz.f6 := (Option.some.inj (Tryz.func6.symm.trans hfn)).symm
      exact ⟨by kernel_rfl, fun j t ht => by
        rw [Tryz.params6] at ht
        have hm : t ∈ [3, 70, 73, 38, 37] := by simpa using Array.mem_of_getElem? ht
        have hall : ([3, 70, 73, 38, 37].all fun u => !Tryz.prog.wantsStandIn u) = true := by kernel_rfl
        exact (show Tryz.prog.wantsStandIn t = false by simpa using List.all_eq_true.1 hall t hm)⟩)
    (by kernel_rfl)
#print axioms walLasts_holds
end Go.Proofs.YtoplejbmgpgkhaaGreatDoor
