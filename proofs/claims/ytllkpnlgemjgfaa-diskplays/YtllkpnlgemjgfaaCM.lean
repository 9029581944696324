/- disk: the arguments of DiskSafe. -/
import Derived.Test.YtllkpnlgemjgfaaCL
import Derived.Test.YtllkpnlgemjgfaaRows
import Derived.Carry
import Derived.ChangeSlices
import Derived.ChangeMaps5
import Derived.SizedLaws
import Derived.Deep.Slices
import Derived.Deep.Fields
namespace Go.Proofs.Ytllkpnlgemjgfaa
open Go.Deep Go.ChangeShapes Go.WideShapes Go.ChangeAt Go.WideElems Go.RowKit Go.ChangeMaps
set_option linter.unusedVariables false
theorem cells5 : Try.prog.cellsOf 5 = 1 := by kernel_rfl
theorem cells3 : Try.prog.cellsOf 3 = 1 := by kernel_rfl
theorem cells9 : Try.prog.cellsOf 9 = 1 := by kernel_rfl
theorem cells31 : Try.prog.cellsOf 31 = 1 := by kernel_rfl
theorem cells32 : Try.prog.cellsOf 32 = 1 := by kernel_rfl
theorem cells33 : Try.prog.cellsOf 33 = 1 := by kernel_rfl
theorem cells35 : Try.prog.cellsOf 35 = 8 := by kernel_rfl
theorem bytes5 : Try.prog.bytesOf 5 = 1 := by kernel_rfl
theorem bytes35 : Try.prog.bytesOf 35 = 128 := by kernel_rfl
theorem list8 {α : Type} : ∀ {l : List α}, l.length = 8 → ∃ c0 c1 c2 c3 c4 c5 c6 c7, l = [c0, c1, c2, c3, c4, c5, c6, c7]
  | [c0, c1, c2, c3, c4, c5, c6, c7], _ => ⟨c0, c1, c2, c3, c4, c5, c6, c7, rfl⟩
section
variable {H : Type} {enc : TypeId × Value → H} {W : World}
/-- Bytes. -/
theorem open_bs {fuel : Nat} {cs : List Value} {x : DataW H × List MemPlace} (h : DataW.trod enc Try.prog W 0 (fun _ => true) true fuel 31 cs = some x) :
    ∃ va vc bs, cs = [.slice va bs.length vc] ∧ BytesV W (.slice va bs.length vc) bs ∧ (bs = [] ∨ ∃ n ∈ x.1.weights Try.prog 31, bs.length ≤ n) := by
  rcases open_ints Try.underlying31 Try.underlying5 cells5 h with ⟨rfl, rfl⟩ | ⟨a, len, cap, zs, rfl, _, hl, hm, hz, rfl, hcell, hwz⟩
  · exact ⟨none, 0, [], rfl, Or.inl ⟨rfl, rfl⟩, Or.inl rfl⟩
  · simp only [if_true] at hz
    have hlen : (zs.take len).length = len := by rw [List.length_take]; omega
    refine ⟨some a, cap, zs.take len, by rw [hlen], Or.inr ⟨a, cap, rfl, fun j u hu => ?_⟩, Or.inr ?_⟩
    · have hj : j < (zs.take len).length := by
        have := (List.getElem?_eq_some_iff.1 hu).1
        rwa [vB_length] at this
      have h1 := hcell j (by omega)
      rw [h1]
      have h2 : (zs.take len)[j]? = some (zs.getD j 0) := by
        rw [List.getElem?_take, if_pos (by omega), List.getElem?_eq_getElem (by omega)]
        simp [List.getD, List.getElem?_eq_getElem (show j < zs.length by omega)]
      have h3 : (vB (zs.take len))[j]? = some (.int .u8 (zs.getD j 0)) := by unfold vB; rw [List.getElem?_map, h2]; rfl
      rw [h3] at hu
      exact congrArg some (Option.some.inj hu)
    · refine ⟨((lits (H := H) .u8 (zs.take len)).length + (lits (H := H) .u8 (zs.drop len)).length) * Try.prog.bytesOf 5, ?_, ?_⟩
      · simp [DataW.weights, Try.underlying31]
      · rw [bytes5]
        simp only [lits, List.length_map]
        omega
/-- Numbers. -/
theorem open_is {fuel : Nat} {cs : List Value} {x : DataW H × List MemPlace} (h : DataW.trod enc Try.prog W 0 (fun _ => true) true fuel 32 cs = some x) :
    ∃ v ks, cs = [v] ∧ IntsV W v ks ∧ ks.length ≤ 9223372036854775807 := by
  rcases open_ints Try.underlying32 Try.underlying3 cells3 h with ⟨rfl, rfl⟩ | ⟨a, len, cap, zs, rfl, _, hl, hm, hz, rfl, hcell, hwz⟩
  · exact ⟨_, [], rfl, ⟨none, 0, rfl, fun j x hj => by simp at hj⟩, by simp⟩
  · simp only [if_true] at hz
    have hlen : (zs.take len).length = len := by rw [List.length_take]; omega
    unfold maxLen at hm
    refine ⟨_, zs.take len, rfl, ⟨some a, cap, by rw [hlen], fun j x hj => ?_⟩, by omega⟩
    have hj' : j < len := by
      have := (List.getElem?_eq_some_iff.1 hj).1
      omega
    have h1 := hcell j (by omega)
    obtain ⟨ab, ao, spot⟩ := a
    have hspot : spot = none := by simpa [Addr.add] using World.cell?_spot (hcell 0 (by omega))
    subst hspot
    refine ⟨ab, ao, rfl, ?_⟩
    rw [Addr.add_lit] at h1
    rw [h1]
    rw [List.getElem?_take, if_pos hj'] at hj
    simp [List.getD, hj]
theorem open_sh {t e : TypeId} {fuel : Nat} {cs : List Value} {x : DataW H × List MemPlace} (ht : Try.prog.underlying t = some (.slice e)) (h : DataW.trod enc Try.prog W 0 (fun _ => true) true fuel t cs = some x) : ∃ a l c, cs = [.slice a l c] := by
  rcases DataW.trod_slice ht h with ⟨rfl, _⟩ | ⟨a, len, cap, elems, rest, n, _, rfl, _⟩
  · exact ⟨_, _, _, rfl⟩
  · exact ⟨_, _, _, rfl⟩
/-- An Op. -/
theorem open_op {fuel : Nat} {cs : List Value} {x : DataW H × List MemPlace} (h : DataW.trod enc Try.prog W 0 (fun _ => true) true fuel 35 cs = some x) :
    ∃ (k y0 : Int) (s t : ByteArray) (va : Option Addr) (vc : Nat) (bs : List Int) (y : Int) (ka : Option Addr) (kl kc : Nat) (pa : Option Addr) (pl pc : Nat), cs = (opC k y0 s t (.slice va bs.length vc) y (.slice ka kl kc) (.slice pa pl pc)).toList ∧ BytesV W (.slice va bs.length vc) bs ∧ (bs = [] ∨ ∃ n ∈ x.1.weights Try.prog 35, bs.length ≤ n) ∧ s.size ≤ maxLen ∧ t.size ≤ maxLen := by
  obtain ⟨xs, n, _, rfl, hcl, hxl, hf⟩ := DataW.trod_struct Try.underlying35 h
  rw [cells35] at hcl
  obtain ⟨c0, c1, c2, c3, c4, c5, c6, c7, rfl⟩ := list8 hcl
  obtain ⟨x0, x1, x2, x3, x4, x5, x6, x7, rfl⟩ := list8 (show xs.length = 8 from hxl)
  have g0 : DataW.trod enc Try.prog W 0 (fun _ => true) true n 3 (([c0, c1, c2, c3, c4, c5, c6, c7].drop 0).take (Try.prog.cellsOf 3)) = some x0 := hf 0 _ rfl
  rw [cells3] at g0
  have g1 : DataW.trod enc Try.prog W 0 (fun _ => true) true n 3 (([c0, c1, c2, c3, c4, c5, c6, c7].drop 1).take (Try.prog.cellsOf 3)) = some x1 := hf 1 _ rfl
  rw [cells3] at g1
  have g2 : DataW.trod enc Try.prog W 0 (fun _ => true) true n 9 (([c0, c1, c2, c3, c4, c5, c6, c7].drop 2).take (Try.prog.cellsOf 9)) = some x2 := hf 2 _ rfl
  rw [cells9] at g2
  have g3 : DataW.trod enc Try.prog W 0 (fun _ => true) true n 9 (([c0, c1, c2, c3, c4, c5, c6, c7].drop 3).take (Try.prog.cellsOf 9)) = some x3 := hf 3 _ rfl
  rw [cells9] at g3
  have g4 : DataW.trod enc Try.prog W 0 (fun _ => true) true n 31 (([c0, c1, c2, c3, c4, c5, c6, c7].drop 4).take (Try.prog.cellsOf 31)) = some x4 := hf 4 _ rfl
  rw [cells31] at g4
  have g5 : DataW.trod enc Try.prog W 0 (fun _ => true) true n 5 (([c0, c1, c2, c3, c4, c5, c6, c7].drop 5).take (Try.prog.cellsOf 5)) = some x5 := hf 5 _ rfl
  rw [cells5] at g5
  have g6 : DataW.trod enc Try.prog W 0 (fun _ => true) true n 32 (([c0, c1, c2, c3, c4, c5, c6, c7].drop 6).take (Try.prog.cellsOf 32)) = some x6 := hf 6 _ rfl
  rw [cells32] at g6
  have g7 : DataW.trod enc Try.prog W 0 (fun _ => true) true n 33 (([c0, c1, c2, c3, c4, c5, c6, c7].drop 7).take (Try.prog.cellsOf 33)) = some x7 := hf 7 _ rfl
  rw [cells33] at g7
  obtain ⟨k, e0, _, _⟩ := DataW.trod_int Try.underlying3 g0
  obtain ⟨y0, e1, _, _⟩ := DataW.trod_int Try.underlying3 g1
  obtain ⟨s, e2, _, hs⟩ := DataW.trod_string Try.underlying9 g2
  obtain ⟨t, e3, _, ht⟩ := DataW.trod_string Try.underlying9 g3
  obtain ⟨va, vc, bs, e4, hb, hwt⟩ := open_bs g4
  obtain ⟨y, e5, _, _⟩ := DataW.trod_int Try.underlying5 g5
  obtain ⟨ka, kl, kc, e6⟩ := open_sh Try.underlying32 g6
  obtain ⟨pa, pl, pc, e7⟩ := open_sh Try.underlying33 g7
  injection e0 with e0; injection e1 with e1; injection e2 with e2; injection e3 with e3
  injection e4 with e4; injection e5 with e5; injection e6 with e6; injection e7 with e7
  subst e0 e1 e2 e3 e4 e5 e6 e7
  refine ⟨k, y0, s, t, va, vc, bs, y, ka, kl, kc, pa, pl, pc, rfl, hb, ?_, hs, ht⟩
  rcases hwt with rfl | ⟨m, hm, hle⟩
  · exact Or.inl rfl
  · refine Or.inr ⟨m, ?_, hle⟩
    show m ∈ DataW.weights Try.prog 35 (.agg [x0.1, x1.1, x2.1, x3.1, x4.1, x5.1, x6.1, x7.1])
    unfold DataW.weights
    rw [Try.underlying35]
    exact DataW.weights_mem_each (j := 4) (t := 31) rfl rfl m hm
theorem weightsAll_mem {P : Program} {e : TypeId} : ∀ {l : List (DataW H)} {d : DataW H} {n : Nat}, d ∈ l → n ∈ d.weights P e → n ∈ DataW.weightsAll P e l
  | [], _, _, h, _ => by cases h
  | x :: l, d, n, h, hn => by
    unfold DataW.weightsAll
    rw [List.mem_append]
    rcases List.mem_cons.1 h with rfl | h
    · exact Or.inl hn
    · exact Or.inr (weightsAll_mem h hn)
set_option maxRecDepth 100000 in
/-- Ops. -/
theorem open_ops {fuel : Nat} {cs : List Value} {d : DataW H} {ps : List MemPlace} (h : DataW.trod enc Try.prog W 0 (fun _ => true) true fuel 22 cs = some (d, ps)) (hsz : ∀ n ∈ d.weights Try.prog 22, n ≤ reachBytes) :
    ∃ oa n oc, cs = [.slice oa n oc] ∧ n ≤ 4611686018427387000 ∧ ∀ k, k < n → ∃ g o, oa = some ⟨g, o, none⟩ ∧ OpAt W g (o + k * 8) := by
  rcases open_slice Try.underlying22 h with ⟨rfl, _⟩ | ⟨a, len, cap, m, n, D, Pl, rfl, _, hl, hcap, hm, hx, hel⟩
  · exact ⟨none, 0, 0, rfl, by omega, fun k hk => absurd hk (by omega)⟩
  · simp only [if_true] at hm
    subst hm
    injection hx with hd hp
    subst hd
    have hw0 : (len + (m - len)) * 128 ≤ reachBytes := by
      refine hsz _ ?_
      unfold DataW.weights
      rw [Try.underlying22]
      simp [bytes35]
    have hr : reachBytes = 140737488351232 := rfl
    refine ⟨some a, len, m, rfl, by omega, fun k hk => ?_⟩
    obtain ⟨cs', hcs, ht⟩ := hel k (by omega)
    rw [cells35] at hcs
    obtain ⟨_, hlen, hcell⟩ := World.cells?_some hcs
    obtain ⟨kd, y0, s, t, va, vc, bs, y, ka, kl, kc, pa, pl, pc, rfl, hb, hwt, hs, ht2⟩ := open_op ht
    obtain ⟨g, o, spot⟩ := a
    have hspot : spot = none := by
      obtain ⟨cs0, hcs0, _⟩ := hel 0 (by omega)
      rw [cells35] at hcs0
      obtain ⟨_, hl0, hc0⟩ := World.cells?_some hcs0
      obtain ⟨c0, c1, c2, c3, c4, c5, c6, c7, rfl⟩ := list8 hl0
      have h2 := World.cell?_spot (hc0 0 (by omega))
      simpa [Addr.add] using h2
    subst hspot
    unfold maxLen at hs ht2
    refine ⟨g, o, rfl, kd, y0, s, t, va, vc, bs, y, ka, kl, kc, pa, pl, pc, fun j v hj => ?_, hb, ?_, by omega, by omega⟩
    · have hj8 : j < 8 := by
        have := (Array.getElem?_eq_some_iff.1 hj).1
        simpa [opC] using this
      have := hcell j hj8
      rw [Addr.add_lit, Addr.add_lit] at this
      rw [this, ← hj]
      simp
    · rcases hwt with rfl | ⟨q, hq, hle⟩
      · simp
      · have : q ≤ reachBytes := by
          refine hsz q ?_
          unfold DataW.weights
          rw [Try.underlying22]
          refine List.mem_cons_of_mem _ (List.mem_append_left _ (weightsAll_mem (d := D k) (List.mem_map.2 ⟨k, by simpa using hk, rfl⟩) hq))
        omega
end
end Go.Proofs.Ytllkpnlgemjgfaa
