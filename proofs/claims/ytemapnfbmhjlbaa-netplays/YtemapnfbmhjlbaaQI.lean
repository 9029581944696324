/- net: a script of calls as an argument. -/
import Derived.Test.YtemapnfbmhjlbaaPC
namespace Go.Proofs.Ytemapnfbmhjlbaa
open Go.Deep Go.ChangeShapes Go.WideShapes Go.ChangeAt Go.WideElems Go.RowKit Go.ChangeMaps
set_option linter.unusedVariables false
theorem cells30 : Try.prog.cellsOf 30 = 1 := by kernel_rfl
theorem cells32 : Try.prog.cellsOf 32 = 5 := by kernel_rfl
theorem bytes32 : Try.prog.bytesOf 32 = 56 := by kernel_rfl
def opC (k a b c : Int) (v : Value) : Array Value := #[.int .i64 k, .int .i64 a, .int .i64 b, .int .i64 c, v]
/-- An Op lies there. -/
def OpAt (w : World) (g o : Nat) : Prop := ∃ (k a b c : Int) (va : Option Addr) (vc : Nat) (bs : List Int), (∀ j v, (opC k a b c (.slice va bs.length vc))[j]? = some v → w.cell? ⟨g, o + j, none⟩ = some v) ∧ BytesV w (.slice va bs.length vc) bs ∧ bs.length ≤ 9223372036854775807
theorem list5 {α : Type} : ∀ {l : List α}, l.length = 5 → ∃ c0 c1 c2 c3 c4, l = [c0, c1, c2, c3, c4]
  | [c0, c1, c2, c3, c4], _ => ⟨c0, c1, c2, c3, c4, rfl⟩
theorem open_op {H : Type} {enc : TypeId × Value → H} {W : World} {fuel : Nat} {cs : List Value} {x : DataW H × List MemPlace} (h : DataW.trod enc Try.prog W 0 (fun _ => true) true fuel 32 cs = some x) :
    ∃ (k a b c : Int) (va : Option Addr) (vc : Nat) (bs : List Int), cs = (opC k a b c (.slice va bs.length vc)).toList ∧ BytesV W (.slice va bs.length vc) bs ∧ bs.length ≤ 9223372036854775807 := by
  obtain ⟨xs, n, _, rfl, hcl, hxl, hf⟩ := DataW.trod_struct Try.underlying32 h
  rw [cells32] at hcl
  obtain ⟨c0, c1, c2, c3, c4, rfl⟩ := list5 hcl
  obtain ⟨x0, x1, x2, x3, x4, rfl⟩ := list5 (show xs.length = 5 from hxl)
  have g0 : DataW.trod enc Try.prog W 0 (fun _ => true) true n 3 (([c0, c1, c2, c3, c4].drop 0).take (Try.prog.cellsOf 3)) = some x0 := hf 0 _ rfl
  rw [cells3] at g0
  have g1 : DataW.trod enc Try.prog W 0 (fun _ => true) true n 3 (([c0, c1, c2, c3, c4].drop 1).take (Try.prog.cellsOf 3)) = some x1 := hf 1 _ rfl
  rw [cells3] at g1
  have g2 : DataW.trod enc Try.prog W 0 (fun _ => true) true n 3 (([c0, c1, c2, c3, c4].drop 2).take (Try.prog.cellsOf 3)) = some x2 := hf 2 _ rfl
  rw [cells3] at g2
  have g3 : DataW.trod enc Try.prog W 0 (fun _ => true) true n 3 (([c0, c1, c2, c3, c4].drop 3).take (Try.prog.cellsOf 3)) = some x3 := hf 3 _ rfl
  rw [cells3] at g3
  have g4 : DataW.trod enc Try.prog W 0 (fun _ => true) true n 30 (([c0, c1, c2, c3, c4].drop 4).take (Try.prog.cellsOf 30)) = some x4 := hf 4 _ rfl
  rw [cells30] at g4
  obtain ⟨k, e0, _, _⟩ := DataW.trod_int Try.underlying3 g0
  obtain ⟨a, e1, _, _⟩ := DataW.trod_int Try.underlying3 g1
  obtain ⟨b, e2, _, _⟩ := DataW.trod_int Try.underlying3 g2
  obtain ⟨c, e3, _, _⟩ := DataW.trod_int Try.underlying3 g3
  obtain ⟨va, vc, bs, e4, hb, hl⟩ := open_bs g4
  injection e0 with e0; injection e1 with e1; injection e2 with e2; injection e3 with e3; injection e4 with e4
  subst e0 e1 e2 e3 e4
  exact ⟨k, a, b, c, va, vc, bs, rfl, hb, hl⟩
set_option maxRecDepth 100000 in
theorem open_ops {H : Type} {enc : TypeId × Value → H} {W : World} {fuel : Nat} {cs : List Value} {d : DataW H} {ps : List MemPlace} (h : DataW.trod enc Try.prog W 0 (fun _ => true) true fuel 22 cs = some (d, ps)) (hsz : ∀ n ∈ d.weights Try.prog 22, n ≤ reachBytes) :
    ∃ oa n oc, cs = [.slice oa n oc] ∧ n ≤ 4611686018427387000 ∧ ∀ k, k < n → ∃ g o, oa = some ⟨g, o, none⟩ ∧ OpAt W g (o + k * 5) := by
  rcases open_slice Try.underlying22 h with ⟨rfl, _⟩ | ⟨a, len, cap, m, n, D, Pl, rfl, _, hl, hcap, hm, hx, hel⟩
  · exact ⟨none, 0, 0, rfl, by omega, fun k hk => absurd hk (by omega)⟩
  · simp only [if_true] at hm
    subst hm
    injection hx with hd hp
    subst hd
    have hw0 : (len + (m - len)) * 56 ≤ reachBytes := by
      refine hsz _ ?_
      unfold DataW.weights
      rw [Try.underlying22]
      simp [bytes32]
    have hr : reachBytes = 140737488351232 := rfl
    refine ⟨some a, len, m, rfl, by omega, fun k hk => ?_⟩
    obtain ⟨cs', hcs, ht⟩ := hel k (by omega)
    rw [cells32] at hcs
    obtain ⟨_, hlen, hcell⟩ := World.cells?_some hcs
    obtain ⟨kd, x, y, z, va, vc, bs, rfl, hb, h63⟩ := open_op ht
    obtain ⟨g, o, spot⟩ := a
    have hspot : spot = none := by
      obtain ⟨cs0, hcs0, _⟩ := hel 0 (by omega)
      rw [cells32] at hcs0
      obtain ⟨_, hl0, hc0⟩ := World.cells?_some hcs0
      obtain ⟨c0, c1, c2, c3, c4, rfl⟩ := list5 hl0
      have h2 := World.cell?_spot (hc0 0 (by omega))
      simpa [Addr.add] using h2
    subst hspot
    refine ⟨g, o, rfl, kd, x, y, z, va, vc, bs, fun j v hj => ?_, hb, h63⟩
    have hj5 : j < 5 := by
      have := (Array.getElem?_eq_some_iff.1 hj).1
      simpa [opC] using this
    have := hcell j hj5
    rw [Addr.add_lit, Addr.add_lit] at this
    rw [this, ← hj]
    simp
end Go.Proofs.Ytemapnfbmhjlbaa
