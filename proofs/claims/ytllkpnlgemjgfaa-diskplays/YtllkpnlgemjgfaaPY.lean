/- disk: DiskPlays' arguments. -/
import Derived.Test.YtllkpnlgemjgfaaCM
import Derived.Test.YtllkpnlgemjgfaaGX
namespace Go.Proofs.Ytllkpnlgemjgfaa
open Go.Deep Go.ChangeShapes Go.WideShapes Go.ChangeAt Go.WideElems Go.RowKit Go.ChangeMaps
set_option linter.unusedSimpArgs false
set_option linter.unusedVariables false
theorem cells82 : Try.prog.cellsOf 82 = 2 := by kernel_rfl
theorem bytes82 : Try.prog.bytesOf 82 = 16 := by kernel_rfl
theorem list2 {α : Type} : ∀ {l : List α}, l.length = 2 → ∃ c0 c1, l = [c0, c1]
  | [c0, c1], _ => ⟨c0, c1, rfl⟩
section
variable {H : Type} {enc : TypeId × Value → H} {W : World}
/-- Numbers. -/
theorem open_is2 {fuel : Nat} {cs : List Value} {x : DataW H × List MemPlace} (h : DataW.trod enc Try.prog W 0 (fun _ => true) true fuel 32 cs = some x) :
    ∃ ka kc ks, cs = [.slice ka ks.length kc] ∧ IntsV W (.slice ka ks.length kc) ks ∧ ks.length ≤ 9223372036854775807 := by
  obtain ⟨v, ks, rfl, hi, hl⟩ := open_is h
  obtain ⟨a, cap, rfl, hc⟩ := id hi
  exact ⟨a, cap, ks, rfl, hi, hl⟩
/-- A fault. -/
theorem open_flt {fuel : Nat} {cs : List Value} {x : DataW H × List MemPlace} (h : DataW.trod enc Try.prog W 0 (fun _ => true) true fuel 82 cs = some x) :
    ∃ p : Int × Int, cs = [.int .i64 p.1, .int .i64 p.2] ∧ (Lit.int .i64 p.1).wf = true ∧ (Lit.int .i64 p.2).wf = true := by
  obtain ⟨xs, n, _, rfl, hcl, hxl, hf⟩ := DataW.trod_struct Try.underlying82 h
  rw [cells82] at hcl
  obtain ⟨c0, c1, rfl⟩ := list2 hcl
  obtain ⟨x0, x1, rfl⟩ := list2 (show xs.length = 2 from hxl)
  have g0 : DataW.trod enc Try.prog W 0 (fun _ => true) true n 3 (([c0, c1].drop 0).take (Try.prog.cellsOf 3)) = some x0 := hf 0 _ rfl
  rw [cells3] at g0
  have g1 : DataW.trod enc Try.prog W 0 (fun _ => true) true n 3 (([c0, c1].drop 1).take (Try.prog.cellsOf 3)) = some x1 := hf 1 _ rfl
  rw [cells3] at g1
  obtain ⟨a, e0, _, w0⟩ := DataW.trod_int Try.underlying3 g0
  obtain ⟨b, e1, _, w1⟩ := DataW.trod_int Try.underlying3 g1
  injection e0 with e0
  injection e1 with e1
  subst e0 e1
  exact ⟨(a, b), rfl, w0, w1⟩
set_option maxRecDepth 100000 in
/-- Faults. -/
theorem open_pl {fuel : Nat} {cs : List Value} {x : DataW H × List MemPlace} (h : DataW.trod enc Try.prog W 0 (fun _ => true) true fuel 33 cs = some x) :
    ∃ pa pc ps, cs = [.slice pa ps.length pc] ∧ FltV W pa ps ∧ FW ps ∧ (pa = none → pc = 0 ∧ ps = []) ∧ (ps = [] ∨ ∃ n ∈ x.1.weights Try.prog 33, ps.length * 16 ≤ n) := by
  obtain ⟨d, q⟩ := x
  rcases open_slice Try.underlying33 h with ⟨rfl, _⟩ | ⟨a, len, cap, m, n, D, Pl, rfl, _, hl, hcap, hm, hx, hel⟩
  · exact ⟨none, 0, [], rfl, fun j p hj => by simp at hj, fun p hp => by simp at hp, fun _ => ⟨rfl, rfl⟩, Or.inl rfl⟩
  · simp only [if_true] at hm
    subst hm
    injection hx with hd hp
    subst hd
    have hsp : 0 < len → a.spot = none := fun h0 => by
      obtain ⟨cs', hcs, ht⟩ := hel 0 (by omega)
      rw [cells82] at hcs
      obtain ⟨_, hlen, hcell⟩ := World.cells?_some hcs
      obtain ⟨p, rfl, _, _⟩ := open_flt ht
      have h2 := World.cell?_spot (hcell 0 (by omega))
      simpa [Addr.add] using h2
    have hex : ∀ k, ∃ p : Int × Int, k < len → (W.cell? (a.add (k * 2)) = some (.int .i64 p.1) ∧ W.cell? (a.add (k * 2 + 1)) = some (.int .i64 p.2) ∧ (Lit.int .i64 p.1).wf = true ∧ (Lit.int .i64 p.2).wf = true) := by
      intro k
      by_cases hk : k < len
      · obtain ⟨cs', hcs, ht⟩ := hel k (by omega)
        rw [cells82] at hcs
        obtain ⟨_, hlen, hcell⟩ := World.cells?_some hcs
        obtain ⟨p, rfl, w0, w1⟩ := open_flt ht
        have h0 := hcell 0 (by omega)
        have h1 := hcell 1 (by omega)
        obtain ⟨g, o, spot⟩ := a
        have hspot : spot = none := by
          exact hsp (by omega)
        subst hspot
        rw [Addr.add_lit, Addr.add_lit] at h0 h1
        rw [Addr.add_lit, Addr.add_lit]
        refine ⟨p, fun _ => ⟨by simpa using h0, by simpa [Nat.add_assoc] using h1, w0, w1⟩⟩
      · exact ⟨(0, 0), fun h => absurd h hk⟩
    obtain ⟨f, hf⟩ := Classical.axiomOfChoice hex
    have hfl : ((List.range len).map f).length = len := by simp
    refine ⟨some a, m, (List.range len).map f, by rw [hfl], fun j p hj => ?_, fun p hp => ?_, (fun h => by cases h), Or.inr ⟨(len + (m - len)) * 16, ?_, by rw [hfl]; omega⟩⟩
    · have hjl : j < len := by have := (List.getElem?_eq_some_iff.1 hj).1; omega
      rw [List.getElem?_map, List.getElem?_range hjl] at hj
      injection hj with hj
      subst hj
      obtain ⟨h0, h1, _⟩ := hf j hjl
      obtain ⟨g, o, spot⟩ := a
      have hspot : spot = none := by
        exact hsp (by omega)
      subst hspot
      rw [Addr.add_lit] at h0 h1
      exact ⟨g, o, rfl, h0, by rw [← h1, Nat.add_assoc]⟩
    · obtain ⟨k, hk, rfl⟩ := List.mem_map.1 hp
      exact (hf k (List.mem_range.1 hk)).2.2
    · show _ ∈ DataW.weights Try.prog 33 _
      unfold DataW.weights
      rw [Try.underlying33]
      simp [bytes82]
/-- An Op. -/
theorem open_opF {fuel : Nat} {cs : List Value} {x : DataW H × List MemPlace} (h : DataW.trod enc Try.prog W 0 (fun _ => true) true fuel 35 cs = some x) :
    ∃ (k y0 : Int) (s t : ByteArray) (va : Option Addr) (vc : Nat) (bs : List Int) (y : Int) (ka : Option Addr) (kc : Nat) (ks : List Int) (pa : Option Addr) (pc : Nat) (ps : List (Int × Int)), cs = (opC k y0 s t (.slice va bs.length vc) y (.slice ka ks.length kc) (.slice pa ps.length pc)).toList ∧ BytesV W (.slice va bs.length vc) bs ∧ (bs = [] ∨ ∃ n ∈ x.1.weights Try.prog 35, bs.length ≤ n) ∧ s.size ≤ maxLen ∧ t.size ≤ maxLen ∧ IntsV W (.slice ka ks.length kc) ks ∧ ks.length ≤ 9223372036854775807 ∧ FltV W pa ps ∧ FW ps ∧ (pa = none → pc = 0 ∧ ps = []) ∧ (ps = [] ∨ ∃ n ∈ x.1.weights Try.prog 35, ps.length * 16 ≤ n) := by
  obtain ⟨xs, n, _, rfl, hcl, hxl, hf⟩ := DataW.trod_struct Try.underlying35 h
  rw [cells35] at hcl
  obtain ⟨c0, c1, c2, c3, c4, c5, c6, c7, rfl⟩ := list8 hcl
  obtain ⟨x0, x1, x2, x3, x4, x5, x6, x7, rfl⟩ := list8 (show xs.length = 8 from hxl)
  have g0 : DataW.trod enc Try.prog W 0 (fun _ => true) true n 3 (([c0, c1, c2, c3, c4, c5, c6, c7].drop 0).take (Try.prog.cellsOf 3)) = some x0 := hf 0 _ rfl
  rw [cells3] at g0
  have g1 : DataW.trod enc Try.prog W 0 (fun _ => true) true n 3 (([c0, c1, c2, c3, c4, c5, c6, c7].drop 1).take (Try.prog.cellsOf 3)) = some x1 := hf 1 _ rfl
  rw [cells3] at g1
  have g2 : DataW.trod enc Try.prog W 0 (fun _ => true) true n 9 (([c0, c1, c2, c3, c4, c5, c6, c7].drop 2).take (Try.prog.cellsOf 9)) = some x2 := hf 2 _ rfl
  rw [cells9] at g2
  have g3 : DataW.trod enc Try.prog W 0 (fun _ => true) true n 9 (([c0, c1, c2, c3, c4, c5, c6, c7].drop 3).take (Try.prog.cellsOf 9)) = some x3 := hf 3 _ rfl
  rw [cells9] at g3
  have g4 : DataW.trod enc Try.prog W 0 (fun _ => true) true n 31 (([c0, c1, c2, c3, c4, c5, c6, c7].drop 4).take (Try.prog.cellsOf 31)) = some x4 := hf 4 _ rfl
  rw [cells31] at g4
  have g5 : DataW.trod enc Try.prog W 0 (fun _ => true) true n 5 (([c0, c1, c2, c3, c4, c5, c6, c7].drop 5).take (Try.prog.cellsOf 5)) = some x5 := hf 5 _ rfl
  rw [cells5] at g5
  have g6 : DataW.trod enc Try.prog W 0 (fun _ => true) true n 32 (([c0, c1, c2, c3, c4, c5, c6, c7].drop 6).take (Try.prog.cellsOf 32)) = some x6 := hf 6 _ rfl
  rw [cells32] at g6
  have g7 : DataW.trod enc Try.prog W 0 (fun _ => true) true n 33 (([c0, c1, c2, c3, c4, c5, c6, c7].drop 7).take (Try.prog.cellsOf 33)) = some x7 := hf 7 _ rfl
  rw [cells33] at g7
  obtain ⟨k, e0, _, _⟩ := DataW.trod_int Try.underlying3 g0
  obtain ⟨y0, e1, _, _⟩ := DataW.trod_int Try.underlying3 g1
  obtain ⟨s, e2, _, hs⟩ := DataW.trod_string Try.underlying9 g2
  obtain ⟨t, e3, _, ht⟩ := DataW.trod_string Try.underlying9 g3
  obtain ⟨va, vc, bs, e4, hb, hwt⟩ := open_bs g4
  obtain ⟨y, e5, _, _⟩ := DataW.trod_int Try.underlying5 g5
  obtain ⟨ka, kc, ks, e6, hki, hkl⟩ := open_is2 g6
  obtain ⟨pa, pc, ps, e7, hpf, hpw, hpn, hpt⟩ := open_pl g7
  injection e0 with e0; injection e1 with e1; injection e2 with e2; injection e3 with e3
  injection e4 with e4; injection e5 with e5; injection e6 with e6; injection e7 with e7
  subst e0 e1 e2 e3 e4 e5 e6 e7
  have hmem : ∀ (j ty : Nat) (d : DataW H) (m : Nat), [x0.1, x1.1, x2.1, x3.1, x4.1, x5.1, x6.1, x7.1][j]? = some d → [3, 3, 9, 9, 31, 5, 32, 33][j]? = some ty → m ∈ d.weights Try.prog ty → m ∈ DataW.weights Try.prog 35 (.agg [x0.1, x1.1, x2.1, x3.1, x4.1, x5.1, x6.1, x7.1]) := by
    intro j ty d m h1 h2 hm
    unfold DataW.weights
    rw [Try.underlying35]
    exact DataW.weights_mem_each (j := j) (t := ty) h2 h1 m hm
  refine ⟨k, y0, s, t, va, vc, bs, y, ka, kc, ks, pa, pc, ps, rfl, hb, ?_, hs, ht, hki, hkl, hpf, hpw, hpn, ?_⟩
  · rcases hwt with rfl | ⟨m, hm, hle⟩
    · exact Or.inl rfl
    · exact Or.inr ⟨m, hmem 4 31 _ m rfl rfl hm, hle⟩
  · rcases hpt with rfl | ⟨m, hm, hle⟩
    · exact Or.inl rfl
    · exact Or.inr ⟨m, hmem 7 33 _ m rfl rfl hm, hle⟩
set_option maxRecDepth 100000 in
/-- Ops. -/
theorem open_opsF {fuel : Nat} {cs : List Value} {d : DataW H} {ps : List MemPlace} (h : DataW.trod enc Try.prog W 0 (fun _ => true) true fuel 22 cs = some (d, ps)) (hsz : ∀ n ∈ d.weights Try.prog 22, n ≤ reachBytes) :
    ∃ oa n oc, cs = [.slice oa n oc] ∧ n ≤ 4611686018427387000 ∧ ∀ k, k < n → ∃ g o, oa = some ⟨g, o, none⟩ ∧ OpF W g (o + k * 8) := by
  rcases open_slice Try.underlying22 h with ⟨rfl, _⟩ | ⟨a, len, cap, m, n, D, Pl, rfl, _, hl, hcap, hm, hx, hel⟩
  · exact ⟨none, 0, 0, rfl, by omega, fun k hk => absurd hk (by omega)⟩
  · simp only [if_true] at hm
    subst hm
    injection hx with hd hp
    subst hd
    have hw0 : (len + (m - len)) * 128 ≤ reachBytes := by
      refine hsz _ ?_
      unfold DataW.weights
      rw [Try.underlying22]
      simp [bytes35]
    have hr : reachBytes = 140737488351232 := rfl
    refine ⟨some a, len, m, rfl, by omega, fun k hk => ?_⟩
    obtain ⟨cs', hcs, ht⟩ := hel k (by omega)
    rw [cells35] at hcs
    obtain ⟨_, hlen, hcell⟩ := World.cells?_some hcs
    obtain ⟨kd, y0, s, t, va, vc, bs, y, ka, kc, ks, pa, pc, ps, rfl, hb, hwt, hs, ht2, hki, hkl, hpf, hpw, hpn, hpt⟩ := open_opF ht
    obtain ⟨g, o, spot⟩ := a
    have hspot : spot = none := by
      obtain ⟨cs0, hcs0, _⟩ := hel 0 (by omega)
      rw [cells35] at hcs0
      obtain ⟨_, hl0, hc0⟩ := World.cells?_some hcs0
      obtain ⟨c0, c1, c2, c3, c4, c5, c6, c7, rfl⟩ := list8 hl0
      have h2 := World.cell?_spot (hc0 0 (by omega))
      simpa [Addr.add] using h2
    subst hspot
    unfold maxLen at hs ht2
    have hin : ∀ q, q ∈ (D k).weights Try.prog 35 → q ≤ reachBytes := fun q hq => by
      refine hsz q ?_
      unfold DataW.weights
      rw [Try.underlying22]
      exact List.mem_cons_of_mem _ (List.mem_append_left _ (weightsAll_mem (d := D k) (List.mem_map.2 ⟨k, by simpa using hk, rfl⟩) hq))
    refine ⟨g, o, rfl, kd, y0, s, t, va, vc, bs, y, ka, kc, ks, pa, pc, ps, fun j v hj => ?_, hb, ?_, by omega, by omega, hki, hkl, hpf, hpw, hpn, ?_⟩
    · have hj8 : j < 8 := by
        have := (Array.getElem?_eq_some_iff.1 hj).1
        simpa [opC] using this
      have := hcell j hj8
      rw [Addr.add_lit, Addr.add_lit] at this
      rw [this, ← hj]
      simp
    · rcases hwt with rfl | ⟨q, hq, hle⟩
      · simp
      · have := hin q hq
        omega
    · rcases hpt with rfl | ⟨q, hq, hle⟩
      · simp
      · have := hin q hq
        omega
end
end Go.Proofs.Ytllkpnlgemjgfaa
