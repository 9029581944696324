/- rlp: the arguments: an item of the document's, bytes. -/
import Derived.Test.YtmnlcpfehbpogaaSD
import Derived.Test.YtmnlcpfehbpogaaRows
import Derived.Carry
import Derived.ChangeSlices
import Derived.ChangeMaps5
import Derived.SizedLaws
import Derived.Deep.Slices
import Derived.Deep.Fields
namespace Go.Proofs.Ytmnlcpfehbpogaa
open Go.Deep Go.ChangeShapes Go.WideShapes Go.ChangeAt Go.WideElems Go.RowKit Go.ChangeMaps
set_option linter.unusedVariables false
set_option linter.unusedSimpArgs false
theorem cells5 : Try.prog.cellsOf 5 = 1 := by kernel_rfl
theorem cells4 : Try.prog.cellsOf 4 = 1 := by kernel_rfl
theorem cells22 : Try.prog.cellsOf 22 = 1 := by kernel_rfl
theorem cells23 : Try.prog.cellsOf 23 = 1 := by kernel_rfl
theorem cells25 : Try.prog.cellsOf 25 = 3 := by kernel_rfl
theorem bytes5 : Try.prog.bytesOf 5 = 1 := by kernel_rfl
theorem bytes25 : Try.prog.bytesOf 25 = 56 := by kernel_rfl
theorem list3 {α : Type} : ∀ {l : List α}, l.length = 3 → ∃ c0 c1 c2, l = [c0, c1, c2]
  | [c0, c1, c2], _ => ⟨c0, c1, c2, rfl⟩
theorem wf_u8 {x : Int} (h : (Lit.int .u8 x).wf = true) : 0 ≤ x ∧ x < 256 := by
  simp [Lit.wf, IntKind.min, IntKind.max, IntKind.signed, IntKind.bits] at h
  exact ⟨by omega, by omega⟩
section
variable {H : Type} {enc : TypeId × Value → H} {W : World}
/-- Bytes. -/
theorem open_bs {fuel : Nat} {cs : List Value} {x : DataW H × List MemPlace} (h : DataW.trod enc Try.prog W 0 (fun _ => true) true fuel 22 cs = some x) (hsz : ∀ n ∈ x.1.weights Try.prog 22, n ≤ reachBytes) :
    ∃ va vc bs, cs = [.slice va bs.length vc] ∧ BytD W (fun b => b < W.heap.size) (.slice va bs.length vc) bs ∧ SrcA W va vc bs := by
  have hr : reachBytes = 140737488351232 := rfl
  rcases open_ints Try.underlying22 Try.underlying5 cells5 h with ⟨rfl, rfl⟩ | ⟨a, len, cap, zs, rfl, _, hl, hm, hz, rfl, hcell, hwz⟩
  · exact ⟨none, 0, [], rfl, ⟨Or.inl ⟨rfl, rfl⟩, fun b hb => (by have h9 := dBlock_own hb; cases h9), by simp⟩, ⟨Or.inl ⟨rfl, rfl⟩, Nat.le_refl _, by omega, fun c hc => by cases hc⟩⟩
  · simp only [if_true] at hz
    have hlen : (zs.take len).length = len := by rw [List.length_take]; omega
    have hw : (len + (zs.length - len)) * 1 ≤ reachBytes := by
      refine hsz _ ?_
      simp [DataW.weights, Try.underlying22, bytes5, lits, Nat.min_eq_left (show len ≤ zs.length by omega)]
    unfold maxLen at hm
    have hv : BytesV W (.slice (some a) (zs.take len).length cap) (zs.take len) := by
      refine Or.inr ⟨a, cap, rfl, fun j u hu => ?_⟩
      have hj : j < (zs.take len).length := by
        have := (List.getElem?_eq_some_iff.1 hu).1
        rwa [vB_length] at this
      have h1 := hcell j (by omega)
      rw [h1]
      have h2 : (zs.take len)[j]? = some (zs.getD j 0) := by
        rw [List.getElem?_take, if_pos (by omega), List.getElem?_eq_getElem (by omega)]
        simp [List.getD, List.getElem?_eq_getElem (show j < zs.length by omega)]
      have h3 : (vB (zs.take len))[j]? = some (.int .u8 (zs.getD j 0)) := by unfold vB; rw [List.getElem?_map, h2]; rfl
      rw [h3] at hu
      exact congrArg some (Option.some.inj hu)
    refine ⟨some a, cap, zs.take len, by rw [hlen], ⟨hv, fun b hb => ?_, by omega⟩, hv, by omega, by omega, fun c hc => wf_u8 (hwz c (List.mem_of_mem_take hc))⟩
    have h0 : 0 < zs.length := by
      unfold dBlock at hb
      split at hb
      · cases hb
      · omega
    have h2 := dBlock_own hb
    injection h2 with h2
    have h1 := cell_lt (hcell 0 h0)
    have e : (a.add 0).block = a.block := by unfold Addr.add; split <;> rfl
    rw [e, h2] at h1
    exact h1
theorem weightsAll_mem {P : Program} {e : TypeId} : ∀ {l : List (DataW H)} {d : DataW H} {n : Nat}, d ∈ l → n ∈ d.weights P e → n ∈ DataW.weightsAll P e l
  | [], _, _, h, _ => by cases h
  | x :: l, d, n, h, hn => by
    unfold DataW.weightsAll
    rw [List.mem_append]
    rcases List.mem_cons.1 h with rfl | h
    · exact Or.inl hn
    · exact Or.inr (weightsAll_mem h hn)
theorem BytL_of {xs : List Tr} (h : ∀ x ∈ xs, BytT x) : BytL xs := (BytL_iff xs).2 h
/-- Items. -/
theorem open_its {n : Nat} (ih : ∀ (cs : List Value) (x : DataW H × List MemPlace), DataW.trod enc Try.prog W 0 (fun _ => true) true n 25 cs = some x → (∀ q ∈ x.1.weights Try.prog 25, q ≤ reachBytes) → ∃ (t : Tr) (sb si : Value), cs = [.bool t.l, sb, si] ∧ ItV W (fun b => b < W.heap.size) sb si t ∧ BytT t)
    {cs : List Value} {x : DataW H × List MemPlace} (h : DataW.trod enc Try.prog W 0 (fun _ => true) true (n + 1) 23 cs = some x) (hsz : ∀ q ∈ x.1.weights Try.prog 23, q ≤ reachBytes) :
    ∃ v xs, cs = [v] ∧ ItsV W (fun b => b < W.heap.size) v xs ∧ BytL xs := by
  have hr : reachBytes = 140737488351232 := rfl
  rcases DataW.trod_slice Try.underlying23 h with ⟨rfl, rfl⟩ | ⟨a, len, cap, elems, rest, n', hn', rfl, rfl, _, hl, hm, hlen, hel, hsp, _⟩
  · exact ⟨_, [], rfl, ItsV.empty _ _, by unfold BytL; trivial⟩
  · obtain rfl : n' = n := by omega
    have hw : (len + (cap - len)) * 56 ≤ reachBytes := by
      refine hsz _ ?_
      simp [DataW.weights, Try.underlying23, bytes25, hlen, (hsp rfl).1]
    have hall : ∀ i, ∃ q : Tr × Value × Value, i < len → W.cells? 0 (a.add (i * 3)) 3 = some [.bool q.1.l, q.2.1, q.2.2] ∧ ItV W (fun b => b < W.heap.size) q.2.1 q.2.2 q.1 ∧ BytT q.1 := by
      intro i
      by_cases hi : i < len
      · have h1 := hel i hi
        rw [cells25] at h1
        obtain ⟨y, hy⟩ : ∃ y, elems[i]? = some y := ⟨_, List.getElem?_eq_getElem (by omega)⟩
        rw [hy] at h1
        cases hc : W.cells? 0 (a.add (i * 3)) 3 with
        | none => rw [hc] at h1; cases h1
        | some cs' =>
          rw [hc] at h1
          obtain ⟨t, sb, si, rfl, hit, hbt⟩ := ih cs' y h1 (fun q hq => by
            refine hsz q ?_
            unfold DataW.weights
            rw [Try.underlying23]
            refine List.mem_cons_of_mem _ (List.mem_append_left _ (weightsAll_mem (d := y.1) (List.mem_map.2 ⟨y, List.mem_of_getElem? hy, rfl⟩) hq)))
          exact ⟨(t, sb, si), fun _ => ⟨rfl, hit, hbt⟩⟩
      · exact ⟨(.mk false [] [], .nilIface, .nilIface), fun h => absurd h hi⟩
    obtain ⟨f, hf⟩ := Classical.skolem.1 hall
    obtain ⟨g, o, spot⟩ := a
    have hspot : 0 < len → spot = none := fun h0 => by
      obtain ⟨_, _, hc0⟩ := World.cells?_some (hf 0 h0).1
      have h2 := World.cell?_spot (hc0 0 (by omega))
      simpa [Addr.add] using h2
    have hcell : ∀ i, i < len → ∀ j u, [Value.bool (f i).1.l, (f i).2.1, (f i).2.2][j]? = some u → W.cell? ⟨g, o + i * 3 + j, none⟩ = some u := by
      intro i hi j u hu
      have hs := hspot (by omega)
      subst hs
      have hj : j < 3 := by
        have := (List.getElem?_eq_some_iff.1 hu).1
        simpa using this
      obtain ⟨_, _, hc⟩ := World.cells?_some (hf i hi).1
      have := hc j hj
      rw [Addr.add_lit, Addr.add_lit] at this
      rw [this, ← hu]
    have hxl : ((List.range len).map fun i => (f i).1).length = len := by simp
    have hat : ∀ i x, ((List.range len).map fun i => (f i).1)[i]? = some x → i < len ∧ x = (f i).1 := fun i x hx => by
      have hi : i < len := by
        have := (List.getElem?_eq_some_iff.1 hx).1
        simpa using this
      rw [List.getElem?_map, List.getElem?_range hi] at hx
      injection hx with hx
      exact ⟨hi, hx.symm⟩
    unfold maxLen at hm
    have hits := ItsV.mk (w := W) (D := fun b => b < W.heap.size) ((List.range len).map fun i => (f i).1) (some ⟨g, o, spot⟩) cap g o (fun i => (f i).2.1) (fun i => (f i).2.2) (by rw [hxl]; exact hl) (by omega) (by rw [hxl]; omega)
      (fun h0 => by rw [hspot (by rw [hxl] at h0; exact h0)]) (fun h0 => cell_lt (p := ⟨g, o + 0 * 3 + 0, none⟩) (hcell 0 (by rw [hxl] at h0; exact h0) 0 _ rfl))
      (fun i x hx => by obtain ⟨hi, rfl⟩ := hat i x hx; exact hcell i hi 0 _ rfl)
      (fun i x hx => by obtain ⟨hi, rfl⟩ := hat i x hx; exact hcell i hi 1 _ rfl)
      (fun i x hx => by obtain ⟨hi, rfl⟩ := hat i x hx; exact hcell i hi 2 _ rfl)
      (fun i x hx => by obtain ⟨hi, rfl⟩ := hat i x hx; exact (hf i hi).2.1.b)
      (fun i x hx => by obtain ⟨hi, rfl⟩ := hat i x hx; exact (hf i hi).2.1.xs)
    rw [hxl] at hits
    refine ⟨_, _, rfl, hits, BytL_of fun x hx => ?_⟩
    obtain ⟨i, hi, rfl⟩ := List.mem_map.1 hx
    exact (hf i (by simpa using hi)).2.2
/-- An item. -/
theorem open_it : ∀ (fuel : Nat) (cs : List Value) (x : DataW H × List MemPlace), DataW.trod enc Try.prog W 0 (fun _ => true) true fuel 25 cs = some x → (∀ q ∈ x.1.weights Try.prog 25, q ≤ reachBytes) → ∃ (t : Tr) (sb si : Value), cs = [.bool t.l, sb, si] ∧ ItV W (fun b => b < W.heap.size) sb si t ∧ BytT t := by
  intro fuel
  induction fuel using Nat.strongRecOn with
  | _ fuel ih =>
    intro cs x h hsz
    obtain ⟨xs, n, hn, rfl, hcl, hxl, hf⟩ := DataW.trod_struct Try.underlying25 h
    rw [cells25] at hcl
    obtain ⟨c0, c1, c2, rfl⟩ := list3 hcl
    obtain ⟨x0, x1, x2, rfl⟩ := list3 (show xs.length = 3 from hxl)
    have g0 : DataW.trod enc Try.prog W 0 (fun _ => true) true n 4 (([c0, c1, c2].drop 0).take (Try.prog.cellsOf 4)) = some x0 := hf 0 _ rfl
    rw [cells4] at g0
    have g1 : DataW.trod enc Try.prog W 0 (fun _ => true) true n 22 (([c0, c1, c2].drop 1).take (Try.prog.cellsOf 22)) = some x1 := hf 1 _ rfl
    rw [cells22] at g1
    have g2 : DataW.trod enc Try.prog W 0 (fun _ => true) true n 23 (([c0, c1, c2].drop 2).take (Try.prog.cellsOf 23)) = some x2 := hf 2 _ rfl
    rw [cells23] at g2
    have hw : ∀ (j : Nat) (d : DataW H) (t : TypeId), [x0.1, x1.1, x2.1][j]? = some d → [4, 22, 23][j]? = some t → ∀ m ∈ d.weights Try.prog t, m ≤ reachBytes := by
      intro j d t hd ht m hm
      refine hsz m ?_
      show m ∈ DataW.weights Try.prog 25 (.agg [x0.1, x1.1, x2.1])
      unfold DataW.weights
      rw [Try.underlying25]
      exact DataW.weights_mem_each (j := j) (t := t) ht hd m hm
    obtain ⟨l, e0, _⟩ := DataW.trod_bool Try.underlying4 g0
    obtain ⟨va, vc, bs, e1, hb, hs⟩ := open_bs g1 (hw 1 _ 22 rfl rfl)
    have g2' : ∃ v xs, [c2] = [v] ∧ ItsV W (fun b => b < W.heap.size) v xs ∧ BytL xs := by
      cases n with
      | zero => simp [DataW.trod] at g2
      | succ n => exact open_its (fun cs x h1 h2 => ih n (by omega) cs x h1 h2) g2 (hw 2 _ 23 rfl rfl)
    obtain ⟨v, ys, e2, hi, hby⟩ := g2'
    injection e0 with e0; injection e1 with e1; injection e2 with e2
    subst e0 e1 e2
    exact ⟨.mk l bs ys, _, _, rfl, ⟨hb, hi⟩, by unfold BytT; exact ⟨hs.by', hby⟩⟩
end
end Go.Proofs.Ytmnlcpfehbpogaa
