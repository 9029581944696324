/- An argument of bytes. -/
import Derived.Test.YtmflilgppllebaaOpen
import Derived.Test.YtmflilgppllebaaBN
import Derived.Carry
import Derived.ChangeSlices
namespace Go.Proofs.Ytmflilgppllebaa
open Go.ChangeShapes Go.WideShapes Go.ChangeAt Go.RowKit
theorem Try.laidOut : laidOutB Try.prog = true := by kernel_rfl
theorem Try.cells5 : Try.prog.cellsOf 5 = 1 := by kernel_rfl
theorem byt_u8 {zs : List Int} (h : ∀ n ∈ zs, (Lit.int .u8 n).wf = true) : Byt zs := fun k => by
  rcases Nat.lt_or_ge k zs.length with g | g
  · have e : zs.getD k 0 = zs[k] := by simp [List.getD, List.getElem?_eq_getElem g]
    have := h zs[k] (List.getElem_mem g)
    simp [Lit.wf, IntKind.min, IntKind.max, IntKind.signed, IntKind.bits] at this
    rw [e]; omega
  · have e : zs.getD k 0 = 0 := by simp [List.getD, List.getElem?_eq_none g]
    rw [e]; exact ⟨by decide, by decide⟩
theorem take_getD (zs : List Int) (len k : Nat) (hk : k < len) : (zs.take len).getD k 0 = zs.getD k 0 := by
  simp only [List.getD]
  rw [List.getElem?_take_of_lt hk]
/-- An argument []byte. -/
theorem open32 {H : Type} {enc : TypeId × Value → H} {W : World} {base : Nat} {v : Value} {d : DataW H} {p : List MemPlace} (hv : Value.okWide Try.prog W .any base 32 v) (h : DataW.Trod enc Try.prog W 0 (fun _ => true) true 32 v d p) :
    ∃ dl, IsD W v dl ∧ Byt dl ∧ dl.length ≤ 9223372036854775807 := by
  obtain ⟨a1, len, cap, rfl⟩ := okWide_slice Try.underlying32 hv
  obtain ⟨fuel, hf⟩ := h
  rcases open_ints Try.underlying32 Try.underlying5 Try.cells5 hf with ⟨hcs, hx⟩ | ⟨a, len', cap', zs, hcs, _, hl, hm, hz, hx, hcell, hwz⟩
  · simp [Value.cells] at hcs
    obtain ⟨rfl, rfl, rfl⟩ := hcs
    exact ⟨[], ⟨none, 0, rfl, Nat.le_refl _, fun k hk => absurd hk (by simp)⟩, byt_nil, by simp⟩
  · simp [Value.cells] at hcs
    obtain ⟨rfl, rfl, rfl⟩ := hcs
    simp only [if_true] at hz
    have hlen : (zs.take len).length = len := by simp; omega
    obtain ⟨ab, ao, spot⟩ := a
    refine ⟨zs.take len, ⟨_, cap, by rw [hlen], by omega, fun k hk => ?_⟩, byt_u8 (fun n hn => hwz n (List.mem_of_mem_take hn)), by unfold maxLen at hm; omega⟩
    rw [hlen] at hk
    have hspot : spot = none := by simpa [Addr.add] using World.cell?_spot (hcell 0 (by omega))
    subst hspot
    have hc := hcell k (by omega)
    rw [Addr.add_lit] at hc
    exact ⟨ab, ao, rfl, block_lt_of_cell hc, by rw [hc, take_getD zs len k hk]⟩
end Go.Proofs.Ytmflilgppllebaa
