/- net: slices.Insert of a timer. -/
import Derived.Test.YtemapnfbmhjlbaaNC2
import Derived.Deep.RegionHeld3
namespace Go.Proofs.Ytemapnfbmhjlbaa
open Go.RowKit Go.Maps Go.Joins
set_option linter.unusedSimpArgs false
set_option linter.unusedVariables false
theorem ov2 (a b : Option Addr) (la ca lb cb : Nat) (F : Option Addr → Nat → Nat → Option Addr → Nat → Nat → Sem Value) (G : Array Value → Sem Value) :
    Extern.SlicesOverlaps.overlaps.match_4 (fun _ => Sem Value) #[.slice a la ca, .slice b lb cb] F G = F a la ca b lb cb := rfl
theorem over_no {w : World} {g g' o l l' c c' : Nat} {cs cs' : Array Value} (hne : g ≠ g') (h : w.heap[g]? = some (.cells cs 63 (0, 0))) (h' : w.heap[g']? = some (.cells cs' 63 (0, 0))) :
    (callFunc 54 #[.slice (some ⟨g, 0, none⟩) l c, .slice (some ⟨g', o, none⟩) l' c']).run Try.prog w = .ok (.value (.bool false)) w := by
  rw [run_callFunc_extern Try.func54 (by kernel_rfl) (by kernel_rfl) (by kernel_rfl) (e := Extern.SlicesOverlaps.overlaps #[46, 46] #[4]) (by kernel_rfl)]
  have hf : ∀ k, w.frozen? ⟨g, k, none⟩ = false := fun k => unfrozen_of_block h k
  have hf' : ∀ k, w.frozen? ⟨g', k, none⟩ = false := fun k => unfrozen_of_block h' k
  have hs : w.shape? g = some (63, cs.size) := by simp [World.shape?, h]
  have hs' : w.shape? g' = some (63, cs'.size) := by simp [World.shape?, h']
  have hu : (underlying 46).run Try.prog w = .ok (.slice 63) w := by kernel_rfl
  have hz : (sizeOf 63).run Try.prog w = .ok 3 w := by kernel_rfl
  delta Extern.SlicesOverlaps.overlaps
  dsimp only
  rw [ov2]
  by_cases h0 : l = 0 ∨ l' = 0
  · rcases h0 with h0 | h0 <;> simp [Sem.run_bind, hu, hz, Result.andThen, h0]
  · simp [Sem.run_bind, hu, hz, Result.andThen, h0, hf, hf', hne, noView, viewAt, hs, hs', mayBeOne, stringish]
end Go.Proofs.Ytemapnfbmhjlbaa
