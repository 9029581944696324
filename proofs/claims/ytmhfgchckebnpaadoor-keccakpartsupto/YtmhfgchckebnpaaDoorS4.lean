/- KeccakSums: the walk. -/
import Derived.Test.YtmhfgchckebnpaaDoorKO
import Derived.Test.YtmhfgchckebnpaaDoorKN
import Derived.Test.YtmhfgchckebnpaaDoorS3
namespace Go.Proofs.YtmhfgchckebnpaaDoor
open Go.RowKit Go.Shelf
set_option linter.unusedSimpArgs false
set_option linter.unusedVariables false

set_option maxRecDepth 100000 in
set_option maxHeartbeats 2000000 in
theorem ksums_any (ao : Option Addr) (len cap : Nat) (msg : Nat → BitVec 8) (W : World) (hp : PathIn W) (hby : Bytes W ao len cap msg) (hno : ao = none → len = 0 ∧ cap = 0) :
    Calls Tryd.prog 5 #[.slice ao len cap] W fun e w' => e = .returned (.bool true) ∧ Below W.heap.size W w' := by
  have H0 : Hid (PathIn W ∧ 0 < W.heap.size ∧ Bytes W ao len cap msg) := ⟨hp, pathIn_pos hp, hby⟩
  have HC : Hid ((∀ w, PathIn w → Bytes w ao len cap msg → Calls Tryd.prog 11 #[.slice ao len cap] w fun e w' => e = .returned (.agg (vec 32 (byt (digest msg len)))) ∧ Below w.heap.size w w') ∧ (∀ w, Bytes w ao len cap msg → Calls Tryd.prog 12 #[.slice ao len cap] w fun e w' => e = .returned (.agg (vec 32 (byt (digest msg len)))) ∧ Below w.heap.size w w')) :=
    ⟨fun w h1 h2 => sum_any ao len cap msg w h1 h2, fun w h => rsum_any ao len cap msg w h hno⟩
  clear hp hby hno
  generalize digest msg len = D at HC
  go_enter Tryd.func5, Tryd.ntmps5
  go_wp2_with fail
  refine (HC.out.1 _ H0.out.1 H0.out.2.2).mono ?_
  rintro e w1 ⟨rfl, hb1⟩
  have hB1 : Bytes w1 ao len cap msg := H0.out.2.2.below hb1
  go_wp2_with fail
  refine (HC.out.2 _ hB1).mono ?_
  rintro e w2 ⟨rfl, hb2⟩
  have hb3 : Below W.heap.size W w2 := hb1.trans (hb2.mono hb1.size)
  have hp2 : PathIn w2 := H0.out.1.below hb3 H0.out.2.1
  have q := eq29 D w2
  have Hp : Hid _ := hp2
  have Hb : Hid _ := hb3
  clear hb1 hb2 hB1 hp2 hb3
  go_wp2_with (first | (go_at_call 9; refine (alive_any _ Hp.out).mono ?_; rintro e w3 ⟨rfl, hb4⟩))
  go_ret
  exact ⟨rfl, Hb.out.trans (hb4.mono Hb.out.size)⟩
end Go.Proofs.YtmhfgchckebnpaaDoor
