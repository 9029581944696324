/- wal: WalNils' walk. -/
import Derived.Test.YtoplejbmgpgkhaaGreatDoorM40
namespace Go.Proofs.YtoplejbmgpgkhaaGreatDoor
open Go.RowKit Go.Maps Go.Joins Go.Sort
set_option linter.unusedSimpArgs false
set_option linter.unusedVariables false
theorem trim_nil (w : World) (n : Int) : Calls Tryz.prog 18 #[.pointer none, .int .i64 n] w fun e w' => e = .returned (.int .i64 2) ∧ w' = w := by
  go_enter Tryz.func18, Tryz.ntmps18
  go_wp2
  go_ret
  exact ⟨rfl, rfl⟩
theorem nils_any {w : World} (hV : Vars w) (v : Value) (n : Int) : Calls Tryz.prog 8 #[v, .int .i64 n] w fun e w' => e = .returned (.bool true) ∧ Below w.heap.size w w' := by
  have HV : Hid _ := hV
  clear hV
  go_enter Tryz.func8, Tryz.ntmps8
  go_wp2_with (first
    | (go_at_call 20
       refine Calls.mono (get_nil w n) ?_
       rintro e w1 ⟨rfl, hw1⟩
       obtain rfl := hw1.symm
       clear hw1)
    | (go_at_call 12
       refine Calls.mono (open_nil w _ _) ?_
       rintro e w1 ⟨rfl, hw1⟩
       obtain rfl := hw1.symm
       clear hw1)
    | (go_at_call 14
       refine Calls.mono (lappend_nil w _) ?_
       rintro e w1 ⟨rfl, hw1⟩
       obtain rfl := hw1.symm
       clear hw1)
    | (go_at_call 16
       refine Calls.mono (lsync_nil w) ?_
       rintro e w1 ⟨rfl, hw1⟩
       obtain rfl := hw1.symm
       clear hw1)
    | (go_at_call 18
       refine Calls.mono (trim_nil w _) ?_
       rintro e w1 ⟨rfl, hw1⟩
       obtain rfl := hw1.symm
       clear hw1)
    | (go_at_call 47
       refine Calls.mono (first_nil w) ?_
       rintro e w1 ⟨rfl, hw1⟩
       obtain rfl := hw1.symm
       clear hw1)
    | (go_at_call 48
       refine Calls.mono (end_nil w) ?_
       rintro e w1 ⟨rfl, hw1⟩
       obtain rfl := hw1.symm
       clear hw1)
    | (go_at_call 11
       refine Calls.mono (alive_any HV.out) ?_
       rintro e w2 ⟨rfl, hb2⟩
       have HB : Hid _ := hb2
       clear hb2))
  go_returns
  exact ⟨rfl, HB.out⟩
end Go.Proofs.YtoplejbmgpgkhaaGreatDoor
