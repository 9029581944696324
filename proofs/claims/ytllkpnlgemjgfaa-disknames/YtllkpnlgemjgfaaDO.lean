/- DiskNames. -/
import Derived.Test.YtllkpnlgemjgfaaDN
namespace Go.Proofs.Ytllkpnlgemjgfaa
open Go.RowKit Go.Maps Go.Joins
set_option linter.unusedSimpArgs false
set_option linter.unusedVariables false
set_option maxRecDepth 100000 in
set_option maxHeartbeats 8000000 in
/-- DiskNames -/
theorem dnames_any (s : ByteArray) (hs : s.size ≤ 9223372036854775807) (n : Int) (w : World) : Calls Try.prog 5 #[.string s, .int .i64 n] w fun e w' => e = .returned (.bool true) ∧ Below w.heap.size w w' := by
  have B0 : Hid (Below w.heap.size w w) := Below.refl _ _
  generalize hb : nameB s = nb
  go_enter Try.func5, Try.ntmps5
  go_wp2_with (first
    | (go_at_call 19
       refine (read_nil s _).mono ?_
       rintro e w1 ⟨rfl, hbl⟩
       have B1 : Hid (Below w.heap.size w w1) := B0.out.trans (hbl.mono B0.out.size)
       clear hbl B0)
    | (go_at_call 18
       refine (boot_nil _ _).mono ?_
       rintro e w2 ⟨rfl, hbl⟩
       have B2 : Hid (Below w.heap.size w w2) := B1.out.trans (hbl.mono B1.out.size)
       clear hbl B1)
    | (go_at_call 21
       refine (name_any s hs _).mono ?_
       rw [hb]
       rintro e w' ⟨rfl, rfl⟩)
    | (go_at_call 22
       refine (rname_any s hs _).mono ?_
       rw [hb]
       rintro e w' ⟨rfl, rfl⟩)
    | (go_at_call 14
       refine (append_nil s _ _).mono ?_
       rintro e w3 ⟨rfl, hbl⟩
       have B3 : Hid (Below w.heap.size w w3) := B2.out.trans (hbl.mono B2.out.size)
       clear hbl B2)
    | (go_at_call 15
       refine (sync_nil s _).mono ?_
       rintro e w4 ⟨rfl, hbl⟩
       have B4 : Hid (Below w.heap.size w w4) := B3.out.trans (hbl.mono B3.out.size)
       clear hbl B3)
    | (go_at_call 23
       refine (truncate_nil s n _).mono ?_
       rintro e w5 ⟨rfl, hbl⟩
       have B5 : Hid (Below w.heap.size w w5) := B4.out.trans (hbl.mono B4.out.size)
       clear hbl B4)
    | (go_at_call 24
       refine (rename_nil s s _).mono ?_
       rintro e w6 ⟨rfl, hbl⟩
       have B6 : Hid (Below w.heap.size w w6) := B5.out.trans (hbl.mono B5.out.size)
       clear hbl B5)
    | (go_at_call 25
       refine (remove_nil s _).mono ?_
       rintro e w7 ⟨rfl, hbl⟩
       have B7 : Hid (Below w.heap.size w w7) := B6.out.trans (hbl.mono B6.out.size)
       clear hbl B6)
    | (go_at_call 26
       refine (arm_nil _ _).mono ?_
       rintro e w8 ⟨rfl, hbl⟩
       have B8 : Hid (Below w.heap.size w w8) := B7.out.trans (hbl.mono B7.out.size)
       clear hbl B7)
    | (go_at_call 27
       refine (spoil_nil s n 1 _).mono ?_
       rintro e w9 ⟨rfl, hbl⟩
       have B9 : Hid (Below w.heap.size w w9) := B8.out.trans (hbl.mono B8.out.size)
       clear hbl B8)
    | (go_at_call 10
       refine (list_nil _).mono ?_
       rintro e w10 ⟨rfl, hbl⟩
       have B10 : Hid (Below w.heap.size w w10) := B9.out.trans (hbl.mono B9.out.size)
       clear hbl B9)
    | (go_at_call 12
       refine (down_nil _).mono ?_
       rintro e w11 ⟨rfl, hbl⟩
       have B11 : Hid (Below w.heap.size w w11) := B10.out.trans (hbl.mono B10.out.size)
       clear hbl B10)
    | (go_at_call 13
       refine (steps_nil _).mono ?_
       rintro e w12 ⟨rfl, hbl⟩
       have B12 : Hid (Below w.heap.size w w12) := B11.out.trans (hbl.mono B11.out.size)
       clear hbl B11)
    | (go_at_call 8
       refine (alive_any _).mono ?_
       rintro e w13 ⟨rfl, hbl⟩
       have B13 : Hid (Below w.heap.size w w13) := B12.out.trans (hbl.mono B12.out.size)
       clear hbl B12)
    | go_in)
  go_ret
  exact ⟨rfl, B13.out⟩
end Go.Proofs.Ytllkpnlgemjgfaa
