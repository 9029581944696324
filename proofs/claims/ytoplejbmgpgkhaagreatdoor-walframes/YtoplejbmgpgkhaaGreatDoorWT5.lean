/- wal: WalFrames' walk. -/
import Derived.Test.YtoplejbmgpgkhaaGreatDoorM5
import Derived.Test.YtoplejbmgpgkhaaGreatDoorM6
import Derived.Test.YtoplejbmgpgkhaaGreatDoorWS
namespace Go.Proofs.YtoplejbmgpgkhaaGreatDoor
open Go.RowKit Go.Maps Go.Joins Go.Sort
set_option linter.unusedSimpArgs false
set_option linter.unusedVariables false
set_option maxRecDepth 100000 in
set_option maxHeartbeats 8000000 in
theorem frames_walk {w : World} (hV : Vars w) (va : Option Addr) (vc : Nat) (bs : List Int) (hv : BytesV w (.slice va bs.length vc) bs) (hc : bs.length ≤ vc) (hm : vc ≤ 9223372036854775807) (hl : bs.length ≤ 140737488351232) (nm : ByteArray) (hnm : nm.size ≤ 4611686018427387904) (n : Int) :
    Calls Tryz.prog 4 #[.slice va bs.length vc, .string nm, .int .i64 n] w fun e w' => e = .returned (.bool true) ∧ Below w.heap.size w w' := by
  have HV : Hid (Vars w ∧ BytesV w (.slice va bs.length vc) bs) := ⟨hV, hv⟩
  obtain ⟨N, hN⟩ : ∃ N, N = nx bs := ⟨_, rfl⟩
  have HN : Hid _ := hN
  obtain ⟨F, hF⟩ : ∃ F, F = frameB bs := ⟨_, rfl⟩
  have HF : Hid _ := hF
  clear hV hv hN hF
  go_enter Tryz.func4, Tryz.ntmps4
  go_wp2_with (first
    | (go_at_call 36
       refine Calls.mono (next_any HV.out.1.half va vc bs HV.out.2 hc hm (by omega)) ?_
       rintro e w1 ⟨v1, he1, ho1, hb1⟩
       rw [← HN.out] at he1 ho1
       subst he1
       have H1 : Hid (w1.ownsRow w.heap.size 5 1 v1 N.2.2.length (vB N.2.2) ∧ Below w.heap.size w w1) := ⟨ho1, hb1⟩
       clear ho1 hb1)
    | (go_at_call 37
       refine Calls.mono (rnext_any va vc bs (HV.out.2.below H1.out.2) hc hm (by omega)) ?_
       rintro e w2 ⟨v2, he2, ho2, hb2⟩
       rw [← HN.out] at he2 ho2
       subst he2
       have H2 : Hid (w2.ownsRow 0 5 1 v1 N.2.2.length (vB N.2.2) ∧ w2.ownsRow 0 5 1 v2 N.2.2.length (vB N.2.2) ∧ Below w.heap.size w w2) := ⟨own_below (ownsRow_le H1.out.1 (Nat.zero_le _)) hb2, ownsRow_le ho2 (Nat.zero_le _), H1.out.2.trans (hb2.mono H1.out.2.size)⟩
       clear ho2 hb2 H1)
    | (go_at_call 38
       refine Calls.mono (frame_any (HV.out.1.below H2.out.2.2).half va vc bs (HV.out.2.below H2.out.2.2) hl) ?_
       rintro e w3 ⟨v3, rfl, ho3, hb3⟩
       rw [← HF.out] at ho3
       have H3 : Hid (w3.ownsRow 0 5 1 v1 N.2.2.length (vB N.2.2) ∧ w3.ownsRow 0 5 1 v2 N.2.2.length (vB N.2.2) ∧ w3.ownsRow 0 5 1 v3 F.length (vB F) ∧ Below w.heap.size w w3) := ⟨own_below H2.out.1 hb3, own_below H2.out.2.1 hb3, ownsRow_le ho3 (Nat.zero_le _), H2.out.2.2.trans (hb3.mono H2.out.2.2.size)⟩
       clear ho3 hb3 H2)
    | (go_at_call 39
       refine Calls.mono (rframe_any va vc bs (HV.out.2.below H3.out.2.2.2) hl) ?_
       rintro e w4 ⟨v4, rfl, ho4, hb4⟩
       rw [← HF.out] at ho4
       have H4 : Hid (w4.ownsRow 0 5 1 v1 N.2.2.length (vB N.2.2) ∧ w4.ownsRow 0 5 1 v2 N.2.2.length (vB N.2.2) ∧ w4.ownsRow 0 5 1 v3 F.length (vB F) ∧ w4.ownsRow 0 5 1 v4 F.length (vB F) ∧ Below w.heap.size w w4) := ⟨own_below H3.out.1 hb4, own_below H3.out.2.1 hb4, own_below H3.out.2.2.1 hb4, ownsRow_le ho4 (Nat.zero_le _), H3.out.2.2.2.trans (hb4.mono H3.out.2.2.2.size)⟩
       clear ho4 hb4 H3)
    | (go_at_call 22
       refine Calls.mono (same_any H4.out.2.2.1 H4.out.2.2.2.1) ?_
       rintro e w9 ⟨rfl, hw9⟩
       obtain rfl := hw9.symm
       clear hw9)
    | (go_at_call 22
       refine Calls.mono (same_any H4.out.1 H4.out.2.1) ?_
       rintro e w9 ⟨rfl, hw9⟩
       obtain rfl := hw9.symm
       clear hw9)
    | (go_at_call 40
       refine Calls.mono (sum_any (HV.out.1.below H4.out.2.2.2.2).half va vc bs (HV.out.2.below H4.out.2.2.2.2) (by omega)) ?_
       rintro e w9 ⟨rfl, hw9⟩
       obtain rfl := hw9.symm
       clear hw9)
    | (go_at_call 41
       refine Calls.mono (rsum_any va vc bs (HV.out.2.below H4.out.2.2.2.2) (by omega)) ?_
       rintro e w9 ⟨rfl, hw9⟩
       obtain rfl := hw9.symm
       clear hw9)
    | (go_at_call 42
       refine Calls.mono (wname_any nm (by omega) _) ?_
       rintro e w9 ⟨rfl, hw9⟩
       obtain rfl := hw9.symm
       clear hw9)
    | (go_at_call 43
       refine Calls.mono (rwname_any nm (by omega) _) ?_
       rintro e w9 ⟨rfl, hw9⟩
       obtain rfl := hw9.symm
       clear hw9)
    | (go_at_call 44
       refine Calls.mono (file_any (HV.out.1.below H4.out.2.2.2.2) nm hnm n) ?_
       rintro e w5 ⟨rfl, hb5⟩
       have H5 : Hid (Below w.heap.size w w5) := H4.out.2.2.2.2.trans (hb5.mono H4.out.2.2.2.2.size)
       clear hb5)
    | (go_at_call 28
       refine Calls.mono (rfile_any nm hnm n) ?_
       rintro e w6 ⟨rfl, hb6⟩
       have H6 : Hid (Below w.heap.size w w6) := H5.out.trans (hb6.mono H5.out.size)
       clear hb6)
    | (go_at_call 11
       refine Calls.mono (alive_any (HV.out.1.below H6.out)) ?_
       rintro e w7 ⟨rfl, hb7⟩
       have H7 : Hid (Below w.heap.size w w7) := H6.out.trans (hb7.mono H6.out.size)
       clear hb7))
  go_returns
  exact ⟨rfl, H7.out⟩
end Go.Proofs.YtoplejbmgpgkhaaGreatDoor
