/- kv: KvBatches' walk. -/
import Derived.Test.YtconkienlcegaaaGreatDoorLE
import Derived.Test.YtconkienlcegaaaGreatDoorLF
import Derived.Test.YtconkienlcegaaaGreatDoorKZ
namespace Go.Proofs.YtconkienlcegaaaGreatDoor
open Go.RowKit Go.Maps Go.Joins Go.Shelf
set_option linter.unusedSimpArgs false
set_option linter.unusedVariables false
/-- What Batch answers hangs on the changes alone. -/
theorem btr_one (cs : List Ch) : ∃ (E : Int) (X : List Int), ∀ (w w' : World) (e : Ending), BtR w w' cs e → ∃ a n c, e = .returned (.tuple #[.slice a n c, .int .i64 E]) ∧ BytesV w' (.slice a n c) X := by
  by_cases h1 : ∃ c ∈ cs, ¬ okK c
  · refine ⟨1, [], fun w w' e h => ?_⟩
    rcases h with ⟨_, rfl⟩ | ⟨h2, _⟩
    · exact ⟨none, 0, 0, rfl, Or.inl ⟨rfl, rfl⟩⟩
    · obtain ⟨c, hc, hn⟩ := h1
      exact absurd (h2 c hc) hn
  · by_cases h3 : (encK cs).length ≤ 65535
    · refine ⟨0, encK cs, fun w w' e h => ?_⟩
      rcases h with ⟨h2, _⟩ | ⟨_, ⟨_, v, rfl, ho⟩ | ⟨h4, _⟩⟩
      · exact absurd h2 h1
      · obtain ⟨a, c, rfl⟩ := row_form ho
        exact ⟨_, _, _, rfl, BytesV.of_own ho⟩
      · omega
    · refine ⟨3, [], fun w w' e h => ?_⟩
      rcases h with ⟨h2, _⟩ | ⟨_, ⟨h4, _⟩ | ⟨_, rfl⟩⟩
      · exact absurd h2 h1
      · omega
      · exact ⟨none, 0, 0, rfl, Or.inl ⟨rfl, rfl⟩⟩
theorem chs_nil (w : World) (D : Nat → Prop) : ChsV w D (.slice none 0 0) [] :=
  ChsV.mk [] none 0 0 0 (fun _ => .nilIface) (fun _ => .nilIface) (by simp) (by simp) (by simp) (fun h => absurd h (by simp)) (fun h => absurd h (by simp)) (fun i c h => by simp at h) (fun i c h => by simp at h) (fun i c h => by simp at h) (fun i c h => by simp at h) (fun i c h => by simp at h)
/-- What Unbatch answers hangs on the bytes alone. -/
theorem ubr_one (bs : List Int) : ∃ (E : Int) (l : List Ch), ∀ (w w' : World) (e : Ending), UbR w w' bs e → ∃ a n c, e = .returned (.tuple #[.slice a n c, .int .i64 E]) ∧ ChsV w' (fun x => x < w'.heap.size) (.slice a n c) l := by
  by_cases h1 : ∃ l, okL l ∧ encK l = bs
  · obtain ⟨l, h2, h3⟩ := h1
    refine ⟨0, l, fun w w' e h => ?_⟩
    rcases h with ⟨l', v, h4, h5, rfl, h6⟩ | ⟨h4, _⟩
    · have e9 := encK_inj h4.1 h2 (h5.trans h3.symm)
      subst e9
      obtain ⟨a, c, rfl, _⟩ := h6.form
      exact ⟨_, _, _, rfl, h6.mono (fun _ _ => rfl) (fun x hx => hx.2)⟩
    · exact absurd h3 (h4 l h2)
  · refine ⟨34, [], fun w w' e h => ?_⟩
    rcases h with ⟨l', v, h4, h5, _, _⟩ | ⟨_, rfl⟩
    · exact absurd ⟨l', h4.1, h5⟩ h1
    · exact ⟨none, 0, 0, rfl, chs_nil _ _⟩
set_option maxRecDepth 100000 in
set_option maxHeartbeats 16000000 in
/-- KvBatches -/
theorem batches_any {w : World} (hV : Vars w) {v : Value} {cs : List Ch} (hv : ChsV w (fun x => x < w.heap.size) v cs) {ba : Option Addr} {bcap : Nat} {bs : List Int} (hb : BytesV w (.slice ba bs.length bcap) bs) (hbb : KByt bs) (hbc : bs.length ≤ bcap) (hbm : bcap ≤ 9223372036854775807) (hbl : bs.length ≤ 1099511627776) :
    Calls Tryz.prog 4 #[v, .slice ba bs.length bcap] w fun e w' => e = .returned (.bool true) ∧ Below w.heap.size w w' := by
  obtain ⟨a, cap, rfl, i1, i2, i3⟩ := hv.form
  obtain ⟨E, X, hE⟩ := btr_one cs
  obtain ⟨F, l, hF⟩ := ubr_one bs
  have HV : Hid (Vars w) := hV
  have HC : Hid (ChsV w (fun x => x < w.heap.size) (.slice a cs.length cap) cs) := hv
  have HB : Hid (∀ W : World, Below w.heap.size w W → Calls Tryz.prog 33 #[.slice ba bs.length bcap] W fun e w' => Below W.heap.size W w' ∧ UbR W w' bs e) := fun W h => unbatch_any (hb.below h) hbb hbc hbm hbl
  have HB2 : Hid (∀ W : World, Below w.heap.size w W → Calls Tryz.prog 34 #[.slice ba bs.length bcap] W fun e w' => Below W.heap.size W w' ∧ UbR W w' bs e) := fun W h => runbatch_any (hb.below h) hbb hbc hbm hbl
  have HE : Hid _ := hE
  have HF : Hid _ := hF
  have HU : Hid (∀ {W W' : World} {v : Value} {l : List Ch}, ChsV W (fun x => x < W.heap.size) v l → Below W.heap.size W W' → ChsV W' (fun x => x < W'.heap.size) v l) := fun h hb => h.mono (fun x hx => hb.block x hx) (fun x hx => Nat.lt_of_lt_of_le hx hb.size)
  obtain ⟨N, hN⟩ : ∃ N, N = cs.length := ⟨_, rfl⟩
  obtain ⟨M, hM⟩ : ∃ M, M = bs.length := ⟨_, rfl⟩
  rw [← hN] at HC ⊢
  rw [← hM] at HB HB2 ⊢
  clear hV hv hb hbb hbc hbm hbl hE hF hN hM i1 i2 i3
  have hEE : (E == E) = true := by simp
  have hFF : (F == F) = true := by simp
  go_enter Tryz.func4, Tryz.ntmps4
  go_wp2_with (first
    | (go_at_call 14
       refine Calls.mono (kown_any HC.out) ?_
       rintro e w1 ⟨hb1, v1, rfl, h1⟩
       obtain ⟨a1, c1, hv1, _⟩ := h1.form
       subst hv1
       obtain ⟨n1, hn1⟩ : ∃ n1, n1 = cs.length := ⟨_, rfl⟩
       rw [← hn1] at h1 ⊢
       have H1 : Hid (Below w.heap.size w w1 ∧ ChsV w1 (fun x => x < w1.heap.size) (.slice a1 n1 c1) cs) := ⟨hb1, h1⟩
       clear hb1 h1 hn1)
    | (go_at_call 31
       refine Calls.mono (batch_any H1.out.2) ?_
       rintro e w2 ⟨hb2, hr2⟩
       obtain ⟨a2, n2, c2, rfl, hx2⟩ := HE.out _ _ _ hr2
       have H2 : Hid (Below w.heap.size w w2 ∧ BytesV w2 (.slice a2 n2 c2) X) := ⟨H1.out.1.trans (hb2.mono H1.out.1.size), hx2⟩
       clear hb2 hr2 hx2)
    | (go_at_call 32
       refine Calls.mono (rbatch_any (HC.out.mono (fun x hx => H2.out.1.block x hx) (fun x hx => Nat.lt_of_lt_of_le hx H2.out.1.size))) ?_
       rintro e w3 ⟨hb3, hr3⟩
       obtain ⟨a3, n3, c3, rfl, hx3⟩ := HE.out _ _ _ hr3
       have H3 : Hid (Below w.heap.size w w3 ∧ BytesV w3 (.slice a2 n2 c2) X ∧ BytesV w3 (.slice a3 n3 c3) X) := ⟨H2.out.1.trans (hb3.mono H2.out.1.size), H2.out.2.below hb3, hx3⟩
       clear hb3 hr3 hx3)
    | (go_at_call 33
       refine Calls.mono (HB.out _ H3.out.1) ?_
       rintro e w4 ⟨hb4, hr4⟩
       obtain ⟨a4, n4, c4, rfl, hx4⟩ := HF.out _ _ _ hr4
       have H4 : Hid (Below w.heap.size w w4 ∧ BytesV w4 (.slice a2 n2 c2) X ∧ BytesV w4 (.slice a3 n3 c3) X ∧ ChsV w4 (fun x => x < w4.heap.size) (.slice a4 n4 c4) l) := ⟨H3.out.1.trans (hb4.mono H3.out.1.size), H3.out.2.1.below hb4, H3.out.2.2.below hb4, hx4⟩
       clear hb4 hr4 hx4)
    | (go_at_call 34
       refine Calls.mono (HB2.out _ H4.out.1) ?_
       rintro e w5 ⟨hb5, hr5⟩
       obtain ⟨a5, n5, c5, rfl, hx5⟩ := HF.out _ _ _ hr5
       have H5 : Hid (Below w.heap.size w w5 ∧ BytesV w5 (.slice a2 n2 c2) X ∧ BytesV w5 (.slice a3 n3 c3) X ∧ ChsV w5 (fun x => x < w5.heap.size) (.slice a4 n4 c4) l ∧ ChsV w5 (fun x => x < w5.heap.size) (.slice a5 n5 c5) l) := ⟨H4.out.1.trans (hb5.mono H4.out.1.size), H4.out.2.1.below hb5, H4.out.2.2.1.below hb5, HU.out H4.out.2.2.2 hb5, hx5⟩
       clear hb5 hr5 hx5)
    | (go_at_call 26
       refine Calls.mono (klsame_t H5.out.2.1 H5.out.2.2.1) ?_
       rintro e w6 ⟨rfl, hw6⟩
       subst w6)
    | (go_at_call 28
       refine Calls.mono (ksame_t H5.out.2.2.2.1 H5.out.2.2.2.2) ?_
       rintro e w7 ⟨hb7, rfl⟩
       have H7 : Hid (Below w.heap.size w w7) := H5.out.1.trans (hb7.mono H5.out.1.size)
       clear hb7)
    | (go_at_call 10
       refine Calls.mono (kalive_any (HV.out.below H7.out)) ?_
       rintro e w8 ⟨rfl, hb8⟩
       have H8 : Hid (Below w.heap.size w w8) := H7.out.trans (hb8.mono H7.out.size)
       clear hb8))
  go_ret
  exact ⟨rfl, H8.out⟩
end Go.Proofs.YtconkienlcegaaaGreatDoor
