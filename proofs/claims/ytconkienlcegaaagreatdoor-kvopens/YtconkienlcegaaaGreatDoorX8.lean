/- wal: the document's Open, its walk. -/
import Derived.Test.YtconkienlcegaaaGreatDoorGDD
import Derived.Test.YtconkienlcegaaaGreatDoorGWJ1
import Derived.BigQuiet
import Derived.Deep.QuietTactic
import Derived.Deep.AppendLies
import Derived.Test.YtconkienlcegaaaGreatDoorGWT1
import Derived.Test.YtconkienlcegaaaGreatDoorGX5
namespace Go.Proofs.YtconkienlcegaaaGreatDoor
open Go.RowKit Go.Maps Go.Joins Go.Sort
set_option linter.unusedVariables false
set_option linter.unusedSimpArgs false
theorem nmS_absR (A : List RF) : nmS (absR A) = A.map (·.nm) := by
 unfold nmS absR; rw [List.map_map]; apply List.map_congr_left; intro f _; exact nm_eq.2 (by simp [tR])
theorem rlist_q {w : World} {br : Nat} {R : RS} {ro : Int} (h : RefIs w br R) (hb : HB R ro) (hd : R.down = false) : Calls Tryz.prog 77 #[.pointer (some ⟨br, 0, none⟩)] w fun e w' => ∃ v, e = .returned v ∧ StrV w' v (nmS (absR R.A)) ∧ Below w.heap.size w w' := by
 refine (rlist_any h (by have := hb.len; omega)).mono ?_; rintro e w' ⟨v, rfl, ho, hb'⟩; refine ⟨v, rfl, StrV.of_own (base := w.heap.size) ?_, hb'⟩; have e1 : (if R.down = true then [] else R.A) = R.A := by rw [hd]; rfl
 rw [e1] at ho; have e2 : nmL R.A = (nmS (absR R.A)).map Value.string := by rw [nmS_absR]; unfold nmL; rw [List.map_map]; rfl
 have e3 : R.A.length = (nmS (absR R.A)).length := by rw [nmS_absR, List.length_map]
 rw [e2, e3] at ho; exact ho
set_option maxRecDepth 100000 in
set_option maxHeartbeats 16000000 in
theorem ropen_any {w : World} {br : Nat} {R : RS} {ro : Int} (h : RefIs w br R) (hb : HB R ro) (hdn : R.down = false) (hst : R.n < 4611686018427387800) (hnm : ∀ s ∈ nmS (absR R.A), s.size ≤ 1000) (most : Int) (hm : 1 ≤ most) :
 Calls Tryz.prog 46 #[.pointer (some ⟨br, 0, none⟩), .string logB, .int .i64 most] w fun e w' => RpZ w br R ro most e w' := by
 have c5 : w.cell? ⟨br, 5, none⟩ = some (.bool false) := by rw [cell_of_block h.disk, ← hdn]; rfl
 obtain ⟨ns, hns⟩ : ∃ ns, ns = nmS (absR R.A) := ⟨_, rfl⟩
 have hl16 : ns.length ≤ 16 := by
  have := hb.wf.len; rw [hns]; unfold nmS; rw [List.length_map]; exact this
 have H0 : Hid (RefIs w br R ∧ HB R ro ∧ R.n < 4611686018427387800 ∧ (∀ s ∈ ns, s.size ≤ 1000) ∧ R.down = false ∧ ns = nmS (absR R.A)) := ⟨h, hb, hst, hns ▸ hnm, hdn, hns⟩
 have hm1 : decide (most < 1) = false := by simp; omega
 have hwn : wnameB logB = true := by decide
 have HW : Hid _ := hwn; clear h hb hdn hst hnm hns hwn; go_enter Tryz.func46, Tryz.ntmps46; go_wp2_with (first
  | (go_at_call 76
     refine Calls.mono (rwname_any logB (by decide) _) ?_; rw [HW.out]; rintro e w1 ⟨rfl, hw1⟩; obtain rfl := hw1.symm; clear hw1)
  | (go_at_call 77
     refine Calls.mono (rlist_q H0.out.1 H0.out.2.1 H0.out.2.2.2.2.1) ?_; rintro e w2 ⟨v2, rfl, hs2, hb2⟩; rw [← H0.out.2.2.2.2.2] at hs2; obtain ⟨na, nc, hv2, hs2'⟩ := hs2; subst hv2; have H2 : Hid ((∀ j s, ns[j]? = some s → ∃ g, na = some ⟨g, 0, none⟩ ∧ w2.cell? ⟨g, j, none⟩ = some (.string s)) ∧ Below w.heap.size w w2) := ⟨hs2', hb2⟩
     clear hs2' hb2))
 go_loopw [8, 10] (fun v i wr => ∃ (k : Nat), k ≤ ns.length ∧ i = .int .i64 (k : Nat) ∧ Ni w2 wr v (srtI (numsOf (ns.take k)))) (fun _ i _ => ns.length - (intOf i).toNat)
 case atStart => exact ⟨0, Nat.zero_le _, rfl, by rw [List.take_zero]; show Ni w2 w2 _ (srtI []); rw [srtI_nil]; exact ⟨World.ownsRow_nil _ _ _ _, Below.refl _ _⟩⟩
 case round =>
  obtain ⟨k, hk, rfl, hni⟩ := hrel; obtain ⟨l, hl⟩ : ∃ l, l = srtI (numsOf (ns.take k)) := ⟨_, rfl⟩
  rw [← hl] at hni; have HL : Hid (l = srtI (numsOf (ns.take k))) := hl; have hll : l.length ≤ 16 := by
   rw [hl, srtI_length]; have h1 := numsOf_length (ns.take k); rw [List.length_take] at h1; omega
  have HLL : Hid (l.length ≤ 16) := hll; clear hl; by_cases hkl : k < ns.length
  · obtain ⟨s, hs⟩ : ∃ s, ns[k]? = some s := ⟨_, List.getElem?_eq_getElem hkl⟩
    obtain ⟨g0, hna, hc0⟩ := H2.out.1 k s hs; subst hna; have hcw : wr.cell? ⟨g0, k, none⟩ = some (.string s) := (World.cell?_of_block (a := ⟨g0, k, none⟩) (hni.bel.block g0 (cell_lt hc0))).trans hc0; have hki : (k : Int) < ns.length := by omega
    have hsz := H0.out.2.2.2.1 s (List.mem_of_getElem? hs); have HSS : Hid (ns[k]? = some s) := hs; have HWH : Hid _ := which_any (w := wr) s hsz; have HNI : Hid (Ni w2 wr u8 l) := hni; clear hc0 hs hsz hni; go_wp2_with fail; refine Calls.mono HWH.out ?_; rintro e w4 ⟨⟨n, b, rfl, h1, h2⟩, hb4⟩; have HC4 : Hid (Ni w2 w4 u8 l) := ⟨ownsRow_below HNI.out.own hb4, HNI.out.bel.trans (hb4.mono HNI.out.bel.size)⟩
    clear hb4; cases b with
    | false =>
      have hn := h2 rfl; have HE : Hid (srtI (numsOf (ns.take (k + 1))) = l) := (by show _ = l; rw [numsOf_succ HSS.out, hn, HL.out]; simp)
      clear h1 h2 hn; go_wp2; go_roundw
      case rel => exact ⟨k + 1, by omega, by go_num, by rw [HE.out]; exact HC4.out⟩
      case measure => simp [intOf]; omega
    | true =>
      have hn := h1 rfl; have HE : Hid (numsOf (ns.take (k + 1)) = numsOf (ns.take k) ++ [n]) := (by show _ = _; rw [numsOf_succ HSS.out, hn]; rfl)
      have HNB : Hid (0 ≤ n ∧ n < 1000000000) := numOf_bd hn; have hn0 := HNB.out; clear h1 h2 hn; rcases id HC4.out.own.2 with ⟨hv8, h0⟩ | ⟨g, cap, cur, hv8, hrow⟩
      · have hln : l = [] := List.eq_nil_of_length_eq_zero (by simpa [vI] using h0)
        subst hv8; have HLN : Hid (l = []) := hln; clear hln h0; have HF : Hid (srtI (numsOf (ns.take (k + 1))) = [] ++ l.take 0 ++ [n] ++ l.drop 0) := (by
         show _ = _; rw [HE.out, srtI_ins (j := 0) (fun x hx => by rw [List.take_zero] at hx; cases hx) (fun x hx => by rw [← HL.out, HLN.out] at hx; cases hx), ← HL.out]; simp)
        have HC : Hid (Ni w2 w4 (.slice none 0 0) l) := HC4.out; clear HC4; go_wp2_with fail; go_loop [13] (fun i => i = .int .i64 0) (fun _ => 0)
        case atStart => rfl
        case round =>
         subst hrel; go_wp2_with fail; refine wp_region_held_drew (S := fun _ => True) (by kernel_rfl) trivial (fun hHeld => ?_); refine tk 1 (.slice none 0 0) (fun w9 hSw => ?_) hHeld ?_
         · go_simp
         simp only [sm]; refine tk 2 (.int .i64 0) (fun w9 hSw => ?_) hHeld ?_
         · go_simp
         simp only [sm]; refine tk 3 (.slice none 0 0) (fun w9 hSw => ?_) hHeld ?_
         · go_simp
         simp only [sm]; refine tk 5 (.int .i64 n) (fun w9 hSw => ?_) hHeld ?_
         · go_simp
         simp only [sm]; refine tk 8 (.slice none 0 0) (fun w9 hSw => ?_) hHeld ?_
         · go_simp
         simp only [sm]; refine tk 9 (.int .i64 0) (fun w9 hSw => ?_) hHeld ?_
         · go_simp
         simp only [sm]; refine tk 10 (.slice none 0 0) (fun w9 hSw => ?_) hHeld ?_
         · go_simp
         simp only [sm]; have HN1 : Ni w2 w4.drew (.slice none 0 0) l := ⟨HC.out.own, HC.out.bel.os, HC.out.bel.tape, HC.out.bel.output, HC.out.bel.size, HC.out.bel.block⟩
         generalize w4.drew = w6 at hHeld HN1 ⊢; refine wpAnyH_ready (rs := [0, 6]) (by kernel_rfl) (by simp) ?_; refine AllReadyH.cons rfl (fun K hK => ?_) (AllReadyH.cons rfl (fun K hK => ?_) AllReadyH.nil)
         · have HX := Cx.new HN1
           go_simp; refine hK.out _ _ trivial (fun hHeld => ?_)
           clear hK K HN1; try simp only [sm]
           generalize w6.alloc (.cells #[] 3) = w7 at hHeld HX ⊢; refine wpAnyH_ready (rs := [4, 6]) (by kernel_rfl) (by simp) ?_; refine AllReadyH.cons rfl (fun K hK => ?_) (AllReadyH.cons rfl (fun K hK => ?_) AllReadyH.nil)
           · refine step_append_i (by rfl) _ _ (by rfl) (by rfl) HX.own (by rfl) (show IsV _ _ (l.take 0) from Or.inl ⟨rfl, by rw [HLN.out]; rfl⟩) (by have := HLL.out; simp only [List.length_append, List.length_take, List.length_drop, List.length_cons, List.length_nil]; omega) HX.ni.bel.size ?_
             intro v4 w4 ho4 hg4 ha4; have HX := HX.app ho4 hg4 ha4; clear ho4 hg4 ha4; refine hK.out _ _ trivial (fun hHeld => ?_); clear hK K; try simp only [sm]
             refine rd 6 (fun K hK => ?_); have HO := On.new w4 n; have HX := HX.alloc (.cells #[.int .i64 n] 3); go_simp; refine hK.out _ _ trivial (fun hHeld => ?_); clear hK K; try simp only [sm]
             obtain ⟨b6, hb6⟩ : ∃ b6, b6 = w4.heap.size := ⟨_, rfl⟩
             rw [← hb6] at HO ⊢; clear hb6; generalize w4.alloc (.cells #[.int .i64 n] 3) = w8 at hHeld HX HO ⊢; refine rd 7 (fun K hK => ?_); refine step_append_i (by rfl) _ _ (by rfl) (by rfl) HX.own (by rfl) HO.isv (by have := HLL.out; simp only [List.length_append, List.length_take, List.length_drop, List.length_cons, List.length_nil]; omega) HX.ni.bel.size ?_; intro v7 w7 ho7 hg7 ha7; have HX := HX.app ho7 hg7 ha7; clear ho7 hg7 ha7 HO; refine hK.out _ _ trivial (fun hHeld => ?_); clear hK K; try simp only [sm]
             refine rd 11 (fun K hK => ?_); refine step_append_i (by rfl) _ _ (by rfl) (by rfl) HX.own (by rfl) (show IsV _ _ (l.drop 0) from Or.inl ⟨rfl, by rw [HLN.out]; rfl⟩) (by have := HLL.out; simp only [List.length_append, List.length_take, List.length_drop, List.length_cons, List.length_nil]; omega) HX.ni.bel.size ?_; intro v11 w11 ho11 hg11 ha11; have HX := HX.app ho11 hg11 ha11; clear ho11 hg11 ha11; refine hK.out _ _ trivial (fun hHeld => ?_); clear hK K; try simp only [sm]
             refine tk 12 (v11) (fun w9 hSw => ?_) hHeld ?_
             · go_simp
             simp only [sm]; refine wpAnyH_done (by kernel_rfl) ?_ _; go_wp2; go_roundw
             case rel => exact ⟨k + 1, by omega, by go_num, by rw [HF.out]; exact ⟨HX.own, HX.ni.bel⟩⟩
             case measure => simp [intOf]; omega
           · have HNE : (Value.slice (some ⟨w6.heap.size, 0, none⟩) 0 0).ownBlock ≠ some w7.heap.size := fun e => (by have := (HX.own.lt _ e).2; omega)
             have HO := On.new w7 n; have HX := HX.alloc (.cells #[.int .i64 n] 3); go_simp; refine hK.out _ _ trivial (fun hHeld => ?_); clear hK K; try simp only [sm]
             obtain ⟨b6, hb6⟩ : ∃ b6, b6 = w7.heap.size := ⟨_, rfl⟩
             rw [← hb6] at HO HNE ⊢; clear hb6; generalize w7.alloc (.cells #[.int .i64 n] 3) = w8 at hHeld HX HO ⊢; refine rd 4 (fun K hK => ?_); refine step_append_i (by rfl) _ _ (by rfl) (by rfl) HX.own (by rfl) (show IsV _ _ (l.take 0) from Or.inl ⟨rfl, by rw [HLN.out]; rfl⟩) (by have := HLL.out; simp only [List.length_append, List.length_take, List.length_drop, List.length_cons, List.length_nil]; omega) HX.ni.bel.size ?_; intro v4 w4 ho4 hg4 ha4; have HO := HO.app hg4 HNE; have HX := HX.app ho4 hg4 ha4; clear ho4 hg4 ha4; refine hK.out _ _ trivial (fun hHeld => ?_); clear hK K; try simp only [sm]
             refine rd 7 (fun K hK => ?_); refine step_append_i (by rfl) _ _ (by rfl) (by rfl) HX.own (by rfl) HO.isv (by have := HLL.out; simp only [List.length_append, List.length_take, List.length_drop, List.length_cons, List.length_nil]; omega) HX.ni.bel.size ?_; intro v7 w7 ho7 hg7 ha7; have HX := HX.app ho7 hg7 ha7; clear ho7 hg7 ha7 HO; refine hK.out _ _ trivial (fun hHeld => ?_); clear hK K; try simp only [sm]
             refine rd 11 (fun K hK => ?_); refine step_append_i (by rfl) _ _ (by rfl) (by rfl) HX.own (by rfl) (show IsV _ _ (l.drop 0) from Or.inl ⟨rfl, by rw [HLN.out]; rfl⟩) (by have := HLL.out; simp only [List.length_append, List.length_take, List.length_drop, List.length_cons, List.length_nil]; omega) HX.ni.bel.size ?_; intro v11 w11 ho11 hg11 ha11; have HX := HX.app ho11 hg11 ha11; clear ho11 hg11 ha11; refine hK.out _ _ trivial (fun hHeld => ?_); clear hK K; try simp only [sm]
             refine tk 12 (v11) (fun w9 hSw => ?_) hHeld ?_
             · go_simp
             simp only [sm]; refine wpAnyH_done (by kernel_rfl) ?_ _; go_wp2; go_roundw
             case rel => exact ⟨k + 1, by omega, by go_num, by rw [HF.out]; exact ⟨HX.own, HX.ni.bel⟩⟩
             case measure => simp [intOf]; omega
         · have HO := On.new w6 n
           have HN2 := HN1.alloc (.cells #[.int .i64 n] 3); go_simp; refine hK.out _ _ trivial (fun hHeld => ?_); clear hK K HN1; try simp only [sm]
           obtain ⟨b6, hb6⟩ : ∃ b6, b6 = w6.heap.size := ⟨_, rfl⟩
           rw [← hb6] at HO ⊢; clear hb6; generalize w6.alloc (.cells #[.int .i64 n] 3) = w7 at hHeld HN2 HO ⊢; refine rd 0 (fun K hK => ?_); have HNE : (Value.slice (some ⟨w7.heap.size, 0, none⟩) 0 0).ownBlock ≠ some b6 := fun e => (by have h1 := heap_lt HO.here; have e' : some w7.heap.size = some b6 := e; injection e' with e'; omega)
           have HX := Cx.new HN2; have HO := HO.alloc (.cells #[] 3); go_simp; refine hK.out _ _ trivial (fun hHeld => ?_); clear hK K HN2; try simp only [sm]
           generalize w7.alloc (.cells #[] 3) = w8 at hHeld HX HO ⊢; refine rd 4 (fun K hK => ?_); refine step_append_i (by rfl) _ _ (by rfl) (by rfl) HX.own (by rfl) (show IsV _ _ (l.take 0) from Or.inl ⟨rfl, by rw [HLN.out]; rfl⟩) (by have := HLL.out; simp only [List.length_append, List.length_take, List.length_drop, List.length_cons, List.length_nil]; omega) HX.ni.bel.size ?_; intro v4 w4 ho4 hg4 ha4; have HO := HO.app hg4 HNE; have HX := HX.app ho4 hg4 ha4; clear ho4 hg4 ha4; refine hK.out _ _ trivial (fun hHeld => ?_); clear hK K; try simp only [sm]
           refine rd 7 (fun K hK => ?_); refine step_append_i (by rfl) _ _ (by rfl) (by rfl) HX.own (by rfl) HO.isv (by have := HLL.out; simp only [List.length_append, List.length_take, List.length_drop, List.length_cons, List.length_nil]; omega) HX.ni.bel.size ?_; intro v7 w7 ho7 hg7 ha7; have HX := HX.app ho7 hg7 ha7; clear ho7 hg7 ha7 HO; refine hK.out _ _ trivial (fun hHeld => ?_); clear hK K; try simp only [sm]
           refine rd 11 (fun K hK => ?_); refine step_append_i (by rfl) _ _ (by rfl) (by rfl) HX.own (by rfl) (show IsV _ _ (l.drop 0) from Or.inl ⟨rfl, by rw [HLN.out]; rfl⟩) (by have := HLL.out; simp only [List.length_append, List.length_take, List.length_drop, List.length_cons, List.length_nil]; omega) HX.ni.bel.size ?_; intro v11 w11 ho11 hg11 ha11; have HX := HX.app ho11 hg11 ha11; clear ho11 hg11 ha11; refine hK.out _ _ trivial (fun hHeld => ?_); clear hK K; try simp only [sm]
           refine tk 12 (v11) (fun w9 hSw => ?_) hHeld ?_
           · go_simp
           simp only [sm]; refine wpAnyH_done (by kernel_rfl) ?_ _; go_wp2; go_roundw
           case rel => exact ⟨k + 1, by omega, by go_num, by rw [HF.out]; exact ⟨HX.own, HX.ni.bel⟩⟩
           case measure => simp [intOf]; omega
      · subst hv8
        have hlc : l.length ≤ cap ∧ cap ≤ 9223372036854775807 := ⟨hrow.2.2.1, by have := hrow.2.2.2.1; unfold maxLen at this; exact this⟩
        have HC : Hid (Ni w2 w4 (.slice (some ⟨g, 0, none⟩) l.length cap) l) := HC4.out; clear HC4 hrow; go_wp2_with fail; go_loop [13] (fun i => ∃ j : Nat, j ≤ l.length ∧ i = .int .i64 (j : Nat) ∧ ∀ x ∈ l.drop j, n < x) (fun i => (intOf i).toNat)
        case atStart => exact ⟨l.length, Nat.le_refl _, rfl, fun x hx => by rw [List.drop_length] at hx; cases hx⟩
        case round =>
         obtain ⟨j, hj, rfl, hhi⟩ := hrel; have HJ : Hid (j ≤ l.length) := hj; have hjc : ¬ cap < j := by omega
         have hjl : ¬ l.length < j := by omega
         have HHI : Hid (∀ x ∈ l.drop j, n < x) := hhi; clear hhi; have key : (j = 0 ∨ ∃ x, l[j - 1]? = some x ∧ x ≤ n) → srtI (numsOf (ns.take (k + 1))) = [] ++ l.take j ++ [n] ++ l.drop j := fun hx => by
          rw [HE.out, srtI_ins (j := j) ?_ (fun x hx => HHI.out x (HL.out ▸ hx)), ← HL.out]
          · simp
          · rw [← HL.out]
            intro y hy; rcases hx with rfl | ⟨x, hx, hxn⟩
            · rw [List.take_zero] at hy; cases hy
            · obtain ⟨i, hi⟩ := List.mem_iff_getElem?.1 hy
              have hil : i < j := by
               have := (List.getElem?_eq_some_iff.1 hi).1; rw [List.length_take] at this; omega
              rw [List.getElem?_take_of_lt hil] at hi; have hp := HL.out ▸ srtI_pw (numsOf (ns.take k)); by_cases hij : i = j - 1
              · rw [hij, hx] at hi
                injection hi with hi
                omega
              · have h1 := List.pairwise_iff_getElem.1 hp i (j - 1) (List.getElem?_eq_some_iff.1 hi).1 (List.getElem?_eq_some_iff.1 hx).1 (by omega)
                rw [(List.getElem?_eq_some_iff.1 hi).2, (List.getElem?_eq_some_iff.1 hx).2] at h1; have h2 : y ≤ x := by simpa using h1
                omega
         by_cases hj0 : j = 0
         · have HF : Hid _ := key (Or.inl hj0)
           have hd : decide ((0 : Int) < (j : Int)) = false := by simp; omega
           have hd2 : decide (0 < j) = false := by simp; omega
           have hd3 : ¬ 0 < j := by omega
           clear key hj0; go_wp2_with fail; obtain ⟨u80, H80⟩ : ∃ u80, Hid (Value.slice (if cap = j then some ⟨g, 0, none⟩ else some ⟨g, j, none⟩) (l.length - j) (cap - j) = u80 ∧ ∀ w0 wx, Ni w0 wx (.slice (some ⟨g, 0, none⟩) l.length cap) l → IsV wx u80 (l.drop j)) := ⟨_, rfl, fun w0 wx hN => (by
            have hj := HJ.out; by_cases hcj : cap = j
            · rw [if_pos hcj]
              have e : l.drop j = [] := List.drop_eq_nil_of_le (by omega); rw [e]; exact Or.inr ⟨_, _, by rw [show l.length - j = 0 by omega]; rfl, fun i x hx => by simp [vI] at hx⟩
            · rw [if_neg hcj]
              exact hN.back j hj _)⟩
           refine wp_region_held_drew (S := fun _ => True) (by kernel_rfl) trivial (fun hHeld => ?_); refine tk 1 (.slice (some ⟨g, 0, none⟩) l.length cap) (fun w9 hSw => ?_) hHeld ?_
           · go_simp
           simp only [sm]; refine tk 2 (.int .i64 j) (fun w9 hSw => ?_) hHeld ?_
           · go_simp
           simp only [sm]; refine tk 3 (.slice (some ⟨g, 0, none⟩) j cap) (fun w9 hSw => ?_) hHeld ?_
           · go_simp
           simp only [sm]; refine tk 5 (.int .i64 n) (fun w9 hSw => ?_) hHeld ?_
           · go_simp
           simp only [sm]; refine tk 8 (.slice (some ⟨g, 0, none⟩) l.length cap) (fun w9 hSw => ?_) hHeld ?_
           · go_simp
           simp only [sm]; refine tk 9 (.int .i64 j) (fun w9 hSw => ?_) hHeld ?_
           · go_simp
           simp only [sm]; refine tk 10 (u80) (fun w9 hSw => ?_) hHeld ?_
           · go_simp
             exact H80.out.1
           simp only [sm]; have HN1 : Ni w2 w4.drew (.slice (some ⟨g, 0, none⟩) l.length cap) l := ⟨HC.out.own, HC.out.bel.os, HC.out.bel.tape, HC.out.bel.output, HC.out.bel.size, HC.out.bel.block⟩
           generalize w4.drew = w6 at hHeld HN1 ⊢; refine wpAnyH_ready (rs := [0, 6]) (by kernel_rfl) (by simp) ?_; refine AllReadyH.cons rfl (fun K hK => ?_) (AllReadyH.cons rfl (fun K hK => ?_) AllReadyH.nil)
           · have HX := Cx.new HN1
             go_simp; refine hK.out _ _ trivial (fun hHeld => ?_)
             clear hK K HN1; try simp only [sm]
             generalize w6.alloc (.cells #[] 3) = w7 at hHeld HX ⊢; refine wpAnyH_ready (rs := [4, 6]) (by kernel_rfl) (by simp) ?_; refine AllReadyH.cons rfl (fun K hK => ?_) (AllReadyH.cons rfl (fun K hK => ?_) AllReadyH.nil)
             · refine step_append_i (by rfl) _ _ (by rfl) (by rfl) HX.own (by rfl) (HX.ni.front j HJ.out) (by have := HLL.out; simp only [List.length_append, List.length_take, List.length_drop, List.length_cons, List.length_nil]; omega) HX.ni.bel.size ?_
               intro v4 w4 ho4 hg4 ha4; have HX := HX.app ho4 hg4 ha4; clear ho4 hg4 ha4; refine hK.out _ _ trivial (fun hHeld => ?_); clear hK K; try simp only [sm]
               refine rd 6 (fun K hK => ?_); have HO := On.new w4 n; have HX := HX.alloc (.cells #[.int .i64 n] 3); go_simp; refine hK.out _ _ trivial (fun hHeld => ?_); clear hK K; try simp only [sm]
               obtain ⟨b6, hb6⟩ : ∃ b6, b6 = w4.heap.size := ⟨_, rfl⟩
               rw [← hb6] at HO ⊢; clear hb6; generalize w4.alloc (.cells #[.int .i64 n] 3) = w8 at hHeld HX HO ⊢; refine rd 7 (fun K hK => ?_); refine step_append_i (by rfl) _ _ (by rfl) (by rfl) HX.own (by rfl) HO.isv (by have := HLL.out; simp only [List.length_append, List.length_take, List.length_drop, List.length_cons, List.length_nil]; omega) HX.ni.bel.size ?_; intro v7 w7 ho7 hg7 ha7; have HX := HX.app ho7 hg7 ha7; clear ho7 hg7 ha7 HO; refine hK.out _ _ trivial (fun hHeld => ?_); clear hK K; try simp only [sm]
               refine rd 11 (fun K hK => ?_); refine step_append_i (by rfl) _ _ (by rfl) (by rfl) HX.own (by rfl) (H80.out.2 _ _ HX.ni) (by have := HLL.out; simp only [List.length_append, List.length_take, List.length_drop, List.length_cons, List.length_nil]; omega) HX.ni.bel.size ?_; intro v11 w11 ho11 hg11 ha11; have HX := HX.app ho11 hg11 ha11; clear ho11 hg11 ha11; refine hK.out _ _ trivial (fun hHeld => ?_); clear hK K; try simp only [sm]
               refine tk 12 (v11) (fun w9 hSw => ?_) hHeld ?_
               · go_simp
               simp only [sm]; refine wpAnyH_done (by kernel_rfl) ?_ _; go_wp2; go_roundw
               case rel => exact ⟨k + 1, by omega, by go_num, by rw [HF.out]; exact ⟨HX.own, HX.ni.bel⟩⟩
               case measure => simp [intOf]; omega
             · have HNE : (Value.slice (some ⟨w6.heap.size, 0, none⟩) 0 0).ownBlock ≠ some w7.heap.size := fun e => (by have := (HX.own.lt _ e).2; omega)
               have HO := On.new w7 n; have HX := HX.alloc (.cells #[.int .i64 n] 3); go_simp; refine hK.out _ _ trivial (fun hHeld => ?_); clear hK K; try simp only [sm]
               obtain ⟨b6, hb6⟩ : ∃ b6, b6 = w7.heap.size := ⟨_, rfl⟩
               rw [← hb6] at HO HNE ⊢; clear hb6; generalize w7.alloc (.cells #[.int .i64 n] 3) = w8 at hHeld HX HO ⊢; refine rd 4 (fun K hK => ?_); refine step_append_i (by rfl) _ _ (by rfl) (by rfl) HX.own (by rfl) (HX.ni.front j HJ.out) (by have := HLL.out; simp only [List.length_append, List.length_take, List.length_drop, List.length_cons, List.length_nil]; omega) HX.ni.bel.size ?_; intro v4 w4 ho4 hg4 ha4; have HO := HO.app hg4 HNE; have HX := HX.app ho4 hg4 ha4; clear ho4 hg4 ha4; refine hK.out _ _ trivial (fun hHeld => ?_); clear hK K; try simp only [sm]
               refine rd 7 (fun K hK => ?_); refine step_append_i (by rfl) _ _ (by rfl) (by rfl) HX.own (by rfl) HO.isv (by have := HLL.out; simp only [List.length_append, List.length_take, List.length_drop, List.length_cons, List.length_nil]; omega) HX.ni.bel.size ?_; intro v7 w7 ho7 hg7 ha7; have HX := HX.app ho7 hg7 ha7; clear ho7 hg7 ha7 HO; refine hK.out _ _ trivial (fun hHeld => ?_); clear hK K; try simp only [sm]
               refine rd 11 (fun K hK => ?_); refine step_append_i (by rfl) _ _ (by rfl) (by rfl) HX.own (by rfl) (H80.out.2 _ _ HX.ni) (by have := HLL.out; simp only [List.length_append, List.length_take, List.length_drop, List.length_cons, List.length_nil]; omega) HX.ni.bel.size ?_; intro v11 w11 ho11 hg11 ha11; have HX := HX.app ho11 hg11 ha11; clear ho11 hg11 ha11; refine hK.out _ _ trivial (fun hHeld => ?_); clear hK K; try simp only [sm]
               refine tk 12 (v11) (fun w9 hSw => ?_) hHeld ?_
               · go_simp
               simp only [sm]; refine wpAnyH_done (by kernel_rfl) ?_ _; go_wp2; go_roundw
               case rel => exact ⟨k + 1, by omega, by go_num, by rw [HF.out]; exact ⟨HX.own, HX.ni.bel⟩⟩
               case measure => simp [intOf]; omega
           · have HO := On.new w6 n
             have HN2 := HN1.alloc (.cells #[.int .i64 n] 3); go_simp; refine hK.out _ _ trivial (fun hHeld => ?_); clear hK K HN1; try simp only [sm]
             obtain ⟨b6, hb6⟩ : ∃ b6, b6 = w6.heap.size := ⟨_, rfl⟩
             rw [← hb6] at HO ⊢; clear hb6; generalize w6.alloc (.cells #[.int .i64 n] 3) = w7 at hHeld HN2 HO ⊢; refine rd 0 (fun K hK => ?_); have HNE : (Value.slice (some ⟨w7.heap.size, 0, none⟩) 0 0).ownBlock ≠ some b6 := fun e => (by have h1 := heap_lt HO.here; have e' : some w7.heap.size = some b6 := e; injection e' with e'; omega)
             have HX := Cx.new HN2; have HO := HO.alloc (.cells #[] 3); go_simp; refine hK.out _ _ trivial (fun hHeld => ?_); clear hK K HN2; try simp only [sm]
             generalize w7.alloc (.cells #[] 3) = w8 at hHeld HX HO ⊢; refine rd 4 (fun K hK => ?_); refine step_append_i (by rfl) _ _ (by rfl) (by rfl) HX.own (by rfl) (HX.ni.front j HJ.out) (by have := HLL.out; simp only [List.length_append, List.length_take, List.length_drop, List.length_cons, List.length_nil]; omega) HX.ni.bel.size ?_; intro v4 w4 ho4 hg4 ha4; have HO := HO.app hg4 HNE; have HX := HX.app ho4 hg4 ha4; clear ho4 hg4 ha4; refine hK.out _ _ trivial (fun hHeld => ?_); clear hK K; try simp only [sm]
             refine rd 7 (fun K hK => ?_); refine step_append_i (by rfl) _ _ (by rfl) (by rfl) HX.own (by rfl) HO.isv (by have := HLL.out; simp only [List.length_append, List.length_take, List.length_drop, List.length_cons, List.length_nil]; omega) HX.ni.bel.size ?_; intro v7 w7 ho7 hg7 ha7; have HX := HX.app ho7 hg7 ha7; clear ho7 hg7 ha7 HO; refine hK.out _ _ trivial (fun hHeld => ?_); clear hK K; try simp only [sm]
             refine rd 11 (fun K hK => ?_); refine step_append_i (by rfl) _ _ (by rfl) (by rfl) HX.own (by rfl) (H80.out.2 _ _ HX.ni) (by have := HLL.out; simp only [List.length_append, List.length_take, List.length_drop, List.length_cons, List.length_nil]; omega) HX.ni.bel.size ?_; intro v11 w11 ho11 hg11 ha11; have HX := HX.app ho11 hg11 ha11; clear ho11 hg11 ha11; refine hK.out _ _ trivial (fun hHeld => ?_); clear hK K; try simp only [sm]
             refine tk 12 (v11) (fun w9 hSw => ?_) hHeld ?_
             · go_simp
             simp only [sm]; refine wpAnyH_done (by kernel_rfl) ?_ _; go_wp2; go_roundw
             case rel => exact ⟨k + 1, by omega, by go_num, by rw [HF.out]; exact ⟨HX.own, HX.ni.bel⟩⟩
             case measure => simp [intOf]; omega
         · obtain ⟨x, hx⟩ : ∃ x, l[j - 1]? = some x := ⟨_, List.getElem?_eq_getElem (by omega)⟩
           have hcx : w4.cell? ⟨g, j - 1, none⟩ = some (.int .i64 x) := HC.out.cells (j - 1) _ (by unfold vI; rw [List.getElem?_map, hx]; rfl); have hd : decide ((0 : Int) < (j : Int)) = true := by simp; omega
           have hj1 : (j : Int) - 1 = ((j - 1 : Nat) : Int) := by omega
           have hjb : ((j - 1 : Nat) : Int) < l.length := by omega
           by_cases hxn : n < x
           · have hxd : decide (n < x) = true := by simpa using hxn
             have HXN : Hid (l[j - 1]? = some x ∧ n < x) := ⟨hx, hxn⟩
             clear key hx hxn; go_wp2; refine ⟨⟨j - 1, by omega, by go_num, fun y hy => ?_⟩, ?_⟩
             · have e : l.drop (j - 1) = x :: l.drop (j - 1 + 1) := by
                have h1 := List.getElem?_eq_some_iff.1 HXN.out.1; rw [List.drop_eq_getElem_cons h1.1, h1.2]
               rw [e, show j - 1 + 1 = j by omega] at hy; rcases List.mem_cons.1 hy with rfl | hy
               · exact HXN.out.2
               · exact HHI.out y hy
             · simp [intOf]
               omega
           · have hxd : decide (n < x) = false := by simpa using hxn
             have HF : Hid _ := key (Or.inr ⟨x, hx, by omega⟩); clear key hx hxn; go_wp2_with fail; obtain ⟨u80, H80⟩ : ∃ u80, Hid (Value.slice (if cap = j then some ⟨g, 0, none⟩ else some ⟨g, j, none⟩) (l.length - j) (cap - j) = u80 ∧ ∀ w0 wx, Ni w0 wx (.slice (some ⟨g, 0, none⟩) l.length cap) l → IsV wx u80 (l.drop j)) := ⟨_, rfl, fun w0 wx hN => (by
              have hj := HJ.out; by_cases hcj : cap = j
              · rw [if_pos hcj]
                have e : l.drop j = [] := List.drop_eq_nil_of_le (by omega); rw [e]; exact Or.inr ⟨_, _, by rw [show l.length - j = 0 by omega]; rfl, fun i x hx => by simp [vI] at hx⟩
              · rw [if_neg hcj]
                exact hN.back j hj _)⟩
             refine wp_region_held_drew (S := fun _ => True) (by kernel_rfl) trivial (fun hHeld => ?_); refine tk 1 (.slice (some ⟨g, 0, none⟩) l.length cap) (fun w9 hSw => ?_) hHeld ?_
             · go_simp
             simp only [sm]; refine tk 2 (.int .i64 j) (fun w9 hSw => ?_) hHeld ?_
             · go_simp
             simp only [sm]; refine tk 3 (.slice (some ⟨g, 0, none⟩) j cap) (fun w9 hSw => ?_) hHeld ?_
             · go_simp
             simp only [sm]; refine tk 5 (.int .i64 n) (fun w9 hSw => ?_) hHeld ?_
             · go_simp
             simp only [sm]; refine tk 8 (.slice (some ⟨g, 0, none⟩) l.length cap) (fun w9 hSw => ?_) hHeld ?_
             · go_simp
             simp only [sm]; refine tk 9 (.int .i64 j) (fun w9 hSw => ?_) hHeld ?_
             · go_simp
             simp only [sm]; refine tk 10 (u80) (fun w9 hSw => ?_) hHeld ?_
             · go_simp
               exact H80.out.1
             simp only [sm]; have HN1 : Ni w2 w4.drew (.slice (some ⟨g, 0, none⟩) l.length cap) l := ⟨HC.out.own, HC.out.bel.os, HC.out.bel.tape, HC.out.bel.output, HC.out.bel.size, HC.out.bel.block⟩
             generalize w4.drew = w6 at hHeld HN1 ⊢; refine wpAnyH_ready (rs := [0, 6]) (by kernel_rfl) (by simp) ?_; refine AllReadyH.cons rfl (fun K hK => ?_) (AllReadyH.cons rfl (fun K hK => ?_) AllReadyH.nil)
             · have HX := Cx.new HN1
               go_simp; refine hK.out _ _ trivial (fun hHeld => ?_)
               clear hK K HN1; try simp only [sm]
               generalize w6.alloc (.cells #[] 3) = w7 at hHeld HX ⊢; refine wpAnyH_ready (rs := [4, 6]) (by kernel_rfl) (by simp) ?_; refine AllReadyH.cons rfl (fun K hK => ?_) (AllReadyH.cons rfl (fun K hK => ?_) AllReadyH.nil)
               · refine step_append_i (by rfl) _ _ (by rfl) (by rfl) HX.own (by rfl) (HX.ni.front j HJ.out) (by have := HLL.out; simp only [List.length_append, List.length_take, List.length_drop, List.length_cons, List.length_nil]; omega) HX.ni.bel.size ?_
                 intro v4 w4 ho4 hg4 ha4; have HX := HX.app ho4 hg4 ha4; clear ho4 hg4 ha4; refine hK.out _ _ trivial (fun hHeld => ?_); clear hK K; try simp only [sm]
                 refine rd 6 (fun K hK => ?_); have HO := On.new w4 n; have HX := HX.alloc (.cells #[.int .i64 n] 3); go_simp; refine hK.out _ _ trivial (fun hHeld => ?_); clear hK K; try simp only [sm]
                 obtain ⟨b6, hb6⟩ : ∃ b6, b6 = w4.heap.size := ⟨_, rfl⟩
                 rw [← hb6] at HO ⊢; clear hb6; generalize w4.alloc (.cells #[.int .i64 n] 3) = w8 at hHeld HX HO ⊢; refine rd 7 (fun K hK => ?_); refine step_append_i (by rfl) _ _ (by rfl) (by rfl) HX.own (by rfl) HO.isv (by have := HLL.out; simp only [List.length_append, List.length_take, List.length_drop, List.length_cons, List.length_nil]; omega) HX.ni.bel.size ?_; intro v7 w7 ho7 hg7 ha7; have HX := HX.app ho7 hg7 ha7; clear ho7 hg7 ha7 HO; refine hK.out _ _ trivial (fun hHeld => ?_); clear hK K; try simp only [sm]
                 refine rd 11 (fun K hK => ?_); refine step_append_i (by rfl) _ _ (by rfl) (by rfl) HX.own (by rfl) (H80.out.2 _ _ HX.ni) (by have := HLL.out; simp only [List.length_append, List.length_take, List.length_drop, List.length_cons, List.length_nil]; omega) HX.ni.bel.size ?_; intro v11 w11 ho11 hg11 ha11; have HX := HX.app ho11 hg11 ha11; clear ho11 hg11 ha11; refine hK.out _ _ trivial (fun hHeld => ?_); clear hK K; try simp only [sm]
                 refine tk 12 (v11) (fun w9 hSw => ?_) hHeld ?_
                 · go_simp
                 simp only [sm]; refine wpAnyH_done (by kernel_rfl) ?_ _; go_wp2; go_roundw
                 case rel => exact ⟨k + 1, by omega, by go_num, by rw [HF.out]; exact ⟨HX.own, HX.ni.bel⟩⟩
                 case measure => simp [intOf]; omega
               · have HNE : (Value.slice (some ⟨w6.heap.size, 0, none⟩) 0 0).ownBlock ≠ some w7.heap.size := fun e => (by have := (HX.own.lt _ e).2; omega)
                 have HO := On.new w7 n; have HX := HX.alloc (.cells #[.int .i64 n] 3); go_simp; refine hK.out _ _ trivial (fun hHeld => ?_); clear hK K; try simp only [sm]
                 obtain ⟨b6, hb6⟩ : ∃ b6, b6 = w7.heap.size := ⟨_, rfl⟩
                 rw [← hb6] at HO HNE ⊢; clear hb6; generalize w7.alloc (.cells #[.int .i64 n] 3) = w8 at hHeld HX HO ⊢; refine rd 4 (fun K hK => ?_); refine step_append_i (by rfl) _ _ (by rfl) (by rfl) HX.own (by rfl) (HX.ni.front j HJ.out) (by have := HLL.out; simp only [List.length_append, List.length_take, List.length_drop, List.length_cons, List.length_nil]; omega) HX.ni.bel.size ?_; intro v4 w4 ho4 hg4 ha4; have HO := HO.app hg4 HNE; have HX := HX.app ho4 hg4 ha4; clear ho4 hg4 ha4; refine hK.out _ _ trivial (fun hHeld => ?_); clear hK K; try simp only [sm]
                 refine rd 7 (fun K hK => ?_); refine step_append_i (by rfl) _ _ (by rfl) (by rfl) HX.own (by rfl) HO.isv (by have := HLL.out; simp only [List.length_append, List.length_take, List.length_drop, List.length_cons, List.length_nil]; omega) HX.ni.bel.size ?_; intro v7 w7 ho7 hg7 ha7; have HX := HX.app ho7 hg7 ha7; clear ho7 hg7 ha7 HO; refine hK.out _ _ trivial (fun hHeld => ?_); clear hK K; try simp only [sm]
                 refine rd 11 (fun K hK => ?_); refine step_append_i (by rfl) _ _ (by rfl) (by rfl) HX.own (by rfl) (H80.out.2 _ _ HX.ni) (by have := HLL.out; simp only [List.length_append, List.length_take, List.length_drop, List.length_cons, List.length_nil]; omega) HX.ni.bel.size ?_; intro v11 w11 ho11 hg11 ha11; have HX := HX.app ho11 hg11 ha11; clear ho11 hg11 ha11; refine hK.out _ _ trivial (fun hHeld => ?_); clear hK K; try simp only [sm]
                 refine tk 12 (v11) (fun w9 hSw => ?_) hHeld ?_
                 · go_simp
                 simp only [sm]; refine wpAnyH_done (by kernel_rfl) ?_ _; go_wp2; go_roundw
                 case rel => exact ⟨k + 1, by omega, by go_num, by rw [HF.out]; exact ⟨HX.own, HX.ni.bel⟩⟩
                 case measure => simp [intOf]; omega
             · have HO := On.new w6 n
               have HN2 := HN1.alloc (.cells #[.int .i64 n] 3); go_simp; refine hK.out _ _ trivial (fun hHeld => ?_); clear hK K HN1; try simp only [sm]
               obtain ⟨b6, hb6⟩ : ∃ b6, b6 = w6.heap.size := ⟨_, rfl⟩
               rw [← hb6] at HO ⊢; clear hb6; generalize w6.alloc (.cells #[.int .i64 n] 3) = w7 at hHeld HN2 HO ⊢; refine rd 0 (fun K hK => ?_); have HNE : (Value.slice (some ⟨w7.heap.size, 0, none⟩) 0 0).ownBlock ≠ some b6 := fun e => (by have h1 := heap_lt HO.here; have e' : some w7.heap.size = some b6 := e; injection e' with e'; omega)
               have HX := Cx.new HN2; have HO := HO.alloc (.cells #[] 3); go_simp; refine hK.out _ _ trivial (fun hHeld => ?_); clear hK K HN2; try simp only [sm]
               generalize w7.alloc (.cells #[] 3) = w8 at hHeld HX HO ⊢; refine rd 4 (fun K hK => ?_); refine step_append_i (by rfl) _ _ (by rfl) (by rfl) HX.own (by rfl) (HX.ni.front j HJ.out) (by have := HLL.out; simp only [List.length_append, List.length_take, List.length_drop, List.length_cons, List.length_nil]; omega) HX.ni.bel.size ?_; intro v4 w4 ho4 hg4 ha4; have HO := HO.app hg4 HNE; have HX := HX.app ho4 hg4 ha4; clear ho4 hg4 ha4; refine hK.out _ _ trivial (fun hHeld => ?_); clear hK K; try simp only [sm]
               refine rd 7 (fun K hK => ?_); refine step_append_i (by rfl) _ _ (by rfl) (by rfl) HX.own (by rfl) HO.isv (by have := HLL.out; simp only [List.length_append, List.length_take, List.length_drop, List.length_cons, List.length_nil]; omega) HX.ni.bel.size ?_; intro v7 w7 ho7 hg7 ha7; have HX := HX.app ho7 hg7 ha7; clear ho7 hg7 ha7 HO; refine hK.out _ _ trivial (fun hHeld => ?_); clear hK K; try simp only [sm]
               refine rd 11 (fun K hK => ?_); refine step_append_i (by rfl) _ _ (by rfl) (by rfl) HX.own (by rfl) (H80.out.2 _ _ HX.ni) (by have := HLL.out; simp only [List.length_append, List.length_take, List.length_drop, List.length_cons, List.length_nil]; omega) HX.ni.bel.size ?_; intro v11 w11 ho11 hg11 ha11; have HX := HX.app ho11 hg11 ha11; clear ho11 hg11 ha11; refine hK.out _ _ trivial (fun hHeld => ?_); clear hK K; try simp only [sm]
               refine tk 12 (v11) (fun w9 hSw => ?_) hHeld ?_
               · go_simp
               simp only [sm]; refine wpAnyH_done (by kernel_rfl) ?_ _; go_wp2; go_roundw
               case rel => exact ⟨k + 1, by omega, by go_num, by rw [HF.out]; exact ⟨HX.own, HX.ni.bel⟩⟩
               case measure => simp [intOf]; omega
  · have hki : decide ((k : Int) < ns.length) = false := by simp; omega
    have hkn : k = ns.length := by omega
    have HL2 : Hid (l = srtI (numsOf (nmS (absR R.A)))) := (by show l = _; have := HL.out; rw [hkn, List.take_length, H0.out.2.2.2.2.2] at this; exact this)
    obtain ⟨a8, c8, hv8⟩ := row_form hni.own; subst hv8; have HR0 : Hid (R3 w R (wr.alloc (.cells (qC (newQ br most wr.heap.size)) 104)) br wr.heap.size ro (.slice a8 l.length c8) l most 0 R (newQ br most wr.heap.size)) := r3_start H0.out.1 H0.out.2.1 H2.out.2 hni most; have HBD : Hid (∀ v ∈ l, 0 ≤ v ∧ v < 1000000000) := fun v hv => numsOf_bd (srtI_mem (HL2.out ▸ hv))
    have HRN : Hid (R.n < 4611686018427387800) := H0.out.2.2.1; clear hni HL hkn; go_wp2_with fail; obtain ⟨bq, hbq⟩ : ∃ bq, wr.heap.size = bq := ⟨_, rfl⟩
    rw [hbq] at HR0 ⊢; clear hbq; go_loopw [15] (fun i wq => ∃ (j : Nat) (R1 : RS) (Q1 : QS), j ≤ l.length ∧ i = .int .i64 (j : Nat) ∧ R3 w R wq br bq ro (.slice a8 l.length c8) l most j R1 Q1) (fun i _ => l.length - (intOf i).toNat)
    case atStart => exact ⟨0, R, _, Nat.zero_le _, rfl, HR0.out⟩
    case round =>
     obtain ⟨j, R1, Q1, hj, rfl, hr3⟩ := hrel; have HR : Hid (R3 w R wr br bq ro (.slice a8 l.length c8) l most j R1 Q1) := hr3; clear hr3; by_cases hjl : j < l.length
     · obtain ⟨n, hn⟩ : ∃ n, l[j]? = some n := ⟨_, List.getElem?_eq_getElem hjl⟩
       obtain ⟨g8, ha8, hc8⟩ := row_cell_i HR.out.s3.row hn; subst ha8; have HN : Hid (l[j]? = some n) := hn; have hji : (j : Int) < l.length := by omega
       have hnb := HBD.out n (List.mem_of_getElem? hn); clear hn; go_wp2_with (first
        | (go_at_call 80
           refine Calls.mono (rfile_any logB (by decide) n) ?_; rintro e w4 ⟨rfl, hb4⟩; have H4 : Hid (R3 w R w4 br bq ro (.slice (some ⟨g8, 0, none⟩) l.length c8) l most j R1 Q1) := R3.below HR.out hb4; clear hb4))
       refine Calls.mono (r3_read H4.out (by have := HRN.out; omega) n) ?_; rintro e w5 ⟨v16, bs, R2, rfl, ho16, hbs, hs5, ha5, hn5, hz5, hown5⟩; obtain ⟨a16, c16, hv16⟩ := row_form ho16; subst hv16; have HBS : Hid (bs = dBytes (absQ R1) (fileB logB n) ∧ absQ R2 = (dRead (absQ R1) (fileB logB n)).2 ∧ R2.n ≤ R1.n + 1) := ⟨hbs, ha5, hn5⟩
       have H5 : Hid (S3 w R w5 br bq R2 Q1 ro (.slice (some ⟨g8, 0, none⟩) l.length c8) l ∧ w5.ownsRow w4.heap.size 5 1 (.slice a16 bs.length c16) bs.length (vB bs) ∧ (∀ b, (Value.slice a16 bs.length c16).ownBlock = some b → R2.own b = 0)) := ⟨hs5, ho16, hown5⟩
       clear hbs ha5 hn5 hs5 ho16 hown5; by_cases hc0 : (dRead (absQ R1) (fileB logB n)).1 = 0; rotate_left
       · obtain ⟨c, hc⟩ : ∃ c, (dRead (absQ R1) (fileB logB n)).1 = c := ⟨_, rfl⟩
         have HE : Hid (RpZ w br R ro most (.returned (.tuple #[.pointer none, .int .i64 c])) w5) := R3.err (A' := absQ R1) (P' := absG Q1) H4.out HL2.out HN.out (by rw [← hc]; exact hc0) (by rw [← hc]; exact Or.inl ⟨hc0, rfl, HBS.out.2.1⟩) H5.out.1; rw [hc] at hc0 ⊢; have hc1 : (c == 0) = false := by simpa using hc0
         clear hc hc0; go_wp2; go_returns; exact HE.out
       rw [hc0]; have HC0 : Hid _ := hc0; clear hc0; have hrl : Q1.rs.length ≤ 17179869184 := by have := HR.out.rs; omega
       obtain ⟨x, hx⟩ : ∃ x, x = l.headD 0 := ⟨_, rfl⟩
       have HX : Hid (x = l.headD 0) := hx; have hxb : 0 ≤ x ∧ x < 1000000000 := by
        rw [hx]; cases hll0 : l with
        | nil => rw [hll0] at hjl; simp at hjl
        | cons a r => exact HBD.out a (by rw [hll0]; exact List.mem_cons_self)
       clear hx; have d3 : w5.heap[bq]? = some (.cells (qC Q1) 104) := H5.out.1.log.log; have d5 : w5.cell? ⟨bq, 5, none⟩ = some (.int .i64 Q1.frm) := by rw [cell_of_block d3]; rfl
       have f5 : w5.frozen? ⟨bq, 5, none⟩ = false := unfrozen_of_block d3 5; have hbq4 : bq < w4.heap.size := H4.out.s3.log.lt; clear d3; by_cases hj0 : j = 0
       · subst hj0
         have h0l : (0 : Int) < l.length := by omega
         have hxn : x = n := by
          have h1 := HN.out; rw [HX.out]; cases l with
          | nil => simp at h1
          | cons a r => simpa using h1
         have HC8 : Hid _ := row_cell_i H5.out.1.row HN.out; have e0 : w5.cell? ⟨g8, 0, none⟩ = some (.int .i64 n) := by
          obtain ⟨g, e1, e2⟩ := HC8.out; injection e1 with e1
          injection e1 with e1 _ _
          rw [← e1] at e2; exact e2
         obtain ⟨q1, q2⟩ := H5.out.1.log.setFrm n; have H6 : Hid (S3 w R (w5.setCell ⟨bq, 5, none⟩ (.int .i64 n)) br bq R2 (setFrm Q1 n) ro (.slice (some ⟨g8, 0, none⟩) l.length c8) l ∧ (w5.setCell ⟨bq, 5, none⟩ (.int .i64 n)).ownsRow w4.heap.size 5 1 (.slice a16 bs.length c16) bs.length (vB bs) ∧ (setFrm Q1 n).frm = x) := ⟨H5.out.1.logged q1 q2 rfl (fun b hb => by cases hb), ownsRow_heap H5.out.2.1 (fun b hb => Below.heap_setCell _ _ _ _ (fun e => by have := (H5.out.2.1.lt b hb).1; simp only at e; omega)), hxn.symm⟩
         clear q1 q2; go_wp2_with fail; generalize w5.setCell ⟨bq, 5, none⟩ (.int .i64 n) = w6 at H6 ⊢; have HQ : Hid ((setFrm Q1 n).gs = Q1.gs ∧ (setFrm Q1 n).rs = Q1.rs ∧ (setFrm Q1 n).nm = Q1.nm ∧ (setFrm Q1 n).most = Q1.most ∧ (setFrm Q1 n).own = Q1.own) := ⟨rfl, rfl, rfl, rfl, rfl⟩
         generalize setFrm Q1 n = Qb at H6 HQ; have heq : n = x + (Q1.rs.length : Int) := by have := HR.out.rs; omega
         clear d5 f5 e0 hxn; have HJC : Hid _ := hj; have e8 : w6.cell? ⟨g8, 0, none⟩ = some (.int .i64 n) := by
          obtain ⟨g, e1, e2⟩ := row_cell_i H6.out.1.row HN.out; injection e1 with e1
          injection e1 with e1 _ _
          rw [← e1] at e2; exact e2
         have d3 : w6.heap[bq]? = some (.cells (qC Qb) 104) := H6.out.1.log.log; have e5 : w6.cell? ⟨bq, 5, none⟩ = some (.int .i64 x) := by rw [cell_of_block d3]; show some (Value.int .i64 Qb.frm) = _; rw [H6.out.2.2]
         obtain ⟨ba, bc, hbv⟩ := row_form H6.out.1.log.recs; rw [HQ.out.2.1] at hbv; have e4 : w6.cell? ⟨bq, 4, none⟩ = some (.slice ba Q1.rs.length bc) := by rw [cell_of_block d3]; show some Qb.bv = _; rw [hbv]
         clear d3; have hne : (n == x + (Q1.rs.length : Int)) = true := by simpa using heq
         go_quiet (fail)
         have H7 : S3 w R (w6.drewN nq) br bq R2 Qb ro (.slice (some ⟨g8, 0, none⟩) l.length c8) l ∧ (w6.drewN nq).ownsRow w4.heap.size 5 1 (.slice a16 bs.length c16) bs.length (vB bs) ∧ (w6.drewN nq).cell? ⟨g8, 0, none⟩ = some (.int .i64 n) := ⟨H6.out.1.below (below_drewN' _ _), ownsRow_below H6.out.2.1 (below_drewN' _ _), e8⟩
         generalize w6.drewN nq = w7 at H7 ⊢; obtain ⟨h7a, h7b, e9⟩ := H7; have H7 : Hid (S3 w R w7 br bq R2 Qb ro (.slice (some ⟨g8, 0, none⟩) l.length c8) l ∧ w7.ownsRow w4.heap.size 5 1 (.slice a16 bs.length c16) bs.length (vB bs)) := ⟨h7a, h7b⟩
         have H8 : Hid (R4 w R (w7.alloc (.cells #[.int .i64 n, .int .i64 0, .int .i64 0] 149)) br bq ro (.slice (some ⟨g8, 0, none⟩) l.length c8) l most 0 R2 Q1 x w7.heap.size (.slice a16 bs.length c16) bs n 0 [] Qb) := r4_start h7a h7b (fun b hb => H4.out.s3.log.fresh b hb) H5.out.2.2 HQ.out H6.out.2.2; have HEQ : Hid (n = x + (Q1.rs.length : Int)) := heq; clear h7a h7b e8 e5 e4 hne heq; have hle16 : bs.length ≤ c16 ∧ c16 ≤ 9223372036854775807 := by
          rcases id H5.out.2.1.2 with ⟨e1, h0⟩ | ⟨g, cap, cur, e1, _, _, h1, h2, _⟩
          · injection e1 with _ e2 e3
            omega
          · injection e1 with _ _ e3
            unfold maxLen at h2; omega
         have hbl : bs.length ≤ 1073741824 := by
          have h1 := HBS.out.1; rw [h1]; exact dBytes_q H4.out.s3.hb _
         have hj16 : 0 < 16 := by omega
         go_wp2_with fail
         obtain ⟨b18, hb18⟩ : ∃ b, w7.heap.size = b := ⟨_, rfl⟩
         rw [hb18] at H8 ⊢; clear hb18; go_loopw [21] (fun _ wq => ∃ (m : Nat) (rs : List (List Int)) (Q2 : QS), R4 w R wq br bq ro (.slice (some ⟨g8, 0, none⟩) l.length c8) l most 0 R2 Q1 x b18 (.slice a16 bs.length c16) bs n m rs Q2) (fun _ wq => bs.length - sgSz wq b18)
         case atStart => exact ⟨0, [], Qb, H8.out⟩
         case round =>
          obtain ⟨m, rs, Q2, hr4⟩ := hrel; have c2 : wr.cell? ⟨b18, 2, none⟩ = some (.int .i64 (m : Nat)) := by rw [cell_of_block hr4.s4.seg]; rfl
          have HR4 : Hid _ := hr4; have hmb := hr4.took.le; clear hr4; by_cases hmlt : m < bs.length
          · have hmi : ((m : Nat) : Int) < bs.length := by omega
            obtain ⟨g16, hg16⟩ : ∃ g, a16 = some ⟨g, 0, none⟩ := by
             rcases id H5.out.2.1.2 with ⟨e1, h0⟩ | ⟨g, cap, cur, e1, _⟩
             · injection e1 with _ e2 _
               omega
             · injection e1 with e1 _ _
               exact ⟨g, e1⟩
            subst hg16; have hcm : ¬ c16 = m := by omega
            have hcm2 : ¬ c16 < m := by omega
            have hcm3 : ¬ bs.length < m := by omega
            have hd : (bs.drop m).length = bs.length - m := List.length_drop; have hbvd : BytesV wr (.slice (some ⟨g16, m, none⟩) (bs.drop m).length (c16 - m)) (bs.drop m) := by
             have h1 := HR4.out.s4.bv.part m (bs.length - m) (c16 - m) (by omega); rw [List.take_of_length_le (by omega), Nat.zero_add] at h1; rw [hd]; exact h1
            have hX := rnext_any (some ⟨g16, m, none⟩) (c16 - m) (bs.drop m) hbvd (by omega) (by omega) (by omega); rw [hd] at hX; have HXX : Hid _ := hX; clear hX hbvd hd; go_wp2_with fail; refine Calls.mono HXX.out ?_; rintro e w9 ⟨v19, rfl, ho19, hb9⟩; obtain ⟨a19, c19, hv19⟩ := row_form ho19; subst hv19; have HB9 : Hid (Below wr.heap.size wr w9 ∧ w9.ownsRow wr.heap.size 5 1 (.slice a19 (nx (bs.drop m)).2.2.length c19) (nx (bs.drop m)).2.2.length (vB (nx (bs.drop m)).2.2)) := ⟨hb9, ho19⟩
            have hS9 := HR4.out.s4.below hb9; have d9 : w9.heap[bq]? = some (.cells (qC Q2) 104) := hS9.s3.log.log; have s9 : w9.heap[b18]? = some (.cells #[.int .i64 n, .int .i64 (rs.length : Nat), .int .i64 (m : Nat)] 149) := hS9.seg; have HS9 : Hid _ := hS9; have hlast : (l.drop (0 + 1)).isEmpty = decide (0 + 1 = l.length) := by
             by_cases hh : 0 + 1 = l.length
             · rw [decide_eq_true hh, List.drop_eq_nil_of_le (by omega)]
               rfl
             · rw [decide_eq_false hh]
               cases hdr : l.drop (0 + 1) with
               | nil =>
                 have := List.drop_eq_nil_iff.1 hdr; omega
               | cons a r => rfl
            have HLA : Hid _ := hlast; have hne18 : b18 ≠ bq := fun e => by have h1 := hS9.o18.2.1; rw [e, hS9.s3.log.rl] at h1; cases h1
            have hsz := nx_size (bs.drop m); clear ho19 hb9 hS9 hlast; obtain ⟨rc, hrc⟩ : ∃ rc, rc = (nx (bs.drop m)).2.2 := ⟨_, rfl⟩
            obtain ⟨z, hz⟩ : ∃ z, z = (nx (bs.drop m)).2.1 := ⟨_, rfl⟩
            rw [← hz] at hsz; rw [← hrc] at HB9; rw [← hrc, ← hz]; have HRC : Hid (rc = (nx (bs.drop m)).2.2 ∧ z = (nx (bs.drop m)).2.1) := ⟨hrc, hz⟩
            clear hrc hz; rcases nx_code (bs.drop m) with hc | hc | hc
            · rw [hc]
              have HC : Hid _ := hc; clear hc; obtain ⟨ba2, bc2, hbv2⟩ := row_form HR4.out.s4.s3.log.recs; have d4 : w9.cell? ⟨bq, 4, none⟩ = some (.slice ba2 Q2.rs.length bc2) := by rw [cell_of_block d9]; show some Q2.bv = _; rw [hbv2]
              have HBV2 : Hid (Q2.bv = .slice ba2 Q2.rs.length bc2 ∧ w9.heap[bq]? = some (.cells (qC Q2) 104) ∧ w9.heap[b18]? = some (.cells #[.int .i64 n, .int .i64 (rs.length : Nat), .int .i64 (m : Nat)] 149) ∧ Q2.rs.length ≤ 1099511627776) := ⟨hbv2, d9, s9, by
               have h1 := congrArg List.length HR4.out.rs; rw [List.length_map, List.length_append, List.length_map] at h1; omega⟩
              have hrl2 : rs.length ≤ 1073741824 := by omega
              have hb10 : decide ((0 : Int) = 10) = false := by decide
              clear hbv2 d9 s9; go_wp2_with (first
               | (at_builtin
                  have hB := heap_alloc_new w9 (.cells #[.slice a19 rc.length c19] 23); have ho0 := HS9.out.s3.log.recs.alloc (.cells #[.slice a19 rc.length c19] 23); rw [HBV2.out.1] at ho0; have ho1 : (w9.alloc (.cells #[.slice a19 rc.length c19] 23)).ownsRow 0 23 1 (.slice ba2 Q2.rs.length bc2) (Q2.rs.map (·.1)).length (Q2.rs.map (·.1)) := by rw [List.length_map]; exact ho0
                  refine wpList_append_v rfl _ _ rfl 0 (.slice ba2 Q2.rs.length bc2) (Q2.rs.map (·.1)) (.slice a19 rc.length c19) ⟨_, _, _, rfl⟩ rfl ho1 w9.heap.size hB rfl (by rw [List.length_map]; exact HBV2.out.2.2.2) (Nat.zero_le _) ?_; intro v2 wv ho hg ha; have hg' : w9.grownBy wv Q2.bv.ownBlock := by rw [HBV2.out.1]; exact (World.grownBy_alloc w9 _ _).trans hg
                  have ha' : v2.ownBlock = Q2.bv.ownBlock ∨ ∀ b, v2.ownBlock = some b → w9.heap.size ≤ b := by
                   rcases ha with ha | ha
                   · exact Or.inl (by rw [HBV2.out.1]; exact ha)
                   · exact Or.inr (fun b hb => by rw [ha] at hb; injection hb with hb; simp at hb; omega)
                  have hlq : wv.heap[bq]? = some (.cells (qC Q2) 104) := (hg'.block bq (heap_lt HBV2.out.2.1) (fun e => by have := HS9.out.s3.log.rr bq e.symm; rw [HS9.out.s3.log.rl] at this; cases this)).trans HBV2.out.2.1; have hl18 : wv.heap[b18]? = some (.cells #[.int .i64 n, .int .i64 (rs.length : Nat), .int .i64 (m : Nat)] 149) := (hg'.block b18 (heap_lt HBV2.out.2.2.1) (fun e => by have := HS9.out.s3.log.rr b18 e.symm; rw [HS9.out.o18.2.1] at this; cases this)).trans HBV2.out.2.2.1; have k4 : wv.cell? ⟨bq, 4, none⟩ = some (.slice ba2 Q2.rs.length bc2) := by rw [cell_of_block hlq]; show some Q2.bv = _; rw [HBV2.out.1]
                  have f4 : wv.frozen? ⟨bq, 4, none⟩ = false := unfrozen_of_block hlq 4; have k1 : wv.cell? ⟨b18, 1, none⟩ = some (.int .i64 (rs.length : Nat)) := by rw [cell_of_block hl18]; rfl
                  have k2 : wv.cell? ⟨b18, 2, none⟩ = some (.int .i64 (m : Nat)) := by rw [cell_of_block hl18]; rfl
                  have g1 : wv.frozen? ⟨b18, 1, none⟩ = false := unfrozen_of_block hl18 1; have g2 : wv.frozen? ⟨b18, 2, none⟩ = false := unfrozen_of_block hl18 2; have H2v : Hid (w9.grownBy wv Q2.bv.ownBlock ∧ wv.ownsRow 0 23 1 v2 (Q2.rs ++ [(Value.slice a19 rc.length c19, rc)]).length ((Q2.rs ++ [(Value.slice a19 rc.length c19, rc)]).map (·.1)) ∧ (v2.ownBlock = Q2.bv.ownBlock ∨ ∀ b, v2.ownBlock = some b → w9.heap.size ≤ b)) := ⟨hg', by rw [vmap_append]; simpa using ho, ha'⟩
                  obtain ⟨va2, vc2, hv2⟩ := row_form ho; simp only [List.length_append, List.length_map, List.length_cons, List.length_nil, Nat.zero_add] at hv2; subst hv2; clear ho hg ha hg' ha' hB ho0 ho1 hlq hl18))
              have hrc := HRC.out.1; have hz' := HRC.out.2; subst hrc; subst hz'; have hN := R4.next HR4.out hmlt HC.out HB9.out.1 HB9.out.2 H2v.out.1 H2v.out.2.1 H2v.out.2.2 ((rs.length : Int) + 1) ((m : Int) + ((nx (bs.drop m)).2.1 : Nat)) rfl rfl; refine ⟨⟨_, _, _, hN⟩, ?_⟩; rw [hN.size, HR4.out.size]; have hnk := nx_ok HC.out; omega
            · rw [hc]
              by_cases hla : 0 + 1 = l.length
              · have hlb : ((0 : Int) == (l.length : Int) - 1) = true := by simp; omega
                have HLX : Hid (LdX (absQ R1) (absG Q1) n (l.drop (0 + 1)).isEmpty (dTru (absQ R2) (fileB logB n) (m : Nat)).1 (dTru (absQ R2) (fileB logB n) (m : Nat)).2 { absG Q1 with fs := (absG Q1).fs ++ [n], rs := (absG Q1).rs ++ rs, size := (m : Nat) }) := Or.inr ⟨HC0.out, Or.inr ⟨(Or.inl (by show Q1.gs.map (·.1) = []; rw [HR.out.fs, List.take_zero])), Or.inr ⟨m, rs, HBS.out.1 ▸ HR4.out.took, rfl, Or.inr ⟨HBS.out.1 ▸ hmlt, HBS.out.1 ▸ hc, by rw [HLA.out]; simpa using hla, by rw [HBS.out.2.1], by rw [HBS.out.2.1]⟩⟩⟩⟩; have k2 : w9.cell? ⟨b18, 2, none⟩ = some (.int .i64 (m : Nat)) := by rw [cell_of_block s9]; rfl
                have e9' : w9.cell? ⟨g8, 0, none⟩ = some (.int .i64 n) := by
                 obtain ⟨g, e1, e2⟩ := row_cell_i HS9.out.s3.row HN.out; injection e1 with e1
                 injection e1 with e1 _ _
                 rw [← e1] at e2; exact e2
                have HD9 : Hid (w9.heap[b18]? = some (.cells #[.int .i64 n, .int .i64 (rs.length : Nat), .int .i64 (m : Nat)] 149)) := s9; clear hc hla d9 s9; go_wp2_with fail; refine wp_region_held_drew (S := fun w' => w'.cell? ⟨g8, 0, none⟩ = some (.int .i64 n) ∧ w'.cell? ⟨b18, 2, none⟩ = some (.int .i64 (m : Nat))) (by kernel_rfl) ⟨e9', k2⟩ (fun hHeld => ?_); refine tk 0 (.pointer (some ⟨br, 0, none⟩)) (fun w9 hSw => ?_) hHeld ?_
                · go_simp
                simp only [sm]; refine tk 1 (.string logB) (fun w9 hSw => ?_) hHeld ?_
                · go_simp
                simp only [sm]; refine tk 2 (.slice (some ⟨g8, 0, none⟩) l.length c8) (fun w9 hSw => ?_) hHeld ?_
                · go_simp
                simp only [sm]; refine tk 3 (.int .i64 (0 : Nat)) (fun w9 hSw => ?_) hHeld ?_
                · go_simp
                simp only [sm]; refine tk 4 (.pointer (some ⟨g8, 0, none⟩)) (fun w9 hSw => ?_) hHeld ?_
                · go_simp
                simp only [sm]; refine tk 5 (.int .i64 n) (fun w9 hSw => ?_) hHeld ?_
                · have hc := hSw.1
                  go_simp
                simp only [sm]; refine tk 7 (.pointer (some ⟨b18, 2, none⟩)) (fun w9 hSw => ?_) hHeld ?_
                · go_simp
                simp only [sm]; refine tk 8 (.int .i64 (m : Nat)) (fun w9 hSw => ?_) hHeld ?_
                · have hc := hSw.2
                  go_simp
                simp only [sm]; have HX9 : S4 w R w9.drew br bq R2 Q2 ro (.slice (some ⟨g8, 0, none⟩) l.length c8) l b18 (.slice (some ⟨g16, 0, none⟩) bs.length c16) bs (n, (rs.length : Int), (m : Int)) := HS9.out.below ⟨rfl, rfl, rfl, Nat.le_refl _, fun _ _ => rfl⟩; generalize w9.drew = wa at hHeld HX9 ⊢; refine rd 6 (fun K hK => ?_); go_simp; refine Calls.mono (rfile_any logB (by decide) n) ?_; rintro e wb ⟨rfl, hbb⟩; have HXb := HX9.below hbb; have hSb : wb.cell? ⟨g8, 0, none⟩ = some (.int .i64 n) ∧ wb.cell? ⟨b18, 2, none⟩ = some (.int .i64 (m : Nat)) := ⟨(hbb.cell (p := ⟨g8, 0, none⟩) (cell_lt hHeld.1)).trans hHeld.1, (hbb.cell (p := ⟨b18, 2, none⟩) (cell_lt hHeld.2)).trans hHeld.2⟩
                clear hHeld HX9 hbb; go_wp2_with fail; refine hK.out _ _ hSb (fun hHeld => ?_); clear hK K; try simp only [sm]
                refine rd 9 (fun K hK => ?_); go_simp; refine Calls.mono (trunc_q HXb.s3 (by have h1 := HBS.out.2.2; have h2 := HR.out.n; have h3 := HRN.out; omega) n (m : Nat)) ?_; rintro e wc ⟨R3', rfl, hs3, hab, hnn, hFr⟩; have hseg : wc.heap[b18]? = some (.cells #[.int .i64 n, .int .i64 (rs.length : Nat), .int .i64 (m : Nat)] 149) := (hFr.block b18 (heap_lt HXb.seg) HXb.o18.1).trans HXb.seg; have HT : Hid (S3 w R wc br bq R3' Q2 ro (.slice (some ⟨g8, 0, none⟩) l.length c8) l ∧ absQ R3' = (dTru (absQ R2) (fileB logB n) (m : Nat)).2 ∧ wc.heap[b18]? = some (.cells #[.int .i64 n, .int .i64 (rs.length : Nat), .int .i64 (m : Nat)] 149) ∧ R3'.own b18 = 0 ∧ Q2.own b18 = 0) := ⟨hs3, hab, hseg, hFr.own b18 (heap_lt HXb.seg) HXb.o18.1, HXb.o18.2.1⟩
                have HST : Hid (R3'.n ≤ R1.n + 2) := (by show R3'.n ≤ R1.n + 2; have := HBS.out.2.2; omega)
                have hSc : wc.cell? ⟨g8, 0, none⟩ = some (.int .i64 n) ∧ wc.cell? ⟨b18, 2, none⟩ = some (.int .i64 (m : Nat)) := ⟨by
                 obtain ⟨g, e1, e2⟩ := row_cell_i hs3.row HN.out; injection e1 with e1
                 injection e1 with e1 _ _
                 rw [← e1] at e2; exact e2, by rw [cell_of_block hseg]; rfl⟩
                obtain ⟨c, hcc⟩ : ∃ c, c = (dTru (absQ R2) (fileB logB n) (m : Nat)).1 := ⟨_, rfl⟩
                rw [← hcc]; have HCC : Hid _ := hcc; clear hs3 hab hnn hFr hseg hSb HXb hHeld hcc; go_wp2_with fail; refine hK.out _ _ hSc (fun hHeld => ?_); clear hK K; try simp only [sm]
                refine tk 10 (.int .i64 c) (fun w9 hSw => ?_) hHeld ?_
                · go_simp
                simp only [sm]; refine wpAnyH_done (by kernel_rfl) ?_ _; clear hHeld hSc; by_cases hc0 : c = 0; rotate_left
                · have hc1 : (c == 0) = false := by simpa using hc0
                  have HE : Hid (RpZ w br R ro most (.returned (.tuple #[.pointer none, .int .i64 c])) wc) := R3.err (A' := absQ R1) H4.out HL2.out HN.out hc0 (by rw [HCC.out, HT.out.2.1]; exact HLX.out) HT.out.1; clear hc0; go_wp2; go_returns; exact HE.out
                subst hc0; have HLX2 : Hid (LdX (absQ R1) (absG Q1) n (l.drop (0 + 1)).isEmpty 0 (absQ R3') { absG Q1 with fs := (absG Q1).fs ++ [n], rs := (absG Q1).rs ++ rs, size := (m : Nat) }) := (by rw [HT.out.2.1]; have h1 := HLX.out; rw [← HCC.out] at h1; exact h1)
                go_wp2_with fail
                obtain ⟨la, lc, hlv⟩ := row_form HT.out.1.log.segs; have HLV : Hid (Q2.lv = .slice la Q2.gs.length lc ∧ Q2.gs.length ≤ 16 ∧ wc.heap[bq]? = some (.cells (qC Q2) 104)) := ⟨hlv, by have h1 := congrArg List.length HR.out.fs; rw [List.length_map, List.length_take] at h1; rw [HR4.out.gs]; omega, HT.out.1.log.log⟩
                clear hlv; refine wp_region_held_drew (S := fun w' => w'.heap[b18]? = some (.cells #[.int .i64 n, .int .i64 (rs.length : Nat), .int .i64 (m : Nat)] 149)) (by kernel_rfl) HT.out.2.2.1 (fun hHeld => ?_); refine tk 0 (.pointer (some ⟨bq, 0, none⟩)) (fun wc hSw => ?_) hHeld ?_
                · go_simp
                simp only [sm]; refine tk 1 (.pointer (some ⟨bq, 0, none⟩)) (fun wc hSw => ?_) hHeld ?_
                · go_simp
                simp only [sm]; refine tk 2 (.pointer (some ⟨bq, 0, none⟩)) (fun wc hSw => ?_) hHeld ?_
                · go_simp
                simp only [sm]; refine tk 3 (.pointer (some ⟨bq, 3, none⟩)) (fun wc hSw => ?_) hHeld ?_
                · go_simp
                simp only [sm]; refine tk 5 (.agg #[.int .i64 n, .int .i64 (rs.length : Nat), .int .i64 (m : Nat)]) (fun wc hSw => ?_) hHeld ?_
                · have q0 : wc.cell? ⟨b18, 0, none⟩ = some (.int .i64 n) := cell_of_block hSw 0
                  have q1 : wc.cell? ⟨b18, 1, none⟩ = some (.int .i64 (rs.length : Nat)) := cell_of_block hSw 1; have q2 : wc.cell? ⟨b18, 2, none⟩ = some (.int .i64 (m : Nat)) := cell_of_block hSw 2; go_simp
                simp only [sm]; have HX9 : S3 w R wc.drew br bq R3' Q2 ro (.slice (some ⟨g8, 0, none⟩) l.length c8) l ∧ wc.drew.heap[bq]? = some (.cells (qC Q2) 104) := ⟨HT.out.1.below ⟨rfl, rfl, rfl, Nat.le_refl _, fun _ _ => rfl⟩, HLV.out.2.2⟩
                have ho18 : R3'.own b18 = 0 ∧ Q2.own b18 = 0 ∧ True := ⟨HT.out.2.2.2.1, HT.out.2.2.2.2, trivial⟩
                generalize wc.drew = wa at hHeld HX9 ⊢; refine wpAnyH_ready (rs := [4, 6]) (by kernel_rfl) (by simp) ?_; refine AllReadyH.cons rfl (fun K hK => ?_) (AllReadyH.cons rfl (fun K hK => ?_) AllReadyH.nil)
                · have dl : wa.cell? ⟨bq, 3, none⟩ = some (.slice la Q2.gs.length lc) := by rw [cell_of_block HX9.2]; show some Q2.lv = _; rw [HLV.out.1]
                  go_simp; refine hK.out _ _ hHeld (fun hHeld => ?_)
                  clear hK K; try simp only [sm]
                  refine rd 6 (fun K hK => ?_); have hal : Below wa.heap.size wa (wa.alloc (.cells #[.int .i64 n, .int .i64 (rs.length : Nat), .int .i64 (m : Nat)] 149)) := by go_grown
                  have HN9 : (wa.alloc (.cells #[.int .i64 n, .int .i64 (rs.length : Nat), .int .i64 (m : Nat)] 149)).heap[wa.heap.size]? = some (.cells #[.int .i64 n, .int .i64 (rs.length : Nat), .int .i64 (m : Nat)] 149) := heap_alloc_new _ _; have HX9 : S3 w R (wa.alloc (.cells #[.int .i64 n, .int .i64 (rs.length : Nat), .int .i64 (m : Nat)] 149)) br bq R3' Q2 ro (.slice (some ⟨g8, 0, none⟩) l.length c8) l ∧ (wa.alloc (.cells #[.int .i64 n, .int .i64 (rs.length : Nat), .int .i64 (m : Nat)] 149)).heap[bq]? = some (.cells (qC Q2) 104) := ⟨HX9.1.below hal, (hal.block bq (heap_lt HX9.2)).trans HX9.2⟩
                  have hS9 := (hal.block b18 (heap_lt hHeld)).trans hHeld; have hba : wa.heap.size ≠ b18 := fun e => by have := heap_lt hHeld; omega
                  clear hal hHeld; go_simp; refine hK.out _ _ hS9 (fun hHeld => ?_); clear hK K; try simp only [sm]
                  obtain ⟨b6, hb6⟩ : ∃ b6, wa.heap.size = b6 := ⟨_, rfl⟩
                  rw [hb6] at HN9 hba ⊢; clear hb6; generalize wa.alloc (.cells #[.int .i64 n, .int .i64 (rs.length : Nat), .int .i64 (m : Nat)] 149) = wd at hHeld HX9 HN9 hS9 ⊢; refine rd 7 (fun K hK => ?_); obtain ⟨i0, hi, hz0, hz1, hz2⟩ := info92c; have hrow := HX9.1.log.segs; rw [HLV.out.1] at hrow; refine step_append_lies wd (by rfl) _ _ 102 (by rfl) 0 149 i0 _ 3 24 Tryz.underlying102 hi hz0 hz1 hz2 rfl (by decide) (.slice la Q2.gs.length lc) Q2.gs.length (sgL Q2.gs) (by rfl) hrow ⟨b6, 0, none⟩ 1 1 (sgL [(n, (rs.length : Int), (m : Int))]) (by rfl) rfl (fun i9 u hu => by rw [Addr.add_lit, Nat.zero_add, cell_of_block HN9]; simpa [sgL] using hu) (fun u hu => by simp [sgL] at hu; rcases hu with rfl | rfl | rfl <;> rfl) (by omega) (by have := HLV.out.2.1; unfold maxLen; omega) (by have := HLV.out.2.1; omega) (Nat.zero_le _) _ rfl ?_; intro g2 cap2 wb ho hg ha hlt2; have hg' : wd.grownBy wb Q2.lv.ownBlock := by rw [HLV.out.1]; exact hg
                  have ha' : (Value.slice (some ⟨g2, 0, none⟩) (Q2.gs.length + 1) cap2).ownBlock = Q2.lv.ownBlock ∨ ∀ b, (Value.slice (some ⟨g2, 0, none⟩) (Q2.gs.length + 1) cap2).ownBlock = some b → wd.heap.size ≤ b := by
                   rcases ha with ha | ha
                   · exact Or.inl (by rw [HLV.out.1, ha]; rfl)
                   · exact Or.inr (fun b hb => by have e : some g2 = some b := hb; injection e with e; omega)
                  have hobq : HX9.1.log.lt = HX9.1.log.lt := rfl; have hq3 : wb.heap[bq]? = some (.cells (qC Q2) 104) := (hg'.block bq (heap_lt HX9.2) (fun e => by have h1 := HX9.1.log.rf bq e.symm; rw [HX9.1.log.rl] at h1; cases h1)).trans HX9.2; have h18 : wb.heap[b18]? = some (.cells #[.int .i64 n, .int .i64 (rs.length : Nat), .int .i64 (m : Nat)] 149) := (hg'.block b18 (heap_lt hS9) (fun e => by have h1 := HX9.1.log.rf b18 e.symm; rw [ho18.2.1] at h1; cases h1)).trans hS9; have ho' : wb.ownsRow 0 149 3 (.slice (some ⟨g2, 0, none⟩) (Q2.gs.length + 1) cap2) (Q2.gs ++ [(n, (rs.length : Int), (m : Int))]).length (sgL (Q2.gs ++ [(n, (rs.length : Int), (m : Int))])) := by rw [List.length_append, sgL_append]; exact ho
                  obtain ⟨p1, p2⟩ := HX9.1.log.putL hg' ho' ha'; have HP : S3 w R (wb.setCell ⟨bq, 3, none⟩ (.slice (some ⟨g2, 0, none⟩) (Q2.gs.length + 1) cap2)) br bq R3' (addL Q2 (.slice (some ⟨g2, 0, none⟩) (Q2.gs.length + 1) cap2) (Q2.gs ++ [(n, (rs.length : Int), (m : Int))])) ro (.slice (some ⟨g8, 0, none⟩) l.length c8) l := HX9.1.logged p1 p2 rfl (fun b hb => by cases hb); have hne18 : b18 ≠ bq := fun e => by have h1 := ho18.2.1; rw [e, HX9.1.log.rl] at h1; cases h1
                  clear ho hg ha hg' ha' ho' p1 p2 hrow hobq; refine hK.out _ _ h18 (fun hHeld => ?_); clear hK K; try simp only [sm]
                  refine tk 8 (.pointer (some ⟨bq, 0, none⟩)) (fun wc hSw => ?_) hHeld ?_
                  · go_simp
                  simp only [sm]; refine tk 9 (.pointer (some ⟨bq, 3, none⟩)) (fun wc hSw => ?_) hHeld ?_
                  · go_simp
                  simp only [sm]; refine rd 10 (fun K hK => ?_); have m3 : wb.cell? ⟨bq, 3, none⟩ = some (.slice la Q2.gs.length lc) := by rw [cell_of_block hq3]; show some Q2.lv = _; rw [HLV.out.1]
                  have n3 : wb.frozen? ⟨bq, 3, none⟩ = false := unfrozen_of_block hq3 3; have hS10 : (wb.setCell ⟨bq, 3, none⟩ (.slice (some ⟨g2, 0, none⟩) (Q2.gs.length + 1) cap2)).heap[b18]? = some (.cells #[.int .i64 n, .int .i64 (rs.length : Nat), .int .i64 (m : Nat)] 149) := (Below.heap_setCell _ _ _ _ hne18).trans h18; have HP9 : Hid _ := HP; clear HP hHeld hq3 h18; go_simp; refine hK.out _ _ hS10 (fun hHeld => ?_); clear hK K; try simp only [sm]
                  refine wpAnyH_done (by kernel_rfl) ?_ _; clear hHeld hS10 m3 n3 c2; go_wp2; go_roundw
                  case rel =>
                   refine ⟨0 + 1, R3', _, by omega, by go_num, R3.next (v := .slice (some ⟨g2, 0, none⟩) (Q2.gs.length + 1) cap2) (rs := rs) (m := m) (Q2 := Q2) HR.out HN.out ?_ (HR4.out.frm.trans HX.out) HR4.out.nm HR4.out.mo HR4.out.rs (by have := hmb.2; have := hmb.1; omega) HST.out HLX2.out⟩; rw [← HR4.out.gs]; exact HP9.out
                  case measure => simp [intOf]; omega
                · have hal : Below wa.heap.size wa (wa.alloc (.cells #[.int .i64 n, .int .i64 (rs.length : Nat), .int .i64 (m : Nat)] 149)) := by go_grown
                  have HN9 : (wa.alloc (.cells #[.int .i64 n, .int .i64 (rs.length : Nat), .int .i64 (m : Nat)] 149)).heap[wa.heap.size]? = some (.cells #[.int .i64 n, .int .i64 (rs.length : Nat), .int .i64 (m : Nat)] 149) := heap_alloc_new _ _; have HX9 : S3 w R (wa.alloc (.cells #[.int .i64 n, .int .i64 (rs.length : Nat), .int .i64 (m : Nat)] 149)) br bq R3' Q2 ro (.slice (some ⟨g8, 0, none⟩) l.length c8) l ∧ (wa.alloc (.cells #[.int .i64 n, .int .i64 (rs.length : Nat), .int .i64 (m : Nat)] 149)).heap[bq]? = some (.cells (qC Q2) 104) := ⟨HX9.1.below hal, (hal.block bq (heap_lt HX9.2)).trans HX9.2⟩
                  have hS9 := (hal.block b18 (heap_lt hHeld)).trans hHeld; have hba : wa.heap.size ≠ b18 := fun e => by have := heap_lt hHeld; omega
                  clear hal hHeld; go_simp; refine hK.out _ _ hS9 (fun hHeld => ?_); clear hK K; try simp only [sm]
                  obtain ⟨b6, hb6⟩ : ∃ b6, wa.heap.size = b6 := ⟨_, rfl⟩
                  rw [hb6] at HN9 hba ⊢; clear hb6; generalize wa.alloc (.cells #[.int .i64 n, .int .i64 (rs.length : Nat), .int .i64 (m : Nat)] 149) = wd at hHeld HX9 HN9 hS9 ⊢; refine rd 4 (fun K hK => ?_); have dl : wd.cell? ⟨bq, 3, none⟩ = some (.slice la Q2.gs.length lc) := by rw [cell_of_block HX9.2]; show some Q2.lv = _; rw [HLV.out.1]
                  go_simp; refine hK.out _ _ hS9 (fun hHeld => ?_)
                  clear hK K; try simp only [sm]
                  refine rd 7 (fun K hK => ?_); obtain ⟨i0, hi, hz0, hz1, hz2⟩ := info92c; have hrow := HX9.1.log.segs; rw [HLV.out.1] at hrow; refine step_append_lies wd (by rfl) _ _ 102 (by rfl) 0 149 i0 _ 3 24 Tryz.underlying102 hi hz0 hz1 hz2 rfl (by decide) (.slice la Q2.gs.length lc) Q2.gs.length (sgL Q2.gs) (by rfl) hrow ⟨b6, 0, none⟩ 1 1 (sgL [(n, (rs.length : Int), (m : Int))]) (by rfl) rfl (fun i9 u hu => by rw [Addr.add_lit, Nat.zero_add, cell_of_block HN9]; simpa [sgL] using hu) (fun u hu => by simp [sgL] at hu; rcases hu with rfl | rfl | rfl <;> rfl) (by omega) (by have := HLV.out.2.1; unfold maxLen; omega) (by have := HLV.out.2.1; omega) (Nat.zero_le _) _ rfl ?_; intro g2 cap2 wb ho hg ha hlt2; have hg' : wd.grownBy wb Q2.lv.ownBlock := by rw [HLV.out.1]; exact hg
                  have ha' : (Value.slice (some ⟨g2, 0, none⟩) (Q2.gs.length + 1) cap2).ownBlock = Q2.lv.ownBlock ∨ ∀ b, (Value.slice (some ⟨g2, 0, none⟩) (Q2.gs.length + 1) cap2).ownBlock = some b → wd.heap.size ≤ b := by
                   rcases ha with ha | ha
                   · exact Or.inl (by rw [HLV.out.1, ha]; rfl)
                   · exact Or.inr (fun b hb => by have e : some g2 = some b := hb; injection e with e; omega)
                  have hobq : HX9.1.log.lt = HX9.1.log.lt := rfl; have hq3 : wb.heap[bq]? = some (.cells (qC Q2) 104) := (hg'.block bq (heap_lt HX9.2) (fun e => by have h1 := HX9.1.log.rf bq e.symm; rw [HX9.1.log.rl] at h1; cases h1)).trans HX9.2; have h18 : wb.heap[b18]? = some (.cells #[.int .i64 n, .int .i64 (rs.length : Nat), .int .i64 (m : Nat)] 149) := (hg'.block b18 (heap_lt hS9) (fun e => by have h1 := HX9.1.log.rf b18 e.symm; rw [ho18.2.1] at h1; cases h1)).trans hS9; have ho' : wb.ownsRow 0 149 3 (.slice (some ⟨g2, 0, none⟩) (Q2.gs.length + 1) cap2) (Q2.gs ++ [(n, (rs.length : Int), (m : Int))]).length (sgL (Q2.gs ++ [(n, (rs.length : Int), (m : Int))])) := by rw [List.length_append, sgL_append]; exact ho
                  obtain ⟨p1, p2⟩ := HX9.1.log.putL hg' ho' ha'; have HP : S3 w R (wb.setCell ⟨bq, 3, none⟩ (.slice (some ⟨g2, 0, none⟩) (Q2.gs.length + 1) cap2)) br bq R3' (addL Q2 (.slice (some ⟨g2, 0, none⟩) (Q2.gs.length + 1) cap2) (Q2.gs ++ [(n, (rs.length : Int), (m : Int))])) ro (.slice (some ⟨g8, 0, none⟩) l.length c8) l := HX9.1.logged p1 p2 rfl (fun b hb => by cases hb); have hne18 : b18 ≠ bq := fun e => by have h1 := ho18.2.1; rw [e, HX9.1.log.rl] at h1; cases h1
                  clear ho hg ha hg' ha' ho' p1 p2 hrow hobq; refine hK.out _ _ h18 (fun hHeld => ?_); clear hK K; try simp only [sm]
                  refine tk 8 (.pointer (some ⟨bq, 0, none⟩)) (fun wc hSw => ?_) hHeld ?_
                  · go_simp
                  simp only [sm]; refine tk 9 (.pointer (some ⟨bq, 3, none⟩)) (fun wc hSw => ?_) hHeld ?_
                  · go_simp
                  simp only [sm]; refine rd 10 (fun K hK => ?_); have m3 : wb.cell? ⟨bq, 3, none⟩ = some (.slice la Q2.gs.length lc) := by rw [cell_of_block hq3]; show some Q2.lv = _; rw [HLV.out.1]
                  have n3 : wb.frozen? ⟨bq, 3, none⟩ = false := unfrozen_of_block hq3 3; have hS10 : (wb.setCell ⟨bq, 3, none⟩ (.slice (some ⟨g2, 0, none⟩) (Q2.gs.length + 1) cap2)).heap[b18]? = some (.cells #[.int .i64 n, .int .i64 (rs.length : Nat), .int .i64 (m : Nat)] 149) := (Below.heap_setCell _ _ _ _ hne18).trans h18; have HP9 : Hid _ := HP; clear HP hHeld hq3 h18; go_simp; refine hK.out _ _ hS10 (fun hHeld => ?_); clear hK K; try simp only [sm]
                  refine wpAnyH_done (by kernel_rfl) ?_ _; clear hHeld hS10 m3 n3 c2; go_wp2; go_roundw
                  case rel =>
                   refine ⟨0 + 1, R3', _, by omega, by go_num, R3.next (v := .slice (some ⟨g2, 0, none⟩) (Q2.gs.length + 1) cap2) (rs := rs) (m := m) (Q2 := Q2) HR.out HN.out ?_ (HR4.out.frm.trans HX.out) HR4.out.nm HR4.out.mo HR4.out.rs (by have := hmb.2; have := hmb.1; omega) HST.out HLX2.out⟩; rw [← HR4.out.gs]; exact HP9.out
                  case measure => simp [intOf]; omega
              · have hlb : ((0 : Int) == (l.length : Int) - 1) = false := by simp; omega
                have HE : Hid (RpZ w br R ro most (.returned (.tuple #[.pointer none, .int .i64 34])) w9) := R3.err (A' := absQ R1) (P' := absG Q1) H4.out HL2.out HN.out (by decide) (Or.inr ⟨HC0.out, Or.inr ⟨(Or.inl (by show Q1.gs.map (·.1) = []; rw [HR.out.fs, List.take_zero])), Or.inl ⟨rfl, HBS.out.2.1, m, rs, HBS.out.1 ▸ HR4.out.took, HBS.out.1 ▸ hmlt, HBS.out.1 ▸ (by rw [hc]; decide), fun h => hla (by have h2 := h.2; rw [HLA.out] at h2; simpa using h2)⟩⟩⟩) HS9.out.s3; clear hc hla; go_wp2; go_returns; exact HE.out
            · rw [hc]
              have HE : Hid (RpZ w br R ro most (.returned (.tuple #[.pointer none, .int .i64 34])) w9) := R3.err (A' := absQ R1) (P' := absG Q1) H4.out HL2.out HN.out (by decide) (Or.inr ⟨HC0.out, Or.inr ⟨(Or.inl (by show Q1.gs.map (·.1) = []; rw [HR.out.fs, List.take_zero])), Or.inl ⟨rfl, HBS.out.2.1, m, rs, HBS.out.1 ▸ HR4.out.took, HBS.out.1 ▸ hmlt, HBS.out.1 ▸ (by rw [hc]; decide), fun h => (by rw [← HBS.out.1, hc] at h; exact absurd h.1 (by decide))⟩⟩⟩) HS9.out.s3; clear hc; go_wp2; go_returns; exact HE.out
          · have hmi : decide (((m : Nat) : Int) < bs.length) = false := by simp; omega
            have hmi2 : decide (m < bs.length) = false := by simp; omega
            have hme : m = bs.length := by omega
            have HLX : Hid (LdX (absQ R1) (absG Q1) n (l.drop (0 + 1)).isEmpty 0 (absQ R2) { absG Q1 with fs := (absG Q1).fs ++ [n], rs := (absG Q1).rs ++ rs, size := (m : Nat) }) := Or.inr ⟨HC0.out, Or.inr ⟨(Or.inl (by show Q1.gs.map (·.1) = []; rw [HR.out.fs, List.take_zero])), Or.inr ⟨m, rs, HBS.out.1 ▸ HR4.out.took, rfl, Or.inl ⟨HBS.out.1 ▸ hme, rfl, HBS.out.2.1⟩⟩⟩⟩; have HS9 : Hid _ := HR4.out.s4; have HST : Hid (R2.n ≤ R1.n + 2) := (by show R2.n ≤ R1.n + 2; have := HBS.out.2.2; omega)
            have HD9 : Hid (wr.heap[b18]? = some (.cells #[.int .i64 n, .int .i64 (rs.length : Nat), .int .i64 (m : Nat)] 149)) := HR4.out.s4.seg; clear hme; go_wp2_with fail; obtain ⟨la, lc, hlv⟩ := row_form HS9.out.s3.log.segs; have HLV : Hid (Q2.lv = .slice la Q2.gs.length lc ∧ Q2.gs.length ≤ 16 ∧ wr.heap[bq]? = some (.cells (qC Q2) 104)) := ⟨hlv, by have h1 := congrArg List.length HR.out.fs; rw [List.length_map, List.length_take] at h1; rw [HR4.out.gs]; omega, HS9.out.s3.log.log⟩
            clear hlv; refine wp_region_held_drew (S := fun w' => w'.heap[b18]? = some (.cells #[.int .i64 n, .int .i64 (rs.length : Nat), .int .i64 (m : Nat)] 149)) (by kernel_rfl) HD9.out (fun hHeld => ?_); refine tk 0 (.pointer (some ⟨bq, 0, none⟩)) (fun wr hSw => ?_) hHeld ?_
            · go_simp
            simp only [sm]; refine tk 1 (.pointer (some ⟨bq, 0, none⟩)) (fun wr hSw => ?_) hHeld ?_
            · go_simp
            simp only [sm]; refine tk 2 (.pointer (some ⟨bq, 0, none⟩)) (fun wr hSw => ?_) hHeld ?_
            · go_simp
            simp only [sm]; refine tk 3 (.pointer (some ⟨bq, 3, none⟩)) (fun wr hSw => ?_) hHeld ?_
            · go_simp
            simp only [sm]; refine tk 5 (.agg #[.int .i64 n, .int .i64 (rs.length : Nat), .int .i64 (m : Nat)]) (fun wr hSw => ?_) hHeld ?_
            · have q0 : wr.cell? ⟨b18, 0, none⟩ = some (.int .i64 n) := cell_of_block hSw 0
              have q1 : wr.cell? ⟨b18, 1, none⟩ = some (.int .i64 (rs.length : Nat)) := cell_of_block hSw 1; have q2 : wr.cell? ⟨b18, 2, none⟩ = some (.int .i64 (m : Nat)) := cell_of_block hSw 2; go_simp
            simp only [sm]; have HX9 : S3 w R wr.drew br bq R2 Q2 ro (.slice (some ⟨g8, 0, none⟩) l.length c8) l ∧ wr.drew.heap[bq]? = some (.cells (qC Q2) 104) := ⟨HS9.out.s3.below ⟨rfl, rfl, rfl, Nat.le_refl _, fun _ _ => rfl⟩, HLV.out.2.2⟩
            have ho18 := HS9.out.o18; generalize wr.drew = wa at hHeld HX9 ⊢; refine wpAnyH_ready (rs := [4, 6]) (by kernel_rfl) (by simp) ?_; refine AllReadyH.cons rfl (fun K hK => ?_) (AllReadyH.cons rfl (fun K hK => ?_) AllReadyH.nil)
            · have dl : wa.cell? ⟨bq, 3, none⟩ = some (.slice la Q2.gs.length lc) := by rw [cell_of_block HX9.2]; show some Q2.lv = _; rw [HLV.out.1]
              go_simp; refine hK.out _ _ hHeld (fun hHeld => ?_)
              clear hK K; try simp only [sm]
              refine rd 6 (fun K hK => ?_); have hal : Below wa.heap.size wa (wa.alloc (.cells #[.int .i64 n, .int .i64 (rs.length : Nat), .int .i64 (m : Nat)] 149)) := by go_grown
              have HN9 : (wa.alloc (.cells #[.int .i64 n, .int .i64 (rs.length : Nat), .int .i64 (m : Nat)] 149)).heap[wa.heap.size]? = some (.cells #[.int .i64 n, .int .i64 (rs.length : Nat), .int .i64 (m : Nat)] 149) := heap_alloc_new _ _; have HX9 : S3 w R (wa.alloc (.cells #[.int .i64 n, .int .i64 (rs.length : Nat), .int .i64 (m : Nat)] 149)) br bq R2 Q2 ro (.slice (some ⟨g8, 0, none⟩) l.length c8) l ∧ (wa.alloc (.cells #[.int .i64 n, .int .i64 (rs.length : Nat), .int .i64 (m : Nat)] 149)).heap[bq]? = some (.cells (qC Q2) 104) := ⟨HX9.1.below hal, (hal.block bq (heap_lt HX9.2)).trans HX9.2⟩
              have hS9 := (hal.block b18 (heap_lt hHeld)).trans hHeld; have hba : wa.heap.size ≠ b18 := fun e => by have := heap_lt hHeld; omega
              clear hal hHeld; go_simp; refine hK.out _ _ hS9 (fun hHeld => ?_); clear hK K; try simp only [sm]
              obtain ⟨b6, hb6⟩ : ∃ b6, wa.heap.size = b6 := ⟨_, rfl⟩
              rw [hb6] at HN9 hba ⊢; clear hb6; generalize wa.alloc (.cells #[.int .i64 n, .int .i64 (rs.length : Nat), .int .i64 (m : Nat)] 149) = wd at hHeld HX9 HN9 hS9 ⊢; refine rd 7 (fun K hK => ?_); obtain ⟨i0, hi, hz0, hz1, hz2⟩ := info92c; have hrow := HX9.1.log.segs; rw [HLV.out.1] at hrow; refine step_append_lies wd (by rfl) _ _ 102 (by rfl) 0 149 i0 _ 3 24 Tryz.underlying102 hi hz0 hz1 hz2 rfl (by decide) (.slice la Q2.gs.length lc) Q2.gs.length (sgL Q2.gs) (by rfl) hrow ⟨b6, 0, none⟩ 1 1 (sgL [(n, (rs.length : Int), (m : Int))]) (by rfl) rfl (fun i9 u hu => by rw [Addr.add_lit, Nat.zero_add, cell_of_block HN9]; simpa [sgL] using hu) (fun u hu => by simp [sgL] at hu; rcases hu with rfl | rfl | rfl <;> rfl) (by omega) (by have := HLV.out.2.1; unfold maxLen; omega) (by have := HLV.out.2.1; omega) (Nat.zero_le _) _ rfl ?_; intro g2 cap2 wb ho hg ha hlt2; have hg' : wd.grownBy wb Q2.lv.ownBlock := by rw [HLV.out.1]; exact hg
              have ha' : (Value.slice (some ⟨g2, 0, none⟩) (Q2.gs.length + 1) cap2).ownBlock = Q2.lv.ownBlock ∨ ∀ b, (Value.slice (some ⟨g2, 0, none⟩) (Q2.gs.length + 1) cap2).ownBlock = some b → wd.heap.size ≤ b := by
               rcases ha with ha | ha
               · exact Or.inl (by rw [HLV.out.1, ha]; rfl)
               · exact Or.inr (fun b hb => by have e : some g2 = some b := hb; injection e with e; omega)
              have hobq : HX9.1.log.lt = HX9.1.log.lt := rfl; have hq3 : wb.heap[bq]? = some (.cells (qC Q2) 104) := (hg'.block bq (heap_lt HX9.2) (fun e => by have h1 := HX9.1.log.rf bq e.symm; rw [HX9.1.log.rl] at h1; cases h1)).trans HX9.2; have h18 : wb.heap[b18]? = some (.cells #[.int .i64 n, .int .i64 (rs.length : Nat), .int .i64 (m : Nat)] 149) := (hg'.block b18 (heap_lt hS9) (fun e => by have h1 := HX9.1.log.rf b18 e.symm; rw [ho18.2.1] at h1; cases h1)).trans hS9; have ho' : wb.ownsRow 0 149 3 (.slice (some ⟨g2, 0, none⟩) (Q2.gs.length + 1) cap2) (Q2.gs ++ [(n, (rs.length : Int), (m : Int))]).length (sgL (Q2.gs ++ [(n, (rs.length : Int), (m : Int))])) := by rw [List.length_append, sgL_append]; exact ho
              obtain ⟨p1, p2⟩ := HX9.1.log.putL hg' ho' ha'; have HP : S3 w R (wb.setCell ⟨bq, 3, none⟩ (.slice (some ⟨g2, 0, none⟩) (Q2.gs.length + 1) cap2)) br bq R2 (addL Q2 (.slice (some ⟨g2, 0, none⟩) (Q2.gs.length + 1) cap2) (Q2.gs ++ [(n, (rs.length : Int), (m : Int))])) ro (.slice (some ⟨g8, 0, none⟩) l.length c8) l := HX9.1.logged p1 p2 rfl (fun b hb => by cases hb); have hne18 : b18 ≠ bq := fun e => by have h1 := ho18.2.1; rw [e, HX9.1.log.rl] at h1; cases h1
              clear ho hg ha hg' ha' ho' p1 p2 hrow hobq; refine hK.out _ _ h18 (fun hHeld => ?_); clear hK K; try simp only [sm]
              refine tk 8 (.pointer (some ⟨bq, 0, none⟩)) (fun wr hSw => ?_) hHeld ?_
              · go_simp
              simp only [sm]; refine tk 9 (.pointer (some ⟨bq, 3, none⟩)) (fun wr hSw => ?_) hHeld ?_
              · go_simp
              simp only [sm]; refine rd 10 (fun K hK => ?_); have m3 : wb.cell? ⟨bq, 3, none⟩ = some (.slice la Q2.gs.length lc) := by rw [cell_of_block hq3]; show some Q2.lv = _; rw [HLV.out.1]
              have n3 : wb.frozen? ⟨bq, 3, none⟩ = false := unfrozen_of_block hq3 3; have hS10 : (wb.setCell ⟨bq, 3, none⟩ (.slice (some ⟨g2, 0, none⟩) (Q2.gs.length + 1) cap2)).heap[b18]? = some (.cells #[.int .i64 n, .int .i64 (rs.length : Nat), .int .i64 (m : Nat)] 149) := (Below.heap_setCell _ _ _ _ hne18).trans h18; have HP9 : Hid _ := HP; clear HP hHeld hq3 h18; go_simp; refine hK.out _ _ hS10 (fun hHeld => ?_); clear hK K; try simp only [sm]
              refine wpAnyH_done (by kernel_rfl) ?_ _; clear hHeld hS10 m3 n3 c2; go_wp2; go_roundw
              case rel =>
               refine ⟨0 + 1, R2, _, by omega, by go_num, R3.next (v := .slice (some ⟨g2, 0, none⟩) (Q2.gs.length + 1) cap2) (rs := rs) (m := m) (Q2 := Q2) HR.out HN.out ?_ (HR4.out.frm.trans HX.out) HR4.out.nm HR4.out.mo HR4.out.rs (by have := hmb.2; have := hmb.1; omega) HST.out HLX.out⟩; rw [← HR4.out.gs]; exact HP9.out
              case measure => simp [intOf]; omega
            · have hal : Below wa.heap.size wa (wa.alloc (.cells #[.int .i64 n, .int .i64 (rs.length : Nat), .int .i64 (m : Nat)] 149)) := by go_grown
              have HN9 : (wa.alloc (.cells #[.int .i64 n, .int .i64 (rs.length : Nat), .int .i64 (m : Nat)] 149)).heap[wa.heap.size]? = some (.cells #[.int .i64 n, .int .i64 (rs.length : Nat), .int .i64 (m : Nat)] 149) := heap_alloc_new _ _; have HX9 : S3 w R (wa.alloc (.cells #[.int .i64 n, .int .i64 (rs.length : Nat), .int .i64 (m : Nat)] 149)) br bq R2 Q2 ro (.slice (some ⟨g8, 0, none⟩) l.length c8) l ∧ (wa.alloc (.cells #[.int .i64 n, .int .i64 (rs.length : Nat), .int .i64 (m : Nat)] 149)).heap[bq]? = some (.cells (qC Q2) 104) := ⟨HX9.1.below hal, (hal.block bq (heap_lt HX9.2)).trans HX9.2⟩
              have hS9 := (hal.block b18 (heap_lt hHeld)).trans hHeld; have hba : wa.heap.size ≠ b18 := fun e => by have := heap_lt hHeld; omega
              clear hal hHeld; go_simp; refine hK.out _ _ hS9 (fun hHeld => ?_); clear hK K; try simp only [sm]
              obtain ⟨b6, hb6⟩ : ∃ b6, wa.heap.size = b6 := ⟨_, rfl⟩
              rw [hb6] at HN9 hba ⊢; clear hb6; generalize wa.alloc (.cells #[.int .i64 n, .int .i64 (rs.length : Nat), .int .i64 (m : Nat)] 149) = wd at hHeld HX9 HN9 hS9 ⊢; refine rd 4 (fun K hK => ?_); have dl : wd.cell? ⟨bq, 3, none⟩ = some (.slice la Q2.gs.length lc) := by rw [cell_of_block HX9.2]; show some Q2.lv = _; rw [HLV.out.1]
              go_simp; refine hK.out _ _ hS9 (fun hHeld => ?_)
              clear hK K; try simp only [sm]
              refine rd 7 (fun K hK => ?_); obtain ⟨i0, hi, hz0, hz1, hz2⟩ := info92c; have hrow := HX9.1.log.segs; rw [HLV.out.1] at hrow; refine step_append_lies wd (by rfl) _ _ 102 (by rfl) 0 149 i0 _ 3 24 Tryz.underlying102 hi hz0 hz1 hz2 rfl (by decide) (.slice la Q2.gs.length lc) Q2.gs.length (sgL Q2.gs) (by rfl) hrow ⟨b6, 0, none⟩ 1 1 (sgL [(n, (rs.length : Int), (m : Int))]) (by rfl) rfl (fun i9 u hu => by rw [Addr.add_lit, Nat.zero_add, cell_of_block HN9]; simpa [sgL] using hu) (fun u hu => by simp [sgL] at hu; rcases hu with rfl | rfl | rfl <;> rfl) (by omega) (by have := HLV.out.2.1; unfold maxLen; omega) (by have := HLV.out.2.1; omega) (Nat.zero_le _) _ rfl ?_; intro g2 cap2 wb ho hg ha hlt2; have hg' : wd.grownBy wb Q2.lv.ownBlock := by rw [HLV.out.1]; exact hg
              have ha' : (Value.slice (some ⟨g2, 0, none⟩) (Q2.gs.length + 1) cap2).ownBlock = Q2.lv.ownBlock ∨ ∀ b, (Value.slice (some ⟨g2, 0, none⟩) (Q2.gs.length + 1) cap2).ownBlock = some b → wd.heap.size ≤ b := by
               rcases ha with ha | ha
               · exact Or.inl (by rw [HLV.out.1, ha]; rfl)
               · exact Or.inr (fun b hb => by have e : some g2 = some b := hb; injection e with e; omega)
              have hobq : HX9.1.log.lt = HX9.1.log.lt := rfl; have hq3 : wb.heap[bq]? = some (.cells (qC Q2) 104) := (hg'.block bq (heap_lt HX9.2) (fun e => by have h1 := HX9.1.log.rf bq e.symm; rw [HX9.1.log.rl] at h1; cases h1)).trans HX9.2; have h18 : wb.heap[b18]? = some (.cells #[.int .i64 n, .int .i64 (rs.length : Nat), .int .i64 (m : Nat)] 149) := (hg'.block b18 (heap_lt hS9) (fun e => by have h1 := HX9.1.log.rf b18 e.symm; rw [ho18.2.1] at h1; cases h1)).trans hS9; have ho' : wb.ownsRow 0 149 3 (.slice (some ⟨g2, 0, none⟩) (Q2.gs.length + 1) cap2) (Q2.gs ++ [(n, (rs.length : Int), (m : Int))]).length (sgL (Q2.gs ++ [(n, (rs.length : Int), (m : Int))])) := by rw [List.length_append, sgL_append]; exact ho
              obtain ⟨p1, p2⟩ := HX9.1.log.putL hg' ho' ha'; have HP : S3 w R (wb.setCell ⟨bq, 3, none⟩ (.slice (some ⟨g2, 0, none⟩) (Q2.gs.length + 1) cap2)) br bq R2 (addL Q2 (.slice (some ⟨g2, 0, none⟩) (Q2.gs.length + 1) cap2) (Q2.gs ++ [(n, (rs.length : Int), (m : Int))])) ro (.slice (some ⟨g8, 0, none⟩) l.length c8) l := HX9.1.logged p1 p2 rfl (fun b hb => by cases hb); have hne18 : b18 ≠ bq := fun e => by have h1 := ho18.2.1; rw [e, HX9.1.log.rl] at h1; cases h1
              clear ho hg ha hg' ha' ho' p1 p2 hrow hobq; refine hK.out _ _ h18 (fun hHeld => ?_); clear hK K; try simp only [sm]
              refine tk 8 (.pointer (some ⟨bq, 0, none⟩)) (fun wr hSw => ?_) hHeld ?_
              · go_simp
              simp only [sm]; refine tk 9 (.pointer (some ⟨bq, 3, none⟩)) (fun wr hSw => ?_) hHeld ?_
              · go_simp
              simp only [sm]; refine rd 10 (fun K hK => ?_); have m3 : wb.cell? ⟨bq, 3, none⟩ = some (.slice la Q2.gs.length lc) := by rw [cell_of_block hq3]; show some Q2.lv = _; rw [HLV.out.1]
              have n3 : wb.frozen? ⟨bq, 3, none⟩ = false := unfrozen_of_block hq3 3; have hS10 : (wb.setCell ⟨bq, 3, none⟩ (.slice (some ⟨g2, 0, none⟩) (Q2.gs.length + 1) cap2)).heap[b18]? = some (.cells #[.int .i64 n, .int .i64 (rs.length : Nat), .int .i64 (m : Nat)] 149) := (Below.heap_setCell _ _ _ _ hne18).trans h18; have HP9 : Hid _ := HP; clear HP hHeld hq3 h18; go_simp; refine hK.out _ _ hS10 (fun hHeld => ?_); clear hK K; try simp only [sm]
              refine wpAnyH_done (by kernel_rfl) ?_ _; clear hHeld hS10 m3 n3 c2; go_wp2; go_roundw
              case rel =>
               refine ⟨0 + 1, R2, _, by omega, by go_num, R3.next (v := .slice (some ⟨g2, 0, none⟩) (Q2.gs.length + 1) cap2) (rs := rs) (m := m) (Q2 := Q2) HR.out HN.out ?_ (HR4.out.frm.trans HX.out) HR4.out.nm HR4.out.mo HR4.out.rs (by have := hmb.2; have := hmb.1; omega) HST.out HLX.out⟩; rw [← HR4.out.gs]; exact HP9.out
              case measure => simp [intOf]; omega
       · have hq0 : ((j : Int) == 0) = false := by simp; omega
         have H6 : Hid (S3 w R w5 br bq R2 Q1 ro (.slice (some ⟨g8, 0, none⟩) l.length c8) l ∧ w5.ownsRow w4.heap.size 5 1 (.slice a16 bs.length c16) bs.length (vB bs) ∧ Q1.frm = x) := ⟨H5.out.1, H5.out.2.1, (H4.out.frm (by omega)).trans HX.out.symm⟩
         go_wp2_with fail
         obtain ⟨Qb, hQb⟩ : ∃ Qb, Qb = Q1 := ⟨_, rfl⟩
         have H6 : Hid (S3 w R w5 br bq R2 Qb ro (.slice (some ⟨g8, 0, none⟩) l.length c8) l ∧ w5.ownsRow w4.heap.size 5 1 (.slice a16 bs.length c16) bs.length (vB bs) ∧ Qb.frm = x) := hQb ▸ H6.out; have HQ : Hid (Qb.gs = Q1.gs ∧ Qb.rs = Q1.rs ∧ Qb.nm = Q1.nm ∧ Qb.most = Q1.most ∧ Qb.own = Q1.own) := (by rw [hQb]; exact ⟨rfl, rfl, rfl, rfl, rfl⟩)
         clear d5 f5 hq0 hQb; obtain ⟨w6, hw6⟩ : ∃ w6, w5 = w6 := ⟨_, rfl⟩
         rw [hw6] at H6 ⊢; clear hw6; have HJC : Hid _ := hj; have e8 : w6.cell? ⟨g8, j, none⟩ = some (.int .i64 n) := by
          obtain ⟨g, e1, e2⟩ := row_cell_i H6.out.1.row HN.out; injection e1 with e1
          injection e1 with e1 _ _
          rw [← e1] at e2; exact e2
         have d3 : w6.heap[bq]? = some (.cells (qC Qb) 104) := H6.out.1.log.log; have e5 : w6.cell? ⟨bq, 5, none⟩ = some (.int .i64 x) := by rw [cell_of_block d3]; show some (Value.int .i64 Qb.frm) = _; rw [H6.out.2.2]
         obtain ⟨ba, bc, hbv⟩ := row_form H6.out.1.log.recs; rw [HQ.out.2.1] at hbv; have e4 : w6.cell? ⟨bq, 4, none⟩ = some (.slice ba Q1.rs.length bc) := by rw [cell_of_block d3]; show some Qb.bv = _; rw [hbv]
         clear d3; by_cases heq : n = x + (Q1.rs.length : Int); rotate_left
         · have hne : (n == x + (Q1.rs.length : Int)) = false := by simpa using heq
           have hj1 : 0 < j := by
            rcases Nat.eq_zero_or_pos j with h0 | h0
            · exfalso
              have h1 := HR.out.rs; rw [h0] at h1; have h2 : x = n := by
               have h3 := HN.out; rw [h0] at h3; rw [HX.out]; cases l with
               | nil => simp at h3
               | cons a r => simpa using h3
              omega
            · exact h0
           have HE : Hid (∀ nq, RpZ w br R ro most (.returned (.tuple #[.pointer none, .int .i64 34])) (w6.drewN nq)) := fun nq => R3.err (A' := absQ R1) (P' := absG Q1) H4.out HL2.out HN.out (by decide) (Or.inr ⟨HC0.out, Or.inl ⟨fun h => (by have h9 := congrArg List.length h; have h8 : (Q1.gs.map (·.1)).length = 0 := h9; rw [HR.out.fs, List.length_take] at h8; omega), fun h => heq (by rw [h, HR.out.en hj1, HX.out]), rfl, HBS.out.2.1⟩⟩) (H6.out.1.below (below_drewN' _ _))
           clear heq; go_quiet (fail); go_wp2; go_returns; exact HE.out _
         have hne : (n == x + (Q1.rs.length : Int)) = true := by simpa using heq
         go_quiet (fail)
         have H7 : S3 w R (w6.drewN nq) br bq R2 Qb ro (.slice (some ⟨g8, 0, none⟩) l.length c8) l ∧ (w6.drewN nq).ownsRow w4.heap.size 5 1 (.slice a16 bs.length c16) bs.length (vB bs) ∧ (w6.drewN nq).cell? ⟨g8, j, none⟩ = some (.int .i64 n) := ⟨H6.out.1.below (below_drewN' _ _), ownsRow_below H6.out.2.1 (below_drewN' _ _), e8⟩
         generalize w6.drewN nq = w7 at H7 ⊢; obtain ⟨h7a, h7b, e9⟩ := H7; have H7 : Hid (S3 w R w7 br bq R2 Qb ro (.slice (some ⟨g8, 0, none⟩) l.length c8) l ∧ w7.ownsRow w4.heap.size 5 1 (.slice a16 bs.length c16) bs.length (vB bs)) := ⟨h7a, h7b⟩
         have H8 : Hid (R4 w R (w7.alloc (.cells #[.int .i64 n, .int .i64 0, .int .i64 0] 149)) br bq ro (.slice (some ⟨g8, 0, none⟩) l.length c8) l most j R2 Q1 x w7.heap.size (.slice a16 bs.length c16) bs n 0 [] Qb) := r4_start h7a h7b (fun b hb => H4.out.s3.log.fresh b hb) H5.out.2.2 HQ.out H6.out.2.2; have HEQ : Hid (n = x + (Q1.rs.length : Int)) := heq; clear h7a h7b e8 e5 e4 hne heq; have hle16 : bs.length ≤ c16 ∧ c16 ≤ 9223372036854775807 := by
          rcases id H5.out.2.1.2 with ⟨e1, h0⟩ | ⟨g, cap, cur, e1, _, _, h1, h2, _⟩
          · injection e1 with _ e2 e3
            omega
          · injection e1 with _ _ e3
            unfold maxLen at h2; omega
         have hbl : bs.length ≤ 1073741824 := by
          have h1 := HBS.out.1; rw [h1]; exact dBytes_q H4.out.s3.hb _
         have hj16 : j < 16 := by omega
         go_wp2_with fail
         obtain ⟨b18, hb18⟩ : ∃ b, w7.heap.size = b := ⟨_, rfl⟩
         rw [hb18] at H8 ⊢; clear hb18; go_loopw [21] (fun _ wq => ∃ (m : Nat) (rs : List (List Int)) (Q2 : QS), R4 w R wq br bq ro (.slice (some ⟨g8, 0, none⟩) l.length c8) l most j R2 Q1 x b18 (.slice a16 bs.length c16) bs n m rs Q2) (fun _ wq => bs.length - sgSz wq b18)
         case atStart => exact ⟨0, [], Qb, H8.out⟩
         case round =>
          obtain ⟨m, rs, Q2, hr4⟩ := hrel; have c2 : wr.cell? ⟨b18, 2, none⟩ = some (.int .i64 (m : Nat)) := by rw [cell_of_block hr4.s4.seg]; rfl
          have HR4 : Hid _ := hr4; have hmb := hr4.took.le; clear hr4; by_cases hmlt : m < bs.length
          · have hmi : ((m : Nat) : Int) < bs.length := by omega
            obtain ⟨g16, hg16⟩ : ∃ g, a16 = some ⟨g, 0, none⟩ := by
             rcases id H5.out.2.1.2 with ⟨e1, h0⟩ | ⟨g, cap, cur, e1, _⟩
             · injection e1 with _ e2 _
               omega
             · injection e1 with e1 _ _
               exact ⟨g, e1⟩
            subst hg16; have hcm : ¬ c16 = m := by omega
            have hcm2 : ¬ c16 < m := by omega
            have hcm3 : ¬ bs.length < m := by omega
            have hd : (bs.drop m).length = bs.length - m := List.length_drop; have hbvd : BytesV wr (.slice (some ⟨g16, m, none⟩) (bs.drop m).length (c16 - m)) (bs.drop m) := by
             have h1 := HR4.out.s4.bv.part m (bs.length - m) (c16 - m) (by omega); rw [List.take_of_length_le (by omega), Nat.zero_add] at h1; rw [hd]; exact h1
            have hX := rnext_any (some ⟨g16, m, none⟩) (c16 - m) (bs.drop m) hbvd (by omega) (by omega) (by omega); rw [hd] at hX; have HXX : Hid _ := hX; clear hX hbvd hd; go_wp2_with fail; refine Calls.mono HXX.out ?_; rintro e w9 ⟨v19, rfl, ho19, hb9⟩; obtain ⟨a19, c19, hv19⟩ := row_form ho19; subst hv19; have HB9 : Hid (Below wr.heap.size wr w9 ∧ w9.ownsRow wr.heap.size 5 1 (.slice a19 (nx (bs.drop m)).2.2.length c19) (nx (bs.drop m)).2.2.length (vB (nx (bs.drop m)).2.2)) := ⟨hb9, ho19⟩
            have hS9 := HR4.out.s4.below hb9; have d9 : w9.heap[bq]? = some (.cells (qC Q2) 104) := hS9.s3.log.log; have s9 : w9.heap[b18]? = some (.cells #[.int .i64 n, .int .i64 (rs.length : Nat), .int .i64 (m : Nat)] 149) := hS9.seg; have HS9 : Hid _ := hS9; have hlast : (l.drop (j + 1)).isEmpty = decide (j + 1 = l.length) := by
             by_cases hh : j + 1 = l.length
             · rw [decide_eq_true hh, List.drop_eq_nil_of_le (by omega)]
               rfl
             · rw [decide_eq_false hh]
               cases hdr : l.drop (j + 1) with
               | nil =>
                 have := List.drop_eq_nil_iff.1 hdr; omega
               | cons a r => rfl
            have HLA : Hid _ := hlast; have hne18 : b18 ≠ bq := fun e => by have h1 := hS9.o18.2.1; rw [e, hS9.s3.log.rl] at h1; cases h1
            have hsz := nx_size (bs.drop m); clear ho19 hb9 hS9 hlast; obtain ⟨rc, hrc⟩ : ∃ rc, rc = (nx (bs.drop m)).2.2 := ⟨_, rfl⟩
            obtain ⟨z, hz⟩ : ∃ z, z = (nx (bs.drop m)).2.1 := ⟨_, rfl⟩
            rw [← hz] at hsz; rw [← hrc] at HB9; rw [← hrc, ← hz]; have HRC : Hid (rc = (nx (bs.drop m)).2.2 ∧ z = (nx (bs.drop m)).2.1) := ⟨hrc, hz⟩
            clear hrc hz; rcases nx_code (bs.drop m) with hc | hc | hc
            · rw [hc]
              have HC : Hid _ := hc; clear hc; obtain ⟨ba2, bc2, hbv2⟩ := row_form HR4.out.s4.s3.log.recs; have d4 : w9.cell? ⟨bq, 4, none⟩ = some (.slice ba2 Q2.rs.length bc2) := by rw [cell_of_block d9]; show some Q2.bv = _; rw [hbv2]
              have HBV2 : Hid (Q2.bv = .slice ba2 Q2.rs.length bc2 ∧ w9.heap[bq]? = some (.cells (qC Q2) 104) ∧ w9.heap[b18]? = some (.cells #[.int .i64 n, .int .i64 (rs.length : Nat), .int .i64 (m : Nat)] 149) ∧ Q2.rs.length ≤ 1099511627776) := ⟨hbv2, d9, s9, by
               have h1 := congrArg List.length HR4.out.rs; rw [List.length_map, List.length_append, List.length_map] at h1; omega⟩
              have hrl2 : rs.length ≤ 1073741824 := by omega
              have hb10 : decide ((0 : Int) = 10) = false := by decide
              clear hbv2 d9 s9; go_wp2_with (first
               | (at_builtin
                  have hB := heap_alloc_new w9 (.cells #[.slice a19 rc.length c19] 23); have ho0 := HS9.out.s3.log.recs.alloc (.cells #[.slice a19 rc.length c19] 23); rw [HBV2.out.1] at ho0; have ho1 : (w9.alloc (.cells #[.slice a19 rc.length c19] 23)).ownsRow 0 23 1 (.slice ba2 Q2.rs.length bc2) (Q2.rs.map (·.1)).length (Q2.rs.map (·.1)) := by rw [List.length_map]; exact ho0
                  refine wpList_append_v rfl _ _ rfl 0 (.slice ba2 Q2.rs.length bc2) (Q2.rs.map (·.1)) (.slice a19 rc.length c19) ⟨_, _, _, rfl⟩ rfl ho1 w9.heap.size hB rfl (by rw [List.length_map]; exact HBV2.out.2.2.2) (Nat.zero_le _) ?_; intro v2 wv ho hg ha; have hg' : w9.grownBy wv Q2.bv.ownBlock := by rw [HBV2.out.1]; exact (World.grownBy_alloc w9 _ _).trans hg
                  have ha' : v2.ownBlock = Q2.bv.ownBlock ∨ ∀ b, v2.ownBlock = some b → w9.heap.size ≤ b := by
                   rcases ha with ha | ha
                   · exact Or.inl (by rw [HBV2.out.1]; exact ha)
                   · exact Or.inr (fun b hb => by rw [ha] at hb; injection hb with hb; simp at hb; omega)
                  have hlq : wv.heap[bq]? = some (.cells (qC Q2) 104) := (hg'.block bq (heap_lt HBV2.out.2.1) (fun e => by have := HS9.out.s3.log.rr bq e.symm; rw [HS9.out.s3.log.rl] at this; cases this)).trans HBV2.out.2.1; have hl18 : wv.heap[b18]? = some (.cells #[.int .i64 n, .int .i64 (rs.length : Nat), .int .i64 (m : Nat)] 149) := (hg'.block b18 (heap_lt HBV2.out.2.2.1) (fun e => by have := HS9.out.s3.log.rr b18 e.symm; rw [HS9.out.o18.2.1] at this; cases this)).trans HBV2.out.2.2.1; have k4 : wv.cell? ⟨bq, 4, none⟩ = some (.slice ba2 Q2.rs.length bc2) := by rw [cell_of_block hlq]; show some Q2.bv = _; rw [HBV2.out.1]
                  have f4 : wv.frozen? ⟨bq, 4, none⟩ = false := unfrozen_of_block hlq 4; have k1 : wv.cell? ⟨b18, 1, none⟩ = some (.int .i64 (rs.length : Nat)) := by rw [cell_of_block hl18]; rfl
                  have k2 : wv.cell? ⟨b18, 2, none⟩ = some (.int .i64 (m : Nat)) := by rw [cell_of_block hl18]; rfl
                  have g1 : wv.frozen? ⟨b18, 1, none⟩ = false := unfrozen_of_block hl18 1; have g2 : wv.frozen? ⟨b18, 2, none⟩ = false := unfrozen_of_block hl18 2; have H2v : Hid (w9.grownBy wv Q2.bv.ownBlock ∧ wv.ownsRow 0 23 1 v2 (Q2.rs ++ [(Value.slice a19 rc.length c19, rc)]).length ((Q2.rs ++ [(Value.slice a19 rc.length c19, rc)]).map (·.1)) ∧ (v2.ownBlock = Q2.bv.ownBlock ∨ ∀ b, v2.ownBlock = some b → w9.heap.size ≤ b)) := ⟨hg', by rw [vmap_append]; simpa using ho, ha'⟩
                  obtain ⟨va2, vc2, hv2⟩ := row_form ho; simp only [List.length_append, List.length_map, List.length_cons, List.length_nil, Nat.zero_add] at hv2; subst hv2; clear ho hg ha hg' ha' hB ho0 ho1 hlq hl18))
              have hrc := HRC.out.1; have hz' := HRC.out.2; subst hrc; subst hz'; have hN := R4.next HR4.out hmlt HC.out HB9.out.1 HB9.out.2 H2v.out.1 H2v.out.2.1 H2v.out.2.2 ((rs.length : Int) + 1) ((m : Int) + ((nx (bs.drop m)).2.1 : Nat)) rfl rfl; refine ⟨⟨_, _, _, hN⟩, ?_⟩; rw [hN.size, HR4.out.size]; have hnk := nx_ok HC.out; omega
            · rw [hc]
              by_cases hla : j + 1 = l.length
              · have hlb : ((j : Int) == (l.length : Int) - 1) = true := by simp; omega
                have HLX : Hid (LdX (absQ R1) (absG Q1) n (l.drop (j + 1)).isEmpty (dTru (absQ R2) (fileB logB n) (m : Nat)).1 (dTru (absQ R2) (fileB logB n) (m : Nat)).2 { absG Q1 with fs := (absG Q1).fs ++ [n], rs := (absG Q1).rs ++ rs, size := (m : Nat) }) := Or.inr ⟨HC0.out, Or.inr ⟨(Or.inr (by rw [HR.out.en (Nat.pos_of_ne_zero hj0), ← HX.out]; exact HEQ.out)), Or.inr ⟨m, rs, HBS.out.1 ▸ HR4.out.took, rfl, Or.inr ⟨HBS.out.1 ▸ hmlt, HBS.out.1 ▸ hc, by rw [HLA.out]; simpa using hla, by rw [HBS.out.2.1], by rw [HBS.out.2.1]⟩⟩⟩⟩; have k2 : w9.cell? ⟨b18, 2, none⟩ = some (.int .i64 (m : Nat)) := by rw [cell_of_block s9]; rfl
                have e9' : w9.cell? ⟨g8, j, none⟩ = some (.int .i64 n) := by
                 obtain ⟨g, e1, e2⟩ := row_cell_i HS9.out.s3.row HN.out; injection e1 with e1
                 injection e1 with e1 _ _
                 rw [← e1] at e2; exact e2
                have HD9 : Hid (w9.heap[b18]? = some (.cells #[.int .i64 n, .int .i64 (rs.length : Nat), .int .i64 (m : Nat)] 149)) := s9; clear hc hla d9 s9; go_wp2_with fail; refine wp_region_held_drew (S := fun w' => w'.cell? ⟨g8, j, none⟩ = some (.int .i64 n) ∧ w'.cell? ⟨b18, 2, none⟩ = some (.int .i64 (m : Nat))) (by kernel_rfl) ⟨e9', k2⟩ (fun hHeld => ?_); refine tk 0 (.pointer (some ⟨br, 0, none⟩)) (fun w9 hSw => ?_) hHeld ?_
                · go_simp
                simp only [sm]; refine tk 1 (.string logB) (fun w9 hSw => ?_) hHeld ?_
                · go_simp
                simp only [sm]; refine tk 2 (.slice (some ⟨g8, 0, none⟩) l.length c8) (fun w9 hSw => ?_) hHeld ?_
                · go_simp
                simp only [sm]; refine tk 3 (.int .i64 (j : Nat)) (fun w9 hSw => ?_) hHeld ?_
                · go_simp
                simp only [sm]; refine tk 4 (.pointer (some ⟨g8, j, none⟩)) (fun w9 hSw => ?_) hHeld ?_
                · go_simp
                simp only [sm]; refine tk 5 (.int .i64 n) (fun w9 hSw => ?_) hHeld ?_
                · have hc := hSw.1
                  go_simp
                simp only [sm]; refine tk 7 (.pointer (some ⟨b18, 2, none⟩)) (fun w9 hSw => ?_) hHeld ?_
                · go_simp
                simp only [sm]; refine tk 8 (.int .i64 (m : Nat)) (fun w9 hSw => ?_) hHeld ?_
                · have hc := hSw.2
                  go_simp
                simp only [sm]; have HX9 : S4 w R w9.drew br bq R2 Q2 ro (.slice (some ⟨g8, 0, none⟩) l.length c8) l b18 (.slice (some ⟨g16, 0, none⟩) bs.length c16) bs (n, (rs.length : Int), (m : Int)) := HS9.out.below ⟨rfl, rfl, rfl, Nat.le_refl _, fun _ _ => rfl⟩; generalize w9.drew = wa at hHeld HX9 ⊢; refine rd 6 (fun K hK => ?_); go_simp; refine Calls.mono (rfile_any logB (by decide) n) ?_; rintro e wb ⟨rfl, hbb⟩; have HXb := HX9.below hbb; have hSb : wb.cell? ⟨g8, j, none⟩ = some (.int .i64 n) ∧ wb.cell? ⟨b18, 2, none⟩ = some (.int .i64 (m : Nat)) := ⟨(hbb.cell (p := ⟨g8, j, none⟩) (cell_lt hHeld.1)).trans hHeld.1, (hbb.cell (p := ⟨b18, 2, none⟩) (cell_lt hHeld.2)).trans hHeld.2⟩
                clear hHeld HX9 hbb; go_wp2_with fail; refine hK.out _ _ hSb (fun hHeld => ?_); clear hK K; try simp only [sm]
                refine rd 9 (fun K hK => ?_); go_simp; refine Calls.mono (trunc_q HXb.s3 (by have h1 := HBS.out.2.2; have h2 := HR.out.n; have h3 := HRN.out; omega) n (m : Nat)) ?_; rintro e wc ⟨R3', rfl, hs3, hab, hnn, hFr⟩; have hseg : wc.heap[b18]? = some (.cells #[.int .i64 n, .int .i64 (rs.length : Nat), .int .i64 (m : Nat)] 149) := (hFr.block b18 (heap_lt HXb.seg) HXb.o18.1).trans HXb.seg; have HT : Hid (S3 w R wc br bq R3' Q2 ro (.slice (some ⟨g8, 0, none⟩) l.length c8) l ∧ absQ R3' = (dTru (absQ R2) (fileB logB n) (m : Nat)).2 ∧ wc.heap[b18]? = some (.cells #[.int .i64 n, .int .i64 (rs.length : Nat), .int .i64 (m : Nat)] 149) ∧ R3'.own b18 = 0 ∧ Q2.own b18 = 0) := ⟨hs3, hab, hseg, hFr.own b18 (heap_lt HXb.seg) HXb.o18.1, HXb.o18.2.1⟩
                have HST : Hid (R3'.n ≤ R1.n + 2) := (by show R3'.n ≤ R1.n + 2; have := HBS.out.2.2; omega)
                have hSc : wc.cell? ⟨g8, j, none⟩ = some (.int .i64 n) ∧ wc.cell? ⟨b18, 2, none⟩ = some (.int .i64 (m : Nat)) := ⟨by
                 obtain ⟨g, e1, e2⟩ := row_cell_i hs3.row HN.out; injection e1 with e1
                 injection e1 with e1 _ _
                 rw [← e1] at e2; exact e2, by rw [cell_of_block hseg]; rfl⟩
                obtain ⟨c, hcc⟩ : ∃ c, c = (dTru (absQ R2) (fileB logB n) (m : Nat)).1 := ⟨_, rfl⟩
                rw [← hcc]; have HCC : Hid _ := hcc; clear hs3 hab hnn hFr hseg hSb HXb hHeld hcc; go_wp2_with fail; refine hK.out _ _ hSc (fun hHeld => ?_); clear hK K; try simp only [sm]
                refine tk 10 (.int .i64 c) (fun w9 hSw => ?_) hHeld ?_
                · go_simp
                simp only [sm]; refine wpAnyH_done (by kernel_rfl) ?_ _; clear hHeld hSc; by_cases hc0 : c = 0; rotate_left
                · have hc1 : (c == 0) = false := by simpa using hc0
                  have HE : Hid (RpZ w br R ro most (.returned (.tuple #[.pointer none, .int .i64 c])) wc) := R3.err (A' := absQ R1) H4.out HL2.out HN.out hc0 (by rw [HCC.out, HT.out.2.1]; exact HLX.out) HT.out.1; clear hc0; go_wp2; go_returns; exact HE.out
                subst hc0; have HLX2 : Hid (LdX (absQ R1) (absG Q1) n (l.drop (j + 1)).isEmpty 0 (absQ R3') { absG Q1 with fs := (absG Q1).fs ++ [n], rs := (absG Q1).rs ++ rs, size := (m : Nat) }) := (by rw [HT.out.2.1]; have h1 := HLX.out; rw [← HCC.out] at h1; exact h1)
                go_wp2_with fail
                obtain ⟨la, lc, hlv⟩ := row_form HT.out.1.log.segs; have HLV : Hid (Q2.lv = .slice la Q2.gs.length lc ∧ Q2.gs.length ≤ 16 ∧ wc.heap[bq]? = some (.cells (qC Q2) 104)) := ⟨hlv, by have h1 := congrArg List.length HR.out.fs; rw [List.length_map, List.length_take] at h1; rw [HR4.out.gs]; omega, HT.out.1.log.log⟩
                clear hlv; refine wp_region_held_drew (S := fun w' => w'.heap[b18]? = some (.cells #[.int .i64 n, .int .i64 (rs.length : Nat), .int .i64 (m : Nat)] 149)) (by kernel_rfl) HT.out.2.2.1 (fun hHeld => ?_); refine tk 0 (.pointer (some ⟨bq, 0, none⟩)) (fun wc hSw => ?_) hHeld ?_
                · go_simp
                simp only [sm]; refine tk 1 (.pointer (some ⟨bq, 0, none⟩)) (fun wc hSw => ?_) hHeld ?_
                · go_simp
                simp only [sm]; refine tk 2 (.pointer (some ⟨bq, 0, none⟩)) (fun wc hSw => ?_) hHeld ?_
                · go_simp
                simp only [sm]; refine tk 3 (.pointer (some ⟨bq, 3, none⟩)) (fun wc hSw => ?_) hHeld ?_
                · go_simp
                simp only [sm]; refine tk 5 (.agg #[.int .i64 n, .int .i64 (rs.length : Nat), .int .i64 (m : Nat)]) (fun wc hSw => ?_) hHeld ?_
                · have q0 : wc.cell? ⟨b18, 0, none⟩ = some (.int .i64 n) := cell_of_block hSw 0
                  have q1 : wc.cell? ⟨b18, 1, none⟩ = some (.int .i64 (rs.length : Nat)) := cell_of_block hSw 1; have q2 : wc.cell? ⟨b18, 2, none⟩ = some (.int .i64 (m : Nat)) := cell_of_block hSw 2; go_simp
                simp only [sm]; have HX9 : S3 w R wc.drew br bq R3' Q2 ro (.slice (some ⟨g8, 0, none⟩) l.length c8) l ∧ wc.drew.heap[bq]? = some (.cells (qC Q2) 104) := ⟨HT.out.1.below ⟨rfl, rfl, rfl, Nat.le_refl _, fun _ _ => rfl⟩, HLV.out.2.2⟩
                have ho18 : R3'.own b18 = 0 ∧ Q2.own b18 = 0 ∧ True := ⟨HT.out.2.2.2.1, HT.out.2.2.2.2, trivial⟩
                generalize wc.drew = wa at hHeld HX9 ⊢; refine wpAnyH_ready (rs := [4, 6]) (by kernel_rfl) (by simp) ?_; refine AllReadyH.cons rfl (fun K hK => ?_) (AllReadyH.cons rfl (fun K hK => ?_) AllReadyH.nil)
                · have dl : wa.cell? ⟨bq, 3, none⟩ = some (.slice la Q2.gs.length lc) := by rw [cell_of_block HX9.2]; show some Q2.lv = _; rw [HLV.out.1]
                  go_simp; refine hK.out _ _ hHeld (fun hHeld => ?_)
                  clear hK K; try simp only [sm]
                  refine rd 6 (fun K hK => ?_); have hal : Below wa.heap.size wa (wa.alloc (.cells #[.int .i64 n, .int .i64 (rs.length : Nat), .int .i64 (m : Nat)] 149)) := by go_grown
                  have HN9 : (wa.alloc (.cells #[.int .i64 n, .int .i64 (rs.length : Nat), .int .i64 (m : Nat)] 149)).heap[wa.heap.size]? = some (.cells #[.int .i64 n, .int .i64 (rs.length : Nat), .int .i64 (m : Nat)] 149) := heap_alloc_new _ _; have HX9 : S3 w R (wa.alloc (.cells #[.int .i64 n, .int .i64 (rs.length : Nat), .int .i64 (m : Nat)] 149)) br bq R3' Q2 ro (.slice (some ⟨g8, 0, none⟩) l.length c8) l ∧ (wa.alloc (.cells #[.int .i64 n, .int .i64 (rs.length : Nat), .int .i64 (m : Nat)] 149)).heap[bq]? = some (.cells (qC Q2) 104) := ⟨HX9.1.below hal, (hal.block bq (heap_lt HX9.2)).trans HX9.2⟩
                  have hS9 := (hal.block b18 (heap_lt hHeld)).trans hHeld; have hba : wa.heap.size ≠ b18 := fun e => by have := heap_lt hHeld; omega
                  clear hal hHeld; go_simp; refine hK.out _ _ hS9 (fun hHeld => ?_); clear hK K; try simp only [sm]
                  obtain ⟨b6, hb6⟩ : ∃ b6, wa.heap.size = b6 := ⟨_, rfl⟩
                  rw [hb6] at HN9 hba ⊢; clear hb6; generalize wa.alloc (.cells #[.int .i64 n, .int .i64 (rs.length : Nat), .int .i64 (m : Nat)] 149) = wd at hHeld HX9 HN9 hS9 ⊢; refine rd 7 (fun K hK => ?_); obtain ⟨i0, hi, hz0, hz1, hz2⟩ := info92c; have hrow := HX9.1.log.segs; rw [HLV.out.1] at hrow; refine step_append_lies wd (by rfl) _ _ 102 (by rfl) 0 149 i0 _ 3 24 Tryz.underlying102 hi hz0 hz1 hz2 rfl (by decide) (.slice la Q2.gs.length lc) Q2.gs.length (sgL Q2.gs) (by rfl) hrow ⟨b6, 0, none⟩ 1 1 (sgL [(n, (rs.length : Int), (m : Int))]) (by rfl) rfl (fun i9 u hu => by rw [Addr.add_lit, Nat.zero_add, cell_of_block HN9]; simpa [sgL] using hu) (fun u hu => by simp [sgL] at hu; rcases hu with rfl | rfl | rfl <;> rfl) (by omega) (by have := HLV.out.2.1; unfold maxLen; omega) (by have := HLV.out.2.1; omega) (Nat.zero_le _) _ rfl ?_; intro g2 cap2 wb ho hg ha hlt2; have hg' : wd.grownBy wb Q2.lv.ownBlock := by rw [HLV.out.1]; exact hg
                  have ha' : (Value.slice (some ⟨g2, 0, none⟩) (Q2.gs.length + 1) cap2).ownBlock = Q2.lv.ownBlock ∨ ∀ b, (Value.slice (some ⟨g2, 0, none⟩) (Q2.gs.length + 1) cap2).ownBlock = some b → wd.heap.size ≤ b := by
                   rcases ha with ha | ha
                   · exact Or.inl (by rw [HLV.out.1, ha]; rfl)
                   · exact Or.inr (fun b hb => by have e : some g2 = some b := hb; injection e with e; omega)
                  have hobq : HX9.1.log.lt = HX9.1.log.lt := rfl; have hq3 : wb.heap[bq]? = some (.cells (qC Q2) 104) := (hg'.block bq (heap_lt HX9.2) (fun e => by have h1 := HX9.1.log.rf bq e.symm; rw [HX9.1.log.rl] at h1; cases h1)).trans HX9.2; have h18 : wb.heap[b18]? = some (.cells #[.int .i64 n, .int .i64 (rs.length : Nat), .int .i64 (m : Nat)] 149) := (hg'.block b18 (heap_lt hS9) (fun e => by have h1 := HX9.1.log.rf b18 e.symm; rw [ho18.2.1] at h1; cases h1)).trans hS9; have ho' : wb.ownsRow 0 149 3 (.slice (some ⟨g2, 0, none⟩) (Q2.gs.length + 1) cap2) (Q2.gs ++ [(n, (rs.length : Int), (m : Int))]).length (sgL (Q2.gs ++ [(n, (rs.length : Int), (m : Int))])) := by rw [List.length_append, sgL_append]; exact ho
                  obtain ⟨p1, p2⟩ := HX9.1.log.putL hg' ho' ha'; have HP : S3 w R (wb.setCell ⟨bq, 3, none⟩ (.slice (some ⟨g2, 0, none⟩) (Q2.gs.length + 1) cap2)) br bq R3' (addL Q2 (.slice (some ⟨g2, 0, none⟩) (Q2.gs.length + 1) cap2) (Q2.gs ++ [(n, (rs.length : Int), (m : Int))])) ro (.slice (some ⟨g8, 0, none⟩) l.length c8) l := HX9.1.logged p1 p2 rfl (fun b hb => by cases hb); have hne18 : b18 ≠ bq := fun e => by have h1 := ho18.2.1; rw [e, HX9.1.log.rl] at h1; cases h1
                  clear ho hg ha hg' ha' ho' p1 p2 hrow hobq; refine hK.out _ _ h18 (fun hHeld => ?_); clear hK K; try simp only [sm]
                  refine tk 8 (.pointer (some ⟨bq, 0, none⟩)) (fun wc hSw => ?_) hHeld ?_
                  · go_simp
                  simp only [sm]; refine tk 9 (.pointer (some ⟨bq, 3, none⟩)) (fun wc hSw => ?_) hHeld ?_
                  · go_simp
                  simp only [sm]; refine rd 10 (fun K hK => ?_); have m3 : wb.cell? ⟨bq, 3, none⟩ = some (.slice la Q2.gs.length lc) := by rw [cell_of_block hq3]; show some Q2.lv = _; rw [HLV.out.1]
                  have n3 : wb.frozen? ⟨bq, 3, none⟩ = false := unfrozen_of_block hq3 3; have hS10 : (wb.setCell ⟨bq, 3, none⟩ (.slice (some ⟨g2, 0, none⟩) (Q2.gs.length + 1) cap2)).heap[b18]? = some (.cells #[.int .i64 n, .int .i64 (rs.length : Nat), .int .i64 (m : Nat)] 149) := (Below.heap_setCell _ _ _ _ hne18).trans h18; have HP9 : Hid _ := HP; clear HP hHeld hq3 h18; go_simp; refine hK.out _ _ hS10 (fun hHeld => ?_); clear hK K; try simp only [sm]
                  refine wpAnyH_done (by kernel_rfl) ?_ _; clear hHeld hS10 m3 n3 c2; go_wp2; go_roundw
                  case rel =>
                   refine ⟨j + 1, R3', _, by omega, by go_num, R3.next (v := .slice (some ⟨g2, 0, none⟩) (Q2.gs.length + 1) cap2) (rs := rs) (m := m) (Q2 := Q2) HR.out HN.out ?_ (HR4.out.frm.trans HX.out) HR4.out.nm HR4.out.mo HR4.out.rs (by have := hmb.2; have := hmb.1; omega) HST.out HLX2.out⟩; rw [← HR4.out.gs]; exact HP9.out
                  case measure => simp [intOf]; omega
                · have hal : Below wa.heap.size wa (wa.alloc (.cells #[.int .i64 n, .int .i64 (rs.length : Nat), .int .i64 (m : Nat)] 149)) := by go_grown
                  have HN9 : (wa.alloc (.cells #[.int .i64 n, .int .i64 (rs.length : Nat), .int .i64 (m : Nat)] 149)).heap[wa.heap.size]? = some (.cells #[.int .i64 n, .int .i64 (rs.length : Nat), .int .i64 (m : Nat)] 149) := heap_alloc_new _ _; have HX9 : S3 w R (wa.alloc (.cells #[.int .i64 n, .int .i64 (rs.length : Nat), .int .i64 (m : Nat)] 149)) br bq R3' Q2 ro (.slice (some ⟨g8, 0, none⟩) l.length c8) l ∧ (wa.alloc (.cells #[.int .i64 n, .int .i64 (rs.length : Nat), .int .i64 (m : Nat)] 149)).heap[bq]? = some (.cells (qC Q2) 104) := ⟨HX9.1.below hal, (hal.block bq (heap_lt HX9.2)).trans HX9.2⟩
                  have hS9 := (hal.block b18 (heap_lt hHeld)).trans hHeld; have hba : wa.heap.size ≠ b18 := fun e => by have := heap_lt hHeld; omega
                  clear hal hHeld; go_simp; refine hK.out _ _ hS9 (fun hHeld => ?_); clear hK K; try simp only [sm]
                  obtain ⟨b6, hb6⟩ : ∃ b6, wa.heap.size = b6 := ⟨_, rfl⟩
                  rw [hb6] at HN9 hba ⊢; clear hb6; generalize wa.alloc (.cells #[.int .i64 n, .int .i64 (rs.length : Nat), .int .i64 (m : Nat)] 149) = wd at hHeld HX9 HN9 hS9 ⊢; refine rd 4 (fun K hK => ?_); have dl : wd.cell? ⟨bq, 3, none⟩ = some (.slice la Q2.gs.length lc) := by rw [cell_of_block HX9.2]; show some Q2.lv = _; rw [HLV.out.1]
                  go_simp; refine hK.out _ _ hS9 (fun hHeld => ?_)
                  clear hK K; try simp only [sm]
                  refine rd 7 (fun K hK => ?_); obtain ⟨i0, hi, hz0, hz1, hz2⟩ := info92c; have hrow := HX9.1.log.segs; rw [HLV.out.1] at hrow; refine step_append_lies wd (by rfl) _ _ 102 (by rfl) 0 149 i0 _ 3 24 Tryz.underlying102 hi hz0 hz1 hz2 rfl (by decide) (.slice la Q2.gs.length lc) Q2.gs.length (sgL Q2.gs) (by rfl) hrow ⟨b6, 0, none⟩ 1 1 (sgL [(n, (rs.length : Int), (m : Int))]) (by rfl) rfl (fun i9 u hu => by rw [Addr.add_lit, Nat.zero_add, cell_of_block HN9]; simpa [sgL] using hu) (fun u hu => by simp [sgL] at hu; rcases hu with rfl | rfl | rfl <;> rfl) (by omega) (by have := HLV.out.2.1; unfold maxLen; omega) (by have := HLV.out.2.1; omega) (Nat.zero_le _) _ rfl ?_; intro g2 cap2 wb ho hg ha hlt2; have hg' : wd.grownBy wb Q2.lv.ownBlock := by rw [HLV.out.1]; exact hg
                  have ha' : (Value.slice (some ⟨g2, 0, none⟩) (Q2.gs.length + 1) cap2).ownBlock = Q2.lv.ownBlock ∨ ∀ b, (Value.slice (some ⟨g2, 0, none⟩) (Q2.gs.length + 1) cap2).ownBlock = some b → wd.heap.size ≤ b := by
                   rcases ha with ha | ha
                   · exact Or.inl (by rw [HLV.out.1, ha]; rfl)
                   · exact Or.inr (fun b hb => by have e : some g2 = some b := hb; injection e with e; omega)
                  have hobq : HX9.1.log.lt = HX9.1.log.lt := rfl; have hq3 : wb.heap[bq]? = some (.cells (qC Q2) 104) := (hg'.block bq (heap_lt HX9.2) (fun e => by have h1 := HX9.1.log.rf bq e.symm; rw [HX9.1.log.rl] at h1; cases h1)).trans HX9.2; have h18 : wb.heap[b18]? = some (.cells #[.int .i64 n, .int .i64 (rs.length : Nat), .int .i64 (m : Nat)] 149) := (hg'.block b18 (heap_lt hS9) (fun e => by have h1 := HX9.1.log.rf b18 e.symm; rw [ho18.2.1] at h1; cases h1)).trans hS9; have ho' : wb.ownsRow 0 149 3 (.slice (some ⟨g2, 0, none⟩) (Q2.gs.length + 1) cap2) (Q2.gs ++ [(n, (rs.length : Int), (m : Int))]).length (sgL (Q2.gs ++ [(n, (rs.length : Int), (m : Int))])) := by rw [List.length_append, sgL_append]; exact ho
                  obtain ⟨p1, p2⟩ := HX9.1.log.putL hg' ho' ha'; have HP : S3 w R (wb.setCell ⟨bq, 3, none⟩ (.slice (some ⟨g2, 0, none⟩) (Q2.gs.length + 1) cap2)) br bq R3' (addL Q2 (.slice (some ⟨g2, 0, none⟩) (Q2.gs.length + 1) cap2) (Q2.gs ++ [(n, (rs.length : Int), (m : Int))])) ro (.slice (some ⟨g8, 0, none⟩) l.length c8) l := HX9.1.logged p1 p2 rfl (fun b hb => by cases hb); have hne18 : b18 ≠ bq := fun e => by have h1 := ho18.2.1; rw [e, HX9.1.log.rl] at h1; cases h1
                  clear ho hg ha hg' ha' ho' p1 p2 hrow hobq; refine hK.out _ _ h18 (fun hHeld => ?_); clear hK K; try simp only [sm]
                  refine tk 8 (.pointer (some ⟨bq, 0, none⟩)) (fun wc hSw => ?_) hHeld ?_
                  · go_simp
                  simp only [sm]; refine tk 9 (.pointer (some ⟨bq, 3, none⟩)) (fun wc hSw => ?_) hHeld ?_
                  · go_simp
                  simp only [sm]; refine rd 10 (fun K hK => ?_); have m3 : wb.cell? ⟨bq, 3, none⟩ = some (.slice la Q2.gs.length lc) := by rw [cell_of_block hq3]; show some Q2.lv = _; rw [HLV.out.1]
                  have n3 : wb.frozen? ⟨bq, 3, none⟩ = false := unfrozen_of_block hq3 3; have hS10 : (wb.setCell ⟨bq, 3, none⟩ (.slice (some ⟨g2, 0, none⟩) (Q2.gs.length + 1) cap2)).heap[b18]? = some (.cells #[.int .i64 n, .int .i64 (rs.length : Nat), .int .i64 (m : Nat)] 149) := (Below.heap_setCell _ _ _ _ hne18).trans h18; have HP9 : Hid _ := HP; clear HP hHeld hq3 h18; go_simp; refine hK.out _ _ hS10 (fun hHeld => ?_); clear hK K; try simp only [sm]
                  refine wpAnyH_done (by kernel_rfl) ?_ _; clear hHeld hS10 m3 n3 c2; go_wp2; go_roundw
                  case rel =>
                   refine ⟨j + 1, R3', _, by omega, by go_num, R3.next (v := .slice (some ⟨g2, 0, none⟩) (Q2.gs.length + 1) cap2) (rs := rs) (m := m) (Q2 := Q2) HR.out HN.out ?_ (HR4.out.frm.trans HX.out) HR4.out.nm HR4.out.mo HR4.out.rs (by have := hmb.2; have := hmb.1; omega) HST.out HLX2.out⟩; rw [← HR4.out.gs]; exact HP9.out
                  case measure => simp [intOf]; omega
              · have hlb : ((j : Int) == (l.length : Int) - 1) = false := by simp; omega
                have HE : Hid (RpZ w br R ro most (.returned (.tuple #[.pointer none, .int .i64 34])) w9) := R3.err (A' := absQ R1) (P' := absG Q1) H4.out HL2.out HN.out (by decide) (Or.inr ⟨HC0.out, Or.inr ⟨(Or.inr (by rw [HR.out.en (Nat.pos_of_ne_zero hj0), ← HX.out]; exact HEQ.out)), Or.inl ⟨rfl, HBS.out.2.1, m, rs, HBS.out.1 ▸ HR4.out.took, HBS.out.1 ▸ hmlt, HBS.out.1 ▸ (by rw [hc]; decide), fun h => hla (by have h2 := h.2; rw [HLA.out] at h2; simpa using h2)⟩⟩⟩) HS9.out.s3; clear hc hla; go_wp2; go_returns; exact HE.out
            · rw [hc]
              have HE : Hid (RpZ w br R ro most (.returned (.tuple #[.pointer none, .int .i64 34])) w9) := R3.err (A' := absQ R1) (P' := absG Q1) H4.out HL2.out HN.out (by decide) (Or.inr ⟨HC0.out, Or.inr ⟨(Or.inr (by rw [HR.out.en (Nat.pos_of_ne_zero hj0), ← HX.out]; exact HEQ.out)), Or.inl ⟨rfl, HBS.out.2.1, m, rs, HBS.out.1 ▸ HR4.out.took, HBS.out.1 ▸ hmlt, HBS.out.1 ▸ (by rw [hc]; decide), fun h => (by rw [← HBS.out.1, hc] at h; exact absurd h.1 (by decide))⟩⟩⟩) HS9.out.s3; clear hc; go_wp2; go_returns; exact HE.out
          · have hmi : decide (((m : Nat) : Int) < bs.length) = false := by simp; omega
            have hmi2 : decide (m < bs.length) = false := by simp; omega
            have hme : m = bs.length := by omega
            have HLX : Hid (LdX (absQ R1) (absG Q1) n (l.drop (j + 1)).isEmpty 0 (absQ R2) { absG Q1 with fs := (absG Q1).fs ++ [n], rs := (absG Q1).rs ++ rs, size := (m : Nat) }) := Or.inr ⟨HC0.out, Or.inr ⟨(Or.inr (by rw [HR.out.en (Nat.pos_of_ne_zero hj0), ← HX.out]; exact HEQ.out)), Or.inr ⟨m, rs, HBS.out.1 ▸ HR4.out.took, rfl, Or.inl ⟨HBS.out.1 ▸ hme, rfl, HBS.out.2.1⟩⟩⟩⟩; have HS9 : Hid _ := HR4.out.s4; have HST : Hid (R2.n ≤ R1.n + 2) := (by show R2.n ≤ R1.n + 2; have := HBS.out.2.2; omega)
            have HD9 : Hid (wr.heap[b18]? = some (.cells #[.int .i64 n, .int .i64 (rs.length : Nat), .int .i64 (m : Nat)] 149)) := HR4.out.s4.seg; clear hme; go_wp2_with fail; obtain ⟨la, lc, hlv⟩ := row_form HS9.out.s3.log.segs; have HLV : Hid (Q2.lv = .slice la Q2.gs.length lc ∧ Q2.gs.length ≤ 16 ∧ wr.heap[bq]? = some (.cells (qC Q2) 104)) := ⟨hlv, by have h1 := congrArg List.length HR.out.fs; rw [List.length_map, List.length_take] at h1; rw [HR4.out.gs]; omega, HS9.out.s3.log.log⟩
            clear hlv; refine wp_region_held_drew (S := fun w' => w'.heap[b18]? = some (.cells #[.int .i64 n, .int .i64 (rs.length : Nat), .int .i64 (m : Nat)] 149)) (by kernel_rfl) HD9.out (fun hHeld => ?_); refine tk 0 (.pointer (some ⟨bq, 0, none⟩)) (fun wr hSw => ?_) hHeld ?_
            · go_simp
            simp only [sm]; refine tk 1 (.pointer (some ⟨bq, 0, none⟩)) (fun wr hSw => ?_) hHeld ?_
            · go_simp
            simp only [sm]; refine tk 2 (.pointer (some ⟨bq, 0, none⟩)) (fun wr hSw => ?_) hHeld ?_
            · go_simp
            simp only [sm]; refine tk 3 (.pointer (some ⟨bq, 3, none⟩)) (fun wr hSw => ?_) hHeld ?_
            · go_simp
            simp only [sm]; refine tk 5 (.agg #[.int .i64 n, .int .i64 (rs.length : Nat), .int .i64 (m : Nat)]) (fun wr hSw => ?_) hHeld ?_
            · have q0 : wr.cell? ⟨b18, 0, none⟩ = some (.int .i64 n) := cell_of_block hSw 0
              have q1 : wr.cell? ⟨b18, 1, none⟩ = some (.int .i64 (rs.length : Nat)) := cell_of_block hSw 1; have q2 : wr.cell? ⟨b18, 2, none⟩ = some (.int .i64 (m : Nat)) := cell_of_block hSw 2; go_simp
            simp only [sm]; have HX9 : S3 w R wr.drew br bq R2 Q2 ro (.slice (some ⟨g8, 0, none⟩) l.length c8) l ∧ wr.drew.heap[bq]? = some (.cells (qC Q2) 104) := ⟨HS9.out.s3.below ⟨rfl, rfl, rfl, Nat.le_refl _, fun _ _ => rfl⟩, HLV.out.2.2⟩
            have ho18 := HS9.out.o18; generalize wr.drew = wa at hHeld HX9 ⊢; refine wpAnyH_ready (rs := [4, 6]) (by kernel_rfl) (by simp) ?_; refine AllReadyH.cons rfl (fun K hK => ?_) (AllReadyH.cons rfl (fun K hK => ?_) AllReadyH.nil)
            · have dl : wa.cell? ⟨bq, 3, none⟩ = some (.slice la Q2.gs.length lc) := by rw [cell_of_block HX9.2]; show some Q2.lv = _; rw [HLV.out.1]
              go_simp; refine hK.out _ _ hHeld (fun hHeld => ?_)
              clear hK K; try simp only [sm]
              refine rd 6 (fun K hK => ?_); have hal : Below wa.heap.size wa (wa.alloc (.cells #[.int .i64 n, .int .i64 (rs.length : Nat), .int .i64 (m : Nat)] 149)) := by go_grown
              have HN9 : (wa.alloc (.cells #[.int .i64 n, .int .i64 (rs.length : Nat), .int .i64 (m : Nat)] 149)).heap[wa.heap.size]? = some (.cells #[.int .i64 n, .int .i64 (rs.length : Nat), .int .i64 (m : Nat)] 149) := heap_alloc_new _ _; have HX9 : S3 w R (wa.alloc (.cells #[.int .i64 n, .int .i64 (rs.length : Nat), .int .i64 (m : Nat)] 149)) br bq R2 Q2 ro (.slice (some ⟨g8, 0, none⟩) l.length c8) l ∧ (wa.alloc (.cells #[.int .i64 n, .int .i64 (rs.length : Nat), .int .i64 (m : Nat)] 149)).heap[bq]? = some (.cells (qC Q2) 104) := ⟨HX9.1.below hal, (hal.block bq (heap_lt HX9.2)).trans HX9.2⟩
              have hS9 := (hal.block b18 (heap_lt hHeld)).trans hHeld; have hba : wa.heap.size ≠ b18 := fun e => by have := heap_lt hHeld; omega
              clear hal hHeld; go_simp; refine hK.out _ _ hS9 (fun hHeld => ?_); clear hK K; try simp only [sm]
              obtain ⟨b6, hb6⟩ : ∃ b6, wa.heap.size = b6 := ⟨_, rfl⟩
              rw [hb6] at HN9 hba ⊢; clear hb6; generalize wa.alloc (.cells #[.int .i64 n, .int .i64 (rs.length : Nat), .int .i64 (m : Nat)] 149) = wd at hHeld HX9 HN9 hS9 ⊢; refine rd 7 (fun K hK => ?_); obtain ⟨i0, hi, hz0, hz1, hz2⟩ := info92c; have hrow := HX9.1.log.segs; rw [HLV.out.1] at hrow; refine step_append_lies wd (by rfl) _ _ 102 (by rfl) 0 149 i0 _ 3 24 Tryz.underlying102 hi hz0 hz1 hz2 rfl (by decide) (.slice la Q2.gs.length lc) Q2.gs.length (sgL Q2.gs) (by rfl) hrow ⟨b6, 0, none⟩ 1 1 (sgL [(n, (rs.length : Int), (m : Int))]) (by rfl) rfl (fun i9 u hu => by rw [Addr.add_lit, Nat.zero_add, cell_of_block HN9]; simpa [sgL] using hu) (fun u hu => by simp [sgL] at hu; rcases hu with rfl | rfl | rfl <;> rfl) (by omega) (by have := HLV.out.2.1; unfold maxLen; omega) (by have := HLV.out.2.1; omega) (Nat.zero_le _) _ rfl ?_; intro g2 cap2 wb ho hg ha hlt2; have hg' : wd.grownBy wb Q2.lv.ownBlock := by rw [HLV.out.1]; exact hg
              have ha' : (Value.slice (some ⟨g2, 0, none⟩) (Q2.gs.length + 1) cap2).ownBlock = Q2.lv.ownBlock ∨ ∀ b, (Value.slice (some ⟨g2, 0, none⟩) (Q2.gs.length + 1) cap2).ownBlock = some b → wd.heap.size ≤ b := by
               rcases ha with ha | ha
               · exact Or.inl (by rw [HLV.out.1, ha]; rfl)
               · exact Or.inr (fun b hb => by have e : some g2 = some b := hb; injection e with e; omega)
              have hobq : HX9.1.log.lt = HX9.1.log.lt := rfl; have hq3 : wb.heap[bq]? = some (.cells (qC Q2) 104) := (hg'.block bq (heap_lt HX9.2) (fun e => by have h1 := HX9.1.log.rf bq e.symm; rw [HX9.1.log.rl] at h1; cases h1)).trans HX9.2; have h18 : wb.heap[b18]? = some (.cells #[.int .i64 n, .int .i64 (rs.length : Nat), .int .i64 (m : Nat)] 149) := (hg'.block b18 (heap_lt hS9) (fun e => by have h1 := HX9.1.log.rf b18 e.symm; rw [ho18.2.1] at h1; cases h1)).trans hS9; have ho' : wb.ownsRow 0 149 3 (.slice (some ⟨g2, 0, none⟩) (Q2.gs.length + 1) cap2) (Q2.gs ++ [(n, (rs.length : Int), (m : Int))]).length (sgL (Q2.gs ++ [(n, (rs.length : Int), (m : Int))])) := by rw [List.length_append, sgL_append]; exact ho
              obtain ⟨p1, p2⟩ := HX9.1.log.putL hg' ho' ha'; have HP : S3 w R (wb.setCell ⟨bq, 3, none⟩ (.slice (some ⟨g2, 0, none⟩) (Q2.gs.length + 1) cap2)) br bq R2 (addL Q2 (.slice (some ⟨g2, 0, none⟩) (Q2.gs.length + 1) cap2) (Q2.gs ++ [(n, (rs.length : Int), (m : Int))])) ro (.slice (some ⟨g8, 0, none⟩) l.length c8) l := HX9.1.logged p1 p2 rfl (fun b hb => by cases hb); have hne18 : b18 ≠ bq := fun e => by have h1 := ho18.2.1; rw [e, HX9.1.log.rl] at h1; cases h1
              clear ho hg ha hg' ha' ho' p1 p2 hrow hobq; refine hK.out _ _ h18 (fun hHeld => ?_); clear hK K; try simp only [sm]
              refine tk 8 (.pointer (some ⟨bq, 0, none⟩)) (fun wr hSw => ?_) hHeld ?_
              · go_simp
              simp only [sm]; refine tk 9 (.pointer (some ⟨bq, 3, none⟩)) (fun wr hSw => ?_) hHeld ?_
              · go_simp
              simp only [sm]; refine rd 10 (fun K hK => ?_); have m3 : wb.cell? ⟨bq, 3, none⟩ = some (.slice la Q2.gs.length lc) := by rw [cell_of_block hq3]; show some Q2.lv = _; rw [HLV.out.1]
              have n3 : wb.frozen? ⟨bq, 3, none⟩ = false := unfrozen_of_block hq3 3; have hS10 : (wb.setCell ⟨bq, 3, none⟩ (.slice (some ⟨g2, 0, none⟩) (Q2.gs.length + 1) cap2)).heap[b18]? = some (.cells #[.int .i64 n, .int .i64 (rs.length : Nat), .int .i64 (m : Nat)] 149) := (Below.heap_setCell _ _ _ _ hne18).trans h18; have HP9 : Hid _ := HP; clear HP hHeld hq3 h18; go_simp; refine hK.out _ _ hS10 (fun hHeld => ?_); clear hK K; try simp only [sm]
              refine wpAnyH_done (by kernel_rfl) ?_ _; clear hHeld hS10 m3 n3 c2; go_wp2; go_roundw
              case rel =>
               refine ⟨j + 1, R2, _, by omega, by go_num, R3.next (v := .slice (some ⟨g2, 0, none⟩) (Q2.gs.length + 1) cap2) (rs := rs) (m := m) (Q2 := Q2) HR.out HN.out ?_ (HR4.out.frm.trans HX.out) HR4.out.nm HR4.out.mo HR4.out.rs (by have := hmb.2; have := hmb.1; omega) HST.out HLX.out⟩; rw [← HR4.out.gs]; exact HP9.out
              case measure => simp [intOf]; omega
            · have hal : Below wa.heap.size wa (wa.alloc (.cells #[.int .i64 n, .int .i64 (rs.length : Nat), .int .i64 (m : Nat)] 149)) := by go_grown
              have HN9 : (wa.alloc (.cells #[.int .i64 n, .int .i64 (rs.length : Nat), .int .i64 (m : Nat)] 149)).heap[wa.heap.size]? = some (.cells #[.int .i64 n, .int .i64 (rs.length : Nat), .int .i64 (m : Nat)] 149) := heap_alloc_new _ _; have HX9 : S3 w R (wa.alloc (.cells #[.int .i64 n, .int .i64 (rs.length : Nat), .int .i64 (m : Nat)] 149)) br bq R2 Q2 ro (.slice (some ⟨g8, 0, none⟩) l.length c8) l ∧ (wa.alloc (.cells #[.int .i64 n, .int .i64 (rs.length : Nat), .int .i64 (m : Nat)] 149)).heap[bq]? = some (.cells (qC Q2) 104) := ⟨HX9.1.below hal, (hal.block bq (heap_lt HX9.2)).trans HX9.2⟩
              have hS9 := (hal.block b18 (heap_lt hHeld)).trans hHeld; have hba : wa.heap.size ≠ b18 := fun e => by have := heap_lt hHeld; omega
              clear hal hHeld; go_simp; refine hK.out _ _ hS9 (fun hHeld => ?_); clear hK K; try simp only [sm]
              obtain ⟨b6, hb6⟩ : ∃ b6, wa.heap.size = b6 := ⟨_, rfl⟩
              rw [hb6] at HN9 hba ⊢; clear hb6; generalize wa.alloc (.cells #[.int .i64 n, .int .i64 (rs.length : Nat), .int .i64 (m : Nat)] 149) = wd at hHeld HX9 HN9 hS9 ⊢; refine rd 4 (fun K hK => ?_); have dl : wd.cell? ⟨bq, 3, none⟩ = some (.slice la Q2.gs.length lc) := by rw [cell_of_block HX9.2]; show some Q2.lv = _; rw [HLV.out.1]
              go_simp; refine hK.out _ _ hS9 (fun hHeld => ?_)
              clear hK K; try simp only [sm]
              refine rd 7 (fun K hK => ?_); obtain ⟨i0, hi, hz0, hz1, hz2⟩ := info92c; have hrow := HX9.1.log.segs; rw [HLV.out.1] at hrow; refine step_append_lies wd (by rfl) _ _ 102 (by rfl) 0 149 i0 _ 3 24 Tryz.underlying102 hi hz0 hz1 hz2 rfl (by decide) (.slice la Q2.gs.length lc) Q2.gs.length (sgL Q2.gs) (by rfl) hrow ⟨b6, 0, none⟩ 1 1 (sgL [(n, (rs.length : Int), (m : Int))]) (by rfl) rfl (fun i9 u hu => by rw [Addr.add_lit, Nat.zero_add, cell_of_block HN9]; simpa [sgL] using hu) (fun u hu => by simp [sgL] at hu; rcases hu with rfl | rfl | rfl <;> rfl) (by omega) (by have := HLV.out.2.1; unfold maxLen; omega) (by have := HLV.out.2.1; omega) (Nat.zero_le _) _ rfl ?_; intro g2 cap2 wb ho hg ha hlt2; have hg' : wd.grownBy wb Q2.lv.ownBlock := by rw [HLV.out.1]; exact hg
              have ha' : (Value.slice (some ⟨g2, 0, none⟩) (Q2.gs.length + 1) cap2).ownBlock = Q2.lv.ownBlock ∨ ∀ b, (Value.slice (some ⟨g2, 0, none⟩) (Q2.gs.length + 1) cap2).ownBlock = some b → wd.heap.size ≤ b := by
               rcases ha with ha | ha
               · exact Or.inl (by rw [HLV.out.1, ha]; rfl)
               · exact Or.inr (fun b hb => by have e : some g2 = some b := hb; injection e with e; omega)
              have hobq : HX9.1.log.lt = HX9.1.log.lt := rfl; have hq3 : wb.heap[bq]? = some (.cells (qC Q2) 104) := (hg'.block bq (heap_lt HX9.2) (fun e => by have h1 := HX9.1.log.rf bq e.symm; rw [HX9.1.log.rl] at h1; cases h1)).trans HX9.2; have h18 : wb.heap[b18]? = some (.cells #[.int .i64 n, .int .i64 (rs.length : Nat), .int .i64 (m : Nat)] 149) := (hg'.block b18 (heap_lt hS9) (fun e => by have h1 := HX9.1.log.rf b18 e.symm; rw [ho18.2.1] at h1; cases h1)).trans hS9; have ho' : wb.ownsRow 0 149 3 (.slice (some ⟨g2, 0, none⟩) (Q2.gs.length + 1) cap2) (Q2.gs ++ [(n, (rs.length : Int), (m : Int))]).length (sgL (Q2.gs ++ [(n, (rs.length : Int), (m : Int))])) := by rw [List.length_append, sgL_append]; exact ho
              obtain ⟨p1, p2⟩ := HX9.1.log.putL hg' ho' ha'; have HP : S3 w R (wb.setCell ⟨bq, 3, none⟩ (.slice (some ⟨g2, 0, none⟩) (Q2.gs.length + 1) cap2)) br bq R2 (addL Q2 (.slice (some ⟨g2, 0, none⟩) (Q2.gs.length + 1) cap2) (Q2.gs ++ [(n, (rs.length : Int), (m : Int))])) ro (.slice (some ⟨g8, 0, none⟩) l.length c8) l := HX9.1.logged p1 p2 rfl (fun b hb => by cases hb); have hne18 : b18 ≠ bq := fun e => by have h1 := ho18.2.1; rw [e, HX9.1.log.rl] at h1; cases h1
              clear ho hg ha hg' ha' ho' p1 p2 hrow hobq; refine hK.out _ _ h18 (fun hHeld => ?_); clear hK K; try simp only [sm]
              refine tk 8 (.pointer (some ⟨bq, 0, none⟩)) (fun wr hSw => ?_) hHeld ?_
              · go_simp
              simp only [sm]; refine tk 9 (.pointer (some ⟨bq, 3, none⟩)) (fun wr hSw => ?_) hHeld ?_
              · go_simp
              simp only [sm]; refine rd 10 (fun K hK => ?_); have m3 : wb.cell? ⟨bq, 3, none⟩ = some (.slice la Q2.gs.length lc) := by rw [cell_of_block hq3]; show some Q2.lv = _; rw [HLV.out.1]
              have n3 : wb.frozen? ⟨bq, 3, none⟩ = false := unfrozen_of_block hq3 3; have hS10 : (wb.setCell ⟨bq, 3, none⟩ (.slice (some ⟨g2, 0, none⟩) (Q2.gs.length + 1) cap2)).heap[b18]? = some (.cells #[.int .i64 n, .int .i64 (rs.length : Nat), .int .i64 (m : Nat)] 149) := (Below.heap_setCell _ _ _ _ hne18).trans h18; have HP9 : Hid _ := HP; clear HP hHeld hq3 h18; go_simp; refine hK.out _ _ hS10 (fun hHeld => ?_); clear hK K; try simp only [sm]
              refine wpAnyH_done (by kernel_rfl) ?_ _; clear hHeld hS10 m3 n3 c2; go_wp2; go_roundw
              case rel =>
               refine ⟨j + 1, R2, _, by omega, by go_num, R3.next (v := .slice (some ⟨g2, 0, none⟩) (Q2.gs.length + 1) cap2) (rs := rs) (m := m) (Q2 := Q2) HR.out HN.out ?_ (HR4.out.frm.trans HX.out) HR4.out.nm HR4.out.mo HR4.out.rs (by have := hmb.2; have := hmb.1; omega) HST.out HLX.out⟩; rw [← HR4.out.gs]; exact HP9.out
              case measure => simp [intOf]; omega
     · have hji : decide ((j : Int) < l.length) = false := by simp; omega
       have hjn : j = l.length := by omega
       go_wp2; go_returns
       refine ⟨0, bq, R1, Q1, _, l, by rw [if_pos rfl]; rfl, HR.out.s3, ?_, fun _ => ⟨HR.out.nm, ?_⟩⟩
       · rw [← HL2.out]
         refine HR.out.go 0 _ _ ?_; rw [hjn, List.drop_length]; exact ⟨rfl, rfl, rfl⟩
       · by_cases hj0 : j = 0
         · rw [HR.out.frm0 hj0]
           show (0 : Int) = (Q1.gs.map (·.1)).headD 0; rw [HR.out.fs, hj0, List.take_zero]; rfl
         · rw [HR.out.frm (by omega), HR.out.fst (by omega)]
end Go.Proofs.YtconkienlcegaaaGreatDoor
