/- PP, PQ, laid into one text. -/
import Derived.Test.YtllkpnlgemjgfaaPG
import Derived.Test.YtllkpnlgemjgfaaPO
/- disk: does, Boot. -/
namespace Go.Proofs.Ytllkpnlgemjgfaa
open Go.RowKit Go.Maps Go.Joins
set_option linter.unusedSimpArgs false
set_option linter.unusedVariables false
theorem Tw.boot {w w2 : World} {bd br : Nat} {S S' : DS} {R : RS} {ro : Int} {A' : List RF} {ks : List Int} {ss : List (List UInt8)} (h : Tw w bd br S R ro) (hD : DiskIs w2 bd S') (hp : ss.Perm (S.fs.map (·.1))) (hc : Cutto (upS S) S' (ss.mergeSort (fun x y => decide (x ≤ y))) ks ss.length) (hB : Bt R.A A' ks R.A.length)
    (hR : RefIs w2 br { R with A := A', pv := .slice none 0 0, plan := [], down := false }) (hap : ∀ b, R.own b ≠ 0 → S'.role b = .none) : Tw w2 bd br S' { R with A := A', pv := .slice none 0 0, plan := [], down := false } ro ∧ absP S' = bootT (absP S) ks ∧ S'.steps = S.steps := by
  have ha := cut_abs h.disk hp hc
  have hb := bt_abs hB
  have hst : S'.steps = S.steps := hc.steps
  have har : S'.armed = S.armed := hc.armed
  have hw : Wf (absP S') ro := by rw [ha]; exact boot_wf h.gb.wf ks
  have hsm : absP S' = absR A' := by rw [ha, hb, h.same]
  refine ⟨⟨hD, ⟨by have := h.gb.cnt; unfold Cnt at this ⊢; rw [hst, har]; exact this, hc.room.trans h.gb.rm, h.gb.r0, hw⟩, hR, ⟨PlanR.nil rfl, h.hb.cnt, h.hb.rm, h.gb.r0, by show Wf (absR A') ro; rw [← hsm]; exact hw, by show Srt (absR A'); rw [← hsm]; exact hD.srt⟩, hsm, hap, hc.down, hst.trans h.steps, har.trans h.armed, fun x hx => ?_⟩, ha, hst⟩
  rw [hc.plan]
  rfl
set_option maxRecDepth 100000 in
set_option maxHeartbeats 8000000 in
theorem gdoes7 {w : World} {bd br : Nat} {S : DS} {R : RS} {ro : Int} (h : Tw w bd br S R ro) (x : Int) (s t : ByteArray) (va : Option Addr) (vl vc : Nat) (y : Int) (ka : Option Addr) (kc : Nat) (ks : List Int) (hk : IntsV w (.slice ka ks.length kc) ks) (hkl : ks.length ≤ 9223372036854775807) (hk0 : ∀ b, dBlock (.slice ka ks.length kc) ks = some b → b < w.heap.size ∧ S.role b = .none ∧ R.own b = 0) (pv : Value) :
    Calls Try.prog 9 #[.pointer (some ⟨bd, 0, none⟩), .pointer (some ⟨br, 0, none⟩), .agg (opC 7 x s t (.slice va vl vc) y (.slice ka ks.length kc) pv)] w fun e w' => e = .returned (.bool true) ∧ ∃ S' R', Tw w' bd br S' R' ro ∧ F2 w w' S R S' R' ∧ absP S' = bootT (absP S) ks ∧ S'.steps = S.steps := by
  have hbd := h.disk.lt
  have hbr := h.ref.lt
  have H0 : Hid (Tw (w.alloc (.cells (opC 7 x s t (.slice va vl vc) y (.slice ka ks.length kc) pv) 35)) bd br S R ro ∧ F2 w (w.alloc (.cells (opC 7 x s t (.slice va vl vc) y (.slice ka ks.length kc) pv) 35)) S R S R ∧ (w.alloc (.cells (opC 7 x s t (.slice va vl vc) y (.slice ka ks.length kc) pv) 35)).heap[w.heap.size]? = some (.cells (opC 7 x s t (.slice va vl vc) y (.slice ka ks.length kc) pv) 35) ∧ IntsV (w.alloc (.cells (opC 7 x s t (.slice va vl vc) y (.slice ka ks.length kc) pv) 35)) (.slice ka ks.length kc) ks) := ⟨h.below (by go_grown), F2.below (by go_grown), heap_alloc_new _ _, by
    obtain ⟨a, cap, e, hc⟩ := hk
    refine ⟨a, cap, e, fun j x hj => ?_⟩
    obtain ⟨b, o, ea, h1⟩ := hc j x hj
    exact ⟨b, o, ea, (Below.cell (p := ⟨b, o + j, none⟩) (by go_grown) (cell_lt h1)).trans h1⟩⟩
  have HB : Hid (S.role w.heap.size = .none ∧ R.own w.heap.size = 0 ∧ (w.alloc (.cells (opC 7 x s t (.slice va vl vc) y (.slice ka ks.length kc) pv) 35)).heap.size = w.heap.size + 1) := ⟨h.disk.fresh _ (Nat.le_refl _), h.ref.fresh _ (Nat.le_refl _), by simp⟩
  have HK0 : Hid (∀ b, dBlock (.slice ka ks.length kc) ks = some b → b < w.heap.size ∧ S.role b = .none ∧ R.own b = 0) := hk0
  clear h hk hk0
  have k0 : (w.alloc (.cells (opC 7 x s t (.slice va vl vc) y (.slice ka ks.length kc) pv) 35)).cell? ⟨w.heap.size, 0, none⟩ = some (.int .i64 7) := by rw [cell_of_block H0.out.2.2.1]; rfl
  have k6 : (w.alloc (.cells (opC 7 x s t (.slice va vl vc) y (.slice ka ks.length kc) pv) 35)).cell? ⟨w.heap.size, 6, none⟩ = some (.slice ka ks.length kc) := by rw [cell_of_block H0.out.2.2.1]; rfl
  go_enter Try.func9, Try.ntmps9
  unfold opC
  go_wp2_with fail
  rw [show #[Value.int .i64 7, .int .i64 x, .string s, .string t, .slice va vl vc, .int .u8 y, .slice ka ks.length kc, pv] = opC 7 x s t (.slice va vl vc) y (.slice ka ks.length kc) pv from rfl]
  generalize w.alloc (.cells (opC 7 x s t (.slice va vl vc) y (.slice ka ks.length kc) pv) 35) = w0 at H0 HB k0 k6 ⊢
  have hr0 := boot_any H0.out.1.disk (by have := H0.out.1.gb.wf.len; unfold absP at this; rw [List.length_map] at this; omega) (fun p hp => H0.out.1.gb.wf.safe _ (List.mem_map.2 ⟨p, hp, rfl⟩)) (.slice ka ks.length kc) ks H0.out.2.2.2 hkl (fun b hb => (HK0.out b hb).2.1)
  go_wp2_with (first
    | (go_at_call 18
       refine Calls.mono hr0 ?_
       clear hr0
       rintro e w2 ⟨rfl, S', ss, hp, hc, hD, hF⟩
       have hH2 : w2.heap[w.heap.size]? = some (.cells (opC 7 x s t (.slice va vl vc) y (.slice ka ks.length kc) pv) 35) := (hF.block w.heap.size (by have := HB.out.2.2; omega) HB.out.1).trans H0.out.2.2.1
       have y6 : w2.cell? ⟨w.heap.size, 6, none⟩ = some (.slice ka ks.length kc) := by rw [cell_of_block hH2]; rfl
       have H1 : Hid (Mid w0 w2 bd br S S' R ∧ ss.Perm (S.fs.map (·.1)) ∧ Cutto (upS S) S' (ss.mergeSort (fun x y => decide (x ≤ y))) ks ss.length ∧ IntsV w2 (.slice ka ks.length kc) ks) := ⟨H0.out.1.first hD hF, hp, hc, H0.out.2.2.2.fr (fun b hb => (HK0.out b hb).2.1) hF⟩
       clear hp hc hD hF hH2 k6 k0)
    | (go_at_call 32
       refine Calls.mono (rboot_any H1.out.1.ref (by have := H0.out.1.hb.len; omega) (fun f hf => H0.out.1.hb.wf.safe (tR f) (List.mem_map.2 ⟨f, hf, rfl⟩)) ka kc ks hkl (fun j x hj => ?_)) ?_
       · obtain ⟨a, cap, e, hc⟩ := H1.out.2.2.2
         obtain ⟨b, o, ea, h1⟩ := hc j x hj
         injection e with e1 _ _
         subst e1
         exact ⟨b, o, ea, h1, (HK0.out b (by rw [dBlock_here hj, ea]; rfl)).2.2⟩
       rintro e w3 ⟨rfl, A', hBt, hR, hRF⟩
       obtain ⟨q1, q2, q3⟩ := H1.out.1.second hR hRF
       have H3 : Hid (Tw w3 bd br S' { R with A := A', pv := .slice none 0 0, plan := [], down := false } ro ∧ F2 w w3 S R S' { R with A := A', pv := .slice none 0 0, plan := [], down := false } ∧ absP S' = bootT (absP S) ks ∧ S'.steps = S.steps) := by
         obtain ⟨t1, t2, t3⟩ := H0.out.1.boot q1 H1.out.2.1 H1.out.2.2.1 hBt hR q2
         exact ⟨t1, H0.out.2.1.trans q3, t2, t3⟩
       clear hR hRF q1 q2 q3 hBt))
  go_ret
  exact ⟨rfl, S', _, H3.out⟩
end Go.Proofs.Ytllkpnlgemjgfaa
/- disk: does, a kind that is none; the document's plan. -/
namespace Go.Proofs.Ytllkpnlgemjgfaa
open Go.RowKit Go.Maps Go.Joins
set_option linter.unusedSimpArgs false
set_option linter.unusedVariables false
set_option maxRecDepth 100000 in
set_option maxHeartbeats 8000000 in
theorem gdoes0 {w : World} {bd br : Nat} (k x : Int) (hk : k < 1 ∨ 9 < k) (s t : ByteArray) (va : Option Addr) (vl vc : Nat) (y : Int) (kv pv : Value) :
    Calls Try.prog 9 #[.pointer (some ⟨bd, 0, none⟩), .pointer (some ⟨br, 0, none⟩), .agg (opC k x s t (.slice va vl vc) y kv pv)] w fun e w' => e = .returned (.bool true) ∧ Below w.heap.size w w' := by
  have hb : Below w.heap.size w (w.alloc (.cells (opC k x s t (.slice va vl vc) y kv pv) 35)) := by go_grown
  have HB : Hid (Below w.heap.size w (w.alloc (.cells (opC k x s t (.slice va vl vc) y kv pv) 35))) := hb
  have k0 : (w.alloc (.cells (opC k x s t (.slice va vl vc) y kv pv) 35)).cell? ⟨w.heap.size, 0, none⟩ = some (.int .i64 k) := by rw [cell_of_block (heap_alloc_new _ _)]; rfl
  have e1 : (k == 1) = false := by simp; omega
  have e2 : (k == 2) = false := by simp; omega
  have e3 : (k == 3) = false := by simp; omega
  have e4 : (k == 4) = false := by simp; omega
  have e5 : (k == 5) = false := by simp; omega
  have e6 : (k == 6) = false := by simp; omega
  have e7 : (k == 7) = false := by simp; omega
  have e8 : (k == 8) = false := by simp; omega
  have e9 : (k == 9) = false := by simp; omega
  clear hb hk
  go_enter Try.func9, Try.ntmps9
  unfold opC
  go_wp2
  rw [show #[Value.int .i64 k, .int .i64 x, .string s, .string t, .slice va vl vc, .int .u8 y, kv, pv] = opC k x s t (.slice va vl vc) y kv pv from rfl]
  go_ret
  exact ⟨rfl, HB.out⟩
end Go.Proofs.Ytllkpnlgemjgfaa
