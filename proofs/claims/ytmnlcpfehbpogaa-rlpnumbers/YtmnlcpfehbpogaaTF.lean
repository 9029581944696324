/- rlp: the document's First and Decode. -/
import Derived.Test.YtmnlcpfehbpogaaTE
namespace Go.Proofs.Ytmnlcpfehbpogaa
open Go.RowKit Go.Maps Go.Joins
set_option linter.unusedSimpArgs false
set_option linter.unusedVariables false
theorem rf_any : ∀ d, d ≤ 16 → RfC d := by
  intro d
  induction d with
  | zero =>
    intro _ w a cap bs h
    cases bs with
    | nil => exact rf_nil (16 - 0) 0
    | cons c r =>
      by_cases h1 : c < 128
      · exact rf_byte h h1 (16 - 0) 0
      · by_cases h2 : c < 192
        · exact rf_str h (by omega) h2 (16 - 0) 0
        · exact rf_deep h (by omega)
  | succ d ih =>
    intro hd w a cap bs h
    cases bs with
    | nil => exact rf_nil (16 - (d + 1)) (d + 1)
    | cons c r =>
      by_cases h1 : c < 128
      · exact rf_byte h h1 (16 - (d + 1)) (d + 1)
      · by_cases h2 : c < 192
        · exact rf_str h (by omega) h2 (16 - (d + 1)) (d + 1)
        · exact rf_list hd (ih (by omega)) h (by omega)
theorem res16 (w3 : World) (b : Nat) (x y z n c : Value) (tmps : Array Value) (h : w3.heap[b]? = some (.cells #[x, y, z] 25)) (h4 : tmps[2]? = some (.pointer (some ⟨b, 0, none⟩))) (h5 : tmps[3]? = some n) (h6 : tmps[4]? = some c) :
    (results Try.f16 tmps).run Try.prog w3 = .ok (.tuple #[.agg #[x, y, z], n, c]) w3 := by
  have hl := load25 h
  simp [results, Try.results16, asAddr, h4, h5, h6, hl]
theorem res14 (w3 : World) (b : Nat) (x y z c : Value) (tmps : Array Value) (h : w3.heap[b]? = some (.cells #[x, y, z] 25)) (h4 : tmps[2]? = some (.pointer (some ⟨b, 0, none⟩))) (h5 : tmps[3]? = some c) :
    (results Try.f14 tmps).run Try.prog w3 = .ok (.tuple #[.agg #[x, y, z], c]) w3 := by
  have hl := load25 h
  simp [results, Try.results14, asAddr, h4, h5, hl]
set_option maxRecDepth 100000 in
set_option maxHeartbeats 8000000 in
theorem rfirst_any {w : World} {a : Option Addr} {cap : Nat} {bs : List Int} (h : SrcA w a cap bs) :
    Calls Try.prog 16 #[.slice a bs.length cap] w fun e w' => Below w.heap.size w w' ∧ FsR w w' (fst1 bs) e := by
  have hb : Below w.heap.size w (w.alloc (.cells #[.bool false, .slice none 0 0, .slice none 0 0] 25)) := by go_grown
  have HB : Hid (Below w.heap.size w (w.alloc (.cells #[.bool false, .slice none 0 0, .slice none 0 0] 25)) ∧ (w.alloc (.cells #[.bool false, .slice none 0 0, .slice none 0 0] 25)).heap[w.heap.size]? = some (.cells #[.bool false, .slice none 0 0, .slice none 0 0] 25) ∧ (w.alloc (.cells #[.bool false, .slice none 0 0, .slice none 0 0] 25)).heap.size = w.heap.size + 1) := ⟨hb, heap_alloc_new _ _, by simp⟩
  have hcp := h.cp
  have hmx := h.mx
  by_cases hbig : 65536 < bs.length
  · have HE : Hid (fst1 bs = .error 3) := by show _ = _; unfold fst1; rw [if_pos hbig]
    obtain ⟨R, hR⟩ : ∃ R, R = fst1 bs := ⟨_, rfl⟩
    rw [← hR]
    rw [← hR] at HE
    obtain ⟨N, hN⟩ : ∃ N, N = bs.length := ⟨_, rfl⟩
    rw [← hN] at hbig hcp ⊢
    have hbi : (65536 : Int) < N := by omega
    clear hR hN h hb hbig
    go_enter Try.func16, Try.ntmps16
    go_wp2
    refine ⟨rfl, _, res16 _ _ _ _ _ _ _ _ HB.out.2.1 rfl rfl rfl, HB.out.1, ?_⟩
    rw [HE.out]
    rfl
  · have HE : Hid (fst1 bs = fs 16 bs) := by show _ = _; unfold fst1; rw [if_neg hbig]
    have hC := rf_any 16 (Nat.le_refl _) _ a cap bs ((⟨h.is, h.cp, h.mx, h.by', by omega⟩ : Src w a cap bs).below hb)
    rw [← HE.out] at hC
    obtain ⟨R, hR⟩ : ∃ R, R = fst1 bs := ⟨_, rfl⟩
    rw [← hR] at hC ⊢
    obtain ⟨N, hN⟩ : ∃ N, N = bs.length := ⟨_, rfl⟩
    rw [← hN] at hbig hcp hC ⊢
    have hbi : ¬ (65536 : Int) < N := by omega
    have HC : Hid (Calls Try.prog 39 #[.slice a N cap, .int .i64 0] (w.alloc (.cells #[.bool false, .slice none 0 0, .slice none 0 0] 25)) fun e w' => Below (w.alloc (.cells #[.bool false, .slice none 0 0, .slice none 0 0] 25)).heap.size (w.alloc (.cells #[.bool false, .slice none 0 0, .slice none 0 0] 25)) w' ∧ FsR (w.alloc (.cells #[.bool false, .slice none 0 0, .slice none 0 0] 25)) w' R e) := hC
    clear hR hN h hb hbig HE hC
    go_enter Try.func16, Try.ntmps16
    go_wp2_with fail
    refine Calls.mono HC.out ?_
    rintro e w1 ⟨hb1, hr1⟩
    have k1 := (hb1.block w.heap.size (by rw [HB.out.2.2]; omega)).trans HB.out.2.1
    have hbw := HB.out.1.trans (hb1.mono HB.out.1.size)
    have a0 : w1.cell? ⟨w.heap.size, 0, none⟩ = some (.bool false) := (cell_of_block k1 0).trans rfl
    have a1 : w1.cell? ⟨w.heap.size, 1, none⟩ = some (.slice none 0 0) := (cell_of_block k1 1).trans rfl
    have a2 : w1.cell? ⟨w.heap.size, 2, none⟩ = some (.slice none 0 0) := (cell_of_block k1 2).trans rfl
    have az := fun k => unfrozen_of_block k1 k
    have HK : Hid (w1.heap[w.heap.size]? = some (.cells #[.bool false, .slice none 0 0, .slice none 0 0] 25) ∧ Below w.heap.size w w1) := ⟨k1, hbw⟩
    clear hb1 k1 hbw
    cases R with
    | error c =>
      obtain rfl := hr1
      go_wp2
      exact ⟨rfl, _, res16 _ _ _ _ _ _ _ _ (set25 HK.out.1) rfl rfl rfl, set31_below HK.out.2 (Nat.le_refl _) _ _ _, rfl⟩
    | ok q =>
      obtain ⟨x, n⟩ := q
      obtain ⟨sb, si, rfl, hit⟩ := hr1
      have HI : Hid (ItV w1 (fun b => w.heap.size + 1 ≤ b ∧ b < w1.heap.size) sb si x) := hit.mono (fun _ _ => rfl) (fun b hb => ⟨by have := hb.1; rw [HB.out.2.2] at this; exact this, hb.2⟩)
      clear hit
      obtain ⟨ab, cb, rfl⟩ := HI.out.b.is.form
      obtain ⟨ai, ci, rfl, -⟩ := HI.out.xs.form
      obtain ⟨xl, hxl⟩ : ∃ xl, xl = x.l := ⟨_, rfl⟩
      obtain ⟨xn, hxn⟩ : ∃ xn, xn = x.b.length := ⟨_, rfl⟩
      obtain ⟨xm, hxm⟩ : ∃ xm, xm = x.xs.length := ⟨_, rfl⟩
      rw [← hxn, ← hxm] at HI
      rw [← hxl, ← hxn, ← hxm]
      have HX : Hid (xl = x.l) := hxl
      clear hxl hxn hxm
      go_wp2
      refine ⟨rfl, _, res16 _ _ _ _ _ _ _ _ (set25 HK.out.1) rfl rfl rfl, set31_below HK.out.2 (Nat.le_refl _) _ _ _, .slice ab xn cb, .slice ai xm ci, by rw [HX.out]; rfl, ?_⟩
      refine HI.out.mono (fun b hb => set31_other _ _ _ _ _ _ (by omega)) (fun b hb => ⟨by omega, by rw [set31_size]; exact hb.2⟩)
set_option maxRecDepth 100000 in
set_option maxHeartbeats 8000000 in
theorem rdecode_any {w : World} {a : Option Addr} {cap : Nat} {bs : List Int} (h : SrcA w a cap bs) :
    Calls Try.prog 14 #[.slice a bs.length cap] w fun e w' => Below w.heap.size w w' ∧ DcR w w' (dcd bs) e := by
  have hb : Below w.heap.size w (w.alloc (.cells #[.bool false, .slice none 0 0, .slice none 0 0] 25)) := by go_grown
  have HB : Hid (Below w.heap.size w (w.alloc (.cells #[.bool false, .slice none 0 0, .slice none 0 0] 25)) ∧ (w.alloc (.cells #[.bool false, .slice none 0 0, .slice none 0 0] 25)).heap[w.heap.size]? = some (.cells #[.bool false, .slice none 0 0, .slice none 0 0] 25) ∧ (w.alloc (.cells #[.bool false, .slice none 0 0, .slice none 0 0] 25)).heap.size = w.heap.size + 1) := ⟨hb, heap_alloc_new _ _, by simp⟩
  have hcp := h.cp
  have hmx := h.mx
  have hC := rfirst_any (h.below hb)
  obtain ⟨R, hR⟩ : ∃ R, R = fst1 bs := ⟨_, rfl⟩
  rw [← hR] at hC
  obtain ⟨R2, hR2⟩ : ∃ R2, R2 = dcd bs := ⟨_, rfl⟩
  rw [← hR2]
  have HRR : Hid (R = fst1 bs ∧ R2 = dcd bs ∧ Byt bs) := ⟨hR, hR2, h.by'⟩
  obtain ⟨N, hN⟩ : ∃ N, N = bs.length := ⟨_, rfl⟩
  have HN : Hid (N = bs.length) := hN
  rw [← hN] at hcp hC ⊢
  have HC : Hid (Calls Try.prog 16 #[.slice a N cap] (w.alloc (.cells #[.bool false, .slice none 0 0, .slice none 0 0] 25)) fun e w' => Below (w.alloc (.cells #[.bool false, .slice none 0 0, .slice none 0 0] 25)).heap.size (w.alloc (.cells #[.bool false, .slice none 0 0, .slice none 0 0] 25)) w' ∧ FsR (w.alloc (.cells #[.bool false, .slice none 0 0, .slice none 0 0] 25)) w' R e) := hC
  clear hR hN h hb hC hR2
  go_enter Try.func14, Try.ntmps14
  go_wp2_with fail
  refine Calls.mono HC.out ?_
  rintro e w1 ⟨hb1, hr1⟩
  have k1 := (hb1.block w.heap.size (by rw [HB.out.2.2]; omega)).trans HB.out.2.1
  have hbw := HB.out.1.trans (hb1.mono HB.out.1.size)
  have a0 : w1.cell? ⟨w.heap.size, 0, none⟩ = some (.bool false) := (cell_of_block k1 0).trans rfl
  have a1 : w1.cell? ⟨w.heap.size, 1, none⟩ = some (.slice none 0 0) := (cell_of_block k1 1).trans rfl
  have a2 : w1.cell? ⟨w.heap.size, 2, none⟩ = some (.slice none 0 0) := (cell_of_block k1 2).trans rfl
  have az := fun k => unfrozen_of_block k1 k
  have hw1 : w.heap.size < w1.heap.size := heap_lt k1
  have HK : Hid (w1.heap[w.heap.size]? = some (.cells #[.bool false, .slice none 0 0, .slice none 0 0] 25) ∧ Below w.heap.size w w1) := ⟨k1, hbw⟩
  clear hb1 k1 hbw
  cases R with
  | error c =>
    obtain rfl := hr1
    have hc0 : (c != 0) = true := by
      have h9 : c ≠ 0 := by
        have hr := HRR.out.1.symm
        unfold fst1 at hr
        split at hr
        · injection hr with hr; omega
        · exact fs_nz _ _ _ hr
      simp [h9]
    have HE : Hid (R2 = .error c) := HRR.out.2.1.trans (by unfold dcd; rw [← HRR.out.1])
    go_wp2
    refine ⟨rfl, _, res14 _ _ _ _ _ _ _ ((heap_alloc_old _ _ (by rw [set31_size]; exact heap_lt HK.out.1)).trans (set25 HK.out.1)) rfl rfl, (set31_below HK.out.2 (Nat.le_refl _) _ _ _).alloc (by rw [set31_size]; exact HK.out.2.size) _, ?_⟩
    rw [HE.out]
    rfl
  | ok q =>
    obtain ⟨x, n⟩ := q
    obtain ⟨sb, si, rfl, hit⟩ := hr1
    have HI : Hid (ItV w1 (fun b => w.heap.size + 1 ≤ b ∧ b < w1.heap.size) sb si x) := hit.mono (fun _ _ => rfl) (fun b hb => ⟨by have := hb.1; rw [HB.out.2.2] at this; exact this, hb.2⟩)
    clear hit
    obtain ⟨ab, cb, rfl⟩ := HI.out.b.is.form
    obtain ⟨ai, ci, rfl, -⟩ := HI.out.xs.form
    obtain ⟨xl, hxl⟩ : ∃ xl, xl = x.l := ⟨_, rfl⟩
    obtain ⟨xn, hxn⟩ : ∃ xn, xn = x.b.length := ⟨_, rfl⟩
    obtain ⟨xm, hxm⟩ : ∃ xm, xm = x.xs.length := ⟨_, rfl⟩
    rw [← hxn, ← hxm] at HI
    rw [← hxl, ← hxn, ← hxm]
    have HX : Hid (xl = x.l) := hxl
    clear hxl hxn hxm
    have hnl : n ≤ N := by
      have hr := HRR.out.1.symm
      unfold fst1 at hr
      split at hr
      · cases hr
      · have := (fs_ok 16 bs x n HRR.out.2.2 hr).1.2
        rw [HN.out]; exact this
    by_cases hlt : n < N
    · have hne : ((n : Int) != N) = true := by simp; omega
      have HE : Hid (R2 = .error 11) := HRR.out.2.1.trans (by unfold dcd; rw [← HRR.out.1]; simp only []; rw [if_pos (by rw [← HN.out]; exact hlt)])
      go_wp2
      refine ⟨rfl, _, res14 _ _ _ _ _ _ _ ((heap_alloc_old _ _ (by rw [set31_size]; exact heap_lt HK.out.1)).trans (set25 HK.out.1)) rfl rfl, (set31_below HK.out.2 (Nat.le_refl _) _ _ _).alloc (by rw [set31_size]; exact HK.out.2.size) _, ?_⟩
      rw [HE.out]
      rfl
    · have hne : ((n : Int) != N) = false := by simp; omega
      have HE : Hid (R2 = .ok x) := HRR.out.2.1.trans (by unfold dcd; rw [← HRR.out.1]; simp only []; rw [if_neg (by rw [← HN.out]; exact hlt)])
      go_wp2
      refine ⟨rfl, _, res14 _ _ _ _ _ _ _ ((heap_alloc_old _ _ (by rw [set31_size]; exact heap_lt HK.out.1)).trans (set25 HK.out.1)) rfl rfl, (set31_below HK.out.2 (Nat.le_refl _) _ _ _).alloc (by rw [set31_size]; exact HK.out.2.size) _, ?_⟩
      rw [HE.out]
      refine ⟨.slice ab xn cb, .slice ai xm ci, by rw [HX.out]; rfl, ?_⟩
      refine HI.out.mono (fun b hb => (heap_alloc_old _ _ (by rw [set31_size]; exact hb.2)).trans (set31_other _ _ _ _ _ _ (by omega))) (fun b hb => ⟨by omega, by have := set31_size w1 w.heap.size (.bool xl) (.slice ab xn cb) (.slice ai xm ci); simp; omega⟩)
end Go.Proofs.Ytmnlcpfehbpogaa
