/- rlp: RlpBack's walk. -/
import Derived.Test.YtmnlcpfehbpogaaM21
namespace Go.Proofs.Ytmnlcpfehbpogaa
open Go.RowKit Go.Maps Go.Joins
set_option linter.unusedSimpArgs false
set_option linter.unusedVariables false
theorem itV_zero (w : World) (D : Nat → Prop) : ItV w D (.slice none 0 0) (.slice none 0 0) (.mk false [] []) := ⟨⟨Or.inl ⟨rfl, rfl⟩, fun b hb' => (by have h9 := dBlock_own hb'; cases h9), by show (0 : Nat) ≤ _; omega⟩, ItsV.empty _ _⟩
theorem load25 {w : World} {b : Nat} {x y z : Value} (h : w.heap[b]? = some (.cells #[x, y, z] 25)) : (loadVar 25 ⟨b, 0, none⟩).run Try.prog w = .ok (.agg #[x, y, z]) w :=
  run_loadVar_row w b 25 25 #[x, y, z] (0, 0) _ h Try.underlying25 rfl (by kernel_rfl)
set_option maxRecDepth 100000 in
set_option maxHeartbeats 16000000 in
/-- RlpBack -/
theorem back_any {w : World} (x : Tr) (sb si : Value) (D : Nat → Prop) (h : ItV w D sb si x) (hD : ∀ b, D b → b < w.heap.size) (hbt : BytT x) {a : Option Addr} {cap : Nat} {bs : List Int} (hs : SrcA w a cap bs) :
    Calls Try.prog 6 #[.agg #[.bool x.l, sb, si], .slice a bs.length cap] w fun e w' => Below w.heap.size w w' ∧ e = .returned (.bool true) := by
  obtain ⟨ab, cb, rfl⟩ := h.b.is.form
  obtain ⟨ai, ci, rfl, -⟩ := h.xs.form
  obtain ⟨xl, hxl⟩ : ∃ xl, xl = x.l := ⟨_, rfl⟩
  obtain ⟨m, hm⟩ : ∃ m, m = x.b.length := ⟨_, rfl⟩
  obtain ⟨n, hn⟩ : ∃ n, n = x.xs.length := ⟨_, rfl⟩
  rw [← hm, ← hn] at h
  rw [← hm, ← hn, ← hxl]
  have HX : Hid (xl = x.l) := hxl
  have HBT : Hid (BytT x) := hbt
  have HD : Hid (∀ b, D b → b < w.heap.size) := hD
  have hb0 : Below w.heap.size w (w.alloc (.cells #[.bool xl, .slice ab m cb, .slice ai n ci] 25)) := by go_grown
  have hk0 : (w.alloc (.cells #[.bool xl, .slice ab m cb, .slice ai n ci] 25)).heap[w.heap.size]? = some (.cells #[.bool xl, .slice ab m cb, .slice ai n ci] 25) := heap_alloc_new _ _
  have hi0 : ItV (w.alloc (.cells #[.bool xl, .slice ab m cb, .slice ai n ci] 25)) D (.slice ab m cb) (.slice ai n ci) x := h.mono (fun b hb => hb0.block b (hD b hb)) (fun _ h => h)
  have hsz0 : (w.alloc (.cells #[.bool xl, .slice ab m cb, .slice ai n ci] 25)).heap.size = w.heap.size + 1 := by simp
  have HC1 : Hid _ := own_any x _ _ _ D hi0 (fun b hb => by have := hD b hb; rw [hsz0]; omega)
  rw [← hxl] at HC1
  have H0 : Hid (Below w.heap.size w (w.alloc (.cells #[.bool xl, .slice ab m cb, .slice ai n ci] 25)) ∧ (w.alloc (.cells #[.bool xl, .slice ab m cb, .slice ai n ci] 25)).heap[w.heap.size]? = some (.cells #[.bool xl, .slice ab m cb, .slice ai n ci] 25) ∧ ItV (w.alloc (.cells #[.bool xl, .slice ab m cb, .slice ai n ci] 25)) D (.slice ab m cb) (.slice ai n ci) x ∧ SrcA (w.alloc (.cells #[.bool xl, .slice ab m cb, .slice ai n ci] 25)) a cap bs ∧ w.heap.size < (w.alloc (.cells #[.bool xl, .slice ab m cb, .slice ai n ci] 25)).heap.size) := ⟨hb0, hk0, hi0, hs.below hb0, by rw [hsz0]; omega⟩
  clear hb0 hk0 hi0 hsz0 h hD hbt hs hxl hm hn
  obtain ⟨k, hk⟩ : ∃ k, k = bs.length := ⟨_, rfl⟩
  go_enter Try.func6, Try.ntmps6
  go_wp2_with fail
  generalize w.alloc (.cells #[.bool xl, .slice ab m cb, .slice ai n ci] 25) = W0 at HC1 H0 ⊢
  refine Calls.mono HC1.out ?_
  rintro e w1 ⟨hb1, si1, rfl, hit1⟩
  obtain ⟨a1, c1, rfl, -⟩ := hit1.xs.form
  obtain ⟨n1, hn1⟩ : ∃ n1, n1 = x.xs.length := ⟨_, rfl⟩
  rw [← hn1] at hit1
  rw [← hn1]
  have HE : Hid _ := encode_any x w1 _ _ _ hit1 (fun b hb => hb.1)
  rw [← HX.out] at HE
  have H1 : Hid (Below w.heap.size w w1 ∧ w1.heap[w.heap.size]? = some (.cells #[.bool xl, .slice ab m cb, .slice ai n ci] 25) ∧ ItV w1 D (.slice ab m cb) (.slice ai n ci) x ∧ SrcA w1 a cap bs) := ⟨H0.out.1.trans (hb1.mono H0.out.1.size), (hb1.block _ H0.out.2.2.2.2).trans H0.out.2.1, H0.out.2.2.1.mono (fun b hb => hb1.block b (by have := HD.out b hb; have := H0.out.2.2.2.2; omega)) (fun _ h => h), H0.out.2.2.2.1.below hb1⟩
  clear hb1 hit1 hn1 HC1 H0
  go_wp2_with fail
  refine Calls.mono HE.out ?_
  rintro e w2 ⟨hb2, v2, rfl, ho2⟩
  have H2 : Hid (Below w.heap.size w w2 ∧ w2.heap[w.heap.size]? = some (.cells #[.bool xl, .slice ab m cb, .slice ai n ci] 25) ∧ ItV w2 D (.slice ab m cb) (.slice ai n ci) x ∧ SrcA w2 a cap bs) := ⟨H1.out.1.trans (hb2.mono H1.out.1.size), (hb2.block _ (heap_lt H1.out.2.1)).trans H1.out.2.1, H1.out.2.2.1.mono (fun b hb => hb2.block b (by have := HD.out b hb; have := heap_lt H1.out.2.1; omega)) (fun _ h => h), H1.out.2.2.2.below hb2⟩
  obtain ⟨a2, c2, rfl, r1, r2, r3, r4⟩ := row_cap ho2
  clear hb2 H1 HE
  by_cases he : encE x = 0
  · have hB := back1 HBT.out he
    have hs2 : SrcA w2 a2 c2 (encR x) := ⟨BytesV.of_own ho2, r1, r2, hB.2.1⟩
    have HT : Hid _ := decode_any hs2
    rw [hB.1] at HT
    rw [he]
    clear ho2 r1 r2 r3 r4 he hs2 hB
    go_wp2_with fail
    refine Calls.mono HT.out ?_
    rintro e w3 ⟨hb3, sb3, si3, rfl, hit3⟩
    obtain ⟨a3, c3, rfl⟩ := hit3.b.is.form
    obtain ⟨d3, e3, rfl, -⟩ := hit3.xs.form
    obtain ⟨m3, hm3⟩ : ∃ m3, m3 = x.b.length := ⟨_, rfl⟩
    obtain ⟨n3, hn3⟩ : ∃ n3, n3 = x.xs.length := ⟨_, rfl⟩
    rw [← hm3, ← hn3] at hit3
    rw [← hm3, ← hn3, ← HX.out]
    have hbz : Below w3.heap.size w3 (w3.alloc (.cells #[.bool xl, .slice a3 m3 c3, .slice d3 n3 e3] 31)) := by go_grown
    have hk3 : (w3.alloc (.cells #[.bool xl, .slice a3 m3 c3, .slice d3 n3 e3] 31)).heap[w3.heap.size]? = some (.cells #[.bool xl, .slice a3 m3 c3, .slice d3 n3 e3] 31) := heap_alloc_new _ _
    have hbx : Below w2.heap.size w2 (w3.alloc (.cells #[.bool xl, .slice a3 m3 c3, .slice d3 n3 e3] 31)) := hb3.trans (hbz.mono hb3.size)
    obtain ⟨b3, hb3e⟩ : ∃ b3, b3 = w3.heap.size := ⟨_, rfl⟩
    rw [← hb3e] at hk3
    have HW : Hid (Below w.heap.size w (w3.alloc (.cells #[.bool xl, .slice a3 m3 c3, .slice d3 n3 e3] 31)) ∧ ItV (w3.alloc (.cells #[.bool xl, .slice a3 m3 c3, .slice d3 n3 e3] 31)).drew D (.slice ab m cb) (.slice ai n ci) x ∧ SrcA (w3.alloc (.cells #[.bool xl, .slice a3 m3 c3, .slice d3 n3 e3] 31)) a cap bs ∧ ItV (w3.alloc (.cells #[.bool xl, .slice a3 m3 c3, .slice d3 n3 e3] 31)) (fun b => b < (w3.alloc (.cells #[.bool xl, .slice a3 m3 c3, .slice d3 n3 e3] 31)).heap.size) (.slice a3 m3 c3) (.slice d3 n3 e3) x) := ⟨H2.out.1.trans (hbx.mono H2.out.1.size), H2.out.2.2.1.mono (fun b hb => hbx.block b (by have := HD.out b hb; have := heap_lt H2.out.2.1; omega)) (fun _ h => h), H2.out.2.2.2.below hbx, hit3.mono (fun b hb => hbz.block b hb.2) (fun b hb => Nat.lt_of_lt_of_le hb.2 hbz.size)⟩
    have hS0 : (fun w' => w'.heap[w.heap.size]? = some (.cells #[.bool xl, .slice ab m cb, .slice ai n ci] 25) ∧ w'.heap[b3]? = some (.cells #[.bool xl, .slice a3 m3 c3, .slice d3 n3 e3] 31)) (w3.alloc (.cells #[.bool xl, .slice a3 m3 c3, .slice d3 n3 e3] 31)).drew := ⟨(hbx.block _ (heap_lt H2.out.2.1)).trans H2.out.2.1, hk3⟩
    clear hbz hk3 hbx hit3 hb3 hm3 hn3 HT H2
    go_wp2_with fail
    rw [← hb3e]
    clear hb3e
    generalize w3.alloc (.cells #[.bool xl, .slice a3 m3 c3, .slice d3 n3 e3] 31) = W3 at HW hS0 ⊢
    refine wp_noP ?_
    refine wp_region_held_drew (S := (fun w' => w'.heap[w.heap.size]? = some (.cells #[.bool xl, .slice ab m cb, .slice ai n ci] 25) ∧ w'.heap[b3]? = some (.cells #[.bool xl, .slice a3 m3 c3, .slice d3 n3 e3] 31))) (by kernel_rfl) hS0 (fun hHeld => ?_)
    refine wpAnyH_take (i := 0) (v := .int .i64 0) rfl (by kernel_rfl) (by kernel_rfl) (by kernel_rfl) (fun _ _ _ h => h) (Or.inl ⟨by rfl, fun w9 hSw => ?_⟩) hHeld ?_
    · go_simp
    simp only [List.getElem_toArray, List.getElem_cons_succ, List.getElem_cons_zero, Act.put, List.setIfInBounds_toArray, List.set_cons_zero, List.set_cons_succ]
    refine wpAnyH_take (i := 1) (v := .bool false) rfl (by kernel_rfl) (by kernel_rfl) (by kernel_rfl) (fun _ _ _ h => h) (Or.inl ⟨by rfl, fun w9 hSw => ?_⟩) hHeld ?_
    · go_simp
    simp only [List.getElem_toArray, List.getElem_cons_succ, List.getElem_cons_zero, Act.put, List.setIfInBounds_toArray, List.set_cons_zero, List.set_cons_succ]
    refine wpAnyH_take (i := 2) (v := .bool false) rfl (by kernel_rfl) (by kernel_rfl) (by kernel_rfl) (fun _ _ _ h => h) (Or.inl ⟨by rfl, fun w9 hSw => ?_⟩) hHeld ?_
    · go_simp
    simp only [List.getElem_toArray, List.getElem_cons_succ, List.getElem_cons_zero, Act.put, List.setIfInBounds_toArray, List.set_cons_zero, List.set_cons_succ]
    refine wpAnyH_take (i := 3) (v := .agg #[.bool xl, .slice a3 m3 c3, .slice d3 n3 e3]) rfl (by kernel_rfl) (by kernel_rfl) (by kernel_rfl) (fun _ _ _ h => h) (Or.inl ⟨by rfl, fun w9 hSw => ?_⟩) hHeld ?_
    · have h0 : w9.cell? ⟨b3, 0, none⟩ = some (.bool xl) := (cell_of_block hSw.2 0).trans rfl
      have h1 : w9.cell? ⟨b3, 1, none⟩ = some (.slice a3 m3 c3) := (cell_of_block hSw.2 1).trans rfl
      have h2 : w9.cell? ⟨b3, 2, none⟩ = some (.slice d3 n3 e3) := (cell_of_block hSw.2 2).trans rfl
      go_simp
    simp only [List.getElem_toArray, List.getElem_cons_succ, List.getElem_cons_zero, Act.put, List.setIfInBounds_toArray, List.set_cons_zero, List.set_cons_succ]
    refine wpAnyH_take (i := 4) (v := .agg #[.bool xl, .slice ab m cb, .slice ai n ci]) rfl (by kernel_rfl) (by kernel_rfl) (by kernel_rfl) (fun _ _ _ h => h) (Or.inl ⟨by rfl, fun w9 hSw => ?_⟩) hHeld ?_
    · have h0 : w9.cell? ⟨w.heap.size, 0, none⟩ = some (.bool xl) := (cell_of_block hSw.1 0).trans rfl
      have h1 : w9.cell? ⟨w.heap.size, 1, none⟩ = some (.slice ab m cb) := (cell_of_block hSw.1 1).trans rfl
      have h2 : w9.cell? ⟨w.heap.size, 2, none⟩ = some (.slice ai n ci) := (cell_of_block hSw.1 2).trans rfl
      go_simp
    simp only [List.getElem_toArray, List.getElem_cons_succ, List.getElem_cons_zero, Act.put, List.setIfInBounds_toArray, List.set_cons_zero, List.set_cons_succ]
    refine wpAnyH_ready (rs := [5]) (by kernel_rfl) (by simp) ?_
    refine AllReadyH.cons rfl (fun K hK => ?_) AllReadyH.nil
    have hC := own_any x W3.drew _ _ D HW.out.2.1 (fun b hb => Nat.lt_of_lt_of_le (HD.out b hb) HW.out.1.size)
    rw [← HX.out] at hC
    go_simp
    refine Calls.mono hC ?_
    clear hC
    rintro e w4 ⟨hb4, si4, rfl, hit4⟩
    obtain ⟨a4, c4, rfl, -⟩ := hit4.xs.form
    obtain ⟨n4, hn4⟩ : ∃ n4, n4 = x.xs.length := ⟨_, rfl⟩
    rw [← hn4] at hit4 ⊢
    have hb4' : Below W3.heap.size W3 w4 := ⟨hb4.os, hb4.tape, hb4.output, hb4.size, hb4.block⟩
    have hS4 : (fun w' => w'.heap[w.heap.size]? = some (.cells #[.bool xl, .slice ab m cb, .slice ai n ci] 25) ∧ w'.heap[b3]? = some (.cells #[.bool xl, .slice a3 m3 c3, .slice d3 n3 e3] 31)) w4 := ⟨(hb4.block _ (heap_lt hHeld.1)).trans hHeld.1, (hb4.block _ (heap_lt hHeld.2)).trans hHeld.2⟩
    have HS4 : Hid _ := same_t x w4 (.slice a3 m3 c3) (.slice d3 n3 e3) (.slice ab m cb) (.slice a4 n4 c4) (HW.out.2.2.2.mono (fun b hb => hb4'.block b hb) (fun b hb => Nat.lt_of_lt_of_le hb hb4'.size)) (hit4.mono (fun _ _ => rfl) (fun b hb => hb.1))
    rw [← HX.out] at HS4
    have H4 : Hid (Below w.heap.size w w4 ∧ SrcA w4 a cap bs) := ⟨HW.out.1.trans (hb4'.mono HW.out.1.size), HW.out.2.2.1.below hb4'⟩
    clear hb4 hb4' hit4 hn4 HW
    refine hK.out _ _ hS4 (fun hHeld => ?_)
    clear hK K
    try simp only [List.getElem_toArray, List.getElem_cons_succ, List.getElem_cons_zero, Act.put, List.setIfInBounds_toArray, List.set_cons_zero, List.set_cons_succ]
    refine wpAnyH_ready (rs := [6]) (by kernel_rfl) (by simp) ?_
    refine AllReadyH.cons rfl (fun K hK => ?_) AllReadyH.nil
    go_simp
    refine Calls.mono HS4.out ?_
    rintro e w5 ⟨hb5, rfl⟩
    have hS5 : (fun w' => w'.heap[w.heap.size]? = some (.cells #[.bool xl, .slice ab m cb, .slice ai n ci] 25) ∧ w'.heap[b3]? = some (.cells #[.bool xl, .slice a3 m3 c3, .slice d3 n3 e3] 31)) w5 := ⟨(hb5.block _ (heap_lt hHeld.1)).trans hHeld.1, (hb5.block _ (heap_lt hHeld.2)).trans hHeld.2⟩
    have HV : Hid (Below w.heap.size w w5 ∧ SrcA w5 a cap bs) := ⟨H4.out.1.trans (hb5.mono H4.out.1.size), H4.out.2.below hb5⟩
    clear hb5 H4 HS4
    refine hK.out _ _ hS5 (fun hHeld => ?_)
    clear hK K
    try simp only [List.getElem_toArray, List.getElem_cons_succ, List.getElem_cons_zero, Act.put, List.setIfInBounds_toArray, List.set_cons_zero, List.set_cons_succ]
    refine wpAnyH_take (i := 7) (v := .bool false) rfl (by kernel_rfl) (by kernel_rfl) (by kernel_rfl) (fun _ _ _ h => h) (Or.inl ⟨by rfl, fun w9 hSw => ?_⟩) hHeld ?_
    · go_simp
    simp only [List.getElem_toArray, List.getElem_cons_succ, List.getElem_cons_zero, Act.put, List.setIfInBounds_toArray, List.set_cons_zero, List.set_cons_succ]
    refine wpAnyH_take (i := 8) (v := .bool false) rfl (by kernel_rfl) (by kernel_rfl) (by kernel_rfl) (fun _ _ _ h => h) (Or.inl ⟨by rfl, fun w9 hSw => ?_⟩) hHeld ?_
    · go_simp
    simp only [List.getElem_toArray, List.getElem_cons_succ, List.getElem_cons_zero, Act.put, List.setIfInBounds_toArray, List.set_cons_zero, List.set_cons_succ]
    refine wpAnyH_done (by kernel_rfl) ?_ _
    simp only [noP]
    clear hHeld hS5 hS4 hS0
    generalize w5 = V at HV ⊢
    cases hd : dcd bs with
    | error c =>
      have HZ : Hid (c ≠ 0) := dcd_nz hd
      have HT1 : Hid _ := decode_any HV.out.2
      rw [hd] at HT1
      clear hd
      go_wp2_with fail
      refine Calls.mono HT1.out ?_
      rintro e v1 ⟨hv1, he1⟩
      obtain rfl : e = .returned (.tuple #[.agg #[.bool false, .slice none 0 0, .slice none 0 0], .int .i64 c]) := he1
      have hbz : Below v1.heap.size v1 (v1.alloc (.cells #[.bool false, .slice none 0 0, .slice none 0 0] 31)) := by go_grown
      have HV1 : Hid (Below w.heap.size w (v1.alloc (.cells #[.bool false, .slice none 0 0, .slice none 0 0] 31))) := (HV.out.1.trans (hv1.mono HV.out.1.size)).trans (hbz.mono (Nat.le_trans HV.out.1.size hv1.size))
      have hz0 : ItV (v1.alloc (.cells #[.bool false, .slice none 0 0, .slice none 0 0] 31)) (fun b => b < (v1.alloc (.cells #[.bool false, .slice none 0 0, .slice none 0 0] 31)).heap.size) (.slice none 0 0) (.slice none 0 0) (.mk false [] []) := itV_zero _ _
      have HS : Hid _ := same_t (.mk false [] []) _ _ _ _ _ hz0 hz0
      have hcz : ¬ c = 0 := HZ.out
      clear hbz hv1 HT1 HV hz0
      go_wp2_with fail
      generalize v1.alloc (.cells #[.bool false, .slice none 0 0, .slice none 0 0] 31) = V1 at HV1 HS ⊢
      refine Calls.mono HS.out ?_
      rintro e v2 ⟨hv2, rfl⟩
      have HV2 : Hid (Below w.heap.size w v2) := HV1.out.trans (hv2.mono HV1.out.size)
      clear hv2 HS HV1
      go_wp2_with fail
      refine Calls.mono alive_any ?_
      rintro e v3 ⟨hv3, rfl⟩
      have HV3 : Hid (Below w.heap.size w v3) := HV2.out.trans (hv3.mono HV2.out.size)
      clear hv3 HV2
      go_wp2
      go_ret
      exact ⟨HV3.out, rfl⟩
    | ok z =>
      have HZ : Hid (encE z = 0 ∧ encR z = bs) := back2 HV.out.2.by' hd
      have HT1 : Hid _ := decode_any HV.out.2
      rw [hd] at HT1
      clear hd
      go_wp2_with fail
      refine Calls.mono HT1.out ?_
      rintro e v1 ⟨hv1, sbz, siz, rfl, hitz⟩
      obtain ⟨az, cz, rfl⟩ := hitz.b.is.form
      obtain ⟨ay, cy, rfl, -⟩ := hitz.xs.form
      obtain ⟨zl, hzl⟩ : ∃ zl, zl = z.l := ⟨_, rfl⟩
      obtain ⟨nz, hnz⟩ : ∃ nz, nz = z.b.length := ⟨_, rfl⟩
      obtain ⟨ny, hny⟩ : ∃ ny, ny = z.xs.length := ⟨_, rfl⟩
      rw [← hnz, ← hny] at hitz
      rw [← hzl, ← hnz, ← hny]
      have hbz : Below v1.heap.size v1 (v1.alloc (.cells #[.bool zl, .slice az nz cz, .slice ay ny cy] 31)) := by go_grown
      have hit2 : ItV (v1.alloc (.cells #[.bool zl, .slice az nz cz, .slice ay ny cy] 31)) (fun b => b < (v1.alloc (.cells #[.bool zl, .slice az nz cz, .slice ay ny cy] 31)).heap.size) (.slice az nz cz) (.slice ay ny cy) z := hitz.mono (fun b hb => hbz.block b hb.2) (fun b hb => Nat.lt_of_lt_of_le hb.2 hbz.size)
      have hW : Below V.heap.size V (v1.alloc (.cells #[.bool zl, .slice az nz cz, .slice ay ny cy] 31)) := hv1.trans (hbz.mono hv1.size)
      have HV1 : Hid (Below w.heap.size w (v1.alloc (.cells #[.bool zl, .slice az nz cz, .slice ay ny cy] 31)) ∧ SrcA (v1.alloc (.cells #[.bool zl, .slice az nz cz, .slice ay ny cy] 31)) a cap bs) := ⟨HV.out.1.trans (hW.mono HV.out.1.size), HV.out.2.below hW⟩
      have HS : Hid _ := encode_any z _ _ _ _ hit2 (fun b hb => hb)
      rw [HZ.out.1, HZ.out.2, ← hzl] at HS
      clear hbz hv1 HT1 HV hit2 hitz hW hzl hnz hny
      go_wp2_with fail
      generalize v1.alloc (.cells #[.bool zl, .slice az nz cz, .slice ay ny cy] 31) = V1 at HV1 HS ⊢
      refine Calls.mono HS.out ?_
      rintro e v2 ⟨hv2, vc, rfl, hoc⟩
      obtain ⟨ac, cc, rfl⟩ := row_form hoc
      have HV2 : Hid (Below w.heap.size w v2) := HV1.out.1.trans (hv2.mono HV1.out.1.size)
      have HL : Hid _ := lsame_t (BytesV.of_own hoc) (HV1.out.2.is.below hv2)
      clear hv2 HS HV1 hoc
      go_wp2_with fail
      refine Calls.mono HL.out ?_
      rintro e v3 ⟨rfl, h3⟩
      obtain rfl := h3.symm
      clear h3 HL
      go_wp2_with fail
      refine Calls.mono alive_any ?_
      rintro e v4 ⟨hv4, rfl⟩
      have HV3 : Hid (Below w.heap.size w v4) := HV2.out.trans (hv4.mono HV2.out.size)
      clear hv4 HV2
      go_wp2
      go_ret
      exact ⟨HV3.out, rfl⟩
  · have HV : Hid (Below w.heap.size w w2 ∧ SrcA w2 a cap bs) := ⟨H2.out.1, H2.out.2.2.2⟩
    clear ho2 r1 r2 r3 r4 H2
    generalize w2 = V at HV ⊢
    cases hd : dcd bs with
    | error c =>
      have HZ : Hid (c ≠ 0) := dcd_nz hd
      have HT1 : Hid _ := decode_any HV.out.2
      rw [hd] at HT1
      clear hd
      go_wp2_with fail
      refine Calls.mono HT1.out ?_
      rintro e v1 ⟨hv1, he1⟩
      obtain rfl : e = .returned (.tuple #[.agg #[.bool false, .slice none 0 0, .slice none 0 0], .int .i64 c]) := he1
      have hbz : Below v1.heap.size v1 (v1.alloc (.cells #[.bool false, .slice none 0 0, .slice none 0 0] 31)) := by go_grown
      have HV1 : Hid (Below w.heap.size w (v1.alloc (.cells #[.bool false, .slice none 0 0, .slice none 0 0] 31))) := (HV.out.1.trans (hv1.mono HV.out.1.size)).trans (hbz.mono (Nat.le_trans HV.out.1.size hv1.size))
      have hz0 : ItV (v1.alloc (.cells #[.bool false, .slice none 0 0, .slice none 0 0] 31)) (fun b => b < (v1.alloc (.cells #[.bool false, .slice none 0 0, .slice none 0 0] 31)).heap.size) (.slice none 0 0) (.slice none 0 0) (.mk false [] []) := itV_zero _ _
      have HS : Hid _ := same_t (.mk false [] []) _ _ _ _ _ hz0 hz0
      have hcz : ¬ c = 0 := HZ.out
      clear hbz hv1 HT1 HV hz0
      go_wp2_with fail
      generalize v1.alloc (.cells #[.bool false, .slice none 0 0, .slice none 0 0] 31) = V1 at HV1 HS ⊢
      refine Calls.mono HS.out ?_
      rintro e v2 ⟨hv2, rfl⟩
      have HV2 : Hid (Below w.heap.size w v2) := HV1.out.trans (hv2.mono HV1.out.size)
      clear hv2 HS HV1
      go_wp2_with fail
      refine Calls.mono alive_any ?_
      rintro e v3 ⟨hv3, rfl⟩
      have HV3 : Hid (Below w.heap.size w v3) := HV2.out.trans (hv3.mono HV2.out.size)
      clear hv3 HV2
      go_wp2
      go_ret
      exact ⟨HV3.out, rfl⟩
    | ok z =>
      have HZ : Hid (encE z = 0 ∧ encR z = bs) := back2 HV.out.2.by' hd
      have HT1 : Hid _ := decode_any HV.out.2
      rw [hd] at HT1
      clear hd
      go_wp2_with fail
      refine Calls.mono HT1.out ?_
      rintro e v1 ⟨hv1, sbz, siz, rfl, hitz⟩
      obtain ⟨az, cz, rfl⟩ := hitz.b.is.form
      obtain ⟨ay, cy, rfl, -⟩ := hitz.xs.form
      obtain ⟨zl, hzl⟩ : ∃ zl, zl = z.l := ⟨_, rfl⟩
      obtain ⟨nz, hnz⟩ : ∃ nz, nz = z.b.length := ⟨_, rfl⟩
      obtain ⟨ny, hny⟩ : ∃ ny, ny = z.xs.length := ⟨_, rfl⟩
      rw [← hnz, ← hny] at hitz
      rw [← hzl, ← hnz, ← hny]
      have hbz : Below v1.heap.size v1 (v1.alloc (.cells #[.bool zl, .slice az nz cz, .slice ay ny cy] 31)) := by go_grown
      have hit2 : ItV (v1.alloc (.cells #[.bool zl, .slice az nz cz, .slice ay ny cy] 31)) (fun b => b < (v1.alloc (.cells #[.bool zl, .slice az nz cz, .slice ay ny cy] 31)).heap.size) (.slice az nz cz) (.slice ay ny cy) z := hitz.mono (fun b hb => hbz.block b hb.2) (fun b hb => Nat.lt_of_lt_of_le hb.2 hbz.size)
      have hW : Below V.heap.size V (v1.alloc (.cells #[.bool zl, .slice az nz cz, .slice ay ny cy] 31)) := hv1.trans (hbz.mono hv1.size)
      have HV1 : Hid (Below w.heap.size w (v1.alloc (.cells #[.bool zl, .slice az nz cz, .slice ay ny cy] 31)) ∧ SrcA (v1.alloc (.cells #[.bool zl, .slice az nz cz, .slice ay ny cy] 31)) a cap bs) := ⟨HV.out.1.trans (hW.mono HV.out.1.size), HV.out.2.below hW⟩
      have HS : Hid _ := encode_any z _ _ _ _ hit2 (fun b hb => hb)
      rw [HZ.out.1, HZ.out.2, ← hzl] at HS
      clear hbz hv1 HT1 HV hit2 hitz hW hzl hnz hny
      go_wp2_with fail
      generalize v1.alloc (.cells #[.bool zl, .slice az nz cz, .slice ay ny cy] 31) = V1 at HV1 HS ⊢
      refine Calls.mono HS.out ?_
      rintro e v2 ⟨hv2, vc, rfl, hoc⟩
      obtain ⟨ac, cc, rfl⟩ := row_form hoc
      have HV2 : Hid (Below w.heap.size w v2) := HV1.out.1.trans (hv2.mono HV1.out.1.size)
      have HL : Hid _ := lsame_t (BytesV.of_own hoc) (HV1.out.2.is.below hv2)
      clear hv2 HS HV1 hoc
      go_wp2_with fail
      refine Calls.mono HL.out ?_
      rintro e v3 ⟨rfl, h3⟩
      obtain rfl := h3.symm
      clear h3 HL
      go_wp2_with fail
      refine Calls.mono alive_any ?_
      rintro e v4 ⟨hv4, rfl⟩
      have HV3 : Hid (Below w.heap.size w v4) := HV2.out.trans (hv4.mono HV2.out.size)
      clear hv4 HV2
      go_wp2
      go_ret
      exact ⟨HV3.out, rfl⟩
end Go.Proofs.Ytmnlcpfehbpogaa
