/- rlp: RlpAhead's walk. -/
import Derived.Test.YtmnlcpfehbpogaaSE
namespace Go.Proofs.Ytmnlcpfehbpogaa
open Go.RowKit Go.Maps Go.Joins
set_option linter.unusedSimpArgs false
set_option linter.unusedVariables false
set_option maxRecDepth 100000 in
set_option maxHeartbeats 16000000 in
/-- RlpAhead -/
theorem ahead_any {w : World} (x : Tr) (sb si : Value) (D : Nat → Prop) (h : ItV w D sb si x) (hD : ∀ b, D b → b < w.heap.size) (hbt : BytT x) {a : Option Addr} {cap : Nat} {bs : List Int} (hs : SrcA w a cap bs) (hbl : bs.length ≤ 140737488355328) :
    Calls Try.prog 7 #[.agg #[.bool x.l, sb, si], .slice a bs.length cap] w fun e w' => Below w.heap.size w w' ∧ e = .returned (.bool true) := by
  obtain ⟨ab, cb, rfl⟩ := h.b.is.form
  obtain ⟨ai, ci, rfl, -⟩ := h.xs.form
  obtain ⟨xl, hxl⟩ : ∃ xl, xl = x.l := ⟨_, rfl⟩
  obtain ⟨m, hm⟩ : ∃ m, m = x.b.length := ⟨_, rfl⟩
  obtain ⟨n, hn⟩ : ∃ n, n = x.xs.length := ⟨_, rfl⟩
  rw [← hm, ← hn] at h
  rw [← hm, ← hn, ← hxl]
  have HX : Hid (xl = x.l) := hxl
  have HBT : Hid (BytT x) := hbt
  have HD : Hid (∀ b, D b → b < w.heap.size) := hD
  have hb0 : Below w.heap.size w (w.alloc (.cells #[.bool xl, .slice ab m cb, .slice ai n ci] 25)) := by go_grown
  have hk0 : (w.alloc (.cells #[.bool xl, .slice ab m cb, .slice ai n ci] 25)).heap[w.heap.size]? = some (.cells #[.bool xl, .slice ab m cb, .slice ai n ci] 25) := heap_alloc_new _ _
  have hi0 : ItV (w.alloc (.cells #[.bool xl, .slice ab m cb, .slice ai n ci] 25)) D (.slice ab m cb) (.slice ai n ci) x := h.mono (fun b hb => hb0.block b (hD b hb)) (fun _ h => h)
  have hsz0 : (w.alloc (.cells #[.bool xl, .slice ab m cb, .slice ai n ci] 25)).heap.size = w.heap.size + 1 := by simp
  have HC1 : Hid _ := own_any x _ _ _ D hi0 (fun b hb => by have := hD b hb; rw [hsz0]; omega)
  rw [← hxl] at HC1
  have H0 : Hid (Below w.heap.size w (w.alloc (.cells #[.bool xl, .slice ab m cb, .slice ai n ci] 25)) ∧ (w.alloc (.cells #[.bool xl, .slice ab m cb, .slice ai n ci] 25)).heap[w.heap.size]? = some (.cells #[.bool xl, .slice ab m cb, .slice ai n ci] 25) ∧ ItV (w.alloc (.cells #[.bool xl, .slice ab m cb, .slice ai n ci] 25)) D (.slice ab m cb) (.slice ai n ci) x ∧ SrcA (w.alloc (.cells #[.bool xl, .slice ab m cb, .slice ai n ci] 25)) a cap bs ∧ w.heap.size < (w.alloc (.cells #[.bool xl, .slice ab m cb, .slice ai n ci] 25)).heap.size) := ⟨hb0, hk0, hi0, hs.below hb0, by rw [hsz0]; omega⟩
  clear hb0 hk0 hi0 hsz0 h hD hbt hs hxl hm hn
  go_enter Try.func7, Try.ntmps7
  go_wp2_with fail
  generalize w.alloc (.cells #[.bool xl, .slice ab m cb, .slice ai n ci] 25) = W0 at HC1 H0 ⊢
  refine Calls.mono HC1.out ?_
  rintro e w1 ⟨hb1, si1, rfl, hit1⟩
  obtain ⟨a1, c1, rfl, -⟩ := hit1.xs.form
  obtain ⟨n1, hn1⟩ : ∃ n1, n1 = x.xs.length := ⟨_, rfl⟩
  rw [← hn1] at hit1
  rw [← hn1]
  have HE : Hid _ := encode_any x w1 _ _ _ hit1 (fun b hb => hb.1)
  rw [← HX.out] at HE
  have H1 : Hid (Below w.heap.size w w1 ∧ w1.heap[w.heap.size]? = some (.cells #[.bool xl, .slice ab m cb, .slice ai n ci] 25) ∧ ItV w1 D (.slice ab m cb) (.slice ai n ci) x ∧ SrcA w1 a cap bs) := ⟨H0.out.1.trans (hb1.mono H0.out.1.size), (hb1.block _ H0.out.2.2.2.2).trans H0.out.2.1, H0.out.2.2.1.mono (fun b hb => hb1.block b (by have := HD.out b hb; have := H0.out.2.2.2.2; omega)) (fun _ h => h), H0.out.2.2.2.1.below hb1⟩
  clear hb1 hit1 hn1 HC1 H0
  go_wp2_with fail
  refine Calls.mono HE.out ?_
  rintro e w2 ⟨hb2, v2, rfl, ho2⟩
  have H2 : Hid (Below w.heap.size w w2 ∧ w2.heap[w.heap.size]? = some (.cells #[.bool xl, .slice ab m cb, .slice ai n ci] 25) ∧ ItV w2 D (.slice ab m cb) (.slice ai n ci) x ∧ SrcA w2 a cap bs) := ⟨H1.out.1.trans (hb2.mono H1.out.1.size), (hb2.block _ (heap_lt H1.out.2.1)).trans H1.out.2.1, H1.out.2.2.1.mono (fun b hb => hb2.block b (by have := HD.out b hb; have := heap_lt H1.out.2.1; omega)) (fun _ h => h), H1.out.2.2.2.below hb2⟩
  obtain ⟨a2, c2, rfl, r1, r2, r3, r4⟩ := row_cap ho2
  clear hb2 H1 HE
  obtain ⟨N, hN⟩ : ∃ N, N = (encR x).length := ⟨_, rfl⟩
  obtain ⟨M, hM⟩ : ∃ M, M = bs.length := ⟨_, rfl⟩
  have HNM : Hid (N = (encR x).length ∧ M = bs.length) := ⟨hN, hM⟩
  have hc2 : N ≤ c2 := by rw [hN]; exact r1
  rw [← hN] at ho2 ⊢
  have hMl : M ≤ 140737488355328 := by rw [hM]; exact hbl
  rw [← hM]
  have HO : Hid (w2.ownsRow w1.heap.size 5 1 (.slice a2 N c2) N (vB (encR x))) := ho2
  have HA : Hid ((a2 = none → c2 = 0) ∧ ∀ ad, a2 = some ad → ∃ g, ad = ⟨g, 0, none⟩) := ⟨r3, r4⟩
  have HBL : Hid (bs.length ≤ 140737488355328) := hbl
  clear ho2 r1 r3 r4 hN hM hbl
  by_cases he : encE x = 0
  · have h65 : N ≤ 65536 := by rw [HNM.out.1]; exact (back1 HBT.out he).2.2
    rw [he]
    by_cases hlen : 65536 < N + M
    · have hi : (65536 : Int) < (N : Int) + M := by omega
      clear HO HA he
      go_wp2_with fail
      refine Calls.mono alive_any ?_
      rintro e v3 ⟨hv3, rfl⟩
      have HV3 : Hid (Below w.heap.size w v3) := H2.out.1.trans (hv3.mono H2.out.1.size)
      clear hv3 H2
      go_wp2
      go_ret
      exact ⟨HV3.out, rfl⟩
    · have hi : ¬ (65536 : Int) < (N : Int) + M := by omega
      have hah := ahead1 HBT.out he bs (by have := HNM.out.1; have := HNM.out.2; omega)
      have HAH : Hid _ := hah
      have hN1 : 1 ≤ N := by rw [HNM.out.1]; exact hah.2.2.1
      have hN0 : ¬ (N : Int) = 0 := by omega
      obtain ⟨g, hg⟩ : ∃ g, a2 = some ⟨g, 0, none⟩ := by
        cases h9 : a2 with
        | none => have := HA.out.1 h9; omega
        | some ad => obtain ⟨g, hg⟩ := HA.out.2 ad h9; exact ⟨g, by rw [hg]⟩
      subst hg
      have HBY : Hid (BytesV w2 (.slice (some ⟨g, 0, none⟩) N c2) (encR x)) := by
        have h9 := HO.out
        rw [HNM.out.1] at h9 ⊢
        exact BytesV.of_own h9
      have T1 : Hid True := trivial
      clear he hah HA HO
      go_wp2_with (first
        | (at_builtin
           have t1 := T1
           have ho0 : (w2.alloc (.cells #[] 5)).ownsRow w2.heap.size 5 1 (.slice (some ⟨w2.heap.size, 0, none⟩) 0 0) ([] : List Int).length (vB []) := ⟨rfl, Or.inr ⟨w2.heap.size, 0, #[], by simp, Nat.le_refl _, by have := heap_alloc_new w2 (.cells #[] 5); simpa using this, Nat.le_refl _, by decide, rfl, rfl⟩⟩
           have hbz : Below w2.heap.size w2 (w2.alloc (.cells #[] 5)) := by go_grown
           refine wpList_append_b rfl _ _ rfl w2.heap.size (.slice (some ⟨w2.heap.size, 0, none⟩) 0 0) (.slice (some ⟨g, 0, none⟩) N c2) [] (encR x) rfl ho0 rfl (HBY.out.below hbz) (by have := HNM.out.1; simp; omega) (by simp) ?_
           intro v3 w3 ho hgr hal
           rw [List.nil_append] at ho
           obtain ⟨a3, c3, rfl⟩ := row_form ho
           have hb3 : Below w2.heap.size w2 w3 := ((Below.refl _ w2).alloc (Nat.le_refl _) _).grown hgr (by simp) (fun j hj => by have h9 : w2.heap.size = j := (by simpa [Value.ownBlock] using hj); omega)
           have H3 : Hid (w3.ownsRow w2.heap.size 5 1 (.slice a3 (encR x).length c3) (encR x).length (vB (encR x)) ∧ Below w2.heap.size w2 w3) := ⟨ho, hb3⟩
           clear T1 t1 ho hgr hal ho0 hbz hb3)
        | (at_builtin
           have t3 := H3
           refine wpList_append_b rfl _ _ rfl w2.heap.size (.slice a3 (encR x).length c3) (.slice a M cap) (encR x) bs rfl H3.out.1 rfl (by rw [HNM.out.2]; exact H2.out.2.2.2.is.below H3.out.2) (by have := HNM.out.1; have := HNM.out.2; omega) H3.out.2.size ?_
           intro v4 w4 ho hgr hal
           have hb4 : Below w2.heap.size w2 w4 := H3.out.2.grown hgr H3.out.2.size (fun j hj => (H3.out.1.lt j hj).1)
           obtain ⟨a4, c4, rfl, q1, q2, -, -⟩ := row_cap ho
           have HS4 : Hid _ := first_any (⟨BytesV.of_own ho, q1, q2, HAH.out.2.2.2.app H2.out.2.2.2.by'⟩ : SrcA w4 a4 c4 (encR x ++ bs))
           rw [HAH.out.1] at HS4
           have HB4 : Hid (Below w2.heap.size w2 w4) := hb4
           clear t3 H3 ho hgr hal hb4 q1 q2))
      rw [List.length_append] at HS4
      refine Calls.mono HS4.out ?_
      rintro e w5 ⟨hb5, sb5, si5, rfl, hit5⟩
      rw [← HNM.out.1]
      obtain ⟨a5, c5, rfl⟩ := hit5.b.is.form
      obtain ⟨d5, e5, rfl, -⟩ := hit5.xs.form
      obtain ⟨m5, hm5⟩ : ∃ m5, m5 = x.b.length := ⟨_, rfl⟩
      obtain ⟨n5, hn5⟩ : ∃ n5, n5 = x.xs.length := ⟨_, rfl⟩
      rw [← hm5, ← hn5] at hit5
      rw [← hm5, ← hn5, ← HX.out]
      have hbz : Below w5.heap.size w5 (w5.alloc (.cells #[.bool xl, .slice a5 m5 c5, .slice d5 n5 e5] 31)) := by go_grown
      have hk5 : (w5.alloc (.cells #[.bool xl, .slice a5 m5 c5, .slice d5 n5 e5] 31)).heap[w5.heap.size]? = some (.cells #[.bool xl, .slice a5 m5 c5, .slice d5 n5 e5] 31) := heap_alloc_new _ _
      have hb25 : Below w2.heap.size w2 w5 := HB4.out.trans (hb5.mono HB4.out.size)
      have hbx : Below w2.heap.size w2 (w5.alloc (.cells #[.bool xl, .slice a5 m5 c5, .slice d5 n5 e5] 31)) := hb25.trans (hbz.mono hb25.size)
      have hdl : (encR x).dropLast = ((encR x).drop 0).take (N - 1) := by rw [List.drop_zero, List.dropLast_eq_take, ← HNM.out.1]
      have hdn : ((encR x).dropLast).length = N - 1 := by rw [List.length_dropLast, ← HNM.out.1]
      have hs6 : SrcA (w5.alloc (.cells #[.bool xl, .slice a5 m5 c5, .slice d5 n5 e5] 31)) (some ⟨g, 0, none⟩) c2 (encR x).dropLast := by
        refine ⟨?_, by rw [hdn]; omega, r2, fun c hc => HAH.out.2.2.2 c (List.dropLast_subset _ hc)⟩
        rw [hdn, hdl]
        have h9 := (HBY.out.below hbx).part 0 (N - 1) c2 (by have := HNM.out.1; omega)
        rw [Nat.zero_add] at h9
        exact h9
      have HS6 : Hid _ := first_any hs6
      rw [HAH.out.2.1, hdn] at HS6
      have hSl : ∀ w : World, (Instr.slice 22 (.slice (some ⟨g, 0, none⟩) N c2) none (some (.int .i64 ((N : Int) - 1))) none).run Try.prog w = .ok (.slice (some ⟨g, 0, none⟩) (N - 1) c2) w := fun w => slH w g 0 N c2 (N - 1) _ (by omega) (by omega) (by omega)
      have HW : Hid (Below w.heap.size w (w5.alloc (.cells #[.bool xl, .slice a5 m5 c5, .slice d5 n5 e5] 31)) ∧ ItV (w5.alloc (.cells #[.bool xl, .slice a5 m5 c5, .slice d5 n5 e5] 31)) D (.slice ab m cb) (.slice ai n ci) x ∧ ItV (w5.alloc (.cells #[.bool xl, .slice a5 m5 c5, .slice d5 n5 e5] 31)) (fun b => b < (w5.alloc (.cells #[.bool xl, .slice a5 m5 c5, .slice d5 n5 e5] 31)).heap.size) (.slice a5 m5 c5) (.slice d5 n5 e5) x ∧ (w5.alloc (.cells #[.bool xl, .slice a5 m5 c5, .slice d5 n5 e5] 31)).heap[w.heap.size]? = some (.cells #[.bool xl, .slice ab m cb, .slice ai n ci] 25) ∧ (w5.alloc (.cells #[.bool xl, .slice a5 m5 c5, .slice d5 n5 e5] 31)).heap[w5.heap.size]? = some (.cells #[.bool xl, .slice a5 m5 c5, .slice d5 n5 e5] 31)) := ⟨H2.out.1.trans (hbx.mono H2.out.1.size), H2.out.2.2.1.mono (fun b hb => hbx.block b (by have := HD.out b hb; have := heap_lt H2.out.2.1; omega)) (fun _ h => h), hit5.mono (fun b hb => hbz.block b hb.2) (fun b hb => Nat.lt_of_lt_of_le hb.2 hbz.size), (hbx.block _ (heap_lt H2.out.2.1)).trans H2.out.2.1, hk5⟩
      clear hbz hk5 hb25 hbx hdl hdn hs6 hit5 hb5 hm5 hn5 HS4 HB4 HBY
      go_wp2_with fail
      generalize w5.alloc (.cells #[.bool xl, .slice a5 m5 c5, .slice d5 n5 e5] 31) = W5 at HW HS6 ⊢
      generalize w5.heap.size = b5 at HW ⊢
      refine Calls.mono HS6.out ?_
      rintro e w6 ⟨hb6, he6⟩
      obtain rfl : e = .returned (.tuple #[.agg #[.bool false, .slice none 0 0, .slice none 0 0], .int .i64 0, .int .i64 10]) := he6
      have hbz : Below w6.heap.size w6 (w6.alloc (.cells #[.bool false, .slice none 0 0, .slice none 0 0] 31)) := by go_grown
      have hbx : Below W5.heap.size W5 (w6.alloc (.cells #[.bool false, .slice none 0 0, .slice none 0 0] 31)) := hb6.trans (hbz.mono hb6.size)
      have HV : Hid (Below w.heap.size w (w6.alloc (.cells #[.bool false, .slice none 0 0, .slice none 0 0] 31)) ∧ ItV (w6.alloc (.cells #[.bool false, .slice none 0 0, .slice none 0 0] 31)).drew D (.slice ab m cb) (.slice ai n ci) x ∧ ItV (w6.alloc (.cells #[.bool false, .slice none 0 0, .slice none 0 0] 31)) (fun b => b < (w6.alloc (.cells #[.bool false, .slice none 0 0, .slice none 0 0] 31)).heap.size) (.slice a5 m5 c5) (.slice d5 n5 e5) x) := ⟨HW.out.1.trans (hbx.mono HW.out.1.size), HW.out.2.1.mono (fun b hb => hbx.block b (Nat.lt_of_lt_of_le (HD.out b hb) HW.out.1.size)) (fun _ h => h), HW.out.2.2.1.mono (fun b hb => hbx.block b hb) (fun b hb => Nat.lt_of_lt_of_le hb hbx.size)⟩
      have hS0 : (fun w' => w'.heap[w.heap.size]? = some (.cells #[.bool xl, .slice ab m cb, .slice ai n ci] 25) ∧ w'.heap[b5]? = some (.cells #[.bool xl, .slice a5 m5 c5, .slice d5 n5 e5] 31)) (w6.alloc (.cells #[.bool false, .slice none 0 0, .slice none 0 0] 31)).drew := ⟨(hbx.block _ (heap_lt HW.out.2.2.2.1)).trans HW.out.2.2.2.1, (hbx.block _ (heap_lt HW.out.2.2.2.2)).trans HW.out.2.2.2.2⟩
      clear hbz hbx hb6 HW HS6
      go_wp2_with fail
      generalize w6.alloc (.cells #[.bool false, .slice none 0 0, .slice none 0 0] 31) = W6 at HV hS0 ⊢
      refine wp_noP ?_
      refine wp_region_held_drew (S := (fun w' => w'.heap[w.heap.size]? = some (.cells #[.bool xl, .slice ab m cb, .slice ai n ci] 25) ∧ w'.heap[b5]? = some (.cells #[.bool xl, .slice a5 m5 c5, .slice d5 n5 e5] 31))) (by kernel_rfl) hS0 (fun hHeld => ?_)
      refine wpAnyH_take (i := 0) (v := .int .i64 0) rfl (by kernel_rfl) (by kernel_rfl) (by kernel_rfl) (fun _ _ _ h => h) (Or.inl ⟨by rfl, fun w9 hSw => ?_⟩) hHeld ?_
      · go_simp
      simp only [List.getElem_toArray, List.getElem_cons_succ, List.getElem_cons_zero, Act.put, List.setIfInBounds_toArray, List.set_cons_zero, List.set_cons_succ]
      refine wpAnyH_take (i := 1) (v := .bool true) rfl (by kernel_rfl) (by kernel_rfl) (by kernel_rfl) (fun _ _ _ h => h) (Or.inl ⟨by rfl, fun w9 hSw => ?_⟩) hHeld ?_
      · go_simp
      simp only [List.getElem_toArray, List.getElem_cons_succ, List.getElem_cons_zero, Act.put, List.setIfInBounds_toArray, List.set_cons_zero, List.set_cons_succ]
      refine wpAnyH_take (i := 2) (v := .bool true) rfl (by kernel_rfl) (by kernel_rfl) (by kernel_rfl) (fun _ _ _ h => h) (Or.inl ⟨by rfl, fun w9 hSw => ?_⟩) hHeld ?_
      · go_simp
      simp only [List.getElem_toArray, List.getElem_cons_succ, List.getElem_cons_zero, Act.put, List.setIfInBounds_toArray, List.set_cons_zero, List.set_cons_succ]
      refine wpAnyH_take (i := 3) (v := .int .i64 N) rfl (by kernel_rfl) (by kernel_rfl) (by kernel_rfl) (fun _ _ _ h => h) (Or.inl ⟨by rfl, fun w9 hSw => ?_⟩) hHeld ?_
      · go_simp
      simp only [List.getElem_toArray, List.getElem_cons_succ, List.getElem_cons_zero, Act.put, List.setIfInBounds_toArray, List.set_cons_zero, List.set_cons_succ]
      refine wpAnyH_take (i := 4) (v := .slice (some ⟨g, 0, none⟩) N c2) rfl (by kernel_rfl) (by kernel_rfl) (by kernel_rfl) (fun _ _ _ h => h) (Or.inl ⟨by rfl, fun w9 hSw => ?_⟩) hHeld ?_
      · go_simp
      simp only [List.getElem_toArray, List.getElem_cons_succ, List.getElem_cons_zero, Act.put, List.setIfInBounds_toArray, List.set_cons_zero, List.set_cons_succ]
      refine wpAnyH_take (i := 5) (v := .int .i64 N) rfl (by kernel_rfl) (by kernel_rfl) (by kernel_rfl) (fun _ _ _ h => h) (Or.inl ⟨by rfl, fun w9 hSw => ?_⟩) hHeld ?_
      · go_simp
      simp only [List.getElem_toArray, List.getElem_cons_succ, List.getElem_cons_zero, Act.put, List.setIfInBounds_toArray, List.set_cons_zero, List.set_cons_succ]
      refine wpAnyH_take (i := 6) (v := .bool true) rfl (by kernel_rfl) (by kernel_rfl) (by kernel_rfl) (fun _ _ _ h => h) (Or.inl ⟨by rfl, fun w9 hSw => ?_⟩) hHeld ?_
      · go_simp
      simp only [List.getElem_toArray, List.getElem_cons_succ, List.getElem_cons_zero, Act.put, List.setIfInBounds_toArray, List.set_cons_zero, List.set_cons_succ]
      refine wpAnyH_take (i := 7) (v := .bool true) rfl (by kernel_rfl) (by kernel_rfl) (by kernel_rfl) (fun _ _ _ h => h) (Or.inl ⟨by rfl, fun w9 hSw => ?_⟩) hHeld ?_
      · go_simp
      simp only [List.getElem_toArray, List.getElem_cons_succ, List.getElem_cons_zero, Act.put, List.setIfInBounds_toArray, List.set_cons_zero, List.set_cons_succ]
      refine wpAnyH_take (i := 8) (v := .bool true) rfl (by kernel_rfl) (by kernel_rfl) (by kernel_rfl) (fun _ _ _ h => h) (Or.inl ⟨by rfl, fun w9 hSw => ?_⟩) hHeld ?_
      · go_simp
      simp only [List.getElem_toArray, List.getElem_cons_succ, List.getElem_cons_zero, Act.put, List.setIfInBounds_toArray, List.set_cons_zero, List.set_cons_succ]
      refine wpAnyH_take (i := 9) (v := .agg #[.bool xl, .slice a5 m5 c5, .slice d5 n5 e5]) rfl (by kernel_rfl) (by kernel_rfl) (by kernel_rfl) (fun _ _ _ h => h) (Or.inl ⟨by rfl, fun w9 hSw => ?_⟩) hHeld ?_
      · have h0 : w9.cell? ⟨b5, 0, none⟩ = some (.bool xl) := (cell_of_block hSw.2 0).trans rfl
        have h1 : w9.cell? ⟨b5, 1, none⟩ = some (.slice a5 m5 c5) := (cell_of_block hSw.2 1).trans rfl
        have h2 : w9.cell? ⟨b5, 2, none⟩ = some (.slice d5 n5 e5) := (cell_of_block hSw.2 2).trans rfl
        go_simp
      simp only [List.getElem_toArray, List.getElem_cons_succ, List.getElem_cons_zero, Act.put, List.setIfInBounds_toArray, List.set_cons_zero, List.set_cons_succ]
      refine wpAnyH_take (i := 10) (v := .agg #[.bool xl, .slice ab m cb, .slice ai n ci]) rfl (by kernel_rfl) (by kernel_rfl) (by kernel_rfl) (fun _ _ _ h => h) (Or.inl ⟨by rfl, fun w9 hSw => ?_⟩) hHeld ?_
      · have h0 : w9.cell? ⟨w.heap.size, 0, none⟩ = some (.bool xl) := (cell_of_block hSw.1 0).trans rfl
        have h1 : w9.cell? ⟨w.heap.size, 1, none⟩ = some (.slice ab m cb) := (cell_of_block hSw.1 1).trans rfl
        have h2 : w9.cell? ⟨w.heap.size, 2, none⟩ = some (.slice ai n ci) := (cell_of_block hSw.1 2).trans rfl
        go_simp
      simp only [List.getElem_toArray, List.getElem_cons_succ, List.getElem_cons_zero, Act.put, List.setIfInBounds_toArray, List.set_cons_zero, List.set_cons_succ]
      refine wpAnyH_ready (rs := [11]) (by kernel_rfl) (by simp) ?_
      refine AllReadyH.cons rfl (fun K hK => ?_) AllReadyH.nil
      have hC := own_any x W6.drew _ _ D HV.out.2.1 (fun b hb => Nat.lt_of_lt_of_le (HD.out b hb) HV.out.1.size)
      rw [← HX.out] at hC
      go_simp
      refine Calls.mono hC ?_
      clear hC
      rintro e w7 ⟨hb7, si7, rfl, hit7⟩
      obtain ⟨a7, c7, rfl, -⟩ := hit7.xs.form
      obtain ⟨n7, hn7⟩ : ∃ n7, n7 = x.xs.length := ⟨_, rfl⟩
      rw [← hn7] at hit7 ⊢
      have hb7' : Below W6.heap.size W6 w7 := ⟨hb7.os, hb7.tape, hb7.output, hb7.size, hb7.block⟩
      have hS7 : (fun w' => w'.heap[w.heap.size]? = some (.cells #[.bool xl, .slice ab m cb, .slice ai n ci] 25) ∧ w'.heap[b5]? = some (.cells #[.bool xl, .slice a5 m5 c5, .slice d5 n5 e5] 31)) w7 := ⟨(hb7.block _ (heap_lt hHeld.1)).trans hHeld.1, (hb7.block _ (heap_lt hHeld.2)).trans hHeld.2⟩
      have HS7 : Hid _ := same_t x w7 (.slice a5 m5 c5) (.slice d5 n5 e5) (.slice ab m cb) (.slice a7 n7 c7) (HV.out.2.2.mono (fun b hb => hb7'.block b hb) (fun b hb => Nat.lt_of_lt_of_le hb hb7'.size)) (hit7.mono (fun _ _ => rfl) (fun b hb => hb.1))
      rw [← HX.out] at HS7
      have H7 : Hid (Below w.heap.size w w7) := HV.out.1.trans (hb7'.mono HV.out.1.size)
      clear hb7 hb7' hit7 hn7 HV
      refine hK.out _ _ hS7 (fun hHeld => ?_)
      clear hK K
      try simp only [List.getElem_toArray, List.getElem_cons_succ, List.getElem_cons_zero, Act.put, List.setIfInBounds_toArray, List.set_cons_zero, List.set_cons_succ]
      refine wpAnyH_ready (rs := [12]) (by kernel_rfl) (by simp) ?_
      refine AllReadyH.cons rfl (fun K hK => ?_) AllReadyH.nil
      go_simp
      refine Calls.mono HS7.out ?_
      rintro e w8 ⟨hb8, rfl⟩
      have hS8 : (fun w' => w'.heap[w.heap.size]? = some (.cells #[.bool xl, .slice ab m cb, .slice ai n ci] 25) ∧ w'.heap[b5]? = some (.cells #[.bool xl, .slice a5 m5 c5, .slice d5 n5 e5] 31)) w8 := ⟨(hb8.block _ (heap_lt hHeld.1)).trans hHeld.1, (hb8.block _ (heap_lt hHeld.2)).trans hHeld.2⟩
      have H8 : Hid (Below w.heap.size w w8) := H7.out.trans (hb8.mono H7.out.size)
      clear hb8 H7 HS7
      refine hK.out _ _ hS8 (fun hHeld => ?_)
      clear hK K
      try simp only [List.getElem_toArray, List.getElem_cons_succ, List.getElem_cons_zero, Act.put, List.setIfInBounds_toArray, List.set_cons_zero, List.set_cons_succ]
      refine wpAnyH_take (i := 13) (v := .bool true) rfl (by kernel_rfl) (by kernel_rfl) (by kernel_rfl) (fun _ _ _ h => h) (Or.inl ⟨by rfl, fun w9 hSw => ?_⟩) hHeld ?_
      · go_simp
      simp only [List.getElem_toArray, List.getElem_cons_succ, List.getElem_cons_zero, Act.put, List.setIfInBounds_toArray, List.set_cons_zero, List.set_cons_succ]
      refine wpAnyH_take (i := 14) (v := .bool true) rfl (by kernel_rfl) (by kernel_rfl) (by kernel_rfl) (fun _ _ _ h => h) (Or.inl ⟨by rfl, fun w9 hSw => ?_⟩) hHeld ?_
      · go_simp
      simp only [List.getElem_toArray, List.getElem_cons_succ, List.getElem_cons_zero, Act.put, List.setIfInBounds_toArray, List.set_cons_zero, List.set_cons_succ]
      refine wpAnyH_take (i := 15) (v := .int .i64 10) rfl (by kernel_rfl) (by kernel_rfl) (by kernel_rfl) (fun _ _ _ h => h) (Or.inl ⟨by rfl, fun w9 hSw => ?_⟩) hHeld ?_
      · go_simp
      simp only [List.getElem_toArray, List.getElem_cons_succ, List.getElem_cons_zero, Act.put, List.setIfInBounds_toArray, List.set_cons_zero, List.set_cons_succ]
      refine wpAnyH_take (i := 16) (v := .bool true) rfl (by kernel_rfl) (by kernel_rfl) (by kernel_rfl) (fun _ _ _ h => h) (Or.inl ⟨by rfl, fun w9 hSw => ?_⟩) hHeld ?_
      · go_simp
      simp only [List.getElem_toArray, List.getElem_cons_succ, List.getElem_cons_zero, Act.put, List.setIfInBounds_toArray, List.set_cons_zero, List.set_cons_succ]
      refine wpAnyH_take (i := 17) (v := .bool true) rfl (by kernel_rfl) (by kernel_rfl) (by kernel_rfl) (fun _ _ _ h => h) (Or.inl ⟨by rfl, fun w9 hSw => ?_⟩) hHeld ?_
      · go_simp
      simp only [List.getElem_toArray, List.getElem_cons_succ, List.getElem_cons_zero, Act.put, List.setIfInBounds_toArray, List.set_cons_zero, List.set_cons_succ]
      refine wpAnyH_take (i := 18) (v := .bool true) rfl (by kernel_rfl) (by kernel_rfl) (by kernel_rfl) (fun _ _ _ h => h) (Or.inl ⟨by rfl, fun w9 hSw => ?_⟩) hHeld ?_
      · go_simp
      simp only [List.getElem_toArray, List.getElem_cons_succ, List.getElem_cons_zero, Act.put, List.setIfInBounds_toArray, List.set_cons_zero, List.set_cons_succ]
      refine wpAnyH_ready (rs := [19]) (by kernel_rfl) (by simp) ?_
      refine AllReadyH.cons rfl (fun K hK => ?_) AllReadyH.nil
      go_simp
      refine Calls.mono alive_any ?_
      rintro e w10 ⟨hb10, rfl⟩
      have hS10 : (fun w' => w'.heap[w.heap.size]? = some (.cells #[.bool xl, .slice ab m cb, .slice ai n ci] 25) ∧ w'.heap[b5]? = some (.cells #[.bool xl, .slice a5 m5 c5, .slice d5 n5 e5] 31)) w10 := ⟨(hb10.block _ (heap_lt hHeld.1)).trans hHeld.1, (hb10.block _ (heap_lt hHeld.2)).trans hHeld.2⟩
      have H10 : Hid (Below w.heap.size w w10) := H8.out.trans (hb10.mono H8.out.size)
      clear hb10 H8
      refine hK.out _ _ hS10 (fun hHeld => ?_)
      clear hK K
      try simp only [List.getElem_toArray, List.getElem_cons_succ, List.getElem_cons_zero, Act.put, List.setIfInBounds_toArray, List.set_cons_zero, List.set_cons_succ]
      refine wpAnyH_take (i := 20) (v := .bool true) rfl (by kernel_rfl) (by kernel_rfl) (by kernel_rfl) (fun _ _ _ h => h) (Or.inl ⟨by rfl, fun w9 hSw => ?_⟩) hHeld ?_
      · go_simp
      simp only [List.getElem_toArray, List.getElem_cons_succ, List.getElem_cons_zero, Act.put, List.setIfInBounds_toArray, List.set_cons_zero, List.set_cons_succ]
      refine wpAnyH_take (i := 21) (v := .bool true) rfl (by kernel_rfl) (by kernel_rfl) (by kernel_rfl) (fun _ _ _ h => h) (Or.inl ⟨by rfl, fun w9 hSw => ?_⟩) hHeld ?_
      · go_simp
      simp only [List.getElem_toArray, List.getElem_cons_succ, List.getElem_cons_zero, Act.put, List.setIfInBounds_toArray, List.set_cons_zero, List.set_cons_succ]
      refine wpAnyH_done (by kernel_rfl) ?_ _
      simp only [noP]
      clear hHeld hS10 hS8 hS7 hS0
      go_wp2
      go_ret
      exact ⟨H10.out, rfl⟩
  · clear HO HA
    go_wp2_with fail
    refine Calls.mono alive_any ?_
    rintro e v3 ⟨hv3, rfl⟩
    have HV3 : Hid (Below w.heap.size w v3) := H2.out.1.trans (hv3.mono H2.out.1.size)
    clear hv3 H2
    go_wp2
    go_ret
    exact ⟨HV3.out, rfl⟩
end Go.Proofs.Ytmnlcpfehbpogaa
