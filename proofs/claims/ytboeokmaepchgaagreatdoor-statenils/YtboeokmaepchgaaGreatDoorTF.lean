/- trie: Compact, the program's and the reference's. -/
import Derived.Test.YtboeokmaepchgaaGreatDoorM10
namespace Go.Proofs.YtboeokmaepchgaaGreatDoor
open Go.RowKit Go.Maps Go.Joins Go.Shelf
set_option linter.unusedSimpArgs false
set_option linter.unusedVariables false
set_option maxRecDepth 100000 in
set_option maxHeartbeats 16000000 in
/-- The reference's Compact -/
theorem RCompact_any {w : World} {a : Option Addr} {cap : Nat} {ns : List Int} (b : Bool) (h : SrcN w a cap ns) :
    Calls Tryz.prog 6 #[.slice a ns.length cap, .bool b] w fun e w' => Below w.heap.size w w' ∧ CpQ w w' ns b e := by
  have HS : Hid (SrcN w a cap ns) := h
  obtain ⟨N, hN⟩ : ∃ N, N = ns.length := ⟨_, rfl⟩
  have HV : Hid (BytesV w (.slice a N cap) ns) := by show BytesV _ _ _; rw [hN]; exact h.is
  have hl := h.le
  rw [← hN] at hl ⊢
  have HN : Hid (N = ns.length) := hN
  clear h hN
  go_enter Tryz.func6, Tryz.ntmps6
  go_wp2_with fail
  go_loopw [6] (fun i wr => ∃ (j : Nat), j ≤ N ∧ i = .int .i64 j ∧ wr = w ∧ Hid (∀ c ∈ ns.take j, c ≤ 15)) (fun i _ => N - (intOf i).toNat)
  case atStart => exact ⟨0, Nat.zero_le _, rfl, rfl, fun c hc => by simp at hc⟩
  case round =>
    obtain ⟨j, hj, rfl, hwr, HI⟩ := hrel
    obtain rfl := hwr.symm
    by_cases hjk : j < N
    · have hki : (j : Int) < N := by omega
      obtain ⟨y, hy⟩ : ∃ y, ns[j]? = some y := ⟨_, List.getElem?_eq_getElem (by have := HN.out; omega)⟩
      obtain ⟨g, o, rfl, kc⟩ := HV.out.at hy
      by_cases hb : 15 < y
      · have HE : Hid (nibOk ns = false) := nibOk_not hy hb
        clear hy
        go_wp2
        go_ret2
        exact ⟨Below.refl _ _, cpq_no HE.out⟩
      · have HE : Hid (∀ c ∈ ns.take (j + 1), c ≤ 15) := fun c hc => by
          rw [List.take_add_one, hy] at hc
          rcases List.mem_append.1 hc with hc | hc
          · exact HI.out c hc
          · obtain rfl := List.mem_singleton.1 hc
            omega
        clear hy
        go_wp2
        go_roundw
        case rel => exact ⟨j + 1, by omega, by go_num, by trivial, HE.out⟩
        case measure => simp [intOf]; omega
    · have hki : ¬ (j : Int) < N := by omega
      have hok : nibOk ns = true := nibOk_of (by have := HI.out; rw [List.take_of_length_le (by have := HN.out; omega)] at this; exact this)
      have HK : Hid (Nib ns) := nibOk_nib hok HS.out.by'
      have HOK : Hid (nibOk ns = true) := hok
      clear hok HI hjk hj
      by_cases hp : N % 2 = 1
      · cases b with
        | true =>
          have hr : Int.tmod (N : Int) 2 = (1 : Int) := by rw [Int.tmod_eq_emod_of_nonneg (by omega)]; have := HN.out; omega
          obtain ⟨x, hx⟩ : ∃ x, ns[0]? = some x := ⟨_, List.getElem?_eq_getElem (by have := HN.out; omega)⟩
          have hxb := HK.out x (List.mem_of_getElem? hx)
          obtain ⟨g0, o0, rfl, kx⟩ := HV.out.at hx
          rw [Nat.add_zero] at kx
          have hsl := slL2 w g0 o0 N cap 1 1 rfl (by omega)
          have hw1 : IntKind.u8.wrap (48 + x) = 48 + x := by rw [IntKind.wrap_u8]; omega
          have hw0 : IntKind.u8.wrap (32 + 16) = 48 := by decide
          obtain ⟨o1, ho1⟩ : ∃ o1, o1 = (if cap = 1 then o0 else o0 + 1) := ⟨_, rfl⟩
          rw [← ho1] at hsl
          have HM : Hid (BytesV w (.slice (some ⟨g0, o1, none⟩) (N - 1) (cap - 1)) (ns.drop 1)) := by show BytesV _ _ _; rw [ho1]; exact HV.out.drop' (by have := HN.out; omega) HS.out.cp
          obtain ⟨ms, hms⟩ : ∃ ms, ms = ns.drop 1 := ⟨_, rfl⟩
          obtain ⟨K, hK⟩ : ∃ K, K = N - 1 := ⟨_, rfl⟩
          obtain ⟨C, hC⟩ : ∃ C, C = cap - 1 := ⟨_, rfl⟩
          rw [← hms, ← hK, ← hC] at HM
          rw [← hK, ← hC] at hsl
          have HE : Hid (cpB ns true = (48 + x) :: jnB ms ∧ Nib ms ∧ K = ms.length ∧ K % 2 = 0 ∧ K ≤ 15000000) := by
            refine ⟨?_, ?_, ?_, ?_, ?_⟩
            · have e : ns = x :: ms := by
                rw [hms]
                cases ns with
                | nil => simp at hx
                | cons q r => simp at hx; subst hx; rfl
              rw [cpB_odd (by have := HN.out; omega), e]
              show (16 * (flB true + 1) + x) :: jnB ms = _
              congr 1
            · rw [hms]; exact fun c hc => HK.out c (List.mem_of_mem_drop hc)
            · rw [hms, hK, List.length_drop, HN.out]
            · omega
            · omega
          have hKi : K ≤ 15000000 := HE.out.2.2.2.2
          clear hx ho1 hms hK hC
          have hB0 : Below w.heap.size w (w.alloc (.cells #[.int .u8 (48 + x)] 5)) := by go_grown
          have H0 : Hid (RbJ w (w.alloc (.cells #[.int .u8 (48 + x)] 5)) (.slice (some ⟨w.heap.size, 0, none⟩) 1 1) [(48 + x)]) := ⟨own_newL w w.heap.size [(48 + x)] (0, 0) (Nat.le_refl _) (by simp) rfl, hB0⟩
          clear hB0
          go_wp2_with fail
          generalize (w.alloc (.cells #[.int .u8 (48 + x)] 5)) = W0 at H0 ⊢
          go_loopw [8, 9] (fun u i wr => ∃ (j k : Nat) (v : Value) (out : List Int), k ≤ K ∧ u = v ∧ i = .int .i64 k ∧ Hid (k = 2 * j ∧ out = (48 + x) :: (jnB ms).take j ∧ out.length = j + 1 ∧ RbJ w wr v out)) (fun _ i _ => K - (intOf i).toNat)
          case atStart => exact ⟨0, 0, _, _, by omega, rfl, rfl, rfl, rfl, rfl, H0.out⟩
          case round =>
            obtain ⟨j, k, v, out, hj, rfl, rfl, HI0⟩ := hrel
            have HKJ : Hid (k = 2 * j) := HI0.out.1
            have HI : Hid _ := HI0.out.2
            clear HI0
            obtain ⟨a', c, rfl⟩ := row_form HI.out.2.2.row
            obtain ⟨no, hno⟩ : ∃ no, no = out.length := ⟨_, rfl⟩
            rw [← hno] at HI ⊢
            have HNO : Hid (no = out.length) := hno
            clear hno
            by_cases hjk : k < K
            · have hki : (k : Int) < K := by omega
              have hj1 : k + 1 < K := by have := HE.out.2.2.2.1; have := HKJ.out; omega
              obtain ⟨k1, hk1⟩ : ∃ k1, k1 = k + 1 := ⟨_, rfl⟩
              have hwk : IntKind.i64.wrap ((k : Int) + 1) = (k1 : Int) := by rw [IntKind.wrap_i64]; omega
              have hk1i : (k1 : Int) < K := by omega
              have HK1 : Hid (k1 = k + 1) := hk1
              obtain ⟨y, hy⟩ : ∃ y, ms[k]? = some y := ⟨_, List.getElem?_eq_getElem (by have := HE.out.2.2.1; omega)⟩
              obtain ⟨z, hz⟩ : ∃ z, ms[k1]? = some z := ⟨_, List.getElem?_eq_getElem (by have := HE.out.2.2.1; omega)⟩
              have hyb := HE.out.2.1 y (List.mem_of_getElem? hy)
              have hzb := HE.out.2.1 z (List.mem_of_getElem? hz)
              obtain ⟨g, o, e, ky⟩ := HM.out.at hy
              cases e
              obtain ⟨g, o, e, kz⟩ := HM.out.at hz
              cases e
              have HP : Hid (∀ W : World, Below w.heap.size w W → (fun w' : World => w'.cell? ⟨g0, o1 + k, none⟩ = some (.int .u8 y) ∧ w'.cell? ⟨g0, o1 + k1, none⟩ = some (.int .u8 z)) W) := fun W hb => ⟨(hb.cell (p := ⟨g0, o1 + k, none⟩) (cell_lt ky)).trans ky, (hb.cell (p := ⟨g0, o1 + k1, none⟩) (cell_lt kz)).trans kz⟩
              have hor := or16 y z hyb.1 hyb.2 hzb.1 hzb.2
              have hw2 : IntKind.u8.wrap (y * 16) = y * 16 := by rw [IntKind.wrap_u8]; omega
              have HT : Hid ((jnB ms).take (j + 1) = (jnB ms).take j ++ [16 * y + z]) := by show _ = _; rw [List.take_add_one, jnB_at ms j y z (by rw [← HKJ.out]; exact hy) (by rw [← HKJ.out, ← HK1.out]; exact hz)]; rfl
              clear hy hz ky kz hk1 hj1
              go_wp2_with fail
              refine wp_noP ?_
              refine wp_region_held_drew (S := (fun w' : World => w'.cell? ⟨g0, o1 + k, none⟩ = some (.int .u8 y) ∧ w'.cell? ⟨g0, o1 + k1, none⟩ = some (.int .u8 z))) (by kernel_rfl) (HP.out wr.drew HI.out.2.2.drew.bl) (fun hHeld => ?_)
              have G0 : Hid (RbJ w wr.drew (.slice a' no c) out) := HI.out.2.2.drew
              generalize wr.drew = U at G0 hHeld ⊢
              refine wpAnyH_take (i := 0) (v := .slice a' no c) rfl (by kernel_rfl) (by kernel_rfl) (by kernel_rfl) (fun _ _ _ h => h) (Or.inl ⟨by rfl, fun w9 hSw => ?_⟩) hHeld ?_
              · go_simp
              simp only [List.getElem_toArray, List.getElem_cons_succ, List.getElem_cons_zero, Act.put, List.setIfInBounds_toArray, List.set_cons_zero, List.set_cons_succ]
              refine wpAnyH_take (i := 1) (v := .slice (some ⟨g0, o1, none⟩) K C) rfl (by kernel_rfl) (by kernel_rfl) (by kernel_rfl) (fun _ _ _ h => h) (Or.inl ⟨by rfl, fun w9 hSw => ?_⟩) hHeld ?_
              · go_simp
              simp only [List.getElem_toArray, List.getElem_cons_succ, List.getElem_cons_zero, Act.put, List.setIfInBounds_toArray, List.set_cons_zero, List.set_cons_succ]
              refine wpAnyH_take (i := 2) (v := .int .i64 k) rfl (by kernel_rfl) (by kernel_rfl) (by kernel_rfl) (fun _ _ _ h => h) (Or.inl ⟨by rfl, fun w9 hSw => ?_⟩) hHeld ?_
              · go_simp
              simp only [List.getElem_toArray, List.getElem_cons_succ, List.getElem_cons_zero, Act.put, List.setIfInBounds_toArray, List.set_cons_zero, List.set_cons_succ]
              refine wpAnyH_take (i := 3) (v := .pointer (some ⟨g0, o1 + k, none⟩)) rfl (by kernel_rfl) (by kernel_rfl) (by kernel_rfl) (fun _ _ _ h => h) (Or.inl ⟨by rfl, fun w9 hSw => ?_⟩) hHeld ?_
              · go_simp
              simp only [List.getElem_toArray, List.getElem_cons_succ, List.getElem_cons_zero, Act.put, List.setIfInBounds_toArray, List.set_cons_zero, List.set_cons_succ]
              refine wpAnyH_take (i := 4) (v := .int .u8 y) rfl (by kernel_rfl) (by kernel_rfl) (by kernel_rfl) (fun _ _ _ h => h) (Or.inl ⟨by rfl, fun w9 hSw => ?_⟩) hHeld ?_
              · have x0 := hSw.1
                have x1 := hSw.2
                go_simp
              simp only [List.getElem_toArray, List.getElem_cons_succ, List.getElem_cons_zero, Act.put, List.setIfInBounds_toArray, List.set_cons_zero, List.set_cons_succ]
              refine wpAnyH_take (i := 5) (v := .int .u8 (y * 16)) rfl (by kernel_rfl) (by kernel_rfl) (by kernel_rfl) (fun _ _ _ h => h) (Or.inl ⟨by rfl, fun w9 hSw => ?_⟩) hHeld ?_
              · go_simp
              simp only [List.getElem_toArray, List.getElem_cons_succ, List.getElem_cons_zero, Act.put, List.setIfInBounds_toArray, List.set_cons_zero, List.set_cons_succ]
              refine wpAnyH_take (i := 6) (v := .slice (some ⟨g0, o1, none⟩) K C) rfl (by kernel_rfl) (by kernel_rfl) (by kernel_rfl) (fun _ _ _ h => h) (Or.inl ⟨by rfl, fun w9 hSw => ?_⟩) hHeld ?_
              · go_simp
              simp only [List.getElem_toArray, List.getElem_cons_succ, List.getElem_cons_zero, Act.put, List.setIfInBounds_toArray, List.set_cons_zero, List.set_cons_succ]
              refine wpAnyH_take (i := 7) (v := .int .i64 k) rfl (by kernel_rfl) (by kernel_rfl) (by kernel_rfl) (fun _ _ _ h => h) (Or.inl ⟨by rfl, fun w9 hSw => ?_⟩) hHeld ?_
              · go_simp
              simp only [List.getElem_toArray, List.getElem_cons_succ, List.getElem_cons_zero, Act.put, List.setIfInBounds_toArray, List.set_cons_zero, List.set_cons_succ]
              refine wpAnyH_take (i := 8) (v := .int .i64 k1) rfl (by kernel_rfl) (by kernel_rfl) (by kernel_rfl) (fun _ _ _ h => h) (Or.inl ⟨by rfl, fun w9 hSw => ?_⟩) hHeld ?_
              · go_simp
              simp only [List.getElem_toArray, List.getElem_cons_succ, List.getElem_cons_zero, Act.put, List.setIfInBounds_toArray, List.set_cons_zero, List.set_cons_succ]
              refine wpAnyH_take (i := 9) (v := .pointer (some ⟨g0, o1 + k1, none⟩)) rfl (by kernel_rfl) (by kernel_rfl) (by kernel_rfl) (fun _ _ _ h => h) (Or.inl ⟨by rfl, fun w9 hSw => ?_⟩) hHeld ?_
              · go_simp
              simp only [List.getElem_toArray, List.getElem_cons_succ, List.getElem_cons_zero, Act.put, List.setIfInBounds_toArray, List.set_cons_zero, List.set_cons_succ]
              refine wpAnyH_take (i := 10) (v := .int .u8 z) rfl (by kernel_rfl) (by kernel_rfl) (by kernel_rfl) (fun _ _ _ h => h) (Or.inl ⟨by rfl, fun w9 hSw => ?_⟩) hHeld ?_
              · have x0 := hSw.1
                have x1 := hSw.2
                go_simp
              simp only [List.getElem_toArray, List.getElem_cons_succ, List.getElem_cons_zero, Act.put, List.setIfInBounds_toArray, List.set_cons_zero, List.set_cons_succ]
              refine wpAnyH_take (i := 11) (v := .int .u8 (16 * y + z)) rfl (by kernel_rfl) (by kernel_rfl) (by kernel_rfl) (fun _ _ _ h => h) (Or.inl ⟨by rfl, fun w9 hSw => ?_⟩) hHeld ?_
              · go_simp
              simp only [List.getElem_toArray, List.getElem_cons_succ, List.getElem_cons_zero, Act.put, List.setIfInBounds_toArray, List.set_cons_zero, List.set_cons_succ]
              refine wpAnyH_ready (rs := [12]) (by kernel_rfl) (by simp) ?_
              refine AllReadyH.cons rfl (fun K hK => ?_) AllReadyH.nil
              go_simp
              have hA : Below U.heap.size U (U.alloc (.cells #[.int .u8 (16 * y + z)] 5)) := by go_grown
              have G1 : Hid (RbJ w (U.alloc (.cells #[.int .u8 (16 * y + z)] 5)) (.slice a' no c) out ∧ BytesV (U.alloc (.cells #[.int .u8 (16 * y + z)] 5)) (.slice (some ⟨U.heap.size, 0, none⟩) 1 1) [16 * y + z]) := ⟨G0.out.below hA, one_b U _⟩
              clear hA G0
              generalize (U.alloc (.cells #[.int .u8 (16 * y + z)] 5)) = U1 at G1 ⊢
              refine hK.out _ _ (HP.out _ G1.out.1.bl) (fun hHeld => ?_)
              clear hK K
              try simp only [List.getElem_toArray, List.getElem_cons_succ, List.getElem_cons_zero, Act.put, List.setIfInBounds_toArray, List.set_cons_zero, List.set_cons_succ]
              refine wpAnyH_ready (rs := [13]) (by kernel_rfl) (by simp) ?_
              refine AllReadyH.cons rfl (fun K hK => ?_) AllReadyH.nil
              refine step_append_b (by rfl) _ _ (by rfl) w.heap.size (.slice a' no c) (.slice (some ⟨U.heap.size, 0, none⟩) 1 1) out [16 * y + z] (by rfl) (by have := G1.out.1.row; rw [HNO.out] at this ⊢; exact this) (by rfl) G1.out.2 (by have := HI.out.2.1; have := HNO.out; have := HKJ.out; simp; omega) G1.out.1.bl.size ?_
              intro v1 B1 ho hg ha
              obtain ⟨a1, d1, rfl⟩ := row_form ho
              have G2 : Hid (RbJ w B1 (.slice a1 (out ++ [16 * y + z]).length d1) (out ++ [16 * y + z])) := G1.out.1.add ho hg
              obtain ⟨q1, hq1⟩ : ∃ q1, q1 = (out ++ [16 * y + z]).length := ⟨_, rfl⟩
              rw [← hq1] at G2 ⊢
              clear ho hg ha hq1 G1
              refine hK.out _ _ (HP.out _ G2.out.bl) (fun hHeld => ?_)
              clear hK K
              try simp only [List.getElem_toArray, List.getElem_cons_succ, List.getElem_cons_zero, Act.put, List.setIfInBounds_toArray, List.set_cons_zero, List.set_cons_succ]
              refine wpAnyH_take (i := 14) (v := .slice a1 q1 d1) rfl (by kernel_rfl) (by kernel_rfl) (by kernel_rfl) (fun _ _ _ h => h) (Or.inl ⟨by rfl, fun w9 hSw => ?_⟩) hHeld ?_
              · go_simp
              simp only [List.getElem_toArray, List.getElem_cons_succ, List.getElem_cons_zero, Act.put, List.setIfInBounds_toArray, List.set_cons_zero, List.set_cons_succ]
              refine wpAnyH_done (by kernel_rfl) ?_ _
              simp only [noP]
              clear hHeld
              go_wp2
              go_roundw
              case rel => exact ⟨j + 1, k + 2, _, _, by have := HKJ.out; have := HE.out.2.2.2.1; omega, rfl, by go_num, by have := HKJ.out; omega, by rw [HI.out.1, HT.out]; rfl, by have := HI.out.2.1; have := HNO.out; simp; omega, G2.out⟩
              case measure => simp [intOf]; omega
            · have hki : ¬ (k : Int) < K := by omega
              go_wp2
              go_ret2
              have e : out = cpB ns true := by rw [HI.out.1, HE.out.1, List.take_of_length_le (by rw [jnB_length]; have := HE.out.2.2.1; have := HKJ.out; omega)]
              have h1 := HI.out.2.2.row
              have hn : no = (cpB ns true).length := by rw [HNO.out, e]
              rw [e] at h1
              rw [hn] at h1 ⊢
              exact ⟨HI.out.2.2.bl, cpq_yes HOK.out h1⟩
        | false =>
          have hr : Int.tmod (N : Int) 2 = (1 : Int) := by rw [Int.tmod_eq_emod_of_nonneg (by omega)]; have := HN.out; omega
          obtain ⟨x, hx⟩ : ∃ x, ns[0]? = some x := ⟨_, List.getElem?_eq_getElem (by have := HN.out; omega)⟩
          have hxb := HK.out x (List.mem_of_getElem? hx)
          obtain ⟨g0, o0, rfl, kx⟩ := HV.out.at hx
          rw [Nat.add_zero] at kx
          have hsl := slL2 w g0 o0 N cap 1 1 rfl (by omega)
          have hw1 : IntKind.u8.wrap (16 + x) = 16 + x := by rw [IntKind.wrap_u8]; omega
          have hw0 : IntKind.u8.wrap (0 + 16) = 16 := by decide
          obtain ⟨o1, ho1⟩ : ∃ o1, o1 = (if cap = 1 then o0 else o0 + 1) := ⟨_, rfl⟩
          rw [← ho1] at hsl
          have HM : Hid (BytesV w (.slice (some ⟨g0, o1, none⟩) (N - 1) (cap - 1)) (ns.drop 1)) := by show BytesV _ _ _; rw [ho1]; exact HV.out.drop' (by have := HN.out; omega) HS.out.cp
          obtain ⟨ms, hms⟩ : ∃ ms, ms = ns.drop 1 := ⟨_, rfl⟩
          obtain ⟨K, hK⟩ : ∃ K, K = N - 1 := ⟨_, rfl⟩
          obtain ⟨C, hC⟩ : ∃ C, C = cap - 1 := ⟨_, rfl⟩
          rw [← hms, ← hK, ← hC] at HM
          rw [← hK, ← hC] at hsl
          have HE : Hid (cpB ns false = (16 + x) :: jnB ms ∧ Nib ms ∧ K = ms.length ∧ K % 2 = 0 ∧ K ≤ 15000000) := by
            refine ⟨?_, ?_, ?_, ?_, ?_⟩
            · have e : ns = x :: ms := by
                rw [hms]
                cases ns with
                | nil => simp at hx
                | cons q r => simp at hx; subst hx; rfl
              rw [cpB_odd (by have := HN.out; omega), e]
              show (16 * (flB false + 1) + x) :: jnB ms = _
              congr 1
            · rw [hms]; exact fun c hc => HK.out c (List.mem_of_mem_drop hc)
            · rw [hms, hK, List.length_drop, HN.out]
            · omega
            · omega
          have hKi : K ≤ 15000000 := HE.out.2.2.2.2
          clear hx ho1 hms hK hC
          have hB0 : Below w.heap.size w (w.alloc (.cells #[.int .u8 (16 + x)] 5)) := by go_grown
          have H0 : Hid (RbJ w (w.alloc (.cells #[.int .u8 (16 + x)] 5)) (.slice (some ⟨w.heap.size, 0, none⟩) 1 1) [(16 + x)]) := ⟨own_newL w w.heap.size [(16 + x)] (0, 0) (Nat.le_refl _) (by simp) rfl, hB0⟩
          clear hB0
          go_wp2_with fail
          generalize (w.alloc (.cells #[.int .u8 (16 + x)] 5)) = W0 at H0 ⊢
          go_loopw [8, 9] (fun u i wr => ∃ (j k : Nat) (v : Value) (out : List Int), k ≤ K ∧ u = v ∧ i = .int .i64 k ∧ Hid (k = 2 * j ∧ out = (16 + x) :: (jnB ms).take j ∧ out.length = j + 1 ∧ RbJ w wr v out)) (fun _ i _ => K - (intOf i).toNat)
          case atStart => exact ⟨0, 0, _, _, by omega, rfl, rfl, rfl, rfl, rfl, H0.out⟩
          case round =>
            obtain ⟨j, k, v, out, hj, rfl, rfl, HI0⟩ := hrel
            have HKJ : Hid (k = 2 * j) := HI0.out.1
            have HI : Hid _ := HI0.out.2
            clear HI0
            obtain ⟨a', c, rfl⟩ := row_form HI.out.2.2.row
            obtain ⟨no, hno⟩ : ∃ no, no = out.length := ⟨_, rfl⟩
            rw [← hno] at HI ⊢
            have HNO : Hid (no = out.length) := hno
            clear hno
            by_cases hjk : k < K
            · have hki : (k : Int) < K := by omega
              have hj1 : k + 1 < K := by have := HE.out.2.2.2.1; have := HKJ.out; omega
              obtain ⟨k1, hk1⟩ : ∃ k1, k1 = k + 1 := ⟨_, rfl⟩
              have hwk : IntKind.i64.wrap ((k : Int) + 1) = (k1 : Int) := by rw [IntKind.wrap_i64]; omega
              have hk1i : (k1 : Int) < K := by omega
              have HK1 : Hid (k1 = k + 1) := hk1
              obtain ⟨y, hy⟩ : ∃ y, ms[k]? = some y := ⟨_, List.getElem?_eq_getElem (by have := HE.out.2.2.1; omega)⟩
              obtain ⟨z, hz⟩ : ∃ z, ms[k1]? = some z := ⟨_, List.getElem?_eq_getElem (by have := HE.out.2.2.1; omega)⟩
              have hyb := HE.out.2.1 y (List.mem_of_getElem? hy)
              have hzb := HE.out.2.1 z (List.mem_of_getElem? hz)
              obtain ⟨g, o, e, ky⟩ := HM.out.at hy
              cases e
              obtain ⟨g, o, e, kz⟩ := HM.out.at hz
              cases e
              have HP : Hid (∀ W : World, Below w.heap.size w W → (fun w' : World => w'.cell? ⟨g0, o1 + k, none⟩ = some (.int .u8 y) ∧ w'.cell? ⟨g0, o1 + k1, none⟩ = some (.int .u8 z)) W) := fun W hb => ⟨(hb.cell (p := ⟨g0, o1 + k, none⟩) (cell_lt ky)).trans ky, (hb.cell (p := ⟨g0, o1 + k1, none⟩) (cell_lt kz)).trans kz⟩
              have hor := or16 y z hyb.1 hyb.2 hzb.1 hzb.2
              have hw2 : IntKind.u8.wrap (y * 16) = y * 16 := by rw [IntKind.wrap_u8]; omega
              have HT : Hid ((jnB ms).take (j + 1) = (jnB ms).take j ++ [16 * y + z]) := by show _ = _; rw [List.take_add_one, jnB_at ms j y z (by rw [← HKJ.out]; exact hy) (by rw [← HKJ.out, ← HK1.out]; exact hz)]; rfl
              clear hy hz ky kz hk1 hj1
              go_wp2_with fail
              refine wp_noP ?_
              refine wp_region_held_drew (S := (fun w' : World => w'.cell? ⟨g0, o1 + k, none⟩ = some (.int .u8 y) ∧ w'.cell? ⟨g0, o1 + k1, none⟩ = some (.int .u8 z))) (by kernel_rfl) (HP.out wr.drew HI.out.2.2.drew.bl) (fun hHeld => ?_)
              have G0 : Hid (RbJ w wr.drew (.slice a' no c) out) := HI.out.2.2.drew
              generalize wr.drew = U at G0 hHeld ⊢
              refine wpAnyH_take (i := 0) (v := .slice a' no c) rfl (by kernel_rfl) (by kernel_rfl) (by kernel_rfl) (fun _ _ _ h => h) (Or.inl ⟨by rfl, fun w9 hSw => ?_⟩) hHeld ?_
              · go_simp
              simp only [List.getElem_toArray, List.getElem_cons_succ, List.getElem_cons_zero, Act.put, List.setIfInBounds_toArray, List.set_cons_zero, List.set_cons_succ]
              refine wpAnyH_take (i := 1) (v := .slice (some ⟨g0, o1, none⟩) K C) rfl (by kernel_rfl) (by kernel_rfl) (by kernel_rfl) (fun _ _ _ h => h) (Or.inl ⟨by rfl, fun w9 hSw => ?_⟩) hHeld ?_
              · go_simp
              simp only [List.getElem_toArray, List.getElem_cons_succ, List.getElem_cons_zero, Act.put, List.setIfInBounds_toArray, List.set_cons_zero, List.set_cons_succ]
              refine wpAnyH_take (i := 2) (v := .int .i64 k) rfl (by kernel_rfl) (by kernel_rfl) (by kernel_rfl) (fun _ _ _ h => h) (Or.inl ⟨by rfl, fun w9 hSw => ?_⟩) hHeld ?_
              · go_simp
              simp only [List.getElem_toArray, List.getElem_cons_succ, List.getElem_cons_zero, Act.put, List.setIfInBounds_toArray, List.set_cons_zero, List.set_cons_succ]
              refine wpAnyH_take (i := 3) (v := .pointer (some ⟨g0, o1 + k, none⟩)) rfl (by kernel_rfl) (by kernel_rfl) (by kernel_rfl) (fun _ _ _ h => h) (Or.inl ⟨by rfl, fun w9 hSw => ?_⟩) hHeld ?_
              · go_simp
              simp only [List.getElem_toArray, List.getElem_cons_succ, List.getElem_cons_zero, Act.put, List.setIfInBounds_toArray, List.set_cons_zero, List.set_cons_succ]
              refine wpAnyH_take (i := 4) (v := .int .u8 y) rfl (by kernel_rfl) (by kernel_rfl) (by kernel_rfl) (fun _ _ _ h => h) (Or.inl ⟨by rfl, fun w9 hSw => ?_⟩) hHeld ?_
              · have x0 := hSw.1
                have x1 := hSw.2
                go_simp
              simp only [List.getElem_toArray, List.getElem_cons_succ, List.getElem_cons_zero, Act.put, List.setIfInBounds_toArray, List.set_cons_zero, List.set_cons_succ]
              refine wpAnyH_take (i := 5) (v := .int .u8 (y * 16)) rfl (by kernel_rfl) (by kernel_rfl) (by kernel_rfl) (fun _ _ _ h => h) (Or.inl ⟨by rfl, fun w9 hSw => ?_⟩) hHeld ?_
              · go_simp
              simp only [List.getElem_toArray, List.getElem_cons_succ, List.getElem_cons_zero, Act.put, List.setIfInBounds_toArray, List.set_cons_zero, List.set_cons_succ]
              refine wpAnyH_take (i := 6) (v := .slice (some ⟨g0, o1, none⟩) K C) rfl (by kernel_rfl) (by kernel_rfl) (by kernel_rfl) (fun _ _ _ h => h) (Or.inl ⟨by rfl, fun w9 hSw => ?_⟩) hHeld ?_
              · go_simp
              simp only [List.getElem_toArray, List.getElem_cons_succ, List.getElem_cons_zero, Act.put, List.setIfInBounds_toArray, List.set_cons_zero, List.set_cons_succ]
              refine wpAnyH_take (i := 7) (v := .int .i64 k) rfl (by kernel_rfl) (by kernel_rfl) (by kernel_rfl) (fun _ _ _ h => h) (Or.inl ⟨by rfl, fun w9 hSw => ?_⟩) hHeld ?_
              · go_simp
              simp only [List.getElem_toArray, List.getElem_cons_succ, List.getElem_cons_zero, Act.put, List.setIfInBounds_toArray, List.set_cons_zero, List.set_cons_succ]
              refine wpAnyH_take (i := 8) (v := .int .i64 k1) rfl (by kernel_rfl) (by kernel_rfl) (by kernel_rfl) (fun _ _ _ h => h) (Or.inl ⟨by rfl, fun w9 hSw => ?_⟩) hHeld ?_
              · go_simp
              simp only [List.getElem_toArray, List.getElem_cons_succ, List.getElem_cons_zero, Act.put, List.setIfInBounds_toArray, List.set_cons_zero, List.set_cons_succ]
              refine wpAnyH_take (i := 9) (v := .pointer (some ⟨g0, o1 + k1, none⟩)) rfl (by kernel_rfl) (by kernel_rfl) (by kernel_rfl) (fun _ _ _ h => h) (Or.inl ⟨by rfl, fun w9 hSw => ?_⟩) hHeld ?_
              · go_simp
              simp only [List.getElem_toArray, List.getElem_cons_succ, List.getElem_cons_zero, Act.put, List.setIfInBounds_toArray, List.set_cons_zero, List.set_cons_succ]
              refine wpAnyH_take (i := 10) (v := .int .u8 z) rfl (by kernel_rfl) (by kernel_rfl) (by kernel_rfl) (fun _ _ _ h => h) (Or.inl ⟨by rfl, fun w9 hSw => ?_⟩) hHeld ?_
              · have x0 := hSw.1
                have x1 := hSw.2
                go_simp
              simp only [List.getElem_toArray, List.getElem_cons_succ, List.getElem_cons_zero, Act.put, List.setIfInBounds_toArray, List.set_cons_zero, List.set_cons_succ]
              refine wpAnyH_take (i := 11) (v := .int .u8 (16 * y + z)) rfl (by kernel_rfl) (by kernel_rfl) (by kernel_rfl) (fun _ _ _ h => h) (Or.inl ⟨by rfl, fun w9 hSw => ?_⟩) hHeld ?_
              · go_simp
              simp only [List.getElem_toArray, List.getElem_cons_succ, List.getElem_cons_zero, Act.put, List.setIfInBounds_toArray, List.set_cons_zero, List.set_cons_succ]
              refine wpAnyH_ready (rs := [12]) (by kernel_rfl) (by simp) ?_
              refine AllReadyH.cons rfl (fun K hK => ?_) AllReadyH.nil
              go_simp
              have hA : Below U.heap.size U (U.alloc (.cells #[.int .u8 (16 * y + z)] 5)) := by go_grown
              have G1 : Hid (RbJ w (U.alloc (.cells #[.int .u8 (16 * y + z)] 5)) (.slice a' no c) out ∧ BytesV (U.alloc (.cells #[.int .u8 (16 * y + z)] 5)) (.slice (some ⟨U.heap.size, 0, none⟩) 1 1) [16 * y + z]) := ⟨G0.out.below hA, one_b U _⟩
              clear hA G0
              generalize (U.alloc (.cells #[.int .u8 (16 * y + z)] 5)) = U1 at G1 ⊢
              refine hK.out _ _ (HP.out _ G1.out.1.bl) (fun hHeld => ?_)
              clear hK K
              try simp only [List.getElem_toArray, List.getElem_cons_succ, List.getElem_cons_zero, Act.put, List.setIfInBounds_toArray, List.set_cons_zero, List.set_cons_succ]
              refine wpAnyH_ready (rs := [13]) (by kernel_rfl) (by simp) ?_
              refine AllReadyH.cons rfl (fun K hK => ?_) AllReadyH.nil
              refine step_append_b (by rfl) _ _ (by rfl) w.heap.size (.slice a' no c) (.slice (some ⟨U.heap.size, 0, none⟩) 1 1) out [16 * y + z] (by rfl) (by have := G1.out.1.row; rw [HNO.out] at this ⊢; exact this) (by rfl) G1.out.2 (by have := HI.out.2.1; have := HNO.out; have := HKJ.out; simp; omega) G1.out.1.bl.size ?_
              intro v1 B1 ho hg ha
              obtain ⟨a1, d1, rfl⟩ := row_form ho
              have G2 : Hid (RbJ w B1 (.slice a1 (out ++ [16 * y + z]).length d1) (out ++ [16 * y + z])) := G1.out.1.add ho hg
              obtain ⟨q1, hq1⟩ : ∃ q1, q1 = (out ++ [16 * y + z]).length := ⟨_, rfl⟩
              rw [← hq1] at G2 ⊢
              clear ho hg ha hq1 G1
              refine hK.out _ _ (HP.out _ G2.out.bl) (fun hHeld => ?_)
              clear hK K
              try simp only [List.getElem_toArray, List.getElem_cons_succ, List.getElem_cons_zero, Act.put, List.setIfInBounds_toArray, List.set_cons_zero, List.set_cons_succ]
              refine wpAnyH_take (i := 14) (v := .slice a1 q1 d1) rfl (by kernel_rfl) (by kernel_rfl) (by kernel_rfl) (fun _ _ _ h => h) (Or.inl ⟨by rfl, fun w9 hSw => ?_⟩) hHeld ?_
              · go_simp
              simp only [List.getElem_toArray, List.getElem_cons_succ, List.getElem_cons_zero, Act.put, List.setIfInBounds_toArray, List.set_cons_zero, List.set_cons_succ]
              refine wpAnyH_done (by kernel_rfl) ?_ _
              simp only [noP]
              clear hHeld
              go_wp2
              go_roundw
              case rel => exact ⟨j + 1, k + 2, _, _, by have := HKJ.out; have := HE.out.2.2.2.1; omega, rfl, by go_num, by have := HKJ.out; omega, by rw [HI.out.1, HT.out]; rfl, by have := HI.out.2.1; have := HNO.out; simp; omega, G2.out⟩
              case measure => simp [intOf]; omega
            · have hki : ¬ (k : Int) < K := by omega
              go_wp2
              go_ret2
              have e : out = cpB ns false := by rw [HI.out.1, HE.out.1, List.take_of_length_le (by rw [jnB_length]; have := HE.out.2.2.1; have := HKJ.out; omega)]
              have h1 := HI.out.2.2.row
              have hn : no = (cpB ns false).length := by rw [HNO.out, e]
              rw [e] at h1
              rw [hn] at h1 ⊢
              exact ⟨HI.out.2.2.bl, cpq_yes HOK.out h1⟩
      · cases b with
        | true =>
          have hr : Int.tmod (N : Int) 2 = (0 : Int) := by rw [Int.tmod_eq_emod_of_nonneg (by omega)]; have := HN.out; omega
          have HM : Hid (BytesV w (.slice a N cap) ns) := HV.out
          have HE : Hid (cpB ns true = 32 :: jnB ns ∧ Nib ns ∧ N = ns.length ∧ N % 2 = 0 ∧ N ≤ 15000000) := by
            refine ⟨?_, HK.out, HN.out, by omega, hl⟩
            rw [cpB_even (by have := HN.out; omega)]
            rfl
          have hB0 : Below w.heap.size w (w.alloc (.cells #[.int .u8 32] 5)) := by go_grown
          have H0 : Hid (RbJ w (w.alloc (.cells #[.int .u8 32] 5)) (.slice (some ⟨w.heap.size, 0, none⟩) 1 1) [32]) := ⟨own_newL w w.heap.size [32] (0, 0) (Nat.le_refl _) (by simp) rfl, hB0⟩
          clear hB0
          go_wp2_with fail
          generalize (w.alloc (.cells #[.int .u8 32] 5)) = W0 at H0 ⊢
          go_loopw [8, 9] (fun u i wr => ∃ (j k : Nat) (v : Value) (out : List Int), k ≤ N ∧ u = v ∧ i = .int .i64 k ∧ Hid (k = 2 * j ∧ out = 32 :: (jnB ns).take j ∧ out.length = j + 1 ∧ RbJ w wr v out)) (fun _ i _ => N - (intOf i).toNat)
          case atStart => exact ⟨0, 0, _, _, by omega, rfl, rfl, rfl, rfl, rfl, H0.out⟩
          case round =>
            obtain ⟨j, k, v, out, hj, rfl, rfl, HI0⟩ := hrel
            have HKJ : Hid (k = 2 * j) := HI0.out.1
            have HI : Hid _ := HI0.out.2
            clear HI0
            obtain ⟨a', c, rfl⟩ := row_form HI.out.2.2.row
            obtain ⟨no, hno⟩ : ∃ no, no = out.length := ⟨_, rfl⟩
            rw [← hno] at HI ⊢
            have HNO : Hid (no = out.length) := hno
            clear hno
            by_cases hjk : k < N
            · have hki : (k : Int) < N := by omega
              have hj1 : k + 1 < N := by have := HE.out.2.2.2.1; have := HKJ.out; omega
              obtain ⟨k1, hk1⟩ : ∃ k1, k1 = k + 1 := ⟨_, rfl⟩
              have hwk : IntKind.i64.wrap ((k : Int) + 1) = (k1 : Int) := by rw [IntKind.wrap_i64]; omega
              have hk1i : (k1 : Int) < N := by omega
              have HK1 : Hid (k1 = k + 1) := hk1
              obtain ⟨y, hy⟩ : ∃ y, ns[k]? = some y := ⟨_, List.getElem?_eq_getElem (by have := HE.out.2.2.1; omega)⟩
              obtain ⟨z, hz⟩ : ∃ z, ns[k1]? = some z := ⟨_, List.getElem?_eq_getElem (by have := HE.out.2.2.1; omega)⟩
              have hyb := HE.out.2.1 y (List.mem_of_getElem? hy)
              have hzb := HE.out.2.1 z (List.mem_of_getElem? hz)
              obtain ⟨g, o, rfl, ky⟩ := HM.out.at hy
              obtain ⟨g', o', e, kz⟩ := HM.out.at hz
              cases e
              have HP : Hid (∀ W : World, Below w.heap.size w W → (fun w' : World => w'.cell? ⟨g, o + k, none⟩ = some (.int .u8 y) ∧ w'.cell? ⟨g, o + k1, none⟩ = some (.int .u8 z)) W) := fun W hb => ⟨(hb.cell (p := ⟨g, o + k, none⟩) (cell_lt ky)).trans ky, (hb.cell (p := ⟨g, o + k1, none⟩) (cell_lt kz)).trans kz⟩
              have hor := or16 y z hyb.1 hyb.2 hzb.1 hzb.2
              have hw2 : IntKind.u8.wrap (y * 16) = y * 16 := by rw [IntKind.wrap_u8]; omega
              have HT : Hid ((jnB ns).take (j + 1) = (jnB ns).take j ++ [16 * y + z]) := by show _ = _; rw [List.take_add_one, jnB_at ns j y z (by rw [← HKJ.out]; exact hy) (by rw [← HKJ.out, ← HK1.out]; exact hz)]; rfl
              clear hy hz ky kz hk1 hj1
              go_wp2_with fail
              refine wp_noP ?_
              refine wp_region_held_drew (S := (fun w' : World => w'.cell? ⟨g, o + k, none⟩ = some (.int .u8 y) ∧ w'.cell? ⟨g, o + k1, none⟩ = some (.int .u8 z))) (by kernel_rfl) (HP.out wr.drew HI.out.2.2.drew.bl) (fun hHeld => ?_)
              have G0 : Hid (RbJ w wr.drew (.slice a' no c) out) := HI.out.2.2.drew
              generalize wr.drew = U at G0 hHeld ⊢
              refine wpAnyH_take (i := 0) (v := .slice a' no c) rfl (by kernel_rfl) (by kernel_rfl) (by kernel_rfl) (fun _ _ _ h => h) (Or.inl ⟨by rfl, fun w9 hSw => ?_⟩) hHeld ?_
              · go_simp
              simp only [List.getElem_toArray, List.getElem_cons_succ, List.getElem_cons_zero, Act.put, List.setIfInBounds_toArray, List.set_cons_zero, List.set_cons_succ]
              refine wpAnyH_take (i := 1) (v := .slice (some ⟨g, o, none⟩) N cap) rfl (by kernel_rfl) (by kernel_rfl) (by kernel_rfl) (fun _ _ _ h => h) (Or.inl ⟨by rfl, fun w9 hSw => ?_⟩) hHeld ?_
              · go_simp
              simp only [List.getElem_toArray, List.getElem_cons_succ, List.getElem_cons_zero, Act.put, List.setIfInBounds_toArray, List.set_cons_zero, List.set_cons_succ]
              refine wpAnyH_take (i := 2) (v := .int .i64 k) rfl (by kernel_rfl) (by kernel_rfl) (by kernel_rfl) (fun _ _ _ h => h) (Or.inl ⟨by rfl, fun w9 hSw => ?_⟩) hHeld ?_
              · go_simp
              simp only [List.getElem_toArray, List.getElem_cons_succ, List.getElem_cons_zero, Act.put, List.setIfInBounds_toArray, List.set_cons_zero, List.set_cons_succ]
              refine wpAnyH_take (i := 3) (v := .pointer (some ⟨g, o + k, none⟩)) rfl (by kernel_rfl) (by kernel_rfl) (by kernel_rfl) (fun _ _ _ h => h) (Or.inl ⟨by rfl, fun w9 hSw => ?_⟩) hHeld ?_
              · go_simp
              simp only [List.getElem_toArray, List.getElem_cons_succ, List.getElem_cons_zero, Act.put, List.setIfInBounds_toArray, List.set_cons_zero, List.set_cons_succ]
              refine wpAnyH_take (i := 4) (v := .int .u8 y) rfl (by kernel_rfl) (by kernel_rfl) (by kernel_rfl) (fun _ _ _ h => h) (Or.inl ⟨by rfl, fun w9 hSw => ?_⟩) hHeld ?_
              · have x0 := hSw.1
                have x1 := hSw.2
                go_simp
              simp only [List.getElem_toArray, List.getElem_cons_succ, List.getElem_cons_zero, Act.put, List.setIfInBounds_toArray, List.set_cons_zero, List.set_cons_succ]
              refine wpAnyH_take (i := 5) (v := .int .u8 (y * 16)) rfl (by kernel_rfl) (by kernel_rfl) (by kernel_rfl) (fun _ _ _ h => h) (Or.inl ⟨by rfl, fun w9 hSw => ?_⟩) hHeld ?_
              · go_simp
              simp only [List.getElem_toArray, List.getElem_cons_succ, List.getElem_cons_zero, Act.put, List.setIfInBounds_toArray, List.set_cons_zero, List.set_cons_succ]
              refine wpAnyH_take (i := 6) (v := .slice (some ⟨g, o, none⟩) N cap) rfl (by kernel_rfl) (by kernel_rfl) (by kernel_rfl) (fun _ _ _ h => h) (Or.inl ⟨by rfl, fun w9 hSw => ?_⟩) hHeld ?_
              · go_simp
              simp only [List.getElem_toArray, List.getElem_cons_succ, List.getElem_cons_zero, Act.put, List.setIfInBounds_toArray, List.set_cons_zero, List.set_cons_succ]
              refine wpAnyH_take (i := 7) (v := .int .i64 k) rfl (by kernel_rfl) (by kernel_rfl) (by kernel_rfl) (fun _ _ _ h => h) (Or.inl ⟨by rfl, fun w9 hSw => ?_⟩) hHeld ?_
              · go_simp
              simp only [List.getElem_toArray, List.getElem_cons_succ, List.getElem_cons_zero, Act.put, List.setIfInBounds_toArray, List.set_cons_zero, List.set_cons_succ]
              refine wpAnyH_take (i := 8) (v := .int .i64 k1) rfl (by kernel_rfl) (by kernel_rfl) (by kernel_rfl) (fun _ _ _ h => h) (Or.inl ⟨by rfl, fun w9 hSw => ?_⟩) hHeld ?_
              · go_simp
              simp only [List.getElem_toArray, List.getElem_cons_succ, List.getElem_cons_zero, Act.put, List.setIfInBounds_toArray, List.set_cons_zero, List.set_cons_succ]
              refine wpAnyH_take (i := 9) (v := .pointer (some ⟨g, o + k1, none⟩)) rfl (by kernel_rfl) (by kernel_rfl) (by kernel_rfl) (fun _ _ _ h => h) (Or.inl ⟨by rfl, fun w9 hSw => ?_⟩) hHeld ?_
              · go_simp
              simp only [List.getElem_toArray, List.getElem_cons_succ, List.getElem_cons_zero, Act.put, List.setIfInBounds_toArray, List.set_cons_zero, List.set_cons_succ]
              refine wpAnyH_take (i := 10) (v := .int .u8 z) rfl (by kernel_rfl) (by kernel_rfl) (by kernel_rfl) (fun _ _ _ h => h) (Or.inl ⟨by rfl, fun w9 hSw => ?_⟩) hHeld ?_
              · have x0 := hSw.1
                have x1 := hSw.2
                go_simp
              simp only [List.getElem_toArray, List.getElem_cons_succ, List.getElem_cons_zero, Act.put, List.setIfInBounds_toArray, List.set_cons_zero, List.set_cons_succ]
              refine wpAnyH_take (i := 11) (v := .int .u8 (16 * y + z)) rfl (by kernel_rfl) (by kernel_rfl) (by kernel_rfl) (fun _ _ _ h => h) (Or.inl ⟨by rfl, fun w9 hSw => ?_⟩) hHeld ?_
              · go_simp
              simp only [List.getElem_toArray, List.getElem_cons_succ, List.getElem_cons_zero, Act.put, List.setIfInBounds_toArray, List.set_cons_zero, List.set_cons_succ]
              refine wpAnyH_ready (rs := [12]) (by kernel_rfl) (by simp) ?_
              refine AllReadyH.cons rfl (fun K hK => ?_) AllReadyH.nil
              go_simp
              have hA : Below U.heap.size U (U.alloc (.cells #[.int .u8 (16 * y + z)] 5)) := by go_grown
              have G1 : Hid (RbJ w (U.alloc (.cells #[.int .u8 (16 * y + z)] 5)) (.slice a' no c) out ∧ BytesV (U.alloc (.cells #[.int .u8 (16 * y + z)] 5)) (.slice (some ⟨U.heap.size, 0, none⟩) 1 1) [16 * y + z]) := ⟨G0.out.below hA, one_b U _⟩
              clear hA G0
              generalize (U.alloc (.cells #[.int .u8 (16 * y + z)] 5)) = U1 at G1 ⊢
              refine hK.out _ _ (HP.out _ G1.out.1.bl) (fun hHeld => ?_)
              clear hK K
              try simp only [List.getElem_toArray, List.getElem_cons_succ, List.getElem_cons_zero, Act.put, List.setIfInBounds_toArray, List.set_cons_zero, List.set_cons_succ]
              refine wpAnyH_ready (rs := [13]) (by kernel_rfl) (by simp) ?_
              refine AllReadyH.cons rfl (fun K hK => ?_) AllReadyH.nil
              refine step_append_b (by rfl) _ _ (by rfl) w.heap.size (.slice a' no c) (.slice (some ⟨U.heap.size, 0, none⟩) 1 1) out [16 * y + z] (by rfl) (by have := G1.out.1.row; rw [HNO.out] at this ⊢; exact this) (by rfl) G1.out.2 (by have := HI.out.2.1; have := HNO.out; have := HKJ.out; simp; omega) G1.out.1.bl.size ?_
              intro v1 B1 ho hg ha
              obtain ⟨a1, d1, rfl⟩ := row_form ho
              have G2 : Hid (RbJ w B1 (.slice a1 (out ++ [16 * y + z]).length d1) (out ++ [16 * y + z])) := G1.out.1.add ho hg
              obtain ⟨q1, hq1⟩ : ∃ q1, q1 = (out ++ [16 * y + z]).length := ⟨_, rfl⟩
              rw [← hq1] at G2 ⊢
              clear ho hg ha hq1 G1
              refine hK.out _ _ (HP.out _ G2.out.bl) (fun hHeld => ?_)
              clear hK K
              try simp only [List.getElem_toArray, List.getElem_cons_succ, List.getElem_cons_zero, Act.put, List.setIfInBounds_toArray, List.set_cons_zero, List.set_cons_succ]
              refine wpAnyH_take (i := 14) (v := .slice a1 q1 d1) rfl (by kernel_rfl) (by kernel_rfl) (by kernel_rfl) (fun _ _ _ h => h) (Or.inl ⟨by rfl, fun w9 hSw => ?_⟩) hHeld ?_
              · go_simp
              simp only [List.getElem_toArray, List.getElem_cons_succ, List.getElem_cons_zero, Act.put, List.setIfInBounds_toArray, List.set_cons_zero, List.set_cons_succ]
              refine wpAnyH_done (by kernel_rfl) ?_ _
              simp only [noP]
              clear hHeld
              go_wp2
              go_roundw
              case rel => exact ⟨j + 1, k + 2, _, _, by have := HKJ.out; have := HE.out.2.2.2.1; omega, rfl, by go_num, by have := HKJ.out; omega, by rw [HI.out.1, HT.out]; rfl, by have := HI.out.2.1; have := HNO.out; simp; omega, G2.out⟩
              case measure => simp [intOf]; omega
            · have hki : ¬ (k : Int) < N := by omega
              go_wp2
              go_ret2
              have e : out = cpB ns true := by rw [HI.out.1, HE.out.1, List.take_of_length_le (by rw [jnB_length]; have := HE.out.2.2.1; have := HKJ.out; omega)]
              have h1 := HI.out.2.2.row
              have hn : no = (cpB ns true).length := by rw [HNO.out, e]
              rw [e] at h1
              rw [hn] at h1 ⊢
              exact ⟨HI.out.2.2.bl, cpq_yes HOK.out h1⟩
        | false =>
          have hr : Int.tmod (N : Int) 2 = (0 : Int) := by rw [Int.tmod_eq_emod_of_nonneg (by omega)]; have := HN.out; omega
          have HM : Hid (BytesV w (.slice a N cap) ns) := HV.out
          have HE : Hid (cpB ns false = 0 :: jnB ns ∧ Nib ns ∧ N = ns.length ∧ N % 2 = 0 ∧ N ≤ 15000000) := by
            refine ⟨?_, HK.out, HN.out, by omega, hl⟩
            rw [cpB_even (by have := HN.out; omega)]
            rfl
          have hB0 : Below w.heap.size w (w.alloc (.cells #[.int .u8 0] 5)) := by go_grown
          have H0 : Hid (RbJ w (w.alloc (.cells #[.int .u8 0] 5)) (.slice (some ⟨w.heap.size, 0, none⟩) 1 1) [0]) := ⟨own_newL w w.heap.size [0] (0, 0) (Nat.le_refl _) (by simp) rfl, hB0⟩
          clear hB0
          go_wp2_with fail
          generalize (w.alloc (.cells #[.int .u8 0] 5)) = W0 at H0 ⊢
          go_loopw [8, 9] (fun u i wr => ∃ (j k : Nat) (v : Value) (out : List Int), k ≤ N ∧ u = v ∧ i = .int .i64 k ∧ Hid (k = 2 * j ∧ out = 0 :: (jnB ns).take j ∧ out.length = j + 1 ∧ RbJ w wr v out)) (fun _ i _ => N - (intOf i).toNat)
          case atStart => exact ⟨0, 0, _, _, by omega, rfl, rfl, rfl, rfl, rfl, H0.out⟩
          case round =>
            obtain ⟨j, k, v, out, hj, rfl, rfl, HI0⟩ := hrel
            have HKJ : Hid (k = 2 * j) := HI0.out.1
            have HI : Hid _ := HI0.out.2
            clear HI0
            obtain ⟨a', c, rfl⟩ := row_form HI.out.2.2.row
            obtain ⟨no, hno⟩ : ∃ no, no = out.length := ⟨_, rfl⟩
            rw [← hno] at HI ⊢
            have HNO : Hid (no = out.length) := hno
            clear hno
            by_cases hjk : k < N
            · have hki : (k : Int) < N := by omega
              have hj1 : k + 1 < N := by have := HE.out.2.2.2.1; have := HKJ.out; omega
              obtain ⟨k1, hk1⟩ : ∃ k1, k1 = k + 1 := ⟨_, rfl⟩
              have hwk : IntKind.i64.wrap ((k : Int) + 1) = (k1 : Int) := by rw [IntKind.wrap_i64]; omega
              have hk1i : (k1 : Int) < N := by omega
              have HK1 : Hid (k1 = k + 1) := hk1
              obtain ⟨y, hy⟩ : ∃ y, ns[k]? = some y := ⟨_, List.getElem?_eq_getElem (by have := HE.out.2.2.1; omega)⟩
              obtain ⟨z, hz⟩ : ∃ z, ns[k1]? = some z := ⟨_, List.getElem?_eq_getElem (by have := HE.out.2.2.1; omega)⟩
              have hyb := HE.out.2.1 y (List.mem_of_getElem? hy)
              have hzb := HE.out.2.1 z (List.mem_of_getElem? hz)
              obtain ⟨g, o, rfl, ky⟩ := HM.out.at hy
              obtain ⟨g', o', e, kz⟩ := HM.out.at hz
              cases e
              have HP : Hid (∀ W : World, Below w.heap.size w W → (fun w' : World => w'.cell? ⟨g, o + k, none⟩ = some (.int .u8 y) ∧ w'.cell? ⟨g, o + k1, none⟩ = some (.int .u8 z)) W) := fun W hb => ⟨(hb.cell (p := ⟨g, o + k, none⟩) (cell_lt ky)).trans ky, (hb.cell (p := ⟨g, o + k1, none⟩) (cell_lt kz)).trans kz⟩
              have hor := or16 y z hyb.1 hyb.2 hzb.1 hzb.2
              have hw2 : IntKind.u8.wrap (y * 16) = y * 16 := by rw [IntKind.wrap_u8]; omega
              have HT : Hid ((jnB ns).take (j + 1) = (jnB ns).take j ++ [16 * y + z]) := by show _ = _; rw [List.take_add_one, jnB_at ns j y z (by rw [← HKJ.out]; exact hy) (by rw [← HKJ.out, ← HK1.out]; exact hz)]; rfl
              clear hy hz ky kz hk1 hj1
              go_wp2_with fail
              refine wp_noP ?_
              refine wp_region_held_drew (S := (fun w' : World => w'.cell? ⟨g, o + k, none⟩ = some (.int .u8 y) ∧ w'.cell? ⟨g, o + k1, none⟩ = some (.int .u8 z))) (by kernel_rfl) (HP.out wr.drew HI.out.2.2.drew.bl) (fun hHeld => ?_)
              have G0 : Hid (RbJ w wr.drew (.slice a' no c) out) := HI.out.2.2.drew
              generalize wr.drew = U at G0 hHeld ⊢
              refine wpAnyH_take (i := 0) (v := .slice a' no c) rfl (by kernel_rfl) (by kernel_rfl) (by kernel_rfl) (fun _ _ _ h => h) (Or.inl ⟨by rfl, fun w9 hSw => ?_⟩) hHeld ?_
              · go_simp
              simp only [List.getElem_toArray, List.getElem_cons_succ, List.getElem_cons_zero, Act.put, List.setIfInBounds_toArray, List.set_cons_zero, List.set_cons_succ]
              refine wpAnyH_take (i := 1) (v := .slice (some ⟨g, o, none⟩) N cap) rfl (by kernel_rfl) (by kernel_rfl) (by kernel_rfl) (fun _ _ _ h => h) (Or.inl ⟨by rfl, fun w9 hSw => ?_⟩) hHeld ?_
              · go_simp
              simp only [List.getElem_toArray, List.getElem_cons_succ, List.getElem_cons_zero, Act.put, List.setIfInBounds_toArray, List.set_cons_zero, List.set_cons_succ]
              refine wpAnyH_take (i := 2) (v := .int .i64 k) rfl (by kernel_rfl) (by kernel_rfl) (by kernel_rfl) (fun _ _ _ h => h) (Or.inl ⟨by rfl, fun w9 hSw => ?_⟩) hHeld ?_
              · go_simp
              simp only [List.getElem_toArray, List.getElem_cons_succ, List.getElem_cons_zero, Act.put, List.setIfInBounds_toArray, List.set_cons_zero, List.set_cons_succ]
              refine wpAnyH_take (i := 3) (v := .pointer (some ⟨g, o + k, none⟩)) rfl (by kernel_rfl) (by kernel_rfl) (by kernel_rfl) (fun _ _ _ h => h) (Or.inl ⟨by rfl, fun w9 hSw => ?_⟩) hHeld ?_
              · go_simp
              simp only [List.getElem_toArray, List.getElem_cons_succ, List.getElem_cons_zero, Act.put, List.setIfInBounds_toArray, List.set_cons_zero, List.set_cons_succ]
              refine wpAnyH_take (i := 4) (v := .int .u8 y) rfl (by kernel_rfl) (by kernel_rfl) (by kernel_rfl) (fun _ _ _ h => h) (Or.inl ⟨by rfl, fun w9 hSw => ?_⟩) hHeld ?_
              · have x0 := hSw.1
                have x1 := hSw.2
                go_simp
              simp only [List.getElem_toArray, List.getElem_cons_succ, List.getElem_cons_zero, Act.put, List.setIfInBounds_toArray, List.set_cons_zero, List.set_cons_succ]
              refine wpAnyH_take (i := 5) (v := .int .u8 (y * 16)) rfl (by kernel_rfl) (by kernel_rfl) (by kernel_rfl) (fun _ _ _ h => h) (Or.inl ⟨by rfl, fun w9 hSw => ?_⟩) hHeld ?_
              · go_simp
              simp only [List.getElem_toArray, List.getElem_cons_succ, List.getElem_cons_zero, Act.put, List.setIfInBounds_toArray, List.set_cons_zero, List.set_cons_succ]
              refine wpAnyH_take (i := 6) (v := .slice (some ⟨g, o, none⟩) N cap) rfl (by kernel_rfl) (by kernel_rfl) (by kernel_rfl) (fun _ _ _ h => h) (Or.inl ⟨by rfl, fun w9 hSw => ?_⟩) hHeld ?_
              · go_simp
              simp only [List.getElem_toArray, List.getElem_cons_succ, List.getElem_cons_zero, Act.put, List.setIfInBounds_toArray, List.set_cons_zero, List.set_cons_succ]
              refine wpAnyH_take (i := 7) (v := .int .i64 k) rfl (by kernel_rfl) (by kernel_rfl) (by kernel_rfl) (fun _ _ _ h => h) (Or.inl ⟨by rfl, fun w9 hSw => ?_⟩) hHeld ?_
              · go_simp
              simp only [List.getElem_toArray, List.getElem_cons_succ, List.getElem_cons_zero, Act.put, List.setIfInBounds_toArray, List.set_cons_zero, List.set_cons_succ]
              refine wpAnyH_take (i := 8) (v := .int .i64 k1) rfl (by kernel_rfl) (by kernel_rfl) (by kernel_rfl) (fun _ _ _ h => h) (Or.inl ⟨by rfl, fun w9 hSw => ?_⟩) hHeld ?_
              · go_simp
              simp only [List.getElem_toArray, List.getElem_cons_succ, List.getElem_cons_zero, Act.put, List.setIfInBounds_toArray, List.set_cons_zero, List.set_cons_succ]
              refine wpAnyH_take (i := 9) (v := .pointer (some ⟨g, o + k1, none⟩)) rfl (by kernel_rfl) (by kernel_rfl) (by kernel_rfl) (fun _ _ _ h => h) (Or.inl ⟨by rfl, fun w9 hSw => ?_⟩) hHeld ?_
              · go_simp
              simp only [List.getElem_toArray, List.getElem_cons_succ, List.getElem_cons_zero, Act.put, List.setIfInBounds_toArray, List.set_cons_zero, List.set_cons_succ]
              refine wpAnyH_take (i := 10) (v := .int .u8 z) rfl (by kernel_rfl) (by kernel_rfl) (by kernel_rfl) (fun _ _ _ h => h) (Or.inl ⟨by rfl, fun w9 hSw => ?_⟩) hHeld ?_
              · have x0 := hSw.1
                have x1 := hSw.2
                go_simp
              simp only [List.getElem_toArray, List.getElem_cons_succ, List.getElem_cons_zero, Act.put, List.setIfInBounds_toArray, List.set_cons_zero, List.set_cons_succ]
              refine wpAnyH_take (i := 11) (v := .int .u8 (16 * y + z)) rfl (by kernel_rfl) (by kernel_rfl) (by kernel_rfl) (fun _ _ _ h => h) (Or.inl ⟨by rfl, fun w9 hSw => ?_⟩) hHeld ?_
              · go_simp
              simp only [List.getElem_toArray, List.getElem_cons_succ, List.getElem_cons_zero, Act.put, List.setIfInBounds_toArray, List.set_cons_zero, List.set_cons_succ]
              refine wpAnyH_ready (rs := [12]) (by kernel_rfl) (by simp) ?_
              refine AllReadyH.cons rfl (fun K hK => ?_) AllReadyH.nil
              go_simp
              have hA : Below U.heap.size U (U.alloc (.cells #[.int .u8 (16 * y + z)] 5)) := by go_grown
              have G1 : Hid (RbJ w (U.alloc (.cells #[.int .u8 (16 * y + z)] 5)) (.slice a' no c) out ∧ BytesV (U.alloc (.cells #[.int .u8 (16 * y + z)] 5)) (.slice (some ⟨U.heap.size, 0, none⟩) 1 1) [16 * y + z]) := ⟨G0.out.below hA, one_b U _⟩
              clear hA G0
              generalize (U.alloc (.cells #[.int .u8 (16 * y + z)] 5)) = U1 at G1 ⊢
              refine hK.out _ _ (HP.out _ G1.out.1.bl) (fun hHeld => ?_)
              clear hK K
              try simp only [List.getElem_toArray, List.getElem_cons_succ, List.getElem_cons_zero, Act.put, List.setIfInBounds_toArray, List.set_cons_zero, List.set_cons_succ]
              refine wpAnyH_ready (rs := [13]) (by kernel_rfl) (by simp) ?_
              refine AllReadyH.cons rfl (fun K hK => ?_) AllReadyH.nil
              refine step_append_b (by rfl) _ _ (by rfl) w.heap.size (.slice a' no c) (.slice (some ⟨U.heap.size, 0, none⟩) 1 1) out [16 * y + z] (by rfl) (by have := G1.out.1.row; rw [HNO.out] at this ⊢; exact this) (by rfl) G1.out.2 (by have := HI.out.2.1; have := HNO.out; have := HKJ.out; simp; omega) G1.out.1.bl.size ?_
              intro v1 B1 ho hg ha
              obtain ⟨a1, d1, rfl⟩ := row_form ho
              have G2 : Hid (RbJ w B1 (.slice a1 (out ++ [16 * y + z]).length d1) (out ++ [16 * y + z])) := G1.out.1.add ho hg
              obtain ⟨q1, hq1⟩ : ∃ q1, q1 = (out ++ [16 * y + z]).length := ⟨_, rfl⟩
              rw [← hq1] at G2 ⊢
              clear ho hg ha hq1 G1
              refine hK.out _ _ (HP.out _ G2.out.bl) (fun hHeld => ?_)
              clear hK K
              try simp only [List.getElem_toArray, List.getElem_cons_succ, List.getElem_cons_zero, Act.put, List.setIfInBounds_toArray, List.set_cons_zero, List.set_cons_succ]
              refine wpAnyH_take (i := 14) (v := .slice a1 q1 d1) rfl (by kernel_rfl) (by kernel_rfl) (by kernel_rfl) (fun _ _ _ h => h) (Or.inl ⟨by rfl, fun w9 hSw => ?_⟩) hHeld ?_
              · go_simp
              simp only [List.getElem_toArray, List.getElem_cons_succ, List.getElem_cons_zero, Act.put, List.setIfInBounds_toArray, List.set_cons_zero, List.set_cons_succ]
              refine wpAnyH_done (by kernel_rfl) ?_ _
              simp only [noP]
              clear hHeld
              go_wp2
              go_roundw
              case rel => exact ⟨j + 1, k + 2, _, _, by have := HKJ.out; have := HE.out.2.2.2.1; omega, rfl, by go_num, by have := HKJ.out; omega, by rw [HI.out.1, HT.out]; rfl, by have := HI.out.2.1; have := HNO.out; simp; omega, G2.out⟩
              case measure => simp [intOf]; omega
            · have hki : ¬ (k : Int) < N := by omega
              go_wp2
              go_ret2
              have e : out = cpB ns false := by rw [HI.out.1, HE.out.1, List.take_of_length_le (by rw [jnB_length]; have := HE.out.2.2.1; have := HKJ.out; omega)]
              have h1 := HI.out.2.2.row
              have hn : no = (cpB ns false).length := by rw [HNO.out, e]
              rw [e] at h1
              rw [hn] at h1 ⊢
              exact ⟨HI.out.2.2.bl, cpq_yes HOK.out h1⟩
end Go.Proofs.YtboeokmaepchgaaGreatDoor
