/- TG, TH, laid into one text. -/
import Derived.Test.YtboeokmaepchgaaGreatDoorM10
/- trie: Expand, the program's and the reference's. -/
namespace Go.Proofs.YtboeokmaepchgaaGreatDoor
open Go.RowKit Go.Maps Go.Joins Go.Shelf
set_option linter.unusedSimpArgs false
set_option linter.unusedVariables false
/-- What Expand tells: no path, or its nibbles and whether it is a leaf's. -/
def exB (bs : List Int) : Option (List Int × Bool) :=
  match bs with
  | [] => none
  | c :: r => if 63 < c then none else if c / 16 % 2 = 1 then some (c % 16 :: hvB r, decide (2 ≤ c / 16)) else if c % 16 = 0 then some (hvB r, decide (2 ≤ c / 16)) else none
def ExQ (w w' : World) (bs : List Int) (e : Ending) : Prop :=
  match exB bs with
  | none => e = .returned (.tuple #[.slice none 0 0, .bool false, .int .i64 1])
  | some (ns, l) => ∃ v, e = .returned (.tuple #[v, .bool l, .int .i64 0]) ∧ BytesV w' v ns
theorem and2 (y : Int) (h0 : 0 ≤ y) (h1 : y < 4) : bits .and .u8 y 2 = (if 2 ≤ y then 2 else 0) := by
  obtain ⟨y, rfl⟩ := Int.eq_ofNat_of_zero_le h0
  have : ∀ y : Fin 4, bits .and .u8 ((y.val : Nat) : Int) 2 = (if 2 ≤ ((y.val : Nat) : Int) then 2 else 0) := by decide +kernel
  exact this ⟨y, by omega⟩
theorem and1 (y : Int) (h0 : 0 ≤ y) (h1 : y < 4) : bits .and .u8 y 1 = y % 2 := by
  obtain ⟨y, rfl⟩ := Int.eq_ofNat_of_zero_le h0
  have : ∀ y : Fin 4, bits .and .u8 ((y.val : Nat) : Int) 1 = ((y.val : Nat) : Int) % 2 := by decide +kernel
  exact this ⟨y, by omega⟩
theorem and16 (y : Int) (h0 : 0 ≤ y) (h1 : y < 256) : bits .and .u8 y 16 = (if y / 16 % 2 = 1 then 16 else 0) := by
  obtain ⟨y, rfl⟩ := Int.eq_ofNat_of_zero_le h0
  have : ∀ y : Fin 256, bits .and .u8 ((y.val : Nat) : Int) 16 = (if ((y.val : Nat) : Int) / 16 % 2 = 1 then 16 else 0) := by decide +kernel
  exact this ⟨y, by omega⟩
theorem and32 (y : Int) (h0 : 0 ≤ y) (h1 : y < 64) : bits .and .u8 y 32 = (if 2 ≤ y / 16 then 32 else 0) := by
  obtain ⟨y, rfl⟩ := Int.eq_ofNat_of_zero_le h0
  have : ∀ y : Fin 64, bits .and .u8 ((y.val : Nat) : Int) 32 = (if 2 ≤ ((y.val : Nat) : Int) / 16 then 32 else 0) := by decide +kernel
  exact this ⟨y, by omega⟩
set_option maxRecDepth 100000 in
set_option maxHeartbeats 8000000 in
/-- trie.Expand -/
theorem Expand_any {w : World} {a : Option Addr} {cap : Nat} {bs : List Int} (h : SrcN w a cap bs) :
    Calls Tryz.prog 7 #[.slice a bs.length cap] w fun e w' => Below w.heap.size w w' ∧ ExQ w w' bs e := by
  have HC : Hid _ := halves_any h.is h.by' (by have := h.le; omega)
  have HY : Hid (Byt bs) := h.by'
  go_enter Tryz.func7, Tryz.ntmps7
  go_wp2_with fail
  refine Calls.mono HC.out ?_
  rintro e w1 ⟨v1, rfl, ho1, hb1⟩
  obtain ⟨a1, c1, rfl, hq1, hq2, hq3, hq4⟩ := row_cap ho1
  have HV : Hid (BytesV w1 (.slice a1 (hvB bs).length c1) (hvB bs)) := BytesV.of_own ho1
  have HB : Hid (Below w.heap.size w w1) := hb1
  clear ho1 hb1 HC
  cases bs with
  | nil =>
    have e0 : (hvB ([] : List Int)).length = 0 := rfl
    rw [e0]
    clear hq1 hq2 hq3 hq4
    go_wp2
    go_ret3
    exact ⟨HB.out, rfl⟩
  | cons c r =>
    have hcb := HY.out c (List.mem_cons_self ..)
    have hlen : (hvB (c :: r)).length = 2 * r.length + 2 := by rw [hvB_length]; simp only [List.length_cons]; omega
    obtain ⟨n, hn⟩ : ∃ n, n = (hvB (c :: r)).length := ⟨_, rfl⟩
    obtain ⟨g, o, e, kc0⟩ := HV.out.at (k := 0) (x := c / 16) rfl
    cases e
    obtain ⟨g', o', e, kc1⟩ := HV.out.at (k := 1) (x := c % 16) rfl
    cases e
    rw [Nat.add_zero] at kc0
    rw [← hn] at HV hq1 ⊢
    have hn2 : 2 ≤ n := by omega
    have HN : Hid (n = (hvB (c :: r)).length) := hn
    have hni : ¬ (n : Int) = 0 := by omega
    have hnb : ((n : Int) == 0) = false := by simp; omega
    have hn1 : (1 : Int) < n := by omega
    have hn0 : (0 : Int) < n := by omega
    clear hlen hq4 hq3 hn
    by_cases h3 : 3 < c / 16
    · have HE : Hid (exB (c :: r) = none) := by show _ = _; unfold exB; simp only; rw [if_pos (by omega)]
      go_wp2
      go_ret3
      refine ⟨HB.out, ?_⟩
      unfold ExQ
      rw [HE.out]
      exact rfl
    · have ha2 := and2 (c / 16) (by omega) (by omega)
      have ha1 := and1 (c / 16) (by omega) (by omega)
      have hs1 := slL2 w1 g o n c1 1 1 rfl (by omega)
      have hs2 := slL2 w1 g o n c1 2 2 rfl (by omega)
      obtain ⟨o1, ho1⟩ : ∃ o1, o1 = (if c1 = 1 then o else o + 1) := ⟨_, rfl⟩
      obtain ⟨o2, ho2⟩ : ∃ o2, o2 = (if c1 = 2 then o else o + 2) := ⟨_, rfl⟩
      rw [← ho1] at hs1
      rw [← ho2] at hs2
      have HV1 : Hid (BytesV w1 (.slice (some ⟨g, o1, none⟩) (n - 1) (c1 - 1)) (c % 16 :: hvB r)) := by show BytesV _ _ _; rw [ho1]; exact HV.out.drop' (l := 1) (by have := HN.out; omega) (by have := HN.out; omega)
      have HV2 : Hid (BytesV w1 (.slice (some ⟨g, o2, none⟩) (n - 2) (c1 - 2)) (hvB r)) := by show BytesV _ _ _; rw [ho2]; exact HV.out.drop' (l := 2) (by have := HN.out; omega) (by have := HN.out; omega)
      obtain ⟨n1, hn1'⟩ : ∃ x, x = n - 1 := ⟨_, rfl⟩
      obtain ⟨n2, hn2'⟩ : ∃ x, x = n - 2 := ⟨_, rfl⟩
      obtain ⟨d1, hd1⟩ : ∃ x, x = c1 - 1 := ⟨_, rfl⟩
      obtain ⟨d2, hd2⟩ : ∃ x, x = c1 - 2 := ⟨_, rfl⟩
      rw [← hn1', ← hd1] at hs1 HV1
      rw [← hn2', ← hd2] at hs2 HV2
      clear ho1 ho2 hn1' hn2' hd1 hd2 HV HN
      have h63 : ¬ 63 < c := by omega
      obtain ⟨q, hq⟩ : ∃ q, q = c / 16 := ⟨_, rfl⟩
      obtain ⟨t, ht⟩ : ∃ t, t = c % 16 := ⟨_, rfl⟩
      have HE : Hid (exB (c :: r) = if q % 2 = 1 then some (t :: hvB r, decide (2 ≤ q)) else if t = 0 then some (hvB r, decide (2 ≤ q)) else none) := by show _ = _; unfold exB; simp only; rw [if_neg h63, hq, ht]
      rw [← hq] at kc0 ha1 ha2 h3
      rw [← ht] at kc1 HV1
      have hq0 : 0 ≤ q := by omega
      have HQ : Hid (0 ≤ q ∧ q ≤ 3) := ⟨by omega, by omega⟩
      clear hq ht h63 hcb
      obtain ⟨l2, hl2⟩ : ∃ l2 : Int, l2 = (if 2 ≤ q then 2 else 0) := ⟨_, rfl⟩
      rw [← hl2] at ha2
      by_cases hod : q % 2 = 1
      · rw [hod] at ha1
        rw [if_pos hod] at HE
        by_cases hlf : 2 ≤ q
        · rw [if_pos hlf] at hl2
          subst hl2
          have HD : Hid (decide (2 ≤ q) = true) := by show _ = _; simp [hlf]
          clear hlf hod
          go_wp2
          go_ret3
          refine ⟨HB.out, ?_⟩
          unfold ExQ
          rw [HE.out, HD.out]
          exact ⟨_, rfl, HV1.out⟩
        · rw [if_neg hlf] at hl2
          subst hl2
          have HD : Hid (decide (2 ≤ q) = false) := by show _ = _; simp [hlf]
          clear hlf hod
          go_wp2
          go_ret3
          refine ⟨HB.out, ?_⟩
          unfold ExQ
          rw [HE.out, HD.out]
          exact ⟨_, rfl, HV1.out⟩
      · have hod' : q % 2 = 0 := by omega
        rw [hod'] at ha1
        rw [if_neg hod] at HE
        by_cases hz : t = 0
        · rw [if_pos hz] at HE
          subst hz
          by_cases hlf : 2 ≤ q
          · rw [if_pos hlf] at hl2
            subst hl2
            have HD : Hid (decide (2 ≤ q) = true) := by show _ = _; simp [hlf]
            clear hlf hod hod'
            go_wp2
            go_ret3
            refine ⟨HB.out, ?_⟩
            unfold ExQ
            rw [HE.out, HD.out]
            exact ⟨_, rfl, HV2.out⟩
          · rw [if_neg hlf] at hl2
            subst hl2
            have HD : Hid (decide (2 ≤ q) = false) := by show _ = _; simp [hlf]
            clear hlf hod hod'
            go_wp2
            go_ret3
            refine ⟨HB.out, ?_⟩
            unfold ExQ
            rw [HE.out, HD.out]
            exact ⟨_, rfl, HV2.out⟩
        · rw [if_neg hz] at HE
          clear hod hod' hl2
          go_wp2
          go_ret3
          refine ⟨HB.out, ?_⟩
          unfold ExQ
          rw [HE.out]
          exact rfl
end Go.Proofs.YtboeokmaepchgaaGreatDoor
/- trie: the reference's Expand. -/
namespace Go.Proofs.YtboeokmaepchgaaGreatDoor
open Go.RowKit Go.Maps Go.Joins Go.Shelf
set_option linter.unusedSimpArgs false
set_option linter.unusedVariables false
set_option maxRecDepth 100000 in
set_option maxHeartbeats 16000000 in
/-- The reference's Expand -/
theorem RExpand_any {w : World} {a : Option Addr} {cap : Nat} {bs : List Int} (h : SrcN w a cap bs) :
    Calls Tryz.prog 8 #[.slice a bs.length cap] w fun e w' => Below w.heap.size w w' ∧ ExQ w w' bs e := by
  have HS : Hid (SrcN w a cap bs) := h
  cases bs with
  | nil =>
    clear h
    have e0 : ([] : List Int).length = 0 := rfl
    rw [e0]
    go_enter Tryz.func8, Tryz.ntmps8
    go_wp2
    go_ret3
    exact ⟨Below.refl _ _, rfl⟩
  | cons c r =>
    have hcb := h.by' c (List.mem_cons_self ..)
    have hle := h.le
    obtain ⟨N, hN⟩ : ∃ N, N = (c :: r).length := ⟨_, rfl⟩
    have hV := h.is
    rw [← hN] at hV hle ⊢
    have hNr : N = r.length + 1 := hN
    obtain ⟨g, o, e, kc⟩ := hV.at (k := 0) (x := c) rfl
    cases e
    rw [Nat.add_zero] at kc
    have HP : Hid (∀ W : World, Below w.heap.size w W → (fun w' : World => w'.cell? ⟨g, o, none⟩ = some (.int .u8 c)) W) := fun W hb => (hb.cell (p := ⟨g, o, none⟩) (cell_lt kc)).trans kc
    have hni : ¬ (N : Int) = 0 := by omega
    have hnz : ¬ N = 0 := by omega
    have hnb : ((N : Int) == 0) = false := by simp; omega
    have hn0 : (0 : Int) < N := by omega
    have hsl := fun w9 : World => slL2 w9 g o N cap 1 1 rfl (by omega)
    obtain ⟨o1, ho1⟩ : ∃ o1, o1 = (if cap = 1 then o else o + 1) := ⟨_, rfl⟩
    rw [← ho1] at hsl
    have hV1 : BytesV w (.slice (some ⟨g, o1, none⟩) (N - 1) (cap - 1)) r := by rw [ho1]; exact hV.drop' (l := 1) (by simp) (by have := h.cp; exact this)
    obtain ⟨n1, hn1⟩ : ∃ x, x = N - 1 := ⟨_, rfl⟩
    obtain ⟨d1, hd1⟩ : ∃ x, x = cap - 1 := ⟨_, rfl⟩
    rw [← hn1, ← hd1] at hsl hV1
    have HL1 : Hid (n1 = r.length ∧ n1 ≤ 15000000) := ⟨by omega, by omega⟩
    have HV1 : Hid (BytesV w (.slice (some ⟨g, o1, none⟩) r.length d1) r) := by show BytesV _ _ _; rw [← HL1.out.1]; exact hV1
    have HSL : Hid _ := hsl
    have HY1 : Hid (Byt r) := fun x hx => h.by' x (List.mem_cons_of_mem _ hx)
    clear h hV hV1 hsl ho1 hn1 hd1 hN HS hNr
    go_enter Tryz.func8, Tryz.ntmps8
    by_cases h63 : 63 < c
    · have HE : Hid (exB (c :: r) = none) := by show _ = _; unfold exB; simp only; rw [if_pos h63]
      go_wp2
      go_ret3
      refine ⟨Below.refl _ _, ?_⟩
      unfold ExQ
      rw [HE.out]
      exact rfl
    have h16 := and16 c hcb.1 hcb.2
    have h15 := and15 c hcb.1 hcb.2
    obtain ⟨t, ht⟩ : ∃ t, t = c % 16 := ⟨_, rfl⟩
    rw [← ht] at h15
    by_cases hod : c / 16 % 2 = 1
    · rw [if_pos hod] at h16
      rw [ht] at h15
      rw [← ht] at h15
      by_cases hlf : 2 ≤ c / 16
      · have h32 : bits .and .u8 c 32 = 32 := by rw [and32 c hcb.1 (by omega), if_pos hlf]
        have HE : Hid (exB (c :: r) = some (t :: hvB r, true)) := by
          show _ = _
          unfold exB
          simp only
          rw [if_neg h63, if_pos hod, ht]
          simp [hlf]
        clear hlf hod ht
        go_wp2_with (first
          | (at_builtin
             refine wpList_append_b rfl _ _ rfl w.heap.size (.slice none 0 0) (.slice (some ⟨w.heap.size, 0, none⟩) 1 1) [] [t] rfl (World.ownsRow_nil _ _ _ _) rfl (one_b w t) (by simp) (by simp) ?_
             intro v' w2 ho hg ha
             have hb5 : Below w.heap.size w w2 := ((Below.refl _ w).alloc (Nat.le_refl _) _).grown hg (by simp) (fun j hj => by simp [Value.ownBlock] at hj)
             obtain ⟨a5, c5, rfl⟩ := row_form ho
             have G5 : Hid (RbJ w w2 (.slice a5 ([] ++ [t]).length c5) [t]) := ⟨ho, hb5⟩
             obtain ⟨q5, hq5⟩ : ∃ q5, q5 = (([] : List Int) ++ [t]).length := ⟨_, rfl⟩
             rw [← hq5] at G5 ⊢
             have HQ5 : Hid (q5 = 1) := hq5
             clear ho hg ha hb5 hq5))
        generalize w2 = W5 at G5 ⊢
        refine wp_noP ?_
        refine wp_region_held_drew (S := (fun w' : World => w'.cell? ⟨g, o, none⟩ = some (.int .u8 c))) (by kernel_rfl) (HP.out _ G5.out.drew.bl) (fun hHeld => ?_)
        have G0 : Hid (RbJ w W5.drew (.slice a5 q5 c5) [t]) := G5.out.drew
        generalize W5.drew = U at G0 hHeld ⊢
        refine wpAnyH_take (i := 0) (v := .slice a5 q5 c5) rfl (by kernel_rfl) (by kernel_rfl) (by kernel_rfl) (fun _ _ _ h => h) (Or.inl ⟨by rfl, fun w9 hSw => ?_⟩) hHeld ?_
        · go_simp
        simp only [List.getElem_toArray, List.getElem_cons_succ, List.getElem_cons_zero, Act.put, List.setIfInBounds_toArray, List.set_cons_zero, List.set_cons_succ]
        refine wpAnyH_take (i := 1) (v := .slice (some ⟨g, o, none⟩) N cap) rfl (by kernel_rfl) (by kernel_rfl) (by kernel_rfl) (fun _ _ _ h => h) (Or.inl ⟨by rfl, fun w9 hSw => ?_⟩) hHeld ?_
        · go_simp
        simp only [List.getElem_toArray, List.getElem_cons_succ, List.getElem_cons_zero, Act.put, List.setIfInBounds_toArray, List.set_cons_zero, List.set_cons_succ]
        refine wpAnyH_take (i := 2) (v := .slice (some ⟨g, o1, none⟩) n1 d1) rfl (by kernel_rfl) (by kernel_rfl) (by kernel_rfl) (fun _ _ _ h => h) (Or.inl ⟨by rfl, fun w9 hSw => ?_⟩) hHeld ?_
        · have hs1 := HSL.out w9
          go_simp
        simp only [List.getElem_toArray, List.getElem_cons_succ, List.getElem_cons_zero, Act.put, List.setIfInBounds_toArray, List.set_cons_zero, List.set_cons_succ]
        refine wpAnyH_take (i := 5) (v := .slice (some ⟨g, o, none⟩) N cap) rfl (by kernel_rfl) (by kernel_rfl) (by kernel_rfl) (fun _ _ _ h => h) (Or.inl ⟨by rfl, fun w9 hSw => ?_⟩) hHeld ?_
        · go_simp
        simp only [List.getElem_toArray, List.getElem_cons_succ, List.getElem_cons_zero, Act.put, List.setIfInBounds_toArray, List.set_cons_zero, List.set_cons_succ]
        refine wpAnyH_take (i := 6) (v := .pointer (some ⟨g, o, none⟩)) rfl (by kernel_rfl) (by kernel_rfl) (by kernel_rfl) (fun _ _ _ h => h) (Or.inl ⟨by rfl, fun w9 hSw => ?_⟩) hHeld ?_
        · go_simp
        simp only [List.getElem_toArray, List.getElem_cons_succ, List.getElem_cons_zero, Act.put, List.setIfInBounds_toArray, List.set_cons_zero, List.set_cons_succ]
        refine wpAnyH_take (i := 7) (v := .int .u8 c) rfl (by kernel_rfl) (by kernel_rfl) (by kernel_rfl) (fun _ _ _ h => h) (Or.inl ⟨by rfl, fun w9 hSw => ?_⟩) hHeld ?_
        · go_simp
        simp only [List.getElem_toArray, List.getElem_cons_succ, List.getElem_cons_zero, Act.put, List.setIfInBounds_toArray, List.set_cons_zero, List.set_cons_succ]
        refine wpAnyH_take (i := 8) (v := .int .u8 32) rfl (by kernel_rfl) (by kernel_rfl) (by kernel_rfl) (fun _ _ _ h => h) (Or.inl ⟨by rfl, fun w9 hSw => ?_⟩) hHeld ?_
        · go_simp
        simp only [List.getElem_toArray, List.getElem_cons_succ, List.getElem_cons_zero, Act.put, List.setIfInBounds_toArray, List.set_cons_zero, List.set_cons_succ]
        refine wpAnyH_take (i := 9) (v := .bool true) rfl (by kernel_rfl) (by kernel_rfl) (by kernel_rfl) (fun _ _ _ h => h) (Or.inl ⟨by rfl, fun w9 hSw => ?_⟩) hHeld ?_
        · go_simp
        simp only [List.getElem_toArray, List.getElem_cons_succ, List.getElem_cons_zero, Act.put, List.setIfInBounds_toArray, List.set_cons_zero, List.set_cons_succ]
        refine wpAnyH_ready (rs := [3]) (by kernel_rfl) (by simp) ?_
        refine AllReadyH.cons rfl (fun K hK => ?_) AllReadyH.nil
        have hC := nibbles_any (HV1.out.below G0.out.bl) HY1.out (by have := HL1.out; omega)
        rw [← HL1.out.1] at hC
        go_simp
        refine Calls.mono hC ?_
        clear hC
        rintro e A ⟨vn, rfl, hon, hbn⟩
        obtain ⟨an, cn, rfl⟩ := row_form hon
        have G1 : Hid (RbJ w A (.slice a5 q5 c5) [t] ∧ BytesV A (.slice an (hvB r).length cn) (hvB r)) := ⟨G0.out.below hbn, BytesV.of_own hon⟩
        obtain ⟨qn, hqn⟩ : ∃ qn, qn = (hvB r).length := ⟨_, rfl⟩
        rw [← hqn] at G1 ⊢
        have HQN : Hid (qn = (hvB r).length) := hqn
        clear hon hbn G0 hqn
        refine hK.out _ _ (HP.out _ G1.out.1.bl) (fun hHeld => ?_)
        clear hK K
        try simp only [List.getElem_toArray, List.getElem_cons_succ, List.getElem_cons_zero, Act.put, List.setIfInBounds_toArray, List.set_cons_zero, List.set_cons_succ]
        refine wpAnyH_ready (rs := [4]) (by kernel_rfl) (by simp) ?_
        refine AllReadyH.cons rfl (fun K hK => ?_) AllReadyH.nil
        refine step_append_b (by rfl) _ _ (by rfl) w.heap.size (.slice a5 q5 c5) (.slice an qn cn) [t] (hvB r) (by rfl) (by have := G1.out.1.row; rw [HQ5.out] at this ⊢; exact this) (by rfl) G1.out.2 (by rw [hvB_length]; have := HL1.out; simp; omega) G1.out.1.bl.size ?_
        intro v1 B1 ho hg ha
        obtain ⟨a1, d1', rfl⟩ := row_form ho
        have G2 : Hid (BytesV B1 (.slice a1 ([t] ++ hvB r).length d1') ([t] ++ hvB r) ∧ Below w.heap.size w B1) := ⟨BytesV.of_own ho, (G1.out.1.add ho hg).bl⟩
        obtain ⟨q1, hq1⟩ : ∃ q1, q1 = ([t] ++ hvB r).length := ⟨_, rfl⟩
        rw [← hq1] at G2 ⊢
        clear ho hg ha hq1 G1
        refine hK.out _ _ (HP.out _ G2.out.2) (fun hHeld => ?_)
        clear hK K
        try simp only [List.getElem_toArray, List.getElem_cons_succ, List.getElem_cons_zero, Act.put, List.setIfInBounds_toArray, List.set_cons_zero, List.set_cons_succ]
        refine wpAnyH_take (i := 10) (v := .slice a1 q1 d1') rfl (by kernel_rfl) (by kernel_rfl) (by kernel_rfl) (fun _ _ _ h => h) (Or.inl ⟨by rfl, fun w9 hSw => ?_⟩) hHeld ?_
        · go_simp
        simp only [List.getElem_toArray, List.getElem_cons_succ, List.getElem_cons_zero, Act.put, List.setIfInBounds_toArray, List.set_cons_zero, List.set_cons_succ]
        refine wpAnyH_take (i := 11) (v := .bool true) rfl (by kernel_rfl) (by kernel_rfl) (by kernel_rfl) (fun _ _ _ h => h) (Or.inl ⟨by rfl, fun w9 hSw => ?_⟩) hHeld ?_
        · go_simp
        simp only [List.getElem_toArray, List.getElem_cons_succ, List.getElem_cons_zero, Act.put, List.setIfInBounds_toArray, List.set_cons_zero, List.set_cons_succ]
        refine wpAnyH_take (i := 12) (v := .int .i64 0) rfl (by kernel_rfl) (by kernel_rfl) (by kernel_rfl) (fun _ _ _ h => h) (Or.inl ⟨by rfl, fun w9 hSw => ?_⟩) hHeld ?_
        · go_simp
        simp only [List.getElem_toArray, List.getElem_cons_succ, List.getElem_cons_zero, Act.put, List.setIfInBounds_toArray, List.set_cons_zero, List.set_cons_succ]
        refine wpAnyH_done (by kernel_rfl) ?_ _
        simp only [noP]
        clear hHeld
        go_wp2
        go_ret3
        refine ⟨G2.out.2, ?_⟩
        unfold ExQ
        rw [HE.out]
        exact ⟨_, rfl, G2.out.1⟩
      · have h32 : bits .and .u8 c 32 = 0 := by rw [and32 c hcb.1 (by omega), if_neg hlf]
        have HE : Hid (exB (c :: r) = some (t :: hvB r, false)) := by
          show _ = _
          unfold exB
          simp only
          rw [if_neg h63, if_pos hod, ht]
          simp [hlf]
        clear hlf hod ht
        go_wp2_with (first
          | (at_builtin
             refine wpList_append_b rfl _ _ rfl w.heap.size (.slice none 0 0) (.slice (some ⟨w.heap.size, 0, none⟩) 1 1) [] [t] rfl (World.ownsRow_nil _ _ _ _) rfl (one_b w t) (by simp) (by simp) ?_
             intro v' w2 ho hg ha
             have hb5 : Below w.heap.size w w2 := ((Below.refl _ w).alloc (Nat.le_refl _) _).grown hg (by simp) (fun j hj => by simp [Value.ownBlock] at hj)
             obtain ⟨a5, c5, rfl⟩ := row_form ho
             have G5 : Hid (RbJ w w2 (.slice a5 ([] ++ [t]).length c5) [t]) := ⟨ho, hb5⟩
             obtain ⟨q5, hq5⟩ : ∃ q5, q5 = (([] : List Int) ++ [t]).length := ⟨_, rfl⟩
             rw [← hq5] at G5 ⊢
             have HQ5 : Hid (q5 = 1) := hq5
             clear ho hg ha hb5 hq5))
        generalize w2 = W5 at G5 ⊢
        refine wp_noP ?_
        refine wp_region_held_drew (S := (fun w' : World => w'.cell? ⟨g, o, none⟩ = some (.int .u8 c))) (by kernel_rfl) (HP.out _ G5.out.drew.bl) (fun hHeld => ?_)
        have G0 : Hid (RbJ w W5.drew (.slice a5 q5 c5) [t]) := G5.out.drew
        generalize W5.drew = U at G0 hHeld ⊢
        refine wpAnyH_take (i := 0) (v := .slice a5 q5 c5) rfl (by kernel_rfl) (by kernel_rfl) (by kernel_rfl) (fun _ _ _ h => h) (Or.inl ⟨by rfl, fun w9 hSw => ?_⟩) hHeld ?_
        · go_simp
        simp only [List.getElem_toArray, List.getElem_cons_succ, List.getElem_cons_zero, Act.put, List.setIfInBounds_toArray, List.set_cons_zero, List.set_cons_succ]
        refine wpAnyH_take (i := 1) (v := .slice (some ⟨g, o, none⟩) N cap) rfl (by kernel_rfl) (by kernel_rfl) (by kernel_rfl) (fun _ _ _ h => h) (Or.inl ⟨by rfl, fun w9 hSw => ?_⟩) hHeld ?_
        · go_simp
        simp only [List.getElem_toArray, List.getElem_cons_succ, List.getElem_cons_zero, Act.put, List.setIfInBounds_toArray, List.set_cons_zero, List.set_cons_succ]
        refine wpAnyH_take (i := 2) (v := .slice (some ⟨g, o1, none⟩) n1 d1) rfl (by kernel_rfl) (by kernel_rfl) (by kernel_rfl) (fun _ _ _ h => h) (Or.inl ⟨by rfl, fun w9 hSw => ?_⟩) hHeld ?_
        · have hs1 := HSL.out w9
          go_simp
        simp only [List.getElem_toArray, List.getElem_cons_succ, List.getElem_cons_zero, Act.put, List.setIfInBounds_toArray, List.set_cons_zero, List.set_cons_succ]
        refine wpAnyH_take (i := 5) (v := .slice (some ⟨g, o, none⟩) N cap) rfl (by kernel_rfl) (by kernel_rfl) (by kernel_rfl) (fun _ _ _ h => h) (Or.inl ⟨by rfl, fun w9 hSw => ?_⟩) hHeld ?_
        · go_simp
        simp only [List.getElem_toArray, List.getElem_cons_succ, List.getElem_cons_zero, Act.put, List.setIfInBounds_toArray, List.set_cons_zero, List.set_cons_succ]
        refine wpAnyH_take (i := 6) (v := .pointer (some ⟨g, o, none⟩)) rfl (by kernel_rfl) (by kernel_rfl) (by kernel_rfl) (fun _ _ _ h => h) (Or.inl ⟨by rfl, fun w9 hSw => ?_⟩) hHeld ?_
        · go_simp
        simp only [List.getElem_toArray, List.getElem_cons_succ, List.getElem_cons_zero, Act.put, List.setIfInBounds_toArray, List.set_cons_zero, List.set_cons_succ]
        refine wpAnyH_take (i := 7) (v := .int .u8 c) rfl (by kernel_rfl) (by kernel_rfl) (by kernel_rfl) (fun _ _ _ h => h) (Or.inl ⟨by rfl, fun w9 hSw => ?_⟩) hHeld ?_
        · go_simp
        simp only [List.getElem_toArray, List.getElem_cons_succ, List.getElem_cons_zero, Act.put, List.setIfInBounds_toArray, List.set_cons_zero, List.set_cons_succ]
        refine wpAnyH_take (i := 8) (v := .int .u8 0) rfl (by kernel_rfl) (by kernel_rfl) (by kernel_rfl) (fun _ _ _ h => h) (Or.inl ⟨by rfl, fun w9 hSw => ?_⟩) hHeld ?_
        · go_simp
        simp only [List.getElem_toArray, List.getElem_cons_succ, List.getElem_cons_zero, Act.put, List.setIfInBounds_toArray, List.set_cons_zero, List.set_cons_succ]
        refine wpAnyH_take (i := 9) (v := .bool false) rfl (by kernel_rfl) (by kernel_rfl) (by kernel_rfl) (fun _ _ _ h => h) (Or.inl ⟨by rfl, fun w9 hSw => ?_⟩) hHeld ?_
        · go_simp
        simp only [List.getElem_toArray, List.getElem_cons_succ, List.getElem_cons_zero, Act.put, List.setIfInBounds_toArray, List.set_cons_zero, List.set_cons_succ]
        refine wpAnyH_ready (rs := [3]) (by kernel_rfl) (by simp) ?_
        refine AllReadyH.cons rfl (fun K hK => ?_) AllReadyH.nil
        have hC := nibbles_any (HV1.out.below G0.out.bl) HY1.out (by have := HL1.out; omega)
        rw [← HL1.out.1] at hC
        go_simp
        refine Calls.mono hC ?_
        clear hC
        rintro e A ⟨vn, rfl, hon, hbn⟩
        obtain ⟨an, cn, rfl⟩ := row_form hon
        have G1 : Hid (RbJ w A (.slice a5 q5 c5) [t] ∧ BytesV A (.slice an (hvB r).length cn) (hvB r)) := ⟨G0.out.below hbn, BytesV.of_own hon⟩
        obtain ⟨qn, hqn⟩ : ∃ qn, qn = (hvB r).length := ⟨_, rfl⟩
        rw [← hqn] at G1 ⊢
        have HQN : Hid (qn = (hvB r).length) := hqn
        clear hon hbn G0 hqn
        refine hK.out _ _ (HP.out _ G1.out.1.bl) (fun hHeld => ?_)
        clear hK K
        try simp only [List.getElem_toArray, List.getElem_cons_succ, List.getElem_cons_zero, Act.put, List.setIfInBounds_toArray, List.set_cons_zero, List.set_cons_succ]
        refine wpAnyH_ready (rs := [4]) (by kernel_rfl) (by simp) ?_
        refine AllReadyH.cons rfl (fun K hK => ?_) AllReadyH.nil
        refine step_append_b (by rfl) _ _ (by rfl) w.heap.size (.slice a5 q5 c5) (.slice an qn cn) [t] (hvB r) (by rfl) (by have := G1.out.1.row; rw [HQ5.out] at this ⊢; exact this) (by rfl) G1.out.2 (by rw [hvB_length]; have := HL1.out; simp; omega) G1.out.1.bl.size ?_
        intro v1 B1 ho hg ha
        obtain ⟨a1, d1', rfl⟩ := row_form ho
        have G2 : Hid (BytesV B1 (.slice a1 ([t] ++ hvB r).length d1') ([t] ++ hvB r) ∧ Below w.heap.size w B1) := ⟨BytesV.of_own ho, (G1.out.1.add ho hg).bl⟩
        obtain ⟨q1, hq1⟩ : ∃ q1, q1 = ([t] ++ hvB r).length := ⟨_, rfl⟩
        rw [← hq1] at G2 ⊢
        clear ho hg ha hq1 G1
        refine hK.out _ _ (HP.out _ G2.out.2) (fun hHeld => ?_)
        clear hK K
        try simp only [List.getElem_toArray, List.getElem_cons_succ, List.getElem_cons_zero, Act.put, List.setIfInBounds_toArray, List.set_cons_zero, List.set_cons_succ]
        refine wpAnyH_take (i := 10) (v := .slice a1 q1 d1') rfl (by kernel_rfl) (by kernel_rfl) (by kernel_rfl) (fun _ _ _ h => h) (Or.inl ⟨by rfl, fun w9 hSw => ?_⟩) hHeld ?_
        · go_simp
        simp only [List.getElem_toArray, List.getElem_cons_succ, List.getElem_cons_zero, Act.put, List.setIfInBounds_toArray, List.set_cons_zero, List.set_cons_succ]
        refine wpAnyH_take (i := 11) (v := .bool false) rfl (by kernel_rfl) (by kernel_rfl) (by kernel_rfl) (fun _ _ _ h => h) (Or.inl ⟨by rfl, fun w9 hSw => ?_⟩) hHeld ?_
        · go_simp
        simp only [List.getElem_toArray, List.getElem_cons_succ, List.getElem_cons_zero, Act.put, List.setIfInBounds_toArray, List.set_cons_zero, List.set_cons_succ]
        refine wpAnyH_take (i := 12) (v := .int .i64 0) rfl (by kernel_rfl) (by kernel_rfl) (by kernel_rfl) (fun _ _ _ h => h) (Or.inl ⟨by rfl, fun w9 hSw => ?_⟩) hHeld ?_
        · go_simp
        simp only [List.getElem_toArray, List.getElem_cons_succ, List.getElem_cons_zero, Act.put, List.setIfInBounds_toArray, List.set_cons_zero, List.set_cons_succ]
        refine wpAnyH_done (by kernel_rfl) ?_ _
        simp only [noP]
        clear hHeld
        go_wp2
        go_ret3
        refine ⟨G2.out.2, ?_⟩
        unfold ExQ
        rw [HE.out]
        exact ⟨_, rfl, G2.out.1⟩
    · rw [if_neg hod] at h16
      by_cases hz : c % 16 = 0
      · rw [hz] at ht
        subst ht
        by_cases hlf : 2 ≤ c / 16
        · have h32 : bits .and .u8 c 32 = 32 := by rw [and32 c hcb.1 (by omega), if_pos hlf]
          have HE : Hid (exB (c :: r) = some (hvB r, true)) := by
            show _ = _
            unfold exB
            simp only
            rw [if_neg h63, if_neg hod, if_pos hz]
            simp [hlf]
          clear hlf hod
          have G5 : Hid (RbJ w w (.slice none 0 0) []) := ⟨World.ownsRow_nil _ _ _ _, Below.refl _ _⟩
          go_wp2_with fail
          refine wp_noP ?_
          refine wp_region_held_drew (S := (fun w' : World => w'.cell? ⟨g, o, none⟩ = some (.int .u8 c))) (by kernel_rfl) (HP.out _ G5.out.drew.bl) (fun hHeld => ?_)
          have G0 : Hid (RbJ w w.drew (.slice none 0 0) []) := G5.out.drew
          generalize w.drew = U at G0 hHeld ⊢
          refine wpAnyH_take (i := 0) (v := .slice none 0 0) rfl (by kernel_rfl) (by kernel_rfl) (by kernel_rfl) (fun _ _ _ h => h) (Or.inl ⟨by rfl, fun w9 hSw => ?_⟩) hHeld ?_
          · go_simp
          simp only [List.getElem_toArray, List.getElem_cons_succ, List.getElem_cons_zero, Act.put, List.setIfInBounds_toArray, List.set_cons_zero, List.set_cons_succ]
          refine wpAnyH_take (i := 1) (v := .slice (some ⟨g, o, none⟩) N cap) rfl (by kernel_rfl) (by kernel_rfl) (by kernel_rfl) (fun _ _ _ h => h) (Or.inl ⟨by rfl, fun w9 hSw => ?_⟩) hHeld ?_
          · go_simp
          simp only [List.getElem_toArray, List.getElem_cons_succ, List.getElem_cons_zero, Act.put, List.setIfInBounds_toArray, List.set_cons_zero, List.set_cons_succ]
          refine wpAnyH_take (i := 2) (v := .slice (some ⟨g, o1, none⟩) n1 d1) rfl (by kernel_rfl) (by kernel_rfl) (by kernel_rfl) (fun _ _ _ h => h) (Or.inl ⟨by rfl, fun w9 hSw => ?_⟩) hHeld ?_
          · have hs1 := HSL.out w9
            go_simp
          simp only [List.getElem_toArray, List.getElem_cons_succ, List.getElem_cons_zero, Act.put, List.setIfInBounds_toArray, List.set_cons_zero, List.set_cons_succ]
          refine wpAnyH_take (i := 5) (v := .slice (some ⟨g, o, none⟩) N cap) rfl (by kernel_rfl) (by kernel_rfl) (by kernel_rfl) (fun _ _ _ h => h) (Or.inl ⟨by rfl, fun w9 hSw => ?_⟩) hHeld ?_
          · go_simp
          simp only [List.getElem_toArray, List.getElem_cons_succ, List.getElem_cons_zero, Act.put, List.setIfInBounds_toArray, List.set_cons_zero, List.set_cons_succ]
          refine wpAnyH_take (i := 6) (v := .pointer (some ⟨g, o, none⟩)) rfl (by kernel_rfl) (by kernel_rfl) (by kernel_rfl) (fun _ _ _ h => h) (Or.inl ⟨by rfl, fun w9 hSw => ?_⟩) hHeld ?_
          · go_simp
          simp only [List.getElem_toArray, List.getElem_cons_succ, List.getElem_cons_zero, Act.put, List.setIfInBounds_toArray, List.set_cons_zero, List.set_cons_succ]
          refine wpAnyH_take (i := 7) (v := .int .u8 c) rfl (by kernel_rfl) (by kernel_rfl) (by kernel_rfl) (fun _ _ _ h => h) (Or.inl ⟨by rfl, fun w9 hSw => ?_⟩) hHeld ?_
          · go_simp
          simp only [List.getElem_toArray, List.getElem_cons_succ, List.getElem_cons_zero, Act.put, List.setIfInBounds_toArray, List.set_cons_zero, List.set_cons_succ]
          refine wpAnyH_take (i := 8) (v := .int .u8 32) rfl (by kernel_rfl) (by kernel_rfl) (by kernel_rfl) (fun _ _ _ h => h) (Or.inl ⟨by rfl, fun w9 hSw => ?_⟩) hHeld ?_
          · go_simp
          simp only [List.getElem_toArray, List.getElem_cons_succ, List.getElem_cons_zero, Act.put, List.setIfInBounds_toArray, List.set_cons_zero, List.set_cons_succ]
          refine wpAnyH_take (i := 9) (v := .bool true) rfl (by kernel_rfl) (by kernel_rfl) (by kernel_rfl) (fun _ _ _ h => h) (Or.inl ⟨by rfl, fun w9 hSw => ?_⟩) hHeld ?_
          · go_simp
          simp only [List.getElem_toArray, List.getElem_cons_succ, List.getElem_cons_zero, Act.put, List.setIfInBounds_toArray, List.set_cons_zero, List.set_cons_succ]
          refine wpAnyH_ready (rs := [3]) (by kernel_rfl) (by simp) ?_
          refine AllReadyH.cons rfl (fun K hK => ?_) AllReadyH.nil
          have hC := nibbles_any (HV1.out.below G0.out.bl) HY1.out (by have := HL1.out; omega)
          rw [← HL1.out.1] at hC
          go_simp
          refine Calls.mono hC ?_
          clear hC
          rintro e A ⟨vn, rfl, hon, hbn⟩
          obtain ⟨an, cn, rfl⟩ := row_form hon
          have G1 : Hid (RbJ w A (.slice none 0 0) [] ∧ BytesV A (.slice an (hvB r).length cn) (hvB r)) := ⟨G0.out.below hbn, BytesV.of_own hon⟩
          obtain ⟨qn, hqn⟩ : ∃ qn, qn = (hvB r).length := ⟨_, rfl⟩
          rw [← hqn] at G1 ⊢
          have HQN : Hid (qn = (hvB r).length) := hqn
          clear hon hbn G0 hqn
          refine hK.out _ _ (HP.out _ G1.out.1.bl) (fun hHeld => ?_)
          clear hK K
          try simp only [List.getElem_toArray, List.getElem_cons_succ, List.getElem_cons_zero, Act.put, List.setIfInBounds_toArray, List.set_cons_zero, List.set_cons_succ]
          refine wpAnyH_ready (rs := [4]) (by kernel_rfl) (by simp) ?_
          refine AllReadyH.cons rfl (fun K hK => ?_) AllReadyH.nil
          refine step_append_b (by rfl) _ _ (by rfl) w.heap.size (.slice none 0 0) (.slice an qn cn) [] (hvB r) (by rfl) G1.out.1.row (by rfl) G1.out.2 (by rw [hvB_length]; have := HL1.out; simp; omega) G1.out.1.bl.size ?_
          intro v1 B1 ho hg ha
          obtain ⟨a1, d1', rfl⟩ := row_form ho
          have G2 : Hid (BytesV B1 (.slice a1 ([] ++ hvB r).length d1') ([] ++ hvB r) ∧ Below w.heap.size w B1) := ⟨BytesV.of_own ho, (G1.out.1.add ho hg).bl⟩
          obtain ⟨q1, hq1⟩ : ∃ q1, q1 = ([] ++ hvB r).length := ⟨_, rfl⟩
          rw [← hq1] at G2 ⊢
          clear ho hg ha hq1 G1
          refine hK.out _ _ (HP.out _ G2.out.2) (fun hHeld => ?_)
          clear hK K
          try simp only [List.getElem_toArray, List.getElem_cons_succ, List.getElem_cons_zero, Act.put, List.setIfInBounds_toArray, List.set_cons_zero, List.set_cons_succ]
          refine wpAnyH_take (i := 10) (v := .slice a1 q1 d1') rfl (by kernel_rfl) (by kernel_rfl) (by kernel_rfl) (fun _ _ _ h => h) (Or.inl ⟨by rfl, fun w9 hSw => ?_⟩) hHeld ?_
          · go_simp
          simp only [List.getElem_toArray, List.getElem_cons_succ, List.getElem_cons_zero, Act.put, List.setIfInBounds_toArray, List.set_cons_zero, List.set_cons_succ]
          refine wpAnyH_take (i := 11) (v := .bool true) rfl (by kernel_rfl) (by kernel_rfl) (by kernel_rfl) (fun _ _ _ h => h) (Or.inl ⟨by rfl, fun w9 hSw => ?_⟩) hHeld ?_
          · go_simp
          simp only [List.getElem_toArray, List.getElem_cons_succ, List.getElem_cons_zero, Act.put, List.setIfInBounds_toArray, List.set_cons_zero, List.set_cons_succ]
          refine wpAnyH_take (i := 12) (v := .int .i64 0) rfl (by kernel_rfl) (by kernel_rfl) (by kernel_rfl) (fun _ _ _ h => h) (Or.inl ⟨by rfl, fun w9 hSw => ?_⟩) hHeld ?_
          · go_simp
          simp only [List.getElem_toArray, List.getElem_cons_succ, List.getElem_cons_zero, Act.put, List.setIfInBounds_toArray, List.set_cons_zero, List.set_cons_succ]
          refine wpAnyH_done (by kernel_rfl) ?_ _
          simp only [noP]
          clear hHeld
          go_wp2
          go_ret3
          refine ⟨G2.out.2, ?_⟩
          unfold ExQ
          rw [HE.out]
          exact ⟨_, rfl, G2.out.1⟩
        · have h32 : bits .and .u8 c 32 = 0 := by rw [and32 c hcb.1 (by omega), if_neg hlf]
          have HE : Hid (exB (c :: r) = some (hvB r, false)) := by
            show _ = _
            unfold exB
            simp only
            rw [if_neg h63, if_neg hod, if_pos hz]
            simp [hlf]
          clear hlf hod
          have G5 : Hid (RbJ w w (.slice none 0 0) []) := ⟨World.ownsRow_nil _ _ _ _, Below.refl _ _⟩
          go_wp2_with fail
          refine wp_noP ?_
          refine wp_region_held_drew (S := (fun w' : World => w'.cell? ⟨g, o, none⟩ = some (.int .u8 c))) (by kernel_rfl) (HP.out _ G5.out.drew.bl) (fun hHeld => ?_)
          have G0 : Hid (RbJ w w.drew (.slice none 0 0) []) := G5.out.drew
          generalize w.drew = U at G0 hHeld ⊢
          refine wpAnyH_take (i := 0) (v := .slice none 0 0) rfl (by kernel_rfl) (by kernel_rfl) (by kernel_rfl) (fun _ _ _ h => h) (Or.inl ⟨by rfl, fun w9 hSw => ?_⟩) hHeld ?_
          · go_simp
          simp only [List.getElem_toArray, List.getElem_cons_succ, List.getElem_cons_zero, Act.put, List.setIfInBounds_toArray, List.set_cons_zero, List.set_cons_succ]
          refine wpAnyH_take (i := 1) (v := .slice (some ⟨g, o, none⟩) N cap) rfl (by kernel_rfl) (by kernel_rfl) (by kernel_rfl) (fun _ _ _ h => h) (Or.inl ⟨by rfl, fun w9 hSw => ?_⟩) hHeld ?_
          · go_simp
          simp only [List.getElem_toArray, List.getElem_cons_succ, List.getElem_cons_zero, Act.put, List.setIfInBounds_toArray, List.set_cons_zero, List.set_cons_succ]
          refine wpAnyH_take (i := 2) (v := .slice (some ⟨g, o1, none⟩) n1 d1) rfl (by kernel_rfl) (by kernel_rfl) (by kernel_rfl) (fun _ _ _ h => h) (Or.inl ⟨by rfl, fun w9 hSw => ?_⟩) hHeld ?_
          · have hs1 := HSL.out w9
            go_simp
          simp only [List.getElem_toArray, List.getElem_cons_succ, List.getElem_cons_zero, Act.put, List.setIfInBounds_toArray, List.set_cons_zero, List.set_cons_succ]
          refine wpAnyH_take (i := 5) (v := .slice (some ⟨g, o, none⟩) N cap) rfl (by kernel_rfl) (by kernel_rfl) (by kernel_rfl) (fun _ _ _ h => h) (Or.inl ⟨by rfl, fun w9 hSw => ?_⟩) hHeld ?_
          · go_simp
          simp only [List.getElem_toArray, List.getElem_cons_succ, List.getElem_cons_zero, Act.put, List.setIfInBounds_toArray, List.set_cons_zero, List.set_cons_succ]
          refine wpAnyH_take (i := 6) (v := .pointer (some ⟨g, o, none⟩)) rfl (by kernel_rfl) (by kernel_rfl) (by kernel_rfl) (fun _ _ _ h => h) (Or.inl ⟨by rfl, fun w9 hSw => ?_⟩) hHeld ?_
          · go_simp
          simp only [List.getElem_toArray, List.getElem_cons_succ, List.getElem_cons_zero, Act.put, List.setIfInBounds_toArray, List.set_cons_zero, List.set_cons_succ]
          refine wpAnyH_take (i := 7) (v := .int .u8 c) rfl (by kernel_rfl) (by kernel_rfl) (by kernel_rfl) (fun _ _ _ h => h) (Or.inl ⟨by rfl, fun w9 hSw => ?_⟩) hHeld ?_
          · go_simp
          simp only [List.getElem_toArray, List.getElem_cons_succ, List.getElem_cons_zero, Act.put, List.setIfInBounds_toArray, List.set_cons_zero, List.set_cons_succ]
          refine wpAnyH_take (i := 8) (v := .int .u8 0) rfl (by kernel_rfl) (by kernel_rfl) (by kernel_rfl) (fun _ _ _ h => h) (Or.inl ⟨by rfl, fun w9 hSw => ?_⟩) hHeld ?_
          · go_simp
          simp only [List.getElem_toArray, List.getElem_cons_succ, List.getElem_cons_zero, Act.put, List.setIfInBounds_toArray, List.set_cons_zero, List.set_cons_succ]
          refine wpAnyH_take (i := 9) (v := .bool false) rfl (by kernel_rfl) (by kernel_rfl) (by kernel_rfl) (fun _ _ _ h => h) (Or.inl ⟨by rfl, fun w9 hSw => ?_⟩) hHeld ?_
          · go_simp
          simp only [List.getElem_toArray, List.getElem_cons_succ, List.getElem_cons_zero, Act.put, List.setIfInBounds_toArray, List.set_cons_zero, List.set_cons_succ]
          refine wpAnyH_ready (rs := [3]) (by kernel_rfl) (by simp) ?_
          refine AllReadyH.cons rfl (fun K hK => ?_) AllReadyH.nil
          have hC := nibbles_any (HV1.out.below G0.out.bl) HY1.out (by have := HL1.out; omega)
          rw [← HL1.out.1] at hC
          go_simp
          refine Calls.mono hC ?_
          clear hC
          rintro e A ⟨vn, rfl, hon, hbn⟩
          obtain ⟨an, cn, rfl⟩ := row_form hon
          have G1 : Hid (RbJ w A (.slice none 0 0) [] ∧ BytesV A (.slice an (hvB r).length cn) (hvB r)) := ⟨G0.out.below hbn, BytesV.of_own hon⟩
          obtain ⟨qn, hqn⟩ : ∃ qn, qn = (hvB r).length := ⟨_, rfl⟩
          rw [← hqn] at G1 ⊢
          have HQN : Hid (qn = (hvB r).length) := hqn
          clear hon hbn G0 hqn
          refine hK.out _ _ (HP.out _ G1.out.1.bl) (fun hHeld => ?_)
          clear hK K
          try simp only [List.getElem_toArray, List.getElem_cons_succ, List.getElem_cons_zero, Act.put, List.setIfInBounds_toArray, List.set_cons_zero, List.set_cons_succ]
          refine wpAnyH_ready (rs := [4]) (by kernel_rfl) (by simp) ?_
          refine AllReadyH.cons rfl (fun K hK => ?_) AllReadyH.nil
          refine step_append_b (by rfl) _ _ (by rfl) w.heap.size (.slice none 0 0) (.slice an qn cn) [] (hvB r) (by rfl) G1.out.1.row (by rfl) G1.out.2 (by rw [hvB_length]; have := HL1.out; simp; omega) G1.out.1.bl.size ?_
          intro v1 B1 ho hg ha
          obtain ⟨a1, d1', rfl⟩ := row_form ho
          have G2 : Hid (BytesV B1 (.slice a1 ([] ++ hvB r).length d1') ([] ++ hvB r) ∧ Below w.heap.size w B1) := ⟨BytesV.of_own ho, (G1.out.1.add ho hg).bl⟩
          obtain ⟨q1, hq1⟩ : ∃ q1, q1 = ([] ++ hvB r).length := ⟨_, rfl⟩
          rw [← hq1] at G2 ⊢
          clear ho hg ha hq1 G1
          refine hK.out _ _ (HP.out _ G2.out.2) (fun hHeld => ?_)
          clear hK K
          try simp only [List.getElem_toArray, List.getElem_cons_succ, List.getElem_cons_zero, Act.put, List.setIfInBounds_toArray, List.set_cons_zero, List.set_cons_succ]
          refine wpAnyH_take (i := 10) (v := .slice a1 q1 d1') rfl (by kernel_rfl) (by kernel_rfl) (by kernel_rfl) (fun _ _ _ h => h) (Or.inl ⟨by rfl, fun w9 hSw => ?_⟩) hHeld ?_
          · go_simp
          simp only [List.getElem_toArray, List.getElem_cons_succ, List.getElem_cons_zero, Act.put, List.setIfInBounds_toArray, List.set_cons_zero, List.set_cons_succ]
          refine wpAnyH_take (i := 11) (v := .bool false) rfl (by kernel_rfl) (by kernel_rfl) (by kernel_rfl) (fun _ _ _ h => h) (Or.inl ⟨by rfl, fun w9 hSw => ?_⟩) hHeld ?_
          · go_simp
          simp only [List.getElem_toArray, List.getElem_cons_succ, List.getElem_cons_zero, Act.put, List.setIfInBounds_toArray, List.set_cons_zero, List.set_cons_succ]
          refine wpAnyH_take (i := 12) (v := .int .i64 0) rfl (by kernel_rfl) (by kernel_rfl) (by kernel_rfl) (fun _ _ _ h => h) (Or.inl ⟨by rfl, fun w9 hSw => ?_⟩) hHeld ?_
          · go_simp
          simp only [List.getElem_toArray, List.getElem_cons_succ, List.getElem_cons_zero, Act.put, List.setIfInBounds_toArray, List.set_cons_zero, List.set_cons_succ]
          refine wpAnyH_done (by kernel_rfl) ?_ _
          simp only [noP]
          clear hHeld
          go_wp2
          go_ret3
          refine ⟨G2.out.2, ?_⟩
          unfold ExQ
          rw [HE.out]
          exact ⟨_, rfl, G2.out.1⟩
      · have HE : Hid (exB (c :: r) = none) := by show _ = _; unfold exB; simp only; rw [if_neg h63, if_neg hod, if_neg hz]
        have htz : ¬ t = 0 := by rw [ht]; exact hz
        clear hod hz ht
        go_wp2
        go_ret3
        refine ⟨Below.refl _ _, ?_⟩
        unfold ExQ
        rw [HE.out]
        exact rfl
end Go.Proofs.YtboeokmaepchgaaGreatDoor
