/- kv: KvBack's walk. -/
import Derived.Test.YtconkienlcegaaaGreatDoorM32
namespace Go.Proofs.YtconkienlcegaaaGreatDoor
open Go.RowKit Go.Maps Go.Joins Go.Shelf
set_option linter.unusedSimpArgs false
set_option linter.unusedVariables false
theorem norm_okL {cs : List Ch} (h : ∀ c ∈ cs.map normC, okK c) (hl : (encK (cs.map normC)).length ≤ 65535) : okL (cs.map normC) := fun c hc => by
  refine ⟨h c hc, ?_, ?_⟩
  · obtain ⟨i, hi, e⟩ := List.getElem_of_mem hc
    have h9 := encK_big (cs := cs.map normC) (k := i) (c := c) (by rw [List.getElem?_eq_getElem hi, e])
    rw [encC_length] at h9
    by_cases hg : c.gone = true
    · obtain ⟨d, _, rfl⟩ := List.mem_map.1 hc
      unfold normC at hg ⊢
      split
      · simp
      · rename_i h0
        rw [if_neg h0] at hg
        exact absurd hg h0
    · rw [if_neg hg] at h9
      omega
  · intro hg
    obtain ⟨d, _, rfl⟩ := List.mem_map.1 hc
    unfold normC at hg ⊢
    split
    · rfl
    · rename_i h0
      rw [if_neg h0] at hg
      exact absurd hg h0
theorem norm_byt {cs : List Ch} (h : ∀ c ∈ cs, KByt c.key ∧ KByt c.val) : ∀ c ∈ cs.map normC, KByt c.key ∧ KByt c.val := fun c hc => by
  obtain ⟨d, hd, rfl⟩ := List.mem_map.1 hc
  unfold normC
  split
  · exact ⟨(h d hd).1, fun x hx => by cases hx⟩
  · exact h d hd
theorem kb4 (n : Nat) : KByt (k4 n) := fun c hc => by
  simp [k4] at hc
  omega
theorem kb2 (n : Nat) : KByt (k2 n) := fun c hc => by
  simp [k2] at hc
  omega
theorem enc_byt : ∀ {l : List Ch}, (∀ c ∈ l, KByt c.key ∧ KByt c.val) → KByt (encK l)
  | [], _ => fun c hc => by cases hc
  | d :: l, h => by
    rw [encK_cons]
    intro x hx
    rcases List.mem_append.1 hx with hx | hx
    · unfold encC at hx
      rcases List.mem_append.1 hx with hx | hx
      · exact kb2 _ x hx
      · rcases List.mem_append.1 hx with hx | hx
        · exact (h d (by simp)).1 x hx
        · split at hx
          · exact kb4 _ x hx
          · rcases List.mem_append.1 hx with hx | hx
            · exact kb4 _ x hx
            · exact (h d (by simp)).2 x hx
    · exact enc_byt (fun c hc => h c (by simp [hc])) x hx
/-- One list for one encoding. -/
theorem encK_inj {l l' : List Ch} (h : okL l) (h' : okL l') (e : encK l = encK l') : l = l' := by
  obtain ⟨l1, e1, e2⟩ := encK_front l' l [] h' h (by rw [e, List.append_nil])
  have : l1 = [] := encK_nil (by rw [e2]; rfl)
  rw [e1, this, List.append_nil]
theorem take_norm {cs : List Ch} {k : Nat} {c : Ch} (h : cs[k]? = some c) : (cs.take (k + 1)).map normC ++ cs.drop (k + 1) = (cs.take k).map normC ++ normC c :: cs.drop (k + 1) := by
  rw [List.take_add_one, h]
  simp
theorem drop_norm {cs : List Ch} {k : Nat} {c : Ch} (h : cs[k]? = some c) (hg : c.gone = false) : (cs.take (k + 1)).map normC ++ cs.drop (k + 1) = (cs.take k).map normC ++ cs.drop k := by
  have hk := (List.getElem?_eq_some_iff.1 h).1
  have hc : cs[k] = c := (List.getElem?_eq_some_iff.1 h).2
  rw [take_norm h, List.drop_eq_getElem_cons hk, hc]
  unfold normC
  rw [if_neg (by rw [hg]; decide)]
set_option maxRecDepth 100000 in
set_option maxHeartbeats 16000000 in
theorem back_any {w : World} (hV : Vars w) {v : Value} {cs : List Ch} (hv : ChsV w (fun x => x < w.heap.size) v cs) (hcb : ∀ c ∈ cs, KByt c.key ∧ KByt c.val) (hcl : cs.length ≤ 1099511627776) {ba : Option Addr} {bcap : Nat} {bs : List Int} (hb : BytesV w (.slice ba bs.length bcap) bs) (hbb : KByt bs) (hbc : bs.length ≤ bcap) (hbm : bcap ≤ 9223372036854775807) (hbl : bs.length ≤ 1099511627776) :
    Calls Tryz.prog 7 #[v, .slice ba bs.length bcap] w fun e w' => e = .returned (.bool true) ∧ Below w.heap.size w w' := by
  obtain ⟨a, cap, rfl, i1, i2, i3⟩ := hv.form
  have HV : Hid (Vars w) := hV
  have HC : Hid (ChsV w (fun x => x < w.heap.size) (.slice a cs.length cap) cs ∧ (∀ c ∈ cs, KByt c.key ∧ KByt c.val) ∧ cs.length ≤ 1099511627776) := ⟨hv, hcb, hcl⟩
  have HB : Hid (BytesV w (.slice ba bs.length bcap) bs ∧ KByt bs ∧ bs.length ≤ bcap ∧ bcap ≤ 9223372036854775807 ∧ bs.length ≤ 1099511627776) := ⟨hb, hbb, hbc, hbm, hbl⟩
  obtain ⟨N, hN⟩ : ∃ N, N = cs.length := ⟨_, rfl⟩
  obtain ⟨M, hM⟩ : ∃ M, M = bs.length := ⟨_, rfl⟩
  rw [← hN] at HC i1 i3 hcl ⊢
  rw [← hM] at HB hbl ⊢
  have HN : Hid (N = cs.length ∧ M = bs.length) := ⟨hN, hM⟩
  clear hV hv hcb hb hbb hbc hbm hN hM
  have T1 : Hid True := trivial
  go_enter Tryz.func7, Tryz.ntmps7
  go_wp2_with (first
    | (have _ := T1
       go_at_call 24
       clear T1
       refine Calls.mono (kget_nil _ _ _ _) ?_
       rintro e w1 ⟨rfl, hw1⟩
       obtain rfl := hw1.symm
       have T2 : Hid True := trivial)
    | (have _ := T2
       go_at_call 13
       clear T2
       refine Calls.mono (kput_nil _ _ _ _) ?_
       rintro e w1 ⟨rfl, hw1⟩
       obtain rfl := hw1.symm
       have T3 : Hid True := trivial)
    | (have _ := T3
       go_at_call 16
       clear T3
       refine Calls.mono (ksnap_nil _) ?_
       rintro e w1 ⟨rfl, hw1⟩
       obtain rfl := hw1.symm
       have T4 : Hid True := trivial)
    | (have _ := T4
       go_at_call 27
       clear T4
       refine Calls.mono (klen_nil _) ?_
       rintro e w1 ⟨rfl, hw1⟩
       obtain rfl := hw1.symm
       have T5 : Hid True := trivial)
    | (have _ := T5
       go_at_call 29
       clear T5
       refine Calls.mono (krange_nil _ _ _ _ _ _ _) ?_
       rintro e w1 ⟨hb1, rfl⟩
       have HB1 : Hid (Below w.heap.size w w1) := hb1
       clear hb1))
  go_loopw [0, 8] (fun v i wr => ∃ (k : Nat) (v' : Value) (cs' : List Ch), k ≤ N ∧ i = .int .i64 k ∧ v = v' ∧ (ChsV wr (fun x => x < wr.heap.size) v' cs' ∧ Below w.heap.size w wr) ∧ (slenV v' = N ∧ cs' = (cs.take k).map normC ++ cs.drop k)) (fun _ i _ => N - (intOf i).toNat)
  case atStart => exact ⟨0, .slice a N cap, cs, by omega, rfl, rfl, ⟨HC.out.1.up HB1.out, HB1.out⟩, ⟨rfl, by simp⟩⟩
  case round =>
    obtain ⟨k, v', cs', hk, rfl, rfl, ⟨hch, hbw⟩, hsl, hcs⟩ := hrel
    obtain ⟨a', c', rfl, j1, j2, j3⟩ := hch.form
    have hln : cs'.length = N := hsl
    rw [hln] at hch j1 j3 ⊢
    have HK : Hid (ChsV wr (fun x => x < wr.heap.size) (.slice a' N c') cs' ∧ Below w.heap.size w wr ∧ cs' = (cs.take k).map normC ++ cs.drop k ∧ cs'.length = N) := ⟨hch, hbw, hcs, hln⟩
    by_cases hlt : k < N
    · obtain ⟨A, hA1, hA2, hA3⟩ := chs_ci hch
      obtain ⟨g, o, rfl, hgd, hcell⟩ := hA3 (by omega)
      have hAl : A.length = N := by rw [← hln, ← hA1]; simp
      obtain ⟨F0, hF0⟩ : ∃ F0, A[k]? = some F0 := ⟨_, List.getElem?_eq_getElem (by omega)⟩
      obtain ⟨c, hc⟩ : ∃ c, cs[k]? = some c := ⟨_, List.getElem?_eq_getElem (by have := HN.out.1; omega)⟩
      have hFc : F0.c = c := by
        have h1 : cs'[k]? = some F0.c := by rw [← hA1, List.getElem?_map, hF0]; rfl
        rw [hcs, List.getElem?_append_right (by simp; omega)] at h1
        have e9 : k - ((cs.take k).map normC).length = 0 := by have := HN.out.1; simp; omega
        rw [e9, List.getElem?_drop, Nat.add_zero, hc] at h1
        injection h1 with h1
        exact h1.symm
      have cc := fun j hj => ciL_at A k F0 hF0 j hj
      obtain ⟨hvk, hvv⟩ := hA2 F0 (List.mem_of_getElem? hF0)
      obtain ⟨ak, ck, hak⟩ := hvk.is.form'
      obtain ⟨nk, hnk⟩ : ∃ nk, nk = F0.c.key.length := ⟨_, rfl⟩
      rw [← hnk] at hak
      have c2 : wr.cell? ⟨g, o + k * 3 + 2, none⟩ = some (.bool c.gone) := by
        rw [← hFc, Nat.add_assoc]
        exact hcell _ _ ((cc 2 (by omega)).trans rfl)
      have c0 : wr.cell? ⟨g, o + k * 3, none⟩ = some (.slice ak nk ck) := by
        rw [← hak]
        exact hcell (k * 3) _ ((cc 0 (by omega)).trans rfl)
      have hki : (k : Int) < N := by omega
      obtain ⟨cg, hcg⟩ : ∃ cg, cg = c.gone := ⟨_, rfl⟩
      rw [← hcg] at c2
      cases cg with
      | false =>
        have HD : Hid (cs' = (cs.take (k + 1)).map normC ++ cs.drop (k + 1)) := by show _ = _; rw [drop_norm hc hcg.symm]; exact hcs
        clear hch hbw hsl hcs hln hA1 hA2 hA3 hcell hAl hF0 hc hFc cc hvk hvv hak hnk c0 hcg hgd
        go_wp2
        exact ⟨⟨k + 1, _, cs', by omega, by go_num, rfl, ⟨HK.out.1, HK.out.2.1⟩, rfl, HD.out⟩, by simp [intOf]; omega⟩
      | true =>
        have hup : ∀ {u : Value} {xs : List Int}, KBD wr (fun x => x < wr.heap.size) u xs → KBD wr.drew (fun x => x < wr.drew.heap.size) u xs := fun h => h.mono (fun _ _ => rfl) (fun _ h => h)
        obtain ⟨F, hF⟩ : ∃ F : CI, F = ⟨{ key := c.key, val := [], gone := true }, .slice ak nk ck, .slice none 0 0⟩ := ⟨_, rfl⟩
        have HA : Hid (g < wr.drew.heap.size ∧ A.length = N ∧ (∀ j u, (ciL A)[j]? = some u → wr.drew.cell? ⟨g, o + j, none⟩ = some u) ∧ ∀ f ∈ A, (∃ a l c, f.vk = .slice a l c) ∧ ∃ a l c, f.vv = .slice a l c) := ⟨hgd, hAl, hcell, fun f hf => ⟨⟨_, _, _, (hA2 f hf).1.is.form'.choose_spec.choose_spec⟩, ⟨_, _, _, (hA2 f hf).2.is.form'.choose_spec.choose_spec⟩⟩⟩
        have HKY : Hid (wr.drew.cell? ⟨g, o + k * 3, none⟩ = some (.slice ak nk ck)) := c0
        have HKB : Hid (∀ f ∈ A.take k ++ A.drop (k + 1), KBD wr.drew (fun x => x < wr.drew.heap.size) f.vk f.c.key ∧ KBD wr.drew (fun x => x < wr.drew.heap.size) f.vv f.c.val) := fun f hf => by
          have hm : f ∈ A := by
            rcases List.mem_append.1 hf with h | h
            · exact List.mem_of_mem_take h
            · exact List.mem_of_mem_drop h
          exact ⟨hup (hA2 f hm).1, hup (hA2 f hm).2⟩
        have HFK : Hid (KBD wr.drew (fun x => x < wr.drew.heap.size) F.vk F.c.key ∧ KBD wr.drew (fun x => x < wr.drew.heap.size) F.vv F.c.val) := by
          rw [hF]
          refine ⟨?_, ⟨Or.inl ⟨rfl, rfl⟩, fun x hx => by simp [dBlock] at hx, by simp⟩⟩
          have h9 := hup hvk
          rw [hFc, hak] at h9
          exact h9
        obtain ⟨o2, ho2⟩ : ∃ o2, o2 = if c' = k + 1 then o else o + (k + 1) * 3 := ⟨_, rfl⟩
        obtain ⟨m2, hm2⟩ : ∃ m2, m2 = N - (k + 1) := ⟨_, rfl⟩
        have hs1 := fun w' => sl37h w' g o N c' k (by omega)
        have hs2 := fun w' => sl37l w' g o N c' (k + 1) ((k : Int) + 1) (by omega) (by omega)
        rw [← ho2, ← hm2] at hs2
        have HM2 : Hid (m2 = N - (k + 1) ∧ ∀ j u, (ciL (A.drop (k + 1)))[j]? = some u → wr.drew.cell? ⟨g, o2 + j, none⟩ = some u) := ⟨hm2, fun j u hu => by
          have h9 := ciL_drop (by omega) hu
          have h8 : k + 1 < N := by
            have := (List.getElem?_eq_some_iff.1 hu).1
            rw [ciL_length, List.length_drop] at this
            omega
          rw [ho2, if_neg (by omega)]
          have h7 := hcell _ _ h9
          rw [← Nat.add_assoc] at h7
          exact h7⟩
        have HCS : Hid ((A.take k ++ F :: A.drop (k + 1)).map CI.c = (cs.take (k + 1)).map normC ++ cs.drop (k + 1)) := by
          show _ = _
          have hnc : normC c = F.c := by rw [hF]; unfold normC; rw [if_pos hcg.symm, ← hcg]
          rw [take_norm hc, List.map_append, List.map_cons, hnc]
          have e1 : (A.take k).map CI.c = (cs.take k).map normC := by rw [List.map_take, hA1, hcs, List.take_append_of_le_length (by have := HN.out.1; simp; omega), List.take_of_length_le (by simp; omega)]
          have e2 : (A.drop (k + 1)).map CI.c = cs.drop (k + 1) := by
            rw [List.map_drop, hA1, hcs, List.drop_append]
            have e3 : ((cs.take k).map normC).length = k := by have := HN.out.1; simp; omega
            rw [e3, List.drop_of_length_le (by omega), List.nil_append, List.drop_drop]
            congr 1
            omega
          rw [e1, e2]
        have HN56 : Hid (N * 56 ≤ 140737488355328) := j3
        have hF' : F = ⟨F.c, .slice ak nk ck, .slice none 0 0⟩ := by rw [hF]
        have hFg : F.c.gone = true := by rw [hF]
        obtain ⟨fc, rfl⟩ : ∃ fc : Ch, F = ⟨fc, .slice ak nk ck, .slice none 0 0⟩ := ⟨_, hF'⟩
        obtain ⟨fk, fv, rfl⟩ : ∃ fk fv, fc = ⟨fk, fv, true⟩ := ⟨fc.key, fc.val, by cases fc; simp at hFg; rw [hFg]⟩
        clear hch hbw hsl hcs hln hA1 hA2 hA3 hcell hAl hF0 hc hFc cc hvk hvv hak hnk c0 hcg hgd hup ho2 hm2 hF hF' hFg
        have hwk : IntKind.i64.wrap ((k : Int) + 1) = k + 1 := by rw [IntKind.wrap_i64]; omega
        go_wp2_with fail
        have hb0 : Below w.heap.size w wr.drew := Below.drew HK.out.2.1
        have HW0 : Hid (Below w.heap.size w wr.drew) := hb0
        clear hb0
        obtain ⟨W0, hW0⟩ : ∃ W0, W0 = wr.drew := ⟨_, rfl⟩
        rw [← hW0] at HW0 HA HKY HKB HFK HM2
        refine wp_region_held_drew (S := fun w' => Below W0.heap.size W0 w') (by kernel_rfl) (by rw [← hW0]; exact Below.refl _ _) (fun hHeld => ?_)
        rw [← hW0] at hHeld ⊢
        clear hW0 HK
        refine wpAnyH_take (i := 1) (v := .slice (some ⟨g, o, none⟩) N c') rfl (by kernel_rfl) (by kernel_rfl) (by kernel_rfl) (fun _ _ _ h => h) (Or.inl ⟨by rfl, fun w9 hSw => ?_⟩) hHeld ?_
        · go_simp
        simp only [List.getElem_toArray, List.getElem_cons_succ, List.getElem_cons_zero, Act.put, List.setIfInBounds_toArray, List.set_cons_zero, List.set_cons_succ]
        refine wpAnyH_take (i := 2) (v := .int .i64 k) rfl (by kernel_rfl) (by kernel_rfl) (by kernel_rfl) (fun _ _ _ h => h) (Or.inl ⟨by rfl, fun w9 hSw => ?_⟩) hHeld ?_
        · go_simp
        simp only [List.getElem_toArray, List.getElem_cons_succ, List.getElem_cons_zero, Act.put, List.setIfInBounds_toArray, List.set_cons_zero, List.set_cons_succ]
        refine wpAnyH_take (i := 3) (v := .slice (some ⟨g, o, none⟩) k c') rfl (by kernel_rfl) (by kernel_rfl) (by kernel_rfl) (fun _ _ _ h => h) (Or.inl ⟨by rfl, fun w9 hSw => ?_⟩) hHeld ?_
        · have y1 := hs1 w9
          go_simp
        simp only [List.getElem_toArray, List.getElem_cons_succ, List.getElem_cons_zero, Act.put, List.setIfInBounds_toArray, List.set_cons_zero, List.set_cons_succ]
        refine wpAnyH_take (i := 5) (v := .slice (some ⟨g, o, none⟩) N c') rfl (by kernel_rfl) (by kernel_rfl) (by kernel_rfl) (fun _ _ _ h => h) (Or.inl ⟨by rfl, fun w9 hSw => ?_⟩) hHeld ?_
        · go_simp
        simp only [List.getElem_toArray, List.getElem_cons_succ, List.getElem_cons_zero, Act.put, List.setIfInBounds_toArray, List.set_cons_zero, List.set_cons_succ]
        refine wpAnyH_take (i := 6) (v := .int .i64 k) rfl (by kernel_rfl) (by kernel_rfl) (by kernel_rfl) (fun _ _ _ h => h) (Or.inl ⟨by rfl, fun w9 hSw => ?_⟩) hHeld ?_
        · go_simp
        simp only [List.getElem_toArray, List.getElem_cons_succ, List.getElem_cons_zero, Act.put, List.setIfInBounds_toArray, List.set_cons_zero, List.set_cons_succ]
        refine wpAnyH_take (i := 7) (v := .pointer (some ⟨g, o + k * 3, none⟩)) rfl (by kernel_rfl) (by kernel_rfl) (by kernel_rfl) (fun _ _ _ h => h) (Or.inl ⟨by rfl, fun w9 hSw => ?_⟩) hHeld ?_
        · go_simp
        simp only [List.getElem_toArray, List.getElem_cons_succ, List.getElem_cons_zero, Act.put, List.setIfInBounds_toArray, List.set_cons_zero, List.set_cons_succ]
        refine wpAnyH_take (i := 8) (v := .pointer (some ⟨g, o + k * 3, none⟩)) rfl (by kernel_rfl) (by kernel_rfl) (by kernel_rfl) (fun _ _ _ h => h) (Or.inl ⟨by rfl, fun w9 hSw => ?_⟩) hHeld ?_
        · go_simp
        simp only [List.getElem_toArray, List.getElem_cons_succ, List.getElem_cons_zero, Act.put, List.setIfInBounds_toArray, List.set_cons_zero, List.set_cons_succ]
        refine wpAnyH_take (i := 9) (v := .slice ak nk ck) rfl (by kernel_rfl) (by kernel_rfl) (by kernel_rfl) (fun _ _ _ h => h) (Or.inl ⟨by rfl, fun w9 hSw => ?_⟩) hHeld ?_
        · have y0 := (hSw.cell (p := ⟨g, o + k * 3, none⟩) HA.out.1).trans HKY.out
          go_simp
        simp only [List.getElem_toArray, List.getElem_cons_succ, List.getElem_cons_zero, Act.put, List.setIfInBounds_toArray, List.set_cons_zero, List.set_cons_succ]
        refine wpAnyH_take (i := 10) (v := .agg #[.slice ak nk ck, .slice none 0 0, .bool true]) rfl (by kernel_rfl) (by kernel_rfl) (by kernel_rfl) (fun _ _ _ h => h) (Or.inl ⟨by rfl, fun w9 hSw => ?_⟩) hHeld ?_
        · go_simp
        simp only [List.getElem_toArray, List.getElem_cons_succ, List.getElem_cons_zero, Act.put, List.setIfInBounds_toArray, List.set_cons_zero, List.set_cons_succ]
        refine wpAnyH_take (i := 12) (v := .slice (some ⟨g, o, none⟩) N c') rfl (by kernel_rfl) (by kernel_rfl) (by kernel_rfl) (fun _ _ _ h => h) (Or.inl ⟨by rfl, fun w9 hSw => ?_⟩) hHeld ?_
        · go_simp
        simp only [List.getElem_toArray, List.getElem_cons_succ, List.getElem_cons_zero, Act.put, List.setIfInBounds_toArray, List.set_cons_zero, List.set_cons_succ]
        refine wpAnyH_take (i := 13) (v := .int .i64 k) rfl (by kernel_rfl) (by kernel_rfl) (by kernel_rfl) (fun _ _ _ h => h) (Or.inl ⟨by rfl, fun w9 hSw => ?_⟩) hHeld ?_
        · go_simp
        simp only [List.getElem_toArray, List.getElem_cons_succ, List.getElem_cons_zero, Act.put, List.setIfInBounds_toArray, List.set_cons_zero, List.set_cons_succ]
        refine wpAnyH_take (i := 14) (v := .int .i64 (k + 1)) rfl (by kernel_rfl) (by kernel_rfl) (by kernel_rfl) (fun _ _ _ h => h) (Or.inl ⟨by rfl, fun w9 hSw => ?_⟩) hHeld ?_
        · go_simp
        simp only [List.getElem_toArray, List.getElem_cons_succ, List.getElem_cons_zero, Act.put, List.setIfInBounds_toArray, List.set_cons_zero, List.set_cons_succ]
        refine wpAnyH_take (i := 15) (v := .slice (some ⟨g, o2, none⟩) m2 (c' - (k + 1))) rfl (by kernel_rfl) (by kernel_rfl) (by kernel_rfl) (fun _ _ _ h => h) (Or.inl ⟨by rfl, fun w9 hSw => ?_⟩) hHeld ?_
        · have y1 := hs2 w9
          go_simp
        simp only [List.getElem_toArray, List.getElem_cons_succ, List.getElem_cons_zero, Act.put, List.setIfInBounds_toArray, List.set_cons_zero, List.set_cons_succ]
        refine wpAnyH_ready (rs := [0, 11]) (by kernel_rfl) (by simp) ?_
        refine AllReadyH.cons rfl (fun K hK => ?_) (AllReadyH.cons rfl (fun K hK => ?_) AllReadyH.nil)
        · go_simp
          have hb : Below W0.heap.size W0 (W0.alloc (.cells #[] 83)) := by go_grown
          have hbl : Below W0.heap.size W0 (W0.alloc (.cells #[] 83)) := hHeld.trans (hb.mono hHeld.size)
          obtain ⟨z0, hz0⟩ : ∃ z0, z0 = W0.heap.size := ⟨_, rfl⟩
          have HR0n : Hid ((W0.alloc (.cells #[] 83)).ownsRow W0.heap.size 83 3 (.slice (some ⟨z0, 0, none⟩) 0 0) 0 (ciL [])) := by rw [hz0]; exact World.ownsRow_made W0 #[] 0 hHeld.size (by decide) rfl
          rw [← hz0]
          refine hK.out _ _ hbl (fun hHeld => ?_)
          clear hK K hb hbl hz0
          have HR0 := HR0n
          clear HR0n
          try simp only [List.getElem_toArray, List.getElem_cons_succ, List.getElem_cons_zero, Act.put, List.setIfInBounds_toArray, List.set_cons_zero, List.set_cons_succ]
          generalize W0.alloc (.cells #[] 83) = V1 at HR0 hHeld ⊢
          refine wpAnyH_ready (rs := [4, 11]) (by kernel_rfl) (by simp) ?_
          refine AllReadyH.cons rfl (fun K hK => ?_) (AllReadyH.cons rfl (fun K hK => ?_) AllReadyH.nil)
          · refine step_append_rs (by rfl) _ _ (by rfl) (base := W0.heap.size) (v := .slice (some ⟨z0, 0, none⟩) 0 0) (B := []) (by rfl) HR0.out (g := g) (o := o) (m := k) (c := c') (by rfl) (A.take k) (by have := HA.out.2.1; rw [List.length_take]; omega) (fun j u hu => (hHeld.cell (p := ⟨g, o + j, none⟩) HA.out.1).trans (HA.out.2.2.1 j u (ciL_take hu))) (fun f hf => HA.out.2.2.2 f (List.mem_of_mem_take hf)) (by simp; omega) hHeld.size ?_
            intro v' V2 ho hg ha
            rw [show ([] : List CI).length + k = k from Nat.zero_add k] at ho
            obtain ⟨a4, c4, rfl⟩ := row_form ho
            have hbl : Below W0.heap.size W0 V2 := hHeld.grown hg hHeld.size (fun x hx => (World.ownsRow.lt HR0.out x hx).1)
            have HR0n : Hid (V2.ownsRow W0.heap.size 83 3 (.slice a4 k c4) k (ciL (A.take k))) := ho
            refine hK.out _ _ hbl (fun hHeld => ?_)
            clear hK K ho hg ha hbl HR0
            have HR0 := HR0n
            clear HR0n
            try simp only [List.getElem_toArray, List.getElem_cons_succ, List.getElem_cons_zero, Act.put, List.setIfInBounds_toArray, List.set_cons_zero, List.set_cons_succ]
            refine wpAnyH_ready (rs := [11]) (by kernel_rfl) (by simp) ?_
            refine AllReadyH.cons rfl (fun K hK => ?_) AllReadyH.nil
            go_simp
            have hb : Below V2.heap.size V2 (V2.alloc (.cells #[.slice ak nk ck, .slice none 0 0, .bool true] 83)) := by go_grown
            have hbl : Below W0.heap.size W0 (V2.alloc (.cells #[.slice ak nk ck, .slice none 0 0, .bool true] 83)) := hHeld.trans (hb.mono hHeld.size)
            obtain ⟨z1, hz1⟩ : ∃ z1, z1 = V2.heap.size := ⟨_, rfl⟩
            have HR1n : Hid ((V2.alloc (.cells #[.slice ak nk ck, .slice none 0 0, .bool true] 83)).ownsRow W0.heap.size 83 3 (.slice (some ⟨z1, 0, none⟩) 1 1) 1 (ciL [⟨⟨fk, fv, true⟩, .slice ak nk ck, .slice none 0 0⟩])) := by rw [hz1]; exact World.ownsRow_lit V2 #[.slice ak nk ck, .slice none 0 0, .bool true] 1 hHeld.size (by decide) rfl
            have HR0n : Hid ((V2.alloc (.cells #[.slice ak nk ck, .slice none 0 0, .bool true] 83)).ownsRow W0.heap.size 83 3 (.slice a4 k c4) k (ciL (A.take k))) := World.ownsRow.alloc HR0.out _
            have HNEn : Hid ((.slice a4 k c4 : Value).ownBlock ≠ (Value.slice (some ⟨z1, 0, none⟩) 1 1).ownBlock) := fun e => by have h9 : (.slice a4 k c4 : Value).ownBlock = some z1 := e; have := (World.ownsRow.lt HR0.out _ h9).2; omega
            rw [← hz1]
            refine hK.out _ _ hbl (fun hHeld => ?_)
            clear hK K hb hbl hz1 HR0
            have HR0 := HR0n
            clear HR0n
            have HR1 := HR1n
            clear HR1n
            have HNE := HNEn
            clear HNEn
            try simp only [List.getElem_toArray, List.getElem_cons_succ, List.getElem_cons_zero, Act.put, List.setIfInBounds_toArray, List.set_cons_zero, List.set_cons_succ]
            generalize V2.alloc (.cells #[.slice ak nk ck, .slice none 0 0, .bool true] 83) = V3 at HR0 HR1 hHeld ⊢
            refine wpAnyH_ready (rs := [16]) (by kernel_rfl) (by simp) ?_
            refine AllReadyH.cons rfl (fun K hK => ?_) AllReadyH.nil
            refine step_append_rs (by rfl) _ _ (by rfl) (base := W0.heap.size) (v := .slice (some ⟨z1, 0, none⟩) 1 1) (B := [⟨⟨fk, fv, true⟩, .slice ak nk ck, .slice none 0 0⟩]) (by rfl) HR1.out (g := g) (o := o2) (m := m2) (c := c' - (k + 1)) (by rfl) (A.drop (k + 1)) (by have := HA.out.2.1; have := HM2.out.1; rw [List.length_drop]; omega) (fun j u hu => (hHeld.cell (p := ⟨g, o2 + j, none⟩) HA.out.1).trans (HM2.out.2 j u hu)) (fun f hf => HA.out.2.2.2 f (List.mem_of_mem_drop hf)) (by have := HM2.out.1; simp; omega) hHeld.size ?_
            intro v' V4 ho hg ha
            obtain ⟨a16, c16, rfl⟩ := row_form ho
            have hbl : Below W0.heap.size W0 V4 := hHeld.grown hg hHeld.size (fun x hx => (World.ownsRow.lt HR1.out x hx).1)
            obtain ⟨m16, hm16⟩ : ∃ m16, m16 = ([⟨⟨fk, fv, true⟩, .slice ak nk ck, .slice none 0 0⟩] : List CI).length + m2 := ⟨_, rfl⟩
            rw [← hm16] at ho ha ⊢
            have HR1n : Hid (V4.ownsRow W0.heap.size 83 3 (.slice a16 m16 c16) m16 (ciL (⟨⟨fk, fv, true⟩, .slice ak nk ck, .slice none 0 0⟩ :: A.drop (k + 1)))) := ho
            have HM16 : Hid (m16 = 1 + m2) := hm16
            have HR0n : Hid (V4.ownsRow W0.heap.size 83 3 (.slice a4 k c4) k (ciL (A.take k))) := World.ownsRow.kept HR0.out hg (Or.inr HNE.out)
            have HNEn : Hid ((.slice a4 k c4 : Value).ownBlock ≠ (Value.slice a16 m16 c16).ownBlock) := fun e => row_apart ha (fun e => HNE.out e.symm) HR0.out e.symm
            refine hK.out _ _ hbl (fun hHeld => ?_)
            clear hK K ho hg ha hbl HR1 hm16 HR0 HNE
            have HR1 := HR1n
            clear HR1n
            have HR0 := HR0n
            have HNE := HNEn
            clear HR0n HNEn
            try simp only [List.getElem_toArray, List.getElem_cons_succ, List.getElem_cons_zero, Act.put, List.setIfInBounds_toArray, List.set_cons_zero, List.set_cons_succ]
            refine wpAnyH_ready (rs := [17]) (by kernel_rfl) (by simp) ?_
            refine AllReadyH.cons rfl (fun K hK => ?_) AllReadyH.nil
            obtain ⟨g16, c16', e16, hc16, _⟩ := row_form0 HR1.out (by have := HM16.out; omega)
            have e16' : a16 = some ⟨g16, 0, none⟩ := by injection e16
            subst e16'
            refine step_append_rs (by rfl) _ _ (by rfl) (base := W0.heap.size) (v := .slice a4 k c4) (B := A.take k) (by rfl) (by rw [List.length_take, Nat.min_eq_left (by have := HA.out.2.1; omega)]; exact HR0.out) (g := g16) (o := 0) (m := m16) (c := c16) (by rfl) (⟨⟨fk, fv, true⟩, .slice ak nk ck, .slice none 0 0⟩ :: A.drop (k + 1)) (by have := HA.out.2.1; have := HM16.out; have := HM2.out.1; rw [List.length_cons, List.length_drop]; omega) (fun j u hu => by have h9 := World.ownsRow.cells HR1.out (g := g16) rfl j u hu; rw [Addr.add_lit] at h9; exact h9) (fun f hf => ?_) (by have := HM16.out; have := HM2.out.1; rw [List.length_take]; omega) hHeld.size ?_
            · rcases List.mem_cons.1 hf with rfl | hf
              · exact ⟨⟨_, _, _, rfl⟩, ⟨_, _, _, rfl⟩⟩
              · exact HA.out.2.2.2 f (List.mem_of_mem_drop hf)
            intro v' V5 ho hg ha
            obtain ⟨a17, c17, rfl⟩ := row_form ho
            have hbl : Below W0.heap.size W0 V5 := hHeld.grown hg hHeld.size (fun x hx => (World.ownsRow.lt HR0.out x hx).1)
            obtain ⟨m17, hm17⟩ : ∃ m17, m17 = (A.take k).length + m16 := ⟨_, rfl⟩
            rw [← hm17] at ho ha ⊢
            have HF : Hid (ChsV V5 (fun x => x < V5.heap.size) (.slice a17 m17 c17) ((A.take k ++ ⟨⟨fk, fv, true⟩, .slice ak nk ck, .slice none 0 0⟩ :: A.drop (k + 1)).map CI.c) ∧ Below w.heap.size w V5) := ⟨back_chs ho hbl HKB.out HFK.out (by have := HA.out.2.1; have := HM16.out; have := HM2.out.1; rw [hm17, List.length_append, List.length_cons, List.length_drop]; omega) (by have := HA.out.2.1; have := HM16.out; have := HM2.out.1; rw [hm17, List.length_take]; omega), HW0.out.trans (hbl.mono HW0.out.size)⟩
            have HM17 : Hid (m17 = N ∧ (A.take k ++ ⟨⟨fk, fv, true⟩, .slice ak nk ck, .slice none 0 0⟩ :: A.drop (k + 1)).map CI.c = (cs.take (k + 1)).map normC ++ cs.drop (k + 1)) := ⟨by have := HA.out.2.1; have := HM16.out; have := HM2.out.1; rw [hm17, List.length_take]; omega, HCS.out⟩
            refine hK.out _ _ hbl (fun hHeld => ?_)
            clear hK K ho hg ha hbl hm17 HR0 HR1 HNE
            try simp only [List.getElem_toArray, List.getElem_cons_succ, List.getElem_cons_zero, Act.put, List.setIfInBounds_toArray, List.set_cons_zero, List.set_cons_succ]
            refine wpAnyH_take (i := 18) (v := .slice a17 m17 c17) rfl (by kernel_rfl) (by kernel_rfl) (by kernel_rfl) (fun _ _ _ h => h) (Or.inl ⟨by rfl, fun w9 hSw => ?_⟩) hHeld ?_
            · go_simp
            simp only [List.getElem_toArray, List.getElem_cons_succ, List.getElem_cons_zero, Act.put, List.setIfInBounds_toArray, List.set_cons_zero, List.set_cons_succ]
            refine wpAnyH_done (by kernel_rfl) ?_ _
            clear hHeld
            go_wp2_with fail
            go_roundw
            case rel => exact ⟨k + 1, .slice a17 m17 c17, _, by omega, by go_num, rfl, HF.out, HM17.out⟩
            case measure => simp [intOf]; omega
          · go_simp
            have hb : Below V1.heap.size V1 (V1.alloc (.cells #[.slice ak nk ck, .slice none 0 0, .bool true] 83)) := by go_grown
            have hbl : Below W0.heap.size W0 (V1.alloc (.cells #[.slice ak nk ck, .slice none 0 0, .bool true] 83)) := hHeld.trans (hb.mono hHeld.size)
            obtain ⟨z1, hz1⟩ : ∃ z1, z1 = V1.heap.size := ⟨_, rfl⟩
            have HR1n : Hid ((V1.alloc (.cells #[.slice ak nk ck, .slice none 0 0, .bool true] 83)).ownsRow W0.heap.size 83 3 (.slice (some ⟨z1, 0, none⟩) 1 1) 1 (ciL [⟨⟨fk, fv, true⟩, .slice ak nk ck, .slice none 0 0⟩])) := by rw [hz1]; exact World.ownsRow_lit V1 #[.slice ak nk ck, .slice none 0 0, .bool true] 1 hHeld.size (by decide) rfl
            have HR0n : Hid ((V1.alloc (.cells #[.slice ak nk ck, .slice none 0 0, .bool true] 83)).ownsRow W0.heap.size 83 3 (.slice (some ⟨z0, 0, none⟩) 0 0) 0 (ciL [])) := World.ownsRow.alloc HR0.out _
            have HNEn : Hid ((.slice (some ⟨z0, 0, none⟩) 0 0 : Value).ownBlock ≠ (Value.slice (some ⟨z1, 0, none⟩) 1 1).ownBlock) := fun e => by have h9 : (.slice (some ⟨z0, 0, none⟩) 0 0 : Value).ownBlock = some z1 := e; have := (World.ownsRow.lt HR0.out _ h9).2; omega
            rw [← hz1]
            refine hK.out _ _ hbl (fun hHeld => ?_)
            clear hK K hb hbl hz1 HR0
            have HR0 := HR0n
            clear HR0n
            have HR1 := HR1n
            clear HR1n
            have HNE := HNEn
            clear HNEn
            try simp only [List.getElem_toArray, List.getElem_cons_succ, List.getElem_cons_zero, Act.put, List.setIfInBounds_toArray, List.set_cons_zero, List.set_cons_succ]
            generalize V1.alloc (.cells #[.slice ak nk ck, .slice none 0 0, .bool true] 83) = V6 at HR0 HR1 hHeld ⊢
            refine wpAnyH_ready (rs := [4]) (by kernel_rfl) (by simp) ?_
            refine AllReadyH.cons rfl (fun K hK => ?_) AllReadyH.nil
            refine step_append_rs (by rfl) _ _ (by rfl) (base := W0.heap.size) (v := .slice (some ⟨z0, 0, none⟩) 0 0) (B := []) (by rfl) HR0.out (g := g) (o := o) (m := k) (c := c') (by rfl) (A.take k) (by have := HA.out.2.1; rw [List.length_take]; omega) (fun j u hu => (hHeld.cell (p := ⟨g, o + j, none⟩) HA.out.1).trans (HA.out.2.2.1 j u (ciL_take hu))) (fun f hf => HA.out.2.2.2 f (List.mem_of_mem_take hf)) (by simp; omega) hHeld.size ?_
            intro v' V7 ho hg ha
            rw [show ([] : List CI).length + k = k from Nat.zero_add k] at ho
            obtain ⟨a4, c4, rfl⟩ := row_form ho
            have hbl : Below W0.heap.size W0 V7 := hHeld.grown hg hHeld.size (fun x hx => (World.ownsRow.lt HR0.out x hx).1)
            have HR0n : Hid (V7.ownsRow W0.heap.size 83 3 (.slice a4 k c4) k (ciL (A.take k))) := ho
            have HR1n : Hid (V7.ownsRow W0.heap.size 83 3 (.slice (some ⟨z1, 0, none⟩) 1 1) 1 (ciL [⟨⟨fk, fv, true⟩, .slice ak nk ck, .slice none 0 0⟩])) := World.ownsRow.kept HR1.out hg (Or.inr (fun e => HNE.out e.symm))
            have HNEn : Hid ((Value.slice a4 k c4).ownBlock ≠ (.slice (some ⟨z1, 0, none⟩) 1 1 : Value).ownBlock) := row_apart ha HNE.out HR1.out
            refine hK.out _ _ hbl (fun hHeld => ?_)
            clear hK K ho hg ha hbl HR0 HR1 HNE
            have HR0 := HR0n
            clear HR0n
            have HR1 := HR1n
            have HNE := HNEn
            clear HR1n HNEn
            try simp only [List.getElem_toArray, List.getElem_cons_succ, List.getElem_cons_zero, Act.put, List.setIfInBounds_toArray, List.set_cons_zero, List.set_cons_succ]
            refine wpAnyH_ready (rs := [16]) (by kernel_rfl) (by simp) ?_
            refine AllReadyH.cons rfl (fun K hK => ?_) AllReadyH.nil
            refine step_append_rs (by rfl) _ _ (by rfl) (base := W0.heap.size) (v := .slice (some ⟨z1, 0, none⟩) 1 1) (B := [⟨⟨fk, fv, true⟩, .slice ak nk ck, .slice none 0 0⟩]) (by rfl) HR1.out (g := g) (o := o2) (m := m2) (c := c' - (k + 1)) (by rfl) (A.drop (k + 1)) (by have := HA.out.2.1; have := HM2.out.1; rw [List.length_drop]; omega) (fun j u hu => (hHeld.cell (p := ⟨g, o2 + j, none⟩) HA.out.1).trans (HM2.out.2 j u hu)) (fun f hf => HA.out.2.2.2 f (List.mem_of_mem_drop hf)) (by have := HM2.out.1; simp; omega) hHeld.size ?_
            intro v' V8 ho hg ha
            obtain ⟨a16, c16, rfl⟩ := row_form ho
            have hbl : Below W0.heap.size W0 V8 := hHeld.grown hg hHeld.size (fun x hx => (World.ownsRow.lt HR1.out x hx).1)
            obtain ⟨m16, hm16⟩ : ∃ m16, m16 = ([⟨⟨fk, fv, true⟩, .slice ak nk ck, .slice none 0 0⟩] : List CI).length + m2 := ⟨_, rfl⟩
            rw [← hm16] at ho ha ⊢
            have HR1n : Hid (V8.ownsRow W0.heap.size 83 3 (.slice a16 m16 c16) m16 (ciL (⟨⟨fk, fv, true⟩, .slice ak nk ck, .slice none 0 0⟩ :: A.drop (k + 1)))) := ho
            have HM16 : Hid (m16 = 1 + m2) := hm16
            have HR0n : Hid (V8.ownsRow W0.heap.size 83 3 (.slice a4 k c4) k (ciL (A.take k))) := World.ownsRow.kept HR0.out hg (Or.inr HNE.out)
            have HNEn : Hid ((.slice a4 k c4 : Value).ownBlock ≠ (Value.slice a16 m16 c16).ownBlock) := fun e => row_apart ha (fun e => HNE.out e.symm) HR0.out e.symm
            refine hK.out _ _ hbl (fun hHeld => ?_)
            clear hK K ho hg ha hbl HR1 hm16 HR0 HNE
            have HR1 := HR1n
            clear HR1n
            have HR0 := HR0n
            have HNE := HNEn
            clear HR0n HNEn
            try simp only [List.getElem_toArray, List.getElem_cons_succ, List.getElem_cons_zero, Act.put, List.setIfInBounds_toArray, List.set_cons_zero, List.set_cons_succ]
            refine wpAnyH_ready (rs := [17]) (by kernel_rfl) (by simp) ?_
            refine AllReadyH.cons rfl (fun K hK => ?_) AllReadyH.nil
            obtain ⟨g16, c16', e16, hc16, _⟩ := row_form0 HR1.out (by have := HM16.out; omega)
            have e16' : a16 = some ⟨g16, 0, none⟩ := by injection e16
            subst e16'
            refine step_append_rs (by rfl) _ _ (by rfl) (base := W0.heap.size) (v := .slice a4 k c4) (B := A.take k) (by rfl) (by rw [List.length_take, Nat.min_eq_left (by have := HA.out.2.1; omega)]; exact HR0.out) (g := g16) (o := 0) (m := m16) (c := c16) (by rfl) (⟨⟨fk, fv, true⟩, .slice ak nk ck, .slice none 0 0⟩ :: A.drop (k + 1)) (by have := HA.out.2.1; have := HM16.out; have := HM2.out.1; rw [List.length_cons, List.length_drop]; omega) (fun j u hu => by have h9 := World.ownsRow.cells HR1.out (g := g16) rfl j u hu; rw [Addr.add_lit] at h9; exact h9) (fun f hf => ?_) (by have := HM16.out; have := HM2.out.1; rw [List.length_take]; omega) hHeld.size ?_
            · rcases List.mem_cons.1 hf with rfl | hf
              · exact ⟨⟨_, _, _, rfl⟩, ⟨_, _, _, rfl⟩⟩
              · exact HA.out.2.2.2 f (List.mem_of_mem_drop hf)
            intro v' V9 ho hg ha
            obtain ⟨a17, c17, rfl⟩ := row_form ho
            have hbl : Below W0.heap.size W0 V9 := hHeld.grown hg hHeld.size (fun x hx => (World.ownsRow.lt HR0.out x hx).1)
            obtain ⟨m17, hm17⟩ : ∃ m17, m17 = (A.take k).length + m16 := ⟨_, rfl⟩
            rw [← hm17] at ho ha ⊢
            have HF : Hid (ChsV V9 (fun x => x < V9.heap.size) (.slice a17 m17 c17) ((A.take k ++ ⟨⟨fk, fv, true⟩, .slice ak nk ck, .slice none 0 0⟩ :: A.drop (k + 1)).map CI.c) ∧ Below w.heap.size w V9) := ⟨back_chs ho hbl HKB.out HFK.out (by have := HA.out.2.1; have := HM16.out; have := HM2.out.1; rw [hm17, List.length_append, List.length_cons, List.length_drop]; omega) (by have := HA.out.2.1; have := HM16.out; have := HM2.out.1; rw [hm17, List.length_take]; omega), HW0.out.trans (hbl.mono HW0.out.size)⟩
            have HM17 : Hid (m17 = N ∧ (A.take k ++ ⟨⟨fk, fv, true⟩, .slice ak nk ck, .slice none 0 0⟩ :: A.drop (k + 1)).map CI.c = (cs.take (k + 1)).map normC ++ cs.drop (k + 1)) := ⟨by have := HA.out.2.1; have := HM16.out; have := HM2.out.1; rw [hm17, List.length_take]; omega, HCS.out⟩
            refine hK.out _ _ hbl (fun hHeld => ?_)
            clear hK K ho hg ha hbl hm17 HR0 HR1 HNE
            try simp only [List.getElem_toArray, List.getElem_cons_succ, List.getElem_cons_zero, Act.put, List.setIfInBounds_toArray, List.set_cons_zero, List.set_cons_succ]
            refine wpAnyH_take (i := 18) (v := .slice a17 m17 c17) rfl (by kernel_rfl) (by kernel_rfl) (by kernel_rfl) (fun _ _ _ h => h) (Or.inl ⟨by rfl, fun w9 hSw => ?_⟩) hHeld ?_
            · go_simp
            simp only [List.getElem_toArray, List.getElem_cons_succ, List.getElem_cons_zero, Act.put, List.setIfInBounds_toArray, List.set_cons_zero, List.set_cons_succ]
            refine wpAnyH_done (by kernel_rfl) ?_ _
            clear hHeld
            go_wp2_with fail
            go_roundw
            case rel => exact ⟨k + 1, .slice a17 m17 c17, _, by omega, by go_num, rfl, HF.out, HM17.out⟩
            case measure => simp [intOf]; omega
        · go_simp
          have hb : Below W0.heap.size W0 (W0.alloc (.cells #[.slice ak nk ck, .slice none 0 0, .bool true] 83)) := by go_grown
          have hbl : Below W0.heap.size W0 (W0.alloc (.cells #[.slice ak nk ck, .slice none 0 0, .bool true] 83)) := hHeld.trans (hb.mono hHeld.size)
          obtain ⟨z1, hz1⟩ : ∃ z1, z1 = W0.heap.size := ⟨_, rfl⟩
          have HR1n : Hid ((W0.alloc (.cells #[.slice ak nk ck, .slice none 0 0, .bool true] 83)).ownsRow W0.heap.size 83 3 (.slice (some ⟨z1, 0, none⟩) 1 1) 1 (ciL [⟨⟨fk, fv, true⟩, .slice ak nk ck, .slice none 0 0⟩])) := by rw [hz1]; exact World.ownsRow_lit W0 #[.slice ak nk ck, .slice none 0 0, .bool true] 1 hHeld.size (by decide) rfl
          rw [← hz1]
          refine hK.out _ _ hbl (fun hHeld => ?_)
          clear hK K hb hbl hz1
          have HR1 := HR1n
          clear HR1n
          try simp only [List.getElem_toArray, List.getElem_cons_succ, List.getElem_cons_zero, Act.put, List.setIfInBounds_toArray, List.set_cons_zero, List.set_cons_succ]
          generalize W0.alloc (.cells #[.slice ak nk ck, .slice none 0 0, .bool true] 83) = V10 at HR1 hHeld ⊢
          refine wpAnyH_ready (rs := [0]) (by kernel_rfl) (by simp) ?_
          refine AllReadyH.cons rfl (fun K hK => ?_) AllReadyH.nil
          go_simp
          have hb : Below V10.heap.size V10 (V10.alloc (.cells #[] 83)) := by go_grown
          have hbl : Below W0.heap.size W0 (V10.alloc (.cells #[] 83)) := hHeld.trans (hb.mono hHeld.size)
          obtain ⟨z0, hz0⟩ : ∃ z0, z0 = V10.heap.size := ⟨_, rfl⟩
          have HR0n : Hid ((V10.alloc (.cells #[] 83)).ownsRow W0.heap.size 83 3 (.slice (some ⟨z0, 0, none⟩) 0 0) 0 (ciL [])) := by rw [hz0]; exact World.ownsRow_made V10 #[] 0 hHeld.size (by decide) rfl
          have HR1n : Hid ((V10.alloc (.cells #[] 83)).ownsRow W0.heap.size 83 3 (.slice (some ⟨z1, 0, none⟩) 1 1) 1 (ciL [⟨⟨fk, fv, true⟩, .slice ak nk ck, .slice none 0 0⟩])) := World.ownsRow.alloc HR1.out _
          have HNEn : Hid ((Value.slice (some ⟨z0, 0, none⟩) 0 0).ownBlock ≠ (.slice (some ⟨z1, 0, none⟩) 1 1 : Value).ownBlock) := fun e => by have h9 : some z0 = (.slice (some ⟨z1, 0, none⟩) 1 1 : Value).ownBlock := e; have := (World.ownsRow.lt HR1.out _ h9.symm).2; omega
          rw [← hz0]
          refine hK.out _ _ hbl (fun hHeld => ?_)
          clear hK K hb hbl hz0 HR1
          have HR0 := HR0n
          clear HR0n
          have HR1 := HR1n
          clear HR1n
          have HNE := HNEn
          clear HNEn
          try simp only [List.getElem_toArray, List.getElem_cons_succ, List.getElem_cons_zero, Act.put, List.setIfInBounds_toArray, List.set_cons_zero, List.set_cons_succ]
          generalize V10.alloc (.cells #[] 83) = V11 at HR0 HR1 hHeld ⊢
          refine wpAnyH_ready (rs := [4]) (by kernel_rfl) (by simp) ?_
          refine AllReadyH.cons rfl (fun K hK => ?_) AllReadyH.nil
          refine step_append_rs (by rfl) _ _ (by rfl) (base := W0.heap.size) (v := .slice (some ⟨z0, 0, none⟩) 0 0) (B := []) (by rfl) HR0.out (g := g) (o := o) (m := k) (c := c') (by rfl) (A.take k) (by have := HA.out.2.1; rw [List.length_take]; omega) (fun j u hu => (hHeld.cell (p := ⟨g, o + j, none⟩) HA.out.1).trans (HA.out.2.2.1 j u (ciL_take hu))) (fun f hf => HA.out.2.2.2 f (List.mem_of_mem_take hf)) (by simp; omega) hHeld.size ?_
          intro v' V12 ho hg ha
          rw [show ([] : List CI).length + k = k from Nat.zero_add k] at ho
          obtain ⟨a4, c4, rfl⟩ := row_form ho
          have hbl : Below W0.heap.size W0 V12 := hHeld.grown hg hHeld.size (fun x hx => (World.ownsRow.lt HR0.out x hx).1)
          have HR0n : Hid (V12.ownsRow W0.heap.size 83 3 (.slice a4 k c4) k (ciL (A.take k))) := ho
          have HR1n : Hid (V12.ownsRow W0.heap.size 83 3 (.slice (some ⟨z1, 0, none⟩) 1 1) 1 (ciL [⟨⟨fk, fv, true⟩, .slice ak nk ck, .slice none 0 0⟩])) := World.ownsRow.kept HR1.out hg (Or.inr (fun e => HNE.out e.symm))
          have HNEn : Hid ((Value.slice a4 k c4).ownBlock ≠ (.slice (some ⟨z1, 0, none⟩) 1 1 : Value).ownBlock) := row_apart ha HNE.out HR1.out
          refine hK.out _ _ hbl (fun hHeld => ?_)
          clear hK K ho hg ha hbl HR0 HR1 HNE
          have HR0 := HR0n
          clear HR0n
          have HR1 := HR1n
          have HNE := HNEn
          clear HR1n HNEn
          try simp only [List.getElem_toArray, List.getElem_cons_succ, List.getElem_cons_zero, Act.put, List.setIfInBounds_toArray, List.set_cons_zero, List.set_cons_succ]
          refine wpAnyH_ready (rs := [16]) (by kernel_rfl) (by simp) ?_
          refine AllReadyH.cons rfl (fun K hK => ?_) AllReadyH.nil
          refine step_append_rs (by rfl) _ _ (by rfl) (base := W0.heap.size) (v := .slice (some ⟨z1, 0, none⟩) 1 1) (B := [⟨⟨fk, fv, true⟩, .slice ak nk ck, .slice none 0 0⟩]) (by rfl) HR1.out (g := g) (o := o2) (m := m2) (c := c' - (k + 1)) (by rfl) (A.drop (k + 1)) (by have := HA.out.2.1; have := HM2.out.1; rw [List.length_drop]; omega) (fun j u hu => (hHeld.cell (p := ⟨g, o2 + j, none⟩) HA.out.1).trans (HM2.out.2 j u hu)) (fun f hf => HA.out.2.2.2 f (List.mem_of_mem_drop hf)) (by have := HM2.out.1; simp; omega) hHeld.size ?_
          intro v' V13 ho hg ha
          obtain ⟨a16, c16, rfl⟩ := row_form ho
          have hbl : Below W0.heap.size W0 V13 := hHeld.grown hg hHeld.size (fun x hx => (World.ownsRow.lt HR1.out x hx).1)
          obtain ⟨m16, hm16⟩ : ∃ m16, m16 = ([⟨⟨fk, fv, true⟩, .slice ak nk ck, .slice none 0 0⟩] : List CI).length + m2 := ⟨_, rfl⟩
          rw [← hm16] at ho ha ⊢
          have HR1n : Hid (V13.ownsRow W0.heap.size 83 3 (.slice a16 m16 c16) m16 (ciL (⟨⟨fk, fv, true⟩, .slice ak nk ck, .slice none 0 0⟩ :: A.drop (k + 1)))) := ho
          have HM16 : Hid (m16 = 1 + m2) := hm16
          have HR0n : Hid (V13.ownsRow W0.heap.size 83 3 (.slice a4 k c4) k (ciL (A.take k))) := World.ownsRow.kept HR0.out hg (Or.inr HNE.out)
          have HNEn : Hid ((.slice a4 k c4 : Value).ownBlock ≠ (Value.slice a16 m16 c16).ownBlock) := fun e => row_apart ha (fun e => HNE.out e.symm) HR0.out e.symm
          refine hK.out _ _ hbl (fun hHeld => ?_)
          clear hK K ho hg ha hbl HR1 hm16 HR0 HNE
          have HR1 := HR1n
          clear HR1n
          have HR0 := HR0n
          have HNE := HNEn
          clear HR0n HNEn
          try simp only [List.getElem_toArray, List.getElem_cons_succ, List.getElem_cons_zero, Act.put, List.setIfInBounds_toArray, List.set_cons_zero, List.set_cons_succ]
          refine wpAnyH_ready (rs := [17]) (by kernel_rfl) (by simp) ?_
          refine AllReadyH.cons rfl (fun K hK => ?_) AllReadyH.nil
          obtain ⟨g16, c16', e16, hc16, _⟩ := row_form0 HR1.out (by have := HM16.out; omega)
          have e16' : a16 = some ⟨g16, 0, none⟩ := by injection e16
          subst e16'
          refine step_append_rs (by rfl) _ _ (by rfl) (base := W0.heap.size) (v := .slice a4 k c4) (B := A.take k) (by rfl) (by rw [List.length_take, Nat.min_eq_left (by have := HA.out.2.1; omega)]; exact HR0.out) (g := g16) (o := 0) (m := m16) (c := c16) (by rfl) (⟨⟨fk, fv, true⟩, .slice ak nk ck, .slice none 0 0⟩ :: A.drop (k + 1)) (by have := HA.out.2.1; have := HM16.out; have := HM2.out.1; rw [List.length_cons, List.length_drop]; omega) (fun j u hu => by have h9 := World.ownsRow.cells HR1.out (g := g16) rfl j u hu; rw [Addr.add_lit] at h9; exact h9) (fun f hf => ?_) (by have := HM16.out; have := HM2.out.1; rw [List.length_take]; omega) hHeld.size ?_
          · rcases List.mem_cons.1 hf with rfl | hf
            · exact ⟨⟨_, _, _, rfl⟩, ⟨_, _, _, rfl⟩⟩
            · exact HA.out.2.2.2 f (List.mem_of_mem_drop hf)
          intro v' V14 ho hg ha
          obtain ⟨a17, c17, rfl⟩ := row_form ho
          have hbl : Below W0.heap.size W0 V14 := hHeld.grown hg hHeld.size (fun x hx => (World.ownsRow.lt HR0.out x hx).1)
          obtain ⟨m17, hm17⟩ : ∃ m17, m17 = (A.take k).length + m16 := ⟨_, rfl⟩
          rw [← hm17] at ho ha ⊢
          have HF : Hid (ChsV V14 (fun x => x < V14.heap.size) (.slice a17 m17 c17) ((A.take k ++ ⟨⟨fk, fv, true⟩, .slice ak nk ck, .slice none 0 0⟩ :: A.drop (k + 1)).map CI.c) ∧ Below w.heap.size w V14) := ⟨back_chs ho hbl HKB.out HFK.out (by have := HA.out.2.1; have := HM16.out; have := HM2.out.1; rw [hm17, List.length_append, List.length_cons, List.length_drop]; omega) (by have := HA.out.2.1; have := HM16.out; have := HM2.out.1; rw [hm17, List.length_take]; omega), HW0.out.trans (hbl.mono HW0.out.size)⟩
          have HM17 : Hid (m17 = N ∧ (A.take k ++ ⟨⟨fk, fv, true⟩, .slice ak nk ck, .slice none 0 0⟩ :: A.drop (k + 1)).map CI.c = (cs.take (k + 1)).map normC ++ cs.drop (k + 1)) := ⟨by have := HA.out.2.1; have := HM16.out; have := HM2.out.1; rw [hm17, List.length_take]; omega, HCS.out⟩
          refine hK.out _ _ hbl (fun hHeld => ?_)
          clear hK K ho hg ha hbl hm17 HR0 HR1 HNE
          try simp only [List.getElem_toArray, List.getElem_cons_succ, List.getElem_cons_zero, Act.put, List.setIfInBounds_toArray, List.set_cons_zero, List.set_cons_succ]
          refine wpAnyH_take (i := 18) (v := .slice a17 m17 c17) rfl (by kernel_rfl) (by kernel_rfl) (by kernel_rfl) (fun _ _ _ h => h) (Or.inl ⟨by rfl, fun w9 hSw => ?_⟩) hHeld ?_
          · go_simp
          simp only [List.getElem_toArray, List.getElem_cons_succ, List.getElem_cons_zero, Act.put, List.setIfInBounds_toArray, List.set_cons_zero, List.set_cons_succ]
          refine wpAnyH_done (by kernel_rfl) ?_ _
          clear hHeld
          go_wp2_with fail
          go_roundw
          case rel => exact ⟨k + 1, .slice a17 m17 c17, _, by omega, by go_num, rfl, HF.out, HM17.out⟩
          case measure => simp [intOf]; omega
    · obtain rfl : k = N := by omega
      have hki : ¬ (k : Int) < k := by omega
      have hcsn : cs' = cs.map normC := by rw [hcs, HN.out.1, List.take_length, List.drop_length, List.append_nil]
      have HL : Hid (ChsV wr (fun x => x < wr.heap.size) (.slice a' k c') (cs.map normC) ∧ Below w.heap.size w wr ∧ (∀ c ∈ cs.map normC, KByt c.key ∧ KByt c.val)) := ⟨by rw [← hcsn]; exact hch, hbw, norm_byt HC.out.2.1⟩
      obtain ⟨L, hL⟩ : ∃ L, L = cs.map normC := ⟨_, rfl⟩
      rw [← hL] at HL
      have HOK : Hid ((∀ c ∈ L, okK c) → (encK L).length ≤ 65535 → okL L) := by rw [hL]; exact norm_okL
      clear hch hbw hsl hcs hln HK hcsn hL
      have HU : Hid (∀ W, Below w.heap.size w W → Calls Tryz.prog 33 #[.slice ba M bcap] W fun e w' => Below W.heap.size W w' ∧ UbR W w' bs e) := fun W hW => by
        have h9 := unbatch_any (w := W) (ba := ba) (cap := bcap) (bs := bs) (by rw [← HN.out.2]; exact HB.out.1.keep fun x hx => hW.block x (HB.out.1.lt x hx)) HB.out.2.1 (by rw [← HN.out.2]; exact HB.out.2.2.1) HB.out.2.2.2.1 (by rw [← HN.out.2]; exact HB.out.2.2.2.2)
        rw [← HN.out.2] at h9
        exact h9
      by_cases hQ : (∀ c ∈ L, okK c) ∧ (encK L).length ≤ 65535
      · have HQ : Hid ((∀ c ∈ L, okK c) ∧ (encK L).length ≤ 65535) := hQ
        clear hQ
        by_cases hP : ∃ l, okL l ∧ encK l = bs
        · by_cases hM : M ≤ 65535
          · have HP : Hid ((∃ l, okL l ∧ encK l = bs) ∧ M ≤ 65535) := ⟨hP, hM⟩
            clear hP hM
            have T6 : Hid True := trivial
            go_wp2_with (first
              | (have _ := T6
                 go_at_call 14
                 clear T6
                 refine Calls.mono (kown_any HL.out.1) ?_
                 rintro e w2 ⟨hb2, v2, rfl, hc2⟩
                 obtain ⟨a2, n2, hv2, _⟩ := hc2.form
                 subst hv2
                 have HB2 : Hid (Below w.heap.size w w2 ∧ ChsV w2 (fun x => x < w2.heap.size) (.slice a2 L.length n2) L ∧ ChsV w2 (fun x => x < w2.heap.size) (.slice a' k c') L) := ⟨HL.out.2.1.trans (hb2.mono HL.out.2.1.size), hc2, HL.out.1.up hb2⟩
                 clear hb2 hc2
                 have T7 : Hid True := trivial)
              | (have _ := T7
                 go_at_call 31
                 clear T7
                 refine Calls.mono (batch_any HB2.out.2.1) ?_
                 rintro e w3 ⟨hb3, hr3⟩
                 obtain ⟨a3, c3, rfl, hrow3⟩ : ∃ a3 c3, e = .returned (.tuple #[.slice a3 (encK L).length c3, .int .i64 0]) ∧ w3.ownsRow w2.heap.size 5 1 (.slice a3 (encK L).length c3) (encK L).length (vB (encK L)) := by
                   rcases hr3 with ⟨⟨c, hc, hno⟩, _⟩ | ⟨_, ⟨_, v1, he, hrow⟩ | ⟨hbig, _⟩⟩
                   · exact absurd (HQ.out.1 c hc) hno
                   · obtain ⟨a1, c1, rfl⟩ := row_form hrow
                     exact ⟨a1, c1, he, hrow⟩
                   · have := HQ.out.2; omega
                 obtain ⟨hc3, hm3, _⟩ := row_cap (own_base hrow3 (Nat.zero_le _))
                 have HUL : Hid (∀ (_ : Unit), _) := fun _ => unbatch_any (BytesV.of_own hrow3) (enc_byt HL.out.2.2) hc3 hm3 (by have := HQ.out.2; omega)
                 have HB3 : Hid (Below w.heap.size w w3 ∧ ChsV w3 (fun x => x < w3.heap.size) (.slice a' k c') L) := ⟨HB2.out.1.trans (hb3.mono HB2.out.1.size), HB2.out.2.2.up hb3⟩
                 obtain ⟨n3, hn3⟩ : ∃ n3, n3 = (encK L).length := ⟨_, rfl⟩
                 rw [← hn3] at HUL ⊢
                 clear hb3 hr3 hrow3 hc3 hm3 hn3
                 have T8 : Hid True := trivial)
              | (have _ := T8
                 go_at_call 33
                 clear T8
                 refine Calls.mono (HUL.out ()) ?_
                 rintro e w4 ⟨hb4, hr4⟩
                 obtain ⟨v4, rfl, hc4⟩ : ∃ v4, e = .returned (.tuple #[v4, .int .i64 0]) ∧ ChsV w4 (fun x => x < w4.heap.size) v4 L := by
                   have hokL := HOK.out HQ.out.1 HQ.out.2
                   rcases hr4 with ⟨l, v4, hokl, hen, rfl, hc⟩ | ⟨hno, _⟩
                   · have e9 := encK_inj hokl.1 hokL hen
                     subst e9
                     exact ⟨v4, rfl, hc.mono (fun _ _ => rfl) (fun x hx => hx.2)⟩
                   · exact absurd rfl (hno L hokL)
                 obtain ⟨a4, c4, hv4, _⟩ := hc4.form
                 subst hv4
                 have HB4 : Hid (Below w.heap.size w w4 ∧ ChsV w4 (fun x => x < w4.heap.size) (.slice a4 L.length c4) L ∧ ChsV w4 (fun x => x < w4.heap.size) (.slice a' k c') L) := ⟨HB3.out.1.trans (hb4.mono HB3.out.1.size), hc4, HB3.out.2.up hb4⟩
                 clear hb4 hr4 hc4
                 have T9 : Hid True := trivial)
              | (have _ := T9
                 go_at_call 28
                 clear T9
                 refine Calls.mono (ksame_t HB4.out.2.1 HB4.out.2.2) ?_
                 rintro e w5 ⟨hb5, rfl⟩
                 have HB5 : Hid (Below w.heap.size w w5) := HB4.out.1.trans (hb5.mono HB4.out.1.size)
                 clear hb5
                 have T10 : Hid True := trivial)
              | (have _ := T10
                 go_at_call 33
                 clear T10
                 refine Calls.mono (HU.out _ HB5.out) ?_
                 rintro e w6 ⟨hb6, hr6⟩
                 obtain ⟨l, v6, hokl, hen, rfl, hc6⟩ : ∃ l v6, okL l ∧ encK l = bs ∧ e = .returned (.tuple #[v6, .int .i64 0]) ∧ ChsV w6 (fun x => x < w6.heap.size) v6 l := by
                   rcases hr6 with ⟨l, v6, hok, hen, he, hc⟩ | ⟨hno, _⟩
                   · exact ⟨l, v6, hok.1, hen, he, hc.mono (fun _ _ => rfl) (fun x hx => hx.2)⟩
                   · obtain ⟨l, h1, h2⟩ := HP.out.1
                     exact absurd h2 (hno l h1)
                 obtain ⟨a6, c6, hv6, _⟩ := hc6.form
                 subst hv6
                 have HB6 : Hid (Below w.heap.size w w6 ∧ ChsV w6 (fun x => x < w6.heap.size) (.slice a6 l.length c6) l ∧ okL l ∧ encK l = bs) := ⟨HB5.out.trans (hb6.mono HB5.out.size), hc6, hokl, hen⟩
                 clear hb6 hr6 hc6 hokl hen
                 have T11 : Hid True := trivial)
              | (have _ := T11
                 go_at_call 31
                 clear T11
                 refine Calls.mono (batch_any HB6.out.2.1) ?_
                 rintro e w7 ⟨hb7, hr7⟩
                 obtain ⟨a7, c7, rfl, hrow7⟩ : ∃ a7 c7, e = .returned (.tuple #[.slice a7 M c7, .int .i64 0]) ∧ BytesV w7 (.slice a7 M c7) bs := by
                   rcases hr7 with ⟨⟨c, hc, hno⟩, _⟩ | ⟨_, ⟨_, v1, he, hrow⟩ | ⟨hbig, _⟩⟩
                   · exact absurd (HB6.out.2.2.1 c hc).1 hno
                   · rw [HB6.out.2.2.2] at hrow
                     obtain ⟨a1, c1, rfl⟩ := row_form hrow
                     rw [← HN.out.2] at hrow he
                     exact ⟨a1, c1, he, BytesV.of_own (by rw [← HN.out.2]; exact hrow)⟩
                   · rw [HB6.out.2.2.2, ← HN.out.2] at hbig; have := HP.out.2; omega
                 have hb7' := HB6.out.1.trans (hb7.mono HB6.out.1.size)
                 have HB7 : Hid (Below w.heap.size w w7 ∧ BytesV w7 (.slice a7 M c7) bs ∧ BytesV w7 (.slice ba M bcap) bs) := ⟨hb7', hrow7, HB.out.1.keep fun x hx => hb7'.block x (HB.out.1.lt x hx)⟩
                 clear hb7 hr7 hb7' hrow7
                 have T12 : Hid True := trivial)
              | (have _ := T12
                 go_at_call 26
                 clear T12
                 refine Calls.mono (klsame_t HB7.out.2.1 HB7.out.2.2) ?_
                 rintro e w8 ⟨rfl, hw8⟩
                 obtain rfl := hw8.symm
                 have HB8 : Hid (Below w.heap.size w w7) := HB7.out.1
                 have T13 : Hid True := trivial)
              | (have _ := T13
                 go_at_call 10
                 clear T13
                 refine Calls.mono (kalive_any (HV.out.below HB8.out)) ?_
                 rintro e w9 ⟨rfl, hb9⟩
                 have HB9 : Hid (Below w.heap.size w w9) := HB8.out.trans (hb9.mono HB8.out.size)
                 clear hb9))
            go_returns
            exact ⟨rfl, HB9.out⟩
          · have HP : Hid ((∃ l, okL l ∧ encK l = bs) ∧ 65535 < M) := ⟨hP, by omega⟩
            have hMi : (65536 : Int) ≤ M := by omega
            clear hP hM
            have T6 : Hid True := trivial
            go_wp2_with (first
              | (have _ := T6
                 go_at_call 14
                 clear T6
                 refine Calls.mono (kown_any HL.out.1) ?_
                 rintro e w2 ⟨hb2, v2, rfl, hc2⟩
                 obtain ⟨a2, n2, hv2, _⟩ := hc2.form
                 subst hv2
                 have HB2 : Hid (Below w.heap.size w w2 ∧ ChsV w2 (fun x => x < w2.heap.size) (.slice a2 L.length n2) L ∧ ChsV w2 (fun x => x < w2.heap.size) (.slice a' k c') L) := ⟨HL.out.2.1.trans (hb2.mono HL.out.2.1.size), hc2, HL.out.1.up hb2⟩
                 clear hb2 hc2
                 have T7 : Hid True := trivial)
              | (have _ := T7
                 go_at_call 31
                 clear T7
                 refine Calls.mono (batch_any HB2.out.2.1) ?_
                 rintro e w3 ⟨hb3, hr3⟩
                 obtain ⟨a3, c3, rfl, hrow3⟩ : ∃ a3 c3, e = .returned (.tuple #[.slice a3 (encK L).length c3, .int .i64 0]) ∧ w3.ownsRow w2.heap.size 5 1 (.slice a3 (encK L).length c3) (encK L).length (vB (encK L)) := by
                   rcases hr3 with ⟨⟨c, hc, hno⟩, _⟩ | ⟨_, ⟨_, v1, he, hrow⟩ | ⟨hbig, _⟩⟩
                   · exact absurd (HQ.out.1 c hc) hno
                   · obtain ⟨a1, c1, rfl⟩ := row_form hrow
                     exact ⟨a1, c1, he, hrow⟩
                   · have := HQ.out.2; omega
                 obtain ⟨hc3, hm3, _⟩ := row_cap (own_base hrow3 (Nat.zero_le _))
                 have HUL : Hid (∀ (_ : Unit), _) := fun _ => unbatch_any (BytesV.of_own hrow3) (enc_byt HL.out.2.2) hc3 hm3 (by have := HQ.out.2; omega)
                 have HB3 : Hid (Below w.heap.size w w3 ∧ ChsV w3 (fun x => x < w3.heap.size) (.slice a' k c') L) := ⟨HB2.out.1.trans (hb3.mono HB2.out.1.size), HB2.out.2.2.up hb3⟩
                 obtain ⟨n3, hn3⟩ : ∃ n3, n3 = (encK L).length := ⟨_, rfl⟩
                 rw [← hn3] at HUL ⊢
                 clear hb3 hr3 hrow3 hc3 hm3 hn3
                 have T8 : Hid True := trivial)
              | (have _ := T8
                 go_at_call 33
                 clear T8
                 refine Calls.mono (HUL.out ()) ?_
                 rintro e w4 ⟨hb4, hr4⟩
                 obtain ⟨v4, rfl, hc4⟩ : ∃ v4, e = .returned (.tuple #[v4, .int .i64 0]) ∧ ChsV w4 (fun x => x < w4.heap.size) v4 L := by
                   have hokL := HOK.out HQ.out.1 HQ.out.2
                   rcases hr4 with ⟨l, v4, hokl, hen, rfl, hc⟩ | ⟨hno, _⟩
                   · have e9 := encK_inj hokl.1 hokL hen
                     subst e9
                     exact ⟨v4, rfl, hc.mono (fun _ _ => rfl) (fun x hx => hx.2)⟩
                   · exact absurd rfl (hno L hokL)
                 obtain ⟨a4, c4, hv4, _⟩ := hc4.form
                 subst hv4
                 have HB4 : Hid (Below w.heap.size w w4 ∧ ChsV w4 (fun x => x < w4.heap.size) (.slice a4 L.length c4) L ∧ ChsV w4 (fun x => x < w4.heap.size) (.slice a' k c') L) := ⟨HB3.out.1.trans (hb4.mono HB3.out.1.size), hc4, HB3.out.2.up hb4⟩
                 clear hb4 hr4 hc4
                 have T9 : Hid True := trivial)
              | (have _ := T9
                 go_at_call 28
                 clear T9
                 refine Calls.mono (ksame_t HB4.out.2.1 HB4.out.2.2) ?_
                 rintro e w5 ⟨hb5, rfl⟩
                 have HB5 : Hid (Below w.heap.size w w5) := HB4.out.1.trans (hb5.mono HB4.out.1.size)
                 clear hb5
                 have T10 : Hid True := trivial)
              | (have _ := T10
                 go_at_call 33
                 clear T10
                 refine Calls.mono (HU.out _ HB5.out) ?_
                 rintro e w6 ⟨hb6, hr6⟩
                 obtain ⟨l, v6, hokl, hen, rfl, hc6⟩ : ∃ l v6, okL l ∧ encK l = bs ∧ e = .returned (.tuple #[v6, .int .i64 0]) ∧ ChsV w6 (fun x => x < w6.heap.size) v6 l := by
                   rcases hr6 with ⟨l, v6, hok, hen, he, hc⟩ | ⟨hno, _⟩
                   · exact ⟨l, v6, hok.1, hen, he, hc.mono (fun _ _ => rfl) (fun x hx => hx.2)⟩
                   · obtain ⟨l, h1, h2⟩ := HP.out.1
                     exact absurd h2 (hno l h1)
                 obtain ⟨a6, c6, hv6, _⟩ := hc6.form
                 subst hv6
                 have HB6 : Hid (Below w.heap.size w w6 ∧ ChsV w6 (fun x => x < w6.heap.size) (.slice a6 l.length c6) l ∧ okL l ∧ encK l = bs) := ⟨HB5.out.trans (hb6.mono HB5.out.size), hc6, hokl, hen⟩
                 clear hb6 hr6 hc6 hokl hen
                 have T11 : Hid True := trivial)
              | (have _ := T11
                 go_at_call 31
                 clear T11
                 refine Calls.mono (batch_any HB6.out.2.1) ?_
                 rintro e w8 ⟨hb7, hr7⟩
                 obtain rfl : e = .returned (.tuple #[.slice none 0 0, .int .i64 3]) := by
                   rcases hr7 with ⟨⟨c, hc, hno⟩, _⟩ | ⟨_, ⟨hsm, _⟩ | ⟨_, h⟩⟩
                   · exact absurd (HB6.out.2.2.1 c hc).1 hno
                   · rw [HB6.out.2.2.2, ← HN.out.2] at hsm; have := HP.out.2; omega
                   · exact h
                 have HB8 : Hid (Below w.heap.size w w8) := HB6.out.1.trans (hb7.mono HB6.out.1.size)
                 clear hb7 hr7
                 have T12 : Hid True := trivial)
              | (have _ := T12
                 go_at_call 10
                 clear T12
                 refine Calls.mono (kalive_any (HV.out.below HB8.out)) ?_
                 rintro e w9 ⟨rfl, hb9⟩
                 have HB9 : Hid (Below w.heap.size w w9) := HB8.out.trans (hb9.mono HB8.out.size)
                 clear hb9))
            go_returns
            exact ⟨rfl, HB9.out⟩
        · have HP : Hid (∀ l, okL l → encK l ≠ bs) := fun l h1 h2 => hP ⟨l, h1, h2⟩
          clear hP
          have T6 : Hid True := trivial
          go_wp2_with (first
            | (have _ := T6
               go_at_call 14
               clear T6
               refine Calls.mono (kown_any HL.out.1) ?_
               rintro e w2 ⟨hb2, v2, rfl, hc2⟩
               obtain ⟨a2, n2, hv2, _⟩ := hc2.form
               subst hv2
               have HB2 : Hid (Below w.heap.size w w2 ∧ ChsV w2 (fun x => x < w2.heap.size) (.slice a2 L.length n2) L ∧ ChsV w2 (fun x => x < w2.heap.size) (.slice a' k c') L) := ⟨HL.out.2.1.trans (hb2.mono HL.out.2.1.size), hc2, HL.out.1.up hb2⟩
               clear hb2 hc2
               have T7 : Hid True := trivial)
            | (have _ := T7
               go_at_call 31
               clear T7
               refine Calls.mono (batch_any HB2.out.2.1) ?_
               rintro e w3 ⟨hb3, hr3⟩
               obtain ⟨a3, c3, rfl, hrow3⟩ : ∃ a3 c3, e = .returned (.tuple #[.slice a3 (encK L).length c3, .int .i64 0]) ∧ w3.ownsRow w2.heap.size 5 1 (.slice a3 (encK L).length c3) (encK L).length (vB (encK L)) := by
                 rcases hr3 with ⟨⟨c, hc, hno⟩, _⟩ | ⟨_, ⟨_, v1, he, hrow⟩ | ⟨hbig, _⟩⟩
                 · exact absurd (HQ.out.1 c hc) hno
                 · obtain ⟨a1, c1, rfl⟩ := row_form hrow
                   exact ⟨a1, c1, he, hrow⟩
                 · have := HQ.out.2; omega
               obtain ⟨hc3, hm3, _⟩ := row_cap (own_base hrow3 (Nat.zero_le _))
               have HUL : Hid (∀ (_ : Unit), _) := fun _ => unbatch_any (BytesV.of_own hrow3) (enc_byt HL.out.2.2) hc3 hm3 (by have := HQ.out.2; omega)
               have HB3 : Hid (Below w.heap.size w w3 ∧ ChsV w3 (fun x => x < w3.heap.size) (.slice a' k c') L) := ⟨HB2.out.1.trans (hb3.mono HB2.out.1.size), HB2.out.2.2.up hb3⟩
               obtain ⟨n3, hn3⟩ : ∃ n3, n3 = (encK L).length := ⟨_, rfl⟩
               rw [← hn3] at HUL ⊢
               clear hb3 hr3 hrow3 hc3 hm3 hn3
               have T8 : Hid True := trivial)
            | (have _ := T8
               go_at_call 33
               clear T8
               refine Calls.mono (HUL.out ()) ?_
               rintro e w4 ⟨hb4, hr4⟩
               obtain ⟨v4, rfl, hc4⟩ : ∃ v4, e = .returned (.tuple #[v4, .int .i64 0]) ∧ ChsV w4 (fun x => x < w4.heap.size) v4 L := by
                 have hokL := HOK.out HQ.out.1 HQ.out.2
                 rcases hr4 with ⟨l, v4, hokl, hen, rfl, hc⟩ | ⟨hno, _⟩
                 · have e9 := encK_inj hokl.1 hokL hen
                   subst e9
                   exact ⟨v4, rfl, hc.mono (fun _ _ => rfl) (fun x hx => hx.2)⟩
                 · exact absurd rfl (hno L hokL)
               obtain ⟨a4, c4, hv4, _⟩ := hc4.form
               subst hv4
               have HB4 : Hid (Below w.heap.size w w4 ∧ ChsV w4 (fun x => x < w4.heap.size) (.slice a4 L.length c4) L ∧ ChsV w4 (fun x => x < w4.heap.size) (.slice a' k c') L) := ⟨HB3.out.1.trans (hb4.mono HB3.out.1.size), hc4, HB3.out.2.up hb4⟩
               clear hb4 hr4 hc4
               have T9 : Hid True := trivial)
            | (have _ := T9
               go_at_call 28
               clear T9
               refine Calls.mono (ksame_t HB4.out.2.1 HB4.out.2.2) ?_
               rintro e w5 ⟨hb5, rfl⟩
               have HB5 : Hid (Below w.heap.size w w5) := HB4.out.1.trans (hb5.mono HB4.out.1.size)
               clear hb5
               have T10 : Hid True := trivial)
            | (have _ := T10
               go_at_call 33
               clear T10
               refine Calls.mono (HU.out _ HB5.out) ?_
               rintro e w6 ⟨hb6, hr6⟩
               obtain rfl : e = .returned (.tuple #[.slice none 0 0, .int .i64 34]) := by
                 rcases hr6 with ⟨l, _, hok, hen, _⟩ | ⟨_, h⟩
                 · exact absurd hen (HP.out l hok.1)
                 · exact h
               have HB6 : Hid (Below w.heap.size w w6) := HB5.out.trans (hb6.mono HB5.out.size)
               clear hb6 hr6
               have T11 : Hid True := trivial)
            | (have _ := T11
               go_at_call 10
               clear T11
               refine Calls.mono (kalive_any (HV.out.below HB6.out)) ?_
               rintro e w9 ⟨rfl, hb9⟩
               have HB9 : Hid (Below w.heap.size w w9) := HB6.out.trans (hb9.mono HB6.out.size)
               clear hb9))
          go_returns
          exact ⟨rfl, HB9.out⟩
      · have HQ : Hid (¬ ((∀ c ∈ L, okK c) ∧ (encK L).length ≤ 65535)) := hQ
        clear hQ
        by_cases hP : ∃ l, okL l ∧ encK l = bs
        · by_cases hM : M ≤ 65535
          · have HP : Hid ((∃ l, okL l ∧ encK l = bs) ∧ M ≤ 65535) := ⟨hP, hM⟩
            clear hP hM
            have T6 : Hid True := trivial
            go_wp2_with (first
              | (have _ := T6
                 go_at_call 14
                 clear T6
                 refine Calls.mono (kown_any HL.out.1) ?_
                 rintro e w2 ⟨hb2, v2, rfl, hc2⟩
                 obtain ⟨a2, n2, hv2, _⟩ := hc2.form
                 subst hv2
                 have HB2 : Hid (Below w.heap.size w w2 ∧ ChsV w2 (fun x => x < w2.heap.size) (.slice a2 L.length n2) L ∧ ChsV w2 (fun x => x < w2.heap.size) (.slice a' k c') L) := ⟨HL.out.2.1.trans (hb2.mono HL.out.2.1.size), hc2, HL.out.1.up hb2⟩
                 clear hb2 hc2
                 have T7 : Hid True := trivial)
              | (have _ := T7
                 go_at_call 31
                 clear T7
                 refine Calls.mono (batch_any HB2.out.2.1) ?_
                 rintro e w5 ⟨hb3, hr3⟩
                 obtain ⟨E3, rfl, hE⟩ : ∃ E3 : Int, e = .returned (.tuple #[.slice none 0 0, .int .i64 E3]) ∧ (E3 == 0) = false := by
                   rcases hr3 with ⟨_, rfl⟩ | ⟨hk, ⟨hl, _⟩ | ⟨_, rfl⟩⟩
                   · exact ⟨1, rfl, rfl⟩
                   · exact absurd ⟨hk, hl⟩ HQ.out
                   · exact ⟨3, rfl, rfl⟩
                 have HB5 : Hid (Below w.heap.size w w5) := HB2.out.1.trans (hb3.mono HB2.out.1.size)
                 clear hb3 hr3
                 have T8 : Hid True := trivial)
              | (have _ := T8
                 go_at_call 33
                 clear T8
                 refine Calls.mono (HU.out _ HB5.out) ?_
                 rintro e w6 ⟨hb6, hr6⟩
                 obtain ⟨l, v6, hokl, hen, rfl, hc6⟩ : ∃ l v6, okL l ∧ encK l = bs ∧ e = .returned (.tuple #[v6, .int .i64 0]) ∧ ChsV w6 (fun x => x < w6.heap.size) v6 l := by
                   rcases hr6 with ⟨l, v6, hok, hen, he, hc⟩ | ⟨hno, _⟩
                   · exact ⟨l, v6, hok.1, hen, he, hc.mono (fun _ _ => rfl) (fun x hx => hx.2)⟩
                   · obtain ⟨l, h1, h2⟩ := HP.out.1
                     exact absurd h2 (hno l h1)
                 obtain ⟨a6, c6, hv6, _⟩ := hc6.form
                 subst hv6
                 have HB6 : Hid (Below w.heap.size w w6 ∧ ChsV w6 (fun x => x < w6.heap.size) (.slice a6 l.length c6) l ∧ okL l ∧ encK l = bs) := ⟨HB5.out.trans (hb6.mono HB5.out.size), hc6, hokl, hen⟩
                 clear hb6 hr6 hc6 hokl hen
                 have T9 : Hid True := trivial)
              | (have _ := T9
                 go_at_call 31
                 clear T9
                 refine Calls.mono (batch_any HB6.out.2.1) ?_
                 rintro e w7 ⟨hb7, hr7⟩
                 obtain ⟨a7, c7, rfl, hrow7⟩ : ∃ a7 c7, e = .returned (.tuple #[.slice a7 M c7, .int .i64 0]) ∧ BytesV w7 (.slice a7 M c7) bs := by
                   rcases hr7 with ⟨⟨c, hc, hno⟩, _⟩ | ⟨_, ⟨_, v1, he, hrow⟩ | ⟨hbig, _⟩⟩
                   · exact absurd (HB6.out.2.2.1 c hc).1 hno
                   · rw [HB6.out.2.2.2] at hrow
                     obtain ⟨a1, c1, rfl⟩ := row_form hrow
                     rw [← HN.out.2] at hrow he
                     exact ⟨a1, c1, he, BytesV.of_own (by rw [← HN.out.2]; exact hrow)⟩
                   · rw [HB6.out.2.2.2, ← HN.out.2] at hbig; have := HP.out.2; omega
                 have hb7' := HB6.out.1.trans (hb7.mono HB6.out.1.size)
                 have HB7 : Hid (Below w.heap.size w w7 ∧ BytesV w7 (.slice a7 M c7) bs ∧ BytesV w7 (.slice ba M bcap) bs) := ⟨hb7', hrow7, HB.out.1.keep fun x hx => hb7'.block x (HB.out.1.lt x hx)⟩
                 clear hb7 hr7 hb7' hrow7
                 have T10 : Hid True := trivial)
              | (have _ := T10
                 go_at_call 26
                 clear T10
                 refine Calls.mono (klsame_t HB7.out.2.1 HB7.out.2.2) ?_
                 rintro e w8 ⟨rfl, hw8⟩
                 obtain rfl := hw8.symm
                 have HB8 : Hid (Below w.heap.size w w7) := HB7.out.1
                 have T11 : Hid True := trivial)
              | (have _ := T11
                 go_at_call 10
                 clear T11
                 refine Calls.mono (kalive_any (HV.out.below HB8.out)) ?_
                 rintro e w9 ⟨rfl, hb9⟩
                 have HB9 : Hid (Below w.heap.size w w9) := HB8.out.trans (hb9.mono HB8.out.size)
                 clear hb9))
            go_returns
            exact ⟨rfl, HB9.out⟩
          · have HP : Hid ((∃ l, okL l ∧ encK l = bs) ∧ 65535 < M) := ⟨hP, by omega⟩
            have hMi : (65536 : Int) ≤ M := by omega
            clear hP hM
            have T6 : Hid True := trivial
            go_wp2_with (first
              | (have _ := T6
                 go_at_call 14
                 clear T6
                 refine Calls.mono (kown_any HL.out.1) ?_
                 rintro e w2 ⟨hb2, v2, rfl, hc2⟩
                 obtain ⟨a2, n2, hv2, _⟩ := hc2.form
                 subst hv2
                 have HB2 : Hid (Below w.heap.size w w2 ∧ ChsV w2 (fun x => x < w2.heap.size) (.slice a2 L.length n2) L ∧ ChsV w2 (fun x => x < w2.heap.size) (.slice a' k c') L) := ⟨HL.out.2.1.trans (hb2.mono HL.out.2.1.size), hc2, HL.out.1.up hb2⟩
                 clear hb2 hc2
                 have T7 : Hid True := trivial)
              | (have _ := T7
                 go_at_call 31
                 clear T7
                 refine Calls.mono (batch_any HB2.out.2.1) ?_
                 rintro e w5 ⟨hb3, hr3⟩
                 obtain ⟨E3, rfl, hE⟩ : ∃ E3 : Int, e = .returned (.tuple #[.slice none 0 0, .int .i64 E3]) ∧ (E3 == 0) = false := by
                   rcases hr3 with ⟨_, rfl⟩ | ⟨hk, ⟨hl, _⟩ | ⟨_, rfl⟩⟩
                   · exact ⟨1, rfl, rfl⟩
                   · exact absurd ⟨hk, hl⟩ HQ.out
                   · exact ⟨3, rfl, rfl⟩
                 have HB5 : Hid (Below w.heap.size w w5) := HB2.out.1.trans (hb3.mono HB2.out.1.size)
                 clear hb3 hr3
                 have T8 : Hid True := trivial)
              | (have _ := T8
                 go_at_call 33
                 clear T8
                 refine Calls.mono (HU.out _ HB5.out) ?_
                 rintro e w6 ⟨hb6, hr6⟩
                 obtain ⟨l, v6, hokl, hen, rfl, hc6⟩ : ∃ l v6, okL l ∧ encK l = bs ∧ e = .returned (.tuple #[v6, .int .i64 0]) ∧ ChsV w6 (fun x => x < w6.heap.size) v6 l := by
                   rcases hr6 with ⟨l, v6, hok, hen, he, hc⟩ | ⟨hno, _⟩
                   · exact ⟨l, v6, hok.1, hen, he, hc.mono (fun _ _ => rfl) (fun x hx => hx.2)⟩
                   · obtain ⟨l, h1, h2⟩ := HP.out.1
                     exact absurd h2 (hno l h1)
                 obtain ⟨a6, c6, hv6, _⟩ := hc6.form
                 subst hv6
                 have HB6 : Hid (Below w.heap.size w w6 ∧ ChsV w6 (fun x => x < w6.heap.size) (.slice a6 l.length c6) l ∧ okL l ∧ encK l = bs) := ⟨HB5.out.trans (hb6.mono HB5.out.size), hc6, hokl, hen⟩
                 clear hb6 hr6 hc6 hokl hen
                 have T9 : Hid True := trivial)
              | (have _ := T9
                 go_at_call 31
                 clear T9
                 refine Calls.mono (batch_any HB6.out.2.1) ?_
                 rintro e w8 ⟨hb7, hr7⟩
                 obtain rfl : e = .returned (.tuple #[.slice none 0 0, .int .i64 3]) := by
                   rcases hr7 with ⟨⟨c, hc, hno⟩, _⟩ | ⟨_, ⟨hsm, _⟩ | ⟨_, h⟩⟩
                   · exact absurd (HB6.out.2.2.1 c hc).1 hno
                   · rw [HB6.out.2.2.2, ← HN.out.2] at hsm; have := HP.out.2; omega
                   · exact h
                 have HB8 : Hid (Below w.heap.size w w8) := HB6.out.1.trans (hb7.mono HB6.out.1.size)
                 clear hb7 hr7
                 have T10 : Hid True := trivial)
              | (have _ := T10
                 go_at_call 10
                 clear T10
                 refine Calls.mono (kalive_any (HV.out.below HB8.out)) ?_
                 rintro e w9 ⟨rfl, hb9⟩
                 have HB9 : Hid (Below w.heap.size w w9) := HB8.out.trans (hb9.mono HB8.out.size)
                 clear hb9))
            go_returns
            exact ⟨rfl, HB9.out⟩
        · have HP : Hid (∀ l, okL l → encK l ≠ bs) := fun l h1 h2 => hP ⟨l, h1, h2⟩
          clear hP
          have T6 : Hid True := trivial
          go_wp2_with (first
            | (have _ := T6
               go_at_call 14
               clear T6
               refine Calls.mono (kown_any HL.out.1) ?_
               rintro e w2 ⟨hb2, v2, rfl, hc2⟩
               obtain ⟨a2, n2, hv2, _⟩ := hc2.form
               subst hv2
               have HB2 : Hid (Below w.heap.size w w2 ∧ ChsV w2 (fun x => x < w2.heap.size) (.slice a2 L.length n2) L ∧ ChsV w2 (fun x => x < w2.heap.size) (.slice a' k c') L) := ⟨HL.out.2.1.trans (hb2.mono HL.out.2.1.size), hc2, HL.out.1.up hb2⟩
               clear hb2 hc2
               have T7 : Hid True := trivial)
            | (have _ := T7
               go_at_call 31
               clear T7
               refine Calls.mono (batch_any HB2.out.2.1) ?_
               rintro e w5 ⟨hb3, hr3⟩
               obtain ⟨E3, rfl, hE⟩ : ∃ E3 : Int, e = .returned (.tuple #[.slice none 0 0, .int .i64 E3]) ∧ (E3 == 0) = false := by
                 rcases hr3 with ⟨_, rfl⟩ | ⟨hk, ⟨hl, _⟩ | ⟨_, rfl⟩⟩
                 · exact ⟨1, rfl, rfl⟩
                 · exact absurd ⟨hk, hl⟩ HQ.out
                 · exact ⟨3, rfl, rfl⟩
               have HB5 : Hid (Below w.heap.size w w5) := HB2.out.1.trans (hb3.mono HB2.out.1.size)
               clear hb3 hr3
               have T8 : Hid True := trivial)
            | (have _ := T8
               go_at_call 33
               clear T8
               refine Calls.mono (HU.out _ HB5.out) ?_
               rintro e w6 ⟨hb6, hr6⟩
               obtain rfl : e = .returned (.tuple #[.slice none 0 0, .int .i64 34]) := by
                 rcases hr6 with ⟨l, _, hok, hen, _⟩ | ⟨_, h⟩
                 · exact absurd hen (HP.out l hok.1)
                 · exact h
               have HB6 : Hid (Below w.heap.size w w6) := HB5.out.trans (hb6.mono HB5.out.size)
               clear hb6 hr6
               have T9 : Hid True := trivial)
            | (have _ := T9
               go_at_call 10
               clear T9
               refine Calls.mono (kalive_any (HV.out.below HB6.out)) ?_
               rintro e w9 ⟨rfl, hb9⟩
               have HB9 : Hid (Below w.heap.size w w9) := HB6.out.trans (hb9.mono HB6.out.size)
               clear hb9))
          go_returns
          exact ⟨rfl, HB9.out⟩
end Go.Proofs.YtconkienlcegaaaGreatDoor
