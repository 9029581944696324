/- kv: the reference's Batch. -/
import Derived.Test.YtconkienlcegaaaGreatDoorLD
import Derived.Test.YtconkienlcegaaaGreatDoorM32
namespace Go.Proofs.YtconkienlcegaaaGreatDoor
open Go.RowKit Go.Maps Go.Joins Go.Shelf
set_option linter.unusedSimpArgs false
set_option linter.unusedVariables false
/-- append of bytes, as a step of a region. -/
theorem step_append_b {w : World} {ops : Array Oper} {op : Oper} {a : Act} {K : Act → World → Prop} {Q : Exit → Act → World → Prop} {E : Prop} (hgd : op.guard = none) (s x : Operand)
    (ho : op.op = .call { callee := .builtin .append, args := #[s, x], argTypes := #[23, 23] }) (base : Nat) (v u : Value) (bs news : List Int) (hs : a.eval s = v) (hown : w.ownsRow base 5 1 v bs.length (vB bs)) (hx : a.eval x = u) (hn : BytesV w u news)
    (hbytes : bs.length + news.length ≤ 140737488355328) (hbase : base ≤ w.heap.size)
    (h : ∀ v' w', w'.ownsRow base 5 1 v' (bs ++ news).length (vB (bs ++ news)) → w.grownBy w' v.ownBlock → (v'.ownBlock = v.ownBlock ∨ v'.ownBlock = some w.heap.size) → K (a.put op.dst v') w') :
    if Region.wanted op (yielded ops a.tmps) = true then Oper.wp Tryz.prog op a w K Q else E := by
  have hw : Region.wanted op (yielded ops a.tmps) = true := by simp [Region.wanted, hgd]
  rw [if_pos hw]
  obtain ⟨i0, hi, hz0, hz1, hz2⟩ := info5c
  rcases hn with ⟨rfl, rfl⟩ | ⟨ad, cap, rfl, hc⟩
  · have hr := run_append_owned_none (P := Tryz.prog) (w := w) base 23 op.type 5 i0 1 Tryz.underlying23 hi v bs.length (vB bs) hown
    unfold Oper.wp execOp
    simp only [ho, resolve, invoke, builtin, Sem.run_bind, Sem.run_pure, Result.andThen_ok, List.map_toArray, List.map_cons, List.map_nil, hs, hx, hr]
    exact h v w (by simpa using hown) (World.grownBy.refl _ _) (Or.inl rfl)
  · obtain ⟨v', w', hr, h2, h3, _, h5⟩ := run_append_own_at (P := Tryz.prog) w base 23 op.type 5 i0 (.int .u8 0) 1 1 Tryz.underlying23 hi hz0 hz1 hz2 rfl (by decide) v bs.length (vB bs) hown ad news.length cap (vB news) (by rw [vB_length, Nat.mul_one]) hc (vB_one news) (by unfold maxLen; omega) (by omega) hbase
    unfold Oper.wp execOp
    simp only [ho, resolve, invoke, builtin, Sem.run_bind, Sem.run_pure, Result.andThen_ok, List.map_toArray, List.map_cons, List.map_nil, hs, hx, hr]
    exact h v' w' (by rw [List.length_append, vB_append]; exact h2) h3 h5
/-- Within the rounds of the reference's Batch. -/
structure RbJ (w W : World) (v : Value) (out : List Int) : Prop where
  row : W.ownsRow w.heap.size 5 1 v out.length (vB out)
  bl : Below w.heap.size w W
theorem RbJ.below {w W W2 : World} {v : Value} {out : List Int} (h : RbJ w W v out) (hb : Below W.heap.size W W2) : RbJ w W2 v out :=
  ⟨ownsRow_heap h.row (fun b hb' => hb.block b (h.row.lt b hb').2), h.bl.trans (hb.mono h.bl.size)⟩
theorem RbJ.add {w W W2 : World} {v v' : Value} {out o2 : List Int} (h : RbJ w W v out) (ho : W2.ownsRow w.heap.size 5 1 v' o2.length (vB o2)) (hg : W.grownBy W2 v.ownBlock) : RbJ w W2 v' o2 :=
  ⟨ho, h.bl.grown hg h.bl.size (fun k hk => (h.row.lt k hk).1)⟩
theorem RbJ.drew {w W : World} {v : Value} {out : List Int} (h : RbJ w W v out) : RbJ w W.drew v out := ⟨h.row, ⟨h.bl.os, h.bl.tape, h.bl.output, h.bl.size, h.bl.block⟩⟩
theorem k2_i (n : Nat) : k2 n = [(n : Int) / 256 % 256, (n : Int) % 256] := by simp [k2]
theorem k4_i {n : Nat} (h : n < 4294967296) : k4 n = [(n : Int) / 16777216, (n : Int) / 65536 % 256, (n : Int) / 256 % 256, (n : Int) % 256] := by
  have : ((n / 16777216 % 256 : Nat) : Int) = (n : Int) / 16777216 := by omega
  simp only [k4, this]
  simp
theorem rn2 (w : World) (n : Nat) (hn : n < 65536) : Calls Tryz.prog 60 #[.int .u32 n, .int .i64 2] w fun e w' => ∃ v, e = .returned v ∧ w'.ownsRow w.heap.size 5 1 v 2 (vB (k2 n)) ∧ Below w.heap.size w w' := by
  rw [k2_i]
  exact rnum2 (n : Int) (by omega) (by omega)
theorem rn4 (w : World) (n : Nat) (hn : n < 4294967296) : Calls Tryz.prog 60 #[.int .u32 n, .int .i64 4] w fun e w' => ∃ v, e = .returned v ∧ w'.ownsRow w.heap.size 5 1 v 4 (vB (k4 n)) ∧ Below w.heap.size w w' := by
  rw [k4_i hn]
  exact rnum4 (n : Int) (by omega) (by omega)
set_option maxRecDepth 100000 in
set_option maxHeartbeats 16000000 in
/-- The reference's Batch -/
theorem rbatch_any {w : World} {v : Value} {cs : List Ch} (h : ChsV w (fun b => b < w.heap.size) v cs) :
    Calls Tryz.prog 32 #[v] w fun e w' => Below w.heap.size w w' ∧ BtR w w' cs e := by
  obtain ⟨a, cap, rfl, i1, i2, i3⟩ := h.form
  have HC : Hid (ChsV w (fun b => b < w.heap.size) (.slice a cs.length cap) cs) := h
  obtain ⟨N, hN⟩ : ∃ N, N = cs.length := ⟨_, rfl⟩
  rw [← hN] at HC i1 i3 ⊢
  have HN : Hid (N = cs.length) := hN
  clear h hN
  go_enter Tryz.func32, Tryz.ntmps32
  go_wp2_with fail
  go_loopw [4, 5, 6] (fun u b i wr => ∃ (j : Nat) (v : Value) (bg : Bool) (out : List Int), j ≤ N ∧ u = v ∧ b = .bool bg ∧ i = .int .i64 j ∧ Hid (RbJ w wr v out ∧ (∀ c ∈ cs.take j, okK c) ∧ (bg = false → out = encK (cs.take j) ∧ out.length ≤ 65535) ∧ (bg = true → 65535 < (encK (cs.take j)).length))) (fun _ _ i _ => N - (intOf i).toNat)
  case atStart => exact ⟨0, _, false, [], Nat.zero_le _, rfl, rfl, rfl, ⟨World.ownsRow_nil _ _ _ _, Below.refl _ _⟩, (fun c hc => by simp at hc), (fun _ => ⟨rfl, by simp⟩), (fun h => by cases h)⟩
  case round =>
    obtain ⟨j, v, bg, out, hj, rfl, rfl, rfl, HI⟩ := hrel
    obtain ⟨av0, cv0, rfl⟩ := row_form HI.out.1.row
    obtain ⟨q, hq⟩ : ∃ q, q = out.length := ⟨_, rfl⟩
    rw [← hq] at HI ⊢
    have HQ : Hid (q = out.length) := hq
    clear hq
    by_cases hjl : j < N
    · obtain ⟨c, hc⟩ : ∃ c, cs[j]? = some c := ⟨_, List.getElem?_eq_getElem (by have := HN.out; omega)⟩
      obtain ⟨g, o, vk, vv, rfl, hg, p0, p1, p2, hvk, hvv⟩ := HC.out.at hc
      obtain ⟨ak, ck, rfl⟩ := hvk.is.form'
      obtain ⟨av, cv, rfl⟩ := hvv.is.form'
      obtain ⟨nk, hnk⟩ : ∃ nk, nk = c.key.length := ⟨_, rfl⟩
      obtain ⟨nv, hnv⟩ : ∃ nv, nv = c.val.length := ⟨_, rfl⟩
      obtain ⟨cg, hcg⟩ : ∃ cg, cg = c.gone := ⟨_, rfl⟩
      rw [← hnk] at p0 hvk
      rw [← hnv] at p1 hvv
      rw [← hcg] at p2
      have HV : Hid (cs[j]? = some c ∧ nk = c.key.length ∧ nv = c.val.length ∧ cg = c.gone ∧ KBD w (fun b => b < w.heap.size) (.slice ak nk ck) c.key ∧ KBD w (fun b => b < w.heap.size) (.slice av nv cv) c.val ∧ g < w.heap.size) := ⟨hc, hnk, hnv, hcg, hvk, hvv, hg⟩
      have HP : Hid (∀ W : World, Below w.heap.size w W → (fun w' => w'.cell? ⟨g, o + j * 3, none⟩ = some (.slice ak nk ck) ∧ w'.cell? ⟨g, o + j * 3 + 1, none⟩ = some (.slice av nv cv) ∧ w'.cell? ⟨g, o + j * 3 + 2, none⟩ = some (.bool cg)) W) := fun W hb => ⟨(hb.cell (p := ⟨g, o + j * 3, none⟩) hg).trans p0, (hb.cell (p := ⟨g, o + j * 3 + 1, none⟩) hg).trans p1, (hb.cell (p := ⟨g, o + j * 3 + 2, none⟩) hg).trans p2⟩
      have hki : (j : Int) < N := by omega
      have c0 := (HP.out wr HI.out.1.bl).1
      have c1 := (HP.out wr HI.out.1.bl).2.1
      have c2 := (HP.out wr HI.out.1.bl).2.2
      have hnv2 : nv ≤ 140737488355328 := by rw [hnv]; exact hvv.len
      have HT : Hid (cs.take (j + 1) = cs.take j ++ [c]) := by show _ = _; rw [List.take_add_one, hc]; rfl
      clear hc hg p0 p1 p2 hvk hvv hnk hnv hcg
      by_cases kk1 : nk < 1
      · have k1i : (nk : Int) < 1 := by omega
        have HK : Hid (nk < 1) := kk1
        clear kk1
        go_wp2
        go_ret2
        exact ⟨HI.out.1.bl, Or.inl ⟨⟨c, List.mem_of_getElem? HV.out.1, fun h => by have := h.1; have := HV.out.2.1; have := HK.out; omega⟩, rfl⟩⟩
      have k1i : ¬ (nk : Int) < 1 := by omega
      by_cases kk2 : 64 < nk
      · have k2i : (64 : Int) < nk := by omega
        have HK : Hid (64 < nk) := kk2
        clear kk2 kk1
        go_wp2
        go_ret2
        exact ⟨HI.out.1.bl, Or.inl ⟨⟨c, List.mem_of_getElem? HV.out.1, fun h => by have := h.2; have := HV.out.2.1; have := HK.out; omega⟩, rfl⟩⟩
      have k2i : ¬ (64 : Int) < nk := by omega
      have HO : Hid (∀ x ∈ cs.take (j + 1), okK x) := fun x hx => by
        rw [HT.out] at hx
        rcases List.mem_append.1 hx with h | h
        · exact HI.out.2.1 x h
        · obtain rfl := List.mem_singleton.1 h
          exact ⟨by have := HV.out.2.1; omega, by have := HV.out.2.1; omega⟩
      have HL : Hid ((encK (cs.take (j + 1))).length = (encK (cs.take j)).length + (encC c).length) := by show _ = _; rw [HT.out, encK_append]; simp [encK]
      cases bg with
      | true =>
        go_wp2
        go_roundw
        case rel => exact ⟨j + 1, _, true, out, by omega, rfl, rfl, by go_num, HI.out.1, HO.out, (fun h => by cases h), (fun _ => by have := HI.out.2.2.2 rfl; have := HL.out; omega)⟩
        case measure => simp [intOf]; omega
      | false =>
        have HE : Hid (out = encK (cs.take j) ∧ out.length ≤ 65535) := ⟨(HI.out.2.2.1 rfl).1, by have := (HI.out.2.2.1 rfl).2; have := HQ.out; omega⟩
        have hb16 : IntKind.u32.wrap (nk : Int) = nk := by rw [IntKind.wrap_u32]; omega
        go_wp2_with fail
        refine wp_noP ?_
        refine wp_region_held_drew (S := (fun w' => w'.cell? ⟨g, o + j * 3, none⟩ = some (.slice ak nk ck) ∧ w'.cell? ⟨g, o + j * 3 + 1, none⟩ = some (.slice av nv cv) ∧ w'.cell? ⟨g, o + j * 3 + 2, none⟩ = some (.bool cg))) (by kernel_rfl) (HP.out wr.drew HI.out.1.drew.bl) (fun hHeld => ?_)
        have G0x : Hid (RbJ w wr.drew (.slice av0 q cv0) (out)) := HI.out.1.drew
        generalize wr.drew = Ux at G0x hHeld ⊢
        refine wpAnyH_take (i := 0) (v := .slice av0 q cv0) rfl (by kernel_rfl) (by kernel_rfl) (by kernel_rfl) (fun _ _ _ h => h) (Or.inl ⟨by rfl, fun w9 hSw => ?_⟩) hHeld ?_
        · go_simp
        simp only [List.getElem_toArray, List.getElem_cons_succ, List.getElem_cons_zero, Act.put, List.setIfInBounds_toArray, List.set_cons_zero, List.set_cons_succ]
        refine wpAnyH_take (i := 1) (v := .slice (some ⟨g, o, none⟩) N cap) rfl (by kernel_rfl) (by kernel_rfl) (by kernel_rfl) (fun _ _ _ h => h) (Or.inl ⟨by rfl, fun w9 hSw => ?_⟩) hHeld ?_
        · go_simp
        simp only [List.getElem_toArray, List.getElem_cons_succ, List.getElem_cons_zero, Act.put, List.setIfInBounds_toArray, List.set_cons_zero, List.set_cons_succ]
        refine wpAnyH_take (i := 2) (v := .int .i64 j) rfl (by kernel_rfl) (by kernel_rfl) (by kernel_rfl) (fun _ _ _ h => h) (Or.inl ⟨by rfl, fun w9 hSw => ?_⟩) hHeld ?_
        · go_simp
        simp only [List.getElem_toArray, List.getElem_cons_succ, List.getElem_cons_zero, Act.put, List.setIfInBounds_toArray, List.set_cons_zero, List.set_cons_succ]
        refine wpAnyH_take (i := 3) (v := .pointer (some ⟨g, o + j * 3, none⟩)) rfl (by kernel_rfl) (by kernel_rfl) (by kernel_rfl) (fun _ _ _ h => h) (Or.inl ⟨by rfl, fun w9 hSw => ?_⟩) hHeld ?_
        · go_simp
        simp only [List.getElem_toArray, List.getElem_cons_succ, List.getElem_cons_zero, Act.put, List.setIfInBounds_toArray, List.set_cons_zero, List.set_cons_succ]
        refine wpAnyH_take (i := 4) (v := .pointer (some ⟨g, o + j * 3, none⟩)) rfl (by kernel_rfl) (by kernel_rfl) (by kernel_rfl) (fun _ _ _ h => h) (Or.inl ⟨by rfl, fun w9 hSw => ?_⟩) hHeld ?_
        · go_simp
        simp only [List.getElem_toArray, List.getElem_cons_succ, List.getElem_cons_zero, Act.put, List.setIfInBounds_toArray, List.set_cons_zero, List.set_cons_succ]
        refine wpAnyH_take (i := 5) (v := .slice ak nk ck) rfl (by kernel_rfl) (by kernel_rfl) (by kernel_rfl) (fun _ _ _ h => h) (Or.inl ⟨by rfl, fun w9 hSw => ?_⟩) hHeld ?_
        · have x0 := hSw.1
          have x1 := hSw.2.1
          have x2 := hSw.2.2
          go_simp
        simp only [List.getElem_toArray, List.getElem_cons_succ, List.getElem_cons_zero, Act.put, List.setIfInBounds_toArray, List.set_cons_zero, List.set_cons_succ]
        refine wpAnyH_take (i := 6) (v := .int .i64 nk) rfl (by kernel_rfl) (by kernel_rfl) (by kernel_rfl) (fun _ _ _ h => h) (Or.inl ⟨by rfl, fun w9 hSw => ?_⟩) hHeld ?_
        · go_simp
        simp only [List.getElem_toArray, List.getElem_cons_succ, List.getElem_cons_zero, Act.put, List.setIfInBounds_toArray, List.set_cons_zero, List.set_cons_succ]
        refine wpAnyH_take (i := 7) (v := .int .u32 nk) rfl (by kernel_rfl) (by kernel_rfl) (by kernel_rfl) (fun _ _ _ h => h) (Or.inl ⟨by rfl, fun w9 hSw => ?_⟩) hHeld ?_
        · go_simp
        simp only [List.getElem_toArray, List.getElem_cons_succ, List.getElem_cons_zero, Act.put, List.setIfInBounds_toArray, List.set_cons_zero, List.set_cons_succ]
        refine wpAnyH_take (i := 10) (v := .slice (some ⟨g, o, none⟩) N cap) rfl (by kernel_rfl) (by kernel_rfl) (by kernel_rfl) (fun _ _ _ h => h) (Or.inl ⟨by rfl, fun w9 hSw => ?_⟩) hHeld ?_
        · go_simp
        simp only [List.getElem_toArray, List.getElem_cons_succ, List.getElem_cons_zero, Act.put, List.setIfInBounds_toArray, List.set_cons_zero, List.set_cons_succ]
        refine wpAnyH_take (i := 11) (v := .int .i64 j) rfl (by kernel_rfl) (by kernel_rfl) (by kernel_rfl) (fun _ _ _ h => h) (Or.inl ⟨by rfl, fun w9 hSw => ?_⟩) hHeld ?_
        · go_simp
        simp only [List.getElem_toArray, List.getElem_cons_succ, List.getElem_cons_zero, Act.put, List.setIfInBounds_toArray, List.set_cons_zero, List.set_cons_succ]
        refine wpAnyH_take (i := 12) (v := .pointer (some ⟨g, o + j * 3, none⟩)) rfl (by kernel_rfl) (by kernel_rfl) (by kernel_rfl) (fun _ _ _ h => h) (Or.inl ⟨by rfl, fun w9 hSw => ?_⟩) hHeld ?_
        · go_simp
        simp only [List.getElem_toArray, List.getElem_cons_succ, List.getElem_cons_zero, Act.put, List.setIfInBounds_toArray, List.set_cons_zero, List.set_cons_succ]
        refine wpAnyH_take (i := 13) (v := .pointer (some ⟨g, o + j * 3, none⟩)) rfl (by kernel_rfl) (by kernel_rfl) (by kernel_rfl) (fun _ _ _ h => h) (Or.inl ⟨by rfl, fun w9 hSw => ?_⟩) hHeld ?_
        · go_simp
        simp only [List.getElem_toArray, List.getElem_cons_succ, List.getElem_cons_zero, Act.put, List.setIfInBounds_toArray, List.set_cons_zero, List.set_cons_succ]
        refine wpAnyH_take (i := 14) (v := .slice ak nk ck) rfl (by kernel_rfl) (by kernel_rfl) (by kernel_rfl) (fun _ _ _ h => h) (Or.inl ⟨by rfl, fun w9 hSw => ?_⟩) hHeld ?_
        · have x0 := hSw.1
          have x1 := hSw.2.1
          have x2 := hSw.2.2
          go_simp
        simp only [List.getElem_toArray, List.getElem_cons_succ, List.getElem_cons_zero, Act.put, List.setIfInBounds_toArray, List.set_cons_zero, List.set_cons_succ]
        refine wpAnyH_ready (rs := [8]) (by kernel_rfl) (by simp) ?_
        refine AllReadyH.cons rfl (fun K hK => ?_) AllReadyH.nil
        have hC := rn2 Ux nk (by omega)
        go_simp
        refine Calls.mono hC ?_
        clear hC
        rintro e Ax ⟨vn, rfl, hon, hbn⟩
        obtain ⟨an, cn, rfl⟩ := row_form hon
        have G1x : Hid (RbJ w Ax (.slice av0 q cv0) (out) ∧ BytesV Ax (.slice an 2 cn) (k2 nk)) := ⟨G0x.out.below hbn, BytesV.of_own (by exact hon)⟩
        clear hon hbn G0x
        refine hK.out _ _ (HP.out _ G1x.out.1.bl) (fun hHeld => ?_)
        clear hK K
        try simp only [List.getElem_toArray, List.getElem_cons_succ, List.getElem_cons_zero, Act.put, List.setIfInBounds_toArray, List.set_cons_zero, List.set_cons_succ]
        refine wpAnyH_ready (rs := [9]) (by kernel_rfl) (by simp) ?_
        refine AllReadyH.cons rfl (fun K hK => ?_) AllReadyH.nil
        refine step_append_b (by rfl) _ _ (by rfl) w.heap.size (.slice av0 q cv0) (.slice an 2 cn) (out) (k2 nk) (by rfl) G1x.out.1.row (by rfl) G1x.out.2 (by have := HE.out.2; simp [k2_length]; omega) G1x.out.1.bl.size ?_
        intro v1 Bx ho hg ha
        obtain ⟨a1, d1, rfl⟩ := row_form ho
        have G2x : Hid (RbJ w Bx (.slice a1 ((out) ++ k2 nk).length d1) ((out) ++ k2 nk)) := G1x.out.1.add ho hg
        obtain ⟨q1, hq1⟩ : ∃ q1, q1 = ((out) ++ k2 nk).length := ⟨_, rfl⟩
        rw [← hq1] at G2x ⊢
        clear ho hg ha hq1 G1x
        refine hK.out _ _ (HP.out _ G2x.out.bl) (fun hHeld => ?_)
        clear hK K
        try simp only [List.getElem_toArray, List.getElem_cons_succ, List.getElem_cons_zero, Act.put, List.setIfInBounds_toArray, List.set_cons_zero, List.set_cons_succ]
        refine wpAnyH_ready (rs := [15]) (by kernel_rfl) (by simp) ?_
        refine AllReadyH.cons rfl (fun K hK => ?_) AllReadyH.nil
        refine step_append_b (by rfl) _ _ (by rfl) w.heap.size (.slice a1 q1 d1) (.slice ak nk ck) ((out) ++ k2 nk) c.key (by rfl) G2x.out.row (by rfl) (HV.out.2.2.2.2.1.is.below G2x.out.bl) (by have := HE.out.2; have := HV.out.2.1; simp [k2_length]; omega) G2x.out.bl.size ?_
        intro v2 Dx ho hg ha
        obtain ⟨a2, d2, rfl⟩ := row_form ho
        have G3x : Hid (RbJ w Dx (.slice a2 (((out) ++ k2 nk) ++ c.key).length d2) (((out) ++ k2 nk) ++ c.key)) := G2x.out.add ho hg
        obtain ⟨q2x, hq2⟩ : ∃ q2x, q2x = (((out) ++ k2 nk) ++ c.key).length := ⟨_, rfl⟩
        rw [← hq2] at G3x ⊢
        have HQx : Hid (q2x = (((out) ++ k2 nk) ++ c.key).length) := hq2
        clear ho hg ha hq2 G2x
        refine hK.out _ _ (HP.out _ G3x.out.bl) (fun hHeld => ?_)
        clear hK K
        try simp only [List.getElem_toArray, List.getElem_cons_succ, List.getElem_cons_zero, Act.put, List.setIfInBounds_toArray, List.set_cons_zero, List.set_cons_succ]
        refine wpAnyH_take (i := 16) (v := .slice a2 q2x d2) rfl (by kernel_rfl) (by kernel_rfl) (by kernel_rfl) (fun _ _ _ h => h) (Or.inl ⟨by rfl, fun w9 hSw => ?_⟩) hHeld ?_
        · go_simp
        simp only [List.getElem_toArray, List.getElem_cons_succ, List.getElem_cons_zero, Act.put, List.setIfInBounds_toArray, List.set_cons_zero, List.set_cons_succ]
        refine wpAnyH_done (by kernel_rfl) ?_ _
        simp only [noP]
        clear hHeld
        obtain ⟨q2, hq2⟩ : ∃ q2, q2 = q2x := ⟨_, rfl⟩
        clear hq2 q2
        have d0 := (HP.out Dx G3x.out.bl).1
        have d1' := (HP.out Dx G3x.out.bl).2.1
        have d2' := (HP.out Dx G3x.out.bl).2.2
        clear c0 c1 c2
        have HXX : Hid (encK (cs.take (j + 1)) = out ++ encC c) := by show _ = _; rw [HT.out, encK_append, ← HE.out.1]; simp [encK]
        have hnk6 : nk ≤ 64 := by omega
        cases cg with
        | true =>
          have HX : Hid (out ++ k2 nk ++ c.key ++ k4 4294967295 = encK (cs.take (j + 1))) := by show _ = _; rw [HXX.out, encC, ← HV.out.2.1, if_pos HV.out.2.2.2.1.symm]; simp
          have T1 : Hid True := trivial
          have T2 : Hid True := trivial
          by_cases hB : 65535 < (out ++ k2 nk ++ c.key ++ k4 4294967295).length
          · have HBG : Hid (65535 < (out ++ k2 nk ++ c.key ++ k4 4294967295).length) := hB
            clear hB
            go_wp2_with (first
              | (have _ := T1
                 go_at_call 60
                 clear T1
                 refine Calls.mono (rn4 Dx 4294967295 (by omega)) ?_
                 rintro e V ⟨vn, rfl, hon, hbn⟩
                 obtain ⟨an4, cn4, rfl⟩ := row_form hon
                 have G4 : Hid (RbJ w V (.slice a2 q2x d2) (out ++ k2 nk ++ c.key) ∧ BytesV V (.slice an4 4 cn4) (k4 4294967295)) := ⟨G3x.out.below hbn, BytesV.of_own (by exact hon)⟩
                 clear hon hbn)
              | (have _ := T2
                 at_builtin
                 clear T2
                 refine wpList_append_b rfl _ _ rfl w.heap.size (.slice a2 q2x d2) (.slice an4 4 cn4) (out ++ k2 nk ++ c.key) (k4 4294967295) rfl G4.out.1.row rfl G4.out.2 (by have := HE.out.2; have := HV.out.2.1; simp [k2_length, k4_length]; omega) G4.out.1.bl.size ?_
                 intro v3 Z ho hg ha
                 obtain ⟨a3, d3, rfl⟩ := row_form ho
                 have G5 : Hid (RbJ w Z (.slice a3 (out ++ k2 nk ++ c.key ++ k4 4294967295).length d3) (out ++ k2 nk ++ c.key ++ k4 4294967295)) := G4.out.1.add ho hg
                 obtain ⟨q3, hq3⟩ : ∃ q3, q3 = (out ++ k2 nk ++ c.key ++ k4 4294967295).length := ⟨_, rfl⟩
                 rw [← hq3] at G5 ⊢
                 have Bi : (65536 : Int) < (q3 : Int) + 1 := by have := HBG.out; omega
                 have hq3m : q3 ≤ 1000000 := by have := HE.out.2; have := HV.out.2.1; rw [hq3]; simp [k2_length, k4_length]; omega
                 have z0 := (HP.out Z G5.out.bl).1
                 have z1 := (HP.out Z G5.out.bl).2.1
                 have z2 := (HP.out Z G5.out.bl).2.2
                 clear ho hg ha hq3))
            go_roundw
            case rel => exact ⟨j + 1, _, _, out ++ k2 nk ++ c.key ++ k4 4294967295, by omega, rfl, rfl, by go_num, G5.out, HO.out, (fun h => by first | (cases h; done) | (simp [Bi] at h; done) | (simp [Bi] at h; omega)), (fun _ => by rw [← HX.out]; exact HBG.out)⟩
            case measure => simp [intOf]; omega
          · have HBG : Hid ((out ++ k2 nk ++ c.key ++ k4 4294967295).length ≤ 65535) := by show _ ≤ _; omega
            clear hB
            go_wp2_with (first
              | (have _ := T1
                 go_at_call 60
                 clear T1
                 refine Calls.mono (rn4 Dx 4294967295 (by omega)) ?_
                 rintro e V ⟨vn, rfl, hon, hbn⟩
                 obtain ⟨an4, cn4, rfl⟩ := row_form hon
                 have G4 : Hid (RbJ w V (.slice a2 q2x d2) (out ++ k2 nk ++ c.key) ∧ BytesV V (.slice an4 4 cn4) (k4 4294967295)) := ⟨G3x.out.below hbn, BytesV.of_own (by exact hon)⟩
                 clear hon hbn)
              | (have _ := T2
                 at_builtin
                 clear T2
                 refine wpList_append_b rfl _ _ rfl w.heap.size (.slice a2 q2x d2) (.slice an4 4 cn4) (out ++ k2 nk ++ c.key) (k4 4294967295) rfl G4.out.1.row rfl G4.out.2 (by have := HE.out.2; have := HV.out.2.1; simp [k2_length, k4_length]; omega) G4.out.1.bl.size ?_
                 intro v3 Z ho hg ha
                 obtain ⟨a3, d3, rfl⟩ := row_form ho
                 have G5 : Hid (RbJ w Z (.slice a3 (out ++ k2 nk ++ c.key ++ k4 4294967295).length d3) (out ++ k2 nk ++ c.key ++ k4 4294967295)) := G4.out.1.add ho hg
                 obtain ⟨q3, hq3⟩ : ∃ q3, q3 = (out ++ k2 nk ++ c.key ++ k4 4294967295).length := ⟨_, rfl⟩
                 rw [← hq3] at G5 ⊢
                 have Bi : ¬ (65536 : Int) < (q3 : Int) + 1 := by have := HBG.out; omega
                 have hq3m : q3 ≤ 1000000 := by have := HE.out.2; have := HV.out.2.1; rw [hq3]; simp [k2_length, k4_length]; omega
                 have z0 := (HP.out Z G5.out.bl).1
                 have z1 := (HP.out Z G5.out.bl).2.1
                 have z2 := (HP.out Z G5.out.bl).2.2
                 clear ho hg ha hq3))
            go_roundw
            case rel => exact ⟨j + 1, _, _, out ++ k2 nk ++ c.key ++ k4 4294967295, by omega, rfl, rfl, by go_num, G5.out, HO.out, (fun _ => ⟨HX.out, HBG.out⟩), (fun h => by first | (cases h; done) | (simp [Bi] at h; done) | (simp [Bi] at h; omega))⟩
            case measure => simp [intOf]; omega
        | false =>
          have hq2m : q2x ≤ 1000000 := by have := HE.out.2; have := HV.out.2.1; rw [HQx.out]; simp [k2_length]; omega
          by_cases hnv6 : 65536 < nv
          · have hni : ¬ (nv : Int) ≤ 65536 := by omega
            have hnj : (65536 : Int) < nv := by omega
            have HBG : Hid (65535 < (encK (cs.take (j + 1))).length) := by
              show _ < _
              rw [HXX.out, List.length_append, encC_length, ← HV.out.2.2.2.1, ← HV.out.2.2.1]
              simp
              omega
            clear hnv6
            by_cases hB : 65535 < q2x
            · have Bi : (65536 : Int) < (q2x : Int) + 1 := by omega
              clear hB
              go_wp2
              go_roundw
              case rel => exact ⟨j + 1, _, _, out ++ k2 nk ++ c.key, by omega, rfl, rfl, by go_num, G3x.out, HO.out, (fun h => by first | (cases h; done) | (simp [Bi] at h; done) | (simp [Bi] at h; omega)), (fun _ => HBG.out)⟩
              case measure => simp [intOf]; omega
            · have Bi : ¬ (65536 : Int) < (q2x : Int) + 1 := by omega
              clear hB
              go_wp2
              go_roundw
              case rel => exact ⟨j + 1, _, _, out ++ k2 nk ++ c.key, by omega, rfl, rfl, by go_num, G3x.out, HO.out, (fun h => by first | (cases h; done) | (simp [Bi] at h; done) | (simp [Bi] at h; omega)), (fun _ => HBG.out)⟩
              case measure => simp [intOf]; omega
          have hni : (nv : Int) ≤ 65536 := by omega
          have hnj : ¬ (65536 : Int) < nv := by omega
          have hb32 : IntKind.u32.wrap (nv : Int) = nv := by rw [IntKind.wrap_u32]; omega
          have HX : Hid ((out ++ k2 nk ++ c.key) ++ k4 nv ++ c.val = encK (cs.take (j + 1))) := by show _ = _; rw [HXX.out, encC, ← HV.out.2.1, ← HV.out.2.2.1, ← HV.out.2.2.2.1]; simp
          go_wp2_with fail
          refine wp_noP ?_
          refine wp_region_held_drew (S := (fun w' => w'.cell? ⟨g, o + j * 3, none⟩ = some (.slice ak nk ck) ∧ w'.cell? ⟨g, o + j * 3 + 1, none⟩ = some (.slice av nv cv) ∧ w'.cell? ⟨g, o + j * 3 + 2, none⟩ = some (.bool false))) (by kernel_rfl) (HP.out Dx.drew G3x.out.drew.bl) (fun hHeld => ?_)
          have G0y : Hid (RbJ w Dx.drew (.slice a2 q2x d2) (out ++ k2 nk ++ c.key)) := G3x.out.drew
          generalize Dx.drew = Uy at G0y hHeld ⊢
          refine wpAnyH_take (i := 0) (v := .slice a2 q2x d2) rfl (by kernel_rfl) (by kernel_rfl) (by kernel_rfl) (fun _ _ _ h => h) (Or.inl ⟨by rfl, fun w9 hSw => ?_⟩) hHeld ?_
          · go_simp
          simp only [List.getElem_toArray, List.getElem_cons_succ, List.getElem_cons_zero, Act.put, List.setIfInBounds_toArray, List.set_cons_zero, List.set_cons_succ]
          refine wpAnyH_take (i := 1) (v := .slice (some ⟨g, o, none⟩) N cap) rfl (by kernel_rfl) (by kernel_rfl) (by kernel_rfl) (fun _ _ _ h => h) (Or.inl ⟨by rfl, fun w9 hSw => ?_⟩) hHeld ?_
          · go_simp
          simp only [List.getElem_toArray, List.getElem_cons_succ, List.getElem_cons_zero, Act.put, List.setIfInBounds_toArray, List.set_cons_zero, List.set_cons_succ]
          refine wpAnyH_take (i := 2) (v := .int .i64 j) rfl (by kernel_rfl) (by kernel_rfl) (by kernel_rfl) (fun _ _ _ h => h) (Or.inl ⟨by rfl, fun w9 hSw => ?_⟩) hHeld ?_
          · go_simp
          simp only [List.getElem_toArray, List.getElem_cons_succ, List.getElem_cons_zero, Act.put, List.setIfInBounds_toArray, List.set_cons_zero, List.set_cons_succ]
          refine wpAnyH_take (i := 3) (v := .pointer (some ⟨g, o + j * 3, none⟩)) rfl (by kernel_rfl) (by kernel_rfl) (by kernel_rfl) (fun _ _ _ h => h) (Or.inl ⟨by rfl, fun w9 hSw => ?_⟩) hHeld ?_
          · go_simp
          simp only [List.getElem_toArray, List.getElem_cons_succ, List.getElem_cons_zero, Act.put, List.setIfInBounds_toArray, List.set_cons_zero, List.set_cons_succ]
          refine wpAnyH_take (i := 4) (v := .pointer (some ⟨g, o + j * 3 + 1, none⟩)) rfl (by kernel_rfl) (by kernel_rfl) (by kernel_rfl) (fun _ _ _ h => h) (Or.inl ⟨by rfl, fun w9 hSw => ?_⟩) hHeld ?_
          · go_simp
          simp only [List.getElem_toArray, List.getElem_cons_succ, List.getElem_cons_zero, Act.put, List.setIfInBounds_toArray, List.set_cons_zero, List.set_cons_succ]
          refine wpAnyH_take (i := 5) (v := .slice av nv cv) rfl (by kernel_rfl) (by kernel_rfl) (by kernel_rfl) (fun _ _ _ h => h) (Or.inl ⟨by rfl, fun w9 hSw => ?_⟩) hHeld ?_
          · have x0 := hSw.1
            have x1 := hSw.2.1
            have x2 := hSw.2.2
            go_simp
          simp only [List.getElem_toArray, List.getElem_cons_succ, List.getElem_cons_zero, Act.put, List.setIfInBounds_toArray, List.set_cons_zero, List.set_cons_succ]
          refine wpAnyH_take (i := 6) (v := .int .i64 nv) rfl (by kernel_rfl) (by kernel_rfl) (by kernel_rfl) (fun _ _ _ h => h) (Or.inl ⟨by rfl, fun w9 hSw => ?_⟩) hHeld ?_
          · go_simp
          simp only [List.getElem_toArray, List.getElem_cons_succ, List.getElem_cons_zero, Act.put, List.setIfInBounds_toArray, List.set_cons_zero, List.set_cons_succ]
          refine wpAnyH_take (i := 7) (v := .int .u32 nv) rfl (by kernel_rfl) (by kernel_rfl) (by kernel_rfl) (fun _ _ _ h => h) (Or.inl ⟨by rfl, fun w9 hSw => ?_⟩) hHeld ?_
          · go_simp
          simp only [List.getElem_toArray, List.getElem_cons_succ, List.getElem_cons_zero, Act.put, List.setIfInBounds_toArray, List.set_cons_zero, List.set_cons_succ]
          refine wpAnyH_take (i := 10) (v := .slice (some ⟨g, o, none⟩) N cap) rfl (by kernel_rfl) (by kernel_rfl) (by kernel_rfl) (fun _ _ _ h => h) (Or.inl ⟨by rfl, fun w9 hSw => ?_⟩) hHeld ?_
          · go_simp
          simp only [List.getElem_toArray, List.getElem_cons_succ, List.getElem_cons_zero, Act.put, List.setIfInBounds_toArray, List.set_cons_zero, List.set_cons_succ]
          refine wpAnyH_take (i := 11) (v := .int .i64 j) rfl (by kernel_rfl) (by kernel_rfl) (by kernel_rfl) (fun _ _ _ h => h) (Or.inl ⟨by rfl, fun w9 hSw => ?_⟩) hHeld ?_
          · go_simp
          simp only [List.getElem_toArray, List.getElem_cons_succ, List.getElem_cons_zero, Act.put, List.setIfInBounds_toArray, List.set_cons_zero, List.set_cons_succ]
          refine wpAnyH_take (i := 12) (v := .pointer (some ⟨g, o + j * 3, none⟩)) rfl (by kernel_rfl) (by kernel_rfl) (by kernel_rfl) (fun _ _ _ h => h) (Or.inl ⟨by rfl, fun w9 hSw => ?_⟩) hHeld ?_
          · go_simp
          simp only [List.getElem_toArray, List.getElem_cons_succ, List.getElem_cons_zero, Act.put, List.setIfInBounds_toArray, List.set_cons_zero, List.set_cons_succ]
          refine wpAnyH_take (i := 13) (v := .pointer (some ⟨g, o + j * 3 + 1, none⟩)) rfl (by kernel_rfl) (by kernel_rfl) (by kernel_rfl) (fun _ _ _ h => h) (Or.inl ⟨by rfl, fun w9 hSw => ?_⟩) hHeld ?_
          · go_simp
          simp only [List.getElem_toArray, List.getElem_cons_succ, List.getElem_cons_zero, Act.put, List.setIfInBounds_toArray, List.set_cons_zero, List.set_cons_succ]
          refine wpAnyH_take (i := 14) (v := .slice av nv cv) rfl (by kernel_rfl) (by kernel_rfl) (by kernel_rfl) (fun _ _ _ h => h) (Or.inl ⟨by rfl, fun w9 hSw => ?_⟩) hHeld ?_
          · have x0 := hSw.1
            have x1 := hSw.2.1
            have x2 := hSw.2.2
            go_simp
          simp only [List.getElem_toArray, List.getElem_cons_succ, List.getElem_cons_zero, Act.put, List.setIfInBounds_toArray, List.set_cons_zero, List.set_cons_succ]
          refine wpAnyH_ready (rs := [8]) (by kernel_rfl) (by simp) ?_
          refine AllReadyH.cons rfl (fun K hK => ?_) AllReadyH.nil
          have hC := rn4 Uy nv (by omega)
          go_simp
          refine Calls.mono hC ?_
          clear hC
          rintro e Ay ⟨vn, rfl, hon, hbn⟩
          obtain ⟨an, cn, rfl⟩ := row_form hon
          have G1y : Hid (RbJ w Ay (.slice a2 q2x d2) (out ++ k2 nk ++ c.key) ∧ BytesV Ay (.slice an 4 cn) (k4 nv)) := ⟨G0y.out.below hbn, BytesV.of_own (by exact hon)⟩
          clear hon hbn G0y
          refine hK.out _ _ (HP.out _ G1y.out.1.bl) (fun hHeld => ?_)
          clear hK K
          try simp only [List.getElem_toArray, List.getElem_cons_succ, List.getElem_cons_zero, Act.put, List.setIfInBounds_toArray, List.set_cons_zero, List.set_cons_succ]
          refine wpAnyH_ready (rs := [9]) (by kernel_rfl) (by simp) ?_
          refine AllReadyH.cons rfl (fun K hK => ?_) AllReadyH.nil
          refine step_append_b (by rfl) _ _ (by rfl) w.heap.size (.slice a2 q2x d2) (.slice an 4 cn) (out ++ k2 nk ++ c.key) (k4 nv) (by rfl) G1y.out.1.row (by rfl) G1y.out.2 (by have := HE.out.2; have := HV.out.2.1; simp [k2_length, k4_length]; omega) G1y.out.1.bl.size ?_
          intro v1 By ho hg ha
          obtain ⟨a1y, d1y, rfl⟩ := row_form ho
          have G2y : Hid (RbJ w By (.slice a1y ((out ++ k2 nk ++ c.key) ++ k4 nv).length d1y) ((out ++ k2 nk ++ c.key) ++ k4 nv)) := G1y.out.1.add ho hg
          obtain ⟨q1, hq1⟩ : ∃ q1, q1 = ((out ++ k2 nk ++ c.key) ++ k4 nv).length := ⟨_, rfl⟩
          rw [← hq1] at G2y ⊢
          clear ho hg ha hq1 G1y
          refine hK.out _ _ (HP.out _ G2y.out.bl) (fun hHeld => ?_)
          clear hK K
          try simp only [List.getElem_toArray, List.getElem_cons_succ, List.getElem_cons_zero, Act.put, List.setIfInBounds_toArray, List.set_cons_zero, List.set_cons_succ]
          refine wpAnyH_ready (rs := [15]) (by kernel_rfl) (by simp) ?_
          refine AllReadyH.cons rfl (fun K hK => ?_) AllReadyH.nil
          refine step_append_b (by rfl) _ _ (by rfl) w.heap.size (.slice a1y q1 d1y) (.slice av nv cv) ((out ++ k2 nk ++ c.key) ++ k4 nv) c.val (by rfl) G2y.out.row (by rfl) (HV.out.2.2.2.2.2.1.is.below G2y.out.bl) (by have := HE.out.2; have := HV.out.2.1; have := HV.out.2.2.1; simp [k2_length, k4_length]; omega) G2y.out.bl.size ?_
          intro v2 Dy ho hg ha
          obtain ⟨a3, d3, rfl⟩ := row_form ho
          have G3y : Hid (RbJ w Dy (.slice a3 (((out ++ k2 nk ++ c.key) ++ k4 nv) ++ c.val).length d3) (((out ++ k2 nk ++ c.key) ++ k4 nv) ++ c.val)) := G2y.out.add ho hg
          obtain ⟨q2y, hq2⟩ : ∃ q2y, q2y = (((out ++ k2 nk ++ c.key) ++ k4 nv) ++ c.val).length := ⟨_, rfl⟩
          rw [← hq2] at G3y ⊢
          have HQy : Hid (q2y = (((out ++ k2 nk ++ c.key) ++ k4 nv) ++ c.val).length) := hq2
          clear ho hg ha hq2 G2y
          refine hK.out _ _ (HP.out _ G3y.out.bl) (fun hHeld => ?_)
          clear hK K
          try simp only [List.getElem_toArray, List.getElem_cons_succ, List.getElem_cons_zero, Act.put, List.setIfInBounds_toArray, List.set_cons_zero, List.set_cons_succ]
          refine wpAnyH_take (i := 16) (v := .slice a3 q2y d3) rfl (by kernel_rfl) (by kernel_rfl) (by kernel_rfl) (fun _ _ _ h => h) (Or.inl ⟨by rfl, fun w9 hSw => ?_⟩) hHeld ?_
          · go_simp
          simp only [List.getElem_toArray, List.getElem_cons_succ, List.getElem_cons_zero, Act.put, List.setIfInBounds_toArray, List.set_cons_zero, List.set_cons_succ]
          refine wpAnyH_done (by kernel_rfl) ?_ _
          simp only [noP]
          clear hHeld
          have hqm : q2y ≤ 1000000 := by have := HE.out.2; have := HV.out.2.1; have := HV.out.2.2.1; rw [HQy.out]; simp [k2_length, k4_length]; omega
          have z0 := (HP.out Dy G3y.out.bl).1
          have z1 := (HP.out Dy G3y.out.bl).2.1
          have z2 := (HP.out Dy G3y.out.bl).2.2
          by_cases hB : 65535 < q2y
          · have Bi : (65536 : Int) < (q2y : Int) + 1 := by omega
            have HBG : Hid (65535 < ((out ++ k2 nk ++ c.key) ++ k4 nv ++ c.val).length) := by rw [← HQy.out]; exact hB
            clear hB
            go_wp2
            go_roundw
            case rel => exact ⟨j + 1, _, _, (out ++ k2 nk ++ c.key) ++ k4 nv ++ c.val, by omega, rfl, rfl, by go_num, G3y.out, HO.out, (fun h => by first | (cases h; done) | (simp [Bi] at h; done) | (simp [Bi] at h; omega)), (fun _ => by rw [← HX.out]; exact HBG.out)⟩
            case measure => simp [intOf]; omega
          · have Bi : ¬ (65536 : Int) < (q2y : Int) + 1 := by omega
            have HBG : Hid (((out ++ k2 nk ++ c.key) ++ k4 nv ++ c.val).length ≤ 65535) := by rw [← HQy.out]; show _ ≤ _; omega
            clear hB
            go_wp2
            go_roundw
            case rel => exact ⟨j + 1, _, _, (out ++ k2 nk ++ c.key) ++ k4 nv ++ c.val, by omega, rfl, rfl, by go_num, G3y.out, HO.out, (fun _ => ⟨HX.out, HBG.out⟩), (fun h => by first | (cases h; done) | (simp [Bi] at h; done) | (simp [Bi] at h; omega))⟩
            case measure => simp [intOf]; omega
    · have hki : ¬ (j : Int) < N := by omega
      have HZ : Hid (cs.take j = cs) := by show _ = _; exact List.take_of_length_le (by have := HN.out; omega)
      cases bg with
      | true =>
        have HF : Hid ((∀ c ∈ cs, okK c) ∧ 65535 < (encK cs).length) := by
          have h1 := HI.out.2.1
          have h2 := HI.out.2.2.2 rfl
          rw [HZ.out] at h1 h2
          exact ⟨h1, h2⟩
        have HBL : Hid (Below w.heap.size w wr) := HI.out.1.bl
        clear HI
        go_wp2
        go_ret2
        exact ⟨HBL.out, Or.inr ⟨HF.out.1, Or.inr ⟨HF.out.2, rfl⟩⟩⟩
      | false =>
        have HF : Hid ((∀ c ∈ cs, okK c) ∧ (encK cs).length ≤ 65535 ∧ Below w.heap.size w wr ∧ wr.ownsRow w.heap.size 5 1 (.slice av0 q cv0) (encK cs).length (vB (encK cs))) := by
          have h1 := HI.out.2.1
          have h2 := HI.out.2.2.1 rfl
          rw [HZ.out] at h1 h2
          have h3 := HI.out.1.row
          rw [h2.1] at h3
          exact ⟨h1, by rw [← h2.1, ← HQ.out]; exact h2.2, HI.out.1.bl, h3⟩
        clear HI
        go_wp2
        go_ret2
        exact ⟨HF.out.2.2.1, Or.inr ⟨HF.out.1, Or.inl ⟨HF.out.2.1, _, rfl, HF.out.2.2.2⟩⟩⟩
end Go.Proofs.YtconkienlcegaaaGreatDoor
