/- disk: DiskSafe, the walk. -/
import Derived.Test.YtllkpnlgemjgfaaCK
namespace Go.Proofs.Ytllkpnlgemjgfaa
open Go.RowKit Go.Maps Go.Joins
set_option linter.unusedSimpArgs false
set_option linter.unusedVariables false
set_option maxRecDepth 100000 in
set_option maxHeartbeats 8000000 in
theorem dsafe_small {w : World} (da : Option Addr) (dc : Nat) (data : List Int) (hdv : BytesV w (.slice da data.length dc) data) (hdl : data.length ≤ 1000) (ma : Option Addr) (mc : Nat) (more : List Int) (hmv : BytesV w (.slice ma more.length mc) more) (hml : more.length ≤ 1000)
    (oa : Option Addr) (oc n : Nat) (hov : ∀ k, k < n → ∃ g o, oa = some ⟨g, o, none⟩ ∧ OpAt w g (o + k * 8)) (hn : n ≤ 4611686018427387000) (kv : Value) (ks : List Int) (hkv : IntsV w kv ks) (hkl : ks.length ≤ 9223372036854775807) :
    Calls Try.prog 4 #[.slice da data.length dc, .slice ma more.length mc, .slice oa n oc, kv] w fun e w' => e = .returned (.bool true) ∧ Below w.heap.size w w' := by
  have HA : Hid (BytesV w (.slice da data.length dc) data ∧ BytesV w (.slice ma more.length mc) more ∧ IntsV w kv ks ∧ ∀ k, k < n → ∃ g o, oa = some ⟨g, o, none⟩ ∧ OpAt w g (o + k * 8)) := ⟨hdv, hmv, hkv, hov⟩
  clear hdv hmv hkv hov
  go_enter Try.func4, Try.ntmps4
  go_wp2_with (first
    | (go_at_call 6
       refine Calls.mono (new_any 1073741824 (by omega) (by omega) _) ?_
       rintro e w1 ⟨bd, S0, rfl, hD, hB, hS, hr⟩
       have D0 : Hid (Dv w w1 bd S0 1073741824 ∧ absP S0 = [] ∧ S0.steps = 0) := Dv.new hD hB hS hr
       clear hD hB hS hr)
    | (go_at_call 14
       have hr := p_append D0.out.1.disk D0.out.1.pb safeB safe_size da dc data (HA.out.1.below D0.out.1.bel) (fun b hb => D0.out.1.off b (HA.out.1.lt b hb)) (by omega)
       rw [D0.out.2.1, (app_new data hdl).1, (app_new data hdl).2] at hr
       refine Calls.mono hr ?_
       clear hr
       rintro e w2 ⟨rfl, S1, hD, hF, hP⟩
       have D1 : Hid (Dv w w2 bd S1 1073741824 ∧ absP S1 = [(nb safeB, data, 0)] ∧ S1.steps ≤ 1) := ⟨D0.out.1.next hD hF hP (wf_one _ _ _ hdl (by omega)) (by have := D0.out.2.2; omega), hP.abs, by rw [hP.steps, D0.out.2.2]; split <;> omega⟩
       clear hD hF hP D0)
    | (go_at_call 15
       have hr := p_sync D1.out.1.disk D1.out.1.pb safeB safe_size
       rw [D1.out.2.1, (sync_one data).1, (sync_one data).2] at hr
       refine Calls.mono hr ?_
       clear hr
       rintro e w3 ⟨rfl, S2, hD, hF, hP⟩
       have D2 : Hid (Dv w w3 bd S2 1073741824 ∧ absP S2 = [(nb safeB, data, (data.length : Int))] ∧ S2.steps ≤ 2) := ⟨D1.out.1.next hD hF hP (wf_one _ _ _ hdl (by omega)) (by have := D1.out.2.2; omega), hP.abs, by have := D1.out.2.2; rw [hP.steps]; split <;> omega⟩
       clear hD hF hP D1)
    | (go_at_call 7
       refine Calls.mono (rnew_v _) ?_
       rintro e w4 ⟨br, R0, rfl, hR, hB, hRB, hRA, hRn, hRo⟩
       have D4 : Hid (Dv w w4 bd S2 1073741824 ∧ absP S2 = [(nb safeB, data, (data.length : Int))] ∧ S2.steps ≤ 2 ∧ RefIs w4 br R0 ∧ RB R0 1073741824 ∧ absR R0.A = [] ∧ R0.n = 0 ∧ (∀ b, b < w.heap.size → R0.own b = 0) ∧ ∀ b, R0.own b ≠ 0 → S2.role b = .none) :=
         ⟨⟨D2.out.1.disk.below hB, D2.out.1.pb, D2.out.1.bel.trans (hB.mono D2.out.1.bel.size), D2.out.1.off⟩, D2.out.2.1, D2.out.2.2, hR, hRB, hRA, hRn, fun b hb => hRo b (Nat.lt_of_lt_of_le hb D2.out.1.bel.size), fun b hb => D2.out.1.disk.fresh b (Nat.le_of_not_lt fun h => hb (hRo b h))⟩
       clear hR hB hRB hRA hRn hRo D2)
    | (go_at_call 16
       have hr := r_append D4.out.2.2.2.1 D4.out.2.2.2.2.1 safeB safe_size da dc data (HA.out.1.below D4.out.1.bel) (fun b hb => D4.out.2.2.2.2.2.2.2.1 b (HA.out.1.lt b hb)) (by omega)
       rw [D4.out.2.2.2.2.2.1, (app_new data hdl).1, (app_new data hdl).2] at hr
       refine Calls.mono hr ?_
       clear hr
       rintro e w5 ⟨rfl, R1, hR, hF, hP⟩
       have D5 : Hid (Mid w5 w5 bd br S2 S2 R1 ∧ F2 w4 w5 S2 R0 S2 R1 ∧ RB R1 1073741824 ∧ absR R1.A = [(nb safeB, data, 0)] ∧ R1.n ≤ 1) := by
         have hM : Mid w4 w4 bd br S2 S2 R0 := ⟨D4.out.1.disk, D4.out.2.2.2.1, D4.out.2.2.2.2.2.2.2.2, F2.refl _ _ _⟩
         obtain ⟨q1, q2, q3⟩ := hM.second hR hF
         exact ⟨⟨q1, hR, q2, F2.refl _ _ _⟩, q3, D4.out.2.2.2.2.1.next hP (wf_one _ _ _ hdl (by omega)) (srt_one _) (by have := D4.out.2.2.2.2.2.2.1; omega), hP.abs, by rw [hP.n, D4.out.2.2.2.2.2.2.1]; split <;> omega⟩
       clear hR hF hP)
    | (go_at_call 17
       have hr := r_sync D5.out.1.ref D5.out.2.2.1 safeB safe_size
       rw [D5.out.2.2.2.1, (sync_one data).1, (sync_one data).2] at hr
       refine Calls.mono hr ?_
       clear hr
       rintro e w6 ⟨rfl, R2, hR, hF, hP⟩
       have D6 : Hid (Sv w w6 bd br S2 R2 data 0) := by
         obtain ⟨q1, q2, q3⟩ := D5.out.1.second hR hF
         exact Sv.start hdl D4.out.1 q1 hR q2 (D5.out.2.1.trans q3) D4.out.2.2.2.2.2.2.2.1 (D5.out.2.2.1.next hP (wf_one _ _ _ hdl (by omega)) (srt_one _) (by have := D5.out.2.2.2.2; omega)) D4.out.2.1 hP.abs D4.out.2.2.1 (by have := D5.out.2.2.2.2; rw [hP.n]; split <;> omega)
       clear hR hF hP D5 D4))
  go_loopw [12] (fun i wr => ∃ k : Nat, k ≤ n ∧ i = .int .i64 k ∧ ∃ S R, Sv w wr bd br S R data k) (fun i _ => n - (intOf i).toNat)
  case atStart => exact ⟨0, Nat.zero_le _, rfl, S2, R2, D6.out⟩
  case round =>
    obtain ⟨k, hk, rfl, S, R, hS⟩ := hrel
    have HS : Hid (Sv w wr bd br S R data k) := hS
    clear hS
    by_cases hkn : k < n
    · obtain ⟨g, o, rfl, kd, x, s, t, va, vc, bs, y, ka, kl, kc, pa, pl, pc, hc, hbv, hb63, hs, ht⟩ := HA.out.2.2.2 k hkn
      have hc' : ∀ j v, (opC kd x s t (.slice va bs.length vc) y (.slice ka kl kc) (.slice pa pl pc))[j]? = some v → wr.cell? ⟨g, o + k * 8 + j, none⟩ = some v := fun j v hj => (HS.out.bel.cell (p := ⟨g, o + k * 8 + j, none⟩) (cell_lt (hc j v hj))).trans (hc j v hj)
      have c0 : wr.cell? ⟨g, o + k * 8, none⟩ = some (.int .i64 kd) := hc' 0 _ rfl
      have c1 : wr.cell? ⟨g, o + k * 8 + 1, none⟩ = some (.int .i64 x) := hc' 1 _ rfl
      have c2 : wr.cell? ⟨g, o + k * 8 + 2, none⟩ = some (.string s) := hc' 2 _ rfl
      have c3 : wr.cell? ⟨g, o + k * 8 + 3, none⟩ = some (.string t) := hc' 3 _ rfl
      have c4 : wr.cell? ⟨g, o + k * 8 + 4, none⟩ = some (.slice va bs.length vc) := hc' 4 _ rfl
      have c5 : wr.cell? ⟨g, o + k * 8 + 5, none⟩ = some (.int .u8 y) := hc' 5 _ rfl
      have c6 : wr.cell? ⟨g, o + k * 8 + 6, none⟩ = some (.slice ka kl kc) := hc' 6 _ rfl
      have c7 : wr.cell? ⟨g, o + k * 8 + 7, none⟩ = some (.slice pa pl pc) := hc' 7 _ rfl
      have HV : Hid (BytesV w (.slice va bs.length vc) bs) := hbv
      have hki : (k : Int) < n := by omega
      clear hc hc' hbv
      have hB0 : Below wr.heap.size wr (wr.alloc (.cells #[.int .i64 kd, .int .i64 x, .string s, .string t, .slice va bs.length vc, .int .u8 y, .slice ka kl kc, .slice pa pl pc] 35)) := by go_grown
      have HB0 : Hid (Below wr.heap.size wr (wr.alloc (.cells #[.int .i64 kd, .int .i64 x, .string s, .string t, .slice va bs.length vc, .int .u8 y, .slice ka kl kc, .slice pa pl pc] 35))) := hB0
      clear hB0
      by_cases hkd : kd < 1
      · go_wp2_with fail
        exact ⟨⟨k + 1, by omega, by go_num, S, R, (HS.out.grow HB0.out).more⟩, by simp [intOf]; omega⟩
      by_cases hk6 : 6 < kd
      · go_wp2_with fail
        exact ⟨⟨k + 1, by omega, by go_num, S, R, (HS.out.grow HB0.out).more⟩, by simp [intOf]; omega⟩
      by_cases hsS : s.toList = [115, 97, 102, 101]
      · have hs1 : (s.toList == [115, 97, 102, 101]) = true := by simpa using hsS
        go_wp2_with fail
        exact ⟨⟨k + 1, by omega, by go_num, S, R, (HS.out.grow HB0.out).more⟩, by simp [intOf]; omega⟩
      have hs1 : (s.toList == [115, 97, 102, 101]) = false := by simpa using hsS
      by_cases htS : t.toList = [115, 97, 102, 101]
      · have ht1 : (t.toList == [115, 97, 102, 101]) = true := by simpa using htS
        go_wp2_with fail
        exact ⟨⟨k + 1, by omega, by go_num, S, R, (HS.out.grow HB0.out).more⟩, by simp [intOf]; omega⟩
      have ht1 : (t.toList == [115, 97, 102, 101]) = false := by simpa using htS
      have HN : Hid (s ≠ safeB ∧ t ≠ safeB) := ⟨fun e => hsS (by rw [e]; decide +kernel), fun e => htS (by rw [e]; decide +kernel)⟩
      go_wp2_with (first
        | (go_at_call 9
           have hG := HS.out.grow HB0.out
           refine Calls.mono (does_any hG.two (by have := hG.st; omega) (by have := hG.rn; omega) kd x ⟨by omega, by omega⟩ s t hs ht va vc bs (HV.out.below hG.bel) (fun b hb => ⟨Nat.lt_of_lt_of_le (HV.out.lt b hb) hG.bel.size, hG.off b (HV.out.lt b hb)⟩) hb63 y _ _) ?_
           rintro e w2 ⟨rfl, S', R', hT, hF, ha, h1, h2⟩
           have HN2 : Hid (Sv w w2 bd br S' R' data (k + 1)) := hG.next hT hF ha HN.out.1 HN.out.2 h1 h2
           clear hG hT hF ha h1 h2 HB0))
      exact ⟨⟨k + 1, by omega, by go_num, S', R', HN2.out⟩, by simp [intOf]; omega⟩
    · have hkn' : k = n := by omega
      subst hkn'
      clear hkn
      have TK : Hid True := trivial
      go_wp2_with (first
        | (go_at_call 14
           have hr := p_append HS.out.two.disk HS.out.two.pb safeB safe_size ma mc more (HA.out.2.1.below HS.out.bel) (fun b hb => (HS.out.off b (HA.out.2.1.lt b hb)).1) (by omega)
           refine Calls.mono hr ?_
           clear hr
           rintro e w7 ⟨rfl, S3, hD, hF, hP⟩
           obtain ⟨ext, hext, hfx⟩ := app_more (ro := 1073741824) (more := more) HS.out.has
           have T0 : Hid (Dv w w7 bd S3 1073741824 ∧ fT (absP S3) (nb safeB) = some (nb safeB, data ++ ext, (data.length : Int)) ∧ (ext = more ∨ ext = [])) :=
             ⟨Dv.next ⟨HS.out.two.disk, HS.out.two.pb, HS.out.bel, fun b hb => (HS.out.off b hb).1⟩ hD hF hP (app_wf HS.out.two.disk.srt HS.out.two.pb.wf _ _) (by have := HS.out.st; omega), by rw [hP.abs]; exact hfx, hext⟩
           clear hD hF hP hext hfx HS)
        | (go_at_call 18
           have hr := boot_safe T0.out.1.disk T0.out.1.pb T0.out.2.1 kv ks (HA.out.2.2.1.below T0.out.1.bel) hkl (fun b hb => T0.out.1.off b (HA.out.2.2.1.lt b hb))
           refine Calls.mono hr ?_
           clear hr
           rintro e w8 ⟨rfl, S4, m, gf, hD, hF, hcn, hfv, hbs, hm1, hm2, hm0⟩
           obtain ⟨xs, hxs, hx1, hx2, hx3⟩ := take_more T0.out.2.2 hm1 hm2
           rw [hxs] at hbs
           have T1 : Hid (DiskIs w8 bd S4 ∧ Below w.heap.size w w8 ∧ Cnt S4 ∧ findV S4 [safeB] = some gf ∧ ((stepS S4 [safeB]).fl safeB.data.toList).bs = xs ∧ xs = (data ++ more).take xs.length) :=
             ⟨hD, below_of T0.out.1.bel hF.os hF.tape hF.output hF.size hF.block T0.out.1.off, hcn, hfv, hbs, hx3⟩
           have T1o : Hid (∀ b, b < w.heap.size → S4.role b = .none) := fun b hb => hF.role b (Nat.lt_of_lt_of_le hb T0.out.1.bel.size) (T0.out.1.off b hb)
           clear hD hF hcn hfv hbs hm1 hm2 hm0 hxs hx3 T0)
        | (go_at_call 19
           have hr := read_ok T1.out.1 T1.out.2.2.1 safeB safe_size T1.out.2.2.2.1 (by rw [T1.out.2.2.2.2.1]; omega)
           rw [T1.out.2.2.2.2.1] at hr
           refine Calls.mono hr ?_
           clear hr
           rintro e w9 ⟨v', rfl, hown, hvb, hD, hF⟩
           obtain ⟨ra, rc, hv'⟩ := row_form hown
           subst hv'
           have T2 : Hid (Below w.heap.size w w9 ∧ Cs w9 (.slice ra xs.length rc) xs ∧ xs = (data ++ more).take xs.length) := ⟨below_of T1.out.2.1 hF.os hF.tape hF.output hF.size hF.block T1o.out, Cs.of hown, T1.out.2.2.2.2.2⟩
           clear hown hvb hD hF T1 T1o)
        | (at_builtin
           clear TK
           refine wpList_append_b rfl _ _ rfl w9.heap.size (.slice (some ⟨w9.heap.size, 0, none⟩) 0 0) (.slice da data.length dc) [] data rfl ⟨rfl, Or.inr ⟨w9.heap.size, 0, #[], by simp, Nat.le_refl _, by have := heap_alloc_new w9 (.cells #[] 5); simpa using this, Nat.le_refl _, by decide, rfl, rfl⟩⟩ rfl ((HA.out.1.below T2.out.1).below (by go_grown)) (by simp only [List.length_nil, Nat.zero_add]; omega) (by simp) ?_
           intro v1 w10 ho hg ha
           rw [List.nil_append] at ho
           have hB : Below w9.heap.size w9 w10 := ((Below.refl _ w9).alloc (Nat.le_refl _) _).grown hg (by simp) (fun jj hjj => by have h9 : w9.heap.size = jj := (by simpa [Value.ownBlock] using hjj); omega)
           have hne : v1.ownBlock ≠ none := by rcases ha with e | e <;> rw [e] <;> simp [Value.ownBlock]
           have T3 : Hid (w10.ownsRow w9.heap.size 5 1 v1 data.length (vB data) ∧ Below w9.heap.size w9 w10 ∧ v1.ownBlock ≠ none) := ⟨ho, hB, hne⟩
           clear ho hg ha hB hne)
        | (at_builtin
           refine wpList_append_b rfl _ _ rfl w9.heap.size v1 (.slice ma more.length mc) data more rfl T3.out.1 rfl ((HA.out.2.1.below T2.out.1).below T3.out.2.1) (by omega) T3.out.2.1.size ?_
           intro v2 w11 ho hg ha
           have hB : Below w9.heap.size w9 w11 := T3.out.2.1.grown hg T3.out.2.1.size (fun jj hjj => (T3.out.1.lt jj hjj).1)
           have hne : v2.ownBlock ≠ none := by rcases ha with e | e <;> rw [e]; exact T3.out.2.2; simp
           obtain ⟨gg, cap, hv2, hcap⟩ : ∃ gg cap, v2 = .slice (some ⟨gg, 0, none⟩) (data ++ more).length cap ∧ (data ++ more).length ≤ cap := by
             rcases ho.2 with ⟨rfl, _⟩ | ⟨gg, cap, cur, rfl, _, _, h5, _⟩
             · exact absurd rfl hne
             · exact ⟨gg, cap, rfl, h5⟩
           subst hv2
           have T4 : Hid (w11.ownsRow w9.heap.size 5 1 (.slice (some ⟨gg, 0, none⟩) (data ++ more).length cap) (data ++ more).length (vB (data ++ more)) ∧ Below w9.heap.size w9 w11) := ⟨ho, hB⟩
           clear ho hg ha hB hne T3
           rw [List.length_append] at hcap ⊢
           have hcap2 : xs.length ≤ cap := by omega)
        | (go_at_call 20
           refine Calls.mono (same_b (T2.out.2.1.below T4.out.2) (Cs.cut T4.out.1 T2.out.2.2 (by rw [List.length_append]; omega))) ?_
           rintro e w12 ⟨rfl, hw12⟩
           subst hw12)
        | (go_at_call 8
           refine (alive_any _).mono ?_
           rintro e w13 ⟨rfl, hbl⟩
           have T5 : Hid (Below w.heap.size w w13) := (T2.out.1.trans (T4.out.2.mono T2.out.1.size)).trans (hbl.mono (Nat.le_trans T2.out.1.size T4.out.2.size))
           clear hbl))
      go_ret
      exact ⟨rfl, T5.out⟩
end Go.Proofs.Ytllkpnlgemjgfaa
