/- kv: KvWhole's walk. -/
import Derived.Test.YtconkienlcegaaaGreatDoorGNQ0
namespace Go.Proofs.YtconkienlcegaaaGreatDoor
open Go.RowKit Go.Maps Go.Joins Go.Sort Go.Shelf
set_option linter.unusedSimpArgs false
set_option linter.unusedVariables false
def WhR (W : World) (e : Ending) (w' : World) : Prop := e = .returned (.bool true) ∧ Below W.heap.size W w'
theorem rngk_all (m : Kv) : rngL m (kS []) (kS []) = m := by
 unfold rngL; rw [List.filter_eq_self]; intro p _; have e : kS [] = [] := rfl; show inR (kS []) (kS []) p.1 = true; rw [e]; unfold inR; cases p.1 with
 | nil => rfl
 | cons a l => rfl
set_option maxRecDepth 100000 in
set_option maxHeartbeats 16000000 in
/-- KvWhole -/
theorem kwhole_any {W : World} (hV : Vars W) (most : Int) (la : Option Addr) (lc : Nat) (ls : List (Value × List Ch)) (hls : RowsC W la ls) (hln : (ls.length + 1) * 24 ≤ 140737488355328) (hlen : ∀ p ∈ ls, p.2.length * 56 ≤ 140737488355328) (sa : Option Addr) (sc0 : Nat) (bs : List Bool) (hbs : BoolsV W sa bs) (pa : Option Addr) (pc : Nat) (ps : List (Int × Int)) (hps : FltV W pa ps) (hpw : FW ps) (hpl : ps.length * 16 ≤ 140737488351232) (kv : Value) (ks : List Int) (hks : IntsV W kv ks) (hkl : ks.length ≤ 9223372036854775807) :
 Calls Tryz.prog 6 #[.int .i64 most, .slice la ls.length lc, .slice sa bs.length sc0, .slice pa ps.length pc, kv] W fun e w' => WhR W e w' := by
 obtain ⟨ka, kc, rfl, _⟩ := id hks; have H0 : Hid (Vars W ∧ RowsC W la ls ∧ (ls.length + 1) * 24 ≤ 140737488355328 ∧ (∀ p ∈ ls, p.2.length * 56 ≤ 140737488355328) ∧ BoolsV W sa bs ∧ FltV W pa ps ∧ FW ps ∧ ps.length * 16 ≤ 140737488351232 ∧ IntsV W (.slice ka ks.length kc) ks ∧ ks.length ≤ 9223372036854775807) := ⟨hV, hls, hln, hlen, hbs, hps, hpw, hpl, hks, hkl⟩
 clear hV hls hln hlen hbs hps hpw hpl hks hkl; obtain ⟨NL, hNL⟩ : ∃ n, n = ls.length := ⟨_, rfl⟩
 obtain ⟨NB, hNB⟩ : ∃ n, n = bs.length := ⟨_, rfl⟩
 obtain ⟨NP, hNP⟩ : ∃ n, n = ps.length := ⟨_, rfl⟩
 obtain ⟨NK, hNK⟩ : ∃ n, n = ks.length := ⟨_, rfl⟩
 rw [← hNL, ← hNB, ← hNP, ← hNK]; have HN : Hid (NL = ls.length ∧ NB = bs.length ∧ NP = ps.length ∧ NK = ks.length) := ⟨hNL, hNB, hNP, hNK⟩
 clear hNL hNB hNP hNK; by_cases hm : most < 1
 · have T1 : Hid True := trivial
   go_enter Tryz.func6, Tryz.ntmps6
   go_wp2_with (first
    | (have _ := T1
       go_at_call 10
       clear T1; refine Calls.mono (kalive_any H0.out.1) ?_; rintro e w1 ⟨rfl, hb1⟩))
   go_ret; exact ⟨rfl, hb1⟩
 have HM : Hid (1 ≤ most) := by show 1 ≤ most; omega
 have T1 : Hid True := trivial; go_enter Tryz.func6, Tryz.ntmps6; go_wp2_with (first
  | (have _ := T1
     go_at_call 8
     clear T1; refine Calls.mono (dk_new H0.out.1 1073741824 (by decide) (by decide)) ?_; rintro e w1 ⟨bd, S1, rfl, hd1⟩; have HO1 : Hid (∀ (_ : Unit), _) := fun _ => wopen0 hd1 most HM.out
     clear hd1; have T2 : Hid True := trivial)
  | (have _ := T2
     go_at_call 11
     clear T2; refine Calls.mono (HO1.out ()) ?_; rintro e w2 ⟨b, bm, rfl, hs2⟩; have H2 : Hid (SI W w2 bd b bm (fun _ => False) false [] [] 0 0 0) := hs2; clear hs2 HO1; have T3 : Hid True := trivial)
  | (have _ := T3
     go_at_call 10
     clear T3; refine Calls.mono (kalive_any H2.out.vars) ?_; rintro e w3 ⟨rfl, hb3⟩; have H3 : Hid (SI W w3 bd b bm (fun _ => False) false [] [] 0 0 0) := H2.out.below hb3; clear hb3; have HP3 : Hid (∀ (_ : Unit), _) := fun _ => plan_any (w := w3) pa pc ps (H0.out.2.2.2.2.2.1.below H3.out.bel) H0.out.2.2.2.2.2.2.2.1
     rw [← HN.out.2.2.1] at HP3; have T4 : Hid True := trivial)
  | (have _ := T4
     go_at_call 21
     clear T4; refine Calls.mono (HP3.out ()) ?_; rintro e w4 ⟨oa, oc, rfl, hf4, hb4⟩; have H4 : Hid (SI W w4 bd b bm (fun _ => False) false [] [] 0 0 0) := H3.out.below hb4; have HA4 : Hid (∀ (_ : Unit), _) := fun _ => warm H4.out oa oc ps hf4 H0.out.2.2.2.2.2.2.1
     rw [← HN.out.2.2.1] at HA4; clear hf4 hb4 HP3; have T5 : Hid True := trivial))
 refine Calls.mono (HA4.out ()) ?_; rintro e w5 hr5; rcases hr5 with ⟨rfl, hs5⟩ | ⟨rfl, hb5⟩
 rotate_left
 · clear HA4
   go_wp2; go_ret
   exact ⟨rfl, hb5⟩
 have H5 : Hid (SI W w5 bd b bm (fun _ => False) false [] [] 0 0 0) := hs5; clear hs5 HA4; go_wp2_with fail; have hS0 : ST W (w5.alloc (.cells #[.slice none 0 0] 43)) bd b bm 0 (.slice (some ⟨w5.heap.size, 0, none⟩) 1 1) 0 [.slice none 0 0] [[]] false [] [] 0 (fun x => x = w5.heap.size) 0 := by
  have hg : w5.grownBy (w5.alloc (.cells #[.slice none 0 0] 43)) none := World.grownBy_alloc w5 _ _; have hsz := H5.out.bel.size; refine ⟨H5.out.grown hg (fun x hx => by cases hx) (fun x hx => ⟨Or.inr (by omega), by simp; omega⟩), ⟨own_base (World.ownsRow_lit w5 #[.slice none 0 0] 1 (Nat.le_refl _) (by decide) rfl) hsz, fun x hx => ?_, rfl, fun i a ha => ?_⟩, HV.start, Nat.le_refl _⟩
  · have : some w5.heap.size = some x := hx
    injection this with this
    exact this.symm
  · cases i with
    | zero =>
      have e : ([] : Kv) = a := by simpa using ha
      subst e; exact ⟨_, rfl, LsV.nil _ _ 0⟩
    | succ i => simp at ha
 have HS0 : Hid (ST W (w5.alloc (.cells #[.slice none 0 0] 43)) bd b bm 0 (.slice (some ⟨w5.heap.size, 0, none⟩) 1 1) 0 [.slice none 0 0] [[]] false [] [] 0 (fun x => x = w5.heap.size) 0) := hS0; clear hS0; generalize w5.alloc (.cells #[.slice none 0 0] 43) = w6 at HS0 ⊢; go_loopw [15, 16, 17, 18, 19, 20] (fun al sf i _ _ _ wr => ∃ (k safe : Nat) (vs : List Value) (ms : List Kv) (br : Bool) (m : List (List UInt8 × Value × List Int)) (rs : List (List Int)) (sc : Nat) (N : Nat → Prop) (n0 : Int), k ≤ NL ∧ i = .int .i64 k ∧ sf = .int .i64 safe ∧ Hid (ST W wr bd b bm k al safe vs ms br m rs sc N n0)) (fun _ _ i _ _ _ _ => NL - (intOf i).toNat)
 case atStart => exact ⟨0, 0, _, _, _, _, _, _, _, _, Nat.zero_le _, rfl, rfl, HS0⟩
 case round =>
  obtain ⟨k, safe, vs, ms, br, m, rs, sc, N, n0, hk, rfl, rfl, HS⟩ := hrel; by_cases hlt : k < NL
  · obtain ⟨p, hp⟩ : ∃ p, ls[k]? = some p := ⟨_, List.getElem?_eq_getElem (by have := HN.out.1; omega)⟩
    obtain ⟨b0, o0, hla, hcell, hch, hkb⟩ := H0.out.2.1 k p hp; subst hla; have hpl := H0.out.2.2.2.1 p (List.mem_of_getElem? hp); obtain ⟨p1, pch⟩ := p; dsimp only at hcell hch hkb hpl; obtain ⟨pa2, pc2, rfl, _, _, _⟩ := hch.form; obtain ⟨n, hn⟩ : ∃ n, n = pch.length := ⟨_, rfl⟩
    rw [← hn] at hcell hch hpl; have hki : (k : Int) < NL := by omega
    have HCH : Hid (ChsV W (fun x => x < W.heap.size) (.slice pa2 n pc2) pch ∧ (∀ c ∈ pch, KByt c.key ∧ KByt c.val) ∧ n = pch.length ∧ n * 56 ≤ 140737488355328 ∧ W.cell? ⟨b0, o0 + k, none⟩ = some (.slice pa2 n pc2)) := ⟨hch, hkb, hn, hpl, hcell⟩
    obtain ⟨s, hs⟩ : ∃ s, ms.getLast? = some s := by
     cases h : ms.getLast? with
     | none => exact absurd (List.getLast?_eq_none_iff.1 h) HS.out.hv.ne
     | some s => exact ⟨s, rfl⟩
    obtain ⟨u0, hu0, hl0⟩ := HS.out.al.it _ s (last_at hs); rw [← HS.out.al.len] at hu0; obtain ⟨ga, gc, hal, hc0⟩ := own_at HS.out.al.own hu0; subst hal; obtain ⟨NV, hNV⟩ : ∃ n, n = vs.length := ⟨_, rfl⟩
    have HVN : Hid (vs.length = NV) := hNV.symm; have HNV0 : Hid (0 < NV) := by show 0 < NV; rw [hNV, HS.out.al.len]; exact List.length_pos_iff.2 HS.out.hv.ne
    rw [← hNV] at hu0 hc0 ⊢; have HK : Hid (30 * k ≤ 300000000000000 ∧ NV ≤ k + 1 ∧ (NL + 1) * 24 ≤ 140737488355328 ∧ k < NL) := by
     have h1 := H0.out.2.2.1; rw [← HN.out.1] at h1; exact ⟨by omega, by rw [hNV]; exact HS.out.cnt, h1, hlt⟩
    have HWK : Hid (wrap64 ((k : Int) + 1) = ((k + 1 : Nat) : Int)) := by
     show wrap64 ((k : Int) + 1) = ((k + 1 : Nat) : Int)
     have := HK.out.1; unfold wrap64; omega
    have HL0 : Hid (vs[NV - 1]? = some u0 ∧ LsV wr (LD W N (.slice (some ⟨ga, 0, none⟩) vs.length gc)) u0 (s.map toCh) ∧ wr.cell? ⟨ga, NV - 1, none⟩ = some u0 ∧ ms.getLast? = some s ∧ SrtG s ∧ s.length ≤ 940000000000) := ⟨hu0, hl0, hc0, hs, (HS.out.hv.good s (List.mem_of_getLast? hs)).1, (HS.out.hv.good s (List.mem_of_getLast? hs)).2⟩
    have c67 : wr.cell? ⟨b0, o0 + k, none⟩ = some (.slice pa2 n pc2) := (HS.out.si.bel.cell (p := ⟨b0, o0 + k, none⟩) (cell_lt hcell)).trans hcell; have HOW : Hid (∀ (_ : Unit), _) := fun _ => kown_any (w := wr) (HCH.out.1.mono (fun x hx => HS.out.si.bel.block x hx) (fun x hx => Nat.lt_of_lt_of_le hx HS.out.si.bel.size))
    clear hp hcell hch hkb hpl hn hs hu0 hl0 hc0 hNV; have T7 : Hid True := trivial; go_wp2_with (first
     | (have _ := T7
        go_at_call 14
        clear T7; refine Calls.mono (HOW.out ()) ?_; rintro e w7 ⟨hb7, v7, rfl, hch7⟩; have HB7 : Hid (Below wr.heap.size wr w7) := hb7; have HPU : Hid (∀ (_ : Unit), _) := fun _ => kput_any (HS.out.si.below hb7) (by have := HK.out.1; omega) hch7 HCH.out.2.1 (fun hb => by have := (hv_mlen HS.out.hv (HS.out.si.many (by have := HK.out.1; omega)) hb).2.1; omega)
        clear hb7 hch7 HOW; have T8 : Hid True := trivial))
    refine Calls.mono (HPU.out ()) ?_; rintro e w8 ⟨c, br2, m2, rs2, sc2, rfl, hs8, hf8, hr8⟩; have hpc := put_cases HS.out.hv (HS.out.si.many (by have := HK.out.1; omega)) HCH.out.2.1 hr8; have hlt8 : ∀ x, (x < W.heap.size ∨ N x) → x < wr.heap.size := fun x hx => by
     have h1 := HS.out.si.bel.size; rcases hx with hx | hx
     · omega
     · exact HS.out.si.nlt x hx
    have hN8 : ∀ x, N x → w8.heap[x]? = wr.heap[x]? := fun x hx => (hf8.no x hx).trans (HB7.out.block x (hlt8 x (Or.inr hx)))
    have hW8 : ∀ x, x < W.heap.size → w8.heap[x]? = wr.heap[x]? := fun x hx => (hs8.bel.block x hx).trans (HS.out.si.bel.block x hx).symm
    have H8 : Hid (SI W w8 bd b bm N br2 m2 rs2 sc2 (30 * k + 3) n0 ∧ AL W w8 N (.slice (some ⟨ga, 0, none⟩) NV gc) vs ms) := by
     refine ⟨hs8, ?_⟩; have := HS.out.al.keep hW8 hN8 (fun _ h => h); rw [HVN.out] at this; exact this
    have hl8 : LsV w8 (LD W N (.slice (some ⟨ga, 0, none⟩) NV gc)) u0 (s.map toCh) := by
     have := LD.keep HL0.out.2.1 hW8 hN8 (fun _ h => h); rw [HVN.out] at this; exact this
    have hgl : N ga := H8.out.2.nb ga rfl; have c8 : w8.cell? ⟨ga, NV - 1, none⟩ = some u0 := (World.cell?_of_block (a := ⟨ga, NV - 1, none⟩) (hN8 ga hgl)).trans HL0.out.2.2.1; have HL8 : Hid (LsV w8 (LD W N (.slice (some ⟨ga, 0, none⟩) NV gc)) u0 (s.map toCh)) := hl8; have c68 : w8.cell? ⟨b0, o0 + k, none⟩ = some (.slice pa2 n pc2) := (hs8.bel.cell (p := ⟨b0, o0 + k, none⟩) (cell_lt HCH.out.2.2.2.2)).trans HCH.out.2.2.2.2; have hq : ((c = 1 ∨ c = 3) ∧ HV rs2 sc2 br2 (mk m2) ms safe) ∨ ((c ≠ 1 ∧ c ≠ 3) ∧ (c = 0 → HV rs2 sc2 br2 (mk m2) (ms ++ [doPs s pch]) ms.length) ∧ (c = 74 → HV rs2 sc2 br2 (mk m2) ms safe) ∧ (c ≠ 0 → c ≠ 74 → HV rs2 sc2 br2 (mk m2) (ms ++ [doPs s pch]) safe)) := by
     have hss := HL0.out.2.2.2.1; rcases hpc with h | ⟨rfl, s', hs', h⟩ | ⟨rfl, h⟩ | ⟨⟨e0, e1, e3, e74⟩, s', hs', h⟩
     · exact Or.inl h
     · rw [hss] at hs'
       injection hs' with hs'
       subst hs'; exact Or.inr ⟨by decide, fun _ => h, fun h9 => absurd h9 (by decide), fun h9 => absurd rfl h9⟩
     · exact Or.inr ⟨by decide, fun h9 => absurd h9 (by decide), fun _ => h, fun _ h9 => absurd rfl h9⟩
     · rw [hss] at hs'
       injection hs' with hs'
       subst hs'; exact Or.inr ⟨⟨e1, e3⟩, fun h9 => absurd h9 e0, fun h9 => absurd h9 e74, fun _ _ => h⟩
    clear hs8 hf8 hr8 hpc hlt8 hN8 hW8 hgl hl8 HPU c67; rcases hq with ⟨hc13, hv8⟩ | ⟨⟨hc1, hc3⟩, hvx⟩
    · have HV8 : Hid (HV rs2 sc2 br2 (mk m2) ms safe) := hv8
      clear hv8; rcases hc13 with rfl | rfl
      · go_wp2
        go_roundw
        case rel => exact ⟨k + 1, safe, vs, ms, br2, m2, rs2, sc2, N, n0, by have := HK.out.2.2.2; omega, congrArg (Value.int .i64) HWK.out, rfl, H8.out.1.later (by omega), H8.out.2, HV8.out, by have := HK.out.2.1; have := HVN.out; omega⟩
        case measure => rw [HWK.out]; simp [intOf]; have := HK.out.2.2.2; omega
      · go_wp2
        go_roundw
        case rel => exact ⟨k + 1, safe, vs, ms, br2, m2, rs2, sc2, N, n0, by have := HK.out.2.2.2; omega, congrArg (Value.int .i64) HWK.out, rfl, H8.out.1.later (by omega), H8.out.2, HV8.out, by have := HK.out.2.1; have := HVN.out; omega⟩
        case measure => rw [HWK.out]; simp [intOf]; have := HK.out.2.2.2; omega
    · have HVX0 : Hid _ := hvx
      have d1 : (c == 1) = false := by simpa using hc1
      have d3 : (c == 3) = false := by simpa using hc3
      have hNV0 := HNV0.out; obtain ⟨NV1, hNV1⟩ : ∃ n, NV = n + 1 := ⟨NV - 1, by omega⟩
      have e9 : NV - 1 = NV1 := by omega
      rw [e9] at c8; have HNN : Hid (NV = NV1 + 1) := hNV1; have hw1 : IntKind.i64.wrap ((NV : Int) - 1) = NV1 := by
       rw [IntKind.wrap_i64]; have := HK.out.2.1; have := HK.out.2.2.1; have := HK.out.2.2.2; omega
      have hw2 : (NV1 : Int) < NV := by omega
      have hw3 : (NV : Int) - 1 = NV1 := by omega
      have hw4 : wrap64 (NV1 : Int) = NV1 := (by have := HK.out.2.1; have := HK.out.1; unfold wrap64; omega)
      clear hc1 hc3 hvx hNV1 e9 hNV0; go_wp2_with fail; have HW0 : Hid (SW W w8 bd b bm k (.slice (some ⟨ga, 0, none⟩) NV gc) vs ms br2 m2 rs2 sc2 N n0 u0 s) := ⟨H8.out.1, H8.out.2, HL8.out⟩
      clear c8 c68 hw1 hw2 hw3 hw4 d1 d3; go_loopw [19, 20] (fun u kk wa => ∃ (k2 : Nat) (N2 : Nat → Prop), k2 ≤ n ∧ kk = .int .i64 k2 ∧ Hid (SW W wa bd b bm k (.slice (some ⟨ga, 0, none⟩) NV gc) vs ms br2 m2 rs2 sc2 N2 n0 u (doPs s (pch.take k2)))) (fun _ kk _ => n - (intOf kk).toNat)
      case atStart => exact ⟨0, N, Nat.zero_le _, rfl, HW0.out⟩
      case round =>
       obtain ⟨k2, N2, hk2, rfl, HW⟩ := hrel; have ca : wr.cell? ⟨b0, o0 + k, none⟩ = some (.slice pa2 n pc2) := (HW.out.si.bel.cell (p := ⟨b0, o0 + k, none⟩) (cell_lt HCH.out.2.2.2.2)).trans HCH.out.2.2.2.2; obtain ⟨ua, un, uc, hu⟩ : ∃ a n c, u19 = .slice a n c := by
        obtain ⟨a, c, e⟩ := HW.out.ls.form; exact ⟨a, _, c, e⟩
       subst hu; by_cases hlt2 : k2 < n
       · obtain ⟨c2, hc2⟩ : ∃ c, pch[k2]? = some c := ⟨_, List.getElem?_eq_getElem (by have := HCH.out.2.2.1; omega)⟩
         obtain ⟨g2, q2, xk, xv, hpa, hg2, p0, p1, p2, hxk, hxv⟩ := HCH.out.1.at hc2; subst hpa; obtain ⟨ak, ck, rfl⟩ := hxk.is.form'; obtain ⟨av, cv, rfl⟩ := hxv.is.form'; obtain ⟨mk1, hmk1⟩ : ∃ x, x = c2.key.length := ⟨_, rfl⟩
         obtain ⟨mk2, hmk2⟩ : ∃ x, x = c2.val.length := ⟨_, rfl⟩
         obtain ⟨cg, hcg⟩ : ∃ x, x = c2.gone := ⟨_, rfl⟩
         rw [← hmk1] at p0 hxk; rw [← hmk2] at p1 hxv; rw [← hcg] at p2; have q0 : wr.cell? ⟨g2, q2 + k2 * 3, none⟩ = some (.slice ak mk1 ck) := (HW.out.si.bel.cell (p := ⟨g2, q2 + k2 * 3, none⟩) hg2).trans p0; have q1 : wr.cell? ⟨g2, q2 + k2 * 3 + 1, none⟩ = some (.slice av mk2 cv) := (HW.out.si.bel.cell (p := ⟨g2, q2 + k2 * 3 + 1, none⟩) hg2).trans p1; have q3 : wr.cell? ⟨g2, q2 + k2 * 3 + 2, none⟩ = some (.bool cg) := (HW.out.si.bel.cell (p := ⟨g2, q2 + k2 * 3 + 2, none⟩) hg2).trans p2; have hki2 : (k2 : Int) < n := by omega
         have hup : ∀ {vv : Value} {xs : List Int}, KBD W (fun x => x < W.heap.size) vv xs → KBD wr (LD W N2 (.slice (some ⟨ga, 0, none⟩) NV gc)) vv xs := fun h => h.mono (fun x hx => HW.out.si.bel.block x hx) (fun x hx => ⟨Or.inl hx, fun e => by have := (HW.out.al.own.lt x e).1; omega⟩)
         have HPUT : Hid (∀ (_ : Unit), _) := fun _ => lput_any (c := c2) (s := doPs s (pch.take k2)) (vk := .slice ak mk1 ck) (vv := .slice av mk2 cv) (fun x hx => HW.out.lt x hx.1) HW.out.ls (srt_doPs _ HL0.out.2.2.2.2.1) (by
          have h1 := doPs_length (pch.take k2) s; have h2 := HL0.out.2.2.2.2.2; have h3 := HCH.out.2.2.2.1; rw [List.length_take] at h1; omega) (hup hxk) (hup hxv) (HCH.out.2.1 c2 (List.mem_of_getElem? hc2)).1
         rw [← hcg] at HPUT; have HC2 : Hid (doP (doPs s (pch.take k2)) c2 = doPs s (pch.take (k2 + 1))) := (doPs_snoc hc2).symm; have HKT : Hid (k2 < n) := hlt2; have HWK2 : Hid (wrap64 ((k2 : Int) + 1) = ((k2 + 1 : Nat) : Int)) := by
          show wrap64 ((k2 : Int) + 1) = ((k2 + 1 : Nat) : Int)
          have := HCH.out.2.2.2.1; unfold wrap64; omega
         clear hc2 p0 p1 p2 hxk hxv hup hmk1 hmk2 hcg hg2; have TP : Hid True := trivial; go_wp2_with (first
          | (have _ := TP
             go_at_call 38
             clear TP; refine Calls.mono (HPUT.out ()) ?_; rintro e wb ⟨u', rfl, hl', hb'⟩; rw [HC2.out] at hl'; have HWN : Hid (SW W wb bd b bm k (.slice (some ⟨ga, 0, none⟩) NV gc) vs ms br2 m2 rs2 sc2 (fun x => N2 x ∨ (wr.heap.size ≤ x ∧ x < wb.heap.size)) n0 u' (doPs s (pch.take (k2 + 1)))) := HW.out.put hb' hl'; clear hl' hb' HPUT))
         go_roundw
         case rel => exact ⟨k2 + 1, _, by have := HKT.out; omega, congrArg (Value.int .i64) HWK2.out, HWN.out⟩
         case measure => rw [HWK2.out]; simp [intOf]; have := HKT.out; omega
       · obtain rfl : k2 = n := by omega
         have HWE : Hid (SW W wr bd b bm k (.slice (some ⟨ga, 0, none⟩) NV gc) vs ms br2 m2 rs2 sc2 N2 n0 (.slice ua un uc) (doPs s pch)) := by
          have := HW.out; rw [List.take_of_length_le (by rw [HCH.out.2.2.1]; exact Nat.le_refl _)] at this; exact this
         clear hlt2 HW HW0; by_cases hcc : c = 0
         · have HVX : Hid (HV rs2 sc2 br2 (mk m2) (ms ++ [doPs s pch]) ms.length) := HVX0.out.1 hcc
           subst hcc; have HWV : Hid (wrap64 (NV : Int) = ((ms.length : Nat) : Int)) := by
            show wrap64 (NV : Int) = ((ms.length : Nat) : Int)
            have h1 := HWE.out.al.len; have h2 := HVN.out; have := HK.out.2.1; have := HK.out.1; unfold wrap64; omega
           by_cases hsb : k < NB
           · obtain ⟨x, hx⟩ : ∃ x, bs[k]? = some x := ⟨_, List.getElem?_eq_getElem (by have := HN.out.2.1; omega)⟩
             obtain ⟨sb, so, hsa, hsc⟩ := H0.out.2.2.2.2.1 k x hx; subst hsa; have hsi : (k : Int) < NB := by omega
             have HSC : Hid (W.cell? ⟨sb, so + k, none⟩ = some (.bool x)) := hsc; clear hx hsc hsb; cases x with
             | false =>
               have TA : Hid True := trivial; go_wp2_with (first
                | (have _ := TA
                   at_builtin
                   clear TA; refine wpList_append_u rfl _ _ rfl W.heap.size (.slice (some ⟨ga, 0, none⟩) NV gc) vs (.slice ua un uc) ⟨_, _, _, rfl⟩ rfl (World.ownsRow.alloc HWE.out.al.own _) wr.heap.size (heap_alloc_new _ _) rfl (by have := HK.out.2.1; have := HK.out.2.2.1; have := HK.out.2.2.2; have := HVN.out; omega) (by have := HWE.out.si.bel.size; simp; omega) ?_; intro v9 w9 ho9 hg9 ha9; have hg99 : wr.grownBy w9 (Value.slice (some ⟨ga, 0, none⟩) NV gc).ownBlock := (World.grownBy_alloc wr _ _).trans hg9; have ha99 : v9.ownBlock = (Value.slice (some ⟨ga, 0, none⟩) NV gc).ownBlock ∨ ∀ b, v9.ownBlock = some b → wr.heap.size ≤ b := by
                    rcases ha9 with h | h
                    · exact Or.inl h
                    · exact Or.inr (fun b hb => by rw [h] at hb; injection hb with hb; simp at hb; omega)
                   obtain ⟨j1, j2⟩ := HWE.out.add ho9 hg99 ha99; obtain ⟨g9, c9, rfl, _, _⟩ := row_form0 ho9 (by simp); have hlv : (vs ++ [Value.slice ua un uc]).length = NV + 1 := by rw [List.length_append, HVN.out]; rfl
                   rw [hlv] at j2 ⊢; have H9 : Hid (SI W w9 bd b bm (fun x => N2 x ∨ (wr.heap.size ≤ x ∧ x < w9.heap.size)) br2 m2 rs2 sc2 (30 * k + 3) n0 ∧ AL W w9 (fun x => N2 x ∨ (wr.heap.size ≤ x ∧ x < w9.heap.size)) (.slice (some ⟨g9, 0, none⟩) (NV + 1) c9) (vs ++ [Value.slice ua un uc]) (ms ++ [doPs s pch]) ∧ HV rs2 sc2 br2 (mk m2) (ms ++ [doPs s pch]) ms.length ∧ (vs ++ [Value.slice ua un uc]).length ≤ k + 1 + 1) := ⟨j1, j2, HVX.out, by rw [hlv]; have := HK.out.2.1; omega⟩
                   have csb : w9.cell? ⟨sb, so + k, none⟩ = some (.bool false) := (H9.out.1.bel.cell (p := ⟨sb, so + k, none⟩) (cell_lt HSC.out)).trans HSC.out; clear ho9 hg9 ha9 hg99 ha99 j1 j2 hlv)
                | fail)
               refine ⟨⟨k + 1, ms.length, (vs ++ [Value.slice ua un uc]), (ms ++ [doPs s pch]), br2, m2, rs2, sc2, (fun x => N2 x ∨ (wr.heap.size ≤ x ∧ x < w9.heap.size)), n0, by have := HK.out.2.2.2; omega, congrArg (Value.int .i64) HWK.out, congrArg (Value.int .i64) HWV.out, H9.out.1.later (by omega), H9.out.2.1, H9.out.2.2.1, H9.out.2.2.2⟩, by rw [HWK.out]; simp [intOf]; have := HK.out.2.2.2; omega⟩
             | true =>
               have TA : Hid True := trivial; go_wp2_with (first
                | (have _ := TA
                   at_builtin
                   clear TA; refine wpList_append_u rfl _ _ rfl W.heap.size (.slice (some ⟨ga, 0, none⟩) NV gc) vs (.slice ua un uc) ⟨_, _, _, rfl⟩ rfl (World.ownsRow.alloc HWE.out.al.own _) wr.heap.size (heap_alloc_new _ _) rfl (by have := HK.out.2.1; have := HK.out.2.2.1; have := HK.out.2.2.2; have := HVN.out; omega) (by have := HWE.out.si.bel.size; simp; omega) ?_; intro v9 w9 ho9 hg9 ha9; have hg99 : wr.grownBy w9 (Value.slice (some ⟨ga, 0, none⟩) NV gc).ownBlock := (World.grownBy_alloc wr _ _).trans hg9; have ha99 : v9.ownBlock = (Value.slice (some ⟨ga, 0, none⟩) NV gc).ownBlock ∨ ∀ b, v9.ownBlock = some b → wr.heap.size ≤ b := by
                    rcases ha9 with h | h
                    · exact Or.inl h
                    · exact Or.inr (fun b hb => by rw [h] at hb; injection hb with hb; simp at hb; omega)
                   obtain ⟨j1, j2⟩ := HWE.out.add ho9 hg99 ha99; obtain ⟨g9, c9, rfl, _, _⟩ := row_form0 ho9 (by simp); have hlv : (vs ++ [Value.slice ua un uc]).length = NV + 1 := by rw [List.length_append, HVN.out]; rfl
                   rw [hlv] at j2 ⊢; have H9 : Hid (SI W w9 bd b bm (fun x => N2 x ∨ (wr.heap.size ≤ x ∧ x < w9.heap.size)) br2 m2 rs2 sc2 (30 * k + 3) n0 ∧ AL W w9 (fun x => N2 x ∨ (wr.heap.size ≤ x ∧ x < w9.heap.size)) (.slice (some ⟨g9, 0, none⟩) (NV + 1) c9) (vs ++ [Value.slice ua un uc]) (ms ++ [doPs s pch]) ∧ HV rs2 sc2 br2 (mk m2) (ms ++ [doPs s pch]) ms.length ∧ (vs ++ [Value.slice ua un uc]).length ≤ k + 1 + 1) := ⟨j1, j2, HVX.out, by rw [hlv]; have := HK.out.2.1; omega⟩
                   have csb : w9.cell? ⟨sb, so + k, none⟩ = some (.bool true) := (H9.out.1.bel.cell (p := ⟨sb, so + k, none⟩) (cell_lt HSC.out)).trans HSC.out; have HSN : Hid (∀ (_ : Unit), _) := fun _ => ksnap_any H9.out.1 (by have := HK.out.1; omega) (fun hb => by
                    obtain ⟨q1, q2, q3⟩ := hv_mlen H9.out.2.2.1 (H9.out.1.many (by have := HK.out.1; omega)) hb; exact ⟨q1, by omega, q3⟩)
                   have TS : Hid True := trivial; clear ho9 hg9 ha9 hg99 ha99 j1 j2 hlv)
                | (have _ := TS
                   go_at_call 16
                   clear TS; refine Calls.mono (HSN.out ()) ?_; rintro e wz ⟨cz, brz, rsz, scz, nz, rfl, hsz, hfz, hrz⟩; have HZ : Hid (SI W wz bd b bm (fun x => N2 x ∨ (wr.heap.size ≤ x ∧ x < w9.heap.size)) brz m2 rsz scz (30 * k + 3 + 20) nz ∧ AL W wz (fun x => N2 x ∨ (wr.heap.size ≤ x ∧ x < w9.heap.size)) (.slice (some ⟨g9, 0, none⟩) (NV + 1) c9) (vs ++ [Value.slice ua un uc]) (ms ++ [doPs s pch]) ∧ HV rsz scz brz (mk m2) (ms ++ [doPs s pch]) ms.length) := ⟨hsz, H9.out.2.1.keep (fun x hx => (hsz.bel.block x hx).trans (H9.out.1.bel.block x hx).symm) hfz.no (fun _ h => h), snap_cases H9.out.2.2.1 hrz⟩
                   clear hsz hfz hrz HSN)
                | fail)
               refine ⟨⟨k + 1, ms.length, (vs ++ [Value.slice ua un uc]), (ms ++ [doPs s pch]), brz, m2, rsz, scz, (fun x => N2 x ∨ (wr.heap.size ≤ x ∧ x < w9.heap.size)), nz, by have := HK.out.2.2.2; omega, congrArg (Value.int .i64) HWK.out, congrArg (Value.int .i64) HWV.out, HZ.out.1.later (by omega), HZ.out.2.1, HZ.out.2.2, H9.out.2.2.2⟩, by rw [HWK.out]; simp [intOf]; have := HK.out.2.2.2; omega⟩
           · have hsi : ¬ (k : Int) < NB := by omega
             have TA : Hid True := trivial; go_wp2_with (first
              | (have _ := TA
                 at_builtin
                 clear TA; refine wpList_append_u rfl _ _ rfl W.heap.size (.slice (some ⟨ga, 0, none⟩) NV gc) vs (.slice ua un uc) ⟨_, _, _, rfl⟩ rfl (World.ownsRow.alloc HWE.out.al.own _) wr.heap.size (heap_alloc_new _ _) rfl (by have := HK.out.2.1; have := HK.out.2.2.1; have := HK.out.2.2.2; have := HVN.out; omega) (by have := HWE.out.si.bel.size; simp; omega) ?_; intro v9 w9 ho9 hg9 ha9; have hg99 : wr.grownBy w9 (Value.slice (some ⟨ga, 0, none⟩) NV gc).ownBlock := (World.grownBy_alloc wr _ _).trans hg9; have ha99 : v9.ownBlock = (Value.slice (some ⟨ga, 0, none⟩) NV gc).ownBlock ∨ ∀ b, v9.ownBlock = some b → wr.heap.size ≤ b := by
                  rcases ha9 with h | h
                  · exact Or.inl h
                  · exact Or.inr (fun b hb => by rw [h] at hb; injection hb with hb; simp at hb; omega)
                 obtain ⟨j1, j2⟩ := HWE.out.add ho9 hg99 ha99; obtain ⟨g9, c9, rfl, _, _⟩ := row_form0 ho9 (by simp); have hlv : (vs ++ [Value.slice ua un uc]).length = NV + 1 := by rw [List.length_append, HVN.out]; rfl
                 rw [hlv] at j2 ⊢; have H9 : Hid (SI W w9 bd b bm (fun x => N2 x ∨ (wr.heap.size ≤ x ∧ x < w9.heap.size)) br2 m2 rs2 sc2 (30 * k + 3) n0 ∧ AL W w9 (fun x => N2 x ∨ (wr.heap.size ≤ x ∧ x < w9.heap.size)) (.slice (some ⟨g9, 0, none⟩) (NV + 1) c9) (vs ++ [Value.slice ua un uc]) (ms ++ [doPs s pch]) ∧ HV rs2 sc2 br2 (mk m2) (ms ++ [doPs s pch]) ms.length ∧ (vs ++ [Value.slice ua un uc]).length ≤ k + 1 + 1) := ⟨j1, j2, HVX.out, by rw [hlv]; have := HK.out.2.1; omega⟩
                 clear ho9 hg9 ha9 hg99 ha99 j1 j2 hlv)
              | fail)
             refine ⟨⟨k + 1, ms.length, (vs ++ [Value.slice ua un uc]), (ms ++ [doPs s pch]), br2, m2, rs2, sc2, (fun x => N2 x ∨ (wr.heap.size ≤ x ∧ x < w9.heap.size)), n0, by have := HK.out.2.2.2; omega, congrArg (Value.int .i64) HWK.out, congrArg (Value.int .i64) HWV.out, H9.out.1.later (by omega), H9.out.2.1, H9.out.2.2.1, H9.out.2.2.2⟩, by rw [HWK.out]; simp [intOf]; have := HK.out.2.2.2; omega⟩
         · by_cases h74 : c = 74
           · have HVX : Hid (HV rs2 sc2 br2 (mk m2) ms safe) := HVX0.out.2.1 h74
             subst h74; have H9 : Hid (SI W wr bd b bm N2 br2 m2 rs2 sc2 (30 * k + 3) n0 ∧ AL W wr N2 (.slice (some ⟨ga, 0, none⟩) NV gc) vs ms ∧ HV rs2 sc2 br2 (mk m2) ms safe ∧ vs.length ≤ k + 1 + 1) := ⟨HWE.out.si, HVN.out ▸ HWE.out.al, HVX.out, by have := HK.out.2.1; have := HVN.out; omega⟩
             by_cases hsb : k < NB
             · obtain ⟨x, hx⟩ : ∃ x, bs[k]? = some x := ⟨_, List.getElem?_eq_getElem (by have := HN.out.2.1; omega)⟩
               obtain ⟨sb, so, hsa, hsc⟩ := H0.out.2.2.2.2.1 k x hx; subst hsa; have hsi : (k : Int) < NB := by omega
               have HSC : Hid (W.cell? ⟨sb, so + k, none⟩ = some (.bool x)) := hsc; clear hx hsc hsb; cases x with
               | false =>
                 have csb : wr.cell? ⟨sb, so + k, none⟩ = some (.bool false) := (H9.out.1.bel.cell (p := ⟨sb, so + k, none⟩) (cell_lt HSC.out)).trans HSC.out; go_wp2_with (first
                  | fail)
                 refine ⟨⟨k + 1, safe, vs, ms, br2, m2, rs2, sc2, N2, n0, by have := HK.out.2.2.2; omega, congrArg (Value.int .i64) HWK.out, rfl, H9.out.1.later (by omega), H9.out.2.1, H9.out.2.2.1, H9.out.2.2.2⟩, by rw [HWK.out]; simp [intOf]; have := HK.out.2.2.2; omega⟩
               | true =>
                 have csb : wr.cell? ⟨sb, so + k, none⟩ = some (.bool true) := (H9.out.1.bel.cell (p := ⟨sb, so + k, none⟩) (cell_lt HSC.out)).trans HSC.out; have HSN : Hid (∀ (_ : Unit), _) := fun _ => ksnap_any H9.out.1 (by have := HK.out.1; omega) (fun hb => by
                  obtain ⟨q1, q2, q3⟩ := hv_mlen H9.out.2.2.1 (H9.out.1.many (by have := HK.out.1; omega)) hb; exact ⟨q1, by omega, q3⟩)
                 have TS : Hid True := trivial; go_wp2_with (first
                  | (have _ := TS
                     go_at_call 16
                     clear TS; refine Calls.mono (HSN.out ()) ?_; rintro e wz ⟨cz, brz, rsz, scz, nz, rfl, hsz, hfz, hrz⟩; have HZ : Hid (SI W wz bd b bm N2 brz m2 rsz scz (30 * k + 3 + 20) nz ∧ AL W wz N2 (.slice (some ⟨ga, 0, none⟩) NV gc) vs ms ∧ HV rsz scz brz (mk m2) ms safe) := ⟨hsz, H9.out.2.1.keep (fun x hx => (hsz.bel.block x hx).trans (H9.out.1.bel.block x hx).symm) hfz.no (fun _ h => h), snap_cases H9.out.2.2.1 hrz⟩
                     clear hsz hfz hrz HSN)
                  | fail)
                 refine ⟨⟨k + 1, safe, vs, ms, brz, m2, rsz, scz, N2, nz, by have := HK.out.2.2.2; omega, congrArg (Value.int .i64) HWK.out, rfl, HZ.out.1.later (by omega), HZ.out.2.1, HZ.out.2.2, H9.out.2.2.2⟩, by rw [HWK.out]; simp [intOf]; have := HK.out.2.2.2; omega⟩
             · have hsi : ¬ (k : Int) < NB := by omega
               go_wp2_with (first
                | fail)
               refine ⟨⟨k + 1, safe, vs, ms, br2, m2, rs2, sc2, N2, n0, by have := HK.out.2.2.2; omega, congrArg (Value.int .i64) HWK.out, rfl, H9.out.1.later (by omega), H9.out.2.1, H9.out.2.2.1, H9.out.2.2.2⟩, by rw [HWK.out]; simp [intOf]; have := HK.out.2.2.2; omega⟩
           · have HVX : Hid (HV rs2 sc2 br2 (mk m2) (ms ++ [doPs s pch]) safe) := HVX0.out.2.2 hcc h74
             have d0 : (c == 0) = false := by simpa using hcc
             have d74 : (c != 74) = true := by simpa using h74
             by_cases hsb : k < NB
             · obtain ⟨x, hx⟩ : ∃ x, bs[k]? = some x := ⟨_, List.getElem?_eq_getElem (by have := HN.out.2.1; omega)⟩
               obtain ⟨sb, so, hsa, hsc⟩ := H0.out.2.2.2.2.1 k x hx; subst hsa; have hsi : (k : Int) < NB := by omega
               have HSC : Hid (W.cell? ⟨sb, so + k, none⟩ = some (.bool x)) := hsc; clear hx hsc hsb; cases x with
               | false =>
                 have TA : Hid True := trivial; go_wp2_with (first
                  | (have _ := TA
                     at_builtin
                     clear TA; refine wpList_append_u rfl _ _ rfl W.heap.size (.slice (some ⟨ga, 0, none⟩) NV gc) vs (.slice ua un uc) ⟨_, _, _, rfl⟩ rfl (World.ownsRow.alloc HWE.out.al.own _) wr.heap.size (heap_alloc_new _ _) rfl (by have := HK.out.2.1; have := HK.out.2.2.1; have := HK.out.2.2.2; have := HVN.out; omega) (by have := HWE.out.si.bel.size; simp; omega) ?_; intro v9 w9 ho9 hg9 ha9; have hg99 : wr.grownBy w9 (Value.slice (some ⟨ga, 0, none⟩) NV gc).ownBlock := (World.grownBy_alloc wr _ _).trans hg9; have ha99 : v9.ownBlock = (Value.slice (some ⟨ga, 0, none⟩) NV gc).ownBlock ∨ ∀ b, v9.ownBlock = some b → wr.heap.size ≤ b := by
                      rcases ha9 with h | h
                      · exact Or.inl h
                      · exact Or.inr (fun b hb => by rw [h] at hb; injection hb with hb; simp at hb; omega)
                     obtain ⟨j1, j2⟩ := HWE.out.add ho9 hg99 ha99; obtain ⟨g9, c9, rfl, _, _⟩ := row_form0 ho9 (by simp); have hlv : (vs ++ [Value.slice ua un uc]).length = NV + 1 := by rw [List.length_append, HVN.out]; rfl
                     rw [hlv] at j2 ⊢; have H9 : Hid (SI W w9 bd b bm (fun x => N2 x ∨ (wr.heap.size ≤ x ∧ x < w9.heap.size)) br2 m2 rs2 sc2 (30 * k + 3) n0 ∧ AL W w9 (fun x => N2 x ∨ (wr.heap.size ≤ x ∧ x < w9.heap.size)) (.slice (some ⟨g9, 0, none⟩) (NV + 1) c9) (vs ++ [Value.slice ua un uc]) (ms ++ [doPs s pch]) ∧ HV rs2 sc2 br2 (mk m2) (ms ++ [doPs s pch]) safe ∧ (vs ++ [Value.slice ua un uc]).length ≤ k + 1 + 1) := ⟨j1, j2, HVX.out, by rw [hlv]; have := HK.out.2.1; omega⟩
                     have csb : w9.cell? ⟨sb, so + k, none⟩ = some (.bool false) := (H9.out.1.bel.cell (p := ⟨sb, so + k, none⟩) (cell_lt HSC.out)).trans HSC.out; clear ho9 hg9 ha9 hg99 ha99 j1 j2 hlv)
                  | fail)
                 refine ⟨⟨k + 1, safe, (vs ++ [Value.slice ua un uc]), (ms ++ [doPs s pch]), br2, m2, rs2, sc2, (fun x => N2 x ∨ (wr.heap.size ≤ x ∧ x < w9.heap.size)), n0, by have := HK.out.2.2.2; omega, congrArg (Value.int .i64) HWK.out, rfl, H9.out.1.later (by omega), H9.out.2.1, H9.out.2.2.1, H9.out.2.2.2⟩, by rw [HWK.out]; simp [intOf]; have := HK.out.2.2.2; omega⟩
               | true =>
                 have TA : Hid True := trivial; go_wp2_with (first
                  | (have _ := TA
                     at_builtin
                     clear TA; refine wpList_append_u rfl _ _ rfl W.heap.size (.slice (some ⟨ga, 0, none⟩) NV gc) vs (.slice ua un uc) ⟨_, _, _, rfl⟩ rfl (World.ownsRow.alloc HWE.out.al.own _) wr.heap.size (heap_alloc_new _ _) rfl (by have := HK.out.2.1; have := HK.out.2.2.1; have := HK.out.2.2.2; have := HVN.out; omega) (by have := HWE.out.si.bel.size; simp; omega) ?_; intro v9 w9 ho9 hg9 ha9; have hg99 : wr.grownBy w9 (Value.slice (some ⟨ga, 0, none⟩) NV gc).ownBlock := (World.grownBy_alloc wr _ _).trans hg9; have ha99 : v9.ownBlock = (Value.slice (some ⟨ga, 0, none⟩) NV gc).ownBlock ∨ ∀ b, v9.ownBlock = some b → wr.heap.size ≤ b := by
                      rcases ha9 with h | h
                      · exact Or.inl h
                      · exact Or.inr (fun b hb => by rw [h] at hb; injection hb with hb; simp at hb; omega)
                     obtain ⟨j1, j2⟩ := HWE.out.add ho9 hg99 ha99; obtain ⟨g9, c9, rfl, _, _⟩ := row_form0 ho9 (by simp); have hlv : (vs ++ [Value.slice ua un uc]).length = NV + 1 := by rw [List.length_append, HVN.out]; rfl
                     rw [hlv] at j2 ⊢; have H9 : Hid (SI W w9 bd b bm (fun x => N2 x ∨ (wr.heap.size ≤ x ∧ x < w9.heap.size)) br2 m2 rs2 sc2 (30 * k + 3) n0 ∧ AL W w9 (fun x => N2 x ∨ (wr.heap.size ≤ x ∧ x < w9.heap.size)) (.slice (some ⟨g9, 0, none⟩) (NV + 1) c9) (vs ++ [Value.slice ua un uc]) (ms ++ [doPs s pch]) ∧ HV rs2 sc2 br2 (mk m2) (ms ++ [doPs s pch]) safe ∧ (vs ++ [Value.slice ua un uc]).length ≤ k + 1 + 1) := ⟨j1, j2, HVX.out, by rw [hlv]; have := HK.out.2.1; omega⟩
                     have csb : w9.cell? ⟨sb, so + k, none⟩ = some (.bool true) := (H9.out.1.bel.cell (p := ⟨sb, so + k, none⟩) (cell_lt HSC.out)).trans HSC.out; have HSN : Hid (∀ (_ : Unit), _) := fun _ => ksnap_any H9.out.1 (by have := HK.out.1; omega) (fun hb => by
                      obtain ⟨q1, q2, q3⟩ := hv_mlen H9.out.2.2.1 (H9.out.1.many (by have := HK.out.1; omega)) hb; exact ⟨q1, by omega, q3⟩)
                     have TS : Hid True := trivial; clear ho9 hg9 ha9 hg99 ha99 j1 j2 hlv)
                  | (have _ := TS
                     go_at_call 16
                     clear TS; refine Calls.mono (HSN.out ()) ?_; rintro e wz ⟨cz, brz, rsz, scz, nz, rfl, hsz, hfz, hrz⟩; have HZ : Hid (SI W wz bd b bm (fun x => N2 x ∨ (wr.heap.size ≤ x ∧ x < w9.heap.size)) brz m2 rsz scz (30 * k + 3 + 20) nz ∧ AL W wz (fun x => N2 x ∨ (wr.heap.size ≤ x ∧ x < w9.heap.size)) (.slice (some ⟨g9, 0, none⟩) (NV + 1) c9) (vs ++ [Value.slice ua un uc]) (ms ++ [doPs s pch]) ∧ HV rsz scz brz (mk m2) (ms ++ [doPs s pch]) safe) := ⟨hsz, H9.out.2.1.keep (fun x hx => (hsz.bel.block x hx).trans (H9.out.1.bel.block x hx).symm) hfz.no (fun _ h => h), snap_cases H9.out.2.2.1 hrz⟩
                     clear hsz hfz hrz HSN)
                  | fail)
                 refine ⟨⟨k + 1, safe, (vs ++ [Value.slice ua un uc]), (ms ++ [doPs s pch]), brz, m2, rsz, scz, (fun x => N2 x ∨ (wr.heap.size ≤ x ∧ x < w9.heap.size)), nz, by have := HK.out.2.2.2; omega, congrArg (Value.int .i64) HWK.out, rfl, HZ.out.1.later (by omega), HZ.out.2.1, HZ.out.2.2, H9.out.2.2.2⟩, by rw [HWK.out]; simp [intOf]; have := HK.out.2.2.2; omega⟩
             · have hsi : ¬ (k : Int) < NB := by omega
               have TA : Hid True := trivial; go_wp2_with (first
                | (have _ := TA
                   at_builtin
                   clear TA; refine wpList_append_u rfl _ _ rfl W.heap.size (.slice (some ⟨ga, 0, none⟩) NV gc) vs (.slice ua un uc) ⟨_, _, _, rfl⟩ rfl (World.ownsRow.alloc HWE.out.al.own _) wr.heap.size (heap_alloc_new _ _) rfl (by have := HK.out.2.1; have := HK.out.2.2.1; have := HK.out.2.2.2; have := HVN.out; omega) (by have := HWE.out.si.bel.size; simp; omega) ?_; intro v9 w9 ho9 hg9 ha9; have hg99 : wr.grownBy w9 (Value.slice (some ⟨ga, 0, none⟩) NV gc).ownBlock := (World.grownBy_alloc wr _ _).trans hg9; have ha99 : v9.ownBlock = (Value.slice (some ⟨ga, 0, none⟩) NV gc).ownBlock ∨ ∀ b, v9.ownBlock = some b → wr.heap.size ≤ b := by
                    rcases ha9 with h | h
                    · exact Or.inl h
                    · exact Or.inr (fun b hb => by rw [h] at hb; injection hb with hb; simp at hb; omega)
                   obtain ⟨j1, j2⟩ := HWE.out.add ho9 hg99 ha99; obtain ⟨g9, c9, rfl, _, _⟩ := row_form0 ho9 (by simp); have hlv : (vs ++ [Value.slice ua un uc]).length = NV + 1 := by rw [List.length_append, HVN.out]; rfl
                   rw [hlv] at j2 ⊢; have H9 : Hid (SI W w9 bd b bm (fun x => N2 x ∨ (wr.heap.size ≤ x ∧ x < w9.heap.size)) br2 m2 rs2 sc2 (30 * k + 3) n0 ∧ AL W w9 (fun x => N2 x ∨ (wr.heap.size ≤ x ∧ x < w9.heap.size)) (.slice (some ⟨g9, 0, none⟩) (NV + 1) c9) (vs ++ [Value.slice ua un uc]) (ms ++ [doPs s pch]) ∧ HV rs2 sc2 br2 (mk m2) (ms ++ [doPs s pch]) safe ∧ (vs ++ [Value.slice ua un uc]).length ≤ k + 1 + 1) := ⟨j1, j2, HVX.out, by rw [hlv]; have := HK.out.2.1; omega⟩
                   clear ho9 hg9 ha9 hg99 ha99 j1 j2 hlv)
                | fail)
               refine ⟨⟨k + 1, safe, (vs ++ [Value.slice ua un uc]), (ms ++ [doPs s pch]), br2, m2, rs2, sc2, (fun x => N2 x ∨ (wr.heap.size ≤ x ∧ x < w9.heap.size)), n0, by have := HK.out.2.2.2; omega, congrArg (Value.int .i64) HWK.out, rfl, H9.out.1.later (by omega), H9.out.2.1, H9.out.2.2.1, H9.out.2.2.2⟩, by rw [HWK.out]; simp [intOf]; have := HK.out.2.2.2; omega⟩
  · obtain rfl : k = NL := by omega
    clear hlt hk; obtain ⟨s, hs⟩ : ∃ s, ms.getLast? = some s := by
     cases h : ms.getLast? with
     | none => exact absurd (List.getLast?_eq_none_iff.1 h) HS.out.hv.ne
     | some s => exact ⟨s, rfl⟩
    obtain ⟨u0, hu0, _⟩ := HS.out.al.it _ s (last_at hs); obtain ⟨ga, gc, hal, _⟩ := own_at HS.out.al.own hu0; subst hal; obtain ⟨NV, hNV⟩ : ∃ n, n = vs.length := ⟨_, rfl⟩
    have HVN : Hid (vs.length = NV) := hNV.symm; have HKB : Hid (k * 24 ≤ 140737488355328 ∧ NV ≤ k + 1) := by
     have h1 := H0.out.2.2.1; rw [← HN.out.1] at h1; have h2 := HS.out.cnt; exact ⟨by omega, by omega⟩
    rw [← hNV]; clear hs hu0 hNV; have HBO : Hid (∀ (_ : Unit), _) := fun _ => wboot (w := wr) HS.out.si (by have := HKB.out.1; omega) (.slice ka ks.length kc) ks H0.out.2.2.2.2.2.2.2.2.1 H0.out.2.2.2.2.2.2.2.2.2
    rw [← HN.out.2.2.2] at HBO; have T7 : Hid True := trivial; go_wp2_with (first
     | (have _ := T7
        go_at_call 18
        clear T7; refine Calls.mono (HBO.out ()) ?_; rintro e wb ⟨rfl, hbt, hnb⟩; have HBT : Hid (BT W wb bd N rs sc) := hbt; have HNB : Hid (∀ x, N x → wb.heap[x]? = wr.heap[x]?) := hnb; have HOP : Hid (∀ (_ : Unit), _) := fun _ => wopen1 HBT.out HS.out.hv.snd most HM.out
        clear hbt hnb HBO; have T8 : Hid True := trivial)
     | (have _ := T8
        go_at_call 11
        clear T8; refine Calls.mono (HOP.out ()) ?_; rintro e wo ⟨b', bl', bm', m', j, D', rfl, hbel, hks', hD', hj1, hj2, hop, hml, hnb2⟩; have HBT2 : Below W.heap.size W wb := by
         obtain ⟨_, _, _, _, _, _, _, hd9, _⟩ := HBT.out; exact hd9.fr
        have HNlt : ∀ x, N x → x < wb.heap.size := by
         obtain ⟨_, _, _, _, _, _, _, _, _, _, _, _, _, _, hx9⟩ := HBT.out; exact fun x hx => (hx9 x hx).2
        have hnlt2 : ∀ x, N x → x < wo.heap.size := fun x hx => heap_lt ((hnb2 x hx).trans (Array.getElem?_eq_getElem (HNlt x hx)))
        have hal2 : AL W wo N (.slice (some ⟨ga, 0, none⟩) NV gc) vs ms := by
         have := HS.out.al.keep (w' := wo) (fun x hx => (hbel.block x hx).trans (HS.out.si.bel.block x hx).symm) (fun x hx => (hnb2 x hx).trans (HNB.out x hx)) (fun _ h => h); rw [HVN.out] at this; exact this
        obtain ⟨tt, ht1, ht2, ht3, _⟩ := opK_snd (rs := rs.take j) (fun r hr => HS.out.hv.snd r (List.mem_of_mem_take hr)); rw [hop] at ht1; injection ht1 with ht1
        subst ht1; have hk64 : ∀ p ∈ m', p.1.length ≤ 64 := fun p hp => (ht2 _ (show (p.1, p.2.2) ∈ mk m' from List.mem_map.2 ⟨p, hp, rfl⟩)).2.1
        have HR2 : Hid (∀ (_ : Unit), _) := fun _ => range_any hks' hD' (srt_mk ht3) hml hk64 (fa := none) (ta := none) (fc := 0) (tc := 0) (f := []) (t := []) (Or.inl ⟨rfl, rfl⟩) (Or.inl ⟨rfl, rfl⟩)
        obtain ⟨i0, a0, hi1, hi2, hi3⟩ := HS.out.hv.rch j hj1 hj2; have ea : a0 = mk m' := by rw [hop] at hi3; injection hi3 with hi3; exact hi3.symm
        have HI : Hid (safe ≤ i0 ∧ ms[i0]? = some (mk m') ∧ Below W.heap.size W wo ∧ AL W wo N (.slice (some ⟨ga, 0, none⟩) NV gc) vs ms ∧ (∀ x, N x → x < wo.heap.size) ∧ m'.length ≤ 2000000000000 ∧ i0 < NV) := ⟨hi1, ea ▸ hi2, hbel, hal2, hnlt2, hml, by
         have h1 := (List.getElem?_eq_some_iff.1 hi2).1; rw [← HS.out.al.len, HVN.out] at h1; exact h1⟩
        clear hbel hks' hD' hop hnb2 HBT2 HNlt hnlt2 hal2 ht2 ht3 hk64 hi1 hi2 hi3 ea HOP; have T9 : Hid True := trivial)
     | (have _ := T9
        go_at_call 29
        clear T9; refine Calls.mono (HR2.out ()) ?_; rintro e wz ⟨vz, rfl, hch, hbz⟩; rw [rngk_all] at hch; have HZ : Hid (ChsV wz (fun x => x < wz.heap.size) vz ((mk m').map toCh) ∧ AL W wz N (.slice (some ⟨ga, 0, none⟩) NV gc) vs ms ∧ Below W.heap.size W wz ∧ ∀ x, N x → x < wz.heap.size) := ⟨hch, HI.out.2.2.2.1.keep (fun x hx => hbz.block x (Nat.lt_of_lt_of_le hx HI.out.2.2.1.size)) (fun x hx => hbz.block x (HI.out.2.2.2.2.1 x hx)) (fun _ h => h), HI.out.2.2.1.trans (hbz.mono HI.out.2.2.1.size), fun x hx => Nat.lt_of_lt_of_le (HI.out.2.2.2.2.1 x hx) hbz.size⟩
        obtain ⟨za, zc, rfl, _, _, _⟩ := hch.form; obtain ⟨NM, hNM⟩ : ∃ n, n = (List.map toCh (mk m')).length := ⟨_, rfl⟩
        have HNM : Hid (NM = (List.map toCh (mk m')).length) := hNM; rw [← hNM]; clear hch hbz HR2 hNM)
     | fail)
    go_loopw [10, 23] (fun _ kk wx => ∃ (k3 : Nat), safe ≤ k3 ∧ k3 ≤ i0 ∧ kk = .int .i64 k3 ∧ Hid (Below wz.heap.size wz wx)) (fun _ kk _ => NV - (intOf kk).toNat)
    case atStart => exact ⟨safe, Nat.le_refl _, HI.out.1, rfl, Below.refl _ _⟩
    case round =>
     obtain ⟨k3, hk3a, hk3b, rfl, HX⟩ := hrel; have HK3 : Hid (safe ≤ k3 ∧ k3 ≤ i0 ∧ NV ≤ k + 1) := ⟨hk3a, hk3b, HKB.out.2⟩
     have hlt3 : (k3 : Int) < NV := by have := HI.out.2.2.2.2.2.2; omega
     have hal3 : AL W wr N (.slice (some ⟨ga, 0, none⟩) NV gc) vs ms := HZ.out.2.1.keep (fun x hx => HX.out.block x (Nat.lt_of_lt_of_le hx HZ.out.2.2.1.size)) (fun x hx => HX.out.block x (HZ.out.2.2.2 x hx)) (fun _ h => h); obtain ⟨a3, ha3⟩ : ∃ a, ms[k3]? = some a := ⟨_, List.getElem?_eq_getElem (by have h1 := HVN.out; rw [HS.out.al.len] at h1; have := HI.out.2.2.2.2.2.2; omega)⟩
     obtain ⟨u3, hu3, hl3⟩ := hal3.it k3 a3 ha3; obtain ⟨g3, gc3, e3, c3⟩ := own_at hal3.own hu3; have eg : ga = g3 := by
      injection e3 with e3 _ _
      injection e3 with e3
      injection e3
     subst eg; clear e3; obtain ⟨ua, uc, rfl⟩ := hl3.form; have HSA : Hid (∀ (_ : Unit), _) := fun _ => lsame_any (w := wr) (D := fun x => x < wz.heap.size) (D' := LD W N (.slice (some ⟨ga, 0, none⟩) NV gc)) (HZ.out.1.ls.mono (fun x hx => HX.out.block x hx) (fun _ h => h)) hl3 (fun x hx => Nat.lt_of_lt_of_le hx HX.out.size) (fun x hx => Nat.lt_of_lt_of_le (hx.1.elim (fun h => Nat.lt_of_lt_of_le h HZ.out.2.2.1.size) (HZ.out.2.2.2 x)) HX.out.size) (by rw [List.length_map, mk_len]; have := HI.out.2.2.2.2.2.1; omega)
     obtain ⟨n3, hn3⟩ : ∃ n, n = (List.map toCh a3).length := ⟨_, rfl⟩
     rw [← HNM.out, ← hn3] at HSA; rw [← hn3] at c3; have HWK3 : Hid (wrap64 ((k3 : Int) + 1) = ((k3 + 1 : Nat) : Int)) := by
      show wrap64 ((k3 : Int) + 1) = ((k3 + 1 : Nat) : Int)
      have := HKB.out; have := HI.out.2.2.2.2.2.2; unfold wrap64; omega
     have HA3 : Hid (ms[k3]? = some a3) := ha3; clear hk3a hk3b hal3 ha3 hu3 hl3 hn3; have T9 : Hid True := trivial; go_wp2_with (first
      | (have _ := T9
         go_at_call 39
         clear T9; refine Calls.mono (HSA.out ()) ?_; rintro e wy ⟨r, rfl, hby, hr⟩; have HY : Hid (Below wz.heap.size wz wy) := HX.out.trans (hby.mono HX.out.size); have HRR : Hid (mk m' = a3 → r = true) := fun h => hr (by rw [h])
         clear hby hr; cases r; rotate_left
         · go_wp2
           go_ret; exact ⟨rfl, HZ.out.2.2.1.trans (HY.out.mono HZ.out.2.2.1.size)⟩)
      | fail)
     · go_roundw
       case rel =>
        refine ⟨k3 + 1, by have := HK3.out.1; omega, ?_, congrArg (Value.int .i64) HWK3.out, HY.out⟩; rcases Nat.lt_or_ge k3 i0 with h | h
        · exact h
        · have e : k3 = i0 := by have := HK3.out.2.1; omega
          have h1 := HA3.out; rw [e, HI.out.2.1] at h1; injection h1 with h1
          have := HRR.out h1; cases this
       case measure => rw [HWK3.out]; simp [intOf]; have := HK3.out; have := HI.out.2.2.2.2.2.2; omega
end Go.Proofs.YtconkienlcegaaaGreatDoor
