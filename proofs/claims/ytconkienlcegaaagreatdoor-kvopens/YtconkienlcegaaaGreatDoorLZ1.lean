/- kv: the document's Open: the walk. -/
import Derived.Test.YtconkienlcegaaaGreatDoorGDD
import Derived.Test.YtconkienlcegaaaGreatDoorGLZ0
namespace Go.Proofs.YtconkienlcegaaaGreatDoor
open Go.RowKit Go.Maps Go.Joins Go.Shelf
set_option linter.unusedSimpArgs false
set_option linter.unusedVariables false
set_option maxRecDepth 100000 in
set_option maxHeartbeats 16000000 in
theorem ropenk_gen {w : World} {br : Nat} {most : Int} {X : Int → Nat → QS → World → Prop}
 (HO : Calls Tryz.prog 46 #[.pointer (some ⟨br, 0, none⟩), .string logB, .int .i64 most] w fun e w' => ∃ c bq Q, e = .returned (.tuple #[if c = 0 then .pointer (some ⟨bq, 0, none⟩) else .pointer none, .int .i64 c]) ∧ X c bq Q w' ∧ (c = 0 → QgK w' bq Q)) :
 Calls Tryz.prog 12 #[.pointer (some ⟨br, 0, none⟩), .string logB, .int .i64 most] w fun e w' => ∃ c bq Q w1, X c bq Q w1 ∧ Below w1.heap.size w1 w' ∧ RoR c Q w1 w' bq e := by
 have HO : Hid _ := HO; go_enter Tryz.func12, Tryz.ntmps12; go_wp2_with fail; refine Calls.mono HO.out ?_; rintro e w1 ⟨c, bq, Q, rfl, hx, hlg⟩; by_cases hc : c = 0; rotate_left
 · rw [if_neg hc]
   have HX : Hid (X c bq Q w1) := hx; have HC : Hid (c ≠ 0) := hc; have hcb : (c == 0) = false := by simpa using hc
   clear hx hlg; go_wp2; go_ret2; exact ⟨c, bq, Q, w1, HX.out, Below.refl _ _, Or.inl ⟨HC.out, rfl⟩⟩
 · subst hc
   rw [if_pos rfl]; have HX : Hid (X 0 bq Q w1 ∧ QgK w1 bq Q) := ⟨hx, hlg rfl⟩
   clear hx hlg HO; go_wp2_with fail; have H0 : Hid (RoJ w1 (w1.alloc (stQ bq (.slice none 0 0))) bq w1.heap.size (.slice none 0 0) []) := ⟨by go_grown, heap_alloc_new _ _, Nat.le_refl _, chs_empty _ _⟩
   unfold stQ at H0; obtain ⟨bs, hbs⟩ : ∃ bs, bs = w1.heap.size := ⟨_, rfl⟩
   rw [← hbs] at H0 ⊢; generalize w1.alloc (.cells #[.pointer (some ⟨bq, 0, none⟩), .slice none 0 0, .bool false] 61) = W0 at H0 ⊢; clear hbs; obtain ⟨N, hN⟩ : ∃ N, N = Q.rs.length := ⟨_, rfl⟩
   have hnl : N ≤ 134217728 := by rw [hN]; exact HX.out.2.2.1
   have HN : Hid (N = Q.rs.length) := hN; obtain ⟨ba, bc, hbv⟩ := row_form HX.out.2.1.recs; rw [← hN] at hbv; have HBV : Hid (Q.bv = .slice ba N bc) := hbv; clear hN hbv; go_loopw [11] (fun i wr => ∃ (k : Nat) (s : List (List UInt8 × List Int)) (v : Value), k ≤ N ∧ i = .int .i64 k ∧ Hid (RoJ w1 wr bq bs v s ∧ opK ((Q.rs.map (·.2)).take k) = some s ∧ s.length ≤ k * 9363)) (fun i _ => N - (intOf i).toNat)
   case atStart => exact ⟨0, [], _, by omega, rfl, H0.out, by simp [opK], by simp⟩
   case round =>
    obtain ⟨k, s, v, hk, rfl, HK⟩ := hrel; have q4 : wr.cell? ⟨bq, 4, none⟩ = some (.slice ba N bc) := by
     have := HX.out.2.1.below HK.out.1.bel; rw [cell_of_block this.log, ← HBV.out]; rfl
    by_cases hlt : k < N
    · obtain ⟨p, hp⟩ : ∃ p, Q.rs[k]? = some p := ⟨_, List.getElem?_eq_getElem (by have := HN.out; omega)⟩
      have hmem := List.mem_of_getElem? hp; have hpb := HX.out.2.2.2 p hmem; obtain ⟨pa, pn, pc, hpv, hpn, hpc⟩ := HX.out.2.1.cp p hmem; have hbp := HX.out.2.1.each p hmem; have hpl : pn = p.2.length := by
       obtain ⟨a, c, e⟩ := hbp.form'; rw [hpv] at e; injection e
      have hrow := HX.out.2.1.recs; rw [HBV.out] at hrow; have hrow' : w1.ownsRow 0 23 1 (.slice ba N bc) (Q.rs.map (·.1)).length (Q.rs.map (·.1)) := by rw [List.length_map]; exact hrow
      obtain ⟨gb, hba, hcg⟩ := own_cellq hrow' (j := k) (u := p.1) (by rw [List.getElem?_map, hp]; rfl); rw [hpv] at hcg hbp; subst hba; have hki : (k : Int) < N := by omega
      have HL : Hid ((Q.rs.map (·.2))[k]? = some p.2 ∧ KByt p.2 ∧ p.2.length ≤ 65536) := ⟨by rw [List.getElem?_map, hp]; rfl, hpb.1, hpb.2⟩
      have HF : Hid (∀ W, Below w1.heap.size w1 W → W.cell? ⟨bq, 4, none⟩ = some (.slice (some ⟨gb, 0, none⟩) N bc) ∧ W.cell? ⟨gb, k, none⟩ = some (.slice pa pn pc) ∧ BytesV W (.slice pa pn pc) p.2) := fun W hW => ⟨by
       have := HX.out.2.1.below hW; rw [cell_of_block this.log, ← HBV.out]; rfl, (hW.cell (p := ⟨gb, k, none⟩) (cell_lt hcg)).trans hcg, hbp.keep fun x hx => hW.block x (hbp.lt x hx)⟩
      have qk := (HF.out wr HK.out.1.bel).2.1; have HPN : Hid (pn = p.2.length ∧ pn ≤ pc ∧ pc ≤ 9223372036854775807) := ⟨hpl, hpn, hpc⟩
      clear hp hmem hpb hbp hrow hrow' hcg hpv hpl hpn hpc; obtain ⟨rc, hrc⟩ : ∃ rc, rc = p.2 := ⟨_, rfl⟩
      rw [← hrc] at HL HF HPN; clear hrc; cases rc with
      | nil =>
        have h0 : pn = 0 := HPN.out.1; subst h0; go_wp2; go_ret2; exact ⟨0, bq, Q, w1, HX.out.1, HK.out.1.bel, Or.inr (Or.inl ⟨rfl, opK_stop HL.out.1 rfl, rfl⟩)⟩
      | cons t b =>
        obtain ⟨pg, po, hpa, hct⟩ := (HF.out wr HK.out.1.bel).2.2.at (k := 0) (x := t) rfl; subst hpa; simp only [Nat.add_zero] at hct; have hn0 : ¬ ((pn : Int) = 0) := by have := HPN.out.1; rw [List.length_cons] at this; omega
        have hn1 : 0 < pn := by omega
        have ht0 := (HL.out.2.1 t (by simp)).1; by_cases h1 : 1 < t
        · go_wp2
          go_ret2; exact ⟨0, bq, Q, w1, HX.out.1, HK.out.1.bel, Or.inr (Or.inl ⟨rfl, opK_stop HL.out.1 (chK_high h1 _), rfl⟩)⟩
        · obtain ⟨nb, hnb⟩ : ∃ nb, nb = b.length := ⟨_, rfl⟩
          have hpn' : pn = nb + 1 := by rw [HPN.out.1, hnb]; rfl
          subst hpn'; obtain ⟨o1, ho1⟩ : ∃ o1, o1 = if pc = 1 then po else po + 1 := ⟨_, rfl⟩
          have hsl := fun w' => slL2 w' pg po (nb + 1) pc 1 1 rfl (by omega)
          rw [← ho1, Nat.add_sub_cancel] at hsl; have hpcc := HPN.out.2.1; have HB : Hid (∀ W, Below w1.heap.size w1 W → BytesV W (.slice (some ⟨pg, o1, none⟩) nb (pc - 1)) b) := fun W hW => by
           have h2 := BytesV.cutLH (bs := t :: b) (i := 1) (l := nb) (by rw [List.length_cons, ← hnb]; exact (HF.out W hW).2.2) (by rw [List.length_cons, ← hnb]; omega) (by rw [List.length_cons, ← hnb]; omega); rw [← ho1] at h2
           simpa [hnb] using h2
          have HUB : Hid (∀ (_ : Unit), _) := fun _ => runbatch_any (w := wr) (ba := some ⟨pg, o1, none⟩) (cap := pc - 1) (bs := b) (by rw [← hnb]; exact HB.out wr HK.out.1.bel) (fun c hc => HL.out.2.1 c (List.mem_cons_of_mem _ hc)) (by have := HPN.out; omega) (by have := HPN.out; omega) (by have := HL.out.2.2; rw [List.length_cons] at this; omega)
          rw [← hnb] at HUB; have HNB : Hid (nb = b.length ∧ KByt b) := ⟨hnb, fun c hc => HL.out.2.1 c (List.mem_cons_of_mem _ hc)⟩
          have HT : Hid (t = 0 ∨ t = 1) := by show t = 0 ∨ t = 1; omega
          clear ho1 hnb; go_wp2_with fail; refine Calls.mono (HUB.out ()) ?_; rintro e w5 ⟨hb5, hub⟩; have HK5 : Hid (RoJ w1 w5 bq bs v s ∧ Below w1.heap.size w1 w5) := ⟨HK.out.1.below hb5, HK.out.1.bel.trans (hb5.mono HK.out.1.bel.size)⟩
          rcases hub with ⟨l, lv, hok, hen, rfl, hch⟩ | ⟨hno, rfl⟩
          · obtain ⟨la, lc, hlv, hlc1, hlc2, hlc3⟩ := hch.form
            subst hlv; have hle := encK_ge7 hok.1; have HOK : Hid (okM l ∧ encK l = b ∧ l.length ≤ 9363) := ⟨hok, hen, by rw [hen] at hle; have := HL.out.2.2; rw [List.length_cons] at this; omega⟩
            have HCH : Hid (ChsV w5 (fun x => x < w5.heap.size) (.slice la l.length lc) l) := hch.mono (fun _ _ => rfl) (fun x hx => hx.2); obtain ⟨NL, hNL⟩ : ∃ NL, NL = l.length := ⟨_, rfl⟩
            have HNL : Hid (NL = l.length) := hNL; have hNLb : NL ≤ 9363 := by rw [hNL]; exact HOK.out.2.2
            rw [← hNL] at HCH hlc1 ⊢; obtain ⟨va, vn, vc, hvv⟩ := HK.out.1.vs; subst hvv; have q4' := (HF.out w5 HK5.out.2).1; have qk' := (HF.out w5 HK5.out.2).2.1; have hct' : w5.cell? ⟨pg, po, none⟩ = some (.int .u8 t) := (hb5.cell (p := ⟨pg, po, none⟩) (cell_lt hct)).trans hct; clear hok hen hch hle hNL hlc3 q4 qk hct hb5 HUB; rcases HT.out with h0 | h1
            · skip
              subst h0; obtain ⟨S0, hS0⟩ : ∃ S0, S0 = s := ⟨_, rfl⟩
              have HSR : Hid (SrtG S0 ∧ S0.length + l.length ≤ 2000000000000) := ⟨by rw [hS0]; exact opK_sorted HK.out.2.1, by rw [hS0]; have h7 := HK.out.2.2; have h6 := HOK.out.2.2; omega⟩
              have HST : Hid (opK ((Q.rs.map (·.2)).take (k + 1)) = some (doPs S0 l) ∧ S0.length + l.length ≤ s.length + 9363) := ⟨by rw [hS0]; exact opK_next HL.out.1 HK.out.2.1 (p := (false, l)) (by rw [chK_enc HOK.out.1.1 HOK.out.2.1, if_pos rfl]), by rw [hS0]; have h6 := HOK.out.2.2; omega⟩
              rw [← hS0] at HK5; clear hS0; go_wp2_with fail; go_loopw [15] (fun i wr => ∃ (j : Nat) (v3 : Value), j ≤ NL ∧ i = .int .i64 j ∧ Hid (RoJ w1 wr bq bs v3 (doPs S0 (l.take j)) ∧ ChsV wr (fun x => x < wr.heap.size) (.slice la NL lc) l)) (fun i _ => NL - (intOf i).toNat)
              case atStart => exact ⟨0, _, Nat.zero_le _, rfl, by simpa [doPs] using HK5.out.1, HCH.out⟩
              case round =>
               obtain ⟨j, v3, hjN, rfl, HJ3⟩ := hrel; by_cases hjl : j < NL
               · have hji : (j : Int) < NL := by omega
                 obtain ⟨c, hc⟩ : ∃ c, l[j]? = some c := ⟨_, List.getElem?_eq_getElem (by have := HNL.out; omega)⟩
                 obtain ⟨g, o, vk, vv, hla, hg, p0, p1, p2, hvk, hvv⟩ := HJ3.out.2.at hc; subst hla; obtain ⟨ak, ck, rfl⟩ := hvk.is.form'; obtain ⟨av, cv, rfl⟩ := hvv.is.form'; obtain ⟨nk, hnk⟩ : ∃ nk, nk = c.key.length := ⟨_, rfl⟩
                 obtain ⟨nv, hnv⟩ : ∃ nv, nv = c.val.length := ⟨_, rfl⟩
                 obtain ⟨cg, hcg⟩ : ∃ cg, cg = c.gone := ⟨_, rfl⟩
                 rw [← hnk] at p0 hvk; rw [← hnv] at p1 hvv; rw [← hcg] at p2; obtain ⟨va3, vn3, vc3, hv3⟩ := HJ3.out.1.vs; subst hv3; have hS0 : (fun w' => w'.cell? ⟨g, o + j * 3, none⟩ = some (.slice ak nk ck) ∧ w'.cell? ⟨g, o + j * 3 + 1, none⟩ = some (.slice av nv cv) ∧ w'.cell? ⟨g, o + j * 3 + 2, none⟩ = some (.bool cg)) wr.drew := ⟨p0, p1, p2⟩
                 have HKV : Hid (KBD wr (fun x => x < wr.heap.size) (.slice ak nk ck) c.key ∧ KBD wr (fun x => x < wr.heap.size) (.slice av nv cv) c.val ∧ KByt c.key ∧ cg = c.gone ∧ l[j]? = some c) := ⟨hvk, hvv, (HOK.out.1.2 c (List.mem_of_getElem? hc)).1, hcg, hc⟩
                 have h6 := doPs_len S0 (l.take j); have h5 : (l.take j).length ≤ l.length := by rw [List.length_take]; omega
                 have h4 := HSR.out.2; have HD3 : Hid (SrtG (doPs S0 (l.take j)) ∧ (doPs S0 (l.take j)).length ≤ 2000000000000) := ⟨srt_doPs _ HSR.out.1, by omega⟩
                 clear h6 h5 h4; clear hc hg p0 p1 p2 hvk hvv hnk hnv hcg; go_wp2_with fail; refine wp_noP ?_; refine wp_region_held_drew (S := fun w' => w'.cell? ⟨g, o + j * 3, none⟩ = some (.slice ak nk ck) ∧ w'.cell? ⟨g, o + j * 3 + 1, none⟩ = some (.slice av nv cv) ∧ w'.cell? ⟨g, o + j * 3 + 2, none⟩ = some (.bool cg)) (by kernel_rfl) hS0 (fun hHeld => ?_); have HJU : Hid (RoJ w1 wr.drew bq bs (.slice va3 vn3 vc3) (doPs S0 (l.take j)) ∧ ChsV wr.drew (fun x => x < wr.drew.heap.size) (.slice (some ⟨g, o, none⟩) NL lc) l ∧ KBD wr.drew (fun x => x < wr.drew.heap.size) (.slice ak nk ck) c.key ∧ KBD wr.drew (fun x => x < wr.drew.heap.size) (.slice av nv cv) c.val) := ⟨HJ3.out.1.below ⟨rfl, rfl, rfl, Nat.le_refl _, fun _ _ => rfl⟩, HJ3.out.2.mono (fun _ _ => rfl) (fun _ h => h), HKV.out.1.mono (fun _ _ => rfl) (fun _ h => h), HKV.out.2.1.mono (fun _ _ => rfl) (fun _ h => h)⟩
                 generalize wr.drew = U at HJU hHeld ⊢; clear hS0; refine tk 0 (.pointer (some ⟨bs, 0, none⟩)) (fun w9 hSw => ?_) hHeld ?_
                 · go_simp
                 simp only [sm]; refine tk 1 (.pointer (some ⟨bs, 0, none⟩)) (fun w9 hSw => ?_) hHeld ?_
                 · go_simp
                 simp only [sm]; refine tk 2 (.pointer (some ⟨bs, 0, none⟩)) (fun w9 hSw => ?_) hHeld ?_
                 · go_simp
                 simp only [sm]; refine tk 3 (.pointer (some ⟨bs, 1, none⟩)) (fun w9 hSw => ?_) hHeld ?_
                 · go_simp
                 simp only [sm]; refine tk 5 (.slice (some ⟨g, o, none⟩) NL lc) (fun w9 hSw => ?_) hHeld ?_
                 · go_simp
                 simp only [sm]; refine tk 6 (.int .i64 j) (fun w9 hSw => ?_) hHeld ?_
                 · go_simp
                 simp only [sm]; refine tk 7 (.pointer (some ⟨g, o + j * 3, none⟩)) (fun w9 hSw => ?_) hHeld ?_
                 · go_simp
                 simp only [sm]; refine tk 8 (.agg #[.slice ak nk ck, .slice av nv cv, .bool cg]) (fun w9 hSw => ?_) hHeld ?_
                 · have y0 := hSw.1
                   have y1 := hSw.2.1; have y2 := hSw.2.2; go_simp
                 simp only [sm]; refine rd 4 (fun K hK => ?_); have z9 : U.cell? ⟨bs, 1, none⟩ = some (.slice va3 vn3 vc3) := (cell_of_block HJU.out.1.st 1).trans rfl; go_simp; refine hK.out _ _ hHeld (fun hHeld => ?_); clear hK K z9; try simp only [sm]
                 refine rd 9 (fun K hK => ?_); go_simp; have HDN := done_any (vk := .slice ak nk ck) (vv := .slice av nv cv) (c := c) HJU.out.1.lst HD3.out.1 HD3.out.2 HJU.out.2.2.1 HJU.out.2.2.2 HKV.out.2.2.1; rw [← HKV.out.2.2.2.1] at HDN; refine Calls.mono HDN ?_; rintro e U2 ⟨v4, rfl, hch4, hb4⟩; obtain ⟨va4, vc4, hv4, _⟩ := hch4.form; rw [List.length_map] at hv4; subst hv4; have HU2 : Hid (RoJ w1 U2 bq bs (.slice va3 vn3 vc3) (doPs S0 (l.take j)) ∧ ChsV U2 (fun x => x < U2.heap.size) (.slice (some ⟨g, o, none⟩) NL lc) l ∧ ChsV U2 (fun x => x < U2.heap.size) (.slice va4 (doP (doPs S0 (l.take j)) c).length vc4) ((doP (doPs S0 (l.take j)) c).map toCh)) := ⟨HJU.out.1.below hb4, HJU.out.2.1.up hb4, hch4⟩
                 obtain ⟨n4, hn4⟩ : ∃ n4, n4 = (doP (doPs S0 (l.take j)) c).length := ⟨_, rfl⟩
                 rw [← hn4] at HU2 ⊢; clear hn4; have hH2 : (fun w' => w'.cell? ⟨g, o + j * 3, none⟩ = some (.slice ak nk ck) ∧ w'.cell? ⟨g, o + j * 3 + 1, none⟩ = some (.slice av nv cv) ∧ w'.cell? ⟨g, o + j * 3 + 2, none⟩ = some (.bool cg)) U2 := ⟨(hb4.cell (p := ⟨g, o + j * 3, none⟩) (cell_lt hHeld.1)).trans hHeld.1, (hb4.cell (p := ⟨g, o + j * 3 + 1, none⟩) (cell_lt hHeld.2.1)).trans hHeld.2.1, (hb4.cell (p := ⟨g, o + j * 3 + 2, none⟩) (cell_lt hHeld.2.2)).trans hHeld.2.2⟩
                 go_wp2_with fail
                 refine hK.out _ _ hH2 (fun hHeld => ?_); clear hK K hb4 hch4 hH2 HJU HDN; try simp only [sm]
                 refine tk 10 (.pointer (some ⟨bs, 0, none⟩)) (fun w9 hSw => ?_) hHeld ?_
                 · go_simp
                 simp only [sm]; refine tk 11 (.pointer (some ⟨bs, 1, none⟩)) (fun w9 hSw => ?_) hHeld ?_
                 · go_simp
                 simp only [sm]; refine rd 12 (fun K hK => ?_); have z9 : U2.cell? ⟨bs, 1, none⟩ = some (.slice va3 vn3 vc3) := (cell_of_block HU2.out.1.st 1).trans rfl; have z8 : U2.frozen? ⟨bs, 1, none⟩ = false := unfrozen_of_block HU2.out.1.st 1; go_simp; have HE4 : Hid (RoJ w1 (U2.setCell ⟨bs, 1, none⟩ (.slice va4 n4 vc4)) bq bs (.slice va4 n4 vc4) (doPs S0 (l.take (j + 1))) ∧ ChsV (U2.setCell ⟨bs, 1, none⟩ (.slice va4 n4 vc4)) (fun x => x < (U2.setCell ⟨bs, 1, none⟩ (.slice va4 n4 vc4)).heap.size) (.slice (some ⟨g, o, none⟩) NL lc) l) := ⟨by rw [doPs_snoc HKV.out.2.2.2.2]; exact HU2.out.1.store HU2.out.2.2, HU2.out.1.chs HU2.out.2.1⟩
                 have hgl : g ≠ bs := by
                  obtain ⟨g', o', _, _, e9, hd9, _⟩ := (chs_off HU2.out.2.1 HU2.out.1.vs HU2.out.1.st).at HKV.out.2.2.2.2; injection e9 with e9
                  injection e9 with e9 _ _
                  rw [e9]; exact hd9.2
                 have hH2 : (fun w' => w'.cell? ⟨g, o + j * 3, none⟩ = some (.slice ak nk ck) ∧ w'.cell? ⟨g, o + j * 3 + 1, none⟩ = some (.slice av nv cv) ∧ w'.cell? ⟨g, o + j * 3 + 2, none⟩ = some (.bool cg)) (U2.setCell ⟨bs, 1, none⟩ (.slice va4 n4 vc4)) := ⟨(World.cell?_of_block (a := ⟨g, o + j * 3, none⟩) (Below.heap_setCell _ _ _ _ hgl)).trans hHeld.1, (World.cell?_of_block (a := ⟨g, o + j * 3 + 1, none⟩) (Below.heap_setCell _ _ _ _ hgl)).trans hHeld.2.1, (World.cell?_of_block (a := ⟨g, o + j * 3 + 2, none⟩) (Below.heap_setCell _ _ _ _ hgl)).trans hHeld.2.2⟩
                 refine hK.out _ _ hH2 (fun hHeld => ?_); clear hK K hH2 z9 z8 hgl; try simp only [sm]
                 refine wpAnyH_done (by kernel_rfl) ?_ _; simp only [noP]; clear hHeld HU2; go_wp2; go_roundw
                 case rel => exact ⟨j + 1, _, by omega, by go_num, HE4.out⟩
                 case measure => simp [intOf]; omega
               · have hji : decide ((j : Int) < NL) = false := by simp; omega
                 have HE3 : Hid (l.take j = l) := by show _ = _; rw [List.take_of_length_le]; have := HNL.out; omega
                 go_wp2; go_roundw
                 case rel => exact ⟨k + 1, _, v3, by omega, by go_num, by have h9 := HJ3.out.1; rw [HE3.out] at h9; exact h9, HST.out.1, by have h7 := HST.out.2; have h8 := HK.out.2.2; have h6 := doPs_len S0 l; omega⟩
                 case measure => simp [intOf]; omega
            · skip
              subst h1; have z9 : w5.cell? ⟨bs, 1, none⟩ = some (.slice va vn vc) := (cell_of_block HK5.out.1.st 1).trans rfl; have z8 : w5.frozen? ⟨bs, 1, none⟩ = false := unfrozen_of_block HK5.out.1.st 1; go_wp2_with fail; have HK6 : Hid (RoJ w1 (w5.setCell ⟨bs, 1, none⟩ (.slice none 0 0)) bq bs (.slice none 0 0) [] ∧ ChsV (w5.setCell ⟨bs, 1, none⟩ (.slice none 0 0)) (fun x => x < (w5.setCell ⟨bs, 1, none⟩ (.slice none 0 0)).heap.size) (.slice la NL lc) l) := ⟨HK5.out.1.store (chs_empty _ _), HK5.out.1.chs HCH.out⟩
              generalize w5.setCell ⟨bs, 1, none⟩ (.slice none 0 0) = W6 at HK6 ⊢; clear z9 z8 q4' qk' hct'; go_loopw [14] (fun i wr2 => ∃ (j : Nat), j ≤ NL ∧ i = .int .i64 j ∧ Hid (RoJ w1 wr2 bq bs (.slice none 0 0) [] ∧ ChsV wr2 (fun x => x < wr2.heap.size) (.slice la NL lc) l ∧ snapOk [] (l.take j) = true)) (fun i _ => NL - (intOf i).toNat)
              case atStart => exact ⟨0, Nat.zero_le _, rfl, HK6.out.1, HK6.out.2, rfl⟩
              case round =>
               obtain ⟨j, hjN, rfl, HJ2⟩ := hrel; by_cases hjl : j < NL
               · have hji : (j : Int) < NL := by omega
                 obtain ⟨c, hc⟩ : ∃ c, l[j]? = some c := ⟨_, List.getElem?_eq_getElem (by have := HNL.out; omega)⟩
                 obtain ⟨g, o, vk, vv, hla, hg, p0, p1, p2, hvk, hvv⟩ := HJ2.out.2.1.at hc; subst hla; obtain ⟨ak, ck, rfl⟩ := hvk.is.form'; obtain ⟨nk, hnk⟩ : ∃ nk, nk = c.key.length := ⟨_, rfl⟩
                 obtain ⟨cg, hcg⟩ : ∃ cg, cg = c.gone := ⟨_, rfl⟩
                 rw [← hnk] at p0 hvk; rw [← hcg] at p2; have hsn := snap_next hc HJ2.out.2.2; rw [← hcg] at hsn; have HC2 : Hid (l[j]? = some c ∧ snapOk [] (l.take (j + 1)) = (!cg && bytesBefore (lastK [] (l.take j)) (kS c.key)) ∧ KBD wr (fun x => x < wr.heap.size) (.slice ak nk ck) c.key ∧ 1 ≤ c.key.length) := ⟨hc, hsn, hvk, (HOK.out.1.1 c (List.mem_of_getElem? hc)).1.1⟩
                 clear hc hg p1 hvk hvv hnk hcg hsn; cases cg with
                 | true =>
                   go_wp2_with fail
                   go_quiet (fail)
                   have HN2 : Hid (Below w1.heap.size w1 (wr.drewN nq)) := HJ2.out.1.bel.trans ((below_drewN' wr nq).mono HJ2.out.1.bel.size); generalize wr.drewN nq = W9 at HN2 ⊢; clear p0 p2; go_wp2; go_ret2; exact ⟨0, bq, Q, w1, HX.out.1, HN2.out, Or.inr (Or.inl ⟨rfl, opK_stop HL.out.1 (chK_snap HOK.out.1.1 HOK.out.2.1 (snap_take (j := j + 1) (by rw [HC2.out.2.1]; rfl))), rfl⟩)⟩
                 | false =>
                   cases j with
                   | zero =>
                     go_wp2_with fail
                     go_quiet (fail)
                     have HN2 : Hid (RoJ w1 (wr.drewN nq) bq bs (.slice none 0 0) [] ∧ ChsV (wr.drewN nq) (fun x => x < (wr.drewN nq).heap.size) (.slice (some ⟨g, o, none⟩) NL lc) l) := ⟨HJ2.out.1.below (below_drewN' _ _), HJ2.out.2.1.up (below_drewN' _ _)⟩
                     generalize wr.drewN nq = W9 at HN2 ⊢; clear p0 p2; go_wp2; go_roundw
                     case rel => exact ⟨1, by omega, rfl, HN2.out.1, HN2.out.2, by rw [HC2.out.2.1]; simp [lastK, bef_nil HC2.out.2.2.2]⟩
                     case measure => simp [intOf]; omega
                   | succ i =>
                     obtain ⟨d, hd⟩ : ∃ d, l[i]? = some d := ⟨_, List.getElem?_eq_getElem (by have := HNL.out; omega)⟩
                     obtain ⟨g2, o2, dk, dv, hla2, hg2, r0, r1, r2, hdk, hdv⟩ := HJ2.out.2.1.at hd; injection hla2 with hla2
                     injection hla2 with e1 e2 _
                     subst e1; subst e2; obtain ⟨bk, dc, rfl⟩ := hdk.is.form'; obtain ⟨mk2, hmk⟩ : ∃ mk2, mk2 = d.key.length := ⟨_, rfl⟩
                     rw [← hmk] at r0 hdk; have hii : (0 : Int) < (i : Int) + 1 := by omega
                     have hil : (i : Int) < NL := by omega
                     obtain ⟨B, hB⟩ : ∃ B, B = bytesBefore (kS d.key) (kS c.key) := ⟨_, rfl⟩
                     have HLE : Hid (∀ k', Calls Tryz.prog 47 #[.slice bk mk2 dc, .slice ak nk ck] (wr.drewN k') fun e w' => e = .returned (.bool B) ∧ w' = wr.drewN k') := fun k' => by
                      rw [hB]; exact rless_any (hdk.is.keep fun _ _ => rfl) (HC2.out.2.2.1.is.keep fun _ _ => rfl)
                     have HSB : Hid (snapOk [] (l.take (i + 1 + 1)) = B) := by
                      show _ = _; rw [HC2.out.2.1, last_take hd, hB]; rfl
                     clear hd hg2 r1 r2 hdk hdv hmk hB; cases B with
                     | true =>
                       go_wp2_with fail
                       go_quiet (first
                        | (go_at_call 47
                           exact Calls.quiet_of_same (HLE.out _)))
                       have HN2 : Hid (RoJ w1 (wr.drewN nq) bq bs (.slice none 0 0) [] ∧ ChsV (wr.drewN nq) (fun x => x < (wr.drewN nq).heap.size) (.slice (some ⟨g, o, none⟩) NL lc) l) := ⟨HJ2.out.1.below (below_drewN' _ _), HJ2.out.2.1.up (below_drewN' _ _)⟩
                       generalize wr.drewN nq = W9 at HN2 ⊢; clear p0 p2 r0 HLE; go_wp2; go_roundw
                       case rel => exact ⟨i + 1 + 1, by omega, by go_num, HN2.out.1, HN2.out.2, HSB.out⟩
                       case measure => simp [intOf]; omega
                     | false =>
                       go_wp2_with fail
                       go_quiet (first
                        | (go_at_call 47
                           exact Calls.quiet_of_same (HLE.out _)))
                       have HN2 : Hid (Below w1.heap.size w1 (wr.drewN nq)) := HJ2.out.1.bel.trans ((below_drewN' wr nq).mono HJ2.out.1.bel.size); generalize wr.drewN nq = W9 at HN2 ⊢; clear p0 p2 r0 HLE; go_wp2; go_ret2; exact ⟨0, bq, Q, w1, HX.out.1, HN2.out, Or.inr (Or.inl ⟨rfl, opK_stop HL.out.1 (chK_snap HOK.out.1.1 HOK.out.2.1 (snap_take (j := i + 1 + 1) HSB.out)), rfl⟩)⟩
               · have hji : decide ((j : Int) < NL) = false := by simp; omega
                 have HSN : Hid (snapOk [] l = true) := by
                  have h9 := HJ2.out.2.2; rw [List.take_of_length_le (by have := HNL.out; omega)] at h9; exact h9
                 obtain ⟨S0, hS0⟩ : ∃ S0 : List (List UInt8 × List Int), S0 = [] := ⟨_, rfl⟩
                 have HSR : Hid (SrtG S0 ∧ S0.length + l.length ≤ 2000000000000) := ⟨by rw [hS0]; exact List.Pairwise.nil, by rw [hS0]; have h6 := HOK.out.2.2; simp; omega⟩
                 have HST : Hid (opK ((Q.rs.map (·.2)).take (k + 1)) = some (doPs S0 l) ∧ S0.length + l.length ≤ s.length + 9363) := ⟨by rw [hS0]; exact opK_next HL.out.1 HK.out.2.1 (p := (true, l)) (by rw [chK_enc HOK.out.1.1 HOK.out.2.1, if_neg (by decide), if_pos ⟨rfl, HSN.out⟩]), by rw [hS0]; have h6 := HOK.out.2.2; simp; omega⟩
                 have HK7 : Hid (RoJ w1 wr bq bs (.slice none 0 0) S0 ∧ ChsV wr (fun x => x < wr.heap.size) (.slice la NL lc) l) := by rw [hS0]; exact ⟨HJ2.out.1, HJ2.out.2.1⟩
                 clear hS0; go_wp2_with fail; go_loopw [15] (fun i wr => ∃ (j : Nat) (v3 : Value), j ≤ NL ∧ i = .int .i64 j ∧ Hid (RoJ w1 wr bq bs v3 (doPs S0 (l.take j)) ∧ ChsV wr (fun x => x < wr.heap.size) (.slice la NL lc) l)) (fun i _ => NL - (intOf i).toNat)
                 case atStart => exact ⟨0, _, Nat.zero_le _, rfl, by simpa [doPs] using HK7.out.1, HK7.out.2⟩
                 case round =>
                  obtain ⟨j, v3, hjN, rfl, HJ3⟩ := hrel; by_cases hjl : j < NL
                  · have hji : (j : Int) < NL := by omega
                    obtain ⟨c, hc⟩ : ∃ c, l[j]? = some c := ⟨_, List.getElem?_eq_getElem (by have := HNL.out; omega)⟩
                    obtain ⟨g, o, vk, vv, hla, hg, p0, p1, p2, hvk, hvv⟩ := HJ3.out.2.at hc; subst hla; obtain ⟨ak, ck, rfl⟩ := hvk.is.form'; obtain ⟨av, cv, rfl⟩ := hvv.is.form'; obtain ⟨nk, hnk⟩ : ∃ nk, nk = c.key.length := ⟨_, rfl⟩
                    obtain ⟨nv, hnv⟩ : ∃ nv, nv = c.val.length := ⟨_, rfl⟩
                    obtain ⟨cg, hcg⟩ : ∃ cg, cg = c.gone := ⟨_, rfl⟩
                    rw [← hnk] at p0 hvk; rw [← hnv] at p1 hvv; rw [← hcg] at p2; obtain ⟨va3, vn3, vc3, hv3⟩ := HJ3.out.1.vs; subst hv3; have hS0 : (fun w' => w'.cell? ⟨g, o + j * 3, none⟩ = some (.slice ak nk ck) ∧ w'.cell? ⟨g, o + j * 3 + 1, none⟩ = some (.slice av nv cv) ∧ w'.cell? ⟨g, o + j * 3 + 2, none⟩ = some (.bool cg)) wr.drew := ⟨p0, p1, p2⟩
                    have HKV : Hid (KBD wr (fun x => x < wr.heap.size) (.slice ak nk ck) c.key ∧ KBD wr (fun x => x < wr.heap.size) (.slice av nv cv) c.val ∧ KByt c.key ∧ cg = c.gone ∧ l[j]? = some c) := ⟨hvk, hvv, (HOK.out.1.2 c (List.mem_of_getElem? hc)).1, hcg, hc⟩
                    have h6 := doPs_len S0 (l.take j); have h5 : (l.take j).length ≤ l.length := by rw [List.length_take]; omega
                    have h4 := HSR.out.2; have HD3 : Hid (SrtG (doPs S0 (l.take j)) ∧ (doPs S0 (l.take j)).length ≤ 2000000000000) := ⟨srt_doPs _ HSR.out.1, by omega⟩
                    clear h6 h5 h4; clear hc hg p0 p1 p2 hvk hvv hnk hnv hcg; go_wp2_with fail; refine wp_noP ?_; refine wp_region_held_drew (S := fun w' => w'.cell? ⟨g, o + j * 3, none⟩ = some (.slice ak nk ck) ∧ w'.cell? ⟨g, o + j * 3 + 1, none⟩ = some (.slice av nv cv) ∧ w'.cell? ⟨g, o + j * 3 + 2, none⟩ = some (.bool cg)) (by kernel_rfl) hS0 (fun hHeld => ?_); have HJU : Hid (RoJ w1 wr.drew bq bs (.slice va3 vn3 vc3) (doPs S0 (l.take j)) ∧ ChsV wr.drew (fun x => x < wr.drew.heap.size) (.slice (some ⟨g, o, none⟩) NL lc) l ∧ KBD wr.drew (fun x => x < wr.drew.heap.size) (.slice ak nk ck) c.key ∧ KBD wr.drew (fun x => x < wr.drew.heap.size) (.slice av nv cv) c.val) := ⟨HJ3.out.1.below ⟨rfl, rfl, rfl, Nat.le_refl _, fun _ _ => rfl⟩, HJ3.out.2.mono (fun _ _ => rfl) (fun _ h => h), HKV.out.1.mono (fun _ _ => rfl) (fun _ h => h), HKV.out.2.1.mono (fun _ _ => rfl) (fun _ h => h)⟩
                    generalize wr.drew = U at HJU hHeld ⊢; clear hS0; refine tk 0 (.pointer (some ⟨bs, 0, none⟩)) (fun w9 hSw => ?_) hHeld ?_
                    · go_simp
                    simp only [sm]; refine tk 1 (.pointer (some ⟨bs, 0, none⟩)) (fun w9 hSw => ?_) hHeld ?_
                    · go_simp
                    simp only [sm]; refine tk 2 (.pointer (some ⟨bs, 0, none⟩)) (fun w9 hSw => ?_) hHeld ?_
                    · go_simp
                    simp only [sm]; refine tk 3 (.pointer (some ⟨bs, 1, none⟩)) (fun w9 hSw => ?_) hHeld ?_
                    · go_simp
                    simp only [sm]; refine tk 5 (.slice (some ⟨g, o, none⟩) NL lc) (fun w9 hSw => ?_) hHeld ?_
                    · go_simp
                    simp only [sm]; refine tk 6 (.int .i64 j) (fun w9 hSw => ?_) hHeld ?_
                    · go_simp
                    simp only [sm]; refine tk 7 (.pointer (some ⟨g, o + j * 3, none⟩)) (fun w9 hSw => ?_) hHeld ?_
                    · go_simp
                    simp only [sm]; refine tk 8 (.agg #[.slice ak nk ck, .slice av nv cv, .bool cg]) (fun w9 hSw => ?_) hHeld ?_
                    · have y0 := hSw.1
                      have y1 := hSw.2.1; have y2 := hSw.2.2; go_simp
                    simp only [sm]; refine rd 4 (fun K hK => ?_); have z9 : U.cell? ⟨bs, 1, none⟩ = some (.slice va3 vn3 vc3) := (cell_of_block HJU.out.1.st 1).trans rfl; go_simp; refine hK.out _ _ hHeld (fun hHeld => ?_); clear hK K z9; try simp only [sm]
                    refine rd 9 (fun K hK => ?_); go_simp; have HDN := done_any (vk := .slice ak nk ck) (vv := .slice av nv cv) (c := c) HJU.out.1.lst HD3.out.1 HD3.out.2 HJU.out.2.2.1 HJU.out.2.2.2 HKV.out.2.2.1; rw [← HKV.out.2.2.2.1] at HDN; refine Calls.mono HDN ?_; rintro e U2 ⟨v4, rfl, hch4, hb4⟩; obtain ⟨va4, vc4, hv4, _⟩ := hch4.form; rw [List.length_map] at hv4; subst hv4; have HU2 : Hid (RoJ w1 U2 bq bs (.slice va3 vn3 vc3) (doPs S0 (l.take j)) ∧ ChsV U2 (fun x => x < U2.heap.size) (.slice (some ⟨g, o, none⟩) NL lc) l ∧ ChsV U2 (fun x => x < U2.heap.size) (.slice va4 (doP (doPs S0 (l.take j)) c).length vc4) ((doP (doPs S0 (l.take j)) c).map toCh)) := ⟨HJU.out.1.below hb4, HJU.out.2.1.up hb4, hch4⟩
                    obtain ⟨n4, hn4⟩ : ∃ n4, n4 = (doP (doPs S0 (l.take j)) c).length := ⟨_, rfl⟩
                    rw [← hn4] at HU2 ⊢; clear hn4; have hH2 : (fun w' => w'.cell? ⟨g, o + j * 3, none⟩ = some (.slice ak nk ck) ∧ w'.cell? ⟨g, o + j * 3 + 1, none⟩ = some (.slice av nv cv) ∧ w'.cell? ⟨g, o + j * 3 + 2, none⟩ = some (.bool cg)) U2 := ⟨(hb4.cell (p := ⟨g, o + j * 3, none⟩) (cell_lt hHeld.1)).trans hHeld.1, (hb4.cell (p := ⟨g, o + j * 3 + 1, none⟩) (cell_lt hHeld.2.1)).trans hHeld.2.1, (hb4.cell (p := ⟨g, o + j * 3 + 2, none⟩) (cell_lt hHeld.2.2)).trans hHeld.2.2⟩
                    go_wp2_with fail
                    refine hK.out _ _ hH2 (fun hHeld => ?_); clear hK K hb4 hch4 hH2 HJU HDN; try simp only [sm]
                    refine tk 10 (.pointer (some ⟨bs, 0, none⟩)) (fun w9 hSw => ?_) hHeld ?_
                    · go_simp
                    simp only [sm]; refine tk 11 (.pointer (some ⟨bs, 1, none⟩)) (fun w9 hSw => ?_) hHeld ?_
                    · go_simp
                    simp only [sm]; refine rd 12 (fun K hK => ?_); have z9 : U2.cell? ⟨bs, 1, none⟩ = some (.slice va3 vn3 vc3) := (cell_of_block HU2.out.1.st 1).trans rfl; have z8 : U2.frozen? ⟨bs, 1, none⟩ = false := unfrozen_of_block HU2.out.1.st 1; go_simp; have HE4 : Hid (RoJ w1 (U2.setCell ⟨bs, 1, none⟩ (.slice va4 n4 vc4)) bq bs (.slice va4 n4 vc4) (doPs S0 (l.take (j + 1))) ∧ ChsV (U2.setCell ⟨bs, 1, none⟩ (.slice va4 n4 vc4)) (fun x => x < (U2.setCell ⟨bs, 1, none⟩ (.slice va4 n4 vc4)).heap.size) (.slice (some ⟨g, o, none⟩) NL lc) l) := ⟨by rw [doPs_snoc HKV.out.2.2.2.2]; exact HU2.out.1.store HU2.out.2.2, HU2.out.1.chs HU2.out.2.1⟩
                    have hgl : g ≠ bs := by
                     obtain ⟨g', o', _, _, e9, hd9, _⟩ := (chs_off HU2.out.2.1 HU2.out.1.vs HU2.out.1.st).at HKV.out.2.2.2.2; injection e9 with e9
                     injection e9 with e9 _ _
                     rw [e9]; exact hd9.2
                    have hH2 : (fun w' => w'.cell? ⟨g, o + j * 3, none⟩ = some (.slice ak nk ck) ∧ w'.cell? ⟨g, o + j * 3 + 1, none⟩ = some (.slice av nv cv) ∧ w'.cell? ⟨g, o + j * 3 + 2, none⟩ = some (.bool cg)) (U2.setCell ⟨bs, 1, none⟩ (.slice va4 n4 vc4)) := ⟨(World.cell?_of_block (a := ⟨g, o + j * 3, none⟩) (Below.heap_setCell _ _ _ _ hgl)).trans hHeld.1, (World.cell?_of_block (a := ⟨g, o + j * 3 + 1, none⟩) (Below.heap_setCell _ _ _ _ hgl)).trans hHeld.2.1, (World.cell?_of_block (a := ⟨g, o + j * 3 + 2, none⟩) (Below.heap_setCell _ _ _ _ hgl)).trans hHeld.2.2⟩
                    refine hK.out _ _ hH2 (fun hHeld => ?_); clear hK K hH2 z9 z8 hgl; try simp only [sm]
                    refine wpAnyH_done (by kernel_rfl) ?_ _; simp only [noP]; clear hHeld HU2; go_wp2; go_roundw
                    case rel => exact ⟨j + 1, _, by omega, by go_num, HE4.out⟩
                    case measure => simp [intOf]; omega
                  · have hji : decide ((j : Int) < NL) = false := by simp; omega
                    have HE3 : Hid (l.take j = l) := by show _ = _; rw [List.take_of_length_le]; have := HNL.out; omega
                    go_wp2; go_roundw
                    case rel => exact ⟨k + 1, _, v3, by omega, by go_num, by have h9 := HJ3.out.1; rw [HE3.out] at h9; exact h9, HST.out.1, by have h7 := HST.out.2; have h8 := HK.out.2.2; have h6 := doPs_len S0 l; omega⟩
                    case measure => simp [intOf]; omega
          · clear q4 qk
            have HNO : Hid (∀ l, okL l → encK l ≠ b) := hno; clear hno hb5 HUB; go_wp2; go_ret2; exact ⟨0, bq, Q, w1, HX.out.1, HK5.out.2, Or.inr (Or.inl ⟨rfl, opK_stop HL.out.1 (chK_rot HNB.out.2 HNO.out), rfl⟩)⟩
    · have hki : decide ((k : Int) < N) = false := by simp; omega
      go_wp2; go_ret2
      refine ⟨0, bq, Q, w1, HX.out.1, HK.out.1.bel, Or.inr (Or.inr ⟨rfl, bs, v, s, ?_, rfl, HK.out.1⟩)⟩; have h9 := HK.out.2.1; rw [List.take_of_length_le (by rw [List.length_map]; have := HN.out; omega)] at h9; exact h9
end Go.Proofs.YtconkienlcegaaaGreatDoor
