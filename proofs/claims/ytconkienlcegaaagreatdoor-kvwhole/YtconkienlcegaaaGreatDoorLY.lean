/- kv: Open of a log of any records. -/
import Derived.Test.YtconkienlcegaaaGreatDoorLV
import Derived.Test.YtconkienlcegaaaGreatDoorLS
import Derived.Test.YtconkienlcegaaaGreatDoorGNG
namespace Go.Proofs.YtconkienlcegaaaGreatDoor
open Go.RowKit Go.Maps Go.Joins Go.Shelf
set_option linter.unusedSimpArgs false
set_option linter.unusedVariables false
theorem chK_high {t : Int} (h : 1 < t) (b : List Int) : chK (t :: b) = none := by
 unfold chK; cases hu : unK b.length b with
 | none => simp only [hu]
 | some l =>
   simp only [hu]; rw [if_neg (by omega), if_neg (by omega)]
/-- sound -/
theorem sound_any {w : World} {a : Option Addr} {cap : Nat} {r : List Int} (hr : BytesV w (.slice a r.length cap) r) (hkb : KByt r) (hc : r.length ≤ cap) (hm : cap ≤ 9223372036854775807) (hlen : r.length ≤ 140737488355328) :
 Calls Tryz.prog 44 #[.slice a r.length cap] w fun e w' => e = .returned (.bool (chK r).isSome) ∧ Below w.heap.size w w' := by
 cases r with
 | nil => exact sound_nil a cap
 | cons t b =>
   obtain ⟨g, o, rfl, _⟩ := hr.at (k := 0) (x := t) rfl; have h0 := hkb t (by simp); rw [List.length_cons] at hr hc hlen ⊢; by_cases h1 : 1 < t
   · rw [chK_high h1]
     exact sound_high hr h1
   · exact sound_low (by omega) hr (fun c hc => hkb c (List.mem_cons_of_mem _ hc)) hc hm hlen
/-- do -/
theorem do_any {w : World} {b bl : Nat} {br : Bool} {bm : Nat} {m : List (List UInt8 × Value × List Int)} {D : Nat → Prop} (h : KS w D b bl br bm m) (hD : ∀ x, D x → x < w.heap.size) {a : Option Addr} {cap : Nat} {r : List Int} {p : Bool × List Ch} (hp : chK r = some p) (hr : BytesV w (.slice a r.length cap) r) (hkb : KByt r) (hc : r.length ≤ cap) (hm : cap ≤ 9223372036854775807) (hlen : r.length ≤ 140737488355328) (hml : m.length ≤ 4611686018427387904) :
 Calls Tryz.prog 45 #[.pointer (some ⟨b, 0, none⟩), .slice a r.length cap] w fun e w' => e = .returned (.tuple #[]) ∧ w.grownBy w' (some bm) ∧ ∃ m', KS w' (fun x => D x ∨ (w.heap.size ≤ x ∧ x < w'.heap.size)) b bl br bm m' ∧ mk m' = stepK (mk m) p ∧ m'.length ≤ m.length + p.2.length := by
 obtain ⟨sn, l⟩ := p; obtain ⟨hok, hre, _⟩ := chK_some hkb hp; cases sn with
 | false =>
   have hre : r = 0 :: encK l := hre; subst hre; obtain ⟨g, o, rfl, _⟩ := hr.at (k := 0) (x := 0) rfl; rw [List.length_cons] at hr hc hlen ⊢; refine (do_batch h hD hr hok.1 (fun c hc => hkb c (List.mem_cons_of_mem _ hc)) hc hm hlen hml).mono ?_; rintro e w' ⟨rfl, hg, m', hk, h1, h2⟩; exact ⟨rfl, hg, m', hk, h1, h2⟩
 | true =>
   have hre : r = 1 :: encK l := hre; subst hre; obtain ⟨g, o, rfl, _⟩ := hr.at (k := 0) (x := 1) rfl; rw [List.length_cons] at hr hc hlen ⊢; refine (do_snap h hD hr hok.1 (fun c hc => hkb c (List.mem_cons_of_mem _ hc)) hc hm hlen).mono ?_; rintro e w' ⟨rfl, hg, m', hk, h1, h2⟩; exact ⟨rfl, hg, m', hk, h1, by show m'.length ≤ m.length + l.length; omega⟩
theorem encK_ge7 : ∀ {l : List Ch}, okL l → l.length * 7 ≤ (encK l).length
 | [], _ => Nat.le_refl _
 | c :: r, h => by
   have h1 := encK_ge7 (l := r) (fun x hx => h x (List.mem_cons_of_mem _ hx)); have h2 := (h c (by simp)).1.1; rw [encK_cons, List.length_append, encC_length, List.length_cons]; omega
theorem chK_len {r : List Int} (hkb : KByt r) {p : Bool × List Ch} (hp : chK r = some p) : p.2.length * 7 ≤ r.length := by
 obtain ⟨sn, l⟩ := p; obtain ⟨hok, hre, _⟩ := chK_some hkb hp; have := encK_ge7 hok.1; rw [hre, List.length_cons]; show l.length * 7 ≤ _; omega
/-- A store that is being opened: the log stays, all else is new. -/
structure KoJ (w1 w : World) (bl b bm : Nat) (L : LS) (m : List (List UInt8 × Value × List Int)) : Prop where
 log : LogIs w bl L
 bel : Below w1.heap.size w1 w
 ks : KS w (fun x => w1.heap.size ≤ x ∧ x < w.heap.size) b bl false bm m
theorem KoJ.below {w1 w w' : World} {bl b bm : Nat} {L : LS} {m : List (List UInt8 × Value × List Int)} (h : KoJ w1 w bl b bm L m) (hb : Below w.heap.size w w') : KoJ w1 w' bl b bm L m :=
 ⟨h.log.below hb, h.bel.trans (hb.mono h.bel.size), h.ks.mono (fun x hx => hb.block x hx.2) (fun x hx => ⟨hx.1, Nat.lt_of_lt_of_le hx.2 hb.size⟩)⟩
theorem KoJ.did {w1 w w' : World} {bl b bm : Nat} {L : LS} {m m' : List (List UInt8 × Value × List Int)} (h : KoJ w1 w bl b bm L m) (hL : LogIs w1 bl L) (hg : w.grownBy w' (some bm)) (hk : KS w' (fun x => (w1.heap.size ≤ x ∧ x < w.heap.size) ∨ (w.heap.size ≤ x ∧ x < w'.heap.size)) b bl false bm m') : KoJ w1 w' bl b bm L m' := by
 have hb : Below w1.heap.size w1 w' := h.bel.grown hg h.bel.size (fun j hj => by cases hj; exact h.ks.dm.1); refine ⟨hL.below hb, hb, hk.mono (fun _ _ => rfl) (fun x hx => ?_)⟩; have := hg.size; have := h.bel.size; rcases hx with hx | hx
 · exact ⟨hx.1, by omega⟩
 · exact ⟨by omega, hx.2⟩
theorem KoJ.made {w : World} {bl : Nat} {L : LS} (h : LogIs w bl L) : KoJ w ((w.alloc (.map #[] 0)).alloc (.cells #[.pointer (some ⟨bl, 0, none⟩), .map (some w.heap.size), .bool false] 96)) bl (w.heap.size + 1) w.heap.size L [] := by
 have hb : Below w.heap.size w ((w.alloc (.map #[] 0)).alloc (.cells #[.pointer (some ⟨bl, 0, none⟩), .map (some w.heap.size), .bool false] 96)) := by go_grown
 have hst : ((w.alloc (.map #[] 0)).alloc (.cells #[.pointer (some ⟨bl, 0, none⟩), .map (some w.heap.size), .bool false] 96)).heap[w.heap.size + 1]? = some (.cells #[.pointer (some ⟨bl, 0, none⟩), .map (some w.heap.size), .bool false] 96) := by
  have := heap_alloc_new (w.alloc (.map #[] 0)) (.cells #[.pointer (some ⟨bl, 0, none⟩), .map (some w.heap.size), .bool false] 96)
  simpa using this
 have hmp : ((w.alloc (.map #[] 0)).alloc (.cells #[.pointer (some ⟨bl, 0, none⟩), .map (some w.heap.size), .bool false] 96)).heap[w.heap.size]? = some (.map #[] 0) := (heap_alloc_old _ _ _ (by simp)).trans (heap_alloc_new _ _); refine ⟨h.below hb, hb, ⟨hst, ownsMap_heap (World.ownsMap_made w _ _ _) ?_, fun p hp => (by cases hp), ⟨by omega, by simp⟩, ⟨by omega, by simp; omega⟩⟩⟩; exact hmp.trans (heap_alloc_new _ _).symm
/-- What Open tells. -/
def KoR (c : Int) (L : LS) (w1 w' : World) (bl : Nat) (e : Ending) : Prop :=
 (c ≠ 0 ∧ e = .returned (.tuple #[.pointer none, .int .i64 c])) ∨ (c = 0 ∧ opK (L.rs.map (·.2)) = none ∧ e = .returned (.tuple #[.pointer none, .int .i64 34])) ∨ (c = 0 ∧ ∃ b bm m, opK (L.rs.map (·.2)) = some (mk m) ∧ m.length ≤ 2000000000000 ∧ e = .returned (.tuple #[.pointer (some ⟨b, 0, none⟩), .int .i64 0]) ∧ KoJ w1 w' bl b bm L m)
def LgK (w1 : World) (bl : Nat) (L : LS) : Prop := LogIs w1 bl L ∧ LN L ∧ L.rs.length ≤ 134217728 ∧ ∀ p ∈ L.rs, KByt p.2 ∧ p.2.length ≤ 65536
set_option maxRecDepth 100000 in
set_option maxHeartbeats 8000000 in
theorem kopen_gen {w : World} {bd : Nat} {most : Int} {X : Int → Nat → LS → World → Prop}
 (HO : Calls Tryz.prog 40 #[.pointer (some ⟨bd, 0, none⟩), .string logB, .int .i64 most] w fun e w' => ∃ c bl L, e = .returned (.tuple #[if c = 0 then .pointer (some ⟨bl, 0, none⟩) else .pointer none, .int .i64 c]) ∧ X c bl L w' ∧ (c = 0 → LgK w' bl L)) :
 Calls Tryz.prog 11 #[.pointer (some ⟨bd, 0, none⟩), .string logB, .int .i64 most] w fun e w' => ∃ c bl L w1, X c bl L w1 ∧ Below w1.heap.size w1 w' ∧ KoR c L w1 w' bl e := by
 have HO : Hid _ := HO; have hmk := fun w => run_makeMap (P := Tryz.prog) 94 w
 have T1 : Hid True := trivial; go_enter Tryz.func11, Tryz.ntmps11; go_wp2_with fail; refine Calls.mono HO.out ?_; rintro e w1 ⟨c, bl, L, rfl, hx, hlg⟩; by_cases hc : c = 0; rotate_left
 · rw [if_neg hc]
   have HX : Hid (X c bl L w1) := hx; have HC : Hid (c ≠ 0) := hc; have hcb : (c == 0) = false := by simpa using hc
   clear hx hlg; go_wp2; go_ret2; exact ⟨c, bl, L, w1, HX.out, Below.refl _ _, Or.inl ⟨HC.out, rfl⟩⟩
 · subst hc
   rw [if_pos rfl]; have HX : Hid (X 0 bl L w1 ∧ LgK w1 bl L) := ⟨hx, hlg rfl⟩
   have HM : Hid (KoJ w1 ((w1.alloc (.map #[] 0)).alloc (.cells #[.pointer (some ⟨bl, 0, none⟩), .map (some w1.heap.size), .bool false] 96)) bl (w1.heap.size + 1) w1.heap.size L []) := KoJ.made (hlg rfl).1; clear hx hlg HO; have T2 : Hid True := trivial; go_wp2_with (first
    | (have _ := T2
       go_at_call 41
       clear T2; refine Calls.mono (first_any HM.out.log) ?_; rintro e w2 ⟨rfl, hw2⟩; obtain rfl := hw2.symm))
   obtain ⟨hF0, hF1⟩ := HX.out.2.2.1.fst; have hnl := HX.out.2.2.2.1; obtain ⟨F, hF⟩ : ∃ F, F = fst L := ⟨_, rfl⟩
   obtain ⟨N, hN⟩ : ∃ N, N = L.rs.length := ⟨_, rfl⟩
   rw [← hF] at hF0 hF1 ⊢; rw [← hN] at hnl; have HF : Hid (F = fst L ∧ N = L.rs.length ∧ endL L = F + N) := ⟨hF, hN, by unfold endL; rw [← hF, ← hN]⟩
   clear hF hN; obtain ⟨b, hb⟩ : ∃ b, b = w1.heap.size + 1 := ⟨_, rfl⟩
   obtain ⟨bm, hbm⟩ : ∃ bm, bm = w1.heap.size := ⟨_, rfl⟩
   have HM2 : Hid (KoJ w1 ((w1.alloc (.map #[] 0)).alloc (.cells #[.pointer (some ⟨bl, 0, none⟩), .map (some w1.heap.size), .bool false] 96)) bl (w1.heap.size + 1) w1.heap.size L []) := HM.out; clear HM; have HZ : Hid (∃ W2, KoJ w1 W2 bl b bm L [] ∧ W2 = (w1.alloc (.map #[] 0)).alloc (.cells #[.pointer (some ⟨bl, 0, none⟩), .map (some bm), .bool false] 96)) := by
    have := HM2.out; rw [← hb, ← hbm] at this; exact ⟨_, this, rfl⟩
   obtain ⟨W2, hW2, hWe⟩ := HZ.out; have HW2 : Hid (KoJ w1 W2 bl b bm L []) := hW2; rw [← hbm] at hb ⊢; rw [← hb, ← hWe]; clear hb hbm hW2 hWe HZ HM2; go_loopw [11] (fun i wr => ∃ (k : Nat) (m : List (List UInt8 × Value × List Int)), k ≤ N ∧ i = .int .i64 (F + k) ∧ Hid (KoJ w1 wr bl b bm L m ∧ opK ((L.rs.map (·.2)).take k) = some (mk m) ∧ m.length ≤ k * 9363)) (fun i _ => (F + N - intOf i).toNat)
   case atStart => exact ⟨0, [], by omega, by simp, HW2.out, by simp [opK, mk, mapG], by simp⟩
   case round =>
    obtain ⟨k, m, hk, rfl, HK⟩ := hrel; have T3 : Hid True := trivial; by_cases hlt : k < N
    · obtain ⟨p, hp⟩ : ∃ p, L.rs[k]? = some p := ⟨_, List.getElem?_eq_getElem (by have := HF.out.2.1; omega)⟩
      have hpb := HX.out.2.2.2.2 p (List.mem_of_getElem? hp); have HL : Hid (L.rs[k]? = some p ∧ KByt p.2 ∧ p.2.length ≤ 65536 ∧ (L.rs.map (·.2))[k]? = some p.2) := ⟨hp, hpb.1, hpb.2, by rw [List.getElem?_map, hp]; rfl⟩
      clear hp hpb; have hki : (k : Int) < N := by omega
      obtain ⟨R, hR⟩ : ∃ R, R = chK p.2 := ⟨_, rfl⟩
      have HRR : Hid (R = chK p.2) := hR; clear hR; cases R with
      | none =>
        go_wp2_with (first
         | (have _ := T3
            go_at_call 42
            clear T3; refine Calls.mono (end_any HK.out.1.log HX.out.2.2.1) ?_; rintro e w3 ⟨rfl, q3, rfl⟩; rw [HF.out.2.2]; have HK3 : Hid (KoJ w1 (wr.drewN q3) bl b bm L m) := HK.out.1.below ⟨rfl, rfl, rfl, Nat.le_refl _, fun _ _ => rfl⟩; have T4 : Hid True := trivial)
         | (have _ := T4
            go_at_call 43
            clear T4; refine Calls.mono (get_here HK3.out.log HX.out.2.2.1 k (F + k) (by rw [HF.out.1]) HL.out.1 (by have := HL.out.2.2.1; omega)) ?_; rintro e w4 ⟨v4, rfl, hrow, hb4⟩; have hbv : BytesV w4 v4 p.2 := BytesV.of_own hrow; obtain ⟨a4, c4, hv4⟩ := row_form hrow; subst hv4; have hcc : p.2.length ≤ c4 ∧ c4 ≤ 9223372036854775807 := by
             rcases hrow.2 with ⟨e1, h0⟩ | ⟨g, cap, cur, e1, _, _, h1, h2, _⟩
             · injection e1 with _ _ e3
               omega
             · injection e1 with _ _ e3
               unfold maxLen at h2; omega
            have H4 : Hid (KoJ w1 w4 bl b bm L m ∧ BytesV w4 (.slice a4 p.2.length c4) p.2 ∧ p.2.length ≤ c4 ∧ c4 ≤ 9223372036854775807) := ⟨HK3.out.below hb4, hbv, hcc.1, hcc.2⟩
            have HS : Hid (∀ (_ : Unit), _) := fun _ => sound_any hbv HL.out.2.1 hcc.1 hcc.2 (by have := HL.out.2.2.1; omega)
            rw [← HRR.out] at HS; obtain ⟨n4, hn4⟩ : ∃ n4, n4 = p.2.length := ⟨_, rfl⟩
            rw [← hn4] at HS H4 ⊢; have HN4 : Hid (n4 = p.2.length) := hn4; clear hrow hb4 hbv hcc hn4; have T5 : Hid True := trivial)
         | (have _ := T5
            go_at_call 44
            clear T5; refine Calls.mono (HS.out ()) ?_; rintro e w5 ⟨rfl, hb5⟩; have hbv : BytesV w5 (.slice a4 n4 c4) p.2 := H4.out.2.1.keep fun x hx => hb5.block x (H4.out.2.1.lt x hx)
            have H5 : Hid (KoJ w1 w5 bl b bm L m ∧ BytesV w5 (.slice a4 n4 c4) p.2) := ⟨H4.out.1.below hb5, hbv⟩
            clear hb5 hbv HS))
        go_ret2; exact ⟨0, bl, L, w1, HX.out.1, H5.out.1.bel, Or.inr (Or.inl ⟨rfl, opK_stop HL.out.2.2.2 HRR.out.symm, rfl⟩)⟩
      | some sl =>
        go_wp2_with (first
         | (have _ := T3
            go_at_call 42
            clear T3; refine Calls.mono (end_any HK.out.1.log HX.out.2.2.1) ?_; rintro e w3 ⟨rfl, q3, rfl⟩; rw [HF.out.2.2]; have HK3 : Hid (KoJ w1 (wr.drewN q3) bl b bm L m) := HK.out.1.below ⟨rfl, rfl, rfl, Nat.le_refl _, fun _ _ => rfl⟩; have T4 : Hid True := trivial)
         | (have _ := T4
            go_at_call 43
            clear T4; refine Calls.mono (get_here HK3.out.log HX.out.2.2.1 k (F + k) (by rw [HF.out.1]) HL.out.1 (by have := HL.out.2.2.1; omega)) ?_; rintro e w4 ⟨v4, rfl, hrow, hb4⟩; have hbv : BytesV w4 v4 p.2 := BytesV.of_own hrow; obtain ⟨a4, c4, hv4⟩ := row_form hrow; subst hv4; have hcc : p.2.length ≤ c4 ∧ c4 ≤ 9223372036854775807 := by
             rcases hrow.2 with ⟨e1, h0⟩ | ⟨g, cap, cur, e1, _, _, h1, h2, _⟩
             · injection e1 with _ _ e3
               omega
             · injection e1 with _ _ e3
               unfold maxLen at h2; omega
            have H4 : Hid (KoJ w1 w4 bl b bm L m ∧ BytesV w4 (.slice a4 p.2.length c4) p.2 ∧ p.2.length ≤ c4 ∧ c4 ≤ 9223372036854775807) := ⟨HK3.out.below hb4, hbv, hcc.1, hcc.2⟩
            have HS : Hid (∀ (_ : Unit), _) := fun _ => sound_any hbv HL.out.2.1 hcc.1 hcc.2 (by have := HL.out.2.2.1; omega)
            rw [← HRR.out] at HS; obtain ⟨n4, hn4⟩ : ∃ n4, n4 = p.2.length := ⟨_, rfl⟩
            rw [← hn4] at HS H4 ⊢; have HN4 : Hid (n4 = p.2.length) := hn4; clear hrow hb4 hbv hcc hn4; have T5 : Hid True := trivial)
         | (have _ := T5
            go_at_call 44
            clear T5; refine Calls.mono (HS.out ()) ?_; rintro e w5 ⟨rfl, hb5⟩; have hbv : BytesV w5 (.slice a4 n4 c4) p.2 := H4.out.2.1.keep fun x hx => hb5.block x (H4.out.2.1.lt x hx)
            have H5 : Hid (KoJ w1 w5 bl b bm L m ∧ BytesV w5 (.slice a4 n4 c4) p.2) := ⟨H4.out.1.below hb5, hbv⟩
            have HD : Hid (∀ (_ : Unit), _) := fun _ => do_any H5.out.1.ks (fun x hx => hx.2) HRR.out.symm (by rw [← HN4.out]; exact H5.out.2) HL.out.2.1 (by rw [← HN4.out]; exact H4.out.2.2.1) H4.out.2.2.2 (by have := HL.out.2.2.1; omega) (by have := HK.out.2.2; omega)
            rw [← HN4.out] at HD; clear hb5 hbv HS; have T6 : Hid True := trivial)
         | (have _ := T6
            go_at_call 45
            clear T6; refine Calls.mono (HD.out ()) ?_; rintro e w6 ⟨rfl, hg6, m6, hk6, hm6, hl6⟩; have HK6 : Hid (KoJ w1 w6 bl b bm L m6 ∧ opK ((L.rs.map (·.2)).take (k + 1)) = some (mk m6) ∧ m6.length ≤ (k + 1) * 9363) := ⟨H5.out.1.did HX.out.2.1 hg6 hk6, by rw [hm6]; exact opK_next HL.out.2.2.2 HK.out.2.1 HRR.out.symm, by have h7 := HK.out.2.2; have h8 := chK_len HL.out.2.1 HRR.out.symm; have h9 := HL.out.2.2.1; omega⟩
            clear hg6 hk6 hm6 hl6 HD))
        go_roundw
        case rel => exact ⟨k + 1, m6, by omega, by go_num, HK6.out⟩
        case measure => simp [intOf]; omega
    · obtain rfl : k = N := by omega
      go_wp2_with (first
       | (have _ := T3
          go_at_call 42
          clear T3; refine Calls.mono (end_any HK.out.1.log HX.out.2.2.1) ?_; rintro e w3 ⟨rfl, q3, rfl⟩; rw [HF.out.2.2]; have HK3 : Hid (KoJ w1 (wr.drewN q3) bl b bm L m) := HK.out.1.below ⟨rfl, rfl, rfl, Nat.le_refl _, fun _ _ => rfl⟩))
      go_ret2; refine ⟨0, bl, L, w1, HX.out.1, HK3.out.bel, Or.inr (Or.inr ⟨rfl, b, bm, m, ?_, by have := HK.out.2.2; omega, rfl, HK3.out⟩)⟩
      have h9 := HK.out.2.1; rw [List.take_of_length_le (by rw [List.length_map]; have := HF.out.2.1; omega)] at h9; exact h9
end Go.Proofs.YtconkienlcegaaaGreatDoor
