/- KR, KT -/
import Derived.Test.YtconkienlcegaaaGreatDoorGKQ
import Derived.Deep.RegionHeld3
namespace Go.Proofs.YtconkienlcegaaaGreatDoor
open Go.RowKit Go.Maps Go.Joins Go.Shelf
set_option linter.unusedSimpArgs false
set_option linter.unusedVariables false
theorem row_form0 {w : World} {base size n : Nat} {e : TypeId} {v : Value} {xs : List Value} (h : w.ownsRow base e size v n xs) (hn : 0 < n) : ∃ g c, v = .slice (some ⟨g, 0, none⟩) n c ∧ n ≤ c ∧ c ≤ 9223372036854775807 := by
 rcases h.2 with ⟨_, h0⟩ | ⟨g, cap, cur, rfl, _, _, h1, h2, _⟩
 · omega
 · exact ⟨g, cap, rfl, h1, by unfold maxLen at h2; omega⟩
theorem AK.lt {w0 w : World} {bd bl b bm : Nat} {S : DS} {L : LS} {A : DA} {P : PL} {br : Bool} {m : List (List UInt8 × Value × List Int)} (h : AK w0 w bd bl b bm S L A P br m) : b < w.heap.size := h.ks.db.1
theorem AK.fresh {w0 w : World} {bd bl b bm : Nat} {S : DS} {L : LS} {A : DA} {P : PL} {br : Bool} {m : List (List UInt8 × Value × List Int)} (h : AK w0 w bd bl b bm S L A P br m) (x : Nat) (hx : w.heap.size ≤ x) : S.role x = .none ∧ L.own x = 0 := ⟨h.al.dl.disk.fresh x hx, h.al.dl.log.fresh x hx⟩
theorem AK.did {w0 w w' : World} {bd bl b bm : Nat} {S : DS} {L : LS} {A : DA} {P : PL} {br : Bool} {m m' : List (List UInt8 × Value × List Int)} (h : AK w0 w bd bl b bm S L A P br m) (hg : w.grownBy w' (some bm)) (hk : KS w' (fun x => FreeD w0 w S L x ∨ (w.heap.size ≤ x ∧ x < w'.heap.size)) b bl br bm m') : AK w0 w' bd bl b bm S L A P br m' := by
 refine ⟨h.al.turn hg h.ks.dm h.v0, hk.mono (fun _ _ => rfl) (fun x hx => ?_), h.v0⟩; rcases hx with hx | hx
 · exact ⟨Nat.lt_of_lt_of_le hx.1 hg.size, hx.2⟩
 · exact ⟨hx.2, Nat.le_trans h.al.fr.size hx.1, h.fresh x hx.1⟩
set_option maxHeartbeats 4000000 in
theorem put_ok {w0 w : World} {bd bl b bm : Nat} {S : DS} {L : LS} {A : DA} {P : PL} {m : List (List UInt8 × Value × List Int)} (h : AK w0 w bd bl b bm S L A P false m) (ho : okP A P) {v : Value} {l : List Ch} (hv : ChsV w (fun x => x < w.heap.size) v l) (hl : okL l) (hkb : KByt (encK l)) (hn : (encK l).length ≤ 65535) (hml : m.length ≤ 4611686018427387904)
 (h1 : (pApp A P (0 :: encK l)).1 = 0) (ho2 : okP (pApp A P (0 :: encK l)).2.1 (pApp A P (0 :: encK l)).2.2) (h2 : (pSync (pApp A P (0 :: encK l)).2.1 (pApp A P (0 :: encK l)).2.2).1 = 0) :
 Calls Tryz.prog 13 #[.pointer (some ⟨b, 0, none⟩), v] w fun e w' => e = .returned (.int .i64 0) ∧ ∃ S' L' m', AK w0 w' bd bl b bm S' L' (pSync (pApp A P (0 :: encK l)).2.1 (pApp A P (0 :: encK l)).2.2).2.1 (pSync (pApp A P (0 :: encK l)).2.1 (pApp A P (0 :: encK l)).2.2).2.2 false m' ∧ mk m' = doPs (mk m) l ∧ m'.length ≤ m.length + l.length := by
 have HB : Hid (∀ (_ : Unit), _) := fun _ => batch_any hv
 obtain ⟨q1, hq1⟩ : ∃ q1, q1 = pApp A P (0 :: encK l) := ⟨_, rfl⟩
 obtain ⟨q2, hq2⟩ : ∃ q2, q2 = pSync q1.2.1 q1.2.2 := ⟨_, rfl⟩
 rw [← hq1] at h1 ho2 h2 ⊢; rw [← hq2] at h2 ⊢; have HQ : Hid (q1 = pApp A P (0 :: encK l) ∧ q2 = pSync q1.2.1 q1.2.2 ∧ okP A P ∧ okP q1.2.1 q1.2.2 ∧ q1.1 = 0 ∧ q2.1 = 0) := ⟨hq1, hq2, ho, ho2, h1, h2⟩
 have HL : Hid (okL l ∧ KByt (encK l) ∧ (encK l).length ≤ 65535 ∧ m.length ≤ 4611686018427387904) := ⟨hl, hkb, hn, hml⟩
 have HK : Hid (AK w0 w bd bl b bm S L A P false m) := h; obtain ⟨av, cv, rfl, _, _, _⟩ := hv.form; obtain ⟨nl, hnl⟩ : ∃ nl, nl = l.length := ⟨_, rfl⟩
 have c2 : w.cell? ⟨b, 2, none⟩ = some (.bool false) := (cell_of_block h.ks.st 2).trans rfl; rw [← hnl] at HB ⊢; have HNL : Hid (nl = l.length) := hnl; clear h ho hv hl hkb hn hml h1 ho2 h2 hq1 hq2 hnl; have T1 : Hid True := trivial; go_enter Tryz.func13, Tryz.ntmps13; go_wp2_with (first
  | (have _ := T1
     go_at_call 31
     clear T1; refine Calls.mono (HB.out ()) ?_; rintro e w1 ⟨hb1, hr1⟩; obtain ⟨a1, c1, rfl, hrow⟩ : ∃ a1 c1, e = .returned (.tuple #[.slice a1 (encK l).length c1, .int .i64 0]) ∧ w1.ownsRow w.heap.size 5 1 (.slice a1 (encK l).length c1) (encK l).length (vB (encK l)) := by
      rcases hr1 with ⟨⟨c, hc, hno⟩, _⟩ | ⟨_, ⟨_, v1, he, hrow⟩ | ⟨hbig, _⟩⟩
      · exact absurd (HL.out.1 c hc).1 hno
      · obtain ⟨a1, c1, rfl⟩ := row_form hrow
        exact ⟨a1, c1, he, hrow⟩
      · have := HL.out.2.2.1; omega
     have H1 : Hid (Below w.heap.size w w1 ∧ w1.ownsRow w.heap.size 5 1 (.slice a1 (encK l).length c1) (encK l).length (vB (encK l))) := ⟨hb1, hrow⟩
     obtain ⟨n1, hn1⟩ : ∃ n1, n1 = (encK l).length := ⟨_, rfl⟩
     rw [← hn1]; have HN1 : Hid (n1 = (encK l).length) := hn1; clear hb1 hr1 hrow hn1 HB; have T2 : Hid True := trivial)
  | (have _ := T2
     at_builtin
     clear T2; refine wpList_append_b rfl _ _ rfl w.heap.size (.slice (some ⟨w1.heap.size, 0, none⟩) 1 1) (.slice a1 n1 c1) [0] (encK l) rfl (own_base (World.ownsRow_lit w1 #[.int .u8 0] 1 (Nat.le_refl _) (by decide) rfl) H1.out.1.size) rfl (by rw [HN1.out]; exact BytesV.of_own (World.ownsRow.alloc H1.out.2 _)) (by have := HL.out.2.2.1; simp; omega) (by have := H1.out.1.size; simp; omega) ?_; intro v2 w2 hrow2 hg2 ha2; obtain ⟨g2, c2', rfl, hc2, hm2⟩ := row_form0 hrow2 (by simp); have hb2 : Below w.heap.size w w2 := Below.grown (w := w1.alloc (.cells #[.int .u8 0] 5)) (H1.out.1.alloc H1.out.1.size _) hg2 (by have := H1.out.1.size; simp; omega) (fun k hk => by have h9 : some w1.heap.size = some k := hk; injection h9 with h9; rw [← h9]; exact H1.out.1.size); have H2 : Hid (Below w.heap.size w w2 ∧ w2.ownsRow w.heap.size 5 1 (.slice (some ⟨g2, 0, none⟩) (0 :: encK l).length c2') (0 :: encK l).length (vB (0 :: encK l)) ∧ (0 :: encK l).length ≤ c2' ∧ c2' ≤ 9223372036854775807) := ⟨hb2, hrow2, hc2, hm2⟩
     clear hrow2 hg2 ha2 hb2 hc2 hm2; have e9 : ([0] ++ encK l).length = (0 :: encK l).length := rfl; rw [e9]; clear e9; have hk2 := HK.out.below H2.out.1; have HS : Hid (∀ (_ : Unit), _) := fun _ => save_ok hk2 HQ.out.2.2.1 (va := some ⟨g2, 0, none⟩) (vc := c2') (bs := 0 :: encK l) (BytesV.of_own H2.out.2.1) (fun x hx => HK.out.fresh x (World.ownsRow.lt H2.out.2.1 x (dBlock_own hx)).1) (by have := HL.out.2.2.1; simp; omega) (by rw [← HQ.out.1]; exact HQ.out.2.2.2.2.1) (by rw [← HQ.out.1]; exact HQ.out.2.2.2.1) (by rw [← HQ.out.1, ← HQ.out.2.1]; exact HQ.out.2.2.2.2.2)
     rw [← HQ.out.1, ← HQ.out.2.1] at HS; obtain ⟨n2, hn2⟩ : ∃ n2, n2 = (0 :: encK l).length := ⟨_, rfl⟩
     rw [← hn2] at HS ⊢; have HN2 : Hid (n2 = (0 :: encK l).length) := hn2; clear hn2 hk2; have T3 : Hid True := trivial)
  | (have _ := T3
     go_at_call 49
     clear T3; refine Calls.mono (HS.out ()) ?_; rintro e w3 ⟨rfl, S3, L3, hk3, hsame⟩; have hrow2 := H2.out.2.1; have hgl := (World.ownsRow.lt hrow2 g2 rfl)
     have hfr := HK.out.fresh g2 hgl.1; have hbv : BytesV w3 (.slice (some ⟨g2, 0, none⟩) ((encK l).length + 1) c2') (0 :: encK l) := (BytesV.of_own hrow2).keep fun x hx => by
      have h9 := dBlock_own hx; have h8 : some g2 = some x := h9; injection h8 with h8
      rw [← h8]; exact hsame g2 hgl.2 hfr.1 hfr.2 (fun e => by have := HK.out.lt; omega)
     have HD : Hid (∀ (_ : Unit), _) := fun _ => do_batch hk3.ks (fun x hx => hx.1) hbv HL.out.1 HL.out.2.1 H2.out.2.2.1 H2.out.2.2.2 (by have := HL.out.2.2.1; omega) HL.out.2.2.2
     have HK3 : Hid (AK w0 w3 bd bl b bm S3 L3 q2.2.1 q2.2.2 false m) := hk3; have e9 : (encK l).length + 1 = n2 := by rw [HN2.out]; rfl
     rw [e9] at HD; clear hk3 hsame hrow2 hgl hfr hbv HS e9; have T4 : Hid True := trivial)
  | (have _ := T4
     go_at_call 45
     clear T4; refine Calls.mono (HD.out ()) ?_; rintro e w4 ⟨rfl, hg4, m4, hk4, hm4, hl4⟩; have HK4 : Hid (AK w0 w4 bd bl b bm S3 L3 q2.2.1 q2.2.2 false m4 ∧ mk m4 = doPs (mk m) l ∧ m4.length ≤ m.length + l.length) := ⟨HK3.out.did hg4 hk4, hm4, hl4⟩
     clear hg4 hk4 hm4 hl4 HD))
 go_returns
 exact ⟨rfl, S3, L3, m4, HK4.out.1, HK4.out.2.1, by rw [HNL.out]; exact HK4.out.2.2⟩
def recB (l : List Ch) : List Int := 0 :: encK l
def okBs (ls : List (List Ch)) : Prop := ∀ l ∈ ls, okL l ∧ KByt (encK l) ∧ (encK l).length ≤ 65535
theorem AK.drewN {w0 w : World} {bd bl b bm : Nat} {S : DS} {L : LS} {A : DA} {P : PL} {br : Bool} {m : List (List UInt8 × Value × List Int)} (h : AK w0 w bd bl b bm S L A P br m) (n : Nat) : AK w0 (w.drewN n) bd bl b bm S L A P br m := h.below ⟨rfl, rfl, rfl, Nat.le_refl _, fun _ _ => rfl⟩
theorem AK.made {w0 w : World} {bd bl : Nat} {S : DS} {L : LS} {A : DA} {P : PL} (h : Al w0 w bd bl S L A P) (h5 : 5 ≤ w0.heap.size) : AK w0 ((w.alloc (.map #[] 0)).alloc (.cells #[.pointer (some ⟨bl, 0, none⟩), .map (some w.heap.size), .bool false] 96)) bd bl (w.heap.size + 1) w.heap.size S L A P false [] := by
 have hb : Below w.heap.size w ((w.alloc (.map #[] 0)).alloc (.cells #[.pointer (some ⟨bl, 0, none⟩), .map (some w.heap.size), .bool false] 96)) := by go_grown
 have hst : ((w.alloc (.map #[] 0)).alloc (.cells #[.pointer (some ⟨bl, 0, none⟩), .map (some w.heap.size), .bool false] 96)).heap[w.heap.size + 1]? = some (.cells #[.pointer (some ⟨bl, 0, none⟩), .map (some w.heap.size), .bool false] 96) := by
  have := heap_alloc_new (w.alloc (.map #[] 0)) (.cells #[.pointer (some ⟨bl, 0, none⟩), .map (some w.heap.size), .bool false] 96)
  simpa using this
 have hmp : ((w.alloc (.map #[] 0)).alloc (.cells #[.pointer (some ⟨bl, 0, none⟩), .map (some w.heap.size), .bool false] 96)).heap[w.heap.size]? = some (.map #[] 0) := (heap_alloc_old _ _ _ (by simp)).trans (heap_alloc_new _ _); have hf : ∀ x, w.heap.size ≤ x → S.role x = .none ∧ L.own x = 0 := fun x hx => ⟨h.dl.disk.fresh x hx, h.dl.log.fresh x hx⟩
 have hs := h.fr.size; refine ⟨h.below hb, ⟨hst, ownsMap_heap (World.ownsMap_made w _ _ _) ?_, fun p hp => (by cases hp), ⟨by simp, by omega, hf _ (by omega)⟩, ⟨by simp; omega, by omega, hf _ (by omega)⟩⟩, h5⟩; exact hmp.trans (heap_alloc_new _ _).symm
set_option maxHeartbeats 8000000 in
theorem kopen_any {w0 w : World} {bd : Nat} {P : PL} {most : Int} {QA : DA → Prop} (h5 : 5 ≤ w0.heap.size) (HO : Calls Tryz.prog 40 #[.pointer (some ⟨bd, 0, none⟩), .string logB, .int .i64 most] w fun e w' => ∃ bl S' L A', e = .returned (.tuple #[.pointer (some ⟨bl, 0, none⟩), .int .i64 0]) ∧ Al w0 w' bd bl S' L A' P ∧ QA A')
 {ls : List (List Ch)} (hrs : P.rs = ls.map recB) (hls : okBs ls) (hn : ls.length ≤ 1000) (hfs : ∀ x ∈ P.fs, 0 ≤ x ∧ x < 1000000000) :
 Calls Tryz.prog 11 #[.pointer (some ⟨bd, 0, none⟩), .string logB, .int .i64 most] w fun e w' => ∃ bl b bm S' L A' m, e = .returned (.tuple #[.pointer (some ⟨b, 0, none⟩), .int .i64 0]) ∧ AK w0 w' bd bl b bm S' L A' P false m ∧ QA A' ∧ mk m = ls.foldl doPs [] ∧ m.length ≤ ls.length * 65536 := by
 have HO : Hid _ := HO; have HP : Hid (P.rs = ls.map recB ∧ okBs ls ∧ (∀ x ∈ P.fs, 0 ≤ x ∧ x < 1000000000) ∧ 5 ≤ w0.heap.size) := ⟨hrs, hls, hfs, h5⟩
 clear hrs hls hfs h5; have hmk := fun w => run_makeMap (P := Tryz.prog) 94 w
 have T1 : Hid True := trivial; go_enter Tryz.func11, Tryz.ntmps11; go_wp2_with (first
  | (have _ := T1
     go_at_call 40
     clear T1; refine Calls.mono HO.out ?_; rintro e w1 ⟨bl, S1, L1, A1, rfl, hal, hqa⟩; have HQA : Hid (QA A1) := hqa; clear hqa; have HM : Hid (AK w0 ((w1.alloc (.map #[] 0)).alloc (.cells #[.pointer (some ⟨bl, 0, none⟩), .map (some w1.heap.size), .bool false] 96)) bd bl (w1.heap.size + 1) w1.heap.size S1 L1 A1 P false []) := AK.made hal HP.out.2.2.2; have HE : Hid (L1.rs.map (·.2) = ls.map recB ∧ LN L1) := by
      have e1 : L1.rs.map (·.2) = ls.map recB := by rw [← HP.out.1, ← hal.p]; rfl
      have e2 : L1.rs.length = ls.length := by have := congrArg List.length e1; simpa using this
      have e3 : L1.fs = P.fs := by rw [← hal.p]; rfl
      exact ⟨e1, by rw [e3]; exact HP.out.2.2.1, by omega⟩
     clear hal HO; have T2 : Hid True := trivial)
  | (have _ := T2
     go_at_call 41
     clear T2; refine Calls.mono (first_any HM.out.al.dl.log) ?_; rintro e w2 ⟨rfl, hw2⟩; obtain rfl := hw2.symm))
 obtain ⟨hF0, hF1⟩ := HE.out.2.fst; have hen : endL L1 = fst L1 + ls.length := by
  have := congrArg List.length HE.out.1; unfold endL; simp at this; rw [this]
 obtain ⟨F, hF⟩ : ∃ F, F = fst L1 := ⟨_, rfl⟩
 obtain ⟨N, hN⟩ : ∃ N, N = ls.length := ⟨_, rfl⟩
 rw [← hF, ← hN] at hen; rw [← hF] at hF0 hF1 ⊢; rw [← hN] at hn; have HF : Hid (F = fst L1 ∧ N = ls.length ∧ endL L1 = F + N) := ⟨hF, hN, hen⟩
 clear hF hN hen; have HM2 : Hid (AK w0 ((w1.alloc (.map #[] 0)).alloc (.cells #[.pointer (some ⟨bl, 0, none⟩), .map (some w1.heap.size), .bool false] 96)) bd bl (w1.heap.size + 1) w1.heap.size S1 L1 A1 P false []) := HM.out; clear HM; obtain ⟨b, hb⟩ : ∃ b, b = w1.heap.size + 1 := ⟨_, rfl⟩
 obtain ⟨bm, hbm⟩ : ∃ bm, bm = w1.heap.size := ⟨_, rfl⟩
 rw [← hb] at HM2; rw [← hbm] at HM2 hb ⊢; rw [← hb]; generalize (w1.alloc (.map #[] 0)).alloc (.cells #[.pointer (some ⟨bl, 0, none⟩), .map (some bm), .bool false] 96) = w2 at HM2 ⊢; clear hb hbm; go_loopw [11] (fun i wr => ∃ (k : Nat) (m : List (List UInt8 × Value × List Int)), k ≤ N ∧ i = .int .i64 (F + k) ∧ Hid (AK w0 wr bd bl b bm S1 L1 A1 P false m ∧ mk m = (ls.take k).foldl doPs [] ∧ m.length ≤ k * 65536)) (fun i _ => (F + N - intOf i).toNat)
 case atStart => exact ⟨0, [], by omega, by simp, HM2.out, by simp [mk, mapG], by simp⟩
 case round =>
  obtain ⟨k, m, hk, rfl, HK⟩ := hrel; have T3 : Hid True := trivial; by_cases hlt : k < N
  · obtain ⟨l, hl⟩ : ∃ l, ls[k]? = some l := ⟨_, List.getElem?_eq_getElem (by have := HF.out.2.1; omega)⟩
    have hok := HP.out.2.1 l (List.mem_of_getElem? hl); obtain ⟨p, hp, hp2⟩ : ∃ p, L1.rs[k]? = some p ∧ p.2 = recB l := by
     have h9 : (L1.rs.map (·.2))[k]? = (ls.map recB)[k]? := by rw [HE.out.1]
     rw [List.getElem?_map, List.getElem?_map, hl] at h9; cases hq : L1.rs[k]? with
     | none => rw [hq] at h9; cases h9
     | some p => rw [hq] at h9; injection h9 with h9; exact ⟨p, rfl, h9⟩
    have HL : Hid (ls[k]? = some l ∧ okL l ∧ KByt (encK l) ∧ (encK l).length ≤ 65535 ∧ L1.rs[k]? = some p ∧ p.2 = recB l) := ⟨hl, hok.1, hok.2.1, hok.2.2, hp, hp2⟩
    clear hl hok hp hp2; have hki : (k : Int) < N := by omega
    go_wp2_with (first
     | (have _ := T3
        go_at_call 42
        clear T3; refine Calls.mono (end_any HK.out.1.al.dl.log HE.out.2) ?_; rintro e w3 ⟨rfl, q3, rfl⟩; rw [HF.out.2.2]; have HK3 : Hid (AK w0 (wr.drewN q3) bd bl b bm S1 L1 A1 P false m) := HK.out.1.drewN q3; have T4 : Hid True := trivial)
     | (have _ := T4
        go_at_call 43
        clear T4; refine Calls.mono (get_here HK3.out.al.dl.log HE.out.2 k (F + k) (by rw [HF.out.1]) HL.out.2.2.2.2.1 (by rw [HL.out.2.2.2.2.2]; have := HL.out.2.2.2.1; simp [recB]; omega)) ?_; rintro e w4 ⟨v4, rfl, hrow, hb4⟩; rw [HL.out.2.2.2.2.2] at hrow; obtain ⟨g4, c4, rfl, hc4, hm4⟩ := row_form0 hrow (by simp [recB]); have hk4 := HK3.out.below hb4; have hbv : BytesV w4 (.slice (some ⟨g4, 0, none⟩) ((encK l).length + 1) c4) (0 :: encK l) := BytesV.of_own hrow; have HS : Hid (∀ (_ : Unit), _) := fun _ => sound_batch hbv HL.out.2.1 HL.out.2.2.1 hc4 hm4 (by have := HL.out.2.2.2.1; omega)
        have H4 : Hid (AK w0 w4 bd bl b bm S1 L1 A1 P false m ∧ BytesV w4 (.slice (some ⟨g4, 0, none⟩) ((encK l).length + 1) c4) (0 :: encK l) ∧ (encK l).length + 1 ≤ c4 ∧ c4 ≤ 9223372036854775807) := ⟨hk4, hbv, hc4, hm4⟩
        obtain ⟨n4, hn4⟩ : ∃ n4, n4 = (encK l).length + 1 := ⟨_, rfl⟩
        have e9 : (recB l).length = n4 := by rw [hn4]; rfl
        rw [← hn4] at HS H4; rw [e9]; have HN4 : Hid (n4 = (encK l).length + 1) := hn4; clear hrow hb4 hk4 hbv hc4 hm4 hn4 e9; have T5 : Hid True := trivial)
     | (have _ := T5
        go_at_call 44
        clear T5; refine Calls.mono (HS.out ()) ?_; rintro e w5 ⟨rfl, hb5⟩; have hk5 := H4.out.1.below hb5; have hbv : BytesV w5 (.slice (some ⟨g4, 0, none⟩) n4 c4) (0 :: encK l) := H4.out.2.1.keep fun x hx => hb5.block x (H4.out.2.1.lt x hx)
        rw [HN4.out] at hbv; have HD : Hid (∀ (_ : Unit), _) := fun _ => do_batch hk5.ks (fun x hx => hx.1) hbv HL.out.2.1 HL.out.2.2.1 (by rw [← HN4.out]; exact H4.out.2.2.1) H4.out.2.2.2 (by have := HL.out.2.2.2.1; omega) (by have := HK.out.2.2; omega)
        rw [← HN4.out] at HD; have HK5 : Hid (AK w0 w5 bd bl b bm S1 L1 A1 P false m) := hk5; clear hb5 hk5 hbv HS; have T6 : Hid True := trivial)
     | (have _ := T6
        go_at_call 45
        clear T6; refine Calls.mono (HD.out ()) ?_; rintro e w6 ⟨rfl, hg6, m6, hk6, hm6, hl6⟩; have HK6 : Hid (AK w0 w6 bd bl b bm S1 L1 A1 P false m6 ∧ mk m6 = (ls.take (k + 1)).foldl doPs [] ∧ m6.length ≤ (k + 1) * 65536) := ⟨HK5.out.did hg6 hk6, by rw [hm6, HK.out.2.1, List.take_add_one, HL.out.1]; simp, by have := encK_ge l; have := HL.out.2.2.2.1; have := HK.out.2.2; omega⟩
        clear hg6 hk6 hm6 hl6 HD))
    go_roundw
    case rel => exact ⟨k + 1, m6, by omega, by go_num, HK6.out⟩
    case measure => simp [intOf]; omega
  · obtain rfl : k = N := by omega
    go_wp2_with (first
     | (have _ := T3
        go_at_call 42
        clear T3; refine Calls.mono (end_any HK.out.1.al.dl.log HE.out.2) ?_; rintro e w3 ⟨rfl, q3, rfl⟩; rw [HF.out.2.2]))
    go_ret2; exact ⟨bl, b, bm, S1, L1, A1, m, rfl, HK.out.1.drewN q3, HQA.out, by rw [HK.out.2.1, HF.out.2.1, List.take_length], by rw [← HF.out.2.1]; exact HK.out.2.2⟩
end Go.Proofs.YtconkienlcegaaaGreatDoor
