/- KT, KU, KV -/
import Derived.Test.YtconkienlcegaaaGreatDoorGNG
namespace Go.Proofs.YtconkienlcegaaaGreatDoor
open Go.RowKit Go.Maps Go.Joins Go.Shelf
set_option linter.unusedSimpArgs false
set_option linter.unusedVariables false
def recB (l : List Ch) : List Int := 0 :: encK l
/-- Batches that a log may have. -/
def okBs (ls : List (List Ch)) : Prop := ∀ l ∈ ls, okL l ∧ KByt (encK l) ∧ (encK l).length ≤ 65535
theorem AK.drewN {w0 w : World} {bd bl b bm : Nat} {S : DS} {L : LS} {A : DA} {P : PL} {br : Bool} {m : List (List UInt8 × Value × List Int)} (h : AK w0 w bd bl b bm S L A P br m) (n : Nat) : AK w0 (w.drewN n) bd bl b bm S L A P br m := h.below ⟨rfl, rfl, rfl, Nat.le_refl _, fun _ _ => rfl⟩
theorem AK.made {w0 w : World} {bd bl : Nat} {S : DS} {L : LS} {A : DA} {P : PL} (h : Al w0 w bd bl S L A P) (h5 : 5 ≤ w0.heap.size) : AK w0 ((w.alloc (.map #[] 0)).alloc (.cells #[.pointer (some ⟨bl, 0, none⟩), .map (some w.heap.size), .bool false] 96)) bd bl (w.heap.size + 1) w.heap.size S L A P false [] := by
 have hb : Below w.heap.size w ((w.alloc (.map #[] 0)).alloc (.cells #[.pointer (some ⟨bl, 0, none⟩), .map (some w.heap.size), .bool false] 96)) := by go_grown
 have hst : ((w.alloc (.map #[] 0)).alloc (.cells #[.pointer (some ⟨bl, 0, none⟩), .map (some w.heap.size), .bool false] 96)).heap[w.heap.size + 1]? = some (.cells #[.pointer (some ⟨bl, 0, none⟩), .map (some w.heap.size), .bool false] 96) := by
  have := heap_alloc_new (w.alloc (.map #[] 0)) (.cells #[.pointer (some ⟨bl, 0, none⟩), .map (some w.heap.size), .bool false] 96)
  simpa using this
 have hmp : ((w.alloc (.map #[] 0)).alloc (.cells #[.pointer (some ⟨bl, 0, none⟩), .map (some w.heap.size), .bool false] 96)).heap[w.heap.size]? = some (.map #[] 0) := (heap_alloc_old _ _ _ (by simp)).trans (heap_alloc_new _ _); have hf : ∀ x, w.heap.size ≤ x → S.role x = .none ∧ L.own x = 0 := fun x hx => ⟨h.dl.disk.fresh x hx, h.dl.log.fresh x hx⟩
 have hs := h.fr.size; refine ⟨h.below hb, ⟨hst, ownsMap_heap (World.ownsMap_made w _ _ _) ?_, fun p hp => (by cases hp), ⟨by simp, by omega, hf _ (by omega)⟩, ⟨by simp; omega, by omega, hf _ (by omega)⟩⟩, h5⟩; exact hmp.trans (heap_alloc_new _ _).symm
set_option maxHeartbeats 8000000 in
theorem kopen_any {w0 w : World} {bd : Nat} {P : PL} {most : Int} {QA : DA → Prop} (h5 : 5 ≤ w0.heap.size) (HO : Calls Tryz.prog 40 #[.pointer (some ⟨bd, 0, none⟩), .string logB, .int .i64 most] w fun e w' => ∃ bl S' L A', e = .returned (.tuple #[.pointer (some ⟨bl, 0, none⟩), .int .i64 0]) ∧ Al w0 w' bd bl S' L A' P ∧ QA A')
 {ls : List (List Ch)} (hrs : P.rs = ls.map recB) (hls : okBs ls) (hn : ls.length ≤ 1000) (hfs : ∀ x ∈ P.fs, 0 ≤ x ∧ x < 1000000000) :
 Calls Tryz.prog 11 #[.pointer (some ⟨bd, 0, none⟩), .string logB, .int .i64 most] w fun e w' => ∃ bl b bm S' L A' m, e = .returned (.tuple #[.pointer (some ⟨b, 0, none⟩), .int .i64 0]) ∧ AK w0 w' bd bl b bm S' L A' P false m ∧ QA A' ∧ mk m = ls.foldl doPs [] ∧ m.length ≤ ls.length * 65536 := by
 have HO : Hid _ := HO; have HP : Hid (P.rs = ls.map recB ∧ okBs ls ∧ (∀ x ∈ P.fs, 0 ≤ x ∧ x < 1000000000) ∧ 5 ≤ w0.heap.size) := ⟨hrs, hls, hfs, h5⟩
 clear hrs hls hfs h5; have hmk := fun w => run_makeMap (P := Tryz.prog) 94 w
 have T1 : Hid True := trivial; go_enter Tryz.func11, Tryz.ntmps11; go_wp2_with (first
  | (have _ := T1
     go_at_call 40
     clear T1; refine Calls.mono HO.out ?_; rintro e w1 ⟨bl, S1, L1, A1, rfl, hal, hqa⟩; have HQA : Hid (QA A1) := hqa; clear hqa; have HM : Hid (AK w0 ((w1.alloc (.map #[] 0)).alloc (.cells #[.pointer (some ⟨bl, 0, none⟩), .map (some w1.heap.size), .bool false] 96)) bd bl (w1.heap.size + 1) w1.heap.size S1 L1 A1 P false []) := AK.made hal HP.out.2.2.2; have HE : Hid (L1.rs.map (·.2) = ls.map recB ∧ LN L1) := by
      have e1 : L1.rs.map (·.2) = ls.map recB := by rw [← HP.out.1, ← hal.p]; rfl
      have e2 : L1.rs.length = ls.length := by have := congrArg List.length e1; simpa using this
      have e3 : L1.fs = P.fs := by rw [← hal.p]; rfl
      exact ⟨e1, by rw [e3]; exact HP.out.2.2.1, by omega⟩
     clear hal HO; have T2 : Hid True := trivial)
  | (have _ := T2
     go_at_call 41
     clear T2; refine Calls.mono (first_any HM.out.al.dl.log) ?_; rintro e w2 ⟨rfl, hw2⟩; obtain rfl := hw2.symm))
 obtain ⟨hF0, hF1⟩ := HE.out.2.fst; have hen : endL L1 = fst L1 + ls.length := by
  have := congrArg List.length HE.out.1; unfold endL; simp at this; rw [this]
 obtain ⟨F, hF⟩ : ∃ F, F = fst L1 := ⟨_, rfl⟩
 obtain ⟨N, hN⟩ : ∃ N, N = ls.length := ⟨_, rfl⟩
 rw [← hF, ← hN] at hen; rw [← hF] at hF0 hF1 ⊢; rw [← hN] at hn; have HF : Hid (F = fst L1 ∧ N = ls.length ∧ endL L1 = F + N) := ⟨hF, hN, hen⟩
 clear hF hN hen; have HM2 : Hid (AK w0 ((w1.alloc (.map #[] 0)).alloc (.cells #[.pointer (some ⟨bl, 0, none⟩), .map (some w1.heap.size), .bool false] 96)) bd bl (w1.heap.size + 1) w1.heap.size S1 L1 A1 P false []) := HM.out; clear HM; obtain ⟨b, hb⟩ : ∃ b, b = w1.heap.size + 1 := ⟨_, rfl⟩
 obtain ⟨bm, hbm⟩ : ∃ bm, bm = w1.heap.size := ⟨_, rfl⟩
 rw [← hb] at HM2; rw [← hbm] at HM2 hb ⊢; rw [← hb]; generalize (w1.alloc (.map #[] 0)).alloc (.cells #[.pointer (some ⟨bl, 0, none⟩), .map (some bm), .bool false] 96) = w2 at HM2 ⊢; clear hb hbm; go_loopw [11] (fun i wr => ∃ (k : Nat) (m : List (List UInt8 × Value × List Int)), k ≤ N ∧ i = .int .i64 (F + k) ∧ Hid (AK w0 wr bd bl b bm S1 L1 A1 P false m ∧ mk m = (ls.take k).foldl doPs [] ∧ m.length ≤ k * 65536)) (fun i _ => (F + N - intOf i).toNat)
 case atStart => exact ⟨0, [], by omega, by simp, HM2.out, by simp [mk, mapG], by simp⟩
 case round =>
  obtain ⟨k, m, hk, rfl, HK⟩ := hrel; have T3 : Hid True := trivial; by_cases hlt : k < N
  · obtain ⟨l, hl⟩ : ∃ l, ls[k]? = some l := ⟨_, List.getElem?_eq_getElem (by have := HF.out.2.1; omega)⟩
    have hok := HP.out.2.1 l (List.mem_of_getElem? hl); obtain ⟨p, hp, hp2⟩ : ∃ p, L1.rs[k]? = some p ∧ p.2 = recB l := by
     have h9 : (L1.rs.map (·.2))[k]? = (ls.map recB)[k]? := by rw [HE.out.1]
     rw [List.getElem?_map, List.getElem?_map, hl] at h9; cases hq : L1.rs[k]? with
     | none => rw [hq] at h9; cases h9
     | some p => rw [hq] at h9; injection h9 with h9; exact ⟨p, rfl, h9⟩
    have HL : Hid (ls[k]? = some l ∧ okL l ∧ KByt (encK l) ∧ (encK l).length ≤ 65535 ∧ L1.rs[k]? = some p ∧ p.2 = recB l) := ⟨hl, hok.1, hok.2.1, hok.2.2, hp, hp2⟩
    clear hl hok hp hp2; have hki : (k : Int) < N := by omega
    go_wp2_with (first
     | (have _ := T3
        go_at_call 42
        clear T3; refine Calls.mono (end_any HK.out.1.al.dl.log HE.out.2) ?_; rintro e w3 ⟨rfl, q3, rfl⟩; rw [HF.out.2.2]; have HK3 : Hid (AK w0 (wr.drewN q3) bd bl b bm S1 L1 A1 P false m) := HK.out.1.drewN q3; have T4 : Hid True := trivial)
     | (have _ := T4
        go_at_call 43
        clear T4; refine Calls.mono (get_here HK3.out.al.dl.log HE.out.2 k (F + k) (by rw [HF.out.1]) HL.out.2.2.2.2.1 (by rw [HL.out.2.2.2.2.2]; have := HL.out.2.2.2.1; simp [recB]; omega)) ?_; rintro e w4 ⟨v4, rfl, hrow, hb4⟩; rw [HL.out.2.2.2.2.2] at hrow; obtain ⟨g4, c4, rfl, hc4, hm4⟩ := row_form0 hrow (by simp [recB]); have hk4 := HK3.out.below hb4; have hbv : BytesV w4 (.slice (some ⟨g4, 0, none⟩) ((encK l).length + 1) c4) (0 :: encK l) := BytesV.of_own hrow; have HS : Hid (∀ (_ : Unit), _) := fun _ => sound_batch hbv HL.out.2.1 HL.out.2.2.1 hc4 hm4 (by have := HL.out.2.2.2.1; omega)
        have H4 : Hid (AK w0 w4 bd bl b bm S1 L1 A1 P false m ∧ BytesV w4 (.slice (some ⟨g4, 0, none⟩) ((encK l).length + 1) c4) (0 :: encK l) ∧ (encK l).length + 1 ≤ c4 ∧ c4 ≤ 9223372036854775807) := ⟨hk4, hbv, hc4, hm4⟩
        obtain ⟨n4, hn4⟩ : ∃ n4, n4 = (encK l).length + 1 := ⟨_, rfl⟩
        have e9 : (recB l).length = n4 := by rw [hn4]; rfl
        rw [← hn4] at HS H4; rw [e9]; have HN4 : Hid (n4 = (encK l).length + 1) := hn4; clear hrow hb4 hk4 hbv hc4 hm4 hn4 e9; have T5 : Hid True := trivial)
     | (have _ := T5
        go_at_call 44
        clear T5; refine Calls.mono (HS.out ()) ?_; rintro e w5 ⟨rfl, hb5⟩; have hk5 := H4.out.1.below hb5; have hbv : BytesV w5 (.slice (some ⟨g4, 0, none⟩) n4 c4) (0 :: encK l) := H4.out.2.1.keep fun x hx => hb5.block x (H4.out.2.1.lt x hx)
        rw [HN4.out] at hbv; have HD : Hid (∀ (_ : Unit), _) := fun _ => do_batch hk5.ks (fun x hx => hx.1) hbv HL.out.2.1 HL.out.2.2.1 (by rw [← HN4.out]; exact H4.out.2.2.1) H4.out.2.2.2 (by have := HL.out.2.2.2.1; omega) (by have := HK.out.2.2; omega)
        rw [← HN4.out] at HD; have HK5 : Hid (AK w0 w5 bd bl b bm S1 L1 A1 P false m) := hk5; clear hb5 hk5 hbv HS; have T6 : Hid True := trivial)
     | (have _ := T6
        go_at_call 45
        clear T6; refine Calls.mono (HD.out ()) ?_; rintro e w6 ⟨rfl, hg6, m6, hk6, hm6, hl6⟩; have HK6 : Hid (AK w0 w6 bd bl b bm S1 L1 A1 P false m6 ∧ mk m6 = (ls.take (k + 1)).foldl doPs [] ∧ m6.length ≤ (k + 1) * 65536) := ⟨HK5.out.did hg6 hk6, by rw [hm6, HK.out.2.1, List.take_add_one, HL.out.1]; simp, by have := encK_ge l; have := HL.out.2.2.2.1; have := HK.out.2.2; omega⟩
        clear hg6 hk6 hm6 hl6 HD))
    go_roundw
    case rel => exact ⟨k + 1, m6, by omega, by go_num, HK6.out⟩
    case measure => simp [intOf]; omega
  · obtain rfl : k = N := by omega
    go_wp2_with (first
     | (have _ := T3
        go_at_call 42
        clear T3; refine Calls.mono (end_any HK.out.1.al.dl.log HE.out.2) ?_; rintro e w3 ⟨rfl, q3, rfl⟩; rw [HF.out.2.2]))
    go_ret2; exact ⟨bl, b, bm, S1, L1, A1, m, rfl, HK.out.1.drewN q3, HQA.out, by rw [HK.out.2.1, HF.out.2.1, List.take_length], by rw [← HF.out.2.1]; exact HK.out.2.2⟩
/-- What a key has. -/
def valK (m : List (List UInt8 × Value × List Int)) (k : List UInt8) : Value := match lookG m k with | some p => p.1 | none => .slice none 0 0
def bytK (m : List (List UInt8 × Value × List Int)) (k : List UInt8) : List Int := match lookG m k with | some p => p.2 | none => []
theorem zero23 (w : World) : (zeroValue 23).run Tryz.prog w = .ok (.slice none 0 0) w := by kernel_rfl
theorem klook {w : World} {bm n : Nat} {m : List (List UInt8 × Value × List Int)} (h : w.ownsMap Tryz.prog 9 Rv bm n (toDk m)) {key : List Int} (hl : key.length ≤ 140737488355328 ∧ ∀ p ∈ m, okS p.2.1 = true) :
 (Instr.lookup 94 (.map (some bm)) (.string (strOfNums key)) true).run Tryz.prog w = .ok (.tuple #[valK m (kS key), .bool (lookG m (kS key)).isSome]) w := by
 obtain ⟨v, ps, hrun, hv⟩ := h.look_ok law9 Tryz.underlying94 (zero23 _) (zd := .nil) (zp := []) (show Rv (.slice none 0 0) = some (.nil, []) from by simp [Rv, okS, sv]) (kS_key hl.1); rw [hrun, has_toDk]; rw [at_toDk] at hv; obtain ⟨h1, h2⟩ := Rv_inv hv
 replace h2 : (match lookG m (kS key) with | some g => sv g.1 | none => .nil) = sv v := congrArg Prod.fst h2
 have e : v = valK m (kS key) := by
  unfold valK; cases hq : lookG m (kS key) with
  | none =>
    rw [hq] at h2; exact sv_inj h1 rfl h2.symm
  | some p =>
    rw [hq] at h2; exact sv_inj h1 (hl.2 _ (look_mem' hq)) h2.symm
 rw [e]
theorem valK_ok {w : World} {D : Nat → Prop} {b bl bm : Nat} {br : Bool} {m : List (List UInt8 × Value × List Int)} (h : KS w D b bl br bm m) (k : List UInt8) : BytesV w (valK m k) (bytK m k) ∧ (bytK m k).length ≤ 140737488355328 := by
 unfold valK bytK; cases hq : lookG m k with
 | none => exact ⟨Or.inl ⟨rfl, rfl⟩, by simp⟩
 | some p => exact ⟨(h.vals _ (look_mem' hq)).2.is, (h.vals _ (look_mem' hq)).2.len⟩
set_option maxHeartbeats 4000000 in
/-- Get -/
theorem kget_any {w : World} {D : Nat → Prop} {b bl bm : Nat} {br : Bool} {m : List (List UInt8 × Value × List Int)} (h : KS w D b bl br bm m) {ak : Option Addr} {ck : Nat} {key : List Int} (hk : BytesV w (.slice ak key.length ck) key) (hkl : key.length ≤ 140737488355328) :
 Calls Tryz.prog 24 #[.pointer (some ⟨b, 0, none⟩), .slice ak key.length ck] w fun e w' => ∃ v, e = .returned (.tuple #[v, .bool (lookG m (kS key)).isSome]) ∧ w'.ownsRow w.heap.size 5 1 v (bytK m (kS key)).length (vB (bytK m (kS key))) ∧ Below w.heap.size w w' := by
 obtain ⟨hbv, hbl⟩ := valK_ok h (kS key); obtain ⟨ax, cx, hvx⟩ := hbv.form'; obtain ⟨nx, hnx⟩ : ∃ nx, nx = (bytK m (kS key)).length := ⟨_, rfl⟩
 obtain ⟨nk, hnk⟩ : ∃ nk, nk = key.length := ⟨_, rfl⟩
 obtain ⟨hs, hhs⟩ : ∃ hs, (lookG m (kS key)).isSome = hs := ⟨_, rfl⟩
 rw [← hnx] at hvx; have HVX : Hid (valK m (kS key) = .slice ax nx cx ∧ (lookG m (kS key)).isSome = hs) := ⟨hvx, hhs⟩
 have HKL : Hid (key.length ≤ 140737488355328 ∧ ∀ p ∈ m, okS p.2.1 = true) := ⟨hkl, fun p hp => (h.vals p hp).1⟩
 have HS : Hid ((fun w' => w'.heap[b]? = some (.cells #[.pointer (some ⟨bl, 0, none⟩), .map (some bm), .bool br] 96) ∧ w'.ownsMap Tryz.prog 9 Rv bm m.length (toDk m) ∧ BytesV w' (.slice ak nk ck) key) w.drew) := ⟨h.st, h.mp, by rw [hnk]; exact hk⟩
 have HC : Hid (BytesV w.drew (.slice ax nx cx) (bytK m (kS key)) ∧ (bytK m (kS key)).length ≤ 140737488355328) := ⟨by rw [← hvx]; exact hbv.keep fun _ _ => rfl, hbl⟩
 rw [hhs, ← hnk]; clear h hk hkl hbv hbl hvx hnx hnk hhs; go_enter Tryz.func24, Tryz.ntmps24; go_wp2_with fail; refine wp_region_held_drew (S := fun w' => w'.heap[b]? = some (.cells #[.pointer (some ⟨bl, 0, none⟩), .map (some bm), .bool br] 96) ∧ w'.ownsMap Tryz.prog 9 Rv bm m.length (toDk m) ∧ BytesV w' (.slice ak nk ck) key) (by kernel_rfl) HS.out (fun hHeld => ?_); refine wpAnyH_take (i := 0) (v := .pointer (some ⟨b, 0, none⟩)) rfl (by kernel_rfl) (by kernel_rfl) (by kernel_rfl) (fun _ _ _ h => h) (Or.inl ⟨by rfl, fun w9 hSw => ?_⟩) hHeld ?_
 · go_simp
 simp only [List.getElem_toArray, List.getElem_cons_succ, List.getElem_cons_zero, Act.put, List.setIfInBounds_toArray, List.set_cons_zero, List.set_cons_succ]; refine wpAnyH_take (i := 1) (v := .pointer (some ⟨b, 0, none⟩)) rfl (by kernel_rfl) (by kernel_rfl) (by kernel_rfl) (fun _ _ _ h => h) (Or.inl ⟨by rfl, fun w9 hSw => ?_⟩) hHeld ?_
 · go_simp
 simp only [List.getElem_toArray, List.getElem_cons_succ, List.getElem_cons_zero, Act.put, List.setIfInBounds_toArray, List.set_cons_zero, List.set_cons_succ]; refine wpAnyH_take (i := 2) (v := .pointer (some ⟨b, 1, none⟩)) rfl (by kernel_rfl) (by kernel_rfl) (by kernel_rfl) (fun _ _ _ h => h) (Or.inl ⟨by rfl, fun w9 hSw => ?_⟩) hHeld ?_
 · go_simp
 simp only [List.getElem_toArray, List.getElem_cons_succ, List.getElem_cons_zero, Act.put, List.setIfInBounds_toArray, List.set_cons_zero, List.set_cons_succ]; refine wpAnyH_take (i := 3) (v := .map (some bm)) rfl (by kernel_rfl) (by kernel_rfl) (by kernel_rfl) (fun _ _ _ h => h) (Or.inl ⟨by rfl, fun w9 hSw => ?_⟩) hHeld ?_
 · have y1 : w9.cell? ⟨b, 1, none⟩ = some (.map (some bm)) := (cell_of_block hSw.1 1).trans rfl
   go_simp
 simp only [List.getElem_toArray, List.getElem_cons_succ, List.getElem_cons_zero, Act.put, List.setIfInBounds_toArray, List.set_cons_zero, List.set_cons_succ]; refine wpAnyH_take (i := 4) (v := .slice ak nk ck) rfl (by kernel_rfl) (by kernel_rfl) (by kernel_rfl) (fun _ _ _ h => h) (Or.inl ⟨by rfl, fun w9 hSw => ?_⟩) hHeld ?_
 · go_simp
 simp only [List.getElem_toArray, List.getElem_cons_succ, List.getElem_cons_zero, Act.put, List.setIfInBounds_toArray, List.set_cons_zero, List.set_cons_succ]; refine wpAnyH_take (i := 5) (v := .string (strOfNums key)) rfl (by kernel_rfl) (by kernel_rfl) (by kernel_rfl) (fun _ _ _ h => h) (Or.inl ⟨by rfl, fun w9 hSw => ?_⟩) hHeld ?_
 · have y9 := kconv_b hSw.2.2
   go_simp
 simp only [List.getElem_toArray, List.getElem_cons_succ, List.getElem_cons_zero, Act.put, List.setIfInBounds_toArray, List.set_cons_zero, List.set_cons_succ]; refine wpAnyH_take (i := 6) (v := .tuple #[.slice ax nx cx, .bool hs]) rfl (by kernel_rfl) (by kernel_rfl) (by kernel_rfl) (fun _ _ _ h => h) (Or.inl ⟨by rfl, fun w9 hSw => ?_⟩) hHeld ?_
 · have y9 := klook hSw.2.1 HKL.out (key := key)
   rw [HVX.out.1, HVX.out.2] at y9; go_simp
 simp only [List.getElem_toArray, List.getElem_cons_succ, List.getElem_cons_zero, Act.put, List.setIfInBounds_toArray, List.set_cons_zero, List.set_cons_succ]; refine wpAnyH_take (i := 7) (v := .tuple #[.slice ax nx cx, .bool hs]) rfl (by kernel_rfl) (by kernel_rfl) (by kernel_rfl) (fun _ _ _ h => h) (Or.inl ⟨by rfl, fun w9 hSw => ?_⟩) hHeld ?_
 · go_simp
 simp only [List.getElem_toArray, List.getElem_cons_succ, List.getElem_cons_zero, Act.put, List.setIfInBounds_toArray, List.set_cons_zero, List.set_cons_succ]; refine wpAnyH_take (i := 8) (v := .slice ax nx cx) rfl (by kernel_rfl) (by kernel_rfl) (by kernel_rfl) (fun _ _ _ h => h) (Or.inl ⟨by rfl, fun w9 hSw => ?_⟩) hHeld ?_
 · go_simp
 simp only [List.getElem_toArray, List.getElem_cons_succ, List.getElem_cons_zero, Act.put, List.setIfInBounds_toArray, List.set_cons_zero, List.set_cons_succ]; refine wpAnyH_take (i := 9) (v := .bool hs) rfl (by kernel_rfl) (by kernel_rfl) (by kernel_rfl) (fun _ _ _ h => h) (Or.inl ⟨by rfl, fun w9 hSw => ?_⟩) hHeld ?_
 · go_simp
 simp only [List.getElem_toArray, List.getElem_cons_succ, List.getElem_cons_zero, Act.put, List.setIfInBounds_toArray, List.set_cons_zero, List.set_cons_succ]; refine wpAnyH_take (i := 10) (v := .slice ax nx cx) rfl (by kernel_rfl) (by kernel_rfl) (by kernel_rfl) (fun _ _ _ h => h) (Or.inl ⟨by rfl, fun w9 hSw => ?_⟩) hHeld ?_
 · go_simp
 simp only [List.getElem_toArray, List.getElem_cons_succ, List.getElem_cons_zero, Act.put, List.setIfInBounds_toArray, List.set_cons_zero, List.set_cons_succ]; refine wpAnyH_take (i := 11) (v := .bool hs) rfl (by kernel_rfl) (by kernel_rfl) (by kernel_rfl) (fun _ _ _ h => h) (Or.inl ⟨by rfl, fun w9 hSw => ?_⟩) hHeld ?_
 · go_simp
 simp only [List.getElem_toArray, List.getElem_cons_succ, List.getElem_cons_zero, Act.put, List.setIfInBounds_toArray, List.set_cons_zero, List.set_cons_succ]; refine wpAnyH_done (by kernel_rfl) ?_ _; clear hHeld; go_wp2_with fail; refine Calls.mono (bclone_any (.slice ax nx cx) _ HC.out.1 HC.out.2) ?_; rintro e w1 ⟨v1, rfl, hrow, hb1⟩; obtain ⟨a1, c1, rfl⟩ := row_form hrow; have H1 : Hid _ := And.intro hrow hb1; clear hrow hb1; go_wp2; go_ret2; exact ⟨_, rfl, H1.out.1, ⟨H1.out.2.os, H1.out.2.tape, H1.out.2.output, H1.out.2.size, H1.out.2.block⟩⟩
set_option maxHeartbeats 4000000 in
/-- Len -/
theorem klen_any {w : World} {D : Nat → Prop} {b bl bm : Nat} {br : Bool} {m : List (List UInt8 × Value × List Int)} (h : KS w D b bl br bm m) :
 Calls Tryz.prog 27 #[.pointer (some ⟨b, 0, none⟩)] w fun e w' => e = .returned (.int .i64 m.length) ∧ w' = w := by
 have c1 : w.cell? ⟨b, 1, none⟩ = some (.map (some bm)) := (cell_of_block h.st 1).trans rfl; have HO : Hid (w.ownsMap Tryz.prog 9 Rv bm m.length (toDk m)) := h.mp; have hsz := size_toDk m; clear h; go_enter Tryz.func27, Tryz.ntmps27; go_wp2_with (first
  | (at_len
     refine wpList_len_own _ rfl _ 94 rfl 9 23 Tryz.underlying94 Rv bm m.length (toDk m) rfl HO.out ?_; rw [hsz]))
 go_returns
 exact ⟨rfl, rfl⟩
def ch1 : Ch := { key := [97], val := [98, 99], gone := false }
def rec1 : List Int := [0, 0, 1, 97, 0, 0, 0, 2, 98, 99]
theorem rec1_eq : recB [ch1] = rec1 := by decide +kernel
theorem enc1 : encK [ch1] = [0, 1, 97, 0, 0, 0, 2, 98, 99] := by decide +kernel
theorem ok1 : okL [ch1] := fun c hc => by
 obtain rfl := List.mem_singleton.1 hc; exact ⟨⟨by decide, by decide⟩, by decide, fun h => by cases h⟩
theorem kb1 : KByt (encK [ch1]) := by
 rw [enc1]; intro c hc; simp at hc; omega
def t1 := pApp A0 P0 rec1
def t2 := pSync t1.2.1 t1.2.2
def A5 : DA := ⟨bootT t2.2.1.l [], false, t2.2.1.steps, t2.2.1.armed, fun _ => 0, t2.2.1.room⟩
theorem t1_0 : t1.1 = 0 := by decide +kernel
theorem t2_0 : t2.1 = 0 := by decide +kernel
theorem okP0 : okP A0 P0 := by unfold okP; decide +kernel
theorem okP1 : okP t1.2.1 t1.2.2 := by unfold okP; decide +kernel
theorem took_rec {k : Nat} {rs : List (List Int)} (h : Took (frameB rec1) k rs) (hk : k = (frameB rec1).length ∨ (nx ((frameB rec1).drop k)).1 ≠ 0) : rs = [rec1] ∧ k = 22 := by
 have n1 : nx ((frameB rec1).drop 0) = (0, 22, rec1) := by decide +kernel
 have n2 : (frameB rec1).length = 22 := by decide +kernel
 cases h with
 | nil => rcases hk with hk | hk
          · rw [n2] at hk; cases hk
          · rw [n1] at hk; exact absurd rfl hk
 | step h1 h2 h3 =>
   cases h1 with
   | nil => rw [n1]; exact ⟨rfl, rfl⟩
   | step h4 h5 h6 =>
     cases h4 with
     | nil => rw [n1, n2] at h2; simp at h2
     | step h7 h8 h9 =>
       have h0 := (Took.step (Took.step h7 h8 h9) h5 h6).le; rw [n2] at h0; have h1 := h0.1; have h2 := h0.2; simp only [List.length_append, List.length_cons, List.length_nil] at h2; omega
theorem ad_open5 {w0 w : World} {bd : Nat} {S : DS} (h : Ad w0 w bd S A5) : Calls Tryz.prog 40 #[.pointer (some ⟨bd, 0, none⟩), .string logB, .int .i64 100] w fun e w' => ∃ bl S' L A', e = .returned (.tuple #[.pointer (some ⟨bl, 0, none⟩), .int .i64 0]) ∧ Al w0 w' bd bl S' L A' ⟨[0], [rec1], 22, false, 100⟩ ∧ True := by
 have v0 := h.v0; have hl : absP S = A5.l := congrArg DA.l h.a; have hd : S.down = false := congrArg DA.down h.a; have hs : S.steps = A5.steps := congrArg DA.steps h.a; have hs4 : A5.steps = 2 := by decide +kernel
 have hn4 : numsOf (nmS A5.l) = [0] := by decide +kernel
 have hd4 : (dRead A5 (fileB logB 0)).1 = 0 := by decide +kernel
 have hb4 : dBytes A5 (fileB logB 0) = frameB rec1 := by decide +kernel
 have hz4 : ∀ s ∈ nmS A5.l, s.size ≤ 1000 := by decide +kernel
 refine (open_one h.disk h.gb h.vars (fun b hb => h.off b (by omega)) hd (by omega) (by rw [hl]; exact hz4) 100 (by omega) (n := 0) (by rw [hl]; exact hn4)).mono ?_; rintro e w' (⟨hne, _⟩ | ⟨n, c, bl, S', L', hne, he, hdl, hof, hr⟩)
 · rw [hl, hn4] at hne
   cases hne
 · rw [hl, hn4] at hne
   obtain rfl : (0 : Int) = n := by injection hne
   unfold LdR at hr; rw [h.a, hb4] at hr; have hfr : Below w0.heap.size w0 w' := ⟨hof.os.trans h.fr.os, hof.tape.trans h.fr.tape, hof.output.trans h.fr.output, Nat.le_trans h.fr.size hof.size, fun b hb => (hof.block b (Nat.lt_of_lt_of_le hb h.fr.size) (h.off b hb)).trans (h.fr.block b hb)⟩
   have hoff : ∀ b, b < w0.heap.size → S'.role b = .none ∧ L'.own b = 0 := fun b hb => hof.off b (Nat.lt_of_lt_of_le hb h.fr.size) (h.off b hb)
   rcases hr with ⟨q, _⟩ | ⟨_, ⟨rfl, _, k, rs, ht, hk, hx, _⟩ | ⟨k, rs, ht, ⟨hL, hN⟩, hk⟩⟩
   · exact absurd hd4 q
   · obtain ⟨_, rfl⟩ := took_rec ht (Or.inr hx)
     exact absurd hk (by decide +kernel)
   · rcases hk with ⟨hk, rfl, _⟩ | ⟨hk, hx, _⟩
     · obtain ⟨rfl, rfl⟩ := took_rec ht (Or.inl hk)
       rw [if_pos rfl] at he; exact ⟨bl, S', L', _, he, ⟨hdl, rfl, hL, hN, hfr, hoff⟩, trivial⟩
     · obtain ⟨_, rfl⟩ := took_rec ht (Or.inr (by rw [hx]; decide))
       exact absurd hk (by decide +kernel)
end Go.Proofs.YtconkienlcegaaaGreatDoor
