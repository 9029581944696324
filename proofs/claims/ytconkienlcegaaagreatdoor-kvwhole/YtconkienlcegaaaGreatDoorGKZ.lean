/- KW, KX, KY, KZ -/
import Derived.Test.YtconkienlcegaaaGreatDoorGKV
import Derived.Test.YtconkienlcegaaaGreatDoorGKQ
namespace Go.Proofs.YtconkienlcegaaaGreatDoor
open Go.RowKit Go.Maps Go.Joins Go.Shelf
set_option linter.unusedSimpArgs false
set_option linter.unusedVariables false
/-- The example's change, laid anew. -/
theorem chs1 (w : World) : ChsV (((w.alloc (.cells #[.int .u8 97] 5 (1, 2))).alloc (.cells #[.int .u8 98, .int .u8 99] 5 (2, 3))).alloc (.cells #[.slice (some ⟨w.heap.size, 0, none⟩) 1 1, .slice (some ⟨w.heap.size + 1, 0, none⟩) 2 2, .bool false] 90)) (fun x => x < (((w.alloc (.cells #[.int .u8 97] 5 (1, 2))).alloc (.cells #[.int .u8 98, .int .u8 99] 5 (2, 3))).alloc (.cells #[.slice (some ⟨w.heap.size, 0, none⟩) 1 1, .slice (some ⟨w.heap.size + 1, 0, none⟩) 2 2, .bool false] 90)).heap.size) (.slice (some ⟨w.heap.size + 1 + 1, 0, none⟩) 1 1) [ch1] := by
 have hh := fun k o hk => allocs_heap [Obj.cells #[.int .u8 97] 5 (1, 2), .cells #[.int .u8 98, .int .u8 99] 5 (2, 3), .cells #[.slice (some ⟨w.heap.size, 0, none⟩) 1 1, .slice (some ⟨w.heap.size + 1, 0, none⟩) 2 2, .bool false] 90] w k o hk
 have hsz := allocs_size [Obj.cells #[.int .u8 97] 5 (1, 2), .cells #[.int .u8 98, .int .u8 99] 5 (2, 3), .cells #[.slice (some ⟨w.heap.size, 0, none⟩) 1 1, .slice (some ⟨w.heap.size + 1, 0, none⟩) 2 2, .bool false] 90] w; have e : [Obj.cells #[.int .u8 97] 5 (1, 2), .cells #[.int .u8 98, .int .u8 99] 5 (2, 3), .cells #[.slice (some ⟨w.heap.size, 0, none⟩) 1 1, .slice (some ⟨w.heap.size + 1, 0, none⟩) 2 2, .bool false] 90].foldl World.alloc w = ((w.alloc (.cells #[.int .u8 97] 5 (1, 2))).alloc (.cells #[.int .u8 98, .int .u8 99] 5 (2, 3))).alloc (.cells #[.slice (some ⟨w.heap.size, 0, none⟩) 1 1, .slice (some ⟨w.heap.size + 1, 0, none⟩) 2 2, .bool false] 90) := rfl; rw [e] at hh hsz; generalize ((w.alloc (.cells #[.int .u8 97] 5 (1, 2))).alloc (.cells #[.int .u8 98, .int .u8 99] 5 (2, 3))).alloc (.cells #[.slice (some ⟨w.heap.size, 0, none⟩) 1 1, .slice (some ⟨w.heap.size + 1, 0, none⟩) 2 2, .bool false] 90) = V at hh hsz ⊢; have h0 : V.heap[w.heap.size]? = some (.cells #[.int .u8 97] 5 (1, 2)) := hh 0 _ rfl; have h1 := hh 1 _ rfl; have h2 := hh 2 _ rfl; have hk : KBD V (fun x => x < V.heap.size) (.slice (some ⟨w.heap.size, 0, none⟩) 1 1) [97] := by
  refine ⟨Or.inr ⟨_, _, rfl, fun j u hu => ?_⟩, fun x hx => ?_, by simp⟩
  · rw [Addr.add_lit, Nat.zero_add, cell_of_block h0]
    simpa [vB] using hu
  · have h9 := dBlock_own hx
    injection h9 with h9
    rw [← h9]; exact heap_lt h0
 have hv : KBD V (fun x => x < V.heap.size) (.slice (some ⟨w.heap.size + 1, 0, none⟩) 2 2) [98, 99] := by
  refine ⟨Or.inr ⟨_, _, rfl, fun j u hu => ?_⟩, fun x hx => ?_, by simp⟩
  · rw [Addr.add_lit, Nat.zero_add, cell_of_block h1]
    simpa [vB] using hu
  · have h9 := dBlock_own hx
    injection h9 with h9
    rw [← h9]; exact heap_lt h1
 have hone : ∀ (i : Nat) (c : Ch), [ch1][i]? = some c → i = 0 ∧ c = ch1 := fun i c hc => by
  cases i with
  | zero => simp at hc; exact ⟨rfl, hc.symm⟩
  | succ i => simp at hc
 refine ChsV.mk [ch1] (some ⟨w.heap.size + 1 + 1, 0, none⟩) 1 (w.heap.size + 1 + 1) 0 (fun _ => .slice (some ⟨w.heap.size, 0, none⟩) 1 1) (fun _ => .slice (some ⟨w.heap.size + 1, 0, none⟩) 2 2) (by simp) (by omega) (by simp) (fun _ => rfl) (fun _ => heap_lt h2) ?_ ?_ ?_ ?_ ?_
 · intro i c hc
   obtain ⟨rfl, rfl⟩ := hone i c hc; exact (cell_of_block h2 0).trans rfl
 · intro i c hc
   obtain ⟨rfl, rfl⟩ := hone i c hc; exact (cell_of_block h2 1).trans rfl
 · intro i c hc
   obtain ⟨rfl, rfl⟩ := hone i c hc; exact (cell_of_block h2 2).trans rfl
 · intro i c hc
   obtain ⟨rfl, rfl⟩ := hone i c hc; exact hk
 · intro i c hc
   obtain ⟨rfl, rfl⟩ := hone i c hc; exact hv
theorem put_nil1 : doPs [] [ch1] = [(kS [97], [98, 99])] := by decide +kernel
theorem m_one {m : List (List UInt8 × Value × List Int)} (h : mk m = [(kS [97], [98, 99])]) : m.length = 1 ∧ bytK m (kS [97]) = [98, 99] ∧ (lookG m (kS [97])).isSome = true := by
 cases m with
 | nil => simp [mk, mapG] at h
 | cons p r =>
   cases r with
   | cons q t => simp [mk, mapG] at h
   | nil =>
     simp [mk, mapG] at h
     obtain ⟨h1, h2⟩ := h; refine ⟨rfl, ?_, ?_⟩
     · simp [bytK, lookG, h1, h2]
     · simp [lookG, h1]
theorem kconvA (w : World) : (convert 23 23 (.slice (some ⟨w.heap.size, 0, none⟩) 1 1)).run Tryz.prog (w.alloc (.cells #[.int .u8 97] 5)) = .ok (.slice (some ⟨w.heap.size, 0, none⟩) 1 1) (w.alloc (.cells #[.int .u8 97] 5 (1, 2))) := Lib.run_convert_bytes_const (P := Tryz.prog) w 23 5 #[.int .u8 97] 1 1 Tryz.underlying23 Tryz.underlying5
theorem kconvB (w : World) : (convert 23 23 (.slice (some ⟨w.heap.size + 1, 0, none⟩) 2 2)).run Tryz.prog ((w.alloc (.cells #[.int .u8 97] 5 (1, 2))).alloc (.cells #[.int .u8 98, .int .u8 99] 5)) = .ok (.slice (some ⟨w.heap.size + 1, 0, none⟩) 2 2) ((w.alloc (.cells #[.int .u8 97] 5 (1, 2))).alloc (.cells #[.int .u8 98, .int .u8 99] 5 (2, 3))) := run_convert_bytes_const_at (P := Tryz.prog) (w.alloc (.cells #[.int .u8 97] 5 (1, 2))) 23 5 #[.int .u8 98, .int .u8 99] 2 2 (w.heap.size + 1) (by simp) Tryz.underlying23 Tryz.underlying5
set_option maxRecDepth 100000 in
set_option maxHeartbeats 8000000 in
theorem kalive_any {w : World} (hV : Vars w) : Calls Tryz.prog 10 #[] w fun e w' => e = .returned (.bool true) ∧ Below w.heap.size w w' := by
 have hv5 : 5 ≤ w.heap.size := by have := hV.lt; omega
 have HV : Hid (Vars w ∧ 5 ≤ w.heap.size) := ⟨hV, hv5⟩
 clear hV hv5; have hcvA := kconvA; have hcvB := kconvB; have T1 : Hid True := trivial; go_enter Tryz.func10, Tryz.ntmps10; go_wp2_with (first
  | (have _ := T1
     go_at_call 8
     clear T1; refine Calls.mono (ad_new HV.out.1) ?_; rintro e w1 ⟨bd, S1, rfl, hd1⟩; have HO1 : Hid (∀ (_ : Unit), _) := fun _ => kopen_any (QA := fun A => A = A0) (ls := []) HV.out.2 ((ad_open hd1).mono fun e w' ⟨bl, L, he, hal⟩ => ⟨bl, S1, L, A0, he, hal, rfl⟩) rfl (fun l hl => by cases hl) (by simp) (fun x hx => by cases hx)
     clear hd1; have T2 : Hid True := trivial)
  | (have _ := T2
     go_at_call 11
     clear T2; refine Calls.mono (HO1.out ()) ?_; rintro e w2 ⟨bl2, b2, bm2, S2, L2, A2, m2, rfl, hk2, rfl, hm2, hl2⟩; have HK2 : Hid (AK w w2 bd bl2 b2 bm2 S2 L2 A0 P0 false m2 ∧ mk m2 = [] ∧ m2.length = 0) := ⟨hk2, hm2, by simpa using hl2⟩
     clear hk2 hm2 hl2 HO1; have T3 : Hid True := trivial)
  | (have _ := T3
     go_at_call 13
     clear T3; refine Calls.mono (put_ok (HK2.out.1.below (w' := ((w2.alloc (.cells #[.int .u8 97] 5 (1, 2))).alloc (.cells #[.int .u8 98, .int .u8 99] 5 (2, 3))).alloc (.cells #[.slice (some ⟨w2.heap.size, 0, none⟩) 1 1, .slice (some ⟨w2.heap.size + 1, 0, none⟩) 2 2, .bool false] 90)) (by go_grown)) okP0 (chs1 w2) ok1 kb1 (by rw [enc1]; decide) (by rw [HK2.out.2.2]; decide) (by have := rec1_eq; unfold recB at this; rw [this]; exact t1_0) (by have := rec1_eq; unfold recB at this; rw [this]; exact okP1) (by have := rec1_eq; unfold recB at this; rw [this]; exact t2_0)) ?_; rintro e w3 ⟨rfl, S3, L3, m3, hk3, hm3, hl3⟩; have hk3' : AK w w3 bd bl2 b2 bm2 S3 L3 t2.2.1 t2.2.2 false m3 := by
      have := rec1_eq; unfold recB at this; rw [this] at hk3; exact hk3
     have HK3 : Hid (AK w w3 bd bl2 b2 bm2 S3 L3 t2.2.1 t2.2.2 false m3) := hk3'; clear hk3 hk3' hm3 hl3; have T4 : Hid True := trivial)
  | (have _ := T4
     go_at_call 18
     clear T4; refine Calls.mono (al_boot HK3.out.al HV.out.2) ?_; rintro e w4 ⟨rfl, S4, hd4⟩; have HO4 : Hid (∀ (_ : Unit), _) := fun _ => kopen_any (QA := fun _ => True) (ls := [[ch1]]) HV.out.2 (ad_open5 hd4) (by rw [List.map_cons, rec1_eq]; rfl) (fun l hl => by obtain rfl := List.mem_singleton.1 hl; exact ⟨ok1, kb1, by rw [enc1]; decide⟩) (by simp) (fun x hx => by simp at hx; omega)
     clear hd4; have T5 : Hid True := trivial)
  | (have _ := T5
     go_at_call 11
     clear T5; refine Calls.mono (HO4.out ()) ?_; rintro e w5 ⟨bl5, b5, bm5, S5, L5, A5', m5, rfl, hk5, _, hm5, hl5⟩; have hm5' : mk m5 = [(kS [97], [98, 99])] := by rw [hm5]; exact put_nil1
     have HK5 : Hid (AK w w5 bd bl5 b5 bm5 S5 L5 A5' ⟨[0], [rec1], 22, false, 100⟩ false m5 ∧ m5.length = 1 ∧ bytK m5 (kS [97]) = [98, 99] ∧ (lookG m5 (kS [97])).isSome = true) := ⟨hk5, m_one hm5'⟩
     clear hk5 hm5 hl5 hm5' HO4; have T6 : Hid True := trivial)
  | (have _ := T6
     go_at_call 24
     clear T6; refine Calls.mono (kget_any (HK5.out.1.below (w' := w5.alloc (.cells #[.int .u8 97] 5 (1, 2))) (by go_grown)).ks (key := [97]) (Or.inr ⟨⟨w5.heap.size, 0, none⟩, 1, rfl, fun j u hu => by rw [Addr.add_lit, Nat.zero_add, cell_of_block (heap_alloc_new _ _)]; simpa [vB] using hu⟩) (by simp)) ?_; rintro e w6 ⟨v6, rfl, hrow, hb6⟩; rw [HK5.out.2.2.1] at hrow; rw [HK5.out.2.2.2]; obtain ⟨a6, c6, rfl⟩ := row_form hrow; have HK6 : Hid (AK w w6 bd bl5 b5 bm5 S5 L5 A5' ⟨[0], [rec1], 22, false, 100⟩ false m5 ∧ BytesV w6 (.slice a6 2 c6) [98, 99]) := ⟨(HK5.out.1.below (w' := w5.alloc (.cells #[.int .u8 97] 5 (1, 2))) (by go_grown)).below hb6, BytesV.of_own hrow⟩
     clear hrow hb6; have T7 : Hid True := trivial)
  | (have _ := T7
     go_at_call 31
     clear T7; refine Calls.mono (batch_any (chs1 w6)) ?_; rintro e w7 ⟨hb7, hr7⟩; have hb67 : Below w6.heap.size w6 w7 := Below.trans (by go_grown) (hb7.mono (by simp; omega)); obtain ⟨a7, c7, rfl, hrow7⟩ : ∃ a7 c7, e = .returned (.tuple #[.slice a7 9 c7, .int .i64 0]) ∧ BytesV w7 (.slice a7 9 c7) [0, 1, 97, 0, 0, 0, 2, 98, 99] := by
      rcases hr7 with ⟨⟨c, hc, hno⟩, _⟩ | ⟨_, ⟨_, v1, he, hrow⟩ | ⟨hbig, _⟩⟩
      · exact absurd (ok1 c hc).1 hno
      · rw [enc1] at hrow
        obtain ⟨a1, c1, rfl⟩ := row_form hrow; exact ⟨a1, c1, he, BytesV.of_own hrow⟩
      · rw [enc1] at hbig; simp at hbig
     have h6v : BytesV w7 (.slice a6 2 c6) [98, 99] := HK6.out.2.keep fun x hx => hb67.block x (HK6.out.2.lt x hx)
     have hcv := kconv_b h6v; have HK7 : Hid (AK w w7 bd bl5 b5 bm5 S5 L5 A5' ⟨[0], [rec1], 22, false, 100⟩ false m5 ∧ BytesV w7 (.slice a7 9 c7) [0, 1, 97, 0, 0, 0, 2, 98, 99]) := ⟨HK6.out.1.below hb67, hrow7⟩
     have hst : strOfNums [98, 99] = ⟨#[98, 99]⟩ := by decide +kernel
     rw [hst] at hcv; clear hb7 hr7 hb67 hrow7 h6v hst; have T8 : Hid True := trivial)
  | (have _ := T8
     go_at_call 27
     clear T8; refine Calls.mono (klen_any HK7.out.1.ks) ?_; rintro e w8 ⟨rfl, hw8⟩; obtain rfl := hw8.symm; rw [HK5.out.2.1]; have T9 : Hid True := trivial)
  | (have _ := T9
     go_at_call 26
     clear T9; refine Calls.mono (klsame_t (xs := [0, 1, 97, 0, 0, 0, 2, 98, 99]) (HK7.out.2.keep fun x hx => heap_alloc_old _ _ _ (HK7.out.2.lt x hx)) (Or.inr ⟨⟨w7.heap.size, 0, none⟩, 9, rfl, fun j u hu => by rw [Addr.add_lit, Nat.zero_add, cell_of_block (heap_alloc_new _ _)]; simpa [vB] using hu⟩)) ?_; rintro e w9 ⟨rfl, hw9⟩; obtain rfl := hw9.symm))
 go_returns
 exact ⟨rfl, HK7.out.1.al.fr.alloc HK7.out.1.al.fr.size _⟩
/-- One encoding of one list. -/
def okM (l : List Ch) : Prop := okL l ∧ ∀ c ∈ l, KByt c.key ∧ KByt c.val
theorem encK_front : ∀ (l0 l : List Ch) (rest : List Int), okL l0 → okL l → encK l = encK l0 ++ rest → ∃ l1, l = l0 ++ l1 ∧ encK l1 = rest
 | [], l, rest, _, _, h => ⟨l, rfl, by simpa [encK] using h⟩
 | c :: l0, [], rest, _, _, h => by
   have := congrArg List.length h; rw [encK_cons, List.length_append, List.length_append, encC_length] at this; simp [encK] at this; omega
 | c :: l0, d :: l, rest, h0, h1, h => by
   rw [encK_cons, encK_cons, List.append_assoc] at h; have hc := h0 c (by simp); have hd := h1 d (by simp); have e1 := nxC_enc d hd.1 hd.2.1 hd.2.2 (encK l); rw [h, nxC_enc c hc.1 hc.2.1 hc.2.2] at e1; injection e1 with e1
   injection e1 with e1 _
   subst e1; have h2 := List.append_cancel_left h; obtain ⟨l1, e2, e3⟩ := encK_front l0 l rest (fun x hx => h0 x (by simp [hx])) (fun x hx => h1 x (by simp [hx])) h2; exact ⟨l1, by rw [e2]; rfl, e3⟩
/-- Behind the first changes come no others. -/
theorem encK_stop {l0 : List Ch} {bs : List Int} {k : Nat} (h0 : okL l0) (he : encK l0 = bs.take k) (hk : k < bs.length) (hn : nxC (bs.drop k) = none) : ∀ l, okL l → encK l ≠ bs := fun l hl e => by
 obtain ⟨l1, e1, e2⟩ := encK_front l0 l (bs.drop k) h0 hl (by rw [e, he, List.take_append_drop]); cases l1 with
 | nil =>
   have h9 := congrArg List.length e2; rw [List.length_drop] at h9; have : (encK []).length = 0 := rfl; omega
 | cons d r =>
   have hd := hl d (by rw [e1]; simp); rw [← e2, encK_cons, nxC_enc d hd.1 hd.2.1 hd.2.2] at hn; cases hn
attribute [local go_sem] Oper.semAt_some
end Go.Proofs.YtconkienlcegaaaGreatDoor
namespace Go.Proofs.YtconkienlcegaaaGreatDoor
open Go.RowKit Go.Maps Go.Joins Go.Shelf
set_option linter.unusedSimpArgs false
set_option linter.unusedVariables false
/-- A change that is gone has no value. -/
def normC (c : Ch) : Ch := if c.gone then { c with val := [] } else c
theorem norm_okL {cs : List Ch} (h : ∀ c ∈ cs.map normC, okK c) (hl : (encK (cs.map normC)).length ≤ 65535) : okL (cs.map normC) := fun c hc => by
 refine ⟨h c hc, ?_, ?_⟩
 · obtain ⟨i, hi, e⟩ := List.getElem_of_mem hc
   have h9 := encK_big (cs := cs.map normC) (k := i) (c := c) (by rw [List.getElem?_eq_getElem hi, e]); rw [encC_length] at h9; by_cases hg : c.gone = true
   · obtain ⟨d, _, rfl⟩ := List.mem_map.1 hc
     unfold normC at hg ⊢; split
     · simp
     · rename_i h0
       rw [if_neg h0] at hg; exact absurd hg h0
   · rw [if_neg hg] at h9
     omega
 · intro hg
   obtain ⟨d, _, rfl⟩ := List.mem_map.1 hc; unfold normC at hg ⊢; split
   · rfl
   · rename_i h0
     rw [if_neg h0] at hg; exact absurd hg h0
theorem norm_byt {cs : List Ch} (h : ∀ c ∈ cs, KByt c.key ∧ KByt c.val) : ∀ c ∈ cs.map normC, KByt c.key ∧ KByt c.val := fun c hc => by
 obtain ⟨d, hd, rfl⟩ := List.mem_map.1 hc; unfold normC; split
 · exact ⟨(h d hd).1, fun x hx => by cases hx⟩
 · exact h d hd
theorem kb4 (n : Nat) : KByt (k4 n) := fun c hc => by
 simp [k4] at hc
 omega
theorem kb2 (n : Nat) : KByt (k2 n) := fun c hc => by
 simp [k2] at hc
 omega
theorem enc_byt : ∀ {l : List Ch}, (∀ c ∈ l, KByt c.key ∧ KByt c.val) → KByt (encK l)
 | [], _ => fun c hc => by cases hc
 | d :: l, h => by
   rw [encK_cons]; intro x hx; rcases List.mem_append.1 hx with hx | hx
   · unfold encC at hx
     rcases List.mem_append.1 hx with hx | hx
     · exact kb2 _ x hx
     · rcases List.mem_append.1 hx with hx | hx
       · exact (h d (by simp)).1 x hx
       · split at hx
         · exact kb4 _ x hx
         · rcases List.mem_append.1 hx with hx | hx
           · exact kb4 _ x hx
           · exact (h d (by simp)).2 x hx
   · exact enc_byt (fun c hc => h c (by simp [hc])) x hx
end Go.Proofs.YtconkienlcegaaaGreatDoor
