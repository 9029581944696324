/- NJ, LT, LU -/
import Derived.Test.YtconkienlcegaaaGreatDoorGLH
import Derived.Test.YtconkienlcegaaaGreatDoorNI
import Derived.Test.YtconkienlcegaaaGreatDoorGLW
import Derived.Test.YtconkienlcegaaaGreatDoorGKQ
namespace Go.Proofs.YtconkienlcegaaaGreatDoor
open Go.RowKit Go.Maps Go.Joins Go.Sort Go.Shelf
set_option linter.unusedVariables false
set_option linter.unusedSimpArgs false
/-- What Snap does. -/
def SnapR (br : Bool) (m : List (List UInt8 × Value × List Int)) (rs : List (List Int)) (sc : Nat) (br' : Bool) (rs' : List (List Int)) (sc' : Nat) : Prop :=
 (br' = br ∧ rs' = rs ∧ sc' = sc) ∨
 (br = false ∧ (encK (allC m)).length ≤ 65535 ∧ br' = true ∧ sc' = rs.length ∧ (rs' = rs ∨ rs' = rs ++ [1 :: encK (allC m)])) ∨
 (br = false ∧ (encK (allC m)).length ≤ 65535 ∧ br' = false ∧ sc' = rs'.length ∧ ∃ k, k ≤ rs.length ∧ rs' = (rs ++ [1 :: encK (allC m)]).drop k)
def SnapE (W w : World) (bd b bm : Nat) (N : Nat → Prop) (br : Bool) (m : List (List UInt8 × Value × List Int)) (rs : List (List Int)) (sc st : Nat) (e : Ending) (w' : World) : Prop :=
 ∃ c br' rs' sc' n1, e = .returned (.int .i64 c) ∧ SI W w' bd b bm N br' m rs' sc' (st + 20) n1 ∧ SFr w w' N b bm ∧ SnapR br m rs sc br' rs' sc'
set_option maxHeartbeats 4000000 in
theorem ksnap_any {W w : World} {bd b bm : Nat} {n0 : Int} {N : Nat → Prop} {br : Bool} {m : List (List UInt8 × Value × List Int)} {rs : List (List Int)} {sc st : Nat} (h : SI W w bd b bm N br m rs sc st n0) (hst : st ≤ 3000000000000000000) (hq : br = false → SrtG m ∧ m.length ≤ 2000000000000 ∧ ∀ p ∈ m, p.1.length ≤ 64) :
 Calls Tryz.prog 16 #[.pointer (some ⟨b, 0, none⟩)] w fun e w' => SnapE W w bd b bm N br m rs sc st e w' := by
 have c2 := h.st; cases br with
 | true =>
   have H : Hid (SI W w bd b bm N true m rs sc st n0) := h; clear h; go_enter Tryz.func16, Tryz.ntmps16; go_wp2; go_ret; exact ⟨74, true, rs, sc, n0, rfl, H.out.later (by omega), ⟨Nat.le_refl _, fun _ _ => rfl⟩, Or.inl ⟨rfl, rfl, rfl⟩⟩
 | false =>
 have H : Hid (SI W w bd b bm N false m rs sc st n0) := h; have HL : Hid (SrtG m ∧ m.length ≤ 2000000000000 ∧ (∀ p ∈ m, p.1.length ≤ 64) ∧ st ≤ 3000000000000000000) := ⟨(hq rfl).1, (hq rfl).2.1, (hq rfl).2.2, hst⟩
 clear h hq hst; have T1 : Hid True := trivial; go_enter Tryz.func16, Tryz.ntmps16; go_wp2_with (first
  | (have _ := T1
     go_at_call 52
     clear T1; refine Calls.mono (rising_any _ _ _ _ _ _ _) ?_; rintro e w1 ⟨rfl, hw1⟩; have hb1 : Below w.heap.size w w1 := by rw [hw1]; go_grown
     obtain ⟨bl, S, L, A, P, ini, la, hk, hr, ho⟩ := H.out.below hb1; have x1 : w1.heap[w.heap.size]? = some (.cells #[.pointer (some ⟨b, 0, none⟩)] 31) := by rw [hw1]; exact (heap_alloc_old _ _ _ (by simp; omega)).trans ((heap_alloc_old _ _ _ (by simp)).trans (heap_alloc_new _ _))
     have x2 : w1.heap[w.heap.size + 1]? = some (.cells #[.slice none 0 0] 23) := by
      rw [hw1]; refine (heap_alloc_old _ _ _ (by simp)).trans ?_; have := heap_alloc_new (w.alloc (.cells #[.pointer (some ⟨b, 0, none⟩)] 31)) (.cells #[.slice none 0 0] 23)
      simpa using this
     have x3 : w1.heap[w.heap.size + 2]? = some (.cells #[.slice none 0 0] 23) := by
      rw [hw1]; have := heap_alloc_new ((w.alloc (.cells #[.pointer (some ⟨b, 0, none⟩)] 31)).alloc (.cells #[.slice none 0 0] 23)) (.cells #[.slice none 0 0] 23)
      simpa using this
     have HW : Hid (∀ (_ : Unit), _) := fun _ => write2_any hk.ks (fun x hx => hx.1.1) HL.out.1 HL.out.2.1 HL.out.2.2.1 ((cell_of_block x1 0).trans rfl) ((cell_of_block x2 0).trans rfl) ((cell_of_block x3 0).trans rfl)
     have HB1 : Hid (Below w.heap.size w w1) := hb1; clear hw1 hb1 hk hr ho x1 x2 x3; have T2 : Hid True := trivial))
 refine Calls.mono (HW.out ()) ?_; rintro e w2 ⟨hb2, hr2⟩; have HB2 : Hid (Below w.heap.size w w2) := HB1.out.trans (hb2.mono HB1.out.size); have HI2 : Hid (SI W w2 bd b bm N false m rs sc st n0) := H.out.below HB2.out; have HF2 : Hid (SFr w w2 N b bm) := SFr.of HB2.out H.out.nlt; have HS1 : Hid (w.heap.size ≤ w1.heap.size) := HB1.out.size; rcases hr2 with ⟨hsm, v2, rfl, hrow⟩ | ⟨_, rfl⟩
 rotate_left
 · clear hb2 HW c2
   go_wp2; go_ret
   exact ⟨3, false, rs, sc, n0, rfl, HI2.out.later (by omega), HF2.out, Or.inl ⟨rfl, rfl, rfl⟩⟩
 obtain ⟨a2, c2', hv2⟩ := row_form hrow; subst hv2; have HO : Hid ((encK (allC m)).length ≤ 65535 ∧ w2.ownsRow w.heap.size 5 1 (.slice a2 (encK (allC m)).length c2') (encK (allC m)).length (vB (encK (allC m)))) := ⟨hsm, own_base hrow HS1.out⟩
 obtain ⟨n2, hn2⟩ : ∃ n2, n2 = (encK (allC m)).length := ⟨_, rfl⟩
 rw [← hn2]; have HN2 : Hid (n2 = (encK (allC m)).length) := hn2; clear hb2 HW c2 hsm hrow hn2; obtain ⟨bl, S, L, A, P, ini, la, hk, hr, ho⟩ := HI2.out; have c0 : w2.cell? ⟨b, 0, none⟩ = some (.pointer (some ⟨bl, 0, none⟩)) := (cell_of_block hk.ks.st 0).trans rfl; have hLN : LN L := by
  have hg := hk.lgok (by have := HL.out.2.2.2; omega); have e2 : L.fs = P.fs := by rw [← hk.lg.p]; rfl
  have e3 : L.rs.length = P.rs.length := by rw [← hk.lg.p]; simp [absL]
  exact ⟨by rw [e2]; exact hg.num, by have := hg.rs; omega⟩
 have hEn : endL L = n0 + rs.length := by
  have e4 : endL L = P.en := by rw [← hk.lg.p]; show fst L + L.rs.length = L.fs.headD 0 + ((L.rs.map (·.2)).length : Int); rw [List.length_map]; rfl
  rw [e4, hk.tv.en, hr]
 have HE : Hid (∀ (_ : Unit), _) := fun _ => end_any hk.lg.dl.log hLN
 rw [hEn] at HE; obtain ⟨nE, hnE⟩ : ∃ nE : Int, nE = n0 + rs.length := ⟨_, rfl⟩
 rw [← hnE] at HE; have HNE : Hid (nE = n0 + rs.length) := hnE; clear hk hr ho hLN hEn hnE; have T3 : Hid True := trivial; go_wp2_with (first
  | (have _ := T3
     go_at_call 42
     clear T3; refine Calls.mono (HE.out ()) ?_; rintro e w3 ⟨rfl, hw3⟩; have hb3 : Below w2.heap.size w2 w3 := by obtain ⟨q3, rfl⟩ := hw3; exact below_drewN' _ _
     have H3 : Hid (Below w.heap.size w w3 ∧ w3.ownsRow w.heap.size 5 1 (.slice a2 n2 c2') (encK (allC m)).length (vB (encK (allC m)))) := ⟨HB2.out.trans (hb3.mono HB2.out.size), by rw [HN2.out]; exact ownsRow_below HO.out.2 hb3⟩
     clear hw3 hb3 HE c0; have T4 : Hid True := trivial)
  | (have _ := T4
     at_builtin
     clear T4; refine wpList_append_b rfl _ _ rfl w.heap.size (.slice (some ⟨w3.heap.size, 0, none⟩) 1 1) (.slice a2 n2 c2') [1] (encK (allC m)) rfl (own_base (World.ownsRow_lit w3 #[.int .u8 1] 1 (Nat.le_refl _) (by decide) rfl) H3.out.1.size) rfl (by have h9 := BytesV.of_own (World.ownsRow.alloc H3.out.2 (.cells #[.int .u8 1] 5)); exact h9) (by have := HO.out.1; simp; omega) (by have := H3.out.1.size; simp; omega) ?_; intro v4 w4 hrow4 hg4 ha4; obtain ⟨g4, c4, rfl, hc4, hm4⟩ := row_form0 hrow4 (by simp); have hb4 : Below w.heap.size w w4 := Below.grown (w := w3.alloc (.cells #[.int .u8 1] 5)) (H3.out.1.alloc H3.out.1.size _) hg4 (by have := H3.out.1.size; simp; omega) (fun k hk => by have h9 : some w3.heap.size = some k := hk; injection h9 with h9; rw [← h9]; exact H3.out.1.size); have H4 : Hid (Below w.heap.size w w4 ∧ w4.ownsRow w.heap.size 5 1 (.slice (some ⟨g4, 0, none⟩) (1 :: encK (allC m)).length c4) (1 :: encK (allC m)).length (vB (1 :: encK (allC m)))) := ⟨hb4, hrow4⟩
     clear hrow4 hg4 ha4 hb4 hc4 hm4; have e9 : ([1] ++ encK (allC m)).length = (1 :: encK (allC m)).length := rfl; rw [e9]; clear e9; have HI4 : Hid (SI W w4 bd b bm (fun x => N x ∨ x = g4) false m rs sc st n0) := H.out.grown (r := none) ⟨H4.out.1.os, H4.out.1.tape, H4.out.1.output, H4.out.1.size, fun k hk _ => H4.out.1.block k hk⟩ (fun x hx => by cases hx) (fun x hx => by
      have hgl := World.ownsRow.lt H4.out.2 g4 rfl; rcases hx with hx | rfl
      · exact ⟨Or.inl hx, Nat.lt_of_lt_of_le (H.out.nlt x hx) H4.out.1.size⟩
      · exact ⟨Or.inr hgl.1, hgl.2⟩)
     have HS : Hid (∀ (_ : Unit), _) := fun _ => save_any HI4.out HL.out.2.2.2 (va := some ⟨g4, 0, none⟩) (vc := c4) (bs := 1 :: encK (allC m)) (BytesV.of_own H4.out.2) (fun x hx => by have h9 := dBlock_own hx; have h8 : some g4 = some x := h9; injection h8 with h8; exact Or.inr h8.symm) (by have := HO.out.1; simp; omega)
     obtain ⟨n4, hn4⟩ : ∃ n4, n4 = (1 :: encK (allC m)).length := ⟨_, rfl⟩
     rw [← hn4] at HS ⊢; clear hn4; have T5 : Hid True := trivial)
  | (have _ := T5
     go_at_call 49
     clear T5; refine Calls.mono (HS.out ()) ?_; rintro e w5 ⟨c, br5, rs5, sc5, rfl, hi5, hf5, hr5⟩; have H5 : Hid (SI W w5 bd b bm (fun x => N x ∨ x = g4) br5 m rs5 sc5 (st + 3) n0 ∧ SFr w4 w5 (fun x => N x ∨ x = g4) b bm ∧ SvR rs (1 :: encK (allC m)) c br5 rs5 sc5) := ⟨hi5, hf5, hr5⟩
     obtain ⟨bl5, S5, L5, A5, P5, ini5, la5, hk5, hr55, ho5⟩ := hi5; have c05 : w5.cell? ⟨b, 0, none⟩ = some (.pointer (some ⟨bl5, 0, none⟩)) := (cell_of_block hk5.ks.st 0).trans rfl; have HK5 : Hid (SK W w5 bd bl5 b bm (fun x => N x ∨ x = g4) br5 m S5 L5 A5 P5 n0 ini5 la5 sc5 (st + 3) ∧ P5.rs = rs5 ∧ (br5 = false → P5.uns = false ∧ sc5 = rs5.length)) := ⟨hk5, hr55, ho5⟩
     clear hf5 hr5 HS hk5 hr55 ho5))
 · have hc0 : c ≠ 0 := by simpa using ‹(c != 0) = true›
   go_ret; have hF : SFr w w5 N b bm := (SFr.of H4.out.1 H.out.nlt).trans (H5.out.2.1.wide fun x hx => Or.inl hx)
   rcases H5.out.2.2 with ⟨h, _⟩ | ⟨_, rfl, rfl, h⟩
   · exact absurd h hc0
   · refine ⟨c, true, rs5, rs.length, n0, rfl, (H5.out.1.wide fun x hx => Or.inl hx).later (by omega), hF, Or.inr (Or.inl ⟨rfl, HO.out.1, rfl, rfl, ?_⟩)⟩
     rcases h with h | h
     · exact Or.inl h
     · exact Or.inr h.1
 · have hc0 : c = 0 := by simpa using ‹(c != 0) = false›
   subst hc0; have hs5 : br5 = false ∧ rs5 = rs ++ [1 :: encK (allC m)] ∧ sc5 = rs5.length := by
    rcases H5.out.2.2 with ⟨_, h⟩ | ⟨h, _⟩
    · exact h
    · exact absurd rfl h
   obtain ⟨rfl, e5, e6⟩ := hs5; have HT : Hid (∀ (_ : Unit), _) := fun _ => (show SK W w5 bd bl5 b bm (fun x => N x ∨ x = g4) false m S5 L5 A5 P5 n0 ini5 la5 P5.rs.length (st + 3) from by rw [HK5.out.2.1, ← e6]; exact HK5.out.1).trim (by have := HL.out.2.2.2; omega) nE
   have HE5 : Hid (rs5 = rs ++ [1 :: encK (allC m)]) := e5; clear e5 e6; have T6 : Hid True := trivial; go_wp2_with (first
    | (have _ := T6
       go_at_call 53
       clear T6; refine Calls.mono (HT.out ()) ?_; rintro e w6 ⟨c6, S6, L6, A6, P6, n1, ini6, rfl, hk6, hf6, hu6, hn6, hr6, hx6⟩; have H6 : Hid (SI W w6 bd b bm (fun x => N x ∨ x = g4) false m P6.rs P6.rs.length (st + 3 + 16) n1 ∧ SFr w5 w6 (fun x => N x ∨ x = g4) b bm ∧ ∃ k, k ≤ rs.length ∧ P6.rs = (rs ++ [1 :: encK (allC m)]).drop k) := ⟨SK.si hk6 rfl fun _ => ⟨hu6.trans (HK5.out.2.2 rfl).1, rfl⟩, hf6, (n1 - n0).toNat, by have := HNE.out; omega, by rw [hr6, HK5.out.2.1, HE5.out]⟩
       clear hk6 hf6 hu6 hn6 hr6 hx6 HT))
   go_ret; exact ⟨c6, false, P6.rs, P6.rs.length, n1, rfl, (H6.out.1.wide fun x hx => Or.inl hx).later (by omega), ((SFr.of H4.out.1 H.out.nlt).trans (H5.out.2.1.wide fun x hx => Or.inl hx)).trans (H6.out.2.1.wide fun x hx => Or.inl hx), Or.inr (Or.inr ⟨rfl, HO.out.1, rfl, rfl, H6.out.2.2⟩)⟩
end Go.Proofs.YtconkienlcegaaaGreatDoor
namespace Go.Proofs.YtconkienlcegaaaGreatDoor
open Go.RowKit Go.Maps Go.Joins Go.Shelf
set_option linter.unusedSimpArgs false
set_option linter.unusedVariables false
theorem chK_bad {b : List Int} {l0 : List Ch} {k n : Nat} {c : Ch} (hb : KByt b) (h0 : okL l0) (he : encK l0 = b.take k) (hn : nxC (b.drop k) = some (c, n)) (hs : snapOk [] (l0 ++ [c]) = false) : chK (1 :: b) = none := by
 unfold chK; cases hu : unK b.length b with
 | none => simp only [hu]
 | some l =>
   simp only [hu]; obtain ⟨h1, h2⟩ := unK_ok _ _ _ hb hu; have hl : okL l := fun c hc => ⟨(h2 c hc).1, (h2 c hc).2.2.2.2, (h2 c hc).2.1⟩
   have hq := nxC_ok (hb.drop k) hn; have hoc : okL (l0 ++ [c]) := fun x hx => by
    rcases List.mem_append.1 hx with h | h
    · exact h0 x h
    · obtain rfl := List.mem_singleton.1 h
      exact ⟨hq.2.2.2.1, hq.2.2.2.2.2.2.2, hq.2.2.2.2.1⟩
   have hen : encK l = encK (l0 ++ [c]) ++ b.drop (k + n) := by
    rw [h1, encK_append, he, show encK [c] = encC c from by simp [encK], ← hq.1, ← List.take_add, List.take_append_drop]
   obtain ⟨l1, e1, _⟩ := encK_front (l0 ++ [c]) l _ hoc hl hen; have : snapOk [] l = false := by rw [e1, snap_app, hs]; rfl
   simp [this]
/-- Within the rounds of sound; lv: the last key, lb: its bytes. -/
structure SoI (w W : World) (r : Loop) (rec lv : Value) (lb : List Int) : Prop where
 b0 : W.heap[w.heap.size]? = some (.cells #[rec] 23)
 b1 : W.heap[w.heap.size + 1]? = some (.cells #[.bool false] 4)
 b2 : W.heap[w.heap.size + 2]? = some (.cells #[lv] 23)
 b3 : W.heap[w.heap.size + 4]? = some (.deferred (some []))
 b4 : W.heap[w.heap.size + 5]? = some (.loop r)
 lk : BytesV W lv lb
 bl : Below w.heap.size w W
 sz : w.heap.size + 6 ≤ W.heap.size
theorem SoI.below {w W W2 : World} {r : Loop} {rec lv : Value} {lb : List Int} (h : SoI w W r rec lv lb) (hb : Below W.heap.size W W2) : SoI w W2 r rec lv lb := by
 have hs := h.sz; exact ⟨(hb.block _ (by omega)).trans h.b0, (hb.block _ (by omega)).trans h.b1, (hb.block _ (by omega)).trans h.b2, (hb.block _ (by omega)).trans h.b3, (hb.block _ (by omega)).trans h.b4, h.lk.keep fun x hx => hb.block x (h.lk.lt x hx), h.bl.trans (hb.mono h.bl.size), Nat.le_trans hs hb.size⟩
theorem SoI.put {w W : World} {r : Loop} {rec lv : Value} {lb : List Int} (h : SoI w W r rec lv lb) (r2 : Loop) : SoI w (W.putObj (w.heap.size + 5) (.loop r2)) r2 rec lv lb := by
 have hs := h.sz; have ho : ∀ x, x ≠ w.heap.size + 5 → (W.putObj (w.heap.size + 5) (.loop r2)).heap[x]? = W.heap[x]? := fun x hx => World.putObj_heap_other hx
 refine ⟨(ho _ (by omega)).trans h.b0, (ho _ (by omega)).trans h.b1, (ho _ (by omega)).trans h.b2, (ho _ (by omega)).trans h.b3, World.putObj_heap_same (by omega), h.lk.keep fun x hx => ho x (fun e => bytes_loop h.lk hx r (by rw [e]; exact h.b4)), ?_, by simpa [World.putObj] using hs⟩; exact ⟨h.bl.os, h.bl.tape, h.bl.output, by simpa [World.putObj] using h.bl.size, fun b hb => (ho b (by omega)).trans (h.bl.block b hb)⟩
theorem bytes_slice {w : World} {v : Value} {bs : List Int} (h : BytesV w v bs) {x : Nat} (hx : dBlock v bs = some x) : ∀ a n c t mk, w.heap[x]? ≠ some (.cells #[.slice a n c] t mk) := fun a n c t mk e => by
 rcases h with ⟨rfl, rfl⟩ | ⟨ad, cc, rfl, hc⟩
 · simp [dBlock] at hx
 · cases bs with
   | nil => simp [dBlock] at hx
   | cons y r =>
     have h1 := hc 0 (.int .u8 y) rfl; have h2 := dBlock_own hx; injection h2 with h2
     have e3 : (ad.add 0) = ad := by unfold Addr.add; simp
     rw [e3] at h1; obtain ⟨ab, ao, an⟩ := ad; subst h2; unfold World.cell? at h1; rw [e] at h1; cases ao with
     | zero => simp at h1
     | succ n => simp at h1
theorem SoI.last {w W : World} {r : Loop} {rec : Value} {la : Option Addr} {ln lc : Nat} {lb : List Int} (h : SoI w W r rec (.slice la ln lc) lb) {ka : Option Addr} {kn kc : Nat} {kb : List Int} (hk : BytesV W (.slice ka kn kc) kb) : SoI w (W.setCell ⟨w.heap.size + 2, 0, none⟩ (.slice ka kn kc)) r rec (.slice ka kn kc) kb := by
 have hs := h.sz; have ho : ∀ x, x ≠ w.heap.size + 2 → (W.setCell ⟨w.heap.size + 2, 0, none⟩ (.slice ka kn kc)).heap[x]? = W.heap[x]? := fun x hx => Below.heap_setCell _ _ _ _ hx
 refine ⟨(ho _ (by omega)).trans h.b0, (ho _ (by omega)).trans h.b1, heap_setCell_same _ _ 0 _ 23 (.slice ka kn kc) h.b2, (ho _ (by omega)).trans h.b3, (ho _ (by omega)).trans h.b4, hk.keep fun x hx => ho x (fun e => bytes_slice hk hx la ln lc 23 (0, 0) (by rw [e]; exact h.b2)), h.bl.setCell (p := ⟨w.heap.size + 2, 0, none⟩) (by show w.heap.size ≤ w.heap.size + 2; omega) _, by simpa [World.setCell] using hs⟩
/-- It was left. -/
structure SoX (w W : World) (rc : Loop) : Prop where
 b1 : W.heap[w.heap.size + 1]? = some (.cells #[.bool false] 4)
 b3 : W.heap[w.heap.size + 4]? = some (.deferred (some []))
 b4 : W.heap[w.heap.size + 5]? = some (.loop { rc with state := .done, pending := some .ret })
 bl : Below w.heap.size w W
theorem SoI.rots {w V : World} {rb : Loop} {rec lv : Value} {lb : List Int} (h : SoI w V rb rec lv lb) (r : Loop) : (V.setCell ⟨w.heap.size + 1, 0, none⟩ (.bool false)).heap[w.heap.size + 5]? = some (.loop rb) ∧ SoX w ((V.setCell ⟨w.heap.size + 1, 0, none⟩ (.bool false)).putObj (w.heap.size + 5) (.loop { r with state := .done, pending := some .ret })) r := by
 have hs := h.sz; have o2 : ∀ b, b ≠ w.heap.size + 1 → (V.setCell ⟨w.heap.size + 1, 0, none⟩ (.bool false)).heap[b]? = V.heap[b]? := fun b hb => Below.heap_setCell _ _ _ _ hb
 have k1 := heap_setCell_same _ _ 0 _ 4 (.bool false) h.b1; have k3 := (o2 (w.heap.size + 4) (by omega)).trans h.b3; have k4 := (o2 (w.heap.size + 5) (by omega)).trans h.b4; have hb := h.bl.setCell (p := ⟨w.heap.size + 1, 0, none⟩) (by show w.heap.size ≤ w.heap.size + 1; omega) (.bool false); generalize V.setCell ⟨w.heap.size + 1, 0, none⟩ (.bool false) = Z at *; have o1 : ∀ b, b ≠ w.heap.size + 5 → (Z.putObj (w.heap.size + 5) (.loop { r with state := .done, pending := some .ret })).heap[b]? = Z.heap[b]? := fun b hb => World.putObj_heap_other hb
 exact ⟨k4, (o1 _ (by omega)).trans k1, (o1 _ (by omega)).trans k3, World.putObj_heap_same (heap_lt k4), ⟨hb.os, hb.tape, hb.output, by simpa [World.putObj] using hb.size, fun b hb' => (o1 b (by omega)).trans (hb.block b hb')⟩⟩
theorem SoI.ends {w V : World} {r : Loop} {rec lv : Value} {lb : List Int} (h : SoI w V r rec lv lb) : (V.setCell ⟨w.heap.size + 1, 0, none⟩ (.bool true)).heap[w.heap.size + 4]? = some (.deferred (some [])) ∧ ((V.setCell ⟨w.heap.size + 1, 0, none⟩ (.bool true)).putObj (w.heap.size + 4) (.deferred none)).heap[w.heap.size + 1]? = some (.cells #[.bool true] 4) ∧ Below w.heap.size w ((V.setCell ⟨w.heap.size + 1, 0, none⟩ (.bool true)).putObj (w.heap.size + 4) (.deferred none)) :=
 SoJ.ends (r := r) (rec := rec) ⟨h.b0, h.b1, h.b3, h.b4, h.bl, h.sz⟩
theorem SoX.ends {w W : World} {rc : Loop} (h : SoX w W rc) (re : Loop) : (W.putObj (w.heap.size + 5) (.loop re)).heap[w.heap.size + 4]? = some (.deferred (some [])) ∧ ((W.putObj (w.heap.size + 5) (.loop re)).putObj (w.heap.size + 4) (.deferred none)).heap[w.heap.size + 1]? = some (.cells #[.bool false] 4) ∧ Below w.heap.size w ((W.putObj (w.heap.size + 5) (.loop re)).putObj (w.heap.size + 4) (.deferred none)) := by
 have o1 : ∀ b, b ≠ w.heap.size + 5 → (W.putObj (w.heap.size + 5) (.loop re)).heap[b]? = W.heap[b]? := fun b hb => World.putObj_heap_other hb
 have o2 : ∀ b, b ≠ w.heap.size + 4 → ((W.putObj (w.heap.size + 5) (.loop re)).putObj (w.heap.size + 4) (.deferred none)).heap[b]? = (W.putObj (w.heap.size + 5) (.loop re)).heap[b]? := fun b hb => World.putObj_heap_other hb
 refine ⟨(o1 _ (by omega)).trans h.b3, (o2 _ (by omega)).trans ((o1 _ (by omega)).trans h.b1), ?_⟩; exact ⟨h.bl.os, h.bl.tape, h.bl.output, by simpa [World.putObj] using h.bl.size, fun b hb => (o2 b (by omega)).trans ((o1 b (by omega)).trans (h.bl.block b hb))⟩
attribute [local go_sem] Oper.semAt_some
set_option maxRecDepth 100000 in
set_option maxHeartbeats 8000000 in
theorem sound_nil {w : World} (a : Option Addr) (cap : Nat) : Calls Tryz.prog 44 #[.slice a 0 cap] w fun e w' => e = .returned (.bool false) ∧ Below w.heap.size w w' := by
 refine (callsIn_wide (n := 4)).1 ?_; refine callsIn_of_wp_marks Tryz.func44 rfl trivial ?_ rfl; simp only [Tryz.ntmps44, List.size_toArray, List.length_cons, List.length_nil, Nat.reduceAdd, Nat.reduceSub, Array.replicate_succ, Array.replicate_zero, List.push_toArray, List.append_toArray, List.nil_append, List.cons_append]; refine wpIn_wide.2 ?_; go_wp2; have k : ((w.alloc (.cells #[.slice a 0 cap] 23)).alloc (.cells #[.bool false] 4)).heap[w.heap.size + 1]? = some (.cells #[.bool false] 4) := by
  have := heap_alloc_new (w.alloc (.cells #[.slice a 0 cap] 23)) (.cells #[.bool false] 4)
  simpa using this
 exact ⟨.bool false, by simp [results, Tryz.results44, asAddr, lv4 k], rfl, by go_grown⟩
set_option maxRecDepth 100000 in
set_option maxHeartbeats 8000000 in
theorem sound_high {w : World} {g o cap : Nat} {t : Int} {b : List Int} (hr : BytesV w (.slice (some ⟨g, o, none⟩) (b.length + 1) cap) (t :: b)) (ht : 1 < t) : Calls Tryz.prog 44 #[.slice (some ⟨g, o, none⟩) (b.length + 1) cap] w fun e w' => e = .returned (.bool false) ∧ Below w.heap.size w w' := by
 have c0 : w.cell? ⟨g, o, none⟩ = some (.int .u8 t) := by
  have := hr.at (k := 0) (x := t) rfl; obtain ⟨g', o', e, hc'⟩ := this; injection e with e
  injection e with e1 e2
  rw [← e1, ← e2] at hc'
  simpa using hc'
 obtain ⟨n, hn⟩ : ∃ n, n = b.length + 1 := ⟨_, rfl⟩
 rw [← hn]; have hn0 : ¬ ((n : Int) = 0) := by omega
 have hnp : 0 < n := by omega
 have hgl : g < w.heap.size := heap_ltc c0; clear hr hn; refine (callsIn_wide (n := 4)).1 ?_; refine callsIn_of_wp_marks Tryz.func44 rfl trivial ?_ rfl; simp only [Tryz.ntmps44, List.size_toArray, List.length_cons, List.length_nil, Nat.reduceAdd, Nat.reduceSub, Array.replicate_succ, Array.replicate_zero, List.push_toArray, List.append_toArray, List.nil_append, List.cons_append]; refine wpIn_wide.2 ?_; go_wp2; have k : ((w.alloc (.cells #[.slice (some ⟨g, o, none⟩) n cap] 23)).alloc (.cells #[.bool false] 4)).heap[w.heap.size + 1]? = some (.cells #[.bool false] 4) := by
  have := heap_alloc_new (w.alloc (.cells #[.slice (some ⟨g, o, none⟩) n cap] 23)) (.cells #[.bool false] 4)
  simpa using this
 exact ⟨.bool false, by simp [results, Tryz.results44, asAddr, lv4 k], rfl, by go_grown⟩
end Go.Proofs.YtconkienlcegaaaGreatDoor
