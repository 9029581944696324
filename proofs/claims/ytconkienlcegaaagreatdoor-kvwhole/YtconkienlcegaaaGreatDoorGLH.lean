/- NH, LH -/
import Derived.Test.YtconkienlcegaaaGreatDoorGNG
import Derived.Test.YtconkienlcegaaaGreatDoorGKZ
import Derived.Test.YtconkienlcegaaaGreatDoorGWG
namespace Go.Proofs.YtconkienlcegaaaGreatDoor
open Go.RowKit Go.Maps Go.Joins Go.Sort Go.Shelf
set_option linter.unusedVariables false
set_option linter.unusedSimpArgs false
theorem encK_norm (l : List Ch) : encK (l.map normC) = encK l := by
 induction l with
 | nil => rfl
 | cons c r ih =>
   rw [List.map_cons, encK_cons, encK_cons, ih]; congr 1; unfold normC; split
   · rename_i h
     unfold encC; simp [h]
   · rfl
theorem normC_key (c : Ch) : (normC c).key = c.key := by unfold normC; split <;> rfl
/-- Behind do. -/
theorem SK.did {W w w' : World} {bd bl b bm : Nat} {N : Nat → Prop} {br : Bool} {m m' : List (List UInt8 × Value × List Int)} {S : DS} {L : LS} {A : DA} {P : PL} {n0 : Int} {ini : List Seg} {la : Option Seg} {sc st : Nat} (h : SK W w bd bl b bm N br m S L A P n0 ini la sc st) (hg : w.grownBy w' (some bm)) (hk : KS w' (fun x => (FreeD W w S L x ∧ ¬ N x) ∨ (w.heap.size ≤ x ∧ x < w'.heap.size)) b bl br bm m') : SK W w' bd bl b bm N br m' S L A P n0 ini la sc st ∧ SFr w w' N b bm := by
 refine ⟨⟨h.lg.grown hg (fun x hx => by injection hx with hx; rw [← hx]; exact h.ks.dm.1.2), hk.mono (fun _ _ => rfl) (fun x hx => ?_), h.tv, h.nm, h.st, fun x hx => ?_⟩, hg.size, fun x hx => hg.block x (h.no x hx).2.2.2.2 (fun e => (h.no x hx).2.2.2.1 (by injection e))⟩
 · rcases hx with hx | hx
   · exact ⟨⟨Nat.lt_of_lt_of_le hx.1.1 hg.size, hx.1.2⟩, hx.2⟩
   · refine ⟨⟨hx.2, Nat.le_trans h.lg.fr.size hx.1, h.lg.dl.disk.fresh x hx.1, h.lg.dl.log.fresh x hx.1⟩, fun hc => ?_⟩
     have := (h.no x hc).2.2.2.2; omega
 · obtain ⟨k1, k2, k3, k4, k5⟩ := h.no x hx
   exact ⟨k1, k2, k3, k4, Nat.lt_of_lt_of_le k5 hg.size⟩
theorem SI.below {n0 : Int} {W w w' : World} {bd b bm : Nat} {N : Nat → Prop} {br : Bool} {m : List (List UInt8 × Value × List Int)} {rs : List (List Int)} {sc st : Nat} (h : SI W w bd b bm N br m rs sc st n0) (hb : Below w.heap.size w w') : SI W w' bd b bm N br m rs sc st n0 := by
 obtain ⟨bl, S, L, A, P, ini, la, hk, hr, ho⟩ := h; exact ⟨bl, S, L, A, P, ini, la, hk.below hb, hr, ho⟩
theorem SI.grown {n0 : Int} {W w w' : World} {bd b bm : Nat} {N N' : Nat → Prop} {br : Bool} {m : List (List UInt8 × Value × List Int)} {rs : List (List Int)} {sc st : Nat} (h : SI W w bd b bm N br m rs sc st n0) {r : Option Nat} (hg : w.grownBy w' r) (hr : ∀ x, r = some x → N x ∧ W.heap.size ≤ x) (hN : ∀ x, N' x → (N x ∨ w.heap.size ≤ x) ∧ x < w'.heap.size) : SI W w' bd b bm N' br m rs sc st n0 := by
 obtain ⟨bl, S, L, A, P, ini, la, hk, hrs, ho⟩ := h; exact ⟨bl, S, L, A, P, ini, la, hk.grown hg hr hN, hrs, ho⟩
theorem SI.nlt {n0 : Int} {W w : World} {bd b bm : Nat} {N : Nat → Prop} {br : Bool} {m : List (List UInt8 × Value × List Int)} {rs : List (List Int)} {sc st : Nat} (h : SI W w bd b bm N br m rs sc st n0) : ∀ x, N x → x < w.heap.size := by
 obtain ⟨bl, S, L, A, P, ini, la, hk, hrs, ho⟩ := h; exact fun x hx => (hk.no x hx).2.2.2.2
theorem SI.wide {n0 : Int} {W w : World} {bd b bm : Nat} {N N' : Nat → Prop} {br : Bool} {m : List (List UInt8 × Value × List Int)} {rs : List (List Int)} {sc st : Nat} (h : SI W w bd b bm N br m rs sc st n0) (hN : ∀ x, N' x → N x) : SI W w bd b bm N' br m rs sc st n0 := by
 obtain ⟨bl, S, L, A, P, ini, la, hk, hrs, ho⟩ := h; exact ⟨bl, S, L, A, P, ini, la, ⟨hk.lg, hk.ks.mono (fun _ _ => rfl) (fun x hx => ⟨hx.1, fun hc => hx.2 (hN x hc)⟩), hk.tv, hk.nm, hk.st, fun x hx => hk.no x (hN x hx)⟩, hrs, ho⟩
theorem SI.later {n0 : Int} {W w : World} {bd b bm : Nat} {N : Nat → Prop} {br : Bool} {m : List (List UInt8 × Value × List Int)} {rs : List (List Int)} {sc st st' : Nat} (h : SI W w bd b bm N br m rs sc st n0) (hs : st ≤ st') : SI W w bd b bm N br m rs sc st' n0 := by
 obtain ⟨bl, S, L, A, P, ini, la, hk, hrs, ho⟩ := h; exact ⟨bl, S, L, A, P, ini, la, ⟨hk.lg, hk.ks, hk.tv, hk.nm, by have := hk.st; omega, hk.no⟩, hrs, ho⟩
theorem SI.st {n0 : Int} {W w : World} {bd b bm : Nat} {N : Nat → Prop} {br : Bool} {m : List (List UInt8 × Value × List Int)} {rs : List (List Int)} {sc st : Nat} (h : SI W w bd b bm N br m rs sc st n0) : w.cell? ⟨b, 2, none⟩ = some (.bool br) := by
 obtain ⟨bl, S, L, A, P, ini, la, hk, hrs, ho⟩ := h; exact (cell_of_block hk.ks.st 2).trans rfl
theorem SFr.wide {w w' : World} {N N' : Nat → Prop} {b bm : Nat} (h : SFr w w' N b bm) (hN : ∀ x, N' x → N x) : SFr w w' N' b bm := ⟨h.size, fun x hx => h.no x (hN x hx)⟩
/-- What Put does. -/
def PutR (l : List Ch) (br : Bool) (m : List (List UInt8 × Value × List Int)) (rs : List (List Int)) (sc : Nat) (c : Int) (br' : Bool) (m' : List (List UInt8 × Value × List Int)) (rs' : List (List Int)) (sc' : Nat) : Prop :=
 (br = true ∧ c = 74 ∧ br' = true ∧ m' = m ∧ rs' = rs ∧ sc' = sc) ∨
 (br = false ∧ (c = 1 ∨ c = 3) ∧ br' = false ∧ m' = m ∧ rs' = rs ∧ sc' = sc) ∨
 (br = false ∧ okL (l.map normC) ∧ (encK l).length ≤ 65535 ∧ SvR rs (0 :: encK l) c br' rs' sc' ∧ (c = 0 → mk m' = doPs (mk m) (l.map normC) ∧ m'.length ≤ m.length + l.length) ∧ (c ≠ 0 → m' = m))
def PutE (W w : World) (bd b bm : Nat) (N : Nat → Prop) (l : List Ch) (br : Bool) (m : List (List UInt8 × Value × List Int)) (rs : List (List Int)) (sc st : Nat) (n0 : Int) (e : Ending) (w' : World) : Prop :=
 ∃ c br' m' rs' sc', e = .returned (.int .i64 c) ∧ SI W w' bd b bm N br' m' rs' sc' (st + 3) n0 ∧ SFr w w' N b bm ∧ PutR l br m rs sc c br' m' rs' sc'
set_option maxHeartbeats 4000000 in
theorem kput_any {W w : World} {bd b bm : Nat} {n0 : Int} {N : Nat → Prop} {br : Bool} {m : List (List UInt8 × Value × List Int)} {rs : List (List Int)} {sc st : Nat} (h : SI W w bd b bm N br m rs sc st n0) (hst : st ≤ 3000000000000000000) {v : Value} {l : List Ch} (hv : ChsV w (fun x => x < w.heap.size) v l) (hkb : ∀ c ∈ l, KByt c.key ∧ KByt c.val) (hml : br = false → m.length ≤ 4611686018427387904) :
 Calls Tryz.prog 13 #[.pointer (some ⟨b, 0, none⟩), v] w fun e w' => PutE W w bd b bm N l br m rs sc st n0 e w' := by
 have c2 := h.st; obtain ⟨av, cv, rfl, _, _, _⟩ := hv.form; cases br with
 | true =>
   obtain ⟨nl, hnl⟩ : ∃ nl, nl = l.length := ⟨_, rfl⟩
   rw [← hnl]; have H : Hid (SI W w bd b bm N true m rs sc st n0) := h; clear h hv hnl; go_enter Tryz.func13, Tryz.ntmps13; go_wp2; go_ret; exact ⟨74, true, m, rs, sc, rfl, H.out.later (by omega), ⟨Nat.le_refl _, fun _ _ => rfl⟩, Or.inl ⟨rfl, rfl, rfl, rfl, rfl, rfl⟩⟩
 | false =>
 have HB : Hid (∀ (_ : Unit), _) := fun _ => batch_any hv
 have H : Hid (SI W w bd b bm N false m rs sc st n0) := h; have HL : Hid ((∀ c ∈ l, KByt c.key ∧ KByt c.val) ∧ m.length ≤ 4611686018427387904 ∧ st ≤ 3000000000000000000) := ⟨hkb, hml rfl, hst⟩
 obtain ⟨nl, hnl⟩ : ∃ nl, nl = l.length := ⟨_, rfl⟩
 rw [← hnl] at HB ⊢; have HNL : Hid (nl = l.length) := hnl; clear h hv hkb hml hst hnl; have T1 : Hid True := trivial; go_enter Tryz.func13, Tryz.ntmps13; go_wp2_with fail; refine Calls.mono (HB.out ()) ?_; rintro e w1 ⟨hb1, hr1⟩; have HI1 : Hid (SI W w1 bd b bm N false m rs sc st n0) := H.out.below hb1; have HF1 : Hid (SFr w w1 N b bm) := SFr.of hb1 H.out.nlt; have HB1 : Hid (Below w.heap.size w w1) := hb1; have hnorm : ∀ c ∈ l.map normC, ∃ d ∈ l, normC d = c := fun c hc => by obtain ⟨d, hd, e⟩ := List.mem_map.1 hc; exact ⟨d, hd, e⟩
 rcases hr1 with ⟨_, rfl⟩ | ⟨hok, ⟨hsm, v1, rfl, hrow⟩ | ⟨_, rfl⟩⟩
 · clear hb1 HB hnorm c2
   go_wp2; go_ret
   exact ⟨1, false, m, rs, sc, rfl, HI1.out.later (by omega), HF1.out, Or.inr (Or.inl ⟨rfl, Or.inl rfl, rfl, rfl, rfl, rfl⟩)⟩
 rotate_left
 · clear hb1 HB hnorm c2
   go_wp2; go_ret
   exact ⟨3, false, m, rs, sc, rfl, HI1.out.later (by omega), HF1.out, Or.inr (Or.inl ⟨rfl, Or.inr rfl, rfl, rfl, rfl, rfl⟩)⟩
 have hkn : okL (l.map normC) := norm_okL (fun c hc => by
  obtain ⟨d, hd, e⟩ := hnorm c hc; have := hok d hd; unfold okK at this ⊢; rw [← e, normC_key]; exact this) (by rw [encK_norm]; exact hsm)
 have hbk : KByt (encK l) := enc_byt HL.out.1; obtain ⟨a1, c1, hv1⟩ := row_form hrow; subst hv1; have HO : Hid (okL (l.map normC) ∧ (encK l).length ≤ 65535 ∧ KByt (encK l)) := ⟨hkn, hsm, hbk⟩
 have H1 : Hid (w1.ownsRow w.heap.size 5 1 (.slice a1 (encK l).length c1) (encK l).length (vB (encK l))) := hrow; obtain ⟨n1, hn1⟩ : ∃ n1, n1 = (encK l).length := ⟨_, rfl⟩
 rw [← hn1]; have HN1 : Hid (n1 = (encK l).length) := hn1; clear hb1 HB hnorm hok hsm hkn hbk hrow hn1 c2; have T2 : Hid True := trivial; go_wp2_with (first
  | (have _ := T2
     at_builtin
     clear T2; refine wpList_append_b rfl _ _ rfl w.heap.size (.slice (some ⟨w1.heap.size, 0, none⟩) 1 1) (.slice a1 n1 c1) [0] (encK l) rfl (own_base (World.ownsRow_lit w1 #[.int .u8 0] 1 (Nat.le_refl _) (by decide) rfl) HB1.out.size) rfl (by rw [HN1.out]; exact BytesV.of_own (World.ownsRow.alloc H1.out _)) (by have := HO.out.2.1; simp; omega) (by have := HB1.out.size; simp; omega) ?_; intro v2 w2 hrow2 hg2 ha2; obtain ⟨g2, c2', rfl, hc2, hm2⟩ := row_form0 hrow2 (by simp); have hb2 : Below w.heap.size w w2 := Below.grown (w := w1.alloc (.cells #[.int .u8 0] 5)) (HB1.out.alloc HB1.out.size _) hg2 (by have := HB1.out.size; simp; omega) (fun k hk => by have h9 : some w1.heap.size = some k := hk; injection h9 with h9; rw [← h9]; exact HB1.out.size); have H2 : Hid (Below w.heap.size w w2 ∧ w2.ownsRow w.heap.size 5 1 (.slice (some ⟨g2, 0, none⟩) (0 :: encK l).length c2') (0 :: encK l).length (vB (0 :: encK l)) ∧ (0 :: encK l).length ≤ c2' ∧ c2' ≤ 9223372036854775807) := ⟨hb2, hrow2, hc2, hm2⟩
     clear hrow2 hg2 ha2 hb2 hc2 hm2; have e9 : ([0] ++ encK l).length = (0 :: encK l).length := rfl; rw [e9]; clear e9; have HI2 : Hid (SI W w2 bd b bm (fun x => N x ∨ x = g2) false m rs sc st n0) := H.out.grown (r := none) ⟨H2.out.1.os, H2.out.1.tape, H2.out.1.output, H2.out.1.size, fun k hk _ => H2.out.1.block k hk⟩ (fun x hx => by cases hx) (fun x hx => by
      have hgl := World.ownsRow.lt H2.out.2.1 g2 rfl; rcases hx with hx | rfl
      · exact ⟨Or.inl hx, Nat.lt_of_lt_of_le (H.out.nlt x hx) H2.out.1.size⟩
      · exact ⟨Or.inr hgl.1, hgl.2⟩)
     have HS : Hid (∀ (_ : Unit), _) := fun _ => save_any HI2.out HL.out.2.2 (va := some ⟨g2, 0, none⟩) (vc := c2') (bs := 0 :: encK l) (BytesV.of_own H2.out.2.1) (fun x hx => by have h9 := dBlock_own hx; have h8 : some g2 = some x := h9; injection h8 with h8; exact Or.inr h8.symm) (by have := HO.out.2.1; simp; omega)
     obtain ⟨n2, hn2⟩ : ∃ n2, n2 = (0 :: encK l).length := ⟨_, rfl⟩
     rw [← hn2] at HS ⊢; have HN2 : Hid (n2 = (0 :: encK l).length) := hn2; clear hn2; have T3 : Hid True := trivial)
  | (have _ := T3
     go_at_call 49
     clear T3; refine Calls.mono (HS.out ()) ?_; rintro e w3 ⟨c, br3, rs3, sc3, rfl, hi3, hf3, hr3⟩; have H3 : Hid (SI W w3 bd b bm (fun x => N x ∨ x = g2) br3 m rs3 sc3 (st + 3) n0 ∧ SFr w2 w3 (fun x => N x ∨ x = g2) b bm ∧ SvR rs (0 :: encK l) c br3 rs3 sc3) := ⟨hi3, hf3, hr3⟩
     clear hi3 hf3 hr3 HS))
 · rename_i hc
   have hc0 : c ≠ 0 := by simpa using hc
   go_ret; exact ⟨c, br3, m, rs3, sc3, rfl, H3.out.1.wide fun x hx => Or.inl hx, (SFr.of H2.out.1 H.out.nlt).trans (H3.out.2.1.wide fun x hx => Or.inl hx), Or.inr (Or.inr ⟨rfl, HO.out.1, HO.out.2.1, H3.out.2.2, fun h => absurd h hc0, fun _ => rfl⟩)⟩
 · have hc0 : c = 0 := by simpa using ‹(c != 0) = false›
   subst hc0; have hbr : br3 = false := by
    rcases H3.out.2.2 with ⟨_, h, _⟩ | ⟨h, _⟩
    · exact h
    · exact absurd rfl h
   subst hbr; obtain ⟨bl, S, L, A, P, ini, la, hk3, hrs3, ho3⟩ := H3.out.1; have hbv : BytesV w3 (.slice (some ⟨g2, 0, none⟩) ((encK (l.map normC)).length + 1) c2') (0 :: encK (l.map normC)) := by
    rw [encK_norm]; exact (BytesV.of_own H2.out.2.1).keep fun x hx => by
     have h9 := dBlock_own hx; have h8 : some g2 = some x := h9; injection h8 with h8
     rw [← h8]; exact H3.out.2.1.no g2 (Or.inr rfl)
   have HD : Hid (∀ (_ : Unit), _) := fun _ => do_batch hk3.ks (fun x hx => hx.1.1) hbv HO.out.1 (by rw [encK_norm]; exact HO.out.2.2) (by rw [encK_norm]; exact H2.out.2.2.1) H2.out.2.2.2 (by rw [encK_norm]; have := HO.out.2.1; omega) HL.out.2.1
   have HK3 : Hid (SK W w3 bd bl b bm (fun x => N x ∨ x = g2) false m S L A P n0 ini la sc3 (st + 3) ∧ P.rs = rs3 ∧ (P.uns = false ∧ sc3 = rs3.length)) := ⟨hk3, hrs3, ho3 rfl⟩
   have e9 : (encK (l.map normC)).length + 1 = n2 := by rw [HN2.out, encK_norm]; rfl
   rw [e9] at HD; clear hk3 hrs3 ho3 hbv e9; refine Calls.mono (HD.out ()) ?_; rintro e w4 ⟨rfl, hg4, m4, hk4, hm4, hl4⟩; obtain ⟨j1, j2⟩ := HK3.out.1.did hg4 hk4; have H4 : Hid (SI W w4 bd b bm (fun x => N x ∨ x = g2) false m4 rs3 sc3 (st + 3) n0 ∧ SFr w3 w4 (fun x => N x ∨ x = g2) b bm ∧ mk m4 = doPs (mk m) (l.map normC) ∧ m4.length ≤ m.length + l.length) := ⟨SK.si j1 HK3.out.2.1 fun _ => HK3.out.2.2, j2, hm4, by simpa using hl4⟩
   clear hg4 hk4 hm4 hl4 HD j1 j2; go_wp2; go_ret; exact ⟨0, false, m4, rs3, sc3, rfl, H4.out.1.wide fun x hx => Or.inl hx, ((SFr.of H2.out.1 H.out.nlt).trans (H3.out.2.1.wide fun x hx => Or.inl hx)).trans (H4.out.2.1.wide fun x hx => Or.inl hx), Or.inr (Or.inr ⟨rfl, HO.out.1, HO.out.2.1, H3.out.2.2, fun _ => H4.out.2.2, fun h => absurd rfl h⟩)⟩
end Go.Proofs.YtconkienlcegaaaGreatDoor
namespace Go.Proofs.YtconkienlcegaaaGreatDoor
open Go.RowKit Go.Maps Go.Joins Go.Shelf
set_option linter.unusedSimpArgs false
set_option linter.unusedVariables false
/-- A key's bytes as numbers. -/
def kI (k : List UInt8) : List Int := k.map fun x => (x.toNat : Int)
theorem kI_kS {key : List Int} (h : KByt key) : kI (kS key) = key := by
 unfold kI kS; rw [strOfNums_data, List.map_map]; conv => rhs; rw [← List.map_id key]
 apply List.map_congr_left
 intro x hx; have := h x hx; simp only [Function.comp, id, UInt8.toNat_ofNat']; omega
theorem kI_byt (k : List UInt8) : KByt (kI k) := fun c hc => by
 obtain ⟨x, _, rfl⟩ := List.mem_map.1 hc; have := x.toNat_lt; omega
theorem kS_kI (k : List UInt8) : kS (kI k) = k := by
 unfold kI kS; rw [strOfNums_data, List.map_map]; conv => rhs; rw [← List.map_id k]
 apply List.map_congr_left
 intro x hx; simp
theorem kI_len (k : List UInt8) : (kI k).length = k.length := by unfold kI; simp
/-- A key with its value, as a change. -/
def toCh (p : List UInt8 × List Int) : Ch := ⟨kI p.1, p.2, false⟩
/-- Keys that rise. -/
def SrtG {α : Type} (s : List (List UInt8 × α)) : Prop := s.Pairwise fun a b => bytesBefore a.1 b.1 = true
theorem bef_ne {a b : List UInt8} (h : bytesBefore a b = true) : a ≠ b := fun e => by rw [e, WideAt.bytes_irrefl] at h; cases h
theorem bef_not {a b : List UInt8} (h : bytesBefore a b = true) : bytesBefore b a = false := by
 cases h2 : bytesBefore b a with
 | false => rfl
 | true =>
   have := WideShapes.bytes_trans a b a h h2; rw [WideAt.bytes_irrefl] at this; cases this
theorem bef_of {a b : List UInt8} (h : bytesBefore a b = false) (hne : a ≠ b) : bytesBefore b a = true := by
 rcases WideAt.bytes_total a b hne with h1 | h1
 · rw [h] at h1; cases h1
 · exact h1
theorem srt_delG {α : Type} {s : List (List UInt8 × α)} (h : SrtG s) (k : List UInt8) : SrtG (delG s k) := List.Pairwise.filter _ h
theorem srt_insG {α : Type} (x : List UInt8 × α) : ∀ {s : List (List UInt8 × α)}, SrtG s → (∀ p ∈ s, p.1 ≠ x.1) → SrtG (insG x s)
 | [], _, _ => by unfold insG SrtG; simp
 | y :: r, h, hn => by
   unfold SrtG at h; rw [List.pairwise_cons] at h; unfold insG; split
   · rename_i hb
     unfold SrtG; rw [List.pairwise_cons, List.pairwise_cons]; refine ⟨fun p hp => ?_, h⟩; rcases List.mem_cons.1 hp with rfl | hp
     · exact hb
     · exact WideShapes.bytes_trans _ _ _ hb (h.1 p hp)
   · rename_i hb
     unfold SrtG; rw [List.pairwise_cons]; refine ⟨fun p hp => ?_, srt_insG x (s := r) h.2 (fun p hp => hn p (List.mem_cons_of_mem _ hp))⟩; rcases ins_mem x r p hp with rfl | hp
     · exact bef_of (by simpa using hb) (hn y (by simp)).symm
     · exact h.1 p hp
theorem srt_putG {α : Type} {s : List (List UInt8 × α)} (h : SrtG s) (k : List UInt8) (a : α) : SrtG (putG s k a) := by
 refine srt_insG (k, a) (srt_delG h k) (fun p hp => ?_); have := (List.mem_filter.1 hp).2
 simpa using this
theorem srt_doP {s : List (List UInt8 × List Int)} (h : SrtG s) (c : Ch) : SrtG (doP s c) := by
 unfold doP; split
 · exact srt_delG h _
 · exact srt_putG h _ _
theorem srt_doPs : ∀ (l : List Ch) {s : List (List UInt8 × List Int)}, SrtG s → SrtG (doPs s l)
 | [], _, h => h
 | c :: r, _, h => srt_doPs r (srt_doP h c)
/-- What the document's done lays behind what it has laid. -/
def dnA (k : List UInt8) (v : List Int) : Bool → List (List UInt8 × List Int) → List (List UInt8 × List Int)
 | put, [] => if put then [] else [(k, v)]
 | put, x :: r => (if !put && !(bytesBefore x.1 k) then [(k, v)] else []) ++ ((if x.1 = k then [] else [x]) ++ dnA k v (put || !(bytesBefore x.1 k)) r)
theorem dnA_true (k : List UInt8) (v : List Int) : ∀ s, dnA k v true s = delG s k
 | [] => rfl
 | x :: r => by
   unfold dnA; simp only [Bool.not_true, Bool.false_and, Bool.true_or, Bool.false_eq_true, if_false, List.nil_append]; rw [dnA_true k v r]; unfold delG; rw [List.filter_cons]; by_cases h : x.1 = k
   · simp [h]
   · simp [h]
theorem del_none {α : Type} {s : List (List UInt8 × α)} {k : List UInt8} (h : ∀ p ∈ s, p.1 ≠ k) : delG s k = s := by
 unfold delG; rw [List.filter_eq_self]; intro p hp
 simpa using h p hp
theorem ins_front {α : Type} {s : List (List UInt8 × α)} {x : List UInt8 × α} (h : ∀ p ∈ s, bytesBefore x.1 p.1 = true) : insG x s = x :: s := by
 cases s with
 | nil => rfl
 | cons y r => unfold insG; rw [if_pos (h y (by simp))]
theorem dnA_false (k : List UInt8) (v : List Int) : ∀ {s : List (List UInt8 × List Int)}, SrtG s → dnA k v false s = putG s k v
 | [], _ => by simp [dnA, putG, delG, insG]
 | x :: r, h => by
   have h' := h; unfold SrtG at h; rw [List.pairwise_cons] at h; unfold dnA; cases hb : bytesBefore x.1 k with
   | true =>
     have hne := bef_ne hb; simp only [Bool.not_false, Bool.not_true, Bool.and_false, Bool.false_or, Bool.false_eq_true, if_false, List.nil_append]; rw [if_neg hne, dnA_false k v (s := r) h.2]; unfold putG delG; rw [List.filter_cons, if_pos (by simpa using hne)]; conv => rhs; unfold insG
     rw [if_neg (by rw [bef_not hb]; simp)]; rfl
   | false =>
     simp only [Bool.not_false, Bool.true_and, Bool.false_or, if_true]; rw [dnA_true]; by_cases hne : x.1 = k
     · rw [if_pos hne]
       have hr : ∀ p ∈ r, bytesBefore k p.1 = true := fun p hp => hne ▸ h.1 p hp
       have hd : delG (x :: r) k = r := by
        unfold delG; rw [List.filter_cons, if_neg (by simp [hne])]; exact del_none fun p hp => (bef_ne (hr p hp)).symm
       have hd2 : delG r k = r := del_none fun p hp => (bef_ne (hr p hp)).symm
       unfold putG; rw [hd, hd2, ins_front (x := (k, v)) hr]; rfl
     · rw [if_neg hne]
       have hk := bef_of hb hne; unfold putG; have hd : delG (x :: r) k = x :: delG r k := by unfold delG; rw [List.filter_cons, if_pos (by simpa using hne)]
       rw [hd]; conv => rhs; unfold insG
       rw [if_pos hk]; rfl
/-- What a change makes, as the document's done reckons it. -/
theorem dnA_doP {s : List (List UInt8 × List Int)} (h : SrtG s) (c : Ch) : dnA (kS c.key) c.val c.gone s = doP s c := by
 unfold doP; cases c.gone with
 | true => rw [dnA_true]; rfl
 | false => rw [dnA_false _ _ h]; rfl
/-- A snapshot's changes: none is gone, and their keys rise. -/
def snapOk : List UInt8 → List Ch → Bool
 | _, [] => true
 | last, c :: r => !c.gone && bytesBefore last (kS c.key) && snapOk (kS c.key) r
def lastK (last : List UInt8) (l : List Ch) : List UInt8 := match l.getLast? with | none => last | some c => kS c.key
theorem lastK_snoc (last : List UInt8) (l : List Ch) (c : Ch) : lastK last (l ++ [c]) = kS c.key := by unfold lastK; simp
theorem lastK_cons (last : List UInt8) (c : Ch) (l : List Ch) : lastK last (c :: l) = lastK (kS c.key) l := by
 cases l with
 | nil => rfl
 | cons d r => unfold lastK; simp [List.getLast?_cons]
theorem snap_app : ∀ (l m : List Ch) (last : List UInt8), snapOk last (l ++ m) = (snapOk last l && snapOk (lastK last l) m)
 | [], m, last => by simp [snapOk, lastK]
 | c :: r, m, last => by rw [List.cons_append, snapOk, snapOk, snap_app r m, lastK_cons]; simp only [Bool.and_assoc]
/-- The record of a log: a snapshot or not, and its changes; none: it is rotten. -/
def chK (r : List Int) : Option (Bool × List Ch) := match r with
 | [] => none
 | t :: b => match unK b.length b with
   | none => none
   | some l => if t = 0 then some (false, l) else if t = 1 ∧ snapOk [] l = true then some (true, l) else none
theorem unK_rot {b : List Int} (hb : KByt b) (h : ∀ l, okL l → encK l ≠ b) : unK b.length b = none := by
 cases hu : unK b.length b with
 | none => rfl
 | some l =>
   obtain ⟨h1, h2⟩ := unK_ok _ _ _ hb hu; exact absurd h1 (h l fun c hc => ⟨(h2 c hc).1, (h2 c hc).2.2.2.2, (h2 c hc).2.1⟩)
theorem chK_rot {t : Int} {b : List Int} (hb : KByt b) (h : ∀ l, okL l → encK l ≠ b) : chK (t :: b) = none := by
 unfold chK; simp only [unK_rot hb h]
theorem chK_enc {t : Int} {b : List Int} {l : List Ch} (hl : okL l) (e : encK l = b) : chK (t :: b) = if t = 0 then some (false, l) else if t = 1 ∧ snapOk [] l = true then some (true, l) else none := by
 unfold chK; simp only [← e, unK_enc l hl _ (Nat.le_refl _)]
theorem chK_some {r : List Int} (hb : KByt r) {sn : Bool} {l : List Ch} (h : chK r = some (sn, l)) : okM l ∧ r = (if sn then 1 else 0) :: encK l ∧ (sn = true → snapOk [] l = true) := by
 cases r with
 | nil => simp [chK] at h
 | cons t b =>
   have hb' : KByt b := fun c hc => hb c (List.mem_cons_of_mem _ hc)
   unfold chK at h; simp only [] at h; cases hu : unK b.length b with
   | none => rw [hu] at h; cases h
   | some l' =>
     rw [hu] at h; simp only [] at h; obtain ⟨h1, h2⟩ := unK_ok _ _ _ hb' hu; have hm : okM l' := ⟨fun c hc => ⟨(h2 c hc).1, (h2 c hc).2.2.2.2, (h2 c hc).2.1⟩, fun c hc => ⟨(h2 c hc).2.2.1, (h2 c hc).2.2.2.1⟩⟩
     split at h
     · rename_i ht
       injection h with h
       simp only [Prod.mk.injEq] at h; obtain ⟨rfl, rfl⟩ := h; exact ⟨hm, by rw [ht, h1]; rfl, fun h => by cases h⟩
     · split at h
       · rename_i ht
         injection h with h
         simp only [Prod.mk.injEq] at h; obtain ⟨rfl, rfl⟩ := h; exact ⟨hm, by rw [ht.1, h1]; rfl, fun _ => ht.2⟩
       · cases h
def stepK (s : List (List UInt8 × List Int)) (p : Bool × List Ch) : List (List UInt8 × List Int) := doPs (if p.1 then [] else s) p.2
def opS (o : Option (List (List UInt8 × List Int))) (r : List Int) : Option (List (List UInt8 × List Int)) := o.bind fun s => (chK r).map (stepK s)
/-- What a log's records make of keys; none: one of them is rotten. -/
def opK (rs : List (List Int)) : Option (List (List UInt8 × List Int)) := rs.foldl opS (some [])
theorem opS_none : ∀ rs : List (List Int), rs.foldl opS none = none
 | [] => rfl
 | r :: rs => opS_none rs
theorem opK_snoc {rs : List (List Int)} {k : Nat} {r : List Int} (h : rs[k]? = some r) : opK (rs.take (k + 1)) = opS (opK (rs.take k)) r := by
 unfold opK; rw [List.take_add_one, h]; simp
theorem opK_stop {rs : List (List Int)} {k : Nat} {r : List Int} (h : rs[k]? = some r) (hc : chK r = none) : opK rs = none := by
 have h1 : opK (rs.take (k + 1)) = none := by
  rw [opK_snoc h]; unfold opS; rw [hc]; cases opK (rs.take k) <;> rfl
 unfold opK at h1 ⊢; conv => lhs; rw [← List.take_append_drop (k + 1) rs]
 rw [List.foldl_append, h1, opS_none]
theorem opK_next {rs : List (List Int)} {k : Nat} {r : List Int} {s : List (List UInt8 × List Int)} {p : Bool × List Ch} (h : rs[k]? = some r) (hs : opK (rs.take k) = some s) (hc : chK r = some p) : opK (rs.take (k + 1)) = some (stepK s p) := by
 rw [opK_snoc h, hs]; unfold opS; rw [hc]; rfl
theorem opK_nil : opK [] = some [] := rfl
theorem srt_stepK {s : List (List UInt8 × List Int)} (h : SrtG s) (p : Bool × List Ch) : SrtG (stepK s p) := by
 unfold stepK; refine srt_doPs _ ?_; split
 · exact List.Pairwise.nil
 · exact h
end Go.Proofs.YtconkienlcegaaaGreatDoor
