/- SB, SC, laid into one text. -/
import Derived.Test.YtmnlcpfehbpogaaM20
/- rlp: alive. -/
namespace Go.Proofs.Ytmnlcpfehbpogaa
open Go.RowKit Go.Maps Go.Joins
set_option linter.unusedSimpArgs false
set_option linter.unusedVariables false
theorem src_new {w : World} (xs : List Int) (q : Nat × Nat) (hx : Byt xs) (hl : xs.length ≤ 65536) : SrcA (w.alloc (.cells (vB xs).toArray 5 q)) (some ⟨w.heap.size, 0, none⟩) xs.length xs := by
  refine ⟨Or.inr ⟨_, _, rfl, fun j u hu => ?_⟩, Nat.le_refl _, by omega, hx⟩
  rw [Addr.add_lit]
  refine (cell_of_block (heap_alloc_new w _) (0 + j)).trans ?_
  simpa using hu
theorem two_its {W : World} {s1 s2 t1 t2 : Value} (x1 x2 : Tr) (h1 : ItV W (fun b => b < W.heap.size) s1 t1 x1) (h2 : ItV W (fun b => b < W.heap.size) s2 t2 x2) :
    ItsV (W.alloc (.cells #[.bool x1.l, s1, t1, .bool x2.l, s2, t2] 31)) (fun b => b < (W.alloc (.cells #[.bool x1.l, s1, t1, .bool x2.l, s2, t2] 31)).heap.size) (.slice (some ⟨W.heap.size, 0, none⟩) 2 2) [x1, x2] := by
  have hb : Below W.heap.size W (W.alloc (.cells #[.bool x1.l, s1, t1, .bool x2.l, s2, t2] 31)) := by go_grown
  have hrow : (W.alloc (.cells #[.bool x1.l, s1, t1, .bool x2.l, s2, t2] 31)).ownsRow W.heap.size 31 3 (.slice (some ⟨W.heap.size, 0, none⟩) 2 2) [IC.mk x1 s1 t1, ⟨x2, s2, t2⟩].length (icL [⟨x1, s1, t1⟩, ⟨x2, s2, t2⟩]) :=
    ⟨rfl, Or.inr ⟨W.heap.size, 2, _, rfl, Nat.le_refl _, heap_alloc_new _ _, Nat.le_refl _, by decide, rfl, rfl⟩⟩
  refine row_its hrow (fun f hf => ?_) (fun b hb' => (hrow.lt b hb').2) (by show (2 : Nat) * 56 ≤ _; decide)
  have hm : ∀ {s t : Value} {x : Tr}, ItV W (fun b => b < W.heap.size) s t x → ItV (W.alloc (.cells #[.bool x1.l, s1, t1, .bool x2.l, s2, t2] 31)) (fun b => b < (W.alloc (.cells #[.bool x1.l, s1, t1, .bool x2.l, s2, t2] 31)).heap.size) s t x := fun h => h.mono (fun b hb' => hb.block b hb') (fun b hb' => Nat.lt_of_lt_of_le hb' hb.size)
  rcases List.mem_cons.1 hf with rfl | hf
  · exact hm h1
  · rcases List.mem_cons.1 hf with rfl | hf
    · exact hm h2
    · cases hf
set_option maxRecDepth 100000 in
set_option maxHeartbeats 8000000 in
/-- The law's examples. -/
theorem alive_any {w : World} : Calls Try.prog 12 #[] w fun e w' => Below w.heap.size w w' ∧ e = .returned (.bool true) := by
  have hcv := Lib.run_convert_bytes_const (P := Try.prog) w 22 5 #[.int .u8 100, .int .u8 111, .int .u8 103] 3 3 Try.underlying22 Try.underlying5
  have hb1 : Below w.heap.size w (w.alloc (.cells #[.int .u8 100, .int .u8 111, .int .u8 103] 5 (3, 4))) := by go_grown
  have hs1 : SrcA (w.alloc (.cells #[.int .u8 100, .int .u8 111, .int .u8 103] 5 (3, 4))) (some ⟨w.heap.size, 0, none⟩) 3 [100, 111, 103] := src_new [100, 111, 103] (3, 4) (by unfold Byt; decide) (by decide)
  have HC1 : Hid _ := str_any hs1.is (by decide)
  have HB1 : Hid _ := hb1
  clear hb1 hs1
  go_enter Try.func12, Try.ntmps12
  go_wp2_with fail
  generalize w.alloc (.cells #[.int .u8 100, .int .u8 111, .int .u8 103] 5 (3, 4)) = W1 at HC1 HB1 ⊢
  refine Calls.mono HC1.out ?_
  rintro e w1 ⟨hb1, sb, rfl, hit⟩
  have HI : Hid _ := hit
  have HB2 : Hid (Below w.heap.size w w1) := HB1.out.trans (hb1.mono HB1.out.size)
  clear hit hb1 HB1 HC1 hcv
  have HE : Hid _ := encode_any (.mk false [100, 111, 103] []) w1 sb (.slice none 0 0) _ HI.out (fun b hb => hb.2)
  rw [ex1.1, ex1.2] at HE
  go_wp2_with fail
  refine Calls.mono HE.out ?_
  rintro e w2 ⟨hb2, v2, rfl, ho2⟩
  obtain ⟨a2, c2, rfl⟩ := row_form ho2
  have HA : Hid (BytesV w2 (.slice a2 4 c2) [131, 100, 111, 103]) := BytesV.of_own ho2
  have HB3 : Hid (Below w.heap.size w w2) := HB2.out.trans (hb2.mono HB2.out.size)
  clear hb2 ho2 HE HI HB2
  have HE1 : Hid _ := num_any (w := w2) 15 (by omega)
  go_wp2_with fail
  refine Calls.mono HE1.out ?_
  rintro e w3 ⟨hb3, sb3, rfl, hi3⟩
  have HA3 : Hid (BytesV w3 (.slice a2 4 c2) [131, 100, 111, 103] ∧ Below w.heap.size w w3 ∧ ItV w3 (fun b => b < w3.heap.size) sb3 (.slice none 0 0) (.mk false (shortB 15) [])) := ⟨HA.out.below hb3, HB3.out.trans (hb3.mono HB3.out.size), hi3.mono (fun _ _ => rfl) (fun b hb => hb.2)⟩
  clear hb3 hi3 HA HB3 HE1
  have HE2 : Hid _ := num_any (w := w3) 1024 (by omega)
  go_wp2_with fail
  refine Calls.mono HE2.out ?_
  rintro e w4 ⟨hb4, sb4, rfl, hi4⟩
  have HA4 : Hid (BytesV w4 (.slice a2 4 c2) [131, 100, 111, 103] ∧ Below w.heap.size w w4 ∧ ItV w4 (fun b => b < w4.heap.size) sb3 (.slice none 0 0) (.mk false (shortB 15) []) ∧ ItV w4 (fun b => b < w4.heap.size) sb4 (.slice none 0 0) (.mk false (shortB 1024) [])) := ⟨HA3.out.1.below hb4, HA3.out.2.1.trans (hb4.mono HA3.out.2.1.size), HA3.out.2.2.mono (fun b hb => hb4.block b hb) (fun b hb => Nat.lt_of_lt_of_le hb hb4.size), hi4.mono (fun _ _ => rfl) (fun b hb => hb.2)⟩
  obtain ⟨b3, d3, rfl⟩ := HA4.out.2.2.1.b.is.form
  obtain ⟨b4, d4, rfl⟩ := HA4.out.2.2.2.b.is.form
  clear hb4 hi4 HA3 HE2
  go_wp2_with fail
  have hbA : Below w4.heap.size w4 (w4.alloc (.cells #[.bool false, .slice b3 (Tr.mk false (shortB 15) []).b.length d3, .slice none 0 0, .bool false, .slice b4 (Tr.mk false (shortB 1024) []).b.length d4, .slice none 0 0] 31)) := by go_grown
  have HA5 : Hid (BytesV (w4.alloc (.cells #[.bool false, .slice b3 (Tr.mk false (shortB 15) []).b.length d3, .slice none 0 0, .bool false, .slice b4 (Tr.mk false (shortB 1024) []).b.length d4, .slice none 0 0] 31)) (.slice a2 4 c2) [131, 100, 111, 103] ∧ Below w.heap.size w (w4.alloc (.cells #[.bool false, .slice b3 (Tr.mk false (shortB 15) []).b.length d3, .slice none 0 0, .bool false, .slice b4 (Tr.mk false (shortB 1024) []).b.length d4, .slice none 0 0] 31))) := ⟨HA4.out.1.below hbA, HA4.out.2.1.trans (hbA.mono HA4.out.2.1.size)⟩
  have HT : Hid (ItsV (w4.alloc (.cells #[.bool false, .slice b3 (Tr.mk false (shortB 15) []).b.length d3, .slice none 0 0, .bool false, .slice b4 (Tr.mk false (shortB 1024) []).b.length d4, .slice none 0 0] 31)) (fun b => b < (w4.alloc (.cells #[.bool false, .slice b3 (Tr.mk false (shortB 15) []).b.length d3, .slice none 0 0, .bool false, .slice b4 (Tr.mk false (shortB 1024) []).b.length d4, .slice none 0 0] 31)).heap.size) (.slice (some ⟨w4.heap.size, 0, none⟩) 2 2) [.mk false (shortB 15) [], .mk false (shortB 1024) []]) := two_its (.mk false (shortB 15) []) (.mk false (shortB 1024) []) HA4.out.2.2.1 HA4.out.2.2.2
  clear hbA HA4
  generalize w4.alloc (.cells #[.bool false, .slice b3 (Tr.mk false (shortB 15) []).b.length d3, .slice none 0 0, .bool false, .slice b4 (Tr.mk false (shortB 1024) []).b.length d4, .slice none 0 0] 31) = W4 at HT HA5 ⊢
  have HT : Hid _ := list_any HT.out (fun b hb => hb)
  refine Calls.mono HT.out ?_
  rintro e w5 ⟨hb5, si5, rfl, hi5⟩
  obtain ⟨b5, d5, rfl, -⟩ := hi5.xs.form
  have HE5 : Hid _ := encode_any (.mk true [] [.mk false (shortB 15) [], .mk false (shortB 1024) []]) w5 (.slice none 0 0) _ _ hi5 (fun b hb => hb.2)
  rw [ex2.1, ex2.2] at HE5
  have HA6 : Hid (BytesV w5 (.slice a2 4 c2) [131, 100, 111, 103] ∧ Below w.heap.size w w5) := ⟨HA5.out.1.below hb5, HA5.out.2.trans (hb5.mono HA5.out.2.size)⟩
  clear hb5 hi5 HA5 HT
  go_wp2_with fail
  refine Calls.mono HE5.out ?_
  rintro e w6 ⟨hb6, v6, rfl, ho6⟩
  obtain ⟨a6, c6, rfl⟩ := row_form ho6
  have hA7 : Below w6.heap.size w6 (w6.alloc (.cells #[.int .u8 129, .int .u8 5] 5)) := by go_grown
  have HA7 : Hid (BytesV (w6.alloc (.cells #[.int .u8 129, .int .u8 5] 5)) (.slice a2 4 c2) [131, 100, 111, 103] ∧ BytesV (w6.alloc (.cells #[.int .u8 129, .int .u8 5] 5)) (.slice a6 5 c6) [196, 15, 130, 4, 0] ∧ Below w.heap.size w (w6.alloc (.cells #[.int .u8 129, .int .u8 5] 5))) := ⟨(HA6.out.1.below hb6).below hA7, (BytesV.of_own ho6).below hA7, (HA6.out.2.trans (hb6.mono HA6.out.2.size)).trans (hA7.mono (Nat.le_trans HA6.out.2.size hb6.size))⟩
  have hs7 : SrcA (w6.alloc (.cells #[.int .u8 129, .int .u8 5] 5)) (some ⟨w6.heap.size, 0, none⟩) [129, 5].length [129, 5] := src_new (w := w6) [129, 5] (0, 0) (by unfold Byt; decide) (by decide)
  have HE7 : Hid _ := decode_any hs7
  rw [ex3] at HE7
  clear hs7 hA7 hb6 ho6 HA6 HE5
  go_wp2_with fail
  refine Calls.mono HE7.out ?_
  rintro e w7 ⟨hb7, he7⟩
  obtain rfl : e = .returned (.tuple #[.agg #[.bool false, .slice none 0 0, .slice none 0 0], .int .i64 11]) := he7
  have hA8 : Below w7.heap.size w7 ((w7.alloc (.cells #[.bool false, .slice none 0 0, .slice none 0 0] 31)).alloc (.cells #[.int .u8 193] 5)) := by go_grown
  have HA8 : Hid (BytesV ((w7.alloc (.cells #[.bool false, .slice none 0 0, .slice none 0 0] 31)).alloc (.cells #[.int .u8 193] 5)) (.slice a2 4 c2) [131, 100, 111, 103] ∧ BytesV ((w7.alloc (.cells #[.bool false, .slice none 0 0, .slice none 0 0] 31)).alloc (.cells #[.int .u8 193] 5)) (.slice a6 5 c6) [196, 15, 130, 4, 0] ∧ Below w.heap.size w ((w7.alloc (.cells #[.bool false, .slice none 0 0, .slice none 0 0] 31)).alloc (.cells #[.int .u8 193] 5))) := ⟨(HA7.out.1.below hb7).below hA8, (HA7.out.2.1.below hb7).below hA8, (HA7.out.2.2.trans (hb7.mono HA7.out.2.2.size)).trans (hA8.mono (Nat.le_trans HA7.out.2.2.size hb7.size))⟩
  have hs8 : SrcA ((w7.alloc (.cells #[.bool false, .slice none 0 0, .slice none 0 0] 31)).alloc (.cells #[.int .u8 193] 5)) (some ⟨(w7.alloc (.cells #[.bool false, .slice none 0 0, .slice none 0 0] 31)).heap.size, 0, none⟩) [193].length [193] := src_new (w := (w7.alloc (.cells #[.bool false, .slice none 0 0, .slice none 0 0] 31))) [193] (0, 0) (by unfold Byt; decide) (by decide)
  rw [show (w7.alloc (.cells #[.bool false, .slice none 0 0, .slice none 0 0] 31)).heap.size = w7.heap.size + 1 from by simp] at hs8
  have HE8 : Hid _ := decode_any hs8
  rw [ex4] at HE8
  clear hs8 hA8 hb7 HA7 HE7
  go_wp2_with fail
  refine Calls.mono HE8.out ?_
  rintro e w8 ⟨hb8, he8⟩
  obtain rfl : e = .returned (.tuple #[.agg #[.bool false, .slice none 0 0, .slice none 0 0], .int .i64 10]) := he8
  have HA9 : Hid (BytesV w8 (.slice a2 4 c2) [131, 100, 111, 103] ∧ BytesV w8 (.slice a6 5 c6) [196, 15, 130, 4, 0] ∧ Below w.heap.size w w8) := ⟨HA8.out.1.below hb8, HA8.out.2.1.below hb8, HA8.out.2.2.trans (hb8.mono HA8.out.2.2.size)⟩
  clear hb8 HA8 HE8
  go_wp2_with fail
  have hA10 : Below w8.heap.size w8 ((w8.alloc (.cells #[.bool false, .slice none 0 0, .slice none 0 0] 31)).alloc (.cells #[.int .u8 131, .int .u8 100, .int .u8 111, .int .u8 103] 5)) := by go_grown
  have hs10 : SrcA ((w8.alloc (.cells #[.bool false, .slice none 0 0, .slice none 0 0] 31)).alloc (.cells #[.int .u8 131, .int .u8 100, .int .u8 111, .int .u8 103] 5)) (some ⟨(w8.alloc (.cells #[.bool false, .slice none 0 0, .slice none 0 0] 31)).heap.size, 0, none⟩) [131, 100, 111, 103].length [131, 100, 111, 103] := src_new (w := (w8.alloc (.cells #[.bool false, .slice none 0 0, .slice none 0 0] 31))) [131, 100, 111, 103] (0, 0) (by unfold Byt; decide) (by decide)
  rw [show (w8.alloc (.cells #[.bool false, .slice none 0 0, .slice none 0 0] 31)).heap.size = w8.heap.size + 1 from by simp] at hs10
  have HA10 : Hid (BytesV ((w8.alloc (.cells #[.bool false, .slice none 0 0, .slice none 0 0] 31)).alloc (.cells #[.int .u8 131, .int .u8 100, .int .u8 111, .int .u8 103] 5)) (.slice a6 5 c6) [196, 15, 130, 4, 0] ∧ Below w.heap.size w ((w8.alloc (.cells #[.bool false, .slice none 0 0, .slice none 0 0] 31)).alloc (.cells #[.int .u8 131, .int .u8 100, .int .u8 111, .int .u8 103] 5))) := ⟨HA9.out.2.1.below hA10, HA9.out.2.2.trans (hA10.mono HA9.out.2.2.size)⟩
  have HE10 : Hid _ := lsame_t (HA9.out.1.below hA10) hs10.is
  clear hA10 hs10 HA9
  generalize ((w8.alloc (.cells #[.bool false, .slice none 0 0, .slice none 0 0] 31)).alloc (.cells #[.int .u8 131, .int .u8 100, .int .u8 111, .int .u8 103] 5)) = W9 at HE10 HA10 ⊢
  refine Calls.mono HE10.out ?_
  rintro e w9 ⟨rfl, h9⟩
  obtain rfl := h9.symm
  clear h9 HE10
  have hA11 : Below W9.heap.size W9 (W9.alloc (.cells #[.int .u8 196, .int .u8 15, .int .u8 130, .int .u8 4, .int .u8 0] 5)) := by go_grown
  have hs11 : SrcA (W9.alloc (.cells #[.int .u8 196, .int .u8 15, .int .u8 130, .int .u8 4, .int .u8 0] 5)) (some ⟨W9.heap.size, 0, none⟩) [196, 15, 130, 4, 0].length [196, 15, 130, 4, 0] := src_new (w := W9) [196, 15, 130, 4, 0] (0, 0) (by unfold Byt; decide) (by decide)
  have HB11 : Hid (Below w.heap.size w (W9.alloc (.cells #[.int .u8 196, .int .u8 15, .int .u8 130, .int .u8 4, .int .u8 0] 5))) := HA10.out.2.trans (hA11.mono HA10.out.2.size)
  have HE11 : Hid _ := lsame_t (HA10.out.1.below hA11) hs11.is
  clear hA11 hs11 HA10
  go_wp2_with fail
  generalize (W9.alloc (.cells #[.int .u8 196, .int .u8 15, .int .u8 130, .int .u8 4, .int .u8 0] 5)) = W10 at HE11 HB11 ⊢
  refine Calls.mono HE11.out ?_
  rintro e w10 ⟨rfl, h10⟩
  obtain rfl := h10.symm
  clear h10 HE11
  go_wp2
  go_ret
  exact ⟨HB11.out, rfl⟩
end Go.Proofs.Ytmnlcpfehbpogaa
/- rlp: what the laws RlpBack and RlpAhead say, of lists. -/
namespace Go.Proofs.Ytmnlcpfehbpogaa
open Go.RowKit Go.Maps Go.Joins
set_option linter.unusedSimpArgs false
set_option linter.unusedVariables false
theorem Byt.app {a b : List Int} (h1 : Byt a) (h2 : Byt b) : Byt (a ++ b) := fun c hc => by
  rcases List.mem_append.1 hc with h | h
  · exact h1 c h
  · exact h2 c h
theorem headB_byt {kind : Int} (hk : kind = 128 ∨ kind = 192) {n : Nat} (hn : n < 256 ^ 8) : Byt (headB kind n) := by
  unfold headB
  split
  · intro c hc
    simp at hc
    subst hc
    rcases hk with rfl | rfl <;> omega
  · intro c hc
    rcases List.mem_cons.1 hc with h | h
    · have := shortB_len 8 n hn
      subst h
      rcases hk with rfl | rfl <;> omega
    · exact shortB_byt n c h
theorem enc_byt (x : Tr) : BytT x → (enc x).length < 256 ^ 8 → Byt (enc x) := by
  induction x using Tr.ind with
  | h l b xs ih =>
    intro hb hl
    unfold BytT at hb
    unfold enc at hl ⊢
    have hL : ∀ ys : List Tr, (∀ y ∈ ys, y ∈ xs) → (encL ys).length < 256 ^ 8 → Byt (encL ys) := by
      intro ys
      induction ys with
      | nil => intro _ _ c hc; simp [encL] at hc
      | cons y ys ihy =>
        intro hm hlen
        unfold encL at hlen ⊢
        rw [List.length_append] at hlen
        exact (ih y (hm y (by simp)) ((BytL_iff xs).1 hb.2 y (hm y (by simp))) (by omega)).app (ihy (fun z hz => hm z (by simp [hz])) (by omega))
    split
    · rename_i h
      rw [if_pos h, List.length_append] at hl
      exact (headB_byt (Or.inr rfl) (by omega)).app (hL xs (fun _ h => h) (by omega))
    · rename_i h
      rw [if_neg h] at hl
      unfold encS at hl ⊢
      split
      · exact hb.1
      · rename_i h2
        rw [if_neg h2, List.length_append] at hl
        exact (headB_byt (Or.inl rfl) (by omega)).app hb.1
theorem encE_zero {x : Tr} (h : encE x = 0) : shp x = true ∧ dep x ≤ 16 ∧ (enc x).length ≤ 65536 ∧ encR x = enc x := by
  have hr : encR x = enc x := by unfold encR; rw [if_pos h]
  unfold encE at h
  split at h
  · cases h
  · rename_i h1
    split at h
    · cases h
    · rename_i h2
      refine ⟨by simpa using h1, by omega, by omega, hr⟩
/-- What was encoded is decoded. -/
theorem back1 {x : Tr} (hb : BytT x) (h : encE x = 0) : dcd (encR x) = .ok x ∧ Byt (encR x) ∧ (encR x).length ≤ 65536 := by
  obtain ⟨h1, h2, h3, h4⟩ := encE_zero h
  rw [h4]
  have hl : (enc x).length < 256 ^ 8 := by omega
  refine ⟨?_, enc_byt x hb hl, h3⟩
  have := fs_enc x h1 hb hl 16 h2 []
  rw [List.append_nil] at this
  unfold dcd fst1
  rw [if_neg (by omega), this]
  simp
/-- What was decoded is encoded. -/
theorem back2 {bs : List Int} {x : Tr} (hb : Byt bs) (h : dcd bs = .ok x) : encE x = 0 ∧ encR x = bs := by
  unfold dcd fst1 at h
  by_cases hl : 65536 < bs.length
  · rw [if_pos hl] at h
    cases h
  · rw [if_neg hl] at h
    cases hf : fs 16 bs with
    | error c => rw [hf] at h; cases h
    | ok r =>
      obtain ⟨y, n⟩ := r
      rw [hf] at h
      simp only at h
      split at h
      · cases h
      · rename_i hn
        injection h with h
        subst h
        obtain ⟨⟨e1, e2⟩, e3, e4, e5, e6⟩ := fs_ok 16 bs y n hb hf
        have : n = bs.length := by omega
        subst this
        rw [List.take_length] at e1
        have he : encE y = 0 := by
          unfold encE
          rw [if_neg (by rw [e4]; decide), if_neg (by rw [← e1]; omega)]
        exact ⟨he, by unfold encR; rw [if_pos he, e1]⟩
theorem dcd_nz {bs : List Int} {c : Int} (h : dcd bs = .error c) : c ≠ 0 := by
  unfold dcd fst1 at h
  by_cases hl : 65536 < bs.length
  · rw [if_pos hl] at h
    injection h with h
    subst h
    decide
  · rw [if_neg hl] at h
    cases hf : fs 16 bs with
    | error c => rw [hf] at h; injection h with h; subst h; exact fs_nz _ _ _ hf
    | ok r =>
      obtain ⟨y, n⟩ := r
      rw [hf] at h
      simp only at h
      split at h
      · injection h with h
        subst h
        decide
      · cases h
/-- What stands behind changes nothing; what is cut is none. -/
theorem ahead1 {x : Tr} (hb : BytT x) (h : encE x = 0) (more : List Int) (hm : (encR x).length + more.length ≤ 65536) : fst1 (encR x ++ more) = .ok (x, (encR x).length) ∧ fst1 (encR x).dropLast = .error 10 ∧ 1 ≤ (encR x).length ∧ Byt (encR x) := by
  obtain ⟨h1, h2, h3, h4⟩ := encE_zero h
  rw [h4] at hm ⊢
  have hl : (enc x).length < 256 ^ 8 := by omega
  have e1 := fs_enc x h1 hb hl 16 h2 more
  have hby := enc_byt x hb hl
  refine ⟨?_, ?_, ?_, hby⟩
  · unfold fst1
    rw [if_neg (by rw [List.length_append]; omega)]
    exact e1
  · unfold fst1
    rw [if_neg (by rw [List.length_dropLast]; omega)]
    exact fs_cut x h1 hb hl 16
  · have e2 := fs_enc x h1 hb hl 16 h2 []
    rw [List.append_nil] at e2
    exact (fs_ok 16 _ _ _ hby e2).2.1
end Go.Proofs.Ytmnlcpfehbpogaa
