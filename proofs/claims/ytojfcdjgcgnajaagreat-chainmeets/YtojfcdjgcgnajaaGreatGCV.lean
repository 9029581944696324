/- CR, CT, CU, CV -/
import Derived.Test.YtojfcdjgcgnajaaGreatGCM
import Derived.Test.YtojfcdjgcgnajaaGreatGCQ
namespace Go.Proofs.YtojfcdjgcgnajaaGreat
open Go.RowKit Go.Maps Go.Joins
open Rl (Tr BytesV ItV ItsV BytD OwnIts IC icL icC vB shortB encR enc)
set_option linter.unusedSimpArgs false
set_option linter.unusedVariables false
theorem arr38 (b o : Nat) (w : World) : (Instr.sliceAt 38 (.pointer (some ⟨b, o, none⟩)) none none none).run Tryz.prog w = .ok (.slice (some ⟨b, o, none⟩) 32 32) w := by
 have ha : Tryz.prog.arrayLen 38 = 32 := by kernel_rfl
 have he : Tryz.prog.elem 38 = 5 := by kernel_rfl
 rw [run_sliceAt_array_all w 38 ⟨b, o, none⟩ (by kernel_rfl), he, Tryz.sizeOf5, ha]; simp [Result.andThen, slicedAt, Addr.add]
def blkL : List Int := (List.range 32).map blk
theorem blk_bytes {w : World} {b ty : Nat} {sg : Nat → Value} (h : w.rowIs b ty 100 (voF sg)) : BytesV w (.slice (some ⟨b, 3, none⟩) 32 32) blkL := by
 refine Or.inr ⟨⟨b, 3, none⟩, 32, rfl, fun j u hu => ?_⟩; have hj : j < 32 := by
  have := (List.getElem?_eq_some_iff.1 hu).1
  simpa [vB, blkL] using this
 have h1 := (h.cell (i := 3 + j) (by omega)).trans (congrArg some (voF_blk sg j hj)); rw [Addr.add_lit, h1, ← hu]; simp [vB, blkL, bI, hj]
def label : List UInt8 := [99, 111, 110, 99, 108, 97, 118, 101, 32, 118, 111, 116, 101]
def voteT : Tr := .mk true [] [.mk false (kI label) [], .mk false (shortB 7) [], .mk false (shortB 2) [], .mk false (shortB 1) [], .mk false (shortB 0) [], .mk false blkL []]
set_option maxRecDepth 100000 in
set_option maxHeartbeats 4000000 in
theorem voteBytes_any (sg : Nat → Value) (w : World) : Calls Tryz.prog 15 #[.int .u64 7, .agg (vec 100 (voF sg))] w fun e w' => ∃ v, e = .returned v ∧ w'.ownsRow w.heap.size 5 1 v (encR voteT).length (vB (encR voteT)) ∧ Below w.heap.size w w' := by
 have R0 : Hid ((w.alloc (.cells (vec 100 (voF sg)) 42)).rowIs w.heap.size 42 100 (voF sg) ∧ Below w.heap.size w (w.alloc (.cells (vec 100 (voF sg)) 42))) := by
  have h : Below w.heap.size w (w.alloc (.cells (vec 100 (voF sg)) 42)) := by go_grown
  exact ⟨heap_row (heap_alloc_new _ _), h⟩
 go_enter Tryz.func15, Tryz.ntmps15
 go_wp2_with fail
 generalize (w.alloc (.cells (vec 100 (voF sg)) 42)) = W at R0 ⊢; have hwl : w.heap.size ≤ W.heap.size := R0.out.2.size; refine wp_region_held_drew (S := fun w' : World => w'.rowIs w.heap.size 42 100 (voF sg)) (by kernel_rfl) R0.out.1 (fun hHeld => ?_); refine tk 0 (.int .u64 7) (fun w9 hSw => ?_) hHeld ?_
 · go_simp
 simp only [sm]; refine tk 1 (.pointer (some ⟨w.heap.size, 0, none⟩)) (fun w9 hSw => ?_) hHeld ?_
 · go_simp
 simp only [sm]; refine tk 2 (.int .i64 2) (fun w9 hSw => ?_) hHeld ?_
 · have k0 : w9.cell? ⟨w.heap.size, 0, none⟩ = some (.int .i64 2) := World.rowIs.cell hSw (by decide)
   go_simp
 simp only [sm]; refine tk 4 (.pointer (some ⟨w.heap.size, 1, none⟩)) (fun w9 hSw => ?_) hHeld ?_
 · go_simp
 simp only [sm]; refine tk 5 (.int .u64 1) (fun w9 hSw => ?_) hHeld ?_
 · have k0 : w9.cell? ⟨w.heap.size, 1, none⟩ = some (.int .u64 1) := World.rowIs.cell hSw (by decide)
   go_simp
 simp only [sm]; refine tk 7 (.pointer (some ⟨w.heap.size, 2, none⟩)) (fun w9 hSw => ?_) hHeld ?_
 · go_simp
 simp only [sm]; refine tk 8 (.int .i64 0) (fun w9 hSw => ?_) hHeld ?_
 · have k0 : w9.cell? ⟨w.heap.size, 2, none⟩ = some (.int .i64 0) := World.rowIs.cell hSw (by decide)
   go_simp
 simp only [sm]; refine tk 10 (.pointer (some ⟨w.heap.size, 3, none⟩)) (fun w9 hSw => ?_) hHeld ?_
 · go_simp
 simp only [sm]; refine tk 11 (.slice (some ⟨w.heap.size, 3, none⟩) 32 32) (fun w9 hSw => ?_) hHeld ?_
 · have k0 := arr38 w.heap.size 3 w9
   go_simp
 simp only [sm]; have G0 : Hid (Below w.heap.size w W.drew) := (⟨R0.out.2.os, R0.out.2.tape, R0.out.2.output, R0.out.2.size, R0.out.2.block⟩ : Below w.heap.size w W.drew)
 clear R0 hwl; generalize W.drew = w0 at hHeld G0 ⊢; refine rd 3 (fun K hK => ?_); go_simp; refine Calls.mono (cnumber_any (w := w0) 2 (by decide)) ?_; rintro e w1 ⟨b1, s1, rfl, i1⟩; have G1 : Hid (Below w.heap.size w w1 ∧ ItV w1 (fun b => b < w1.heap.size) s1 (.slice none 0 0) (.mk false (shortB 2) [])) := ⟨G0.out.trans (b1.mono G0.out.size), i1.mono (fun _ _ => rfl) (fun b hb => hb.2)⟩
 have hS1 : w1.rowIs w.heap.size 42 100 (voF sg) := World.rowIs.of_block hHeld (b1.block _ (World.rowIs.lt hHeld)); clear b1 i1 G0; go_wp2_with fail; refine hK.out _ _ hS1 (fun hHeld => ?_); clear hK K hS1; try simp only [sm]
 refine rd 6 (fun K hK => ?_); go_simp; refine Calls.mono (Rl.num_any (w := w1) 1 (by decide)) ?_; rintro e w2 ⟨b2, s2, rfl, i2⟩; have G2 : Hid (Below w.heap.size w w2 ∧ ItV w2 (fun b => b < w2.heap.size) s1 (.slice none 0 0) (.mk false (shortB 2) []) ∧ ItV w2 (fun b => b < w2.heap.size) s2 (.slice none 0 0) (.mk false (shortB 1) [])) := ⟨G1.out.1.trans (b2.mono G1.out.1.size), (G1.out.2).mono (fun b hb => b2.block b hb) (fun b hb => Nat.lt_of_lt_of_le hb b2.size), i2.mono (fun _ _ => rfl) (fun b hb => hb.2)⟩
 have hS2 : w2.rowIs w.heap.size 42 100 (voF sg) := World.rowIs.of_block hHeld (b2.block _ (World.rowIs.lt hHeld)); clear b2 i2 G1; go_wp2_with fail; refine hK.out _ _ hS2 (fun hHeld => ?_); clear hK K hS2; try simp only [sm]
 refine rd 9 (fun K hK => ?_); go_simp; refine Calls.mono (cnumber_any (w := w2) 0 (by decide)) ?_; rintro e w3 ⟨b3, s3, rfl, i3⟩; have G3 : Hid (Below w.heap.size w w3 ∧ ItV w3 (fun b => b < w3.heap.size) s1 (.slice none 0 0) (.mk false (shortB 2) []) ∧ ItV w3 (fun b => b < w3.heap.size) s2 (.slice none 0 0) (.mk false (shortB 1) []) ∧ ItV w3 (fun b => b < w3.heap.size) s3 (.slice none 0 0) (.mk false (shortB 0) [])) := ⟨G2.out.1.trans (b3.mono G2.out.1.size), (G2.out.2.1).mono (fun b hb => b3.block b hb) (fun b hb => Nat.lt_of_lt_of_le hb b3.size), (G2.out.2.2).mono (fun b hb => b3.block b hb) (fun b hb => Nat.lt_of_lt_of_le hb b3.size), i3.mono (fun _ _ => rfl) (fun b hb => hb.2)⟩
 have hS3 : w3.rowIs w.heap.size 42 100 (voF sg) := World.rowIs.of_block hHeld (b3.block _ (World.rowIs.lt hHeld)); clear b3 i3 G2; go_wp2_with fail; refine hK.out _ _ hS3 (fun hHeld => ?_); clear hK K hS3; try simp only [sm]
 refine rd 12 (fun K hK => ?_); go_simp; refine Calls.mono (Rl.str_any (blk_bytes hHeld) (by decide)) ?_; rintro e w4 ⟨b4, s4, rfl, i4⟩; have G4 : Hid (Below w.heap.size w w4 ∧ ItV w4 (fun b => b < w4.heap.size) s1 (.slice none 0 0) (.mk false (shortB 2) []) ∧ ItV w4 (fun b => b < w4.heap.size) s2 (.slice none 0 0) (.mk false (shortB 1) []) ∧ ItV w4 (fun b => b < w4.heap.size) s3 (.slice none 0 0) (.mk false (shortB 0) []) ∧ ItV w4 (fun b => b < w4.heap.size) s4 (.slice none 0 0) (.mk false blkL [])) := ⟨G3.out.1.trans (b4.mono G3.out.1.size), (G3.out.2.1).mono (fun b hb => b4.block b hb) (fun b hb => Nat.lt_of_lt_of_le hb b4.size), (G3.out.2.2.1).mono (fun b hb => b4.block b hb) (fun b hb => Nat.lt_of_lt_of_le hb b4.size), (G3.out.2.2.2).mono (fun b hb => b4.block b hb) (fun b hb => Nat.lt_of_lt_of_le hb b4.size), i4.mono (fun _ _ => rfl) (fun b hb => hb.2)⟩
 have hS4 : w4.rowIs w.heap.size 42 100 (voF sg) := World.rowIs.of_block hHeld (b4.block _ (World.rowIs.lt hHeld)); clear b4 i4 G3; go_wp2_with fail; refine hK.out _ _ hS4 (fun hHeld => ?_); clear hK K hS4; try simp only [sm]
 obtain ⟨a1, c1, rfl⟩ := G4.out.2.1.b.is.form; obtain ⟨a2, c2, rfl⟩ := G4.out.2.2.1.b.is.form; obtain ⟨a3, c3, rfl⟩ := G4.out.2.2.2.1.b.is.form; obtain ⟨a4, c4, rfl⟩ := G4.out.2.2.2.2.b.is.form; have EB : ∀ b : List Int, (Tr.mk false b []).b = b := fun _ => rfl
 rw [EB, EB, EB, EB] at G4; rw [EB, EB, EB, EB]; clear EB; refine rd 13 (fun K hK => ?_); go_simp; have HF : Hid ((w4.alloc (.cells #[.bool false, .slice a1 (shortB 2).length c1, .slice none 0 0, .bool false, .slice a2 (shortB 1).length c2, .slice none 0 0, .bool false, .slice a3 (shortB 0).length c3, .slice none 0 0, .bool false, .slice a4 blkL.length c4, .slice none 0 0] 61)).rowIs w.heap.size 42 100 (voF sg)) := rowOld hHeld _; have hb5 : Below w4.heap.size w4 (w4.alloc (.cells #[.bool false, .slice a1 (shortB 2).length c1, .slice none 0 0, .bool false, .slice a2 (shortB 1).length c2, .slice none 0 0, .bool false, .slice a3 (shortB 0).length c3, .slice none 0 0, .bool false, .slice a4 blkL.length c4, .slice none 0 0] 61)) := by go_grown
 have hA : Hid (∃ A : List IC, A.length = 4 ∧ A.map IC.x = [.mk false (shortB 2) [], .mk false (shortB 1) [], .mk false (shortB 0) [], .mk false blkL []] ∧ (∀ j u, (icL A)[j]? = some u → (w4.alloc (.cells #[.bool false, .slice a1 (shortB 2).length c1, .slice none 0 0, .bool false, .slice a2 (shortB 1).length c2, .slice none 0 0, .bool false, .slice a3 (shortB 0).length c3, .slice none 0 0, .bool false, .slice a4 blkL.length c4, .slice none 0 0] 61)).cell? ((⟨w4.heap.size, 0, none⟩ : Addr).add j) = some u) ∧ (∀ f ∈ A, ItV (w4.alloc (.cells #[.bool false, .slice a1 (shortB 2).length c1, .slice none 0 0, .bool false, .slice a2 (shortB 1).length c2, .slice none 0 0, .bool false, .slice a3 (shortB 0).length c3, .slice none 0 0, .bool false, .slice a4 blkL.length c4, .slice none 0 0] 61)) (fun b => b < (w4.alloc (.cells #[.bool false, .slice a1 (shortB 2).length c1, .slice none 0 0, .bool false, .slice a2 (shortB 1).length c2, .slice none 0 0, .bool false, .slice a3 (shortB 0).length c3, .slice none 0 0, .bool false, .slice a4 blkL.length c4, .slice none 0 0] 61)).heap.size) f.sb f.si f.x)) := by
  refine ⟨([⟨.mk false (shortB 2) [], .slice a1 (shortB 2).length c1, .slice none 0 0⟩, ⟨.mk false (shortB 1) [], .slice a2 (shortB 1).length c2, .slice none 0 0⟩, ⟨.mk false (shortB 0) [], .slice a3 (shortB 0).length c3, .slice none 0 0⟩, ⟨.mk false blkL [], .slice a4 blkL.length c4, .slice none 0 0⟩] : List IC), rfl, rfl, fun j u hu => ?_, fun f hf => ?_⟩
  · rw [Addr.add_lit, Nat.zero_add, cell_of_row _ _ j _ _ _ (heap_alloc_new w4 _), ← hu]
    exact List.getElem?_toArray (xs := icL [⟨.mk false (shortB 2) [], .slice a1 (shortB 2).length c1, .slice none 0 0⟩, ⟨.mk false (shortB 1) [], .slice a2 (shortB 1).length c2, .slice none 0 0⟩, ⟨.mk false (shortB 0) [], .slice a3 (shortB 0).length c3, .slice none 0 0⟩, ⟨.mk false blkL [], .slice a4 blkL.length c4, .slice none 0 0⟩]) (i := j)
  · have hsz : w4.heap.size ≤ (w4.alloc (.cells #[.bool false, .slice a1 (shortB 2).length c1, .slice none 0 0, .bool false, .slice a2 (shortB 1).length c2, .slice none 0 0, .bool false, .slice a3 (shortB 0).length c3, .slice none 0 0, .bool false, .slice a4 blkL.length c4, .slice none 0 0] 61)).heap.size := hb5.size
    simp only [List.mem_cons, List.not_mem_nil, or_false] at hf; rcases hf with rfl | rfl | rfl | rfl
    · exact G4.out.2.1.mono (fun b hb => hb5.block b hb) (fun b hb => Nat.lt_of_lt_of_le hb hsz)
    · exact G4.out.2.2.1.mono (fun b hb => hb5.block b hb) (fun b hb => Nat.lt_of_lt_of_le hb hsz)
    · exact G4.out.2.2.2.1.mono (fun b hb => hb5.block b hb) (fun b hb => Nat.lt_of_lt_of_le hb hsz)
    · exact G4.out.2.2.2.2.mono (fun b hb => hb5.block b hb) (fun b hb => Nat.lt_of_lt_of_le hb hsz)
 have G5 : Hid (Below w.heap.size w (w4.alloc (.cells #[.bool false, .slice a1 (shortB 2).length c1, .slice none 0 0, .bool false, .slice a2 (shortB 1).length c2, .slice none 0 0, .bool false, .slice a3 (shortB 0).length c3, .slice none 0 0, .bool false, .slice a4 blkL.length c4, .slice none 0 0] 61))) := G4.out.1.trans (hb5.mono G4.out.1.size); clear hb5; refine hK.out _ _ HF.out (fun hHeld => ?_); clear hK K HF; try simp only [sm]
 obtain ⟨A, hA4, hAx, hAn, hAi⟩ := hA.out; clear hA G4; generalize hW5 : w4.alloc (.cells #[.bool false, .slice a1 (shortB 2).length c1, .slice none 0 0, .bool false, .slice a2 (shortB 1).length c2, .slice none 0 0, .bool false, .slice a3 (shortB 0).length c3, .slice none 0 0, .bool false, .slice a4 blkL.length c4, .slice none 0 0] 61) = w5 at hAn hAi G5 hHeld ⊢; clear hW5; have HT := text_any label (by decide) 7 (by decide) ⟨w4.heap.size, 0, none⟩ 4 A (by omega) hAn hAi; rw [hA4, show textT label 7 A = voteT from by unfold textT; rw [hAx]; rfl] at HT; have HTT : Hid _ := HT; clear HT hA4 hAx hAn hAi; refine rd 14 (fun K hK => ?_); go_simp; refine Calls.mono HTT.out ?_; rintro e w6 ⟨v, rfl, ho6, b6⟩; have hwl : w.heap.size ≤ w5.heap.size := G5.out.size; have G6 : Hid (w6.ownsRow w.heap.size 5 1 v (encR voteT).length (vB (encR voteT)) ∧ Below w.heap.size w w6) := ⟨ho6.mono hwl, G5.out.trans (b6.mono hwl)⟩
 have hS6 : w6.rowIs w.heap.size 42 100 (voF sg) := World.rowIs.of_block hHeld (b6.block _ (World.rowIs.lt hHeld)); clear ho6 b6 G5 HTT; go_wp2_with fail; refine hK.out _ _ hS6 (fun hHeld => ?_); clear hK K hS6; try simp only [sm]
 refine rd 15 (fun K hK => ?_); go_simp; refine hK.out _ _ hHeld (fun hHeld => ?_); clear hK K; try simp only [sm]
 refine wpAnyH_done (by kernel_rfl) ?_ _; go_wp2; go_ret; exact ⟨v, rfl, G6.out⟩
end Go.Proofs.YtojfcdjgcgnajaaGreat
namespace Go.Proofs.YtojfcdjgcgnajaaGreat
open Rl (Tr shortB encR)
theorem s7 : shortB 7 = [7] := by rw [Rl.shortB_pos (by decide), Rl.shortB_zero]; rfl
theorem s2 : shortB 2 = [2] := by rw [Rl.shortB_pos (by decide), Rl.shortB_zero]; rfl
theorem s1 : shortB 1 = [1] := by rw [Rl.shortB_pos (by decide), Rl.shortB_zero]; rfl
theorem vote_range : ∀ x ∈ encR voteT, 0 ≤ x ∧ x < 256 := by
 unfold voteT; rw [s7, s2, s1, Rl.shortB_zero]; decide +kernel
theorem vote_len : (encR voteT).length ≤ 1000 := by
 unfold voteT; rw [s7, s2, s1, Rl.shortB_zero]; decide +kernel
end Go.Proofs.YtojfcdjgcgnajaaGreat
namespace Go.Proofs.YtojfcdjgcgnajaaGreat
open Go.RowKit Go.Maps Go.Joins
open Rl (vB encR)
set_option linter.unusedSimpArgs false
set_option linter.unusedVariables false
def vl : Nat := (encR voteT).length
def vm (j : Nat) : BitVec 8 := bv ((encR voteT).getD j 0)
theorem vote_bytes {w : World} {base : Nat} {v : Value} (h : w.ownsRow base 5 1 v (encR voteT).length (vB (encR voteT))) : ∃ a c, v = .slice a vl c ∧ Sha.Bytes w a vl c vm := by
 have hr := vote_range; have hL := vote_len; unfold vl; rcases h.2 with ⟨rfl, h0⟩ | ⟨gg, cap, cur, rfl, hb, hh, hc, hm, hs, ht⟩
 · exfalso
   have h1 := congrArg List.length (show vB (encR voteT) = (vB (encR voteT)).take 0 from by rw [List.take_zero]; exact List.eq_nil_of_length_eq_zero (by rw [h.1, h0])); have h2 : 0 < (encR voteT).length := by
    unfold voteT; rw [s7, s2, s1, Rl.shortB_zero]; decide +kernel
   omega
 · refine ⟨_, cap, rfl, gg, 0, fun _ => rfl, fun j hj => ?_, hc, Nat.le_trans hm (by unfold maxLen; decide), by omega⟩
   have e1 : (encR voteT).getD j 0 = (encR voteT)[j] := by simp [List.getD, hj]
   have h1 := hr _ (List.getElem_mem hj); rw [Nat.zero_add, cell_of_row _ _ j _ _ _ hh]; have h3 : cur.toList[j]? = (vB (encR voteT))[j]? := by
    rw [← ht, List.getElem?_take_of_lt (by omega)]
   rw [← Array.getElem?_toList, h3]; unfold vm; rw [e1, I8_bv _ h1.1 h1.2]; simp [vB, hj]
theorem load42 {w : World} {b : Nat} {f : Nat → Value} (h : w.rowIs b 42 100 f) : (loadVar 42 ⟨b, 0, none⟩).run Tryz.prog w = .ok (.agg (vec 100 f)) w :=
 run_loadVar_row w b 42 42 (vec 100 f) (0, 0) _ (row_heap h) Tryz.underlying42 rfl (by rw [size_vec]; kernel_rfl)
theorem load40s {w : World} {b ty : Nat} {sg : Nat → Value} (h : w.rowIs b ty 100 (voF sg)) : (loadVar 40 ⟨b, 36, none⟩).run Tryz.prog w = .ok (.agg (vec 64 sg)) w :=
 Sha.run_loadVar_mid w b 36 64 40 5 sg (fun j hj => (h.cell (by omega)).trans (congrArg some (voF_sg sg j hj))) (by kernel_rfl) (by kernel_rfl)
theorem load30 {w : World} {b : Nat} {n : Int} (h : w.rowIs b 30 32 (kb n)) : (loadVar 30 ⟨b, 0, none⟩).run Tryz.prog w = .ok (.agg (vec 32 (kb n))) w :=
 run_loadVar_row w b 30 30 _ (0, 0) _ (row_heap h) Tryz.underlying30 rfl (info41v _)
set_option maxRecDepth 100000 in
set_option maxHeartbeats 8000000 in
theorem checkVote_any {n R S : Int} (n0 : 0 ≤ n) (n1 : n < T256) (r0 : 0 ≤ R) (r1 : R < T256) (s0 : 0 ≤ S) (s1 : S < T256) (hH : Holds n R S vm vl) (g : Nat) (w : World) (hk : w.rowIs g 30 32 (kb n)) :
 Calls Tryz.prog 30 #[gV g, .agg (vec 100 (voF (bI (sgB R S))))] w fun e w' => e = .returned (.int .i64 0) ∧ Below w.heap.size w w' := by
 have HV : Hid (∀ (am : Option Addr) (capm : Nat) (w : World), Sha.Bytes w am vl capm vm → Calls Tryz.prog 53 #[keyV n, .slice am vl capm, sigV R S] w fun e w' => e = .returned (.bool true) ∧ Below w.heap.size w w') :=
  fun am capm w hm => (g_verify n0 n1 r0 r1 s0 s1 am vl capm vm w hm).mono fun e w' ⟨b, he, hb, hB⟩ => ⟨by rw [he, hb.2 hH], hB⟩
 unfold keyV sigV at HV; generalize bI (sgB R S) = sg at *; clear n0 n1 r0 r1 s0 s1 hH; obtain ⟨W, hW⟩ : ∃ W, W = (w.alloc (gC g)).alloc (.cells (vec 100 (voF sg)) 42) := ⟨_, rfl⟩
 have HW : Hid (W = (w.alloc (gC g)).alloc (.cells (vec 100 (voF sg)) 42)) := hW; have R0 : Hid (W.heap[w.heap.size]? = some (gC g) ∧ W.rowIs (w.heap.size + 1) 42 100 (voF sg) ∧ W.rowIs g 30 32 (kb n) ∧ Below w.heap.size w W) := by
  rw [hW]; have h : Below w.heap.size w ((w.alloc (gC g)).alloc (.cells (vec 100 (voF sg)) 42)) := by go_grown
  exact ⟨(heap_alloc_old _ _ (by simp)).trans (heap_alloc_new _ _), heap_row (heapAt _ _ _ (by simp)), rowOld (rowOld hk _) _, h⟩
 have hwl : w.heap.size < W.heap.size := by rw [hW]; simp; omega
 clear hW hk; have hg : ∀ (i : Nat) (h : i < (vec 100 (voF sg)).size), (vec 100 (voF sg))[i] = voF sg i := fun i h => vec_at _ _ _ h
 have v0 : voF sg 0 = .int .i64 2 := rfl; have v1 : voF sg 1 = .int .u64 1 := rfl; have v2 : voF sg 2 = .int .i64 0 := rfl; have v35 : voF sg 35 = .int .i64 0 := rfl; unfold gV; go_enter Tryz.func30, Tryz.ntmps30; go_wp2_with fail; rw [← HW.out]; refine Calls.mono (placed_any g W) ?_; rintro e w1 ⟨rfl, b1⟩; have R1 : Hid (w1.heap[w.heap.size]? = some (gC g) ∧ w1.rowIs (w.heap.size + 1) 42 100 (voF sg) ∧ w1.rowIs g 30 32 (kb n) ∧ Below w.heap.size w w1) :=
  ⟨(b1.block _ hwl).trans R0.out.1, R0.out.2.1.of_block (b1.block _ R0.out.2.1.lt), R0.out.2.2.1.of_block (b1.block _ R0.out.2.2.1.lt), R0.out.2.2.2.trans (b1.mono (by omega))⟩
 clear b1 R0 HW hg v0 v1 v2 v35 hwl; go_wp2_with fail; refine wp_region_held_drew (S := fun w' : World => w'.heap[w.heap.size]? = some (gC g) ∧ w'.rowIs (w.heap.size + 1) 42 100 (voF sg) ∧ w'.rowIs g 30 32 (kb n)) (by kernel_rfl) ⟨R1.out.1, R1.out.2.1, R1.out.2.2.1⟩ (fun hHeld => ?_); have G0 : Hid (Below w.heap.size w w1.drew) := (⟨R1.out.2.2.2.os, R1.out.2.2.2.tape, R1.out.2.2.2.output, R1.out.2.2.2.size, R1.out.2.2.2.block⟩ : Below w.heap.size w w1.drew)
 clear R1; generalize w1.drew = w0 at hHeld G0 ⊢; refine tk 0 (.pointer (some ⟨w.heap.size, 1, none⟩)) (fun w9 hSw => ?_) hHeld ?_
 · go_simp
 simp only [sm]; refine tk 1 (.slice (some ⟨g, 0, none⟩) 1 1) (fun w9 hSw => ?_) hHeld ?_
 · have k0 : w9.cell? ⟨w.heap.size, 1, none⟩ = some (.slice (some ⟨g, 0, none⟩) 1 1) := cellAt hSw.1 rfl
   go_simp
 simp only [sm]; refine tk 2 (.pointer (some ⟨w.heap.size + 1, 35, none⟩)) (fun w9 hSw => ?_) hHeld ?_
 · go_simp
 simp only [sm]; refine tk 3 (.int .i64 0) (fun w9 hSw => ?_) hHeld ?_
 · have k0 : w9.cell? ⟨w.heap.size + 1, 35, none⟩ = some (.int .i64 0) := hSw.2.1.cell (by decide)
   go_simp
 simp only [sm]; refine tk 4 (.pointer (some ⟨g, 0, none⟩)) (fun w9 hSw => ?_) hHeld ?_
 · go_simp
 simp only [sm]; refine tk 5 (.agg (vec 32 (kb n))) (fun w9 hSw => ?_) hHeld ?_
 · exact Sha.run_load_exec 30 _ rfl _ rfl (load30 hSw.2.2)
 simp only [sm]; refine tk 6 (.pointer (some ⟨w.heap.size, 0, none⟩)) (fun w9 hSw => ?_) hHeld ?_
 · go_simp
 simp only [sm]; refine tk 7 (.int .u64 7) (fun w9 hSw => ?_) hHeld ?_
 · have k0 : w9.cell? ⟨w.heap.size, 0, none⟩ = some (.int .u64 7) := cellAt hSw.1 rfl
   go_simp
 simp only [sm]; refine tk 8 (.agg (vec 100 (voF sg))) (fun w9 hSw => ?_) hHeld ?_
 · exact Sha.run_load_exec 42 _ rfl _ rfl (load42 hSw.2.1)
 simp only [sm]; refine tk 10 (.pointer (some ⟨w.heap.size + 1, 36, none⟩)) (fun w9 hSw => ?_) hHeld ?_
 · go_simp
 simp only [sm]; refine tk 11 (.agg (vec 64 sg)) (fun w9 hSw => ?_) hHeld ?_
 · exact Sha.run_load_exec 40 _ rfl _ rfl (load40s hSw.2.1)
 simp only [sm]; refine rd 9 (fun K hK => ?_); go_simp; refine Calls.mono (voteBytes_any sg w0) ?_; rintro e w2 ⟨v, rfl, ho, b2⟩; obtain ⟨am, cm, rfl, hm⟩ := vote_bytes ho; have G2 : Hid (Sha.Bytes w2 am vl cm vm ∧ Below w.heap.size w w2) := ⟨hm, G0.out.trans (b2.mono G0.out.size)⟩
 have hS2 : w2.heap[w.heap.size]? = some (gC g) ∧ w2.rowIs (w.heap.size + 1) 42 100 (voF sg) ∧ w2.rowIs g 30 32 (kb n) := ⟨(b2.block _ (flt_of_some hHeld.1)).trans hHeld.1, hHeld.2.1.of_block (b2.block _ hHeld.2.1.lt), hHeld.2.2.of_block (b2.block _ hHeld.2.2.lt)⟩
 clear ho hm b2 G0; go_wp2_with fail; refine hK.out _ _ hS2 (fun hHeld => ?_); clear hK K hS2; try simp only [sm]
 refine rd 12 (fun K hK => ?_); go_simp; refine Calls.mono (HV.out _ _ _ G2.out.1) ?_; rintro e w3 ⟨rfl, b3⟩; have G3 : Hid (Below w.heap.size w w3) := G2.out.2.trans (b3.mono G2.out.2.size); have hS3 : w3.heap[w.heap.size]? = some (gC g) ∧ w3.rowIs (w.heap.size + 1) 42 100 (voF sg) ∧ w3.rowIs g 30 32 (kb n) := ⟨(b3.block _ (flt_of_some hHeld.1)).trans hHeld.1, hHeld.2.1.of_block (b3.block _ hHeld.2.1.lt), hHeld.2.2.of_block (b3.block _ hHeld.2.2.lt)⟩
 clear b3 G2; go_wp2_with fail; refine hK.out _ _ hS3 (fun hHeld => ?_); clear hK K hS3; try simp only [sm]
 refine rd 13 (fun K hK => ?_); go_simp; refine hK.out _ _ hHeld (fun hHeld => ?_); clear hK K; try simp only [sm]
 refine rd 14 (fun K hK => ?_); go_simp; refine hK.out _ _ hHeld (fun hHeld => ?_); clear hK K; try simp only [sm]
 refine wpAnyH_done (by kernel_rfl) ?_ _; go_wp2; go_ret; exact ⟨rfl, G3.out⟩
end Go.Proofs.YtojfcdjgcgnajaaGreat
namespace Go.Proofs.YtojfcdjgcgnajaaGreat
open Go.RowKit Go.Shelf
set_option linter.unusedSimpArgs false
set_option linter.unusedVariables false
theorem each_any (a : Option Addr) (n c : Nat) (w : World) : Calls Tryz.prog 28 #[.slice a n c] w fun e w' => e = .returned (.func (.func 51) #[] #[.pointer (some ⟨w.heap.size, 0, none⟩)]) ∧ w' = w.alloc (.cells #[.slice a n c] 47) := by
 have hm : ∀ w : World, (Instr.makeFunc (.func 51) #[] #[.pointer (some ⟨w.heap.size, 0, none⟩)]).run Tryz.prog w = .ok (.func (.func 51) #[] #[.pointer (some ⟨w.heap.size, 0, none⟩)]) w := fun _ => rfl
 go_enter Tryz.func28, Tryz.ntmps28
 go_wp2; go_ret
 exact ⟨rfl, rfl⟩
def zvF (i : Nat) : Value := if i = 1 then .int .u64 0 else if 3 ≤ i ∧ i < 35 then .int .u8 0 else if i < 36 then .int .i64 0 else .int .u8 0
theorem zero42 : (Tryz.prog.info? 42).map (fun i => (i.zero, i.size)) = some (some (.agg (vec 100 zvF)), 100) := by kernel_rfl
theorem zero69 : (Tryz.prog.info? 69).map (fun i => (i.zero, i.size)) = some (some (.agg (vec 100 zvF)), 100) := by kernel_rfl
theorem info42 (f : Nat → Value) : (Tryz.prog.info? 42).map (·.size) = some (vec 100 f).size := by rw [size_vec]; kernel_rfl
theorem info69 (f : Nat → Value) : (Tryz.prog.info? 69).map (·.size) = some (vec 100 f).size := by rw [size_vec]; kernel_rfl
theorem one_vo (f : Nat → Int) : (vec 100 (voF (bI f))).all (·.oneCell') = true := by
 rw [Array.all_eq_true]; intro i hi; rw [vec_at _ _ _ hi]; unfold voF bI
 repeat (first | rfl | split)
theorem wpListIn_store_row {n : Nat} {F : Fence} {ops : Array Oper} {rest : List Oper} {o : Oper} {a : Act} {w : World} {Q : Exit → Act → World → Prop} (hw : Region.wanted o (yielded ops a.tmps) = true) (ty : TypeId) (x y : Operand) (ho : o.op = .store ty x y)
 (g : Nat) (c : Array Value) (hx : a.eval x = .pointer (some ⟨g, 0, none⟩)) (hy : a.eval y = .agg c) (hrun : (storeVar ty ⟨g, 0, none⟩ (.agg c)).run Tryz.prog w = .ok () (w.setRow g c))
 (h : wpListIn F n Tryz.prog ops Q rest (a.put o.dst undef) (w.setRow g c)) : wpListIn F n Tryz.prog ops Q (o :: rest) a w := by
 refine wpListIn_step fun K hK' => ?_
 rw [if_pos hw]; unfold Oper.wpIn; refine ⟨?_, ?_⟩
 · simp [Oper.about, ho]
 · rw [Oper.semAt_plain F _ _ (by rw [ho]; intro c hc'; cases hc')]
   unfold execOp; simp only [ho, hx, hy, Instr.storeAt, Instr.sureAddr, Sem.run_bind, Sem.run_pure, Result.andThen_ok, hrun]; exact hK' _ _ h
attribute [local go_sem] Oper.semAt_some
set_option maxRecDepth 100000 in
set_option maxHeartbeats 4000000 in
theorem each1_in (m l X hv : Nat) (f : Nat → Int) (W0 : World) (J' : World → Prop)
 (hX : W0.cell? ⟨X, 0, none⟩ = some (.slice (some ⟨hv, 0, none⟩) 1 1)) (hr : W0.rowIs hv 42 100 (voF (bI f)))
 (hY : ∀ W2, Below W0.heap.size W0 W2 → YieldAt Fence.wide m Tryz.prog l #[.int .i64 (-1), .agg (vec 100 (voF (bI f)))] W2 fun e W' => e = .returned (.bool true) ∧ (∀ b, W0.heap.size ≤ b → b < W2.heap.size → W'.heap[b]? = W2.heap[b]?) ∧ J' W') :
 CallsIn Fence.wide (m + 1) Tryz.prog 51 #[.func (.yield l) #[] #[], .pointer (some ⟨X, 0, none⟩)] W0 fun e W' => (∃ v, e = .returned v) ∧ J' W' := by
 refine callsIn_of_wp Tryz.func51 rfl trivial ?_ rfl; simp only [Tryz.ntmps51, List.size_toArray, List.length_cons, List.length_nil, Nat.reduceAdd, Nat.reduceSub, Array.replicate_succ, Array.replicate_zero, List.push_toArray, List.append_toArray, List.nil_append, List.cons_append]; have HY : Hid _ := hY; have HR : Hid (W0.rowIs hv 42 100 (voF (bI f))) := hr; clear hY hr; have hz := (zero_of_info zero42).1; gi_wp2; gi_loopw [3, 8] (fun p i wr => (p = .int .i64 (-1) ∧ i = .int .i64 0 ∧ wr = W0) ∨ (i = .int .i64 1 ∧ J' wr)) (fun p i _ => (1 - intOf i).toNat)
 case atStart => exact Or.inl ⟨rfl, rfl, rfl⟩
 case round =>
  rcases hrel with ⟨rfl, rfl, rfl⟩ | ⟨rfl, hj⟩
  · obtain ⟨W2, hW2⟩ : ∃ W2, W2 = (wr.alloc (.cells (vec 100 zvF) 42)).setRow wr.heap.size (vec 100 (voF (bI f))) := ⟨_, rfl⟩
    have HW2 : Hid (W2 = (wr.alloc (.cells (vec 100 zvF) 42)).setRow wr.heap.size (vec 100 (voF (bI f)))) := hW2; have hst := run_storeVar_row (P := Tryz.prog) (wr.alloc (.cells (vec 100 zvF) 42)) wr.heap.size 42 42 _ (vec 100 (voF (bI f))) (row_heap (heap_row (heap_alloc_new wr (.cells (vec 100 zvF) 42)))) (info42 _) (by simp) (one_vo f); have R2 : Hid (W2.rowIs wr.heap.size 42 100 (voF (bI f)) ∧ Below wr.heap.size wr W2 ∧ wr.heap.size < W2.heap.size) := by
     rw [hW2]; have h : ((wr.alloc (.cells (vec 100 zvF) 42)).setRow wr.heap.size (vec 100 (voF (bI f)))).heap[wr.heap.size]? = some (.cells (vec 100 (voF (bI f))) 42 (0, 0)) := setRow_heap _ _ _ _ _ _ (row_heap (heap_row (heap_alloc_new wr (.cells (vec 100 zvF) 42)))); exact ⟨heap_row h, below_setRow ((Below.refl _ _).alloc (Nat.le_refl _) _) (Nat.le_refl _) _, flt_of_some h⟩
    obtain ⟨fn, tmps, assign, body, hy, hR⟩ := HY.out W2 R2.out.2.1; clear hW2; gi_wp2_with (first | (refine wpListIn_load_run (by rfl) 42 _ rfl ⟨hv, 0, none⟩ rfl (load42 HR.out) ?_) | (refine wpListIn_store_row (by rfl) 42 _ _ rfl wr.heap.size (vec 100 (voF (bI f))) rfl rfl hst ?_; rw [← HW2.out]) | (refine wpListIn_load_run (by rfl) 42 _ rfl ⟨wr.heap.size, 0, none⟩ rfl (load42 R2.out.1) ?_)); refine hR.mono ?_; rintro e W5 ⟨rfl, hk5, hj5⟩; have k4 : W5.cell? ⟨wr.heap.size, 35 + 0, none⟩ = some (.int .i64 0) := (World.rowIs.of_block R2.out.1 (hk5 _ (Nat.le_refl _) R2.out.2.2)).cell (i := 35) (by decide); have H5 : Hid (J' W5) := hj5; clear hj5 hR hy hk5 hst; gi_wp2; go_roundw
    case rel => exact Or.inr ⟨rfl, H5.out⟩
    case measure => decide
  · have H5 : Hid (J' wr) := hj
    clear hj; gi_wp2; go_end0; exact ⟨⟨_, rfl⟩, H5.out⟩
end Go.Proofs.YtojfcdjgcgnajaaGreat
