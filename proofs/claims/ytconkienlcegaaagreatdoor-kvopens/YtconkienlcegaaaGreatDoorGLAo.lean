/- MA, WT4, MB, LAo -/
import Derived.Test.YtconkienlcegaaaGreatDoorGShelfS
import Derived.Test.YtconkienlcegaaaGreatDoorLX
import Derived.Test.YtconkienlcegaaaGreatDoorLZ1
import Derived.Test.YtconkienlcegaaaGreatDoorGKW
import Derived.Test.YtconkienlcegaaaGreatDoorGWT1
import Derived.Test.YtconkienlcegaaaGreatDoorGDD
import Derived.Test.YtconkienlcegaaaGreatDoorRows
import Derived.ProofKit
import Derived.LaidMore
import Derived.OpenShut
import Derived.Stop.Joined
import Derived.Stop.LaidErr
import Derived.Carry
import Derived.Lib.LaidTab
namespace Go.Proofs.YtconkienlcegaaaGreatDoor
open Go.RowKit Go.Maps Go.Joins Go.Sort
set_option linter.unusedVariables false
set_option linter.unusedSimpArgs false
theorem d2_open2k {w0 w : World} {bd br bl : Nat} {S : DS} {R : RS} {L : LS} {ro : Int} {A B : DA} (h : D2 w0 w bd br S R ro A B) (hL : LogIs w bl L) (hLR : ∀ b, R.own b ≠ 0 → L.own b = 0) (hdn : B.down = false) (hst : B.steps < 4611686018427387800) (hnm : NmB B.l) (most : Int) (hm : 1 ≤ most) :
 Calls Tryz.prog 46 #[.pointer (some ⟨br, 0, none⟩), .string logB, .int .i64 most] w fun e w' => ∃ c bq R' Q B', e = .returned (.tuple #[if c = 0 then .pointer (some ⟨bq, 0, none⟩) else .pointer none, .int .i64 c]) ∧ D2 w0 w' bd br S R' ro A B' ∧ LogIs w' bl L ∧ QIs w' bq Q ∧ OpX B ⟨[], [], 0, false, most⟩ (srtI (numsOf (nmS B.l))) c B' (absG Q) ∧ (∀ b, b < w.heap.size → R.own b = 0 → w'.heap[b]? = w.heap[b]?) ∧ w.heap.size ≤ w'.heap.size := by
 have hv := h.v0; have hs := h.fr.size; have el : absR R.A = B.l := congrArg DA.l h.b; have ed : R.down = B.down := congrArg DA.down h.b; have es : R.n = B.steps := congrArg DA.steps h.b; refine (ropen_any h.ref h.hb (ed.trans hdn) (by rw [es]; exact hst) (by rw [el]; exact hnm.nmS) most hm).mono ?_; rintro e w' ⟨c, bq, R', Q', v8, l, rfl, h3, hop, hc⟩; rw [h.b, el] at hop; have hk : ∀ b, b < w.heap.size → R.own b = 0 → w'.heap[b]? = w.heap[b]? := fun b hb h0 => (h3.blk b hb h0).1
 have hl0 : ∀ b, L.own b ≠ 0 → R.own b = 0 := fun b hb => by
  cases h1 : R.own b with
  | zero => rfl
  | succ n => exact absurd (hLR b (by rw [h1]; simp)) hb
 refine ⟨c, bq, R', Q', absQ R', rfl, ⟨h.disk.kept (fun b hb => hk b (h.disk.role_lt hb) (h.rnone hb)) h3.size, h.gb, h.a, h3.ref, h3.hb, rfl, fun b hb => ?_, h.vars.kept (fun b hb => hk b (by omega) (h.off b (by omega)).2), ⟨h3.os.trans h.fr.os, h3.tape.trans h.fr.tape, h3.output.trans h.fr.output, Nat.le_trans h.fr.size h3.size, fun b hb => (hk b (Nat.lt_of_lt_of_le hb h.fr.size) (h.off b hb).2).trans (h.fr.block b hb)⟩, fun b hb => ⟨(h.off b hb).1, (h3.blk b (Nat.lt_of_lt_of_le hb h.fr.size) (h.off b hb).2).2.1⟩, h.v0⟩, hL.kept (fun b hb => hk b (hL.own_lt hb) (hl0 b hb)) h3.size, h3.log, hop, hk, h3.size⟩; rcases Nat.lt_or_ge b w.heap.size with h1 | h1
 · by_cases h2 : R.own b = 0
   · exact absurd (h3.blk b h1 h2).2.1 hb
   · exact h.apart b h2
 · exact h.disk.fresh b h1
def db0 : ByteArray := ⟨#[100, 98, 46, 48]⟩
structure OpJ (W w : World) (bd br : Nat) (S : DS) (R : RS) (A : DA) (k : Nat) : Prop where
 d2 : D2 W w bd br S R 1073741824 A A
 up : Up A
 nm : NmB A.l
 st : A.steps ≤ (k : Int)
 one : OneF A.l (nb db0)
theorem OpJ.below {W w w' : World} {bd br : Nat} {S : DS} {R : RS} {A : DA} {k : Nat} (h : OpJ W w bd br S R A k) (hb : Below w.heap.size w w') : OpJ W w' bd br S R A k := ⟨h.d2.below hb, h.up, h.nm, h.st, h.one⟩
theorem OpJ.app {W w : World} {bd br : Nat} {S : DS} {R : RS} {A : DA} {bs : List Int} {k : Nat} {S0 : DS} {R0 : RS} {w0 : World} (h0 : OpJ W w0 bd br S0 R0 A k) (hb : KByt bs) (h : D2 W w bd br S R 1073741824 (dApp A db0 bs).2 (dApp A db0 bs).2) : OpJ W w bd br S R (dApp A db0 bs).2 (k + 1) :=
 ⟨h, h0.up.next _ 0 _, h0.nm.dApp _ _, by have h1 := h0.st; have h2 : (dApp A db0 bs).2.steps ≤ A.steps + 1 := (dDo_steps A db0 (eApp A.l A.room db0 bs) (lApp A.l A.room db0 bs)).2; omega, one_app h0.one hb⟩
theorem OpJ.files {W w : World} {bd br : Nat} {S : DS} {R : RS} {A : DA} {k : Nat} (h : OpJ W w bd br S R A k) : ∀ p ∈ A.l, KByt p.2.1 ∧ p.2.1.length ≤ 1073741824 := fun p hp => ⟨h.one.byt p hp, by
 have h1 := h.d2.gb.wf.sum; rw [show absP S = A.l from congrArg DA.l h.d2.a] at h1; have h2 := len_sum hp; omega⟩
def OpX1 (W : World) (bd br : Nat) (R : RS) (A : DA) (c : Int) (bl : Nat) (L : LS) (w : World) : Prop := ∃ S6 A6, D2 W w bd br S6 R 1073741824 A6 A ∧ LogIs w bl L ∧ (∀ b, R.own b ≠ 0 → L.own b = 0) ∧ OpX A ⟨[], [], 0, false, 100⟩ (srtI (numsOf (nmS A.l))) c A6 (absL L)
theorem open1 {W w : World} {bd br : Nat} {S : DS} {R : RS} {A : DA} {k : Nat} (h : OpJ W w bd br S R A k) (hk : k ≤ 9000000000000) :
 Calls Tryz.prog 40 #[.pointer (some ⟨bd, 0, none⟩), .string logB, .int .i64 100] w fun e w' => ∃ c bl L, e = .returned (.tuple #[if c = 0 then .pointer (some ⟨bl, 0, none⟩) else .pointer none, .int .i64 c]) ∧ OpX1 W bd br R A c bl L w' ∧ (c = 0 → LgK w' bl L) := by
 refine (d2_open1 h.d2 h.up.dn (by have := h.st; omega) h.nm 100 (by omega)).mono ?_; rintro e w' ⟨c, bl, S6, L, A6, rfl, hd, hl, hn, hr, ho⟩; refine ⟨c, bl, L, rfl, ⟨S6, A6, hd, hl, hr, ho⟩, fun h0 => ?_⟩; have hb := opx_byt ho (nums_one h.one.len) h0 h.files; have hs := opx_small _ ho h0 (fun r hr => by cases hr); have e1 : (absL L).rs = L.rs.map (·.2) := rfl; rw [e1] at hb hs; rw [List.length_map] at hb; exact ⟨hl, hn h0, by omega, fun p hp => ⟨hb.2 p.2 (List.mem_map.2 ⟨p, hp, rfl⟩), hs p.2 (List.mem_map.2 ⟨p, hp, rfl⟩)⟩⟩
def OpX2 (W : World) (bd br bl : Nat) (S6 : DS) (R : RS) (L : LS) (A A6 : DA) (w0 : World) (c : Int) (bq : Nat) (Q : QS) (w : World) : Prop := ∃ R7 B7, D2 W w bd br S6 R7 1073741824 A6 B7 ∧ LogIs w bl L ∧ QIs w bq Q ∧ OpX A ⟨[], [], 0, false, 100⟩ (srtI (numsOf (nmS A.l))) c B7 (absG Q) ∧ (∀ b, b < w0.heap.size → R.own b = 0 → w.heap[b]? = w0.heap[b]?) ∧ w0.heap.size ≤ w.heap.size
theorem open2 {W w w' : World} {bd br : Nat} {S : DS} {R : RS} {A : DA} {k : Nat} (h : OpJ W w bd br S R A k) (hk : k ≤ 9000000000000) {c0 : Int} {bl : Nat} {L : LS} {S6 : DS} {A6 : DA} (h6 : D2 W w' bd br S6 R 1073741824 A6 A) (hl : LogIs w' bl L) (hr : ∀ b, R.own b ≠ 0 → L.own b = 0) :
 Calls Tryz.prog 46 #[.pointer (some ⟨br, 0, none⟩), .string logB, .int .i64 100] w' fun e w2 => ∃ c bq Q, e = .returned (.tuple #[if c = 0 then .pointer (some ⟨bq, 0, none⟩) else .pointer none, .int .i64 c]) ∧ OpX2 W bd br bl S6 R L A A6 w' c bq Q w2 ∧ (c = 0 → QgK w2 bq Q) := by
 refine (d2_open2k h6 hl hr h.up.dn (by have := h.st; omega) h.nm 100 (by omega)).mono ?_; rintro e w2 ⟨c, bq, R7, Q, B7, rfl, hd, hl2, hq, ho, hk2, hs2⟩; refine ⟨c, bq, Q, rfl, ⟨R7, B7, hd, hl2, hq, ho, hk2, hs2⟩, fun h0 => ?_⟩; have hb := opx_byt ho (nums_one h.one.len) h0 h.files; have hs := opx_small _ ho h0 (fun r hr => by cases hr); have e1 : (absG Q).rs = Q.rs.map (·.2) := rfl; rw [e1] at hb hs; rw [List.length_map] at hb; exact ⟨hq, by omega, fun p hp => ⟨hb.2 p.2 (List.mem_map.2 ⟨p, hp, rfl⟩), hs p.2 (List.mem_map.2 ⟨p, hp, rfl⟩)⟩⟩
theorem doP_keys {s : List (List UInt8 × List Int)} {c : Ch} (h : ∀ p ∈ s, p.1.length ≤ 64) (hc : c.key.length ≤ 64) : ∀ p ∈ doP s c, p.1.length ≤ 64 := fun p hp => by
 unfold doP at hp; split at hp
 · exact h p (List.mem_filter.1 hp).1
 · rcases put_mem hp with rfl | hp
   · show (kS c.key).length ≤ 64
     unfold kS; rw [strOfNums_data, List.length_map]; exact hc
   · exact h p hp
theorem doPs_keys : ∀ {l : List Ch} {s : List (List UInt8 × List Int)}, (∀ p ∈ s, p.1.length ≤ 64) → (∀ c ∈ l, c.key.length ≤ 64) → ∀ p ∈ doPs s l, p.1.length ≤ 64
 | [], s, h, _ => h
 | c :: r, s, h, hl => doPs_keys (l := r) (s := doP s c) (doP_keys h (hl c (by simp))) (fun x hx => hl x (List.mem_cons_of_mem _ hx))
theorem opK_keys' : ∀ (rs : List (List Int)) {o : Option (List (List UInt8 × List Int))} {s : List (List UInt8 × List Int)}, (∀ r ∈ rs, KByt r) → (∀ t, o = some t → ∀ p ∈ t, p.1.length ≤ 64) → rs.foldl opS o = some s → ∀ p ∈ s, p.1.length ≤ 64
 | [], o, s, _, h, e => h s e
 | r :: rs, o, s, hb, h, e => by
   refine opK_keys' rs (o := opS o r) (fun x hx => hb x (List.mem_cons_of_mem _ hx)) (fun t ht => ?_) e; unfold opS at ht; cases o with
   | none => cases ht
   | some u =>
     cases hc : chK r with
     | none => rw [hc] at ht; cases ht
     | some q =>
       rw [hc] at ht; injection ht with ht
       rw [← ht]; obtain ⟨sn, l⟩ := q; have hok := (chK_some (hb r (by simp)) hc).1; refine doPs_keys ?_ (fun c hc' => (hok.1 c hc').1.2); split
       · exact fun p hp => by cases hp
       · exact h u rfl
theorem opK_keys {rs : List (List Int)} {s : List (List UInt8 × List Int)} (hb : ∀ r ∈ rs, KByt r) (e : opK rs = some s) : ∀ p ∈ s, p.1.length ≤ 64 := opK_keys' rs hb (fun t ht => by injection ht with ht; rw [← ht]; exact fun p hp => by cases hp) e
theorem rng_all {m : List (List UInt8 × List Int)} : rngL m [] [] = m := by
 unfold rngL; rw [List.filter_eq_self]; intro p _; unfold inR; cases p.1 with
 | nil => rfl
 | cons x r => rfl
end Go.Proofs.YtconkienlcegaaaGreatDoor
namespace Go.Proofs.YtconkienlcegaaaGreatDoor
open Go.RowKit Go.Maps Go.Joins
set_option linter.unusedSimpArgs false
set_option linter.unusedVariables false
theorem own_below {w w' : World} {B n : Nat} {v : Value} {l : List Value} (h : w.ownsRow B 5 1 v n l) (hb : Below w.heap.size w w') : w'.ownsRow B 5 1 v n l :=
 ownsRow_heap h (fun b hb' => hb.block b (h.lt b hb').2)
theorem rfour_own (w : World) (n : BitVec 32) : Calls Tryz.prog 65 #[.int .u32 (J n)] w fun e w' => ∃ a k, e = .returned (.slice a 4 k) ∧ w'.ownsRow w.heap.size 5 1 (.slice a 4 k) (fourB n).length (vB (fourB n)) ∧ Below w.heap.size w w' := by
 refine (rfour_any w n).mono ?_; rintro e w' ⟨rfl, rfl⟩; refine ⟨_, _, rfl, ⟨rfl, Or.inr ⟨w.heap.size, 4, #[.int .u8 (J n / 16777216 % 256), .int .u8 (J n / 65536 % 256), .int .u8 (J n / 256 % 256), .int .u8 (J n % 256)], rfl, Nat.le_refl _, heap_alloc_new _ _, Nat.le_refl _, by decide, rfl, rfl⟩⟩, by go_grown⟩
set_option maxRecDepth 100000 in
set_option maxHeartbeats 8000000 in
theorem rframe_any {w : World} (va : Option Addr) (vc : Nat) (bs : List Int) (hv : BytesV w (.slice va bs.length vc) bs) (hl : bs.length ≤ 140737488351232) :
 Calls Tryz.prog 36 #[.slice va bs.length vc] w fun e w' => ∃ v, e = .returned v ∧ w'.ownsRow w.heap.size 5 1 v (frameB bs).length (vB (frameB bs)) ∧ Below w.heap.size w w' := by
 have HV : Hid (BytesV w (.slice va bs.length vc) bs) := hv; clear hv; have hln : (bs.length : Int) % 4294967296 = J (BitVec.ofNat 32 bs.length) := by
  unfold J; rw [BitVec.toNat_ofNat]; omega
 have hh : fourB (BitVec.ofNat 32 bs.length) = headB bs := rfl; have HL : Hid ((headB bs).length = 4) := rfl; obtain ⟨n0, hn0⟩ : ∃ n0, n0 = BitVec.ofNat 32 bs.length := ⟨_, rfl⟩
 rw [← hn0] at hln hh; have HH : Hid _ := hh; clear hh hn0; go_enter Tryz.func36, Tryz.ntmps36; go_wp2_with (first
  | (have K4 := H4.out.2
     go_at_call 65
     refine Calls.mono (rfour_own _ (sumB bs)) ?_; rintro e w5 ⟨a5, k5, rfl, ho5, hb5⟩; have H5 : Hid (w5.ownsRow w4.heap.size 5 1 (.slice a5 4 k5) (fourB (sumB bs)).length (vB (fourB (sumB bs))) ∧ w5.ownsRow w.heap.size 5 1 (.slice a4 c4 k4) (headB bs ++ fourB (sumB (headB bs))).length (vB (headB bs ++ fourB (sumB (headB bs)))) ∧ Below w.heap.size w w5) := ⟨ho5, own_below H4.out.1 hb5, H4.out.2.trans (hb5.mono H4.out.2.size)⟩
     clear ho5 hb5 K4)
  | (have K4 := H2.out.2
     go_at_call 65
     refine Calls.mono (rfour_own _ (sumB (headB bs))) ?_; rintro e w3 ⟨a3, k3, rfl, ho3, hb3⟩; have H3 : Hid (w3.ownsRow w2.heap.size 5 1 (.slice a3 4 k3) (fourB (sumB (headB bs))).length (vB (fourB (sumB (headB bs)))) ∧ w3.ownsRow w.heap.size 5 1 (.slice a2 c2 k2) (headB bs).length (vB (headB bs)) ∧ Below w.heap.size w w3) := ⟨ho3, own_below H2.out.1 hb3, H2.out.2.2.trans (hb3.mono H2.out.2.2.size)⟩
     clear ho3 hb3 K4)
  | (go_at_call 65
     refine Calls.mono (rfour_own _ n0) ?_; rintro e w1 ⟨a1, k1, rfl, ho1, hb1⟩; rw [HH.out] at ho1; have H1 : Hid (w1.ownsRow w.heap.size 5 1 (.slice a1 4 k1) (headB bs).length (vB (headB bs)) ∧ Below w.heap.size w w1) := ⟨ho1, hb1⟩
     clear ho1 hb1)
  | (have K4 := H4.out.2
     go_at_call 66
     refine Calls.mono (rsum_any va vc bs (HV.out.below H4.out.2) (by omega)) ?_; rintro e w9 ⟨rfl, hw9⟩; obtain rfl := hw9.symm; clear hw9 K4)
  | (have K4 := H2.out.2
     go_at_call 66
     refine Calls.mono (rsum_any a1 k1 (headB bs) H2.out.2.1 (by rw [HL.out]; omega)) ?_; rintro e w9 ⟨rfl, hw9⟩; obtain rfl := hw9.symm; clear hw9 K4)
  | (at_builtin
     have K := H6.out; refine wpList_append_b rfl _ _ rfl w.heap.size (.slice a6 c6 k6) (.slice va bs.length vc) (headB bs ++ fourB (sumB (headB bs)) ++ fourB (sumB bs)) bs rfl K.1 rfl (HV.out.below K.2) (by simp [headB, fourB_length]; omega) K.2.size ?_; intro v7 w7 ho7 hg7 ha7; have H7 : Hid (w7.ownsRow w.heap.size 5 1 v7 (frameB bs).length (vB (frameB bs)) ∧ Below w.heap.size w w7) := ⟨ho7, K.2.grown hg7 K.2.size (fun j hj => (K.1.lt j hj).1)⟩
     clear ho7 hg7 ha7 K)
  | (at_builtin
     have K := H5.out; refine wpList_append_b rfl _ _ rfl w.heap.size (.slice a4 c4 k4) (.slice a5 4 k5) (headB bs ++ fourB (sumB (headB bs))) (fourB (sumB bs)) rfl K.2.1 rfl (BytesV.of_own K.1) (by simp [headB, fourB_length]) K.2.2.size ?_; intro v6 w6 ho6 hg6 ha6; have H6 : Hid (w6.ownsRow w.heap.size 5 1 v6 (headB bs ++ fourB (sumB (headB bs)) ++ fourB (sumB bs)).length (vB (headB bs ++ fourB (sumB (headB bs)) ++ fourB (sumB bs))) ∧ Below w.heap.size w w6) := ⟨ho6, K.2.2.grown hg6 K.2.2.size (fun j hj => (K.2.1.lt j hj).1)⟩
     obtain ⟨a6, c6, k6, hv6⟩ : ∃ a c k, v6 = .slice a c k := (by obtain ⟨a, k, e⟩ := row_form H6.out.1; exact ⟨_, _, _, e⟩)
     subst hv6; clear ho6 hg6 ha6 K)
  | (at_builtin
     have K := H3.out; refine wpList_append_b rfl _ _ rfl w.heap.size (.slice a2 c2 k2) (.slice a3 4 k3) (headB bs) (fourB (sumB (headB bs))) rfl K.2.1 rfl (BytesV.of_own K.1) (by simp [headB, fourB_length]) K.2.2.size ?_; intro v4 w4 ho4 hg4 ha4; have H4 : Hid (w4.ownsRow w.heap.size 5 1 v4 (headB bs ++ fourB (sumB (headB bs))).length (vB (headB bs ++ fourB (sumB (headB bs)))) ∧ Below w.heap.size w w4) := ⟨ho4, K.2.2.grown hg4 K.2.2.size (fun j hj => (K.2.1.lt j hj).1)⟩
     obtain ⟨a4, c4, k4, hv4⟩ : ∃ a c k, v4 = .slice a c k := (by obtain ⟨a, k, e⟩ := row_form H4.out.1; exact ⟨_, _, _, e⟩)
     subst hv4; clear ho4 hg4 ha4 K)
  | (at_builtin
     have K := H1.out; have hb' : Below w1.heap.size w1 (w1.alloc (.cells #[] 5)) := (Below.refl _ _).alloc (Nat.le_refl _) _; have hr1 := own_below K.1 hb'; refine wpList_append_b rfl _ _ rfl w1.heap.size (.slice (some ⟨w1.heap.size, 0, none⟩) 0 0) (.slice a1 4 k1) [] (headB bs) rfl ⟨rfl, Or.inr ⟨w1.heap.size, 0, #[], by simp, Nat.le_refl _, by have := heap_alloc_new w1 (.cells #[] 5); simpa using this, Nat.le_refl _, by decide, rfl, rfl⟩⟩ rfl (BytesV.of_own hr1) (by rw [HL.out]; simp) (by simp) ?_; intro v2 w2 ho2 hg2 ha2; rw [List.nil_append] at ho2; have hb2 : Below w1.heap.size w1 w2 := hb'.grown hg2 (by simp) (fun j hj => by injection hj with hj; rw [← hj]; exact Nat.le_refl _); have H2 : Hid (w2.ownsRow w.heap.size 5 1 v2 (headB bs).length (vB (headB bs)) ∧ BytesV w2 (.slice a1 (headB bs).length k1) (headB bs) ∧ Below w.heap.size w w2) := ⟨ownsRow_le ho2 K.2.size, BytesV.of_own (own_below K.1 hb2), K.2.trans (hb2.mono K.2.size)⟩
     obtain ⟨a2, c2, k2, hv2⟩ : ∃ a c k, v2 = .slice a c k := (by obtain ⟨a, k, e⟩ := row_form H2.out.1; exact ⟨_, _, _, e⟩)
     subst hv2; clear ho2 hg2 ha2 K hb' hr1 hb2))
 go_ret; exact ⟨v7, rfl, H7.out⟩
end Go.Proofs.YtconkienlcegaaaGreatDoor
namespace Go.Proofs.YtconkienlcegaaaGreatDoor
open Go.RowKit Go.Maps Go.Joins Go.Sort
set_option linter.unusedVariables false
set_option linter.unusedSimpArgs false
set_option maxRecDepth 100000 in
set_option maxHeartbeats 16000000 in
theorem kopens_any {W : World} (hV : Vars W) (a : Option Addr) (C : Nat) (rs : List (Value × List Int)) (hrs : RowsV W a rs) (hl : rs.length ≤ 9000000000000) (hrl : ∀ p ∈ rs, p.2.length ≤ 140737488355328) :
 Calls Tryz.prog 5 #[.slice a rs.length C] W fun e w' => e = .returned (.bool true) ∧ Below W.heap.size W w' := by
 have H0 : Hid (Vars W ∧ RowsV W a rs ∧ ∀ p ∈ rs, p.2.length ≤ 140737488355328) := ⟨hV, hrs, hrl⟩
 obtain ⟨N, hN⟩ : ∃ N, N = rs.length := ⟨_, rfl⟩
 rw [← hN] at hl ⊢; have HN : Hid (N = rs.length) := hN; clear hV hrs hrl hN; go_enter Tryz.func5, Tryz.ntmps5; go_wp2_with (first
  | (go_at_call 8
     refine Calls.mono (dk_new H0.out.1 1073741824 (by omega) (by omega)) ?_; rintro e w1 ⟨bd, S1, rfl, hd1⟩; have H1 : Hid (Dk W w1 bd S1 1073741824 (newA 1073741824)) := hd1; clear hd1)
  | (go_at_call 9
     refine Calls.mono (d2_new H0.out.1 1073741824 (by omega) (by omega) H1.out) ?_; rintro e w2 ⟨br, R2, rfl, hd2⟩; have H2 : Hid (D2 W w2 bd br S1 R2 1073741824 (newA 1073741824) (newA 1073741824)) := hd2; clear hd2))
 go_loopw [6] (fun i wr => ∃ (k : Nat) (S : DS) (R : RS) (A : DA), k ≤ N ∧ i = .int .i64 (k : Nat) ∧ Hid (OpJ W wr bd br S R A k)) (fun i _ => N - (intOf i).toNat)
 case atStart => exact ⟨0, S1, R2, _, Nat.zero_le _, rfl, ⟨H2.out, ⟨rfl, fun _ => rfl⟩, fun p hp => (by cases hp), by decide, one_nil _⟩⟩
 case round =>
  obtain ⟨k, S, R, A, hk, rfl, HJ⟩ := hrel; by_cases hlt : k < N
  · obtain ⟨p, hp⟩ : ∃ p, rs[k]? = some p := ⟨_, List.getElem?_eq_getElem (by have := HN.out; omega)⟩
    obtain ⟨b, o, va, vc, ha, hcell, hpv, hbv, hby⟩ := H0.out.2.1 k p hp; subst ha; rw [hpv] at hcell hbv; have hki : (k : Int) < N := by omega
    have hcw : wr.cell? ⟨b, o + k, none⟩ = some (.slice va p.2.length vc) := (World.cell?_of_block (a := ⟨b, o + k, none⟩) (HJ.out.d2.fr.block b (cell_lt hcell))).trans hcell; obtain ⟨np, hnp⟩ : ∃ np, np = p.2.length := ⟨_, rfl⟩
    rw [← hnp] at hcw hcell hbv; have HFR : Hid (np ≤ 65536 → ∀ w, Below W.heap.size W w → Calls Tryz.prog 36 #[.slice va np vc] w fun e w' => ∃ v, e = .returned v ∧ w'.ownsRow w.heap.size 5 1 v (frameB p.2).length (vB (frameB p.2)) ∧ Below w.heap.size w w') := fun hb w hw => by
     have := rframe_any (w := w) va vc p.2 (by rw [← hnp]; exact hbv.keep fun b hb => hw.block b (hbv.lt b hb)) (by omega); rw [← hnp] at this; exact this
    have HB : Hid (BytesV W (.slice va np vc) p.2 ∧ Byts p.2 ∧ W.cell? ⟨b, o + k, none⟩ = some (.slice va np vc) ∧ np = p.2.length) := ⟨hbv, hby, hcell, hnp⟩
    clear hcell hpv hbv hby hp hnp; by_cases hbig : 65536 < np
    · have hbi : (65536 : Int) < np := by omega
      go_wp2_with (first
       | (go_at_call 10
          refine Calls.mono (kalive_any HJ.out.d2.vars) ?_; rintro e w5 ⟨rfl, hb5⟩; have H5 : Hid (Below W.heap.size W w5) := HJ.out.d2.fr.trans (hb5.mono HJ.out.d2.fr.size); clear hb5))
      go_ret; exact ⟨rfl, H5.out⟩
    · have hbi : ¬ (65536 : Int) < np := by omega
      have T1 : Hid True := trivial; go_wp2_with (first
       | (have _ := T1
          go_at_call 36
          clear T1; refine Calls.mono (HFR.out (by omega) wr HJ.out.d2.fr) ?_; rintro e w5 ⟨fv, rfl, hrow, hb5⟩; obtain ⟨fa, fc, hfv⟩ := row_form hrow; subst hfv; have H5 : Hid (OpJ W w5 bd br S R A k ∧ BytesV w5 (.slice fa (frameB p.2).length fc) (frameB p.2) ∧ (∀ x, dBlock (.slice fa (frameB p.2).length fc) (frameB p.2) = some x → wr.heap.size ≤ x)) := ⟨HJ.out.below hb5, BytesV.of_own hrow, fun x hx => (hrow.lt x (dBlock_own hx)).1⟩
          clear hrow hb5; have T2 : Hid True := trivial)
       | (have _ := T2
          go_at_call 35
          clear T2; refine Calls.mono (d2_app1 H5.out.1.d2 db0 (by decide) fa fc (frameB p.2) H5.out.2.1 (fun x hx => HJ.out.d2.disk.fresh x (H5.out.2.2 x hx)) (by rw [frameB_length]; have := HB.out.2.2.2; omega) (by have := HJ.out.st; omega)) ?_; rintro e w6 ⟨S6, rfl, hd6, _⟩; have H6 : Hid (D2 W w6 bd br S6 R 1073741824 (dApp A db0 (frameB p.2)).2 A) := hd6; have hcw6 : w6.cell? ⟨b, o + k, none⟩ = some (.slice va np vc) := (World.cell?_of_block (a := ⟨b, o + k, none⟩) (hd6.fr.block b (cell_lt HB.out.2.2.1))).trans HB.out.2.2.1; clear hd6 hcw; have T3 : Hid True := trivial)
       | (have _ := T3
          go_at_call 36
          clear T3; refine Calls.mono (HFR.out (by omega) w6 H6.out.fr) ?_; rintro e w7 ⟨gv, rfl, hrow, hb7⟩; obtain ⟨ga, gc, hgv⟩ := row_form hrow; subst hgv; have H7 : Hid (D2 W w7 bd br S6 R 1073741824 (dApp A db0 (frameB p.2)).2 A ∧ BytesV w7 (.slice ga (frameB p.2).length gc) (frameB p.2) ∧ (∀ x, dBlock (.slice ga (frameB p.2).length gc) (frameB p.2) = some x → w6.heap.size ≤ x)) := ⟨H6.out.below hb7, BytesV.of_own hrow, fun x hx => (hrow.lt x (dBlock_own hx)).1⟩
          clear hrow hb7 hcw6; have T4 : Hid True := trivial)
       | (have _ := T4
          go_at_call 37
          clear T4; refine Calls.mono (d2_app2 H7.out.1 db0 (by decide) ga gc (frameB p.2) H7.out.2.1 (fun x hx => H6.out.ref.fresh x (H7.out.2.2 x hx)) (by rw [frameB_length]; have := HB.out.2.2.2; omega) (by have := HJ.out.st; omega) rfl) ?_; rintro e w8 ⟨R8, rfl, hd8, _⟩; have H8 : Hid (OpJ W w8 bd br S6 R8 (dApp A db0 (frameB p.2)).2 (k + 1)) := HJ.out.app (frameB_byts HB.out.2.1) hd8; clear hd8))
      go_roundw
      case rel => exact ⟨k + 1, S6, R8, _, by omega, by go_num, H8.out⟩
      case measure => simp [intOf]; omega
  · have hki : decide ((k : Int) < N) = false := by simp; omega
    have HO1 : Hid (∀ (_ : Unit), _) := fun _ => kopen_gen (open1 HJ.out (by omega))
    go_wp2_with fail
    refine Calls.mono (HO1.out ()) ?_; rintro e w3 ⟨c, bl, L, w1', ⟨S6, A6, hd6, hl6, hr6, ho6⟩, hb6, hko⟩; have H6 : Hid (D2 W w1' bd br S6 R 1073741824 A6 A ∧ D2 W w3 bd br S6 R 1073741824 A6 A ∧ LogIs w3 bl L ∧ (∀ b, R.own b ≠ 0 → L.own b = 0) ∧ OpX A ⟨[], [], 0, false, 100⟩ (srtI (numsOf (nmS A.l))) c A6 (absL L) ∧ Below w1'.heap.size w1' w3) := ⟨hd6, hd6.below hb6, hl6.below hb6, hr6, ho6, hb6⟩
    have HO2 : Hid (∀ (_ : Unit), _) := fun _ => ropenk_gen (open2 HJ.out (by omega) (c0 := c) (hd6.below hb6) (hl6.below hb6) hr6)
    have HOP : Hid (∀ (c' : Int) (bq : Nat) (Q : QS) (w' : World), OpX2 W bd br bl S6 R L A A6 w3 c' bq Q w' → c = c' ∧ (c = 0 → L.rs.map (·.2) = Q.rs.map (·.2)) ∧ Vars w' ∧ Below W.heap.size W w' ∧ (∀ x, w1'.heap.size ≤ x → x < w3.heap.size → w'.heap[x]? = w3.heap[x]?) ∧ LogIs w' bl L ∧ w3.heap.size ≤ w'.heap.size) := fun c' bq Q w' h => by
     obtain ⟨R7, B7, hd7, hl7, hq7, ho7, hk7, hs7⟩ := h; obtain ⟨e1, e2, e3⟩ := opx_one _ ho6 ho7; exact ⟨e1, fun h0 => congrArg PL.rs (e3 h0), hd7.vars, hd7.fr, fun x hx hx3 => hk7 x hx3 (hd6.ref.fresh x hx), hl7, hs7⟩
    clear hd6 hl6 hr6 ho6 hb6; rcases hko with ⟨hc, rfl⟩ | ⟨rfl, hop, rfl⟩ | ⟨rfl, b, bm, m, hop, hml, rfl, hko⟩
    · have HC : Hid (c ≠ 0) := hc
      clear hc; go_wp2_with fail; refine Calls.mono (HO2.out ()) ?_; rintro e w4 ⟨c', bq, Q, w2', hx2, hb4, hro⟩; obtain ⟨rfl, _, hv2, hbw, _⟩ := HOP.out _ _ _ _ hx2; have H4 : Hid (Vars w4 ∧ Below W.heap.size W w4) := ⟨hv2.below hb4, hbw.trans (hb4.mono hbw.size)⟩
      rcases hro with ⟨_, rfl⟩ | ⟨h0, _⟩ | ⟨h0, _⟩
      · clear hx2 hb4 hv2 hbw
        have hcc : (c == c) = true := by simp
        go_wp2_with (first
         | (go_at_call 10
            refine Calls.mono (kalive_any H4.out.1) ?_; rintro e w5 ⟨rfl, hb5⟩; have H5 : Hid (Below W.heap.size W w5) := H4.out.2.trans (hb5.mono H4.out.2.size); clear hb5))
        go_quiet (fail)
        have H6' : Hid (Below W.heap.size W (w5.drewN nq)) := H5.out.trans ((below_drewN' w5 nq).mono H5.out.size); generalize w5.drewN nq = w9 at H6' ⊢; go_wp2; go_ret; exact ⟨rfl, H6'.out⟩
      · exact absurd h0 HC.out
      · exact absurd h0 HC.out
    · go_wp2_with fail
      refine Calls.mono (HO2.out ()) ?_; rintro e w4 ⟨c', bq, Q, w2', hx2, hb4, hro⟩; obtain ⟨hcc, hrs, hv2, hbw, _⟩ := HOP.out _ _ _ _ hx2; subst hcc; have H4 : Hid (Vars w4 ∧ Below W.heap.size W w4) := ⟨hv2.below hb4, hbw.trans (hb4.mono hbw.size)⟩
      rcases hro with ⟨h0, _⟩ | ⟨_, _, rfl⟩ | ⟨_, bs, v, s, hs, _⟩
      · exact absurd rfl h0
      · clear hx2 hb4 hv2 hbw hrs
        go_wp2_with (first
         | (go_at_call 10
            refine Calls.mono (kalive_any H4.out.1) ?_; rintro e w5 ⟨rfl, hb5⟩; have H5 : Hid (Below W.heap.size W w5) := H4.out.2.trans (hb5.mono H4.out.2.size); clear hb5))
        go_quiet (fail)
        have H6' : Hid (Below W.heap.size W (w5.drewN nq)) := H5.out.trans ((below_drewN' w5 nq).mono H5.out.size); generalize w5.drewN nq = w9 at H6' ⊢; go_wp2; go_ret; exact ⟨rfl, H6'.out⟩
      · rw [← hrs (by first | rfl | trivial), hop] at hs
        cases hs
    · have HKO : Hid (KoJ w1' w3 bl b bm L m ∧ opK (L.rs.map (·.2)) = some (mk m) ∧ m.length ≤ 2000000000000) := ⟨hko, hop, hml⟩
      clear hko hop hml; go_wp2_with fail; refine Calls.mono (HO2.out ()) ?_; rintro e w4 ⟨c', bq, Q, w2', hx2, hb4, hro⟩; obtain ⟨hcc, hrs, hv2, hbw, hkp, hlg, hsz⟩ := HOP.out _ _ _ _ hx2; subst hcc; rcases hro with ⟨h0, _⟩ | ⟨_, h0, _⟩ | ⟨_, bs, v, s, hs, rfl, hro⟩
      · exact absurd rfl h0
      · rw [← hrs (by first | rfl | trivial), HKO.out.2.1] at h0
        cases h0
      · rw [← hrs (by first | rfl | trivial), HKO.out.2.1] at hs
        injection hs with hs
        subst hs; obtain ⟨va, vn, vc, hvv⟩ := hro.vs; subst hvv; have hks2 : KS w2' (fun x => w1'.heap.size ≤ x ∧ x < w3.heap.size) b bl false bm m := HKO.out.1.ks.mono (fun x hx => hkp x hx.1 hx.2) (fun _ h => h); have H4 : Hid (Vars w4 ∧ Below W.heap.size W w4 ∧ KS w4 (fun x => w1'.heap.size ≤ x ∧ x < w3.heap.size) b bl false bm m ∧ RoJ w2' w4 bq bs (.slice va vn vc) (mk m) ∧ w3.heap.size ≤ w4.heap.size) := ⟨hv2.below hb4, hbw.trans (hb4.mono hbw.size), hks2.mono (fun x hx => hb4.block x (by have := hx.2; omega)) (fun _ h => h), hro, Nat.le_trans hsz hb4.size⟩
        have HS : Hid (SrtG m ∧ m.length ≤ 2000000000000 ∧ ∀ p ∈ m, p.1.length ≤ 64) := by
         have hb : ∀ r ∈ L.rs.map (·.2), KByt r := (opx_byt H6.out.2.2.2.2.1 (nums_one HJ.out.one.len) rfl HJ.out.files).2; have hk9 := opK_keys (rs := L.rs.map (·.2)) hb HKO.out.2.1; exact ⟨srt_mk (opK_sorted HKO.out.2.1), HKO.out.2.2, fun p hp => hk9 (p.1, p.2.2) (List.mem_map.2 ⟨p, hp, rfl⟩)⟩
        clear hx2 hb4 hv2 hbw hrs hkp hlg hsz hro hks2 HO1 HO2 HOP; go_wp2_with (first
         | (go_at_call 10
            refine Calls.mono (kalive_any H4.out.1) ?_; rintro e wa ⟨rfl, hb5⟩; have HA : Hid (Below W.heap.size W wa ∧ KS wa (fun x => w1'.heap.size ≤ x ∧ x < w3.heap.size) b bl false bm m ∧ RoJ w2' wa bq bs (.slice va vn vc) (mk m) ∧ w3.heap.size ≤ wa.heap.size) := ⟨H4.out.2.1.trans (hb5.mono H4.out.2.1.size), H4.out.2.2.1.mono (fun x hx => hb5.block x (by have := hx.2; have := H4.out.2.2.2.2; omega)) (fun _ h => h), H4.out.2.2.2.1.below hb5, Nat.le_trans H4.out.2.2.2.2 hb5.size⟩
            clear hb5))
        have hS0 : (fun w' => w'.cell? ⟨bs, 1, none⟩ = some (.slice va vn vc)) wa.drew := (cell_of_block HA.out.2.2.1.st 1).trans rfl; refine wp_region_held_drew (S := fun w' => w'.cell? ⟨bs, 1, none⟩ = some (.slice va vn vc)) (by kernel_rfl) hS0 (fun hHeld => ?_); have hdr : Below wa.heap.size wa wa.drew := ⟨rfl, rfl, rfl, Nat.le_refl _, fun _ _ => rfl⟩
        have HU : Hid (Below W.heap.size W wa.drew ∧ KS wa.drew (fun x => w1'.heap.size ≤ x ∧ x < w3.heap.size) b bl false bm m ∧ RoJ w2' wa.drew bq bs (.slice va vn vc) (mk m) ∧ w3.heap.size ≤ wa.drew.heap.size) := ⟨HA.out.1.trans (hdr.mono HA.out.1.size), HA.out.2.1.mono (fun _ _ => rfl) (fun _ h => h), HA.out.2.2.1.below hdr, HA.out.2.2.2⟩
        clear hdr; generalize wa.drew = U at HU hHeld ⊢; clear hS0; refine tk 0 (.pointer (some ⟨bs, 0, none⟩)) (fun w9 hSw => ?_) hHeld ?_
        · go_simp
        simp only [sm]; refine tk 1 (.bool false) (fun w9 hSw => ?_) hHeld ?_
        · go_simp
        simp only [sm]; refine tk 2 (.bool false) (fun w9 hSw => ?_) hHeld ?_
        · go_simp
        simp only [sm]; refine tk 3 (.pointer (some ⟨b, 0, none⟩)) (fun w9 hSw => ?_) hHeld ?_
        · go_simp
        simp only [sm]; refine tk 5 (.pointer (some ⟨bs, 0, none⟩)) (fun w9 hSw => ?_) hHeld ?_
        · go_simp
        simp only [sm]; refine tk 6 (.pointer (some ⟨bs, 0, none⟩)) (fun w9 hSw => ?_) hHeld ?_
        · go_simp
        simp only [sm]; refine tk 7 (.pointer (some ⟨bs, 1, none⟩)) (fun w9 hSw => ?_) hHeld ?_
        · go_simp
        simp only [sm]; refine tk 8 (.slice va vn vc) (fun w9 hSw => ?_) hHeld ?_
        · have y0 := hSw
          go_simp
        simp only [sm]; refine rd 4 (fun K hK => ?_); go_simp; have HRG := range_any HU.out.2.1 (fun x hx => Nat.lt_of_lt_of_le hx.2 HU.out.2.2.2) HS.out.1 HS.out.2.1 HS.out.2.2 (fa := none) (ta := none) (fc := 0) (tc := 0) (f := []) (t := []) (Or.inl ⟨rfl, rfl⟩) (Or.inl ⟨rfl, rfl⟩); refine Calls.mono HRG ?_; rintro e U2 ⟨v4, rfl, hch4, hb4⟩; rw [show kS [] = [] from rfl, rng_all] at hch4; obtain ⟨va4, vc4, hv4, _⟩ := hch4.form; rw [List.length_map] at hv4; subst hv4; have HU2 : Hid (Below W.heap.size W U2 ∧ ChsV U2 (fun x => x < U2.heap.size) (.slice va4 (mk m).length vc4) ((mk m).map toCh) ∧ RoJ w2' U2 bq bs (.slice va vn vc) (mk m)) := ⟨HU.out.1.trans (hb4.mono HU.out.1.size), hch4, HU.out.2.2.1.below hb4⟩
        obtain ⟨n4, hn4⟩ : ∃ n4, n4 = (mk m).length := ⟨_, rfl⟩
        rw [← hn4] at HU2 ⊢; clear hn4; have hH2 : (fun w' => w'.cell? ⟨bs, 1, none⟩ = some (.slice va vn vc)) U2 := (hb4.cell (p := ⟨bs, 1, none⟩) (cell_lt hHeld)).trans hHeld; go_wp2_with fail; refine hK.out _ _ hH2 (fun hHeld => ?_); clear hK K hb4 hch4 hH2 HU HRG; try simp only [sm]
        refine rd 9 (fun K hK => ?_); go_simp; have HSM := ksame_t HU2.out.2.1 HU2.out.2.2.lst; refine Calls.mono HSM ?_; rintro e U3 ⟨hb5, rfl⟩; have HU3 : Hid (Below W.heap.size W U3) := HU2.out.1.trans (hb5.mono HU2.out.1.size); have hH2 : (fun w' => w'.cell? ⟨bs, 1, none⟩ = some (.slice va vn vc)) U3 := (hb5.cell (p := ⟨bs, 1, none⟩) (cell_lt hHeld)).trans hHeld; go_wp2_with fail; refine hK.out _ _ hH2 (fun hHeld => ?_); clear hK K hb5 hH2 HSM; try simp only [sm]
        refine tk 10 (.bool true) (fun w9 hSw => ?_) hHeld ?_
        · go_simp
        simp only [sm]; refine tk 11 (.bool true) (fun w9 hSw => ?_) hHeld ?_
        · go_simp
        simp only [sm]; refine wpAnyH_done (by kernel_rfl) ?_ _; clear hHeld HU2; go_wp2; go_ret; exact ⟨rfl, HU3.out⟩
end Go.Proofs.YtconkienlcegaaaGreatDoor
namespace Go.Proofs.YtconkienlcegaaaGreatDoor
open Go.ChangeShapes Go.WideShapes Go.ChangeAt Go.WideElems Go.RowKit
theorem own : ownKnob Tryz.prog.godebug = none := by kernel_rfl
theorem laidOut : laidOutB Tryz.prog = true := by kernel_rfl
abbrev laidP : List (String × DataW Unit) := [("math/bits.deBruijn32tab", Rows.laid_math_bits_deBruijn32tab), ("math/bits.deBruijn64tab", Rows.laid_math_bits_deBruijn64tab), ("internal/strconv.uint64pow10", Rows.laid_internal_strconv_uint64pow10), ("strconv.ErrRange", Rows.laid_strconv_ErrRange), ("strconv.ErrSyntax", Rows.laid_strconv_ErrSyntax), ("conclave/wal.halfSums", Rows.laid_conclave_wal_halfSums)]
set_option maxRecDepth 100000 in
theorem door_met (os : Os) (args : Array Value) : laidMetH Tryz.prog laidP ((World.doorLaid Tryz.prog 400 os).forCall (fun _ _ => 0) ⟨#[], args, []⟩).memory :=
 laidMetH_of_parts3 (fuel := 8) (laidMet_of_run' 8 (by kernel_rfl) (by kernel_rfl)) (by kernel_rfl) (by kernel_rfl)
theorem star : "*" ++ "errors.errorString" = "*errors.errorString" := by decide
theorem row236 (u : TypeId) (h : Tryz.prog.typeName? 3 u = some "*errors.errorString") : u = 236 :=
 typeName_ptr_named (nm := "errors.errorString") (by rw [star]; kernel_rfl) (by kernel_rfl) (by decide) u (by rw [star]; exact h)
theorem vars_of_laid {W : World} (h : laidMetH Tryz.prog laidP W) : Vars W := by
 rw [MakeChecks.laidMetH_plain _ _ _ (by kernel_rfl)] at h; have h2 := h.tail.tail; have ht := Lib.tabIs_of_head (k := .u64) (zs := Lib.pow10Tab) (g := 4) (t := 245) (e := 132) (n := 20) (by kernel_rfl) (by kernel_rfl) Tryz.underlying245 Tryz.underlying132 (by kernel_rfl) (by kernel_rfl) h2; obtain ⟨a0, sa, hva, _, _, _⟩ := laid_sentinel h2.tail gRan (by kernel_rfl) (ti := 170) Tryz.underlying170 row236 Tryz.underlying236 Tryz.underlying238 rfl rfl Tryz.underlying9 (by kernel_rfl) (by kernel_rfl); obtain ⟨b0, sb, hvb, _, _, _⟩ := laid_sentinel h2.tail.tail gSyn (by kernel_rfl) (ti := 170) Tryz.underlying170 row236 Tryz.underlying236 Tryz.underlying238 rfl rfl Tryz.underlying9 (by kernel_rfl) (by kernel_rfl); have hh := Lib.tabIs_of_head (k := .u32) (zs := (List.range 16).map fun i => J (tab i)) (g := 1) (t := 208) (e := 127) (n := 16) (by kernel_rfl) (by kernel_rfl) Tryz.underlying208 Tryz.underlying127 (by kernel_rfl) (by kernel_rfl) h2.tail.tail.tail; refine ⟨fun i hi => ?_, ht, ⟨_, _, hvb⟩, ⟨_, _, hva⟩⟩; rw [World.var?_cell (P := Tryz.prog) (n := "conclave/wal.halfSums") (by kernel_rfl) hh i]; rw [List.getElem?_toArray, List.getElem?_map, List.getElem?_map, List.getElem?_range hi]; rfl
end Go.Proofs.YtconkienlcegaaaGreatDoor
