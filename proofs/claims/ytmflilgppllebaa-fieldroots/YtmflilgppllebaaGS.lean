/- The document's field: Small. -/
import Derived.Test.YtmflilgppllebaaGM
import Derived.Test.YtmflilgppllebaaFB
namespace Go.Proofs.Ytmflilgppllebaa
open Go.RowKit
set_option linter.unusedSimpArgs false
set_option linter.unusedVariables false
theorem and16 (x : Int) : bits .and .i64 x 65535 = x % 65536 := by
  have h : bits .and .i64 x 65535 = IntKind.i64.wrap (((BitVec.ofInt 64 x) &&& (BitVec.ofInt 64 65535)).toNat : Int) := rfl
  rw [h, BitVec.toNat_and, BitVec.toNat_ofInt, BitVec.toNat_ofInt, show ((65535 : Int) % ((2 ^ 64 : Nat) : Int)).toNat = 2 ^ 16 - 1 from by decide, Nat.and_two_pow_sub_one_eq_mod, IntKind.wrap_i64]
  have e : ((2 ^ 64 : Nat) : Int) = 18446744073709551616 := by decide
  rw [e]
  omega
theorem and1 (x : Int) : bits .and .i64 x 1 = x % 2 := by
  have h : bits .and .i64 x 1 = IntKind.i64.wrap (((BitVec.ofInt 64 x) &&& (BitVec.ofInt 64 1)).toNat : Int) := rfl
  rw [h, BitVec.toNat_and, BitVec.toNat_ofInt, BitVec.toNat_ofInt, show ((1 : Int) % ((2 ^ 64 : Nat) : Int)).toNat = 2 ^ 1 - 1 from by decide, Nat.and_two_pow_sub_one_eq_mod, IntKind.wrap_i64]
  have e : ((2 ^ 64 : Nat) : Int) = 18446744073709551616 := by decide
  rw [e]
  omega
theorem pow16_bd (r : Nat) (h : r < 4) : (1 : Int) ≤ 2 ^ (16 * r) ∧ (2 : Int) ^ (16 * r) ≤ 281474976710656 := by
  rcases (by omega : r = 0 ∨ r = 1 ∨ r = 2 ∨ r = 3) with rfl | rfl | rfl | rfl <;> decide
theorem or_add16 (x y : Int) (r : Nat) (hr : r < 4) (hx0 : 0 ≤ x) (hx : x < 2 ^ (16 * r)) (hy0 : 0 ≤ y) (hy : y < 65536) :
    bits .or .u64 x (IntKind.u64.wrap (y * 2 ^ (16 * r))) = x + y * 2 ^ (16 * r) ∧ Limb (x + y * 2 ^ (16 * r)) := by
  have hP := pow16_bd r hr
  obtain ⟨x, rfl⟩ := Int.eq_ofNat_of_zero_le hx0
  obtain ⟨y, rfl⟩ := Int.eq_ofNat_of_zero_le hy0
  have hk : (2 : Int) ^ (16 * r) = ((2 ^ (16 * r) : Nat) : Int) := by simp
  rw [hk] at hP hx ⊢
  have hlt : x < 2 ^ (16 * r) := Int.ofNat_lt.1 hx
  have hsh : y * 2 ^ (16 * r) ||| x = y * 2 ^ (16 * r) + x := by rw [← Nat.shiftLeft_eq, ← Nat.shiftLeft_add_eq_or_of_lt hlt]
  generalize (2 ^ (16 * r) : Nat) = P at *
  have h1 : y * P ≤ 65535 * 281474976710656 := Nat.mul_le_mul (by omega) (by omega)
  have h2 : (y : Int) * (P : Int) = ((y * P : Nat) : Int) := by simp
  rw [h2]
  generalize y * P = z at *
  have h3 : IntKind.u64.wrap (z : Int) = z := by
    rw [IntKind.wrap_u64]; exact Int.emod_eq_of_lt (by omega) (by omega)
  refine ⟨?_, by omega, by omega⟩
  rw [h3, bits_or_u64_nat _ _ (by omega) (by omega), Nat.or_comm, hsh]
  simp; omega
/-- The digits of P. -/
def pd (j : Nat) : Int := if j = 0 then 65517 else if j = 15 then 32767 else 65535
/-- The digit k less P's, with what is borrowed. -/
def mm (h : Nat → Int) : Nat → Int
  | 0 => h 0 - 65517
  | k + 1 => h (k + 1) - pd (k + 1) + mm h k / 65536
theorem mm_bd {h : Nat → Int} (hc : Cn h) : ∀ k, k < 16 → -65536 ≤ mm h k ∧ mm h k ≤ 65535
  | 0, hk => by have := hc 0 hk; unfold mm; omega
  | k + 1, hk => by
    have := hc (k + 1) hk
    have ih := mm_bd hc k (by omega)
    unfold mm pd
    split
    · omega
    · split <;> omega
theorem S_mm (h : Nat → Int) : ∀ n : Nat, S (fun j => mm h j % 65536) (n + 1) + mm h n / 65536 * 65536 ^ (n + 1) = S h (n + 1) - S pd (n + 1)
  | 0 => by
    simp [S, mm, pd]; omega
  | n + 1 => by
    have ih := S_mm h n
    have e1 : S (fun j => mm h j % 65536) (n + 1 + 1) = S (fun j => mm h j % 65536) (n + 1) + mm h (n + 1) % 65536 * 65536 ^ (n + 1) := rfl
    have e2 : S h (n + 1 + 1) = S h (n + 1) + h (n + 1) * 65536 ^ (n + 1) := rfl
    have e5 : S pd (n + 1 + 1) = S pd (n + 1) + pd (n + 1) * 65536 ^ (n + 1) := rfl
    have e3 : mm h (n + 1) = h (n + 1) - pd (n + 1) + mm h n / 65536 := rfl
    have e4 : mm h (n + 1) % 65536 = mm h (n + 1) - 65536 * (mm h (n + 1) / 65536) := by omega
    rw [e1, e2, e5, e4, Int.pow_succ (n := n + 1)]
    generalize mm h (n + 1) / 65536 = q at *
    generalize mm h n / 65536 = q0 at *
    generalize (65536 : Int) ^ (n + 1) = p at *
    rw [e3]
    have : S (fun j => mm h j % 65536) (n + 1) = S h (n + 1) - S pd (n + 1) - q0 * p := by omega
    rw [this]
    grind
theorem S_pd : S pd 16 = PP := by decide +kernel
/-- What is taken: P, once, if it can be. -/
def mf (h : Nat → Int) (j : Nat) : Int := if j = 15 then mm h 15 else mm h j % 65536
theorem mf_no {h : Nat → Int} (hc : Cn h) (hm : mm h 15 < 0) : S h 16 < PP := by
  have e : S (fun j => mm h j % 65536) 16 + mm h 15 / 65536 * 65536 ^ 16 = S h 16 - S pd 16 := S_mm h 15
  have b := mm_bd hc 15 (by omega)
  have hb := S_bd (h := fun j => mm h j % 65536) (n := 16) (fun j _ => by omega)
  rw [S_pd, pow16] at e
  rw [pow16] at hb
  rw [show mm h 15 / 65536 = -1 by omega] at e
  omega
theorem mf_yes {h : Nat → Int} (hc : Cn h) (hm : 0 ≤ mm h 15) : Cn (mf h) ∧ S (mf h) 16 = S h 16 - PP ∧ PP ≤ S h 16 := by
  have e : S (fun j => mm h j % 65536) 16 + mm h 15 / 65536 * 65536 ^ 16 = S h 16 - S pd 16 := S_mm h 15
  have b := mm_bd hc 15 (by omega)
  have hb := S_bd (h := fun j => mm h j % 65536) (n := 16) (fun j _ => by omega)
  have e2 : S (mf h) 16 = S (fun j => mm h j % 65536) 16 := S_congr (fun j hj => by
    unfold mf; split
    · rename_i hj; rw [hj]; omega
    · rfl)
  rw [S_pd, pow16, show mm h 15 / 65536 = 0 by omega] at e
  refine ⟨fun j hj => ?_, by omega, by omega⟩
  unfold mf
  split
  · exact ⟨hm, by omega⟩
  · omega
def redP : Nat → Int → Int
  | 0, V => V
  | k + 1, V => if PP ≤ redP k V then redP k V - PP else redP k V
/-- The inner loop, ahead of the place i. -/
def ms (h : Nat → Int) (i j : Nat) : Int := if j + 1 < i then mm h j % 65536 else if j + 1 = i then mm h j else h j
theorem ms_next {h : Nat → Int} {n : Nat} (hn : n < 14) (i : Nat) (hi : i < 16) : (if i = n then mm h n % 65536 else if i = n + 1 then mm h (n + 1) else ms h (n + 1) i) = ms h (n + 2) i := by
  unfold ms
  grind
theorem ms_first {h : Nat → Int} (i : Nat) : (if i = 0 then mm h 0 else h i) = ms h 1 i := by
  unfold ms
  grind
theorem ms_row_next {h : Nat → Int} {n : Nat} (hn : n < 14) (i : Nat) (hi : i < 16) : (if i = n then Value.int .i64 (mm h n % 65536) else if i = n + 1 then Value.int .i64 (mm h (n + 1)) else gv (ms h (n + 1)) i) = gv (ms h (n + 2)) i := by
  simp only [gv]
  rw [← ms_next hn i hi]
  split
  · rfl
  · split <;> rfl
theorem ms_last {h : Nat → Int} (i : Nat) (hi : i < 16) : (if i = 14 then mm h 14 % 65536 else if i = 15 then mm h 15 else ms h 15 i) = mf h i := by
  unfold ms mf
  grind
theorem ms_row_last {h : Nat → Int} (i : Nat) (hi : i < 16) : (if i = 14 then Value.int .i64 (mm h 14 % 65536) else if i = 15 then Value.int .i64 (mm h 15) else gv (ms h 15) i) = gv (mf h) i := by
  simp only [gv]
  rw [← ms_last i hi]
  split
  · rfl
  · split <;> rfl
theorem World.frozen_of_heap {w : World} {z : Nat} {c : Array Value} {t : TypeId} (h : w.heap[z]? = some (.cells c t (0, 0))) (q : Nat) : w.frozen? ⟨z, q, none⟩ = false := by
  simp [World.frozen?, h]
theorem info24g (a0 a1 a2 a3 : Int) : (Try.prog.info? 24).map (·.size) = some (C4 a0 a1 a2 a3).size := by kernel_rfl
theorem fone4g (a0 a1 a2 a3 : Int) : (C4 a0 a1 a2 a3).all (·.oneCell') = true := by simp [Value.oneCell']
theorem below_setRow' {B z : Nat} {u v : World} (h : Below B u v) (hz : B ≤ z) (c : Array Value) : Below B u (v.setRow z c) :=
  h.trans ⟨rfl, rfl, rfl, by simp, fun i hi => setRow_other _ _ _ _ (by omega)⟩
/-- The worlds of the loops: the digits, and the answer's place. -/
def SlIn (w : World) (h : Nat → Int) (wr : World) : Prop :=
  wr.rowIs w.heap.size 55 16 (gv h) ∧ wr.heap[w.heap.size + 1]? = some (.cells (C4 0 0 0 0) 24 (0, 0)) ∧ Below w.heap.size w wr
theorem SlIn.more {w u v : World} {h : Nat → Int} (k : SlIn w h u) (hb : Below u.heap.size u v) : SlIn w h v :=
  ⟨k.1.of_block (hb.block _ k.1.lt), (hb.block _ (Array.getElem?_eq_some_iff.1 k.2.1).1).trans k.2.1, k.2.2.trans (hb.mono k.2.2.size)⟩
theorem SlIn.far {w u : World} {h : Nat → Int} (k : SlIn w h u) {z : Nat} (hz : w.heap.size + 1 < z) (p : Nat) (v : Value) : SlIn w h (u.setCell ⟨z, p, none⟩ v) :=
  ⟨k.1.setOther (by show w.heap.size ≠ z; omega) _, (heap_setCell_other _ _ _ _ (by show w.heap.size + 1 ≠ z; omega)).trans k.2.1, k.2.2.setCell (by show w.heap.size ≤ z; omega) _⟩
theorem SlIn.drewN {w u : World} {h : Nat → Int} (k : SlIn w h u) (m : Nat) : SlIn w h (u.drewN m) :=
  ⟨row_drewN k.1 m, k.2.1, ⟨k.2.2.os, k.2.2.tape, k.2.2.output, k.2.2.size, k.2.2.block⟩⟩
set_option maxRecDepth 20000 in
set_option maxHeartbeats 4000000 in
/-- The last loop: the digits are laid into a word. -/
theorem small_walk (f : Nat → Int) (hf : Sm 1152921504606846976 f) (hc3 : Cn (caF (caF (caF f)))) (w : World) :
    Calls Try.prog 49 #[.agg (vec 16 (gv f))] w fun e w' => ∃ r0 r1 r2 r3, e = .returned (W4 r0 r1 r2 r3) ∧ L4 r0 r1 r2 r3 ∧ Hid (num r0 r1 r2 r3 = redP 2 (S (caF (caF (caF f))) 16)) ∧ Below w.heap.size w w' := by
  have HF : Hid (Sm 1152921504606846976 f ∧ Cn (caF (caF (caF f)))) := ⟨hf, hc3⟩
  have HS : Hid (SlIn w f ((w.alloc (.cells (vec 16 (gv f)) 55)).alloc (.cells (C4 0 0 0 0) 24))) := ⟨(heap_row (heap_alloc_new w _)).alloc _, gheap_n _ _ _ (by simp), by go_grown⟩
  clear hf hc3
  unfold W4
  go_enter Try.func49, Try.ntmps49
  go_wp2_with (first | (refine wpList_load_row rfl 55 _ rfl w.heap.size rfl 55 _ (0, 0) _ (row_heap HS.out.1) Try.underlying55 rfl (info55v _) ?_))
  generalize (w.alloc (.cells (vec 16 (gv f)) 55)).alloc (.cells (C4 0 0 0 0) 24) = W0 at HS ⊢
  refine Calls.mono (carry_any _ HF.out.1 _) ?_
  rintro e w1 ⟨rfl, b1⟩
  go_wp2_with fail
  refine Calls.mono (carry_any _ (caF_sm HF.out.1) _) ?_
  rintro e w2 ⟨rfl, b2⟩
  go_wp2_with fail
  refine Calls.mono (carry_any _ (caF_sm (caF_sm HF.out.1)) _) ?_
  rintro e w3 ⟨rfl, b3⟩
  have h3 := ((HS.out.more b1).more b2).more b3
  have HC : Hid (Cn (caF (caF (caF f)))) := HF.out.2
  clear HS HF b1 b2 b3
  generalize hg : caF (caF (caF f)) = g at HC ⊢
  have HG : Hid (caF (caF (caF f)) = g) := hg
  clear hg
  have H3 : Hid (SlIn w g (w3.setRow w.heap.size (vec 16 (gv g)))) := ⟨heap_row (setRow_heap _ _ _ _ _ _ (row_heap h3.1)), (setRow_other _ _ _ _ (by omega)).trans h3.2.1, h3.2.2.trans ⟨rfl, rfl, rfl, by simp, fun i hi => setRow_other _ _ _ _ (by omega)⟩⟩
  have hz := row_heap h3.1
  clear h3
  go_wp2_with (first | (refine wpList_store_row rfl 55 _ _ rfl w.heap.size _ rfl rfl 55 _ hz (info55v _) (by simp) (one_gv _ _) ?_))
  clear hz
  generalize w3.setRow w.heap.size (vec 16 (gv g)) = W3 at H3 ⊢
  go_loopw [3] (fun s wr => ∃ (k : Nat) (h : Nat → Int), k ≤ 2 ∧ s = .int .i64 (k : Int) ∧ Hid (Cn h) ∧ Hid (S h 16 = redP k (S g 16)) ∧ SlIn w h wr) (fun i _ => 2 - (intOf i).toNat)
  case atStart => exact ⟨0, g, by omega, rfl, HC, rfl, H3.out⟩
  case round =>
    obtain ⟨k, h, hk, rfl, HCn, HV, hin⟩ := hrel
    clear H3 HC
    by_cases hlt : k < 2
    · have hd : decide ((k : Int) < 2) = true := by simp; omega
      have HI : Hid (SlIn w h wr) := hin
      have hb0 := HCn.out 0 (by omega)
      have hzn := heap_alloc_new wr (.cells (vec 16 (gv fun _ => 0)) 55)
      have hbm : w.heap.size + 1 < wr.heap.size := (Array.getElem?_eq_some_iff.1 hin.2.1).1
      have hrow : ((wr.alloc (.cells (vec 16 (gv fun _ => 0)) 55)).setRow wr.heap.size (vec 16 (gv h))).rowIs wr.heap.size 55 16 (gv h) := heap_row (setRow_heap _ _ _ _ _ _ hzn)
      have hA : SlIn w h ((wr.alloc (.cells (vec 16 (gv fun _ => 0)) 55)).setRow wr.heap.size (vec 16 (gv h))) := hin.more (below_setRow' ((Below.refl _ _).alloc (Nat.le_refl _) _) (Nat.le_refl _) _)
      have hc0 : ((wr.alloc (.cells (vec 16 (gv fun _ => 0)) 55)).setRow wr.heap.size (vec 16 (gv h))).cell? ⟨wr.heap.size, 0, none⟩ = some (.int .i64 (h 0)) := hrow.cell (by omega)
      have hf0 : ((wr.alloc (.cells (vec 16 (gv fun _ => 0)) 55)).setRow wr.heap.size (vec 16 (gv h))).frozen? ⟨wr.heap.size, 0, none⟩ = false := hrow.frozen _
      have HM : Hid (SlIn w h (((wr.alloc (.cells (vec 16 (gv fun _ => 0)) 55)).setRow wr.heap.size (vec 16 (gv h))).setCell ⟨wr.heap.size, 0, none⟩ (.int .i64 (h 0 - 65517))) ∧ (((wr.alloc (.cells (vec 16 (gv fun _ => 0)) 55)).setRow wr.heap.size (vec 16 (gv h))).setCell ⟨wr.heap.size, 0, none⟩ (.int .i64 (h 0 - 65517))).rowIs wr.heap.size 55 16 (gv (ms h 1))) :=
        ⟨hA.far hbm _ _, (hrow.set _ _).congr (fun i hi => by simp only [gv]; rw [← ms_first]; split <;> rfl)⟩
      clear hin hrow hA
      rw [← zero16] at hzn hc0 hf0 HM
      go_wp2_with (first | (refine wpList_load_row rfl 55 _ rfl w.heap.size rfl 55 _ (0, 0) _ (row_heap HI.out.1) Try.underlying55 rfl (info55v _) ?_) | (refine wpList_store_row rfl 55 _ _ rfl wr.heap.size _ rfl rfl 55 _ hzn (info55v _) (by simp) (one_gv _ _) ?_))
      clear hzn hc0 hf0 HI
      generalize (((wr.alloc (.cells #[.int .i64 0, .int .i64 0, .int .i64 0, .int .i64 0, .int .i64 0, .int .i64 0, .int .i64 0, .int .i64 0, .int .i64 0, .int .i64 0, .int .i64 0, .int .i64 0, .int .i64 0, .int .i64 0, .int .i64 0, .int .i64 0] 55)).setRow wr.heap.size (vec 16 (gv h))).setCell ⟨wr.heap.size, 0, none⟩ (.int .i64 (h 0 - 65517))) = WM at HM ⊢
      generalize wr.heap.size = bm at HM hbm ⊢
      go_loopw [5] (fun s wv => ∃ n : Nat, n ≤ 14 ∧ s = .int .i64 ((n : Int) + 1) ∧ SlIn w h wv ∧ wv.rowIs bm 55 16 (gv (ms h (n + 1)))) (fun i _ => 16 - (intOf i).toNat)
      case atStart => exact ⟨0, by omega, rfl, HM.out⟩
      case round =>
        obtain ⟨n, hn, rfl, hin, hrow⟩ := hrel
        clear HM
        by_cases hnl : n < 14
        · have c1 : wr.cell? ⟨bm, n + 1, none⟩ = some (.int .i64 (h (n + 1))) := by
            rw [hrow.cell (i := n + 1) (by omega)]; simp only [gv, ms]; rw [if_neg (by omega), if_neg (by omega)]
          have c2 : wr.cell? ⟨bm, n, none⟩ = some (.int .i64 (mm h n)) := by
            rw [hrow.cell (i := n) (by omega)]; simp [gv, ms]
          have hb1 := HCn.out (n + 1) (by omega)
          have hb2 := mm_bd HCn.out n (by omega)
          have hA1 : bits .and .i64 (mm h n / 65536) 1 = -(mm h n / 65536) := by rw [and1]; omega
          have hA2 := and16 (mm h n)
          have hfz := hrow.frozen
          have HN : Hid (∀ x, x = mm h (n + 1) → SlIn w h ((wr.setCell ⟨bm, n + 1, none⟩ (.int .i64 x)).setCell ⟨bm, n, none⟩ (.int .i64 (mm h n % 65536))).drew ∧ ((wr.setCell ⟨bm, n + 1, none⟩ (.int .i64 x)).setCell ⟨bm, n, none⟩ (.int .i64 (mm h n % 65536))).drew.rowIs bm 55 16 (gv (ms h (n + 2)))) := fun x hx => by
            subst hx
            exact ⟨(((hin.far hbm _ _)).far hbm _ _).drewN 1, (((hrow.set _ _).set _ _).congr (ms_row_next hnl)).drew⟩
          have HE : Hid (h (n + 1) - 65535 + mm h n / 65536 = mm h (n + 1)) := by
            show _ = _
            rw [show mm h (n + 1) = h (n + 1) - pd (n + 1) + mm h n / 65536 from rfl, show pd (n + 1) = 65535 from by unfold pd; rw [if_neg (by omega), if_neg (by omega)]]
          clear hin hrow
          go_wp2
          go_region
          go_wp2
          exact ⟨⟨n + 1, by omega, by go_num, HN.out _ HE.out⟩, by simp [intOf]; omega⟩
        · obtain rfl : n = 14 := by omega
          have c15 : wr.cell? ⟨bm, 15, none⟩ = some (.int .i64 (h 15)) := by
            rw [hrow.cell (i := 15) (by omega)]; simp [gv, ms]
          have c14 : wr.cell? ⟨bm, 14, none⟩ = some (.int .i64 (mm h 14)) := by
            rw [hrow.cell (i := 14) (by omega)]; simp [gv, ms]
          have hb1 := HCn.out 15 (by omega)
          have hb2 := mm_bd HCn.out 14 (by omega)
          have hb3 := mm_bd HCn.out 15 (by omega)
          have hA1 : bits .and .i64 (mm h 14 / 65536) 1 = -(mm h 14 / 65536) := by rw [and1]; omega
          have hA2 := and16 (mm h 14)
          have hE : mm h 15 = h 15 - 32767 + mm h 14 / 65536 := rfl
          have hfz := hrow.frozen
          have hW : SlIn w h ((wr.setCell ⟨bm, 15, none⟩ (.int .i64 (mm h 15))).setCell ⟨bm, 14, none⟩ (.int .i64 (mm h 14 % 65536))) := (hin.far hbm _ _).far hbm _ _
          have hR : ((wr.setCell ⟨bm, 15, none⟩ (.int .i64 (mm h 15))).setCell ⟨bm, 14, none⟩ (.int .i64 (mm h 14 % 65536))).rowIs bm 55 16 (gv (mf h)) := ((hrow.set _ _).set _ _).congr ms_row_last
          have HW : Hid _ := hW
          have HR : Hid _ := hR
          clear hin hrow hW hR
          by_cases hm : 0 ≤ mm h 15
          · have hA3 : bits .and .i64 (mm h 15 / 65536) 1 = 0 := by rw [and1]; omega
            have hy := mf_yes HCn.out hm
            have HY : Hid (Cn (mf h) ∧ S (mf h) 16 = redP (k + 1) (S g 16)) := ⟨hy.1, by
              rw [hy.2.1, show redP (k + 1) (S g 16) = if PP ≤ redP k (S g 16) then redP k (S g 16) - PP else redP k (S g 16) from rfl, ← HV.out, if_pos hy.2.2]⟩
            clear hy hm
            rw [hE] at hA3 HW HR hb3
            clear hE
            go_wp2_with (first | (refine wpList_load_row rfl 55 _ rfl bm rfl 55 _ (0, 0) _ (row_heap HR.out) Try.underlying55 rfl (info55v _) ?_) | (refine wpList_store_row rfl 55 _ _ rfl w.heap.size _ rfl rfl 55 _ (row_heap HW.out.1) (info55v _) (by simp) (one_gv _ _) ?_))
            go_roundw
            case rel => exact ⟨k + 1, mf h, by omega, by go_num, HY.out.1, HY.out.2, heap_row (setRow_heap _ _ _ _ _ _ (row_heap HW.out.1)), (setRow_other _ _ _ _ (by omega)).trans HW.out.2.1, below_setRow' HW.out.2.2 (Nat.le_refl _) _⟩
            case measure => simp [intOf]; omega
          · have hA3 : bits .and .i64 (mm h 15 / 65536) 1 = 1 := by rw [and1]; omega
            have hy := mf_no HCn.out (by omega)
            have HY : Hid (S h 16 = redP (k + 1) (S g 16)) := by
              show _ = _
              rw [show redP (k + 1) (S g 16) = if PP ≤ redP k (S g 16) then redP k (S g 16) - PP else redP k (S g 16) from rfl, ← HV.out, if_neg (by omega)]
            clear hy hm
            rw [hE] at hA3 HW HR hb3
            clear hE
            go_wp2
            go_roundw
            case rel => exact ⟨k + 1, h, by omega, by go_num, HCn, HY, HW.out⟩
            case measure => simp [intOf]; omega
    · have hd : decide ((k : Int) < 2) = false := by simp; omega
      have HV2 : Hid (S h 16 = redP 2 (S g 16)) := by rw [show (2 : Nat) = k by omega]; exact HV
      have hz7 : w.heap.size + 1 < wr.heap.size := (Array.getElem?_eq_some_iff.1 hin.2.1).1
      have HM : Hid (SlIn w h (wr.alloc (.cells (C4 0 0 0 0) 24)) ∧ (wr.alloc (.cells (C4 0 0 0 0) 24)).heap[wr.heap.size]? = some (.cells (C4 0 0 0 0) 24 (0, 0))) := ⟨hin.more ((Below.refl _ _).alloc (Nat.le_refl _) _), heap_alloc_new _ _⟩
      clear hin HV
      go_wp2
      generalize wr.alloc (.cells (C4 0 0 0 0) 24) = WM at HM ⊢
      generalize wr.heap.size = z7 at HM hz7 ⊢
      go_loopw [8] (fun i wv => ∃ (k : Nat) (x0 x1 x2 x3 : Int), k ≤ 16 ∧ i = .int .i64 (k : Int) ∧ Hid (L4 x0 x1 x2 x3) ∧ Hid (num x0 x1 x2 x3 = S h k) ∧ SlIn w h wv ∧ wv.heap[z7]? = some (.cells (C4 x0 x1 x2 x3) 24 (0, 0))) (fun i _ => 16 - (intOf i).toNat)
      case atStart => exact ⟨0, 0, 0, 0, 0, by omega, rfl, ⟨⟨by decide, by decide⟩, ⟨by decide, by decide⟩, ⟨by decide, by decide⟩, ⟨by decide, by decide⟩⟩, rfl, HM.out⟩
      case round =>
        obtain ⟨k, x0, x1, x2, x3, hkl, rfl, hL, hN, hin, hz⟩ := hrel
        clear HM
        by_cases hkd : k < 16
        · have hcell : wr.cell? ⟨w.heap.size, k, none⟩ = some (.int .i64 (h k)) := hin.1.cell hkd
          have hy := HCn.out k hkd
          have hlow : num x0 x1 x2 x3 < 65536 ^ k := by
            rw [hN.out]; exact (S_bd (fun j hj => HCn.out j (by omega))).2
          obtain ⟨y, hyd⟩ : ∃ y, y = h k := ⟨_, rfl⟩
          rw [← hyd] at hy hcell
          have hay : bits .and .i64 y 65535 = y := by rw [and16]; omega
          have H1 : Hid (SlIn w h wr ∧ True ∧ wr.heap[z7]? = some (.cells (C4 x0 x1 x2 x3) 24 (0, 0))) := ⟨hin, trivial, hz⟩
          clear hin hz
          rcases (by omega : k < 4 ∨ (4 ≤ k ∧ k < 8) ∨ (8 ≤ k ∧ k < 12) ∨ (12 ≤ k ∧ k < 16)) with h8 | ⟨h8, h8'⟩ | ⟨h8, h8'⟩ | ⟨h8, h8'⟩
          · obtain ⟨r, hr, rfl⟩ : ∃ r, r < 4 ∧ k = 0 + r := ⟨k - 0, by omega, by omega⟩
            have e1 : ((0 + r : Nat) : Int) / 4 = 0 := by omega
            have e2 : ((0 + r : Nat) : Int) % 4 = r := by omega
            have hP := pow16_bd r hr
            have hp : (65536 : Int) ^ (0 + r) = 1 * 2 ^ (16 * r) := by rw [Int.pow_add, Int.pow_mul]; rfl
            have hx : 0 ≤ x0 ∧ x0 < 2 ^ (16 * r) := by
              have h1 := hlow
              rw [hp] at h1
              obtain ⟨⟨_, _⟩, ⟨_, _⟩, ⟨_, _⟩, ⟨_, _⟩⟩ := hL.out
              unfold num at h1
              omega
            obtain ⟨hor, hl4⟩ := or_add16 x0 y r hr hx.1 hx.2 hy.1 hy.2
            have hL2 : Hid (L4 (x0 + y * 2 ^ (16 * r)) x1 x2 x3) := ⟨hl4, hL.out.2.1, hL.out.2.2.1, hL.out.2.2.2⟩
            have hN2 : Hid (num (x0 + y * 2 ^ (16 * r)) x1 x2 x3 = S h (0 + r + 1)) := by
              show _ = _
              have h1 := hN.out
              have h2 : S h (0 + r + 1) = S h (0 + r) + h (0 + r) * 65536 ^ (0 + r) := rfl
              rw [h2, ← h1, hyd.symm, hp, Int.mul_left_comm]
              unfold num; omega
            have hc : wr.cell? ⟨z7, 0, none⟩ = some (.int .u64 x0) := by rw [cell_of_row wr z7 0 _ 24 (0, 0) H1.out.2.2]; rfl
            have hfz : wr.frozen? ⟨z7, 0, none⟩ = false := World.frozen_of_heap H1.out.2.2 _
            have hh : Hid ((wr.setCell ⟨z7, 0, none⟩ (.int .u64 (x0 + y * 2 ^ (16 * r)))).heap[z7]? = some (.cells (C4 (x0 + y * 2 ^ (16 * r)) x1 x2 x3) 24 (0, 0))) := heap_setCell_same _ _ _ _ _ _ H1.out.2.2
            clear hp hx hlow hl4 hN hP
            generalize hK : ((0 + r : Nat) : Int) = K at *
            have hK0 : 0 ≤ K := by omega
            have hK1 : K < 16 := by omega
            have hcy : wr.cell? ⟨w.heap.size, K.toNat, none⟩ = some (.int .i64 y) := by rw [show K.toNat = 0 + r from by omega]; exact hcell
            have hwy : IntKind.u64.wrap y = y := by rw [IntKind.wrap_u64]; exact Int.emod_eq_of_lt hy.1 (by omega)
            clear hcell hyd
            go_wp2
            go_region
            go_wp2
            exact ⟨⟨0 + r + 1, (x0 + y * 2 ^ (16 * r)), x1, x2, x3, by omega, by go_num, hL2, hN2, ((H1.out.1.far hz7 _ _)).drewN 1, hh.out⟩, by simp [intOf]; omega⟩
          · obtain ⟨r, hr, rfl⟩ : ∃ r, r < 4 ∧ k = 4 + r := ⟨k - 4, by omega, by omega⟩
            have e1 : ((4 + r : Nat) : Int) / 4 = 1 := by omega
            have e2 : ((4 + r : Nat) : Int) % 4 = r := by omega
            have hP := pow16_bd r hr
            have hp : (65536 : Int) ^ (4 + r) = 18446744073709551616 * 2 ^ (16 * r) := by rw [Int.pow_add, Int.pow_mul]; rfl
            have hx : 0 ≤ x1 ∧ x1 < 2 ^ (16 * r) := by
              have h1 := hlow
              rw [hp] at h1
              obtain ⟨⟨_, _⟩, ⟨_, _⟩, ⟨_, _⟩, ⟨_, _⟩⟩ := hL.out
              unfold num at h1
              omega
            obtain ⟨hor, hl4⟩ := or_add16 x1 y r hr hx.1 hx.2 hy.1 hy.2
            have hL2 : Hid (L4 x0 (x1 + y * 2 ^ (16 * r)) x2 x3) := ⟨hL.out.1, hl4, hL.out.2.2.1, hL.out.2.2.2⟩
            have hN2 : Hid (num x0 (x1 + y * 2 ^ (16 * r)) x2 x3 = S h (4 + r + 1)) := by
              show _ = _
              have h1 := hN.out
              have h2 : S h (4 + r + 1) = S h (4 + r) + h (4 + r) * 65536 ^ (4 + r) := rfl
              rw [h2, ← h1, hyd.symm, hp, Int.mul_left_comm]
              unfold num; omega
            have hc : wr.cell? ⟨z7, 1, none⟩ = some (.int .u64 x1) := by rw [cell_of_row wr z7 1 _ 24 (0, 0) H1.out.2.2]; rfl
            have hfz : wr.frozen? ⟨z7, 1, none⟩ = false := World.frozen_of_heap H1.out.2.2 _
            have hh : Hid ((wr.setCell ⟨z7, 1, none⟩ (.int .u64 (x1 + y * 2 ^ (16 * r)))).heap[z7]? = some (.cells (C4 x0 (x1 + y * 2 ^ (16 * r)) x2 x3) 24 (0, 0))) := heap_setCell_same _ _ _ _ _ _ H1.out.2.2
            clear hp hx hlow hl4 hN hP
            generalize hK : ((4 + r : Nat) : Int) = K at *
            have hK0 : 0 ≤ K := by omega
            have hK1 : K < 16 := by omega
            have hcy : wr.cell? ⟨w.heap.size, K.toNat, none⟩ = some (.int .i64 y) := by rw [show K.toNat = 4 + r from by omega]; exact hcell
            have hwy : IntKind.u64.wrap y = y := by rw [IntKind.wrap_u64]; exact Int.emod_eq_of_lt hy.1 (by omega)
            clear hcell hyd
            go_wp2
            go_region
            go_wp2
            exact ⟨⟨4 + r + 1, x0, (x1 + y * 2 ^ (16 * r)), x2, x3, by omega, by go_num, hL2, hN2, ((H1.out.1.far hz7 _ _)).drewN 1, hh.out⟩, by simp [intOf]; omega⟩
          · obtain ⟨r, hr, rfl⟩ : ∃ r, r < 4 ∧ k = 8 + r := ⟨k - 8, by omega, by omega⟩
            have e1 : ((8 + r : Nat) : Int) / 4 = 2 := by omega
            have e2 : ((8 + r : Nat) : Int) % 4 = r := by omega
            have hP := pow16_bd r hr
            have hp : (65536 : Int) ^ (8 + r) = 340282366920938463463374607431768211456 * 2 ^ (16 * r) := by rw [Int.pow_add, Int.pow_mul]; rfl
            have hx : 0 ≤ x2 ∧ x2 < 2 ^ (16 * r) := by
              have h1 := hlow
              rw [hp] at h1
              obtain ⟨⟨_, _⟩, ⟨_, _⟩, ⟨_, _⟩, ⟨_, _⟩⟩ := hL.out
              unfold num at h1
              omega
            obtain ⟨hor, hl4⟩ := or_add16 x2 y r hr hx.1 hx.2 hy.1 hy.2
            have hL2 : Hid (L4 x0 x1 (x2 + y * 2 ^ (16 * r)) x3) := ⟨hL.out.1, hL.out.2.1, hl4, hL.out.2.2.2⟩
            have hN2 : Hid (num x0 x1 (x2 + y * 2 ^ (16 * r)) x3 = S h (8 + r + 1)) := by
              show _ = _
              have h1 := hN.out
              have h2 : S h (8 + r + 1) = S h (8 + r) + h (8 + r) * 65536 ^ (8 + r) := rfl
              rw [h2, ← h1, hyd.symm, hp, Int.mul_left_comm]
              unfold num; omega
            have hc : wr.cell? ⟨z7, 2, none⟩ = some (.int .u64 x2) := by rw [cell_of_row wr z7 2 _ 24 (0, 0) H1.out.2.2]; rfl
            have hfz : wr.frozen? ⟨z7, 2, none⟩ = false := World.frozen_of_heap H1.out.2.2 _
            have hh : Hid ((wr.setCell ⟨z7, 2, none⟩ (.int .u64 (x2 + y * 2 ^ (16 * r)))).heap[z7]? = some (.cells (C4 x0 x1 (x2 + y * 2 ^ (16 * r)) x3) 24 (0, 0))) := heap_setCell_same _ _ _ _ _ _ H1.out.2.2
            clear hp hx hlow hl4 hN hP
            generalize hK : ((8 + r : Nat) : Int) = K at *
            have hK0 : 0 ≤ K := by omega
            have hK1 : K < 16 := by omega
            have hcy : wr.cell? ⟨w.heap.size, K.toNat, none⟩ = some (.int .i64 y) := by rw [show K.toNat = 8 + r from by omega]; exact hcell
            have hwy : IntKind.u64.wrap y = y := by rw [IntKind.wrap_u64]; exact Int.emod_eq_of_lt hy.1 (by omega)
            clear hcell hyd
            go_wp2
            go_region
            go_wp2
            exact ⟨⟨8 + r + 1, x0, x1, (x2 + y * 2 ^ (16 * r)), x3, by omega, by go_num, hL2, hN2, ((H1.out.1.far hz7 _ _)).drewN 1, hh.out⟩, by simp [intOf]; omega⟩
          · obtain ⟨r, hr, rfl⟩ : ∃ r, r < 4 ∧ k = 12 + r := ⟨k - 12, by omega, by omega⟩
            have e1 : ((12 + r : Nat) : Int) / 4 = 3 := by omega
            have e2 : ((12 + r : Nat) : Int) % 4 = r := by omega
            have hP := pow16_bd r hr
            have hp : (65536 : Int) ^ (12 + r) = 6277101735386680763835789423207666416102355444464034512896 * 2 ^ (16 * r) := by rw [Int.pow_add, Int.pow_mul]; rfl
            have hx : 0 ≤ x3 ∧ x3 < 2 ^ (16 * r) := by
              have h1 := hlow
              rw [hp] at h1
              obtain ⟨⟨_, _⟩, ⟨_, _⟩, ⟨_, _⟩, ⟨_, _⟩⟩ := hL.out
              unfold num at h1
              omega
            obtain ⟨hor, hl4⟩ := or_add16 x3 y r hr hx.1 hx.2 hy.1 hy.2
            have hL2 : Hid (L4 x0 x1 x2 (x3 + y * 2 ^ (16 * r))) := ⟨hL.out.1, hL.out.2.1, hL.out.2.2.1, hl4⟩
            have hN2 : Hid (num x0 x1 x2 (x3 + y * 2 ^ (16 * r)) = S h (12 + r + 1)) := by
              show _ = _
              have h1 := hN.out
              have h2 : S h (12 + r + 1) = S h (12 + r) + h (12 + r) * 65536 ^ (12 + r) := rfl
              rw [h2, ← h1, hyd.symm, hp, Int.mul_left_comm]
              unfold num; omega
            have hc : wr.cell? ⟨z7, 3, none⟩ = some (.int .u64 x3) := by rw [cell_of_row wr z7 3 _ 24 (0, 0) H1.out.2.2]; rfl
            have hfz : wr.frozen? ⟨z7, 3, none⟩ = false := World.frozen_of_heap H1.out.2.2 _
            have hh : Hid ((wr.setCell ⟨z7, 3, none⟩ (.int .u64 (x3 + y * 2 ^ (16 * r)))).heap[z7]? = some (.cells (C4 x0 x1 x2 (x3 + y * 2 ^ (16 * r))) 24 (0, 0))) := heap_setCell_same _ _ _ _ _ _ H1.out.2.2
            clear hp hx hlow hl4 hN hP
            generalize hK : ((12 + r : Nat) : Int) = K at *
            have hK0 : 0 ≤ K := by omega
            have hK1 : K < 16 := by omega
            have hcy : wr.cell? ⟨w.heap.size, K.toNat, none⟩ = some (.int .i64 y) := by rw [show K.toNat = 12 + r from by omega]; exact hcell
            have hwy : IntKind.u64.wrap y = y := by rw [IntKind.wrap_u64]; exact Int.emod_eq_of_lt hy.1 (by omega)
            clear hcell hyd
            go_wp2
            go_region
            go_wp2
            exact ⟨⟨12 + r + 1, x0, x1, x2, (x3 + y * 2 ^ (16 * r)), by omega, by go_num, hL2, hN2, ((H1.out.1.far hz7 _ _)).drewN 1, hh.out⟩, by simp [intOf]; omega⟩
        · have HE : Hid (num x0 x1 x2 x3 = redP 2 (S g 16)) := by
            show _ = _
            rw [hN.out, show k = 16 from by omega, HV2.out]
          have HL : Hid (L4 x0 x1 x2 x3) := hL
          have hkd' : decide ((k : Int) < 16) = false := by simp; omega
          clear hN hL
          go_wp2_with (first | (refine wpList_load_row rfl 24 _ rfl z7 rfl 24 _ (0, 0) _ hz Try.underlying24 rfl (info24g _ _ _ _) ?_) | (refine wpList_store_row rfl 24 _ _ rfl (w.heap.size + 1) _ rfl rfl 24 _ hin.2.1 (info24g _ _ _ _) rfl (fone4g _ _ _ _) ?_))
          have hz2 : (wr.setRow (w.heap.size + 1) (C4 x0 x1 x2 x3)).heap[w.heap.size + 1]? = some (.cells (C4 x0 x1 x2 x3) 24 (0, 0)) := setRow_heap _ _ _ _ _ _ hin.2.1
          refine bodyPost_ret (results_cell_row rfl _ _ _ _ _ _ _ rfl hz2 Try.underlying24 rfl (info24g _ _ _ _)) rfl ⟨x0, x1, x2, x3, rfl, HL.out, ?_, below_setRow' hin.2.2 (by omega) _⟩
          rw [HG.out]; exact HE
end Go.Proofs.Ytmflilgppllebaa
