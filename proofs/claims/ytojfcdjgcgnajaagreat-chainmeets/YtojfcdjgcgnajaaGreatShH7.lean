/- (*Hasher).Write. -/
import Derived.Test.YtojfcdjgcgnajaaGreatGCM
import Derived.Test.YtojfcdjgcgnajaaGreatGShH6
namespace Go.Proofs.YtojfcdjgcgnajaaGreat.Sha
open Go.RowKit Go.Shelf
set_option linter.unusedSimpArgs false
set_option linter.unusedVariables false
def partTo (p m : Nat → BitVec 8) (r c i : Nat) : BitVec 8 := if r ≤ i ∧ i < r + c then m i else p i
theorem part_row {S : Nat → BitVec 64} {p m : Nat → BitVec 8} {r c hb h : Nat} {w : World} {src : Nat → Value} (hrc : r + c ≤ 128) (hs : ∀ j, j < c → src j = .int .u8 (I8 (m (r + j))))
 (hr : w.rowIs hb 134 137 (fun j => if 8 + r ≤ j ∧ j < 8 + r + c then src (j - (8 + r)) else has S p h j)) : w.rowIs hb 134 137 (has S (partTo p m r c) h) := by
 refine hr.congr ?_; intro i hi; by_cases h1 : 8 + r ≤ i ∧ i < 8 + r + c
 · rw [if_pos h1, hs _ (by omega), show i = 8 + (i - 8) from by omega, has_part (by omega)]
   unfold partTo; rw [if_pos (by omega)]; congr 4; omega
 · rw [if_neg h1]
   unfold has; by_cases h2 : i < 8
   · rw [if_pos h2, if_pos h2]
   · rw [if_neg h2, if_neg h2]
     by_cases h3 : i < 136
     · rw [if_pos h3, if_pos h3]
       unfold partTo; rw [if_neg (by omega)]
     · rw [if_neg h3, if_neg h3]
theorem held_row {S : Nat → BitVec 64} {p : Nat → BitVec 8} {r r' hb : Nat} {w : World} {v : Value} (hv : v = .int .u64 (r' : Int)) (hr : w.rowIs hb 134 137 (has S p r)) : (w.setCell ⟨hb, 136, none⟩ v).rowIs hb 134 137 (has S p r') := by
 refine (hr.set _ _).congr ?_; intro i hi; subst hv; by_cases h1 : i = 136
 · subst h1; simp only [if_true]; rw [has_held]
 · simp only [if_neg h1]
   unfold has; by_cases h2 : i < 8
   · rw [if_pos h2, if_pos h2]
   · rw [if_neg h2, if_neg h2, if_pos (by omega), if_pos (by omega)]
theorem state_row {S R : Nat → BitVec 64} {p : Nat → BitVec 8} {h hb : Nat} {w : World} (hr : w.rowIs hb 134 137 (has S p h)) : (w.setRow hb (vec 137 (fun j => if 0 ≤ j ∧ j < 0 + 8 then lan R (j - 0) else has S p h j))).rowIs hb 134 137 (has R p h) := by
 refine (heap_row (setRow_heap _ _ _ _ _ _ (row_heap hr))).congr ?_; intro i hi; unfold has; by_cases h2 : i < 8
 · rw [if_pos ⟨by omega, by omega⟩, if_pos h2]; rfl
 · rw [if_neg (by omega), if_neg h2, if_neg h2]
theorem part_from (hb r : Nat) (hr : r < 128) (w : World) : (Instr.sliceAt 132 (.pointer (some ⟨hb, 8, none⟩)) (some (.int .i64 (r : Int))) none none).run Tryz.prog w = .ok (.slice (some ⟨hb, 8 + r, none⟩) (128 - r) (128 - r)) w := by
 have ha : Tryz.prog.arrayLen 132 = 128 := by kernel_rfl
 have he : Tryz.prog.elem 132 = 5 := by kernel_rfl
 rw [run_sliceAt_array_l w 132 ⟨hb, 8, none⟩ (by kernel_rfl) .i64 (r : Int) (by omega) (by rw [ha]; omega), he, Tryz.sizeOf5, ha]; simp only [Result.andThen, slicedAt, Int.toNat_natCast, if_neg (show ¬ 128 = r by omega)]; simp [Addr.add]
theorem partTo_eq {p msg : Nat → BitVec 8} {q r c i : Nat} (hp : ∀ i, i < r → p i = msg (128 * q + i)) (hi : i < r + c) : partTo p (fun i => msg (128 * q + i)) r c i = msg (128 * q + i) := by
 unfold partTo; by_cases h : r ≤ i ∧ i < r + c
 · rw [if_pos h]
 · rw [if_neg h]; exact hp i (by omega)
theorem has_full {W : World} {hb n' q r c : Nat} {p msg : Nat → BitVec 8} (hp : ∀ i, i < r → p i = msg (128 * q + i)) (hrc : r + c = 128) (hn : n' = 128 * (q + 1))
 (h : W.rowIs hb 134 137 (has (beh KK (stAfter msg q) (partTo p (fun i => msg (128 * q + i)) r c)) (partTo p (fun i => msg (128 * q + i)) r c) n')) : HasIn W hb msg n' := by
 refine ⟨partTo p (fun i => msg (128 * q + i)) r c, ?_, fun i hi => absurd hi (by omega)⟩; rw [show n' / 128 = q + 1 from by omega]; unfold stAfter; rw [beh_congr (q := fun i => msg (128 * q + i)) (fun i hi => partTo_eq hp (by omega))] at h; exact h
theorem has_more {W : World} {hb n' q r c r' : Nat} {p msg : Nat → BitVec 8} (hp : ∀ i, i < r → p i = msg (128 * q + i)) (hrc : r' = r + c) (h136 : r' < 128) (hn : n' = 128 * q + r')
 (h : W.rowIs hb 134 137 (has (stAfter msg q) (partTo p (fun i => msg (128 * q + i)) r c) n')) : HasIn W hb msg n' := by
 refine ⟨partTo p (fun i => msg (128 * q + i)) r c, ?_, fun i hi => ?_⟩
 · rw [show n' / 128 = q from by omega]; exact h
 · rw [show n' / 128 = q from by omega]
   exact partTo_eq hp (by omega)
set_option maxRecDepth 100000 in
set_option maxHeartbeats 2000000 in
theorem write_any (hb n len cap bb off : Nat) (ao : Option Addr) (msg : Nat → BitVec 8) (w : World) (hin : HasIn w hb msg n) (hao : 0 < len → ao = some ⟨bb, off, none⟩)
 (hcells : ∀ j, j < len → w.cell? ⟨bb, off + j, none⟩ = some (.int .u8 (I8 (msg (n + j))))) (hneb : 0 < len → bb ≠ hb) (hlen : len ≤ cap) (hcap : cap ≤ 9223372036854775807) (hl47 : len ≤ 140737488351232) (hn61 : n + len < 2305843009213693952) :
 Calls Tryz.prog 55 #[.pointer (some ⟨hb, 0, none⟩), .slice ao len cap] w fun e w' => e = .returned (.tuple #[]) ∧ w.grownBy w' (some hb) ∧ HasIn w' hb msg (n + len) := by
 have H0 : Hid (HasIn w hb msg n) := hin; have HC : Hid (∀ j, j < len → w.cell? ⟨bb, off + j, none⟩ = some (.int .u8 (I8 (msg (n + j))))) := hcells; have HA : Hid (0 < len → ao = some ⟨bb, off, none⟩) := hao; clear hin hcells hao; go_enter Tryz.func55, Tryz.ntmps55; go_wp2; go_loopw [1] (fun v wr => ∃ (k : Nat) (a' : Option Addr) (cp : Nat), k ≤ len ∧ v = .slice a' (len - k) cp ∧ (k < len → a' = some ⟨bb, off + k, none⟩) ∧ (len - k ≤ cp ∧ cp ≤ 9223372036854775807) ∧ w.grownBy wr (some hb) ∧ HasIn wr hb msg (n + k))
  (fun v _ => slen v)
 case atStart => exact ⟨0, ao, cap, Nat.zero_le _, rfl, HA.out, ⟨hlen, hcap⟩, gb_refl _ _, H0.out⟩
 case round =>
  obtain ⟨k, a', cp, hk, rfl, ha', ⟨hcp, hcp2⟩, hg, p, hrow, hp⟩ := hrel; by_cases hlt : k < len
  · obtain rfl := ha' hlt
    obtain ⟨r, hr⟩ : ∃ r, r = (n + k) % 128 := ⟨_, rfl⟩
    obtain ⟨q, hq⟩ : ∃ q, q = (n + k) / 128 := ⟨_, rfl⟩
    obtain ⟨c, hc⟩ : ∃ c, c = Nat.min (len - k) (128 - r) := ⟨_, rfl⟩
    obtain ⟨L, hL⟩ : ∃ L, L = len - k := ⟨_, rfl⟩
    rw [← hq] at hrow; rw [← hL] at hcp hc ⊢; have hr1 : r < 128 := by omega
    have hL0 : 0 < L := by omega
    have cH : wr.drew.cell? ⟨hb, 136, none⟩ = some (.int .u64 ((n + k : Nat) : Int)) := (hrow.cell (by decide)).trans (by rw [has_held]); have hc1 : c ≤ L := by rw [hc]; exact Nat.min_le_left _ _
    have hc2 : c ≤ 128 - r := by rw [hc]; exact Nat.min_le_right _ _
    have hc3 : c = L ∨ c = 128 - r := by
     rcases Nat.le_total L (128 - r) with h | h
     · exact Or.inl (by rw [hc]; exact Nat.min_eq_left h)
     · exact Or.inr (by rw [hc]; exact Nat.min_eq_right h)
    have hsrc : ∀ j, j < c → wr.drew.cell? ((⟨bb, off + k, none⟩ : Addr).add j) = some (byt (fun j => msg (n + k + j)) j) := fun j hj => by
     have : (⟨bb, off + k, none⟩ : Addr).add j = ⟨bb, off + (k + j), none⟩ := by unfold Addr.add; simp [Nat.add_assoc]
     rw [this]; have h1 := HC.out (k + j) (by omega); rw [← Nat.add_assoc n k j] at h1; exact hg.cell h1 (by simpa using hneb (by omega))
    have H1 : Hid (wr.rowIs hb 134 137 (has (stAfter msg q) p (n + k)) ∧ w.grownBy wr (some hb) ∧ (∀ i, i < r → p i = msg (128 * q + i)) ∧ r = (n + k) % 128 ∧ q = (n + k) / 128 ∧ L = len - k) := ⟨hrow, hg, by rw [hr, hq]; exact hp, hr, hq, hL⟩
    have HSC : Hid (c = Nat.min L (128 - r) ∧ ∀ j, j < c → wr.drew.cell? ((⟨bb, off + k, none⟩ : Addr).add j) = some (byt (fun j => msg (n + k + j)) j)) := ⟨hc, hsrc⟩
    have HR : Hid (r = (n + k) % 128) := hr; have hc0 : 0 < c := by omega
    have hsl := part_from hb r hr1; have hmv : r + c ≤ 128 := by omega
    have hnk : n + k + c ≤ 2305843009213693952 := by omega
    have hm2 : (n + (k + c)) % 128 = (r + c) % 128 := by omega
    have hkl : k + c ≤ len := by omega
    have hsl3' : slen (.slice none (len - (k + c)) 0) = L - c := by show len - (k + c) = L - c; omega
    clear hrow hg hp hr hq hc hL ha' hsrc H0 HA HC; go_wp2; refine wp_region_held_drew (S := fun w' => w'.cell? ⟨hb, 136, none⟩ = some (.int .u64 ((n + k : Nat) : Int))) (by kernel_rfl) cH (fun hHeld => ?_); refine tk 0 (.pointer (some ⟨hb, 0, none⟩)) (fun w9 hSw => ?_) hHeld ?_
    · go_simp
    simp only [sm]; refine tk 1 (.pointer (some ⟨hb, 0, none⟩)) (fun w9 hSw => ?_) hHeld ?_
    · go_simp
    simp only [sm]; refine tk 2 (.pointer (some ⟨hb, 8, none⟩)) (fun w9 hSw => ?_) hHeld ?_
    · go_simp
    simp only [sm]; refine tk 3 (.pointer (some ⟨hb, 0, none⟩)) (fun w9 hSw => ?_) hHeld ?_
    · go_simp
    simp only [sm]; refine tk 6 (.slice (some ⟨bb, off + k, none⟩) L cp) (fun w9 hSw => ?_) hHeld ?_
    · go_simp
    simp only [sm]; refine rd 4 (fun K hK => ?_); go_simp; refine (held_any hb (n + k) (by omega) _ hHeld).mono ?_; rintro e w' ⟨rfl, hs⟩; obtain rfl := hs.symm; rw [← HR.out]; go_wp2_with fail; refine hK.out _ _ ?_ (fun hHeld => ?_)
    · exact hHeld
    clear hK K; try simp only [sm]
    refine tk 5 (.slice (some ⟨hb, 8 + r, none⟩) (128 - r) (128 - r)) (fun w9 hSw => ?_) hHeld ?_
    · have a := hsl w9; go_simp
    simp only [sm]; refine rd 7 (fun K hK => ?_); refine step_copy_vec rfl (.tmp 15) (.tmp 16) 28 28 rfl 5 Tryz.underlying28 (by kernel_rfl) hb (8 + r) 137 134 _ H1.out.1.drew c _ _ _ _ ⟨bb, off + k, none⟩ rfl rfl HSC.out.1 (byt fun j => msg (n + k + j)) HSC.out.2 (fun _ _ => rfl) (by omega) ?_; intro w2 hr2 ho2; refine hK.out _ _ ?_ (fun hHeld => ?_)
    · rw [hr2.cell (by decide), if_neg (by omega), has_held]
    clear hK K; try simp only [sm]
    refine tk 8 (.int .i64 (c : Int)) (fun w9 hSw => ?_) hHeld ?_
    · go_simp
    simp only [sm]; refine wpAnyH_done (by kernel_rfl) ?_ _; have row3 : w2.rowIs hb 134 137 (has (stAfter msg q) (partTo p (fun i => msg (128 * q + i)) r c) (n + k)) := part_row hmv (fun j hj => by
     have h1 := H1.out.2.2.2.1; have h2 := H1.out.2.2.2.2.1; show Value.int .u8 (I8 (msg (n + k + j))) = .int .u8 (I8 (msg (128 * q + (r + j)))); rw [show n + k + j = 128 * q + (r + j) from by omega]) hr2
    obtain ⟨a2, ha2, hsl2, hsl3⟩ := rest_from bb (off + k) L cp c hc1 hcp; have f136 : w2.frozen? ⟨hb, 136, none⟩ = false := row3.frozen _; have c136 : w2.cell? ⟨hb, 136, none⟩ = some (.int .u64 ((n : Int) + (k : Int))) := by rw [row3.cell (by decide), has_held]; simp
    have ewr : IntKind.u64.wrap ((n : Int) + (k : Int) + (c : Int)) = ((n + (k + c) : Nat) : Int) := by rw [IntKind.wrap_u64]; omega
    have ecv : IntKind.u64.wrap (c : Int) = (c : Int) := by rw [IntKind.wrap_u64]; omega
    have H4 : Hid ((w2.setCell ⟨hb, 136, none⟩ (.int .u64 ((n : Int) + ((k : Int) + (c : Int))))).rowIs hb 134 137 (has (stAfter msg q) (partTo p (fun i => msg (128 * q + i)) r c) (n + (k + c))) ∧ w.grownBy (w2.setCell ⟨hb, 136, none⟩ (.int .u64 ((n : Int) + ((k : Int) + (c : Int))))) (some hb) ∧ (c < L → a2 = some ⟨bb, off + k + c, none⟩)) :=
     ⟨held_row (by simp) row3, gb_trans H1.out.2.1 (gb_trans (Only.gb ((Only.refl _ _).drew)) (ho2.setCell _ _).gb), ha2⟩
    clear row3 hr2 ho2 ha2 HSC hsl cH hHeld; go_wp2_with fail; clear f136 c136 ewr ecv; generalize w2.setCell ⟨hb, 136, none⟩ (.int .u64 ((n : Int) + ((k : Int) + (c : Int)))) = W4 at H4 ⊢; refine (held_any hb (n + (k + c)) (by omega) W4 (by rw [H4.out.1.cell (by decide), has_held])).mono ?_; rintro e w' ⟨rfl, hs⟩; obtain rfl := hs.symm; by_cases hfull : r + c = 128
    · rw [show (n + (k + c)) % 128 = 0 from by omega]
      go_wp2; refine wp_region_held_drew (S := fun w' => ∃ R, w'.rowIs hb 134 137 (has R (partTo p (fun i => msg (128 * q + i)) r c) (n + (k + c)))) (by kernel_rfl) ⟨_, H4.out.1.drew⟩ (fun hHeld => ?_)
      refine tk 0 (.pointer (some ⟨hb, 0, none⟩)) (fun w9 hSw => ?_) hHeld ?_
      · go_simp
      simp only [sm]; refine tk 1 (.pointer (some ⟨hb, 0, none⟩)) (fun w9 hSw => ?_) hHeld ?_
      · go_simp
      simp only [sm]; refine tk 2 (.pointer (some ⟨hb, 0, none⟩)) (fun w9 hSw => ?_) hHeld ?_
      · go_simp
      simp only [sm]; refine tk 3 (.pointer (some ⟨hb, 0, none⟩)) (fun w9 hSw => ?_) hHeld ?_
      · go_simp
      simp only [sm]; refine tk 5 (.pointer (some ⟨hb, 0, none⟩)) (fun w9 hSw => ?_) hHeld ?_
      · go_simp
      simp only [sm]; refine tk 6 (.pointer (some ⟨hb, 0, none⟩)) (fun w9 hSw => ?_) hHeld ?_
      · go_simp
      simp only [sm]; refine tk 7 (.pointer (some ⟨hb, 8, none⟩)) (fun w9 hSw => ?_) hHeld ?_
      · go_simp
      simp only [sm]; refine tk 8 (.agg (vec 128 (byt (partTo p (fun i => msg (128 * q + i)) r c)))) (fun w9 hSw => ?_) hHeld ?_
      · obtain ⟨R, hSw⟩ := hSw
        exact run_load_exec 132 _ rfl _ rfl (run_loadVar_mid w9 hb 8 128 132 5 _ (fun j hj => (hSw.cell (i := 8 + j) (by omega)).trans (by rw [has_part hj])) Tryz.underlying132 (by kernel_rfl))
      simp only [sm]; refine rd 4 (fun K hK => ?_); refine step_load_mid (by rfl) 111 _ rfl hb 0 8 rfl (lan (stAfter msg q)) (fun j hj => by rw [Nat.zero_add]; exact (H4.out.1.drew.cell (i := j) (by omega)).trans (by rw [has_state hj])) 22 Tryz.underlying111 (by kernel_rfl) ?_; refine hK.out _ _ ?_ (fun hHeld => ?_)
      · exact hHeld
      clear hK K; try simp only [sm]
      refine rd 9 (fun K hK => ?_); go_simp; refine (behind_any _ _ _).mono ?_; rintro e V2 ⟨rfl, hb2⟩; have hrV : V2.rowIs hb 134 137 (has (stAfter msg q) (partTo p (fun i => msg (128 * q + i)) r c) (n + (k + c))) := H4.out.1.drew.of_block (hb2.block _ H4.out.1.drew.lt); go_wp2_with fail; refine hK.out _ _ ?_ (fun hHeld => ?_)
      · exact ⟨_, hrV⟩
      clear hK K; try simp only [sm]
      refine tk 10 (.pointer (some ⟨hb, 0, none⟩)) (fun w9 hSw => ?_) hHeld ?_
      · go_simp
      simp only [sm]; refine tk 11 (.pointer (some ⟨hb, 0, none⟩)) (fun w9 hSw => ?_) hHeld ?_
      · go_simp
      simp only [sm]; refine rd 12 (fun K hK => ?_); refine step_store_vec (by rfl) 111 _ _ rfl hb 0 8 137 (lan (beh KK (stAfter msg q) (partTo p (fun i => msg (128 * q + i)) r c))) _ 134 rfl rfl hrV (by decide) (by kernel_rfl) (fun _ _ => rfl) ?_; refine hK.out _ _ ?_ (fun hHeld => ?_)
      · exact ⟨_, state_row hrV⟩
      clear hK K; try simp only [sm]
      refine wpAnyH_done (by kernel_rfl) ?_ _; have g5 : W4.grownBy (V2.setRow hb (vec 137 fun j => if 0 ≤ j ∧ j < 0 + 8 then lan (beh KK (stAfter msg q) (partTo p (fun i => msg (128 * q + i)) r c)) (j - 0) else has (stAfter msg q) (partTo p (fun i => msg (128 * q + i)) r c) (n + (k + c)) j)) (some hb) :=
       gb_trans ⟨hb2.os, hb2.tape, hb2.output, hb2.size, fun k hk _ => hb2.block k hk⟩ (((Only.refl _ _).setRow _).gb)
      have H5 : Hid (w.grownBy _ (some hb) ∧ HasIn _ hb msg (n + (k + c))) := ⟨gb_trans H4.out.2.1 g5, has_full H1.out.2.2.1 hfull (by have := H1.out.2.2.2.1; have := H1.out.2.2.2.2.1; omega) (state_row hrV)⟩
      clear g5 hHeld hrV hb2; generalize V2.setRow hb _ = W6 at H5 ⊢; go_wp2; go_roundw
      case rel => exact ⟨k + c, a2, cp - c, hkl, by rw [show L - c = len - (k + c) from by have := H1.out.2.2.2.2.2; omega], fun h => by rw [H4.out.2.2 (by have := H1.out.2.2.2.2.2; omega), Nat.add_assoc], ⟨by have := H1.out.2.2.2.2.2; omega, by omega⟩, H5.out.1, H5.out.2⟩
      case measure => simp [slen]; omega
    · have hne : ¬ (((n + (k + c)) % 128 : Nat) : Int) = 0 := by omega
      obtain ⟨y, hy⟩ : ∃ y : Int, y = (((n + (k + c)) % 128 : Nat) : Int) := ⟨_, rfl⟩
      rw [← hy] at hne ⊢; clear hy; have H5 : Hid (w.grownBy W4 (some hb) ∧ HasIn W4 hb msg (n + (k + c))) := ⟨H4.out.2.1, has_more (r' := r + c) H1.out.2.2.1 rfl (by omega) (by have := H1.out.2.2.2.1; have := H1.out.2.2.2.2.1; omega) H4.out.1⟩
      go_wp2; go_roundw
      case rel => exact ⟨k + c, a2, cp - c, hkl, by rw [show L - c = len - (k + c) from by have := H1.out.2.2.2.2.2; omega], fun h => by rw [H4.out.2.2 (by have := H1.out.2.2.2.2.2; omega), Nat.add_assoc], ⟨by have := H1.out.2.2.2.2.2; omega, by omega⟩, H5.out.1, H5.out.2⟩
      case measure => simp [slen]; omega
  · have hkl : k = len := by omega
    subst hkl; have H5 : Hid (w.grownBy wr (some hb) ∧ HasIn wr hb msg (n + k)) := ⟨hg, p, hrow, hp⟩
    clear hrow hp hg ha'; rw [Nat.sub_self]; go_wp2; go_returns; exact ⟨rfl, H5.out.1, H5.out.2⟩
end Go.Proofs.YtojfcdjgcgnajaaGreat.Sha
