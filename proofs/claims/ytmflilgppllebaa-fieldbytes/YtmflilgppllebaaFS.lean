/- Bytes: when two lists of them are the same; the digits of a number. -/
import Derived.Test.YtmflilgppllebaaBN
import Derived.Laws.IdiomStrings
namespace Go.Proofs.Ytmflilgppllebaa
open Go.RowKit
set_option linter.unusedSimpArgs false
set_option linter.unusedVariables false
def toY (d : List Int) : List UInt8 := d.map fun x => UInt8.ofNat x.toNat
theorem IsD.conv {w : World} {v : Value} {d : List Int} (h : IsD w v d) (B : Byt d) (h0 : 0 < d.length) : (convert 32 9 v).run Try.prog w = .ok (.string ⟨(toY d).toArray⟩) w := by
  obtain ⟨a, cap, rfl, hcap, hc⟩ := h
  obtain ⟨b, o, rfl, _, _⟩ := hc 0 h0
  have hl : (toY d).length = d.length := by simp [toY]
  rw [← hl]
  refine run_convert_bytes_back (P := Try.prog) w 32 9 5 ⟨b, o, none⟩ cap (toY d) Try.underlying32 Try.underlying5 Try.underlying9 (fun j hj => ?_)
  have e : (⟨b, o, none⟩ : Addr).add j = ⟨b, o + j, none⟩ := by unfold Addr.add; split <;> simp_all
  rw [hl] at hj
  obtain ⟨b', o', hb', _, hcell⟩ := hc j hj
  cases hb'
  rw [e, hcell]
  have e2 : (toY d)[j]'(by rw [hl]; exact hj) = UInt8.ofNat (d.getD j 0).toNat := by
    simp [toY, List.getD_eq_getElem?_getD, List.getElem?_eq_getElem hj]
  rw [e2]
  have := B j
  congr 2
  simp only [UInt8.toNat_ofNat']
  omega
set_option maxHeartbeats 1000000 in
/-- conclavelaw01.Same -/
theorem sameD_any (w : World) (va vb : Value) (d : List Int) (B : Byt d) (h0 : 0 < d.length) (ha : IsD w va d) (hb : IsD w vb d) :
    Calls Try.prog 28 #[va, vb] w fun e w' => e = .returned (.bool true) ∧ w' = w := by
  have cA := ha.conv B h0
  have cB := hb.conv B h0
  clear ha hb
  go_enter Try.func28, Try.ntmps28
  go_wp2
  go_ret
  exact ⟨rfl, rfl⟩
/-- The 32 digits of a number, the lowest first. -/
def dL (x : Int) : List Int := (List.range 32).map fun j => x / 256 ^ j % 256
theorem dL_len (x : Int) : (dL x).length = 32 := by simp [dL]
theorem dL_get (x : Int) (k : Nat) (hk : k < 32) : (dL x).getD k 0 = x / 256 ^ k % 256 := by
  simp [dL, List.getD_eq_getElem?_getD, hk]
theorem dL_byt (x : Int) : Byt (dL x) := fun k => by
  by_cases hk : k < 32
  · rw [dL_get x k hk]; omega
  · rw [List.getD_eq_getElem?_getD, List.getElem?_eq_none (by rw [dL_len]; omega)]; simp
theorem isD_row {w : World} {b : Nat} {x : Int} (h : w.rowIs b 5 32 (fun j => .int .u8 (x / 256 ^ j % 256))) : IsD w (.slice (some ⟨b, 0, none⟩) 32 32) (dL x) := by
  refine ⟨_, 32, by rw [dL_len], by rw [dL_len]; exact Nat.le_refl _, fun k hk => ?_⟩
  rw [dL_len] at hk
  refine ⟨b, 0, rfl, World.rowIs.lt h, ?_⟩
  rw [Nat.zero_add, World.rowIs.cell h hk, dL_get x k hk]
theorem valB_dig : ∀ (d : List Int) (j : Nat), Byt d → valB d / 256 ^ j % 256 = d.getD j 0
  | [], j, _ => by simp [valB]
  | a :: d, 0, h => by
    have h0 := h 0
    simp only [valB, List.getD_cons_zero] at h0 ⊢
    rw [Int.pow_zero, Int.ediv_one]; omega
  | a :: d, j + 1, h => by
    have h0 := h 0
    have ih := valB_dig d j (fun k => by have := h (k + 1); simpa using this)
    simp only [valB, List.getD_cons_zero] at h0 ⊢
    rw [show (256 : Int) ^ (j + 1) = 256 * 256 ^ j by rw [Int.pow_succ, Int.mul_comm], ← Int.ediv_ediv_of_nonneg (by decide)]
    rw [show (a + 256 * valB d) / 256 = valB d by omega]
    rw [ih]; simp
theorem dL_valB {d : List Int} (h : Byt d) (hl : d.length = 32) : dL (valB d) = d := by
  refine List.ext_getElem (by rw [dL_len, hl]) (fun k h1 h2 => ?_)
  have e := valB_dig d k h
  rw [List.getD_eq_getElem?_getD, List.getElem?_eq_getElem h2] at e
  simp only [dL, List.getElem_map, List.getElem_range, e, Option.getD_some]
theorem emod_mul' (x p : Int) (hp : 0 < p) : x % (p * 256) = x % p + p * (x / p % 256) := by
  have e1 := Int.mul_ediv_add_emod x p
  have e2 := Int.mul_ediv_add_emod (x / p) 256
  have hr := Int.emod_nonneg x (show p ≠ 0 by omega)
  have hr2 := Int.emod_lt_of_pos x hp
  have hq : 0 ≤ x / p % 256 ∧ x / p % 256 < 256 := by omega
  generalize x % p = r at *
  generalize hQ : x / p = q at *
  generalize q % 256 = s at *
  generalize q / 256 = t at *
  have e : x = (r + p * s) + p * 256 * t := by rw [← e1, ← e2]; grind
  have b1 : 0 ≤ p * s := Int.mul_nonneg (by omega) hq.1
  have b2 : p * s ≤ p * 255 := Int.mul_le_mul_of_nonneg_left (by omega) (by omega)
  rw [e, Int.add_mul_emod_self_left, Int.emod_eq_of_lt (by omega) (by omega)]
theorem valB_dL_take (x : Int) (h0 : 0 ≤ x) : ∀ k, k ≤ 32 → valB ((dL x).take k) = x % 256 ^ k
  | 0, _ => by simp [valB]
  | k + 1, hk => by
    rw [valB_take_succ, valB_dL_take x h0 k (by omega), dL_get x k (by omega)]
    have hp : (0 : Int) < 256 ^ k := Int.pow_pos (by decide)
    rw [show (256 : Int) ^ (k + 1) = 256 ^ k * 256 from Int.pow_succ _ _]
    rw [emod_mul' x (256 ^ k) hp]
theorem valB_dL (x : Int) (h0 : 0 ≤ x) (h : x < T256) : valB (dL x) = x := by
  have := valB_dL_take x h0 32 (Nat.le_refl _)
  rw [valB_take_all _ _ (by rw [dL_len]; exact Nat.le_refl _)] at this
  rw [this, Int.emod_eq_of_lt h0 (by unfold T256 at h; omega)]
end Go.Proofs.Ytmflilgppllebaa
