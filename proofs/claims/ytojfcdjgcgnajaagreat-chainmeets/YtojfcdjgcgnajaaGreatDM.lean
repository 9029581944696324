/- What Decode tells is the point that is written so. -/
import Derived.Test.YtojfcdjgcgnajaaGreatTB
namespace Go.Proofs.YtojfcdjgcgnajaaGreat
set_option linter.unusedSimpArgs false
set_option linter.unusedVariables false
theorem sqrt_true {s : Int} (h : sqrtB s = true) : sqrtR s * sqrtR s % PP = s % PP ∧ sqrtR s % 2 = 0 := by
 unfold sqrtB at h; unfold sqrtR; by_cases h1 : rt1 s * rt1 s % PP = s % PP
 · rw [if_pos h1, evenR_sq]; exact ⟨h1, evenR_even2 _⟩
 · rw [if_neg h1]
   rw [decide_eq_false h1, Bool.false_or, decide_eq_true_eq] at h; rw [if_pos h, evenR_sq]; exact ⟨h, evenR_even2 _⟩
theorem toF_valI {r : Int} (h0 : 0 ≤ r) (h1 : r < PP) : ((toF r).val : Int) = r := by rw [toF_val, Int.emod_eq_of_lt h0 h1]
theorem neg_valI {r : Int} (h0 : 0 < r) (h1 : r < PP) : (((0 : K) - toF r).val : Int) = PP - r := by
 have e : (0 : K) - toF r = toF (PP - r) := by
  rw [toF_sub, show toF PP = 0 from by rw [toF_nz]; decide]
 rw [e, toF_valI (by omega) (by omega)]
theorem add_right_inj' (u v o : K) (h : u + o = v + o) : u = v := by grind
theorem minus_of (u i : K) (h : u + 1 = 0) (hi : i * i = -1) : u = i * i := by
 refine add_right_inj' _ _ 1 ?_; rw [h, hi]; decide +kernel
theorem pos_of {r : Int} (h : 0 ≤ r) (h2 : ¬ r = 0) : 0 < r := by omega
theorem int_01 {q : Int} (h1 : 0 ≤ q) (h2 : q < 2) (h : ¬ q = 1) : q = 0 := by omega
theorem zm (u : K) : u * ((0 : K) * 0) = 0 := by grind
theorem zz (u : K) : u * ((0 : K) * 0) + 1 = 1 := by
 rw [zm]; decide +kernel
theorem one_dy (b : K) : toF DD * (b * b) + 1 ≠ 0 := by
 intro h; obtain ⟨i, hi⟩ := edw.root; have hb := edw.nsq b i (minus_of _ i h hi); rw [hb] at h; exact edw.one ((zz _).symm.trans h)
theorem par_odd {r : Int} (h : r % 2 = 0) : (PP - r) % 2 = 1 := by unfold PP; omega
theorem neg_sq (t : K) : (0 - t) * (0 - t) = t * t := by grind
theorem sqx_on {a b : K} (h : a * a = sqx b) : OnC (toF DD) a b := by
 have hi := invK_mul (one_dy b); unfold sqx at h; unfold OnC; generalize invK (toF DD * (b * b) + 1) = c at *
 grind
theorem on_sqx {a b : K} (h : OnC (toF DD) a b) : a * a = sqx b := by
 have hi := invK_mul (one_dy b); unfold OnC at h; unfold sqx; generalize invK (toF DD * (b * b) + 1) = c at *
 grind
theorem rootX_bd (y : Int) : 0 ≤ rootX y ∧ rootX y < PP := sqrtR_bd _
theorem rootX_sq {y : Int} (h : sqrtB ((sqx (toF y)).val : Int) = true) : toF (rootX y) * toF (rootX y) = sqx (toF y) ∧ rootX y % 2 = 0 := by
 have := sqrt_true h; refine ⟨?_, this.2⟩; have e := toF_eq.2 this.1; rw [val_toF, toF_mul] at e; exact e
theorem decK_some {n : Int} (n0 : 0 ≤ n) (n1 : n < T256) {a b : K} (h : decK n = some (a, b)) : ∃ p : Pt, p.x = a ∧ p.y = b ∧ encP p = n := by
 have hp : PP = 57896044618658097711785492504343953926634992332820282019728792003956564819949 := rfl; have hT : T256 = 115792089237316195423570985008687907853269984665640564039457584007913129639936 := by decide
 unfold decK decY at h; generalize hy : n % H255 = y at h; have y0 : 0 ≤ y := by rw [← hy]; exact Int.emod_nonneg _ (by decide)
 by_cases hP : PP ≤ y
 · rw [if_pos hP] at h; cases h
 rw [if_neg hP] at h; by_cases hs : sqrtB ((sqx (toF y)).val : Int) = false
 · rw [if_pos hs] at h; cases h
 rw [if_neg hs] at h; have hs' : sqrtB ((sqx (toF y)).val : Int) = true := by revert hs; cases sqrtB ((sqx (toF y)).val : Int) <;> simp
 obtain ⟨hsq, hev⟩ := rootX_sq hs'; have hbd := rootX_bd y; have hyv : ((toF y).val : Int) = y := toF_valI y0 (Int.not_le.1 hP); have hdm := Int.emod_add_mul_ediv n H255; have hH : H255 = 57896044618658097711785492504343953926634992332820282019728792003956564819968 := rfl; by_cases ho : n / H255 = 1
 · rw [decide_eq_true ho, if_pos rfl] at h
   by_cases hr : rootX y = 0
   · rw [if_pos hr] at h; cases h
   · rw [if_neg hr] at h
     cases h
     refine ⟨⟨0 - toF (rootX y), toF y, sqx_on (by rw [neg_sq]; exact hsq)⟩, rfl, rfl, ?_⟩; show encN (0 - toF (rootX y)) (toF y) = n; unfold encN; have hpos : 0 < rootX y := pos_of hbd.1 hr; rw [neg_valI hpos hbd.2, hyv, if_pos (par_odd hev)]; rw [hy, ho, Int.mul_one] at hdm; exact hdm
 · rw [decide_eq_false ho, if_neg (by decide)] at h
   cases h
   refine ⟨⟨toF (rootX y), toF y, sqx_on hsq⟩, rfl, rfl, ?_⟩; show encN (toF (rootX y)) (toF y) = n; unfold encN; rw [toF_valI hbd.1 hbd.2, hyv, if_neg (by rw [hev]; decide)]; have h0 : n / H255 = 0 := by
    have h1 : 0 ≤ n / H255 := Int.ediv_nonneg n0 (by decide); have h2 : n / H255 < 2 := Int.ediv_lt_of_lt_mul (by decide) (Int.lt_of_lt_of_le n1 (by decide)); exact int_01 h1 h2 ho
   rw [hy, h0, Int.mul_zero] at hdm; exact hdm
theorem encP_bd (p : Pt) : 0 ≤ encP p ∧ encP p < T256 := by
 have h1 := valK_bd p.y; have hp : PP = 57896044618658097711785492504343953926634992332820282019728792003956564819949 := rfl; have hT : T256 = 115792089237316195423570985008687907853269984665640564039457584007913129639936 := by decide
 have hH : H255 = 57896044618658097711785492504343953926634992332820282019728792003956564819968 := rfl; unfold encP encN; split <;> omega
theorem decK_enc (p : Pt) : decK (encP p) = some (p.x, p.y) := by
 have hp : PP = 57896044618658097711785492504343953926634992332820282019728792003956564819949 := rfl; have hH : H255 = 57896044618658097711785492504343953926634992332820282019728792003956564819968 := rfl; have hy := valK_bd p.y; have hx := valK_bd p.x; have e1 : encP p % H255 = (p.y.val : Int) := by
  unfold encP encN; split
  · rw [Int.add_emod_right]; exact Int.emod_eq_of_lt hy.1 (by omega)
  · rw [Int.add_zero]; exact Int.emod_eq_of_lt hy.1 (by omega)
 have e2 : decide (encP p / H255 = 1) = decide ((p.x.val : Int) % 2 = 1) := by
  congr 1
  have hdm := Int.emod_add_mul_ediv (encP p) H255; rw [e1] at hdm; apply propext; unfold encP encN at hdm ⊢; by_cases h : (p.x.val : Int) % 2 = 1
  · rw [if_pos h] at hdm ⊢
    constructor
    · intro _; exact h
    · intro _; unfold H255 at hdm ⊢; omega
  · rw [if_neg h] at hdm ⊢
    constructor
    · intro h2; unfold H255 at hdm h2; omega
    · intro h2; exact absurd h2 h
 unfold decK; rw [e1, e2]; have hv : toF (p.y.val : Int) = p.y := val_toF _; have hsq := on_sqx p.on; have hval : ((sqx (toF (p.y.val : Int))).val : Int) = (p.x.val : Int) * (p.x.val : Int) % PP := by
  rw [hv, ← hsq, ← toF_val, toF_mul, val_toF]
 have hs : sqrtB ((sqx (toF (p.y.val : Int))).val : Int) = true := by rw [hval]; exact (sqrt_sq _).1
 obtain ⟨hrs, hev⟩ := rootX_sq hs; have hbd := rootX_bd (p.y.val : Int); rw [hv, ← hsq] at hrs; unfold decY; rw [if_neg (by omega), if_neg (by rw [hs]; decide), hv]; generalize rootX (p.y.val : Int) = r at *; have hcase : toF r = p.x ∨ toF r = 0 - p.x := by
  rcases edw.nzd (toF r - p.x) (toF r + p.x) (by grind) with h | h
  · left; grind
  · right; grind
 have hrv := toF_valI hbd.1 hbd.2; by_cases ho : (p.x.val : Int) % 2 = 1
 · rw [decide_eq_true ho, if_pos rfl]
   have hne : toF r ≠ p.x := fun e => by rw [e] at hrv; omega
   have hr : toF r = 0 - p.x := hcase.resolve_left hne; have hr0 : r ≠ 0 := by
    intro e; rw [e, toF_zero] at hr; have : p.x = 0 := by grind
    rw [this] at ho
    revert ho; decide
   rw [if_neg hr0, hr]; congr 2
   grind
 · rw [decide_eq_false ho, if_neg (by decide)]
   rcases hcase with h | h
   · rw [h]
   · by_cases h0 : r = 0
     · rw [h0, toF_zero] at h
       have : p.x = 0 := by grind
       rw [h0, toF_zero, this]
     · have e : p.x = 0 - toF r := by grind
       have := neg_valI (by omega) hbd.2; rw [← e] at this; omega
end Go.Proofs.YtojfcdjgcgnajaaGreat
