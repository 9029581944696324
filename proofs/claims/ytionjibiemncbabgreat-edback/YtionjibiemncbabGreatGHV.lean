/- AX, HV -/
import Derived.Test.YtionjibiemncbabGreatSX
import Derived.Test.YtionjibiemncbabGreatVF
import Derived.Test.YtionjibiemncbabGreatDM
set_option linter.unusedSimpArgs false
set_option linter.unusedVariables false
namespace Go.Proofs.YtionjibiemncbabGreat
open Go.RowKit
set_option maxRecDepth 100000
theorem encP_of {p : Pt} {qx qy : Nat} (hx : p.x = toK qx) (hy : p.y = toK qy) (bx : (qx : Int) < PP) (bY : (qy : Int) < PP) : encP p = (qy : Int) + (if (qx : Int) % 2 = 1 then H255 else 0) := by
  unfold encP encN
  rw [hx, hy]
  unfold toK
  rw [toF_valI (by omega) bx, toF_valI (by omega) bY]
def D0 : Nat → BitVec 8 := Sha.digest (Sha.litM Sha.e1M) 32
theorem dgL (D : Nat → BitVec 8) (l : List Nat) (h : ∀ i, i < 64 → D i = Sha.litM l i) (i : Nat) (hi : i < 64) : dg D i = dg (Sha.litM l) i := by unfold dg; rw [h i hi]
theorem hnumL {D : Nat → BitVec 8} {l : List Nat} (h : ∀ i, i < 64 → D i = Sha.litM l i) : hnum D = valB (lsI (dg (Sha.litM l)) 64) := by
  unfold hnum
  rw [lsI_congr (dgL D l h)]
def aE : Int := 7196903412274038802701538263280187907152860435200743670699908441353638128764
def rE : Int := 2015312323900227545039973048451112962192803170366412514267238242679089760755
def kE : Int := 1958233733501237659471134851339390337284068724042047466985993338226439154310
def k2E : Int := 3522795203402148482764146148954277926717685080406457998596202582178711798453
def AE : Int := 11903303657706407974989296177215005343713679411332034699907763981919547054807
def RE : Int := 38448863731492799660668882834560725606410712239157980760146247592118262650597
theorem ex_a : secN D0 % LL = aE := by
  have h : lsI (clampB D0) 32 = lsI (clampB (Sha.litM Sha.e1D)) 32 := lsI_congr (fun j hj => by
    unfold clampB
    rw [dgL D0 _ Sha.e1_dig 0 (by decide), dgL D0 _ Sha.e1_dig 31 (by decide), dgL D0 _ Sha.e1_dig j (by omega)])
  unfold secN
  rw [h]
  decide +kernel
theorem ex_cat2 (m : Nat → BitVec 8) (i : Nat) (hi : i < 32 + 0) : cat2 (fun j => dg D0 (32 + j)) m i = Sha.litM Sha.e2M i := by
  have h2 : (List.range 32).all (fun i => Sha.litM Sha.e1D (32 + i) == Sha.litM Sha.e2M i) = true := by decide +kernel
  unfold cat2
  rw [if_pos (by omega)]
  show bv (Sha.I8 (D0 (32 + i))) = _
  rw [bv_I8, show D0 (32 + i) = Sha.litM Sha.e1D (32 + i) from Sha.e1_dig _ (by omega)]
  exact eq_of_beq (Sha.all_of h2 i (by omega))
theorem ex_r (m : Nat → BitVec 8) : rN D0 m 0 = rE := by
  unfold rN
  rw [Sha.digest_congr (ex_cat2 m), hnumL (l := Sha.e2D) Sha.e2_dig]
  decide +kernel
def aBits : List Bool := [true, true, true, true, true, true, true, false, true, false, false, true, false, true, false, false, true, true, false, true, true, false, false, true, false, false, false, false, false, false, false, false, false, true, true, false, true, true, true, true, false, false, false, false, false, false, true, false, false, false, false, false, true, false, true, false, false, true, false, true, true, false, true, false, false, false, true, true, true, true, false, false, false, false, false, false, true, false, false, false, false, false, false, false, true, true, false, true, true, false, false, true, false, true, true, false, true, false, false, false, false, false, true, false, false, true, true, true, true, true, true, true, true, true, true, true, true, true, true, true, true, true, false, false, true, true, true, false, true, false, false, false, true, false, false, false, false, true, false, true, false, false, true, false, false, false, true, true, false, true, false, false, false, true, true, false, false, true, true, false, false, true, false, true, false, true, false, true, false, false, false, false, false, false, false, false, false, true, true, false, true, true, true, false, true, false, false, true, false, true, true, false, true, false, true, false, true, true, true, false, true, false, false, true, true, false, false, true, true, false, true, true, true, true, true, false, false, true, true, false, false, false, false, true, false, false, true, false, true, false, true, false, true, true, false, false, false, false, true, false, true, true, false, false, false, true, true, true, true, true, false, false]
def rBits : List Bool := [true, false, false, false, true, true, true, false, true, false, false, true, false, true, false, false, false, false, false, false, true, false, true, true, false, false, false, true, false, true, false, true, true, false, false, false, true, true, true, false, true, false, true, true, false, false, false, true, true, true, true, true, true, false, false, false, true, false, true, true, true, true, false, true, true, false, true, true, true, false, false, false, false, true, false, true, false, true, false, true, true, true, true, false, false, false, true, true, false, false, false, false, true, true, true, false, true, false, false, false, false, false, true, false, false, false, false, false, true, false, false, true, false, false, true, false, false, true, false, false, false, true, false, false, true, true, false, true, false, false, false, false, true, false, true, false, false, true, true, true, false, true, false, true, true, true, true, true, false, true, true, false, true, false, false, false, true, true, true, true, true, false, true, false, true, true, true, true, false, false, false, false, true, false, false, false, true, false, false, true, true, true, true, false, false, true, false, true, true, true, false, true, false, true, false, false, false, true, true, true, true, false, true, true, false, false, false, true, false, false, true, true, false, false, false, true, true, false, false, false, false, true, true, false, false, false, false, false, false, false, false, false, true, true, true, true, false, false, false, true, false, false, true, true, true, true, true, false, false, true, true]
theorem ex_A : encP (Pt.mul aE.toNat Pt.base) = AE := by
  have h := base_mul aBits aE.toNat 38815646466658113194383306759739515082307681141926459231621296960732224964046 11903303657706407974989296177215005343713679411332034699907763981919547054807 (by decide +kernel) (by decide +kernel)
  rw [encP_of h.1 h.2 (by decide +kernel) (by decide +kernel)]
  decide +kernel
theorem ex_R : encP (Pt.mul rE.toNat Pt.base) = RE := by
  have h := base_mul rBits rE.toNat 44370630452101398467924320556439323233869374150616132215183787387252341590058 38448863731492799660668882834560725606410712239157980760146247592118262650597 (by decide +kernel) (by decide +kernel)
  rw [encP_of h.1 h.2 (by decide +kernel) (by decide +kernel)]
  decide +kernel
theorem ex_pub : pubN D0 = AE := by
  unfold pubN seedN
  rw [ex_a, ex_A]
theorem ex_fir (m : Nat → BitVec 8) : firN D0 m 0 = RE := by
  unfold firN
  rw [ex_r, ex_R]
theorem ex_cat3 (m : Nat → BitVec 8) (l : List Nat) (hl : (List.range 64).all (fun i => (if i < 32 then bv (RE / 256 ^ i % 256) else bv (AE / 256 ^ (i - 32) % 256)) == Sha.litM l i) = true) (i : Nat) (hi : i < 64) : cat3 (fun j => RE / 256 ^ j % 256) (fun j => AE / 256 ^ j % 256) m i = Sha.litM l i := by
  rw [← eq_of_beq (Sha.all_of hl i hi)]
  unfold cat3
  by_cases h : i < 32
  · rw [if_pos h, if_pos h]
  · rw [if_neg h, if_neg h, if_pos hi]
theorem ex_k (m : Nat → BitVec 8) : kN RE AE m 0 = kE := by
  unfold kN
  rw [Sha.digest_congr (m' := Sha.litM Sha.e3M) (fun i hi => ex_cat3 m _ (by decide +kernel) i (by omega)), hnumL (l := Sha.e3D) Sha.e3_dig]
  decide +kernel
theorem ex_k2 (m : Nat → BitVec 8) (hm : m 0 = 1#8) : kN RE AE m 1 = k2E := by
  unfold kN
  rw [Sha.digest_congr (m' := Sha.litM Sha.e4M) (fun i hi => by
    by_cases h : i < 64
    · exact ex_cat3 m _ (by decide +kernel) i h
    · obtain rfl : i = 64 := by omega
      unfold cat3
      rw [if_neg (by decide), if_neg (by decide), hm]
      decide +kernel), hnumL (l := Sha.e4D) Sha.e4_dig]
  decide +kernel
end Go.Proofs.YtionjibiemncbabGreat
namespace Go.Proofs.YtionjibiemncbabGreat
open Go.RowKit
def Holds (n R S : Int) (m : Nat → BitVec 8) (len : Nat) : Prop := ∃ pk pr : Pt, decK n = some (pk.x, pk.y) ∧ decK R = some (pr.x, pr.y) ∧ S < LL ∧ (Pt.mul S.toNat Pt.base).add (Pt.mul (kN R n m len).toNat pk.neg) = pr
theorem some_pt {a b c d : K} (h : some (a, b) = some (c, d)) : a = c ∧ b = d := by cases h; exact ⟨rfl, rfl⟩
theorem g_verify {n R S : Int} (n0 : 0 ≤ n) (n1 : n < T256) (r0 : 0 ≤ R) (r1 : R < T256) (s0 : 0 ≤ S) (s1 : S < T256) (am : Option Addr) (len capm : Nat) (m : Nat → BitVec 8) (w : World) (hm : Sha.Bytes w am len capm m) :
    Calls Tryz.prog 25 #[keyV n, .slice am len capm, sigV R S] w fun e w' => ∃ b : Bool, e = .returned (.bool b) ∧ (b = true ↔ Holds n R S m len) ∧ Below w.heap.size w w' := by
  have no : ∀ {e : Ending} {w' : World}, ¬ Holds n R S m len → (e = .returned (.bool false) ∧ Below w.heap.size w w') → ∃ b : Bool, e = .returned (.bool b) ∧ (b = true ↔ Holds n R S m len) ∧ Below w.heap.size w w' :=
    fun hn h => ⟨false, h.1, ⟨fun e => (by cases e), fun e => absurd e hn⟩, h.2⟩
  cases hk : decK n with
  | none => exact (ver_1 n0 n1 r0 r1 s0 s1 am len capm m hk w hm).mono fun e w' h => no (fun ⟨pk, pr, h, _⟩ => by rw [hk] at h; cases h) h
  | some ab =>
    obtain ⟨a, b⟩ := ab
    obtain ⟨pk, rfl, rfl, _⟩ := decK_some n0 n1 hk
    cases hr : decK R with
    | none => exact (ver_2 n0 n1 r0 r1 s0 s1 am len capm m hk false (fun _ => rfl) (fun _ => rfl) (fun pr h => absurd (hr.symm.trans h) (by simp)) w hm).mono fun e w' h => no (fun ⟨pk, pr, _, h, _⟩ => by rw [hr] at h; cases h) h
    | some cd =>
      obtain ⟨c, d⟩ := cd
      obtain ⟨pr, rfl, rfl, _⟩ := decK_some r0 r1 hr
      by_cases hS : S < LL
      · refine (ver_2 n0 n1 r0 r1 s0 s1 am len capm m hk (decide (((Pt.mul S.toNat Pt.base).add (Pt.mul (kN R n m len).toNat pk.neg)).x = pr.x) && decide (((Pt.mul S.toNat Pt.base).add (Pt.mul (kN R n m len).toNat pk.neg)).y = pr.y)) (fun h => absurd (hr.symm.trans h) (by simp)) (fun h => absurd hS (Int.not_lt.2 h)) (fun q h _ => by rw [Pt.same (some_pt (hr.symm.trans h)).1 (some_pt (hr.symm.trans h)).2]) w hm).mono ?_
        rintro e w' ⟨rfl, hb⟩
        refine ⟨_, rfl, ?_, hb⟩
        rw [Bool.and_eq_true, decide_eq_true_eq, decide_eq_true_eq]
        constructor
        · rintro ⟨h1, h2⟩
          exact ⟨pk, pr, hk, hr, hS, Pt.same h1 h2⟩
        · rintro ⟨p, q, h1, h2, _, h3⟩
          rw [hk] at h1
          rw [hr] at h2
          obtain ⟨e1, e2⟩ := some_pt h1
          obtain ⟨e3, e4⟩ := some_pt h2
          rw [← Pt.same e1 e2, ← Pt.same e3 e4] at h3
          rw [h3]; exact ⟨rfl, rfl⟩
      · exact (ver_2 n0 n1 r0 r1 s0 s1 am len capm m hk false (fun _ => rfl) (fun _ => rfl) (fun _ _ h => absurd h hS) w hm).mono fun e w' h => no (fun ⟨_, _, _, _, h, _⟩ => hS h) h
theorem neg_zero' : Pt.zero.neg = Pt.zero := by
  have := add_neg Pt.zero
  rw [zero_add] at this
  exact this
theorem neg_of {p q : Pt} (h : p.add q = Pt.zero) : q = p.neg := by
  have : p.neg.add (p.add q) = p.neg.add Pt.zero := by rw [h]
  rw [← add_assoc, add_comm p.neg p, add_neg, zero_add, add_zero] at this
  exact this
theorem neg_sum (p q : Pt) : (p.add q).neg = p.neg.add q.neg := by
  refine (neg_of ?_).symm
  rw [add_swap, add_neg, add_neg, add_zero]
theorem mul_neg (k : Nat) (p : Pt) : Pt.mul k p.neg = (Pt.mul k p).neg := by
  induction k with
  | zero => rw [mul_nought, mul_nought, neg_zero']
  | succ k ih => rw [mul_next, mul_next, ih, neg_sum]
theorem away_back (x y : Pt) : (x.add y).add y.neg = x := by rw [add_assoc, add_neg, add_zero]
theorem add_cancel {x y z : Pt} (h : x.add z = y.add z) : x = y := by
  have := congrArg (fun t => t.add z.neg) h
  simp only [away_back] at this
  exact this
theorem LL_nat : LL = (LN : Int) := by decide
theorem holds_iff (a r : Nat) (S : Int) (s0 : 0 ≤ S) (m : Nat → BitVec 8) (len : Nat) : Holds (encP (Pt.mul a Pt.base)) (encP (Pt.mul r Pt.base)) S m len ↔ S < LL ∧ Pt.mul S.toNat Pt.base = Pt.mul (r + (kN (encP (Pt.mul r Pt.base)) (encP (Pt.mul a Pt.base)) m len).toNat * a) Pt.base := by
  constructor
  · rintro ⟨pk, pr, h1, h2, h3, h4⟩
    rw [decK_enc] at h1 h2
    obtain ⟨e1, e2⟩ := some_pt h1
    obtain ⟨e3, e4⟩ := some_pt h2
    rw [← Pt.same e1 e2, ← Pt.same e3 e4, mul_neg] at h4
    refine ⟨h3, ?_⟩
    rw [mul_add, mul_mul]
    refine add_cancel (z := (Pt.mul (kN (encP (Pt.mul r Pt.base)) (encP (Pt.mul a Pt.base)) m len).toNat (Pt.mul a Pt.base)).neg) ?_
    rw [away_back]
    exact h4
  · rintro ⟨h3, h4⟩
    refine ⟨_, _, decK_enc _, decK_enc _, h3, ?_⟩
    rw [h4, mul_neg, mul_add, mul_mul, away_back]
theorem modL_bd (x : Int) : 0 ≤ x % LL ∧ x % LL < LL := ⟨Int.emod_nonneg _ (by decide), Int.emod_lt_of_pos _ (by decide)⟩
theorem second_mul (D : Nat → BitVec 8) (m : Nat → BitVec 8) (len : Nat) : Pt.mul (secondN D m len).toNat Pt.base = Pt.mul ((rN D m len).toNat + (kkN D m len).toNat * seedN D) Pt.base := by
  have hr : 0 ≤ rN D m len := (modL_bd _).1
  have hk : 0 ≤ kkN D m len := (modL_bd _).1
  have ha : 0 ≤ secN D % LL := (modL_bd _).1
  unfold secondN seedN
  obtain ⟨r, hr'⟩ := Int.eq_ofNat_of_zero_le hr
  obtain ⟨k, hk'⟩ := Int.eq_ofNat_of_zero_le hk
  obtain ⟨a, ha'⟩ := Int.eq_ofNat_of_zero_le ha
  rw [hr', hk', ha', LL_nat, ← Int.natCast_mul, ← Int.natCast_emod, ← Int.natCast_add, ← Int.natCast_emod, Int.toNat_natCast, Int.toNat_natCast, Int.toNat_natCast, Int.toNat_natCast, mul_modL, mul_add, mul_modL, ← mul_add]
theorem second_bd (D : Nat → BitVec 8) (m : Nat → BitVec 8) (len : Nat) : 0 ≤ secondN D m len ∧ secondN D m len < LL := modL_bd _
theorem signed_holds (D : Nat → BitVec 8) (m : Nat → BitVec 8) (len : Nat) : Holds (pubN D) (firN D m len) (secondN D m len) m len :=
  (holds_iff (seedN D) (rN D m len).toNat (secondN D m len) (second_bd D m len).1 m len).2 ⟨(second_bd D m len).2, second_mul D m len⟩
end Go.Proofs.YtionjibiemncbabGreat
