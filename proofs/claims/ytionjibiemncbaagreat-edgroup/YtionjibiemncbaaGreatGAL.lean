/- AX, HV, AL -/
import Derived.Test.YtionjibiemncbaaGreatSX
import Derived.Test.YtionjibiemncbaaGreatVF
import Derived.Test.YtionjibiemncbaaGreatDM
set_option linter.unusedSimpArgs false
set_option linter.unusedVariables false
namespace Go.Proofs.YtionjibiemncbaaGreat
open Go.RowKit
set_option maxRecDepth 100000
theorem encP_of {p : Pt} {qx qy : Nat} (hx : p.x = toK qx) (hy : p.y = toK qy) (bx : (qx : Int) < PP) (bY : (qy : Int) < PP) : encP p = (qy : Int) + (if (qx : Int) % 2 = 1 then H255 else 0) := by
  unfold encP encN
  rw [hx, hy]
  unfold toK
  rw [toF_valI (by omega) bx, toF_valI (by omega) bY]
def D0 : Nat → BitVec 8 := Sha.digest (Sha.litM Sha.e1M) 32
theorem dgL (D : Nat → BitVec 8) (l : List Nat) (h : ∀ i, i < 64 → D i = Sha.litM l i) (i : Nat) (hi : i < 64) : dg D i = dg (Sha.litM l) i := by unfold dg; rw [h i hi]
theorem hnumL {D : Nat → BitVec 8} {l : List Nat} (h : ∀ i, i < 64 → D i = Sha.litM l i) : hnum D = valB (lsI (dg (Sha.litM l)) 64) := by
  unfold hnum
  rw [lsI_congr (dgL D l h)]
def aE : Int := 7196903412274038802701538263280187907152860435200743670699908441353638128764
def rE : Int := 2015312323900227545039973048451112962192803170366412514267238242679089760755
def kE : Int := 1958233733501237659471134851339390337284068724042047466985993338226439154310
def k2E : Int := 3522795203402148482764146148954277926717685080406457998596202582178711798453
def AE : Int := 11903303657706407974989296177215005343713679411332034699907763981919547054807
def RE : Int := 38448863731492799660668882834560725606410712239157980760146247592118262650597
theorem ex_a : secN D0 % LL = aE := by
  have h : lsI (clampB D0) 32 = lsI (clampB (Sha.litM Sha.e1D)) 32 := lsI_congr (fun j hj => by
    unfold clampB
    rw [dgL D0 _ Sha.e1_dig 0 (by decide), dgL D0 _ Sha.e1_dig 31 (by decide), dgL D0 _ Sha.e1_dig j (by omega)])
  unfold secN
  rw [h]
  decide +kernel
theorem ex_cat2 (m : Nat → BitVec 8) (i : Nat) (hi : i < 32 + 0) : cat2 (fun j => dg D0 (32 + j)) m i = Sha.litM Sha.e2M i := by
  have h2 : (List.range 32).all (fun i => Sha.litM Sha.e1D (32 + i) == Sha.litM Sha.e2M i) = true := by decide +kernel
  unfold cat2
  rw [if_pos (by omega)]
  show bv (Sha.I8 (D0 (32 + i))) = _
  rw [bv_I8, show D0 (32 + i) = Sha.litM Sha.e1D (32 + i) from Sha.e1_dig _ (by omega)]
  exact eq_of_beq (Sha.all_of h2 i (by omega))
theorem ex_r (m : Nat → BitVec 8) : rN D0 m 0 = rE := by
  unfold rN
  rw [Sha.digest_congr (ex_cat2 m), hnumL (l := Sha.e2D) Sha.e2_dig]
  decide +kernel
def aBits : List Bool := [true, true, true, true, true, true, true, false, true, false, false, true, false, true, false, false, true, true, false, true, true, false, false, true, false, false, false, false, false, false, false, false, false, true, true, false, true, true, true, true, false, false, false, false, false, false, true, false, false, false, false, false, true, false, true, false, false, true, false, true, true, false, true, false, false, false, true, true, true, true, false, false, false, false, false, false, true, false, false, false, false, false, false, false, true, true, false, true, true, false, false, true, false, true, true, false, true, false, false, false, false, false, true, false, false, true, true, true, true, true, true, true, true, true, true, true, true, true, true, true, true, true, false, false, true, true, true, false, true, false, false, false, true, false, false, false, false, true, false, true, false, false, true, false, false, false, true, true, false, true, false, false, false, true, true, false, false, true, true, false, false, true, false, true, false, true, false, true, false, false, false, false, false, false, false, false, false, true, true, false, true, true, true, false, true, false, false, true, false, true, true, false, true, false, true, false, true, true, true, false, true, false, false, true, true, false, false, true, true, false, true, true, true, true, true, false, false, true, true, false, false, false, false, true, false, false, true, false, true, false, true, false, true, true, false, false, false, false, true, false, true, true, false, false, false, true, true, true, true, true, false, false]
def rBits : List Bool := [true, false, false, false, true, true, true, false, true, false, false, true, false, true, false, false, false, false, false, false, true, false, true, true, false, false, false, true, false, true, false, true, true, false, false, false, true, true, true, false, true, false, true, true, false, false, false, true, true, true, true, true, true, false, false, false, true, false, true, true, true, true, false, true, true, false, true, true, true, false, false, false, false, true, false, true, false, true, false, true, true, true, true, false, false, false, true, true, false, false, false, false, true, true, true, false, true, false, false, false, false, false, true, false, false, false, false, false, true, false, false, true, false, false, true, false, false, true, false, false, false, true, false, false, true, true, false, true, false, false, false, false, true, false, true, false, false, true, true, true, false, true, false, true, true, true, true, true, false, true, true, false, true, false, false, false, true, true, true, true, true, false, true, false, true, true, true, true, false, false, false, false, true, false, false, false, true, false, false, true, true, true, true, false, false, true, false, true, true, true, false, true, false, true, false, false, false, true, true, true, true, false, true, true, false, false, false, true, false, false, true, true, false, false, false, true, true, false, false, false, false, true, true, false, false, false, false, false, false, false, false, false, true, true, true, true, false, false, false, true, false, false, true, true, true, true, true, false, false, true, true]
theorem ex_A : encP (Pt.mul aE.toNat Pt.base) = AE := by
  have h := base_mul aBits aE.toNat 38815646466658113194383306759739515082307681141926459231621296960732224964046 11903303657706407974989296177215005343713679411332034699907763981919547054807 (by decide +kernel) (by decide +kernel)
  rw [encP_of h.1 h.2 (by decide +kernel) (by decide +kernel)]
  decide +kernel
theorem ex_R : encP (Pt.mul rE.toNat Pt.base) = RE := by
  have h := base_mul rBits rE.toNat 44370630452101398467924320556439323233869374150616132215183787387252341590058 38448863731492799660668882834560725606410712239157980760146247592118262650597 (by decide +kernel) (by decide +kernel)
  rw [encP_of h.1 h.2 (by decide +kernel) (by decide +kernel)]
  decide +kernel
theorem ex_pub : pubN D0 = AE := by
  unfold pubN seedN
  rw [ex_a, ex_A]
theorem ex_fir (m : Nat → BitVec 8) : firN D0 m 0 = RE := by
  unfold firN
  rw [ex_r, ex_R]
theorem ex_cat3 (m : Nat → BitVec 8) (l : List Nat) (hl : (List.range 64).all (fun i => (if i < 32 then bv (RE / 256 ^ i % 256) else bv (AE / 256 ^ (i - 32) % 256)) == Sha.litM l i) = true) (i : Nat) (hi : i < 64) : cat3 (fun j => RE / 256 ^ j % 256) (fun j => AE / 256 ^ j % 256) m i = Sha.litM l i := by
  rw [← eq_of_beq (Sha.all_of hl i hi)]
  unfold cat3
  by_cases h : i < 32
  · rw [if_pos h, if_pos h]
  · rw [if_neg h, if_neg h, if_pos hi]
theorem ex_k (m : Nat → BitVec 8) : kN RE AE m 0 = kE := by
  unfold kN
  rw [Sha.digest_congr (m' := Sha.litM Sha.e3M) (fun i hi => ex_cat3 m _ (by decide +kernel) i (by omega)), hnumL (l := Sha.e3D) Sha.e3_dig]
  decide +kernel
theorem ex_k2 (m : Nat → BitVec 8) (hm : m 0 = 1#8) : kN RE AE m 1 = k2E := by
  unfold kN
  rw [Sha.digest_congr (m' := Sha.litM Sha.e4M) (fun i hi => by
    by_cases h : i < 64
    · exact ex_cat3 m _ (by decide +kernel) i h
    · obtain rfl : i = 64 := by omega
      unfold cat3
      rw [if_neg (by decide), if_neg (by decide), hm]
      decide +kernel), hnumL (l := Sha.e4D) Sha.e4_dig]
  decide +kernel
end Go.Proofs.YtionjibiemncbaaGreat
namespace Go.Proofs.YtionjibiemncbaaGreat
open Go.RowKit
def Holds (n R S : Int) (m : Nat → BitVec 8) (len : Nat) : Prop := ∃ pk pr : Pt, decK n = some (pk.x, pk.y) ∧ decK R = some (pr.x, pr.y) ∧ S < LL ∧ (Pt.mul S.toNat Pt.base).add (Pt.mul (kN R n m len).toNat pk.neg) = pr
theorem some_pt {a b c d : K} (h : some (a, b) = some (c, d)) : a = c ∧ b = d := by cases h; exact ⟨rfl, rfl⟩
theorem g_verify {n R S : Int} (n0 : 0 ≤ n) (n1 : n < T256) (r0 : 0 ≤ R) (r1 : R < T256) (s0 : 0 ≤ S) (s1 : S < T256) (am : Option Addr) (len capm : Nat) (m : Nat → BitVec 8) (w : World) (hm : Sha.Bytes w am len capm m) :
    Calls Tryz.prog 28 #[keyV n, .slice am len capm, sigV R S] w fun e w' => ∃ b : Bool, e = .returned (.bool b) ∧ (b = true ↔ Holds n R S m len) ∧ Below w.heap.size w w' := by
  have no : ∀ {e : Ending} {w' : World}, ¬ Holds n R S m len → (e = .returned (.bool false) ∧ Below w.heap.size w w') → ∃ b : Bool, e = .returned (.bool b) ∧ (b = true ↔ Holds n R S m len) ∧ Below w.heap.size w w' :=
    fun hn h => ⟨false, h.1, ⟨fun e => (by cases e), fun e => absurd e hn⟩, h.2⟩
  cases hk : decK n with
  | none => exact (ver_1 n0 n1 r0 r1 s0 s1 am len capm m hk w hm).mono fun e w' h => no (fun ⟨pk, pr, h, _⟩ => by rw [hk] at h; cases h) h
  | some ab =>
    obtain ⟨a, b⟩ := ab
    obtain ⟨pk, rfl, rfl, _⟩ := decK_some n0 n1 hk
    cases hr : decK R with
    | none => exact (ver_2 n0 n1 r0 r1 s0 s1 am len capm m hk false (fun _ => rfl) (fun _ => rfl) (fun pr h => absurd (hr.symm.trans h) (by simp)) w hm).mono fun e w' h => no (fun ⟨pk, pr, _, h, _⟩ => by rw [hr] at h; cases h) h
    | some cd =>
      obtain ⟨c, d⟩ := cd
      obtain ⟨pr, rfl, rfl, _⟩ := decK_some r0 r1 hr
      by_cases hS : S < LL
      · refine (ver_2 n0 n1 r0 r1 s0 s1 am len capm m hk (decide (((Pt.mul S.toNat Pt.base).add (Pt.mul (kN R n m len).toNat pk.neg)).x = pr.x) && decide (((Pt.mul S.toNat Pt.base).add (Pt.mul (kN R n m len).toNat pk.neg)).y = pr.y)) (fun h => absurd (hr.symm.trans h) (by simp)) (fun h => absurd hS (Int.not_lt.2 h)) (fun q h _ => by rw [Pt.same (some_pt (hr.symm.trans h)).1 (some_pt (hr.symm.trans h)).2]) w hm).mono ?_
        rintro e w' ⟨rfl, hb⟩
        refine ⟨_, rfl, ?_, hb⟩
        rw [Bool.and_eq_true, decide_eq_true_eq, decide_eq_true_eq]
        constructor
        · rintro ⟨h1, h2⟩
          exact ⟨pk, pr, hk, hr, hS, Pt.same h1 h2⟩
        · rintro ⟨p, q, h1, h2, _, h3⟩
          rw [hk] at h1
          rw [hr] at h2
          obtain ⟨e1, e2⟩ := some_pt h1
          obtain ⟨e3, e4⟩ := some_pt h2
          rw [← Pt.same e1 e2, ← Pt.same e3 e4] at h3
          rw [h3]; exact ⟨rfl, rfl⟩
      · exact (ver_2 n0 n1 r0 r1 s0 s1 am len capm m hk false (fun _ => rfl) (fun _ => rfl) (fun _ _ h => absurd h hS) w hm).mono fun e w' h => no (fun ⟨_, _, _, _, h, _⟩ => hS h) h
theorem neg_zero' : Pt.zero.neg = Pt.zero := by
  have := add_neg Pt.zero
  rw [zero_add] at this
  exact this
theorem neg_of {p q : Pt} (h : p.add q = Pt.zero) : q = p.neg := by
  have : p.neg.add (p.add q) = p.neg.add Pt.zero := by rw [h]
  rw [← add_assoc, add_comm p.neg p, add_neg, zero_add, add_zero] at this
  exact this
theorem neg_sum (p q : Pt) : (p.add q).neg = p.neg.add q.neg := by
  refine (neg_of ?_).symm
  rw [add_swap, add_neg, add_neg, add_zero]
theorem mul_neg (k : Nat) (p : Pt) : Pt.mul k p.neg = (Pt.mul k p).neg := by
  induction k with
  | zero => rw [mul_nought, mul_nought, neg_zero']
  | succ k ih => rw [mul_next, mul_next, ih, neg_sum]
theorem away_back (x y : Pt) : (x.add y).add y.neg = x := by rw [add_assoc, add_neg, add_zero]
theorem add_cancel {x y z : Pt} (h : x.add z = y.add z) : x = y := by
  have := congrArg (fun t => t.add z.neg) h
  simp only [away_back] at this
  exact this
theorem LL_nat : LL = (LN : Int) := by decide
theorem holds_iff (a r : Nat) (S : Int) (s0 : 0 ≤ S) (m : Nat → BitVec 8) (len : Nat) : Holds (encP (Pt.mul a Pt.base)) (encP (Pt.mul r Pt.base)) S m len ↔ S < LL ∧ Pt.mul S.toNat Pt.base = Pt.mul (r + (kN (encP (Pt.mul r Pt.base)) (encP (Pt.mul a Pt.base)) m len).toNat * a) Pt.base := by
  constructor
  · rintro ⟨pk, pr, h1, h2, h3, h4⟩
    rw [decK_enc] at h1 h2
    obtain ⟨e1, e2⟩ := some_pt h1
    obtain ⟨e3, e4⟩ := some_pt h2
    rw [← Pt.same e1 e2, ← Pt.same e3 e4, mul_neg] at h4
    refine ⟨h3, ?_⟩
    rw [mul_add, mul_mul]
    refine add_cancel (z := (Pt.mul (kN (encP (Pt.mul r Pt.base)) (encP (Pt.mul a Pt.base)) m len).toNat (Pt.mul a Pt.base)).neg) ?_
    rw [away_back]
    exact h4
  · rintro ⟨h3, h4⟩
    refine ⟨_, _, decK_enc _, decK_enc _, h3, ?_⟩
    rw [h4, mul_neg, mul_add, mul_mul, away_back]
theorem modL_bd (x : Int) : 0 ≤ x % LL ∧ x % LL < LL := ⟨Int.emod_nonneg _ (by decide), Int.emod_lt_of_pos _ (by decide)⟩
theorem second_mul (D : Nat → BitVec 8) (m : Nat → BitVec 8) (len : Nat) : Pt.mul (secondN D m len).toNat Pt.base = Pt.mul ((rN D m len).toNat + (kkN D m len).toNat * seedN D) Pt.base := by
  have hr : 0 ≤ rN D m len := (modL_bd _).1
  have hk : 0 ≤ kkN D m len := (modL_bd _).1
  have ha : 0 ≤ secN D % LL := (modL_bd _).1
  unfold secondN seedN
  obtain ⟨r, hr'⟩ := Int.eq_ofNat_of_zero_le hr
  obtain ⟨k, hk'⟩ := Int.eq_ofNat_of_zero_le hk
  obtain ⟨a, ha'⟩ := Int.eq_ofNat_of_zero_le ha
  rw [hr', hk', ha', LL_nat, ← Int.natCast_mul, ← Int.natCast_emod, ← Int.natCast_add, ← Int.natCast_emod, Int.toNat_natCast, Int.toNat_natCast, Int.toNat_natCast, Int.toNat_natCast, mul_modL, mul_add, mul_modL, ← mul_add]
theorem second_bd (D : Nat → BitVec 8) (m : Nat → BitVec 8) (len : Nat) : 0 ≤ secondN D m len ∧ secondN D m len < LL := modL_bd _
theorem signed_holds (D : Nat → BitVec 8) (m : Nat → BitVec 8) (len : Nat) : Holds (pubN D) (firN D m len) (secondN D m len) m len :=
  (holds_iff (seedN D) (rN D m len).toNat (secondN D m len) (second_bd D m len).1 m len).2 ⟨(second_bd D m len).2, second_mul D m len⟩
end Go.Proofs.YtionjibiemncbaaGreat
namespace Go.Proofs.YtionjibiemncbaaGreat
open Go.RowKit
set_option maxRecDepth 100000
theorem seed_lit : (#[.int .u8 157, .int .u8 97, .int .u8 177, .int .u8 157, .int .u8 239, .int .u8 253, .int .u8 90, .int .u8 96, .int .u8 186, .int .u8 132, .int .u8 74, .int .u8 244, .int .u8 146, .int .u8 236, .int .u8 44, .int .u8 196, .int .u8 68, .int .u8 73, .int .u8 197, .int .u8 105, .int .u8 123, .int .u8 50, .int .u8 105, .int .u8 25, .int .u8 112, .int .u8 59, .int .u8 172, .int .u8 3, .int .u8 28, .int .u8 174, .int .u8 127, .int .u8 96] : Array Value) = vec 32 (Sha.byt (Sha.litM Sha.e1M)) := by kernel_rfl
theorem seed_any (w : World) : Calls Tryz.prog 57 #[] w fun e w' => ∃ z, e = .returned (.slice (some ⟨z, 0, none⟩) 32 32) ∧ Sha.Bytes w' (some ⟨z, 0, none⟩) 32 32 (Sha.litM Sha.e1M) ∧ Below w.heap.size w w' := by
  go_enter Tryz.func57, Tryz.ntmps57
  go_wp2
  rw [seed_lit]
  have hr : (w.alloc (.cells (vec 32 (Sha.byt (Sha.litM Sha.e1M))) 5)).rowIs w.heap.size 5 32 (Sha.byt (Sha.litM Sha.e1M)) := heap_row (heap_alloc_new _ _)
  go_ret
  exact ⟨w.heap.size, rfl, ⟨w.heap.size, 0, fun _ => rfl, fun j hj => by rw [Nat.zero_add]; exact hr.cell hj, by decide, by decide, by decide⟩, by go_grown⟩
theorem bytes_nil (w : World) (m : Nat → BitVec 8) : Sha.Bytes w none 0 0 m := ⟨0, 0, fun h => absurd h (by decide), fun j hj => absurd hj (by omega), by decide, by decide, by decide⟩
theorem bytes_one (w : World) (z : Nat) (h : w.heap[z]? = some (.cells #[.int .u8 1] 5 (0, 0))) : Sha.Bytes w (some ⟨z, 0, none⟩) 1 1 (fun _ => 1#8) :=
  ⟨z, 0, fun _ => rfl, fun j hj => by
    obtain rfl : j = 0 := by omega
    rw [cell_of_row _ _ 0 _ _ _ h]; rfl, by decide, by decide, by decide⟩
def SE : Int := secondN D0 (fun _ => 0#8) 0
theorem ex_public (ao : Option Addr) (cap : Nat) (w : World) (hb : Sha.Bytes w ao 32 cap (Sha.litM Sha.e1M)) : Calls Tryz.prog 24 #[.slice ao 32 cap] w fun e w' => e = .returned (.tuple #[keyV AE, .int .i64 0]) ∧ Below w.heap.size w w' := by
  have h := g_public ao cap _ D0 (by unfold D0; rfl) w hb
  rw [ex_pub] at h
  exact h
theorem ex_sign (ao : Option Addr) (cap : Nat) (w : World) (hb : Sha.Bytes w ao 32 cap (Sha.litM Sha.e1M)) : Calls Tryz.prog 26 #[.slice ao 32 cap, .slice none 0 0] w fun e w' => e = .returned (.tuple #[sigV RE SE, .int .i64 0]) ∧ Below w.heap.size w w' := by
  have h := g_sign ao none cap 0 0 _ (fun _ => 0#8) D0 (by unfold D0; rfl) w hb (bytes_nil w _)
  rw [ex_fir] at h
  exact h
theorem SE_bd : 0 ≤ SE ∧ SE < T256 := ⟨(second_bd _ _ _).1, Int.lt_trans (second_bd _ _ _).2 (by decide)⟩
theorem SE_holds : Holds AE RE SE (fun _ => 0#8) 0 := by
  have h := signed_holds D0 (fun _ => 0#8) 0
  rw [ex_pub, ex_fir] at h
  exact h
theorem SE_not : ¬ Holds AE RE SE (fun _ => 1#8) 1 := by
  intro h
  have e1 : AE = encP (Pt.mul aE.toNat Pt.base) := ex_A.symm
  have e2 : RE = encP (Pt.mul rE.toNat Pt.base) := ex_R.symm
  have h1 := SE_holds
  rw [e1, e2] at h h1
  have i1 := (holds_iff _ _ SE SE_bd.1 _ _).1 h1
  have i2 := (holds_iff _ _ SE SE_bd.1 _ _).1 h
  rw [ex_A, ex_R] at i1 i2
  rw [ex_k] at i1
  rw [ex_k2 _ rfl] at i2
  have e := i1.2.symm.trans i2.2
  rw [mul_add, mul_add, add_comm, add_comm (Pt.mul rE.toNat Pt.base)] at e
  have e3 := add_cancel e
  have key : (kE.toNat * aE.toNat) % LN = (k2E.toNat * aE.toNat) % LN := base_inj (Nat.mod_lt _ (by decide)) (Nat.mod_lt _ (by decide)) (by rw [mul_modL, mul_modL]; exact e3)
  revert key
  decide +kernel
set_option maxHeartbeats 4000000 in
theorem alive_any (w : World) : Calls Tryz.prog 19 #[] w fun e w' => e = .returned (.bool true) ∧ Below w.heap.size w w' := by
  have hk0 : kb AE 0 = .int .u8 215 := by unfold kb; congr 1
  have hk1 : kb AE 1 = .int .u8 90 := by unfold kb; congr 1
  have hk31 : kb AE 31 = .int .u8 26 := by unfold kb; congr 1
  have hs0 : bI (sgB RE SE) 0 = .int .u8 229 := by unfold bI sgB; rw [if_pos (by decide)]; congr 1
  have hs1 : bI (sgB RE SE) 1 = .int .u8 86 := by unfold bI sgB; rw [if_pos (by decide)]; congr 1
  have HB : Hid ((0 ≤ AE ∧ AE < T256) ∧ (0 ≤ RE ∧ RE < T256) ∧ (0 ≤ SE ∧ SE < T256)) := ⟨by decide, by decide, SE_bd⟩
  have HH1 : Hid (Holds AE RE SE (fun _ => 0#8) 0) := SE_holds
  have HH2 : Hid (¬ Holds AE RE SE (fun _ => 1#8) 1) := SE_not
  have HP : Hid (∀ (ao : Option Addr) (cap : Nat) (w : World), Sha.Bytes w ao 32 cap (Sha.litM Sha.e1M) → Calls Tryz.prog 24 #[.slice ao 32 cap] w fun e w' => e = .returned (.tuple #[keyV AE, .int .i64 0]) ∧ Below w.heap.size w w') := ex_public
  have HS : Hid (∀ (ao : Option Addr) (cap : Nat) (w : World), Sha.Bytes w ao 32 cap (Sha.litM Sha.e1M) → Calls Tryz.prog 26 #[.slice ao 32 cap, .slice none 0 0] w fun e w' => e = .returned (.tuple #[sigV RE SE, .int .i64 0]) ∧ Below w.heap.size w w') := ex_sign
  generalize AE = A at *
  generalize RE = R at *
  generalize SE = S at *
  go_enter Tryz.func19, Tryz.ntmps19
  go_wp2_with fail
  refine Calls.mono (seed_any _) ?_
  rintro e w1 ⟨z1, rfl, hb1, b1⟩
  go_wp2_with fail
  refine Calls.mono (HP.out _ _ _ hb1) ?_
  rintro e w2 ⟨rfl, b2⟩
  have hB2 : Hid (Below w.heap.size w w2) := b1.trans (b2.mono b1.size)
  clear b1 b2 hb1 HP
  have hz := (zero_of_info zero41).1
  unfold keyV
  go_wp2_with (refine wpList_store_row rfl 41 _ _ rfl w2.heap.size (vec 32 (kb A)) rfl rfl 41 _ (heap_alloc_new _ _) (info41v _) (by simp) (one_kb _ _) ?_; rw [World.setRow_alloc_new])
  clear hz
  have V3 : Hid (VarR (w2.alloc (.cells (vec 32 (kb A)) 41)) w2.heap.size 41 32 (kb A) ∧ Below w.heap.size w (w2.alloc (.cells (vec 32 (kb A)) 41))) := ⟨VarR.new _ _ _ _, hB2.out.alloc hB2.out.size _⟩
  clear hB2
  generalize w2.alloc (.cells (vec 32 (kb A)) 41) = w3 at V3 ⊢
  generalize w2.heap.size = zk at V3 ⊢
  refine Calls.mono (seed_any _) ?_
  rintro e w4 ⟨z4, rfl, hb4, b4⟩
  have V4 : Hid (VarR w4 zk 41 32 (kb A) ∧ Below w.heap.size w w4) := ⟨V3.out.1.kept b4, V3.out.2.trans (b4.mono V3.out.2.size)⟩
  clear V3 b4
  go_wp2_with fail
  refine Calls.mono (HS.out _ _ _ hb4) ?_
  rintro e w5 ⟨rfl, b5⟩
  have V5 : Hid (VarR w5 zk 41 32 (kb A) ∧ Below w.heap.size w w5) := ⟨V4.out.1.kept b5, V4.out.2.trans (b5.mono V4.out.2.size)⟩
  clear V4 b5 hb4 HS
  have hz := (zero_of_info zero54).1
  unfold sigV
  obtain ⟨w6, hw6⟩ : ∃ w6, w6 = w5.alloc (.cells (vec 64 (bI (sgB R S))) 54) := ⟨_, rfl⟩
  have HW6 : Hid (w6 = w5.alloc (.cells (vec 64 (bI (sgB R S))) 54)) := hw6
  have V6 : Hid (VarR w6 zk 41 32 (kb A) ∧ VarR w6 w5.heap.size 54 64 (bI (sgB R S)) ∧ Below w.heap.size w w6) := by
    rw [hw6]; exact ⟨V5.out.1.old _, VarR.new _ _ _ _, V5.out.2.alloc V5.out.2.size _⟩
  clear hw6 V5
  have c0 : w6.cell? ⟨zk, 0, none⟩ = some (.int .u8 215) := (V6.out.1.row.cell (i := 0) (by decide)).trans (by rw [hk0])
  have c1 : w6.cell? ⟨zk, 1, none⟩ = some (.int .u8 90) := (V6.out.1.row.cell (i := 1) (by decide)).trans (by rw [hk1])
  have c31 : w6.cell? ⟨zk, 31, none⟩ = some (.int .u8 26) := (V6.out.1.row.cell (i := 31) (by decide)).trans (by rw [hk31])
  have d0 : w6.cell? ⟨w5.heap.size, 0, none⟩ = some (.int .u8 229) := (V6.out.2.1.row.cell (i := 0) (by decide)).trans (by rw [hs0])
  have d1 : w6.cell? ⟨w5.heap.size, 1, none⟩ = some (.int .u8 86) := (V6.out.2.1.row.cell (i := 1) (by decide)).trans (by rw [hs1])
  clear hk0 hk1 hk31 hs0 hs1
  have l41 : ∀ {w : World}, VarR w zk 41 32 (kb A) → (loadVar 41 ⟨zk, 0, none⟩).run Tryz.prog w = .ok (.agg (vec 32 (kb A))) w := fun h => run_loadVar_row _ _ 41 41 _ (0, 0) _ (row_heap h.row) Tryz.underlying41 rfl (info41v _)
  have l54 : ∀ {w : World}, VarR w w5.heap.size 54 64 (bI (sgB R S)) → (loadVar 54 ⟨w5.heap.size, 0, none⟩).run Tryz.prog w = .ok (.agg (vec 64 (bI (sgB R S)))) w := fun h => run_loadVar_row _ _ 54 54 _ (0, 0) _ (row_heap h.row) Tryz.underlying54 rfl (info54v _)
  have L41 : Hid (∀ {w : World}, VarR w zk 41 32 (kb A) → (loadVar 41 ⟨zk, 0, none⟩).run Tryz.prog w = .ok (.agg (vec 32 (kb A))) w) := l41
  have L54 : Hid (∀ {w : World}, VarR w w5.heap.size 54 64 (bI (sgB R S)) → (loadVar 54 ⟨w5.heap.size, 0, none⟩).run Tryz.prog w = .ok (.agg (vec 64 (bI (sgB R S)))) w) := l54
  clear l41 l54
  go_wp2_with (first | (refine wpList_store_row rfl 54 _ _ rfl w5.heap.size (vec 64 (bI (sgB R S))) rfl rfl 54 _ (heap_alloc_new _ _) (info54v _) (by simp) (one_bI _ _) ?_; rw [World.setRow_alloc_new, ← HW6.out]) | (refine wpList_load_want (by rfl) 41 _ rfl _ rfl (L41.out V6.out.1) ?_) | (refine wpList_load_want (by rfl) 54 _ rfl _ rfl (L54.out V6.out.2.1) ?_))
  clear hz HW6 c0 c1 c31 d0 d1
  have hv1 := g_verify HB.out.1.1 HB.out.1.2 HB.out.2.1.1 HB.out.2.1.2 HB.out.2.2.1 HB.out.2.2.2 none 0 0 (fun _ => 0#8) w6 (bytes_nil w6 _)
  unfold keyV sigV at hv1
  refine Calls.mono hv1 ?_
  clear hv1
  rintro e w7 ⟨bb, rfl, hbb, b7⟩
  obtain rfl : bb = true := hbb.2 HH1.out
  clear hbb HH1
  have V7 : Hid (VarR w7 zk 41 32 (kb A) ∧ VarR w7 w5.heap.size 54 64 (bI (sgB R S)) ∧ Below w.heap.size w w7) := ⟨V6.out.1.kept b7, V6.out.2.1.kept b7, V6.out.2.2.trans (b7.mono V6.out.2.2.size)⟩
  clear V6 b7
  have V8 : Hid (VarR (w7.alloc (.cells #[.int .u8 1] 5)) zk 41 32 (kb A) ∧ VarR (w7.alloc (.cells #[.int .u8 1] 5)) w5.heap.size 54 64 (bI (sgB R S)) ∧ Below w.heap.size w (w7.alloc (.cells #[.int .u8 1] 5)) ∧ Sha.Bytes (w7.alloc (.cells #[.int .u8 1] 5)) (some ⟨w7.heap.size, 0, none⟩) 1 1 (fun _ => 1#8)) := ⟨V7.out.1.old _, V7.out.2.1.old _, V7.out.2.2.alloc V7.out.2.2.size _, bytes_one _ _ (heap_alloc_new _ _)⟩
  go_wp2_with (first | (refine wpList_load_want (by rfl) 41 _ rfl _ rfl (L41.out V7.out.1) ?_) | (refine wpList_load_want (by rfl) 54 _ rfl _ rfl (L54.out V8.out.2.1) ?_))
  generalize w7.alloc (.cells #[.int .u8 1] 5) = w8 at V8 ⊢
  generalize w7.heap.size = z7 at V8 ⊢
  have hv2 := g_verify HB.out.1.1 HB.out.1.2 HB.out.2.1.1 HB.out.2.1.2 HB.out.2.2.1 HB.out.2.2.2 (some ⟨z7, 0, none⟩) 1 1 (fun _ => 1#8) w8 V8.out.2.2.2
  unfold keyV sigV at hv2
  refine Calls.mono hv2 ?_
  clear hv2
  rintro e w9 ⟨bb, rfl, hbb, b9⟩
  obtain rfl : bb = false := Bool.eq_false_iff.2 (fun h => HH2.out (hbb.1 h))
  clear hbb HH2
  have hB9 : Hid (Below w.heap.size w w9) := V8.out.2.2.1.trans (b9.mono V8.out.2.2.1.size)
  clear V7 V8 b9 L41 L54
  go_wp2_with fail
  refine Calls.mono (g_baseX _) ?_
  rintro e w10 ⟨rfl, b10⟩
  go_wp2_with fail
  refine Calls.mono (g_on isF_BX isF_BY _) ?_
  rintro e w11 ⟨rfl, b11⟩
  rw [show ptOf ((toF BX).val : Int) ((toF BY).val : Int) = some Pt.base from ptOf_pt Pt.base]
  have hB11 : Hid (Below w.heap.size w w11) := (hB9.out.trans (b10.mono hB9.out.size)).trans (b11.mono (hB9.out.trans (b10.mono hB9.out.size)).size)
  clear hB9 b10 b11
  go_wp2
  go_ret
  exact ⟨rfl, hB11.out⟩
end Go.Proofs.YtionjibiemncbaaGreat
