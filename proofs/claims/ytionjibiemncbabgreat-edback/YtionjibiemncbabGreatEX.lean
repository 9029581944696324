/- The order of the base is a prime number; multiples of a point, reckoned. -/
import Derived.Test.YtionjibiemncbabGreatGED
import Derived.Test.YtionjibiemncbabGreatGEQ0
set_option linter.unusedSimpArgs false
set_option linter.unusedVariables false
namespace Go.Proofs.YtionjibiemncbabGreat
theorem pr_11 : Pri 11 := pri_small 11 2 (by decide) (by decide) (by decide +kernel)
theorem pr_23 : Pri 23 := pri_small 23 3 (by decide) (by decide) (by decide +kernel)
theorem pr_409477 : Pri 409477 := pri_small 409477 638 (by decide) (by decide) (by decide +kernel)
theorem pl_14741173 : ∀ q ∈ [2, 2, 3, 3, 409477], Pri q := by
  intro q hq
  simp only [List.mem_cons, List.not_mem_nil, or_false] at hq
  rcases hq with rfl | rfl | rfl | rfl | rfl
  · exact pr_2
  · exact pr_2
  · exact pr_3
  · exact pr_3
  · exact pr_409477
theorem pr_14741173 : Pri 14741173 := lucasB_pri (f := 25) (g := 2) (by decide) pl_14741173 (by decide +kernel)
theorem pl_58964693 : ∀ q ∈ [2, 2, 14741173], Pri q := by
  intro q hq
  simp only [List.mem_cons, List.not_mem_nil, or_false] at hq
  rcases hq with rfl | rfl | rfl
  · exact pr_2
  · exact pr_2
  · exact pr_14741173
theorem pr_58964693 : Pri 58964693 := lucasB_pri (f := 27) (g := 2) (by decide) pl_58964693 (by decide +kernel)
theorem pr_30703 : Pri 30703 := pri_small 30703 174 (by decide) (by decide) (by decide +kernel)
theorem pr_82163 : Pri 82163 := pri_small 82163 285 (by decide) (by decide) (by decide +kernel)
theorem pr_132667 : Pri 132667 := pri_small 132667 363 (by decide) (by decide) (by decide +kernel)
theorem pr_137849 : Pri 137849 := pri_small 137849 370 (by decide) (by decide) (by decide +kernel)
theorem pl_3044861653679985063343 : ∀ q ∈ [2, 3, 11, 30703, 82163, 132667, 137849], Pri q := by
  intro q hq
  simp only [List.mem_cons, List.not_mem_nil, or_false] at hq
  rcases hq with rfl | rfl | rfl | rfl | rfl | rfl | rfl
  · exact pr_2
  · exact pr_3
  · exact pr_11
  · exact pr_30703
  · exact pr_82163
  · exact pr_132667
  · exact pr_137849
theorem pr_3044861653679985063343 : Pri 3044861653679985063343 := lucasB_pri (f := 73) (g := 5) (by decide) pl_3044861653679985063343 (by decide +kernel)
theorem pl_198211423230930754013084525763697 : ∀ q ∈ [2, 2, 2, 2, 3, 23, 58964693, 3044861653679985063343], Pri q := by
  intro q hq
  simp only [List.mem_cons, List.not_mem_nil, or_false] at hq
  rcases hq with rfl | rfl | rfl | rfl | rfl | rfl | rfl | rfl
  · exact pr_2
  · exact pr_2
  · exact pr_2
  · exact pr_2
  · exact pr_3
  · exact pr_23
  · exact pr_58964693
  · exact pr_3044861653679985063343
theorem pr_198211423230930754013084525763697 : Pri 198211423230930754013084525763697 := lucasB_pri (f := 109) (g := 5) (by decide) pl_198211423230930754013084525763697 (by decide +kernel)
theorem pr_269 : Pri 269 := pri_small 269 15 (by decide) (by decide) (by decide +kernel)
theorem pr_73 : Pri 73 := pri_small 73 7 (by decide) (by decide) (by decide +kernel)
theorem pr_307 : Pri 307 := pri_small 307 16 (by decide) (by decide) (by decide +kernel)
theorem pr_5879 : Pri 5879 := pri_small 5879 75 (by decide) (by decide) (by decide +kernel)
theorem pl_292386187 : ∀ q ∈ [2, 3, 3, 3, 3, 307, 5879], Pri q := by
  intro q hq
  simp only [List.mem_cons, List.not_mem_nil, or_false] at hq
  rcases hq with rfl | rfl | rfl | rfl | rfl | rfl | rfl
  · exact pr_2
  · exact pr_3
  · exact pr_3
  · exact pr_3
  · exact pr_3
  · exact pr_307
  · exact pr_5879
theorem pr_292386187 : Pri 292386187 := lucasB_pri (f := 30) (g := 2) (by decide) pl_292386187 (by decide +kernel)
theorem pl_213441916511 : ∀ q ∈ [2, 5, 73, 292386187], Pri q := by
  intro q hq
  simp only [List.mem_cons, List.not_mem_nil, or_false] at hq
  rcases hq with rfl | rfl | rfl | rfl
  · exact pr_2
  · exact pr_5
  · exact pr_73
  · exact pr_292386187
theorem pr_213441916511 : Pri 213441916511 := lucasB_pri (f := 39) (g := 13) (by decide) pl_213441916511 (by decide +kernel)
theorem pr_1361 : Pri 1361 := pri_small 1361 35 (by decide) (by decide) (by decide +kernel)
theorem pr_2851 : Pri 2851 := pri_small 2851 52 (by decide) (by decide) (by decide +kernel)
theorem pr_41 : Pri 41 := pri_small 41 5 (by decide) (by decide) (by decide +kernel)
theorem pr_531581 : Pri 531581 := pri_small 531581 728 (by decide) (by decide) (by decide +kernel)
theorem pr_1224481 : Pri 1224481 := pri_small 1224481 1105 (by decide) (by decide) (by decide +kernel)
theorem pl_1257559732178653 : ∀ q ∈ [2, 2, 3, 7, 23, 531581, 1224481], Pri q := by
  intro q hq
  simp only [List.mem_cons, List.not_mem_nil, or_false] at hq
  rcases hq with rfl | rfl | rfl | rfl | rfl | rfl | rfl
  · exact pr_2
  · exact pr_2
  · exact pr_3
  · exact pr_7
  · exact pr_23
  · exact pr_531581
  · exact pr_1224481
theorem pr_1257559732178653 : Pri 1257559732178653 := lucasB_pri (f := 52) (g := 2) (by decide) pl_1257559732178653 (by decide +kernel)
theorem pl_4434155615661930479 : ∀ q ∈ [2, 41, 43, 1257559732178653], Pri q := by
  intro q hq
  simp only [List.mem_cons, List.not_mem_nil, or_false] at hq
  rcases hq with rfl | rfl | rfl | rfl
  · exact pr_2
  · exact pr_41
  · exact pr_43
  · exact pr_1257559732178653
theorem pr_4434155615661930479 : Pri 4434155615661930479 := lucasB_pri (f := 63) (g := 17) (by decide) pl_4434155615661930479 (by decide +kernel)
theorem pl_172054593956031949258510691 : ∀ q ∈ [2, 5, 1361, 2851, 4434155615661930479], Pri q := by
  intro q hq
  simp only [List.mem_cons, List.not_mem_nil, or_false] at hq
  rcases hq with rfl | rfl | rfl | rfl | rfl
  · exact pr_2
  · exact pr_5
  · exact pr_1361
  · exact pr_2851
  · exact pr_4434155615661930479
theorem pr_172054593956031949258510691 : Pri 172054593956031949258510691 := lucasB_pri (f := 89) (g := 2) (by decide) pl_172054593956031949258510691 (by decide +kernel)
theorem pl_19757330305831588566944191468367130476339 : ∀ q ∈ [2, 269, 213441916511, 172054593956031949258510691], Pri q := by
  intro q hq
  simp only [List.mem_cons, List.not_mem_nil, or_false] at hq
  rcases hq with rfl | rfl | rfl | rfl
  · exact pr_2
  · exact pr_269
  · exact pr_213441916511
  · exact pr_172054593956031949258510691
theorem pr_19757330305831588566944191468367130476339 : Pri 19757330305831588566944191468367130476339 := lucasB_pri (f := 135) (g := 2) (by decide) pl_19757330305831588566944191468367130476339 (by decide +kernel)
theorem pl_276602624281642239937218680557139826668747 : ∀ q ∈ [2, 7, 19757330305831588566944191468367130476339], Pri q := by
  intro q hq
  simp only [List.mem_cons, List.not_mem_nil, or_false] at hq
  rcases hq with rfl | rfl | rfl
  · exact pr_2
  · exact pr_7
  · exact pr_19757330305831588566944191468367130476339
theorem pr_276602624281642239937218680557139826668747 : Pri 276602624281642239937218680557139826668747 := lucasB_pri (f := 139) (g := 2) (by decide) pl_276602624281642239937218680557139826668747 (by decide +kernel)
theorem pl_LN : ∀ q ∈ [2, 2, 3, 11, 198211423230930754013084525763697, 276602624281642239937218680557139826668747], Pri q := by
  intro q hq
  simp only [List.mem_cons, List.not_mem_nil, or_false] at hq
  rcases hq with rfl | rfl | rfl | rfl | rfl | rfl
  · exact pr_2
  · exact pr_2
  · exact pr_3
  · exact pr_11
  · exact pr_198211423230930754013084525763697
  · exact pr_276602624281642239937218680557139826668747
def LN : Nat := 7237005577332262213973186563042994240857116359379907606001950938285454250989
theorem LN_pri : Pri LN := lucasB_pri (f := 254) (g := 2) (l := [2, 2, 3, 11, 198211423230930754013084525763697, 276602624281642239937218680557139826668747]) (by decide) pl_LN (by decide +kernel)
def force {α : Type} (n : Nat) (f : Nat → α) : α := Nat.rec (f 0) (fun m _ => f (m + 1)) n
theorem force_eq {α : Type} (n : Nat) (f : Nat → α) : force n f = f n := by cases n <;> rfl
def nadd (a b : Nat) : Nat := (a + b) % PN
def nmul (a b : Nat) : Nat := a * b % PN
def nsub (a b : Nat) : Nat := (a + (PN - b % PN)) % PN
def toK (n : Nat) : K := toF (n : Int)
theorem toK_mod (n : Nat) : toK (n % PN) = toK n := by
  unfold toK
  rw [Int.natCast_emod, ← PP_nat, toF_mod]
theorem toK_add (a b : Nat) : toK (nadd a b) = toK a + toK b := by
  unfold nadd; rw [toK_mod]; unfold toK; rw [Int.natCast_add, toF_add]
theorem toK_mul (a b : Nat) : toK (nmul a b) = toK a * toK b := by
  unfold nmul; rw [toK_mod]; unfold toK; rw [Int.natCast_mul, toF_mul]
theorem toK_sub (a b : Nat) : toK (nsub a b) = toK a - toK b := by
  unfold nsub
  rw [toK_mod]
  have h : b % PN ≤ PN := Nat.le_of_lt (Nat.mod_lt _ (by decide))
  unfold toK
  rw [Int.natCast_add, Int.ofNat_sub h, Int.natCast_emod, ← PP_nat, toF_add, toF_sub, toF_mod, show toF PP = 0 from by rw [toF_nz]; decide]
  grind
def twN {α : Type} (x y z : Nat) (k : Nat → Nat → Nat → Nat → α) : α :=
  force (nmul x x) fun a => force (nmul y y) fun b => force (nmul z z) fun c => force (nadd x y) fun e => force (nadd b a) fun m => force (nsub b a) fun l => force (nsub (nmul e e) m) fun g => force (nsub (nadd c c) l) fun h =>
    force (nmul g h) fun X => force (nmul m l) fun Y => force (nmul l h) fun Z => force (nmul g m) fun T => k X Y Z T
def plN {α : Type} (x y z t pl pm pw : Nat) (k : Nat → Nat → Nat → Nat → α) : α :=
  force (nmul (nadd y x) pm) fun a => force (nmul (nsub y x) pl) fun b => force (nadd z z) fun c => force (nmul t pw) fun e => force (nsub a b) fun g => force (nadd a b) fun m => force (nsub c e) fun h => force (nadd c e) fun l =>
    force (nmul g h) fun X => force (nmul m l) fun Y => force (nmul l h) fun Z => force (nmul g m) fun T => k X Y Z T
theorem twN_rep {α : Type} {x y z t : Nat} {s : Pt} (h : RepP (toK x) (toK y) (toK z) (toK t) s) (k : Nat → Nat → Nat → Nat → α) : ∃ X Y Z T, twN x y z k = k X Y Z T ∧ RepP (toK X) (toK Y) (toK Z) (toK T) (s.add s) := by
  unfold twN
  simp only [force_eq]
  refine ⟨_, _, _, _, rfl, ?_⟩
  · simp only [toK_mul, toK_add, toK_sub]
    exact repP_twice h
theorem plN_rep {α : Type} {x y z t pl pm pw : Nat} {s p : Pt} (h : RepP (toK x) (toK y) (toK z) (toK t) s) (h0 : toK pl = p.y - p.x) (h1 : toK pm = p.y + p.x) (h2 : toK pw = (toF DD + toF DD) * (p.x * p.y)) (k : Nat → Nat → Nat → Nat → α) :
    ∃ X Y Z T, plN x y z t pl pm pw k = k X Y Z T ∧ RepP (toK X) (toK Y) (toK Z) (toK T) (s.add p) := by
  unfold plN
  simp only [force_eq]
  refine ⟨_, _, _, _, rfl, ?_⟩
  · simp only [toK_mul, toK_add, toK_sub, h0, h1, h2]
    exact repP_plus h
def bitsN : List Bool → Nat → Nat
  | [], n => n
  | b :: l, n => bitsN l (2 * n + b.toNat)
def runN (pl pm pw : Nat) (k : Nat → Nat → Nat → Nat → Bool) : List Bool → Nat → Nat → Nat → Nat → Bool
  | [], x, y, z, t => k x y z t
  | false :: l, x, y, z, t => twN x y z fun X Y Z T => runN pl pm pw k l X Y Z T
  | true :: l, x, y, z, t => twN x y z fun X Y Z T => plN X Y Z T pl pm pw fun X Y Z T => runN pl pm pw k l X Y Z T
theorem runN_rep {pl pm pw : Nat} {p : Pt} (h0 : toK pl = p.y - p.x) (h1 : toK pm = p.y + p.x) (h2 : toK pw = (toF DD + toF DD) * (p.x * p.y)) (k : Nat → Nat → Nat → Nat → Bool) :
    ∀ (l : List Bool) (n x y z t : Nat), RepP (toK x) (toK y) (toK z) (toK t) (Pt.mul n p) → ∃ X Y Z T, runN pl pm pw k l x y z t = k X Y Z T ∧ RepP (toK X) (toK Y) (toK Z) (toK T) (Pt.mul (bitsN l n) p)
  | [], n, x, y, z, t, h => ⟨x, y, z, t, rfl, h⟩
  | false :: l, n, x, y, z, t, h => by
    obtain ⟨X, Y, Z, T, e, hr⟩ := twN_rep h (fun X Y Z T => runN pl pm pw k l X Y Z T)
    rw [← mul_add, ← Nat.two_mul] at hr
    obtain ⟨X', Y', Z', T', e', hr'⟩ := runN_rep h0 h1 h2 k l (2 * n) X Y Z T hr
    exact ⟨X', Y', Z', T', by show twN x y z _ = _; rw [e, e'], hr'⟩
  | true :: l, n, x, y, z, t, h => by
    obtain ⟨X, Y, Z, T, e, hr⟩ := twN_rep h (fun X Y Z T => plN X Y Z T pl pm pw fun X Y Z T => runN pl pm pw k l X Y Z T)
    rw [← mul_add, ← Nat.two_mul] at hr
    obtain ⟨X1, Y1, Z1, T1, e1, hr1⟩ := plN_rep hr h0 h1 h2 (fun X Y Z T => runN pl pm pw k l X Y Z T)
    rw [← mul_next] at hr1
    obtain ⟨X', Y', Z', T', e', hr'⟩ := runN_rep h0 h1 h2 k l (2 * n + 1) X1 Y1 Z1 T1 hr1
    exact ⟨X', Y', Z', T', by show twN x y z _ = _; rw [e, e1, e'], hr'⟩
def isN (qx qy : Nat) (X Y Z T : Nat) : Bool := Nat.beq (nmul qx Z) (X % PN) && Nat.beq (nmul qy Z) (Y % PN)
theorem mul_of_run {px py pl pm pw : Nat} {p : Pt} (hx : p.x = toK px) (hy : p.y = toK py) (h0 : pl = nsub py px) (h1 : pm = nadd py px) (h2 : pw = nmul (nadd DD.toNat DD.toNat) (nmul px py)) (l : List Bool) (n qx qy : Nat) (hn : bitsN l 0 = n)
    (h : runN pl pm pw (isN qx qy) l 0 1 1 0 = true) : (Pt.mul n p).x = toK qx ∧ (Pt.mul n p).y = toK qy := by
  have z0 : toK 0 = 0 := toF_zero
  have z1 : toK 1 = 1 := toF_one
  have hD : toK DD.toNat = toF DD := by unfold toK; rw [Int.toNat_of_nonneg (by decide)]
  obtain ⟨X, Y, Z, T, e, hr⟩ := runN_rep (p := p) (pl := pl) (pm := pm) (pw := pw) (by rw [h0, toK_sub, hx, hy]) (by rw [h1, toK_add, hx, hy]) (by rw [h2, toK_mul, toK_mul, toK_add, hD, hx, hy]) (isN qx qy) l 0 0 1 1 0 (by
    rw [mul_nought, z0, z1]
    have := repP_spread Pt.zero
    have e0 : Pt.zero.x = 0 := rfl
    have e1 : Pt.zero.y = 1 := rfl
    rw [e0, e1] at this
    have e2 : (0 : K) * 1 = 0 := by grind
    rw [e2] at this
    exact this)
  rw [hn] at hr
  rw [e] at h
  unfold isN at h
  rw [Bool.and_eq_true, Nat.beq_eq, Nat.beq_eq] at h
  have ex : toK qx * toK Z = toK X := by rw [← toK_mul, ← toK_mod X, ← h.1]
  have ey : toK qy * toK Z = toK Y := by rw [← toK_mul, ← toK_mod Y, ← h.2]
  have hf := repP_flat hr
  have hz : toK Z ≠ 0 := hr.1
  have hi := invK_mul hz
  rw [← hf.1, ← hf.2, ← ex, ← ey]
  generalize invK (toK Z) = c at *
  generalize toK Z = z at *
  constructor <;> grind
def bx : Nat := 15112221349535400772501151409588531511454012693041857206046113283949847762202
def bY : Nat := 46316835694926478169428394003475163141307993866256225615783033603165251855960
theorem onB : OnC (toF DD) (toF BX) (toF BY) := by unfold OnC; decide +kernel
def Pt.base : Pt := ⟨toF BX, toF BY, onB⟩
theorem base_x : Pt.base.x = toK bx := by decide +kernel
theorem base_y : Pt.base.y = toK bY := by decide +kernel
def bpl : Nat := 31204614345391077396927242593886631629853981173214368409736920319215404093758
def bpm : Nat := 3533012425803781230144052908719740726127014226477800802100354883158534798213
def bpw : Nat := 50237614328228664512531835696112167678046477356841409204013502641986506238568
theorem base_mul (l : List Bool) (n qx qy : Nat) (hn : bitsN l 0 = n) (h : runN bpl bpm bpw (isN qx qy) l 0 1 1 0 = true) : (Pt.mul n Pt.base).x = toK qx ∧ (Pt.mul n Pt.base).y = toK qy :=
  mul_of_run base_x base_y (by decide +kernel) (by decide +kernel) (by decide +kernel) l n qx qy hn h
def Lbits : List Bool := [true, false, false, false, false, false, false, false, false, false, false, false, false, false, false, false, false, false, false, false, false, false, false, false, false, false, false, false, false, false, false, false, false, false, false, false, false, false, false, false, false, false, false, false, false, false, false, false, false, false, false, false, false, false, false, false, false, false, false, false, false, false, false, false, false, false, false, false, false, false, false, false, false, false, false, false, false, false, false, false, false, false, false, false, false, false, false, false, false, false, false, false, false, false, false, false, false, false, false, false, false, false, false, false, false, false, false, false, false, false, false, false, false, false, false, false, false, false, false, false, false, false, false, false, false, false, false, false, true, false, true, false, false, true, true, false, true, true, true, true, false, true, true, true, true, true, false, false, true, true, true, false, true, true, true, true, false, true, false, true, false, false, false, true, false, true, true, true, true, false, true, true, true, true, false, false, true, true, true, false, false, true, true, false, true, false, true, true, false, false, true, false, true, true, false, false, false, false, false, false, true, false, false, true, false, false, true, true, false, false, false, true, true, false, false, false, true, true, false, true, false, false, true, false, true, true, true, false, false, true, true, true, true, false, true, false, true, true, true, false, true, false, false, true, true, true, true, true, false, true, true, false, true]
theorem base_L : Pt.mul LN Pt.base = Pt.zero := by
  have h := base_mul Lbits LN 0 1 (by decide +kernel) (by decide +kernel)
  refine Pt.same (h.1.trans ?_) (h.2.trans ?_)
  · exact toF_zero
  · exact toF_one
theorem base_ne : Pt.base ≠ Pt.zero := by
  intro h
  have h2 : Pt.base.y = Pt.zero.y := by rw [h]
  have h3 : toF BY = toF 1 := h2.trans toF_one.symm
  have := toF_eq.1 h3
  revert this
  decide
theorem mul_LN (k : Nat) : Pt.mul (k * LN) Pt.base = Pt.zero := by rw [mul_mul, base_L, mul_zero]
theorem mul_modL (n : Nat) : Pt.mul (n % LN) Pt.base = Pt.mul n Pt.base := by
  conv => rhs; rw [← Nat.div_add_mod n LN, mul_add, Nat.mul_comm, mul_LN, zero_add]
theorem neg_add {p q : Pt} (h : p.add q = p) : q = Pt.zero := by
  have : p.neg.add (p.add q) = p.neg.add p := by rw [h]
  rw [← add_assoc, add_comm p.neg p, add_neg, zero_add] at this
  exact this
theorem base_order {n : Nat} (h : Pt.mul n Pt.base = Pt.zero) : n % LN = 0 := by
  have key : ∀ d m : Nat, Pt.mul d Pt.base = Pt.zero → Pt.mul m Pt.base = Pt.zero → Pt.mul (Nat.gcd d m) Pt.base = Pt.zero := by
    intro d
    induction d using Nat.strongRecOn with
    | _ d ih =>
      intro m hd hm
      by_cases h0 : d = 0
      · subst h0; rw [Nat.gcd_zero_left]; exact hm
      · rw [Nat.gcd_rec]
        refine ih (m % d) (Nat.mod_lt _ (by omega)) d ?_ hd
        have e := hm
        rw [← Nat.div_add_mod m d, mul_add, Nat.mul_comm d (m / d), mul_mul, hd, mul_zero, zero_add] at e
        exact e
  have hg := key LN n base_L h
  rcases LN_pri.2 _ (Nat.gcd_dvd_left LN n) with e | e
  · rw [e, mul_one] at hg
    exact absurd hg base_ne
  · exact Nat.mod_eq_zero_of_dvd (e ▸ Nat.gcd_dvd_right LN n)
theorem base_inj {m n : Nat} (hm : m < LN) (hn : n < LN) (h : Pt.mul m Pt.base = Pt.mul n Pt.base) : m = n := by
  have key : ∀ m n : Nat, m ≤ n → n < LN → Pt.mul m Pt.base = Pt.mul n Pt.base → m = n := by
    intro m n hle hn h
    rw [show n = m + (n - m) by omega, mul_add] at h
    have := base_order (neg_add h.symm)
    rw [Nat.mod_eq_of_lt (by omega)] at this
    omega
  rcases Nat.le_total m n with c | c
  · exact key m n c hn h
  · exact (key n m c hm h.symm).symm
end Go.Proofs.YtionjibiemncbabGreat
