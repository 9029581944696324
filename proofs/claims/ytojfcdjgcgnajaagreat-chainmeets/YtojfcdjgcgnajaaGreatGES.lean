/- FU, FY, EF, ES -/
import Derived.Test.YtojfcdjgcgnajaaGreatFT
import Derived.Test.YtojfcdjgcgnajaaGreatGEP
import Derived.Test.YtojfcdjgcgnajaaGreatGR4
namespace Go.Proofs.YtojfcdjgcgnajaaGreat
theorem cm_val : (2 : Int) ^ E4 % PP = 19681161376707505956807079304988542015446066515923890162744021073123829784752 := by
 have h := mp_eq PN 2 256 E4 (by decide +kernel); have k : mp PN 2 256 E4 = 19681161376707505956807079304988542015446066515923890162744021073123829784752 := by decide +kernel
 rw [k] at h; have e : ((2 ^ E4 % PN : Nat) : Int) = ((19681161376707505956807079304988542015446066515923890162744021073123829784752 : Nat) : Int) := by rw [← h]
 rw [Int.natCast_emod, Int.natCast_pow] at e; have hP : PP = (PN : Int) := by decide
 rw [hP]; exact e
end Go.Proofs.YtojfcdjgcgnajaaGreat
namespace Go.Proofs.YtojfcdjgcgnajaaGreat
open Go.RowKit
set_option linter.unusedSimpArgs false
set_option linter.unusedVariables false
theorem PP_nat : PP = (PN : Int) := by decide
theorem ipow_mod (a m : Int) (n : Nat) : (a % m) ^ n % m = a ^ n % m := by
 induction n with
 | zero => rw [Int.pow_zero, Int.pow_zero]
 | succ n ih => rw [Int.pow_succ, Int.pow_succ, Int.mul_emod, ih, Int.emod_emod, ← Int.mul_emod]
theorem imul_l (a b m : Int) : (a % m) * b % m = a * b % m := by
 rw [Int.mul_emod, Int.emod_emod, ← Int.mul_emod]
theorem imul_r (a b m : Int) : a * (b % m) % m = a * b % m := by
 rw [Int.mul_emod, Int.emod_emod, ← Int.mul_emod]
theorem fermatI (a : Int) (h : a % PP ≠ 0) : a ^ (E2 + 1) % PP = 1 := by
 have hb := mod_PP a; obtain ⟨k, hk⟩ := Int.eq_ofNat_of_zero_le hb.1; have hk2 : k % PN = k := Nat.mod_eq_of_lt (by have := hb.2; rw [PP_nat] at this; rw [hk] at hb; have := hb.2; rw [PP_nat] at this; omega); have f := PN_fermat k (by rw [hk2]; rintro rfl; exact h (by rw [hk]; rfl)); rw [← ipow_mod, hk, PP_nat]; have e : PN - 1 = E2 + 1 := by decide
 rw [e] at f; have : ((k ^ (E2 + 1) % PN : Nat) : Int) = ((1 : Nat) : Int) := by rw [f]
 rw [Int.natCast_emod, Int.natCast_pow] at this; exact this
theorem inv_one (a : Int) (h : a % PP ≠ 0) : a * (a ^ E2 % PP) % PP = 1 := by
 rw [imul_r, Int.mul_comm, ← Int.pow_succ]; exact fermatI a h
theorem priI (a b : Int) (h : a * b % PP = 0) : a % PP = 0 ∨ b % PP = 0 := by
 have ha := mod_PP a; have hb := mod_PP b; obtain ⟨x, hx⟩ := Int.eq_ofNat_of_zero_le ha.1; obtain ⟨y, hy⟩ := Int.eq_ofNat_of_zero_le hb.1; rw [Int.mul_emod, hx, hy, PP_nat] at h; have hd : PN ∣ x * y := by
  apply Nat.dvd_of_mod_eq_zero
  have : ((x * y % PN : Nat) : Int) = ((0 : Nat) : Int) := by
   rw [Int.natCast_emod, Int.natCast_mul]; exact h
  exact Int.ofNat.inj this
 rw [hx] at ha; rw [hy] at hb; rw [PP_nat] at ha hb; rcases PN_pri.dvd_mul hd with h1 | h1
 · left; rw [hx]
   have : x = 0 := Nat.eq_zero_of_dvd_of_lt h1 (by have := ha.2; omega); rw [this]; rfl
 · right; rw [hy]
   have : y = 0 := Nat.eq_zero_of_dvd_of_lt h1 (by have := hb.2; omega); rw [this]; rfl
theorem sq_one (y : Int) (h : y * y % PP = 1) : y % PP = 1 ∨ y % PP = PP - 1 := by
 have e : (y - 1) * (y + 1) % PP = 0 := by
  have : (y - 1) * (y + 1) = y * y - 1 := by grind
  rw [this, Int.sub_emod, h]; decide
 have hb := mod_PP y; rcases priI _ _ e with h1 | h1
 · left
   have : y = (y - 1) + 1 := by omega
   rw [this, Int.add_emod, h1]; decide
 · right
   have : y = (y + 1) + (-1) := by omega
   rw [this, Int.add_emod, h1]; decide
theorem mroot_sq : (2 : Int) ^ E4 % PP * ((2 : Int) ^ E4 % PP) % PP = PP - 1 := by rw [cm_val]; decide +kernel
theorem E8_E4 : E8 + E8 = E4 + 1 := by decide +kernel
theorem E4_E2 : E4 + E4 + (E4 + E4) = E2 + 1 := by decide +kernel
theorem ipow_add (a : Int) (m n : Nat) : a ^ (m + n) = a ^ m * a ^ n := Int.pow_add a m n
theorem rt1_sq (s : Int) : rt1 s * rt1 s % PP = s * s ^ E4 % PP := by
 unfold rt1; rw [ipow_mod, imul_l, imul_r, ← ipow_add, E8_E4, ipow_add]; rw [Int.mul_comm]; have : s ^ 1 = s := by rw [show (1 : Nat) = 0 + 1 from rfl, Int.pow_succ]; simp
 rw [this]
theorem imul_pow (a b : Int) (n : Nat) : (a * b) ^ n = a ^ n * b ^ n := by
 induction n with
 | zero => rw [Int.pow_zero, Int.pow_zero, Int.pow_zero, Int.mul_one]
 | succ n ih => rw [Int.pow_succ, Int.pow_succ, Int.pow_succ, ih]; grind
theorem sqrt_sq (a : Int) : sqrtB (a * a % PP) = true ∧ (rt1 (a * a % PP) * rt1 (a * a % PP) % PP = a * a % PP ∨ rt2 (a * a % PP) * rt2 (a * a % PP) % PP = a * a % PP) := by
 have key : rt1 (a * a % PP) * rt1 (a * a % PP) % PP = a * a % PP ∨ rt2 (a * a % PP) * rt2 (a * a % PP) % PP = a * a % PP := by
  by_cases h0 : a % PP = 0
  · left
    have : a * a % PP = 0 := by rw [Int.mul_emod, h0]; decide
    rw [this, rt1_sq, Int.zero_mul, Int.zero_emod]
  · have e1 := rt1_sq (a * a % PP)
    have hq : (a * a) ^ E4 % PP * ((a * a) ^ E4 % PP) % PP = 1 := by
     rw [imul_l, imul_r, imul_pow, ← ipow_add, ← ipow_add, E4_E2]; exact fermatI a h0
    have e2 : (a * a % PP) * (a * a % PP) ^ E4 % PP = a * a * ((a * a) ^ E4 % PP) % PP := by
     rw [imul_l, ← imul_r, ipow_mod]
    rw [e2] at e1; have hm := mod_PP ((a * a) ^ E4); generalize (a * a) ^ E4 % PP = y at e1 hq hm; have hy : y % PP = y := Int.emod_eq_of_lt hm.1 hm.2; rcases sq_one y hq with h1 | h1
    · left; rw [e1, show y = 1 by omega, Int.mul_one]
    · right
      unfold rt2; rw [imul_l, imul_r]; generalize rt1 (a * a % PP) = r at e1; have hr := mroot_sq; generalize (2 : Int) ^ E4 % PP = i at hr; have : r * i * (r * i) = (r * r) * (i * i) := by grind
      rw [this, ← imul_l, e1, ← imul_r, hr, imul_l, hy.symm.trans h1]; have : a * a * (PP - 1) * (PP - 1) = a * a + PP * (a * a * (PP - 2)) := by grind
      rw [this, Int.add_mul_emod_self_left]
 refine ⟨?_, key⟩; unfold sqrtB; rw [Int.emod_emod]; rcases key with h | h
 · rw [decide_eq_true h]; rfl
 · rw [decide_eq_true h, Bool.or_true]
theorem evenR_sq (r : Int) : evenR r * evenR r % PP = r * r % PP := by
 unfold evenR; split
 · have : (PP - r) * (PP - r) = r * r + PP * (PP - 2 * r) := by grind
   rw [this, Int.add_mul_emod_self_left]
 · rfl
theorem PP_odd : PP % 2 = 1 := by decide
theorem evenR_even2 (r : Int) : evenR r % 2 = 0 := by
 unfold evenR; have := PP_odd; split <;> omega
end Go.Proofs.YtojfcdjgcgnajaaGreat
namespace Go.Proofs.YtojfcdjgcgnajaaGreat
set_option linter.unusedVariables false
theorem PP_q : PP = ((PQ + 1 : Nat) : Int) := by decide
def toF (a : Int) : K := ⟨(a % PP).toNat, by have := mod_PP a; rw [PP_q] at this; rw [PP_q]; omega⟩
theorem toF_val (a : Int) : ((toF a).val : Int) = a % PP := by
 unfold toF; have := (mod_PP a).1; exact Int.toNat_of_nonneg this
theorem K_ext {x y : K} (h : (x.val : Int) = (y.val : Int)) : x = y := Fin.ext (by omega)
theorem toF_eq {a b : Int} : toF a = toF b ↔ a % PP = b % PP := by
 constructor
 · intro h; rw [← toF_val, ← toF_val, h]
 · intro h; exact K_ext (by rw [toF_val, toF_val, h])
theorem toF_mod (a : Int) : toF (a % PP) = toF a := toF_eq.2 (Int.emod_emod_of_dvd a (Int.dvd_refl PP))
theorem toF_add (a b : Int) : toF (a + b) = toF a + toF b := K_ext (by
 rw [toF_val, Fin.val_add, Int.natCast_emod, Int.natCast_add, toF_val, toF_val, ← PP_q, ← Int.add_emod])
theorem toF_mul (a b : Int) : toF (a * b) = toF a * toF b := K_ext (by
 rw [toF_val, Fin.val_mul, Int.natCast_emod, Int.natCast_mul, toF_val, toF_val, ← PP_q, ← Int.mul_emod])
theorem toF_zero : toF 0 = 0 := K_ext (by rw [toF_val]; decide)
theorem toF_one : toF 1 = 1 := K_ext (by rw [toF_val]; decide)
theorem toF_sub (a b : Int) : toF (a - b) = toF a - toF b := by
 have h : toF (a - b) + toF b = toF a := by rw [← toF_add, Int.sub_add_cancel]
 grind
theorem toF_neg (a : Int) : toF (-a) = -toF a := by
 have h := toF_sub 0 a; rw [toF_zero, Int.zero_sub] at h
 grind
theorem toF_nz {a : Int} : toF a = 0 ↔ a % PP = 0 := by
 rw [← toF_zero, toF_eq, Int.zero_emod]
theorem toF_of (x : K) : x = toF (x.val : Int) := K_ext (by
 rw [toF_val, Int.emod_eq_of_lt (by omega) (by have := x.isLt; rw [PP_q]; omega)])
def DD : Int := 37095705934669439343138083508754565189542113879843219016388785533085940283555
def HP : Nat := 28948022309329048855892746252171976963317496166410141009864396001978282409974
theorem hp_two : HP + HP = E2 + 1 := by decide +kernel
theorem d_half : DD ^ HP % PP = PP - 1 := by
 have h := mp_eq PN 37095705934669439343138083508754565189542113879843219016388785533085940283555 256 HP (by decide +kernel); have k : mp PN 37095705934669439343138083508754565189542113879843219016388785533085940283555 256 HP = PN - 1 := by decide +kernel
 rw [k] at h; have e : ((37095705934669439343138083508754565189542113879843219016388785533085940283555 ^ HP % PN : Nat) : Int) = ((PN - 1 : Nat) : Int) := by rw [h]
 rw [Int.natCast_emod, Int.natCast_pow] at e; rw [PP_nat]; exact e.trans (by decide)
theorem nsqI (a b : Int) (h : DD * (a * a) % PP = b * b % PP) : a % PP = 0 := by
 apply Classical.byContradiction
 intro ha; have hb : b % PP ≠ 0 := fun hb => by
  rw [Int.mul_emod b b, hb] at h; rcases priI DD (a * a) (h.trans (by decide)) with c | c
  · revert c; decide
  · rcases priI a a c with c | c <;> exact ha c
 have fa := fermatI a ha; have fb := fermatI b hb; have e : (DD * (a * a)) ^ HP % PP = (b * b) ^ HP % PP := by rw [← ipow_mod, h, ipow_mod]
 rw [imul_pow, imul_pow, imul_pow, ← ipow_add, ← ipow_add, hp_two, Int.mul_emod, fa, fb, d_half] at e
 revert e
 decide
theorem edw : Edw (toF DD) where
 nzd a b h := by
  rw [toF_of a, toF_of b, ← toF_mul, toF_nz] at h; rcases priI _ _ h with c | c
  · left; rw [toF_of a]; exact toF_nz.2 c
  · right; rw [toF_of b]; exact toF_nz.2 c
 one := by rw [← toF_one]; intro h; have := toF_nz.1 h; revert this; decide
 two := by
  have e : (2 : K) = toF 2 := K_ext (by rw [toF_val]; decide); rw [e]; intro h; have := toF_nz.1 h; revert this; decide
 nsq a b h := by
  rw [toF_of a, toF_of b, ← toF_mul, ← toF_mul, ← toF_mul, toF_eq] at h; rw [toF_of a]; exact toF_nz.2 (nsqI _ _ h)
 root := ⟨toF (2 ^ E4 % PP), by
  rw [← toF_mul, ← toF_one, ← toF_neg, toF_eq, mroot_sq]; decide⟩
end Go.Proofs.YtojfcdjgcgnajaaGreat
namespace Go.Proofs.YtojfcdjgcgnajaaGreat
open Go.RowKit
set_option linter.unusedSimpArgs false
set_option linter.unusedVariables false
def catW : List Value → Array Value
 | [] => #[]
 | v :: l => cw v ++ catW l
def Words (vs : List Value) : Prop := ∀ v ∈ vs, ∃ x, IsW v x
theorem Words.tail {v : Value} {l : List Value} (h : Words (v :: l)) : Words l := fun u hu => h u (by simp [hu])
theorem catW_size : ∀ {vs : List Value}, Words vs → (catW vs).size = 4 * vs.length
 | [], _ => rfl
 | v :: l, h => by
   obtain ⟨x, hx⟩ := h v (by simp); unfold catW; rw [Array.size_append, hx.agg.2.1, catW_size h.tail, List.length_cons]; omega
theorem catW_one : ∀ {vs : List Value}, Words vs → (catW vs).all (·.oneCell') = true
 | [], _ => by simp [catW]
 | v :: l, h => by
   obtain ⟨x, hx⟩ := h v (by simp); unfold catW; rw [Array.all_append, hx.agg.2.2, catW_one h.tail]; rfl
theorem catW_get : ∀ {vs : List Value} (k j : Nat) (v : Value), Words vs → vs[k]? = some v → j < 4 → (catW vs)[4 * k + j]? = (cw v)[j]?
 | [], k, j, v, _, h, _ => by simp at h
 | u :: l, 0, j, v, hw, h, hj => by
   obtain ⟨x, hx⟩ := hw u (by simp); simp at h; subst h; unfold catW; rw [Nat.mul_zero, Nat.zero_add, Array.getElem?_append_left (by rw [hx.agg.2.1]; exact hj)]
 | u :: l, k + 1, j, v, hw, h, hj => by
   obtain ⟨x, hx⟩ := hw u (by simp); simp at h; unfold catW; rw [Array.getElem?_append_right (by rw [hx.agg.2.1]; omega), hx.agg.2.1, show 4 * (k + 1) + j - 4 = 4 * k + j by omega]; exact catW_get k j v hw.tail h hj
def VarS (w : World) (z : Nat) (ty : TypeId) (vs : List Value) : Prop := Words vs ∧ w.heap[z]? = some (.cells (catW vs) ty (0, 0))
theorem VarS.lt {w : World} {z : Nat} {ty : TypeId} {vs : List Value} (h : VarS w z ty vs) : z < w.heap.size := flt_of_some h.2
theorem VarS.kept {w w' : World} {z : Nat} {ty : TypeId} {vs : List Value} (h : VarS w z ty vs) (hb : Below w.heap.size w w') : VarS w' z ty vs := ⟨h.1, Go.Proofs.YtojfcdjgcgnajaaGreat.kept h.2 hb⟩
theorem VarS.drew {w : World} {z : Nat} {ty : TypeId} {vs : List Value} (h : VarS w z ty vs) : VarS w.drew z ty vs := h
theorem VarS.old {w : World} {z : Nat} {ty : TypeId} {vs : List Value} (h : VarS w z ty vs) (o : Obj) : VarS (w.alloc o) z ty vs := ⟨h.1, heap_old _ _ _ _ h.2⟩
theorem VarS.other {w : World} {z y : Nat} {ty : TypeId} {vs : List Value} (h : VarS w z ty vs) (hn : z ≠ y) (c : Array Value) : VarS (w.setRow y c) z ty vs := ⟨h.1, (setRow_other _ _ _ _ hn).trans h.2⟩
theorem VarS.put {w : World} {z : Nat} {ty : TypeId} {vs us : List Value} (h : VarS w z ty vs) (hu : Words us) : VarS (w.setRow z (catW us)) z ty us := ⟨hu, setRow_heap _ _ _ _ _ _ h.2⟩
theorem VarS.part {w : World} {z : Nat} {ty : TypeId} {vs : List Value} (h : VarS w z ty vs) (k : Nat) {v : Value} (hk : vs[k]? = some v) : (loadVar 51 ⟨z, 4 * k, none⟩).run Tryz.prog w = .ok v w := by
 obtain ⟨x, hx⟩ := h.1 v (List.mem_of_getElem? hk); have hl : (loadCells ⟨z, 4 * k, none⟩ (cw v).toList.length).run Tryz.prog w = .ok (cw v).toList.toArray w :=
  run_loadCells_list (P := Tryz.prog) w ⟨z, 4 * k, none⟩ (cw v).toList (fun j u hu => by
   have hadd : (⟨z, 4 * k, none⟩ : Addr).add j = ⟨z, 4 * k + j, none⟩ := by unfold Addr.add; split <;> simp_all
   have hj : j < 4 := by
    have := (List.getElem?_eq_some_iff.1 hu).1; rw [Array.length_toList, hx.agg.2.1] at this; exact this
   rw [hadd, cell_of_row w z (4 * k + j) (catW vs) ty (0, 0) h.2, catW_get k j v h.1 hk hj]
   simpa using hu)
 have hi : (Tryz.prog.info? 51).map (·.size) = some 4 := by kernel_rfl
 cases hq : Tryz.prog.info? 51 with
 | none => simp [hq] at hi
 | some i =>
   have hs : i.size = 4 := by simpa [hq] using hi
   have hagg : (isAgg 51).run Tryz.prog w = .ok true w := by
    unfold isAgg; rw [Sem.run_bind, run_underlying Tryz.underlying51 w]; simp
   simp only [Array.length_toList, Array.toArray_toList, hx.agg.2.1] at hl; have e := hx.agg.1; simp [loadVar, Sem.run_bind, hagg, sizeOf, typeInfo, hq, hs, hl]; exact e.symm
theorem VarS.store {w : World} {z : Nat} {ty : TypeId} {vs us : List Value} (h : VarS w z ty vs) (hu : Words us) (hl : vs.length = us.length) (hi : (Tryz.prog.info? ty).map (·.size) = some (4 * us.length)) : (storeVar ty ⟨z, 0, none⟩ (.agg (catW us))).run Tryz.prog w = .ok () (w.setRow z (catW us)) :=
 run_storeVar_row w z ty ty _ (catW us) h.2 (by rw [catW_size hu]; exact hi) (by rw [catW_size h.1, catW_size hu, hl]) (catW_one hu)
theorem wpList_load_run {ops : Array Oper} {rest : List Oper} {o : Oper} {a : Act} {w : World} {Q : Exit → Act → World → Prop} (hgd : o.guard = none) (ty : TypeId) (x : Operand) (ho : o.op = .load ty x)
 (g : Addr) (hx : a.eval x = .pointer (some g)) {v : Value} (hrun : (loadVar ty g).run Tryz.prog w = .ok v w) (h : wpList Tryz.prog ops Q rest (a.put o.dst v) w) : wpList Tryz.prog ops Q (o :: rest) a w :=
 wpList_plain hgd fun K hK => by
  unfold Oper.wp; rw [run_load_exec ty x ho g hx hrun]; exact hK _ _ h
theorem wpList_store_run {ops : Array Oper} {rest : List Oper} {o : Oper} {a : Act} {w : World} {Q : Exit → Act → World → Prop} (hgd : o.guard = none) (ty : TypeId) (x y : Operand) (ho : o.op = .store ty x y)
 (g : Nat) (c : Array Value) (hx : a.eval x = .pointer (some ⟨g, 0, none⟩)) (hy : a.eval y = .agg c) (hrun : (storeVar ty ⟨g, 0, none⟩ (.agg c)).run Tryz.prog w = .ok () (w.setRow g c))
 (h : wpList Tryz.prog ops Q rest (a.put o.dst undef) (w.setRow g c)) : wpList Tryz.prog ops Q (o :: rest) a w :=
 wpList_plain hgd fun K hK => by
  unfold Oper.wp execOp; simp only [ho, hx, hy, Instr.storeAt, Instr.sureAddr, Sem.run_bind, Sem.run_pure, Result.andThen_ok, hrun]; exact hK _ _ h
theorem step_load_run {ops : Array Oper} {o : Oper} {a : Act} {w : World} {K : Act → World → Prop} {Q : Exit → Act → World → Prop} {E : Prop} (hw : Region.wanted o (yielded ops a.tmps) = true) (ty : TypeId) (x : Operand) (ho : o.op = .load ty x)
 (g : Addr) (hx : a.eval x = .pointer (some g)) {v : Value} (hrun : (loadVar ty g).run Tryz.prog w = .ok v w) (h : K (a.put o.dst v) w) : if Region.wanted o (yielded ops a.tmps) = true then Oper.wp Tryz.prog o a w K Q else E := by
 rw [if_pos hw]; unfold Oper.wp; rw [run_load_exec ty x ho g hx hrun]; exact h
theorem words1 {v1 : Value} {x1 : Int} (h1 : IsW v1 x1) : Words [v1] := fun v hv => by
 simp at hv; subst hv; exact ⟨_, h1⟩
theorem words2 {v1 v2 : Value} {x1 x2 : Int} (h1 : IsW v1 x1) (h2 : IsW v2 x2) : Words [v1, v2] := fun v hv => by
 simp at hv; rcases hv with rfl | rfl
 · exact ⟨_, h1⟩
 · exact ⟨_, h2⟩
theorem words3 {v1 v2 v3 : Value} {x1 x2 x3 : Int} (h1 : IsW v1 x1) (h2 : IsW v2 x2) (h3 : IsW v3 x3) : Words [v1, v2, v3] := fun v hv => by
 simp at hv; rcases hv with rfl | rfl | rfl
 · exact ⟨_, h1⟩
 · exact ⟨_, h2⟩
 · exact ⟨_, h3⟩
theorem words4 {v1 v2 v3 v4 : Value} {x1 x2 x3 x4 : Int} (h1 : IsW v1 x1) (h2 : IsW v2 x2) (h3 : IsW v3 x3) (h4 : IsW v4 x4) : Words [v1, v2, v3, v4] := fun v hv => by
 simp at hv; rcases hv with rfl | rfl | rfl | rfl
 · exact ⟨_, h1⟩
 · exact ⟨_, h2⟩
 · exact ⟨_, h3⟩
 · exact ⟨_, h4⟩
def IsF (v : Value) (a : K) : Prop := IsW v (a.val : Int)
def GivesF (f : Nat) (args : Array Value) (a : K) : Prop := ∀ w : World, Calls Tryz.prog f args w fun e w' => ∃ v, e = .returned v ∧ IsF v a ∧ Below w.heap.size w w'
theorem isF_of {v : Value} {x : Int} (h : IsW v (x % PP)) : IsF v (toF x) := by unfold IsF; rw [toF_val]; exact h
theorem val_toF (a : K) : toF (a.val : Int) = a := (toF_of a).symm
end Go.Proofs.YtojfcdjgcgnajaaGreat
