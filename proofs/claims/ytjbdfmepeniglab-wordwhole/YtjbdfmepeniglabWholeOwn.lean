/- WordWhole returns true for every two words and every byte: quotient times divisor and what is left make the number, signed too, what is left is below the divisor, shifting is multiplying and dividing by a power of two, and a word comes back from its bytes; with no condition. -/
import Derived.Test.YtjbdfmepeniglabOpen
import Derived.Test.YtjbdfmepeniglabZW
namespace Go.Proofs.Ytjbdfmepeniglab
open Go.ChangeShapes Go.WideShapes Go.ChangeAt Go.RowKit
theorem to_limbs {f : FuncId} {args : Array Value} {w : World} {n : Int} {s0 s1 s2 s3 : Int} (hs : L4 s0 s1 s2 s3) (E : num s0 s1 s2 s3 = n)
    (h : Calls Try.prog f args w fun e w' => ∃ r0 r1 r2 r3, e = .returned (W4 r0 r1 r2 r3) ∧ L4 r0 r1 r2 r3 ∧ Hid (num r0 r1 r2 r3 = n) ∧ Below w.heap.size w w') :
    Calls Try.prog f args w fun e w' => e = .returned (W4 s0 s1 s2 s3) ∧ Below w.heap.size w w' := by
  refine h.mono ?_
  rintro e w' ⟨r0, r1, r2, r3, rfl, L, E', hw⟩
  obtain ⟨rfl, rfl, rfl, rfl⟩ := num_inj L hs (E'.out.trans E.symm)
  exact ⟨rfl, hw⟩
theorem quo_bd {x y : Int} (hx : 0 ≤ x ∧ x < T256) (hy : 0 ≤ y) : 0 ≤ quoN x y ∧ quoN x y < T256 := by
  have h1 := Int.ediv_le_self y hx.1
  have h2 := Int.ediv_nonneg hx.1 hy
  unfold quoN
  exact ⟨h2, by omega⟩
theorem rem_bd {x y : Int} (hy : 0 ≤ y ∧ y < T256) : 0 ≤ remN x y ∧ remN x y < T256 := by
  unfold remN
  split
  · exact ⟨by decide, by decide⟩
  · have h1 := Int.emod_lt_of_pos x (show 0 < y by omega)
    have h2 := Int.emod_nonneg x (show y ≠ 0 by omega)
    exact ⟨h2, by omega⟩
theorem minus_bd (x : Int) : 0 ≤ minusN x ∧ minusN x < T256 := ⟨Int.emod_nonneg _ (by decide), Int.emod_lt_of_pos _ (by decide)⟩
theorem size_bd {x : Int} (hx : 0 ≤ x ∧ x < T256) : 0 ≤ sizeN x ∧ sizeN x < T256 := by
  unfold sizeN
  split
  · exact minus_bd _
  · exact hx
theorem sdiv_bd {x y : Int} (hx : 0 ≤ x ∧ x < T256) (hy : 0 ≤ y ∧ y < T256) : 0 ≤ sdivN x y ∧ sdivN x y < T256 := by
  unfold sdivN
  split
  · exact minus_bd _
  · exact quo_bd (size_bd hx) (size_bd hy).1
theorem smod_bd {x y : Int} (hy : 0 ≤ y ∧ y < T256) : 0 ≤ smodN x y ∧ smodN x y < T256 := by
  unfold smodN
  split
  · exact minus_bd _
  · exact rem_bd (size_bd hy)
theorem mod_bd (x : Int) : 0 ≤ x % T256 ∧ x % T256 < T256 := ⟨Int.emod_nonneg _ (by decide), Int.emod_lt_of_pos _ (by decide)⟩
theorem quo0 (x : Int) : quoN x 0 = 0 := by unfold quoN; simp
theorem rem0 (x : Int) : remN x 0 = 0 := by unfold remN; simp
theorem size0 : sizeN 0 = 0 := by decide
theorem minus0 : minusN 0 = 0 := by decide
theorem sdiv0 (x : Int) : sdivN x 0 = 0 := by
  unfold sdivN; rw [size0, quo0, minus0]; simp
theorem smod0 (x : Int) : smodN x 0 = 0 := by
  unfold smodN; rw [size0, rem0, minus0]; simp
theorem whole_any (a0 a1 a2 a3 b0 b1 b2 b3 n : Int) (ha : L4 a0 a1 a2 a3) (hb : L4 b0 b1 b2 b3) (hn0 : 0 ≤ n) (hn1 : n < 256) (w : World) :
    Calls Try.prog 3 #[W4 a0 a1 a2 a3, W4 b0 b1 b2 b3, .int .u8 n] w fun e w' => e = .returned (.bool true) ∧ Below w.heap.size w w' := by
  have bA := num_bd ha
  have bB := num_bd hb
  obtain ⟨k, rfl⟩ := Int.eq_ofNat_of_zero_le hn0
  have hkl : k < 256 := by omega
  obtain ⟨q0, q1, q2, q3, Lq, eq⟩ := num_ex (quoN (num a0 a1 a2 a3) (num b0 b1 b2 b3)) (quo_bd bA bB.1).1 (quo_bd bA bB.1).2
  obtain ⟨r0, r1, r2, r3, Lr, er⟩ := num_ex (remN (num a0 a1 a2 a3) (num b0 b1 b2 b3)) (rem_bd bB).1 (rem_bd bB).2
  obtain ⟨t0, t1, t2, t3, Lt, et⟩ := num_ex ((num q0 q1 q2 q3 * num b0 b1 b2 b3) % T256) (mod_bd _).1 (mod_bd _).2
  obtain ⟨s0, s1, s2, s3, Ls, es⟩ := num_ex ((num t0 t1 t2 t3 + num r0 r1 r2 r3) % T256) (mod_bd _).1 (mod_bd _).2
  obtain ⟨m0, m1, m2, m3, Lm, em⟩ := num_ex (sdivN (num a0 a1 a2 a3) (num b0 b1 b2 b3)) (sdiv_bd bA bB).1 (sdiv_bd bA bB).2
  obtain ⟨d0, d1, d2, d3, Ld, ed⟩ := num_ex (smodN (num a0 a1 a2 a3) (num b0 b1 b2 b3)) (smod_bd bB).1 (smod_bd bB).2
  obtain ⟨u0, u1, u2, u3, Lu, eu⟩ := num_ex ((num m0 m1 m2 m3 * num b0 b1 b2 b3) % T256) (mod_bd _).1 (mod_bd _).2
  obtain ⟨v0, v1, v2, v3, Lv, ev⟩ := num_ex ((num u0 u1 u2 u3 + num d0 d1 d2 d3) % T256) (mod_bd _).1 (mod_bd _).2
  have Lk : L4 (k : Int) 0 0 0 := of_L4 ⟨hn0, by omega⟩
  have ek : num (k : Int) 0 0 0 = k := of_num _
  have L2 : L4 2 0 0 0 := of_L4 ⟨by decide, by decide⟩
  obtain ⟨p0, p1, p2, p3, Lp, ep⟩ := num_ex ((2 : Int) ^ k % T256) (mod_bd _).1 (mod_bd _).2
  obtain ⟨f0, f1, f2, f3, Lf, ef⟩ := num_ex ((num a0 a1 a2 a3 * num p0 p1 p2 p3) % T256) (mod_bd _).1 (mod_bd _).2
  have hp0 : 0 ≤ num p0 p1 p2 p3 := (num_bd Lp).1
  obtain ⟨g0, g1, g2, g3, Lg, eg⟩ := num_ex (quoN (num a0 a1 a2 a3) (num p0 p1 p2 p3)) (quo_bd bA hp0).1 (quo_bd bA hp0).2
  have ef' : num f0 f1 f2 f3 = shlN (num (k : Int) 0 0 0) (num a0 a1 a2 a3) := by rw [ef, ep, ek]; exact shl_two k hkl _
  have eg' : num g0 g1 g2 g3 = shrN (num (k : Int) 0 0 0) (num a0 a1 a2 a3) := by rw [eg, ep, ek]; exact shr_two k hkl _
  have ep' : num p0 p1 p2 p3 = (num 2 0 0 0 ^ (num (k : Int) 0 0 0).toNat) % T256 := by rw [ep, ek, of_num]; rfl
  obtain ⟨lb, hlb, HLb⟩ : ∃ l, l ≤ 32 ∧ lenN (num a0 a1 a2 a3) l := lenN_ex _ bA.1 32 (by
    have e : (256 : Int) ^ 32 = T256 := by decide
    omega)
  have hz : num s0 s1 s2 s3 = num v0 v1 v2 v3 := by
    rw [es, et, eq, er, ev, eu, em, ed]
    by_cases h : num b0 b1 b2 b3 = 0
    · rw [h, quo0, rem0, sdiv0, smod0]
    · rw [whole bA (by omega), swhole bA bB (by omega)]
  have hcase : (((num b0 b1 b2 b3 == 0) = false ∧ (num s0 s1 s2 s3 == num a0 a1 a2 a3) = true ∧ cmpN (num r0 r1 r2 r3) (num b0 b1 b2 b3) = -1) ∨ ((num b0 b1 b2 b3 == 0) = true ∧ cmpN (num r0 r1 r2 r3) (num b0 b1 b2 b3) = 0)) := by
    by_cases h : num b0 b1 b2 b3 = 0
    · right
      refine ⟨by simpa using h, ?_⟩
      rw [er, h, rem0]; decide
    · left
      refine ⟨by simpa using h, ?_, ?_⟩
      · rw [es, et, eq, er, whole bA (by omega)]; simp
      · have : remN (num a0 a1 a2 a3) (num b0 b1 b2 b3) < num b0 b1 b2 b3 := by unfold remN; rw [if_neg h]; exact Int.emod_lt_of_pos _ (by omega)
        rw [er]; unfold cmpN; rw [if_pos this]
  refine whole_walk a0 a1 a2 a3 b0 b1 b2 b3 q0 q1 q2 q3 r0 r1 r2 r3 t0 t1 t2 t3 s0 s1 s2 s3 m0 m1 m2 m3 d0 d1 d2 d3 u0 u1 u2 u3 v0 v1 v2 v3 p0 p1 p2 p3 f0 f1 f2 f3 g0 g1 g2 g3 k
    (cmpN (num r0 r1 r2 r3) (num b0 b1 b2 b3)) (num s0 s1 s2 s3 == num a0 a1 a2 a3) (num b0 b1 b2 b3 == 0) (digs (num a0 a1 a2 a3) lb) hn0 hn1
    (fun w => to_limbs Lq eq (div_any _ _ _ _ _ _ _ _ ha hb w)) (fun w => to_limbs Lt et (mul_any _ _ _ _ _ _ _ _ Lq hb w)) (fun w => to_limbs Lr er (mod_any _ _ _ _ _ _ _ _ ha hb w)) (fun w => to_limbs Ls es (add_any _ _ _ _ _ _ _ _ Lt Lr w))
    (fun w => to_limbs Lm em (sdiv_any _ _ _ _ _ _ _ _ ha hb w)) (fun w => to_limbs Lu eu (mul_any _ _ _ _ _ _ _ _ Lm hb w)) (fun w => to_limbs Ld ed (smod_any _ _ _ _ _ _ _ _ ha hb w)) (fun w => to_limbs Lv ev (add_any _ _ _ _ _ _ _ _ Lu Ld w))
    (fun w => to_limbs Lp ep' (exp_any _ _ _ _ _ _ _ _ L2 Lk w)) (fun w => to_limbs Lf ef' (shl_any _ _ _ _ _ _ _ _ Lk ha w)) (fun w => to_limbs Lf ef (mul_any _ _ _ _ _ _ _ _ ha Lp w)) (fun w => to_limbs Lg eg' (shr_any _ _ _ _ _ _ _ _ Lk ha w)) (fun w => to_limbs Lg eg (div_any _ _ _ _ _ _ _ _ ha Lp w))
    (fun w => zero_any _ _ _ _ hb w) (fun w => cmp_any _ _ _ _ _ _ _ _ Lr hb w) (fun w => ?_) (fun w x hx => ?_) (fun w => eq24_num Ls ha w) (fun w => by rw [hz]; exact eq24_num Lv ha w) hcase w
  · refine (short_any a0 a1 a2 a3 ha w).mono ?_
    rintro e w2 ⟨l', hl', HL', b, rfl, _, hrow, hw⟩
    have el : l' = lb := lenN_eq bA.1 HL'.out HLb
    subst el
    refine ⟨_, rfl, ⟨_, l', by rw [digs_len], by rw [digs_len]; exact Nat.le_refl _, fun j hj => ?_⟩, hw⟩
    rw [digs_len] at hj ⊢
    refine ⟨b, 0, rfl, World.rowIs.lt hrow, ?_⟩
    rw [Nat.zero_add, World.rowIs.cell hrow (by omega), digs_getD _ _ _ hj, show l' - 1 - (l' - 1 - j) = j from by omega]
  · refine (read_any w x _ hx (by rw [digs_len]; exact hlb) (digs_byt _ _)).mono ?_
    rintro e w2 ⟨x0, x1, x2, x3, rfl, Lx, Ex, hw⟩
    obtain ⟨rfl, rfl, rfl, rfl⟩ := num_inj Lx ha (Ex.out.trans (digs_val bA.1 HLb.1))
    exact ⟨rfl, hw⟩
set_option maxRecDepth 100000 in
theorem wordWhole_lifted (os : Os) (started : os.Started) (H : Type) (enc : TypeId × Value → H) :
    ReturnsInHanded {} Try.checked os 3 .any (Rows.wordWholeSpec.pre6 enc Try.prog Try.f3 Rows.wordWholeRow.domain false) (Rows.wordWholeSpec.post enc Try.prog Try.f3 false true false false) := by
  refine returnsInHanded_of_change (C := Try.checked) Try.own started (by kernel_rfl) Try.func3
    (ChangeSpec.witness6 (enc := enc) (C := Try.checked) false ⟨#[], #[W4 0 0 0 0, W4 0 0 0 0, .int .u8 0], []⟩ 8 (by kernel_rfl) (by kernel_rfl) (by kernel_rfl) (by kernel_rfl)) ?_
  intro W base args ds gs before hval0 hW hcnd _
  have hval : ∀ (j : Nat) t v, Try.f3.params[j]? = some t → args[j]? = some v → Value.okWide Try.prog W .any base t v := hval0
  have hW' := hW
  obtain ⟨p, q, hA0, hV, rfl, hfz, hnd⟩ := hW
  have hA : DataW.TrodAll enc Try.prog W 0 (fun _ => true) true Try.f3.params.toList args.toList ds p := hA0
  rw [Try.params3] at hA hval
  obtain ⟨v0, v1, v2, d0, d1, d2, p0, p1, p2, rfl, rfl, rfl, h0, h1, h2⟩ := trodAll_three hA
  obtain ⟨rfl, rfl⟩ := trodVars_none hV
  obtain ⟨a0, a1, a2, a3, rfl, rfl, rfl, wa⟩ := open24 (hval 0 24 v0 rfl rfl) h0
  obtain ⟨b0, b1, b2, b3, rfl, rfl, rfl, wb⟩ := open24 (hval 1 24 v1 rfl rfl) h1
  obtain ⟨n, rfl, rfl, rfl, wn⟩ := open_int Try.underlying5 (hval 2 5 v2 rfl rfl) h2
  clear hA0 hval0
  simp only [List.append_nil] at hW'
  have hn : 0 ≤ n ∧ n < 256 := by
    have := wn
    simp [Lit.wf, IntKind.min, IntKind.max, IntKind.signed, IntKind.bits] at this
    omega
  refine (whole_any a0 a1 a2 a3 b0 b1 b2 b3 n wa.L4 wb.L4 hn.1 hn.2 W).mono fun e W' ⟨he, bel⟩ => ?_
  subst he
  exact ⟨_, rfl, _, _, _, [], [], [], hW', trodAll_mk1 (shut_bool Try.underlying4 _), trodAll_mk3 (shut24 wa) (shut24 wb) (shut_int Try.underlying5 wn), rfl, bel.frame _, fun h => by cases h⟩
/-- The given statement. -/
theorem wordWhole_holds : Rows.WordWholeSaid :=
  OpenClaim.holds_of_wide 3 Try.f3 rfl rfl rfl rfl rfl rfl rfl ⟨rfl, rfl, rfl, rfl, rfl⟩ rfl rfl rfl rfl rfl (by kernel_rfl) Try.func3 (by kernel_rfl)
    (of_decide_eq_true (by kernel_rfl)) (by unfold Func.isWrapper; first | (rw [if_pos (by decide +kernel)]; kernel_rfl) | (rw [if_neg (by decide +kernel)]; exact ⟨rfl, rfl⟩))
    (fun os started H enc _ => wordWhole_lifted os started H enc)
#print axioms wordWhole_holds
end Go.Proofs.Ytjbdfmepeniglab
