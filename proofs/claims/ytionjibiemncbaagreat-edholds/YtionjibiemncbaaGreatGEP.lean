/- EM, EP -/
import Derived.Test.YtionjibiemncbaaGreatFX
namespace Go.Proofs.YtionjibiemncbaaGreat
section
def PQ : Nat := 57896044618658097711785492504343953926634992332820282019728792003956564819948
abbrev K : Type := Fin (PQ + 1)
def OnC (d x y : K) : Prop := y * y - x * x = 1 + d * (x * x) * (y * y)
def dp (d x1 y1 x2 y2 : K) : K := 1 + d * x1 * x2 * y1 * y2
def dm (d x1 y1 x2 y2 : K) : K := 1 - d * x1 * x2 * y1 * y2
def nx (x1 y1 x2 y2 : K) : K := x1 * y2 + x2 * y1
def ny (x1 y1 x2 y2 : K) : K := y1 * y2 + x1 * x2
def IsSum (d x1 y1 x2 y2 x3 y3 : K) : Prop := x3 * dp d x1 y1 x2 y2 = nx x1 y1 x2 y2 ∧ y3 * dm d x1 y1 x2 y2 = ny x1 y1 x2 y2
structure Edw (d : K) : Prop where
  nzd : ∀ a b : K, a * b = 0 → a = 0 ∨ b = 0
  one : (1 : K) ≠ 0
  two : (2 : K) ≠ 0
  nsq : ∀ a b : K, d * (a * a) = b * b → a = 0
  root : ∃ i : K, i * i = -1
theorem Edw.cancel {d : K} (E : Edw d) {a b c : K} (hc : c ≠ 0) (h : a * c = b * c) : a = b := by
  rcases E.nzd (a - b) c (by grind) with h1 | h1
  · grind
  · exact absurd h1 hc
theorem eps_ne {d : K} (E : Edw d) {x1 y1 x2 y2 : K} (h1 : OnC d x1 y1) (h2 : OnC d x2 y2) (hs : (d * x1 * x2 * y1 * y2) * (d * x1 * x2 * y1 * y2) = 1) : False := by
  obtain ⟨i, hi⟩ := E.root
  unfold OnC at h1 h2
  -- none of the four is 0
  have hxy : x1 * y1 ≠ 0 := fun h => E.one (by grind)
  have key : ∀ s : K, s * s = 1 → d * ((x1 * y1 * (i * x2 + s * y2)) * (x1 * y1 * (i * x2 + s * y2))) = (i * x1 + s * (d * x1 * x2 * y1 * y2) * y1) * (i * x1 + s * (d * x1 * x2 * y1 * y2) * y1) := by
    intro s hss
    grind
  have k1 := E.nsq _ _ (key 1 (by grind))
  have k2 := E.nsq _ _ (key (-1) (by grind))
  rcases E.nzd _ _ k1 with a | a
  · exact hxy a
  · rcases E.nzd _ _ k2 with b | b
    · exact hxy b
    · -- i x2 + y2 = 0 and i x2 - y2 = 0
      have hy : y2 = 0 := by
        rcases E.nzd 2 y2 (by grind) with c | c
        · exact absurd c E.two
        · exact c
      exact E.one (by grind)
theorem dp_ne {d : K} (E : Edw d) {x1 y1 x2 y2 : K} (h1 : OnC d x1 y1) (h2 : OnC d x2 y2) : dp d x1 y1 x2 y2 ≠ 0 := fun h => eps_ne E h1 h2 (by unfold dp at h; grind)
theorem dm_ne {d : K} (E : Edw d) {x1 y1 x2 y2 : K} (h1 : OnC d x1 y1) (h2 : OnC d x2 y2) : dm d x1 y1 x2 y2 ≠ 0 := fun h => eps_ne E h1 h2 (by unfold dm at h; grind)
theorem clos_poly {d x1 y1 x2 y2 : K} (e1 : OnC d x1 y1) (e2 : OnC d x2 y2) :
    ny x1 y1 x2 y2 * ny x1 y1 x2 y2 * (dp d x1 y1 x2 y2 * dp d x1 y1 x2 y2) - nx x1 y1 x2 y2 * nx x1 y1 x2 y2 * (dm d x1 y1 x2 y2 * dm d x1 y1 x2 y2) = dp d x1 y1 x2 y2 * dp d x1 y1 x2 y2 * (dm d x1 y1 x2 y2 * dm d x1 y1 x2 y2) + d * (nx x1 y1 x2 y2 * nx x1 y1 x2 y2) * (ny x1 y1 x2 y2 * ny x1 y1 x2 y2) := by
  unfold OnC at e1 e2
  unfold ny nx dp dm
  grind
theorem sum_on {d : K} (E : Edw d) {x1 y1 x2 y2 x3 y3 : K} (h1 : OnC d x1 y1) (h2 : OnC d x2 y2) (h : IsSum d x1 y1 x2 y2 x3 y3) : OnC d x3 y3 := by
  have hp := dp_ne E h1 h2
  have hm := dm_ne E h1 h2
  have c := clos_poly h1 h2
  obtain ⟨hx, hy⟩ := h
  rw [← hx, ← hy] at c
  generalize dp d x1 y1 x2 y2 = p at *
  generalize dm d x1 y1 x2 y2 = m at *
  unfold OnC
  have hpm : (p * m) * (p * m) ≠ 0 := fun h0 => by
    rcases E.nzd _ _ h0 with a | a <;> rcases E.nzd _ _ a with b | b
    · exact hp b
    · exact hm b
    · exact hp b
    · exact hm b
  exact E.cancel hpm (by grind)
theorem sum_unique {d : K} (E : Edw d) {x1 y1 x2 y2 x3 y3 x4 y4 : K} (h1 : OnC d x1 y1) (h2 : OnC d x2 y2) (h : IsSum d x1 y1 x2 y2 x3 y3) (k : IsSum d x1 y1 x2 y2 x4 y4) : x3 = x4 ∧ y3 = y4 :=
  ⟨E.cancel (dp_ne E h1 h2) (h.1.trans k.1.symm), E.cancel (dm_ne E h1 h2) (h.2.trans k.2.symm)⟩
theorem sum_comm {d x1 y1 x2 y2 x3 y3 : K} (h : IsSum d x1 y1 x2 y2 x3 y3) : IsSum d x2 y2 x1 y1 x3 y3 := by
  unfold IsSum dp dm nx ny at *
  exact ⟨by grind, by grind⟩
theorem sum_none {d x y : K} : IsSum d x y 0 1 x y := by
  unfold IsSum dp dm nx ny
  exact ⟨by grind, by grind⟩
theorem sum_away {d x y : K} (h : OnC d x y) : IsSum d x y (-x) y 0 1 := by
  unfold IsSum dp dm nx ny OnC at *
  exact ⟨by grind, by grind⟩
theorem on_none {d : K} : OnC d (0 : K) 1 := by unfold OnC; grind
theorem on_neg {d x y : K} (h : OnC d x y) : OnC d (-x) y := by unfold OnC at *; grind
theorem assoc_x {d x1 y1 x2 y2 x3 y3 : K} (e1 : OnC d x1 y1) (e2 : OnC d x2 y2) (e3 : OnC d x3 y3) :
    (nx x1 y1 x2 y2 * dm d x1 y1 x2 y2 * y3 + x3 * ny x1 y1 x2 y2 * dp d x1 y1 x2 y2) * (dp d x2 y2 x3 y3 * dm d x2 y2 x3 y3 + d * x1 * y1 * nx x2 y2 x3 y3 * ny x2 y2 x3 y3)
    = (x1 * ny x2 y2 x3 y3 * dp d x2 y2 x3 y3 + y1 * nx x2 y2 x3 y3 * dm d x2 y2 x3 y3) * (dp d x1 y1 x2 y2 * dm d x1 y1 x2 y2 + d * x3 * y3 * nx x1 y1 x2 y2 * ny x1 y1 x2 y2) := by
  unfold OnC at e1 e2 e3
  unfold ny nx dp dm
  grind
theorem assoc_y {d x1 y1 x2 y2 x3 y3 : K} (e1 : OnC d x1 y1) (e2 : OnC d x2 y2) (e3 : OnC d x3 y3) :
    (ny x1 y1 x2 y2 * dp d x1 y1 x2 y2 * y3 + x3 * nx x1 y1 x2 y2 * dm d x1 y1 x2 y2) * (dp d x2 y2 x3 y3 * dm d x2 y2 x3 y3 - d * x1 * y1 * nx x2 y2 x3 y3 * ny x2 y2 x3 y3)
    = (y1 * ny x2 y2 x3 y3 * dp d x2 y2 x3 y3 + x1 * nx x2 y2 x3 y3 * dm d x2 y2 x3 y3) * (dp d x1 y1 x2 y2 * dm d x1 y1 x2 y2 - d * x3 * y3 * nx x1 y1 x2 y2 * ny x1 y1 x2 y2) := by
  unfold OnC at e1 e2 e3
  unfold ny nx dp dm
  grind
theorem sum_assoc {d : K} (E : Edw d) {x1 y1 x2 y2 x3 y3 a b u v r s r' s' : K} (e1 : OnC d x1 y1) (e2 : OnC d x2 y2) (e3 : OnC d x3 y3)
    (h12 : IsSum d x1 y1 x2 y2 a b) (h23 : IsSum d x2 y2 x3 y3 u v) (hl : IsSum d a b x3 y3 r s) (hr : IsSum d x1 y1 u v r' s') : r = r' ∧ s = s' := by
  have eab := sum_on E e1 e2 h12
  have euv := sum_on E e2 e3 h23
  have np := dp_ne E e1 e2
  have nm := dm_ne E e1 e2
  have mp := dp_ne E e2 e3
  have mm := dm_ne E e2 e3
  have lp := dp_ne E eab e3
  have lm := dm_ne E eab e3
  have rp := dp_ne E e1 euv
  have rm := dm_ne E e1 euv
  have ax := assoc_x e1 e2 e3
  have ay := assoc_y e1 e2 e3
  obtain ⟨hx, hy⟩ := h12
  obtain ⟨hu, hv⟩ := h23
  obtain ⟨hr1, hs1⟩ := hl
  obtain ⟨hr2, hs2⟩ := hr
  rw [← hx, ← hy, ← hu, ← hv] at ax ay
  have hM : (dp d x1 y1 x2 y2 * dm d x1 y1 x2 y2) * (dp d x2 y2 x3 y3 * dm d x2 y2 x3 y3) ≠ 0 := fun h0 => by
    rcases E.nzd _ _ h0 with c | c <;> rcases E.nzd _ _ c with f | f
    · exact np f
    · exact nm f
    · exact mp f
    · exact mm f
  generalize dp d x1 y1 x2 y2 = p at *
  generalize dm d x1 y1 x2 y2 = m at *
  generalize dp d x2 y2 x3 y3 = q at *
  generalize dm d x2 y2 x3 y3 = n at *
  have kx : nx a b x3 y3 * dp d x1 y1 u v = nx x1 y1 u v * dp d a b x3 y3 := by
    refine E.cancel hM ?_
    unfold nx dp
    have e1 : (a * y3 + x3 * b) * (1 + d * x1 * u * y1 * v) * (p * m * (q * n)) = (a * p * m * y3 + x3 * (b * m) * p) * (q * n + d * x1 * y1 * (u * q) * (v * n)) := by grind
    have e2 : (x1 * v + u * y1) * (1 + d * a * x3 * b * y3) * (p * m * (q * n)) = (x1 * (v * n) * q + y1 * (u * q) * n) * (p * m + d * x3 * y3 * (a * p) * (b * m)) := by grind
    rw [e1, e2]; exact ax
  have ky : ny a b x3 y3 * dm d x1 y1 u v = ny x1 y1 u v * dm d a b x3 y3 := by
    refine E.cancel hM ?_
    unfold ny dm
    have e1 : (b * y3 + a * x3) * (1 - d * x1 * u * y1 * v) * (p * m * (q * n)) = (b * m * p * y3 + x3 * (a * p) * m) * (q * n - d * x1 * y1 * (u * q) * (v * n)) := by grind
    have e2 : (y1 * v + x1 * u) * (1 - d * a * x3 * b * y3) * (p * m * (q * n)) = (y1 * (v * n) * q + x1 * (u * q) * n) * (p * m - d * x3 * y3 * (a * p) * (b * m)) := by grind
    rw [e1, e2]; exact ay
  rw [← hr1, ← hr2] at kx
  rw [← hs1, ← hs2] at ky
  constructor
  · exact E.cancel lp (E.cancel rp (by rw [kx]; grind))
  · exact E.cancel lm (E.cancel rm (by rw [ky]; grind))
end
end Go.Proofs.YtionjibiemncbaaGreat
namespace Go.Proofs.YtionjibiemncbaaGreat
section
def Rep (X Y Z T x y : K) : Prop := Z ≠ 0 ∧ X = x * Z ∧ Y = y * Z ∧ T = x * y * Z
theorem rep_one {d : K} (E : Edw d) (x y : K) : Rep x y 1 (x * y) x y := ⟨E.one, by grind, by grind, by grind⟩
theorem Edw.mul_ne {d : K} (E : Edw d) {a b : K} (ha : a ≠ 0) (hb : b ≠ 0) : a * b ≠ 0 := fun h => by
  rcases E.nzd _ _ h with c | c
  · exact ha c
  · exact hb c
theorem rep_plus {d : K} (E : Edw d) {X Y Z T x1 y1 x2 y2 x3 y3 : K} (e1 : OnC d x1 y1) (e2 : OnC d x2 y2) (h : Rep X Y Z T x1 y1) (hs : IsSum d x1 y1 x2 y2 x3 y3) :
    Rep (((Y + X) * (y2 + x2) - (Y - X) * (y2 - x2)) * ((Z + Z) - T * ((d + d) * (x2 * y2)))) (((Y + X) * (y2 + x2) + (Y - X) * (y2 - x2)) * ((Z + Z) + T * ((d + d) * (x2 * y2)))) (((Z + Z) + T * ((d + d) * (x2 * y2))) * ((Z + Z) - T * ((d + d) * (x2 * y2)))) (((Y + X) * (y2 + x2) - (Y - X) * (y2 - x2)) * ((Y + X) * (y2 + x2) + (Y - X) * (y2 - x2))) x3 y3 := by
  obtain ⟨hz, rfl, rfl, rfl⟩ := h
  have hp := dp_ne E e1 e2
  have hm := dm_ne E e1 e2
  obtain ⟨hx, hy⟩ := hs
  unfold nx at hx
  unfold ny at hy
  have a1 : (Z + Z) + x1 * y1 * Z * ((d + d) * (x2 * y2)) = 2 * Z * dp d x1 y1 x2 y2 := by unfold dp; grind
  have a2 : (Z + Z) - x1 * y1 * Z * ((d + d) * (x2 * y2)) = 2 * Z * dm d x1 y1 x2 y2 := by unfold dm; grind
  have a3 : (y1 * Z + x1 * Z) * (y2 + x2) - (y1 * Z - x1 * Z) * (y2 - x2) = 2 * Z * (x3 * dp d x1 y1 x2 y2) := by rw [hx]; grind
  have a4 : (y1 * Z + x1 * Z) * (y2 + x2) + (y1 * Z - x1 * Z) * (y2 - x2) = 2 * Z * (y3 * dm d x1 y1 x2 y2) := by rw [hy]; grind
  rw [a1, a2, a3, a4]
  refine ⟨E.mul_ne (E.mul_ne (E.mul_ne E.two hz) hp) (E.mul_ne (E.mul_ne E.two hz) hm), ?_, ?_, ?_⟩ <;> grind
theorem rep_twice {d : K} (E : Edw d) {X Y Z T x1 y1 x3 y3 : K} (e1 : OnC d x1 y1) (h : Rep X Y Z T x1 y1) (hs : IsSum d x1 y1 x1 y1 x3 y3) :
    Rep (((X + Y) * (X + Y) - (Y * Y + X * X)) * ((Z * Z + Z * Z) - (Y * Y - X * X))) ((Y * Y + X * X) * (Y * Y - X * X)) ((Y * Y - X * X) * ((Z * Z + Z * Z) - (Y * Y - X * X))) (((X + Y) * (X + Y) - (Y * Y + X * X)) * (Y * Y + X * X)) x3 y3 := by
  obtain ⟨hz, rfl, rfl, rfl⟩ := h
  have hp := dp_ne E e1 e1
  have hm := dm_ne E e1 e1
  obtain ⟨hx, hy⟩ := hs
  unfold nx at hx
  unfold ny at hy
  unfold OnC at e1
  have a1 : y1 * Z * (y1 * Z) - x1 * Z * (x1 * Z) = Z * Z * dp d x1 y1 x1 y1 := by unfold dp; grind
  have a2 : (Z * Z + Z * Z) - Z * Z * dp d x1 y1 x1 y1 = Z * Z * dm d x1 y1 x1 y1 := by unfold dp dm; grind
  have a3 : (x1 * Z + y1 * Z) * (x1 * Z + y1 * Z) - (y1 * Z * (y1 * Z) + x1 * Z * (x1 * Z)) = Z * Z * (x3 * dp d x1 y1 x1 y1) := by rw [hx]; grind
  have a4 : y1 * Z * (y1 * Z) + x1 * Z * (x1 * Z) = Z * Z * (y3 * dm d x1 y1 x1 y1) := by rw [hy]; grind
  rw [a3, a4, a1, a2]
  have hzz := E.mul_ne hz hz
  refine ⟨E.mul_ne (E.mul_ne hzz hp) (E.mul_ne hzz hm), ?_, ?_, ?_⟩ <;> grind
end
end Go.Proofs.YtionjibiemncbaaGreat
